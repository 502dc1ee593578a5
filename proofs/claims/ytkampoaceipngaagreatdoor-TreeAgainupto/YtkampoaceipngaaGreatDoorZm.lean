/- The document's reader: a kid of the root. -/
import Derived.Test.YtkampoaceipngaaGreatDoorZk
namespace Go.Proofs.YtkampoaceipngaaGreatDoor
open Go.RowKit
open M
set_option maxRecDepth 100000 in
set_option maxHeartbeats 1000000 in
theorem rstarts_any (rb : Nat) (s : ByteArray) (L : List Tk) (tv : Value) (a dp : Nat) (w : World) (hS : TokS s L) (h : RdM w rb s L tv a dp) :
    Calls Tryz.prog 48 #[.pointer (some ⟨rb, 0, none⟩)] w fun e w' => e = .returned (.bool (X.starts (remT s L a))) ∧ Below w.heap.size w w' := by
  have HR0 : Hid (RdB w rb s L tv a dp w) := ⟨h, Below.refl _ _⟩
  have HE : Hid (X.starts (remT s L a) = (X.isN [117, 115, 101] (remT s L a) || X.isN [112, 117, 98] (remT s L a) || X.isN [100, 101, 102] (remT s L a))) := (rfl : _ = _)
  clear h
  go_enter Tryz.func48, Tryz.ntmps48
  go_wp2_with fail
  refine ((HR0.out).is hS [117, 115, 101]).mono ?_
  rintro e w1 ⟨rfl, HR1⟩
  go_wp2_with fail
  refine ((HR1.out).is hS [112, 117, 98]).mono ?_
  rintro e w2 ⟨rfl, HR2⟩
  go_wp2_with fail
  refine ((HR2.out).is hS [100, 101, 102]).mono ?_
  rintro e w3 ⟨rfl, HR3⟩
  clear HR0 HR1 HR2
  cases h1 : X.isN [117, 115, 101] (remT s L a) with
  | true =>
    rw [h1] at HE
    go_wp2_with fail
    go_ret
    exact ⟨retb (by rw [HE.out]; rfl), (HR3.out).2⟩
  | false =>
    cases h2 : X.isN [112, 117, 98] (remT s L a) with
    | true =>
      rw [h1, h2] at HE
      go_wp2_with fail
      go_ret
      exact ⟨retb (by rw [HE.out]; rfl), (HR3.out).2⟩
    | false =>
      rw [h1, h2] at HE
      go_wp2_with fail
      go_ret
      exact ⟨retb (by rw [HE.out]; rfl), (HR3.out).2⟩
theorem DnM.starts {w w1 : World} {rb : Nat} {s : ByteArray} {L : List Tk} {tv : Value} {dp lo B k : Nat} {rv : Value} {ps1 : List X.Part} {ts1 : List X.Tok} (h : DnM w rb s L tv dp lo B k rv ps1 ts1 w1) (hS : TokS s L) :
    Calls Tryz.prog 48 #[.pointer (some ⟨rb, 0, none⟩)] w1 fun e w2 => e = .returned (.bool (X.starts ts1)) ∧ Hid (DnM w rb s L tv dp lo B k rv ps1 ts1 w2) := by
  have h0 := h
  obtain ⟨a', rv', vs', Lo', Hi', g1, rfl, g3, g4⟩ := h
  exact (rstarts_any rb s L tv a' dp w1 hS g1.rdr).mono (fun _ _ h => ⟨h.1, h0.next h.2⟩)
theorem DnM.kindOf {w w1 : World} {rb : Nat} {s : ByteArray} {L : List Tk} {tv : Value} {dp lo B k : Nat} {rv : Value} {ps1 : List X.Part} {ts1 : List X.Tok} (h : DnM w rb s L tv dp lo B k rv ps1 ts1 w1) (hS : TokS s L) :
    Calls Tryz.prog 27 #[.pointer (some ⟨rb, 0, none⟩)] w1 fun e w2 => e = .returned (.int .i64 (X.kindN ts1)) ∧ Hid (DnM w rb s L tv dp lo B k rv ps1 ts1 w2) := by
  have h0 := h
  obtain ⟨a', rv', vs', Lo', Hi', g1, rfl, g3, g4⟩ := h
  exact (rkind_any rb s L tv a' dp w1 hS g1.rdr).mono (fun _ _ h => ⟨h.1, h0.next h.2⟩)
/-- A node becomes one of another kind. -/
theorem DnM.ofKind {w w1 : World} {rb : Nat} {s : ByteArray} {L : List Tk} {tv : Value} {dp lo B k : Nat} {rv : Value} {ps1 : List X.Part} {ts1 : List X.Tok} (h : DnM w rb s L tv dp lo B k rv ps1 ts1 w1) (k2 : Nat) : DnM w rb s L tv dp lo B k2 rv ps1 ts1 (w1.setCell ⟨B, 0, none⟩ (.int .i64 (k2 : Int))) := by
  obtain ⟨a', rv', vs', Lo', Hi', g1, g2, g3, g4⟩ := h
  have hon : Kp (fun q => q = B) w1 (w1.setCell ⟨B, 0, none⟩ (.int .i64 (k2 : Int))) := On.set (Kp.refl _ w1) 0 _
  have hrl := g1.rlt
  have hge := g1.nd.ge
  refine ⟨a', rv', vs', Lo', Hi', ⟨g1.rdr.keep hon (by omega) (fun q e e' => by have := g1.tlt q e; omega), ⟨?_, ?_, ?_, hge, g1.nd.ne⟩, hrl, g1.tlt⟩, g2, g3, Kp.trans g4 hon (fun i _ e => .inr (.inl e))⟩
  · have hb := g1.nd.blk
    unfold mcell at hb ⊢
    simp [World.setCell, Array.getElem?_modify, hb]
  · exact ownsRow_setCell_other g1.nd.row (fun e => g1.nd.ne e) _
  · exact g1.nd.kds.keep hon (fun i hi q e1 e2 e => by subst e; exact (g1.nd.kds.sep i hi).2.2.2.1 ⟨e1, e2⟩)
theorem DnM.forKind {w w1 : World} {rb : Nat} {s : ByteArray} {L : List Tk} {tv : Value} {dp lo B k : Nat} {rv : Value} {ps1 : List X.Part} {ts1 : List X.Tok} (h : DnM w rb s L tv dp lo B k rv ps1 ts1 w1) : w1.cell? ⟨B, 0, none⟩ = some (.int .i64 k) ∧ w1.frozen? ⟨B, 0, none⟩ = false := by
  obtain ⟨a', rv', vs', Lo', Hi', g1, g2, g3, g4⟩ := h
  exact ⟨g1.nd.facts.1, g1.nd.facts.2.2.1⟩
/-- The reader's depth is set anew. -/
theorem DnM.deep {w w1 : World} {rb : Nat} {s : ByteArray} {L : List Tk} {tv : Value} {dp lo B k : Nat} {rv : Value} {ps1 : List X.Part} {ts1 : List X.Tok} (h : DnM w rb s L tv dp lo B k rv ps1 ts1 w1) (y : Nat) : DnM w rb s L tv y lo B k rv ps1 ts1 (w1.setCell ⟨rb, 3, none⟩ (.int .i64 (y : Int))) := by
  obtain ⟨a', rv', vs', Lo', Hi', g1, g2, g3, g4⟩ := h
  have hon : On rb w1 (w1.setCell ⟨rb, 3, none⟩ (.int .i64 (y : Int))) := On.set (Kp.refl _ w1) 3 _
  exact ⟨a', rv', vs', Lo', Hi', g1.deep y, g2, g3, Kp.trans g4 hon (fun i _ e => .inl e)⟩
theorem DnM.forDeep {w w1 : World} {rb : Nat} {s : ByteArray} {L : List Tk} {tv : Value} {dp lo B k : Nat} {rv : Value} {ps1 : List X.Part} {ts1 : List X.Tok} (h : DnM w rb s L tv dp lo B k rv ps1 ts1 w1) : w1.cell? ⟨rb, 3, none⟩ = some (.int .i64 dp) ∧ w1.frozen? ⟨rb, 3, none⟩ = false := by
  obtain ⟨a', rv', vs', Lo', Hi', g1, g2, g3, g4⟩ := h
  obtain ⟨c, hr⟩ := g1.rdr.raw
  exact ⟨hr.facts.1.2.2.2, hr.facts.2.1.2.1⟩
theorem optPub_yes {ts : List X.Tok} (h : X.isN [112, 117, 98] ts = true) : X.optPub ts = X.take ts := if_pos h
theorem optPub_no {ts : List X.Tok} (h : X.isN [112, 117, 98] ts = false) : X.optPub ts = ([], ts) := if_neg (fun e => by rw [show X.isN X.sPub ts = false from h] at e; cases e)
set_option maxRecDepth 100000 in
set_option maxHeartbeats 4000000 in
theorem ritem_any (s : ByteArray) (L : List Tk) (hS : TokS s L) (rb : Nat) (tv : Value) (a : Nat) (w : World) (h : RdM w rb s L tv a 0) (hk : (X.kindN (remT s L a) == 0) = false) :
    Calls Tryz.prog 28 #[.pointer (some ⟨rb, 0, none⟩)] w fun e w' => ∃ N, e = .returned (.pointer (some ⟨N, 0, none⟩)) ∧ Hid (GvM w rb s L tv 0 (.br (X.kid (remT s L a)).1 (X.kid (remT s L a)).2.1) (X.kid (remT s L a)).2.2 N w') := by
  have hl2 := hS.len
  have kA : On rb w (w.alloc (mcell 5 0 [] (.slice none 0 0) 0 0 0 0 false)) := On.ofBelow rb ((Below.refl _ w).alloc (Nat.le_refl _) _)
  have HN0 := hide (h.new 5)
  have HF0 := hide (few_new s L a 1)
  have hX : ReadsM 54 (X.expr 65) (fun _ => True) s L 0 := rexpr_any s L hS 65 0 rfl
  have hXC : X.Cap (X.expr 65) 1 := (X.One1.expr 65).cap (X.Shr.expr 65)
  clear h
  go_enter Tryz.func28, Tryz.ntmps28
  go_wp2_with fail
  refine ((HN0.out).starts hS).mono ?_
  rintro e w1 ⟨rfl, H1⟩
  clear HN0
  cases hst : X.starts (remT s L a) with
  | false =>
    clear hX hXC
    have HKid : Hid (X.kid (remT s L a) = (5, X.junkL (remT s L a))) := by
      show _ = _
      rw [X.kid_eq, if_neg (by rw [hst]; simp)]
    go_wp2_with fail
    go_loopw [] (fun wr => ∃ (acc : List X.Part) (ts1 : List X.Tok), Hid (Few L acc ts1 1) ∧ (X.kindN ts1 == 0) = false ∧ X.starts ts1 = false ∧ Hid (DnM (w.alloc (mcell 5 0 [] (.slice none 0 0) 0 0 0 0 false)) rb s L tv 0 w.heap.size w.heap.size 5 (.slice none 0 0) acc ts1 wr) ∧ Hid (X.junkL (remT s L a) = (acc ++ (X.junkL ts1).1, (X.junkL ts1).2))) (fun wr => L.length - atM rb wr)
    case atStart => exact ⟨[], _, HF0, hk, hst, H1, (by show _ = _; simp)⟩
    case round =>
      obtain ⟨acc, ts1, HF, hk1, hs1, HJ, HE⟩ := hrel
      clear HF0 H1 hk hst
      have hat := (HJ.out).at
      have hnx := X.kind_next hk1
      have htk := X.take_lt hnx
      have HJy := hide (X.junkL_yes (ts := ts1) (by rw [hk1, hs1]; rfl))
      clear hk1 hs1
      go_wp2_with fail
      refine ((HJ.out).is hS [59]).mono ?_
      rintro e w2 ⟨rfl, H2⟩
      clear HJ
      go_wp2_with fail
      refine ((H2.out).go (rtake_any s L 0 hS) ((HF.out).le X.Cap.take hl2 (by omega))).mono ?_
      rintro e w3 ⟨rfl, H3⟩
      have HF3 := hide ((HF.out).then X.Cap.take)
      clear H2 HF
      go_wp2_with fail
      refine ((H3.out).kindOf hS).mono ?_
      rintro e w4 ⟨rfl, H4⟩
      clear H3
      go_wp2_with fail
      refine ((H4.out).starts hS).mono ?_
      rintro e w5 ⟨rfl, H5⟩
      clear H4
      cases hov : X.isN [59] ts1 with
      | true =>
        have HG : Hid (GvM w rb s L tv 0 (.br 5 (X.junkL (remT s L a)).1) (X.junkL (remT s L a)).2 w.heap.size w5) := by
          rw [HE.out, HJy.out, if_pos hov]
          exact (H5.out).closed kA (fun g hg => by cases hg)
        clear H5
        go_wp2_with fail
        go_ret
        exact ⟨_, rfl, by rw [HKid.out]; exact HG⟩
      | false =>
        have HJ2 : Hid (X.junkL ts1 = ((X.take ts1).1 ++ (X.junkL (X.take ts1).2).1, (X.junkL (X.take ts1).2).2)) := by
          show _ = _
          rw [HJy.out, if_neg (by rw [hov]; simp)]; rfl
        clear HJy
        generalize X.take ts1 = r1 at *
        cases hs2 : X.starts r1.2 with
        | true =>
          have HG : Hid (GvM w rb s L tv 0 (.br 5 (X.junkL (remT s L a)).1) (X.junkL (remT s L a)).2 w.heap.size w5) := by
            rw [HE.out, HJ2.out, X.junkL_no (ts := r1.2) (by rw [hs2]; simp), List.append_nil]
            exact (H5.out).closed kA (fun g hg => by cases hg)
          clear H5
          go_wp2_with fail
          go_ret
          exact ⟨_, rfl, by rw [HKid.out]; exact HG⟩
        | false =>
          cases hk2 : ((X.kindN r1.2 : Int) == 0) with
          | true =>
            have e0 : (X.kindN r1.2 == 0) = true := (nb _ 0).symm.trans hk2
            have HG : Hid (GvM w rb s L tv 0 (.br 5 (X.junkL (remT s L a)).1) (X.junkL (remT s L a)).2 w.heap.size w5) := by
              rw [HE.out, HJ2.out, X.junkL_no (ts := r1.2) (by rw [e0]; rfl), List.append_nil]
              exact (H5.out).closed kA (fun g hg => by cases hg)
            clear H5
            go_wp2_with fail
            go_ret
            exact ⟨_, rfl, by rw [HKid.out]; exact HG⟩
          | false =>
            have e0 : (X.kindN r1.2 == 0) = false := (nb _ 0).symm.trans hk2
            have hat5 := (H5.out).at
            have HE2 : Hid (X.junkL (remT s L a) = ((acc ++ r1.1) ++ (X.junkL r1.2).1, (X.junkL r1.2).2)) := by
              show _ = _
              rw [HE.out, HJ2.out, List.append_assoc]
            go_wp2_with fail
            exact ⟨⟨acc ++ r1.1, r1.2, HF3, e0, hs2, H5, HE2⟩, by rw [hat, hat5]; omega⟩
  | true =>
    obtain ⟨d3, df3⟩ := (H1.out).forDeep
    have HD := hide ((H1.out).deep 0)
    clear H1 hk
    go_wp2_with fail
    refine ((HD.out).is hS [112, 117, 98]).mono ?_
    rintro e w2 ⟨rfl, H2⟩
    clear HD d3 df3
    cases hpub : X.isN [112, 117, 98] (remT s L a) with
    | true =>
      go_wp2_with fail
      refine ((H2.out).go (rtake_any s L 0 hS) ((HF0.out).le X.Cap.take hl2 (by omega))).mono ?_
      rintro e w3 ⟨rfl, H3⟩
      have HF3 := hide ((HF0.out).then X.Cap.take)
      rw [List.nil_append] at H3 HF3
      clear H2 HF0
      have hO2 : (X.optPub (remT s L a)).2 = (X.take (remT s L a)).2 := by rw [optPub_yes hpub]
      go_wp2_with fail
      refine ((H3.out).is hS [117, 115, 101]).mono ?_
      rintro e w4 ⟨rfl, H4⟩
      clear H3
      obtain ⟨q0, qf⟩ := (H4.out).forKind
      cases hu : X.isN [117, 115, 101] (X.take (remT s L a)).2 with
      | true =>
        have hu' : X.isN X.sUse (X.optPub (remT s L a)).2 = true := by rw [hO2]; exact hu
        have H5 := hide ((H4.out).ofKind 3)
        clear H4 hX hXC
        go_wp2_with fail
        refine ((H5.out).want hS [117, 115, 101] ((HF3.out).le (X.Cap.want [117, 115, 101]) hl2 (by omega))).mono ?_
        rintro e j0 ⟨rfl, J0⟩
        have JF0 := hide ((HF3.out).then (X.Cap.want [117, 115, 101]))
        clear H5 HF3 q0 qf
        go_wp2_with fail
        refine ((J0.out).go (rname_any s L 0 hS) ((JF0.out).le X.Cap.wname hl2 (by omega))).mono ?_
        rintro e j1 ⟨rfl, J1⟩
        have JF1 := hide ((JF0.out).then X.Cap.wname)
        clear J0 JF0
        go_wp2_with fail
        refine ((J1.out).want hS [46] ((JF1.out).le (X.Cap.want [46]) hl2 (by omega))).mono ?_
        rintro e j2 ⟨rfl, J2⟩
        have JF2 := hide ((JF1.out).then (X.Cap.want [46]))
        clear J1 JF1
        go_wp2_with fail
        refine ((J2.out).go (rname_any s L 0 hS) ((JF2.out).le X.Cap.wname hl2 (by omega))).mono ?_
        rintro e j3 ⟨rfl, J3⟩
        have JF3 := hide ((JF2.out).then X.Cap.wname)
        clear J2 JF2
        go_wp2_with fail
        generalize hts4 : (X.wname (X.want [46] (X.wname (X.want [117, 115, 101] (X.take (remT s L a)).2).2).2).2).2 = ts4 at *
        refine ((J3.out).is hS [97, 115]).mono ?_
        rintro e y0 ⟨rfl, Y0⟩
        clear J3
        cases has : X.isN [97, 115] ts4 with
        | true =>
          go_wp2_with fail
          refine ((Y0.out).go (rtake_any s L 0 hS) ((JF3.out).le X.Cap.take hl2 (by omega))).mono ?_
          rintro e k0 ⟨rfl, K0⟩
          have KF0 := hide ((JF3.out).then X.Cap.take)
          clear Y0 JF3
          go_wp2_with fail
          refine ((K0.out).go (rname_any s L 0 hS) ((KF0.out).le X.Cap.wname hl2 (by omega))).mono ?_
          rintro e k1 ⟨rfl, K1⟩
          have KF1 := hide ((KF0.out).then X.Cap.wname)
          clear K0 KF0
          go_wp2_with fail
          refine ((K1.out).want hS [59] ((KF1.out).le (X.Cap.want [59]) hl2 (by omega))).mono ?_
          rintro e k2 ⟨rfl, K2⟩
          have KF2 := hide ((KF1.out).then (X.Cap.want [59]))
          clear K1 KF1
          have HE : Hid (X.andThen X.optPub X.useR (remT s L a) = ((X.andThen X.optPub X.useR (remT s L a)).1, (X.andThen X.optPub X.useR (remT s L a)).2)) := (rfl : _ = _)
          have HG : Hid (GvM w rb s L tv 0 (.br 3 (X.andThen X.optPub X.useR (remT s L a)).1) (X.andThen X.optPub X.useR (remT s L a)).2 w.heap.size k2) := by
            have hd := K2.out
            have e1 : X.optPub (remT s L a) = X.take (remT s L a) := optPub_yes hpub
            rw [show X.andThen X.optPub X.useR (remT s L a) = ((X.optPub (remT s L a)).1 ++ (X.useR (X.optPub (remT s L a)).2).1, (X.useR (X.optPub (remT s L a)).2).2) from rfl, e1]
            unfold X.useR
            simp only [X.andThen, X.sUse, hts4, has, if_true, List.append_assoc] at hd ⊢
            exact hd.closed kA (fun g hg => by cases hg)
          clear K2
          go_wp2_with fail
          go_ret
          exact ⟨_, rfl, by rw [X.kid_eq, if_pos hst, if_pos hu']; exact HG⟩
        | false =>
          go_wp2_with fail
          refine ((Y0.out).want hS [59] ((JF3.out).le (X.Cap.want [59]) hl2 (by omega))).mono ?_
          rintro e k0 ⟨rfl, K0⟩
          have KF0 := hide ((JF3.out).then (X.Cap.want [59]))
          clear Y0 JF3
          have HE : Hid (X.andThen X.optPub X.useR (remT s L a) = ((X.andThen X.optPub X.useR (remT s L a)).1, (X.andThen X.optPub X.useR (remT s L a)).2)) := (rfl : _ = _)
          have HG : Hid (GvM w rb s L tv 0 (.br 3 (X.andThen X.optPub X.useR (remT s L a)).1) (X.andThen X.optPub X.useR (remT s L a)).2 w.heap.size k0) := by
            have hd := K0.out
            have e1 : X.optPub (remT s L a) = X.take (remT s L a) := optPub_yes hpub
            rw [show X.andThen X.optPub X.useR (remT s L a) = ((X.optPub (remT s L a)).1 ++ (X.useR (X.optPub (remT s L a)).2).1, (X.useR (X.optPub (remT s L a)).2).2) from rfl, e1]
            unfold X.useR
            simp only [X.andThen, X.sUse, hts4, has, Bool.false_eq_true, if_false, List.nil_append, List.append_assoc] at hd ⊢
            exact hd.closed kA (fun g hg => by cases hg)
          clear K0
          go_wp2_with fail
          go_ret
          exact ⟨_, rfl, by rw [X.kid_eq, if_pos hst, if_pos hu']; exact HG⟩
      | false =>
        have hu' : X.isN X.sUse (X.optPub (remT s L a)).2 = false := by rw [hO2]; exact hu
        have H5 := hide ((H4.out).ofKind 4)
        clear H4
        go_wp2_with fail
        refine ((H5.out).want hS [100, 101, 102] ((HF3.out).le (X.Cap.want [100, 101, 102]) hl2 (by omega))).mono ?_
        rintro e j0 ⟨rfl, J0⟩
        have JF0 := hide ((HF3.out).then (X.Cap.want [100, 101, 102]))
        clear H5 HF3 q0 qf
        go_wp2_with fail
        refine ((J0.out).go (rname_any s L 0 hS) ((JF0.out).le X.Cap.wname hl2 (by omega))).mono ?_
        rintro e j1 ⟨rfl, J1⟩
        have JF1 := hide ((JF0.out).then X.Cap.wname)
        clear J0 JF0
        go_wp2_with fail
        generalize hts4 : (X.wname (X.want [100, 101, 102] (X.take (remT s L a)).2).2).2 = ts4 at *
        refine ((J1.out).is hS [40]).mono ?_
        rintro e y0 ⟨rfl, Y0⟩
        clear J1
        cases has : X.isN [40] ts4 with
        | true =>
          go_wp2_with fail
          refine ((Y0.out).go (rparams_any s L 0 hS) ((JF1.out).le X.Cap.params hl2 (by omega))).mono ?_
          rintro e k0 ⟨rfl, K0⟩
          have KF0 := hide ((JF1.out).then X.Cap.params)
          clear Y0 JF1
          go_wp2_with fail
          refine ((K0.out).want hS [61] ((KF0.out).le (X.Cap.want [61]) hl2 (by omega))).mono ?_
          rintro e k1 ⟨rfl, K1⟩
          have KF1 := hide ((KF0.out).then (X.Cap.want [61]))
          clear K0 KF0
          go_wp2_with fail
          refine ((K1.out).go hX ((KF1.out).le hXC hl2 (by omega))).mono ?_
          rintro e k2 ⟨rfl, K2⟩
          have KF2 := hide ((KF1.out).then hXC)
          clear K1 KF1
          go_wp2_with fail
          refine ((K2.out).want hS [59] ((KF2.out).le (X.Cap.want [59]) hl2 (by omega))).mono ?_
          rintro e k3 ⟨rfl, K3⟩
          have KF3 := hide ((KF2.out).then (X.Cap.want [59]))
          clear K2 KF2
          have HE : Hid (X.andThen X.optPub X.defR (remT s L a) = ((X.andThen X.optPub X.defR (remT s L a)).1, (X.andThen X.optPub X.defR (remT s L a)).2)) := (rfl : _ = _)
          have HG : Hid (GvM w rb s L tv 0 (.br 4 (X.andThen X.optPub X.defR (remT s L a)).1) (X.andThen X.optPub X.defR (remT s L a)).2 w.heap.size k3) := by
            have hd := K3.out
            have e1 : X.optPub (remT s L a) = X.take (remT s L a) := optPub_yes hpub
            rw [show X.andThen X.optPub X.defR (remT s L a) = ((X.optPub (remT s L a)).1 ++ (X.defR (X.optPub (remT s L a)).2).1, (X.defR (X.optPub (remT s L a)).2).2) from rfl, e1]
            unfold X.defR
            simp only [X.andThen, X.sDef, hts4, has, if_true, List.append_assoc] at hd ⊢
            exact hd.closed kA (fun g hg => by cases hg)
          clear K3
          go_wp2_with fail
          go_ret
          exact ⟨_, rfl, by rw [X.kid_eq, if_pos hst, if_neg (by rw [hu']; simp)]; exact HG⟩
        | false =>
          go_wp2_with fail
          refine ((Y0.out).want hS [61] ((JF1.out).le (X.Cap.want [61]) hl2 (by omega))).mono ?_
          rintro e k0 ⟨rfl, K0⟩
          have KF0 := hide ((JF1.out).then (X.Cap.want [61]))
          clear Y0 JF1
          go_wp2_with fail
          refine ((K0.out).go hX ((KF0.out).le hXC hl2 (by omega))).mono ?_
          rintro e k1 ⟨rfl, K1⟩
          have KF1 := hide ((KF0.out).then hXC)
          clear K0 KF0
          go_wp2_with fail
          refine ((K1.out).want hS [59] ((KF1.out).le (X.Cap.want [59]) hl2 (by omega))).mono ?_
          rintro e k2 ⟨rfl, K2⟩
          have KF2 := hide ((KF1.out).then (X.Cap.want [59]))
          clear K1 KF1
          have HE : Hid (X.andThen X.optPub X.defR (remT s L a) = ((X.andThen X.optPub X.defR (remT s L a)).1, (X.andThen X.optPub X.defR (remT s L a)).2)) := (rfl : _ = _)
          have HG : Hid (GvM w rb s L tv 0 (.br 4 (X.andThen X.optPub X.defR (remT s L a)).1) (X.andThen X.optPub X.defR (remT s L a)).2 w.heap.size k2) := by
            have hd := K2.out
            have e1 : X.optPub (remT s L a) = X.take (remT s L a) := optPub_yes hpub
            rw [show X.andThen X.optPub X.defR (remT s L a) = ((X.optPub (remT s L a)).1 ++ (X.defR (X.optPub (remT s L a)).2).1, (X.defR (X.optPub (remT s L a)).2).2) from rfl, e1]
            unfold X.defR
            simp only [X.andThen, X.sDef, hts4, has, Bool.false_eq_true, if_false, List.nil_append, List.append_assoc] at hd ⊢
            exact hd.closed kA (fun g hg => by cases hg)
          clear K2
          go_wp2_with fail
          go_ret
          exact ⟨_, rfl, by rw [X.kid_eq, if_pos hst, if_neg (by rw [hu']; simp)]; exact HG⟩
    | false =>
      have H3 := hide H2.out
      have HF3 := hide HF0.out
      clear H2 HF0
      have hO2 : (X.optPub (remT s L a)).2 = (remT s L a) := by rw [optPub_no hpub]
      go_wp2_with fail
      refine ((H3.out).is hS [117, 115, 101]).mono ?_
      rintro e w4 ⟨rfl, H4⟩
      clear H3
      obtain ⟨q0, qf⟩ := (H4.out).forKind
      cases hu : X.isN [117, 115, 101] (remT s L a) with
      | true =>
        have hu' : X.isN X.sUse (X.optPub (remT s L a)).2 = true := by rw [hO2]; exact hu
        have H5 := hide ((H4.out).ofKind 3)
        clear H4 hX hXC
        go_wp2_with fail
        refine ((H5.out).want hS [117, 115, 101] ((HF3.out).le (X.Cap.want [117, 115, 101]) hl2 (by omega))).mono ?_
        rintro e j0 ⟨rfl, J0⟩
        have JF0 := hide ((HF3.out).then (X.Cap.want [117, 115, 101]))
        clear H5 HF3 q0 qf
        go_wp2_with fail
        refine ((J0.out).go (rname_any s L 0 hS) ((JF0.out).le X.Cap.wname hl2 (by omega))).mono ?_
        rintro e j1 ⟨rfl, J1⟩
        have JF1 := hide ((JF0.out).then X.Cap.wname)
        clear J0 JF0
        go_wp2_with fail
        refine ((J1.out).want hS [46] ((JF1.out).le (X.Cap.want [46]) hl2 (by omega))).mono ?_
        rintro e j2 ⟨rfl, J2⟩
        have JF2 := hide ((JF1.out).then (X.Cap.want [46]))
        clear J1 JF1
        go_wp2_with fail
        refine ((J2.out).go (rname_any s L 0 hS) ((JF2.out).le X.Cap.wname hl2 (by omega))).mono ?_
        rintro e j3 ⟨rfl, J3⟩
        have JF3 := hide ((JF2.out).then X.Cap.wname)
        clear J2 JF2
        go_wp2_with fail
        generalize hts4 : (X.wname (X.want [46] (X.wname (X.want [117, 115, 101] (remT s L a)).2).2).2).2 = ts4 at *
        refine ((J3.out).is hS [97, 115]).mono ?_
        rintro e y0 ⟨rfl, Y0⟩
        clear J3
        cases has : X.isN [97, 115] ts4 with
        | true =>
          go_wp2_with fail
          refine ((Y0.out).go (rtake_any s L 0 hS) ((JF3.out).le X.Cap.take hl2 (by omega))).mono ?_
          rintro e k0 ⟨rfl, K0⟩
          have KF0 := hide ((JF3.out).then X.Cap.take)
          clear Y0 JF3
          go_wp2_with fail
          refine ((K0.out).go (rname_any s L 0 hS) ((KF0.out).le X.Cap.wname hl2 (by omega))).mono ?_
          rintro e k1 ⟨rfl, K1⟩
          have KF1 := hide ((KF0.out).then X.Cap.wname)
          clear K0 KF0
          go_wp2_with fail
          refine ((K1.out).want hS [59] ((KF1.out).le (X.Cap.want [59]) hl2 (by omega))).mono ?_
          rintro e k2 ⟨rfl, K2⟩
          have KF2 := hide ((KF1.out).then (X.Cap.want [59]))
          clear K1 KF1
          have HE : Hid (X.andThen X.optPub X.useR (remT s L a) = ((X.andThen X.optPub X.useR (remT s L a)).1, (X.andThen X.optPub X.useR (remT s L a)).2)) := (rfl : _ = _)
          have HG : Hid (GvM w rb s L tv 0 (.br 3 (X.andThen X.optPub X.useR (remT s L a)).1) (X.andThen X.optPub X.useR (remT s L a)).2 w.heap.size k2) := by
            have hd := K2.out
            have e1 : X.optPub (remT s L a) = ([], (remT s L a)) := optPub_no hpub
            rw [show X.andThen X.optPub X.useR (remT s L a) = ((X.optPub (remT s L a)).1 ++ (X.useR (X.optPub (remT s L a)).2).1, (X.useR (X.optPub (remT s L a)).2).2) from rfl, e1]
            unfold X.useR
            simp only [X.andThen, List.nil_append, X.sUse, hts4, has, if_true, List.append_assoc] at hd ⊢
            exact hd.closed kA (fun g hg => by cases hg)
          clear K2
          go_wp2_with fail
          go_ret
          exact ⟨_, rfl, by rw [X.kid_eq, if_pos hst, if_pos hu']; exact HG⟩
        | false =>
          go_wp2_with fail
          refine ((Y0.out).want hS [59] ((JF3.out).le (X.Cap.want [59]) hl2 (by omega))).mono ?_
          rintro e k0 ⟨rfl, K0⟩
          have KF0 := hide ((JF3.out).then (X.Cap.want [59]))
          clear Y0 JF3
          have HE : Hid (X.andThen X.optPub X.useR (remT s L a) = ((X.andThen X.optPub X.useR (remT s L a)).1, (X.andThen X.optPub X.useR (remT s L a)).2)) := (rfl : _ = _)
          have HG : Hid (GvM w rb s L tv 0 (.br 3 (X.andThen X.optPub X.useR (remT s L a)).1) (X.andThen X.optPub X.useR (remT s L a)).2 w.heap.size k0) := by
            have hd := K0.out
            have e1 : X.optPub (remT s L a) = ([], (remT s L a)) := optPub_no hpub
            rw [show X.andThen X.optPub X.useR (remT s L a) = ((X.optPub (remT s L a)).1 ++ (X.useR (X.optPub (remT s L a)).2).1, (X.useR (X.optPub (remT s L a)).2).2) from rfl, e1]
            unfold X.useR
            simp only [X.andThen, X.sUse, hts4, has, Bool.false_eq_true, if_false, List.nil_append, List.append_assoc] at hd ⊢
            exact hd.closed kA (fun g hg => by cases hg)
          clear K0
          go_wp2_with fail
          go_ret
          exact ⟨_, rfl, by rw [X.kid_eq, if_pos hst, if_pos hu']; exact HG⟩
      | false =>
        have hu' : X.isN X.sUse (X.optPub (remT s L a)).2 = false := by rw [hO2]; exact hu
        have H5 := hide ((H4.out).ofKind 4)
        clear H4
        go_wp2_with fail
        refine ((H5.out).want hS [100, 101, 102] ((HF3.out).le (X.Cap.want [100, 101, 102]) hl2 (by omega))).mono ?_
        rintro e j0 ⟨rfl, J0⟩
        have JF0 := hide ((HF3.out).then (X.Cap.want [100, 101, 102]))
        clear H5 HF3 q0 qf
        go_wp2_with fail
        refine ((J0.out).go (rname_any s L 0 hS) ((JF0.out).le X.Cap.wname hl2 (by omega))).mono ?_
        rintro e j1 ⟨rfl, J1⟩
        have JF1 := hide ((JF0.out).then X.Cap.wname)
        clear J0 JF0
        go_wp2_with fail
        generalize hts4 : (X.wname (X.want [100, 101, 102] (remT s L a)).2).2 = ts4 at *
        refine ((J1.out).is hS [40]).mono ?_
        rintro e y0 ⟨rfl, Y0⟩
        clear J1
        cases has : X.isN [40] ts4 with
        | true =>
          go_wp2_with fail
          refine ((Y0.out).go (rparams_any s L 0 hS) ((JF1.out).le X.Cap.params hl2 (by omega))).mono ?_
          rintro e k0 ⟨rfl, K0⟩
          have KF0 := hide ((JF1.out).then X.Cap.params)
          clear Y0 JF1
          go_wp2_with fail
          refine ((K0.out).want hS [61] ((KF0.out).le (X.Cap.want [61]) hl2 (by omega))).mono ?_
          rintro e k1 ⟨rfl, K1⟩
          have KF1 := hide ((KF0.out).then (X.Cap.want [61]))
          clear K0 KF0
          go_wp2_with fail
          refine ((K1.out).go hX ((KF1.out).le hXC hl2 (by omega))).mono ?_
          rintro e k2 ⟨rfl, K2⟩
          have KF2 := hide ((KF1.out).then hXC)
          clear K1 KF1
          go_wp2_with fail
          refine ((K2.out).want hS [59] ((KF2.out).le (X.Cap.want [59]) hl2 (by omega))).mono ?_
          rintro e k3 ⟨rfl, K3⟩
          have KF3 := hide ((KF2.out).then (X.Cap.want [59]))
          clear K2 KF2
          have HE : Hid (X.andThen X.optPub X.defR (remT s L a) = ((X.andThen X.optPub X.defR (remT s L a)).1, (X.andThen X.optPub X.defR (remT s L a)).2)) := (rfl : _ = _)
          have HG : Hid (GvM w rb s L tv 0 (.br 4 (X.andThen X.optPub X.defR (remT s L a)).1) (X.andThen X.optPub X.defR (remT s L a)).2 w.heap.size k3) := by
            have hd := K3.out
            have e1 : X.optPub (remT s L a) = ([], (remT s L a)) := optPub_no hpub
            rw [show X.andThen X.optPub X.defR (remT s L a) = ((X.optPub (remT s L a)).1 ++ (X.defR (X.optPub (remT s L a)).2).1, (X.defR (X.optPub (remT s L a)).2).2) from rfl, e1]
            unfold X.defR
            simp only [X.andThen, List.nil_append, X.sDef, hts4, has, if_true, List.append_assoc] at hd ⊢
            exact hd.closed kA (fun g hg => by cases hg)
          clear K3
          go_wp2_with fail
          go_ret
          exact ⟨_, rfl, by rw [X.kid_eq, if_pos hst, if_neg (by rw [hu']; simp)]; exact HG⟩
        | false =>
          go_wp2_with fail
          refine ((Y0.out).want hS [61] ((JF1.out).le (X.Cap.want [61]) hl2 (by omega))).mono ?_
          rintro e k0 ⟨rfl, K0⟩
          have KF0 := hide ((JF1.out).then (X.Cap.want [61]))
          clear Y0 JF1
          go_wp2_with fail
          refine ((K0.out).go hX ((KF0.out).le hXC hl2 (by omega))).mono ?_
          rintro e k1 ⟨rfl, K1⟩
          have KF1 := hide ((KF0.out).then hXC)
          clear K0 KF0
          go_wp2_with fail
          refine ((K1.out).want hS [59] ((KF1.out).le (X.Cap.want [59]) hl2 (by omega))).mono ?_
          rintro e k2 ⟨rfl, K2⟩
          have KF2 := hide ((KF1.out).then (X.Cap.want [59]))
          clear K1 KF1
          have HE : Hid (X.andThen X.optPub X.defR (remT s L a) = ((X.andThen X.optPub X.defR (remT s L a)).1, (X.andThen X.optPub X.defR (remT s L a)).2)) := (rfl : _ = _)
          have HG : Hid (GvM w rb s L tv 0 (.br 4 (X.andThen X.optPub X.defR (remT s L a)).1) (X.andThen X.optPub X.defR (remT s L a)).2 w.heap.size k2) := by
            have hd := K2.out
            have e1 : X.optPub (remT s L a) = ([], (remT s L a)) := optPub_no hpub
            rw [show X.andThen X.optPub X.defR (remT s L a) = ((X.optPub (remT s L a)).1 ++ (X.defR (X.optPub (remT s L a)).2).1, (X.defR (X.optPub (remT s L a)).2).2) from rfl, e1]
            unfold X.defR
            simp only [X.andThen, X.sDef, hts4, has, Bool.false_eq_true, if_false, List.nil_append, List.append_assoc] at hd ⊢
            exact hd.closed kA (fun g hg => by cases hg)
          clear K2
          go_wp2_with fail
          go_ret
          exact ⟨_, rfl, by rw [X.kid_eq, if_pos hst, if_neg (by rw [hu']; simp)]; exact HG⟩
end Go.Proofs.YtkampoaceipngaaGreatDoor
