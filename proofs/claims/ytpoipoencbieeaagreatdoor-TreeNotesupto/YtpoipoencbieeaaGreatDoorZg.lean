/- The document's reader: names in brackets, expressions in brackets. -/
import Derived.Test.YtpoipoencbieeaaGreatDoorZe
import Derived.Test.YtpoipoencbieeaaGreatDoorXv
namespace Go.Proofs.YtpoipoencbieeaaGreatDoor
open Go.RowKit
open M
/-- There are not many parts. -/
def Few (L : List Tk) (ps : List X.Part) (ts : List X.Tok) (c : Nat) : Prop := ps.length + 2 * ts.length ≤ c + 2 * L.length
theorem Few.then {L : List Tk} {ps : List X.Part} {ts : List X.Tok} {c d : Nat} {F : X.R} (h : Few L ps ts c) (hF : X.Cap F d) : Few L (ps ++ (F ts).1) (F ts).2 (c + d) := by
  have := hF ts
  unfold Few at *
  rw [List.length_append]; omega
theorem Few.le {L : List Tk} {ps : List X.Part} {ts : List X.Tok} {c d : Nat} {F : X.R} (h : Few L ps ts c) (hF : X.Cap F d) (hL : L.length ≤ 268435456) (hc : c + d ≤ 1000) : ps.length + (F ts).1.length ≤ 1073741824 := by
  have := hF ts
  unfold Few at h
  omega
theorem Few.take {L : List Tk} {ps : List X.Part} {ts : List X.Tok} {c : Nat} (h : Few L ps ts (c + 1)) (hn : X.nxt ts ≠ none) : Few L (ps ++ (X.take ts).1) (X.take ts).2 c := by
  have h1 := X.take_len ts
  have h2 := X.take_lt hn
  unfold Few at *
  rw [List.length_append]; omega
theorem Few.mono {L : List Tk} {ps : List X.Part} {ts : List X.Tok} {c d : Nat} (h : Few L ps ts c) (hd : c ≤ d) : Few L ps ts d := by unfold Few at *; omega
theorem few_new (s : ByteArray) (L : List Tk) (a c : Nat) : Few L [] (remT s L a) c := by
  unfold Few remT
  rw [List.length_map, List.length_drop]; simp; omega
theorem sev_more {O : X.R} (hO : X.Shr O) {ts0 ts1 : List X.Tok} {acc : List X.Part} (he : X.andThen O (X.sevL O) ts0 = (acc ++ (X.sevL O ts1).1, (X.sevL O ts1).2)) (hy : X.isN [44] ts1 = true) :
    X.andThen O (X.sevL O) ts0 = ((acc ++ (X.take ts1).1 ++ (O (X.take ts1).2).1) ++ (X.sevL O (O (X.take ts1).2).2).1, (X.sevL O (O (X.take ts1).2).2).2) := by
  rw [he, X.sevL_yes hO hy]
  simp only [X.andThen, List.append_assoc]
theorem sev_done {O : X.R} {ts0 ts1 : List X.Tok} {acc : List X.Part} (he : X.andThen O (X.sevL O) ts0 = (acc ++ (X.sevL O ts1).1, (X.sevL O ts1).2)) (hy : X.isN [44] ts1 = false) :
    X.andThen O (X.sevL O) ts0 = (acc, ts1) := by
  rw [he, X.sevL_no hy, List.append_nil]
theorem several_rest {O : X.R} {x : List UInt8} {ts0 ts1 : List X.Tok} {acc : List X.Part} (hn : X.isN x ts0 = false) (he : X.andThen O (X.sevL O) ts0 = (acc, ts1)) : X.several O x ts0 = (acc ++ (X.want x ts1).1, (X.want x ts1).2) := by
  rw [X.several_eq, if_neg (by rw [hn]; simp)]
  have h1 := congrArg Prod.fst he
  have h2 := congrArg Prod.snd he
  simp only [X.andThen] at h1 h2 ⊢
  rw [h2, ← h1, List.append_assoc]
theorem several_none {O : X.R} {x : List UInt8} {ts0 : List X.Tok} (hn : X.isN x ts0 = true) : X.several O x ts0 = X.want x ts0 := by
  rw [X.several_eq, if_pos hn]
set_option maxRecDepth 100000 in
set_option maxHeartbeats 1000000 in
theorem rparams_any (s : ByteArray) (L : List Tk) (dp : Nat) (hS : TokS s L) : ReadsM 53 X.params (fun _ => True) s L dp := by
  intro rb tv a lo B k rv vs ps Lo Hi w h _ hl
  obtain ⟨i0, hi0, hz0, hz1, hz2⟩ := info_parts infoM
  have hl2 := hS.len
  have HW := hide h
  have HN0 := hide (h.rdr.new 6)
  have kA : On rb w (w.alloc (mcell 6 0 [] (.slice none 0 0) 0 0 0 0 false)) := On.ofBelow rb ((Below.refl _ w).alloc (Nat.le_refl _) _)
  have HF0 := hide (few_new s L a 0)
  have hl' : ps.length ≤ 1073741823 := by have : (X.params (remT s L a)).1.length = 1 := rfl; omega
  have HFin : Hid (∀ (cps : List X.Part) (ts' : List X.Tok) (w4 : World), X.andThen (X.want [40]) (X.several X.wname [41]) (remT s L a) = (cps, ts') → DnM (w.alloc (mcell 6 0 [] (.slice none 0 0) 0 0 0 0 false)) rb s L tv dp w.heap.size w.heap.size 6 (.slice none 0 0) cps ts' w4 → X.params (remT s L a) = ([.br 6 cps], ts') ∧ GvM w rb s L tv dp (.br 6 cps) ts' w.heap.size w4) := fun cps ts' w4 e hd => ⟨by unfold X.params X.node; rw [e], hd.closed kA (fun g hg => by cases hg)⟩
  clear h hl kA
  go_enter Tryz.func53, Tryz.ntmps53
  go_wp2_with fail
  refine ((HN0.out).want hS [40] ((HF0.out).le (X.Cap.want [40]) hl2 (by omega))).mono ?_
  rintro e w1 ⟨rfl, H1⟩
  have HF1 := hide ((HF0.out).then (X.Cap.want [40]))
  rw [List.nil_append] at H1 HF1
  generalize hr1 : X.want [40] (remT s L a) = r1 at *
  have HR1 := hide hr1
  clear hr1 HN0 HF0
  go_wp2_with fail
  refine ((H1.out).is hS [41]).mono ?_
  rintro e w2 ⟨rfl, H2⟩
  clear H1
  cases hsh : X.isN [41] r1.2 with
  | true =>
    go_wp2_with fail
    refine ((H2.out).want hS [41] ((HF1.out).le (X.Cap.want [41]) hl2 (by omega))).mono ?_
    rintro e w4 ⟨rfl, H4⟩
    have HE : Hid (X.andThen (X.want [40]) (X.several X.wname [41]) (remT s L a) = (r1.1 ++ (X.want [41] r1.2).1, (X.want [41] r1.2).2)) := by
      show _ = _
      unfold X.andThen
      rw [HR1.out, several_none hsh]
    clear HF1 HR1 H2 hsh
    obtain ⟨hp, HG0⟩ := (HFin.out) _ _ w4 (HE.out) (H4.out)
    have HP := hide hp
    have HG := hide HG0
    clear HG0 hp HFin
    obtain ⟨b3, f3, hbl, hlo, HN, HV, HO⟩ := (HW.out).forTake HG.out
    have hvb : vs.length ≤ 1073741823 := by rw [HV.out]; omega
    go_wp2_with (at_builtin; refine wpList_append_lies _ rfl _ _ 75 rfl lo 28 i0 _ 1 8 Tryz.underlying75 hi0 hz0 hz1 hz2 rfl (by decide) rv vs.length _ rfl ((HO.out).alloc _) ⟨w4.heap.size, 0, none⟩ 1 1 [.pointer (some ⟨w.heap.size, 0, none⟩)] rfl rfl (World.news_of_block (cs := #[.pointer (some ⟨w.heap.size, 0, none⟩)]) (heap_alloc_new w4 _)) (by simp [Value.oneCell']) (by omega) (by unfold maxLen; omega) (by omega) (by simp; omega) (w4.heap.size + 1) (by simp) ?_; intro g cap5 w5 hown5 hgrow5 hat5 hlt5; have x1 : w5.cell? ⟨B, 3, none⟩ = some rv := (hgrow5.cell_far ⟨B, 3, none⟩ (by simp; omega) (HN.out)).trans (old1 hbl b3); have x2 : w5.frozen? ⟨B, 3, none⟩ = false := (hgrow5.frozen_far ⟨B, 3, none⟩ (by simp; omega) (HN.out)).trans ((World.frozen?_alloc_old _ _ ⟨B, 3, none⟩ (by simp; omega)).trans f3); have HX := hide ((HW.out).take HG.out hgrow5 hown5 hat5); clear hown5 hgrow5)
    go_end0
    exact ⟨rfl, by rw [HP.out]; exact HX.out⟩
  | false =>
    have HRest := hide (fun acc ts1 => several_rest (O := X.wname) (x := [41]) (ts0 := r1.2) (acc := acc) (ts1 := ts1) hsh)
    clear hsh
    go_wp2_with fail
    refine ((H2.out).go (rname_any s L dp hS) ((HF1.out).le X.Cap.wname hl2 (by omega))).mono ?_
    rintro e w3 ⟨rfl, H3⟩
    have HF3 := hide ((HF1.out).then X.Cap.wname)
    have HE0 : Hid (X.andThen X.wname (X.sevL X.wname) r1.2 = ((X.wname r1.2).1 ++ (X.sevL X.wname (X.wname r1.2).2).1, (X.sevL X.wname (X.wname r1.2).2).2)) := (rfl : _ = _)
    clear H2 HF1
    generalize X.wname r1.2 = r2 at *
    go_wp2_with fail
    refine ((H3.out).is hS [44]).mono ?_
    rintro e w3' ⟨rfl, H3'⟩
    clear H3
    go_wp2_with fail
    go_loopw [6] (fun v wr => ∃ (acc : List X.Part) (ts1 : List X.Tok), v = .bool (X.isN [44] ts1) ∧ Hid (Few L (r1.1 ++ acc) ts1 2) ∧ Hid (DnM (w.alloc (mcell 6 0 [] (.slice none 0 0) 0 0 0 0 false)) rb s L tv dp w.heap.size w.heap.size 6 (.slice none 0 0) (r1.1 ++ acc) ts1 wr) ∧ Hid (X.andThen X.wname (X.sevL X.wname) r1.2 = (acc ++ (X.sevL X.wname ts1).1, (X.sevL X.wname ts1).2))) (fun _ wr => L.length - atM rb wr)
    case atStart => exact ⟨r2.1, r2.2, rfl, HF3, H3', HE0⟩
    case round =>
      obtain ⟨acc, ts1, rfl, HFj, HJ, HEj⟩ := hrel
      clear HF3 H3' HE0
      have hat := (HJ.out).at
      cases hmore : X.isN [44] ts1 with
      | false =>
        have HEn := hide (sev_done HEj.out hmore)
        go_wp2_with fail
        refine ((HJ.out).want hS [41] ((HFj.out).le (X.Cap.want [41]) hl2 (by omega))).mono ?_
        rintro e w4 ⟨rfl, H4⟩
        have HE : Hid (X.andThen (X.want [40]) (X.several X.wname [41]) (remT s L a) = (r1.1 ++ acc ++ (X.want [41] ts1).1, (X.want [41] ts1).2)) := by
          show _ = _
          unfold X.andThen
          rw [HR1.out, (HRest.out) _ _ HEn.out, List.append_assoc]
        clear HFj HJ HEj HEn HR1 HRest hat
        obtain ⟨hp, HG0⟩ := (HFin.out) _ _ w4 (HE.out) (H4.out)
        have HP := hide hp
        have HG := hide HG0
        clear HG0 hp HFin
        obtain ⟨b3, f3, hbl, hlo, HN, HV, HO⟩ := (HW.out).forTake HG.out
        have hvb : vs.length ≤ 1073741823 := by rw [HV.out]; omega
        go_wp2_with (at_builtin; refine wpList_append_lies _ rfl _ _ 75 rfl lo 28 i0 _ 1 8 Tryz.underlying75 hi0 hz0 hz1 hz2 rfl (by decide) rv vs.length _ rfl ((HO.out).alloc _) ⟨w4.heap.size, 0, none⟩ 1 1 [.pointer (some ⟨w.heap.size, 0, none⟩)] rfl rfl (World.news_of_block (cs := #[.pointer (some ⟨w.heap.size, 0, none⟩)]) (heap_alloc_new w4 _)) (by simp [Value.oneCell']) (by omega) (by unfold maxLen; omega) (by omega) (by simp; omega) (w4.heap.size + 1) (by simp) ?_; intro g cap5 w5 hown5 hgrow5 hat5 hlt5; have x1 : w5.cell? ⟨B, 3, none⟩ = some rv := (hgrow5.cell_far ⟨B, 3, none⟩ (by simp; omega) (HN.out)).trans (old1 hbl b3); have x2 : w5.frozen? ⟨B, 3, none⟩ = false := (hgrow5.frozen_far ⟨B, 3, none⟩ (by simp; omega) (HN.out)).trans ((World.frozen?_alloc_old _ _ ⟨B, 3, none⟩ (by simp; omega)).trans f3); have HX := hide ((HW.out).take HG.out hgrow5 hown5 hat5); clear hown5 hgrow5)
        go_end0
        exact ⟨rfl, by rw [HP.out]; exact HX.out⟩
      | true =>
        have HEn := hide (sev_more X.Shr.wname HEj.out hmore)
        have hnx := X.isN_next hmore
        go_wp2_with fail
        refine ((HJ.out).go (rtake_any s L dp hS) ((HFj.out).le X.Cap.take hl2 (by omega))).mono ?_
        rintro e w5 ⟨rfl, H5⟩
        have HF5 := hide ((HFj.out).take hnx)
        have hlt := X.take_lt hnx
        clear HJ HFj HEj hmore hnx
        generalize X.take ts1 = r3 at *
        go_wp2_with fail
        refine ((H5.out).go (rname_any s L dp hS) ((HF5.out).le X.Cap.wname hl2 (by omega))).mono ?_
        rintro e w6 ⟨rfl, H6⟩
        have HF6 := hide ((HF5.out).then X.Cap.wname)
        have hle := X.Shr.wname.le r3.2
        clear H5 HF5
        generalize X.wname r3.2 = r4 at *
        go_wp2_with fail
        refine ((H6.out).is hS [44]).mono ?_
        rintro e w7 ⟨rfl, H7⟩
        have hat7 := (H7.out).at
        clear H6
        rw [List.append_assoc, List.append_assoc] at H7 HF6
        go_wp2_with fail
        refine ⟨⟨acc ++ (r3.1 ++ r4.1), r4.2, rfl, HF6, H7, ?_⟩, by rw [hat, hat7]; omega⟩
        have := HEn.out
        rw [List.append_assoc acc] at this
        exact this
end Go.Proofs.YtpoipoencbieeaaGreatDoor
/- The document's reader: expressions in brackets; a level more. -/
namespace Go.Proofs.YtpoipoencbieeaaGreatDoor
open Go.RowKit
open M
set_option maxRecDepth 100000 in
set_option maxHeartbeats 1000000 in
theorem rlist_any (s : ByteArray) (L : List Tk) (dp : Nat) (hS : TokS s L) (E : X.R) (hE : ReadsM 78 E (fun _ => True) s L dp) (hC : X.Cap E 1) (hSh : X.Shr E) (kd : Nat) (x : List UInt8) : GivesM 120 (fun r => #[r, .int .i64 kd, .string (ba x)]) (X.node kd (X.andThen X.take (X.several E x))) s L dp := by
  intro rb tv a w h
  have hl2 := hS.len
  have HN0 := hide (h.new kd)
  have kA : On rb w (w.alloc (mcell kd 0 [] (.slice none 0 0) 0 0 0 0 false)) := On.ofBelow rb ((Below.refl _ w).alloc (Nat.le_refl _) _)
  have HF0 := hide (few_new s L a 1)
  have HFin : Hid (∀ (cps : List X.Part) (ts' : List X.Tok) (w4 : World), X.andThen X.take (X.several E x) (remT s L a) = (cps, ts') → DnM (w.alloc (mcell kd 0 [] (.slice none 0 0) 0 0 0 0 false)) rb s L tv dp w.heap.size w.heap.size kd (.slice none 0 0) cps ts' w4 → (X.node kd (X.andThen X.take (X.several E x)) (remT s L a)).1 = [.br kd cps] ∧ GvM w rb s L tv dp (.br kd cps) (X.node kd (X.andThen X.take (X.several E x)) (remT s L a)).2 w.heap.size w4) := fun cps ts' w4 e hd => ⟨by unfold X.node; rw [e], by unfold X.node; rw [e]; exact hd.closed kA (fun g hg => by cases hg)⟩
  clear h kA
  go_enter Tryz.func120, Tryz.ntmps120
  go_wp2_with fail
  refine ((HN0.out).go (rtake_any s L dp hS) ((HF0.out).le X.Cap.take hl2 (by omega))).mono ?_
  rintro e w1 ⟨rfl, H1⟩
  have HF1 := hide ((HF0.out).then X.Cap.take)
  rw [List.nil_append] at H1 HF1
  generalize hr1 : X.take (remT s L a) = r1 at *
  have HR1 := hide hr1
  clear hr1 HN0 HF0
  go_wp2_with fail
  refine ((H1.out).is hS x).mono ?_
  rintro e w2 ⟨rfl, H2⟩
  clear H1
  cases hsh : X.isN x r1.2 with
  | true =>
    go_wp2_with fail
    refine ((H2.out).want hS x ((HF1.out).le (X.Cap.want x) hl2 (by omega))).mono ?_
    rintro e w4 ⟨rfl, H4⟩
    have HE : Hid (X.andThen X.take (X.several E x) (remT s L a) = (r1.1 ++ (X.want x r1.2).1, (X.want x r1.2).2)) := by
      show _ = _
      unfold X.andThen
      rw [HR1.out, several_none hsh]
    clear HF1 HR1 H2 hsh
    go_wp2_with fail
    go_ret
    exact ⟨_, _, rfl, (HFin.out _ _ w4 HE.out H4.out).1, (HFin.out _ _ w4 HE.out H4.out).2⟩
  | false =>
    have HRest := hide (fun acc ts1 => several_rest (O := E) (x := x) (ts0 := r1.2) (acc := acc) (ts1 := ts1) hsh)
    clear hsh
    go_wp2_with fail
    refine ((H2.out).go hE ((HF1.out).le hC hl2 (by omega))).mono ?_
    rintro e w3 ⟨rfl, H3⟩
    have HF3 := hide ((HF1.out).then hC)
    have HE0 : Hid (X.andThen E (X.sevL E) r1.2 = ((E r1.2).1 ++ (X.sevL E (E r1.2).2).1, (X.sevL E (E r1.2).2).2)) := (rfl : _ = _)
    clear H2 HF1
    generalize E r1.2 = r2 at *
    go_wp2_with fail
    refine ((H3.out).is hS [44]).mono ?_
    rintro e w3' ⟨rfl, H3'⟩
    clear H3
    go_wp2_with fail
    go_loopw [9] (fun v wr => ∃ (acc : List X.Part) (ts1 : List X.Tok), v = .bool (X.isN [44] ts1) ∧ Hid (Few L (r1.1 ++ acc) ts1 2) ∧ Hid (DnM (w.alloc (mcell kd 0 [] (.slice none 0 0) 0 0 0 0 false)) rb s L tv dp w.heap.size w.heap.size kd (.slice none 0 0) (r1.1 ++ acc) ts1 wr) ∧ Hid (X.andThen E (X.sevL E) r1.2 = (acc ++ (X.sevL E ts1).1, (X.sevL E ts1).2))) (fun _ wr => L.length - atM rb wr)
    case atStart => exact ⟨r2.1, r2.2, rfl, (HF3.out).mono (by omega), H3', HE0⟩
    case round =>
      obtain ⟨acc, ts1, rfl, HFj, HJ, HEj⟩ := hrel
      clear HF3 H3' HE0
      have hat := (HJ.out).at
      cases hmore : X.isN [44] ts1 with
      | false =>
        have HEn := hide (sev_done HEj.out hmore)
        go_wp2_with fail
        refine ((HJ.out).want hS x ((HFj.out).le (X.Cap.want x) hl2 (by omega))).mono ?_
        rintro e w4 ⟨rfl, H4⟩
        have HE : Hid (X.andThen X.take (X.several E x) (remT s L a) = (r1.1 ++ acc ++ (X.want x ts1).1, (X.want x ts1).2)) := by
          show _ = _
          unfold X.andThen
          rw [HR1.out, (HRest.out) _ _ HEn.out, List.append_assoc]
        clear HFj HJ HEj HEn HR1 HRest hat
        go_wp2_with fail
        go_ret
        exact ⟨_, _, rfl, (HFin.out _ _ w4 HE.out H4.out).1, (HFin.out _ _ w4 HE.out H4.out).2⟩
      | true =>
        have HEn := hide (sev_more hSh HEj.out hmore)
        have hnx := X.isN_next hmore
        go_wp2_with fail
        refine ((HJ.out).go (rtake_any s L dp hS) ((HFj.out).le X.Cap.take hl2 (by omega))).mono ?_
        rintro e w5 ⟨rfl, H5⟩
        have HF5 := hide ((HFj.out).take hnx)
        have hlt := X.take_lt hnx
        clear HJ HFj HEj hmore hnx
        generalize X.take ts1 = r3 at *
        go_wp2_with fail
        refine ((H5.out).go hE ((HF5.out).le hC hl2 (by omega))).mono ?_
        rintro e w6 ⟨rfl, H6⟩
        have HF6 := hide ((HF5.out).then hC)
        have hle := hSh.le r3.2
        clear H5 HF5
        generalize E r3.2 = r4 at *
        go_wp2_with fail
        refine ((H6.out).is hS [44]).mono ?_
        rintro e w7 ⟨rfl, H7⟩
        have hat7 := (H7.out).at
        clear H6
        rw [List.append_assoc, List.append_assoc] at H7 HF6
        go_wp2_with fail
        refine ⟨⟨acc ++ (r3.1 ++ r4.1), r4.2, rfl, HF6, H7, ?_⟩, by rw [hat, hat7]; omega⟩
        have := HEn.out
        rw [List.append_assoc acc] at this
        exact this

theorem WkM.deep {w : World} {rb : Nat} {s : ByteArray} {L : List Tk} {tv : Value} {a dp lo B k : Nat} {rv : Value} {vs : List Value} {ps : List X.Part} {Lo Hi : Nat → Nat} (h : WkM w rb s L tv a dp lo B k rv vs ps Lo Hi) (y : Nat) : WkM (w.setCell ⟨rb, 3, none⟩ (.int .i64 (y : Int))) rb s L tv a y lo B k rv vs ps Lo Hi := by
  obtain ⟨c, hr⟩ := h.rdr.raw
  have hon : On rb w (w.setCell ⟨rb, 3, none⟩ (.int .i64 (y : Int))) := On.set (Kp.refl _ w) 3 _
  exact h.moved hon (h.rdr.moved hon (hr.set3 (y : Int)) h.rdr.le)
set_option maxRecDepth 100000 in
set_option maxHeartbeats 1000000 in
theorem rpart_any (s : ByteArray) (L : List Tk) (dp : Nat) (E : X.R) (hE : ReadsM 54 E (fun _ => True) s L (dp + 1)) (hd : dp ≤ 100) : ReadsM 78 E (fun _ => True) s L dp := by
  intro rb tv a lo B k rv vs ps Lo Hi w h _ hl
  obtain ⟨c, hr⟩ := h.rdr.raw
  obtain ⟨⟨c0, c1, c2, c3⟩, ⟨f2, f3, f4⟩, -⟩ := hr.facts
  have HC := hide (hE rb tv a lo B k rv vs ps Lo Hi _ (h.deep (dp + 1)) trivial hl)
  have hon : On rb w (w.setCell ⟨rb, 3, none⟩ (.int .i64 ((dp + 1 : Nat) : Int))) := On.set (Kp.refl _ w) 3 _
  have HON := hide hon
  rw [Int.natCast_add] at HC HON
  clear h hr hon
  go_enter Tryz.func78, Tryz.ntmps78
  go_wp2_with fail
  refine (HC.out).mono ?_
  rintro e w1 ⟨rfl, H1⟩
  obtain ⟨a1, rv1, vs1, Lo1, Hi1, g1, g2, g3, g4⟩ := H1.out
  have HW1 := hide g1
  have HG2 := hide g2
  have HG3 := hide g3
  have HG4 := hide g4
  clear g1 g2 g3 g4 H1 c0 c1 c2 c3 f2 f3 f4 HC
  obtain ⟨c, hr⟩ := (HW1.out).rdr.raw
  obtain ⟨⟨c0, c1, c2, c3⟩, ⟨f2, f3, f4⟩, -⟩ := hr.facts
  clear hr
  go_wp2_with fail
  go_end0
  refine ⟨rfl, a1, rv1, vs1, Lo1, Hi1, (HW1.out).deep dp, HG2.out, fun g hg => ?_, ?_⟩
  · rcases (HG3.out) g hg with e | e
    · exact .inl e
    · exact .inr (by have := (HON.out).size; omega)
  · have hon2 : On rb w1 (w1.setCell ⟨rb, 3, none⟩ (.int .i64 (dp : Int))) := On.set (Kp.refl _ w1) 3 _
    exact Kp.trans (Kp.trans (Kp.mono HON.out (fun i _ e => .inl e)) HG4.out (fun i _ e => e)) hon2 (fun i _ e => .inl e)
end Go.Proofs.YtpoipoencbieeaaGreatDoor
