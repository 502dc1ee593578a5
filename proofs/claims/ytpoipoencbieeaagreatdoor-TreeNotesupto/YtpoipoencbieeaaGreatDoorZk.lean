/- The document's reader: rows of signs. -/
import Derived.Test.YtpoipoencbieeaaGreatDoorZi
import Derived.Test.YtpoipoencbieeaaGreatDoorYd
namespace Go.Proofs.YtpoipoencbieeaaGreatDoor
open Go.RowKit
open M
set_option maxRecDepth 100000 in
set_option maxHeartbeats 1000000 in
theorem rlevel3_any (s : ByteArray) (L : List Tk) (dp : Nat) (hS : TokS s L) (E : X.R) (hE : ReadsM 78 E (fun _ => True) s L dp) (hC : X.Cap E 1) (hSh : X.Shr E) : GivesM 79 (fun r => #[r, .int .i64 3]) (X.call E) s L dp := by
  intro rb tv a w h
  have HO := hide (rcall_any s L dp hS E hE hC hSh rb tv a w h)
  clear h
  go_enter Tryz.func79, Tryz.ntmps79
  go_wp2_with fail
  refine (HO.out).mono ?_
  rintro e w1 ⟨N, p, rfl, HP, HG⟩
  go_wp2_with fail
  go_ret
  exact ⟨N, p, rfl, HP, HG⟩
/-- What has been read begins a node. -/
theorem GvM.begin {w wr : World} {rb : Nat} {s : ByteArray} {L : List Tk} {tv : Value} {dp N : Nat} {p : X.Part} {ts1 : List X.Tok} (hr : rb < w.heap.size) (ht : ∀ q, tv.ownBlock = some q → q < w.heap.size) (h : GvM w rb s L tv dp p ts1 N wr) (k : Nat) :
    DnM ((wr.alloc (.cells #[.pointer (some ⟨N, 0, none⟩)] 28)).alloc (mcell k 0 [] (.slice (some ⟨wr.heap.size, 0, none⟩) 1 1) 0 0 0 0 false)) rb s L tv dp w.heap.size (wr.heap.size + 1) k (.slice (some ⟨wr.heap.size, 0, none⟩) 1 1) [p] ts1 ((wr.alloc (.cells #[.pointer (some ⟨N, 0, none⟩)] 28)).alloc (mcell k 0 [] (.slice (some ⟨wr.heap.size, 0, none⟩) 1 1) 0 0 0 0 false)) ∧
    On rb w ((wr.alloc (.cells #[.pointer (some ⟨N, 0, none⟩)] 28)).alloc (mcell k 0 [] (.slice (some ⟨wr.heap.size, 0, none⟩) 1 1) 0 0 0 0 false)) ∧ w.heap.size ≤ wr.heap.size := by
  obtain ⟨a1, g1, rfl, g3, g4⟩ := h
  have kB : Below wr.heap.size wr ((wr.alloc (.cells #[.pointer (some ⟨N, 0, none⟩)] 28)).alloc (mcell k 0 [] (.slice (some ⟨wr.heap.size, 0, none⟩) 1 1) 0 0 0 0 false)) := ((Below.refl _ wr).alloc (Nat.le_refl _) _).alloc (by simp) _
  exact ⟨DnM.refl ⟨g1.below kB, Mk.one g3 (Nat.le_refl _), hr, ht⟩, g4.to (On.ofBelow rb kB), g4.size⟩
set_option maxRecDepth 100000 in
set_option maxHeartbeats 2000000 in
theorem rlevel2_any (s : ByteArray) (L : List Tk) (dp : Nat) (hS : TokS s L) (E : X.R) (hO : GivesM 79 (fun r => #[r, .int .i64 3]) (X.call E) s L dp) (hSh : X.Shr (X.call E)) : GivesM 79 (fun r => #[r, .int .i64 2]) (X.product E) s L dp := by
  intro rb tv a w h
  obtain ⟨i0, hi0, hz0, hz1, hz2⟩ := info_parts infoM
  have hl2 := hS.len
  have hrl := h.lt
  have HTV : Hid (∀ q, tv.ownBlock = some q → q < w.heap.size) := fun q e => (h.own q e).2
  have HO := hide (hO rb tv a w h)
  have hal : (remT s L a).length ≤ L.length := by unfold remT; rw [List.length_map, List.length_drop]; omega
  clear h
  go_enter Tryz.func79, Tryz.ntmps79
  go_wp2_with fail
  refine (HO.out).mono ?_
  rintro e w1 ⟨N, p, rfl, HP, HG⟩
  have HE0 : Hid ((X.product E) (remT s L a) = X.rowL (X.call E) (X.isN [42]) [p] ((X.call E) (remT s L a)).2) := by
    show X.row (X.call E) (X.isN [42]) (remT s L a) = _
    rw [X.row_eq, HP.out]
  have hle0 := hSh.le (remT s L a)
  generalize hr1 : ((X.call E) (remT s L a)).2 = ts0 at *
  clear HO HP hr1
  go_wp2_with fail
  go_loopw [6] (fun v wr => ∃ (N : Nat) (p : X.Part) (ts1 : List X.Tok), v = .pointer (some ⟨N, 0, none⟩) ∧ ts1.length ≤ L.length ∧ Hid (GvM w rb s L tv dp p ts1 N wr) ∧ Hid ((X.product E) (remT s L a) = X.rowL (X.call E) (X.isN [42]) [p] ts1)) (fun _ wr => L.length - atM rb wr)
  case atStart => exact ⟨N, p, ts0, rfl, by omega, HG, HE0⟩
  case round =>
    clear HG HE0
    obtain ⟨N, p, ts1, rfl, htl, HG0, HEq⟩ := hrel
    have hat := (HG0.out).at
    go_wp2_with fail
    refine ((HG0.out).is hS [42]).mono ?_
    rintro e v1 ⟨rfl, HG1⟩
    clear HG0
    cases ha : X.isN [42] ts1 with
    | false =>
      have HEn : Hid ((X.product E) (remT s L a) = ([p], ts1)) := (HEq.out).trans (X.rowL_no ha)
      go_wp2_with fail
      go_ret
      exact ⟨N, p, rfl, (by rw [HEn.out]; rfl), (by rw [HEn.out]; exact HG1)⟩
    | true =>
      have HEn := hide ((HEq.out).trans (X.rowL_yes hSh (fun _ hc => X.isN_next hc) (p := [p]) (ts := ts1) ha))
      have hnx := X.isN_next ha
      have htk := X.take_lt hnx
      have htl2 := X.take_len ts1
      obtain ⟨HB1, HB2, HB3⟩ := ((HG1.out).begin hrl HTV.out 10 : _)
      have HD0 := hide HB1
      have HON := hide HB2
      clear HB1 HB2 HG1 HEq
      go_wp2_with fail
      refine ((HD0.out).go (rtake_any s L dp hS) (by simp only [List.length_singleton]; omega)).mono ?_
      rintro e w4 ⟨rfl, H4⟩
      obtain ⟨a4, rv4, vs4, Lo4, Hi4, m1, m2, m3, m4⟩ := H4.out
      have HW4 := hide m1
      have HM3 := hide m3
      have HM4 := hide m4
      have HL := hide (hO rb tv a4 w4 m1.rdr)
      rw [m2] at HL
      clear m1 m2 m3 m4 H4 HD0
      go_wp2_with fail
      refine (HL.out).mono ?_
      rintro e w5 ⟨N2, p2, rfl, HP2, HG5⟩
      have hsl := hSh.le (X.take ts1).2
      obtain ⟨b3, f3, hbl, hlo, HN, HV, HRow⟩ := (HW4.out).forTake HG5.out
      have hvb : vs4.length ≤ 1073741823 := by rw [HV.out, List.length_append, List.length_singleton]; omega
      clear HL
      go_wp2_with (at_builtin; refine wpList_append_lies _ rfl _ _ 75 rfl w.heap.size 28 i0 _ 1 8 Tryz.underlying75 hi0 hz0 hz1 hz2 rfl (by decide) rv4 vs4.length _ rfl ((HRow.out).alloc _) ⟨w5.heap.size, 0, none⟩ 1 1 [.pointer (some ⟨N2, 0, none⟩)] rfl rfl (World.news_of_block (cs := #[.pointer (some ⟨N2, 0, none⟩)]) (heap_alloc_new w5 _)) (by simp [Value.oneCell']) (by omega) (by unfold maxLen; omega) (by omega) (by simp; omega) (w5.heap.size + 1) (by simp) ?_; intro g cap5 w6 hown5 hgrow5 hat5 hlt5; have x1 : w6.cell? ⟨v1.heap.size + 1, 3, none⟩ = some rv4 := (hgrow5.cell_far ⟨v1.heap.size + 1, 3, none⟩ (by simp; omega) (HN.out)).trans (old1 hbl b3); have x2 : w6.frozen? ⟨v1.heap.size + 1, 3, none⟩ = false := (hgrow5.frozen_far ⟨v1.heap.size + 1, 3, none⟩ (by simp; omega) (HN.out)).trans ((World.frozen?_alloc_old _ _ ⟨v1.heap.size + 1, 3, none⟩ (by simp; omega)).trans f3); have HX := hide ((HW4.out).take HG5.out hgrow5 hown5 hat5); clear hown5 hgrow5)
      have HGn := hide ((DnM.trans HM3.out HM4.out HX.out).closed HON.out (fun g hg => by simp only [Value.ownBlock, Option.some.injEq] at hg; omega))
      have hat9 := (HGn.out).at
      refine ⟨⟨_, _, _, rfl, by omega, HGn, ?_⟩, by rw [hat, hat9]; omega⟩
      have h1 := HEn.out
      rw [show (X.andThen X.take (X.call E) ts1).1 = (X.take ts1).1 ++ [p2] by show _ ++ _ = _; rw [HP2.out], ← List.append_assoc] at h1
      exact h1
set_option maxRecDepth 100000 in
set_option maxHeartbeats 2000000 in
theorem rlevel1_any (s : ByteArray) (L : List Tk) (dp : Nat) (hS : TokS s L) (E : X.R) (hO : GivesM 79 (fun r => #[r, .int .i64 2]) (X.product E) s L dp) (hSh : X.Shr (X.product E)) : GivesM 79 (fun r => #[r, .int .i64 1]) (X.sum E) s L dp := by
  intro rb tv a w h
  obtain ⟨i0, hi0, hz0, hz1, hz2⟩ := info_parts infoM
  have hl2 := hS.len
  have hrl := h.lt
  have HTV : Hid (∀ q, tv.ownBlock = some q → q < w.heap.size) := fun q e => (h.own q e).2
  have HO := hide (hO rb tv a w h)
  have hal : (remT s L a).length ≤ L.length := by unfold remT; rw [List.length_map, List.length_drop]; omega
  clear h
  go_enter Tryz.func79, Tryz.ntmps79
  go_wp2_with fail
  refine (HO.out).mono ?_
  rintro e w1 ⟨N, p, rfl, HP, HG⟩
  have HE0 : Hid ((X.sum E) (remT s L a) = X.rowL (X.product E) (fun ts => X.isN [43] ts || X.isN [45] ts || X.isN [43, 43] ts) [p] ((X.product E) (remT s L a)).2) := by
    show X.row (X.product E) (fun ts => X.isN [43] ts || X.isN [45] ts || X.isN [43, 43] ts) (remT s L a) = _
    rw [X.row_eq, HP.out]
  have hle0 := hSh.le (remT s L a)
  generalize hr1 : ((X.product E) (remT s L a)).2 = ts0 at *
  clear HO HP hr1
  go_wp2_with fail
  go_loopw [6] (fun v wr => ∃ (N : Nat) (p : X.Part) (ts1 : List X.Tok), v = .pointer (some ⟨N, 0, none⟩) ∧ ts1.length ≤ L.length ∧ Hid (GvM w rb s L tv dp p ts1 N wr) ∧ Hid ((X.sum E) (remT s L a) = X.rowL (X.product E) (fun ts => X.isN [43] ts || X.isN [45] ts || X.isN [43, 43] ts) [p] ts1)) (fun _ wr => L.length - atM rb wr)
  case atStart => exact ⟨N, p, ts0, rfl, by omega, HG, HE0⟩
  case round =>
    clear HG HE0
    obtain ⟨N, p, ts1, rfl, htl, HG0, HEq⟩ := hrel
    have hat := (HG0.out).at
    go_wp2_with fail
    refine ((HG0.out).is hS [43]).mono ?_
    rintro e v1 ⟨rfl, HG1⟩
    clear HG0
    go_wp2_with fail
    refine ((HG1.out).is hS [45]).mono ?_
    rintro e v2 ⟨rfl, HG2⟩
    clear HG1
    go_wp2_with fail
    refine ((HG2.out).is hS [43, 43]).mono ?_
    rintro e v3 ⟨rfl, HG3⟩
    clear HG2
    cases ha : X.isN [43] ts1 with
    | true =>
      have HEn := hide ((HEq.out).trans (X.rowL_yes hSh (fun _ hc => by
          rcases (Bool.or_eq_true _ _).mp hc with h | h
          · rcases (Bool.or_eq_true _ _).mp h with h | h <;> exact X.isN_next h
          · exact X.isN_next h) (p := [p]) (ts := ts1) (show ((X.isN [43] ts1 || X.isN [45] ts1 || X.isN [43, 43] ts1) : Bool) = true by rw [ha]; rfl)))
      have hnx := X.isN_next ha
      have htk := X.take_lt hnx
      have htl2 := X.take_len ts1
      obtain ⟨HB1, HB2, HB3⟩ := ((HG3.out).begin hrl HTV.out 10 : _)
      have HD0 := hide HB1
      have HON := hide HB2
      clear HB1 HB2 HG3 HEq
      go_wp2_with fail
      refine ((HD0.out).go (rtake_any s L dp hS) (by simp only [List.length_singleton]; omega)).mono ?_
      rintro e w4 ⟨rfl, H4⟩
      obtain ⟨a4, rv4, vs4, Lo4, Hi4, m1, m2, m3, m4⟩ := H4.out
      have HW4 := hide m1
      have HM3 := hide m3
      have HM4 := hide m4
      have HL := hide (hO rb tv a4 w4 m1.rdr)
      rw [m2] at HL
      clear m1 m2 m3 m4 H4 HD0
      go_wp2_with fail
      refine (HL.out).mono ?_
      rintro e w5 ⟨N2, p2, rfl, HP2, HG5⟩
      have hsl := hSh.le (X.take ts1).2
      obtain ⟨b3, f3, hbl, hlo, HN, HV, HRow⟩ := (HW4.out).forTake HG5.out
      have hvb : vs4.length ≤ 1073741823 := by rw [HV.out, List.length_append, List.length_singleton]; omega
      clear HL
      go_wp2_with (at_builtin; refine wpList_append_lies _ rfl _ _ 75 rfl w.heap.size 28 i0 _ 1 8 Tryz.underlying75 hi0 hz0 hz1 hz2 rfl (by decide) rv4 vs4.length _ rfl ((HRow.out).alloc _) ⟨w5.heap.size, 0, none⟩ 1 1 [.pointer (some ⟨N2, 0, none⟩)] rfl rfl (World.news_of_block (cs := #[.pointer (some ⟨N2, 0, none⟩)]) (heap_alloc_new w5 _)) (by simp [Value.oneCell']) (by omega) (by unfold maxLen; omega) (by omega) (by simp; omega) (w5.heap.size + 1) (by simp) ?_; intro g cap5 w6 hown5 hgrow5 hat5 hlt5; have x1 : w6.cell? ⟨v3.heap.size + 1, 3, none⟩ = some rv4 := (hgrow5.cell_far ⟨v3.heap.size + 1, 3, none⟩ (by simp; omega) (HN.out)).trans (old1 hbl b3); have x2 : w6.frozen? ⟨v3.heap.size + 1, 3, none⟩ = false := (hgrow5.frozen_far ⟨v3.heap.size + 1, 3, none⟩ (by simp; omega) (HN.out)).trans ((World.frozen?_alloc_old _ _ ⟨v3.heap.size + 1, 3, none⟩ (by simp; omega)).trans f3); have HX := hide ((HW4.out).take HG5.out hgrow5 hown5 hat5); clear hown5 hgrow5)
      have HGn := hide ((DnM.trans HM3.out HM4.out HX.out).closed HON.out (fun g hg => by simp only [Value.ownBlock, Option.some.injEq] at hg; omega))
      have hat9 := (HGn.out).at
      refine ⟨⟨_, _, _, rfl, by omega, HGn, ?_⟩, by rw [hat, hat9]; omega⟩
      have h1 := HEn.out
      rw [show (X.andThen X.take (X.product E) ts1).1 = (X.take ts1).1 ++ [p2] by show _ ++ _ = _; rw [HP2.out], ← List.append_assoc] at h1
      exact h1
    | false =>
      cases hb : X.isN [45] ts1 with
      | true =>
        have HEn := hide ((HEq.out).trans (X.rowL_yes hSh (fun _ hc => by
            rcases (Bool.or_eq_true _ _).mp hc with h | h
            · rcases (Bool.or_eq_true _ _).mp h with h | h <;> exact X.isN_next h
            · exact X.isN_next h) (p := [p]) (ts := ts1) (show ((X.isN [43] ts1 || X.isN [45] ts1 || X.isN [43, 43] ts1) : Bool) = true by rw [ha, hb]; rfl)))
        have hnx := X.isN_next hb
        have htk := X.take_lt hnx
        have htl2 := X.take_len ts1
        obtain ⟨HB1, HB2, HB3⟩ := ((HG3.out).begin hrl HTV.out 10 : _)
        have HD0 := hide HB1
        have HON := hide HB2
        clear HB1 HB2 HG3 HEq
        go_wp2_with fail
        refine ((HD0.out).go (rtake_any s L dp hS) (by simp only [List.length_singleton]; omega)).mono ?_
        rintro e w4 ⟨rfl, H4⟩
        obtain ⟨a4, rv4, vs4, Lo4, Hi4, m1, m2, m3, m4⟩ := H4.out
        have HW4 := hide m1
        have HM3 := hide m3
        have HM4 := hide m4
        have HL := hide (hO rb tv a4 w4 m1.rdr)
        rw [m2] at HL
        clear m1 m2 m3 m4 H4 HD0
        go_wp2_with fail
        refine (HL.out).mono ?_
        rintro e w5 ⟨N2, p2, rfl, HP2, HG5⟩
        have hsl := hSh.le (X.take ts1).2
        obtain ⟨b3, f3, hbl, hlo, HN, HV, HRow⟩ := (HW4.out).forTake HG5.out
        have hvb : vs4.length ≤ 1073741823 := by rw [HV.out, List.length_append, List.length_singleton]; omega
        clear HL
        go_wp2_with (at_builtin; refine wpList_append_lies _ rfl _ _ 75 rfl w.heap.size 28 i0 _ 1 8 Tryz.underlying75 hi0 hz0 hz1 hz2 rfl (by decide) rv4 vs4.length _ rfl ((HRow.out).alloc _) ⟨w5.heap.size, 0, none⟩ 1 1 [.pointer (some ⟨N2, 0, none⟩)] rfl rfl (World.news_of_block (cs := #[.pointer (some ⟨N2, 0, none⟩)]) (heap_alloc_new w5 _)) (by simp [Value.oneCell']) (by omega) (by unfold maxLen; omega) (by omega) (by simp; omega) (w5.heap.size + 1) (by simp) ?_; intro g cap5 w6 hown5 hgrow5 hat5 hlt5; have x1 : w6.cell? ⟨v3.heap.size + 1, 3, none⟩ = some rv4 := (hgrow5.cell_far ⟨v3.heap.size + 1, 3, none⟩ (by simp; omega) (HN.out)).trans (old1 hbl b3); have x2 : w6.frozen? ⟨v3.heap.size + 1, 3, none⟩ = false := (hgrow5.frozen_far ⟨v3.heap.size + 1, 3, none⟩ (by simp; omega) (HN.out)).trans ((World.frozen?_alloc_old _ _ ⟨v3.heap.size + 1, 3, none⟩ (by simp; omega)).trans f3); have HX := hide ((HW4.out).take HG5.out hgrow5 hown5 hat5); clear hown5 hgrow5)
        have HGn := hide ((DnM.trans HM3.out HM4.out HX.out).closed HON.out (fun g hg => by simp only [Value.ownBlock, Option.some.injEq] at hg; omega))
        have hat9 := (HGn.out).at
        refine ⟨⟨_, _, _, rfl, by omega, HGn, ?_⟩, by rw [hat, hat9]; omega⟩
        have h1 := HEn.out
        rw [show (X.andThen X.take (X.product E) ts1).1 = (X.take ts1).1 ++ [p2] by show _ ++ _ = _; rw [HP2.out], ← List.append_assoc] at h1
        exact h1
      | false =>
        cases hc : X.isN [43, 43] ts1 with
        | true =>
          have HEn := hide ((HEq.out).trans (X.rowL_yes hSh (fun _ hc => by
              rcases (Bool.or_eq_true _ _).mp hc with h | h
              · rcases (Bool.or_eq_true _ _).mp h with h | h <;> exact X.isN_next h
              · exact X.isN_next h) (p := [p]) (ts := ts1) (show ((X.isN [43] ts1 || X.isN [45] ts1 || X.isN [43, 43] ts1) : Bool) = true by rw [ha, hb, hc]; rfl)))
          have hnx := X.isN_next hc
          have htk := X.take_lt hnx
          have htl2 := X.take_len ts1
          obtain ⟨HB1, HB2, HB3⟩ := ((HG3.out).begin hrl HTV.out 10 : _)
          have HD0 := hide HB1
          have HON := hide HB2
          clear HB1 HB2 HG3 HEq
          go_wp2_with fail
          refine ((HD0.out).go (rtake_any s L dp hS) (by simp only [List.length_singleton]; omega)).mono ?_
          rintro e w4 ⟨rfl, H4⟩
          obtain ⟨a4, rv4, vs4, Lo4, Hi4, m1, m2, m3, m4⟩ := H4.out
          have HW4 := hide m1
          have HM3 := hide m3
          have HM4 := hide m4
          have HL := hide (hO rb tv a4 w4 m1.rdr)
          rw [m2] at HL
          clear m1 m2 m3 m4 H4 HD0
          go_wp2_with fail
          refine (HL.out).mono ?_
          rintro e w5 ⟨N2, p2, rfl, HP2, HG5⟩
          have hsl := hSh.le (X.take ts1).2
          obtain ⟨b3, f3, hbl, hlo, HN, HV, HRow⟩ := (HW4.out).forTake HG5.out
          have hvb : vs4.length ≤ 1073741823 := by rw [HV.out, List.length_append, List.length_singleton]; omega
          clear HL
          go_wp2_with (at_builtin; refine wpList_append_lies _ rfl _ _ 75 rfl w.heap.size 28 i0 _ 1 8 Tryz.underlying75 hi0 hz0 hz1 hz2 rfl (by decide) rv4 vs4.length _ rfl ((HRow.out).alloc _) ⟨w5.heap.size, 0, none⟩ 1 1 [.pointer (some ⟨N2, 0, none⟩)] rfl rfl (World.news_of_block (cs := #[.pointer (some ⟨N2, 0, none⟩)]) (heap_alloc_new w5 _)) (by simp [Value.oneCell']) (by omega) (by unfold maxLen; omega) (by omega) (by simp; omega) (w5.heap.size + 1) (by simp) ?_; intro g cap5 w6 hown5 hgrow5 hat5 hlt5; have x1 : w6.cell? ⟨v3.heap.size + 1, 3, none⟩ = some rv4 := (hgrow5.cell_far ⟨v3.heap.size + 1, 3, none⟩ (by simp; omega) (HN.out)).trans (old1 hbl b3); have x2 : w6.frozen? ⟨v3.heap.size + 1, 3, none⟩ = false := (hgrow5.frozen_far ⟨v3.heap.size + 1, 3, none⟩ (by simp; omega) (HN.out)).trans ((World.frozen?_alloc_old _ _ ⟨v3.heap.size + 1, 3, none⟩ (by simp; omega)).trans f3); have HX := hide ((HW4.out).take HG5.out hgrow5 hown5 hat5); clear hown5 hgrow5)
          have HGn := hide ((DnM.trans HM3.out HM4.out HX.out).closed HON.out (fun g hg => by simp only [Value.ownBlock, Option.some.injEq] at hg; omega))
          have hat9 := (HGn.out).at
          refine ⟨⟨_, _, _, rfl, by omega, HGn, ?_⟩, by rw [hat, hat9]; omega⟩
          have h1 := HEn.out
          rw [show (X.andThen X.take (X.product E) ts1).1 = (X.take ts1).1 ++ [p2] by show _ ++ _ = _; rw [HP2.out], ← List.append_assoc] at h1
          exact h1
        | false =>
          have HEn : Hid ((X.sum E) (remT s L a) = ([p], ts1)) := (HEq.out).trans (X.rowL_no (by simp only [ha, hb, hc, Bool.or_self]))
          go_wp2_with fail
          go_ret
          exact ⟨N, p, rfl, (by rw [HEn.out]; rfl), (by rw [HEn.out]; exact HG3)⟩
set_option maxRecDepth 100000 in
set_option maxHeartbeats 2000000 in
theorem rlevel0_any (s : ByteArray) (L : List Tk) (dp : Nat) (hS : TokS s L) (E : X.R) (hO : GivesM 79 (fun r => #[r, .int .i64 1]) (X.sum E) s L dp) (hSh : X.Shr (X.sum E)) : GivesM 79 (fun r => #[r, .int .i64 0]) (X.comparison E) s L dp := by
  intro rb tv a w h
  obtain ⟨i0, hi0, hz0, hz1, hz2⟩ := info_parts infoM
  have hl2 := hS.len
  have hrl := h.lt
  have HTV : Hid (∀ q, tv.ownBlock = some q → q < w.heap.size) := fun q e => (h.own q e).2
  have HO := hide (hO rb tv a w h)
  have hal : (remT s L a).length ≤ L.length := by unfold remT; rw [List.length_map, List.length_drop]; omega
  clear h
  go_enter Tryz.func79, Tryz.ntmps79
  go_wp2_with fail
  refine (HO.out).mono ?_
  rintro e w1 ⟨N, p, rfl, HP, HG⟩
  have HE0 : Hid ((X.sum E) (remT s L a) = ([p], ((X.sum E) (remT s L a)).2)) := by
    show _ = _
    rw [← HP.out]
  have hle0 := hSh.le (remT s L a)
  generalize hr1 : ((X.sum E) (remT s L a)).2 = ts0 at *
  clear HO HP hr1
  go_wp2_with fail
  go_loopw [6] (fun v wr => ∃ (N : Nat) (p : X.Part) (ts1 : List X.Tok), v = .pointer (some ⟨N, 0, none⟩) ∧ ts1.length ≤ L.length ∧ Hid (GvM w rb s L tv dp p ts1 N wr) ∧ Hid ((X.sum E) (remT s L a) = ([p], ts1))) (fun _ wr => L.length - atM rb wr)
  case atStart => exact ⟨N, p, ts0, rfl, by omega, HG, HE0⟩
  case round =>
    clear HG HE0
    obtain ⟨N, p, ts1, rfl, htl, HG0, HEq⟩ := hrel
    have hat := (HG0.out).at
    go_wp2_with fail
    refine ((HG0.out).is hS [61, 61]).mono ?_
    rintro e v1 ⟨rfl, HG1⟩
    clear HG0
    go_wp2_with fail
    refine ((HG1.out).is hS [60]).mono ?_
    rintro e v2 ⟨rfl, HG2⟩
    clear HG1
    cases ha : X.isN [61, 61] ts1 with
    | true =>
      have HEn : Hid ((X.comparison E) (remT s L a) = ([.br 10 ([p] ++ ((X.take ts1).1 ++ ((X.sum E) (X.take ts1).2).1))], ((X.sum E) (X.take ts1).2).2)) := by
        have e0 := HEq.out
        show _ = _
        rw [X.comparison_yes (by rw [e0]; exact (show ((X.isN [61, 61] ts1 || X.isN [60] ts1) : Bool) = true by rw [ha]; rfl)), e0]
      have hnx := X.isN_next ha
      have htk := X.take_lt hnx
      have htl2 := X.take_len ts1
      obtain ⟨HB1, HB2, HB3⟩ := ((HG2.out).begin hrl HTV.out 10 : _)
      have HD0 := hide HB1
      have HON := hide HB2
      clear HB1 HB2 HG2 HEq
      go_wp2_with fail
      refine ((HD0.out).go (rtake_any s L dp hS) (by simp only [List.length_singleton]; omega)).mono ?_
      rintro e w4 ⟨rfl, H4⟩
      obtain ⟨a4, rv4, vs4, Lo4, Hi4, m1, m2, m3, m4⟩ := H4.out
      have HW4 := hide m1
      have HM3 := hide m3
      have HM4 := hide m4
      have HL := hide (hO rb tv a4 w4 m1.rdr)
      rw [m2] at HL
      clear m1 m2 m3 m4 H4 HD0
      go_wp2_with fail
      refine (HL.out).mono ?_
      rintro e w5 ⟨N2, p2, rfl, HP2, HG5⟩
      have hsl := hSh.le (X.take ts1).2
      obtain ⟨b3, f3, hbl, hlo, HN, HV, HRow⟩ := (HW4.out).forTake HG5.out
      have hvb : vs4.length ≤ 1073741823 := by rw [HV.out, List.length_append, List.length_singleton]; omega
      clear HL
      go_wp2_with (at_builtin; refine wpList_append_lies _ rfl _ _ 75 rfl w.heap.size 28 i0 _ 1 8 Tryz.underlying75 hi0 hz0 hz1 hz2 rfl (by decide) rv4 vs4.length _ rfl ((HRow.out).alloc _) ⟨w5.heap.size, 0, none⟩ 1 1 [.pointer (some ⟨N2, 0, none⟩)] rfl rfl (World.news_of_block (cs := #[.pointer (some ⟨N2, 0, none⟩)]) (heap_alloc_new w5 _)) (by simp [Value.oneCell']) (by omega) (by unfold maxLen; omega) (by omega) (by simp; omega) (w5.heap.size + 1) (by simp) ?_; intro g cap5 w6 hown5 hgrow5 hat5 hlt5; have x1 : w6.cell? ⟨v2.heap.size + 1, 3, none⟩ = some rv4 := (hgrow5.cell_far ⟨v2.heap.size + 1, 3, none⟩ (by simp; omega) (HN.out)).trans (old1 hbl b3); have x2 : w6.frozen? ⟨v2.heap.size + 1, 3, none⟩ = false := (hgrow5.frozen_far ⟨v2.heap.size + 1, 3, none⟩ (by simp; omega) (HN.out)).trans ((World.frozen?_alloc_old _ _ ⟨v2.heap.size + 1, 3, none⟩ (by simp; omega)).trans f3); have HX := hide ((HW4.out).take HG5.out hgrow5 hown5 hat5); clear hown5 hgrow5)
      have HGn := hide ((DnM.trans HM3.out HM4.out HX.out).closed HON.out (fun g hg => by simp only [Value.ownBlock, Option.some.injEq] at hg; omega))
      have hat9 := (HGn.out).at
      go_ret
      exact ⟨_, .br 10 ([p] ++ (X.take ts1).1 ++ [p2]), rfl, (by show (X.comparison E (remT s L a)).1 = _; rw [HEn.out, HP2.out, ← List.append_assoc]), (by rw [HEn.out]; exact HGn)⟩
    | false =>
      cases hb : X.isN [60] ts1 with
      | true =>
        have HEn : Hid ((X.comparison E) (remT s L a) = ([.br 10 ([p] ++ ((X.take ts1).1 ++ ((X.sum E) (X.take ts1).2).1))], ((X.sum E) (X.take ts1).2).2)) := by
          have e0 := HEq.out
          show _ = _
          rw [X.comparison_yes (by rw [e0]; exact (show ((X.isN [61, 61] ts1 || X.isN [60] ts1) : Bool) = true by rw [ha, hb]; rfl)), e0]
        have hnx := X.isN_next hb
        have htk := X.take_lt hnx
        have htl2 := X.take_len ts1
        obtain ⟨HB1, HB2, HB3⟩ := ((HG2.out).begin hrl HTV.out 10 : _)
        have HD0 := hide HB1
        have HON := hide HB2
        clear HB1 HB2 HG2 HEq
        go_wp2_with fail
        refine ((HD0.out).go (rtake_any s L dp hS) (by simp only [List.length_singleton]; omega)).mono ?_
        rintro e w4 ⟨rfl, H4⟩
        obtain ⟨a4, rv4, vs4, Lo4, Hi4, m1, m2, m3, m4⟩ := H4.out
        have HW4 := hide m1
        have HM3 := hide m3
        have HM4 := hide m4
        have HL := hide (hO rb tv a4 w4 m1.rdr)
        rw [m2] at HL
        clear m1 m2 m3 m4 H4 HD0
        go_wp2_with fail
        refine (HL.out).mono ?_
        rintro e w5 ⟨N2, p2, rfl, HP2, HG5⟩
        have hsl := hSh.le (X.take ts1).2
        obtain ⟨b3, f3, hbl, hlo, HN, HV, HRow⟩ := (HW4.out).forTake HG5.out
        have hvb : vs4.length ≤ 1073741823 := by rw [HV.out, List.length_append, List.length_singleton]; omega
        clear HL
        go_wp2_with (at_builtin; refine wpList_append_lies _ rfl _ _ 75 rfl w.heap.size 28 i0 _ 1 8 Tryz.underlying75 hi0 hz0 hz1 hz2 rfl (by decide) rv4 vs4.length _ rfl ((HRow.out).alloc _) ⟨w5.heap.size, 0, none⟩ 1 1 [.pointer (some ⟨N2, 0, none⟩)] rfl rfl (World.news_of_block (cs := #[.pointer (some ⟨N2, 0, none⟩)]) (heap_alloc_new w5 _)) (by simp [Value.oneCell']) (by omega) (by unfold maxLen; omega) (by omega) (by simp; omega) (w5.heap.size + 1) (by simp) ?_; intro g cap5 w6 hown5 hgrow5 hat5 hlt5; have x1 : w6.cell? ⟨v2.heap.size + 1, 3, none⟩ = some rv4 := (hgrow5.cell_far ⟨v2.heap.size + 1, 3, none⟩ (by simp; omega) (HN.out)).trans (old1 hbl b3); have x2 : w6.frozen? ⟨v2.heap.size + 1, 3, none⟩ = false := (hgrow5.frozen_far ⟨v2.heap.size + 1, 3, none⟩ (by simp; omega) (HN.out)).trans ((World.frozen?_alloc_old _ _ ⟨v2.heap.size + 1, 3, none⟩ (by simp; omega)).trans f3); have HX := hide ((HW4.out).take HG5.out hgrow5 hown5 hat5); clear hown5 hgrow5)
        have HGn := hide ((DnM.trans HM3.out HM4.out HX.out).closed HON.out (fun g hg => by simp only [Value.ownBlock, Option.some.injEq] at hg; omega))
        have hat9 := (HGn.out).at
        go_ret
        exact ⟨_, .br 10 ([p] ++ (X.take ts1).1 ++ [p2]), rfl, (by show (X.comparison E (remT s L a)).1 = _; rw [HEn.out, HP2.out, ← List.append_assoc]), (by rw [HEn.out]; exact HGn)⟩
      | false =>
        have HEn : Hid ((X.comparison E) (remT s L a) = ([p], ts1)) := by
          show _ = _
          rw [X.comparison_no (by rw [HEq.out]; simp only [ha, hb, Bool.or_self]), HEq.out]
        go_wp2_with fail
        go_ret
        exact ⟨N, p, rfl, (by rw [HEn.out]; rfl), (by rw [HEn.out]; exact HG2)⟩
end Go.Proofs.YtpoipoencbieeaaGreatDoor
