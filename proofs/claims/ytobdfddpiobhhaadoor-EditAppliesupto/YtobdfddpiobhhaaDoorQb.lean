/- The law EditApplies answers true. -/
import Derived.Test.YtobdfddpiobhhaaDoorQa
import Derived.Test.YtobdfddpiobhhaaDoorAb
import Derived.Test.YtobdfddpiobhhaaDoorIa
namespace Go.Proofs.YtobdfddpiobhhaaDoor
open Go.RowKit
open EM
set_option maxHeartbeats 1000000 in
theorem plain_no (n : Nat) (v : Value) (L : List Rw) (w : World) (h : IsL w v L) (hf : flt n L ≠ 0) :
    Calls Tryd.prog 13 #[.int .i64 n, v] w fun e w' => e = .returned (.tuple #[.slice none 0 0, errV (flt n L)]) ∧ Below w.heap.size w w' := by
  have H := hide h
  have HF := hide (show errV (flt n L) = .iface 55 (.int .i64 (flt n L)) from if_neg hf)
  clear h
  go_enter Tryd.func13, Tryd.ntmps13
  go_wp2_with fail
  refine (fault_any n v L w H.out).mono ?_
  rintro e w1 ⟨rfl, hb1⟩
  rw [HF.out]
  go_wp2_with fail
  go_ret2
  exact ⟨by rw [HF.out]; rfl, hb1⟩
set_option maxHeartbeats 1000000 in
theorem plain_yes (n : Nat) (v : Value) (Ls : List Sp) (w : World) (h : IsL w v (Ls.map raw)) (hb : ∀ k, v.ownBlock = some k → k < w.heap.size) (hok : Ok 0 n Ls) (hn : n ≤ 1073741824) (ht : tot Ls ≤ 1073741824) (hl : Ls.length ≤ 1073741824) :
    Calls Tryd.prog 13 #[.int .i64 n, v] w fun e w' => ∃ v', e = .returned (.tuple #[v', .nilIface]) ∧ w'.ownsRow w.heap.size 53 3 v' (EM.plainOf Ls).length (((EM.plainOf Ls).map raw).flatMap Rw.vals) ∧ Below w.heap.size w w' := by
  have H := hide h
  have HB := hide hb
  have HF := hide (show errV (flt n (Ls.map raw)) = .nilIface by rw [flt_Ok hok]; rfl)
  have HOK := hide hok
  clear h hok hb
  go_enter Tryd.func13, Tryd.ntmps13
  go_wp2_with fail
  refine (fault_any n v _ w H.out).mono ?_
  rintro e w1 ⟨rfl, hb1⟩
  rw [HF.out]
  go_wp2_with fail
  refine (plainOf_any v Ls w1 ((H.out).below hb1) (fun k hk => Nat.lt_of_lt_of_le (HB.out k hk) hb1.size) n HOK.out hn ht hl).mono ?_
  rintro e w2 ⟨v', rfl, ho, hb2⟩
  have HO := hide ho
  clear ho
  go_wp2_with fail
  go_ret2
  exact ⟨_, rfl, owns_base HO.out hb1.size, hb1.trans (hb2.mono hb1.size)⟩
set_option maxRecDepth 100000 in
set_option maxHeartbeats 4000000 in
theorem applies_no (s : ByteArray) (n : Int) (v : Value) (L : List Rw) (w : World) (hE : ErrT w) (h : IsL w v L) (hl : L.length ≤ 1073741824) (hf : flt s.size L ≠ 0) :
    Calls Tryd.prog 3 #[.string s, .int .i64 n, v] w fun e w' => e = .returned (.bool true) ∧ Below w.heap.size w w' := by
  have H := hide h
  have hf1 : (flt (s.size : Int) L == 0) = false := by simpa using hf
  have HF := hide hf
  clear h hf
  go_enter Tryd.func3, Tryd.ntmps3
  go_wp2_with fail
  refine (spans_any v L w H.out hl).mono ?_
  rintro e w1 ⟨v1, rfl, ho1, hb1⟩
  have H1 := hide (IsL.ofOwns ho1 (by omega))
  clear ho1
  go_wp2_with fail
  refine (fault_any n v L w1 ((H.out).below hb1)).mono ?_
  rintro e w2 ⟨rfl, hb2⟩
  have B2 : Below w.heap.size w w2 := hb1.trans (hb2.mono hb1.size)
  go_wp2_with fail
  refine (refFault_any n v1 L w2 ((H1.out).below hb2)).mono ?_
  rintro e w3 ⟨rfl, hb3⟩
  have B3 : Below w.heap.size w w3 := B2.trans (hb3.mono B2.size)
  have H3 := hide (((H1.out).below hb2).below hb3)
  go_wp2_with fail
  refine (error_same (flt n L) w3 (hE.below B3)).mono ?_
  rintro e w4 ⟨rfl, hb4⟩
  have B4 : Below w.heap.size w w4 := B3.trans (hb4.mono B3.size)
  have H4 := hide ((H3.out).below hb4)
  go_wp2_with fail
  refine (apply_no s v L w4 ((H.out).below B4) HF.out).mono ?_
  rintro e w5 ⟨rfl, hb5⟩
  have B5 : Below w.heap.size w w5 := B4.trans (hb5.mono B4.size)
  have H5 := hide ((H4.out).below hb5)
  go_wp2_with fail
  refine (refApply_no s v1 L w5 H5.out HF.out).mono ?_
  rintro e w6 ⟨rfl, hb6⟩
  have B6 : Below w.heap.size w w6 := B5.trans (hb6.mono B5.size)
  go_wp2_with fail
  refine (error_same (flt s.size L) w6 (hE.below B6)).mono ?_
  rintro e w7 ⟨rfl, hb7⟩
  have B7 : Below w.heap.size w w7 := B6.trans (hb7.mono B6.size)
  go_wp2_with fail
  refine (plain_no s.size v L w7 ((H.out).below B7) HF.out).mono ?_
  rintro e w8 ⟨rfl, hb8⟩
  have B8 : Below w.heap.size w w8 := B7.trans (hb8.mono B7.size)
  go_wp2_with fail
  refine (error_same (flt s.size L) w8 (hE.below B8)).mono ?_
  rintro e w9 ⟨rfl, hb9⟩
  go_wp2_with fail
  go_ret
  exact ⟨rfl, B8.trans (hb9.mono B8.size)⟩
set_option maxRecDepth 100000 in
set_option maxHeartbeats 4000000 in
theorem applies_yes (s : ByteArray) (n : Int) (v : Value) (Ls : List Sp) (w : World) (hE : ErrT w) (h : IsL w v (Ls.map raw)) (hb : ∀ k, v.ownBlock = some k → k < w.heap.size) (hs : s.size ≤ 1048576) (ht : tot Ls ≤ 1048576) (hl : Ls.length ≤ 1048576) (hok : Ok 0 s.size Ls) :
    Calls Tryd.prog 3 #[.string s, .int .i64 n, v] w fun e w' => e = .returned (.bool true) ∧ Below w.heap.size w w' := by
  have H := hide h
  have HB := hide hb
  have HOK := hide hok
  have HP := hide (plain_small Ls s.size hok)
  have HQ := hide (plainOf_eq Ls s.size hok)
  clear h hok hb
  go_enter Tryd.func3, Tryd.ntmps3
  go_wp2_with fail
  refine (spans_any v _ w H.out (by rw [List.length_map]; omega)).mono ?_
  rintro e w1 ⟨v1, rfl, ho1, hb1⟩
  have H1 := hide (IsL.ofOwns ho1 (by rw [List.length_map]; omega))
  clear ho1
  go_wp2_with fail
  refine (fault_any n v _ w1 ((H.out).below hb1)).mono ?_
  rintro e w2 ⟨rfl, hb2⟩
  have B2 : Below w.heap.size w w2 := hb1.trans (hb2.mono hb1.size)
  go_wp2_with fail
  refine (refFault_any n v1 _ w2 ((H1.out).below hb2)).mono ?_
  rintro e w3 ⟨rfl, hb3⟩
  have B3 : Below w.heap.size w w3 := B2.trans (hb3.mono B2.size)
  have H3 := hide (((H1.out).below hb2).below hb3)
  go_wp2_with fail
  refine (error_same (flt n (Ls.map raw)) w3 (hE.below B3)).mono ?_
  rintro e w4 ⟨rfl, hb4⟩
  have B4 : Below w.heap.size w w4 := B3.trans (hb4.mono B3.size)
  have H4 := hide ((H3.out).below hb4)
  go_wp2_with fail
  refine (apply_yes s v Ls w4 ((H.out).below B4) (fun k hk => Nat.lt_of_lt_of_le (HB.out k hk) B4.size) hs (by omega) HOK.out).mono ?_
  rintro e w5 ⟨rfl, hb5⟩
  have B5 : Below w.heap.size w w5 := B4.trans (hb5.mono B4.size)
  have H5 := hide ((H4.out).below hb5)
  go_wp2_with fail
  refine (refApply_yes s v1 Ls w5 H5.out hs (by omega) HOK.out).mono ?_
  rintro e w6 ⟨rfl, hb6⟩
  have B6 : Below w.heap.size w w6 := B5.trans (hb6.mono B5.size)
  have H6 := hide ((H5.out).below hb6)
  go_wp2_with fail
  refine (error_same 0 w6 (hE.below B6)).mono ?_
  rintro e w7 ⟨rfl, hb7⟩
  have B7 : Below w.heap.size w w7 := B6.trans (hb7.mono B6.size)
  have H7 := hide ((H6.out).below hb7)
  go_wp2_with fail
  refine (plain_yes s.size v Ls w7 ((H.out).below B7) (fun k hk => Nat.lt_of_lt_of_le (HB.out k hk) B7.size) HOK.out (by omega) (by omega) (by omega)).mono ?_
  rintro e w8 ⟨v8, rfl, ho8, hb8⟩
  have B8 : Below w.heap.size w w8 := B7.trans (hb8.mono B7.size)
  have H8 := hide ((H7.out).below hb8)
  have HP8 := hide (IsL.ofOwns (L := (EM.plainOf Ls).map raw) (by rw [List.length_map]; exact ho8) (by rw [List.length_map]; have := (HP.out).1; omega))
  clear ho8
  go_wp2_with fail
  refine (error_same 0 w8 (hE.below B8)).mono ?_
  rintro e w9 ⟨rfl, hb9⟩
  have B9 : Below w.heap.size w w9 := B8.trans (hb9.mono B8.size)
  have H9 := hide ((H8.out).below hb9)
  have HP9 := hide ((HP8.out).below hb9)
  go_wp2_with fail
  refine (means_any s.size v1 Ls w9 H9.out hs HOK.out (by omega)).mono ?_
  rintro e w10 ⟨v10, rfl, hE10, hb10⟩
  have B10 : Below w.heap.size w w10 := B9.trans (hb10.mono B9.size)
  have hE' := hE10
  obtain ⟨ao, c1, g2, c2, rfl, _, _, _, _⟩ := hE'
  have HE10 := hide hE10
  have HP10 := hide ((HP9.out).below hb10)
  clear hE10
  go_wp2_with fail
  have B11 : Below w.heap.size w (w10.alloc (.cells #[.int .i64 s.size, .slice ao s.size c1, .slice (some ⟨g2, 0, none⟩) (s.size + 1) c2] 39)) := B10.alloc B10.size _
  have A11 : Below w10.heap.size w10 (w10.alloc (.cells #[.int .i64 s.size, .slice ao s.size c1, .slice (some ⟨g2, 0, none⟩) (s.size + 1) c2] 39)) := (Below.refl _ _).alloc (Nat.le_refl _) _
  refine (refPlain_any _ s.size (inG Ls) (outG Ls) _ ((HE10.out).below A11) hs).mono ?_
  rintro e w12 ⟨v12, rfl, ho12, hb12⟩
  have B12 : Below w.heap.size w w12 := B11.trans (hb12.mono B11.size)
  rw [← HQ.out] at ho12
  have HP12 := hide (((HP10.out).below A11).below hb12)
  have HR12 := hide (IsL.ofOwns (L := (EM.plainOf Ls).map raw) (by rw [List.length_map]; exact ho12) (by rw [List.length_map]; have := (HP.out).1; omega))
  clear ho12
  go_wp2_with fail
  refine (sameSpans_any v8 v12 _ w12 HP12.out HR12.out).mono ?_
  rintro e w13 ⟨rfl, hb13⟩
  go_wp2_with fail
  go_ret
  exact ⟨rfl, B12.trans (hb13.mono B12.size)⟩
theorem applies_any (s : ByteArray) (n : Int) (v : Value) (L : List Rw) (w : World) (hE : ErrT w) (h : IsL w v L) (hb : ∀ k, v.ownBlock = some k → k < w.heap.size) (hs : s.size + (L.map fun r => r.s.size).sum ≤ 1048576) (hl : L.length ≤ 1048576) :
    Calls Tryd.prog 3 #[.string s, .int .i64 n, v] w fun e w' => e = .returned (.bool true) ∧ Below w.heap.size w w' := by
  by_cases hf : flt s.size L = 0
  · obtain ⟨Ls, rfl, hok⟩ := flt_split s.size L hf
    have e : ((Ls.map raw).map fun r => r.s.size).sum = tot Ls := by
      unfold tot
      rw [List.map_map]
      have : (fun c : Sp => c.s.length) = (fun r : Rw => r.s.size) ∘ raw := by funext c; simp [raw, ba_size]
      rw [this]
    rw [e] at hs
    rw [List.length_map] at hl
    exact applies_yes s n v Ls w hE h hb (by omega) (by omega) hl hok
  · exact applies_no s n v L w hE h (by omega) hf
end Go.Proofs.YtobdfddpiobhhaaDoor
