/- The law EditComposes answers true. -/
import Derived.Test.YtobdfddpiobhhaaDoorCf
import Derived.Test.YtobdfddpiobhhaaDoorEb
namespace Go.Proofs.YtobdfddpiobhhaaDoor
open Go.RowKit
open EM
theorem sum_raw (Ls : List Sp) : ((Ls.map raw).map fun r => r.s.size).sum = tot Ls := by
  unfold tot
  rw [List.map_map]
  have : (fun c : Sp => c.s.length) = (fun r : Rw => r.s.size) ∘ raw := by funext c; simp [raw, ba_size]
  rw [this]
set_option maxRecDepth 100000 in
set_option maxHeartbeats 4000000 in
theorem composes_no1 (s : ByteArray) (v u : Value) (L K : List Rw) (w : World) (hE : ErrT w) (h : IsL w v L) (hu : IsL w u K) (hl : L.length ≤ 1073741824) (hlk : K.length ≤ 1073741824) (hf : flt s.size L ≠ 0) :
    Calls Tryd.prog 4 #[.string s, v, u] w fun e w' => e = .returned (.bool true) ∧ Below w.heap.size w w' := by
  have H := hide h
  have HU := hide hu
  have hf1 : (flt (s.size : Int) L == 0) = false := by simpa using hf
  have HF := hide hf
  clear h hf hu
  go_enter Tryd.func4, Tryd.ntmps4
  go_wp2_with fail
  refine (spans_any v L w H.out hl).mono ?_
  rintro e w1 ⟨v1, rfl, ho1, hb1⟩
  have H1 := hide (IsL.ofOwns ho1 (by omega))
  have HU1 := hide ((HU.out).below hb1)
  clear ho1
  go_wp2_with fail
  refine (spans_any u K w1 HU1.out hlk).mono ?_
  rintro e w2 ⟨v2, rfl, ho2, hb2⟩
  have B2 : Below w.heap.size w w2 := hb1.trans (hb2.mono hb1.size)
  have H2 := hide ((H1.out).below hb2)
  clear ho2
  go_wp2_with fail
  refine (refApply_no s v1 L w2 H2.out HF.out).mono ?_
  rintro e w3 ⟨rfl, hb3⟩
  have B3 : Below w.heap.size w w3 := B2.trans (hb3.mono B2.size)
  go_wp2_with fail
  refine (compose_no1 s.size v u L w3 ((H.out).below B3) HF.out).mono ?_
  rintro e w4 ⟨rfl, hb4⟩
  have B4 : Below w.heap.size w w4 := B3.trans (hb4.mono B3.size)
  go_wp2_with fail
  refine (error_same (flt s.size L) w4 (hE.below B4)).mono ?_
  rintro e w5 ⟨rfl, hb5⟩
  go_wp2_with fail
  go_ret
  exact ⟨rfl, B4.trans (hb5.mono B4.size)⟩
set_option maxRecDepth 100000 in
set_option maxHeartbeats 4000000 in
theorem composes_no2 (s : ByteArray) (v u : Value) (Ls : List Sp) (K : List Rw) (w : World) (hE : ErrT w) (h : IsL w v (Ls.map raw)) (hu : IsL w u K) (hl : Ls.length ≤ 1048576) (hlk : K.length ≤ 1073741824) (hst : s.size + tot Ls ≤ 1048576) (hok : Ok 0 s.size Ls) (hf : flt ((ba (app (bs s) 0 Ls)).size : Nat) K ≠ 0) :
    Calls Tryd.prog 4 #[.string s, v, u] w fun e w' => e = .returned (.bool true) ∧ Below w.heap.size w w' := by
  have hal := app_length (bs s) 0 Ls (by rw [bs_len]; exact hok)
  rw [bs_len] at hal
  have hdl := drops_le 0 s.size Ls hok
  have HM := hide (show s.size - drops Ls + tot Ls = (ba (app (bs s) 0 Ls)).size by rw [ba_size]; omega)
  have H := hide h
  have HU := hide hu
  have HF := hide hf
  have HOK := hide hok
  have hf1 : (flt ((ba (app (bs s) 0 Ls)).size : Int) K == 0) = false := by simpa using hf
  clear h hf hu hok hal hdl
  go_enter Tryd.func4, Tryd.ntmps4
  go_wp2_with fail
  refine (spans_any v _ w H.out (by rw [List.length_map]; omega)).mono ?_
  rintro e w1 ⟨v1, rfl, ho1, hb1⟩
  have H1 := hide (IsL.ofOwns ho1 (by rw [List.length_map]; omega))
  have HU1 := hide ((HU.out).below hb1)
  clear ho1
  go_wp2_with fail
  refine (spans_any u K w1 HU1.out hlk).mono ?_
  rintro e w2 ⟨v2, rfl, ho2, hb2⟩
  have B2 : Below w.heap.size w w2 := hb1.trans (hb2.mono hb1.size)
  have H2 := hide ((H1.out).below hb2)
  have HU2 := hide (IsL.ofOwns ho2 (by omega))
  clear ho2
  go_wp2_with fail
  refine (refApply_yes s v1 Ls w2 H2.out (by omega) (by omega) HOK.out).mono ?_
  rintro e w3 ⟨rfl, hb3⟩
  have B3 : Below w.heap.size w w3 := B2.trans (hb3.mono B2.size)
  have HU3 := hide ((HU2.out).below hb3)
  generalize ba (app (bs s) 0 Ls) = q at HM HF hf1 ⊢
  go_wp2_with fail
  refine (refApply_no q v2 K w3 HU3.out HF.out).mono ?_
  rintro e w4 ⟨rfl, hb4⟩
  have B4 : Below w.heap.size w w4 := B3.trans (hb4.mono B3.size)
  go_wp2_with fail
  refine (compose_no2 s.size v u Ls K w4 ((H.out).below B4) ((HU.out).below B4) (by omega) (by omega) HOK.out q.size HM.out HF.out).mono ?_
  rintro e w5 ⟨rfl, hb5⟩
  have B5 : Below w.heap.size w w5 := B4.trans (hb5.mono B4.size)
  go_wp2_with fail
  refine (error_same (flt q.size K) w5 (hE.below B5)).mono ?_
  rintro e w6 ⟨rfl, hb6⟩
  go_wp2_with fail
  go_ret
  exact ⟨rfl, B5.trans (hb6.mono B5.size)⟩
set_option maxRecDepth 100000 in
set_option maxHeartbeats 4000000 in
theorem composes_yes (s : ByteArray) (v u : Value) (Ls Ks : List Sp) (w : World) (hE : ErrT w) (h : IsL w v (Ls.map raw)) (hu : IsL w u (Ks.map raw)) (hvb : ∀ k, v.ownBlock = some k → k < w.heap.size) (hub : ∀ k, u.ownBlock = some k → k < w.heap.size) (hl : Ls.length ≤ 1048576) (hlk : Ks.length ≤ 1048576) (hst : s.size + tot Ls + tot Ks ≤ 1048576) (hok : Ok 0 s.size Ls) (hokk : Ok 0 (ba (app (bs s) 0 Ls)).size Ks) :
    Calls Tryd.prog 4 #[.string s, v, u] w fun e w' => e = .returned (.bool true) ∧ Below w.heap.size w w' := by
  have hal := app_length (bs s) 0 Ls (by rw [bs_len]; exact hok)
  rw [bs_len] at hal
  have hdl := drops_le 0 s.size Ls hok
  have HM := hide (show s.size - drops Ls + tot Ls = (ba (app (bs s) 0 Ls)).size by rw [ba_size]; omega)
  have hq : (ba (app (bs s) 0 Ls)).size ≤ 1048576 := by rw [ba_size]; omega
  have H := hide h
  have HU := hide hu
  have HVB := hide hvb
  have HUB := hide hub
  have HOK := hide hok
  have HOKK := hide hokk
  have HBA := hide (bs_ba (app (bs s) 0 Ls))
  clear h hu hok hokk hvb hub hal hdl
  go_enter Tryd.func4, Tryd.ntmps4
  go_wp2_with fail
  refine (spans_any v _ w H.out (by rw [List.length_map]; omega)).mono ?_
  rintro e w1 ⟨v1, rfl, ho1, hb1⟩
  have H1 := hide (IsL.ofOwns ho1 (by rw [List.length_map]; omega))
  have HU1 := hide ((HU.out).below hb1)
  clear ho1
  go_wp2_with fail
  refine (spans_any u _ w1 HU1.out (by rw [List.length_map]; omega)).mono ?_
  rintro e w2 ⟨v2, rfl, ho2, hb2⟩
  have B2 : Below w.heap.size w w2 := hb1.trans (hb2.mono hb1.size)
  have H2 := hide ((H1.out).below hb2)
  have HU2 := hide (IsL.ofOwns ho2 (by rw [List.length_map]; omega))
  clear ho2
  go_wp2_with fail
  refine (refApply_yes s v1 Ls w2 H2.out (by omega) (by omega) HOK.out).mono ?_
  rintro e w3 ⟨rfl, hb3⟩
  have B3 : Below w.heap.size w w3 := B2.trans (hb3.mono B2.size)
  have HU3 := hide ((HU2.out).below hb3)
  generalize ba (app (bs s) 0 Ls) = q at HM HOKK HBA hq ⊢
  go_wp2_with fail
  refine (refApply_yes q v2 Ks w3 HU3.out hq (by omega) HOKK.out).mono ?_
  rintro e w4 ⟨rfl, hb4⟩
  have B4 : Below w.heap.size w w4 := B3.trans (hb4.mono B3.size)
  rw [HBA.out]
  go_wp2_with fail
  refine (compose_yes (bs s) s.size v u Ls Ks w4 ((H.out).below B4) ((HU.out).below B4) (fun k hk => Nat.lt_of_lt_of_le (HVB.out k hk) B4.size) (fun k hk => Nat.lt_of_lt_of_le (HUB.out k hk) B4.size) (bs_len s) (by omega) (by omega) (by omega) HOK.out q.size HM.out HOKK.out).mono ?_
  rintro e w5 ⟨v5, P, rfl, ho5, hP1, hP2, hP3, hP4, hb5⟩
  have B5 : Below w.heap.size w w5 := B4.trans (hb5.mono B4.size)
  have HO5 := hide (And.intro ho5 (And.intro hP1 hP2))
  clear ho5 hP1 hP2
  go_wp2_with fail
  refine (error_same 0 w5 (hE.below B5)).mono ?_
  rintro e w6 ⟨rfl, hb6⟩
  have B6 : Below w.heap.size w w6 := B5.trans (hb6.mono B5.size)
  have H6 := hide ((IsL.ofOwns (L := P.map raw) (by rw [List.length_map]; exact (HO5.out).1) (by rw [List.length_map]; omega)).below hb6)
  go_wp2_with fail
  refine (spans_any v5 _ w6 H6.out (by rw [List.length_map]; omega)).mono ?_
  rintro e w7 ⟨v7, rfl, ho7, hb7⟩
  have B7 : Below w.heap.size w w7 := B6.trans (hb7.mono B6.size)
  have H7 := hide (IsL.ofOwns ho7 (by rw [List.length_map]; omega))
  clear ho7
  go_wp2_with fail
  refine (refApply_yes s v7 P w7 H7.out (by omega) (by omega) (HO5.out).2.1).mono ?_
  rintro e w8 ⟨rfl, hb8⟩
  rw [(HO5.out).2.2]
  generalize ba (app (app (bs s) 0 Ls) 0 Ks) = z
  go_wp2_with fail
  go_ret
  exact ⟨rfl, B7.trans (hb8.mono B7.size)⟩
theorem composes_any (s : ByteArray) (v u : Value) (L K : List Rw) (w : World) (hE : ErrT w) (h : IsL w v L) (hu : IsL w u K) (hvb : ∀ k, v.ownBlock = some k → k < w.heap.size) (hub : ∀ k, u.ownBlock = some k → k < w.heap.size) (hs : s.size + (L.map fun r => r.s.size).sum + (K.map fun r => r.s.size).sum ≤ 1048576) (hl : L.length ≤ 1048576) (hlk : K.length ≤ 1048576) :
    Calls Tryd.prog 4 #[.string s, v, u] w fun e w' => e = .returned (.bool true) ∧ Below w.heap.size w w' := by
  by_cases hf : flt s.size L = 0
  · obtain ⟨Ls, rfl, hok⟩ := flt_split s.size L hf
    rw [sum_raw] at hs
    rw [List.length_map] at hl
    by_cases hg : flt (ba (app (bs s) 0 Ls)).size K = 0
    · obtain ⟨Ks, rfl, hokk⟩ := flt_split _ K hg
      rw [sum_raw] at hs
      rw [List.length_map] at hlk
      exact composes_yes s v u Ls Ks w hE h hu hvb hub hl hlk hs hok hokk
    · exact composes_no2 s v u Ls K w hE h hu hl (by omega) (by omega) hok hg
  · exact composes_no1 s v u L K w hE h hu (by omega) (by omega) hf
end Go.Proofs.YtobdfddpiobhhaaDoor
