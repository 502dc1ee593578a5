/- The law EditMeets answers true. -/
import Derived.Test.YtobdfddpiobhhaaAb
import Derived.Test.YtobdfddpiobhhaaDc
namespace Go.Proofs.Ytobdfddpiobhhaa
open Go.RowKit
open EM
theorem sum_raw (Ls : List Sp) : ((Ls.map raw).map fun r => r.s.size).sum = tot Ls := by
  unfold tot
  rw [List.map_map]
  have : (fun c : Sp => c.s.length) = (fun r : Rw => r.s.size) ∘ raw := by funext c; simp [raw, ba_size]
  rw [this]
theorem lives_text : app (bs { data := #[97, 98] }) 0 [⟨0, 1, [120]⟩] = [120, 98] := rfl
set_option maxRecDepth 100000 in
set_option maxHeartbeats 1000000 in
theorem lives_any (w : World) : Calls Try.prog 4 #[] w fun e w' => e = .returned (.bool true) ∧ Below w.heap.size w w' := by
  have hL : IsL (w.alloc (.cells #[.int .i64 0, .int .i64 1, .string { data := #[120] }] 32)) (.slice (some ⟨w.heap.size, 0, none⟩) 1 1) (([⟨0, 1, [120]⟩] : List Sp).map raw) :=
    IsL.ofBlock (L := ([⟨0, 1, [120]⟩] : List Sp).map raw) (heap_alloc_new w _) (by simp) (by unfold maxLen; omega) (by simp)
  have HL := hide hL
  clear hL
  have B1 : Below w.heap.size w (w.alloc (.cells #[.int .i64 0, .int .i64 1, .string { data := #[120] }] 32)) := (Below.refl _ w).alloc (Nat.le_refl _) _
  go_enter Try.func4, Try.ntmps4
  go_wp2_with fail
  refine (apply_yes { data := #[97, 98] } _ [⟨0, 1, [120]⟩] _ HL.out (fun k hk => by simp only [Value.ownBlock, Option.some.injEq] at hk; subst hk; simp) (by decide) (by decide) (by simp [Ok, ByteArray.size])).mono ?_
  rintro e w2 ⟨rfl, hb2⟩
  rw [lives_text, show ba [120, 98] = { data := #[120, 98] } from rfl]
  go_wp2_with fail
  go_ret
  exact ⟨rfl, B1.trans (hb2.mono B1.size)⟩
set_option maxRecDepth 100000 in
set_option maxHeartbeats 4000000 in
theorem meets_no1 (s : ByteArray) (v u : Value) (L : List Rw) (w : World) (h : IsL w v L) (hf : flt s.size L ≠ 0) :
    Calls Try.prog 3 #[.string s, v, u] w fun e w' => e = .returned (.bool true) ∧ Below w.heap.size w w' := by
  have H := hide h
  have HF := hide (show errV (flt s.size L) = .iface 51 (.int .i64 (flt s.size L)) from if_neg hf)
  have HG := hide hf
  clear h hf
  go_enter Try.func3, Try.ntmps3
  go_wp2_with fail
  refine (lives_any w).mono ?_
  rintro e w1 ⟨rfl, hb1⟩
  go_wp2_with fail
  refine (apply_no s v L w1 ((H.out).below hb1) HG.out).mono ?_
  rintro e w2 ⟨rfl, hb2⟩
  rw [HF.out]
  go_wp2_with fail
  go_ret
  exact ⟨rfl, hb1.trans (hb2.mono hb1.size)⟩
set_option maxRecDepth 100000 in
set_option maxHeartbeats 4000000 in
theorem meets_no2 (s : ByteArray) (v u : Value) (Ls : List Sp) (K : List Rw) (w : World) (h : IsL w v (Ls.map raw)) (hu : IsL w u K) (hvb : ∀ k, v.ownBlock = some k → k < w.heap.size) (hst : s.size + tot Ls ≤ 1048576) (hok : Ok 0 s.size Ls) (hf : flt s.size K ≠ 0) :
    Calls Try.prog 3 #[.string s, v, u] w fun e w' => e = .returned (.bool true) ∧ Below w.heap.size w w' := by
  have H := hide h
  have HU := hide hu
  have HVB := hide hvb
  have HF := hide (show errV (flt s.size K) = .iface 51 (.int .i64 (flt s.size K)) from if_neg hf)
  have HG := hide hf
  have HOK := hide hok
  clear h hu hok hf hvb
  go_enter Try.func3, Try.ntmps3
  go_wp2_with fail
  refine (lives_any w).mono ?_
  rintro e w1 ⟨rfl, hb1⟩
  go_wp2_with fail
  refine (apply_yes s v Ls w1 ((H.out).below hb1) (fun k hk => Nat.lt_of_lt_of_le (HVB.out k hk) hb1.size) (by omega) (by omega) HOK.out).mono ?_
  rintro e w2 ⟨rfl, hb2⟩
  have B2 : Below w.heap.size w w2 := hb1.trans (hb2.mono hb1.size)
  go_wp2_with fail
  refine (apply_no s u K w2 ((HU.out).below B2) HG.out).mono ?_
  rintro e w3 ⟨rfl, hb3⟩
  rw [HF.out]
  go_wp2_with fail
  go_ret
  exact ⟨rfl, B2.trans (hb3.mono B2.size)⟩
set_option maxRecDepth 100000 in
set_option maxHeartbeats 4000000 in
theorem meets_yes (s : ByteArray) (v u : Value) (Ls Ks : List Sp) (w : World) (h : IsL w v (Ls.map raw)) (hu : IsL w u (Ks.map raw)) (hvb : ∀ k, v.ownBlock = some k → k < w.heap.size) (hub : ∀ k, u.ownBlock = some k → k < w.heap.size) (hst : s.size + tot Ls + tot Ks ≤ 1048576) (hok : Ok 0 s.size Ls) (hokk : Ok 0 s.size Ks) :
    Calls Try.prog 3 #[.string s, v, u] w fun e w' => e = .returned (.bool true) ∧ Below w.heap.size w w' := by
  have hlb := bs_len s
  have H := hide h
  have HU := hide hu
  have HVB := hide hvb
  have HUB := hide hub
  have HOK := hide hok
  have HOKK := hide hokk
  have a1 := app_len (bs s) 0 Ls (by rw [hlb]; exact hok)
  have a2 := app_len (bs s) 0 Ks (by rw [hlb]; exact hokk)
  have hz1 : (ba (app (bs s) 0 Ls)).size ≤ 1048576 := by rw [ba_size]; omega
  have hz2 : (ba (app (bs s) 0 Ks)).size ≤ 1048576 := by rw [ba_size]; omega
  clear h hu hok hokk hvb hub a1 a2
  go_enter Try.func3, Try.ntmps3
  go_wp2_with fail
  refine (lives_any w).mono ?_
  rintro e w1 ⟨rfl, hb1⟩
  go_wp2_with fail
  refine (apply_yes s v Ls w1 ((H.out).below hb1) (fun k hk => Nat.lt_of_lt_of_le (HVB.out k hk) hb1.size) (by omega) (by omega) HOK.out).mono ?_
  rintro e w2 ⟨rfl, hb2⟩
  have B2 : Below w.heap.size w w2 := hb1.trans (hb2.mono hb1.size)
  go_wp2_with fail
  refine (apply_yes s u Ks w2 ((HU.out).below B2) (fun k hk => Nat.lt_of_lt_of_le (HUB.out k hk) B2.size) (by omega) (by omega) HOKK.out).mono ?_
  rintro e w3 ⟨rfl, hb3⟩
  have B3 : Below w.heap.size w w3 := B2.trans (hb3.mono B2.size)
  go_wp2_with fail
  refine (merge_yes (bs s) s.size v u Ls Ks w3 ((H.out).below B3) ((HU.out).below B3) (fun k hk => Nat.lt_of_lt_of_le (HVB.out k hk) B3.size) (fun k hk => Nat.lt_of_lt_of_le (HUB.out k hk) B3.size) hlb (by omega) (by omega) (by omega) HOK.out HOKK.out).mono ?_
  rintro e w5 ⟨x5, y5, P, Q, rfl, hx5, hy5, hmm, hP, hQ, hb5⟩
  have B5 : Below w.heap.size w w5 := B3.trans (hb5.mono B3.size)
  have hxb := hx5.lt
  have hyb := hy5.lt
  have HX5 := hide (IsL.ofOwns (L := P.map raw) (by rw [List.length_map]; exact hx5) (by rw [List.length_map]; omega))
  have HY5 := hide (IsL.ofOwns (L := Q.map raw) (by rw [List.length_map]; exact hy5) (by rw [List.length_map]; omega))
  have HMM := hide hmm
  have HBB := hide (And.intro hxb hyb)
  clear hx5 hy5 hmm hxb hyb
  go_wp2_with fail
  refine (apply_yes (ba (app (bs s) 0 Ks)) x5 P w5 HX5.out (fun k hk => ((HBB.out).1 k hk).2) hz2 (by omega) (by rw [ba_size]; exact (HMM.out).1)).mono ?_
  rintro e w6 ⟨rfl, hb6⟩
  rw [bs_ba, (HMM.out).2.1]
  have B6 : Below w.heap.size w w6 := B5.trans (hb6.mono B5.size)
  have HY6 := hide ((HY5.out).below hb6)
  go_wp2_with fail
  refine (apply_yes (ba (app (bs s) 0 Ls)) y5 Q w6 HY6.out (fun k hk => Nat.lt_of_lt_of_le ((HBB.out).2 k hk).2 hb6.size) hz1 (by omega) (by rw [ba_size]; exact (HMM.out).2.2.1)).mono ?_
  rintro e w7 ⟨rfl, hb7⟩
  rw [bs_ba, (HMM.out).2.2.2]
  go_wp2_with fail
  go_ret
  exact ⟨rfl, B6.trans (hb7.mono B6.size)⟩
theorem meets_any (s : ByteArray) (v u : Value) (L K : List Rw) (w : World) (h : IsL w v L) (hu : IsL w u K) (hvb : ∀ k, v.ownBlock = some k → k < w.heap.size) (hub : ∀ k, u.ownBlock = some k → k < w.heap.size) (hs : s.size + (L.map fun r => r.s.size).sum + (K.map fun r => r.s.size).sum ≤ 1048576) :
    Calls Try.prog 3 #[.string s, v, u] w fun e w' => e = .returned (.bool true) ∧ Below w.heap.size w w' := by
  by_cases hf : flt s.size L = 0
  · obtain ⟨Ls, rfl, hok⟩ := flt_split s.size L hf
    rw [sum_raw] at hs
    by_cases hf2 : flt s.size K = 0
    · obtain ⟨Ks, rfl, hokk⟩ := flt_split s.size K hf2
      rw [sum_raw] at hs
      exact meets_yes s v u Ls Ks w h hu hvb hub hs hok hokk
    · exact meets_no2 s v u Ls K w h hu hvb (by omega) hok hf2
  · exact meets_no1 s v u L w h hf
end Go.Proofs.Ytobdfddpiobhhaa
