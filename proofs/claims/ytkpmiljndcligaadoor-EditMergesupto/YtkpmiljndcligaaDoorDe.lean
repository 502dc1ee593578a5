/- The law EditMerges answers true. -/
import Derived.Test.YtkpmiljndcligaaDoorDc
import Derived.Test.YtkpmiljndcligaaDoorDd
import Derived.Test.YtkpmiljndcligaaDoorCg
namespace Go.Proofs.YtkpmiljndcligaaDoor
open Go.RowKit
open EM
theorem refApply_any (s : ByteArray) (v : Value) (L : List Rw) (w : World) (h : IsL w v L) (hs : s.size + (L.map fun r => r.s.size).sum ≤ 1048576) :
    Calls Tryd.prog 12 #[.string s, v] w fun e w' => ∃ r, e = .returned (.tuple #[.string r, .int .i64 (flt s.size L)]) ∧ Below w.heap.size w w' := by
  by_cases hf : flt s.size L = 0
  · obtain ⟨Ls, rfl, hok⟩ := flt_split s.size L hf
    rw [sum_raw] at hs
    refine (refApply_yes s v Ls w h (by omega) (by omega) hok).mono ?_
    rintro e w' ⟨rfl, hb⟩
    exact ⟨_, by rw [hf], hb⟩
  · refine (refApply_no s v L w h hf).mono ?_
    rintro e w' ⟨rfl, hb⟩
    exact ⟨_, rfl, hb⟩
set_option maxRecDepth 100000 in
set_option maxHeartbeats 4000000 in
theorem merges_no1 (s : ByteArray) (v u : Value) (L K : List Rw) (w : World) (hE : ErrT w) (h : IsL w v L) (hu : IsL w u K) (hl : L.length ≤ 1073741824) (hlk : K.length ≤ 1073741824) (hs : s.size + (K.map fun r => r.s.size).sum ≤ 1048576) (hf : flt s.size L ≠ 0) :
    Calls Tryd.prog 6 #[.string s, v, u] w fun e w' => e = .returned (.bool true) ∧ Below w.heap.size w w' := by
  have H := hide h
  have HU := hide hu
  have hf1 : (flt (s.size : Int) L == 0) = false := by simpa using hf
  have HF := hide hf
  have HS := hide hs
  clear h hu hs
  go_enter Tryd.func6, Tryd.ntmps6
  go_wp2_with fail
  refine (spans_any v L w H.out hl).mono ?_
  rintro e w1 ⟨v1, rfl, ho1, hb1⟩
  have H1 := hide (IsL.ofOwns ho1 (by omega))
  have HU1 := hide ((HU.out).below hb1)
  clear ho1
  go_wp2_with fail
  refine (spans_any u K w1 HU1.out hlk).mono ?_
  rintro e w2 ⟨v2, rfl, ho2, hb2⟩
  have B2 : Below w.heap.size w w2 := hb1.trans (hb2.mono hb1.size)
  have H2 := hide ((H1.out).below hb2)
  have HV2 := hide (IsL.ofOwns ho2 (by omega))
  clear ho2
  go_wp2_with fail
  refine (refApply_no s v1 L w2 H2.out HF.out).mono ?_
  rintro e w3 ⟨rfl, hb3⟩
  have B3 : Below w.heap.size w w3 := B2.trans (hb3.mono B2.size)
  go_wp2_with fail
  refine (refApply_any s v2 K w3 ((HV2.out).below hb3) HS.out).mono ?_
  rintro e w4 ⟨r4, rfl, hb4⟩
  have B4 : Below w.heap.size w w4 := B3.trans (hb4.mono B3.size)
  go_wp2_with fail
  refine (merge_no1 s.size v u L w4 ((H.out).below B4) HF.out).mono ?_
  rintro e w5 ⟨rfl, hb5⟩
  have B5 : Below w.heap.size w w5 := B4.trans (hb5.mono B4.size)
  go_wp2_with fail
  refine (error_same (flt s.size L) w5 (hE.below B5)).mono ?_
  rintro e w6 ⟨rfl, hb6⟩
  go_wp2_with fail
  go_ret
  exact ⟨rfl, B5.trans (hb6.mono B5.size)⟩
set_option maxRecDepth 100000 in
set_option maxHeartbeats 4000000 in
theorem merges_no2 (s : ByteArray) (v u : Value) (Ls : List Sp) (K : List Rw) (w : World) (hE : ErrT w) (h : IsL w v (Ls.map raw)) (hu : IsL w u K) (hl : Ls.length ≤ 1048576) (hlk : K.length ≤ 1073741824) (hst : s.size + tot Ls ≤ 1048576) (hok : Ok 0 s.size Ls) (hf : flt s.size K ≠ 0) :
    Calls Tryd.prog 6 #[.string s, v, u] w fun e w' => e = .returned (.bool true) ∧ Below w.heap.size w w' := by
  have H := hide h
  have HU := hide hu
  have hf1 : (flt (s.size : Int) K == 0) = false := by simpa using hf
  have HF := hide hf
  have HOK := hide hok
  clear h hu hok
  go_enter Tryd.func6, Tryd.ntmps6
  go_wp2_with fail
  refine (spans_any v _ w H.out (by rw [List.length_map]; omega)).mono ?_
  rintro e w1 ⟨v1, rfl, ho1, hb1⟩
  have H1 := hide (IsL.ofOwns ho1 (by rw [List.length_map]; omega))
  have HU1 := hide ((HU.out).below hb1)
  clear ho1
  go_wp2_with fail
  refine (spans_any u K w1 HU1.out hlk).mono ?_
  rintro e w2 ⟨v2, rfl, ho2, hb2⟩
  have B2 : Below w.heap.size w w2 := hb1.trans (hb2.mono hb1.size)
  have H2 := hide ((H1.out).below hb2)
  have HV2 := hide (IsL.ofOwns ho2 (by omega))
  clear ho2
  go_wp2_with fail
  refine (refApply_yes s v1 Ls w2 H2.out (by omega) (by omega) HOK.out).mono ?_
  rintro e w3 ⟨rfl, hb3⟩
  have B3 : Below w.heap.size w w3 := B2.trans (hb3.mono B2.size)
  go_wp2_with fail
  refine (refApply_no s v2 K w3 ((HV2.out).below hb3) HF.out).mono ?_
  rintro e w4 ⟨rfl, hb4⟩
  have B4 : Below w.heap.size w w4 := B3.trans (hb4.mono B3.size)
  go_wp2_with fail
  refine (merge_no2 s.size v u _ K w4 ((H.out).below B4) ((HU.out).below B4) (flt_Ok HOK.out) HF.out).mono ?_
  rintro e w5 ⟨rfl, hb5⟩
  have B5 : Below w.heap.size w w5 := B4.trans (hb5.mono B4.size)
  go_wp2_with fail
  refine (error_same (flt s.size K) w5 (hE.below B5)).mono ?_
  rintro e w6 ⟨rfl, hb6⟩
  go_wp2_with fail
  go_ret
  exact ⟨rfl, B5.trans (hb6.mono B5.size)⟩
set_option maxRecDepth 100000 in
set_option maxHeartbeats 4000000 in
theorem merges_yes (s : ByteArray) (v u : Value) (Ls Ks : List Sp) (w : World) (hE : ErrT w) (h : IsL w v (Ls.map raw)) (hu : IsL w u (Ks.map raw)) (hvb : ∀ k, v.ownBlock = some k → k < w.heap.size) (hub : ∀ k, u.ownBlock = some k → k < w.heap.size) (hl : Ls.length ≤ 1048576) (hlk : Ks.length ≤ 1048576) (hst : s.size + tot Ls + tot Ks ≤ 1048576) (hok : Ok 0 s.size Ls) (hokk : Ok 0 s.size Ks) :
    Calls Tryd.prog 6 #[.string s, v, u] w fun e w' => e = .returned (.bool true) ∧ Below w.heap.size w w' := by
  have hlb := bs_len s
  have H := hide h
  have HU := hide hu
  have HVB := hide hvb
  have HUB := hide hub
  have HOK := hide hok
  have HOKK := hide hokk
  have a1 := app_len (bs s) 0 Ls (by rw [hlb]; exact hok)
  have a2 := app_len (bs s) 0 Ks (by rw [hlb]; exact hokk)
  have hz1 : (ba (app (bs s) 0 Ls)).size ≤ 1048576 := by rw [ba_size]; omega
  have hz2 : (ba (app (bs s) 0 Ks)).size ≤ 1048576 := by rw [ba_size]; omega
  clear h hu hok hokk hvb hub a1 a2
  go_enter Tryd.func6, Tryd.ntmps6
  go_wp2_with fail
  refine (spans_any v _ w H.out (by rw [List.length_map]; omega)).mono ?_
  rintro e w1 ⟨v1, rfl, ho1, hb1⟩
  have H1 := hide (IsL.ofOwns ho1 (by rw [List.length_map]; omega))
  have HU1 := hide ((HU.out).below hb1)
  clear ho1
  go_wp2_with fail
  refine (spans_any u _ w1 HU1.out (by rw [List.length_map]; omega)).mono ?_
  rintro e w2 ⟨v2, rfl, ho2, hb2⟩
  have B2 : Below w.heap.size w w2 := hb1.trans (hb2.mono hb1.size)
  have H2 := hide ((H1.out).below hb2)
  have HV2 := hide (IsL.ofOwns ho2 (by rw [List.length_map]; omega))
  clear ho2
  go_wp2_with fail
  refine (refApply_yes s v1 Ls w2 H2.out (by omega) (by omega) HOK.out).mono ?_
  rintro e w3 ⟨rfl, hb3⟩
  have B3 : Below w.heap.size w w3 := B2.trans (hb3.mono B2.size)
  have H3 := hide ((H2.out).below hb3)
  have HV3 := hide ((HV2.out).below hb3)
  go_wp2_with fail
  refine (refApply_yes s v2 Ks w3 HV3.out (by omega) (by omega) HOKK.out).mono ?_
  rintro e w4 ⟨rfl, hb4⟩
  have B4 : Below w.heap.size w w4 := B3.trans (hb4.mono B3.size)
  have H4 := hide ((H3.out).below hb4)
  have HV4 := hide ((HV3.out).below hb4)
  go_wp2_with fail
  refine (merge_yes (bs s) s.size v u Ls Ks w4 ((H.out).below B4) ((HU.out).below B4) (fun k hk => Nat.lt_of_lt_of_le (HVB.out k hk) B4.size) (fun k hk => Nat.lt_of_lt_of_le (HUB.out k hk) B4.size) hlb (by omega) (by omega) (by omega) HOK.out HOKK.out).mono ?_
  rintro e w5 ⟨x5, y5, P, Q, rfl, hx5, hy5, hmm, hP, hQ, hb5⟩
  have B5 : Below w.heap.size w w5 := B4.trans (hb5.mono B4.size)
  have H5 := hide ((H4.out).below hb5)
  have HV5 := hide ((HV4.out).below hb5)
  have HX5 := hide (IsL.ofOwns (L := P.map raw) (by rw [List.length_map]; exact hx5) (by rw [List.length_map]; omega))
  have HY5 := hide (IsL.ofOwns (L := Q.map raw) (by rw [List.length_map]; exact hy5) (by rw [List.length_map]; omega))
  have HMM := hide hmm
  clear hx5 hy5 hmm
  go_wp2_with fail
  refine (error_same 0 w5 (hE.below B5)).mono ?_
  rintro e w6 ⟨rfl, hb6⟩
  have B6 : Below w.heap.size w w6 := B5.trans (hb6.mono B5.size)
  have H6 := hide ((H5.out).below hb6)
  have HV6 := hide ((HV5.out).below hb6)
  have HX6 := hide ((HX5.out).below hb6)
  have HY6 := hide ((HY5.out).below hb6)
  go_wp2_with fail
  refine (means_any s.size v1 Ls w6 H6.out (by omega) HOK.out (by omega)).mono ?_
  rintro e w7 ⟨v7, rfl, hE7, hb7⟩
  have B7 : Below w.heap.size w w7 := B6.trans (hb7.mono B6.size)
  have hE' := hE7
  obtain ⟨ao, c1, g2, c2, rfl, _, _, _, _⟩ := hE'
  have A7 : Below w7.heap.size w7 (w7.alloc (.cells #[.int .i64 s.size, .slice ao s.size c1, .slice (some ⟨g2, 0, none⟩) (s.size + 1) c2] 39)) := (Below.refl _ _).alloc (Nat.le_refl _) _
  have HE8 := hide (hE7.below A7)
  have B8 : Below w.heap.size w (w7.alloc (.cells #[.int .i64 s.size, .slice ao s.size c1, .slice (some ⟨g2, 0, none⟩) (s.size + 1) c2] 39)) := B7.alloc B7.size _
  have HV8 := hide (((HV6.out).below hb7).below A7)
  have HX8 := hide (((HX6.out).below hb7).below A7)
  have HY8 := hide (((HY6.out).below hb7).below A7)
  have hn8 := heap_alloc_new w7 (.cells #[.int .i64 s.size, .slice ao s.size c1, .slice (some ⟨g2, 0, none⟩) (s.size + 1) c2] 39)
  have hl8 : w7.heap.size < (w7.alloc (.cells #[.int .i64 s.size, .slice ao s.size c1, .slice (some ⟨g2, 0, none⟩) (s.size + 1) c2] 39)).heap.size := by simp
  clear hE7
  go_upto_region 12 with fail
  generalize w7.alloc (.cells #[.int .i64 s.size, .slice ao s.size c1, .slice (some ⟨g2, 0, none⟩) (s.size + 1) c2] 39) = w8 at A7 HE8 B8 HV8 HX8 HY8 hn8 hl8 ⊢
  have HN8 := hide hn8
  clear hn8 A7
  go_wp2_with fail
  refine (means_any s.size v2 Ks w8 HV8.out (by omega) HOKK.out (by omega)).mono ?_
  rintro e w9 ⟨v9, rfl, hE9, hb9⟩
  have B9 : Below w.heap.size w w9 := B8.trans (hb9.mono B8.size)
  have hE' := hE9
  obtain ⟨ao', d1, k2, d2, rfl, _, _, _, _⟩ := hE'
  have A9 : Below w9.heap.size w9 (w9.alloc (.cells #[.int .i64 s.size, .slice ao' s.size d1, .slice (some ⟨k2, 0, none⟩) (s.size + 1) d2] 39)) := (Below.refl _ _).alloc (Nat.le_refl _) _
  have HE10 := hide (hE9.below A9)
  have HD10 := hide (((HE8.out).below hb9).below A9)
  have B10 : Below w.heap.size w (w9.alloc (.cells #[.int .i64 s.size, .slice ao' s.size d1, .slice (some ⟨k2, 0, none⟩) (s.size + 1) d2] 39)) := B9.alloc B9.size _
  have HX10 := hide (((HX8.out).below hb9).below A9)
  have HY10 := hide (((HY8.out).below hb9).below A9)
  have hz9 := hb9.size
  have n9 : w9.heap[w7.heap.size]? = some (.cells #[.int .i64 s.size, .slice ao s.size c1, .slice (some ⟨g2, 0, none⟩) (s.size + 1) c2] 39 (0, 0)) := (hb9.block _ hl8).trans HN8.out
  have n10 := (Below.heap_alloc w9 (.cells #[.int .i64 s.size, .slice ao' s.size d1, .slice (some ⟨k2, 0, none⟩) (s.size + 1) d2] 39) w7.heap.size (by omega)).trans n9
  have m10 := heap_alloc_new w9 (.cells #[.int .i64 s.size, .slice ao' s.size d1, .slice (some ⟨k2, 0, none⟩) (s.size + 1) d2] 39)
  clear hE9 n9
  go_upto_region 13 with fail
  generalize w9.alloc (.cells #[.int .i64 s.size, .slice ao' s.size d1, .slice (some ⟨k2, 0, none⟩) (s.size + 1) d2] 39) = w10 at A9 HE10 HD10 B10 HX10 HY10 n10 m10 ⊢
  have p0 : w10.cell? ⟨w7.heap.size, 0, none⟩ = some (.int .i64 s.size) := by rw [Lib.cell_of_heap n10]; rfl
  have p1 : w10.cell? ⟨w7.heap.size, 1, none⟩ = some (.slice ao s.size c1) := by rw [Lib.cell_of_heap n10]; rfl
  have p2 : w10.cell? ⟨w7.heap.size, 2, none⟩ = some (.slice (some ⟨g2, 0, none⟩) (s.size + 1) c2) := by rw [Lib.cell_of_heap n10]; rfl
  have r0 : w10.cell? ⟨w9.heap.size, 0, none⟩ = some (.int .i64 s.size) := by rw [Lib.cell_of_heap m10]; rfl
  have r1 : w10.cell? ⟨w9.heap.size, 1, none⟩ = some (.slice ao' s.size d1) := by rw [Lib.cell_of_heap m10]; rfl
  have r2 : w10.cell? ⟨w9.heap.size, 2, none⟩ = some (.slice (some ⟨k2, 0, none⟩) (s.size + 1) d2) := by rw [Lib.cell_of_heap m10]; rfl
  clear n10 m10 A9
  go_wp2_with fail
  refine (both_any _ _ s.size (inG Ls) (inG Ks) (outG Ls) (outG Ks) w10 HD10.out HE10.out (by omega) (fun g => by have q1 := inG_tot Ls g; have q2 := inG_tot Ks g; omega)).mono ?_
  rintro e w11 ⟨v11, rfl, hE11, hb11⟩
  have B11 : Below w.heap.size w w11 := B10.trans (hb11.mono B10.size)
  have hE' := hE11
  obtain ⟨ao3, e1, f2, e2, rfl, _, _, _, _⟩ := hE'
  have HX11 := hide ((HX10.out).below hb11)
  have HY11 := hide ((HY10.out).below hb11)
  have A11 : Below w11.heap.size w11 (w11.alloc (.cells #[.int .i64 s.size, .slice ao3 s.size e1, .slice (some ⟨f2, 0, none⟩) (s.size + 1) e2] 39)) := (Below.refl _ _).alloc (Nat.le_refl _) _
  have HE12 := hide (hE11.below A11)
  have B12 : Below w.heap.size w (w11.alloc (.cells #[.int .i64 s.size, .slice ao3 s.size e1, .slice (some ⟨f2, 0, none⟩) (s.size + 1) e2] 39)) := B11.alloc B11.size _
  have HX12 := hide ((HX11.out).below A11)
  have HY12 := hide ((HY11.out).below A11)
  clear hE11 p0 p1 p2 r0 r1 r2
  go_wp2_with fail
  have hTl : (bothG (bs s) Ls Ks).length ≤ 1073741824 := by
    have h1 := (HMM.out).2.1
    have h2 := app_len (app (bs s) 0 Ks) 0 P (HMM.out).1
    rw [h1] at h2
    rw [ba_size] at hz2
    omega
  refine (does_any s _ s.size (fun g => inG Ls g ++ inG Ks g) (fun g => outG Ls g || outG Ks g) _ HE12.out rfl (by omega) (Nat.le_trans hTl (by omega))).mono ?_
  rintro e w13 ⟨rfl, hb13⟩
  have B13 : Below w.heap.size w w13 := B12.trans (hb13.mono B12.size)
  have HX13 := hide ((HX12.out).below hb13)
  have HY13 := hide ((HY12.out).below hb13)
  rw [show does (bs s) (fun g => inG Ls g ++ inG Ks g) (fun g => outG Ls g || outG Ks g) = bothG (bs s) Ls Ks from rfl]
  generalize hT : bothG (bs s) Ls Ks = T at HMM ⊢
  clear hT hTl
  go_wp2_with fail
  refine (spans_any x5 _ w13 HX13.out (by rw [List.length_map]; omega)).mono ?_
  rintro e w14 ⟨v14, rfl, ho14, hb14⟩
  have B14 : Below w.heap.size w w14 := B13.trans (hb14.mono B13.size)
  have HX14 := hide (IsL.ofOwns ho14 (by rw [List.length_map]; omega))
  have HY14 := hide ((HY13.out).below hb14)
  clear ho14
  go_wp2_with fail
  refine (spans_any y5 _ w14 HY14.out (by rw [List.length_map]; omega)).mono ?_
  rintro e w15 ⟨v15, rfl, ho15, hb15⟩
  have B15 : Below w.heap.size w w15 := B14.trans (hb15.mono B14.size)
  have HY15 := hide (IsL.ofOwns ho15 (by rw [List.length_map]; omega))
  have HX15 := hide ((HX14.out).below hb15)
  clear ho15
  go_wp2_with fail
  refine (refApply_yes (ba (app (bs s) 0 Ks)) v14 P w15 HX15.out hz2 (by omega) (by rw [ba_size]; exact (HMM.out).1)).mono ?_
  rintro e w16 ⟨rfl, hb16⟩
  rw [bs_ba, (HMM.out).2.1]
  have B16 : Below w.heap.size w w16 := B15.trans (hb16.mono B15.size)
  have HY16 := hide ((HY15.out).below hb16)
  go_wp2_with fail
  refine (refApply_yes (ba (app (bs s) 0 Ls)) v15 Q w16 HY16.out hz1 (by omega) (by rw [ba_size]; exact (HMM.out).2.2.1)).mono ?_
  rintro e w17 ⟨rfl, hb17⟩
  rw [bs_ba, (HMM.out).2.2.2]
  go_wp2_with fail
  go_ret
  exact ⟨rfl, B16.trans (hb17.mono B16.size)⟩
theorem merges_any (s : ByteArray) (v u : Value) (L K : List Rw) (w : World) (hE : ErrT w) (h : IsL w v L) (hu : IsL w u K) (hvb : ∀ k, v.ownBlock = some k → k < w.heap.size) (hub : ∀ k, u.ownBlock = some k → k < w.heap.size) (hs : s.size + (L.map fun r => r.s.size).sum + (K.map fun r => r.s.size).sum ≤ 1048576) (hl : L.length ≤ 1048576) (hlk : K.length ≤ 1048576) :
    Calls Tryd.prog 6 #[.string s, v, u] w fun e w' => e = .returned (.bool true) ∧ Below w.heap.size w w' := by
  by_cases hf : flt s.size L = 0
  · obtain ⟨Ls, rfl, hok⟩ := flt_split s.size L hf
    rw [sum_raw] at hs
    rw [List.length_map] at hl
    by_cases hf2 : flt s.size K = 0
    · obtain ⟨Ks, rfl, hokk⟩ := flt_split s.size K hf2
      rw [sum_raw] at hs
      rw [List.length_map] at hlk
      exact merges_yes s v u Ls Ks w hE h hu hvb hub hl hlk hs hok hokk
    · exact merges_no2 s v u Ls K w hE h hu hl (by omega) (by omega) hok hf2
  · exact merges_no1 s v u L K w hE h hu (by omega) (by omega) (by omega) hf
end Go.Proofs.YtkpmiljndcligaaDoor
