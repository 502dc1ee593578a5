/- The document's own tokens: signs, and what is bad. -/
import Derived.Test.YtbhcniemkjoflaaDoorFb
namespace Go.Proofs.YtbhcniemkjoflaaDoor
open Go.RowKit
open M

set_option maxRecDepth 100000 in
set_option maxHeartbeats 8000000 in
theorem one_61_62 (s : ByteArray) (p : Nat) (w : World) (hs : s.size ≤ 1073741824) (hp : p < s.size) (hc : cc ((bs s).drop p) = 61) (hc1 : cc ((bs s).drop (p + 1)) = 62) :
    Calls Tryd.prog 27 #[.string s, .int .i64 p] w fun e w' => e = .returned (.agg #[.int .i64 7, .int .i64 p, .int .i64 (2 : Nat)]) ∧ Below w.heap.size w w' := by
  have HC := hide hc
  have hh : hasB s p 123 45 = false := hasB_not (by rw [hc]; omega)
  have hh0 : hasB s p 45 45 = false := hasB_not (by rw [hc]; omega)
  have hlt : isLt 61 = false := by decide
  have h1 : hasB s p 61 62 = true := hasB_of hc hc1
  go_enter Tryd.func27, Tryd.ntmps27
  go_wp2_with fail
  refine (refRune_at s p _ hp).mono ?_
  rintro e w' ⟨rfl, rfl⟩
  rw [HC.out]
  clear hc
  go_wp2_with fail
  refine (refLetter_any _ _).mono ?_
  rintro e w' ⟨rfl, rfl⟩
  go_wp2_with fail
  refine (has_45_45 s p _ hp hs).mono ?_
  rintro e w' ⟨rfl, rfl⟩
  go_wp2_with fail
  refine (has_123_45 s p _ hp hs).mono ?_
  rintro e w' ⟨rfl, rfl⟩
  go_wp2_with fail
  refine (has_61_62 s p _ hp hs).mono ?_
  rintro e w' ⟨rfl, rfl⟩
  go_wp2_with fail
  refine (has_61_61 s p _ hp hs).mono ?_
  rintro e w' ⟨rfl, rfl⟩
  go_wp2_with fail
  refine (has_43_43 s p _ hp hs).mono ?_
  rintro e w' ⟨rfl, rfl⟩
  go_wp2_with fail
  exact bodyPost_ret (v := .agg #[.int .i64 7, .int .i64 p, .int .i64 2]) (by simp [results, Tryd.results27, go_sem]) rfl ⟨rfl, (Below.refl _ _).alloc (Nat.le_refl _) _⟩

set_option maxRecDepth 100000 in
set_option maxHeartbeats 8000000 in
theorem one_61_61 (s : ByteArray) (p : Nat) (w : World) (hs : s.size ≤ 1073741824) (hp : p < s.size) (hc : cc ((bs s).drop p) = 61) (hc1 : cc ((bs s).drop (p + 1)) = 61) :
    Calls Tryd.prog 27 #[.string s, .int .i64 p] w fun e w' => e = .returned (.agg #[.int .i64 7, .int .i64 p, .int .i64 (2 : Nat)]) ∧ Below w.heap.size w w' := by
  have HC := hide hc
  have hh : hasB s p 123 45 = false := hasB_not (by rw [hc]; omega)
  have hh0 : hasB s p 45 45 = false := hasB_not (by rw [hc]; omega)
  have hlt : isLt 61 = false := by decide
  have h1 : hasB s p 61 62 = false := hasB_not2 (by rw [hc1]; omega)
  have h2 : hasB s p 61 61 = true := hasB_of hc hc1
  go_enter Tryd.func27, Tryd.ntmps27
  go_wp2_with fail
  refine (refRune_at s p _ hp).mono ?_
  rintro e w' ⟨rfl, rfl⟩
  rw [HC.out]
  clear hc
  go_wp2_with fail
  refine (refLetter_any _ _).mono ?_
  rintro e w' ⟨rfl, rfl⟩
  go_wp2_with fail
  refine (has_45_45 s p _ hp hs).mono ?_
  rintro e w' ⟨rfl, rfl⟩
  go_wp2_with fail
  refine (has_123_45 s p _ hp hs).mono ?_
  rintro e w' ⟨rfl, rfl⟩
  go_wp2_with fail
  refine (has_61_62 s p _ hp hs).mono ?_
  rintro e w' ⟨rfl, rfl⟩
  go_wp2_with fail
  refine (has_61_61 s p _ hp hs).mono ?_
  rintro e w' ⟨rfl, rfl⟩
  go_wp2_with fail
  refine (has_43_43 s p _ hp hs).mono ?_
  rintro e w' ⟨rfl, rfl⟩
  go_wp2_with fail
  exact bodyPost_ret (v := .agg #[.int .i64 7, .int .i64 p, .int .i64 2]) (by simp [results, Tryd.results27, go_sem]) rfl ⟨rfl, (Below.refl _ _).alloc (Nat.le_refl _) _⟩

set_option maxRecDepth 100000 in
set_option maxHeartbeats 8000000 in
theorem one_43_43 (s : ByteArray) (p : Nat) (w : World) (hs : s.size ≤ 1073741824) (hp : p < s.size) (hc : cc ((bs s).drop p) = 43) (hc1 : cc ((bs s).drop (p + 1)) = 43) :
    Calls Tryd.prog 27 #[.string s, .int .i64 p] w fun e w' => e = .returned (.agg #[.int .i64 7, .int .i64 p, .int .i64 (2 : Nat)]) ∧ Below w.heap.size w w' := by
  have HC := hide hc
  have hh : hasB s p 123 45 = false := hasB_not (by rw [hc]; omega)
  have hh0 : hasB s p 45 45 = false := hasB_not (by rw [hc]; omega)
  have hlt : isLt 43 = false := by decide
  have h1 : hasB s p 61 62 = false := hasB_not (by rw [hc]; omega)
  have h2 : hasB s p 61 61 = false := hasB_not (by rw [hc]; omega)
  have h3 : hasB s p 43 43 = true := hasB_of hc hc1
  go_enter Tryd.func27, Tryd.ntmps27
  go_wp2_with fail
  refine (refRune_at s p _ hp).mono ?_
  rintro e w' ⟨rfl, rfl⟩
  rw [HC.out]
  clear hc
  go_wp2_with fail
  refine (refLetter_any _ _).mono ?_
  rintro e w' ⟨rfl, rfl⟩
  go_wp2_with fail
  refine (has_45_45 s p _ hp hs).mono ?_
  rintro e w' ⟨rfl, rfl⟩
  go_wp2_with fail
  refine (has_123_45 s p _ hp hs).mono ?_
  rintro e w' ⟨rfl, rfl⟩
  go_wp2_with fail
  refine (has_61_62 s p _ hp hs).mono ?_
  rintro e w' ⟨rfl, rfl⟩
  go_wp2_with fail
  refine (has_61_61 s p _ hp hs).mono ?_
  rintro e w' ⟨rfl, rfl⟩
  go_wp2_with fail
  refine (has_43_43 s p _ hp hs).mono ?_
  rintro e w' ⟨rfl, rfl⟩
  go_wp2_with fail
  exact bodyPost_ret (v := .agg #[.int .i64 7, .int .i64 p, .int .i64 2]) (by simp [results, Tryd.results27, go_sem]) rfl ⟨rfl, (Below.refl _ _).alloc (Nat.le_refl _) _⟩
end Go.Proofs.YtbhcniemkjoflaaDoor
