/- A small number in digits of sixteen. -/
import Derived.Test.YtbhcniemkjoflaaDoorRb
import Derived.Handy
import Derived.Laws.BytesArg
namespace Go.Proofs.YtbhcniemkjoflaaDoor
open Go.RowKit
open M

/-- The one row of the library's table that is asked. -/
def Tz (w : World) : Prop := w.cell? ⟨6, 15, none⟩ = some (.int .u8 4)

set_option maxRecDepth 100000 in
set_option maxHeartbeats 4000000 in
theorem tz_16 (w : World) (h : Tz w) : Calls Tryd.prog 101 #[.int .u64 16] w fun e w' => e = .returned (.int .i64 4) ∧ w' = w := by
  unfold Tz at h
  have hA : bits .and .u64 16 (IntKind.u64.wrap (-16)) = 16 := by kernel_rfl
  have hB : IntKind.u64.wrap (16 * 285870213051353865) / 288230376151711744 = 15 := by kernel_rfl
  go_enter Tryd.func101, Tryd.ntmps101
  go_wp2
  go_ret
  exact ⟨rfl, rfl⟩

set_option maxRecDepth 100000 in
set_option maxHeartbeats 4000000 in
theorem tz_any (w : World) (h : Tz w) : Calls Tryd.prog 93 #[.int .u64 16] w fun e w' => e = .returned (.int .i64 4) ∧ w' = w := by
  go_enter Tryd.func93, Tryd.ntmps93
  go_wp2_with ((go_at_call 101; refine (tz_16 _ (by exact h)).mono ?_; rintro e w' ⟨rfl, rfl⟩))
  go_ret
  exact ⟨rfl, rfl⟩
set_option maxRecDepth 100000 in
set_option maxHeartbeats 4000000 in
theorem pow2 (w : World) : Calls Tryd.prog 92 #[.int .i64 16] w fun e w' => e = .returned (.bool true) ∧ w' = w := by
  have hA : bits .and .i64 16 15 = 0 := by kernel_rfl
  go_enter Tryd.func92, Tryd.ntmps92
  go_wp2
  go_ret
  exact ⟨rfl, rfl⟩
theorem Tz.alloc {w : World} (h : Tz w) (o : Obj) : Tz (w.alloc o) := Lib.cell?_alloc_some _ h

theorem cell_new (w : World) (A : Array Value) (t : TypeId) (i : Nat) (v : Value) (h : A[i]? = some v) : (w.alloc (.cells A t)).cell? ⟨w.heap.size, i, none⟩ = some v := by
  have e : (w.alloc (.cells A t)).heap[w.heap.size]? = some (.cells A t) := by
    show (w.heap.push _)[w.heap.size]? = _
    simp
  unfold World.cell?
  simp only
  rw [e]
  exact h
theorem ret_vs {a a' : ByteArray} (h : a = a') : Ending.returned (.tuple #[.slice none 0 0, .string a]) = .returned (.tuple #[.slice none 0 0, .string a']) := by rw [h]

set_option maxRecDepth 100000 in
set_option maxHeartbeats 4000000 in
theorem bits_0 (w : World) (h : Tz w) : Calls Tryd.prog 81 #[.slice none 0 0, .int .u64 0, .int .i64 16, .bool false, .bool false] w fun e w' => e = .returned (.tuple #[.slice none 0 0, .string ⟨#[48]⟩]) ∧ Below w.heap.size w w' := by
  go_enter Tryd.func81, Tryd.ntmps81
  go_wp2_with (first | (go_at_call 92; refine (pow2 _).mono ?_; rintro e w' ⟨rfl, rfl⟩) | (go_at_call 93; refine (tz_any _ (h.alloc _)).mono ?_; rintro e w' ⟨rfl, rfl⟩))
  go_rounds 1
  rw [run_convert_bytes_arg (P := Tryd.prog) _ 57 5 Tryd.underlying57 Tryd.underlying5 w.heap.size 64 1 1 [48] rfl ?hcell 9 Tryd.underlying9]
  case hcell =>
    intro i hi
    obtain rfl : i = 0 := by omega
    exact cell_new _ _ _ _ _ (by kernel_rfl)
  go_wp2
  go_ret2
  exact ⟨ret_vs (by kernel_rfl), (Below.refl _ _).alloc (Nat.le_refl _) _⟩

set_option maxRecDepth 100000 in
set_option maxHeartbeats 4000000 in
theorem bits_1 (w : World) (h : Tz w) : Calls Tryd.prog 81 #[.slice none 0 0, .int .u64 1, .int .i64 16, .bool false, .bool false] w fun e w' => e = .returned (.tuple #[.slice none 0 0, .string ⟨#[49]⟩]) ∧ Below w.heap.size w w' := by
  go_enter Tryd.func81, Tryd.ntmps81
  go_wp2_with (first | (go_at_call 92; refine (pow2 _).mono ?_; rintro e w' ⟨rfl, rfl⟩) | (go_at_call 93; refine (tz_any _ (h.alloc _)).mono ?_; rintro e w' ⟨rfl, rfl⟩))
  go_rounds 1
  rw [run_convert_bytes_arg (P := Tryd.prog) _ 57 5 Tryd.underlying57 Tryd.underlying5 w.heap.size 64 1 1 [49] rfl ?hcell 9 Tryd.underlying9]
  case hcell =>
    intro i hi
    obtain rfl : i = 0 := by omega
    exact cell_new _ _ _ _ _ (by kernel_rfl)
  go_wp2
  go_ret2
  exact ⟨ret_vs (by kernel_rfl), (Below.refl _ _).alloc (Nat.le_refl _) _⟩

set_option maxRecDepth 100000 in
set_option maxHeartbeats 4000000 in
theorem bits_2 (w : World) (h : Tz w) : Calls Tryd.prog 81 #[.slice none 0 0, .int .u64 2, .int .i64 16, .bool false, .bool false] w fun e w' => e = .returned (.tuple #[.slice none 0 0, .string ⟨#[50]⟩]) ∧ Below w.heap.size w w' := by
  go_enter Tryd.func81, Tryd.ntmps81
  go_wp2_with (first | (go_at_call 92; refine (pow2 _).mono ?_; rintro e w' ⟨rfl, rfl⟩) | (go_at_call 93; refine (tz_any _ (h.alloc _)).mono ?_; rintro e w' ⟨rfl, rfl⟩))
  go_rounds 1
  rw [run_convert_bytes_arg (P := Tryd.prog) _ 57 5 Tryd.underlying57 Tryd.underlying5 w.heap.size 64 1 1 [50] rfl ?hcell 9 Tryd.underlying9]
  case hcell =>
    intro i hi
    obtain rfl : i = 0 := by omega
    exact cell_new _ _ _ _ _ (by kernel_rfl)
  go_wp2
  go_ret2
  exact ⟨ret_vs (by kernel_rfl), (Below.refl _ _).alloc (Nat.le_refl _) _⟩

set_option maxRecDepth 100000 in
set_option maxHeartbeats 4000000 in
theorem bits_3 (w : World) (h : Tz w) : Calls Tryd.prog 81 #[.slice none 0 0, .int .u64 3, .int .i64 16, .bool false, .bool false] w fun e w' => e = .returned (.tuple #[.slice none 0 0, .string ⟨#[51]⟩]) ∧ Below w.heap.size w w' := by
  go_enter Tryd.func81, Tryd.ntmps81
  go_wp2_with (first | (go_at_call 92; refine (pow2 _).mono ?_; rintro e w' ⟨rfl, rfl⟩) | (go_at_call 93; refine (tz_any _ (h.alloc _)).mono ?_; rintro e w' ⟨rfl, rfl⟩))
  go_rounds 1
  rw [run_convert_bytes_arg (P := Tryd.prog) _ 57 5 Tryd.underlying57 Tryd.underlying5 w.heap.size 64 1 1 [51] rfl ?hcell 9 Tryd.underlying9]
  case hcell =>
    intro i hi
    obtain rfl : i = 0 := by omega
    exact cell_new _ _ _ _ _ (by kernel_rfl)
  go_wp2
  go_ret2
  exact ⟨ret_vs (by kernel_rfl), (Below.refl _ _).alloc (Nat.le_refl _) _⟩

set_option maxRecDepth 100000 in
set_option maxHeartbeats 4000000 in
theorem bits_4 (w : World) (h : Tz w) : Calls Tryd.prog 81 #[.slice none 0 0, .int .u64 4, .int .i64 16, .bool false, .bool false] w fun e w' => e = .returned (.tuple #[.slice none 0 0, .string ⟨#[52]⟩]) ∧ Below w.heap.size w w' := by
  go_enter Tryd.func81, Tryd.ntmps81
  go_wp2_with (first | (go_at_call 92; refine (pow2 _).mono ?_; rintro e w' ⟨rfl, rfl⟩) | (go_at_call 93; refine (tz_any _ (h.alloc _)).mono ?_; rintro e w' ⟨rfl, rfl⟩))
  go_rounds 1
  rw [run_convert_bytes_arg (P := Tryd.prog) _ 57 5 Tryd.underlying57 Tryd.underlying5 w.heap.size 64 1 1 [52] rfl ?hcell 9 Tryd.underlying9]
  case hcell =>
    intro i hi
    obtain rfl : i = 0 := by omega
    exact cell_new _ _ _ _ _ (by kernel_rfl)
  go_wp2
  go_ret2
  exact ⟨ret_vs (by kernel_rfl), (Below.refl _ _).alloc (Nat.le_refl _) _⟩

set_option maxRecDepth 100000 in
set_option maxHeartbeats 4000000 in
theorem bits_5 (w : World) (h : Tz w) : Calls Tryd.prog 81 #[.slice none 0 0, .int .u64 5, .int .i64 16, .bool false, .bool false] w fun e w' => e = .returned (.tuple #[.slice none 0 0, .string ⟨#[53]⟩]) ∧ Below w.heap.size w w' := by
  go_enter Tryd.func81, Tryd.ntmps81
  go_wp2_with (first | (go_at_call 92; refine (pow2 _).mono ?_; rintro e w' ⟨rfl, rfl⟩) | (go_at_call 93; refine (tz_any _ (h.alloc _)).mono ?_; rintro e w' ⟨rfl, rfl⟩))
  go_rounds 1
  rw [run_convert_bytes_arg (P := Tryd.prog) _ 57 5 Tryd.underlying57 Tryd.underlying5 w.heap.size 64 1 1 [53] rfl ?hcell 9 Tryd.underlying9]
  case hcell =>
    intro i hi
    obtain rfl : i = 0 := by omega
    exact cell_new _ _ _ _ _ (by kernel_rfl)
  go_wp2
  go_ret2
  exact ⟨ret_vs (by kernel_rfl), (Below.refl _ _).alloc (Nat.le_refl _) _⟩

set_option maxRecDepth 100000 in
set_option maxHeartbeats 4000000 in
theorem bits_6 (w : World) (h : Tz w) : Calls Tryd.prog 81 #[.slice none 0 0, .int .u64 6, .int .i64 16, .bool false, .bool false] w fun e w' => e = .returned (.tuple #[.slice none 0 0, .string ⟨#[54]⟩]) ∧ Below w.heap.size w w' := by
  go_enter Tryd.func81, Tryd.ntmps81
  go_wp2_with (first | (go_at_call 92; refine (pow2 _).mono ?_; rintro e w' ⟨rfl, rfl⟩) | (go_at_call 93; refine (tz_any _ (h.alloc _)).mono ?_; rintro e w' ⟨rfl, rfl⟩))
  go_rounds 1
  rw [run_convert_bytes_arg (P := Tryd.prog) _ 57 5 Tryd.underlying57 Tryd.underlying5 w.heap.size 64 1 1 [54] rfl ?hcell 9 Tryd.underlying9]
  case hcell =>
    intro i hi
    obtain rfl : i = 0 := by omega
    exact cell_new _ _ _ _ _ (by kernel_rfl)
  go_wp2
  go_ret2
  exact ⟨ret_vs (by kernel_rfl), (Below.refl _ _).alloc (Nat.le_refl _) _⟩

set_option maxRecDepth 100000 in
set_option maxHeartbeats 4000000 in
theorem bits_7 (w : World) (h : Tz w) : Calls Tryd.prog 81 #[.slice none 0 0, .int .u64 7, .int .i64 16, .bool false, .bool false] w fun e w' => e = .returned (.tuple #[.slice none 0 0, .string ⟨#[55]⟩]) ∧ Below w.heap.size w w' := by
  go_enter Tryd.func81, Tryd.ntmps81
  go_wp2_with (first | (go_at_call 92; refine (pow2 _).mono ?_; rintro e w' ⟨rfl, rfl⟩) | (go_at_call 93; refine (tz_any _ (h.alloc _)).mono ?_; rintro e w' ⟨rfl, rfl⟩))
  go_rounds 1
  rw [run_convert_bytes_arg (P := Tryd.prog) _ 57 5 Tryd.underlying57 Tryd.underlying5 w.heap.size 64 1 1 [55] rfl ?hcell 9 Tryd.underlying9]
  case hcell =>
    intro i hi
    obtain rfl : i = 0 := by omega
    exact cell_new _ _ _ _ _ (by kernel_rfl)
  go_wp2
  go_ret2
  exact ⟨ret_vs (by kernel_rfl), (Below.refl _ _).alloc (Nat.le_refl _) _⟩

set_option maxRecDepth 100000 in
set_option maxHeartbeats 4000000 in
theorem bits_8 (w : World) (h : Tz w) : Calls Tryd.prog 81 #[.slice none 0 0, .int .u64 8, .int .i64 16, .bool false, .bool false] w fun e w' => e = .returned (.tuple #[.slice none 0 0, .string ⟨#[56]⟩]) ∧ Below w.heap.size w w' := by
  go_enter Tryd.func81, Tryd.ntmps81
  go_wp2_with (first | (go_at_call 92; refine (pow2 _).mono ?_; rintro e w' ⟨rfl, rfl⟩) | (go_at_call 93; refine (tz_any _ (h.alloc _)).mono ?_; rintro e w' ⟨rfl, rfl⟩))
  go_rounds 1
  rw [run_convert_bytes_arg (P := Tryd.prog) _ 57 5 Tryd.underlying57 Tryd.underlying5 w.heap.size 64 1 1 [56] rfl ?hcell 9 Tryd.underlying9]
  case hcell =>
    intro i hi
    obtain rfl : i = 0 := by omega
    exact cell_new _ _ _ _ _ (by kernel_rfl)
  go_wp2
  go_ret2
  exact ⟨ret_vs (by kernel_rfl), (Below.refl _ _).alloc (Nat.le_refl _) _⟩

set_option maxRecDepth 100000 in
set_option maxHeartbeats 4000000 in
theorem bits_11 (w : World) (h : Tz w) : Calls Tryd.prog 81 #[.slice none 0 0, .int .u64 11, .int .i64 16, .bool false, .bool false] w fun e w' => e = .returned (.tuple #[.slice none 0 0, .string ⟨#[98]⟩]) ∧ Below w.heap.size w w' := by
  go_enter Tryd.func81, Tryd.ntmps81
  go_wp2_with (first | (go_at_call 92; refine (pow2 _).mono ?_; rintro e w' ⟨rfl, rfl⟩) | (go_at_call 93; refine (tz_any _ (h.alloc _)).mono ?_; rintro e w' ⟨rfl, rfl⟩))
  go_rounds 1
  rw [run_convert_bytes_arg (P := Tryd.prog) _ 57 5 Tryd.underlying57 Tryd.underlying5 w.heap.size 64 1 1 [98] rfl ?hcell 9 Tryd.underlying9]
  case hcell =>
    intro i hi
    obtain rfl : i = 0 := by omega
    exact cell_new _ _ _ _ _ (by kernel_rfl)
  go_wp2
  go_ret2
  exact ⟨ret_vs (by kernel_rfl), (Below.refl _ _).alloc (Nat.le_refl _) _⟩

set_option maxRecDepth 100000 in
set_option maxHeartbeats 4000000 in
theorem bits_12 (w : World) (h : Tz w) : Calls Tryd.prog 81 #[.slice none 0 0, .int .u64 12, .int .i64 16, .bool false, .bool false] w fun e w' => e = .returned (.tuple #[.slice none 0 0, .string ⟨#[99]⟩]) ∧ Below w.heap.size w w' := by
  go_enter Tryd.func81, Tryd.ntmps81
  go_wp2_with (first | (go_at_call 92; refine (pow2 _).mono ?_; rintro e w' ⟨rfl, rfl⟩) | (go_at_call 93; refine (tz_any _ (h.alloc _)).mono ?_; rintro e w' ⟨rfl, rfl⟩))
  go_rounds 1
  rw [run_convert_bytes_arg (P := Tryd.prog) _ 57 5 Tryd.underlying57 Tryd.underlying5 w.heap.size 64 1 1 [99] rfl ?hcell 9 Tryd.underlying9]
  case hcell =>
    intro i hi
    obtain rfl : i = 0 := by omega
    exact cell_new _ _ _ _ _ (by kernel_rfl)
  go_wp2
  go_ret2
  exact ⟨ret_vs (by kernel_rfl), (Below.refl _ _).alloc (Nat.le_refl _) _⟩

set_option maxRecDepth 100000 in
set_option maxHeartbeats 4000000 in
theorem bits_13 (w : World) (h : Tz w) : Calls Tryd.prog 81 #[.slice none 0 0, .int .u64 13, .int .i64 16, .bool false, .bool false] w fun e w' => e = .returned (.tuple #[.slice none 0 0, .string ⟨#[100]⟩]) ∧ Below w.heap.size w w' := by
  go_enter Tryd.func81, Tryd.ntmps81
  go_wp2_with (first | (go_at_call 92; refine (pow2 _).mono ?_; rintro e w' ⟨rfl, rfl⟩) | (go_at_call 93; refine (tz_any _ (h.alloc _)).mono ?_; rintro e w' ⟨rfl, rfl⟩))
  go_rounds 1
  rw [run_convert_bytes_arg (P := Tryd.prog) _ 57 5 Tryd.underlying57 Tryd.underlying5 w.heap.size 64 1 1 [100] rfl ?hcell 9 Tryd.underlying9]
  case hcell =>
    intro i hi
    obtain rfl : i = 0 := by omega
    exact cell_new _ _ _ _ _ (by kernel_rfl)
  go_wp2
  go_ret2
  exact ⟨ret_vs (by kernel_rfl), (Below.refl _ _).alloc (Nat.le_refl _) _⟩

set_option maxRecDepth 100000 in
set_option maxHeartbeats 4000000 in
theorem bits_14 (w : World) (h : Tz w) : Calls Tryd.prog 81 #[.slice none 0 0, .int .u64 14, .int .i64 16, .bool false, .bool false] w fun e w' => e = .returned (.tuple #[.slice none 0 0, .string ⟨#[101]⟩]) ∧ Below w.heap.size w w' := by
  go_enter Tryd.func81, Tryd.ntmps81
  go_wp2_with (first | (go_at_call 92; refine (pow2 _).mono ?_; rintro e w' ⟨rfl, rfl⟩) | (go_at_call 93; refine (tz_any _ (h.alloc _)).mono ?_; rintro e w' ⟨rfl, rfl⟩))
  go_rounds 1
  rw [run_convert_bytes_arg (P := Tryd.prog) _ 57 5 Tryd.underlying57 Tryd.underlying5 w.heap.size 64 1 1 [101] rfl ?hcell 9 Tryd.underlying9]
  case hcell =>
    intro i hi
    obtain rfl : i = 0 := by omega
    exact cell_new _ _ _ _ _ (by kernel_rfl)
  go_wp2
  go_ret2
  exact ⟨ret_vs (by kernel_rfl), (Below.refl _ _).alloc (Nat.le_refl _) _⟩

set_option maxRecDepth 100000 in
set_option maxHeartbeats 4000000 in
theorem bits_15 (w : World) (h : Tz w) : Calls Tryd.prog 81 #[.slice none 0 0, .int .u64 15, .int .i64 16, .bool false, .bool false] w fun e w' => e = .returned (.tuple #[.slice none 0 0, .string ⟨#[102]⟩]) ∧ Below w.heap.size w w' := by
  go_enter Tryd.func81, Tryd.ntmps81
  go_wp2_with (first | (go_at_call 92; refine (pow2 _).mono ?_; rintro e w' ⟨rfl, rfl⟩) | (go_at_call 93; refine (tz_any _ (h.alloc _)).mono ?_; rintro e w' ⟨rfl, rfl⟩))
  go_rounds 1
  rw [run_convert_bytes_arg (P := Tryd.prog) _ 57 5 Tryd.underlying57 Tryd.underlying5 w.heap.size 64 1 1 [102] rfl ?hcell 9 Tryd.underlying9]
  case hcell =>
    intro i hi
    obtain rfl : i = 0 := by omega
    exact cell_new _ _ _ _ _ (by kernel_rfl)
  go_wp2
  go_ret2
  exact ⟨ret_vs (by kernel_rfl), (Below.refl _ _).alloc (Nat.le_refl _) _⟩

set_option maxRecDepth 100000 in
set_option maxHeartbeats 4000000 in
theorem bits_16 (w : World) (h : Tz w) : Calls Tryd.prog 81 #[.slice none 0 0, .int .u64 16, .int .i64 16, .bool false, .bool false] w fun e w' => e = .returned (.tuple #[.slice none 0 0, .string ⟨#[49, 48]⟩]) ∧ Below w.heap.size w w' := by
  go_enter Tryd.func81, Tryd.ntmps81
  go_wp2_with (first | (go_at_call 92; refine (pow2 _).mono ?_; rintro e w' ⟨rfl, rfl⟩) | (go_at_call 93; refine (tz_any _ (h.alloc _)).mono ?_; rintro e w' ⟨rfl, rfl⟩))
  have hb : bits .and .u64 16 15 = 0 := by kernel_rfl
  go_rounds 2
  rw [run_convert_bytes_arg (P := Tryd.prog) _ 57 5 Tryd.underlying57 Tryd.underlying5 w.heap.size 63 2 2 [49, 48] rfl ?hcell 9 Tryd.underlying9]
  case hcell =>
    intro i hi
    rcases (by omega : i = 0 ∨ i = 1) with rfl | rfl
    · exact cell_new _ _ _ _ _ (by kernel_rfl)
    · exact cell_new _ _ _ _ _ (by kernel_rfl)
  go_wp2
  go_ret2
  exact ⟨ret_vs (by kernel_rfl), (Below.refl _ _).alloc (Nat.le_refl _) _⟩

set_option maxRecDepth 100000 in
set_option maxHeartbeats 4000000 in
theorem bits_17 (w : World) (h : Tz w) : Calls Tryd.prog 81 #[.slice none 0 0, .int .u64 17, .int .i64 16, .bool false, .bool false] w fun e w' => e = .returned (.tuple #[.slice none 0 0, .string ⟨#[49, 49]⟩]) ∧ Below w.heap.size w w' := by
  go_enter Tryd.func81, Tryd.ntmps81
  go_wp2_with (first | (go_at_call 92; refine (pow2 _).mono ?_; rintro e w' ⟨rfl, rfl⟩) | (go_at_call 93; refine (tz_any _ (h.alloc _)).mono ?_; rintro e w' ⟨rfl, rfl⟩))
  have hb : bits .and .u64 17 15 = 1 := by kernel_rfl
  go_rounds 2
  rw [run_convert_bytes_arg (P := Tryd.prog) _ 57 5 Tryd.underlying57 Tryd.underlying5 w.heap.size 63 2 2 [49, 49] rfl ?hcell 9 Tryd.underlying9]
  case hcell =>
    intro i hi
    rcases (by omega : i = 0 ∨ i = 1) with rfl | rfl
    · exact cell_new _ _ _ _ _ (by kernel_rfl)
    · exact cell_new _ _ _ _ _ (by kernel_rfl)
  go_wp2
  go_ret2
  exact ⟨ret_vs (by kernel_rfl), (Below.refl _ _).alloc (Nat.le_refl _) _⟩

set_option maxRecDepth 100000 in
set_option maxHeartbeats 4000000 in
theorem bits_18 (w : World) (h : Tz w) : Calls Tryd.prog 81 #[.slice none 0 0, .int .u64 18, .int .i64 16, .bool false, .bool false] w fun e w' => e = .returned (.tuple #[.slice none 0 0, .string ⟨#[49, 50]⟩]) ∧ Below w.heap.size w w' := by
  go_enter Tryd.func81, Tryd.ntmps81
  go_wp2_with (first | (go_at_call 92; refine (pow2 _).mono ?_; rintro e w' ⟨rfl, rfl⟩) | (go_at_call 93; refine (tz_any _ (h.alloc _)).mono ?_; rintro e w' ⟨rfl, rfl⟩))
  have hb : bits .and .u64 18 15 = 2 := by kernel_rfl
  go_rounds 2
  rw [run_convert_bytes_arg (P := Tryd.prog) _ 57 5 Tryd.underlying57 Tryd.underlying5 w.heap.size 63 2 2 [49, 50] rfl ?hcell 9 Tryd.underlying9]
  case hcell =>
    intro i hi
    rcases (by omega : i = 0 ∨ i = 1) with rfl | rfl
    · exact cell_new _ _ _ _ _ (by kernel_rfl)
    · exact cell_new _ _ _ _ _ (by kernel_rfl)
  go_wp2
  go_ret2
  exact ⟨ret_vs (by kernel_rfl), (Below.refl _ _).alloc (Nat.le_refl _) _⟩

set_option maxRecDepth 100000 in
set_option maxHeartbeats 4000000 in
theorem bits_19 (w : World) (h : Tz w) : Calls Tryd.prog 81 #[.slice none 0 0, .int .u64 19, .int .i64 16, .bool false, .bool false] w fun e w' => e = .returned (.tuple #[.slice none 0 0, .string ⟨#[49, 51]⟩]) ∧ Below w.heap.size w w' := by
  go_enter Tryd.func81, Tryd.ntmps81
  go_wp2_with (first | (go_at_call 92; refine (pow2 _).mono ?_; rintro e w' ⟨rfl, rfl⟩) | (go_at_call 93; refine (tz_any _ (h.alloc _)).mono ?_; rintro e w' ⟨rfl, rfl⟩))
  have hb : bits .and .u64 19 15 = 3 := by kernel_rfl
  go_rounds 2
  rw [run_convert_bytes_arg (P := Tryd.prog) _ 57 5 Tryd.underlying57 Tryd.underlying5 w.heap.size 63 2 2 [49, 51] rfl ?hcell 9 Tryd.underlying9]
  case hcell =>
    intro i hi
    rcases (by omega : i = 0 ∨ i = 1) with rfl | rfl
    · exact cell_new _ _ _ _ _ (by kernel_rfl)
    · exact cell_new _ _ _ _ _ (by kernel_rfl)
  go_wp2
  go_ret2
  exact ⟨ret_vs (by kernel_rfl), (Below.refl _ _).alloc (Nat.le_refl _) _⟩

set_option maxRecDepth 100000 in
set_option maxHeartbeats 4000000 in
theorem bits_20 (w : World) (h : Tz w) : Calls Tryd.prog 81 #[.slice none 0 0, .int .u64 20, .int .i64 16, .bool false, .bool false] w fun e w' => e = .returned (.tuple #[.slice none 0 0, .string ⟨#[49, 52]⟩]) ∧ Below w.heap.size w w' := by
  go_enter Tryd.func81, Tryd.ntmps81
  go_wp2_with (first | (go_at_call 92; refine (pow2 _).mono ?_; rintro e w' ⟨rfl, rfl⟩) | (go_at_call 93; refine (tz_any _ (h.alloc _)).mono ?_; rintro e w' ⟨rfl, rfl⟩))
  have hb : bits .and .u64 20 15 = 4 := by kernel_rfl
  go_rounds 2
  rw [run_convert_bytes_arg (P := Tryd.prog) _ 57 5 Tryd.underlying57 Tryd.underlying5 w.heap.size 63 2 2 [49, 52] rfl ?hcell 9 Tryd.underlying9]
  case hcell =>
    intro i hi
    rcases (by omega : i = 0 ∨ i = 1) with rfl | rfl
    · exact cell_new _ _ _ _ _ (by kernel_rfl)
    · exact cell_new _ _ _ _ _ (by kernel_rfl)
  go_wp2
  go_ret2
  exact ⟨ret_vs (by kernel_rfl), (Below.refl _ _).alloc (Nat.le_refl _) _⟩

set_option maxRecDepth 100000 in
set_option maxHeartbeats 4000000 in
theorem bits_21 (w : World) (h : Tz w) : Calls Tryd.prog 81 #[.slice none 0 0, .int .u64 21, .int .i64 16, .bool false, .bool false] w fun e w' => e = .returned (.tuple #[.slice none 0 0, .string ⟨#[49, 53]⟩]) ∧ Below w.heap.size w w' := by
  go_enter Tryd.func81, Tryd.ntmps81
  go_wp2_with (first | (go_at_call 92; refine (pow2 _).mono ?_; rintro e w' ⟨rfl, rfl⟩) | (go_at_call 93; refine (tz_any _ (h.alloc _)).mono ?_; rintro e w' ⟨rfl, rfl⟩))
  have hb : bits .and .u64 21 15 = 5 := by kernel_rfl
  go_rounds 2
  rw [run_convert_bytes_arg (P := Tryd.prog) _ 57 5 Tryd.underlying57 Tryd.underlying5 w.heap.size 63 2 2 [49, 53] rfl ?hcell 9 Tryd.underlying9]
  case hcell =>
    intro i hi
    rcases (by omega : i = 0 ∨ i = 1) with rfl | rfl
    · exact cell_new _ _ _ _ _ (by kernel_rfl)
    · exact cell_new _ _ _ _ _ (by kernel_rfl)
  go_wp2
  go_ret2
  exact ⟨ret_vs (by kernel_rfl), (Below.refl _ _).alloc (Nat.le_refl _) _⟩

set_option maxRecDepth 100000 in
set_option maxHeartbeats 4000000 in
theorem bits_22 (w : World) (h : Tz w) : Calls Tryd.prog 81 #[.slice none 0 0, .int .u64 22, .int .i64 16, .bool false, .bool false] w fun e w' => e = .returned (.tuple #[.slice none 0 0, .string ⟨#[49, 54]⟩]) ∧ Below w.heap.size w w' := by
  go_enter Tryd.func81, Tryd.ntmps81
  go_wp2_with (first | (go_at_call 92; refine (pow2 _).mono ?_; rintro e w' ⟨rfl, rfl⟩) | (go_at_call 93; refine (tz_any _ (h.alloc _)).mono ?_; rintro e w' ⟨rfl, rfl⟩))
  have hb : bits .and .u64 22 15 = 6 := by kernel_rfl
  go_rounds 2
  rw [run_convert_bytes_arg (P := Tryd.prog) _ 57 5 Tryd.underlying57 Tryd.underlying5 w.heap.size 63 2 2 [49, 54] rfl ?hcell 9 Tryd.underlying9]
  case hcell =>
    intro i hi
    rcases (by omega : i = 0 ∨ i = 1) with rfl | rfl
    · exact cell_new _ _ _ _ _ (by kernel_rfl)
    · exact cell_new _ _ _ _ _ (by kernel_rfl)
  go_wp2
  go_ret2
  exact ⟨ret_vs (by kernel_rfl), (Below.refl _ _).alloc (Nat.le_refl _) _⟩

set_option maxRecDepth 100000 in
set_option maxHeartbeats 4000000 in
theorem bits_23 (w : World) (h : Tz w) : Calls Tryd.prog 81 #[.slice none 0 0, .int .u64 23, .int .i64 16, .bool false, .bool false] w fun e w' => e = .returned (.tuple #[.slice none 0 0, .string ⟨#[49, 55]⟩]) ∧ Below w.heap.size w w' := by
  go_enter Tryd.func81, Tryd.ntmps81
  go_wp2_with (first | (go_at_call 92; refine (pow2 _).mono ?_; rintro e w' ⟨rfl, rfl⟩) | (go_at_call 93; refine (tz_any _ (h.alloc _)).mono ?_; rintro e w' ⟨rfl, rfl⟩))
  have hb : bits .and .u64 23 15 = 7 := by kernel_rfl
  go_rounds 2
  rw [run_convert_bytes_arg (P := Tryd.prog) _ 57 5 Tryd.underlying57 Tryd.underlying5 w.heap.size 63 2 2 [49, 55] rfl ?hcell 9 Tryd.underlying9]
  case hcell =>
    intro i hi
    rcases (by omega : i = 0 ∨ i = 1) with rfl | rfl
    · exact cell_new _ _ _ _ _ (by kernel_rfl)
    · exact cell_new _ _ _ _ _ (by kernel_rfl)
  go_wp2
  go_ret2
  exact ⟨ret_vs (by kernel_rfl), (Below.refl _ _).alloc (Nat.le_refl _) _⟩

set_option maxRecDepth 100000 in
set_option maxHeartbeats 4000000 in
theorem bits_24 (w : World) (h : Tz w) : Calls Tryd.prog 81 #[.slice none 0 0, .int .u64 24, .int .i64 16, .bool false, .bool false] w fun e w' => e = .returned (.tuple #[.slice none 0 0, .string ⟨#[49, 56]⟩]) ∧ Below w.heap.size w w' := by
  go_enter Tryd.func81, Tryd.ntmps81
  go_wp2_with (first | (go_at_call 92; refine (pow2 _).mono ?_; rintro e w' ⟨rfl, rfl⟩) | (go_at_call 93; refine (tz_any _ (h.alloc _)).mono ?_; rintro e w' ⟨rfl, rfl⟩))
  have hb : bits .and .u64 24 15 = 8 := by kernel_rfl
  go_rounds 2
  rw [run_convert_bytes_arg (P := Tryd.prog) _ 57 5 Tryd.underlying57 Tryd.underlying5 w.heap.size 63 2 2 [49, 56] rfl ?hcell 9 Tryd.underlying9]
  case hcell =>
    intro i hi
    rcases (by omega : i = 0 ∨ i = 1) with rfl | rfl
    · exact cell_new _ _ _ _ _ (by kernel_rfl)
    · exact cell_new _ _ _ _ _ (by kernel_rfl)
  go_wp2
  go_ret2
  exact ⟨ret_vs (by kernel_rfl), (Below.refl _ _).alloc (Nat.le_refl _) _⟩

set_option maxRecDepth 100000 in
set_option maxHeartbeats 4000000 in
theorem bits_25 (w : World) (h : Tz w) : Calls Tryd.prog 81 #[.slice none 0 0, .int .u64 25, .int .i64 16, .bool false, .bool false] w fun e w' => e = .returned (.tuple #[.slice none 0 0, .string ⟨#[49, 57]⟩]) ∧ Below w.heap.size w w' := by
  go_enter Tryd.func81, Tryd.ntmps81
  go_wp2_with (first | (go_at_call 92; refine (pow2 _).mono ?_; rintro e w' ⟨rfl, rfl⟩) | (go_at_call 93; refine (tz_any _ (h.alloc _)).mono ?_; rintro e w' ⟨rfl, rfl⟩))
  have hb : bits .and .u64 25 15 = 9 := by kernel_rfl
  go_rounds 2
  rw [run_convert_bytes_arg (P := Tryd.prog) _ 57 5 Tryd.underlying57 Tryd.underlying5 w.heap.size 63 2 2 [49, 57] rfl ?hcell 9 Tryd.underlying9]
  case hcell =>
    intro i hi
    rcases (by omega : i = 0 ∨ i = 1) with rfl | rfl
    · exact cell_new _ _ _ _ _ (by kernel_rfl)
    · exact cell_new _ _ _ _ _ (by kernel_rfl)
  go_wp2
  go_ret2
  exact ⟨ret_vs (by kernel_rfl), (Below.refl _ _).alloc (Nat.le_refl _) _⟩

set_option maxRecDepth 100000 in
set_option maxHeartbeats 4000000 in
theorem bits_26 (w : World) (h : Tz w) : Calls Tryd.prog 81 #[.slice none 0 0, .int .u64 26, .int .i64 16, .bool false, .bool false] w fun e w' => e = .returned (.tuple #[.slice none 0 0, .string ⟨#[49, 97]⟩]) ∧ Below w.heap.size w w' := by
  go_enter Tryd.func81, Tryd.ntmps81
  go_wp2_with (first | (go_at_call 92; refine (pow2 _).mono ?_; rintro e w' ⟨rfl, rfl⟩) | (go_at_call 93; refine (tz_any _ (h.alloc _)).mono ?_; rintro e w' ⟨rfl, rfl⟩))
  have hb : bits .and .u64 26 15 = 10 := by kernel_rfl
  go_rounds 2
  rw [run_convert_bytes_arg (P := Tryd.prog) _ 57 5 Tryd.underlying57 Tryd.underlying5 w.heap.size 63 2 2 [49, 97] rfl ?hcell 9 Tryd.underlying9]
  case hcell =>
    intro i hi
    rcases (by omega : i = 0 ∨ i = 1) with rfl | rfl
    · exact cell_new _ _ _ _ _ (by kernel_rfl)
    · exact cell_new _ _ _ _ _ (by kernel_rfl)
  go_wp2
  go_ret2
  exact ⟨ret_vs (by kernel_rfl), (Below.refl _ _).alloc (Nat.le_refl _) _⟩

set_option maxRecDepth 100000 in
set_option maxHeartbeats 4000000 in
theorem bits_27 (w : World) (h : Tz w) : Calls Tryd.prog 81 #[.slice none 0 0, .int .u64 27, .int .i64 16, .bool false, .bool false] w fun e w' => e = .returned (.tuple #[.slice none 0 0, .string ⟨#[49, 98]⟩]) ∧ Below w.heap.size w w' := by
  go_enter Tryd.func81, Tryd.ntmps81
  go_wp2_with (first | (go_at_call 92; refine (pow2 _).mono ?_; rintro e w' ⟨rfl, rfl⟩) | (go_at_call 93; refine (tz_any _ (h.alloc _)).mono ?_; rintro e w' ⟨rfl, rfl⟩))
  have hb : bits .and .u64 27 15 = 11 := by kernel_rfl
  go_rounds 2
  rw [run_convert_bytes_arg (P := Tryd.prog) _ 57 5 Tryd.underlying57 Tryd.underlying5 w.heap.size 63 2 2 [49, 98] rfl ?hcell 9 Tryd.underlying9]
  case hcell =>
    intro i hi
    rcases (by omega : i = 0 ∨ i = 1) with rfl | rfl
    · exact cell_new _ _ _ _ _ (by kernel_rfl)
    · exact cell_new _ _ _ _ _ (by kernel_rfl)
  go_wp2
  go_ret2
  exact ⟨ret_vs (by kernel_rfl), (Below.refl _ _).alloc (Nat.le_refl _) _⟩

set_option maxRecDepth 100000 in
set_option maxHeartbeats 4000000 in
theorem bits_28 (w : World) (h : Tz w) : Calls Tryd.prog 81 #[.slice none 0 0, .int .u64 28, .int .i64 16, .bool false, .bool false] w fun e w' => e = .returned (.tuple #[.slice none 0 0, .string ⟨#[49, 99]⟩]) ∧ Below w.heap.size w w' := by
  go_enter Tryd.func81, Tryd.ntmps81
  go_wp2_with (first | (go_at_call 92; refine (pow2 _).mono ?_; rintro e w' ⟨rfl, rfl⟩) | (go_at_call 93; refine (tz_any _ (h.alloc _)).mono ?_; rintro e w' ⟨rfl, rfl⟩))
  have hb : bits .and .u64 28 15 = 12 := by kernel_rfl
  go_rounds 2
  rw [run_convert_bytes_arg (P := Tryd.prog) _ 57 5 Tryd.underlying57 Tryd.underlying5 w.heap.size 63 2 2 [49, 99] rfl ?hcell 9 Tryd.underlying9]
  case hcell =>
    intro i hi
    rcases (by omega : i = 0 ∨ i = 1) with rfl | rfl
    · exact cell_new _ _ _ _ _ (by kernel_rfl)
    · exact cell_new _ _ _ _ _ (by kernel_rfl)
  go_wp2
  go_ret2
  exact ⟨ret_vs (by kernel_rfl), (Below.refl _ _).alloc (Nat.le_refl _) _⟩

set_option maxRecDepth 100000 in
set_option maxHeartbeats 4000000 in
theorem bits_29 (w : World) (h : Tz w) : Calls Tryd.prog 81 #[.slice none 0 0, .int .u64 29, .int .i64 16, .bool false, .bool false] w fun e w' => e = .returned (.tuple #[.slice none 0 0, .string ⟨#[49, 100]⟩]) ∧ Below w.heap.size w w' := by
  go_enter Tryd.func81, Tryd.ntmps81
  go_wp2_with (first | (go_at_call 92; refine (pow2 _).mono ?_; rintro e w' ⟨rfl, rfl⟩) | (go_at_call 93; refine (tz_any _ (h.alloc _)).mono ?_; rintro e w' ⟨rfl, rfl⟩))
  have hb : bits .and .u64 29 15 = 13 := by kernel_rfl
  go_rounds 2
  rw [run_convert_bytes_arg (P := Tryd.prog) _ 57 5 Tryd.underlying57 Tryd.underlying5 w.heap.size 63 2 2 [49, 100] rfl ?hcell 9 Tryd.underlying9]
  case hcell =>
    intro i hi
    rcases (by omega : i = 0 ∨ i = 1) with rfl | rfl
    · exact cell_new _ _ _ _ _ (by kernel_rfl)
    · exact cell_new _ _ _ _ _ (by kernel_rfl)
  go_wp2
  go_ret2
  exact ⟨ret_vs (by kernel_rfl), (Below.refl _ _).alloc (Nat.le_refl _) _⟩

set_option maxRecDepth 100000 in
set_option maxHeartbeats 4000000 in
theorem bits_30 (w : World) (h : Tz w) : Calls Tryd.prog 81 #[.slice none 0 0, .int .u64 30, .int .i64 16, .bool false, .bool false] w fun e w' => e = .returned (.tuple #[.slice none 0 0, .string ⟨#[49, 101]⟩]) ∧ Below w.heap.size w w' := by
  go_enter Tryd.func81, Tryd.ntmps81
  go_wp2_with (first | (go_at_call 92; refine (pow2 _).mono ?_; rintro e w' ⟨rfl, rfl⟩) | (go_at_call 93; refine (tz_any _ (h.alloc _)).mono ?_; rintro e w' ⟨rfl, rfl⟩))
  have hb : bits .and .u64 30 15 = 14 := by kernel_rfl
  go_rounds 2
  rw [run_convert_bytes_arg (P := Tryd.prog) _ 57 5 Tryd.underlying57 Tryd.underlying5 w.heap.size 63 2 2 [49, 101] rfl ?hcell 9 Tryd.underlying9]
  case hcell =>
    intro i hi
    rcases (by omega : i = 0 ∨ i = 1) with rfl | rfl
    · exact cell_new _ _ _ _ _ (by kernel_rfl)
    · exact cell_new _ _ _ _ _ (by kernel_rfl)
  go_wp2
  go_ret2
  exact ⟨ret_vs (by kernel_rfl), (Below.refl _ _).alloc (Nat.le_refl _) _⟩

set_option maxRecDepth 100000 in
set_option maxHeartbeats 4000000 in
theorem bits_31 (w : World) (h : Tz w) : Calls Tryd.prog 81 #[.slice none 0 0, .int .u64 31, .int .i64 16, .bool false, .bool false] w fun e w' => e = .returned (.tuple #[.slice none 0 0, .string ⟨#[49, 102]⟩]) ∧ Below w.heap.size w w' := by
  go_enter Tryd.func81, Tryd.ntmps81
  go_wp2_with (first | (go_at_call 92; refine (pow2 _).mono ?_; rintro e w' ⟨rfl, rfl⟩) | (go_at_call 93; refine (tz_any _ (h.alloc _)).mono ?_; rintro e w' ⟨rfl, rfl⟩))
  have hb : bits .and .u64 31 15 = 15 := by kernel_rfl
  go_rounds 2
  rw [run_convert_bytes_arg (P := Tryd.prog) _ 57 5 Tryd.underlying57 Tryd.underlying5 w.heap.size 63 2 2 [49, 102] rfl ?hcell 9 Tryd.underlying9]
  case hcell =>
    intro i hi
    rcases (by omega : i = 0 ∨ i = 1) with rfl | rfl
    · exact cell_new _ _ _ _ _ (by kernel_rfl)
    · exact cell_new _ _ _ _ _ (by kernel_rfl)
  go_wp2
  go_ret2
  exact ⟨ret_vs (by kernel_rfl), (Below.refl _ _).alloc (Nat.le_refl _) _⟩

set_option maxRecDepth 100000 in
set_option maxHeartbeats 4000000 in
theorem bits_127 (w : World) (h : Tz w) : Calls Tryd.prog 81 #[.slice none 0 0, .int .u64 127, .int .i64 16, .bool false, .bool false] w fun e w' => e = .returned (.tuple #[.slice none 0 0, .string ⟨#[55, 102]⟩]) ∧ Below w.heap.size w w' := by
  go_enter Tryd.func81, Tryd.ntmps81
  go_wp2_with (first | (go_at_call 92; refine (pow2 _).mono ?_; rintro e w' ⟨rfl, rfl⟩) | (go_at_call 93; refine (tz_any _ (h.alloc _)).mono ?_; rintro e w' ⟨rfl, rfl⟩))
  have hb : bits .and .u64 127 15 = 15 := by kernel_rfl
  go_rounds 2
  rw [run_convert_bytes_arg (P := Tryd.prog) _ 57 5 Tryd.underlying57 Tryd.underlying5 w.heap.size 63 2 2 [55, 102] rfl ?hcell 9 Tryd.underlying9]
  case hcell =>
    intro i hi
    rcases (by omega : i = 0 ∨ i = 1) with rfl | rfl
    · exact cell_new _ _ _ _ _ (by kernel_rfl)
    · exact cell_new _ _ _ _ _ (by kernel_rfl)
  go_wp2
  go_ret2
  exact ⟨ret_vs (by kernel_rfl), (Below.refl _ _).alloc (Nat.le_refl _) _⟩

/-- A digit of sixteen. -/
def hxd (n : Nat) : UInt8 := if n < 10 then UInt8.ofNat (48 + n) else UInt8.ofNat (87 + n)
/-- A small number in digits of sixteen. -/
def hx (c : Nat) : List UInt8 := if c < 16 then [hxd c] else [hxd (c / 16), hxd (c % 16)]
/-- What is written by digits. -/
def Odd (c : Nat) : Prop := (c < 32 ∧ c ≠ 9 ∧ c ≠ 10) ∨ c = 127
theorem bits_any (c : Nat) (hc : Odd c) (w : World) (h : Tz w) : Calls Tryd.prog 81 #[.slice none 0 0, .int .u64 c, .int .i64 16, .bool false, .bool false] w fun e w' => e = .returned (.tuple #[.slice none 0 0, .string (ba (hx c))]) ∧ Below w.heap.size w w' := by
  unfold Odd at hc
  rcases (by omega : c = 0 ∨ c = 1 ∨ c = 2 ∨ c = 3 ∨ c = 4 ∨ c = 5 ∨ c = 6 ∨ c = 7 ∨ c = 8 ∨ c = 11 ∨ c = 12 ∨ c = 13 ∨ c = 14 ∨ c = 15 ∨ c = 16 ∨ c = 17 ∨ c = 18 ∨ c = 19 ∨ c = 20 ∨ c = 21 ∨ c = 22 ∨ c = 23 ∨ c = 24 ∨ c = 25 ∨ c = 26 ∨ c = 27 ∨ c = 28 ∨ c = 29 ∨ c = 30 ∨ c = 31 ∨ c = 127) with rfl | rfl | rfl | rfl | rfl | rfl | rfl | rfl | rfl | rfl | rfl | rfl | rfl | rfl | rfl | rfl | rfl | rfl | rfl | rfl | rfl | rfl | rfl | rfl | rfl | rfl | rfl | rfl | rfl | rfl | rfl
  · exact bits_0 w h
  · exact bits_1 w h
  · exact bits_2 w h
  · exact bits_3 w h
  · exact bits_4 w h
  · exact bits_5 w h
  · exact bits_6 w h
  · exact bits_7 w h
  · exact bits_8 w h
  · exact bits_11 w h
  · exact bits_12 w h
  · exact bits_13 w h
  · exact bits_14 w h
  · exact bits_15 w h
  · exact bits_16 w h
  · exact bits_17 w h
  · exact bits_18 w h
  · exact bits_19 w h
  · exact bits_20 w h
  · exact bits_21 w h
  · exact bits_22 w h
  · exact bits_23 w h
  · exact bits_24 w h
  · exact bits_25 w h
  · exact bits_26 w h
  · exact bits_27 w h
  · exact bits_28 w h
  · exact bits_29 w h
  · exact bits_30 w h
  · exact bits_31 w h
  · exact bits_127 w h

set_option maxRecDepth 100000 in
set_option maxHeartbeats 4000000 in
theorem format_any (c : Nat) (hc : Odd c) (w : World) (h : Tz w) : Calls Tryd.prog 37 #[.int .i64 c, .int .i64 16] w fun e w' => e = .returned (.string (ba (hx c))) ∧ Below w.heap.size w w' := by
  have hc128 : c < 128 := by unfold Odd at hc; omega
  have hi : (c : Int) < 128 := by omega
  go_enter Tryd.func37, Tryd.ntmps37
  go_wp2_with (first | (go_at_call 81; refine (bits_any c hc _ (by exact h)).mono ?_; rintro e w1 ⟨rfl, k1⟩) | go_in)
  go_ret
  exact ⟨rfl, k1⟩
end Go.Proofs.YtbhcniemkjoflaaDoor
