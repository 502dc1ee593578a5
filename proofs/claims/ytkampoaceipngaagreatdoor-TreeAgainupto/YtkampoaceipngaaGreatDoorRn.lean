/- What can not be replaced: an error. -/
import Derived.Test.YtkampoaceipngaaGreatDoorRp2
import Derived.Test.YtkampoaceipngaaGreatDoorEra
namespace Go.Proofs.YtkampoaceipngaaGreatDoor
open Go.RowKit
open M

set_option maxRecDepth 100000 in
set_option maxHeartbeats 4000000 in
theorem replace_no (b : Nat) (v : Value) (s X : ByteArray) (f u : Int) (w : World) (h : IsD w b v s) (hno : f < 0 ∨ u < f ∨ (s.size : Int) < u) :
    Calls Tryz.prog 31 #[.pointer (some ⟨b, 0, none⟩), .agg #[.int .i64 f, .int .i64 u, .string X]] w fun e w' => e = .returned (.tuple #[.pointer none, .int .i64 0, errV 1]) ∧ Below w.heap.size w w' := by
  obtain ⟨q1, q2, -⟩ := h
  have hbw : b < w.heap.size := World.block_lt_of_cell? w _ q1
  have he : errV 1 = .iface 48 (.int .i64 1) := rfl
  rw [he]
  clear he
  by_cases h1 : f < 0
  · have i1 : decide (f < 0) = true := by simpa using h1
    clear hno h1
    go_enter Tryz.func31, Tryz.ntmps31
    go_wp2_with fail
    go_quiet (fail)
    go_wp2_with fail
    go_ret3
    exact ⟨rfl, belowN ((Below.refl _ w).alloc (Nat.le_refl _) _) _⟩
  · have i1 : decide (f < 0) = false := by simpa using h1
    by_cases h2 : u < f
    · have i2 : decide (u < f) = true := by simpa using h2
      clear hno h1 h2
      go_enter Tryz.func31, Tryz.ntmps31
      go_wp2_with fail
      go_quiet (fail)
      go_wp2_with fail
      go_ret3
      exact ⟨rfl, belowN ((Below.refl _ w).alloc (Nat.le_refl _) _) _⟩
    · have i2 : decide (u < f) = false := by simpa using h2
      have i3 : decide ((s.size : Int) < u) = true := by
        rcases hno with g | g | g
        · exact absurd g h1
        · exact absurd g h2
        · simpa using g
      clear hno h1 h2
      go_enter Tryz.func31, Tryz.ntmps31
      go_wp2_with fail
      go_quiet (fail)
      go_wp2_with fail
      go_ret3
      exact ⟨rfl, belowN ((Below.refl _ w).alloc (Nat.le_refl _) _) _⟩
end Go.Proofs.YtkampoaceipngaaGreatDoor
