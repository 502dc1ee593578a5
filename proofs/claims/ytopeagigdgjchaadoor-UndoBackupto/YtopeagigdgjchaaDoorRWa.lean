/- What the small functions of package rope do: measures are added, characters are measured, texts are measured. -/
import Derived.Test.YtopeagigdgjchaaDoorChecked
import Derived.Test.YtopeagigdgjchaaDoorRMath
import Derived.WalkKit
import Derived.WalkSpells
namespace Go.Proofs.YtopeagigdgjchaaDoor.Rp
open Go.RowKit
open M

theorem bcell {W w1 : World} (hb : Below W.heap.size W w1) : (∀ b o, b < W.heap.size → w1.cell? ⟨b, o, none⟩ = W.cell? ⟨b, o, none⟩) ∧ (∀ b o, b < W.heap.size → w1.frozen? ⟨b, o, none⟩ = W.frozen? ⟨b, o, none⟩) :=
  ⟨fun b o h => hb.cell (p := ⟨b, o, none⟩) h, fun b o h => hb.frozen (p := ⟨b, o, none⟩) h⟩

set_option maxHeartbeats 400000 in
theorem plus_any (a1 a2 a3 a4 b1 b2 b3 b4 : Nat) (w : World) (h1 : a1 ≤ 4503599627370496) (h2 : a2 ≤ 4503599627370496) (h3 : a3 ≤ 4503599627370496) (h4 : a4 ≤ 4503599627370496) (k1 : b1 ≤ 4503599627370496) (k2 : b2 ≤ 4503599627370496) (k3 : b3 ≤ 4503599627370496) (k4 : b4 ≤ 4503599627370496) :
    Calls Tryd.prog 65 #[.agg #[.int .i64 a1, .int .i64 a2, .int .i64 a3, .int .i64 a4], .agg #[.int .i64 b1, .int .i64 b2, .int .i64 b3, .int .i64 b4]] w fun e w' => e = .returned (.agg #[.int .i64 (a1 + b1), .int .i64 (a2 + b2), .int .i64 (a3 + b3), .int .i64 (a4 + b4)]) ∧ Below w.heap.size w w' := by
  go_enter Tryd.func65, Tryd.ntmps65
  go_wp2
  exact bodyPost_ret (v := .agg #[.int .i64 (a1 + b1), .int .i64 (a2 + b2), .int .i64 (a3 + b3), .int .i64 (a4 + b4)]) (by simp [results, Tryd.results65, go_sem]) rfl ⟨rfl, (((Below.refl _ _).alloc (Nat.le_refl _) _).alloc (by simp) _).alloc (by simp; omega) _⟩

set_option maxHeartbeats 400000 in
theorem lineBreak_any (w : World) :
    Calls Tryd.prog 67 #[] w fun e w' => e = .returned (.agg #[.int .i64 1, .int .i64 1, .int .i64 1, .int .i64 1]) ∧ Below w.heap.size w w' := by
  go_enter Tryd.func67, Tryd.ntmps67
  go_wp2
  exact bodyPost_ret (v := .agg #[.int .i64 1, .int .i64 1, .int .i64 1, .int .i64 1]) (by simp [results, Tryd.results67, go_sem]) rfl ⟨rfl, (Below.refl _ _).alloc (Nat.le_refl _) _⟩

set_option maxHeartbeats 400000 in
theorem unitsOf_any (c : Nat) (w : World) :
    Calls Tryd.prog 68 #[.int .i32 c] w fun e w' => e = .returned (.int .i64 (un c)) ∧ w' = w := by
  by_cases h : c > 65535
  · have h' : (65535 : Int) < (c : Int) := by omega
    rw [show un c = 2 from if_pos h]
    go_enter Tryd.func68, Tryd.ntmps68
    go_wp2
    go_ret
    exact ⟨rfl, rfl⟩
  · have h' : ¬ (65535 : Int) < (c : Int) := by omega
    rw [show un c = 1 from if_neg h]
    go_enter Tryd.func68, Tryd.ntmps68
    go_wp2
    go_ret
    exact ⟨rfl, rfl⟩

set_option maxHeartbeats 400000 in
theorem isLeaf_any (b : Nat) (v : Option Addr) (w : World) (h : w.cell? ⟨b, 0, none⟩ = some (.pointer v)) :
    Calls Tryd.prog 52 #[.pointer (some ⟨b, 0, none⟩)] w fun e w' => e = .returned (.bool v.isNone) ∧ w' = w := by
  cases v with
  | none =>
    go_enter Tryd.func52, Tryd.ntmps52
    go_wp2
    go_ret
    exact ⟨rfl, rfl⟩
  | some a =>
    go_enter Tryd.func52, Tryd.ntmps52
    go_wp2
    go_ret
    exact ⟨rfl, rfl⟩

set_option maxHeartbeats 400000 in
theorem measured_nil (w : World) :
    Calls Tryd.prog 39 #[.pointer none] w fun e w' => e = .returned (.agg #[.int .i64 0, .int .i64 0, .int .i64 0, .int .i64 0]) ∧ Below w.heap.size w w' := by
  go_enter Tryd.func39, Tryd.ntmps39
  go_wp2
  exact bodyPost_ret (v := .agg #[.int .i64 0, .int .i64 0, .int .i64 0, .int .i64 0]) (by simp [results, Tryd.results39, go_sem]) rfl ⟨rfl, (Below.refl _ _).alloc (Nat.le_refl _) _⟩

set_option maxHeartbeats 400000 in
theorem measured_some (b : Nat) (a1 a2 a3 a4 : Int) (w : World) (hb : b < w.heap.size) (h4 : w.cell? ⟨b, 4, none⟩ = some (.int .i64 a1)) (h5 : w.cell? ⟨b, 5, none⟩ = some (.int .i64 a2)) (h6 : w.cell? ⟨b, 6, none⟩ = some (.int .i64 a3)) (h7 : w.cell? ⟨b, 7, none⟩ = some (.int .i64 a4)) :
    Calls Tryd.prog 39 #[.pointer (some ⟨b, 0, none⟩)] w fun e w' => e = .returned (.agg #[.int .i64 a1, .int .i64 a2, .int .i64 a3, .int .i64 a4]) ∧ Below w.heap.size w w' := by
  go_enter Tryd.func39, Tryd.ntmps39
  go_wp2
  exact bodyPost_ret (v := .agg #[.int .i64 a1, .int .i64 a2, .int .i64 a3, .int .i64 a4]) (by simp [results, Tryd.results39, go_sem]) rfl ⟨rfl, (Below.refl _ _).alloc (Nat.le_refl _) _⟩

end Go.Proofs.YtopeagigdgjchaaDoor.Rp
