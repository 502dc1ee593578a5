/- The program: whether a byte is a digit. -/
import Derived.Test.YthdbnafiindgbaaGreatDoorWk0
import Derived.Test.YthdbnafiindgbaaGreatDoorWkd
import Derived.Test.YthdbnafiindgbaaGreatDoorWjd
import Derived.Test.YthdbnafiindgbaaGreatDoorProg
import Derived.Lib.Bytealg
import Derived.Deep.CutBlock
import Derived.Deep.DeepCutAuto
namespace Go.Proofs.YthdbnafiindgbaaGreatDoor
open Go.RowKit
open Wi

set_option maxRecDepth 100000 in
theorem isDigit_any (c : UInt8) (w : World) : Calls Tryz.prog 25 #[.int .u8 (c.toNat : Int)] w fun e w' => e = .returned (.bool (isDig c)) ∧ w' = w := by
  by_cases h1 : 48 ≤ c.toNat
  · by_cases h2 : c.toNat ≤ 57
    · have e : isDig c = true := by simp [isDig, h1, h2]
      have i1 : decide ((48 : Int) ≤ (c.toNat : Int)) = true := by simp; omega
      have i2 : decide ((c.toNat : Int) ≤ 57) = true := by simp; omega
      have j1 : (48 : Int) ≤ (c.toNat : Int) := by omega
      have j2 : (c.toNat : Int) ≤ 57 := by omega
      rw [e]
      clear e h1 h2
      generalize (c.toNat : Int) = ci at *
      go_enter Tryz.func25, Tryz.ntmps25
      go_wp2
      go_ret
      exact ⟨rfl, rfl⟩
    · have e : isDig c = false := by simp [isDig]; omega
      have i1 : decide ((48 : Int) ≤ (c.toNat : Int)) = true := by simp; omega
      have i2 : decide ((c.toNat : Int) ≤ 57) = false := by simp; omega
      have j1 : (48 : Int) ≤ (c.toNat : Int) := by omega
      have j2 : ¬ (c.toNat : Int) ≤ 57 := by omega
      rw [e]
      clear e h1 h2
      generalize (c.toNat : Int) = ci at *
      go_enter Tryz.func25, Tryz.ntmps25
      go_wp2
      go_ret
      exact ⟨rfl, rfl⟩
  · have e : isDig c = false := by simp [isDig]; omega
    have i1 : decide ((48 : Int) ≤ (c.toNat : Int)) = false := by simp; omega
    have j1 : ¬ (48 : Int) ≤ (c.toNat : Int) := by omega
    rw [e]
    clear e h1
    generalize (c.toNat : Int) = ci at *
    go_enter Tryz.func25, Tryz.ntmps25
    go_wp2
    go_ret
    exact ⟨rfl, rfl⟩
end Go.Proofs.YthdbnafiindgbaaGreatDoor
