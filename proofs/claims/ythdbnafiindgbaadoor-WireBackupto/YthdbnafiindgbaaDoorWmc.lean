/- The program's printer: escapes, and texts in quotes. -/
import Derived.Test.YthdbnafiindgbaaDoorWma0
import Derived.Test.YthdbnafiindgbaaDoorWkv
import Derived.Deep.RegionHeld3
namespace Go.Proofs.YthdbnafiindgbaaDoor
open Go.RowKit
open Wi

/-- The escape of a byte; nothing, if it has none. -/
def escB (c : UInt8) : List UInt8 := if quoteB c = [c] then [] else quoteB c
theorem escB_or (c : UInt8) : (escB c = [] ∧ quoteB c = [c]) ∨ (escB c ≠ [] ∧ escB c = quoteB c) := by
  unfold escB
  by_cases h : quoteB c = [c]
  · rw [if_pos h]; exact .inl ⟨rfl, h⟩
  · rw [if_neg h]
    refine .inr ⟨?_, rfl⟩
    unfold quoteB
    (repeat' split) <;> simp
set_option maxRecDepth 100000 in
theorem esc_at0 (w : World) : Calls Tryd.prog 50 #[.int .u8 0] w fun e w' => e = .returned (.string ⟨#[92, 117, 48, 48, 48, 48]⟩) ∧ ∃ m, w' = w.drewN m := by
  go_enter Tryd.func50, Tryd.ntmps50
  go_wp2
  go_quiet (fail)
  go_wp2
  go_ret
  exact ⟨rfl, _, rfl⟩
set_option maxRecDepth 100000 in
theorem esc_at1 (w : World) : Calls Tryd.prog 50 #[.int .u8 1] w fun e w' => e = .returned (.string ⟨#[92, 117, 48, 48, 48, 49]⟩) ∧ ∃ m, w' = w.drewN m := by
  go_enter Tryd.func50, Tryd.ntmps50
  go_wp2
  go_quiet (fail)
  go_wp2
  go_ret
  exact ⟨rfl, _, rfl⟩
set_option maxRecDepth 100000 in
theorem esc_at2 (w : World) : Calls Tryd.prog 50 #[.int .u8 2] w fun e w' => e = .returned (.string ⟨#[92, 117, 48, 48, 48, 50]⟩) ∧ ∃ m, w' = w.drewN m := by
  go_enter Tryd.func50, Tryd.ntmps50
  go_wp2
  go_quiet (fail)
  go_wp2
  go_ret
  exact ⟨rfl, _, rfl⟩
set_option maxRecDepth 100000 in
theorem esc_at3 (w : World) : Calls Tryd.prog 50 #[.int .u8 3] w fun e w' => e = .returned (.string ⟨#[92, 117, 48, 48, 48, 51]⟩) ∧ ∃ m, w' = w.drewN m := by
  go_enter Tryd.func50, Tryd.ntmps50
  go_wp2
  go_quiet (fail)
  go_wp2
  go_ret
  exact ⟨rfl, _, rfl⟩
set_option maxRecDepth 100000 in
theorem esc_at4 (w : World) : Calls Tryd.prog 50 #[.int .u8 4] w fun e w' => e = .returned (.string ⟨#[92, 117, 48, 48, 48, 52]⟩) ∧ ∃ m, w' = w.drewN m := by
  go_enter Tryd.func50, Tryd.ntmps50
  go_wp2
  go_quiet (fail)
  go_wp2
  go_ret
  exact ⟨rfl, _, rfl⟩
set_option maxRecDepth 100000 in
theorem esc_at5 (w : World) : Calls Tryd.prog 50 #[.int .u8 5] w fun e w' => e = .returned (.string ⟨#[92, 117, 48, 48, 48, 53]⟩) ∧ ∃ m, w' = w.drewN m := by
  go_enter Tryd.func50, Tryd.ntmps50
  go_wp2
  go_quiet (fail)
  go_wp2
  go_ret
  exact ⟨rfl, _, rfl⟩
set_option maxRecDepth 100000 in
theorem esc_at6 (w : World) : Calls Tryd.prog 50 #[.int .u8 6] w fun e w' => e = .returned (.string ⟨#[92, 117, 48, 48, 48, 54]⟩) ∧ ∃ m, w' = w.drewN m := by
  go_enter Tryd.func50, Tryd.ntmps50
  go_wp2
  go_quiet (fail)
  go_wp2
  go_ret
  exact ⟨rfl, _, rfl⟩
set_option maxRecDepth 100000 in
theorem esc_at7 (w : World) : Calls Tryd.prog 50 #[.int .u8 7] w fun e w' => e = .returned (.string ⟨#[92, 117, 48, 48, 48, 55]⟩) ∧ ∃ m, w' = w.drewN m := by
  go_enter Tryd.func50, Tryd.ntmps50
  go_wp2
  go_quiet (fail)
  go_wp2
  go_ret
  exact ⟨rfl, _, rfl⟩
set_option maxRecDepth 100000 in
theorem esc_at8 (w : World) : Calls Tryd.prog 50 #[.int .u8 8] w fun e w' => e = .returned (.string ⟨#[92, 117, 48, 48, 48, 56]⟩) ∧ ∃ m, w' = w.drewN m := by
  go_enter Tryd.func50, Tryd.ntmps50
  go_wp2
  go_quiet (fail)
  go_wp2
  go_ret
  exact ⟨rfl, _, rfl⟩
set_option maxRecDepth 100000 in
theorem esc_at9 (w : World) : Calls Tryd.prog 50 #[.int .u8 9] w fun e w' => e = .returned (.string ⟨#[92, 116]⟩) ∧ ∃ m, w' = w.drewN m := by
  go_enter Tryd.func50, Tryd.ntmps50
  go_wp2
  go_ret
  exact ⟨rfl, 0, rfl⟩
set_option maxRecDepth 100000 in
theorem esc_at10 (w : World) : Calls Tryd.prog 50 #[.int .u8 10] w fun e w' => e = .returned (.string ⟨#[92, 110]⟩) ∧ ∃ m, w' = w.drewN m := by
  go_enter Tryd.func50, Tryd.ntmps50
  go_wp2
  go_ret
  exact ⟨rfl, 0, rfl⟩
set_option maxRecDepth 100000 in
theorem esc_at11 (w : World) : Calls Tryd.prog 50 #[.int .u8 11] w fun e w' => e = .returned (.string ⟨#[92, 117, 48, 48, 48, 98]⟩) ∧ ∃ m, w' = w.drewN m := by
  go_enter Tryd.func50, Tryd.ntmps50
  go_wp2
  go_quiet (fail)
  go_wp2
  go_ret
  exact ⟨rfl, _, rfl⟩
set_option maxRecDepth 100000 in
theorem esc_at12 (w : World) : Calls Tryd.prog 50 #[.int .u8 12] w fun e w' => e = .returned (.string ⟨#[92, 117, 48, 48, 48, 99]⟩) ∧ ∃ m, w' = w.drewN m := by
  go_enter Tryd.func50, Tryd.ntmps50
  go_wp2
  go_quiet (fail)
  go_wp2
  go_ret
  exact ⟨rfl, _, rfl⟩
set_option maxRecDepth 100000 in
theorem esc_at13 (w : World) : Calls Tryd.prog 50 #[.int .u8 13] w fun e w' => e = .returned (.string ⟨#[92, 114]⟩) ∧ ∃ m, w' = w.drewN m := by
  go_enter Tryd.func50, Tryd.ntmps50
  go_wp2
  go_ret
  exact ⟨rfl, 0, rfl⟩
set_option maxRecDepth 100000 in
theorem esc_at14 (w : World) : Calls Tryd.prog 50 #[.int .u8 14] w fun e w' => e = .returned (.string ⟨#[92, 117, 48, 48, 48, 101]⟩) ∧ ∃ m, w' = w.drewN m := by
  go_enter Tryd.func50, Tryd.ntmps50
  go_wp2
  go_quiet (fail)
  go_wp2
  go_ret
  exact ⟨rfl, _, rfl⟩
set_option maxRecDepth 100000 in
theorem esc_at15 (w : World) : Calls Tryd.prog 50 #[.int .u8 15] w fun e w' => e = .returned (.string ⟨#[92, 117, 48, 48, 48, 102]⟩) ∧ ∃ m, w' = w.drewN m := by
  go_enter Tryd.func50, Tryd.ntmps50
  go_wp2
  go_quiet (fail)
  go_wp2
  go_ret
  exact ⟨rfl, _, rfl⟩
set_option maxRecDepth 100000 in
theorem esc_at16 (w : World) : Calls Tryd.prog 50 #[.int .u8 16] w fun e w' => e = .returned (.string ⟨#[92, 117, 48, 48, 49, 48]⟩) ∧ ∃ m, w' = w.drewN m := by
  go_enter Tryd.func50, Tryd.ntmps50
  go_wp2
  go_quiet (fail)
  go_wp2
  go_ret
  exact ⟨rfl, _, rfl⟩
set_option maxRecDepth 100000 in
theorem esc_at17 (w : World) : Calls Tryd.prog 50 #[.int .u8 17] w fun e w' => e = .returned (.string ⟨#[92, 117, 48, 48, 49, 49]⟩) ∧ ∃ m, w' = w.drewN m := by
  go_enter Tryd.func50, Tryd.ntmps50
  go_wp2
  go_quiet (fail)
  go_wp2
  go_ret
  exact ⟨rfl, _, rfl⟩
set_option maxRecDepth 100000 in
theorem esc_at18 (w : World) : Calls Tryd.prog 50 #[.int .u8 18] w fun e w' => e = .returned (.string ⟨#[92, 117, 48, 48, 49, 50]⟩) ∧ ∃ m, w' = w.drewN m := by
  go_enter Tryd.func50, Tryd.ntmps50
  go_wp2
  go_quiet (fail)
  go_wp2
  go_ret
  exact ⟨rfl, _, rfl⟩
set_option maxRecDepth 100000 in
theorem esc_at19 (w : World) : Calls Tryd.prog 50 #[.int .u8 19] w fun e w' => e = .returned (.string ⟨#[92, 117, 48, 48, 49, 51]⟩) ∧ ∃ m, w' = w.drewN m := by
  go_enter Tryd.func50, Tryd.ntmps50
  go_wp2
  go_quiet (fail)
  go_wp2
  go_ret
  exact ⟨rfl, _, rfl⟩
set_option maxRecDepth 100000 in
theorem esc_at20 (w : World) : Calls Tryd.prog 50 #[.int .u8 20] w fun e w' => e = .returned (.string ⟨#[92, 117, 48, 48, 49, 52]⟩) ∧ ∃ m, w' = w.drewN m := by
  go_enter Tryd.func50, Tryd.ntmps50
  go_wp2
  go_quiet (fail)
  go_wp2
  go_ret
  exact ⟨rfl, _, rfl⟩
set_option maxRecDepth 100000 in
theorem esc_at21 (w : World) : Calls Tryd.prog 50 #[.int .u8 21] w fun e w' => e = .returned (.string ⟨#[92, 117, 48, 48, 49, 53]⟩) ∧ ∃ m, w' = w.drewN m := by
  go_enter Tryd.func50, Tryd.ntmps50
  go_wp2
  go_quiet (fail)
  go_wp2
  go_ret
  exact ⟨rfl, _, rfl⟩
set_option maxRecDepth 100000 in
theorem esc_at22 (w : World) : Calls Tryd.prog 50 #[.int .u8 22] w fun e w' => e = .returned (.string ⟨#[92, 117, 48, 48, 49, 54]⟩) ∧ ∃ m, w' = w.drewN m := by
  go_enter Tryd.func50, Tryd.ntmps50
  go_wp2
  go_quiet (fail)
  go_wp2
  go_ret
  exact ⟨rfl, _, rfl⟩
set_option maxRecDepth 100000 in
theorem esc_at23 (w : World) : Calls Tryd.prog 50 #[.int .u8 23] w fun e w' => e = .returned (.string ⟨#[92, 117, 48, 48, 49, 55]⟩) ∧ ∃ m, w' = w.drewN m := by
  go_enter Tryd.func50, Tryd.ntmps50
  go_wp2
  go_quiet (fail)
  go_wp2
  go_ret
  exact ⟨rfl, _, rfl⟩
set_option maxRecDepth 100000 in
theorem esc_at24 (w : World) : Calls Tryd.prog 50 #[.int .u8 24] w fun e w' => e = .returned (.string ⟨#[92, 117, 48, 48, 49, 56]⟩) ∧ ∃ m, w' = w.drewN m := by
  go_enter Tryd.func50, Tryd.ntmps50
  go_wp2
  go_quiet (fail)
  go_wp2
  go_ret
  exact ⟨rfl, _, rfl⟩
set_option maxRecDepth 100000 in
theorem esc_at25 (w : World) : Calls Tryd.prog 50 #[.int .u8 25] w fun e w' => e = .returned (.string ⟨#[92, 117, 48, 48, 49, 57]⟩) ∧ ∃ m, w' = w.drewN m := by
  go_enter Tryd.func50, Tryd.ntmps50
  go_wp2
  go_quiet (fail)
  go_wp2
  go_ret
  exact ⟨rfl, _, rfl⟩
set_option maxRecDepth 100000 in
theorem esc_at26 (w : World) : Calls Tryd.prog 50 #[.int .u8 26] w fun e w' => e = .returned (.string ⟨#[92, 117, 48, 48, 49, 97]⟩) ∧ ∃ m, w' = w.drewN m := by
  go_enter Tryd.func50, Tryd.ntmps50
  go_wp2
  go_quiet (fail)
  go_wp2
  go_ret
  exact ⟨rfl, _, rfl⟩
set_option maxRecDepth 100000 in
theorem esc_at27 (w : World) : Calls Tryd.prog 50 #[.int .u8 27] w fun e w' => e = .returned (.string ⟨#[92, 117, 48, 48, 49, 98]⟩) ∧ ∃ m, w' = w.drewN m := by
  go_enter Tryd.func50, Tryd.ntmps50
  go_wp2
  go_quiet (fail)
  go_wp2
  go_ret
  exact ⟨rfl, _, rfl⟩
set_option maxRecDepth 100000 in
theorem esc_at28 (w : World) : Calls Tryd.prog 50 #[.int .u8 28] w fun e w' => e = .returned (.string ⟨#[92, 117, 48, 48, 49, 99]⟩) ∧ ∃ m, w' = w.drewN m := by
  go_enter Tryd.func50, Tryd.ntmps50
  go_wp2
  go_quiet (fail)
  go_wp2
  go_ret
  exact ⟨rfl, _, rfl⟩
set_option maxRecDepth 100000 in
theorem esc_at29 (w : World) : Calls Tryd.prog 50 #[.int .u8 29] w fun e w' => e = .returned (.string ⟨#[92, 117, 48, 48, 49, 100]⟩) ∧ ∃ m, w' = w.drewN m := by
  go_enter Tryd.func50, Tryd.ntmps50
  go_wp2
  go_quiet (fail)
  go_wp2
  go_ret
  exact ⟨rfl, _, rfl⟩
set_option maxRecDepth 100000 in
theorem esc_at30 (w : World) : Calls Tryd.prog 50 #[.int .u8 30] w fun e w' => e = .returned (.string ⟨#[92, 117, 48, 48, 49, 101]⟩) ∧ ∃ m, w' = w.drewN m := by
  go_enter Tryd.func50, Tryd.ntmps50
  go_wp2
  go_quiet (fail)
  go_wp2
  go_ret
  exact ⟨rfl, _, rfl⟩
set_option maxRecDepth 100000 in
theorem esc_at31 (w : World) : Calls Tryd.prog 50 #[.int .u8 31] w fun e w' => e = .returned (.string ⟨#[92, 117, 48, 48, 49, 102]⟩) ∧ ∃ m, w' = w.drewN m := by
  go_enter Tryd.func50, Tryd.ntmps50
  go_wp2
  go_quiet (fail)
  go_wp2
  go_ret
  exact ⟨rfl, _, rfl⟩
set_option maxRecDepth 100000 in
theorem esc_at34 (w : World) : Calls Tryd.prog 50 #[.int .u8 34] w fun e w' => e = .returned (.string ⟨#[92, 34]⟩) ∧ ∃ m, w' = w.drewN m := by
  go_enter Tryd.func50, Tryd.ntmps50
  go_wp2
  go_ret
  exact ⟨rfl, 0, rfl⟩
set_option maxRecDepth 100000 in
theorem esc_at92 (w : World) : Calls Tryd.prog 50 #[.int .u8 92] w fun e w' => e = .returned (.string ⟨#[92, 92]⟩) ∧ ∃ m, w' = w.drewN m := by
  go_enter Tryd.func50, Tryd.ntmps50
  go_wp2
  go_ret
  exact ⟨rfl, 0, rfl⟩
set_option maxRecDepth 100000 in
theorem esc_plain (c : Int) (_h1 : 32 ≤ c) (h2 : (c == 34) = false) (h3 : (c == 92) = false) (w : World) : Calls Tryd.prog 50 #[.int .u8 c] w fun e w' => e = .returned (.string ⟨#[]⟩) ∧ ∃ m, w' = w.drewN m := by
  have h4 : (c == 10) = false := by simp; omega
  have h5 : (c == 13) = false := by simp; omega
  have h6 : (c == 9) = false := by simp; omega
  have h7 : decide (c < 32) = false := by simp; omega
  have h8 : ¬ c < 32 := by omega
  go_enter Tryd.func50, Tryd.ntmps50
  go_wp2
  go_ret
  exact ⟨rfl, 0, rfl⟩
theorem escB_of (c : UInt8) (l : List UInt8) (h : escB c = l) : ba (escB c) = ⟨l.toArray⟩ := by rw [h]; rfl
/-- escapeOf: the escape of any byte. -/
theorem escapeOf_any (c : UInt8) (w : World) : Calls Tryd.prog 50 #[.int .u8 (c.toNat : Int)] w fun e w' => e = .returned (.string (ba (escB c))) ∧ ∃ m, w' = w.drewN m := by
  by_cases hp : 32 ≤ c.toNat ∧ c.toNat ≠ 34 ∧ c.toNat ≠ 92
  · have e : escB c = [] := by
      have a1 : c ≠ 34 := fun e => hp.2.1 (by rw [e]; rfl)
      have a2 : c ≠ 92 := fun e => hp.2.2 (by rw [e]; rfl)
      have a3 : c ≠ 10 := fun e => by have := hp.1; rw [e] at this; exact absurd this (by decide)
      have a4 : c ≠ 13 := fun e => by have := hp.1; rw [e] at this; exact absurd this (by decide)
      have a5 : c ≠ 9 := fun e => by have := hp.1; rw [e] at this; exact absurd this (by decide)
      have a6 : ¬ c.toNat < 32 := by omega
      unfold escB quoteB
      simp [a1, a2, a3, a4, a5, a6]
    rw [escB_of c _ e]
    exact esc_plain _ (by omega) (by simp; omega) (by simp; omega) w
  · have hk : c.toNat = 0 ∨ c.toNat = 1 ∨ c.toNat = 2 ∨ c.toNat = 3 ∨ c.toNat = 4 ∨ c.toNat = 5 ∨ c.toNat = 6 ∨ c.toNat = 7 ∨ c.toNat = 8 ∨ c.toNat = 9 ∨ c.toNat = 10 ∨ c.toNat = 11 ∨ c.toNat = 12 ∨ c.toNat = 13 ∨ c.toNat = 14 ∨ c.toNat = 15 ∨ c.toNat = 16 ∨ c.toNat = 17 ∨ c.toNat = 18 ∨ c.toNat = 19 ∨ c.toNat = 20 ∨ c.toNat = 21 ∨ c.toNat = 22 ∨ c.toNat = 23 ∨ c.toNat = 24 ∨ c.toNat = 25 ∨ c.toNat = 26 ∨ c.toNat = 27 ∨ c.toNat = 28 ∨ c.toNat = 29 ∨ c.toNat = 30 ∨ c.toNat = 31 ∨ c.toNat = 34 ∨ c.toNat = 92 := by omega
    have hc : c = UInt8.ofNat c.toNat := by simp
    rcases hk with h | h | h | h | h | h | h | h | h | h | h | h | h | h | h | h | h | h | h | h | h | h | h | h | h | h | h | h | h | h | h | h | h | h
    · rw [h] at hc
      subst hc
      exact esc_at0 w
    · rw [h] at hc
      subst hc
      exact esc_at1 w
    · rw [h] at hc
      subst hc
      exact esc_at2 w
    · rw [h] at hc
      subst hc
      exact esc_at3 w
    · rw [h] at hc
      subst hc
      exact esc_at4 w
    · rw [h] at hc
      subst hc
      exact esc_at5 w
    · rw [h] at hc
      subst hc
      exact esc_at6 w
    · rw [h] at hc
      subst hc
      exact esc_at7 w
    · rw [h] at hc
      subst hc
      exact esc_at8 w
    · rw [h] at hc
      subst hc
      exact esc_at9 w
    · rw [h] at hc
      subst hc
      exact esc_at10 w
    · rw [h] at hc
      subst hc
      exact esc_at11 w
    · rw [h] at hc
      subst hc
      exact esc_at12 w
    · rw [h] at hc
      subst hc
      exact esc_at13 w
    · rw [h] at hc
      subst hc
      exact esc_at14 w
    · rw [h] at hc
      subst hc
      exact esc_at15 w
    · rw [h] at hc
      subst hc
      exact esc_at16 w
    · rw [h] at hc
      subst hc
      exact esc_at17 w
    · rw [h] at hc
      subst hc
      exact esc_at18 w
    · rw [h] at hc
      subst hc
      exact esc_at19 w
    · rw [h] at hc
      subst hc
      exact esc_at20 w
    · rw [h] at hc
      subst hc
      exact esc_at21 w
    · rw [h] at hc
      subst hc
      exact esc_at22 w
    · rw [h] at hc
      subst hc
      exact esc_at23 w
    · rw [h] at hc
      subst hc
      exact esc_at24 w
    · rw [h] at hc
      subst hc
      exact esc_at25 w
    · rw [h] at hc
      subst hc
      exact esc_at26 w
    · rw [h] at hc
      subst hc
      exact esc_at27 w
    · rw [h] at hc
      subst hc
      exact esc_at28 w
    · rw [h] at hc
      subst hc
      exact esc_at29 w
    · rw [h] at hc
      subst hc
      exact esc_at30 w
    · rw [h] at hc
      subst hc
      exact esc_at31 w
    · rw [h] at hc
      subst hc
      exact esc_at34 w
    · rw [h] at hc
      subst hc
      exact esc_at92 w

end Go.Proofs.YthdbnafiindgbaaDoor
/- The program's printer: texts in quotes. -/
namespace Go.Proofs.YthdbnafiindgbaaDoor
open Go.RowKit
open Wi

/-- A printer's block. -/
abbrev prf (p v : Value) : Array Value := #[p, v]
theorem prH : Host prf 57 0 2 := ⟨fun _ _ => rfl, fun _ _ => rfl, fun _ _ _ => rfl, fun _ _ _ => rfl, fun _ _ => rfl, by decide, by kernel_rfl, by decide⟩
abbrev Pb (w : World) (B : Nat) (l : List UInt8) (p bv : Value) : Prop := BdG prf 57 0 w B l p bv
abbrev Pt (w : World) (B : Nat) (bv : Value) (l : List UInt8) (w' : World) : Prop := BdT prf 57 0 w B bv l w'
theorem BdT.refl {f : Value → Value → Array Value} {T o : Nat} {w : World} {B : Nat} {l : List UInt8} {p bv : Value} (h : BdG f T o w B l p bv) : BdT f T o w B bv l w := ⟨p, bv, h, fun _ e => .inl e, Kp.refl _ w⟩
theorem BdT.drew {f : Value → Value → Array Value} {T o : Nat} {w w' : World} {B : Nat} {l : List UInt8} {bv : Value} (h : BdT f T o w B bv l w') (n : Nat) : BdT f T o w B bv l (w'.drewN n) := by
  obtain ⟨p, bv', h1, h2, h3⟩ := h
  exact ⟨p, bv', h1.below (belowN (Below.refl _ _) n), h2, Kp.trans h3 (Kp.ofBelow (belowN (Below.refl _ w') n) (fun _ => False)) (fun _ _ e => e.elim)⟩
theorem BdT.trans {f : Value → Value → Array Value} {T o : Nat} {w w1 w2 : World} {B : Nat} {l1 l2 : List UInt8} {p bv bv1 : Value} (_h1 : BdG f T o w1 B l1 p bv1) (ha : ∀ k, bv1.ownBlock = some k → bv.ownBlock = some k ∨ w.heap.size ≤ k) (hk : Kp (fun q => q = B ∨ bv.ownBlock = some q) w w1) (h2 : BdT f T o w1 B bv1 l2 w2) : BdT f T o w B bv l2 w2 := by
  obtain ⟨p2, bv2, g2, a2, k2⟩ := h2
  refine ⟨p2, bv2, g2, fun k e => ?_, Kp.trans hk k2 (fun i hi e => ?_)⟩
  · rcases a2 k e with e | e
    · exact ha k e
    · exact .inr (Nat.le_trans hk.size e)
  · rcases e with e | e
    · exact .inl e
    · rcases ha i e with e | e
      · exact .inr e
      · omega
theorem quoteA_app (a b : List UInt8) : quoteA (a ++ b) = quoteA a ++ quoteA b := by simp [quoteA]
theorem quoteA_one (c : UInt8) : quoteA [c] = quoteB c := by simp [quoteA]
theorem take_get {A : List UInt8} {i : Nat} {c : UInt8} (h : A[i]? = some c) : A.take (i + 1) = A.take i ++ [c] := by rw [List.take_add_one, h]; rfl
theorem ba_cut (A : List UInt8) (a b : Nat) : (ba A).extract a b = ba ((A.take b).drop a) := by
  apply bs_inj; rw [bs_cut, bs_ba, bs_ba]
/-- Another write into a Builder that was written into. -/
theorem BdT.at {f : Value → Value → Array Value} {T o : Nat} {w wr W0 : World} {B : Nat} {l : List UInt8} {bv : Value} (h : BdT f T o w B bv l wr) (hb : Below wr.heap.size wr W0) : BdT f T o w B bv l W0 := by
  obtain ⟨p, bv', h1, h2, h3⟩ := h
  exact ⟨p, bv', h1.below hb, h2, Kp.trans h3 (Kp.ofBelow hb (fun _ => False)) (fun _ _ e => e.elim)⟩
theorem BdT.str {f : Value → Value → Array Value} {T o n : Nat} (H : Host f T o n) {w wr : World} {B : Nat} {l : List UInt8} {bv : Value} (h : BdT f T o w B bv l wr) (x : List UInt8) (hl : l.length + x.length ≤ 1099511627776) :
    ∀ W0, Below wr.heap.size wr W0 → Calls Tryd.prog 31 #[.pointer (some ⟨B, o, none⟩), .string (ba x)] W0 fun e w' => (∃ v, e = .returned v) ∧ Hid (BdT f T o w B bv (l ++ x) w') := by
  intro W0 hb
  obtain ⟨p, bv', h1, h2, h3⟩ := h.at hb
  refine (wstr_any H x B l p bv' W0 h1 hl).mono ?_
  rintro e w' ⟨hv, hw⟩
  exact ⟨hv, BdT.trans h1 h2 h3 hw.out⟩
theorem BdT.byte {f : Value → Value → Array Value} {T o n : Nat} (H : Host f T o n) {w wr : World} {B : Nat} {l : List UInt8} {bv : Value} (h : BdT f T o w B bv l wr) (c : UInt8) (hl : l.length ≤ 1099511627776) :
    ∀ W0, Below wr.heap.size wr W0 → Calls Tryd.prog 49 #[.pointer (some ⟨B, o, none⟩), .int .u8 c.toNat] W0 fun e w' => e = .returned .nilIface ∧ Hid (BdT f T o w B bv (l ++ [c]) w') := by
  intro W0 hb
  obtain ⟨p, bv', h1, h2, h3⟩ := h.at hb
  refine (wbyte_any H c B l p bv' W0 h1 hl).mono ?_
  rintro e w' ⟨hv, hw⟩
  exact ⟨hv, BdT.trans h1 h2 h3 hw.out⟩
set_option maxRecDepth 100000 in
set_option maxHeartbeats 4000000 in
theorem pquoted_any (A : List UInt8) (B : Nat) (l : List UInt8) (p bv : Value) (w : World) (h : Pb w B l p bv) (hl : l.length + A.length * 6 ≤ 1073741824) :
    Calls Tryd.prog 33 #[.pointer (some ⟨B, 0, none⟩), .string (ba A)] w fun e w' => e = .returned (.tuple #[]) ∧ Hid (Pt w B bv (l ++ quote A) w') := by
  have HP := hide h
  have HSZ : Hid ((ba A).size = A.length) := ba_size A
  have HX : Hid (ba A = ba A) := rfl
  clear h
  have HXA : Hid (∀ a b, (ba A).extract a b = ba ((A.take b).drop a)) := ba_cut A
  have HXG : Hid (∀ i c, A[i]? = some c → ∃ h : i < (ba A).size, (ba A)[i] = c) := by
    intro i c hc
    have hi : i < A.length := by
      rcases Nat.lt_or_ge i A.length with h | h
      · exact h
      · rw [List.getElem?_eq_none h] at hc; cases hc
    refine ⟨by rw [HSZ.out]; exact hi, ?_⟩
    rw [List.getElem?_eq_getElem hi] at hc
    rw [← Option.some.inj hc]
    simp [ba, ByteArray.getElem_eq_getElem_data]
  have hlX : l.length + (ba A).size * 6 ≤ 1073741824 := by have := HSZ.out; omega
  clear HX hl
  generalize ba A = X at *
  go_enter Tryd.func33, Tryd.ntmps33
  go_wp2_with fail
  refine (wbyte_any prH 34 B l p bv w HP.out (by omega)).mono ?_
  rintro e w1 ⟨rfl, H1⟩
  go_wp2_with fail
  go_loopw [4, 13] (fun fv iv wr => ∃ f i : Nat, fv = .int .i64 f ∧ iv = .int .i64 i ∧ f ≤ i ∧ i ≤ X.size ∧ Hid (quoteA (A.take i) = quoteA (A.take f) ++ (A.take i).drop f) ∧ Hid (Pt w B bv (l ++ 34 :: quoteA (A.take f)) wr)) (fun fv iv _ => X.size - (intOf iv).toNat)
  case atStart => exact ⟨0, 0, rfl, rfl, Nat.le_refl _, Nat.zero_le _, (by simp [quoteA] : quoteA (A.take 0) = quoteA (A.take 0) ++ (A.take 0).drop 0), by show Pt _ _ _ _ _; simpa [quoteA] using H1.out⟩
  case round =>
    obtain ⟨f, i, rfl, rfl, hfi, hi, HQ, HB⟩ := hrel
    clear H1 HP
    have hlen : (quoteA (A.take f)).length ≤ f * 6 := by have := quoteA_len (A.take f); rw [List.length_take] at this; omega
    by_cases hlt : i < X.size
    case neg =>
      have i1 : decide ((i : Int) < (X.size : Int)) = false := by simp; omega
      have i1' : decide (i < X.size) = false := by simp; omega
      have i2 : (0 : Int) ≤ (f : Int) := by omega
      have i3 : (f : Int) ≤ (X.size : Int) := by omega
      obtain rfl : i = X.size := by omega
      have HE : Hid (X.extract f X.size = ba (A.drop f)) := by show _ = _; rw [(HXA.out), HSZ.out, List.take_length]
      have HS := hide ((HB.out).str prH (A.drop f) (by have := HSZ.out; simp; omega))
      rw [← HE.out] at HS
      have HL : Hid (l ++ quote A = (l ++ 34 :: quoteA (A.take f)) ++ A.drop f ++ [34]) := by
        show _ = _
        have := HQ.out
        rw [HSZ.out, List.take_length] at this
        unfold quote
        rw [this]; simp
      have HLN : Hid (((l ++ 34 :: quoteA (A.take f)) ++ A.drop f).length ≤ 1099511627776) := by show _ ≤ _; have := HSZ.out; simp; omega
      clear hlt HQ HB HE HXA HXG hlen
      go_wp2_with fail
      go_region_held3 (fun _ => True) (trivial) ((go_at_call 31; refine ((HS.out) _ ?_).mono ?_; (first | exact (Below.refl _ wr).drew | exact Below.refl _ wr | exact belowN (Below.refl _ wr) _); rintro e w2 ⟨⟨v, rfl⟩, H2⟩))
      go_wp2_with fail
      refine ((H2.out).byte prH 34 HLN.out _ (Below.refl _ _)).mono ?_
      rintro e w3 ⟨rfl, H3⟩
      go_wp2_with fail
      go_end0
      refine ⟨rfl, ?_⟩
      show Pt _ _ _ _ _
      rw [HL.out]; exact H3.out
    have i1 : decide ((i : Int) < (X.size : Int)) = true := by simp; omega
    have i1' : decide (i < X.size) = true := by simp; omega
    have i2 : (0 : Int) ≤ (i : Int) := by omega
    have i3 : (i : Int) < (X.size : Int) := by omega
    obtain ⟨c, hc⟩ : ∃ c, A[i]? = some c := ⟨_, List.getElem?_eq_getElem (by have := HSZ.out; omega)⟩
    obtain ⟨hix, hxc⟩ := (HXG.out) i c hc
    have HC := hide hc
    have HES := hide (fun W => escapeOf_any X[i] W)
    have HXC := hide hxc
    have HOR := hide (escB_or c)
    have HTK := hide (take_get hc)
    clear hc hxc
    go_wp2_with fail
    refine ((HES.out) _).mono ?_
    rintro e w2 ⟨rfl, m2, rfl⟩
    have HB2 := hide ((HB.out).drew m2)
    rw [HXC.out]
    clear HB HES
    rcases HOR.out with ⟨he, hq⟩ | ⟨he, hq⟩
    · have hne : (ba (escB c)).toList.isEmpty = true := by rw [Lib.toList_data, he]; rfl
      have HN : Hid (quoteA (A.take (i + 1)) = quoteA (A.take f) ++ (A.take (i + 1)).drop f) := by
        show _ = _
        have hfl : f ≤ (A.take i).length := by rw [List.length_take]; have := HSZ.out; omega
        rw [HTK.out, quoteA_app, HQ.out, quoteA_one, hq, List.drop_append_of_le_length hfl, List.append_assoc]
      clear HQ hq he HXA HXG HOR
      go_wp2_with fail
      refine ⟨⟨f, i + 1, rfl, by simp, by omega, by omega, HN, HB2⟩, ?_⟩
      show X.size - (i + 1) < X.size - i
      omega
    · have hne : (ba (escB c)).toList.isEmpty = false := by
        rw [Lib.toList_data]
        cases hx : escB c with
        | nil => exact absurd hx he
        | cons a b => rfl
      have i4 : (0 : Int) ≤ (f : Int) := by omega
      have i5 : (f : Int) ≤ (i : Int) := by omega
      have i6 : (i : Int) ≤ (X.size : Int) := by omega
      have HE : Hid (X.extract f i = ba ((A.take i).drop f)) := (HXA.out) f i
      have hql : (quoteB c).length ≤ 6 := quoteB_len c
      have HS := hide ((HB2.out).str prH ((A.take i).drop f) (by simp; omega))
      rw [← HE.out] at HS
      have HLN : Hid (((l ++ 34 :: quoteA (A.take f)) ++ (A.take i).drop f).length + (escB c).length ≤ 1099511627776) := by show _ ≤ _; rw [hq]; have := HSZ.out; simp; omega
      have HL : Hid (l ++ 34 :: quoteA (A.take (i + 1)) = (l ++ 34 :: quoteA (A.take f)) ++ (A.take i).drop f ++ escB c) := by
        show _ = _
        rw [HTK.out, quoteA_app, HQ.out, quoteA_one, hq]; simp
      clear HQ hq he HXA HXG HOR HE hql hlen HB2
      generalize wr.drewN m2 = wr2 at *
      go_wp2_with fail
      go_region_held3 (fun _ => True) (trivial) ((go_at_call 31; refine ((HS.out) _ ?_).mono ?_; (first | exact (Below.refl _ wr2).drew | exact Below.refl _ wr2 | exact belowN (Below.refl _ wr2) _); rintro e w3 ⟨⟨v, rfl⟩, H3⟩))
      go_wp2_with fail
      refine ((H3.out).str prH (escB c) HLN.out _ (Below.refl _ _)).mono ?_
      rintro e w4 ⟨⟨v4, rfl⟩, H4⟩
      have HF : Hid (Pt w B bv (l ++ 34 :: quoteA (A.take (i + 1))) w4) := by show Pt _ _ _ _ _; rw [HL.out]; exact H4.out
      clear H4 H3 HS HLN HL
      go_wp2_with fail
      refine ⟨⟨i + 1, i + 1, by simp, by simp, by omega, by omega, (by simp : quoteA (A.take (i + 1)) = quoteA (A.take (i + 1)) ++ (A.take (i + 1)).drop (i + 1)), HF⟩, ?_⟩
      show X.size - (i + 1) < X.size - i
      omega
end Go.Proofs.YthdbnafiindgbaaDoor
