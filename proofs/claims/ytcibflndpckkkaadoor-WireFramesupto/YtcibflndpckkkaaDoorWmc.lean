/- The program's printer: escapes, and texts in quotes. -/
import Derived.Test.YtcibflndpckkkaaDoorWma
import Derived.Test.YtcibflndpckkkaaDoorWkv
namespace Go.Proofs.YtcibflndpckkkaaDoor
open Go.RowKit
open Wi

/-- The escape of a byte; nothing, if it has none. -/
def escB (c : UInt8) : List UInt8 := if quoteB c = [c] then [] else quoteB c
theorem escB_or (c : UInt8) : (escB c = [] ∧ quoteB c = [c]) ∨ (escB c ≠ [] ∧ escB c = quoteB c) := by
  unfold escB
  by_cases h : quoteB c = [c]
  · rw [if_pos h]; exact .inl ⟨rfl, h⟩
  · rw [if_neg h]
    refine .inr ⟨?_, rfl⟩
    unfold quoteB
    (repeat' split) <;> simp
set_option maxRecDepth 100000 in
theorem esc_at0 (w : World) : Calls Tryd.prog 50 #[.int .u8 0] w fun e w' => e = .returned (.string ⟨#[92, 117, 48, 48, 48, 48]⟩) ∧ ∃ m, w' = w.drewN m := by
  go_enter Tryd.func50, Tryd.ntmps50
  go_wp2
  go_quiet (fail)
  go_wp2
  go_ret
  exact ⟨rfl, _, rfl⟩
set_option maxRecDepth 100000 in
theorem esc_at1 (w : World) : Calls Tryd.prog 50 #[.int .u8 1] w fun e w' => e = .returned (.string ⟨#[92, 117, 48, 48, 48, 49]⟩) ∧ ∃ m, w' = w.drewN m := by
  go_enter Tryd.func50, Tryd.ntmps50
  go_wp2
  go_quiet (fail)
  go_wp2
  go_ret
  exact ⟨rfl, _, rfl⟩
set_option maxRecDepth 100000 in
theorem esc_at2 (w : World) : Calls Tryd.prog 50 #[.int .u8 2] w fun e w' => e = .returned (.string ⟨#[92, 117, 48, 48, 48, 50]⟩) ∧ ∃ m, w' = w.drewN m := by
  go_enter Tryd.func50, Tryd.ntmps50
  go_wp2
  go_quiet (fail)
  go_wp2
  go_ret
  exact ⟨rfl, _, rfl⟩
set_option maxRecDepth 100000 in
theorem esc_at3 (w : World) : Calls Tryd.prog 50 #[.int .u8 3] w fun e w' => e = .returned (.string ⟨#[92, 117, 48, 48, 48, 51]⟩) ∧ ∃ m, w' = w.drewN m := by
  go_enter Tryd.func50, Tryd.ntmps50
  go_wp2
  go_quiet (fail)
  go_wp2
  go_ret
  exact ⟨rfl, _, rfl⟩
set_option maxRecDepth 100000 in
theorem esc_at4 (w : World) : Calls Tryd.prog 50 #[.int .u8 4] w fun e w' => e = .returned (.string ⟨#[92, 117, 48, 48, 48, 52]⟩) ∧ ∃ m, w' = w.drewN m := by
  go_enter Tryd.func50, Tryd.ntmps50
  go_wp2
  go_quiet (fail)
  go_wp2
  go_ret
  exact ⟨rfl, _, rfl⟩
set_option maxRecDepth 100000 in
theorem esc_at5 (w : World) : Calls Tryd.prog 50 #[.int .u8 5] w fun e w' => e = .returned (.string ⟨#[92, 117, 48, 48, 48, 53]⟩) ∧ ∃ m, w' = w.drewN m := by
  go_enter Tryd.func50, Tryd.ntmps50
  go_wp2
  go_quiet (fail)
  go_wp2
  go_ret
  exact ⟨rfl, _, rfl⟩
set_option maxRecDepth 100000 in
theorem esc_at6 (w : World) : Calls Tryd.prog 50 #[.int .u8 6] w fun e w' => e = .returned (.string ⟨#[92, 117, 48, 48, 48, 54]⟩) ∧ ∃ m, w' = w.drewN m := by
  go_enter Tryd.func50, Tryd.ntmps50
  go_wp2
  go_quiet (fail)
  go_wp2
  go_ret
  exact ⟨rfl, _, rfl⟩
set_option maxRecDepth 100000 in
theorem esc_at7 (w : World) : Calls Tryd.prog 50 #[.int .u8 7] w fun e w' => e = .returned (.string ⟨#[92, 117, 48, 48, 48, 55]⟩) ∧ ∃ m, w' = w.drewN m := by
  go_enter Tryd.func50, Tryd.ntmps50
  go_wp2
  go_quiet (fail)
  go_wp2
  go_ret
  exact ⟨rfl, _, rfl⟩
set_option maxRecDepth 100000 in
theorem esc_at8 (w : World) : Calls Tryd.prog 50 #[.int .u8 8] w fun e w' => e = .returned (.string ⟨#[92, 117, 48, 48, 48, 56]⟩) ∧ ∃ m, w' = w.drewN m := by
  go_enter Tryd.func50, Tryd.ntmps50
  go_wp2
  go_quiet (fail)
  go_wp2
  go_ret
  exact ⟨rfl, _, rfl⟩
set_option maxRecDepth 100000 in
theorem esc_at9 (w : World) : Calls Tryd.prog 50 #[.int .u8 9] w fun e w' => e = .returned (.string ⟨#[92, 116]⟩) ∧ ∃ m, w' = w.drewN m := by
  go_enter Tryd.func50, Tryd.ntmps50
  go_wp2
  go_ret
  exact ⟨rfl, 0, rfl⟩
set_option maxRecDepth 100000 in
theorem esc_at10 (w : World) : Calls Tryd.prog 50 #[.int .u8 10] w fun e w' => e = .returned (.string ⟨#[92, 110]⟩) ∧ ∃ m, w' = w.drewN m := by
  go_enter Tryd.func50, Tryd.ntmps50
  go_wp2
  go_ret
  exact ⟨rfl, 0, rfl⟩
set_option maxRecDepth 100000 in
theorem esc_at11 (w : World) : Calls Tryd.prog 50 #[.int .u8 11] w fun e w' => e = .returned (.string ⟨#[92, 117, 48, 48, 48, 98]⟩) ∧ ∃ m, w' = w.drewN m := by
  go_enter Tryd.func50, Tryd.ntmps50
  go_wp2
  go_quiet (fail)
  go_wp2
  go_ret
  exact ⟨rfl, _, rfl⟩
set_option maxRecDepth 100000 in
theorem esc_at12 (w : World) : Calls Tryd.prog 50 #[.int .u8 12] w fun e w' => e = .returned (.string ⟨#[92, 117, 48, 48, 48, 99]⟩) ∧ ∃ m, w' = w.drewN m := by
  go_enter Tryd.func50, Tryd.ntmps50
  go_wp2
  go_quiet (fail)
  go_wp2
  go_ret
  exact ⟨rfl, _, rfl⟩
set_option maxRecDepth 100000 in
theorem esc_at13 (w : World) : Calls Tryd.prog 50 #[.int .u8 13] w fun e w' => e = .returned (.string ⟨#[92, 114]⟩) ∧ ∃ m, w' = w.drewN m := by
  go_enter Tryd.func50, Tryd.ntmps50
  go_wp2
  go_ret
  exact ⟨rfl, 0, rfl⟩
set_option maxRecDepth 100000 in
theorem esc_at14 (w : World) : Calls Tryd.prog 50 #[.int .u8 14] w fun e w' => e = .returned (.string ⟨#[92, 117, 48, 48, 48, 101]⟩) ∧ ∃ m, w' = w.drewN m := by
  go_enter Tryd.func50, Tryd.ntmps50
  go_wp2
  go_quiet (fail)
  go_wp2
  go_ret
  exact ⟨rfl, _, rfl⟩
set_option maxRecDepth 100000 in
theorem esc_at15 (w : World) : Calls Tryd.prog 50 #[.int .u8 15] w fun e w' => e = .returned (.string ⟨#[92, 117, 48, 48, 48, 102]⟩) ∧ ∃ m, w' = w.drewN m := by
  go_enter Tryd.func50, Tryd.ntmps50
  go_wp2
  go_quiet (fail)
  go_wp2
  go_ret
  exact ⟨rfl, _, rfl⟩
set_option maxRecDepth 100000 in
theorem esc_at16 (w : World) : Calls Tryd.prog 50 #[.int .u8 16] w fun e w' => e = .returned (.string ⟨#[92, 117, 48, 48, 49, 48]⟩) ∧ ∃ m, w' = w.drewN m := by
  go_enter Tryd.func50, Tryd.ntmps50
  go_wp2
  go_quiet (fail)
  go_wp2
  go_ret
  exact ⟨rfl, _, rfl⟩
set_option maxRecDepth 100000 in
theorem esc_at17 (w : World) : Calls Tryd.prog 50 #[.int .u8 17] w fun e w' => e = .returned (.string ⟨#[92, 117, 48, 48, 49, 49]⟩) ∧ ∃ m, w' = w.drewN m := by
  go_enter Tryd.func50, Tryd.ntmps50
  go_wp2
  go_quiet (fail)
  go_wp2
  go_ret
  exact ⟨rfl, _, rfl⟩
set_option maxRecDepth 100000 in
theorem esc_at18 (w : World) : Calls Tryd.prog 50 #[.int .u8 18] w fun e w' => e = .returned (.string ⟨#[92, 117, 48, 48, 49, 50]⟩) ∧ ∃ m, w' = w.drewN m := by
  go_enter Tryd.func50, Tryd.ntmps50
  go_wp2
  go_quiet (fail)
  go_wp2
  go_ret
  exact ⟨rfl, _, rfl⟩
set_option maxRecDepth 100000 in
theorem esc_at19 (w : World) : Calls Tryd.prog 50 #[.int .u8 19] w fun e w' => e = .returned (.string ⟨#[92, 117, 48, 48, 49, 51]⟩) ∧ ∃ m, w' = w.drewN m := by
  go_enter Tryd.func50, Tryd.ntmps50
  go_wp2
  go_quiet (fail)
  go_wp2
  go_ret
  exact ⟨rfl, _, rfl⟩
set_option maxRecDepth 100000 in
theorem esc_at20 (w : World) : Calls Tryd.prog 50 #[.int .u8 20] w fun e w' => e = .returned (.string ⟨#[92, 117, 48, 48, 49, 52]⟩) ∧ ∃ m, w' = w.drewN m := by
  go_enter Tryd.func50, Tryd.ntmps50
  go_wp2
  go_quiet (fail)
  go_wp2
  go_ret
  exact ⟨rfl, _, rfl⟩
set_option maxRecDepth 100000 in
theorem esc_at21 (w : World) : Calls Tryd.prog 50 #[.int .u8 21] w fun e w' => e = .returned (.string ⟨#[92, 117, 48, 48, 49, 53]⟩) ∧ ∃ m, w' = w.drewN m := by
  go_enter Tryd.func50, Tryd.ntmps50
  go_wp2
  go_quiet (fail)
  go_wp2
  go_ret
  exact ⟨rfl, _, rfl⟩
set_option maxRecDepth 100000 in
theorem esc_at22 (w : World) : Calls Tryd.prog 50 #[.int .u8 22] w fun e w' => e = .returned (.string ⟨#[92, 117, 48, 48, 49, 54]⟩) ∧ ∃ m, w' = w.drewN m := by
  go_enter Tryd.func50, Tryd.ntmps50
  go_wp2
  go_quiet (fail)
  go_wp2
  go_ret
  exact ⟨rfl, _, rfl⟩
set_option maxRecDepth 100000 in
theorem esc_at23 (w : World) : Calls Tryd.prog 50 #[.int .u8 23] w fun e w' => e = .returned (.string ⟨#[92, 117, 48, 48, 49, 55]⟩) ∧ ∃ m, w' = w.drewN m := by
  go_enter Tryd.func50, Tryd.ntmps50
  go_wp2
  go_quiet (fail)
  go_wp2
  go_ret
  exact ⟨rfl, _, rfl⟩
set_option maxRecDepth 100000 in
theorem esc_at24 (w : World) : Calls Tryd.prog 50 #[.int .u8 24] w fun e w' => e = .returned (.string ⟨#[92, 117, 48, 48, 49, 56]⟩) ∧ ∃ m, w' = w.drewN m := by
  go_enter Tryd.func50, Tryd.ntmps50
  go_wp2
  go_quiet (fail)
  go_wp2
  go_ret
  exact ⟨rfl, _, rfl⟩
set_option maxRecDepth 100000 in
theorem esc_at25 (w : World) : Calls Tryd.prog 50 #[.int .u8 25] w fun e w' => e = .returned (.string ⟨#[92, 117, 48, 48, 49, 57]⟩) ∧ ∃ m, w' = w.drewN m := by
  go_enter Tryd.func50, Tryd.ntmps50
  go_wp2
  go_quiet (fail)
  go_wp2
  go_ret
  exact ⟨rfl, _, rfl⟩
set_option maxRecDepth 100000 in
theorem esc_at26 (w : World) : Calls Tryd.prog 50 #[.int .u8 26] w fun e w' => e = .returned (.string ⟨#[92, 117, 48, 48, 49, 97]⟩) ∧ ∃ m, w' = w.drewN m := by
  go_enter Tryd.func50, Tryd.ntmps50
  go_wp2
  go_quiet (fail)
  go_wp2
  go_ret
  exact ⟨rfl, _, rfl⟩
set_option maxRecDepth 100000 in
theorem esc_at27 (w : World) : Calls Tryd.prog 50 #[.int .u8 27] w fun e w' => e = .returned (.string ⟨#[92, 117, 48, 48, 49, 98]⟩) ∧ ∃ m, w' = w.drewN m := by
  go_enter Tryd.func50, Tryd.ntmps50
  go_wp2
  go_quiet (fail)
  go_wp2
  go_ret
  exact ⟨rfl, _, rfl⟩
set_option maxRecDepth 100000 in
theorem esc_at28 (w : World) : Calls Tryd.prog 50 #[.int .u8 28] w fun e w' => e = .returned (.string ⟨#[92, 117, 48, 48, 49, 99]⟩) ∧ ∃ m, w' = w.drewN m := by
  go_enter Tryd.func50, Tryd.ntmps50
  go_wp2
  go_quiet (fail)
  go_wp2
  go_ret
  exact ⟨rfl, _, rfl⟩
set_option maxRecDepth 100000 in
theorem esc_at29 (w : World) : Calls Tryd.prog 50 #[.int .u8 29] w fun e w' => e = .returned (.string ⟨#[92, 117, 48, 48, 49, 100]⟩) ∧ ∃ m, w' = w.drewN m := by
  go_enter Tryd.func50, Tryd.ntmps50
  go_wp2
  go_quiet (fail)
  go_wp2
  go_ret
  exact ⟨rfl, _, rfl⟩
set_option maxRecDepth 100000 in
theorem esc_at30 (w : World) : Calls Tryd.prog 50 #[.int .u8 30] w fun e w' => e = .returned (.string ⟨#[92, 117, 48, 48, 49, 101]⟩) ∧ ∃ m, w' = w.drewN m := by
  go_enter Tryd.func50, Tryd.ntmps50
  go_wp2
  go_quiet (fail)
  go_wp2
  go_ret
  exact ⟨rfl, _, rfl⟩
set_option maxRecDepth 100000 in
theorem esc_at31 (w : World) : Calls Tryd.prog 50 #[.int .u8 31] w fun e w' => e = .returned (.string ⟨#[92, 117, 48, 48, 49, 102]⟩) ∧ ∃ m, w' = w.drewN m := by
  go_enter Tryd.func50, Tryd.ntmps50
  go_wp2
  go_quiet (fail)
  go_wp2
  go_ret
  exact ⟨rfl, _, rfl⟩
set_option maxRecDepth 100000 in
theorem esc_at34 (w : World) : Calls Tryd.prog 50 #[.int .u8 34] w fun e w' => e = .returned (.string ⟨#[92, 34]⟩) ∧ ∃ m, w' = w.drewN m := by
  go_enter Tryd.func50, Tryd.ntmps50
  go_wp2
  go_ret
  exact ⟨rfl, 0, rfl⟩
set_option maxRecDepth 100000 in
theorem esc_at92 (w : World) : Calls Tryd.prog 50 #[.int .u8 92] w fun e w' => e = .returned (.string ⟨#[92, 92]⟩) ∧ ∃ m, w' = w.drewN m := by
  go_enter Tryd.func50, Tryd.ntmps50
  go_wp2
  go_ret
  exact ⟨rfl, 0, rfl⟩
set_option maxRecDepth 100000 in
theorem esc_plain (c : Int) (_h1 : 32 ≤ c) (h2 : (c == 34) = false) (h3 : (c == 92) = false) (w : World) : Calls Tryd.prog 50 #[.int .u8 c] w fun e w' => e = .returned (.string ⟨#[]⟩) ∧ ∃ m, w' = w.drewN m := by
  have h4 : (c == 10) = false := by simp; omega
  have h5 : (c == 13) = false := by simp; omega
  have h6 : (c == 9) = false := by simp; omega
  have h7 : decide (c < 32) = false := by simp; omega
  have h8 : ¬ c < 32 := by omega
  go_enter Tryd.func50, Tryd.ntmps50
  go_wp2
  go_ret
  exact ⟨rfl, 0, rfl⟩
theorem escB_of (c : UInt8) (l : List UInt8) (h : escB c = l) : ba (escB c) = ⟨l.toArray⟩ := by rw [h]; rfl
/-- escapeOf: the escape of any byte. -/
theorem escapeOf_any (c : UInt8) (w : World) : Calls Tryd.prog 50 #[.int .u8 (c.toNat : Int)] w fun e w' => e = .returned (.string (ba (escB c))) ∧ ∃ m, w' = w.drewN m := by
  by_cases hp : 32 ≤ c.toNat ∧ c.toNat ≠ 34 ∧ c.toNat ≠ 92
  · have e : escB c = [] := by
      have a1 : c ≠ 34 := fun e => hp.2.1 (by rw [e]; rfl)
      have a2 : c ≠ 92 := fun e => hp.2.2 (by rw [e]; rfl)
      have a3 : c ≠ 10 := fun e => by have := hp.1; rw [e] at this; exact absurd this (by decide)
      have a4 : c ≠ 13 := fun e => by have := hp.1; rw [e] at this; exact absurd this (by decide)
      have a5 : c ≠ 9 := fun e => by have := hp.1; rw [e] at this; exact absurd this (by decide)
      have a6 : ¬ c.toNat < 32 := by omega
      unfold escB quoteB
      simp [a1, a2, a3, a4, a5, a6]
    rw [escB_of c _ e]
    exact esc_plain _ (by omega) (by simp; omega) (by simp; omega) w
  · have hk : c.toNat = 0 ∨ c.toNat = 1 ∨ c.toNat = 2 ∨ c.toNat = 3 ∨ c.toNat = 4 ∨ c.toNat = 5 ∨ c.toNat = 6 ∨ c.toNat = 7 ∨ c.toNat = 8 ∨ c.toNat = 9 ∨ c.toNat = 10 ∨ c.toNat = 11 ∨ c.toNat = 12 ∨ c.toNat = 13 ∨ c.toNat = 14 ∨ c.toNat = 15 ∨ c.toNat = 16 ∨ c.toNat = 17 ∨ c.toNat = 18 ∨ c.toNat = 19 ∨ c.toNat = 20 ∨ c.toNat = 21 ∨ c.toNat = 22 ∨ c.toNat = 23 ∨ c.toNat = 24 ∨ c.toNat = 25 ∨ c.toNat = 26 ∨ c.toNat = 27 ∨ c.toNat = 28 ∨ c.toNat = 29 ∨ c.toNat = 30 ∨ c.toNat = 31 ∨ c.toNat = 34 ∨ c.toNat = 92 := by omega
    have hc : c = UInt8.ofNat c.toNat := by simp
    rcases hk with h | h | h | h | h | h | h | h | h | h | h | h | h | h | h | h | h | h | h | h | h | h | h | h | h | h | h | h | h | h | h | h | h | h
    · rw [h] at hc
      subst hc
      exact esc_at0 w
    · rw [h] at hc
      subst hc
      exact esc_at1 w
    · rw [h] at hc
      subst hc
      exact esc_at2 w
    · rw [h] at hc
      subst hc
      exact esc_at3 w
    · rw [h] at hc
      subst hc
      exact esc_at4 w
    · rw [h] at hc
      subst hc
      exact esc_at5 w
    · rw [h] at hc
      subst hc
      exact esc_at6 w
    · rw [h] at hc
      subst hc
      exact esc_at7 w
    · rw [h] at hc
      subst hc
      exact esc_at8 w
    · rw [h] at hc
      subst hc
      exact esc_at9 w
    · rw [h] at hc
      subst hc
      exact esc_at10 w
    · rw [h] at hc
      subst hc
      exact esc_at11 w
    · rw [h] at hc
      subst hc
      exact esc_at12 w
    · rw [h] at hc
      subst hc
      exact esc_at13 w
    · rw [h] at hc
      subst hc
      exact esc_at14 w
    · rw [h] at hc
      subst hc
      exact esc_at15 w
    · rw [h] at hc
      subst hc
      exact esc_at16 w
    · rw [h] at hc
      subst hc
      exact esc_at17 w
    · rw [h] at hc
      subst hc
      exact esc_at18 w
    · rw [h] at hc
      subst hc
      exact esc_at19 w
    · rw [h] at hc
      subst hc
      exact esc_at20 w
    · rw [h] at hc
      subst hc
      exact esc_at21 w
    · rw [h] at hc
      subst hc
      exact esc_at22 w
    · rw [h] at hc
      subst hc
      exact esc_at23 w
    · rw [h] at hc
      subst hc
      exact esc_at24 w
    · rw [h] at hc
      subst hc
      exact esc_at25 w
    · rw [h] at hc
      subst hc
      exact esc_at26 w
    · rw [h] at hc
      subst hc
      exact esc_at27 w
    · rw [h] at hc
      subst hc
      exact esc_at28 w
    · rw [h] at hc
      subst hc
      exact esc_at29 w
    · rw [h] at hc
      subst hc
      exact esc_at30 w
    · rw [h] at hc
      subst hc
      exact esc_at31 w
    · rw [h] at hc
      subst hc
      exact esc_at34 w
    · rw [h] at hc
      subst hc
      exact esc_at92 w

end Go.Proofs.YtcibflndpckkkaaDoor
