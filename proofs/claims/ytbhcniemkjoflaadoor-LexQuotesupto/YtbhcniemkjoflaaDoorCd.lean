/- Plain mathematics of texts that stand for texts. -/
import Derived.Test.YtbhcniemkjoflaaDoorCc
import Derived.Lib.RuneBytes
namespace Go.Proofs.YtbhcniemkjoflaaDoor
namespace M

/-- What a text between its quotes stands for. -/
def unq (t : List UInt8) : List UInt8 :=
  if _h : t = [] then [] else if cc t = 92 then Lib.encodeRune (taken (nx t)).1 ++ unq ((nx t).drop (taken (nx t)).2.2) else t.take (sz t) ++ unq (nx t)
termination_by t.length
decreasing_by
  all_goals (have := nx_lt _h; first | exact this | (simp; omega))
theorem unq_nil : unq [] = [] := by rw [unq]; simp
theorem unq_esc {t : List UInt8} (h : cc t = 92) : unq t = Lib.encodeRune (taken (nx t)).1 ++ unq ((nx t).drop (taken (nx t)).2.2) := by
  have := ne_of_cc h (by omega)
  conv => lhs; rw [unq]
  simp [this, h]
theorem unq_on {t : List UInt8} (h0 : t ≠ []) (h : cc t ≠ 92) : unq t = t.take (sz t) ++ unq (nx t) := by
  conv => lhs; rw [unq]
  simp [h0, h]
theorem enc_len (r : Int) : (Lib.encodeRune r).length ≤ 4 := by
  have := Lib.encodeRuneZ_length r
  simp only [Lib.encodeRune, List.length_map]; omega
theorem unq_len (n : Nat) : ∀ t : List UInt8, t.length ≤ n → (unq t).length ≤ 4 * t.length := by
  induction n with
  | zero => intro t h; have : t = [] := List.eq_nil_of_length_eq_zero (by omega); subst this; simp [unq_nil]
  | succ n ih =>
    intro t h
    by_cases h0 : t = []
    · subst h0; simp [unq_nil]
    have h1 := nx_lt h0
    have h2 := nx_len t
    by_cases hc : cc t = 92
    · rw [unq_esc hc, List.length_append]
      have h3 := enc_len (taken (nx t)).1
      have h4 := ih ((nx t).drop (taken (nx t)).2.2) (by simp; omega)
      simp only [List.length_drop] at h4
      omega
    · rw [unq_on h0 hc, List.length_append]
      have h4 := ih (nx t) (by omega)
      have h5 : (t.take (sz t)).length ≤ sz t := List.length_take_le _ _
      omega
theorem hexs_bd (n : Nat) : ∀ (k : Nat) (c : Int) (t : List UInt8), 0 ≤ c → c < ((16 ^ k : Nat) : Int) → 0 ≤ (hexs n c t).1 ∧ (hexs n c t).1 < ((16 ^ (k + n) : Nat) : Int) := by
  induction n with
  | zero => intro k c t h0 h1; simp [hexs]; exact ⟨h0, by simpa using h1⟩
  | succ n ih =>
    intro k c t h0 h1
    have hh := hexOf_lt (cc t)
    unfold hexs
    split
    · have := ih (k + 1) (c * 16 + hexOf (cc t)) (nx t) (by omega) (by rw [Nat.pow_succ]; omega)
      rw [show k + 1 + n = k + (n + 1) by omega] at this
      exact this
    · have : 16 ^ k ≤ 16 ^ (k + (n + 1)) := Nat.pow_le_pow_right (by omega) (by omega)
      exact ⟨h0, by simp only; omega⟩
theorem taken_bd (t : List UInt8) : 0 ≤ (taken t).1 ∧ (taken t).1 ≤ 16777215 := by
  have hc := cc_le t
  unfold taken
  by_cases h : cc t = -1 ∨ cc t = 10
  · rw [if_pos h]; simp
  rw [if_neg h]
  repeat' split
  all_goals (try (simp only; omega))
  simp only
  have hx := hexs_bd 6 0 0 (nx (nx t)) (by omega) (by decide)
  have h16 : ((16 ^ (0 + 6) : Nat) : Int) = 16777216 := by decide
  unfold code
  repeat' split
  all_goals (simp only; omega)
end M
end Go.Proofs.YtbhcniemkjoflaaDoor
