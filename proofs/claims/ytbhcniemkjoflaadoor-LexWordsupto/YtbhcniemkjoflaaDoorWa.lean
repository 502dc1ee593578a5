/- Plain mathematics: one token alone; what a \ takes in a beginning of a text. -/
import Derived.Test.YtbhcniemkjoflaaDoorQc
import Derived.Test.YtbhcniemkjoflaaDoorIf
import Derived.Test.YtbhcniemkjoflaaDoorNa
namespace Go.Proofs.YtbhcniemkjoflaaDoor
open M

theorem toks_none {a : Nat} {t : List UInt8} : toks a t = [] ↔ t = [] := by
  constructor
  · intro h
    by_cases h0 : t = []
    · exact h0
    · rw [toks_cons h0] at h; cases h
  · rintro rfl; exact toks_nil a
/-- One token alone is all tokens of a text. -/
theorem alone_toks {l : List UInt8} {k : Nat} : aloneB l k = true ↔ toks 0 l = [⟨k, 0, l.length⟩] := by
  unfold aloneB
  rw [decide_eq_true_iff]
  constructor
  · rintro ⟨h0, h1⟩
    rw [toks_cons h0, h1]
    simp only [List.drop_length, toks_nil]
  · intro h
    have h0 : l ≠ [] := by rintro rfl; rw [toks_nil] at h; cases h
    refine ⟨h0, ?_⟩
    rw [toks_cons h0] at h
    injection h with h1 _
    injection h1 with a b c
    exact Prod.ext a c
theorem alone_not {l : List UInt8} {k : Nat} (h : aloneB l k = false) : (toks 0 l).length ≠ 1 ∨ ∃ t, toks 0 l = [t] ∧ t.kind ≠ k := by
  by_cases h1 : (toks 0 l).length = 1
  · right
    have h0 : l ≠ [] := by rintro rfl; rw [toks_nil] at h1; cases h1
    rw [toks_cons h0] at h1 ⊢
    have h2 : toks (0 + (M.tok l).2) (l.drop (M.tok l).2) = [] := by simpa using h1
    have h3 := toks_none.1 h2
    have hb := tok_bounds h0
    have h4 : (M.tok l).2 = l.length := by have := congrArg List.length h3; simp at this; omega
    refine ⟨_, by rw [h2], ?_⟩
    simp only
    intro e
    have : aloneB l k = true := by unfold aloneB; exact decide_eq_true ⟨h0, Prod.ext e h4⟩
    rw [h] at this; cases this
  · exact .inl h1
theorem unq_byte {x : UInt8} {r : List UInt8} (h : x.toNat ≠ 92) : unq (x :: r) = x :: unq r := by
  by_cases h5 : x.toNat < 128
  · obtain ⟨a1, a2, a3⟩ := cc_c x r h5
    rw [unq_on (by simp) (by omega), a2, a3]; rfl
  · exact unq_high (by omega)
theorem quo_byte {k : Nat} {x : UInt8} {r : List UInt8} (h1 : x.toNat ≠ 92) (h2 : x.toNat ≠ 34) (h3 : x.toNat ≠ 10) : quo k (x :: r) = ((quo k r).1, 1 + (quo k r).2) := by
  by_cases h5 : x.toNat < 128
  · obtain ⟨a1, a2, a3⟩ := cc_c x r h5
    rw [quo_one (by omega) (by omega) (by omega) (by omega) (by omega)]; rfl
  · exact quo_high (by omega)
theorem quo_bad (t : List UInt8) : (quo 8 t).1 = 8 := by rcases (quo_le _ 8 t (Nat.le_refl _)).2 with h | h <;> exact h
theorem cc_pre (x : UInt8) (a b : List UInt8) : (x.toNat < 128 ∧ cc (x :: a ++ b) = x.toNat ∧ cc (x :: a) = x.toNat) ∨ (128 ≤ x.toNat ∧ 128 ≤ cc (x :: a ++ b) ∧ 128 ≤ cc (x :: a)) := by
  by_cases h : x.toNat < 128
  · exact .inl ⟨h, (cc_c x (a ++ b) h).1, (cc_c x a h).1⟩
  · exact .inr ⟨by omega, cc_hi (by simp) (by simp; omega), cc_hi (by simp) (by simp; omega)⟩
theorem hexOf_big {c : Int} (h : 128 ≤ c) : hexOf c = -1 := by
  rcases Int.lt_or_le (hexOf c) 0 with g | g
  · have := (hexOf_lt c).1; omega
  · have := hexOf_ascii g; omega
theorem hexs_pre (n : Nat) : ∀ (c : Int) (a b : List UInt8), (hexs n c (a ++ b)).2 < a.length → hexs n c a = hexs n c (a ++ b) := by
  induction n with
  | zero => intro c a b _; rfl
  | succ n ih =>
    intro c a b h
    cases a with
    | nil => simp at h
    | cons x a =>
      rcases cc_pre x a b with ⟨h1, h2, h3⟩ | ⟨h1, h2, h3⟩
      · have n1 : nx (x :: a ++ b) = a ++ b := (cc_c x (a ++ b) h1).2.2
        have n2 : nx (x :: a) = a := (cc_c x a h1).2.2
        unfold hexs at h ⊢
        rw [h2, n1] at h ⊢
        rw [h3, n2]
        by_cases g : 0 ≤ hexOf (x.toNat : Int)
        · rw [if_pos g] at h ⊢
          rw [if_pos g]
          simp only [List.length_cons] at h
          rw [ih _ a b (by omega)]
        · rw [if_neg g, if_neg g]
      · have e1 : ¬ 0 ≤ hexOf (cc (x :: a ++ b)) := by rw [hexOf_big h2]; omega
        have e2 : ¬ 0 ≤ hexOf (cc (x :: a)) := by rw [hexOf_big h3]; omega
        unfold hexs; rw [if_neg e1, if_neg e2]
theorem cc_at {a b : List UInt8} {k : Nat} (hk : k < a.length) {c : Nat} (hc : c < 128) : cc ((a ++ b).drop k) = (c : Int) ↔ cc (a.drop k) = (c : Int) := by
  rw [List.drop_append_of_le_length (by omega)]
  cases hd : a.drop k with
  | nil => have := congrArg List.length hd; simp at this; omega
  | cons x u =>
    rcases cc_pre x u b with ⟨h1, h2, h3⟩ | ⟨h1, h2, h3⟩
    · rw [h2, h3]
    · constructor <;> intro e <;> omega
/-- What a \ takes, where it lies in a beginning. -/
theorem taken_pre {a b : List UInt8} (hok : (taken (a ++ b)).2.1 = true) (hl : (taken (a ++ b)).2.2 ≤ a.length) (ha : a ≠ []) : taken a = taken (a ++ b) := by
  cases a with
  | nil => exact absurd rfl ha
  | cons x a =>
    rcases cc_pre x a b with ⟨h1, h2, h3⟩ | ⟨h1, h2, h3⟩
    · have n1 : nx (x :: a ++ b) = a ++ b := (cc_c x (a ++ b) h1).2.2
      have n2 : nx (x :: a) = a := (cc_c x a h1).2.2
      by_cases hu : (x.toNat : Int) = 117
      · have et : taken (x :: a ++ b) = ((code (a ++ b)).1, (code (a ++ b)).2.1, 1 + (code (a ++ b)).2.2) := by
          unfold taken; rw [h2, if_neg (by omega), if_neg (by omega), if_neg (by omega), if_neg (by omega), if_pos hu, n1]
        have et' : taken (x :: a) = ((code a).1, (code a).2.1, 1 + (code a).2.2) := by
          unfold taken; rw [h3, if_neg (by omega), if_neg (by omega), if_neg (by omega), if_neg (by omega), if_pos hu, n2]
        rw [et] at hok hl ⊢
        rw [et']
        simp only [List.length_cons] at hok hl
        have ec : code a = code (a ++ b) := by
          unfold code at hok hl ⊢
          by_cases g : cc (a ++ b) = 123
          · rw [if_pos g] at hok hl ⊢
            cases a with
            | nil =>
              exfalso
              simp only [List.nil_append, List.length_nil] at hl hok
              split at hl
              · simp only at hl; omega
              · simp only at hl; omega
            | cons y a =>
              have g' : cc (y :: a) = 123 := by
                have := (cc_at (a := y :: a) (b := b) (k := 0) (by simp) (c := 123) (by omega)).1 (by simpa using g)
                simpa using this
              rw [if_pos g']
              have hy : y.toNat < 128 := by
                rcases cc_pre y a b with ⟨q1, _, _⟩ | ⟨_, q2, _⟩
                · exact q1
                · omega
              have m1 : nx (y :: a ++ b) = a ++ b := (cc_c y (a ++ b) hy).2.2
              have m2 : nx (y :: a) = a := (cc_c y a hy).2.2
              rw [m1] at hok hl ⊢
              rw [m2]
              by_cases g2 : (hexs 6 0 (a ++ b)).2 = 0 ∨ cc ((a ++ b).drop (hexs 6 0 (a ++ b)).2) ≠ 125
              · rw [if_pos g2] at hok; cases hok
              · rw [if_neg g2] at hl
                simp only [List.length_cons] at hl
                have hh := hexs_pre 6 0 a b (by omega)
                rw [hh, if_neg g2, if_neg]
                intro g3
                apply g2
                rcases g3 with g3 | g3
                · exact .inl g3
                · right
                  intro e
                  exact g3 ((cc_at (by omega) (c := 125) (by omega)).1 e)
          · rw [if_neg g] at hok; cases hok
        rw [ec]
      · have z1 : sz (x :: a ++ b) = 1 := (cc_c x (a ++ b) h1).2.1
        have z2 : sz (x :: a) = 1 := (cc_c x a h1).2.1
        unfold taken; rw [h2, h3, if_neg hu, if_neg hu, z1, z2]
    · exfalso
      revert hok
      unfold taken
      rw [if_neg (by omega), if_neg (by omega), if_neg (by omega), if_neg (by omega), if_neg (by omega)]
      simp
end Go.Proofs.YtbhcniemkjoflaaDoor
