/- Plain mathematics of tokens: the same, byte by byte. -/
import Derived.Test.YtbhcniemkjoflaaDoorCb
namespace Go.Proofs.YtbhcniemkjoflaaDoor
namespace M

theorem drop_cons {t : List UInt8} (h : t ≠ []) : ∃ x u, t = x :: u ∧ t.drop 1 = u := by
  cases t with
  | nil => exact absurd rfl h
  | cons x u => exact ⟨x, u, rfl, rfl⟩
/-- A byte below 128 is a character. -/
theorem cc_lo {t : List UInt8} (h : t ≠ []) (h1 : (t.getD 0 0).toNat < 128) : cc t = ((t.getD 0 0).toNat : Int) ∧ sz t = 1 ∧ nx t = t.drop 1 := by
  have hs := sz_ascii h h1
  have := head_cases h hs
  refine ⟨?_, hs, by unfold nx; rw [hs]⟩
  rw [cc_some h]
  congr 1
  omega
theorem cc_hi {t : List UInt8} (h : t ≠ []) (h1 : 128 ≤ (t.getD 0 0).toNat) : 128 ≤ cc t := by
  rw [cc_some h]
  by_cases hm : 1 < sz t
  · have := (multi hm).2.2.1; omega
  · have := head_cases h (by have := sz_pos h; omega); omega
theorem cc_is {t : List UInt8} {c : Nat} (hc : c < 128) : cc t = (c : Int) ↔ t ≠ [] ∧ (t.getD 0 0).toNat = c := by
  by_cases h : t = []
  · subst h; rw [cc_nil]; simp
  by_cases h1 : (t.getD 0 0).toNat < 128
  · rw [(cc_lo h h1).1]; simp only [ne_eq, h, not_false_eq_true, true_and]; omega
  · have := cc_hi h (by omega)
    constructor
    · intro e; omega
    · rintro ⟨_, e⟩; omega

theorem nx_one {t : List UInt8} (h : sz t = 1) : nx t = t.drop 1 := by unfold nx; rw [h]
/-- The bytes of one character that has several. -/
theorem conts {t : List UInt8} (h : 1 < sz t) : ∀ i, i < sz t - 1 → 128 ≤ ((t.drop 1).getD i 0).toNat ∧ ((t.drop 1).getD i 0).toNat < 192 := by
  intro i hi
  have := (multi h).2.1 (i + 1) (by omega) (by omega)
  simpa [List.getD_eq_getElem?_getD, List.getElem?_drop, Nat.add_comm] using this
theorem sz_cont {u : List UInt8} (h : u ≠ []) (h1 : 128 ≤ (u.getD 0 0).toNat) (h2 : (u.getD 0 0).toNat < 192) : sz u = 1 := by
  by_cases hm : 1 < sz u
  · have := (multi hm).1; omega
  · have := sz_pos h; omega

/-- How far a list goes on without a byte 10. -/
def ln (t : List UInt8) : Nat := (t.takeWhile (fun x => x != 10)).length
theorem ln_nil : ln [] = 0 := rfl
theorem ln_no {t : List UInt8} (h : (t.getD 0 0).toNat = 10) : ln t = 0 := by
  cases t with
  | nil => rfl
  | cons x u =>
    have hx : x = 10 := by simpa [← UInt8.toNat_inj] using h
    subst hx; simp [ln]
theorem ln_yes {t : List UInt8} (h0 : t ≠ []) (h : (t.getD 0 0).toNat ≠ 10) : ln t = 1 + ln (t.drop 1) := by
  cases t with
  | nil => exact absurd rfl h0
  | cons x u =>
    have hx : (x != 10) = true := by
      rw [bne_iff_ne]; intro e; exact h (by subst e; rfl)
    simp [ln, hx]; omega
theorem ln_conts (j : Nat) : ∀ u : List UInt8, j ≤ u.length → (∀ i, i < j → 128 ≤ (u.getD i 0).toNat) → ln u = j + ln (u.drop j) := by
  induction j with
  | zero => intro u _ _; simp
  | succ j ih =>
    intro u hl h
    have hne : u ≠ [] := by intro e; subst e; simp at hl
    rw [ln_yes hne (by have := h 0 (by omega); omega), ih (u.drop 1) (by simp; omega) (fun i hi => by have := h (i + 1) (by omega); simpa [List.getD_eq_getElem?_getD, List.getElem?_drop, Nat.add_comm] using this), List.drop_drop]
    rw [show 1 + j = j + 1 by omega]; omega
theorem skip_ln (n : Nat) : ∀ t : List UInt8, t.length ≤ n → skip isLn t = ln t := by
  induction n with
  | zero => intro t h; have : t = [] := List.eq_nil_of_length_eq_zero (by omega); subst this; rw [skip_nil, ln_nil]
  | succ n ih =>
    intro t h
    by_cases h0 : t = []
    · subst h0; rw [skip_nil, ln_nil]
    by_cases h10 : (t.getD 0 0).toNat = 10
    · rw [ln_no h10, skip_no]
      have := (cc_is (t := t) (c := 10) (by omega)).2 ⟨h0, h10⟩
      rw [this]; rfl
    · have hc : isLn (cc t) = true := by
        unfold isLn; simp only [ne_eq, decide_not, Bool.not_eq_true', decide_eq_false_iff_not]
        intro e; exact h10 ((cc_is (t := t) (c := 10) (by omega)).1 e).2
      have hz := sz_le t
      have hp := sz_pos h0
      rw [skip_yes h0 hc, ih (nx t) (by have := nx_lt h0; omega)]
      rw [ln_yes h0 h10]
      unfold nx
      by_cases hm : 1 < sz t
      · rw [ln_conts (sz t - 1) (t.drop 1) (by simp; omega) (fun i hi => (conts hm i hi).1), List.drop_drop, show 1 + (sz t - 1) = sz t by omega]; omega
      · rw [show sz t = 1 by omega]

/-- A remark within remarks, a byte that is neither an opening nor a closing sign. -/
theorem nest_conts (d j : Nat) : ∀ u : List UInt8, j ≤ u.length → (∀ i, i < j → 128 ≤ (u.getD i 0).toNat ∧ (u.getD i 0).toNat < 192) → nest d u = ((nest d (u.drop j)).1, j + (nest d (u.drop j)).2) := by
  induction j with
  | zero => intro u _ _; simp
  | succ j ih =>
    intro u hl h
    have hne : u ≠ [] := by intro e; subst e; simp at hl
    have h0 := h 0 (by omega)
    have hz := sz_cont hne h0.1 h0.2
    have hc := cc_hi hne h0.1
    rw [nest_on (by omega) (by omega) (by omega), show nx u = u.drop 1 by unfold nx; rw [hz], hz]
    rw [ih (u.drop 1) (by simp; omega) (fun i hi => by have := h (i + 1) (by omega); simpa [List.getD_eq_getElem?_getD, List.getElem?_drop, Nat.add_comm] using this), List.drop_drop, show 1 + j = j + 1 by omega]
    simp only [Prod.mk.injEq, true_and]; omega
theorem nest_step {d : Nat} {t : List UInt8} (h0 : t ≠ []) (h1 : ¬ (cc t = 123 ∧ cc (t.drop 1) = 45)) (h2 : ¬ (cc t = 45 ∧ cc (t.drop 1) = 125)) : nest d t = ((nest d (t.drop 1)).1, 1 + (nest d (t.drop 1)).2) := by
  by_cases hlo : (t.getD 0 0).toNat < 128
  · obtain ⟨e1, e2, e3⟩ := cc_lo h0 hlo
    by_cases a : cc t = 123
    · rw [nest_brace a (by rw [e3]; exact fun e => h1 ⟨a, e⟩), e3]
    by_cases b : cc t = 45
    · rw [nest_dash b (by rw [e3]; exact fun e => h2 ⟨b, e⟩), e3]
    · rw [nest_on (by omega) a b, e3, e2]
  · have hc := cc_hi h0 (by omega)
    have hz := sz_le t
    have hp := sz_pos h0
    rw [nest_on (by omega) (by omega) (by omega)]
    unfold nx
    by_cases hm : 1 < sz t
    · rw [nest_conts d (sz t - 1) (t.drop 1) (by simp; omega) (fun i hi => conts hm i hi), List.drop_drop, show 1 + (sz t - 1) = sz t by omega]
      simp only [Prod.mk.injEq, true_and]; omega
    · rw [show sz t = 1 by omega]

/-- A text, a character of one byte that is nothing special in it. -/
theorem quo_one {k : Nat} {t : List UInt8} (h0 : 0 ≤ cc t) (h1 : cc t < 128) (h2 : cc t ≠ 10) (h3 : cc t ≠ 34) (h4 : cc t ≠ 92) : quo k t = ((quo k (t.drop 1)).1, 1 + (quo k (t.drop 1)).2) := by
  have hz := sz_cc h0 h1
  rw [quo_on (by omega) h2 h3 h4, show nx t = t.drop 1 by unfold nx; rw [hz], hz]
theorem hexs_quo (k n : Nat) : ∀ (c : Int) (u : List UInt8), quo k u = ((quo k (u.drop (hexs n c u).2)).1, (hexs n c u).2 + (quo k (u.drop (hexs n c u).2)).2) := by
  induction n with
  | zero => intro c u; simp [hexs]
  | succ n ih =>
    intro c u
    by_cases h : 0 ≤ hexOf (cc u)
    · have ha := hexOf_ascii h
      have hz := sz_cc (t := u) (by omega) (by omega)
      have e : hexs (n + 1) c u = ((hexs n (c * 16 + hexOf (cc u)) (nx u)).1, (hexs n (c * 16 + hexOf (cc u)) (nx u)).2 + 1) := by
        conv => lhs; unfold hexs
        rw [if_pos h]
      have en : nx u = u.drop 1 := by unfold nx; rw [hz]
      have h92 : cc u ≠ 92 := by intro e'; rw [e'] at h; revert h; decide
      rw [e, quo_one (by omega) (by omega) (by omega) (by omega) h92, ih (c * 16 + hexOf (cc u)) (u.drop 1), List.drop_drop, en]
      simp only [Nat.add_comm 1, Prod.mk.injEq]
      exact ⟨trivial, by omega⟩
    · have e : hexs (n + 1) c u = (c, 0) := by
        conv => lhs; unfold hexs
        rw [if_neg h]
      rw [e]; simp
/-- What a \ takes wrongly is gone through as if it stood there by itself. -/
theorem quo_wrong {u : List UInt8} (h0 : cc u ≠ -1) (h10 : cc u ≠ 10) (hno : (taken u).2.1 = false) :
    (quo 8 (u.drop (taken u).2.2)).1 = (quo 8 (nx u)).1 ∧ (taken u).2.2 + (quo 8 (u.drop (taken u).2.2)).2 = sz u + (quo 8 (nx u)).2 := by
  by_cases a : cc u = 110
  · exfalso; revert hno; unfold taken; rw [if_neg (by omega), if_pos a]; simp
  by_cases b : cc u = 116
  · exfalso; revert hno; unfold taken; rw [if_neg (by omega), if_neg a, if_pos b]; simp
  by_cases c : cc u = 34 ∨ cc u = 92
  · exfalso; revert hno; unfold taken; rw [if_neg (by omega), if_neg a, if_neg b, if_pos c]; simp
  by_cases d : cc u = 117
  · have e : taken u = ((code (nx u)).1, (code (nx u)).2.1, 1 + (code (nx u)).2.2) := by
      unfold taken; rw [if_neg (by omega), if_neg a, if_neg b, if_neg c, if_pos d]
    have hz := sz_cc (t := u) (by omega) (by omega)
    have en : nx u = u.drop 1 := by unfold nx; rw [hz]
    rw [e] at hno ⊢
    simp only at hno ⊢
    rw [hz, ← List.drop_drop, ← en]
    -- what codePoint passes is nothing special
    have key : quo 8 (nx u) = ((quo 8 ((nx u).drop (code (nx u)).2.2)).1, (code (nx u)).2.2 + (quo 8 ((nx u).drop (code (nx u)).2.2)).2) := by
      by_cases g : cc (nx u) = 123
      · have hz2 := sz_cc (t := nx u) (by omega) (by omega)
        have en2 : nx (nx u) = (nx u).drop 1 := nx_one hz2
        have h1 := quo_one (k := 8) (t := nx u) (by omega) (by omega) (by omega) (by omega) (by omega)
        rw [← en2] at h1
        have h2 := hexs_quo 8 6 0 (nx (nx u))
        by_cases g2 : (hexs 6 0 (nx (nx u))).2 = 0 ∨ cc ((nx (nx u)).drop (hexs 6 0 (nx (nx u))).2) ≠ 125
        · have ec : code (nx u) = (0, false, 1 + (hexs 6 0 (nx (nx u))).2) := by unfold code; rw [if_pos g, if_pos g2]
          rw [ec]
          simp only
          rw [← List.drop_drop, ← en2, h1, h2]
          simp only [Prod.mk.injEq]
          exact ⟨trivial, by omega⟩
        · have ec : code (nx u) = ((hexs 6 0 (nx (nx u))).1, Lib.validRune (hexs 6 0 (nx (nx u))).1, 2 + (hexs 6 0 (nx (nx u))).2) := by unfold code; rw [if_pos g, if_neg g2]
          rw [ec]
          simp only
          simp only [not_or, Classical.not_not] at g2
          have h3 := quo_one (k := 8) (t := (nx (nx u)).drop (hexs 6 0 (nx (nx u))).2) (by omega) (by omega) (by omega) (by omega) (by omega)
          rw [h1, h2, h3, List.drop_drop]
          have e5 : ∀ N, (nx u).drop (2 + N) = (nx (nx u)).drop (N + 1) := fun N => by
            rw [en2, List.drop_drop, show 1 + (N + 1) = 2 + N by omega]
          rw [e5]
          simp only [Prod.mk.injEq]
          exact ⟨trivial, by omega⟩
      · have ec : code (nx u) = (0, false, 0) := by unfold code; rw [if_neg g]
        rw [ec]; simp
    rw [key]
    exact ⟨rfl, by simp only; omega⟩
  · have e : taken u = (0, false, sz u) := by
      unfold taken; rw [if_neg (by omega), if_neg a, if_neg b, if_neg c, if_neg d]
    rw [e]; exact ⟨rfl, rfl⟩
end M
end Go.Proofs.YtbhcniemkjoflaaDoor
