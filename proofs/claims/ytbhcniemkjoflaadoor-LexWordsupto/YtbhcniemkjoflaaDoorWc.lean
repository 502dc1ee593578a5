/- Plain mathematics: a text that is one token; a round of its reading. -/
import Derived.Test.YtbhcniemkjoflaaDoorWa
import Derived.Test.YtbhcniemkjoflaaDoorEb
namespace Go.Proofs.YtbhcniemkjoflaaDoor
open M

theorem quo_six {k : Nat} {t : List UInt8} (h : (quo k t).1 = 6) : t ≠ [] := by
  rintro rfl
  rw [quo_end (.inl cc_nil)] at h; cases h
theorem tok_six {l : List UInt8} (h : M.tok l = (6, l.length)) : quo 6 (l.drop 1) = (6, l.length - 1) ∧ 2 ≤ l.length := by
  by_cases h0 : cc l = 34
  · have z := sz_cc (t := l) (by omega) (by omega)
    have hn : nx l = l.drop 1 := by unfold nx; rw [z]
    unfold M.tok at h
    rw [h0, if_neg (by decide), if_neg (by decide), if_neg (by decide), if_pos rfl, hn] at h
    have h1 : (quo 6 (l.drop 1)).1 = 6 := congrArg Prod.fst h
    have h2 : 1 + (quo 6 (l.drop 1)).2 = l.length := congrArg Prod.snd h
    have h3 := List.length_pos_iff.2 (quo_six h1)
    simp at h3
    exact ⟨Prod.ext h1 (by simp only; omega), by omega⟩
  · exfalso
    have h8 := (nest_le _ 1 (nx (nx l)) (Nat.le_refl _)).2
    have h1 : (M.tok l).1 = 6 := by rw [h]
    unfold M.tok at h1
    repeat' split at h1
    all_goals (first | (simp only at h1; omega) | omega)
theorem taken_ok {t : List UInt8} (h : (taken t).2.1 = true) : 1 ≤ (taken t).2.2 ∧ Lib.validRune (taken t).1 = true := by
  unfold taken at h ⊢
  split at h
  · cases h
  rename_i a0
  rw [if_neg a0]
  split at h
  · rename_i a1; rw [if_pos a1]; exact ⟨Nat.le_refl _, by decide⟩
  rename_i a1
  rw [if_neg a1]
  split at h
  · rename_i a2; rw [if_pos a2]; exact ⟨Nat.le_refl _, by decide⟩
  rename_i a2
  rw [if_neg a2]
  split at h
  · rename_i a3; rw [if_pos a3]; refine ⟨Nat.le_refl _, ?_⟩
    rcases a3 with a3 | a3 <;> rw [a3] <;> decide
  rename_i a3
  rw [if_neg a3]
  split at h
  · rename_i a4; rw [if_pos a4]
    refine ⟨by simp only; omega, ?_⟩
    simp only at h ⊢
    unfold code at h ⊢
    split at h
    · rename_i b0
      rw [if_pos b0]
      split at h
      · cases h
      · rename_i b1; rw [if_neg b1]; exact h
    · cases h
  · cases h
/-- Where a text is read: what is left of it is the end of one token. -/
structure Rd6 (s : ByteArray) (i : Nat) : Prop where
  lt : i < s.size
  q : quo 6 ((bs s).drop i) = (6, s.size - i)
theorem Rd6.first {s : ByteArray} (h : aloneB (bs s) 6 = true) : Rd6 s 1 := by
  unfold aloneB at h
  have h1 := tok_six (of_decide_eq_true h).2
  rw [bs_len] at h1
  exact ⟨by omega, h1.1⟩
theorem drop_cons {s : ByteArray} {i : Nat} (h : i < s.size) : (bs s).drop i = s[i]'h :: (bs s).drop (i + 1) := by
  have h1 : i < (bs s).length := by rw [bs_len]; exact h
  rw [List.drop_eq_getElem_cons h1]; rfl
theorem take_cons {s : ByteArray} {i : Nat} (h : i + 1 < s.size) : ((bs s).take (s.size - 1)).drop i = s[i]'(by omega) :: ((bs s).take (s.size - 1)).drop (i + 1) := by
  have h1 : i < ((bs s).take (s.size - 1)).length := by rw [List.length_take, bs_len]; omega
  rw [List.drop_eq_getElem_cons h1, List.getElem_take]; rfl
theorem Rd6.plain {s : ByteArray} {i : Nat} (h : Rd6 s i) (h1 : i + 1 < s.size) (hx : (s[i]'h.lt).toNat ≠ 92) : Rd6 s (i + 1) ∧ unq (((bs s).take (s.size - 1)).drop i) = s[i]'h.lt :: unq (((bs s).take (s.size - 1)).drop (i + 1)) := by
  have hq := h.q
  rw [drop_cons h.lt] at hq
  have n34 : (s[i]'h.lt).toNat ≠ 34 := by
    intro e
    rw [quo_shut (by rw [(cc_c _ _ (by omega)).1, e]; rfl)] at hq
    have := congrArg Prod.snd hq
    simp only at this; omega
  have n10 : (s[i]'h.lt).toNat ≠ 10 := by
    intro e
    rw [quo_end (.inr (by rw [(cc_c _ _ (by omega)).1, e]; rfl))] at hq
    cases hq
  rw [quo_byte hx n34 n10] at hq
  have e1 := congrArg Prod.fst hq
  have e2 := congrArg Prod.snd hq
  simp only at e1 e2
  refine ⟨⟨h1, Prod.ext e1 ?_⟩, ?_⟩
  · simp only; omega
  · rw [take_cons h1, unq_byte hx]
theorem Rd6.slash {s : ByteArray} {i : Nat} (h : Rd6 s i) (h1 : i + 1 < s.size) (hx : (s[i]'h.lt).toNat = 92) :
    ∃ (c : Int) (m : Nat), esc ((bs s).drop (i + 1)) = (c, m) ∧ Rd6 s (i + m) ∧ 1 ≤ m ∧ 0 ≤ c ∧ Lib.validRune c = true ∧ unq (((bs s).take (s.size - 1)).drop i) = Lib.encodeRune c ++ unq (((bs s).take (s.size - 1)).drop (i + m)) := by
  have hq := h.q
  have hc : cc ((bs s).drop i) = 92 := by rw [drop_cons h.lt, (cc_c _ _ (by omega)).1, hx]; rfl
  have hn : nx ((bs s).drop i) = (bs s).drop (i + 1) := by rw [drop_cons h.lt, (cc_c _ _ (by omega)).2.2]
  rw [quo_slash hc, hn] at hq
  have ho : (taken ((bs s).drop (i + 1))).2.1 = true := by
    cases hv : (taken ((bs s).drop (i + 1))).2.1
    · rw [hv] at hq
      have := congrArg Prod.fst hq
      simp only [Bool.false_eq_true, if_false] at this
      rw [quo_bad] at this; cases this
    · rfl
  rw [ho] at hq
  simp only [if_true] at hq
  obtain ⟨t1, t2⟩ := taken_ok ho
  have tb := (taken_bd ((bs s).drop (i + 1))).1
  have q1 := congrArg Prod.fst hq
  have q2 := congrArg Prod.snd hq
  simp only at q1 q2
  have q3 := List.length_pos_iff.2 (quo_six q1)
  rw [List.drop_drop] at q1 q2 q3
  rw [List.length_drop, bs_len] at q3
  have hab : (bs s).drop (i + 1) = ((bs s).take (s.size - 1)).drop (i + 1) ++ (bs s).drop (s.size - 1) := by
    conv => lhs; rw [← List.take_append_drop (s.size - 1) (bs s)]
    rw [List.drop_append_of_le_length (by rw [List.length_take, bs_len]; omega)]
  have hal : (((bs s).take (s.size - 1)).drop (i + 1)).length = s.size - 1 - (i + 1) := by rw [List.length_drop, List.length_take, bs_len]; omega
  have hp := taken_pre (a := ((bs s).take (s.size - 1)).drop (i + 1)) (b := (bs s).drop (s.size - 1)) (by rw [← hab]; exact ho) (by rw [← hab, hal]; omega) (by intro e; rw [e] at hal; simp at hal; omega)
  rw [← hab] at hp
  refine ⟨(taken ((bs s).drop (i + 1))).1, 1 + (taken ((bs s).drop (i + 1))).2.2, by unfold esc; rw [ho]; rfl, ⟨by omega, ?_⟩, by omega, tb, t2, ?_⟩
  · rw [show i + (1 + (taken ((bs s).drop (i + 1))).2.2) = i + 1 + (taken ((bs s).drop (i + 1))).2.2 by omega]
    exact Prod.ext q1 (by simp only; omega)
  · rw [take_cons h1, show s[i]'(by omega) = 92 by rw [← UInt8.toNat_inj]; exact hx]
    rw [(slash_step (k := 6) (v := (taken ((bs s).drop (i + 1))).1) (m := (taken ((bs s).drop (i + 1))).2.2) (by rw [hp, ← ho])).2, List.drop_drop]
    rw [show i + (1 + (taken ((bs s).drop (i + 1))).2.2) = i + 1 + (taken ((bs s).drop (i + 1))).2.2 by omega]
theorem Rd6.last {s : ByteArray} {i : Nat} (_h : Rd6 s i) (h1 : ¬ i + 1 < s.size) : unq (((bs s).take (s.size - 1)).drop i) = [] := by
  rw [show ((bs s).take (s.size - 1)).drop i = [] by rw [List.drop_eq_nil_iff, List.length_take, bs_len]; omega, unq_nil]
end Go.Proofs.YtbhcniemkjoflaaDoor
