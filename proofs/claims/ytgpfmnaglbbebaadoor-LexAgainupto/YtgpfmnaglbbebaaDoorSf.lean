/- Plain mathematics: places and ends of tokens grow; the two questions of the search. -/
import Derived.Test.YtgpfmnaglbbebaaDoorSe
namespace Go.Proofs.YtgpfmnaglbbebaaDoor
open M

theorem toks_grow (n : Nat) : ∀ (p : Nat) (l : List UInt8), l.length ≤ n → ∀ (i j : Nat) (t t' : Tk), i ≤ j → (toks p l)[i]? = some t → (toks p l)[j]? = some t' → t.pos ≤ t'.pos ∧ t.pos + t.len ≤ t'.pos + t'.len := by
  induction n with
  | zero =>
    intro p l h i j t t' _ ht
    have : l = [] := List.length_eq_zero_iff.1 (by omega)
    subst this; rw [toks_nil] at ht; simp at ht
  | succ n ih =>
    intro p l h i j t t' hij ht ht'
    by_cases h0 : l = []
    · subst h0; rw [toks_nil] at ht; simp at ht
    · have hb := tok_bounds h0
      have hd : (l.drop (tok l).2).length ≤ n := by rw [List.length_drop]; omega
      rw [toks_cons h0] at ht ht'
      cases j with
      | zero =>
        obtain rfl : i = 0 := by omega
        rw [ht] at ht'; cases ht'; exact ⟨Nat.le_refl _, Nat.le_refl _⟩
      | succ j =>
        rw [List.getElem?_cons_succ] at ht'
        cases i with
        | zero =>
          rw [List.getElem?_cons_zero] at ht
          cases ht
          have := toks_ge _ _ _ hd t' (List.mem_of_getElem? ht')
          simp only; omega
        | succ i =>
          rw [List.getElem?_cons_succ] at ht
          exact ih _ _ hd i j t t' (by omega) ht ht'
theorem mono_end (c : Int) (p : Nat) (l : List UInt8) : Mono (fun t => decide (c < (t.pos : Int) + t.len)) (toks p l) := by
  intro i j t t' hij ht ht' h
  have := toks_grow _ p l (Nat.le_refl _) i j t t' hij ht ht'
  simp only [decide_eq_true_eq] at h ⊢
  omega
theorem mono_beg (c : Int) (p : Nat) (l : List UInt8) : Mono (fun t => decide (c ≤ (t.pos : Int))) (toks p l) := by
  intro i j t t' hij ht ht' h
  have := toks_grow _ p l (Nat.le_refl _) i j t t' hij ht ht'
  simp only [decide_eq_true_eq] at h ⊢
  omega
theorem ahd_is (f : Nat) (L : List Tk) : L.takeWhile (fun t => !decide ((f : Int) - 4 < (t.pos : Int) + t.len)) = ahd f L := by
  unfold ahd; congr 1; funext t
  by_cases h : t.pos + t.len + 4 ≤ f
  · rw [decide_eq_true h, decide_eq_false (by omega)]; rfl
  · rw [decide_eq_false h, decide_eq_true (by omega)]; rfl
theorem beg_is (c : Int) (L : List Tk) : L.dropWhile (fun t => !decide (c ≤ (t.pos : Int))) = beg c L := by
  unfold beg; congr 1; funext t
  by_cases h : (t.pos : Int) < c
  · rw [decide_eq_true h, decide_eq_false (by omega)]; rfl
  · rw [decide_eq_false h, decide_eq_true (by omega)]; rfl
end Go.Proofs.YtgpfmnaglbbebaaDoor
