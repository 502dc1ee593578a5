/- Plain mathematics: what stays ahead; all tokens of a text in which a piece is replaced. -/
import Derived.Test.YtpoipoencbieeaaDoorAb
namespace Go.Proofs.YtpoipoencbieeaaDoor
namespace M

/-- The tokens that stay ahead of a place. -/
def ahd (f : Nat) (L : List Tk) : List Tk := L.takeWhile (fun t => decide (t.pos + t.len + 4 ≤ f))
/-- Where the last of some tokens ends. -/
def endF (p : Nat) (L : List Tk) : Nat := L.foldl (fun _ t => t.pos + t.len) p
theorem endF_nil (p : Nat) : endF p [] = p := rfl
theorem endF_cons (p : Nat) (t : Tk) (L : List Tk) : endF p (t :: L) = endF (t.pos + t.len) L := rfl
theorem endF_last (p : Nat) (t : Tk) (L : List Tk) : endF p (L ++ [t]) = t.pos + t.len := by unfold endF; rw [List.foldl_append]; rfl
theorem endF_get {p : Nat} {L : List Tk} (h : L ≠ []) : ∃ t, L[L.length - 1]? = some t ∧ endF p L = t.pos + t.len := by
  have hl := List.length_pos_iff.2 h
  refine ⟨L[L.length - 1]'(by omega), by simp, ?_⟩
  have e := List.dropLast_concat_getLast h
  conv => lhs; rw [← e]
  rw [endF_last, List.getLast_eq_getElem]

theorem ahd_toks (a b b' : List UInt8) (n : Nat) : ∀ p : Nat, ((a ++ b).drop p).length ≤ n →
    toks p ((a ++ b).drop p) = ahd a.length (toks p ((a ++ b).drop p)) ++ toks (endF p (ahd a.length (toks p ((a ++ b).drop p)))) ((a ++ b).drop (endF p (ahd a.length (toks p ((a ++ b).drop p))))) ∧
    toks p ((a ++ b').drop p) = ahd a.length (toks p ((a ++ b).drop p)) ++ toks (endF p (ahd a.length (toks p ((a ++ b).drop p)))) ((a ++ b').drop (endF p (ahd a.length (toks p ((a ++ b).drop p))))) := by
  induction n with
  | zero =>
    intro p hn
    have h0 : (a ++ b).drop p = [] := List.length_eq_zero_iff.1 (by omega)
    rw [h0, toks_nil, show ahd a.length [] = [] from rfl, endF_nil, h0, toks_nil]
    exact ⟨rfl, rfl⟩
  | succ n ih =>
    intro p hn
    by_cases h0 : (a ++ b).drop p = []
    · rw [h0, toks_nil, show ahd a.length [] = [] from rfl, endF_nil, h0, toks_nil]
      exact ⟨rfl, rfl⟩
    · have hb := tok_bounds h0
      rw [toks_cons h0]
      by_cases hc : p + (tok ((a ++ b).drop p)).2 + 4 ≤ a.length
      · have e1 : ∀ q : List UInt8, (a ++ q).drop p = a.drop p ++ q := fun q => List.drop_append_of_le_length (by omega)
        have hl : (a.drop p).length = a.length - p := List.length_drop ..
        have ht : tok ((a ++ b').drop p) = tok ((a ++ b).drop p) := by
          rw [e1 b', e1 b]
          exact tok_loc (by rw [← e1 b, hl]; omega)
        have h0' : (a ++ b').drop p ≠ [] := by
          rw [e1]; intro e
          have := congrArg List.length e
          rw [List.length_append, hl] at this; simp at this; omega
        have hp := List.length_pos_iff.2 h0
        obtain ⟨i1, i2⟩ := ih (p + (tok ((a ++ b).drop p)).2) (by rw [List.length_drop] at hn hp ⊢; omega)
        have ea : ∀ L : List Tk, ahd a.length (⟨(tok ((a ++ b).drop p)).1, p, (tok ((a ++ b).drop p)).2⟩ :: L) = ⟨(tok ((a ++ b).drop p)).1, p, (tok ((a ++ b).drop p)).2⟩ :: ahd a.length L := by
          intro L; unfold ahd; exact List.takeWhile_cons_of_pos (by simpa using hc)
        rw [ea, endF_cons, List.drop_drop, toks_cons h0', ht, List.drop_drop]
        refine ⟨?_, ?_⟩
        · rw [List.cons_append, ← i1]
        · rw [List.cons_append, ← i2]
      · have ea : ∀ L : List Tk, ahd a.length (⟨(tok ((a ++ b).drop p)).1, p, (tok ((a ++ b).drop p)).2⟩ :: L) = [] := by
          intro L; unfold ahd; exact List.takeWhile_cons_of_neg (by simpa using hc)
        rw [ea, endF_nil]
        exact ⟨by rw [List.nil_append, toks_cons h0], by rw [List.nil_append]⟩

/-- A text in which a piece is replaced. -/
def rep (T X : List UInt8) (f to : Nat) : List UInt8 := T.take f ++ X ++ T.drop to
theorem rep_same {T X : List UInt8} {f to : Nat} {g : Int} (h1 : f ≤ to) (h2 : to ≤ T.length) (hg : g = X.length - ((to : Int) - f)) : Same T (rep T X f to) to g := by
  have hl : (T.take f ++ X).length = f + X.length := by rw [List.length_append, List.length_take]; omega
  refine ⟨?_, h2, ?_⟩
  · unfold rep
    rw [List.length_append, hl, List.length_drop]; omega
  · intro q r hq hr
    unfold rep
    rw [List.drop_append, hl, show (T.take f ++ X).drop r = [] by rw [List.drop_eq_nil_iff, hl]; omega, List.nil_append, List.drop_drop]
    congr 1; omega
/-- What is kept up is what would be made anew; and how much of it is read. -/
theorem rep_toks {T X : List UInt8} {f to : Nat} {g : Int} (h1 : f ≤ to) (h2 : to ≤ T.length) (hg : g = X.length - ((to : Int) - f)) :
    toks 0 (rep T X f to) = ahd f (toks 0 T) ++ (anw g (beg to (toks 0 T)) (endF 0 (ahd f (toks 0 T))) ((rep T X f to).drop (endF 0 (ahd f (toks 0 T))))).1 ++ (anw g (beg to (toks 0 T)) (endF 0 (ahd f (toks 0 T))) ((rep T X f to).drop (endF 0 (ahd f (toks 0 T))))).2.map (mv g) ∧
    cnt g (toks 0 T) to (endF 0 (ahd f (toks 0 T))) ((rep T X f to).drop (endF 0 (ahd f (toks 0 T)))) = (anw g (beg to (toks 0 T)) (endF 0 (ahd f (toks 0 T))) ((rep T X f to).drop (endF 0 (ahd f (toks 0 T))))).1.length := by
  have hS := rep_same (X := X) h1 h2 hg
  have hlf : (T.take f).length = f := by rw [List.length_take]; omega
  have e1 : T = T.take f ++ T.drop f := (List.take_append_drop f T).symm
  have e2 : rep T X f to = T.take f ++ (X ++ T.drop to) := by unfold rep; rw [List.append_assoc]
  have ha := (ahd_toks (T.take f) (T.drop f) (X ++ T.drop to) _ 0 (Nat.le_refl _)).2
  rw [← e1, ← e2, hlf] at ha
  simp only [List.drop_zero] at ha
  obtain ⟨q, a1, a2, a3, a4⟩ := beg_form _ 0 T to (Nat.le_refl _)
  simp only [Nat.sub_zero, Nat.zero_add] at a2 a3 a4
  refine ⟨?_, cnt_anw _ to _ (Int.le_refl _) (.inr rfl) (Nat.le_refl _)⟩
  conv => lhs; rw [ha]
  rw [List.append_assoc, a3]
  congr 1
  exact anw_toks hS _ q _ (by omega) (Nat.le_refl _)
end M
end Go.Proofs.YtpoipoencbieeaaDoor
