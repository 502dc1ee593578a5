/- Mathematics of a Reader's states; Feed. -/
import Derived.Test.YtcibflndpckkkaaDoorWng
import Derived.Test.YtcibflndpckkkaaDoorWlf
namespace Go.Proofs.YtcibflndpckkkaaDoor
open Go.RowKit
open Wi
namespace Wi
/-- What stands in a Reader that is in a state. -/
def rep : Sta → List UInt8
  | .line l _ => l
  | .body b _ => 13 :: 10 :: b
  | .bad _ => []
def siz : Sta → Int
  | .line _ s => s
  | .body _ s => s
  | .bad _ => 0
/-- A state that a Reader may be in. -/
def Sok : Sta → Prop
  | .line l s => cutLine l = none ∧ ¬ tooLong l ∧ s < 10000000000
  | .body b s => (b.length : Int) ≤ s ∧ s < 10000000000
  | .bad x => x ≠ 0
/-- What comes of more bytes. -/
def feed (s : Sta) (c : List UInt8) : Fr := match s with
  | .bad x => ⟨[], x, 0, []⟩
  | s => fr (siz s) (rep s ++ c)
theorem cut0 (r : List UInt8) : cutLine (13 :: 10 :: r) = some ([], r) := cutLine_plain (a := []) (by simp) r
theorem feed_whole {b : List UInt8} {s : Int} (hs : 0 ≤ s) (h : (b.length : Int) = s) (c : List UInt8) : feed (.body b s) c = ⟨b :: (feed (.line [] (-1)) c).out, (feed (.line [] (-1)) c).e, (feed (.line [] (-1)) c).sz, (feed (.line [] (-1)) c).left⟩ := by
  show fr s (13 :: 10 :: (b ++ c)) = _
  rw [fr_some (cut0 _), if_neg (by simp), if_neg (by simp), if_neg (by omega), if_neg (by simp; omega)]
  have e : s.toNat = b.length := by omega
  rw [e, List.take_left, List.drop_left]
  rfl
theorem feed_nil_line {l : List UInt8} {s : Int} (h : Sok (.line l s)) : feed (.line l s) [] = ⟨[], 0, s, l⟩ := by
  show fr s (l ++ []) = _
  rw [List.append_nil, fr_none h.1, if_neg h.2.1]
theorem feed_nil_body {b : List UInt8} {s : Int} (hs : 0 ≤ s) (h : (b.length : Int) < s) : feed (.body b s) [] = ⟨[], 0, s, 13 :: 10 :: b⟩ := by
  show fr s (13 :: 10 :: b ++ []) = _
  rw [List.append_nil, fr_some (cut0 _), if_neg (by simp), if_neg (by simp), if_neg (by omega), if_pos h]
theorem feed_body {b : List UInt8} {s : Int} (c : List UInt8) (n : Nat) : feed (.body b s) c = feed (.body (b ++ c.take n) s) (c.drop n) := by
  show fr s (13 :: 10 :: b ++ c) = fr s (13 :: 10 :: (b ++ c.take n) ++ c.drop n)
  simp
theorem lenOf_lt (a : List UInt8) : lenOf a < 10000000000 := by
  rw [lenOf_cut]
  split
  · omega
  split
  · omega
  · unfold lenR
    split
    · next n hn =>
      split at hn
      · cases hn
      split at hn
      · next h1 h2 =>
        cases hn
        have := numOf_lt2 (fun c hc => List.all_eq_true.1 h2 c hc) 10 (by simp at h1 ⊢; omega)
        omega
      · cases hn
    · omega
theorem endSta_ok (a : List UInt8) {s : Int} (hs : s < 10000000000) : Sok (endSta a s) := by
  unfold endSta
  split
  · split
    · show (3 : Nat) ≠ 0; decide
    · exact ⟨by simp; omega, hs⟩
  · split
    · show (3 : Nat) ≠ 0; decide
    · refine ⟨rfl, ?_, ?_⟩
      · unfold tooLong; simp
      · have := lenOf_lt a
        split <;> omega
/-- A line's end. -/
theorem feed_end {a r : List UInt8} {s : Int} (ha : a.length ≤ 1000) (hc : cutLine (a ++ 13 :: 10 :: r) = some (a, r)) :
    (fr s (a ++ 13 :: 10 :: r)).out = (feed (endSta a s) r).out ∧ (fr s (a ++ 13 :: 10 :: r)).e = (feed (endSta a s) r).e ∧ ((fr s (a ++ 13 :: 10 :: r)).e = 0 → fr s (a ++ 13 :: 10 :: r) = feed (endSta a s) r) := by
  unfold endSta
  by_cases h0 : a = []
  · subst h0
    rw [if_pos rfl]
    by_cases hs : s < 0
    · rw [if_pos hs, fr_some hc, if_neg (by omega), if_neg (by simp), if_pos hs]
      exact ⟨rfl, rfl, fun e => by cases e⟩
    · rw [if_neg hs]
      exact ⟨rfl, rfl, fun _ => rfl⟩
  · rw [fr_some hc, if_neg (by omega), if_pos (by simpa using h0), if_neg h0]
    by_cases h2 : lenOf a = -2
    · rw [if_pos h2, if_pos h2]
      exact ⟨rfl, rfl, fun e => by cases e⟩
    · rw [if_neg h2, if_neg h2]
      exact ⟨rfl, rfl, fun _ => rfl⟩
/-- What a chunk has of a line. -/
theorem takeL_feed (s : Int) (c : List UInt8) : ∀ l, Sok (.line l s) →
    Sok (takeL l s c).1 ∧ (takeL l s c).2.length ≤ c.length ∧ (c ≠ [] → (takeL l s c).2.length < c.length) ∧ (feed (.line l s) c).out = (feed (takeL l s c).1 (takeL l s c).2).out ∧ (feed (.line l s) c).e = (feed (takeL l s c).1 (takeL l s c).2).e ∧ ((feed (.line l s) c).e = 0 → feed (.line l s) c = feed (takeL l s c).1 (takeL l s c).2) := by
  induction c with
  | nil => intro l h; exact ⟨h, Nat.le_refl _, fun e => absurd rfl e, rfl, rfl, fun _ => rfl⟩
  | cons x c ih =>
    intro l h
    obtain ⟨h1, h2, h3⟩ := h
    obtain ⟨c1, c2⟩ := cutLine_snoc h1 x
    rw [takeL]
    have hf : feed (.line l s) (x :: c) = fr s ((l ++ [x]) ++ c) := by show fr s (l ++ x :: c) = _; simp
    by_cases he : x = 10 ∧ l.getLast? = some 13
    · rw [if_pos he]
      have hcl := c1 he
      have hll := cutLine_len hcl
      have hal : l.dropLast.length ≤ 1000 := by
        have hne : 0 < l.length := List.length_pos_iff.2 (fun e => by rw [e] at he; cases he.2)
        unfold tooLong at h2
        simp only [he.2, ne_eq, not_true_eq_false, or_false] at h2
        simp; omega
      have hmore := cutLine_more hcl c
      rw [List.nil_append] at hmore
      have e2 : l ++ [x] ++ c = l.dropLast ++ 13 :: 10 :: c := by rw [hll]; simp
      rw [hf, e2]
      rw [e2] at hmore
      obtain ⟨g1, g2, g3⟩ := feed_end (s := s) hal hmore
      exact ⟨endSta_ok _ h3, by simp, fun _ => by simp, g1, g2, g3⟩
    · rw [if_neg he]
      have hcl := c2 he
      by_cases ht : tooLong (l ++ [x])
      · rw [if_pos ht]
        have hx : (fr s (l ++ [x])).e = 12 ∧ (fr s (l ++ [x])).out = [] := by rw [fr_none hcl, if_pos ht]; exact ⟨rfl, rfl⟩
        have := (fr_cut _ s (l ++ [x]) c (Nat.le_refl _)).2 (by rw [hx.1]; decide)
        rw [hf]
        refine ⟨(by decide : (12 : Nat) ≠ 0), by simp, fun _ => by simp, ?_, ?_, ?_⟩
        · rw [this.1, hx.2]; rfl
        · rw [this.2, hx.1]; rfl
        · intro e; rw [this.2, hx.1] at e; cases e
      · rw [if_neg ht]
        obtain ⟨g0, g1, g2, g3, g4, g5⟩ := ih (l ++ [x]) ⟨hcl, ht, h3⟩
        have e3 : feed (.line (l ++ [x]) s) c = fr s ((l ++ [x]) ++ c) := rfl
        rw [hf, ← e3]
        exact ⟨g0, by simp; omega, fun _ => by simp; omega, g3, g4, g5⟩
theorem takeL_rep (s : Int) (c : List UInt8) : ∀ l, (rep (takeL l s c).1).length + (takeL l s c).2.length ≤ l.length + c.length := by
  induction c with
  | nil => intro l; exact Nat.le_refl _
  | cons x c ih =>
    intro l
    rw [takeL]
    split
    · next he =>
      have hne : 0 < l.length := List.length_pos_iff.2 (fun e => by rw [e] at he; cases he.2)
      have h1 : (rep (endSta l.dropLast s)).length ≤ 2 := by
        unfold endSta
        split
        · split <;> simp [rep]
        · split <;> simp [rep]
      simp only [List.length_cons]; omega
    · split
      · simp [rep]
      · have := ih (l ++ [x])
        simp only [List.length_append, List.length_cons, List.length_nil] at this ⊢; omega
end Wi
end Go.Proofs.YtcibflndpckkkaaDoor
