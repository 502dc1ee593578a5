/- Plain mathematics of frames: the bodies that are whole in a text; how it is cut makes no difference; what is framed comes out. -/
import Derived.Test.YthdbnafiindgbaaGreatDoorWjb
namespace Go.Proofs.YthdbnafiindgbaaGreatDoor
namespace Wi

/-- The first line, and what stands behind its end. -/
def cutLine : List UInt8 → Option (List UInt8 × List UInt8)
  | [] => none
  | c :: t => if c = 13 ∧ t.head? = some 10 then some ([], t.tail) else match cutLine t with
    | none => none
    | some (a, b) => some (c :: a, b)
def sLen : List UInt8 := [67, 111, 110, 116, 101, 110, 116, 45, 76, 101, 110, 103, 116, 104]
def notColon (c : UInt8) : Bool := c != 58
/-- What a line says of the length: -1: nothing; -2: it is no line. -/
def lenOf (l : List UInt8) : Int :=
  if l.dropWhile notColon = [] then -2
  else if l.takeWhile notColon ≠ sLen then -1
  else if ((l.dropWhile notColon).drop 2).length < 1 ∨ 10 < ((l.dropWhile notColon).drop 2).length ∨ (l.dropWhile notColon).getD 1 0 ≠ 32 then -2
  else if ((l.dropWhile notColon).drop 2).all isDig = true then (numOf ((l.dropWhile notColon).drop 2) : Int) else -2
/-- A line that has no end yet, and is too long. -/
def tooLong (l : List UInt8) : Prop := 1000 < l.length ∧ (1001 < l.length ∨ l.getLast? ≠ some 13)
instance (l : List UInt8) : Decidable (tooLong l) := inferInstanceAs (Decidable (_ ∧ _))
structure Fr where
  out : List (List UInt8)
  e : Nat
  sz : Int
  left : List UInt8

theorem cutLine_len {l a b : List UInt8} (h : cutLine l = some (a, b)) : l = a ++ 13 :: 10 :: b := by
  induction l generalizing a b with
  | nil => cases h
  | cons c t ih =>
    rw [cutLine] at h
    split at h
    · next hc =>
      cases h
      cases t with
      | nil => simp at hc
      | cons d t => simp at hc; simp [hc]
    · cases ht : cutLine t with
      | none => rw [ht] at h; cases h
      | some x =>
        obtain ⟨x, y⟩ := x
        rw [ht] at h
        cases h
        rw [ih ht]; rfl
/-- The bodies that are whole, what is wrong behind them, the length that was told, and what is left. -/
def fr (size : Int) (l : List UInt8) : Fr :=
  match _h : cutLine l with
  | none => if tooLong l then ⟨[], 12, size, l⟩ else ⟨[], 0, size, l⟩
  | some (a, r) =>
    if 1000 < a.length then ⟨[], 12, size, l⟩
    else if a ≠ [] then
      if lenOf a = -2 then ⟨[], 3, size, l⟩ else fr (if 0 ≤ lenOf a then lenOf a else size) r
    else if size < 0 then ⟨[], 3, size, l⟩
    else if (r.length : Int) < size then ⟨[], 0, size, l⟩
    else
      let x := fr (-1) (r.drop size.toNat)
      ⟨r.take size.toNat :: x.out, x.e, x.sz, x.left⟩
termination_by l.length
decreasing_by
  all_goals (have := congrArg List.length (cutLine_len _h); simp at this ⊢; omega)

theorem fr_none {size : Int} {l : List UInt8} (h : cutLine l = none) : fr size l = if tooLong l then ⟨[], 12, size, l⟩ else ⟨[], 0, size, l⟩ := by
  rw [fr]; split
  · rfl
  · next h' => rw [h] at h'; cases h'
theorem fr_some {size : Int} {l a r : List UInt8} (h : cutLine l = some (a, r)) : fr size l =
    if 1000 < a.length then ⟨[], 12, size, l⟩
    else if a ≠ [] then
      if lenOf a = -2 then ⟨[], 3, size, l⟩ else fr (if 0 ≤ lenOf a then lenOf a else size) r
    else if size < 0 then ⟨[], 3, size, l⟩
    else if (r.length : Int) < size then ⟨[], 0, size, l⟩
    else ⟨r.take size.toNat :: (fr (-1) (r.drop size.toNat)).out, (fr (-1) (r.drop size.toNat)).e, (fr (-1) (r.drop size.toNat)).sz, (fr (-1) (r.drop size.toNat)).left⟩ := by
  conv => lhs; rw [fr]
  split
  · next h' => rw [h] at h'; cases h'
  · next h' => rw [h] at h'; cases h'; rfl
theorem cutLine_more {l a r : List UInt8} (h : cutLine l = some (a, r)) (b : List UInt8) : cutLine (l ++ b) = some (a, r ++ b) := by
  induction l generalizing a r with
  | nil => cases h
  | cons c t ih =>
    rw [cutLine] at h
    rw [List.cons_append, cutLine]
    split at h
    · next hc =>
      cases h
      cases t with
      | nil => simp at hc
      | cons d t => simp at hc; simp [hc]
    · next hc =>
      cases ht : cutLine t with
      | none => rw [ht] at h; cases h
      | some x =>
        obtain ⟨x, y⟩ := x
        rw [ht] at h
        cases h
        have hc' : ¬ (c = 13 ∧ (t ++ b).head? = some 10) := by
          cases t with
          | nil => cases ht
          | cons d t => simpa using hc
        rw [if_neg hc', ih ht]
/-- Where no line ends, one ends behind it, or at its last byte. -/
theorem cutLine_late {l : List UInt8} (h : cutLine l = none) {b a r : List UInt8} (h' : cutLine (l ++ b) = some (a, r)) : l.length ≤ a.length ∨ (l.length = a.length + 1 ∧ l.getLast? = some 13) := by
  induction l generalizing a r with
  | nil => left; simp
  | cons c t ih =>
    rw [cutLine] at h
    rw [List.cons_append, cutLine] at h'
    split at h
    · cases h
    · next hc =>
      cases ht : cutLine t with
      | some x => rw [ht] at h; cases h
      | none =>
        split at h'
        · next hc' =>
          cases h'
          cases t with
          | nil => right; simp [hc'.1]
          | cons d t => exact absurd hc' (by simpa using hc)
        · cases ht' : cutLine (t ++ b) with
          | none => rw [ht'] at h'; cases h'
          | some x =>
            obtain ⟨x, y⟩ := x
            rw [ht'] at h'
            cases h'
            rcases ih ht ht' with h1 | ⟨h1, h2⟩
            · left; simp; exact h1
            · right
              refine ⟨by simp; exact h1, ?_⟩
              cases t with
              | nil => simp at h2
              | cons d t => rw [List.getLast?_cons_cons]; exact h2
theorem tooLong_more {l : List UInt8} (h : tooLong l) (b : List UInt8) (hb : cutLine (l ++ b) = none) : tooLong (l ++ b) := by
  obtain ⟨h1, h2⟩ := h
  cases b with
  | nil => rw [List.append_nil]; exact ⟨h1, h2⟩
  | cons c t => exact ⟨by simp; omega, .inl (by simp; omega)⟩

/-- How it is cut makes no difference. -/
theorem fr_cut (n : Nat) : ∀ (size : Int) (l b : List UInt8), l.length ≤ n →
    ((fr size l).e = 0 → fr size (l ++ b) = ⟨(fr size l).out ++ (fr (fr size l).sz ((fr size l).left ++ b)).out, (fr (fr size l).sz ((fr size l).left ++ b)).e, (fr (fr size l).sz ((fr size l).left ++ b)).sz, (fr (fr size l).sz ((fr size l).left ++ b)).left⟩) ∧
    ((fr size l).e ≠ 0 → (fr size (l ++ b)).out = (fr size l).out ∧ (fr size (l ++ b)).e = (fr size l).e) := by
  induction n with
  | zero =>
    intro size l b hl
    have : l = [] := List.eq_nil_of_length_eq_zero (by omega)
    subst this
    have : fr size [] = ⟨[], 0, size, []⟩ := by rw [fr_none rfl]; rfl
    rw [this]
    exact ⟨fun _ => rfl, fun h => absurd rfl h⟩
  | succ n ih =>
    intro size l b hl
    cases hc : cutLine l with
    | none =>
      rw [fr_none hc]
      by_cases ht : tooLong l
      · rw [if_pos ht]
        refine ⟨fun h => (by cases h), fun _ => ?_⟩
        cases hb : cutLine (l ++ b) with
        | none => rw [fr_none hb, if_pos (tooLong_more ht b hb)]; exact ⟨rfl, rfl⟩
        | some x =>
          obtain ⟨a, r⟩ := x
          have h1 : 1000 < a.length := by
            obtain ⟨t1, t2⟩ := ht
            rcases cutLine_late hc hb with h | ⟨h, h'⟩
            · omega
            · rcases t2 with t2 | t2
              · omega
              · exact absurd h' t2
          rw [fr_some hb, if_pos h1]
          exact ⟨rfl, rfl⟩
      · rw [if_neg ht]
        exact ⟨fun _ => rfl, fun h => absurd rfl h⟩
    | some x =>
      obtain ⟨a, r⟩ := x
      have hlen := congrArg List.length (cutLine_len hc)
      simp only [List.length_append, List.length_cons] at hlen
      rw [fr_some (cutLine_more hc b), fr_some hc]
      split
      · exact ⟨fun h => (by cases h), fun _ => ⟨rfl, rfl⟩⟩
      next hk =>
      split
      · next ha =>
        split
        · exact ⟨fun h => (by cases h), fun _ => ⟨rfl, rfl⟩⟩
        · exact ih _ r b (by omega)
      next ha =>
      split
      · exact ⟨fun h => (by cases h), fun _ => ⟨rfl, rfl⟩⟩
      next hs =>
      by_cases hr : (r.length : Int) < size
      · rw [if_pos hr]
        refine ⟨fun _ => ?_, fun h => absurd rfl h⟩
        simp only [List.nil_append]
        rw [fr_some (cutLine_more hc b), if_neg hk, if_neg ha, if_neg hs]
      · rw [if_neg hr, if_neg (by simp; omega)]
        have ht : (r ++ b).take size.toNat = r.take size.toNat := List.take_append_of_le_length (by omega)
        have hd : (r ++ b).drop size.toNat = r.drop size.toNat ++ b := List.drop_append_of_le_length (by omega)
        rw [ht, hd]
        obtain ⟨i1, i2⟩ := ih (-1) (r.drop size.toNat) b (by simp; omega)
        refine ⟨fun h => ?_, fun h => ?_⟩
        · have := i1 h
          simp only at this ⊢
          rw [this]
          rfl
        · have := i2 h
          simp only at this ⊢
          rw [this.1, this.2]
          exact ⟨rfl, rfl⟩

/-! ## What is framed comes out -/
def frame (s : List UInt8) : List UInt8 := sLen ++ [58, 32] ++ digs s.length ++ [13, 10, 13, 10] ++ s
theorem cutLine_plain {a : List UInt8} (h : (13 : UInt8) ∉ a) (r : List UInt8) : cutLine (a ++ 13 :: 10 :: r) = some (a, r) := by
  induction a with
  | nil => simp [cutLine]
  | cons c a ih =>
    have h1 : c ≠ 13 := fun e => h (by simp [e])
    have h2 := ih (fun e => h (by simp [e]))
    rw [List.cons_append, cutLine, if_neg (fun e => h1 e.1), h2]
theorem lenOf_frame (n : Nat) (h : n < 10000000000) : lenOf (sLen ++ [58, 32] ++ digs n) = (n : Int) := by
  have h1 : (sLen ++ [58, 32] ++ digs n).dropWhile notColon = 58 :: 32 :: digs n := rfl
  have h2 : (sLen ++ [58, 32] ++ digs n).takeWhile notColon = sLen := rfl
  have h3 : 0 < (digs n).length := List.length_pos_iff.2 (digs_ne n)
  have h4 := digs_len 10 n (by show n < 10000000000; exact h)
  have h5 : (digs n).all isDig = true := List.all_eq_true.2 (digs_dig n)
  unfold lenOf
  rw [h1, h2]
  have e1 : (58 :: 32 :: digs n : List UInt8).drop 2 = digs n := rfl
  have e2 : (58 :: 32 :: digs n : List UInt8).getD 1 0 = 32 := rfl
  rw [e1, e2, if_neg (by simp), if_neg (by simp), if_neg (by rintro (h | h | h) <;> first | omega | exact h rfl), if_pos h5, digs_num]
theorem frame_no13 (n : Nat) : (13 : UInt8) ∉ sLen ++ [58, 32] ++ digs n := by
  intro h
  rcases List.mem_append.1 h with h | h
  · revert h; decide
  · have := digs_dig n 13 h
    revert this; decide
theorem fr_frame {s : List UInt8} (h : s.length < 10000000000) (r : List UInt8) : fr (-1) (frame s ++ r) = ⟨s :: (fr (-1) r).out, (fr (-1) r).e, (fr (-1) r).sz, (fr (-1) r).left⟩ := by
  have e1 : frame s ++ r = (sLen ++ [58, 32] ++ digs s.length) ++ 13 :: 10 :: (13 :: 10 :: (s ++ r)) := by simp [frame]
  have h4 := digs_len 10 s.length (by show _ < 10000000000; exact h)
  have hl : (sLen ++ [58, 32] ++ digs s.length).length ≤ 26 := by simp [sLen]; omega
  rw [e1, fr_some (cutLine_plain (frame_no13 _) _), if_neg (by omega), if_pos (by simp [sLen]), lenOf_frame _ h, if_neg (by omega), if_pos (by omega)]
  have e3 : cutLine (13 :: 10 :: (s ++ r)) = some ([], s ++ r) := cutLine_plain (a := []) (by simp) _
  rw [fr_some e3, if_neg (by simp), if_neg (by simp), if_neg (by omega), if_neg (by simp; omega)]
  have e2 : ((s.length : Int)).toNat = s.length := by omega
  rw [e2, List.take_left, List.drop_left]
theorem fr_frames (l : List (List UInt8)) (h : ∀ s ∈ l, s.length < 10000000000) : fr (-1) (l.flatMap frame) = ⟨l, 0, -1, []⟩ := by
  induction l with
  | nil => rw [List.flatMap_nil, fr_none rfl]; rfl
  | cons s l ih => rw [List.flatMap_cons, fr_frame (h s (by simp)), ih (fun s hs => h s (by simp [hs]))]
end Wi
end Go.Proofs.YthdbnafiindgbaaGreatDoor
