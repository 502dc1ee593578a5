/- Plain mathematics of messages: the text of a value; what is written is read as what it was. -/
import Derived.Test.YthdbnafiindgbaaDoorWja
namespace Go.Proofs.YthdbnafiindgbaaDoor
namespace Wi

def hexc (n : Nat) : UInt8 := if n < 10 then (48 + n).toUInt8 else (87 + n).toUInt8
def quoteB (c : UInt8) : List UInt8 :=
  if c = 34 ∨ c = 92 then [92, c] else if c = 10 then [92, 110] else if c = 13 then [92, 114] else if c = 9 then [92, 116]
  else if c.toNat < 32 then [92, 117, 48, 48, hexc (c.toNat / 16), hexc (c.toNat % 16)] else [c]
def quoteA (s : List UInt8) : List UInt8 := s.flatMap quoteB
def quote (s : List UInt8) : List UInt8 := 34 :: (quoteA s ++ [34])
def digs (n : Nat) : List UInt8 := if n < 10 then [(48 + n).toUInt8] else digs (n / 10) ++ [(48 + n % 10).toUInt8]
def digsZ (n : Int) : List UInt8 := if n < 0 then 45 :: digs n.natAbs else digs n.natAbs

/-- Has a value what its kind has, and nothing else? -/
def ownOk (k n : Int) (t : List UInt8) (ks : List (List UInt8)) (m : Nat) : Bool :=
  if k = 0 then n == 0 && t == [] && ks == [] && m == 0
  else if k = 1 then (n == 0 || n == 1) && t == [] && ks == [] && m == 0
  else if k = 2 then decide (n ≤ 999999999999999999) && decide (-999999999999999999 ≤ n) && t == [] && ks == [] && m == 0
  else if k = 3 then n == 0 && ks == [] && m == 0
  else if k = 4 then n == 0 && t == [] && ks == []
  else if k = 5 then n == 0 && t == [] && ks.length == m
  else false
/-- The kids of a list behind what has been written. -/
def prL (p : J → Except Nat (List UInt8)) : Bool → List J → List UInt8 → Except Nat (List UInt8)
  | _, [], s => .ok s
  | f, j :: r, s => match p j with
    | .error e => .error e
    | .ok x => prL p false r ((if f then s else s ++ [44]) ++ x)
/-- The pairs of a map behind what has been written. -/
def prM (p : J → Except Nat (List UInt8)) : List (List UInt8) → List (List UInt8) → List J → List UInt8 → Except Nat (List UInt8)
  | seen, k :: ks, j :: r, s => if k ∈ seen then .error 5 else match p j with
    | .error e => .error e
    | .ok x => prM p (seen ++ [k]) ks r ((if seen = [] then s else s ++ [44]) ++ (quote k ++ [58]) ++ x)
  | _, _, _, s => .ok s
/-- The text of a value; `m`: of a list or a map. -/
def prW (m : Bool → List (List UInt8) → List J → Except Nat (List UInt8)) : J → Except Nat (List UInt8)
  | .mk k n t ks kids =>
    if ownOk k n t ks kids.length = false then .error 3
    else if k = 0 then .ok sNull
    else if k = 1 then (if n = 1 then .ok sTrue else .ok sFalse)
    else if k = 2 then .ok (digsZ n)
    else if k = 3 then .ok (quote t)
    else m (k == 5) ks kids
def prN (p : J → Except Nat (List UInt8)) (m : Bool) (ks : List (List UInt8)) (kids : List J) : Except Nat (List UInt8) :=
  if m then match prM p [] ks kids [123] with
    | .error e => .error e
    | .ok s => .ok (s ++ [125])
  else match prL p true kids [91] with
    | .error e => .error e
    | .ok s => .ok (s ++ [93])
def pr : Nat → J → Except Nat (List UInt8)
  | 0 => prW fun _ _ _ => .error 12
  | d + 1 => prW (prN (pr d))

/-! ## Texts -/
theorem toNat_inj {a b : UInt8} (h : a.toNat = b.toNat) : a = b := UInt8.toNat_inj.1 h
theorem hexd_hexc : ∀ k : Fin 16, hexd (hexc k.val) = some k.val := by decide
theorem quoteB_read : ∀ c : Fin 256, let b := UInt8.ofNat c.val; (quoteB b = [b] ∧ b ≠ 34 ∧ b ≠ 92 ∧ 32 ≤ b.toNat) ∨ (∃ x, quoteB b = [92, x] ∧ one x = some b) ∨ (quoteB b = [92, 117, 48, 48, hexc (c.val / 16), hexc (c.val % 16)] ∧ c.val < 32) := by
  intro c
  simp only
  by_cases h1 : UInt8.ofNat c.val = 34 ∨ UInt8.ofNat c.val = 92
  · right; left
    exact ⟨UInt8.ofNat c.val, by unfold quoteB; rw [if_pos h1], by rcases h1 with h | h <;> rw [h] <;> rfl⟩
  by_cases h2 : UInt8.ofNat c.val = 10
  · right; left; exact ⟨110, by rw [h2]; rfl, by rw [h2]; rfl⟩
  by_cases h3 : UInt8.ofNat c.val = 13
  · right; left; exact ⟨114, by rw [h3]; rfl, by rw [h3]; rfl⟩
  by_cases h4 : UInt8.ofNat c.val = 9
  · right; left; exact ⟨116, by rw [h4]; rfl, by rw [h4]; rfl⟩
  have hc : (UInt8.ofNat c.val).toNat = c.val := by simp
  by_cases h5 : c.val < 32
  · right; right
    simp only [quoteB, h1, h2, h3, h4, if_false, hc, h5, if_true, and_self]
  · left
    rw [not_or] at h1
    refine ⟨?_, h1.1, h1.2, by omega⟩
    simp only [quoteB, h1.1, h1.2, or_self, h2, h3, h4, if_false, hc, h5]
theorem encode_small (n : Nat) (h : n < 128) : Lib.encodeRune (n : Int) = [UInt8.ofNat n] := by
  revert h
  have : ∀ k : Fin 128, Lib.encodeRune ((k.val : Nat) : Int) = [UInt8.ofNat k.val] := by decide
  intro h; exact this ⟨n, h⟩
theorem esc_one {x b : UInt8} (h : one x = some b) (r : List UInt8) : esc (92 :: x :: r) = some ([b], 2) := by
  simp [esc, h]
theorem one_117 : one 117 = none := by decide
theorem esc_u {a b : Nat} (ha : a < 2) (hb : b < 16) (r : List UInt8) : esc (92 :: 117 :: 48 :: 48 :: hexc a :: hexc b :: r) = some ([UInt8.ofNat (a * 16 + b)], 6) := by
  have h1 := hexd_hexc ⟨a, by omega⟩
  have h2 := hexd_hexc ⟨b, hb⟩
  simp only at h1 h2
  have h0 : hexd 48 = some 0 := by decide
  have hh : hx (92 :: 117 :: 48 :: 48 :: hexc a :: hexc b :: r) = some (a * 16 + b) := by
    simp [hx, hexs, h1, h2, h0]
  simp only [esc, List.length_cons, List.getD_cons_succ, List.getD_cons_zero, one_117, hh]
  have e1 : ¬ (55296 ≤ a * 16 + b ∧ a * 16 + b ≤ 56319) := by omega
  have e2 : ¬ (56320 ≤ a * 16 + b ∧ a * 16 + b ≤ 57343) := by omega
  simp only [e1, e2, if_false, ite_self]
  rw [encode_small _ (by omega)]
theorem txt_quoteB (a : List UInt8) (c : UInt8) (r : List UInt8) : txt a (quoteB c ++ r) = txt (a ++ [c]) r := by
  have h := quoteB_read ⟨c.toNat, c.toNat_lt⟩
  have hc : UInt8.ofNat c.toNat = c := by simp
  simp only [hc] at h
  rcases h with ⟨h, h1, h2, h3⟩ | ⟨x, h, h1⟩ | ⟨h, h1⟩
  · rw [h]
    show txt a (c :: r) = _
    rw [txt]
    simp only [h1, h2, if_false, ne_eq, not_false_eq_true, if_true, show ¬ c.toNat < 32 by omega]
  · rw [h]
    show txt a (92 :: x :: r) = _
    rw [txt]
    rw [esc_one h1]
    simp
  · rw [h]
    show txt a (92 :: 117 :: 48 :: 48 :: hexc (c.toNat / 16) :: hexc (c.toNat % 16) :: r) = _
    rw [txt]
    rw [esc_u (by omega) (by omega)]
    have : c.toNat / 16 * 16 + c.toNat % 16 = c.toNat := by omega
    simp [this]
theorem txt_quoteA (s : List UInt8) : ∀ (a r : List UInt8), txt a (quoteA s ++ 34 :: r) = .ok (a ++ s) r := by
  induction s with
  | nil => intro a r; show txt a (34 :: r) = _; rw [txt]; simp
  | cons c s ih =>
    intro a r
    show txt a ((quoteB c ++ quoteA s) ++ 34 :: r) = _
    rw [List.append_assoc, txt_quoteB, ih]
    simp
theorem txt_quote (s r : List UInt8) : txt [] (quoteA s ++ [34] ++ r) = .ok s r := by
  rw [List.append_assoc]; exact txt_quoteA s [] r

/-! ## Numbers -/
theorem digs_dig (n : Nat) : ∀ c ∈ digs n, isDig c = true := by
  induction n using Nat.strongRecOn with
  | _ n ih =>
    intro c hc
    rw [digs] at hc
    split at hc
    · next h =>
      simp only [List.mem_singleton] at hc
      subst hc
      simp [isDig]; omega
    · next h =>
      rcases List.mem_append.1 hc with hc | hc
      · exact ih (n / 10) (by omega) c hc
      · simp only [List.mem_singleton] at hc
        subst hc
        simp [isDig]; omega
theorem digs_ne (n : Nat) : digs n ≠ [] := by rw [digs]; split <;> simp
theorem digs_num (n : Nat) : numOf (digs n) = n := by
  induction n using Nat.strongRecOn with
  | _ n ih =>
    rw [digs]
    split
    · next h =>
      simp [numOf]; omega
    · next h =>
      have : ((48 + n % 10).toUInt8).toNat = 48 + n % 10 := by simp; omega
      have e := ih (n / 10) (by omega)
      unfold numOf at e ⊢
      rw [List.foldl_append, e]
      simp only [List.foldl_cons, List.foldl_nil, this]
      omega
theorem digs_len (k : Nat) : ∀ n, n < 10 ^ k → (digs n).length ≤ max k 1 := by
  induction k with
  | zero => intro n h; have : n = 0 := by simpa using h
            subst this; rw [digs]; simp
  | succ k ih =>
    intro n h
    rw [digs]
    split
    · simp
    · next h1 =>
      have := ih (n / 10) (by rw [Nat.pow_succ] at h; omega)
      simp only [List.length_append, List.length_singleton]
      by_cases hk : k = 0
      · subst hk; omega
      · omega
theorem head_app {l : List UInt8} (r : List UInt8) (h : l ≠ []) : (l ++ r).head? = l.head? := by
  cases l with
  | nil => exact absurd rfl h
  | cons c t => rfl
theorem digs_head (n : Nat) (h : 1 < (digs n).length) : (digs n).head? ≠ some 48 := by
  induction n using Nat.strongRecOn with
  | _ n ih =>
    rw [digs] at h ⊢
    split
    · next h1 => rw [if_pos h1] at h; simp at h
    · next h1 =>
      rw [if_neg h1] at h
      rw [head_app _ (digs_ne _)]
      by_cases h2 : 1 < (digs (n / 10)).length
      · exact ih (n / 10) (by omega) h2
      · intro h3
        have h4 : n / 10 < 10 := by
          refine Nat.lt_of_not_le fun h5 => h2 ?_
          rw [digs, if_neg (by omega)]
          have := List.length_pos_iff.2 (digs_ne (n / 10 / 10))
          simp only [List.length_append, List.length_singleton]; omega
        rw [digs, if_pos h4] at h3
        simp only [List.head?_cons, Option.some.injEq] at h3
        have : ((48 + n / 10).toUInt8).toNat = 48 + n / 10 := by simp; omega
        rw [h3] at this
        have : (48 : Nat) = 48 + n / 10 := this
        omega
/-- No digit is next. -/
def Stops (r : List UInt8) : Prop := ∀ c t, r = c :: t → isDig c = false
theorem takeWhile_stops {l r : List UInt8} (hl : ∀ c ∈ l, isDig c = true) (hr : Stops r) : (l ++ r).takeWhile isDig = l ∧ (l ++ r).dropWhile isDig = r := by
  have h1 : r.takeWhile isDig = [] := by
    cases r with
    | nil => rfl
    | cons c t => simp [hr c t rfl]
  have h2 : r.dropWhile isDig = r := by
    cases r with
    | nil => rfl
    | cons c t => simp [hr c t rfl]
  rw [List.takeWhile_append_of_pos hl, List.dropWhile_append_of_pos hl, h1, h2]
  simp
theorem head_dig {n : Nat} {c : UInt8} (h : (digs n).head? = some c) : isDig c = true := digs_dig n c (List.mem_of_mem_head? h)
theorem numb_digs {n : Int} (h1 : n ≤ 999999999999999999) (h2 : -999999999999999999 ≤ n) {r : List UInt8} (hr : Stops r) : numb (digsZ n ++ r) = .ok (.mk 2 n [] [] []) r := by
  have hlen : ¬ (18 < (digs n.natAbs).length ∨ 1 < (digs n.natAbs).length ∧ (digs n.natAbs).head? = some 48) := by
    have e1 := digs_len 18 n.natAbs (by show _ < 1000000000000000000; omega)
    have e2 := digs_head n.natAbs
    rintro (h | ⟨h, h'⟩)
    · omega
    · exact e2 h h'
  obtain ⟨t1, t2⟩ := takeWhile_stops (digs_dig n.natAbs) hr
  by_cases hn : n < 0
  · have e : digsZ n = 45 :: digs n.natAbs := by simp [digsZ, hn]
    rw [e]
    unfold numb
    simp only [List.cons_append, List.head?_cons, if_true, List.tail_cons, t1, t2, digs_ne, if_false, hlen, digs_num]
    congr 2; omega
  · have e : digsZ n = digs n.natAbs := by simp [digsZ, hn]
    rw [e]
    have hh : ¬ ((digs n.natAbs ++ r).head? = some 45) := by
      rw [head_app _ (digs_ne _)]
      intro h
      have := head_dig h
      revert this; decide
    unfold numb
    simp only [hh, if_false, t1, t2, digs_ne, hlen, digs_num]
    congr 2; omega
end Wi
end Go.Proofs.YthdbnafiindgbaaDoor
/- Plain mathematics of frames: the bodies that are whole in a text; how it is cut makes no difference; what is framed comes out. -/
namespace Go.Proofs.YthdbnafiindgbaaDoor
namespace Wi

/-- The first line, and what stands behind its end. -/
def cutLine : List UInt8 → Option (List UInt8 × List UInt8)
  | [] => none
  | c :: t => if c = 13 ∧ t.head? = some 10 then some ([], t.tail) else match cutLine t with
    | none => none
    | some (a, b) => some (c :: a, b)
def sLen : List UInt8 := [67, 111, 110, 116, 101, 110, 116, 45, 76, 101, 110, 103, 116, 104]
def notColon (c : UInt8) : Bool := c != 58
/-- What a line says of the length: -1: nothing; -2: it is no line. -/
def lenOf (l : List UInt8) : Int :=
  if l.dropWhile notColon = [] then -2
  else if l.takeWhile notColon ≠ sLen then -1
  else if ((l.dropWhile notColon).drop 2).length < 1 ∨ 10 < ((l.dropWhile notColon).drop 2).length ∨ (l.dropWhile notColon).getD 1 0 ≠ 32 then -2
  else if ((l.dropWhile notColon).drop 2).all isDig = true then (numOf ((l.dropWhile notColon).drop 2) : Int) else -2
/-- A line that has no end yet, and is too long. -/
def tooLong (l : List UInt8) : Prop := 1000 < l.length ∧ (1001 < l.length ∨ l.getLast? ≠ some 13)
instance (l : List UInt8) : Decidable (tooLong l) := inferInstanceAs (Decidable (_ ∧ _))
structure Fr where
  out : List (List UInt8)
  e : Nat
  sz : Int
  left : List UInt8

theorem cutLine_len {l a b : List UInt8} (h : cutLine l = some (a, b)) : l = a ++ 13 :: 10 :: b := by
  induction l generalizing a b with
  | nil => cases h
  | cons c t ih =>
    rw [cutLine] at h
    split at h
    · next hc =>
      cases h
      cases t with
      | nil => simp at hc
      | cons d t => simp at hc; simp [hc]
    · cases ht : cutLine t with
      | none => rw [ht] at h; cases h
      | some x =>
        obtain ⟨x, y⟩ := x
        rw [ht] at h
        cases h
        rw [ih ht]; rfl
/-- The bodies that are whole, what is wrong behind them, the length that was told, and what is left. -/
def fr (size : Int) (l : List UInt8) : Fr :=
  match _h : cutLine l with
  | none => if tooLong l then ⟨[], 12, size, l⟩ else ⟨[], 0, size, l⟩
  | some (a, r) =>
    if 1000 < a.length then ⟨[], 12, size, l⟩
    else if a ≠ [] then
      if lenOf a = -2 then ⟨[], 3, size, l⟩ else fr (if 0 ≤ lenOf a then lenOf a else size) r
    else if size < 0 then ⟨[], 3, size, l⟩
    else if (r.length : Int) < size then ⟨[], 0, size, l⟩
    else
      let x := fr (-1) (r.drop size.toNat)
      ⟨r.take size.toNat :: x.out, x.e, x.sz, x.left⟩
termination_by l.length
decreasing_by
  all_goals (have := congrArg List.length (cutLine_len _h); simp at this ⊢; omega)

theorem fr_none {size : Int} {l : List UInt8} (h : cutLine l = none) : fr size l = if tooLong l then ⟨[], 12, size, l⟩ else ⟨[], 0, size, l⟩ := by
  rw [fr]; split
  · rfl
  · next h' => rw [h] at h'; cases h'
theorem fr_some {size : Int} {l a r : List UInt8} (h : cutLine l = some (a, r)) : fr size l =
    if 1000 < a.length then ⟨[], 12, size, l⟩
    else if a ≠ [] then
      if lenOf a = -2 then ⟨[], 3, size, l⟩ else fr (if 0 ≤ lenOf a then lenOf a else size) r
    else if size < 0 then ⟨[], 3, size, l⟩
    else if (r.length : Int) < size then ⟨[], 0, size, l⟩
    else ⟨r.take size.toNat :: (fr (-1) (r.drop size.toNat)).out, (fr (-1) (r.drop size.toNat)).e, (fr (-1) (r.drop size.toNat)).sz, (fr (-1) (r.drop size.toNat)).left⟩ := by
  conv => lhs; rw [fr]
  split
  · next h' => rw [h] at h'; cases h'
  · next h' => rw [h] at h'; cases h'; rfl
theorem cutLine_more {l a r : List UInt8} (h : cutLine l = some (a, r)) (b : List UInt8) : cutLine (l ++ b) = some (a, r ++ b) := by
  induction l generalizing a r with
  | nil => cases h
  | cons c t ih =>
    rw [cutLine] at h
    rw [List.cons_append, cutLine]
    split at h
    · next hc =>
      cases h
      cases t with
      | nil => simp at hc
      | cons d t => simp at hc; simp [hc]
    · next hc =>
      cases ht : cutLine t with
      | none => rw [ht] at h; cases h
      | some x =>
        obtain ⟨x, y⟩ := x
        rw [ht] at h
        cases h
        have hc' : ¬ (c = 13 ∧ (t ++ b).head? = some 10) := by
          cases t with
          | nil => cases ht
          | cons d t => simpa using hc
        rw [if_neg hc', ih ht]
/-- Where no line ends, one ends behind it, or at its last byte. -/
theorem cutLine_late {l : List UInt8} (h : cutLine l = none) {b a r : List UInt8} (h' : cutLine (l ++ b) = some (a, r)) : l.length ≤ a.length ∨ (l.length = a.length + 1 ∧ l.getLast? = some 13) := by
  induction l generalizing a r with
  | nil => left; simp
  | cons c t ih =>
    rw [cutLine] at h
    rw [List.cons_append, cutLine] at h'
    split at h
    · cases h
    · next hc =>
      cases ht : cutLine t with
      | some x => rw [ht] at h; cases h
      | none =>
        split at h'
        · next hc' =>
          cases h'
          cases t with
          | nil => right; simp [hc'.1]
          | cons d t => exact absurd hc' (by simpa using hc)
        · cases ht' : cutLine (t ++ b) with
          | none => rw [ht'] at h'; cases h'
          | some x =>
            obtain ⟨x, y⟩ := x
            rw [ht'] at h'
            cases h'
            rcases ih ht ht' with h1 | ⟨h1, h2⟩
            · left; simp; exact h1
            · right
              refine ⟨by simp; exact h1, ?_⟩
              cases t with
              | nil => simp at h2
              | cons d t => rw [List.getLast?_cons_cons]; exact h2
theorem tooLong_more {l : List UInt8} (h : tooLong l) (b : List UInt8) (hb : cutLine (l ++ b) = none) : tooLong (l ++ b) := by
  obtain ⟨h1, h2⟩ := h
  cases b with
  | nil => rw [List.append_nil]; exact ⟨h1, h2⟩
  | cons c t => exact ⟨by simp; omega, .inl (by simp; omega)⟩

/-- How it is cut makes no difference. -/
theorem fr_cut (n : Nat) : ∀ (size : Int) (l b : List UInt8), l.length ≤ n →
    ((fr size l).e = 0 → fr size (l ++ b) = ⟨(fr size l).out ++ (fr (fr size l).sz ((fr size l).left ++ b)).out, (fr (fr size l).sz ((fr size l).left ++ b)).e, (fr (fr size l).sz ((fr size l).left ++ b)).sz, (fr (fr size l).sz ((fr size l).left ++ b)).left⟩) ∧
    ((fr size l).e ≠ 0 → (fr size (l ++ b)).out = (fr size l).out ∧ (fr size (l ++ b)).e = (fr size l).e) := by
  induction n with
  | zero =>
    intro size l b hl
    have : l = [] := List.eq_nil_of_length_eq_zero (by omega)
    subst this
    have : fr size [] = ⟨[], 0, size, []⟩ := by rw [fr_none rfl]; rfl
    rw [this]
    exact ⟨fun _ => rfl, fun h => absurd rfl h⟩
  | succ n ih =>
    intro size l b hl
    cases hc : cutLine l with
    | none =>
      rw [fr_none hc]
      by_cases ht : tooLong l
      · rw [if_pos ht]
        refine ⟨fun h => (by cases h), fun _ => ?_⟩
        cases hb : cutLine (l ++ b) with
        | none => rw [fr_none hb, if_pos (tooLong_more ht b hb)]; exact ⟨rfl, rfl⟩
        | some x =>
          obtain ⟨a, r⟩ := x
          have h1 : 1000 < a.length := by
            obtain ⟨t1, t2⟩ := ht
            rcases cutLine_late hc hb with h | ⟨h, h'⟩
            · omega
            · rcases t2 with t2 | t2
              · omega
              · exact absurd h' t2
          rw [fr_some hb, if_pos h1]
          exact ⟨rfl, rfl⟩
      · rw [if_neg ht]
        exact ⟨fun _ => rfl, fun h => absurd rfl h⟩
    | some x =>
      obtain ⟨a, r⟩ := x
      have hlen := congrArg List.length (cutLine_len hc)
      simp only [List.length_append, List.length_cons] at hlen
      rw [fr_some (cutLine_more hc b), fr_some hc]
      split
      · exact ⟨fun h => (by cases h), fun _ => ⟨rfl, rfl⟩⟩
      next hk =>
      split
      · next ha =>
        split
        · exact ⟨fun h => (by cases h), fun _ => ⟨rfl, rfl⟩⟩
        · exact ih _ r b (by omega)
      next ha =>
      split
      · exact ⟨fun h => (by cases h), fun _ => ⟨rfl, rfl⟩⟩
      next hs =>
      by_cases hr : (r.length : Int) < size
      · rw [if_pos hr]
        refine ⟨fun _ => ?_, fun h => absurd rfl h⟩
        simp only [List.nil_append]
        rw [fr_some (cutLine_more hc b), if_neg hk, if_neg ha, if_neg hs]
      · rw [if_neg hr, if_neg (by simp; omega)]
        have ht : (r ++ b).take size.toNat = r.take size.toNat := List.take_append_of_le_length (by omega)
        have hd : (r ++ b).drop size.toNat = r.drop size.toNat ++ b := List.drop_append_of_le_length (by omega)
        rw [ht, hd]
        obtain ⟨i1, i2⟩ := ih (-1) (r.drop size.toNat) b (by simp; omega)
        refine ⟨fun h => ?_, fun h => ?_⟩
        · have := i1 h
          simp only at this ⊢
          rw [this]
          rfl
        · have := i2 h
          simp only at this ⊢
          rw [this.1, this.2]
          exact ⟨rfl, rfl⟩

/-! ## What is framed comes out -/
def frame (s : List UInt8) : List UInt8 := sLen ++ [58, 32] ++ digs s.length ++ [13, 10, 13, 10] ++ s
theorem cutLine_plain {a : List UInt8} (h : (13 : UInt8) ∉ a) (r : List UInt8) : cutLine (a ++ 13 :: 10 :: r) = some (a, r) := by
  induction a with
  | nil => simp [cutLine]
  | cons c a ih =>
    have h1 : c ≠ 13 := fun e => h (by simp [e])
    have h2 := ih (fun e => h (by simp [e]))
    rw [List.cons_append, cutLine, if_neg (fun e => h1 e.1), h2]
theorem lenOf_frame (n : Nat) (h : n < 10000000000) : lenOf (sLen ++ [58, 32] ++ digs n) = (n : Int) := by
  have h1 : (sLen ++ [58, 32] ++ digs n).dropWhile notColon = 58 :: 32 :: digs n := rfl
  have h2 : (sLen ++ [58, 32] ++ digs n).takeWhile notColon = sLen := rfl
  have h3 : 0 < (digs n).length := List.length_pos_iff.2 (digs_ne n)
  have h4 := digs_len 10 n (by show n < 10000000000; exact h)
  have h5 : (digs n).all isDig = true := List.all_eq_true.2 (digs_dig n)
  unfold lenOf
  rw [h1, h2]
  have e1 : (58 :: 32 :: digs n : List UInt8).drop 2 = digs n := rfl
  have e2 : (58 :: 32 :: digs n : List UInt8).getD 1 0 = 32 := rfl
  rw [e1, e2, if_neg (by simp), if_neg (by simp), if_neg (by rintro (h | h | h) <;> first | omega | exact h rfl), if_pos h5, digs_num]
theorem frame_no13 (n : Nat) : (13 : UInt8) ∉ sLen ++ [58, 32] ++ digs n := by
  intro h
  rcases List.mem_append.1 h with h | h
  · revert h; decide
  · have := digs_dig n 13 h
    revert this; decide
theorem fr_frame {s : List UInt8} (h : s.length < 10000000000) (r : List UInt8) : fr (-1) (frame s ++ r) = ⟨s :: (fr (-1) r).out, (fr (-1) r).e, (fr (-1) r).sz, (fr (-1) r).left⟩ := by
  have e1 : frame s ++ r = (sLen ++ [58, 32] ++ digs s.length) ++ 13 :: 10 :: (13 :: 10 :: (s ++ r)) := by simp [frame]
  have h4 := digs_len 10 s.length (by show _ < 10000000000; exact h)
  have hl : (sLen ++ [58, 32] ++ digs s.length).length ≤ 26 := by simp [sLen]; omega
  rw [e1, fr_some (cutLine_plain (frame_no13 _) _), if_neg (by omega), if_pos (by simp [sLen]), lenOf_frame _ h, if_neg (by omega), if_pos (by omega)]
  have e3 : cutLine (13 :: 10 :: (s ++ r)) = some ([], s ++ r) := cutLine_plain (a := []) (by simp) _
  rw [fr_some e3, if_neg (by simp), if_neg (by simp), if_neg (by omega), if_neg (by simp; omega)]
  have e2 : ((s.length : Int)).toNat = s.length := by omega
  rw [e2, List.take_left, List.drop_left]
theorem fr_frames (l : List (List UInt8)) (h : ∀ s ∈ l, s.length < 10000000000) : fr (-1) (l.flatMap frame) = ⟨l, 0, -1, []⟩ := by
  induction l with
  | nil => rw [List.flatMap_nil, fr_none rfl]; rfl
  | cons s l ih => rw [List.flatMap_cons, fr_frame (h s (by simp)), ih (fun s hs => h s (by simp [hs]))]
end Wi
end Go.Proofs.YthdbnafiindgbaaDoor
