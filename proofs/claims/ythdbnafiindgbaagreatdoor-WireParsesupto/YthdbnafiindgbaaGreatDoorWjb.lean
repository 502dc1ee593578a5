/- Plain mathematics of messages: the text of a value; what is written is read as what it was. -/
import Derived.Test.YthdbnafiindgbaaGreatDoorWja
namespace Go.Proofs.YthdbnafiindgbaaGreatDoor
namespace Wi

def hexc (n : Nat) : UInt8 := if n < 10 then (48 + n).toUInt8 else (87 + n).toUInt8
def quoteB (c : UInt8) : List UInt8 :=
  if c = 34 ∨ c = 92 then [92, c] else if c = 10 then [92, 110] else if c = 13 then [92, 114] else if c = 9 then [92, 116]
  else if c.toNat < 32 then [92, 117, 48, 48, hexc (c.toNat / 16), hexc (c.toNat % 16)] else [c]
def quoteA (s : List UInt8) : List UInt8 := s.flatMap quoteB
def quote (s : List UInt8) : List UInt8 := 34 :: (quoteA s ++ [34])
def digs (n : Nat) : List UInt8 := if n < 10 then [(48 + n).toUInt8] else digs (n / 10) ++ [(48 + n % 10).toUInt8]
def digsZ (n : Int) : List UInt8 := if n < 0 then 45 :: digs n.natAbs else digs n.natAbs

/-- Has a value what its kind has, and nothing else? -/
def ownOk (k n : Int) (t : List UInt8) (ks : List (List UInt8)) (m : Nat) : Bool :=
  if k = 0 then n == 0 && t == [] && ks == [] && m == 0
  else if k = 1 then (n == 0 || n == 1) && t == [] && ks == [] && m == 0
  else if k = 2 then decide (n ≤ 999999999999999999) && decide (-999999999999999999 ≤ n) && t == [] && ks == [] && m == 0
  else if k = 3 then n == 0 && ks == [] && m == 0
  else if k = 4 then n == 0 && t == [] && ks == []
  else if k = 5 then n == 0 && t == [] && ks.length == m
  else false
/-- The kids of a list behind what has been written. -/
def prL (p : J → Except Nat (List UInt8)) : Bool → List J → List UInt8 → Except Nat (List UInt8)
  | _, [], s => .ok s
  | f, j :: r, s => match p j with
    | .error e => .error e
    | .ok x => prL p false r ((if f then s else s ++ [44]) ++ x)
/-- The pairs of a map behind what has been written. -/
def prM (p : J → Except Nat (List UInt8)) : List (List UInt8) → List (List UInt8) → List J → List UInt8 → Except Nat (List UInt8)
  | seen, k :: ks, j :: r, s => if k ∈ seen then .error 5 else match p j with
    | .error e => .error e
    | .ok x => prM p (seen ++ [k]) ks r ((if seen = [] then s else s ++ [44]) ++ (quote k ++ [58]) ++ x)
  | _, _, _, s => .ok s
/-- The text of a value; `m`: of a list or a map. -/
def prW (m : Bool → List (List UInt8) → List J → Except Nat (List UInt8)) : J → Except Nat (List UInt8)
  | .mk k n t ks kids =>
    if ownOk k n t ks kids.length = false then .error 3
    else if k = 0 then .ok sNull
    else if k = 1 then (if n = 1 then .ok sTrue else .ok sFalse)
    else if k = 2 then .ok (digsZ n)
    else if k = 3 then .ok (quote t)
    else m (k == 5) ks kids
def prN (p : J → Except Nat (List UInt8)) (m : Bool) (ks : List (List UInt8)) (kids : List J) : Except Nat (List UInt8) :=
  if m then match prM p [] ks kids [123] with
    | .error e => .error e
    | .ok s => .ok (s ++ [125])
  else match prL p true kids [91] with
    | .error e => .error e
    | .ok s => .ok (s ++ [93])
def pr : Nat → J → Except Nat (List UInt8)
  | 0 => prW fun _ _ _ => .error 12
  | d + 1 => prW (prN (pr d))

/-! ## Texts -/
theorem toNat_inj {a b : UInt8} (h : a.toNat = b.toNat) : a = b := UInt8.toNat_inj.1 h
theorem hexd_hexc : ∀ k : Fin 16, hexd (hexc k.val) = some k.val := by decide
theorem quoteB_read : ∀ c : Fin 256, let b := UInt8.ofNat c.val; (quoteB b = [b] ∧ b ≠ 34 ∧ b ≠ 92 ∧ 32 ≤ b.toNat) ∨ (∃ x, quoteB b = [92, x] ∧ one x = some b) ∨ (quoteB b = [92, 117, 48, 48, hexc (c.val / 16), hexc (c.val % 16)] ∧ c.val < 32) := by
  intro c
  simp only
  by_cases h1 : UInt8.ofNat c.val = 34 ∨ UInt8.ofNat c.val = 92
  · right; left
    exact ⟨UInt8.ofNat c.val, by unfold quoteB; rw [if_pos h1], by rcases h1 with h | h <;> rw [h] <;> rfl⟩
  by_cases h2 : UInt8.ofNat c.val = 10
  · right; left; exact ⟨110, by rw [h2]; rfl, by rw [h2]; rfl⟩
  by_cases h3 : UInt8.ofNat c.val = 13
  · right; left; exact ⟨114, by rw [h3]; rfl, by rw [h3]; rfl⟩
  by_cases h4 : UInt8.ofNat c.val = 9
  · right; left; exact ⟨116, by rw [h4]; rfl, by rw [h4]; rfl⟩
  have hc : (UInt8.ofNat c.val).toNat = c.val := by simp
  by_cases h5 : c.val < 32
  · right; right
    simp only [quoteB, h1, h2, h3, h4, if_false, hc, h5, if_true, and_self]
  · left
    rw [not_or] at h1
    refine ⟨?_, h1.1, h1.2, by omega⟩
    simp only [quoteB, h1.1, h1.2, or_self, h2, h3, h4, if_false, hc, h5]
theorem encode_small (n : Nat) (h : n < 128) : Lib.encodeRune (n : Int) = [UInt8.ofNat n] := by
  revert h
  have : ∀ k : Fin 128, Lib.encodeRune ((k.val : Nat) : Int) = [UInt8.ofNat k.val] := by decide
  intro h; exact this ⟨n, h⟩
theorem esc_one {x b : UInt8} (h : one x = some b) (r : List UInt8) : esc (92 :: x :: r) = some ([b], 2) := by
  simp [esc, h]
theorem one_117 : one 117 = none := by decide
theorem esc_u {a b : Nat} (ha : a < 2) (hb : b < 16) (r : List UInt8) : esc (92 :: 117 :: 48 :: 48 :: hexc a :: hexc b :: r) = some ([UInt8.ofNat (a * 16 + b)], 6) := by
  have h1 := hexd_hexc ⟨a, by omega⟩
  have h2 := hexd_hexc ⟨b, hb⟩
  simp only at h1 h2
  have h0 : hexd 48 = some 0 := by decide
  have hh : hx (92 :: 117 :: 48 :: 48 :: hexc a :: hexc b :: r) = some (a * 16 + b) := by
    simp [hx, hexs, h1, h2, h0]
  simp only [esc, List.length_cons, List.getD_cons_succ, List.getD_cons_zero, one_117, hh]
  have e1 : ¬ (55296 ≤ a * 16 + b ∧ a * 16 + b ≤ 56319) := by omega
  have e2 : ¬ (56320 ≤ a * 16 + b ∧ a * 16 + b ≤ 57343) := by omega
  simp only [e1, e2, if_false, ite_self]
  rw [encode_small _ (by omega)]
theorem txt_quoteB (a : List UInt8) (c : UInt8) (r : List UInt8) : txt a (quoteB c ++ r) = txt (a ++ [c]) r := by
  have h := quoteB_read ⟨c.toNat, c.toNat_lt⟩
  have hc : UInt8.ofNat c.toNat = c := by simp
  simp only [hc] at h
  rcases h with ⟨h, h1, h2, h3⟩ | ⟨x, h, h1⟩ | ⟨h, h1⟩
  · rw [h]
    show txt a (c :: r) = _
    rw [txt]
    simp only [h1, h2, if_false, ne_eq, not_false_eq_true, if_true, show ¬ c.toNat < 32 by omega]
  · rw [h]
    show txt a (92 :: x :: r) = _
    rw [txt]
    rw [esc_one h1]
    simp
  · rw [h]
    show txt a (92 :: 117 :: 48 :: 48 :: hexc (c.toNat / 16) :: hexc (c.toNat % 16) :: r) = _
    rw [txt]
    rw [esc_u (by omega) (by omega)]
    have : c.toNat / 16 * 16 + c.toNat % 16 = c.toNat := by omega
    simp [this]
theorem txt_quoteA (s : List UInt8) : ∀ (a r : List UInt8), txt a (quoteA s ++ 34 :: r) = .ok (a ++ s) r := by
  induction s with
  | nil => intro a r; show txt a (34 :: r) = _; rw [txt]; simp
  | cons c s ih =>
    intro a r
    show txt a ((quoteB c ++ quoteA s) ++ 34 :: r) = _
    rw [List.append_assoc, txt_quoteB, ih]
    simp
theorem txt_quote (s r : List UInt8) : txt [] (quoteA s ++ [34] ++ r) = .ok s r := by
  rw [List.append_assoc]; exact txt_quoteA s [] r

/-! ## Numbers -/
theorem digs_dig (n : Nat) : ∀ c ∈ digs n, isDig c = true := by
  induction n using Nat.strongRecOn with
  | _ n ih =>
    intro c hc
    rw [digs] at hc
    split at hc
    · next h =>
      simp only [List.mem_singleton] at hc
      subst hc
      simp [isDig]; omega
    · next h =>
      rcases List.mem_append.1 hc with hc | hc
      · exact ih (n / 10) (by omega) c hc
      · simp only [List.mem_singleton] at hc
        subst hc
        simp [isDig]; omega
theorem digs_ne (n : Nat) : digs n ≠ [] := by rw [digs]; split <;> simp
theorem digs_num (n : Nat) : numOf (digs n) = n := by
  induction n using Nat.strongRecOn with
  | _ n ih =>
    rw [digs]
    split
    · next h =>
      simp [numOf]; omega
    · next h =>
      have : ((48 + n % 10).toUInt8).toNat = 48 + n % 10 := by simp; omega
      have e := ih (n / 10) (by omega)
      unfold numOf at e ⊢
      rw [List.foldl_append, e]
      simp only [List.foldl_cons, List.foldl_nil, this]
      omega
theorem digs_len (k : Nat) : ∀ n, n < 10 ^ k → (digs n).length ≤ max k 1 := by
  induction k with
  | zero => intro n h; have : n = 0 := by simpa using h
            subst this; rw [digs]; simp
  | succ k ih =>
    intro n h
    rw [digs]
    split
    · simp
    · next h1 =>
      have := ih (n / 10) (by rw [Nat.pow_succ] at h; omega)
      simp only [List.length_append, List.length_singleton]
      by_cases hk : k = 0
      · subst hk; omega
      · omega
theorem head_app {l : List UInt8} (r : List UInt8) (h : l ≠ []) : (l ++ r).head? = l.head? := by
  cases l with
  | nil => exact absurd rfl h
  | cons c t => rfl
theorem digs_head (n : Nat) (h : 1 < (digs n).length) : (digs n).head? ≠ some 48 := by
  induction n using Nat.strongRecOn with
  | _ n ih =>
    rw [digs] at h ⊢
    split
    · next h1 => rw [if_pos h1] at h; simp at h
    · next h1 =>
      rw [if_neg h1] at h
      rw [head_app _ (digs_ne _)]
      by_cases h2 : 1 < (digs (n / 10)).length
      · exact ih (n / 10) (by omega) h2
      · intro h3
        have h4 : n / 10 < 10 := by
          refine Nat.lt_of_not_le fun h5 => h2 ?_
          rw [digs, if_neg (by omega)]
          have := List.length_pos_iff.2 (digs_ne (n / 10 / 10))
          simp only [List.length_append, List.length_singleton]; omega
        rw [digs, if_pos h4] at h3
        simp only [List.head?_cons, Option.some.injEq] at h3
        have : ((48 + n / 10).toUInt8).toNat = 48 + n / 10 := by simp; omega
        rw [h3] at this
        have : (48 : Nat) = 48 + n / 10 := this
        omega
/-- No digit is next. -/
def Stops (r : List UInt8) : Prop := ∀ c t, r = c :: t → isDig c = false
theorem takeWhile_stops {l r : List UInt8} (hl : ∀ c ∈ l, isDig c = true) (hr : Stops r) : (l ++ r).takeWhile isDig = l ∧ (l ++ r).dropWhile isDig = r := by
  have h1 : r.takeWhile isDig = [] := by
    cases r with
    | nil => rfl
    | cons c t => simp [hr c t rfl]
  have h2 : r.dropWhile isDig = r := by
    cases r with
    | nil => rfl
    | cons c t => simp [hr c t rfl]
  rw [List.takeWhile_append_of_pos hl, List.dropWhile_append_of_pos hl, h1, h2]
  simp
theorem head_dig {n : Nat} {c : UInt8} (h : (digs n).head? = some c) : isDig c = true := digs_dig n c (List.mem_of_mem_head? h)
theorem numb_digs {n : Int} (h1 : n ≤ 999999999999999999) (h2 : -999999999999999999 ≤ n) {r : List UInt8} (hr : Stops r) : numb (digsZ n ++ r) = .ok (.mk 2 n [] [] []) r := by
  have hlen : ¬ (18 < (digs n.natAbs).length ∨ 1 < (digs n.natAbs).length ∧ (digs n.natAbs).head? = some 48) := by
    have e1 := digs_len 18 n.natAbs (by show _ < 1000000000000000000; omega)
    have e2 := digs_head n.natAbs
    rintro (h | ⟨h, h'⟩)
    · omega
    · exact e2 h h'
  obtain ⟨t1, t2⟩ := takeWhile_stops (digs_dig n.natAbs) hr
  by_cases hn : n < 0
  · have e : digsZ n = 45 :: digs n.natAbs := by simp [digsZ, hn]
    rw [e]
    unfold numb
    simp only [List.cons_append, List.head?_cons, if_true, List.tail_cons, t1, t2, digs_ne, if_false, hlen, digs_num]
    congr 2; omega
  · have e : digsZ n = digs n.natAbs := by simp [digsZ, hn]
    rw [e]
    have hh : ¬ ((digs n.natAbs ++ r).head? = some 45) := by
      rw [head_app _ (digs_ne _)]
      intro h
      have := head_dig h
      revert this; decide
    unfold numb
    simp only [hh, if_false, t1, t2, digs_ne, hlen, digs_num]
    congr 2; omega
end Wi
end Go.Proofs.YthdbnafiindgbaaGreatDoor
