/- Plain mathematics of messages: what the value of a text is. -/
import Derived.Lib.RuneBytes
namespace Go.Proofs.YthdbnafiindgbaaGreatDoor
namespace Wi

/-- A value: its kind, number, text, keys and kids. -/
inductive J where
  | mk (k n : Int) (t : List UInt8) (ks : List (List UInt8)) (kids : List J)

/-- What comes of reading: something, and what is left; or a fault, and how much is left where it is. -/
inductive Res (α : Type) where
  | ok (a : α) (l : List UInt8)
  | bad (e n : Nat)

def isBl (c : UInt8) : Bool := c == 9 || c == 10 || c == 13 || c == 32
def bla (l : List UInt8) : List UInt8 := l.dropWhile isBl
/-- Behind a sign, if it is there. -/
def sign (c : UInt8) (l : List UInt8) : Option (List UInt8) :=
  match bla l with
  | [] => none
  | x :: t => if x = c then some t else none

def hexd (c : UInt8) : Option Nat :=
  if 48 ≤ c.toNat ∧ c.toNat ≤ 57 then some (c.toNat - 48) else if 97 ≤ c.toNat ∧ c.toNat ≤ 102 then some (c.toNat - 87) else if 65 ≤ c.toNat ∧ c.toNat ≤ 70 then some (c.toNat - 55) else none
/-- Four digits of sixteen, the last one first. -/
def hexs : List UInt8 → Option Nat
  | [] => some 0
  | c :: t => match hexs t, hexd c with
    | some n, some d => some (n * 16 + d)
    | _, _ => none
/-- What four digits behind `\u` say. -/
def hx (l : List UInt8) : Option Nat :=
  if 6 ≤ l.length ∧ l.getD 0 0 = 92 ∧ l.getD 1 0 = 117 then hexs ((l.take 6).drop 2).reverse else none
def one (c : UInt8) : Option UInt8 :=
  if c = 34 then some 34 else if c = 92 then some 92 else if c = 47 then some 47 else if c = 98 then some 8 else if c = 102 then some 12 else if c = 110 then some 10 else if c = 114 then some 13 else if c = 116 then some 9 else none
/-- What an escape says that a list begins with, and how long it is. -/
def esc (l : List UInt8) : Option (List UInt8 × Nat) :=
  match (if 1 < l.length then one (l.getD 1 0) else none) with
  | some b => some ([b], 2)
  | none => match hx l with
    | none => none
    | some n =>
      if 55296 ≤ n ∧ n ≤ 56319 then match hx (l.drop 6) with
        | none => none
        | some m => if 56320 ≤ m ∧ m ≤ 57343 then some (Lib.encodeRune ((65536 + (n - 55296) * 1024 + m - 56320 : Nat) : Int), 12) else none
      else if 56320 ≤ n ∧ n ≤ 57343 then none else some (Lib.encodeRune (n : Int), 6)
/-- A text, behind its first quote; so much of it has been read. -/
def txt (a : List UInt8) : List UInt8 → Res (List UInt8)
  | [] => .bad 3 0
  | c :: t =>
    if c = 34 then .ok a t
    else if c.toNat < 32 then .bad 3 (t.length + 1)
    else if c ≠ 92 then txt (a ++ [c]) t
    else match esc (c :: t) with
      | none => .bad 3 (t.length + 1)
      | some (b, k) => txt (a ++ b) (t.drop (k - 1))
termination_by l => l.length
decreasing_by all_goals (simp; try omega)

def isDig (c : UInt8) : Bool := 48 ≤ c.toNat && c.toNat ≤ 57
def numOf (l : List UInt8) : Nat := l.foldl (fun n c => n * 10 + (c.toNat - 48)) 0
/-- A number, with its sign. -/
def numb (l : List UInt8) : Res J :=
  let less := l.head? = some 45
  let b := if less then l.tail else l
  let ds := b.takeWhile isDig
  if ds = [] then .bad 3 b.length
  else if 18 < ds.length ∨ 1 < ds.length ∧ ds.head? = some 48 then .bad 3 l.length
  else .ok (.mk 2 (if less then -(numOf ds : Int) else (numOf ds : Int)) [] [] []) (b.dropWhile isDig)
def word (s : List UInt8) (k n : Int) (l : List UInt8) : Res J :=
  if s.isPrefixOf l then .ok (.mk k n [] [] []) (l.drop s.length) else .bad 3 l.length
/-- A key and its colon, behind other keys. -/
def key (ks : List (List UInt8)) (l : List UInt8) : Res (List (List UInt8)) :=
  match bla l with
  | [] => .bad 3 0
  | c :: t => if c = 34 then match txt [] t with
      | .bad e n => .bad e n
      | .ok k r => if k ∈ ks then .bad 5 (t.length + 1) else match sign 58 r with
        | some r' => .ok (ks ++ [k]) r'
        | none => .bad 3 (bla r).length
    else .bad 3 (t.length + 1)
def keyIf (m : Bool) (ks : List (List UInt8)) (l : List UInt8) : Res (List (List UInt8)) := if m then key ks l else .ok ks l
def lastOf (m : Bool) : UInt8 := if m then 125 else 93
def kindOf (m : Bool) : Int := if m then 5 else 4
/-- The rest of a list or a map: what is ahead of it has been read. -/
def items (v : List UInt8 → Res J) (m : Bool) : Nat → List (List UInt8) → List J → List UInt8 → Res J
  | 0, _, _, _ => .bad 0 0
  | f + 1, ks, kids, l => match keyIf m ks l with
    | .bad e n => .bad e n
    | .ok ks' l1 => match v l1 with
      | .bad e n => .bad e n
      | .ok j l2 => match sign (lastOf m) l2 with
        | some l3 => .ok (.mk (kindOf m) 0 [] ks' (kids ++ [j])) l3
        | none => match sign 44 l2 with
          | some l3 => items v m f ks' (kids ++ [j]) l3
          | none => .bad 3 (bla l2).length
def manyW (v : List UInt8 → Res J) (m : Bool) (t : List UInt8) : Res J :=
  match sign (lastOf m) t with
  | some l => .ok (.mk (kindOf m) 0 [] [] []) l
  | none => items v m (t.length + 1) [] [] t
def sNull : List UInt8 := [110, 117, 108, 108]
def sTrue : List UInt8 := [116, 114, 117, 101]
def sFalse : List UInt8 := [102, 97, 108, 115, 101]
/-- A value that begins here; `m`: of a list or a map. -/
def valW (m : Bool → List UInt8 → Res J) (l : List UInt8) : Res J :=
  match bla l with
  | [] => .bad 3 0
  | c :: t =>
    if c = 110 then word sNull 0 0 (c :: t)
    else if c = 116 then word sTrue 1 1 (c :: t)
    else if c = 102 then word sFalse 1 0 (c :: t)
    else if c = 45 ∨ isDig c = true then numb (c :: t)
    else if c = 34 then match txt [] t with
      | .bad e n => .bad e n
      | .ok s r => .ok (.mk 3 0 s [] []) r
    else if c = 91 ∨ c = 123 then m (c == 123) t
    else .bad 3 (t.length + 1)
/-- A value in which so many may stand within one another. -/
def val : Nat → List UInt8 → Res J
  | 0 => valW fun _ t => .bad 12 (t.length + 1)
  | d + 1 => valW (manyW (val d))
def parse (s : List UInt8) : Res J :=
  match val 40 s with
  | .bad e n => .bad e n
  | .ok j r => match bla r with
    | [] => .ok j []
    | _ :: t => .bad 3 (t.length + 1)

theorem bla_len (l : List UInt8) : (bla l).length ≤ l.length := by
  unfold bla; exact (List.dropWhile_sublist _).length_le
theorem bla_cons {c : UInt8} (h : isBl c = false) (t : List UInt8) : bla (c :: t) = c :: t := by simp [bla, h]
theorem bla_nil : bla [] = [] := rfl
theorem bla_skip {c : UInt8} (h : isBl c = true) (t : List UInt8) : bla (c :: t) = bla t := by simp [bla, h]
theorem bla_head {l : List UInt8} {c : UInt8} {t : List UInt8} (h : bla l = c :: t) : isBl c = false := by
  have := List.head_dropWhile_not (p := isBl) (l := l) (by unfold bla at h; rw [h]; simp)
  unfold bla at h
  simpa [h] using this
theorem bla_blank (l : List UInt8) : bla (bla l) = bla l := by
  cases h : bla l with
  | nil => rfl
  | cons c t => exact bla_cons (bla_head h) t
theorem sign_bla (c : UInt8) (l : List UInt8) : sign c (bla l) = sign c l := by unfold sign; rw [bla_blank]
theorem sign_some {c : UInt8} {l t : List UInt8} : sign c l = some t ↔ bla l = c :: t := by
  unfold sign
  cases h : bla l with
  | nil => simp
  | cons x u =>
    by_cases hx : x = c
    · subst hx; simp
    · simp [hx]
theorem sign_len {c : UInt8} {l t : List UInt8} (h : sign c l = some t) : t.length < l.length := by
  have h1 := sign_some.1 h
  have h2 := bla_len l
  rw [h1] at h2; simp at h2; omega
theorem esc_len {l : List UInt8} {b : List UInt8} {k : Nat} (h : esc l = some (b, k)) : 2 ≤ k ∧ k ≤ l.length := by
  unfold esc at h
  split at h
  · next hb =>
    simp only [Option.some.injEq, Prod.mk.injEq] at h
    split at hb
    · omega
    · cases hb
  · split at h
    · cases h
    · next n hn =>
      have h6 : 6 ≤ l.length := by
        unfold hx at hn; split at hn
        · next hh => exact hh.1
        · cases hn
      split at h
      · split at h
        · cases h
        · next m hm =>
          have h12 : 6 ≤ (l.drop 6).length := by
            unfold hx at hm; split at hm
            · next hh => exact hh.1
            · cases hm
          simp only [List.length_drop] at h12
          split at h
          · simp only [Option.some.injEq, Prod.mk.injEq] at h; omega
          · cases h
      · split at h
        · cases h
        · simp only [Option.some.injEq, Prod.mk.injEq] at h; omega
theorem txt_len (n : Nat) : ∀ (a l : List UInt8), l.length ≤ n → (∀ x r, txt a l = .ok x r → r.length < l.length) ∧ (∀ e k, txt a l = .bad e k → k ≤ l.length ∧ e = 3) := by
  induction n with
  | zero =>
    intro a l h
    have : l = [] := List.eq_nil_of_length_eq_zero (by omega)
    subst this
    rw [txt]
    refine ⟨fun x r h => (by cases h), fun e k h => by cases h; simp⟩
  | succ n ih =>
    intro a l h
    cases l with
    | nil => rw [txt]; exact ⟨fun x r h => (by cases h), fun e k h => by cases h; simp⟩
    | cons c t =>
      have ht : t.length ≤ n := by simpa using h
      rw [txt]
      split
      · exact ⟨fun x r h => (by cases h; simp), fun e k h => by cases h⟩
      split
      · exact ⟨fun x r h => (by cases h), fun e k h => by cases h; simp⟩
      split
      · have := ih (a ++ [c]) t ht
        exact ⟨fun x r h => (by have := this.1 x r h; simp; omega), fun e k h => by have := this.2 e k h; simp; omega⟩
      · split
        · exact ⟨fun x r h => (by cases h), fun e k h => by cases h; simp⟩
        · next b k _ =>
          have := ih (a ++ b) (t.drop (k - 1)) (by simp; omega)
          simp only [List.length_drop] at this
          exact ⟨fun x r h => (by have := this.1 x r h; simp; omega), fun e k h => by have := this.2 e k h; simp; omega⟩
theorem txt_ok {a l x r : List UInt8} (h : txt a l = .ok x r) : r.length < l.length := (txt_len l.length a l (Nat.le_refl _)).1 x r h
theorem txt_bad {a l : List UInt8} {e k : Nat} (h : txt a l = .bad e k) : k ≤ l.length ∧ e = 3 := (txt_len l.length a l (Nat.le_refl _)).2 e k h

/-- What a reading keeps to: what is left is less, and a fault is one, and within. -/
def Keeps {α : Type} (l : List UInt8) (r : Res α) : Prop := (∀ x t, r = .ok x t → t.length < l.length) ∧ ∀ e n, r = .bad e n → n ≤ l.length ∧ (e = 3 ∨ e = 5 ∨ e = 12)
theorem Keeps.bad {α : Type} {l : List UInt8} {e n : Nat} (h : n ≤ l.length) (he : e = 3 ∨ e = 5 ∨ e = 12) : Keeps l (.bad e n : Res α) := ⟨fun x t h => (by cases h), fun e' n' h' => by cases h'; exact ⟨h, he⟩⟩
theorem Keeps.ok {α : Type} {l t : List UInt8} {x : α} (h : t.length < l.length) : Keeps l (.ok x t) := ⟨fun x t h' => (by cases h'; exact h), fun e n h => by cases h⟩
theorem Keeps.mono {α : Type} {l l' : List UInt8} {r : Res α} (h : Keeps l r) (hl : l.length ≤ l'.length) : Keeps l' r :=
  ⟨fun x t e => (by have := h.1 x t e; omega), fun e n he => by have := h.2 e n he; exact ⟨by omega, this.2⟩⟩
theorem txt_keeps (a l : List UInt8) : Keeps l (txt a l) := ⟨fun _ _ h => txt_ok h, fun _ _ h => ⟨(txt_bad h).1, .inl (txt_bad h).2⟩⟩
theorem word_keeps {s : List UInt8} (hs : s ≠ []) (k n : Int) (l : List UInt8) : Keeps l (word s k n l) := by
  unfold word
  split
  · next h =>
    have h1 := (List.isPrefixOf_iff_prefix.1 h).length_le
    have h2 : 0 < s.length := List.length_pos_iff.2 hs
    exact .ok (by simp; omega)
  · exact .bad (Nat.le_refl _) (.inl rfl)
theorem numb_keeps (l : List UInt8) : Keeps l (numb l) := by
  unfold numb
  have hb : (if l.head? = some 45 then l.tail else l).length ≤ l.length := by split <;> simp
  simp only
  generalize (if l.head? = some 45 then l.tail else l) = b at hb ⊢
  split
  · exact .bad hb (.inl rfl)
  split
  · exact .bad (Nat.le_refl _) (.inl rfl)
  · next h1 _ =>
    have h2 : b.takeWhile isDig ++ b.dropWhile isDig = b := List.takeWhile_append_dropWhile
    have h3 := congrArg List.length h2
    have h4 : 0 < (b.takeWhile isDig).length := List.length_pos_iff.2 h1
    rw [List.length_append] at h3
    exact .ok (by omega)
theorem key_keeps (ks : List (List UInt8)) (l : List UInt8) : Keeps l (key ks l) := by
  unfold key
  have hb := bla_len l
  split
  · exact .bad (Nat.zero_le _) (.inl rfl)
  · next c t h =>
    rw [h] at hb; simp only [List.length_cons] at hb
    split
    · have hk := txt_keeps [] t
      split
      · next e n h2 => have := hk.2 e n h2; exact .bad (by omega) this.2
      · next k r h2 =>
        have := hk.1 k r h2
        split
        · exact .bad (by omega) (.inr (.inl rfl))
        split
        · next h3 => have := sign_len h3; exact .ok (by omega)
        · have := bla_len r; exact .bad (by omega) (.inl rfl)
    · exact .bad (by omega) (.inl rfl)
theorem keyIf_len {m : Bool} {ks ks' : List (List UInt8)} {l l' : List UInt8} (h : keyIf m ks l = .ok ks' l') : l'.length ≤ l.length := by
  unfold keyIf at h
  split at h
  · have := (key_keeps ks l).1 _ _ h; omega
  · cases h; exact Nat.le_refl _
theorem keyIf_bad {m : Bool} {ks : List (List UInt8)} {l : List UInt8} {e n : Nat} (h : keyIf m ks l = .bad e n) : n ≤ l.length ∧ (e = 3 ∨ e = 5 ∨ e = 12) := by
  unfold keyIf at h
  split at h
  · exact (key_keeps ks l).2 _ _ h
  · cases h
theorem items_keeps {v : List UInt8 → Res J} (hv : ∀ l, Keeps l (v l)) (m : Bool) (f : Nat) : ∀ ks kids (l : List UInt8), l.length < f → Keeps l (items v m f ks kids l) := by
  induction f with
  | zero => intro _ _ l h; omega
  | succ f ih =>
    intro ks kids l h
    rw [items]
    split
    · next h1 => exact .bad (keyIf_bad h1).1 (keyIf_bad h1).2
    · next ks' l1 h1 =>
      have e1 := keyIf_len h1
      split
      · next h2 => have := (hv l1).2 _ _ h2; exact .bad (by omega) this.2
      · next j l2 h2 =>
        have e2 := (hv l1).1 _ _ h2
        split
        · next h3 => have := sign_len h3; exact .ok (by omega)
        split
        · next h3 => have := sign_len h3; exact (ih _ _ _ (by omega)).mono (by omega)
        · have := bla_len l2; exact .bad (by omega) (.inl rfl)
theorem manyW_keeps {v : List UInt8 → Res J} (hv : ∀ l, Keeps l (v l)) (m : Bool) (t : List UInt8) : Keeps t (manyW v m t) := by
  unfold manyW
  split
  · next h => exact .ok (sign_len h)
  · exact items_keeps hv m _ _ _ _ (by omega)
theorem valW_keeps {m : Bool → List UInt8 → Res J} (hm : ∀ b (c : UInt8) t, Keeps (c :: t) (m b t)) (l : List UInt8) : Keeps l (valW m l) := by
  have hl : ∀ (c : UInt8) (t : List UInt8), t.length + 1 ≤ (c :: t).length := fun c t => Nat.le_refl _
  unfold valW
  have hb := bla_len l
  split
  · exact .bad (Nat.zero_le _) (.inl rfl)
  · next c t h =>
    rw [h] at hb
    refine Keeps.mono ?_ hb
    repeat' split
    all_goals first
      | exact word_keeps (by simp [sNull, sTrue, sFalse]) _ _ _
      | exact numb_keeps _
      | exact hm _ _ _
      | exact .bad (hl _ _) (.inl rfl)
      | (next h2 => exact .bad (by have := (txt_bad h2).1; simp; omega) (.inl (txt_bad h2).2))
      | (next h2 => exact .ok (by have := txt_ok h2; simp; omega))
theorem val_keeps (d : Nat) : ∀ l, Keeps l (val d l) := by
  induction d with
  | zero => exact valW_keeps fun _ _ _ => .bad (Nat.le_refl _) (.inr (.inr rfl))
  | succ d ih => exact valW_keeps fun b c t => (manyW_keeps ih b t).mono (Nat.le_succ _)
end Wi
end Go.Proofs.YthdbnafiindgbaaGreatDoor
