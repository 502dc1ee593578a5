/- Plain mathematics of messages: written and read is the same; what was read can be written. -/
import Derived.Test.YthdbnafiindgbaaDoorWjb
namespace Go.Proofs.YthdbnafiindgbaaDoor
namespace Wi

theorem prL_acc (p : J → Except Nat (List UInt8)) (kids : List J) : ∀ (f : Bool) (a : List UInt8), prL p f kids a = match prL p f kids [] with
    | .error e => .error e
    | .ok y => .ok (a ++ y) := by
  induction kids with
  | nil => intro f a; simp [prL]
  | cons j r ih =>
    intro f a
    simp only [prL]
    cases p j with
    | error e => rfl
    | ok x =>
      simp only
      rw [ih false ((if f then a else a ++ [44]) ++ x), ih false ((if f then [] else [] ++ [44]) ++ x)]
      cases prL p false r [] with
      | error e => rfl
      | ok y => cases f <;> simp
theorem prL_cons {p : J → Except Nat (List UInt8)} {f : Bool} {j : J} {kids : List J} {a s : List UInt8} (h : prL p f (j :: kids) a = .ok s) :
    ∃ x y, p j = .ok x ∧ prL p false kids [] = .ok y ∧ s = (if f then a else a ++ [44]) ++ x ++ y := by
  simp only [prL] at h
  cases hp : p j with
  | error e => rw [hp] at h; cases h
  | ok x =>
    rw [hp] at h
    simp only at h
    rw [prL_acc] at h
    cases hy : prL p false kids [] with
    | error e => rw [hy] at h; cases h
    | ok y => rw [hy] at h; cases h; exact ⟨x, y, rfl, rfl, rfl⟩
theorem prM_acc (p : J → Except Nat (List UInt8)) (kids : List J) : ∀ (ks seen : List (List UInt8)) (a : List UInt8), prM p seen ks kids a = match prM p seen ks kids [] with
    | .error e => .error e
    | .ok y => .ok (a ++ y) := by
  induction kids with
  | nil => intro ks seen a; cases ks <;> simp [prM]
  | cons j r ih =>
    intro ks seen a
    cases ks with
    | nil => simp [prM]
    | cons k ks =>
      simp only [prM]
      by_cases hk : k ∈ seen
      · simp [hk]
      simp only [hk, if_false]
      cases p j with
      | error e => rfl
      | ok x =>
        simp only
        rw [ih ks (seen ++ [k]) ((if seen = [] then a else a ++ [44]) ++ (quote k ++ [58]) ++ x), ih ks (seen ++ [k]) ((if seen = [] then [] else [] ++ [44]) ++ (quote k ++ [58]) ++ x)]
        cases prM p (seen ++ [k]) ks r [] with
        | error e => rfl
        | ok y => by_cases hs : seen = [] <;> simp [hs]
theorem prM_cons {p : J → Except Nat (List UInt8)} {seen ks : List (List UInt8)} {k : List UInt8} {j : J} {kids : List J} {a s : List UInt8} (h : prM p seen (k :: ks) (j :: kids) a = .ok s) :
    k ∉ seen ∧ ∃ x y, p j = .ok x ∧ prM p (seen ++ [k]) ks kids [] = .ok y ∧ s = (if seen = [] then a else a ++ [44]) ++ (quote k ++ [58]) ++ x ++ y := by
  simp only [prM] at h
  by_cases hk : k ∈ seen
  · simp [hk] at h
  refine ⟨hk, ?_⟩
  simp only [hk, if_false] at h
  cases hp : p j with
  | error e => rw [hp] at h; cases h
  | ok x =>
    rw [hp] at h
    simp only at h
    rw [prM_acc] at h
    cases hy : prM p (seen ++ [k]) ks kids [] with
    | error e => rw [hy] at h; cases h
    | ok y => rw [hy] at h; cases h; exact ⟨x, y, rfl, rfl, rfl⟩

/-- It begins with no bla and ends nothing. -/
def Fst (s : List UInt8) : Prop := ∃ c t, s = c :: t ∧ isBl c = false ∧ c ≠ 93 ∧ c ≠ 125
/-- What one writes the other reads. -/
def Reads (v : List UInt8 → Res J) (p : J → Except Nat (List UInt8)) : Prop := ∀ j s, p j = .ok s → Fst s ∧ ∀ r, Stops r → v (s ++ r) = .ok j r

theorem stops_cons {c : UInt8} (h : isDig c = false) (t : List UInt8) : Stops (c :: t) := fun _ _ e => by cases e; exact h
theorem stops_nil : Stops [] := fun _ _ e => by cases e

theorem items_list {v : List UInt8 → Res J} {p : J → Except Nat (List UInt8)} (hv : Reads v p) (rest : List J) :
    ∀ (y : List UInt8), prL p false rest [] = .ok y → ∀ (j : J) (x : List UInt8), p j = .ok x → ∀ (r : List UInt8) (f : Nat) (kids : List J), (x ++ (y ++ 93 :: r)).length < f → items v false f [] kids (x ++ (y ++ 93 :: r)) = .ok (.mk 4 0 [] [] (kids ++ j :: rest)) r := by
  induction rest with
  | nil =>
    intro y hy j x hx r f kids hf
    cases hy
    obtain ⟨f, rfl⟩ : ∃ g, f = g + 1 := ⟨f - 1, by omega⟩
    rw [items]
    simp only [keyIf, Bool.false_eq_true, if_false, List.nil_append]
    rw [(hv j x hx).2 _ (stops_cons (by decide) r)]
    have hs : sign (lastOf false) (93 :: r) = some r := sign_some.2 (bla_cons (by decide) r)
    simp only [hs, kindOf]
    rfl
  | cons j2 rest ih =>
    intro y hy j x hx r f kids hf
    obtain ⟨x2, y2, h1, h2, rfl⟩ := prL_cons hy
    simp only [List.nil_append, Bool.false_eq_true, if_false] at hf ⊢
    obtain ⟨f, rfl⟩ : ∃ g, f = g + 1 := ⟨f - 1, by omega⟩
    rw [items]
    simp only [keyIf, Bool.false_eq_true, if_false, List.append_assoc, List.cons_append, List.nil_append] at hf ⊢
    rw [(hv j x hx).2 _ (stops_cons (by decide) _)]
    have hb : bla (44 :: (x2 ++ (y2 ++ 93 :: r))) = 44 :: (x2 ++ (y2 ++ 93 :: r)) := bla_cons (by decide) _
    have hs : sign (lastOf false) (44 :: (x2 ++ (y2 ++ 93 :: r))) = none := by simp [sign, hb, lastOf]
    have hc : sign 44 (44 :: (x2 ++ (y2 ++ 93 :: r))) = some (x2 ++ (y2 ++ 93 :: r)) := sign_some.2 hb
    simp only [hs, hc]
    rw [ih y2 h2 j2 x2 h1 r f (kids ++ [j]) (by simp at hf ⊢; omega)]
    simp
theorem key_quote {seen : List (List UInt8)} {k : List UInt8} (h : k ∉ seen) (r : List UInt8) : key seen (quote k ++ [58] ++ r) = .ok (seen ++ [k]) r := by
  have e : quote k ++ [58] ++ r = 34 :: (quoteA k ++ [34] ++ (58 :: r)) := by simp [quote]
  have hb : bla (34 :: (quoteA k ++ [34] ++ (58 :: r))) = 34 :: (quoteA k ++ [34] ++ (58 :: r)) := bla_cons (by decide) _
  have hs : sign 58 (58 :: r) = some r := sign_some.2 (bla_cons (by decide) r)
  rw [e]
  unfold key
  rw [hb]
  simp only [if_true, txt_quote, h, if_false, hs]
theorem items_map {v : List UInt8 → Res J} {p : J → Except Nat (List UInt8)} (hv : Reads v p) (rest : List J) :
    ∀ (seen ks : List (List UInt8)) (k y : List UInt8), k ∉ seen → ks.length = rest.length → prM p (seen ++ [k]) ks rest [] = .ok y → ∀ (j : J) (x : List UInt8), p j = .ok x → ∀ (r : List UInt8) (f : Nat) (kids : List J), (quote k ++ [58] ++ (x ++ (y ++ 125 :: r))).length < f →
      items v true f seen kids (quote k ++ [58] ++ (x ++ (y ++ 125 :: r))) = .ok (.mk 5 0 [] (seen ++ k :: ks) (kids ++ j :: rest)) r := by
  induction rest with
  | nil =>
    intro seen ks k y hk hl hy j x hx r f kids hf
    have : ks = [] := List.eq_nil_of_length_eq_zero (by simpa using hl)
    subst this
    cases hy
    obtain ⟨f, rfl⟩ : ∃ g, f = g + 1 := ⟨f - 1, by omega⟩
    rw [items]
    simp only [keyIf, if_true, List.nil_append]
    rw [key_quote hk]
    simp only
    rw [(hv j x hx).2 _ (stops_cons (by decide) r)]
    have hs : sign (lastOf true) (125 :: r) = some r := sign_some.2 (bla_cons (by decide) r)
    simp only [hs, kindOf]
    rfl
  | cons j2 rest ih =>
    intro seen ks k y hk hl hy j x hx r f kids hf
    cases ks with
    | nil => simp at hl
    | cons k2 ks =>
      obtain ⟨hk2, x2, y2, h1, h2, rfl⟩ := prM_cons hy
      have hne : ¬ (seen ++ [k] = []) := by simp
      obtain ⟨f, rfl⟩ : ∃ g, f = g + 1 := ⟨f - 1, by omega⟩
      rw [items]
      simp only [keyIf, if_true]
      rw [key_quote hk]
      simp only [hne, if_false]
      have e : (([] ++ [44] ++ (quote k2 ++ [58]) ++ x2 ++ y2) ++ 125 :: r : List UInt8) = 44 :: (quote k2 ++ [58] ++ (x2 ++ (y2 ++ 125 :: r))) := by simp
      simp only [hne, if_false] at hf
      rw [e] at hf ⊢
      rw [(hv j x hx).2 _ (stops_cons (by decide) _)]
      have hb : bla (44 :: (quote k2 ++ [58] ++ (x2 ++ (y2 ++ 125 :: r)))) = 44 :: (quote k2 ++ [58] ++ (x2 ++ (y2 ++ 125 :: r))) := bla_cons (by decide) _
      have hs : sign (lastOf true) (44 :: (quote k2 ++ [58] ++ (x2 ++ (y2 ++ 125 :: r)))) = none := by unfold sign; rw [hb]; simp [lastOf]
      have hc : sign 44 (44 :: (quote k2 ++ [58] ++ (x2 ++ (y2 ++ 125 :: r)))) = some (quote k2 ++ [58] ++ (x2 ++ (y2 ++ 125 :: r))) := sign_some.2 hb
      simp only [hs, hc]
      rw [ih (seen ++ [k]) ks k2 y2 hk2 (by simpa using hl) h2 j2 x2 h1 r f (kids ++ [j]) (by simp at hf ⊢; omega)]
      simp

theorem sign_fst {c : UInt8} {s : List UInt8} (h : Fst s) (hc : c = 93 ∨ c = 125) (r : List UInt8) : sign c (s ++ r) = none := by
  obtain ⟨x, t, rfl, h1, h2, h3⟩ := h
  unfold sign
  rw [List.cons_append, bla_cons h1]
  have : x ≠ c := by rcases hc with rfl | rfl <;> assumption
  simp [this]
theorem many_reads {v : List UInt8 → Res J} {p : J → Except Nat (List UInt8)} (hv : Reads v p) {m : Bool} {ks : List (List UInt8)} {kids : List J} {s : List UInt8} (h : prN p m ks kids = .ok s) (hks : if m then ks.length = kids.length else ks = []) :
    ∃ t, s = (if m then 123 else 91) :: t ∧ ∀ r, manyW v m (t ++ r) = .ok (.mk (kindOf m) 0 [] ks kids) r := by
  unfold prN at h
  cases m with
  | true =>
    simp only [if_true] at h hks
    cases hp : prM p [] ks kids [123] with
    | error e => rw [hp] at h; cases h
    | ok s' =>
      rw [hp] at h
      cases h
      cases kids with
      | nil =>
        have : ks = [] := List.eq_nil_of_length_eq_zero (by simpa using hks)
        subst this
        cases hp
        refine ⟨[125], rfl, fun r => ?_⟩
        have hs : sign (lastOf true) ([125] ++ r) = some r := sign_some.2 (bla_cons (by decide) r)
        unfold manyW
        rw [hs]
      | cons j kids =>
        cases ks with
        | nil => simp at hks
        | cons k ks =>
          obtain ⟨hk, x, y, h1, h2, rfl⟩ := prM_cons hp
          simp only [if_true]
          refine ⟨quote k ++ [58] ++ x ++ y ++ [125], by simp, fun r => ?_⟩
          have e : quote k ++ [58] ++ x ++ y ++ [125] ++ r = quote k ++ [58] ++ (x ++ (y ++ 125 :: r)) := by simp
          rw [e]
          have hs : sign (lastOf true) (quote k ++ [58] ++ (x ++ (y ++ 125 :: r))) = none := by
            rw [List.append_assoc]
            exact sign_fst ⟨34, quoteA k ++ [34], rfl, by decide, by decide, by decide⟩ (.inr rfl) _
          unfold manyW
          rw [hs]
          simp only
          have := items_map hv kids [] ks k y hk (by simpa using hks) h2 j x h1 r ((quote k ++ [58] ++ (x ++ (y ++ 125 :: r))).length + 1) [] (by omega)
          rw [this]; rfl
  | false =>
    simp only [Bool.false_eq_true, if_false] at h hks
    subst hks
    cases hp : prL p true kids [91] with
    | error e => rw [hp] at h; cases h
    | ok s' =>
      rw [hp] at h
      cases h
      cases kids with
      | nil =>
        cases hp
        refine ⟨[93], rfl, fun r => ?_⟩
        have hs : sign (lastOf false) ([93] ++ r) = some r := sign_some.2 (bla_cons (by decide) r)
        unfold manyW
        rw [hs]
      | cons j kids =>
        obtain ⟨x, y, h1, h2, rfl⟩ := prL_cons hp
        simp only [if_true, Bool.false_eq_true, if_false]
        refine ⟨x ++ y ++ [93], by simp, fun r => ?_⟩
        have e : x ++ y ++ [93] ++ r = x ++ (y ++ 93 :: r) := by simp
        rw [e]
        have hs : sign (lastOf false) (x ++ (y ++ 93 :: r)) = none := sign_fst (hv j x h1).1 (.inl rfl) _
        unfold manyW
        rw [hs]
        simp only
        have := items_list hv kids y h2 j x h1 r ((x ++ (y ++ 93 :: r)).length + 1) [] (by omega)
        rw [this]; rfl

theorem digsZ_head (n : Int) : ∃ c t, digsZ n = c :: t ∧ (c = 45 ∨ isDig c = true) := by
  unfold digsZ
  split
  · exact ⟨45, _, rfl, .inl rfl⟩
  · cases h : digs n.natAbs with
    | nil => exact absurd h (digs_ne _)
    | cons c t => exact ⟨c, t, rfl, .inr (digs_dig n.natAbs c (by rw [h]; simp))⟩
theorem numc {c : UInt8} (h : c = 45 ∨ isDig c = true) : isBl c = false ∧ c ≠ 93 ∧ c ≠ 125 ∧ c ≠ 110 ∧ c ≠ 116 ∧ c ≠ 102 := by
  rcases h with rfl | h
  · decide
  · refine ⟨?_, ?_, ?_, ?_, ?_, ?_⟩
    · simp only [isDig, Bool.and_eq_true, decide_eq_true_eq] at h
      simp only [isBl, Bool.or_eq_false_iff, beq_eq_false_iff_ne, ne_eq]
      refine ⟨⟨⟨?_, ?_⟩, ?_⟩, ?_⟩ <;> (rintro rfl; revert h; decide)
    all_goals (rintro rfl; revert h; decide)
theorem val_word {m : Bool → List UInt8 → Res J} (r : List UInt8) : valW m (sNull ++ r) = .ok (.mk 0 0 [] [] []) r ∧ valW m (sTrue ++ r) = .ok (.mk 1 1 [] [] []) r ∧ valW m (sFalse ++ r) = .ok (.mk 1 0 [] [] []) r := by
  refine ⟨?_, ?_, ?_⟩
  · show valW m (110 :: 117 :: 108 :: 108 :: r) = _
    unfold valW
    rw [bla_cons (by decide)]
    simp [word, sNull]
  · show valW m (116 :: 114 :: 117 :: 101 :: r) = _
    unfold valW
    rw [bla_cons (by decide)]
    simp [word, sTrue]
  · show valW m (102 :: 97 :: 108 :: 115 :: 101 :: r) = _
    unfold valW
    rw [bla_cons (by decide)]
    simp [word, sFalse]
theorem reads_W {m : Bool → List UInt8 → Res J} {q : Bool → List (List UInt8) → List J → Except Nat (List UInt8)}
    (hm : ∀ b ks kids s, q b ks kids = .ok s → (if b then ks.length = kids.length else ks = []) → ∃ t, s = (if b then 123 else 91) :: t ∧ ∀ r, m b (t ++ r) = .ok (.mk (kindOf b) 0 [] ks kids) r) : Reads (valW m) (prW q) := by
  rintro ⟨k, n, t, ks, kids⟩ s h
  simp only [prW] at h
  by_cases ho : ownOk k n t ks kids.length = false
  · simp [ho] at h
  rw [if_neg ho] at h
  simp only [Bool.not_eq_false] at ho
  unfold ownOk at ho
  by_cases h0 : k = 0
  · subst h0
    simp at ho h
    obtain ⟨⟨⟨rfl, rfl⟩, rfl⟩, rfl⟩ := ho
    subst h
    exact ⟨⟨110, _, rfl, by decide, by decide, by decide⟩, fun r _ => (val_word r).1⟩
  rw [if_neg h0] at ho h
  by_cases h1 : k = 1
  · subst h1
    simp at ho h
    obtain ⟨⟨⟨hn, rfl⟩, rfl⟩, rfl⟩ := ho
    rcases hn with rfl | rfl
    · simp at h; subst h
      exact ⟨⟨102, _, rfl, by decide, by decide, by decide⟩, fun r _ => (val_word r).2.2⟩
    · simp at h; subst h
      exact ⟨⟨116, _, rfl, by decide, by decide, by decide⟩, fun r _ => (val_word r).2.1⟩
  rw [if_neg h1] at ho h
  by_cases h2 : k = 2
  · subst h2
    simp at ho h
    obtain ⟨⟨⟨⟨hn1, hn2⟩, rfl⟩, rfl⟩, rfl⟩ := ho
    subst h
    obtain ⟨c, u, e, hc⟩ := digsZ_head n
    have hcc := numc hc
    refine ⟨⟨c, u, e, hcc.1, hcc.2.1, hcc.2.2.1⟩, fun r hr => ?_⟩
    have hv := numb_digs hn1 hn2 hr
    rw [e] at hv ⊢
    unfold valW
    rw [List.cons_append, bla_cons hcc.1]
    simp only [hcc.2.2.2.1, hcc.2.2.2.2.1, hcc.2.2.2.2.2, if_false, hc, if_true]
    exact hv
  rw [if_neg h2] at ho h
  by_cases h3 : k = 3
  · subst h3
    simp at ho h
    obtain ⟨⟨rfl, rfl⟩, rfl⟩ := ho
    subst h
    refine ⟨⟨34, _, rfl, by decide, by decide, by decide⟩, fun r _ => ?_⟩
    unfold valW
    rw [show quote t ++ r = 34 :: (quoteA t ++ [34] ++ r) by simp [quote], bla_cons (by decide)]
    simp only [txt_quote]
    rfl
  rw [if_neg h3] at ho h
  have hk : k = 4 ∨ k = 5 := by
    by_cases h4 : k = 4
    · exact .inl h4
    by_cases h5 : k = 5
    · exact .inr h5
    rw [if_neg h4, if_neg h5] at ho; cases ho
  rcases hk with rfl | rfl
  · simp at ho
    obtain ⟨⟨rfl, rfl⟩, rfl⟩ := ho
    obtain ⟨u, rfl, hu⟩ := hm false [] kids s h rfl
    refine ⟨⟨91, u, rfl, by decide, by decide, by decide⟩, fun r _ => ?_⟩
    unfold valW
    rw [show (if false = true then 123 else 91 : UInt8) :: u ++ r = 91 :: (u ++ r) from rfl, bla_cons (by decide)]
    exact hu r
  · simp at ho
    obtain ⟨⟨rfl, rfl⟩, hl⟩ := ho
    obtain ⟨u, rfl, hu⟩ := hm true ks kids s h hl
    refine ⟨⟨123, u, rfl, by decide, by decide, by decide⟩, fun r _ => ?_⟩
    unfold valW
    rw [show (if true = true then 123 else 91 : UInt8) :: u ++ r = 123 :: (u ++ r) from rfl, bla_cons (by decide)]
    exact hu r
/-- Written and read is the same. -/
theorem reads (d : Nat) : Reads (val d) (pr d) := by
  induction d with
  | zero => exact reads_W (fun b ks kids s h => by cases h)
  | succ d ih => exact reads_W (fun b ks kids s h hk => many_reads ih h hk)
theorem parse_pr {j : J} {s : List UInt8} (h : pr 40 j = .ok s) : parse s = .ok j [] := by
  have := (reads 40 j s h).2 [] stops_nil
  rw [List.append_nil] at this
  unfold parse
  rw [this]
  rfl

/-! ## What was read can be written -/
theorem foldl_lt (l : List UInt8) (hl : ∀ c ∈ l, isDig c = true) : ∀ a : Nat, l.foldl (fun n c => n * 10 + (c.toNat - 48)) a < (a + 1) * 10 ^ l.length := by
  induction l with
  | nil => intro a; simp
  | cons c l ih =>
    intro a
    have hc := hl c (by simp)
    simp only [isDig, Bool.and_eq_true, decide_eq_true_eq] at hc
    have := ih (fun c h => hl c (by simp [h])) (a * 10 + (c.toNat - 48))
    simp only [List.foldl_cons, List.length_cons]
    refine Nat.lt_of_lt_of_le this ?_
    rw [Nat.pow_succ, ← Nat.mul_assoc, Nat.mul_right_comm]
    exact Nat.mul_le_mul_right _ (by omega)
theorem numOf_lt {l : List UInt8} (hl : ∀ c ∈ l, isDig c = true) (h : l.length ≤ 18) : numOf l < 1000000000000000000 := by
  have h1 := foldl_lt l hl 0
  have h2 : 10 ^ l.length ≤ 10 ^ 18 := Nat.pow_le_pow_right (by decide) h
  unfold numOf
  have h3 : (10 : Nat) ^ 18 = 1000000000000000000 := by decide
  omega
/-- It can be written. -/
def Wr (p : J → Except Nat (List UInt8)) (j : J) : Prop := ∃ s, p j = .ok s
theorem wr_num (q : Bool → List (List UInt8) → List J → Except Nat (List UInt8)) {n : Int} (h1 : n ≤ 999999999999999999) (h2 : -999999999999999999 ≤ n) : Wr (prW q) (.mk 2 n [] [] []) := by
  refine ⟨digsZ n, ?_⟩
  simp only [prW]
  rw [if_neg]
  · rfl
  · simp [ownOk, h1, h2]
theorem numb_writes {l r : List UInt8} {j : J} (h : numb l = .ok j r) (q : Bool → List (List UInt8) → List J → Except Nat (List UInt8)) : Wr (prW q) j := by
  unfold numb at h
  simp only at h
  generalize (if l.head? = some 45 then l.tail else l) = b at h
  split at h
  · cases h
  split at h
  · cases h
  · next h1 h2 =>
    have h3 : ∀ c ∈ b.takeWhile isDig, isDig c = true := fun c hc => List.all_eq_true.1 List.all_takeWhile c hc
    have h4 := numOf_lt h3 (by omega)
    cases h
    exact wr_num q (by split <;> omega) (by split <;> omega)
theorem prL_all {p : J → Except Nat (List UInt8)} (kids : List J) (h : ∀ j ∈ kids, Wr p j) : ∀ f a, ∃ s, prL p f kids a = .ok s := by
  induction kids with
  | nil => intro f a; exact ⟨a, rfl⟩
  | cons j r ih =>
    intro f a
    obtain ⟨x, hx⟩ := h j (by simp)
    simp only [prL, hx]
    exact ih (fun j hj => h j (by simp [hj])) _ _
theorem prM_all {p : J → Except Nat (List UInt8)} (kids : List J) (h : ∀ j ∈ kids, Wr p j) : ∀ (ks seen : List (List UInt8)) a, ks.length = kids.length → (seen ++ ks).Nodup → ∃ s, prM p seen ks kids a = .ok s := by
  induction kids with
  | nil => intro ks seen a hl _; have : ks = [] := List.eq_nil_of_length_eq_zero (by simpa using hl)
           subst this; exact ⟨a, rfl⟩
  | cons j r ih =>
    intro ks seen a hl hn
    cases ks with
    | nil => simp at hl
    | cons k ks =>
      obtain ⟨x, hx⟩ := h j (by simp)
      have hk : k ∉ seen := by
        rw [List.nodup_append] at hn
        intro hk
        exact hn.2.2 k hk k (by simp) rfl
      simp only [prM, hk, if_false, hx]
      exact ih (fun j hj => h j (by simp [hj])) _ _ _ (by simpa using hl) (by simpa using hn)
/-- What a list or a map is that has been read. -/
def Md (p : J → Except Nat (List UInt8)) (m : Bool) (ks : List (List UInt8)) (kids : List J) : Prop := (∀ j ∈ kids, Wr p j) ∧ ks.Nodup ∧ (if m then ks.length = kids.length else ks = [])
theorem key_nodup {ks ks' : List (List UInt8)} {l r : List UInt8} (h : key ks l = .ok ks' r) : ∃ k, k ∉ ks ∧ ks' = ks ++ [k] := by
  unfold key at h
  split at h
  · cases h
  split at h
  · split at h
    · cases h
    · next k r' _ =>
      split at h
      · cases h
      · next hk =>
        split at h
        · cases h; exact ⟨k, hk, rfl⟩
        · cases h
  · cases h
theorem items_md {v : List UInt8 → Res J} {p : J → Except Nat (List UInt8)} (hv : ∀ l j r, v l = .ok j r → Wr p j) (m : Bool) (f : Nat) : ∀ ks kids (l r : List UInt8) j, Md p m ks kids → items v m f ks kids l = .ok j r → ∃ ks' kids', j = .mk (kindOf m) 0 [] ks' kids' ∧ Md p m ks' kids' := by
  induction f with
  | zero => intro ks kids l r j _ h; cases h
  | succ f ih =>
    intro ks kids l r j hm h
    rw [items] at h
    split at h
    · cases h
    · next ks' l1 h1 =>
      split at h
      · cases h
      · next j1 l2 h2 =>
        have hm' : Md p m ks' (kids ++ [j1]) := by
          obtain ⟨a1, a2, a3⟩ := hm
          refine ⟨?_, ?_, ?_⟩
          · intro x hx
            rcases List.mem_append.1 hx with hx | hx
            · exact a1 x hx
            · rw [List.mem_singleton.1 hx]; exact hv _ _ _ h2
          · unfold keyIf at h1
            split at h1
            · obtain ⟨k, hk, rfl⟩ := key_nodup h1
              rw [List.nodup_append]
              refine ⟨a2, by simp, ?_⟩
              intro a ha b hb
              rw [List.mem_singleton.1 hb]
              rintro rfl; exact hk ha
            · cases h1; exact a2
          · unfold keyIf at h1
            cases m with
            | true =>
              simp only [if_true] at h1 a3 ⊢
              obtain ⟨k, hk, rfl⟩ := key_nodup h1
              simp [a3]
            | false =>
              simp only [Bool.false_eq_true, if_false] at h1 a3 ⊢
              cases h1; exact a3
        split at h
        · cases h; exact ⟨_, _, rfl, hm'⟩
        split at h
        · exact ih _ _ _ _ _ hm' h
        · cases h
theorem many_writes {v : List UInt8 → Res J} {p : J → Except Nat (List UInt8)} (hv : ∀ l j r, v l = .ok j r → Wr p j) {m : Bool} {t r : List UInt8} {j : J} (h : manyW v m t = .ok j r) : Wr (prW (prN p)) j := by
  have hj : ∃ ks' kids', j = .mk (kindOf m) 0 [] ks' kids' ∧ Md p m ks' kids' := by
    unfold manyW at h
    split at h
    · cases h; exact ⟨[], [], rfl, by simp, by simp, by cases m <;> simp⟩
    · exact items_md hv m _ [] [] t r j ⟨by simp, by simp, by cases m <;> simp⟩ h
  obtain ⟨ks, kids, rfl, a1, a2, a3⟩ := hj
  cases m with
  | true =>
    simp only [if_true] at a3
    obtain ⟨s, hs⟩ := prM_all kids a1 ks [] [123] a3 (by simpa using a2)
    refine ⟨s ++ [125], ?_⟩
    simp only [prW, kindOf, if_true]
    rw [if_neg (by simp [ownOk, a3])]
    simp [prN, hs]
  | false =>
    simp only [Bool.false_eq_true, if_false] at a3
    subst a3
    obtain ⟨s, hs⟩ := prL_all kids a1 true [91]
    refine ⟨s ++ [93], ?_⟩
    simp only [prW, kindOf, Bool.false_eq_true, if_false]
    rw [if_neg (by simp [ownOk])]
    simp [prN, hs]
theorem valW_writes {m : Bool → List UInt8 → Res J} {q : Bool → List (List UInt8) → List J → Except Nat (List UInt8)} (hm : ∀ b t j r, m b t = .ok j r → Wr (prW q) j) {l r : List UInt8} {j : J} (h : valW m l = .ok j r) : Wr (prW q) j := by
  unfold valW at h
  have hw : ∀ {s : List UInt8} {k n : Int} {l : List UInt8}, word s k n l = .ok j r → j = .mk k n [] [] [] := by
    intro s k n l h
    unfold word at h
    split at h
    · cases h; rfl
    · cases h
  split at h
  · cases h
  split at h
  · cases hw h; exact ⟨_, rfl⟩
  split at h
  · cases hw h; exact ⟨_, rfl⟩
  split at h
  · cases hw h; exact ⟨_, rfl⟩
  split at h
  · exact numb_writes h q
  split at h
  · split at h
    · cases h
    · cases h; exact ⟨_, rfl⟩
  split at h
  · exact hm _ _ _ _ h
  · cases h
theorem writes (d : Nat) : ∀ l j r, val d l = .ok j r → Wr (pr d) j := by
  induction d with
  | zero => intro l j r h; exact valW_writes (m := fun _ t => .bad 12 (t.length + 1)) (q := fun _ _ _ => .error 12) (fun b t j r h => by cases h) h
  | succ d ih => intro l j r h; exact valW_writes (m := manyW (val d)) (q := prN (pr d)) (fun b t j r h => many_writes ih h) h
theorem parse_writes {s : List UInt8} {j : J} {r : List UInt8} (h : parse s = .ok j r) : Wr (pr 40) j := by
  unfold parse at h
  split at h
  · cases h
  · next hv =>
    split at h
    · cases h; exact writes 40 _ _ _ hv
    · cases h
end Wi
end Go.Proofs.YthdbnafiindgbaaDoor
