/- Plain mathematics of edits as lists: spans, steps, what they make of a text, the writer of plain spans, one edit for two, two hands. -/
import Init
namespace Go.Proofs.Ytobdfddpiobhhaa
namespace EM
abbrev By := List UInt8
/-- A span of an edit. -/
structure Sp where
  f : Nat
  t : Nat
  s : By
deriving DecidableEq
/-- Spans one behind the other, from `a` on, up to `n`. -/
def Ok (a n : Nat) : List Sp → Prop
  | [] => a ≤ n
  | c :: L => a ≤ c.f ∧ c.f ≤ c.t ∧ Ok c.t n L
/-- What spans make of the text from `a` on. -/
def app (x : By) (a : Nat) : List Sp → By
  | [] => x.drop a
  | c :: L => (x.drop a).take (c.f - a) ++ c.s ++ app x c.t L
theorem Ok.le {a n : Nat} {L : List Sp} (h : Ok a n L) : a ≤ n := by
  induction L generalizing a with
  | nil => exact h
  | cons c L ih => have := ih h.2.2; have := h.1; have := h.2.1; omega
/-- Steps. -/
inductive St where
  | stay (c : Nat)
  | put (s : By)
  | drop (c : Nat)
def St.k : St → Nat | .stay _ => 0 | .put _ => 1 | .drop _ => 2
def St.c : St → Nat | .stay c => c | .put s => s.length | .drop c => c
def St.s : St → By | .stay _ => [] | .put s => s | .drop _ => []
/-- How many bytes of the text a step goes over. -/
def St.w : St → Nat | .stay c => c | .put _ => 0 | .drop c => c
def need (S : List St) : Nat := (S.map St.w).sum
def pos (S : List St) : Prop := ∀ s ∈ S, 0 < s.c
def st3 (a : Nat) (c : Sp) : List St := [.stay (c.f - a), .put c.s, .drop (c.t - c.f)]
/-- Steps that go over something. -/
def real (S : List St) : List St := S.filter (fun s => 0 < s.c)
/-- The steps of spans. -/
def sts (a : Nat) : List Sp → List St
  | [] => []
  | c :: L => real (st3 a c) ++ sts c.t L
def run : List St → By → By
  | [], x => x
  | .stay n :: r, x => x.take n ++ run r (x.drop n)
  | .put s :: r, x => s ++ run r x
  | .drop n :: r, x => run r (x.drop n)
theorem run_append (S T : List St) (x : By) (h : need S ≤ x.length) : run (S ++ T) x = (run S x).take ((run S x).length - (x.length - need S)) ++ run T (x.drop (need S)) ∧ x.length - need S ≤ (run S x).length ∧ (run S x).drop ((run S x).length - (x.length - need S)) = x.drop (need S) := by
  induction S generalizing x with
  | nil => simp [run, need]
  | cons s S ih =>
    cases s with
    | stay n =>
      have hn : need (.stay n :: S) = n + need S := by simp [need, St.w]
      rw [hn] at h
      obtain ⟨h1, h2, h3⟩ := ih (x.drop n) (by simp; omega)
      have hl : (x.drop n).length = x.length - n := by simp
      rw [hl] at h1 h2 h3
      simp only [List.cons_append, run, List.length_append, List.length_take, hn]
      have e1 : min n x.length = n := by omega
      rw [e1]
      have e2 : n + (run S (x.drop n)).length - (x.length - (n + need S)) = n + ((run S (x.drop n)).length - (x.length - n - need S)) := by omega
      rw [e2]
      refine ⟨?_, by omega, ?_⟩
      · rw [h1, List.take_append, List.length_take, e1, List.take_of_length_le (l := x.take n) (by simp; omega)]
        rw [show n + ((run S (x.drop n)).length - (x.length - n - need S)) - n = (run S (x.drop n)).length - (x.length - n - need S) by omega, List.drop_drop, List.append_assoc]
      · rw [List.drop_append, List.length_take, e1, List.drop_eq_nil_of_le (as := x.take n) (by simp; omega)]
        rw [show n + ((run S (x.drop n)).length - (x.length - n - need S)) - n = (run S (x.drop n)).length - (x.length - n - need S) by omega, h3, List.drop_drop]; rfl
    | put t =>
      have hn : need (.put t :: S) = need S := by simp [need, St.w]
      rw [hn] at h ⊢
      obtain ⟨h1, h2, h3⟩ := ih x h
      simp only [List.cons_append, run, List.length_append]
      have e2 : t.length + (run S x).length - (x.length - need S) = t.length + ((run S x).length - (x.length - need S)) := by omega
      rw [e2]
      refine ⟨?_, by omega, ?_⟩
      · rw [h1, List.take_append, List.take_of_length_le (l := t) (by omega), Nat.add_sub_cancel_left, List.append_assoc]
      · rw [List.drop_append, List.drop_eq_nil_of_le (as := t) (by omega), Nat.add_sub_cancel_left, h3]; rfl
    | drop n =>
      have hn : need (.drop n :: S) = n + need S := by simp [need, St.w]
      rw [hn] at h ⊢
      obtain ⟨h1, h2, h3⟩ := ih (x.drop n) (by simp; omega)
      have hl : (x.drop n).length = x.length - n := by simp
      rw [hl, List.drop_drop] at h1 h3
      rw [hl] at h2
      simp only [List.cons_append, run]
      rw [show x.length - (n + need S) = x.length - n - need S by omega]
      exact ⟨h1, h2, h3⟩
/-- A step of nothing does nothing. -/
theorem run_zero (s : St) (S : List St) (x : By) (h : s.c = 0) : run (s :: S) x = run S x := by
  cases s with
  | stay n => simp [St.c] at h; subst h; simp [run]
  | put t => simp [St.c] at h; subst h; simp [run]
  | drop n => simp [St.c] at h; subst h; simp [run]
theorem run_real (S T : List St) (x : By) : run (real S ++ T) x = run (S ++ T) x := by
  induction S generalizing x with
  | nil => rfl
  | cons s S ih =>
    unfold real at ih ⊢
    by_cases h : 0 < s.c
    · rw [List.filter_cons_of_pos (by simpa using h)]
      cases s <;> simp [run, ih]
    · rw [List.filter_cons_of_neg (by simpa using h), List.cons_append, run_zero _ _ _ (by omega), ih]
theorem need_real (S : List St) : need (real S) = need S := by
  induction S with
  | nil => rfl
  | cons s S ih =>
    unfold real at ih ⊢
    by_cases h : 0 < s.c
    · rw [List.filter_cons_of_pos (by simpa using h)]
      simp only [need, List.map_cons, List.sum_cons] at ih ⊢; rw [ih]
    · rw [List.filter_cons_of_neg (by simpa using h), ih]
      have : s.w = 0 := by cases s <;> simp [St.c, St.w] at h ⊢ <;> omega
      simp [need, this]
theorem need_append (S T : List St) : need (S ++ T) = need S + need T := by simp [need]
theorem need_cons (s : St) (T : List St) : need (s :: T) = s.w + need T := by simp [need]
theorem need_sts (a n : Nat) (L : List Sp) (h : Ok a n L) : need (sts a L) ≤ n - a := by
  induction L generalizing a with
  | nil => simp [sts, need]
  | cons c L ih =>
    have h1 := ih c.t h.2.2
    have h2 := h.2.2.le
    have h3 := h.1
    have h4 := h.2.1
    simp only [sts, need_append, need_real]
    simp [st3, need, St.w]
    simp [need] at h1
    omega
theorem pos_sts (a : Nat) (L : List Sp) : pos (sts a L) := by
  induction L generalizing a with
  | nil => simp [sts, pos]
  | cons c L ih =>
    intro s hs
    simp only [sts, real, List.mem_append, List.mem_filter] at hs
    rcases hs with ⟨_, h⟩ | h
    · simpa using h
    · exact ih _ s h
theorem app_run (x : By) (a : Nat) (L : List Sp) (h : Ok a x.length L) : app x a L = run (sts a L) (x.drop a) := by
  induction L generalizing a with
  | nil => rfl
  | cons c L ih =>
    have h2 := h.2.2.le
    have h3 := h.1
    have h4 := h.2.1
    rw [app, sts, run_real, ih _ h.2.2]
    simp only [st3, List.cons_append, List.nil_append, run, List.drop_drop]
    rw [show a + (c.f - a) + (c.t - c.f) = c.t by omega, List.append_assoc]
/-- What spans have made of a text when `e` bytes of it are gone through. -/
def pre (x : By) (a : Nat) : List Sp → Nat → By
  | [], e => (x.take e).drop a
  | c :: L, e => (x.take c.f).drop a ++ c.s ++ pre x c.t L e
theorem cut_cut (x : By) (a b c : Nat) (h1 : a ≤ b) (h2 : b ≤ c) : (x.take b).drop a ++ (x.take c).drop b = (x.take c).drop a := by
  apply List.ext_getElem?
  intro i
  simp only [List.getElem?_append, List.length_drop, List.length_take, List.getElem?_drop, List.getElem?_take]
  by_cases hb : b ≤ x.length
  · rw [Nat.min_eq_left hb]
    by_cases hi : i < b - a
    · simp only [hi, ↓reduceIte]
      rw [if_pos (by omega), if_pos (by omega)]
    · simp only [hi, ↓reduceIte]
      rw [show b + (i - (b - a)) = a + i by omega]
  · rw [Nat.min_eq_right (by omega)]
    by_cases hi : i < x.length - a
    · simp only [hi, ↓reduceIte]
      rw [if_pos (by omega), if_pos (by omega)]
    · simp only [hi, ↓reduceIte]
      have e1 : x[b + (i - (x.length - a))]? = none := List.getElem?_eq_none (by omega)
      have e2 : x[a + i]? = none := List.getElem?_eq_none (by omega)
      simp [e1, e2]
theorem pre_more (x : By) (a e e' : Nat) (L : List Sp) (h : Ok a e L) (he : e ≤ e') : pre x a L e ++ (x.take e').drop e = pre x a L e' := by
  induction L generalizing a with
  | nil => exact cut_cut x a e e' h he
  | cons c L ih => simp only [pre, List.append_assoc]; rw [ih _ h.2.2]
theorem pre_snoc (x : By) (a e : Nat) (L : List Sp) (c : Sp) : pre x a (L ++ [c]) e = pre x a L c.f ++ c.s ++ (x.take e).drop c.t := by
  induction L generalizing a with
  | nil => simp [pre]
  | cons d L ih => simp only [List.cons_append, pre, ih, List.append_assoc]
theorem Ok.snoc {a e : Nat} {L : List Sp} {c : Sp} (h : Ok a c.f L) (h1 : c.f ≤ c.t) (h2 : c.t ≤ e) : Ok a e (L ++ [c]) := by
  induction L generalizing a with
  | nil => exact ⟨h, h1, h2⟩
  | cons d L ih => exact ⟨h.1, h.2.1, ih h.2.2⟩
theorem Ok.mono {a e e' : Nat} {L : List Sp} (h : Ok a e L) (h1 : e ≤ e') : Ok a e' L := by
  induction L generalizing a with
  | nil => exact Nat.le_trans h h1
  | cons d L ih => exact ⟨h.1, h.2.1, ih h.2.2⟩
theorem app_pre (x : By) (a : Nat) (L : List Sp) (h : Ok a x.length L) : app x a L = pre x a L x.length := by
  induction L generalizing a with
  | nil => simp [app, pre]
  | cons c L ih => rw [app, pre, ih _ h.2.2, List.take_drop, show a + (c.f - a) = c.f by have := h.1; omega]
/-- The writer: the spans that are ended, where it is, the span that is open. -/
structure Wr where
  l : List Sp
  a : Nat
  o : Option (Nat × By)
def Wr.fin (w : Wr) : Wr := match w.o with
  | none => w
  | some (f, s) => ⟨w.l ++ [⟨f, w.a, s⟩], w.a, none⟩
def Wr.beg (w : Wr) : Wr := match w.o with
  | none => ⟨w.l, w.a, some (w.a, [])⟩
  | some _ => w
def Wr.say (w : Wr) (s : By) : Wr := match w.o with
  | none => w
  | some (f, t) => ⟨w.l, w.a, some (f, t ++ s)⟩
def Wr.go (w : Wr) (n : Nat) : Wr := ⟨w.l, w.a + n, w.o⟩
def Wr.add (w : Wr) (s : St) : Wr :=
  if s.c = 0 then w else
  match s with
  | .stay n => w.fin.go n
  | .put t => (match w.o with
    | none => w.beg.say t
    | some (f, _) => if w.a = f then w.say t else (w.fin.beg).say t)
  | .drop n => w.beg.go n
/-- The writer's order. -/
def Wr.ok (w : Wr) : Prop := match w.o with
  | none => Ok 0 w.a w.l
  | some (f, _) => Ok 0 f w.l ∧ f ≤ w.a
/-- What has been made of a text. -/
def Wr.out (w : Wr) (x : By) : By := match w.o with
  | none => pre x 0 w.l w.a
  | some (f, s) => pre x 0 w.l f ++ s
theorem Wr.fin_o (w : Wr) : w.fin.o = none := by
  unfold Wr.fin; split <;> simp_all
theorem Wr.fin_a (w : Wr) : w.fin.a = w.a := by unfold Wr.fin; split <;> rfl
theorem Wr.fin_ok (w : Wr) (h : w.ok) : w.fin.ok := by
  unfold Wr.fin
  unfold Wr.ok at h
  cases ho : w.o with
  | none => simp only [ho] at h ⊢; unfold Wr.ok; simp only [ho]; exact h
  | some p =>
    simp only [ho] at h ⊢
    exact Ok.snoc (c := ⟨p.1, w.a, p.2⟩) h.1 h.2 (Nat.le_refl _)
theorem Wr.fin_out (w : Wr) (_h : w.ok) (x : By) : w.fin.out x = w.out x := by
  unfold Wr.fin Wr.out
  cases ho : w.o with
  | none => simp only [ho]
  | some p => simp [pre_snoc]
theorem Wr.beg_a (w : Wr) : w.beg.a = w.a := by unfold Wr.beg; split <;> rfl
theorem Wr.beg_ok (w : Wr) (h : w.ok) : w.beg.ok := by
  unfold Wr.beg
  cases ho : w.o with
  | none => unfold Wr.ok at h; simp only [ho] at h; exact ⟨h, Nat.le_refl _⟩
  | some p => exact h
theorem Wr.beg_out (w : Wr) (x : By) : w.beg.out x = w.out x := by
  unfold Wr.beg Wr.out
  cases ho : w.o with
  | none => simp
  | some p => simp [ho]
theorem Wr.beg_o (w : Wr) : ∃ f s, w.beg.o = some (f, s) := by
  unfold Wr.beg
  cases ho : w.o with
  | none => exact ⟨_, _, rfl⟩
  | some p => exact ⟨_, _, ho⟩
theorem Wr.say_ok (w : Wr) (s : By) (h : w.ok) : (w.say s).ok := by
  unfold Wr.say
  cases ho : w.o with
  | none => exact h
  | some p => unfold Wr.ok at h ⊢; simp only [ho] at h; exact h
theorem Wr.say_a (w : Wr) (s : By) : (w.say s).a = w.a := by unfold Wr.say; split <;> rfl
theorem Wr.say_out (w : Wr) (s : By) (x : By) (h : ∃ f t, w.o = some (f, t)) : (w.say s).out x = w.out x ++ s := by
  obtain ⟨f, t, ho⟩ := h
  unfold Wr.say Wr.out
  simp [ho]
theorem Wr.add_stay (w : Wr) (n : Nat) (h : w.ok) (x : By) : (w.add (.stay n)).ok ∧ (w.add (.stay n)).out x = w.out x ++ (x.drop w.a).take n ∧ (w.add (.stay n)).a = w.a + n := by
  unfold Wr.add
  by_cases hn : (St.stay n).c = 0
  · rw [if_pos hn]; simp [St.c] at hn; subst hn; simp [h]
  · rw [if_neg hn]
    have h1 := w.fin_ok h
    have h2 := w.fin_o
    unfold Wr.ok at h1
    simp only [h2] at h1
    refine ⟨?_, ?_, ?_⟩
    · unfold Wr.go Wr.ok; simp only [h2]; exact h1.mono (by omega)
    · rw [← w.fin_out h x]
      unfold Wr.go Wr.out
      simp only [h2]
      rw [← pre_more x 0 w.fin.a (w.fin.a + n) w.fin.l h1 (by omega), w.fin_a, List.take_drop]
    · unfold Wr.go; simp [w.fin_a]
theorem Wr.add_put (w : Wr) (s : By) (h : w.ok) (x : By) : (w.add (.put s)).ok ∧ (w.add (.put s)).out x = w.out x ++ s ∧ (w.add (.put s)).a = w.a := by
  unfold Wr.add
  by_cases hn : (St.put s).c = 0
  · rw [if_pos hn]; simp [St.c] at hn; subst hn; simp [h]
  · rw [if_neg hn]
    cases ho : w.o with
    | none =>
      refine ⟨(w.beg.say_ok _ (w.beg_ok h)), ?_, ?_⟩
      · simp only []; rw [w.beg.say_out s x w.beg_o, w.beg_out]
      · simp only []; rw [w.beg.say_a, w.beg_a]
    | some p =>
      simp only []
      by_cases hp : w.a = p.1
      · rw [if_pos hp]
        exact ⟨w.say_ok _ h, w.say_out s x ⟨_, _, ho⟩, w.say_a _⟩
      · rw [if_neg hp]
        refine ⟨(w.fin.beg.say_ok _ (w.fin.beg_ok (w.fin_ok h))), ?_, ?_⟩
        · rw [w.fin.beg.say_out s x w.fin.beg_o, w.fin.beg_out, w.fin_out h]
        · rw [w.fin.beg.say_a, w.fin.beg_a, w.fin_a]
theorem Wr.add_drop (w : Wr) (n : Nat) (h : w.ok) (x : By) : (w.add (.drop n)).ok ∧ (w.add (.drop n)).out x = w.out x ∧ (w.add (.drop n)).a = w.a + n := by
  unfold Wr.add
  by_cases hn : (St.drop n).c = 0
  · rw [if_pos hn]; simp [St.c] at hn; subst hn; simp [h]
  · rw [if_neg hn]
    have h1 := w.beg_ok h
    obtain ⟨f, s, h2⟩ := w.beg_o
    refine ⟨?_, ?_, ?_⟩
    · unfold Wr.ok at h1; unfold Wr.go Wr.ok; simp only [h2] at h1 ⊢; exact ⟨h1.1, by omega⟩
    · rw [← w.beg_out x]; unfold Wr.go Wr.out; simp only [h2]
    · unfold Wr.go; simp [w.beg_a]
/-- The spans that the writer gives. -/
def Wr.spans (w : Wr) : List Sp := w.fin.l
theorem Wr.spans_ok (w : Wr) (h : w.ok) : Ok 0 w.a w.spans := by
  have h1 := w.fin_ok h
  unfold Wr.ok at h1
  simp only [w.fin_o] at h1
  rw [w.fin_a] at h1
  exact h1
theorem Wr.spans_app (w : Wr) (h : w.ok) (x : By) (hx : w.a ≤ x.length) : app x 0 w.spans = w.out x ++ x.drop w.a := by
  rw [app_pre x 0 _ ((w.spans_ok h).mono hx), ← w.fin_out h x]
  unfold Wr.out
  simp only [w.fin_o]
  have h1 := w.fin_ok h
  unfold Wr.ok at h1
  simp only [w.fin_o] at h1
  rw [Wr.spans, ← pre_more x 0 w.fin.a x.length w.fin.l h1 (by rw [w.fin_a]; exact hx), w.fin_a, List.take_length]
/-- The writer that has done nothing. -/
def Wr.new : Wr := ⟨[], 0, none⟩
theorem Wr.new_ok : Wr.new.ok := Nat.le_refl 0
theorem Wr.new_out (x : By) : Wr.new.out x = [] := by simp [Wr.new, Wr.out, pre]
/-- The writer does steps. -/
theorem Wr.adds (S : List St) (w : Wr) (h : w.ok) (x : By) (hx : w.a + need S ≤ x.length) : (S.foldl Wr.add w).ok ∧ (S.foldl Wr.add w).a = w.a + need S ∧ (S.foldl Wr.add w).out x ++ x.drop (S.foldl Wr.add w).a = w.out x ++ run S (x.drop w.a) := by
  induction S generalizing w with
  | nil => simp [h, need, run]
  | cons s S ih =>
    rw [need_cons] at hx
    cases s with
    | stay n =>
      obtain ⟨h1, h2, h3⟩ := w.add_stay n h x
      simp only [St.w] at hx
      obtain ⟨k1, k2, k3⟩ := ih (w.add (.stay n)) h1 (by rw [h3]; omega)
      refine ⟨k1, ?_, ?_⟩
      · rw [List.foldl_cons, k2, h3, need_cons, St.w]; omega
      · rw [List.foldl_cons, k3, h2, h3]; simp only [run, List.drop_drop, List.append_assoc]
    | put t =>
      obtain ⟨h1, h2, h3⟩ := w.add_put t h x
      simp only [St.w] at hx
      obtain ⟨k1, k2, k3⟩ := ih (w.add (.put t)) h1 (by rw [h3]; omega)
      refine ⟨k1, ?_, ?_⟩
      · rw [List.foldl_cons, k2, h3, need_cons, St.w]; omega
      · rw [List.foldl_cons, k3, h2, h3]; simp only [run, List.append_assoc]
    | drop n =>
      obtain ⟨h1, h2, h3⟩ := w.add_drop n h x
      simp only [St.w] at hx
      obtain ⟨k1, k2, k3⟩ := ih (w.add (.drop n)) h1 (by rw [h3]; omega)
      refine ⟨k1, ?_, ?_⟩
      · rw [List.foldl_cons, k2, h3, need_cons, St.w]; omega
      · rw [List.foldl_cons, k3, h2, h3]; simp only [run, List.drop_drop]
/-- The plain spans of spans. -/
def plainOf (L : List Sp) : List Sp := ((sts 0 L).foldl Wr.add Wr.new).spans
theorem plainOf_app (L : List Sp) (x : By) (h : Ok 0 x.length L) : Ok 0 x.length (plainOf L) ∧ app x 0 (plainOf L) = app x 0 L := by
  have hn := need_sts 0 x.length L h
  obtain ⟨h1, h2, h3⟩ := Wr.adds (sts 0 L) Wr.new Wr.new_ok x (by simp [Wr.new]; omega)
  have ha : ((sts 0 L).foldl Wr.add Wr.new).a ≤ x.length := by rw [h2]; simp [Wr.new]; omega
  refine ⟨(Wr.spans_ok _ h1).mono ha, ?_⟩
  rw [plainOf, Wr.spans_app _ h1 x ha, h3, Wr.new_out, app_run x 0 L h]
  simp [Wr.new]
/-- The spans that undo. -/
def inv (x : By) (a q : Nat) : List Sp → List Sp
  | [] => []
  | c :: L => ⟨q + (c.f - a), q + (c.f - a) + c.s.length, (x.take c.t).drop c.f⟩ :: inv x c.t (q + (c.f - a) + c.s.length) L
theorem inv_app (x : By) (L : List Sp) (a : Nat) (P y : By) (h : Ok a x.length L) (hy : y = P ++ app x a L) : Ok P.length y.length (inv x a P.length L) ∧ app y P.length (inv x a P.length L) = x.drop a := by
  induction L generalizing a P with
  | nil => subst hy; simp [inv, Ok, app]
  | cons c L ih =>
    have h2 := h.2.2.le
    have h3 := h.1
    have h4 := h.2.1
    have hl : ((x.drop a).take (c.f - a)).length = c.f - a := by simp; omega
    have hp : (P ++ (x.drop a).take (c.f - a) ++ c.s).length = P.length + (c.f - a) + c.s.length := by simp only [List.length_append, hl]
    obtain ⟨k1, k2⟩ := ih c.t (P ++ (x.drop a).take (c.f - a) ++ c.s) h.2.2 (by rw [hy, app]; simp only [List.append_assoc])
    rw [hp] at k1 k2
    refine ⟨⟨by simp, by simp, k1⟩, ?_⟩
    simp only [inv, app]
    rw [k2, Nat.add_sub_cancel_left]
    have e1 : (y.drop P.length).take (c.f - a) = (x.drop a).take (c.f - a) := by
      rw [hy, List.drop_left, app, List.append_assoc, List.take_append_of_le_length (by omega), List.take_of_length_le (by omega)]
    rw [e1, List.take_drop, show a + (c.f - a) = c.f by omega]
    have := cut_cut x a c.f c.t h3 h4
    rw [this]
    have e2 := cut_cut x a c.t x.length (by omega) h2
    rw [List.take_length] at e2
    exact e2
theorem inv_undo (x : By) (L : List Sp) (h : Ok 0 x.length L) : Ok 0 (app x 0 L).length (inv x 0 0 L) ∧ app (app x 0 L) 0 (inv x 0 0 L) = x := by
  have := inv_app x L 0 [] (app x 0 L) h rfl
  simpa using this
/-- What is put into a gap; which bytes are taken out. -/
def inG (L : List Sp) (g : Nat) : By := L.flatMap fun c => if c.f = g then c.s else []
def outG (L : List Sp) (g : Nat) : Bool := L.any fun c => decide (c.f ≤ g) && decide (g < c.t)
def inS : List St → Nat → By
  | [], _ => []
  | .put s :: S, g => (if g = 0 then s else []) ++ inS S g
  | .stay c :: S, g => if g < c then [] else inS S (g - c)
  | .drop c :: S, g => if g < c then [] else inS S (g - c)
def outS : List St → Nat → Bool
  | [], _ => false
  | .put _ :: S, g => outS S g
  | .stay c :: S, g => if g < c then false else outS S (g - c)
  | .drop c :: S, g => if g < c then true else outS S (g - c)
theorem inG_low {a n : Nat} {L : List Sp} (h : Ok a n L) (g : Nat) (hg : g < a) : inG L g = [] := by
  induction L generalizing a with
  | nil => rfl
  | cons c L ih =>
    have h3 := h.1
    have h4 := h.2.1
    have := ih h.2.2 (by omega)
    simp only [inG, List.flatMap_cons] at this ⊢
    rw [this, if_neg (by omega)]; rfl
theorem outG_low {a n : Nat} {L : List Sp} (h : Ok a n L) (g : Nat) (hg : g < a) : outG L g = false := by
  induction L generalizing a with
  | nil => rfl
  | cons c L ih =>
    have h3 := h.1
    have h4 := h.2.1
    have := ih h.2.2 (by omega)
    simp only [outG, List.any_cons] at this ⊢
    rw [this]; simp; omega
theorem in_zero (s : St) (S : List St) (g : Nat) (h : s.c = 0) : inS (s :: S) g = inS S g ∧ outS (s :: S) g = outS S g := by
  cases s with
  | stay n => simp [St.c] at h; subst h; simp [inS, outS]
  | put t => simp [St.c] at h; subst h; simp [inS, outS]
  | drop n => simp [St.c] at h; subst h; simp [inS, outS]
theorem in_real (S T : List St) (g : Nat) : inS (real S ++ T) g = inS (S ++ T) g ∧ outS (real S ++ T) g = outS (S ++ T) g := by
  induction S generalizing g with
  | nil => exact ⟨rfl, rfl⟩
  | cons s S ih =>
    unfold real at ih ⊢
    by_cases h : 0 < s.c
    · rw [List.filter_cons_of_pos (by simpa using h)]
      cases s <;> simp [inS, outS, ih]
    · rw [List.filter_cons_of_neg (by simpa using h), List.cons_append, (in_zero _ _ _ (by omega)).1, (in_zero _ _ _ (by omega)).2]
      exact ih g
theorem in_sts (a n : Nat) (L : List Sp) (h : Ok a n L) (g : Nat) : inS (sts a L) g = inG L (a + g) ∧ outS (sts a L) g = outG L (a + g) := by
  induction L generalizing a g with
  | nil => exact ⟨rfl, rfl⟩
  | cons c L ih =>
    have h3 := h.1
    have h4 := h.2.1
    rw [sts, (in_real _ _ _).1, (in_real _ _ _).2]
    have e1 : inG (c :: L) (a + g) = (if c.f = a + g then c.s else []) ++ inG L (a + g) := by simp [inG]
    have e2 : outG (c :: L) (a + g) = (decide (c.f ≤ a + g) && decide (a + g < c.t) || outG L (a + g)) := by simp [outG]
    rw [e1, e2]
    simp only [st3, List.cons_append, List.nil_append, inS, outS]
    by_cases g1 : g < c.f - a
    · rw [if_pos g1, if_pos g1, if_neg (by omega), inG_low h.2.2 _ (by omega), outG_low h.2.2 _ (by omega)]
      simp; omega
    · rw [if_neg g1, if_neg g1]
      by_cases g2 : g - (c.f - a) < c.t - c.f
      · rw [if_pos g2, if_pos g2, inG_low h.2.2 _ (by omega), outG_low h.2.2 _ (by omega)]
        constructor
        · by_cases g3 : g - (c.f - a) = 0
          · rw [if_pos g3, if_pos (by omega)]
          · rw [if_neg g3, if_neg (by omega)]
        · simp; omega
      · rw [if_neg g2, if_neg g2, (ih c.t h.2.2 _).1, (ih c.t h.2.2 _).2]
        rw [show c.t + (g - (c.f - a) - (c.t - c.f)) = a + g by omega]
        constructor
        · by_cases g3 : g - (c.f - a) = 0
          · rw [if_pos g3, if_pos (by omega)]
          · rw [if_neg g3, if_neg (by omega)]
        · rw [show decide (a + g < c.t) = false by simp; omega]; simp
theorem flatMap_same {α : Type} (l : List α) (F G : α → By) (h : ∀ g ∈ l, F g = G g) : l.flatMap F = l.flatMap G := by
  induction l with
  | nil => rfl
  | cons a l ih => simp only [List.flatMap_cons]; rw [h a (by simp), ih (fun g hg => h g (by simp [hg]))]
/-- What puts and takings make of a text, gap by gap. -/
def does (x : By) (I : Nat → By) (O : Nat → Bool) : By := (List.range (x.length + 1)).flatMap fun g => I g ++ (if O g then [] else (x.drop g).take 1)
theorem does_congr (x : By) (I I' : Nat → By) (O O' : Nat → Bool) (h : ∀ g, g ≤ x.length → I g = I' g ∧ O g = O' g) : does x I O = does x I' O' := by
  unfold does
  apply flatMap_same
  intro g hg
  have := h g (by simpa [Nat.lt_succ_iff] using hg)
  rw [this.1, this.2]
theorem flatMap_range_add (a b : Nat) (F : Nat → By) : (List.range (a + b)).flatMap F = (List.range a).flatMap F ++ (List.range b).flatMap fun g => F (a + g) := by
  rw [List.range_add, List.flatMap_append, List.flatMap_map]
/-- Over bytes that nothing is put between: they all stay, or all go. -/
theorem does_skip (x : By) (I : Nat → By) (O : Nat → Bool) (c : Nat) (o : Bool) (hc : c ≤ x.length) (hI : ∀ g, g < c → I g = []) (hO : ∀ g, g < c → O g = o) :
    does x I O = (if o then [] else x.take c) ++ does (x.drop c) (fun g => I (c + g)) (fun g => O (c + g)) := by
  unfold does
  rw [List.length_drop, show x.length + 1 = c + (x.length - c + 1) by omega, flatMap_range_add]
  congr 1
  · clear hc
    induction c with
    | zero => simp
    | succ c ih =>
      rw [List.range_succ, List.flatMap_append, ih (fun g hg => hI g (by omega)) (fun g hg => hO g (by omega))]
      simp only [List.flatMap_cons, List.flatMap_nil, List.append_nil, hI c (by omega), hO c (by omega), List.nil_append]
      cases o with
      | true => rfl
      | false =>
        simp only [Bool.false_eq_true, if_false]
        have := cut_cut x 0 c (c + 1) (by omega) (by omega)
        rw [List.take_drop]
        simpa using this
  · apply flatMap_same
    intro g _
    simp only [List.drop_drop]
theorem does_put (x : By) (I J : Nat → By) (O : Nat → Bool) (s : By) (h0 : I 0 = s ++ J 0) (hI : ∀ g, 0 < g → I g = J g) : does x I O = s ++ does x J O := by
  unfold does
  rw [Nat.add_comm, flatMap_range_add, flatMap_range_add 1]
  rw [show List.range 1 = [0] from rfl]
  simp only [List.flatMap_cons, List.flatMap_nil, List.append_nil, h0, List.append_assoc]
  congr 3
  apply flatMap_same
  intro g _
  rw [hI _ (by omega)]
theorem does_none (x : By) : does x (fun _ => []) (fun _ => false) = x := by
  have := does_skip x (fun _ => []) (fun _ => false) x.length false (Nat.le_refl _) (fun _ _ => rfl) (fun _ _ => rfl)
  rw [this]
  simp [does]
/-- Steps mean what their gaps say. -/
theorem run_does (S : List St) (x : By) (h : need S ≤ x.length) : run S x = does x (inS S) (outS S) := by
  induction S generalizing x with
  | nil => exact (does_none x).symm
  | cons s S ih =>
    rw [need_cons] at h
    cases s with
    | stay c =>
      simp only [St.w] at h
      rw [does_skip x _ _ c false (by omega) (fun g hg => by simp [inS, hg]) (fun g hg => by simp [outS, hg]), run, ih _ (by simp; omega)]
      simp only [Bool.false_eq_true, if_false]
      congr 1
      refine does_congr _ _ _ _ _ fun g _ => ?_
      simp [inS, outS, show ¬ c + g < c by omega]
    | put t =>
      simp only [St.w] at h
      rw [does_put x _ (inS S) _ t (by simp [inS]) (fun g hg => by simp [inS]; omega), run, ih _ (by omega)]
      rfl
    | drop c =>
      simp only [St.w] at h
      rw [does_skip x _ _ c true (by omega) (fun g hg => by simp [inS, hg]) (fun g hg => by simp [outS, hg]), run, ih _ (by simp; omega)]
      simp only [if_true, List.nil_append]
      refine does_congr _ _ _ _ _ fun g _ => ?_
      simp [inS, outS, show ¬ c + g < c by omega]
/-- Spans mean what their gaps say. -/
theorem app_does (x : By) (L : List Sp) (h : Ok 0 x.length L) : app x 0 L = does x (inG L) (outG L) := by
  have hn := need_sts 0 x.length L h
  rw [app_run x 0 L h, List.drop_zero, run_does _ _ (by omega)]
  refine does_congr _ _ _ _ _ fun g _ => ?_
  have := in_sts 0 x.length L h g
  simpa using this
/-- A step parted behind c of its bytes. -/
def St.hd (s : St) (c : Nat) : St := match s with | .stay _ => .stay c | .put t => .put (t.take c) | .drop _ => .drop c
def St.tl (s : St) (c : Nat) : St := match s with | .stay n => .stay (n - c) | .put t => .put (t.drop c) | .drop n => .drop (n - c)
/-- What becomes of the next c bytes, and what is left. -/
def piece (A : List St) (c : Nat) : St := match A with | [] => .stay c | s :: _ => s.hd c
def left (A : List St) (c : Nat) : List St := match A with | [] => [] | s :: A' => if s.c = c then A' else s.tl c :: A'
def fits (A : List St) (c : Nat) : Prop := match A with | [] => True | s :: _ => c ≤ s.c
theorem tl_c (s : St) (c : Nat) : (s.tl c).c = s.c - c := by cases s <;> simp [St.tl, St.c]
theorem tl_zero (s : St) (c : Nat) (h : s.c = c) : (s.tl c).c = 0 := by rw [tl_c]; omega
theorem left_pos (A : List St) (c : Nat) (h : pos A) (hf : fits A c) : pos (left A c) := by
  cases A with
  | nil => exact h
  | cons s A =>
    simp only [left]
    split
    · exact fun t ht => h t (by simp [ht])
    · intro t ht
      rcases List.mem_cons.1 ht with rfl | ht
      · rw [tl_c]; simp only [fits] at hf; omega
      · exact h t (by simp [ht])
theorem run_left (A : List St) (c : Nat) (x : By) (hf : fits A c) : run A x = run (piece A c :: left A c) x := by
  cases A with
  | nil => simp [piece, left, run]
  | cons s A =>
    simp only [left, piece, fits] at hf ⊢
    have main : run (s :: A) x = run (s.hd c :: s.tl c :: A) x := by
      cases s with
      | stay n =>
        simp only [St.hd, St.tl, run, List.drop_drop, St.c] at hf ⊢
        rw [show c + (n - c) = n by omega, ← List.append_assoc, List.take_drop, show c + (n - c) = n by omega]
        have := cut_cut x 0 c n (by omega) (by omega)
        simp only [List.drop_zero] at this
        rw [this]
      | put t => simp only [St.hd, St.tl, run]; rw [← List.append_assoc, List.take_append_drop]
      | drop n => simp only [St.hd, St.tl, run, List.drop_drop, St.c] at hf ⊢; rw [show c + (n - c) = n by omega]
    split
    · rename_i h
      rw [main]
      cases s <;> simp only [run, St.hd] <;> rw [run_zero _ _ _ (tl_zero _ _ h)]
    · exact main
theorem need_left (A : List St) (c m : Nat) (hf : fits A c) (h : need A ≤ m) (hc : c ≤ m) : need (piece A c :: left A c) ≤ m := by
  cases A with
  | nil => simp [piece, left, need, St.w]; omega
  | cons s A =>
    simp only [left, piece, fits, need_cons] at hf h ⊢
    split
    · rename_i h1
      cases s <;> simp only [St.hd, St.w, St.c] at h1 h ⊢ <;> omega
    · rw [need_cons]
      cases s <;> simp only [St.hd, St.w, St.tl, St.c] at hf h ⊢ <;> omega
theorem in_left (A : List St) (c : Nat) (hf : fits A c) (g : Nat) : inS A g = inS (piece A c :: left A c) g ∧ outS A g = outS (piece A c :: left A c) g ∨ (∃ t, A.head? = some (.put t)) := by
  cases A with
  | nil => left; simp [piece, left, inS, outS]
  | cons s A =>
    cases s with
    | put t => right; exact ⟨t, rfl⟩
    | stay n =>
      left
      simp only [left, piece, fits, St.c, St.hd, St.tl] at hf ⊢
      by_cases h : n = c
      · subst h; simp
      · simp only [h, if_false, inS, outS]
        by_cases h1 : g < c
        · simp [h1, show g < n by omega]
        · by_cases h2 : g < n
          · simp [h1, h2, show g - c < n - c by omega]
          · simp [h1, h2, show ¬ g - c < n - c by omega, show g - c - (n - c) = g - n by omega]
    | drop n =>
      left
      simp only [left, piece, fits, St.c, St.hd, St.tl] at hf ⊢
      by_cases h : n = c
      · subst h; simp
      · simp only [h, if_false, inS, outS]
        by_cases h1 : g < c
        · simp [h1, show g < n by omega]
        · by_cases h2 : g < n
          · simp [h1, h2, show g - c < n - c by omega]
          · simp [h1, h2, show ¬ g - c < n - c by omega, show g - c - (n - c) = g - n by omega]
/-- How many bytes two can both pass. -/
def comm (A B : List St) : Nat := match A, B with
  | [], [] => 0
  | [], t :: _ => t.c
  | s :: _, [] => s.c
  | s :: _, t :: _ => min s.c t.c
theorem comm_fits (A B : List St) : fits A (comm A B) ∧ fits B (comm A B) := by
  cases A <;> cases B <;> simp [comm, fits] <;> omega
theorem comm_pos (A B : List St) (ha : pos A) (hb : pos B) (h : ¬ (A = [] ∧ B = [])) : 0 < comm A B := by
  cases A with
  | nil =>
    cases B with
    | nil => simp at h
    | cons t B => exact hb t (by simp)
  | cons s A =>
    cases B with
    | nil => exact ha s (by simp)
    | cons t B => have := ha s (by simp); have := hb t (by simp); simp only [comm]; omega
/-- What becomes of bytes behind two edits. -/
def fol (p q : St) : St := if q.k = 0 then p else if p.k = 0 then q else .stay 0
/-- The state of 'one for two'. -/
structure CInv (x : By) (A B : List St) (W : Wr) (T : By) : Prop where
  ok : W.ok
  pa : pos A
  pb : pos B
  le : W.a + need A ≤ x.length
  nb : need B ≤ (run A (x.drop W.a)).length
  eq : T = W.out x ++ run B (run A (x.drop W.a))
theorem pos_tail {s : St} {A : List St} (h : pos (s :: A)) : pos A := fun t ht => h t (by simp [ht])
theorem CInv.putB {x : By} {A B : List St} {W : Wr} {T s : By} (h : CInv x A (.put s :: B) W T) : CInv x A B (W.add (.put s)) T := by
  obtain ⟨h1, h2, h3⟩ := W.add_put s h.ok x
  have nb := h.nb
  rw [need_cons, St.w, Nat.zero_add] at nb
  refine ⟨h1, h.pa, pos_tail h.pb, by rw [h3]; exact h.le, by rw [h3]; exact nb, ?_⟩
  rw [h.eq, h2, h3]; simp [run]
theorem CInv.dropA {x : By} {A B : List St} {W : Wr} {T : By} {n : Nat} (h : CInv x (.drop n :: A) B W T) : CInv x A B (W.add (.drop n)) T := by
  obtain ⟨h1, h2, h3⟩ := W.add_drop n h.ok x
  have le := h.le
  have nb := h.nb
  rw [need_cons, St.w] at le
  simp only [run, List.drop_drop] at nb
  refine ⟨h1, pos_tail h.pa, h.pb, by rw [h3]; omega, by rw [h3]; exact nb, ?_⟩
  rw [h.eq, h2, h3]; simp [run]
theorem hd_c (s : St) (c : Nat) (h : c ≤ s.c) : (s.hd c).c = c := by cases s <;> simp [St.hd, St.c] at h ⊢ <;> omega
theorem piece_c (A : List St) (c : Nat) (h : fits A c) : (piece A c).c = c := by
  cases A with
  | nil => rfl
  | cons s A => exact hd_c s c h
theorem piece_k (A : List St) (c : Nat) : (piece A c).k = match A with | [] => 0 | s :: _ => s.k := by
  cases A with
  | nil => rfl
  | cons s A => cases s <;> rfl
/-- How long what comes of A is, at least. -/
theorem piece_le (A B : List St) (x : By) (W : Wr) (T : By) (h : CInv x A B W T) (hA : ∀ n, A.head? ≠ some (.drop n)) (hB : ∀ t, B.head? ≠ some (.put t)) :
    (∀ t, A.head? ≠ some (.put t)) → comm A B ≤ (x.drop W.a).length := by
  intro hP
  have le := h.le
  have nb := h.nb
  cases A with
  | nil =>
    cases B with
    | nil => simp [comm]
    | cons t B =>
      rw [need_cons] at nb
      simp only [run] at nb
      cases t with
      | stay n => simp only [St.w] at nb; simp only [comm, St.c]; omega
      | put s => exact absurd rfl (hB s)
      | drop n => simp only [St.w] at nb; simp only [comm, St.c]; omega
  | cons s A =>
    cases s with
    | stay n =>
      rw [need_cons, St.w] at le
      have : comm (.stay n :: A) B ≤ n := by have := (comm_fits (.stay n :: A) B).1; simpa [fits, St.c] using this
      rw [List.length_drop]; omega
    | put t => exact absurd rfl (hP t)
    | drop n => exact absurd rfl (hA n)
theorem CInv.both {x : By} {A B : List St} {W : Wr} {T : By} (h : CInv x A B W T) (hA : ∀ n, A.head? ≠ some (.drop n)) (hB : ∀ t, B.head? ≠ some (.put t)) :
    CInv x (left A (comm A B)) (left B (comm A B)) (W.add (fol (piece A (comm A B)) (piece B (comm A B)))) T := by
  have hf := comm_fits A B
  have hle := piece_le A B x W T h hA hB
  obtain ⟨ok, pa, pb, le, nb, eq⟩ := h
  have ka := left_pos A _ pa hf.1
  have kb := left_pos B _ pb hf.2
  have ca := piece_c A _ hf.1
  have cb := piece_c B _ hf.2
  -- what A makes, piece and rest
  have eA : run A (x.drop W.a) = run (piece A (comm A B) :: left A (comm A B)) (x.drop W.a) ∧ W.a + need (piece A (comm A B) :: left A (comm A B)) ≤ x.length ∧ ((piece A (comm A B)).k = 0 ∧ comm A B ≤ (x.drop W.a).length ∨ (piece A (comm A B)).k = 1) := by
    by_cases hP : ∃ t, A.head? = some (.put t)
    · obtain ⟨t, ht⟩ := hP
      cases A with
      | nil => cases ht
      | cons s A =>
        obtain rfl : s = .put t := by simpa using ht
        have hc : comm (.put t :: A) B ≤ t.length := by simpa [fits, St.c] using hf.1
        refine ⟨?_, ?_, .inr rfl⟩
        · simp only [piece, left]
          split
          · rename_i h1; simp only [St.hd, run, St.c] at h1 ⊢; rw [List.take_of_length_le (by omega)]
          · simp only [St.hd, St.tl, run]; rw [← List.append_assoc, List.take_append_drop]
        · simp only [piece, left]
          rw [need_cons, St.w] at le
          split <;> simp only [need_cons, St.hd, St.tl, St.w] <;> omega
    · have hP' : ∀ t, A.head? ≠ some (.put t) := fun t ht => hP ⟨t, ht⟩
      have hl := hle hP'
      have hx : comm A B ≤ x.length - W.a := by simpa using hl
      refine ⟨run_left A _ _ hf.1, ?_, .inl ⟨?_, hl⟩⟩
      · have := need_left A (comm A B) (x.length - W.a) hf.1 (by omega) hx
        omega
      · rw [piece_k]
        cases A with
        | nil => rfl
        | cons s A =>
          cases s with
          | stay n => rfl
          | put t => exact absurd rfl (hP' t)
          | drop n => exact absurd rfl (hA n)
  obtain ⟨eA, leA, kA⟩ := eA
  have hy : comm A B ≤ (run A (x.drop W.a)).length := by
    rw [eA]
    generalize hp : piece A (comm A B) = p at *
    cases p with
    | stay n => simp only [St.c] at ca; subst ca; simp only [run, List.length_append, List.length_take]; rcases kA with ⟨_, h2⟩ | h2 <;> simp [St.k] at h2 ⊢; omega
    | put t => simp only [St.c] at ca; simp only [run, List.length_append]; omega
    | drop n => rcases kA with ⟨h1, _⟩ | h1 <;> simp [St.k] at h1
  have eB : run B (run A (x.drop W.a)) = run (piece B (comm A B) :: left B (comm A B)) (run A (x.drop W.a)) := run_left B _ _ hf.2
  have leB : need (piece B (comm A B) :: left B (comm A B)) ≤ (run A (x.drop W.a)).length := need_left B _ _ hf.2 nb hy
  have kB : (piece B (comm A B)).k = 0 ∨ (piece B (comm A B)).k = 2 := by
    rw [piece_k]
    cases B with
    | nil => exact .inl rfl
    | cons s B =>
      cases s with
      | stay n => exact .inl rfl
      | put t => exact absurd rfl (hB t)
      | drop n => exact .inr rfl
  rw [eB] at eq
  rw [eA] at eq leB
  generalize piece A (comm A B) = p at *
  generalize piece B (comm A B) = q at *
  generalize comm A B = c at *
  rw [need_cons] at leA leB
  cases p with
  | drop n => rcases kA with ⟨h1, _⟩ | h1 <;> simp [St.k] at h1
  | stay n =>
    simp only [St.c] at ca
    subst ca
    simp only [St.w] at leA
    have hl : ((x.drop W.a).take n).length = n := by simp; omega
    simp only [run, List.length_append, hl] at leB
    cases q with
    | put t => simp [St.k] at kB
    | stay m =>
      simp only [St.c] at cb
      subst cb
      obtain ⟨h1, h2, h3⟩ := W.add_stay m ok x
      simp only [St.w] at leB
      refine ⟨h1, ka, kb, by simp [fol, St.k, h3]; omega, ?_, ?_⟩
      · simp only [fol, St.k, if_true, h3]; rw [← List.drop_drop]; omega
      · simp only [fol, St.k, if_true, h2, h3]
        rw [eq]
        simp only [run]
        rw [List.take_left' hl, List.drop_left' hl, List.append_assoc, List.drop_drop]
    | drop m =>
      simp only [St.c] at cb
      subst cb
      obtain ⟨h1, h2, h3⟩ := W.add_drop m ok x
      simp only [St.w] at leB
      refine ⟨h1, ka, kb, by simp [fol, St.k, h3]; omega, ?_, ?_⟩
      · simp only [fol, St.k]; simp only [Nat.reduceEqDiff, if_false, if_true, h3]; rw [← List.drop_drop]; omega
      · simp only [fol, St.k, Nat.reduceEqDiff, if_false, if_true, h2, h3]
        rw [eq]
        simp only [run]
        rw [List.drop_left' hl, List.drop_drop]
  | put t =>
    simp only [St.c] at ca
    subst ca
    simp only [St.w] at leA
    simp only [run, List.length_append] at leB
    cases q with
    | put t => simp [St.k] at kB
    | stay m =>
      simp only [St.c] at cb
      subst cb
      obtain ⟨h1, h2, h3⟩ := W.add_put t ok x
      simp only [St.w] at leB
      refine ⟨h1, ka, kb, by simp [fol, St.k, h3]; omega, ?_, ?_⟩
      · simp only [fol, St.k, if_true, h3]; omega
      · simp only [fol, St.k, if_true, h2, h3]
        rw [eq]
        simp only [run]
        rw [List.take_left' rfl, List.drop_left' rfl, List.append_assoc]
    | drop m =>
      simp only [St.c] at cb
      subst cb
      obtain ⟨h1, h2, h3⟩ := W.add_stay 0 ok x
      simp only [St.w] at leB
      refine ⟨?_, ka, kb, ?_, ?_, ?_⟩
      · simpa [fol, St.k] using h1
      · simp [fol, St.k, h3]; omega
      · simp only [fol, St.k, Nat.reduceEqDiff, if_false, h3, Nat.add_zero]; omega
      · simp only [fol, St.k, Nat.reduceEqDiff, if_false, h2, h3, Nat.add_zero, List.take_zero, List.append_nil]
        rw [eq]
        simp only [run]
        rw [List.drop_left' rfl]
theorem CInv.start {x : By} {L K : List Sp} (h : Ok 0 x.length L) (h2 : Ok 0 (app x 0 L).length K) : CInv x (sts 0 L) (sts 0 K) Wr.new (app (app x 0 L) 0 K) := by
  have n1 := need_sts _ _ _ h
  have n2 := need_sts _ _ _ h2
  have e := app_run x 0 L h
  rw [List.drop_zero] at e
  refine ⟨Wr.new_ok, pos_sts _ _, pos_sts _ _, by simp [Wr.new]; omega, ?_, ?_⟩
  · simp only [Wr.new, List.drop_zero]; rw [← e]; omega
  · rw [Wr.new_out, app_run _ 0 K h2]; simp only [Wr.new, List.drop_zero]; rw [← e]; rfl
theorem CInv.done {x : By} {W : Wr} {T : By} (h : CInv x [] [] W T) : Ok 0 x.length W.spans ∧ app x 0 W.spans = T := by
  have le := h.le
  simp [need] at le
  exact ⟨(W.spans_ok h.ok).mono le, by rw [W.spans_app h.ok x le, h.eq]; rfl⟩
/-- The state of 'two hands'. s, t: what A and B make of x; p: where it is in x. -/
structure MInv (x s t : By) (A B : List St) (p : Nat) (U V : Wr) (R T : By) : Prop where
  ou : U.ok
  ov : V.ok
  pa : pos A
  pb : pos B
  la : p + need A ≤ x.length
  lb : p + need B ≤ x.length
  ru : U.out t = R
  rv : V.out s = R
  ut : U.a ≤ t.length
  vs : V.a ≤ s.length
  du : t.drop U.a = run B (x.drop p)
  dv : s.drop V.a = run A (x.drop p)
  eq : T = R ++ does (x.drop p) (fun g => inS A g ++ inS B g) (fun g => outS A g || outS B g)
theorem MInv.putA {x s t A B p U V R T i} (h : MInv x s t (.put i :: A) B p U V R T) : MInv x s t A B p (U.add (.put i)) (V.add (.stay i.length)) (R ++ i) T := by
  obtain ⟨ou, ov, pa, pb, la, lb, ru, rv, ut, vs, du, dv, eq⟩ := h
  obtain ⟨h1, h2, h3⟩ := U.add_put i ou t
  obtain ⟨k1, k2, k3⟩ := V.add_stay i.length ov s
  rw [need_cons, St.w, Nat.zero_add] at la
  have hl : i.length ≤ (s.drop V.a).length := by rw [dv]; simp [run]
  rw [List.length_drop] at hl
  refine ⟨h1, k1, pos_tail pa, pb, la, lb, by rw [h2, ru], ?_, by omega, ?_, by rw [h3, du], ?_, ?_⟩
  · rw [k2, rv, dv]; simp [run]
  · rw [k3]; have := pa (.put i) (by simp); simp [St.c] at this; omega
  · rw [k3, ← List.drop_drop, dv]; simp [run]
  · rw [eq, does_put _ _ (fun g => inS A g ++ inS B g) _ i (by simp [inS]) (fun g hg => by simp [inS]; omega), List.append_assoc]; rfl
theorem head_in (A : List St) (h : pos A) (hP : ∀ t, A.head? ≠ some (.put t)) : inS A 0 = [] := by
  cases A with
  | nil => rfl
  | cons s A =>
    have := h s (by simp)
    cases s with
    | stay n => simp [inS]; intro h; simp [St.c] at this; omega
    | put t => exact absurd rfl (hP t)
    | drop n => simp [inS]; intro h; simp [St.c] at this; omega
theorem MInv.putB {x s t A B p U V R T i} (h : MInv x s t A (.put i :: B) p U V R T) (hP : ∀ t, A.head? ≠ some (.put t)) : MInv x s t A B p (U.add (.stay i.length)) (V.add (.put i)) (R ++ i) T := by
  obtain ⟨ou, ov, pa, pb, la, lb, ru, rv, ut, vs, du, dv, eq⟩ := h
  obtain ⟨h1, h2, h3⟩ := V.add_put i ov s
  obtain ⟨k1, k2, k3⟩ := U.add_stay i.length ou t
  rw [need_cons, St.w, Nat.zero_add] at lb
  have hl : i.length ≤ (t.drop U.a).length := by rw [du]; simp [run]
  rw [List.length_drop] at hl
  refine ⟨k1, h1, pa, pos_tail pb, la, lb, ?_, by rw [h2, rv], ?_, by omega, ?_, by rw [h3, dv], ?_⟩
  · rw [k2, ru, du]; simp [run]
  · rw [k3]; have := pb (.put i) (by simp); simp [St.c] at this; omega
  · rw [k3, ← List.drop_drop, du]; simp [run]
  · rw [eq, does_put _ _ (fun g => inS A g ++ inS B g) _ i (by simp [inS, head_in A pa hP]) (fun g hg => by simp [inS]; omega), List.append_assoc]; rfl
theorem piece_flat (A : List St) (c : Nat) (hP : ∀ t, A.head? ≠ some (.put t)) : piece A c = .stay c ∨ piece A c = .drop c := by
  cases A with
  | nil => exact .inl rfl
  | cons s A =>
    cases s with
    | stay n => exact .inl rfl
    | put t => exact absurd rfl (hP t)
    | drop n => exact .inr rfl
theorem in_left' (A : List St) (c : Nat) (hf : fits A c) (hP : ∀ t, A.head? ≠ some (.put t)) (g : Nat) : inS A g = inS (piece A c :: left A c) g ∧ outS A g = outS (piece A c :: left A c) g := by
  rcases in_left A c hf g with h | ⟨t, ht⟩
  · exact h
  · exact absurd ht (hP t)
theorem need_head (A : List St) (c m : Nat) (h : need A ≤ m) (hf : fits A c) (hP : ∀ t, A.head? ≠ some (.put t)) (hA : A ≠ []) : c ≤ m := by
  cases A with
  | nil => exact absurd rfl hA
  | cons s A =>
    rw [need_cons] at h
    simp only [fits] at hf
    cases s with
    | stay n => simp only [St.c, St.w] at hf h; omega
    | put t => exact absurd rfl (hP t)
    | drop n => simp only [St.c, St.w] at hf h; omega
/-- What is added to a hand's writer: nothing, where the other one takes the bytes out. -/
def Wr.addIf (w : Wr) (other s : St) : Wr := if other.k = 0 then w.add s else w
theorem MInv.both {x s t A B p U V R T} (h : MInv x s t A B p U V R T) (hA : ∀ t, A.head? ≠ some (.put t)) (hB : ∀ t, B.head? ≠ some (.put t)) (hn : ¬ (A = [] ∧ B = [])) :
    ∃ R', MInv x s t (left A (comm A B)) (left B (comm A B)) (p + comm A B) (U.addIf (piece B (comm A B)) (piece A (comm A B))) (V.addIf (piece A (comm A B)) (piece B (comm A B))) R' T := by
  have hf := comm_fits A B
  obtain ⟨ou, ov, pa, pb, la, lb, ru, rv, ut, vs, du, dv, eq⟩ := h
  have ka := left_pos A _ pa hf.1
  have kb := left_pos B _ pb hf.2
  have hc : comm A B ≤ x.length - p := by
    by_cases h1 : A = []
    · have h2 : B ≠ [] := fun h => hn ⟨h1, h⟩
      exact need_head B _ _ (by omega) hf.2 hB h2
    · exact need_head A _ _ (by omega) hf.1 hA h1
  have nA := need_left A (comm A B) (x.length - p) hf.1 (by omega) hc
  have nB := need_left B (comm A B) (x.length - p) hf.2 (by omega) hc
  rw [run_left B _ _ hf.2] at du
  rw [run_left A _ _ hf.1] at dv
  have hd : does (x.drop p) (fun g => inS A g ++ inS B g) (fun g => outS A g || outS B g) = does (x.drop p) (fun g => inS (piece A (comm A B) :: left A (comm A B)) g ++ inS (piece B (comm A B) :: left B (comm A B)) g) (fun g => outS (piece A (comm A B) :: left A (comm A B)) g || outS (piece B (comm A B) :: left B (comm A B)) g) := by
    refine does_congr _ _ _ _ _ fun g _ => ?_
    rw [← (in_left' A _ hf.1 hA g).1, ← (in_left' A _ hf.1 hA g).2, ← (in_left' B _ hf.2 hB g).1, ← (in_left' B _ hf.2 hB g).2]
    exact ⟨rfl, rfl⟩
  rw [hd] at eq
  have fA := piece_flat A (comm A B) hA
  have fB := piece_flat B (comm A B) hB
  generalize piece A (comm A B) = P at *
  generalize piece B (comm A B) = Q at *
  generalize left A (comm A B) = A' at *
  generalize left B (comm A B) = B' at *
  generalize comm A B = c at *
  have hpx : p ≤ x.length := by omega
  clear hd hf hA hB hn pa pb la lb
  rw [need_cons] at nA nB
  have hl : ((x.drop p).take c).length = c := by simp; omega
  have hlx : c ≤ (x.drop p).length := by simp; omega
  have sk := does_skip (x.drop p) (fun g => inS (P :: A') g ++ inS (Q :: B') g) (fun g => outS (P :: A') g || outS (Q :: B') g) c (decide (P.k = 2) || decide (Q.k = 2)) hlx
    (by rcases fA with rfl | rfl <;> rcases fB with rfl | rfl <;> intro g hg <;> simp [inS, hg])
    (by rcases fA with rfl | rfl <;> rcases fB with rfl | rfl <;> intro g hg <;> simp [outS, hg, St.k])
  have eA : ∀ g, inS (P :: A') (c + g) = inS A' g ∧ outS (P :: A') (c + g) = outS A' g := by
    intro g
    rcases fA with rfl | rfl <;> simp [inS, outS, show ¬ c + g < c by omega]
  have eB : ∀ g, inS (Q :: B') (c + g) = inS B' g ∧ outS (Q :: B') (c + g) = outS B' g := by
    intro g
    rcases fB with rfl | rfl <;> simp [inS, outS, show ¬ c + g < c by omega]
  have e0 : does ((x.drop p).drop c) (fun g => inS (P :: A') (c + g) ++ inS (Q :: B') (c + g)) (fun g => outS (P :: A') (c + g) || outS (Q :: B') (c + g)) = does (x.drop (p + c)) (fun g => inS A' g ++ inS B' g) (fun g => outS A' g || outS B' g) := by
    rw [List.drop_drop]
    refine does_congr _ _ _ _ _ fun g _ => ?_
    rw [(eA g).1, (eA g).2, (eB g).1, (eB g).2]; exact ⟨rfl, rfl⟩
  rw [e0] at sk
  rw [sk] at eq
  clear e0 eA eB sk
  have la : p + c + need A' ≤ x.length := by rcases fA with rfl | rfl <;> simp only [St.w] at nA <;> omega
  have lb : p + c + need B' ≤ x.length := by rcases fB with rfl | rfl <;> simp only [St.w] at nB <;> omega
  rcases fA with rfl | rfl <;> rcases fB with rfl | rfl
  · -- both stay
    obtain ⟨h1, h2, h3⟩ := U.add_stay c ou t
    obtain ⟨k1, k2, k3⟩ := V.add_stay c ov s
    simp only [run, List.drop_drop] at du dv
    have q1 : c ≤ (t.drop U.a).length := by rw [du, List.length_append]; omega
    have q2 : c ≤ (s.drop V.a).length := by rw [dv, List.length_append]; omega
    rw [List.length_drop] at q1 q2
    refine ⟨R ++ (x.drop p).take c, ?_⟩
    simp only [Wr.addIf, St.k, if_true]
    refine ⟨h1, k1, ka, kb, la, lb, ?_, ?_, by omega, by omega, ?_, ?_, ?_⟩
    · rw [h2, ru, du, List.take_left' hl]
    · rw [k2, rv, dv, List.take_left' hl]
    · rw [h3, ← List.drop_drop, du, List.drop_left' hl]
    · rw [k3, ← List.drop_drop, dv, List.drop_left' hl]
    · rw [eq, List.append_assoc]; rfl
  · -- A stays, B drops
    obtain ⟨k1, k2, k3⟩ := V.add_drop c ov s
    simp only [run, List.drop_drop] at du dv
    have q2 : c ≤ (s.drop V.a).length := by rw [dv, List.length_append]; omega
    rw [List.length_drop] at q2
    refine ⟨R, ?_⟩
    simp only [Wr.addIf, St.k, if_true, Nat.reduceEqDiff, if_false]
    refine ⟨ou, k1, ka, kb, la, lb, ru, by rw [k2, rv], ut, by omega, du, ?_, ?_⟩
    · rw [k3, ← List.drop_drop, dv, List.drop_left' hl]
    · rw [eq]; rfl
  · obtain ⟨k1, k2, k3⟩ := U.add_drop c ou t
    simp only [run, List.drop_drop] at du dv
    have q2 : c ≤ (t.drop U.a).length := by rw [du, List.length_append]; omega
    rw [List.length_drop] at q2
    refine ⟨R, ?_⟩
    simp only [Wr.addIf, St.k, if_true, Nat.reduceEqDiff, if_false]
    refine ⟨k1, ov, ka, kb, la, lb, by rw [k2, ru], rv, by omega, vs, ?_, dv, ?_⟩
    · rw [k3, ← List.drop_drop, du, List.drop_left' hl]
    · rw [eq]; rfl
  · simp only [run, List.drop_drop] at du dv
    refine ⟨R, ?_⟩
    simp only [Wr.addIf, St.k, Nat.reduceEqDiff, if_false]
    exact ⟨ou, ov, ka, kb, la, lb, ru, rv, ut, vs, du, dv, by rw [eq]; rfl⟩
/-- What both mean. -/
def bothG (x : By) (L K : List Sp) : By := does x (fun g => inG L g ++ inG K g) (fun g => outG L g || outG K g)
theorem MInv.start {x : By} {L K : List Sp} (h : Ok 0 x.length L) (h2 : Ok 0 x.length K) : MInv x (app x 0 L) (app x 0 K) (sts 0 L) (sts 0 K) 0 Wr.new Wr.new [] (bothG x L K) := by
  have n1 := need_sts _ _ _ h
  have n2 := need_sts _ _ _ h2
  refine ⟨Wr.new_ok, Wr.new_ok, pos_sts _ _, pos_sts _ _, by omega, by omega, Wr.new_out _, Wr.new_out _, Nat.zero_le _, Nat.zero_le _, ?_, ?_, ?_⟩
  · exact app_run x 0 K h2
  · exact app_run x 0 L h
  · rw [List.drop_zero, List.nil_append]
    refine does_congr _ _ _ _ _ fun g _ => ?_
    have e1 := in_sts 0 x.length L h g
    have e2 := in_sts 0 x.length K h2 g
    rw [Nat.zero_add] at e1 e2
    rw [e1.1, e1.2, e2.1, e2.2]; exact ⟨rfl, rfl⟩
theorem MInv.done {x s t p U V R T} (h : MInv x s t [] [] p U V R T) : Ok 0 t.length U.spans ∧ app t 0 U.spans = T ∧ Ok 0 s.length V.spans ∧ app s 0 V.spans = T := by
  have e : T = R ++ x.drop p := by rw [h.eq]; congr 1; exact does_none _
  refine ⟨(U.spans_ok h.ou).mono h.ut, ?_, (V.spans_ok h.ov).mono h.vs, ?_⟩
  · rw [U.spans_app h.ou t h.ut, h.ru, h.du, e]; rfl
  · rw [V.spans_app h.ov s h.vs, h.rv, h.dv, e]; rfl
abbrev Ce := By × Bool
def sc : List Ce → Nat → Option (Nat × By) → List Sp
  | [], _, none => []
  | [], p, some (f, s) => [⟨f, p, s⟩]
  | (i, o) :: C, p, none => if o then sc C (p + 1) (some (p, i)) else if i = [] then sc C (p + 1) none else ⟨p, p, i⟩ :: sc C (p + 1) none
  | (i, o) :: C, p, some (f, s) => if o && decide (i = []) then sc C (p + 1) (some (f, s)) else ⟨f, p, s⟩ :: (if o then sc C (p + 1) (some (p, i)) else if i = [] then sc C (p + 1) none else ⟨p, p, i⟩ :: sc C (p + 1) none)
/-- What is put in first. -/
def pre1 (s : By) : List Ce → List Ce
  | [] => []
  | (i, o) :: C => (s ++ i, o) :: C
def cells : List St → Nat → List Ce
  | [], m => List.replicate (m + 1) ([], false)
  | .put s :: S, m => pre1 s (cells S m)
  | .stay c :: S, m => List.replicate c ([], false) ++ cells S (m - c)
  | .drop c :: S, m => List.replicate c ([], true) ++ cells S (m - c)
theorem cells_ne (S : List St) (m : Nat) : cells S m ≠ [] := by
  induction S generalizing m with
  | nil => simp [cells, List.replicate_succ]
  | cons s S ih =>
    cases s with
    | stay c => simp [cells, ih]
    | drop c => simp [cells, ih]
    | put t =>
      simp only [cells]
      cases h : cells S m with
      | nil => exact absurd h (ih m)
      | cons a C => simp [pre1]
theorem range_map_add (a b : Nat) (F : Nat → Ce) : (List.range (a + b)).map F = (List.range a).map F ++ (List.range b).map fun g => F (a + g) := by
  rw [List.range_add, List.map_append, List.map_map]; rfl
theorem map_same {α β : Type} (l : List α) (F G : α → β) (h : ∀ g ∈ l, F g = G g) : l.map F = l.map G := List.map_congr_left h
theorem map_const (c : Nat) (F : Nat → Ce) (v : Ce) (h : ∀ g, g < c → F g = v) : (List.range c).map F = List.replicate c v := by
  rw [map_same _ _ (fun _ => v) (fun g hg => h g (by simpa using hg))]
  simp [List.map_const']
theorem cells_eq (S : List St) (m : Nat) (h : need S ≤ m) : cells S m = (List.range (m + 1)).map fun g => (inS S g, outS S g) := by
  induction S generalizing m with
  | nil => exact (map_const (m + 1) _ ([], false) (fun _ _ => rfl)).symm
  | cons s S ih =>
    rw [need_cons] at h
    cases s with
    | stay c =>
      simp only [St.w] at h
      rw [cells, ih _ (by omega), show m + 1 = c + (m - c + 1) by omega, range_map_add c, map_const c _ ([], false) (fun g hg => by simp [inS, outS, hg])]
      congr 1
      refine map_same _ _ _ fun g _ => ?_
      simp [inS, outS, show ¬ c + g < c by omega]
    | drop c =>
      simp only [St.w] at h
      rw [cells, ih _ (by omega), show m + 1 = c + (m - c + 1) by omega, range_map_add c, map_const c _ ([], true) (fun g hg => by simp [inS, outS, hg])]
      congr 1
      refine map_same _ _ _ fun g _ => ?_
      simp [inS, outS, show ¬ c + g < c by omega]
    | put t =>
      simp only [St.w] at h
      rw [cells, ih _ (by omega), Nat.add_comm m 1, range_map_add 1, range_map_add 1]
      rw [show List.range 1 = [0] from rfl]
      simp only [List.map_cons, List.map_nil, List.cons_append, List.nil_append, pre1]
      congr 1
      refine map_same _ _ _ fun g _ => ?_
      simp [inS, outS]
theorem sc_stay (c p : Nat) (C : List Ce) : sc (List.replicate c ([], false) ++ C) p none = sc C (p + c) none := by
  induction c generalizing p with
  | zero => simp
  | succ c ih => rw [List.replicate_succ, List.cons_append]; simp only [sc]; simp; rw [ih]; congr 1; omega
theorem sc_drop (c p f : Nat) (s : By) (C : List Ce) : sc (List.replicate c ([], true) ++ C) p (some (f, s)) = sc C (p + c) (some (f, s)) := by
  induction c generalizing p with
  | zero => simp
  | succ c ih => rw [List.replicate_succ, List.cons_append]; simp only [sc]; simp; rw [ih]; congr 1; omega
theorem sc_none (m p : Nat) : sc (List.replicate m ([], false)) p none = [] := by
  have := sc_stay m p []
  simpa [sc] using this
theorem sc_shut (S : List St) (m p f : Nat) (s : By) (h : ∀ i o C, cells S m = (i, o) :: C → i ≠ [] ∨ o = false) : sc (cells S m) p (some (f, s)) = ⟨f, p, s⟩ :: sc (cells S m) p none := by
  cases hc : cells S m with
  | nil => exact absurd hc (cells_ne S m)
  | cons a C =>
    obtain ⟨i, o⟩ := a
    simp only [sc]
    rw [if_neg]
    rcases h i o C hc with h | h <;> simp [h]
def Wr.rest (w : Wr) (S : List St) (m : Nat) : List Sp := match w.o with
  | none => sc (cells S m) w.a none
  | some (f, s) => if f = w.a then sc (cells (.put s :: S) m) w.a none else sc (cells S m) w.a (some (f, s))
def Wr.ok2 (w : Wr) : Prop := ∀ f s, w.o = some (f, s) → f < w.a ∨ (f = w.a ∧ s ≠ [])
theorem put_put (s t : By) (S : List St) (m : Nat) : cells (.put (s ++ t) :: S) m = cells (.put s :: .put t :: S) m := by
  simp only [cells]
  cases h : cells S m with
  | nil => rfl
  | cons a C => simp [pre1]
theorem Wr.adds_spans (S : List St) (w : Wr) (m : Nat) (hp : pos S) (hm : need S ≤ m) (h2 : w.ok2) : (S.foldl Wr.add w).spans = w.l ++ w.rest S m := by
  induction S generalizing w m with
  | nil =>
    simp only [List.foldl_nil, Wr.spans, Wr.rest, cells]
    unfold Wr.fin
    cases ho : w.o with
    | none => simp [sc_none]
    | some q =>
      obtain ⟨f, s⟩ := q
      simp only []
      have := h2 f s ho
      by_cases hf : f = w.a
      · subst hf
        have hs : s ≠ [] := by rcases this with h | h; omega; exact h.2
        simp only [if_true, List.replicate_succ, pre1, sc, List.append_nil]
        simp [hs, sc_none]
      · rw [if_neg hf, List.replicate_succ]; simp only [sc]; simp [sc_none]
  | cons a S ih =>
    have ha := hp a (by simp)
    rw [List.foldl_cons]
    rw [need_cons] at hm
    cases a with
    | stay c =>
      simp only [St.c, St.w] at ha hm
      rw [ih _ (m - c) (pos_tail hp) (by omega) (by
        intro f s hfs
        unfold Wr.add at hfs
        rw [if_neg (by simp only [St.c]; omega)] at hfs
        simp only [Wr.go, w.fin_o] at hfs
        cases hfs)]
      have e0 : w.add (.stay c) = w.fin.go c := by unfold Wr.add; rw [if_neg (by simp only [St.c]; omega)]
      rw [e0]
      have e : (w.fin.go c).rest S (m - c) = sc (cells S (m - c)) (w.a + c) none := by unfold Wr.rest Wr.go; simp only [w.fin_o, w.fin_a]
      rw [e]
      unfold Wr.rest
      obtain ⟨k, rfl⟩ : ∃ k, c = k + 1 := ⟨c - 1, by omega⟩
      cases ho : w.o with
      | none => simp only [cells, sc_stay]; unfold Wr.go Wr.fin; simp only [ho]
      | some q =>
        obtain ⟨f, s⟩ := q
        have := h2 f s ho
        have el : (w.fin.go (k + 1)).l = w.l ++ [⟨f, w.a, s⟩] := by unfold Wr.go Wr.fin; simp only [ho]
        rw [el]
        simp only [cells]
        by_cases hf : f = w.a
        · subst hf
          have hs : s ≠ [] := by rcases this with h | h; omega; exact h.2
          rw [if_pos rfl, List.replicate_succ, List.cons_append, pre1]
          simp only [sc, List.append_nil]
          simp only [Bool.false_eq_true, if_false, if_neg hs, sc_stay, List.append_assoc]
          rw [show w.a + 1 + k = w.a + (k + 1) by omega]; rfl
        · rw [if_neg hf, List.replicate_succ, List.cons_append]
          simp only [sc]
          simp only [Bool.false_and, Bool.false_eq_true, if_false, if_true, sc_stay, List.append_assoc]
          rw [show w.a + 1 + k = w.a + (k + 1) by omega]; rfl
    | put t =>
      simp only [St.c, St.w, Nat.zero_add] at ha hm
      have ht : t ≠ [] := by rintro rfl; simp at ha
      have e0 : w.add (.put t) = (match w.o with
        | none => w.beg.say t
        | some (f, _) => if w.a = f then w.say t else (w.fin.beg).say t) := by unfold Wr.add; rw [if_neg (by simp only [St.c]; omega)]; try rfl
      rw [e0]
      cases ho : w.o with
      | none =>
        have e : w.beg.say t = ⟨w.l, w.a, some (w.a, t)⟩ := by unfold Wr.beg Wr.say; simp [ho]
        simp only []
        rw [e, ih _ m (pos_tail hp) hm (by rintro f s ⟨⟩; exact .inr ⟨rfl, ht⟩)]
        unfold Wr.rest
        simp [ho]
      | some q =>
        obtain ⟨f, s⟩ := q
        have hh := h2 f s ho
        simp only []
        by_cases hf : w.a = f
        · have e : w.say t = ⟨w.l, w.a, some (f, s ++ t)⟩ := by unfold Wr.say; simp [ho]
          rw [if_pos hf, e, ih _ m (pos_tail hp) hm (by rintro f' s' ⟨⟩; exact .inr ⟨hf.symm, by simp [ht]⟩)]
          unfold Wr.rest
          simp only [ho, hf, if_true, put_put]
        · have e : w.fin.beg.say t = ⟨w.l ++ [⟨f, w.a, s⟩], w.a, some (w.a, t)⟩ := by unfold Wr.fin; simp only [ho]; unfold Wr.beg Wr.say; simp
          rw [if_neg hf, e, ih _ m (pos_tail hp) hm (by rintro f' s' ⟨⟩; exact .inr ⟨rfl, ht⟩)]
          unfold Wr.rest
          simp only [ho, if_true]
          rw [if_neg (fun h => hf h.symm), sc_shut (.put t :: S) m w.a f s (by
            intro i o C hC
            simp only [cells] at hC
            cases h : cells S m with
            | nil => rw [h] at hC; cases hC
            | cons a D => rw [h] at hC; obtain ⟨i', o'⟩ := a; simp only [pre1] at hC; cases hC; left; simp [ht])]
          simp
    | drop c =>
      simp only [St.c, St.w] at ha hm
      have e0 : w.add (.drop c) = w.beg.go c := by unfold Wr.add; rw [if_neg (by simp only [St.c]; omega)]
      rw [e0]
      clear e0
      obtain ⟨k, rfl⟩ : ∃ k, c = k + 1 := ⟨c - 1, by omega⟩
      cases ho : w.o with
      | none =>
        have e : w.beg.go (k + 1) = ⟨w.l, w.a + (k + 1), some (w.a, [])⟩ := by unfold Wr.beg Wr.go; simp [ho]
        rw [e, ih _ (m - (k + 1)) (pos_tail hp) (by omega) (by rintro f s ⟨⟩; left; simp)]
        unfold Wr.rest
        simp only [ho]
        rw [if_neg (by omega)]
        simp only [cells, List.replicate_succ, List.cons_append, sc, if_true, sc_drop]
        rw [show w.a + 1 + k = w.a + (k + 1) by omega]
      | some q =>
        obtain ⟨f, s⟩ := q
        have hh := h2 f s ho
        have e : w.beg.go (k + 1) = ⟨w.l, w.a + (k + 1), some (f, s)⟩ := by unfold Wr.beg Wr.go; simp [ho]
        rw [e, ih _ (m - (k + 1)) (pos_tail hp) (by omega) (by rintro f' s' ⟨⟩; left; simp only []; rcases hh with h | h <;> omega)]
        unfold Wr.rest
        simp only [ho]
        rw [if_neg (by rcases hh with h | h <;> omega)]
        by_cases hf : f = w.a
        · subst hf
          simp only [if_true, cells, List.replicate_succ, List.cons_append, pre1, sc, List.append_nil, sc_drop]
          rw [show w.a + 1 + k = w.a + (k + 1) by omega]
        · rw [if_neg hf]
          simp only [cells, sc_drop]
/-- The plain spans of what is put in and taken out. -/
def plainG (n : Nat) (I : Nat → By) (O : Nat → Bool) : List Sp := sc ((List.range (n + 1)).map fun g => (I g, decide (g < n) && O g)) 0 none
theorem outG_high {a n : Nat} {L : List Sp} (h : Ok a n L) (g : Nat) (hg : n ≤ g) : outG L g = false := by
  induction L generalizing a with
  | nil => rfl
  | cons c L ih =>
    have := ih h.2.2
    have := h.2.2.le
    simp only [outG, List.any_cons] at *
    simp [*]; omega
theorem plainOf_eq (L : List Sp) (n : Nat) (h : Ok 0 n L) : plainOf L = plainG n (inG L) (outG L) := by
  have hn := need_sts 0 n L h
  unfold plainOf plainG
  rw [Wr.adds_spans _ _ n (pos_sts _ _) (by omega) (by rintro f s ⟨⟩)]
  simp only [Wr.new, Wr.rest, List.nil_append]
  rw [cells_eq _ _ (by omega)]
  congr 1
  refine map_same _ _ _ fun g hg => ?_
  have e := in_sts 0 n L h g
  rw [Nat.zero_add] at e
  rw [e.1, e.2]
  by_cases h1 : g < n
  · simp [h1]
  · rw [outG_high h g (by omega)]; simp
end EM
end Go.Proofs.Ytobdfddpiobhhaa
