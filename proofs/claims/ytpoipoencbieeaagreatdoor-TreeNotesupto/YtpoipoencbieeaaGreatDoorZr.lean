/- Plain mathematics: what is wrong in a tree. -/
import Derived.Test.YtpoipoencbieeaaGreatDoorYd
namespace Go.Proofs.YtpoipoencbieeaaGreatDoor
open M
namespace X
/-- A note: where it begins, where it ends, what is wrong. -/
abbrev Nt := Int × Int × Nat
/-- How many bytes the spaces and remarks have that some parts begin with. -/
def qlen : List Part → Nat
  | .leaf k x :: ps => if k = 1 ∨ k = 2 then x.length + qlen ps else 0
  | _ => 0
mutual
def nts : Part → Nat → List Nt
  | .leaf k x, i => if k = 8 then [((i : Int), ((i + x.length : Nat) : Int), 3)] else []
  | .miss _, i => [((i : Int), (i : Int), 9)]
  | .br k ps, i => (if k = 5 then [(((i + qlen ps : Nat) : Int), ((i + (psb ps).length : Nat) : Int), 3)] else []) ++ ntss ps i
def ntss : List Part → Nat → List Nt
  | [], _ => []
  | p :: ps, i => nts p i ++ ntss ps (i + (pb p).length)
end
theorem ntss_append : ∀ (l r : List Part) (i : Nat), ntss (l ++ r) i = ntss l i ++ ntss r (i + (psb l).length)
  | [], r, i => by simp [ntss, psb]
  | p :: l, r, i => by
    rw [List.cons_append, ntss, ntss_append l r, ntss, psb, List.length_append, List.append_assoc, Nat.add_assoc]
/-- No branch in it is junk. -/
def lv : Part → Bool
  | .leaf _ _ => true
  | _ => false
/-- Leaves alone, and the last one is no space and no remark. -/
def Junky (ps : List Part) : Prop := (∀ p ∈ ps, lv p = true) ∧ ∃ l k x, ps = l ++ [.leaf k x] ∧ ¬ (k = 1 ∨ k = 2)
mutual
/-- What is junk has leaves alone. -/
def jok : Part → Prop
  | .leaf _ _ => True
  | .miss _ => True
  | .br k ps => (k ≠ 1 ∧ (k = 5 → Junky ps)) ∧ joks ps
def joks : List Part → Prop
  | [] => True
  | p :: ps => jok p ∧ joks ps
end
theorem joks_append {l r : List Part} (hl : joks l) (hr : joks r) : joks (l ++ r) := by
  induction l with
  | nil => exact hr
  | cons p l ih => rw [List.cons_append, joks]; rw [joks] at hl; exact ⟨hl.1, ih hl.2⟩
theorem joks_mem : ∀ (ps : List Part) (i : Nat) (p : Part), joks ps → ps[i]? = some p → jok p
  | [], i, p, _, h => by simp at h
  | q :: ps, 0, p, hk, h => by
    obtain rfl : q = p := by simpa using h
    exact hk.1
  | q :: ps, i + 1, p, hk, h => joks_mem ps i p hk.2 (by simpa using h)
theorem joks_lf (ts : List Tok) : joks (ts.map lf) := by
  induction ts with
  | nil => rw [List.map_nil, joks]; trivial
  | cons t ts ih => rw [List.map_cons, joks, lf, jok]; exact ⟨trivial, ih⟩
/-- A reading that makes no junk. -/
def Jn (f : R) : Prop := ∀ ts, joks (f ts).1
theorem Jn.andThen {f g : R} (hf : Jn f) (hg : Jn g) : Jn (X.andThen f g) := fun ts => joks_append (hf ts) (hg (f ts).2)
theorem joks_one {k : Nat} {ps : List Part} (hk : k ≠ 1 ∧ k ≠ 5) (h : joks ps) : joks [.br k ps] := by rw [joks, joks, jok]; exact ⟨⟨⟨hk.1, fun e => absurd e hk.2⟩, h⟩, trivial⟩
theorem Jn.node {f : R} (h : Jn f) {k : Nat} (hk : k ≠ 1 ∧ k ≠ 5) : Jn (X.node k f) := fun ts => joks_one hk (h ts)
theorem Jn.nil : Jn (fun ts => ([], ts)) := fun ts => by show joks []; rw [joks]; trivial
theorem Jn.miss (m : List UInt8) : Jn (fun ts => ([.miss m], ts)) := fun ts => by show joks [.miss m]; rw [joks, joks, jok]; exact ⟨trivial, trivial⟩
theorem Jn.ite {f g : R} {b : List Tok → Bool} (hf : Jn f) (hg : Jn g) : Jn (fun ts => if b ts then f ts else g ts) := by
  intro ts
  show joks (if b ts then f ts else g ts).1
  split
  · exact hf ts
  · exact hg ts
theorem Jn.take : Jn X.take := fun _ => joks_lf _
theorem Jn.want (s : List UInt8) : Jn (X.want s) := Jn.ite (b := isN s) Jn.take (Jn.miss s)
theorem Jn.wname : Jn X.wname := Jn.ite (b := fun ts => kindN ts == 3) Jn.take (Jn.miss sName)
theorem Jn.sevGo {one : R} (h : Jn one) : ∀ n, Jn (X.sevGo one n)
  | 0 => Jn.nil
  | n + 1 => Jn.ite (b := isN [44]) (Jn.take.andThen (h.andThen (Jn.sevGo h n))) Jn.nil
theorem Jn.several {one : R} (h : Jn one) (e : List UInt8) : Jn (X.several one e) := Jn.ite (b := isN e) (Jn.want e) (h.andThen (Jn.andThen (f := fun ts => X.sevGo one ts.length ts) (fun ts => Jn.sevGo h ts.length ts) (Jn.want e)))
theorem Jn.params : Jn X.params := ((Jn.want _).andThen (Jn.wname.several _)).node (by decide)
theorem rowGo_jn {one : R} {ok : List Tok → Bool} (h : Jn one) : ∀ (n : Nat) (p : List Part) (ts : List Tok), joks p → joks (rowGo one ok n p ts).1
  | 0, p, ts, hp => hp
  | n + 1, p, ts, hp => by
    unfold X.rowGo
    split
    · exact rowGo_jn h n _ _ (joks_one (by decide) (joks_append hp ((Jn.take.andThen h) ts)))
    · exact hp
theorem Jn.row {one : R} {ok : List Tok → Bool} (h : Jn one) : Jn (X.row one ok) := fun ts => rowGo_jn h _ _ _ (h ts)
theorem Jn.args {E : R} (h : Jn E) : Jn (X.args E) := (Jn.take.andThen (h.several _)).node (by decide)
theorem callGo_jn {E : R} (h : Jn E) : ∀ (n : Nat) (p : List Part) (ts : List Tok), joks p → joks (callGo E n p ts).1
  | 0, p, ts, hp => hp
  | n + 1, p, ts, hp => by
    unfold X.callGo
    split
    · exact callGo_jn h n _ _ (joks_one (by decide) (joks_append hp (h.args ts)))
    · exact hp
theorem Jn.part {E : R} (h : Jn E) : Jn (X.part E) :=
  Jn.ite (b := fun ts => kindN ts == 5) (Jn.take.node (by decide)) <|
  Jn.ite (b := fun ts => kindN ts == 6) (Jn.take.node (by decide)) <|
  Jn.ite (b := fun ts => isN [116, 114, 117, 101] ts || isN [102, 97, 108, 115, 101] ts) (Jn.take.node (by decide)) <|
  Jn.ite (b := fun ts => kindN ts == 3) (Jn.take.node (by decide)) <|
  Jn.ite (b := isN [63]) (Jn.take.node (by decide)) <|
  Jn.ite (b := isN [40]) ((Jn.take.andThen (h.andThen (Jn.want _))).node (by decide)) <|
  Jn.ite (b := isN [91]) ((Jn.take.andThen (h.several _)).node (by decide)) (Jn.miss _)
theorem Jn.call {E : R} (h : Jn E) : Jn (X.call E) := fun ts => callGo_jn h _ _ _ (h.part ts)
theorem Jn.product {E : R} (h : Jn E) : Jn (X.product E) := h.call.row
theorem Jn.sum {E : R} (h : Jn E) : Jn (X.sum E) := h.product.row
theorem Jn.comparison {E : R} (h : Jn E) : Jn (X.comparison E) := by
  intro ts
  have h0 := h.sum
  cases hc : (isN [61, 61] (X.sum E ts).2 || isN [60] (X.sum E ts).2) with
  | true =>
    have e0 := comparison_yes hc
    rw [e0]
    clear e0 h hc
    revert h0
    generalize X.sum E = F
    intro h0
    exact joks_one (by decide) (joks_append (h0 ts) (joks_append (joks_lf _) (h0 _)))
  | false => rw [comparison_no hc]; exact h0 ts
theorem Jn.expr : ∀ n, Jn (X.expr n)
  | 0 => Jn.miss _
  | n + 1 =>
    have h : Jn (X.expr n) := Jn.expr n
    Jn.ite (b := isN [108, 101, 116]) ((Jn.take.andThen (Jn.wname.andThen ((Jn.want _).andThen (h.andThen ((Jn.want _).andThen h))))).node (by decide)) <|
    Jn.ite (b := isN [105, 102]) ((Jn.take.andThen (h.andThen ((Jn.want _).andThen (h.andThen ((Jn.want _).andThen h))))).node (by decide)) <|
    Jn.ite (b := isN [102, 117, 110]) ((Jn.take.andThen (Jn.params.andThen ((Jn.want _).andThen h))).node (by decide)) h.comparison
theorem Jn.optPub : Jn X.optPub := Jn.ite (b := isN sPub) Jn.take Jn.nil
theorem Jn.useR : Jn X.useR := (Jn.want _).andThen (Jn.wname.andThen ((Jn.want _).andThen (Jn.wname.andThen ((Jn.ite (b := isN [97, 115]) (Jn.take.andThen Jn.wname) Jn.nil).andThen (Jn.want _)))))
theorem Jn.defR : Jn X.defR := (Jn.want _).andThen (Jn.wname.andThen ((Jn.ite (b := isN [40]) Jn.params Jn.nil).andThen ((Jn.want _).andThen ((Jn.expr 65).andThen (Jn.want _)))))
/-- What is taken is junky. -/
theorem take_junky {ts : List Tok} (h : nxt ts ≠ none) : Junky (take ts).1 := by
  unfold nxt at h
  have hq : ∃ t r, ts.dropWhile quiet = t :: r := by
    cases hd : ts.dropWhile quiet with
    | nil => rw [hd] at h; exact absurd rfl h
    | cons t r => exact ⟨t, r, rfl⟩
  obtain ⟨t, r, hd⟩ := hq
  have hnq : quiet t = false := by
    have := List.head?_dropWhile_not quiet ts
    rw [hd] at this
    simpa using this
  refine ⟨fun p hp => ?_, (ts.takeWhile quiet).map lf, t.1, t.2, ?_, ?_⟩
  · obtain ⟨t', -, rfl⟩ := List.mem_map.1 hp
    rfl
  · show List.map lf _ = _
    rw [hd, List.map_append]; rfl
  · unfold quiet at hnq
    simpa using hnq
theorem Junky.append {l r : List Part} (hl : Junky l) (hr : Junky r) : Junky (l ++ r) := by
  obtain ⟨l', k, x, e, hk⟩ := hr.2
  refine ⟨fun p hp => ?_, l ++ l', k, x, by rw [e, List.append_assoc], hk⟩
  rcases List.mem_append.1 hp with h | h
  · exact hl.1 p h
  · exact hr.1 p h
theorem junkGo_junky : ∀ (n : Nat) (ts : List Tok), (junkGo n ts).1 = [] ∨ Junky (junkGo n ts).1
  | 0, ts => .inl rfl
  | n + 1, ts => by
    unfold junkGo
    by_cases h1 : (kindN ts == 0 || starts ts) = true
    · rw [if_pos h1]; exact .inl rfl
    · rw [if_neg h1]
      have hk : (kindN ts == 0) = false := by
        cases h : (kindN ts == 0) with
        | false => rfl
        | true => rw [h] at h1; exact absurd rfl h1
      have hn := kind_next hk
      by_cases h2 : isN [59] ts = true
      · rw [if_pos h2]; exact .inr (take_junky hn)
      · rw [if_neg h2]
        right
        show Junky ((take ts).1 ++ (junkGo n (take ts).2).1)
        rcases junkGo_junky n (take ts).2 with e | e
        · rw [e, List.append_nil]; exact take_junky hn
        · exact (take_junky hn).append e
theorem leaves_joks : ∀ {ps : List Part}, (∀ p ∈ ps, lv p = true) → joks ps
  | [], _ => by rw [joks]; trivial
  | p :: ps, h => by
    rw [joks]
    refine ⟨?_, leaves_joks (fun q hq => h q (List.mem_cons_of_mem _ hq))⟩
    have := h p (List.mem_cons_self ..)
    cases p with
    | leaf k x => rw [jok]; trivial
    | miss m => cases this
    | br k qs => cases this
theorem kid_jok {ts : List Tok} (hk : (kindN ts == 0) = false) : jok (.br (kid ts).1 (kid ts).2.1) := by
  have hU := Jn.optPub.andThen Jn.useR
  have hD := Jn.optPub.andThen Jn.defR
  rw [kid_eq]
  revert hU hD
  generalize X.andThen optPub useR = U
  generalize X.andThen optPub defR = V
  intro hU hD
  by_cases hs : starts ts = true
  · simp only [hs, if_true]
    split
    · rw [jok]; exact ⟨⟨fun e => (by cases e), fun e => (by cases e)⟩, hU ts⟩
    · rw [jok]; exact ⟨⟨fun e => (by cases e), fun e => (by cases e)⟩, hD ts⟩
  · simp only [Bool.not_eq_true] at hs
    simp only [hs, Bool.false_eq_true, if_false]
    have hn := kind_next hk
    have hj : Junky (junkL ts).1 := by
      rcases junkGo_junky ts.length ts with e | e
      · exfalso
        have h2 : junkL ts = if isN [59] ts then take ts else X.andThen take junkL ts := junkL_yes (by rw [hk, hs]; rfl)
        have h3 : (take ts).1 ≠ [] := by
          obtain ⟨-, l, k, x, e', -⟩ := take_junky hn
          rw [e']; simp
        have h4 : (junkL ts).1 = [] := e
        rw [h2] at h4
        split at h4
        · exact h3 h4
        · have : (take ts).1 ++ (junkL (take ts).2).1 = [] := h4
          exact h3 (List.append_eq_nil_iff.1 this).1
      · exact e
    rw [jok]
    exact ⟨⟨by decide, fun _ => hj⟩, leaves_joks hj.1⟩
theorem fileGo_jok : ∀ (n : Nat) (ts : List Tok), joks (fileGo n ts)
  | 0, ts => joks_lf ts
  | n + 1, ts => by
    unfold fileGo
    by_cases hk : (kindN ts == 0) = true
    · rw [if_pos hk]; exact joks_lf ts
    · rw [if_neg hk]
      simp only [Bool.not_eq_true] at hk
      rw [joks]
      exact ⟨kid_jok hk, fileGo_jok n _⟩
theorem file_jok (ts : List Tok) : jok (file ts) := by rw [file, jok]; exact ⟨⟨by decide, fun e => absurd e (by decide)⟩, fileGo_jok _ ts⟩
end X
end Go.Proofs.YtpoipoencbieeaaGreatDoor
