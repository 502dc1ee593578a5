/- Plain mathematics: readings that take away; loops with enough rounds. -/
import Derived.Test.YtpoipoencbieeaaDoorXk
namespace Go.Proofs.YtpoipoencbieeaaDoor
open M
namespace X

/-- Nothing comes back. -/
def Shr (f : R) : Prop := ∀ ts, ∃ n, (f ts).2 = ts.drop n
theorem Shr.le {f : R} (h : Shr f) (ts : List Tok) : (f ts).2.length ≤ ts.length := by
  obtain ⟨n, e⟩ := h ts; rw [e, List.length_drop]; omega
theorem Shr.good {f : R} (h : Shr f) {ts : List Tok} (hg : Good ts) : Good (f ts).2 := by
  obtain ⟨n, e⟩ := h ts; rw [e]; exact fun t ht => hg t ((List.drop_sublist _ _).subset ht)
theorem Shr.nil : Shr nilR := fun _ => ⟨0, rfl⟩
theorem Shr.andThen {f g : R} (hf : Shr f) (hg : Shr g) : Shr (andThen f g) := by
  intro ts
  obtain ⟨n, e⟩ := hf ts
  obtain ⟨m, e'⟩ := hg (f ts).2
  exact ⟨n + m, by show (g (f ts).2).2 = _; rw [e', e, List.drop_drop]⟩
theorem Shr.node {f : R} (hf : Shr f) (k : Nat) : Shr (node k f) := hf
theorem Shr.ite {f g : R} {c : List Tok → Bool} (hf : Shr f) (hg : Shr g) : Shr (fun ts => if c ts then f ts else g ts) := by
  intro ts
  show ∃ n, (if c ts then f ts else g ts).2 = _
  split
  · exact hf ts
  · exact hg ts
theorem Shr.miss (m : List UInt8) : Shr (fun ts => ([.miss m], ts)) := fun _ => ⟨0, rfl⟩
theorem dropWhile_dropN (p : Tok → Bool) (l : List Tok) : ∃ n, l.dropWhile p = l.drop n := ⟨_, dropWhile_drop p l⟩
theorem Shr.take : Shr take := by
  intro ts
  obtain ⟨n, e⟩ := dropWhile_dropN quiet ts
  exact ⟨n + 1, by show (ts.dropWhile quiet).drop 1 = _; rw [e, List.drop_drop]⟩
theorem take_lt {ts : List Tok} (h : nxt ts ≠ none) : (take ts).2.length < ts.length := by
  have h1 : (ts.dropWhile quiet).length ≤ ts.length := (List.dropWhile_sublist _).length_le
  have h2 : 0 < (ts.dropWhile quiet).length := by
    rcases Nat.eq_zero_or_pos (ts.dropWhile quiet).length with g | g
    · exfalso; apply h; unfold nxt; rw [List.length_eq_zero_iff.1 g]; rfl
    · exact g
  show ((ts.dropWhile quiet).drop 1).length < _
  rw [List.length_drop]; omega
theorem Shr.want (x : List UInt8) : Shr (want x) := Shr.ite (c := isN x) Shr.take (Shr.miss x)
theorem Shr.wname : Shr wname := Shr.ite (c := fun ts => kindN ts == 3) Shr.take (Shr.miss sName)
theorem isN_next {x : List UInt8} {ts : List Tok} (h : isN x ts = true) : nxt ts ≠ none := by
  intro e; unfold isN at h; rw [e] at h; cases h
theorem kindN_next {k : Nat} {ts : List Tok} (hk : k ≠ 0) (h : (kindN ts == k) = true) : nxt ts ≠ none := by
  intro e; unfold kindN at h; rw [e] at h; simp at h; omega
theorem wantP_sign {x : List UInt8} {ts : List Tok} (hg : Good ts) (hs : x ∈ words ∨ x ∈ signs) : wantP x ts = want x ts := by
  unfold wantP want; rw [pN_sign hg hs]
theorem wantP_name {ts : List Tok} (hg : Good ts) : wantP sName ts = wname ts := by
  unfold wantP wname; rw [pN_name hg]
theorem wantsP_one (x : List UInt8) : wantsP [x] = wantP x := by rw [wantsP, wantsP, andThen_nil]

theorem sevGo_fuel {one : R} (hO : Shr one) : ∀ (n : Nat) (ts : List Tok), ts.length ≤ n → sevGo one n ts = sevGo one ts.length ts := by
  intro n
  induction n using Nat.strongRecOn with
  | _ n ih =>
    intro ts h
    rcases Nat.lt_or_ge ts.length n with hlt | hge
    · cases n with
      | zero => omega
      | succ n =>
        cases hm : ts.length with
        | zero =>
          have h0 : ts = [] := List.length_eq_zero_iff.1 hm
          subst h0; rfl
        | succ m =>
          unfold sevGo
          by_cases hc : isN [44] ts = true
          · rw [if_pos hc, if_pos hc]
            have hl := take_lt (isN_next hc)
            have hl2 := hO.le (take ts).2
            have e1 := ih n (by omega) (one (take ts).2).2 (by omega)
            have e2 := ih m (by omega) (one (take ts).2).2 (by omega)
            show (_, _) = (_, _)
            simp only [X.andThen]
            rw [e1, e2]
          · rw [if_neg hc, if_neg hc]
    · rw [show n = ts.length by omega]
/-- The loop, as often as it is needed. -/
def sevL (one : R) : R := fun ts => sevGo one ts.length ts
theorem sevL_yes {one : R} (hO : Shr one) {ts : List Tok} (h : isN [44] ts = true) : sevL one ts = andThen take (andThen one (sevL one)) ts := by
  have hl := take_lt (isN_next h)
  have hl2 := hO.le (take ts).2
  unfold sevL
  obtain ⟨m, hm⟩ : ∃ m, ts.length = m + 1 := ⟨ts.length - 1, by omega⟩
  rw [hm]
  conv => lhs; unfold sevGo
  rw [if_pos h]
  simp only [X.andThen]
  rw [sevGo_fuel hO m _ (by omega)]
theorem sevL_no {one : R} {ts : List Tok} (h : isN [44] ts = false) : sevL one ts = ([], ts) := by
  unfold sevL
  cases ts.length with
  | zero => rfl
  | succ m => unfold sevGo; rw [if_neg (by rw [h]; simp)]
theorem Shr.sevGo {one : R} (h : Shr one) : ∀ n, Shr (sevGo one n)
  | 0 => Shr.nil
  | n + 1 => Shr.ite (c := isN [44]) (Shr.take.andThen (h.andThen (Shr.sevGo h n))) Shr.nil
theorem Shr.sevL {one : R} (h : Shr one) : Shr (sevL one) := fun ts => Shr.sevGo h ts.length ts
theorem several_eq (one : R) (e : List UInt8) (ts : List Tok) : several one e ts = if isN e ts then want e ts else andThen one (andThen (sevL one) (want e)) ts := rfl
theorem Shr.several {one : R} (h : Shr one) (e : List UInt8) : Shr (several one e) := Shr.ite (c := isN e) (Shr.want e) (h.andThen (h.sevL.andThen (Shr.want e)))
theorem Shr.params : Shr params := ((Shr.want _).andThen (Shr.wname.several _)).node 6

theorem rowGo_fuel {one : R} {ok : List Tok → Bool} (hO : Shr one) (hok : ∀ ts, ok ts = true → nxt ts ≠ none) : ∀ (n : Nat) (p : List Part) (ts : List Tok), ts.length ≤ n → rowGo one ok n p ts = rowGo one ok ts.length p ts := by
  intro n
  induction n using Nat.strongRecOn with
  | _ n ih =>
    intro p ts h
    rcases Nat.lt_or_ge ts.length n with hlt | hge
    · cases n with
      | zero => omega
      | succ n =>
        by_cases hc : ok ts = true
        · have hl := take_lt (hok ts hc)
          have hl2 := hO.le (take ts).2
          obtain ⟨m, hm⟩ : ∃ m, ts.length = m + 1 := ⟨ts.length - 1, by omega⟩
          rw [hm]
          unfold rowGo
          rw [if_pos hc, if_pos hc, ih n (by omega) _ _ (by show (one (take ts).2).2.length ≤ _; omega), ih m (by omega) _ _ (by show (one (take ts).2).2.length ≤ _; omega)]
        · have e : ∀ m, rowGo one ok (m + 1) p ts = (p, ts) := fun m => by unfold rowGo; rw [if_neg hc]
          rw [e n]
          cases hm : ts.length with
          | zero => rfl
          | succ m => rw [e m]
    · rw [show n = ts.length by omega]
def rowL (one : R) (ok : List Tok → Bool) (p : List Part) : R := fun ts => rowGo one ok ts.length p ts
theorem rowL_yes {one : R} {ok : List Tok → Bool} (hO : Shr one) (hok : ∀ ts, ok ts = true → nxt ts ≠ none) {p : List Part} {ts : List Tok} (h : ok ts = true) : rowL one ok p ts = rowL one ok [.br 10 (p ++ (andThen take one ts).1)] (andThen take one ts).2 := by
  have hl := take_lt (hok ts h)
  have hl2 := hO.le (take ts).2
  unfold rowL
  obtain ⟨m, hm⟩ : ∃ m, ts.length = m + 1 := ⟨ts.length - 1, by omega⟩
  rw [hm]
  conv => lhs; unfold rowGo
  rw [if_pos h, rowGo_fuel hO hok m _ _ (by show (one (take ts).2).2.length ≤ _; omega)]
theorem rowL_no {one : R} {ok : List Tok → Bool} {p : List Part} {ts : List Tok} (h : ok ts = false) : rowL one ok p ts = (p, ts) := by
  unfold rowL
  cases ts.length with
  | zero => rfl
  | succ m => unfold rowGo; rw [if_neg (by rw [h]; simp)]
theorem row_eq (one : R) (ok : List Tok → Bool) (ts : List Tok) : row one ok ts = rowL one ok (one ts).1 (one ts).2 := rfl
theorem Shr.rowGo {one : R} {ok : List Tok → Bool} (h : Shr one) : ∀ (n : Nat) (p : List Part), Shr (rowGo one ok n p)
  | 0, _ => fun _ => ⟨0, rfl⟩
  | n + 1, p => by
    intro ts
    unfold X.rowGo
    split
    · obtain ⟨m, e⟩ := (Shr.take.andThen h) ts
      obtain ⟨m', e'⟩ := Shr.rowGo (ok := ok) h n [.br 10 (p ++ (X.andThen X.take one ts).1)] (X.andThen X.take one ts).2
      exact ⟨m + m', by rw [e', e, List.drop_drop]⟩
    · exact ⟨0, rfl⟩
theorem Shr.row {one : R} {ok : List Tok → Bool} (h : Shr one) : Shr (row one ok) := by
  intro ts
  obtain ⟨m, e⟩ := h ts
  obtain ⟨m', e'⟩ := Shr.rowGo (ok := ok) h (one ts).2.length (one ts).1 (one ts).2
  exact ⟨m + m', by show (X.rowGo _ _ _ _ _).2 = _; rw [e', e, List.drop_drop]⟩

theorem Shr.args {E : R} (h : Shr E) : Shr (args E) := (Shr.take.andThen (h.several _)).node 12
theorem args_lt {E : R} (h : Shr E) {ts : List Tok} (hn : nxt ts ≠ none) : (args E ts).2.length < ts.length := by
  have h1 := take_lt hn
  have h2 := (h.several [41]).le (take ts).2
  show (several E [41] (take ts).2).2.length < _
  omega
theorem callGo_fuel {E : R} (hE : Shr E) : ∀ (n : Nat) (p : List Part) (ts : List Tok), ts.length ≤ n → callGo E n p ts = callGo E ts.length p ts := by
  intro n
  induction n using Nat.strongRecOn with
  | _ n ih =>
    intro p ts h
    rcases Nat.lt_or_ge ts.length n with hlt | hge
    · cases n with
      | zero => omega
      | succ n =>
        by_cases hc : isN [40] ts = true
        · have hl := args_lt hE (isN_next hc)
          obtain ⟨m, hm⟩ : ∃ m, ts.length = m + 1 := ⟨ts.length - 1, by omega⟩
          rw [hm]
          unfold callGo
          rw [if_pos hc, if_pos hc, ih n (by omega) _ _ (by omega), ih m (by omega) _ _ (by omega)]
        · have e : ∀ m, callGo E (m + 1) p ts = (p, ts) := fun m => by unfold callGo; rw [if_neg hc]
          rw [e n]
          cases hm : ts.length with
          | zero => rfl
          | succ m => rw [e m]
    · rw [show n = ts.length by omega]
def callL (E : R) (p : List Part) : R := fun ts => callGo E ts.length p ts
theorem callL_yes {E : R} (hE : Shr E) {p : List Part} {ts : List Tok} (h : isN [40] ts = true) : callL E p ts = callL E [.br 11 (p ++ (args E ts).1)] (args E ts).2 := by
  have hl := args_lt hE (isN_next h)
  unfold callL
  obtain ⟨m, hm⟩ : ∃ m, ts.length = m + 1 := ⟨ts.length - 1, by omega⟩
  rw [hm]
  conv => lhs; unfold callGo
  rw [if_pos h, callGo_fuel hE m _ _ (by omega)]
theorem callL_no {E : R} {p : List Part} {ts : List Tok} (h : isN [40] ts = false) : callL E p ts = (p, ts) := by
  unfold callL
  cases ts.length with
  | zero => rfl
  | succ m => unfold callGo; rw [if_neg (by rw [h]; simp)]
theorem Shr.callGo {E : R} (h : Shr E) : ∀ (n : Nat) (p : List Part), Shr (callGo E n p)
  | 0, _ => fun _ => ⟨0, rfl⟩
  | n + 1, p => by
    intro ts
    unfold X.callGo
    split
    · obtain ⟨m, e⟩ := h.args ts
      obtain ⟨m', e'⟩ := Shr.callGo h n [.br 11 (p ++ (X.args E ts).1)] (X.args E ts).2
      exact ⟨m + m', by rw [e', e, List.drop_drop]⟩
    · exact ⟨0, rfl⟩
theorem Shr.part {E : R} (h : Shr E) : Shr (part E) :=
  Shr.ite (c := fun ts => kindN ts == 5) (Shr.take.node _) <|
  Shr.ite (c := fun ts => kindN ts == 6) (Shr.take.node _) <|
  Shr.ite (c := fun ts => isN [116, 114, 117, 101] ts || isN [102, 97, 108, 115, 101] ts) (Shr.take.node _) <|
  Shr.ite (c := fun ts => kindN ts == 3) (Shr.take.node _) <|
  Shr.ite (c := isN [63]) (Shr.take.node _) <|
  Shr.ite (c := isN [40]) ((Shr.take.andThen (h.andThen (Shr.want _))).node _) <|
  Shr.ite (c := isN [91]) ((Shr.take.andThen (h.several _)).node _) (Shr.miss _)
theorem Shr.call {E : R} (h : Shr E) : Shr (call E) := by
  intro ts
  obtain ⟨m, e⟩ := h.part ts
  obtain ⟨m', e'⟩ := Shr.callGo h (X.part E ts).2.length (X.part E ts).1 (X.part E ts).2
  exact ⟨m + m', by show (X.callGo _ _ _ _).2 = _; rw [e', e, List.drop_drop]⟩
theorem Shr.product {E : R} (h : Shr E) : Shr (product E) := h.call.row
theorem Shr.sum {E : R} (h : Shr E) : Shr (sum E) := h.product.row
theorem Shr.comparison {E : R} (h : Shr E) : Shr (comparison E) := by
  intro ts
  by_cases hc : (isN [61, 61] (X.sum E ts).2 || isN [60] (X.sum E ts).2) = true
  · have e3 : (X.comparison E ts).2 = (X.andThen X.take (X.sum E) (X.sum E ts).2).2 := by unfold X.comparison; rw [if_pos hc]
    obtain ⟨m, e⟩ := h.sum ts
    obtain ⟨m', e'⟩ := (Shr.take.andThen h.sum) (X.sum E ts).2
    refine ⟨m + m', ?_⟩
    rw [e3, e', e, List.drop_drop]
  · have e3 : X.comparison E ts = X.sum E ts := by unfold X.comparison; rw [if_neg hc]
    rw [e3]; exact h.sum ts
theorem Shr.expr : ∀ n, Shr (expr n)
  | 0 => Shr.miss _
  | n + 1 =>
    have h := Shr.expr n
    Shr.ite (c := isN [108, 101, 116]) ((Shr.take.andThen (Shr.wname.andThen ((Shr.want _).andThen (h.andThen ((Shr.want _).andThen h))))).node _) <|
    Shr.ite (c := isN [105, 102]) ((Shr.take.andThen (h.andThen ((Shr.want _).andThen (h.andThen ((Shr.want _).andThen h))))).node _) <|
    Shr.ite (c := isN [102, 117, 110]) ((Shr.take.andThen (Shr.params.andThen ((Shr.want _).andThen h))).node _) h.comparison
end X
end Go.Proofs.YtpoipoencbieeaaDoor
