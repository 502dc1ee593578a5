/- Plain mathematics: what is read, if nothing is missing: shapes. -/
import Derived.Test.YtohpfegpnbdfnaaGreatDoorLd
import Derived.Test.YtohpfegpnbdfnaaGreatDoorXk
namespace Go.Proofs.YtohpfegpnbdfnaaGreatDoor
open M
namespace X
mutual
/-- Nothing is missing in it. -/
def nm : Part → Bool
  | .leaf _ _ => true
  | .miss _ => false
  | .br _ ps => nms ps
def nms : List Part → Bool
  | [] => true
  | p :: ps => nm p && nms ps
end
theorem nms_append (a b : List Part) : nms (a ++ b) = (nms a && nms b) := by
  induction a with
  | nil => rfl
  | cons p a ih => rw [List.cons_append, nms, ih, nms, Bool.and_assoc]
theorem nms_two {a b : List Part} (h : nms (a ++ b) = true) : nms a = true ∧ nms b = true := by rw [nms_append] at h; simpa using h
theorem nms_one (p : Part) : nms [p] = nm p := by rw [nms, nms, Bool.and_true]
theorem nm_br (k : Nat) (ps : List Part) : nm (.br k ps) = nms ps := by rw [nm]
theorem quiet_lf (t : Tok) : quietP (lf t) = quiet t := rfl
theorem pts_quiet {ts : List Tok} (h : ∀ t ∈ ts, quiet t = true) : pts (ts.map lf) = [] := by
  unfold pts
  rw [List.filter_eq_nil_iff]
  intro p hp
  obtain ⟨t, ht, rfl⟩ := List.mem_map.1 hp
  rw [quiet_lf, h t ht]; decide
theorem take_pts {ts : List Tok} (h : nxt ts ≠ none) : ∃ t, nxt ts = some t ∧ pts (take ts).1 = [lf t] := by
  unfold nxt at h
  cases hd : ts.dropWhile quiet with
  | nil => rw [hd] at h; exact absurd rfl h
  | cons t l =>
    have hne : quiet t = false := by
      have := List.head?_dropWhile_not quiet ts
      rw [hd] at this
      simpa using this
    refine ⟨t, by unfold nxt; rw [hd]; rfl, ?_⟩
    show pts ((ts.takeWhile quiet ++ (ts.dropWhile quiet).take 1).map lf) = _
    rw [hd, List.map_append, pts_append, pts_quiet (fun t ht => List.all_eq_true.1 List.all_takeWhile t ht), List.nil_append]
    show pts [lf t] = _
    unfold pts
    rw [List.filter_cons_of_pos (by rw [quiet_lf, hne]; decide)]; rfl
theorem isN_text {s : List UInt8} {ts : List Tok} {t : Tok} (h : isN s ts = true) (ht : nxt ts = some t) : t.2 = s := by
  unfold isN at h
  rw [ht] at h
  simp at h
  exact h.2
theorem want_pts {s : List UInt8} {ts : List Tok} (h : nms (want s ts).1 = true) : ∃ t : Tok, t.2 = s ∧ pts (want s ts).1 = [lf t] := by
  unfold want at h ⊢
  by_cases hc : isN s ts = true
  · rw [if_pos hc]
    obtain ⟨t, h1, h2⟩ := take_pts (isN_next hc)
    exact ⟨t, isN_text hc h1, h2⟩
  · rw [if_neg hc] at h; cases h
theorem wname_pts {ts : List Tok} (h : nms (wname ts).1 = true) : ∃ t : Tok, pts (wname ts).1 = [lf t] := by
  unfold wname at h ⊢
  by_cases hc : (kindN ts == 3) = true
  · rw [if_pos hc]
    obtain ⟨t, h1, h2⟩ := take_pts (kindN_next (by decide) hc)
    exact ⟨t, h2⟩
  · rw [if_neg hc] at h; cases h
theorem Sh.br {p : Part} (h : Sh p) : ∃ k ps, p = .br k ps := by
  cases h <;> exact ⟨_, _, rfl⟩
theorem Sh.pts {p : Part} (h : Sh p) : X.pts [p] = [p] := by
  obtain ⟨k, ps, rfl⟩ := h.br; rfl
theorem pts_br (k : Nat) (ps : List Part) : pts [.br k ps] = [.br k ps] := rfl
/-- What reads one expression, if nothing is missing. -/
def ShR (f : R) : Prop := ∀ ts, nms (f ts).1 = true → ∃ p, (f ts).1 = [p] ∧ Sh p
theorem sev_sh {one : R} (hO : ShR one) (sO : Shr one) (c : List UInt8) (n : Nat) : ∀ ts : List Tok, ts.length ≤ n → nms (andThen (sevL one) (want c) ts).1 = true → ∀ p, Sh p → ShA c (p :: pts (andThen (sevL one) (want c) ts).1) := by
  induction n with
  | zero =>
    intro ts h hm p hp
    have : ts = [] := List.length_eq_zero_iff.1 (by omega)
    subst this
    have e : andThen (sevL one) (want c) [] = want c [] := rfl
    rw [e] at hm ⊢
    obtain ⟨t, h1, h2⟩ := want_pts hm
    rw [h2]; exact .last c p t hp h1
  | succ n ih =>
    intro ts h hm p hp
    cases hc : isN [44] ts with
    | false =>
      have e : andThen (sevL one) (want c) ts = want c ts := by unfold andThen; rw [sevL_no hc]; rfl
      rw [e] at hm ⊢
      obtain ⟨t, h1, h2⟩ := want_pts hm
      rw [h2]; exact .last c p t hp h1
    | true =>
      have e : (andThen (sevL one) (want c) ts).1 = (take ts).1 ++ ((one (take ts).2).1 ++ (andThen (sevL one) (want c) (one (take ts).2).2).1) := by
        unfold andThen
        rw [sevL_yes sO hc]
        simp only [andThen, List.append_assoc]
      rw [e] at hm ⊢
      obtain ⟨m1, m2⟩ := nms_two hm
      obtain ⟨m3, m4⟩ := nms_two m2
      obtain ⟨t, t1, t2⟩ := take_pts (isN_next hc)
      obtain ⟨q, q1, q2⟩ := hO _ m3
      have hl := take_lt (isN_next hc)
      have hl2 := sO.le (take ts).2
      have := ih (one (take ts).2).2 (by omega) m4 q q2
      rw [pts_append, pts_append, t2, q1, q2.pts]
      exact .more c p t q _ hp (isN_text hc t1) this
theorem several_sh {one : R} (hO : ShR one) (sO : Shr one) (c : List UInt8) (ts : List Tok) (h : nms (several one c ts).1 = true) : (∃ t : Tok, t.2 = c ∧ pts (several one c ts).1 = [lf t]) ∨ ShA c (pts (several one c ts).1) := by
  rw [several_eq] at h ⊢
  cases hc : isN c ts with
  | true =>
    rw [hc, if_pos rfl] at h
    rw [if_pos rfl]
    exact .inl (want_pts h)
  | false =>
    rw [hc, if_neg (by simp)] at h
    rw [if_neg (by simp)]
    have e : (andThen one (andThen (sevL one) (want c)) ts).1 = (one ts).1 ++ (andThen (sevL one) (want c) (one ts).2).1 := rfl
    rw [e] at h ⊢
    obtain ⟨m1, m2⟩ := nms_two h
    obtain ⟨p, p1, p2⟩ := hO _ m1
    rw [pts_append, p1, p2.pts]
    exact .inr (sev_sh hO sO c _ _ (Nat.le_refl _) m2 p p2)
/-- What stands in brackets that are there. -/
theorem brackets_sh {one : R} (hO : ShR one) (sO : Shr one) {o c : List UInt8} {ts : List Tok} (hn : isN o ts = true) (h : nms (andThen take (several one c) ts).1 = true) : ShB o c (pts (andThen take (several one c) ts).1) := by
  have e : (andThen take (several one c) ts).1 = (take ts).1 ++ (several one c (take ts).2).1 := rfl
  rw [e] at h ⊢
  obtain ⟨m1, m2⟩ := nms_two h
  obtain ⟨t, t1, t2⟩ := take_pts (isN_next hn)
  rw [pts_append, t2]
  rcases several_sh hO sO c _ m2 with ⟨u, u1, u2⟩ | h3
  · rw [u2]; exact .none o c t u (isN_text hn t1) u1
  · exact .some o c t _ (isN_text hn t1) h3
theorem callL_nm {E : R} (sE : Shr E) (n : Nat) : ∀ (ts : List Tok) (p : List Part), ts.length ≤ n → nms (callL E p ts).1 = true → nms p = true := by
  induction n with
  | zero =>
    intro ts p h hm
    have : ts = [] := List.length_eq_zero_iff.1 (by omega)
    subst this; exact hm
  | succ n ih =>
    intro ts p h hm
    cases hc : isN [40] ts with
    | false => rw [callL_no hc] at hm; exact hm
    | true =>
      rw [callL_yes sE hc] at hm
      have hl : (args E ts).2.length < ts.length := by
        have h1 := take_lt (isN_next hc)
        have h2 := (sE.several [41]).le (take ts).2
        show (several E [41] (take ts).2).2.length < _
        omega
      have := ih _ _ (by omega) hm
      rw [nms_one, nm_br] at this
      exact (nms_two this).1
theorem callL_sh {E : R} (hE : ShR E) (sE : Shr E) (n : Nat) : ∀ (ts : List Tok) (p : Part), ts.length ≤ n → Sh p → nms (callL E [p] ts).1 = true → ∃ q, (callL E [p] ts).1 = [q] ∧ Sh q := by
  induction n with
  | zero =>
    intro ts p h hp hm
    have : ts = [] := List.length_eq_zero_iff.1 (by omega)
    subst this; exact ⟨p, rfl, hp⟩
  | succ n ih =>
    intro ts p h hp hm
    cases hc : isN [40] ts with
    | false => rw [callL_no hc]; exact ⟨p, rfl, hp⟩
    | true =>
      rw [callL_yes sE hc] at hm ⊢
      have hl : (args E ts).2.length < ts.length := by
        have h1 := take_lt (isN_next hc)
        have h2 := (sE.several [41]).le (take ts).2
        show (several E [41] (take ts).2).2.length < _
        omega
      have h3 := callL_nm sE _ _ _ (Nat.le_refl _) hm
      rw [nms_one, nm_br] at h3
      have h4 := (nms_two h3).2
      have e : (args E ts).1 = [.br 12 (andThen take (several E [41]) ts).1] := rfl
      rw [e, nms_one, nm_br] at h4
      refine ih _ _ (by omega) ?_ hm
      refine .call _ p (andThen take (several E [41]) ts).1 ?_ hp (brackets_sh hE sE hc h4)
      rw [pts_append, hp.pts, e]; rfl
theorem rowL_nm {one : R} {ok : List Tok → Bool} (sO : Shr one) (hok : ∀ ts, ok ts = true → nxt ts ≠ none) (n : Nat) : ∀ (ts : List Tok) (p : List Part), ts.length ≤ n → nms (rowL one ok p ts).1 = true → nms p = true := by
  induction n with
  | zero =>
    intro ts p h hm
    have : ts = [] := List.length_eq_zero_iff.1 (by omega)
    subst this; exact hm
  | succ n ih =>
    intro ts p h hm
    cases hc : ok ts with
    | false => rw [rowL_no hc] at hm; exact hm
    | true =>
      rw [rowL_yes sO hok hc] at hm
      have hl : (andThen take one ts).2.length < ts.length := by
        have h1 := take_lt (hok ts hc)
        have h2 := sO.le (take ts).2
        show (one (take ts).2).2.length < _
        omega
      have := ih _ _ (by omega) hm
      rw [nms_one, nm_br] at this
      exact (nms_two this).1
theorem rowL_sh {one : R} {ok : List Tok → Bool} (hO : ShR one) (sO : Shr one) (hok : ∀ ts, ok ts = true → nxt ts ≠ none) (n : Nat) : ∀ (ts : List Tok) (p : Part), ts.length ≤ n → Sh p → nms (rowL one ok [p] ts).1 = true → ∃ q, (rowL one ok [p] ts).1 = [q] ∧ Sh q := by
  induction n with
  | zero =>
    intro ts p h hp hm
    have : ts = [] := List.length_eq_zero_iff.1 (by omega)
    subst this; exact ⟨p, rfl, hp⟩
  | succ n ih =>
    intro ts p h hp hm
    cases hc : ok ts with
    | false => rw [rowL_no hc]; exact ⟨p, rfl, hp⟩
    | true =>
      rw [rowL_yes sO hok hc] at hm ⊢
      have hl : (andThen take one ts).2.length < ts.length := by
        have h1 := take_lt (hok ts hc)
        have h2 := sO.le (take ts).2
        show (one (take ts).2).2.length < _
        omega
      have h3 := rowL_nm sO hok _ _ _ (Nat.le_refl _) hm
      rw [nms_one, nm_br] at h3
      have h4 := (nms_two h3).2
      have e : (andThen take one ts).1 = (take ts).1 ++ (one (take ts).2).1 := rfl
      rw [e] at h4
      obtain ⟨t, t1, t2⟩ := take_pts (hok ts hc)
      obtain ⟨q, q1, q2⟩ := hO _ (nms_two h4).2
      refine ih _ _ (by omega) ?_ hm
      refine .bin _ p t q ?_ hp q2
      rw [pts_append, hp.pts, e, pts_append, t2, q1, q2.pts]; rfl
theorem ShR.row {one : R} {ok : List Tok → Bool} (hO : ShR one) (sO : Shr one) (hok : ∀ ts, ok ts = true → nxt ts ≠ none) : ShR (row one ok) := by
  intro ts h
  have e : X.row one ok ts = rowL one ok (one ts).1 (one ts).2 := rfl
  rw [e] at h ⊢
  obtain ⟨p, p1, p2⟩ := hO ts (rowL_nm sO hok _ _ _ (Nat.le_refl _) h)
  rw [p1] at h ⊢
  exact rowL_sh hO sO hok _ _ p (Nat.le_refl _) p2 h
theorem tok_sh {k : Nat} (hk : 15 ≤ k ∧ k ≤ 19) {ts : List Tok} (h : nxt ts ≠ none) : ∃ p, (node k take ts).1 = [p] ∧ Sh p := by
  obtain ⟨t, t1, t2⟩ := take_pts h
  exact ⟨_, rfl, .tok k t _ hk t2⟩
theorem ShR.part {E : R} (hE : ShR E) (sE : Shr E) : ShR (part E) := by
  intro ts h
  unfold X.part at h ⊢
  by_cases c1 : (kindN ts == 5) = true
  · rw [if_pos c1]; exact tok_sh (by decide) (kindN_next (by decide) c1)
  rw [if_neg c1] at h ⊢
  by_cases c2 : (kindN ts == 6) = true
  · rw [if_pos c2]; exact tok_sh (by decide) (kindN_next (by decide) c2)
  rw [if_neg c2] at h ⊢
  by_cases c3 : (isN [116, 114, 117, 101] ts || isN [102, 97, 108, 115, 101] ts) = true
  · rw [if_pos c3]
    refine tok_sh (by decide) ?_
    rcases Bool.or_eq_true _ _ ▸ c3 with c | c
    · exact isN_next c
    · exact isN_next c
  rw [if_neg c3] at h ⊢
  by_cases c4 : (kindN ts == 3) = true
  · rw [if_pos c4]; exact tok_sh (by decide) (kindN_next (by decide) c4)
  rw [if_neg c4] at h ⊢
  by_cases c5 : isN [63] ts = true
  · rw [if_pos c5]; exact tok_sh (by decide) (isN_next c5)
  rw [if_neg c5] at h ⊢
  by_cases c6 : isN [40] ts = true
  · rw [if_pos c6] at h ⊢
    have e : (node 14 (andThen take (andThen E (want [41]))) ts).1 = [.br 14 ((take ts).1 ++ ((E (take ts).2).1 ++ (want [41] (E (take ts).2).2).1))] := rfl
    rw [e] at h ⊢
    rw [nms_one, nm_br] at h
    obtain ⟨m1, m2⟩ := nms_two h
    obtain ⟨m3, m4⟩ := nms_two m2
    obtain ⟨t, t1, t2⟩ := take_pts (isN_next c6)
    obtain ⟨q, q1, q2⟩ := hE _ m3
    obtain ⟨u, u1, u2⟩ := want_pts m4
    refine ⟨_, rfl, .group _ t q u ?_ (isN_text c6 t1) u1 q2⟩
    rw [pts_append, pts_append, t2, q1, q2.pts, u2]; rfl
  rw [if_neg c6] at h ⊢
  by_cases c7 : isN [91] ts = true
  · rw [if_pos c7] at h ⊢
    have e : (node 13 (andThen take (several E [93])) ts).1 = [.br 13 (andThen take (several E [93]) ts).1] := rfl
    rw [e] at h ⊢
    rw [nms_one, nm_br] at h
    exact ⟨_, rfl, .list _ (brackets_sh hE sE c7 h)⟩
  · rw [if_neg c7] at h; cases h
theorem ShR.call {E : R} (hE : ShR E) (sE : Shr E) : ShR (call E) := by
  intro ts h
  have e : X.call E ts = callL E (X.part E ts).1 (X.part E ts).2 := rfl
  rw [e] at h ⊢
  obtain ⟨p, p1, p2⟩ := hE.part sE ts (callL_nm sE _ _ _ (Nat.le_refl _) h)
  rw [p1] at h ⊢
  exact callL_sh hE sE _ _ p (Nat.le_refl _) p2 h
theorem ShR.product {E : R} (hE : ShR E) (sE : Shr E) : ShR (product E) := (hE.call sE).row sE.call (fun _ hc => isN_next hc)
theorem ShR.sum {E : R} (hE : ShR E) (sE : Shr E) : ShR (sum E) := (hE.product sE).row sE.product (fun ts hc => by
  simp only [Bool.or_eq_true] at hc
  rcases hc with (c | c) | c
  · exact isN_next c
  · exact isN_next c
  · exact isN_next c)
theorem ShR.comparison {E : R} (hE : ShR E) (sE : Shr E) : ShR (comparison E) := by
  intro ts h
  have hs := hE.sum sE
  unfold X.comparison at h ⊢
  generalize X.sum E = F at *
  by_cases hc : (isN [61, 61] (F ts).2 || isN [60] (F ts).2) = true
  · rw [if_pos hc] at h ⊢
    have hn : nxt (F ts).2 ≠ none := by
      simp only [Bool.or_eq_true] at hc
      rcases hc with c | c
      · exact isN_next c
      · exact isN_next c
    have e : (andThen take F (F ts).2).1 = (take (F ts).2).1 ++ (F (take (F ts).2).2).1 := rfl
    simp only at h ⊢
    rw [e] at h ⊢
    rw [nms_one, nm_br] at h
    obtain ⟨m1, m2⟩ := nms_two h
    obtain ⟨m3, m4⟩ := nms_two m2
    obtain ⟨p, p1, p2⟩ := hs ts m1
    obtain ⟨t, t1, t2⟩ := take_pts hn
    obtain ⟨q, q1, q2⟩ := hs _ m4
    refine ⟨_, rfl, .bin _ p t q ?_ p2 q2⟩
    rw [pts_append, pts_append, p1, p2.pts, t2, q1, q2.pts]; rfl
  · rw [if_neg hc] at h ⊢; exact hs ts h
theorem params_br (ts : List Tok) : ∃ qs, (params ts).1 = [.br 6 qs] := ⟨_, rfl⟩
theorem ShR.expr : ∀ n, ShR (expr n)
  | 0 => fun ts h => by cases h
  | n + 1 => by
    have hE : ShR (X.expr n) := ShR.expr n
    have sE : Shr (X.expr n) := Shr.expr n
    intro ts h
    unfold X.expr at h ⊢
    generalize X.expr n = E at *
    by_cases c1 : isN [108, 101, 116] ts = true
    · rw [if_pos c1] at h ⊢
      have e : (node 7 (andThen take (andThen wname (andThen (want [61]) (andThen E (andThen (want [105, 110]) E))))) ts).1 = [.br 7 ((take ts).1 ++ ((wname (take ts).2).1 ++ ((want [61] (wname (take ts).2).2).1 ++ ((E (want [61] (wname (take ts).2).2).2).1 ++ ((want [105, 110] (E (want [61] (wname (take ts).2).2).2).2).1 ++ (E (want [105, 110] (E (want [61] (wname (take ts).2).2).2).2).2).1)))))] := rfl
      rw [e] at h ⊢
      rw [nms_one, nm_br] at h
      obtain ⟨m1, h⟩ := nms_two h
      obtain ⟨m2, h⟩ := nms_two h
      obtain ⟨m3, h⟩ := nms_two h
      obtain ⟨m4, h⟩ := nms_two h
      obtain ⟨m5, m6⟩ := nms_two h
      obtain ⟨a, a1, a2⟩ := take_pts (isN_next c1)
      obtain ⟨b, b1⟩ := wname_pts m2
      obtain ⟨c, c1, c2⟩ := want_pts m3
      obtain ⟨p, p1, p2⟩ := hE _ m4
      obtain ⟨d, d1, d2⟩ := want_pts m5
      obtain ⟨q, q1, q2⟩ := hE _ m6
      refine ⟨_, rfl, .lett _ a b c d p q ?_ p2 q2⟩
      rw [pts_append, pts_append, pts_append, pts_append, pts_append, a2, b1, c2, p1, p2.pts, d2, q1, q2.pts]; rfl
    rw [if_neg c1] at h ⊢
    by_cases c2 : isN [105, 102] ts = true
    · rw [if_pos c2] at h ⊢
      have e : (node 8 (andThen take (andThen E (andThen (want [116, 104, 101, 110]) (andThen E (andThen (want [101, 108, 115, 101]) E))))) ts).1 = [.br 8 ((take ts).1 ++ ((E (take ts).2).1 ++ ((want [116, 104, 101, 110] (E (take ts).2).2).1 ++ ((E (want [116, 104, 101, 110] (E (take ts).2).2).2).1 ++ ((want [101, 108, 115, 101] (E (want [116, 104, 101, 110] (E (take ts).2).2).2).2).1 ++ (E (want [101, 108, 115, 101] (E (want [116, 104, 101, 110] (E (take ts).2).2).2).2).2).1)))))] := rfl
      rw [e] at h ⊢
      rw [nms_one, nm_br] at h
      obtain ⟨m1, h⟩ := nms_two h
      obtain ⟨m2, h⟩ := nms_two h
      obtain ⟨m3, h⟩ := nms_two h
      obtain ⟨m4, h⟩ := nms_two h
      obtain ⟨m5, m6⟩ := nms_two h
      obtain ⟨a, a1, a2⟩ := take_pts (isN_next c2)
      obtain ⟨p, p1, p2⟩ := hE _ m2
      obtain ⟨b, b1, b2⟩ := want_pts m3
      obtain ⟨q, q1, q2⟩ := hE _ m4
      obtain ⟨c, c1, c2⟩ := want_pts m5
      obtain ⟨s, s1, s2⟩ := hE _ m6
      refine ⟨_, rfl, .ite _ a b c p q s ?_ c1 p2 q2 s2⟩
      rw [pts_append, pts_append, pts_append, pts_append, pts_append, a2, p1, p2.pts, b2, q1, q2.pts, c2, s1, s2.pts]; rfl
    rw [if_neg c2] at h ⊢
    by_cases c3 : isN [102, 117, 110] ts = true
    · rw [if_pos c3] at h ⊢
      have e : (node 9 (andThen take (andThen params (andThen (want [61, 62]) E))) ts).1 = [.br 9 ((take ts).1 ++ ((params (take ts).2).1 ++ ((want [61, 62] (params (take ts).2).2).1 ++ (E (want [61, 62] (params (take ts).2).2).2).1)))] := rfl
      rw [e] at h ⊢
      rw [nms_one, nm_br] at h
      obtain ⟨m1, h⟩ := nms_two h
      obtain ⟨m2, h⟩ := nms_two h
      obtain ⟨m3, m4⟩ := nms_two h
      obtain ⟨a, a1, a2⟩ := take_pts (isN_next c3)
      obtain ⟨qs, q1⟩ := params_br (take ts).2
      obtain ⟨b, b1, b2⟩ := want_pts m3
      obtain ⟨p, p1, p2⟩ := hE _ m4
      refine ⟨_, rfl, .fn _ a b qs p ?_ p2⟩
      rw [pts_append, pts_append, pts_append, a2, q1, pts_br, b2, p1, p2.pts]; rfl
    · rw [if_neg c3] at h ⊢; exact hE.comparison sE ts h
end X
end Go.Proofs.YtohpfegpnbdfnaaGreatDoor
