/- Plain mathematics: a kid of the root hangs on its tokens and the next one. -/
import Derived.Test.YtgjbafamiggafaaGreatDoorYd
import Derived.Test.YtgjbafamiggafaaGreatDoorKa
namespace Go.Proofs.YtgjbafamiggafaaGreatDoor
open M
namespace X
/-- What is read hangs on what is taken, and on what is next behind it. -/
def Loc (f : R) : Prop := ∀ (a r r' : List Tok) (ps : List Part), f (a ++ r) = (ps, r) → nxt r = nxt r' → f (a ++ r') = (ps, r')
theorem nxt_app {b r r' : List Tok} (h : nxt r = nxt r') : nxt (b ++ r) = nxt (b ++ r') := by
  unfold nxt at *
  induction b with
  | nil => exact h
  | cons t b ih =>
    rw [List.cons_append, List.cons_append, List.dropWhile_cons, List.dropWhile_cons]
    by_cases hq : quiet t = true
    · rw [if_pos hq, if_pos hq]; exact ih
    · rw [if_neg hq, if_neg hq]; rfl
theorem isN_app {x : List UInt8} {b r r' : List Tok} (h : nxt r = nxt r') : isN x (b ++ r) = isN x (b ++ r') := by
  have := nxt_app (b := b) h
  unfold isN
  rw [this]
theorem kindN_app {b r r' : List Tok} (h : nxt r = nxt r') : kindN (b ++ r) = kindN (b ++ r') := by
  have := nxt_app (b := b) h
  unfold kindN
  rw [this]
/-- What is left is an end of what there was. -/
theorem Shr.split {f : R} (h : Shr f) (ts : List Tok) : ∃ a, ts = a ++ (f ts).2 := by
  obtain ⟨n, e⟩ := h ts
  exact ⟨ts.take n, by rw [e, List.take_append_drop]⟩
theorem Loc.andThen {f g : R} (hf : Loc f) (hg : Loc g) (sf : Shr f) (sg : Shr g) : Loc (X.andThen f g) := by
  intro a r r' ps h hn
  obtain ⟨a1, e1⟩ := sf.split (a ++ r)
  obtain ⟨a2, e2⟩ := sg.split (f (a ++ r)).2
  have h1 : (f (a ++ r)).1 ++ (g (f (a ++ r)).2).1 = ps := congrArg Prod.fst h
  have h2 : (g (f (a ++ r)).2).2 = r := congrArg Prod.snd h
  rw [h2] at e2
  have ha : a = a1 ++ a2 := by
    rw [e2, ← List.append_assoc] at e1
    exact List.append_cancel_right e1
  have f1 := hf a1 (a2 ++ r) (a2 ++ r') (f (a ++ r)).1 (by rw [← List.append_assoc, ← ha]; exact Prod.ext rfl e2) (nxt_app hn)
  have g1 := hg a2 r r' (g (f (a ++ r)).2).1 (by rw [← e2]; exact Prod.ext rfl h2) hn
  show ((f (a ++ r')).1 ++ (g (f (a ++ r')).2).1, (g (f (a ++ r')).2).2) = (ps, r')
  rw [ha, List.append_assoc, f1]
  show (_ ++ (g (a2 ++ r')).1, (g (a2 ++ r')).2) = _
  rw [g1, ← h1]
theorem Loc.node {f : R} (h : Loc f) (k : Nat) : Loc (X.node k f) := by
  intro a r r' ps e hn
  have h1 : [Part.br k (f (a ++ r)).1] = ps := congrArg Prod.fst e
  have h2 : (f (a ++ r)).2 = r := congrArg Prod.snd e
  have := h a r r' (f (a ++ r)).1 (Prod.ext rfl h2) hn
  show ([Part.br k (f (a ++ r')).1], (f (a ++ r')).2) = _
  rw [this, ← h1]
theorem app_self {a r : List Tok} (h : a ++ r = r) : a = [] := by
  have := congrArg List.length h
  rw [List.length_append] at this
  exact List.length_eq_zero_iff.1 (by omega)
theorem pe {x : List Part × List Tok} {r : List Tok} (h : x.2 = r) : x = (x.1, r) := by rw [← h]
theorem Loc.still (f : List Part) : Loc (fun ts => (f, ts)) := by
  intro a r r' ps e _
  have h2 : a ++ r = r := congrArg Prod.snd e
  have h1 : f = ps := congrArg Prod.fst e
  rw [app_self h2, ← h1]; rfl
theorem Loc.ite {f g : R} {b : List Tok → Bool} (hb : ∀ a r r', nxt r = nxt r' → b (a ++ r) = b (a ++ r')) (hf : ∀ (a r r' : List Tok) (ps : List Part), b (a ++ r) = true → f (a ++ r) = (ps, r) → nxt r = nxt r' → f (a ++ r') = (ps, r')) (hg : Loc g) : Loc (fun ts => if b ts then f ts else g ts) := by
  intro a r r' ps e hn
  have hbb := hb a r r' hn
  show (if b (a ++ r') then f (a ++ r') else g (a ++ r')) = _
  have e' : (if b (a ++ r) then f (a ++ r) else g (a ++ r)) = (ps, r) := e
  by_cases h : b (a ++ r) = true
  · rw [if_pos h] at e'
    rw [if_pos (by rw [← hbb]; exact h)]
    exact hf a r r' ps h e' hn
  · rw [if_neg h] at e'
    rw [if_neg (by rw [← hbb]; exact h)]
    exact hg a r r' ps e' hn
/-- What is next is taken. -/
theorem take_loc {a r r' : List Tok} {ps : List Part} (hn : nxt (a ++ r) ≠ none) (e : take (a ++ r) = (ps, r)) : take (a ++ r') = (ps, r') := by
  induction a generalizing ps with
  | nil =>
    exfalso
    have h2 : (take ([] ++ r)).2 = r := congrArg Prod.snd e
    have := take_lt hn
    rw [h2] at this
    simp at this
  | cons t a ih =>
    by_cases hq : quiet t = true
    · have hs : ∀ l, take (t :: l) = (lf t :: (take l).1, (take l).2) := fun l => by
        unfold take
        rw [List.takeWhile_cons, if_pos hq, List.dropWhile_cons, if_pos hq]; rfl
      rw [List.cons_append, hs] at e
      rw [List.cons_append, hs]
      have hn' : nxt (a ++ r) ≠ none := by
        intro e0
        apply hn
        unfold nxt at e0 ⊢
        rw [List.cons_append, List.dropWhile_cons, if_pos hq]; exact e0
      have h1 : lf t :: (take (a ++ r)).1 = ps := congrArg Prod.fst e
      have h2 : (take (a ++ r)).2 = r := congrArg Prod.snd e
      rw [ih hn' (Prod.ext rfl h2), ← h1]
    · have hs : ∀ l, take (t :: l) = ([lf t], l) := fun l => by
        unfold take
        rw [List.takeWhile_cons, if_neg hq, List.dropWhile_cons, if_neg hq]; rfl
      rw [List.cons_append, hs] at e
      rw [List.cons_append, hs]
      have h1 : [lf t] = ps := congrArg Prod.fst e
      have h2 : a ++ r = r := congrArg Prod.snd e
      rw [app_self h2, ← h1]; rfl
/-- A token is taken, and more is read. -/
theorem tk_loc {g : R} (hg : Loc g) (sg : Shr g) {a r r' : List Tok} {ps : List Part} (hn : nxt (a ++ r) ≠ none) (e : X.andThen take g (a ++ r) = (ps, r)) (hr : nxt r = nxt r') : X.andThen take g (a ++ r') = (ps, r') := by
  obtain ⟨a1, e1⟩ := Shr.take.split (a ++ r)
  obtain ⟨a2, e2⟩ := sg.split (take (a ++ r)).2
  have h1 : (take (a ++ r)).1 ++ (g (take (a ++ r)).2).1 = ps := congrArg Prod.fst e
  have h2 : (g (take (a ++ r)).2).2 = r := congrArg Prod.snd e
  rw [h2] at e2
  have ha : a = a1 ++ a2 := by
    rw [e2, ← List.append_assoc] at e1
    exact List.append_cancel_right e1
  have f1 := take_loc (a := a1) (r := a2 ++ r) (r' := a2 ++ r') (ps := (take (a ++ r)).1) (by rw [← List.append_assoc, ← ha]; exact hn) (by rw [← List.append_assoc, ← ha]; exact Prod.ext rfl e2)
  have g1 := hg a2 r r' (g (take (a ++ r)).2).1 (by rw [← e2]; exact Prod.ext rfl h2) hr
  show ((take (a ++ r')).1 ++ (g (take (a ++ r')).2).1, (g (take (a ++ r')).2).2) = (ps, r')
  rw [ha, List.append_assoc, f1]
  show (_ ++ (g (a2 ++ r')).1, (g (a2 ++ r')).2) = _
  rw [g1, ← h1]
theorem tkn_loc {g : R} (hg : Loc g) (sg : Shr g) (k : Nat) {a r r' : List Tok} {ps : List Part} (hn : nxt (a ++ r) ≠ none) (e : X.node k (X.andThen take g) (a ++ r) = (ps, r)) (hr : nxt r = nxt r') : X.node k (X.andThen take g) (a ++ r') = (ps, r') := by
  have h1 : [Part.br k (X.andThen take g (a ++ r)).1] = ps := congrArg Prod.fst e
  have h2 : (X.andThen take g (a ++ r)).2 = r := congrArg Prod.snd e
  have := tk_loc hg sg hn (pe h2) hr
  show ([Part.br k (X.andThen take g (a ++ r')).1], (X.andThen take g (a ++ r')).2) = _
  rw [this, ← h1]
theorem tk1_loc (k : Nat) {a r r' : List Tok} {ps : List Part} (hn : nxt (a ++ r) ≠ none) (e : X.node k take (a ++ r) = (ps, r)) : X.node k take (a ++ r') = (ps, r') := by
  have h1 : [Part.br k (take (a ++ r)).1] = ps := congrArg Prod.fst e
  have h2 : (take (a ++ r)).2 = r := congrArg Prod.snd e
  have := take_loc (r' := r') hn (pe h2)
  show ([Part.br k (take (a ++ r')).1], (take (a ++ r')).2) = _
  rw [this, ← h1]
theorem isN_loc (x : List UInt8) : ∀ a r r' : List Tok, nxt r = nxt r' → isN x (a ++ r) = isN x (a ++ r') := fun _ _ _ h => isN_app h
theorem kindN_loc (k : Nat) : ∀ a r r' : List Tok, nxt r = nxt r' → (kindN (a ++ r) == k) = (kindN (a ++ r') == k) := fun _ _ _ h => by rw [kindN_app h]
theorem Loc.want (x : List UInt8) : Loc (X.want x) := Loc.ite (b := isN x) (isN_loc x) (fun _ _ _ _ h e _ => take_loc (isN_next h) e) (Loc.still _)
theorem Loc.wname : Loc X.wname := Loc.ite (b := fun ts => kindN ts == 3) (kindN_loc 3) (fun _ _ _ _ h e _ => take_loc (kindN_next (by decide) h) e) (Loc.still _)
theorem Loc.ofN {f : R} (h : ∀ (n : Nat) (a : List Tok), a.length ≤ n → ∀ (r r' : List Tok) (ps : List Part), f (a ++ r) = (ps, r) → nxt r = nxt r' → f (a ++ r') = (ps, r')) : Loc f := fun a r r' ps e hn => h a.length a (Nat.le_refl _) r r' ps e hn
/-- How what is read by two is parted. -/
theorem parted {f g : R} (sf : Shr f) (sg : Shr g) {a r : List Tok} {ps : List Part} (e : X.andThen f g (a ++ r) = (ps, r)) : ∃ a1 a2, a = a1 ++ a2 ∧ f (a1 ++ (a2 ++ r)) = ((f (a ++ r)).1, a2 ++ r) ∧ g (a2 ++ r) = ((g (a2 ++ r)).1, r) ∧ (f (a ++ r)).1 ++ (g (a2 ++ r)).1 = ps := by
  obtain ⟨a1, e1⟩ := sf.split (a ++ r)
  obtain ⟨a2, e2⟩ := sg.split (f (a ++ r)).2
  have h1 : (f (a ++ r)).1 ++ (g (f (a ++ r)).2).1 = ps := congrArg Prod.fst e
  have h2 : (g (f (a ++ r)).2).2 = r := congrArg Prod.snd e
  rw [h2] at e2
  have ha : a = a1 ++ a2 := by
    rw [e2, ← List.append_assoc] at e1
    exact List.append_cancel_right e1
  rw [e2] at h1 h2
  exact ⟨a1, a2, ha, by rw [← List.append_assoc, ← ha]; exact pe e2, pe h2, h1⟩
theorem Loc.sevL {one : R} (h : Loc one) (sO : Shr one) : Loc (X.sevL one) := by
  apply Loc.ofN
  intro n
  induction n with
  | zero =>
    intro a ha r r' ps e hn
    obtain rfl : a = [] := List.length_eq_zero_iff.1 (by omega)
    rw [List.nil_append] at e ⊢
    cases hc : isN [44] r with
    | true =>
      exfalso
      rw [sevL_yes sO hc] at e
      have h2 : (X.andThen take (X.andThen one (X.sevL one)) r).2 = r := congrArg Prod.snd e
      have h3 := take_lt (isN_next hc)
      have h4 := (sO.andThen (Shr.sevL sO)).le (take r).2
      have h5 : (X.andThen one (X.sevL one) (take r).2).2 = r := h2
      rw [h5] at h4
      omega
    | false =>
      have hc' : isN [44] r' = false := by rw [← hc]; exact (isN_app (b := []) hn).symm
      rw [sevL_no hc] at e
      rw [sevL_no hc']
      have h1 : ([] : List Part) = ps := congrArg Prod.fst e
      rw [← h1]
  | succ n ih =>
    intro a ha r r' ps e hn
    cases hc : isN [44] (a ++ r) with
    | false =>
      have hc' : isN [44] (a ++ r') = false := by rw [← hc]; exact (isN_app hn).symm
      rw [sevL_no hc] at e
      rw [sevL_no hc']
      have h1 : ([] : List Part) = ps := congrArg Prod.fst e
      have h2 : a ++ r = r := congrArg Prod.snd e
      rw [app_self h2, ← h1]; rfl
    | true =>
      have hc' : isN [44] (a ++ r') = true := by rw [← hc]; exact (isN_app hn).symm
      rw [sevL_yes sO hc] at e
      rw [sevL_yes sO hc']
      have sR := sO.andThen (Shr.sevL sO)
      obtain ⟨a1, a2, ea, f1, g1, h1⟩ := parted Shr.take sR e
      have hnx : nxt (a1 ++ (a2 ++ r)) ≠ none := by rw [← List.append_assoc, ← ea]; exact isN_next hc
      have t1 := take_loc (r' := a2 ++ r') hnx f1
      have hlt := take_lt hnx
      rw [f1] at hlt
      have hl1 : a1.length ≠ 0 := by
        intro e0
        rw [List.length_eq_zero_iff.1 e0] at hlt
        simp at hlt
      obtain ⟨b1, b2, eb, f2, g2, h2⟩ := parted sO (Shr.sevL sO) g1
      have o1 := h b1 (b2 ++ r) (b2 ++ r') _ f2 (nxt_app hn)
      have s1 := ih b2 (by rw [ea, eb] at ha; simp only [List.length_append] at ha; omega) r r' _ g2 hn
      show ((take (a ++ r')).1 ++ (X.andThen one (X.sevL one) (take (a ++ r')).2).1, (X.andThen one (X.sevL one) (take (a ++ r')).2).2) = _
      rw [ea, List.append_assoc, t1]
      show (_ ++ ((one (a2 ++ r')).1 ++ (X.sevL one (one (a2 ++ r')).2).1), (X.sevL one (one (a2 ++ r')).2).2) = _
      rw [eb, List.append_assoc, o1]
      show (_ ++ (_ ++ (X.sevL one (b2 ++ r')).1), (X.sevL one (b2 ++ r')).2) = _
      rw [s1, ← h1, ← h2]
theorem Loc.several {one : R} (h : Loc one) (sO : Shr one) (x : List UInt8) : Loc (X.several one x) := by
  have h1 : X.several one x = fun ts => if isN x ts then X.want x ts else X.andThen one (X.andThen (X.sevL one) (X.want x)) ts := by
    funext ts; exact several_eq one x ts
  rw [h1]
  exact Loc.ite (b := isN x) (isN_loc x) (fun a r r' ps _ e hn => Loc.want x a r r' ps e hn) (h.andThen ((h.sevL sO).andThen (Loc.want x) (Shr.sevL sO) (Shr.want x)) sO ((Shr.sevL sO).andThen (Shr.want x)))
theorem Loc.params : Loc X.params := ((Loc.want _).andThen (Loc.wname.several Shr.wname _) (Shr.want _) (Shr.wname.several _)).node 6
theorem rowL_loc {one : R} {ok : List Tok → Bool} (h : Loc one) (sO : Shr one) (hok : ∀ ts, ok ts = true → nxt ts ≠ none) (hb : ∀ a r r' : List Tok, nxt r = nxt r' → ok (a ++ r) = ok (a ++ r')) : ∀ (n : Nat) (a : List Tok), a.length ≤ n → ∀ (p : List Part) (r r' : List Tok) (ps : List Part), rowL one ok p (a ++ r) = (ps, r) → nxt r = nxt r' → rowL one ok p (a ++ r') = (ps, r') := by
  have sR : Shr (X.andThen take one) := Shr.take.andThen sO
  have sL : ∀ p, Shr (rowL one ok p) := fun p ts => Shr.rowGo sO ts.length p ts
  intro n
  induction n with
  | zero =>
    intro a ha p r r' ps e hn
    obtain rfl : a = [] := List.length_eq_zero_iff.1 (by omega)
    rw [List.nil_append] at e ⊢
    cases hc : ok r with
    | true =>
      exfalso
      rw [rowL_yes sO hok hc] at e
      have h2 := congrArg Prod.snd e
      have h3 := take_lt (hok r hc)
      have h4 := sO.le (take r).2
      have h5 := (sL [.br 10 (p ++ (X.andThen take one r).1)]).le (X.andThen take one r).2
      rw [h2] at h5
      have h6 : (X.andThen take one r).2.length = (one (take r).2).2.length := rfl
      simp only at h5
      omega
    | false =>
      have hc' : ok r' = false := by rw [← hc]; exact (hb [] r r' hn).symm
      rw [rowL_no hc] at e
      rw [rowL_no hc']
      have h1 : p = ps := congrArg Prod.fst e
      rw [← h1]
  | succ n ih =>
    intro a ha p r r' ps e hn
    cases hc : ok (a ++ r) with
    | false =>
      have hc' : ok (a ++ r') = false := by rw [← hc]; exact (hb a r r' hn).symm
      rw [rowL_no hc] at e
      rw [rowL_no hc']
      have h1 : p = ps := congrArg Prod.fst e
      have h2 : a ++ r = r := congrArg Prod.snd e
      rw [app_self h2, ← h1]; rfl
    | true =>
      have hc' : ok (a ++ r') = true := by rw [← hc]; exact (hb a r r' hn).symm
      have hnx := hok _ hc
      rw [rowL_yes sO hok hc] at e
      rw [rowL_yes sO hok hc']
      obtain ⟨a1, e1⟩ := sR.split (a ++ r)
      obtain ⟨a2, e2⟩ := (sL [.br 10 (p ++ (X.andThen take one (a ++ r)).1)]).split (X.andThen take one (a ++ r)).2
      have h2 := congrArg Prod.snd e
      rw [h2] at e2
      simp only at e2
      have ea : a = a1 ++ a2 := by
        rw [e2, ← List.append_assoc] at e1
        exact List.append_cancel_right e1
      have t1 := tk_loc (a := a1) (r := a2 ++ r) (r' := a2 ++ r') (ps := (X.andThen take one (a ++ r)).1) h sO (by rw [← List.append_assoc, ← ea]; exact hnx) (by rw [← List.append_assoc, ← ea]; exact pe e2) (nxt_app hn)
      have hlt := take_lt hnx
      have hle := sO.le (take (a ++ r)).2
      have hl1 : a1.length ≠ 0 := by
        intro e0
        rw [List.length_eq_zero_iff.1 e0, List.nil_append] at ea
        have h6 : (X.andThen take one (a ++ r)).2.length = (one (take (a ++ r)).2).2.length := rfl
        rw [e2, ea] at h6
        rw [ea] at hlt hle
        omega
      rw [e2] at e
      have := ih a2 (by rw [ea, List.length_append] at ha; omega) _ r r' ps e hn
      rw [ea, List.append_assoc, t1]
      exact this
theorem Loc.row {one : R} {ok : List Tok → Bool} (h : Loc one) (sO : Shr one) (hok : ∀ ts, ok ts = true → nxt ts ≠ none) (hb : ∀ a r r' : List Tok, nxt r = nxt r' → ok (a ++ r) = ok (a ++ r')) : Loc (X.row one ok) := by
  have sL : ∀ p, Shr (rowL one ok p) := fun p ts => Shr.rowGo sO ts.length p ts
  intro a r r' ps e hn
  rw [row_eq] at e ⊢
  obtain ⟨a1, e1⟩ := sO.split (a ++ r)
  obtain ⟨a2, e2⟩ := (sL (one (a ++ r)).1).split (one (a ++ r)).2
  have h2 := congrArg Prod.snd e
  rw [h2] at e2
  simp only at e2
  have ea : a = a1 ++ a2 := by
    rw [e2, ← List.append_assoc] at e1
    exact List.append_cancel_right e1
  have t1 := h a1 (a2 ++ r) (a2 ++ r') (one (a ++ r)).1 (by rw [← List.append_assoc, ← ea]; exact pe e2) (nxt_app hn)
  rw [e2] at e
  have := rowL_loc h sO hok hb a2.length a2 (Nat.le_refl _) _ r r' ps e hn
  rw [ea, List.append_assoc, t1]
  exact this
theorem args_loc {E : R} (h : Loc E) (sE : Shr E) {a r r' : List Tok} {ps : List Part} (hn : nxt (a ++ r) ≠ none) (e : X.args E (a ++ r) = (ps, r)) (hr : nxt r = nxt r') : X.args E (a ++ r') = (ps, r') := tkn_loc (h.several sE _) (sE.several _) 12 hn e hr
theorem callL_loc {E : R} (h : Loc E) (sE : Shr E) : ∀ (n : Nat) (a : List Tok), a.length ≤ n → ∀ (p : List Part) (r r' : List Tok) (ps : List Part), callL E p (a ++ r) = (ps, r) → nxt r = nxt r' → callL E p (a ++ r') = (ps, r') := by
  have sR : Shr (X.args E) := Shr.args sE
  have sL : ∀ p, Shr (callL E p) := fun p ts => Shr.callGo sE ts.length p ts
  intro n
  induction n with
  | zero =>
    intro a ha p r r' ps e hn
    obtain rfl : a = [] := List.length_eq_zero_iff.1 (by omega)
    rw [List.nil_append] at e ⊢
    cases hc : isN [40] r with
    | true =>
      exfalso
      rw [callL_yes sE hc] at e
      have h2 := congrArg Prod.snd e
      have h3 := args_lt sE (isN_next hc)
      have h5 := (sL [.br 11 (p ++ (X.args E r).1)]).le (X.args E r).2
      rw [h2] at h5
      simp only at h5
      omega
    | false =>
      have hc' : isN [40] r' = false := by rw [← hc]; exact (isN_app (b := []) hn).symm
      rw [callL_no hc] at e
      rw [callL_no hc']
      have h1 : p = ps := congrArg Prod.fst e
      rw [← h1]
  | succ n ih =>
    intro a ha p r r' ps e hn
    cases hc : isN [40] (a ++ r) with
    | false =>
      have hc' : isN [40] (a ++ r') = false := by rw [← hc]; exact (isN_app hn).symm
      rw [callL_no hc] at e
      rw [callL_no hc']
      have h1 : p = ps := congrArg Prod.fst e
      have h2 : a ++ r = r := congrArg Prod.snd e
      rw [app_self h2, ← h1]; rfl
    | true =>
      have hc' : isN [40] (a ++ r') = true := by rw [← hc]; exact (isN_app hn).symm
      have hnx := isN_next hc
      rw [callL_yes sE hc] at e
      rw [callL_yes sE hc']
      obtain ⟨a1, e1⟩ := sR.split (a ++ r)
      obtain ⟨a2, e2⟩ := (sL [.br 11 (p ++ (X.args E (a ++ r)).1)]).split (X.args E (a ++ r)).2
      have h2 := congrArg Prod.snd e
      rw [h2] at e2
      simp only at e2
      have ea : a = a1 ++ a2 := by
        rw [e2, ← List.append_assoc] at e1
        exact List.append_cancel_right e1
      have t1 := args_loc (a := a1) (r := a2 ++ r) (r' := a2 ++ r') (ps := (X.args E (a ++ r)).1) h sE (by rw [← List.append_assoc, ← ea]; exact hnx) (by rw [← List.append_assoc, ← ea]; exact pe e2) (nxt_app hn)
      have hlt := args_lt sE hnx
      have hl1 : a1.length ≠ 0 := by
        intro e0
        rw [List.length_eq_zero_iff.1 e0, List.nil_append] at ea
        rw [e2, ea] at hlt
        omega
      rw [e2] at e
      have := ih a2 (by rw [ea, List.length_append] at ha; omega) _ r r' ps e hn
      rw [ea, List.append_assoc, t1]
      exact this
theorem Loc.part {E : R} (h : Loc E) (sE : Shr E) : Loc (X.part E) :=
  Loc.ite (b := fun ts => kindN ts == 5) (kindN_loc 5) (fun _ _ _ _ hc e _ => tk1_loc 15 (kindN_next (by decide) hc) e) <|
  Loc.ite (b := fun ts => kindN ts == 6) (kindN_loc 6) (fun _ _ _ _ hc e _ => tk1_loc 16 (kindN_next (by decide) hc) e) <|
  Loc.ite (b := fun ts => isN [116, 114, 117, 101] ts || isN [102, 97, 108, 115, 101] ts) (fun a r r' hn => by rw [isN_loc _ a r r' hn, isN_loc _ a r r' hn]) (fun _ _ _ _ hc e _ => tk1_loc 17 (by rcases (Bool.or_eq_true _ _).mp hc with h | h <;> exact isN_next h) e) <|
  Loc.ite (b := fun ts => kindN ts == 3) (kindN_loc 3) (fun _ _ _ _ hc e _ => tk1_loc 18 (kindN_next (by decide) hc) e) <|
  Loc.ite (b := isN [63]) (isN_loc _) (fun _ _ _ _ hc e _ => tk1_loc 19 (isN_next hc) e) <|
  Loc.ite (b := isN [40]) (isN_loc _) (fun _ _ _ _ hc e hr => tkn_loc (h.andThen (Loc.want _) sE (Shr.want _)) (sE.andThen (Shr.want _)) 14 (isN_next hc) e hr) <|
  Loc.ite (b := isN [91]) (isN_loc _) (fun _ _ _ _ hc e hr => tkn_loc (h.several sE _) (sE.several _) 13 (isN_next hc) e hr) (Loc.still _)
theorem Loc.call {E : R} (h : Loc E) (sE : Shr E) : Loc (X.call E) := by
  have sL : ∀ p, Shr (callL E p) := fun p ts => Shr.callGo sE ts.length p ts
  have sP : Shr (X.part E) := Shr.part sE
  have hP := h.part sE
  intro a r r' ps e hn
  have eC : ∀ ts, X.call E ts = callL E (X.part E ts).1 (X.part E ts).2 := fun _ => rfl
  rw [eC] at e ⊢
  obtain ⟨a1, e1⟩ := sP.split (a ++ r)
  obtain ⟨a2, e2⟩ := (sL (X.part E (a ++ r)).1).split (X.part E (a ++ r)).2
  have h2 := congrArg Prod.snd e
  rw [h2] at e2
  simp only at e2
  have ea : a = a1 ++ a2 := by
    rw [e2, ← List.append_assoc] at e1
    exact List.append_cancel_right e1
  have t1 := hP a1 (a2 ++ r) (a2 ++ r') (X.part E (a ++ r)).1 (by rw [← List.append_assoc, ← ea]; exact pe e2) (nxt_app hn)
  rw [e2] at e
  have := callL_loc h sE a2.length a2 (Nat.le_refl _) _ r r' ps e hn
  rw [ea, List.append_assoc, t1]
  exact this
theorem Loc.product {E : R} (h : Loc E) (sE : Shr E) : Loc (X.product E) := (h.call sE).row sE.call (fun _ hc => isN_next hc) (isN_loc _)
theorem Loc.sum {E : R} (h : Loc E) (sE : Shr E) : Loc (X.sum E) := (h.product sE).row sE.product (fun _ hc => by
  rcases (Bool.or_eq_true _ _).mp hc with h | h
  · rcases (Bool.or_eq_true _ _).mp h with h | h <;> exact isN_next h
  · exact isN_next h) (fun a r r' hn => by rw [isN_loc _ a r r' hn, isN_loc _ a r r' hn, isN_loc _ a r r' hn])
theorem cmp_loc {F : R} (hF : Loc F) (sF : Shr F) {c : List Tok → Bool} (hc : ∀ ts, c ts = true → nxt ts ≠ none) (hb : ∀ a r r' : List Tok, nxt r = nxt r' → c (a ++ r) = c (a ++ r')) {G : R} (hy : ∀ ts, c (F ts).2 = true → G ts = ([.br 10 ((F ts).1 ++ (X.andThen take F (F ts).2).1)], (X.andThen take F (F ts).2).2)) (hno : ∀ ts, c (F ts).2 = false → G ts = F ts) : Loc G := by
  intro a r r' ps e hn
  cases h : c (F (a ++ r)).2 with
  | false =>
    rw [hno _ h] at e
    have h2 : (F (a ++ r)).2 = r := congrArg Prod.snd e
    have t1 := hF a r r' ps e hn
    have h' : c (F (a ++ r')).2 = false := by
      rw [t1]
      show c r' = false
      rw [← h, h2]; exact (hb [] r r' hn).symm
    rw [hno _ h']; exact t1
  | true =>
    rw [hy _ h] at e
    obtain ⟨a1, e1⟩ := sF.split (a ++ r)
    obtain ⟨a2, e2⟩ := (Shr.take.andThen sF).split (F (a ++ r)).2
    have h2 : (X.andThen take F (F (a ++ r)).2).2 = r := congrArg Prod.snd e
    have h1 : [Part.br 10 ((F (a ++ r)).1 ++ (X.andThen take F (F (a ++ r)).2).1)] = ps := congrArg Prod.fst e
    rw [h2] at e2
    have ea : a = a1 ++ a2 := by
      rw [e2, ← List.append_assoc] at e1
      exact List.append_cancel_right e1
    have t1 := hF a1 (a2 ++ r) (a2 ++ r') (F (a ++ r)).1 (by rw [← List.append_assoc, ← ea]; exact pe e2) (nxt_app hn)
    rw [← List.append_assoc, ← ea] at t1
    rw [e2] at h2
    have t2 := tk_loc (r' := r') hF sF (by rw [← e2]; exact hc _ h) (pe h2) hn
    have h' : c (F (a ++ r')).2 = true := by
      rw [t1]
      show c (a2 ++ r') = true
      rw [← h, e2]; exact (hb a2 r r' hn).symm
    rw [hy _ h', t1]
    show ([Part.br 10 (_ ++ (X.andThen take F (a2 ++ r')).1)], (X.andThen take F (a2 ++ r')).2) = _
    rw [t2, ← h1, e2]
theorem Loc.comparison {E : R} (h : Loc E) (sE : Shr E) : Loc (X.comparison E) := by
  have hF := h.sum sE
  have sF := sE.sum
  have hy : ∀ ts, (isN [61, 61] (X.sum E ts).2 || isN [60] (X.sum E ts).2) = true → X.comparison E ts = ([.br 10 ((X.sum E ts).1 ++ (X.andThen take (X.sum E) (X.sum E ts).2).1)], (X.andThen take (X.sum E) (X.sum E ts).2).2) := fun ts hc => by unfold X.comparison; rw [if_pos hc]
  have hno : ∀ ts, (isN [61, 61] (X.sum E ts).2 || isN [60] (X.sum E ts).2) = false → X.comparison E ts = X.sum E ts := fun ts hc => comparison_no hc
  revert hF sF hy hno
  generalize X.sum E = F
  generalize X.comparison E = G
  intro hF sF hy hno
  exact cmp_loc (c := fun ts => isN [61, 61] ts || isN [60] ts) hF sF (fun ts hc => by rcases (Bool.or_eq_true _ _).mp hc with h | h <;> exact isN_next h) (fun a r r' hn => by rw [isN_loc _ a r r' hn, isN_loc _ a r r' hn]) hy hno
theorem Loc.expr : ∀ n, Loc (X.expr n)
  | 0 => Loc.still _
  | n + 1 =>
    have h : Loc (X.expr n) := Loc.expr n
    have s : Shr (X.expr n) := Shr.expr n
    Loc.ite (b := isN [108, 101, 116]) (isN_loc _) (fun _ _ _ _ hc e hr => tkn_loc (Loc.wname.andThen ((Loc.want _).andThen (h.andThen ((Loc.want _).andThen h (Shr.want _) s) s ((Shr.want _).andThen s)) (Shr.want _) (s.andThen ((Shr.want _).andThen s))) Shr.wname ((Shr.want _).andThen (s.andThen ((Shr.want _).andThen s)))) (Shr.wname.andThen ((Shr.want _).andThen (s.andThen ((Shr.want _).andThen s)))) 7 (isN_next hc) e hr) <|
    Loc.ite (b := isN [105, 102]) (isN_loc _) (fun _ _ _ _ hc e hr => tkn_loc (h.andThen ((Loc.want _).andThen (h.andThen ((Loc.want _).andThen h (Shr.want _) s) s ((Shr.want _).andThen s)) (Shr.want _) (s.andThen ((Shr.want _).andThen s))) s ((Shr.want _).andThen (s.andThen ((Shr.want _).andThen s)))) (s.andThen ((Shr.want _).andThen (s.andThen ((Shr.want _).andThen s)))) 8 (isN_next hc) e hr) <|
    Loc.ite (b := isN [102, 117, 110]) (isN_loc _) (fun _ _ _ _ hc e hr => tkn_loc (Loc.params.andThen ((Loc.want _).andThen h (Shr.want _) s) Shr.params ((Shr.want _).andThen s)) (Shr.params.andThen ((Shr.want _).andThen s)) 9 (isN_next hc) e hr) (Loc.comparison h s)
theorem Loc.optPub : Loc X.optPub := Loc.ite (b := isN sPub) (isN_loc _) (fun _ _ _ _ h e _ => take_loc (isN_next h) e) (Loc.still _)
theorem Loc.asR : Loc (fun ts => if isN [97, 115] ts then X.andThen X.take X.wname ts else ([], ts)) := Loc.ite (b := isN [97, 115]) (isN_loc _) (fun _ _ _ _ hc e hr => tk_loc Loc.wname Shr.wname (isN_next hc) e hr) (Loc.still _)
theorem Loc.parR : Loc (fun ts => if isN [40] ts then X.params ts else ([], ts)) := Loc.ite (b := isN [40]) (isN_loc _) (fun a r r' ps _ e hr => Loc.params a r r' ps e hr) (Loc.still _)
theorem Shr.asR : Shr (fun ts => if isN [97, 115] ts then X.andThen X.take X.wname ts else ([], ts)) := Shr.ite (c := isN [97, 115]) (Shr.take.andThen Shr.wname) Shr.nil
theorem Shr.parR : Shr (fun ts => if isN [40] ts then X.params ts else ([], ts)) := Shr.ite (c := isN [40]) Shr.params Shr.nil
theorem Loc.useR : Loc X.useR := by
  unfold X.useR
  have s1 : Shr (X.want [59]) := Shr.want _
  have s2 := Shr.asR.andThen s1
  have s3 := Shr.wname.andThen s2
  have s4 := (Shr.want [46]).andThen s3
  have s5 := Shr.wname.andThen s4
  exact (Loc.want sUse).andThen (Loc.wname.andThen ((Loc.want [46]).andThen (Loc.wname.andThen (Loc.asR.andThen (Loc.want [59]) Shr.asR s1) Shr.wname s2) (Shr.want _) s3) Shr.wname s4) (Shr.want _) s5
theorem Loc.defR : Loc X.defR := by
  unfold X.defR
  have hE := Loc.expr 65
  have sE := Shr.expr 65
  generalize X.expr 65 = E at *
  have s1 : Shr (X.want [59]) := Shr.want _
  have s2 := sE.andThen s1
  have s3 := (Shr.want [61]).andThen s2
  have s4 := Shr.parR.andThen s3
  have s5 := Shr.wname.andThen s4
  exact (Loc.want sDef).andThen (Loc.wname.andThen (Loc.parR.andThen ((Loc.want [61]).andThen (hE.andThen (Loc.want [59]) sE s1) (Shr.want _) s2) Shr.parR s3) Shr.wname s4) (Shr.want _) s5
theorem starts_loc : ∀ a r r' : List Tok, nxt r = nxt r' → starts (a ++ r) = starts (a ++ r') := fun a r r' hn => by
  unfold starts
  rw [isN_loc _ a r r' hn, isN_loc _ a r r' hn, isN_loc _ a r r' hn]
theorem Shr.junkL : Shr X.junkL := fun ts => Shr.junkGo ts.length ts
theorem Loc.junkL : Loc X.junkL := by
  apply Loc.ofN
  intro n
  induction n with
  | zero =>
    intro a ha r r' ps e hn
    obtain rfl : a = [] := List.length_eq_zero_iff.1 (by omega)
    rw [List.nil_append] at e ⊢
    have hk := kindN_loc 0 [] r r' hn
    have hs := starts_loc [] r r' hn
    simp only [List.nil_append] at hk hs
    cases hc : (kindN r == 0 || starts r) with
    | true =>
      have hc' : (kindN r' == 0 || starts r') = true := by rw [← hk, ← hs]; exact hc
      rw [junkL_no hc] at e
      rw [junkL_no hc']
      have h1 : ([] : List Part) = ps := congrArg Prod.fst e
      rw [← h1]
    | false =>
      exfalso
      have hk0 : (kindN r == 0) = false := by cases hq : (kindN r == 0) with
        | true => rw [hq] at hc; simp at hc
        | false => rfl
      have h3 := take_lt (kind_next hk0)
      rw [junkL_yes hc] at e
      cases h5 : isN [59] r with
      | true =>
        rw [if_pos h5] at e
        rw [e] at h3
        simp at h3
      | false =>
        rw [if_neg (by rw [h5]; simp)] at e
        have h2 : (X.junkL (take r).2).2 = r := congrArg Prod.snd e
        have h4 := Shr.junkL.le (take r).2
        rw [h2] at h4
        omega
  | succ n ih =>
    intro a ha r r' ps e hn
    have hk := kindN_loc 0 a r r' hn
    have hs := starts_loc a r r' hn
    cases hc : (kindN (a ++ r) == 0 || starts (a ++ r)) with
    | true =>
      have hc' : (kindN (a ++ r') == 0 || starts (a ++ r')) = true := by rw [← hk, ← hs]; exact hc
      rw [junkL_no hc] at e
      rw [junkL_no hc']
      have h1 : ([] : List Part) = ps := congrArg Prod.fst e
      have h2 : a ++ r = r := congrArg Prod.snd e
      rw [app_self h2, ← h1]; rfl
    | false =>
      have hc' : (kindN (a ++ r') == 0 || starts (a ++ r')) = false := by rw [← hk, ← hs]; exact hc
      have hk0 : (kindN (a ++ r) == 0) = false := by cases hq : (kindN (a ++ r) == 0) with
        | true => rw [hq] at hc; simp at hc
        | false => rfl
      have hnx := kind_next hk0
      have h5' := isN_loc [59] a r r' hn
      rw [junkL_yes hc] at e
      rw [junkL_yes hc']
      cases h5 : isN [59] (a ++ r) with
      | true =>
        rw [if_pos h5] at e
        rw [if_pos (by rw [← h5']; exact h5)]
        exact take_loc hnx e
      | false =>
        rw [if_neg (by rw [h5]; simp)] at e
        rw [if_neg (by rw [← h5', h5]; simp)]
        obtain ⟨a1, a2, ea, f1, g1, h1⟩ := parted Shr.take Shr.junkL e
        have hnx1 : nxt (a1 ++ (a2 ++ r)) ≠ none := by rw [← List.append_assoc, ← ea]; exact hnx
        have t1 := take_loc (r' := a2 ++ r') hnx1 f1
        have hlt := take_lt hnx1
        rw [f1] at hlt
        have hl1 : a1.length ≠ 0 := by
          intro e0
          rw [List.length_eq_zero_iff.1 e0] at hlt
          simp at hlt
        have s1 := ih a2 (by rw [ea, List.length_append] at ha; omega) r r' _ g1 hn
        show ((take (a ++ r')).1 ++ (X.junkL (take (a ++ r')).2).1, (X.junkL (take (a ++ r')).2).2) = _
        rw [ea, List.append_assoc, t1]
        show (_ ++ (X.junkL (a2 ++ r')).1, (X.junkL (a2 ++ r')).2) = _
        rw [s1, ← h1]
/-- A kid of the root hangs on its tokens and the next one. -/
theorem kid_loc {a r r' : List Tok} {k : Nat} {ps : List Part} (e : kid (a ++ r) = (k, ps, r)) (hn : nxt r = nxt r') : kid (a ++ r') = (k, ps, r') := by
  have hs := starts_loc a r r' hn
  have hO := Loc.optPub
  have hU := Loc.useR
  have hD := Loc.defR
  have sO := Shr.optPub
  have sU := Shr.useR
  have sD := Shr.defR
  rw [kid_eq] at e ⊢
  generalize X.useR = U at *
  generalize X.defR = D at *
  generalize X.optPub = O at *
  cases hc : starts (a ++ r) with
  | false =>
    rw [if_neg (by rw [hc]; simp)] at e
    rw [if_neg (by rw [← hs, hc]; simp)]
    have h1 : 5 = k := congrArg Prod.fst e
    have h2 : X.junkL (a ++ r) = (ps, r) := congrArg Prod.snd e
    rw [Loc.junkL a r r' ps h2 hn, h1]
  | true =>
    rw [if_pos hc] at e
    rw [if_pos (by rw [← hs]; exact hc)]
    have key : ∀ {F : R}, Loc F → Shr F → X.andThen O F (a ++ r) = (ps, r) → X.andThen O F (a ++ r') = (ps, r') ∧ isN sUse (O (a ++ r)).2 = isN sUse (O (a ++ r')).2 := by
      intro F hF sF h
      obtain ⟨a1, a2, ea, f1, g1, h1⟩ := parted sO sF h
      have t1 := hO a1 (a2 ++ r) (a2 ++ r') _ f1 (nxt_app hn)
      refine ⟨hO.andThen hF sO sF a r r' ps h hn, ?_⟩
      have x1 : (O (a ++ r)).2 = a2 ++ r := by rw [ea, List.append_assoc, f1]
      have x2 : (O (a ++ r')).2 = a2 ++ r' := by rw [ea, List.append_assoc, t1]
      rw [x1, x2]
      exact isN_loc _ a2 r r' hn
    cases hu : isN sUse (O (a ++ r)).2 with
    | true =>
      rw [if_pos hu] at e
      obtain ⟨x1, x2⟩ := key hU sU (congrArg Prod.snd e)
      rw [if_pos (by rw [← x2]; exact hu), x1]
      have h1 : 3 = k := congrArg Prod.fst e
      rw [h1]
    | false =>
      rw [if_neg (by rw [hu]; simp)] at e
      obtain ⟨x1, x2⟩ := key hD sD (congrArg Prod.snd e)
      rw [if_neg (by rw [← x2, hu]; simp), x1]
      have h1 : 4 = k := congrArg Prod.fst e
      rw [h1]
end X
end Go.Proofs.YtgjbafamiggafaaGreatDoor
/- Plain mathematics: the kids of a root and their tokens; a text in which a piece is replaced. -/
namespace Go.Proofs.YtgjbafamiggafaaGreatDoor
open M
namespace X
theorem fileL_lvs (ts : List Tok) : pls (fileL ts) = ts := fileGo_lvs _ ts
/-- A kid's tokens are ahead of what is left. -/
theorem kid_split (ts : List Tok) : ts = pls (kid ts).2.1 ++ (kid ts).2.2 := (kid_lvs ts).symm
theorem drop_nil : ∀ ts : List Tok, ts.dropWhile quiet = [] → ∀ t ∈ ts, quiet t = true
  | [], _, t, ht => by cases ht
  | u :: ts, e, t, ht => by
    rw [List.dropWhile_cons] at e
    by_cases hq : quiet u = true
    · rw [if_pos hq] at e
      rcases List.mem_cons.1 ht with rfl | h
      · exact hq
      · exact drop_nil ts e t h
    · rw [if_neg hq] at e; cases e
theorem nil_drop : ∀ ts : List Tok, (∀ t ∈ ts, quiet t = true) → ts.dropWhile quiet = []
  | [], _ => rfl
  | u :: ts, h => by rw [List.dropWhile_cons, if_pos (h u (by simp))]; exact nil_drop ts fun t ht => h t (List.mem_cons_of_mem _ ht)
theorem kindN_drop {ts : List Tok} (h : (kindN ts == 0) = true) (hk : ∀ t ∈ ts, t.1 ≠ 0) : ∀ t ∈ ts, quiet t = true := by
  intro t ht
  cases hq : quiet t with
  | true => rfl
  | false =>
    exfalso
    have hne : ts.dropWhile quiet ≠ [] := by
      intro e
      have := drop_nil ts e t ht
      rw [hq] at this
      exact absurd this (by simp)
    obtain ⟨u, l, e⟩ := List.exists_cons_of_ne_nil hne
    have hu : u ∈ ts := (List.dropWhile_sublist (p := quiet) (l := ts)).mem (by rw [e]; simp)
    have h0 : kindN ts = u.1 := by unfold kindN nxt; rw [e]; rfl
    rw [h0] at h
    exact hk u hu (by simpa using h)
theorem kindN_quiet {ts : List Tok} (h : ∀ t ∈ ts, quiet t = true) : (kindN ts == 0) = true := by
  unfold kindN nxt
  rw [nil_drop ts h]; rfl
/-- Where a part of a root begins, what is left is the root of what is left. -/
theorem fileL_drop : ∀ (n : Nat) (ts : List Tok), ts.length ≤ n → (∀ t ∈ ts, t.1 ≠ 0) → ∀ i, (fileL ts).drop i = fileL (ts.drop (pls ((fileL ts).take i)).length)
  | n, ts, hn, hk, 0 => by simp [pls]
  | n, ts, hn, hk, i + 1 => by
    cases h : (kindN ts == 0) with
    | true =>
      have hq := kindN_drop h hk
      rw [fileL_no h, ← List.map_take, pls_lf, List.length_take, ← List.map_drop]
      have h2 : (kindN (ts.drop (min (i + 1) ts.length)) == 0) = true := kindN_quiet fun t ht => hq t (List.mem_of_mem_drop ht)
      rw [fileL_no h2]
      congr 1
      rcases Nat.le_total (i + 1) ts.length with h3 | h3
      · rw [Nat.min_eq_left h3]
      · rw [Nat.min_eq_right h3, List.drop_eq_nil_of_le h3, List.drop_eq_nil_of_le (Nat.le_refl _)]
    | false =>
      have hs := kid_split ts
      have hl := kid_lt h
      match n, hn with
      | 0, hn => omega
      | n + 1, hn =>
        rw [fileL_yes h, List.drop_succ_cons, List.take_succ_cons, pls, pl, List.length_append]
        have hk2 : ∀ t ∈ (kid ts).2.2, t.1 ≠ 0 := fun t ht => hk t (by rw [hs]; exact List.mem_append_right _ ht)
        rw [fileL_drop n (kid ts).2.2 (by omega) hk2 i]
        have hd : ts.drop (pls (kid ts).2.1).length = (kid ts).2.2 := by
          have := List.drop_left (l₁ := pls (kid ts).2.1) (l₂ := (kid ts).2.2)
          rwa [← hs] at this
        rw [← List.drop_drop, hd]
theorem nxt_some : ∀ (b x : List Tok), nxt b ≠ none → nxt (b ++ x) = nxt b
  | [], _, h => absurd rfl h
  | t :: b, x, h => by
    unfold nxt at *
    rw [List.cons_append, List.dropWhile_cons, List.dropWhile_cons]
    rw [List.dropWhile_cons] at h
    by_cases hq : quiet t = true
    · rw [if_pos hq] at h; rw [if_pos hq, if_pos hq]
      exact nxt_some b x h
    · rw [if_neg hq, if_neg hq]; rfl
/-- A kid stays where its tokens do, and something that is next behind them. -/
theorem kid_stays {a b m m' : List Tok} {k : Nat} {ps : List Part} (e : kid (a ++ (b ++ m)) = (k, ps, b ++ m)) (hb : nxt b ≠ none) : kid (a ++ (b ++ m')) = (k, ps, b ++ m') :=
  kid_loc e (by rw [nxt_some b m hb, nxt_some b m' hb])
theorem pls_take_drop (l : List Part) (i : Nat) : (pls (l.take i)).length + (pls (l.drop i)).length = (pls l).length := by
  rw [← List.length_append, ← pls_append, List.take_append_drop]
/-- The last parts of an old root are the root of the last tokens, which stay. -/
theorem again_end {old new : List Tok} {b i : Nat} (hk : ∀ t ∈ old, t.1 ≠ 0) (ho : b ≤ old.length) (hn : b ≤ new.length) (hs : old.drop (old.length - b) = new.drop (new.length - b)) (hm : (pls ((fileL old).drop i)).length ≤ b) : fileL (new.drop (new.length - (pls ((fileL old).drop i)).length)) = (fileL old).drop i := by
  have h1 := pls_take_drop (fileL old) i
  rw [fileL_lvs] at h1
  generalize (pls ((fileL old).drop i)).length = m at *
  rw [fileL_drop _ old (Nat.le_refl _) hk i]
  congr 1
  have e1 : old.length - b + (b - m) = (pls ((fileL old).take i)).length := by omega
  have e2 : new.length - b + (b - m) = new.length - m := by omega
  rw [← e1, ← e2, ← List.drop_drop, ← List.drop_drop, hs]
/-- A root begins with a kid where something is next. -/
theorem fileL_kid {ts : List Tok} (h : (kindN ts == 0) = false) : ∃ k ps l, fileL ts = .br k ps :: l := ⟨_, _, _, fileL_yes h⟩
theorem nxt_back : ∀ (a b : List Tok), nxt b ≠ none → nxt (a ++ b) ≠ none
  | [], _, h => h
  | t :: a, b, h => by
    have ih := nxt_back a b h
    unfold nxt at *
    rw [List.cons_append, List.dropWhile_cons]
    by_cases hq : quiet t = true
    · rw [if_pos hq]; exact ih
    · rw [if_neg hq]; simp
/-- A kid is kept whose tokens, and one that is next behind them, are among the first ones, which stay. -/
theorem keep_step {A M M' : List Tok} {i k : Nat} {ps : List Part} (hk : ∀ t ∈ A ++ M, t.1 ≠ 0) (hP : (fileL (A ++ M))[i]? = some (.br k ps)) {a : Nat} (ha : a = (pls ((fileL (A ++ M)).take i)).length) (hb : nxt (A.drop (a + (pls ps).length)) ≠ none) :
    fileL ((A ++ M').drop a) = .br k ps :: fileL ((A ++ M').drop (a + (pls ps).length)) := by
  have hd := fileL_drop _ (A ++ M) (Nat.le_refl _) hk i
  rw [← ha] at hd
  obtain ⟨hi, hPi⟩ := List.getElem?_eq_some_iff.1 hP
  rw [List.drop_eq_getElem_cons hi, hPi] at hd
  have hlt : a + (pls ps).length < A.length := by
    rcases Nat.lt_or_ge (a + (pls ps).length) A.length with h | h
    · exact h
    · rw [List.drop_eq_nil_of_le h] at hb; exact absurd rfl hb
  have dA : ∀ (x : List Tok) (j : Nat), j ≤ A.length → (A ++ x).drop j = A.drop j ++ x := fun x j hj => List.drop_append_of_le_length hj
  have hsp : A.drop a = (A.drop a).take (pls ps).length ++ A.drop (a + (pls ps).length) := by
    rw [← List.drop_drop, List.take_append_drop]
  have hna : nxt (A.drop a) ≠ none := by rw [hsp]; exact nxt_back _ _ hb
  have hkn : ∀ x : List Tok, kindN ((A ++ x).drop a) = kindN (A.drop a) := fun x => by
    rw [dA x a (by omega)]
    unfold kindN
    rw [nxt_some _ x hna]
  cases hk0 : (kindN ((A ++ M).drop a) == 0) with
  | true =>
    exfalso
    rw [fileL_no hk0] at hd
    cases hh : (A ++ M).drop a with
    | nil => rw [hh] at hd; cases hd
    | cons t l => rw [hh] at hd; cases hd
  | false =>
    rw [fileL_yes hk0] at hd
    have hkd := kid_split ((A ++ M).drop a)
    obtain ⟨h1, -⟩ := List.cons.inj hd
    obtain ⟨h2, h3⟩ := Part.br.inj h1
    rw [← h3] at hkd
    have hx : (kid ((A ++ M).drop a)).2.2 = A.drop (a + (pls ps).length) ++ M := by
      have := congrArg (List.drop (pls ps).length) hkd
      rw [List.drop_left, List.drop_drop, dA M _ (by omega)] at this
      exact this.symm
    rw [hx, dA M a (by omega), hsp, List.append_assoc] at hkd
    have hpt : (A.drop a).take (pls ps).length = pls ps := List.append_cancel_right hkd
    have hkid : kid (pls ps ++ (A.drop (a + (pls ps).length) ++ M)) = (k, ps, A.drop (a + (pls ps).length) ++ M) := by
      have e : pls ps ++ (A.drop (a + (pls ps).length) ++ M) = (A ++ M).drop a := by
        rw [dA M a (by omega)]
        conv => rhs; rw [hsp, hpt]
        rw [List.append_assoc]
      rw [e]
      exact Prod.ext h2.symm (Prod.ext h3.symm hx)
    have hnew := kid_stays (m' := M') hkid hb
    have e' : pls ps ++ (A.drop (a + (pls ps).length) ++ M') = (A ++ M').drop a := by
      rw [dA M' a (by omega)]
      conv => rhs; rw [hsp, hpt]
      rw [List.append_assoc]
    rw [e'] at hnew
    have hk1 : (kindN ((A ++ M').drop a) == 0) = false := by rw [hkn M', ← hkn M]; exact hk0
    rw [fileL_yes hk1, hnew, dA M' _ (Nat.le_of_lt hlt)]
end X
end Go.Proofs.YtgjbafamiggafaaGreatDoor
