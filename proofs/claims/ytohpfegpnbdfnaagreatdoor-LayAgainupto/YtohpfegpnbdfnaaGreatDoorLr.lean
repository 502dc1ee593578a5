/- Plain mathematics: how long a layout can be, and how many tokens it has. -/
import Derived.Test.YtohpfegpnbdfnaaGreatDoorLm
import Derived.Test.YtohpfegpnbdfnaaGreatDoorLd
import Derived.Test.YtohpfegpnbdfnaaGreatDoorTa
namespace Go.Proofs.YtohpfegpnbdfnaaGreatDoor
open M
namespace X
/-- Each token with M and two bytes more. -/
def wt (M : Nat) : List Tok → Nat
  | [] => 0
  | t :: l => (t.2.length + (M + 2)) + wt M l
theorem wt_append (M : Nat) (a b : List Tok) : wt M (a ++ b) = wt M a + wt M b := by
  induction a with
  | nil => rw [List.nil_append, wt, Nat.zero_add]
  | cons t a ih => rw [List.cons_append, wt, ih, wt]; omega
theorem wt_one (M : Nat) (t : Tok) : wt M [t] = t.2.length + (M + 2) := by rw [wt, wt, Nat.add_zero]
theorem wt_filter (M : Nat) (p : Tok → Bool) (l : List Tok) : wt M (l.filter p) + wt M (l.filter (fun t => !p t)) = wt M l := by
  induction l with
  | nil => rfl
  | cons t l ih =>
    cases h : p t with
    | true => rw [List.filter_cons_of_pos h, List.filter_cons_of_neg (by simp [h]), wt, wt]; omega
    | false => rw [List.filter_cons_of_neg (by simp [h]), List.filter_cons_of_pos (by simp [h]), wt, wt]; omega
theorem flt_len : ∀ (M : Nat) (l : List Lf), l ≠ [] → (flt l).length + (M + 1) ≤ wt M (l.map (·.1))
  | M, [], h => absurd rfl h
  | M, [a], _ => by rw [flt, List.map_cons, List.map_nil, wt, wt]; omega
  | M, b :: a :: l, _ => by
    have ih := flt_len M (a :: l) (by simp)
    rw [flt, List.map_cons, wt, List.length_append, List.length_append]
    have : (if tight b a then ([] : List UInt8) else [32]).length ≤ 1 := by split <;> simp
    omega
theorem flat_len {M : Nat} {ps : List Part} (h : nts' ps ≠ []) : (flat ps).length + (M + 1) ≤ wt M (nts' ps) := by
  unfold flat
  rw [← fls_fst false]
  refine flt_len M _ (fun e => h ?_)
  rw [← fls_fst false, e]; rfl
theorem line_len (n : Nat) (s : List UInt8) : (line n s).length = n + s.length + 1 := by
  unfold line; simp; omega
theorem lou_nt {ps : List Part} {k : Nat} {t : Tok} (h : lf t ∈ pts ps) : t ∈ nt (.br k ps) := by
  rw [nt_br]
  obtain ⟨a, b, e⟩ := List.append_of_mem h
  rw [e, nts_append, nts_cons, nt_lf' h]
  simp
theorem Sh.ne {p : Part} (h : Sh p) : nt p ≠ [] := by
  have key : ∀ {k : Nat} {ps : List Part} {t : Tok}, lf t ∈ X.pts ps → nt (.br k ps) ≠ [] := fun {k ps t} h e => by
    have := lou_nt (k := k) h
    rw [e] at this; cases this
  cases h with
  | tok k t ps hk h => exact key (t := t) (by rw [h]; simp)
  | lett ps a b c d p q h hp hq => exact key (t := a) (by rw [h]; simp)
  | ite ps a b c p q s h hc hp hq hs => exact key (t := a) (by rw [h]; simp)
  | fn ps a b qs p h hp => exact key (t := a) (by rw [h]; simp)
  | bin ps p a q h hp hq => exact key (t := a) (by rw [h]; simp)
  | call ps p qs h hp hb =>
    rw [nt_br, h, nts_cons, nts_one, nt_br]
    intro e
    have e2 := (List.append_eq_nil_iff.1 e).2
    generalize hq : X.pts qs = l at *
    cases hb with
    | none _ _ a b ha hb =>
      rw [nts_cons, nt_lf' (ps := qs) (by rw [hq]; simp)] at e2
      simp at e2
    | some _ _ a m ha h2 =>
      rw [nts_cons, nt_lf' (ps := qs) (by rw [hq]; simp)] at e2
      simp at e2
  | list ps hb =>
    generalize hq : X.pts ps = l at *
    cases hb with
    | none _ _ a b ha hb => exact key (t := a) (by rw [hq]; simp)
    | some _ _ a m ha h2 => exact key (t := a) (by rw [hq]; simp)
  | group ps a p b h ha hb hp => exact key (t := a) (by rw [h]; simp)
theorem dpb_pts {ps : List Part} {p : Part} {l : List Part} (h : pts ps = p :: l) : dp p ≤ dpb ps ∧ (dps l) + 2 ≤ dpb ps := by
  cases ps with
  | nil => cases h
  | cons x r =>
    rw [dpb]
    unfold pts at h
    cases hq : quietP x with
    | true =>
      rw [List.filter_cons_of_neg (by simp [hq])] at h
      have := dps_pts r
      unfold pts at this
      rw [h, dps] at this
      omega
    | false =>
      rw [List.filter_cons_of_pos (by simp [hq])] at h
      injection h with h1 h2
      subst h1
      have := dps_pts r
      unfold pts at this
      rw [h2] at this
      omega
theorem dp_pts {k : Nat} (hk : k ≠ 10) {ps : List Part} {l : List Part} (h : pts ps = l) {p : Part} (hp : p ∈ l) : dp p + (if k = 8 ∨ k = 9 ∨ k = 12 ∨ k = 13 ∨ k = 14 then 2 else 0) ≤ dp (.br k ps) := by
  rw [dp, if_neg hk]
  have h1 := dps_pts ps
  rw [h] at h1
  have h2 := dps_mem hp
  omega
/-- Lines that are not too long. -/
def Ln (M n : Nat) (E : Part → List UInt8 → List UInt8) : Prop := ∀ p e, Sh p → n + dp p ≤ M → (E p e).length ≤ wt M (nt p) + e.length
theorem many_len {M n m : Nat} {E : Part → List UInt8 → List UInt8} (hE : Ln M m E) (hn : n ≤ M) (e : List UInt8) : ∀ (f : Nat) {c : List UInt8} {l : List Part}, l.length ≤ f → ShA c l → (∀ p ∈ l, m + dp p ≤ M) → (∀ t : Tok, lf t ∈ l → lou t = true) →
    2 ≤ l.length ∧ (many E l).length + (line n (textOf (l.getD (l.length - 1) nil1) ++ e)).length ≤ wt M (nts' l) + e.length := by
  intro f
  induction f with
  | zero => intro c l hl h; cases h <;> simp at hl
  | succ f ih =>
    intro c l hl h hd ht
    cases h with
    | last _ p b hp hb =>
      have h1 := hE p [] hp (hd p (by simp))
      refine ⟨Nat.le_refl _, ?_⟩
      show (E p []).length + (line n (b.2 ++ e)).length ≤ _
      rw [nts_cons, nts_one, nt_lf, if_pos (ht b (by simp)), wt_append, wt_one, line_len, List.length_append]
      simp only [List.length_nil] at h1
      omega
    | more _ p b q m' hp hb h =>
      obtain ⟨i1, i2⟩ := ih (by simp at hl ⊢; omega) h (fun x hx => hd x (List.mem_cons_of_mem _ (List.mem_cons_of_mem _ hx))) (fun t hx => ht t (List.mem_cons_of_mem _ (List.mem_cons_of_mem _ hx)))
      have h1 := hE p [44] hp (hd p (by simp))
      refine ⟨by simp, ?_⟩
      have e1 : (p :: lf b :: q :: m').getD ((p :: lf b :: q :: m').length - 1) nil1 = (q :: m').getD ((q :: m').length - 1) nil1 := by
        simp only [List.length_cons, Nat.add_sub_cancel]
        rw [show m'.length + 1 + 1 = (m'.length) + 2 from rfl]
        rfl
      rw [e1, nts_cons p, nts_cons (lf b), nt_lf, if_pos (ht b (by simp)), wt_append, wt_append, wt_one]
      show (E p [44] ++ many E (q :: m')).length + _ ≤ _
      rw [List.length_append]
      simp only [List.length_cons, List.length_nil] at h1
      omega
theorem bracket_len {M n : Nat} {E : Part → List UInt8 → List UInt8} (hE : Ln M (n + 2) E) (hn : n ≤ M) {e whole first : List UInt8} {o c : List UInt8} {l : List Part} (hb : ShB o c l) (hd : ∀ p ∈ l, n + 2 + dp p ≤ M) (ht : ∀ t : Tok, lf t ∈ l → lou t = true) {W : Nat} (hw : whole.length ≤ W + wt M (nts' l) + e.length) (hf : first.length ≤ W + 1) : (bracket E n whole first l e).length ≤ W + wt M (nts' l) + e.length := by
  unfold bracket
  cases hb with
  | none _ _ a b ha hb => rw [if_pos (by rfl)]; exact hw
  | some _ _ a m ha h =>
    obtain ⟨i1, i2⟩ := many_len hE hn e _ (Nat.le_refl _) h (fun x hx => hd x (List.mem_cons_of_mem _ hx)) (fun t hx => ht t (List.mem_cons_of_mem _ hx))
    rw [if_neg (by simp only [List.length_cons]; omega)]
    have e1 : (lf a :: m).getD ((lf a :: m).length - 1) nil1 = m.getD (m.length - 1) nil1 := by
      obtain ⟨x, hx⟩ : ∃ x, m.length = x + 1 := ⟨m.length - 1, by omega⟩
      simp only [List.length_cons, hx, Nat.add_sub_cancel]
      rfl
    rw [e1, nts_cons, nt_lf, if_pos (ht a (by simp)), wt_append, wt_one, List.length_append, List.length_append, line_len]
    show _ + ((many E m).length + _) ≤ _
    omega
theorem whole_len {M n : Nat} (hn : n ≤ M) {p : Part} (h : nt p ≠ []) (e : List UInt8) : (line n (flat [p] ++ e)).length ≤ wt M (nt p) + e.length := by
  have := flat_len (M := M) (ps := [p]) (by rw [nts_one]; exact h)
  rw [nts_one] at this
  rw [line_len, List.length_append]; omega
theorem line_len0 {M n : Nat} (hn : n ≤ M) {ps : List Part} (h : nts' ps ≠ []) : (line n (flat ps)).length ≤ wt M (nts' ps) := by
  have := flat_len (M := M) h
  rw [line_len]; omega
theorem ex_len {M : Nat} : ∀ (f n : Nat), Ln M n (ex f n) := by
  intro f
  induction f with
  | zero => intro n p e hs hd; unfold ex; exact whole_len (by omega) hs.ne e
  | succ f ih =>
  intro n p e hs hd
  have hW := whole_len (M := M) (n := n) (by omega) hs.ne e
  unfold ex
  by_cases hw : n + chars (flat [p]) + 1 ≤ 80
  · rw [if_pos hw]; exact hW
  rw [if_neg hw]
  cases hs with
  | tok k t ps hk h =>
    have e0 : kindOf (.br k ps) = k := rfl
    rw [e0, if_neg (by omega), if_neg (by omega), if_neg (by omega), if_neg (by omega), if_neg (by omega), if_neg (by omega), if_neg (by omega)]
    exact hW
  | lett ps a b c d p q h hp hq =>
    rw [show kindOf (.br 7 ps) = 7 from rfl, if_pos rfl]
    have e1 : kidsOf (.br 7 ps) = ps := rfl
    have la : lou a = true := mem_pts h (by simp)
    have d1 := dp_pts (k := 7) (by decide) h (p := q) (by simp)
    rw [if_neg (by decide)] at d1
    rw [nt_br, e1, h]
    have e2 : nts' [lf a, lf b, lf c, p, lf d, q] = nts' [lf a, lf b, lf c, p, lf d] ++ nt q := by rw [← nts_one, ← nts_append]; rfl
    have e3 : nts' [lf a, lf b, lf c, p, lf d] ≠ [] := by rw [nts_cons, nt_lf, if_pos la]; simp
    rw [e2, wt_append]
    show (line n (flat [lf a, lf b, lf c, p, lf d]) ++ ex f n q e).length ≤ _
    have := line_len0 (M := M) (n := n) (by omega) e3
    have := ih n q e hq (by omega)
    rw [List.length_append]; omega
  | ite ps a b c p q s h hc hp hq hs =>
    rw [show kindOf (.br 8 ps) = 8 from rfl, if_neg (by decide), if_pos rfl]
    have e1 : kidsOf (.br 8 ps) = ps := rfl
    have la : lou a = true := mem_pts h (by simp)
    have lc : lou c = true := mem_pts h (by simp)
    have d1 := dp_pts (k := 8) (by decide) h (p := q) (by simp)
    have d2 := dp_pts (k := 8) (by decide) h (p := s) (by simp)
    rw [if_pos (by decide)] at d1 d2
    rw [nt_br, e1, h]
    have e2 : nts' [lf a, p, lf b, q, lf c, s] = nts' [lf a, p, lf b] ++ (nt q ++ ([c] ++ nt s)) := by
      rw [show [lf a, p, lf b, q, lf c, s] = [lf a, p, lf b] ++ [q, lf c, s] from rfl, nts_append, nts_cons q, nts_cons (lf c), nts_one, nt_lf, if_pos lc]
    have e3 : nts' [lf a, p, lf b] ≠ [] := by rw [nts_cons, nt_lf, if_pos la]; simp
    rw [e2, wt_append, wt_append, wt_append, wt_one]
    show (line n (flat [lf a, p, lf b]) ++ (ex f (n + 2) q [] ++ (line n sElse ++ ex f (n + 2) s e))).length ≤ _
    have := line_len0 (M := M) (n := n) (by omega) e3
    have h1 := ih (n + 2) q [] hq (by omega)
    have := ih (n + 2) s e hs (by omega)
    simp only [List.length_nil] at h1
    rw [List.length_append, List.length_append, List.length_append, line_len n sElse, ← hc]; omega
  | fn ps a b qs p h hp =>
    rw [show kindOf (.br 9 ps) = 9 from rfl, if_neg (by decide), if_neg (by decide), if_pos rfl]
    have e1 : kidsOf (.br 9 ps) = ps := rfl
    have la : lou a = true := mem_pts h (by simp)
    have d1 := dp_pts (k := 9) (by decide) h (p := p) (by simp)
    rw [if_pos (by decide)] at d1
    rw [nt_br, e1, h]
    have e2 : nts' [lf a, .br 6 qs, lf b, p] = nts' [lf a, .br 6 qs, lf b] ++ nt p := by rw [← nts_one, ← nts_append]; rfl
    have e3 : nts' [lf a, .br 6 qs, lf b] ≠ [] := by rw [nts_cons, nt_lf, if_pos la]; simp
    rw [e2, wt_append]
    show (line n (flat [lf a, .br 6 qs, lf b]) ++ ex f (n + 2) p e).length ≤ _
    have := line_len0 (M := M) (n := n) (by omega) e3
    have := ih (n + 2) p e hp (by omega)
    rw [List.length_append]; omega
  | bin ps p a q h hp hq =>
    rw [show kindOf (.br 10 ps) = 10 from rfl, if_neg (by decide), if_neg (by decide), if_neg (by decide), if_pos rfl]
    have e1 : kidsOf (.br 10 ps) = ps := rfl
    have la : lou a = true := mem_pts h (by simp)
    obtain ⟨d1, d2⟩ := dpb_pts h
    have d3 : dp q ≤ dps [lf a, q] := dps_mem (by simp)
    have d4 : dp (.br 10 ps) = dpb ps := by rw [dp, if_pos rfl]
    rw [nt_br, e1, h]
    have e2 : nts' [p, lf a, q] = nt p ++ ([a] ++ nt q) := by rw [nts_cons, nts_cons, nts_one, nt_lf, if_pos la]
    rw [e2, wt_append, wt_append, wt_one]
    show (ex f n p [] ++ (line n a.2 ++ ex f (n + 2) q e)).length ≤ _
    have h1 := ih n p [] hp (by omega)
    have := ih (n + 2) q e hq (by omega)
    simp only [List.length_nil] at h1
    rw [List.length_append, List.length_append, line_len]; omega
  | call ps p qs h hp hb =>
    rw [show kindOf (.br 11 ps) = 11 from rfl, if_neg (by decide), if_neg (by decide), if_neg (by decide), if_neg (by decide), if_pos rfl]
    have e1 : kidsOf (.br 11 ps) = ps := rfl
    have d1 := dp_pts (k := 11) (by decide) h (p := .br 12 qs) (by simp)
    rw [if_neg (by decide)] at d1
    rw [nt_br, h] at hW ⊢
    rw [e1, h]
    have e2 : nts' [p, .br 12 qs] = nt p ++ nts' (pts qs) := by rw [nts_cons, nts_one, nt_br]
    rw [e2, wt_append] at hW ⊢
    show (bracket (ex f (n + 2)) n (line n (flat [.br 11 ps] ++ e)) (flat [p] ++ [40]) (pts qs) e).length ≤ _
    refine bracket_len (ih (n + 2)) (by omega) hb (fun x hx => ?_) (fun t ht => pts_lou ht) hW ?_
    · have := dp_pts (k := 12) (by decide) rfl hx
      rw [if_pos (by decide)] at this
      omega
    · have := flat_len (M := M) (ps := [p]) (by rw [nts_one]; exact hp.ne)
      rw [nts_one] at this
      rw [List.length_append, List.length_singleton]; omega
  | list ps hb =>
    rw [show kindOf (.br 13 ps) = 13 from rfl, if_neg (by decide), if_neg (by decide), if_neg (by decide), if_neg (by decide), if_neg (by decide), if_pos rfl]
    rw [nt_br] at hW ⊢
    show (bracket (ex f (n + 2)) n (line n (flat [.br 13 ps] ++ e)) [91] (pts ps) e).length ≤ _
    have := bracket_len (W := 0) (whole := line n (flat [.br 13 ps] ++ e)) (first := [91]) (ih (n + 2)) (by omega) hb (fun x hx => by
      have := dp_pts (k := 13) (by decide) rfl hx
      rw [if_pos (by decide)] at this
      omega) (fun t ht => pts_lou ht) (e := e) (by omega) (by simp)
    omega
  | group ps a p b h ha hb hp =>
    rw [show kindOf (.br 14 ps) = 14 from rfl, if_neg (by decide), if_neg (by decide), if_neg (by decide), if_neg (by decide), if_neg (by decide), if_neg (by decide), if_pos rfl]
    rw [nt_br] at hW ⊢
    show (bracket (ex f (n + 2)) n (line n (flat [.br 14 ps] ++ e)) [40] (pts ps) e).length ≤ _
    have hB : ShB [40] [41] (pts ps) := by rw [h]; exact .some [40] [41] a _ ha (.last [41] p b hp hb)
    have := bracket_len (W := 0) (whole := line n (flat [.br 14 ps] ++ e)) (first := [40]) (ih (n + 2)) (by omega) hB (fun x hx => by
      have := dp_pts (k := 14) (by decide) rfl hx
      rw [if_pos (by decide)] at this
      omega) (fun t ht => pts_lou ht) (e := e) (by omega) (by simp)
    omega
end X
end Go.Proofs.YtohpfegpnbdfnaaGreatDoor
/- Plain mathematics: the lines of what stands in brackets, one by one. -/
namespace Go.Proofs.YtohpfegpnbdfnaaGreatDoor
open M
namespace X
/-- The lines of the first j of some expressions with signs between them. -/
def BrI (L : List Lf) (ib : Nat) (E : Part → List UInt8 → List UInt8) (c : List UInt8) (l : List Part) (j : Nat) (lj : List Lne) : Prop :=
  (∃ T, RG L ib (nts' (l.take j)).length lj T ∧ T ++ many E (l.drop j) = many E l ∧ ShA c (l.drop j)) ∨
  (∃ F b r, SG L ib (nts' (l.take j)).length lj F ∧ l.drop j = lf b :: r ∧ ((r = [] ∧ F [] = many E l) ∨ (r ≠ [] ∧ b.2 = [44] ∧ ShA c r ∧ F [44] ++ many E r = many E l)))
theorem BrI.start {L : List Lf} {ib : Nat} {E : Part → List UInt8 → List UInt8} {c : List UInt8} {l : List Part} (h : ShA c l) : BrI L ib E c l 0 [] :=
  .inl ⟨[], by rw [List.take_zero, nts_nil]; exact RG.nil L ib, by rw [List.drop_zero]; rfl, by rw [List.drop_zero]; exact h⟩
theorem drop_get {α : Type} {l : List α} {j : Nat} {a : α} {r : List α} (h : l.drop j = a :: r) : l[j]? = some a ∧ l.drop (j + 1) = r ∧ l.take (j + 1) = l.take j ++ [a] := by
  have hj : j < l.length := by
    rcases Nat.lt_or_ge j l.length with g | g
    · exact g
    · rw [List.drop_eq_nil_of_le g] at h; cases h
  rw [List.drop_eq_getElem_cons hj] at h
  injection h with h1 h2
  have h3 : l[j]? = some a := by rw [List.getElem?_eq_getElem hj, h1]
  exact ⟨h3, h2, by rw [List.take_add_one, h3]; rfl⟩
theorem ShA.two {c : List UInt8} {l : List Part} (h : ShA c l) : 2 ≤ l.length := by
  cases h <;> simp
/-- What comes next. -/
theorem BrI.next {L : List Lf} {ib : Nat} {E : Part → List UInt8 → List UInt8} {c : List UInt8} {l : List Part} {j : Nat} {lj : List Lne} (h : BrI L ib E c l j lj) (hj : j + 1 < l.length) (hlou : ∀ t : Tok, lf t ∈ l → lou t = true) :
    (∃ p, l[j]? = some p ∧ Sh p ∧ lj.length ≤ (nts' (l.take j)).length ∧ ∀ l2, SG L (ib + (nts' (l.take j)).length) (nt p).length l2 (E p) → BrI L ib E c l (j + 1) (lj ++ l2)) ∨
    (∃ b, l[j]? = some (lf b) ∧ lou b = true ∧ b.2 = [44] ∧ lj ≠ [] ∧ lj.length ≤ (nts' (l.take j)).length ∧ (∀ x ∈ lj, x.2.2 ≤ ib + (nts' (l.take j)).length) ∧ ∀ a : Lf, L[ib + (nts' (l.take j)).length]? = some a → a.1.2 = [44] → BrI L ib E c l (j + 1) (cl lj)) := by
  rcases h with ⟨T, h1, h2, h3⟩ | ⟨F, b, r, h1, h2, h3⟩
  · generalize hd : l.drop j = d at *
    cases h3 with
    | last _ p b hp hb =>
      obtain ⟨g1, g2, g3⟩ := drop_get hd
      refine .inl ⟨p, g1, hp, h1.len, fun l2 hl2 => .inr ⟨fun e => T ++ E p e, b, [], ?_, g2, .inl ⟨rfl, ?_⟩⟩⟩
      · rw [g3, nts_append, nts_one, List.length_append]; exact h1.then hl2
      · exact h2
    | more _ p b q l2' hp hb h =>
      obtain ⟨g1, g2, g3⟩ := drop_get hd
      refine .inl ⟨p, g1, hp, h1.len, fun l2 hl2 => .inr ⟨fun e => T ++ E p e, b, q :: l2', ?_, g2, .inr ⟨by simp, hb, h, ?_⟩⟩⟩
      · rw [g3, nts_append, nts_one, List.length_append]; exact h1.then hl2
      · rw [← h2, List.append_assoc]; rfl
  · obtain ⟨g1, g2, g3⟩ := drop_get h2
    rcases h3 with ⟨hr, -⟩ | ⟨hr, hb, hs, hm⟩
    · have := congrArg List.length h2
      rw [List.length_drop, hr] at this
      simp at this
      omega
    · have hl : lou b = true := hlou b (List.mem_of_getElem? g1)
      refine .inr ⟨b, g1, hl, hb, h1.ne, h1.rg.len, fun x hx => (h1.rg.inr x hx).2.2, fun a ha hc => .inl ⟨F [44], ?_, by rw [g2]; exact hm, by rw [g2]; exact hs⟩⟩
      rw [g3, nts_append, nts_one, nt_lf, if_pos hl, List.length_append]
      have := h1.close ha (.inl hc)
      rw [hc] at this
      exact this
theorem BrI.fin {L : List Lf} {ib : Nat} {E : Part → List UInt8 → List UInt8} {c : List UInt8} {l : List Part} {j : Nat} {lj : List Lne} (h : BrI L ib E c l j lj) (hj : j + 1 = l.length) : RG L ib (nts' (l.take j)).length lj (many E l) := by
  rcases h with ⟨T, h1, h2, h3⟩ | ⟨F, b, r, h1, h2, h3⟩
  · have := h3.two
    rw [List.length_drop] at this
    omega
  · rcases h3 with ⟨hr, hF⟩ | ⟨hr, hb, hs, hm⟩
    · rw [← hF]; exact h1.rg
    · have := congrArg List.length h2
      have h4 := hs.two
      rw [List.length_drop, List.length_cons] at this
      omega
end X
end Go.Proofs.YtohpfegpnbdfnaaGreatDoor
/- Plain mathematics: the lines of each kind of expression. -/
namespace Go.Proofs.YtohpfegpnbdfnaaGreatDoor
open M
namespace X
theorem ex_fit {f n : Nat} {p : Part} {e : List UInt8} (h : n + chars (flat [p]) + 1 ≤ 80) : ex f n p e = line n (flat [p] ++ e) := by
  cases f with
  | zero => rw [ex]
  | succ f => unfold ex; rw [if_pos h]
/-- Brackets with what stands in them. -/
theorem SG.bracket {L : List Lf} {i ib n k0 te : Nat} {lm : List Lne} {first : List UInt8} {l : List Part} {E : Part → List UInt8 → List UInt8} {b : Tok} {gg : Bool} (h1 : RG L i k0 [(n, i, ib + 1)] (X.line n first)) (hk : i + k0 = ib + 1) (h2 : RG L (ib + 1) (nts' (l.take (l.length - 1))).length lm (many E l)) (hb : l[l.length - 1]? = some (lf b)) (hlou : lou b = true) (hA : Ats L (ib + 1) (fls gg l)) (hn : n ≤ 522) (hte : te = ib + 1 + (nts' l).length) :
    SG L i (k0 + (nts' l).length) ([(n, i, ib + 1)] ++ lm ++ [(n, te - 1, te)]) (fun e => X.line n first ++ (many E l ++ X.line n (b.2 ++ e))) := by
  have hlt : l.length - 1 < l.length := by
    rcases Nat.lt_or_ge (l.length - 1) l.length with g | g
    · exact g
    · rw [List.getElem?_eq_none g] at hb; cases hb
  have hl : l = l.take (l.length - 1) ++ [lf b] := by
    have h := List.take_add_one (l := l) (i := l.length - 1)
    rw [hb, List.take_of_length_le (by omega)] at h
    exact h
  have hnl : (nts' l).length = (nts' (l.take (l.length - 1))).length + 1 := by
    conv => lhs; rw [hl]
    rw [nts_append, nts_one, nt_lf, if_pos hlou, List.length_append]; rfl
  have hA2 : Ats L (ib + 1 + (nts' (l.take (l.length - 1))).length) [(b, gg && b.2 == [40])] := by
    have h : fls gg l = fls gg (l.take (l.length - 1)) ++ [(b, gg && b.2 == [40])] := by
      conv => lhs; rw [hl]
      rw [fls_append, fls_one, fl_lf hlou]
    rw [h] at hA
    have := hA.right
    rw [fls_len] at this
    exact this
  have e1 : te - 1 = ib + 1 + (nts' (l.take (l.length - 1))).length := by omega
  have h3 := SG.line (n := n) (j := te) hA2 (by simp) hn (by simp; omega)
  rw [← hk] at h2
  have h4 := h1.app h2
  rw [← e1] at h3
  have e2 : te - 1 = i + (k0 + (nts' (l.take (l.length - 1))).length) := by omega
  rw [e2] at h3
  refine (h4.then h3).of (by rw [hnl]; simp; omega) (by rw [e2]) (fun e => ?_)
  rw [List.append_assoc]; rfl
end X
end Go.Proofs.YtohpfegpnbdfnaaGreatDoor
/- Plain mathematics: how long a layout can be, and how many tokens it has. -/
namespace Go.Proofs.YtohpfegpnbdfnaaGreatDoor
open M
namespace X
theorem Db.optPub {B : Nat} : Db X.optPub B := Db.ite (c := isN sPub) Db.take (Db.zero (fun _ => rfl))
theorem Db.useR {B : Nat} : Db X.useR B := (Db.want _).andThen (Db.wname.andThen ((Db.want _).andThen (Db.wname.andThen ((Db.ite (c := isN [97, 115]) (Db.take.andThen Db.wname) (Db.zero (fun _ => rfl))).andThen (Db.want _)))))
theorem Db.defR : Db X.defR 520 := (Db.want _).andThen (Db.wname.andThen ((Db.ite (c := isN [40]) Db.params (Db.zero (fun _ => rfl))).andThen ((Db.want _).andThen ((Db.expr 65).andThen (Db.want _)))))
theorem kid_dp {ts : List Tok} (h : starts ts = true) : dps (kid ts).2.1 ≤ 520 := by
  rw [kid_eq, h, if_pos rfl]
  split
  · exact (Db.optPub.andThen Db.useR) ts
  · exact (Db.optPub.andThen Db.defR) ts
theorem flat_le {M : Nat} {ps : List Part} : (flat ps).length ≤ wt M (nts' ps) := by
  by_cases h : nts' ps = []
  · have : fls false ps = [] := by
      have := fls_fst false ps
      rw [h] at this
      exact List.map_eq_nil_iff.1 this
    unfold flat
    rw [this, flt]; exact Nat.zero_le _
  · have := flat_len (M := M) h; omega
theorem item_len {p : Part} (hi : ItemOk p) (hn : nt p ≠ []) (hd : dps (kidsOf p) ≤ 520) : (item p).length ≤ wt 522 (nt p) := by
  unfold item
  by_cases hc : kindOf p = 3 ∨ chars (flat [p]) ≤ 80
  · rw [if_pos hc]
    have := flat_len (M := 522) (ps := [p]) (by rw [nts_one]; exact hn)
    rw [nts_one] at this
    rw [List.length_append, List.length_singleton]; omega
  rw [if_neg hc]
  cases hi with
  | use ps => exact absurd (.inl rfl) hc
  | dfn ps l q t h hq ht =>
    have lt : lou t = true := mem_pts h (by simp)
    have e1 : kidsOf (.br 4 ps) = ps := rfl
    rw [e1] at hd
    rw [nt_br, h, e1, h]
    have e2 : (l ++ [q, lf t]).length - 2 = l.length := by simp
    have e3 : (l ++ [q, lf t]).getD l.length nil1 = q := by simp [List.getD_eq_getElem?_getD]
    have e4 : nts' (l ++ [q, lf t]) = nts' l ++ (nt q ++ [t]) := by rw [nts_append, nts_cons, nts_one, nt_lf, if_pos lt]
    rw [e2, e3, List.take_left' rfl, e4, wt_append, wt_append, wt_one]
    have d1 : dp q ≤ dps ps := by
      have h1 := dps_pts ps
      rw [h] at h1
      have h2 : dp q ≤ dps (l ++ [q, lf t]) := dps_mem (by simp)
      omega
    have h1 := ex_len (M := 522) (nt q).length 2 q [59] hq (by omega)
    have h2 := flat_le (M := 522) (ps := l)
    rw [List.length_append, List.length_append]
    simp only [List.length_cons, List.length_nil] at h1 ⊢
    omega
theorem remarks_len (M : Nat) (ts : List Tok) : (remarks ts).length ≤ wt M (ts.filter rmk) := by
  unfold remarks
  generalize ts.filter rmk = l
  induction l with
  | nil => exact Nat.le_refl _
  | cons t l ih => rw [List.flatMap_cons, wt, List.length_append, List.length_append, List.length_singleton]; omega
theorem wt_two (M : Nat) (l : List Tok) : wt M (l.filter rmk) + wt M (l.filter lou) ≤ wt M l := by
  induction l with
  | nil => exact Nat.le_refl _
  | cons t l ih =>
    cases hr : rmk t with
    | true => rw [List.filter_cons_of_pos hr, List.filter_cons_of_neg (by rw [lou_rmk hr]; simp), wt, wt]; omega
    | false =>
      rw [List.filter_cons_of_neg (by simp [hr])]
      cases hl : lou t with
      | true => rw [List.filter_cons_of_pos hl, wt, wt]; omega
      | false => rw [List.filter_cons_of_neg (by simp [hl]), wt]; omega
/-- A kid whose lines are not too long. -/
def KidLn (p : Part) : Prop := quietP p = true ∨ (ItemOk p ∧ nt p ≠ [] ∧ dps (kidsOf p) ≤ 520)
theorem kidOut_len {p : Part} (h : KidLn p) : (kidOut p).length ≤ wt 522 (pl p) := by
  have h1 := remarks_len 522 (pl p)
  have h2 := wt_two 522 (pl p)
  unfold kidOut
  rw [List.length_append]
  rcases h with h | ⟨i1, i2, i3⟩
  · have : kindOf p = 0 := by
      cases p with
      | leaf k x => rfl
      | miss m => cases h
      | br k ps => cases h
    rw [if_pos this, List.length_nil]; omega
  · have := item_len i1 i2 i3
    unfold nt at this
    split
    · rw [List.length_nil]; omega
    · omega
theorem lay_len : ∀ (ps : List Part), (∀ p ∈ ps, KidLn p) → (lay ps).length ≤ wt 522 (pls ps)
  | [], _ => Nat.le_refl _
  | p :: ps, h => by
    have h1 := kidOut_len (h p (by simp))
    have h2 := lay_len ps (fun q hq => h q (List.mem_cons_of_mem _ hq))
    unfold lay at h2 ⊢
    rw [List.flatMap_cons, pls, wt_append, List.length_append]; omega
theorem fileL_ln (n : Nat) : ∀ ts : List Tok, ts.length ≤ n → (∀ t ∈ ts, t.1 ≠ 0) → clns (fileL ts) = true → ∀ p ∈ fileL ts, KidLn p := by
  induction n with
  | zero =>
    intro ts h hk hc p hp
    have : ts = [] := List.length_eq_zero_iff.1 (by omega)
    subst this; cases hp
  | succ n ih =>
    intro ts h hk hc p hp
    cases h0 : (kindN ts == 0) with
    | true =>
      rw [fileL_no h0] at hp
      obtain ⟨t, ht, rfl⟩ := List.mem_map.1 hp
      exact .inl (by rw [quiet_lf]; exact quiet_all h0 hk t ht)
    | false =>
      rw [fileL_yes h0] at hp hc
      rw [clns] at hc
      simp only [Bool.and_eq_true] at hc
      rcases List.mem_cons.1 hp with rfl | hp
      · refine .inr ⟨kid_ok hc.1, ?_, kid_dp (cln_starts hc.1)⟩
        obtain ⟨x, t, e1, e2⟩ := kid_end hc.1
        unfold nt
        rw [pl, e1, List.filter_append, List.filter_cons_of_pos e2]
        simp
      · have hl := kid_lt h0
        refine ih _ (by omega) (fun t ht => hk t ?_) hc.2 p hp
        rw [← kid_lvs ts]; exact List.mem_append_right _ ht
theorem wt_tb (M : Nat) (ts : List Tok) : wt M ts = (tb ts).length + (M + 2) * ts.length := by
  induction ts with
  | nil => rfl
  | cons t ts ih =>
    have e : tb (t :: ts) = t.2 ++ tb ts := rfl
    rw [wt, ih, e, List.length_append, List.length_cons, Nat.mul_add, Nat.mul_one]; omega
theorem xt_len_le (s : List UInt8) : (xt s).length ≤ s.length := by
  unfold xt; rw [List.length_map]; exact toks_len _ 0 s (Nat.le_refl _)
theorem layOf_len {s : List UInt8} (hc : clns (fileL (xt s)) = true) : (layOf s).length ≤ 525 * s.length := by
  have h1 := lay_len (fileL (xt s)) (fileL_ln _ _ (Nat.le_refl _) xt_kind hc)
  rw [fileL_toks, wt_tb, xt_tb] at h1
  have h2 := xt_len_le s
  unfold layOf
  omega
theorem skip_end (n : Nat) : ∀ l : List UInt8, l.length ≤ n → isSp (cc (l.drop (skip isSp l))) = false := by
  induction n with
  | zero =>
    intro l h
    have : l = [] := List.length_eq_zero_iff.1 (by omega)
    subst this; rw [skip_nil, List.drop_zero, cc_nil]; decide
  | succ n ih =>
    intro l h
    by_cases h0 : l = []
    · subst h0; rw [skip_nil, List.drop_zero, cc_nil]; decide
    cases hs : isSp (cc l) with
    | false => rw [skip_no hs, List.drop_zero]; exact hs
    | true =>
      rw [skip_yes h0 hs]
      have := ih (nx l) (by have := nx_lt h0; omega)
      unfold nx at this ⊢
      rw [List.drop_drop] at this
      exact this
/-- Between two spaces there is something else. -/
theorem xt_cnt (n : Nat) : ∀ l : List UInt8, l.length ≤ n → (xt l).length ≤ 2 * (nsp l).length + 1 ∧ (isSp (cc l) = false → (xt l).length ≤ 2 * (nsp l).length) := by
  induction n with
  | zero =>
    intro l h
    have : l = [] := List.length_eq_zero_iff.1 (by omega)
    subst this; rw [xt_nil, nsp_nil]; exact ⟨by simp, fun _ => by simp⟩
  | succ n ih =>
    intro l h
    by_cases h0 : l = []
    · subst h0; rw [xt_nil, nsp_nil]; exact ⟨by simp, fun _ => by simp⟩
    have hb := tok_bounds h0
    have hi := ih (l.drop (tok l).2) (by rw [List.length_drop]; omega)
    by_cases h1 : (tok l).1 = 1
    · have hsp : isSp (cc l) = true := by
        cases hs : isSp (cc l) with
        | true => rfl
        | false =>
          exfalso
          unfold tok at h1
          rw [hs] at h1
          simp only [Bool.false_eq_true, if_false] at h1
          have q := quo_le _ 6 (nx l) (Nat.le_refl _)
          have m := nest_le _ 1 (nx (nx l)) (Nat.le_refl _)
          repeat' split at h1
          all_goals (simp only at h1; omega)
      rw [nsp_one h0 h1, xt_cons h0, List.length_cons]
      refine ⟨?_, fun e => by rw [hsp] at e; cases e⟩
      have e2 : (tok l).2 = skip isSp l := by unfold tok; rw [if_pos hsp, skip_yes h0 hsp]
      have hn : isSp (cc (l.drop (skip isSp l))) = false := skip_end _ l (Nat.le_refl _)
      rw [e2] at hi ⊢
      have := hi.2 hn
      omega
    · have : nsp l = ((tok l).1, l.take (tok l).2) :: nsp (l.drop (tok l).2) := by
        unfold nsp
        rw [xt_cons h0, List.filter_cons_of_pos (by simp [h1])]
      rw [this, xt_cons h0, List.length_cons, List.length_cons]
      exact ⟨by omega, fun _ => by omega⟩
theorem layOf_cnt {s : List UInt8} (hc : clns (fileL (xt s)) = true) : (xt (layOf s)).length ≤ 2 * s.length + 1 := by
  have h1 := (xt_cnt _ (layOf s) (Nat.le_refl _)).1
  rw [layOf_nsp hc] at h1
  have h2 : (nrm (fileL (xt s))).length ≤ (xt s).length := by
    have : ∀ ps : List Part, (nrm ps).length ≤ (pls ps).length := by
      intro ps
      induction ps with
      | nil => exact Nat.le_refl _
      | cons p ps ih =>
        have e : ∀ l : List Tok, (l.filter rmk).length + (l.filter lou).length ≤ l.length := by
          intro l
          induction l with
          | nil => exact Nat.le_refl _
          | cons t l il =>
            cases hr : rmk t with
            | true => rw [List.filter_cons_of_pos hr, List.filter_cons_of_neg (by rw [lou_rmk hr]; simp), List.length_cons, List.length_cons]; omega
            | false =>
              rw [List.filter_cons_of_neg (by simp [hr])]
              cases hl : lou t with
              | true => rw [List.filter_cons_of_pos hl, List.length_cons, List.length_cons]; omega
              | false => rw [List.filter_cons_of_neg (by simp [hl]), List.length_cons]; omega
        have := e (pl p)
        unfold nrm at ih ⊢
        have e3 : (nt p).length = ((pl p).filter lou).length := rfl
        rw [List.flatMap_cons, pls, List.length_append, List.length_append, List.length_append]
        omega
    have := this (fileL (xt s))
    rw [fileL_toks] at this
    exact this
  have h3 := xt_len_le s
  omega
end X
end Go.Proofs.YtohpfegpnbdfnaaGreatDoor
/- The document's lines, and how many characters a text has. -/
namespace Go.Proofs.YtohpfegpnbdfnaaGreatDoor
open Go.RowKit
open M
theorem bs_app (a b : ByteArray) : bs (a ++ b) = bs a ++ bs b := by
  unfold bs
  simp [ByteArray.data_append]
theorem ba_app (x y : List UInt8) : ba x ++ ba y = ba (x ++ y) := bs_inj (by rw [bs_app, bs_ba, bs_ba, bs_ba])
theorem rep_snoc (j : Nat) (b : UInt8) : List.replicate j b ++ [b] = List.replicate (j + 1) b := by rw [List.replicate_succ']
set_option maxRecDepth 100000 in
set_option maxHeartbeats 4000000 in
theorem yline_any (n : Nat) (x : List UInt8) (w : World) (hn : n ≤ 1000000) (hx : x.length ≤ 1073741823) :
    Calls Tryz.prog 49 #[.int .i64 n, .string (ba x)] w fun e w' => e = .returned (.string (ba (X.line n x))) ∧ w' = w := by
  go_enter Tryz.func49, Tryz.ntmps49
  go_wp2_with fail
  go_loopw [5, 6] (fun a i wr => ∃ (j : Nat) (A : ByteArray), j ≤ n ∧ A = ba (List.replicate j 32) ∧ a = .string A ∧ i = .int .i64 j ∧ wr = w) (fun _ i _ => n - (intOf i).toNat)
  case atStart => exact ⟨0, ⟨#[]⟩, Nat.zero_le _, rfl, rfl, rfl, rfl⟩
  case round =>
    obtain ⟨j, A, hj, hA, rfl, rfl, rfl⟩ := hrel
    have hz : A.size = j := by rw [hA, ba_size, List.length_replicate]
    by_cases hlt : j < n
    · have i2 : (j : Int) < (n : Int) := by omega
      have i3 : decide ((j : Int) < (n : Int)) = true := by simp; omega
      have hnz : ¬ 9223372036854775807 < A.size + 1 := by omega
      have hN : A ++ ⟨#[32]⟩ = ba (List.replicate (j + 1) 32) := by rw [hA, ← rep_snoc, ← ba_app]; rfl
      have HN := hide hN
      clear hA hN
      go_wp2_with fail
      exact ⟨⟨j + 1, _, by omega, HN.out, rfl, by go_num, trivial⟩, by simp only [intOf]; omega⟩
    · obtain rfl : j = n := by omega
      have i3 : decide ((j : Int) < (j : Int)) = false := by simp
      have hxz : (ba x).size = x.length := ba_size x
      have hn1 : ¬ 9223372036854775807 < A.size + (ba x).size := by omega
      have hn2 : ¬ 9223372036854775807 < A.size + (ba x).size + 1 := by omega
      have hn3 : ¬ 9223372036854775807 < (A ++ ba x).size + 1 := by rw [ByteArray.size_append]; omega
      have HN : Hid (A ++ ba x ++ ⟨#[10]⟩ = ba (X.line j x)) := by
        show _ = _
        rw [hA, ba_app, show (⟨#[10]⟩ : ByteArray) = ba [10] from rfl, ba_app]
        unfold X.line
        rw [List.append_assoc]
      clear hA
      go_wp2_with fail
      go_ret
      exact ⟨by rw [HN.out]; rfl, rfl⟩
end Go.Proofs.YtohpfegpnbdfnaaGreatDoor
/- Plain mathematics: what the kids of a root are in which nothing is wrong. -/
namespace Go.Proofs.YtohpfegpnbdfnaaGreatDoor
open M
namespace X
theorem def_first {ts : List Tok} (h : nms (defR ts).1 = true) : ∃ t0 r, pts (defR ts).1 = lf t0 :: r := by
  have e : ∃ b, (defR ts).1 = (want sDef ts).1 ++ b := ⟨_, rfl⟩
  obtain ⟨b, e⟩ := e
  rw [e] at h ⊢
  obtain ⟨t, -, t2⟩ := want_pts (nms_two h).1
  exact ⟨t, pts b, by rw [pts_append, t2]; rfl⟩
/-- A kid of a root: what is quiet, a use, a def. -/
def KidW (p : Part) : Prop := quietP p = true ∨ (∃ ps, p = .br 3 ps) ∨ ∃ ps l q t, p = .br 4 ps ∧ pts ps = l ++ [q, lf t] ∧ Sh q ∧ t.2 = [59] ∧ nts' l ≠ []
theorem kid_w {ts : List Tok} (h : cln (.br (kid ts).1 (kid ts).2.1) = true) : KidW (.br (kid ts).1 (kid ts).2.1) := by
  rw [kid_eq] at h ⊢
  cases hs : starts ts with
  | false =>
    rw [hs, if_neg (by simp)] at h
    rw [cln] at h; cases h
  | true =>
    rw [hs, if_pos rfl] at h
    rw [if_pos rfl]
    cases hu : isN sUse (optPub ts).2 with
    | true => rw [if_pos rfl]; exact .inr (.inl ⟨_, rfl⟩)
    | false =>
      rw [hu, if_neg (by simp)] at h
      rw [if_neg (by simp)]
      have h1 := cln_nm h
      rw [nm_br] at h1
      have e : (andThen optPub defR ts).1 = (optPub ts).1 ++ (defR (optPub ts).2).1 := rfl
      show KidW (.br 4 (andThen optPub defR ts).1)
      have h2 : nms (andThen optPub defR ts).1 = true := h1
      rw [e] at h2 ⊢
      obtain ⟨l, q, t, d1, d2, d3⟩ := def_shape (nms_two h2).2
      obtain ⟨t0, r, d4⟩ := def_first (nms_two h2).2
      refine .inr (.inr ⟨_, pts (optPub ts).1 ++ l, q, t, rfl, ?_, d2, d3, ?_⟩)
      · rw [pts_append, d1, List.append_assoc]
      · have hl : lou t0 = true := mem_pts d4 (by simp)
        rw [d1] at d4
        cases l with
        | nil =>
          injection d4 with d5 d6
          obtain ⟨k, ps, e2⟩ := d2.br
          rw [e2] at d5; cases d5
        | cons x l =>
          injection d4 with d5 d6
          subst d5
          rw [nts_append, nts_cons, nt_lf, if_pos hl]
          simp
theorem fileL_w (n : Nat) : ∀ ts : List Tok, ts.length ≤ n → (∀ t ∈ ts, t.1 ≠ 0) → clns (fileL ts) = true → ∀ p ∈ fileL ts, KidW p := by
  induction n with
  | zero =>
    intro ts h hk hc p hp
    have : ts = [] := List.length_eq_zero_iff.1 (by omega)
    subst this; cases hp
  | succ n ih =>
    intro ts h hk hc p hp
    cases h0 : (kindN ts == 0) with
    | true =>
      rw [fileL_no h0] at hp
      obtain ⟨t, ht, rfl⟩ := List.mem_map.1 hp
      exact .inl (by rw [quiet_lf]; exact quiet_all h0 hk t ht)
    | false =>
      rw [fileL_yes h0] at hp hc
      rw [clns] at hc
      simp only [Bool.and_eq_true] at hc
      rcases List.mem_cons.1 hp with rfl | hp
      · exact kid_w hc.1
      · have hl := kid_lt h0
        refine ih _ (by omega) (fun t ht => hk t ?_) hc.2 p hp
        rw [← kid_lvs ts]; exact List.mem_append_right _ ht
/-- A def that is too long for a line. -/
theorem item_def {ps l : List Part} {q : Part} {t : Tok} (h : pts ps = l ++ [q, lf t]) (hw : ¬ chars (flat [.br 4 ps]) ≤ 80) : item (.br 4 ps) = flat l ++ ([10] ++ ex (nt q).length 2 q [59]) := by
  unfold item
  rw [if_neg (by intro e; rcases e with e | e; exact absurd (show (4 : Nat) = 3 from e) (by decide); exact hw e)]
  have e1 : kidsOf (.br 4 ps) = ps := rfl
  have e2 : (l ++ [q, lf t]).length - 2 = l.length := by simp
  have e3 : (l ++ [q, lf t]).getD l.length nil1 = q := by simp [List.getD_eq_getElem?_getD]
  rw [e1, h, e2, e3, List.take_left' rfl]
end X
end Go.Proofs.YtohpfegpnbdfnaaGreatDoor
