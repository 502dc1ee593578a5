/- Plain mathematics: a layout does not hang on what is quiet. -/
import Derived.Test.YtohpfegpnbdfnaaGreatDoorLj
namespace Go.Proofs.YtohpfegpnbdfnaaGreatDoor
open M
namespace X
theorem dq_quiet : Dq quiet := fun _ h => h
/-- Spaces alone. -/
def spc (t : Tok) : Bool := t.1 == 1
theorem dq_spc : Dq spc := fun t h => by unfold spc at h; unfold quiet; rw [h]; rfl
/-- Without anything quiet. -/
abbrev st : Part → Part := strip quiet
abbrev sts : List Part → List Part := strips quiet
theorem drop_quiet (p : Part) : dropP quiet p = quietP p := by cases p <;> rfl
theorem sts_map (ps : List Part) : sts ps = (pts ps).map st := by
  induction ps with
  | nil => rfl
  | cons p ps ih =>
    unfold sts pts at *
    rw [strips, drop_quiet, ih]
    cases h : quietP p with
    | true => rw [if_pos rfl, List.filter_cons_of_neg (by simp [h])]
    | false => rw [if_neg (by simp), List.filter_cons_of_pos (by simp [h])]; rfl
theorem st_quiet (p : Part) : quietP (st p) = quietP p := by cases p <;> simp [st, strip, quietP]
theorem pts_map (ps : List Part) : pts ((pts ps).map st) = (pts ps).map st := by
  unfold pts
  rw [List.filter_eq_self]
  intro p hp
  obtain ⟨q, hq, rfl⟩ := List.mem_map.1 hp
  rw [st_quiet]; exact (List.mem_filter.1 hq).2
mutual
theorem fl_st (g : Bool) : ∀ p : Part, fl g (st p) = fl g p
  | .leaf k x => by unfold st; rw [strip]
  | .miss m => by unfold st; rw [strip]
  | .br k ps => by unfold st; rw [strip, fl, fl]; exact fls_sts (k == 14) ps
theorem fls_sts (g : Bool) : ∀ ps : List Part, fls g (sts ps) = fls g ps
  | [] => rfl
  | p :: ps => by
    unfold sts
    rw [strips, drop_quiet, fls]
    cases h : quietP p with
    | true =>
      have h0 : fl g p = [] := by
        cases p with
        | leaf k x => rw [fl, if_pos]; unfold quietP at h; simpa using h
        | miss m => cases h
        | br k qs => cases h
      rw [if_pos rfl, h0, List.nil_append]
      exact fls_sts g ps
    | false =>
      rw [if_neg (by simp), fls]
      have h1 := fl_st g p
      have h2 := fls_sts g ps
      unfold st at h1; unfold sts at h2
      rw [h1, h2]
end
theorem fls_map (g : Bool) (l : List Part) : fls g (l.map st) = fls g l := by
  induction l with
  | nil => rfl
  | cons p l ih => rw [List.map_cons, fls, fls, ih, fl_st]
theorem flat_map (l : List Part) : flat (l.map st) = flat l := by unfold flat; rw [fls_map]
theorem flat_st (p : Part) : flat [st p] = flat [p] := flat_map [p]
theorem nt_st (p : Part) : nt (st p) = nt p := by rw [← fl_fst false, ← fl_fst false, fl_st]
theorem nts_sts (ps : List Part) : nts' (sts ps) = nts' ps := by rw [← fls_fst false, ← fls_fst false, fls_sts]
theorem kind_st (p : Part) : kindOf (st p) = kindOf p := by cases p <;> simp [st, strip, kindOf]
theorem text_st (p : Part) : textOf (st p) = textOf p := by cases p <;> simp [st, strip, textOf]
theorem kids_st (p : Part) : pts (kidsOf (st p)) = (pts (kidsOf p)).map st := by
  cases p with
  | leaf k x => simp [st, strip, kidsOf, pts]
  | miss m => simp [st, strip, kidsOf, pts]
  | br k ps =>
    have e : kidsOf (st (.br k ps)) = sts ps := by unfold st sts; rw [strip]; rfl
    rw [e, sts_map, pts_map]; rfl
theorem getD_map (l : List Part) (i : Nat) : (l.map st).getD i nil1 = st (l.getD i nil1) := by
  rw [List.getD_eq_getElem?_getD, List.getD_eq_getElem?_getD, List.getElem?_map]
  cases l[i]? with
  | none => simp [nil1, st, strip]
  | some p => rfl
theorem many_map {E E' : Part → List UInt8 → List UInt8} (h : ∀ p e, E (st p) e = E' p e) : ∀ l : List Part, many E (l.map st) = many E' l
  | [] => rfl
  | [_] => rfl
  | [p, _] => h p []
  | p :: _ :: q :: l => by
    have := many_map h (q :: l)
    rw [List.map_cons, List.map_cons, List.map_cons]
    unfold many
    rw [List.map_cons] at this
    rw [h, this]
theorem bracket_map {E E' : Part → List UInt8 → List UInt8} (h : ∀ p e, E (st p) e = E' p e) (n : Nat) (whole first e : List UInt8) (l : List Part) : bracket E n whole first (l.map st) e = bracket E' n whole first l e := by
  unfold bracket
  rw [List.length_map, ← List.map_drop, many_map h, getD_map, text_st]
theorem ex_st : ∀ (f n : Nat) (p : Part) (e : List UInt8), ex f n (st p) e = ex f n p e := by
  intro f
  induction f with
  | zero => intro n p e; unfold ex; rw [flat_st]
  | succ f ih =>
    intro n p e
    unfold ex
    have h2 : ∀ p e, ex f (n + 2) (st p) e = ex f (n + 2) p e := fun p e => ih (n + 2) p e
    rw [flat_st, kind_st, kids_st, getD_map, getD_map, getD_map, getD_map, getD_map, kids_st, ← List.map_take, ← List.map_take, flat_map, flat_map, flat_st, ih, ih, ih, ih, ih, ih, text_st, bracket_map h2, bracket_map h2, bracket_map h2]
theorem item_st (p : Part) : item (st p) = item p := by
  unfold item
  rw [kind_st, flat_st, kids_st, List.length_map, ← List.map_take, flat_map, getD_map, ex_st, nt_st]
theorem item_eq {p q : Part} (h : st p = st q) : item p = item q := by rw [← item_st p, h, item_st]
mutual
theorem cln_st : ∀ p : Part, cln (st p) = cln p
  | .leaf k x => by unfold st; rw [strip]
  | .miss m => by unfold st; rw [strip]
  | .br k ps => by unfold st; rw [strip, cln, cln]; rw [show clns (strips quiet ps) = clns ps from clns_sts ps]
theorem clns_sts : ∀ ps : List Part, clns (sts ps) = clns ps
  | [] => rfl
  | p :: ps => by
    unfold sts
    rw [strips, drop_quiet, clns]
    have h2 : clns (strips quiet ps) = clns ps := clns_sts ps
    cases h : quietP p with
    | true =>
      have h0 : cln p = true := by
        cases p with
        | leaf k x => unfold quietP at h; rw [cln]; simp at h ⊢; omega
        | miss m => cases h
        | br k qs => cases h
      rw [if_pos rfl, h2, h0]; rfl
    | false =>
      have h1 : cln (strip quiet p) = cln p := cln_st p
      rw [if_neg (by simp), clns, h1, h2]
end
/-- Likewise without spaces alone: remarks stay. -/
abbrev s1 : Part → Part := strip spc
abbrev s1s : List Part → List Part := strips spc
mutual
theorem st_s1 : ∀ p : Part, st (s1 p) = st p
  | .leaf k x => by unfold st s1; rw [strip]
  | .miss m => by unfold st s1; rw [strip]
  | .br k ps => by
    have := sts_s1s ps
    unfold sts s1s at this
    unfold st s1; rw [strip, strip, strip, this]
theorem sts_s1s : ∀ ps : List Part, sts (s1s ps) = sts ps
  | [] => rfl
  | p :: ps => by
    have h2 := sts_s1s ps
    have h1 := st_s1 p
    unfold sts s1s at *
    unfold st s1 at h1
    rw [strips]
    conv => rhs; rw [strips]
    cases h : dropP spc p with
    | true =>
      have h3 : dropP quiet p = true := by
        cases p with
        | leaf k x => exact dq_spc _ h
        | miss m => cases h
        | br k qs => cases h
      rw [if_pos rfl, h3, if_pos rfl, h2]
    | false =>
      rw [if_neg (by simp), strips, h1, h2]
      have h3 : dropP quiet (strip spc p) = dropP quiet p := by cases p <;> simp [strip, dropP]
      rw [h3]
end
mutual
theorem pl_s1 : ∀ p : Part, (pl (s1 p)).filter rmk = (pl p).filter rmk
  | .leaf k x => by unfold s1; rw [strip]
  | .miss m => by unfold s1; rw [strip]
  | .br k ps => by
    have := pls_s1 ps
    unfold s1s at this
    unfold s1; rw [strip, pl, pl, this]
theorem pls_s1 : ∀ ps : List Part, (pls (s1s ps)).filter rmk = (pls ps).filter rmk
  | [] => rfl
  | p :: ps => by
    have h2 := pls_s1 ps
    have h1 := pl_s1 p
    unfold s1s at *
    unfold s1 at h1
    rw [strips, pls, List.filter_append]
    cases h : dropP spc p with
    | true =>
      have h3 : (pl p).filter rmk = [] := by
        cases p with
        | leaf k x =>
          rw [pl]
          have : k = 1 := by simpa [dropP, spc] using h
          rw [List.filter_cons_of_neg (by simp [rmk, this])]; rfl
        | miss m => cases h
        | br k qs => cases h
      rw [if_pos rfl, h2, h3]; rfl
    | false => rw [if_neg (by simp), pls, List.filter_append, h1, h2]
end
theorem kidOut_s1 {p q : Part} (h : s1 p = s1 q) : kidOut p = kidOut q := by
  have h1 : st p = st q := by rw [← st_s1 p, h, st_s1]
  have h2 : (pl p).filter rmk = (pl q).filter rmk := by rw [← pl_s1 p, h, pl_s1]
  have h3 : kindOf p = kindOf q := by rw [← kind_st p, h1, kind_st]
  unfold kidOut remarks
  rw [h2, h3, item_eq h1]
theorem lay_quiet {ts : List Tok} (h : ∀ t ∈ ts, quiet t = true) : lay (ts.map lf) = remarks ts := by
  induction ts with
  | nil => rfl
  | cons t ts ih =>
    have := ih (fun u hu => h u (List.mem_cons_of_mem _ hu))
    unfold lay at this ⊢
    rw [List.map_cons, List.flatMap_cons, this]
    unfold kidOut
    have e : kindOf (lf t) = 0 := rfl
    have e2 : pl (lf t) = [t] := by unfold lf; rw [pl]
    rw [e, if_pos rfl, e2, List.append_nil]
    unfold remarks
    rw [← List.flatMap_append, ← List.filter_append]; rfl
theorem kept_rmk (ts : List Tok) : (kept spc ts).filter rmk = ts.filter rmk := by
  unfold kept
  rw [List.filter_filter]
  congr 1
  funext t
  unfold rmk spc
  cases h : t.1 == 2 with
  | true => have : t.1 = 2 := by simpa using h
            simp [this]
  | false => simp
theorem remarks_kept {a b : List Tok} (h : kept spc a = kept spc b) : remarks a = remarks b := by
  unfold remarks; rw [← kept_rmk a, h, kept_rmk]
theorem sts_quiet {ts : List Tok} (h : ∀ t ∈ ts, quiet t = true) : sts (ts.map lf) = [] := by
  unfold sts
  rw [strips_lf]
  have : kept quiet ts = [] := by
    unfold kept
    rw [List.filter_eq_nil_iff]
    intro t ht; rw [h t ht]; decide
  rw [this]; rfl
theorem clns_quiet {ts : List Tok} (h : ∀ t ∈ ts, quiet t = true) : clns (ts.map lf) = true := by
  rw [← clns_sts, sts_quiet h]; rfl
theorem cln_starts {ts : List Tok} (h : cln (.br (kid ts).1 (kid ts).2.1) = true) : starts ts = true := by
  cases hs : starts ts with
  | true => rfl
  | false =>
    rw [kid_eq, hs, if_neg (by simp), cln] at h; cases h
theorem kept_kinds {a b : List Tok} (h : kept spc a = kept spc b) (hk : ∀ t ∈ a, t.1 ≠ 0) : ∀ t ∈ b, t.1 ≠ 0 := by
  intro t ht e
  have hm : t ∈ kept spc b := List.mem_filter.2 ⟨ht, by simp [spc, e]⟩
  rw [← h] at hm
  exact hk t (List.mem_filter.1 hm).1 e
theorem kid_kinds {ts : List Tok} (h : ∀ t ∈ ts, t.1 ≠ 0) : ∀ t ∈ (kid ts).2.2, t.1 ≠ 0 := fun t ht => h t (by rw [← kid_lvs ts]; exact List.mem_append_right _ ht)
/-- Spaces make no difference. -/
theorem lay_kept (n : Nat) : ∀ a b : List Tok, a.length ≤ n → (∀ t ∈ a, t.1 ≠ 0) → kept spc a = kept spc b → clns (fileL a) = true → lay (fileL a) = lay (fileL b) ∧ sts (fileL a) = sts (fileL b) := by
  induction n with
  | zero =>
    intro a b ha hk he hc
    have : a = [] := List.length_eq_zero_iff.1 (by omega)
    have h1 : (kindN a == 0) = true := by rw [this]; rfl
    have h2 : (kindN b == 0) = true := by rw [← kind_eq dq_spc 0 a b he]; exact h1
    rw [fileL_no h1, fileL_no h2, lay_quiet (quiet_all h1 hk), lay_quiet (quiet_all h2 (kept_kinds he hk)), sts_quiet (quiet_all h1 hk), sts_quiet (quiet_all h2 (kept_kinds he hk))]
    exact ⟨remarks_kept he, rfl⟩
  | succ n ih =>
    intro a b ha hk he hc
    cases h1 : (kindN a == 0) with
    | true =>
      have h2 : (kindN b == 0) = true := by rw [← kind_eq dq_spc 0 a b he]; exact h1
      rw [fileL_no h1, fileL_no h2, lay_quiet (quiet_all h1 hk), lay_quiet (quiet_all h2 (kept_kinds he hk)), sts_quiet (quiet_all h1 hk), sts_quiet (quiet_all h2 (kept_kinds he hk))]
      exact ⟨remarks_kept he, rfl⟩
    | false =>
      have h2 : (kindN b == 0) = false := by rw [← kind_eq dq_spc 0 a b he]; exact h1
      rw [fileL_yes h1] at hc
      rw [clns] at hc
      simp only [Bool.and_eq_true] at hc
      obtain ⟨k1, k2, k3⟩ := kid_qt dq_spc (cln_starts hc.1) he
      have hl := kid_lt h1
      obtain ⟨i1, i2⟩ := ih _ _ (by omega) (kid_kinds hk) k3 hc.2
      have e : s1 (.br (kid a).1 (kid a).2.1) = s1 (.br (kid b).1 (kid b).2.1) := by unfold s1; rw [strip, strip, k1, k2]
      have e2 : st (.br (kid a).1 (kid a).2.1) = st (.br (kid b).1 (kid b).2.1) := by rw [← st_s1, e, st_s1]
      rw [fileL_yes h1, fileL_yes h2]
      constructor
      · unfold lay at i1 ⊢
        rw [List.flatMap_cons, List.flatMap_cons, i1, kidOut_s1 e]
      · unfold sts at i2 ⊢
        rw [strips, strips, if_neg (by simp [dropP]), if_neg (by simp [dropP]), i2]
        unfold st at e2
        rw [e2]
end X
end Go.Proofs.YtohpfegpnbdfnaaGreatDoor
/- Plain mathematics: laid out once is laid out for good; a layout is read as the text was. -/
namespace Go.Proofs.YtohpfegpnbdfnaaGreatDoor
open M
namespace X
/-- The tokens of a layout: of each kid its remarks, then the others. -/
def nrm (ps : List Part) : List Tok := ps.flatMap (fun p => (pl p).filter rmk ++ nt p)
theorem lou_rmk {t : Tok} (h : rmk t = true) : lou t = false := by unfold rmk at h; unfold lou; simp at h ⊢; omega
theorem filt_no {α : Type} {p q : α → Bool} {l : List α} (h : ∀ a, p a = true → q a = false) : (l.filter p).filter q = [] := by
  rw [List.filter_eq_nil_iff]
  intro a ha
  rw [h a (List.mem_filter.1 ha).2]; decide
theorem filt_same {α : Type} {p : α → Bool} {l : List α} : (l.filter p).filter p = l.filter p := by rw [List.filter_filter]; congr 1; funext a; simp
theorem lou_quiet (t : Tok) : lou t = !quiet t := rfl
theorem kept_lou (ts : List Tok) : kept quiet ts = ts.filter lou := rfl
theorem nrm_lou (ps : List Part) : (nrm ps).filter lou = nts' ps := by
  induction ps with
  | nil => rfl
  | cons p ps ih =>
    unfold nrm at ih ⊢
    rw [List.flatMap_cons, List.filter_append, List.filter_append, ih, filt_no (fun a h => lou_rmk h), List.nil_append, nts_cons]
    unfold nt
    rw [filt_same]
theorem nrm_rmk (ps : List Part) : (nrm ps).filter rmk = (pls ps).filter rmk := by
  induction ps with
  | nil => rfl
  | cons p ps ih =>
    unfold nrm at ih ⊢
    rw [List.flatMap_cons, List.filter_append, List.filter_append, ih, filt_same, pls, List.filter_append]
    have : (nt p).filter rmk = [] := by
      unfold nt
      refine filt_no (fun a h => ?_)
      cases hr : rmk a with
      | true => rw [lou_rmk hr] at h; cases h
      | false => rfl
    rw [this, List.append_nil]
theorem nrm_mem {ps : List Part} : ∀ t ∈ nrm ps, t ∈ pls ps ∧ t.1 ≠ 1 := by
  induction ps with
  | nil => intro t ht; cases ht
  | cons p ps ih =>
    intro t ht
    unfold nrm at ih ht
    rw [List.flatMap_cons] at ht
    rw [pls]
    rcases List.mem_append.1 ht with ht | ht
    · rcases List.mem_append.1 ht with ht | ht
      · obtain ⟨h1, h2⟩ := List.mem_filter.1 ht
        exact ⟨List.mem_append_left _ h1, fun e => by simp [rmk, e] at h2⟩
      · obtain ⟨h1, h2⟩ := List.mem_filter.1 ht
        exact ⟨List.mem_append_left _ h1, fun e => by simp [lou, e] at h2⟩
    · exact ⟨List.mem_append_right _ (ih t ht).1, (ih t ht).2⟩
theorem fileL_toks (ts : List Tok) : pls (fileL ts) = ts := fileGo_lvs _ ts
/-- Two beginnings of a list that end with something that is not quiet, and have the same of these. -/
theorem pre_eq {a b r s : List Tok} {x y : List Tok} {t u : Tok} (h : a ++ r = b ++ s) (ha : a = x ++ [t]) (hb : b = y ++ [u]) (ht : lou t = true) (hu : lou u = true) (hf : a.filter lou = b.filter lou) : a = b ∧ r = s := by
  have key : ∀ {a b r s : List Tok} {x : List Tok} {t : Tok}, a ++ r = b ++ s → b = x ++ [t] → lou t = true → a.filter lou = b.filter lou → a.length ≤ b.length → a = b := by
    intro a b r s x t h hb ht hf hl
    obtain ⟨m, hm⟩ : ∃ m, b = a ++ m := by
      have := congrArg (List.take b.length) h
      rw [List.take_left' rfl, List.take_append, List.take_of_length_le hl] at this
      exact ⟨_, this.symm⟩
    cases hM : m.reverse with
    | nil => have : m = [] := by simpa using hM
             rw [hm, this, List.append_nil]
    | cons v l =>
      exfalso
      have hmv : m = l.reverse ++ [v] := by
        have := congrArg List.reverse hM
        simpa using this
      rw [hm, List.filter_append] at hf
      have h0 : m.filter lou = [] := List.self_eq_append_right.1 hf
      rw [hm, hmv, ← List.append_assoc] at hb
      have hv : v = t := (List.append_inj' hb rfl).2 |> List.singleton_inj.1
      have := List.filter_eq_nil_iff.1 h0 v (by rw [hmv]; simp)
      rw [hv] at this
      exact this ht
  have e : a = b := by
    rcases Nat.le_total a.length b.length with hl | hl
    · exact key h hb hu hf hl
    · exact (key h.symm ha ht hf.symm hl).symm
  exact ⟨e, by rw [e] at h; exact List.append_cancel_left h⟩
/-- What ends an item. -/
theorem want_end {s : List UInt8} {ts : List Tok} (h : nms (want s ts).1 = true) : ∃ x t, pls (want s ts).1 = x ++ [t] ∧ lou t = true := by
  unfold want at h ⊢
  by_cases hc : isN s ts = true
  · rw [if_pos hc]
    have hn := isN_next hc
    unfold nxt at hn
    cases hd : ts.dropWhile quiet with
    | nil => rw [hd] at hn; exact absurd rfl hn
    | cons t l =>
      have hne : quiet t = false := by
        have := List.head?_dropWhile_not quiet ts
        rw [hd] at this
        simpa using this
      refine ⟨ts.takeWhile quiet, t, ?_, by rw [lou_quiet, hne]; rfl⟩
      show pls ((ts.takeWhile quiet ++ (ts.dropWhile quiet).take 1).map lf) = _
      rw [hd, pls_lf]; rfl
  · rw [if_neg hc] at h; cases h
theorem kid_end {ts : List Tok} (h : cln (.br (kid ts).1 (kid ts).2.1) = true) : ∃ x t, pls (kid ts).2.1 = x ++ [t] ∧ lou t = true := by
  have hs := cln_starts h
  have h1 := cln_nm h
  rw [nm_br] at h1
  have key : ∀ (a : List Part) (u : List Tok), (kid ts).2.1 = a ++ (want [59] u).1 → ∃ x t, pls (kid ts).2.1 = x ++ [t] ∧ lou t = true := by
    intro a u e
    rw [e] at h1 ⊢
    obtain ⟨x, t, e1, e2⟩ := want_end (nms_two h1).2
    exact ⟨pls a ++ x, t, by rw [pls_append, e1, List.append_assoc], e2⟩
  have : ∃ (a : List Part) (u : List Tok), (kid ts).2.1 = a ++ (want [59] u).1 := by
    rw [kid_eq, hs, if_pos rfl]
    split
    · unfold useR
      simp only [andThen]
      simp only [← List.append_assoc]
      exact ⟨_, _, rfl⟩
    · unfold defR
      simp only [andThen]
      simp only [← List.append_assoc]
      exact ⟨_, _, rfl⟩
  obtain ⟨a, u, e⟩ := this
  exact key a u e
end X
end Go.Proofs.YtohpfegpnbdfnaaGreatDoor
/- Plain mathematics: laid out once is laid out for good; a layout is read as the text was. -/
namespace Go.Proofs.YtohpfegpnbdfnaaGreatDoor
open M
namespace X
theorem nrm_quiet {ts : List Tok} (h : ∀ t ∈ ts, quiet t = true) : nrm (ts.map lf) = ts.filter rmk := by
  induction ts with
  | nil => rfl
  | cons t ts ih =>
    have := ih (fun u hu => h u (List.mem_cons_of_mem _ hu))
    unfold nrm at this ⊢
    rw [List.map_cons, List.flatMap_cons, this, nt_lf, if_neg (by rw [lou_quiet, h t (by simp)]; simp), List.append_nil]
    have e2 : pl (lf t) = [t] := by unfold lf; rw [pl]
    rw [e2, ← List.filter_append]; rfl
theorem rmk_rmk (ts : List Tok) : remarks (ts.filter rmk) = remarks ts := by unfold remarks; rw [filt_same]
/-- Remarks ahead of what they stand in make no difference. -/
theorem lay_nrm (n : Nat) : ∀ ts : List Tok, ts.length ≤ n → (∀ t ∈ ts, t.1 ≠ 0) → clns (fileL ts) = true → lay (fileL (nrm (fileL ts))) = lay (fileL ts) ∧ sts (fileL (nrm (fileL ts))) = sts (fileL ts) := by
  induction n with
  | zero =>
    intro ts ha hk hc
    have : ts = [] := List.length_eq_zero_iff.1 (by omega)
    subst this
    exact ⟨rfl, rfl⟩
  | succ n ih =>
    intro ts ha hk hc
    cases h1 : (kindN ts == 0) with
    | true =>
      have hq := quiet_all h1 hk
      rw [fileL_no h1, nrm_quiet hq]
      have hq2 : ∀ t ∈ ts.filter rmk, quiet t = true := fun t ht => hq t (List.mem_filter.1 ht).1
      have h2 : (kindN (ts.filter rmk) == 0) = true := by
        have : (ts.filter rmk).dropWhile quiet = [] := by
          generalize ts.filter rmk = l at hq2
          induction l with
          | nil => rfl
          | cons t l il => rw [List.dropWhile_cons_of_pos (hq2 t (by simp))]; exact il (fun u hu => hq2 u (List.mem_cons_of_mem _ hu))
        unfold kindN nxt; rw [this]; rfl
      rw [fileL_no h2, lay_quiet hq2, lay_quiet hq, rmk_rmk, sts_quiet hq, sts_quiet hq2]
      exact ⟨rfl, rfl⟩
    | false =>
      rw [fileL_yes h1] at hc ⊢
      rw [clns] at hc
      simp only [Bool.and_eq_true] at hc
      have hl := kid_lt h1
      obtain ⟨i1, i2⟩ := ih (kid ts).2.2 (by omega) (kid_kinds hk) hc.2
      have hst := cln_starts hc.1
      generalize hp : Part.br (kid ts).1 (kid ts).2.1 = p at *
      have hpl : pl p = pls (kid ts).2.1 := by rw [← hp, pl]
      generalize hV' : nrm (fileL (kid ts).2.2) = V' at *
      have hV : nrm (p :: fileL (kid ts).2.2) = ((pl p).filter rmk ++ nt p) ++ V' := by rw [← hV']; unfold nrm; rw [List.flatMap_cons]
      rw [hV]
      generalize hA : (pl p).filter rmk ++ nt p = A at *
      -- the same but for what is quiet
      have hk1 : kept quiet ts = kept quiet (A ++ V') := by
        rw [kept_append, kept_lou, kept_lou, kept_lou, ← hA, List.filter_append, filt_no (fun a h => lou_rmk h), List.nil_append, ← hV', nrm_lou]
        have e : ts.filter lou = (pls (kid ts).2.1 ++ (kid ts).2.2).filter lou := by rw [kid_lvs]
        rw [e, List.filter_append, ← hpl]
        unfold nt nts'
        rw [filt_same, fileL_toks]
      obtain ⟨k1, k2, k3⟩ := kid_qt dq_quiet hst hk1
      have hsp : st (.br (kid (A ++ V')).1 (kid (A ++ V')).2.1) = st p := by
        rw [← hp]; unfold st; rw [strip, strip, k1, k2]
      have hc1 : cln (.br (kid (A ++ V')).1 (kid (A ++ V')).2.1) = true := by rw [← cln_st, hsp, cln_st]; exact hc.1
      obtain ⟨x, t, e1, e2⟩ := kid_end hc1
      obtain ⟨y, u, f1, f2⟩ : ∃ y u, A = y ++ [u] ∧ lou u = true := by
        obtain ⟨y, u, f1, f2⟩ := kid_end (ts := ts) (by rw [hp]; exact hc.1)
        refine ⟨(pl p).filter rmk ++ y.filter lou, u, ?_, f2⟩
        rw [← hA, List.append_assoc]
        congr 1
        unfold nt
        rw [hpl, f1, List.filter_append, List.filter_cons_of_pos f2]; rfl
      have hf : (pls (kid (A ++ V')).2.1).filter lou = A.filter lou := by
        have g1 : nts' (kid (A ++ V')).2.1 = nts' (kid ts).2.1 := by
          rw [← nts_sts, ← nts_sts (kid ts).2.1]; unfold sts; rw [k2]
        unfold nts' at g1
        rw [g1, ← hA, List.filter_append, filt_no (fun a h => lou_rmk h), List.nil_append]
        unfold nt
        rw [filt_same, hpl]
      obtain ⟨q1, q2⟩ := pre_eq (kid_lvs (A ++ V')) e1 f1 e2 f2 hf
      have h2 : (kindN (A ++ V') == 0) = false := by rw [← kind_eq dq_quiet 0 ts _ hk1]; exact h1
      rw [fileL_yes h2]
      have hV2 : fileL (kid (A ++ V')).2.2 = fileL V' := by rw [q2]
      rw [hV2]
      have hko : kidOut (.br (kid (A ++ V')).1 (kid (A ++ V')).2.1) = kidOut p := by
        unfold kidOut
        rw [item_eq hsp]
        have ek : kindOf (.br (kid (A ++ V')).1 (kid (A ++ V')).2.1) = kindOf p := by rw [← kind_st, hsp, kind_st]
        rw [ek]
        congr 1
        have epl : pl (.br (kid (A ++ V')).1 (kid (A ++ V')).2.1) = A := by rw [pl]; exact q1
        rw [epl, ← hA]
        unfold remarks
        rw [List.filter_append, filt_same]
        have : (nt p).filter rmk = [] := by
          unfold nt
          refine filt_no (fun a h => ?_)
          cases hr : rmk a with
          | true => rw [lou_rmk hr] at h; cases h
          | false => rfl
        rw [this, List.append_nil]
      constructor
      · unfold lay at i1 ⊢
        rw [List.flatMap_cons, List.flatMap_cons, i1, hko]
      · unfold sts at i2 ⊢
        rw [strips, strips, if_neg (by simp [dropP]), i2]
        unfold st at hsp
        rw [hsp, if_neg (by rw [← hp]; simp [dropP])]
/-- The layout of a text. -/
def layOf (s : List UInt8) : List UInt8 := lay (fileL (xt s))
theorem xt_kind {s : List UInt8} : ∀ t ∈ xt s, t.1 ≠ 0 := fun t ht => by
  have := (xt_fits s t ht).2.2.2.1; omega
theorem layOf_nsp {s : List UInt8} (hc : clns (fileL (xt s)) = true) : nsp (layOf s) = nrm (fileL (xt s)) := by
  have hg : ∀ t ∈ pls (fileL (xt s)), t.1 ≠ 1 → Gd t := fun t ht h1 => xt_gd _ s (Nat.le_refl _) t (by rw [fileL_toks] at ht; exact ht) h1 (clns_toks hc t ht)
  have := lay_nsp (fileL (xt s)) (fileL_kids _ _ (Nat.le_refl _) xt_kind hc) hg []
  rw [List.append_nil, nsp_nil, List.append_nil] at this
  exact this
theorem nrm_kept {ps : List Part} : kept spc (nrm ps) = nrm ps := by
  unfold kept
  rw [List.filter_eq_self]
  intro t ht
  have := (nrm_mem t ht).2
  simpa [spc] using this
theorem kept_nsp (s : List UInt8) : kept spc (xt s) = nsp s := rfl
/-- Laid out once is laid out for good, and read as the text was. -/
theorem layOf_again {s : List UInt8} (hc : clns (fileL (xt s)) = true) : layOf (layOf s) = layOf s ∧ sts (fileL (xt (layOf s))) = sts (fileL (xt s)) ∧ clns (fileL (xt (layOf s))) = true := by
  obtain ⟨h1, h2⟩ := lay_nrm _ (xt s) (Nat.le_refl _) xt_kind hc
  have hc2 : clns (fileL (nrm (fileL (xt s)))) = true := by rw [← clns_sts, h2, clns_sts]; exact hc
  have hk : ∀ t ∈ nrm (fileL (xt s)), t.1 ≠ 0 := fun t ht => xt_kind t (by have := (nrm_mem t ht).1; rw [fileL_toks] at this; exact this)
  obtain ⟨g1, g2⟩ := lay_kept _ (nrm (fileL (xt s))) (xt (layOf s)) (Nat.le_refl _) hk (by rw [nrm_kept, kept_nsp, layOf_nsp hc]) hc2
  refine ⟨?_, ?_, ?_⟩
  · show lay (fileL (xt (layOf s))) = _
    rw [← g1, h1]; rfl
  · rw [← g2, h2]
  · rw [← clns_sts, ← g2, clns_sts]; exact hc2
/-- No token is lost, nor comes to be. -/
theorem layOf_toks {s : List UInt8} (hc : clns (fileL (xt s)) = true) : (xt (layOf s)).filter lou = (xt s).filter lou ∧ (xt (layOf s)).filter rmk = (xt s).filter rmk := by
  have h := layOf_nsp hc
  have e1 : (nsp (layOf s)).filter lou = (xt (layOf s)).filter lou := by
    unfold nsp
    rw [List.filter_filter]
    congr 1
    funext t
    unfold lou
    cases t.1 == 1 <;> simp
  have e2 : (nsp (layOf s)).filter rmk = (xt (layOf s)).filter rmk := by rw [← kept_nsp, kept_rmk]
  constructor
  · rw [← e1, h, nrm_lou]
    unfold nts'; rw [fileL_toks]
  · rw [← e2, h, nrm_rmk, fileL_toks]
end X
end Go.Proofs.YtohpfegpnbdfnaaGreatDoor
/- Plain mathematics: how long a layout can be. -/
namespace Go.Proofs.YtohpfegpnbdfnaaGreatDoor
open M
namespace X
mutual
/-- How far the lines of a part are indented, beyond its own. -/
def dp : Part → Nat
  | .leaf _ _ => 0
  | .miss _ => 0
  | .br k ps => if k = 10 then dpb ps else dps ps + (if k = 8 ∨ k = 9 ∨ k = 12 ∨ k = 13 ∨ k = 14 then 2 else 0)
def dps : List Part → Nat
  | [] => 0
  | p :: ps => max (dp p) (dps ps)
def dpb : List Part → Nat
  | [] => 0
  | p :: ps => max (dp p) (dps ps + 2)
end
theorem dps_append (a b : List Part) : dps (a ++ b) = max (dps a) (dps b) := by
  induction a with
  | nil => rw [List.nil_append, dps, Nat.zero_max]
  | cons p a ih => rw [List.cons_append, dps, ih, dps, Nat.max_assoc]
theorem dps_mem {ps : List Part} {p : Part} (h : p ∈ ps) : dp p ≤ dps ps := by
  induction ps with
  | nil => cases h
  | cons q ps ih =>
    rw [dps]
    rcases List.mem_cons.1 h with rfl | h
    · exact Nat.le_max_left _ _
    · exact Nat.le_trans (ih h) (Nat.le_max_right _ _)
theorem dps_lf (ts : List Tok) : dps (ts.map lf) = 0 := by
  induction ts with
  | nil => rfl
  | cons t ts ih => rw [List.map_cons, dps, ih]; rfl
theorem dps_take (ts : List Tok) : dps (take ts).1 = 0 := dps_lf _
theorem dps_want (s : List UInt8) (ts : List Tok) : dps (want s ts).1 = 0 := by
  unfold want; split
  · exact dps_take ts
  · rfl
theorem dps_wname (ts : List Tok) : dps (wname ts).1 = 0 := by
  unfold wname; split
  · exact dps_take ts
  · rfl
theorem dps_pts (ps : List Part) : dps (pts ps) ≤ dps ps := by
  induction ps with
  | nil => exact Nat.le_refl _
  | cons p ps ih =>
    unfold pts at *
    rw [dps]
    cases h : quietP p with
    | true => rw [List.filter_cons_of_neg (by simp [h])]; omega
    | false => rw [List.filter_cons_of_pos (by simp [h]), dps]; omega
/-- A reading with a bound. -/
def Db (f : R) (B : Nat) : Prop := ∀ ts, dps (f ts).1 ≤ B
theorem Db.andThen {f g : R} {B : Nat} (hf : Db f B) (hg : Db g B) : Db (X.andThen f g) B := fun ts => by
  show dps ((f ts).1 ++ (g (f ts).2).1) ≤ B
  rw [dps_append]
  have := hf ts
  have := hg (f ts).2
  omega
theorem Db.zero {f : R} {B : Nat} (h : ∀ ts, dps (f ts).1 = 0) : Db f B := fun ts => by rw [h]; omega
theorem Db.take {B : Nat} : Db X.take B := Db.zero dps_take
theorem Db.want {B : Nat} (s : List UInt8) : Db (X.want s) B := Db.zero (dps_want s)
theorem Db.wname {B : Nat} : Db X.wname B := Db.zero dps_wname
theorem Db.mono {f : R} {B C : Nat} (h : Db f B) (hc : B ≤ C) : Db f C := fun ts => Nat.le_trans (h ts) hc
theorem Db.node {f : R} {B : Nat} (h : Db f B) (k : Nat) (hk : k ≠ 10) : Db (X.node k f) (B + 2) := fun ts => by
  show dps [.br k (f ts).1] ≤ _
  rw [dps, dps, dp, if_neg hk]
  have := h ts
  split <;> omega
theorem Db.node0 {f : R} {B : Nat} (h : Db f B) (k : Nat) (hk : k ≠ 10) (hk2 : ¬ (k = 8 ∨ k = 9 ∨ k = 12 ∨ k = 13 ∨ k = 14)) : Db (X.node k f) B := fun ts => by
  show dps [.br k (f ts).1] ≤ _
  rw [dps, dps, dp, if_neg hk, if_neg hk2]
  have := h ts
  omega
theorem Db.ite {f g : R} {c : List Tok → Bool} {B : Nat} (hf : Db f B) (hg : Db g B) : Db (fun ts => if c ts then f ts else g ts) B := by
  intro ts
  show dps (if c ts then f ts else g ts).1 ≤ B
  split
  · exact hf ts
  · exact hg ts
theorem Db.sevGo {one : R} {B : Nat} (h : Db one B) : ∀ n, Db (X.sevGo one n) B
  | 0 => Db.zero (fun _ => rfl)
  | n + 1 => Db.ite (c := isN [44]) (Db.take.andThen (h.andThen (Db.sevGo h n))) (Db.zero (fun _ => rfl))
theorem Db.several {one : R} {B : Nat} (h : Db one B) (c : List UInt8) : Db (X.several one c) B :=
  Db.ite (c := isN c) (Db.want c) (h.andThen (Db.andThen (f := fun ts => X.sevGo one ts.length ts) (fun ts => Db.sevGo h ts.length ts) (Db.want c)))
theorem rowGo_db {one : R} {ok : List Tok → Bool} {B : Nat} (h : Db one B) : ∀ (n : Nat) (p : Part) (ts : List Tok), dp p ≤ B + 2 → dps (rowGo one ok n [p] ts).1 ≤ B + 2
  | 0, p, ts, hp => by
    show dps [p] ≤ _
    rw [dps, dps]; omega
  | n + 1, p, ts, hp => by
    unfold X.rowGo
    split
    · refine rowGo_db h n _ _ ?_
      rw [dp, if_pos rfl]
      show dpb (p :: ((X.take ts).1 ++ (one (X.take ts).2).1)) ≤ _
      rw [dpb, dps_append, dps_take]
      have := h (X.take ts).2
      omega
    · show dps [p] ≤ _
      rw [dps, dps]; omega
/-- A reading that gives one part. -/
def O1 (f : R) : Prop := ∀ ts, ∃ p, (f ts).1 = [p]
theorem Db.row {one : R} {ok : List Tok → Bool} {B : Nat} (h : Db one B) (ho : O1 one) : Db (X.row one ok) (B + 2) := by
  intro ts
  obtain ⟨p, hp⟩ := ho ts
  show dps (rowGo one ok (one ts).2.length (one ts).1 (one ts).2).1 ≤ _
  rw [hp]
  refine rowGo_db h _ p _ ?_
  have := h ts
  rw [hp, dps, dps] at this
  omega
theorem rowGo_o1 {one : R} {ok : List Tok → Bool} : ∀ (n : Nat) (p : Part) (ts : List Tok), ∃ q, (rowGo one ok n [p] ts).1 = [q]
  | 0, p, ts => ⟨p, rfl⟩
  | n + 1, p, ts => by
    unfold X.rowGo
    split
    · exact rowGo_o1 n _ _
    · exact ⟨p, rfl⟩
theorem O1.row {one : R} {ok : List Tok → Bool} (ho : O1 one) : O1 (X.row one ok) := by
  intro ts
  obtain ⟨p, hp⟩ := ho ts
  show ∃ q, (rowGo one ok (one ts).2.length (one ts).1 (one ts).2).1 = [q]
  rw [hp]; exact rowGo_o1 _ p _
theorem Db.args {E : R} {B : Nat} (h : Db E B) : Db (X.args E) (B + 2) := (Db.take.andThen (h.several _)).node 12 (by decide)
theorem callGo_db {E : R} {B : Nat} (h : Db E B) : ∀ (n : Nat) (p : Part) (ts : List Tok), dp p ≤ B + 2 → (∃ q, (callGo E n [p] ts).1 = [q]) ∧ dps (callGo E n [p] ts).1 ≤ B + 2
  | 0, p, ts, hp => ⟨⟨p, rfl⟩, by show dps [p] ≤ _; rw [dps, dps]; omega⟩
  | n + 1, p, ts, hp => by
    unfold X.callGo
    split
    · refine callGo_db h n _ _ ?_
      rw [dp, if_neg (by decide), if_neg (by decide), dps_append, dps, dps]
      have := h.args ts
      omega
    · exact ⟨⟨p, rfl⟩, by show dps [p] ≤ _; rw [dps, dps]; omega⟩
theorem O1.part (E : R) : O1 (X.part E) := by
  intro ts
  unfold X.part
  repeat' split
  all_goals exact ⟨_, rfl⟩
theorem Db.part {E : R} {B : Nat} (h : Db E B) : Db (X.part E) (B + 2) :=
  Db.ite (c := fun ts => kindN ts == 5) (Db.take.node _ (by decide)) <|
  Db.ite (c := fun ts => kindN ts == 6) (Db.take.node _ (by decide)) <|
  Db.ite (c := fun ts => isN [116, 114, 117, 101] ts || isN [102, 97, 108, 115, 101] ts) (Db.take.node _ (by decide)) <|
  Db.ite (c := fun ts => kindN ts == 3) (Db.take.node _ (by decide)) <|
  Db.ite (c := isN [63]) (Db.take.node _ (by decide)) <|
  Db.ite (c := isN [40]) ((Db.take.andThen (h.andThen (Db.want _))).node _ (by decide)) <|
  Db.ite (c := isN [91]) ((Db.take.andThen (h.several _)).node _ (by decide)) (Db.zero (fun _ => rfl))
theorem call_both {E : R} {B : Nat} (h : Db E B) : O1 (X.call E) ∧ Db (X.call E) (B + 2) := by
  have key : ∀ ts, (∃ q, (X.call E ts).1 = [q]) ∧ dps (X.call E ts).1 ≤ B + 2 := by
    intro ts
    obtain ⟨p, hp⟩ := O1.part E ts
    have hb := h.part ts
    rw [hp, dps, dps] at hb
    show (∃ q, (callGo E (X.part E ts).2.length (X.part E ts).1 (X.part E ts).2).1 = [q]) ∧ dps (callGo E (X.part E ts).2.length (X.part E ts).1 (X.part E ts).2).1 ≤ B + 2
    rw [hp]
    exact callGo_db h _ p _ (by omega)
  exact ⟨fun ts => (key ts).1, fun ts => (key ts).2⟩
theorem sum_both {E : R} {B : Nat} (h : Db E B) : O1 (X.sum E) ∧ Db (X.sum E) (B + 6) := by
  obtain ⟨o, d⟩ := call_both h
  have o2 : O1 (X.product E) := o.row
  have d2 : Db (X.product E) (B + 4) := d.row o
  exact ⟨o2.row, d2.row o2⟩
theorem Db.comparison {E : R} {B : Nat} (h : Db E B) : Db (X.comparison E) (B + 8) := by
  obtain ⟨o, d⟩ := sum_both h
  intro ts
  unfold X.comparison
  generalize X.sum E = F at *
  split
  · obtain ⟨p, hp⟩ := o ts
    show dps [.br 10 ((F ts).1 ++ ((X.take (F ts).2).1 ++ (F (X.take (F ts).2).2).1))] ≤ _
    have h1 := d ts
    have h2 := d (X.take (F ts).2).2
    rw [hp, dps, dps] at h1
    rw [hp, dps, dps, dp, if_pos rfl]
    show max (dpb (p :: ((X.take (F ts).2).1 ++ (F (X.take (F ts).2).2).1))) 0 ≤ _
    rw [dpb, dps_append, dps_take]
    omega
  · have := d ts; omega
theorem Db.params {B : Nat} : Db X.params B := by
  refine Db.node0 (B := B) ?_ 6 (by decide) (by decide)
  exact (Db.want _).andThen (Db.wname.several _)
theorem Db.expr : ∀ n, Db (X.expr n) (8 * n)
  | 0 => Db.zero (fun _ => rfl)
  | n + 1 => by
    have h : Db (X.expr n) (8 * n) := Db.expr n
    refine Db.ite (c := isN [108, 101, 116]) ?_ (Db.ite (c := isN [105, 102]) ?_ (Db.ite (c := isN [102, 117, 110]) ?_ ?_))
    · exact (Db.node0 (Db.take.andThen (Db.wname.andThen ((Db.want _).andThen (h.andThen ((Db.want _).andThen h))))) 7 (by decide) (by decide)).mono (by omega)
    · exact ((Db.take.andThen (h.andThen ((Db.want _).andThen (h.andThen ((Db.want _).andThen h))))).node 8 (by decide)).mono (by omega)
    · exact ((Db.take.andThen (Db.params.andThen ((Db.want _).andThen h))).node 9 (by decide)).mono (by omega)
    · exact h.comparison.mono (by omega)
end X
end Go.Proofs.YtohpfegpnbdfnaaGreatDoor
