/- Plain mathematics: the layout of a file, and what it is read as. -/
import Derived.Test.YtohpfegpnbdfnaaGreatDoorLi
import Derived.Test.YtohpfegpnbdfnaaGreatDoorXy
namespace Go.Proofs.YtohpfegpnbdfnaaGreatDoor
open M
namespace X
/-- The remarks among some tokens. -/
def rmk (t : Tok) : Bool := t.1 == 2
def remarks (ts : List Tok) : List UInt8 := (ts.filter rmk).flatMap (fun t => t.2 ++ [10])
/-- The lines of an item. -/
def item (p : Part) : List UInt8 :=
  if kindOf p = 3 ∨ chars (flat [p]) ≤ 80 then flat [p] ++ [10]
  else flat ((pts (kidsOf p)).take ((pts (kidsOf p)).length - 2)) ++ ([10] ++ ex (nt ((pts (kidsOf p)).getD ((pts (kidsOf p)).length - 2) nil1)).length 2 ((pts (kidsOf p)).getD ((pts (kidsOf p)).length - 2) nil1) [59])
/-- What a kid of the root gives. -/
def kidOut (p : Part) : List UInt8 := remarks (pl p) ++ (if kindOf p = 0 then [] else item p)
def lay (ps : List Part) : List UInt8 := ps.flatMap kidOut
/-- An item in which nothing is missing. -/
inductive ItemOk : Part → Prop
  | use (ps : List Part) : ItemOk (.br 3 ps)
  | dfn (ps l : List Part) (q : Part) (t : Tok) (h : pts ps = l ++ [q, lf t]) (hq : Sh q) (ht : t.2 = [59]) : ItemOk (.br 4 ps)
theorem remarks_nsp : ∀ (ts : List Tok), (∀ t ∈ ts, t.1 ≠ 1 → Gd t) → ∀ r, nsp (remarks ts ++ r) = ts.filter rmk ++ nsp r
  | [], _, _ => rfl
  | t :: ts, h, r => by
    have ih := remarks_nsp ts (fun u hu => h u (List.mem_cons_of_mem _ hu)) r
    unfold remarks at ih ⊢
    cases hr : rmk t with
    | false => rw [List.filter_cons_of_neg (by simp [hr])]; exact ih
    | true =>
      have h2 : t.1 = 2 := by simpa [rmk] using hr
      rw [List.filter_cons_of_pos hr, List.flatMap_cons, List.append_assoc, List.append_assoc, List.singleton_append, nsp_tok (h t (by simp) (by omega)) (ok10 _) (fun _ => ⟨_, rfl⟩), nsp_sp1 (.inr rfl), ih]; rfl
theorem item_nsp {p : Part} (hi : ItemOk p) (hg : Gds (nt p)) (r : List UInt8) : nsp (item p ++ r) = nt p ++ nsp r := by
  have hw : nsp (flat [p] ++ [10] ++ r) = nt p ++ nsp r := by
    rw [List.append_assoc, List.singleton_append, flat_nsp (by rw [nts_one]; exact hg) (ok10 _), nts_one, nsp_sp1 (.inr rfl)]
  unfold item
  by_cases hc : kindOf p = 3 ∨ chars (flat [p]) ≤ 80
  · rw [if_pos hc]; exact hw
  rw [if_neg hc]
  cases hi with
  | use ps => exact absurd (.inl rfl) hc
  | dfn ps l q t h hq ht =>
    have lt : lou t = true := mem_pts h (by simp)
    have e1 : kidsOf (.br 4 ps) = ps := rfl
    rw [nt_br, h] at hg ⊢
    rw [e1, h]
    have e2 : (l ++ [q, lf t]).length - 2 = l.length := by simp
    have e3 : (l ++ [q, lf t]).getD l.length nil1 = q := by simp [List.getD_eq_getElem?_getD]
    have e4 : nts' (l ++ [q, lf t]) = nts' l ++ (nt q ++ [t]) := by rw [nts_append, nts_cons, nts_one, nt_lf, if_pos lt]
    rw [e2, e3, List.take_left' rfl]
    rw [e4] at hg ⊢
    have t7 := (hg.right.right t (by simp)).seven (b := 59) (by simp) ht
    rw [List.append_assoc, List.append_assoc, List.singleton_append, flat_nsp hg.left (ok10 _), nsp_sp1 (.inr rfl), ex_nsp _ hq 2 [59] r (.inr (.inl rfl)) hg.right.left, t7]
    simp [et]
/-- A kid of the root: spaces and remarks, or an item. -/
def KidOk (p : Part) : Prop := quietP p = true ∨ ItemOk p
theorem kidOut_nsp {p : Part} (hk : KidOk p) (hg : ∀ t ∈ pl p, t.1 ≠ 1 → Gd t) (r : List UInt8) : nsp (kidOut p ++ r) = ((pl p).filter rmk ++ nt p) ++ nsp r := by
  unfold kidOut
  rw [List.append_assoc, remarks_nsp _ hg, List.append_assoc]
  rcases hk with hq | hi
  · cases p with
    | leaf k x =>
      have e : nt (.leaf k x) = [] := by
        have e : (.leaf k x : Part) = lf (k, x) := rfl
        rw [e, nt_lf, if_neg]
        unfold lou; unfold quietP at hq; simp only at hq ⊢; rw [hq]; simp
      rw [e]; rfl
    | miss m => cases hq
    | br k ps => cases hq
  · have h0 : kindOf p ≠ 0 := by cases hi <;> simp [kindOf]
    rw [if_neg h0, item_nsp hi]
    intro t ht
    obtain ⟨h1, h2⟩ := List.mem_filter.1 ht
    exact hg t h1 (fun e => by simp [lou, e] at h2)
theorem lay_nsp : ∀ (ps : List Part), (∀ p ∈ ps, KidOk p) → (∀ t ∈ pls ps, t.1 ≠ 1 → Gd t) → ∀ r, nsp (lay ps ++ r) = ps.flatMap (fun p => (pl p).filter rmk ++ nt p) ++ nsp r
  | [], _, _, _ => rfl
  | p :: ps, hk, hg, r => by
    unfold lay
    rw [List.flatMap_cons, List.flatMap_cons, List.append_assoc, kidOut_nsp (hk p (by simp)) (fun t ht => hg t (by rw [pls]; exact List.mem_append_left _ ht))]
    have := lay_nsp ps (fun q hq => hk q (List.mem_cons_of_mem _ hq)) (fun t ht => hg t (by rw [pls]; exact List.mem_append_right _ ht)) r
    unfold lay at this
    rw [this, List.append_assoc, List.append_assoc, List.append_assoc]
mutual
/-- Nothing is wrong in it. -/
def cln : Part → Bool
  | .leaf k _ => !(k == 8)
  | .miss _ => false
  | .br k ps => !(k == 5) && clns ps
def clns : List Part → Bool
  | [] => true
  | p :: ps => cln p && clns ps
end
mutual
theorem cln_nm : ∀ {p : Part}, cln p = true → nm p = true
  | .leaf k x, _ => by rw [nm]
  | .miss m, h => by rw [cln] at h; cases h
  | .br k ps, h => by
    rw [cln] at h
    rw [nm]
    simp only [Bool.and_eq_true] at h
    exact clns_nms h.2
theorem clns_nms : ∀ {ps : List Part}, clns ps = true → nms ps = true
  | [], _ => rfl
  | p :: ps, h => by
    rw [clns] at h
    simp only [Bool.and_eq_true] at h
    rw [nms, cln_nm h.1, clns_nms h.2]; rfl
end
theorem clns_append (a b : List Part) : clns (a ++ b) = (clns a && clns b) := by
  induction a with
  | nil => rfl
  | cons p a ih => rw [List.cons_append, clns, ih, clns, Bool.and_assoc]
theorem clns_mem {ps : List Part} (h : clns ps = true) : ∀ p ∈ ps, cln p = true := by
  induction ps with
  | nil => intro p hp; cases hp
  | cons q ps ih =>
    rw [clns] at h
    simp only [Bool.and_eq_true] at h
    intro p hp
    rcases List.mem_cons.1 hp with rfl | hp
    · exact h.1
    · exact ih h.2 p hp
mutual
theorem cln_toks : ∀ {p : Part}, cln p = true → ∀ t ∈ pl p, t.1 ≠ 8
  | .leaf k x, h, t, ht => by
    rw [pl] at ht
    obtain rfl := List.mem_singleton.1 ht
    rw [cln] at h
    intro e
    simp only at e
    rw [e] at h; cases h
  | .miss m, h, t, ht => by rw [cln] at h; cases h
  | .br k ps, h, t, ht => by
    rw [cln] at h
    rw [pl] at ht
    simp only [Bool.and_eq_true] at h
    exact clns_toks h.2 t ht
theorem clns_toks : ∀ {ps : List Part}, clns ps = true → ∀ t ∈ pls ps, t.1 ≠ 8
  | [], _, t, ht => by cases ht
  | p :: ps, h, t, ht => by
    rw [clns] at h
    simp only [Bool.and_eq_true] at h
    rw [pls] at ht
    rcases List.mem_append.1 ht with ht | ht
    · exact cln_toks h.1 t ht
    · exact clns_toks h.2 t ht
end
theorem def_shape {ts : List Tok} (h : nms (defR ts).1 = true) : ∃ l q t, pts (defR ts).1 = l ++ [q, lf t] ∧ Sh q ∧ t.2 = [59] := by
  have e : ∃ (a : List Part) (u : List Tok), (defR ts).1 = a ++ ((expr 65 u).1 ++ (want [59] (expr 65 u).2).1) := by
    generalize hE : expr 65 = E
    refine ⟨(want sDef ts).1 ++ ((wname (want sDef ts).2).1 ++ (((if isN [40] (wname (want sDef ts).2).2 then params (wname (want sDef ts).2).2 else ([], (wname (want sDef ts).2).2)) : List Part × List Tok).1 ++ (want [61] (((if isN [40] (wname (want sDef ts).2).2 then params (wname (want sDef ts).2).2 else ([], (wname (want sDef ts).2).2)) : List Part × List Tok).2)).1)), (want [61] (((if isN [40] (wname (want sDef ts).2).2 then params (wname (want sDef ts).2).2 else ([], (wname (want sDef ts).2).2)) : List Part × List Tok).2)).2, ?_⟩
    unfold defR
    rw [hE]
    simp only [andThen, List.append_assoc]
  obtain ⟨a, u, e⟩ := e
  rw [e] at h ⊢
  obtain ⟨m1, m2⟩ := nms_two h
  obtain ⟨m3, m4⟩ := nms_two m2
  obtain ⟨q, q1, q2⟩ := ShR.expr 65 u m3
  obtain ⟨t, t1, t2⟩ := want_pts m4
  refine ⟨pts a, q, t, ?_, q2, t1⟩
  rw [pts_append, pts_append, q1, q2.pts, t2]; rfl
theorem kid_ok {ts : List Tok} (h : cln (.br (kid ts).1 (kid ts).2.1) = true) : ItemOk (.br (kid ts).1 (kid ts).2.1) := by
  rw [kid_eq] at h ⊢
  cases hs : starts ts with
  | false =>
    rw [hs, if_neg (by simp)] at h
    rw [cln] at h; cases h
  | true =>
    rw [hs, if_pos rfl] at h
    rw [if_pos rfl]
    cases hu : isN sUse (optPub ts).2 with
    | true => rw [if_pos rfl]; exact .use _
    | false =>
      rw [hu, if_neg (by simp)] at h
      rw [if_neg (by simp)]
      have h1 := cln_nm h
      rw [nm_br] at h1
      have e : (andThen optPub defR ts).1 = (optPub ts).1 ++ (defR (optPub ts).2).1 := rfl
      show ItemOk (.br 4 (andThen optPub defR ts).1)
      have h2 : nms (andThen optPub defR ts).1 = true := h1
      rw [e] at h2 ⊢
      obtain ⟨l, q, t, d1, d2, d3⟩ := def_shape (nms_two h2).2
      refine .dfn _ (pts (optPub ts).1 ++ l) q t ?_ d2 d3
      rw [pts_append, d1, List.append_assoc]
theorem quiet_all {ts : List Tok} (h : (kindN ts == 0) = true) (hk : ∀ t ∈ ts, t.1 ≠ 0) : ∀ t ∈ ts, quiet t = true := by
  have hn : ts.dropWhile quiet = [] := by
    cases hd : ts.dropWhile quiet with
    | nil => rfl
    | cons t l =>
      exfalso
      have hm : t ∈ ts := (List.dropWhile_sublist (p := quiet) (l := ts)).subset (by rw [hd]; simp)
      unfold kindN nxt at h
      rw [hd] at h
      simp only [List.head?_cons, beq_iff_eq] at h
      exact hk t hm h
  intro t ht
  have := List.takeWhile_append_dropWhile (p := quiet) (l := ts)
  rw [hn, List.append_nil] at this
  rw [← this] at ht
  exact List.all_eq_true.1 List.all_takeWhile t ht
theorem fileL_kids (n : Nat) : ∀ ts : List Tok, ts.length ≤ n → (∀ t ∈ ts, t.1 ≠ 0) → clns (fileL ts) = true → ∀ p ∈ fileL ts, KidOk p := by
  induction n with
  | zero =>
    intro ts h hk hc p hp
    have : ts = [] := List.length_eq_zero_iff.1 (by omega)
    subst this; cases hp
  | succ n ih =>
    intro ts h hk hc p hp
    cases h0 : (kindN ts == 0) with
    | true =>
      rw [fileL_no h0] at hp
      obtain ⟨t, ht, rfl⟩ := List.mem_map.1 hp
      exact .inl (by rw [quiet_lf]; exact quiet_all h0 hk t ht)
    | false =>
      rw [fileL_yes h0] at hp hc
      rw [clns] at hc
      simp only [Bool.and_eq_true] at hc
      rcases List.mem_cons.1 hp with rfl | hp
      · exact .inr (kid_ok hc.1)
      · have hl := kid_lt h0
        refine ih _ (by omega) (fun t ht => hk t ?_) hc.2 p hp
        rw [← kid_lvs ts]; exact List.mem_append_right _ ht
end X
end Go.Proofs.YtohpfegpnbdfnaaGreatDoor
/- Plain mathematics: what is read does not hang on tokens that are quiet. -/
namespace Go.Proofs.YtohpfegpnbdfnaaGreatDoor
open M
namespace X
variable {d : Tok → Bool}
/-- Those that are kept. -/
def kept (d : Tok → Bool) (ts : List Tok) : List Tok := ts.filter (fun t => !d t)
theorem kept_append (a b : List Tok) : kept d (a ++ b) = kept d a ++ kept d b := List.filter_append ..
def dropP (d : Tok → Bool) : Part → Bool
  | .leaf k x => d (k, x)
  | _ => false
mutual
/-- A part without leaves that are not kept. -/
def strip (d : Tok → Bool) : Part → Part
  | .leaf k x => .leaf k x
  | .miss m => .miss m
  | .br k ps => .br k (strips d ps)
def strips (d : Tok → Bool) : List Part → List Part
  | [] => []
  | p :: ps => if dropP d p then strips d ps else strip d p :: strips d ps
end
theorem strips_append (a b : List Part) : strips d (a ++ b) = strips d a ++ strips d b := by
  induction a with
  | nil => rfl
  | cons p a ih =>
    rw [List.cons_append, strips, strips, ih]
    split <;> rfl
theorem strips_br (k : Nat) (ps : List Part) : strips d [.br k ps] = [.br k (strips d ps)] := by
  rw [strips, if_neg (by simp [dropP]), strip, strips]
theorem strips_lf (ts : List Tok) : strips d (ts.map lf) = (kept d ts).map lf := by
  induction ts with
  | nil => rfl
  | cons t ts ih =>
    rw [List.map_cons, strips, ih]
    unfold kept
    have e : dropP d (lf t) = d t := rfl
    rw [e]
    cases h : d t with
    | true => rw [if_pos rfl, List.filter_cons_of_neg (by simp [h])]
    | false => rw [if_neg (by simp), List.filter_cons_of_pos (by simp [h]), List.map_cons]; rfl
/-- What is not kept is quiet. -/
def Dq (d : Tok → Bool) : Prop := ∀ t, d t = true → quiet t = true
theorem kept_while (hd : Dq d) : ∀ ts : List Tok, kept d (ts.takeWhile quiet) = (kept d ts).takeWhile quiet ∧ kept d (ts.dropWhile quiet) = (kept d ts).dropWhile quiet
  | [] => ⟨rfl, rfl⟩
  | t :: ts => by
    obtain ⟨i1, i2⟩ := kept_while hd ts
    unfold kept at i1 i2 ⊢
    cases hq : quiet t with
    | true =>
      rw [List.takeWhile_cons_of_pos hq, List.dropWhile_cons_of_pos hq]
      cases h : d t with
      | true => rw [List.filter_cons_of_neg (by simp [h]), List.filter_cons_of_neg (by simp [h])]; exact ⟨i1, i2⟩
      | false =>
        rw [List.filter_cons_of_pos (by simp [h]), List.filter_cons_of_pos (by simp [h]), List.takeWhile_cons_of_pos hq, List.dropWhile_cons_of_pos hq, i1]
        exact ⟨rfl, i2⟩
    | false =>
      have h : d t = false := by
        cases h : d t with
        | true => rw [hd t h] at hq; cases hq
        | false => rfl
      rw [List.takeWhile_cons_of_neg (by simp [hq]), List.dropWhile_cons_of_neg (by simp [hq]), List.filter_cons_of_pos (by simp [h]), List.takeWhile_cons_of_neg (by simp [hq]), List.dropWhile_cons_of_neg (by simp [hq])]
      exact ⟨rfl, rfl⟩
theorem kept_head (hd : Dq d) (ts : List Tok) : kept d ((ts.dropWhile quiet).take 1) = ((kept d ts).dropWhile quiet).take 1 ∧ kept d ((ts.dropWhile quiet).drop 1) = ((kept d ts).dropWhile quiet).drop 1 := by
  rw [← (kept_while hd ts).2]
  have hn := List.head?_dropWhile_not quiet ts
  cases hc : ts.dropWhile quiet with
  | nil => exact ⟨rfl, rfl⟩
  | cons t l =>
    rw [hc] at hn
    have hq : quiet t = false := by simpa using hn
    have h : d t = false := by
      cases h : d t with
      | true => rw [hd t h] at hq; cases hq
      | false => rfl
    unfold kept
    rw [List.filter_cons_of_pos (by simp [h])]
    simp [h]
theorem nxt_kept (hd : Dq d) (ts : List Tok) : nxt (kept d ts) = nxt ts := by
  unfold nxt
  rw [← (kept_while hd ts).2]
  have hn := List.head?_dropWhile_not quiet ts
  cases hc : ts.dropWhile quiet with
  | nil => rfl
  | cons t l =>
    rw [hc] at hn
    have hq : quiet t = false := by simpa using hn
    have h : d t = false := by
      cases h : d t with
      | true => rw [hd t h] at hq; cases hq
      | false => rfl
    unfold kept
    rw [List.filter_cons_of_pos (by simp [h])]; rfl
theorem nxt_eq (hd : Dq d) {a b : List Tok} (h : kept d a = kept d b) : nxt a = nxt b := by rw [← nxt_kept hd a, ← nxt_kept hd b, h]
theorem isN_eq (hd : Dq d) (s : List UInt8) {a b : List Tok} (h : kept d a = kept d b) : isN s a = isN s b := by unfold isN; rw [nxt_eq hd h]
theorem kindN_eqq (hd : Dq d) {a b : List Tok} (h : kept d a = kept d b) : kindN a = kindN b := by unfold kindN; rw [nxt_eq hd h]
/-- A reading that does not hang on what is not kept. -/
def Qt (d : Tok → Bool) (f : R) : Prop := ∀ a b : List Tok, kept d a = kept d b → strips d (f a).1 = strips d (f b).1 ∧ kept d (f a).2 = kept d (f b).2
theorem Qt.still (ps : List Part) : Qt d (fun ts => (ps, ts)) := fun _ _ h => ⟨rfl, h⟩
theorem Qt.andThen {f g : R} (hf : Qt d f) (hg : Qt d g) : Qt d (X.andThen f g) := by
  intro a b h
  obtain ⟨f1, f2⟩ := hf a b h
  obtain ⟨g1, g2⟩ := hg _ _ f2
  refine ⟨?_, g2⟩
  show strips d ((f a).1 ++ (g (f a).2).1) = strips d ((f b).1 ++ (g (f b).2).1)
  rw [strips_append, strips_append, f1, g1]
theorem Qt.node {f : R} (hf : Qt d f) (k : Nat) : Qt d (X.node k f) := by
  intro a b h
  obtain ⟨f1, f2⟩ := hf a b h
  refine ⟨?_, f2⟩
  show strips d [.br k (f a).1] = strips d [.br k (f b).1]
  rw [strips_br, strips_br, f1]
theorem Qt.ite {f g : R} {c : List Tok → Bool} (hc : ∀ a b, kept d a = kept d b → c a = c b) (hf : Qt d f) (hg : Qt d g) : Qt d (fun ts => if c ts then f ts else g ts) := by
  intro a b h
  have := hc a b h
  show strips d (if c a then f a else g a).1 = strips d (if c b then f b else g b).1 ∧ kept d (if c a then f a else g a).2 = kept d (if c b then f b else g b).2
  rw [this]
  split
  · exact hf a b h
  · exact hg a b h
theorem Qt.take (hd : Dq d) : Qt d X.take := by
  intro a b h
  refine ⟨?_, ?_⟩
  · show strips d ((a.takeWhile quiet ++ (a.dropWhile quiet).take 1).map lf) = strips d ((b.takeWhile quiet ++ (b.dropWhile quiet).take 1).map lf)
    rw [strips_lf, strips_lf, kept_append, kept_append, (kept_while hd a).1, (kept_while hd b).1, (kept_head hd a).1, (kept_head hd b).1, h]
  · show kept d ((a.dropWhile quiet).drop 1) = kept d ((b.dropWhile quiet).drop 1)
    rw [(kept_head hd a).2, (kept_head hd b).2, h]
theorem Qt.want (hd : Dq d) (s : List UInt8) : Qt d (X.want s) := Qt.ite (fun _ _ h => isN_eq hd s h) (Qt.take hd) (Qt.still _)
theorem kind_eq (hd : Dq d) (k : Nat) : ∀ a b : List Tok, kept d a = kept d b → (kindN a == k) = (kindN b == k) := fun _ _ h => by rw [kindN_eqq hd h]
theorem Qt.wname (hd : Dq d) : Qt d X.wname := Qt.ite (kind_eq hd 3) (Qt.take hd) (Qt.still _)
theorem sevL_qt (hd : Dq d) {one : R} (h : Qt d one) (sO : Shr one) (n : Nat) : ∀ a b : List Tok, a.length ≤ n → kept d a = kept d b → strips d (sevL one a).1 = strips d (sevL one b).1 ∧ kept d (sevL one a).2 = kept d (sevL one b).2 := by
  induction n with
  | zero =>
    intro a b ha hk
    have : a = [] := List.length_eq_zero_iff.1 (by omega)
    have h1 : isN [44] a = false := by rw [this]; rfl
    have h2 : isN [44] b = false := by rw [← isN_eq hd _ hk]; exact h1
    rw [sevL_no h1, sevL_no h2]; exact ⟨rfl, hk⟩
  | succ n ih =>
    intro a b ha hk
    cases h1 : isN [44] a with
    | false =>
      have h2 : isN [44] b = false := by rw [← isN_eq hd _ hk]; exact h1
      rw [sevL_no h1, sevL_no h2]; exact ⟨rfl, hk⟩
    | true =>
      have h2 : isN [44] b = true := by rw [← isN_eq hd _ hk]; exact h1
      rw [sevL_yes sO h1, sevL_yes sO h2]
      obtain ⟨t1, t2⟩ := Qt.take hd a b hk
      obtain ⟨o1, o2⟩ := h _ _ t2
      have hl := take_lt (isN_next h1)
      have hl2 := sO.le (X.take a).2
      obtain ⟨i1, i2⟩ := ih _ _ (by omega) o2
      refine ⟨?_, i2⟩
      show strips d ((X.take a).1 ++ ((one (X.take a).2).1 ++ (sevL one (one (X.take a).2).2).1)) = strips d ((X.take b).1 ++ ((one (X.take b).2).1 ++ (sevL one (one (X.take b).2).2).1))
      rw [strips_append, strips_append, strips_append, strips_append, t1, o1, i1]
theorem Qt.sevL (hd : Dq d) {one : R} (h : Qt d one) (sO : Shr one) : Qt d (X.sevL one) := fun a b hk => sevL_qt hd h sO _ a b (Nat.le_refl _) hk
theorem Qt.several (hd : Dq d) {one : R} (h : Qt d one) (sO : Shr one) (c : List UInt8) : Qt d (X.several one c) :=
  Qt.ite (c := isN c) (fun _ _ h => isN_eq hd c h) (Qt.want hd c) (h.andThen ((Qt.sevL hd h sO).andThen (Qt.want hd c)))
theorem Qt.params (hd : Dq d) : Qt d X.params := ((Qt.want hd _).andThen (Qt.several hd (Qt.wname hd) Shr.wname _)).node 6
theorem Qt.args (hd : Dq d) {E : R} (h : Qt d E) (sE : Shr E) : Qt d (X.args E) := ((Qt.take hd).andThen (Qt.several hd h sE _)).node 12
theorem callL_qt (hd : Dq d) {E : R} (h : Qt d E) (sE : Shr E) (n : Nat) : ∀ (a b : List Tok) (p q : List Part), a.length ≤ n → kept d a = kept d b → strips d p = strips d q → strips d (callL E p a).1 = strips d (callL E q b).1 ∧ kept d (callL E p a).2 = kept d (callL E q b).2 := by
  induction n with
  | zero =>
    intro a b p q ha hk hp
    have : a = [] := List.length_eq_zero_iff.1 (by omega)
    have h1 : isN [40] a = false := by rw [this]; rfl
    have h2 : isN [40] b = false := by rw [← isN_eq hd _ hk]; exact h1
    rw [callL_no h1, callL_no h2]; exact ⟨hp, hk⟩
  | succ n ih =>
    intro a b p q ha hk hp
    cases h1 : isN [40] a with
    | false =>
      have h2 : isN [40] b = false := by rw [← isN_eq hd _ hk]; exact h1
      rw [callL_no h1, callL_no h2]; exact ⟨hp, hk⟩
    | true =>
      have h2 : isN [40] b = true := by rw [← isN_eq hd _ hk]; exact h1
      rw [callL_yes sE h1, callL_yes sE h2]
      obtain ⟨t1, t2⟩ := Qt.args hd h sE a b hk
      have hl := args_lt sE (isN_next h1)
      exact ih _ _ _ _ (by omega) t2 (by rw [strips_br, strips_br, strips_append, strips_append, hp, t1])
theorem rowL_qt (hd : Dq d) {one : R} {ok : List Tok → Bool} (h : Qt d one) (sO : Shr one) (hok : ∀ ts, ok ts = true → nxt ts ≠ none) (hc : ∀ a b, kept d a = kept d b → ok a = ok b) (n : Nat) : ∀ (a b : List Tok) (p q : List Part), a.length ≤ n → kept d a = kept d b → strips d p = strips d q → strips d (rowL one ok p a).1 = strips d (rowL one ok q b).1 ∧ kept d (rowL one ok p a).2 = kept d (rowL one ok q b).2 := by
  induction n with
  | zero =>
    intro a b p q ha hk hp
    have : a = [] := List.length_eq_zero_iff.1 (by omega)
    have h1 : ok a = false := by
      cases hh : ok a with
      | true => exact absurd (by rw [this]; rfl) (hok a hh)
      | false => rfl
    have h2 : ok b = false := by rw [← hc _ _ hk]; exact h1
    rw [rowL_no h1, rowL_no h2]; exact ⟨hp, hk⟩
  | succ n ih =>
    intro a b p q ha hk hp
    cases h1 : ok a with
    | false =>
      have h2 : ok b = false := by rw [← hc _ _ hk]; exact h1
      rw [rowL_no h1, rowL_no h2]; exact ⟨hp, hk⟩
    | true =>
      have h2 : ok b = true := by rw [← hc _ _ hk]; exact h1
      rw [rowL_yes sO hok h1, rowL_yes sO hok h2]
      obtain ⟨t1, t2⟩ := (Qt.take hd).andThen h a b hk
      have hl : (X.andThen X.take one a).2.length < a.length := by
        have h1 := take_lt (hok a h1)
        have h2 := sO.le (X.take a).2
        show (one (X.take a).2).2.length < _
        omega
      exact ih _ _ _ _ (by omega) t2 (by rw [strips_br, strips_br, strips_append, strips_append, hp, t1])
theorem Qt.row (hd : Dq d) {one : R} {ok : List Tok → Bool} (h : Qt d one) (sO : Shr one) (hok : ∀ ts, ok ts = true → nxt ts ≠ none) (hc : ∀ a b, kept d a = kept d b → ok a = ok b) : Qt d (X.row one ok) := by
  intro a b hk
  obtain ⟨o1, o2⟩ := h a b hk
  exact rowL_qt hd h sO hok hc _ _ _ _ _ (Nat.le_refl _) o2 o1
theorem Qt.part (hd : Dq d) {E : R} (h : Qt d E) (sE : Shr E) : Qt d (X.part E) :=
  Qt.ite (c := fun ts => kindN ts == 5) (kind_eq hd 5) ((Qt.take hd).node _) <|
  Qt.ite (c := fun ts => kindN ts == 6) (kind_eq hd 6) ((Qt.take hd).node _) <|
  Qt.ite (c := fun ts => isN [116, 114, 117, 101] ts || isN [102, 97, 108, 115, 101] ts) (fun _ _ h => by rw [isN_eq hd _ h, isN_eq hd _ h]) ((Qt.take hd).node _) <|
  Qt.ite (c := fun ts => kindN ts == 3) (kind_eq hd 3) ((Qt.take hd).node _) <|
  Qt.ite (c := isN [63]) (fun _ _ h => isN_eq hd _ h) ((Qt.take hd).node _) <|
  Qt.ite (c := isN [40]) (fun _ _ h => isN_eq hd _ h) (((Qt.take hd).andThen (h.andThen (Qt.want hd _))).node _) <|
  Qt.ite (c := isN [91]) (fun _ _ h => isN_eq hd _ h) (((Qt.take hd).andThen (Qt.several hd h sE _)).node _) (Qt.still _)
theorem Qt.call (hd : Dq d) {E : R} (h : Qt d E) (sE : Shr E) : Qt d (X.call E) := by
  intro a b hk
  obtain ⟨o1, o2⟩ := Qt.part hd h sE a b hk
  exact callL_qt hd h sE _ _ _ _ _ (Nat.le_refl _) o2 o1
theorem Qt.product (hd : Dq d) {E : R} (h : Qt d E) (sE : Shr E) : Qt d (X.product E) := Qt.row hd (Qt.call hd h sE) sE.call (fun _ hc => isN_next hc) (fun _ _ h => isN_eq hd _ h)
theorem Qt.sum (hd : Dq d) {E : R} (h : Qt d E) (sE : Shr E) : Qt d (X.sum E) := Qt.row hd (Qt.product hd h sE) sE.product (fun ts hc => by
  simp only [Bool.or_eq_true] at hc
  rcases hc with (c | c) | c
  · exact isN_next c
  · exact isN_next c
  · exact isN_next c) (fun _ _ h => by rw [isN_eq hd _ h, isN_eq hd _ h, isN_eq hd _ h])
theorem cmp_qt (hd : Dq d) {F : R} (h : Qt d F) : Qt d (fun ts => if isN [61, 61] (F ts).2 || isN [60] (F ts).2 then ([.br 10 ((F ts).1 ++ (X.andThen X.take F (F ts).2).1)], (X.andThen X.take F (F ts).2).2) else F ts) := by
  intro a b hk
  obtain ⟨f1, f2⟩ := h a b hk
  obtain ⟨g1, g2⟩ := (Qt.take hd).andThen h _ _ f2
  have e : (isN [61, 61] (F a).2 || isN [60] (F a).2) = (isN [61, 61] (F b).2 || isN [60] (F b).2) := by rw [isN_eq hd _ f2, isN_eq hd [60] f2]
  dsimp only
  rw [e]
  split
  · refine ⟨?_, g2⟩
    show strips d [.br 10 _] = strips d [.br 10 _]
    rw [strips_br, strips_br, strips_append, strips_append, f1, g1]
  · exact ⟨f1, f2⟩
theorem Qt.comparison (hd : Dq d) {E : R} (h : Qt d E) (sE : Shr E) : Qt d (X.comparison E) := cmp_qt hd (Qt.sum hd h sE)
theorem Qt.expr (hd : Dq d) : ∀ n, Qt d (X.expr n)
  | 0 => Qt.still _
  | n + 1 =>
    have h : Qt d (X.expr n) := Qt.expr hd n
    Qt.ite (c := isN [108, 101, 116]) (fun _ _ h => isN_eq hd _ h) (((Qt.take hd).andThen ((Qt.wname hd).andThen ((Qt.want hd _).andThen (h.andThen ((Qt.want hd _).andThen h))))).node _) <|
    Qt.ite (c := isN [105, 102]) (fun _ _ h => isN_eq hd _ h) (((Qt.take hd).andThen (h.andThen ((Qt.want hd _).andThen (h.andThen ((Qt.want hd _).andThen h))))).node _) <|
    Qt.ite (c := isN [102, 117, 110]) (fun _ _ h => isN_eq hd _ h) (((Qt.take hd).andThen ((Qt.params hd).andThen ((Qt.want hd _).andThen h))).node _) (Qt.comparison hd h (Shr.expr n))
theorem Qt.optPub (hd : Dq d) : Qt d X.optPub := Qt.ite (c := isN sPub) (fun _ _ h => isN_eq hd _ h) (Qt.take hd) (Qt.still _)
theorem Qt.useR (hd : Dq d) : Qt d X.useR := (Qt.want hd _).andThen ((Qt.wname hd).andThen ((Qt.want hd _).andThen ((Qt.wname hd).andThen ((Qt.ite (c := isN [97, 115]) (fun _ _ h => isN_eq hd _ h) ((Qt.take hd).andThen (Qt.wname hd)) (Qt.still _)).andThen (Qt.want hd _)))))
theorem Qt.defR (hd : Dq d) : Qt d X.defR := (Qt.want hd _).andThen ((Qt.wname hd).andThen ((Qt.ite (c := isN [40]) (fun _ _ h => isN_eq hd _ h) (Qt.params hd) (Qt.still _)).andThen ((Qt.want hd _).andThen ((Qt.expr hd 65).andThen (Qt.want hd _)))))
theorem starts_eq (hd : Dq d) {a b : List Tok} (h : kept d a = kept d b) : starts a = starts b := by unfold starts; rw [isN_eq hd _ h, isN_eq hd sPub h, isN_eq hd sDef h]
/-- A kid of the root that is an item. -/
theorem kid_qt (hd : Dq d) {a b : List Tok} (hs : starts a = true) (h : kept d a = kept d b) : (kid a).1 = (kid b).1 ∧ strips d (kid a).2.1 = strips d (kid b).2.1 ∧ kept d (kid a).2.2 = kept d (kid b).2.2 := by
  have hs' : starts b = true := by rw [← starts_eq hd h]; exact hs
  have hp := Qt.optPub hd a b h
  have hu : isN sUse (X.optPub a).2 = isN sUse (X.optPub b).2 := isN_eq hd _ hp.2
  rw [kid_eq, kid_eq, hs, hs', if_pos rfl, if_pos rfl, hu]
  split
  · exact ⟨rfl, (Qt.optPub hd).andThen (Qt.useR hd) a b h⟩
  · exact ⟨rfl, (Qt.optPub hd).andThen (Qt.defR hd) a b h⟩
end X
end Go.Proofs.YtohpfegpnbdfnaaGreatDoor
