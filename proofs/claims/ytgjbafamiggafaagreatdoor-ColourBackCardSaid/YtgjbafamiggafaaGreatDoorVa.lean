/- Plain mathematics: what a tree says, without spaces, remarks and signs: expressions. -/
import Derived.Test.YtgjbafamiggafaaGreatDoorYd
namespace Go.Proofs.YtgjbafamiggafaaGreatDoor
open M
namespace X
/-- A name: its text, and where it begins; one that is missing has no text. -/
abbrev Nm := List UInt8 × Nat
/-- Expressions. -/
inductive Ex where
  | lit (k : Nat) (x : List UInt8)
  | hole (i : Nat)
  | missing
  | var (n : Nm)
  | lett (n : Nm) (v b : Ex)
  | ite (a b c : Ex)
  | fn (ns : List Nm) (b : Ex)
  | bin (l : Ex) (x : List UInt8) (r : Ex)
  | call (f : Ex) (gs : List Ex)
  | list (l : List Ex)
  | group (e : Ex)
/-- A quiet leaf. -/
def lq : Part → Bool
  | .leaf k _ => k == 1 || k == 2
  | _ => false
/-- How many bytes some parts have. -/
def pz (ps : List Part) : Nat := (psb ps).length
theorem pz_app (l r : List Part) : pz (l ++ r) = pz l + pz r := by unfold pz; rw [psb_append, List.length_append]
theorem pz_nil : pz [] = 0 := rfl
theorem pz_cons (p : Part) (ps : List Part) : pz (p :: ps) = pz [p] + pz ps := pz_app [p] ps
theorem pz_leaf (k : Nat) (x : List UInt8) : pz [.leaf k x] = x.length := by unfold pz; rw [psb, pb, psb, List.append_nil]
theorem pz_br (k : Nat) (ps : List Part) : pz [.br k ps] = pz ps := by unfold pz; rw [psb, pb, psb, List.append_nil]
/-- A token, with what is quiet ahead of it. -/
structure Tk1 (ps : List Part) (k : Nat) (x : List UInt8) (qs : List Part) : Prop where
  eq : ps = qs ++ [.leaf k x]
  qu : ∀ q ∈ qs, lq q = true
  ne : ¬ (k = 1 ∨ k = 2)
/-- A token, or what is missing in its place. -/
def Tkp (ps : List Part) : Prop := (∃ k x qs, Tk1 ps k x qs) ∨ ∃ m, ps = [.miss m]
/-- A name, or what is missing in its place; where it begins. -/
inductive Nmp : List Part → Nat → Nm → Prop
  | name (ps : List Part) (x : List UInt8) (qs : List Part) (i : Nat) (h : Tk1 ps 3 x qs) : Nmp ps i (x, i + pz qs)
  | miss (i : Nat) : Nmp [.miss sName] i ([], 0)
/-- The names of an NParams. -/
inductive Nms : List Part → Nat → List Nm → Prop
  | nil (i : Nat) : Nms [] i []
  | name (x : List UInt8) (ps : List Part) (i : Nat) (ns : List Nm) (h : Nms ps (i + x.length) ns) : Nms (.leaf 3 x :: ps) i ((x, i) :: ns)
  | leaf (k : Nat) (x : List UInt8) (ps : List Part) (i : Nat) (ns : List Nm) (hk : k ≠ 3) (h : Nms ps (i + x.length) ns) : Nms (.leaf k x :: ps) i ns
  | lack (ps : List Part) (i : Nat) (ns : List Nm) (h : Nms ps i ns) : Nms (.miss sName :: ps) i (([], 0) :: ns)
  | miss (m : List UInt8) (ps : List Part) (i : Nat) (ns : List Nm) (hm : m ≠ sName) (h : Nms ps i ns) : Nms (.miss m :: ps) i ns
mutual
/-- A part that begins behind so many bytes is read gs an expression. -/
inductive Rd : Part → Nat → Ex → Prop
  | missing (i : Nat) : Rd (.miss sExpr) i .missing
  | lit (k t : Nat) (x : List UInt8) (ps qs : List Part) (i : Nat) (hk : 15 ≤ k ∧ k ≤ 17) (h : Tk1 ps t x qs) : Rd (.br k ps) i (.lit k x)
  | var (x : List UInt8) (ps qs : List Part) (i : Nat) (h : Tk1 ps 3 x qs) : Rd (.br 18 ps) i (.var (x, i + pz qs))
  | hole (t : Nat) (x : List UInt8) (ps qs : List Part) (i : Nat) (h : Tk1 ps t x qs) : Rd (.br 19 ps) i (.hole (i + pz qs))
  | lett (t1 n t2 t3 : List Part) (p1 p2 : Part) (i : Nat) (nm : Nm) (e1 e2 : Ex) (h1 : Tkp t1) (hn : Nmp n (i + pz t1) nm) (h2 : Tkp t2) (hv : Rd p1 (i + pz t1 + pz n + pz t2) e1) (h3 : Tkp t3) (hb : Rd p2 (i + pz t1 + pz n + pz t2 + pz [p1] + pz t3) e2) : Rd (.br 7 (t1 ++ (n ++ (t2 ++ ([p1] ++ (t3 ++ [p2])))))) i (.lett nm e1 e2)
  | ite (ps : List Part) (i : Nat) (a b c : Ex) (h : Rds ps i [a, b, c]) : Rd (.br 8 ps) i (.ite a b c)
  | fn (t1 qs t2 : List Part) (p : Part) (i : Nat) (ns : List Nm) (e : Ex) (h1 : Tkp t1) (hn : Nms qs (i + pz t1) ns) (h2 : Tkp t2) (hb : Rd p (i + pz t1 + pz qs + pz t2) e) : Rd (.br 9 (t1 ++ ([.br 6 qs] ++ (t2 ++ [p])))) i (.fn ns e)
  | bin (p1 p2 : Part) (t qs : List Part) (k : Nat) (x : List UInt8) (i : Nat) (e1 e2 : Ex) (hl : Rd p1 i e1) (h : Tk1 t k x qs) (hr : Rd p2 (i + pz [p1] + pz t) e2) : Rd (.br 10 ([p1] ++ (t ++ [p2]))) i (.bin e1 x e2)
  | call (p : Part) (gs : List Part) (i : Nat) (e : Ex) (es : List Ex) (hc : Rd p i e) (ha : Rds gs (i + pz [p]) es) : Rd (.br 11 ([p] ++ [.br 12 gs])) i (.call e es)
  | list (ps : List Part) (i : Nat) (es : List Ex) (h : Rds ps i es) : Rd (.br 13 ps) i (.list es)
  | group (ps : List Part) (i : Nat) (e : Ex) (h : Rds ps i [e]) : Rd (.br 14 ps) i (.group e)
/-- The expressions among some parts. -/
inductive Rds : List Part → Nat → List Ex → Prop
  | nil (i : Nat) : Rds [] i []
  | leaf (k : Nat) (x : List UInt8) (ps : List Part) (i : Nat) (es : List Ex) (h : Rds ps (i + x.length) es) : Rds (.leaf k x :: ps) i es
  | miss (m : List UInt8) (ps : List Part) (i : Nat) (es : List Ex) (hm : m ≠ sExpr) (h : Rds ps i es) : Rds (.miss m :: ps) i es
  | cons (p : Part) (ps : List Part) (i : Nat) (e : Ex) (es : List Ex) (hp : Rd p i e) (h : Rds ps (i + pz [p]) es) : Rds (p :: ps) i (e :: es)
end
/-- A part that is an expression wherever it begins. -/
def Rx (p : Part) : Prop := ∀ i, ∃ e, Rd p i e
/-- What reads one expression. -/
def RdR (f : R) : Prop := ∀ ts, ∃ p, (f ts).1 = [p] ∧ Rx p
theorem take_tk1 {ts : List Tok} (h : nxt ts ≠ none) : ∃ k x qs, Tk1 (take ts).1 k x qs ∧ nxt ts = some (k, x) := by
  unfold nxt at h
  cases hd : ts.dropWhile quiet with
  | nil => rw [hd] at h; exact absurd rfl h
  | cons t l =>
    have hne : quiet t = false := by
      have := List.head?_dropWhile_not quiet ts
      rw [hd] at this
      simpa using this
    refine ⟨t.1, t.2, (ts.takeWhile quiet).map lf, ⟨?_, fun q hq => ?_, ?_⟩, ?_⟩
    · show ((ts.takeWhile quiet ++ (ts.dropWhile quiet).take 1).map lf) = _
      rw [hd, List.map_append]; rfl
    · obtain ⟨u, hu, rfl⟩ := List.mem_map.1 hq
      exact List.all_eq_true.1 (List.all_takeWhile (p := quiet) (l := ts)) u hu
    · unfold quiet at hne; simp at hne; omega
    · unfold nxt; rw [hd]; rfl
theorem want_tkp (s : List UInt8) (ts : List Tok) : Tkp (want s ts).1 := by
  unfold want
  split
  · next h =>
    obtain ⟨k, x, qs, h1, -⟩ := take_tk1 (isN_next h)
    exact .inl ⟨k, x, qs, h1⟩
  · exact .inr ⟨s, rfl⟩
theorem kindN_eq {ts : List Tok} {k : Nat} {x : List UInt8} (h : nxt ts = some (k, x)) : kindN ts = k := by unfold kindN; rw [h]
theorem wname_nmp (ts : List Tok) (i : Nat) : ∃ nm, Nmp (wname ts).1 i nm := by
  unfold wname
  split
  · next h =>
    obtain ⟨k, x, qs, h1, h2⟩ := take_tk1 (kindN_next (by decide) h)
    have := kindN_eq h2
    rw [this] at h
    obtain rfl : k = 3 := by simpa using h
    exact ⟨_, .name _ x qs i h1⟩
  · exact ⟨_, .miss i⟩
theorem lq_leaf {q : Part} (h : lq q = true) : ∃ k x, q = .leaf k x ∧ (k = 1 ∨ k = 2) := by
  cases q with
  | leaf k x => exact ⟨k, x, rfl, by simpa [lq] using h⟩
  | miss m => cases h
  | br k ps => cases h
/-- Leaves ahead of expressions. -/
theorem Rds.skip : ∀ {qs : List Part} {ps : List Part} {i : Nat} {es : List Ex}, (∀ q ∈ qs, ∃ k x, q = .leaf k x) → Rds ps (i + pz qs) es → Rds (qs ++ ps) i es
  | [], ps, i, es, _, h => by rw [pz_nil] at h; exact h
  | q :: qs, ps, i, es, hq, h => by
    obtain ⟨k, x, rfl⟩ := hq q (by simp)
    have e1 : pz (.leaf k x :: qs) = x.length + pz qs := by unfold pz; rw [psb, pb, List.length_append]
    rw [e1, ← Nat.add_assoc] at h
    exact .leaf k x _ _ _ (Rds.skip (fun q' hq' => hq q' (List.mem_cons_of_mem _ hq')) h)
theorem Tk1.leaves {ps : List Part} {k : Nat} {x : List UInt8} {qs : List Part} (h : Tk1 ps k x qs) : ∀ q ∈ ps, ∃ k x, q = .leaf k x := by
  intro q hq
  rw [h.eq] at hq
  rcases List.mem_append.1 hq with h1 | h1
  · obtain ⟨k, x, e, -⟩ := lq_leaf (h.qu q h1)
    exact ⟨k, x, e⟩
  · obtain rfl := List.mem_singleton.1 h1
    exact ⟨k, x, rfl⟩
/-- A token ahead of expressions, or what is missing in its place. -/
theorem Rds.tkp {t ps : List Part} {i : Nat} {es : List Ex} (ht : Tkp t) (hx : t ≠ [.miss sExpr]) (h : Rds ps (i + pz t) es) : Rds (t ++ ps) i es := by
  rcases ht with ⟨k, x, qs, h1⟩ | ⟨m, rfl⟩
  · exact Rds.skip h1.leaves h
  · have : pz [.miss m] = 0 := rfl
    rw [this] at h
    exact .miss m _ _ _ (fun e => hx (by rw [e])) h
theorem want_ne (s : List UInt8) (hs : s ≠ sExpr) (ts : List Tok) : (want s ts).1 ≠ [.miss sExpr] := by
  unfold want
  split
  · next h =>
    obtain ⟨k, x, qs, h1, -⟩ := take_tk1 (isN_next h)
    rw [h1.eq]
    intro e
    cases qs with
    | nil => cases e
    | cons q qs =>
      have := congrArg List.length e
      simp at this
  · intro e
    cases e
    exact hs rfl
theorem tk1_ne {ps : List Part} {k : Nat} {x : List UInt8} {qs : List Part} (h : Tk1 ps k x qs) : ps ≠ [.miss sExpr] := by
  intro e
  obtain ⟨k', x', e'⟩ := h.leaves (.miss sExpr) (by rw [e]; simp)
  cases e'
/-- Several expressions, and what ends them. -/
theorem sevGo_rds {E : R} (hE : RdR E) {t : List Part} (ht : Tkp t) (hx : t ≠ [.miss sExpr]) : ∀ (n : Nat) (ts : List Tok) (i : Nat), ∃ es, Rds ((sevGo E n ts).1 ++ t) i es
  | 0, ts, i => ⟨[], by
      show Rds ([] ++ t) i []
      have := Rds.tkp (ps := []) (i := i) (es := []) ht hx (.nil _)
      rw [List.append_nil] at this
      exact this⟩
  | n + 1, ts, i => by
    unfold sevGo
    split
    · next h =>
      obtain ⟨k, x, qs, h1, -⟩ := take_tk1 (isN_next h)
      obtain ⟨p, hp, hr⟩ := hE (take ts).2
      obtain ⟨e, he⟩ := hr (i + pz (take ts).1)
      obtain ⟨es, hes⟩ := sevGo_rds hE ht hx n (E (take ts).2).2 (i + pz (take ts).1 + pz [p])
      refine ⟨e :: es, ?_⟩
      show Rds (((take ts).1 ++ ((E (take ts).2).1 ++ (sevGo E n (E (take ts).2).2).1)) ++ t) i _
      rw [hp, List.append_assoc]
      refine Rds.tkp (.inl ⟨k, x, qs, h1⟩) (tk1_ne h1) ?_
      exact .cons p _ _ e es he hes
    · have := Rds.tkp (ps := []) (i := i) (es := []) ht hx (.nil _)
      rw [List.append_nil] at this
      exact ⟨[], this⟩
theorem several_rds {E : R} (hE : RdR E) {s : List UInt8} (hs : s ≠ sExpr) (ts : List Tok) (i : Nat) : ∃ es, Rds (several E s ts).1 i es := by
  unfold several
  split
  · have := Rds.tkp (ps := []) (i := i) (es := []) (want_tkp s ts) (want_ne s hs ts) (.nil _)
    rw [List.append_nil] at this
    exact ⟨[], this⟩
  · obtain ⟨p, hp, hr⟩ := hE ts
    obtain ⟨e, he⟩ := hr i
    obtain ⟨es, hes⟩ := sevGo_rds hE (want_tkp s ((fun ts => sevGo E ts.length ts) (E ts).2).2) (want_ne s hs _) (E ts).2.length (E ts).2 (i + pz [p])
    refine ⟨e :: es, ?_⟩
    show Rds ((E ts).1 ++ ((sevGo E (E ts).2.length (E ts).2).1 ++ _)) i _
    rw [hp]
    exact .cons p _ _ e es he hes
/-- Several names, and what ends them. -/
theorem Nms.skip : ∀ {qs : List Part} {ps : List Part} {i : Nat} {ns : List Nm}, (∀ q ∈ qs, ∃ k x, q = .leaf k x ∧ k ≠ 3) → Nms ps (i + pz qs) ns → Nms (qs ++ ps) i ns
  | [], ps, i, ns, _, h => by rw [pz_nil] at h; exact h
  | q :: qs, ps, i, ns, hq, h => by
    obtain ⟨k, x, rfl, hk⟩ := hq q (by simp)
    have e1 : pz (.leaf k x :: qs) = x.length + pz qs := by unfold pz; rw [psb, pb, List.length_append]
    rw [e1, ← Nat.add_assoc] at h
    exact .leaf k x _ _ _ hk (Nms.skip (fun q' hq' => hq q' (List.mem_cons_of_mem _ hq')) h)
theorem lq_ne3 {qs : List Part} (h : ∀ q ∈ qs, lq q = true) : ∀ q ∈ qs, ∃ k x, q = .leaf k x ∧ k ≠ 3 := fun q hq => by
  obtain ⟨k, x, e, hk⟩ := lq_leaf (h q hq)
  exact ⟨k, x, e, by omega⟩
theorem want_nms {s : List UInt8} (hs : s ≠ sName) (ts : List Tok) {ps : List Part} {i : Nat} {ns : List Nm} (h : Nms ps (i + pz (want s ts).1) ns) : Nms ((want s ts).1 ++ ps) i ns := by
  unfold want at h ⊢
  split
  · next hi =>
    rw [if_pos hi] at h
    obtain ⟨k, x, qs, h1, h2⟩ := take_tk1 (isN_next hi)
    have hk : k ≠ 3 := by
      unfold isN at hi
      rw [h2] at hi
      intro e; subst e
      simp at hi
    refine Nms.skip (fun q hq => ?_) h
    rw [h1.eq] at hq
    rcases List.mem_append.1 hq with g | g
    · exact lq_ne3 h1.qu q g
    · obtain rfl := List.mem_singleton.1 g
      exact ⟨k, x, rfl, hk⟩
  · next hi =>
    rw [if_neg hi] at h
    exact .miss s _ _ _ hs h
theorem wname_nms (ts : List Tok) {ps : List Part} {i : Nat} (h : ∀ j, ∃ ns, Nms ps j ns) : ∃ ns, Nms ((wname ts).1 ++ ps) i ns := by
  unfold wname
  split
  · next hi =>
    obtain ⟨k, x, qs, h1, h2⟩ := take_tk1 (kindN_next (by decide) hi)
    have := kindN_eq h2
    rw [this] at hi
    obtain rfl : k = 3 := by simpa using hi
    obtain ⟨ns, hns⟩ := h (i + pz qs + x.length)
    refine ⟨(x, i + pz qs) :: ns, ?_⟩
    rw [h1.eq, List.append_assoc]
    exact Nms.skip (lq_ne3 h1.qu) (.name x _ _ _ hns)
  · obtain ⟨ns, hns⟩ := h i
    exact ⟨_, .lack _ _ _ hns⟩
theorem sevGo_nms {s : List UInt8} (hs : s ≠ sName) : ∀ (n : Nat) (ts ts' : List Tok) (i : Nat), ∃ ns, Nms ((sevGo wname n ts).1 ++ (want s ts').1) i ns
  | 0, ts, ts', i => ⟨[], by
      show Nms ([] ++ (want s ts').1) i []
      have := want_nms (ps := []) (i := i) (ns := []) hs ts' (.nil _)
      rw [List.append_nil] at this
      exact this⟩
  | n + 1, ts, ts', i => by
    unfold sevGo
    split
    · next h =>
      obtain ⟨k, x, qs, h1, h2⟩ := take_tk1 (isN_next h)
      have hk : k ≠ 3 := by
        unfold isN at h
        rw [h2] at h
        intro e; subst e
        simp at h
      obtain ⟨ns, hns⟩ := wname_nms (take ts).2 (ps := (sevGo wname n (wname (take ts).2).2).1 ++ (want s ts').1) (i := i + pz (take ts).1) (fun j => sevGo_nms hs n _ _ j)
      refine ⟨ns, ?_⟩
      show Nms (((take ts).1 ++ ((wname (take ts).2).1 ++ (sevGo wname n (wname (take ts).2).2).1)) ++ _) i _
      rw [List.append_assoc, List.append_assoc]
      refine Nms.skip (fun q hq => ?_) hns
      rw [h1.eq] at hq
      rcases List.mem_append.1 hq with g | g
      · exact lq_ne3 h1.qu q g
      · obtain rfl := List.mem_singleton.1 g
        exact ⟨k, x, rfl, hk⟩
    · have := want_nms (ps := []) (i := i) (ns := []) hs ts' (.nil _)
      rw [List.append_nil] at this
      exact ⟨[], this⟩
theorem params_nms (ts : List Tok) : ∃ qs, (params ts).1 = [.br 6 qs] ∧ ∀ i, ∃ ns, Nms qs i ns := by
  refine ⟨_, rfl, fun i => ?_⟩
  show ∃ ns, Nms ((want [40] ts).1 ++ (several wname [41] (want [40] ts).2).1) i ns
  have key : ∀ j, ∃ ns, Nms (several wname [41] (want [40] ts).2).1 j ns := fun j => by
    unfold several
    split
    · have := want_nms (s := [41]) (ps := []) (i := j) (ns := []) (by decide) (want [40] ts).2 (.nil _)
      rw [List.append_nil] at this
      exact ⟨[], this⟩
    · exact wname_nms _ (fun j => sevGo_nms (by decide) _ _ _ j)
  obtain ⟨ns, h⟩ := key (i + pz (want [40] ts).1)
  exact ⟨ns, want_nms (by decide) ts h⟩
theorem tok_rdr {ts : List Tok} (h : nxt ts ≠ none) {k : Nat} (hk : (15 ≤ k ∧ k ≤ 17) ∨ k = 19 ∨ (k = 18 ∧ (kindN ts == 3) = true)) : ∃ p, (node k take ts).1 = [p] ∧ Rx p := by
  obtain ⟨t, x, qs, h1, h2⟩ := take_tk1 h
  refine ⟨_, rfl, fun i => ?_⟩
  rcases hk with hk | rfl | ⟨rfl, hk⟩
  · exact ⟨_, .lit k t x _ qs i hk h1⟩
  · exact ⟨_, .hole t x _ qs i h1⟩
  · rw [kindN_eq h2] at hk
    obtain rfl : t = 3 := by simpa using hk
    exact ⟨_, .var x _ qs i h1⟩
theorem part_rdr {E : R} (hE : RdR E) : RdR (part E) := by
  intro ts
  unfold part
  split
  · next h => exact tok_rdr (kindN_next (by decide) h) (.inl ⟨by decide, by decide⟩)
  split
  · next h => exact tok_rdr (kindN_next (by decide) h) (.inl ⟨by decide, by decide⟩)
  split
  · next h =>
    refine tok_rdr ?_ (.inl ⟨by decide, by decide⟩)
    rcases Bool.or_eq_true_iff.1 h with g | g
    · exact isN_next g
    · exact isN_next g
  split
  · next h => exact tok_rdr (kindN_next (by decide) h) (.inr (.inr ⟨rfl, h⟩))
  split
  · next h => exact tok_rdr (isN_next h) (.inr (.inl rfl))
  split
  · next h =>
    obtain ⟨k, x, qs, h1, -⟩ := take_tk1 (isN_next h)
    obtain ⟨p, hp, hr⟩ := hE (take ts).2
    refine ⟨_, rfl, fun i => ?_⟩
    obtain ⟨e, he⟩ := hr (i + pz (take ts).1)
    refine ⟨.group e, .group _ i e ?_⟩
    show Rds ((take ts).1 ++ ((E (take ts).2).1 ++ (want [41] (E (take ts).2).2).1)) i [e]
    rw [hp]
    refine Rds.tkp (.inl ⟨k, x, qs, h1⟩) (tk1_ne h1) (.cons p _ _ e [] he ?_)
    have := Rds.tkp (ps := []) (i := i + pz (take ts).1 + pz [p]) (es := []) (want_tkp [41] (E (take ts).2).2) (want_ne [41] (by decide) _) (.nil _)
    rw [List.append_nil] at this
    exact this
  split
  · next h =>
    obtain ⟨k, x, qs, h1, -⟩ := take_tk1 (isN_next h)
    refine ⟨_, rfl, fun i => ?_⟩
    obtain ⟨es, hes⟩ := several_rds hE (s := [93]) (by decide) (take ts).2 (i + pz (take ts).1)
    exact ⟨.list es, .list _ i es (Rds.tkp (.inl ⟨k, x, qs, h1⟩) (tk1_ne h1) hes)⟩
  · exact ⟨_, rfl, fun i => ⟨_, .missing i⟩⟩
theorem callGo_rdr {E : R} (hE : RdR E) : ∀ (n : Nat) (p : Part) (ts : List Tok), Rx p → ∃ q, (callGo E n [p] ts).1 = [q] ∧ Rx q
  | 0, p, ts, h => ⟨p, rfl, h⟩
  | n + 1, p, ts, h => by
    unfold callGo
    split
    · next hi =>
      refine callGo_rdr hE n _ _ fun i => ?_
      obtain ⟨k, x, qs, h1, -⟩ := take_tk1 (isN_next hi)
      obtain ⟨e, he⟩ := h i
      obtain ⟨es, hes⟩ := several_rds hE (s := [41]) (by decide) (take ts).2 (i + pz [p] + pz (take ts).1)
      exact ⟨.call e es, .call p _ i e es he (Rds.tkp (.inl ⟨k, x, qs, h1⟩) (tk1_ne h1) hes)⟩
    · exact ⟨p, rfl, h⟩
theorem call_rdr {E : R} (hE : RdR E) : RdR (call E) := fun ts => by
  obtain ⟨p, hp, hr⟩ := part_rdr hE ts
  unfold call
  rw [hp]
  exact callGo_rdr hE _ p _ hr
theorem bin_rx {one : R} (h1 : RdR one) {p : Part} (hp : Rx p) {ts : List Tok} (hn : nxt ts ≠ none) : Rx (.br 10 ([p] ++ (andThen take one ts).1)) := by
  intro i
  obtain ⟨k, x, qs, ht, -⟩ := take_tk1 hn
  obtain ⟨q, hq, hr⟩ := h1 (take ts).2
  obtain ⟨e, he⟩ := hp i
  obtain ⟨e2, he2⟩ := hr (i + pz [p] + pz (take ts).1)
  refine ⟨.bin e x e2, ?_⟩
  show Rd (.br 10 ([p] ++ ((take ts).1 ++ (one (take ts).2).1))) i _
  rw [hq]
  exact .bin p q _ qs k x i e e2 he ht he2
theorem rowGo_rdr {one : R} (h1 : RdR one) {ok : List Tok → Bool} (hok : ∀ ts, ok ts = true → nxt ts ≠ none) : ∀ (n : Nat) (p : Part) (ts : List Tok), Rx p → ∃ q, (rowGo one ok n [p] ts).1 = [q] ∧ Rx q
  | 0, p, ts, h => ⟨p, rfl, h⟩
  | n + 1, p, ts, h => by
    unfold rowGo
    split
    · next hi => exact rowGo_rdr h1 hok n _ _ (bin_rx h1 h (hok ts hi))
    · exact ⟨p, rfl, h⟩
theorem row_rdr {one : R} (h1 : RdR one) {ok : List Tok → Bool} (hok : ∀ ts, ok ts = true → nxt ts ≠ none) : RdR (row one ok) := fun ts => by
  obtain ⟨p, hp, hr⟩ := h1 ts
  unfold row
  rw [hp]
  exact rowGo_rdr h1 hok _ p _ hr
theorem sum_rdr {E : R} (hE : RdR E) : RdR (sum E) :=
  row_rdr (row_rdr (call_rdr hE) (fun _ h => isN_next h)) (fun ts h => by
    rcases Bool.or_eq_true_iff.1 h with g | g
    · rcases Bool.or_eq_true_iff.1 g with g | g
      · exact isN_next g
      · exact isN_next g
    · exact isN_next g)
theorem comparison_rdr {E : R} (hE : RdR E) : RdR (comparison E) := fun ts => by
  have hs := sum_rdr hE
  obtain ⟨p, hp, hr⟩ := hs ts
  unfold comparison
  split
  · next h =>
    rw [hp]
    refine ⟨_, rfl, bin_rx hs hr ?_⟩
    rcases Bool.or_eq_true_iff.1 h with g | g
    · exact isN_next g
    · exact isN_next g
  · exact ⟨p, hp, hr⟩
theorem expr_rdr : ∀ n, RdR (expr n)
  | 0 => fun ts => ⟨_, rfl, fun i => ⟨_, .missing i⟩⟩
  | n + 1 => fun ts => by
    have hE := expr_rdr n
    unfold expr
    generalize expr n = E at *
    split
    · next h =>
      obtain ⟨k, x, qs, h1, -⟩ := take_tk1 (isN_next h)
      refine ⟨_, rfl, fun i => ?_⟩
      obtain ⟨nm, hn⟩ := wname_nmp (take ts).2 (i + pz (take ts).1)
      obtain ⟨p1, hp1, hr1⟩ := hE (want [61] (wname (take ts).2).2).2
      obtain ⟨p2, hp2, hr2⟩ := hE (want [105, 110] (E (want [61] (wname (take ts).2).2).2).2).2
      obtain ⟨e1, he1⟩ := hr1 (i + pz (take ts).1 + pz (wname (take ts).2).1 + pz (want [61] (wname (take ts).2).2).1)
      obtain ⟨e2, he2⟩ := hr2 (i + pz (take ts).1 + pz (wname (take ts).2).1 + pz (want [61] (wname (take ts).2).2).1 + pz [p1] + pz (want [105, 110] (E (want [61] (wname (take ts).2).2).2).2).1)
      refine ⟨.lett nm e1 e2, ?_⟩
      show Rd (.br 7 ((take ts).1 ++ ((wname (take ts).2).1 ++ ((want [61] (wname (take ts).2).2).1 ++ ((E (want [61] (wname (take ts).2).2).2).1 ++ ((want [105, 110] (E (want [61] (wname (take ts).2).2).2).2).1 ++ (E (want [105, 110] (E (want [61] (wname (take ts).2).2).2).2).2).1)))))) i _
      rw [hp1, hp2]
      exact .lett _ _ _ _ p1 p2 i nm e1 e2 (.inl ⟨k, x, qs, h1⟩) hn (want_tkp _ _) he1 (want_tkp _ _) he2
    split
    · next h =>
      obtain ⟨k, x, qs, h1, -⟩ := take_tk1 (isN_next h)
      refine ⟨_, rfl, fun i => ?_⟩
      obtain ⟨p1, hp1, hr1⟩ := hE (take ts).2
      obtain ⟨p2, hp2, hr2⟩ := hE (want [116, 104, 101, 110] (E (take ts).2).2).2
      obtain ⟨p3, hp3, hr3⟩ := hE (want [101, 108, 115, 101] (E (want [116, 104, 101, 110] (E (take ts).2).2).2).2).2
      obtain ⟨e1, he1⟩ := hr1 (i + pz (take ts).1)
      obtain ⟨e2, he2⟩ := hr2 (i + pz (take ts).1 + pz [p1] + pz (want [116, 104, 101, 110] (E (take ts).2).2).1)
      obtain ⟨e3, he3⟩ := hr3 (i + pz (take ts).1 + pz [p1] + pz (want [116, 104, 101, 110] (E (take ts).2).2).1 + pz [p2] + pz (want [101, 108, 115, 101] (E (want [116, 104, 101, 110] (E (take ts).2).2).2).2).1)
      refine ⟨.ite e1 e2 e3, .ite _ i e1 e2 e3 ?_⟩
      show Rds ((take ts).1 ++ ((E (take ts).2).1 ++ ((want [116, 104, 101, 110] (E (take ts).2).2).1 ++ ((E (want [116, 104, 101, 110] (E (take ts).2).2).2).1 ++ ((want [101, 108, 115, 101] (E (want [116, 104, 101, 110] (E (take ts).2).2).2).2).1 ++ (E (want [101, 108, 115, 101] (E (want [116, 104, 101, 110] (E (take ts).2).2).2).2).2).1))))) i _
      rw [hp1, hp2, hp3]
      have s3 := Rds.tkp (i := i + pz (take ts).1 + pz [p1] + pz (want [116, 104, 101, 110] (E (take ts).2).2).1 + pz [p2]) (want_tkp [101, 108, 115, 101] (E (want [116, 104, 101, 110] (E (take ts).2).2).2).2) (want_ne _ (by decide) _) (.cons p3 [] _ e3 [] he3 (.nil _))
      have s2 := Rds.tkp (i := i + pz (take ts).1 + pz [p1]) (want_tkp [116, 104, 101, 110] (E (take ts).2).2) (want_ne _ (by decide) _) (.cons p2 _ _ e2 _ he2 s3)
      exact Rds.tkp (.inl ⟨k, x, qs, h1⟩) (tk1_ne h1) (.cons p1 _ _ e1 _ he1 s2)
    split
    · next h =>
      obtain ⟨k, x, qs, h1, -⟩ := take_tk1 (isN_next h)
      refine ⟨_, rfl, fun i => ?_⟩
      obtain ⟨ps, hps, hns⟩ := params_nms (take ts).2
      obtain ⟨ns, hn⟩ := hns (i + pz (take ts).1)
      obtain ⟨p, hp, hr⟩ := hE (want [61, 62] (params (take ts).2).2).2
      obtain ⟨e, he⟩ := hr (i + pz (take ts).1 + pz ps + pz (want [61, 62] (params (take ts).2).2).1)
      refine ⟨.fn ns e, ?_⟩
      show Rd (.br 9 ((take ts).1 ++ ((params (take ts).2).1 ++ ((want [61, 62] (params (take ts).2).2).1 ++ (E (want [61, 62] (params (take ts).2).2).2).1)))) i _
      rw [hps, hp]
      exact .fn _ ps _ p i ns e (.inl ⟨k, x, qs, h1⟩) hn (want_tkp _ _) he
    · exact comparison_rdr hE ts
end X
end Go.Proofs.YtgjbafamiggafaaGreatDoor
