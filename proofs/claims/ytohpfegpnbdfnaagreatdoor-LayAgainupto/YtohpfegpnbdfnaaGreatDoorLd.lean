/- Plain mathematics: the tokens of a text, spaces aside; what they are if tokens are written one behind the other. -/
import Derived.Test.YtohpfegpnbdfnaaGreatDoorLb
import Derived.Test.YtohpfegpnbdfnaaGreatDoorXb
import Derived.Test.YtohpfegpnbdfnaaGreatDoorKa
namespace Go.Proofs.YtohpfegpnbdfnaaGreatDoor
namespace X
open M
theorem xt_nil : xt [] = [] := by unfold xt; rw [toks_nil]; rfl
theorem xt_at (n : Nat) : ∀ (t : List UInt8) (a p : Nat), (t.drop (a + p)).length ≤ n → (toks (a + p) (t.drop (a + p))).map (tkx t) = (toks p (t.drop (a + p))).map (tkx (t.drop a)) := by
  induction n with
  | zero =>
    intro t a p h
    have : t.drop (a + p) = [] := List.length_eq_zero_iff.1 (by omega)
    rw [this, toks_nil, toks_nil]; rfl
  | succ n ih =>
    intro t a p h
    by_cases h0 : t.drop (a + p) = []
    · rw [h0, toks_nil, toks_nil]; rfl
    · have hb := tok_bounds h0
      have hp := List.length_pos_iff.2 h0
      rw [toks_cons h0, toks_cons h0, List.map_cons, List.map_cons, List.drop_drop]
      have := ih t a (p + (tok (t.drop (a + p))).2) (by rw [List.length_drop] at h hp ⊢; omega)
      rw [← Nat.add_assoc] at this
      rw [this]
      congr 1
      unfold tkx
      simp only [List.drop_drop]
theorem xt_cons {t : List UInt8} (h : t ≠ []) : xt t = ((tok t).1, t.take (tok t).2) :: xt (t.drop (tok t).2) := by
  unfold xt
  rw [toks_cons h, List.map_cons]
  have := xt_at _ t (tok t).2 0 (Nat.le_refl _)
  rw [Nat.add_zero] at this
  rw [Nat.zero_add, this]
  rfl
/-- Those that are no spaces. -/
def nsp (l : List UInt8) : List Tok := (xt l).filter (fun t => !(t.1 == 1))
theorem nsp_nil : nsp [] = [] := by unfold nsp; rw [xt_nil]; rfl
theorem nsp_one {t : List UInt8} (h : t ≠ []) (h1 : (tok t).1 = 1) : nsp t = nsp (t.drop (tok t).2) := by
  unfold nsp
  rw [xt_cons h, List.filter_cons_of_neg (by simp [h1])]
theorem nsp_sp1 {b : UInt8} (hb : b = 32 ∨ b = 10) (l : List UInt8) : nsp (b :: l) = nsp l := by
  have e := tok_space hb l
  rw [nsp_one (by simp) (by rw [e]), e]
  simp only
  rw [Nat.add_comm 1, List.drop_succ_cons]
  by_cases h0 : l = []
  · subst h0; rw [skip_nil]; rfl
  by_cases h1 : isSp (cc l) = true
  · have e2 : tok l = (1, skip isSp l) := by unfold tok; rw [if_pos h1, skip_yes h0 h1]
    rw [nsp_one h0 (by rw [e2]), e2]
  · rw [skip_no (by simpa using h1)]; rfl
theorem nsp_sp : ∀ (s r : List UInt8), (∀ b ∈ s, b = 32 ∨ b = 10) → nsp (s ++ r) = nsp r
  | [], _, _ => rfl
  | b :: s, r, h => by
    rw [List.cons_append, nsp_sp1 (h b (by simp)), nsp_sp s r (fun c hc => h c (List.mem_cons_of_mem _ hc))]
theorem nsp_tk {x r : List UInt8} {k : Nat} (hx : x ≠ []) (h : tok (x ++ r) = (k, x.length)) (hk : k ≠ 1) : nsp (x ++ r) = (k, x) :: nsp r := by
  unfold nsp
  rw [xt_cons (by simp [hx]), h]
  simp only
  rw [List.take_left' rfl, List.drop_left' rfl, List.filter_cons_of_pos (by simp [hk])]
/-- A token that is no space and not bad, and that was read somewhere. -/
structure Gd (t : Tok) : Prop where
  ne : t.2 ≠ []
  k1 : t.1 ≠ 1
  k8 : t.1 ≠ 8
  ex : ∃ r0, tok (t.2 ++ r0) = (t.1, t.2.length)
theorem xt_gd (n : Nat) : ∀ l : List UInt8, l.length ≤ n → ∀ t ∈ xt l, t.1 ≠ 1 → t.1 ≠ 8 → Gd t := by
  induction n with
  | zero =>
    intro l h t ht
    have : l = [] := List.length_eq_zero_iff.1 (by omega)
    subst this; rw [xt_nil] at ht; exact absurd ht (by simp)
  | succ n ih =>
    intro l h t ht h1 h8
    by_cases h0 : l = []
    · subst h0; rw [xt_nil] at ht; exact absurd ht (by simp)
    have hb := tok_bounds h0
    rw [xt_cons h0] at ht
    rcases List.mem_cons.1 ht with rfl | ht
    · refine ⟨?_, h1, h8, l.drop (tok l).2, ?_⟩
      · intro e
        have := congrArg List.length e
        simp only [List.length_take, List.length_nil] at this; omega
      · simp only
        rw [List.take_append_drop, List.length_take, Nat.min_eq_left hb.2.2.2]
    · exact ih _ (by rw [List.length_drop]; omega) t ht h1 h8
theorem nsp_tok {t : Tok} (h : Gd t) {r : List UInt8} (hr : Ok r) (h2 : t.1 = 2 → ∃ u, r = 10 :: u) : nsp (t.2 ++ r) = t :: nsp r := by
  obtain ⟨r0, h0⟩ := h.ex
  exact nsp_tk h.ne (tok_again h.ne h0 h.k8 h.k1 hr h2) h.k1
theorem nsp_br {t : Tok} (h : Gd t) (hb : t.2 = [40] ∨ t.2 = [91] ∨ t.2 = [46]) (r : List UInt8) : nsp (t.2 ++ r) = t :: nsp r := by
  obtain ⟨r0, h0⟩ := h.ex
  obtain ⟨b, hb1, hb2⟩ : ∃ b : UInt8, t.2 = [b] ∧ (b = 40 ∨ b = 91 ∨ b = 46) := by
    rcases hb with e | e | e
    · exact ⟨_, e, .inl rfl⟩
    · exact ⟨_, e, .inr (.inl rfl)⟩
    · exact ⟨_, e, .inr (.inr rfl)⟩
  have hl := congrArg List.length hb1
  have e0 : tok (t.2 ++ r0) = (7, 1) := by rw [hb1]; exact tok_bracket hb2 r0
  rw [e0] at h0
  have k7 : 7 = t.1 := congrArg Prod.fst h0
  refine nsp_tk h.ne ?_ h.k1
  rw [← k7, hl, hb1]
  exact tok_bracket hb2 r
theorem ok10 (r : List UInt8) : Ok (10 :: r) := .inr ⟨10, r, rfl, .inl rfl⟩
theorem ok32 (r : List UInt8) : Ok (32 :: r) := .inr ⟨32, r, rfl, .inr (.inl rfl)⟩
end X
end Go.Proofs.YtohpfegpnbdfnaaGreatDoor
/- Plain mathematics: the layout of a tree. -/
namespace Go.Proofs.YtohpfegpnbdfnaaGreatDoor
namespace X
open M
/-- A quiet leaf. -/
def quietP : Part → Bool
  | .leaf k _ => k == 1 || k == 2
  | _ => false
/-- The parts that are no spaces and no remarks. -/
def pts (ps : List Part) : List Part := ps.filter (fun p => !quietP p)
theorem pts_append (a b : List Part) : pts (a ++ b) = pts a ++ pts b := List.filter_append ..
/-- A leaf of a flat text: its token; whether it begins a group. -/
abbrev Lf := Tok × Bool
mutual
/-- The leaves of a part that are no spaces and no remarks; g: whether it stands in a group. -/
def fl (g : Bool) : Part → List Lf
  | .leaf k x => if k = 1 ∨ k = 2 then [] else [((k, x), g && x == [40])]
  | .miss _ => []
  | .br k ps => fls (k == 14) ps
def fls (g : Bool) : List Part → List Lf
  | [] => []
  | p :: ps => fl g p ++ fls g ps
end
theorem fls_append (g : Bool) (l r : List Part) : fls g (l ++ r) = fls g l ++ fls g r := by
  induction l with
  | nil => rfl
  | cons p l ih => rw [List.cons_append, fls, ih, fls, List.append_assoc]
/-- Two that have no blank between them. -/
def tight (b a : Lf) : Bool := b.1.2 == [40] || b.1.2 == [91] || b.1.2 == [46] || a.1.2 == [46] || a.1.2 == [41] || a.1.2 == [93] || a.1.2 == [44] || a.1.2 == [59] || (a.1.2 == [40] && !a.2)
/-- Leaves in one line. -/
def flt : List Lf → List UInt8
  | [] => []
  | [a] => a.1.2
  | b :: a :: l => b.1.2 ++ ((if tight b a then [] else [32]) ++ flt (a :: l))
/-- Parts in one line. -/
def flat (ps : List Part) : List UInt8 := flt (fls false ps)
/-- How many characters a text has. -/
def chars (t : List UInt8) : Nat := if _h : t = [] then 0 else 1 + chars (nx t)
termination_by t.length
decreasing_by exact nx_lt _h
/-- A line. -/
def line (n : Nat) (s : List UInt8) : List UInt8 := List.replicate n 32 ++ (s ++ [10])
/-- `else`. -/
def sElse : List UInt8 := [101, 108, 115, 101]
def kidsOf : Part → List Part
  | .br _ ps => ps
  | _ => []
def kindOf : Part → Nat
  | .leaf _ _ => 0
  | .miss _ => 1
  | .br k _ => k
def textOf : Part → List UInt8
  | .leaf _ x => x
  | .miss m => m
  | .br _ _ => []
/-- Parts with signs between them and behind the last one, each in lines of its own. -/
def many (E : Part → List UInt8 → List UInt8) : List Part → List UInt8
  | [] => []
  | [_] => []
  | [p, _] => E p []
  | p :: _ :: q :: l => E p [44] ++ many E (q :: l)
def nil1 : Part := .miss []
/-- The lines of what stands in brackets. -/
def bracket (E : Part → List UInt8 → List UInt8) (n : Nat) (whole first : List UInt8) (l : List Part) (e : List UInt8) : List UInt8 :=
  if l.length = 2 then whole else line n first ++ (many E (l.drop 1) ++ line n (textOf (l.getD (l.length - 1) nil1) ++ e))
/-- The lines of an expression, with so many levels. -/
def ex : Nat → Nat → Part → List UInt8 → List UInt8
  | 0, n, x, e => line n (flat [x] ++ e)
  | f + 1, n, x, e =>
    if n + chars (flat [x]) + 1 ≤ 80 then line n (flat [x] ++ e)
    else if kindOf x = 7 then line n (flat ((pts (kidsOf x)).take 5)) ++ ex f n ((pts (kidsOf x)).getD 5 nil1) e
    else if kindOf x = 8 then line n (flat ((pts (kidsOf x)).take 3)) ++ (ex f (n + 2) ((pts (kidsOf x)).getD 3 nil1) [] ++ (line n sElse ++ ex f (n + 2) ((pts (kidsOf x)).getD 5 nil1) e))
    else if kindOf x = 9 then line n (flat ((pts (kidsOf x)).take 3)) ++ ex f (n + 2) ((pts (kidsOf x)).getD 3 nil1) e
    else if kindOf x = 10 then ex f n ((pts (kidsOf x)).getD 0 nil1) [] ++ (line n (textOf ((pts (kidsOf x)).getD 1 nil1)) ++ ex f (n + 2) ((pts (kidsOf x)).getD 2 nil1) e)
    else if kindOf x = 11 then bracket (ex f (n + 2)) n (line n (flat [x] ++ e)) (flat [(pts (kidsOf x)).getD 0 nil1] ++ [40]) (pts (kidsOf ((pts (kidsOf x)).getD 1 nil1))) e
    else if kindOf x = 13 then bracket (ex f (n + 2)) n (line n (flat [x] ++ e)) [91] (pts (kidsOf x)) e
    else if kindOf x = 14 then bracket (ex f (n + 2)) n (line n (flat [x] ++ e)) [40] (pts (kidsOf x)) e
    else line n (flat [x] ++ e)
/-- The tokens of a part that are no spaces and no remarks. -/
def lou (t : Tok) : Bool := !(t.1 == 1 || t.1 == 2)
def nt (p : Part) : List Tok := (pl p).filter lou
def nts' (ps : List Part) : List Tok := (pls ps).filter lou
theorem nts_append (l r : List Part) : nts' (l ++ r) = nts' l ++ nts' r := by unfold nts'; rw [pls_append, List.filter_append]
theorem nts_one (p : Part) : nts' [p] = nt p := by unfold nts' nt; rw [pls, pls, List.append_nil]
theorem nts_cons (p : Part) (ps : List Part) : nts' (p :: ps) = nt p ++ nts' ps := by rw [← nts_one, ← nts_append]; rfl
theorem nts_nil : nts' [] = [] := rfl
mutual
theorem fl_fst (g : Bool) : ∀ p : Part, (fl g p).map (·.1) = nt p
  | .leaf k x => by
    unfold fl nt
    rw [pl]
    by_cases h : k = 1 ∨ k = 2
    · rw [if_pos h, List.filter_cons_of_neg (by simp [lou]; omega)]; rfl
    · rw [if_neg h, List.filter_cons_of_pos (by simp [lou]; omega)]; rfl
  | .miss _ => by unfold fl nt; rw [pl]; rfl
  | .br k ps => by
    have := fls_fst (k == 14) ps
    unfold fl nt; rw [pl]; exact this
theorem fls_fst (g : Bool) : ∀ ps : List Part, (fls g ps).map (·.1) = nts' ps
  | [] => rfl
  | p :: ps => by rw [fls, List.map_append, fl_fst g p, fls_fst g ps, nts_cons]
end
/-- What begins a flat text. -/
theorem flt_head (a : Lf) (l : List Lf) : ∃ s, flt (a :: l) = a.1.2 ++ s := by
  cases l with
  | nil => exact ⟨[], by rw [flt, List.append_nil]⟩
  | cons b l => exact ⟨_, rfl⟩
theorem ok_of {x s : List UInt8} (h : x = [46] ∨ x = [41] ∨ x = [93] ∨ x = [44] ∨ x = [59] ∨ x = [40]) : Ok (x ++ s) := by
  rcases h with rfl | rfl | rfl | rfl | rfl | rfl
  · exact .inr ⟨46, s, rfl, by decide⟩
  · exact .inr ⟨41, s, rfl, by decide⟩
  · exact .inr ⟨93, s, rfl, by decide⟩
  · exact .inr ⟨44, s, rfl, by decide⟩
  · exact .inr ⟨59, s, rfl, by decide⟩
  · exact .inr ⟨40, s, rfl, by decide⟩
/-- Flat texts are read as what they are made of. -/
theorem flt_nsp : ∀ (l : List Lf), (∀ a ∈ l, Gd a.1 ∧ a.1.1 ≠ 2) → ∀ r, Ok r → nsp (flt l ++ r) = l.map (·.1) ++ nsp r
  | [], _, r, _ => rfl
  | [a], h, r, hr => by
    have ha := h a (by simp)
    rw [flt, nsp_tok ha.1 hr (fun e => absurd e ha.2)]; rfl
  | b :: a :: l, h, r, hr => by
    have hb := h b (by simp)
    have ih := flt_nsp (a :: l) (fun c hc => h c (List.mem_cons_of_mem _ hc)) r hr
    rw [flt, List.append_assoc, List.append_assoc]
    cases ht : tight b a with
    | false =>
      rw [if_neg (by simp), List.singleton_append, nsp_tok hb.1 (ok32 _) (fun e => absurd e hb.2), nsp_sp1 (.inl rfl), ih]; rfl
    | true =>
      rw [if_pos rfl, List.nil_append]
      have hc : (b.1.2 = [40] ∨ b.1.2 = [91] ∨ b.1.2 = [46]) ∨ (a.1.2 = [46] ∨ a.1.2 = [41] ∨ a.1.2 = [93] ∨ a.1.2 = [44] ∨ a.1.2 = [59] ∨ a.1.2 = [40]) := by
        unfold tight at ht
        simp only [Bool.or_eq_true, beq_iff_eq, Bool.and_eq_true] at ht
        rcases ht with ((((((((e | e) | e) | e) | e) | e) | e) | e) | e)
        · exact .inl (.inl e)
        · exact .inl (.inr (.inl e))
        · exact .inl (.inr (.inr e))
        · exact .inr (.inl e)
        · exact .inr (.inr (.inl e))
        · exact .inr (.inr (.inr (.inl e)))
        · exact .inr (.inr (.inr (.inr (.inl e))))
        · exact .inr (.inr (.inr (.inr (.inr (.inl e)))))
        · exact .inr (.inr (.inr (.inr (.inr (.inr e.1)))))
      rcases hc with hc | hc
      · rw [nsp_br hb.1 hc, ih]; rfl
      · obtain ⟨s, hs⟩ := flt_head a l
        rw [nsp_tok hb.1 (by rw [hs, List.append_assoc]; exact ok_of hc) (fun e => absurd e hb.2), ih]; rfl
/-- Tokens that were read somewhere. -/
def Gds (ts : List Tok) : Prop := ∀ t ∈ ts, Gd t
theorem flat_nsp {ps : List Part} (h : Gds (nts' ps)) {r : List UInt8} (hr : Ok r) : nsp (flat ps ++ r) = nts' ps ++ nsp r := by
  unfold flat
  rw [flt_nsp _ (fun a ha => ?_) r hr, fls_fst]
  have : a.1 ∈ nts' ps := by rw [← fls_fst false]; exact List.mem_map.2 ⟨a, ha, rfl⟩
  refine ⟨h _ this, fun e => ?_⟩
  have := (List.mem_filter.1 this).2
  simp [lou, e] at this
/-- The tokens of what ends a line. -/
def et (e : List UInt8) : List Tok := if e = [] then [] else [(7, e)]
def Ends (e : List UInt8) : Prop := e = [] ∨ e = [59] ∨ e = [44]
theorem gd_one {b : UInt8} (hb : b = 59 ∨ b = 44 ∨ b = 40 ∨ b = 91) : Gd (7, [b]) := by
  refine ⟨by simp, by simp, by simp, [], ?_⟩
  obtain ⟨g1, g2, g3⟩ := cc_byte (b := b) (u := []) (by rcases hb with rfl | rfl | rfl | rfl <;> decide)
  unfold tok
  rw [List.append_nil, g1, g2, g3, cc_nil]
  rcases hb with rfl | rfl | rfl | rfl <;> simp [isSp, isLt, isDg, isPr, isSg]
theorem ends_nsp {e : List UInt8} (he : Ends e) (r : List UInt8) : nsp (e ++ 10 :: r) = et e ++ nsp r := by
  rcases he with rfl | rfl | rfl
  · rw [List.nil_append, nsp_sp1 (.inr rfl)]; rfl
  · rw [show ([59] : List UInt8) ++ 10 :: r = (7, [59]).2 ++ 10 :: r from rfl, nsp_tok (gd_one (.inl rfl)) (ok10 _) (fun e => absurd e (by decide)), nsp_sp1 (.inr rfl)]; rfl
  · rw [show ([44] : List UInt8) ++ 10 :: r = (7, [44]).2 ++ 10 :: r from rfl, nsp_tok (gd_one (.inr (.inl rfl))) (ok10 _) (fun e => absurd e (by decide)), nsp_sp1 (.inr rfl)]; rfl
theorem ends_ok {e : List UInt8} (he : Ends e) (r : List UInt8) : Ok (e ++ 10 :: r) := by
  rcases he with rfl | rfl | rfl
  · exact ok10 r
  · exact ok_of (.inr (.inr (.inr (.inr (.inl rfl)))))
  · exact ok_of (.inr (.inr (.inr (.inl rfl))))
/-- A line of parts. -/
theorem line_nsp {n : Nat} {ps : List Part} (h : Gds (nts' ps)) {e : List UInt8} (he : Ends e) (r : List UInt8) : nsp (line n (flat ps ++ e) ++ r) = nts' ps ++ (et e ++ nsp r) := by
  unfold line
  rw [List.append_assoc, nsp_sp _ _ (fun b hb => .inl (List.mem_replicate.1 hb).2), List.append_assoc, List.append_assoc, List.singleton_append, flat_nsp h (ends_ok he r), ends_nsp he]
/-- A line of a token. -/
theorem line_tok {n : Nat} {t : Tok} (h : Gd t) (h2 : t.1 ≠ 2) {e : List UInt8} (he : Ends e) (r : List UInt8) : nsp (line n (t.2 ++ e) ++ r) = t :: (et e ++ nsp r) := by
  unfold line
  rw [List.append_assoc, nsp_sp _ _ (fun b hb => .inl (List.mem_replicate.1 hb).2), List.append_assoc, List.append_assoc, List.singleton_append, nsp_tok h (ends_ok he r) (fun e => absurd e h2), ends_nsp he]
end X
end Go.Proofs.YtohpfegpnbdfnaaGreatDoor
/- Plain mathematics: the lines of an expression are read as what it is made of. -/
namespace Go.Proofs.YtohpfegpnbdfnaaGreatDoor
namespace X
open M
mutual
/-- An expression in which nothing is missing: what its parts are. -/
inductive Sh : Part → Prop
  | tok (k : Nat) (t : Tok) (ps : List Part) (hk : 15 ≤ k ∧ k ≤ 19) (h : pts ps = [lf t]) : Sh (.br k ps)
  | lett (ps : List Part) (a b c d : Tok) (p q : Part) (h : pts ps = [lf a, lf b, lf c, p, lf d, q]) (hp : Sh p) (hq : Sh q) : Sh (.br 7 ps)
  | ite (ps : List Part) (a b c : Tok) (p q s : Part) (h : pts ps = [lf a, p, lf b, q, lf c, s]) (hc : c.2 = sElse) (hp : Sh p) (hq : Sh q) (hs : Sh s) : Sh (.br 8 ps)
  | fn (ps : List Part) (a b : Tok) (qs : List Part) (p : Part) (h : pts ps = [lf a, .br 6 qs, lf b, p]) (hp : Sh p) : Sh (.br 9 ps)
  | bin (ps : List Part) (p : Part) (a : Tok) (q : Part) (h : pts ps = [p, lf a, q]) (hp : Sh p) (hq : Sh q) : Sh (.br 10 ps)
  | call (ps : List Part) (p : Part) (qs : List Part) (h : pts ps = [p, .br 12 qs]) (hp : Sh p) (hb : ShB [40] [41] (pts qs)) : Sh (.br 11 ps)
  | list (ps : List Part) (hb : ShB [91] [93] (pts ps)) : Sh (.br 13 ps)
  | group (ps : List Part) (a : Tok) (p : Part) (b : Tok) (h : pts ps = [lf a, p, lf b]) (ha : a.2 = [40]) (hb : b.2 = [41]) (hp : Sh p) : Sh (.br 14 ps)
/-- What stands in brackets. -/
inductive ShB : List UInt8 → List UInt8 → List Part → Prop
  | none (o c : List UInt8) (a b : Tok) (ha : a.2 = o) (hb : b.2 = c) : ShB o c [lf a, lf b]
  | some (o c : List UInt8) (a : Tok) (l : List Part) (ha : a.2 = o) (h : ShA c l) : ShB o c (lf a :: l)
/-- Expressions with signs between them. -/
inductive ShA : List UInt8 → List Part → Prop
  | last (c : List UInt8) (p : Part) (b : Tok) (hp : Sh p) (hb : b.2 = c) : ShA c [p, lf b]
  | more (c : List UInt8) (p : Part) (b : Tok) (q : Part) (l : List Part) (hp : Sh p) (hb : b.2 = [44]) (h : ShA c (q :: l)) : ShA c (p :: lf b :: q :: l)
end
theorem nt_lf (t : Tok) : nt (lf t) = if lou t then [t] else [] := by
  unfold nt lf
  rw [pl]
  show List.filter lou [t] = _
  cases h : lou t with
  | true => rw [List.filter_cons_of_pos h, if_pos rfl]; rfl
  | false => rw [List.filter_cons_of_neg (by simp [h]), if_neg (by simp)]; rfl
theorem pts_lou {ps : List Part} {t : Tok} (h : lf t ∈ pts ps) : lou t = true := by
  have := (List.mem_filter.1 h).2
  unfold lou
  simpa [quietP, lf] using this
theorem nt_lf' {ps : List Part} {t : Tok} (h : lf t ∈ pts ps) : nt (lf t) = [t] := by rw [nt_lf, if_pos (pts_lou h)]
theorem nts_pts (ps : List Part) : nts' ps = nts' (pts ps) := by
  induction ps with
  | nil => rfl
  | cons p ps ih =>
    unfold pts
    cases hq : quietP p with
    | true =>
      rw [List.filter_cons_of_neg (by simp [hq]), nts_cons, ih]
      cases p with
      | leaf k x =>
        have : nt (.leaf k x) = [] := by
          have e : (.leaf k x : Part) = lf (k, x) := rfl
          rw [e, nt_lf, if_neg]
          unfold lou; unfold quietP at hq; simp only at hq ⊢; rw [hq]; simp
        rw [this]; rfl
      | miss m => cases hq
      | br k qs => cases hq
    | false => rw [List.filter_cons_of_pos (by simp [hq]), nts_cons, nts_cons, ih]; rfl
theorem nt_br (k : Nat) (ps : List Part) : nt (.br k ps) = nts' (pts ps) := by
  rw [← nts_pts]; unfold nt nts'; rw [pl]
theorem Gds.left {a b : List Tok} (h : Gds (a ++ b)) : Gds a := fun t ht => h t (List.mem_append_left _ ht)
theorem Gds.right {a b : List Tok} (h : Gds (a ++ b)) : Gds b := fun t ht => h t (List.mem_append_right _ ht)
/-- A sign that no other one goes on with. -/
theorem tok_one {b : UInt8} (hb : b = 40 ∨ b = 41 ∨ b = 91 ∨ b = 93 ∨ b = 44 ∨ b = 46 ∨ b = 59) (r : List UInt8) : tok (b :: r) = (7, 1) := by
  obtain ⟨g1, g2, g3⟩ := cc_byte (b := b) (u := r) (by rcases hb with rfl | rfl | rfl | rfl | rfl | rfl | rfl <;> decide)
  unfold M.tok
  rw [g1, g2, g3]
  rcases hb with rfl | rfl | rfl | rfl | rfl | rfl | rfl <;> simp [isSp, isLt, isDg, isPr, isSg]
theorem Gd.seven {t : Tok} (h : Gd t) {b : UInt8} (hb : b = 40 ∨ b = 41 ∨ b = 91 ∨ b = 93 ∨ b = 44 ∨ b = 46 ∨ b = 59) (e : t.2 = [b]) : t = (7, [b]) := by
  obtain ⟨r0, h0⟩ := h.ex
  rw [e] at h0
  have : (7, 1) = (t.1, ([b] : List UInt8).length) := (tok_one hb r0).symm.trans h0
  exact Prod.ext (congrArg Prod.fst this).symm e
theorem line_nsp0 {n : Nat} {ps : List Part} (h : Gds (nts' ps)) (r : List UInt8) : nsp (line n (flat ps) ++ r) = nts' ps ++ nsp r := by
  have := line_nsp (n := n) h (e := []) (.inl rfl) r
  rw [List.append_nil] at this
  exact this
theorem line_tok0 {n : Nat} {t : Tok} (h : Gd t) (h2 : t.1 ≠ 2) (r : List UInt8) : nsp (line n t.2 ++ r) = t :: nsp r := by
  have := line_tok (n := n) h h2 (e := []) (.inl rfl) r
  rw [List.append_nil] at this
  exact this
theorem line_open {n : Nat} {ps : List Part} (h : Gds (nts' ps)) (r : List UInt8) : nsp (line n (flat ps ++ [40]) ++ r) = nts' ps ++ ((7, [40]) :: nsp r) := by
  unfold line
  rw [List.append_assoc, nsp_sp _ _ (fun b hb => .inl (List.mem_replicate.1 hb).2), List.append_assoc, List.append_assoc, show ([10] : List UInt8) ++ r = 10 :: r from rfl, flat_nsp h (ok_of (.inr (.inr (.inr (.inr (.inr rfl)))))), show ([40] : List UInt8) ++ 10 :: r = (7, [40]).2 ++ 10 :: r from rfl, nsp_tok (gd_one (.inr (.inr (.inl rfl)))) (ok10 _) (fun e => absurd e (by decide)), nsp_sp1 (.inr rfl)]
/-- What makes lines of expressions that are read as what these are made of. -/
def Rl (E : Part → List UInt8 → List UInt8) (p : Part) : Prop := ∀ e r, Ends e → Gds (nt p) → nsp (E p e ++ r) = nt p ++ (et e ++ nsp r)
theorem lou2 {t : Tok} (h : lou t = true) : t.1 ≠ 2 := fun e => by simp [lou, e] at h
theorem ends_nil : Ends [] := .inl rfl
theorem ends_comma : Ends [44] := .inr (.inr rfl)
theorem ex_whole {n : Nat} {x : Part} {e : List UInt8} (he : Ends e) (h : Gds (nt x)) (r : List UInt8) : nsp (line n (flat [x] ++ e) ++ r) = nt x ++ (et e ++ nsp r) := by
  rw [line_nsp (by rw [nts_one]; exact h) he, nts_one]
/-- All of some expressions with signs between them. -/
inductive AllA (E : Part → List UInt8 → List UInt8) : List Part → Prop
  | last (p : Part) (b : Tok) (hp : Rl E p) (hb : lou b = true) : AllA E [p, lf b]
  | more (p : Part) (b : Tok) (q : Part) (l : List Part) (hp : Rl E p) (hb : lou b = true) (hc : b.2 = [44]) (h : AllA E (q :: l)) : AllA E (p :: lf b :: q :: l)
theorem many_nsp {E : Part → List UInt8 → List UInt8} {l : List Part} (h : AllA E l) (n : Nat) {e : List UInt8} (he : Ends e) (r : List UInt8) : Gds (nts' l) → 2 ≤ l.length ∧ nsp (many E l ++ (line n (textOf (l.getD (l.length - 1) nil1) ++ e) ++ r)) = nts' l ++ (et e ++ nsp r) := by
  induction h with
  | last p b hp hb =>
    intro hg
    rw [nts_cons, nts_cons, nts_nil, List.append_nil, nt_lf, if_pos hb] at hg ⊢
    refine ⟨Nat.le_refl _, ?_⟩
    show nsp (E p [] ++ (line n (b.2 ++ e) ++ r)) = _
    rw [hp [] _ ends_nil hg.left, line_tok (hg.right b (by simp)) (lou2 hb) he]
    simp [et]
  | more p b q l hp hb hc h ih =>
    intro hg
    rw [nts_cons, nts_cons, nt_lf, if_pos hb] at hg
    rw [nts_cons p, nts_cons (lf b), nt_lf, if_pos hb]
    obtain ⟨i1, i2⟩ := ih hg.right.right
    refine ⟨by simp, ?_⟩
    have e1 : (p :: lf b :: q :: l).getD ((p :: lf b :: q :: l).length - 1) nil1 = (q :: l).getD ((q :: l).length - 1) nil1 := by
      simp only [List.length_cons, Nat.add_sub_cancel]
      rw [show l.length + 1 + 1 = (l.length) + 2 from rfl]
      rfl
    rw [e1]
    show nsp ((E p [44] ++ many E (q :: l)) ++ _) = _
    rw [List.append_assoc, hp [44] _ ends_comma hg.left, i2]
    have hb7 := (hg.right.left b (by simp)).seven (b := 44) (by simp) hc
    rw [hb7]
    simp [et]
theorem bracket_nsp {E : Part → List UInt8 → List UInt8} {n : Nat} {whole first : List UInt8} {a : Tok} {l : List Part} {e : List UInt8} (he : Ends e) (ha : lou a = true) (hl : AllA E l) (hg : Gds (nts' (lf a :: l))) {fs : List Tok} (hf : ∀ r, nsp (line n first ++ r) = fs ++ (a :: nsp r)) (r : List UInt8) :
    nsp (bracket E n whole first (lf a :: l) e ++ r) = fs ++ (nts' (lf a :: l) ++ (et e ++ nsp r)) := by
  rw [nts_cons, nt_lf, if_pos ha] at hg ⊢
  obtain ⟨h1, h2⟩ := many_nsp hl n he r hg.right
  unfold bracket
  rw [if_neg (by simp only [List.length_cons]; omega)]
  have e1 : (lf a :: l).getD ((lf a :: l).length - 1) nil1 = l.getD (l.length - 1) nil1 := by
    obtain ⟨m, hm⟩ : ∃ m, l.length = m + 1 := ⟨l.length - 1, by omega⟩
    simp only [List.length_cons, hm, Nat.add_sub_cancel]
    rfl
  rw [e1, List.append_assoc, hf, List.append_assoc]
  show _ ++ (a :: nsp (many E l ++ _)) = _
  rw [h2]
  simp
end X
end Go.Proofs.YtohpfegpnbdfnaaGreatDoor
/- Plain mathematics: the lines of an expression are read as what it is made of: all of them. -/
namespace Go.Proofs.YtohpfegpnbdfnaaGreatDoor
namespace X
open M
theorem mem_pts {ps : List Part} {l : List Part} (h : pts ps = l) {t : Tok} (ht : lf t ∈ l) : lou t = true := pts_lou (ps := ps) (by rw [h]; exact ht)
theorem ShA.all {E : Part → List UInt8 → List UInt8} (hE : ∀ p, Sh p → Rl E p) : ∀ (m : Nat) {c : List UInt8} {l : List Part}, l.length ≤ m → ShA c l → (∀ t : Tok, lf t ∈ l → lou t = true) → AllA E l
  | 0, _, l, hm, ha, _ => by cases ha <;> simp at hm
  | m + 1, _, l, hm, ha, hl => by
    cases ha with
    | last _ p b hp hb => exact .last p b (hE p hp) (hl b (by simp))
    | more _ p b q m' hp hb h => exact .more p b q m' (hE p hp) (hl b (by simp)) hb (ShA.all hE m (by simp at hm ⊢; omega) h (fun t ht => hl t (List.mem_cons_of_mem _ (List.mem_cons_of_mem _ ht))))
theorem ShB.all {E : Part → List UInt8 → List UInt8} (hE : ∀ p, Sh p → Rl E p) {o c : List UInt8} {l : List Part} (hb : ShB o c l) (hl : ∀ t : Tok, lf t ∈ l → lou t = true) : l.length = 2 ∨ ∃ a m, l = lf a :: m ∧ lou a = true ∧ AllA E m ∧ a.2 = o := by
  cases hb with
  | none _ _ a b ha hb => exact .inl rfl
  | some _ _ a m ha h => exact .inr ⟨a, m, rfl, hl a (by simp), ShA.all hE _ (Nat.le_refl _) h (fun t ht => hl t (List.mem_cons_of_mem _ ht)), ha⟩
theorem ex_nsp : ∀ (f : Nat) {p : Part}, Sh p → ∀ n, Rl (ex f n) p := by
  intro f
  induction f with
  | zero => intro p hs n e r he hg; unfold ex; exact ex_whole he hg r
  | succ f ih =>
  intro p hs n e r he hg
  unfold ex
  by_cases hw : n + chars (flat [p]) + 1 ≤ 80
  · rw [if_pos hw]; exact ex_whole he hg r
  rw [if_neg hw]
  cases hs with
  | tok k t ps hk h =>
    have e0 : kindOf (.br k ps) = k := rfl
    rw [e0, if_neg (by omega), if_neg (by omega), if_neg (by omega), if_neg (by omega), if_neg (by omega), if_neg (by omega), if_neg (by omega)]
    exact ex_whole he hg r
  | lett ps a b c d p q h hp hq =>
    rw [show kindOf (.br 7 ps) = 7 from rfl, if_pos rfl]
    have hg' := hg
    rw [nt_br, h] at hg ⊢
    have e1 : kidsOf (.br 7 ps) = ps := rfl
    rw [e1, h]
    have e2 : nts' [lf a, lf b, lf c, p, lf d, q] = nts' [lf a, lf b, lf c, p, lf d] ++ nt q := by rw [← nts_one, ← nts_append]; rfl
    rw [e2] at hg ⊢
    show nsp ((line n (flat [lf a, lf b, lf c, p, lf d]) ++ ex f n q e) ++ r) = _
    rw [List.append_assoc, line_nsp0 hg.left, ih hq n e r he hg.right, List.append_assoc]
  | ite ps a b c p q s h hc hp hq hs =>
    rw [show kindOf (.br 8 ps) = 8 from rfl, if_neg (by decide), if_pos rfl]
    rw [nt_br, h] at hg ⊢
    have e1 : kidsOf (.br 8 ps) = ps := rfl
    rw [e1, h]
    have lc : lou c = true := mem_pts h (by simp)
    have e2 : nts' [lf a, p, lf b, q, lf c, s] = nts' [lf a, p, lf b] ++ (nt q ++ ([c] ++ nt s)) := by
      rw [show [lf a, p, lf b, q, lf c, s] = [lf a, p, lf b] ++ [q, lf c, s] from rfl, nts_append, nts_cons q, nts_cons (lf c), nts_one, nt_lf, if_pos lc]
    rw [e2] at hg ⊢
    show nsp ((line n (flat [lf a, p, lf b]) ++ (ex f (n + 2) q [] ++ (line n sElse ++ ex f (n + 2) s e))) ++ r) = _
    rw [List.append_assoc, line_nsp0 hg.left, List.append_assoc, ih hq (n + 2) [] _ ends_nil hg.right.left, List.append_assoc, ← hc, line_tok0 (hg.right.right.left c (by simp)) (lou2 lc), ih hs (n + 2) e r he hg.right.right.right]
    simp [et]
  | fn ps a b qs p h hp =>
    rw [show kindOf (.br 9 ps) = 9 from rfl, if_neg (by decide), if_neg (by decide), if_pos rfl]
    rw [nt_br, h] at hg ⊢
    have e1 : kidsOf (.br 9 ps) = ps := rfl
    rw [e1, h]
    have e2 : nts' [lf a, .br 6 qs, lf b, p] = nts' [lf a, .br 6 qs, lf b] ++ nt p := by rw [← nts_one, ← nts_append]; rfl
    rw [e2] at hg ⊢
    show nsp ((line n (flat [lf a, .br 6 qs, lf b]) ++ ex f (n + 2) p e) ++ r) = _
    rw [List.append_assoc, line_nsp0 hg.left, ih hp (n + 2) e r he hg.right, List.append_assoc]
  | bin ps p a q h hp hq =>
    rw [show kindOf (.br 10 ps) = 10 from rfl, if_neg (by decide), if_neg (by decide), if_neg (by decide), if_pos rfl]
    rw [nt_br, h] at hg ⊢
    have e1 : kidsOf (.br 10 ps) = ps := rfl
    rw [e1, h]
    have la : lou a = true := mem_pts h (by simp)
    have e2 : nts' [p, lf a, q] = nt p ++ ([a] ++ nt q) := by rw [nts_cons, nts_cons, nts_one, nt_lf, if_pos la]
    rw [e2] at hg ⊢
    show nsp ((ex f n p [] ++ (line n a.2 ++ ex f (n + 2) q e)) ++ r) = _
    rw [List.append_assoc, ih hp n [] _ ends_nil hg.left, List.append_assoc, line_tok0 (hg.right.left a (by simp)) (lou2 la), ih hq (n + 2) e r he hg.right.right]
    simp [et]
  | call ps p qs h hp hb =>
    rw [show kindOf (.br 11 ps) = 11 from rfl, if_neg (by decide), if_neg (by decide), if_neg (by decide), if_neg (by decide), if_pos rfl]
    have hg' := hg
    rw [nt_br, h] at hg
    have e1 : kidsOf (.br 11 ps) = ps := rfl
    rw [e1, h]
    have e2 : nts' [p, .br 12 qs] = nt p ++ nts' (pts qs) := by rw [nts_cons, nts_one, nt_br]
    rw [e2] at hg
    show nsp (bracket (ex f (n + 2)) n (line n (flat [.br 11 ps] ++ e)) (flat [p] ++ [40]) (pts qs) e ++ r) = _
    rcases ShB.all (fun p hp => ih hp (n + 2)) hb (fun t ht => pts_lou ht) with h2 | ⟨a, l, h2, h3, h4, h5⟩
    · unfold bracket
      rw [if_pos h2]; exact ex_whole he hg' r
    · rw [h2] at hg ⊢
      have h6 := hg.right
      rw [nts_cons, nt_lf, if_pos h3] at h6
      have ha7 := (h6.left a (by simp)).seven (b := 40) (by simp) h5
      rw [bracket_nsp he h3 h4 hg.right (fs := nt p) (fun r => by rw [line_open (by rw [nts_one]; exact hg.left), nts_one, ← ha7]), nt_br, h, e2, h2, List.append_assoc]
  | list ps hb =>
    rw [show kindOf (.br 13 ps) = 13 from rfl, if_neg (by decide), if_neg (by decide), if_neg (by decide), if_neg (by decide), if_neg (by decide), if_pos rfl]
    have hg' := hg
    rw [nt_br] at hg
    show nsp (bracket (ex f (n + 2)) n (line n (flat [.br 13 ps] ++ e)) [91] (pts ps) e ++ r) = _
    rcases ShB.all (fun p hp => ih hp (n + 2)) hb (fun t ht => pts_lou ht) with h2 | ⟨a, l, h2, h3, h4, h5⟩
    · unfold bracket
      rw [if_pos h2]; exact ex_whole he hg' r
    · rw [h2] at hg ⊢
      have h6 := hg
      rw [nts_cons, nt_lf, if_pos h3] at h6
      rw [bracket_nsp he h3 h4 hg (fs := []) (fun r => by rw [← h5]; exact line_tok0 (h6.left a (by simp)) (lou2 h3) r), nt_br, h2]; rfl
  | group ps a p b h ha hb hp =>
    rw [show kindOf (.br 14 ps) = 14 from rfl, if_neg (by decide), if_neg (by decide), if_neg (by decide), if_neg (by decide), if_neg (by decide), if_neg (by decide), if_pos rfl]
    rw [nt_br, h] at hg ⊢
    show nsp (bracket (ex f (n + 2)) n (line n (flat [.br 14 ps] ++ e)) [40] (pts ps) e ++ r) = _
    have la : lou a = true := mem_pts h (by simp)
    have lb : lou b = true := mem_pts h (by simp)
    rw [h]
    have h6 := hg
    rw [nts_cons, nt_lf, if_pos la] at h6
    rw [bracket_nsp he la (.last p b (ih hp (n + 2)) lb) hg (fs := []) (fun r => by rw [← ha]; exact line_tok0 (h6.left a (by simp)) (lou2 la) r)]; rfl
end X
end Go.Proofs.YtohpfegpnbdfnaaGreatDoor
/- Plain mathematics: a flat text token by token, and lines that are pieces of it. -/
namespace Go.Proofs.YtohpfegpnbdfnaaGreatDoor
open M
namespace X
/-- What stands between two leaves. -/
def sep (b a : Lf) : List UInt8 := if tight b a then [] else [32]
/-- What stands ahead of a leaf that comes behind some. -/
def gap (L : List Lf) (a : Lf) : List UInt8 := match L.getLast? with
  | none => []
  | some b => sep b a
theorem gap_cons (b c : Lf) (l : List Lf) (a : Lf) : gap (b :: c :: l) a = gap (c :: l) a := by unfold gap; rw [List.getLast?_cons_cons]
theorem gap_nil (a : Lf) : gap [] a = [] := rfl
theorem gap_len (L : List Lf) (a : Lf) : (gap L a).length ≤ 1 := by
  unfold gap
  cases L.getLast? with
  | none => simp
  | some b => show (sep b a).length ≤ 1; unfold sep; split <;> simp
/-- Two rows of leaves, one behind the other. -/
theorem flt_app : ∀ (A : List Lf) (m : Lf) (M : List Lf), flt (A ++ m :: M) = flt A ++ (gap A m ++ flt (m :: M))
  | [], m, M => rfl
  | [b], m, M => rfl
  | b :: c :: A, m, M => by
    have ih := flt_app (c :: A) m M
    rw [gap_cons]
    show b.1.2 ++ ((if tight b c then [] else [32]) ++ flt (c :: (A ++ m :: M))) = (b.1.2 ++ ((if tight b c then [] else [32]) ++ flt (c :: A))) ++ _
    rw [show c :: (A ++ m :: M) = (c :: A) ++ m :: M from rfl, ih, List.append_assoc, List.append_assoc]
theorem flt_one (a : Lf) : flt [a] = a.1.2 := rfl
theorem flt_snoc (A : List Lf) (a : Lf) : flt (A ++ [a]) = flt A ++ (gap A a ++ a.1.2) := flt_app A a []
theorem flt_pre (A B : List Lf) : ∃ r, flt (A ++ B) = flt A ++ r := by
  cases B with
  | nil => exact ⟨[], by rw [List.append_nil, List.append_nil]⟩
  | cons m M => exact ⟨_, flt_app A m M⟩
/-- Where the leaves stand in the flat text, behind some. -/
def extsF (pre : List Lf) : List Lf → List (Nat × Nat)
  | [] => []
  | a :: l => ((flt pre).length + (gap pre a).length, (flt (pre ++ [a])).length) :: extsF (pre ++ [a]) l
def exts (L : List Lf) : List (Nat × Nat) := extsF [] L
theorem extsF_append : ∀ (A B pre : List Lf), extsF pre (A ++ B) = extsF pre A ++ extsF (pre ++ A) B
  | [], B, pre => by rw [List.append_nil]; rfl
  | a :: A, B, pre => by
    rw [List.cons_append, extsF, extsF_append A B (pre ++ [a]), extsF, List.append_assoc]; rfl
theorem extsF_len : ∀ (A pre : List Lf), (extsF pre A).length = A.length
  | [], pre => rfl
  | a :: A, pre => by rw [extsF, List.length_cons, extsF_len A, List.length_cons]
theorem exts_len (L : List Lf) : (exts L).length = L.length := extsF_len L []
theorem exts_snoc (L : List Lf) (a : Lf) : exts (L ++ [a]) = exts L ++ [((flt L).length + (gap L a).length, (flt (L ++ [a])).length)] := by
  unfold exts
  rw [extsF_append]; rfl
theorem exts_at (A : List Lf) (a : Lf) (B : List Lf) : (exts (A ++ a :: B))[A.length]? = some ((flt A).length + (gap A a).length, (flt (A ++ [a])).length) := by
  unfold exts
  rw [extsF_append, List.getElem?_append_right (by rw [extsF_len]; exact Nat.le_refl _), extsF_len, Nat.sub_self]; rfl
/-- Some leaves stand at a place. -/
def Ats (L : List Lf) (i : Nat) (M : List Lf) : Prop := ∃ A B, L = A ++ (M ++ B) ∧ A.length = i
theorem Ats.left {L : List Lf} {i : Nat} {M N : List Lf} (h : Ats L i (M ++ N)) : Ats L i M := by
  obtain ⟨A, B, e, h⟩ := h
  exact ⟨A, N ++ B, by rw [e, List.append_assoc], h⟩
theorem Ats.right {L : List Lf} {i : Nat} {M N : List Lf} (h : Ats L i (M ++ N)) : Ats L (i + M.length) N := by
  obtain ⟨A, B, e, h⟩ := h
  exact ⟨A ++ M, B, by rw [e, List.append_assoc, List.append_assoc], by rw [List.length_append, h]⟩
theorem Ats.le {L : List Lf} {i : Nat} {M : List Lf} (h : Ats L i M) : i + M.length ≤ L.length := by
  obtain ⟨A, B, e, h⟩ := h
  rw [e, List.length_append, List.length_append]; omega
theorem Ats.seg {L : List Lf} {i : Nat} {M : List Lf} (h : Ats L i M) : (L.take (i + M.length)).drop i = M := by
  obtain ⟨A, B, e, rfl⟩ := h
  rw [e, ← List.append_assoc, List.take_left' (by rw [List.length_append]), List.drop_left' rfl]
theorem Ats.all (L : List Lf) : Ats L 0 L := ⟨[], [], by simp, rfl⟩
theorem Ats.next {L : List Lf} {i : Nat} {M : List Lf} (h : Ats L i M) {a : Lf} (ha : L[i + M.length]? = some a) : Ats L i (M ++ [a]) := by
  obtain ⟨A, B, e, rfl⟩ := h
  rw [e, ← List.append_assoc, List.getElem?_append_right (by rw [List.length_append]; exact Nat.le_refl _), List.length_append, Nat.sub_self] at ha
  cases B with
  | nil => cases ha
  | cons b B =>
    obtain rfl : b = a := by simpa using ha
    exact ⟨A, B, by rw [e]; simp, rfl⟩
theorem Ats.get {L : List Lf} {i : Nat} {a : Lf} {M : List Lf} (h : Ats L i (a :: M)) : L[i]? = some a := by
  obtain ⟨A, B, e, rfl⟩ := h
  rw [e, List.getElem?_append_right (Nat.le_refl _), Nat.sub_self]; rfl
/-- The flat text of some leaves is a piece of that of all. -/
theorem piece_at {L : List Lf} {i : Nat} {M : List Lf} (h : Ats L i M) (hM : M ≠ []) : ∃ a b c d, (exts L)[i]? = some (a, b) ∧ (exts L)[i + M.length - 1]? = some (c, d) ∧ a ≤ d ∧ d ≤ (flt L).length ∧ ((flt L).take d).drop a = flt M ∧ a + (flt M).length = d := by
  obtain ⟨A, B, e, rfl⟩ := h
  subst e
  cases M with
  | nil => exact absurd rfl hM
  | cons m M =>
    have h1 := exts_at A m (M ++ B)
    obtain ⟨N, z, hz⟩ : ∃ N z, m :: M = N ++ [z] := ⟨(m :: M).dropLast, (m :: M).getLast (by simp), (List.dropLast_concat_getLast (by simp)).symm⟩
    have hl : (m :: M).length = N.length + 1 := by rw [hz, List.length_append, List.length_singleton]
    have h2 := exts_at (A ++ N) z B
    have e1 : (A ++ N) ++ z :: B = A ++ (m :: M ++ B) := by rw [hz]; simp
    have e2 : (A ++ N) ++ [z] = A ++ m :: M := by rw [hz]; simp
    rw [e1, e2, List.length_append] at h2
    have e3 : A ++ m :: (M ++ B) = A ++ (m :: M ++ B) := rfl
    rw [e3] at h1
    have e4 := flt_app A m M
    obtain ⟨r, hr⟩ := flt_pre (A ++ m :: M) B
    rw [List.append_assoc] at hr
    refine ⟨_, _, _, _, h1, by rw [hl]; exact h2, ?_, ?_, ?_, ?_⟩
    · rw [e4, List.length_append, List.length_append]; omega
    · rw [hr, List.length_append]; omega
    · rw [hr, List.take_left' rfl, e4, ← List.append_assoc, List.drop_left' (by rw [List.length_append])]
    · rw [e4, List.length_append, List.length_append]; omega
/-- A line: by how much it is indented, from which leaf to ahead of which one. -/
abbrev Lne := Nat × Nat × Nat
def rend (L : List Lf) (l : Lne) : List UInt8 := line l.1 (flt ((L.take l.2.2).drop l.2.1))
def rends (L : List Lf) (ls : List Lne) : List UInt8 := ls.flatMap (rend L)
theorem rends_append (L : List Lf) (a b : List Lne) : rends L (a ++ b) = rends L a ++ rends L b := List.flatMap_append ..
theorem rends_one (L : List Lf) (l : Lne) : rends L [l] = rend L l := by unfold rends; rw [List.flatMap_cons, List.flatMap_nil, List.append_nil]
theorem rend_at {L : List Lf} {i : Nat} {M : List Lf} (h : Ats L i M) {n j : Nat} (hj : j = i + M.length) : rend L (n, i, j) = line n (flt M) := by
  unfold rend
  rw [hj]
  show line n (flt ((L.take (i + M.length)).drop i)) = _
  rw [h.seg]
/-- One more leaf in the last line. -/
def cl : List Lne → List Lne
  | [] => []
  | [l] => [(l.1, l.2.1, l.2.2 + 1)]
  | l :: m :: ls => l :: cl (m :: ls)
theorem cl_append : ∀ (a b : List Lne), b ≠ [] → cl (a ++ b) = a ++ cl b
  | [], b, _ => rfl
  | [x], b, h => by
    cases b with
    | nil => exact absurd rfl h
    | cons y b => rfl
  | x :: y :: a, b, h => by
    have := cl_append (y :: a) b h
    show x :: cl ((y :: a) ++ b) = _
    rw [this]; rfl
theorem cl_len : ∀ ls : List Lne, (cl ls).length = ls.length
  | [] => rfl
  | [_] => rfl
  | l :: m :: ls => by show (cl (m :: ls)).length + 1 = _; rw [cl_len (m :: ls)]; rfl
theorem cl_last (ls : List Lne) (n a b : Nat) : cl (ls ++ [(n, a, b)]) = ls ++ [(n, a, b + 1)] := cl_append ls _ (by simp)
/-- A sign that has no blank ahead of it. -/
theorem tight_end {b a : Lf} (h : a.1.2 = [44] ∨ a.1.2 = [59] ∨ a.1.2 = [41] ∨ a.1.2 = [93]) : tight b a = true := by
  unfold tight
  rcases h with h | h | h | h <;> simp [h]
theorem flt_end {A : List Lf} {a : Lf} (h : a.1.2 = [44] ∨ a.1.2 = [59] ∨ a.1.2 = [41] ∨ a.1.2 = [93]) : flt (A ++ [a]) = flt A ++ a.1.2 := by
  rw [flt_snoc]
  have : gap A a = [] := by
    unfold gap
    cases A.getLast? with
    | none => rfl
    | some b => show sep b a = []; unfold sep; rw [if_pos (tight_end h)]
  rw [this]; rfl
end X
end Go.Proofs.YtohpfegpnbdfnaaGreatDoor
/- Plain mathematics: lines that lay out some leaves, one behind the other. -/
namespace Go.Proofs.YtohpfegpnbdfnaaGreatDoor
open M
namespace X
/-- Lines of some leaves that tell a text. -/
structure RG (L : List Lf) (i k : Nat) (ls : List Lne) (T : List UInt8) : Prop where
  len : ls.length ≤ k
  inr : ∀ l ∈ ls, l.1 ≤ 522 ∧ l.2.1 < l.2.2 ∧ l.2.2 ≤ i + k
  one : rends L ls = T
/-- Lines of some leaves to whose end a sign can be put. -/
structure SG (L : List Lf) (i k : Nat) (ls : List Lne) (F : List UInt8 → List UInt8) : Prop where
  ne : ls ≠ []
  rg : RG L i k ls (F [])
  cls : ∀ a : Lf, L[i + k]? = some a → (a.1.2 = [44] ∨ a.1.2 = [59]) → rends L (cl ls) = F a.1.2
theorem RG.nil (L : List Lf) (i : Nat) : RG L i 0 [] [] := ⟨Nat.le_refl _, fun _ h => by simp at h, rfl⟩
theorem RG.app {L : List Lf} {i k1 k2 : Nat} {l1 l2 : List Lne} {T1 T2 : List UInt8} (h1 : RG L i k1 l1 T1) (h2 : RG L (i + k1) k2 l2 T2) : RG L i (k1 + k2) (l1 ++ l2) (T1 ++ T2) := by
  refine ⟨by rw [List.length_append]; have := h1.len; have := h2.len; omega, fun l hl => ?_, by rw [rends_append, h1.one, h2.one]⟩
  rcases List.mem_append.1 hl with h | h
  · have := h1.inr l h; omega
  · have := h2.inr l h; omega
theorem RG.then {L : List Lf} {i k1 k2 : Nat} {l1 l2 : List Lne} {T : List UInt8} {F : List UInt8 → List UInt8} (h1 : RG L i k1 l1 T) (h2 : SG L (i + k1) k2 l2 F) : SG L i (k1 + k2) (l1 ++ l2) (fun e => T ++ F e) := by
  refine ⟨fun e => h2.ne (List.append_eq_nil_iff.1 e).2, h1.app h2.rg, fun a ha hc => ?_⟩
  rw [cl_append _ _ h2.ne, rends_append, h1.one, h2.cls a (by rw [Nat.add_assoc]; exact ha) hc]
theorem cl_mem : ∀ (ls : List Lne), ∀ l ∈ cl ls, l ∈ ls ∨ ∃ m ∈ ls, l = (m.1, m.2.1, m.2.2 + 1)
  | [], l, h => by simp [cl] at h
  | [m], l, h => by
    have : l = (m.1, m.2.1, m.2.2 + 1) := by simpa [cl] using h
    exact .inr ⟨m, by simp, this⟩
  | a :: m :: ls, l, h => by
    have h' : l = a ∨ l ∈ cl (m :: ls) := by simpa [cl] using h
    rcases h' with rfl | h'
    · exact .inl (by simp)
    · rcases cl_mem (m :: ls) l h' with g | ⟨x, hx, e⟩
      · exact .inl (List.mem_cons_of_mem _ g)
      · exact .inr ⟨x, List.mem_cons_of_mem _ hx, e⟩
theorem SG.close {L : List Lf} {i k : Nat} {ls : List Lne} {F : List UInt8 → List UInt8} (h : SG L i k ls F) {a : Lf} (ha : L[i + k]? = some a) (hc : a.1.2 = [44] ∨ a.1.2 = [59]) : RG L i (k + 1) (cl ls) (F a.1.2) := by
  refine ⟨by rw [cl_len]; have := h.rg.len; omega, fun l hl => ?_, h.cls a ha hc⟩
  rcases cl_mem ls l hl with g | ⟨m, hm, rfl⟩
  · have := h.rg.inr l g; omega
  · have := h.rg.inr m hm
    show m.1 ≤ 522 ∧ m.2.1 < m.2.2 + 1 ∧ m.2.2 + 1 ≤ i + (k + 1)
    omega
theorem SG.of {L : List Lf} {i k k' : Nat} {ls ls' : List Lne} {F F' : List UInt8 → List UInt8} (h : SG L i k ls F) (hk : k = k') (hl : ls = ls') (hX : ∀ e, F e = F' e) : SG L i k' ls' F' := by
  subst hk hl
  have : F = F' := funext hX
  subst this
  exact h
/-- One line. -/
theorem SG.line {L : List Lf} {i n j : Nat} {M : List Lf} (h : Ats L i M) (hM : M ≠ []) (hn : n ≤ 522) (hj : j = i + M.length) : SG L i M.length [(n, i, j)] (fun e => X.line n (flt M ++ e)) := by
  have hl := List.length_pos_iff.2 hM
  refine ⟨by simp, ⟨by rw [List.length_singleton]; exact hl, fun l hl => ?_, ?_⟩, fun a ha hc => ?_⟩
  · obtain rfl := List.mem_singleton.1 hl
    show n ≤ 522 ∧ i < j ∧ j ≤ i + M.length
    omega
  · rw [rends_one, rend_at h hj, List.append_nil]
  · have h2 := h.next ha
    show rends L [(n, i, j + 1)] = _
    rw [rends_one, rend_at h2 (by rw [List.length_append, List.length_singleton, hj]; omega), flt_end (by rcases hc with e | e <;> simp [e])]
theorem fl_len (g : Bool) (p : Part) : (fl g p).length = (nt p).length := by rw [← fl_fst g p, List.length_map]
theorem fls_len (g : Bool) (ps : List Part) : (fls g ps).length = (nts' ps).length := by rw [← fls_fst g ps, List.length_map]
theorem fls_one (g : Bool) (p : Part) : fls g [p] = fl g p := by rw [fls, fls, List.append_nil]
theorem flat_one (p : Part) : flat [p] = flt (fl false p) := by unfold flat; rw [fls_one]
theorem fl_br (g : Bool) (k : Nat) (ps : List Part) : fl g (.br k ps) = fls (k == 14) ps := by rw [fl]
theorem Sh.fl {p : Part} (h : Sh p) (g : Bool) : fl g p = X.fl false p := by
  obtain ⟨k, ps, rfl⟩ : ∃ k ps, p = .br k ps := by cases h <;> exact ⟨_, _, rfl⟩
  rw [fl_br, fl_br]
theorem fls_pts (g : Bool) (ps : List Part) : fls g ps = fls g (pts ps) := by
  induction ps with
  | nil => rfl
  | cons p ps ih =>
    unfold pts
    cases hq : quietP p with
    | true =>
      rw [List.filter_cons_of_neg (by simp [hq]), fls, ih]
      cases p with
      | leaf k x =>
        have hk : k = 1 ∨ k = 2 := by simpa [quietP] using hq
        rw [X.fl, if_pos hk]; rfl
      | miss m => cases hq
      | br k qs => cases hq
    | false => rw [List.filter_cons_of_pos (by simp [hq]), fls, fls, ih]; rfl
theorem fl_lf {t : Tok} (h : lou t = true) (g : Bool) : fl g (lf t) = [(t, g && t.2 == [40])] := by
  have : ¬ (t.1 = 1 ∨ t.1 = 2) := by simpa [lou] using h
  show (if t.1 = 1 ∨ t.1 = 2 then [] else _) = _
  rw [if_neg this]
/-- An expression in one line. -/
theorem SG.whole {L : List Lf} {i n j : Nat} {p : Part} {F : List UInt8 → List UInt8} (h : Ats L i (fl false p)) (hp : nt p ≠ []) (hn : n ≤ 522) (hj : j = i + (nt p).length) (hX : ∀ e, F e = X.line n (flat [p] ++ e)) : SG L i (nt p).length [(n, i, j)] F := by
  have := fl_len false p
  refine (SG.line h (fun e => hp ?_) hn (by rw [this]; exact hj)).of this rfl (fun e => by rw [hX, flat_one])
  rw [e] at this
  exact List.length_eq_zero_iff.1 this.symm
/-- The first line of something, flat. -/
theorem RG.first {L : List Lf} {i n j : Nat} {M : List Lf} (h : Ats L i M) (hM : M ≠ []) (hn : n ≤ 522) (hj : j = i + M.length) : RG L i M.length [(n, i, j)] (X.line n (flt M)) := by
  have := (SG.line h hM hn hj).rg
  rw [List.append_nil] at this
  exact this
end X
end Go.Proofs.YtohpfegpnbdfnaaGreatDoor
