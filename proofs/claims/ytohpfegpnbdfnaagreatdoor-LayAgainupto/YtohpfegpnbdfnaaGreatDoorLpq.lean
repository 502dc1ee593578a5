/- Package lay: brackets. -/
import Derived.Test.YtohpfegpnbdfnaaGreatDoorLpo
import Derived.Test.YtohpfegpnbdfnaaGreatDoorLr
namespace Go.Proofs.YtohpfegpnbdfnaaGreatDoor
open Go.RowKit
open M
set_option maxRecDepth 100000 in
set_option maxHeartbeats 8000000 in
theorem gbracket_none (a b : X.Part) (p : X.Part) (hp : X.tks (X.kidsOf p) = [a, b]) (fr n ib : Nat) (w : World) (Q R : Nat) (D : Nat → Prop) (v : Value) (ls : List X.Lne) (hg : ∃ lv, IsPg w Q R ls lv) (h : IsPt w D ib v p) (hl : ls.length ≤ 268435456) :
    Calls Tryz.prog 120 #[.pointer (some ⟨Q, 0, none⟩), .int .i64 fr, v, .int .i64 n] w fun e w' => e = .returned (.tuple #[]) ∧ Hid (PgTo w Q R (ls ++ [(n, fr, ib + (X.nt p).length)]) w') := by
  obtain ⟨ao, cap, rfl, hc1, hc2, hk⟩ := h.kid
  rw [hp] at hk hc1 ⊢
  obtain ⟨g, b1, b2, b3, rfl, ⟨cur, hgb⟩, -⟩ := hk 0 a rfl
  have hcap : 2 ≤ cap := hc1
  generalize ib + (X.nt p).length = te at *
  have hgl := heap_lt hgb
  have k1 : Below w.heap.size w (w.alloc (.cells #[.int .i64 (X.kindOf p), .int .i64 ib, .int .i64 te, .slice (some ⟨g, 0, none⟩) 2 cap] 95)) := (Below.refl _ w).alloc (Nat.le_refl _) _
  have HC : Hid (Calls Tryz.prog 64 #[.pointer (some ⟨Q, 0, none⟩), .int .i64 n, .int .i64 fr, .int .i64 te] (w.alloc (.cells #[.int .i64 (X.kindOf p), .int .i64 ib, .int .i64 te, .slice (some ⟨g, 0, none⟩) 2 cap] 95)) fun e w' => e = .returned (.tuple #[]) ∧ Hid (PgTo (w.alloc (.cells #[.int .i64 (X.kindOf p), .int .i64 ib, .int .i64 te, .slice (some ⟨g, 0, none⟩) 2 cap] 95)) Q R (ls ++ [(n, fr, te)]) w')) := by
    obtain ⟨lv, hlv⟩ := hg
    exact gadd_any n fr te Q R ls _ ⟨lv, hlv.below k1⟩ hl
  have HK := hide k1
  have i1 : (1 : Int) ≤ (cap : Int) := by omega
  have i2 : ¬ cap = 1 := by omega
  have i3 : 1 < cap := by omega
  have hlen : ([a, b] : List X.Part).length = 2 := rfl
  rw [hlen]
  clear hk h hg k1 hp hc1 hlen
  go_enter Tryz.func120, Tryz.ntmps120
  go_wp2_with fail
  refine (HC.out).mono ?_
  rintro e w2 ⟨rfl, H2⟩
  have HF : Hid (PgTo w Q R (ls ++ [(n, fr, te)]) w2) := PgTo.from HK.out H2.out
  clear H2
  go_wp2_with fail
  try simp only [Exit.inBlock, Exit.then]
  refine bodyPost_ret (v := .tuple #[]) (by simp [results, Tryz.results120, go_sem]) rfl ?_
  exact ⟨rfl, HF⟩
/-- What the loop over the parts has come to. -/
structure InBr (w : World) (Q R : Nat) (rm : List (List UInt8)) (L : List X.Lf) (D : Nat → Prop) (ib : Nat) (pv : Value) (p : X.Part) (E : X.Part → List UInt8 → List UInt8) (c : List UInt8) (l : List X.Part) (ls : List X.Lne) (bx : Nat) (bc : Array Value) (j : Nat) (lj : List X.Lne) (wr : World) : Prop where
  row : IsRow wr R rm L
  pg : ∃ lv, IsPg wr Q R (ls ++ lj) lv
  pt : IsPt wr D ib pv p
  box : wr.heap[bx]? = some (.cells bc 95 (0, 0))
  bri : X.BrI L (ib + 1) E c l j lj
  fk : FK PT Q w wr
theorem InBr.to {w : World} {Q R : Nat} {rm : List (List UInt8)} {L : List X.Lf} {D : Nat → Prop} {ib : Nat} {pv : Value} {p : X.Part} {E : X.Part → List UInt8 → List UInt8} {c : List UInt8} {l : List X.Part} {ls : List X.Lne} {bx : Nat} {bc : Array Value} {j j' : Nat} {lj lj' : List X.Lne} {wr w1 w2 : World} (h : InBr w Q R rm L D ib pv p E c l ls bx bc j lj wr) (hb : Below wr.heap.size wr w1) (hp : PgTo w1 Q R (ls ++ lj') w2) (hi : X.BrI L (ib + 1) E c l j' lj') : InBr w Q R rm L D ib pv p E c l ls bx bc j' lj' w2 := by
  have hk : FK PT Q wr w2 := (FK.below hb).trans hp.2
  exact ⟨h.row.keep hk (fun _ ht => PT.rt ht), hp.1, IsPt.fk hk PT.pt h.pt, hk.heap h.box PT.pt, hi, h.fk.trans hk⟩
theorem IsPt.kidv {w : World} {D : Nat → Prop} {i : Nat} {x y z : Value} {ao : Option Addr} {n cap : Nat} {p : X.Part} (h : IsPt w D i (.agg #[x, y, z, .slice ao n cap]) p) {j : Nat} {q : X.Part} (hj : (X.tks (X.kidsOf p))[j]? = some q) : ∃ (g : Nat) (b1 : Option Addr) (b2 b3 : Nat), ao = some ⟨g, 0, none⟩ ∧ (∃ cur, w.heap[g]? = some (.cells cur 95 (0, 0))) ∧
      w.cell? ⟨g, j * 4, none⟩ = some (.int .i64 (X.kindOf q)) ∧ w.cell? ⟨g, j * 4 + 1, none⟩ = some (.int .i64 ((i + (X.nts' ((X.tks (X.kidsOf p)).take j)).length : Nat) : Int)) ∧ w.cell? ⟨g, j * 4 + 2, none⟩ = some (.int .i64 ((i + (X.nts' ((X.tks (X.kidsOf p)).take j)).length + (X.nt q).length : Nat) : Int)) ∧ w.cell? ⟨g, j * 4 + 3, none⟩ = some (.slice b1 b2 b3) ∧
      IsPt w D (i + (X.nts' ((X.tks (X.kidsOf p)).take j)).length) (.agg #[.int .i64 (X.kindOf q), .int .i64 ((i + (X.nts' ((X.tks (X.kidsOf p)).take j)).length : Nat) : Int), .int .i64 ((i + (X.nts' ((X.tks (X.kidsOf p)).take j)).length + (X.nt q).length : Nat) : Int), .slice b1 b2 b3]) q := by
  obtain ⟨ao', cap', hv, -, -, hk⟩ := h.kid
  simp only [Value.agg.injEq, Array.mk.injEq, List.cons.injEq, and_true, Value.slice.injEq] at hv
  obtain ⟨-, -, -, rfl, -, -⟩ := hv
  exact hk j q hj
set_option maxRecDepth 100000 in
set_option maxHeartbeats 8000000 in
theorem gbracket_some (L : List X.Lf) (hL : L.length ≤ 268435456) (p : X.Part) (ta : X.Tok) (l : List X.Part) (c : List UInt8) (hp : X.tks (X.kidsOf p) = X.lf ta :: l) (hta : X.lou ta = true) (hsh : X.ShA c l) (hlou : ∀ t : X.Tok, X.lf t ∈ l → X.lou t = true) (gg : Bool) (f fr n ib : Nat) (ih : ∀ q ∈ l, X.Sh q → XC L q) (hdp : ∀ q ∈ l, n + 2 + X.dp q ≤ 522) (hfu : ∀ q ∈ l, (X.nt q).length ≤ f) (hA : X.Ats L ib (X.fls gg (X.lf ta :: l))) (w : World) (Q R : Nat) (rm : List (List UInt8)) (D : Nat → Prop) (v : Value) (ls : List X.Lne) (hr : IsRow w R rm L) (hg : ∃ lv, IsPg w Q R ls lv) (h : IsPt w D ib v p) (hl : ls.length + 1 + (X.nts' l).length ≤ 268435456) :
    Calls Tryz.prog 120 #[.pointer (some ⟨Q, 0, none⟩), .int .i64 fr, v, .int .i64 n] w fun e w' => e = .returned (.tuple #[]) ∧ Hid (∃ lm, X.RG L (ib + 1) (X.nts' (l.take (l.length - 1))).length lm (X.many (X.ex f (n + 2)) l) ∧ PgTo w Q R (ls ++ ([(n, fr, ib + 1)] ++ lm ++ [(n, ib + (X.nt p).length - 1, ib + (X.nt p).length)])) w') := by
  obtain ⟨m, hm⟩ : ∃ m, l.length = m + 1 := ⟨l.length - 1, by have := hsh.two; omega⟩
  have hm1 : 1 ≤ m := by have := hsh.two; omega
  obtain ⟨ao, cap, hv, hc1, hc2, hk⟩ := h.kid
  have hte : 1 ≤ (X.nt p).length := by
    have h1 := X.nts_tks (X.kidsOf p)
    rw [hp, X.nts_cons, X.nt_lf, if_pos hta] at h1
    cases h with
    | mk i p' =>
    have h2 : (X.nt p).length = (X.nts' (X.kidsOf p)).length := by
      cases p with
      | leaf k x => simp [X.kidsOf, X.tks] at hp
      | miss m => simp [X.kidsOf, X.tks] at hp
      | br k ps => unfold X.nt X.nts'; rw [X.pl]; rfl
    rw [h2, ← h1, List.length_append]; simp
  obtain ⟨g, b1, b2, b3, rfl, ⟨cur, hgb⟩, -⟩ := hk 0 (X.lf ta) (by rw [hp]; rfl)
  have hnl : (X.tks (X.kidsOf p)).length = m + 2 := by rw [hp, List.length_cons, hm]
  rw [hnl] at hv hc1
  have hfl := X.fls_len gg (X.lf ta :: l)
  have hn1 : (X.nts' (X.lf ta :: l)).length = 1 + (X.nts' l).length := by rw [X.nts_cons, X.nt_lf, if_pos hta, List.length_append]; rfl
  have hnp : (X.nt p).length = 1 + (X.nts' l).length := by
    have h1 := X.nts_tks (X.kidsOf p)
    rw [hp] at h1
    have h2 : (X.nt p).length = (X.nts' (X.kidsOf p)).length := by
      cases p with
      | leaf k x => simp [X.kidsOf, X.tks] at hp
      | miss m => simp [X.kidsOf, X.tks] at hp
      | br k ps => unfold X.nt X.nts'; rw [X.pl]; rfl
    rw [h2, ← h1, hn1]
  have hle := hA.le
  rw [hfl, hn1] at hle
  have hAl : X.Ats L (ib + 1) (X.fls gg l) := by
    have e : X.fls gg (X.lf ta :: l) = X.fl gg (X.lf ta) ++ X.fls gg l := by rw [X.fls]
    rw [e] at hA
    have h1 := hA.right
    rw [X.fl_lf hta] at h1
    exact h1
  -- the parts, one by one, in any world that keeps them
  have HKID : Hid (∀ (W : World) (j : Nat) (q : X.Part), IsPt W D ib (.agg #[.int .i64 (X.kindOf p), .int .i64 ib, .int .i64 ((ib + (X.nt p).length : Nat) : Int), .slice (some ⟨g, 0, none⟩) (m + 2) cap]) p → l[j]? = some q → ∃ (k1 f1 t1 : Nat) (d1 : Option Addr) (d2 d3 : Nat), Hid (k1 = X.kindOf q ∧ f1 = ib + 1 + (X.nts' (l.take j)).length) ∧ W.cell? ⟨g, 4 + j * 4, none⟩ = some (.int .i64 k1) ∧ W.cell? ⟨g, 4 + j * 4 + 1, none⟩ = some (.int .i64 f1) ∧ W.cell? ⟨g, 4 + j * 4 + 2, none⟩ = some (.int .i64 t1) ∧ W.cell? ⟨g, 4 + j * 4 + 3, none⟩ = some (.slice d1 d2 d3) ∧ Hid (IsPt W D f1 (.agg #[.int .i64 k1, .int .i64 f1, .int .i64 t1, .slice d1 d2 d3]) q)) := fun W j q hW hj => by
    obtain ⟨g', d1, d2, d3, e1, -, z0, z1, z2, z3, hq⟩ := hW.kidv (j := j + 1) (q := q) (by rw [hp]; simpa using hj)
    injection e1 with e1
    injection e1 with e1
    subst e1
    have e2 : ib + (X.nts' ((X.tks (X.kidsOf p)).take (j + 1))).length = ib + 1 + (X.nts' (l.take j)).length := by
      rw [hp, List.take_succ_cons, X.nts_cons, X.nt_lf, if_pos hta, List.length_append]; simp; omega
    rw [e2] at z1 z2 hq
    have e3 : (j + 1) * 4 = 4 + j * 4 := by omega
    rw [e3] at z0 z1 z2 z3
    exact ⟨_, _, _, d1, d2, d3, ⟨rfl, rfl⟩, z0, z1, z2, z3, hq⟩
  subst hv
  obtain ⟨te, hteq⟩ : ∃ te, te = ib + (X.nt p).length := ⟨_, rfl⟩
  rw [← hteq] at HKID h ⊢
  have hte1 : 1 ≤ te := by omega
  have hteL : te ≤ L.length := by omega
  have hgl := heap_lt hgb
  have hcap : m + 2 ≤ cap := hc1
  have hcm : m + 2 ≤ 9223372036854775807 := by unfold maxLen at hc2; omega
  have k1 : Below w.heap.size w (w.alloc (.cells #[.int .i64 (X.kindOf p), .int .i64 ib, .int .i64 te, .slice (some ⟨g, 0, none⟩) (m + 2) cap] 95)) := (Below.refl _ w).alloc (Nat.le_refl _) _
  have hbx : (w.alloc (.cells #[.int .i64 (X.kindOf p), .int .i64 ib, .int .i64 te, .slice (some ⟨g, 0, none⟩) (m + 2) cap] 95)).heap[w.heap.size]? = some (.cells #[.int .i64 (X.kindOf p), .int .i64 ib, .int .i64 te, .slice (some ⟨g, 0, none⟩) (m + 2) cap] 95 (0, 0)) := heap_alloc_new w _
  have HPT := hide (h.kept (Kp.ofBelow k1 (fun _ => False)) (fun _ e => e.elim))
  have HROW := hide (hr.below k1)
  have HPG : Hid (∃ lv, IsPg (w.alloc (.cells #[.int .i64 (X.kindOf p), .int .i64 ib, .int .i64 te, .slice (some ⟨g, 0, none⟩) (m + 2) cap] 95)) Q R ls lv) := by
    obtain ⟨lv, hlv⟩ := hg
    exact ⟨lv, hlv.below k1⟩
  obtain ⟨q0, hq0⟩ : ∃ q0, l[0]? = some q0 := ⟨l[0]'(by omega), List.getElem?_eq_getElem (by omega)⟩
  obtain ⟨kk0, f0, t0, d1, d2, d3, HE0, -, y1, -⟩ := (HKID.out) w 0 q0 h hq0
  have HF0 : Hid (f0 = ib + 1) := by
    have := (HE0.out).2
    rw [List.take_zero] at this
    exact this
  replace y1 : w.cell? ⟨g, 5, none⟩ = some (.int .i64 f0) := y1
  have hmm : m + 2 - 1 - 1 = m := by omega
  have HK1 := hide k1
  have HBX := hide hbx
  have HTE := hide hteq
  have HIH := hide ih
  have HAL := hide hAl
  have HSH := hide hsh
  have HLO := hide hlou
  have HDP := hide hdp
  have HFU := hide hfu
  have i1 : (1 : Int) ≤ (cap : Int) := by omega
  have i2 : ¬ cap = 1 := by omega
  have i3 : 1 < cap := by omega
  have i4 : (1 : Int) ≤ (m : Int) + 1 := by omega
  have i5 : (m : Int) + 1 ≤ (cap : Int) := by omega
  have i6 : ((m : Int) == 0) = false := by simp; omega
  have i7 : (0 : Int) < (m : Int) := by omega
  have i8 : 0 < m := hm1
  have i9 : ¬ m = 0 := by omega
  have hlb : ls.length + 1 + (X.nts' l).length ≤ 268435456 := hl
  clear h hr hg k1 hbx hteq ih hAl hsh hlou hdp hfu hk hp hA hta hfl hn1 hnp hle hte hl hnl HE0 hc1 hc2
  go_enter Tryz.func120, Tryz.ntmps120
  go_wp2_with fail
  generalize w.alloc (.cells #[.int .i64 (X.kindOf p), .int .i64 ib, .int .i64 te, .slice (some ⟨g, 0, none⟩) (m + 2) cap] 95) = W1 at *
  refine (gadd_any n fr f0 Q R ls W1 HPG.out (by omega)).mono ?_
  rintro e w2 ⟨rfl, H2⟩
  have HI0 : Hid (InBr w Q R rm L D ib (.agg #[.int .i64 (X.kindOf p), .int .i64 ib, .int .i64 te, .slice (some ⟨g, 0, none⟩) (m + 2) cap]) p (X.ex f (n + 2)) c l (ls ++ [(n, fr, f0)]) w.heap.size #[.int .i64 (X.kindOf p), .int .i64 ib, .int .i64 te, .slice (some ⟨g, 0, none⟩) (m + 2) cap] 0 [] w2) := by
    have hk := (H2.out).2
    exact ⟨(HROW.out).keep hk (fun _ ht => PT.rt ht), by rw [List.append_nil]; exact (H2.out).1, IsPt.fk hk PT.pt HPT.out, hk.heap HBX.out PT.pt, X.BrI.start HSH.out, (FK.below HK1.out).trans hk⟩
  have hz2 : w.heap.size < w2.heap.size := by
    have h1 := heap_lt HBX.out
    have h2 := (H2.out).2.size
    omega
  have hg2 : g < w2.heap.size := by omega
  rw [hmm]
  clear H2 HPG HROW HPT HBX HK1 hmm y1
  go_wp2_with fail
  go_loopw [37] (fun iv wr => ∃ (j : Nat) (lj : List X.Lne), iv = .int .i64 j ∧ j ≤ m ∧ Hid (InBr w Q R rm L D ib (.agg #[.int .i64 (X.kindOf p), .int .i64 ib, .int .i64 te, .slice (some ⟨g, 0, none⟩) (m + 2) cap]) p (X.ex f (n + 2)) c l (ls ++ [(n, fr, f0)]) w.heap.size #[.int .i64 (X.kindOf p), .int .i64 ib, .int .i64 te, .slice (some ⟨g, 0, none⟩) (m + 2) cap] j lj wr)) (fun iv _ => m - (intOf iv).toNat)
  case atStart => exact ⟨0, _, rfl, Nat.zero_le _, HI0⟩
  case round =>
    clear HI0
    obtain ⟨j, lj, rfl, hj, HI⟩ := hrel
    have bx2 := cell_of_row wr _ 2 _ _ _ (HI.out).box
    have hzr : w.heap.size < wr.heap.size := heap_lt (HI.out).box
    have hgr : g < wr.heap.size := by omega
    by_cases hlt : j < m
    case neg =>
      obtain rfl : j = m := by omega
      have j1 : decide (j < j) = false := by simp
      have j2 : decide ((j : Int) < (j : Int)) = false := by simp
      have hw1 : IntKind.i64.wrap ((te : Int) - 1) = ((te - 1 : Nat) : Int) := by rw [IntKind.wrap_i64]; omega
      have hw2 : (te : Int) - 1 = ((te - 1 : Nat) : Int) := by omega
      have HRG := hide ((HI.out).bri.fin hm.symm)
      have hljl := (HRG.out).len
      have hnt := X.nts_cut l j
      have hlj : lj.length ≤ (X.nts' l).length := by
        obtain ⟨r, e⟩ := hnt
        rw [e, List.length_append]; omega
      clear hnt
      have HFK := hide (HI.out).fk
      obtain ⟨tm, htm⟩ : ∃ tm, tm = te - 1 := ⟨_, rfl⟩
      rw [← htm] at hw1 hw2
      have HTM := hide htm
      clear htm
      go_wp2_with fail
      refine (gadd_any n tm te Q R (ls ++ [(n, fr, f0)] ++ lj) wr (HI.out).pg (by simp only [List.length_append, List.length_singleton]; omega)).mono ?_
      rintro e w5 ⟨rfl, H5⟩
      have HF : Hid (∃ lm, X.RG L (ib + 1) (X.nts' (l.take (l.length - 1))).length lm (X.many (X.ex f (n + 2)) l) ∧ PgTo w Q R (ls ++ ([(n, fr, ib + 1)] ++ lm ++ [(n, te - 1, te)])) w5) := by
        refine ⟨lj, by rw [hm, Nat.add_sub_cancel]; exact HRG.out, ?_, (HFK.out).trans (H5.out).2⟩
        have h := (H5.out).1
        rw [HTM.out, HF0.out] at h
        simp only [List.append_assoc] at h ⊢
        exact h
      clear H5 HRG HI
      go_wp2_with fail
      go_end0
      exact ⟨rfl, HF⟩
    have j1 : decide (j < m) = true := by simp; omega
    have j2 : decide ((j : Int) < (m : Int)) = true := by simp; omega
    have j3 : (0 : Int) ≤ (j : Int) := Int.natCast_nonneg _
    have j4 : (j : Int) < (m : Int) := by omega
    have HATS : Hid (∀ q, l[j]? = some q → X.Ats L (ib + 1 + (X.nts' (l.take j)).length) (X.fl gg q)) := fun q hq => by
      obtain ⟨r, e⟩ := X.fls_cut gg l (j + 1)
      have h := HAL.out
      rw [e, X.fls_take gg hq] at h
      have h2 := h.left.right
      rw [X.fls_len] at h2
      exact h2
    have hntl : (X.nts' (l.take j)).length ≤ (X.nts' l).length := by
      obtain ⟨r, e⟩ := X.nts_cut l j
      rw [e, List.length_append]; omega
    rcases (HI.out).bri.next (by omega) HLO.out with ⟨q, hq, hSh, hlen, hnext⟩ | ⟨tb, hq, hlou, hb44, hne, hlen, hto, hnext⟩
    · obtain ⟨k1, f1, t1, d1, d2, d3, HE, y0, y1, y2, y3, HQ⟩ := (HKID.out) wr j q (HI.out).pt hq
      have hmem : q ∈ l := List.mem_of_getElem? hq
      have hk1 : ((k1 : Int) == 0) = false := by
        have h1 := (HE.out).1
        have h2 : X.kindOf q ≠ 0 := by
          cases hSh <;> simp [X.kindOf]
          omega
        simp; omega
      have HNX := hide hnext
      have HAq : Hid (X.Ats L f1 (X.fl false q)) := by
        have := (HATS.out) q hq
        rw [hSh.fl] at this
        rw [(HE.out).2]; exact this
      have HXC := hide ((HIH.out) q hmem hSh)
      have hfq := (HFU.out) q hmem
      have hdq := (HDP.out) q hmem
      have hlq : (X.nts' (l.take j)).length + (X.nt q).length ≤ (X.nts' l).length := by
        obtain ⟨r, e⟩ := X.nts_cut l (j + 1)
        rw [e, X.nts_take hq, List.length_append, List.length_append]; omega
      have kA : Below wr.heap.size wr (wr.alloc (.cells #[.int .i64 k1, .int .i64 f1, .int .i64 t1, .slice d1 d2 d3] 95)) := (Below.refl _ wr).alloc (Nat.le_refl _) _
      have HKA := hide kA
      have HPG : Hid (∃ lv, IsPg (wr.alloc (.cells #[.int .i64 k1, .int .i64 f1, .int .i64 t1, .slice d1 d2 d3] 95)) Q R (ls ++ [(n, fr, f0)] ++ lj) lv) := by
        obtain ⟨lv, hlv⟩ := (HI.out).pg
        exact ⟨lv, hlv.below kA⟩
      have HRW := hide ((HI.out).row.below kA)
      have HQA := hide ((HQ.out).kept (Kp.ofBelow kA (fun _ => False)) (fun _ e => e.elim))
      clear kA hnext hSh
      go_wp2_with fail
      refine ((HXC.out) f (n + 2) f1 _ Q R rm D _ (ls ++ [(n, fr, f0)] ++ lj) HRW.out HPG.out HQA.out HAq.out hfq hdq (by simp only [List.length_append, List.length_singleton]; omega)).mono ?_
      rintro e w5 ⟨rfl, H5⟩
      obtain ⟨l2, h51, h52⟩ := H5.out
      have HN : Hid (InBr w Q R rm L D ib (.agg #[.int .i64 (X.kindOf p), .int .i64 ib, .int .i64 te, .slice (some ⟨g, 0, none⟩) (m + 2) cap]) p (X.ex f (n + 2)) c l (ls ++ [(n, fr, f0)]) w.heap.size #[.int .i64 (X.kindOf p), .int .i64 ib, .int .i64 te, .slice (some ⟨g, 0, none⟩) (m + 2) cap] (j + 1) (lj ++ l2) w5) := by
        refine (HI.out).to HKA.out (by rw [← List.append_assoc]; exact h52) ((HNX.out) l2 ?_)
        rw [(HE.out).2] at h51; exact h51
      clear H5 h51 h52 HQA HRW HPG HQ HXC HAq HNX HI
      go_wp2_with fail
      exact ⟨⟨j + 1, _, by go_num, by omega, HN⟩, by simp only [intOf]; omega⟩
    · obtain ⟨k1, f1, t1, d1, d2, d3, HE, y0, y1, y2, y3, HQ⟩ := (HKID.out) wr j _ (HI.out).pt hq
      have hk0 : k1 = 0 := (HE.out).1
      have hk1 : ((k1 : Int) == 0) = true := by rw [hk0]; rfl
      have HNX : Hid (X.BrI L (ib + 1) (X.ex f (n + 2)) c l (j + 1) (X.cl lj)) := by
        have h := (HATS.out) _ hq
        rw [X.fl_lf hlou] at h
        exact hnext _ h.get hb44
      have kA : Below wr.heap.size wr (wr.alloc (.cells #[.int .i64 k1, .int .i64 f1, .int .i64 t1, .slice d1 d2 d3] 95)) := (Below.refl _ wr).alloc (Nat.le_refl _) _
      have HKA := hide kA
      have HPG : Hid (∃ lv, IsPg (wr.alloc (.cells #[.int .i64 k1, .int .i64 f1, .int .i64 t1, .slice d1 d2 d3] 95)) Q R (ls ++ [(n, fr, f0)] ++ lj) lv) := by
        obtain ⟨lv, hlv⟩ := (HI.out).pg
        exact ⟨lv, hlv.below kA⟩
      have hbnd : ib + 1 + (X.nts' (l.take j)).length ≤ 268435456 := by
        have := ((HATS.out) _ hq).le
        omega
      clear kA hnext hk0
      go_wp2_with fail
      refine (gclose_any Q R (ls ++ [(n, fr, f0)]) lj _ HPG.out hne (by simp only [List.length_append, List.length_singleton]; omega) (fun x hx => by have := hto x hx; omega)).mono ?_
      rintro e w5 ⟨rfl, H5⟩
      have HN : Hid (InBr w Q R rm L D ib (.agg #[.int .i64 (X.kindOf p), .int .i64 ib, .int .i64 te, .slice (some ⟨g, 0, none⟩) (m + 2) cap]) p (X.ex f (n + 2)) c l (ls ++ [(n, fr, f0)]) w.heap.size #[.int .i64 (X.kindOf p), .int .i64 ib, .int .i64 te, .slice (some ⟨g, 0, none⟩) (m + 2) cap] (j + 1) (X.cl lj) w5) := (HI.out).to HKA.out H5.out HNX.out
      clear H5 HPG HQ HNX HI
      go_wp2_with fail
      exact ⟨⟨j + 1, _, by go_num, by omega, HN⟩, by simp only [intOf]; omega⟩
end Go.Proofs.YtohpfegpnbdfnaaGreatDoor
/- Package lay: expression. -/
namespace Go.Proofs.YtohpfegpnbdfnaaGreatDoor
open Go.RowKit
open M
namespace X
theorem nt_quiet {p : Part} (h : quietP p = true) : nt p = [] := by
  cases p with
  | leaf k x =>
    have e : (.leaf k x : Part) = lf (k, x) := rfl
    rw [e, nt_lf, if_neg]
    unfold lou; unfold quietP at h; simp only at h ⊢; rw [h]; simp
  | miss m => cases h
  | br k qs => cases h
theorem tks_pts (ps : List Part) : tks ps = tks (pts ps) := by
  induction ps with
  | nil => rfl
  | cons p ps ih =>
    rw [show p :: ps = [p] ++ ps from rfl, tks_append, ih, pts_append, tks_append]
    congr 1
    cases hq : quietP p with
    | true =>
      rw [tks_none (nt_quiet hq)]
      unfold pts
      rw [List.filter_cons_of_neg (by simp [hq])]; rfl
    | false =>
      unfold pts
      rw [List.filter_cons_of_pos (by simp [hq])]; rfl
theorem tks_all {l : List Part} (h : ∀ p ∈ l, nt p ≠ []) : tks l = l := by
  unfold tks tkp
  refine List.filter_eq_self.2 (fun p hp => ?_)
  have := h p hp
  cases hx : nt p with
  | nil => exact absurd hx this
  | cons a l => rfl
theorem nt_lf_ne {t : Tok} (h : lou t = true) : nt (lf t) ≠ [] := by rw [nt_lf, if_pos h]; simp
end X
set_option maxRecDepth 100000 in
set_option maxHeartbeats 8000000 in
theorem gexpr_tok (L : List X.Lf) (hL : L.length ≤ 268435456) (hF : (X.flt L).length ≤ 8589934592) (k : Nat) (ps : List X.Part) (hk : 15 ≤ k ∧ k ≤ 19) (hsh : X.Sh (.br k ps)) : XC L (.br k ps) := by
  intro f n i w Q R rm D v ls hr hg h hA hf hd hl
  have hne : X.nt (.br k ps) ≠ [] := hsh.ne
  have hfl := X.fl_len false (.br k ps)
  have hMne : X.fl false (.br k ps) ≠ [] := fun e => hne (List.length_eq_zero_iff.1 (by rw [← hfl, e]; rfl))
  have hle := hA.le
  rw [hfl] at hle
  obtain ⟨ao, cap, hv, hc1, hc2, -⟩ := h.kid
  have HPT := hide h
  subst hv
  have hkk : X.kindOf (.br k ps) = k := rfl
  rw [hkk] at HPT ⊢
  have HW : Hid (n + X.chars (X.flat [.br k ps]) + 1 ≤ 80 → ∀ e, X.ex f n (.br k ps) e = X.line n (X.flat [.br k ps] ++ e)) := fun h e => X.ex_fit h
  have hfe : X.flat [.br k ps] = X.flt (X.fl false (.br k ps)) := X.flat_one _
  obtain ⟨te, hteq⟩ : ∃ te, te = i + (X.nt (.br k ps)).length := ⟨_, rfl⟩
  rw [← hteq] at HPT ⊢
  obtain ⟨nn, hnn⟩ : ∃ nn, nn = (X.tks (X.kidsOf (.br k ps))).length := ⟨_, rfl⟩
  rw [← hnn] at HPT ⊢
  have k1 : Below w.heap.size w (w.alloc (.cells #[.int .i64 k, .int .i64 i, .int .i64 te, .slice ao nn cap] 95)) := (Below.refl _ w).alloc (Nat.le_refl _) _
  have HFIT := hide (fun W (hI : IsRow W R rm L) => afits_any L (X.fl false (.br k ps)) i te R rm W k ao nn cap (80 - (n : Int) - 1) hI hA hMne (by rw [hfl]; exact hteq) hL hF (by omega) (by omega))
  have hbx : (w.alloc (.cells #[.int .i64 k, .int .i64 i, .int .i64 te, .slice ao nn cap] 95)).heap[w.heap.size]? = some (.cells #[.int .i64 k, .int .i64 i, .int .i64 te, .slice ao nn cap] 95 (0, 0)) := heap_alloc_new w _
  have hn522 : n ≤ 522 := by omega
  have HROW := hide (hr.below k1)
  have HG := hide hg
  have HK1 := hide k1
  have HBX := hide hbx
  have HAT := hide hA
  have HTE := hide hteq
  have HNN := hide hnn
  have HFE := hide hfe
  obtain ⟨lv0, hlv0⟩ := hg
  have q0 := cell_of_row _ _ 0 _ _ _ (hlv0.below k1).blk
  have hQl : Q < w.heap.size := heap_lt hlv0.blk
  have p0 := cell_of_row _ _ 0 _ _ _ hbx
  have p1 := cell_of_row _ _ 1 _ _ _ hbx
  have p2 := cell_of_row _ _ 2 _ _ _ hbx
  have p3 := cell_of_row _ _ 3 _ _ _ hbx
  have HNE := hide hne
  have hwr1 : IntKind.i64.wrap (80 - (n : Int)) = 80 - (n : Int) := by rw [IntKind.wrap_i64]; omega
  have hwr2 : IntKind.i64.wrap (80 - (n : Int) - 1) = 80 - (n : Int) - 1 := by rw [IntKind.wrap_i64]; omega
  clear hr h hA k1 hbx hlv0 hteq hnn hfe hMne hne hkk hc1 hc2
  have e7 : ((k : Int) == 7) = false := by simp; omega
  have e8 : ((k : Int) == 8) = false := by simp; omega
  have e9 : ((k : Int) == 9) = false := by simp; omega
  have e10 : ((k : Int) == 10) = false := by simp; omega
  have e11 : ((k : Int) == 11) = false := by simp; omega
  have e13 : ((k : Int) == 13) = false := by simp; omega
  have e14 : ((k : Int) == 14) = false := by simp; omega
  go_enter Tryz.func90, Tryz.ntmps90
  go_wp2_with fail
  generalize w.alloc (.cells #[.int .i64 k, .int .i64 i, .int .i64 te, .slice ao nn cap] 95) = W at *
  refine wp_region_noPanic ?_
  refine wpTo_start (S := fun w' => w'.cell? ⟨Q, 0, none⟩ = some (.pointer (some ⟨R, 0, none⟩)) ∧ w'.cell? ⟨w.heap.size, 0, none⟩ = some (.int .i64 k) ∧ w'.cell? ⟨w.heap.size, 1, none⟩ = some (.int .i64 i) ∧ w'.cell? ⟨w.heap.size, 2, none⟩ = some (.int .i64 te) ∧ w'.cell? ⟨w.heap.size, 3, none⟩ = some (.slice ao nn cap)) (z := 9) (by kernel_rfl) ?_
  have hS : W.drew.cell? ⟨Q, 0, none⟩ = some (.pointer (some ⟨R, 0, none⟩)) ∧ W.drew.cell? ⟨w.heap.size, 0, none⟩ = some (.int .i64 k) ∧ W.drew.cell? ⟨w.heap.size, 1, none⟩ = some (.int .i64 i) ∧ W.drew.cell? ⟨w.heap.size, 2, none⟩ = some (.int .i64 te) ∧ W.drew.cell? ⟨w.heap.size, 3, none⟩ = some (.slice ao nn cap) := ⟨q0, p0, p1, p2, p3⟩
  iterate 8 (refine wpTo_nx (v := ?_) rfl rfl (by kernel_rfl) (by decide) (by kernel_rfl) (by kernel_rfl) (fun _ _ _ h => h) (Or.inl ⟨by rfl, ?_⟩) hS ?_; rotate_left; (· (intro wx hSw; (try dsimp only at hSw); go_simp; try (with_reducible rfl))); simp only [Act.put, List.setIfInBounds_toArray, List.set_cons_zero, List.set_cons_succ])
  refine wpTo_one (i := 8) (by kernel_rfl) rfl (fun K hK => ?_)
  go_simp
  refine ((HFIT.out) _ ((HROW.out).below ((Below.refl _ W).drew))).mono ?_
  rintro e w2 ⟨rfl, B2⟩
  have b2 : Below W.heap.size W w2 := ((Below.refl _ W).drew).trans B2
  have c2 := Kp.ofBelow b2 (fun _ => False)
  replace q0 := c2.cellv q0 id
  replace p0 := c2.cellv p0 id
  replace p1 := c2.cellv p1 id
  replace p2 := c2.cellv p2 id
  replace p3 := c2.cellv p3 id
  go_simp
  refine hK.out _ _ (fun _ => ⟨q0, p0, p1, p2, p3⟩) (fun _ => wpTo_end (by kernel_rfl) ?_)
  clear hK K hS c2
  refine NoPanic.normal ?_
  have HK2 : Hid (Below w.heap.size w w2) := (HK1.out).trans (b2.mono (HK1.out).size)
  have HR2 := hide ((HROW.out).below b2)
  have HG2 : Hid (∃ lv, IsPg w2 Q R ls lv) := by
    obtain ⟨lv, hlv⟩ := HG.out
    exact ⟨lv, hlv.below HK2.out⟩
  have HPT2 := hide ((HPT.out).kept (Kp.ofBelow HK2.out (fun _ => False)) (fun _ h => h.elim))
  have HBX2 := hide ((Kp.ofBelow b2 (fun _ => False)).heap HBX.out id)
  clear b2 B2 HROW HG HK1 HBX HPT HFIT
  rw [← HFE.out]
  by_cases hW : n + X.chars (X.flat [.br k ps]) + 1 ≤ 80
  · have c0 : decide ((X.chars (X.flat [.br k ps]) : Int) ≤ 80 - (n : Int) - 1) = true := decide_eq_true (by omega)
    rw [c0]
    go_wp2_with fail
    refine (gadd_any n i te Q R ls w2 HG2.out (by omega)).mono ?_
    rintro e w3 ⟨rfl, H3⟩
    have HF : Hid (∃ ls', X.SG L i (X.nt (.br k ps)).length ls' (X.ex f n (.br k ps)) ∧ PgTo w Q R (ls ++ ls') w3) := ⟨_, X.SG.whole HAT.out HNE.out hn522 HTE.out ((HW.out) hW), PgTo.from HK2.out H3.out⟩
    clear H3
    go_wp2_with fail
    try simp only [Exit.inBlock, Exit.then]
    refine bodyPost_ret (v := .tuple #[]) (by simp [results, Tryz.results90, go_sem]) rfl ?_
    exact ⟨rfl, HF⟩
  have c0 : decide ((X.chars (X.flat [.br k ps]) : Int) ≤ 80 - (n : Int) - 1) = false := decide_eq_false (by omega)
  rw [c0]
  have hex : ∀ e, X.ex f n (.br k ps) e = X.line n (X.flat [.br k ps] ++ e) := fun e => by
    cases f with
    | zero => rw [X.ex]
    | succ f =>
      have e0 : X.kindOf (.br k ps) = k := rfl
      unfold X.ex
      rw [if_neg hW, e0, if_neg (by omega), if_neg (by omega), if_neg (by omega), if_neg (by omega), if_neg (by omega), if_neg (by omega), if_neg (by omega)]
  have HEX := hide hex
  clear hex
  go_wp2_with fail
  refine (gadd_any n i te Q R ls w2 HG2.out (by omega)).mono ?_
  rintro e w3 ⟨rfl, H3⟩
  have HF : Hid (∃ ls', X.SG L i (X.nt (.br k ps)).length ls' (X.ex f n (.br k ps)) ∧ PgTo w Q R (ls ++ ls') w3) := ⟨_, X.SG.whole HAT.out HNE.out hn522 HTE.out HEX.out, PgTo.from HK2.out H3.out⟩
  clear H3
  go_wp2_with fail
  go_end0
  exact ⟨rfl, HF⟩
set_option maxRecDepth 100000 in
set_option maxHeartbeats 8000000 in
theorem gexpr_let (L : List X.Lf) (hL : L.length ≤ 268435456) (hF : (X.flt L).length ≤ 8589934592) (ps : List X.Part) (ta tb tc td : X.Tok) (p q : X.Part) (hsp : X.pts ps = [X.lf ta, X.lf tb, X.lf tc, p, X.lf td, q]) (hq : X.Sh q) (ih : XC L q) (hsh : X.Sh (.br 7 ps)) : XC L (.br 7 ps) := by
  intro f n i w Q R rm D v ls hr hg h hA hf hd hl
  have hne : X.nt (.br 7 ps) ≠ [] := hsh.ne
  have hfl := X.fl_len false (.br 7 ps)
  have hMne : X.fl false (.br 7 ps) ≠ [] := fun e => hne (List.length_eq_zero_iff.1 (by rw [← hfl, e]; rfl))
  have hle := hA.le
  rw [hfl] at hle
  obtain ⟨ao, cap, hv, hc1, hc2, -⟩ := h.kid
  have HPT := hide h
  subst hv
  have hkk : X.kindOf (.br 7 ps) = 7 := rfl
  rw [hkk] at HPT ⊢
  have HW : Hid (n + X.chars (X.flat [.br 7 ps]) + 1 ≤ 80 → ∀ e, X.ex f n (.br 7 ps) e = X.line n (X.flat [.br 7 ps] ++ e)) := fun h e => X.ex_fit h
  have hfe : X.flat [.br 7 ps] = X.flt (X.fl false (.br 7 ps)) := X.flat_one _
  obtain ⟨te, hteq⟩ : ∃ te, te = i + (X.nt (.br 7 ps)).length := ⟨_, rfl⟩
  rw [← hteq] at HPT ⊢
  obtain ⟨nn, hnn⟩ : ∃ nn, nn = (X.tks (X.kidsOf (.br 7 ps))).length := ⟨_, rfl⟩
  rw [← hnn] at HPT ⊢
  have k1 : Below w.heap.size w (w.alloc (.cells #[.int .i64 7, .int .i64 i, .int .i64 te, .slice ao nn cap] 95)) := (Below.refl _ w).alloc (Nat.le_refl _) _
  have HFIT := hide (fun W (hI : IsRow W R rm L) => afits_any L (X.fl false (.br 7 ps)) i te R rm W 7 ao nn cap (80 - (n : Int) - 1) hI hA hMne (by rw [hfl]; exact hteq) hL hF (by omega) (by omega))
  have hbx : (w.alloc (.cells #[.int .i64 7, .int .i64 i, .int .i64 te, .slice ao nn cap] 95)).heap[w.heap.size]? = some (.cells #[.int .i64 7, .int .i64 i, .int .i64 te, .slice ao nn cap] 95 (0, 0)) := heap_alloc_new w _
  have hn522 : n ≤ 522 := by omega
  have HROW := hide (hr.below k1)
  have HG := hide hg
  have HK1 := hide k1
  have HBX := hide hbx
  have HAT := hide hA
  have HTE := hide hteq
  have HNN := hide hnn
  have HFE := hide hfe
  obtain ⟨lv0, hlv0⟩ := hg
  have q0 := cell_of_row _ _ 0 _ _ _ (hlv0.below k1).blk
  have hQl : Q < w.heap.size := heap_lt hlv0.blk
  have p0 := cell_of_row _ _ 0 _ _ _ hbx
  have p1 := cell_of_row _ _ 1 _ _ _ hbx
  have p2 := cell_of_row _ _ 2 _ _ _ hbx
  have p3 := cell_of_row _ _ 3 _ _ _ hbx
  have HNE := hide hne
  have hwr1 : IntKind.i64.wrap (80 - (n : Int)) = 80 - (n : Int) := by rw [IntKind.wrap_i64]; omega
  have hwr2 : IntKind.i64.wrap (80 - (n : Int) - 1) = 80 - (n : Int) - 1 := by rw [IntKind.wrap_i64]; omega
  clear hr h hA k1 hbx hlv0 hteq hnn hfe hMne hne hkk hc1 hc2
  go_enter Tryz.func90, Tryz.ntmps90
  go_wp2_with fail
  generalize w.alloc (.cells #[.int .i64 7, .int .i64 i, .int .i64 te, .slice ao nn cap] 95) = W at *
  refine wp_region_noPanic ?_
  refine wpTo_start (S := fun w' => w'.cell? ⟨Q, 0, none⟩ = some (.pointer (some ⟨R, 0, none⟩)) ∧ w'.cell? ⟨w.heap.size, 0, none⟩ = some (.int .i64 7) ∧ w'.cell? ⟨w.heap.size, 1, none⟩ = some (.int .i64 i) ∧ w'.cell? ⟨w.heap.size, 2, none⟩ = some (.int .i64 te) ∧ w'.cell? ⟨w.heap.size, 3, none⟩ = some (.slice ao nn cap)) (z := 9) (by kernel_rfl) ?_
  have hS : W.drew.cell? ⟨Q, 0, none⟩ = some (.pointer (some ⟨R, 0, none⟩)) ∧ W.drew.cell? ⟨w.heap.size, 0, none⟩ = some (.int .i64 7) ∧ W.drew.cell? ⟨w.heap.size, 1, none⟩ = some (.int .i64 i) ∧ W.drew.cell? ⟨w.heap.size, 2, none⟩ = some (.int .i64 te) ∧ W.drew.cell? ⟨w.heap.size, 3, none⟩ = some (.slice ao nn cap) := ⟨q0, p0, p1, p2, p3⟩
  iterate 8 (refine wpTo_nx (v := ?_) rfl rfl (by kernel_rfl) (by decide) (by kernel_rfl) (by kernel_rfl) (fun _ _ _ h => h) (Or.inl ⟨by rfl, ?_⟩) hS ?_; rotate_left; (· (intro wx hSw; (try dsimp only at hSw); go_simp; try (with_reducible rfl))); simp only [Act.put, List.setIfInBounds_toArray, List.set_cons_zero, List.set_cons_succ])
  refine wpTo_one (i := 8) (by kernel_rfl) rfl (fun K hK => ?_)
  go_simp
  refine ((HFIT.out) _ ((HROW.out).below ((Below.refl _ W).drew))).mono ?_
  rintro e w2 ⟨rfl, B2⟩
  have b2 : Below W.heap.size W w2 := ((Below.refl _ W).drew).trans B2
  have c2 := Kp.ofBelow b2 (fun _ => False)
  replace q0 := c2.cellv q0 id
  replace p0 := c2.cellv p0 id
  replace p1 := c2.cellv p1 id
  replace p2 := c2.cellv p2 id
  replace p3 := c2.cellv p3 id
  go_simp
  refine hK.out _ _ (fun _ => ⟨q0, p0, p1, p2, p3⟩) (fun _ => wpTo_end (by kernel_rfl) ?_)
  clear hK K hS c2
  refine NoPanic.normal ?_
  have HK2 : Hid (Below w.heap.size w w2) := (HK1.out).trans (b2.mono (HK1.out).size)
  have HR2 := hide ((HROW.out).below b2)
  have HG2 : Hid (∃ lv, IsPg w2 Q R ls lv) := by
    obtain ⟨lv, hlv⟩ := HG.out
    exact ⟨lv, hlv.below HK2.out⟩
  have HPT2 := hide ((HPT.out).kept (Kp.ofBelow HK2.out (fun _ => False)) (fun _ h => h.elim))
  have HBX2 := hide ((Kp.ofBelow b2 (fun _ => False)).heap HBX.out id)
  clear b2 B2 HROW HG HK1 HBX HPT HFIT
  rw [← HFE.out]
  by_cases hW : n + X.chars (X.flat [.br 7 ps]) + 1 ≤ 80
  · have c0 : decide ((X.chars (X.flat [.br 7 ps]) : Int) ≤ 80 - (n : Int) - 1) = true := decide_eq_true (by omega)
    rw [c0]
    go_wp2_with fail
    refine (gadd_any n i te Q R ls w2 HG2.out (by omega)).mono ?_
    rintro e w3 ⟨rfl, H3⟩
    have HF : Hid (∃ ls', X.SG L i (X.nt (.br 7 ps)).length ls' (X.ex f n (.br 7 ps)) ∧ PgTo w Q R (ls ++ ls') w3) := ⟨_, X.SG.whole HAT.out HNE.out hn522 HTE.out ((HW.out) hW), PgTo.from HK2.out H3.out⟩
    clear H3
    go_wp2_with fail
    try simp only [Exit.inBlock, Exit.then]
    refine bodyPost_ret (v := .tuple #[]) (by simp [results, Tryz.results90, go_sem]) rfl ?_
    exact ⟨rfl, HF⟩
  have c0 : decide ((X.chars (X.flat [.br 7 ps]) : Int) ≤ 80 - (n : Int) - 1) = false := decide_eq_false (by omega)
  rw [c0]
  obtain ⟨f', rfl⟩ : ∃ f', f = f' + 1 := ⟨f - 1, by have := List.length_pos_iff.2 HNE.out; omega⟩
  have hex : ∀ e, X.ex (f' + 1) n (.br 7 ps) e = X.line n (X.flat [X.lf ta, X.lf tb, X.lf tc, p, X.lf td]) ++ X.ex f' n q e := fun e => by
    conv => lhs; unfold X.ex
    rw [if_neg hW, show X.kindOf (.br 7 ps) = 7 from rfl, if_pos rfl, show X.kidsOf (.br 7 ps) = ps from rfl, hsp]
    rfl
  have hflsM : X.fl false (.br 7 ps) = X.fls false [X.lf ta, X.lf tb, X.lf tc, p, X.lf td] ++ X.fl false q := by
    rw [X.fl_br, X.fls_pts, hsp, ← X.fls_one false q, ← X.fls_append]; rfl
  have htk : X.tks (X.kidsOf (.br 7 ps)) = X.tks [X.lf ta, X.lf tb, X.lf tc, p, X.lf td] ++ [q] := by
    rw [show X.kidsOf (.br 7 ps) = ps from rfl, X.tks_pts, hsp]
    have := X.tks_append [X.lf ta, X.lf tb, X.lf tc, p, X.lf td] [q]
    rw [X.tks_one hq.ne] at this
    exact this
  have hMt : (X.nts' (X.tks [X.lf ta, X.lf tb, X.lf tc, p, X.lf td])).length = (X.fls false [X.lf ta, X.lf tb, X.lf tc, p, X.lf td]).length := by rw [X.nts_tks, X.fls_len]
  have hMn : X.fls false [X.lf ta, X.lf tb, X.lf tc, p, X.lf td] ≠ [] := fun e => by
    have h1 := congrArg List.length e
    rw [X.fls_len, X.nts_cons, X.nt_lf, if_pos (X.mem_pts hsp (by simp)), List.length_append] at h1
    simp at h1
  have hnp : (X.nt (.br 7 ps)).length = (X.fls false [X.lf ta, X.lf tb, X.lf tc, p, X.lf td]).length + (X.nt q).length := by rw [← X.fl_len false, hflsM, List.length_append, X.fl_len]
  have hdq : n + X.dp q ≤ 522 := by
    have := X.dp_pts (k := 7) (by decide) hsp (p := q) (by simp)
    first | (rw [if_neg (by decide)] at this; omega) | (rw [if_pos (by decide)] at this; omega)
  have hMp := List.length_pos_iff.2 hMn
  have HA2 := hide HAT.out
  rw [hflsM] at HA2
  have HT := hide (fun W v hr hg hp => gtail_any L (.br 7 ps) q (X.tks [X.lf ta, X.lf tb, X.lf tc, p, X.lf td]) htk ih f' n n i W Q R rm D v ls hr hg hp (by rw [hMt]; exact (HA2.out).right) (by omega) hdq (by omega))
  have HEND : Hid (∀ ls', X.SG L (i + (X.nts' (X.tks [X.lf ta, X.lf tb, X.lf tc, p, X.lf td])).length) (X.nt q).length ls' (X.ex f' n q) → X.SG L i (X.nt (.br 7 ps)).length ([(n, i, i + (X.nts' (X.tks [X.lf ta, X.lf tb, X.lf tc, p, X.lf td])).length)] ++ ls') (X.ex (f' + 1) n (.br 7 ps))) := fun ls' h => by
    rw [hMt] at h ⊢
    have h1 := X.RG.first (n := n) (j := i + (X.fls false [X.lf ta, X.lf tb, X.lf tc, p, X.lf td]).length) (HA2.out).left hMn hn522 rfl
    exact (h1.then h).of hnp.symm rfl (fun e => (hex e).symm)
  clear hex hflsM htk hMt hMn hnp hdq hMp HA2 HW
  go_wp2_with fail
  refine ((HT.out) w2 _ HR2.out HG2.out HPT2.out).mono ?_
  rintro e w3 ⟨rfl, H3⟩
  have HF : Hid (∃ ls', X.SG L i (X.nt (.br 7 ps)).length ls' (X.ex (f' + 1) n (.br 7 ps)) ∧ PgTo w Q R (ls ++ ls') w3) := by
    obtain ⟨ls', h1, h2⟩ := H3.out
    exact ⟨_, (HEND.out) ls' h1, PgTo.from HK2.out h2⟩
  clear H3
  go_wp2_with fail
  go_end0
  exact ⟨rfl, HF⟩
set_option maxRecDepth 100000 in
set_option maxHeartbeats 8000000 in
theorem gexpr_fun (L : List X.Lf) (hL : L.length ≤ 268435456) (hF : (X.flt L).length ≤ 8589934592) (ps : List X.Part) (ta tb : X.Tok) (qs : List X.Part) (q : X.Part) (hsp : X.pts ps = [X.lf ta, .br 6 qs, X.lf tb, q]) (hq : X.Sh q) (ih : XC L q) (hsh : X.Sh (.br 9 ps)) : XC L (.br 9 ps) := by
  intro f n i w Q R rm D v ls hr hg h hA hf hd hl
  have hne : X.nt (.br 9 ps) ≠ [] := hsh.ne
  have hfl := X.fl_len false (.br 9 ps)
  have hMne : X.fl false (.br 9 ps) ≠ [] := fun e => hne (List.length_eq_zero_iff.1 (by rw [← hfl, e]; rfl))
  have hle := hA.le
  rw [hfl] at hle
  obtain ⟨ao, cap, hv, hc1, hc2, -⟩ := h.kid
  have HPT := hide h
  subst hv
  have hkk : X.kindOf (.br 9 ps) = 9 := rfl
  rw [hkk] at HPT ⊢
  have HW : Hid (n + X.chars (X.flat [.br 9 ps]) + 1 ≤ 80 → ∀ e, X.ex f n (.br 9 ps) e = X.line n (X.flat [.br 9 ps] ++ e)) := fun h e => X.ex_fit h
  have hfe : X.flat [.br 9 ps] = X.flt (X.fl false (.br 9 ps)) := X.flat_one _
  obtain ⟨te, hteq⟩ : ∃ te, te = i + (X.nt (.br 9 ps)).length := ⟨_, rfl⟩
  rw [← hteq] at HPT ⊢
  obtain ⟨nn, hnn⟩ : ∃ nn, nn = (X.tks (X.kidsOf (.br 9 ps))).length := ⟨_, rfl⟩
  rw [← hnn] at HPT ⊢
  have k1 : Below w.heap.size w (w.alloc (.cells #[.int .i64 9, .int .i64 i, .int .i64 te, .slice ao nn cap] 95)) := (Below.refl _ w).alloc (Nat.le_refl _) _
  have HFIT := hide (fun W (hI : IsRow W R rm L) => afits_any L (X.fl false (.br 9 ps)) i te R rm W 9 ao nn cap (80 - (n : Int) - 1) hI hA hMne (by rw [hfl]; exact hteq) hL hF (by omega) (by omega))
  have hbx : (w.alloc (.cells #[.int .i64 9, .int .i64 i, .int .i64 te, .slice ao nn cap] 95)).heap[w.heap.size]? = some (.cells #[.int .i64 9, .int .i64 i, .int .i64 te, .slice ao nn cap] 95 (0, 0)) := heap_alloc_new w _
  have hn522 : n ≤ 522 := by omega
  have HROW := hide (hr.below k1)
  have HG := hide hg
  have HK1 := hide k1
  have HBX := hide hbx
  have HAT := hide hA
  have HTE := hide hteq
  have HNN := hide hnn
  have HFE := hide hfe
  obtain ⟨lv0, hlv0⟩ := hg
  have q0 := cell_of_row _ _ 0 _ _ _ (hlv0.below k1).blk
  have hQl : Q < w.heap.size := heap_lt hlv0.blk
  have p0 := cell_of_row _ _ 0 _ _ _ hbx
  have p1 := cell_of_row _ _ 1 _ _ _ hbx
  have p2 := cell_of_row _ _ 2 _ _ _ hbx
  have p3 := cell_of_row _ _ 3 _ _ _ hbx
  have HNE := hide hne
  have hwr1 : IntKind.i64.wrap (80 - (n : Int)) = 80 - (n : Int) := by rw [IntKind.wrap_i64]; omega
  have hwr2 : IntKind.i64.wrap (80 - (n : Int) - 1) = 80 - (n : Int) - 1 := by rw [IntKind.wrap_i64]; omega
  clear hr h hA k1 hbx hlv0 hteq hnn hfe hMne hne hkk hc1 hc2
  go_enter Tryz.func90, Tryz.ntmps90
  go_wp2_with fail
  generalize w.alloc (.cells #[.int .i64 9, .int .i64 i, .int .i64 te, .slice ao nn cap] 95) = W at *
  refine wp_region_noPanic ?_
  refine wpTo_start (S := fun w' => w'.cell? ⟨Q, 0, none⟩ = some (.pointer (some ⟨R, 0, none⟩)) ∧ w'.cell? ⟨w.heap.size, 0, none⟩ = some (.int .i64 9) ∧ w'.cell? ⟨w.heap.size, 1, none⟩ = some (.int .i64 i) ∧ w'.cell? ⟨w.heap.size, 2, none⟩ = some (.int .i64 te) ∧ w'.cell? ⟨w.heap.size, 3, none⟩ = some (.slice ao nn cap)) (z := 9) (by kernel_rfl) ?_
  have hS : W.drew.cell? ⟨Q, 0, none⟩ = some (.pointer (some ⟨R, 0, none⟩)) ∧ W.drew.cell? ⟨w.heap.size, 0, none⟩ = some (.int .i64 9) ∧ W.drew.cell? ⟨w.heap.size, 1, none⟩ = some (.int .i64 i) ∧ W.drew.cell? ⟨w.heap.size, 2, none⟩ = some (.int .i64 te) ∧ W.drew.cell? ⟨w.heap.size, 3, none⟩ = some (.slice ao nn cap) := ⟨q0, p0, p1, p2, p3⟩
  iterate 8 (refine wpTo_nx (v := ?_) rfl rfl (by kernel_rfl) (by decide) (by kernel_rfl) (by kernel_rfl) (fun _ _ _ h => h) (Or.inl ⟨by rfl, ?_⟩) hS ?_; rotate_left; (· (intro wx hSw; (try dsimp only at hSw); go_simp; try (with_reducible rfl))); simp only [Act.put, List.setIfInBounds_toArray, List.set_cons_zero, List.set_cons_succ])
  refine wpTo_one (i := 8) (by kernel_rfl) rfl (fun K hK => ?_)
  go_simp
  refine ((HFIT.out) _ ((HROW.out).below ((Below.refl _ W).drew))).mono ?_
  rintro e w2 ⟨rfl, B2⟩
  have b2 : Below W.heap.size W w2 := ((Below.refl _ W).drew).trans B2
  have c2 := Kp.ofBelow b2 (fun _ => False)
  replace q0 := c2.cellv q0 id
  replace p0 := c2.cellv p0 id
  replace p1 := c2.cellv p1 id
  replace p2 := c2.cellv p2 id
  replace p3 := c2.cellv p3 id
  go_simp
  refine hK.out _ _ (fun _ => ⟨q0, p0, p1, p2, p3⟩) (fun _ => wpTo_end (by kernel_rfl) ?_)
  clear hK K hS c2
  refine NoPanic.normal ?_
  have HK2 : Hid (Below w.heap.size w w2) := (HK1.out).trans (b2.mono (HK1.out).size)
  have HR2 := hide ((HROW.out).below b2)
  have HG2 : Hid (∃ lv, IsPg w2 Q R ls lv) := by
    obtain ⟨lv, hlv⟩ := HG.out
    exact ⟨lv, hlv.below HK2.out⟩
  have HPT2 := hide ((HPT.out).kept (Kp.ofBelow HK2.out (fun _ => False)) (fun _ h => h.elim))
  have HBX2 := hide ((Kp.ofBelow b2 (fun _ => False)).heap HBX.out id)
  clear b2 B2 HROW HG HK1 HBX HPT HFIT
  rw [← HFE.out]
  by_cases hW : n + X.chars (X.flat [.br 9 ps]) + 1 ≤ 80
  · have c0 : decide ((X.chars (X.flat [.br 9 ps]) : Int) ≤ 80 - (n : Int) - 1) = true := decide_eq_true (by omega)
    rw [c0]
    go_wp2_with fail
    refine (gadd_any n i te Q R ls w2 HG2.out (by omega)).mono ?_
    rintro e w3 ⟨rfl, H3⟩
    have HF : Hid (∃ ls', X.SG L i (X.nt (.br 9 ps)).length ls' (X.ex f n (.br 9 ps)) ∧ PgTo w Q R (ls ++ ls') w3) := ⟨_, X.SG.whole HAT.out HNE.out hn522 HTE.out ((HW.out) hW), PgTo.from HK2.out H3.out⟩
    clear H3
    go_wp2_with fail
    try simp only [Exit.inBlock, Exit.then]
    refine bodyPost_ret (v := .tuple #[]) (by simp [results, Tryz.results90, go_sem]) rfl ?_
    exact ⟨rfl, HF⟩
  have c0 : decide ((X.chars (X.flat [.br 9 ps]) : Int) ≤ 80 - (n : Int) - 1) = false := decide_eq_false (by omega)
  rw [c0]
  obtain ⟨f', rfl⟩ : ∃ f', f = f' + 1 := ⟨f - 1, by have := List.length_pos_iff.2 HNE.out; omega⟩
  have hex : ∀ e, X.ex (f' + 1) n (.br 9 ps) e = X.line n (X.flat [X.lf ta, .br 6 qs, X.lf tb]) ++ X.ex f' (n + 2) q e := fun e => by
    conv => lhs; unfold X.ex
    rw [if_neg hW, show X.kindOf (.br 9 ps) = 9 from rfl, if_neg (by decide), if_neg (by decide), if_pos rfl, show X.kidsOf (.br 9 ps) = ps from rfl, hsp]
    rfl
  have hflsM : X.fl false (.br 9 ps) = X.fls false [X.lf ta, .br 6 qs, X.lf tb] ++ X.fl false q := by
    rw [X.fl_br, X.fls_pts, hsp, ← X.fls_one false q, ← X.fls_append]; rfl
  have htk : X.tks (X.kidsOf (.br 9 ps)) = X.tks [X.lf ta, .br 6 qs, X.lf tb] ++ [q] := by
    rw [show X.kidsOf (.br 9 ps) = ps from rfl, X.tks_pts, hsp]
    have := X.tks_append [X.lf ta, .br 6 qs, X.lf tb] [q]
    rw [X.tks_one hq.ne] at this
    exact this
  have hMt : (X.nts' (X.tks [X.lf ta, .br 6 qs, X.lf tb])).length = (X.fls false [X.lf ta, .br 6 qs, X.lf tb]).length := by rw [X.nts_tks, X.fls_len]
  have hMn : X.fls false [X.lf ta, .br 6 qs, X.lf tb] ≠ [] := fun e => by
    have h1 := congrArg List.length e
    rw [X.fls_len, X.nts_cons, X.nt_lf, if_pos (X.mem_pts hsp (by simp)), List.length_append] at h1
    simp at h1
  have hnp : (X.nt (.br 9 ps)).length = (X.fls false [X.lf ta, .br 6 qs, X.lf tb]).length + (X.nt q).length := by rw [← X.fl_len false, hflsM, List.length_append, X.fl_len]
  have hdq : (n + 2) + X.dp q ≤ 522 := by
    have := X.dp_pts (k := 9) (by decide) hsp (p := q) (by simp)
    first | (rw [if_neg (by decide)] at this; omega) | (rw [if_pos (by decide)] at this; omega)
  have hMp := List.length_pos_iff.2 hMn
  have HA2 := hide HAT.out
  rw [hflsM] at HA2
  have HT := hide (fun W v hr hg hp => gtail_any L (.br 9 ps) q (X.tks [X.lf ta, .br 6 qs, X.lf tb]) htk ih f' n (n + 2) i W Q R rm D v ls hr hg hp (by rw [hMt]; exact (HA2.out).right) (by omega) hdq (by omega))
  have HEND : Hid (∀ ls', X.SG L (i + (X.nts' (X.tks [X.lf ta, .br 6 qs, X.lf tb])).length) (X.nt q).length ls' (X.ex f' (n + 2) q) → X.SG L i (X.nt (.br 9 ps)).length ([(n, i, i + (X.nts' (X.tks [X.lf ta, .br 6 qs, X.lf tb])).length)] ++ ls') (X.ex (f' + 1) n (.br 9 ps))) := fun ls' h => by
    rw [hMt] at h ⊢
    have h1 := X.RG.first (n := n) (j := i + (X.fls false [X.lf ta, .br 6 qs, X.lf tb]).length) (HA2.out).left hMn hn522 rfl
    exact (h1.then h).of hnp.symm rfl (fun e => (hex e).symm)
  clear hex hflsM htk hMt hMn hnp hdq hMp HA2 HW
  go_wp2_with fail
  refine ((HT.out) w2 _ HR2.out HG2.out HPT2.out).mono ?_
  rintro e w3 ⟨rfl, H3⟩
  have HF : Hid (∃ ls', X.SG L i (X.nt (.br 9 ps)).length ls' (X.ex (f' + 1) n (.br 9 ps)) ∧ PgTo w Q R (ls ++ ls') w3) := by
    obtain ⟨ls', h1, h2⟩ := H3.out
    exact ⟨_, (HEND.out) ls' h1, PgTo.from HK2.out h2⟩
  clear H3
  go_wp2_with fail
  go_end0
  exact ⟨rfl, HF⟩
end Go.Proofs.YtohpfegpnbdfnaaGreatDoor
