/- The start: an input's world without loops and views; the run of the program. -/
import Derived.Test.YtdlnlcjmjgbikaaSm
import Derived.Conc.HoldsTime
namespace Go.Proofs.Ytdlnlcjmjgbikaa
open Go Go.Conc

noncomputable section
/-- The blocks that the one goroutine does not have. -/
def odds (W : World) (r : Nat) : Prop := ∃ o, W.heap[r]? = some o ∧ Odd o
open Classical in
/-- The input's world without them. -/
def calm (W : World) : World := { W with heap := W.heap.map fun o => if Odd o then psn else o }
theorem psn_calm : ¬ Odd psn := id
theorem calm_get (W : World) (r : Nat) (h : ¬ odds W r) : (calm W).heap[r]? = W.heap[r]? := by
  simp only [calm, Array.getElem?_map]
  cases e : W.heap[r]? with
  | none => rfl
  | some o =>
    rw [Option.map_some, if_neg]
    exact fun ho => h ⟨o, e, ho⟩
theorem calm_odd (W : World) (r : Nat) (h : odds W r) : (calm W).heap[r]? = some psn := by
  obtain ⟨o, e, ho⟩ := h
  simp only [calm, Array.getElem?_map, e, Option.map_some, if_pos ho]
theorem calm_rel (W : World) : Rel (odds W) (calm W) W := ⟨by simp [calm], fun r hr => calm_get W r hr, fun r hr => calm_odd W r hr, rfl, rfl⟩
theorem calm_gd (W : World) : Gd (calm W) := by
  intro r o ho e
  by_cases h : odds W r
  · rw [calm_odd W r h] at e
    cases e
    exact psn_calm ho
  · rw [calm_get W r h] at e
    exact h ⟨o, e, ho⟩
def shun (W : World) (l : Loc) : Prop := (∃ a : Addr, l = .cell a ∧ odds W a.block) ∨ ∃ r, l = .obj r ∧ odds W r
/-- How the law ends. -/
def Rend (f : FuncId) (t : Nat) (PQ : Value → World → Prop) (fr : Frame) (c : List Frame) (v : World) : Prop :=
  c = [] ∧ fr.mode = .returning ∧ fr.defers = [] ∧ fr.fn = f ∧ fr.kind = .normal ∧ PQ (fr.tmps.getD t undef) v
theorem end_step {P : Program} {f : FuncId} {fn : Func} (hf : P.funcs[f]? = some fn) {t : Nat} (hr : fn.results = #[.tmp t]) (hi : P.inits.idxOf? f = none) (T : Array Value) (todo : List Item) (w : World) :
    stepG P true (G ⟨f, T, todo, [], .returning, .normal, none⟩ []) w = .ended (.done (T.getD t undef)) w #[] := by
  have e : ∀ w, (results fn T).runT P w #[] = (.ok (T.getD t undef) w, #[]) := by
    intro w
    simp [results, hr]
  simp [G, stepG, unwind, doReturn, hf, e, hi, GStep.after, Go.Conc.seen_none, -Sem.runT_eq]
theorem tr_nil (Shun : Loc → Prop) : Tr Shun 0 #[] := by
  have na : ∀ i, Trace.act? (#[] : Trace) i = none := fun i => by simp [Trace.act?]
  refine ⟨fun said hr => ?_, fun i a ha => ?_, fun i g hi => ?_, rfl⟩
  · obtain ⟨i, j, _, ⟨a, b, ha, _⟩, _⟩ := hr
    rw [na] at ha
    cases ha
  · simp [touchAt, na] at ha
  · simp [Trace.g?] at hi
/-- ████ FROM THE ONE GOROUTINE's GOOD END TO THE PROGRAM'S RUN. ████ -/
theorem start_runs {base : List Frame} {f : FuncId} {fn : Func} (hf : Try.prog.funcs[f]? = some fn) (hw : f ∈ whites) (hb : fn.body.isSome = true) {t : Nat} (hr : fn.results = #[.tmp t]) (hi : Try.prog.inits.idxOf? f = none) (h27 : f ≠ 27) {args : Array Value} {W : World} (hgl : Sq.prog.globals.size ≤ W.heap.size) (hX : ∀ r, odds W r → Sq.prog.globals.size ≤ r)
    {PQ : Value → World → Prop} {Post : Value → World → Prop} (h : Ends Sq.prog base (Rend f t PQ) (Frame.enter Sq.prog f args .normal) [] (calm W))
    (hP : ∀ X v w x, PQ x v → (∀ r, odds W r → X r) → (∀ r, X r → r < W.heap.size → odds W r) → Rel X v w → Kept (odds W) W w → Post x w) :
    Wd Try.prog (Go.Conc.Good Try.prog Post) (crowd #[G (Frame.enter Try.prog f args .normal) []] W none) #[] := by
  have hEnd : EndsAll (Go.Conc.Good Try.prog Post) base [] (Rend f t PQ) (odds W) W := by
    intro X Shun fr fr' v w gs sl t' q hS hfr hm hd hrel hg h0 hXB hk hends hg0 hL hT
    have hR : Rend f t PQ fr' [] v := by
      cases hends with
      | stop h => exact h
      | step f0 l u e hl hs hk =>
        exfalso
        rcases hl with hl | hl | hl
        · exact hl rfl
        · exact hm (hfr.mode.symm.trans hl)
        · exact hl (hfr.defers.trans hd)
    obtain ⟨_, hret, _, hfn, hkd, hpq⟩ := hR
    refine end_fin hg0 (fun w1 ⟨d, e⟩ => ?_) hL hT
    subst e
    refine ⟨rfl, rfl, fr'.tmps.getD t undef, #[], ?_, by simp, rfl, hP X v (w.at d) _ hpq h0 hXB (rel_same hrel rfl (fun _ _ => rfl) rfl rfl) hk⟩
    obtain ⟨fn0, tmps, todo, defers, mode, kd, rd⟩ := fr
    obtain ⟨fn', tmps', todo', defers', mode', kd', rd'⟩ := fr'
    obtain ⟨k1, k2, k3, k4, k5, k6, k7, k8, k9, k10, k11⟩ := hfr
    simp only at k1 k3 k4 k6 k7 k9 hd hret hfn hkd
    subst k1 k3 k4 k6 k7 k9 hfn hkd hret hd
    exact end_step hf hr hi _ _ _
  have hall := all_runs (X0 := odds W) (W0 := W) hgl (fun fr c v h => ⟨h.1, h.2.1, h.2.2.1⟩) (fun fr c v h => by rw [h.2.2.2.1]; exact h27) hEnd h
  refine hall (odds W) (shun W) (Frame.enter Try.prog f args .normal) [] W 1 hX (fun l h => h) (Nat.le_refl _) (fun r h _ => h) ?_ ?_ .nil (calm_rel W) (calm_gd W) (fun r h => h) (fun r _ => rfl) _ none _ (fun _ => 0) rfl rfl ?_ (tr_nil _)
  · intro a ha l e
    rw [List.mem_singleton.1 ha] at e
    cases e
  · obtain ⟨fn', hf', hb'⟩ : ∃ fn', Sq.prog.funcs[f]? = some fn' ∧ fn'.body.isSome = true := by
      refine ⟨_, (sq_func f).trans (congrArg (Option.map (seqFn f)) hf), ?_⟩
      simp [seqFn, hw, hb]
    exact enter_rel sq_bodies args (.inl rfl) hf' hb'
  · refine ⟨fun i g h0 _ hg => ?_, fun j hj => ?_⟩
    · have := (Array.getElem?_eq_some_iff.1 hg).1
      simp at this
      omega
    · rfl
/-- The package variables are cells. -/
theorem globals_rows : (List.range Try.prog.globals.size).all (fun g => (((begin Try.prog (fun _ _ => 0) default).world.heap[g]?).bind Obj.row?).isSome) = true := by kernel_rfl
theorem shaped_odds {W : World} (h : W.ShapedOpen Try.prog) : Sq.prog.globals.size ≤ W.heap.size ∧ ∀ r, odds W r → Sq.prog.globals.size ≤ r := by
  have key : ∀ g, g < Sq.prog.globals.size → ∃ cs t fr, W.heap[g]? = some (.cells cs t fr) := by
    intro g hg
    have hr := List.all_eq_true.1 globals_rows g (List.mem_range.2 hg)
    obtain ⟨⟨z, t⟩, hz⟩ := Option.isSome_iff_exists.1 hr
    obtain ⟨cs, hcs, _⟩ := h.1 g z t hg hz
    exact ⟨cs, t, _, hcs⟩
  refine ⟨?_, fun r hr => ?_⟩
  · refine Classical.byContradiction fun hn => ?_
    obtain ⟨cs, t, fr, e⟩ := key W.heap.size (by omega)
    have := (Array.getElem?_eq_some_iff.1 e).1
    omega
  · refine Classical.byContradiction fun hn => ?_
    obtain ⟨cs, t, fr, e⟩ := key r (by omega)
    obtain ⟨o, eo, ho⟩ := hr
    rw [e] at eo
    cases eo
    exact ho
end
end Go.Proofs.Ytdlnlcjmjgbikaa
