/- A contract of the walk's tools gives a good end in one goroutine, whatever answers come. -/
import Derived.Test.YtdlnlcjmjgbikaaSn
import Derived.Calls
namespace Go.Proofs.Ytdlnlcjmjgbikaa
open Go Go.Conc

noncomputable section
/-- A caller that goes no further. -/
def dumD : Deferred := { target := .fn (.func 1000000) #[], args := #[] }
def dum : Frame := { (default : Frame) with todo := [.code (.refuse "")], mode := .run, defers := [dumD] }
theorem step_go {P : Program} {fr fr1 : Frame} {c c1 : List Frame} {v v1 : World} {es : Array Event} (h : stepG P true (G fr c) v = .go (G fr1 c1) v1 es) : step P (lone fr c v) = .next (lone fr1 c1 v1) :=
  step_lone_go (by show (stepG P true (G fr c) v).bare = _; rw [h]; rfl)
theorem step_ended {P : Program} {fr : Frame} {c : List Frame} {v v1 : World} {o : Outcome} {es : Array Event} (h : stepG P true (G fr c) v = .ended o v1 es) : step P (lone fr c v) = .ended o v1 :=
  step_lone_ended (by show (stepG P true (G fr c) v).bare = _; rw [h]; rfl)
theorem dum_finish (P : Program) (x : Value) (v : World) : ∃ o v1 es, stepG P true (G (dum.finish x) []) v = .ended o v1 es := by
  simp only [dum, Frame.finish, G, stepG, stepG.exec]
  exact ⟨_, _, _, rfl⟩
theorem dum_self (P : Program) (v : World) : ∃ o v1 es, stepG P true (G dum []) v = .ended o v1 es := by
  simp only [dum, G, stepG, stepG.exec]
  exact ⟨_, _, _, rfl⟩
theorem no_func : Sq.prog.funcs[1000000]? = none := (sq_func _).trans (by rw [show Try.prog.funcs[1000000]? = none by kernel_rfl]; rfl)
theorem dum_raise (l : List PanicEntry) (v : World) : ∃ o v1 es, stepG Sq.prog true (G (dum.raise l) []) v = .ended o v1 es := by
  obtain ⟨m, hm⟩ : ∃ m, (invoke dumD.target dumD.args).runT Sq.prog v #[] = (.halt (.stuck m) v, #[]) := by
    have := call_none no_func #[] v #[]
    exact ⟨_, this⟩
  have h1 := unwind_defer (p := Sq.prog) (fn := (default : Frame).fn) (tmps := (default : Frame).tmps) (todo := [.code (.refuse "")]) (d := dumD) (defers := []) (m := .panicking l) (kind := (default : Frame).kind) (cs := []) (w := v) true rfl rfl
  have h2 := deferred_eq (p := Sq.prog) (fn := (default : Frame).fn) (tmps := (default : Frame).tmps) (todo := [.code (.refuse "")]) (d := dumD) (defers := []) (m := .panicking l) (kind := (default : Frame).kind) (cs := []) (w := v) rfl rfl _ hm trivial (fun _ _ e => by cases e)
  exact ⟨_, _, _, h1.trans h2⟩
/-- A frame that leaves does so to where nothing goes on. -/
theorem leave_dum {fr : Frame} (ho : Own Sq.prog sts fr) (hm : fr.mode ≠ .run) (hd : fr.defers = []) (v : World) :
    (∃ o v1 es, stepG Sq.prog true (G fr [dum]) v = .ended o v1 es) ∨ ∃ d v1 es, stepG Sq.prog true (G fr [dum]) v = .go (G d []) v1 es ∧ ∃ o v2 es2, stepG Sq.prog true (G d []) v1 = .ended o v2 es2 := by
  obtain ⟨f, f', hf, hf', hr⟩ := ho.func
  have hk := ho.kinds
  have hr0 := ho.round
  obtain ⟨fn, tmps, todo, defers, mode, kd, rd⟩ := fr
  simp only at hf hk hr0 hm hd
  subst hr0 hd
  cases mode with
  | run => exact absurd rfl hm
  | panicking chain =>
    refine .inr ⟨dum.raise chain, v, #[], ?_, dum_raise chain v⟩
    simp [G, stepG, unwind, Frame.catches, hf]
  | returning =>
    cases e : (results f tmps).runT Sq.prog v #[] with
    | mk r es =>
      cases r with
      | halt h v1 => exact .inl (ended_results hf e)
      | ok x v1 =>
        rcases hk with rfl | rfl
        · refine .inr ⟨dum.finish x, v1, seen Sq.prog fn es, ?_, dum_finish Sq.prog x v1⟩
          simp [G, stepG, unwind, doReturn, hf, e, GStep.after, -Sem.runT_eq]
        · refine .inr ⟨dum, v1, seen Sq.prog fn es, ?_, dum_self Sq.prog v1⟩
          simp only [G, stepG, unwind, doReturn, hf, e, GStep.after]
          simp [dum]
/-- What runs to a frame that leaves comes to it. -/
theorem rch_of_runs {R : Frame → List Frame → World → Prop} {fr' : Frame} {v' : World} (hR : R fr' [] v') : ∀ n {fr : Frame} {c : List Frame} {v : World}, Own Sq.prog sts fr → Owns Sq.prog sts c → Gd v → runN Sq.prog n (lone fr (c ++ [dum]) v) = .next (lone fr' [dum] v') → ∃ m, Rch Sq.prog [dum] R m fr c v
  | 0, fr, c, v, _, _, _, h => by
    simp only [runN, lone, Stepped.next.injEq, Machine.mk.injEq] at h
    obtain ⟨rfl, h2, _⟩ := h
    have h3 : ({ frame := fr, callers := c ++ [dum], status := .running, dying := none } : Goroutine) = { frame := fr', callers := [dum], status := .running, dying := none } := by simpa using h2
    have h4 : fr = fr' := congrArg Goroutine.frame h3
    have h5 : c ++ [dum] = [] ++ [dum] := congrArg Goroutine.callers h3
    obtain rfl := List.append_cancel_right h5
    subst h4
    exact ⟨0, hR⟩
  | n + 1, fr, c, v, ho, hos, hg, h => by
    by_cases hl : c ≠ [] ∨ fr.mode = .run ∨ fr.defers ≠ []
    · rcases own_step (base := [dum]) sq_bodies_own sq_env_own ho hos hl v hg with ⟨o, v1, es, he⟩ | ⟨fr1, c1, v1, es, m, h1, h2, h3, h4, h5, _⟩
      · simp only [runN, step_ended he] at h
        cases h
      · simp only [runN, step_go h1] at h
        obtain ⟨k, hk⟩ := rch_of_runs hR n h4 h5 h3 h
        exact ⟨k + 1, .inr ⟨hl, fr1, c1, v1, es, h1, hk⟩⟩
    · exfalso
      have hc : c = [] := Classical.byContradiction fun hn => hl (.inl hn)
      have hm : fr.mode ≠ .run := fun e => hl (.inr (.inl e))
      have hd : fr.defers = [] := Classical.byContradiction fun hn => hl (.inr (.inr hn))
      subst hc
      rw [List.nil_append] at h
      rcases leave_dum ho hm hd v with ⟨o, v1, es, he⟩ | ⟨d, v1, es, h1, o, v2, es2, h2⟩
      · simp only [runN, step_ended he] at h
        cases h
      · simp only [runN, step_go h1] at h
        cases n with
        | zero =>
          simp only [runN, lone, Stepped.next.injEq, Machine.mk.injEq] at h
          have h3 : ({ frame := d, callers := [], status := .running, dying := none } : Goroutine) = { frame := fr', callers := [dum], status := .running, dying := none } := by simpa using h.2.1
          have h4 : ([] : List Frame) = [dum] := congrArg Goroutine.callers h3
          cases h4
        | succ n =>
          simp only [runN, step_ended h2] at h
          cases h
theorem top_plain {fr fr' : Frame} (h : TopR Sq.prog Sq.prog sts (fun _ => False) fr fr') : FrR Sq.prog sts Sq.prog fr fr' := by
  cases h with
  | plain h => exact h
  | enters _ _ _ h => exact h.elim
/-- ████ A CONTRACT GIVES A GOOD END. ████ -/
theorem ends_of_calls {f : FuncId} {fn : Func} (hf : Sq.prog.funcs[f]? = some fn) (hb : fn.body.isSome = true) {t : Nat} (hr : fn.results = #[.tmp t]) {args : Array Value} {v : World} (hg : Gd v) {PQ : Value → World → Prop} (hPQ : ∀ x v τ d, PQ x v → PQ x (re v τ d))
    (h : ∀ τ d, Calls Sq.prog f args (re v τ d) fun e w' => ∃ x, e = .returned x ∧ PQ x w') : Ends Sq.prog [dum] (Rend f t PQ) (Frame.enter Sq.prog f args .normal) [] v := by
  have ho : Own Sq.prog sts (Frame.enter Sq.prog f args .normal) := by
    exact top_plain (enter_rel sq_bodies_own args (.inl rfl) hf hb)
  refine ends_of_all sq_bodies_own sq_env_own (fun fr c v τ d h => ⟨h.1, h.2.1, h.2.2.1, h.2.2.2.1, h.2.2.2.2.1, hPQ _ _ _ _ h.2.2.2.2.2⟩) ⟨_, [], v, ho, .nil, hg, fun τ d => ?_⟩
  obtain ⟨e, w', fr, ⟨x, rfl, hx⟩, ⟨n, hn⟩, hfn, hm, hd, hk, fn', hf', hres⟩ := h τ d [dum]
  rw [hfn, hf] at hf'
  cases hf'
  have hx2 : fr.tmps.getD t undef = x := by
    rw [show (results fn fr.tmps).run Sq.prog w' = .ok (fr.tmps.getD t undef) w' by simp [results, hr]] at hres
    injection hres
  exact rch_of_runs (R := Rend f t PQ) (fr' := fr) (v' := w') ⟨rfl, hm, hd, hfn, hk, by rw [hx2]; exact hx⟩ n ho .nil (hg.re τ d) hn
/-- ████ FROM A CONTRACT IN ONE GOROUTINE TO THE PROGRAM'S RUN. ████ -/
theorem runs_of_calls {f : FuncId} {fn : Func} (hf : Try.prog.funcs[f]? = some fn) (hw : f ∈ whites) (hb : fn.body.isSome = true) {t : Nat} (hr : fn.results = #[.tmp t]) (hi : Try.prog.inits.idxOf? f = none) (h27 : f ≠ 27) {args : Array Value} {W : World} (hs : W.ShapedOpen Try.prog)
    {PQ : Value → World → Prop} {Post : Value → World → Prop} (hPQ : ∀ x v τ d, PQ x v → PQ x (re v τ d)) (h : ∀ τ d, Calls Sq.prog f args (re (calm W) τ d) fun e w' => ∃ x, e = .returned x ∧ PQ x w')
    (hP : ∀ X v w x, PQ x v → (∀ r, odds W r → X r) → (∀ r, X r → r < W.heap.size → odds W r) → Rel X v w → Kept (odds W) W w → Post x w) :
    ∃ n last o w' t', runNT Try.prog (n + 1) (Go.Conc.solo (G (Frame.enter Try.prog f args .normal) []) W) #[] = (.ended o w', t') ∧ runN Try.prog n (Go.Conc.solo (G (Frame.enter Try.prog f args .normal) []) W) = .next last ∧ step Try.prog last = .ended o w' ∧ Go.Conc.Good Try.prog Post last o w' t' := by
  obtain ⟨hgl, hX⟩ := shaped_odds hs
  have hfq : Sq.prog.funcs[f]? = some (seqFn f fn) := (sq_func f).trans (congrArg (Option.map (seqFn f)) hf)
  have hbq : (seqFn f fn).body.isSome = true := by simp [seqFn, hw, hb]
  have hrq : (seqFn f fn).results = #[.tmp t] := by simp [seqFn, hw, hr]
  exact wd_run (start_runs hf hw hb hr hi h27 hgl hX (ends_of_calls hfq hbq hrq (calm_gd W) hPQ h) hP)
end
end Go.Proofs.Ytdlnlcjmjgbikaa
/- What is read of the input, in one goroutine; what is known of its memory at the end. -/
namespace Go.Proofs.Ytdlnlcjmjgbikaa
open Go Go.Conc

theorem calm_cell {W : World} {a : Addr} {x : Value} (h : W.cell? a = some x) : (calm W).cell? a = some x := by
  have hn : ¬ odds W a.block := by
    rintro ⟨o, e, ho⟩
    unfold World.cell? at h
    rw [e] at h
    cases o <;> first | exact ho | cases h
  unfold World.cell?
  rw [calm_get W _ hn]
  exact h
theorem calm_frozen (W : World) (a : Addr) : (calm W).frozen? a = W.frozen? a := by
  by_cases hn : odds W a.block
  · have e1 := calm_odd W _ hn
    obtain ⟨o, e, ho⟩ := hn
    unfold World.frozen?
    rw [e1, e]
    cases o <;> first | exact ho.elim | rfl
  · unfold World.frozen?
    rw [calm_get W _ hn]
/-- The input's memory at the end. -/
theorem old_kept {W v w : World} {X : Nat → Prop} (hv : ∀ b, b < W.heap.size → v.heap[b]? = (calm W).heap[b]?) (h2 : ∀ r, X r → r < W.heap.size → odds W r) (hr : Rel X v w) (hk : Kept (odds W) W w) : ∀ b, b < W.heap.size → w.heap[b]? = W.heap[b]? := by
  intro b hb
  by_cases ho : odds W b
  · exact hk b ho
  · rw [← hr.same b fun hx => ho (h2 b hx hb), hv b hb, calm_get W b ho]
end Go.Proofs.Ytdlnlcjmjgbikaa
