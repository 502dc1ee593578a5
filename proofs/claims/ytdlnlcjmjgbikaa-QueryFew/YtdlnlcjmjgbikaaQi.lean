/- Frames that return or panic. -/
import Derived.Test.YtdlnlcjmjgbikaaQh
namespace Go.Proofs.Ytdlnlcjmjgbikaa
open Go Go.Conc

section
variable {P Q : Program} {X : Nat → Prop} {St : List TypeId} {Macro : FuncId → Prop}

theorem t_results (hT : Kin P Q) {f f' : Func} (h : f'.results = f.results) (tmps : Array Value) : Tm P Q X (results f' tmps) (results f tmps) := by
  unfold results
  rw [h]
  refine tb (t_mapM _ (fun r => ?_) _) fun vs => tp _
  split
  · exact tp _
  · exact tb (t_asAddr hT _) fun a => t_loadVar hT _ _
theorem finish_rel {a a' : Frame} (h : FrR P St Q a a') (x : Value) : FrR P St Q (a.finish x) (a'.finish x) := by
  obtain ⟨fn, tmps, todo, defers, mode, kind, r⟩ := a
  obtain ⟨fn', tmps', todo', defers', mode', kind', r'⟩ := a'
  obtain ⟨h1, h2, h3, h4, h5, h6, h7, h8, h9, h10, h11⟩ := h
  simp only at h1 h2 h3 h4 h5 h6 h7 h8 h9 h10 h11
  subst h1 h3 h4 h6 h7 h9 h10
  cases h11 with
  | nil => exact ⟨rfl, h2, rfl, rfl, h5, rfl, rfl, h8, rfl, rfl, .nil⟩
  | cons b hk =>
    cases b with
    | code c => exact ⟨rfl, h2, rfl, rfl, h5, rfl, rfl, h8, rfl, rfl, .cons (.code c) hk⟩
    | inBlock id => exact ⟨rfl, h2, rfl, rfl, h5, rfl, rfl, h8, rfl, rfl, .cons (.inBlock id) hk⟩
    | inLoop c => exact ⟨rfl, h2, rfl, rfl, h5, rfl, rfl, h8, rfl, rfl, .cons (.inLoop c) hk⟩
    | inRegion ops todo hops =>
      cases todo with
      | nil => exact ⟨rfl, h2, rfl, rfl, h5, rfl, rfl, h8, rfl, rfl, .cons (.inRegion ops [] hops) hk⟩
      | cons i rest =>
        refine ⟨rfl, h2, ?_, rfl, h5, rfl, rfl, h8, rfl, rfl, .cons (.inRegion ops rest hops) hk⟩
        simp only [Frame.finish, cut_dst_get]
theorem mode_rel {a a' : Frame} (h : FrR P St Q a a') (m : FrameMode) : FrR P St Q { a with mode := m } { a' with mode := m } :=
  ⟨h.fn, h.func, h.tmps, h.defers, h.okd, rfl, h.kind, h.kinds, h.round, h.round', h.todo⟩
theorem raise_rel {a a' : Frame} (h : FrR P St Q a a') (l : List PanicEntry) : FrR P St Q (a.raise l) (a'.raise l) := by
  rw [Frame.raise_mode, Frame.raise_mode, h.mode]
  exact mode_rel h _

/-- Where a frame goes back to another one of these. -/
theorem sim_pop {main : Bool} {fr fr' a a' : Frame} {c c' base base' : List Frame} {s' s : Sem Value} (hs : Tm P Q X s' s) (ha : FrR P St Q a a') (hc : All2 (FrR P St Q) c c') (fn : FuncId) (g : Frame → Value → Frame) (hg : ∀ x, FrR P St Q (g a x) (g a' x))
    (hQ : ∀ v x v1 es, s'.runT Q v #[] = (.ok x v1, es) → stepG Q true (G fr' ((a' :: c') ++ base')) v = .go (G (g a' x) (c' ++ base')) v1 (seen Q fn es))
    (hQ2 : ∀ v h v1 es, s'.runT Q v #[] = (.halt h v1, es) → ∃ o v2 es2, stepG Q true (G fr' ((a' :: c') ++ base')) v = .ended o v2 es2)
    (hP : ∀ v x v1 es, s.runT P v #[] = (.ok x v1, es) → stepG P main (G fr ((a :: c) ++ base)) v = .go (G (g a x) (c ++ base)) v1 (seen P fn es)) :
    Sim1 P Q X St Macro main fr fr' (a :: c) (a' :: c') base base' := by
  have _ := ha
  intro v hgd
  obtain ⟨hf, hg1, n, hon, hm⟩ := hs v #[] hgd
  cases hrun : s'.runT Q v #[] with
  | mk r es1 =>
    rw [hrun] at hf hg1 hon hm
    cases r with
    | ok x v1 =>
      refine .inr ⟨_, c', v1, _, n, hQ v x v1 es1 hrun, hon, hg1, fun w hw hag => ?_⟩
      obtain ⟨w1, e1, r1, o1, k1, u1⟩ := hm w hw hag
      exact ⟨_, c, w1, _, hP w x w1 es1 e1, .plain (hg x), hc, r1, o1, k1, evs_seen u1 fn⟩
    | halt hh v1 => exact .inl (hQ2 v hh v1 es1 hrun)

theorem settle_frame (a : Frame) : (match a.mode with
    | .panicking ({ recovered := true, .. } :: older) => (match older.dropWhile (!·.goexit) with
      | [] => { a with mode := .returning }
      | rest => { a with mode := .panicking rest })
    | _ => a : Frame) = { a with mode := settle a.mode } := by
  obtain ⟨fn, tmps, todo, defers, mode, kind, r⟩ := a
  unfold settle
  cases mode with
  | panicking chain =>
    cases chain with
    | nil => rfl
    | cons p l =>
      obtain ⟨x, rec, ge⟩ := p
      cases rec
      · rfl
      · dsimp only
        generalize List.dropWhile (fun x => !x.goexit) l = y
        cases y <;> rfl
  | _ => rfl

theorem ended_results {fn : FuncId} {tmps : Array Value} {todo : List Item} {kind : CallKind} {cs : List Frame} {f : Func} {hh : Halt} {v v1 : World} {es : Array Event} (hf : Q.funcs[fn]? = some f) (e : (results f tmps).runT Q v #[] = (.halt hh v1, es)) :
    ∃ o v2 es2, stepG Q true (G ⟨fn, tmps, todo, [], .returning, kind, none⟩ cs) v = .ended o v2 es2 := by
  cases hh <;> exact ⟨_, _, _, by simp only [G, stepG, unwind, hf, e, GStep.after]; rfl⟩

def notRun : FrameMode → Bool
  | .run => false
  | _ => true

/-- A frame that has no deferred call left, and a caller among these. -/
theorem sim_leave (E : Env P Q X St) {main : Bool} {fn : FuncId} {tmps : Array Value} {todo todo' : List Item} {mode : FrameMode} {kind : CallKind} {a a' : Frame} {c c' base base' : List Frame}
    (h : FrR P St Q ⟨fn, tmps, todo, [], mode, kind, none⟩ ⟨fn, tmps, todo', [], mode, kind, none⟩) (ha : FrR P St Q a a') (hc : All2 (FrR P St Q) c c') (hm : notRun mode = true) :
    Sim1 P Q X St Macro main ⟨fn, tmps, todo, [], mode, kind, none⟩ ⟨fn, tmps, todo', [], mode, kind, none⟩ (a :: c) (a' :: c') base base' := by
  obtain ⟨f, f', hf, hf', hr⟩ := h.func
  simp only at hf hf'
  have hkn : kind = .normal ∨ kind = .deferred := h.kinds
  cases mode with
  | run => cases hm
  | panicking chain =>
    intro v hg
    refine .inr ⟨a'.raise chain, c', v, #[], 0, ?_, .refl v, hg, fun w hw _ => ⟨a.raise chain, c, w, #[], ?_, .plain (raise_rel ha chain), hc, hw, .refl w, .refl X w, by simp⟩⟩
    · simp [G, stepG, unwind, Frame.catches, hf']
    · simp [G, stepG, unwind, Frame.catches, hf]
  | returning =>
    rcases hkn with rfl | rfl
    · refine sim_pop (t_results E.kin hr tmps) ha hc fn (fun b x => b.finish x) (fun x => finish_rel ha x) (fun v x v1 es e => ?_) (fun v hh v1 es e => ?_) (fun v x v1 es e => ?_)
      · simp [G, stepG, unwind, doReturn, hf', e, GStep.after, -Sem.runT_eq]
      · exact ended_results hf' e
      · simp [G, stepG, unwind, doReturn, hf, e, GStep.after, -Sem.runT_eq]
    · refine sim_pop (t_results E.kin hr tmps) ha hc fn (fun b _ => { b with mode := settle b.mode }) (fun x => by rw [ha.mode]; exact mode_rel ha _) (fun v x v1 es e => ?_) (fun v hh v1 es e => ?_) (fun v x v1 es e => ?_)
      · simp only [G, stepG, unwind, doReturn, hf', e, GStep.after, List.cons_append]
        simp
        exact settle_frame a'
      · exact ended_results hf' e
      · simp only [G, stepG, unwind, doReturn, hf, e, GStep.after, List.cons_append]
        simp
        exact settle_frame a

/-- Its kind is plain. -/
def Kd : Next → Prop
  | .value _ => True
  | .skip => True
  | .enter _ _ => True
  | .defer _ => True
  | _ => False
theorem PlainN.kd {n : Next} (h : PlainN Q n) : Kd n := by cases n <;> first | trivial | exact h.elim

/-- It may be made. -/
def mayDefer (d : Deferred) (m : FrameMode) : Bool := match d.target, m with
  | .nil, .panicking _ => false
  | _, _ => true
section
variable {p : Program} {fn : FuncId} {tmps : Array Value} {todo : List Item} {defers : List Deferred} {m : FrameMode} {kind : CallKind} {cs : List Frame} {d : Deferred} {w w1 : World} {es : Array Event}
def dOut (p : Program) (fr : Frame) (cs : List Frame) (es : Array Event) : Result Next → GStep
  | .ok (.enter f args) w1 => .go (G (Frame.enter p f args .deferred) (fr :: cs)) w1 es
  | .ok _ w1 => .go (G fr cs) w1 es
  | .halt (.panic x) w1 => .go (G (fr.raise [{ v := x, recovered := false }]) cs) w1 es
  | .halt (.unsupported u) w1 => .ended (.unsupported u (fr.pos p)) w1 es
  | .halt (.stuck u) w1 => .ended (.stuck u (fr.pos p)) w1 es
  | .halt _ w1 => .ended (.stuck "" "") w1 es
theorem deferred_eq (hd : okDef d = true) (h0 : mayDefer d m = true) (r : Result Next) (h : (invoke d.target d.args).runT p w #[] = (r, es)) (hf : Fine r) (hp : ∀ n w1, r = .ok n w1 → Kd n) :
    callDeferred p ⟨fn, tmps, todo, defers, m, kind, none⟩ cs none d w = dOut p ⟨fn, tmps, todo, defers, m, kind, none⟩ cs (seen p fn es) r := by
  obtain ⟨t, dargs⟩ := d
  have ht : (∃ a b, t = .fn a b) ∨ t = .nil := by cases t <;> first | exact .inl ⟨_, _, rfl⟩ | exact .inr rfl | exact absurd hd (by simp [okDef])
  cases r with
  | ok n w1 =>
    have hpl := hp n w1 rfl
    cases n <;> first | exact hpl.elim | skip
    all_goals
      rcases ht with ⟨a, b, rfl⟩ | rfl <;> cases m <;> first | (simp [callDeferred, dOut, h, GStep.after, G, -Sem.runT_eq]; done) | exact absurd h0 (by simp [mayDefer])
  | halt hh w1 =>
    cases hh <;> first | exact hf.elim | skip
    all_goals
      rcases ht with ⟨a, b, rfl⟩ | rfl <;> cases m <;> first | (simp [callDeferred, dOut, h, GStep.after, G, -Sem.runT_eq]; done) | exact absurd h0 (by simp [mayDefer])
theorem unwind_defer (main : Bool) (hm : notRun m = true) (hd : okDef d = true) : stepG p main (G ⟨fn, tmps, todo, d :: defers, m, kind, none⟩ cs) w = callDeferred p ⟨fn, tmps, todo, defers, m, kind, none⟩ cs none d w := by
  obtain ⟨t, args⟩ := d
  cases m with
  | run => cases hm
  | returning => cases t <;> first | rfl | cases hd
  | panicking l => cases t <;> first | rfl | cases hd
end

/-- A frame that makes a deferred call. -/
theorem sim_defer (B : Bodies P Q St Macro) (E : Env P Q X St) {main : Bool} {fn : FuncId} {tmps : Array Value} {todo todo' : List Item} {d : Deferred} {ds : List Deferred} {m : FrameMode} {kind : CallKind} {c c' base base' : List Frame}
    (h : FrR P St Q ⟨fn, tmps, todo, d :: ds, m, kind, none⟩ ⟨fn, tmps, todo', d :: ds, m, kind, none⟩) (hc : All2 (FrR P St Q) c c') (hm : notRun m = true) :
    Sim1 P Q X St Macro main ⟨fn, tmps, todo, d :: ds, m, kind, none⟩ ⟨fn, tmps, todo', d :: ds, m, kind, none⟩ c c' base base' := by
  have hokd : okDef d = true := h.okd d (by simp)
  have hds : ∀ e ∈ ds, okDef e = true := fun e he => h.okd e (by simp [he])
  have hrel : FrR P St Q ⟨fn, tmps, todo, ds, m, kind, none⟩ ⟨fn, tmps, todo', ds, m, kind, none⟩ := ⟨rfl, h.func, rfl, rfl, hds, rfl, rfl, h.kinds, rfl, rfl, h.todo⟩
  cases h0 : mayDefer d m with
  | false =>
    refine sim_end fun v => ?_
    rw [unwind_defer true hm hokd]
    obtain ⟨t, dargs⟩ := d
    have ht : (∃ a b, t = .fn a b) ∨ t = .nil := by cases t <;> first | exact .inl ⟨_, _, rfl⟩ | exact .inr rfl | exact absurd hokd (by simp [okDef])
    rcases ht with ⟨a, b, rfl⟩ | rfl
    · exact absurd h0 (by cases m <;> simp [mayDefer])
    · cases m with
      | panicking l => exact ⟨_, _, _, by simp only [callDeferred]; rfl⟩
      | _ => exact absurd h0 (by simp [mayDefer])
  | true =>
    intro v hg
    obtain ⟨hf, hg1, n, hon, hmm⟩ := t_invoke E.kin E.fns.tm d hokd v #[] hg
    have hres := res_invoke E.fns d hokd v #[]
    cases hrun : (invoke d.target d.args).runT Q v #[] with
    | mk r es1 =>
      rw [hrun] at hf hg1 hon hmm
      have hkd : ∀ n w1, r = .ok n w1 → Kd n := fun n w1 e => (hres n w1 es1 hg (by rw [hrun, e])).kd
      have eQ := (unwind_defer (cs := c' ++ base') (w := v) (p := Q) (fn := fn) (tmps := tmps) (todo := todo') (defers := ds) (kind := kind) true hm hokd).trans (deferred_eq hokd h0 r hrun hf hkd)
      have eP : ∀ w r es, (invoke d.target d.args).runT P w #[] = (r, es) → Fine r → (∀ n w1, r = .ok n w1 → Kd n) → stepG P main (G ⟨fn, tmps, todo, d :: ds, m, kind, none⟩ (c ++ base)) w = dOut P ⟨fn, tmps, todo, ds, m, kind, none⟩ (c ++ base) (seen P fn es) r :=
        fun w r es h1 h2 h3 => (unwind_defer main hm hokd).trans (deferred_eq hokd h0 r h1 h2 h3)
      cases r with
      | ok a v1 =>
        have hpl := hres a v1 es1 hg hrun
        by_cases he : ∃ f args, a = .enter f args
        · obtain ⟨f, args, rfl⟩ := he
          obtain ⟨fn', k1, k2⟩ := hpl
          refine .inr ⟨_, _ :: c', v1, _, n, eQ, hon, hg1, fun w hw ha => ?_⟩
          obtain ⟨w1, e1, r1, o1, kx, u1⟩ := hmm w hw ha
          exact ⟨_, _ :: c, w1, _, eP w _ _ e1 trivial (fun _ _ e => by cases e; trivial), enter_rel B args (.inr rfl) k1 k2, .cons hrel hc, r1, o1, kx, evs_seen u1 fn⟩
        · have d1 : ∀ p fr cs es w, dOut p fr cs es (.ok a w) = .go (G fr cs) w es := by
            intro p fr cs es w
            cases a <;> first | rfl | exact absurd ⟨_, _, rfl⟩ he
          rw [d1] at eQ
          refine .inr ⟨_, c', v1, _, n, eQ, hon, hg1, fun w hw ha => ?_⟩
          obtain ⟨w1, e1, r1, o1, kx, u1⟩ := hmm w hw ha
          exact ⟨_, c, w1, _, (eP w _ _ e1 trivial (fun _ _ e => by cases e; exact hpl.kd)).trans (d1 _ _ _ _ _), .plain hrel, hc, r1, o1, kx, evs_seen u1 fn⟩
      | halt hh v1 =>
        cases hh <;> first | exact hf.elim | skip
        · rename_i x
          refine .inr ⟨_, c', v1, _, n, eQ, hon, hg1, fun w hw ha => ?_⟩
          obtain ⟨w1, e1, r1, o1, kx, u1⟩ := hmm w hw ha
          exact ⟨_, c, w1, _, eP w _ _ e1 trivial (fun _ _ e => by cases e), .plain (raise_rel hrel _), hc, r1, o1, kx, evs_seen u1 fn⟩
        · exact .inl ⟨_, _, _, eQ⟩
        · exact .inl ⟨_, _, _, eQ⟩

/-- ANY STEP: of a frame that is related to the program's, and does not leave what is related. -/
theorem sim_step (B : Bodies P Q St Macro) (E : Env P Q X St) {main : Bool} {fr fr' : Frame} {c c' base base' : List Frame} (h : FrR P St Q fr fr') (hc : All2 (FrR P St Q) c c')
    (hl : c ≠ [] ∨ fr.mode = .run ∨ fr.defers ≠ []) : Sim1 P Q X St Macro main fr fr' c c' base base' := by
  obtain ⟨fn, tmps, todo, defers, mode, kind, r⟩ := fr
  obtain ⟨fn', tmps', todo', defers', mode', kind', r'⟩ := fr'
  obtain ⟨h1, h2, h3, h4, h5, h6, h7, h8, h9, h10, h11⟩ := h
  simp only at h1 h2 h3 h4 h5 h6 h7 h8 h9 h10 h11 hl
  subst h1 h3 h4 h6 h7 h9 h10
  have h : FrR P St Q ⟨fn', tmps', todo, defers', mode', kind', none⟩ ⟨fn', tmps', todo', defers', mode', kind', none⟩ := ⟨rfl, h2, rfl, rfl, h5, rfl, rfl, h8, rfl, rfl, h11⟩
  cases hm : notRun mode' with
  | false =>
    cases mode' <;> first | cases hm | skip
    exact sim_run B E h hc
  | true =>
    cases defers' with
    | cons d ds => exact sim_defer B E h hc hm
    | nil =>
      cases hc with
      | nil =>
        rcases hl with h | h | h
        · exact absurd rfl h
        · rw [h] at hm; cases hm
        · exact absurd rfl h
      | cons ha hc => exact sim_leave E h ha hc hm
end
end Go.Proofs.Ytdlnlcjmjgbikaa
