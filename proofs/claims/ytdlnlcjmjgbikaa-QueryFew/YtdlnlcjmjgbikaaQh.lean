/- A step of the sequential program is a step of the program, whoever is beside it. -/
import Derived.Test.YtdlnlcjmjgbikaaQf
namespace Go.Proofs.Ytdlnlcjmjgbikaa
open Go Go.Conc

section
variable (P Q : Program) (X : Nat → Prop) (St : List TypeId) (Macro : FuncId → Prop)
/-- The functions of the sequential program: the program's own without what must not be come to; but for some few. -/
structure Bodies : Prop where
  body : ∀ f, ¬ Macro f → ∀ fn', Q.funcs[f]? = some fn' → fn'.body.isSome = true → ∃ fn b, P.funcs[f]? = some fn ∧ fn.body = some b ∧ fn'.body = some (cutCode P St b) ∧ fn'.ntmps = fn.ntmps ∧ fn'.results = fn.results
  early : ∀ g, Q.stepOf g = none
  ahead : Q.follows .staticDataAhead = true

/-- The frame on top. -/
inductive TopR : Frame → Frame → Prop
  | plain {fr fr' : Frame} : FrR P St Q fr fr' → TopR fr fr'
  | enters (f : FuncId) (args : Array Value) (kind : CallKind) : Macro f → kind = .normal ∨ kind = .deferred → TopR (Frame.enter P f args kind) (Frame.enter Q f args kind)

/-- What the sequential program does from here, the program does. -/
def Sim1 (main : Bool) (fr fr' : Frame) (c c' base base' : List Frame) : Prop := ∀ v, Gd v →
  (∃ o v1 es, stepG Q true (G fr' (c' ++ base')) v = .ended o v1 es) ∨
  ∃ fr1' c1' v1 es' n, stepG Q true (G fr' (c' ++ base')) v = .go (G fr1' (c1' ++ base')) v1 es' ∧ On v v1 n ∧ Gd v1 ∧
    ∀ w, Rel X v w → Ag v w n → ∃ fr1 c1 w1 es, stepG P main (G fr (c ++ base)) w = .go (G fr1 (c1 ++ base)) w1 es ∧ TopR P Q St Macro fr1 fr1' ∧ All2 (FrR P St Q) c1 c1' ∧
      Rel X v1 w1 ∧ On w w1 n ∧ Kx X w w1 ∧ ∀ e ∈ es, Ev X e
end

section
variable {P Q : Program} {X : Nat → Prop} {St : List TypeId} {Macro : FuncId → Prop}

theorem sim_end {main : Bool} {fr fr' : Frame} {c c' base base' : List Frame} (h : ∀ v, ∃ o v1 es, stepG Q true (G fr' (c' ++ base')) v = .ended o v1 es) : Sim1 P Q X St Macro main fr fr' c c' base base' := fun v _ => .inl (h v)
theorem sim_ctrl {main : Bool} {fr fr' : Frame} {c c' base base' : List Frame} (fr1 fr1' : Frame) (hQ : ∀ v, stepG Q true (G fr' (c' ++ base')) v = .go (G fr1' (c' ++ base')) v #[]) (hP : ∀ w, stepG P main (G fr (c ++ base)) w = .go (G fr1 (c ++ base)) w #[])
    (h : FrR P St Q fr1 fr1') (hc : All2 (FrR P St Q) c c') : Sim1 P Q X St Macro main fr fr' c c' base base' :=
  fun v hg => .inr ⟨fr1', c', v, #[], 0, hQ v, .refl v, hg, fun w hw _ => ⟨fr1, c, w, #[], hP w, .plain h, hc, hw, .refl w, .refl X w, by simp⟩⟩

/-- What an operand stands for. -/
def evT (tmps : Array Value) (x : Operand) : Value := match x with
  | .tmp t => tmps.getD t undef
  | .const v => v
  | .global g => .pointer (some ⟨g, 0, none⟩)
  | .func f => .func (.func f) #[] #[]
theorem eval_evT (fn : FuncId) (tmps : Array Value) (todo : List Item) (defers : List Deferred) (m : FrameMode) (kind : CallKind) (r : Option Nat) : Frame.eval ⟨fn, tmps, todo, defers, m, kind, r⟩ = evT tmps := rfl

/-- Control alone. -/
theorem sim_todo {main : Bool} {fn : FuncId} {tmps : Array Value} {todo todo' : List Item} {defers : List Deferred} {kind : CallKind} {c c' base base' : List Frame}
    (h : FrR P St Q ⟨fn, tmps, todo, defers, .run, kind, none⟩ ⟨fn, tmps, todo', defers, .run, kind, none⟩) (hc : All2 (FrR P St Q) c c') (m : FrameMode) {t t' : List Item} (ht : All2 (ItR P St) t t')
    (hQ : ∀ v, stepG Q true (G ⟨fn, tmps, todo', defers, .run, kind, none⟩ (c' ++ base')) v = .go (G ⟨fn, tmps, t', defers, m, kind, none⟩ (c' ++ base')) v #[])
    (hP : ∀ w, stepG P main (G ⟨fn, tmps, todo, defers, .run, kind, none⟩ (c ++ base)) w = .go (G ⟨fn, tmps, t, defers, m, kind, none⟩ (c ++ base)) w #[]) :
    Sim1 P Q X St Macro main ⟨fn, tmps, todo, defers, .run, kind, none⟩ ⟨fn, tmps, todo', defers, .run, kind, none⟩ c c' base base' :=
  sim_ctrl _ _ hQ hP ⟨rfl, h.func, rfl, rfl, h.okd, rfl, rfl, h.kinds, rfl, rfl, ht⟩ hc

theorem sim_code {main : Bool} {fn : FuncId} {tmps : Array Value} {cd : Code} {k k' : List Item} {defers : List Deferred} {kind : CallKind} {c c' base base' : List Frame}
    (h : FrR P St Q ⟨fn, tmps, .code cd :: k, defers, .run, kind, none⟩ ⟨fn, tmps, .code (cutCode P St cd) :: k', defers, .run, kind, none⟩) (hk : All2 (ItR P St) k k') (hc : All2 (FrR P St Q) c c')
    (hreg : ∀ id ops d, cd ≠ .region id ops d) :
    Sim1 P Q X St Macro main ⟨fn, tmps, .code cd :: k, defers, .run, kind, none⟩ ⟨fn, tmps, .code (cutCode P St cd) :: k', defers, .run, kind, none⟩ c c' base base' := by
  cases cd with
  | skip => exact sim_todo h hc .run hk (fun v => by simp [G, stepG, stepG.exec, cutCode]) (fun w => by simp [G, stepG, stepG.exec])
  | region id ops d => exact absurd rfl (hreg id ops d)
  | seq a b => exact sim_todo h hc .run (.cons (.code a) (.cons (.code b) hk)) (fun v => by simp [G, stepG, stepG.exec, cutCode]) (fun w => by simp [G, stepG, stepG.exec])
  | cond x a b =>
    cases hx : evT tmps x with
    | bool y =>
      cases y
      · exact sim_todo h hc .run (.cons (.code b) hk) (fun v => by simp [G, stepG, stepG.exec, cutCode, eval_evT, hx]) (fun w => by simp [G, stepG, stepG.exec, eval_evT, hx])
      · exact sim_todo h hc .run (.cons (.code a) hk) (fun v => by simp [G, stepG, stepG.exec, cutCode, eval_evT, hx]) (fun w => by simp [G, stepG, stepG.exec, eval_evT, hx])
    | _ => exact sim_end fun v => ⟨_, _, _, by simp only [G, stepG, stepG.exec, cutCode, eval_evT, hx]; rfl⟩
  | block id b => exact sim_todo h hc .run (.cons (.code b) (.cons (.inBlock id) hk)) (fun v => by simp [G, stepG, stepG.exec, cutCode]) (fun w => by simp [G, stepG, stepG.exec])
  | loop b => exact sim_todo h hc .run (.cons (.code b) (.cons (.inLoop b) hk)) (fun v => by simp [G, stepG, stepG.exec, cutCode]) (fun w => by simp [G, stepG, stepG.exec])
  | rangeFunc f p a b => exact sim_end fun v => ⟨_, _, _, by simp only [G, stepG, stepG.exec, cutCode]; rfl⟩
  | exit id =>
    rcases exit_rel id hk with ⟨h1, h2⟩ | ⟨l, l', h1, h2, hl⟩
    · exact sim_end fun v => ⟨_, _, _, by simp only [G, stepG, stepG.exec, cutCode, h2, Option.elim]; rfl⟩
    · exact sim_todo h hc .run hl (fun v => by simp [G, stepG, stepG.exec, cutCode, h2]) (fun w => by simp [G, stepG, stepG.exec, h1])
  | scope b => exact sim_end fun v => ⟨_, _, _, by simp only [G, stepG, stepG.exec, cutCode]; rfl⟩
  | label l => exact sim_todo h hc .run hk (fun v => by simp [G, stepG, stepG.exec, cutCode]) (fun w => by simp [G, stepG, stepG.exec])
  | goto l => exact sim_end fun v => ⟨_, _, _, by simp only [G, stepG, stepG.exec, cutCode]; rfl⟩
  | ret => exact sim_todo h hc .returning (.cons (.code .ret) hk) (fun v => by simp [G, stepG, stepG.exec, cutCode]) (fun w => by simp [G, stepG, stepG.exec])
  | refuse s => exact sim_end fun v => ⟨_, _, _, by simp only [G, stepG, stepG.exec, cutCode]; rfl⟩

theorem seen_sub (p : Program) (fn : FuncId) (es : Array Event) : ∀ e ∈ seen p fn es, e ∈ es := by
  have key : ∀ (q : FuncId → Bool) (l : List Event) (b : Bool) (k : Array Event), ∀ e ∈ (l.foldl (fun (x : Bool × Array Event) (e : Event) => match x with
      | (y, kept) => match e.loc with
        | .mark (.extern f) => (q f, kept)
        | _ => (y, if y && !e.sync then kept else kept.push e)) (b, k)).2, e ∈ k ∨ e ∈ l := by
    intro q l
    induction l with
    | nil => exact fun b k e h => .inl h
    | cons a l ih =>
      intro b k e h
      rw [List.foldl_cons] at h
      dsimp only at h
      split at h
      · rcases ih _ _ e h with h | h
        · exact .inl h
        · exact .inr (by simp [h])
      · rcases ih _ _ e h with h | h
        · split at h
          · exact .inl h
          · rcases Array.mem_push.1 h with h | h
            · exact .inl h
            · exact .inr (by simp [h])
        · exact .inr (by simp [h])
  intro e h
  unfold seen at h
  dsimp only at h
  rw [← Array.foldl_toList] at h
  rcases key _ es.toList _ _ e h with h | h
  · simp at h
  · simpa using h
theorem early_ended (B : Bodies P Q St Macro) (fr : Frame) (cs : List Frame) (d : Option Dying) (g : Nat) (w : World) : ∃ o w1 es, Go.early Q fr cs d g w = .ended o w1 es := by
  unfold Go.early
  simp only [B.ahead, B.early g]
  exact ⟨_, _, _, rfl⟩

section
variable {p : Program} {fn : FuncId} {tmps : Array Value} {ops : Array Oper} {i : Nat} {rest : List Nat} {k : List Item} {defers : List Deferred} {kind : CallKind} {cs : List Frame} {s : Sem Next} {w w1 : World} {es : Array Event}
theorem apply_value {x : Value} (h : s.runT p w #[] = (.ok (.value x) w1, es)) (hk : (kind == CallKind.early) = false) : stepG.apply p true ⟨fn, tmps, .inRegion ops (i :: rest) :: k, defers, .run, kind, none⟩ cs none s w =
    .go (G (Frame.finish ⟨fn, tmps, .inRegion ops (i :: rest) :: k, defers, .run, kind, none⟩ x) cs) w1 (seen p fn es) := by
  simp [stepG.apply, h, hk, GStep.after, G, -Sem.runT_eq]
theorem apply_skip (h : s.runT p w #[] = (.ok .skip w1, es)) (hk : (kind == CallKind.early) = false) : stepG.apply p true ⟨fn, tmps, .inRegion ops (i :: rest) :: k, defers, .run, kind, none⟩ cs none s w =
    .go (G (Frame.finish ⟨fn, tmps, .inRegion ops (i :: rest) :: k, defers, .run, kind, none⟩ undef) cs) w1 (seen p fn es) := by
  simp [stepG.apply, h, hk, GStep.after, G, -Sem.runT_eq]
theorem apply_defer {d : Deferred} (h : s.runT p w #[] = (.ok (.defer d) w1, es)) (hk : (kind == CallKind.early) = false) : stepG.apply p true ⟨fn, tmps, .inRegion ops (i :: rest) :: k, defers, .run, kind, none⟩ cs none s w =
    .go (G (Frame.finish ⟨fn, tmps, .inRegion ops (i :: rest) :: k, d :: defers, .run, kind, none⟩ undef) cs) w1 (seen p fn es) := by
  simp [stepG.apply, h, hk, GStep.after, G, -Sem.runT_eq]
theorem apply_enter {f : FuncId} {args : Array Value} (h : s.runT p w #[] = (.ok (.enter f args) w1, es)) (hk : (kind == CallKind.early) = false) : stepG.apply p true ⟨fn, tmps, .inRegion ops (i :: rest) :: k, defers, .run, kind, none⟩ cs none s w =
    .go (G (Frame.enter p f args .normal) (⟨fn, tmps, .inRegion ops (i :: rest) :: k, defers, .run, kind, none⟩ :: cs)) w1 (seen p fn es) := by
  simp [stepG.apply, h, hk, GStep.after, G, -Sem.runT_eq]
theorem apply_panic {x : Value} (h : s.runT p w #[] = (.halt (.panic x) w1, es)) (hk : (kind == CallKind.early) = false) : stepG.apply p true ⟨fn, tmps, .inRegion ops (i :: rest) :: k, defers, .run, kind, none⟩ cs none s w =
    .go (G ⟨fn, tmps, .inRegion ops (i :: rest) :: k, defers, .panicking [{ v := x, recovered := false }], kind, none⟩ cs) w1 (seen p fn es) := by
  simp [stepG.apply, h, hk, GStep.after, G, Frame.raise, -Sem.runT_eq]
theorem apply_stuck {m : String} (h : s.runT p w #[] = (.halt (.stuck m) w1, es)) : ∃ o w2 es2, stepG.apply p true ⟨fn, tmps, .inRegion ops (i :: rest) :: k, defers, .run, kind, none⟩ cs none s w = .ended o w2 es2 := by
  simp only [stepG.apply, h, GStep.after, if_true]
  exact ⟨_, _, _, rfl⟩
theorem apply_unsupported (B : Bodies P Q St Macro) {u : Unsupported} (h : s.runT Q w #[] = (.halt (.unsupported u) w1, es)) : ∃ o w2 es2, stepG.apply Q true ⟨fn, tmps, .inRegion ops (i :: rest) :: k, defers, .run, kind, none⟩ cs none s w = .ended o w2 es2 := by
  cases u with
  | initOrder g =>
    obtain ⟨o, w2, es2, e⟩ := early_ended B ⟨fn, tmps, .inRegion ops (i :: rest) :: k, defers, .run, kind, none⟩ cs none g w1
    simp only [stepG.apply, h, if_true, e, GStep.after]
    exact ⟨_, _, _, rfl⟩
  | _ =>
    simp only [stepG.apply, h, GStep.after, if_true]
    exact ⟨_, _, _, rfl⟩
end

theorem enter_rel (B : Bodies P Q St Macro) {f : FuncId} (args : Array Value) {kind : CallKind} (hk : kind = .normal ∨ kind = .deferred) {fn' : Func} (h : Q.funcs[f]? = some fn') (hb : fn'.body.isSome = true) :
    TopR P Q St Macro (Frame.enter P f args kind) (Frame.enter Q f args kind) := by
  by_cases hm : Macro f
  · exact .enters f args kind hm hk
  · obtain ⟨fn, b, h1, h2, h3, h4, h5⟩ := B.body f hm fn' h hb
    refine .plain ⟨rfl, ⟨fn, fn', h1, h, h5⟩, ?_, rfl, by simp [Frame.enter], rfl, rfl, hk, rfl, rfl, ?_⟩
    · simp [Frame.enter, h, h1, h4]
    · simp only [Frame.enter, h, h1, h2, h3, Option.bind_some, Option.getD_some]
      exact .cons (.code b) .nil
theorem evs_seen {es : Array Event} (h : Evs X #[] es) (fn : FuncId) : ∀ e ∈ seen P fn es, Ev X e := by
  obtain ⟨u, rfl, hu⟩ := h
  intro e he
  have := seen_sub _ _ _ e he
  exact hu e (by simpa using this)

/-- An operation. -/
theorem sim_op (B : Bodies P Q St Macro) {main : Bool} {fn : FuncId} {tmps : Array Value} {ops : Array Oper} {i : Nat} {rest : List Nat} {k k' : List Item} {defers : List Deferred} {kind : CallKind} {c c' base base' : List Frame} {s' s : Sem Next}
    (hs : Tm P Q X s' s) (hr : Res Q (PlainN Q) s') (hops : ops.all (okOp P St) = true) (hk : All2 (ItR P St) k k') (hc : All2 (FrR P St Q) c c')
    (hrel : FrR P St Q ⟨fn, tmps, .inRegion ops (i :: rest) :: k, defers, .run, kind, none⟩ ⟨fn, tmps, .inRegion (ops.map (cutOp P)) (i :: rest) :: k', defers, .run, kind, none⟩)
    (hQ : ∀ v, stepG Q true (G ⟨fn, tmps, .inRegion (ops.map (cutOp P)) (i :: rest) :: k', defers, .run, kind, none⟩ (c' ++ base')) v = stepG.apply Q true ⟨fn, tmps, .inRegion (ops.map (cutOp P)) (i :: rest) :: k', defers, .run, kind, none⟩ (c' ++ base') none s' v)
    (hP : ∀ w, stepG P main (G ⟨fn, tmps, .inRegion ops (i :: rest) :: k, defers, .run, kind, none⟩ (c ++ base)) w = stepG.apply P true ⟨fn, tmps, .inRegion ops (i :: rest) :: k, defers, .run, kind, none⟩ (c ++ base) none s w) :
    Sim1 P Q X St Macro main ⟨fn, tmps, .inRegion ops (i :: rest) :: k, defers, .run, kind, none⟩ ⟨fn, tmps, .inRegion (ops.map (cutOp P)) (i :: rest) :: k', defers, .run, kind, none⟩ c c' base base' := by
  have hkd : (kind == CallKind.early) = false := by rcases hrel.kinds with h | h <;> simp only at h <;> subst h <;> rfl
  have hfin : ∀ d x, (∀ e ∈ d, okDef e = true) → FrR P St Q (Frame.finish ⟨fn, tmps, .inRegion ops (i :: rest) :: k, d, .run, kind, none⟩ x) (Frame.finish ⟨fn, tmps, .inRegion (ops.map (cutOp P)) (i :: rest) :: k', d, .run, kind, none⟩ x) := by
    intro d x hd
    refine ⟨rfl, hrel.func, ?_, rfl, hd, rfl, rfl, hrel.kinds, rfl, rfl, .cons (.inRegion ops rest hops) hk⟩
    simp only [Frame.finish, cut_dst_get]
  have hokd : ∀ d ∈ defers, okDef d = true := hrel.okd
  intro v hg
  obtain ⟨hf, hg1, n, hon, hm⟩ := hs v #[] hg
  cases hrun : s'.runT Q v #[] with
  | mk r es1 =>
    rw [hrun] at hf hg1 hon hm
    cases r with
    | ok a v1 =>
      have hpl := hr v #[] a v1 es1 hg hrun
      cases a with
      | value x =>
        refine .inr ⟨_, c', v1, _, n, (hQ v).trans (apply_value hrun hkd), hon, hg1, fun w hw ha => ?_⟩
        obtain ⟨w1, e1, r1, o1, k1, u1⟩ := hm w hw ha
        exact ⟨_, c, w1, _, (hP w).trans (apply_value e1 hkd), .plain (hfin defers x hokd), hc, r1, o1, k1, evs_seen u1 fn⟩
      | skip =>
        refine .inr ⟨_, c', v1, _, n, (hQ v).trans (apply_skip hrun hkd), hon, hg1, fun w hw ha => ?_⟩
        obtain ⟨w1, e1, r1, o1, k1, u1⟩ := hm w hw ha
        exact ⟨_, c, w1, _, (hP w).trans (apply_skip e1 hkd), .plain (hfin defers undef hokd), hc, r1, o1, k1, evs_seen u1 fn⟩
      | defer d =>
        refine .inr ⟨_, c', v1, _, n, (hQ v).trans (apply_defer hrun hkd), hon, hg1, fun w hw ha => ?_⟩
        obtain ⟨w1, e1, r1, o1, k1, u1⟩ := hm w hw ha
        exact ⟨_, c, w1, _, (hP w).trans (apply_defer e1 hkd), .plain (hfin (d :: defers) undef (by simpa using ⟨hpl, hokd⟩)), hc, r1, o1, k1, evs_seen u1 fn⟩
      | enter f args =>
        obtain ⟨fn', h1, h2⟩ := hpl
        refine .inr ⟨_, _ :: c', v1, _, n, (hQ v).trans (apply_enter hrun hkd), hon, hg1, fun w hw ha => ?_⟩
        obtain ⟨w1, e1, r1, o1, k1, u1⟩ := hm w hw ha
        exact ⟨_, _ :: c, w1, _, (hP w).trans (apply_enter e1 hkd), enter_rel B args (.inl rfl) h1 h2, .cons hrel hc, r1, o1, k1, evs_seen u1 fn⟩
      | _ => exact hpl.elim
    | halt hh v1 =>
      cases hh with
      | panic x =>
        refine .inr ⟨_, c', v1, _, n, (hQ v).trans (apply_panic hrun hkd), hon, hg1, fun w hw ha => ?_⟩
        obtain ⟨w1, e1, r1, o1, k1, u1⟩ := hm w hw ha
        exact ⟨_, c, w1, _, (hP w).trans (apply_panic e1 hkd), .plain ⟨rfl, hrel.func, rfl, rfl, hokd, rfl, rfl, hrel.kinds, rfl, rfl, .cons (.inRegion ops (i :: rest) hops) hk⟩, hc, r1, o1, k1, evs_seen u1 fn⟩
      | stuck m =>
        obtain ⟨o, w2, es2, e⟩ := apply_stuck (p := Q) (fn := fn) (tmps := tmps) (ops := ops.map (cutOp P)) (i := i) (rest := rest) (k := k') (defers := defers) (kind := kind) (cs := c' ++ base') hrun
        exact .inl ⟨o, w2, es2, (hQ v).trans e⟩
      | unsupported u =>
        obtain ⟨o, w2, es2, e⟩ := apply_unsupported (fn := fn) (tmps := tmps) (ops := ops.map (cutOp P)) (i := i) (rest := rest) (k := k') (defers := defers) (kind := kind) (cs := c' ++ base') B hrun
        exact .inl ⟨o, w2, es2, (hQ v).trans e⟩
      | _ => exact hf.elim

/-- A frame that runs. -/
theorem sim_run (B : Bodies P Q St Macro) (E : Env P Q X St) {main : Bool} {fn : FuncId} {tmps : Array Value} {todo todo' : List Item} {defers : List Deferred} {kind : CallKind} {c c' base base' : List Frame}
    (h : FrR P St Q ⟨fn, tmps, todo, defers, .run, kind, none⟩ ⟨fn, tmps, todo', defers, .run, kind, none⟩) (hc : All2 (FrR P St Q) c c') :
    Sim1 P Q X St Macro main ⟨fn, tmps, todo, defers, .run, kind, none⟩ ⟨fn, tmps, todo', defers, .run, kind, none⟩ c c' base base' := by
  have ht := h.todo
  simp only at ht
  cases ht with
  | nil => exact sim_todo h hc .returning .nil (fun v => by simp [G, stepG, stepG.exec]) (fun w => by simp [G, stepG, stepG.exec])
  | @cons _ _ kk kk' a hk =>
    cases a with
    | inBlock id => exact sim_todo h hc .run hk (fun v => by simp [G, stepG, stepG.exec]) (fun w => by simp [G, stepG, stepG.exec])
    | inLoop b => exact sim_todo h hc .run (.cons (.code b) (.cons (.inLoop b) hk)) (fun v => by simp [G, stepG, stepG.exec]) (fun w => by simp [G, stepG, stepG.exec])
    | code cd =>
      by_cases hreg : ∃ id ops d, cd = .region id ops d
      · obtain ⟨id, ops, d, rfl⟩ := hreg
        by_cases hops : ops.all (okOp P St) = true
        · have e : cutCode P St (.region id ops d) = .region id (ops.map (cutOp P)) d := by simp only [cutCode, hops, if_true]
          rw [e] at h ⊢
          cases d with
          | false =>
            refine sim_todo h hc .run (.cons (.inRegion ops (List.range ops.size) hops) hk) (fun v => ?_) (fun w => by simp [G, stepG, stepG.exec])
            simp [G, stepG, stepG.exec]
          | true =>
            intro v hg
            have hfl : P.follows .mixedOrders = Q.follows .mixedOrders := by rw [show P.toTables = Q.toTables from E.kin]
            refine .inr ⟨⟨fn, tmps, .inRegion (ops.map (cutOp P)) (Region.schedule (Q.follows .mixedOrders) (ops.map (cutOp P)) (v.tape v.drawn (.order fn id))) :: kk', defers, .run, kind, none⟩, c', { v with drawn := v.drawn + 1 }, #[], 1, ?_, ⟨rfl, rfl⟩, hg, fun w hw ha => ?_⟩
            · simp [G, stepG, stepG.exec, choose, Sem.run, Question.forced, Question.cut]
            · have ht := ha 0 (.order fn id) (by omega)
              simp only [Nat.add_zero] at ht
              refine ⟨⟨fn, tmps, .inRegion ops (Region.schedule (Q.follows .mixedOrders) (ops.map (cutOp P)) (v.tape v.drawn (.order fn id))) :: kk, defers, .run, kind, none⟩, c, { w with drawn := w.drawn + 1 }, #[], ?_,
                .plain ⟨rfl, h.func, rfl, rfl, h.okd, rfl, rfl, h.kinds, rfl, rfl, .cons (.inRegion ops _ hops) hk⟩, hc, ⟨hw.size, hw.same, hw.pois, hw.os, hw.output⟩, ⟨rfl, rfl⟩, ⟨Nat.le_refl _, fun _ _ => rfl⟩, by simp⟩
              simp [G, stepG, stepG.exec, choose, Sem.run, Question.forced, Question.cut, ht, cut_schedule, hfl]
        · have e : cutCode P St (.region id ops d) = .refuse "" := by simp only [cutCode, hops]; rfl
          rw [e]
          exact sim_end fun v => ⟨_, _, _, by simp only [G, stepG, stepG.exec]; rfl⟩
      · exact sim_code h hk hc fun id ops d e => hreg ⟨id, ops, d, e⟩
    | inRegion ops todo hops =>
      cases todo with
      | nil => exact sim_todo h hc .run hk (fun v => by simp [G, stepG, stepG.exec]) (fun w => by simp [G, stepG, stepG.exec])
      | cons i rest =>
        cases hw : ((ops[i]?).map (Region.wanted · (yielded ops tmps))).getD false with
        | false =>
          have hw' := cut_wanted (P := P) ops tmps i
          rw [hw] at hw'
          refine sim_ctrl (Frame.finish ⟨fn, tmps, .inRegion ops (i :: rest) :: kk, defers, .run, kind, none⟩ undef) (Frame.finish ⟨fn, tmps, .inRegion (ops.map (cutOp P)) (i :: rest) :: kk', defers, .run, kind, none⟩ undef) (fun v => ?_) (fun w => ?_) ?_ hc
          · simp only [G, stepG, stepG.exec, hw']; rfl
          · simp only [G, stepG, stepG.exec, hw]; rfl
          · refine ⟨rfl, h.func, ?_, rfl, h.okd, rfl, rfl, h.kinds, rfl, rfl, .cons (.inRegion ops rest hops) hk⟩
            simp only [Frame.finish, cut_dst_get]
        | true =>
          obtain ⟨o, ho⟩ : ∃ o, ops[i]? = some o := by
            cases h : ops[i]? with
            | none => rw [h] at hw; cases hw
            | some o => exact ⟨o, rfl⟩
          have hw' := cut_wanted (P := P) ops tmps i
          rw [hw] at hw'
          have ho' : (ops.map (cutOp P))[i]? = some (cutOp P o) := by rw [cut_get, ho]; rfl
          have hok : okOp P St o = true := by
            have := Array.all_eq_true_iff_forall_mem.1 hops o (Array.mem_of_getElem? ho)
            exact this
          refine sim_op B (s' := execOp (evT tmps) (cutOp P o)) (s := execOp (evT tmps) o) (t_exec E (evT tmps) (fun _ => rfl) o hok) (res_exec E.fns St (evT tmps) o hok) hops hk hc h (fun v => ?_) (fun w => ?_)
          · rw [ho'] at hw'
            simp only [G, stepG, stepG.exec, stepG.oper, Frame.oper?, ho', hw', eval_evT, if_true]
          · rw [ho] at hw
            simp only [G, stepG, stepG.exec, stepG.oper, Frame.oper?, ho, hw, eval_evT, if_true]
end
end Go.Proofs.Ytdlnlcjmjgbikaa
