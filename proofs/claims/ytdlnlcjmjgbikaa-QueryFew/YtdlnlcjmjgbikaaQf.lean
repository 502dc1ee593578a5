/- An operation of the sequential program does what the program's own does. -/
import Derived.Test.YtdlnlcjmjgbikaaQd
namespace Go.Proofs.Ytdlnlcjmjgbikaa
open Go Go.Conc

/-- What may be deferred. -/
def okDef (d : Deferred) : Bool := match d.target with
  | .fn _ _ => true
  | .nil => true
  | _ => false

/-- What an operation may come to. -/
def PlainN (Q : Program) : Next → Prop
  | .value _ => True
  | .skip => True
  | .enter f _ => ∃ fn, Q.funcs[f]? = some fn ∧ fn.body.isSome = true
  | .defer d => okDef d = true
  | _ => False

section
variable {P Q : Program} {X : Nat → Prop}

def Res (Q : Program) {α : Type} (R : α → Prop) (s : Sem α) : Prop := ∀ v es a v' es', Gd v → s.runT Q v es = (.ok a v', es') → R a
theorem res_pure {α : Type} {R : α → Prop} {a : α} (h : R a) : Res Q R (pure a) := by
  intro v es b v' es' _ e
  cases e
  exact h
theorem res_halt {α : Type} {R : α → Prop} {h : Halt} : Res Q R (Sem.halt h) := by
  intro v es b v' es' _ e
  cases e
theorem res_bind {α β : Type} {R : β → Prop} {s : Sem α} {f : α → Sem β} (h : Tm Q Q (fun _ => False) s s) (hf : ∀ a, Res Q R (f a)) : Res Q R (s >>= f) := by
  intro v es b v' es' hg e
  have e' : (s.bind f).runT Q v es = (.ok b v', es') := e
  rw [Sem.runT_bind'] at e'
  have k := (h v es hg).2.1
  cases hr : s.runT Q v es with
  | mk r e1 =>
    rw [hr] at e' k
    cases r with
    | ok a v1 => exact hf a v1 e1 b v' es' k e'
    | halt _ _ => cases e'
theorem res_ite {α : Type} {R : α → Prop} {c : Prop} [Decidable c] {a b : Sem α} (h1 : Res Q R a) (h2 : Res Q R b) : Res Q R (if c then a else b) := by
  split
  · exact h1
  · exact h2

/-- The two programs' functions, called. -/
structure Fns (P Q : Program) (X : Nat → Prop) : Prop where
  tm : ∀ f args, Tm P Q X (callFunc f args) (callFunc f args)
  own : ∀ f args, Tm Q Q (fun _ => False) (callFunc f args) (callFunc f args)
  res : ∀ f args, Res Q (PlainN Q) (callFunc f args)

theorem t_ofValue (v : Value) (args : Array Value) : Tm P Q X (Deferred.ofValue v args) (Deferred.ofValue v args) := by
  unfold Deferred.ofValue
  split
  · exact tp _
  · exact tp _
  · exact ts _ _
theorem t_callMethod (hT : Kin P Q) (hF : ∀ f args, Tm P Q X (callFunc f args) (callFunc f args)) (r : Value) (n : String) (args : Array Value) : Tm P Q X (callMethod r n args) (callMethod r n args) := by
  unfold callMethod
  split
  · refine tprog ?_
    rw [show Q.types = P.types by rw [show Q.toTables = P.toTables from hT.symm]]
    exact tb (t_method hT _ _ _ _) fun x => hF _ _
  · exact t_runtimePanic hT _
  · exact ts _ _
theorem t_invoke (hT : Kin P Q) (hF : ∀ f args, Tm P Q X (callFunc f args) (callFunc f args)) (d : Deferred) (hd : okDef d = true) : Tm P Q X (invoke d.target d.args) (invoke d.target d.args) := by
  obtain ⟨t, args⟩ := d
  unfold okDef at hd
  unfold invoke
  dsimp only at hd ⊢
  split
  · exact t_runtimePanic hT _
  · cases hd
  · exact hF _ _
  · split
    · exact t_callMethod hT hF _ _ _
    · exact ts _ _
  · split
    · refine tb (t_underlying hT _) fun u => ?_
      split
      · exact t_callMethod hT hF _ _ _
      · exact t_callMethod hT hF _ _ _
    · exact ts _ _
  · split
    · exact tb (t_receiverVia hT _ _ _ _) fun r => hF _ _
    · exact ts _ _
  · exact t_yield _ _ _
  · exact ts _ _
  · cases hd
theorem res_callMethod (hF : Fns P Q X) (r : Value) (n : String) (args : Array Value) : Res Q (PlainN Q) (callMethod r n args) := by
  unfold callMethod
  split
  · exact res_bind (tprog (tp _)) fun p => res_bind (t_method rfl _ _ _ _) fun x => hF.res _ _
  · exact res_bind (tprog (tp _)) fun p => by
      intro v es a v' es' hg e
      cases e
  · exact res_halt
theorem res_invoke (hF : Fns P Q X) (d : Deferred) (hd : okDef d = true) : Res Q (PlainN Q) (invoke d.target d.args) := by
  obtain ⟨t, args⟩ := d
  unfold okDef at hd
  unfold invoke
  dsimp only at hd ⊢
  split
  · exact res_bind (tprog (tp _)) fun p => by
      intro v es a v' es' hg e
      cases e
  · cases hd
  · exact hF.res _ _
  · split
    · exact res_callMethod hF _ _ _
    · exact res_halt
  · split
    · refine res_bind (t_underlying rfl _) fun u => ?_
      split
      · exact res_callMethod hF _ _ _
      · exact res_callMethod hF _ _ _
    · exact res_halt
  · split
    · exact res_bind (t_receiverVia rfl _ _ _ _) fun r => hF.res _ _
    · exact res_halt
  · intro v es a v' es' hg e
    have := t_yield (P := Q) (Q := Q) (X := fun _ => False) (by assumption) args (stuck "") v es hg
    obtain ⟨_, _, n, _, h4⟩ := this
    have := h4 v (.refl v) (fun j q hj => rfl)
    rw [e] at this
    obtain ⟨w', h, _⟩ := this
    cases h
  · exact res_halt
  · cases hd

/-- The built-in functions of which it may be made. -/
def okBuiltin : Builtin → Bool
  | .append | .len | .copy | .close => true
  | _ => false

/-- What an operation must be. St: the structs that may be compared. -/
def okOp (P : Program) (St : List TypeId) (o : Oper) : Bool := match o.op with
  | .move _ | .assign _ | .pick _ _ _ | .alloc _ | .box _ _ | .build _ _ | .buildSlice _ _ _ | .load _ _ | .store _ _ _ | .nilCheck _ | .unOp _ _ _ | .makeInterface _ _ | .makeFunc _ _ _ | .makeChan _ _
  | .makeSlice _ _ _ | .slice _ _ _ _ _ | .fieldAddr _ _ _ | .indexAddr _ _ _ | .extract _ _ => true
  | .range _ (.const (.string _)) => true
  | .binOp op t _ y _ => !isEq op || intTy P t || nilC y || St.contains t || t == bad
  | .convert s d _ => intTy P s && intTy P d
  | .call c => (match c.callee with | .value _ => true | .builtin b => okBuiltin b | _ => false)
  | .defer c => (match c.callee with | .value _ => true | _ => false)
  | _ => false

/-- What the sequential program has in its place: a number's operator bears no type. -/
def cutOp (P : Program) (o : Oper) : Oper := match o.op with
  | .binOp op t x y z => if !isEq op || intTy P t then { o with op := .binOp op bad x y z } else o
  | _ => o

theorem t_range (hT : Kin P Q) (t : TypeId) (s : ByteArray) : Tm P Q X (Instr.range t (.string s)) (Instr.range t (.string s)) := by
  unfold Instr.range
  refine tb (t_underlying hT t) fun d => ?_
  by_cases hd : d = .string
  · subst hd
    show Tm P Q X (newObj (.stringIter s 0) >>= fun r => pure (Value.pointer (some ⟨r, 0, none⟩))) (newObj (.stringIter s 0) >>= fun r => pure (Value.pointer (some ⟨r, 0, none⟩)))
    exact tb (tm_new _ fun h => h) fun _ => tp _
  · dsimp only
    split
    · exact absurd rfl hd
    · rename_i h; cases h
    · rename_i h; cases h
    · exact ts _ _

/-- What is asked of the programs and of the blocks. -/
structure Env (P Q : Program) (X : Nat → Prop) (St : List TypeId) : Prop where
  kin : Kin P Q
  bad : Q.info? bad = none
  low : ∀ r, X r → Q.globals.size ≤ r
  fns : Fns P Q X
  st : ∀ t ∈ St, NumStruct P Q t

theorem nilC_val {ρ : Operand → Value} {x : Operand} (hρ : ∀ v, ρ (.const v) = v) (h : nilC x = true) : ρ x = .nilIface ∨ ρ x = .pointer none ∨ (∃ n c, ρ x = .slice none n c) ∨ ρ x = .nilFunc ∨ ρ x = .chan none ∨ ρ x = .map none := by
  unfold nilC at h
  split at h <;> first | (rw [hρ]; simp) | cases h

/-- A check against nil. -/
def nilCk (x : Value) : Sem Next := match x with
  | .pointer none | .nilIface | .nilFunc => runtimePanic .nilDeref
  | .func (.method name) first captured =>
    match (first[0]? : Option Value) with
    | some .nilIface => runtimePanic .nilDeref
    | some (.iface t w) => do
      if (← nilAhead ((← program).types.size + Made.depth) t w name) != some false then
        unsupported (.noEntry "op/nilCheck.the method's receiver behind this interface value is a nil pointer, or cannot be seen to be none, and the arguments act or may panic (ledger 612)")
      pure (.value (.func (.method name) first captured))
    | _ => pure (.value (.func (.method name) first captured))
  | x => pure (.value x)
theorem t_nilCk (hT : Kin P Q) (x : Value) : Tm P Q X (nilCk x) (nilCk x) := by
  unfold nilCk
  split
  · exact t_runtimePanic hT _
  · exact t_runtimePanic hT _
  · exact t_runtimePanic hT _
  · split
    · exact t_runtimePanic hT _
    · refine tprog ?_
      rw [show Q.types = P.types by rw [show Q.toTables = P.toTables from hT.symm]]
      exact tb (t_nilAhead hT _ _ _ _) fun r => tite (tb (tu _ _) fun _ => tp _) (tp _)
    · exact tp _
  · exact tp _

theorem t_exec {St : List TypeId} (E : Env P Q X St) (ρ : Operand → Value) (hρ : ∀ v, ρ (.const v) = v) (o : Oper) (ho : okOp P St o = true) : Tm P Q X (execOp ρ (cutOp P o)) (execOp ρ o) := by
  have hT := E.kin
  obtain ⟨dst, op, type, pos, after, guard⟩ := o
  unfold okOp at ho
  unfold cutOp
  dsimp only at ho ⊢
  cases op with
  | move x => exact tp _
  | assign x => exact tp _
  | pick c a b => exact tb (t_asBool _) fun _ => tp _
  | alloc e => exact tb (t_alloc hT e) fun _ => tp _
  | box e x => exact tb (t_box e _) fun _ => tp _
  | build t ps => exact tb (t_build hT t _) fun _ => tp _
  | buildSlice t n ps => exact tb (t_buildSlice hT t n _) fun _ => tp _
  | load t a => exact tb (tb (t_sureAddr _) fun _ => t_loadVar hT _ _) fun _ => tp _
  | store t a x => exact tb (tb (t_sureAddr _) fun _ => t_storeVar hT _ _ _) fun _ => tp _
  | nilCheck x =>
    show Tm P Q X (nilCk (ρ x)) (nilCk (ρ x))
    exact t_nilCk hT _
  | unOp u t x => exact tb (t_unary _ _) fun _ => tp _
  | makeInterface t x => exact tb (t_makeInterface hT _ _) fun _ => tp _
  | makeFunc f a b => exact tb (tp _) fun _ => tp _
  | makeChan t s => exact tb (t_makeChan hT _ _) fun _ => tp _
  | makeSlice t l c => exact tb (t_makeSlice hT _ _ _) fun _ => tp _
  | slice t x l h m => exact tb (t_sliceAt hT _ _ _ _ _) fun _ => tp _
  | fieldAddr s x f => exact tb (t_fieldAt hT _ _ _) fun _ => tp _
  | indexAddr t x i => exact tb (t_indexAt hT _ _ _) fun _ => tp _
  | extract t i => exact tb (t_extract _ _) fun _ => tp _
  | range t x =>
    have hx : ∃ s, x = .const (.string s) := by
      cases x with
      | const v => cases v with
        | string s => exact ⟨s, rfl⟩
        | _ => cases ho
      | _ => cases ho
    obtain ⟨s, rfl⟩ := hx
    show Tm P Q X (Instr.range t (ρ (.const (.string s))) >>= fun x => pure (Next.value x)) (Instr.range t (ρ (.const (.string s))) >>= fun x => pure (Next.value x))
    rw [hρ]
    exact tb (t_range hT t s) fun _ => tp _
  | binOp op t x y z =>
    simp only [Bool.or_eq_true, Bool.not_eq_true', List.contains_iff_mem, beq_iff_eq] at ho ⊢
    by_cases hc : (isEq op = false ∨ intTy P t = true)
    · rw [if_pos hc]
      have hi : isEq op = true → intTy P t = true := fun h => hc.resolve_left (by rw [h]; simp)
      exact tb (tb (t_guard_int hT E.bad op t hi x y _ _) fun _ => t_binOp hT E.bad E.low op t _ _) fun _ => tp _
    · rw [if_neg hc]
      have he : isEq op = true := by
        cases h : isEq op with
        | true => rfl
        | false => exact absurd (.inl h) hc
      have hn : intTy P t = false := by
        cases h : intTy P t with
        | false => rfl
        | true => exact absurd (.inr h) hc
      have hcase : nilC y = true ∨ t ∈ St ∨ t = bad := by
        rcases ho with (((h | h) | h) | h) | h
        · rw [he] at h; cases h
        · rw [hn] at h; cases h
        · exact .inl h
        · exact .inr (.inl h)
        · exact .inr (.inr h)
      have hb : Tm P Q X (binOp op t (ρ x) (ρ y)) (binOp op t (ρ x) (ρ y)) := by
        have hq : Tm P Q X (Op.equal t (ρ x) (ρ y)) (Op.equal t (ρ x) (ρ y)) := by
          rcases hcase with h | h | rfl
          · exact t_eq_nil hT _ _ _ (nilC_val hρ h)
          · exact t_eq_struct hT E.low _ (E.st t h) _ _
          · exact t_equal_bad E.bad _ _ _
        cases op <;> first | cases he | skip
        all_goals
          unfold binOp
          split <;> first
            | contradiction
            | exact tb hq fun _ => tp _
            | exact tite (ts _ _) (tp _)
            | exact tite (ts _ _) (t_fcmp _ _ _ _)
            | exact tite (ts _ _) (t_complex _ _ _ _ _ _)
            | exact t_stringOp _ _ _
            | exact tu _ _
            | exact ts _ _
      refine tb (tb (t_guard hT op t x y _ _ fun c d h1 h2 => ?_) fun _ => hb) fun _ => tp _
      rcases hcase with h | h | rfl
      · rcases nilC_val hρ h with e | e | ⟨_, _, e⟩ | e | e | e <;> rw [h2] at e <;> cases e
      · exact ⟨(E.st t h).guardQ, (E.st t h).guard⟩
      · exact ⟨guardType_bad E.bad, guardType_bad (by rw [← hT.info]; exact E.bad)⟩
  | convert s d x =>
    simp only [Bool.and_eq_true] at ho
    exact tb (t_convert hT _ _ ho.1 ho.2 _) fun _ => tp _
  | call c =>
    show Tm P Q X (resolve ρ c type >>= fun d => invoke d.target d.args) (resolve ρ c type >>= fun d => invoke d.target d.args)
    obtain ⟨callee, args, ats⟩ := c
    cases callee with
    | value f =>
      show Tm P Q X (Deferred.ofValue (ρ f) (args.map ρ) >>= fun d => invoke d.target d.args) (Deferred.ofValue (ρ f) (args.map ρ) >>= fun d => invoke d.target d.args)
      unfold Deferred.ofValue
      split
      · exact t_invoke hT E.fns.tm ⟨.fn _ _, _⟩ rfl
      · exact t_invoke hT E.fns.tm ⟨.nil, args.map ρ⟩ rfl
      · exact ts _ _
    | builtin b =>
      show Tm P Q X (builtin b ats type _ (args.map ρ)) (builtin b ats type _ (args.map ρ))
      cases b <;> first | cases ho | skip
      · exact tb (t_append hT _ _ _) fun _ => tp _
      · exact tb (t_close hT _ _ _) fun _ => tp _
      · exact tb (t_copy hT _ _ _) fun _ => tp _
      · exact tb (t_len hT _ _ _) fun _ => tp _
    | _ => cases ho
  | defer c =>
    obtain ⟨callee, args, ats⟩ := c
    cases callee with
    | value f => exact tb (t_ofValue _ _) fun _ => tp _
    | _ => cases ho
  | _ => cases ho

def Res0 (Q : Program) {α : Type} (R : α → Prop) (s : Sem α) : Prop := ∀ v es a v' es', s.runT Q v es = (.ok a v', es') → R a
theorem Res0.res {α : Type} {R : α → Prop} {s : Sem α} (h : Res0 Q R s) : Res Q R s := fun v es a v' es' _ e => h v es a v' es' e
theorem r0_pure {α : Type} {R : α → Prop} {a : α} (h : R a) : Res0 Q R (pure a) := by
  intro v es b v' es' e
  cases e
  exact h
theorem r0_halt {α : Type} {R : α → Prop} {h : Halt} : Res0 Q R (Sem.halt h) := by
  intro v es b v' es' e
  cases e
theorem r0_bind {α β : Type} {R : β → Prop} {s : Sem α} {f : α → Sem β} (hf : ∀ a, Res0 Q R (f a)) : Res0 Q R (s >>= f) := by
  intro v es b v' es' e
  have e' : (s.bind f).runT Q v es = (.ok b v', es') := e
  rw [Sem.runT_bind'] at e'
  cases hr : s.runT Q v es with
  | mk r e1 =>
    rw [hr] at e'
    cases r with
    | ok a v1 => exact hf a v1 e1 b v' es' e'
    | halt _ _ => cases e'
theorem r0_val {s : Sem Value} : Res0 Q (PlainN Q) (s >>= fun x => pure (.value x)) := r0_bind fun _ => r0_pure trivial
theorem r0_skip {s : Sem Unit} : Res0 Q (PlainN Q) (s >>= fun _ => pure .skip) := r0_bind fun _ => r0_pure trivial
theorem r0_panic (e : RuntimeError) : Res0 Q (PlainN Q) (runtimePanic e) := by
  unfold runtimePanic
  refine r0_bind fun p => ?_
  dsimp only
  split <;> first
    | exact r0_halt
    | exact r0_bind fun _ => r0_bind fun _ => r0_halt
theorem r0_nilCk (x : Value) : Res0 Q (PlainN Q) (nilCk x) := by
  unfold nilCk
  split
  · exact r0_panic _
  · exact r0_panic _
  · exact r0_panic _
  · split
    · exact r0_panic _
    · refine r0_bind fun p => r0_bind fun r => ?_
      split
      · exact r0_bind fun _ => r0_pure trivial
      · exact r0_pure trivial
    · exact r0_pure trivial
  · exact r0_pure trivial

/-- It comes to something plain. -/
theorem res_exec (hF : Fns P Q X) (St : List TypeId) (ρ : Operand → Value) (o : Oper) (ho : okOp P St o = true) : Res Q (PlainN Q) (execOp ρ (cutOp P o)) := by
  obtain ⟨dst, op, type, pos, after, guard⟩ := o
  unfold okOp at ho
  unfold cutOp
  dsimp only at ho ⊢
  cases op with
  | move x => exact (r0_pure trivial).res
  | assign x => exact (r0_pure trivial).res
  | pick c a b => exact (r0_bind fun _ => r0_pure trivial).res
  | store t a x => exact r0_skip.res
  | nilCheck x => exact (r0_nilCk _).res
  | binOp op t x y z =>
    dsimp only
    by_cases hc : (!isEq op || intTy P t) = true
    · rw [if_pos hc]; exact r0_val.res
    · rw [if_neg hc]; exact r0_val.res
  | call c =>
    obtain ⟨callee, args, ats⟩ := c
    cases callee with
    | value f =>
      show Res Q (PlainN Q) (Deferred.ofValue (ρ f) (args.map ρ) >>= fun d => invoke d.target d.args)
      unfold Deferred.ofValue
      split
      · exact res_invoke hF ⟨.fn _ _, _⟩ rfl
      · exact res_invoke hF ⟨.nil, args.map ρ⟩ rfl
      · exact res_halt
    | builtin b => cases b <;> first | exact r0_val.res | cases ho
    | _ => cases ho
  | defer c =>
    obtain ⟨callee, args, ats⟩ := c
    cases callee with
    | value f =>
      show Res Q (PlainN Q) (Deferred.ofValue (ρ f) (args.map ρ) >>= fun d => pure (.defer d))
      unfold Deferred.ofValue
      split
      · exact res_pure (show okDef ⟨.fn _ _, _⟩ = true from rfl)
      · exact res_pure (show okDef ⟨.nil, args.map ρ⟩ = true from rfl)
      · exact res_halt
    | _ => cases ho
  | _ => first | exact r0_val.res | cases ho
end
end Go.Proofs.Ytdlnlcjmjgbikaa
/- Codes and frames of the two programs. -/
namespace Go.Proofs.Ytdlnlcjmjgbikaa
open Go Go.Conc

section
variable (P : Program) (St : List TypeId)
/-- The sequential program's code: what it must not come to is left out. -/
def cutCode : Code → Code
  | .skip => .skip
  | .region id ops d => if ops.all (okOp P St) then .region id (ops.map (cutOp P)) d else .refuse ""
  | .seq a b => .seq (cutCode a) (cutCode b)
  | .cond c a b => .cond c (cutCode a) (cutCode b)
  | .block id b => .block id (cutCode b)
  | .loop b => .loop (cutCode b)
  | .exit id => .exit id
  | .label l => .label l
  | .ret => .ret
  | _ => .refuse ""

/-- What is still to do, in both. -/
inductive ItR : Item → Item → Prop
  | code (c : Code) : ItR (.code c) (.code (cutCode P St c))
  | inBlock (id : Nat) : ItR (.inBlock id) (.inBlock id)
  | inLoop (c : Code) : ItR (.inLoop c) (.inLoop (cutCode P St c))
  | inRegion (ops : Array Oper) (todo : List Nat) (h : ops.all (okOp P St) = true) : ItR (.inRegion ops todo) (.inRegion (ops.map (cutOp P)) todo)

/-- Two lists, one by one. -/
inductive All2 {α β : Type} (R : α → β → Prop) : List α → List β → Prop
  | nil : All2 R [] []
  | cons {a : α} {b : β} {l : List α} {k : List β} : R a b → All2 R l k → All2 R (a :: l) (b :: k)

/-- A frame of the program and the sequential program's. -/
structure FrR (Q : Program) (fr fr' : Frame) : Prop where
  fn : fr'.fn = fr.fn
  func : ∃ f f' : Func, P.funcs[fr.fn]? = some f ∧ Q.funcs[fr.fn]? = some f' ∧ f'.results = f.results
  tmps : fr'.tmps = fr.tmps
  defers : fr'.defers = fr.defers
  okd : ∀ d ∈ fr.defers, okDef d = true
  mode : fr'.mode = fr.mode
  kind : fr'.kind = fr.kind
  kinds : fr.kind = .normal ∨ fr.kind = .deferred
  round : fr.roundOf = none
  round' : fr'.roundOf = none
  todo : All2 (ItR P St) fr.todo fr'.todo
end

section
variable {P : Program} {St : List TypeId}
@[simp] theorem cut_dst (o : Oper) : (cutOp P o).dst = o.dst := by
  unfold cutOp; split <;> try rfl
  split <;> rfl
@[simp] theorem cut_guard (o : Oper) : (cutOp P o).guard = o.guard := by
  unfold cutOp; split <;> try rfl
  split <;> rfl
@[simp] theorem cut_after (o : Oper) : (cutOp P o).after = o.after := by
  unfold cutOp; split <;> try rfl
  split <;> rfl
theorem cut_get (ops : Array Oper) (i : Nat) : (ops.map (cutOp P))[i]? = (ops[i]?).map (cutOp P) := by simp
theorem cut_dst_get (ops : Array Oper) (i : Nat) : ((ops.map (cutOp P))[i]?).bind (·.dst) = (ops[i]?).bind (·.dst) := by
  rw [cut_get]; cases ops[i]? <;> simp
theorem cut_yielded (ops : Array Oper) (tmps : Array Value) : yielded (ops.map (cutOp P)) tmps = yielded ops tmps := by
  funext j
  unfold yielded
  rw [cut_dst_get]
theorem cut_wanted (ops : Array Oper) (tmps : Array Value) (i : Nat) : (((ops.map (cutOp P))[i]?).map (Region.wanted · (yielded (ops.map (cutOp P)) tmps))).getD false = ((ops[i]?).map (Region.wanted · (yielded ops tmps))).getD false := by
  rw [cut_yielded, cut_get]
  cases ops[i]? with
  | none => rfl
  | some o => simp [Region.wanted]
theorem cut_linear (m : Region.Mode) (ops : Array Oper) (t : Nat) : Region.linearise m (ops.map (cutOp P)) t = Region.linearise m ops t := by
  unfold Region.linearise
  rw [Array.size_map]
  have key : ∀ n t l acc, Region.linearise.go m (ops.map (cutOp P)) n t l acc = Region.linearise.go m ops n t l acc := by
    intro n
    induction n with
    | zero => exact fun t l acc => rfl
    | succ n ih =>
      intro t l acc
      unfold Region.linearise.go
      have e : (List.range (ops.map (cutOp P)).size).filter (fun i => !l.getD i true && (((ops.map (cutOp P))[i]?).map (·.after.all fun e => !Region.binds m e || l.getD e.on false)).getD false) =
          (List.range ops.size).filter (fun i => !l.getD i true && ((ops[i]?).map (·.after.all fun e => !Region.binds m e || l.getD e.on false)).getD false) := by
        rw [Array.size_map]
        congr 1
        funext i
        rw [cut_get]
        cases ops[i]? <;> simp
      rw [e]
      simp only [ih]
  exact key _ _ _ _
theorem cut_departs (ops : Array Oper) : Region.departs (ops.map (cutOp P)) = Region.departs ops := by
  unfold Region.departs
  rw [Array.any_map]
  congr 1
  funext o
  simp
theorem cut_schedule (b : Bool) (ops : Array Oper) (t : Nat) : Region.schedule b (ops.map (cutOp P)) t = Region.schedule b ops t := by
  unfold Region.schedule
  simp only [cut_departs, cut_linear]
theorem All2.size {α β : Type} {R : α → β → Prop} {l : List α} {k : List β} (h : All2 R l k) : l.length = k.length := by
  induction h with
  | nil => rfl
  | cons _ _ ih => simp [ih]
theorem All2.app {α β : Type} {R : α → β → Prop} {l : List α} {k : List β} (h : All2 R l k) {l2 : List α} {k2 : List β} (h2 : All2 R l2 k2) : All2 R (l ++ l2) (k ++ k2) := by
  induction h with
  | nil => exact h2
  | cons a _ ih => exact .cons a ih

theorem exit_rel (id : Nat) {k k' : List Item} (h : All2 (ItR P St) k k') : (exitTo id k = none ∧ exitTo id k' = none) ∨ ∃ l l', exitTo id k = some l ∧ exitTo id k' = some l' ∧ All2 (ItR P St) l l' := by
  induction h with
  | nil => exact .inl ⟨rfl, rfl⟩
  | cons a b ih =>
    cases a with
    | inBlock id2 =>
      simp only [exitTo]
      split
      · exact .inr ⟨_, _, rfl, rfl, b⟩
      · exact ih
    | code c => simpa [exitTo] using ih
    | inLoop c => simpa [exitTo] using ih
    | inRegion ops todo hh => simpa [exitTo] using ih
end
end Go.Proofs.Ytdlnlcjmjgbikaa
