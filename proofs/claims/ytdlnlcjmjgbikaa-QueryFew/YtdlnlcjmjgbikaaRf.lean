/- What can be called while a cell is brought up to date: never the function that starts workers. -/
import Derived.Test.YtdlnlcjmjgbikaaRd
namespace Go.Proofs.Ytdlnlcjmjgbikaa
open Go Go.Conc

/-- The functions that may be entered. -/
def alw : List Nat := [46,70,71,72,73,86,87,88,89,94,95,96,22,30,50,31,49,79,92,14,15]
/-- The slots that hold the one function that is called by its value. -/
def slt (f : Nat) : List Nat := if f = 22 then [7] else if f = 30 then [1, 10] else if f = 50 then [1, 19] else []
/-- A function that has no code in the sequential program. -/
def bare (g : Nat) : Bool := !whites.contains g && g != 14 && g != 15 && g != 27
def argOk (sl : List Nat) (g : Nat) (args : Array Operand) : Bool :=
  if g = 22 then args.size == 1 else if g = 30 ∨ g = 50 then args.size == 2 && (match (args[1]? : Option Operand) with
    | some (Operand.tmp s) => sl.contains s
    | _ => false) else true
def callOk (sl : List Nat) (c : Call) : Bool := match c.callee with
  | .value (.func g) => (alw.contains g && argOk sl g c.args) || bare g
  | .value (.tmp s) => sl.contains s
  | .builtin _ => true
  | _ => false
def defOk (c : Call) : Bool := match c.callee with
  | .value (.func g) => (alw.contains g && (slt g).isEmpty) || bare g
  | _ => false
def putOk (sl : List Nat) (o : Op) : Bool := match o with
  | .makeFunc (.func f) _ _ => f == 31
  | .move (.tmp s) => sl.contains s
  | _ => false
def opOk (sl : List Nat) (o : Oper) : Bool := (match o.op with
  | .call c => callOk sl c
  | .defer c => defOk c
  | _ => true) && (match o.dst with
  | some d => !sl.contains d || putOk sl o.op
  | none => true)
def codeOk (sl : List Nat) : Code → Bool
  | .region _ ops _ => ops.all (opOk sl)
  | .seq a b => codeOk sl a && codeOk sl b
  | .cond _ a b => codeOk sl a && codeOk sl b
  | .block _ b => codeOk sl b
  | .loop b => codeOk sl b
  | _ => true
def itOk (sl : List Nat) : Item → Bool
  | .code c => codeOk sl c
  | .inLoop c => codeOk sl c
  | .inRegion ops _ => ops.all (opOk sl)
  | _ => true
/-- The function that is called by its value. -/
def Bv (x : Value) : Prop := x = undef ∨ ∃ a b, x = .func (.func 31) a b
def DefOk (d : Deferred) : Prop := ∃ g c, d.target = .fn (.func g) c ∧ ((g ∈ alw ∧ slt g = []) ∨ bare g = true)
structure InvF (fr : Frame) : Prop where
  fn : fr.fn ∈ alw
  slots : ∀ s ∈ slt fr.fn, Bv (fr.tmps.getD s undef)
  todo : ∀ i ∈ fr.todo, itOk (slt fr.fn) i = true
  defs : ∀ d ∈ fr.defers, DefOk d
/-- It stands at a call. -/
def HeadOk (fr : Frame) : Prop := ∃ ops i rest k, fr.todo = .inRegion ops (i :: rest) :: k ∧ ∀ d, (ops[i]?).bind (·.dst) = some d → d ∉ slt fr.fn
/-- A frame and its callers. -/
inductive StI : Frame → List Frame → Prop
  | nil {fr : Frame} : InvF fr → fr.kind = .normal → fr.fn = 46 → StI fr []
  | cons {fr a : Frame} {cs : List Frame} : InvF fr → (fr.kind = .normal → HeadOk a) → StI a cs → StI fr (a :: cs)
theorem StI.top {fr : Frame} {cs : List Frame} (h : StI fr cs) : InvF fr := by cases h <;> assumption
/-- The top alone turns. -/
theorem StI.put {fr fr1 : Frame} {cs : List Frame} (h : StI fr cs) (h1 : InvF fr1) (hk : fr1.kind = fr.kind) (hf : fr1.fn = fr.fn) : StI fr1 cs := by
  cases h with
  | nil _ a b => exact .nil h1 (hk.trans a) (hf.trans b)
  | cons _ a b => exact .cons h1 (fun e => a (hk ▸ e)) b

theorem codeOk_cut (sl : List Nat) (P : Program) (St : List TypeId) (c : Code) (h : codeOk sl c = true) : codeOk sl (cutCode P St c) = true := by
  induction c with
  | region id ops d =>
    simp only [cutCode]
    split
    · simp only [codeOk, Array.all_eq_true_iff_forall_mem] at h ⊢
      intro o ho
      obtain ⟨o', ho', rfl⟩ := Array.mem_map.1 ho
      have := h o' ho'
      obtain ⟨dst, op, type, pos, after, guard⟩ := o'
      unfold cutOp
      cases op <;> first | exact this | (dsimp only; split <;> exact this)
    · rfl
  | seq a b iha ihb => simp only [codeOk, cutCode, Bool.and_eq_true] at h ⊢; exact ⟨iha h.1, ihb h.2⟩
  | cond x a b iha ihb => simp only [codeOk, cutCode, Bool.and_eq_true] at h ⊢; exact ⟨iha h.1, ihb h.2⟩
  | block id b ih => simp only [codeOk, cutCode] at h ⊢; exact ih h
  | loop b ih => simp only [codeOk, cutCode] at h ⊢; exact ih h
  | _ => rfl

noncomputable section
/-- The kernel's look at the functions. -/
def lookP (P : Program) : Bool := alw.all fun g => match P.funcs[g]? with
  | some fn => (match fn.body with
    | some c => g == 14 || g == 15 || codeOk (slt g) c
    | none => false)
  | none => false
theorem look_p : lookP Try.prog = true := by kernel_rfl
theorem look_m : codeOk [] lockC = true ∧ codeOk [] unlockC = true := ⟨by kernel_rfl, by kernel_rfl⟩
theorem getD_app (a : Array Value) (n s : Nat) : (a ++ Array.replicate n undef).getD s undef = a.getD s undef := by
  simp only [Array.getD_eq_getD_getElem?, Array.getElem?_append]
  by_cases h : s < a.size
  · simp [h]
  · simp only [h, if_false, Array.getElem?_replicate, Array.getElem?_eq_none (Nat.le_of_not_lt h)]
    split <;> rfl
/-- A function that may be entered, entered. -/
theorem inv_enter {g : Nat} (hg : g ∈ alw) (args : Array Value) (ha : ∀ s ∈ slt g, Bv (args.getD s undef)) (kd : CallKind) : InvF (Frame.enter Sq.prog g args kd) := by
  refine ⟨hg, fun s hs => ?_, fun i hi => ?_, fun d hd => by cases hd⟩
  · simp only [Frame.enter]
    rw [getD_app]
    exact ha s hs
  · have hl := List.all_eq_true.1 look_p g hg
    simp only [Frame.enter, List.mem_singleton] at hi
    subst hi
    show codeOk (slt g) _ = true
    cases kind g with
    | white f0 hw hP hn b hb hQ =>
      rw [hQ]
      rw [hP] at hl
      simp only [hb, Bool.or_eq_true, beq_iff_eq] at hl
      refine codeOk_cut _ _ _ _ ?_
      rcases hl with (rfl | rfl) | h
      · exact absurd hw (by decide)
      · exact absurd hw (by decide)
      · exact h
    | mac f0 b hm hP hn hb hbs hQ =>
      rw [hQ]
      rcases hm with rfl | rfl | rfl
      · have e := sq_func 14
        obtain ⟨fn, h1, h2, _⟩ := lock_p
        rw [hQ] at h1; cases h1
        have h2' : some b = some lockC := h2
        cases h2'
        exact look_m.1
      · obtain ⟨fn, h1, h2, _⟩ := unlock_p
        rw [hQ] at h1; cases h1
        have h2' : some b = some unlockC := h2
        cases h2'
        exact look_m.2
      · exact absurd hg (by decide)
    | ext f0 he hP hn hb hQ => rw [hQ]; simp [hb, codeOk]
    | nope hQ => rw [hQ]; rfl
    | none hP hQ => rw [hQ]; rfl
/-- What a call comes to. -/
theorem call_shape {g : Nat} {args : Array Value} {v v' : World} {es es' : Array Event} {a : Next} (e : (callFunc g args).runT Sq.prog v es = (.ok a v', es')) : (a = .enter g args ∧ bare g = false) ∨ ∃ x, a = .value x := by
  cases kind g with
  | white f0 hw hP hn b hb hQ =>
    rw [call_enter hQ hn rfl] at e; cases e
    refine .inl ⟨rfl, ?_⟩
    simp [bare, hw]
  | mac f0 b hm hP hn hb hbs hQ =>
    rw [call_enter hQ hn rfl] at e; cases e
    refine .inl ⟨rfl, ?_⟩
    rcases hm with rfl | rfl | rfl <;> rfl
  | ext f0 he hP hn hb hQ =>
    obtain ⟨h1, e', h2, h3⟩ := ext_at g he f0 hP
    rw [call_ext hQ hn hb h1 h2] at e
    exact .inr ((r0_bind fun _ => r0_bind fun x => r0_pure ⟨x, rfl⟩ : Res0 Sq.prog (fun a => ∃ x, a = Next.value x) _) v es a v' es' e)
  | nope hQ => rw [call_nope hQ] at e; cases e
  | none hP hQ => rw [call_none hQ] at e; cases e
/-- What an operation comes to. -/
def ChkN (sl : List Nat) (dst : Option Nat) : Next → Prop
  | .value x => ∀ d, dst = some d → d ∈ sl → Bv x
  | .enter f args => f ∈ alw ∧ (∀ s ∈ slt f, Bv (args.getD s undef)) ∧ ∀ d, dst = some d → d ∉ sl
  | .defer d => DefOk d
  | _ => True
theorem chk_val {Q : Program} {sl : List Nat} {dst : Option Nat} (hd : ∀ d, dst = some d → d ∉ sl) {s : Sem Value} : Res0 Q (ChkN sl dst) (s >>= fun x => pure (.value x)) :=
  r0_bind fun _ => r0_pure fun d h1 h2 => absurd h2 (hd d h1)
theorem chk_call {sl : List Nat} {dst : Option Nat} (hd : ∀ d, dst = some d → d ∉ sl) {g : Nat} {args : Array Value} (h : bare g = true ∨ (g ∈ alw ∧ ∀ s ∈ slt g, Bv (args.getD s undef))) : Res0 Sq.prog (ChkN sl dst) (callFunc g args) := by
  intro v es a v' es' e
  rcases call_shape e with ⟨rfl, hb⟩ | ⟨x, rfl⟩
  · rcases h with h | h
    · rw [hb] at h; cases h
    · exact ⟨h.1, h.2, hd⟩
  · exact fun d h1 h2 => absurd h2 (hd d h1)
theorem chk_nilCk {Q : Program} {R : Next → Prop} (hR : ∀ x, R (.value x)) (x : Value) : Res0 Q R (nilCk x) := by
  have hp : ∀ e, Res0 Q R (runtimePanic e) := fun e => by
    unfold runtimePanic
    refine r0_bind fun p => ?_
    dsimp only
    split <;> first
      | exact r0_halt
      | exact r0_bind fun _ => r0_bind fun _ => r0_halt
  unfold nilCk
  split
  · exact hp _
  · exact hp _
  · exact hp _
  · split
    · exact hp _
    · refine r0_bind fun p => r0_bind fun r => ?_
      split
      · exact r0_bind fun _ => r0_pure (hR _)
      · exact r0_pure (hR _)
    · exact r0_pure (hR _)
  · exact r0_pure (hR _)
theorem chk_exec0 {Q : Program} {sl : List Nat} {tmps : Array Value} (hsl : ∀ s ∈ sl, Bv (tmps.getD s undef)) (o : Oper) (ho : okOp Try.prog sts o = true) (hc : opOk sl (cutOp Try.prog o) = true)
    (hcall : (∀ d, o.dst = some d → d ∉ sl) → ∀ g args, bare g = true ∨ (g ∈ alw ∧ ∀ s ∈ slt g, Bv (args.getD s undef)) → Res0 Q (ChkN sl o.dst) (callFunc g args)) : Res0 Q (ChkN sl (cutOp Try.prog o).dst) (execOp (evT tmps) (cutOp Try.prog o)) := by
  rw [cut_dst]
  obtain ⟨dst, op, type, pos, after, guard⟩ := o
  have hput : ∀ d, dst = some d → d ∈ sl → putOk sl (cutOp Try.prog ⟨dst, op, type, pos, after, guard⟩).op = true := by
    intro d e hd
    subst e
    unfold opOk at hc
    rw [cut_dst] at hc
    simp only [Bool.and_eq_true, Bool.or_eq_true, Bool.not_eq_true'] at hc
    exact hc.2.resolve_left fun h => by rw [List.contains_iff_mem.2 hd] at h; cases h
  unfold okOp at ho
  unfold cutOp at hput hc ⊢
  unfold opOk at hc
  dsimp only at ho hput hc ⊢
  cases op with
  | move x =>
    refine r0_pure fun d h1 h2 => ?_
    have := hput d h1 h2
    dsimp only [putOk] at this
    cases x with
    | tmp s => exact hsl s (List.contains_iff_mem.1 this)
    | _ => cases this
  | assign x => exact r0_pure fun d h1 h2 => by have := hput d h1 h2; cases this
  | pick c a b => exact r0_bind fun _ => r0_pure fun d h1 h2 => by have := hput d h1 h2; cases this
  | store t a x => exact r0_bind fun _ => r0_pure trivial
  | nilCheck x => exact chk_nilCk (fun x d h1 h2 => by have := hput d h1 h2; cases this) _
  | makeFunc f a b =>
    show Res0 Q _ (pure (Next.value (.func f (a.map (evT tmps)) (b.map (evT tmps)))))
    refine r0_pure fun d h1 h2 => ?_
    have := hput d h1 h2
    cases f with
    | func f =>
      dsimp only [putOk] at this
      obtain rfl : f = 31 := by simpa using this
      exact .inr ⟨_, _, rfl⟩
    | _ => cases this
  | binOp op t x y z =>
    dsimp only at hput hc ⊢
    by_cases hcc : (!isEq op || intTy Try.prog t) = true
    · rw [if_pos hcc] at hput ⊢; exact chk_val fun d h1 h2 => by have := hput d h1 h2; cases this
    · rw [if_neg hcc] at hput ⊢; exact chk_val fun d h1 h2 => by have := hput d h1 h2; cases this
  | call c =>
    have hd : ∀ d, dst = some d → d ∉ sl := fun d h1 h2 => by have := hput d h1 h2; cases this
    obtain ⟨callee, args, ats⟩ := c
    simp only [Bool.and_eq_true] at hc
    have hc1 := hc.1
    cases callee with
    | value f =>
      show Res0 Q _ (Deferred.ofValue (evT tmps f) (args.map (evT tmps)) >>= fun d => invoke d.target d.args)
      cases f with
      | func g =>
        dsimp only [callOk] at hc1
        show Res0 Q _ (callFunc g ((#[] ++ args.map (evT tmps)) ++ #[]))
        refine hcall hd _ _ ?_
        simp only [Bool.or_eq_true, Bool.and_eq_true, List.contains_iff_mem] at hc1
        rcases hc1 with ⟨h1, h2⟩ | h
        · refine .inr ⟨h1, fun s hs => ?_⟩
          simp only [Array.append_empty, Array.empty_append]
          unfold argOk at h2
          unfold slt at hs
          by_cases h22 : g = 22
          · rw [if_pos h22] at h2 hs
            obtain rfl := List.mem_singleton.1 hs
            have hsz : args.size = 1 := by simpa using h2
            refine .inl ?_
            rw [Array.getD_eq_getD_getElem?, Array.getElem?_eq_none (by simp [hsz])]
            rfl
          · rw [if_neg h22] at h2 hs
            by_cases h3 : g = 30 ∨ g = 50
            · rw [if_pos h3] at h2
              simp only [Bool.and_eq_true, beq_iff_eq] at h2
              obtain ⟨hsz, h2⟩ := h2
              have hs' : s = 1 ∨ 2 ≤ s := by
                rcases h3 with rfl | rfl
                · simp at hs; omega
                · simp at hs; omega
              rcases hs' with rfl | hge
              · cases hx : args[1]? with
                | none => rw [hx] at h2; cases h2
                | some x =>
                  rw [hx] at h2
                  cases x with
                  | tmp s' =>
                    have := hsl s' (List.contains_iff_mem.1 h2)
                    rw [Array.getD_eq_getD_getElem?, Array.getElem?_map, hx]
                    exact this
                  | _ => cases h2
              · refine .inl ?_
                rw [Array.getD_eq_getD_getElem?, Array.getElem?_eq_none (by simp [hsz]; omega)]
                rfl
            · rw [if_neg (fun e => h3 (.inl e)), if_neg (fun e => h3 (.inr e))] at hs
              cases hs
        · exact .inl h
      | tmp s =>
        dsimp only [callOk] at hc1
        show Res0 Q _ (Deferred.ofValue (tmps.getD s undef) (args.map (evT tmps)) >>= fun d => invoke d.target d.args)
        rcases hsl s (List.contains_iff_mem.1 hc1) with h | ⟨a, b, h⟩
        · rw [h]; exact r0_halt
        · rw [h]
          show Res0 Q _ (callFunc 31 ((a ++ args.map (evT tmps)) ++ b))
          exact hcall hd _ _ (.inr ⟨by decide, fun s hs => by cases hs⟩)
      | _ => cases hc1
    | builtin b => cases b <;> first | exact chk_val hd | cases ho
    | _ => cases ho
  | defer c =>
    obtain ⟨callee, args, ats⟩ := c
    simp only [Bool.and_eq_true] at hc
    have hc1 := hc.1
    cases callee with
    | value f =>
      cases f with
      | func g =>
        dsimp only [defOk] at hc1
        show Res0 Q _ (pure (Next.defer ⟨.fn (.func g) #[], #[] ++ args.map (evT tmps)⟩))
        refine r0_pure ⟨g, #[], rfl, ?_⟩
        simp only [Bool.or_eq_true, Bool.and_eq_true, List.contains_iff_mem, List.isEmpty_iff] at hc1
        exact hc1
      | _ => cases hc1
    | _ => cases ho
  | _ => first | exact chk_val fun d h1 h2 => by have := hput d h1 h2; cases this | cases ho
theorem chk_exec {sl : List Nat} {tmps : Array Value} (hsl : ∀ s ∈ sl, Bv (tmps.getD s undef)) (o : Oper) (ho : okOp Try.prog sts o = true) (hc : opOk sl (cutOp Try.prog o) = true) : Res0 Sq.prog (ChkN sl (cutOp Try.prog o).dst) (execOp (evT tmps) (cutOp Try.prog o)) :=
  chk_exec0 hsl o ho hc fun hd _ _ h => chk_call hd h

theorem slots_put {sl : List Nat} {tmps : Array Value} (hsl : ∀ s ∈ sl, Bv (tmps.getD s undef)) (d : Nat) (x : Value) (hx : d ∈ sl → Bv x) : ∀ s ∈ sl, Bv ((tmps.setIfInBounds d x).getD s undef) := by
  intro s hs
  simp only [Array.getD_eq_getD_getElem?, Array.getElem?_setIfInBounds]
  by_cases e : d = s
  · subst e
    rw [if_pos rfl]
    split
    · exact hx hs
    · exact .inl rfl
  · rw [if_neg e]
    have := hsl s hs
    rwa [Array.getD_eq_getD_getElem?] at this
/-- An operation has come to its value. -/
theorem inv_finish {fn : FuncId} {tmps : Array Value} {ops : Array Oper} {i : Nat} {rest : List Nat} {k : List Item} {ds ds' : List Deferred} {m m' : FrameMode} {kind kind' : CallKind} (h : InvF ⟨fn, tmps, .inRegion ops (i :: rest) :: k, ds, m, kind, none⟩) (x : Value)
    (hx : ∀ d, (ops[i]?).bind (·.dst) = some d → d ∈ slt fn → Bv x) (hd : ∀ d ∈ ds', DefOk d) : InvF (Frame.finish ⟨fn, tmps, .inRegion ops (i :: rest) :: k, ds', m', kind', none⟩ x) := by
  refine ⟨h.fn, ?_, fun j hj => ?_, hd⟩
  · cases hb : (ops[i]?).bind (·.dst) with
    | none => simp only [Frame.finish, hb]; exact h.slots
    | some d => simp only [Frame.finish, hb]; exact slots_put h.slots d x (hx d hb)
  · simp only [Frame.finish, List.mem_cons] at hj
    rcases hj with rfl | hj
    · exact h.todo (.inRegion ops (i :: rest)) (by simp)
    · exact h.todo j (by simp [hj])
theorem StI.rest {fr a : Frame} {cs : List Frame} (h : StI fr (a :: cs)) : InvF fr ∧ (fr.kind = .normal → HeadOk a) ∧ StI a cs := by
  cases h with
  | cons a b c => exact ⟨a, b, c⟩
theorem inv_mode {fr : Frame} (h : InvF fr) (m : FrameMode) : InvF { fr with mode := m } := ⟨h.fn, h.slots, h.todo, h.defs⟩
theorem inv_todo {fn : FuncId} {tmps : Array Value} {t t' : List Item} {ds : List Deferred} {m m' : FrameMode} {kind : CallKind} (h : InvF ⟨fn, tmps, t, ds, m, kind, none⟩) (ht : ∀ i ∈ t', itOk (slt fn) i = true) : InvF ⟨fn, tmps, t', ds, m', kind, none⟩ := ⟨h.fn, h.slots, ht, h.defs⟩
theorem go_eq {base : List Frame} {a b : Frame} {l k : List Frame} {x y : World} {e f : Array Event} {s : GStep} (h : s = .go (G a (l ++ base)) x e) (h' : s = .go (G b (k ++ base)) y f) : a = b ∧ l = k := by
  have := go_inj (h.symm.trans h')
  exact ⟨this.1, this.2.1⟩
theorem no_end {s : GStep} {g : Goroutine} {w : World} {es : Array Event} (h : s = .go g w es) (h' : ∃ o v1 e, s = .ended o v1 e) : False := by
  obtain ⟨o, v1, e, h'⟩ := h'
  rw [h] at h'
  cases h'
theorem exit_mem {id : Nat} {k l : List Item} (h : exitTo id k = some l) : ∀ i ∈ l, i ∈ k := by
  induction k with
  | nil => cases h
  | cons a k ih =>
    cases a with
    | inBlock id2 =>
      simp only [exitTo] at h
      split at h
      · cases h; exact fun i hi => by simp [hi]
      · exact fun i hi => by simp [ih h i hi]
    | _ => exact fun i hi => by simp [ih (by simpa [exitTo] using h) i hi]

section
variable {base : List Frame} {v v1 : World} {es : Array Event} {fr1 : Frame} {c c1 : List Frame} {fn : FuncId} {tmps : Array Value} {defers : List Deferred} {kind : CallKind}
/-- A step of control. -/
theorem sti_todo {t t' : List Item} {m : FrameMode} (hi : StI ⟨fn, tmps, t, defers, .run, kind, none⟩ c) (hs : stepG Sq.prog true (G ⟨fn, tmps, t, defers, .run, kind, none⟩ (c ++ base)) v = .go (G fr1 (c1 ++ base)) v1 es)
    (e : stepG Sq.prog true (G ⟨fn, tmps, t, defers, .run, kind, none⟩ (c ++ base)) v = .go (G ⟨fn, tmps, t', defers, m, kind, none⟩ (c ++ base)) v #[]) (ht : ∀ i ∈ t', itOk (slt fn) i = true) : StI fr1 c1 := by
  obtain ⟨rfl, rfl⟩ := go_eq e hs
  exact hi.put (inv_todo hi.top ht) rfl rfl
theorem sti_code {cd : Code} {k : List Item} (hi : StI ⟨fn, tmps, .code (cutCode Try.prog sts cd) :: k, defers, .run, kind, none⟩ c)
    (hs : stepG Sq.prog true (G ⟨fn, tmps, .code (cutCode Try.prog sts cd) :: k, defers, .run, kind, none⟩ (c ++ base)) v = .go (G fr1 (c1 ++ base)) v1 es) (hreg : ∀ id ops d, cd ≠ .region id ops d) : StI fr1 c1 := by
  have hk : ∀ i ∈ k, itOk (slt fn) i = true := fun i hi' => hi.top.todo i (by simp [hi'])
  have hc : codeOk (slt fn) (cutCode Try.prog sts cd) = true := hi.top.todo (.code _) (by simp)
  have cons : ∀ (x : Item), itOk (slt fn) x = true → ∀ l : List Item, (∀ i ∈ l, itOk (slt fn) i = true) → ∀ i ∈ x :: l, itOk (slt fn) i = true := fun x hx l hl i h => by
    rcases List.mem_cons.1 h with rfl | h
    · exact hx
    · exact hl i h
  cases cd with
  | skip => exact sti_todo hi hs (m := .run) (by simp [G, stepG, stepG.exec, cutCode]) hk
  | region id ops d => exact absurd rfl (hreg id ops d)
  | seq a b =>
    simp only [cutCode, codeOk, Bool.and_eq_true] at hc
    exact sti_todo hi hs (t' := .code (cutCode Try.prog sts a) :: .code (cutCode Try.prog sts b) :: k) (m := .run) (by simp [G, stepG, stepG.exec, cutCode]) (cons (.code _) hc.1 _ (cons (.code _) hc.2 _ hk))
  | cond x a b =>
    simp only [cutCode, codeOk, Bool.and_eq_true] at hc
    cases hx : evT tmps x with
    | bool y =>
      cases y
      · exact sti_todo hi hs (t' := .code (cutCode Try.prog sts b) :: k) (m := .run) (by simp [G, stepG, stepG.exec, cutCode, eval_evT, hx]) (cons (.code _) hc.2 _ hk)
      · exact sti_todo hi hs (t' := .code (cutCode Try.prog sts a) :: k) (m := .run) (by simp [G, stepG, stepG.exec, cutCode, eval_evT, hx]) (cons (.code _) hc.1 _ hk)
    | _ => exact (no_end hs ⟨_, _, _, by simp only [G, stepG, stepG.exec, cutCode, eval_evT, hx]; rfl⟩).elim
  | block id b =>
    simp only [cutCode, codeOk] at hc
    exact sti_todo hi hs (t' := .code (cutCode Try.prog sts b) :: .inBlock id :: k) (m := .run) (by simp [G, stepG, stepG.exec, cutCode]) (cons (.code _) hc _ (cons (.inBlock id) rfl _ hk))
  | loop b =>
    simp only [cutCode, codeOk] at hc
    exact sti_todo hi hs (t' := .code (cutCode Try.prog sts b) :: .inLoop (cutCode Try.prog sts b) :: k) (m := .run) (by simp [G, stepG, stepG.exec, cutCode]) (cons (.code _) hc _ (cons (.inLoop _) hc _ hk))
  | exit id =>
    cases hx : exitTo id k with
    | none => exact (no_end hs ⟨_, _, _, by simp only [G, stepG, stepG.exec, cutCode, hx, Option.elim]; rfl⟩).elim
    | some l => exact sti_todo hi hs (t' := l) (m := .run) (by simp [G, stepG, stepG.exec, cutCode, hx]) fun i h => hk i (exit_mem hx i h)
  | label l => exact sti_todo hi hs (m := .run) (by simp [G, stepG, stepG.exec, cutCode]) hk
  | ret => exact sti_todo hi hs (t' := .code .ret :: k) (m := .returning) (by simp [G, stepG, stepG.exec, cutCode]) (cons (.code .ret) rfl _ hk)
  | _ => exact (no_end hs ⟨_, _, _, by simp only [G, stepG, stepG.exec, cutCode]; rfl⟩).elim
/-- An operation. -/
theorem sti_op {ops : Array Oper} {i : Nat} {rest : List Nat} {k : List Item} (hok : ops.all (okOp Try.prog sts) = true) (hkn : kind = .normal ∨ kind = .deferred) (hi : StI ⟨fn, tmps, .inRegion (ops.map (cutOp Try.prog)) (i :: rest) :: k, defers, .run, kind, none⟩ c) (hg : Gd v)
    (hs : stepG Sq.prog true (G ⟨fn, tmps, .inRegion (ops.map (cutOp Try.prog)) (i :: rest) :: k, defers, .run, kind, none⟩ (c ++ base)) v = .go (G fr1 (c1 ++ base)) v1 es) : StI fr1 c1 := by
  have hI := hi.top
  have hkd : (kind == CallKind.early) = false := by rcases hkn with h | h <;> subst h <;> rfl
  cases hw : (((ops.map (cutOp Try.prog))[i]?).map (Region.wanted · (yielded (ops.map (cutOp Try.prog)) tmps))).getD false with
  | false =>
    have e : stepG Sq.prog true (G ⟨fn, tmps, .inRegion (ops.map (cutOp Try.prog)) (i :: rest) :: k, defers, .run, kind, none⟩ (c ++ base)) v = .go (G (Frame.finish ⟨fn, tmps, .inRegion (ops.map (cutOp Try.prog)) (i :: rest) :: k, defers, .run, kind, none⟩ undef) (c ++ base)) v #[] := by
      simp only [G, stepG, stepG.exec, hw]; rfl
    obtain ⟨rfl, rfl⟩ := go_eq e hs
    exact hi.put (inv_finish hI undef (fun _ _ _ => .inl rfl) hI.defs) rfl rfl
  | true =>
    obtain ⟨o, ho⟩ : ∃ o, ops[i]? = some o := by
      cases h : ops[i]? with
      | none => rw [cut_get, h] at hw; cases hw
      | some o => exact ⟨o, rfl⟩
    have ho' : (ops.map (cutOp Try.prog))[i]? = some (cutOp Try.prog o) := by rw [cut_get, ho]; rfl
    have hoko : okOp Try.prog sts o = true := Array.all_eq_true_iff_forall_mem.1 hok o (Array.mem_of_getElem? ho)
    have hall : (ops.map (cutOp Try.prog)).all (opOk (slt fn)) = true := hI.todo (.inRegion _ (i :: rest)) (by simp)
    have hopk : opOk (slt fn) (cutOp Try.prog o) = true := Array.all_eq_true_iff_forall_mem.1 hall _ (Array.mem_of_getElem? ho')
    have hQ : stepG Sq.prog true (G ⟨fn, tmps, .inRegion (ops.map (cutOp Try.prog)) (i :: rest) :: k, defers, .run, kind, none⟩ (c ++ base)) v = stepG.apply Sq.prog true ⟨fn, tmps, .inRegion (ops.map (cutOp Try.prog)) (i :: rest) :: k, defers, .run, kind, none⟩ (c ++ base) none (execOp (evT tmps) (cutOp Try.prog o)) v := by
      rw [ho'] at hw
      simp only [G, stepG, stepG.exec, stepG.oper, Frame.oper?, ho', hw, eval_evT, if_true]
    have hT := t_exec (sq_env (X := fun _ => False) (fun _ h => h.elim)) (evT tmps) (fun _ => rfl) o hoko v #[] hg
    have hR := chk_exec (tmps := tmps) hI.slots o hoko hopk v #[]
    have hdst : ∀ d, ((ops.map (cutOp Try.prog))[i]?).bind (·.dst) = some d → (cutOp Try.prog o).dst = some d := fun d h => by rw [ho'] at h; exact h
    obtain ⟨hf, _, _⟩ := hT
    cases hrun : (execOp (evT tmps) (cutOp Try.prog o)).runT Sq.prog v #[] with
    | mk r es1 =>
      rw [hrun] at hf
      cases r with
      | ok a v2 =>
        have hc := hR a v2 es1 hrun
        have hpl := res_exec (X := fun _ => False) sq_fns sts (evT tmps) o hoko v #[] a v2 es1 hg hrun
        cases a with
        | value x =>
          obtain ⟨rfl, rfl⟩ := go_eq (hQ.trans (apply_value hrun hkd)) hs
          exact hi.put (inv_finish hI x (fun d h1 h2 => hc d (hdst d h1) h2) hI.defs) rfl rfl
        | skip =>
          obtain ⟨rfl, rfl⟩ := go_eq (hQ.trans (apply_skip hrun hkd)) hs
          exact hi.put (inv_finish hI undef (fun _ _ _ => .inl rfl) hI.defs) rfl rfl
        | defer d =>
          obtain ⟨rfl, rfl⟩ := go_eq (hQ.trans (apply_defer hrun hkd)) hs
          refine hi.put (inv_finish hI undef (fun _ _ _ => .inl rfl) fun e he => ?_) rfl rfl
          rcases List.mem_cons.1 he with rfl | he
          · exact hc
          · exact hI.defs e he
        | enter f args =>
          obtain ⟨h1, h2, h3⟩ := hc
          have hh := (hQ.trans (apply_enter hrun hkd))
          obtain ⟨rfl, e2⟩ := go_eq (l := ⟨fn, tmps, .inRegion (ops.map (cutOp Try.prog)) (i :: rest) :: k, defers, .run, kind, none⟩ :: c) hh hs
          subst e2
          exact .cons (inv_enter h1 args h2 .normal) (fun _ => ⟨_, i, rest, k, rfl, fun d hd => h3 d (hdst d hd)⟩) hi
        | _ => exact hpl.elim
      | halt hh v2 =>
        cases hh with
        | panic x =>
          obtain ⟨rfl, rfl⟩ := go_eq (hQ.trans (apply_panic hrun hkd)) hs
          exact hi.put (inv_todo hI hI.todo) rfl rfl
        | stuck m =>
          exact (no_end hs (by
            obtain ⟨o, w2, es2, e⟩ := apply_stuck (p := Sq.prog) (fn := fn) (tmps := tmps) (ops := ops.map (cutOp Try.prog)) (i := i) (rest := rest) (k := k) (defers := defers) (kind := kind) (cs := c ++ base) hrun
            exact ⟨o, w2, es2, hQ.trans e⟩)).elim
        | unsupported u =>
          exact (no_end hs (by
            obtain ⟨o, w2, es2, e⟩ := apply_unsupported (fn := fn) (tmps := tmps) (ops := ops.map (cutOp Try.prog)) (i := i) (rest := rest) (k := k) (defers := defers) (kind := kind) (cs := c ++ base) sq_bodies hrun
            exact ⟨o, w2, es2, hQ.trans e⟩)).elim
        | _ => exact hf.elim
/-- A deferred call. -/
theorem sti_defer {todo : List Item} {d : Deferred} {ds : List Deferred} {m : FrameMode} (hm : notRun m = true) (hok : okDef d = true) (hi : StI ⟨fn, tmps, todo, d :: ds, m, kind, none⟩ c) (hg : Gd v)
    (hs : stepG Sq.prog true (G ⟨fn, tmps, todo, d :: ds, m, kind, none⟩ (c ++ base)) v = .go (G fr1 (c1 ++ base)) v1 es) : StI fr1 c1 := by
  have hI := hi.top
  obtain ⟨g, cap, ht, hgo⟩ := hI.defs d (by simp)
  have hI' : InvF ⟨fn, tmps, todo, ds, m, kind, none⟩ := ⟨hI.fn, hI.slots, hI.todo, fun e he => hI.defs e (by simp [he])⟩
  have h0 : mayDefer d m = true := by unfold mayDefer; rw [ht]
  obtain ⟨hf, _, _⟩ := t_invoke (P := Sq.prog) rfl (X := fun _ => False) sq_own d hok v #[] hg
  have hres := res_invoke sq_fns_own d hok v #[]
  cases hrun : (invoke d.target d.args).runT Sq.prog v #[] with
  | mk r es1 =>
    rw [hrun] at hf
    have hkd : ∀ n w1, r = .ok n w1 → Kd n := fun n w1 e => (hres n w1 es1 hg (by rw [hrun, e])).kd
    have eQ := (unwind_defer (cs := c ++ base) (w := v) (p := Sq.prog) (fn := fn) (tmps := tmps) (todo := todo) (defers := ds) (kind := kind) true hm hok).trans (deferred_eq hok h0 r hrun hf hkd)
    cases r with
    | ok a v2 =>
      have hsh : (a = .enter g (d.args ++ cap) ∧ bare g = false) ∨ ∃ x, a = .value x := by
        rw [ht] at hrun
        exact call_shape (show (callFunc g (d.args ++ cap)).runT Sq.prog v #[] = _ from hrun)
      rcases hsh with ⟨rfl, hb⟩ | ⟨x, rfl⟩
      · obtain ⟨rfl, e2⟩ := go_eq (l := ⟨fn, tmps, todo, ds, m, kind, none⟩ :: c) eQ hs
        subst e2
        rcases hgo with ⟨h1, h2⟩ | h
        · exact .cons (inv_enter h1 _ (by rw [h2]; exact fun s h => by cases h) .deferred) (fun e => by cases e) (hi.put hI' rfl rfl)
        · rw [hb] at h; cases h
      · obtain ⟨rfl, rfl⟩ := go_eq (l := c) eQ hs
        exact hi.put hI' rfl rfl
    | halt hh v2 =>
      cases hh <;> first | exact hf.elim | skip
      · obtain ⟨rfl, rfl⟩ := go_eq (l := c) eQ hs
        refine hi.put ?_ (by rw [Frame.raise_mode]) (by rw [Frame.raise_mode])
        rw [Frame.raise_mode]
        exact inv_mode hI' _
      · exact (no_end hs ⟨_, _, _, eQ⟩).elim
      · exact (no_end hs ⟨_, _, _, eQ⟩).elim
/-- A frame leaves for another one. -/
theorem sti_leave {todo : List Item} {m : FrameMode} {a : Frame} (hm : notRun m = true) (hkn : kind = .normal ∨ kind = .deferred) (hfn : ∃ f, Sq.prog.funcs[fn]? = some f) (hi : StI ⟨fn, tmps, todo, [], m, kind, none⟩ (a :: c)) (ha : a.roundOf = none)
    (hs : stepG Sq.prog true (G ⟨fn, tmps, todo, [], m, kind, none⟩ ((a :: c) ++ base)) v = .go (G fr1 (c1 ++ base)) v1 es) : StI fr1 c1 := by
  obtain ⟨f, hf⟩ := hfn
  obtain ⟨_, hk, hi'⟩ := hi.rest
  cases m with
  | run => cases hm
  | panicking chain =>
    obtain ⟨rfl, rfl⟩ := go_eq (l := c) (b := fr1) (show stepG Sq.prog true (G ⟨fn, tmps, todo, [], .panicking chain, kind, none⟩ ((a :: c) ++ base)) v = .go (G (a.raise chain) (c ++ base)) v #[] by simp [G, stepG, unwind, Frame.catches, hf]) hs
    refine hi'.put ?_ (by rw [Frame.raise_mode]) (by rw [Frame.raise_mode])
    rw [Frame.raise_mode]
    exact inv_mode hi'.top _
  | returning =>
    cases hrun : (results f tmps).runT Sq.prog v #[] with
    | mk r es1 =>
      cases r with
      | halt hh v2 => exact (no_end hs (ended_results hf hrun)).elim
      | ok x v2 =>
        rcases hkn with rfl | rfl
        · obtain ⟨rfl, rfl⟩ := go_eq (l := c) (b := fr1) (show stepG Sq.prog true (G ⟨fn, tmps, todo, [], .returning, .normal, none⟩ ((a :: c) ++ base)) v = .go (G (a.finish x) (c ++ base)) v2 (seen Sq.prog fn es1) by simp [G, stepG, unwind, doReturn, hf, hrun, GStep.after, -Sem.runT_eq]) hs
          obtain ⟨ops, i, rest, k, ht, hd⟩ := hk rfl
          obtain ⟨an, at_, ao, ad, am, ak, ar⟩ := a
          simp only at ht hd ha
          subst ht ha
          exact hi'.put (inv_finish hi'.top x (fun d h1 h2 => absurd h2 (hd d h1)) hi'.top.defs) rfl rfl
        · obtain ⟨rfl, rfl⟩ := go_eq (l := c) (b := fr1) (show stepG Sq.prog true (G ⟨fn, tmps, todo, [], .returning, .deferred, none⟩ ((a :: c) ++ base)) v = .go (G { a with mode := settle a.mode } (c ++ base)) v2 (seen Sq.prog fn es1) by
            simp only [G, stepG, unwind, doReturn, hf, hrun, GStep.after, List.cons_append]
            simp
            exact settle_frame a) hs
          exact hi'.put (inv_mode hi'.top _) rfl rfl
end
/-- ████ A STEP KEEPS WITHIN THE FUNCTIONS THAT MAY BE ENTERED. ████ -/
theorem sti_step {fr fr' fr1 : Frame} {c c' c1 base : List Frame} {v v1 : World} {es : Array Event} (h : FrR Try.prog sts Sq.prog fr fr') (hc : All2 (FrR Try.prog sts Sq.prog) c c') (hl : c ≠ [] ∨ fr.mode = .run ∨ fr.defers ≠ []) (hi : StI fr' c') (hg : Gd v)
    (hs : stepG Sq.prog true (G fr' (c' ++ base)) v = .go (G fr1 (c1 ++ base)) v1 es) : StI fr1 c1 := by
  obtain ⟨fn, tmps, todo, defers, mode, kd, r⟩ := fr
  obtain ⟨fn', tmps', todo', defers', mode', kd', r'⟩ := fr'
  obtain ⟨h1, h2, h3, h4, h5, h6, h7, h8, h9, h10, h11⟩ := h
  simp only at h1 h2 h3 h4 h5 h6 h7 h8 h9 h10 h11 hl
  subst h1 h3 h4 h6 h7 h9 h10
  cases hm : notRun mode' with
  | false =>
    cases mode' <;> first | cases hm | skip
    have hI := hi.top
    have sub : ∀ x k', todo' = x :: k' → ∀ i ∈ k', itOk (slt fn') i = true := fun x k' e i hi' => hI.todo i (by rw [e]; simp [hi'])
    cases h11 with
    | nil => exact sti_todo hi hs (t' := []) (m := .returning) (by simp [G, stepG, stepG.exec]) (by simp)
    | @cons _ _ kk kk' a hk =>
      have hkk := sub _ _ rfl
      cases a with
      | inBlock id => exact sti_todo hi hs (m := .run) (by simp [G, stepG, stepG.exec]) hkk
      | inLoop b =>
        refine sti_todo hi hs (t' := .code (cutCode Try.prog sts b) :: .inLoop (cutCode Try.prog sts b) :: kk') (m := .run) (by simp [G, stepG, stepG.exec]) fun i hi' => ?_
        have hb : codeOk (slt fn') (cutCode Try.prog sts b) = true := hI.todo (.inLoop _) (by simp)
        simp only [List.mem_cons] at hi'
        rcases hi' with rfl | rfl | hi'
        · exact hb
        · exact hb
        · exact hkk i hi'
      | code cd =>
        by_cases hreg : ∃ id ops d, cd = .region id ops d
        · obtain ⟨id, ops, d, rfl⟩ := hreg
          by_cases hops : ops.all (okOp Try.prog sts) = true
          · have e : cutCode Try.prog sts (.region id ops d) = .region id (ops.map (cutOp Try.prog)) d := by simp only [cutCode, hops, if_true]
            rw [e] at hi hs hI
            have hall : (ops.map (cutOp Try.prog)).all (opOk (slt fn')) = true := hI.todo (.code (.region id (ops.map (cutOp Try.prog)) d)) (by simp)
            have hx : ∀ l, ∀ i ∈ Item.inRegion (ops.map (cutOp Try.prog)) l :: kk', itOk (slt fn') i = true := fun l i hi' => by
              rcases List.mem_cons.1 hi' with rfl | hi'
              · exact hall
              · exact hkk i hi'
            cases d with
            | false => exact sti_todo hi hs (t' := .inRegion (ops.map (cutOp Try.prog)) (List.range ops.size) :: kk') (m := .run) (by simp [G, stepG, stepG.exec]) (hx _)
            | true =>
              have hq : stepG Sq.prog true (G ⟨fn', tmps', .code (.region id (ops.map (cutOp Try.prog)) true) :: kk', defers', .run, kd', none⟩ (c' ++ base)) v = .go (G ⟨fn', tmps', .inRegion (ops.map (cutOp Try.prog)) (Region.schedule (Sq.prog.follows .mixedOrders) (ops.map (cutOp Try.prog)) (v.tape v.drawn (.order fn' id))) :: kk', defers', .run, kd', none⟩ (c' ++ base)) { v with drawn := v.drawn + 1 } #[] := by
                simp [G, stepG, stepG.exec, choose, Sem.run, Question.forced, Question.cut]
              obtain ⟨rfl, rfl⟩ := go_eq hq hs
              exact hi.put (inv_todo hI (hx _)) rfl rfl
          · have e : cutCode Try.prog sts (.region id ops d) = .refuse "" := by simp only [cutCode, hops]; rfl
            rw [e] at hs
            exact (no_end hs ⟨_, _, _, by simp only [G, stepG, stepG.exec]; rfl⟩).elim
        · exact sti_code hi hs fun id ops d e => hreg ⟨id, ops, d, e⟩
      | inRegion ops l hops =>
        cases l with
        | nil => exact sti_todo hi hs (m := .run) (by simp [G, stepG, stepG.exec]) hkk
        | cons i rest => exact sti_op hops h8 hi hg hs
  | true =>
    obtain ⟨f, f', hf, hf', _⟩ := h2
    cases defers' with
    | cons d ds => exact sti_defer hm (h5 d (by simp)) hi hg hs
    | nil =>
      cases hc with
      | nil =>
        rcases hl with h | h | h
        · exact absurd rfl h
        · rw [h] at hm; cases hm
        · exact absurd rfl h
      | cons ha hc => exact sti_leave hm h8 ⟨f', hf'⟩ hi ha.round' hs
end
end Go.Proofs.Ytdlnlcjmjgbikaa
