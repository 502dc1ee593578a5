/- round.serve, the program's own: from its entry to Add. -/
import Derived.Test.YtdlnlcjmjgbikaaRk
namespace Go.Proofs.Ytdlnlcjmjgbikaa
open Go Go.Conc

/-- Goroutine 0 alone: what its steps list. -/
def D1 (Shun : Loc → Prop) (_ _ : World) (es : Array Event) : Prop := ∀ e ∈ es, EvS Shun e
section
variable {P : Program} {Shun : Loc → Prop} {Stop : Nat → Goroutine → World → Prop} {k : Nat} {a a' : Goroutine} {w w' : World}
theorem atw (w : World) (d : Nat) : AtRel w (w.at d) := ⟨d, rfl⟩
theorem At.turn {es : Array Event} (hr : a.status = .running) (hs : ∀ d, stepG P true a (w.at d) = .go a' (w'.at d) es) (he : ∀ e ∈ es, EvS Shun e) (h : Pr P true AtRel (D1 Shun) Stop (deafBehind k es) a' w') : Pr P true AtRel (D1 Shun) Stop k a w :=
  Pr.mk hr fun w1 ⟨d, hd⟩ => by
    subst hd
    exact ⟨a', w'.at d, es, hs d, he, h.rely atRel_trans (atw _ _)⟩
theorem At.ctl (hr : a.status = .running) (hs : ∀ w1, stepG P true a w1 = .go a' w1) (h : Pr P true AtRel (D1 Shun) Stop k a' w) : Pr P true AtRel (D1 Shun) Stop k a w :=
  At.turn (es := #[]) hr (fun d => hs _) (by simp) h
variable {b : Frame} {A : Act} {ops : Array Oper} {i : Nat} {rest : List Nat} {K : List Item} {cs : List Frame} {o : Oper}
theorem deaf_plain {es : Array Event} (h : ∀ e ∈ es, e.loc ≠ .mark .disable ∧ e.loc ≠ .mark .enable) (k : Nat) : deafBehind k es = k := deafBehind_still h k
/-- An operation that gives a value. -/
theorem At.val (x : Value) (w' : World) (hk : b.kind ≠ .early) (ho : ops[i]? = some o) (hg : o.guard = none) (hr : ∀ d, (execOp A.eval o).run P (w.at d) = .ok (.value x) (w'.at d))
    (he : ∀ d, ∀ e ∈ (execOp A.eval o).events P (w.at d) #[], EvS Shun e ∧ e.loc ≠ .mark .disable ∧ e.loc ≠ .mark .enable)
    (h : Pr P true AtRel (D1 Shun) Stop k (G (b.at (A.put o.dst x) (.inRegion ops rest :: K)) cs) w') : Pr P true AtRel (D1 Shun) Stop k (G (b.at A (.inRegion ops (i :: rest) :: K)) cs) w :=
  Pr.mk rfl fun w1 ⟨d, hd⟩ => by
    subst hd
    have hl : ∀ e ∈ listed P b.fn A o (w.at d), EvS Shun e ∧ e.loc ≠ .mark .disable ∧ e.loc ≠ .mark .enable := fun e hm => he d e (seen_sub _ _ _ e hm)
    refine ⟨_, w'.at d, _, stepG_value ho (by simp [Region.wanted, hg]) hk (hr d), fun e hm => (hl e hm).1, ?_⟩
    rw [deaf_plain fun e hm => (hl e hm).2]
    exact h.rely atRel_trans (atw _ _)
/-- An operation that gives nothing. -/
theorem At.nil (w' : World) (hk : b.kind ≠ .early) (ho : ops[i]? = some o) (hg : o.guard = none) (hr : ∀ d, (execOp A.eval o).run P (w.at d) = .ok .skip (w'.at d))
    (he : ∀ d, ∀ e ∈ (execOp A.eval o).events P (w.at d) #[], EvS Shun e ∧ e.loc ≠ .mark .disable ∧ e.loc ≠ .mark .enable)
    (h : Pr P true AtRel (D1 Shun) Stop k (G (b.at (A.put o.dst undef) (.inRegion ops rest :: K)) cs) w') : Pr P true AtRel (D1 Shun) Stop k (G (b.at A (.inRegion ops (i :: rest) :: K)) cs) w :=
  Pr.mk rfl fun w1 ⟨d, hd⟩ => by
    subst hd
    have hl : ∀ e ∈ listed P b.fn A o (w.at d), EvS Shun e ∧ e.loc ≠ .mark .disable ∧ e.loc ≠ .mark .enable := fun e hm => he d e (seen_sub _ _ _ e hm)
    refine ⟨_, w'.at d, _, stepG_none ho (by simp [Region.wanted, hg]) hk (hr d), fun e hm => (hl e hm).1, ?_⟩
    rw [deaf_plain fun e hm => (hl e hm).2]
    exact h.rely atRel_trans (atw _ _)
theorem ev_cell {p : Addr} {x y : Bool} (hp : ¬ Shun (.cell p)) : EvS Shun ⟨.cell p, x, y⟩ ∧ (⟨.cell p, x, y⟩ : Event).loc ≠ .mark .disable ∧ (⟨.cell p, x, y⟩ : Event).loc ≠ .mark .enable :=
  ⟨fun z hz hs => by cases hz; exact absurd hs hp, by simp, by simp⟩
end

noncomputable section
/-- The five blocks of a call of serve. -/
def five (w : World) (rp : Addr) : World :=
  ((((w.alloc (.cells #[.pointer (some rp)] 75)).alloc (.chan 0 #[] false 0 0 false)).alloc (.cells #[.chan (some (w.heap.size + 1))] 98)).alloc (.cells #[.int .u64 0, .int .u32 0] 103)).alloc (.cells #[.int .i64 0] 3)
variable {Shun : Loc → Prop} {Stop : Nat → Goroutine → World → Prop} {k : Nat}
theorem chan_run (w : World) : (Instr.makeChan 98 (.int .i64 0)).run Try.prog w = .ok (.chan (some w.heap.size)) (w.alloc (.chan 0 #[] false 0 0 false)) := by
  obtain ⟨i, hi⟩ : ∃ i, Try.prog.info? 3 = some i := Option.isSome_iff_exists.1 (by kernel_rfl)
  exact run_makeChan (P := Try.prog) Try.underlying98 hi .i64 0 (by decide) (by simp)
theorem chan_ev (w : World) (es : Array Event) : (Instr.makeChan 98 (.int .i64 0)).events Try.prog w es = es := by
  obtain ⟨i, hi⟩ : ∃ i, Try.prog.info? 3 = some i := Option.isSome_iff_exists.1 (by kernel_rfl)
  exact events_makeChan (P := Try.prog) Try.underlying98 hi .i64 0 (by decide) (by simp) es
theorem alloc_size (w : World) (o : Obj) : (w.alloc o).heap.size = w.heap.size + 1 := Array.size_push ..
section
variable {b : Frame} {A : Act} {f : Nat → Value} {ops : Array Oper} {i d : Nat} {rest : List Nat} {K : List Item} {cs : List Frame} {o : Oper} {w : World}
/-- An operation that gives a value; the places by their function. -/
theorem av (hs : Sl A f) (x : Value) (w' : World) (hk : b.kind ≠ .early) (ho : ops[i]? = some o) (hg : o.guard = none) (hdst : o.dst = some d) (hd : d < 30) (hr : ∀ dr, (execOp A.eval o).run Try.prog (w.at dr) = .ok (.value x) (w'.at dr))
    (he : ∀ dr, ∀ e ∈ (execOp A.eval o).events Try.prog (w.at dr) #[], EvS Shun e ∧ e.loc ≠ .mark .disable ∧ e.loc ≠ .mark .enable)
    (h : ∀ A', Sl A' (up f d x) → Pr Try.prog true AtRel (D1 Shun) Stop k (G (b.at A' (.inRegion ops rest :: K)) cs) w') : Pr Try.prog true AtRel (D1 Shun) Stop k (G (b.at A (.inRegion ops (i :: rest) :: K)) cs) w := by
  refine At.val x w' hk ho hg hr he ?_
  rw [hdst]
  exact h _ (hs.put d x hd)
theorem av_box {t : TypeId} {y : Operand} {rp : Addr} (hs : Sl A f) (hk : b.kind ≠ .early) (ho : ops[i]? = some o) (hg : o.guard = none) (hdst : o.dst = some d) (hd : d < 30) (hop : o.op = .box t y) (hy : A.eval y = .pointer (some rp))
    (h : ∀ A', Sl A' (up f d (.pointer (some ⟨w.heap.size, 0, none⟩))) → Pr Try.prog true AtRel (D1 Shun) Stop k (G (b.at A' (.inRegion ops rest :: K)) cs) (w.alloc (.cells #[.pointer (some rp)] t))) : Pr Try.prog true AtRel (D1 Shun) Stop k (G (b.at A (.inRegion ops (i :: rest) :: K)) cs) w := by
  obtain ⟨o1, o2, o3, o4, o5, o6⟩ := o
  subst hop
  refine av hs _ _ hk ho hg hdst hd (fun dr => ?_) (fun dr => ?_) h
  · show ((Instr.box t (A.eval y) >>= fun x => pure (Next.value x)) : Sem Next).run Try.prog (w.at dr) = _
    rw [hy]; simp [Instr.box, go_sem]; exact ⟨rfl, rfl⟩
  · show ∀ e ∈ ((Instr.box t (A.eval y) >>= fun x => pure (Next.value x)) : Sem Next).events Try.prog (w.at dr) #[], _
    rw [hy]; simp [Instr.box, go_sem]
theorem av_chan (hs : Sl A f) (hk : b.kind ≠ .early) (ho : ops[i]? = some o) (hg : o.guard = none) (hdst : o.dst = some d) (hd : d < 30) (hop : o.op = .makeChan 98 (.const (.int .i64 0)))
    (h : ∀ A', Sl A' (up f d (.chan (some w.heap.size))) → Pr Try.prog true AtRel (D1 Shun) Stop k (G (b.at A' (.inRegion ops rest :: K)) cs) (w.alloc (.chan 0 #[] false 0 0 false))) : Pr Try.prog true AtRel (D1 Shun) Stop k (G (b.at A (.inRegion ops (i :: rest) :: K)) cs) w := by
  obtain ⟨o1, o2, o3, o4, o5, o6⟩ := o
  subst hop
  refine av hs _ _ hk ho hg hdst hd (fun dr => ?_) (fun dr => ?_) h
  · show ((Instr.makeChan 98 (.int .i64 0) >>= fun x => pure (Next.value x)) : Sem Next).run Try.prog (w.at dr) = _
    simp only [Sem.run_bind, chan_run, Result.andThen, Sem.run_pure]
    rfl
  · show ∀ e ∈ ((Instr.makeChan 98 (.int .i64 0) >>= fun x => pure (Next.value x)) : Sem Next).events Try.prog (w.at dr) #[], _
    simp [chan_ev, go_sem]
theorem av_alloc {t : TypeId} {z : Value} (hs : Sl A f) (hk : b.kind ≠ .early) (ho : ops[i]? = some o) (hg : o.guard = none) (hdst : o.dst = some d) (hd : d < 30) (hop : o.op = .alloc t) (hz : ∀ w, (zeroValue t).run Try.prog w = .ok z w)
    (h : ∀ A', Sl A' (up f d (.pointer (some ⟨w.heap.size, 0, none⟩))) → Pr Try.prog true AtRel (D1 Shun) Stop k (G (b.at A' (.inRegion ops rest :: K)) cs) (w.alloc (.cells z.cells t))) : Pr Try.prog true AtRel (D1 Shun) Stop k (G (b.at A (.inRegion ops (i :: rest) :: K)) cs) w := by
  obtain ⟨o1, o2, o3, o4, o5, o6⟩ := o
  subst hop
  refine av hs _ _ hk ho hg hdst hd (fun dr => ?_) (fun dr => ?_) h
  · simp [execOp, go_sem, hz]; exact ⟨rfl, rfl⟩
  · simp [execOp, go_sem, hz]
theorem new_cell (w0 : World) (x0 : Value) (tt : TypeId) (dr : Nat) : ((w0.alloc (.cells #[x0] tt)).at dr).cell? ⟨w0.heap.size, 0, none⟩ = some x0 ∧ ((w0.alloc (.cells #[x0] tt)).at dr).frozen? ⟨w0.heap.size, 0, none⟩ = false := by
  have e : ((w0.alloc (.cells #[x0] tt)).at dr).heap[w0.heap.size]? = some (.cells #[x0] tt) := Array.getElem?_push_size ..
  constructor
  · simp [World.cell?, e]
  · simp [World.frozen?, e]
theorem av_store98 {y z : Operand} {n : Nat} {w0 : World} (hs : Sl A f) (hk : b.kind ≠ .early) (ho : ops[i]? = some o) (hg : o.guard = none) (hdst : o.dst = none) (hop : o.op = .store 98 y z) (hw : w = w0.alloc (.cells #[.chan none] 98)) (hy : A.eval y = .pointer (some ⟨w0.heap.size, 0, none⟩)) (hz : A.eval z = .chan (some n))
    (hS : ¬ Shun (.cell ⟨w0.heap.size, 0, none⟩))
    (h : Pr Try.prog true AtRel (D1 Shun) Stop k (G (b.at A (.inRegion ops rest :: K)) cs) (w0.alloc (.cells #[.chan (some n)] 98))) : Pr Try.prog true AtRel (D1 Shun) Stop k (G (b.at A (.inRegion ops (i :: rest) :: K)) cs) w := by
  have _ := hs
  obtain ⟨o1, o2, o3, o4, o5, o6⟩ := o
  subst hop hw hdst
  refine At.nil (w0.alloc (.cells #[.chan (some n)] 98)) hk ho hg (fun dr => ?_) (fun dr => ?_) h
  · show ((Instr.storeAt 98 (A.eval y) (A.eval z) >>= fun _ => pure Next.skip) : Sem Next).run Try.prog _ = _
    rw [hy, hz]
    have e := World.setCell_alloc_new (w := w0.at dr) #[.chan none] 98 0 (.chan (some n))
    obtain ⟨hc, hf⟩ := new_cell w0 (.chan none) 98 dr
    simp [Instr.storeAt, Instr.sureAddr, storeVar, storeCells, Value.cells, Result.andThen, Addr.add, store, Sem.run, hc, hf]
    exact e
  · show ∀ e ∈ ((Instr.storeAt 98 (A.eval y) (A.eval z) >>= fun _ => pure Next.skip) : Sem Next).events Try.prog _ #[], _
    rw [hy, hz]
    intro e hm
    obtain ⟨hc, hf⟩ := new_cell w0 (.chan none) 98 dr
    have he : e = ⟨.cell ⟨w0.heap.size, 0, none⟩, true, Mode.plain == Mode.atomic⟩ := by
      simpa [Instr.storeAt, Instr.sureAddr, storeVar, storeCells, Value.cells, Result.andThen, Addr.add, go_sem, storedEv, hc, hf] using hm
    subst he
    exact ev_cell hS
theorem av_store3 {y z : Operand} {n : Int} {w0 : World} (hs : Sl A f) (hk : b.kind ≠ .early) (ho : ops[i]? = some o) (hg : o.guard = none) (hdst : o.dst = none) (hop : o.op = .store 3 y z) (hw : w = w0.alloc (.cells #[.int .i64 0] 3)) (hy : A.eval y = .pointer (some ⟨w0.heap.size, 0, none⟩)) (hz : A.eval z = .int .i64 n)
    (hS : ¬ Shun (.cell ⟨w0.heap.size, 0, none⟩))
    (h : Pr Try.prog true AtRel (D1 Shun) Stop k (G (b.at A (.inRegion ops rest :: K)) cs) (w0.alloc (.cells #[.int .i64 n] 3))) : Pr Try.prog true AtRel (D1 Shun) Stop k (G (b.at A (.inRegion ops (i :: rest) :: K)) cs) w := by
  have _ := hs
  obtain ⟨o1, o2, o3, o4, o5, o6⟩ := o
  subst hop hw hdst
  refine At.nil (w0.alloc (.cells #[.int .i64 n] 3)) hk ho hg (fun dr => ?_) (fun dr => ?_) h
  · show ((Instr.storeAt 3 (A.eval y) (A.eval z) >>= fun _ => pure Next.skip) : Sem Next).run Try.prog _ = _
    rw [hy, hz]
    have e := World.setCell_alloc_new (w := w0.at dr) #[.int .i64 0] 3 0 (.int .i64 n)
    obtain ⟨hc, hf⟩ := new_cell w0 (.int .i64 0) 3 dr
    simp [Instr.storeAt, Instr.sureAddr, storeVar, storeCells, Value.cells, Result.andThen, Addr.add, store, Sem.run, hc, hf]
    exact e
  · show ∀ e ∈ ((Instr.storeAt 3 (A.eval y) (A.eval z) >>= fun _ => pure Next.skip) : Sem Next).events Try.prog _ #[], _
    rw [hy, hz]
    intro e hm
    obtain ⟨hc, hf⟩ := new_cell w0 (.int .i64 0) 3 dr
    have he : e = ⟨.cell ⟨w0.heap.size, 0, none⟩, true, Mode.plain == Mode.atomic⟩ := by
      simpa [Instr.storeAt, Instr.sureAddr, storeVar, storeCells, Value.cells, Result.andThen, Addr.add, go_sem, storedEv, hc, hf] using hm
    subst he
    exact ev_cell hS
theorem av_move {y : Operand} {x : Value} (hs : Sl A f) (hk : b.kind ≠ .early) (ho : ops[i]? = some o) (hg : o.guard = none) (hdst : o.dst = some d) (hd : d < 30) (hop : o.op = .move y ∨ o.op = .assign y) (hy : A.eval y = x)
    (h : ∀ A', Sl A' (up f d x) → Pr Try.prog true AtRel (D1 Shun) Stop k (G (b.at A' (.inRegion ops rest :: K)) cs) w) : Pr Try.prog true AtRel (D1 Shun) Stop k (G (b.at A (.inRegion ops (i :: rest) :: K)) cs) w := by
  obtain ⟨o1, o2, o3, o4, o5, o6⟩ := o
  refine av hs x w hk ho hg hdst hd (fun dr => ?_) (fun dr => ?_) h <;> rcases hop with hop | hop <;> simp only at hop <;> subst hop
  · simp [execOp, hy]
  · simp [execOp, hy]
  · simp [execOp]
  · simp [execOp]
theorem av_lss {y z : Operand} {m n : Int} (hs : Sl A f) (hk : b.kind ≠ .early) (ho : ops[i]? = some o) (hg : o.guard = none) (hdst : o.dst = some d) (hd : d < 30) (hop : o.op = .binOp .lss 3 y z 3) (hy : A.eval y = .int .i64 m) (hz : A.eval z = .int .i64 n)
    (h : ∀ A', Sl A' (up f d (.bool (decide (m < n)))) → Pr Try.prog true AtRel (D1 Shun) Stop k (G (b.at A' (.inRegion ops rest :: K)) cs) w) : Pr Try.prog true AtRel (D1 Shun) Stop k (G (b.at A (.inRegion ops (i :: rest) :: K)) cs) w := by
  obtain ⟨o1, o2, o3, o4, o5, o6⟩ := o
  subst hop
  refine av hs (.bool (decide (m < n))) w hk ho hg hdst hd (fun dr => ?_) (fun dr => ?_) h
  · show (((do eqGuard .lss 3 y z (A.eval y) (A.eval z); binOp .lss 3 (A.eval y) (A.eval z) : Sem Value) >>= fun x => pure (Next.value x)) : Sem Next).run Try.prog (w.at dr) = _
    rw [hy, hz]; simp [eqGuard, binOp, Op.intCmp]
  · show ∀ e ∈ (((do eqGuard .lss 3 y z (A.eval y) (A.eval z); binOp .lss 3 (A.eval y) (A.eval z) : Sem Value) >>= fun x => pure (Next.value x)) : Sem Next).events Try.prog (w.at dr) #[], _
    rw [hy, hz]; simp [eqGuard, binOp, Op.intCmp]
theorem av_add {y z : Operand} {m n : Int} (hs : Sl A f) (hk : b.kind ≠ .early) (ho : ops[i]? = some o) (hg : o.guard = none) (hdst : o.dst = some d) (hd : d < 30) (hop : o.op = .binOp .add 3 y z 3) (hy : A.eval y = .int .i64 m) (hz : A.eval z = .int .i64 n)
    (h : ∀ A', Sl A' (up f d (.int .i64 (IntKind.i64.wrap (m + n)))) → Pr Try.prog true AtRel (D1 Shun) Stop k (G (b.at A' (.inRegion ops rest :: K)) cs) w) : Pr Try.prog true AtRel (D1 Shun) Stop k (G (b.at A (.inRegion ops (i :: rest) :: K)) cs) w := by
  obtain ⟨o1, o2, o3, o4, o5, o6⟩ := o
  subst hop
  refine av hs (.int .i64 (IntKind.i64.wrap (m + n))) w hk ho hg hdst hd (fun dr => ?_) (fun dr => ?_) h
  · show (((do eqGuard .add 3 y z (A.eval y) (A.eval z); binOp .add 3 (A.eval y) (A.eval z) : Sem Value) >>= fun x => pure (Next.value x)) : Sem Next).run Try.prog (w.at dr) = _
    rw [hy, hz]; simp [eqGuard, binOp, Op.intArith]
  · show ∀ e ∈ (((do eqGuard .add 3 y z (A.eval y) (A.eval z); binOp .add 3 (A.eval y) (A.eval z) : Sem Value) >>= fun x => pure (Next.value x)) : Sem Next).events Try.prog (w.at dr) #[], _
    rw [hy, hz]; simp [eqGuard, binOp, Op.intArith]
end
theorem av_call {b : Frame} {A : Act} {ops : Array Oper} {i g : Nat} {rest : List Nat} {K : List Item} {cs : List Frame} {o : Oper} {w : World} {xs : Array Operand} {ats : Array TypeId} {vals : Array Value} (hk : b.kind ≠ .early) (ho : ops[i]? = some o) (hg : o.guard = none) (hop : o.op = .call ⟨.value (.func g), xs, ats⟩)
    (hv : xs.map A.eval = vals) (hrun : ∀ w, (callFunc g vals).run Try.prog w = .ok (.enter g vals) w) (hev : ∀ w, (callFunc g vals).events Try.prog w #[] = #[])
    (h : Pr Try.prog true AtRel (D1 Shun) Stop k (G (Frame.enter Try.prog g vals .normal) (b.at A (.inRegion ops (i :: rest) :: K) :: cs)) w) : Pr Try.prog true AtRel (D1 Shun) Stop k (G (b.at A (.inRegion ops (i :: rest) :: K)) cs) w := by
  have hx : execOp A.eval o = callFunc g vals := (execOp_call_func (a := A) (f := g) hop).trans (by rw [hv])
  refine At.turn (es := #[]) (w' := w) rfl (fun d => ?_) (by simp) h
  rw [stepG_enter ho (by simp [Region.wanted, hg]) hk (by rw [hx]; exact hrun _)]
  unfold listed
  rw [hx, hev, Go.Conc.seen_none]
/-! ### pieces of serve's code -/
def cl : Code → Code
  | .seq a _ => a
  | _ => .skip
def cr : Code → Code
  | .seq _ b => b
  | _ => .skip
def ci : Code → Code
  | .loop b => b
  | .block _ b => b
  | _ => .skip
def co : Code → Array Oper
  | .region _ ops _ => ops
  | _ => #[]
def c27 : Code := Try.f27.body.getD .skip
def c3 : Code := cr (cr (cr c27))
def lb0 : Code := ci (ci (cr (cl c3)))
def b1 : Code := ci (cl (cr (cr lb0)))
def ops6 : Array Oper := co (cl (cr b1))
def ops7 : Array Oper := co (cr (cr b1))
/-- What is left behind the two regions. -/
def k7 : List Item := [.inBlock 1, .code (cr (cr (cr lb0))), .inLoop lb0, .inBlock 0, .code (cr c3)]
def k6 : List Item := .code (cr (cr b1)) :: k7
/-- The places that are read further on. -/
structure Pl (N : Nat) (a : Addr) (cap : Nat) (f : Nat → Value) : Prop where
  keys : f 1 = .slice (some a) 1 cap
  rbox : f 3 = .pointer (some ⟨N, 0, none⟩)
  work : f 6 = .pointer (some ⟨N + 2, 0, none⟩)
  crew : f 7 = .pointer (some ⟨N + 3, 0, none⟩)
  wbox : f 8 = .pointer (some ⟨N + 4, 0, none⟩)
  lim : f 12 = .int .i64 1
  idx : f 13 = .int .i64 0
theorem Pl.up {N : Nat} {a : Addr} {cap : Nat} {f : Nat → Value} (h : Pl N a cap f) (d : Nat) (x : Value) (hd : d ≠ 1 ∧ d ≠ 3 ∧ d ≠ 6 ∧ d ≠ 7 ∧ d ≠ 8 ∧ d ≠ 12 ∧ d ≠ 13) : Pl N a cap (up f d x) := by
  obtain ⟨h1, h2, h3, h4, h5, h6, h7⟩ := hd
  exact ⟨(if_neg (Ne.symm h1)).trans h.keys, (if_neg (Ne.symm h2)).trans h.rbox, (if_neg (Ne.symm h3)).trans h.work, (if_neg (Ne.symm h4)).trans h.crew, (if_neg (Ne.symm h5)).trans h.wbox, (if_neg (Ne.symm h6)).trans h.lim, (if_neg (Ne.symm h7)).trans h.idx⟩
theorem add_run (args : Array Value) (w : World) : (callFunc 43 args).run Try.prog w = .ok (.enter 43 args) w := by
  have := call_enter Try.func43 (by decide) rfl args w #[]
  rw [Sem.runT_eq] at this
  injection this
theorem add_ev (args : Array Value) (w : World) : (callFunc 43 args).events Try.prog w #[] = #[] := by
  have := call_enter Try.func43 (by decide) rfl args w #[]
  rw [Sem.runT_eq] at this
  injection this
set_option maxRecDepth 10000 in
/-- To the call of Add. -/
theorem serve_to_add {args : Array Value} {kd : CallKind} (hk : kd ≠ .early) {cs : List Frame} {w : World} {rp a : Addr} {cap : Nat} (h0 : (room30 args).getD 0 undef = .pointer (some rp)) (h1 : (room30 args).getD 1 undef = .slice (some a) 1 cap) (h2 : (room30 args).getD 2 undef = .int .i64 1)
    (hS : ∀ p : Addr, w.heap.size ≤ p.block → ¬ Shun (.cell p))
    (h : ∀ A f, Sl A f → Pl w.heap.size a cap f →
      Pr Try.prog true AtRel (D1 Shun) Stop k (G (Frame.enter Try.prog 43 #[.pointer (some ⟨w.heap.size + 3, 0, none⟩), .int .i64 1] .normal) ((baseK 27 kd).at A (.inRegion ops6 [0] :: k6) :: cs)) (five w rp)) :
    Pr Try.prog true AtRel (D1 Shun) Stop k (G (Frame.enter Try.prog 27 args kd) cs) w := by
  rw [enter30 (P := Try.prog) args kd Try.func27 rfl Try.ntmps27]
  have hK : (baseK 27 kd).kind ≠ .early := hk
  have s0 := room30_sl args
  rw [show (room30 args).getD 0 undef = (fun j => (room30 args).getD j undef) 0 from rfl] at h0
  rw [show (room30 args).getD 1 undef = (fun j => (room30 args).getD j undef) 1 from rfl] at h1
  rw [show (room30 args).getD 2 undef = (fun j => (room30 args).getD j undef) 2 from rfl] at h2
  generalize (fun j => (room30 args).getD j undef) = f0 at s0 h0 h1 h2
  generalize (⟨room30 args, []⟩ : Act) = A0 at s0 ⊢
  refine At.ctl rfl (fun _ => stepG_seq) ?_
  refine At.ctl rfl (fun _ => stepG_region) ?_
  refine av_box (i := 0) (rest := []) (d := 3) s0 hK rfl rfl rfl (by decide) rfl ((s0.eval 0).trans h0) fun A1 s1 => ?_
  refine At.ctl rfl (fun _ => stepG_region_end) ?_
  refine At.ctl rfl (fun _ => stepG_seq) ?_
  refine At.ctl rfl (fun _ => stepG_region) ?_
  refine av_chan (i := 0) (rest := [1, 2]) (d := 11) s1 hK rfl rfl rfl (by decide) rfl fun A2 s2 => ?_
  refine av_alloc (i := 1) (rest := [2]) (d := 6) s2 hK rfl rfl rfl (by decide) rfl Try.zeroValue98 fun A3 s3 => ?_
  refine av_store98 (i := 2) (rest := []) (w0 := (w.alloc (.cells #[.pointer (some rp)] 75)).alloc (.chan 0 #[] false 0 0 false)) (n := w.heap.size + 1) s3 hK rfl rfl rfl rfl rfl ((s3.eval 6).trans (by simp)) ((s3.eval 11).trans (by simp)) (hS _ (by simp; omega)) ?_
  refine At.ctl rfl (fun _ => stepG_region_end) ?_
  refine At.ctl rfl (fun _ => stepG_seq) ?_
  refine At.ctl rfl (fun _ => stepG_region) ?_
  refine av_alloc (i := 0) (rest := []) (d := 7) s3 hK rfl rfl rfl (by decide) rfl Try.zeroValue103 fun A4 s4 => ?_
  refine At.ctl rfl (fun _ => stepG_region_end) ?_
  refine At.ctl rfl (fun _ => stepG_seq) ?_
  refine At.ctl rfl (fun _ => stepG_seq) ?_
  refine At.ctl rfl (fun _ => stepG_region) ?_
  refine av_move (i := 0) (rest := [1]) (d := 12) s4 hK rfl rfl rfl (by decide) (.inl rfl) ((s4.eval 2).trans (by simpa using h2)) fun A5 s5 => ?_
  refine av_move (i := 1) (rest := []) (d := 13) (x := .int .i64 0) s5 hK rfl rfl rfl (by decide) (.inl rfl) rfl fun A6 s6 => ?_
  refine At.ctl rfl (fun _ => stepG_region_end) ?_
  refine At.ctl rfl (fun _ => stepG_block) ?_
  refine At.ctl rfl (fun _ => stepG_loop) ?_
  refine At.ctl rfl (fun _ => stepG_seq) ?_
  refine At.ctl rfl (fun _ => stepG_region) ?_
  refine av_lss (i := 0) (rest := []) (d := 14) (m := 0) (n := 1) s6 hK rfl rfl rfl (by decide) rfl ((s6.eval 13).trans (by simp)) ((s6.eval 12).trans (by simp)) fun A7 s7 => ?_
  refine At.ctl rfl (fun _ => stepG_region_end) ?_
  refine At.ctl rfl (fun _ => stepG_seq) ?_
  refine At.ctl rfl (fun _ => stepG_cond (t := true) ((s7.eval 14).trans (by simp))) ?_
  simp only [if_true]
  refine At.ctl rfl (fun _ => stepG_skip) ?_
  refine At.ctl rfl (fun _ => stepG_seq) ?_
  refine At.ctl rfl (fun _ => stepG_block) ?_
  refine At.ctl rfl (fun _ => stepG_seq) ?_
  refine At.ctl rfl (fun _ => stepG_region) ?_
  refine av_move (i := 0) (rest := [1, 2]) (d := 15) (x := .int .i64 0) s7 hK rfl rfl rfl (by decide) (.inl rfl) ((s7.eval 13).trans (by simp)) fun A8 s8 => ?_
  refine av_alloc (i := 1) (rest := [2]) (d := 8) s8 hK rfl rfl rfl (by decide) rfl Try.zeroValue3 fun A9 s9 => ?_
  refine av_store3 (i := 2) (rest := []) (n := 0) s9 hK rfl rfl rfl rfl rfl ((s9.eval 8).trans (by simp)) ((s9.eval 15).trans (by simp)) (hS _ (by simp; omega)) ?_
  refine At.ctl rfl (fun _ => stepG_region_end) ?_
  refine At.ctl rfl (fun _ => stepG_seq) ?_
  refine At.ctl rfl (fun _ => stepG_region) ?_
  refine av_call (i := 0) (rest := []) (g := 43) (vals := #[.pointer (some ⟨w.heap.size + 3, 0, none⟩), .int .i64 1]) hK rfl rfl rfl ?_ (add_run _) (add_ev _) ?_
  · have e7 : A9.eval (.tmp 7) = .pointer (some ⟨w.heap.size + 3, 0, none⟩) := (s9.eval 7).trans (by simp)
    rw [← e7]
    simp [Act.eval]
  · exact h A9 _ s9 ⟨by simpa using h1, by simp, by simp, by simp, by simp, by simp, by simp⟩
end
end Go.Proofs.Ytdlnlcjmjgbikaa
