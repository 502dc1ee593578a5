/- round.serve, the program's own: Add, and to the go statement. -/
import Derived.Test.YtdlnlcjmjgbikaaRo
namespace Go.Proofs.Ytdlnlcjmjgbikaa
open Go Go.Conc

/-- What Add's own steps must meet besides. -/
@[reducible] def shyOf (N : Nat) (Shun : Loc → Prop) (hC : ∀ a : Addr, a.block = N + 4 → ¬ Shun (.cell a)) : Go.ConcX.Shy (N + 3) (N + 4) where
  ok act := ∀ x, act.touch? = some x → Shun x.loc → x.kind ≠ .plain
  atomicWg a wr _ x hx _ := by cases hx; simp
  readWg a _ x hx _ := by cases hx; simp
  writeWg a _ x hx _ := by cases hx; simp
  theirs a wr ha x hx hs := by cases hx; exact absurd hs (hC a ha)
  disable x hx := by cases hx
  enable x hx := by cases hx
  relMerge x hx := by cases hx
  acquire x hx := by cases hx
  go1 x hx := by cases hx
  start x hx := by cases hx
  stop _ _ := False
section
variable {P : Program} {Shun : Loc → Prop} {Stop : Nat → Goroutine → World → Prop} {k : Nat} {a : Goroutine} {w : World} {m : Mark}
/-- Where a mark is said. -/
theorem mk_pr {Next : Goroutine → World → Prop} (hm : (MemAct.mark m).touch? = none) (h : Pr P true AtRel (D1 Shun) (fun k' a w => k' = k ∧ Go.ConcX.AtMkS P m Next a w) k a w)
    (hn : ∀ a w, Next a w → Pr P true AtRel (D1 Shun) Stop (deafBehind k #[⟨.mark m, false, true⟩]) a w) : Pr P true AtRel (D1 Shun) Stop k a w := by
  refine h.then fun k' a w hs => ?_
  obtain ⟨rfl, hr, _⟩ := hs w (atRel_refl w)
  refine Pr.mk hr fun w1 h1 => ?_
  obtain ⟨_, _, a', e, hx⟩ := hs w1 h1
  refine ⟨a', w1, _, e, fun e he => ?_, hn _ _ hx⟩
  rw [Array.mem_singleton] at he
  subst he
  intro x hx
  rw [show (MemAct.ofEvent (Go.ConcX.mk m)).touch? = none from hm] at hx
  cases hx
end
noncomputable section
variable {Shun : Loc → Prop} {Stop : Nat → Goroutine → World → Prop}
theorem add_enter (x y : Value) (kd : CallKind) : Frame.enter Try.prog 43 #[x, y] kd = (baseK 43 kd).at ⟨#[x, y] ++ Array.replicate 115 undef, []⟩ [.code (Go.ConcX.Gen.body_add lnk)] := by
  simp [Frame.enter, Frame.at, wgLib.f_add]
  exact ⟨rfl, rfl⟩
set_option maxRecDepth 100000 in
/-- Add. -/
theorem serve_add {b : Frame} {A : Act} {cs : List Frame} {ops : Array Oper} {i : Nat} {rest : List Nat} {K : List Item} {w : World} {N : Nat} (hw : Go.ConcX.WgAt 103 (N + 3) w 0 0) (hC : ∀ a : Addr, a.block = N + 4 → ¬ Shun (.cell a))
    (h : Pr Try.prog true AtRel (D1 Shun) Stop 0 (G (b.at (A.put ((ops[i]?).bind (·.dst)) (.tuple #[])) (.inRegion ops rest :: K)) cs) (w.setCell (Go.ConcX.stA (N + 3)) (.int .u64 Go.ConcX.KK))) :
    Pr Try.prog true AtRel (D1 Shun) Stop 0 (G (Frame.enter Try.prog 43 #[.pointer (some ⟨N + 3, 0, none⟩), .int .i64 1] .normal) (b.at A (.inRegion ops (i :: rest) :: K) :: cs)) w := by
  letI := shyOf N Shun hC
  have hg := Go.ConcX.Gen.addPos (P := Try.prog) (L := lnk) (Wg := N + 3) (C := N + 4) (b₀ := b) (a₀ := A) (ops₀ := ops) (i₀ := i) (rest₀ := rest) (k₀ := K) (cs := cs) (mT := 0)
    (StopG := fun g w' => g = G (b.at (A.put ((ops[i]?).bind (·.dst)) (.tuple #[])) (.inRegion ops rest :: K)) cs ∧ AtRel (w.setCell (Go.ConcX.stA (N + 3)) (.int .u64 Go.ConcX.KK)) w') wgLib w hw (fun w1 h1 => ⟨rfl, h1⟩)
  have hD : ∀ a b e, DE (Go.ConcX.EvS (N + 3) (N + 4)) a b e → D1 Shun a b e ∧ ∀ k, deafBehind k e = k := by
    intro a b es he
    refine ⟨fun e hm => ?_, fun k => deafBehind_still (fun e hm => ?_) k⟩
    · exact (he e hm).2.2.2.2.2
    · obtain ⟨_, _, _, h4, h5, _⟩ := he e hm
      obtain ⟨l, x, y⟩ := e
      constructor <;> (rintro rfl; first | exact h4 rfl | exact h5 rfl)
  rw [add_enter]
  simp only [Array.replicate_succ, Array.replicate_zero, List.push_toArray, List.append_toArray, List.nil_append, List.cons_append]
  refine mk_pr (m := .disable) rfl (goes_pr (R' := AtRel) (fun _ _ h => h) hD hg) fun a1 w1 ⟨n1, h1⟩ => ?_
  rw [show deafBehind 0 #[⟨.mark .disable, false, true⟩] = 1 from rfl]
  refine mk_pr (m := .enable) rfl (goes_pr (R' := AtRel) (fun _ _ h => h) hD h1) fun a2 w2 ⟨n2, h2⟩ => ?_
  rw [show deafBehind 1 #[⟨.mark .enable, false, true⟩] = 0 from rfl]
  refine (goes_pr (R' := AtRel) (fun _ _ h => h) hD h2).then fun k a w hs => ?_
  obtain ⟨rfl, rfl, hw⟩ := hs w (atRel_refl w)
  exact h.rely atRel_trans hw
end
end Go.Proofs.Ytdlnlcjmjgbikaa
/- Steps in company, by the places' function. -/
namespace Go.Proofs.Ytdlnlcjmjgbikaa
open Go Go.Conc

noncomputable section
variable {main : Bool} {Rw : World → World → Prop} {D : World → World → Array Event → Prop} {E : Event → Prop} {Stop : Nat → Goroutine → World → Prop} {F : World → Prop} {k : Nat}
/-- What is asked of rely and guarantee: F stays; a step that turns nothing may list what fits E. -/
structure Wk (Rw : World → World → Prop) (D : World → World → Array Event → Prop) (E : Event → Prop) (F : World → Prop) : Prop where
  keep : ∀ w w1, F w → Rw w w1 → F w1
  lets : ∀ w es, (∀ e ∈ es, E e) → D w w es
theorem Wk.nil (H : Wk Rw D E F) (w : World) : D w w #[] := H.lets w #[] (by simp)
section
variable {b : Frame} {A : Act} {f : Nat → Value} {ops : Array Oper} {i d : Nat} {rest : List Nat} {K : List Item} {cs : List Frame} {o : Oper}
theorem wk_ctl (H : Wk Rw D E F) {a a' : Goroutine} (hr : a.status = .running) (hs : ∀ w, stepG Try.prog main a w = .go a' w) (h : Walks Try.prog main Rw D Stop F k a') : Walks Try.prog main Rw D Stop F k a :=
  Walks.ctl H.keep (fun w => H.nil w) (fun w _ => hs w) hr h
theorem wk_val (H : Wk Rw D E F) (x : Value) (hk : b.kind ≠ .early) (ho : ops[i]? = some o) (hg : o.guard = none) (hr : ∀ w, F w → (execOp A.eval o).run Try.prog w = .ok (.value x) w)
    (he : ∀ w, F w → ∀ e ∈ (execOp A.eval o).events Try.prog w #[], E e ∧ e.loc ≠ .mark .disable ∧ e.loc ≠ .mark .enable)
    (h : Walks Try.prog main Rw D Stop F k (G (b.at (A.put o.dst x) (.inRegion ops rest :: K)) cs)) : Walks Try.prog main Rw D Stop F k (G (b.at A (.inRegion ops (i :: rest) :: K)) cs) := by
  intro w hw
  refine Pr.mk rfl fun w1 h1 => ?_
  have hw1 := H.keep _ _ hw h1
  have hl : ∀ e ∈ listed Try.prog b.fn A o w1, E e ∧ e.loc ≠ .mark .disable ∧ e.loc ≠ .mark .enable := fun e hm => he w1 hw1 e (seen_sub _ _ _ e hm)
  refine ⟨_, w1, _, stepG_value ho (by simp [Region.wanted, hg]) hk (hr w1 hw1), H.lets _ _ fun e hm => (hl e hm).1, ?_⟩
  rw [deaf_plain fun e hm => (hl e hm).2]
  exact h w1 hw1
theorem wk_sl (H : Wk Rw D E F) (hs : Sl A f) (x : Value) (hk : b.kind ≠ .early) (ho : ops[i]? = some o) (hg : o.guard = none) (hdst : o.dst = some d) (hd : d < 30) (hr : ∀ w, F w → (execOp A.eval o).run Try.prog w = .ok (.value x) w)
    (he : ∀ w, F w → ∀ e ∈ (execOp A.eval o).events Try.prog w #[], E e ∧ e.loc ≠ .mark .disable ∧ e.loc ≠ .mark .enable)
    (h : ∀ A', Sl A' (up f d x) → Walks Try.prog main Rw D Stop F k (G (b.at A' (.inRegion ops rest :: K)) cs)) : Walks Try.prog main Rw D Stop F k (G (b.at A (.inRegion ops (i :: rest) :: K)) cs) := by
  refine wk_val H x hk ho hg hr he ?_
  rw [hdst]
  exact h _ (hs.put d x hd)
theorem wk_move {y : Operand} {x : Value} (H : Wk Rw D E F) (hs : Sl A f) (hk : b.kind ≠ .early) (ho : ops[i]? = some o) (hg : o.guard = none) (hdst : o.dst = some d) (hd : d < 30) (hop : o.op = .move y ∨ o.op = .assign y) (hy : A.eval y = x)
    (h : ∀ A', Sl A' (up f d x) → Walks Try.prog main Rw D Stop F k (G (b.at A' (.inRegion ops rest :: K)) cs)) : Walks Try.prog main Rw D Stop F k (G (b.at A (.inRegion ops (i :: rest) :: K)) cs) := by
  obtain ⟨o1, o2, o3, o4, o5, o6⟩ := o
  refine wk_sl H hs x hk ho hg hdst hd (fun w _ => ?_) (fun w _ => ?_) h <;> rcases hop with hop | hop <;> simp only at hop <;> subst hop
  · simp [execOp, hy]
  · simp [execOp, hy]
  · simp [execOp]
  · simp [execOp]
theorem wk_lss {y z : Operand} {m n : Int} (H : Wk Rw D E F) (hs : Sl A f) (hk : b.kind ≠ .early) (ho : ops[i]? = some o) (hg : o.guard = none) (hdst : o.dst = some d) (hd : d < 30) (hop : o.op = .binOp .lss 3 y z 3) (hy : A.eval y = .int .i64 m) (hz : A.eval z = .int .i64 n)
    (h : ∀ A', Sl A' (up f d (.bool (decide (m < n)))) → Walks Try.prog main Rw D Stop F k (G (b.at A' (.inRegion ops rest :: K)) cs)) : Walks Try.prog main Rw D Stop F k (G (b.at A (.inRegion ops (i :: rest) :: K)) cs) := by
  obtain ⟨o1, o2, o3, o4, o5, o6⟩ := o
  subst hop
  refine wk_sl H hs _ hk ho hg hdst hd (fun w _ => ?_) (fun w _ => ?_) h
  · show (((do eqGuard .lss 3 y z (A.eval y) (A.eval z); binOp .lss 3 (A.eval y) (A.eval z) : Sem Value) >>= fun x => pure (Next.value x)) : Sem Next).run Try.prog w = _
    rw [hy, hz]; simp [eqGuard, binOp, Op.intCmp]
  · show ∀ e ∈ (((do eqGuard .lss 3 y z (A.eval y) (A.eval z); binOp .lss 3 (A.eval y) (A.eval z) : Sem Value) >>= fun x => pure (Next.value x)) : Sem Next).events Try.prog w #[], _
    rw [hy, hz]; simp [eqGuard, binOp, Op.intCmp]
theorem wk_add {y z : Operand} {m n : Int} (H : Wk Rw D E F) (hs : Sl A f) (hk : b.kind ≠ .early) (ho : ops[i]? = some o) (hg : o.guard = none) (hdst : o.dst = some d) (hd : d < 30) (hop : o.op = .binOp .add 3 y z 3) (hy : A.eval y = .int .i64 m) (hz : A.eval z = .int .i64 n)
    (h : ∀ A', Sl A' (up f d (.int .i64 (IntKind.i64.wrap (m + n)))) → Walks Try.prog main Rw D Stop F k (G (b.at A' (.inRegion ops rest :: K)) cs)) : Walks Try.prog main Rw D Stop F k (G (b.at A (.inRegion ops (i :: rest) :: K)) cs) := by
  obtain ⟨o1, o2, o3, o4, o5, o6⟩ := o
  subst hop
  refine wk_sl H hs _ hk ho hg hdst hd (fun w _ => ?_) (fun w _ => ?_) h
  · show (((do eqGuard .add 3 y z (A.eval y) (A.eval z); binOp .add 3 (A.eval y) (A.eval z) : Sem Value) >>= fun x => pure (Next.value x)) : Sem Next).run Try.prog w = _
    rw [hy, hz]; simp [eqGuard, binOp, Op.intArith]
  · show ∀ e ∈ (((do eqGuard .add 3 y z (A.eval y) (A.eval z); binOp .add 3 (A.eval y) (A.eval z) : Sem Value) >>= fun x => pure (Next.value x)) : Sem Next).events Try.prog w #[], _
    rw [hy, hz]; simp [eqGuard, binOp, Op.intArith]
theorem wk_len {y : Operand} {bs : Option Addr} {n cap : Nat} (H : Wk Rw D E F) (hs : Sl A f) (hk : b.kind ≠ .early) (ho : ops[i]? = some o) (hg : o.guard = none) (hdst : o.dst = some d) (hd : d < 30) (hop : o.op = .call ⟨.builtin .len, #[y], #[23]⟩) (hy : A.eval y = .slice bs n cap)
    (h : ∀ A', Sl A' (up f d (.int .i64 n)) → Walks Try.prog main Rw D Stop F k (G (b.at A' (.inRegion ops rest :: K)) cs)) : Walks Try.prog main Rw D Stop F k (G (b.at A (.inRegion ops (i :: rest) :: K)) cs) := by
  obtain ⟨o1, o2, o3, o4, o5, o6⟩ := o
  subst hop
  have em : #[y].map A.eval = #[.slice bs n cap] := by simp [hy]
  refine wk_sl H hs _ hk ho hg hdst hd (fun w _ => ?_) (fun w _ => ?_) h
  · show ((Builtin.len_ #[23] o3 (#[y].map A.eval) >>= fun x => pure (Next.value x)) : Sem Next).run Try.prog w = _
    rw [em]; simp [Builtin.len_, Try.runUnderlying23, Result.andThen, goInt]
  · show ∀ e ∈ ((Builtin.len_ #[23] o3 (#[y].map A.eval) >>= fun x => pure (Next.value x)) : Sem Next).events Try.prog w #[], _
    rw [em]; simp [Builtin.len_, Try.runUnderlying23, go_sem]
theorem wk_index {y z : Operand} {a : Addr} {cap : Nat} (H : Wk Rw D E F) (hs : Sl A f) (hk : b.kind ≠ .early) (ho : ops[i]? = some o) (hg : o.guard = none) (hdst : o.dst = some d) (hd : d < 30) (hop : o.op = .indexAddr 23 y z) (hy : A.eval y = .slice (some a) 1 cap) (hz : A.eval z = .int .i64 0)
    (h : ∀ A', Sl A' (up f d (.pointer (some a))) → Walks Try.prog main Rw D Stop F k (G (b.at A' (.inRegion ops rest :: K)) cs)) : Walks Try.prog main Rw D Stop F k (G (b.at A (.inRegion ops (i :: rest) :: K)) cs) := by
  obtain ⟨o1, o2, o3, o4, o5, o6⟩ := o
  subst hop
  refine wk_sl H hs _ hk ho hg hdst hd (fun w _ => ?_) (fun w _ => ?_) h
  · show ((Instr.indexAt 23 (A.eval y) (A.eval z) >>= fun x => pure (Next.value x)) : Sem Next).run Try.prog w = _
    rw [hy, hz]; simp [Instr.indexAt, asIntOf, Try.runUnderlying23, Try.sizeOf3, Result.andThen, Addr.add]
  · show ∀ e ∈ ((Instr.indexAt 23 (A.eval y) (A.eval z) >>= fun x => pure (Next.value x)) : Sem Next).events Try.prog w #[], _
    rw [hy, hz]; simp [Instr.indexAt, asIntOf, Try.runUnderlying23, go_sem]
theorem load_ev (t : TypeId) (ht : ∀ w, (isAgg t).run Try.prog w = .ok false w) {p : Addr} {x : Value} {w : World} (hc : w.cell? p = some x) : ((Instr.loadAt t (.pointer (some p)) >>= fun x => pure (Next.value x)) : Sem Next).run Try.prog w = .ok (.value x) w ∧ ∀ e ∈ ((Instr.loadAt t (.pointer (some p)) >>= fun x => pure (Next.value x)) : Sem Next).events Try.prog w #[], e = ⟨.cell p, false, false⟩ := by
  constructor
  · simp [Instr.loadAt, Instr.sureAddr, loadVar, Result.andThen, hc, ht]
  · intro e he
    have : e = ⟨.cell p, false, Mode.plain == Mode.atomic⟩ := by
      simpa [Instr.loadAt, Instr.sureAddr, loadVar, go_sem, hc, ht] using he
    exact this
theorem wk_load {t : TypeId} {y : Operand} {p : Addr} {x : Value} (H : Wk Rw D E F) (hs : Sl A f) (hk : b.kind ≠ .early) (ho : ops[i]? = some o) (hg : o.guard = none) (hdst : o.dst = some d) (hd : d < 30) (hop : o.op = .load t y) (ht : ∀ w, (isAgg t).run Try.prog w = .ok false w) (hy : A.eval y = .pointer (some p)) (hc : ∀ w, F w → w.cell? p = some x) (hE : E ⟨.cell p, false, false⟩)
    (h : ∀ A', Sl A' (up f d x) → Walks Try.prog main Rw D Stop F k (G (b.at A' (.inRegion ops rest :: K)) cs)) : Walks Try.prog main Rw D Stop F k (G (b.at A (.inRegion ops (i :: rest) :: K)) cs) := by
  obtain ⟨o1, o2, o3, o4, o5, o6⟩ := o
  subst hop
  refine wk_sl H hs _ hk ho hg hdst hd (fun w hw => ?_) (fun w hw => ?_) h
  · show ((Instr.loadAt t (A.eval y) >>= fun x => pure (Next.value x)) : Sem Next).run Try.prog w = _
    rw [hy]; exact (load_ev t ht (hc w hw)).1
  · show ∀ e ∈ ((Instr.loadAt t (A.eval y) >>= fun x => pure (Next.value x)) : Sem Next).events Try.prog w #[], _
    rw [hy]
    intro e he
    rw [(load_ev t ht (hc w hw)).2 e he]
    exact ⟨hE, by simp, by simp⟩
theorem wk_call {g : Nat} {xs : Array Operand} {ats : Array TypeId} {vals : Array Value} (H : Wk Rw D E F) (hk : b.kind ≠ .early) (ho : ops[i]? = some o) (hg : o.guard = none) (hop : o.op = .call ⟨.value (.func g), xs, ats⟩)
    (hv : xs.map A.eval = vals) (hrun : ∀ w, (callFunc g vals).runT Try.prog w #[] = (.ok (.enter g vals) w, #[]))
    (h : Walks Try.prog main Rw D Stop F k (G (Frame.enter Try.prog g vals .normal) (b.at A (.inRegion ops (i :: rest) :: K) :: cs))) : Walks Try.prog main Rw D Stop F k (G (b.at A (.inRegion ops (i :: rest) :: K)) cs) := by
  have hx : execOp A.eval o = callFunc g vals := (execOp_call_func (a := A) (f := g) hop).trans (by rw [hv])
  have h1 : ∀ w, (callFunc g vals).run Try.prog w = .ok (.enter g vals) w ∧ (callFunc g vals).events Try.prog w #[] = #[] := fun w => by
    have := hrun w
    rw [Sem.runT_eq] at this
    exact ⟨congrArg Prod.fst this, congrArg Prod.snd this⟩
  refine Walks.ctl H.keep (fun w => H.nil w) (fun w _ => ?_) rfl h
  rw [stepG_enter ho (by simp [Region.wanted, hg]) hk (by rw [hx]; exact (h1 w).1)]
  unfold listed
  rw [hx, (h1 w).2, Go.Conc.seen_none]
end
end
end Go.Proofs.Ytdlnlcjmjgbikaa
