/- The inner mutex' Lock and Unlock, in company with those who keep away. -/
import Derived.Test.YtdlnlcjmjgbikaaQw
import Derived.Conc.AtomicLaws2
import Derived.Conc.MarkLaws
import Derived.Laws.LoneSync
import Derived.Conc.SmallLaws
namespace Go.Proofs.Ytdlnlcjmjgbikaa
open Go Go.Conc

/-- What may be listed by one who locks, too. -/
def EvM (X : Nat → Prop) (e : Event) : Prop := Ev X e ∨ e.loc = .mark .disable ∨ e.loc = .mark .enable ∨ ∃ a : Addr, ¬ X a.block ∧ (e.loc = .mark (.acquire a) ∨ e.loc = .mark (.releaseMerge a))
/-- What a step of one who locks does. -/
def DM (X : Nat → Prop) (w w1 : World) (es : Array Event) : Prop := DX X w w1 ∧ ∀ e ∈ es, EvM X e
/-- Events on one cell. -/
theorem evm_cells {X : Nat → Prop} {p : Addr} (hp : ¬ X p.block) : ∀ e ∈ (#[⟨.cell p, false, true⟩, ⟨.cell p, true, true⟩] : Array Event), EvM X e := by
  intro e he
  simp only [List.mem_toArray, List.mem_cons, List.not_mem_nil, or_false] at he
  rcases he with rfl | rfl
  · exact .inl hp
  · exact .inl hp
theorem evm_cell {X : Nat → Prop} {p : Addr} {a b : Bool} (hp : ¬ X p.block) : ∀ e ∈ (#[⟨.cell p, a, b⟩] : Array Event), EvM X e := by
  intro e he
  simp only [List.mem_toArray, List.mem_cons, List.not_mem_nil, or_false] at he
  subst he
  exact .inl hp
theorem evm_mark {X : Nat → Prop} {m : Mark} {b : Bool} (hm : m = .disable ∨ m = .enable ∨ ∃ a : Addr, ¬ X a.block ∧ (m = .acquire a ∨ m = .releaseMerge a)) : ∀ e ∈ (#[⟨.mark m, b, true⟩] : Array Event), EvM X e := by
  intro e he
  simp only [List.mem_toArray, List.mem_cons, List.not_mem_nil, or_false] at he
  subst he
  rcases hm with rfl | rfl | ⟨a, ha, rfl | rfl⟩
  · exact .inr (.inl rfl)
  · exact .inr (.inr (.inl rfl))
  · exact .inr (.inr (.inr ⟨a, ha, .inl rfl⟩))
  · exact .inr (.inr (.inr ⟨a, ha, .inr rfl⟩))
theorem dm_id {X : Nat → Prop} {w : World} {es : Array Event} (h : ∀ e ∈ es, EvM X e) : DM X w w es := ⟨⟨.refl X w, rfl⟩, h⟩
theorem set_rel {X : Nat → Prop} {v w : World} {p : Addr} (h : Rel X v w) (hp : ¬ X p.block) (x : Value) : Rel X (v.setCell p x) (w.setCell p x) := by
  obtain ⟨o, e1, e2⟩ := setCell_put v p x
  rw [e1, e2 w (h.same _ hp).symm]
  exact h.put hp o
theorem set_kx {X : Nat → Prop} {w : World} {p : Addr} (hp : ¬ X p.block) (x : Value) : DX X w (w.setCell p x) := by
  obtain ⟨o, e1, _⟩ := setCell_put w p x
  rw [e1]
  exact ⟨.put w hp o, rfl⟩

noncomputable section
theorem conv_run {p : Addr} {x : Value} {w : World} (hc : w.cell? p = some x) : (convert 88 92 (.pointer (some p))).run Try.prog w = .ok (.pointer (some p)) w :=
  run_convert_to_unsafe (P := Try.prog) (t := 50) Try.underlying88 Try.underlying92 (by kernel_rfl) hc
theorem conv_ev {p : Addr} {x : Value} {w : World} (hc : w.cell? p = some x) (es : Array Event) : (convert 88 92 (.pointer (some p))).events Try.prog w es = es :=
  events_convert_to_unsafe (P := Try.prog) (t := 50) Try.underlying88 Try.underlying92 (by kernel_rfl) hc es
theorem seen24 (p : Addr) : seen Try.prog 24 #[⟨.cell p, false, false⟩] = #[] := by
  simp [seen, Try.func24]
  rfl
variable {main : Bool} {Rw : World → World → Prop} {Stop : Nat → Goroutine → World → Prop} {k : Nat} {X : Nat → Prop} {v : World} {p : Addr} {cs : List Frame} {c : Frame}
/-- The inner Lock. -/
theorem ilock_all (hRw : ∀ w w1, Rw w w1 → RX X w w1 ∧ w1.tape = w.tape) (hp : ¬ X p.block) (hc : v.cell? p = some (.int .i32 0)) (hz : v.frozen? p = false)
    (h : Walks Try.prog main Rw (DM X) Stop (Rel X (v.setCell p (.int .i32 1))) k (G (c.finish (.tuple #[])) cs)) :
    Walks Try.prog main Rw (DM X) Stop (Rel X v) k (G (Frame.enter Try.prog 23 #[.pointer (some p)] .normal) (c :: cs)) := by
  have hF : ∀ v w w1, Rel X v w → Rw w w1 → Rel X v w1 := fun v w w1 h h1 => h.rx (hRw _ _ h1).1
  have hd : ∀ w, DM X w w #[] := fun w => dm_id (by simp)
  refine ilock_a (hb := rfl) (hF v) hd (fun w _ => dm_id (evm_mark (.inl rfl))) ?_
  refine Walks.ctl (hF v) hd (fun w _ => stepG_seq) rfl ?_
  refine Walks.ctl (hF v) hd (fun w _ => stepG_seq) rfl ?_
  refine Walks.ctl (hF v) hd (fun w _ => stepG_region) rfl ?_
  refine Walks.val (i := 0) (rest := [1, 2, 3]) (hF v) hd (by decide) rfl rfl (.pointer (some p)) (fun w _ => by simp [execOp, Act.eval]) (fun w _ => rfl) ?_
  refine Walks.val (i := 1) (rest := [2, 3]) (hF v) hd (by decide) rfl rfl (.pointer (some p)) (fun w _ => by simp [execOp, Act.eval, Act.put]) (fun w _ => by simp [execOp, Act.eval, Act.put]) ?_
  refine Walks.val (i := 2) (rest := [3]) (hF v) hd (by decide) rfl rfl (.pointer (some p)) (fun w _ => by simp [execOp, Act.eval, Act.put, Instr.fieldAt, Instr.sureAddr, fieldPlace, Addr.add]) (fun w _ => by simp [execOp, Act.eval, Act.put, Instr.fieldAt, Instr.sureAddr, fieldPlace, Addr.add]) ?_
  refine Walks.turn (hF v) (fun w => w.setCell p (.int .i32 1)) rfl (fun w hw => stepG_cas_hit (i := 3) (rest := []) (ad := p) (v := 0) (n := 1) rfl rfl (by decide) rfl Try.func33 (by kernel_rfl) (by kernel_rfl) (by kernel_rfl) .i32 (by kernel_rfl) (by simp [Act.eval, Act.put]) rfl rfl ((hw.cell hp).trans hc) ((hw.frozen hp).trans hz))
    (fun w _ => ⟨set_kx hp _, evm_cells hp⟩) (fun w hw => set_rel hw hp _) ?_
  have e : deafBehind (k + 1) #[⟨.cell p, false, true⟩, ⟨.cell p, true, true⟩] = k + 1 := rfl
  rw [e]
  have hF1 := hF (v.setCell p (.int .i32 1))
  refine Walks.ctl hF1 hd (fun w _ => stepG_region_end) rfl ?_
  refine Walks.ctl hF1 hd (fun w _ => stepG_cond (t := true) (by simp [Act.eval, Act.put])) rfl ?_
  simp only [if_true]
  refine Walks.ctl hF1 hd (fun w _ => stepG_seq) rfl ?_
  refine Walks.ctl hF1 hd (fun w _ => stepG_cond (t := true) rfl) rfl ?_
  simp only [if_true]
  refine Walks.ctl hF1 hd (fun w _ => stepG_seq) rfl ?_
  refine Walks.ctl hF1 hd (fun w _ => stepG_region) rfl ?_
  refine Walks.mark0 .enable (i := 0) (rest := []) (fn := Try.f34) hF1 (by decide) rfl rfl rfl Try.func34 (by kernel_rfl) (by kernel_rfl) (by kernel_rfl) (by kernel_rfl) (fun g => by simp) (fun w _ => dm_id (evm_mark (.inr (.inl rfl)))) ?_
  have e : deafBehind (k + 1) #[⟨.mark .enable, false, true⟩] = k := rfl
  rw [e]
  refine Walks.ctl hF1 hd (fun w _ => stepG_region_end) rfl ?_
  refine Walks.ctl hF1 hd (fun w _ => stepG_region) rfl ?_
  refine Walks.val (i := 0) (rest := [1, 2]) hF1 hd (by decide) rfl rfl (.pointer (some p)) (fun w _ => by simp [execOp, Act.eval, Act.put]) (fun w _ => rfl) ?_
  have hcv : ∀ w, Rel X (v.setCell p (.int .i32 1)) w → w.cell? p = some (.int .i32 1) := fun w hw => (hw.cell hp).trans (World.cell?_setCell_same _ _ _ hc)
  refine Walks.val (i := 1) (rest := [2]) hF1 hd (by decide) rfl rfl (.pointer (some p)) (fun w hw => by simp [execOp, Act.eval, Act.put, conv_run (hcv w hw), Result.andThen]) (fun w hw => by simp [execOp, Act.eval, Act.put, conv_ev (hcv w hw)]) ?_
  refine Walks.one (es := #[⟨.mark (.acquire p), false, true⟩]) hF1 rfl (fun w _ => stepG_markAt .acquire (i := 2) (rest := []) (ad := p) (fun _ _ => by simp) rfl rfl (by decide) rfl Try.func35 (by kernel_rfl) (by kernel_rfl) (by kernel_rfl) (by kernel_rfl) (by simp [Act.eval, Act.put])) (fun w _ => dm_id (evm_mark (.inr (.inr ⟨p, hp, .inl rfl⟩)))) ?_
  have e : deafBehind k #[⟨.mark (.acquire p), false, true⟩] = k := rfl
  rw [e]
  refine Walks.ctl hF1 hd (fun w _ => stepG_region_end) rfl ?_
  refine Walks.ctl hF1 hd (fun w _ => stepG_ret') rfl ?_
  exact Walks.ctl hF1 hd (fun w _ => stepG_leave (fn := Try.f23) (v := .tuple #[]) rfl rfl Try.func23 (by simp [results, go_sem]) (by simp [results])) rfl h
/-- The inner Unlock. -/
theorem iunlock_all (hRw : ∀ w w1, Rw w w1 → RX X w w1 ∧ w1.tape = w.tape) (hp : ¬ X p.block) (hc : v.cell? p = some (.int .i32 1)) (hz : v.frozen? p = false)
    (h : Walks Try.prog main Rw (DM X) Stop (Rel X (v.setCell p (.int .i32 0))) k (G (c.finish (.tuple #[])) cs)) :
    Walks Try.prog main Rw (DM X) Stop (Rel X v) k (G (Frame.enter Try.prog 24 #[.pointer (some p)] .normal) (c :: cs)) := by
  have hF : ∀ v w w1, Rel X v w → Rw w w1 → Rel X v w1 := fun v w w1 h h1 => h.rx (hRw _ _ h1).1
  have hd : ∀ w, DM X w w #[] := fun w => dm_id (by simp)
  have hF0 := hF v
  have hcw : ∀ w, Rel X v w → w.cell? p = some (.int .i32 1) := fun w hw => (hw.cell hp).trans hc
  rw [enter_at (fn := Try.f24) #[.pointer (some p)] Try.func24 rfl]
  simp only [Try.ntmps24, List.size_toArray, List.length_cons, List.length_nil, Nat.reduceAdd, Nat.reduceSub, Array.replicate_succ, Array.replicate_zero, List.push_toArray, List.append_toArray, List.nil_append, List.cons_append]
  refine Walks.ctl hF0 hd (fun w _ => stepG_seq) rfl ?_
  refine Walks.ctl hF0 hd (fun w _ => stepG_cond (t := true) rfl) rfl ?_
  simp only [if_true]
  refine Walks.ctl hF0 hd (fun w _ => stepG_seq) rfl ?_
  refine Walks.ctl hF0 hd (fun w _ => stepG_region) rfl ?_
  refine Walks.val (i := 0) (rest := [1, 2, 3]) hF0 hd (by decide) rfl rfl (.pointer (some p)) (fun w _ => by simp [execOp, Act.eval]) (fun w _ => rfl) ?_
  refine Walks.val (i := 1) (rest := [2, 3]) hF0 hd (by decide) rfl rfl (.pointer (some p)) (fun w _ => by simp [execOp, Act.eval, Act.put]) (fun w _ => by simp [execOp, Act.eval, Act.put]) ?_
  refine Walks.val (i := 2) (rest := [3]) hF0 hd (by decide) rfl rfl (.pointer (some p)) (fun w _ => by simp [execOp, Act.eval, Act.put, Instr.fieldAt, Instr.sureAddr, fieldPlace, Addr.add]) (fun w _ => by simp [execOp, Act.eval, Act.put, Instr.fieldAt, Instr.sureAddr, fieldPlace, Addr.add]) ?_
  refine Walks.ctl hF0 hd (fun w hw => by
    rw [stepG_value (i := 3) (rest := []) (v := .int .i32 1) (w' := w) rfl (by simp [Region.wanted]) (by decide) (by simp [execOp, Act.eval, Act.put, Instr.loadAt, Instr.sureAddr, loadVar, Result.andThen, hcw w hw])]
    rw [show listed Try.prog (Go.Conc.base 24).fn _ _ w = #[] from by simp [listed, execOp, Act.eval, Act.put, Instr.loadAt, Instr.sureAddr, loadVar, hcw w hw, Go.Conc.base, seen24, show (Mode.plain == Mode.atomic) = false from rfl]]) rfl ?_
  refine Walks.ctl hF0 hd (fun w _ => stepG_region_end) rfl ?_
  refine Walks.ctl hF0 hd (fun w _ => stepG_seq) rfl ?_
  refine Walks.ctl hF0 hd (fun w _ => stepG_region) rfl ?_
  refine Walks.val (i := 0) (rest := [1, 2]) hF0 hd (by decide) rfl rfl (.pointer (some p)) (fun w _ => by simp [execOp, Act.eval, Act.put]) (fun w _ => rfl) ?_
  refine Walks.val (i := 1) (rest := [2]) hF0 hd (by decide) rfl rfl (.pointer (some p)) (fun w hw => by simp [execOp, Act.eval, Act.put, conv_run (hcw w hw), Result.andThen]) (fun w hw => by simp [execOp, Act.eval, Act.put, conv_ev (hcw w hw)]) ?_
  refine Walks.one (es := #[⟨.mark (.releaseMerge p), false, true⟩]) hF0 rfl (fun w _ => stepG_markAt .releaseMerge (i := 2) (rest := []) (ad := p) (fun _ _ => by simp) rfl rfl (by decide) rfl Try.func37 (by kernel_rfl) (by kernel_rfl) (by kernel_rfl) (by kernel_rfl) (by simp [Act.eval, Act.put])) (fun w _ => dm_id (evm_mark (.inr (.inr ⟨p, hp, .inr rfl⟩)))) ?_
  have e : deafBehind k #[⟨.mark (.releaseMerge p), false, true⟩] = k := rfl
  rw [e]
  refine Walks.ctl hF0 hd (fun w _ => stepG_region_end) rfl ?_
  refine Walks.ctl hF0 hd (fun w _ => stepG_region) rfl ?_
  refine Walks.mark0 .disable (i := 0) (rest := []) (fn := Try.f32) hF0 (by decide) rfl rfl rfl Try.func32 (by kernel_rfl) (by kernel_rfl) (by kernel_rfl) (by kernel_rfl) (fun g => by simp) (fun w _ => dm_id (evm_mark (.inl rfl))) ?_
  have e : deafBehind k #[⟨.mark .disable, false, true⟩] = k + 1 := rfl
  rw [e]
  refine Walks.ctl hF0 hd (fun w _ => stepG_region_end) rfl ?_
  refine Walks.ctl hF0 hd (fun w _ => stepG_seq) rfl ?_
  refine Walks.ctl hF0 hd (fun w _ => stepG_region) rfl ?_
  refine Walks.val (i := 0) (rest := [1, 2, 3, 4]) hF0 hd (by decide) rfl rfl (.pointer (some p)) (fun w _ => by simp [execOp, Act.eval, Act.put]) (fun w _ => rfl) ?_
  refine Walks.val (i := 1) (rest := [2, 3, 4]) hF0 hd (by decide) rfl rfl (.pointer (some p)) (fun w _ => by simp [execOp, Act.eval, Act.put]) (fun w _ => by simp [execOp, Act.eval, Act.put]) ?_
  refine Walks.val (i := 2) (rest := [3, 4]) hF0 hd (by decide) rfl rfl (.pointer (some p)) (fun w _ => by simp [execOp, Act.eval, Act.put, Instr.fieldAt, Instr.sureAddr, fieldPlace, Addr.add]) (fun w _ => by simp [execOp, Act.eval, Act.put, Instr.fieldAt, Instr.sureAddr, fieldPlace, Addr.add]) ?_
  refine Walks.turn hF0 (fun w => w.setCell p (.int .i32 0)) rfl (fun w hw => stepG_add_atomic (i := 3) (rest := [4]) (ad := p) (v := 1) (d := -1) rfl rfl (by decide) rfl Try.func38 (by kernel_rfl) (by kernel_rfl) (by kernel_rfl) .i32 (by kernel_rfl) (by simp [Act.eval, Act.put]) rfl (hcw w hw) ((hw.frozen hp).trans hz))
    (fun w _ => ⟨set_kx hp _, evm_cells hp⟩) (fun w hw => set_rel hw hp _) ?_
  have e : deafBehind (k + 1) #[⟨.cell p, false, true⟩, ⟨.cell p, true, true⟩] = k + 1 := rfl
  rw [e]
  have hF1 := hF (v.setCell p (.int .i32 0))
  refine Walks.val (i := 4) (rest := []) hF1 hd (by decide) rfl rfl (.int .i32 0) (fun w _ => by simp [execOp, Act.eval, Act.put]; rfl) (fun w _ => by simp [execOp, Act.eval, Act.put]) ?_
  refine Walks.ctl hF1 hd (fun w _ => stepG_region_end) rfl ?_
  refine Walks.ctl hF1 hd (fun w _ => stepG_seq) rfl ?_
  refine Walks.ctl hF1 hd (fun w _ => stepG_seq) rfl ?_
  refine Walks.ctl hF1 hd (fun w _ => stepG_region) rfl ?_
  refine Walks.val (i := 0) (rest := [1]) hF1 hd (by decide) rfl rfl (.int .i32 0) (fun w _ => by simp [execOp, Act.eval, Act.put]) (fun w _ => rfl) ?_
  refine Walks.val (i := 1) (rest := []) hF1 hd (by decide) rfl rfl (.bool false) (fun w _ => by simp [execOp, Act.eval, Act.put, eqGuard, binOp, Op.intCmp]) (fun w _ => by simp [execOp, Act.eval, Act.put, eqGuard, binOp, Op.intCmp]) ?_
  refine Walks.ctl hF1 hd (fun w _ => stepG_region_end) rfl ?_
  refine Walks.ctl hF1 hd (fun w _ => stepG_cond (t := false) (by simp [Act.eval, Act.put])) rfl ?_
  simp only [Bool.false_eq_true, if_false]
  refine Walks.ctl hF1 hd (fun w _ => stepG_skip) rfl ?_
  refine Walks.ctl hF1 hd (fun w _ => stepG_region) rfl ?_
  refine Walks.mark0 .enable (i := 0) (rest := []) (fn := Try.f34) hF1 (by decide) rfl rfl rfl Try.func34 (by kernel_rfl) (by kernel_rfl) (by kernel_rfl) (by kernel_rfl) (fun g => by simp) (fun w _ => dm_id (evm_mark (.inr (.inl rfl)))) ?_
  have e : deafBehind (k + 1) #[⟨.mark .enable, false, true⟩] = k := rfl
  rw [e]
  refine Walks.ctl hF1 hd (fun w _ => stepG_region_end) rfl ?_
  refine Walks.ctl hF1 hd (fun w _ => stepG_end) rfl ?_
  exact Walks.ctl hF1 hd (fun w _ => stepG_leave (fn := Try.f24) (v := .tuple #[]) rfl rfl Try.func24 (by simp [results, go_sem]) (by simp [results])) rfl h
end
end Go.Proofs.Ytdlnlcjmjgbikaa
/- Lock and Unlock, in both programs. -/
namespace Go.Proofs.Ytdlnlcjmjgbikaa
open Go Go.Conc

theorem frr_end {P Q : Program} {St : List TypeId} {f : FuncId} {kind : CallKind} {fp fq : Func} {T : Array Value} (hP : P.funcs[f]? = some fp) (hQ : Q.funcs[f]? = some fq) (hr : fq.results = fp.results) (hk : kind = .normal ∨ kind = .deferred) :
    FrR P St Q { (baseK f kind).at ⟨T, []⟩ [] with mode := .returning } { (baseK f kind).at ⟨T, []⟩ [] with mode := .returning } :=
  ⟨rfl, ⟨fp, fq, hP, hQ, hr⟩, rfl, rfl, List.forall_mem_nil _, rfl, rfl, hk, rfl, rfl, .nil⟩
noncomputable section
variable {main : Bool} {Rw : World → World → Prop} {k : Nat} {X : Nat → Prop} {base baseP cb : List Frame} {R : Frame → List Frame → World → Prop} {Far : FuncId → Prop} {I : Frame → List Frame → World → Prop}
theorem lock_p : ∃ fn, Sq.prog.funcs[14]? = some fn ∧ fn.body = some (muC 0 1) ∧ fn.ntmps = 6 ∧ fn.results = Try.f14.results := by
  refine ⟨_, (sq_func 14).trans (congrArg (Option.map (seqFn 14)) Try.func14), ?_, ?_, ?_⟩
  · kernel_rfl
  · kernel_rfl
  · kernel_rfl
theorem unlock_p : ∃ fn, Sq.prog.funcs[15]? = some fn ∧ fn.body = some (muC 1 0) ∧ fn.ntmps = 6 ∧ fn.results = Try.f15.results := by
  refine ⟨_, (sq_func 15).trans (congrArg (Option.map (seqFn 15)) Try.func15), ?_, ?_, ?_⟩
  · kernel_rfl
  · kernel_rfl
  · kernel_rfl
theorem call23 : ∀ args w es, (callFunc 23 args).runT Try.prog w es = (.ok (.enter 23 args) w, es) := fun args w es => call_enter Try.func23 (by decide) rfl args w es
theorem call24 : ∀ args w es, (callFunc 24 args).runT Try.prog w es = (.ok (.enter 24 args) w, es) := fun args w es => call_enter Try.func24 (by decide) rfl args w es

/-- Lock. -/
theorem lock_pr (hRw : ∀ w w1, Rw w w1 → RX X w w1 ∧ w1.tape = w.tape) (hR : ∀ fr c v, R fr c v → fr.mode ≠ .run) {args : Array Value} {kind : CallKind} (hk : kind = .normal ∨ kind = .deferred) {cs cs' : List Frame} {v w : World} (hcs : All2 (FrR Try.prog sts Sq.prog) cs cs') (hw : Rel X v w) (hg : Gd v)
    (hi : ∀ T v1, Pth Sq.prog base R { (baseK 14 kind).at ⟨T, []⟩ [] with mode := .returning } (cs' ++ cb) v1 (Frame.enter Sq.prog 14 args kind) (cs' ++ cb) v → I { (baseK 14 kind).at ⟨T, []⟩ [] with mode := .returning } cs' v1)
    (h : Ends Sq.prog base R (Frame.enter Sq.prog 14 args kind) (cs' ++ cb) v)
    (ih : ∀ fr1 c1 v1, Pth Sq.prog base R fr1 c1 v1 (Frame.enter Sq.prog 14 args kind) (cs' ++ cb) v → Beside Try.prog Sq.prog X sts Mac Far I base baseP cb R k Rw (DM X) main fr1 c1 v1) :
    Pr Try.prog main Rw (DM X) (StopX Try.prog Sq.prog X sts Far I base baseP cb R k) k (G (Frame.enter Try.prog 14 args kind) (cs ++ baseP)) w := by
  obtain ⟨fn, hf, hb, hn, hr⟩ := lock_p
  have hke : kind ≠ .early := by rcases hk with rfl | rfl <;> decide
  obtain ⟨p, e0, hc, hz, hp⟩ := mu_all 0 1 hf hb hn hke hR args hg h
  have hX : ¬ X p.block := fun hx => by rw [hw.noCell hx] at hc; cases hc
  have hF : ∀ v w w1, Rel X v w → Rw w w1 → Rel X v w1 := fun v w w1 h h1 => h.rx (hRw _ _ h1).1
  have hd : ∀ w, DM X w w #[] := fun w => dm_id (by simp)
  rw [enterK (P := Try.prog) args kind Try.func14 rfl rfl]
  suffices H : Walks Try.prog main Rw (DM X) (StopX Try.prog Sq.prog X sts Far I base baseP cb R k) (Rel X v) k _ from H w hw
  refine mu_in (g := 23) (ps := ⟨_, _, _, _⟩) (es := ⟨_, _, _, _⟩) (room6_size args) e0 hke rfl call23 (hF v) hd ?_
  refine ilock_all hRw hX hc hz ?_
  rw [Frame.finish_at]
  simp only [List.getElem?_toArray, List.getElem?_cons_succ, List.getElem?_cons_zero, Option.bind_some, Act.put]
  refine Walks.ctl (hF _) hd (fun w _ => stepG_region_end) rfl ?_
  refine Walks.ctl (hF _) hd (fun w _ => stepG_end) rfl ?_
  intro w1 hw1
  refine ih _ _ _ hp _ cs cs' w1 rfl (hi _ _ hp) (.plain ?_) hcs hw1 fun r o ho e => setCell_loop hg ho e
  exact frr_end Try.func14 hf hr hk
/-- Unlock. -/
theorem unlock_pr (hRw : ∀ w w1, Rw w w1 → RX X w w1 ∧ w1.tape = w.tape) (hR : ∀ fr c v, R fr c v → fr.mode ≠ .run) {args : Array Value} {kind : CallKind} (hk : kind = .normal ∨ kind = .deferred) {cs cs' : List Frame} {v w : World} (hcs : All2 (FrR Try.prog sts Sq.prog) cs cs') (hw : Rel X v w) (hg : Gd v)
    (hi : ∀ T v1, Pth Sq.prog base R { (baseK 15 kind).at ⟨T, []⟩ [] with mode := .returning } (cs' ++ cb) v1 (Frame.enter Sq.prog 15 args kind) (cs' ++ cb) v → I { (baseK 15 kind).at ⟨T, []⟩ [] with mode := .returning } cs' v1)
    (h : Ends Sq.prog base R (Frame.enter Sq.prog 15 args kind) (cs' ++ cb) v)
    (ih : ∀ fr1 c1 v1, Pth Sq.prog base R fr1 c1 v1 (Frame.enter Sq.prog 15 args kind) (cs' ++ cb) v → Beside Try.prog Sq.prog X sts Mac Far I base baseP cb R k Rw (DM X) main fr1 c1 v1) :
    Pr Try.prog main Rw (DM X) (StopX Try.prog Sq.prog X sts Far I base baseP cb R k) k (G (Frame.enter Try.prog 15 args kind) (cs ++ baseP)) w := by
  obtain ⟨fn, hf, hb, hn, hr⟩ := unlock_p
  have hke : kind ≠ .early := by rcases hk with rfl | rfl <;> decide
  obtain ⟨p, e0, hc, hz, hp⟩ := mu_all 1 0 hf hb hn hke hR args hg h
  have hX : ¬ X p.block := fun hx => by rw [hw.noCell hx] at hc; cases hc
  have hF : ∀ v w w1, Rel X v w → Rw w w1 → Rel X v w1 := fun v w w1 h h1 => h.rx (hRw _ _ h1).1
  have hd : ∀ w, DM X w w #[] := fun w => dm_id (by simp)
  rw [enterK (P := Try.prog) args kind Try.func15 rfl rfl]
  suffices H : Walks Try.prog main Rw (DM X) (StopX Try.prog Sq.prog X sts Far I base baseP cb R k) (Rel X v) k _ from H w hw
  refine mu_in (g := 24) (ps := ⟨_, _, _, _⟩) (es := ⟨_, _, _, _⟩) (room6_size args) e0 hke rfl call24 (hF v) hd ?_
  refine iunlock_all hRw hX hc hz ?_
  rw [Frame.finish_at]
  simp only [List.getElem?_toArray, List.getElem?_cons_succ, List.getElem?_cons_zero, Option.bind_some, Act.put]
  refine Walks.ctl (hF _) hd (fun w _ => stepG_region_end) rfl ?_
  refine Walks.ctl (hF _) hd (fun w _ => stepG_end) rfl ?_
  intro w1 hw1
  refine ih _ _ _ hp _ cs cs' w1 rfl (hi _ _ hp) (.plain ?_) hcs hw1 fun r o ho e => setCell_loop hg ho e
  exact frr_end Try.func15 hf hr hk
end
end Go.Proofs.Ytdlnlcjmjgbikaa
