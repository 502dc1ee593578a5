/- round.serve, the program's own: from the go statement to the send, to the close, to Wait. -/
import Derived.Test.YtdlnlcjmjgbikaaRp
namespace Go.Proofs.Ytdlnlcjmjgbikaa
open Go Go.Conc

noncomputable section
def lb2 : Code := ci (ci (cr (cl (cr c3))))
def b3 : Code := ci (cl (cr (cr lb2)))
def ops12 : Array Oper := co (cr b3)
def k12 : List Item := [.inBlock 3, .code (cr (cr (cr lb2))), .inLoop lb2, .inBlock 2, .code (cr (cr c3))]
def ops14 : Array Oper := co (cl (cr (cr c3)))
def k14 : List Item := [.code (cr (cr (cr c3)))]
def ops15 : Array Oper := co (cr (cr (cr c3)))
variable {main : Bool} {Rw : World → World → Prop} {D : World → World → Array Event → Prop} {E : Event → Prop} {Stop : Nat → Goroutine → World → Prop} {F : World → Prop} {k : Nat}
/-- The places that are read from the send on. -/
structure Pm (N : Nat) (kv : Value) (f : Nat → Value) : Prop where
  work : f 6 = .pointer (some ⟨N + 2, 0, none⟩)
  crew : f 7 = .pointer (some ⟨N + 3, 0, none⟩)
  len : f 20 = .int .i64 1
  idx : f 21 = .int .i64 0
  ch : f 25 = .chan (some (N + 1))
  key : f 26 = kv
variable {b : Frame} {A : Act} {f : Nat → Value} {cs : List Frame} {N cap : Nat} {a : Addr} {kv : Value}
set_option maxRecDepth 10000 in
/-- From the go statement to the send. -/
theorem go_to_send (H : Wk Rw D E F) (hs : Sl A f) (hp : Pl N a cap f) (hk : b.kind ≠ .early) (hc : ∀ w, F w → w.cell? a = some kv) (hw : ∀ w, F w → w.cell? ⟨N + 2, 0, none⟩ = some (.chan (some (N + 1)))) (ea : E ⟨.cell a, false, false⟩) (ew : E ⟨.cell ⟨N + 2, 0, none⟩, false, false⟩)
    (h : ∀ A f, Sl A f → Pm N kv f → Walks Try.prog main Rw D Stop F k (G (b.at A (.inRegion ops12 [2] :: k12)) cs)) :
    Walks Try.prog main Rw D Stop F k (G (b.at A (.inRegion ops7 [] :: k7)) cs) := by
  refine wk_ctl H rfl (fun _ => stepG_region_end) ?_
  refine wk_ctl H rfl (fun _ => stepG_inBlock) ?_
  refine wk_ctl H rfl (fun _ => stepG_region) ?_
  refine wk_add (i := 0) (rest := [1]) (d := 18) (m := 0) (n := 1) H hs hk rfl rfl rfl (by decide) rfl ((hs.eval 13).trans hp.idx) rfl fun A1 s1 => ?_

  rw [show IntKind.i64.wrap (0 + 1) = 1 by decide] at s1
  refine wk_move (i := 1) (rest := []) (d := 13) (x := .int .i64 1) H s1 hk rfl rfl rfl (by decide) (.inl rfl) ((s1.eval 18).trans (by simp)) fun A2 s2 => ?_
  refine wk_ctl H rfl (fun _ => stepG_region_end) ?_
  refine wk_ctl H rfl (fun _ => stepG_inLoop) ?_
  refine wk_ctl H rfl (fun _ => stepG_seq) ?_
  refine wk_ctl H rfl (fun _ => stepG_region) ?_
  refine wk_lss (i := 0) (rest := []) (d := 14) (m := 1) (n := 1) H s2 hk rfl rfl rfl (by decide) rfl ((s2.eval 13).trans (by simp)) ((s2.eval 12).trans (by simp [hp.lim])) fun A3 s3 => ?_
  refine wk_ctl H rfl (fun _ => stepG_region_end) ?_
  refine wk_ctl H rfl (fun _ => stepG_seq) ?_
  refine wk_ctl H rfl (fun _ => stepG_cond (t := false) ((s3.eval 14).trans (by simp))) ?_
  simp only [Bool.false_eq_true, if_false]
  refine wk_ctl H rfl (fun _ => stepG_exit (k' := [.code (cr c3)]) rfl) ?_
  refine wk_ctl H rfl (fun _ => stepG_seq) ?_
  refine wk_ctl H rfl (fun _ => stepG_seq) ?_
  refine wk_ctl H rfl (fun _ => stepG_region) ?_
  refine wk_move (i := 0) (rest := [1, 2]) (d := 19) (x := .slice (some a) 1 cap) H s3 hk rfl rfl rfl (by decide) (.inl rfl) ((s3.eval 1).trans (by simp [hp.keys])) fun A4 s4 => ?_
  refine wk_len (i := 1) (rest := [2]) (d := 20) (bs := some a) (n := 1) (cap := cap) H s4 hk rfl rfl rfl (by decide) rfl ((s4.eval 19).trans (by simp)) fun A5 s5 => ?_
  refine wk_move (i := 2) (rest := []) (d := 21) (x := .int .i64 0) H s5 hk rfl rfl rfl (by decide) (.inl rfl) rfl fun A6 s6 => ?_
  refine wk_ctl H rfl (fun _ => stepG_region_end) ?_
  refine wk_ctl H rfl (fun _ => stepG_block) ?_
  refine wk_ctl H rfl (fun _ => stepG_loop) ?_
  refine wk_ctl H rfl (fun _ => stepG_seq) ?_
  refine wk_ctl H rfl (fun _ => stepG_region) ?_
  refine wk_lss (i := 0) (rest := []) (d := 22) (m := 0) (n := 1) H s6 hk rfl rfl rfl (by decide) rfl ((s6.eval 21).trans (by simp)) ((s6.eval 20).trans (by simp)) fun A7 s7 => ?_
  refine wk_ctl H rfl (fun _ => stepG_region_end) ?_
  refine wk_ctl H rfl (fun _ => stepG_seq) ?_
  refine wk_ctl H rfl (fun _ => stepG_cond (t := true) ((s7.eval 22).trans (by simp))) ?_
  simp only [if_true]
  refine wk_ctl H rfl (fun _ => stepG_skip) ?_
  refine wk_ctl H rfl (fun _ => stepG_seq) ?_
  refine wk_ctl H rfl (fun _ => stepG_block) ?_
  refine wk_ctl H rfl (fun _ => stepG_seq) ?_
  refine wk_ctl H rfl (fun _ => stepG_region) ?_
  refine wk_index (i := 0) (rest := [1, 2]) (d := 23) (a := a) (cap := cap) H s7 hk rfl rfl rfl (by decide) rfl ((s7.eval 19).trans (by simp)) ((s7.eval 21).trans (by simp)) fun A8 s8 => ?_
  refine wk_load (i := 1) (rest := [2]) (d := 24) (p := a) (x := kv) H s8 hk rfl rfl rfl (by decide) rfl Try.isAgg3 ((s8.eval 23).trans (by simp)) hc ea fun A9 s9 => ?_
  refine wk_move (i := 2) (rest := []) (d := 10) (x := kv) H s9 hk rfl rfl rfl (by decide) (.inr rfl) ((s9.eval 24).trans (by simp)) fun A10 s10 => ?_
  refine wk_ctl H rfl (fun _ => stepG_region_end) ?_
  refine wk_ctl H rfl (fun _ => stepG_region) ?_
  refine wk_load (i := 0) (rest := [1, 2]) (d := 25) (p := ⟨N + 2, 0, none⟩) (x := .chan (some (N + 1))) H s10 hk rfl rfl rfl (by decide) rfl Try.isAgg98 ((s10.eval 6).trans (by simp [hp.work])) hw ew fun A11 s11 => ?_
  refine wk_move (i := 1) (rest := [2]) (d := 26) (x := kv) H s11 hk rfl rfl rfl (by decide) (.inl rfl) ((s11.eval 10).trans (by simp)) fun A12 s12 => ?_
  exact h A12 _ s12 ⟨by simp [hp.work], by simp [hp.crew], by simp, by simp, by simp, by simp⟩
set_option maxRecDepth 10000 in
/-- From the send to the close. -/
theorem send_to_close (H : Wk Rw D E F) (hs : Sl A f) (hp : Pm N kv f) (hk : b.kind ≠ .early) (hw : ∀ w, F w → w.cell? ⟨N + 2, 0, none⟩ = some (.chan (some (N + 1)))) (ew : E ⟨.cell ⟨N + 2, 0, none⟩, false, false⟩)
    (h : ∀ A f, Sl A f → f 7 = .pointer (some ⟨N + 3, 0, none⟩) → f 28 = .chan (some (N + 1)) → Walks Try.prog main Rw D Stop F k (G (b.at A (.inRegion ops14 [1] :: k14)) cs)) :
    Walks Try.prog main Rw D Stop F k (G (b.at A (.inRegion ops12 [] :: k12)) cs) := by
  refine wk_ctl H rfl (fun _ => stepG_region_end) ?_
  refine wk_ctl H rfl (fun _ => stepG_inBlock) ?_
  refine wk_ctl H rfl (fun _ => stepG_region) ?_
  refine wk_add (i := 0) (rest := [1]) (d := 27) (m := 0) (n := 1) H hs hk rfl rfl rfl (by decide) rfl ((hs.eval 21).trans hp.idx) rfl fun A1 s1 => ?_
  rw [show IntKind.i64.wrap (0 + 1) = 1 by decide] at s1
  refine wk_move (i := 1) (rest := []) (d := 21) (x := .int .i64 1) H s1 hk rfl rfl rfl (by decide) (.inl rfl) ((s1.eval 27).trans (by simp)) fun A2 s2 => ?_
  refine wk_ctl H rfl (fun _ => stepG_region_end) ?_
  refine wk_ctl H rfl (fun _ => stepG_inLoop) ?_
  refine wk_ctl H rfl (fun _ => stepG_seq) ?_
  refine wk_ctl H rfl (fun _ => stepG_region) ?_
  refine wk_lss (i := 0) (rest := []) (d := 22) (m := 1) (n := 1) H s2 hk rfl rfl rfl (by decide) rfl ((s2.eval 21).trans (by simp)) ((s2.eval 20).trans (by simp [hp.len])) fun A3 s3 => ?_
  refine wk_ctl H rfl (fun _ => stepG_region_end) ?_
  refine wk_ctl H rfl (fun _ => stepG_seq) ?_
  refine wk_ctl H rfl (fun _ => stepG_cond (t := false) ((s3.eval 22).trans (by simp))) ?_
  simp only [Bool.false_eq_true, if_false]
  refine wk_ctl H rfl (fun _ => stepG_exit (k' := [.code (cr (cr c3))]) rfl) ?_
  refine wk_ctl H rfl (fun _ => stepG_seq) ?_
  refine wk_ctl H rfl (fun _ => stepG_region) ?_
  refine wk_load (i := 0) (rest := [1]) (d := 28) (p := ⟨N + 2, 0, none⟩) (x := .chan (some (N + 1))) H s3 hk rfl rfl rfl (by decide) rfl Try.isAgg98 ((s3.eval 6).trans (by simp [hp.work])) hw ew fun A4 s4 => ?_
  exact h A4 _ s4 (by simp [hp.crew]) (by simp)
theorem wait_enter (x : Value) (kd : CallKind) : Frame.enter Try.prog 47 #[x] kd = (baseK 47 kd).at ⟨#[x] ++ Array.replicate 83 undef, []⟩ [.code (Go.ConcX.Gen.body_wait lnk)] := by
  simp [Frame.enter, Frame.at, wgLib.f_wait]
  exact ⟨rfl, rfl⟩
/-- From the close to Wait. -/
theorem close_to_wait (H : Wk Rw D E F) (hs : Sl A f) (hc : f 7 = .pointer (some ⟨N + 3, 0, none⟩)) (hk : b.kind ≠ .early)
    (h : Walks Try.prog main Rw D Stop F k (G (Frame.enter Try.prog 47 #[.pointer (some ⟨N + 3, 0, none⟩)] .normal) (b.at A [.inRegion ops15 [0]] :: cs))) :
    Walks Try.prog main Rw D Stop F k (G (b.at A (.inRegion ops14 [] :: k14)) cs) := by
  refine wk_ctl H rfl (fun _ => stepG_region_end) ?_
  refine wk_ctl H rfl (fun _ => stepG_region) ?_
  refine wk_call (i := 0) (rest := []) (g := 47) (vals := #[.pointer (some ⟨N + 3, 0, none⟩)]) H hk rfl rfl rfl ?_ (fun w => call_enter Try.func47 (by decide) rfl _ w #[]) h
  rw [show #[Operand.tmp 7].map A.eval = #[A.eval (.tmp 7)] by simp, hs.eval 7, hc]
end
end Go.Proofs.Ytdlnlcjmjgbikaa
/- The worker, the program's own: to its receive, to the call of bring, back to its receive, to its end. -/
namespace Go.Proofs.Ytdlnlcjmjgbikaa
open Go Go.Conc

noncomputable section
def c44 : Code := Try.f44.body.getD .skip
def lb44 : Code := ci (ci (cr (cr c44)))
def opsR : Array Oper := co (cl lb44)
def kR : List Item := [.code (cr lb44), .inLoop lb44, .inBlock 0]
def opsB : Array Oper := co (cr (ci (cr (cr lb44))))
def kB : List Item := [.inBlock 1, .inLoop lb44, .inBlock 0]
/-- What is started. -/
def dGo (N : Nat) : Deferred := { target := .fn (.func 44) #[.pointer (some ⟨N + 3, 0, none⟩), .pointer (some ⟨N + 2, 0, none⟩), .pointer (some ⟨N, 0, none⟩), .pointer (some ⟨N + 4, 0, none⟩)], args := #[] }
/-- The frame at the bottom of a goroutine that was started. -/
def bornF : Frame := { (default : Frame) with fn := Try.prog.funcs.size, defers := [], mode := .panicking [goexitEntry] }
/-- The worker's places. -/
def tW (N : Nat) (k4 t5 t6 t7 t8 t9 t10 t11 t12 : Value) : Act :=
  ⟨#[.pointer (some ⟨N + 3, 0, none⟩), .pointer (some ⟨N + 2, 0, none⟩), .pointer (some ⟨N, 0, none⟩), .pointer (some ⟨N + 4, 0, none⟩), k4, t5, t6, t7, t8, t9, t10, t11, t12], [dcall 45 #[.pointer (some ⟨N + 3, 0, none⟩)]]⟩
variable {Rw : World → World → Prop} {D : World → World → Array Event → Prop} {E : Event → Prop} {Stop : Nat → Goroutine → World → Prop} {F : World → Prop} {k N : Nat} {rp : Addr}
theorem born_step (N : Nat) (w : World) : stepG Try.prog false (born Try.prog (dGo N)) w = .go (G (Frame.enter Try.prog 44 #[.pointer (some ⟨N + 3, 0, none⟩), .pointer (some ⟨N + 2, 0, none⟩), .pointer (some ⟨N, 0, none⟩), .pointer (some ⟨N + 4, 0, none⟩)] .deferred) [bornF]) w #[] := by
  have h1 := unwind_defer (p := Try.prog) (fn := Try.prog.funcs.size) (tmps := #[]) (todo := []) (d := dGo N) (defers := []) (m := .panicking [goexitEntry]) (kind := .normal) (cs := []) (w := w) false rfl rfl
  have h2 := deferred_eq (p := Try.prog) (fn := Try.prog.funcs.size) (tmps := #[]) (todo := []) (d := dGo N) (defers := []) (m := .panicking [goexitEntry]) (kind := .normal) (cs := []) (w := w) rfl rfl
    (.ok (.enter 44 #[.pointer (some ⟨N + 3, 0, none⟩), .pointer (some ⟨N + 2, 0, none⟩), .pointer (some ⟨N, 0, none⟩), .pointer (some ⟨N + 4, 0, none⟩)]) w) (es := #[]) (call_enter Try.func44 (by decide) rfl _ w #[]) trivial (fun _ _ e => by cases e; trivial)
  refine (h1.trans h2).trans ?_
  simp only [dOut, Go.Conc.seen_none]
  rfl
theorem enter44 (x y z u : Value) : Frame.enter Try.prog 44 #[x, y, z, u] .deferred = (baseK 44 .deferred).at ⟨#[x, y, z, u, undef, undef, undef, undef, undef, undef, undef, undef, undef], []⟩ [.code c44] := by
  simp only [Frame.enter, Try.func44, Option.map_some, Option.getD_some, Try.ntmps44]
  rfl
set_option maxRecDepth 10000 in
/-- To the receive. -/
theorem worker_a (H : Wk Rw D E F) (hw : ∀ w, F w → w.cell? ⟨N + 2, 0, none⟩ = some (.chan (some (N + 1)))) (ew : E ⟨.cell ⟨N + 2, 0, none⟩, false, false⟩)
    (h : Walks Try.prog false Rw D Stop F k (G ((baseK 44 .deferred).at (tW N undef (.chan (some (N + 1))) undef undef undef undef undef undef undef) (.inRegion opsR [0, 1] :: kR)) [bornF])) :
    Walks Try.prog false Rw D Stop F k (born Try.prog (dGo N)) := by
  have hk : (baseK 44 .deferred).kind ≠ .early := by decide
  refine wk_ctl H rfl (fun w => born_step N w) ?_
  rw [enter44]
  refine wk_ctl H rfl (fun _ => stepG_seq) ?_
  refine wk_ctl H rfl (fun _ => stepG_region) ?_
  refine wk_ctl H rfl (fun _ => stepG_defer (i := 0) (rest := []) rfl rfl hk rfl) ?_
  rw [show #[Operand.tmp 0].map (Act.eval ⟨#[Value.pointer (some ⟨N + 3, 0, none⟩), .pointer (some ⟨N + 2, 0, none⟩), .pointer (some ⟨N, 0, none⟩), .pointer (some ⟨N + 4, 0, none⟩), undef, undef, undef, undef, undef, undef, undef, undef, undef], []⟩) = #[.pointer (some ⟨N + 3, 0, none⟩)] by simp [Act.eval]]
  refine wk_ctl H rfl (fun _ => stepG_region_end) ?_
  refine wk_ctl H rfl (fun _ => stepG_seq) ?_
  refine wk_ctl H rfl (fun _ => stepG_region) ?_
  refine wk_val (i := 0) (rest := []) H (.chan (some (N + 1))) hk rfl rfl (fun w hF => (load_ev 98 Try.isAgg98 (hw w hF)).1) (fun w hF e he => ?_) ?_
  · rw [(load_ev 98 Try.isAgg98 (hw w hF)).2 e he]
    exact ⟨ew, by simp, by simp⟩
  refine wk_ctl H rfl (fun _ => stepG_region_end) ?_
  refine wk_ctl H rfl (fun _ => stepG_block) ?_
  refine wk_ctl H rfl (fun _ => stepG_loop) ?_
  refine wk_ctl H rfl (fun _ => stepG_seq) ?_
  refine wk_ctl H rfl (fun _ => stepG_region) ?_
  exact h
theorem recv_exec (A : Act) (ha : A.eval (.tmp 5) = .chan (some (N + 1))) (o : Oper) (hop : o.op = .recv 98 (.tmp 5) true) (w : World) :
    (execOp A.eval o).run Try.prog w = .ok (.comm #[rcase (N + 1) (.int .i64 0)] true (.recv true)) w ∧ (execOp A.eval o).events Try.prog w #[] = #[] := by
  obtain ⟨o1, o2, o3, o4, o5, o6⟩ := o
  subst hop
  constructor
  · simp only [execOp, ha, Sem.run_bind, Try.runUnderlying98, Result.andThen, Try.zeroValue3, Sem.run_pure]
    rfl
  · simp only [execOp, ha]
    simp [go_sem, Try.runUnderlying98]
/-- What stands at a receive. -/
theorem recv_step (A : Act) (ha : A.eval (.tmp 5) = .chan (some (N + 1))) (K : List Item) (cs : List Frame) (w : World) :
    stepG Try.prog false (G ((baseK 44 .deferred).at A (.inRegion opsR [0, 1] :: K)) cs) w = .comm (G ((baseK 44 .deferred).at A (.inRegion opsR [0, 1] :: K)) cs) #[rcase (N + 1) (.int .i64 0)] true (.recv true) w #[] := by
  obtain ⟨o, ho, hop, hg⟩ : ∃ o, opsR[0]? = some o ∧ o.op = .recv 98 (.tmp 5) true ∧ o.guard = none := ⟨_, rfl, rfl, rfl⟩
  obtain ⟨h1, h2⟩ := recv_exec A ha o hop w
  rw [stepG_comm ho (by simp [Region.wanted, hg]) (by decide) h1]
  unfold listed
  rw [h2, Go.Conc.seen_none]
/-- What stands at a send. -/
theorem send_step {b : Frame} {A : Act} {ops : Array Oper} {i : Nat} {rest : List Nat} {K : List Item} {cs : List Frame} {o : Oper} {v : Value} {main : Bool} (hk : b.kind ≠ .early) (ho : ops[i]? = some o) (hg : o.guard = none) (hop : o.op = .send (.tmp 25) (.tmp 26)) (h5 : A.eval (.tmp 25) = .chan (some (N + 1))) (h6 : A.eval (.tmp 26) = v) (w : World) :
    stepG Try.prog main (G (b.at A (.inRegion ops (i :: rest) :: K)) cs) w = .comm (G (b.at A (.inRegion ops (i :: rest) :: K)) cs) #[scase (N + 1) v (.tuple #[])] true .send w #[] := by
  obtain ⟨o1, o2, o3, o4, o5, o6⟩ := o
  subst hop
  have h1 : (execOp A.eval ⟨o1, .send (.tmp 25) (.tmp 26), o3, o4, o5, o6⟩).run Try.prog w = .ok (.comm #[scase (N + 1) v (.tuple #[])] true .send) w := by
    simp only [execOp, h5, h6, Sem.run_pure]; rfl
  have h2 : (execOp A.eval ⟨o1, .send (.tmp 25) (.tmp 26), o3, o4, o5, o6⟩).events Try.prog w #[] = #[] := by
    simp only [execOp]; rfl
  rw [stepG_comm ho (by simp [Region.wanted, show o6 = none from hg]) hk h1]
  unfold listed
  rw [h2, Go.Conc.seen_none]
theorem wk_extract {b : Frame} {A : Act} {ops : Array Oper} {i j d : Nat} {rest : List Nat} {K : List Item} {cs : List Frame} {o : Oper} {y : Operand} {vs : Array Value} {x : Value} {main : Bool} (H : Wk Rw D E F) (hk : b.kind ≠ .early) (ho : ops[i]? = some o) (hg : o.guard = none) (hd : o.dst = some d) (hop : o.op = .extract y j) (hy : A.eval y = .tuple vs) (hj : vs[j]? = some x)
    (h : Walks Try.prog main Rw D Stop F k (G (b.at (A.put (some d) x) (.inRegion ops rest :: K)) cs)) : Walks Try.prog main Rw D Stop F k (G (b.at A (.inRegion ops (i :: rest) :: K)) cs) := by
  obtain ⟨o1, o2, o3, o4, o5, o6⟩ := o
  subst hop hd
  refine wk_val H x hk ho hg (fun w _ => ?_) (fun w _ => ?_) h
  · show ((Instr.extract (A.eval y) j >>= fun x => pure (Next.value x)) : Sem Next).run Try.prog w = _
    rw [hy]; simp [Instr.extract, hj]
  · show ∀ e ∈ ((Instr.extract (A.eval y) j >>= fun x => pure (Next.value x)) : Sem Next).events Try.prog w #[], _
    rw [hy]; simp [Instr.extract, hj]
set_option maxRecDepth 10000 in
/-- Behind the receive: to the call of bring. -/
theorem worker_b (H : Wk Rw D E F) {kv : Value} {t7 t8 t9 t10 t11 t12 k4 : Value} (hr : ∀ w, F w → w.cell? ⟨N, 0, none⟩ = some (.pointer (some rp))) (hi : ∀ w, F w → w.cell? ⟨N + 4, 0, none⟩ = some (.int .i64 0)) (er : E ⟨.cell ⟨N, 0, none⟩, false, false⟩) (ei : E ⟨.cell ⟨N + 4, 0, none⟩, false, false⟩)
    (h : Walks Try.prog false Rw D Stop F k (G (Frame.enter Try.prog 46 #[.pointer (some rp), .int .i64 0, kv] .normal) [(baseK 44 .deferred).at (tW N kv (.chan (some (N + 1))) (.tuple #[kv, .bool true]) (.bool true) kv (.pointer (some rp)) (.int .i64 0) kv t12) (.inRegion opsB [3] :: kB), bornF])) :
    Walks Try.prog false Rw D Stop F k (G ((baseK 44 .deferred).at (tW N k4 (.chan (some (N + 1))) (.tuple #[kv, .bool true]) t7 t8 t9 t10 t11 t12) (.inRegion opsR [1] :: kR)) [bornF]) := by
  have hk : (baseK 44 .deferred).kind ≠ .early := by decide
  refine wk_extract (i := 1) (rest := []) H hk rfl rfl rfl rfl rfl (x := .bool true) rfl ?_
  refine wk_ctl H rfl (fun _ => stepG_region_end) ?_
  refine wk_ctl H rfl (fun _ => stepG_seq) ?_
  refine wk_ctl H rfl (fun _ => stepG_cond (t := true) rfl) ?_
  simp only [if_true]
  refine wk_ctl H rfl (fun _ => stepG_skip) ?_
  refine wk_ctl H rfl (fun _ => stepG_block) ?_
  refine wk_ctl H rfl (fun _ => stepG_seq) ?_
  refine wk_ctl H rfl (fun _ => stepG_region) ?_
  refine wk_extract (i := 0) (rest := [1]) H hk rfl rfl rfl rfl rfl (x := kv) rfl ?_
  refine wk_val (i := 1) (rest := []) H kv hk rfl rfl (fun w _ => by simp [execOp, Act.eval, Act.put, tW]) (fun w _ => by simp [execOp, Act.eval, Act.put, tW]) ?_
  refine wk_ctl H rfl (fun _ => stepG_region_end) ?_
  refine wk_ctl H rfl (fun _ => stepG_region) ?_
  refine wk_val (i := 0) (rest := [1, 2, 3]) H (.pointer (some rp)) hk rfl rfl (fun w hF => (load_ev 75 Try.isAgg75 (hr w hF)).1) (fun w hF e he => ?_) ?_
  · rw [(load_ev 75 Try.isAgg75 (hr w hF)).2 e he]; exact ⟨er, by simp, by simp⟩
  refine wk_val (i := 1) (rest := [2, 3]) H (.int .i64 0) hk rfl rfl (fun w hF => (load_ev 3 Try.isAgg3 (hi w hF)).1) (fun w hF e he => ?_) ?_
  · rw [(load_ev 3 Try.isAgg3 (hi w hF)).2 e he]; exact ⟨ei, by simp, by simp⟩
  refine wk_val (i := 2) (rest := [3]) H kv hk rfl rfl (fun w _ => by simp [execOp, Act.eval, Act.put, tW]) (fun w _ => by simp [execOp, Act.eval, Act.put, tW]) ?_
  refine wk_call (i := 3) (rest := []) (g := 46) (vals := #[.pointer (some rp), .int .i64 0, kv]) H hk rfl rfl rfl (by simp [Act.eval, Act.put, tW]) (fun w => call_enter Try.func46 (by decide) rfl _ w #[]) ?_
  exact h
set_option maxRecDepth 10000 in
/-- Behind bring: to the receive. -/
theorem worker_c (H : Wk Rw D E F) {kv : Value} {t6 t7 t8 t9 t10 t11 t12 : Value}
    (h : Walks Try.prog false Rw D Stop F k (G ((baseK 44 .deferred).at (tW N kv (.chan (some (N + 1))) t6 t7 t8 t9 t10 t11 t12) (.inRegion opsR [0, 1] :: kR)) [bornF])) :
    Walks Try.prog false Rw D Stop F k (G ((baseK 44 .deferred).at (tW N kv (.chan (some (N + 1))) t6 t7 t8 t9 t10 t11 t12) (.inRegion opsB [] :: kB)) [bornF]) := by
  refine wk_ctl H rfl (fun _ => stepG_region_end) ?_
  refine wk_ctl H rfl (fun _ => stepG_inBlock) ?_
  refine wk_ctl H rfl (fun _ => stepG_inLoop) ?_
  refine wk_ctl H rfl (fun _ => stepG_seq) ?_
  refine wk_ctl H rfl (fun _ => stepG_region) ?_
  exact h
set_option maxRecDepth 10000 in
/-- Behind the receive from the closed channel: to the deferred Done. -/
theorem worker_d (H : Wk Rw D E F) {kv z : Value} {t7 t8 t9 t10 t11 t12 : Value}
    (h : Walks Try.prog false Rw D Stop F k (G { (baseK 44 .deferred).at (tW N kv (.chan (some (N + 1))) (.tuple #[z, .bool false]) (.bool false) t8 t9 t10 t11 t12) [] with mode := .returning } [bornF])) :
    Walks Try.prog false Rw D Stop F k (G ((baseK 44 .deferred).at (tW N kv (.chan (some (N + 1))) (.tuple #[z, .bool false]) t7 t8 t9 t10 t11 t12) (.inRegion opsR [1] :: kR)) [bornF]) := by
  have hk : (baseK 44 .deferred).kind ≠ .early := by decide
  refine wk_extract (i := 1) (rest := []) H hk rfl rfl rfl rfl rfl (x := .bool false) rfl ?_
  refine wk_ctl H rfl (fun _ => stepG_region_end) ?_
  refine wk_ctl H rfl (fun _ => stepG_seq) ?_
  refine wk_ctl H rfl (fun _ => stepG_cond (t := false) rfl) ?_
  simp only [Bool.false_eq_true, if_false]
  refine wk_ctl H rfl (fun _ => stepG_exit (k' := []) rfl) ?_
  refine wk_ctl H rfl (fun _ => stepG_end) ?_
  exact h
end
end Go.Proofs.Ytdlnlcjmjgbikaa
