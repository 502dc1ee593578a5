/- Lock, Unlock and serve, in one goroutine. -/
import Derived.Test.YtdlnlcjmjgbikaaTb
import Derived.Test.YtdlnlcjmjgbikaaRh
namespace Go.Proofs.Ytdlnlcjmjgbikaa
open Go Go.Conc Go.RowKit

noncomputable section
def Sq.f14 : Func := { Try.f14 with body := some (Code.seq (.region 0 #[opq 0 (some 2) (.move (.tmp 0)) 73, opq 1 (some 3) (.move (.tmp 2)) 0, opq 2 (some 4) (.fieldAddr 52 (.tmp 3) 1) 0, opq 3 (some 5) (.load 21 (.tmp 4)) 21,
    opq 4 (some 5) (.binOp .eql bad (.tmp 5) (.const (.int .i32 0)) bad) 4] false)
  (.seq (.cond (.tmp 5) .skip (.refuse "")) (.region 1 #[opq 0 none (.store 21 (.tmp 4) (.const (.int .i32 1))) 0, opq 1 (some 5) (.move (.const (.tuple #[]))) 0] false))) }
def Sq.f15 : Func := { Try.f15 with body := some (Code.seq (.region 0 #[opq 0 (some 2) (.move (.tmp 0)) 73, opq 1 (some 3) (.move (.tmp 2)) 0, opq 2 (some 4) (.fieldAddr 52 (.tmp 3) 1) 0, opq 3 (some 5) (.load 21 (.tmp 4)) 21,
    opq 4 (some 5) (.binOp .eql bad (.tmp 5) (.const (.int .i32 1)) bad) 4] false)
  (.seq (.cond (.tmp 5) .skip (.refuse "")) (.region 1 #[opq 0 none (.store 21 (.tmp 4) (.const (.int .i32 0))) 0, opq 1 (some 5) (.move (.const (.tuple #[]))) 0] false))) }
theorem Sq.func14 : Sq.prog.funcs[14]? = some Sq.f14 := (sq_func 14).trans ((congrArg (Option.map (seqFn 14)) Try.func14).trans (by kernel_rfl))
theorem Sq.ntmps14 : Sq.f14.ntmps = 6 := rfl
@[simp] theorem Sq.call14 (args : Array Value) (w : World) : (callFunc 14 args).run Sq.prog w = .ok (.enter 14 args) w := sq_call Sq.func14 (by decide) rfl args w
theorem Sq.func15 : Sq.prog.funcs[15]? = some Sq.f15 := (sq_func 15).trans ((congrArg (Option.map (seqFn 15)) Try.func15).trans (by kernel_rfl))
theorem Sq.ntmps15 : Sq.f15.ntmps = 6 := rfl
@[simp] theorem Sq.call15 (args : Array Value) (w : World) : (callFunc 15 args).run Sq.prog w = .ok (.enter 15 args) w := sq_call Sq.func15 (by decide) rfl args w
set_option maxRecDepth 100000 in
set_option maxHeartbeats 400000 in
theorem qlock_any (p : Addr) (w : World) (hc : w.cell? p = some (.int .i32 0)) (hz : w.frozen? p = false) : Calls Sq.prog 14 #[.pointer (some p)] w fun e w' => e = .returned (.tuple #[]) ∧ w' = w.setCell p (.int .i32 1) := by
  go_enter Sq.func14, Sq.ntmps14
  go_wp2
  exact bodyPost_end (by simp [results, Sq.f14, Try.f14]) rfl ⟨rfl, rfl⟩
set_option maxRecDepth 100000 in
set_option maxHeartbeats 400000 in
theorem qunlock_any (p : Addr) (w : World) (hc : w.cell? p = some (.int .i32 1)) (hz : w.frozen? p = false) : Calls Sq.prog 15 #[.pointer (some p)] w fun e w' => e = .returned (.tuple #[]) ∧ w' = w.setCell p (.int .i32 0) := by
  go_enter Sq.func15, Sq.ntmps15
  go_wp2
  exact bodyPost_end (by simp [results, Sq.f15, Try.f15]) rfl ⟨rfl, rfl⟩
def Sq.f27 : Func := { Try.f27 with body := some (Code.seq (.region 0 #[opq 0 (some 3) (.range 9 (.const (.string .empty))) 0, opq 1 (some 4) (.range 9 (.const (.string .empty))) 0, opq 2 (some 5) (.range 9 (.const (.string .empty))) 0, opq 3 (some 6) (.range 9 (.const (.string .empty))) 0, opq 4 (some 7) (.range 9 (.const (.string .empty))) 0] false)
  (.seq (.region 1 #[opq 0 (some 8) (.binOp .eql bad (.tmp 2) (.const (.int .i64 1)) bad) 4] false)
  (.seq (.cond (.tmp 8) .skip (.refuse ""))
  (.seq (.region 2 #[opq 0 (some 9) (.call ⟨.builtin .len, #[.tmp 1], #[23]⟩) 3, opq 1 (some 10) (.binOp .eql bad (.tmp 9) (.const (.int .i64 1)) bad) 4, opq 2 (some 14) (.binOp .eql 23 (.tmp 1) (.const (.slice none 0 0)) bad) 4] false)
  (.seq (.cond (.tmp 10) .skip (.refuse ""))
  (.seq (.cond (.tmp 14) (.refuse "") .skip)
  (.seq (.region 3 #[opq 0 (some 11) (.indexAddr 23 (.tmp 1) (.const (.int .i64 0))) 0, opq 1 (some 12) (.load 3 (.tmp 11)) 3, opq 2 (some 15) (.fieldAddr 84 (.tmp 0) 1) 0] false)
  (.region 4 #[opq 0 (some 13) (.call ⟨.value (.func 46), #[.tmp 0, .const (.int .i64 0), .tmp 12], #[75, 3, 3]⟩) 64] false)))))))) }
theorem Sq.func27 : Sq.prog.funcs[27]? = some Sq.f27 := (sq_func 27).trans ((congrArg (Option.map (seqFn 27)) Try.func27).trans (by kernel_rfl))
theorem Sq.ntmps27 : Sq.f27.ntmps = 30 := rfl
@[simp] theorem Sq.call27 (args : Array Value) (w : World) : (callFunc 27 args).run Sq.prog w = .ok (.enter 27 args) w := sq_call Sq.func27 (by decide) rfl args w
attribute [local simp] range_run
theorem nil23_op (b : Option Addr) (m cp : Nat) (v : World) : (binOp .eql 23 (.slice b m cp) (.slice none 0 0)).run Sq.prog v = .ok (.bool b.isNone) v := by
  have he : (Op.equal 23 (.slice b m cp) (.slice none 0 0)).run Sq.prog v = .ok b.isNone v := by
    show (Op.equalIn (9999 + 1) 23 (.slice b m cp) (.slice none 0 0)).run Sq.prog v = _
    unfold Op.equalIn
    simp only [Sem.run_bind, sq_run_underlying, Try.runUnderlying23, Result.andThen]
    cases b <;> simp
  simp [binOp, he, Result.andThen]
attribute [local simp] nil23_op
set_option maxRecDepth 100000 in
set_option maxHeartbeats 1000000 in
theorem qserve_any (r a : Addr) (cap : Nat) (kv : Value) (w : World) (hc : (blk (blk (blk (blk (blk w))))).cell? a = some kv) (K : Ending → World → Prop) (hb : Calls Sq.prog 46 #[.pointer (some r), .int .i64 0, kv] (blk (blk (blk (blk (blk w))))) fun e w' => ∃ v, e = .returned v ∧ K (.returned (.tuple #[])) w') :
    Calls Sq.prog 27 #[.pointer (some r), .slice (some a) 1 cap, .int .i64 1] w K := by
  go_enter Sq.func27, Sq.ntmps27
  go_wp2_with fail
  refine hb.mono ?_
  rintro e w' ⟨v, rfl, hK⟩
  go_wp2_with fail
  exact bodyPost_end (by simp [results, Sq.f27, Try.f27]) rfl hK
end
end Go.Proofs.Ytdlnlcjmjgbikaa
