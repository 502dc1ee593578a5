/- Calls of functions without a body, and small functions, in one goroutine. -/
import Derived.Test.YtdlnlcjmjgbikaaTa
import Derived.Conc.AtomicLaws2
import Derived.WalkKit
import Derived.WalkSpells
import Derived.WalkLawsBesides
import Derived.ProofKit
namespace Go.Proofs.Ytdlnlcjmjgbikaa
open Go Go.Conc Go.RowKit

theorem ext_run {f : Nat} {fn : Func} (h : Sq.prog.funcs[f]? = some fn) (hn : fn.name ≠ "runtime.NumGoroutine") (hb : fn.body = none) {e : Array Value → Sem Value} (h1 : Extern.findNext fn = none) (h2 : Extern.find fn = some e) (args : Array Value) (w : World) :
    (callFunc f args).run Sq.prog w = (e args >>= fun x => pure (Next.value x)).run Sq.prog w := by
  have := call_ext h hn hb h1 h2 args w #[]
  rw [Sem.runT_eq, Sem.runT_eq] at this
  injection this
theorem load_run_at {k : IntKind} {n : Int} {p : Addr} {w : World} (hc : w.cell? p = some (.int k n)) : (Extern.Atomic.loadT (.int k) #[.pointer (some p)]).run Sq.prog w = .ok (.int k n) w := by
  change Sem.run Sq.prog (do Extern.Atomic.read (.int k) (← asAddr (.pointer (some p)))) w = _
  simp [Extern.Atomic.read, asAddr, hc, Result.andThen]
theorem store_run_at {k : IntKind} {n : Int} {p : Addr} {w : World} {u : Value} (hc : w.cell? p = some u) (hz : w.frozen? p = false) : (Extern.Atomic.storeT #[.pointer (some p), .int k n]).run Sq.prog w = .ok (.tuple #[]) (w.setCell p (.int k n)) := by
  change Sem.run Sq.prog (do
    store (← asAddr (.pointer (some p))) (.int k n) .atomic
    pure Extern.Atomic.none_) w = _
  simp [asAddr, hc, hz, run_store Sq.prog w p (.int k n) .atomic rfl, Result.andThen, Extern.Atomic.none_]
theorem sq_fun (n : Nat) (f : Func) (h : Try.prog.funcs[n]? = some f) (h2 : seqFn n f = f) : Sq.prog.funcs[n]? = some f := by
  rw [sq_func, h, Option.map_some, h2]
@[simp] theorem ext48 {n : Int} {p : Addr} {w : World} (hc : w.cell? p = some (.int .i64 n)) : (callFunc 48 #[.pointer (some p)]).run Sq.prog w = .ok (.value (.int .i64 n)) w := by
  rw [ext_run (sq_fun 48 _ Try.func48 (by kernel_rfl)) (by decide) rfl (by kernel_rfl) (show _ = some (Extern.Atomic.loadT (.int .i64)) by kernel_rfl), Sem.run_bind, load_run_at hc]
  rfl
@[simp] theorem ext78 {n : Int} {p : Addr} {w : World} (hc : w.cell? p = some (.int .u32 n)) : (callFunc 78 #[.pointer (some p)]).run Sq.prog w = .ok (.value (.int .u32 n)) w := by
  rw [ext_run (sq_fun 78 _ Try.func78 (by kernel_rfl)) (by decide) rfl (by kernel_rfl) (show _ = some (Extern.Atomic.loadT (.int .u32)) by kernel_rfl), Sem.run_bind, load_run_at hc]
  rfl
@[simp] theorem ext59 {n : Int} {p : Addr} {w : World} {u : Value} (hc : w.cell? p = some u) (hz : w.frozen? p = false) : (callFunc 59 #[.pointer (some p), .int .i64 n]).run Sq.prog w = .ok (.value (.tuple #[])) (w.setCell p (.int .i64 n)) := by
  rw [ext_run (sq_fun 59 _ Try.func59 (by kernel_rfl)) (by decide) rfl (by kernel_rfl) (show _ = some Extern.Atomic.storeT by kernel_rfl), Sem.run_bind, store_run_at hc hz]
  rfl
@[simp] theorem ext91 {n : Int} {p : Addr} {w : World} {u : Value} (hc : w.cell? p = some u) (hz : w.frozen? p = false) : (callFunc 91 #[.pointer (some p), .int .u32 n]).run Sq.prog w = .ok (.value (.tuple #[])) (w.setCell p (.int .u32 n)) := by
  rw [ext_run (sq_fun 91 _ Try.func91 (by kernel_rfl)) (by decide) rfl (by kernel_rfl) (show _ = some Extern.Atomic.storeT by kernel_rfl), Sem.run_bind, store_run_at hc hz]
  rfl
@[simp] theorem ext93 {v d : Int} {p : Addr} {w : World} (hc : w.cell? p = some (.int .i64 v)) (hz : w.frozen? p = false) : (callFunc 93 #[.pointer (some p), .int .i64 d]).run Sq.prog w = .ok (.value (.int .i64 (IntKind.i64.wrap (v + d)))) (w.setCell p (.int .i64 (IntKind.i64.wrap (v + d)))) := by
  rw [ext_run (sq_fun 93 _ Try.func93 (by kernel_rfl)) (by decide) rfl (by kernel_rfl) (show _ = some (Extern.Atomic.update (Op.intArith .add) .i64 true) by kernel_rfl), Sem.run_bind, run_add_entry hc hz]
  rfl
set_option maxHeartbeats 400000 in
theorem truth_any (b : Bool) (w : World) : Calls Sq.prog 96 #[.bool b] w fun e w' => e = .returned (.int .i64 (if b then 1 else 0)) ∧ w' = w := by
  cases b
  · go_enter Sq.func96, Sq.ntmps96
    go_wp2
    go_ret
    simp
  · go_enter Sq.func96, Sq.ntmps96
    go_wp2
    go_ret
    simp
/-- What modulo gives. -/
def mdl (n m : Int) : Int := (wrap64 (n.tmod m + m)).tmod m
set_option maxHeartbeats 400000 in
theorem modulo_any (n m : Int) (w : World) (hm : 0 < m) : Calls Sq.prog 95 #[.int .i64 n, .int .i64 m] w fun e w' => e = .returned (.int .i64 (mdl n m)) ∧ w' = w := by
  go_enter Sq.func95, Sq.ntmps95
  go_wp2
  go_ret
  exact ⟨rfl, rfl⟩
set_option maxRecDepth 100000 in
set_option maxHeartbeats 400000 in
theorem aload_any (p : Addr) (n : Int) (w : World) (hc : w.cell? p = some (.int .i64 n)) : Calls Sq.prog 28 #[.pointer (some p)] w fun e w' => e = .returned (.int .i64 n) ∧ w' = w := by
  go_enter Sq.func28, Sq.ntmps28
  go_wp2
  go_ret
  exact ⟨rfl, rfl⟩
set_option maxRecDepth 100000 in
set_option maxHeartbeats 400000 in
theorem astore_any (p : Addr) (n : Int) (u : Value) (w : World) (hc : w.cell? p = some u) (hz : w.frozen? p = false) : Calls Sq.prog 42 #[.pointer (some p), .int .i64 n] w fun e w' => e = .returned (.tuple #[]) ∧ w' = w.setCell p (.int .i64 n) := by
  go_enter Sq.func42, Sq.ntmps42
  go_wp2
  exact bodyPost_end (by simp [results, Sq.f42]) rfl ⟨rfl, rfl⟩
set_option maxRecDepth 100000 in
set_option maxHeartbeats 400000 in
theorem aadd_any (p : Addr) (n d : Int) (w : World) (hc : w.cell? p = some (.int .i64 n)) (hz : w.frozen? p = false) : Calls Sq.prog 87 #[.pointer (some p), .int .i64 d] w fun e w' => e = .returned (.int .i64 (wrap64 (n + d))) ∧ w' = w.setCell p (.int .i64 (wrap64 (n + d))) := by
  go_enter Sq.func87, Sq.ntmps87
  go_wp2
  go_ret
  exact ⟨rfl, rfl⟩
end Go.Proofs.Ytdlnlcjmjgbikaa
