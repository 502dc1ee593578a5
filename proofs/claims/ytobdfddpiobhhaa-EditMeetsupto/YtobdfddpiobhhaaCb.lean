/- A step is parted. -/
import Derived.Test.YtobdfddpiobhhaaPb
namespace Go.Proofs.Ytobdfddpiobhhaa
open Go.RowKit
open EM
set_option maxRecDepth 100000 in
set_option maxHeartbeats 4000000 in
theorem cut_put (t : By) (n : Nat) (w : World) (hn : n ≤ t.length) (ht : t.length ≤ 1099511627776) :
    Calls Try.prog 28 #[stV (.put t), .int .i64 n] w fun e w' => e = .returned (.tuple #[stV ((St.put t).hd n), stV ((St.put t).tl n)]) ∧ Below w.heap.size w w' := by
  show Calls Try.prog 28 #[.agg #[.int .i64 1, .int .i64 t.length, .string (ba t)], .int .i64 n] w _
  have hs := ba_size t
  have y1 : (t.length : Int) ≤ 1099511627776 := by omega
  have y2 : (n : Int) ≤ (t.length : Int) := by omega
  have y3 : (0 : Int) ≤ (n : Int) := by omega
  go_enter Try.func28, Try.ntmps28
  go_wp2_with fail
  go_region
  all_goals go_wp2_with fail
  all_goals go_region
  all_goals go_wp2_with fail
  all_goals go_region
  all_goals go_wp2_with fail
  all_goals go_region
  all_goals go_wp2_with fail
  all_goals refine bodyPost_ret (v := .tuple #[.agg #[.int .i64 1, .int .i64 n, .string ((ba t).extract 0 n)], .agg #[.int .i64 1, .int .i64 ((t.length : Int) - (n : Int)), .string ((ba t).extract n t.length)]]) (by simp [results, Try.results28, go_sem]) rfl ⟨?_, by go_grown⟩
  all_goals
    have e1 : (ba t).extract 0 n = ba (t.take n) := bs_inj (by rw [bs_take, bs_ba, bs_ba])
    have e2 : (ba t).extract n t.length = ba (t.drop n) := by
      have := bs_drop (ba t) n
      rw [ba_size, bs_ba] at this
      exact bs_inj (by rw [this, bs_ba])
    have e3 : (t.take n).length = n := by rw [List.length_take]; omega
    have e4 : ((t.drop n).length : Int) = (t.length : Int) - (n : Int) := by rw [List.length_drop]; omega
    rw [e1, e2]
    simp only [St.hd, St.tl, stV, St.k, St.c, St.s, e3, e4]
    rfl
set_option maxRecDepth 100000 in
set_option maxHeartbeats 4000000 in
theorem cut_stay (k n m : Nat) (w : World) (hk : ¬ k = 1) (hn : n ≤ m) (ht : m ≤ 1099511627776) :
    Calls Try.prog 28 #[.agg #[.int .i64 k, .int .i64 m, .string (ba [])], .int .i64 n] w fun e w' => e = .returned (.tuple #[.agg #[.int .i64 k, .int .i64 n, .string (ba [])], .agg #[.int .i64 k, .int .i64 ((m - n : Nat) : Int), .string (ba [])]]) ∧ Below w.heap.size w w' := by
  have y1 : (m : Int) ≤ 1099511627776 := by omega
  have y2 : (n : Int) ≤ (m : Int) := by omega
  have y3 : ((k : Int) == 1) = false := by simp only [beq_eq_false_iff_ne, ne_eq]; omega
  have y4 : ¬ (k : Int) = 1 := by omega
  go_enter Try.func28, Try.ntmps28
  go_wp2_with fail
  go_region
  all_goals go_wp2_with fail
  all_goals go_region
  all_goals go_wp2_with fail
  all_goals go_region
  all_goals go_wp2_with fail
  all_goals refine bodyPost_ret (v := .tuple #[.agg #[.int .i64 k, .int .i64 n, .string (ba [])], .agg #[.int .i64 k, .int .i64 ((m : Int) - (n : Int)), .string (ba [])]]) (by simp [results, Try.results28, go_sem]) rfl ⟨by rw [show ((m - n : Nat) : Int) = (m : Int) - (n : Int) by omega], by go_grown⟩
theorem cut_any (s : St) (n : Nat) (w : World) (hn : n ≤ s.c) (ht : s.c ≤ 1099511627776) :
    Calls Try.prog 28 #[stV s, .int .i64 n] w fun e w' => e = .returned (.tuple #[stV (s.hd n), stV (s.tl n)]) ∧ Below w.heap.size w w' := by
  cases s with
  | stay m => exact cut_stay 0 n m w (by omega) hn ht
  | put t => exact cut_put t n w hn ht
  | drop m => exact cut_stay 2 n m w (by omega) hn ht
end Go.Proofs.Ytobdfddpiobhhaa
