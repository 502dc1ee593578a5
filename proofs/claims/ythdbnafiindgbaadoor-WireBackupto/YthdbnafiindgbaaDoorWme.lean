/- The program's printer: whether a value's own fields are sound. -/
import Derived.Test.YthdbnafiindgbaaDoorWk0
import Derived.Test.YthdbnafiindgbaaDoorWjb
import Derived.Deep.CutBlock
import Derived.Deep.DeepCutAuto
namespace Go.Proofs.YthdbnafiindgbaaDoor
open Go.RowKit
open Wi

/-- Has a value what its kind has, and nothing else? By the lengths of its rows. -/
def sndB (k n : Int) (te : Bool) (kl rl : Nat) : Bool :=
  if k = 0 then n == 0 && te && kl == 0 && rl == 0
  else if k = 1 then (n == 0 || n == 1) && te && kl == 0 && rl == 0
  else if k = 2 then decide (n ≤ 999999999999999999) && decide (-999999999999999999 ≤ n) && te && kl == 0 && rl == 0
  else if k = 3 then n == 0 && kl == 0 && rl == 0
  else if k = 4 then n == 0 && te && kl == 0
  else if k = 5 then n == 0 && te && kl == rl
  else false
theorem sndB_own (k n : Int) (t : List UInt8) (ks : List (List UInt8)) (m : Nat) : sndB k n (ba t).toList.isEmpty ks.length m = ownOk k n t ks m := by
  have h1 : (ba t).toList.isEmpty = (t == []) := by rw [Lib.toList_data]; cases t <;> rfl
  have h2 : (ks.length == 0) = (ks == []) := by cases ks <;> rfl
  unfold sndB ownOk
  rw [h1, h2]
theorem eqN0 (a : Nat) : ((a : Int) == 0) = (a == 0) := by rw [Bool.eq_iff_iff]; simp
theorem eqNN (a b : Nat) : ((a : Int) == (b : Int)) = (a == b) := by rw [Bool.eq_iff_iff]; simp; omega
theorem ret_bw {a b : Bool} (h : a = b) : Ending.returned (.bool a) = .returned (.bool b) := by rw [h]
set_option maxRecDepth 100000 in
set_option maxHeartbeats 4000000 in
theorem sound0 (n : Int) (t : ByteArray) (ka ra : Option Addr) (kl kc rl rc : Nat) (w : World) :
    Calls Tryd.prog 30 #[.agg #[.int .i64 0, .int .i64 n, .string t, .slice ka kl kc, .slice ra rl rc]] w fun e w' => e = .returned (.bool (sndB 0 n t.toList.isEmpty kl rl)) ∧ Below w.heap.size w w' := by
  have hbx := heap_alloc_new w (.cells #[.int .i64 0, .int .i64 n, .string t, .slice ka kl kc, .slice ra rl rc] 25)
  have HK : Hid (Below w.heap.size w (w.alloc (.cells #[.int .i64 0, .int .i64 n, .string t, .slice ka kl kc, .slice ra rl rc] 25))) := (Below.refl _ w).alloc (Nat.le_refl _) _
  obtain ⟨r, hr⟩ : ∃ r, sndB 0 n t.toList.isEmpty kl rl = r := ⟨_, rfl⟩
  have HR := hide hr
  rw [hr]
  clear hr
  go_enter Tryd.func30, Tryd.ntmps30
  go_upto_region 1 with fail
  generalize w.alloc (.cells #[.int .i64 0, .int .i64 n, .string t, .slice ka kl kc, .slice ra rl rc] 25) = w1 at *
  generalize hB : w.heap.size = B at *
  have b0 : w1.cell? ⟨B, 0, none⟩ = some (.int .i64 0) := cell_of_row w1 _ 0 _ _ _ hbx
  have b1 : w1.cell? ⟨B, 1, none⟩ = some (.int .i64 n) := cell_of_row w1 _ 1 _ _ _ hbx
  have b2 : w1.cell? ⟨B, 2, none⟩ = some (.string t) := cell_of_row w1 _ 2 _ _ _ hbx
  have b3 : w1.cell? ⟨B, 3, none⟩ = some (.slice ka kl kc) := cell_of_row w1 _ 3 _ _ _ hbx
  have b4 : w1.cell? ⟨B, 4, none⟩ = some (.slice ra rl rc) := cell_of_row w1 _ 4 _ _ _ hbx
  clear hbx
  go_quiet (fail)
  go_wp2_with fail
  all_goals
    go_ret
    refine ⟨ret_bw ?_, by first | exact belowN HK.out _ | (rw [hB]; exact belowN HK.out _)⟩
    have hr := HR.out
    clear HR HK b0 b1 b2 b3 b4 hB
    rw [← hr]
    clear hr
    first | rfl | (simp_all [sndB]; done) | (simp_all [sndB, eqN0]; done)
set_option maxRecDepth 100000 in
set_option maxHeartbeats 4000000 in
theorem sound1 (n : Int) (t : ByteArray) (ka ra : Option Addr) (kl kc rl rc : Nat) (w : World) :
    Calls Tryd.prog 30 #[.agg #[.int .i64 1, .int .i64 n, .string t, .slice ka kl kc, .slice ra rl rc]] w fun e w' => e = .returned (.bool (sndB 1 n t.toList.isEmpty kl rl)) ∧ Below w.heap.size w w' := by
  have hbx := heap_alloc_new w (.cells #[.int .i64 1, .int .i64 n, .string t, .slice ka kl kc, .slice ra rl rc] 25)
  have HK : Hid (Below w.heap.size w (w.alloc (.cells #[.int .i64 1, .int .i64 n, .string t, .slice ka kl kc, .slice ra rl rc] 25))) := (Below.refl _ w).alloc (Nat.le_refl _) _
  obtain ⟨r, hr⟩ : ∃ r, sndB 1 n t.toList.isEmpty kl rl = r := ⟨_, rfl⟩
  have HR := hide hr
  rw [hr]
  clear hr
  go_enter Tryd.func30, Tryd.ntmps30
  go_upto_region 1 with fail
  generalize w.alloc (.cells #[.int .i64 1, .int .i64 n, .string t, .slice ka kl kc, .slice ra rl rc] 25) = w1 at *
  generalize hB : w.heap.size = B at *
  have b0 : w1.cell? ⟨B, 0, none⟩ = some (.int .i64 1) := cell_of_row w1 _ 0 _ _ _ hbx
  have b1 : w1.cell? ⟨B, 1, none⟩ = some (.int .i64 n) := cell_of_row w1 _ 1 _ _ _ hbx
  have b2 : w1.cell? ⟨B, 2, none⟩ = some (.string t) := cell_of_row w1 _ 2 _ _ _ hbx
  have b3 : w1.cell? ⟨B, 3, none⟩ = some (.slice ka kl kc) := cell_of_row w1 _ 3 _ _ _ hbx
  have b4 : w1.cell? ⟨B, 4, none⟩ = some (.slice ra rl rc) := cell_of_row w1 _ 4 _ _ _ hbx
  clear hbx
  go_quiet (fail)
  go_wp2_with fail
  all_goals
    go_ret
    refine ⟨ret_bw ?_, by first | exact belowN HK.out _ | (rw [hB]; exact belowN HK.out _)⟩
    have hr := HR.out
    clear HR HK b0 b1 b2 b3 b4 hB
    rw [← hr]
    clear hr
    first | rfl | (simp_all [sndB]; done) | (simp_all [sndB, eqN0]; done)
set_option maxRecDepth 100000 in
set_option maxHeartbeats 4000000 in
theorem sound2 (n : Int) (t : ByteArray) (ka ra : Option Addr) (kl kc rl rc : Nat) (w : World) :
    Calls Tryd.prog 30 #[.agg #[.int .i64 2, .int .i64 n, .string t, .slice ka kl kc, .slice ra rl rc]] w fun e w' => e = .returned (.bool (sndB 2 n t.toList.isEmpty kl rl)) ∧ Below w.heap.size w w' := by
  have hbx := heap_alloc_new w (.cells #[.int .i64 2, .int .i64 n, .string t, .slice ka kl kc, .slice ra rl rc] 25)
  have HK : Hid (Below w.heap.size w (w.alloc (.cells #[.int .i64 2, .int .i64 n, .string t, .slice ka kl kc, .slice ra rl rc] 25))) := (Below.refl _ w).alloc (Nat.le_refl _) _
  obtain ⟨r, hr⟩ : ∃ r, sndB 2 n t.toList.isEmpty kl rl = r := ⟨_, rfl⟩
  have HR := hide hr
  rw [hr]
  clear hr
  go_enter Tryd.func30, Tryd.ntmps30
  go_upto_region 1 with fail
  generalize w.alloc (.cells #[.int .i64 2, .int .i64 n, .string t, .slice ka kl kc, .slice ra rl rc] 25) = w1 at *
  generalize hB : w.heap.size = B at *
  have b0 : w1.cell? ⟨B, 0, none⟩ = some (.int .i64 2) := cell_of_row w1 _ 0 _ _ _ hbx
  have b1 : w1.cell? ⟨B, 1, none⟩ = some (.int .i64 n) := cell_of_row w1 _ 1 _ _ _ hbx
  have b2 : w1.cell? ⟨B, 2, none⟩ = some (.string t) := cell_of_row w1 _ 2 _ _ _ hbx
  have b3 : w1.cell? ⟨B, 3, none⟩ = some (.slice ka kl kc) := cell_of_row w1 _ 3 _ _ _ hbx
  have b4 : w1.cell? ⟨B, 4, none⟩ = some (.slice ra rl rc) := cell_of_row w1 _ 4 _ _ _ hbx
  clear hbx
  go_quiet (fail)
  go_wp2_with fail
  all_goals
    go_ret
    refine ⟨ret_bw ?_, by first | exact belowN HK.out _ | (rw [hB]; exact belowN HK.out _)⟩
    have hr := HR.out
    clear HR HK b0 b1 b2 b3 b4 hB
    rw [← hr]
    clear hr
    first | rfl | (simp_all [sndB]; done) | (simp_all [sndB, eqN0]; done) | (simp_all [sndB]; intros; omega)
set_option maxRecDepth 100000 in
set_option maxHeartbeats 4000000 in
theorem sound3 (n : Int) (t : ByteArray) (ka ra : Option Addr) (kl kc rl rc : Nat) (w : World) :
    Calls Tryd.prog 30 #[.agg #[.int .i64 3, .int .i64 n, .string t, .slice ka kl kc, .slice ra rl rc]] w fun e w' => e = .returned (.bool (sndB 3 n t.toList.isEmpty kl rl)) ∧ Below w.heap.size w w' := by
  have hbx := heap_alloc_new w (.cells #[.int .i64 3, .int .i64 n, .string t, .slice ka kl kc, .slice ra rl rc] 25)
  have HK : Hid (Below w.heap.size w (w.alloc (.cells #[.int .i64 3, .int .i64 n, .string t, .slice ka kl kc, .slice ra rl rc] 25))) := (Below.refl _ w).alloc (Nat.le_refl _) _
  obtain ⟨r, hr⟩ : ∃ r, sndB 3 n t.toList.isEmpty kl rl = r := ⟨_, rfl⟩
  have HR := hide hr
  rw [hr]
  clear hr
  go_enter Tryd.func30, Tryd.ntmps30
  go_upto_region 1 with fail
  generalize w.alloc (.cells #[.int .i64 3, .int .i64 n, .string t, .slice ka kl kc, .slice ra rl rc] 25) = w1 at *
  generalize hB : w.heap.size = B at *
  have b0 : w1.cell? ⟨B, 0, none⟩ = some (.int .i64 3) := cell_of_row w1 _ 0 _ _ _ hbx
  have b1 : w1.cell? ⟨B, 1, none⟩ = some (.int .i64 n) := cell_of_row w1 _ 1 _ _ _ hbx
  have b2 : w1.cell? ⟨B, 2, none⟩ = some (.string t) := cell_of_row w1 _ 2 _ _ _ hbx
  have b3 : w1.cell? ⟨B, 3, none⟩ = some (.slice ka kl kc) := cell_of_row w1 _ 3 _ _ _ hbx
  have b4 : w1.cell? ⟨B, 4, none⟩ = some (.slice ra rl rc) := cell_of_row w1 _ 4 _ _ _ hbx
  clear hbx
  go_quiet (fail)
  go_wp2_with fail
  all_goals
    go_ret
    refine ⟨ret_bw ?_, by first | exact belowN HK.out _ | (rw [hB]; exact belowN HK.out _)⟩
    have hr := HR.out
    clear HR HK b0 b1 b2 b3 b4 hB
    rw [← hr]
    clear hr
    first | rfl | (simp_all [sndB]; done) | (simp_all [sndB, eqN0]; done)
set_option maxRecDepth 100000 in
set_option maxHeartbeats 4000000 in
theorem sound4 (n : Int) (t : ByteArray) (ka ra : Option Addr) (kl kc rl rc : Nat) (w : World) :
    Calls Tryd.prog 30 #[.agg #[.int .i64 4, .int .i64 n, .string t, .slice ka kl kc, .slice ra rl rc]] w fun e w' => e = .returned (.bool (sndB 4 n t.toList.isEmpty kl rl)) ∧ Below w.heap.size w w' := by
  have hbx := heap_alloc_new w (.cells #[.int .i64 4, .int .i64 n, .string t, .slice ka kl kc, .slice ra rl rc] 25)
  have HK : Hid (Below w.heap.size w (w.alloc (.cells #[.int .i64 4, .int .i64 n, .string t, .slice ka kl kc, .slice ra rl rc] 25))) := (Below.refl _ w).alloc (Nat.le_refl _) _
  obtain ⟨r, hr⟩ : ∃ r, sndB 4 n t.toList.isEmpty kl rl = r := ⟨_, rfl⟩
  have HR := hide hr
  rw [hr]
  clear hr
  go_enter Tryd.func30, Tryd.ntmps30
  go_upto_region 1 with fail
  generalize w.alloc (.cells #[.int .i64 4, .int .i64 n, .string t, .slice ka kl kc, .slice ra rl rc] 25) = w1 at *
  generalize hB : w.heap.size = B at *
  have b0 : w1.cell? ⟨B, 0, none⟩ = some (.int .i64 4) := cell_of_row w1 _ 0 _ _ _ hbx
  have b1 : w1.cell? ⟨B, 1, none⟩ = some (.int .i64 n) := cell_of_row w1 _ 1 _ _ _ hbx
  have b2 : w1.cell? ⟨B, 2, none⟩ = some (.string t) := cell_of_row w1 _ 2 _ _ _ hbx
  have b3 : w1.cell? ⟨B, 3, none⟩ = some (.slice ka kl kc) := cell_of_row w1 _ 3 _ _ _ hbx
  have b4 : w1.cell? ⟨B, 4, none⟩ = some (.slice ra rl rc) := cell_of_row w1 _ 4 _ _ _ hbx
  clear hbx
  go_quiet (fail)
  go_wp2_with fail
  all_goals
    go_ret
    refine ⟨ret_bw ?_, by first | exact belowN HK.out _ | (rw [hB]; exact belowN HK.out _)⟩
    have hr := HR.out
    clear HR HK b0 b1 b2 b3 b4 hB
    rw [← hr]
    clear hr
    first | rfl | (simp_all [sndB]; done) | (simp_all [sndB, eqN0]; done)
set_option maxRecDepth 100000 in
set_option maxHeartbeats 4000000 in
theorem sound5 (n : Int) (t : ByteArray) (ka ra : Option Addr) (kl kc rl rc : Nat) (w : World) :
    Calls Tryd.prog 30 #[.agg #[.int .i64 5, .int .i64 n, .string t, .slice ka kl kc, .slice ra rl rc]] w fun e w' => e = .returned (.bool (sndB 5 n t.toList.isEmpty kl rl)) ∧ Below w.heap.size w w' := by
  have hbx := heap_alloc_new w (.cells #[.int .i64 5, .int .i64 n, .string t, .slice ka kl kc, .slice ra rl rc] 25)
  have HK : Hid (Below w.heap.size w (w.alloc (.cells #[.int .i64 5, .int .i64 n, .string t, .slice ka kl kc, .slice ra rl rc] 25))) := (Below.refl _ w).alloc (Nat.le_refl _) _
  obtain ⟨r, hr⟩ : ∃ r, sndB 5 n t.toList.isEmpty kl rl = r := ⟨_, rfl⟩
  have HR := hide hr
  rw [hr]
  clear hr
  go_enter Tryd.func30, Tryd.ntmps30
  go_upto_region 1 with fail
  generalize w.alloc (.cells #[.int .i64 5, .int .i64 n, .string t, .slice ka kl kc, .slice ra rl rc] 25) = w1 at *
  generalize hB : w.heap.size = B at *
  have b0 : w1.cell? ⟨B, 0, none⟩ = some (.int .i64 5) := cell_of_row w1 _ 0 _ _ _ hbx
  have b1 : w1.cell? ⟨B, 1, none⟩ = some (.int .i64 n) := cell_of_row w1 _ 1 _ _ _ hbx
  have b2 : w1.cell? ⟨B, 2, none⟩ = some (.string t) := cell_of_row w1 _ 2 _ _ _ hbx
  have b3 : w1.cell? ⟨B, 3, none⟩ = some (.slice ka kl kc) := cell_of_row w1 _ 3 _ _ _ hbx
  have b4 : w1.cell? ⟨B, 4, none⟩ = some (.slice ra rl rc) := cell_of_row w1 _ 4 _ _ _ hbx
  clear hbx
  go_quiet (fail)
  go_wp2_with fail
  all_goals
    go_ret
    refine ⟨ret_bw ?_, by first | exact belowN HK.out _ | (rw [hB]; exact belowN HK.out _)⟩
    have hr := HR.out
    clear HR HK b0 b1 b2 b3 b4 hB
    rw [← hr]
    clear hr
    first | rfl | (simp_all [sndB]; done) | (simp_all [sndB, eqNN]; done)
set_option maxRecDepth 100000 in
set_option maxHeartbeats 4000000 in
theorem soundX (k : Int) (h0 : (k == 0) = false) (h1 : (k == 1) = false) (h2 : (k == 2) = false) (h3 : (k == 3) = false) (h4 : (k == 4) = false) (h5 : (k == 5) = false) (n : Int) (t : ByteArray) (ka ra : Option Addr) (kl kc rl rc : Nat) (w : World) :
    Calls Tryd.prog 30 #[.agg #[.int .i64 k, .int .i64 n, .string t, .slice ka kl kc, .slice ra rl rc]] w fun e w' => e = .returned (.bool (false)) ∧ Below w.heap.size w w' := by
  have hbx := heap_alloc_new w (.cells #[.int .i64 k, .int .i64 n, .string t, .slice ka kl kc, .slice ra rl rc] 25)
  have HK : Hid (Below w.heap.size w (w.alloc (.cells #[.int .i64 k, .int .i64 n, .string t, .slice ka kl kc, .slice ra rl rc] 25))) := (Below.refl _ w).alloc (Nat.le_refl _) _
  obtain ⟨r, hr⟩ : ∃ r, false = r := ⟨_, rfl⟩
  have HR := hide hr
  rw [hr]
  clear hr
  go_enter Tryd.func30, Tryd.ntmps30
  go_upto_region 1 with fail
  generalize w.alloc (.cells #[.int .i64 k, .int .i64 n, .string t, .slice ka kl kc, .slice ra rl rc] 25) = w1 at *
  generalize hB : w.heap.size = B at *
  have b0 : w1.cell? ⟨B, 0, none⟩ = some (.int .i64 k) := cell_of_row w1 _ 0 _ _ _ hbx
  have b1 : w1.cell? ⟨B, 1, none⟩ = some (.int .i64 n) := cell_of_row w1 _ 1 _ _ _ hbx
  have b2 : w1.cell? ⟨B, 2, none⟩ = some (.string t) := cell_of_row w1 _ 2 _ _ _ hbx
  have b3 : w1.cell? ⟨B, 3, none⟩ = some (.slice ka kl kc) := cell_of_row w1 _ 3 _ _ _ hbx
  have b4 : w1.cell? ⟨B, 4, none⟩ = some (.slice ra rl rc) := cell_of_row w1 _ 4 _ _ _ hbx
  clear hbx
  go_quiet (fail)
  go_wp2_with fail
  all_goals
    go_ret
    refine ⟨ret_bw ?_, by first | exact belowN HK.out _ | (rw [hB]; exact belowN HK.out _)⟩
    have hr := HR.out
    clear HR HK b0 b1 b2 b3 b4 hB
    exact hr
/-- Are a value's own fields sound? -/
theorem sound_any (k n : Int) (t : List UInt8) (ks : List (List UInt8)) (ka ra : Option Addr) (kc rl rc : Nat) (w : World) :
    Calls Tryd.prog 30 #[.agg #[.int .i64 k, .int .i64 n, .string (ba t), .slice ka ks.length kc, .slice ra rl rc]] w fun e w' => e = .returned (.bool (ownOk k n t ks rl)) ∧ Below w.heap.size w w' := by
  rw [← sndB_own]
  by_cases h0 : k = 0
  · subst h0; exact sound0 n _ ka ra _ kc rl rc w
  by_cases h1 : k = 1
  · subst h1; exact sound1 n _ ka ra _ kc rl rc w
  by_cases h2 : k = 2
  · subst h2; exact sound2 n _ ka ra _ kc rl rc w
  by_cases h3 : k = 3
  · subst h3; exact sound3 n _ ka ra _ kc rl rc w
  by_cases h4 : k = 4
  · subst h4; exact sound4 n _ ka ra _ kc rl rc w
  by_cases h5 : k = 5
  · subst h5; exact sound5 n _ ka ra _ kc rl rc w
  have e : sndB k n (ba t).toList.isEmpty ks.length rl = false := by
    unfold sndB; rw [if_neg h0, if_neg h1, if_neg h2, if_neg h3, if_neg h4, if_neg h5]
  rw [e]
  exact soundX k (by simpa using h0) (by simpa using h1) (by simpa using h2) (by simpa using h3) (by simpa using h4) (by simpa using h5) n _ ka ra _ kc rl rc w
end Go.Proofs.YthdbnafiindgbaaDoor
