/- sync.Once and the small functions of a cell. -/
import Derived.Test.YtdlnlcjmjgbikaaTc
import Derived.Defers
import Derived.Deep.RegionWith
namespace Go.Proofs.Ytdlnlcjmjgbikaa
open Go Go.Conc Go.RowKit

noncomputable section
set_option maxRecDepth 100000 in
set_option maxHeartbeats 400000 in
theorem picked_any (b o : Nat) (n x y : Int) (w : World) (hb : w.cell? ⟨b, o + 2, none⟩ = some (.int .i64 x)) (hc : w.cell? ⟨b, o + 3, none⟩ = some (.int .i64 y)) :
    Calls Sq.prog 94 #[.pointer (some ⟨b, o, none⟩), .int .i64 n] w fun e w' => e = .returned (.int .i64 (if n = 0 then y else x)) ∧ w' = w := by
  by_cases hn : n = 0
  · subst hn
    go_enter Sq.func94, Sq.ntmps94
    go_wp2
    go_ret
    simp
  · rw [if_neg hn]
    have hn2 : (n != 0) = true := by simpa using hn
    go_enter Sq.func94, Sq.ntmps94
    go_wp2_with fail
    all_goals first | (go_ret; simp; done) | (exfalso; simp_all; done)
set_option maxRecDepth 100000 in
set_option maxHeartbeats 400000 in
theorem bload_any (p : Addr) (n : Int) (w : World) (hc : w.cell? p = some (.int .u32 n)) : Calls Sq.prog 49 #[.pointer (some p)] w fun e w' => e = .returned (.bool (n != 0)) ∧ w' = w := by
  go_enter Sq.func49, Sq.ntmps49
  go_wp2_with fail
  go_ret
  exact ⟨rfl, rfl⟩
set_option maxRecDepth 100000 in
set_option maxHeartbeats 400000 in
theorem b32_any (b : Bool) (w : World) : Calls Sq.prog 92 #[.bool b] w fun e w' => e = .returned (.int .u32 (if b then 1 else 0)) ∧ w' = w := by
  cases b
  · go_enter Sq.func92, Sq.ntmps92
    go_wp2
    go_ret
    simp
  · go_enter Sq.func92, Sq.ntmps92
    go_wp2
    go_ret
    simp
set_option maxRecDepth 100000 in
set_option maxHeartbeats 400000 in
theorem bstore_d (p : Addr) (u : Value) (m : FrameMode) (w : World) (hc : w.cell? p = some u) (hz : w.frozen? p = false) : CallsD Sq.prog 79 #[.pointer (some p), .bool true] m w fun e m' w' => m' = m ∧ (e = .returned (.tuple #[]) ∧ w' = (w.setCell p (.int .u32 1)).drew) := by
  go_enter_d Sq.func79, Sq.ntmps79
  go_wp2
  go_region_with (go_at_call 92; refine (b32_any _ _).mono ?_; rintro e w' ⟨rfl, rfl⟩)
  exact bodyPost_end (by simp [results, Sq.f79]) rfl ⟨rfl, rfl⟩
set_option maxRecDepth 100000 in
set_option maxHeartbeats 400000 in
theorem qunlock_d (p : Addr) (m : FrameMode) (w : World) (hc : w.cell? p = some (.int .i32 1)) (hz : w.frozen? p = false) : CallsD Sq.prog 15 #[.pointer (some p)] m w fun e m' w' => m' = m ∧ (e = .returned (.tuple #[]) ∧ w' = w.setCell p (.int .i32 0)) := by
  go_enter_d Sq.func15, Sq.ntmps15
  go_wp2
  exact bodyPost_end (by simp [results, Sq.f15, Try.f15]) rfl ⟨rfl, rfl⟩
set_option maxRecDepth 100000 in
set_option maxHeartbeats 1000000 in
/-- Once, slowly: f is run. -/
theorem doSlow_any (b o g : Nat) (x : Value) (w : World) (K : World → Prop) (h0 : w.cell? ⟨b, o, none⟩ = some (.int .u32 0)) (h1 : w.cell? ⟨b, o + 1, none⟩ = some (.int .i32 0)) (z1 : w.frozen? ⟨b, o + 1, none⟩ = false)
    (hg : ∀ args w, (callFunc g args).run Sq.prog w = .ok (.enter g args) w)
    (hf : Calls Sq.prog g #[x] (w.setCell ⟨b, o + 1, none⟩ (.int .i32 1)) fun e w1 => e = .returned (.tuple #[]) ∧ w1.cell? ⟨b, o, none⟩ = some (.int .u32 0) ∧ w1.frozen? ⟨b, o, none⟩ = false ∧ w1.cell? ⟨b, o + 1, none⟩ = some (.int .i32 1) ∧ w1.frozen? ⟨b, o + 1, none⟩ = false ∧ K (((w1.setCell ⟨b, o, none⟩ (.int .u32 1)).drew).setCell ⟨b, o + 1, none⟩ (.int .i32 0))) :
    Calls Sq.prog 50 #[.pointer (some ⟨b, o, none⟩), .func (.func g) #[x] #[]] w fun e w' => e = .returned (.tuple #[]) ∧ K w' := by
  have hne : (⟨b, o + 1, none⟩ : Addr) ≠ ⟨b, o, none⟩ := fun e => by have := congrArg Addr.off e; simp at this
  have h0' : (w.setCell ⟨b, o + 1, none⟩ (.int .i32 1)).cell? ⟨b, o, none⟩ = some (.int .u32 0) := by rw [World.cell?_setCell_other (h := hne)]; exact h0
  go_enter_defers Sq.func50, Sq.ntmps50
  go_wp2_with fail
  refine (qlock_any ⟨b, o + 1, none⟩ w h1 z1).mono ?_
  rintro e w1 ⟨rfl, rfl⟩
  go_wp2_with fail
  refine (bload_any ⟨b, o, none⟩ 0 _ h0').mono ?_
  rintro e w1 ⟨rfl, rfl⟩
  go_wp2_with fail
  refine hf.mono ?_
  rintro e w1 ⟨rfl, c0, z0, c1, z2, hK⟩
  go_wp2_with fail
  refine leaves_cons (f := 79) (args := #[.pointer (some ⟨b, o, none⟩), .bool true]) (by simp) (by simp [invoke]) ?_
  refine (bstore_d ⟨b, o, none⟩ _ .returning w1 c0 z0).mono ?_
  rintro e u' w2 ⟨rfl, rfl, rfl⟩
  refine leaves_cons (f := 15) (args := #[.pointer (some ⟨b, o + 1, none⟩)]) (by simp [settle]) (by simp [invoke]) ?_
  refine (qunlock_d ⟨b, o + 1, none⟩ _ _ ?_ ?_).mono ?_
  · show (w1.setCell ⟨b, o, none⟩ (.int .u32 1)).cell? ⟨b, o + 1, none⟩ = _
    rw [World.cell?_setCell_other (h := hne.symm)]
    exact c1
  · show (w1.setCell ⟨b, o, none⟩ (.int .u32 1)).frozen? ⟨b, o + 1, none⟩ = _
    simp [z2]
  · rintro e u' w3 ⟨rfl, rfl, rfl⟩
    exact ⟨_, by simp [results, Sq.f50], rfl, hK⟩
end
end Go.Proofs.Ytdlnlcjmjgbikaa
/- What a rule looks at. -/
namespace Go.Proofs.Ytdlnlcjmjgbikaa
open Go Go.Conc Go.RowKit

noncomputable section
set_option maxRecDepth 100000 in
set_option maxHeartbeats 1000000 in
theorem do_done (b o : Nat) (f : Value) (w : World) (h0 : w.cell? ⟨b, o, none⟩ = some (.int .u32 1)) : Calls Sq.prog 30 #[.pointer (some ⟨b, o, none⟩), f] w fun e w' => e = .returned (.tuple #[]) ∧ w' = w := by
  go_enter Sq.func30, Sq.ntmps30
  go_wp2_with fail
  refine (bload_any ⟨b, o, none⟩ 1 _ h0).mono ?_
  rintro e w1 ⟨rfl, rfl⟩
  go_wp2_with fail
  exact bodyPost_end (by simp [results, Sq.f30]) rfl ⟨rfl, rfl⟩
set_option maxRecDepth 100000 in
set_option maxHeartbeats 1000000 in
theorem do_new (b o g : Nat) (x : Value) (w : World) (K : World → Prop) (h0 : w.cell? ⟨b, o, none⟩ = some (.int .u32 0))
    (hs : Calls Sq.prog 50 #[.pointer (some ⟨b, o, none⟩), .func (.func g) #[x] #[]] w fun e w' => e = .returned (.tuple #[]) ∧ K w') :
    Calls Sq.prog 30 #[.pointer (some ⟨b, o, none⟩), .func (.func g) #[x] #[]] w fun e w' => e = .returned (.tuple #[]) ∧ K w' := by
  go_enter Sq.func30, Sq.ntmps30
  go_wp2_with fail
  refine (bload_any ⟨b, o, none⟩ 0 _ h0).mono ?_
  rintro e w1 ⟨rfl, rfl⟩
  go_wp2_with fail
  refine hs.mono ?_
  rintro e w1 ⟨rfl, hK⟩
  go_wp2_with fail
  exact bodyPost_end (by simp [results, Sq.f30]) rfl ⟨rfl, hK⟩
set_option maxRecDepth 100000 in
set_option maxHeartbeats 1000000 in
theorem look_add (b o : Nat) (x y : Int) (u : Value) (w : World) (h0 : w.cell? ⟨b, o, none⟩ = some (.int .i64 1)) (h1 : w.cell? ⟨b, o + 1, none⟩ = some (.int .i64 x)) (h2 : w.cell? ⟨b, o + 2, none⟩ = some (.int .i64 y)) (h7 : w.cell? ⟨b, o + 7, none⟩ = some u) (f7 : w.frozen? ⟨b, o + 7, none⟩ = false) (hb : b < w.heap.size) :
    Calls Sq.prog 31 #[.pointer (some ⟨b, o, none⟩)] w fun e w' => e = .returned (.tuple #[]) ∧ w' = ((w.setCell ⟨b, o + 7, none⟩ (.slice (some ⟨w.heap.size, 0, none⟩) 2 2)).alloc (.cells #[.int .i64 x, .int .i64 y] 3)).drew := by
  go_enter Sq.func31, Sq.ntmps31
  go_wp2_with fail
  go_region
  go_wp2_with fail
  exact bodyPost_end (by simp [results, Sq.f31]) rfl ⟨rfl, rfl⟩
set_option maxRecDepth 100000 in
set_option maxHeartbeats 1000000 in
theorem look_mul (b o : Nat) (x y : Int) (u : Value) (w : World) (h0 : w.cell? ⟨b, o, none⟩ = some (.int .i64 2)) (h1 : w.cell? ⟨b, o + 1, none⟩ = some (.int .i64 x)) (h2 : w.cell? ⟨b, o + 2, none⟩ = some (.int .i64 y)) (h7 : w.cell? ⟨b, o + 7, none⟩ = some u) (f7 : w.frozen? ⟨b, o + 7, none⟩ = false) (hb : b < w.heap.size) :
    Calls Sq.prog 31 #[.pointer (some ⟨b, o, none⟩)] w fun e w' => e = .returned (.tuple #[]) ∧ w' = ((w.setCell ⟨b, o + 7, none⟩ (.slice (some ⟨w.heap.size, 0, none⟩) 2 2)).alloc (.cells #[.int .i64 x, .int .i64 y] 3)).drew := by
  go_enter Sq.func31, Sq.ntmps31
  go_wp2_with fail
  go_region
  go_wp2_with fail
  exact bodyPost_end (by simp [results, Sq.f31]) rfl ⟨rfl, rfl⟩
set_option maxRecDepth 100000 in
set_option maxHeartbeats 1000000 in
theorem look_less (b o : Nat) (x y : Int) (u : Value) (w : World) (h0 : w.cell? ⟨b, o, none⟩ = some (.int .i64 3)) (h1 : w.cell? ⟨b, o + 1, none⟩ = some (.int .i64 x)) (h2 : w.cell? ⟨b, o + 2, none⟩ = some (.int .i64 y)) (h7 : w.cell? ⟨b, o + 7, none⟩ = some u) (f7 : w.frozen? ⟨b, o + 7, none⟩ = false) (hb : b < w.heap.size) :
    Calls Sq.prog 31 #[.pointer (some ⟨b, o, none⟩)] w fun e w' => e = .returned (.tuple #[]) ∧ w' = ((w.setCell ⟨b, o + 7, none⟩ (.slice (some ⟨w.heap.size, 0, none⟩) 2 2)).alloc (.cells #[.int .i64 x, .int .i64 y] 3)).drew := by
  go_enter Sq.func31, Sq.ntmps31
  go_wp2_with fail
  go_region
  go_wp2_with fail
  exact bodyPost_end (by simp [results, Sq.f31]) rfl ⟨rfl, rfl⟩
set_option maxRecDepth 100000 in
set_option maxHeartbeats 1000000 in
theorem look_pick (b o : Nat) (x y z : Int) (u : Value) (w : World) (h0 : w.cell? ⟨b, o, none⟩ = some (.int .i64 4)) (h1 : w.cell? ⟨b, o + 1, none⟩ = some (.int .i64 x)) (h2 : w.cell? ⟨b, o + 2, none⟩ = some (.int .i64 y)) (h3 : w.cell? ⟨b, o + 3, none⟩ = some (.int .i64 z)) (h7 : w.cell? ⟨b, o + 7, none⟩ = some u) (f7 : w.frozen? ⟨b, o + 7, none⟩ = false) (hb : b < w.heap.size) :
    Calls Sq.prog 31 #[.pointer (some ⟨b, o, none⟩)] w fun e w' => e = .returned (.tuple #[]) ∧ w' = ((w.setCell ⟨b, o + 7, none⟩ (.slice (some ⟨w.heap.size, 0, none⟩) 3 3)).alloc (.cells #[.int .i64 x, .int .i64 y, .int .i64 z] 3)).drew := by
  go_enter Sq.func31, Sq.ntmps31
  go_wp2_with fail
  go_region
  go_wp2_with fail
  exact bodyPost_end (by simp [results, Sq.f31]) rfl ⟨rfl, rfl⟩
set_option maxRecDepth 100000 in
set_option maxHeartbeats 1000000 in
theorem look_low (b o : Nat) (x : Int) (u : Value) (w : World) (h0 : w.cell? ⟨b, o, none⟩ = some (.int .i64 5)) (h1 : w.cell? ⟨b, o + 1, none⟩ = some (.int .i64 x)) (h7 : w.cell? ⟨b, o + 7, none⟩ = some u) (f7 : w.frozen? ⟨b, o + 7, none⟩ = false) (hb : b < w.heap.size) :
    Calls Sq.prog 31 #[.pointer (some ⟨b, o, none⟩)] w fun e w' => e = .returned (.tuple #[]) ∧ w' = (w.setCell ⟨b, o + 7, none⟩ (.slice (some ⟨w.heap.size, 0, none⟩) 1 1)).alloc (.cells #[.int .i64 x] 3) := by
  go_enter Sq.func31, Sq.ntmps31
  go_wp2_with fail
  exact bodyPost_end (by simp [results, Sq.f31]) rfl ⟨rfl, rfl⟩
set_option maxRecDepth 100000 in
set_option maxHeartbeats 1000000 in
theorem look_input (b o : Nat) (w : World) (h0 : w.cell? ⟨b, o, none⟩ = some (.int .i64 0)) : Calls Sq.prog 31 #[.pointer (some ⟨b, o, none⟩)] w fun e w' => e = .returned (.tuple #[]) ∧ w' = w := by
  go_enter Sq.func31, Sq.ntmps31
  go_wp2_with fail
  go_wp2_with fail
  exact bodyPost_end (by simp [results, Sq.f31]) rfl ⟨rfl, rfl⟩
end
end Go.Proofs.Ytdlnlcjmjgbikaa
/- looksAt. -/
namespace Go.Proofs.Ytdlnlcjmjgbikaa
open Go Go.Conc Go.RowKit

noncomputable section
set_option maxRecDepth 100000 in
set_option maxHeartbeats 1000000 in
/-- The rule has been looked at. -/
theorem looksAt_done (b o : Nat) (v : Value) (w : World) (h4 : w.cell? ⟨b, o + 4, none⟩ = some (.int .u32 1)) (h7 : w.cell? ⟨b, o + 7, none⟩ = some v) :
    Calls Sq.prog 22 #[.pointer (some ⟨b, o, none⟩)] w fun e w' => e = .returned v ∧ w' = w := by
  go_enter Sq.func22, Sq.ntmps22
  go_wp2_with fail
  refine (do_done b (o + 4) _ _ h4).mono ?_
  rintro e w1 ⟨rfl, rfl⟩
  go_wp2_with fail
  go_ret
  exact ⟨rfl, rfl⟩
set_option maxRecDepth 100000 in
set_option maxHeartbeats 1000000 in
/-- It has not: Once does it. -/
theorem looksAt_new (b o : Nat) (w : World) (K : Value → World → Prop) (h4 : w.cell? ⟨b, o + 4, none⟩ = some (.int .u32 0))
    (hs : Calls Sq.prog 50 #[.pointer (some ⟨b, o + 4, none⟩), .func (.func 31) #[.pointer (some ⟨b, o, none⟩)] #[]] w fun e w' => e = .returned (.tuple #[]) ∧ ∃ v, w'.cell? ⟨b, o + 7, none⟩ = some v ∧ K v w') :
    Calls Sq.prog 22 #[.pointer (some ⟨b, o, none⟩)] w fun e w' => ∃ v, e = .returned v ∧ K v w' := by
  go_enter Sq.func22, Sq.ntmps22
  go_wp2_with fail
  refine (do_new b (o + 4) 31 _ _ _ h4 hs).mono ?_
  rintro e w1 ⟨rfl, v, h7, hK⟩
  go_wp2_with fail
  go_ret
  exact ⟨_, rfl, hK⟩
end
end Go.Proofs.Ytdlnlcjmjgbikaa
/- The next cell that a rule is led to, and what it reckons. -/
namespace Go.Proofs.Ytdlnlcjmjgbikaa
open Go Go.Conc Go.RowKit

noncomputable section
variable {b o n m cap mcap lb lo : Nat} {la : Option Addr} {k x y z : Int} {w : World}
set_option maxRecDepth 100000 in
set_option maxHeartbeats 1000000 in
/-- All that the rule looks at has been looked at. -/
theorem next_end (h0 : w.cell? ⟨b, o, none⟩ = some (.int .i64 k)) (hk : k ≠ 4) (h4 : w.cell? ⟨b, o + 4, none⟩ = some (.int .u32 1)) (h7 : w.cell? ⟨b, o + 7, none⟩ = some (.slice (some ⟨lb, lo, none⟩) n mcap)) :
    Calls Sq.prog 88 #[.pointer (some ⟨b, o, none⟩), .slice la n cap] w fun e w' => e = .returned (.tuple #[.int .i64 0, .bool false]) ∧ w' = w := by
  have hk4 : (k == 4) = false := by simpa using hk
  go_enter Sq.func88, Sq.ntmps88
  go_wp2_with fail
  refine (looksAt_done b o _ _ h4 h7).mono ?_
  rintro e w1 ⟨rfl, rfl⟩
  go_wp2_with fail
  exact bodyPost_ret (results_tmp2 rfl _ _ _) rfl ⟨rfl, rfl⟩
set_option maxRecDepth 100000 in
set_option maxHeartbeats 1000000 in
/-- On to the next cell that the rule looks at. -/
theorem next_more (h0 : w.cell? ⟨b, o, none⟩ = some (.int .i64 k)) (hk : k ≠ 4) (h4 : w.cell? ⟨b, o + 4, none⟩ = some (.int .u32 1)) (h7 : w.cell? ⟨b, o + 7, none⟩ = some (.slice (some ⟨lb, lo, none⟩) m mcap)) (hn : n < m) (hx : w.cell? ⟨lb, lo + n, none⟩ = some (.int .i64 x)) :
    Calls Sq.prog 88 #[.pointer (some ⟨b, o, none⟩), .slice la n cap] w fun e w' => e = .returned (.tuple #[.int .i64 x, .bool true]) ∧ w' = w := by
  have hk4 : (k == 4) = false := by simpa using hk
  have hne : ((n : Int) == (m : Int)) = false := by simp; omega
  go_enter Sq.func88, Sq.ntmps88
  go_wp2_with fail
  refine (looksAt_done b o _ _ h4 h7).mono ?_
  rintro e w1 ⟨rfl, rfl⟩
  go_wp2_with fail
  exact bodyPost_ret (results_tmp2 rfl _ _ _) rfl ⟨rfl, rfl⟩
set_option maxRecDepth 100000 in
set_option maxHeartbeats 1000000 in
/-- A pick's first. -/
theorem next_pick0 (h0 : w.cell? ⟨b, o, none⟩ = some (.int .i64 4)) (h4 : w.cell? ⟨b, o + 4, none⟩ = some (.int .u32 1)) (h7 : w.cell? ⟨b, o + 7, none⟩ = some (.slice (some ⟨lb, lo, none⟩) 3 mcap)) (hx : w.cell? ⟨lb, lo, none⟩ = some (.int .i64 x)) :
    Calls Sq.prog 88 #[.pointer (some ⟨b, o, none⟩), .slice la 0 cap] w fun e w' => e = .returned (.tuple #[.int .i64 x, .bool true]) ∧ w' = w := by
  go_enter Sq.func88, Sq.ntmps88
  go_wp2_with fail
  refine (looksAt_done b o _ _ h4 h7).mono ?_
  rintro e w1 ⟨rfl, rfl⟩
  go_wp2_with fail
  exact bodyPost_ret (results_tmp2 rfl _ _ _) rfl ⟨rfl, rfl⟩
set_option maxRecDepth 100000 in
set_option maxHeartbeats 1000000 in
/-- A pick's way on. -/
theorem next_pick1 {ab ao : Nat} {num : Int} (h0 : w.cell? ⟨b, o, none⟩ = some (.int .i64 4)) (h2 : w.cell? ⟨b, o + 2, none⟩ = some (.int .i64 y)) (h3 : w.cell? ⟨b, o + 3, none⟩ = some (.int .i64 z)) (h4 : w.cell? ⟨b, o + 4, none⟩ = some (.int .u32 1)) (h7 : w.cell? ⟨b, o + 7, none⟩ = some (.slice (some ⟨lb, lo, none⟩) 3 mcap)) (hl : w.cell? ⟨ab, ao + 1, none⟩ = some (.int .i64 num)) :
    Calls Sq.prog 88 #[.pointer (some ⟨b, o, none⟩), .slice (some ⟨ab, ao, none⟩) 1 cap] w fun e w' => e = .returned (.tuple #[.int .i64 (if num = 0 then z else y), .bool true]) ∧ w' = w := by
  have hp := picked_any b o num y z w h2 h3
  generalize (if num = 0 then z else y) = q at hp ⊢
  go_enter Sq.func88, Sq.ntmps88
  go_wp2_with fail
  refine (looksAt_done b o _ _ h4 h7).mono ?_
  rintro e w1 ⟨rfl, rfl⟩
  go_wp2_with fail
  refine hp.mono ?_
  rintro e w1 ⟨rfl, rfl⟩
  go_wp2_with fail
  exact bodyPost_ret (results_tmp2 rfl _ _ _) rfl ⟨rfl, rfl⟩
set_option maxRecDepth 100000 in
set_option maxHeartbeats 1000000 in
/-- A pick's way on. -/
theorem next_pick2 {ab ao : Nat} {num : Int} (h0 : w.cell? ⟨b, o, none⟩ = some (.int .i64 4)) (h2 : w.cell? ⟨b, o + 2, none⟩ = some (.int .i64 y)) (h3 : w.cell? ⟨b, o + 3, none⟩ = some (.int .i64 z)) (h4 : w.cell? ⟨b, o + 4, none⟩ = some (.int .u32 1)) (h7 : w.cell? ⟨b, o + 7, none⟩ = some (.slice (some ⟨lb, lo, none⟩) 3 mcap)) (hl : w.cell? ⟨ab, ao + 1, none⟩ = some (.int .i64 num)) :
    Calls Sq.prog 88 #[.pointer (some ⟨b, o, none⟩), .slice (some ⟨ab, ao, none⟩) 2 cap] w fun e w' => e = .returned (.tuple #[.int .i64 (if num = 0 then z else y), .bool false]) ∧ w' = w := by
  have hp := picked_any b o num y z w h2 h3
  generalize (if num = 0 then z else y) = q at hp ⊢
  go_enter Sq.func88, Sq.ntmps88
  go_wp2_with fail
  refine (looksAt_done b o _ _ h4 h7).mono ?_
  rintro e w1 ⟨rfl, rfl⟩
  go_wp2_with fail
  refine hp.mono ?_
  rintro e w1 ⟨rfl, rfl⟩
  go_wp2_with fail
  exact bodyPost_ret (results_tmp2 rfl _ _ _) rfl ⟨rfl, rfl⟩
end
end Go.Proofs.Ytdlnlcjmjgbikaa
