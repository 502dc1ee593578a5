/- slices.Concat at three rows of tokens. -/
import Derived.Test.YtgpfmnaglbbebaaDoorCn
namespace Go.Proofs.YtgpfmnaglbbebaaDoor
open Go.RowKit
open M

set_option maxRecDepth 100000 in
set_option maxHeartbeats 4000000 in
theorem concat_any (c : Nat) (v1 v2 v3 : Value) (L1 L2 L3 : List Tk) (w : World) (p1 : w.cell? ⟨c, 0, none⟩ = some v1) (p2 : w.cell? ⟨c, 1, none⟩ = some v2) (p3 : w.cell? ⟨c, 2, none⟩ = some v3)
    (h1 : IsT w v1 L1) (h2 : IsT w v2 L2) (h3 : IsT w v3 L3) (hl : L1.length + L2.length + L3.length ≤ 1073741824) :
    Calls Tryd.prog 45 #[.slice (some ⟨c, 0, none⟩) 3 3] w fun e w' => ∃ v, e = .returned v ∧ Hid (w'.ownsRow w.heap.size 29 3 v (L1.length + L2.length + L3.length) ((L1 ++ L2 ++ L3).flatMap tkv)) ∧ Below w.heap.size w w' := by
  have H1 := hide h1
  have H2 := hide h2
  have H3 := hide h3
  obtain ⟨ao1, cap1, rfl, -⟩ := h1
  obtain ⟨ao2, cap2, rfl, -⟩ := h2
  obtain ⟨ao3, cap3, rfl, -⟩ := h3
  go_enter Tryd.func45, Tryd.ntmps45
  go_wp2_with fail
  refine wp_loop_rounds 4 ?_
  rw [rounds_succ]
  go_wp2_with fail
  rw [rounds_succ]
  go_wp2_with fail
  rw [rounds_succ]
  go_wp2_with fail
  rw [rounds_succ]
  go_wp2_with fail
  have HG : Hid (Calls Tryd.prog 63 #[.slice none 0 0, .int .i64 ((L1.length : Int) + L2.length + L3.length)] w fun e w' => ∃ v, e = .returned v ∧ w'.ownsRow w.heap.size 29 3 v 0 [] ∧ Below w.heap.size w w') := by
    have := grow_any (L1.length + L2.length + L3.length) w hl
    rw [Int.natCast_add, Int.natCast_add] at this
    exact this
  refine (HG.out).mono ?_
  rintro e w1 ⟨v, rfl, O1, k1⟩
  obtain ⟨va, w2, r2, o2, g2⟩ := run_append_t w1 w.heap.size v 0 [] O1 _ L1 ((H1.out).below k1) (by omega) k1.size 22
  have k2 : Below w.heap.size w w2 := k1.grown g2 k1.size (fun k hk => (owns_ge O1 k hk).1)
  obtain ⟨vb, w3, r3, o3, g3⟩ := run_append_t w2 w.heap.size va _ _ o2 _ L2 ((H2.out).below k2) (by omega) k2.size 22
  have k3 : Below w.heap.size w w3 := k2.grown g3 k2.size (fun k hk => (owns_ge o2 k hk).1)
  obtain ⟨vc, w4, r4, o4, g4⟩ := run_append_t w3 w.heap.size vb _ _ o3 _ L3 ((H3.out).below k3) (by omega) k3.size 22
  have k4 : Below w.heap.size w w4 := k3.grown g4 k3.size (fun k hk => (owns_ge o3 k hk).1)
  have x1 : w1.cell? ⟨c, 0, none⟩ = _ := (Kp.ofBelow k1 (fun _ => False)).cellv p1 id
  have x2 : w2.cell? ⟨c, 1, none⟩ = _ := (Kp.ofBelow k2 (fun _ => False)).cellv p2 id
  have x3 : w3.cell? ⟨c, 2, none⟩ = _ := (Kp.ofBelow k3 (fun _ => False)).cellv p3 id
  have K4 := hide k4
  have O4 := hide o4
  clear HG H1 H2 H3 O1 k1 k2 k3 k4 o2 o3 o4 g2 g3 g4 p1 p2 p3
  go_wp2_with fail
  refine wp_loop_rounds 4 ?_
  rw [rounds_succ]
  go_wp2_with (at_builtin; refine Lib.wpList_append_run _ rfl _ _ _ _ rfl _ _ rfl rfl _ _ r2 ?_)
  rw [rounds_succ]
  go_wp2_with (at_builtin; refine Lib.wpList_append_run _ rfl _ _ _ _ rfl _ _ rfl rfl _ _ r3 ?_)
  rw [rounds_succ]
  go_wp2_with (at_builtin; refine Lib.wpList_append_run _ rfl _ _ _ _ rfl _ _ rfl rfl _ _ r4 ?_)
  rw [rounds_succ]
  go_wp2_with fail
  go_ret
  refine ⟨vc, rfl, ?_, K4.out⟩
  have := O4.out
  show w4.ownsRow w.heap.size 29 3 vc (L1.length + L2.length + L3.length) ((L1 ++ L2 ++ L3).flatMap tkv)
  rw [List.flatMap_append, List.flatMap_append]
  simpa using this
end Go.Proofs.YtgpfmnaglbbebaaDoor
