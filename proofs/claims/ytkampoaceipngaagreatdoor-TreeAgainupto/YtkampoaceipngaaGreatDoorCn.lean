/- slices.Concat at three rows of tokens: a row of its own. -/
import Derived.Test.YtkampoaceipngaaGreatDoorOb
import Derived.Shelf.Spec.SlicesGrow
namespace Go.Proofs
open Go.Shelf
def Tryz.laysGrow_ren : Go.Shelf.Ren := ⟨fun | 4 => 84 | n => n, fun | 0 => 0 | 3 => 3 | 4 => 4 | 9 => 9 | 20 => 20 | 22 => 93 | 25 => 118 | n => n, fun | n => n⟩
theorem Tryz.laysGrow : Lays8.n4 Tryz.prog Tryz.laysGrow_ren := {
  mixed := by kernel_rfl
  f4 := ⟨Tryz.f84.name, by kernel_rfl, Tryz.func84.trans (congrArg some (by kernel_rfl))⟩
  t0 := Tryz.underlying0
  a0 := Tryz.isAgg0
  z0 := Tryz.sizeOf0
  v0 := Tryz.zeroValue0
  t3 := Tryz.underlying3
  a3 := Tryz.isAgg3
  z3 := Tryz.sizeOf3
  v3 := Tryz.zeroValue3
  t4 := Tryz.underlying4
  a4 := Tryz.isAgg4
  z4 := Tryz.sizeOf4
  v4 := Tryz.zeroValue4
  t9 := Tryz.underlying9
  a9 := Tryz.isAgg9
  z9 := Tryz.sizeOf9
  v9 := Tryz.zeroValue9
  t20 := Tryz.underlying20
  a20 := Tryz.isAgg20
  z20 := Tryz.sizeOf20
  v20 := Tryz.zeroValue20
  t22 := Tryz.underlying93
  a22 := Tryz.isAgg93
  z22 := Tryz.sizeOf93
  v22 := Tryz.zeroValue93 }
end Go.Proofs
namespace Go.Proofs.YtkampoaceipngaaGreatDoor
open Go.RowKit
open M

theorem run_append_none (w : World) (B : Nat) (v : Value) (n : Nat) (xs : List Value) (hown : w.ownsRow B 118 3 v n xs) (c : Nat) (ty : TypeId) :
    (Builtin.append_ #[93, 93] ty #[v, .slice none 0 c]).run Tryz.prog w = .ok v w := by
  have h0 : (Builtin.firstCells 3 0 (.slice none 0 c)).run Tryz.prog w = .ok #[] w := run_firstCells_none w 3 0 0 c
  rcases hown.2 with ⟨rfl, rfl⟩ | ⟨g, cap, cur, rfl, hb, hg, hn, hm, hs, ht⟩
  · simp [Builtin.append_, Go.underlying, Tryz.underlying93, Tryz.sizeOf118, Builtin.lenOf, h0, Result.andThen]
  · simp [Builtin.append_, Go.underlying, Tryz.underlying93, Tryz.sizeOf118, Builtin.lenOf, h0, Result.andThen, hn, storeCells]
set_option maxRecDepth 100000 in
theorem run_append_t (w : World) (B : Nat) (v : Value) (n : Nat) (xs : List Value) (hown : w.ownsRow B 118 3 v n xs) (u : Value) (L : List Tk) (hT : IsT w u L) (hl : n + L.length ≤ 1073741824) (hB : B ≤ w.heap.size) (ty : TypeId) :
    ∃ v' w', (Builtin.append_ #[93, 93] ty #[v, u]).run Tryz.prog w = .ok v' w' ∧ w'.ownsRow B 118 3 v' (n + L.length) (xs ++ L.flatMap tkv) ∧ w.grownBy w' v.ownBlock := by
  obtain ⟨i0, hi0, hz0, hz1, hz2⟩ := info_parts info29
  have hT' := hT
  obtain ⟨ao, cap, rfl, hc1, hc2, h3⟩ := hT
  cases ao with
  | none =>
    have h0 : L = [] := by
      rcases Nat.eq_zero_or_pos L.length with g | g
      · exact List.length_eq_zero_iff.1 g
      · obtain ⟨b, o, e, -⟩ := h3 0 g; cases e
    subst h0
    exact ⟨v, w, run_append_none w B v n xs hown cap ty, by simpa using hown, ⟨rfl, rfl, rfl, Nat.le_refl _, fun _ _ _ => rfl⟩⟩
  | some ad =>
    have HN : ∀ j u, (L.flatMap tkv)[j]? = some u → w.cell? (ad.add j) = some u := by
      intro j u hu
      obtain ⟨i, t, r, q1, -⟩ := tkv_at L j u hu
      have hi : i < L.length := by
        rcases Nat.lt_or_ge i L.length with g | g
        · exact g
        · rw [List.getElem?_eq_none g] at q1; cases q1
      obtain ⟨b, o, e, -⟩ := h3 i hi
      injection e with e; subst e
      rw [Addr.add_lit]
      exact hT'.cells j u hu
    obtain ⟨v', w', a1, a2, a3, -⟩ := run_append_own (P := Tryz.prog) w B 93 ty 118 i0 _ 3 24 Tryz.underlying93 hi0 hz0 hz1 hz2 rfl (by decide) v n xs hown ad L.length cap (L.flatMap tkv) (tkv_len L) HN (tkv_one L) (by unfold maxLen; omega) (by omega) hB
    exact ⟨v', w', a1, a2, a3⟩

/-- slices.Grow of nothing: room, and nothing in it. -/
theorem sgrow_any (n : Nat) (w : World) (hn : n ≤ 1073741824) :
    Calls Tryz.prog 84 #[.slice none 0 0, .int .i64 n] w fun e w' => ∃ v, e = .returned v ∧ w'.ownsRow w.heap.size 118 3 v 0 [] ∧ Below w.heap.size w w' := by
  obtain ⟨i0, hi0, hz0, hz1, hz2⟩ := info_parts info29
  by_cases h : n = 0
  · subst h
    refine (Any8.slices_Grow_room Tryz.laysGrow none 0 0 0 w (Nat.le_refl _) (by omega) (by omega) (by omega)).mono ?_
    rintro e w' ⟨rfl, rfl⟩
    exact ⟨_, rfl, World.ownsRow_nil _ _ _ _, Below.refl _ _⟩
  · refine (Any8.slices_Grow_grow Tryz.laysGrow i0 _ hi0 hz0 (by rw [hz1]; omega) none 0 0 n [] w (Nat.le_refl _) (by omega) (by rw [hz2]; omega) (by omega) (by simp) (fun _ => rfl) (fun a e => by cases e)).mono ?_
    rintro e w' ⟨rfl, rfl⟩
    have hg := grownCap_ge w (0 + n) 0 118
    have hm := grownCap_le_maxLen w (0 + n) 0 118 (by unfold maxLen; omega)
    refine ⟨_, rfl, ⟨by simp, .inr ⟨_, _, _, rfl, Nat.le_refl _, heap_alloc_new w.drew _, Nat.zero_le _, hm, ?_, by simp⟩⟩, ((Below.refl _ w).drew).alloc (Nat.le_refl _) _⟩
    have hc : (Value.agg #[Value.int IntKind.i64 0, Value.int IntKind.i64 0, Value.int IntKind.i64 0]).cells.size = 3 := rfl
    simp only [List.toArray, Array.size_append, size_zeroCells, hc, Nat.zero_add, Nat.sub_zero] at hg ⊢
    show (#[] : Array Value).size + n * 3 + (grownCap w n 0 118 - n) * 3 = grownCap w n 0 118 * 3
    rw [show (#[] : Array Value).size = 0 from rfl]
    generalize grownCap w n 0 118 = G at *
    omega
end Go.Proofs.YtkampoaceipngaaGreatDoor
/- slices.Concat at three rows of tokens. -/
namespace Go.Proofs.YtkampoaceipngaaGreatDoor
open Go.RowKit
open M

set_option maxRecDepth 100000 in
set_option maxHeartbeats 4000000 in
theorem concat_any (c : Nat) (v1 v2 v3 : Value) (L1 L2 L3 : List Tk) (w : World) (p1 : w.cell? ⟨c, 0, none⟩ = some v1) (p2 : w.cell? ⟨c, 1, none⟩ = some v2) (p3 : w.cell? ⟨c, 2, none⟩ = some v3)
    (h1 : IsT w v1 L1) (h2 : IsT w v2 L2) (h3 : IsT w v3 L3) (hl : L1.length + L2.length + L3.length ≤ 1073741824) :
    Calls Tryz.prog 60 #[.slice (some ⟨c, 0, none⟩) 3 3] w fun e w' => ∃ v, e = .returned v ∧ Hid (w'.ownsRow w.heap.size 118 3 v (L1.length + L2.length + L3.length) ((L1 ++ L2 ++ L3).flatMap tkv)) ∧ Below w.heap.size w w' := by
  have H1 := hide h1
  have H2 := hide h2
  have H3 := hide h3
  obtain ⟨ao1, cap1, rfl, -⟩ := h1
  obtain ⟨ao2, cap2, rfl, -⟩ := h2
  obtain ⟨ao3, cap3, rfl, -⟩ := h3
  go_enter Tryz.func60, Tryz.ntmps60
  go_wp2_with fail
  refine wp_loop_rounds 4 ?_
  rw [rounds_succ]
  go_wp2_with fail
  rw [rounds_succ]
  go_wp2_with fail
  rw [rounds_succ]
  go_wp2_with fail
  rw [rounds_succ]
  go_wp2_with fail
  have HG : Hid (Calls Tryz.prog 84 #[.slice none 0 0, .int .i64 ((L1.length : Int) + L2.length + L3.length)] w fun e w' => ∃ v, e = .returned v ∧ w'.ownsRow w.heap.size 118 3 v 0 [] ∧ Below w.heap.size w w') := by
    have := sgrow_any (L1.length + L2.length + L3.length) w hl
    rw [Int.natCast_add, Int.natCast_add] at this
    exact this
  refine (HG.out).mono ?_
  rintro e w1 ⟨v, rfl, O1, k1⟩
  obtain ⟨va, w2, r2, o2, g2⟩ := run_append_t w1 w.heap.size v 0 [] O1 _ L1 ((H1.out).below k1) (by omega) k1.size 93
  have k2 : Below w.heap.size w w2 := k1.grown g2 k1.size (fun k hk => (owns_ge O1 k hk).1)
  obtain ⟨vb, w3, r3, o3, g3⟩ := run_append_t w2 w.heap.size va _ _ o2 _ L2 ((H2.out).below k2) (by omega) k2.size 93
  have k3 : Below w.heap.size w w3 := k2.grown g3 k2.size (fun k hk => (owns_ge o2 k hk).1)
  obtain ⟨vc, w4, r4, o4, g4⟩ := run_append_t w3 w.heap.size vb _ _ o3 _ L3 ((H3.out).below k3) (by omega) k3.size 93
  have k4 : Below w.heap.size w w4 := k3.grown g4 k3.size (fun k hk => (owns_ge o3 k hk).1)
  have x1 : w1.cell? ⟨c, 0, none⟩ = _ := (Kp.ofBelow k1 (fun _ => False)).cellv p1 id
  have x2 : w2.cell? ⟨c, 1, none⟩ = _ := (Kp.ofBelow k2 (fun _ => False)).cellv p2 id
  have x3 : w3.cell? ⟨c, 2, none⟩ = _ := (Kp.ofBelow k3 (fun _ => False)).cellv p3 id
  have K4 := hide k4
  have O4 := hide o4
  clear HG H1 H2 H3 O1 k1 k2 k3 k4 o2 o3 o4 g2 g3 g4 p1 p2 p3
  go_wp2_with fail
  refine wp_loop_rounds 4 ?_
  rw [rounds_succ]
  go_wp2_with (at_builtin; refine Lib.wpList_append_run _ rfl _ _ _ _ rfl _ _ rfl rfl _ _ r2 ?_)
  rw [rounds_succ]
  go_wp2_with (at_builtin; refine Lib.wpList_append_run _ rfl _ _ _ _ rfl _ _ rfl rfl _ _ r3 ?_)
  rw [rounds_succ]
  go_wp2_with (at_builtin; refine Lib.wpList_append_run _ rfl _ _ _ _ rfl _ _ rfl rfl _ _ r4 ?_)
  rw [rounds_succ]
  go_wp2_with fail
  go_ret
  refine ⟨vc, rfl, ?_, K4.out⟩
  have := O4.out
  show w4.ownsRow w.heap.size 118 3 vc (L1.length + L2.length + L3.length) ((L1 ++ L2 ++ L3).flatMap tkv)
  rw [List.flatMap_append, List.flatMap_append]
  simpa using this
end Go.Proofs.YtkampoaceipngaaGreatDoor
