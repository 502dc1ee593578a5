/- slices.Grow and slices.Concat at rows of colours. -/
import Derived.Test.YtnppdfnfhkopnaaDoorCya
import Derived.Shelf.Spec.SlicesGrow
namespace Go.Proofs
open Go.Shelf
def Tryd.laysGrowC_ren : Go.Shelf.Ren := ⟨fun | 4 => 11 | n => n, fun | 22 => 22 | 25 => 26 | n => n, fun | n => n⟩
theorem Tryd.laysGrowC : Lays8.n4 Tryd.prog Tryd.laysGrowC_ren := {
  mixed := by kernel_rfl
  f4 := ⟨Tryd.f11.name, by kernel_rfl, Tryd.func11.trans (congrArg some (by kernel_rfl))⟩
  t0 := Tryd.underlying0
  a0 := Tryd.isAgg0
  z0 := Tryd.sizeOf0
  v0 := Tryd.zeroValue0
  t3 := Tryd.underlying3
  a3 := Tryd.isAgg3
  z3 := Tryd.sizeOf3
  v3 := Tryd.zeroValue3
  t4 := Tryd.underlying4
  a4 := Tryd.isAgg4
  z4 := Tryd.sizeOf4
  v4 := Tryd.zeroValue4
  t9 := Tryd.underlying9
  a9 := Tryd.isAgg9
  z9 := Tryd.sizeOf9
  v9 := Tryd.zeroValue9
  t20 := Tryd.underlying20
  a20 := Tryd.isAgg20
  z20 := Tryd.sizeOf20
  v20 := Tryd.zeroValue20
  t22 := Tryd.underlying22
  a22 := Tryd.isAgg22
  z22 := Tryd.sizeOf22
  v22 := Tryd.zeroValue22 }
end Go.Proofs
namespace Go.Proofs.YtnppdfnfhkopnaaDoor
open Go.RowKit

theorem infoC : (Tryd.prog.info? 26).map (fun i => (i.zero, i.size, i.bytes)) = some (some (.agg #[.int .i64 0, .int .i64 0, .int .i64 0, .int .i64 0]), 4, 32) := by kernel_rfl
theorem info_partsC : ∃ i, Tryd.prog.info? 26 = some i ∧ i.zero = some (.agg #[.int .i64 0, .int .i64 0, .int .i64 0, .int .i64 0]) ∧ i.size = 4 ∧ i.bytes = 32 := by
  have h := infoC
  cases e : Tryd.prog.info? 26 with
  | none => rw [e] at h; cases h
  | some i =>
    rw [e] at h
    simp only [Option.map_some, Option.some.injEq, Prod.mk.injEq] at h
    exact ⟨i, rfl, h.1, h.2.1, h.2.2⟩
theorem run_append_noneC (w : World) (B : Nat) (v : Value) (n : Nat) (xs : List Value) (hown : w.ownsRow B 26 4 v n xs) (c : Nat) (ty : TypeId) :
    (Builtin.append_ #[22, 22] ty #[v, .slice none 0 c]).run Tryd.prog w = .ok v w := by
  have h0 : (Builtin.firstCells 4 0 (.slice none 0 c)).run Tryd.prog w = .ok #[] w := run_firstCells_none w 4 0 0 c
  rcases hown.2 with ⟨rfl, rfl⟩ | ⟨g, cap, cur, rfl, hb, hg, hn, hm, hs, ht⟩
  · simp [Builtin.append_, Go.underlying, Tryd.underlying22, Tryd.sizeOf26, Builtin.lenOf, h0, Result.andThen]
  · simp [Builtin.append_, Go.underlying, Tryd.underlying22, Tryd.sizeOf26, Builtin.lenOf, h0, Result.andThen, hn, storeCells]
set_option maxRecDepth 100000 in
theorem run_append_c (w : World) (B : Nat) (v : Value) (n : Nat) (xs : List Value) (hown : w.ownsRow B 26 4 v n xs) (u : Value) (L : List Cl) (hT : IsC w u L) (hl : n + L.length ≤ 1073741824) (hB : B ≤ w.heap.size) (ty : TypeId) :
    ∃ v' w', (Builtin.append_ #[22, 22] ty #[v, u]).run Tryd.prog w = .ok v' w' ∧ w'.ownsRow B 26 4 v' (n + L.length) (xs ++ L.flatMap clv) ∧ w.grownBy w' v.ownBlock := by
  obtain ⟨i0, hi0, hz0, hz1, hz2⟩ := info_partsC
  have hT' := hT
  obtain ⟨ao, cap, rfl, hc1, hc2, h3⟩ := hT
  cases ao with
  | none =>
    have h0 : L = [] := by
      rcases Nat.eq_zero_or_pos L.length with g | g
      · exact List.length_eq_zero_iff.1 g
      · obtain ⟨b, o, e, -⟩ := h3 0 g; cases e
    subst h0
    exact ⟨v, w, run_append_noneC w B v n xs hown cap ty, by simpa using hown, ⟨rfl, rfl, rfl, Nat.le_refl _, fun _ _ _ => rfl⟩⟩
  | some ad =>
    have HN : ∀ j u, (L.flatMap clv)[j]? = some u → w.cell? (ad.add j) = some u := by
      intro j u hu
      have hi : 0 < L.length := by
        rcases Nat.eq_zero_or_pos L.length with g | g
        · rw [List.length_eq_zero_iff.1 g] at hu; simp at hu
        · exact g
      obtain ⟨b, o, e, -⟩ := h3 0 hi
      injection e with e; subst e
      rw [Addr.add_lit]
      exact hT'.cells j u hu
    obtain ⟨v', w', a1, a2, a3, -⟩ := run_append_own (P := Tryd.prog) w B 22 ty 26 i0 _ 4 32 Tryd.underlying22 hi0 hz0 hz1 hz2 rfl (by decide) v n xs hown ad L.length cap (L.flatMap clv) (clv_len L) HN (clv_one L) (by unfold maxLen; omega) (by omega) hB
    exact ⟨v', w', a1, a2, a3⟩

/-- slices.Grow of nothing: room, and nothing in it. -/
theorem growC_any (n : Nat) (w : World) (hn : n ≤ 1073741824) :
    Calls Tryd.prog 11 #[.slice none 0 0, .int .i64 n] w fun e w' => ∃ v, e = .returned v ∧ w'.ownsRow w.heap.size 26 4 v 0 [] ∧ Below w.heap.size w w' := by
  obtain ⟨i0, hi0, hz0, hz1, hz2⟩ := info_partsC
  by_cases h : n = 0
  · subst h
    refine (Any8.slices_Grow_room Tryd.laysGrowC none 0 0 0 w (Nat.le_refl _) (by omega) (by omega) (by omega)).mono ?_
    rintro e w' ⟨rfl, rfl⟩
    exact ⟨_, rfl, World.ownsRow_nil _ _ _ _, Below.refl _ _⟩
  · refine (Any8.slices_Grow_grow Tryd.laysGrowC i0 _ hi0 hz0 (by rw [hz1]; omega) none 0 0 n [] w (Nat.le_refl _) (by omega) (by rw [hz2]; omega) (by omega) (by simp) (fun _ => rfl) (fun a e => by cases e)).mono ?_
    rintro e w' ⟨rfl, rfl⟩
    have hg := grownCap_ge w (0 + n) 0 26
    have hm := grownCap_le_maxLen w (0 + n) 0 26 (by unfold maxLen; omega)
    refine ⟨_, rfl, ⟨by simp, .inr ⟨_, _, _, rfl, Nat.le_refl _, heap_alloc_new w.drew _, Nat.zero_le _, hm, ?_, by simp⟩⟩, ((Below.refl _ w).drew).alloc (Nat.le_refl _) _⟩
    have hc : (Value.agg #[Value.int IntKind.i64 0, Value.int IntKind.i64 0, Value.int IntKind.i64 0, Value.int IntKind.i64 0]).cells.size = 4 := rfl
    simp only [List.toArray, Array.size_append, size_zeroCells, hc, Nat.zero_add, Nat.sub_zero] at hg ⊢
    show (#[] : Array Value).size + n * 4 + (grownCap w n 0 26 - n) * 4 = grownCap w n 0 26 * 4
    rw [show (#[] : Array Value).size = 0 from rfl]
    generalize grownCap w n 0 26 = G at *
    omega

theorem owns_geC {w : World} {base : Nat} {e : TypeId} {size : Nat} {v : Value} {n : Nat} {xs : List Value} (h : w.ownsRow base e size v n xs) : ∀ k, v.ownBlock = some k → base ≤ k ∧ k < w.heap.size := by
  intro k hk
  rcases h.2 with ⟨rfl, -⟩ | ⟨g, cap, cur, rfl, hb, hg, -⟩
  · simp [Value.ownBlock] at hk
  · simp [Value.ownBlock] at hk
    subst hk
    exact ⟨hb, heap_lt hg⟩

set_option maxRecDepth 100000 in
set_option maxHeartbeats 4000000 in
theorem concat1_any (c : Nat) (v1 : Value) (L1 : List Cl) (w : World) (p1 : w.cell? ⟨c, 0, none⟩ = some v1) (h1 : IsC w v1 L1) :
    Calls Tryd.prog 9 #[.slice (some ⟨c, 0, none⟩) 1 1] w fun e w' => ∃ v, e = .returned v ∧ Hid (IsC w' v L1) ∧ Below w.heap.size w w' := by
  have H1 := hide h1
  obtain ⟨ao1, cap1, rfl, -, ⟨hl, -⟩, -⟩ := h1
  go_enter Tryd.func9, Tryd.ntmps9
  go_wp2_with fail
  refine wp_loop_rounds 2 ?_
  rw [rounds_succ]
  go_wp2_with fail
  rw [rounds_succ]
  go_wp2_with fail
  refine (growC_any L1.length w hl).mono ?_
  rintro e w1 ⟨v, rfl, O1, k1⟩
  obtain ⟨va, w2, r2, o2, g2⟩ := run_append_c w1 w.heap.size v 0 [] O1 _ L1 ((H1.out).below k1) (by omega) k1.size 22
  have k2 : Below w.heap.size w w2 := k1.grown g2 k1.size (fun k hk => (owns_geC O1 k hk).1)
  have x1 : w1.cell? ⟨c, 0, none⟩ = _ := (Kp.ofBelow k1 (fun _ => False)).cellv p1 id
  have K2 := hide k2
  have O2 := hide o2
  clear H1 O1 k1 k2 o2 g2 p1
  go_wp2_with fail
  refine wp_loop_rounds 2 ?_
  rw [rounds_succ]
  go_wp2_with (at_builtin; refine Lib.wpList_append_run _ rfl _ _ _ _ rfl _ _ rfl rfl _ _ r2 ?_)
  rw [rounds_succ]
  go_wp2_with fail
  go_ret
  refine ⟨va, rfl, ?_, K2.out⟩
  have := O2.out
  rw [Nat.zero_add, List.nil_append] at this
  exact IsC.ofOwns this hl

set_option maxRecDepth 100000 in
set_option maxHeartbeats 4000000 in
theorem concat3_any (c : Nat) (v1 v2 v3 : Value) (L1 L2 L3 : List Cl) (w : World) (p1 : w.cell? ⟨c, 0, none⟩ = some v1) (p2 : w.cell? ⟨c, 1, none⟩ = some v2) (p3 : w.cell? ⟨c, 2, none⟩ = some v3)
    (h1 : IsC w v1 L1) (h2 : IsC w v2 L2) (h3 : IsC w v3 L3) (hl : L1.length + L2.length + L3.length ≤ 1073741824) :
    Calls Tryd.prog 9 #[.slice (some ⟨c, 0, none⟩) 3 3] w fun e w' => ∃ v, e = .returned v ∧ Hid (IsC w' v (L1 ++ L2 ++ L3)) ∧ Below w.heap.size w w' := by
  have H1 := hide h1
  have H2 := hide h2
  have H3 := hide h3
  obtain ⟨ao1, cap1, rfl, -⟩ := h1
  obtain ⟨ao2, cap2, rfl, -⟩ := h2
  obtain ⟨ao3, cap3, rfl, -⟩ := h3
  go_enter Tryd.func9, Tryd.ntmps9
  go_wp2_with fail
  refine wp_loop_rounds 4 ?_
  rw [rounds_succ]
  go_wp2_with fail
  rw [rounds_succ]
  go_wp2_with fail
  rw [rounds_succ]
  go_wp2_with fail
  rw [rounds_succ]
  go_wp2_with fail
  have HG : Hid (Calls Tryd.prog 11 #[.slice none 0 0, .int .i64 ((L1.length : Int) + L2.length + L3.length)] w fun e w' => ∃ v, e = .returned v ∧ w'.ownsRow w.heap.size 26 4 v 0 [] ∧ Below w.heap.size w w') := by
    have := growC_any (L1.length + L2.length + L3.length) w hl
    rw [Int.natCast_add, Int.natCast_add] at this
    exact this
  refine (HG.out).mono ?_
  rintro e w1 ⟨v, rfl, O1, k1⟩
  obtain ⟨va, w2, r2, o2, g2⟩ := run_append_c w1 w.heap.size v 0 [] O1 _ L1 ((H1.out).below k1) (by omega) k1.size 22
  have k2 : Below w.heap.size w w2 := k1.grown g2 k1.size (fun k hk => (owns_geC O1 k hk).1)
  obtain ⟨vb, w3, r3, o3, g3⟩ := run_append_c w2 w.heap.size va _ _ o2 _ L2 ((H2.out).below k2) (by omega) k2.size 22
  have k3 : Below w.heap.size w w3 := k2.grown g3 k2.size (fun k hk => (owns_geC o2 k hk).1)
  obtain ⟨vc, w4, r4, o4, g4⟩ := run_append_c w3 w.heap.size vb _ _ o3 _ L3 ((H3.out).below k3) (by omega) k3.size 22
  have k4 : Below w.heap.size w w4 := k3.grown g4 k3.size (fun k hk => (owns_geC o3 k hk).1)
  have x1 : w1.cell? ⟨c, 0, none⟩ = _ := (Kp.ofBelow k1 (fun _ => False)).cellv p1 id
  have x2 : w2.cell? ⟨c, 1, none⟩ = _ := (Kp.ofBelow k2 (fun _ => False)).cellv p2 id
  have x3 : w3.cell? ⟨c, 2, none⟩ = _ := (Kp.ofBelow k3 (fun _ => False)).cellv p3 id
  have K4 := hide k4
  have O4 := hide o4
  clear HG H1 H2 H3 O1 k1 k2 k3 k4 o2 o3 o4 g2 g3 g4 p1 p2 p3
  go_wp2_with fail
  refine wp_loop_rounds 4 ?_
  rw [rounds_succ]
  go_wp2_with (at_builtin; refine Lib.wpList_append_run _ rfl _ _ _ _ rfl _ _ rfl rfl _ _ r2 ?_)
  rw [rounds_succ]
  go_wp2_with (at_builtin; refine Lib.wpList_append_run _ rfl _ _ _ _ rfl _ _ rfl rfl _ _ r3 ?_)
  rw [rounds_succ]
  go_wp2_with (at_builtin; refine Lib.wpList_append_run _ rfl _ _ _ _ rfl _ _ rfl rfl _ _ r4 ?_)
  rw [rounds_succ]
  go_wp2_with fail
  go_ret
  refine ⟨vc, rfl, ?_, K4.out⟩
  have := O4.out
  refine IsC.ofOwns (base := w.heap.size) (e := 26) ?_ (by rw [List.length_append, List.length_append]; exact hl)
  rw [List.flatMap_append, List.flatMap_append, List.length_append, List.length_append]
  simpa using this
end Go.Proofs.YtnppdfnfhkopnaaDoor
