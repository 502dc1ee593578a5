/- slices.Grow and slices.Concat at rows of colours. -/
import Derived.Test.YtgjbafamiggafaaGreatDoorCya
import Derived.Shelf.Spec.SlicesGrow
namespace Go.Proofs
open Go.Shelf
def Tryz.laysGrowC_ren : Go.Shelf.Ren := ⟨fun | 4 => 30 | n => n, fun | 22 => 33 | 25 => 42 | n => n, fun | n => n⟩
theorem Tryz.laysGrowC : Lays8.n4 Tryz.prog Tryz.laysGrowC_ren := {
  mixed := by kernel_rfl
  f4 := ⟨Tryz.f30.name, by kernel_rfl, Tryz.func30.trans (congrArg some (by kernel_rfl))⟩
  t0 := Tryz.underlying0
  a0 := Tryz.isAgg0
  z0 := Tryz.sizeOf0
  v0 := Tryz.zeroValue0
  t3 := Tryz.underlying3
  a3 := Tryz.isAgg3
  z3 := Tryz.sizeOf3
  v3 := Tryz.zeroValue3
  t4 := Tryz.underlying4
  a4 := Tryz.isAgg4
  z4 := Tryz.sizeOf4
  v4 := Tryz.zeroValue4
  t9 := Tryz.underlying9
  a9 := Tryz.isAgg9
  z9 := Tryz.sizeOf9
  v9 := Tryz.zeroValue9
  t20 := Tryz.underlying20
  a20 := Tryz.isAgg20
  z20 := Tryz.sizeOf20
  v20 := Tryz.zeroValue20
  t22 := Tryz.underlying33
  a22 := Tryz.isAgg33
  z22 := Tryz.sizeOf33
  v22 := Tryz.zeroValue33 }
end Go.Proofs
namespace Go.Proofs.YtgjbafamiggafaaGreatDoor
open Go.RowKit

theorem infoC : (Tryz.prog.info? 42).map (fun i => (i.zero, i.size, i.bytes)) = some (some (.agg #[.int .i64 0, .int .i64 0, .int .i64 0, .int .i64 0]), 4, 32) := by kernel_rfl
theorem info_partsC : ∃ i, Tryz.prog.info? 42 = some i ∧ i.zero = some (.agg #[.int .i64 0, .int .i64 0, .int .i64 0, .int .i64 0]) ∧ i.size = 4 ∧ i.bytes = 32 := by
  have h := infoC
  cases e : Tryz.prog.info? 42 with
  | none => rw [e] at h; cases h
  | some i =>
    rw [e] at h
    simp only [Option.map_some, Option.some.injEq, Prod.mk.injEq] at h
    exact ⟨i, rfl, h.1, h.2.1, h.2.2⟩
theorem run_append_noneC (w : World) (B : Nat) (v : Value) (n : Nat) (xs : List Value) (hown : w.ownsRow B 42 4 v n xs) (c : Nat) (ty : TypeId) :
    (Builtin.append_ #[33, 33] ty #[v, .slice none 0 c]).run Tryz.prog w = .ok v w := by
  have h0 : (Builtin.firstCells 4 0 (.slice none 0 c)).run Tryz.prog w = .ok #[] w := run_firstCells_none w 4 0 0 c
  rcases hown.2 with ⟨rfl, rfl⟩ | ⟨g, cap, cur, rfl, hb, hg, hn, hm, hs, ht⟩
  · simp [Builtin.append_, Go.underlying, Tryz.underlying33, Tryz.sizeOf42, Builtin.lenOf, h0, Result.andThen]
  · simp [Builtin.append_, Go.underlying, Tryz.underlying33, Tryz.sizeOf42, Builtin.lenOf, h0, Result.andThen, hn, storeCells]
set_option maxRecDepth 100000 in
theorem run_append_c (w : World) (B : Nat) (v : Value) (n : Nat) (xs : List Value) (hown : w.ownsRow B 42 4 v n xs) (u : Value) (L : List Cl) (hT : IsC w u L) (hl : n + L.length ≤ 1073741824) (hB : B ≤ w.heap.size) (ty : TypeId) :
    ∃ v' w', (Builtin.append_ #[33, 33] ty #[v, u]).run Tryz.prog w = .ok v' w' ∧ w'.ownsRow B 42 4 v' (n + L.length) (xs ++ L.flatMap clv) ∧ w.grownBy w' v.ownBlock := by
  obtain ⟨i0, hi0, hz0, hz1, hz2⟩ := info_partsC
  have hT' := hT
  obtain ⟨ao, cap, rfl, hc1, hc2, h3⟩ := hT
  cases ao with
  | none =>
    have h0 : L = [] := by
      rcases Nat.eq_zero_or_pos L.length with g | g
      · exact List.length_eq_zero_iff.1 g
      · obtain ⟨b, o, e, -⟩ := h3 0 g; cases e
    subst h0
    exact ⟨v, w, run_append_noneC w B v n xs hown cap ty, by simpa using hown, ⟨rfl, rfl, rfl, Nat.le_refl _, fun _ _ _ => rfl⟩⟩
  | some ad =>
    have HN : ∀ j u, (L.flatMap clv)[j]? = some u → w.cell? (ad.add j) = some u := by
      intro j u hu
      have hi : 0 < L.length := by
        rcases Nat.eq_zero_or_pos L.length with g | g
        · rw [List.length_eq_zero_iff.1 g] at hu; simp at hu
        · exact g
      obtain ⟨b, o, e, -⟩ := h3 0 hi
      injection e with e; subst e
      rw [Addr.add_lit]
      exact hT'.cells j u hu
    obtain ⟨v', w', a1, a2, a3, -⟩ := run_append_own (P := Tryz.prog) w B 33 ty 42 i0 _ 4 32 Tryz.underlying33 hi0 hz0 hz1 hz2 rfl (by decide) v n xs hown ad L.length cap (L.flatMap clv) (clv_len L) HN (clv_one L) (by unfold maxLen; omega) (by omega) hB
    exact ⟨v', w', a1, a2, a3⟩

/-- slices.Grow of nothing: room, and nothing in it. -/
theorem growC_any (n : Nat) (w : World) (hn : n ≤ 1073741824) :
    Calls Tryz.prog 30 #[.slice none 0 0, .int .i64 n] w fun e w' => ∃ v, e = .returned v ∧ w'.ownsRow w.heap.size 42 4 v 0 [] ∧ Below w.heap.size w w' := by
  obtain ⟨i0, hi0, hz0, hz1, hz2⟩ := info_partsC
  by_cases h : n = 0
  · subst h
    refine (Any8.slices_Grow_room Tryz.laysGrowC none 0 0 0 w (Nat.le_refl _) (by omega) (by omega) (by omega)).mono ?_
    rintro e w' ⟨rfl, rfl⟩
    exact ⟨_, rfl, World.ownsRow_nil _ _ _ _, Below.refl _ _⟩
  · refine (Any8.slices_Grow_grow Tryz.laysGrowC i0 _ hi0 hz0 (by rw [hz1]; omega) none 0 0 n [] w (Nat.le_refl _) (by omega) (by rw [hz2]; omega) (by omega) (by simp) (fun _ => rfl) (fun a e => by cases e)).mono ?_
    rintro e w' ⟨rfl, rfl⟩
    have hg := grownCap_ge w (0 + n) 0 42
    have hm := grownCap_le_maxLen w (0 + n) 0 42 (by unfold maxLen; omega)
    refine ⟨_, rfl, ⟨by simp, .inr ⟨_, _, _, rfl, Nat.le_refl _, heap_alloc_new w.drew _, Nat.zero_le _, hm, ?_, by simp⟩⟩, ((Below.refl _ w).drew).alloc (Nat.le_refl _) _⟩
    have hc : (Value.agg #[Value.int IntKind.i64 0, Value.int IntKind.i64 0, Value.int IntKind.i64 0, Value.int IntKind.i64 0]).cells.size = 4 := rfl
    simp only [List.toArray, Array.size_append, size_zeroCells, hc, Nat.zero_add, Nat.sub_zero] at hg ⊢
    show (#[] : Array Value).size + n * 4 + (grownCap w n 0 42 - n) * 4 = grownCap w n 0 42 * 4
    rw [show (#[] : Array Value).size = 0 from rfl]
    generalize grownCap w n 0 42 = G at *
    omega

theorem owns_geC {w : World} {base : Nat} {e : TypeId} {size : Nat} {v : Value} {n : Nat} {xs : List Value} (h : w.ownsRow base e size v n xs) : ∀ k, v.ownBlock = some k → base ≤ k ∧ k < w.heap.size := by
  intro k hk
  rcases h.2 with ⟨rfl, -⟩ | ⟨g, cap, cur, rfl, hb, hg, -⟩
  · simp [Value.ownBlock] at hk
  · simp [Value.ownBlock] at hk
    subst hk
    exact ⟨hb, heap_lt hg⟩

set_option maxRecDepth 100000 in
set_option maxHeartbeats 4000000 in
theorem concat1_any (c : Nat) (v1 : Value) (L1 : List Cl) (w : World) (p1 : w.cell? ⟨c, 0, none⟩ = some v1) (h1 : IsC w v1 L1) :
    Calls Tryz.prog 18 #[.slice (some ⟨c, 0, none⟩) 1 1] w fun e w' => ∃ v, e = .returned v ∧ Hid (IsC w' v L1) ∧ Below w.heap.size w w' := by
  have H1 := hide h1
  obtain ⟨ao1, cap1, rfl, -, ⟨hl, -⟩, -⟩ := h1
  go_enter Tryz.func18, Tryz.ntmps18
  go_wp2_with fail
  refine wp_loop_rounds 2 ?_
  rw [rounds_succ]
  go_wp2_with fail
  rw [rounds_succ]
  go_wp2_with fail
  refine (growC_any L1.length w hl).mono ?_
  rintro e w1 ⟨v, rfl, O1, k1⟩
  obtain ⟨va, w2, r2, o2, g2⟩ := run_append_c w1 w.heap.size v 0 [] O1 _ L1 ((H1.out).below k1) (by omega) k1.size 33
  have k2 : Below w.heap.size w w2 := k1.grown g2 k1.size (fun k hk => (owns_geC O1 k hk).1)
  have x1 : w1.cell? ⟨c, 0, none⟩ = _ := (Kp.ofBelow k1 (fun _ => False)).cellv p1 id
  have K2 := hide k2
  have O2 := hide o2
  clear H1 O1 k1 k2 o2 g2 p1
  go_wp2_with fail
  refine wp_loop_rounds 2 ?_
  rw [rounds_succ]
  go_wp2_with (at_builtin; refine Lib.wpList_append_run _ rfl _ _ _ _ rfl _ _ rfl rfl _ _ r2 ?_)
  rw [rounds_succ]
  go_wp2_with fail
  go_ret
  refine ⟨va, rfl, ?_, K2.out⟩
  have := O2.out
  rw [Nat.zero_add, List.nil_append] at this
  exact IsC.ofOwns this hl

set_option maxRecDepth 100000 in
set_option maxHeartbeats 4000000 in
theorem concat3_any (c : Nat) (v1 v2 v3 : Value) (L1 L2 L3 : List Cl) (w : World) (p1 : w.cell? ⟨c, 0, none⟩ = some v1) (p2 : w.cell? ⟨c, 1, none⟩ = some v2) (p3 : w.cell? ⟨c, 2, none⟩ = some v3)
    (h1 : IsC w v1 L1) (h2 : IsC w v2 L2) (h3 : IsC w v3 L3) (hl : L1.length + L2.length + L3.length ≤ 1073741824) :
    Calls Tryz.prog 18 #[.slice (some ⟨c, 0, none⟩) 3 3] w fun e w' => ∃ v, e = .returned v ∧ Hid (IsC w' v (L1 ++ L2 ++ L3)) ∧ Below w.heap.size w w' := by
  have H1 := hide h1
  have H2 := hide h2
  have H3 := hide h3
  obtain ⟨ao1, cap1, rfl, -⟩ := h1
  obtain ⟨ao2, cap2, rfl, -⟩ := h2
  obtain ⟨ao3, cap3, rfl, -⟩ := h3
  go_enter Tryz.func18, Tryz.ntmps18
  go_wp2_with fail
  refine wp_loop_rounds 4 ?_
  rw [rounds_succ]
  go_wp2_with fail
  rw [rounds_succ]
  go_wp2_with fail
  rw [rounds_succ]
  go_wp2_with fail
  rw [rounds_succ]
  go_wp2_with fail
  have HG : Hid (Calls Tryz.prog 30 #[.slice none 0 0, .int .i64 ((L1.length : Int) + L2.length + L3.length)] w fun e w' => ∃ v, e = .returned v ∧ w'.ownsRow w.heap.size 42 4 v 0 [] ∧ Below w.heap.size w w') := by
    have := growC_any (L1.length + L2.length + L3.length) w hl
    rw [Int.natCast_add, Int.natCast_add] at this
    exact this
  refine (HG.out).mono ?_
  rintro e w1 ⟨v, rfl, O1, k1⟩
  obtain ⟨va, w2, r2, o2, g2⟩ := run_append_c w1 w.heap.size v 0 [] O1 _ L1 ((H1.out).below k1) (by omega) k1.size 33
  have k2 : Below w.heap.size w w2 := k1.grown g2 k1.size (fun k hk => (owns_geC O1 k hk).1)
  obtain ⟨vb, w3, r3, o3, g3⟩ := run_append_c w2 w.heap.size va _ _ o2 _ L2 ((H2.out).below k2) (by omega) k2.size 33
  have k3 : Below w.heap.size w w3 := k2.grown g3 k2.size (fun k hk => (owns_geC o2 k hk).1)
  obtain ⟨vc, w4, r4, o4, g4⟩ := run_append_c w3 w.heap.size vb _ _ o3 _ L3 ((H3.out).below k3) (by omega) k3.size 33
  have k4 : Below w.heap.size w w4 := k3.grown g4 k3.size (fun k hk => (owns_geC o3 k hk).1)
  have x1 : w1.cell? ⟨c, 0, none⟩ = _ := (Kp.ofBelow k1 (fun _ => False)).cellv p1 id
  have x2 : w2.cell? ⟨c, 1, none⟩ = _ := (Kp.ofBelow k2 (fun _ => False)).cellv p2 id
  have x3 : w3.cell? ⟨c, 2, none⟩ = _ := (Kp.ofBelow k3 (fun _ => False)).cellv p3 id
  have K4 := hide k4
  have O4 := hide o4
  clear HG H1 H2 H3 O1 k1 k2 k3 k4 o2 o3 o4 g2 g3 g4 p1 p2 p3
  go_wp2_with fail
  refine wp_loop_rounds 4 ?_
  rw [rounds_succ]
  go_wp2_with (at_builtin; refine Lib.wpList_append_run _ rfl _ _ _ _ rfl _ _ rfl rfl _ _ r2 ?_)
  rw [rounds_succ]
  go_wp2_with (at_builtin; refine Lib.wpList_append_run _ rfl _ _ _ _ rfl _ _ rfl rfl _ _ r3 ?_)
  rw [rounds_succ]
  go_wp2_with (at_builtin; refine Lib.wpList_append_run _ rfl _ _ _ _ rfl _ _ rfl rfl _ _ r4 ?_)
  rw [rounds_succ]
  go_wp2_with fail
  go_ret
  refine ⟨vc, rfl, ?_, K4.out⟩
  have := O4.out
  refine IsC.ofOwns (base := w.heap.size) (e := 42) ?_ (by rw [List.length_append, List.length_append]; exact hl)
  rw [List.flatMap_append, List.flatMap_append, List.length_append, List.length_append]
  simpa using this
end Go.Proofs.YtgjbafamiggafaaGreatDoor
/- Colours: what has changed of them (Diff). -/
namespace Go.Proofs.YtgjbafamiggafaaGreatDoor
open Go.RowKit

/-- How many of two rows are the same to the end of both, behind the first ones. -/
def suf (a b : List Cl) (f : Nat) : Nat := pre (a.drop f).reverse (b.drop f).reverse
theorem suf_le (a b : List Cl) (f : Nat) : suf a b f ≤ a.length - f ∧ suf a b f ≤ b.length - f := by
  have := pre_le (a.drop f).reverse (b.drop f).reverse
  rw [List.length_reverse, List.length_reverse, List.length_drop, List.length_drop] at this
  exact this
theorem IsC.cut {w : World} {ao : Option Addr} {n cap : Nat} {L : List Cl} (h : IsC w (.slice ao n cap) L) {k : Nat} (hk : k ≤ L.length) : IsC w (.slice (if cap = k then ao else ao.map fun x => x.add (k * 4)) (L.length - k) (cap - k)) (L.drop k) := by
  split
  · rename_i e
    obtain ⟨_, _, e', h1, h2, h3⟩ := h
    cases e'
    have e0 : L.length - k = 0 := by omega
    have e1 : L.drop k = [] := List.drop_eq_nil_of_le (by omega)
    rw [e0, e1]
    exact IsC.none _ (by have := h2.2; omega) _
  · exact h.drop hk

set_option maxRecDepth 100000 in
set_option maxHeartbeats 1000000 in
theorem diff_any (va vb : Value) (a b : List Cl) (w : World) (ha : IsC w va a) (hb : IsC w vb b) :
    Calls Tryz.prog 9 #[va, vb] w fun e w' => ∃ v, e = .returned (.tuple #[.int .i64 (pre a b : Nat), .int .i64 ((a.length - pre a b - suf a b (pre a b) : Nat) : Int), v]) ∧
      Hid (IsC w' v ((b.drop (pre a b)).take (b.length - pre a b - suf a b (pre a b)))) ∧ Below w.heap.size w w' := by
  have HA := hide ha
  have HB := hide hb
  have HF := hide (ahead_any va vb a b w ha hb)
  obtain ⟨ao, ca, rfl, h1, ⟨h2, -⟩, -⟩ := ha
  obtain ⟨bo, cb, rfl, h3, ⟨h4, -⟩, -⟩ := hb
  obtain ⟨hp1, hp2⟩ := pre_le a b
  obtain ⟨hs1, hs2⟩ := suf_le a b (pre a b)
  have HS : Hid (suf a b (pre a b) = pre (a.drop (pre a b)).reverse (b.drop (pre a b)).reverse) := rfl
  generalize suf a b (pre a b) = m at *
  generalize pre a b = f at *
  have HA1 := hide ((HA.out).cut hp1)
  have HB1 := hide ((HB.out).cut hp2)
  obtain ⟨ao', e1⟩ : ∃ x, (if ca = f then ao else ao.map fun x => x.add (f * 4)) = x := ⟨_, rfl⟩
  obtain ⟨bo', e2⟩ : ∃ x, (if cb = f then bo else bo.map fun x => x.add (f * 4)) = x := ⟨_, rfl⟩
  rw [e1] at HA1
  rw [e2] at HB1
  obtain ⟨p, hp⟩ : ∃ p, a.length - f - m = p := ⟨_, rfl⟩
  obtain ⟨q, hq⟩ : ∃ q, b.length - f - m = q := ⟨_, rfl⟩
  have j1 : ((a.length - f : Nat) : Int) - (m : Int) = (p : Int) := by omega
  have j2 : ((b.length - f : Nat) : Int) - (m : Int) = (q : Int) := by omega
  have j3 : (q : Int) ≤ ((cb - f : Nat) : Int) := by omega
  have j4 : q ≤ cb - f := by omega
  have HQ : Hid (q ≤ (b.drop f).length) := by show _ ≤ _; rw [List.length_drop]; omega
  rw [hp, hq]
  clear hp hq
  have i1 : (f : Int) ≤ (a.length : Int) := by omega
  have i2 : (f : Int) ≤ (b.length : Int) := by omega
  go_enter Tryz.func9, Tryz.ntmps9
  go_wp2_with fail
  refine (HF.out).mono ?_
  rintro e w1 ⟨rfl, k1⟩
  have K1 := hide k1
  clear k1 HF
  go_wp2_with fail
  go_quiet (fail)
  have K2 := hide (belowN K1.out nq)
  generalize w1.drewN nq = w2 at *
  clear K1 e1 e2
  go_wp2_with fail
  refine (behind_any _ _ (a.drop f) (b.drop f) w2 ((HA1.out).below K2.out) ((HB1.out).below K2.out)).mono ?_
  rintro e w3 ⟨rfl, k3⟩
  rw [← HS.out]
  have K3 := hide ((K2.out).trans (k3.mono (K2.out).size))
  clear k3 K2
  have HB3 := hide (((HB1.out).below K3.out).take (k := q) HQ.out)
  go_wp2_with fail
  have k4 : Below w3.heap.size w3 (w3.alloc (Obj.cells #[Value.slice bo' q (cb - f)] 33)) := (Below.refl _ w3).alloc (Nat.le_refl _) _
  have HC := hide (concat1_any w3.heap.size _ _ (w3.alloc (Obj.cells #[Value.slice bo' q (cb - f)] 33)) (by rw [cell_of_row _ _ 0 _ _ _ (heap_alloc_new w3 _)]; rfl) ((HB3.out).below k4))
  have K4 := hide ((K3.out).trans (k4.mono (K3.out).size))
  refine (HC.out).mono ?_
  rintro e w5 ⟨v, rfl, H5, k5⟩
  have K5 := hide ((K4.out).trans (k5.mono (K4.out).size))
  clear k4 HC K4 k5 K3 HB3
  go_wp2_with fail
  go_ret3
  exact ⟨v, rfl, H5, K5.out⟩

set_option maxRecDepth 100000 in
set_option maxHeartbeats 1000000 in
theorem patch_yes (va vb : Value) (a b : List Cl) (t d : Nat) (w : World) (ha : IsC w va a) (hb : IsC w vb b) (hy : t + d ≤ a.length) (hl : a.length + b.length ≤ 1073741824) :
    Calls Tryz.prog 10 #[va, .int .i64 t, .int .i64 d, vb] w fun e w' => ∃ v, e = .returned (.tuple #[v, .nilIface]) ∧ Hid (IsC w' v (a.take t ++ b ++ a.drop (t + d))) ∧ Below w.heap.size w w' := by
  have HA := hide ha
  have HB := hide hb
  obtain ⟨ao, ca, rfl, h1, ⟨h2, -⟩, -⟩ := ha
  obtain ⟨bo, cb, rfl, h3, ⟨h4, -⟩, -⟩ := hb
  obtain ⟨s, hs⟩ : ∃ s, t + d = s := ⟨_, rfl⟩
  rw [hs] at hy ⊢
  have HA1 := hide ((HA.out).cut hy)
  have HA0 := hide ((HA.out).take (k := t) (by omega))
  obtain ⟨ao', e1⟩ : ∃ x, (if ca = s then ao else ao.map fun x => x.add (s * 4)) = x := ⟨_, rfl⟩
  rw [e1] at HA1
  have i1 : decide ((t : Int) < 0) = false := by simp
  have i2 : decide ((d : Int) < 0) = false := by simp
  have i3 : decide ((a.length : Int) - t < d) = false := by simp; omega
  have i4 : (t : Int) ≤ (ca : Int) := by omega
  have i5 : (t : Int) + d = (s : Int) := by omega
  have i6 : (s : Int) ≤ (a.length : Int) := by omega
  have HC : Hid (∀ W : World, Below w.heap.size w W → W.heap[w.heap.size]? = some (.cells #[.slice ao t ca, .slice bo b.length cb, .slice ao' (a.length - s) (ca - s)] 33 (0, 0)) →
      Calls Tryz.prog 18 #[.slice (some ⟨w.heap.size, 0, none⟩) 3 3] W fun e w' => ∃ v, e = .returned v ∧ Hid (IsC w' v (a.take t ++ b ++ a.drop s) ∧ Below w.heap.size w w')) := by
    intro W hk hc
    refine (concat3_any w.heap.size _ _ _ (a.take t) b (a.drop s) W (cell_of_row _ _ 0 _ _ _ hc) (cell_of_row _ _ 1 _ _ _ hc) (cell_of_row _ _ 2 _ _ _ hc) ((HA0.out).below hk) ((HB.out).below hk) ((HA1.out).below hk) (by rw [List.length_take, List.length_drop]; omega)).mono ?_
    rintro e w' ⟨v, rfl, q1, q2⟩
    exact ⟨v, rfl, q1.out, hk.trans (q2.mono hk.size)⟩
  have i7 : IntKind.i64.wrap ((t : Int) + d) = (t : Int) + d := by rw [IntKind.wrap_i64]; omega
  have i8 : (0 : Int) ≤ (t : Int) + d := by omega
  have i9 : (t : Int) + d ≤ (a.length : Int) := by omega
  have i10 : ((t : Int) + d).toNat = s := by omega
  clear i5 i6
  clear HA HB HA1 HA0 hs
  go_enter Tryz.func10, Tryz.ntmps10
  go_wp2_with fail
  go_region_held3 (fun _ => True) (exact trivial) ((go_at_call 18; refine ((HC.out) _ ?_ ?_).mono ?_; (first | exact ((Below.refl _ w).alloc (Nat.le_refl _) _).drew | exact ((Below.refl _ w).drew.alloc (Nat.le_refl _) _) | exact ((Below.refl _ w).alloc (Nat.le_refl _) _)); (first | exact heap_alloc_new w _ | exact heap_alloc_new w.drew _); rintro e w3 ⟨v, rfl, kS⟩))
  go_wp2_with fail
  go_ret2
  exact ⟨v, rfl, (kS.out).1, (kS.out).2⟩
end Go.Proofs.YtgjbafamiggafaaGreatDoor
