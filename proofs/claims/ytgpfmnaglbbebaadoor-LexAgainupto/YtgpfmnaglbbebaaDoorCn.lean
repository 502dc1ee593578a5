/- slices.Concat at three rows of tokens: a row of its own. -/
import Derived.Test.YtgpfmnaglbbebaaDoorOb
import Derived.Shelf.Spec.SlicesGrow
namespace Go.Proofs
open Go.Shelf
def Tryd.laysGrow_ren : Go.Shelf.Ren := ⟨fun | 4 => 63 | n => n, fun | 0 => 0 | 3 => 3 | 4 => 4 | 9 => 9 | 20 => 20 | 22 => 22 | 25 => 29 | n => n, fun | n => n⟩
theorem Tryd.laysGrow : Lays8.n4 Tryd.prog Tryd.laysGrow_ren := {
  mixed := by kernel_rfl
  f4 := ⟨Tryd.f63.name, by kernel_rfl, Tryd.func63.trans (congrArg some (by kernel_rfl))⟩
  t0 := Tryd.underlying0
  a0 := Tryd.isAgg0
  z0 := Tryd.sizeOf0
  v0 := Tryd.zeroValue0
  t3 := Tryd.underlying3
  a3 := Tryd.isAgg3
  z3 := Tryd.sizeOf3
  v3 := Tryd.zeroValue3
  t4 := Tryd.underlying4
  a4 := Tryd.isAgg4
  z4 := Tryd.sizeOf4
  v4 := Tryd.zeroValue4
  t9 := Tryd.underlying9
  a9 := Tryd.isAgg9
  z9 := Tryd.sizeOf9
  v9 := Tryd.zeroValue9
  t20 := Tryd.underlying20
  a20 := Tryd.isAgg20
  z20 := Tryd.sizeOf20
  v20 := Tryd.zeroValue20
  t22 := Tryd.underlying22
  a22 := Tryd.isAgg22
  z22 := Tryd.sizeOf22
  v22 := Tryd.zeroValue22 }
end Go.Proofs
namespace Go.Proofs.YtgpfmnaglbbebaaDoor
open Go.RowKit
open M

theorem run_append_none (w : World) (B : Nat) (v : Value) (n : Nat) (xs : List Value) (hown : w.ownsRow B 29 3 v n xs) (c : Nat) (ty : TypeId) :
    (Builtin.append_ #[22, 22] ty #[v, .slice none 0 c]).run Tryd.prog w = .ok v w := by
  have h0 : (Builtin.firstCells 3 0 (.slice none 0 c)).run Tryd.prog w = .ok #[] w := run_firstCells_none w 3 0 0 c
  rcases hown.2 with ⟨rfl, rfl⟩ | ⟨g, cap, cur, rfl, hb, hg, hn, hm, hs, ht⟩
  · simp [Builtin.append_, Go.underlying, Tryd.underlying22, Tryd.sizeOf29, Builtin.lenOf, h0, Result.andThen]
  · simp [Builtin.append_, Go.underlying, Tryd.underlying22, Tryd.sizeOf29, Builtin.lenOf, h0, Result.andThen, hn, storeCells]
set_option maxRecDepth 100000 in
theorem run_append_t (w : World) (B : Nat) (v : Value) (n : Nat) (xs : List Value) (hown : w.ownsRow B 29 3 v n xs) (u : Value) (L : List Tk) (hT : IsT w u L) (hl : n + L.length ≤ 1073741824) (hB : B ≤ w.heap.size) (ty : TypeId) :
    ∃ v' w', (Builtin.append_ #[22, 22] ty #[v, u]).run Tryd.prog w = .ok v' w' ∧ w'.ownsRow B 29 3 v' (n + L.length) (xs ++ L.flatMap tkv) ∧ w.grownBy w' v.ownBlock := by
  obtain ⟨i0, hi0, hz0, hz1, hz2⟩ := info_parts info29
  have hT' := hT
  obtain ⟨ao, cap, rfl, hc1, hc2, h3⟩ := hT
  cases ao with
  | none =>
    have h0 : L = [] := by
      rcases Nat.eq_zero_or_pos L.length with g | g
      · exact List.length_eq_zero_iff.1 g
      · obtain ⟨b, o, e, -⟩ := h3 0 g; cases e
    subst h0
    exact ⟨v, w, run_append_none w B v n xs hown cap ty, by simpa using hown, ⟨rfl, rfl, rfl, Nat.le_refl _, fun _ _ _ => rfl⟩⟩
  | some ad =>
    have HN : ∀ j u, (L.flatMap tkv)[j]? = some u → w.cell? (ad.add j) = some u := by
      intro j u hu
      obtain ⟨i, t, r, q1, -⟩ := tkv_at L j u hu
      have hi : i < L.length := by
        rcases Nat.lt_or_ge i L.length with g | g
        · exact g
        · rw [List.getElem?_eq_none g] at q1; cases q1
      obtain ⟨b, o, e, -⟩ := h3 i hi
      injection e with e; subst e
      rw [Addr.add_lit]
      exact hT'.cells j u hu
    obtain ⟨v', w', a1, a2, a3, -⟩ := run_append_own (P := Tryd.prog) w B 22 ty 29 i0 _ 3 24 Tryd.underlying22 hi0 hz0 hz1 hz2 rfl (by decide) v n xs hown ad L.length cap (L.flatMap tkv) (tkv_len L) HN (tkv_one L) (by unfold maxLen; omega) (by omega) hB
    exact ⟨v', w', a1, a2, a3⟩

/-- slices.Grow of nothing: room, and nothing in it. -/
theorem grow_any (n : Nat) (w : World) (hn : n ≤ 1073741824) :
    Calls Tryd.prog 63 #[.slice none 0 0, .int .i64 n] w fun e w' => ∃ v, e = .returned v ∧ w'.ownsRow w.heap.size 29 3 v 0 [] ∧ Below w.heap.size w w' := by
  obtain ⟨i0, hi0, hz0, hz1, hz2⟩ := info_parts info29
  by_cases h : n = 0
  · subst h
    refine (Any8.slices_Grow_room Tryd.laysGrow none 0 0 0 w (Nat.le_refl _) (by omega) (by omega) (by omega)).mono ?_
    rintro e w' ⟨rfl, rfl⟩
    exact ⟨_, rfl, World.ownsRow_nil _ _ _ _, Below.refl _ _⟩
  · refine (Any8.slices_Grow_grow Tryd.laysGrow i0 _ hi0 hz0 (by rw [hz1]; omega) none 0 0 n [] w (Nat.le_refl _) (by omega) (by rw [hz2]; omega) (by omega) (by simp) (fun _ => rfl) (fun a e => by cases e)).mono ?_
    rintro e w' ⟨rfl, rfl⟩
    have hg := grownCap_ge w (0 + n) 0 29
    have hm := grownCap_le_maxLen w (0 + n) 0 29 (by unfold maxLen; omega)
    refine ⟨_, rfl, ⟨by simp, .inr ⟨_, _, _, rfl, Nat.le_refl _, heap_alloc_new w.drew _, Nat.zero_le _, hm, ?_, by simp⟩⟩, ((Below.refl _ w).drew).alloc (Nat.le_refl _) _⟩
    have hc : (Value.agg #[Value.int IntKind.i64 0, Value.int IntKind.i64 0, Value.int IntKind.i64 0]).cells.size = 3 := rfl
    simp only [List.toArray, Array.size_append, size_zeroCells, hc, Nat.zero_add, Nat.sub_zero] at hg ⊢
    show (#[] : Array Value).size + n * 3 + (grownCap w n 0 29 - n) * 3 = grownCap w n 0 29 * 3
    rw [show (#[] : Array Value).size = 0 from rfl]
    generalize grownCap w n 0 29 = G at *
    omega
end Go.Proofs.YtgpfmnaglbbebaaDoor
