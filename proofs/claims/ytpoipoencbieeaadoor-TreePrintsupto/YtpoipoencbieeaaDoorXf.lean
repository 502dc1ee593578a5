/- Parts of a tree in memory. -/
import Derived.Test.YtpoipoencbieeaaDoorXd
import Derived.Laws.AppendOwn
import Derived.Laws.OwnMore
import Derived.Deep.AppendLies
namespace Go.Proofs.YtpoipoencbieeaaDoor
open Go.RowKit
open M

/-- A part in memory; D: the blocks that finished parts lie in. -/
inductive IsP (w : World) (D : Nat → Prop) : Value → X.Part → Prop
  | leaf (k : Nat) (x : List UInt8) : IsP w D (.iface 80 (.agg #[.int .i64 k, .int .i64 x.length])) (.leaf k x)
  | miss (m : List UInt8) : IsP w D (.iface 92 (.string (ba m))) (.miss m)
  | br (k N cap : Nat) (ao : Option Addr) (vs : Nat → Value) (ps : List X.Part) (hN : D N)
      (hb : w.heap[N]? = some (.cells #[.int .i64 k, .slice ao ps.length cap] 36 (0, 0))) (hc : ps.length ≤ cap ∧ cap ≤ maxLen)
      (hr : ∀ i, i < ps.length → ∃ g, ao = some ⟨g, 0, none⟩ ∧ D g ∧ w.cell? ⟨g, i, none⟩ = some (vs i))
      (hp : ∀ (i : Nat) (p : X.Part), ps[i]? = some p → IsP w D (vs i) p) : IsP w D (.iface 33 (.pointer (some ⟨N, 0, none⟩))) (.br k ps)
  | kid (N n : Nat) (p : X.Part) (h : IsP w D (.iface 33 (.pointer (some ⟨N, 0, none⟩))) p) : IsP w D (.iface 42 (.agg #[.pointer (some ⟨N, 0, none⟩), .int .i64 n])) p
theorem IsP.mono {w : World} {D D' : Nat → Prop} (hD : ∀ q, D q → D' q) {v : Value} {p : X.Part} (h : IsP w D v p) : IsP w D' v p := by
  induction h with
  | leaf k x => exact .leaf k x
  | miss m => exact .miss m
  | br k N cap ao vs ps hN hb hc hr hp ih =>
    exact .br k N cap ao vs ps (hD _ hN) hb hc (fun i hi => by obtain ⟨g, h1, h2, h3⟩ := hr i hi; exact ⟨g, h1, hD _ h2, h3⟩) ih
  | kid N n p h ih => exact .kid N n p ih
theorem IsP.keep {S : Nat → Prop} {w w' : World} {D : Nat → Prop} (hk : Kp S w w') (hD : ∀ q, D q → ¬ S q) {v : Value} {p : X.Part} (h : IsP w D v p) : IsP w' D v p := by
  induction h with
  | leaf k x => exact .leaf k x
  | miss m => exact .miss m
  | br k N cap ao vs ps hN hb hc hr hp ih =>
    exact .br k N cap ao vs ps hN (hk.heap hb (hD _ hN)) hc (fun i hi => by obtain ⟨g, h1, h2, h3⟩ := hr i hi; exact ⟨g, h1, h2, hk.cellv h3 (hD _ h2)⟩) ih
  | kid N n p h ih => exact .kid N n p ih

/-- Values that are parts, one by one. -/
def Each (w : World) (D : Nat → Prop) (vs : List Value) (ps : List X.Part) : Prop := ∀ (i : Nat) (p : X.Part), ps[i]? = some p → ∃ v, vs[i]? = some v ∧ IsP w D v p
theorem Each.mono {w : World} {D D' : Nat → Prop} (hD : ∀ q, D q → D' q) {vs : List Value} {ps : List X.Part} (h : Each w D vs ps) : Each w D' vs ps :=
  fun i p hp => by obtain ⟨v, h1, h2⟩ := h i p hp; exact ⟨v, h1, h2.mono hD⟩
theorem Each.keep {S : Nat → Prop} {w w' : World} {D : Nat → Prop} (hk : Kp S w w') (hD : ∀ q, D q → ¬ S q) {vs : List Value} {ps : List X.Part} (h : Each w D vs ps) : Each w' D vs ps :=
  fun i p hp => by obtain ⟨v, h1, h2⟩ := h i p hp; exact ⟨v, h1, h2.keep hk hD⟩
theorem Each.nil (w : World) (D : Nat → Prop) : Each w D [] [] := fun i p hp => by simp at hp
theorem Each.snoc {w : World} {D : Nat → Prop} {vs : List Value} {ps : List X.Part} (h : Each w D vs ps) (hl : vs.length = ps.length) {v : Value} {p : X.Part} (hp : IsP w D v p) : Each w D (vs ++ [v]) (ps ++ [p]) := by
  intro i q hq
  by_cases hi : i < ps.length
  · rw [List.getElem?_append_left hi] at hq
    obtain ⟨u, h1, h2⟩ := h i q hq
    exact ⟨u, by rw [List.getElem?_append_left (by omega)]; exact h1, h2⟩
  · rw [List.getElem?_append_right (by omega)] at hq
    have h0 : i - ps.length = 0 := by
      rcases Nat.eq_zero_or_pos (i - ps.length) with g | g
      · exact g
      · rw [List.getElem?_eq_none (by simp; omega)] at hq; cases hq
    rw [h0] at hq
    obtain rfl : p = q := by simpa using hq
    exact ⟨v, by rw [List.getElem?_append_right (by omega), hl, h0]; rfl, hp⟩

/-- A branch's block and its row. -/
structure Bran (w : World) (B : Nat) (k : Nat) (rv : Value) (vs : List Value) : Prop where
  blk : w.heap[B]? = some (.cells #[.int .i64 k, rv] 36 (0, 0))
  row : w.ownsRow 0 62 1 rv vs.length vs
theorem Bran.lt {w : World} {B k : Nat} {rv : Value} {vs : List Value} (h : Bran w B k rv vs) : B < w.heap.size := heap_lt h.blk
theorem Bran.keep {S : Nat → Prop} {w w' : World} {B k : Nat} {rv : Value} {vs : List Value} (h : Bran w B k rv vs) (hk : Kp S w w') (hB : ¬ S B) (hg : ∀ g, rv.ownBlock = some g → ¬ S g) : Bran w' B k rv vs :=
  ⟨hk.heap h.blk hB, hk.owns h.row hg⟩
theorem Bran.facts {w : World} {B k : Nat} {rv : Value} {vs : List Value} (h : Bran w B k rv vs) :
    (w.cell? ⟨B, 0, none⟩ = some (.int .i64 k) ∧ w.cell? ⟨B, 1, none⟩ = some rv) ∧ (w.frozen? ⟨B, 0, none⟩ = false ∧ w.frozen? ⟨B, 1, none⟩ = false) := by
  have h := h.blk
  refine ⟨⟨?_, ?_⟩, ?_, ?_⟩ <;> simp [World.cell?, World.frozen?, h]
theorem infoP : (Tryd.prog.info? 62).map (fun i => (i.zero, i.size, i.bytes)) = some (some .nilIface, 1, 16) := by kernel_rfl
/-- What a branch's reader may turn. -/
def Sb (B : Nat) (rv : Value) (q : Nat) : Prop := q = B ∨ rv.ownBlock = some q

set_option maxRecDepth 100000 in
set_option maxHeartbeats 4000000 in
theorem add_any (B k : Nat) (rv : Value) (vs : List Value) (ty : TypeId) (x : Value) (w : World) (h : Bran w B k rv vs) (hg : ∀ g, rv.ownBlock = some g → g ≠ B) (hl : vs.length ≤ 1073741824) :
    Calls Tryd.prog 11 #[.pointer (some ⟨B, 0, none⟩), .iface ty x] w fun e w' => e = .returned (.tuple #[]) ∧ ∃ rv', Bran w' B k rv' (vs ++ [.iface ty x]) ∧ (∀ g, rv'.ownBlock = some g → rv.ownBlock = some g ∨ w.heap.size ≤ g) ∧ Kp (Sb B rv) w w' := by
  obtain ⟨i0, hi0, hz0, hz1, hz2⟩ := info_parts infoP
  obtain ⟨⟨c0, c1⟩, f0, f1⟩ := h.facts
  have HB := hide h
  have hbl := h.lt
  have HG := hide hg
  clear h hg
  go_enter Tryd.func11, Tryd.ntmps11
  go_wp2_with (at_builtin; refine wpList_append_lies _ rfl _ _ 34 rfl 0 62 i0 _ 1 16 Tryd.underlying34 hi0 hz0 hz1 hz2 rfl (by decide) rv vs.length _ rfl ((HB.out).row.alloc _) ⟨w.heap.size, 0, none⟩ 1 1 [.iface ty x] rfl rfl (World.news_of_block (cs := #[.iface ty x]) (heap_alloc_new w _)) (by simp [Value.oneCell']) (by omega) (by unfold maxLen; omega) (by omega) (Nat.zero_le _) (w.heap.size + 1) (by simp) ?_; intro g cap5 w5 hown5 hgrow5 hat5 hlt5; have x1 : w5.cell? ⟨B, 1, none⟩ = some rv := (hgrow5.cell_far ⟨B, 1, none⟩ (by simp; omega) (fun e => (HG.out) B e.symm rfl)).trans (Lib.cell?_alloc_some _ c1); have x2 : w5.frozen? ⟨B, 1, none⟩ = false := (hgrow5.frozen_far ⟨B, 1, none⟩ (by simp; omega) (fun e => (HG.out) B e.symm rfl)).trans ((World.frozen?_alloc_old _ _ ⟨B, 1, none⟩ (Nat.ne_of_lt hbl)).trans f1); have HW5 := hide hown5; have HG5 := hide hgrow5; clear hown5 hgrow5)
  go_end0
  have hk1 : Kp (Sb B rv) w w5 := Kp.grown (Kp.alloc (Kp.refl _ w) _) HG5.out (fun k e _ => .inr e)
  have hk : Kp (Sb B rv) w (w5.setCell ⟨B, 1, none⟩ (.slice (some ⟨g, 0, none⟩) (vs.length + 1) cap5)) := Kp.setCell hk1 (p := ⟨B, 1, none⟩) (fun _ => .inl rfl) _
  have hgB : g ≠ B := by
    rcases hat5 with e | e
    · exact (HG.out) g e
    · omega
  refine ⟨rfl, .slice (some ⟨g, 0, none⟩) (vs.length + 1) cap5, ⟨?_, ?_⟩, ?_, hk⟩
  · have h5 : w5.heap[B]? = some (.cells #[.int .i64 k, rv] 36 (0, 0)) := (HG5.out).block B (by simp; omega) (fun e => (HG.out) B e.symm rfl) |>.trans ((heap_alloc_old w _ hbl).trans (HB.out).blk)
    simp [World.setCell, Array.getElem?_modify, h5]
  · rw [List.length_append]
    exact ownsRow_setCell_other HW5.out (by simp [Value.ownBlock]; omega) _
  · intro q hq
    simp only [Value.ownBlock, Option.some.injEq] at hq
    subst hq
    rcases hat5 with e | e
    · exact .inl e
    · exact .inr (by omega)
end Go.Proofs.YtpoipoencbieeaaDoor
