/- What spans mean: the walk. -/
import Derived.Test.YtobdfddpiobhhaaGb
namespace Go.Proofs.Ytobdfddpiobhhaa
open Go.RowKit
open EM
theorem raw_get {Ls : List Sp} {k : Nat} {r : Rw} (h : (Ls.map raw)[k]? = some r) : ∃ c, Ls[k]? = some c ∧ r = raw c := by
  rw [List.getElem?_map] at h
  cases hc : Ls[k]? with
  | none => rw [hc] at h; cases h
  | some c => rw [hc] at h; exact ⟨c, rfl, (Option.some.inj h).symm⟩
theorem Ok_get {a n : Nat} {Ls : List Sp} (h : Ok a n Ls) {k : Nat} {c : Sp} (hc : Ls[k]? = some c) : c.f ≤ c.t ∧ c.t ≤ n := by
  induction Ls generalizing a k with
  | nil => simp at hc
  | cons d L ih =>
    cases k with
    | zero => obtain rfl : d = c := by simpa using hc
              exact ⟨h.2.1, h.2.2.le⟩
    | succ k => exact ih h.2.2 (by simpa using hc)
theorem take_snoc {Ls : List Sp} {k : Nat} {c : Sp} (hc : Ls[k]? = some c) : Ls.take (k + 1) = Ls.take k ++ [c] := by
  rw [List.take_add_one, hc]; rfl
theorem alloc_at (w : World) (o : Obj) (k : Nat) : (w.alloc o).heap[k]? = if k = w.heap.size then some o else w.heap[k]? := by
  show (w.heap.push o)[k]? = _
  rw [Array.getElem?_push]
/-- A block of three cells, written. -/
def set3 (w : World) (b : Nat) (y0 y1 y2 : Value) : World := ((w.setCell ⟨b, 0, none⟩ y0).setCell ⟨b, 1, none⟩ y1).setCell ⟨b, 2, none⟩ y2
theorem set3_at {w : World} {b : Nat} {x0 x1 x2 : Value} {t : TypeId} (h : w.heap[b]? = some (.cells #[x0, x1, x2] t (0, 0))) (y0 y1 y2 : Value) : (set3 w b y0 y1 y2).heap[b]? = some (.cells #[y0, y1, y2] t (0, 0)) := by
  simp [set3, World.setCell, Array.getElem?_modify, h]
theorem set3_kp {S : Nat → Prop} {a w : World} (h : Kp S a w) (b : Nat) (y0 y1 y2 : Value) (hb : b < a.heap.size → S b) : Kp S a (set3 w b y0 y1 y2) :=
  ((h.setCell (p := ⟨b, 0, none⟩) hb _).setCell (p := ⟨b, 1, none⟩) hb _).setCell (p := ⟨b, 2, none⟩) hb _
theorem set3_below {B : Nat} {a w : World} (h : Below B a w) (b : Nat) (hB : B ≤ b) (y0 y1 y2 : Value) : Below B a (set3 w b y0 y1 y2) :=
  ((h.setCell (p := ⟨b, 0, none⟩) hB _).setCell (p := ⟨b, 1, none⟩) hB _).setCell (p := ⟨b, 2, none⟩) hB _
theorem drew_at (w : World) (k : Nat) : w.drew.heap[k]? = w.heap[k]? := rfl
theorem made4 (w : World) (z a b c : Obj) : ((((w.alloc z).alloc a).alloc b).alloc c).drew.heap[w.heap.size]? = some z ∧ ((((w.alloc z).alloc a).alloc b).alloc c).drew.heap[w.heap.size + 1]? = some a ∧
    ((((w.alloc z).alloc a).alloc b).alloc c).drew.heap[w.heap.size + 1 + 1]? = some b ∧ ((((w.alloc z).alloc a).alloc b).alloc c).drew.heap[w.heap.size + 1 + 1 + 1]? = some c := by
  have a1 := alloc_at w z
  have a2 := alloc_at (w.alloc z) a
  have a3 := alloc_at ((w.alloc z).alloc a) b
  have a4 := alloc_at (((w.alloc z).alloc a).alloc b) c
  simp only [World.size_alloc] at a1 a2 a3 a4
  refine ⟨?_, ?_, ?_, ?_⟩
  · rw [drew_at, a4, if_neg (by omega), a3, if_neg (by omega), a2, if_neg (by omega), a1]; simp
  · rw [drew_at, a4, if_neg (by omega), a3, if_neg (by omega), a2]; simp
  · rw [drew_at, a4, if_neg (by omega), a3]; simp
  · rw [drew_at, a4]; simp
theorem Below4 (w : World) (z a b c : Obj) : Below w.heap.size w ((((w.alloc z).alloc a).alloc b).alloc c).drew :=
  (((((Below.refl _ w).alloc (Nat.le_refl _) _).alloc (by simp) _).alloc (by simp; omega) _).alloc (by simp; omega) _).drew
end Go.Proofs.Ytobdfddpiobhhaa
