/- Sets of texts in memory: the keys that a map has had. -/
import Derived.Test.YthdbnafiindgbaaGreatDoorKa
import Derived.Test.YthdbnafiindgbaaGreatDoorProg
import Derived.Maps.OwnSet
namespace Go.Proofs.YthdbnafiindgbaaGreatDoor
open Go.RowKit
open Go.Maps (Keyed)
theorem keyT : Keyed Tryz.prog 9 := Go.Maps.string_keyed Tryz.underlying9
theorem zeroU (w : World) : (zeroValue 115).run Tryz.prog w = .ok (.agg #[]) w := by kernel_rfl
/-- A set of texts: at most so many, and these. -/
def Ms (w : World) (b n : Nat) (S : List (List UInt8)) : Prop :=
  ∃ D : DataW Unit, w.ownsMap Tryz.prog 9 unitElem b n D ∧ ∀ x : List UInt8, Maps.has D (.string x) = decide (x ∈ S)
theorem Ms.made (w : World) : Ms (w.alloc (.map #[] 0)) w.heap.size 0 [] :=
  ⟨.map [], World.ownsMap_made w _ _ _, fun _ => rfl⟩
theorem Ms.keep {S : Nat → Prop} {w w' : World} {b n : Nat} {L : List (List UInt8)} (h : Ms w b n L) (hk : Kp S w w') (hn : ¬ S b) : Ms w' b n L := by
  obtain ⟨D, ⟨es, clock, hb, r⟩, h2⟩ := h
  exact ⟨D, ⟨es, clock, hk.heap hb hn, r⟩, h2⟩
theorem Ms.below {w w' : World} {b n : Nat} {L : List (List UInt8)} (h : Ms w b n L) (hk : Below w.heap.size w w') : Ms w' b n L := h.keep (Kp.ofBelow hk (fun _ => False)) id
theorem Ms.obj {w : World} {b n : Nat} {L : List (List UInt8)} (h : Ms w b n L) : ∃ es clock, w.heap[b]? = some (.map es clock) := by
  obtain ⟨D, ⟨es, clock, hb, r⟩, h2⟩ := h
  exact ⟨es, clock, hb⟩
theorem Ms.lt {w : World} {b n : Nat} {L : List (List UInt8)} (h : Ms w b n L) : b < w.heap.size := by
  obtain ⟨es, clock, e⟩ := h.obj
  exact heap_lt e
/-- A map lies in no row. -/
theorem Ms.off {w : World} {b n : Nat} {L : List (List UInt8)} (h : Ms w b n L) {base : Nat} {e : TypeId} {size : Nat} {v : Value} {m : Nat} {xs : List Value} (ho : w.ownsRow base e size v m xs) : v.ownBlock ≠ some b := fun e1 => by
  obtain ⟨es, clock, hb⟩ := h.obj
  rcases ho.2 with ⟨rfl, -⟩ | ⟨g, cap, cur, rfl, -, hg, -⟩
  · cases e1
  · cases e1
    rw [hb] at hg; cases hg
theorem Ms.offc {w : World} {b n B : Nat} {L : List (List UInt8)} {c : Array Value} {t : TypeId} {fz : Nat × Nat} (h : Ms w b n L) (hB : w.heap[B]? = some (.cells c t fz)) : b ≠ B := fun e => by
  obtain ⟨es, clock, hb⟩ := h.obj
  rw [← e, hb] at hB; cases hB
theorem ba_keyT {k : List UInt8} (hk : k.length ≤ maxLen) : keyOf Tryz.prog 9 (.string (ba k)) = some (.string k) := by
  have := Go.WideMaps.keyOf_string_mk Tryz.underlying9 (s := ba k) (by rw [ba_size]; exact hk)
  rw [this]
  simp [ba]
theorem Ms.run_ok {w : World} {b n : Nat} {L : List (List UInt8)} (h : Ms w b n L) {k : List UInt8} (hk : k.length ≤ maxLen) :
    (Instr.lookup 93 (.map (some b)) (.string (ba k)) true).run Tryz.prog w = .ok (.tuple #[.agg #[], .bool (decide (k ∈ L))]) w := by
  obtain ⟨D, h1, h2⟩ := h
  obtain ⟨v, ps, hr, hv⟩ := h1.look_ok keyT Tryz.underlying93 (zeroU w) unitElem_mk (ba_keyT hk)
  obtain ⟨rfl, -⟩ := unitElem_inv hv
  rw [hr, h2 k]
theorem Ms.run_put {w : World} {b n : Nat} {L : List (List UInt8)} (h : Ms w b n L) (hn : n < maxLen) {k : List UInt8} (hk : k.length ≤ maxLen) :
    ∃ w', (Instr.mapUpdate 93 (.map (some b)) (.string (ba k)) (.agg #[])).run Tryz.prog w = .ok () w' ∧ Ms w' b (n + 1) (L ++ [k]) ∧ Kp (fun q => q = b) w w' ∧ w'.heap.size = w.heap.size := by
  obtain ⟨D, h1, h2⟩ := h
  obtain ⟨w', hr, ho, hg⟩ := h1.store keyT Tryz.underlying93 hn (ba_keyT hk) (unitElem_mk (H := Unit))
  have hsz : w'.heap.size = w.heap.size := by
    obtain ⟨es, clock, es', clock', -, rfl⟩ := hg
    simp [Go.ChangeMaps.setBlock]
  refine ⟨w', hr, ⟨_, ho, fun x => ?_⟩, (Kp.refl _ w).grown hg.grown (fun q e _ => by cases e; rfl), hsz⟩
  by_cases hx : x = k
  · subst hx
    rw [Maps.has_put_same h1.isMap (k := .string x) (show WideAt.IsKeyLit (.string x) from trivial) _]; simp
  · have hne : (Lit.string x) ≠ .string k := fun e => hx (by cases e; rfl)
    rw [Maps.has_put_other hne, h2 x]; simp [hx]
end Go.Proofs.YthdbnafiindgbaaGreatDoor
