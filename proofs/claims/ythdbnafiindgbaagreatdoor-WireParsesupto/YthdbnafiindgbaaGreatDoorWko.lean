/- The document's reader of messages: a list or a map while it is being read. -/
import Derived.Test.YthdbnafiindgbaaGreatDoorWk0
import Derived.Maps.AppendAt
namespace Go.Proofs.YthdbnafiindgbaaGreatDoor
open Go.RowKit
open Wi

theorem InM.drew {w0 w : World} {rb N : Nat} {k n : Int} {t : List UInt8} {kv rv : Value} {ks : List (List UInt8)} {kids : List J} {vl : List Value} {A : Nat → Prop} (h : InM w0 rb N k n t kv rv ks kids vl A w) (m : Nat) : InM w0 rb N k n t kv rv ks kids vl A (w.drewN m) := h.below (belowN (Below.refl _ w) m)
theorem jcell_set4 {w : World} {N : Nat} {k n : Int} {t : List UInt8} {kv rv x : Value} (h : w.heap[N]? = some (jcell k n t kv rv)) : (w.setCell ⟨N, 4, none⟩ x).heap[N]? = some (jcell k n t kv x) := by
  simp [World.setCell, Array.getElem?_modify, h, jcell]
/-- One key more: what an append has turned, and the store behind it. -/
theorem InM.addKey {w0 w w1 : World} {rb N : Nat} {k n : Int} {t : List UInt8} {kv rv kv' : Value} {ks : List (List UInt8)} {kids : List J} {vl : List Value} {A : Nat → Prop} {x : List UInt8} (h : InM w0 rb N k n t kv rv ks kids vl A w)
    (ho : w1.ownsRow w0.heap.size 9 1 kv' (ks.length + 1) (strv ks ++ [.string (ba x)])) (hk : Kp (fun q => kv.ownBlock = some q) w w1) (hl : kv'.ownBlock = kv.ownBlock ∨ ∃ q, kv'.ownBlock = some q ∧ w.heap.size ≤ q) :
    InM w0 rb N k n t kv' rv (ks ++ [x]) kids vl A (w1.setCell ⟨N, 3, none⟩ kv') := by
  have hN := heap_lt h.blk
  have gk := owns_geW h.keys
  have gr := owns_geW h.row
  have kN : kv'.ownBlock ≠ some N := by
    rcases hl with e | ⟨q, e, hq⟩
    · rw [e]; exact h.kvN
    · rw [e]; intro e'; injection e' with e'; omega
  have kk : Kp (fun q => kv.ownBlock = some q ∨ q = N) w (w1.setCell ⟨N, 3, none⟩ kv') := (hk.mono (fun _ _ e => .inl e)).setCell (fun _ => .inr rfl) _
  have k2 : Kp (fun q => q = N) w1 (w1.setCell ⟨N, 3, none⟩ kv') := Kp.setCell (S := fun q => q = N) (Kp.refl _ w1) (fun _ => rfl) _
  refine ⟨jcell_set3 (hk.heap h.blk h.kvN), ?_, ?_, fun i j hj => ?_, fun q hq => ?_, kN, h.rvN, fun q e => ?_, h.lo, ?_, h.rbl⟩
  · rw [List.length_append, List.length_singleton, strv_snoc]
    exact k2.owns ho (fun q e e' => kN (e' ▸ e))
  · refine kk.owns h.row (fun q e => ?_)
    rintro (e' | e')
    · exact h.krv q e' e
    · exact h.rvN (e' ▸ e)
  · obtain ⟨v, h1, h2⟩ := h.kid i j hj
    refine ⟨v, h1, h2.keep kk (fun q hq => ?_)⟩
    obtain ⟨-, -, s3, s4, -⟩ := h.sep q hq
    rintro (e | e)
    · exact s4 e
    · exact s3 e
  · obtain ⟨s1, s2, s3, s4, s5⟩ := h.sep q hq
    refine ⟨s1, Nat.lt_of_lt_of_le s2 kk.size, s3, ?_, s5⟩
    rcases hl with e | ⟨q', e, hq'⟩
    · rw [e]; exact s4
    · rw [e]; intro e'; injection e' with e'; omega
  · rcases hl with e' | ⟨q', e', hq'⟩
    · rw [e'] at e; exact h.krv q e
    · rw [e'] at e; injection e with e; subst e
      intro e2
      have := (gr _ e2).2
      omega
  · refine Kp.trans h.ow kk (fun q hq e => ?_)
    rcases e with e | e
    · have := (gk q e).1; omega
    · have := h.lo; omega
/-- One kid more. -/
theorem InM.addKid {w0 w w1 : World} {rb N : Nat} {k n : Int} {t : List UInt8} {kv rv rv' v : Value} {ks : List (List UInt8)} {kids : List J} {vl : List Value} {A B : Nat → Prop} {j : J} (h : InM w0 rb N k n t kv rv ks kids vl A w) (hj : IsJ w B v j) (hB : ∀ q, B q → w0.heap.size ≤ q ∧ q < w.heap.size ∧ q ≠ N ∧ kv.ownBlock ≠ some q ∧ rv.ownBlock ≠ some q)
    (ho : w1.ownsRow w0.heap.size 30 1 rv' (kids.length + 1) (vl ++ [v])) (hk : Kp (fun q => rv.ownBlock = some q) w w1) (hl : rv'.ownBlock = rv.ownBlock ∨ ∃ q, rv'.ownBlock = some q ∧ w.heap.size ≤ q) :
    InM w0 rb N k n t kv rv' ks (kids ++ [j]) (vl ++ [v]) (fun q => A q ∨ B q) (w1.setCell ⟨N, 4, none⟩ rv') := by
  have hN := heap_lt h.blk
  have gk := owns_geW h.keys
  have gr := owns_geW h.row
  have rN : rv'.ownBlock ≠ some N := by
    rcases hl with e | ⟨q, e, hq⟩
    · rw [e]; exact h.rvN
    · rw [e]; intro e'; injection e' with e'; omega
  have kk : Kp (fun q => rv.ownBlock = some q ∨ q = N) w (w1.setCell ⟨N, 4, none⟩ rv') := (hk.mono (fun _ _ e => .inl e)).setCell (fun _ => .inr rfl) _
  have k2 : Kp (fun q => q = N) w1 (w1.setCell ⟨N, 4, none⟩ rv') := Kp.setCell (S := fun q => q = N) (Kp.refl _ w1) (fun _ => rfl) _
  have hAB : ∀ q, A q ∨ B q → w0.heap.size ≤ q ∧ q < w.heap.size ∧ q ≠ N ∧ kv.ownBlock ≠ some q ∧ rv.ownBlock ≠ some q := fun q hq => hq.elim (h.sep q) (hB q)
  have hst : ∀ q, A q ∨ B q → ¬ (rv.ownBlock = some q ∨ q = N) := fun q hq => by
    obtain ⟨-, -, s3, -, s5⟩ := hAB q hq
    rintro (e | e)
    · exact s5 e
    · exact s3 e
  have hvl : vl.length = kids.length := by have := h.row.1; omega
  refine ⟨jcell_set4 (hk.heap h.blk h.rvN), ?_, ?_, fun i j' hj' => ?_, fun q hq => ?_, h.kvN, rN, fun q e => ?_, h.lo, ?_, h.rbl⟩
  · refine kk.owns h.keys (fun q e => ?_)
    rintro (e' | e')
    · exact h.krv q e e'
    · exact h.kvN (e' ▸ e)
  · rw [List.length_append, List.length_singleton]
    exact k2.owns ho (fun q e e' => rN (e' ▸ e))
  · rcases Nat.lt_or_ge i kids.length with hi | hi
    · rw [List.getElem?_append_left hi] at hj'
      obtain ⟨v', h1, h2⟩ := h.kid i j' hj'
      exact ⟨v', by rw [List.getElem?_append_left (by omega)]; exact h1, (h2.mono (fun _ => .inl)).keep kk hst⟩
    · rw [List.getElem?_append_right hi] at hj'
      have hi0 : i - kids.length = 0 := by
        rcases Nat.eq_zero_or_pos (i - kids.length) with e | e
        · exact e
        · rw [List.getElem?_eq_none (by simp; omega)] at hj'; cases hj'
      rw [hi0] at hj'
      obtain rfl : j = j' := by simpa using hj'
      refine ⟨v, ?_, (hj.mono (fun _ => .inr)).keep kk hst⟩
      rw [List.getElem?_append_right (by omega), hvl, hi0]; rfl
  · obtain ⟨s1, s2, s3, s4, s5⟩ := hAB q hq
    refine ⟨s1, Nat.lt_of_lt_of_le s2 kk.size, s3, s4, ?_⟩
    rcases hl with e | ⟨q', e, hq'⟩
    · rw [e]; exact s5
    · rw [e]; intro e'; injection e' with e'; omega
  · rcases hl with e' | ⟨q', e', hq'⟩
    · rw [e']; exact h.krv q e
    · rw [e']; intro e2; injection e2 with e2; subst e2
      have := (gk _ e).2
      omega
  · refine Kp.trans h.ow kk (fun q hq e => ?_)
    rcases e with e | e
    · have := (gr q e).1; omega
    · have := h.lo; omega
/-- When all has been read. -/
theorem InM.done {w0 w : World} {rb N : Nat} {k n : Int} {t : List UInt8} {kv rv : Value} {ks : List (List UInt8)} {kids : List J} {vl : List Value} {A : Nat → Prop} (h : InM w0 rb N k n t kv rv ks kids vl A w) : IsJ w (fun q => w0.heap.size ≤ q ∧ q < w.heap.size) (.pointer (some ⟨N, 0, none⟩)) (.mk k n t ks kids) := by
  obtain ⟨ao, cap, e1, c1, c2, c3⟩ := owns_cells h.keys
  obtain ⟨bo, bcap, e2, d1, d2, d3⟩ := owns_cells h.row
  have hb := h.blk
  have gk := owns_geW h.keys
  have gr := owns_geW h.row
  rw [e1, e2] at hb
  refine .mk N k n t ks kids ao bo cap bcap (fun i => vl.getD i undef) ⟨h.lo, heap_lt h.blk⟩ hb ⟨c1, c2⟩ ⟨d1, d2⟩ (fun i x hx => ?_) (fun i hi => ?_) (fun i j hj => ?_)
  · obtain ⟨g, g1, g2, g3⟩ := c3 i (.string (ba x)) (by unfold strv; rw [List.getElem?_map, hx]; rfl)
    exact ⟨g, g1, gk g g2, g3⟩
  · obtain ⟨v, h1, -⟩ := h.kid i _ (List.getElem?_eq_getElem hi)
    obtain ⟨g, g1, g2, g3⟩ := d3 i v h1
    refine ⟨g, g1, gr g g2, ?_⟩
    rw [g3, List.getD_eq_getElem?_getD, h1]; rfl
  · obtain ⟨v, h1, h2⟩ := h.kid i j hj
    rw [List.getD_eq_getElem?_getD, h1]
    exact h2.mono (fun q hq => ⟨(h.sep q hq).1, (h.sep q hq).2.1⟩)
end Go.Proofs.YthdbnafiindgbaaGreatDoor
