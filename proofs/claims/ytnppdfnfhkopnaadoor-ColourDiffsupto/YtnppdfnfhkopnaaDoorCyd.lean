/- Colours: what has changed of them (Diff). -/
import Derived.Test.YtnppdfnfhkopnaaDoorCyb
import Derived.Test.YtnppdfnfhkopnaaDoorCyc
import Derived.Test.YtnppdfnfhkopnaaDoorErb
namespace Go.Proofs.YtnppdfnfhkopnaaDoor
open Go.RowKit

/-- How many of two rows are the same to the end of both, behind the first ones. -/
def suf (a b : List Cl) (f : Nat) : Nat := pre (a.drop f).reverse (b.drop f).reverse
theorem suf_le (a b : List Cl) (f : Nat) : suf a b f ≤ a.length - f ∧ suf a b f ≤ b.length - f := by
  have := pre_le (a.drop f).reverse (b.drop f).reverse
  rw [List.length_reverse, List.length_reverse, List.length_drop, List.length_drop] at this
  exact this
theorem IsC.cut {w : World} {ao : Option Addr} {n cap : Nat} {L : List Cl} (h : IsC w (.slice ao n cap) L) {k : Nat} (hk : k ≤ L.length) : IsC w (.slice (if cap = k then ao else ao.map fun x => x.add (k * 4)) (L.length - k) (cap - k)) (L.drop k) := by
  split
  · rename_i e
    obtain ⟨_, _, e', h1, h2, h3⟩ := h
    cases e'
    have e0 : L.length - k = 0 := by omega
    have e1 : L.drop k = [] := List.drop_eq_nil_of_le (by omega)
    rw [e0, e1]
    exact IsC.none _ (by have := h2.2; omega) _
  · exact h.drop hk

set_option maxRecDepth 100000 in
set_option maxHeartbeats 1000000 in
theorem diff_any (va vb : Value) (a b : List Cl) (w : World) (ha : IsC w va a) (hb : IsC w vb b) :
    Calls Tryd.prog 4 #[va, vb] w fun e w' => ∃ v, e = .returned (.tuple #[.int .i64 (pre a b : Nat), .int .i64 ((a.length - pre a b - suf a b (pre a b) : Nat) : Int), v]) ∧
      Hid (IsC w' v ((b.drop (pre a b)).take (b.length - pre a b - suf a b (pre a b)))) ∧ Below w.heap.size w w' := by
  have HA := hide ha
  have HB := hide hb
  have HF := hide (ahead_any va vb a b w ha hb)
  obtain ⟨ao, ca, rfl, h1, ⟨h2, -⟩, -⟩ := ha
  obtain ⟨bo, cb, rfl, h3, ⟨h4, -⟩, -⟩ := hb
  obtain ⟨hp1, hp2⟩ := pre_le a b
  obtain ⟨hs1, hs2⟩ := suf_le a b (pre a b)
  have HS : Hid (suf a b (pre a b) = pre (a.drop (pre a b)).reverse (b.drop (pre a b)).reverse) := rfl
  generalize suf a b (pre a b) = m at *
  generalize pre a b = f at *
  have HA1 := hide ((HA.out).cut hp1)
  have HB1 := hide ((HB.out).cut hp2)
  obtain ⟨ao', e1⟩ : ∃ x, (if ca = f then ao else ao.map fun x => x.add (f * 4)) = x := ⟨_, rfl⟩
  obtain ⟨bo', e2⟩ : ∃ x, (if cb = f then bo else bo.map fun x => x.add (f * 4)) = x := ⟨_, rfl⟩
  rw [e1] at HA1
  rw [e2] at HB1
  obtain ⟨p, hp⟩ : ∃ p, a.length - f - m = p := ⟨_, rfl⟩
  obtain ⟨q, hq⟩ : ∃ q, b.length - f - m = q := ⟨_, rfl⟩
  have j1 : ((a.length - f : Nat) : Int) - (m : Int) = (p : Int) := by omega
  have j2 : ((b.length - f : Nat) : Int) - (m : Int) = (q : Int) := by omega
  have j3 : (q : Int) ≤ ((cb - f : Nat) : Int) := by omega
  have j4 : q ≤ cb - f := by omega
  have HQ : Hid (q ≤ (b.drop f).length) := by show _ ≤ _; rw [List.length_drop]; omega
  rw [hp, hq]
  clear hp hq
  have i1 : (f : Int) ≤ (a.length : Int) := by omega
  have i2 : (f : Int) ≤ (b.length : Int) := by omega
  go_enter Tryd.func4, Tryd.ntmps4
  go_wp2_with fail
  refine (HF.out).mono ?_
  rintro e w1 ⟨rfl, k1⟩
  have K1 := hide k1
  clear k1 HF
  go_wp2_with fail
  go_quiet (fail)
  have K2 := hide (belowN K1.out nq)
  generalize w1.drewN nq = w2 at *
  clear K1 e1 e2
  go_wp2_with fail
  refine (behind_any _ _ (a.drop f) (b.drop f) w2 ((HA1.out).below K2.out) ((HB1.out).below K2.out)).mono ?_
  rintro e w3 ⟨rfl, k3⟩
  rw [← HS.out]
  have K3 := hide ((K2.out).trans (k3.mono (K2.out).size))
  clear k3 K2
  have HB3 := hide (((HB1.out).below K3.out).take (k := q) HQ.out)
  go_wp2_with fail
  have k4 : Below w3.heap.size w3 (w3.alloc (Obj.cells #[Value.slice bo' q (cb - f)] 22)) := (Below.refl _ w3).alloc (Nat.le_refl _) _
  have HC := hide (concat1_any w3.heap.size _ _ (w3.alloc (Obj.cells #[Value.slice bo' q (cb - f)] 22)) (by rw [cell_of_row _ _ 0 _ _ _ (heap_alloc_new w3 _)]; rfl) ((HB3.out).below k4))
  have K4 := hide ((K3.out).trans (k4.mono (K3.out).size))
  refine (HC.out).mono ?_
  rintro e w5 ⟨v, rfl, H5, k5⟩
  have K5 := hide ((K4.out).trans (k5.mono (K4.out).size))
  clear k4 HC K4 k5 K3 HB3
  go_wp2_with fail
  go_ret3
  exact ⟨v, rfl, H5, K5.out⟩

set_option maxRecDepth 100000 in
set_option maxHeartbeats 1000000 in
theorem patch_no (va vb : Value) (a : List Cl) (t d : Int) (w : World) (ha : IsC w va a) (hno : t < 0 ∨ d < 0 ∨ (a.length : Int) - t < d) (ht : -9223372036854775808 ≤ t ∧ t ≤ 9223372036854775807) :
    Calls Tryd.prog 5 #[va, .int .i64 t, .int .i64 d, vb] w fun e w' => e = .returned (.tuple #[.slice none 0 0, errV 1]) ∧ Below w.heap.size w w' := by
  obtain ⟨ao, ca, rfl, h1, ⟨h2, -⟩, -⟩ := ha
  rw [show errV 1 = .iface 35 (.int .i64 1) from rfl]
  by_cases g1 : t < 0
  · have i1 : decide (t < 0) = true := decide_eq_true g1
    clear hno g1
    go_enter Tryd.func5, Tryd.ntmps5
    go_wp2_with fail
    go_ret2
    exact ⟨rfl, Below.refl _ _⟩
  · have i1 : decide (t < 0) = false := decide_eq_false g1
    by_cases g2 : d < 0
    · have i2 : decide (d < 0) = true := decide_eq_true g2
      clear hno g1 g2
      go_enter Tryd.func5, Tryd.ntmps5
      go_wp2_with fail
      go_ret2
      exact ⟨rfl, Below.refl _ _⟩
    · have i2 : decide (d < 0) = false := decide_eq_false g2
      have i3 : decide ((a.length : Int) - t < d) = true := decide_eq_true (by omega)
      have i4 : wrap64 ((a.length : Int) - t) = (a.length : Int) - t := by unfold wrap64; omega
      clear hno g1 g2
      go_enter Tryd.func5, Tryd.ntmps5
      go_wp2_with fail
      go_ret2
      exact ⟨rfl, Below.refl _ _⟩

set_option maxRecDepth 100000 in
set_option maxHeartbeats 1000000 in
theorem patch_yes (va vb : Value) (a b : List Cl) (t d : Nat) (w : World) (ha : IsC w va a) (hb : IsC w vb b) (hy : t + d ≤ a.length) (hl : a.length + b.length ≤ 1073741824) :
    Calls Tryd.prog 5 #[va, .int .i64 t, .int .i64 d, vb] w fun e w' => ∃ v, e = .returned (.tuple #[v, .nilIface]) ∧ Hid (IsC w' v (a.take t ++ b ++ a.drop (t + d))) ∧ Below w.heap.size w w' := by
  have HA := hide ha
  have HB := hide hb
  obtain ⟨ao, ca, rfl, h1, ⟨h2, -⟩, -⟩ := ha
  obtain ⟨bo, cb, rfl, h3, ⟨h4, -⟩, -⟩ := hb
  obtain ⟨s, hs⟩ : ∃ s, t + d = s := ⟨_, rfl⟩
  rw [hs] at hy ⊢
  have HA1 := hide ((HA.out).cut hy)
  have HA0 := hide ((HA.out).take (k := t) (by omega))
  obtain ⟨ao', e1⟩ : ∃ x, (if ca = s then ao else ao.map fun x => x.add (s * 4)) = x := ⟨_, rfl⟩
  rw [e1] at HA1
  have i1 : decide ((t : Int) < 0) = false := by simp
  have i2 : decide ((d : Int) < 0) = false := by simp
  have i3 : decide ((a.length : Int) - t < d) = false := by simp; omega
  have i4 : (t : Int) ≤ (ca : Int) := by omega
  have i5 : (t : Int) + d = (s : Int) := by omega
  have i6 : (s : Int) ≤ (a.length : Int) := by omega
  have HC : Hid (∀ W : World, Below w.heap.size w W → W.heap[w.heap.size]? = some (.cells #[.slice ao t ca, .slice bo b.length cb, .slice ao' (a.length - s) (ca - s)] 22 (0, 0)) →
      Calls Tryd.prog 9 #[.slice (some ⟨w.heap.size, 0, none⟩) 3 3] W fun e w' => ∃ v, e = .returned v ∧ Hid (IsC w' v (a.take t ++ b ++ a.drop s) ∧ Below w.heap.size w w')) := by
    intro W hk hc
    refine (concat3_any w.heap.size _ _ _ (a.take t) b (a.drop s) W (cell_of_row _ _ 0 _ _ _ hc) (cell_of_row _ _ 1 _ _ _ hc) (cell_of_row _ _ 2 _ _ _ hc) ((HA0.out).below hk) ((HB.out).below hk) ((HA1.out).below hk) (by rw [List.length_take, List.length_drop]; omega)).mono ?_
    rintro e w' ⟨v, rfl, q1, q2⟩
    exact ⟨v, rfl, q1.out, hk.trans (q2.mono hk.size)⟩
  have i7 : IntKind.i64.wrap ((t : Int) + d) = (t : Int) + d := by rw [IntKind.wrap_i64]; omega
  have i8 : (0 : Int) ≤ (t : Int) + d := by omega
  have i9 : (t : Int) + d ≤ (a.length : Int) := by omega
  have i10 : ((t : Int) + d).toNat = s := by omega
  clear i5 i6
  clear HA HB HA1 HA0 hs
  go_enter Tryd.func5, Tryd.ntmps5
  go_wp2_with fail
  go_region_held3 (fun _ => True) (exact trivial) ((go_at_call 9; refine ((HC.out) _ ?_ ?_).mono ?_; (first | exact ((Below.refl _ w).alloc (Nat.le_refl _) _).drew | exact ((Below.refl _ w).drew.alloc (Nat.le_refl _) _) | exact ((Below.refl _ w).alloc (Nat.le_refl _) _)); (first | exact heap_alloc_new w _ | exact heap_alloc_new w.drew _); rintro e w3 ⟨v, rfl, kS⟩))
  go_wp2_with fail
  go_ret2
  exact ⟨v, rfl, (kS.out).1, (kS.out).2⟩
end Go.Proofs.YtnppdfnfhkopnaaDoor
