/- Are the program's node and the document's the same? -/
import Derived.Test.YtpoipoencbieeaaGreatDoorZo
import Derived.Deep.RegionHeld3
namespace Go.Proofs.YtpoipoencbieeaaGreatDoor
open Go.RowKit
open M
theorem X.puts_get : ∀ (ps : List X.Part) (i f t : Int) (l : Bool) (j : Nat) (p : X.Part), ps[j]? = some p → ∃ i', (X.puts ps i f t l).1[j]? = some (X.put p i')
  | [], i, f, t, l, j, p, h => by simp at h
  | q :: ps, i, f, t, l, 0, p, h => by
    obtain rfl : q = p := by simpa using h
    exact ⟨i, by rw [X.puts]; rfl⟩
  | q :: ps, i, f, t, l, j + 1, p, h => by
    obtain ⟨i', h'⟩ := X.puts_get ps _ _ _ _ j p (by simpa using h)
    exact ⟨i', by rw [X.puts]; exact h'⟩
/-- What Node of package same does of a part. -/
def SameOk (p : X.Part) : Prop := ∀ (D : Nat → Prop) (lo hi : Nat) (v b : Value) (i : Int) (w : World), IsN w D v p → IsM w lo hi b (X.put p i) →
  Calls Tryz.prog 9 #[v, b] w fun e w' => e = .returned (.bool true) ∧ Below w.heap.size w w'
set_option maxRecDepth 100000 in
set_option maxHeartbeats 2000000 in
theorem node_same (k t : Nat) (x : List UInt8) (ao ao2 : Option Addr) (n cap cap2 N : Nat) (c0 c1 c2 c3 vs : Nat → Value) (at0 en fr tt : Int) (la : Bool) (w : World) (hn : n ≤ 1073741824) (hnd : Nd w N k t x (.slice ao2 n cap2) at0 en fr tt la)
    (hA : ∀ j, j < n → ∃ g, ao = some ⟨g, 0, none⟩ ∧ w.cell? ⟨g, j * 4, none⟩ = some (c0 j) ∧ w.cell? ⟨g, j * 4 + 1, none⟩ = some (c1 j) ∧ w.cell? ⟨g, j * 4 + 2, none⟩ = some (c2 j) ∧ w.cell? ⟨g, j * 4 + 3, none⟩ = some (c3 j))
    (hB : ∀ j, j < n → ∃ g, ao2 = some ⟨g, 0, none⟩ ∧ w.cell? ⟨g, j, none⟩ = some (vs j))
    (hCall : ∀ j, j < n → ∀ W, Below w.heap.size w W → Calls Tryz.prog 9 #[.agg #[c0 j, c1 j, c2 j, c3 j], vs j] W fun e w' => e = .returned (.bool true) ∧ Below W.heap.size W w') :
    Calls Tryz.prog 9 #[.agg #[.int .i64 k, .int .i64 t, .string (ba x), .slice ao n cap], .pointer (some ⟨N, 0, none⟩)] w fun e w' => e = .returned (.bool true) ∧ Below w.heap.size w w' := by
  have HA := hide hA
  have HB := hide hB
  have HCall := hide hCall
  have HND := hide hnd
  have hNl := heap_lt hnd
  clear hA hB hCall hnd
  have kA : Below w.heap.size w (w.alloc (.cells #[.int .i64 k, .int .i64 t, .string (ba x), .slice ao n cap] 26)) := (Below.refl _ w).alloc (Nat.le_refl _) _
  have HBlk : Hid ((w.alloc (.cells #[.int .i64 k, .int .i64 t, .string (ba x), .slice ao n cap] 26)).heap[w.heap.size]? = some (.cells #[.int .i64 k, .int .i64 t, .string (ba x), .slice ao n cap] 26 (0, 0))) := heap_alloc_new w _
  have HKA := hide kA
  clear kA
  go_enter Tryz.func9, Tryz.ntmps9
  go_wp2_with fail
  generalize w.alloc (.cells #[.int .i64 k, .int .i64 t, .string (ba x), .slice ao n cap] 26) = W at *
  have a0 : W.cell? ⟨w.heap.size, 0, none⟩ = some (.int .i64 k) := cell_of_row W _ 0 _ _ _ HBlk.out
  have a1 : W.cell? ⟨w.heap.size, 1, none⟩ = some (.int .i64 t) := cell_of_row W _ 1 _ _ _ HBlk.out
  have a2 : W.cell? ⟨w.heap.size, 2, none⟩ = some (.string (ba x)) := cell_of_row W _ 2 _ _ _ HBlk.out
  have a3 : W.cell? ⟨w.heap.size, 3, none⟩ = some (.slice ao n cap) := cell_of_row W _ 3 _ _ _ HBlk.out
  obtain ⟨⟨m0, m1, m2, m3, -⟩, -⟩ := Nd.facts ((Kp.ofBelow HKA.out (fun _ => False)).heap HND.out id)
  have i1 : ((k : Int) != (k : Int)) = false := by simp
  have i2 : ((t : Int) != (t : Int)) = false := by simp
  have i3 : ((ba x).toList != (ba x).toList) = false := by simp
  have i4 : ((n : Int) != (n : Int)) = false := by simp
  go_quiet (fail)
  go_wp2_with fail
  have hB0 : Below W.heap.size W (W.drewN nq) := belowN (Below.refl _ W) nq
  have hWl : w.heap.size < W.heap.size := heap_lt HBlk.out
  go_loopw [5] (fun v wr => ∃ j : Nat, v = .int .i64 j ∧ j ≤ n ∧ Hid (Below W.heap.size W wr)) (fun v _ => n - (intOf v).toNat)
  case atStart => exact ⟨0, rfl, Nat.zero_le _, hB0⟩
  case round =>
    obtain ⟨j, rfl, hj, HB2⟩ := hrel
    clear hB0 a0 a1 a2 a3 m0 m1 m2 m3 i1 i2 i3 i4
    have hkk := Kp.ofBelow HB2.out (fun _ => False)
    have a3 : wr.cell? ⟨w.heap.size, 3, none⟩ = some (.slice ao n cap) := hkk.cellv (cell_of_row W _ 3 _ _ _ HBlk.out) id
    obtain ⟨⟨m0, m1, m2, m3, -⟩, -⟩ := Nd.facts (hkk.heap ((Kp.ofBelow HKA.out (fun _ => False)).heap HND.out id) id)
    have HAll : Hid (Below w.heap.size w wr) := (HKA.out).trans ((HB2.out).mono (by omega))
    by_cases hlt : j < n
    case neg =>
      have i5 : decide (j < n) = false := by simp; omega
      have i6 : decide ((j : Int) < (n : Int)) = false := by simp; omega
      clear hkk
      go_wp2_with fail
      go_ret
      exact ⟨rfl, HAll.out⟩
    have i5 : decide (j < n) = true := by simp; omega
    have i6 : decide ((j : Int) < (n : Int)) = true := by simp; omega
    obtain ⟨gA, rfl, q0, q1, q2, q3⟩ := (HA.out) j hlt
    obtain ⟨gB, rfl, q4⟩ := (HB.out) j hlt
    have hka := Kp.ofBelow HAll.out (fun _ => False)
    have p0 := hka.cellv q0 id
    have p1 := hka.cellv q1 id
    have p2 := hka.cellv q2 id
    have p3 := hka.cellv q3 id
    have p4 := hka.cellv q4 id
    have hi1 : (0 : Int) ≤ (j : Int) := Int.natCast_nonneg _
    have hi2 : (j : Int) < (n : Int) := by omega
    have HC := hide ((HCall.out) j hlt)
    have hrw : w.heap.size ≤ wr.heap.size := (HAll.out).size
    clear q0 q1 q2 q3 q4 hka hkk
    go_wp2_with fail
    go_region_held3 (fun w' => w'.cell? ⟨w.heap.size, 3, none⟩ = some (.slice (some ⟨gA, 0, none⟩) n cap) ∧ w'.cell? ⟨gA, j * 4, none⟩ = some (c0 j) ∧ w'.cell? ⟨gA, j * 4 + 1, none⟩ = some (c1 j) ∧ w'.cell? ⟨gA, j * 4 + 2, none⟩ = some (c2 j) ∧ w'.cell? ⟨gA, j * 4 + 3, none⟩ = some (c3 j) ∧ w'.cell? ⟨N, 3, none⟩ = some (.slice (some ⟨gB, 0, none⟩) n cap2) ∧ w'.cell? ⟨gB, j, none⟩ = some (vs j))
      (first | (with_reducible exact ⟨kcb K2 (World.block_lt_of_cell? _ _ a3) a3, kcb K2 (World.block_lt_of_cell? _ _ p0) p0, kcb K2 (World.block_lt_of_cell? _ _ p1) p1, kcb K2 (World.block_lt_of_cell? _ _ p2) p2, kcb K2 (World.block_lt_of_cell? _ _ p3) p3, kcb K2 (World.block_lt_of_cell? _ _ m3) m3, kcb K2 (World.block_lt_of_cell? _ _ p4) p4⟩) | go_keep)
      ((go_at_call 9; refine ((HC.out) _ ?_).mono ?_; exact (HAll.out).drew; rintro e w5 ⟨rfl, k5⟩; have K2 : Below wr.heap.size wr w5 := ((Below.refl _ wr).drew).trans k5; have HK5 : Hid (Below W.heap.size W w5) := (HB2.out).trans (K2.mono (HB2.out).size)))
    go_wp2_with fail
    exact ⟨⟨j + 1, by go_num, by omega, HK5⟩, by simp only [intOf]; omega⟩
theorem same_any : ∀ (n : Nat) (p : X.Part), X.psz p ≤ n → X.psz p ≤ 1073741824 → SameOk p := by
  intro n
  induction n with
  | zero => intro p h; have := X.psz_pos p; omega
  | succ n ih =>
    intro p hn hb D lo hi v b i w h1 h2
    cases h1 with
    | leaf k x =>
      rw [X.put] at h2
      cases h2 with
      | mk _ _ N _ _ _ qs at0 en fr tt la ao cap vs L H hN hbk hc hr hs hp =>
        exact node_same 0 k x none ao 0 0 cap N (fun _ => undef) (fun _ => undef) (fun _ => undef) (fun _ => undef) (fun _ => undef) _ _ _ _ _ w (by omega) hbk (fun j hj => by omega) (fun j hj => by omega) (fun j hj => by omega)
    | miss m =>
      rw [X.put] at h2
      cases h2 with
      | mk _ _ N _ _ _ qs at0 en fr tt la ao cap vs L H hN hbk hc hr hs hp =>
        exact node_same 1 0 m none ao 0 0 cap N (fun _ => undef) (fun _ => undef) (fun _ => undef) (fun _ => undef) (fun _ => undef) _ _ _ _ _ w (by omega) hbk (fun j hj => by omega) (fun j hj => by omega) (fun j hj => by omega)
    | br k cap ao c0 c1 c2 c3 ps hc hr hp =>
      rw [X.put] at h2
      cases h2 with
      | mk _ _ N _ _ _ qs at0 en fr tt la ao2 cap2 vs L H hN hbk hc2 hr2 hs2 hp2 =>
        rw [X.puts_len] at hbk hr2
        rw [X.psz] at hn hb
        have hpl := X.pssz_len ps
        refine node_same k 0 [] ao ao2 ps.length cap cap2 N c0 c1 c2 c3 vs _ _ _ _ _ w (by omega) hbk (fun j hj => ?_) (fun j hj => ?_) (fun j hj W hW => ?_)
        · obtain ⟨g, e1, -, e2⟩ := hr j hj
          exact ⟨g, e1, e2⟩
        · obtain ⟨g, e1, -, -, -, -, e2⟩ := hr2 j hj
          exact ⟨g, e1, e2⟩
        · have hpj : ps[j]? = some ps[j] := List.getElem?_eq_getElem hj
          obtain ⟨i', hi'⟩ := X.puts_get ps i (-1) (-1) (k == 1) j _ hpj
          have := X.pssz_mem ps j _ hpj
          have hk := Kp.ofBelow hW (fun _ => False)
          exact ih ps[j] (by omega) (by omega) D (L j) (H j) _ _ i' W ((hp j _ hpj).kept hk (fun _ e => e.elim)) ((hp2 j _ hi').keep hk (fun _ _ _ => id))
end Go.Proofs.YtpoipoencbieeaaGreatDoor
