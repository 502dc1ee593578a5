/- The text of a node: write and Print. -/
import Derived.Test.YtpoipoencbieeaaDoorYd
import Derived.Test.YtpoipoencbieeaaDoorRb
namespace Go.Proofs.YtpoipoencbieeaaDoor
open Go.RowKit Go.Shelf
open M
/-- What write does of a node. -/
def WOk (p : X.Part) : Prop := ∀ (B : Nat) (D : Nat → Prop) (acc : List UInt8) (v : Value) (w : World), (∀ q, D q → q < B) → IsN w D v p → Lib.IsBuilderF 52 5 B B (Lib.byteCells acc) w → B ≤ w.heap.size → acc.length + (X.pb p).length ≤ 1099511627776 →
  Calls Tryd.prog 16 #[.pointer (some ⟨B, 0, none⟩), v] w fun e w' => e = .returned (.tuple #[]) ∧ Hid (Lib.IsBuilderF 52 5 B B (Lib.byteCells (acc ++ X.pb p)) w' ∧ Below B w w')
theorem bld_alloc {B b : Nat} {xs : List Value} {w : World} (h : Lib.IsBuilderF 52 5 B b xs w) (o : Obj) : Lib.IsBuilderF 52 5 B b xs (w.alloc o) := isBuilder_keep h (Kp.alloc (Kp.refl (fun _ => False) w) o) id (fun _ _ _ h => h.elim)
set_option maxRecDepth 100000 in
set_option maxHeartbeats 300000 in
theorem write_leaf (k : Nat) (x : List UInt8) : WOk (.leaf k x) := by
  intro B D acc v w hD hn hb hB hl
  cases hn
  rw [X.pb] at *
  go_enter Tryd.func16, Tryd.ntmps16
  go_wp2_with fail
  refine (Tryd.Builder_WriteString_k B B (Lib.byteCells acc) (ba x) _ (bld_alloc hb _) (by rw [Lib.byteCells_length, ba_size]; omega) (by simp; omega)).mono ?_
  rintro e w' ⟨rfl, h1, h2, h3⟩
  go_wp2_with fail
  try simp only [Exit.inBlock, Exit.then]
  refine bodyPost_ret (v := .tuple #[]) (by simp [results, Tryd.results16, go_sem]) rfl ?_
  refine ⟨rfl, .inr ?_, ((Below.refl _ w).alloc hB _).trans h2⟩
  rw [Lib.byteCells_append]
  exact h1
set_option maxRecDepth 100000 in
set_option maxHeartbeats 300000 in
theorem write_kids (B : Nat) (D : Nat → Prop) (acc : List UInt8) (w : World) (k c cap : Nat) (s : ByteArray) (ao : Option Addr) (c0 c1 c2 c3 : Nat → Value) (ps : List X.Part) (hk : k ≠ 0) (hD : ∀ q, D q → q < B)
    (hr : ∀ i, i < ps.length → ∃ g, ao = some ⟨g, 0, none⟩ ∧ D g ∧ w.cell? ⟨g, i * 4, none⟩ = some (c0 i) ∧ w.cell? ⟨g, i * 4 + 1, none⟩ = some (c1 i) ∧ w.cell? ⟨g, i * 4 + 2, none⟩ = some (c2 i) ∧ w.cell? ⟨g, i * 4 + 3, none⟩ = some (c3 i))
    (hp : ∀ (i : Nat) (p : X.Part), ps[i]? = some p → IsN w D (.agg #[c0 i, c1 i, c2 i, c3 i]) p) (hW : ∀ (i : Nat) (p : X.Part), ps[i]? = some p → WOk p)
    (hbig : ps.length ≤ 1073741824) (hb : Lib.IsBuilderF 52 5 B B (Lib.byteCells acc) w) (hB : B ≤ w.heap.size) (hl : acc.length + (X.psb ps).length ≤ 1099511627776) :
    Calls Tryd.prog 16 #[.pointer (some ⟨B, 0, none⟩), .agg #[.int .i64 k, .int .i64 c, .string s, .slice ao ps.length cap]] w fun e w' => e = .returned (.tuple #[]) ∧ Hid (Lib.IsBuilderF 52 5 B B (Lib.byteCells (acc ++ X.psb ps)) w' ∧ Below B w w') := by
  have i0 : ((k : Int) == 0) = false := by simp; omega
  have HR := hide hr
  have HP := hide hp
  have HW := hide hW
  clear hr hp hW
  go_enter Tryd.func16, Tryd.ntmps16
  go_wp2_with fail
  go_loopw [5, 16] (fun _ iv wr => ∃ j : Nat, iv = .int .i64 j ∧ j ≤ ps.length ∧ Hid (Lib.IsBuilderF 52 5 B B (Lib.byteCells (acc ++ X.psb (ps.take j))) wr ∧ Below B w wr)) (fun _ iv _ => ps.length - (intOf iv).toNat)
  case atStart => exact ⟨0, rfl, Nat.zero_le _, (by rw [List.take_zero, X.psb, List.append_nil]; exact bld_alloc hb _), (Below.refl _ w).alloc hB _⟩
  case round =>
    obtain ⟨j, rfl, hj, HI⟩ := hrel
    have hBr : B ≤ wr.heap.size := Nat.le_trans hB (HI.out).2.size
    by_cases hlt : j < ps.length
    case neg =>
      obtain rfl : j = ps.length := by omega
      have i1 : decide (ps.length < ps.length) = false := by simp
      have i2 : decide ((ps.length : Int) < (ps.length : Int)) = false := by simp
      go_wp2_with fail
      go_end0
      have h := HI.out
      rw [List.take_length] at h
      exact ⟨rfl, h⟩
    have hget : ps[j]? = some ps[j] := List.getElem?_eq_getElem hlt
    obtain ⟨g, rfl, hDg, q0, q1, q2, q3⟩ := (HR.out) j hlt
    have hgB := hD g hDg
    have hkid := (HP.out) j ps[j] hget
    obtain ⟨a1, a2, a3, a4, a5, a6, hq⟩ := hkid.shape
    unfold q4v at hq
    simp only [Value.agg.injEq, Array.mk.injEq, List.cons.injEq, and_true] at hq
    obtain ⟨u0, u1, u2, u3⟩ := hq
    rw [u0, u1, u2, u3] at hkid
    rw [u0] at q0
    rw [u1] at q1
    rw [u2] at q2
    rw [u3] at q3
    have kB : Kp (fun q => B ≤ q) w wr := Kp.ofBelowB (HI.out).2 (fun _ h _ => h)
    have p0 := kB.cellv q0 (show ¬ B ≤ g by omega)
    have p1 := kB.cellv q1 (show ¬ B ≤ g by omega)
    have p2 := kB.cellv q2 (show ¬ B ≤ g by omega)
    have p3 := kB.cellv q3 (show ¬ B ≤ g by omega)
    have HKid := hide (hkid.kept kB (fun q e e2 => by have := hD q e2; omega))
    clear hkid q0 q1 q2 q3 u0 u1 u2 u3
    have i1 : decide (j < ps.length) = true := by simp; omega
    have i2 : decide ((j : Int) < (ps.length : Int)) = true := by simp; omega
    have hgl : g < wr.heap.size := by omega
    go_wp2_with fail
    have hdrop : X.psb (ps.take j) ++ X.pb ps[j] = X.psb (ps.take (j + 1)) := by
      rw [List.take_add_one, hget, X.psb_append]; simp [X.psb]
    have hle : (X.psb (ps.take j)).length + (X.pb ps[j]).length ≤ (X.psb ps).length := by
      have e1 : X.psb ps = X.psb (ps.take (j + 1)) ++ X.psb (ps.drop (j + 1)) := by rw [← X.psb_append, List.take_append_drop]
      rw [e1, ← hdrop]; simp
    refine ((HW.out) j ps[j] hget B D (acc ++ X.psb (ps.take j)) _ _ hD ((HKid.out).kept (Kp.alloc (Kp.refl (fun _ => False) wr) _) (fun _ h => h.elim)) (bld_alloc (HI.out).1 _) (by simp; omega) (by rw [List.length_append]; omega)).mono ?_
    rintro e w5 ⟨rfl, H5⟩
    have HN : Hid (Lib.IsBuilderF 52 5 B B (Lib.byteCells (acc ++ X.psb (ps.take (j + 1)))) w5 ∧ Below B w w5) := by
      refine ⟨?_, ((HI.out).2.alloc hBr _).trans (H5.out).2⟩
      have := (H5.out).1
      rwa [List.append_assoc, hdrop] at this
    clear hdrop hle
    go_wp2_with fail
    exact ⟨⟨j + 1, by go_num, by omega, HN⟩, by simp only [intOf]; omega⟩
theorem write_any : ∀ (n : Nat) (p : X.Part), X.psz p ≤ n → X.psz p ≤ 1073741824 → X.kok p → WOk p := by
  intro n
  induction n with
  | zero => intro p h; have := X.psz_pos p; omega
  | succ n ih =>
    intro p hn hbig hk
    cases p with
    | leaf k x => exact write_leaf k x
    | miss m =>
      intro B D acc v w hD h hb hB hl
      cases h
      have := write_kids B D acc w 1 0 0 (ba m) none (fun _ => undef) (fun _ => undef) (fun _ => undef) (fun _ => undef) [] (by decide) hD (fun i hi => by simp at hi) (fun i p h => by simp at h) (fun i p h => by simp at h) (by simp) hb hB (by simpa [X.psb, X.pb] using hl)
      rwa [X.psb] at this
    | br k ps =>
      intro B D acc v w hD h hb hB hl
      have hlen := X.pssz_len ps
      have hps : X.pssz ps ≤ n ∧ X.pssz ps ≤ 1073741824 := by simp only [X.psz] at hn hbig; omega
      rw [X.kok] at hk
      cases h with
      | br k cap ao c0 c1 c2 c3 ps hc hr hp =>
      have := write_kids B D acc w k 0 cap ⟨#[]⟩ ao c0 c1 c2 c3 ps hk.1 hD hr hp (fun i q hq => by
        have := X.pssz_mem ps i q hq
        exact ih q (by omega) (by omega) (X.koks_mem ps i q hk.2 hq)) (by omega) hb hB (by rw [X.pb] at hl; exact hl)
      rw [X.pb]
      exact this
end Go.Proofs.YtpoipoencbieeaaDoor
/- Print. -/
namespace Go.Proofs.YtpoipoencbieeaaDoor
open Go.RowKit Go.Shelf
open M
set_option maxRecDepth 100000 in
set_option maxHeartbeats 300000 in
theorem print_any (p : X.Part) (D : Nat → Prop) (v : Value) (w : World) (hz : X.psz p ≤ 1073741824) (hk : X.kok p) (hl : (X.pb p).length ≤ 1073741824) (hn : IsN w D v p) (hD : ∀ q, D q → q < w.heap.size) :
    Calls Tryd.prog 6 #[v] w fun e w' => e = .returned (.string (ba (X.pb p))) ∧ Below w.heap.size w w' := by
  have HN := hide hn
  obtain ⟨a1, a2, a3, a4, a5, a6, rfl⟩ := hn.shape
  have HW := hide (write_any _ p (Nat.le_refl _) hz hk)
  clear hn
  unfold q4v at *
  go_enter Tryd.func6, Tryd.ntmps6
  go_wp2_with fail
  have hb : ∀ o : Obj, Lib.IsBuilderF 52 5 (w.heap.size + 1) (w.heap.size + 1) (Lib.byteCells []) ((w.alloc o).alloc (.cells #[.pointer none, .slice none 0 0] 52)) := fun o => by
    have := builder_new (w.alloc o)
    rwa [World.size_alloc] at this
  have kA : ∀ o o2 : Obj, Below w.heap.size w ((w.alloc o).alloc o2) := fun o o2 => ((Below.refl _ w).alloc (Nat.le_refl _) _).alloc (by simp) _
  refine ((HW.out) (w.heap.size + 1) D [] _ _ (fun q e => by have := hD q e; omega) ((HN.out).kept (Kp.ofBelow (kA _ _) (fun _ => False)) (fun _ h => h.elim)) (hb _) (by simp) (by simp; omega)).mono ?_
  rintro e w1 ⟨rfl, H1⟩
  go_wp2_with fail
  have hz1 : w.heap.size + 1 ≤ w1.heap.size := by have := (H1.out).2.size; simp at this; omega
  refine (Tryd.Builder_String_any_k (w.heap.size + 1) (w.heap.size + 1) (X.pb p) _ (H1.out).1 hz1).mono ?_
  rintro e w2 ⟨rfl, -, k2, -⟩
  have HB := hide ((kA _ _).trans (((H1.out).2.trans k2).mono (by omega)))
  clear k2 kA hb
  go_wp2_with fail
  go_ret
  exact ⟨rfl, HB.out⟩
end Go.Proofs.YtpoipoencbieeaaDoor
