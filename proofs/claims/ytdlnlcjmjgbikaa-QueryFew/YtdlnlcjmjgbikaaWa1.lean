/- The input of a law over rules: what it reads as, cell by cell. -/
import Derived.Test.YtdlnlcjmjgbikaaUk1
import Derived.Deep.Slices
import Derived.Lib.SmallJoins
namespace Go.Proofs.Ytdlnlcjmjgbikaa
open Go Go.ChangeShapes Go.WideShapes Go.Deep Go.Joins

theorem laidOut : laidOutB Try.prog = true := by kernel_rfl
theorem readable22 : Try.prog.readableRec 22 = true := by kernel_rfl
theorem row22 : 22 < Try.prog.types.size := by rw [show Try.prog.types.size = Try.prog.types.size from rfl]; exact of_decide_eq_true (by kernel_rfl)
theorem readable23 : Try.prog.readableRec 23 = true := by kernel_rfl
theorem row23 : 23 < Try.prog.types.size := of_decide_eq_true (by kernel_rfl)
theorem readable3 : Try.prog.readableRec 3 = true := by kernel_rfl
theorem row3 : 3 < Try.prog.types.size := of_decide_eq_true (by kernel_rfl)
theorem cells41 : Try.prog.cellsOf 41 = 4 := by kernel_rfl
theorem cells3 : Try.prog.cellsOf 3 = 1 := by kernel_rfl
theorem cell_spot {w : World} {a : Addr} {x : Value} (h : w.cell? a = some x) : a.spot = none := by
  unfold World.cell? at h
  split at h
  · split at h
    · cases h
    · rename_i hs
      simpa using hs
  · cases h
theorem add_plain (b o n : Nat) : (⟨b, o, none⟩ : Addr).add n = ⟨b, o + n, none⟩ := by
  unfold Addr.add
  split
  · rename_i h
    subst h
    rfl
  · rfl
section
variable {H : Type} {enc : TypeId × Value → H} {W : World} {base fuel : Nat} {sp : Nat → Bool} {held : Bool} {cs : List Value} {x : DataW H × List MemPlace}
theorem four {α : Type} {l : List α} (h : l.length = 4) : ∃ a b c d, l = [a, b, c, d] := by
  match l, h with
  | [a, b, c, d], _ => exact ⟨a, b, c, d, rfl⟩
theorem open_rule {t : Nat} {a : Addr} (ht : t = 41) (h : ∃ cs', W.cells? base a (Try.prog.cellsOf t) = some cs' ∧ DataW.trod enc Try.prog W base sp held fuel t cs' = some x) :
    ∃ q : Int × Int × Int × Int, W.cell? (a.add 0) = some (.int .i64 q.1) ∧ W.cell? (a.add 1) = some (.int .i64 q.2.1) ∧ W.cell? (a.add 2) = some (.int .i64 q.2.2.1) ∧ W.cell? (a.add 3) = some (.int .i64 q.2.2.2) := by
  subst ht
  obtain ⟨cs', h1, h2⟩ := h
  obtain ⟨y0, y1, y2, y3, n, _, hl, t0, t1, t2, t3⟩ := trod_struct4 Try.underlying41 h2
  rw [cells41] at h1 hl
  obtain ⟨_, _, hc⟩ := World.cells?_some h1
  obtain ⟨c0, c1, c2, c3, rfl⟩ := four hl
  rw [cells3] at t0 t1 t2 t3
  obtain ⟨z0, e0, _⟩ := DataW.trod_int Try.underlying3 t0
  obtain ⟨z1, e1, _⟩ := DataW.trod_int Try.underlying3 t1
  obtain ⟨z2, e2, _⟩ := DataW.trod_int Try.underlying3 t2
  obtain ⟨z3, e3, _⟩ := DataW.trod_int Try.underlying3 t3
  obtain rfl : c0 = .int .i64 z0 := by simpa using e0
  obtain rfl : c1 = .int .i64 z1 := by simpa using e1
  obtain rfl : c2 = .int .i64 z2 := by simpa using e2
  obtain rfl : c3 = .int .i64 z3 := by simpa using e3
  exact ⟨(z0, z1, z2, z3), hc 0 (by omega), hc 1 (by omega), hc 2 (by omega), hc 3 (by omega)⟩
theorem open_rules (h : DataW.trod enc Try.prog W base sp held fuel 22 cs = some x) :
    ∃ (R : QR) (ro : Option Addr) (cap : Nat), cs = [.slice ro R.n cap] ∧ RulesAt W R ro := by
  rcases open_slice Try.underlying22 h with ⟨rfl, rfl⟩ | ⟨a, len, cap, m, n, D, Pl, rfl, hb, hl, hm, hmm, rfl, hx⟩
  · exact ⟨⟨0, fun _ => 0, fun _ => 0, fun _ => 0, fun _ => 0⟩, none, 0, rfl, fun k hk => absurd hk (Nat.not_lt_zero _)⟩
  · have hle : len ≤ m := by rw [hmm]; split <;> omega
    rw [cells41] at hx
    obtain ⟨Q, hQ⟩ := choose_lt (n := len) (α := Int × Int × Int × Int) (p := fun i q => W.cell? ((a.add (i * 4)).add 0) = some (.int .i64 q.1) ∧ W.cell? ((a.add (i * 4)).add 1) = some (.int .i64 q.2.1) ∧ W.cell? ((a.add (i * 4)).add 2) = some (.int .i64 q.2.2.1) ∧ W.cell? ((a.add (i * 4)).add 3) = some (.int .i64 q.2.2.2)) (fun i hi => open_rule rfl (by rw [cells41]; exact hx i (by omega)))
    refine ⟨⟨len, fun k => (Q k).1, fun k => (Q k).2.1, fun k => (Q k).2.2.1, fun k => (Q k).2.2.2⟩, some a, cap, rfl, fun k hk => ?_⟩
    have hk' : k < len := hk
    have hs : a.spot = none := by
      have h0 := cell_spot (hQ 0 (by omega)).1
      simpa [Addr.add] using h0
    obtain ⟨b, o, s⟩ := a
    obtain rfl : s = none := hs
    obtain ⟨q0, q1, q2, q3⟩ := hQ k hk'
    simp only [add_plain, Nat.add_zero] at q0 q1 q2 q3
    exact ⟨b, o, rfl, q0, q1, q2, q3⟩
theorem open_numbers (h : DataW.trod enc Try.prog W base sp held fuel 23 cs = some x) :
    ∃ (fo : Option Addr) (m cap : Nat), cs = [.slice fo m cap] ∧ m ≤ 9223372036854775807 ∧ ∀ i, i < m → ∃ b o z, fo = some ⟨b, o, none⟩ ∧ W.cell? ⟨b, o + i, none⟩ = some (.int .i64 z) := by
  rcases open_slice1 Try.underlying23 cells3 h with ⟨rfl, rfl⟩ | ⟨a, len, cap, m, n, V, D, Pl, rfl, hb, hl, hm, hmm, rfl, hx⟩
  · exact ⟨none, 0, 0, rfl, Nat.zero_le _, fun k hk => absurd hk (Nat.not_lt_zero _)⟩
  · have hle : len ≤ m := by rw [hmm]; split <;> omega
    refine ⟨some a, len, cap, rfl, Nat.le_trans hl hm, fun i hi => ?_⟩
    have hs : a.spot = none := by
      have h0 := cell_spot (hx 0 (by omega)).1
      simpa [Addr.add] using h0
    obtain ⟨b, o, s⟩ := a
    obtain rfl : s = none := hs
    obtain ⟨h1, h2⟩ := hx i (by omega)
    obtain ⟨z, e, _⟩ := DataW.trod_int Try.underlying3 h2
    rw [add_plain, show V i = .int .i64 z by simpa using e] at h1
    exact ⟨b, o, z, rfl, h1⟩
end
end Go.Proofs.Ytdlnlcjmjgbikaa
