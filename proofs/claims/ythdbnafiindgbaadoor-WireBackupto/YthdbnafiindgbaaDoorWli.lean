/- A row of numbers that comes in, read as data. -/
import Derived.Test.YthdbnafiindgbaaDoorWlh
import Derived.Test.YthdbnafiindgbaaDoorWle
namespace Go.Proofs.YthdbnafiindgbaaDoor
open Go.RowKit Go.Deep
section
variable {H : Type} {enc : TypeId × Value → H} {W : World} {base : Nat} {spare : Nat → Bool} {held : Bool}
theorem bulkJ_len (n : Nat) (D : Nat → DataW H) (h : ∀ i, i < n → 1 ≤ Rows.uptoBulk (D i)) : n ≤ Rows.uptoBulkAll ((List.range n).map D) := by
  induction n with
  | zero => simp
  | succ n ih =>
    have := ih (fun i hi => h i (by omega))
    have h1 := h n (by omega)
    rw [List.range_succ, List.map_append, bulkJ_append]
    simp only [List.map_cons, List.map_nil, Rows.uptoBulkAll]
    omega
theorem open_ints {n : Nat} {v : Value} {x : DataW H × List MemPlace} (h : DataW.trod enc Tryd.prog W base spare held n 40 [v] = some x) :
    ∃ xs : List Int, IsIv W v xs ∧ xs.length + 1 ≤ Rows.uptoBulk x.1 := by
  rcases open_slice1 Tryd.underlying40 cellsJ3 h with ⟨h0, hx⟩ | ⟨a, len, cap, m, n, V, D, Pl, hc, hb, hl, hm, hmm, hx, he⟩
  · simp only [List.cons.injEq, and_true] at h0
    subst hx
    rw [h0]
    exact ⟨[], ⟨none, 0, rfl, Nat.le_refl _, by unfold maxLen; omega, fun i x hx => by simp at hx⟩, by simp [Rows.uptoBulk]⟩
  simp only [List.cons.injEq, and_true] at hc
  subst hx
  have hlm : len ≤ m := by rw [hmm]; split <;> omega
  have each : ∀ i, i < len → ∃ z : Int, W.cell? (a.add i) = some (.int .i64 z) ∧ 1 ≤ Rows.uptoBulk (D i) := by
    intro i hi
    obtain ⟨h1, h2⟩ := he i (by omega)
    obtain ⟨s0, e0, d0, _⟩ := DataW.trod_int Tryd.underlying3 h2
    simp only [List.cons.injEq, and_true] at e0
    rw [e0] at h1
    refine ⟨s0, h1, ?_⟩
    have d0' : D i = _ := congrArg Prod.fst d0
    rw [d0']
    simp only [Rows.uptoBulk]
    omega
  obtain ⟨R, hR⟩ := choose_lt each
  have hsum := bulkJ_len len D (fun i hi => (hR i hi).2)
  refine ⟨(List.range len).map R, ⟨some a, cap, by simpa using hc, by simpa using hl, hm, fun i x hx => ?_⟩, ?_⟩
  · have hi' : i < len := by
      rcases Nat.lt_or_ge i len with q | q
      · exact q
      · rw [List.getElem?_eq_none (by simpa using q)] at hx; cases hx
    have hsp : a.spot = none := by
      have := (hR 0 (by omega)).1
      have ha : a.add 0 = a := by simp [Addr.add]
      rw [ha] at this
      unfold World.cell? at this
      split at this
      · split at this
        · simp at this
        · rename_i h; simpa using h
      · simp at this
    obtain ⟨ab, ao, as_⟩ := a
    simp only at hsp
    subst hsp
    obtain rfl : R i = x := by simpa [hi'] using hx
    refine ⟨ab, ao, rfl, ?_⟩
    have := (hR i hi').1
    rw [← this]
    congr 1
    unfold Addr.add
    by_cases h1 : i = 0 <;> simp [h1]
  · simp only [Rows.uptoBulk, List.length_map, List.length_range]
    omega
end
end Go.Proofs.YthdbnafiindgbaaDoor
