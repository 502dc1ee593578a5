/- Colours that come in, read as data: their list, and how much they weigh. -/
import Derived.Test.YtnppdfnfhkopnaaDoorRows
import Derived.Test.YtnppdfnfhkopnaaDoorCya
import Derived.Deep.Slices
import Derived.Carry
namespace Go.Proofs.YtnppdfnfhkopnaaDoor
open Go.RowKit Go.Deep
theorem undC : ∃ f0 f1 f2 f3 : Field, Tryd.prog.underlying 26 = some (.struct #[f0, f1, f2, f3]) ∧ f0.offset = 0 ∧ f1.offset = 1 ∧ f2.offset = 2 ∧ f3.offset = 3 ∧ f0.type = 3 ∧ f1.type = 3 ∧ f2.type = 3 ∧ f3.type = 3 :=
  ⟨_, _, _, _, Tryd.underlying26, rfl, rfl, rfl, rfl, rfl, rfl, rfl, rfl⟩
theorem cellsC : Tryd.prog.cellsOf 26 = 4 := by kernel_rfl
theorem cells3 : Tryd.prog.cellsOf 3 = 1 := by kernel_rfl
section
variable {H : Type} {enc : TypeId × Value → H} {W : World} {base : Nat} {spare : Nat → Bool} {held : Bool}
theorem bulk_append (l r : List (DataW H)) : Rows.uptoBulkAll (l ++ r) = Rows.uptoBulkAll l + Rows.uptoBulkAll r := by
  induction l with
  | nil => simp [Rows.uptoBulkAll]
  | cons x l ih => simp only [List.cons_append, Rows.uptoBulkAll, ih]; omega
set_option maxRecDepth 100000 in
/-- One colour, out of its four cells. -/
theorem open_col {n : Nat} {cs : List Value} {x : DataW H × List MemPlace} (h : DataW.trod enc Tryd.prog W base spare held n 26 cs = some x) :
    ∃ r : Cl, cs = clv r ∧ 1 ≤ Rows.uptoBulk x.1 := by
  obtain ⟨f0, f1, f2, f3, hu, o0, o1, o2, o3, t0, t1, t2, t3⟩ := undC
  obtain ⟨xs, k, _, hxy, hcl, hxl, hf⟩ := DataW.trod_struct hu h
  rw [cellsC] at hcl
  match xs, hxl, cs, hcl with
  | [y0, y1, y2, y3], _, [v0, v1, v2, v3], _ =>
    have g0 := hf 0 f0 rfl
    have g1 := hf 1 f1 rfl
    have g2 := hf 2 f2 rfl
    have g3 := hf 3 f3 rfl
    simp [o0, o1, o2, o3, t0, t1, t2, t3, cells3] at g0 g1 g2 g3
    obtain ⟨a0, e0, _, _⟩ := DataW.trod_int Tryd.underlying3 g0
    obtain ⟨a1, e1, _, _⟩ := DataW.trod_int Tryd.underlying3 g1
    obtain ⟨a2, e2, _, _⟩ := DataW.trod_int Tryd.underlying3 g2
    obtain ⟨a3, e3, _, _⟩ := DataW.trod_int Tryd.underlying3 g3
    simp only [List.cons.injEq, and_true] at e0 e1 e2 e3
    subst e0 e1 e2 e3
    refine ⟨(a0, a1, a2, a3), rfl, ?_⟩
    subst hxy
    simp only [Rows.uptoBulk]
    omega
theorem bulk_range (n : Nat) (D : Nat → DataW H) (h : ∀ i, i < n → 1 ≤ Rows.uptoBulk (D i)) : n ≤ Rows.uptoBulkAll ((List.range n).map D) := by
  induction n with
  | zero => simp [Rows.uptoBulkAll]
  | succ n ih =>
    have := ih (fun i hi => h i (by omega))
    have h1 := h n (by omega)
    rw [List.range_succ, List.map_append, bulk_append]
    simp only [List.map_cons, List.map_nil, Rows.uptoBulkAll]
    omega
/-- A row of colours. -/
theorem open_cols {v : Value} {d : DataW H} {ps : List MemPlace} (hv : v.cells = #[v]) (h : DataW.Trod enc Tryd.prog W base spare held 22 v d ps) (hk : Rows.uptoBulk d ≤ 1048576) :
    ∃ L : List Cl, IsC W v L ∧ L.length + 1 ≤ Rows.uptoBulk d := by
  obtain ⟨fuel, hf⟩ := h
  rw [hv] at hf
  rcases open_slice Tryd.underlying22 hf with ⟨h0, hx⟩ | ⟨a, len, cap, m, n, D, Pl, hc, hb, hl, hm, hmm, hx, he⟩
  · simp only [List.cons.injEq, and_true] at h0
    simp only [Prod.mk.injEq] at hx
    obtain ⟨rfl, _⟩ := hx
    rw [h0]
    exact ⟨[], IsC.none 0 (by unfold maxLen; omega) _, by simp [Rows.uptoBulk]⟩
  · simp only [List.cons.injEq, and_true] at hc
    simp only [Prod.mk.injEq] at hx
    obtain ⟨rfl, _⟩ := hx
    have hlm : len ≤ m := by rw [hmm]; split <;> omega
    have each : ∀ i, i < len → ∃ r : Cl, W.cells? base (a.add (i * 4)) 4 = some (clv r) ∧ 1 ≤ Rows.uptoBulk (D i) := by
      intro i hi
      obtain ⟨cs', h1, h2⟩ := he i (by omega)
      rw [cellsC] at h1
      obtain ⟨r, rfl, h3⟩ := open_col h2
      exact ⟨r, h1, h3⟩
    obtain ⟨R, hR⟩ := choose_lt each
    have hbr := bulk_range len D (fun i hi => (hR i hi).2)
    have hbk : len + 1 ≤ Rows.uptoBulk (.slice ((List.range len).map D) ((List.range (m - len)).map fun j => D (len + j))) := by
      simp only [Rows.uptoBulk]; omega
    refine ⟨(List.range len).map R, ⟨some a, cap, by simpa using hc, by simpa using hl, ⟨by simp; omega, hm⟩, fun i hi => ?_⟩, by simpa using hbk⟩
    have hi' : i < len := by simpa using hi
    obtain ⟨_, _, hcell⟩ := World.cells?_some (hR i hi').1
    have hsp : a.spot = none := by
      obtain ⟨_, _, hc0⟩ := World.cells?_some (hR 0 (by omega)).1
      have := hc0 0 (by omega)
      simp only [Nat.zero_mul] at this
      have ha : (a.add 0).add 0 = a := by simp [Addr.add]
      rw [ha] at this
      unfold World.cell? at this
      split at this
      · split at this
        · simp [clv] at this
        · rename_i h; simpa using h
      · simp [clv] at this
    obtain ⟨ab, ao, as_⟩ := a
    simp only at hsp
    subst hsp
    refine ⟨ab, ao, rfl, fun r hr => ?_⟩
    obtain rfl : R i = r := by simpa [hi'] using hr
    have ad : ∀ j, ((⟨ab, ao, none⟩ : Addr).add (i * 4)).add j = ⟨ab, ao + i * 4 + j, none⟩ := by
      intro j
      unfold Addr.add
      by_cases h1 : i * 4 = 0 <;> by_cases h2 : j = 0 <;> simp [h1, h2]
    have e0 := hcell 0 (by omega)
    have e1 := hcell 1 (by omega)
    have e2 := hcell 2 (by omega)
    have e3 := hcell 3 (by omega)
    rw [ad] at e0 e1 e2 e3
    exact ⟨e0, e1, e2, e3⟩
end
end Go.Proofs.YtnppdfnfhkopnaaDoor
