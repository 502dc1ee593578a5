/- Spans that come in, read as data: their list, and how much they weigh. -/
import Derived.Test.YtobdfddpiobhhaaRows
import Derived.Test.YtobdfddpiobhhaaKa
import Derived.Deep.Slices
import Derived.Carry
namespace Go.Proofs.Ytobdfddpiobhhaa
open Go.RowKit Go.Deep
theorem und53 : ∃ f0 f1 f2 : Field, Try.prog.underlying 32 = some (.struct #[f0, f1, f2]) ∧ f0.offset = 0 ∧ f1.offset = 1 ∧ f2.offset = 2 ∧ f0.type = 3 ∧ f1.type = 3 ∧ f2.type = 9 :=
  ⟨_, _, _, Try.underlying32, rfl, rfl, rfl, rfl, rfl, rfl⟩
theorem cells53 : Try.prog.cellsOf 32 = 3 := by kernel_rfl
theorem cells3 : Try.prog.cellsOf 3 = 1 := by kernel_rfl
theorem cells9 : Try.prog.cellsOf 9 = 1 := by kernel_rfl
instance : Inhabited Rw := ⟨⟨0, 0, .empty⟩⟩
section
variable {H : Type} {enc : TypeId × Value → H} {W : World} {base : Nat} {spare : Nat → Bool} {held : Bool}
theorem bulk_append (l r : List (DataW H)) : Rows.uptoBulkAll (l ++ r) = Rows.uptoBulkAll l + Rows.uptoBulkAll r := by
  induction l with
  | nil => simp [Rows.uptoBulkAll]
  | cons x l ih => simp only [List.cons_append, Rows.uptoBulkAll, ih]; omega
set_option maxRecDepth 100000 in
/-- One span, out of its three cells. -/
theorem open_span {n : Nat} {cs : List Value} {x : DataW H × List MemPlace} (h : DataW.trod enc Try.prog W base spare held n 32 cs = some x) :
    ∃ r : Rw, cs = r.vals ∧ r.s.size + 1 ≤ Rows.uptoBulk x.1 := by
  obtain ⟨f0, f1, f2, hu, o0, o1, o2, t0, t1, t2⟩ := und53
  obtain ⟨xs, k, _, hxy, hcl, hxl, hf⟩ := DataW.trod_struct hu h
  rw [cells53] at hcl
  match xs, hxl, cs, hcl with
  | [y0, y1, y2], _, [v0, v1, v2], _ =>
    have g0 := hf 0 f0 rfl
    have g1 := hf 1 f1 rfl
    have g2 := hf 2 f2 rfl
    simp [o0, o1, o2, t0, t1, t2, cells3, cells9] at g0 g1 g2
    obtain ⟨a0, e0, _, _⟩ := DataW.trod_int Try.underlying3 g0
    obtain ⟨a1, e1, _, _⟩ := DataW.trod_int Try.underlying3 g1
    obtain ⟨s, e2, e3, _⟩ := DataW.trod_string Try.underlying9 g2
    simp only [List.cons.injEq, and_true] at e0 e1 e2
    subst e0 e1 e2 e3
    refine ⟨⟨a0, a1, s⟩, rfl, ?_⟩
    subst hxy
    simp only [List.map_cons, List.map_nil, Rows.uptoBulk, Rows.uptoBulkAll]
    have : s.data.toList.length = s.size := bs_len s
    omega
theorem bulk_range (n : Nat) (D : Nat → DataW H) (R : Nat → Rw) (h : ∀ i, i < n → (R i).s.size + 1 ≤ Rows.uptoBulk (D i)) : n + (((List.range n).map R).map fun r => r.s.size).sum ≤ Rows.uptoBulkAll ((List.range n).map D) := by
  induction n with
  | zero => simp [Rows.uptoBulkAll]
  | succ n ih =>
    have := ih (fun i hi => h i (by omega))
    have h1 := h n (by omega)
    rw [List.range_succ, List.map_append, List.map_append, List.map_append, List.sum_append, bulk_append]
    simp only [List.map_cons, List.map_nil, List.sum_cons, List.sum_nil, Rows.uptoBulkAll]
    omega
/-- A slice of spans. -/
theorem open_spans {v : Value} {d : DataW H} {ps : List MemPlace} (hv : v.cells = #[v]) (h : DataW.Trod enc Try.prog W base spare held 22 v d ps) (hk : Rows.uptoBulk d ≤ 1048576) :
    ∃ L : List Rw, IsL W v L ∧ L.length + (L.map fun r => r.s.size).sum + 1 ≤ Rows.uptoBulk d := by
  obtain ⟨fuel, hf⟩ := h
  rw [hv] at hf
  rcases open_slice Try.underlying22 hf with ⟨h0, hx⟩ | ⟨a, len, cap, m, n, D, Pl, hc, hb, hl, hm, hmm, hx, he⟩
  · simp only [List.cons.injEq, and_true] at h0
    simp only [Prod.mk.injEq] at hx
    obtain ⟨rfl, _⟩ := hx
    refine ⟨[], ⟨none, 0, h0, Nat.le_refl _, by simp, by unfold maxLen; omega, fun i hi => by simp at hi⟩, by simp [Rows.uptoBulk]⟩
  · simp only [List.cons.injEq, and_true] at hc
    simp only [Prod.mk.injEq] at hx
    obtain ⟨rfl, _⟩ := hx
    have hlm : len ≤ m := by rw [hmm]; split <;> omega
    have each : ∀ i, i < len → ∃ r : Rw, W.cells? base (a.add (i * 3)) 3 = some r.vals ∧ r.s.size + 1 ≤ Rows.uptoBulk (D i) := by
      intro i hi
      obtain ⟨cs', h1, h2⟩ := he i (by omega)
      rw [cells53] at h1
      obtain ⟨r, rfl, h3⟩ := open_span h2
      exact ⟨r, h1, h3⟩
    obtain ⟨R, hR⟩ := choose_lt each
    have hbr := bulk_range len D R (fun i hi => (hR i hi).2)
    have hbk : len + (((List.range len).map R).map fun r => r.s.size).sum + 1 ≤ Rows.uptoBulk (.slice ((List.range len).map D) ((List.range (m - len)).map fun j => D (len + j))) := by
      simp only [Rows.uptoBulk]; omega
    refine ⟨(List.range len).map R, ⟨some a, cap, by simpa using hc, by simpa using hl, by simp; omega, hm, fun i hi => ?_⟩, by simpa using hbk⟩
    have hi' : i < len := by simpa using hi
    obtain ⟨_, _, hcell⟩ := World.cells?_some (hR i hi').1
    have hsp : a.spot = none := by
      obtain ⟨_, _, hc0⟩ := World.cells?_some (hR 0 (by omega)).1
      have := hc0 0 (by omega)
      simp only [Nat.zero_mul] at this
      have ha : (a.add 0).add 0 = a := by simp [Addr.add]
      rw [ha] at this
      unfold World.cell? at this
      split at this
      · split at this
        · simp [Rw.vals] at this
        · rename_i h; simpa using h
      · simp [Rw.vals] at this
    obtain ⟨ab, ao, as_⟩ := a
    simp only at hsp
    subst hsp
    refine ⟨ab, ao, rfl, fun r hr => ?_⟩
    obtain rfl : R i = r := by simpa [hi'] using hr
    have ad : ∀ j, ((⟨ab, ao, none⟩ : Addr).add (i * 3)).add j = ⟨ab, ao + i * 3 + j, none⟩ := by
      intro j
      unfold Addr.add
      by_cases h1 : i * 3 = 0 <;> by_cases h2 : j = 0 <;> simp [h1, h2]
    have e0 := hcell 0 (by omega)
    have e1 := hcell 1 (by omega)
    have e2 := hcell 2 (by omega)
    rw [ad] at e0 e1 e2
    exact ⟨e0, e1, e2⟩
end
end Go.Proofs.Ytobdfddpiobhhaa
