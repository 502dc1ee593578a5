/- Steps that come in, read as data: their list, and how much they weigh. -/
import Derived.Test.YtopeagigdgjchaaDoorOa
import Derived.Test.YtopeagigdgjchaaDoorUh
namespace Go.Proofs.YtopeagigdgjchaaDoor
open Go.RowKit Go.Deep
theorem und32 : ∃ f0 f1 f2 : Field, Tryd.prog.underlying 32 = some (.struct #[f0, f1, f2]) ∧ f0.offset = 0 ∧ f1.offset = 1 ∧ f2.offset = 2 ∧ f0.type = 3 ∧ f1.type = 3 ∧ f2.type = 30 :=
  ⟨_, _, _, Tryd.underlying32, rfl, rfl, rfl, rfl, rfl, rfl⟩
theorem cells32 : Tryd.prog.cellsOf 32 = 3 := by kernel_rfl
theorem cells30 : Tryd.prog.cellsOf 30 = 1 := by kernel_rfl
instance : Inhabited Stp := ⟨⟨0, 0, .slice none 0 0, []⟩⟩
def Stp.vals (x : Stp) : List Value := [.int .i64 x.op, .int .i64 x.n, x.v]
section
variable {H : Type} {enc : TypeId × Value → H} {W : World} {base : Nat} {spare : Nat → Bool} {held : Bool}
set_option maxRecDepth 100000 in
/-- One step, out of its three cells. -/
theorem open_step {n : Nat} {cs : List Value} {x : DataW H × List MemPlace} (h : DataW.trod enc Tryd.prog W base spare held n 32 cs = some x) (hk : Rows.uptoBulk x.1 ≤ 1048576) :
    ∃ y : Stp, cs = y.vals ∧ IsL W y.v y.L ∧ y.L.length + totR y.L + 1 ≤ Rows.uptoBulk x.1 := by
  obtain ⟨f0, f1, f2, hu, o0, o1, o2, t0, t1, t2⟩ := und32
  obtain ⟨xs, k, _, hxy, hcl, hxl, hf⟩ := DataW.trod_struct hu h
  rw [cells32] at hcl
  match xs, hxl, cs, hcl with
  | [y0, y1, y2], _, [v0, v1, v2], _ =>
    have g0 := hf 0 f0 rfl
    have g1 := hf 1 f1 rfl
    have g2 := hf 2 f2 rfl
    simp [o0, o1, o2, t0, t1, t2, cells3, cells30] at g0 g1 g2
    obtain ⟨a0, e0, _, _⟩ := DataW.trod_int Tryd.underlying3 g0
    obtain ⟨a1, e1, _, _⟩ := DataW.trod_int Tryd.underlying3 g1
    simp only [List.cons.injEq, and_true] at e0 e1
    subst e0 e1
    subst hxy
    have hk' : Rows.uptoBulk y2.1 ≤ 1048576 := by
      simp only [List.map_cons, List.map_nil, Rows.uptoBulk, Rows.uptoBulkAll] at hk
      omega
    have hv2 : v2.cells = #[v2] := by
      rcases open_slice Tryd.underlying30 g2 with ⟨h0, _⟩ | ⟨a, len, cap, m, n', D, Pl, hc, _⟩
      · simp only [List.cons.injEq, and_true] at h0; rw [h0]; rfl
      · simp only [List.cons.injEq, and_true] at hc; rw [hc]; rfl
    obtain ⟨L, hL, hb⟩ := open_spans (enc := enc) (spare := spare) (held := held) (base := base) (d := y2.1) (ps := y2.2) hv2 ⟨k, by rw [hv2]; exact g2⟩ hk'
    refine ⟨⟨a0, a1, v2, L⟩, rfl, hL, ?_⟩
    simp only [List.map_cons, List.map_nil, Rows.uptoBulk, Rows.uptoBulkAll]
    show L.length + totR L + 1 ≤ _
    unfold totR
    omega
theorem bulk_rangeQ (n : Nat) (D : Nat → DataW H) (R : Nat → Stp) (h : ∀ i, i < n → (R i).L.length + totR (R i).L + 1 ≤ Rows.uptoBulk (D i)) : n + wt ((List.range n).map R) ≤ Rows.uptoBulkAll ((List.range n).map D) := by
  induction n with
  | zero => simp [Rows.uptoBulkAll, wt]
  | succ n ih =>
    have i1 := ih (fun i hi => h i (by omega))
    have h1 := h n (by omega)
    have e : wt ((List.range (n + 1)).map R) = wt ((List.range n).map R) + ((R n).L.length + totR (R n).L) := by
      unfold wt
      rw [List.range_succ, List.map_append, List.map_append, List.sum_append]
      simp
    rw [e, List.range_succ, List.map_append, bulk_append]
    simp only [List.map_cons, List.map_nil, Rows.uptoBulkAll]
    omega
theorem bulk_mem (l : List (DataW H)) (d : DataW H) (h : d ∈ l) : Rows.uptoBulk d ≤ Rows.uptoBulkAll l := by
  induction l with
  | nil => cases h
  | cons x l ih =>
    simp only [Rows.uptoBulkAll]
    rcases List.mem_cons.1 h with rfl | h
    · omega
    · have := ih h; omega
/-- A slice of steps. -/
theorem open_steps {v : Value} {d : DataW H} {ps : List MemPlace} (hv : v.cells = #[v]) (h : DataW.Trod enc Tryd.prog W base spare held 22 v d ps) (hk : Rows.uptoBulk d ≤ 1048576) :
    ∃ Q : List Stp, IsQ W v Q ∧ Q.length + wt Q + 1 ≤ Rows.uptoBulk d := by
  obtain ⟨fuel, hf⟩ := h
  rw [hv] at hf
  rcases open_slice Tryd.underlying22 hf with ⟨h0, hx⟩ | ⟨a, len, cap, m, n, D, Pl, hc, hb, hl, hm, hmm, hx, he⟩
  · simp only [List.cons.injEq, and_true] at h0
    simp only [Prod.mk.injEq] at hx
    obtain ⟨rfl, _⟩ := hx
    refine ⟨[], ⟨none, 0, h0, Nat.le_refl _, by unfold maxLen; omega, fun i x hi => by simp at hi⟩, by simp [Rows.uptoBulk, wt]⟩
  · simp only [List.cons.injEq, and_true] at hc
    simp only [Prod.mk.injEq] at hx
    obtain ⟨rfl, _⟩ := hx
    have hlm : len ≤ m := by rw [hmm]; split <;> omega
    have hDk : ∀ i, i < len → Rows.uptoBulk (D i) ≤ 1048576 := by
      intro i hi
      have h1 := bulk_mem ((List.range len).map D) (D i) (List.mem_map.2 ⟨i, List.mem_range.2 hi, rfl⟩)
      simp only [Rows.uptoBulk] at hk
      omega
    have each : ∀ i, i < len → ∃ r : Stp, W.cells? base (a.add (i * 3)) 3 = some r.vals ∧ IsL W r.v r.L ∧ r.L.length + totR r.L + 1 ≤ Rows.uptoBulk (D i) := by
      intro i hi
      obtain ⟨cs', h1, h2⟩ := he i (by omega)
      rw [cells32] at h1
      obtain ⟨r, rfl, h3, h4⟩ := open_step h2 (hDk i hi)
      exact ⟨r, h1, h3, h4⟩
    obtain ⟨R, hR⟩ := choose_lt each
    have hbr := bulk_rangeQ len D R (fun i hi => (hR i hi).2.2)
    have hbk : len + wt ((List.range len).map R) + 1 ≤ Rows.uptoBulk (.slice ((List.range len).map D) ((List.range (m - len)).map fun j => D (len + j))) := by
      simp only [Rows.uptoBulk]; omega
    refine ⟨(List.range len).map R, ⟨some a, cap, by simpa using hc, by simpa using hl, hm, fun i x hi => ?_⟩, by simpa using hbk⟩
    have hi' : i < len := by simpa using (List.getElem?_eq_some_iff.1 hi).1
    obtain rfl : R i = x := by simpa [hi'] using hi
    obtain ⟨_, _, hcell⟩ := World.cells?_some (hR i hi').1
    have hsp : a.spot = none := by
      obtain ⟨_, _, hc0⟩ := World.cells?_some (hR 0 (by omega)).1
      have := hc0 0 (by omega)
      simp only [Nat.zero_mul] at this
      have ha : (a.add 0).add 0 = a := by simp [Addr.add]
      rw [ha] at this
      unfold World.cell? at this
      split at this
      · split at this
        · simp [Stp.vals] at this
        · rename_i h; simpa using h
      · simp [Stp.vals] at this
    obtain ⟨ab, ao, as_⟩ := a
    simp only at hsp
    subst hsp
    have ad : ∀ j, ((⟨ab, ao, none⟩ : Addr).add (i * 3)).add j = ⟨ab, ao + i * 3 + j, none⟩ := by
      intro j
      unfold Addr.add
      by_cases h1 : i * 3 = 0 <;> by_cases h2 : j = 0 <;> simp [h1, h2]
    have e0 := hcell 0 (by omega)
    have e1 := hcell 1 (by omega)
    have e2 := hcell 2 (by omega)
    rw [ad] at e0 e1 e2
    exact ⟨(hR i hi').2.1, ab, ao, rfl, World.block_lt_of_cell? W _ e0, e0, e1, e2⟩
end
end Go.Proofs.YtopeagigdgjchaaDoor
