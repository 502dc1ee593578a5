/- A value that comes in, read as data: it is one of the mathematics' values, and it weighs no more than forty times its bulk. -/
import Derived.Test.YthdbnafiindgbaaDoorRows
import Derived.Test.YthdbnafiindgbaaDoorWld0
import Derived.Deep.Slices
import Derived.Carry
namespace Go.Proofs.YthdbnafiindgbaaDoor
open Go.RowKit Go.Deep
open Wi
theorem undJ : ∃ f0 f1 f2 f3 f4 : Field, Tryd.prog.underlying 25 = some (.struct #[f0, f1, f2, f3, f4]) ∧ f0.offset = 0 ∧ f1.offset = 1 ∧ f2.offset = 2 ∧ f3.offset = 3 ∧ f4.offset = 4 ∧ f0.type = 3 ∧ f1.type = 3 ∧ f2.type = 9 ∧ f3.type = 22 ∧ f4.type = 23 :=
  ⟨_, _, _, _, _, Tryd.underlying25, rfl, rfl, rfl, rfl, rfl, rfl, rfl, rfl, rfl, rfl⟩
theorem cellsJson : Tryd.prog.cellsOf 25 = 5 := by kernel_rfl
theorem cellsJ3 : Tryd.prog.cellsOf 3 = 1 := by kernel_rfl
theorem cellsJs : Tryd.prog.cellsOf 9 = 1 := by kernel_rfl
theorem cellsJss : Tryd.prog.cellsOf 22 = 1 := by kernel_rfl
theorem cellsJjs : Tryd.prog.cellsOf 23 = 1 := by kernel_rfl
section
variable {H : Type} {enc : TypeId × Value → H} {W : World} {base : Nat} {spare : Nat → Bool} {held : Bool}
theorem bulkJ_append (l r : List (DataW H)) : Rows.uptoBulkAll (l ++ r) = Rows.uptoBulkAll l + Rows.uptoBulkAll r := by
  induction l with
  | nil => simp [Rows.uptoBulkAll]
  | cons x l ih => simp only [List.cons_append, Rows.uptoBulkAll, ih]; omega
theorem bulkJ_mem (l : List (DataW H)) (d : DataW H) (h : d ∈ l) : Rows.uptoBulk d ≤ Rows.uptoBulkAll l := by
  induction l with
  | nil => cases h
  | cons x l ih =>
    simp only [Rows.uptoBulkAll]
    rcases List.mem_cons.1 h with rfl | h
    · omega
    · have := ih h; omega
theorem bulkJ_sum (n : Nat) (D : Nat → DataW H) (g : Nat → Nat) (h : ∀ i, i < n → g i ≤ 40 * Rows.uptoBulk (D i)) : ((List.range n).map g).sum ≤ 40 * Rows.uptoBulkAll ((List.range n).map D) := by
  induction n with
  | zero => simp
  | succ n ih =>
    have := ih (fun i hi => h i (by omega))
    have h1 := h n (by omega)
    rw [List.range_succ, List.map_append, List.map_append, bulkJ_append, List.sum_append]
    simp only [List.map_cons, List.map_nil, Rows.uptoBulkAll, List.sum_cons, List.sum_nil]
    omega
theorem wts_sum (l : List J) : wts l = (l.map wt).sum := by
  induction l with
  | nil => simp [wts]
  | cons j l ih => simp [wts, ih]
theorem open_texts {n : Nat} {v : Value} {x : DataW H × List MemPlace} (h : DataW.trod enc Tryd.prog W base spare held n 22 [v] = some x) :
    ∃ ks : List (List UInt8), IsSt W v ks ∧ (ks.map fun x => x.length * 7 + 10).sum + 1 ≤ 40 * Rows.uptoBulk x.1 := by
  rcases open_slice1 Tryd.underlying22 cellsJs h with ⟨h0, hx⟩ | ⟨a, len, cap, m, n, V, D, Pl, hc, hb, hl, hm, hmm, hx, he⟩
  · simp only [List.cons.injEq, and_true] at h0
    subst hx
    rw [h0]
    exact ⟨[], ⟨none, 0, rfl, Nat.le_refl _, by unfold maxLen; omega, fun i x hx => by simp at hx⟩, by simp [Rows.uptoBulk]⟩
  simp only [List.cons.injEq, and_true] at hc
  subst hx
  have hlm : len ≤ m := by rw [hmm]; split <;> omega
  have each : ∀ i, i < len → ∃ s : ByteArray, W.cell? (a.add i) = some (.string s) ∧ s.size * 7 + 10 ≤ 40 * Rows.uptoBulk (D i) := by
    intro i hi
    obtain ⟨h1, h2⟩ := he i (by omega)
    obtain ⟨s0, e0, d0, _⟩ := DataW.trod_string Tryd.underlying9 h2
    simp only [List.cons.injEq, and_true] at e0
    rw [e0] at h1
    refine ⟨s0, h1, ?_⟩
    have d0' : D i = _ := congrArg Prod.fst d0
    rw [d0']
    simp only [Rows.uptoBulk]
    have : s0.data.toList.length = s0.size := bs_len s0
    omega
  obtain ⟨R, hR⟩ := choose_lt each
  have hsum := bulkJ_sum len D (fun i => (R i).size * 7 + 10) (fun i hi => (hR i hi).2)
  refine ⟨(List.range len).map fun i => bs (R i), ⟨some a, cap, by simpa using hc, by simpa using hl, hm, fun i x hx => ?_⟩, ?_⟩
  · have hi' : i < len := by
      rcases Nat.lt_or_ge i len with q | q
      · exact q
      · rw [List.getElem?_eq_none (by simpa using q)] at hx; cases hx
    have hsp : a.spot = none := by
      have := (hR 0 (by omega)).1
      have ha : a.add 0 = a := by simp [Addr.add]
      rw [ha] at this
      unfold World.cell? at this
      split at this
      · split at this
        · simp at this
        · rename_i h; simpa using h
      · simp at this
    obtain ⟨ab, ao, as_⟩ := a
    simp only at hsp
    subst hsp
    obtain rfl : bs (R i) = x := by simpa [hi'] using hx
    refine ⟨ab, ao, rfl, ?_⟩
    have := (hR i hi').1
    rw [ba_bs, ← this]
    congr 1
    unfold Addr.add
    by_cases h1 : i = 0 <;> simp [h1]
  · have e : ((List.range len).map fun i => bs (R i)).map (fun x => x.length * 7 + 10) = (List.range len).map fun i => (R i).size * 7 + 10 := by
      rw [List.map_map]; apply List.map_congr_left; intro i _; simp [bs_len]
    rw [e]
    simp only [Rows.uptoBulk]
    omega
set_option maxRecDepth 100000 in
theorem open_json (N : Nat) : ∀ (n : Nat) (cs : List Value) (x : DataW H × List MemPlace), DataW.trod enc Tryd.prog W base spare held n 25 cs = some x → Rows.uptoBulk x.1 ≤ N →
    ∃ (q : Value × Value × Value × Value × Value) (j : J), cs = [q.1, q.2.1, q.2.2.1, q.2.2.2.1, q.2.2.2.2] ∧ (∃ k n, q.1 = .int .i64 k ∧ q.2.1 = .int .i64 n) ∧ IsA W (.agg #[q.1, q.2.1, q.2.2.1, q.2.2.2.1, q.2.2.2.2]) j ∧ wt j ≤ 40 * Rows.uptoBulk x.1 := by
  induction N with
  | zero =>
    intro n cs x h hN
    obtain ⟨f0, f1, f2, f3, f4, hu, _⟩ := undJ
    obtain ⟨xs, k, _, hxy, _⟩ := DataW.trod_struct hu h
    subst hxy
    simp only [Rows.uptoBulk] at hN
    omega
  | succ N ih =>
    intro n cs x h hN
    obtain ⟨f0, f1, f2, f3, f4, hu, o0, o1, o2, o3, o4, t0, t1, t2, t3, t4⟩ := undJ
    obtain ⟨xs, k, _, hxy, hcl, hxl, hf⟩ := DataW.trod_struct hu h
    rw [cellsJson] at hcl
    match xs, hxl, cs, hcl with
    | [y0, y1, y2, y3, y4], _, [v0, v1, v2, v3, v4], _ =>
      have g0 := hf 0 f0 rfl
      have g1 := hf 1 f1 rfl
      have g2 := hf 2 f2 rfl
      have g3 := hf 3 f3 rfl
      have g4 := hf 4 f4 rfl
      simp [o0, o1, o2, o3, o4, t0, t1, t2, t3, t4, cellsJ3, cellsJs, cellsJss, cellsJjs] at g0 g1 g2 g3 g4
      obtain ⟨a0, e0, d0, _⟩ := DataW.trod_int Tryd.underlying3 g0
      obtain ⟨a1, e1, d1, _⟩ := DataW.trod_int Tryd.underlying3 g1
      obtain ⟨s2, e2, d2, _⟩ := DataW.trod_string Tryd.underlying9 g2
      simp only [List.cons.injEq, and_true] at e0 e1 e2
      subst e0 e1 e2
      obtain ⟨ks, hks, hkw⟩ := open_texts g3
      subst hxy
      have hs2 : s2.data.toList.length = s2.size := bs_len s2
      have hbk : Rows.uptoBulk (DataW.agg ([y0, y1, y2, y3, y4].map (·.1))) = s2.size + 1 + Rows.uptoBulk y0.1 + Rows.uptoBulk y1.1 + Rows.uptoBulk y3.1 + Rows.uptoBulk y4.1 + 1 := by
        simp only [List.map_cons, List.map_nil, Rows.uptoBulk, Rows.uptoBulkAll]
        rw [d2]
        simp only [Rows.uptoBulk]
        omega
      have hN' : s2.size + 1 + Rows.uptoBulk y0.1 + Rows.uptoBulk y1.1 + Rows.uptoBulk y3.1 + Rows.uptoBulk y4.1 + 1 ≤ N + 1 := by rw [← hbk]; exact hN
      have hgoal : ∀ (kids : List J) (bo : Option Addr) (bcap : Nat) (f : Nat → Value × Value × Value × Value × Value), v4 = .slice bo kids.length bcap → (kids.length ≤ bcap ∧ bcap ≤ maxLen) →
          (∀ i, i < kids.length → ∃ g o, bo = some ⟨g, o, none⟩ ∧ W.cell? ⟨g, o + i * 5, none⟩ = some (f i).1 ∧ W.cell? ⟨g, o + i * 5 + 1, none⟩ = some (f i).2.1 ∧ W.cell? ⟨g, o + i * 5 + 2, none⟩ = some (f i).2.2.1 ∧ W.cell? ⟨g, o + i * 5 + 3, none⟩ = some (f i).2.2.2.1 ∧ W.cell? ⟨g, o + i * 5 + 4, none⟩ = some (f i).2.2.2.2) →
          (∀ (i : Nat) (j : J), kids[i]? = some j → IsA W (.agg #[(f i).1, (f i).2.1, (f i).2.2.1, (f i).2.2.2.1, (f i).2.2.2.2]) j) → wts kids ≤ 40 * Rows.uptoBulk y4.1 →
          ∃ (q : Value × Value × Value × Value × Value) (j : J), [Value.int .i64 a0, .int .i64 a1, .string s2, v3, v4] = [q.1, q.2.1, q.2.2.1, q.2.2.2.1, q.2.2.2.2] ∧ (∃ k n, q.1 = .int .i64 k ∧ q.2.1 = .int .i64 n) ∧ IsA W (.agg #[q.1, q.2.1, q.2.2.1, q.2.2.2.1, q.2.2.2.2]) j ∧ wt j ≤ 40 * Rows.uptoBulk (DataW.agg ([y0, y1, y2, y3, y4].map (·.1))) := by
        intro kids bo bcap f hv hc hr hp hw
        refine ⟨(.int .i64 a0, .int .i64 a1, .string s2, v3, v4), .mk a0 a1 (bs s2) ks kids, rfl, ⟨a0, a1, rfl, rfl⟩, ?_, ?_⟩
        · have := IsA.mk (w := W) a0 a1 (bs s2) ks kids v3 bo bcap f hks hc hr hp
          rw [ba_bs] at this
          rw [hv]; exact this
        · rw [hbk]; simp only [wt, bs_len]; omega
      rcases open_slice Tryd.underlying23 g4 with ⟨h0, hx⟩ | ⟨a, len, cap, m, n', D, Pl, hc, hb, hl, hm, hmm, hx, he⟩
      · simp only [List.cons.injEq, and_true] at h0
        exact hgoal [] none 0 (fun _ => (.bool true, .bool true, .bool true, .bool true, .bool true)) h0 ⟨Nat.le_refl _, by unfold maxLen; omega⟩ (fun i hi => by simp at hi) (fun i j hj => by simp at hj) (by simp [wts])
      · simp only [List.cons.injEq, and_true] at hc
        have hlm : len ≤ m := by rw [hmm]; split <;> omega
        have hy4 : Rows.uptoBulk y4.1 = Rows.uptoBulkAll ((List.range len).map D) + Rows.uptoBulkAll ((List.range (m - len)).map fun j => D (len + j)) + 1 := by rw [hx]; simp only [Rows.uptoBulk]
        have each : ∀ i, i < len → ∃ r : (Value × Value × Value × Value × Value) × J, W.cells? base (a.add (i * 5)) 5 = some [r.1.1, r.1.2.1, r.1.2.2.1, r.1.2.2.2.1, r.1.2.2.2.2] ∧ (∃ k n, r.1.1 = .int .i64 k ∧ r.1.2.1 = .int .i64 n) ∧ IsA W (.agg #[r.1.1, r.1.2.1, r.1.2.2.1, r.1.2.2.2.1, r.1.2.2.2.2]) r.2 ∧ wt r.2 ≤ 40 * Rows.uptoBulk (D i) := by
          intro i hi
          obtain ⟨cs', h1, h2⟩ := he i (by omega)
          rw [cellsJson] at h1
          have hm1 := bulkJ_mem ((List.range len).map D) (D i) (List.mem_map.2 ⟨i, List.mem_range.2 hi, rfl⟩)
          obtain ⟨q, j, rfl, hq, hA, hw⟩ := ih n' cs' _ h2 (show Rows.uptoBulk (D i) ≤ N by omega)
          exact ⟨(q, j), h1, hq, hA, hw⟩
        haveI : Inhabited ((Value × Value × Value × Value × Value) × J) := ⟨((.bool true, .bool true, .bool true, .bool true, .bool true), .mk 0 0 [] [] [])⟩
        obtain ⟨R, hR⟩ := choose_lt each
        have hsum := bulkJ_sum len D (fun i => wt (R i).2) (fun i hi => (hR i hi).2.2.2)
        refine hgoal ((List.range len).map fun i => (R i).2) (some a) cap (fun i => (R i).1) (by simpa using hc) ⟨by simpa using hl, hm⟩ (fun i hi => ?_) (fun i j hj => ?_) ?_
        · have hi' : i < len := by simpa using hi
          have hsp : a.spot = none := by
            obtain ⟨_, _, hc0⟩ := World.cells?_some (hR 0 (by omega)).1
            have := hc0 0 (by omega)
            obtain ⟨k0, n0, hk0, -⟩ := (hR 0 (by omega)).2.1
            simp only [Nat.zero_mul] at this
            have ha : (a.add 0).add 0 = a := by simp [Addr.add]
            rw [ha] at this
            unfold World.cell? at this
            split at this
            · split at this
              · simp [hk0] at this
              · rename_i h; simpa using h
            · simp at this
          obtain ⟨_, _, hcell⟩ := World.cells?_some (hR i hi').1
          obtain ⟨ab, ao, as_⟩ := a
          simp only at hsp
          subst hsp
          have ad : ∀ j, ((⟨ab, ao, none⟩ : Addr).add (i * 5)).add j = ⟨ab, ao + i * 5 + j, none⟩ := by
            intro j
            unfold Addr.add
            by_cases h1 : i * 5 = 0 <;> by_cases h2 : j = 0 <;> simp [h1, h2]
          have e0 := hcell 0 (by omega)
          have e1 := hcell 1 (by omega)
          have e2 := hcell 2 (by omega)
          have e3 := hcell 3 (by omega)
          have e4 := hcell 4 (by omega)
          rw [ad] at e0 e1 e2 e3 e4
          exact ⟨ab, ao, rfl, e0, e1, e2, e3, e4⟩
        · have hi' : i < len := by
            rcases Nat.lt_or_ge i len with q | q
            · exact q
            · rw [List.getElem?_eq_none (by simpa using q)] at hj; cases hj
          obtain rfl : (R i).2 = j := by simpa [hi'] using hj
          exact (hR i hi').2.2.1
        · rw [wts_sum, List.map_map, hy4]
          have : ((List.range len).map (wt ∘ fun i => (R i).2)).sum = ((List.range len).map fun i => wt (R i).2).sum := rfl
          rw [this]
          omega
end
end Go.Proofs.YthdbnafiindgbaaDoor
