/- QueryFew returns true at every input, on every schedule, without a data race, and its arguments read behind it as they did: the row of the first form. Its conditions: those of the row alone (calm; time may pass). -/
import Derived.Test.YtdlnlcjmjgbikaaVb1
import Derived.Test.YtdlnlcjmjgbikaaWa1
import Derived.Test.YtdlnlcjmjgbikaaSp
import Derived.Test.YtdlnlcjmjgbikaaRows
import Derived.Conc.HoldsTime
import Derived.Carry
namespace Go.Proofs.Ytdlnlcjmjgbikaa
open Go Go.Conc Go.ConcM Go.ChangeShapes Go.WideShapes Go.ChangeAt Go.RowKit Go.Deep

theorem own : ownKnob Try.prog.godebug = none := by kernel_rfl
/-- What is known behind the law, in one goroutine. -/
def FewPQ (W : World) (x : Value) (v : World) : Prop := x = .bool true ∧ v.os = W.os ∧ v.output = W.output ∧ W.heap.size ≤ v.heap.size ∧ ∀ b, b < W.heap.size → v.heap[b]? = (calm W).heap[b]?
/-- What is known behind the program's run. -/
def FewPost (W : World) (x : Value) (w : World) : Prop := x = .bool true ∧ Below W.heap.size W { w with os := W.os, tape := W.tape } ∧ OsLater W.os w.os
theorem few_runs {W : World} (hs : W.ShapedOpen Try.prog) {R : QR} {ro fo : Option Addr} {cap m fcap : Nat} (hr : RulesAt W R ro) (hm : m ≤ 9223372036854775807)
    (hf : ∀ i, i < m → ∃ b o z, fo = some ⟨b, o, none⟩ ∧ W.cell? ⟨b, o + i, none⟩ = some (.int .i64 z)) (key v : Int) :
    ∃ n last o w' t', runNT Try.prog (n + 1) (Go.Conc.solo (G (Frame.enter Try.prog 4 #[.slice ro R.n cap, .slice fo m fcap, .int .i64 key, .int .i64 v] .normal) []) W) #[] = (.ended o w', t') ∧ runN Try.prog n (Go.Conc.solo (G (Frame.enter Try.prog 4 #[.slice ro R.n cap, .slice fo m fcap, .int .i64 key, .int .i64 v] .normal) []) W) = .next last ∧ step Try.prog last = .ended o w' ∧ Go.Conc.Good Try.prog (FewPost W) last o w' t' := by
  refine runs_of_calls (f := 4) (t := 8) Try.func4 (by decide) (by kernel_rfl) (by kernel_rfl) (by kernel_rfl) (by decide) hs (PQ := FewPQ W) (fun x v τ d h => h) (fun τ d => ?_) ?_
  · refine (few_any (w := re (calm W) τ d) (R := R) rfl (fun k hk => ?_) (fun i hi => ?_) hm key v).mono ?_
    · obtain ⟨b, o, e, c0, c1, c2, c3⟩ := hr k hk
      exact ⟨b, o, e, calm_cell c0, calm_cell c1, calm_cell c2, calm_cell c3⟩
    · obtain ⟨b, o, z, e, c⟩ := hf i hi
      exact ⟨b, o, z, e, calm_cell c⟩
    · rintro e w' ⟨rfl, k⟩
      have hz : (re (calm W) τ d).heap.size = W.heap.size := by simp [re, calm]
      exact ⟨_, rfl, rfl, k.os, k.output, by rw [← hz]; exact k.size, fun b hb => k.block b (by rw [hz]; exact hb) id⟩
  · rintro X v w x ⟨rfl, h1, h2, h3, h4⟩ _ hX hR hK
    have hO := old_kept h4 hX hR hK
    refine ⟨rfl, ⟨rfl, rfl, hR.output.symm.trans h2, by rw [← hR.size]; exact h3, hO⟩, ?_⟩
    rw [← hR.os, h1]
    exact OsLater.refl _

theorem kept_tape {W w w2 : World} {may : MemPlace → Prop} (h : W.keptBut w may) (h1 : w2.os = w.os) (h2 : w2.output = w.output) (h3 : w2.heap = w.heap) : W.keptBut w2 may := by
  obtain ⟨a, b, c⟩ := h
  exact ⟨h1.trans a, h2.trans b, by rw [h3]; exact c⟩
set_option maxRecDepth 100000 in
theorem few_lifted (os : Os) (started : os.Started) (H : Type) (enc : TypeId × Value → H) (F : Stop.Interp) :
    ReturnsInLeavingWide Rows.queryFewRow.assume Try.checked os 4 .any (Rows.queryFewSpec.pre6 enc Try.prog Try.f4 Rows.queryFewRow.domain false) ((OpenSpec.ofChange Rows.queryFewSpec).postWith enc Try.prog Try.f4 F (outsideKept [.timePasses]) false true false) := by
  refine returnsInLeavingWide_of_good (C := Try.checked) own started
    (ChangeSpec.witness6c (enc := enc) (C := Try.checked) ⟨#[], #[.slice none 0 0, .slice none 0 0, .int .i64 0, .int .i64 0], []⟩ 8 (by kernel_rfl) (by kernel_rfl) (by kernel_rfl) (by kernel_rfl)) ?_
  intro w tape i _ hs _ hok hpre _
  obtain ⟨_, _, _, fn', hfn', _, _, _, _, hval0⟩ := hok
  obtain rfl : fn' = Try.f4 := Option.some.inj (hfn'.symm.trans Try.func4)
  obtain ⟨⟨ds, gs, before, hw0, _⟩, _⟩ := hpre
  have hW := DataW.Whole.of_heap (w' := w.forCall tape i) (by rfl) hw0
  clear hw0 hfn'
  generalize w.forCall tape i = W at *
  generalize i.args = args at *
  have hval : ∀ (j : Nat) t v, Try.f4.params[j]? = some t → args[j]? = some v → Value.okWide Try.prog W .any w.heap.size t v := hval0
  clear hval0
  have hW' := hW
  obtain ⟨p, q, hA0, hV, rfl, _, _⟩ := hW
  have hA : DataW.TrodAll enc Try.prog W 0 (fun _ => true) true Try.f4.params.toList args.toList ds p := hA0
  rw [Try.params4] at hA hval
  obtain ⟨v0, vs0, d0, ds0, p0, q0, hargs, rfl, rfl, h0, r0⟩ := trodAll_cons hA
  obtain ⟨v1, vs1, d1, ds1, p1, q1, rfl, rfl, rfl, h1, r1⟩ := trodAll_cons r0
  obtain ⟨v2, vs2, d2, ds2, p2, q2, rfl, rfl, rfl, h2, r2⟩ := trodAll_cons r1
  obtain ⟨v3, vs3, d3, ds3, p3, q3, rfl, rfl, rfl, h3, r3⟩ := trodAll_cons r2
  obtain ⟨rfl, rfl, rfl⟩ := trodAll_nil r3
  obtain rfl : args = #[v0, v1, v2, v3] := by cases args; simp_all
  obtain ⟨rfl, rfl⟩ := trodVars_none hV
  obtain ⟨a0, l0, c0, rfl⟩ := okWide_slice Try.underlying22 (hval 0 22 v0 rfl rfl)
  obtain ⟨a1, l1, c1, rfl⟩ := okWide_slice Try.underlying23 (hval 1 23 v1 rfl rfl)
  obtain ⟨key, rfl, rfl, rfl, wk⟩ := open_int Try.underlying3 (hval 2 3 v2 rfl rfl) h2
  obtain ⟨u, rfl, rfl, rfl, wu⟩ := open_int Try.underlying3 (hval 3 3 v3 rfl rfl) h3
  have lt0 : ∀ x ∈ p0, x.block < W.heap.size := by obtain ⟨fu, hfu⟩ := h0; exact DataW.trod_lt fu _ _ _ hfu
  have lt1 : ∀ x ∈ p1, x.block < W.heap.size := by obtain ⟨fu, hfu⟩ := h1; exact DataW.trod_lt fu _ _ _ hfu
  have k0 := h0
  have k1 := h1
  obtain ⟨f0, t0⟩ := k0
  obtain ⟨f1, t1⟩ := k1
  obtain ⟨R, ro, cap, e0, hr⟩ := open_rules t0
  obtain ⟨fo, m, fcap, e1, hm, hf⟩ := open_numbers t1
  obtain ⟨rfl, rfl, rfl⟩ : a0 = ro ∧ l0 = R.n ∧ c0 = cap := by simpa [Value.cells] using e0
  obtain ⟨rfl, rfl, rfl⟩ : a1 = fo ∧ l1 = m ∧ c1 = fcap := by simpa [Value.cells] using e1
  clear hA0 hA hval hargs r0 r1 r2 r3
  simp only [List.append_nil] at hW'
  obtain ⟨M, last, o, w', t', g1, g2, g3, v, e, hp, g4, g5, g6, g7⟩ := few_runs (cap := c0) (fcap := c1) hs hr hm hf key u
  obtain ⟨rfl, hb, hos⟩ := hp
  refine ⟨M, last, o, w', t', g1, g2, g3, _, e, postWith_blind (postWith_of_post ?_ hos), g4, g5, g6, g7⟩
  have hA' : DataW.TrodAll enc Try.prog { w' with os := W.os, tape := W.tape } 0 (fun b => decide (b < W.heap.size)) true [22, 23, 3, 3] [.slice a0 R.n c0, .slice a1 l1 c1, .int .i64 key, .int .i64 u] [d0, d1, .lit (.int .i64 key), .lit (.int .i64 u)] _ :=
    trodAll_cons_mk (Below.trod laidOut readable22 row22 h0 hb lt0) (trodAll_cons_mk (Below.trod laidOut readable23 row23 h1 hb lt1) (trodAll_mk2 (shut_int Try.underlying3 wk) (shut_int Try.underlying3 wu)))
  exact ⟨_, _, _, [], _, [], hW', trodAll_mk1 (shut_bool Try.underlying4 _), hA'.of_heap (by rfl), rfl, kept_tape (hb.frame _) rfl rfl rfl, fun h => by cases h⟩

-- THE ROW
theorem few_holds : Rows.QueryFewSaid :=
  OpenClaim.holds_of_wide_leaving_time 4 Try.f4 rfl rfl rfl rfl rfl rfl rfl ⟨rfl, rfl, rfl, rfl, rfl⟩ rfl rfl rfl rfl rfl (by kernel_rfl) Try.func4 (by kernel_rfl)
    (of_decide_eq_true (by kernel_rfl)) (by unfold Func.isWrapper; first | (rw [if_pos (by decide +kernel)]; kernel_rfl) | (rw [if_neg (by decide +kernel)]; exact ⟨rfl, rfl⟩))
    (fun os started H enc _ F => few_lifted os started H enc F)
#print axioms few_holds
end Go.Proofs.Ytdlnlcjmjgbikaa
