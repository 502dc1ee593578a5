/- The writer of plain spans: a span is ended. -/
import Derived.Test.YtobdfddpiobhhaaWa
import Derived.Deep.DrawnRows
namespace Go.Proofs.Ytobdfddpiobhhaa
open Go.RowKit
open EM
/-- The text of the open span, and the span appended behind it. -/
theorem end_call (B b : Nat) (w : World) (sv p bv : Value) (fr a : Nat) (L : List Sp) (s0 : By) (F : Nat → Prop) (h1 : WB w b sv (.int .i64 a) (.bool true) (.int .i64 fr) p bv) (h2 : w.ownsRow B 32 3 sv L.length ((L.map raw).flatMap Rw.vals)) (h3 : BU w B b p bv s0)
    (h6 : ∀ k, sv.ownBlock = some k → F k ∧ k ≠ b ∧ bv.ownBlock ≠ some k) (h7 : ∀ k, bv.ownBlock = some k → F k ∧ k ≠ b) (hB : B ≤ w.heap.size) (hl : L.length ≤ 1099511627776) :
    Calls Try.prog 12 #[.pointer (some ⟨b, 4, none⟩)] w fun e w1 => e = .returned (.string (ba s0)) ∧ ∃ gg cap w2, WB w1 b sv (.int .i64 a) (.bool true) (.int .i64 fr) p bv ∧
      (Builtin.append_ #[22, 22] 22 #[sv, .slice (some ⟨w1.heap.size, 0, none⟩) 1 1]).run Try.prog (w1.alloc (.cells #[.int .i64 fr, .int .i64 a, .string (ba s0)] 32)) = .ok (.slice (some ⟨gg, 0, none⟩) (L.length + 1) cap) w2 ∧
      w2.ownsRow B 32 3 (.slice (some ⟨gg, 0, none⟩) (L.length + 1) cap) (L.length + 1) ((L.map raw).flatMap Rw.vals ++ [.int .i64 fr, .int .i64 a, .string (ba s0)]) ∧ WB w2 b sv (.int .i64 a) (.bool true) (.int .i64 fr) p bv ∧
      (sv.ownBlock = some gg ∨ w.heap.size ≤ gg) ∧ Kp (fun k => bv.ownBlock = some k ∨ sv.ownBlock = some k) w w2 ∧ w1.heap.size = w.heap.size := by
  obtain ⟨i0, hi0, hz0, hz1, hz2⟩ := info_parts info32
  refine (stringIn B b w s0 h1 h3).mono ?_
  rintro e w1 ⟨rfl, hsz, hk1⟩
  have g1 := h1.kp hk1 (fun h => (h7 b h).2 rfl)
  have hown := hk1.owns h2 (fun k hk => (h6 k hk).2.2)
  obtain ⟨gg, cap, w2, hr, hown1, hgrow, hat, hlt⟩ := run_append_lies (P := Try.prog) (w1.alloc (.cells #[.int .i64 fr, .int .i64 a, .string (ba s0)] 32)) 22 22 B 32 i0 _ 3 32 Try.underlying22 hi0 hz0 hz1 hz2 rfl (by omega) sv L.length _ (hown.alloc _) ⟨w1.heap.size, 0, none⟩ 1 1 [.int .i64 fr, .int .i64 a, .string (ba s0)] (by rfl) (World.news_of_block (cs := #[.int .i64 fr, .int .i64 a, .string (ba s0)]) (t := 32) (fr := (0, 0)) (heap_alloc_new w1 _)) (by simp [Value.oneCell']) (by omega) (by unfold maxLen; omega) (by omega) (by simp; omega) (w1.heap.size + 1) (by simp)
  refine ⟨rfl, gg, cap, w2, g1, hr, hown1, ?_, ?_, ?_, hsz⟩
  · have g1' : WB (w1.alloc (.cells #[.int .i64 fr, .int .i64 a, .string (ba s0)] 32)) b sv (.int .i64 a) (.bool true) (.int .i64 fr) p bv := (Below.heap_alloc _ _ _ g1.lt).trans g1
    exact (hgrow.block b g1'.lt (fun e => (h6 b e.symm).2.1 rfl)).trans g1'
  · rcases hat with hg | hg
    · exact .inl hg
    · exact .inr (by omega)
  · have k1 : Kp (fun k => bv.ownBlock = some k ∨ sv.ownBlock = some k) w w1 := hk1.mono (fun _ _ h => .inl h)
    exact (k1.alloc _).grown hgrow (fun k hk _ => .inr hk)
theorem step_call27 {ops : Array Oper} {o : Oper} {a : Act} {K : Act → World → Prop} {Q : Exit → Act → World → Prop} {E : Prop} (w : World) (hgd : o.guard = none) (x : Operand) (t : TypeId)
    (ho : o.op = .call { callee := .value (.func 12), args := #[x], argTypes := #[t] }) (v : Value) (hx : a.eval x = v) (R : Ending → World → Prop) (hc : Calls Try.prog 12 #[v] w R) (h : ∀ e w', R e w' → ∃ r, e = .returned r ∧ K (a.put o.dst r) w') :
    if Region.wanted o (yielded ops a.tmps) = true then Oper.wp Try.prog o a w K Q else E := by
  have hw : Region.wanted o (yielded ops a.tmps) = true := by simp [Region.wanted, hgd]
  rw [if_pos hw]
  have hrun : (execOp a.eval o).run Try.prog w = .ok (.enter 12 #[v]) w := by
    unfold execOp
    simp only [ho, resolve, invoke, Sem.run_bind, List.map_toArray, List.map_cons, List.map_nil, hx]
    change (callFunc 12 (#[v] ++ #[])).run Try.prog w = _
    simp
  unfold Oper.wp
  rw [hrun, Oper.upon_enter]
  refine hc.mono fun e w' hr => ?_
  obtain ⟨r, rfl, hk⟩ := h e w' hr
  exact hk
theorem step_append_run {ops : Array Oper} {o : Oper} {a : Act} {K : Act → World → Prop} {Q : Exit → Act → World → Prop} {E : Prop} (w : World) (hgd : o.guard = none) (s x : Operand) (t ty : TypeId)
    (ho : o.op = .call { callee := .builtin .append, args := #[s, x], argTypes := #[t, t] }) (hty : o.type = ty) (v y : Value) (hs : a.eval s = v) (hx : a.eval x = y) (r : Value) (w' : World) (hr : (Builtin.append_ #[t, t] ty #[v, y]).run Try.prog w = .ok r w') (h : K (a.put o.dst r) w') :
    if Region.wanted o (yielded ops a.tmps) = true then Oper.wp Try.prog o a w K Q else E := by
  have hw : Region.wanted o (yielded ops a.tmps) = true := by simp [Region.wanted, hgd]
  rw [if_pos hw]
  subst hty
  unfold Oper.wp execOp
  simp only [ho, resolve, invoke, builtin, Sem.run_bind, Sem.run_pure, Result.andThen_ok, List.map_toArray, List.map_cons, List.map_nil, hs, hx, hr]
  exact h
attribute [local go_sem ↓] Go.wp_at_zero Go.wp_at_succ
/-- The reading of the writer's spans. -/
def op10 : Oper := { dst := some 10, op := Op.load 22 (Operand.tmp 9), type := 22, pos := "writer.go:50", after := #[{ on := 3, ground := Ground.data }], guard := none }
theorem op10_eq : ({ dst := some 10, op := Op.load 22 (Operand.tmp 9), type := 22, pos := "writer.go:50", after := #[{ on := 3, ground := Ground.data }], guard := none } : Oper) = op10 := rfl
/-- What stands behind the appended span. -/
def EndPost (B b : Nat) (w : World) (sv p bv : Value) (fr a : Nat) (L : List Sp) (s0 : By) (wx : World) : Prop :=
  ∃ sv', WB wx b sv' (.int .i64 a) (.bool true) (.int .i64 fr) p bv ∧ wx.ownsRow B 32 3 sv' (L.length + 1) ((L.map raw).flatMap Rw.vals ++ [.int .i64 fr, .int .i64 a, .string (ba s0)]) ∧
    (∀ k, sv'.ownBlock = some k → sv.ownBlock = some k ∨ w.heap.size ≤ k) ∧ Kp (fun k => k = b ∨ bv.ownBlock = some k ∨ sv.ownBlock = some k) w wx
theorem endPost {B b : Nat} {w : World} {sv p bv : Value} {fr a : Nat} {L : List Sp} {s0 : By} {gg cap : Nat} {w2 : World} (h1 : w2.ownsRow B 32 3 (.slice (some ⟨gg, 0, none⟩) (L.length + 1) cap) (L.length + 1) ((L.map raw).flatMap Rw.vals ++ [.int .i64 fr, .int .i64 a, .string (ba s0)])) (h2 : WB w2 b sv (.int .i64 a) (.bool true) (.int .i64 fr) p bv)
    (h3 : sv.ownBlock = some gg ∨ w.heap.size ≤ gg) (hs : sv.ownBlock ≠ some b) (hb : b < w.heap.size) (h4 : Kp (fun k => bv.ownBlock = some k ∨ sv.ownBlock = some k) w w2) : EndPost B b w sv p bv fr a L s0 (w2.setCell ⟨b, 0, none⟩ (.slice (some ⟨gg, 0, none⟩) (L.length + 1) cap)) := by
  refine ⟨_, h2.set0 _, (Kp.one w2 b 0 _).owns h1 (fun k hk e => ?_), fun k hk => ?_, (h4.mono (fun _ _ h => .inr h)).setCell (p := ⟨b, 0, none⟩) (fun _ => .inl rfl) _⟩
  · simp only [Value.ownBlock, Option.some.injEq] at hk
    subst hk
    rcases h3 with h3 | h3
    · exact hs (e ▸ h3)
    · omega
  · simp only [Value.ownBlock, Option.some.injEq] at hk
    subst hk
    exact h3
set_option maxRecDepth 100000 in
set_option maxHeartbeats 4000000 in
theorem end_any (B b : Nat) (w : World) (W : Wr) (F : Nat → Prop) (h : IsW B w b W F) (hB : B ≤ w.heap.size) (_ha : W.a ≤ 1099511627776) (hl : W.l.length ≤ 1099511627776) :
    Calls Try.prog 29 #[.pointer (some ⟨b, 0, none⟩)] w fun e w' => e = .returned (.tuple #[]) ∧ IsW B w' b W.fin (fun k => F k ∨ (w.heap.size ≤ k ∧ k < w'.heap.size)) ∧ Kp F w w' := by
  cases ho : W.o with
  | none =>
    have e1 : W.fin = W := by unfold Wr.fin; simp [ho]
    have e2 : Wr.opn W = false := by simp [Wr.opn, ho]
    have HW := hide (show IsW B w b W.fin (fun k => F k ∨ (w.heap.size ≤ k ∧ k < w.heap.size)) by rw [e1]; exact h.more (fun k hk => .inl hk) (fun k hk => by rcases hk with hk | hk; exact h.lt k hk; omega))
    obtain ⟨⟨sv, p, bv, fr, h1, h2, h3, h4, h5, h6, h7⟩, f, lt⟩ := h
    obtain ⟨c0, c1, c2, c3, c4, c5⟩ := h1.cells
    rw [e2] at c2
    clear h1 h2 h3 h4 h6 h7 lt e1 e2
    go_enter Try.func29, Try.ntmps29
    go_wp2_with fail
    go_end0
    exact ⟨rfl, HW.out, Kp.refl _ _⟩
  | some q =>
    obtain ⟨f0, s0⟩ := q
    have e2 : Wr.opn W = true := by simp [Wr.opn, ho]
    have e3 : Wr.txt W = s0 := by simp [Wr.txt, ho]
    have e1 : W.fin = ⟨W.l ++ [⟨f0, W.a, s0⟩], W.a, none⟩ := by unfold Wr.fin; simp [ho]
    obtain ⟨⟨sv, p, bv, fr, h1, h2, h3, h4, h5, h6, h7⟩, f, lt⟩ := h
    obtain rfl := h4 f0 s0 ho
    rw [e3] at h3
    rw [e2] at h1
    have hbl := h1.lt
    have HH := hide (And.intro h1 (And.intro h2 (And.intro h3 (And.intro h6 (And.intro h7 (And.intro f lt))))))
    obtain ⟨c0, c1, c2, c3, c4, c5⟩ := h1.cells
    have HE := hide e1
    clear e1 e2 e3 h1 h2 h3 h4 h6 h7 f lt
    have hsb := (HH.out).2.2.2.1
    have hsb2 : sv.ownBlock ≠ some b := fun h => (hsb b h).2.1 rfl
    have HS2 := hide hsb2
    clear hsb hsb2
    go_enter Try.func29, Try.ntmps29
    go_wp2_with fail
    go_cut [] (fun wx => EndPost B b w sv p bv fr W.a W.l s0 wx)
    case first =>
      clear HE c2 c4 c5
      rw [op10_eq]
      have hop : op10 = { dst := some 10, op := Op.load 22 (Operand.tmp 9), type := 22, pos := "writer.go:50", after := #[{ on := 3, ground := Ground.data }], guard := none } := rfl
      go_region_held3 (fun w' => w'.cell? ⟨b, 1, none⟩ = some (.int .i64 W.a) ∧ w'.cell? ⟨b, 3, none⟩ = some (.int .i64 fr))
        (first | go_keep | exact ⟨x1, x3⟩ | exact ⟨u1, u3⟩ | exact ⟨by rw [set_cell _ b 0 _ _ u0, if_neg (by simp)]; exact u1, by rw [set_cell _ b 0 _ _ u0, if_neg (by simp)]; exact u3⟩)
        (first
          | ((go_at_call 12; refine (end_call B b _ sv p bv fr W.a W.l s0 F (by exact (HH.out).1) (by exact (HH.out).2.1) (by exact (HH.out).2.2.1) (HH.out).2.2.2.1 (HH.out).2.2.2.2.1 (by exact hB) hl).mono ?_; rintro e w1 ⟨rfl, gg, cap, w2, g1, hr, ho2, g2, hat, hk2, hsz⟩; obtain ⟨x0, x1, x2, x3, x4, x5⟩ := g1.cells; obtain ⟨u0, u1, u2, u3, u4, u5⟩ := g2.cells; have y0 := g2.frozen 0; have hb1 := g1.lt; have hb2 := g2.lt; have HSZ := hide hsz; clear hsz))
          | ((refine step_append_run _ (by rfl) _ _ 22 22 (by rfl) (by rfl) sv _ (by rfl) (by rfl) _ w2 hr ?_)))
      all_goals (go_wp2_with fail; go_meet)
      all_goals (case rel => exact endPost ho2 g2 hat HS2.out hbl ⟨hk2.os, hk2.tape, hk2.output, hk2.size, hk2.block⟩)
    case rest =>
      obtain ⟨sv', g1, g2, g3, g4⟩ := hcut
      have hs3 : ∀ k, sv'.ownBlock = some k → k ≠ b := fun k hk e => by
        rcases g3 k hk with h | h
        · exact HS2.out (e ▸ h)
        · omega
      have HG := hide (And.intro g2 (And.intro g3 (And.intro g4 hs3)))
      clear g2 g3 g4 hs3 c0 c1 c2 c3 c4 c5
      go_wp2_with fail
      refine (resetIn b wc g1).mono ?_
      rintro e w3 ⟨rfl, r1, rk, rz⟩
      obtain ⟨d0, d1, d2, d3, d4, d5⟩ := r1.cells
      have f2 := r1.frozen 2
      have HR := hide (And.intro r1 (And.intro rk rz))
      clear r1 rk rz g1
      go_wp2_with fail
      go_end0
      obtain ⟨g2, g3, g4, hs3⟩ := HG.out
      obtain ⟨r1, rk, rz⟩ := HR.out
      obtain ⟨h1, h2, h3, h6, h7, f, lt⟩ := HH.out
      have kX : Kp (fun k => k = b) wc (w3.setCell ⟨b, 2, none⟩ (.bool false)) := rk.setCell (p := ⟨b, 2, none⟩) (fun _ => rfl) _
      have zX : (w3.setCell ⟨b, 2, none⟩ (.bool false)).heap.size = wc.heap.size := by rw [set_size, rz]
      have z4 := g4.size
      refine ⟨rfl, ?_, ?_⟩
      · rw [HE.out]
        refine ⟨⟨sv', .pointer none, .slice none 0 0, fr, r1.set2 _, ?_, .inl ⟨rfl, rfl, rfl⟩, (fun _ _ h => by cases h), h5, fun k hk => ⟨?_, hs3 k hk, by simp [Value.ownBlock]⟩, fun k hk => by simp [Value.ownBlock] at hk⟩, .inl f, fun k hk => ?_⟩
        · have := kX.owns g2 hs3
          simp only [List.map_append, List.flatMap_append, List.length_append, List.map_cons, List.map_nil, List.flatMap_cons, List.flatMap_nil, List.append_nil, List.length_cons, List.length_nil]
          exact this
        · rcases g3 k hk with h | h
          · exact .inl (h6 k h).1
          · exact .inr ⟨h, by rw [zX]; exact (g2.lt k hk).2⟩
        · rw [zX] at hk ⊢
          rcases hk with hk | hk
          · have := lt k hk; omega
          · omega
      · exact (g4.mono (fun k _ h => by rcases h with rfl | h | h; exact f; exact (h7 k h).1; exact (h6 k h).1)).trans kX (fun k _ h => by rw [h]; exact f)
end Go.Proofs.Ytobdfddpiobhhaa
