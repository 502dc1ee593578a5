/- run: a rule is run. -/
import Derived.Test.YtdlnlcjmjgbikaaTp
import Derived.Laws.AppendOwn
import Derived.Deep.AppendLies
namespace Go.Proofs.Ytdlnlcjmjgbikaa
open Go Go.Conc Go.RowKit Go.Deep

noncomputable section
variable {R : QR} {Y : QY} {X : Nat → Prop} {ch : Nat → Nat} {w w' : World} {S : QS} {k m : Nat} {br : QS → Nat → QO × QS}
def QM.v (q : QM) (l : Value) : Value := .agg #[.bool q.ran, .int .i64 q.out.num, .int .i64 q.out.err, l]
/-- A run, its end. -/
def RunPost (R : QR) (Y : QY) (X : Nat → Prop) (ch : Nat → Nat) (S : QS) (w : World) (q : QM × QS) (e : Ending) (w' : World) : Prop := ∃ l, e = .returned (q.1.v l) ∧ LedIs (Y.out X) w' l q.1.led ∧ Brought R Y X ch S w w' q.2
theorem own4 {A : Nat} {x0 x1 x2 x3 : Value} {t : TypeId} (h : w.heap[A]? = some (.cells #[x0, x1, x2, x3] t)) : (w.cell? ⟨A, 0, none⟩ = some x0 ∧ w.cell? ⟨A, 1, none⟩ = some x1 ∧ w.cell? ⟨A, 2, none⟩ = some x2 ∧ w.cell? ⟨A, 3, none⟩ = some x3) ∧ w.frozen? ⟨A, 0, none⟩ = false ∧ w.frozen? ⟨A, 1, none⟩ = false ∧ w.frozen? ⟨A, 2, none⟩ = false ∧ w.frozen? ⟨A, 3, none⟩ = false := by
  simp [World.cell?, World.frozen?, h]
theorem set4 {A : Nat} {x0 x1 x2 x3 : Value} {t : TypeId} (h : w.heap[A]? = some (.cells #[x0, x1, x2, x3] t)) (y0 y1 y2 y3 : Value) : ((((w.setCell ⟨A, 0, none⟩ y0).setCell ⟨A, 1, none⟩ y1).setCell ⟨A, 2, none⟩ y2).setCell ⟨A, 3, none⟩ y3).heap[A]? = some (.cells #[y0, y1, y2, y3] t) := by
  simp [World.setCell, Array.getElem?_modify, h]
theorem res67 {fn : Func} {t : Tmp} (h : fn.results = #[.cell t 67]) {tmps : Array Value} {W : World} {A : Nat} {x0 x1 x2 x3 : Value} (ht : tmps.getD t undef = .pointer (some ⟨A, 0, none⟩)) (hA : W.heap[A]? = some (.cells #[x0, x1, x2, x3] 67)) : (results fn tmps).run Sq.prog W = .ok (.agg #[x0, x1, x2, x3]) W := by
  obtain ⟨⟨a0, a1, a2, a3⟩, _⟩ := own4 hA
  simp only [results, h, List.mapM_toArray, List.mapM_cons, List.mapM_nil, ht]
  go_simp
theorem app1 {B : Nat} {v : Value} {a b c : Value} (h : w.ownsRow B 147 3 v (0 + 1) ([] ++ [a, b, c])) : ∃ g cap, v = .slice (some ⟨g, 0, none⟩) 1 cap ∧ (B ≤ g ∧ g < w.heap.size) ∧ w.cell? ⟨g, 0, none⟩ = some a ∧ w.cell? ⟨g, 0 + 1, none⟩ = some b ∧ w.cell? ⟨g, 0 + 2, none⟩ = some c := by
  rcases h.2 with ⟨_, h0⟩ | ⟨g, cap, cur, rfl, hb, hg, _⟩
  · cases h0
  · exact ⟨g, cap, rfl, ⟨hb, (Array.getElem?_eq_some_iff.1 hg).1⟩, h.cells (g := g) rfl 0 a rfl, h.cells (g := g) rfl 1 b rfl, h.cells (g := g) rfl 2 c rfl⟩
theorem app2 {B : Nat} {v : Value} {a b c d e f : Value} (h : w.ownsRow B 147 3 v (1 + 1) ([a, b, c] ++ [d, e, f])) : ∃ g cap, v = .slice (some ⟨g, 0, none⟩) 2 cap ∧ (B ≤ g ∧ g < w.heap.size) ∧ (w.cell? ⟨g, 0, none⟩ = some a ∧ w.cell? ⟨g, 0 + 1, none⟩ = some b ∧ w.cell? ⟨g, 0 + 2, none⟩ = some c) ∧ w.cell? ⟨g, 0 + 3, none⟩ = some d ∧ w.cell? ⟨g, 0 + 4, none⟩ = some e ∧ w.cell? ⟨g, 0 + 5, none⟩ = some f := by
  rcases h.2 with ⟨_, h0⟩ | ⟨g, cap, cur, rfl, hb, hg, _⟩
  · cases h0
  · exact ⟨g, cap, rfl, ⟨hb, (Array.getElem?_eq_some_iff.1 hg).1⟩, ⟨h.cells (g := g) rfl 0 a rfl, h.cells (g := g) rfl 1 b rfl, h.cells (g := g) rfl 2 c rfl⟩, h.cells (g := g) rfl 3 d rfl, h.cells (g := g) rfl 4 e rfl, h.cells (g := g) rfl 5 f rfl⟩
theorem own6 {A M : Nat} {a b c x0 x1 x2 x3 y0 y1 y2 y3 : Value} {w6 : World} {row : Option Nat} (hM : w.heap[M]? = some (.cells #[y0, y1, y2, y3] 67)) (hA : w.heap[A]? = some (.cells #[x0, x1, x2, x3] 67))
    (hr : ∀ b, row = some b → b ≠ M ∧ b ≠ A ∧ b < w.heap.size) (hg : ((w.alloc (.cells #[a, b, c] 147)).alloc (.cells #[a, b, c] 147)).grownBy w6 row) :
    w6.heap[M]? = some (.cells #[y0, y1, y2, y3] 67) ∧ w6.heap[A]? = some (.cells #[x0, x1, x2, x3] 67) ∧ w6.cell? ⟨w.heap.size, 0, none⟩ = some a ∧ w6.cell? ⟨w.heap.size, 1, none⟩ = some b ∧ w6.cell? ⟨w.heap.size, 2, none⟩ = some c ∧ w.heap.size + 2 ≤ w6.heap.size ∧ Keep (fun b => row = some b) w w6 := by
  have o : ∀ i, i < w.heap.size → some i ≠ row → w6.heap[i]? = w.heap[i]? := fun i hi hne => by
    rw [hg.block i (by simp; omega) hne, blk_alloc_lt _ _ _ (by simp; omega), blk_alloc_lt _ _ _ hi]
  have hL : w6.heap[w.heap.size]? = some (.cells #[a, b, c] 147) := by
    rw [hg.block _ (by simp; omega) (fun e => by have := (hr _ e.symm).2.2; omega), blk_alloc_lt _ _ _ (by simp)]
    exact heap_alloc_new w _
  have hM' := (Array.getElem?_eq_some_iff.1 hM).1
  have hA' := (Array.getElem?_eq_some_iff.1 hA).1
  have hs : w.heap.size + 2 ≤ w6.heap.size := by
    have := hg.size
    simpa using this
  refine ⟨(o M hM' fun e => (hr _ e.symm).1 rfl).trans hM, (o A hA' fun e => (hr _ e.symm).2.1 rfl).trans hA, ?_, ?_, ?_, hs, ?_⟩
  · simp [World.cell?, hL]
  · simp [World.cell?, hL]
  · simp [World.cell?, hL]
  · exact ⟨hg.os, hg.output, by omega, fun i hi hne => o i hi fun e => hne e.symm⟩
theorem ownsRow_blk {B n size : Nat} {t : TypeId} {v : Value} {xs : List Value} (h : w.ownsRow B t size v n xs) (e : ∀ g, v.ownBlock = some g → w'.heap[g]? = w.heap[g]?) : w'.ownsRow B t size v n xs := by
  refine ⟨h.1, ?_⟩
  rcases h.2 with h0 | ⟨g, cap, cur, rfl, hb, hg, hr⟩
  · exact .inl h0
  · exact .inr ⟨g, cap, cur, rfl, hb, (e g rfl).trans hg, hr⟩
theorem Keep.after {M M' : Nat → Prop} {w w6 w7 : World} (h : Keep M w w6) (k : Keep M' w6 w7) (hn : ∀ b, M' b → w.heap.size ≤ b) : Keep M w w7 :=
  ⟨k.os.trans h.os, k.output.trans h.output, Nat.le_trans h.size k.size, fun b hb hm => (k.block b (Nat.lt_of_lt_of_le hb h.size) fun m => by have := hn b m; omega).trans (h.block b hb hm)⟩
theorem run_close {A M : Nat} {w6 W : World} {S6 : QS} {ch6 : Nat → Nat} (h6 : Rd R Y (fun b => (X b ∨ b = A) ∨ b = M) ch6 w6 S6) (hch : ∀ j, S.hd j = true → ch6 j = ch j) (k6 : Keep Y.mut w w6) (hA : w.heap.size ≤ A) (hM : w.heap.size ≤ M) (kx : Keep (fun b => b = A ∨ b = M) w6 W)
    {l : List QL} {v : Value} (hl : LedIs (Y.out fun b => (X b ∨ b = A) ∨ b = M) w6 v l) : LedIs (Y.out X) W v l ∧ Brought R Y X ch S w W S6 := by
  have hs : ∀ b, b = A ∨ b = M → (X b ∨ b = A) ∨ b = M := fun b hb => hb.elim (fun h => .inl (.inr h)) .inr
  refine ⟨(hl.keep kx fun b hb => .inr (hs b hb)).mono fun b _ ho => ho.elim .inl fun hx => .inr (.inl (.inl hx)), ch6, hch, (h6.keepX (kx.wide fun b _ => hs b)).fewer fun b hb => .inl (.inl hb), ?_⟩
  exact ⟨kx.os.trans k6.os, kx.output.trans k6.output, Nat.le_trans k6.size kx.size, fun b hb hm => (kx.block b (Nat.lt_of_lt_of_le hb k6.size) (by omega)).trans (k6.block b hb hm)⟩
theorem led1 {M : Nat → Prop} {g cap a : Nat} {b c : Int} (h : ¬ M g) (hg : g < w.heap.size) (y0 : w.cell? ⟨g, 0, none⟩ = some (.int .i64 a)) (y1 : w.cell? ⟨g, 0 + 1, none⟩ = some (.int .i64 b)) (y2 : w.cell? ⟨g, 0 + 2, none⟩ = some (.int .i64 c)) : LedIs M w (.slice (some ⟨g, 0, none⟩) 1 cap) [⟨a, ⟨b, c⟩⟩] :=
  .inr ⟨g, cap, rfl, by simp, h, hg, fun i hi => by
    obtain rfl : i = 0 := by simpa using hi
    exact ⟨y0, y1, y2⟩⟩
theorem led2 {M : Nat → Prop} {g cap a a' : Nat} {b c b' c' : Int} (h : ¬ M g) (hg : g < w.heap.size) (y : w.cell? ⟨g, 0, none⟩ = some (.int .i64 a) ∧ w.cell? ⟨g, 0 + 1, none⟩ = some (.int .i64 b) ∧ w.cell? ⟨g, 0 + 2, none⟩ = some (.int .i64 c))
    (z : w.cell? ⟨g, 0 + 3, none⟩ = some (.int .i64 a') ∧ w.cell? ⟨g, 0 + 4, none⟩ = some (.int .i64 b') ∧ w.cell? ⟨g, 0 + 5, none⟩ = some (.int .i64 c')) : LedIs M w (.slice (some ⟨g, 0, none⟩) 2 cap) [⟨a, ⟨b, c⟩⟩, ⟨a', ⟨b', c'⟩⟩] :=
  .inr ⟨g, cap, rfl, by simp, h, hg, fun i hi => by
    have : i = 0 ∨ i = 1 := by simp at hi; omega
    rcases this with rfl | rfl
    · exact y
    · exact z⟩
set_option maxRecDepth 100000 in
set_option maxHeartbeats 4000000 in
theorem run_any (hY : Y.Ok R) (hR : R.Ok) (hB : BringOk R Y br m) (hbr : Brings R br) (h : Rd R Y X ch w S) (hS : S.Ok R) (hm : offs R S < m) (hk : k < R.n) (h0 : R.op k ≠ 0) :
    Calls Sq.prog 72 #[.pointer (some ⟨Y.r, 0, none⟩), .int .i64 0, .int .i64 k] w (RunPost R Y X ch S w (runM R br S k)) := by
  suffices ∀ P : Ending → World → Prop, Hid (∀ e w', RunPost R Y X ch S w (runM R br S k) e w' → P e w') → Calls Sq.prog 72 #[.pointer (some ⟨Y.r, 0, none⟩), .int .i64 0, .int .i64 k] w P from this _ (hide fun _ _ h => h)
  intro P HP
  have HR := hide (And.intro hR (And.intro hB (And.intro hbr (And.intro hS hm))))
  have hAm : ¬ Y.mut w.heap.size := fun hm => by have := h.mut_lt hk _ hm; omega
  have r1 := h.hold hk (.cells #[.bool false, .int .i64 0, .int .i64 0, .slice none 0 0] 67)
  have RL := hide (rd_left hY r1)
  have HY := hide hY
  have HA := hide hAm
  have H1 := hide h
  clear hY hR hB hbr h hS hm hAm r1
  generalize hl : wrap64 (S.left + -1) = l at RL
  have HL := hide hl
  clear hl
  go_enter Sq.func72, Sq.ntmps72
  go_wp2_with fail
  refine RL.out.mono ?_
  rintro e w2 ⟨rfl, r2, k2⟩
  have hA : w2.heap[w.heap.size]? = some (.cells #[.bool false, .int .i64 0, .int .i64 0, .slice none 0 0] 67) := (k2.block _ (by simp) HA.out).trans (heap_alloc_new w _)
  obtain ⟨⟨a0, a1, a2, a3⟩, f0, f1, f2, f3⟩ := own4 hA
  replace r2 := hide r2
  replace k2 := hide k2
  by_cases hneg : l < 0
  · have hW := set4 hA (.bool false) (.int .i64 0) (.int .i64 14) (.slice none 0 0)
    have HW := hide hW
    clear hA hW RL
    go_wp2_with fail
    refine bodyPost_ret (res67 rfl rfl HW.out) rfl (HP.out _ _ ?_)
    have e : runM R br S k = (⟨false, ⟨0, 14⟩, []⟩, { S with left := l }) := by
      unfold runM
      rw [HL.out, if_pos hneg]
    rw [e]
    have kx : Keep (fun b => X b ∨ b = w.heap.size) w2 ((((w2.setCell ⟨w.heap.size, 0, none⟩ (.bool false)).setCell ⟨w.heap.size, 1, none⟩ (.int .i64 0)).setCell ⟨w.heap.size, 2, none⟩ (.int .i64 14)).setCell ⟨w.heap.size, 3, none⟩ (.slice none 0 0)) :=
      ((((Keep.refl _ _).set ⟨w.heap.size, 0, none⟩ (.inr rfl) _).set ⟨w.heap.size, 1, none⟩ (.inr rfl) _).set ⟨w.heap.size, 2, none⟩ (.inr rfl) _).set ⟨w.heap.size, 3, none⟩ (.inr rfl) _
    have km := ((((((Keep.refl _ w).alloc _).trans k2.out).setNew ⟨w.heap.size, 0, none⟩ (Nat.le_refl _) (.bool false)).setNew ⟨w.heap.size, 1, none⟩ (Nat.le_refl _) (.int .i64 0)).setNew ⟨w.heap.size, 2, none⟩ (Nat.le_refl _) (.int .i64 14)).setNew ⟨w.heap.size, 3, none⟩ (Nat.le_refl _) (.slice none 0 0)
    exact ⟨.slice none 0 0, rfl, .inl ⟨rfl, none, 0, rfl⟩, ch, fun _ _ => rfl, (r2.out.keepX kx).fewer fun _ => .inl, km⟩
  · have hneg0 : ¬ l < 0 := hneg
    replace hneg0 := hide hneg0
    have hc2 := r2.out.r.cell (i := 2) (by decide)
    simp only [QY.rv] at hc2
    have RR := hide (rd_ran HY.out r2.out hk)
    replace hA := hide hA
    clear RL f0 f1 f2 f3 a0 a1 a2 a3
    go_wp2_with fail
    refine RR.out.mono ?_
    rintro e w3 ⟨rfl, r3, k3⟩
    have r4 := r3.hold hk (.cells #[.bool true, .int .i64 0, .int .i64 0, .slice none 0 0] 67)
    have hMm : ¬ Y.mut w3.heap.size := fun hm => by have := r3.mut_lt hk _ hm; omega
    have hc0 := r3.r.cell (i := 0) (by decide)
    have hrl : Y.r < w3.heap.size := World.block_lt_of_cell? w3 _ hc0
    simp only [QY.rv] at hc0
    obtain ⟨ka, hka⟩ : ∃ a : Nat, R.a k = a := ⟨_, (Int.toNat_of_nonneg (HR.out.1.a k hk h0).1).symm⟩
    have N1 := next_first (r4.cells k hk) h0
    rw [hka] at N1
    replace N1 := hide N1
    have B1 := HR.out.2.1 _ _ _ _ ka r4 ⟨HR.out.2.2.2.1.input, HR.out.2.2.2.1.led⟩ (by show offs R S < m; exact HR.out.2.2.2.2) (by have := (HR.out.1.a k hk h0).2; omega)
    replace B1 := hide B1
    have HM := hide hMm
    replace r3 := hide r3
    replace k3 := hide k3
    replace r4 := hide r4
    have HK := hide hka
    clear hka hMm RR hc2
    go_wp2_with fail
    refine N1.out.mono ?_
    rintro e w4 ⟨rfl, hw4⟩
    rw [← hw4] at N1 B1 r4
    have hM4 : w4.heap[w3.heap.size]? = some (.cells #[.bool true, .int .i64 0, .int .i64 0, .slice none 0 0] 67) := by rw [hw4]; exact heap_alloc_new w3 _
    have hA4 : w4.heap[w.heap.size]? = some (.cells #[.bool false, .int .i64 0, .int .i64 0, .slice none 0 0] 67) := by
      have hlt := (Array.getElem?_eq_some_iff.1 hA.out).1
      have h3 := (k3.out.block _ hlt HA.out).trans hA.out
      rw [hw4, blk_alloc_lt _ _ _ (Array.getElem?_eq_some_iff.1 h3).1]
      exact h3
    have hs4 : w4.heap.size = w3.heap.size + 1 := by rw [hw4]; simp
    replace hA4 := hide hA4
    replace hw4 := hide hw4
    clear N1
    replace hM4 := hide hM4
    replace hs4 := hide hs4
    go_wp2_with fail
    refine wp_loop_rounds 3 ?_
    rw [rounds_succ]
    go_wp2_with fail
    refine B1.out.mono ?_
    rintro e w5 ⟨rfl, hb5⟩
    obtain ⟨q1, hq1⟩ : ∃ q, br { S with left := l, rn := upf S.rn k (wrap64 (S.rn k + 1)) } ka = q := ⟨_, rfl⟩
    have hb5 : Brought R Y (fun b => (X b ∨ b = w.heap.size) ∨ b = w3.heap.size) ch { S with left := l, rn := upf S.rn k (wrap64 (S.rn k + 1)) } w4 w5 q1.2 := hq1 ▸ hb5
    have hv : (br { S with left := l, rn := upf S.rn k (wrap64 (S.rn k + 1)) } ka).1.v = q1.1.v := by rw [hq1]
    obtain ⟨⟨n1, e1⟩, S5⟩ := q1
    rw [hv]
    simp only [QO.v]
    replace hq1 := hide hq1
    have hM5 : w5.heap[w3.heap.size]? = some (.cells #[.bool true, .int .i64 0, .int .i64 0, .slice none 0 0] 67) := by
      obtain ⟨_, _, _, k5⟩ := hb5
      exact (k5.block _ (by rw [hs4.out]; omega) HM.out).trans hM4.out
    have hA5 : w5.heap[w.heap.size]? = some (.cells #[.bool false, .int .i64 0, .int .i64 0, .slice none 0 0] 67) := by
      obtain ⟨_, _, _, k5⟩ := hb5
      exact (k5.block _ (Array.getElem?_eq_some_iff.1 hA4.out).1 HA.out).trans hA4.out
    have hs5 : w4.heap.size ≤ w5.heap.size := by
      obtain ⟨_, _, _, k5⟩ := hb5
      exact k5.size
    replace hb5 := hide hb5
    clear hv B1
    obtain ⟨⟨q0, q1, q2, q3⟩, p0, p1, p2, p3⟩ := own4 hM5
    have hMl : w3.heap.size < w5.heap.size := by have := hs4.out; omega
    have hAl : w.heap.size < w3.heap.size := by
      have hlt := (Array.getElem?_eq_some_iff.1 hA.out).1
      have := k3.out.size
      omega
    have hAM : w.heap.size ≠ w3.heap.size := by omega
    have hMA : w3.heap.size ≠ w.heap.size := by omega
    have hML : w3.heap.size ≠ w5.heap.size := by omega
    have hLM : w5.heap.size ≠ w3.heap.size := by omega
    have hAL : w.heap.size ≠ w5.heap.size := by omega
    have hLA : w5.heap.size ≠ w.heap.size := by omega
    replace hM5 := hide hM5
    replace hA5 := hide hA5
    replace hs5 := hide hs5
    obtain ⟨i0, hi0, hiz⟩ := Option.map_eq_some_iff.1 (show (Sq.prog.info? 147).map (fun i => (i.zero, i.size, i.bytes)) = some (some (.agg #[.int .i64 0, .int .i64 0, .int .i64 0]), 3, 24) by kernel_rfl)
    simp only [Prod.mk.injEq] at hiz
    obtain ⟨hz0, hz1, hz2⟩ := hiz
    have u65 := (sq_under 65).trans Try.underlying65
    have hX : Hid (∀ g, w5.heap.size ≤ g → ¬ Y.out (fun b => (X b ∨ b = w.heap.size) ∨ b = w3.heap.size) g) := hide fun g hg ho => by
      have h2 := hs4.out
      have h3 := hs5.out
      rcases ho with ho | (ho | rfl) | rfl
      · have := r3.out.mut_lt hk _ ho; omega
      · have := (H1.out.priv _ ho).1; omega
      · omega
      · omega
    have k14 : Hid (Keep Y.mut w w4) := hide ((((Keep.refl _ w).alloc _).trans k2.out).trans (hw4.out ▸ k3.out.alloc _))
    by_cases he1 : e1 = 0
    · subst he1
      go_wp2_with (at_builtin; go_loud (refine wpList_append_own _ rfl _ _ 65 rfl (w5.heap.size + 2) 147 i0 _ 3 24 u65 hi0 hz0 hz1 hz2 rfl (by decide) (.slice none 0 0) 0 [] rfl (World.ownsRow_nil _ _ _ _) ⟨w5.heap.size + 1, 0, none⟩ 1 1 [.int .i64 ka, .int .i64 n1, .int .i64 0] rfl rfl (World.news_of_block (cs := #[.int .i64 ka, .int .i64 n1, .int .i64 0]) (t := 147) (fr := (0, 0)) (by have := heap_alloc_new (w5.alloc (.cells #[.int .i64 ka, .int .i64 n1, .int .i64 0] 147)) (.cells #[.int .i64 ka, .int .i64 n1, .int .i64 0] 147); simpa using this)) (by simp [Value.oneCell']) (by unfold maxLen; omega) (by omega) (by simp) ?_; intro v6 w6 hown6 hgrow6 hat6; obtain ⟨g6, cap6, rfl, hg6, y0, y1, y2⟩ := app1 hown6; obtain ⟨hM6, hA6, x0, x1, x2, hs6, kG6⟩ := own6 hM5.out hA5.out (fun b hb => by simp [Value.ownBlock] at hb) hgrow6; obtain ⟨⟨m0, m1, m2, m3⟩, z0, z1, z2, z3⟩ := own4 hM6; obtain ⟨⟨a0, a1, a2, a3⟩, f0, f1, f2, f3⟩ := own4 hA6; replace hM6 := hide hM6; replace hA6 := hide hA6; replace hg6 := hide hg6; replace hs6 := hide hs6; replace kG6 := hide kG6; replace hown6 := hide hown6; clear hgrow6 hat6))
      have k67 : Keep (fun b => b = w3.heap.size) w6 (w6.setCell ⟨w3.heap.size, 3, none⟩ (.slice (some ⟨g6, 0, none⟩) 1 cap6)) := Keep.set (M := fun b => b = w3.heap.size) (Keep.refl _ _) ⟨w3.heap.size, 3, none⟩ rfl _
      have hM7 : (w6.setCell ⟨w3.heap.size, 3, none⟩ (.slice (some ⟨g6, 0, none⟩) 1 cap6)).heap[w3.heap.size]? = some (.cells #[.bool true, .int .i64 0, .int .i64 0, .slice (some ⟨g6, 0, none⟩) 1 cap6] 67) := by
        simp [World.setCell, Array.getElem?_modify, hM6.out]
      clear x0 x1 x2 a0 a1 a2 a3 f0 f1 f2 f3 m0 m1 m2 m3 z0 z1 z2 z3
      generalize hw7 : w6.setCell ⟨w3.heap.size, 3, none⟩ (.slice (some ⟨g6, 0, none⟩) 1 cap6) = w7 at k67 hM7 ⊢
      have hg6M : g6 ≠ w3.heap.size := by have := hg6.out; have := hMl; omega
      have hA7 : w7.heap[w.heap.size]? = some (.cells #[.bool false, .int .i64 0, .int .i64 0, .slice none 0 0] 67) := (k67.block _ (Array.getElem?_eq_some_iff.1 hA6.out).1 hAM).trans hA6.out
      have y0' := k67.cell hg6M y0
      have y1' := k67.cell hg6M y1
      have y2' := k67.cell hg6M y2
      have hg7 : w7.heap[g6]? = w6.heap[g6]? := k67.block _ hg6.out.2 hg6M
      obtain ⟨ch5, hch5, r5, k5⟩ := hb5.out
      have r6 := r5.holdG hk (kG6.out.wide fun b _ hb => by simp [Value.ownBlock] at hb) (g := g6) ⟨by have := hg6.out; omega, hg6.out.2⟩
      have r7 := r6.keepX (k67.wide fun b _ hb => .inl (.inr hb))
      have k17 : Keep Y.mut w w7 := Keep.after (((k14.out.trans k5).trans (kG6.out.wide fun b _ hb => by simp [Value.ownBlock] at hb))) k67 (by rintro b rfl; exact Nat.le_of_lt hAl)
      have hsz : w5.heap.size + 2 ≤ w7.heap.size := by have := hg6.out; have := hs6.out; have := k67.size; omega
      have hok5 : S5.Ok R := by
        have := HR.out.2.2.1.ok (S := { S with left := l, rn := upf S.rn k (wrap64 (S.rn k + 1)) }) ⟨HR.out.2.2.2.1.input, HR.out.2.2.2.1.led⟩ (k := ka) (by have := (HR.out.1.a k hk h0).2; have := HK.out; omega)
        rw [hq1.out] at this
        exact this
      have hhd5 : S5.hd = S.hd := by
        have := HR.out.2.2.1.hd { S with left := l, rn := upf S.rn k (wrap64 (S.rn k + 1)) } ka
        rw [hq1.out] at this
        exact this
      by_cases h5 : R.op k = 5
      · have N2 := hide (next_low (la := some ⟨g6, 0, none⟩) (cap := cap6) (r7.cells k hk) h5)
        have N3 := hide (reckon_low (cap := cap6) (h5 ▸ (r7.cells k hk).op) y1')
        have G7 := hide (And.intro r7 (And.intro k17 (And.intro y0' (And.intro y1' (And.intro y2' (And.intro hch5 (And.intro hg7 h5)))))))
        clear r7 r6 r5 k5 k17 y0 y1 y2 y0' y1' y2' hch5 k67 hg7 hok5 hhd5 h5 q0 q1 q2 q3 p0 p1 p2 p3
        obtain ⟨⟨m0, m1, m2, m3⟩, z0, z1, z2, z3⟩ := own4 hM7
        replace hM7 := hide hM7
        replace hA7 := hide hA7
        replace hw7 := hide hw7
        refine N2.out.mono ?_
        rintro e w8 ⟨⟨x, rfl⟩, rfl⟩
        go_wp2_with fail
        rw [rounds_succ]
        go_wp2_with fail
        refine N3.out.mono ?_
        rintro e w9 ⟨rfl, d, hw9⟩
        have hh : w9.heap = w8.heap := by rw [hw9]; rfl
        have k89 : Keep (fun _ => False) w8 w9 := hw9 ▸ (Keep.refl _ w8).at_ d
        clear m0 m1 m2 m3 z0 z1 z2 z3 hw9
        have hM9 := hM7.out
        have hA9 := hA7.out
        rw [← hh] at hM9 hA9
        obtain ⟨⟨m0, m1, m2, m3⟩, z0, z1, z2, z3⟩ := own4 hM9
        obtain ⟨⟨a0, a1, a2, a3⟩, f0, f1, f2, f3⟩ := own4 hA9
        replace hM9 := hide hM9
        replace hA9 := hide hA9
        replace hh := hide hh
        replace k89 := hide k89
        go_wp2_with fail
        have hAV : (w9.setCell ⟨w3.heap.size, 1, none⟩ (.int .i64 (rk 5 n1 n1))).heap[w.heap.size]? = some (.cells #[.bool false, .int .i64 0, .int .i64 0, .slice none 0 0] 67) := by
          rw [blk_setCell_other _ _ _ _ hAM]
          exact hA9.out
        refine bodyPost_ret (res67 rfl rfl (set4 hAV (.bool true) (.int .i64 (rk 5 n1 n1)) (.int .i64 0) (.slice (some ⟨g6, 0, none⟩) 1 cap6))) rfl (HP.out _ _ ?_)
        obtain ⟨r7, k17, y0', y1', y2', hch5, hg7, h5⟩ := G7.out
        have e : runM R br S k = (⟨true, ⟨rk 5 n1 n1, 0⟩, [⟨ka, ⟨n1, 0⟩⟩]⟩, S5) := by
          unfold runM
          rw [HL.out, if_neg (Int.not_lt.2 hneg0.out)]
          dsimp only
          rw [HK.out, Int.toNat_natCast, hq1.out]
          rw [if_neg (by simp), if_pos h5, h5]
        rw [e]
        refine ⟨_, rfl, run_close (ch6 := ch5) ((r7.fewer fun _ => .inl).keep k89.out) hch5 (k17.trans (k89.out.wide fun _ _ h => h.elim)) (Nat.le_refl _) (Nat.le_of_lt hAl) ?_ (led1 (hX.out g6 (by have := hg6.out; omega)) ?_ (k89.out.cell id y0') (k89.out.cell id y1') (k89.out.cell id y2'))⟩
        · exact (((((Keep.refl _ _).set ⟨w3.heap.size, 1, none⟩ (.inr rfl) _).set ⟨w.heap.size, 0, none⟩ (.inl rfl) _).set ⟨w.heap.size, 1, none⟩ (.inl rfl) _).set ⟨w.heap.size, 2, none⟩ (.inl rfl) _).set ⟨w.heap.size, 3, none⟩ (.inl rfl) _
        · rw [hh.out]
          exact World.block_lt_of_cell? _ _ y0'
      · have hsk := sec_ok HR.out.1 hk h0 h5 ⟨n1, 0⟩
        obtain ⟨kb, hkb⟩ : ∃ b : Nat, secM R k ⟨n1, 0⟩ = b := ⟨_, (Int.toNat_of_nonneg hsk.1).symm⟩
        have N2 := next_second (cap := cap6) (r7.cells k hk) h0 h5 y1' 0
        rw [hkb] at N2
        replace N2 := hide N2
        have B2 := hide (HR.out.2.1 _ S5 ch5 w7 kb r7 hok5 (by rw [offs_hd hhd5]; exact HR.out.2.2.2.2) (by omega))
        have hO7 : w7.ownsRow (w5.heap.size + 2) 147 3 (.slice (some ⟨g6, 0, none⟩) 1 cap6) 1 [.int .i64 ka, .int .i64 n1, .int .i64 0] := ownsRow_blk hown6.out fun g hg => by
          obtain rfl : g6 = g := by simpa [Value.ownBlock] using hg
          exact hg7
        have hgm : ¬ Y.mut g6 := fun hm => hX.out g6 (by have := hg6.out; omega) (.inl hm)
        have hg7s : g6 < w7.heap.size := by have := hg6.out; have := k67.size; omega
        have hgA : g6 ≠ w.heap.size := by have := hg6.out; omega
        have G7 := hide (And.intro r7 (And.intro k17 (And.intro hch5 (And.intro hhd5 (And.intro h5 (And.intro hkb (And.intro hgm (And.intro hg7s (And.intro hg6M hgA)))))))))
        clear r7 r6 r5 k5 k17 y0 y1 y2 y0' y1' y2' hch5 k67 hg7 hok5 hhd5 h5 q0 q1 q2 q3 p0 p1 p2 p3 hsk hkb hgm hg7s hg6M hgA
        obtain ⟨⟨m0, m1, m2, m3⟩, z0, z1, z2, z3⟩ := own4 hM7
        replace hO7 := hide hO7
        replace hM7 := hide hM7
        replace hA7 := hide hA7
        replace hw7 := hide hw7
        refine N2.out.mono ?_
        rintro e w8 ⟨rfl, rfl⟩
        go_wp2_with fail
        rw [rounds_succ]
        go_wp2_with fail
        refine B2.out.mono ?_
        rintro e w9 ⟨rfl, hb9⟩
        obtain ⟨p2, hp2⟩ : ∃ q, br S5 kb = q := ⟨_, rfl⟩
        have hb9 : Brought R Y (fun b => ((X b ∨ b = w.heap.size) ∨ b = w3.heap.size) ∨ b = g6) ch5 S5 w8 w9 p2.2 := hp2 ▸ hb9
        have hv : (br S5 kb).1.v = p2.1.v := by rw [hp2]
        obtain ⟨⟨n2, e2⟩, S9⟩ := p2
        rw [hv]
        simp only [QO.v]
        replace hp2 := hide hp2
        obtain ⟨r7, k17, hch5, hhd5, h5, hkb, hgm, hg7s, hg6M, hgA⟩ := G7.out
        obtain ⟨ch9, hch9, r9, k9⟩ := hb9
        have hM9 := (k9.block _ (Array.getElem?_eq_some_iff.1 hM7.out).1 HM.out).trans hM7.out
        have hA9 := (k9.block _ (Array.getElem?_eq_some_iff.1 hA7.out).1 HA.out).trans hA7.out
        have hO9 : w9.ownsRow (w5.heap.size + 2) 147 3 (.slice (some ⟨g6, 0, none⟩) 1 cap6) 1 [.int .i64 ka, .int .i64 n1, .int .i64 0] := ownsRow_blk hO7.out fun g hg => by
          obtain rfl : g6 = g := by simpa [Value.ownBlock] using hg
          exact k9.block _ hg7s hgm
        have hr9 : ∀ b, Value.ownBlock (.slice (some ⟨g6, 0, none⟩) 1 cap6) = some b → b ≠ w3.heap.size ∧ b ≠ w.heap.size ∧ b < w9.heap.size := fun b hb => by
          obtain rfl : g6 = b := by simpa [Value.ownBlock] using hb
          exact ⟨hg6M, hgA, Nat.lt_of_lt_of_le hg7s k9.size⟩
        have h59 : w5.heap.size + 2 ≤ w9.heap.size := Nat.le_trans hsz k9.size
        have hMl9 : w3.heap.size < w9.heap.size := by omega
        have hML9 : w3.heap.size ≠ w9.heap.size := by omega
        have hLM9 : w9.heap.size ≠ w3.heap.size := by omega
        have hAL9 : w.heap.size ≠ w9.heap.size := by omega
        have hLA9 : w9.heap.size ≠ w.heap.size := by omega
        have G9 := hide (And.intro r9 (And.intro k9 hch9))
        have HM5 := hide hMl
        clear r7 k17 hch5 hhd5 h5 hkb hgm hg7s hg6M hgA r9 k9 hch9 hv B2 N2 m0 m1 m2 m3 z0 z1 z2 z3 hMl hML hLM hAL hLA
        obtain ⟨⟨q0, q1, q2, q3⟩, p0, p1, p2, p3⟩ := own4 hM9
        replace hO9 := hide hO9
        replace hM9 := hide hM9
        replace hA9 := hide hA9
        replace hr9 := hide hr9
        by_cases he2 : e2 = 0
        · subst he2
          go_wp2_with (at_builtin; go_loud (refine wpList_append_own _ rfl _ _ 65 rfl (w5.heap.size + 2) 147 i0 _ 3 24 u65 hi0 hz0 hz1 hz2 rfl (by decide) (.slice (some ⟨g6, 0, none⟩) 1 cap6) 1 [.int .i64 ka, .int .i64 n1, .int .i64 0] rfl ((hO9.out.alloc _).alloc _) ⟨w9.heap.size + 1, 0, none⟩ 1 1 [.int .i64 kb, .int .i64 n2, .int .i64 0] rfl rfl (World.news_of_block (cs := #[.int .i64 kb, .int .i64 n2, .int .i64 0]) (t := 147) (fr := (0, 0)) (by have := heap_alloc_new (w9.alloc (.cells #[.int .i64 kb, .int .i64 n2, .int .i64 0] 147)) (.cells #[.int .i64 kb, .int .i64 n2, .int .i64 0] 147); simpa using this)) (by simp [Value.oneCell']) (by unfold maxLen; omega) (by omega) (by simp; omega) ?_; intro v10 w10 hown10 hgrow10 hat10; obtain ⟨g10, cap10, rfl, hg10, yy, zz⟩ := app2 hown10; obtain ⟨hM10, hA10, x0, x1, x2, hs10, kG10⟩ := own6 hM9.out hA9.out hr9.out hgrow10; obtain ⟨⟨m0, m1, m2, m3⟩, z0, z1, z2, z3⟩ := own4 hM10; obtain ⟨⟨a0, a1, a2, a3⟩, f0, f1, f2, f3⟩ := own4 hA10; replace hM10 := hide hM10; replace hA10 := hide hA10; replace hg10 := hide hg10; replace hs10 := hide hs10; replace kG10 := hide kG10; replace yy := hide yy; replace zz := hide zz; clear hgrow10 hat10 hown10))
          have k1011 : Keep (fun b => b = w3.heap.size) w10 (w10.setCell ⟨w3.heap.size, 3, none⟩ (.slice (some ⟨g10, 0, none⟩) 2 cap10)) := Keep.set (M := fun b => b = w3.heap.size) (Keep.refl _ _) ⟨w3.heap.size, 3, none⟩ rfl _
          have hM11 : (w10.setCell ⟨w3.heap.size, 3, none⟩ (.slice (some ⟨g10, 0, none⟩) 2 cap10)).heap[w3.heap.size]? = some (.cells #[.bool true, .int .i64 0, .int .i64 0, .slice (some ⟨g10, 0, none⟩) 2 cap10] 67) := by
            simp [World.setCell, Array.getElem?_modify, hM10.out]
          clear x0 x1 x2 a0 a1 a2 a3 f0 f1 f2 f3 m0 m1 m2 m3 z0 z1 z2 z3
          generalize hw11 : w10.setCell ⟨w3.heap.size, 3, none⟩ (.slice (some ⟨g10, 0, none⟩) 2 cap10) = w11 at k1011 hM11 ⊢
          have hg10M : g10 ≠ w3.heap.size := by have := hg10.out; have := HM5.out; omega
          have hA11 : w11.heap[w.heap.size]? = some (.cells #[.bool false, .int .i64 0, .int .i64 0, .slice none 0 0] 67) := (k1011.block _ (Array.getElem?_eq_some_iff.1 hA10.out).1 hAM).trans hA10.out
          obtain ⟨r7, k17, hch5, hhd5, h5, hkb, hgm, hg7s, hg6M, hgA⟩ := G7.out
          obtain ⟨r9, k9, hch9⟩ := G9.out
          have r10 := r9.keepX (kG10.out.wide fun b _ hb => by
            obtain rfl : g6 = b := by simpa [Value.ownBlock] using hb
            exact .inr rfl)
          have r11 := (r10.fewer (X' := fun b => (X b ∨ b = w.heap.size) ∨ b = w3.heap.size) fun _ => .inl).keepX (k1011.wide fun b _ hb => .inr hb)
          have k111 : Keep Y.mut w w11 := ((k17.trans k9).after kG10.out (by
            intro b hb
            obtain rfl : g6 = b := by simpa [Value.ownBlock] using hb
            have := hg6.out
            have := HM5.out
            omega)).after k1011 (by rintro b rfl; exact Nat.le_of_lt hAl)
          obtain ⟨yy0, yy1, yy2⟩ := yy.out
          obtain ⟨zz0, zz1, zz2⟩ := zz.out
          have YY := And.intro (k1011.cell hg10M yy0) (And.intro (k1011.cell hg10M yy1) (k1011.cell hg10M yy2))
          have ZZ := And.intro (k1011.cell hg10M zz0) (And.intro (k1011.cell hg10M zz1) (k1011.cell hg10M zz2))
          have N3 := hide (next_third (cap := cap10) (r11.cells k hk) h0 h5 YY.2.1)
          have N4 := hide (reckon_any (cap := cap10) (r11.cells k hk) h0 h5 (HR.out.1.op k hk) YY.2.1 ZZ.2.1)
          have G11 := hide (And.intro r11 (And.intro k111 (And.intro YY ZZ)))
          clear r7 k17 hch5 hhd5 h5 hkb hgm hg7s hg6M hgA r9 k9 hch9 r10 r11 k111 yy0 yy1 yy2 zz0 zz1 zz2 YY ZZ k1011 q0 q1 q2 q3 p0 p1 p2 p3
          obtain ⟨⟨m0, m1, m2, m3⟩, z0, z1, z2, z3⟩ := own4 hM11
          replace hM11 := hide hM11
          replace hA11 := hide hA11
          replace hw11 := hide hw11
          refine N3.out.mono ?_
          rintro e w12 ⟨⟨x, rfl⟩, rfl⟩
          go_wp2_with fail
          rw [rounds_succ]
          go_wp2_with fail
          refine N4.out.mono ?_
          rintro e w13 ⟨rfl, d, hw13⟩
          have hh : w13.heap = w12.heap := by rw [hw13]; rfl
          have k13 : Keep (fun _ => False) w12 w13 := hw13 ▸ (Keep.refl _ w12).at_ d
          clear m0 m1 m2 m3 z0 z1 z2 z3 hw13
          have hM13 := hM11.out
          have hA13 := hA11.out
          rw [← hh] at hM13 hA13
          obtain ⟨⟨m0, m1, m2, m3⟩, z0, z1, z2, z3⟩ := own4 hM13
          obtain ⟨⟨a0, a1, a2, a3⟩, f0, f1, f2, f3⟩ := own4 hA13
          replace hM13 := hide hM13
          replace hA13 := hide hA13
          replace hh := hide hh
          replace k13 := hide k13
          go_wp2_with fail
          have hAV : (w13.setCell ⟨w3.heap.size, 1, none⟩ (.int .i64 (rk (R.op k) n1 n2))).heap[w.heap.size]? = some (.cells #[.bool false, .int .i64 0, .int .i64 0, .slice none 0 0] 67) := by
            rw [blk_setCell_other _ _ _ _ hAM]
            exact hA13.out
          refine bodyPost_ret (res67 rfl rfl (set4 hAV (.bool true) (.int .i64 (rk (R.op k) n1 n2)) (.int .i64 0) (.slice (some ⟨g10, 0, none⟩) 2 cap10))) rfl (HP.out _ _ ?_)
          obtain ⟨r7, k17, hch5, hhd5, h5, hkb, hgm, hg7s, hg6M, hgA⟩ := G7.out
          obtain ⟨r9, k9, hch9⟩ := G9.out
          obtain ⟨r11, k111, YY, ZZ⟩ := G11.out
          have e : runM R br S k = (⟨true, ⟨rk (R.op k) n1 n2, 0⟩, [⟨ka, ⟨n1, 0⟩⟩, ⟨kb, ⟨n2, 0⟩⟩]⟩, S9) := by
            unfold runM
            rw [HL.out, if_neg (Int.not_lt.2 hneg0.out)]
            dsimp only
            rw [HK.out, Int.toNat_natCast, hq1.out]
            dsimp only
            rw [if_neg (by simp), if_neg h5, hkb, Int.toNat_natCast, hp2.out]
            dsimp only
            rw [if_neg (by simp)]
          rw [e]
          refine ⟨_, rfl, run_close (ch6 := ch9) (r11.keep k13.out) (fun j hj => (hch9 j (by rw [hhd5]; exact hj)).trans (hch5 j hj)) (k111.trans (k13.out.wide fun _ _ h => h.elim)) (Nat.le_refl _) (Nat.le_of_lt hAl) ?_ (led2 (hX.out g10 (by have := hg10.out; omega)) ?_ ⟨k13.out.cell id YY.1, k13.out.cell id YY.2.1, k13.out.cell id YY.2.2⟩ ⟨k13.out.cell id ZZ.1, k13.out.cell id ZZ.2.1, k13.out.cell id ZZ.2.2⟩)⟩
          · exact (((((Keep.refl _ _).set ⟨w3.heap.size, 1, none⟩ (.inr rfl) _).set ⟨w.heap.size, 0, none⟩ (.inl rfl) _).set ⟨w.heap.size, 1, none⟩ (.inl rfl) _).set ⟨w.heap.size, 2, none⟩ (.inl rfl) _).set ⟨w.heap.size, 3, none⟩ (.inl rfl) _
          · rw [hh.out]
            exact World.block_lt_of_cell? _ _ YY.1
        · have he2b : (e2 != 0) = true := by simpa using he2
          go_wp2_with (at_builtin; go_loud (refine wpList_append_own _ rfl _ _ 65 rfl (w5.heap.size + 2) 147 i0 _ 3 24 u65 hi0 hz0 hz1 hz2 rfl (by decide) (.slice (some ⟨g6, 0, none⟩) 1 cap6) 1 [.int .i64 ka, .int .i64 n1, .int .i64 0] rfl ((hO9.out.alloc _).alloc _) ⟨w9.heap.size + 1, 0, none⟩ 1 1 [.int .i64 kb, .int .i64 n2, .int .i64 e2] rfl rfl (World.news_of_block (cs := #[.int .i64 kb, .int .i64 n2, .int .i64 e2]) (t := 147) (fr := (0, 0)) (by have := heap_alloc_new (w9.alloc (.cells #[.int .i64 kb, .int .i64 n2, .int .i64 e2] 147)) (.cells #[.int .i64 kb, .int .i64 n2, .int .i64 e2] 147); simpa using this)) (by simp [Value.oneCell']) (by unfold maxLen; omega) (by omega) (by simp; omega) ?_; intro v10 w10 hown10 hgrow10 hat10; obtain ⟨g10, cap10, rfl, hg10, yy, zz⟩ := app2 hown10; obtain ⟨hM10, hA10, x0, x1, x2, hs10, kG10⟩ := own6 hM9.out hA9.out hr9.out hgrow10; obtain ⟨⟨m0, m1, m2, m3⟩, z0, z1, z2, z3⟩ := own4 hM10; obtain ⟨⟨a0, a1, a2, a3⟩, f0, f1, f2, f3⟩ := own4 hA10; replace hM10 := hide hM10; replace hA10 := hide hA10; replace hg10 := hide hg10; replace hs10 := hide hs10; replace kG10 := hide kG10; replace yy := hide yy; replace zz := hide zz; clear hgrow10 hat10 hown10))
          have hAV : (((w10.setCell ⟨w3.heap.size, 3, none⟩ (.slice (some ⟨g10, 0, none⟩) 2 cap10)).setCell ⟨w3.heap.size, 1, none⟩ (.int .i64 n2)).setCell ⟨w3.heap.size, 2, none⟩ (.int .i64 e2)).heap[w.heap.size]? = some (.cells #[.bool false, .int .i64 0, .int .i64 0, .slice none 0 0] 67) := by
            rw [blk_setCell_other _ _ _ _ hAM, blk_setCell_other _ _ _ _ hAM, blk_setCell_other _ _ _ _ hAM]
            exact hA10.out
          refine bodyPost_ret (res67 rfl rfl (set4 hAV (.bool true) (.int .i64 n2) (.int .i64 e2) (.slice (some ⟨g10, 0, none⟩) 2 cap10))) rfl (HP.out _ _ ?_)
          obtain ⟨r7, k17, hch5, hhd5, h5, hkb, hgm, hg7s, hg6M, hgA⟩ := G7.out
          obtain ⟨r9, k9, hch9⟩ := G9.out
          have e : runM R br S k = (⟨true, ⟨n2, e2⟩, [⟨ka, ⟨n1, 0⟩⟩, ⟨kb, ⟨n2, e2⟩⟩]⟩, S9) := by
            unfold runM
            rw [HL.out, if_neg (Int.not_lt.2 hneg0.out)]
            dsimp only
            rw [HK.out, Int.toNat_natCast, hq1.out]
            dsimp only
            rw [if_neg (by simp), if_neg h5, hkb, Int.toNat_natCast, hp2.out]
            dsimp only
            rw [if_pos he2]
          rw [e]
          have r10 := (r9.keepX (kG10.out.wide fun b _ hb => by
            obtain rfl : g6 = b := by simpa [Value.ownBlock] using hb
            exact .inr rfl)).fewer (X' := fun b => (X b ∨ b = w.heap.size) ∨ b = w3.heap.size) fun _ => .inl
          have k110 : Keep Y.mut w w10 := (k17.trans k9).after kG10.out (by
            intro b hb
            obtain rfl : g6 = b := by simpa [Value.ownBlock] using hb
            have := hg6.out
            have := HM5.out
            omega)
          refine ⟨_, rfl, run_close (ch6 := ch9) r10 (fun j hj => (hch9 j (by rw [hhd5]; exact hj)).trans (hch5 j hj)) k110 (Nat.le_refl _) (Nat.le_of_lt hAl) ?_ (led2 (hX.out g10 (by have := hg10.out; omega)) hg10.out.2 yy.out zz.out)⟩
          exact (((((((Keep.refl _ _).set ⟨w3.heap.size, 3, none⟩ (.inr rfl) _).set ⟨w3.heap.size, 1, none⟩ (.inr rfl) _).set ⟨w3.heap.size, 2, none⟩ (.inr rfl) _).set ⟨w.heap.size, 0, none⟩ (.inl rfl) _).set ⟨w.heap.size, 1, none⟩ (.inl rfl) _).set ⟨w.heap.size, 2, none⟩ (.inl rfl) _).set ⟨w.heap.size, 3, none⟩ (.inl rfl) _
    · have he1b : (e1 != 0) = true := by simpa using he1
      go_wp2_with (at_builtin; go_loud (refine wpList_append_own _ rfl _ _ 65 rfl (w5.heap.size + 2) 147 i0 _ 3 24 u65 hi0 hz0 hz1 hz2 rfl (by decide) (.slice none 0 0) 0 [] rfl (World.ownsRow_nil _ _ _ _) ⟨w5.heap.size + 1, 0, none⟩ 1 1 [.int .i64 ka, .int .i64 n1, .int .i64 e1] rfl rfl (World.news_of_block (cs := #[.int .i64 ka, .int .i64 n1, .int .i64 e1]) (t := 147) (fr := (0, 0)) (by have := heap_alloc_new (w5.alloc (.cells #[.int .i64 ka, .int .i64 n1, .int .i64 e1] 147)) (.cells #[.int .i64 ka, .int .i64 n1, .int .i64 e1] 147); simpa using this)) (by simp [Value.oneCell']) (by unfold maxLen; omega) (by omega) (by simp) ?_; intro v6 w6 hown6 hgrow6 hat6; obtain ⟨g6, cap6, rfl, hg6, y0, y1, y2⟩ := app1 hown6; obtain ⟨hM6, hA6, x0, x1, x2, hs6, kG6⟩ := own6 hM5.out hA5.out (fun b hb => by simp [Value.ownBlock] at hb) hgrow6; obtain ⟨⟨m0, m1, m2, m3⟩, z0, z1, z2, z3⟩ := own4 hM6; obtain ⟨⟨a0, a1, a2, a3⟩, f0, f1, f2, f3⟩ := own4 hA6; replace hM6 := hide hM6; replace hA6 := hide hA6; replace hg6 := hide hg6; replace hs6 := hide hs6; replace kG6 := hide kG6; replace hown6 := hide hown6; clear hgrow6 hat6))
      have hAV : (((w6.setCell ⟨w3.heap.size, 3, none⟩ (.slice (some ⟨g6, 0, none⟩) 1 cap6)).setCell ⟨w3.heap.size, 1, none⟩ (.int .i64 n1)).setCell ⟨w3.heap.size, 2, none⟩ (.int .i64 e1)).heap[w.heap.size]? = some (.cells #[.bool false, .int .i64 0, .int .i64 0, .slice none 0 0] 67) := by
        rw [blk_setCell_other _ _ _ _ hAM, blk_setCell_other _ _ _ _ hAM, blk_setCell_other _ _ _ _ hAM]
        exact hA6.out
      refine bodyPost_ret (res67 rfl rfl (set4 hAV (.bool true) (.int .i64 n1) (.int .i64 e1) (.slice (some ⟨g6, 0, none⟩) 1 cap6))) rfl (HP.out _ _ ?_)
      have e : runM R br S k = (⟨true, ⟨n1, e1⟩, [⟨ka, ⟨n1, e1⟩⟩]⟩, S5) := by
        unfold runM
        rw [HL.out, if_neg (Int.not_lt.2 hneg0.out)]
        dsimp only
        rw [HK.out, Int.toNat_natCast, hq1.out]
        rw [if_pos he1]
      rw [e]
      obtain ⟨ch5, hch5, r5, k5⟩ := hb5.out
      have kF : Keep (fun _ => False) w5 w6 := kG6.out.wide fun b _ hb => by simp [Value.ownBlock] at hb
      refine ⟨_, rfl, run_close (ch6 := ch5) (r5.keep kF) hch5 ((k14.out.trans k5).trans (kF.wide fun _ _ h => h.elim)) (Nat.le_refl _) (Nat.le_of_lt hAl) ?_ (led1 (hX.out g6 (by have := hg6.out; omega)) hg6.out.2 y0 y1 y2)⟩
      exact (((((((Keep.refl _ _).set ⟨w3.heap.size, 3, none⟩ (.inr rfl) _).set ⟨w3.heap.size, 1, none⟩ (.inr rfl) _).set ⟨w3.heap.size, 2, none⟩ (.inr rfl) _).set ⟨w.heap.size, 0, none⟩ (.inl rfl) _).set ⟨w.heap.size, 1, none⟩ (.inl rfl) _).set ⟨w.heap.size, 2, none⟩ (.inl rfl) _).set ⟨w.heap.size, 3, none⟩ (.inl rfl) _
end
end Go.Proofs.Ytdlnlcjmjgbikaa
