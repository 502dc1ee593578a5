/- The writer of plain spans does a step. -/
import Derived.Test.YtobdfddpiobhhaaWb
import Derived.Test.YtobdfddpiobhhaaNb
namespace Go.Proofs.Ytobdfddpiobhhaa
open Go.RowKit
open EM
theorem IsW.go {F : Nat → Prop} {B : Nat} {w : World} {b : Nat} {W : Wr} (h : IsW B w b W F) (n : Nat) : IsW B (w.setCell ⟨b, 1, none⟩ (.int .i64 ((W.a + n : Nat) : Int))) b (W.go n) F := by
  obtain ⟨⟨sv, p, bv, fr, h1, h2, h3, h4, h5, h6, h7⟩, f, lt⟩ := h
  have K := Kp.one w b 1 (.int .i64 ((W.a + n : Nat) : Int))
  refine ⟨⟨sv, p, bv, fr, h1.set1 _, K.owns h2 (fun k hk => (h6 k hk).2.1), ?_, h4, h5, h6, h7⟩, f, fun k hk => by rw [set_size]; exact lt k hk⟩
  rcases h3 with h3 | ⟨e1, e2, e3, e4⟩
  · exact .inl h3
  · exact .inr ⟨e1, e2, K.owns e3 (fun k hk => (h7 k hk).2), e4⟩
theorem IsW.facts {F : Nat → Prop} {B : Nat} {w : World} {b : Nat} {W : Wr} (h : IsW B w b W F) : w.cell? ⟨b, 1, none⟩ = some (.int .i64 W.a) ∧ (∃ fr : Nat, w.cell? ⟨b, 3, none⟩ = some (.int .i64 fr) ∧ (∀ f s, W.o = some (f, s) → fr = f) ∧ fr ≤ 1099511627776) ∧ w.frozen? ⟨b, 1, none⟩ = false ∧ b < w.heap.size := by
  obtain ⟨⟨sv, p, bv, fr, h1, h2, h3, h4, h5, h6, h7⟩, f, lt⟩ := h
  obtain ⟨c0, c1, c2, c3, c4, c5⟩ := h1.cells
  exact ⟨c1, ⟨fr, c3, h4, h5⟩, h1.frozen 1, h1.lt⟩
/-- The step's own variable. -/
def SB (w : World) (k : Nat) (s : St) : Prop := w.heap[k]? = some (.cells #[.int .i64 s.k, .int .i64 s.c, .string (ba s.s)] 43 (0, 0))
theorem SB.cells {w : World} {k : Nat} {s : St} (h : SB w k s) : w.cell? ⟨k, 0, none⟩ = some (.int .i64 s.k) ∧ w.cell? ⟨k, 1, none⟩ = some (.int .i64 s.c) ∧ w.cell? ⟨k, 2, none⟩ = some (.string (ba s.s)) ∧ k < w.heap.size := by
  unfold SB at h
  exact ⟨by rw [Lib.cell_of_heap h]; rfl, by rw [Lib.cell_of_heap h]; rfl, by rw [Lib.cell_of_heap h]; rfl, heap_lt h⟩
set_option maxHeartbeats 1000000 in
theorem add_zero (b : Nat) (s : St) (w : World) (h0 : s.c = 0) : Calls Try.prog 24 #[.pointer (some ⟨b, 0, none⟩), stV s] w fun e w' => e = .returned (.tuple #[]) ∧ Below w.heap.size w w' := by
  unfold stV
  have h1 : (s.c : Int) = 0 := by omega
  rw [h1]
  go_enter Try.func24, Try.ntmps24
  go_wp2_with fail
  refine bodyPost_ret (results_none rfl _ _ _) rfl ⟨rfl, (Below.refl _ _).alloc (Nat.le_refl _) _⟩
set_option maxHeartbeats 1000000 in
theorem add_stay_any (B b : Nat) (w : World) (W : Wr) (F : Nat → Prop) (n : Nat) (h : IsW B w b W F) (hB : B ≤ w.heap.size) (hn : 0 < n) (ha : W.a + n ≤ 1099511627776) (hl : W.l.length ≤ 1099511627776) :
    Calls Try.prog 24 #[.pointer (some ⟨b, 0, none⟩), stV (.stay n)] w fun e w' => e = .returned (.tuple #[]) ∧ IsW B w' b (W.add (.stay n)) (fun k => F k ∨ (w.heap.size ≤ k ∧ k < w'.heap.size)) ∧ Kp F w w' := by
  have eA : W.add (.stay n) = W.fin.go n := by unfold Wr.add; rw [if_neg (by simp only [St.c]; omega)]
  rw [eA]
  have HLT := hide h.lt
  have hbF := hide h.f
  have hbl0 := (h.lt b h.f).2
  have H0 := hide (show IsW B (w.alloc (.cells #[.int .i64 0, .int .i64 n, .string (ba [])] 43)) b W F from h.keep ((Kp.refl (fun _ => False) w).alloc _) (fun _ _ => id))
  have K0 := hide (show Kp F w (w.alloc (.cells #[.int .i64 0, .int .i64 n, .string (ba [])] 43)) from (Kp.refl _ w).alloc _)
  have hn1 : ((n : Int) == 0) = false := by simp; omega
  have hn2 : ¬ (n : Int) = 0 := by omega
  have hS0 := hide (show SB (w.alloc (.cells #[.int .i64 0, .int .i64 n, .string (ba [])] 43)) w.heap.size (.stay n) from heap_alloc_new w _)
  clear h eA
  show Calls Try.prog 24 #[.pointer (some ⟨b, 0, none⟩), .agg #[.int .i64 0, .int .i64 n, .string (ba [])]] w _
  go_enter Try.func24, Try.ntmps24
  go_wp2_with fail
  refine (end_any B b _ W F H0.out (by simp; omega) (by omega) hl).mono ?_
  rintro e w1 ⟨rfl, hW1, hK1⟩
  have hsz := hK1.size
  simp only [World.size_alloc] at hsz hW1
  have S1 : SB w1 w.heap.size (.stay n) := hK1.heap hS0.out (fun hf => by have := (HLT.out w.heap.size hf).2; omega)
  obtain ⟨s0, s1, s2, s3⟩ := S1.cells
  obtain ⟨c1, _, f1, hbl⟩ := hW1.facts
  have hbn : ¬ b = w.heap.size := by omega
  have hwa : W.fin.a = W.a := W.fin_a
  have HW1 := hide hW1
  have HK1 := hide hK1
  clear hW1 hK1
  simp only [St.k, St.c, St.s] at s0 s1 s2
  have z1 : (W.fin.a : Int) ≤ 1099511627776 := by omega
  have z2 : (n : Int) ≤ 1099511627776 := by omega
  go_wp2_with fail
  go_region
  all_goals go_wp2_with fail
  all_goals go_end0
  all_goals
    rw [show ((W.a : Int) + (n : Int)) = ((W.a + n : Nat) : Int) by omega]
    have g := (HW1.out).go n
    rw [hwa] at g
    have hsz2 := set_size w1 ⟨b, 1, none⟩ (.int .i64 ((W.a + n : Nat) : Int))
    refine ⟨rfl, (g.keep ((Kp.refl (fun _ => False) _).drew) (fun _ _ => id)).more (fun k hk => ?_) (fun k hk => ?_), ?_⟩
    · rcases hk with hk | hk
      · exact .inl hk
      · exact .inr (by show _ ∧ k < (w1.setCell ⟨b, 1, none⟩ (.int .i64 ((W.a + n : Nat) : Int))).heap.size; rw [hsz2]; omega)
    · show _ ∧ k < (w1.setCell ⟨b, 1, none⟩ (.int .i64 ((W.a + n : Nat) : Int))).heap.size
      rw [hsz2]
      rcases hk with hk | hk
      · have := HLT.out k hk; omega
      · have hk2 : k < (w1.setCell ⟨b, 1, none⟩ (.int .i64 ((W.a + n : Nat) : Int))).heap.size := hk.2
        rw [hsz2] at hk2; omega
    · exact ((((K0.out).trans HK1.out (fun _ _ h => h)).setCell (p := ⟨b, 1, none⟩) (fun _ => hbF.out) _)).drew
set_option maxHeartbeats 1000000 in
theorem add_drop_any (B b : Nat) (w : World) (W : Wr) (F : Nat → Prop) (n : Nat) (h : IsW B w b W F) (hB : B ≤ w.heap.size) (hn : 0 < n) (ha : W.a + n ≤ 1099511627776) :
    Calls Try.prog 24 #[.pointer (some ⟨b, 0, none⟩), stV (.drop n)] w fun e w' => e = .returned (.tuple #[]) ∧ IsW B w' b (W.add (.drop n)) (fun k => F k ∨ (w.heap.size ≤ k ∧ k < w'.heap.size)) ∧ Kp F w w' := by
  have eA : W.add (.drop n) = W.beg.go n := by unfold Wr.add; rw [if_neg (by simp only [St.c]; omega)]
  rw [eA]
  have HLT := hide h.lt
  have hbF := hide h.f
  have hbl0 := (h.lt b h.f).2
  have H0 := hide (show IsW B (w.alloc (.cells #[.int .i64 2, .int .i64 n, .string (ba [])] 43)) b W F from h.keep ((Kp.refl (fun _ => False) w).alloc _) (fun _ _ => id))
  have K0 := hide (show Kp F w (w.alloc (.cells #[.int .i64 2, .int .i64 n, .string (ba [])] 43)) from (Kp.refl _ w).alloc _)
  have hn1 : ((n : Int) == 0) = false := by simp; omega
  have hn2 : ¬ (n : Int) = 0 := by omega
  have hS0 := hide (show SB (w.alloc (.cells #[.int .i64 2, .int .i64 n, .string (ba [])] 43)) w.heap.size (.drop n) from heap_alloc_new w _)
  clear h eA
  show Calls Try.prog 24 #[.pointer (some ⟨b, 0, none⟩), .agg #[.int .i64 2, .int .i64 n, .string (ba [])]] w _
  go_enter Try.func24, Try.ntmps24
  go_wp2_with fail
  refine (begin_any B b _ W F H0.out (by omega)).mono ?_
  rintro e w1 ⟨rfl, hW1, hK1, hsz⟩
  simp only [World.size_alloc] at hsz
  have S1 : SB w1 w.heap.size (.drop n) := hK1.heap hS0.out (fun hf => by omega)
  obtain ⟨s0, s1, s2, s3⟩ := S1.cells
  obtain ⟨c1, _, f1, hbl⟩ := hW1.facts
  have hbn : ¬ b = w.heap.size := by omega
  have hwa : W.beg.a = W.a := W.beg_a
  have HW1 := hide hW1
  have HK1 := hide hK1
  clear hW1 hK1
  simp only [St.k, St.c, St.s] at s0 s1 s2
  have z1 : (W.beg.a : Int) ≤ 1099511627776 := by omega
  have z2 : (n : Int) ≤ 1099511627776 := by omega
  go_wp2_with fail
  go_region
  all_goals go_wp2_with fail
  all_goals go_end0
  all_goals
    rw [show ((W.a : Int) + (n : Int)) = ((W.a + n : Nat) : Int) by omega]
    have g := (HW1.out).go n
    rw [hwa] at g
    have hsz2 := set_size w1 ⟨b, 1, none⟩ (.int .i64 ((W.a + n : Nat) : Int))
    refine ⟨rfl, (g.keep ((Kp.refl (fun _ => False) _).drew) (fun _ _ => id)).more (fun k hk => .inl hk) (fun k hk => ?_), ?_⟩
    · show _ ∧ k < (w1.setCell ⟨b, 1, none⟩ (.int .i64 ((W.a + n : Nat) : Int))).heap.size
      rw [hsz2]
      rcases hk with hk | hk
      · have := HLT.out k hk; omega
      · have hk2 : k < (w1.setCell ⟨b, 1, none⟩ (.int .i64 ((W.a + n : Nat) : Int))).heap.size := hk.2
        rw [hsz2] at hk2; omega
    · exact ((((K0.out).trans HK1.out (fun _ _ h => by rw [h]; exact hbF.out)).setCell (p := ⟨b, 1, none⟩) (fun _ => hbF.out) _)).drew
end Go.Proofs.Ytobdfddpiobhhaa
