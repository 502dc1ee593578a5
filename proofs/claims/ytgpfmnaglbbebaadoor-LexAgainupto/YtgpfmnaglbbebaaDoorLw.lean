/- The law: what is kept up is what would be made anew. -/
import Derived.Test.YtgpfmnaglbbebaaDoorRn
import Derived.Test.YtgpfmnaglbbebaaDoorSt
namespace Go.Proofs.YtgpfmnaglbbebaaDoor
open Go.RowKit
open M

/-- Where the loop over the two pieces stands. -/
structure InLw (w : World) (c : Nat) (fa ua : Int) (Xa : ByteArray) (fb ub : Int) (Xb : ByteArray) (b : Nat) (v : Value) (s : ByteArray) (wr : World) : Prop where
  doc : IsD wr b v s
  own : ∀ k, v.ownBlock = some k → k < wr.heap.size
  lt : b < wr.heap.size
  bel : Below w.heap.size w wr
  row : wr.heap[c]? = some (.cells #[.int .i64 fa, .int .i64 ua, .string Xa, .int .i64 fb, .int .i64 ub, .string Xb] 34 (0, 0))
theorem InLw.at {w : World} {c : Nat} {fa ua : Int} {Xa : ByteArray} {fb ub : Int} {Xb : ByteArray} {b : Nat} {v : Value} {s : ByteArray} {wr : World} (h : InLw w c fa ua Xa fb ub Xb b v s wr) (hXa : Xa.size ≤ 16777216) (hXb : Xb.size ≤ 16777216) {k : Nat} (hk : k < 2) :
    ∃ (F U : Int) (X : ByteArray), X.size ≤ 16777216 ∧ wr.cell? ⟨c, k * 3, none⟩ = some (.int .i64 F) ∧ wr.cell? ⟨c, k * 3 + 1, none⟩ = some (.int .i64 U) ∧ wr.cell? ⟨c, k * 3 + 2, none⟩ = some (.string X) := by
  rcases (by omega : k = 0 ∨ k = 1) with rfl | rfl
  · exact ⟨fa, ua, Xa, hXa, cell_of_row _ _ 0 _ _ _ h.row, cell_of_row _ _ 1 _ _ _ h.row, cell_of_row _ _ 2 _ _ _ h.row⟩
  · exact ⟨fb, ub, Xb, hXb, cell_of_row _ _ 3 _ _ _ h.row, cell_of_row _ _ 4 _ _ _ h.row, cell_of_row _ _ 5 _ _ _ h.row⟩
theorem set3_other (W : World) (g j q : Nat) (x : Value) (h : j * 3 + 3 ≤ q) : (((W.setCell ⟨g, j * 3, none⟩ x).setCell ⟨g, j * 3 + 1, none⟩ x).setCell ⟨g, j * 3 + 2, none⟩ x).cell? ⟨g, q, none⟩ = W.cell? ⟨g, q, none⟩ := by
  rw [World.cell?_setCell_other _ _ _ _ (by simp <;> omega), World.cell?_setCell_other _ _ _ _ (by simp <;> omega), World.cell?_setCell_other _ _ _ _ (by simp <;> omega)]
theorem intOf_nat (k : Nat) : (intOf (.int .i64 (k : Int))).toNat = k := rfl

set_option maxRecDepth 100000 in
set_option maxHeartbeats 4000000 in
theorem lexAgain_any (t : ByteArray) (fa ua : Int) (Xa : ByteArray) (fb ub : Int) (Xb : ByteArray) (w : World) (hT : Tabs w) (hE : ErrT w) (ht : t.size ≤ 16777216) (hXa : Xa.size ≤ 16777216) (hXb : Xb.size ≤ 16777216) :
    Calls Tryd.prog 7 #[.string t, .agg #[.int .i64 fa, .int .i64 ua, .string Xa], .agg #[.int .i64 fb, .int .i64 ub, .string Xb]] w fun e w' => e = .returned (.bool true) ∧ Below w.heap.size w w' := by
  go_enter Tryd.func7, Tryd.ntmps7
  go_wp2_with fail
  have B2 : Below w.heap.size w ((w.alloc (Obj.cells #[Value.int IntKind.i64 fa, Value.int IntKind.i64 ua, Value.string Xa] 34)).alloc (Obj.cells #[Value.int IntKind.i64 fb, Value.int IntKind.i64 ub, Value.string Xb] 34)) := ((Below.refl _ w).alloc (Nat.le_refl _) _).alloc (by simp) _
  have hA : ((w.alloc (Obj.cells #[Value.int IntKind.i64 fa, Value.int IntKind.i64 ua, Value.string Xa] 34)).alloc (Obj.cells #[Value.int IntKind.i64 fb, Value.int IntKind.i64 ub, Value.string Xb] 34)).heap[w.heap.size]? = some (.cells #[Value.int IntKind.i64 fa, Value.int IntKind.i64 ua, Value.string Xa] 34 (0, 0)) := by
    exact (heap_alloc_old (w.alloc _) _ (show w.heap.size < _ by simp)).trans (heap_alloc_new w _)
  have hB : ((w.alloc (Obj.cells #[Value.int IntKind.i64 fa, Value.int IntKind.i64 ua, Value.string Xa] 34)).alloc (Obj.cells #[Value.int IntKind.i64 fb, Value.int IntKind.i64 ub, Value.string Xb] 34)).heap[w.heap.size + 1]? = some (.cells #[Value.int IntKind.i64 fb, Value.int IntKind.i64 ub, Value.string Xb] 34 (0, 0)) := by
    have := heap_alloc_new (w.alloc (Obj.cells #[Value.int IntKind.i64 fa, Value.int IntKind.i64 ua, Value.string Xa] 34)) (Obj.cells #[Value.int IntKind.i64 fb, Value.int IntKind.i64 ub, Value.string Xb] 34)
    rwa [World.size_alloc] at this
  generalize (w.alloc (Obj.cells #[Value.int IntKind.i64 fa, Value.int IntKind.i64 ua, Value.string Xa] 34)).alloc (Obj.cells #[Value.int IntKind.i64 fb, Value.int IntKind.i64 ub, Value.string Xb] 34) = W at *
  refine (new_any t W (hT.below B2) (by omega)).mono ?_
  rintro e w1 ⟨b0, rfl, HD0⟩
  have H1 : Hid (∃ v, b0 < w1.heap.size ∧ IsD w1 b0 v t ∧ (∀ k, v.ownBlock = some k → k < w1.heap.size) ∧ Below w.heap.size w w1) := by
    obtain ⟨v, g1, g2, g3, g4, g5⟩ := HD0.out
    exact ⟨v, g2, g3, fun k hk => by have := (g4 k hk).2; omega, B2.trans (g5.mono B2.size)⟩
  obtain ⟨v0, -, -, -, -, g5⟩ := HD0.out
  have hA1 := (Kp.ofBelow g5 (fun _ => False)).heap hA id
  have hB1 := (Kp.ofBelow g5 (fun _ => False)).heap hB id
  have a0 := cell_of_row w1 _ 0 _ _ _ hA1
  have a1 := cell_of_row w1 _ 1 _ _ _ hA1
  have a2 := cell_of_row w1 _ 2 _ _ _ hA1
  have c0 := cell_of_row w1 _ 0 _ _ _ hB1
  have c1 := cell_of_row w1 _ 1 _ _ _ hB1
  have c2 := cell_of_row w1 _ 2 _ _ _ hB1
  clear hA hB hA1 hB1 g5 HD0 B2 W
  go_wp2_with fail
  have HL1 : Hid (∃ v, InLw w w1.heap.size fa ua Xa fb ub Xb b0 v t (w1.alloc (Obj.cells #[Value.int IntKind.i64 fa, Value.int IntKind.i64 ua, Value.string Xa, Value.int IntKind.i64 fb, Value.int IntKind.i64 ub, Value.string Xb] 34))) := by
    obtain ⟨v, g1, g2, g3, g4⟩ := H1.out
    have hk : Below w1.heap.size w1 (w1.alloc (Obj.cells #[Value.int IntKind.i64 fa, Value.int IntKind.i64 ua, Value.string Xa, Value.int IntKind.i64 fb, Value.int IntKind.i64 ub, Value.string Xb] 34)) := (Below.refl _ w1).alloc (Nat.le_refl _) _
    exact ⟨v, g2.below hk, fun k hk' => by have := g3 k hk'; simp; omega, by simp; omega, g4.trans (hk.mono g4.size), heap_alloc_new w1 _⟩
  clear a0 a1 a2 c0 c1 c2 H1
  generalize w1.heap.size = c at *
  go_loopw [0, 7, 9] (fun tv dv iv wr => ∃ (k b : Nat) (v : Value) (s : ByteArray), k ≤ 2 ∧ iv = .int .i64 k ∧ tv = .string s ∧ dv = .pointer (some ⟨b, 0, none⟩) ∧ s.size ≤ (k + 1) * 16777216 ∧ Hid (InLw w c fa ua Xa fb ub Xb b v s wr)) (fun _ _ iv _ => 2 - (intOf iv).toNat)
  case atStart =>
    obtain ⟨v, h⟩ := HL1.out
    exact ⟨0, b0, v, t, by omega, rfl, rfl, rfl, by omega, h⟩
  case round =>
    obtain ⟨k, b, v, s, hk2, rfl, rfl, rfl, hs, HI⟩ := hrel
    clear HL1
    by_cases hk : k < 2
    case neg =>
      have i1 : decide ((k : Int) < 2) = false := by simp; omega
      go_wp2_with fail
      go_ret
      exact ⟨rfl, (HI.out).bel⟩
    have i1 : decide ((k : Int) < 2) = true := by simp; omega
    obtain ⟨F, U, X, hX, p0, p1, p2⟩ := (HI.out).at hXa hXb hk
    have i2 : k < 2 := hk
    have i3 : (k : Int) < 2 := by omega
    go_wp2_with fail
    have B3 : Below wr.heap.size wr (wr.alloc (Obj.cells #[Value.int IntKind.i64 F, Value.int IntKind.i64 U, Value.string X] 34)) := (Below.refl _ wr).alloc (Nat.le_refl _) _
    have hS : (wr.alloc (Obj.cells #[Value.int IntKind.i64 F, Value.int IntKind.i64 U, Value.string X] 34)).heap[wr.heap.size]? = _ := heap_alloc_new wr _
    have K3 := hide ((HI.out).bel.trans (B3.mono (HI.out).bel.size))
    have HD3 := hide ((HI.out).doc.below B3)
    have HR3 := hide ((Kp.ofBelow B3 (fun _ => False)).heap (HI.out).row id)
    have HO3 : Hid (∀ k, v.ownBlock = some k → k < (wr.alloc (Obj.cells #[Value.int IntKind.i64 F, Value.int IntKind.i64 U, Value.string X] 34)).heap.size) := fun k hk => by have := (HI.out).own k hk; simp; omega
    have hlt3 : b < (wr.alloc (Obj.cells #[Value.int IntKind.i64 F, Value.int IntKind.i64 U, Value.string X] 34)).heap.size := by have := (HI.out).lt; simp; omega
    clear p0 p1 p2 HI B3
    generalize wr.alloc (Obj.cells #[Value.int IntKind.i64 F, Value.int IntKind.i64 U, Value.string X] 34) = W3 at *
    generalize wr.heap.size = cs at *
    by_cases hok : 0 ≤ F ∧ F ≤ U ∧ U ≤ (s.size : Int)
    case neg =>
      have hno : F < 0 ∨ U < F ∨ (s.size : Int) < U := by omega
      refine (replace_no b v s X F U W3 HD3.out hno).mono ?_
      rintro e w4 ⟨rfl, k4⟩
      have hS4 := (Kp.ofBelow k4 (fun _ => False)).heap hS id
      have s0 := cell_of_row w4 _ 0 _ _ _ hS4
      have s1 := cell_of_row w4 _ 1 _ _ _ hS4
      have K4 := hide ((K3.out).trans (k4.mono (K3.out).size))
      have HE4 := hide (hE.below ((K4.out).mono (Nat.le_refl _)))
      clear hS hS4 k4 HD3 HR3 HO3 K3 hlt3
      have he : errV 1 = .iface 74 (.int .i64 1) := rfl
      rw [he]
      clear he
      have hcs : (decide (0 ≤ F) = false) ∨ (decide (0 ≤ F) = true ∧ decide (F ≤ U) = false) ∨ (decide (0 ≤ F) = true ∧ decide (F ≤ U) = true ∧ decide (U ≤ (s.size : Int)) = false) := by
        simp only [decide_eq_true_eq, decide_eq_false_iff_not]; omega
      clear hno hok
      rcases hcs with d1 | ⟨d1, d2⟩ | ⟨d1, d2, d3⟩
      all_goals
        go_wp2_with fail
      all_goals
        have HEr : Hid (Calls Tryd.prog 21 #[Value.iface 74 (Value.int IntKind.i64 1), Value.int IntKind.i64 1] w4 fun e w' => e = .returned (.bool true) ∧ Below w4.heap.size w4 w') := error_same 1 w4 HE4.out
        refine (HEr.out).mono ?_
        rintro e w5 ⟨rfl, k5⟩
        have K5 := hide ((K4.out).trans (k5.mono (K4.out).size))
        clear k5 HEr s0 s1
        go_wp2_with fail
        go_ret
        exact ⟨rfl, K5.out⟩
    obtain ⟨f, rfl⟩ : ∃ f : Nat, F = f := ⟨F.toNat, by omega⟩
    obtain ⟨u, rfl⟩ : ∃ u : Nat, U = u := ⟨U.toNat, by omega⟩
    have h1 : f ≤ u := by omega
    have h2 : u ≤ s.size := by omega
    clear hok
    have hs3 : s.size ≤ 50331648 := by
      have : (k + 1) * 16777216 ≤ 3 * 16777216 := Nat.mul_le_mul_right _ (by omega)
      omega
    obtain ⟨N, hN⟩ : ∃ N, N = s.extract 0 f ++ X ++ s.extract u s.size := ⟨_, rfl⟩
    have HN := hide hN
    have hNs : N.size = f + X.size + (s.size - u) := by rw [hN]; exact rep_size s X h1 h2
    obtain ⟨A, S, hAS⟩ : ∃ A S, anw ((X.size : Int) - ((u : Int) - f)) (beg u (toks 0 (bs s))) (endF 0 (ahd f (toks 0 (bs s)))) ((rep (bs s) (bs X) f u).drop (endF 0 (ahd f (toks 0 (bs s))))) = (A, S) := ⟨_, _, rfl⟩
    have HCN : Hid (cnt ((X.size : Int) - ((u : Int) - f)) (toks 0 (bs s)) u (endF 0 (ahd f (toks 0 (bs s)))) ((rep (bs s) (bs X) f u).drop (endF 0 (ahd f (toks 0 (bs s))))) = A.length) := by
      have := (rep_toks (T := bs s) (X := bs X) (g := (X.size : Int) - ((u : Int) - f)) h1 (by rw [bs_len]; exact h2) (by rw [bs_len])).2
      rw [hAS] at this; exact this
    refine (replace_yes b v s X f u W3 HD3.out (hT.below ((K3.out).mono (Nat.le_refl _))) (by omega) (by omega) h1 h2 HO3.out hlt3 N HN A S hAS).mono ?_
    rintro e w4 ⟨b4, rfl, H4⟩
    have hS4 : Hid (w4.heap[cs]? = _) := (Kp.ofBelow (H4.out).choose_spec.2.2.2.2 (fun _ => False)).heap hS id
    have s0 := cell_of_row w4 _ 0 _ _ _ hS4.out
    have s1 := cell_of_row w4 _ 1 _ _ _ hS4.out
    have s2 := cell_of_row w4 _ 2 _ _ _ hS4.out
    have d1 : decide ((f : Int) ≤ (u : Int)) = true := by simp; omega
    have d2 : decide ((u : Int) ≤ (s.size : Int)) = true := by simp; omega
    have d3 : decide (f ≤ u) = true := by simp; omega
    have d4 : decide (u ≤ s.size) = true := by simp; omega
    clear hS hAS hN
    go_wp2_with fail
    refine (stay_any s X f u w4 (by omega) (by omega) h1 h2 A.length HCN).mono ?_
    rintro e w5 ⟨⟨x1, x2, rfl⟩, k5⟩
    obtain ⟨v4, g1, g2, g3, g4, g5⟩ := H4.out
    have K34 := hide g5
    have HD4 := hide ((HD3.out).below g5)
    have HN4 := hide g3
    have HO4 := hide g4
    have hb4 := g2
    have K5 := hide k5
    have HR4 := hide ((Kp.ofBelow g5 (fun _ => False)).heap (HR3.out) id)
    have K4 := hide ((K3.out).trans (g5.mono (K3.out).size))
    clear g1 g2 g3 g4 g5 k5 H4 HD3 HR3 HO3 hlt3 K3 K34 HCN
    go_wp2_with fail
    refine (docTokens_any b v s w5 ((HD4.out).below (K5.out)) (by omega)).mono ?_
    rintro e w6 ⟨v6, rfl, O6, k6⟩
    have K6 := hide ((K5.out).trans (k6.mono (K5.out).size))
    have T6 := hide (IsT.ofOwns O6.out)
    clear O6 k6 K5
    obtain ⟨ao6, cap6, rfl, -⟩ := T6.out
    go_wp2_with fail
    refine (refTokens_any s w6 (by omega)).mono ?_
    rintro e w7 ⟨v7, rfl, O7, k7⟩
    have K7 := hide ((K6.out).trans (k7.mono (K6.out).size))
    have T67 := hide ((T6.out).below k7)
    have T7 := hide (IsT.ofOwns O7)
    clear O7 k7 K6 T6
    obtain ⟨ao7, cap7, rfl, -⟩ := T7.out
    have hLl := toks_len _ 0 (bs s) (Nat.le_refl _)
    have hNl := toks_len _ 0 (bs N) (Nat.le_refl _)
    rw [bs_len] at hLl hNl
    go_wp2_with fail
    refine (sameTokens_any (toks 0 (bs s)) _ _ w7 T67.out T7.out (by omega)).mono ?_
    rintro e w8 ⟨rfl, k8⟩
    have K8 := hide ((K7.out).trans (k8.mono (K7.out).size))
    clear k8 K7 T67 T7
    have s0' : w8.cell? ⟨cs, 0, none⟩ = some (.int .i64 f) := (Kp.ofBelow K8.out (fun _ => False)).cellv s0 id
    have s1' : w8.cell? ⟨cs, 1, none⟩ = some (.int .i64 u) := (Kp.ofBelow K8.out (fun _ => False)).cellv s1 id
    have s2' : w8.cell? ⟨cs, 2, none⟩ = some (.string X) := (Kp.ofBelow K8.out (fun _ => False)).cellv s2 id
    clear s0 s1 s2
    have hf : f ≤ s.size := by omega
    have hf' : (f : Int) ≤ (s.size : Int) := by omega
    have hu' : (u : Int) ≤ (s.size : Int) := by omega
    go_wp2_with fail
    go_quiet (fail)
    rw [← HN.out]
    have K9 : Hid (Below w4.heap.size w4 (w8.drewN nq)) := belowN K8.out nq
    generalize w8.drewN nq = w9 at *
    clear s0' s1' s2' K8
    go_wp2_with fail
    refine (text_any b4 v4 N w9 ((HN4.out).below (K9.out))).mono ?_
    rintro e w10 ⟨rfl, k10⟩
    have K10 := hide ((K9.out).trans (k10.mono (K9.out).size))
    clear k10 K9
    go_wp2_with fail
    refine (docTokens_any b4 v4 N w10 ((HN4.out).below (K10.out)) (by omega)).mono ?_
    rintro e w11 ⟨v11, rfl, O11, k11⟩
    have K11 := hide ((K10.out).trans (k11.mono (K10.out).size))
    have HT11 := hide (hT.below ((K4.out).trans ((K11.out).mono (K4.out).size)))
    have hz10 := (K10.out).size
    clear k11
    obtain ⟨ao11, cap11, hv11⟩ : ∃ ao cap, v11 = .slice ao (toks 0 (bs N)).length cap := by
      obtain ⟨ao, cap, h, -⟩ := IsT.ofOwns O11.out
      exact ⟨ao, cap, h⟩
    subst hv11
    go_wp2_with fail
    refine (tokens_any N w11 HT11.out (by omega)).mono ?_
    rintro e w12 ⟨v12, rfl, O12, k12⟩
    have K12 := hide ((K11.out).trans (k12.mono (K11.out).size))
    have O11' := hide (Kp.owns (Kp.ofBelow k12 (fun _ => False)) O11.out (fun _ _ => id))
    have T12 := hide (IsT.ofOwns O12)
    have HX12 := hide (owns_ge O12)
    have hz11 := (owns_ge O11.out)
    have HX11 := hide hz11
    clear hz11 O12 k12 O11 K11
    obtain ⟨ao12, cap12, rfl, -⟩ := T12.out
    have e1 : (A.length == A.length) = true := by simp
    go_wp2_with fail
    obtain ⟨g, hg⟩ : ∃ g, 0 < (toks 0 (bs N)).length → ao11 = some ⟨g, 0, none⟩ ∧ w10.heap.size ≤ g ∧ g < w11.heap.size := by
      by_cases h0 : 0 < (toks 0 (bs N)).length
      · obtain ⟨g, cap', e8, hg1, -⟩ := (O11'.out).form h0
        injection e8 with e8 _ e9
        subst e8
        exact ⟨g, fun _ => ⟨rfl, (HX11.out) g rfl⟩⟩
      · exact ⟨0, fun h => absurd h h0⟩
    have HG := hide hg
    clear hg HX11
    have HC12 : Hid (∀ i t, 0 ≤ i → (toks 0 (bs N))[i]? = some t → w12.cell? ⟨g, i * 3, none⟩ = some (.int .i64 t.kind) ∧ w12.cell? ⟨g, i * 3 + 1, none⟩ = some (.int .i64 t.pos) ∧ w12.cell? ⟨g, i * 3 + 2, none⟩ = some (.int .i64 t.len)) := by
      intro i t _ hi
      have h0 : i < (toks 0 (bs N)).length := by
        rcases Nat.lt_or_ge i (toks 0 (bs N)).length with g | g
        · exact g
        · rw [List.getElem?_eq_none g] at hi; cases hi
      obtain ⟨b', o', t', e, ht', q⟩ := (IsT.ofOwns O11'.out).get (Below.refl _ w12) h0
      obtain ⟨rfl, -⟩ := (HG.out) (by omega)
      injection e with e; injection e with e1 e2 e3
      subst e1; subst e2
      rw [hi] at ht'; cases ht'
      simpa using q
    have HF12 : Hid (∀ o, 0 < (toks 0 (bs N)).length → w12.frozen? ⟨g, o, none⟩ = false) := by
      intro o h0
      obtain ⟨rfl, -⟩ := (HG.out) h0
      exact (O11'.out).frozenAt o
    clear O11'
    have HLn := hide hNl
    generalize toks 0 (bs N) = L at *
    go_loopw [25] (fun iv wx => ∃ j : Nat, iv = .int .i64 j ∧ j ≤ L.length ∧ Hid (∀ i t, j ≤ i → L[i]? = some t → wx.cell? ⟨g, i * 3, none⟩ = some (.int .i64 t.kind) ∧ wx.cell? ⟨g, i * 3 + 1, none⟩ = some (.int .i64 t.pos) ∧ wx.cell? ⟨g, i * 3 + 2, none⟩ = some (.int .i64 t.len)) ∧ Hid (∀ o, 0 < L.length → wx.frozen? ⟨g, o, none⟩ = false) ∧ Hid (IsT wx (.slice ao12 L.length cap12) L) ∧ Hid (Below w4.heap.size w4 wx)) (fun iv _ => L.length - (intOf iv).toNat)
    case atStart => exact ⟨0, rfl, Nat.zero_le _, HC12, HF12, T12, K12⟩
    case round =>
      obtain ⟨j, rfl, hj, HC, HF, HT, HK⟩ := hrel
      by_cases hlt : j < L.length
      case neg =>
        have i4 : decide (j < L.length) = false := by simp; omega
        have i5 : decide ((j : Int) < (L.length : Int)) = false := by simp; omega
        go_wp2_with fail
        refine ⟨⟨k + 1, b4, v4, N, by omega, by go_num, rfl, rfl, by rw [hNs]; omega, ⟨?_, ?_, ?_, ?_, ?_⟩⟩, by simp only [intOf]; omega⟩
        · exact (HN4.out).below (HK.out)
        · intro k hk'; have := (HO4.out) k hk'; have := (HK.out).size; omega
        · have := (HK.out).size; omega
        · exact (K4.out).trans ((HK.out).mono (K4.out).size)
        · exact (Kp.ofBelow HK.out (fun _ => False)).heap HR4.out id
      obtain ⟨hg0, hg1, hg2⟩ := (HG.out) (by omega)
      subst hg0
      obtain ⟨b', o', t', rfl, ht', q1, q2, q3⟩ := (HT.out).get (Below.refl _ wr) hlt
      obtain ⟨y0, y1, y2⟩ := (HC.out) j t' (Nat.le_refl _) ht'
      have z0 := (HF.out) (j * 3) (by omega)
      have z1 := (HF.out) (j * 3 + 1) (by omega)
      have z2 := (HF.out) (j * 3 + 2) (by omega)
      have i4 : decide (j < L.length) = true := by simp; omega
      have i5 : decide ((j : Int) < (L.length : Int)) = true := by simp; omega
      have hjm : L.length ≤ 1073741824 := by omega
      go_wp2_with fail
      go_quiet (fail)
      go_wp2_with fail
      refine ⟨⟨j + 1, by go_num, by omega, ?_, ?_, ?_, ?_⟩, by simp only [intOf]; omega⟩
      · intro i t hi hti
        obtain ⟨r0, r1, r2⟩ := (HC.out) i t (by omega) hti
        refine ⟨?_, ?_, ?_⟩
        · rw [set3_other _ _ _ _ _ (by omega)]; exact r0
        · rw [set3_other _ _ _ _ _ (by omega)]; exact r1
        · rw [set3_other _ _ _ _ _ (by omega)]; exact r2
      · intro o h0
        rw [World.frozen?_setCell, World.frozen?_setCell, World.frozen?_setCell]
        exact (HF.out) o h0
      · refine (HT.out).keep ((((On.drewN g wr nq).set _ _).set _ _).set _ _) (fun k hk' e => ?_)
        have := ((HX12.out) k hk').1
        omega
      · exact Below.setCell (Below.setCell (Below.setCell (belowN HK.out nq) (by show _ ≤ g; omega) _) (by show _ ≤ g; omega) _) (by show _ ≤ g; omega) _
end Go.Proofs.YtgpfmnaglbbebaaDoor
