/- The law TreeAgain: what is kept up is what would be read anew. -/
import Derived.Test.YtkampoaceipngaaGreatDoorYv
import Derived.Test.YtkampoaceipngaaGreatDoorZo
import Derived.Test.YtkampoaceipngaaGreatDoorXz
import Derived.Test.YtkampoaceipngaaGreatDoorZx
import Derived.Test.YtkampoaceipngaaGreatDoorEra
namespace Go.Proofs.YtkampoaceipngaaGreatDoor
open Go.RowKit
open M

theorem IsTk.lt {w : World} {tb : Nat} {s : ByteArray} (h : IsTk w tb s) : tb < w.heap.size := by
  obtain ⟨db, dv, B, D, h1, -⟩ := h.ex
  exact World.block_lt_of_cell? _ _ h1
/-- Where the loop over the two pieces stands. -/
structure InTa (w : World) (c : Nat) (fa ua : Int) (Xa : ByteArray) (fb ub : Int) (Xb : ByteArray) (tb : Nat) (s : ByteArray) (wr : World) : Prop where
  tree : IsTk wr tb s
  lt : tb < wr.heap.size
  bel : Below w.heap.size w wr
  row : wr.heap[c]? = some (.cells #[.int .i64 fa, .int .i64 ua, .string Xa, .int .i64 fb, .int .i64 ub, .string Xb] 38 (0, 0))
theorem InTa.at {w : World} {c : Nat} {fa ua : Int} {Xa : ByteArray} {fb ub : Int} {Xb : ByteArray} {tb : Nat} {s : ByteArray} {wr : World} (h : InTa w c fa ua Xa fb ub Xb tb s wr) (hXa : Xa.size ≤ 4194304) (hXb : Xb.size ≤ 4194304) {k : Nat} (hk : k < 2) :
    ∃ (F U : Int) (Y : ByteArray), Y.size ≤ 4194304 ∧ wr.cell? ⟨c, k * 3, none⟩ = some (.int .i64 F) ∧ wr.cell? ⟨c, k * 3 + 1, none⟩ = some (.int .i64 U) ∧ wr.cell? ⟨c, k * 3 + 2, none⟩ = some (.string Y) := by
  rcases (by omega : k = 0 ∨ k = 1) with rfl | rfl
  · exact ⟨fa, ua, Xa, hXa, cell_of_row _ _ 0 _ _ _ h.row, cell_of_row _ _ 1 _ _ _ h.row, cell_of_row _ _ 2 _ _ _ h.row⟩
  · exact ⟨fb, ub, Xb, hXb, cell_of_row _ _ 3 _ _ _ h.row, cell_of_row _ _ 4 _ _ _ h.row, cell_of_row _ _ 5 _ _ _ h.row⟩

set_option maxRecDepth 100000 in
set_option maxHeartbeats 4000000 in
theorem treeAgain_any (t : ByteArray) (fa ua : Int) (Xa : ByteArray) (fb ub : Int) (Xb : ByteArray) (w : World) (hT : Tabs w) (hE : ErrT w) (ht : t.size ≤ 4194304) (hXa : Xa.size ≤ 4194304) (hXb : Xb.size ≤ 4194304) :
    Calls Tryz.prog 5 #[.string t, .agg #[.int .i64 fa, .int .i64 ua, .string Xa], .agg #[.int .i64 fb, .int .i64 ub, .string Xb]] w fun e w' => e = .returned (.bool true) ∧ Below w.heap.size w w' := by
  go_enter Tryz.func5, Tryz.ntmps5
  go_wp2_with fail
  have B2 : Below w.heap.size w ((w.alloc (Obj.cells #[Value.int IntKind.i64 fa, Value.int IntKind.i64 ua, Value.string Xa] 38)).alloc (Obj.cells #[Value.int IntKind.i64 fb, Value.int IntKind.i64 ub, Value.string Xb] 38)) := ((Below.refl _ w).alloc (Nat.le_refl _) _).alloc (by simp) _
  have hA : ((w.alloc (Obj.cells #[Value.int IntKind.i64 fa, Value.int IntKind.i64 ua, Value.string Xa] 38)).alloc (Obj.cells #[Value.int IntKind.i64 fb, Value.int IntKind.i64 ub, Value.string Xb] 38)).heap[w.heap.size]? = some (.cells #[Value.int IntKind.i64 fa, Value.int IntKind.i64 ua, Value.string Xa] 38 (0, 0)) := by
    exact (heap_alloc_old (w.alloc _) _ (show w.heap.size < _ by simp)).trans (heap_alloc_new w _)
  have hB : ((w.alloc (Obj.cells #[Value.int IntKind.i64 fa, Value.int IntKind.i64 ua, Value.string Xa] 38)).alloc (Obj.cells #[Value.int IntKind.i64 fb, Value.int IntKind.i64 ub, Value.string Xb] 38)).heap[w.heap.size + 1]? = some (.cells #[Value.int IntKind.i64 fb, Value.int IntKind.i64 ub, Value.string Xb] 38 (0, 0)) := by
    have := heap_alloc_new (w.alloc (Obj.cells #[Value.int IntKind.i64 fa, Value.int IntKind.i64 ua, Value.string Xa] 38)) (Obj.cells #[Value.int IntKind.i64 fb, Value.int IntKind.i64 ub, Value.string Xb] 38)
    rwa [World.size_alloc] at this
  generalize (w.alloc (Obj.cells #[Value.int IntKind.i64 fa, Value.int IntKind.i64 ua, Value.string Xa] 38)).alloc (Obj.cells #[Value.int IntKind.i64 fb, Value.int IntKind.i64 ub, Value.string Xb] 38) = W at *
  refine (newTreeK_any t W (hT.below B2) (by omega)).mono ?_
  rintro e w1 ⟨b0, rfl, HD0⟩
  have hA1 := (Kp.ofBelow (HD0.out).2 (fun _ => False)).heap hA id
  have hB1 := (Kp.ofBelow (HD0.out).2 (fun _ => False)).heap hB id
  have a0 := cell_of_row w1 _ 0 _ _ _ hA1
  have a1 := cell_of_row w1 _ 1 _ _ _ hA1
  have a2 := cell_of_row w1 _ 2 _ _ _ hA1
  have c0 := cell_of_row w1 _ 0 _ _ _ hB1
  have c1 := cell_of_row w1 _ 1 _ _ _ hB1
  have c2 := cell_of_row w1 _ 2 _ _ _ hB1
  have H1 : Hid (IsTk w1 b0 t ∧ b0 < w1.heap.size ∧ Below w.heap.size w w1) := ⟨(HD0.out).1, (HD0.out).1.lt, B2.trans ((HD0.out).2.mono B2.size)⟩
  clear hA hB hA1 hB1 HD0 B2 W
  go_wp2_with fail
  have HL1 : Hid (InTa w w1.heap.size fa ua Xa fb ub Xb b0 t (w1.alloc (Obj.cells #[Value.int IntKind.i64 fa, Value.int IntKind.i64 ua, Value.string Xa, Value.int IntKind.i64 fb, Value.int IntKind.i64 ub, Value.string Xb] 38))) := by
    obtain ⟨g1, g2, g3⟩ := H1.out
    have hk : Below w1.heap.size w1 (w1.alloc (Obj.cells #[Value.int IntKind.i64 fa, Value.int IntKind.i64 ua, Value.string Xa, Value.int IntKind.i64 fb, Value.int IntKind.i64 ub, Value.string Xb] 38)) := (Below.refl _ w1).alloc (Nat.le_refl _) _
    exact ⟨g1.below hk, by simp; omega, g3.trans (hk.mono g3.size), heap_alloc_new w1 _⟩
  clear a0 a1 a2 c0 c1 c2 H1
  generalize w1.heap.size = c at *
  go_loopw [0, 7, 9] (fun tv dv iv wr => ∃ (k b : Nat) (s : ByteArray), k ≤ 2 ∧ iv = .int .i64 k ∧ tv = .string s ∧ dv = .pointer (some ⟨b, 0, none⟩) ∧ s.size ≤ (k + 1) * 4194304 ∧ Hid (InTa w c fa ua Xa fb ub Xb b s wr)) (fun _ _ iv _ => 2 - (intOf iv).toNat)
  case atStart => exact ⟨0, b0, t, by omega, rfl, rfl, rfl, by omega, HL1⟩
  case round =>
    obtain ⟨k, b, s, hk2, rfl, rfl, rfl, hs, HI⟩ := hrel
    clear HL1
    by_cases hk : k < 2
    case neg =>
      have i1 : decide ((k : Int) < 2) = false := by simp; omega
      go_wp2_with fail
      go_ret
      exact ⟨rfl, (HI.out).bel⟩
    have i1 : decide ((k : Int) < 2) = true := by simp; omega
    obtain ⟨F, U, Y, hY, p0, p1, p2⟩ := (HI.out).at hXa hXb hk
    have i2 : k < 2 := hk
    have i3 : (k : Int) < 2 := by omega
    go_wp2_with fail
    have B3 : Below wr.heap.size wr (wr.alloc (Obj.cells #[Value.int IntKind.i64 F, Value.int IntKind.i64 U, Value.string Y] 38)) := (Below.refl _ wr).alloc (Nat.le_refl _) _
    have hS : (wr.alloc (Obj.cells #[Value.int IntKind.i64 F, Value.int IntKind.i64 U, Value.string Y] 38)).heap[wr.heap.size]? = _ := heap_alloc_new wr _
    have K3 := hide ((HI.out).bel.trans (B3.mono (HI.out).bel.size))
    have HD3 := hide ((HI.out).tree.below B3)
    have HR3 := hide ((Kp.ofBelow B3 (fun _ => False)).heap (HI.out).row id)
    have hlt3 : b < (wr.alloc (Obj.cells #[Value.int IntKind.i64 F, Value.int IntKind.i64 U, Value.string Y] 38)).heap.size := by have := (HI.out).lt; simp; omega
    clear p0 p1 p2 HI B3
    generalize wr.alloc (Obj.cells #[Value.int IntKind.i64 F, Value.int IntKind.i64 U, Value.string Y] 38) = W3 at *
    generalize wr.heap.size = cs at *
    by_cases hok : 0 ≤ F ∧ F ≤ U ∧ U ≤ (s.size : Int)
    case neg =>
      have hno : F < 0 ∨ U < F ∨ (s.size : Int) < U := by omega
      refine (treplace_no b s Y F U W3 HD3.out hno).mono ?_
      rintro e w4 ⟨rfl, k4⟩
      have hS4 := (Kp.ofBelow k4 (fun _ => False)).heap hS id
      have s0 := cell_of_row w4 _ 0 _ _ _ hS4
      have s1 := cell_of_row w4 _ 1 _ _ _ hS4
      have K4 := hide ((K3.out).trans (k4.mono (K3.out).size))
      have HE4 := hide (hE.below ((K4.out).mono (Nat.le_refl _)))
      clear hS hS4 k4 HD3 HR3 K3 hlt3
      have hcs : (decide (0 ≤ F) = false) ∨ (decide (0 ≤ F) = true ∧ decide (F ≤ U) = false) ∨ (decide (0 ≤ F) = true ∧ decide (F ≤ U) = true ∧ decide (U ≤ (s.size : Int)) = false) := by
        simp only [decide_eq_true_eq, decide_eq_false_iff_not]; omega
      clear hno hok
      rcases hcs with d1 | ⟨d1, d2⟩ | ⟨d1, d2, d3⟩
      all_goals
        go_wp2_with fail
      all_goals
        have HEr : Hid (Calls Tryz.prog 14 #[Value.iface 48 (Value.int IntKind.i64 1), Value.int IntKind.i64 1] w4 fun e w' => e = .returned (.bool true) ∧ Below w4.heap.size w4 w') := error_same 1 w4 HE4.out
        refine (HEr.out).mono ?_
        rintro e w5 ⟨rfl, k5⟩
        have K5 := hide ((K4.out).trans (k5.mono (K4.out).size))
        clear k5 HEr s0 s1
        go_wp2_with fail
        go_ret
        exact ⟨rfl, K5.out⟩
    obtain ⟨f, rfl⟩ : ∃ f : Nat, F = f := ⟨F.toNat, by omega⟩
    obtain ⟨u, rfl⟩ : ∃ u : Nat, U = u := ⟨U.toNat, by omega⟩
    have h1 : f ≤ u := by omega
    have h2 : u ≤ s.size := by omega
    clear hok
    have hs3 : s.size ≤ 12582912 := by
      have : (k + 1) * 4194304 ≤ 3 * 4194304 := Nat.mul_le_mul_right _ (by omega)
      omega
    obtain ⟨N, hN⟩ : ∃ N, N = s.extract 0 f ++ Y ++ s.extract u s.size := ⟨_, rfl⟩
    have HN := hide hN
    have hNs : N.size = f + Y.size + (s.size - u) := by rw [hN]; exact rep_size s Y h1 h2
    obtain ⟨A, S, hAS⟩ : ∃ A S, anw ((Y.size : Int) - ((u : Int) - f)) (beg u (toks 0 (bs s))) (endF 0 (ahd f (toks 0 (bs s)))) ((rep (bs s) (bs Y) f u).drop (endF 0 (ahd f (toks 0 (bs s))))) = (A, S) := ⟨_, _, rfl⟩
    have HAS := hide hAS
    clear hAS hN
    refine (treplace_yes b s Y f u W3 HD3.out hlt3 (hT.below ((K3.out).mono (Nat.le_refl _))) (by omega) (by omega) h1 h2 N HN A S HAS).mono ?_
    rintro e w4 ⟨b4, cn, rfl, H4⟩
    have hS4 : Hid (w4.heap[cs]? = _) := (Kp.ofBelow (H4.out).2.2.1 (fun _ => False)).heap hS id
    have s0 : w4.cell? ⟨cs, 0, none⟩ = some (.int .i64 f) := cell_of_row w4 _ 0 _ _ _ hS4.out
    have s1 : w4.cell? ⟨cs, 1, none⟩ = some (.int .i64 u) := cell_of_row w4 _ 1 _ _ _ hS4.out
    have s2 : w4.cell? ⟨cs, 2, none⟩ = some (.string Y) := cell_of_row w4 _ 2 _ _ _ hS4.out
    have d1 : decide ((f : Int) ≤ (u : Int)) = true := by simp; omega
    have d2 : decide ((u : Int) ≤ (s.size : Int)) = true := by simp; omega
    have d3 : decide (f ≤ u) = true := by simp; omega
    have d4 : decide (u ≤ s.size) = true := by simp; omega
    clear hS
    obtain ⟨g1, g2, g3, g4⟩ := H4.out
    have HT4 := hide g1
    have hb4 := g2
    have HOld := hide ((HD3.out).below g3)
    have HAg := hide g4
    have HR4 := hide ((Kp.ofBelow g3 (fun _ => False)).heap (HR3.out) id)
    have K4 := hide ((K3.out).trans (g3.mono (K3.out).size))
    clear g1 g2 g3 g4 H4 HD3 HR3 hlt3 K3
    go_wp2_with fail
    refine (anew_any s Y f u w4 (by omega) (by omega) h1 h2 N HN A S HAS cn HAg.out).mono ?_
    rintro e w5 ⟨rfl, k5⟩
    have K5 := hide k5
    clear k5 HAg
    go_wp2_with fail
    refine (ttext_any b s w5 ((HOld.out).below K5.out).tr).mono ?_
    rintro e w6 ⟨rfl, k6⟩
    have K6 := hide ((K5.out).trans (k6.mono (K5.out).size))
    clear k6 K5 HOld
    have s0' : w6.cell? ⟨cs, 0, none⟩ = some (.int .i64 f) := (Kp.ofBelow K6.out (fun _ => False)).cellv s0 id
    have s1' : w6.cell? ⟨cs, 1, none⟩ = some (.int .i64 u) := (Kp.ofBelow K6.out (fun _ => False)).cellv s1 id
    have s2' : w6.cell? ⟨cs, 2, none⟩ = some (.string Y) := (Kp.ofBelow K6.out (fun _ => False)).cellv s2 id
    clear s0 s1 s2
    have hf : f ≤ s.size := by omega
    have hf' : (f : Int) ≤ (s.size : Int) := by omega
    have hu' : (u : Int) ≤ (s.size : Int) := by omega
    have e1 : ((cn : Int) != (cn : Int)) = false := by simp
    have e2 : (s.toList != s.toList) = false := by simp
    go_wp2_with fail
    go_quiet (fail)
    rw [← HN.out]
    have K7 : Hid (Below w4.heap.size w4 (w6.drewN nq)) := belowN K6.out nq
    generalize w6.drewN nq = w7 at *
    clear s0' s1' s2' K6
    have HT7 := hide (hT.below ((K4.out).trans ((K7.out).mono (K4.out).size)))
    go_wp2_with fail
    refine (newTreeK_any N w7 HT7.out (by omega)).mono ?_
    rintro e w8 ⟨b8, rfl, H8⟩
    have K8 := hide ((K7.out).trans ((H8.out).2.mono (K7.out).size))
    have HV8 := hide ((H8.out).1)
    clear H8 K7 HT7
    have hll : (X.xt (bs N)).length ≤ N.size := by
      have := toks_len _ 0 (bs N) (Nat.le_refl _)
      rw [bs_len] at this
      rw [xt_len]; exact this
    have hz : X.psz (X.file (X.xt (bs N))) ≤ 1073741824 := by have := X.file_psz (X.xt (bs N)); omega
    have hb : X.pb (X.file (X.xt (bs N))) = bs N := by rw [X.file_keeps, X.xt_tb]
    have HRoot := hide (fun tb W h => root_any tb N W h hz hb (by omega))
    have HSm := hide (sames_any _ (X.file (X.xt (bs N))) (Nat.le_refl _) hz)
    have hnl := X.nts_len (X.file (X.xt (bs N))) 0
    have hnb : (X.nts (X.file (X.xt (bs N))) 0).length ≤ 1073741824 := by omega
    clear hb hll hz hnl
    go_wp2_with fail
    refine ((HRoot.out) b4 w8 ((HT4.out).below K8.out).tr).mono ?_
    rintro e w9 ⟨nv9, rfl, H9⟩
    obtain ⟨a1, a2, a3, a4, a5, a6, hq⟩ := (H9.out.choose_spec).1.shape
    replace hq : nv9 = .agg #[.int .i64 a1, .int .i64 a2, .string a3, .slice a4 a5 a6] := hq
    subst hq
    have K9 : Hid (Below w4.heap.size w4 w9) := (K8.out).trans ((H9.out.choose_spec).2.2.mono (K8.out).size)
    have HN9 : Hid (∃ E, IsN w9 E (.agg #[.int .i64 a1, .int .i64 a2, .string a3, .slice a4 a5 a6]) (X.file (X.xt (bs N)))) := ⟨_, (H9.out.choose_spec).1⟩
    have HV9 := hide ((HV8.out).below (H9.out.choose_spec).2.2)
    clear H9 K8 HV8
    go_wp2_with fail
    have kA : Below w9.heap.size w9 (w9.alloc (.cells #[.int .i64 a1, .int .i64 a2, .string a3, .slice a4 a5 a6] 26)) := (Below.refl _ w9).alloc (Nat.le_refl _) _
    have HBl9 : Hid ((w9.alloc (.cells #[.int .i64 a1, .int .i64 a2, .string a3, .slice a4 a5 a6] 26)).heap[w9.heap.size]? = some (.cells #[.int .i64 a1, .int .i64 a2, .string a3, .slice a4 a5 a6] 26 (0, 0))) := heap_alloc_new w9 _
    have K10 : Hid (Below w4.heap.size w4 (w9.alloc (.cells #[.int .i64 a1, .int .i64 a2, .string a3, .slice a4 a5 a6] 26))) := (K9.out).trans (kA.mono (K9.out).size)
    have HN10 : Hid (∃ E, IsN (w9.alloc (.cells #[.int .i64 a1, .int .i64 a2, .string a3, .slice a4 a5 a6] 26)) E (.agg #[.int .i64 a1, .int .i64 a2, .string a3, .slice a4 a5 a6]) (X.file (X.xt (bs N)))) := by
      obtain ⟨E, h⟩ := HN9.out
      exact ⟨E, h.kept (Kp.ofBelow kA (fun _ => False)) (fun _ h => h.elim)⟩
    have HV10 := hide ((HV9.out).below kA)
    clear kA K9 HN9 HV9
    generalize w9.alloc (.cells #[.int .i64 a1, .int .i64 a2, .string a3, .slice a4 a5 a6] 26) = w10 at *
    generalize w9.heap.size = x9 at *
    refine ((HRoot.out) b8 w10 (HV10.out).tr).mono ?_
    rintro e w11 ⟨nv11, rfl, H11⟩
    obtain ⟨b1, b2, b3, b4', b5, b6, hq⟩ := (H11.out.choose_spec).1.shape
    replace hq : nv11 = .agg #[.int .i64 b1, .int .i64 b2, .string b3, .slice b4' b5 b6] := hq
    subst hq
    have k11 := (H11.out.choose_spec).2.2
    have K11 : Hid (Below w4.heap.size w4 w11) := (K10.out).trans (k11.mono (K10.out).size)
    have HM11 : Hid (∃ E, IsN w11 E (.agg #[.int .i64 b1, .int .i64 b2, .string b3, .slice b4' b5 b6]) (X.file (X.xt (bs N)))) := ⟨_, (H11.out.choose_spec).1⟩
    have HN11 : Hid (∃ E, IsN w11 E (.agg #[.int .i64 a1, .int .i64 a2, .string a3, .slice a4 a5 a6]) (X.file (X.xt (bs N)))) := by
      obtain ⟨E, h⟩ := HN10.out
      exact ⟨E, h.kept (Kp.ofBelow k11 (fun _ => False)) (fun _ h => h.elim)⟩
    have HV11 := hide ((HV10.out).below k11)
    have HBl11 := hide ((Kp.ofBelow k11 (fun _ => False)).heap HBl9.out id)
    clear H11 K10 HV10 HN10 HBl9 k11
    go_wp2_with fail
    have kA : Below w11.heap.size w11 (w11.alloc (.cells #[.int .i64 b1, .int .i64 b2, .string b3, .slice b4' b5 b6] 26)) := (Below.refl _ w11).alloc (Nat.le_refl _) _
    have HBm : Hid ((w11.alloc (.cells #[.int .i64 b1, .int .i64 b2, .string b3, .slice b4' b5 b6] 26)).heap[w11.heap.size]? = some (.cells #[.int .i64 b1, .int .i64 b2, .string b3, .slice b4' b5 b6] 26 (0, 0))) := heap_alloc_new w11 _
    have HBl := hide ((Kp.ofBelow kA (fun _ => False)).heap HBl11.out id)
    have K12 : Hid (Below w4.heap.size w4 (w11.alloc (.cells #[.int .i64 b1, .int .i64 b2, .string b3, .slice b4' b5 b6] 26))) := (K11.out).trans (kA.mono (K11.out).size)
    have HN12 : Hid (∃ E E2, IsN (w11.alloc (.cells #[.int .i64 b1, .int .i64 b2, .string b3, .slice b4' b5 b6] 26)) E (.agg #[.int .i64 a1, .int .i64 a2, .string a3, .slice a4 a5 a6]) (X.file (X.xt (bs N))) ∧ IsN (w11.alloc (.cells #[.int .i64 b1, .int .i64 b2, .string b3, .slice b4' b5 b6] 26)) E2 (.agg #[.int .i64 b1, .int .i64 b2, .string b3, .slice b4' b5 b6]) (X.file (X.xt (bs N)))) := by
      obtain ⟨E, h⟩ := HN11.out
      obtain ⟨E2, h2⟩ := HM11.out
      exact ⟨E, E2, h.kept (Kp.ofBelow kA (fun _ => False)) (fun _ h => h.elim), h2.kept (Kp.ofBelow kA (fun _ => False)) (fun _ h => h.elim)⟩
    have HV12 := hide ((HV11.out).below kA)
    clear kA K11 HN11 HM11 HV11 HBl11 HRoot
    generalize w11.alloc (.cells #[.int .i64 b1, .int .i64 b2, .string b3, .slice b4' b5 b6] 26) = w12 at *
    generalize w11.heap.size = x11 at *
    refine (tnotes_any b4 N w12 ((HT4.out).below K12.out).tr (by omega)).mono ?_
    rintro e w13 ⟨pv, rfl, H13⟩
    have K13 : Hid (Below w12.heap.size w12 w13) := (H13.out).2
    have HP13 := hide (H13.out).1
    have HV13 := hide ((HV12.out).below K13.out)
    clear H13 HV12
    go_wp2_with fail
    refine (tnotes_any b8 N w13 (HV13.out).tr (by omega)).mono ?_
    rintro e w14 ⟨qv, rfl, H14⟩
    have k14 := (H14.out).2
    have K14 : Hid (Below w12.heap.size w12 w14) := (K13.out).trans (k14.mono (K13.out).size)
    obtain ⟨ao2, cap2, hq2, hc2, hr2⟩ := rows3 (H14.out).1
    obtain ⟨ao1, cap1, hq1, hc1, hr1⟩ := rows3 ((HP13.out).keep (Kp.ofBelow k14 (fun _ => False)) (fun _ h => h.elim))
    subst hq1
    subst hq2
    have HR1 := hide hr1
    have HR2 := hide hr2
    clear H14 hr1 hr2 k14 K13 HP13 HV13
    have hres1 := (Kp.ofBelow K14.out (fun _ => False)).heap HBl.out id
    have hres2 := (Kp.ofBelow K14.out (fun _ => False)).heap HBm.out id
    have m0 := cell_of_row w14 _ 0 _ _ _ hres1
    have m1 := cell_of_row w14 _ 1 _ _ _ hres1
    have m2 := cell_of_row w14 _ 2 _ _ _ hres1
    have m3 := cell_of_row w14 _ 3 _ _ _ hres1
    have o0 := cell_of_row w14 _ 0 _ _ _ hres2
    have o1 := cell_of_row w14 _ 1 _ _ _ hres2
    have o2 := cell_of_row w14 _ 2 _ _ _ hres2
    have o3 := cell_of_row w14 _ 3 _ _ _ hres2
    have HCall : Hid (Calls Tryz.prog 17 #[.agg #[.int .i64 a1, .int .i64 a2, .string a3, .slice a4 a5 a6], .agg #[.int .i64 b1, .int .i64 b2, .string b3, .slice b4' b5 b6]] w14 fun e w' => e = .returned (.bool true) ∧ Below w14.heap.size w14 w') := by
      obtain ⟨E, E2, h3, h4⟩ := HN12.out
      exact (HSm.out) E E2 _ _ w14 (h3.kept (Kp.ofBelow K14.out (fun _ => False)) (fun _ h => h.elim)) (h4.kept (Kp.ofBelow K14.out (fun _ => False)) (fun _ h => h.elim))
    clear hres1 hres2 HBl HBm HN12 HSm
    go_wp2_with fail
    refine (HCall.out).mono ?_
    rintro e w15 ⟨rfl, k15⟩
    have K15 := hide k15
    have K415 : Hid (Below w4.heap.size w4 w15) := (K12.out).trans (((K14.out).trans (k15.mono (K14.out).size)).mono (K12.out).size)
    clear k15 m0 m1 m2 m3 o0 o1 o2 o3 HCall K12 K14
    go_wp2_with fail
    refine (ttext_any b4 N w15 ((HT4.out).below K415.out).tr).mono ?_
    rintro e w16 ⟨rfl, k16⟩
    have K16 : Hid (Below w14.heap.size w14 w16) := (K15.out).trans (k16.mono (K15.out).size)
    have K416 : Hid (Below w4.heap.size w4 w16) := (K415.out).trans (k16.mono (K415.out).size)
    clear k16 K15 K415
    generalize hnt : X.nts (X.file (X.xt (bs N))) 0 = ns at *
    clear hnt
    have e3 : (N.toList != N.toList) = false := by simp
    have e4 : ((ns.length : Int) != (ns.length : Int)) = false := by simp
    go_wp2_with fail
    go_loopw [25] (fun v wx => ∃ j : Nat, v = .int .i64 j ∧ j ≤ ns.length ∧ Hid (Below w16.heap.size w16 wx)) (fun v _ => ns.length - (intOf v).toNat)
    case atStart => exact ⟨0, rfl, Nat.zero_le _, Below.refl _ _⟩
    case round =>
      obtain ⟨j, rfl, hj, HB⟩ := hrel
      by_cases hlt : j < ns.length
      case neg =>
        have i4 : decide (j < ns.length) = false := by simp; omega
        have i5 : decide ((j : Int) < (ns.length : Int)) = false := by simp; omega
        go_wp2_with fail
        have K4w : Below w4.heap.size w4 wr := (K416.out).trans ((HB.out).mono (K416.out).size)
        refine ⟨⟨k + 1, b4, N, by omega, by go_num, rfl, rfl, by rw [hNs]; omega, ⟨?_, ?_, ?_, ?_⟩⟩, by simp only [intOf]; omega⟩
        · exact (HT4.out).below K4w
        · have := K4w.size; omega
        · exact (K4.out).trans (K4w.mono (K4.out).size)
        · exact (Kp.ofBelow K4w (fun _ => False)).heap HR4.out id
      have i4 : decide (j < ns.length) = true := by simp; omega
      have i5 : decide ((j : Int) < (ns.length : Int)) = true := by simp; omega
      have hjn : ns[j]? = some ns[j] := List.getElem?_eq_getElem hlt
      obtain ⟨gp, rfl, q0, q1, q2⟩ := (HR1.out) j _ hjn
      obtain ⟨gq, rfl, r0, r1, r2⟩ := (HR2.out) j _ hjn
      have hkk := Kp.ofBelow ((K16.out).trans ((HB.out).mono (K16.out).size)) (fun _ => False)
      have y0 := hkk.cellv q0 id
      have y1 := hkk.cellv q1 id
      have y2 := hkk.cellv q2 id
      have z0 := hkk.cellv r0 id
      have z1 := hkk.cellv r1 id
      have z2 := hkk.cellv r2 id
      have hi1 : (0 : Int) ≤ (j : Int) := Int.natCast_nonneg _
      have hi2 : (j : Int) < (ns.length : Int) := by omega
      clear q0 q1 q2 r0 r1 r2 hkk hjn
      generalize ns[j].1 = n1 at *
      generalize ns[j].2.1 = n2 at *
      generalize ns[j].2.2 = n3 at *
      go_wp2_with fail
      go_quiet (fail)
      go_wp2_with fail
      exact ⟨⟨j + 1, by go_num, by omega, belowN HB.out _⟩, by simp only [intOf]; omega⟩
end Go.Proofs.YtkampoaceipngaaGreatDoor
