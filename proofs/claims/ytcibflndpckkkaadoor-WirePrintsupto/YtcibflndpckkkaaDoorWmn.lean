/- The law WirePrints. -/
import Derived.Test.YtcibflndpckkkaaDoorWml
import Derived.Test.YtcibflndpckkkaaDoorWlb
import Derived.Test.YtcibflndpckkkaaDoorWle
import Derived.Test.YtcibflndpckkkaaDoorErb
namespace Go.Proofs.YtcibflndpckkkaaDoor
open Go.RowKit
open Wi

theorem prG_prV (r : Except Nat (List UInt8)) (hr : ∀ x, r = .error x → x ≠ 0) : ∃ (k : Int) (s : List UInt8), prG r = .tuple #[.string (ba s), errV k] ∧ prV r = .tuple #[.string (ba s), .int .i64 k] := by
  cases r with
  | ok s => exact ⟨0, s, rfl, rfl⟩
  | error x =>
    refine ⟨x, [], ?_, rfl⟩
    have : ¬ ((x : Int) = 0) := by have := hr x rfl; omega
    unfold prG errV
    rw [if_neg this]; rfl
set_option maxRecDepth 100000 in
set_option maxHeartbeats 4000000 in
theorem wirePrints_any (j : J) (va : Value) (w : World) (hE : ErrT w) (hT : Tb w) (hIA : IsA w va j) (hl : wt j ≤ 134217728) :
    Calls Tryd.prog 3 #[va] w fun e w' => e = .returned (.bool true) ∧ Below w.heap.size w w' := by
  obtain ⟨k, n, t, kv, rv, rfl, ⟨u1, u2, u3, rfl⟩, ⟨v1, v2, v3, rfl⟩⟩ := hIA.shape
  obtain ⟨kk, s, hg, hv⟩ := prG_prV (pr 40 j) (pr_err 40 j)
  have HP := hide (fun (W : World) (h : Below w.heap.size w W) => printP_any j _ W (hT.below h) (hIA.kept h) hl)
  rw [hg] at HP
  have hw0 : 0 < w.heap.size := Nat.lt_of_le_of_lt (Nat.zero_le _) hE.2
  have HJ := hide (fun (W : World) (h : Below w.heap.size w W) => wjson_any (wt j) hl j _ W (Nat.le_refl _) (Nat.lt_of_lt_of_le hw0 h.size) (hIA.kept h))
  have HD := hide (wprint_any 40 (Nat.le_refl _))
  have HER := hide (fun (W : World) (h : Below w.heap.size w W) => error_same kk W (hE.below h))
  have HV := hide hv
  have k1 : Below w.heap.size w (w.alloc (.cells #[.int .i64 k, .int .i64 n, .string t, .slice u1 u2 u3, .slice v1 v2 v3] 25)) := (Below.refl _ w).alloc (Nat.le_refl _) _
  have hN := heap_alloc_new w (.cells #[.int .i64 k, .int .i64 n, .string t, .slice u1 u2 u3, .slice v1 v2 v3] 25)
  have HL := hide hl
  clear hE hT hIA hg hv hl
  go_enter Tryd.func3, Tryd.ntmps3
  go_upto_region 1 with fail
  generalize w.alloc (.cells #[.int .i64 k, .int .i64 n, .string t, .slice u1 u2 u3, .slice v1 v2 v3] 25) = w1 at *
  have HK1 := hide k1
  clear k1
  generalize hC : w.heap.size = C at hN ⊢
  have HC := hide hC
  clear hC
  have a0 := cell_blk hN (j := 0) rfl
  have a1 := cell_blk hN (j := 1) rfl
  have a2 := cell_blk hN (j := 2) rfl
  have a3 := cell_blk hN (j := 3) rfl
  have a4 := cell_blk hN (j := 4) rfl
  go_wp2_with fail
  refine ((HP.out) _ HK1.out).mono ?_
  rintro en w2 ⟨rfl, k2⟩
  have q := Kp.ofBelow k2 (fun _ => False)
  have hN2 := q.heap hN id
  have HK2 := hide ((HK1.out).trans (k2.mono (HK1.out).size))
  clear a0 a1 a2 a3 a4 hN q k2
  have a0 := cell_blk hN2 (j := 0) rfl
  have a1 := cell_blk hN2 (j := 1) rfl
  have a2 := cell_blk hN2 (j := 2) rfl
  have a3 := cell_blk hN2 (j := 3) rfl
  have a4 := cell_blk hN2 (j := 4) rfl
  go_wp2_with fail
  refine ((HJ.out) _ HK2.out).mono ?_
  rintro en w3 ⟨v, rfl, HJ3, k3⟩
  have HK3 := hide ((HK2.out).trans (k3.mono (HK2.out).size))
  obtain ⟨V, rfl⟩ := (HJ3.out).ptr
  have HP3 := hide ((HD.out) w3 _ _ j HJ3.out HL.out)
  rw [show (40 : Int) - ((40 : Nat) : Int) = 0 by decide, HV.out] at HP3
  clear a0 a1 a2 a3 a4 hN2 k3 HJ HP HJ3
  go_wp2_with fail
  refine (HP3.out).mono ?_
  rintro en w4 ⟨rfl, k4⟩
  have HK4 := hide ((HK3.out).trans (k4.mono (HK3.out).size))
  clear k4
  go_wp2_with fail
  refine ((HER.out) _ HK4.out).mono ?_
  rintro en w5 ⟨rfl, k5⟩
  have HK5 := hide ((HK4.out).trans (k5.mono (HK4.out).size))
  have hss : ((ba s).toList == (ba s).toList) = true := by simp
  clear k5
  go_wp2_with fail
  go_ret
  exact ⟨rfl, HK5.out⟩
end Go.Proofs.YtcibflndpckkkaaDoor
