/- The law WireParses. -/
import Derived.Test.YthdbnafiindgbaaGreatDoorWpl
import Derived.Test.YthdbnafiindgbaaGreatDoorWkt
import Derived.Test.YthdbnafiindgbaaGreatDoorWld0
import Derived.Test.YthdbnafiindgbaaGreatDoorEra
namespace Go.Proofs.YthdbnafiindgbaaGreatDoor
open Go.RowKit
open Wi

set_option maxRecDepth 100000 in
set_option maxHeartbeats 4000000 in
theorem wireParses_any (s : ByteArray) (w : World) (hs : s.size ≤ 1048576) (hE : ErrT w) (hS : Es w) :
    Calls Tryz.prog 3 #[.string s] w fun e w' => e = .returned (.bool true) ∧ Below w.heap.size w w' := by
  have HPA := hide (oparse_any s w (by omega) hS)
  have HPD := hide (fun W => wparse_any s W (by omega))
  have HER := hide (fun (kk : Int) (W : World) (h : Below w.heap.size w W) => error_same kk W (hE.below h))
  clear hE hS
  go_enter Tryz.func3, Tryz.ntmps3
  go_wp2_with fail
  refine (HPA.out).mono ?_
  intro en w1 h1
  obtain ⟨k1, v1, v2, v3, u1, u2, u3, y1, y2, y3, at', k, j, rfl, hIA, hm⟩ := okM_form h1
  have HK1 := hide k1
  have HIA := hide hIA
  have HM := hide hm
  clear HPA h1 k1 hIA hm
  go_wp2_with fail
  have hN := heap_alloc_new w1 (.cells #[.int .i64 v1, .int .i64 v2, .string v3, .slice u1 u2 u3, .slice y1 y2 y3] 25)
  have k2 : Below w1.heap.size w1 (w1.alloc (.cells #[.int .i64 v1, .int .i64 v2, .string v3, .slice u1 u2 u3, .slice y1 y2 y3] 25)) := (Below.refl _ w1).alloc (Nat.le_refl _) _
  have HK2 := hide ((HK1.out).trans (k2.mono (HK1.out).size))
  have HIA2 := hide ((HIA.out).kept k2)
  clear k2 HIA HK1
  generalize w1.alloc (.cells #[.int .i64 v1, .int .i64 v2, .string v3, .slice u1 u2 u3, .slice y1 y2 y3] 25) = w2 at *
  generalize w1.heap.size = B at *
  refine ((HPD.out) w2).mono ?_
  rintro en w3 ⟨v, i, e, rfl, HC⟩
  obtain ⟨k3, hc⟩ := HC.out
  have HK3 := hide ((HK2.out).trans (k3.mono (HK2.out).size))
  have HIA3 := hide ((HIA2.out).kept k3)
  have hN3 := (Kp.ofBelow k3 (fun _ => False)).heap hN id
  have HN := hide hN3
  clear HK2 HIA2 hN HPD HC
  cases hp : parse (bs s) with
  | ok j' r =>
    have HM' := HM.out
    rw [hp] at hc HM'
    obtain ⟨rfl, rfl, hJ⟩ := hc
    obtain ⟨rfl, rfl, rfl⟩ := HM'
    obtain ⟨V, rfl⟩ := hJ.ptr
    have HJ := hide hJ
    have hwt : wt j ≤ 134217728 := by have := parse_wt hp; rw [bs_len] at this; omega
    clear hJ hp k3 HM
    have a0 := cell_blk hN3 (j := 0) rfl
    have a1 := cell_blk hN3 (j := 1) rfl
    have a2 := cell_blk hN3 (j := 2) rfl
    have a3 := cell_blk hN3 (j := 3) rfl
    have a4 := cell_blk hN3 (j := 4) rfl
    go_wp2_with fail
    refine ((HER.out) 0 _ HK3.out).mono ?_
    rintro en w4 ⟨rfl, k4⟩
    have q := Kp.ofBelow k4 (fun _ => False)
    have hN4 := q.heap HN.out id
    clear a0 a1 a2 a3 a4
    have a0 := cell_blk hN4 (j := 0) rfl
    have a1 := cell_blk hN4 (j := 1) rfl
    have a2 := cell_blk hN4 (j := 2) rfl
    have a3 := cell_blk hN4 (j := 3) rfl
    have a4 := cell_blk hN4 (j := 4) rfl
    have HSM := hide (wsame_any (wt j) hwt j _ _ _ w4 (Nat.le_refl _) ((HIA3.out).kept k4) ((HJ.out).kept k4))
    have HK4 := hide ((HK3.out).trans (k4.mono (HK3.out).size))
    clear q k4 HIA3 HJ
    go_wp2_with fail
    refine (HSM.out).mono ?_
    rintro en w5 ⟨rfl, k5⟩
    have HK5 := hide ((HK4.out).trans (k5.mono (HK4.out).size))
    clear k5
    go_wp2_with fail
    go_ret
    exact ⟨rfl, HK5.out⟩
  | bad en' n =>
    have HM' := HM.out
    rw [hp] at hc HM'
    obtain ⟨rfl, rfl, rfl, hne⟩ := hc
    obtain ⟨rfl, rfl, rfl⟩ := HM'
    have i1 : ((en' : Int) != 0) = true := by rw [bne_iff_ne]; omega
    have i2 : ¬ (en' : Int) = 0 := by omega
    clear hp k3 HM
    go_wp2_with fail
    refine ((HER.out) en' _ HK3.out).mono ?_
    rintro en w4 ⟨rfl, k4⟩
    have q := Kp.ofBelow k4 (fun _ => False)
    have hN4 := q.heap HN.out id
    have HK4 := hide ((HK3.out).trans (k4.mono (HK3.out).size))
    have HIA4 := hide ((HIA3.out).kept k4)
    have k5 : Below w4.heap.size w4 (w4.alloc (.cells #[.int .i64 0, .int .i64 0, .string ⟨#[]⟩, .slice none 0 0, .slice none 0 0] 36)) := (Below.refl _ w4).alloc (Nat.le_refl _) _
    have hJ : IsJ (w4.alloc (.cells #[.int .i64 0, .int .i64 0, .string ⟨#[]⟩, .slice none 0 0, .slice none 0 0] 36)) (fun _ => True) (.pointer (some ⟨w4.heap.size, 0, none⟩)) (.mk 0 0 [] [] []) := by
      refine .mk w4.heap.size 0 0 [] [] [] none none 0 0 (fun _ => undef) trivial (heap_alloc_new w4 _) ?_ ?_ ?_ ?_ ?_
      all_goals simp
    have HSM := hide (wsame_any 40 (by decide) _ _ _ _ _ (by rw [wt_zero]; exact Nat.le_refl _) ((HIA4.out).kept k5) hJ)
    have hN5 := (Kp.ofBelow k5 (fun _ => False)).heap hN4 id
    have HK5 := hide ((HK4.out).trans (k5.mono (HK4.out).size))
    have a0 := cell_blk hN5 (j := 0) rfl
    have a1 := cell_blk hN5 (j := 1) rfl
    have a2 := cell_blk hN5 (j := 2) rfl
    have a3 := cell_blk hN5 (j := 3) rfl
    have a4 := cell_blk hN5 (j := 4) rfl
    clear q k4 HIA3 HIA4 k5 hJ
    go_wp2_with fail
    refine (HSM.out).mono ?_
    rintro en w5 ⟨rfl, k6⟩
    have HK6 := hide ((HK5.out).trans (k6.mono (HK5.out).size))
    clear k6
    go_wp2_with fail
    go_ret
    exact ⟨rfl, HK6.out⟩
end Go.Proofs.YthdbnafiindgbaaGreatDoor
