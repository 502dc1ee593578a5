/- The law WireBack. -/
import Derived.Test.YthdbnafiindgbaaDoorWpl
import Derived.Test.YthdbnafiindgbaaDoorWpj
import Derived.Test.YthdbnafiindgbaaDoorWmk
import Derived.Test.YthdbnafiindgbaaDoorWjc
namespace Go.Proofs.YthdbnafiindgbaaDoor
open Go.RowKit
open Wi

set_option maxRecDepth 100000 in
set_option maxHeartbeats 8000000 in
theorem wireBack_bad (j : J) (va : Value) (x : ByteArray) (w : World) (hT : Tb w) (hS : Es w) (hIA : IsA w va j) (hl : wt j ≤ 134217728) (hs : x.size ≤ 1048576) (e : Nat) (HR : pr 40 j = .error e) :
    Calls Tryd.prog 4 #[va, .string x] w fun e w' => e = .returned (.bool true) ∧ Below w.heap.size w w' := by
  obtain ⟨v1, v2, v3, kv, rv, rfl, ⟨vu1, vu2, vu3, rfl⟩, ⟨vy1, vy2, vy3, rfl⟩⟩ := hIA.shape
  have HP := hide (fun (W : World) (h : Below w.heap.size w W) => printP_any j _ W (hT.below h) (hIA.kept h) hl)
  have HPA := hide (fun (W : World) (h : Below w.heap.size w W) => oparse_any x W (by omega) (hS.below h))
  have HT := hide hT
  have HS := hide hS
  rw [HR] at HP
  have k1 : Below w.heap.size w (w.alloc (.cells #[.int .i64 v1, .int .i64 v2, .string v3, .slice vu1 vu2 vu3, .slice vy1 vy2 vy3] 25)) := (Below.refl _ w).alloc (Nat.le_refl _) _
  have hN := heap_alloc_new w (.cells #[.int .i64 v1, .int .i64 v2, .string v3, .slice vu1 vu2 vu3, .slice vy1 vy2 vy3] 25)
  have HIA := hide hIA
  clear hT hS hIA
  go_enter Tryd.func4, Tryd.ntmps4
  go_upto_region 1 with fail
  have HK1 := hide k1
  clear k1
  generalize hC : w.heap.size = C at hN ⊢
  have HCC := hide hC
  clear hC
  generalize w.alloc (.cells #[.int .i64 v1, .int .i64 v2, .string v3, .slice vu1 vu2 vu3, .slice vy1 vy2 vy3] 25) = w1 at *
  have a0 := cell_blk hN (j := 0) rfl
  have a1 := cell_blk hN (j := 1) rfl
  have a2 := cell_blk hN (j := 2) rfl
  have a3 := cell_blk hN (j := 3) rfl
  have a4 := cell_blk hN (j := 4) rfl
  go_wp2_with fail
  refine ((HP.out) _ HK1.out).mono ?_
  rintro en w2 ⟨rfl, k2⟩
  have HK2 := hide ((HK1.out).trans (k2.mono (HK1.out).size))
  have hN2 := (Kp.ofBelow k2 (fun _ => False)).heap hN id
  clear a0 a1 a2 a3 a4 k2 hN HP HK1
  clear HIA hN2
  have HK := HK2
  clear HK2
  unfold prG
  simp only
  go_wp2_with fail
  refine ((HPA.out) _ HK.out).mono ?_
  intro en wa ha
  obtain ⟨ka, c1, c2, c3, cu1, cu2, cu3, cy1, cy2, cy3, ata, kka, ja, rfl, hIAa, hma⟩ := okM_form ha
  have HKa := hide ((HK.out).trans (ka.mono (HK.out).size))
  clear ha ka HK
  cases hp : parse (bs x) with
  | bad e n =>
    rw [hp] at hma
    obtain ⟨-, rfl, rfl⟩ := hma
    have he := (parse_err hp).2
    rw [show errV (e : Int) = .iface 64 (.int .i64 e) by unfold errV; rw [if_neg (by omega)]]
    clear hp hIAa
    go_wp2_with fail
    go_ret
    exact ⟨rfl, (HKa.out).alloc (HKa.out).size _⟩
  | ok j' r =>
    rw [hp] at hma
    obtain ⟨rfl, rfl, rfl⟩ := hma
    have hwt : wt ja ≤ 134217728 := by have := parse_wt hp; rw [bs_len] at this; omega
    obtain ⟨T, hT'⟩ := parse_writes hp
    have hTl := pr_len 40 ja T hT'
    rw [show errV 0 = .nilIface from rfl]
    have hN := heap_alloc_new wa (.cells #[.int .i64 c1, .int .i64 c2, .string c3, .slice cu1 cu2 cu3, .slice cy1 cy2 cy3] 25)
    have kN : Below wa.heap.size wa (wa.alloc (.cells #[.int .i64 c1, .int .i64 c2, .string c3, .slice cu1 cu2 cu3, .slice cy1 cy2 cy3] 25)) := (Below.refl _ wa).alloc (Nat.le_refl _) _
    have HKb := hide ((HKa.out).trans (kN.mono (HKa.out).size))
    have HIb := hide (hIAa.kept kN)
    clear hp kN hIAa HKa
    have HPR := hide (fun (W : World) (h : Below w.heap.size w W) (h' : IsA W (.agg #[.int .i64 c1, .int .i64 c2, .string c3, .slice cu1 cu2 cu3, .slice cy1 cy2 cy3]) ja) => printP_any ja _ W ((HT.out).below h) h' hwt)
    rw [hT', show prG (.ok T) = .tuple #[.string (ba T), .nilIface] from rfl] at HPR
    have hsz : (ba T).size = T.length := ba_size T
    have HPB := hide (fun (W : World) (h : Below w.heap.size w W) => oparse_any (ba T) W (by rw [hsz]; omega) ((HS.out).below h))
    have hpp := parse_pr hT'
    have a0 := cell_blk hN (j := 0) rfl
    have a1 := cell_blk hN (j := 1) rfl
    have a2 := cell_blk hN (j := 2) rfl
    have a3 := cell_blk hN (j := 3) rfl
    have a4 := cell_blk hN (j := 4) rfl
    go_wp2_with fail
    refine ((HPR.out) _ HKb.out HIb.out).mono ?_
    rintro en wc ⟨rfl, kc⟩
    have HKc := hide ((HKb.out).trans (kc.mono (HKb.out).size))
    have HIc := hide ((HIb.out).kept kc)
    have hNc := (Kp.ofBelow kc (fun _ => False)).heap hN id
    clear a0 a1 a2 a3 a4 kc hN HKb HIb
    go_wp2_with fail
    refine ((HPB.out) _ HKc.out).mono ?_
    intro en wd hd
    obtain ⟨kd, d1, d2, d3, du1, du2, du3, dy1, dy2, dy3, atd, kkd, jd, rfl, hId, hmd⟩ := okM_form hd
    rw [bs_ba, hpp] at hmd
    obtain ⟨rfl, rfl, rfl⟩ := hmd
    rw [show errV 0 = .nilIface from rfl]
    have hNd := (Kp.ofBelow kd (fun _ => False)).heap hNc id
    have HKd := hide ((HKc.out).trans (kd.mono (HKc.out).size))
    have HId0 := (HIc.out).kept kd
    have kE : Below wd.heap.size wd (wd.alloc (.cells #[.int .i64 d1, .int .i64 d2, .string d3, .slice du1 du2 du3, .slice dy1 dy2 dy3] 25)) := (Below.refl _ wd).alloc (Nat.le_refl _) _
    have hNe := (Kp.ofBelow kE (fun _ => False)).heap hNd id
    have hM := heap_alloc_new wd (.cells #[.int .i64 d1, .int .i64 d2, .string d3, .slice du1 du2 du3, .slice dy1 dy2 dy3] 25)
    have HSM := hide (same_any (wt jd) hwt jd _ _ _ (Nat.le_refl _) (HId0.kept kE) (hId.kept kE))
    have HKe := hide ((HKd.out).trans (kE.mono (HKd.out).size))
    clear hd kd hNc hNd HKc HKd HId0 kE hId HIc
    have a0 := cell_blk hNe (j := 0) rfl
    have a1 := cell_blk hNe (j := 1) rfl
    have a2 := cell_blk hNe (j := 2) rfl
    have a3 := cell_blk hNe (j := 3) rfl
    have a4 := cell_blk hNe (j := 4) rfl
    have b0 := cell_blk hM (j := 0) rfl
    have b1 := cell_blk hM (j := 1) rfl
    have b2 := cell_blk hM (j := 2) rfl
    have b3 := cell_blk hM (j := 3) rfl
    have b4 := cell_blk hM (j := 4) rfl
    go_wp2_with fail
    refine (HSM.out).mono ?_
    rintro en wf ⟨rfl, kf⟩
    have HKf := hide ((HKe.out).trans (kf.mono (HKe.out).size))
    clear kf
    go_wp2_with fail
    go_ret
    exact ⟨rfl, HKf.out⟩
set_option maxRecDepth 100000 in
set_option maxHeartbeats 8000000 in
theorem wireBack_ok (j : J) (va : Value) (x : ByteArray) (w : World) (hT : Tb w) (hS : Es w) (hIA : IsA w va j) (hl : wt j ≤ 134217728) (hs : x.size ≤ 1048576) (S : List UInt8) (HR : pr 40 j = .ok S) :
    Calls Tryd.prog 4 #[va, .string x] w fun e w' => e = .returned (.bool true) ∧ Below w.heap.size w w' := by
  obtain ⟨v1, v2, v3, kv, rv, rfl, ⟨vu1, vu2, vu3, rfl⟩, ⟨vy1, vy2, vy3, rfl⟩⟩ := hIA.shape
  have HP := hide (fun (W : World) (h : Below w.heap.size w W) => printP_any j _ W (hT.below h) (hIA.kept h) hl)
  have HPA := hide (fun (W : World) (h : Below w.heap.size w W) => oparse_any x W (by omega) (hS.below h))
  have HT := hide hT
  have HS := hide hS
  rw [HR] at HP
  have k1 : Below w.heap.size w (w.alloc (.cells #[.int .i64 v1, .int .i64 v2, .string v3, .slice vu1 vu2 vu3, .slice vy1 vy2 vy3] 25)) := (Below.refl _ w).alloc (Nat.le_refl _) _
  have hN := heap_alloc_new w (.cells #[.int .i64 v1, .int .i64 v2, .string v3, .slice vu1 vu2 vu3, .slice vy1 vy2 vy3] 25)
  have HIA := hide hIA
  clear hT hS hIA
  go_enter Tryd.func4, Tryd.ntmps4
  go_upto_region 1 with fail
  have HK1 := hide k1
  clear k1
  generalize hC : w.heap.size = C at hN ⊢
  have HCC := hide hC
  clear hC
  generalize w.alloc (.cells #[.int .i64 v1, .int .i64 v2, .string v3, .slice vu1 vu2 vu3, .slice vy1 vy2 vy3] 25) = w1 at *
  have a0 := cell_blk hN (j := 0) rfl
  have a1 := cell_blk hN (j := 1) rfl
  have a2 := cell_blk hN (j := 2) rfl
  have a3 := cell_blk hN (j := 3) rfl
  have a4 := cell_blk hN (j := 4) rfl
  go_wp2_with fail
  refine ((HP.out) _ HK1.out).mono ?_
  rintro en w2 ⟨rfl, k2⟩
  have HK2 := hide ((HK1.out).trans (k2.mono (HK1.out).size))
  have hN2 := (Kp.ofBelow k2 (fun _ => False)).heap hN id
  clear a0 a1 a2 a3 a4 k2 hN HP HK1
  unfold prG
  simp only
  have hSl := pr_len 40 j S HR
  have hsz0 : (ba S).size = S.length := ba_size S
  have HPB0 := hide (fun (W : World) (h : Below w.heap.size w W) => oparse_any (ba S) W (by rw [hsz0]; omega) ((HS.out).below h))
  have hpp0 := parse_pr HR
  go_wp2_with fail
  refine ((HPB0.out) _ HK2.out).mono ?_
  intro en w3 h3
  obtain ⟨k3, b1, b2, b3, bu1, bu2, bu3, by1, by2, by3, atb, kkb, jb, rfl, hIb, hmb⟩ := okM_form h3
  rw [bs_ba, hpp0] at hmb
  obtain ⟨rfl, rfl, rfl⟩ := hmb
  rw [show errV 0 = .nilIface from rfl]
  have HK3 := hide ((HK2.out).trans (k3.mono (HK2.out).size))
  have hN3 := (Kp.ofBelow k3 (fun _ => False)).heap hN2 id
  have k4 : Below w3.heap.size w3 (w3.alloc (.cells #[.int .i64 b1, .int .i64 b2, .string b3, .slice bu1 bu2 bu3, .slice by1 by2 by3] 25)) := (Below.refl _ w3).alloc (Nat.le_refl _) _
  have hN4 := (Kp.ofBelow k4 (fun _ => False)).heap hN3 id
  have hM4 := heap_alloc_new w3 (.cells #[.int .i64 b1, .int .i64 b2, .string b3, .slice bu1 bu2 bu3, .slice by1 by2 by3] 25)
  have HK4 := hide ((HK3.out).trans (k4.mono (HK3.out).size))
  have HSM0 := hide (same_any (wt jb) hl jb _ _ _ (Nat.le_refl _) ((HIA.out).kept HK4.out) (hIb.kept k4))
  clear h3 k3 HK2 HK3 hN2 hN3 k4 hIb HIA
  have a0 := cell_blk hN4 (j := 0) rfl
  have a1 := cell_blk hN4 (j := 1) rfl
  have a2 := cell_blk hN4 (j := 2) rfl
  have a3 := cell_blk hN4 (j := 3) rfl
  have a4 := cell_blk hN4 (j := 4) rfl
  have e0 := cell_blk hM4 (j := 0) rfl
  have e1 := cell_blk hM4 (j := 1) rfl
  have e2 := cell_blk hM4 (j := 2) rfl
  have e3 := cell_blk hM4 (j := 3) rfl
  have e4 := cell_blk hM4 (j := 4) rfl
  go_wp2_with fail
  refine (HSM0.out).mono ?_
  rintro en w5 ⟨rfl, k5⟩
  have HK := hide ((HK4.out).trans (k5.mono (HK4.out).size))
  clear a0 a1 a2 a3 a4 e0 e1 e2 e3 e4 k5 HK4 hN4 hM4 HSM0 HPB0
  go_wp2_with fail
  refine ((HPA.out) _ HK.out).mono ?_
  intro en wa ha
  obtain ⟨ka, c1, c2, c3, cu1, cu2, cu3, cy1, cy2, cy3, ata, kka, ja, rfl, hIAa, hma⟩ := okM_form ha
  have HKa := hide ((HK.out).trans (ka.mono (HK.out).size))
  clear ha ka HK
  cases hp : parse (bs x) with
  | bad e n =>
    rw [hp] at hma
    obtain ⟨-, rfl, rfl⟩ := hma
    have he := (parse_err hp).2
    rw [show errV (e : Int) = .iface 64 (.int .i64 e) by unfold errV; rw [if_neg (by omega)]]
    clear hp hIAa
    go_wp2_with fail
    go_ret
    exact ⟨rfl, (HKa.out).alloc (HKa.out).size _⟩
  | ok j' r =>
    rw [hp] at hma
    obtain ⟨rfl, rfl, rfl⟩ := hma
    have hwt : wt ja ≤ 134217728 := by have := parse_wt hp; rw [bs_len] at this; omega
    obtain ⟨T, hT'⟩ := parse_writes hp
    have hTl := pr_len 40 ja T hT'
    rw [show errV 0 = .nilIface from rfl]
    have hN := heap_alloc_new wa (.cells #[.int .i64 c1, .int .i64 c2, .string c3, .slice cu1 cu2 cu3, .slice cy1 cy2 cy3] 25)
    have kN : Below wa.heap.size wa (wa.alloc (.cells #[.int .i64 c1, .int .i64 c2, .string c3, .slice cu1 cu2 cu3, .slice cy1 cy2 cy3] 25)) := (Below.refl _ wa).alloc (Nat.le_refl _) _
    have HKb := hide ((HKa.out).trans (kN.mono (HKa.out).size))
    have HIb := hide (hIAa.kept kN)
    clear hp kN hIAa HKa
    have HPR := hide (fun (W : World) (h : Below w.heap.size w W) (h' : IsA W (.agg #[.int .i64 c1, .int .i64 c2, .string c3, .slice cu1 cu2 cu3, .slice cy1 cy2 cy3]) ja) => printP_any ja _ W ((HT.out).below h) h' hwt)
    rw [hT', show prG (.ok T) = .tuple #[.string (ba T), .nilIface] from rfl] at HPR
    have hsz : (ba T).size = T.length := ba_size T
    have HPB := hide (fun (W : World) (h : Below w.heap.size w W) => oparse_any (ba T) W (by rw [hsz]; omega) ((HS.out).below h))
    have hpp := parse_pr hT'
    have a0 := cell_blk hN (j := 0) rfl
    have a1 := cell_blk hN (j := 1) rfl
    have a2 := cell_blk hN (j := 2) rfl
    have a3 := cell_blk hN (j := 3) rfl
    have a4 := cell_blk hN (j := 4) rfl
    go_wp2_with fail
    refine ((HPR.out) _ HKb.out HIb.out).mono ?_
    rintro en wc ⟨rfl, kc⟩
    have HKc := hide ((HKb.out).trans (kc.mono (HKb.out).size))
    have HIc := hide ((HIb.out).kept kc)
    have hNc := (Kp.ofBelow kc (fun _ => False)).heap hN id
    clear a0 a1 a2 a3 a4 kc hN HKb HIb
    go_wp2_with fail
    refine ((HPB.out) _ HKc.out).mono ?_
    intro en wd hd
    obtain ⟨kd, d1, d2, d3, du1, du2, du3, dy1, dy2, dy3, atd, kkd, jd, rfl, hId, hmd⟩ := okM_form hd
    rw [bs_ba, hpp] at hmd
    obtain ⟨rfl, rfl, rfl⟩ := hmd
    rw [show errV 0 = .nilIface from rfl]
    have hNd := (Kp.ofBelow kd (fun _ => False)).heap hNc id
    have HKd := hide ((HKc.out).trans (kd.mono (HKc.out).size))
    have HId0 := (HIc.out).kept kd
    have kE : Below wd.heap.size wd (wd.alloc (.cells #[.int .i64 d1, .int .i64 d2, .string d3, .slice du1 du2 du3, .slice dy1 dy2 dy3] 25)) := (Below.refl _ wd).alloc (Nat.le_refl _) _
    have hNe := (Kp.ofBelow kE (fun _ => False)).heap hNd id
    have hM := heap_alloc_new wd (.cells #[.int .i64 d1, .int .i64 d2, .string d3, .slice du1 du2 du3, .slice dy1 dy2 dy3] 25)
    have HSM := hide (same_any (wt jd) hwt jd _ _ _ (Nat.le_refl _) (HId0.kept kE) (hId.kept kE))
    have HKe := hide ((HKd.out).trans (kE.mono (HKd.out).size))
    clear hd kd hNc hNd HKc HKd HId0 kE hId HIc
    have a0 := cell_blk hNe (j := 0) rfl
    have a1 := cell_blk hNe (j := 1) rfl
    have a2 := cell_blk hNe (j := 2) rfl
    have a3 := cell_blk hNe (j := 3) rfl
    have a4 := cell_blk hNe (j := 4) rfl
    have b0 := cell_blk hM (j := 0) rfl
    have b1 := cell_blk hM (j := 1) rfl
    have b2 := cell_blk hM (j := 2) rfl
    have b3 := cell_blk hM (j := 3) rfl
    have b4 := cell_blk hM (j := 4) rfl
    go_wp2_with fail
    refine (HSM.out).mono ?_
    rintro en wf ⟨rfl, kf⟩
    have HKf := hide ((HKe.out).trans (kf.mono (HKe.out).size))
    clear kf
    go_wp2_with fail
    go_ret
    exact ⟨rfl, HKf.out⟩
theorem wireBack_any (j : J) (va : Value) (x : ByteArray) (w : World) (hT : Tb w) (hS : Es w) (hIA : IsA w va j) (hl : wt j ≤ 134217728) (hs : x.size ≤ 1048576) :
    Calls Tryd.prog 4 #[va, .string x] w fun e w' => e = .returned (.bool true) ∧ Below w.heap.size w w' := by
  cases hr : pr 40 j with
  | error e => exact wireBack_bad j va x w hT hS hIA hl hs e hr
  | ok S => exact wireBack_ok j va x w hT hS hIA hl hs S hr
end Go.Proofs.YthdbnafiindgbaaDoor
