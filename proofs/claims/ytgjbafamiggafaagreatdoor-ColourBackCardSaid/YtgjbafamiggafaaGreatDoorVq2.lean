/- Package syntax: where an expression stands; an expression, of whatever kind. -/
import Derived.Test.YtgjbafamiggafaaGreatDoorVq
import Derived.Test.YtgjbafamiggafaaGreatDoorVb
namespace Go.Proofs.YtgjbafamiggafaaGreatDoor
open Go.RowKit
open M
/-- A result that lies in a block of an extent's size. -/
theorem res_ext {fn : Func} {t : Tmp} (h : fn.results = #[.cell t 190]) (tmps : Array Value) (W : World) {b : Nat} {a1 a2 : Int} {a3 : Bool} (ht : tmps[t]?.getD undef = .pointer (some ⟨b, 0, none⟩)) (hb : W.heap[b]? = some (.cells #[.int .i64 a1, .int .i64 a2, .bool a3] 190 (0, 0))) :
    (results fn tmps).run Tryz.prog W = .ok (.agg #[.int .i64 a1, .int .i64 a2, .bool a3]) W := by
  have m0 := cell_of_row W _ 0 _ _ _ hb
  have m1 := cell_of_row W _ 1 _ _ _ hb
  have m2 := cell_of_row W _ 2 _ _ _ hb
  simp [results, h, go_sem, ht, m0, m1, m2]
theorem set3_own {W : World} {b : Nat} {x0 x1 x2 y0 y1 y2 : Value} {t : TypeId} (h : W.heap[b]? = some (.cells #[y0, y1, y2] t (0, 0))) : (((W.setCell ⟨b, 0, none⟩ x0).setCell ⟨b, 1, none⟩ x1).setCell ⟨b, 2, none⟩ x2).heap[b]? = some (.cells #[x0, x1, x2] t (0, 0)) := by
  simp [World.setCell, Array.getElem?_modify, h]
theorem below_set3 {w W : World} (h : Below w.heap.size w W) {b : Nat} (hb : w.heap.size ≤ b) (x0 x1 x2 : Value) : Below w.heap.size w (((W.setCell ⟨b, 0, none⟩ x0).setCell ⟨b, 1, none⟩ x1).setCell ⟨b, 2, none⟩ x2) := by
  have hk : Kp (fun q => q = b) W (((W.setCell ⟨b, 0, none⟩ x0).setCell ⟨b, 1, none⟩ x1).setCell ⟨b, 2, none⟩ x2) := On.set (On.set (On.set (Kp.refl _ W) 0 _) 1 _) 2 _
  exact h.trans (hk.below h.size (fun k e => by omega))
set_option maxRecDepth 100000 in
set_option maxHeartbeats 2000000 in
theorem psince_any (D : Nat → Prop) (ab i t : Nat) (gz : Int) (w : World) (h : Psd w D ab i) (ht : t ≤ nbg ab w) :
    Calls Tryz.prog 91 #[.pointer (some ⟨ab, 0, none⟩), .int .i64 t, .int .i64 gz] w fun e w' => ∃ (a1 a2 : Int) (a3 : Bool), e = .returned (.agg #[.int .i64 a1, .int .i64 a2, .bool a3]) ∧ Below w.heap.size w w' := by
  obtain ⟨bv, bl, en, gp, hp, ho, hl, -⟩ := h.ex
  obtain ⟨bo, bc, rfl, hbm⟩ := owns_slice ho
  rw [nbg_of hp] at ht
  have hal := heap_lt hp
  have kA : Below w.heap.size w (w.alloc (.cells #[.int .i64 0, .int .i64 0, .bool false] 190)) := (Below.refl _ w).alloc (Nat.le_refl _) _
  have hZ := heap_alloc_new w (.cells #[.int .i64 0, .int .i64 0, .bool false] 190)
  have HKA := hide kA
  have hp1 := (Kp.ofBelow kA (fun _ => False)).heap hp id
  have ho1 := (Kp.ofBelow kA (fun _ => False)).owns ho (fun _ _ => id)
  clear h hp ho kA
  go_enter Tryz.func91, Tryz.ntmps91
  go_upto_region 1 with fail
  generalize w.alloc (.cells #[.int .i64 0, .int .i64 0, .bool false] 190) = W at *
  have c1 := cell_of_row W _ 1 _ _ _ hp1
  have c2 := cell_of_row W _ 2 _ _ _ hp1
  have c3 := cell_of_row W _ 3 _ _ _ hp1
  have e0 : W.cell? ⟨w.heap.size, 0, none⟩ = some (.int .i64 0) := cell_of_row W _ 0 _ _ _ hZ
  have e1 : W.cell? ⟨w.heap.size, 1, none⟩ = some (.int .i64 0) := cell_of_row W _ 1 _ _ _ hZ
  have e2 : W.cell? ⟨w.heap.size, 2, none⟩ = some (.bool false) := cell_of_row W _ 2 _ _ _ hZ
  have q0 := frzB hZ 0
  have q1 := frzB hZ 1
  have q2 := frzB hZ 2
  have HZ := hide hZ
  clear hp1 hZ
  by_cases he : bl.length = t
  · subst he
    clear ho1 ht
    go_wp2_with fail
    exact bodyPost_ret (res_ext rfl _ _ (b := w.heap.size) rfl (set3_own HZ.out)) rfl ⟨_, _, _, rfl, below_set3 HKA.out (Nat.le_refl _) _ _ _⟩
  · have i1 : ((bl.length : Int) == (t : Int)) = false := by simp; omega
    have hlt : t < bl.length := by omega
    have hlt2 : (t : Int) < (bl.length : Int) := by omega
    obtain ⟨b, hb⟩ : ∃ b, bl[t]? = some b := ⟨_, List.getElem?_eq_getElem hlt⟩
    have hbo : ∃ g, bo = some ⟨g, 0, none⟩ ∧ W.cell? ⟨g, t, none⟩ = some (.int .i64 b) := by
      have hc := fun g hg => ho1.cells (g := g) hg
      rcases ho1.2 with ⟨e, h0⟩ | ⟨g, cap, cur, e, -⟩
      · omega
      · injection e with e1 e2 e3
        subst e1
        refine ⟨g, rfl, ?_⟩
        have := hc g rfl t (.int .i64 b) (by rw [List.getElem?_map, hb]; rfl)
        rwa [Addr.add_lit, Nat.zero_add] at this
    obtain ⟨g, rfl, hcg⟩ := hbo
    clear ho1 hb
    go_wp2_with fail
    go_region
    go_wp2_with fail
    have kD : Below w.heap.size w W.drew := (HKA.out).trans ((Below.refl _ W).drew.mono (HKA.out).size)
    exact bodyPost_ret (res_ext rfl _ _ (b := w.heap.size) rfl (set3_own (show W.drew.heap[w.heap.size]? = _ from HZ.out))) rfl ⟨_, _, _, rfl, below_set3 kD (Nat.le_refl _) _ _ _⟩
set_option maxRecDepth 100000 in
set_option maxHeartbeats 2000000 in
theorem xstand_any (b : Nat) (m n m' n' : Int) (z z' : Bool) (r : List Value) (T : TypeId) (w : World) (hb : w.heap[b]? = some (.cells (List.toArray (.int .i64 m :: .int .i64 n :: .bool z :: r)) T (0, 0))) :
    Calls Tryz.prog 177 #[.pointer (some ⟨b, 0, none⟩), .agg #[.int .i64 m', .int .i64 n', .bool z']] w fun e w' => e = .returned (.tuple #[]) ∧ Below (((w.setCell ⟨b, 0, none⟩ (.int .i64 m')).setCell ⟨b, 1, none⟩ (.int .i64 n')).setCell ⟨b, 2, none⟩ (.bool z')).heap.size (((w.setCell ⟨b, 0, none⟩ (.int .i64 m')).setCell ⟨b, 1, none⟩ (.int .i64 n')).setCell ⟨b, 2, none⟩ (.bool z')) w' := by
  have c0 : w.cell? ⟨b, 0, none⟩ = some (.int .i64 m) := cell_of_row w _ 0 _ _ _ hb
  have c1 : w.cell? ⟨b, 1, none⟩ = some (.int .i64 n) := cell_of_row w _ 1 _ _ _ hb
  have c2 : w.cell? ⟨b, 2, none⟩ = some (.bool z) := cell_of_row w _ 2 _ _ _ hb
  have f0 := frzB hb 0
  have f1 := frzB hb 1
  have f2 := frzB hb 2
  have hl := heap_lt hb
  have hn : ¬ b = w.heap.size := by omega
  clear hb
  go_enter Tryz.func177, Tryz.ntmps177
  go_wp2_with fail
  go_end0
  exact ⟨rfl, (Below.refl _ _).alloc (Nat.le_refl _) _⟩
/-- What whole does of the kids of a part. -/
def WhOk (p : X.Part) : Prop := ∀ (e : X.Ex) (i : Nat) (D : Nat → Prop) (ab : Nat) (a4 : Option Addr) (a5 a6 : Nat) (w : World), X.Rd p i e → Psd w D ab i → NdS w D (.slice a4 a5 a6) (X.kids p) → X.Gd (X.kids p) → ¬ D ab → i + X.pz [p] ≤ 1073741824 → (∀ q, D q → q < w.heap.size) →
  Calls Tryz.prog 90 #[.agg #[.pointer (some ⟨ab, 0, none⟩), .slice a4 a5 a6], .int .i64 (X.nk p)] w fun en w' => ∃ v, en = .returned v ∧ Hid (IsE w' w.heap.size w'.heap.size v e ∧ Psd w' D ab (i + X.pz [p]) ∧ Kq D ab ab w w')
/-- The block of an expression, by its kind. -/
theorem IsE.top {w : World} {lo hi : Nat} {v : Value} {e : X.Ex} (h : IsE w lo hi v e) : ∃ ty b T m n z r, v = .iface ty (.pointer (some ⟨b, 0, none⟩)) ∧ lo ≤ b ∧ b < hi ∧ w.heap[b]? = some (.cells (List.toArray (.int .i64 m :: .int .i64 n :: .bool z :: r)) T (0, 0)) ∧ (T ≠ 152 ∧ T ≠ 136 ∧ T ≠ 186) ∧ T ≠ 3 ∧
    (ty = 236 ∨ ty = 234 ∨ ty = 209 ∨ ty = 231 ∨ ty = 212 ∨ ty = 216 ∨ ty = 219 ∨ ty = 221 ∨ ty = 223 ∨ ty = 225 ∨ ty = 228) := by
  cases h with
  | lit b k x hb h => exact ⟨_, b, _, _, _, _, _, rfl, hb.1, hb.2, h, by decide, by decide, by simp⟩
  | hole b i hb h => exact ⟨_, b, _, _, _, _, _, rfl, hb.1, hb.2, h, by decide, by decide, by simp⟩
  | missing b hb h => exact ⟨_, b, _, _, _, _, _, rfl, hb.1, hb.2, h, by decide, by decide, by simp⟩
  | var b n hb h => exact ⟨_, b, _, _, _, _, _, rfl, hb.1, hb.2, h, by decide, by decide, by simp⟩
  | lett b n v1 v2 e1 e2 hb h h1 h2 => exact ⟨_, b, _, _, _, _, _, rfl, hb.1, hb.2, h, by decide, by decide, by simp⟩
  | ite b v1 v2 v3 e1 e2 e3 hb h h1 h2 h3 => exact ⟨_, b, _, _, _, _, _, rfl, hb.1, hb.2, h, by decide, by decide, by simp⟩
  | fn b pb ns v e hb h hp h1 => exact ⟨_, b, _, _, _, _, _, rfl, hb.1, hb.2, h, by decide, by decide, by simp⟩
  | bin b v1 v2 x e1 e2 hb h h1 h2 => exact ⟨_, b, _, _, _, _, _, rfl, hb.1, hb.2, h, by decide, by decide, by simp⟩
  | call b v e ao cap vs es hb h hc h1 hr hp => exact ⟨_, b, _, _, _, _, _, rfl, hb.1, hb.2, h, by decide, by decide, by simp⟩
  | list b ao cap vs es hb h hc hr hp => exact ⟨_, b, _, _, _, _, _, rfl, hb.1, hb.2, h, by decide, by decide, by simp⟩
  | group b v e hb h h1 => exact ⟨_, b, _, _, _, _, _, rfl, hb.1, hb.2, h, by decide, by decide, by simp⟩
theorem rd_nln {p : X.Part} {i : Nat} {e : X.Ex} (h : X.Rd p i e) : X.nln p = 0 := by cases h <;> rfl
theorem gd_nil : X.Gd [] := by
  constructor
  · intro t ht
    rw [X.pls] at ht
    cases ht
  · rw [X.koks]
    trivial
theorem gd_kids {p : X.Part} {ps : List X.Part} (h : X.Gd (p :: ps)) : X.Gd (X.kids p) := by
  cases p with
  | leaf k x => exact gd_nil
  | miss m => exact gd_nil
  | br k qs => exact h.br.2
set_option maxRecDepth 100000 in
set_option maxHeartbeats 4000000 in
theorem expr_of (p : X.Part) (H : WhOk p) : ExOk p := by
  intro e i D rb ab ps w hrd hw hi hDl
  obtain ⟨v0, hb0, hn0⟩ := hw.blk
  have r0 := cell_of_row w _ 0 _ _ _ hb0
  have r1 := cell_of_row w _ 1 _ _ _ hb0
  obtain ⟨g, o, cap, kv, rfl, hD, y0, y1, y2, y3, hkk, -, hc1, hc2, -, -⟩ := hn0.head
  obtain ⟨bv, bl, en, gp, hps, hos, -⟩ := hw.psd.ex
  obtain ⟨bo, bc, rfl, hbm⟩ := owns_slice hos
  have c1 := cell_of_row w _ 1 _ _ _ hps
  have c3 := cell_of_row w _ 3 _ _ _ hps
  have hnb := hide (nbg_of hps)
  obtain ⟨hrl, hal⟩ := hw.lt
  have hsep := hw.sep
  have hgk := hide (gd_kids hw.byt)
  have hln := rd_nln hrd
  have hi1 : (0 : Int) < ((ps.length + 1 : Nat) : Int) := by omega
  have hi2 : 0 < ps.length + 1 := by omega
  have HW := hide hw
  have HDl := hide hDl
  clear hb0 hn0 hkk hps hos hDl y1 y2 y3 hw
  go_enter Tryz.func63, Tryz.ntmps63
  go_wp2_with fail
  go_quiet (fail)
  have kN : Below w.heap.size w (w.drewN nq) := belowN (Below.refl _ w) nq
  have kp := Kp.ofBelow kN (fun _ => False)
  replace r0 := kp.cellv (p := ⟨rb, 0, none⟩) r0 id
  replace r1 := kp.cellv (p := ⟨rb, 1, none⟩) r1 id
  replace y0 := kp.cellv (p := ⟨g, o, none⟩) y0 id
  have HN : Hid (Below w.heap.size w (w.drewN nq)) := kN
  have HEn := hide (wenter_any D rb ab p ps i (w.drewN nq) ((HW.out).below kN) (by omega) (fun q hq => Nat.lt_of_lt_of_le ((HDl.out) q hq) kN.size))
  clear kN kp c1 c3
  generalize w.drewN nq = W1 at *
  go_wp2_with fail
  refine (HEn.out).mono ?_
  rintro en2 w2 ⟨a4, a5, a6, rfl, X2⟩
  have hK2 : Hid (Kq D rb ab w w2) := (Kq.ofBelow HN.out hal).trans (X2.out).2.2
  have hl2 := (hK2.out).size
  have HC := hide (H e i D ab a4 a5 a6 w2 hrd (by have := (X2.out).2.1.psd; rw [hln] at this; exact this) (X2.out).1 hgk.out hsep.2.2 hi (fun q hq => Nat.lt_of_lt_of_le ((HDl.out) q hq) hl2))
  have HR2 := hide (X2.out).2.1
  clear HEn X2 r0 r1 y0 HN
  go_wp2_with fail
  refine (HC.out).mono ?_
  rintro en3 w3 ⟨v, rfl, X3⟩
  obtain ⟨ty, b, T, m, n, z, r, rfl, hb1, hb2, hbb, hT1, hT2, hty⟩ := (X3.out).1.top
  have hK3 : Hid (Kq D rb ab w w3) := (hK2.out).trans (X3.out).2.2.wide
  have hR3 : IsRw w3 D rb ab ps (i + X.pz [p]) := (HR2.out).counted (X3.out).2.1 (X3.out).2.2
  obtain ⟨v3, hb3, -⟩ := hR3.blk
  have r0 := cell_of_row w3 _ 0 _ _ _ hb3
  have HR3 := hide hR3
  have HB := hide hbb
  have hl3 := (hK3.out).size
  have hpl3 : Hid (Psd w3 D ab (i + X.pz [p]) ∧ bl.length ≤ nbg ab w3) := ⟨(X3.out).2.1, by have := (hK3.out).le; rw [hnb.out] at this; exact this⟩
  have HE3 := hide (X3.out).1
  clear HC HR2 hbb hR3 hb3 X3
  go_wp2_with fail
  refine wpTo_start (S := fun w' => w'.cell? ⟨rb, 0, none⟩ = some (.pointer (some ⟨ab, 0, none⟩))) (z := 12) (by kernel_rfl) ?_
  have hS : w3.drew.cell? ⟨rb, 0, none⟩ = some (.pointer (some ⟨ab, 0, none⟩)) := r0
  have hna : ∀ wx, (nilAhead 396 ty (.pointer (some ⟨b, 0, none⟩)) "amanuensis/syntax.stand").run Tryz.prog wx = .ok (some false) wx := by
    intro wx
    rcases hty with rfl | rfl | rfl | rfl | rfl | rfl | rfl | rfl | rfl | rfl | rfl <;> kernel_rfl
  have hmt : ∀ wx, (method 396 ty (.pointer (some ⟨b, 0, none⟩)) "amanuensis/syntax.stand").run Tryz.prog wx = .ok (177, .pointer (some ⟨b, 0, none⟩)) wx := by
    intro wx
    rcases hty with rfl | rfl | rfl | rfl | rfl | rfl | rfl | rfl | rfl | rfl | rfl <;> kernel_rfl
  iterate 7 (refine wpTo_nx (v := ?_) rfl rfl (by kernel_rfl) (by decide) (by kernel_rfl) (by kernel_rfl) (fun _ _ _ h => h) (Or.inl ⟨by rfl, ?_⟩) hS ?_; rotate_left; (· (intro wx hSw; (try dsimp only at hSw); go_simp; try (with_reducible rfl))); simp only [Act.put, List.setIfInBounds_toArray, List.set_cons_zero, List.set_cons_succ])
  (refine wpTo_takeA (i := 8) (dn := 41) (v := ?_) rfl rfl (by kernel_rfl) (by decide) (by kernel_rfl) (by kernel_rfl) (fun _ _ _ h => h) (Or.inl ⟨by rfl, ?_⟩) hS ?_; rotate_left; (· (intro wx hSw; (try dsimp only at hSw); go_simp; try (with_reducible rfl))); simp only [Act.put, List.setIfInBounds_toArray, List.set_cons_zero, List.set_cons_succ])
  (refine wpTo_takeA (i := 9) (dn := 42) (v := ?_) rfl rfl (by kernel_rfl) (by decide) (by kernel_rfl) (by kernel_rfl) (fun _ _ _ h => h) (Or.inl ⟨by rfl, ?_⟩) hS ?_; rotate_left; (· (intro wx hSw; (try dsimp only at hSw); go_simp; try (with_reducible rfl))); simp only [Act.put, List.setIfInBounds_toArray, List.set_cons_zero, List.set_cons_succ])
  (refine wpTo_takeA (i := 10) (dn := 43) (v := ?_) rfl rfl (by kernel_rfl) (by decide) (by kernel_rfl) (by kernel_rfl) (fun _ _ _ h => h) (Or.inl ⟨by rfl, ?_⟩) hS ?_; rotate_left; (· (intro wx hSw; (try dsimp only at hSw); go_simp; try (with_reducible rfl))); simp only [Act.put, List.setIfInBounds_toArray, List.set_cons_zero, List.set_cons_succ])
  refine wpTo_one (i := 7) (by kernel_rfl) rfl (fun K hK => ?_)
  go_simp
  refine (psince_any D ab (i + X.pz [p]) bl.length gp w3.drew ((hpl3.out).1.below (Below.refl _ w3).drew) (hpl3.out).2).mono ?_
  rintro en4 w4 ⟨s1, s2, s3, rfl, k4⟩
  have k34 : Below w3.heap.size w3 w4 := (Below.refl _ w3).drew.trans k4
  have kp4 := Kp.ofBelow k34 (fun _ => False)
  have r4 := kp4.cellv (p := ⟨rb, 0, none⟩) r0 id
  dsimp only
  refine hK.out _ _ (fun _ => r4) (fun hS2 => ?_)
  clear hK K hS hS2 r0
  try simp only [Act.put, List.setIfInBounds_toArray, List.set_cons_zero, List.set_cons_succ]
  refine wpTo_one (i := 11) (by kernel_rfl) rfl (fun K hK => ?_)
  have hB4 := kp4.heap HB.out id
  have HSt := hide (xstand_any b m n s1 s2 z s3 r T w4 hB4)
  go_simp
  refine (HSt.out).mono ?_
  rintro en5 w5 ⟨rfl, k5⟩
  have hbw : w.heap.size ≤ b := Nat.le_trans hl2 hb1
  have hs4 := k34.size
  have hR4 := (HR3.out).below k34
  have hK4 := (hK3.out).more k34 hal
  have hE4 := ((HE3.out).keep kp4 (fun _ _ _ => id)).stood hB4 hT1 s1 s2 s3
  have hkS : Kp (fun q => q = b) w4 (((w4.setCell ⟨b, 0, none⟩ (.int .i64 s1)).setCell ⟨b, 1, none⟩ (.int .i64 s2)).setCell ⟨b, 2, none⟩ (.bool s3)) := On.set (On.set (On.set (Kp.refl _ w4) 0 _) 1 _) 2 _
  have hss := k5.size
  have hzz : (((w4.setCell ⟨b, 0, none⟩ (.int .i64 s1)).setCell ⟨b, 1, none⟩ (.int .i64 s2)).setCell ⟨b, 2, none⟩ (.bool s3)).heap.size = w4.heap.size := by simp [World.setCell]
  have hRS := hR4.on hkS hB4 hT2 (by omega) (by omega) (fun hd => by have := (HDl.out) _ hd; omega)
  have hKS : Kq D rb ab w (((w4.setCell ⟨b, 0, none⟩ (.int .i64 s1)).setCell ⟨b, 1, none⟩ (.int .i64 s2)).setCell ⟨b, 2, none⟩ (.bool s3)) := ((hK4.set hal hbw 0 (.int .i64 s1)).set hal hbw 1 (.int .i64 s2)).set hal hbw 2 (.bool s3)
  have HFin : Hid (IsE w5 w.heap.size w5.heap.size (.iface ty (.pointer (some ⟨b, 0, none⟩))) e ∧ IsRw w5 D rb ab ps (i + X.pz [p]) ∧ Kq D rb ab w w5) := ⟨((hE4.keep (Kp.ofBelow k5 (fun _ => False)) (fun _ _ _ => id)).wide hl2 (by omega)), hRS.below k5, hKS.more k5 hal⟩
  obtain ⟨v5, hb5, -⟩ := (HFin.out).2.1.blk
  have r5 := cell_of_row w5 _ 0 _ _ _ hb5
  dsimp only
  refine hK.out _ _ (fun _ => r5) (fun _ => wpTo_end (by kernel_rfl) ?_)
  clear hK K hb5 r5 hKS hRS hkS hE4 hK4 hR4 k5 k34 kp4 r4 HSt hB4 hss hzz hna hmt HB HE3 HR3 hpl3 hK3
  go_wp2_with fail
  go_ret
  exact ⟨_, rfl, HFin⟩
end Go.Proofs.YtgjbafamiggafaaGreatDoor
/- Package syntax: every expression is read. -/
namespace Go.Proofs.YtgjbafamiggafaaGreatDoor
open Go.RowKit
open M
theorem pssz_len (l : List X.Part) : l.length ≤ X.pssz l := by
  induction l with
  | nil => exact Nat.le_refl _
  | cons p l ih => show l.length + 1 ≤ X.psz p + X.pssz l; have := X.psz_pos p; omega
theorem pssz_mem (l : List X.Part) (p : X.Part) (h : p ∈ l) : X.psz p ≤ X.pssz l := by
  induction l with
  | nil => cases h
  | cons q l ih =>
    show _ ≤ X.psz q + X.pssz l
    rcases List.mem_cons.1 h with e | e
    · rw [e]; omega
    · have := ih e; omega
theorem psz_br (k : Nat) (l : List X.Part) : X.psz (.br k l) = 1 + X.pssz l := rfl
theorem expr_ok : ∀ (n : Nat) (p : X.Part), X.psz p ≤ n → X.psz p ≤ 268435456 → ExOk p
  | 0, p, h, _ => by have := X.psz_pos p; omega
  | n + 1, p, h, hM => expr_of p (by
    intro e i D ab a4 a5 a6 w hr hp hk hg hd hi hD
    cases hr with
    | missing => exact hmissing_any D ab a4 a5 a6 i w hp hk hg hd hi hD
    | lit k t x l qs _ hk2 ht =>
      rw [psz_br] at h hM
      have := pssz_len l
      rw [X.pz_br] at hi ⊢
      exact hlit_any D ab a4 a5 a6 l qs k t x i w hp hk hg hd hk2 ht (by omega) hi hD
    | var x l qs _ ht =>
      rw [psz_br] at h hM
      have := pssz_len l
      rw [X.pz_br] at hi ⊢
      exact hvar_any D ab a4 a5 a6 l qs x i w hp hk hg hd ht (by omega) hi hD
    | hole t x l qs _ ht =>
      rw [psz_br] at h hM
      have := pssz_len l
      rw [X.pz_br] at hi ⊢
      exact hhole_any D ab a4 a5 a6 l qs t x _ i w hp hk hg hd ht (by omega) hi hD
    | lett t1 m t2 t3 p1 p2 _ nm e1 e2 h1 hn h2 hv h3 hb =>
      rw [psz_br] at h hM
      have hl := pssz_len (t1 ++ (m ++ (t2 ++ ([p1] ++ (t3 ++ [p2])))))
      have q1 := pssz_mem (t1 ++ (m ++ (t2 ++ ([p1] ++ (t3 ++ [p2]))))) p1 (by simp)
      have q2 := pssz_mem (t1 ++ (m ++ (t2 ++ ([p1] ++ (t3 ++ [p2]))))) p2 (by simp)
      rw [X.pz_br] at hi ⊢
      exact hlet_any D ab a4 a5 a6 t1 m t2 t3 p1 p2 nm e1 e2 i w hp hk hg hd h1 hn h2 hv h3 hb (expr_ok n p1 (by omega) (by omega)) (expr_ok n p2 (by omega) (by omega)) (by omega) hi hD
    | ite l _ a b c hx =>
      rw [psz_br] at h hM
      have hl := pssz_len l
      rw [X.pz_br] at hi ⊢
      exact hite_any D ab a4 a5 a6 l a b c i w hp hk hg hd hx (fun q hq => expr_ok n q (by have := pssz_mem l q hq; omega) (by have := pssz_mem l q hq; omega)) (by omega) hi hD
    | fn t1 qs t2 p _ ns e h1 hn h2 hb =>
      rw [psz_br] at h hM
      have hl := pssz_len (t1 ++ ([X.Part.br 6 qs] ++ (t2 ++ [p])))
      have q1 := pssz_mem (t1 ++ ([X.Part.br 6 qs] ++ (t2 ++ [p]))) p (by simp)
      have q2 := pssz_mem (t1 ++ ([X.Part.br 6 qs] ++ (t2 ++ [p]))) (.br 6 qs) (by simp)
      rw [psz_br] at q2
      have hq := pssz_len qs
      rw [X.pz_br] at hi ⊢
      exact hfun_any D ab a4 a5 a6 t1 qs t2 p ns e i w hp hk hg hd h1 hn h2 hb (expr_ok n p (by omega) (by omega)) (by omega) (by omega) hi hD
    | bin p1 p2 t qs k x _ e1 e2 hl' ht hr2 =>
      rw [psz_br] at h hM
      have hl := pssz_len ([p1] ++ (t ++ [p2]))
      have q1 := pssz_mem ([p1] ++ (t ++ [p2])) p1 (by simp)
      have q2 := pssz_mem ([p1] ++ (t ++ [p2])) p2 (by simp)
      rw [X.pz_br] at hi ⊢
      exact hbin_any D ab a4 a5 a6 p1 p2 t qs k x e1 e2 i w hp hk hg hd hl' ht hr2 (expr_ok n p1 (by omega) (by omega)) (expr_ok n p2 (by omega) (by omega)) (by omega) hi hD
    | call p gs _ e es hc ha =>
      rw [psz_br] at h hM
      have q1 := pssz_mem ([p] ++ [X.Part.br 12 gs]) p (by simp)
      have q2 := pssz_mem ([p] ++ [X.Part.br 12 gs]) (.br 12 gs) (by simp)
      rw [psz_br] at q2
      have hq := pssz_len gs
      rw [X.pz_br] at hi ⊢
      exact hcall_any D ab a4 a5 a6 p gs e es i w hp hk hg hd hc ha (expr_ok n p (by omega) (by omega)) (fun q hq => expr_ok n q (by have := pssz_mem gs q hq; omega) (by have := pssz_mem gs q hq; omega)) (by omega) hi hD
    | list l _ es hx =>
      rw [psz_br] at h hM
      have hl := pssz_len l
      rw [X.pz_br] at hi ⊢
      exact hlist_any D ab a4 a5 a6 l es i w hp hk hg hd hx (fun q hq => expr_ok n q (by have := pssz_mem l q hq; omega) (by have := pssz_mem l q hq; omega)) (by omega) hi hD
    | group l _ e hx =>
      rw [psz_br] at h hM
      have hl := pssz_len l
      rw [X.pz_br] at hi ⊢
      exact hgroup_any D ab a4 a5 a6 l e i w hp hk hg hd hx (fun q hq => expr_ok n q (by have := pssz_mem l q hq; omega) (by have := pssz_mem l q hq; omega)) (by omega) hi hD)
end Go.Proofs.YtgjbafamiggafaaGreatDoor
/- Package syntax: a `pub` and an `as`, which may be there. -/
namespace Go.Proofs.YtgjbafamiggafaaGreatDoor
open Go.RowKit
open M
namespace X
theorem tk0_one {t qs : List Part} {p : Part} (h : Tk0 t qs p) : Tk0 [p] [] p := ⟨rfl, fun q hq => (by cases hq), h.ne, h.ln⟩
theorem tk0_pz {t qs : List Part} {p : Part} (h : Tk0 t qs p) : pz t = pz qs + pz [p] := by rw [h.eq, pz_app]
theorem tkn_not {s : List UInt8} {t : List Part} (h : Tkn s t) : ∃ qs p, Tk0 t qs p ∧ ((∃ k y, p = .leaf k y ∧ y ≠ s) ∨ nk p ≠ 0) ∧ ¬ (∃ k, p = .leaf k s) := by
  rcases h with ⟨k, x, qs, h1, h2⟩ | ⟨m, rfl⟩
  · exact ⟨qs, _, h1.tk0, .inl ⟨k, x, rfl, h2⟩, fun ⟨k', e⟩ => by cases e; exact h2 rfl⟩
  · exact ⟨[], .miss m, ⟨rfl, fun q hq => (by cases hq), rfl, rfl⟩, .inr (by show (1 : Nat) ≠ 0; omega), fun ⟨k', e⟩ => by cases e⟩
end X
/-- What is left when a word was looked for: a token that comes next, in part passed. -/
structure Lf (w w' : World) (D : Nat → Prop) (rb ab : Nat) (t : List X.Part) (ps : List X.Part) (j : Nat) : Prop where
  ex : ∃ t' q' p' i', X.Tk0 t' q' p' ∧ IsRw w' D rb ab (t' ++ ps) i' ∧ i' + X.pz t' = j ∧ t'.length ≤ t.length
  kp : Kq D rb ab w w'
/-- A word that is not there. -/
theorem whas_no (D : Nat → Prop) (rb ab : Nat) (s : List UInt8) (t ps : List X.Part) (i : Nat) (w : World) (h : IsRw w D rb ab (t ++ ps) i) (ht : X.Tkn s t) (hi : i + X.pz (t ++ ps) ≤ 1073741824) (hpl : (t ++ ps).length ≤ 1073741824) (hDl : ∀ q, D q → q < w.heap.size) :
    Calls Tryz.prog 59 #[.pointer (some ⟨rb, 0, none⟩), .string (ba s)] w fun e w' => e = .returned (.bool false) ∧ Hid (Lf w w' D rb ab t ps (i + X.pz t)) := by
  obtain ⟨qs, p, h1, h2, h3⟩ := X.tkn_not ht
  refine (whas_any D rb ab t qs p ps i s w h h1 (.inr h2) hi hpl hDl).mono ?_
  rintro e w' ⟨-, H⟩
  obtain ⟨rfl, X1⟩ := H h3
  refine ⟨rfl, ⟨[p], [], p, i + X.pz qs, X.tk0_one h1, (X1.out).1, by rw [X.tk0_pz h1]; omega, ?_⟩, (X1.out).2⟩
  rw [h1.eq, List.length_append]
  exact Nat.le_add_left _ _
/-- A word that is there. -/
theorem whas_yes (D : Nat → Prop) (rb ab : Nat) (k : Nat) (s : List UInt8) (t qs ps : List X.Part) (i : Nat) (w : World) (h : IsRw w D rb ab (t ++ ps) i) (ht : X.Tk1 t k s qs) (hi : i + X.pz (t ++ ps) ≤ 1073741824) (hpl : (t ++ ps).length ≤ 1073741824) (hDl : ∀ q, D q → q < w.heap.size) :
    Calls Tryz.prog 59 #[.pointer (some ⟨rb, 0, none⟩), .string (ba s)] w fun e w' => e = .returned (.bool true) ∧ Hid (IsRw w' D rb ab ps (i + X.pz t) ∧ Kq D rb ab w w') := by
  refine (whas_any D rb ab t qs _ ps i s w h ht.tk0 (.inl ⟨k, rfl⟩) hi hpl hDl).mono ?_
  rintro e w' ⟨H, -⟩
  exact H ⟨k, rfl⟩
/-- A `pub`, if there is one, ahead of a token. -/
theorem wpub_any (D : Nat → Prop) (rb ab : Nat) (pb t ps : List X.Part) (pub : Bool) (i : Nat) (w : World) (h : IsRw w D rb ab (pb ++ (t ++ ps)) i) (hp : X.Pbp pb pub) (ht : X.Tkn X.sPub t) (hi : i + X.pz (pb ++ (t ++ ps)) ≤ 1073741824) (hpl : (pb ++ (t ++ ps)).length ≤ 1073741824) (hDl : ∀ q, D q → q < w.heap.size) :
    Calls Tryz.prog 59 #[.pointer (some ⟨rb, 0, none⟩), .string (ba X.sPub)] w fun e w' => e = .returned (.bool pub) ∧ Hid (Lf w w' D rb ab t ps (i + X.pz pb + X.pz t)) := by
  cases hp with
  | yes _ k qs h1 =>
    refine (whas_yes D rb ab k X.sPub pb qs (t ++ ps) i w h h1 hi hpl hDl).mono ?_
    rintro e w' ⟨rfl, X1⟩
    obtain ⟨qs', p', h2⟩ := ht.tkp.tk0
    exact ⟨rfl, ⟨t, qs', p', i + X.pz pb, h2, (X1.out).1, rfl, Nat.le_refl _⟩, (X1.out).2⟩
  | no =>
    exact whas_no D rb ab X.sPub t ps i w h ht hi hpl hDl
theorem Lf.pass {w w' : World} {D : Nat → Prop} {rb ab : Nat} {t ps : List X.Part} {j : Nat} (h : Lf w w' D rb ab t ps j) (hj : j + X.pz ps ≤ 1073741824) (hpl : (t ++ ps).length ≤ 1073741824) (hDl : ∀ q, D q → q < w'.heap.size) :
    Calls Tryz.prog 60 #[.pointer (some ⟨rb, 0, none⟩)] w' fun e w'' => ∃ a1 a2 a3 a4 a5 a6, e = .returned (.agg #[.int .i64 a1, .int .i64 a2, .string a3, .slice a4 a5 a6]) ∧ Hid (IsRw w'' D rb ab ps j ∧ Kq D rb ab w' w'') := by
  obtain ⟨t', q', p', i', x1, x2, x3, x4⟩ := h.ex
  refine (wpass_any D rb ab t' q' p' ps i' w' x2 x1 (by rw [X.pz_app]; omega) (by rw [List.length_append] at *; omega) hDl).mono ?_
  rintro e w'' ⟨a4, a5, a6, rfl, X1⟩
  rw [x3] at X1
  exact ⟨_, _, _, a4, a5, a6, rfl, X1⟩
/-- What is known when a node has been entered, beside the row that it stands in. -/
structure EntO (w : World) (D : Nat → Prop) (rb ab : Nat) (ps qs : List X.Part) (i : Nat) (w2 : World) (kv : Value) : Prop where
  inn : IsRw (w2.alloc (.cells #[.pointer (some ⟨ab, 0, none⟩), kv] 103)) D w2.heap.size ab qs i
  out : ∀ (w3 : World) (l : List X.Part) (k : Nat), IsRw w3 D w2.heap.size ab l k → Kq D w2.heap.size ab (w2.alloc (.cells #[.pointer (some ⟨ab, 0, none⟩), kv] 103)) w3 → IsRw w3 D rb ab ps k ∧ Kq D rb ab w w3
  le : w.heap.size ≤ w2.heap.size
  dl : ∀ q, D q → q < (w2.alloc (.cells #[.pointer (some ⟨ab, 0, none⟩), kv] 103)).heap.size
  sz : (w2.alloc (.cells #[.pointer (some ⟨ab, 0, none⟩), kv] 103)).heap.size = w2.heap.size + 1
  bel : Below w2.heap.size w2 (w2.alloc (.cells #[.pointer (some ⟨ab, 0, none⟩), kv] 103))
theorem ento_of {w w2 : World} {D : Nat → Prop} {rb ab : Nat} {ps qs : List X.Part} {i : Nat} {kv : Value} (h : NdS w2 D kv qs ∧ IsRw w2 D rb ab ps i ∧ Kq D rb ab w w2) (hq : X.Gd qs) (hDl : ∀ q, D q → q < w.heap.size) : EntO w D rb ab ps qs i w2 kv := by
  obtain ⟨h1, h2, h3⟩ := h
  have hd : ∀ q, D q → q < w2.heap.size := fun q hq => Nat.lt_of_lt_of_le (hDl q hq) h3.size
  obtain ⟨a, b⟩ := rw_both h2 h1 hq hd
  refine ⟨a, fun w3 l k x y => ?_, h3.size, fun q hq => by have := hd q hq; simp; omega, by simp, (Below.refl _ w2).alloc (Nat.le_refl _) _⟩
  obtain ⟨c, d⟩ := b w3 l k x y
  exact ⟨c, h3.trans d⟩
end Go.Proofs.YtgjbafamiggafaaGreatDoor
