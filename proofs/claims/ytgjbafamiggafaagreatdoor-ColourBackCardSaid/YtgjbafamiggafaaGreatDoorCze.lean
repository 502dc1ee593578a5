/- Package colour: what a token is. -/
import Derived.Test.YtgjbafamiggafaaGreatDoorJy
namespace Go.Proofs.YtgjbafamiggafaaGreatDoor
open Go.RowKit
open M
/-- Who goes through the tokens. -/
structure Pn (w : World) (pb : Nat) (us : List X.U) (ao : Option Addr) (cap : Nat) (fi : Int) : Prop where
  c0 : w.cell? ⟨pb, 0, none⟩ = some (.slice ao us.length cap)
  c1 : w.cell? ⟨pb, 1, none⟩ = some (.int .i64 fi)
  lt : pb < w.heap.size
/-- A number; it is 13 where there are no names, and the token is one. -/
def KNum (us : List X.U) (kd : Nat) (w : World) (e : Ending) (w' : World) : Prop := ∃ n : Int, e = .returned (.int .i64 n) ∧ Below w.heap.size w w' ∧ (us = [] → kd = 3 → n = 13)
set_option maxRecDepth 100000 in
set_option maxHeartbeats 8000000 in
theorem ckind_any (us : List X.U) (ao : Option Addr) (cap : Nat) (fi : Int) (pb kd at_ ln : Nat) (w : World) (hK : Tk w) (h : IsUs w w.heap.size ao us) (hN : Nms us) (hc : us.length ≤ cap) (hP : Pn w pb us ao cap fi) (hkd : kd < 9) (hat : at_ ≤ 4294967296) :
    Calls Tryz.prog 28 #[.pointer (some ⟨pb, 0, none⟩), .agg #[.int .i64 kd, .int .i64 at_, .int .i64 ln]] w fun e w' => KNum us kd w e w' := by
  have kA : Below w.heap.size w (w.alloc (.cells #[.int .i64 kd, .int .i64 at_, .int .i64 ln] 55)) := (Below.refl _ w).alloc (Nat.le_refl _) _
  have hA := heap_alloc_new w (.cells #[.int .i64 kd, .int .i64 at_, .int .i64 ln] 55)
  have hsz : (w.alloc (.cells #[.int .i64 kd, .int .i64 at_, .int .i64 ln] 55)).heap.size = w.heap.size + 1 := by simp
  have a1 : (w.alloc (.cells #[.int .i64 kd, .int .i64 at_, .int .i64 ln] 55)).cell? ⟨w.heap.size, 1, none⟩ = some (.int .i64 at_) := cell_of_row _ _ 1 _ _ _ hA
  have p0 := kcb kA hP.lt hP.c0
  have p1 := kcb kA hP.lt hP.c1
  have hpl := hP.lt
  have hv2 : (kd : Int) < 9 := by omega
  have HTok : Hid (∀ W, Below w.heap.size w W → ∃ n : Int, W.cell? ⟨0, kd, none⟩ = some (.int .i64 n) ∧ (kd = 3 → n = 13)) := fun W hW => by
    have hk := hK.below hW hK.sz
    obtain ⟨n, hn⟩ := hk.tok kd hkd
    refine ⟨n, hn, fun e => ?_⟩
    subst e
    have := hk.t3
    rw [hn] at this
    simpa using this
  by_cases h3 : kd = 3
  · have HNA : Hid (∀ W, Below w.heap.size w W → Calls Tryz.prog 48 #[.slice ao us.length cap, .int .i64 fi, .int .i64 at_] W fun e w' => NRes us fi at_ W e w') := fun W hW => nameAt_any us ao cap fi at_ W ((h.below hW).wide hW.size) hN.srt hN.len hc (by omega) (by omega)
    have HNK : Hid (∀ (u : X.U) W, u ∈ us → Below w.heap.size w W → Calls Tryz.prog 49 #[.slice ao us.length cap, .agg #[.int .i64 u.f, .int .i64 u.i, .int .i64 u.s, .int .i64 u.tf, .int .i64 u.tt, .int .i64 u.e]] W fun e w' => Num W e w') := fun u W hu hW => nameKind_any us ao cap u W hu (hK.below hW hK.sz) ((h.below hW).wide hW.size) hN hc
    have q3 : ((kd : Int) == 3) = true := by simp [h3]
    have HP := hide hP
    have HA := hide hA
    have HK := hide kA
    clear hA kA h hN hK hP h3
    go_enter Tryz.func28, Tryz.ntmps28
    go_upto_region 2 with fail
    generalize w.alloc (.cells #[.int .i64 kd, .int .i64 at_, .int .i64 ln] 55) = W at *
    go_cut [5, 6] (fun v5 v6 wx => ∃ (wy : World) (b : Nat) (u : X.U) (ok : Bool), wy = wx ∧ v5 = .pointer (some ⟨b, 0, none⟩) ∧ v6 = .bool ok ∧ Hid (Below w.heap.size w wx ∧ wx.heap[b]? = some (.cells #[.int .i64 u.f, .int .i64 u.i, .int .i64 u.s, .int .i64 u.tf, .int .i64 u.tt, .int .i64 u.e] 31 (0, 0)) ∧ (ok = true → u ∈ us) ∧ w.heap.size < b ∧ wx.heap[w.heap.size]? = some (.cells #[.int .i64 kd, .int .i64 at_, .int .i64 ln] 55 (0, 0))))
    case first =>
      go_wp2_with fail
      refine wpTo_start (S := fun w' => w'.cell? ⟨pb, 0, none⟩ = some (.slice ao us.length cap) ∧ w'.cell? ⟨pb, 1, none⟩ = some (.int .i64 fi) ∧ w'.cell? ⟨w.heap.size, 1, none⟩ = some (.int .i64 at_)) (z := 16) (by kernel_rfl) ?_
      have hS : W.drew.cell? ⟨pb, 0, none⟩ = some (.slice ao us.length cap) ∧ W.drew.cell? ⟨pb, 1, none⟩ = some (.int .i64 fi) ∧ W.drew.cell? ⟨w.heap.size, 1, none⟩ = some (.int .i64 at_) := ⟨p0, p1, a1⟩
      iterate 10 (refine wpTo_nx0 (v := ?_) rfl rfl (by kernel_rfl) (by kernel_rfl) (by kernel_rfl) (by kernel_rfl) (fun _ _ _ h => h) (Or.inl ⟨by rfl, ?_⟩) hS ?_; rotate_left; (· (intro wx hSw; (try dsimp only at hSw); go_simp; try (with_reducible rfl))); simp only [Act.put, List.setIfInBounds_toArray, List.set_cons_zero, List.set_cons_succ])
      refine wpTo_two (i := 10) (k := 14) (by kernel_rfl) rfl rfl (fun K hK => ?_) (fun K hK => ?_)
      · go_simp
        refine ((HNA.out) W.drew (HK.out).drew).mono ?_
        rintro e w3 ⟨u, ok, rfl, X3⟩
        obtain ⟨B3, x1, x2⟩ := X3.out
        have hb3 : Below w.heap.size w w3 := ((HK.out).drew).trans (B3.mono (HK.out).size)
        have hA3 := (Kp.ofBelow (((Below.refl _ W).drew).trans B3) (fun _ => False)).heap HA.out id
        have hs3 : W.heap.size ≤ w3.heap.size := B3.size
        dsimp only
        refine hK.out _ _ (fun _ => ⟨kcb B3 (by show _ < W.heap.size; omega) p0, kcb B3 (by show _ < W.heap.size; omega) p1, kcb B3 (by show _ < W.heap.size; omega) a1⟩) (fun hS2 => ?_)
        clear hS hK K
        have hS := hS2 (by decide)
        clear hS2
        iterate 3 (refine wpTo_nx0 (v := ?_) rfl rfl (by kernel_rfl) (by kernel_rfl) (by kernel_rfl) (by kernel_rfl) (fun _ _ _ h => h) (Or.inl ⟨by rfl, ?_⟩) hS ?_; rotate_left; (· (intro wx hSw; (try dsimp only at hSw); go_simp; try (with_reducible rfl))); simp only [Act.put, List.setIfInBounds_toArray, List.set_cons_zero, List.set_cons_succ])
        refine wpTo_one (i := 14) (by kernel_rfl) rfl (fun K hK => ?_)
        go_simp
        have hZ := heap_alloc_new w3 (.cells #[.int .i64 0, .int .i64 0, .int .i64 0, .int .i64 0, .int .i64 0, .int .i64 0] 31)
        have HB4 : Hid (Below w.heap.size w (w3.alloc (.cells #[.int .i64 0, .int .i64 0, .int .i64 0, .int .i64 0, .int .i64 0, .int .i64 0] 31))) := hb3.alloc hb3.size _
        have HA4 : Hid ((w3.alloc (.cells #[.int .i64 0, .int .i64 0, .int .i64 0, .int .i64 0, .int .i64 0, .int .i64 0] 31)).heap[w.heap.size]? = some (.cells #[.int .i64 kd, .int .i64 at_, .int .i64 ln] 55 (0, 0))) := (heap_alloc_old _ _ (heap_lt hA3)).trans hA3
        refine hK.out _ _ (fun _ => ⟨Lib.cell?_alloc_some _ hS.1, Lib.cell?_alloc_some _ hS.2.1, Lib.cell?_alloc_some _ hS.2.2⟩) (fun hS2 => ?_)
        clear hS hK K
        have hS := hS2 (by decide)
        clear hS2
        have hbs : w.heap.size < w3.heap.size := by omega
        generalize w3.alloc (.cells #[.int .i64 0, .int .i64 0, .int .i64 0, .int .i64 0, .int .i64 0, .int .i64 0] 31) = Wa at *
        generalize w3.heap.size = bb at *
        have HK4 : Hid (Kp (fun q => q = bb) Wa ((((((Wa.setCell ⟨bb, 0, none⟩ (.int .i64 u.f)).setCell ⟨bb, 1, none⟩ (.int .i64 u.i)).setCell ⟨bb, 2, none⟩ (.int .i64 u.s)).setCell ⟨bb, 3, none⟩ (.int .i64 u.tf)).setCell ⟨bb, 4, none⟩ (.int .i64 u.tt)).setCell ⟨bb, 5, none⟩ (.int .i64 u.e))) := On.set (On.set (On.set (On.set (On.set (On.set (Kp.refl _ Wa) 0 _) 1 _) 2 _) 3 _) 4 _) 5 _
        have HG : Hid (Below w.heap.size w ((((((Wa.setCell ⟨bb, 0, none⟩ (.int .i64 u.f)).setCell ⟨bb, 1, none⟩ (.int .i64 u.i)).setCell ⟨bb, 2, none⟩ (.int .i64 u.s)).setCell ⟨bb, 3, none⟩ (.int .i64 u.tf)).setCell ⟨bb, 4, none⟩ (.int .i64 u.tt)).setCell ⟨bb, 5, none⟩ (.int .i64 u.e)) ∧ ((((((Wa.setCell ⟨bb, 0, none⟩ (.int .i64 u.f)).setCell ⟨bb, 1, none⟩ (.int .i64 u.i)).setCell ⟨bb, 2, none⟩ (.int .i64 u.s)).setCell ⟨bb, 3, none⟩ (.int .i64 u.tf)).setCell ⟨bb, 4, none⟩ (.int .i64 u.tt)).setCell ⟨bb, 5, none⟩ (.int .i64 u.e)).heap[bb]? = some (.cells #[.int .i64 u.f, .int .i64 u.i, .int .i64 u.s, .int .i64 u.tf, .int .i64 u.tt, .int .i64 u.e] 31 (0, 0)) ∧ (ok = true → u ∈ us) ∧ w.heap.size < bb ∧ ((((((Wa.setCell ⟨bb, 0, none⟩ (.int .i64 u.f)).setCell ⟨bb, 1, none⟩ (.int .i64 u.i)).setCell ⟨bb, 2, none⟩ (.int .i64 u.s)).setCell ⟨bb, 3, none⟩ (.int .i64 u.tf)).setCell ⟨bb, 4, none⟩ (.int .i64 u.tt)).setCell ⟨bb, 5, none⟩ (.int .i64 u.e)).heap[w.heap.size]? = some (.cells #[.int .i64 kd, .int .i64 at_, .int .i64 ln] 55 (0, 0))) := by
          have k4 := HK4.out
          exact ⟨(HB4.out).trans (k4.below (HB4.out).size (fun q e => by omega)), set6_own hZ, fun e => (x1 e).1, hbs, k4.heap HA4.out (by omega)⟩
        have e0 := cell_of_row Wa _ 0 _ _ _ hZ
        have g0 := frzB hZ 0
        have e1 := cell_of_row Wa _ 1 _ _ _ hZ
        have g1 := frzB hZ 1
        have e2 := cell_of_row Wa _ 2 _ _ _ hZ
        have g2 := frzB hZ 2
        have e3 := cell_of_row Wa _ 3 _ _ _ hZ
        have g3 := frzB hZ 3
        have e4 := cell_of_row Wa _ 4 _ _ _ hZ
        have g4 := frzB hZ 4
        have e5 := cell_of_row Wa _ 5 _ _ _ hZ
        have g5 := frzB hZ 5
        have hne : ¬ pb = bb ∧ ¬ w.heap.size = bb := ⟨by omega, by omega⟩
        clear hZ X3 B3 x1 x2 HB4 HA4 hsz
        try clear hsW
        refine wpTo_one (i := 15) (by kernel_rfl) rfl (fun K hK => ?_)
        go_simp
        refine hK.out _ _ (fun _ => ⟨(HK4.out).cellv hS.1 hne.1, (HK4.out).cellv hS.2.1 hne.1, (HK4.out).cellv hS.2.2 hne.2⟩) (fun hS2 => ?_)
        clear hS hK K
        have hS := hS2 (by decide)
        clear hS2
        refine wpTo_one (i := 16) (by kernel_rfl) rfl (fun K hK => ?_)
        go_simp
        refine hK.out _ _ (fun h => absurd rfl h) (fun _ => wpTo_end (by kernel_rfl) ?_)
        clear hK K hS e0 e1 e2 e3 e4 e5 g0 g1 g2 g3 g4 g5
        go_wp2_with fail
        go_meet
        exact ⟨_, _, u, ok, rfl, rfl, rfl, HG⟩
      · go_simp
        have hZ0 := heap_alloc_new W (.cells #[.int .i64 0, .int .i64 0, .int .i64 0, .int .i64 0, .int .i64 0, .int .i64 0] 31)
        refine hK.out _ _ (fun _ => ⟨Lib.cell?_alloc_some _ p0, Lib.cell?_alloc_some _ p1, Lib.cell?_alloc_some _ a1⟩) (fun hS2 => ?_)
        clear hS hK K
        have hS := hS2 (by decide)
        clear hS2
        have hb2 : Below w.heap.size w (W.alloc (.cells #[.int .i64 0, .int .i64 0, .int .i64 0, .int .i64 0, .int .i64 0, .int .i64 0] 31)).drew := ((HK.out).alloc (HK.out).size _).drew
        have hA2 : (W.alloc (.cells #[.int .i64 0, .int .i64 0, .int .i64 0, .int .i64 0, .int .i64 0, .int .i64 0] 31)).heap[w.heap.size]? = some (.cells #[.int .i64 kd, .int .i64 at_, .int .i64 ln] 55 (0, 0)) := (heap_alloc_old _ _ (heap_lt HA.out)).trans HA.out
        have hsW : (W.alloc (.cells #[.int .i64 0, .int .i64 0, .int .i64 0, .int .i64 0, .int .i64 0, .int .i64 0] 31)).heap.size = W.heap.size + 1 := by simp
        refine wpTo_one (i := 10) (by kernel_rfl) rfl (fun K hK => ?_)
        go_simp
        refine ((HNA.out) _ hb2).mono ?_
        rintro e w3 ⟨u, ok, rfl, X3⟩
        obtain ⟨B3, x1, x2⟩ := X3.out
        have HB4 : Hid (Below w.heap.size w w3) := hb2.trans (B3.mono hb2.size)
        have hZ := (Kp.ofBelow B3 (fun _ => False)).heap (w := (W.alloc (.cells #[.int .i64 0, .int .i64 0, .int .i64 0, .int .i64 0, .int .i64 0, .int .i64 0] 31)).drew) hZ0 id
        have HA4 := hide ((Kp.ofBelow B3 (fun _ => False)).heap (w := (W.alloc (.cells #[.int .i64 0, .int .i64 0, .int .i64 0, .int .i64 0, .int .i64 0, .int .i64 0] 31)).drew) hA2 id)
        dsimp only
        refine hK.out _ _ (fun _ => ⟨kcb B3 (by show _ < (W.alloc (.cells #[.int .i64 0, .int .i64 0, .int .i64 0, .int .i64 0, .int .i64 0, .int .i64 0] 31)).heap.size; omega) hS.1, kcb B3 (by show _ < (W.alloc (.cells #[.int .i64 0, .int .i64 0, .int .i64 0, .int .i64 0, .int .i64 0, .int .i64 0] 31)).heap.size; omega) hS.2.1, kcb B3 (by show _ < (W.alloc (.cells #[.int .i64 0, .int .i64 0, .int .i64 0, .int .i64 0, .int .i64 0, .int .i64 0] 31)).heap.size; omega) hS.2.2⟩) (fun hS2 => ?_)
        clear hS hK K
        have hS := hS2 (by decide)
        clear hS2
        refine wpTo_take (i := 11) (dn := 10) (v := ?_) rfl rfl (by kernel_rfl) (by kernel_rfl) (by kernel_rfl) (by kernel_rfl) (fun _ _ _ h => h) (Or.inl ⟨by rfl, ?_⟩) hS ?_
        rotate_left
        · (intro wx hSw; (try dsimp only at hSw); go_simp; try (with_reducible rfl))
        simp only [Act.put, List.setIfInBounds_toArray, List.set_cons_zero, List.set_cons_succ]
        refine wpTo_take (i := 12) (dn := 22) (v := ?_) rfl rfl (by kernel_rfl) (by kernel_rfl) (by kernel_rfl) (by kernel_rfl) (fun _ _ _ h => h) (Or.inl ⟨by rfl, ?_⟩) hS ?_
        rotate_left
        · (intro wx hSw; (try dsimp only at hSw); go_simp; try (with_reducible rfl))
        simp only [Act.put, List.setIfInBounds_toArray, List.set_cons_zero, List.set_cons_succ]
        refine wpTo_take (i := 13) (dn := 23) (v := ?_) rfl rfl (by kernel_rfl) (by kernel_rfl) (by kernel_rfl) (by kernel_rfl) (fun _ _ _ h => h) (Or.inl ⟨by rfl, ?_⟩) hS ?_
        rotate_left
        · (intro wx hSw; (try dsimp only at hSw); go_simp; try (with_reducible rfl))
        simp only [Act.put, List.setIfInBounds_toArray, List.set_cons_zero, List.set_cons_succ]
        have hbs : w.heap.size < w.heap.size + 1 := by omega
        rw [hsz] at hZ
        have Wa_e : w3 = w3 := rfl
        have HK4 : Hid (Kp (fun q => q = (w.heap.size + 1)) w3 ((((((w3.setCell ⟨(w.heap.size + 1), 0, none⟩ (.int .i64 u.f)).setCell ⟨(w.heap.size + 1), 1, none⟩ (.int .i64 u.i)).setCell ⟨(w.heap.size + 1), 2, none⟩ (.int .i64 u.s)).setCell ⟨(w.heap.size + 1), 3, none⟩ (.int .i64 u.tf)).setCell ⟨(w.heap.size + 1), 4, none⟩ (.int .i64 u.tt)).setCell ⟨(w.heap.size + 1), 5, none⟩ (.int .i64 u.e))) := On.set (On.set (On.set (On.set (On.set (On.set (Kp.refl _ w3) 0 _) 1 _) 2 _) 3 _) 4 _) 5 _
        have HG : Hid (Below w.heap.size w ((((((w3.setCell ⟨(w.heap.size + 1), 0, none⟩ (.int .i64 u.f)).setCell ⟨(w.heap.size + 1), 1, none⟩ (.int .i64 u.i)).setCell ⟨(w.heap.size + 1), 2, none⟩ (.int .i64 u.s)).setCell ⟨(w.heap.size + 1), 3, none⟩ (.int .i64 u.tf)).setCell ⟨(w.heap.size + 1), 4, none⟩ (.int .i64 u.tt)).setCell ⟨(w.heap.size + 1), 5, none⟩ (.int .i64 u.e)) ∧ ((((((w3.setCell ⟨(w.heap.size + 1), 0, none⟩ (.int .i64 u.f)).setCell ⟨(w.heap.size + 1), 1, none⟩ (.int .i64 u.i)).setCell ⟨(w.heap.size + 1), 2, none⟩ (.int .i64 u.s)).setCell ⟨(w.heap.size + 1), 3, none⟩ (.int .i64 u.tf)).setCell ⟨(w.heap.size + 1), 4, none⟩ (.int .i64 u.tt)).setCell ⟨(w.heap.size + 1), 5, none⟩ (.int .i64 u.e)).heap[(w.heap.size + 1)]? = some (.cells #[.int .i64 u.f, .int .i64 u.i, .int .i64 u.s, .int .i64 u.tf, .int .i64 u.tt, .int .i64 u.e] 31 (0, 0)) ∧ (ok = true → u ∈ us) ∧ w.heap.size < (w.heap.size + 1) ∧ ((((((w3.setCell ⟨(w.heap.size + 1), 0, none⟩ (.int .i64 u.f)).setCell ⟨(w.heap.size + 1), 1, none⟩ (.int .i64 u.i)).setCell ⟨(w.heap.size + 1), 2, none⟩ (.int .i64 u.s)).setCell ⟨(w.heap.size + 1), 3, none⟩ (.int .i64 u.tf)).setCell ⟨(w.heap.size + 1), 4, none⟩ (.int .i64 u.tt)).setCell ⟨(w.heap.size + 1), 5, none⟩ (.int .i64 u.e)).heap[w.heap.size]? = some (.cells #[.int .i64 kd, .int .i64 at_, .int .i64 ln] 55 (0, 0))) := by
          have k4 := HK4.out
          exact ⟨(HB4.out).trans (k4.below (HB4.out).size (fun q e => by omega)), set6_own hZ, fun e => (x1 e).1, hbs, k4.heap HA4.out (by omega)⟩
        have e0 := cell_of_row w3 _ 0 _ _ _ hZ
        have g0 := frzB hZ 0
        have e1 := cell_of_row w3 _ 1 _ _ _ hZ
        have g1 := frzB hZ 1
        have e2 := cell_of_row w3 _ 2 _ _ _ hZ
        have g2 := frzB hZ 2
        have e3 := cell_of_row w3 _ 3 _ _ _ hZ
        have g3 := frzB hZ 3
        have e4 := cell_of_row w3 _ 4 _ _ _ hZ
        have g4 := frzB hZ 4
        have e5 := cell_of_row w3 _ 5 _ _ _ hZ
        have g5 := frzB hZ 5
        have hne : ¬ pb = (w.heap.size + 1) ∧ ¬ w.heap.size = (w.heap.size + 1) := ⟨by omega, by omega⟩
        clear hZ X3 B3 x1 x2 HB4 HA4 hsz
        try clear hsW
        clear Wa_e
        refine wpTo_one (i := 15) (by kernel_rfl) rfl (fun K hK => ?_)
        go_simp
        refine hK.out _ _ (fun _ => ⟨(HK4.out).cellv hS.1 hne.1, (HK4.out).cellv hS.2.1 hne.1, (HK4.out).cellv hS.2.2 hne.2⟩) (fun hS2 => ?_)
        clear hS hK K
        have hS := hS2 (by decide)
        clear hS2
        refine wpTo_one (i := 16) (by kernel_rfl) rfl (fun K hK => ?_)
        go_simp
        refine hK.out _ _ (fun h => absurd rfl h) (fun _ => wpTo_end (by kernel_rfl) ?_)
        clear hK K hS e0 e1 e2 e3 e4 e5 g0 g1 g2 g3 g4 g5
        go_wp2_with fail
        go_meet
        exact ⟨_, _, u, ok, rfl, rfl, rfl, HG⟩
    case rest =>
      obtain ⟨wy, b, u, ok, rfl, rfl, rfl, HX⟩ := hcut
      obtain ⟨hb, hU, hok, hbl, hT⟩ := HX.out
      cases ok with
      | true =>
        have hu := hok rfl
        have HC := hide ((HNK.out) u _ hu hb.drew)
        have r0 : wy.cell? ⟨pb, 0, none⟩ = some (.slice ao us.length cap) := kcb hb hpl (HP.out).c0
        have HU := hide hu
        have HB := hide hb
        have hbw := heap_lt hU
        have m0 : wy.cell? ⟨b, 0, none⟩ = some (.int .i64 u.f) := cell_of_row wy _ 0 _ _ _ hU
        have m1 : wy.cell? ⟨b, 1, none⟩ = some (.int .i64 u.i) := cell_of_row wy _ 1 _ _ _ hU
        have m2 : wy.cell? ⟨b, 2, none⟩ = some (.int .i64 u.s) := cell_of_row wy _ 2 _ _ _ hU
        have m3 : wy.cell? ⟨b, 3, none⟩ = some (.int .i64 u.tf) := cell_of_row wy _ 3 _ _ _ hU
        have m4 : wy.cell? ⟨b, 4, none⟩ = some (.int .i64 u.tt) := cell_of_row wy _ 4 _ _ _ hU
        have m5 : wy.cell? ⟨b, 5, none⟩ = some (.int .i64 u.e) := cell_of_row wy _ 5 _ _ _ hU
        clear HX HNA HNK hb hU hok hT hu HTok
        go_upto_region 4 with fail
        go_wp2_with fail
        refine wpTo_start (S := fun w' => w'.cell? ⟨pb, 0, none⟩ = some (.slice ao us.length cap) ∧ w'.cell? ⟨b, 0, none⟩ = some (.int .i64 u.f) ∧ w'.cell? ⟨b, 1, none⟩ = some (.int .i64 u.i) ∧ w'.cell? ⟨b, 2, none⟩ = some (.int .i64 u.s) ∧ w'.cell? ⟨b, 3, none⟩ = some (.int .i64 u.tf) ∧ w'.cell? ⟨b, 4, none⟩ = some (.int .i64 u.tt) ∧ w'.cell? ⟨b, 5, none⟩ = some (.int .i64 u.e)) (z := 6) (by kernel_rfl) ?_
        have hS : wy.drew.cell? ⟨pb, 0, none⟩ = some (.slice ao us.length cap) ∧ wy.drew.cell? ⟨b, 0, none⟩ = some (.int .i64 u.f) ∧ wy.drew.cell? ⟨b, 1, none⟩ = some (.int .i64 u.i) ∧ wy.drew.cell? ⟨b, 2, none⟩ = some (.int .i64 u.s) ∧ wy.drew.cell? ⟨b, 3, none⟩ = some (.int .i64 u.tf) ∧ wy.drew.cell? ⟨b, 4, none⟩ = some (.int .i64 u.tt) ∧ wy.drew.cell? ⟨b, 5, none⟩ = some (.int .i64 u.e) := ⟨r0, m0, m1, m2, m3, m4, m5⟩
        iterate 5 (refine wpTo_nx0 (v := ?_) rfl rfl (by kernel_rfl) (by kernel_rfl) (by kernel_rfl) (by kernel_rfl) (fun _ _ _ h => h) (Or.inl ⟨by rfl, ?_⟩) hS ?_; rotate_left; (· (intro wx hSw; (try dsimp only at hSw); go_simp; try (with_reducible rfl))); simp only [Act.put, List.setIfInBounds_toArray, List.set_cons_zero, List.set_cons_succ])
        refine wpTo_one (i := 5) (by kernel_rfl) rfl (fun K hK => ?_)
        go_simp
        refine (HC.out).mono ?_
        rintro e w5 ⟨n, rfl, B5⟩
        have HF : Hid (Below w.heap.size w w5) := ((HB.out).drew).trans (B5.mono (HB.out).size)
        have hpw : pb < wy.heap.size := by have := (HB.out).size; omega
        dsimp only
        refine hK.out _ _ (fun _ => ⟨kcb B5 hpw r0, kcb B5 hbw m0, kcb B5 hbw m1, kcb B5 hbw m2, kcb B5 hbw m3, kcb B5 hbw m4, kcb B5 hbw m5⟩) (fun _ => ?_)
        clear hK K hS B5 r0 m0 m1 m2 m3 m4 m5 HC
        refine wpTo_one (i := 6) (by kernel_rfl) rfl (fun K hK => ?_)
        go_simp
        refine hK.out _ _ (fun h => absurd rfl h) (fun _ => wpTo_end (by kernel_rfl) ?_)
        clear hK K
        go_wp2_with fail
        go_ret
        exact ⟨n, rfl, HF.out, fun e => (by have := HU.out; rw [e] at this; cases this)⟩
      | false =>
        obtain ⟨n, hn, h13⟩ := (HTok.out) wy hb
        have t0 : wy.cell? ⟨w.heap.size, 0, none⟩ = some (.int .i64 kd) := cell_of_row wy _ 0 _ _ _ hT
        have HB := hide hb
        have H13 := hide h13
        clear HX HNA HNK hb hU hok hT HTok h13 q3
        go_wp2_with fail
        go_ret
        exact ⟨n, rfl, HB.out, fun _ => H13.out⟩
  · have q3 : ((kd : Int) == 3) = false := by simp; omega
    obtain ⟨n, hn, h13⟩ := (HTok.out) _ kA
    have HB := hide kA
    have H3 := hide h3
    clear hA kA h hN hK hP h3 HTok h13 a1 p0 p1
    go_enter Tryz.func28, Tryz.ntmps28
    go_wp2_with fail
    go_ret
    exact ⟨n, rfl, HB.out, fun _ e => absurd e H3.out⟩
end Go.Proofs.YtgjbafamiggafaaGreatDoor
