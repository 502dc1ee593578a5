/- Package scope: Open, Names, Resolve. -/
import Derived.Test.YtgjbafamiggafaaGreatDoorJv
namespace Go.Proofs.YtgjbafamiggafaaGreatDoor
open Go.RowKit
open M
theorem IsAF.wide {w : World} {B B' : Nat} {ao : Option Addr} {l : List AF} (h : IsAF w B ao l) (hb : B ≤ B') : IsAF w B' ao l := fun j a hj => by
  obtain ⟨b, o, e1, e2, e3⟩ := h j a hj
  exact ⟨b, o, e1, Nat.lt_of_lt_of_le e2 hb, e3⟩
theorem infoPF : (Tryz.prog.info? 88).map (fun i => (i.zero, i.size, i.bytes)) = some (some (.pointer none), 1, 8) := by kernel_rfl
set_option maxRecDepth 100000 in
set_option maxHeartbeats 4000000 in
theorem resolve_no (ao : Option Addr) (cap : Nat) (l : List AF) (w : World) (hT : Tabs w) (h : IsAF w w.heap.size ao l) (hl : l.length ≤ cap) (hc : cap ≤ maxLen) (hf : fltF l ≠ 0) :
    Calls Tryz.prog 6 #[.slice ao l.length cap] w fun e w' => e = .returned (.tuple #[.slice none 0 0, .iface 29 (.int .i64 (fltF l))]) ∧ Below w.heap.size w w' := by
  have hC := fault_any ao cap l w hT h hl hc
  have he : errV (fltF l) = .iface 29 (.int .i64 (fltF l)) := if_neg hf
  rw [he] at hC
  have HC := hide hC
  clear h hT hf hC he
  generalize fltF l = r at *
  go_enter Tryz.func6, Tryz.ntmps6
  go_wp2_with fail
  refine (HC.out).mono ?_
  rintro e w1 ⟨rfl, B1⟩
  have HF := hide B1
  clear HC B1
  go_wp2_with fail
  go_ret2
  exact ⟨rfl, HF.out⟩
/-- Files without a fault. -/
theorem fltF_ok {l : List AF} (h : fltF l = 0) : l.length ≤ 16 ∧ Short l ∧ (∀ a ∈ l, nmOk a.n = true) ∧ (l.map (fun a => bs a.n)).Pairwise (· ≠ ·) := by
  unfold fltF at h
  by_cases h1 : 16 < l.length
  · rw [if_pos h1] at h; cases h
  · rw [if_neg h1] at h
    by_cases h2 : l.any (fun a => decide (20000 < a.t.size)) = true
    · rw [if_pos h2] at h; cases h
    · rw [if_neg h2] at h
      obtain ⟨a, b, -⟩ := fltN_ok h
      refine ⟨by omega, fun a ha => ?_, a, b⟩
      rcases Nat.lt_or_ge 20000 a.t.size with g | g
      · exact absurd (List.any_eq_true.2 ⟨a, ha, by simpa using g⟩) h2
      · exact g
theorem idx_new {l : List AF} (h : (l.map (fun a => bs a.n)).Pairwise (· ≠ ·)) {j : Nat} {a : AF} (ha : l[j]? = some a) : idxN (l.take j) (bs a.n) = none := by
  cases hi : idxN (l.take j) (bs a.n) with
  | none => rfl
  | some i =>
    exfalso
    have hm := (idxN_mem (l.take j) (bs a.n)).1 (by rw [hi]; rfl)
    obtain ⟨b, hb, e⟩ := List.mem_map.1 hm
    obtain ⟨i', hi', rfl⟩ := List.getElem_of_mem hb
    rw [List.length_take] at hi'
    have hjl : j < l.length := by
      rcases Nat.lt_or_ge j l.length with g | g
      · exact g
      · rw [List.getElem?_eq_none g] at ha; cases ha
    rw [List.getElem?_eq_getElem hjl] at ha
    have ha' := Option.some.inj ha
    have hp := List.pairwise_iff_getElem.1 h i' j (by rw [List.length_map]; omega) (by rw [List.length_map]; exact hjl) (by omega)
    rw [List.getElem_map, List.getElem_map, ha'] at hp
    rw [List.getElem_take] at e
    exact hp e
set_option maxRecDepth 100000 in
set_option maxHeartbeats 16000000 in
theorem open_any (l : List AF) (rv : Value) (IV : Nat → Value) (Lo Hi : Nat → Nat) (B : Nat) (w : World) (hI : IsFs w B rv l IV Lo Hi) (hn16 : l.length ≤ 16) (hsh : Short l) (hok : ∀ a ∈ l, nmOk a.n = true) (hpw : (l.map (fun a => bs a.n)).Pairwise (· ≠ ·)) :
    Calls Tryz.prog 20 #[rv] w fun e w' => e = .returned (.pointer (some ⟨w.heap.size + 1, 0, none⟩)) ∧ Hid (∃ Bf fv, InW w l w.heap.size (w.heap.size + 1) l.length Bf IV fv w') := by
  have hmm := mkMap
  obtain ⟨i0, hi0, hz0, hz1, hz2⟩ := info_parts infoPF
  obtain ⟨ao, cap, rfl, hcl, hcm, hx⟩ := hI.ex
  have HX := hide hx
  have HIT := hide hI.its
  have HSH := hide hsh
  have HOK := hide hok
  have HPW := hide hpw
  have HI0 : Hid (∃ Bf fv, InW w l w.heap.size (w.heap.size + 1) 0 Bf IV fv ((w.alloc (.map #[] 0)).alloc (.cells #[.map (some w.heap.size), .slice none 0 0] 87))) := ⟨_, _, InW.start w l IV⟩
  clear hx hI hsh hok hpw
  go_enter Tryz.func20, Tryz.ntmps20
  go_wp2_with fail
  generalize ((w.alloc (.map #[] 0)).alloc (.cells #[.map (some w.heap.size), .slice none 0 0] 87)) = W0 at *
  generalize hmb : w.heap.size = mb at *
  have HMB := hide hmb
  clear hmm hmb
  go_loopw [11] (fun v wr => ∃ j : Nat, v = .int .i64 j ∧ j ≤ l.length ∧ Hid (∃ Bf fv, InW w l mb (mb + 1) j Bf IV fv wr)) (fun v _ => l.length - (intOf v).toNat)
  case atStart => exact ⟨0, rfl, Nat.zero_le _, HI0⟩
  case round =>
    obtain ⟨j, rfl, hj, HI⟩ := hrel
    clear HI0
    by_cases hjl : j < l.length
    · obtain ⟨Bf, fv, hin⟩ := HI.out
      clear HI
      obtain ⟨a, ha⟩ : ∃ a, l[j]? = some a := ⟨l[j], List.getElem?_eq_getElem hjl⟩
      obtain ⟨b, e1, e2, -, e3, e4⟩ := (HX.out) j a ha
      subst e1
      obtain ⟨hits, -, hhi⟩ := (HIT.out) j a ha
      have hi1 : (j : Int) < (l.length : Int) := by omega
      have hmb := HMB.out
      have hww := hin.bl.size
      have e3' := kcb hin.bl (by omega) e3
      have e4' := kcb hin.bl (by omega) e4
      have hivs : ∃ ia ic, IV j = .slice ia (X.itsT (bs a.t)).length ic := by
        obtain ⟨ia, ic, -, e, -⟩ := hits.ex
        exact ⟨ia, ic, e⟩
      obtain ⟨ia, ic, hiv⟩ := hivs
      rw [hiv] at hits e4'
      have hlB := its_bd HSH.out j
      rw [fsOf_get ha] at hlB
      have hnl : nmOk a.n = true := (HOK.out) a (List.mem_of_getElem? ha)
      have hlen : (bs a.n).length ≤ maxLen := by
        unfold nmOk at hnl
        rw [bs_len]
        unfold maxLen
        have : a.n.size ≤ 40 := by simp at hnl; exact hnl.1
        omega
      have HFO : Hid (∀ W : World, Below w.heap.size w W → Calls Tryz.prog 32 #[.slice ia (X.itsT (bs a.t)).length ic] W fun e w' => e = .returned (.pointer (some ⟨W.heap.size + 2, 0, none⟩)) ∧ Hid (IsF W w' (IV j) (X.itsT (bs a.t)))) := fun W hW => by
        rw [hiv]
        exact fileOf_any (Lo j) (Hi j) _ _ W (hits.blw (Kp.ofBelow hW (fun _ => False)) (fun _ _ _ => id)) (by have := hW.size; omega) hlB.2.1 hlB.1
      clear hlB hits hiv
      generalize hil : (X.itsT (bs a.t)).length = il at *
      clear hil
      have hnew := idx_new HPW.out ha
      have kF : Below wr.heap.size wr (wr.alloc (.cells #[.string a.n, .slice ia il ic] 70)) := (Below.refl _ _).alloc (Nat.le_refl _) _
      have hF0 := heap_alloc_new wr (.cells #[.string a.n, .slice ia il ic] 70)
      have n0 : (wr.alloc (.cells #[.string a.n, .slice ia il ic] 70)).cell? ⟨wr.heap.size, 0, none⟩ = some (.string a.n) := cell_of_row _ _ 0 _ _ _ hF0
      have hwbl := heap_lt hin.blk
      have c0 : (wr.alloc (.cells #[.string a.n, .slice ia il ic] 70)).cell? ⟨mb + 1, 0, none⟩ = some (.map (some mb)) := kcb kF hwbl (cell_of_row wr _ 0 _ _ _ hin.blk)
      have hjm : j < maxLen := by unfold maxLen; omega
      have hj2 : j ≤ 9223372036854775807 := by omega
      obtain ⟨wm, hp1, hp2, hp3⟩ := (hin.mp.below kF.drew).run_put hjm hlen (i := j) hj2
      rw [ba_bs] at hp1
      have HIN := hide hin
      have HF0 := hide hF0
      have HP2 := hide hp2
      have HP3 := hide hp3
      have HKF := hide kF
      have HN := hide hnew
      clear hin kF hF0 hp2 hp3 hnl hnew e3 e4
      go_wp2_with fail
      generalize wr.alloc (.cells #[.string a.n, .slice ia il ic] 70) = Wa at *
      refine wpTo_start (S := fun w' => w'.cell? ⟨mb + 1, 0, none⟩ = some (.map (some mb)) ∧ w'.cell? ⟨wr.heap.size, 0, none⟩ = some (.string a.n)) (z := 7) (by kernel_rfl) ?_
      have hS : Wa.drew.cell? ⟨mb + 1, 0, none⟩ = some (.map (some mb)) ∧ Wa.drew.cell? ⟨wr.heap.size, 0, none⟩ = some (.string a.n) := ⟨c0, n0⟩
      iterate 7 (refine wpTo_nx0 (v := ?_) rfl rfl (by kernel_rfl) (by kernel_rfl) (by kernel_rfl) (by kernel_rfl) (fun _ _ _ h => h) (Or.inl ⟨by rfl, ?_⟩) hS ?_; rotate_left; (· (intro wx hSw; (try dsimp only at hSw); go_simp; try (with_reducible rfl))); simp only [Act.put, List.setIfInBounds_toArray, List.set_cons_zero, List.set_cons_succ])
      refine wpTo_one (i := 7) (by kernel_rfl) rfl (fun K hK => ?_)
      go_simp
      refine hK.out _ _ (fun h => absurd rfl h) (fun _ => wpTo_end (by kernel_rfl) ?_)
      clear hK K hS hp1 c0 n0
      have hks : Kp (fun q => q = mb) wr wm := Kp.trans (Kp.ofBelow (HKF.out).drew _) HP3.out (fun _ _ e => e)
      have HKS := hide hks
      have hFm := (HP3.out).heap (w := Wa.drew) HF0.out (by have := hwbl; omega)
      have n1 : wm.cell? ⟨wr.heap.size, 1, none⟩ = some (.slice ia il ic) := cell_of_row wm _ 1 _ _ _ hFm
      have hbm := hks.heap (HIN.out).blk (by omega)
      have c1 : wm.cell? ⟨mb + 1, 1, none⟩ = some fv := cell_of_row wm _ 1 _ _ _ hbm
      have hbw : Below w.heap.size w wm := (HIN.out).bl.trans (hks.below (HIN.out).bl.size (fun q e => by omega))
      have HRD := hide ((HFO.out) wm.drew hbw.drew)
      have HOW := hide (hks.owns (HIN.out).row (fun q hq e => (HIN.out).far q hq |>.1 e))
      have hlm := heap_lt hFm
      have hfv : ∃ fa fn fc, fv = .slice fa fn fc := by
        rcases (HIN.out).row.2 with ⟨e, -⟩ | ⟨g', cap', cur, e, -⟩
        · exact ⟨_, _, _, e⟩
        · exact ⟨_, _, _, e⟩
      obtain ⟨fa, fn, fc, rfl⟩ := hfv
      have HFar := hide (HIN.out).far
      have HO0 : Hid (∀ q, (Value.slice fa fn fc).ownBlock = some q → q < wr.heap.size) := fun q hq => (owns_ge (HIN.out).row q hq).2
      clear hks hFm hbm hbw HFO
      go_wp2_with fail
      refine wpTo_start (S := fun w' => w'.cell? ⟨mb + 1, 1, none⟩ = some (.slice fa fn fc) ∧ w'.cell? ⟨wr.heap.size, 1, none⟩ = some (.slice ia il ic)) (z := 12) (by kernel_rfl) ?_
      have hS : wm.drew.cell? ⟨mb + 1, 1, none⟩ = some (.slice fa fn fc) ∧ wm.drew.cell? ⟨wr.heap.size, 1, none⟩ = some (.slice ia il ic) := ⟨c1, n1⟩
      iterate 7 (refine wpTo_nx0 (v := ?_) rfl rfl (by kernel_rfl) (by kernel_rfl) (by kernel_rfl) (by kernel_rfl) (fun _ _ _ h => h) (Or.inl ⟨by rfl, ?_⟩) hS ?_; rotate_left; (· (intro wx hSw; (try dsimp only at hSw); go_simp; try (with_reducible rfl))); simp only [Act.put, List.setIfInBounds_toArray, List.set_cons_zero, List.set_cons_succ])
      refine wpTo_one (i := 7) (by kernel_rfl) rfl (fun K hK => ?_)
      go_simp
      refine (HRD.out).mono ?_
      rintro e w5 ⟨rfl, X5⟩
      have B5 := (X5.out).bl
      have c15 := kcb B5 (by show _ < wm.heap.size; omega) c1
      have n15 := kcb B5 (by show _ < wm.heap.size; omega) n1
      have hmz : wm.heap.size ≤ w5.heap.size := B5.size
      have HO5 := hide ((Kp.ofBelow (((Below.refl _ wm).drew).trans B5) (fun _ => False)).owns HOW.out (fun _ _ => id))
      dsimp only
      refine hK.out _ _ (fun _ => ⟨c15, n15⟩) (fun hS2 => ?_)
      clear hS hK K
      have hS := hS2 (by decide)
      clear hS2
      refine wpTo_one (i := 8) (by kernel_rfl) rfl (fun K hK => ?_)
      go_simp
      refine hK.out _ _ (fun _ => by first | go_keep | (dsimp only; go_keep)) (fun hS2 => ?_)
      clear hS hK K
      have hS := hS2 (by decide)
      clear hS2
      refine wpTo_one (i := 9) (by kernel_rfl) rfl (fun K hK => ?_)
      refine step_append_lies _ (by rfl) _ _ _ (by rfl) w.heap.size 88 i0 _ 1 8 Tryz.underlying85 hi0 hz0 hz1 hz2 rfl (by omega) (.slice fa fn fc) j _ (by rfl) ((HO5.out).alloc _)
        ⟨w5.heap.size, 0, none⟩ 1 1 [.pointer (some ⟨wm.heap.size + 2, 0, none⟩)] (by rfl) (by rfl) (World.news_of_block (cs := #[.pointer (some ⟨wm.heap.size + 2, 0, none⟩)]) (t := 88) (fr := (0, 0)) (heap_alloc_new w5 _)) (by simp [Value.oneCell'])
        (by omega) (by unfold maxLen; omega) (by omega) (by simp; omega) (w5.heap.size + 1) (by simp) ?_
      intro g cap7 w7 hown7 hgrow7 hat7 hlt7
      have hfar := HFar.out
      have ho0 := HO0.out
      have hwn : some (mb + 1) ≠ (Value.slice fa fn fc).ownBlock := fun e => (hfar _ e.symm).2.1 rfl
      have hwf : some wr.heap.size ≠ (Value.slice fa fn fc).ownBlock := fun e => by have := ho0 _ e.symm; omega
      have y0 : w7.cell? ⟨mb + 1, 1, none⟩ = some (.slice fa fn fc) := (hgrow7.cell_far ⟨mb + 1, 1, none⟩ (by simp; omega) hwn).trans hS.1
      have y1 := (hgrow7.cell_far ⟨wr.heap.size, 1, none⟩ (by simp; omega) hwf).trans hS.2
      have hblk5 : w5.heap[mb + 1]? = some (.cells #[.map (some mb), .slice fa fn fc] 87 (0, 0)) := (Kp.ofBelow (((Below.refl _ wm).drew).trans B5) (fun _ => False)).heap ((HKS.out).heap (HIN.out).blk (by omega)) id
      have x2 : w7.frozen? ⟨mb + 1, 1, none⟩ = false := (hgrow7.frozen_far ⟨mb + 1, 1, none⟩ (by simp; omega) hwn).trans ((World.frozen?_alloc_old _ _ ⟨mb + 1, 1, none⟩ (by simp; omega)).trans (frozen_of_row w5 _ 1 _ _ hblk5))
      show K (Act.put _ (some 32) _) w7
      refine hK.out _ _ (fun _ => ⟨y0, y1⟩) (fun hS2 => ?_)
      clear hS hK K
      have hS := hS2 (by decide)
      clear hS2
      simp only [Act.put, List.setIfInBounds_toArray, List.set_cons_zero, List.set_cons_succ]
      refine wpTo_one (i := 10) (by kernel_rfl) rfl (fun K hK => ?_)
      go_simp
      refine hK.out _ _ (fun _ => hS) (fun _ => ?_)
      clear hK K
      refine wpTo_one (i := 11) (by kernel_rfl) rfl (fun K hK => ?_)
      go_simp
      refine hK.out _ _ (fun _ => hS) (fun _ => ?_)
      clear hK K
      refine wpTo_one (i := 12) (by kernel_rfl) rfl (fun K hK => ?_)
      go_simp
      refine hK.out _ _ (fun h => absurd rfl h) (fun _ => wpTo_end (by kernel_rfl) ?_)
      clear hK K
      have HI8 : Hid (∃ Bf fv, InW w l mb (mb + 1) (j + 1) Bf IV fv (w7.setCell ⟨mb + 1, 1, none⟩ (.slice (some ⟨g, 0, none⟩) (j + 1) cap7))) := by
        have hb6 : Below w5.heap.size w5 (w5.alloc (.cells #[.pointer (some ⟨wm.heap.size + 2, 0, none⟩)] 88)) := (Below.refl _ w5).alloc (Nat.le_refl _) _
        obtain ⟨Bf', hmore⟩ := (HIN.out).more (by omega) (by omega) ha HN.out ((HKS.out).drew) ((HP2.out).below ((Below.refl _ wm).drew)) (Nat.le_refl _) X5.out hb6 hown7 hgrow7 (by rcases hat7 with e | e; exact .inl e; exact .inr (by rw [e]; simp))
        exact ⟨Bf', _, hmore⟩
      clear hown7 hgrow7 hat7 hlt7 y0 y1 x2 hS c15 n15 c1 n1 B5 X5 HO5 hfar ho0 hblk5
      go_wp2_with fail
      exact ⟨⟨j + 1, by simp, by omega, HI8⟩, by simp [intOf]; omega⟩
    · obtain rfl : j = l.length := by omega
      have hd1 : ¬ (l.length : Int) < (l.length : Int) := by omega
      have HF := HI
      clear HI
      go_wp2_with fail
      go_ret
      exact ⟨by rw [HMB.out]; rfl, by rw [HMB.out]; exact HF⟩
set_option maxRecDepth 100000 in
set_option maxHeartbeats 16000000 in
theorem kNames_any (l : List AF) (rv fv : Value) (IV : Nat → Value) (Lo Hi Bf : Nat → Nat) (B mb wb : Nat) (w wr : World) (hI : IsFs w B rv l IV Lo Hi) (hin : InW w l mb wb l.length Bf IV fv wr) (hw : w.heap.size ≤ mb) (hmw : mb < wb) (hn16 : l.length ≤ 16) (hsh : Short l) (hok : ∀ a ∈ l, nmOk a.n = true) :
    Calls Tryz.prog 21 #[.pointer (some ⟨wb, 0, none⟩)] wr fun e w' => ∃ nv, e = .returned nv ∧ Hid (Below w.heap.size w w' ∧ w'.ownsRow w.heap.size 31 6 nv (X.allU (fsOf l)).length (uvs (X.allU (fsOf l))) ∧ (X.allU (fsOf l)).length ≤ 1073741824) := by
  have hR := hin.run hw hmw hI hn16 hok hsh
  have hfsl := fsOf_len l
  have hfv : ∃ fa fc, fv = .slice fa l.length fc := by
    rcases hin.row.2 with ⟨e, h0⟩ | ⟨g', cap', cur, e, -⟩
    · exact ⟨none, 0, by rw [h0]; exact e⟩
    · exact ⟨_, _, e⟩
  obtain ⟨fa, fc, rfl⟩ := hfv
  have c1 : (wr.alloc (.cells #[.pointer (some ⟨wb, 0, none⟩), .int .i64 0, .slice none 0 0] 92)).cell? ⟨wb, 1, none⟩ = some (.slice fa l.length fc) := Lib.cell?_alloc_some _ (cell_of_row wr _ 1 _ _ _ hin.blk)
  obtain ⟨TP, hTP⟩ : ∃ TP : List X.U → World → Prop, TP = fun us w2 => ∃ f, Tld (wr.alloc (.cells #[.pointer (some ⟨wb, 0, none⟩), .int .i64 0, .slice none 0 0] 92)) ⟨wb, wr.heap.size, f, mb, (.slice fa l.length fc), fun i => Bf i + 2, Bf, IV, fun i => Bf i + 1⟩ (fsOf l) us (wr.alloc (.cells #[.pointer (some ⟨wb, 0, none⟩), .int .i64 0, .slice none 0 0] 92)) w2 := ⟨_, rfl⟩
  have HT0 : Hid (TP (usT (fsOf l) 0) (wr.alloc (.cells #[.pointer (some ⟨wb, 0, none⟩), .int .i64 0, .slice none 0 0] 92))) := by
    rw [hTP]
    exact ⟨0, noMem, hR, noMem_ok _, noMem_idle, Kx.refl _ _ _ _⟩
  have HTell : Hid (∀ (j : Nat) (w2 : World), j < l.length → TP (usT (fsOf l) j) w2 → Calls Tryz.prog 33 #[.pointer (some ⟨wr.heap.size, 0, none⟩), .int .i64 j] w2 fun e w3 => e = .returned (.tuple #[]) ∧ Hid (TP (usT (fsOf l) (j + 1)) w3)) := fun j w2 hj ht => by
    rw [hTP] at ht
    obtain ⟨f, M2, r2, m2, i2, x2⟩ := ht
    have hl1 := usT_len hsh j
    have hl2 := (its_bd hsh j).2.2 (fsOf l) j
    refine (tall_any j (by rw [hfsl]; exact hj) r2 m2 i2 (by omega)).mono ?_
    rintro e w3 ⟨rfl, X3⟩
    obtain ⟨M3, r3, m3, i3, x3⟩ := X3.out
    refine ⟨rfl, ?_⟩
    rw [hTP]
    exact ⟨j, M3, by rw [usT_snoc]; exact r3, m3, i3, Kx.trans x2 x3⟩
  have HFin : Hid (∀ w2 : World, TP (usT (fsOf l) l.length) w2 → ∃ nv, w2.cell? ⟨wr.heap.size, 2, none⟩ = some nv ∧ Hid (Below w.heap.size w w2 ∧ w2.ownsRow w.heap.size 31 6 nv (X.allU (fsOf l)).length (uvs (X.allU (fsOf l))) ∧ (X.allU (fsOf l)).length ≤ 1073741824)) := fun w2 ht => by
    rw [hTP] at ht
    obtain ⟨f, M2, r2, m2, i2, x2⟩ := ht
    obtain ⟨nv, -, -, b2, -, b4⟩ := r2.cells
    have e1 : X.allU (fsOf l) = usT (fsOf l) l.length := by unfold X.allU usT; rw [hfsl]
    rw [e1]
    have hbA : Below w.heap.size w (wr.alloc (.cells #[.pointer (some ⟨wb, 0, none⟩), .int .i64 0, .slice none 0 0] 92)) := hin.bl.alloc hin.bl.size _
    refine ⟨nv, b2, ?_, ⟨b4.1, ?_⟩, r2.lim⟩
    · refine hbA.trans (r2.kp.below hbA.size (fun q hq => ?_))
      rcases hq with e | ⟨i, hi, e⟩
      · have e' : q = wr.heap.size := e
        have := hin.bl.size
        omega
      · have e' : q = Bf i + 1 := e
        have := hin.ord i (by rw [← hfsl]; exact hi)
        omega
    · rcases b4.2 with hh | ⟨g', cap', cur, e, e2, r⟩
      · exact .inl hh
      · exact .inr ⟨g', cap', cur, e, Nat.le_trans hbA.size e2, r⟩
  clear hin hR hsh hok hTP hI
  go_enter Tryz.func21, Tryz.ntmps21
  go_wp2_with fail
  clear c1
  generalize wr.alloc (.cells #[.pointer (some ⟨wb, 0, none⟩), .int .i64 0, .slice none 0 0] 92) = W at *
  generalize wr.heap.size = tb at *
  go_loopw [13] (fun v w2 => ∃ j : Nat, v = .int .i64 j ∧ j ≤ l.length ∧ Hid (TP (usT (fsOf l) j) w2)) (fun v _ => l.length - (intOf v).toNat)
  case atStart => exact ⟨0, rfl, Nat.zero_le _, HT0⟩
  case round =>
    obtain ⟨j, rfl, hj, HI⟩ := hrel
    clear HT0
    by_cases hjl : j < l.length
    · have hi1 : (j : Int) < (l.length : Int) := by omega
      have HC := hide ((HTell.out) j _ hjl HI.out)
      clear HI
      go_wp2_with fail
      refine (HC.out).mono ?_
      rintro e w3 ⟨rfl, X3⟩
      clear HC
      go_wp2_with fail
      exact ⟨⟨j + 1, by simp, by omega, X3⟩, by simp [intOf]; omega⟩
    · obtain rfl : j = l.length := by omega
      have hd1 : ¬ (l.length : Int) < (l.length : Int) := by omega
      obtain ⟨nv, b2, HF⟩ := (HFin.out) _ HI.out
      clear HI HTell HFin
      have hnvs : ∃ na nn nc, nv = .slice na nn nc := by
        rcases (HF.out).2.1.2 with ⟨e, -⟩ | ⟨g', cap', cur, e, -⟩
        · exact ⟨_, _, _, e⟩
        · exact ⟨_, _, _, e⟩
      obtain ⟨na, nn, nc, rfl⟩ := hnvs
      go_wp2_with fail
      go_ret
      exact ⟨_, rfl, HF⟩
set_option maxRecDepth 100000 in
theorem scNames_any (l : List AF) (rv : Value) (IV : Nat → Value) (Lo Hi : Nat → Nat) (B : Nat) (w : World) (hI : IsFs w B rv l IV Lo Hi) (hn16 : l.length ≤ 16) (hsh : Short l) (hok : ∀ a ∈ l, nmOk a.n = true) (hpw : (l.map (fun a => bs a.n)).Pairwise (· ≠ ·)) :
    Calls Tryz.prog 12 #[rv] w fun e w' => ∃ nv, e = .returned nv ∧ Hid (Below w.heap.size w w' ∧ w'.ownsRow w.heap.size 31 6 nv (X.allU (fsOf l)).length (uvs (X.allU (fsOf l))) ∧ (X.allU (fsOf l)).length ≤ 1073741824) := by
  have HO := hide (open_any l rv IV Lo Hi B w hI hn16 hsh hok hpw)
  have HK : Hid (∀ wr, (∃ Bf fv, InW w l w.heap.size (w.heap.size + 1) l.length Bf IV fv wr) → Calls Tryz.prog 21 #[.pointer (some ⟨w.heap.size + 1, 0, none⟩)] wr fun e w' => ∃ nv, e = .returned nv ∧ Hid (Below w.heap.size w w' ∧ w'.ownsRow w.heap.size 31 6 nv (X.allU (fsOf l)).length (uvs (X.allU (fsOf l))) ∧ (X.allU (fsOf l)).length ≤ 1073741824)) := fun wr h => by
    obtain ⟨Bf, fv, h⟩ := h
    exact kNames_any l rv fv IV Lo Hi Bf B _ _ w wr hI h (Nat.le_refl _) (Nat.lt_succ_self _) hn16 hsh hok
  obtain ⟨ao, cap, rfl, -⟩ := hI.ex
  clear hI hsh hok hpw
  go_enter Tryz.func12, Tryz.ntmps12
  go_wp2_with fail
  refine (HO.out).mono ?_
  rintro e w1 ⟨rfl, X1⟩
  have HC := hide ((HK.out) w1 X1.out)
  clear HO HK X1
  go_wp2_with fail
  refine (HC.out).mono ?_
  rintro e w2 ⟨nv, rfl, HF⟩
  clear HC
  go_wp2_with fail
  go_ret
  exact ⟨_, rfl, HF⟩
set_option maxRecDepth 100000 in
theorem resolve_yes (ao : Option Addr) (cap : Nat) (l : List AF) (w : World) (hT : Tabs w) (h : IsAF w w.heap.size ao l) (hl : l.length ≤ cap) (hc : cap ≤ maxLen) (hf : fltF l = 0) :
    Calls Tryz.prog 6 #[.slice ao l.length cap] w fun e w' => ∃ nv, e = .returned (.tuple #[nv, .nilIface]) ∧ Hid (Below w.heap.size w w' ∧ w'.ownsRow w.heap.size 31 6 nv (X.allU (fsOf l)).length (uvs (X.allU (fsOf l))) ∧ (X.allU (fsOf l)).length ≤ 1073741824) := by
  obtain ⟨hn16, hsh, hok, hpw⟩ := fltF_ok hf
  have hCF := fault_any ao cap l w hT h hl hc
  rw [hf] at hCF
  have HC : Hid (Calls Tryz.prog 11 #[.slice ao l.length cap] w fun e w' => e = .returned .nilIface ∧ Below w.heap.size w w') := hCF
  have HS : Hid (∀ w1, Below w.heap.size w w1 → Calls Tryz.prog 13 #[.slice ao l.length cap] w1 fun e w' => ∃ rv, e = .returned rv ∧ Hid ((∃ IV Lo Hi, IsFs w' w1.heap.size rv l IV Lo Hi) ∧ Below w1.heap.size w1 w')) := fun w1 hb => syFiles_any ao cap l w1 (hT.below hb) ((h.below hb).wide hb.size) hn16 hsh
  have HNm : Hid (∀ rv B w2, (∃ IV Lo Hi, IsFs w2 B rv l IV Lo Hi) → Calls Tryz.prog 12 #[rv] w2 fun e w' => ∃ nv, e = .returned nv ∧ Hid (Below w2.heap.size w2 w' ∧ w'.ownsRow w2.heap.size 31 6 nv (X.allU (fsOf l)).length (uvs (X.allU (fsOf l))) ∧ (X.allU (fsOf l)).length ≤ 1073741824)) := fun rv B w2 hx => by
    obtain ⟨IV, Lo, Hi, hI⟩ := hx
    exact scNames_any l rv IV Lo Hi B w2 hI hn16 hsh hok hpw
  clear h hT hCF hsh hok hpw hf
  go_enter Tryz.func6, Tryz.ntmps6
  go_wp2_with fail
  refine (HC.out).mono ?_
  rintro e w1 ⟨rfl, B1⟩
  have HB1 := hide B1
  have HC2 := hide ((HS.out) w1 B1)
  clear HC B1 HS
  go_wp2_with fail
  refine (HC2.out).mono ?_
  rintro e w2 ⟨rv, rfl, X2⟩
  have HC3 := hide ((HNm.out) rv _ w2 (X2.out).1)
  have HB2 : Hid (Below w.heap.size w w2) := (HB1.out).trans ((X2.out).2.mono (HB1.out).size)
  obtain ⟨ra, rn, rc, rfl⟩ : ∃ ra rn rc, rv = .slice ra rn rc := by
    obtain ⟨IV, Lo, Hi, hI⟩ := (X2.out).1
    obtain ⟨ra, rc, e, -⟩ := hI.ex
    exact ⟨_, _, _, e⟩
  clear HC2 X2 HNm
  go_wp2_with fail
  refine (HC3.out).mono ?_
  rintro e w3 ⟨nv, rfl, X3⟩
  have HF : Hid (Below w.heap.size w w3 ∧ w3.ownsRow w.heap.size 31 6 nv (X.allU (fsOf l)).length (uvs (X.allU (fsOf l))) ∧ (X.allU (fsOf l)).length ≤ 1073741824) := by
    obtain ⟨h1, h2, h3⟩ := X3.out
    refine ⟨(HB2.out).trans (h1.mono (HB2.out).size), ⟨h2.1, ?_⟩, h3⟩
    rcases h2.2 with hh | ⟨g', cap', cur, e, e2, r⟩
    · exact .inl hh
    · exact .inr ⟨g', cap', cur, e, Nat.le_trans (HB2.out).size e2, r⟩
  clear HC3 X3
  go_wp2_with fail
  go_ret2
  exact ⟨_, rfl, HF⟩
end Go.Proofs.YtgjbafamiggafaaGreatDoor
/- The law ScopeStands. -/
namespace Go.Proofs.YtgjbafamiggafaaGreatDoor
open Go.RowKit
open M
theorem IsAF.one {w : World} (n t : ByteArray) : IsAF (w.alloc (.cells #[.string n, .string t] 37)) (w.alloc (.cells #[.string n, .string t] 37)).heap.size (some ⟨w.heap.size, 0, none⟩) [⟨n, t⟩] := fun j a hj => by
  match j with
  | 0 =>
    simp at hj
    subst hj
    have h0 := heap_alloc_new w (.cells #[.string n, .string t] 37)
    exact ⟨_, _, rfl, by simp, cell_of_row _ _ 0 _ _ _ h0, cell_of_row _ _ 1 _ _ _ h0⟩
  | j + 1 => simp at hj
def l0 : List AF := [⟨⟨#[97]⟩, ⟨#[100, 101, 102, 32, 120, 32, 61, 32, 49, 59]⟩⟩]
theorem flt0 : fltF l0 = 0 := by
  have h1 : nmOk ⟨#[97]⟩ = true := by
    unfold nmOk aloneB
    have : M.tok (bs ⟨#[97]⟩) = (3, (bs ⟨#[97]⟩).length) := by kernel_rfl
    rw [decide_eq_true (show (⟨#[97]⟩ : ByteArray).size ≤ 40 by decide), Bool.true_and]
    exact decide_eq_true ⟨by decide, this⟩
  unfold fltF l0
  rw [if_neg (by decide), if_neg (by decide), fltN, if_pos h1, if_neg (by simp), fltN]
theorem fs0 : fsOf l0 = [([97], X.I0)] := by
  have : X.itsT (bs ⟨#[100, 101, 102, 32, 120, 32, 61, 32, 49, 59]⟩) = X.I0 := X.itsT0
  unfold fsOf l0
  rw [List.map_cons, List.map_nil, this]
  rfl
theorem all0 : X.allU (fsOf l0) = [⟨0, 4, 0, 0, 4, 0⟩] := by
  rw [fs0]
  kernel_rfl
set_option maxRecDepth 100000 in
set_option maxHeartbeats 4000000 in
theorem lives0_any (w : World) (hT : Tabs w) : Calls Tryz.prog 5 #[] w fun e w' => e = .returned (.bool true) ∧ Below w.heap.size w w' := by
  have kA : Below w.heap.size w (w.alloc (.cells #[.string ⟨#[97]⟩, .string ⟨#[100, 101, 102, 32, 120, 32, 61, 32, 49, 59]⟩] 37)) := (Below.refl _ w).alloc (Nat.le_refl _) _
  have hR := resolve_yes (some ⟨w.heap.size, 0, none⟩) 1 l0 (w.alloc (.cells #[.string ⟨#[97]⟩, .string ⟨#[100, 101, 102, 32, 120, 32, 61, 32, 49, 59]⟩] 37)) (hT.below kA) (IsAF.one _ _) (Nat.le_refl _) (by unfold maxLen; omega) flt0
  rw [all0] at hR
  have HR : Hid (Calls Tryz.prog 6 #[.slice (some ⟨w.heap.size, 0, none⟩) 1 1] (w.alloc (.cells #[.string ⟨#[97]⟩, .string ⟨#[100, 101, 102, 32, 120, 32, 61, 32, 49, 59]⟩] 37)) _) := hide hR
  have HKA := hide kA
  clear hR kA
  go_enter Tryz.func5, Tryz.ntmps5
  go_wp2_with fail
  refine (HR.out).mono ?_
  rintro e w2 ⟨nv, rfl, X2⟩
  obtain ⟨b2, o2, -⟩ := X2.out
  obtain ⟨g, cap, rfl, -, -⟩ := o2.form (by simp)
  have c4 : w2.cell? ⟨g, 4, none⟩ = some (.int .i64 4) := (o2.cellAt 4 (by simp)).trans rfl
  have HF : Hid (Below w.heap.size w w2) := (HKA.out).trans (b2.mono (HKA.out).size)
  clear X2 b2 o2 HR HKA
  go_wp2_with fail
  go_ret
  exact ⟨rfl, HF.out⟩
end Go.Proofs.YtgjbafamiggafaaGreatDoor
/- The law ScopeStands. -/
namespace Go.Proofs.YtgjbafamiggafaaGreatDoor
open Go.RowKit
open M
theorem uvs_get : ∀ (us : List X.U) (i : Nat) (u : X.U), us[i]? = some u → ∀ j, j < 6 → (uvs us)[i * 6 + j]? = (uv u)[j]?
  | [], i, u, h, j, hj => by simp at h
  | a :: us, 0, u, h, j, hj => by
    simp at h
    subst h
    show (uv a ++ uvs us)[0 * 6 + j]? = _
    rw [List.getElem?_append_left (by show 0 * 6 + j < 6; omega), Nat.zero_mul, Nat.zero_add]
  | a :: us, i + 1, u, h, j, hj => by
    show (uv a ++ uvs us)[(i + 1) * 6 + j]? = _
    rw [List.getElem?_append_right (by show 6 ≤ (i + 1) * 6 + j; omega)]
    have : (i + 1) * 6 + j - (uv a).length = i * 6 + j := by show (i + 1) * 6 + j - 6 = _; omega
    rw [this]
    exact uvs_get us i u (by simpa using h) j hj
/-- Names that are told, in a slice. -/
theorem use_cells {w : World} {base : Nat} {nv : Value} {us : List X.U} (h : w.ownsRow base 31 6 nv us.length (uvs us)) {i : Nat} {u : X.U} (hu : us[i]? = some u) : ∃ g cap, nv = .slice (some ⟨g, 0, none⟩) us.length cap ∧ us.length ≤ cap ∧ cap ≤ maxLen ∧ g < w.heap.size ∧ w.cell? ⟨g, i * 6, none⟩ = some (.int .i64 u.f) ∧ w.cell? ⟨g, i * 6 + 1, none⟩ = some (.int .i64 u.i) ∧ w.cell? ⟨g, i * 6 + 2, none⟩ = some (.int .i64 u.s) ∧ w.cell? ⟨g, i * 6 + 3, none⟩ = some (.int .i64 u.tf) ∧ w.cell? ⟨g, i * 6 + 4, none⟩ = some (.int .i64 u.tt) ∧ w.cell? ⟨g, i * 6 + 5, none⟩ = some (.int .i64 u.e) := by
  have hil : i < us.length := by
    rcases Nat.lt_or_ge i us.length with g | g
    · exact g
    · rw [List.getElem?_eq_none g] at hu; cases hu
  obtain ⟨g, cap, rfl, -, hlt⟩ := h.form (by omega)
  rcases h.2 with ⟨e, -⟩ | ⟨g', cap', cur, e, -, -, hn, hm, -, -⟩
  · cases e
  · cases e
    have hc : ∀ j, j < 6 → w.cell? ⟨g, i * 6 + j, none⟩ = (uv u)[j]? := fun j hj => (h.cellAt (i * 6 + j) (by omega)).trans (uvs_get us i u hu j hj)
    exact ⟨g, cap, rfl, hn, hm, hlt, hc 0 (by omega), hc 1 (by omega), hc 2 (by omega), hc 3 (by omega), hc 4 (by omega), hc 5 (by omega)⟩
/-- How many names stand at a place, among the first ones. -/
def cntU (us : List X.U) (tf tt : Int) (k : Nat) : Nat := ((us.take k).filter (fun v => decide ((v.f : Int) = tf ∧ (v.i : Int) = tt))).length
theorem cntU_snoc {us : List X.U} {tf tt : Int} {k : Nat} {v : X.U} (h : us[k]? = some v) : cntU us tf tt (k + 1) = cntU us tf tt k + if (v.f : Int) = tf ∧ (v.i : Int) = tt then 1 else 0 := by
  unfold cntU
  rw [X.take_snoc h, List.filter_append, List.length_append]
  congr 1
  by_cases e : (v.f : Int) = tf ∧ (v.i : Int) = tt
  · rw [if_pos e]; simp [e]
  · rw [if_neg e]; simp [e]
set_option maxRecDepth 100000 in
set_option maxHeartbeats 16000000 in
theorem stands_any (ao : Option Addr) (cap : Nat) (l : List AF) (w : World) (hT : Tabs w) (h : IsAF w w.heap.size ao l) (hl : l.length ≤ cap) (hc : cap ≤ maxLen) :
    Calls Tryz.prog 3 #[.slice ao l.length cap] w fun e w' => e = .returned (.bool true) ∧ Below w.heap.size w w' := by
  have HV := hide (lives0_any w hT)
  by_cases hf : fltF l = 0
  · have hst := X.allU_stands (fs := fsOf l) (fun f _ => its_rdf f)
    have HR : Hid (∀ w1, Below w.heap.size w w1 → Calls Tryz.prog 6 #[.slice ao l.length cap] w1 fun e w' => ∃ nv, e = .returned (.tuple #[nv, .nilIface]) ∧ Hid (Below w1.heap.size w1 w' ∧ w'.ownsRow w1.heap.size 31 6 nv (X.allU (fsOf l)).length (uvs (X.allU (fsOf l))) ∧ (X.allU (fsOf l)).length ≤ 1073741824)) := fun w1 hb => resolve_yes ao cap l w1 (hT.below hb) (fun j a hj => by
      obtain ⟨b, o, q1, q2, q3, q4⟩ := h.below hb j a hj
      exact ⟨b, o, q1, Nat.lt_of_lt_of_le q2 hb.size, q3, q4⟩) hl hc hf
    generalize X.allU (fsOf l) = us at *
    have HST := hide hst
    clear hst h hT hf
    go_enter Tryz.func3, Tryz.ntmps3
    go_wp2_with fail
    refine (HV.out).mono ?_
    rintro e w1 ⟨rfl, B1⟩
    have HC := hide ((HR.out) w1 B1)
    have HB1 := hide B1
    clear HV HR B1
    go_wp2_with fail
    refine (HC.out).mono ?_
    rintro e w2 ⟨nv, rfl, X2⟩
    have B2 := (X2.out).1
    have hlim := (X2.out).2.2
    have hnv : ∃ na nc, nv = .slice na us.length nc := by
      rcases (X2.out).2.1.2 with ⟨e, h0⟩ | ⟨g', cap', cur, e, -⟩
      · exact ⟨none, 0, by rw [h0]; exact e⟩
      · exact ⟨_, _, e⟩
    obtain ⟨na, nc, rfl⟩ := hnv
    have HO := hide (X2.out).2.1
    have HB2 : Hid (Below w.heap.size w w2) := (HB1.out).trans (B2.mono (HB1.out).size)
    clear X2 B2 HC HB1
    go_wp2_with fail
    go_loopw [6] (fun v wr => ∃ i : Nat, v = .int .i64 i ∧ i ≤ us.length ∧ Hid (Below w2.heap.size w2 wr)) (fun v _ => us.length - (intOf v).toNat)
    case atStart => exact ⟨0, rfl, Nat.zero_le _, Below.refl _ w2⟩
    case round =>
      obtain ⟨i, rfl, hi, HB⟩ := hrel
      by_cases hil : i < us.length
      · obtain ⟨u, hu⟩ : ∃ u, us[i]? = some u := ⟨us[i], List.getElem?_eq_getElem hil⟩
        obtain ⟨g, cap2, e1, e2, e3, e4, c0, c1, c2, c3, c4, c5⟩ := use_cells ((Kp.ofBelow HB.out (fun _ => False)).owns HO.out (fun _ _ => id)) hu
        cases e1
        have hi1 : (i : Int) < (us.length : Int) := by omega
        have kU : Below w2.heap.size w2 (wr.alloc (.cells #[.int .i64 u.f, .int .i64 u.i, .int .i64 u.s, .int .i64 u.tf, .int .i64 u.tt, .int .i64 u.e] 31)) := (HB.out).alloc (HB.out).size _
        have hU0 := heap_alloc_new wr (.cells #[.int .i64 u.f, .int .i64 u.i, .int .i64 u.s, .int .i64 u.tf, .int .i64 u.tt, .int .i64 u.e] 31)
        have HKU := hide kU
        have HU0 := hide hU0
        have x3 : (wr.alloc (.cells #[.int .i64 u.f, .int .i64 u.i, .int .i64 u.s, .int .i64 u.tf, .int .i64 u.tt, .int .i64 u.e] 31)).cell? ⟨wr.heap.size, 3, none⟩ = some (.int .i64 u.tf) := cell_of_row _ _ 3 _ _ _ hU0
        have x4 : (wr.alloc (.cells #[.int .i64 u.f, .int .i64 u.i, .int .i64 u.s, .int .i64 u.tf, .int .i64 u.tt, .int .i64 u.e] 31)).cell? ⟨wr.heap.size, 4, none⟩ = some (.int .i64 u.tt) := cell_of_row _ _ 4 _ _ _ hU0
        clear kU hU0 HB
        by_cases hneg : u.tt < 0
        · clear x3
          go_wp2_with fail
          exact ⟨⟨i + 1, by simp, by omega, HKU⟩, by simp [intOf]; omega⟩
        · obtain ⟨hcnt, hall⟩ := (HST.out) u (List.mem_of_getElem? hu) (by omega)
          have HCN : Hid (cntU us u.tf u.tt us.length = 1) := by unfold cntU; rw [List.take_length]; exact hcnt
          have HAL := hide hall
          have hlt : wr.heap.size < (wr.alloc (.cells #[.int .i64 u.f, .int .i64 u.i, .int .i64 u.s, .int .i64 u.tf, .int .i64 u.tt, .int .i64 u.e] 31)).heap.size := by simp
          clear hcnt hall
          go_wp2_with fail
          generalize wr.alloc (.cells #[.int .i64 u.f, .int .i64 u.i, .int .i64 u.s, .int .i64 u.tf, .int .i64 u.tt, .int .i64 u.e] 31) = W1 at *
          clear c0 c1 c2 c3 c4 c5
          go_loopw [9, 8] (fun v c wr2 => ∃ k n : Nat, v = .int .i64 k ∧ c = .int .i64 n ∧ k ≤ us.length ∧ Hid (cntU us u.tf u.tt k = n) ∧ Hid (Below W1.heap.size W1 wr2)) (fun v _ _ => us.length - (intOf v).toNat)
          case atStart => exact ⟨0, 0, rfl, rfl, Nat.zero_le _, hide rfl, Below.refl _ W1⟩
          case round =>
            obtain ⟨k, n, rfl, rfl, hk, HN, HB2'⟩ := hrel
            have y3 := kcb HB2'.out hlt x3
            have y4 := kcb HB2'.out hlt x4
            have hbb : Below w2.heap.size w2 wr := (HKU.out).trans ((HB2'.out).mono (HKU.out).size)
            by_cases hkl : k < us.length
            · obtain ⟨v, hvv⟩ : ∃ v, us[k]? = some v := ⟨us[k], List.getElem?_eq_getElem hkl⟩
              obtain ⟨g', cap3, e1', e2', e3', e4', d0, d1, d2, d3, d4, d5⟩ := use_cells ((Kp.ofBelow hbb (fun _ => False)).owns HO.out (fun _ _ => id)) hvv
              cases e1'
              have hi2 : (k : Int) < (us.length : Int) := by omega
              have hn0 := HN.out
              have hnle : n ≤ us.length := by
                rw [← hn0]
                unfold cntU
                exact Nat.le_trans (List.length_filter_le _ _) (by rw [List.length_take]; omega)
              have HB3 : Hid (Below W1.heap.size W1 (wr.alloc (.cells #[.int .i64 v.f, .int .i64 v.i, .int .i64 v.s, .int .i64 v.tf, .int .i64 v.tt, .int .i64 v.e] 31))) := (HB2'.out).alloc (HB2'.out).size _
              have hsn := cntU_snoc (tf := u.tf) (tt := u.tt) hvv
              rw [hn0] at hsn
              clear hbb hn0 HN
              by_cases h1 : (v.f : Int) = u.tf
              · by_cases h2 : (v.i : Int) = u.tt
                · obtain ⟨a1, a2, a3⟩ := (HAL.out) v (List.mem_of_getElem? hvv) h1 h2
                  rw [if_pos ⟨h1, h2⟩] at hsn
                  have HS := hide hsn
                  rw [← h1] at y3
                  rw [← h2] at y4
                  have q3 : ¬ (2 : Int) < (v.s : Int) := by omega
                  rw [a1] at d3 HB3
                  rw [a2] at d4 HB3
                  have y3' := Lib.cell?_alloc_some (.cells #[.int .i64 v.f, .int .i64 v.i, .int .i64 v.s, .int .i64 v.f, .int .i64 v.i, .int .i64 v.e] 31) y3
                  have y4' := Lib.cell?_alloc_some (.cells #[.int .i64 v.f, .int .i64 v.i, .int .i64 v.s, .int .i64 v.f, .int .i64 v.i, .int .i64 v.e] 31) y4
                  clear h1 h2 hsn a1 a2 a3
                  go_wp2_with fail
                  exact ⟨⟨k + 1, n + 1, by simp, by simp, by omega, HS, HB3⟩, by simp [intOf]; omega⟩
                · rw [if_neg (fun e => h2 e.2)] at hsn
                  have HS := hide hsn
                  rw [← h1] at y3
                  have q2 : ((v.i : Int) == u.tt) = false := by simpa using h2
                  have y3' := Lib.cell?_alloc_some (.cells #[.int .i64 v.f, .int .i64 v.i, .int .i64 v.s, .int .i64 v.tf, .int .i64 v.tt, .int .i64 v.e] 31) y3
                  have y4' := Lib.cell?_alloc_some (.cells #[.int .i64 v.f, .int .i64 v.i, .int .i64 v.s, .int .i64 v.tf, .int .i64 v.tt, .int .i64 v.e] 31) y4
                  clear h1 h2 hsn
                  go_wp2_with fail
                  exact ⟨⟨k + 1, n, by simp, rfl, by omega, HS, HB3⟩, by simp [intOf]; omega⟩
              · rw [if_neg (fun e => h1 e.1)] at hsn
                have HS := hide hsn
                have q1 : ((v.f : Int) == u.tf) = false := by simpa using h1
                have y3' := Lib.cell?_alloc_some (.cells #[.int .i64 v.f, .int .i64 v.i, .int .i64 v.s, .int .i64 v.tf, .int .i64 v.tt, .int .i64 v.e] 31) y3
                clear h1 hsn
                go_wp2_with fail
                exact ⟨⟨k + 1, n, by simp, rfl, by omega, HS, HB3⟩, by simp [intOf]; omega⟩
            · obtain rfl : k = us.length := by omega
              have hd1 : ¬ (us.length : Int) < (us.length : Int) := by omega
              obtain rfl : n = 1 := (HN.out).symm.trans HCN.out
              have HB4 : Hid (Below w2.heap.size w2 wr) := hbb
              clear hbb y3 y4 HN HCN HAL HB2'
              go_wp2_with fail
              exact ⟨⟨i + 1, by simp, by omega, HB4⟩, by simp [intOf]; omega⟩
      · obtain rfl : i = us.length := by omega
        have hd1 : ¬ (us.length : Int) < (us.length : Int) := by omega
        have HF : Hid (Below w.heap.size w wr) := (HB2.out).trans ((HB.out).mono (HB2.out).size)
        clear HB
        go_wp2_with fail
        go_ret
        exact ⟨rfl, HF.out⟩
  · have HR : Hid (∀ w1, Below w.heap.size w w1 → Calls Tryz.prog 6 #[.slice ao l.length cap] w1 fun e w' => e = .returned (.tuple #[.slice none 0 0, .iface 29 (.int .i64 (fltF l))]) ∧ Below w1.heap.size w1 w') := fun w1 hb => resolve_no ao cap l w1 (hT.below hb) (fun j a hj => by
      obtain ⟨b, o, q1, q2, q3, q4⟩ := h.below hb j a hj
      exact ⟨b, o, q1, Nat.lt_of_lt_of_le q2 hb.size, q3, q4⟩) hl hc hf
    clear h hT hf
    generalize fltF l = r at *
    go_enter Tryz.func3, Tryz.ntmps3
    go_wp2_with fail
    refine (HV.out).mono ?_
    rintro e w1 ⟨rfl, B1⟩
    have HC := hide ((HR.out) w1 B1)
    have HB1 := hide B1
    clear HV HR B1
    go_wp2_with fail
    refine (HC.out).mono ?_
    rintro e w2 ⟨rfl, B2⟩
    have HF : Hid (Below w.heap.size w w2) := (HB1.out).trans (B2.mono (HB1.out).size)
    clear HC B2 HB1
    go_wp2_with fail
    go_ret
    exact ⟨rfl, HF.out⟩
end Go.Proofs.YtgjbafamiggafaaGreatDoor
