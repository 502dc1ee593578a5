/- Package scope: own, module, twice. -/
import Derived.Test.YtgjbafamiggafaaGreatDoorJa
namespace Go.Proofs.YtgjbafamiggafaaGreatDoor
open Go.RowKit
open M
variable {w0 : World} {L : Lay} {fs : List X.Fl} {M : Mem} {us : List X.U} {w : World}
set_option maxRecDepth 100000 in
set_option maxHeartbeats 1000000 in
theorem town_any (n : X.Nm) (s : Nat) (er : Nat) (h : Run w0 L fs M us w) (hlim : us.length + (X.ownU L.tf n s er).length ≤ 1073741824) :
    Calls Tryz.prog 86 #[.pointer (some ⟨L.tb, 0, none⟩), .agg #[.string (ba n.1), .int .i64 n.2], .int .i64 s, .int .i64 er] w fun e w' => e = .returned (.tuple #[]) ∧ Hid (Run w0 L fs M (us ++ X.ownU L.tf n s er) w' ∧ Kx L fs.length w0.heap.size w w') := by
  have kA : Below w.heap.size w (w.alloc (.cells #[.string (ba n.1), .int .i64 n.2] 136)).drew := ((Below.refl _ w).alloc (Nat.le_refl _) _).drew
  have hN := heap_alloc_new w (.cells #[.string (ba n.1), .int .i64 n.2] 136)
  have n0 : (w.alloc (.cells #[.string (ba n.1), .int .i64 n.2] 136)).cell? ⟨w.heap.size, 0, none⟩ = some (.string (ba n.1)) := cell_of_row _ _ 0 _ _ _ hN
  have n1 : (w.alloc (.cells #[.string (ba n.1), .int .i64 n.2] 136)).cell? ⟨w.heap.size, 1, none⟩ = some (.int .i64 n.2) := cell_of_row _ _ 1 _ _ _ hN
  obtain ⟨nv, -, t1, -⟩ := (h.alloc (.cells #[.string (ba n.1), .int .i64 n.2] 136)).cells
  have HC := hide (tadd_any n s L.tf n.2 er (h.below kA) hlim)
  have HK := hide kA
  have HS := hide h.st.lt
  have hsz := h.size
  have HN := hide hN
  clear kA h hlim hN
  go_enter Tryz.func86, Tryz.ntmps86
  go_wp2_with fail
  refine wpTo_start (S := fun w' => w'.cell? ⟨L.tb, 1, none⟩ = some (.int .i64 L.tf) ∧ w'.cell? ⟨w.heap.size, 0, none⟩ = some (.string (ba n.1)) ∧ w'.cell? ⟨w.heap.size, 1, none⟩ = some (.int .i64 n.2)) (z := 12) (by kernel_rfl) ?_
  have hS : (w.alloc (.cells #[.string (ba n.1), .int .i64 n.2] 136)).drew.cell? ⟨L.tb, 1, none⟩ = some (.int .i64 L.tf) ∧ (w.alloc (.cells #[.string (ba n.1), .int .i64 n.2] 136)).drew.cell? ⟨w.heap.size, 0, none⟩ = some (.string (ba n.1)) ∧ (w.alloc (.cells #[.string (ba n.1), .int .i64 n.2] 136)).drew.cell? ⟨w.heap.size, 1, none⟩ = some (.int .i64 n.2) := ⟨t1, n0, n1⟩
  iterate 11 (refine wpTo_nx (v := ?_) rfl rfl (by kernel_rfl) (by decide) (by kernel_rfl) (by kernel_rfl) (fun _ _ _ h => h) (Or.inl ⟨by rfl, ?_⟩) hS ?_; rotate_left; (· (intro wx hSw; (try dsimp only at hSw); go_simp; try (with_reducible rfl))); simp only [Act.put, List.setIfInBounds_toArray, List.set_cons_zero, List.set_cons_succ])
  refine wpTo_one (i := 11) (by kernel_rfl) rfl (fun K hK => ?_)
  go_simp
  refine (HC.out).mono ?_
  rintro e w2 ⟨rfl, H2⟩
  have HF : Hid (Run w0 L fs M (us ++ X.ownU L.tf n s er) w2 ∧ Kx L fs.length w0.heap.size w w2) := ⟨(H2.out).1, (Kx.ofBelow HK.out).trans (H2.out).2⟩
  have hN2 := (H2.out).2.made HS.out HN.out hsz (fun cs d e => by cases e)
  obtain ⟨nv2, -, u1, -⟩ := (H2.out).1.cells
  have m0 := cell_of_row w2 _ 0 _ _ _ hN2
  have m1 := cell_of_row w2 _ 1 _ _ _ hN2
  dsimp only
  refine hK.out _ _ (fun _ => ⟨u1, m0, m1⟩) (fun _ => wpTo_end (by kernel_rfl) ?_)
  clear hK K hS HC HK H2 hN2 m0 m1 u1 n0 n1 t1 HN
  go_wp2_with fail
  go_end0
  exact ⟨rfl, HF⟩
theorem nameMissing_is (x : List UInt8) (n : Int) (w : World) (b : Bool) (hb : x.isEmpty = b) :
    Calls Tryz.prog 51 #[.agg #[.string (ba x), .int .i64 n]] w fun e w' => e = .returned (.bool b) ∧ Below w.heap.size w w' := by
  subst hb
  exact nameMissing_any x n w
theorem called_of {w : World} {lo hi : Nat} {v : Value} {it : X.It} (h : IsIt w lo hi v it) : ∃ b, (v = .iface 104 (.pointer (some ⟨b, 0, none⟩)) ∧ Calls Tryz.prog 167 #[.pointer (some ⟨b, 0, none⟩)] w fun e w' => e = .returned (.agg #[.string (ba (X.called it).1), .int .i64 (X.called it).2]) ∧ Below w.heap.size w w') ∨ (v = .iface 106 (.pointer (some ⟨b, 0, none⟩)) ∧ Calls Tryz.prog 169 #[.pointer (some ⟨b, 0, none⟩)] w fun e w' => e = .returned (.agg #[.string (ba (X.called it).1), .int .i64 (X.called it).2]) ∧ Below w.heap.size w w') := by
  cases h with
  | use b pub gs m n a hb h => exact ⟨b, .inl ⟨rfl, useCalled_any b pub gs m n a w h⟩⟩
  | dfn b pub n pv ps v e hb h hp he => exact ⟨b, .inr ⟨rfl, defCalled_any b pub n pv v _ _ w h⟩⟩
theorem called_B {it : X.It} (h : X.itB 268435456 it) : X.nmB 268435456 (X.called it) := by
  cases it with
  | use p m n gs a =>
    show X.nmB _ (if gs then a else n)
    cases gs
    · exact h.2.1
    · exact h.2.2
  | dfn p n ps b => exact h.1
/-- A name that an item has is had by some item. -/
theorem topI_some {l : List X.It} {k : Nat} {it : X.It} (hk : l[k]? = some it) (hn : (X.called it).1 ≠ []) : ∃ j, X.topI l (X.called it).1 = some j := by
  unfold X.topI
  rw [if_neg hn]
  cases hf : l.findIdx? (fun it' => (X.called it').1 == (X.called it).1) with
  | some j => exact ⟨j, rfl⟩
  | none =>
    have := List.findIdx?_eq_none_iff.1 hf it (List.mem_of_getElem? hk)
    simp at this
set_option maxRecDepth 100000 in
set_option maxHeartbeats 2000000 in
theorem isTwice_any (i k : Nat) (it : X.It) (hk : (X.itemsOf fs i)[k]? = some it) (h : Run w0 L fs M us w) :
    Calls Tryz.prog 105 #[.pointer (some ⟨L.fb i, 0, none⟩), .int .i64 k] w fun e w' => e = .returned (.bool (X.twiceE (X.itemsOf fs i) k (X.called it).1 == 5)) ∧ Below w.heap.size w w' := by
  obtain ⟨hil, hkl⟩ := item_lt hk
  obtain ⟨g, cap, v, lo, hi, e1, e2, e3, e4, e5, -, -⟩ := h.item hil hk
  have hf := h.file hil
  rw [e1] at hf
  have f0 := cell_of_row w _ 0 _ _ _ hf
  have f1 := cell_of_row w _ 1 _ _ _ hf
  have hfl := heap_lt hf
  obtain ⟨kk, hmp⟩ := h.named hil
  obtain ⟨ba1, ba2⟩ := called_B (h.itB hk)
  have hIl : (X.itemsOf fs i).length ≤ 268435456 := h.st.il i
  obtain ⟨b, hcase⟩ := called_of e5
  have hi1 : (k : Int) < ((X.itemsOf fs i).length : Int) := by omega
  have HM := hide hmp
  have hnm : (X.called it).1 ≠ [] → ∃ j, X.topI (X.itemsOf fs i) (X.called it).1 = some j := topI_some hk
  have hj : ∀ j, X.topI (X.itemsOf fs i) (X.called it).1 = some j → j < 268435456 := fun j hj => by
    obtain ⟨it', hit, -⟩ := X.topI_name hj
    have := (item_lt hit).2
    omega
  generalize hnn : X.called it = nn at *
  generalize hA : (X.twiceE (X.itemsOf fs i) k nn.1 == 5) = A
  have HA := hide hA
  have hlen : nn.1.length ≤ maxLen := by unfold maxLen; omega
  clear hmp hnn hA h e5 hf e1
  have key : ∀ w2 : World, Below w.heap.size w w2 → Mp w2 (L.nb i) kk (X.topI (X.itemsOf fs i)) := fun w2 hb => (HM.out).below hb
  have HKEY := hide key
  clear key
  rcases hcase with ⟨rfl, hc⟩ | ⟨rfl, hc⟩
  all_goals
    have HC := hide hc
    clear hc
    go_enter Tryz.func105, Tryz.ntmps105
    go_wp2_with fail
    refine (HC.out).mono ?_
    rintro e w2 ⟨rfl, B2⟩
    have g1 := kcb B2 hfl f1
    have kC : Below w.heap.size w (w2.alloc (.cells #[.string (ba nn.1), .int .i64 nn.2] 136)) := B2.alloc B2.size _
    have hN : (w2.alloc (.cells #[.string (ba nn.1), .int .i64 nn.2] 136)).heap[w2.heap.size]? = some (.cells #[.string (ba nn.1), .int .i64 nn.2] 136 (0, 0)) := heap_alloc_new w2 _
    have HB2 := hide B2
    have HKC := hide kC
    have hsz : w2.heap.size < (w2.alloc (.cells #[.string (ba nn.1), .int .i64 nn.2] 136)).heap.size := by simp
    clear kC B2 HC
    have N0 := cell_of_row _ _ 0 _ _ _ hN
    have N1 := cell_of_row _ _ 1 _ _ _ hN
    have g1' := Lib.cell?_alloc_some (.cells #[.string (ba nn.1), .int .i64 nn.2] 136) g1
    have hw2 : L.fb i < w2.heap.size := Nat.lt_of_lt_of_le hfl (HB2.out).size
    have hw3 : L.fb i < (w2.alloc (.cells #[.string (ba nn.1), .int .i64 nn.2] 136)).heap.size := by simp; omega
    clear hN
    by_cases hn : nn.1 = []
    · have e1 : nn.1.isEmpty = true := by rw [hn]; rfl
      have HA2 : Hid (A = false) := by rw [← HA.out]; unfold X.twiceE; rw [if_pos (.inl hn)]; exact hide rfl
      clear HA hn
      go_wp2_with fail
      generalize w2.alloc (.cells #[.string (ba nn.1), .int .i64 nn.2] 136) = w3 at *
      refine wp_region_noPanic ?_
      refine wpTo_start (S := fun w' => w'.cell? ⟨w2.heap.size, 0, none⟩ = some (.string (ba nn.1)) ∧ w'.cell? ⟨w2.heap.size, 1, none⟩ = some (.int .i64 nn.2)) (z := 14) (by kernel_rfl) ?_
      have hS : w3.drew.cell? ⟨w2.heap.size, 0, none⟩ = some (.string (ba nn.1)) ∧ w3.drew.cell? ⟨w2.heap.size, 1, none⟩ = some (.int .i64 nn.2) := ⟨N0, N1⟩
      refine wpTo_take (i := 0) (dn := 14) (v := ?_) rfl rfl (by kernel_rfl) (by kernel_rfl) (by kernel_rfl) (by kernel_rfl) (fun _ _ _ h => h) (Or.inl ⟨by rfl, ?_⟩) hS ?_
      rotate_left
      · (intro wx hSw; (try dsimp only at hSw); go_simp; try (with_reducible rfl))
      simp only [Act.put, List.setIfInBounds_toArray, List.set_cons_zero, List.set_cons_succ]
      refine wpTo_one (i := 1) (by kernel_rfl) rfl (fun K hK => ?_)
      go_simp
      refine (nameMissing_is nn.1 nn.2 _ true e1).mono ?_
      rintro e w4 ⟨rfl, B4⟩
      have N0' := kcb B4 hsz N0
      have N1' := kcb B4 hsz N1
      go_simp
      refine hK.out _ _ (fun _ => ⟨N0', N1'⟩) (fun hS2 => ?_)
      clear hS hK K
      have hS := hS2 (by decide)
      clear hS2
      refine wpTo_take (i := 2) (dn := 16) (v := ?_) rfl rfl (by kernel_rfl) (by kernel_rfl) (by kernel_rfl) (by kernel_rfl) (fun _ _ _ h => h) (Or.inl ⟨by rfl, ?_⟩) hS ?_
      rotate_left
      · (intro wx hSw; (try dsimp only at hSw); go_simp; try (with_reducible rfl))
      simp only [Act.put, List.setIfInBounds_toArray, List.set_cons_zero, List.set_cons_succ]
      refine wpTo_take (i := 3) (dn := 17) (v := ?_) rfl rfl (by kernel_rfl) (by kernel_rfl) (by kernel_rfl) (by kernel_rfl) (fun _ _ _ h => h) (Or.inl ⟨by rfl, ?_⟩) hS ?_
      rotate_left
      · (intro wx hSw; (try dsimp only at hSw); go_simp; try (with_reducible rfl))
      simp only [Act.put, List.setIfInBounds_toArray, List.set_cons_zero, List.set_cons_succ]
      refine wpTo_take (i := 4) (dn := 18) (v := undef) rfl rfl (by kernel_rfl) (by kernel_rfl) (by kernel_rfl) (by kernel_rfl) (fun _ _ _ h => h) (Or.inr ⟨by rfl, rfl⟩) hS ?_
      simp only [Act.put, List.setIfInBounds_toArray, List.set_cons_zero, List.set_cons_succ]
      refine wpTo_take (i := 5) (dn := 19) (v := undef) rfl rfl (by kernel_rfl) (by kernel_rfl) (by kernel_rfl) (by kernel_rfl) (fun _ _ _ h => h) (Or.inr ⟨by rfl, rfl⟩) hS ?_
      simp only [Act.put, List.setIfInBounds_toArray, List.set_cons_zero, List.set_cons_succ]
      refine wpTo_take (i := 6) (dn := 20) (v := undef) rfl rfl (by kernel_rfl) (by kernel_rfl) (by kernel_rfl) (by kernel_rfl) (fun _ _ _ h => h) (Or.inr ⟨by rfl, rfl⟩) hS ?_
      simp only [Act.put, List.setIfInBounds_toArray, List.set_cons_zero, List.set_cons_succ]
      refine wpTo_take (i := 7) (dn := 21) (v := undef) rfl rfl (by kernel_rfl) (by kernel_rfl) (by kernel_rfl) (by kernel_rfl) (fun _ _ _ h => h) (Or.inr ⟨by rfl, rfl⟩) hS ?_
      simp only [Act.put, List.setIfInBounds_toArray, List.set_cons_zero, List.set_cons_succ]
      refine wpTo_take (i := 8) (dn := 22) (v := undef) rfl rfl (by kernel_rfl) (by kernel_rfl) (by kernel_rfl) (by kernel_rfl) (fun _ _ _ h => h) (Or.inr ⟨by rfl, rfl⟩) hS ?_
      simp only [Act.put, List.setIfInBounds_toArray, List.set_cons_zero, List.set_cons_succ]
      refine wpTo_take (i := 9) (dn := 23) (v := undef) rfl rfl (by kernel_rfl) (by kernel_rfl) (by kernel_rfl) (by kernel_rfl) (fun _ _ _ h => h) (Or.inr ⟨by rfl, rfl⟩) hS ?_
      simp only [Act.put, List.setIfInBounds_toArray, List.set_cons_zero, List.set_cons_succ]
      refine wpTo_take (i := 10) (dn := 24) (v := undef) rfl rfl (by kernel_rfl) (by kernel_rfl) (by kernel_rfl) (by kernel_rfl) (fun _ _ _ h => h) (Or.inr ⟨by rfl, rfl⟩) hS ?_
      simp only [Act.put, List.setIfInBounds_toArray, List.set_cons_zero, List.set_cons_succ]
      refine wpTo_take (i := 11) (dn := 25) (v := undef) rfl rfl (by kernel_rfl) (by kernel_rfl) (by kernel_rfl) (by kernel_rfl) (fun _ _ _ h => h) (Or.inr ⟨by rfl, rfl⟩) hS ?_
      simp only [Act.put, List.setIfInBounds_toArray, List.set_cons_zero, List.set_cons_succ]
      refine wpTo_take (i := 12) (dn := 26) (v := undef) rfl rfl (by kernel_rfl) (by kernel_rfl) (by kernel_rfl) (by kernel_rfl) (fun _ _ _ h => h) (Or.inr ⟨by rfl, rfl⟩) hS ?_
      simp only [Act.put, List.setIfInBounds_toArray, List.set_cons_zero, List.set_cons_succ]
      refine wpTo_take (i := 13) (dn := 27) (v := ?_) rfl rfl (by kernel_rfl) (by kernel_rfl) (by kernel_rfl) (by kernel_rfl) (fun _ _ _ h => h) (Or.inl ⟨by rfl, ?_⟩) hS ?_
      rotate_left
      · (intro wx hSw; (try dsimp only at hSw); go_simp; try (with_reducible rfl))
      simp only [Act.put, List.setIfInBounds_toArray, List.set_cons_zero, List.set_cons_succ]
      refine wpTo_one (i := 14) (by kernel_rfl) rfl (fun K hK => ?_)
      go_simp
      refine hK.out _ _ (fun h => absurd rfl h) (fun _ => wpTo_end (by kernel_rfl) ?_)
      clear hK K hS
      refine NoPanic.normal ?_
      have HF : Hid (Below w.heap.size w w4) := ((HKC.out).drew).trans (B4.mono ((HKC.out).size))
      clear B4 N0 N1 N0' N1'
      go_wp2_with fail
      go_ret
      exact ⟨by rw [HA2.out]; rfl, HF.out⟩
    · have e1 : nn.1.isEmpty = false := by cases hx : nn.1 with | nil => exact absurd hx hn | cons a l => rfl
      obtain ⟨j, hj2⟩ := hnm hn
      have hjl := hj j hj2
      have HRn : Hid (∀ w2 : World, Below w.heap.size w w2 → (Instr.lookup 59 (.map (some (L.nb i))) (.string (ba nn.1)) false).run Tryz.prog w2 = .ok (.int .i64 j) w2) := fun w2 hb => by
        have := ((HKEY.out) w2 hb).run_no hlen
        rw [hj2] at this
        exact this
      have HA2 : Hid (A = !((j : Int) == k)) := by
        rw [← HA.out]
        unfold X.twiceE
        rw [hj2]
        by_cases hjk : j = k
        · subst hjk
          rw [if_pos (.inr rfl)]
          exact hide (by simp)
        · rw [if_neg (fun e => by rcases e with e | e; exact hn e; exact hjk (Option.some.inj e))]
          have : ((j : Int) == k) = false := by simp; omega
          rw [this]
          exact hide rfl
      clear HA hn hj2 hnm hj
      go_wp2_with fail
      have hR3 := (HRn.out) _ (HKC.out).drew
      generalize w2.alloc (.cells #[.string (ba nn.1), .int .i64 nn.2] 136) = w3 at *
      go_region_held3 (fun w' => w'.cell? ⟨w2.heap.size, 0, none⟩ = some (.string (ba nn.1)) ∧ w'.cell? ⟨w2.heap.size, 1, none⟩ = some (.int .i64 nn.2) ∧ w'.cell? ⟨L.fb i, 1, none⟩ = some (.map (some (L.nb i))) ∧ (Instr.lookup 59 (.map (some (L.nb i))) (.string (ba nn.1)) false).run Tryz.prog w' = .ok (.int .i64 j) w')
        (first | (with_reducible exact ⟨N0, N1, g1', hR3⟩) | (with_reducible exact ⟨N0', N1', g1'', hR4⟩) | go_keep)
        ((go_at_call 51; refine (nameMissing_is nn.1 nn.2 _ false e1).mono ?_; rintro e w4 ⟨rfl, B4⟩; have N0' := kcb B4 hsz N0; have N1' := kcb B4 hsz N1; have g1'' := kcb B4 hw3 g1'; have hR4 := (HRn.out) w4 (((HKC.out).drew).trans (B4.mono ((HKC.out).size)))))
      have HF : Hid (Below w.heap.size w w4) := ((HKC.out).drew).trans (B4.mono ((HKC.out).size))
      clear B4 N0 N1 N0' N1' g1' g1'' hR3 hR4
      go_wp2_with fail
      go_ret
      exact ⟨by rw [HA2.out]; rfl, HF.out⟩
end Go.Proofs.YtgjbafamiggafaaGreatDoor
/- Package scope: twice, module. -/
namespace Go.Proofs.YtgjbafamiggafaaGreatDoor
open Go.RowKit
open M
variable {w0 : World} {L : Lay} {fs : List X.Fl} {M : Mem} {us : List X.U} {w : World}
theorem isTwice_is (i k : Nat) (it : X.It) (hk : (X.itemsOf fs i)[k]? = some it) (h : Run w0 L fs M us w) (b : Bool) (hb : (X.twiceE (X.itemsOf fs i) k (X.called it).1 == 5) = b) :
    Calls Tryz.prog 105 #[.pointer (some ⟨L.fb i, 0, none⟩), .int .i64 k] w fun e w' => e = .returned (.bool b) ∧ Below w.heap.size w w' := by
  subst hb
  exact isTwice_any i k it hk h
set_option maxRecDepth 100000 in
set_option maxHeartbeats 2000000 in
theorem ttwice_any (k : Nat) (it : X.It) (hk : (X.itemsOf fs L.tf)[k]? = some it) (h : Run w0 L fs M us w) :
    Calls Tryz.prog 84 #[.pointer (some ⟨L.tb, 0, none⟩), .int .i64 k] w fun e w' => e = .returned (.int .i64 (X.twiceE (X.itemsOf fs L.tf) k (X.called it).1)) ∧ Below w.heap.size w w' := by
  obtain ⟨hil, hkl⟩ := item_lt hk
  have hn16 := h.st.n
  obtain ⟨nv, t0, t1, -⟩ := h.cells
  obtain ⟨-, c1⟩ := h.wsp
  obtain ⟨g, cap, e1, e2, e3, e4⟩ := h.files hil
  rw [e1] at c1
  have hi1 : (L.tf : Int) < (fs.length : Int) := by omega
  have htl : L.tb < w.heap.size := World.block_lt_of_cell? w ⟨L.tb, 0, none⟩ t0
  have hwl : L.wb < w.heap.size := World.block_lt_of_cell? w ⟨L.wb, 1, none⟩ c1
  have hgl : g < w.heap.size := World.block_lt_of_cell? w ⟨g, L.tf, none⟩ e4
  have htw : X.twiceE (X.itemsOf fs L.tf) k (X.called it).1 = 5 ∨ X.twiceE (X.itemsOf fs L.tf) k (X.called it).1 = 0 := by
    unfold X.twiceE
    split
    · exact .inr rfl
    · exact .inl rfl
  have kD : Below w.heap.size w w.drew := (Below.refl _ w).drew
  rcases htw with ht | ht
  · have HC := hide (isTwice_is L.tf k it hk (h.below kD) true (by rw [ht]; rfl))
    clear h kD
    rw [ht]
    go_enter Tryz.func84, Tryz.ntmps84
    go_wp2_with fail
    refine wpTo_start (S := fun w' => w'.cell? ⟨L.tb, 0, none⟩ = some (.pointer (some ⟨L.wb, 0, none⟩)) ∧ w'.cell? ⟨L.tb, 1, none⟩ = some (.int .i64 L.tf) ∧ w'.cell? ⟨L.wb, 1, none⟩ = some (.slice (some ⟨g, 0, none⟩) fs.length cap) ∧ w'.cell? ⟨g, L.tf, none⟩ = some (.pointer (some ⟨L.fb L.tf, 0, none⟩))) (z := 15) (by kernel_rfl) ?_
    have hS : w.drew.cell? ⟨L.tb, 0, none⟩ = some (.pointer (some ⟨L.wb, 0, none⟩)) ∧ w.drew.cell? ⟨L.tb, 1, none⟩ = some (.int .i64 L.tf) ∧ w.drew.cell? ⟨L.wb, 1, none⟩ = some (.slice (some ⟨g, 0, none⟩) fs.length cap) ∧ w.drew.cell? ⟨g, L.tf, none⟩ = some (.pointer (some ⟨L.fb L.tf, 0, none⟩)) := ⟨t0, t1, c1, e4⟩
    iterate 14 (refine wpTo_nx (v := ?_) rfl rfl (by kernel_rfl) (by decide) (by kernel_rfl) (by kernel_rfl) (fun _ _ _ h => h) (Or.inl ⟨by rfl, ?_⟩) hS ?_; rotate_left; (· (intro wx hSw; (try dsimp only at hSw); go_simp; try (with_reducible rfl))); simp only [Act.put, List.setIfInBounds_toArray, List.set_cons_zero, List.set_cons_succ])
    refine wpTo_one (i := 14) (by kernel_rfl) rfl (fun K hK => ?_)
    go_simp
    refine (HC.out).mono ?_
    rintro e w4 ⟨rfl, B4⟩
    dsimp only
    refine hK.out _ _ (fun _ => ⟨kcb B4 htl hS.1, kcb B4 htl hS.2.1, kcb B4 hwl hS.2.2.1, kcb B4 hgl hS.2.2.2⟩) (fun _ => wpTo_end (by kernel_rfl) ?_)
    have HF : Hid (Below w.heap.size w w4) := (Below.refl _ w).drew.trans B4
    clear hK K hS B4 t0 t1 c1 e4 HC
    go_wp2_with fail
    go_ret
    exact ⟨rfl, HF.out⟩
  · have HC := hide (isTwice_is L.tf k it hk (h.below kD) false (by rw [ht]; rfl))
    clear h kD
    rw [ht]
    go_enter Tryz.func84, Tryz.ntmps84
    go_wp2_with fail
    refine wpTo_start (S := fun w' => w'.cell? ⟨L.tb, 0, none⟩ = some (.pointer (some ⟨L.wb, 0, none⟩)) ∧ w'.cell? ⟨L.tb, 1, none⟩ = some (.int .i64 L.tf) ∧ w'.cell? ⟨L.wb, 1, none⟩ = some (.slice (some ⟨g, 0, none⟩) fs.length cap) ∧ w'.cell? ⟨g, L.tf, none⟩ = some (.pointer (some ⟨L.fb L.tf, 0, none⟩))) (z := 15) (by kernel_rfl) ?_
    have hS : w.drew.cell? ⟨L.tb, 0, none⟩ = some (.pointer (some ⟨L.wb, 0, none⟩)) ∧ w.drew.cell? ⟨L.tb, 1, none⟩ = some (.int .i64 L.tf) ∧ w.drew.cell? ⟨L.wb, 1, none⟩ = some (.slice (some ⟨g, 0, none⟩) fs.length cap) ∧ w.drew.cell? ⟨g, L.tf, none⟩ = some (.pointer (some ⟨L.fb L.tf, 0, none⟩)) := ⟨t0, t1, c1, e4⟩
    iterate 14 (refine wpTo_nx (v := ?_) rfl rfl (by kernel_rfl) (by decide) (by kernel_rfl) (by kernel_rfl) (fun _ _ _ h => h) (Or.inl ⟨by rfl, ?_⟩) hS ?_; rotate_left; (· (intro wx hSw; (try dsimp only at hSw); go_simp; try (with_reducible rfl))); simp only [Act.put, List.setIfInBounds_toArray, List.set_cons_zero, List.set_cons_succ])
    refine wpTo_one (i := 14) (by kernel_rfl) rfl (fun K hK => ?_)
    go_simp
    refine (HC.out).mono ?_
    rintro e w4 ⟨rfl, B4⟩
    dsimp only
    refine hK.out _ _ (fun _ => ⟨kcb B4 htl hS.1, kcb B4 htl hS.2.1, kcb B4 hwl hS.2.2.1, kcb B4 hgl hS.2.2.2⟩) (fun _ => wpTo_end (by kernel_rfl) ?_)
    have HF : Hid (Below w.heap.size w w4) := (Below.refl _ w).drew.trans B4
    clear hK K hS B4 t0 t1 c1 e4 HC
    go_wp2_with fail
    go_ret
    exact ⟨rfl, HF.out⟩
set_option maxRecDepth 100000 in
set_option maxHeartbeats 2000000 in
theorem tmodule_any (n : X.Nm) (hnB : X.nmB 268435456 n) (h : Run w0 L fs M us w) (hlim : us.length + (X.tellU L.tf n 3 (match X.modI fs n.1 with | some f' => (f', -1, 0) | none => (-1, -1, 4))).length ≤ 1073741824) :
    Calls Tryz.prog 82 #[.pointer (some ⟨L.tb, 0, none⟩), .agg #[.string (ba n.1), .int .i64 n.2]] w fun e w' => e = .returned (.tuple #[]) ∧ Hid (Run w0 L fs M (us ++ X.tellU L.tf n 3 (match X.modI fs n.1 with | some f' => (f', -1, 0) | none => (-1, -1, 4))) w' ∧ Kx L fs.length w0.heap.size w w') := by
  have kA : Below w.heap.size w (w.alloc (.cells #[.string (ba n.1), .int .i64 n.2] 136)) := (Below.refl _ w).alloc (Nat.le_refl _) _
  have h1 := h.below kA
  have hN := heap_alloc_new w (.cells #[.string (ba n.1), .int .i64 n.2] 136)
  obtain ⟨k1, k2⟩ := hnB
  have hlen : n.1.length ≤ maxLen := by unfold maxLen; omega
  have HS := hide h.st.lt
  have hsz := h.size
  have HKA := hide kA
  clear kA h
  cases hm : X.modI fs n.1 with
  | some f' =>
    rw [hm] at hlim
    go_enter Tryz.func82, Tryz.ntmps82
    go_wp2_with fail
    generalize w.alloc (.cells #[.string (ba n.1), .int .i64 n.2] 136) = W at *
    have n0 := cell_of_row W _ 0 _ _ _ hN
    have n1 := cell_of_row W _ 1 _ _ _ hN
    have hNl := heap_lt hN
    obtain ⟨nv, t0, -⟩ := h1.cells
    obtain ⟨c0, -⟩ := h1.wsp
    have h1d := h1.below ((Below.refl _ W).drew)
    obtain ⟨kk, hmp⟩ := h1d.mods
    have hrun := hmp.run_ok hlen
    rw [hm] at hrun
    have hrun' : (Instr.lookup 59 (.map (some L.mb)) (.string (ba n.1)) true).run Tryz.prog W.drew = .ok (.tuple #[.int .i64 f', .bool true]) W.drew := hrun
    have HR := hide h1
    clear hmp hrun h1 h1d hN
    go_region_held3 (fun w' => w'.cell? ⟨L.tb, 0, none⟩ = some (.pointer (some ⟨L.wb, 0, none⟩)) ∧ w'.cell? ⟨w.heap.size, 0, none⟩ = some (.string (ba n.1)) ∧ w'.cell? ⟨L.wb, 0, none⟩ = some (.map (some L.mb)) ∧ (Instr.lookup 59 (.map (some L.mb)) (.string (ba n.1)) true).run Tryz.prog w' = .ok (.tuple #[.int .i64 f', .bool true]) w')
      (first | (with_reducible exact ⟨t0, n0, c0, hrun'⟩) | go_keep)
      (fail)
    clear hrun'
    have HC := hide (tadd_any n 3 f' (-1) 0 ((HR.out).below ((Below.refl _ W).drew)) hlim)
    go_wp2_with fail
    refine (HC.out).mono ?_
    rintro e w4 ⟨rfl, H4⟩
    have HF : Hid (Run w0 L fs M (us ++ X.tellU L.tf n 3 (f', -1, 0)) w4 ∧ Kx L fs.length w0.heap.size w w4) := ⟨(H4.out).1, (Kx.ofBelow (HKA.out).drew).trans (H4.out).2⟩
    clear HC H4 t0 n0 n1 c0
    go_wp2_with fail
    go_end0
    exact ⟨rfl, HF⟩
  | none =>
    rw [hm] at hlim
    go_enter Tryz.func82, Tryz.ntmps82
    go_wp2_with fail
    generalize w.alloc (.cells #[.string (ba n.1), .int .i64 n.2] 136) = W at *
    have n0 := cell_of_row W _ 0 _ _ _ hN
    have n1 := cell_of_row W _ 1 _ _ _ hN
    have hNl := heap_lt hN
    obtain ⟨nv, t0, -⟩ := h1.cells
    obtain ⟨c0, -⟩ := h1.wsp
    have h1d := h1.below ((Below.refl _ W).drew)
    obtain ⟨kk, hmp⟩ := h1d.mods
    have hrun := hmp.run_ok hlen
    rw [hm] at hrun
    have hrun' : (Instr.lookup 59 (.map (some L.mb)) (.string (ba n.1)) true).run Tryz.prog W.drew = .ok (.tuple #[.int .i64 0, .bool false]) W.drew := hrun
    have HR := hide h1
    clear hmp hrun h1 h1d hN
    go_region_held3 (fun w' => w'.cell? ⟨L.tb, 0, none⟩ = some (.pointer (some ⟨L.wb, 0, none⟩)) ∧ w'.cell? ⟨w.heap.size, 0, none⟩ = some (.string (ba n.1)) ∧ w'.cell? ⟨L.wb, 0, none⟩ = some (.map (some L.mb)) ∧ (Instr.lookup 59 (.map (some L.mb)) (.string (ba n.1)) true).run Tryz.prog w' = .ok (.tuple #[.int .i64 0, .bool false]) w')
      (first | (with_reducible exact ⟨t0, n0, c0, hrun'⟩) | go_keep)
      (fail)
    clear hrun'
    go_wp2_with fail
    generalize hWd : W.drew = Wd at *
    have hKW : Below w.heap.size w Wd := by rw [← hWd]; exact (HKA.out).drew
    have HR2 : Hid (Run w0 L fs M us Wd) := by rw [← hWd]; exact (HR.out).below ((Below.refl _ W).drew)
    have n0' : Wd.cell? ⟨w.heap.size, 0, none⟩ = some (.string (ba n.1)) := by rw [← hWd]; exact n0
    have n1' : Wd.cell? ⟨w.heap.size, 1, none⟩ = some (.int .i64 n.2) := by rw [← hWd]; exact n1
    have hNl' : w.heap.size < Wd.heap.size := by rw [← hWd]; exact hNl
    clear hWd t0 n0 n1 c0
    refine wpTo_start (S := fun w' => w'.cell? ⟨w.heap.size, 0, none⟩ = some (.string (ba n.1)) ∧ w'.cell? ⟨w.heap.size, 1, none⟩ = some (.int .i64 n.2)) (z := 3) (by kernel_rfl) ?_
    have hS : Wd.drew.cell? ⟨w.heap.size, 0, none⟩ = some (.string (ba n.1)) ∧ Wd.drew.cell? ⟨w.heap.size, 1, none⟩ = some (.int .i64 n.2) := ⟨n0', n1'⟩
    iterate 2 (refine wpTo_nx0 (v := ?_) rfl rfl (by kernel_rfl) (by kernel_rfl) (by kernel_rfl) (by kernel_rfl) (fun _ _ _ h => h) (Or.inl ⟨by rfl, ?_⟩) hS ?_; rotate_left; (· (intro wx hSw; (try dsimp only at hSw); go_simp; try (with_reducible rfl))); simp only [Act.put, List.setIfInBounds_toArray, List.set_cons_zero, List.set_cons_succ])
    refine wpTo_one (i := 2) (by kernel_rfl) rfl (fun K hK => ?_)
    go_simp
    refine (nowhere_any _).mono ?_
    rintro e w3 ⟨rfl, B3⟩
    have HR3 : Hid (Run w0 L fs M us w3) := (HR2.out).below (((Below.refl _ Wd).drew).trans B3)
    have HK3 : Hid (Below w.heap.size w w3) := hKW.trans ((((Below.refl _ Wd).drew).trans B3).mono hKW.size)
    go_simp
    refine hK.out _ _ (fun _ => ⟨kcb B3 hNl' hS.1, kcb B3 hNl' hS.2⟩) (fun hS2 => ?_)
    clear hS hK K
    have hS := hS2 (by decide)
    clear hS2
    refine wpTo_one (i := 3) (by kernel_rfl) rfl (fun K hK => ?_)
    go_simp
    refine (tadd_any n 3 (-1) (-1) 4 HR3.out hlim).mono ?_
    rintro e w4 ⟨rfl, H4⟩
    go_simp
    refine hK.out _ _ (fun h => absurd rfl h) (fun _ => wpTo_end (by kernel_rfl) ?_)
    clear hK K hS
    have HF : Hid (Run w0 L fs M (us ++ X.tellU L.tf n 3 (-1, -1, 4)) w4 ∧ Kx L fs.length w0.heap.size w w4) := ⟨(H4.out).1, (Kx.ofBelow HK3.out).trans (H4.out).2⟩
    clear H4
    go_wp2_with fail
    go_end0
    exact ⟨rfl, HF⟩
end Go.Proofs.YtgjbafamiggafaaGreatDoor
