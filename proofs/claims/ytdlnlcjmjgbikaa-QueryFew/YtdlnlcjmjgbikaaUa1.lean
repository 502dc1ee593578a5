/- slices.Clone, slices.Repeat, bits.Mul. -/
import Derived.Test.YtdlnlcjmjgbikaaTv
import Derived.Laws.CopyOwn
import Derived.Deep.RegionLaw
import Derived.LoopTactic
namespace Go.Proofs.Ytdlnlcjmjgbikaa
open Go Go.Conc Go.RowKit Go.Deep

noncomputable section
variable {w : World}
/-- The upper half of 1 * n. -/
def mhi (n : Int) : Int := IntKind.u64.wrap (IntKind.u64.wrap (IntKind.u64.wrap (IntKind.u64.wrap (bits BinOp.and IntKind.u64 1 4294967295 * bits BinOp.and IntKind.u64 n 4294967295) / 4294967296) / 4294967296) + IntKind.u64.wrap (bits BinOp.and IntKind.u64 (IntKind.u64.wrap (IntKind.u64.wrap (bits BinOp.and IntKind.u64 1 4294967295 * bits BinOp.and IntKind.u64 n 4294967295) / 4294967296)) 4294967295 + IntKind.u64.wrap (bits BinOp.and IntKind.u64 1 4294967295 * (n / 4294967296))) / 4294967296)
theorem mhi_0 : ∀ n : Nat, n < 65 → mhi n = 0 := by decide +kernel
set_option maxRecDepth 100000 in
set_option maxHeartbeats 1000000 in
theorem mul64_any (n : Nat) (hn : n < 65) (w : World) : Calls Sq.prog 81 #[.int .u64 1, .int .u64 n] w fun e w' => e = .returned (.tuple #[.int .u64 0, .int .u64 n]) ∧ w' = w := by
  rw [← mhi_0 n hn]
  go_enter Sq.func81, Sq.ntmps81
  go_wp2_with fail
  refine bodyPost_ret (results_tmp2 rfl _ _ _) rfl ⟨?_, rfl⟩
  show Ending.returned (.tuple #[_, _]) = _
  congr 3
set_option maxRecDepth 100000 in
set_option maxHeartbeats 1000000 in
theorem mul_any (n : Nat) (hn : n < 65) (w : World) : Calls Sq.prog 58 #[.int .u64 1, .int .u64 n] w fun e w' => e = .returned (.tuple #[.int .u64 0, .int .u64 n]) ∧ w' = w := by
  go_enter Sq.func58, Sq.ntmps58
  go_wp2_with fail
  refine (mul64_any n hn w).mono ?_
  rintro e w1 ⟨rfl, rfl⟩
  go_wp2_with fail
  exact bodyPost_ret (results_tmp2 rfl _ _ _) rfl ⟨rfl, rfl⟩
/-- A row that is filled up to m. -/
def rowM (m n : Nat) : List Value := List.replicate m (.int .i64 (-1)) ++ List.replicate (n - m) (.int .i64 0)
theorem rowM_len {m n : Nat} (h : m ≤ n) : (rowM m n).length = n := by simp [rowM]; omega
theorem rowM_splice {m n k : Nat} : splice (rowM m n) m (List.replicate k (.int .i64 (-1))) = rowM (m + k) n := by
  unfold splice rowM
  have e1 : (List.replicate m (Value.int .i64 (-1)) ++ List.replicate (n - m) (Value.int .i64 0)).take m = List.replicate m (Value.int .i64 (-1)) := by
    rw [List.take_append_of_le_length (by simp)]
    simp
  have e2 : (List.replicate m (Value.int .i64 (-1)) ++ List.replicate (n - m) (Value.int .i64 0)).drop (m + (List.replicate k (Value.int .i64 (-1))).length) = List.replicate (n - (m + k)) (Value.int .i64 0) := by
    rw [List.drop_append, List.drop_replicate, List.drop_replicate]
    simp
    omega
  rw [e1, e2, ← List.append_assoc, List.replicate_append_replicate]
theorem rowM_get {m n j : Nat} (h : j < m) : (rowM m n)[j]? = some (.int .i64 (-1)) := by
  unfold rowM
  rw [List.getElem?_append_left (by simpa using h)]
  simp [h]
theorem row_cell {g m n : Nat} {t : TypeId} (h : w.heap[g]? = some (.cells (rowM m n).toArray t (0, 0))) {j : Nat} (hj : j < m) : w.cell? ⟨g, j, none⟩ = some (.int .i64 (-1)) ∧ w.frozen? ⟨g, j, none⟩ = false := by
  refine ⟨?_, by simp [World.frozen?, h]⟩
  simp only [World.cell?, h]
  simpa using rowM_get hj
theorem Keep.below {w w' : World} (h : Below w.heap.size w w') : Keep (fun _ => False) w w' := ⟨h.os, h.output, h.size, fun b hb _ => h.block b hb⟩
set_option maxRecDepth 100000 in
set_option maxHeartbeats 1000000 in
theorem repeat_any (b cap n : Nat) (hn : n < 65) (h0 : 0 < n) (w : World) (hx : w.cell? ⟨b, 0, none⟩ = some (.int .i64 (-1))) : Calls Sq.prog 41 #[.slice (some ⟨b, 0, none⟩) 1 cap, .int .i64 n] w fun e w' => ∃ g, e = .returned (.slice (some ⟨g, 0, none⟩) n n) ∧ w.heap.size ≤ g ∧ g < w'.heap.size ∧ Mem w' g n (fun _ => .int .i64 (-1)) ∧ Keep (fun _ => False) w w' := by
  have u23 := (sq_under 23).trans Try.underlying23
  have hsz : (Sq.prog.info? 3).map (·.size) = some 1 := by kernel_rfl
  have hmk := run_make_row' (P := Sq.prog) 23 3 (.int .i64 0) 8 u23 (by kernel_rfl) rfl .i64 .i64 n (by omega) (by omega)
  have HX := hide hx
  suffices ∀ Pp : Ending → World → Prop, Hid (∀ e w', (∃ g, e = .returned (.slice (some ⟨g, 0, none⟩) n n) ∧ w.heap.size ≤ g ∧ g < w'.heap.size ∧ Mem w' g n (fun _ => .int .i64 (-1)) ∧ Keep (fun _ => False) w w') → Pp e w') → Calls Sq.prog 41 #[.slice (some ⟨b, 0, none⟩) 1 cap, .int .i64 n] w Pp from this _ (hide fun _ _ h => h)
  intro Pp HP
  go_enter Sq.func41, Sq.ntmps41
  go_wp2_with fail
  refine (mul_any n hn w).mono ?_
  rintro e w1 ⟨rfl, hw1⟩
  subst hw1
  have hr0 : (w1.alloc (.cells (madeCells #[.int .i64 0] n) 3)).heap[w1.heap.size]? = some (.cells (rowM 0 n).toArray 3 (0, 0)) := by
    rw [heap_alloc_new w1 _]
    congr 2
    rw [← Array.toList_inj, toList_madeCells_one]
    simp [rowM]
  replace hr0 := hide hr0
  have hmn : Nat.min 1 n = 1 := Nat.min_eq_left h0
  have HMN := hide hmn
  clear hmn
  have HS : Hid (∀ j v, (List.replicate 1 (Value.int .i64 (-1)))[j]? = some v → (w1.alloc (.cells (madeCells #[.int .i64 0] n) 3)).cell? ((⟨b, 0, none⟩ : Addr).add j) = some v) := hide fun j v hj => by
    have hjv : j = 0 ∧ v = .int .i64 (-1) := by
      cases j with
      | zero => exact ⟨rfl, by simpa using hj.symm⟩
      | succ j => simp at hj
    obtain ⟨rfl, rfl⟩ := hjv
    have hlt := World.block_lt_of_cell? w1 _ HX.out
    show (w1.alloc _).cell? ⟨b, 0, none⟩ = _
    rw [(alloc_cell _ _ _ hlt).1]
    exact HX.out
  go_wp2_with (refine wpList_copy_splice rfl _ _ 23 23 rfl 3 u23 hsz (some ⟨w1.heap.size, 0, none⟩) (some ⟨b, 0, none⟩) n n 1 cap rfl rfl w1.heap.size 0 (rowM 0 n) 3 hr0.out (List.replicate 1 (.int .i64 (-1))) HMN.out.symm (fun _ => ⟨rfl, _, rfl, HS.out⟩) (by rw [rowM_len (Nat.zero_le _), List.length_replicate]; omega) (by simp [Value.oneCell']) w1.heap.size w1 ((Below.refl _ _).alloc (Nat.le_refl _) _) (Nat.le_refl _) ?_; intro w2 HG2 hB2; rw [rowM_splice] at HG2; replace HG2 := hide HG2.out; replace hB2 := hide hB2)
  obtain ⟨g, hg⟩ : ∃ g, g = w1.heap.size := ⟨_, rfl⟩
  rw [← hg] at HG2 hB2 ⊢
  replace hg := hide hg
  clear hr0 HMN HS hmk
  go_loopw [8] (fun iv wr => ∃ m : Nat, iv = .int .i64 m ∧ 1 ≤ m ∧ m ≤ n ∧ Hid (wr.heap[g]? = some (.cells (rowM m n).toArray 3 (0, 0)) ∧ Below g w1 wr)) (fun iv _ => n - ivn iv)
  case atStart => exact ⟨1, rfl, Nat.le_refl _, h0, HG2.out, hB2.out⟩
  case round =>
    obtain ⟨m, rfl, hm1, hmn, HI⟩ := hrel
    by_cases hlt : m < n
    · have HM := hide (show (List.replicate (Nat.min m (n - m)) (Value.int .i64 (-1))).length = Nat.min m (n - m) by simp)
      have HS : Hid (∀ wz : World, wz.heap[g]? = some (.cells (rowM m n).toArray 3 (0, 0)) → ∀ j v, (List.replicate (Nat.min m (n - m)) (Value.int .i64 (-1)))[j]? = some v → wz.cell? ((⟨g, 0, none⟩ : Addr).add j) = some v) := hide fun wz hz j v hj => by
        have hjl : j < Nat.min m (n - m) := by
          have := (List.getElem?_eq_some_iff.1 hj).1
          simpa using this
        have hv : v = .int .i64 (-1) := by
          have := List.mem_of_getElem? hj
          exact (List.mem_replicate.1 this).2
        subst hv
        have := (row_cell hz (j := j) (Nat.lt_of_lt_of_le hjl (Nat.min_le_left _ _))).1
        have e : (⟨g, 0, none⟩ : Addr).add j = ⟨g, j, none⟩ := by unfold Addr.add; split <;> simp_all
        rw [e]
        exact this
      have hk1 : 1 ≤ Nat.min m (n - m) := by simp only [Nat.min_def]; split <;> omega
      have hk2 : m + Nat.min m (n - m) ≤ n := by simp only [Nat.min_def]; split <;> omega
      generalize hk : Nat.min m (n - m) = k at HM HS hk1 hk2
      replace hk := hide hk
      have hnm : ¬ n = m := by omega
      go_wp2_with fail
      go_region_law (refine step_copy_splice rfl (.tmp 41) (.tmp 44) 23 23 rfl 3 u23 hsz (some ⟨g, m, none⟩) (some ⟨g, 0, none⟩) (n - m) (n - m) m n (by go_simp) (by go_simp) g m (rowM m n) 3 HI.out.1 (List.replicate k (.int .i64 (-1))) (HM.out.trans hk.out.symm) (fun _ => ⟨rfl, _, rfl, HS.out _ HI.out.1⟩) (by rw [rowM_len hmn, HM.out]; omega) (by simp [Value.oneCell']) g w1 HI.out.2.drew (Nat.le_refl _) ?_; intro w4 hg4 hb4; rw [rowM_splice] at hg4; rw [HM.out]; replace hg4 := hide hg4.out; replace hb4 := hide hb4)
      simp only [Act.put, List.setIfInBounds_toArray, List.set_cons_zero, List.set_cons_succ, List.getElem_toArray, List.getElem_cons_zero, List.getElem_cons_succ]
      go_wp2_with fail
      have hw : IntKind.i64.wrap ((m : Int) + k) = ((m + k : Nat) : Int) := by
        rw [IntKind.wrap_i64]
        omega
      rw [hw]
      refine ⟨⟨m + k, rfl, by omega, hk2, hide ⟨hg4.out, hb4.out⟩⟩, ?_⟩
      simp only [ivn]
      omega
    · obtain rfl : m = n := by omega
      go_wp2_with fail
      show Pp (.returned (.slice (some ⟨g, 0, none⟩) m m)) wr
      have e := hg.out
      refine HP.out _ _ ⟨g, rfl, by omega, (Array.getElem?_eq_some_iff.1 HI.out.1).1, fun i hi => row_cell HI.out.1 hi, Keep.below ?_⟩
      rw [← e]
      exact HI.out.2
theorem nilT_op {t el : TypeId} (hu : Try.prog.underlying t = some (.slice el)) (b : Option Addr) (m cp : Nat) (v : World) : (binOp .eql t (.slice b m cp) (.slice none 0 0)).run Sq.prog v = .ok (.bool b.isNone) v := by
  have he : (Op.equal t (.slice b m cp) (.slice none 0 0)).run Sq.prog v = .ok b.isNone v := by
    show (Op.equalIn (9999 + 1) t (.slice b m cp) (.slice none 0 0)).run Sq.prog v = _
    have hr : (underlying t).run Try.prog v = .ok (.slice el) v := Go.run_underlying hu v
    unfold Op.equalIn
    simp only [Sem.run_bind, sq_run_underlying, hr, Result.andThen]
    cases b <;> simp
  simp [binOp, he, Result.andThen]
theorem nil45_op (b : Option Addr) (m cp : Nat) (v : World) : (binOp .eql 45 (.slice b m cp) (.slice none 0 0)).run Sq.prog v = .ok (.bool b.isNone) v := nilT_op Try.underlying45 b m cp v
theorem nil44_op (b : Option Addr) (m cp : Nat) (v : World) : (binOp .eql 44 (.slice b m cp) (.slice none 0 0)).run Sq.prog v = .ok (.bool b.isNone) v := nilT_op Try.underlying44 b m cp v
attribute [local simp] nil45_op nil44_op nil23_op
set_option maxRecDepth 100000 in
set_option maxHeartbeats 1000000 in
theorem cloneB_any (b cap n : Nat) (cs : List Value) (h0 : 0 < n) (hn : n < 65) (hl : cs.length = n * 1) (h1 : ∀ u ∈ cs, u.oneCell' = true) (w : World) (hx : ∀ j u, cs[j]? = some u → w.cell? ⟨b, j, none⟩ = some u) : Calls Sq.prog 29 #[.slice (some ⟨b, 0, none⟩) n cap] w fun e w' => ∃ g c, e = .returned (.slice (some ⟨g, 0, none⟩) n c) ∧ w.heap.size ≤ g ∧ g < w'.heap.size ∧ Mem w' g (n * 1) (fun j => cs.getD j undef) ∧ Keep (fun _ => False) w w' := by
  obtain ⟨i0, hi0, hiz⟩ := Option.map_eq_some_iff.1 (show (Sq.prog.info? 4).map (fun i => (i.zero, i.size, i.bytes)) = some (some (.bool false), 1, 1) by kernel_rfl)
  simp only [Prod.mk.injEq] at hiz
  obtain ⟨hz0, hz1, hz2⟩ := hiz
  have usl := (sq_under 45).trans Try.underlying45
  have HX : Hid (∀ j u, cs[j]? = some u → (w.alloc (.cells #[] 4)).cell? ((⟨b, 0, none⟩ : Addr).add j) = some u) := hide fun j u hj => by
    have e : (⟨b, 0, none⟩ : Addr).add j = ⟨b, j, none⟩ := by unfold Addr.add; split <;> simp_all
    rw [e, (alloc_cell _ _ _ (World.block_lt_of_cell? w _ (hx j u hj))).1]
    exact hx j u hj
  suffices ∀ Pp : Ending → World → Prop, Hid (∀ e w', (∃ g c, e = .returned (.slice (some ⟨g, 0, none⟩) n c) ∧ w.heap.size ≤ g ∧ g < w'.heap.size ∧ Mem w' g (n * 1) (fun j => cs.getD j undef) ∧ Keep (fun _ => False) w w') → Pp e w') → Calls Sq.prog 29 #[.slice (some ⟨b, 0, none⟩) n cap] w Pp from this _ (hide fun _ _ h => h)
  intro Pp HP
  have HL := hide hl
  have H1 := hide h1
  clear hl h1 hx
  go_enter Sq.func29, Sq.ntmps29
  go_wp2_with (at_builtin; go_loud (refine wpList_append_own _ rfl _ _ 45 rfl w.heap.size 4 i0 _ 1 1 usl hi0 hz0 hz1 hz2 rfl (by decide) (.slice (some ⟨w.heap.size, 0, none⟩) 0 0) 0 [] rfl (World.ownsRow_made w #[] 0 (Nat.le_refl _) (Nat.zero_le _) (by simp)) ⟨b, 0, none⟩ n cap cs rfl HL.out HX.out H1.out (by unfold maxLen; omega) (by omega) (by simp) ?_; intro v6 w6 hown6 hgrow6 hat6; replace hown6 := hide hown6; replace hgrow6 := hide hgrow6; clear hat6))
  have hown := hown6.out
  have hgrow := hgrow6.out
  rcases hown.2 with ⟨_, h00⟩ | ⟨g, cp, cur, hv, hb, hg, _⟩
  · omega
  · have hz : 0 + n = n := by omega
    rw [hz] at hv hown
    subst hv
    show Pp (.returned (.slice (some ⟨g, 0, none⟩) n cp)) _
    refine HP.out _ _ ⟨g, cp, rfl, hb, (Array.getElem?_eq_some_iff.1 hg).1, fun j hj => ⟨?_, by simp [World.frozen?, hg]⟩, ?_⟩
    · have hj2 : j < cs.length := by rw [HL.out]; exact hj
      have := hown.cells (g := g) rfl j cs[j] (by simp [hj2])
      have e : (⟨g, 0, none⟩ : Addr).add j = ⟨g, j, none⟩ := by unfold Addr.add; split <;> simp_all
      rw [e] at this
      rw [this]
      simp [hj2]
    · refine ⟨hgrow.os, hgrow.output, Nat.le_trans (by simp) hgrow.size, fun k hk _ => ?_⟩
      rw [hgrow.block k (by simp; omega) (by simp [Value.ownBlock]; omega), blk_alloc_lt _ _ _ hk]
set_option maxRecDepth 100000 in
set_option maxHeartbeats 1000000 in
theorem cloneI_any (b cap n : Nat) (cs : List Value) (h0 : 0 < n) (hn : n < 65) (hl : cs.length = n * 1) (h1 : ∀ u ∈ cs, u.oneCell' = true) (w : World) (hx : ∀ j u, cs[j]? = some u → w.cell? ⟨b, j, none⟩ = some u) : Calls Sq.prog 20 #[.slice (some ⟨b, 0, none⟩) n cap] w fun e w' => ∃ g c, e = .returned (.slice (some ⟨g, 0, none⟩) n c) ∧ w.heap.size ≤ g ∧ g < w'.heap.size ∧ Mem w' g (n * 1) (fun j => cs.getD j undef) ∧ Keep (fun _ => False) w w' := by
  obtain ⟨i0, hi0, hiz⟩ := Option.map_eq_some_iff.1 (show (Sq.prog.info? 3).map (fun i => (i.zero, i.size, i.bytes)) = some (some (.int .i64 0), 1, 8) by kernel_rfl)
  simp only [Prod.mk.injEq] at hiz
  obtain ⟨hz0, hz1, hz2⟩ := hiz
  have usl := (sq_under 23).trans Try.underlying23
  have HX : Hid (∀ j u, cs[j]? = some u → (w.alloc (.cells #[] 3)).cell? ((⟨b, 0, none⟩ : Addr).add j) = some u) := hide fun j u hj => by
    have e : (⟨b, 0, none⟩ : Addr).add j = ⟨b, j, none⟩ := by unfold Addr.add; split <;> simp_all
    rw [e, (alloc_cell _ _ _ (World.block_lt_of_cell? w _ (hx j u hj))).1]
    exact hx j u hj
  suffices ∀ Pp : Ending → World → Prop, Hid (∀ e w', (∃ g c, e = .returned (.slice (some ⟨g, 0, none⟩) n c) ∧ w.heap.size ≤ g ∧ g < w'.heap.size ∧ Mem w' g (n * 1) (fun j => cs.getD j undef) ∧ Keep (fun _ => False) w w') → Pp e w') → Calls Sq.prog 20 #[.slice (some ⟨b, 0, none⟩) n cap] w Pp from this _ (hide fun _ _ h => h)
  intro Pp HP
  have HL := hide hl
  have H1 := hide h1
  clear hl h1 hx
  go_enter Sq.func20, Sq.ntmps20
  go_wp2_with (at_builtin; go_loud (refine wpList_append_own _ rfl _ _ 23 rfl w.heap.size 3 i0 _ 1 8 usl hi0 hz0 hz1 hz2 rfl (by decide) (.slice (some ⟨w.heap.size, 0, none⟩) 0 0) 0 [] rfl (World.ownsRow_made w #[] 0 (Nat.le_refl _) (Nat.zero_le _) (by simp)) ⟨b, 0, none⟩ n cap cs rfl HL.out HX.out H1.out (by unfold maxLen; omega) (by omega) (by simp) ?_; intro v6 w6 hown6 hgrow6 hat6; replace hown6 := hide hown6; replace hgrow6 := hide hgrow6; clear hat6))
  have hown := hown6.out
  have hgrow := hgrow6.out
  rcases hown.2 with ⟨_, h00⟩ | ⟨g, cp, cur, hv, hb, hg, _⟩
  · omega
  · have hz : 0 + n = n := by omega
    rw [hz] at hv hown
    subst hv
    show Pp (.returned (.slice (some ⟨g, 0, none⟩) n cp)) _
    refine HP.out _ _ ⟨g, cp, rfl, hb, (Array.getElem?_eq_some_iff.1 hg).1, fun j hj => ⟨?_, by simp [World.frozen?, hg]⟩, ?_⟩
    · have hj2 : j < cs.length := by rw [HL.out]; exact hj
      have := hown.cells (g := g) rfl j cs[j] (by simp [hj2])
      have e : (⟨g, 0, none⟩ : Addr).add j = ⟨g, j, none⟩ := by unfold Addr.add; split <;> simp_all
      rw [e] at this
      rw [this]
      simp [hj2]
    · refine ⟨hgrow.os, hgrow.output, Nat.le_trans (by simp) hgrow.size, fun k hk _ => ?_⟩
      rw [hgrow.block k (by simp; omega) (by simp [Value.ownBlock]; omega), blk_alloc_lt _ _ _ hk]
set_option maxRecDepth 100000 in
set_option maxHeartbeats 1000000 in
theorem cloneM_any (b cap n : Nat) (cs : List Value) (h0 : 0 < n) (hn : n < 65) (hl : cs.length = n * 4) (h1 : ∀ u ∈ cs, u.oneCell' = true) (w : World) (hx : ∀ j u, cs[j]? = some u → w.cell? ⟨b, j, none⟩ = some u) : Calls Sq.prog 40 #[.slice (some ⟨b, 0, none⟩) n cap] w fun e w' => ∃ g c, e = .returned (.slice (some ⟨g, 0, none⟩) n c) ∧ w.heap.size ≤ g ∧ g < w'.heap.size ∧ Mem w' g (n * 4) (fun j => cs.getD j undef) ∧ Keep (fun _ => False) w w' := by
  obtain ⟨i0, hi0, hiz⟩ := Option.map_eq_some_iff.1 (show (Sq.prog.info? 67).map (fun i => (i.zero, i.size, i.bytes)) = some (some (.agg #[.bool false, .int .i64 0, .int .i64 0, .slice none 0 0]), 4, 48) by kernel_rfl)
  simp only [Prod.mk.injEq] at hiz
  obtain ⟨hz0, hz1, hz2⟩ := hiz
  have usl := (sq_under 44).trans Try.underlying44
  have HX : Hid (∀ j u, cs[j]? = some u → (w.alloc (.cells #[] 67)).cell? ((⟨b, 0, none⟩ : Addr).add j) = some u) := hide fun j u hj => by
    have e : (⟨b, 0, none⟩ : Addr).add j = ⟨b, j, none⟩ := by unfold Addr.add; split <;> simp_all
    rw [e, (alloc_cell _ _ _ (World.block_lt_of_cell? w _ (hx j u hj))).1]
    exact hx j u hj
  suffices ∀ Pp : Ending → World → Prop, Hid (∀ e w', (∃ g c, e = .returned (.slice (some ⟨g, 0, none⟩) n c) ∧ w.heap.size ≤ g ∧ g < w'.heap.size ∧ Mem w' g (n * 4) (fun j => cs.getD j undef) ∧ Keep (fun _ => False) w w') → Pp e w') → Calls Sq.prog 40 #[.slice (some ⟨b, 0, none⟩) n cap] w Pp from this _ (hide fun _ _ h => h)
  intro Pp HP
  have HL := hide hl
  have H1 := hide h1
  clear hl h1 hx
  go_enter Sq.func40, Sq.ntmps40
  go_wp2_with (at_builtin; go_loud (refine wpList_append_own _ rfl _ _ 44 rfl w.heap.size 67 i0 _ 4 48 usl hi0 hz0 hz1 hz2 rfl (by decide) (.slice (some ⟨w.heap.size, 0, none⟩) 0 0) 0 [] rfl (World.ownsRow_made w #[] 0 (Nat.le_refl _) (Nat.zero_le _) (by simp)) ⟨b, 0, none⟩ n cap cs rfl HL.out HX.out H1.out (by unfold maxLen; omega) (by omega) (by simp) ?_; intro v6 w6 hown6 hgrow6 hat6; replace hown6 := hide hown6; replace hgrow6 := hide hgrow6; clear hat6))
  have hown := hown6.out
  have hgrow := hgrow6.out
  rcases hown.2 with ⟨_, h00⟩ | ⟨g, cp, cur, hv, hb, hg, _⟩
  · omega
  · have hz : 0 + n = n := by omega
    rw [hz] at hv hown
    subst hv
    show Pp (.returned (.slice (some ⟨g, 0, none⟩) n cp)) _
    refine HP.out _ _ ⟨g, cp, rfl, hb, (Array.getElem?_eq_some_iff.1 hg).1, fun j hj => ⟨?_, by simp [World.frozen?, hg]⟩, ?_⟩
    · have hj2 : j < cs.length := by rw [HL.out]; exact hj
      have := hown.cells (g := g) rfl j cs[j] (by simp [hj2])
      have e : (⟨g, 0, none⟩ : Addr).add j = ⟨g, j, none⟩ := by unfold Addr.add; split <;> simp_all
      rw [e] at this
      rw [this]
      simp [hj2]
    · refine ⟨hgrow.os, hgrow.output, Nat.le_trans (by simp) hgrow.size, fun k hk _ => ?_⟩
      rw [hgrow.block k (by simp; omega) (by simp [Value.ownBlock]; omega), blk_alloc_lt _ _ _ hk]
end
end Go.Proofs.Ytdlnlcjmjgbikaa
