/- A sheet in memory; lacks, age, Set, Runs. -/
import Derived.Test.YtdlnlcjmjgbikaaUa1
namespace Go.Proofs.Ytdlnlcjmjgbikaa
open Go Go.Conc Go.RowKit Go.Deep

noncomputable section
/-- Where a sheet lies. -/
structure QZ where
  sh : Nat
  cb : Nat
  mb : Nat
  fb : Nat
  rb : Nat
  cc : Nat
  mc : Nat
  fc : Nat
  rc : Nat
  sema : Value
  lk : Nat → Nat
  lc : Nat → Nat
def QZ.y (Z : QZ) : QY := { r := 0, cb := Z.cb, mb := 0, rb := 0, fb := 0, hb := 0, db := 0, wb := 0, cc := 0, mc := 0, rc := 0, fc := 0, hc := 0, dc := 0, wc := 0, sema := .int .i64 0, lk := Z.lk, lc := Z.lc }
/-- What a sheet knows. -/
structure QT where
  fr : Nat → Bool
  mem : Nat → QM
  rn : Nat → Int
def QZ.mut (Z : QZ) (b : Nat) : Prop := b = Z.sh ∨ b = Z.mb ∨ b = Z.fb ∨ b = Z.rb
def QZ.sv (Z : QZ) (n : Nat) (st : Int) : Nat → Value
  | 0 => .int .i32 st
  | 1 => Z.sema
  | 2 => .slice (some ⟨Z.cb, 0, none⟩) n Z.cc
  | 3 => .slice (some ⟨Z.mb, 0, none⟩) n Z.mc
  | 4 => .slice (some ⟨Z.fb, 0, none⟩) n Z.fc
  | _ => .slice (some ⟨Z.rb, 0, none⟩) n Z.rc
/-- A SHEET IN MEMORY. -/
structure Sh (R : QR) (Z : QZ) (st : Int) (w : World) (T : QT) : Prop where
  s : Mem w Z.sh 6 (Z.sv R.n st)
  cells : ∀ k, k < R.n → CellAt R Z.y w k
  mems : ∀ k, k < R.n → ∃ v, MemAt w Z.mb (k * 4) (T.mem k) v ∧ LedIs Z.mut w v (T.mem k).led
  fresh : Mem w Z.fb R.n (fun k => .bool (T.fr k))
  runs : Mem w Z.rb R.n (fun k => .int .i64 (T.rn k))
structure QZ.Ok (Z : QZ) (R : QR) : Prop where
  n1 : Z.sh ≠ Z.mb ∧ Z.mb ≠ Z.sh
  n2 : Z.sh ≠ Z.fb ∧ Z.fb ≠ Z.sh
  n3 : Z.sh ≠ Z.rb ∧ Z.rb ≠ Z.sh
  n4 : Z.mb ≠ Z.fb ∧ Z.fb ≠ Z.mb
  n5 : Z.mb ≠ Z.rb ∧ Z.rb ≠ Z.mb
  n6 : Z.fb ≠ Z.rb ∧ Z.rb ≠ Z.fb
  cb : ¬ Z.mut Z.cb
  lk : ∀ k, k < R.n → R.op k ≠ 0 → ¬ Z.mut (Z.lk k)
variable {R : QR} {Z : QZ} {st : Int} {w w' : World} {T : QT} {k : Nat}
theorem zm_sh (Z : QZ) : Z.mut Z.sh := .inl rfl
theorem zm_mb (Z : QZ) : Z.mut Z.mb := .inr (.inl rfl)
theorem zm_fb (Z : QZ) : Z.mut Z.fb := .inr (.inr (.inl rfl))
theorem zm_rb (Z : QZ) : Z.mut Z.rb := .inr (.inr (.inr rfl))
theorem sv_st (Z : QZ) (n : Nat) (st st' : Int) : ∀ i, upf (Z.sv n st) 0 (.int .i32 st') i = Z.sv n st' i := fun i => by
  unfold upf QZ.sv
  split
  · rename_i e; subst e; rfl
  · split <;> first | rfl | contradiction
theorem sv_again (Z : QZ) (n : Nat) (x : Value) : ∀ i, upf (upf (Z.sv n 0) 0 x) 0 (.int .i32 0) i = Z.sv n 0 i := fun i => by
  rw [upf_upf]
  exact congrFun (upf_eta (Z.sv n 0) 0 (.int .i32 0) rfl) i
/-- Other blocks than its own are turned. -/
theorem Sh.keep {M : Nat → Prop} (h : Sh R Z st w T) (k : Keep M w w') (h1 : ∀ b, Z.mut b → ¬ M b) (h2 : ¬ M Z.cb) (h3 : ∀ k, k < R.n → R.op k ≠ 0 → ¬ M (Z.lk k)) (h4 : ∀ k, k < R.n → ∀ v, LedIs Z.mut w v (T.mem k).led → LedIs Z.mut w' v (T.mem k).led) : Sh R Z st w' T :=
  ⟨k.mem (h1 _ (zm_sh Z)) h.s, fun i hi => (h.cells i hi).keep h2 (h3 i hi) k, fun i hi => by
    obtain ⟨v, m1, m2⟩ := h.mems i hi
    exact ⟨v, m1.blk fun hb => k.block _ hb (h1 _ (zm_mb Z)), h4 i hi v m2⟩, k.mem (h1 _ (zm_fb Z)) h.fresh, k.mem (h1 _ (zm_rb Z)) h.runs⟩
theorem Sh.new (h : Sh R Z st w T) (k : Keep (fun _ => False) w w') : Sh R Z st w' T := h.keep k (fun _ _ => id) id (fun _ _ _ => id) fun _ _ _ m => m.keep k fun _ => False.elim
/-- Locked and unlocked: between, its own blocks may have been turned. -/
theorem Sh.blk (hZ : Z.Ok R) (h : Sh R Z st w T) {T' : QT} (kp : Keep Z.mut w w') {st' : Int} (hs : Mem w' Z.sh 6 (Z.sv R.n st')) (hm : ∀ k, k < R.n → ∃ v, MemAt w' Z.mb (k * 4) (T'.mem k) v ∧ LedIs Z.mut w v (T'.mem k).led) (hf : Mem w' Z.fb R.n (fun k => .bool (T'.fr k))) (hr : Mem w' Z.rb R.n (fun k => .int .i64 (T'.rn k))) : Sh R Z st' w' T' :=
  ⟨hs, fun i hi => (h.cells i hi).keep hZ.cb (hZ.lk i hi) kp, fun i hi => by
    obtain ⟨v, m1, m2⟩ := hm i hi
    exact ⟨v, m1, m2.keep kp fun _ => id⟩, hf, hr⟩
set_option maxRecDepth 100000 in
set_option maxHeartbeats 1000000 in
theorem lacks_any {sh cb n cc : Nat} (h : w.cell? ⟨sh, 2, none⟩ = some (.slice (some ⟨cb, 0, none⟩) n cc)) (x : Int) : Calls Sq.prog 16 #[.pointer (some ⟨sh, 0, none⟩), .int .i64 x] w fun e w' => e = .returned (.bool (decide (x < 0 ∨ (n : Int) ≤ x))) ∧ w' = w := by
  by_cases h0 : x < 0
  · go_enter Sq.func16, Sq.ntmps16
    go_wp2_with fail
    go_ret
    simp [h0]
  · go_enter Sq.func16, Sq.ntmps16
    go_wp2_with fail
    go_ret
    simp
    omega
def ageF (R : QR) (T : QT) (i : Nat) : Nat → Value := fun k => .bool (if k < i then R.op k == 0 else T.fr k)
set_option maxRecDepth 100000 in
set_option maxHeartbeats 1000000 in
theorem age_any (hZ : Z.Ok R) (h : Sh R Z st w T) (hn : R.n < 65) : Calls Sq.prog 13 #[.pointer (some ⟨Z.sh, 0, none⟩)] w fun e w' => e = .returned (.tuple #[]) ∧ Sh R Z st w' { T with fr := fun k => R.op k == 0 } ∧ Keep Z.mut w w' := by
  have c2 := h.s.cell (i := 2) (by decide)
  simp only [QZ.sv] at c2
  suffices ∀ Pp : Ending → World → Prop, Hid (∀ e w', (e = .returned (.tuple #[]) ∧ Sh R Z st w' { T with fr := fun k => R.op k == 0 } ∧ Keep Z.mut w w') → Pp e w') → Calls Sq.prog 13 #[.pointer (some ⟨Z.sh, 0, none⟩)] w Pp from this _ (hide fun _ _ h => h)
  intro Pp HP
  have HZ := hide hZ
  have H := hide h
  clear hZ h
  go_enter Sq.func13, Sq.ntmps13
  go_wp2_with fail
  go_loopw [8] (fun iv wr => ∃ j : Nat, iv = .int .i64 j ∧ j ≤ R.n ∧ Hid (Mem wr Z.fb R.n (ageF R T j) ∧ Keep (fun b => b = Z.fb) w wr)) (fun iv _ => R.n - ivn iv)
  case atStart => exact ⟨0, rfl, Nat.zero_le _, hide ⟨H.out.fresh.congr fun i _ => by simp [ageF], Keep.refl _ _⟩⟩
  case round =>
    obtain ⟨j, rfl, hj, HI⟩ := hrel
    obtain ⟨hm, kp⟩ := HI.out
    have hn := HZ.out
    by_cases hlt : j < R.n
    · have d2 := kp.cell (a := ⟨Z.sh, 2, none⟩) hn.n2.1 (H.out.s.cell (i := 2) (by decide))
      have d4 := kp.cell (a := ⟨Z.sh, 4, none⟩) hn.n2.1 (H.out.s.cell (i := 4) (by decide))
      simp only [QZ.sv] at d2 d4
      have hcf : Z.cb ≠ Z.fb := fun e => hn.cb (e ▸ zm_fb Z)
      have dop := kp.cell (a := ⟨Z.cb, j * 8, none⟩) hcf (H.out.cells j hlt).op
      have df := hm.cell hlt
      have dz := hm.frozen hlt
      have HI2 : Hid (Mem (wr.setCell ⟨Z.fb, j, none⟩ (.bool (R.op j == 0))) Z.fb R.n (ageF R T (j + 1)) ∧ Keep (fun b => b = Z.fb) w (wr.setCell ⟨Z.fb, j, none⟩ (.bool (R.op j == 0)))) := hide ⟨(hm.set j _).congr fun i _ => by
        unfold upf ageF
        by_cases e : i = j
        · subst e; simp
        · rw [if_neg e]
          congr 2
          simp only [eq_iff_iff]
          omega, kp.set ⟨Z.fb, j, none⟩ rfl _⟩
      clear hm kp HI hn
      go_wp2_with fail
      go_region
      go_wp2_with fail
      refine ⟨⟨j + 1, rfl, hlt, hide ⟨HI2.out.1.drew, HI2.out.2.drew⟩⟩, ?_⟩
      simp only [ivn]
      omega
    · obtain rfl : j = R.n := by omega
      clear hm kp hn
      go_wp2_with fail
      refine bodyPost_end (by simp [results, Sq.f13]) rfl (HP.out _ _ ⟨rfl, ?_⟩)
      obtain ⟨hm, kp⟩ := HI.out
      have hn := HZ.out
      have kz : Keep Z.mut w wr := kp.wide fun b _ hb => hb ▸ zm_fb Z
      refine ⟨H.out.blk hn kz (kp.mem hn.n2.1 H.out.s) (fun i hi => ?_) (hm.congr fun i hi => by simp [ageF, hi]) (kp.mem hn.n6.2 H.out.runs), kz⟩
      obtain ⟨v, m1, m2⟩ := H.out.mems i hi
      exact ⟨v, m1.blk fun hb => kp.block _ hb hn.n4.1, m2⟩
/-- Locked or unlocked. -/
theorem Sh.lock (hZ : Z.Ok R) (h : Sh R Z st w T) (st' : Int) : Sh R Z st' (w.setCell ⟨Z.sh, 0, none⟩ (.int .i32 st')) T ∧ Keep Z.mut w (w.setCell ⟨Z.sh, 0, none⟩ (.int .i32 st')) := by
  have kp : Keep Z.mut w (w.setCell ⟨Z.sh, 0, none⟩ (.int .i32 st')) := (Keep.refl _ _).set ⟨Z.sh, 0, none⟩ (zm_sh Z) _
  refine ⟨h.blk hZ kp ((h.s.set 0 _).congr fun i _ => sv_st _ _ _ _ i) (fun i hi => ?_) (h.fresh.oth _ hZ.n2.1 _) (h.runs.oth _ hZ.n3.1 _), kp⟩
  obtain ⟨v, m1, m2⟩ := h.mems i hi
  exact ⟨v, m1.oth _ hZ.n1.1 _, m2⟩
attribute [local simp] nil45_op nil44_op nil23_op
set_option maxRecDepth 100000 in
set_option maxHeartbeats 1000000 in
theorem cloneI_all (b cap n : Nat) (cs : List Value) (hn : n < 65) (hl : cs.length = n * 1) (h1 : ∀ u ∈ cs, u.oneCell' = true) (w : World) (hx : ∀ j u, cs[j]? = some u → w.cell? ⟨b, j, none⟩ = some u) : Calls Sq.prog 20 #[.slice (some ⟨b, 0, none⟩) n cap] w fun e w' => ∃ g c, e = .returned (.slice (some ⟨g, 0, none⟩) n c) ∧ w.heap.size ≤ g ∧ g < w'.heap.size ∧ Mem w' g (n * 1) (fun j => cs.getD j undef) ∧ Keep (fun _ => False) w w' := by
  obtain ⟨i0, hi0, hiz⟩ := Option.map_eq_some_iff.1 (show (Sq.prog.info? 3).map (fun i => (i.zero, i.size, i.bytes)) = some (some (.int .i64 0), 1, 8) by kernel_rfl)
  simp only [Prod.mk.injEq] at hiz
  obtain ⟨hz0, hz1, hz2⟩ := hiz
  have usl := (sq_under 23).trans Try.underlying23
  have HX : Hid (∀ j u, cs[j]? = some u → (w.alloc (.cells #[] 3)).cell? ((⟨b, 0, none⟩ : Addr).add j) = some u) := hide fun j u hj => by
    have e : (⟨b, 0, none⟩ : Addr).add j = ⟨b, j, none⟩ := by unfold Addr.add; split <;> simp_all
    rw [e, (alloc_cell _ _ _ (World.block_lt_of_cell? w _ (hx j u hj))).1]
    exact hx j u hj
  suffices ∀ Pp : Ending → World → Prop, Hid (∀ e w', (∃ g c, e = .returned (.slice (some ⟨g, 0, none⟩) n c) ∧ w.heap.size ≤ g ∧ g < w'.heap.size ∧ Mem w' g (n * 1) (fun j => cs.getD j undef) ∧ Keep (fun _ => False) w w') → Pp e w') → Calls Sq.prog 20 #[.slice (some ⟨b, 0, none⟩) n cap] w Pp from this _ (hide fun _ _ h => h)
  intro Pp HP
  have HL := hide hl
  have H1 := hide h1
  clear hl h1 hx
  go_enter Sq.func20, Sq.ntmps20
  go_wp2_with (at_builtin; go_loud (refine wpList_append_own _ rfl _ _ 23 rfl w.heap.size 3 i0 _ 1 8 usl hi0 hz0 hz1 hz2 rfl (by decide) (.slice (some ⟨w.heap.size, 0, none⟩) 0 0) 0 [] rfl (World.ownsRow_made w #[] 0 (Nat.le_refl _) (Nat.zero_le _) (by simp)) ⟨b, 0, none⟩ n cap cs rfl HL.out HX.out H1.out (by unfold maxLen; omega) (by omega) (by simp) ?_; intro v6 w6 hown6 hgrow6 hat6; replace hown6 := hide hown6; replace hgrow6 := hide hgrow6; replace hat6 := hide hat6))
  have hown := hown6.out
  have hgrow := hgrow6.out
  rcases hown.2 with ⟨h00, _⟩ | ⟨g, cp, cur, hv, hb, hg, _⟩
  · have := (hat6.out.1 h00).1
    cases this
  · have hz : 0 + n = n := by omega
    rw [hz] at hv hown
    subst hv
    show Pp (.returned (.slice (some ⟨g, 0, none⟩) n cp)) _
    refine HP.out _ _ ⟨g, cp, rfl, hb, (Array.getElem?_eq_some_iff.1 hg).1, fun j hj => ⟨?_, by simp [World.frozen?, hg]⟩, ?_⟩
    · have hj2 : j < cs.length := by rw [HL.out]; exact hj
      have := hown.cells (g := g) rfl j cs[j] (by simp [hj2])
      have e : (⟨g, 0, none⟩ : Addr).add j = ⟨g, j, none⟩ := by unfold Addr.add; split <;> simp_all
      rw [e] at this
      rw [this]
      simp [hj2]
    · refine ⟨hgrow.os, hgrow.output, Nat.le_trans (by simp) hgrow.size, fun k hk _ => ?_⟩
      rw [hgrow.block k (by simp; omega) (by simp [Value.ownBlock]; omega), blk_alloc_lt _ _ _ hk]
set_option maxRecDepth 100000 in
set_option maxHeartbeats 2000000 in
/-- Runs. -/
theorem runs_any (hZ : Z.Ok R) (h : Sh R Z 0 w T) (hn : R.n < 65) : Calls Sq.prog 10 #[.pointer (some ⟨Z.sh, 0, none⟩)] w fun e w' => ∃ g c, e = .returned (.slice (some ⟨g, 0, none⟩) R.n c) ∧ w.heap.size ≤ g ∧ g < w'.heap.size ∧ Mem w' g R.n (fun k => .int .i64 (T.rn k)) ∧ Sh R Z 0 w' T ∧ Keep Z.mut w w' := by
  have c0 := h.s.cell (i := 0) (by decide)
  have z0 := h.s.frozen (i := 0) (by decide)
  have c5 := h.s.cell (i := 5) (by decide)
  simp only [QZ.sv] at c0 c5
  have hss : Z.sh < w.heap.size := World.block_lt_of_cell? w _ c0
  suffices ∀ Pp : Ending → World → Prop, Hid (∀ e w', (∃ g c, e = .returned (.slice (some ⟨g, 0, none⟩) R.n c) ∧ w.heap.size ≤ g ∧ g < w'.heap.size ∧ Mem w' g R.n (fun k => .int .i64 (T.rn k)) ∧ Sh R Z 0 w' T ∧ Keep Z.mut w w') → Pp e w') → Calls Sq.prog 10 #[.pointer (some ⟨Z.sh, 0, none⟩)] w Pp from this _ (hide fun _ _ h => h)
  intro Pp HP
  have hR1 := h.runs.oth ⟨Z.sh, 0, none⟩ hZ.n3.1 (.int .i32 1)
  have CL := hide (cloneI_all Z.rb Z.rc R.n ((List.range R.n).map fun k => .int .i64 (T.rn k)) hn (by simp) (fun u hu => by
    obtain ⟨k, _, rfl⟩ := List.mem_map.1 hu
    rfl) (w.setCell ⟨Z.sh, 0, none⟩ (.int .i32 1)) (fun j u hj => by
    rw [List.getElem?_map] at hj
    obtain ⟨k, hk, rfl⟩ := Option.map_eq_some_iff.1 hj
    have hjn : j < R.n := by
      have := (List.getElem?_eq_some_iff.1 hk).1
      simpa using this
    obtain rfl : j = k := by simpa [hjn] using hk
    exact hR1.cell hjn))
  have c5' : (w.setCell ⟨Z.sh, 0, none⟩ (.int .i32 1)).cell? ⟨Z.sh, 5, none⟩ = some (.slice (some ⟨Z.rb, 0, none⟩) R.n Z.rc) := by
    rw [World.cell?_setCell_other _ _ _ _ (by simp)]
    exact c5
  have HZ := hide hZ
  have H := hide h
  clear hZ h hR1
  go_enter_defers Sq.func10, Sq.ntmps10
  go_wp2_with fail
  refine (qlock_any ⟨Z.sh, 0, none⟩ w c0 z0).mono ?_
  rintro e w1 ⟨rfl, rfl⟩
  go_wp2_with fail
  refine CL.out.mono ?_
  rintro e w2 ⟨g, c, rfl, hg1, hg2, hm, kp⟩
  have hss1 : Z.sh < (w.setCell ⟨Z.sh, 0, none⟩ (.int .i32 1)).heap.size := by simpa using hss
  have c2 : w2.cell? ⟨Z.sh, 0, none⟩ = some (.int .i32 1) := kp.cell id (World.cell?_setCell_same _ _ _ c0)
  have z2 : w2.frozen? ⟨Z.sh, 0, none⟩ = false := by
    rw [World.frozen?_of_block (w := w.setCell ⟨Z.sh, 0, none⟩ (.int .i32 1)) (kp.block _ hss1 id)]
    simpa using z0
  replace hm := hide hm
  replace kp := hide kp
  go_wp2_with fail
  refine leaves_cons (f := 15) (args := #[.pointer (some ⟨Z.sh, 0, none⟩)]) (by simp) (by simp [invoke]) ?_
  refine (qunlock_d ⟨Z.sh, 0, none⟩ .returning w2 c2 z2).mono ?_
  rintro e u' w3 ⟨rfl, rfl, rfl⟩
  refine ⟨_, results_tmp rfl _ _ _, HP.out _ _ ⟨g, c, rfl, by simpa using hg1, by simpa using hg2, ?_, ?_⟩⟩
  · have hgs : Z.sh ≠ g := by
      have : (w.setCell ⟨Z.sh, 0, none⟩ (.int .i32 1)).heap.size ≤ g := hg1
      omega
    refine Mem.congr ((hm.out.oth ⟨Z.sh, 0, none⟩ hgs (.int .i32 0))) ?_ |> fun h => by simpa using h
    intro i hi
    have hi2 : i < R.n := by simpa using hi
    simp [hi2]
  · have k2 : Keep Z.mut w (w2.setCell ⟨Z.sh, 0, none⟩ (.int .i32 0)) := (((Keep.refl _ _).set ⟨Z.sh, 0, none⟩ (zm_sh Z) _).trans (kp.out.wide fun _ _ => False.elim)).set ⟨Z.sh, 0, none⟩ (zm_sh Z) _
    have o : ∀ b, b < w.heap.size → b ≠ Z.sh → (w2.setCell ⟨Z.sh, 0, none⟩ (.int .i32 0)).heap[b]? = w.heap[b]? := fun b hb hs => by
      rw [blk_setCell_other _ _ _ _ hs, kp.out.block b (by simpa using hb) id, blk_setCell_other _ _ _ _ hs]
    refine ⟨H.out.blk HZ.out k2 ?_ (fun i hi => ?_) (H.out.fresh.blk fun hb => o _ hb HZ.out.n2.2) (H.out.runs.blk fun hb => o _ hb HZ.out.n3.2), k2⟩
    · exact ((kp.out.mem id (H.out.s.set 0 (.int .i32 1))).set 0 (.int .i32 0)).congr fun i _ => sv_again _ _ _ i
    · obtain ⟨v, m1, m2⟩ := H.out.mems i hi
      exact ⟨v, m1.blk fun hb => o _ hb HZ.out.n1.2, m2⟩
end
end Go.Proofs.Ytdlnlcjmjgbikaa
