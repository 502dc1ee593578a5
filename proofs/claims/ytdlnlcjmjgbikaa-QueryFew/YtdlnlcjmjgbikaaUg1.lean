/- ask: a question of one cell. -/
import Derived.Test.YtdlnlcjmjgbikaaUe1
import Derived.LoopTactic
namespace Go.Proofs.Ytdlnlcjmjgbikaa
open Go Go.Conc Go.RowKit Go.Deep

noncomputable section
variable {R : QR} {Z : QZ} {st most : Int} {w0 w w' : World} {T : QT} {k : Nat}
/-- What one question comes to. -/
def askS (R : QR) (T : QT) (most : Int) (k : Nat) : QS := (brM R (R.n + 1) (startS T most) k).2
def askT (R : QR) (T : QT) (most : Int) (k : Nat) : QT := ⟨(askS R T most k).fr, (askS R T most k).mem, fun j => wrap64 (T.rn j + (askS R T most k).rn j)⟩
/-- The sheet behind a call. -/
def After (R : QR) (Z : QZ) (st : Int) (w w' : World) (T : QT) : Prop := ∃ Z' : QZ, Z'.Ok R ∧ Sh R Z' st w' T ∧ Z'.sh = Z.sh ∧ Keep Z.mut w w' ∧ (∀ b, Z'.mut b → Z.mut b ∨ w.heap.size ≤ b) ∧ Z'.cb = Z.cb ∧ Z'.lk = Z.lk
theorem offs_start (R : QR) (T : QT) (most : Int) : offs R (startS T most) < R.n + 1 := by
  unfold offs
  exact Nat.lt_succ_of_le (Nat.le_trans List.countP_le_length (by rw [List.length_range]; exact Nat.le_refl _))
def QT.Ok (R : QR) (T : QT) : Prop := (startS T 0).Ok R
def runF (f g : Nat → Int) (i : Nat) : Nat → Value := fun j => .int .i64 (if j < i then wrap64 (f j + g j) else f j)
set_option maxRecDepth 100000 in
set_option maxHeartbeats 4000000 in
theorem ask_any (hZ : Z.Ok R) (hR : R.Ok) (h : Sh R Z st w T) (hT : T.Ok R) (h0 : 0 < R.n) (hn : R.n < 65) (most : Int) (hk : k < R.n) {a cap : Nat} (ha : w.cell? ⟨a, 0, none⟩ = some (.int .i64 k)) :
    Calls Sq.prog 18 #[.pointer (some ⟨Z.sh, 0, none⟩), .slice (some ⟨a, 0, none⟩) 1 cap, .int .i64 1, .int .i64 most] w fun e w' =>
      ((askS R T most k).left < 0 ∧ e = .returned (.bool false) ∧ After R Z st w w' T) ∨ (¬ (askS R T most k).left < 0 ∧ e = .returned (.bool true) ∧ After R Z st w w' (askT R T most k)) := by
  suffices ∀ Pp : Ending → World → Prop, Hid (∀ e w', (((askS R T most k).left < 0 ∧ e = .returned (.bool false) ∧ After R Z st w w' T) ∨ (¬ (askS R T most k).left < 0 ∧ e = .returned (.bool true) ∧ After R Z st w w' (askT R T most k))) → Pp e w') → Calls Sq.prog 18 #[.pointer (some ⟨Z.sh, 0, none⟩), .slice (some ⟨a, 0, none⟩) 1 cap, .int .i64 1, .int .i64 most] w Pp from this _ (hide fun _ _ h => h)
  intro Pp HP
  have RN := hide (round_any hZ h h0 hn most)
  have H := hide (And.intro hZ (And.intro hR (And.intro h hT)))
  have HA := hide ha
  clear hZ hR h hT ha
  go_enter Sq.func18, Sq.ntmps18
  go_wp2_with fail
  refine RN.out.mono ?_
  rintro e w1 ⟨Y, rfl, hY, r1, k1, hmut, e1, e2, e3, e4⟩
  have hblk : Keep (fun _ => False) w1 (blk (blk (blk (blk (blk w1))))) := by
    exact (((((Keep.refl _ _).alloc _).alloc _).alloc _).alloc _).alloc _
  have SV := hide (qserve_any ⟨Y.r, 0, none⟩ ⟨a, 0, none⟩ cap (.int .i64 k) w1 (hblk.cell id (k1.cell id HA.out)) (fun e w2 => e = .returned (.tuple #[]) ∧ Brought R Y Z.priv (fun _ => 0) (startS T most) (blk (blk (blk (blk (blk w1))))) w2 (askS R T most k)) ((bring_any hY H.out.2.1 (R.n + 1) Z.priv (startS T most) _ _ k (r1.keep hblk) ⟨H.out.2.2.2.input, H.out.2.2.2.led⟩ (offs_start R T most) hk).mono (by
    rintro e w2 ⟨rfl, hb⟩
    exact ⟨_, rfl, rfl, hb⟩)))
  replace hY := hide hY
  replace r1 := hide r1
  replace k1 := hide k1
  replace hmut := hide hmut
  replace hblk := hide hblk
  have HE := hide (And.intro e1 (And.intro e2 (And.intro e3 e4)))
  clear e1 e2 e3 e4 RN
  go_wp2_with fail
  refine SV.out.mono ?_
  rintro e w2 ⟨rfl, ch, hch, r2, k2⟩
  have c3 := r2.r.cell (i := 3) (by decide)
  simp only [QY.rv] at c3
  have KW := hide ((k1.out.trans hblk.out).after k2 hmut.out)
  have r2' := hide r2
  have hS2 := hide (H.out.2.2.1.new KW.out)
  have hsw : Z.sh < w.heap.size := World.block_lt_of_cell? w _ (H.out.2.2.1.s.cell (i := 0) (by decide))
  have hrw : Z.rb < w.heap.size := World.block_lt_of_cell? w _ (H.out.2.2.1.runs.cell h0)
  clear r2 k2 hch SV
  go_wp2_with fail
  refine (aload_any ⟨Y.r, 3, none⟩ _ w2 c3).mono ?_
  rintro e w2' ⟨rfl, rfl⟩
  by_cases hl : (askS R T most k).left < 0
  · have HE2 := hide (HP.out (.returned (.bool false)) w2' (.inl ⟨hl, rfl, Z, H.out.1, hS2.out, rfl, KW.out.wide fun _ _ => False.elim, fun _ h => .inl h, rfl, rfl⟩))
    generalize (askS R T most k).left = l at hl
    clear c3
    go_wp2_with fail
    exact HE2.out
  · have r2 := r2'.out
    have hS := hS2.out
    have d1 := r2.r.cell (i := 1) (by decide)
    have d6 := r2.r.cell (i := 6) (by decide)
    have s3 := hS.s.cell (i := 3) (by decide)
    have s4 := hS.s.cell (i := 4) (by decide)
    have f3 := hS.s.frozen (i := 3) (by decide)
    have f4 := hS.s.frozen (i := 4) (by decide)
    have s5 := hS.s.cell (i := 5) (by decide)
    simp only [QY.rv, QZ.sv] at d1 d6 s3 s4 s5
    have hrs : Y.r ≠ Z.sh := by have := hmut.out Y.r (mut_r Y); omega
    have hsr : Z.sh ≠ Y.r := Ne.symm hrs
    have HL := hide hl
    generalize hlg : (askS R T most k).left = l at hl
    replace hlg := hide hlg
    clear r2 hS c3
    go_wp2_with fail
    go_region
    obtain ⟨w3, hw3⟩ : ∃ w3, w3 = ((w2'.setCell ⟨Z.sh, 3, none⟩ (.slice (some ⟨Y.mb, 0, none⟩) R.n Y.mc)).setCell ⟨Z.sh, 4, none⟩ (.slice (some ⟨Y.fb, 0, none⟩) R.n Y.fc)).drew := ⟨_, rfl⟩
    rw [← hw3]
    have KS : Keep (fun b => b = Z.sh) w2' w3 := hw3 ▸ (Keep.set (M := fun b => b = Z.sh) (Keep.set (M := fun b => b = Z.sh) (Keep.refl _ _) ⟨Z.sh, 3, none⟩ rfl _) ⟨Z.sh, 4, none⟩ rfl _).drew
    have hM3 : Mem w3 Z.sh 6 (upf (upf (Z.sv R.n st) 3 (.slice (some ⟨Y.mb, 0, none⟩) R.n Y.mc)) 4 (.slice (some ⟨Y.fb, 0, none⟩) R.n Y.fc)) := hw3 ▸ ((hS2.out.s.set 3 _).set 4 _).drew
    replace hw3 := hide hw3
    have n := H.out.1
    have t5 := hM3.cell (i := 5) (by decide)
    have hrm : ∀ b, Y.mut b → b ≠ Z.sh := fun b hb e => by have := hmut.out b hb; omega
    have t2 := KS.cell (hrm _ (mut_r Y)) (r2'.out.r.cell (i := 2) (by decide))
    have hrun0 := KS.mem n.n3.2 hS2.out.runs
    have t5' : w3.cell? ⟨Z.sh, 5, none⟩ = some (.slice (some ⟨Z.rb, 0, none⟩) R.n Z.rc) := t5
    have t2' : w3.cell? ⟨Y.r, 2, none⟩ = some (.slice (some ⟨Y.rb, 0, none⟩) R.n Y.rc) := t2
    have hrz : ∀ b, Y.mut b → b ≠ Z.rb := fun b hb e => by have := hmut.out b hb; omega
    have T2 := hide t2'
    have T5 := hide t5'
    have HM3 := hide hM3
    have KSH := hide KS
    have HR0 := hide hrun0
    have HQ := hide (And.intro n (And.intro hrm hrz))
    clear t5 t2 hrun0 hM3 KS n hrm hrz t2' d1 d6 s3 s4 f3 f4 s5 hrs hsr
    go_wp2_with fail
    go_loopw [43] (fun iv wr => ∃ j : Nat, iv = .int .i64 j ∧ j ≤ R.n ∧ Hid (Mem wr Z.rb R.n (runF T.rn (askS R T most k).rn j) ∧ Keep (fun b => b = Z.rb) w3 wr)) (fun iv _ => R.n - ivn iv)
    case atStart => exact ⟨0, rfl, Nat.zero_le _, hide ⟨HR0.out.congr fun i _ => by simp [runF], Keep.refl _ _⟩⟩
    case round =>
      obtain ⟨j, rfl, hj, HI⟩ := hrel
      obtain ⟨hm, kp⟩ := HI.out
      obtain ⟨n, hrm, hrz⟩ := HQ.out
      by_cases hlt : j < R.n
      · have u5 := kp.cell (a := ⟨Z.sh, 5, none⟩) n.n3.1 T5.out
        have u2 := kp.cell (a := ⟨Y.r, 2, none⟩) (hrz _ (mut_r Y)) T2.out
        have ur := kp.cell (a := ⟨Y.rb, j, none⟩) (hrz _ (mut_rb Y)) (KSH.out.cell (a := ⟨Y.rb, j, none⟩) (hrm _ (mut_rb Y)) (r2'.out.runs.cell hlt))
        have um := hm.cell hlt
        have uz := hm.frozen hlt
        have e0 : runF T.rn (askS R T most k).rn j j = .int .i64 (T.rn j) := by simp [runF]
        rw [e0] at um
        generalize hx : (askS R T most k).rn j = x at ur
        have HI2 : Hid (Mem (wr.setCell ⟨Z.rb, j, none⟩ (.int .i64 (wrap64 (T.rn j + x)))) Z.rb R.n (runF T.rn (askS R T most k).rn (j + 1)) ∧ Keep (fun b => b = Z.rb) w3 (wr.setCell ⟨Z.rb, j, none⟩ (.int .i64 (wrap64 (T.rn j + x))))) := hide ⟨(hm.set j _).congr fun i _ => by
          unfold upf runF
          by_cases e : i = j
          · subst e; simp [hx]
          · rw [if_neg e]
            congr 1
            by_cases h1 : i < j
            · rw [if_pos h1, if_pos (by omega)]
            · rw [if_neg h1, if_neg (by omega)], Keep.set (M := fun b => b = Z.rb) kp ⟨Z.rb, j, none⟩ rfl _⟩
        have AL := hide (aload_any ⟨Y.rb, j, none⟩ x wr.drew ur)
        clear hm kp HI n hrm hrz e0 hx
        go_wp2_with fail
        go_region_with (go_at_call 28; refine AL.out.mono ?_; rintro e w9 ⟨rfl, hw9⟩; subst hw9)
        all_goals
          go_wp2_with fail
          refine ⟨⟨j + 1, rfl, hlt, hide ⟨HI2.out.1.drew, HI2.out.2.drew⟩⟩, ?_⟩
          simp only [ivn]
          omega
      · obtain rfl : j = R.n := by omega
        clear hm kp n hrm hrz
        go_wp2_with fail
        show Pp (.returned (.bool true)) wr
        obtain ⟨hm, kp⟩ := HI.out
        obtain ⟨n, hrm, hrz⟩ := HQ.out
        have r2 := r2'.out
        have hS := hS2.out
        have ne := hY.out.ne
        have k23 : Keep (fun b => b = Z.sh ∨ b = Z.rb) w2' wr := (KSH.out.wide fun _ _ h => .inl h).trans (kp.wide fun _ _ h => .inr h)
        refine HP.out _ _ (.inr ⟨HL.out, rfl, ⟨Z.sh, Z.cb, Y.mb, Y.fb, Z.rb, Z.cc, Y.mc, Y.fc, Z.rc, Z.sema, Z.lk, Z.lc⟩, ?_, ?_, rfl, ?_, ?_, rfl, rfl⟩)
        · have hms := hrm _ (mut_mb Y)
          have hfs := hrm _ (mut_fb Y)
          have hmr := hrz _ (mut_mb Y)
          have hfr := hrz _ (mut_fb Y)
          have hcl : Z.cb < w.heap.size := World.block_lt_of_cell? w _ (H.out.2.2.1.cells 0 h0).op
          have out : ∀ b, b < w.heap.size → ¬ Z.mut b → ¬ (QZ.mut ⟨Z.sh, Z.cb, Y.mb, Y.fb, Z.rb, Z.cc, Y.mc, Y.fc, Z.rc, Z.sema, Z.lk, Z.lc⟩ b) := fun b hb hn ho => by
            rcases ho with ho | ho | ho | ho
            · exact hn (ho ▸ zm_sh Z)
            · have := hmut.out _ (mut_mb Y); have : b = Y.mb := ho; omega
            · have := hmut.out _ (mut_fb Y); have : b = Y.fb := ho; omega
            · exact hn (ho ▸ zm_rb Z)
          exact ⟨⟨hms.symm, hms⟩, ⟨hfs.symm, hfs⟩, n.n3, ne.b2, ⟨hmr, hmr.symm⟩, ⟨hfr, hfr.symm⟩, out _ hcl n.cb, fun i hi h0 => out _ (looks_lt H.out.2.2.1 hi h0) (n.lk i hi h0)⟩
        · refine ⟨?_, fun i hi => ?_, fun i hi => ?_, ?_, ?_⟩
          · refine (kp.mem n.n3.1 HM3.out).congr fun i hi => ?_
            have : i = 0 ∨ i = 1 ∨ i = 2 ∨ i = 3 ∨ i = 4 ∨ i = 5 := by omega
            rcases this with rfl | rfl | rfl | rfl | rfl | rfl <;> rfl
          · have c := (hS.cells i hi).keep (M := fun b => b = Z.sh ∨ b = Z.rb) (fun h => n.cb (h.elim (fun (e : Z.cb = Z.sh) => e ▸ zm_sh Z) fun (e : Z.cb = Z.rb) => e ▸ zm_rb Z)) (fun h0 h => n.lk i hi h0 (h.elim (fun (e : Z.lk i = Z.sh) => e ▸ zm_sh Z) fun (e : Z.lk i = Z.rb) => e ▸ zm_rb Z)) k23
            exact ⟨c.op, c.a, c.b, c.c, c.once, c.looks, c.at_⟩
          · obtain ⟨v, m1, m2⟩ := r2.mems i hi
            refine ⟨v, m1.blk fun hb => k23.block _ hb fun h => h.elim (hrm _ (mut_mb Y)) (hrz _ (mut_mb Y)), ?_⟩
            refine LedIs.keep (m2.mono fun b _ ho => ?_) k23 fun b hb => hb.elim .inl fun h => .inr (.inr (.inr h))
            rcases ho with ho | ho | ho | ho
            · exact .inr (.inl ho)
            · exact .inl (ho ▸ mut_mb Y)
            · exact .inl (ho ▸ mut_fb Y)
            · exact .inr (.inr ho)
          · exact k23.mem (fun h => h.elim (hrm _ (mut_fb Y)) (hrz _ (mut_fb Y))) r2.fresh
          · exact hm.congr fun i hi => by simp [runF, hi, askT]
        · exact (KW.out.wide fun _ _ => False.elim).trans (k23.wide fun b _ hb => hb.elim (fun e => e ▸ zm_sh Z) fun e => e ▸ zm_rb Z)
        · rintro b (rfl | rfl | rfl | rfl)
          · exact .inl (zm_sh Z)
          · exact .inr (hmut.out _ (mut_mb Y))
          · exact .inr (hmut.out _ (mut_fb Y))
          · exact .inl (zm_rb Z)
end
end Go.Proofs.Ytdlnlcjmjgbikaa
/- Some and Get. -/
namespace Go.Proofs.Ytdlnlcjmjgbikaa
open Go Go.Conc Go.RowKit Go.Deep

noncomputable section
variable {R : QR} {Z : QZ} {st most : Int} {w0 w w1 w' : World} {T T' : QT} {k : Nat}
theorem After.of (hZ : Z.Ok R) (h : Sh R Z st w' T) (k : Keep Z.mut w w') : After R Z st w w' T := ⟨Z, hZ, h, rfl, k, fun _ h => .inl h, rfl, rfl⟩
theorem After.pre (k : Keep Z.mut w w1) (h : After R Z st w1 w' T) : After R Z st w w' T := by
  obtain ⟨Z', h1, h2, h3, h4, h5, h6, h7⟩ := h
  exact ⟨Z', h1, h2, h3, k.trans h4, fun b hb => (h5 b hb).imp id fun h => Nat.le_trans k.size h, h6, h7⟩
theorem After.lock (h : After R Z st w w' T) (st' : Int) : After R Z st' w (w'.setCell ⟨Z.sh, 0, none⟩ (.int .i32 st')) T := by
  obtain ⟨Z', h1, h2, h3, h4, h5, h6, h7⟩ := h
  obtain ⟨h8, _⟩ := h2.lock h1 st'
  rw [h3] at h8
  exact ⟨Z', h1, h8, h3, h4.set ⟨Z.sh, 0, none⟩ (zm_sh Z) _, h5, h6, h7⟩
theorem After.new {w2 : World} (h : After R Z st w w' T) (k : Keep (fun _ => False) w' w2) : After R Z st w w2 T := by
  obtain ⟨Z', h1, h2, h3, h4, h5, h6, h7⟩ := h
  exact ⟨Z', h1, h2.new k, h3, h4.trans (k.wide fun _ _ => False.elim), h5, h6, h7⟩
theorem After.cell (h : After R Z st w w' T) : w'.cell? ⟨Z.sh, 0, none⟩ = some (.int .i32 st) ∧ w'.frozen? ⟨Z.sh, 0, none⟩ = false := by
  obtain ⟨Z', h1, h2, h3, h4, h5, h6, h7⟩ := h
  rw [← h3]
  exact ⟨h2.s.cell (i := 0) (by decide), h2.s.frozen (i := 0) (by decide)⟩
/-- What Some answers. -/
def SomePost (R : QR) (Z : QZ) (T : QT) (w : World) (k most : Int) (e : Ending) (w' : World) : Prop :=
  ((k < 0 ∨ (R.n : Int) ≤ k ∨ most < 0) ∧ e = .returned (.tuple #[.int .i64 0, .iface 36 (.int .i64 1)]) ∧ After R Z 0 w w' T) ∨
  ∃ kk : Nat, k = kk ∧ kk < R.n ∧ 0 ≤ most ∧
    (((askS R T most kk).left < 0 ∧ e = .returned (.tuple #[.int .i64 0, .iface 36 (.int .i64 14)]) ∧ After R Z 0 w w' T) ∨
    (¬ (askS R T most kk).left < 0 ∧ (((askT R T most kk).mem kk).out.err ≠ 0 ∧ e = .returned (.tuple #[.int .i64 0, .iface 36 (.int .i64 ((askT R T most kk).mem kk).out.err)]) ∨ ((askT R T most kk).mem kk).out.err = 0 ∧ e = .returned (.tuple #[.int .i64 ((askT R T most kk).mem kk).out.num, .nilIface])) ∧ After R Z 0 w w' (askT R T most kk)))
set_option maxRecDepth 100000 in
set_option maxHeartbeats 4000000 in
theorem some_any (hZ : Z.Ok R) (hR : R.Ok) (h : Sh R Z 0 w T) (hT : T.Ok R) (hn : R.n < 65) (k most : Int) : Calls Sq.prog 21 #[.pointer (some ⟨Z.sh, 0, none⟩), .int .i64 k, .int .i64 most] w (SomePost R Z T w k most) := by
  have c0 := h.s.cell (i := 0) (by decide)
  have z0 := h.s.frozen (i := 0) (by decide)
  obtain ⟨h1, k1⟩ := h.lock hZ 1
  have d2 := h1.s.cell (i := 2) (by decide)
  simp only [QZ.sv] at c0 d2
  suffices ∀ Pp : Ending → World → Prop, Hid (∀ e w', SomePost R Z T w k most e w' → Pp e w') → Calls Sq.prog 21 #[.pointer (some ⟨Z.sh, 0, none⟩), .int .i64 k, .int .i64 most] w Pp from this _ (hide fun _ _ h => h)
  intro Pp HP
  have LK := hide (lacks_any d2 k)
  have A1 := After.of hZ h1 k1
  by_cases hr : k < 0 ∨ (R.n : Int) ≤ k
  · have hc := hide A1.cell
    have HE := hide (HP.out (.returned (.tuple #[.int .i64 0, .iface 36 (.int .i64 1)])) _ (.inl ⟨by omega, rfl, A1.lock 0⟩))
    rw [decide_eq_true hr] at LK
    clear h h1 k1 hZ d2 A1 hR hT
    go_enter_defers Sq.func21, Sq.ntmps21
    go_wp2_with fail
    refine (qlock_any ⟨Z.sh, 0, none⟩ w c0 z0).mono ?_
    rintro e w1 ⟨rfl, rfl⟩
    go_wp2_with fail
    refine LK.out.mono ?_
    rintro e w1 ⟨rfl, rfl⟩
    go_wp2_with fail
    refine leaves_cons (f := 15) (args := #[.pointer (some ⟨Z.sh, 0, none⟩)]) (by simp) (by simp [invoke]) ?_
    refine (qunlock_d ⟨Z.sh, 0, none⟩ .returning _ hc.out.1 hc.out.2).mono ?_
    rintro e u' w3 ⟨rfl, rfl, rfl⟩
    exact ⟨_, results_tmp2 (t := 6) (u := 7) rfl _ _ _, HE.out⟩
  · rw [decide_eq_false hr] at LK
    obtain ⟨kk, rfl⟩ : ∃ kk : Nat, k = kk := ⟨k.toNat, by omega⟩
    have hk : kk < R.n := by omega
    have h0 : 0 < R.n := by omega
    by_cases hm : most < 0
    · have hc := hide A1.cell
      have HE := hide (HP.out (.returned (.tuple #[.int .i64 0, .iface 36 (.int .i64 1)])) _ (.inl ⟨by omega, rfl, A1.lock 0⟩))
      clear h h1 k1 hZ d2 A1 hR hT
      go_enter_defers Sq.func21, Sq.ntmps21
      go_wp2_with fail
      refine (qlock_any ⟨Z.sh, 0, none⟩ w c0 z0).mono ?_
      rintro e w1 ⟨rfl, rfl⟩
      go_wp2_with fail
      refine LK.out.mono ?_
      rintro e w1 ⟨rfl, rfl⟩
      go_wp2_with fail
      refine leaves_cons (f := 15) (args := #[.pointer (some ⟨Z.sh, 0, none⟩)]) (by simp) (by simp [invoke]) ?_
      refine (qunlock_d ⟨Z.sh, 0, none⟩ .returning _ hc.out.1 hc.out.2).mono ?_
      rintro e u' w3 ⟨rfl, rfl, rfl⟩
      exact ⟨_, results_tmp2 (t := 6) (u := 7) rfl _ _ _, HE.out⟩
    · have hs1 : (w.setCell ⟨Z.sh, 0, none⟩ (.int .i32 1)).heap.size = w.heap.size := by simp
      have kal : Keep (fun _ => False) (w.setCell ⟨Z.sh, 0, none⟩ (.int .i32 1)) ((w.setCell ⟨Z.sh, 0, none⟩ (.int .i32 1)).alloc (.cells #[.int .i64 kk] 3)) := (Keep.refl _ _).alloc _
      have AK := hide (ask_any hZ hR (h1.new kal) hT h0 hn most hk (a := (w.setCell ⟨Z.sh, 0, none⟩ (.int .i32 1)).heap.size) (cap := 1) (World.cell?_alloc_new _ _ _ _))
      have K1 := hide (k1.trans (kal.wide (M' := Z.mut) fun _ _ => False.elim))
      clear h h1 k1 hZ d2 A1 hR hT kal
      go_enter_defers Sq.func21, Sq.ntmps21
      go_wp2_with fail
      refine (qlock_any ⟨Z.sh, 0, none⟩ w c0 z0).mono ?_
      rintro e w1 ⟨rfl, hw1⟩
      rw [← hw1] at LK AK K1
      replace hw1 := hide hw1
      go_wp2_with fail
      refine LK.out.mono ?_
      rintro e w2 ⟨rfl, rfl⟩
      go_wp2_with fail
      refine AK.out.mono ?_
      rintro e w3 (⟨hl, rfl, ha⟩ | ⟨hl, rfl, ha⟩)
      · have hc := hide ha.cell
        have HE := hide (HP.out (.returned (.tuple #[.int .i64 0, .iface 36 (.int .i64 14)])) _ (.inr ⟨kk, rfl, hk, by omega, .inl ⟨hl, rfl, (ha.pre K1.out).lock 0⟩⟩))
        clear ha hl AK
        go_wp2_with fail
        refine leaves_cons (f := 15) (args := #[.pointer (some ⟨Z.sh, 0, none⟩)]) (by simp) (by simp [invoke]) ?_
        refine (qunlock_d ⟨Z.sh, 0, none⟩ .returning _ hc.out.1 hc.out.2).mono ?_
        rintro e u' w4 ⟨rfl, rfl, rfl⟩
        exact ⟨_, results_tmp2 (t := 6) (u := 7) rfl _ _ _, HE.out⟩
      · have ha' := ha
        obtain ⟨Z', g1, g2, g3, g4, g5, _⟩ := ha'
        have s3 := g2.s.cell (i := 3) (by decide)
        simp only [QZ.sv] at s3
        rw [g3] at s3
        obtain ⟨lv, m1, m2⟩ := g2.mems kk hk
        have d1 := m1.num.1
        have d2 := m1.err.1
        have hA : ∀ w4, Keep (fun _ => False) w3 w4 → After R Z 0 w (w4.setCell ⟨Z.sh, 0, none⟩ (.int .i32 0)) (askT R T most kk) := fun w4 k4 => ((ha.pre K1.out).new k4).lock 0
        have hcs : ∀ w4, Keep (fun _ => False) w3 w4 → w4.cell? ⟨Z.sh, 0, none⟩ = some (.int .i32 1) ∧ w4.frozen? ⟨Z.sh, 0, none⟩ = false := fun w4 k4 => (ha.new k4).cell
        obtain ⟨on, hon⟩ : ∃ x, ((askT R T most kk).mem kk).out.num = x := ⟨_, rfl⟩
        obtain ⟨oe, hoe⟩ : ∃ x, ((askT R T most kk).mem kk).out.err = x := ⟨_, rfl⟩
        rw [hon] at d1
        rw [hoe] at d2
        have HH := hide (And.intro hA (And.intro hcs (And.intro hon (And.intro hoe hl))))
        clear ha hl AK g1 g2 g3 g4 g5 m1 m2 hA hcs hon hoe
        by_cases he : oe = 0
        · subst he
          go_wp2_with fail
          obtain ⟨hA, hcs, hon, hoe, hl⟩ := HH.out
          have k4 : Keep (fun _ => False) w3 (w3.alloc (.cells #[.int .i64 on, .int .i64 0] 64)) := (Keep.refl _ _).alloc _
          have hc := hcs _ k4
          have HE := HP.out (.returned (.tuple #[.int .i64 on, .nilIface])) _ (.inr ⟨kk, rfl, hk, by omega, .inr ⟨Int.not_lt.2 hl, .inr ⟨hoe, by rw [hon]⟩, hA _ k4⟩⟩)
          refine leaves_cons (f := 15) (args := #[.pointer (some ⟨Z.sh, 0, none⟩)]) (by simp) (by simp [invoke]) ?_
          refine (qunlock_d ⟨Z.sh, 0, none⟩ .returning _ hc.1 hc.2).mono ?_
          rintro e u' w4 ⟨rfl, rfl, rfl⟩
          exact ⟨_, results_tmp2 (t := 6) (u := 7) rfl _ _ _, HE⟩
        · have heb : (oe != 0) = true := by simpa using he
          go_wp2_with fail
          go_region
          go_wp2_with fail
          obtain ⟨hA, hcs, hon, hoe, hl⟩ := HH.out
          have k4 : Keep (fun _ => False) w3 (w3.alloc (.cells #[.int .i64 on, .int .i64 oe] 64)).drew := ((Keep.refl _ _).alloc _).drew
          have hc := hcs _ k4
          have HE := HP.out (.returned (.tuple #[.int .i64 0, .iface 36 (.int .i64 oe)])) _ (.inr ⟨kk, rfl, hk, by omega, .inr ⟨Int.not_lt.2 hl, .inl ⟨by rw [hoe]; exact he, by rw [hoe]⟩, hA _ k4⟩⟩)
          refine leaves_cons (f := 15) (args := #[.pointer (some ⟨Z.sh, 0, none⟩)]) (by simp) (by simp [invoke]) ?_
          refine (qunlock_d ⟨Z.sh, 0, none⟩ .returning _ hc.1 hc.2).mono ?_
          rintro e u' w4 ⟨rfl, rfl, rfl⟩
          exact ⟨_, results_tmp2 (t := 6) (u := 7) rfl _ _ _, HE⟩
set_option maxRecDepth 100000 in
set_option maxHeartbeats 1000000 in
theorem get_any (hZ : Z.Ok R) (hR : R.Ok) (h : Sh R Z 0 w T) (hT : T.Ok R) (hn : R.n < 65) (k : Int) : Calls Sq.prog 11 #[.pointer (some ⟨Z.sh, 0, none⟩), .int .i64 k] w (SomePost R Z T w k 64) := by
  suffices ∀ Pp : Ending → World → Prop, Hid (∀ e w', SomePost R Z T w k 64 e w' → Pp e w') → Calls Sq.prog 11 #[.pointer (some ⟨Z.sh, 0, none⟩), .int .i64 k] w Pp from this _ (hide fun _ _ h => h)
  intro Pp HP
  have SM := hide (some_any hZ hR h hT hn k 64)
  clear hZ hR h hT
  go_enter Sq.func11, Sq.ntmps11
  go_wp2_with fail
  refine SM.out.mono ?_
  rintro e w1 hp
  obtain ⟨a, b, rfl⟩ : ∃ a b, e = .returned (.tuple #[a, b]) := by
    rcases hp with ⟨_, e, _⟩ | ⟨_, _, _, _, ⟨_, e, _⟩ | ⟨_, ⟨_, e⟩ | ⟨_, e⟩, _⟩⟩ <;> exact ⟨_, _, e⟩
  replace hp := hide (HP.out _ _ hp)
  go_wp2_with fail
  exact hp.out
end
end Go.Proofs.Ytdlnlcjmjgbikaa
