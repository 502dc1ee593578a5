/- bring: a cell is brought up to date. -/
import Derived.Test.YtdlnlcjmjgbikaaTu
namespace Go.Proofs.Ytdlnlcjmjgbikaa
open Go Go.Conc Go.RowKit Go.Deep

noncomputable section
variable {R : QR} {Y : QY} {X : Nat → Prop} {ch : Nat → Nat} {w w' : World} {S : QS} {k m : Nat} {br : QS → Nat → QO × QS}
theorem own2 {A : Nat} {x0 x1 : Value} {t : TypeId} (h : w.heap[A]? = some (.cells #[x0, x1] t)) : (w.cell? ⟨A, 0, none⟩ = some x0 ∧ w.cell? ⟨A, 1, none⟩ = some x1) ∧ w.frozen? ⟨A, 0, none⟩ = false ∧ w.frozen? ⟨A, 1, none⟩ = false := by
  simp [World.cell?, World.frozen?, h]
theorem set2 {A : Nat} {x0 x1 : Value} {t : TypeId} (h : w.heap[A]? = some (.cells #[x0, x1] t)) (y0 y1 : Value) : ((w.setCell ⟨A, 0, none⟩ y0).setCell ⟨A, 1, none⟩ y1).heap[A]? = some (.cells #[y0, y1] t) := by
  simp [World.setCell, Array.getElem?_modify, h]
theorem res64 {fn : Func} {t : Tmp} (h : fn.results = #[.cell t 64]) {tmps : Array Value} {W : World} {A : Nat} {x0 x1 : Value} (ht : tmps.getD t undef = .pointer (some ⟨A, 0, none⟩)) (hA : W.heap[A]? = some (.cells #[x0, x1] 64)) : (results fn tmps).run Sq.prog W = .ok (.agg #[x0, x1]) W := by
  obtain ⟨⟨a0, a1⟩, _⟩ := own2 hA
  simp only [results, h, List.mapM_toArray, List.mapM_cons, List.mapM_nil, ht]
  go_simp
theorem MemAt.other {b o o' : Nat} {q : QM} {v : Value} (h : MemAt w b o q v) (hn : ∀ i j, i < 4 → j < 4 → o + i ≠ o' + j) {i : Nat} (hi : i < 4) (x : Value) : MemAt (w.setCell ⟨b, o' + i, none⟩ x) b o q v := by
  have f : ∀ j, (w.setCell ⟨b, o' + i, none⟩ x).frozen? ⟨b, j, none⟩ = w.frozen? ⟨b, j, none⟩ := fun j => World.frozen?_setCell _ _ _ _
  have c : ∀ j, j < 4 → (w.setCell ⟨b, o' + i, none⟩ x).cell? ⟨b, o + j, none⟩ = w.cell? ⟨b, o + j, none⟩ := fun j hj => World.cell?_setCell_other _ _ _ _ fun e => hn j i hj hi (congrArg Addr.off e).symm
  exact ⟨⟨(c 0 (by decide)).trans h.ran.1, (f _).trans h.ran.2⟩, ⟨(c 1 (by decide)).trans h.num.1, (f _).trans h.num.2⟩, ⟨(c 2 (by decide)).trans h.err.1, (f _).trans h.err.2⟩, ⟨(c 3 (by decide)).trans h.led.1, (f _).trans h.led.2⟩⟩
theorem MemAt.put {b o : Nat} {q : QM} {v : Value} (h : MemAt w b o q v) (p : QM) (l : Value) : MemAt ((((w.setCell ⟨b, o, none⟩ (.bool p.ran)).setCell ⟨b, o + 1, none⟩ (.int .i64 p.out.num)).setCell ⟨b, o + 2, none⟩ (.int .i64 p.out.err)).setCell ⟨b, o + 3, none⟩ l) b o p l := by
  have ne : ∀ i j : Nat, i ≠ j → (⟨b, o + i, none⟩ : Addr) ≠ ⟨b, o + j, none⟩ := fun i j hn e => hn (by have := congrArg Addr.off e; simp at this; exact this)
  have n1 : (⟨b, o + 1, none⟩ : Addr) ≠ ⟨b, o, none⟩ := ne 1 0 (by decide)
  have n2 : (⟨b, o + 2, none⟩ : Addr) ≠ ⟨b, o, none⟩ := ne 2 0 (by decide)
  have n3 : (⟨b, o + 3, none⟩ : Addr) ≠ ⟨b, o, none⟩ := ne 3 0 (by decide)
  have n4 := ne 2 1 (by decide)
  have n5 := ne 3 1 (by decide)
  have n6 := ne 3 2 (by decide)
  refine ⟨⟨?_, by simp [h.ran.2]⟩, ⟨?_, by simp [h.num.2]⟩, ⟨?_, by simp [h.err.2]⟩, ⟨?_, by simp [h.led.2]⟩⟩
  · rw [World.cell?_setCell_other _ _ _ _ n3, World.cell?_setCell_other _ _ _ _ n2, World.cell?_setCell_other _ _ _ _ n1]
    exact World.cell?_setCell_same _ _ _ h.ran.1
  · rw [World.cell?_setCell_other _ _ _ _ n5, World.cell?_setCell_other _ _ _ _ n4]
    refine World.cell?_setCell_same _ _ _ (u := .int .i64 q.out.num) ?_
    rw [World.cell?_setCell_other _ _ _ _ n1.symm]
    exact h.num.1
  · rw [World.cell?_setCell_other _ _ _ _ n6]
    refine World.cell?_setCell_same _ _ _ (u := .int .i64 q.out.err) ?_
    rw [World.cell?_setCell_other _ _ _ _ n4.symm, World.cell?_setCell_other _ _ _ _ n2.symm]
    exact h.err.1
  · refine World.cell?_setCell_same _ _ _ (u := v) ?_
    rw [World.cell?_setCell_other _ _ _ _ n6.symm, World.cell?_setCell_other _ _ _ _ n5.symm, World.cell?_setCell_other _ _ _ _ n3.symm]
    exact h.led.1
theorem rd_setmem (hY : Y.Ok R) (h : Rd R Y X ch w S) (hk : k < R.n) (p : QM) (l : Value) (hl : LedIs (Y.out X) w l p.led) {W : World} (hW : W = (((w.setCell ⟨Y.mb, k * 4, none⟩ (.bool p.ran)).setCell ⟨Y.mb, k * 4 + 1, none⟩ (.int .i64 p.out.num)).setCell ⟨Y.mb, k * 4 + 2, none⟩ (.int .i64 p.out.err)).setCell ⟨Y.mb, k * 4 + 3, none⟩ l) :
    Rd R Y X ch W { S with mem := upf S.mem k p } ∧ Keep Y.mut w W := by
  have n := hY.ne
  have kp : Keep Y.mut w W := hW ▸ ((((Keep.refl _ _).set ⟨Y.mb, k * 4, none⟩ (mut_mb Y) _).set ⟨Y.mb, k * 4 + 1, none⟩ (mut_mb Y) _).set ⟨Y.mb, k * 4 + 2, none⟩ (mut_mb Y) _).set ⟨Y.mb, k * 4 + 3, none⟩ (mut_mb Y) _
  have o : ∀ b, b ≠ Y.mb → W.heap[b]? = w.heap[b]? := fun b hb => by
    rw [hW, blk_setCell_other _ _ _ _ hb, blk_setCell_other _ _ _ _ hb, blk_setCell_other _ _ _ _ hb, blk_setCell_other _ _ _ _ hb]
  refine ⟨⟨h.r.blk fun _ => o _ n.a1.1, fun i hi => (h.cells i hi).keep hY.cb (hY.lk i hi) kp, fun j hj => ?_, h.runs.blk fun _ => o _ n.b1.2, h.fresh.blk fun _ => o _ n.b2.2, h.hands.blk fun _ => o _ n.b3.2, h.dones (o _ n.b4.2), h.chans kp, h.inj, h.waits.blk fun _ => o _ n.b5.2, h.privs kp⟩, kp⟩
  obtain ⟨v, m1, m2⟩ := h.mems j hj
  by_cases e : j = k
  · subst e
    refine ⟨l, ?_, ?_⟩
    · show MemAt W Y.mb (j * 4) (upf S.mem j p j) l
      rw [upf_same, hW]
      exact m1.put p l
    · show LedIs _ W l (upf S.mem j p j).led
      rw [upf_same]
      exact hl.keep kp fun _ => .inl
  · refine ⟨v, ?_, ?_⟩
    · show MemAt W Y.mb (j * 4) (upf S.mem k p j) v
      rw [upf_ne _ _ e, hW]
      have hn : ∀ a b, a < 4 → b < 4 → j * 4 + a ≠ k * 4 + b := fun a b ha hb => by omega
      exact (((m1.other hn (i := 0) (by decide) _).other hn (i := 1) (by decide) _).other hn (i := 2) (by decide) _).other hn (i := 3) (by decide) _
    · show LedIs _ W v (upf S.mem k p j).led
      rw [upf_ne _ _ e]
      exact m2.keep kp fun _ => .inl
end
end Go.Proofs.Ytdlnlcjmjgbikaa
/- bring: a cell is brought up to date. -/
namespace Go.Proofs.Ytdlnlcjmjgbikaa
open Go Go.Conc Go.RowKit Go.Deep

noncomputable section
variable {R : QR} {Y : QY} {X : Nat → Prop} {ch : Nat → Nat} {w w' : World} {S : QS} {k m : Nat} {br : QS → Nat → QO × QS}
theorem led_slice {M : Nat → Prop} {v : Value} {l : List QL} (h : LedIs M w v l) : ∃ a n cap, v = .slice a n cap := by
  rcases h with ⟨_, a, cap, e⟩ | ⟨b, cap, e, _⟩
  · exact ⟨a, 0, cap, e⟩
  · exact ⟨_, _, cap, e⟩
theorem Keep.afterM {M M' : Nat → Prop} {w w6 w7 : World} (h : Keep M w w6) (k : Keep M' w6 w7) (hn : ∀ b, M' b → M b ∨ w.heap.size ≤ b) : Keep M w w7 :=
  ⟨k.os.trans h.os, k.output.trans h.output, Nat.le_trans h.size k.size, fun b hb hm => (k.block b (Nat.lt_of_lt_of_le hb h.size) fun m => by
    rcases hn b m with h1 | h1
    · exact hm h1
    · omega).trans (h.block b hb hm)⟩
theorem bring_close {A : Nat} {w6 : World} {S6 : QS} {ch6 : Nat → Nat} (h6 : Rd R Y (fun b => X b ∨ b = A) ch6 w6 S6) (hch : ∀ j, S.hd j = true → ch6 j = ch j) (k6 : Keep Y.mut w w6) (hA : w.heap.size ≤ A) (x y : Value) : Brought R Y X ch S w ((w6.setCell ⟨A, 0, none⟩ x).setCell ⟨A, 1, none⟩ y) S6 := by
  have kx : Keep (fun b => b = A) w6 ((w6.setCell ⟨A, 0, none⟩ x).setCell ⟨A, 1, none⟩ y) := Keep.set (M := fun b => b = A) (Keep.set (M := fun b => b = A) (Keep.refl _ _) ⟨A, 0, none⟩ rfl x) ⟨A, 1, none⟩ rfl y
  exact ⟨ch6, hch, (h6.keepX (kx.wide fun b _ hb => .inr hb)).fewer fun _ => .inl, k6.after kx (by rintro b rfl; exact hA)⟩
set_option maxRecDepth 100000 in
set_option maxHeartbeats 4000000 in
theorem bring_any (hY : Y.Ok R) (hR : R.Ok) : ∀ f, BringOk R Y (brM R f) f
  | 0 => fun X S ch w k h hS hm hk => absurd hm (Nat.not_lt_zero _)
  | f + 1 => fun X S ch w k h hS hm hk => by
    have IH := hide (bring_any hY hR f)
    have BR := hide (brM_brings hR f)
    suffices ∀ P : Ending → World → Prop, Hid (∀ e w', (e = .returned (brM R (f + 1) S k).1.v ∧ Brought R Y X ch S w w' (brM R (f + 1) S k).2) → P e w') → Calls Sq.prog 46 #[.pointer (some ⟨Y.r, 0, none⟩), .int .i64 0, .int .i64 k] w P from this _ (hide fun _ _ h => h)
    intro P HP
    have hAm : ¬ Y.mut w.heap.size := fun hm => by have := h.mut_lt hk _ hm; omega
    have r1 := h.hold hk (.cells #[.int .i64 0, .int .i64 0] 64)
    have HX := hide hAm
    have HR := hide (And.intro hY (And.intro hR (And.intro h (And.intro hS hm))))
    clear hY hR h hS hm hAm
    by_cases hf : S.fr k = true
    · have T := hide (rd_ready HR.out.1 r1 hk hf)
      have HF := hide hf
      clear r1 hf
      go_enter Sq.func46, Sq.ntmps46
      go_wp2_with fail
      refine T.out.mono ?_
      rintro e w2 ⟨rfl, r2, k2⟩
      have hA := (k2.block w.heap.size (by simp) HX.out).trans (heap_alloc_new w _)
      obtain ⟨v, m1, m2⟩ := r2.mems k hk
      have c1 := r2.r.cell (i := 1) (by decide)
      simp only [QY.rv] at c1
      have d1 := m1.num.1
      have d2 := m1.err.1
      obtain ⟨⟨a0, a1⟩, f0, f1⟩ := own2 hA
      have HW := hide (set2 hA (.int .i64 (S.mem k).out.num) (.int .i64 (S.mem k).out.err))
      replace r2 := hide r2
      replace k2 := hide k2
      clear hA m1 m2 T
      go_wp2_with fail
      refine bodyPost_ret (res64 rfl rfl HW.out) rfl (HP.out _ _ ?_)
      have e : brM R (f + 1) S k = ((S.mem k).out, S) := by
        rw [brM, if_pos HF.out]
      rw [e]
      exact ⟨rfl, bring_close r2.out (fun _ _ => rfl) (((Keep.refl _ w).alloc _).trans k2.out) (Nat.le_refl _) _ _⟩
    · by_cases hh : S.hd k = true
      · have T := hide (rd_ring HR.out.1 r1 hk (by simpa using hf) hh)
        have HF := hide (And.intro hf hh)
        clear r1 hf hh
        go_enter Sq.func46, Sq.ntmps46
        go_wp2_with fail
        refine T.out.mono ?_
        rintro e w2 ⟨rfl, r2, k2⟩
        have hA := (k2.block w.heap.size (by simp) HX.out).trans (heap_alloc_new w _)
        obtain ⟨⟨a0, a1⟩, f0, f1⟩ := own2 hA
        have HW := hide (set2 hA (.int .i64 0) (.int .i64 7))
        replace r2 := hide r2
        replace k2 := hide k2
        clear hA T
        go_wp2_with fail
        refine bodyPost_ret (res64 rfl rfl HW.out) rfl (HP.out _ _ ?_)
        have e : brM R (f + 1) S k = (⟨0, 7⟩, S) := by
          rw [brM, if_neg HF.out.1, if_pos HF.out.2]
        rw [e]
        exact ⟨rfl, bring_close r2.out (fun _ _ => rfl) (((Keep.refl _ w).alloc _).trans k2.out) (Nat.le_refl _) _ _⟩
      · have hf0 : S.fr k = false := by simpa using hf
        have hh0 : S.hd k = false := by simpa using hh
        have T := hide (rd_taken HR.out.1 r1 hk hf0 hh0)
        have HF : Hid (¬ S.fr k = true) := hide hf
        have HH : Hid (¬ S.hd k = true) := hide hh
        have H0 : Hid (R.op k ≠ 0) := hide fun e => hf (HR.out.2.2.2.1.input k hk e)
        have HO := hide (show offs R (taken S k) < f by have := offs_taken hk hh0; have := HR.out.2.2.2.2; omega)
        clear r1 hf hh hf0 hh0
        go_enter Sq.func46, Sq.ntmps46
        go_wp2_with fail
        refine T.out.mono ?_
        rintro e w2 ⟨rfl, r2, k2⟩
        have hA2 := (k2.block w.heap.size (by simp) HX.out).trans (heap_alloc_new w _)
        have okT : (taken S k).Ok R := ⟨HR.out.2.2.2.1.input, HR.out.2.2.2.1.led⟩
        have H := hide (holds_any IH.out BR.out r2 okT HO.out hk)
        replace hA2 := hide hA2
        replace r2 := hide r2
        replace k2 := hide k2
        replace okT := hide okT
        clear T
        go_wp2_with fail
        refine H.out.mono ?_
        rintro e w3 ⟨rfl, hb3⟩
        obtain ⟨⟨b3, S3⟩, hq⟩ : ∃ q, holdsM (brM R f) ((taken S k).mem k).led (taken S k) = q := ⟨_, rfl⟩
        rw [hq] at hb3 ⊢
        have hd3 : S3.hd k = true := by
          have := congrFun (holds_hd BR.out ((taken S k).mem k).led (taken S k)) k
          rw [hq] at this
          rw [this]
          exact upf_same _ _ _
        have ok3 : S3.Ok R := by
          have := holds_ok BR.out ((taken S k).mem k).led (taken S k) (okT.out.led k hk) okT.out
          rwa [hq] at this
        have of3 : offs R S3 < f := by
          have := holds_hd BR.out ((taken S k).mem k).led (taken S k)
          rw [hq] at this
          rw [offs_hd (S := taken S k) this]
          exact HO.out
        obtain ⟨ch3, hch3, r3, k3⟩ := hb3
        have hA3 := (k3.block w.heap.size (Array.getElem?_eq_some_iff.1 hA2.out).1 HX.out).trans hA2.out
        have hck : ch3 k = w.heap.size + 1 := by
          rw [hch3 k (upf_same _ _ _), upf_same]
          simp
        have hch30 : ∀ j, S.hd j = true → ch3 j = ch j := fun j hj => by
          have hjk : j ≠ k := fun e => HH.out (e ▸ hj)
          rw [hch3 j ((upf_ne S.hd true hjk).trans hj), upf_ne _ _ hjk]
        have kw3 : Keep Y.mut w w3 := (((Keep.refl _ w).alloc _).trans k2.out).trans k3
        dsimp only
        by_cases hv : (b3 && (S3.mem k).ran) = true
        · rw [hv]
          have HQ : Hid (takenM R (brM R f) (taken S k) k = S3) := hide (by
            unfold takenM
            rw [hq]
            dsimp only
            rw [if_pos hv])
          have REL := hide (rd_release HR.out.1 r3 hk hd3)
          have HK := hide (And.intro kw3 hch30)
          have HC : Hid (¬ w.heap.size = ch3 k) := hide (by omega)
          have HC2 : Hid (w.heap.size ≤ ch3 k) := hide (by omega)
          have hA4 := hide hA3
          clear hv hq hd3 ok3 of3 hch3 r3 k3 hA3 hck hch30 kw3 H
          go_wp2_with fail
          refine REL.out.mono ?_
          rintro e w5 ⟨rfl, r5, k5⟩
          have hA5 := (k5.block w.heap.size (Array.getElem?_eq_some_iff.1 hA4.out).1 (fun ho => ho.elim HX.out HC.out)).trans hA4.out
          obtain ⟨v5, m1, m2⟩ := r5.mems k hk
          have c1 := r5.r.cell (i := 1) (by decide)
          simp only [QY.rv] at c1
          have d1 := m1.num.1
          have d2 := m1.err.1
          obtain ⟨⟨a0, a1⟩, f0, f1⟩ := own2 hA5
          have HW := hide (set2 hA5 (.int .i64 ((releasedM S3 k).mem k).out.num) (.int .i64 ((releasedM S3 k).mem k).out.err))
          replace r5 := hide r5
          replace k5 := hide k5
          clear hA5 m1 m2
          go_wp2_with fail
          refine bodyPost_ret (res64 rfl rfl HW.out) rfl (HP.out _ _ ?_)
          have e : brM R (f + 1) S k = ((S3.mem k).out, releasedM S3 k) := by
            have := HQ.out
            rw [brM, if_neg HF.out, if_neg HH.out, this]
          rw [e]
          obtain ⟨kk, hch4⟩ := HK.out
          exact ⟨rfl, bring_close r5.out hch4 (kk.afterM k5.out (by
            rintro b (hb | rfl)
            · exact .inl hb
            · exact .inr (by have := HC2.out; omega))) (Nat.le_refl _) _ _⟩
        · have hv0 : (b3 && (S3.mem k).ran) = false := by simpa using hv
          rw [hv0]
          have RUN : Hid (∀ wa, Keep (fun _ => False) w3 wa → Calls Sq.prog 72 #[.pointer (some ⟨Y.r, 0, none⟩), .int .i64 0, .int .i64 k] wa (RunPost R Y (fun b => X b ∨ b = w.heap.size) ch3 S3 wa (runM R (brM R f) S3 k))) :=
            hide fun wa hwa => run_any HR.out.1 HR.out.2.1 IH.out BR.out (r3.keep hwa) ok3 of3 hk H0.out
          obtain ⟨⟨p, S4⟩, hp⟩ : ∃ q, runM R (brM R f) S3 k = q := ⟨_, rfl⟩
          rw [hp] at RUN
          have HQ0 : Hid (takenM R (brM R f) (taken S k) k = { S4 with mem := upf S4.mem k p }) := hide (by
            unfold takenM
            rw [hq]
            dsimp only
            rw [if_neg (by rw [hv0]; decide), hp])
          have hd4 : S4.hd k = true := by
            have := congrFun (run_hd BR.out S3 k) k
            rw [hp] at this
            rw [this]
            exact hd3
          have hd34 : S4.hd = S3.hd := by
            have := run_hd BR.out S3 k
            rwa [hp] at this
          have hd3T : S3.hd = (taken S k).hd := by
            have := holds_hd BR.out ((taken S k).mem k).led (taken S k)
            rwa [hq] at this
          have c1 := r3.r.cell (i := 1) (by decide)
          simp only [QY.rv] at c1
          have G3 := hide (And.intro hd4 (And.intro hch30 (And.intro kw3 (And.intro hck (And.intro hd3 (And.intro hd34 hd3T))))))
          replace hA3 := hide hA3
          clear hv hq hd3 ok3 of3 hch3 r3 k3 hck hch30 kw3 H hv0 hp hd4 hd34 hd3T
          go_wp2_with fail
          go_region_with (go_at_call 72; refine (RUN.out _ ((Keep.refl _ _).drew)).mono ?_; rintro e w4 ⟨l, rfl, led4, ch4, hch4, r4, k4⟩; obtain ⟨la, ln, lcap, rfl⟩ := led_slice led4; have c4 := r4.r.cell (i := 1) (by decide); simp only [QY.rv] at c4; obtain ⟨v4, ⟨⟨m0, z0⟩, ⟨m1, z1⟩, ⟨m2, z2⟩, ⟨m3, z3⟩⟩, _⟩ := r4.mems k hk; simp only [QM.v]; replace led4 := hide led4; replace hch4 := hide hch4; replace r4 := hide r4; replace k4 := hide k4)
          all_goals
            generalize hw5 : (((w4.setCell ⟨Y.mb, k * 4, none⟩ (.bool p.ran)).setCell ⟨Y.mb, k * 4 + 1, none⟩ (.int .i64 p.out.num)).setCell ⟨Y.mb, k * 4 + 2, none⟩ (.int .i64 p.out.err)).setCell ⟨Y.mb, k * 4 + 3, none⟩ (.slice la ln lcap) = w5
            obtain ⟨hd4, hch30, kw3, hck, hd3, hd34, hd3T⟩ := G3.out
            obtain ⟨r5, k5⟩ := rd_setmem HR.out.1 r4.out hk p (.slice la ln lcap) led4.out hw5.symm
            have kw5 : Keep Y.mut w w5 := (kw3.trans ((Keep.refl _ _).drew.trans k4.out)).trans k5
            have hA4 := (k5.block _ (Nat.lt_of_lt_of_le (Array.getElem?_eq_some_iff.1 hA3.out).1 k4.out.size) HX.out).trans ((k4.out.block _ (Array.getElem?_eq_some_iff.1 hA3.out).1 HX.out).trans hA3.out)
            have REL := hide (rd_release HR.out.1 r5 hk hd4)
            have hck4 : ch4 k = w.heap.size + 1 := (hch4.out k hd3).trans hck
            have HK : Hid (Keep Y.mut w w5 ∧ ∀ j, S.hd j = true → ch4 j = ch j) := hide ⟨kw5, fun j hj => by
              have hjk : j ≠ k := fun e => HH.out (e ▸ hj)
              have : S3.hd j = true := by rw [hd3T]; exact (upf_ne S.hd true hjk).trans hj
              rw [hch4.out j this, hch30 j hj]⟩
            have HC : Hid (¬ w.heap.size = ch4 k) := hide (by omega)
            have HC2 : Hid (w.heap.size ≤ ch4 k) := hide (by omega)
            replace hA4 := hide hA4
            clear hd4 hch30 kw3 hck hd3 hd34 hd3T r5 k5 kw5 hck4 hw5 m0 m1 m2 m3 z0 z1 z2 z3 c1 c4 led4 r4 k4
            have HQ := HQ0
            go_wp2_with fail
            refine REL.out.mono ?_
            rintro e w6 ⟨rfl, r6, k6⟩
            have hA6 := (k6.block w.heap.size (Array.getElem?_eq_some_iff.1 hA4.out).1 (fun ho => ho.elim HX.out HC.out)).trans hA4.out
            obtain ⟨v5, m1, m2⟩ := r6.mems k hk
            have c1 := r6.r.cell (i := 1) (by decide)
            simp only [QY.rv] at c1
            have d1 := m1.num.1
            have d2 := m1.err.1
            obtain ⟨⟨a0, a1⟩, f0, f1⟩ := own2 hA6
            have HW := hide (set2 hA6 (.int .i64 ((releasedM { S4 with mem := upf S4.mem k p } k).mem k).out.num) (.int .i64 ((releasedM { S4 with mem := upf S4.mem k p } k).mem k).out.err))
            replace r6 := hide r6
            replace k6 := hide k6
            clear hA6 m1 m2
            go_wp2_with fail
            refine bodyPost_ret (res64 rfl rfl HW.out) rfl (HP.out _ _ ?_)
            have e : brM R (f + 1) S k = (({ S4 with mem := upf S4.mem k p } : QS).mem k |>.out, releasedM { S4 with mem := upf S4.mem k p } k) := by
              have := HQ.out
              rw [brM, if_neg HF.out, if_neg HH.out, this]
            rw [e]
            obtain ⟨kk, hch4⟩ := HK.out
            exact ⟨rfl, bring_close r6.out hch4 (kk.afterM k6.out (by
              rintro b (hb | rfl)
              · exact .inl hb
              · exact .inr (by have := HC2.out; omega))) (Nat.le_refl _) _ _⟩
end
end Go.Proofs.Ytdlnlcjmjgbikaa
/- A region that draws its order: an invariant that every operation keeps. -/
namespace Go.Proofs.Ytdlnlcjmjgbikaa
open Go Go.Conc Go.RowKit Go.Deep

section
variable {P : Program} {ops : Array Oper} {Q : Exit → Act → World → Prop} {md : Region.Mode}
/-- How many have not come up. -/
def undone (N : Nat) (d : Array Bool) : Nat := (List.range N).countP fun j => !d.getD j true
theorem undone_set {N : Nat} {d : Array Bool} {i : Nat} (hi : i < N) (h : d.getD i true = false) : undone N (d.setIfInBounds i true) + 1 = undone N d := by
  have := count_up (fun j => d.getD j true) i h N hi
  unfold undone
  rw [← this]
  congr 1
  refine List.countP_congr fun j _ => ?_
  unfold upf
  by_cases e : j = i
  · subst e
    have hlt : j < d.size := by
      rcases Nat.lt_or_ge j d.size with h' | h'
      · exact h'
      · simp [Array.getElem?_eq_none h'] at h
    simp [hlt]
  · rw [if_neg e, getD_set_ne true (Ne.symm e)]
theorem ready_nil {d : Array Bool} (hac : ∀ (i : Nat) (o : Oper), ops[i]? = some o → ∀ e ∈ o.after, Region.binds md e = true → e.on < i) (hd : d.size = ops.size) (h : Region.ready md ops d = []) : ∀ i, i < ops.size → d.getD i false = true := by
  intro i
  induction i using Nat.strongRecOn with
  | _ i ih =>
    intro hi
    cases hv : d.getD i false with
    | true => rfl
    | false =>
      exfalso
      have hlt : i < d.size := by omega
      have hv2 : d.getD i true = false := by simpa [hlt] using hv
      have : i ∈ Region.ready md ops d := mem_ready.2 ⟨hv2, ops[i], by simp [hi], fun e he hb => by
        have hlt2 := hac i ops[i] (by simp [hi]) e he hb
        exact ih _ hlt2 (by omega)⟩
      rw [h] at this
      cases this
/-- The invariant J holds behind each operation: so it does where all have come up. -/
theorem wpAny_inv (J : Array Bool → Act → World → Prop) (hac : ∀ (i : Nat) (o : Oper), ops[i]? = some o → ∀ e ∈ o.after, Region.binds md e = true → e.on < i) (hg : ∀ (i : Nat) (o : Oper), ops[i]? = some o → o.guard = none)
    (step : ∀ d a w i o, J d a w → d.size = ops.size → ops[i]? = some o → d.getD i true = false → (∀ e ∈ o.after, Region.binds md e = true → d.getD e.on false = true) → o.wp P a w (fun a' w' => J (d.setIfInBounds i true) a' w') Q)
    (fin : ∀ d a w, J d a w → (∀ i, i < ops.size → d.getD i false = true) → Q .normal a w) :
    ∀ n d a w, d.size = ops.size → undone ops.size d ≤ n → J d a w → wpAny P md ops Q n d a w
  | 0, d, a, w, hd, hn, h => by
    have h0 : Region.ready md ops d = [] := by
      cases e : Region.ready md ops d with
      | nil => rfl
      | cons i l =>
        have hi : i ∈ Region.ready md ops d := by rw [e]; simp
        obtain ⟨h1, o, ho, _⟩ := mem_ready.1 hi
        have := undone_set (N := ops.size) (Array.getElem?_eq_some_iff.1 ho).1 h1
        omega
    exact ⟨h0, fin d a w h (ready_nil hac hd h0)⟩
  | n + 1, d, a, w, hd, hn, h => by
    refine ⟨fun h0 => fin d a w h (ready_nil hac hd h0), fun i hi => ?_⟩
    obtain ⟨h1, o, ho, h2⟩ := mem_ready.1 hi
    unfold wpOp
    rw [ho]
    have hw : Region.wanted o (yielded ops a.tmps) = true := by simp [Region.wanted, hg i o ho]
    show (if Region.wanted o (yielded ops a.tmps) = true then _ else _)
    rw [if_pos hw]
    refine .inl (Oper.wp_mono (fun a' w' hj => ?_) (step d a w i o h hd ho h1 h2))
    refine wpAny_inv J hac hg step fin n _ a' w' (by simp [hd]) ?_ hj
    have := undone_set (N := ops.size) (Array.getElem?_eq_some_iff.1 ho).1 h1
    omega
theorem wp_value {o : Oper} {a : Act} {w w' : World} {v : Value} {K : Act → World → Prop} (h : (execOp a.eval o).run P w = .ok (.value v) w') (hK : K (a.put o.dst v) w') : o.wp P a w K Q := by
  unfold Oper.wp
  rw [h]
  exact hK
theorem wp_enter {o : Oper} {a : Act} {w w1 : World} {f : FuncId} {args : Array Value} {K : Act → World → Prop} (h : (execOp a.eval o).run P w = .ok (.enter f args) w1) (hK : Calls P f args w1 fun e w' => ∃ v, e = .returned v ∧ K (a.put o.dst v) w') : o.wp P a w K Q := by
  unfold Oper.wp
  rw [h]
  refine Calls.mono hK ?_
  rintro e w' ⟨v, rfl, hk⟩
  exact hk
end
end Go.Proofs.Ytdlnlcjmjgbikaa
