/- Package scope: what the UItem of a use stands for. -/
import Derived.Test.YtgjbafamiggafaaGreatDoorJh
namespace Go.Proofs.YtgjbafamiggafaaGreatDoor
open Go.RowKit
open M
variable {w0 : World} {L : Lay} {fs : List X.Fl} {M : Mem} {us : List X.U} {w : World}
set_option maxRecDepth 100000 in
set_option maxHeartbeats 4000000 in
/-- A use that is asked for: a ring; one that is known: what is known. -/
theorem used_seen (f k : Nat) (pub gs : Bool) (m n a : X.Nm) (ub : Nat) (h : Run w0 L fs M us w) (hM : MOk fs M) (hk : (X.itemsOf fs f)[k]? = some (.use pub m n gs a)) (hpath : ∀ i j, (M i j).1 = 1 → ∃ t, X.on fs (t + 1) (i, j) = some (f, k)) (h0 : (M f k).1 ≠ 0) :
    Calls Tryz.prog 83 #[.pointer (some ⟨L.wb, 0, none⟩), .int .i64 f, .int .i64 k, .pointer (some ⟨ub, 0, none⟩)] w (Fnd w0 L fs M us f k w) := by
  obtain ⟨hil, hkl⟩ := item_lt hk
  have hA := h.alloc (.cells #[.int .i64 0, .int .i64 0, .int .i64 0, .int .i64 0] 177)
  obtain ⟨-, c1⟩ := hA.wsp
  obtain ⟨fg, fcap, d1, d2, d3, d4⟩ := hA.files hil
  rw [d1] at c1
  have hff := hA.file hil
  have g2 := cell_of_row _ _ 2 _ _ _ hff
  have hn16 := h.st.n
  have hIl := h.st.il f
  have hi1 : (f : Int) < (fs.length : Int) := by omega
  have hi2 : (k : Int) < ((X.itemsOf fs f).length : Int) := by omega
  obtain ⟨⟨a0, a1, a2, a3⟩, -⟩ := hA.ans hil hkl
  have hw0 := h.size
  have hS := h.st.lt
  have hle := (hM f k).1
  have hsz : w.heap.size < (w.alloc (.cells #[.int .i64 0, .int .i64 0, .int .i64 0, .int .i64 0] 177)).heap.size := by simp
  have HA := hide hA
  have HMo := hide hM
  have HXx : Hid (Kx L fs.length w0.heap.size (Al w) (w.alloc (.cells #[.int .i64 0, .int .i64 0, .int .i64 0, .int .i64 0] 177))) := Kx.refl _ _ _ _
  by_cases h1 : (M f k).1 = 1
  · obtain ⟨t, ht⟩ := hpath f k h1
    have HE := hide (X.EvA.ring ht)
    rw [h1] at a0
    have a0' : (w.alloc (.cells #[.int .i64 0, .int .i64 0, .int .i64 0, .int .i64 0] 177)).cell? ⟨L.gb f, k * 4, none⟩ = some (.int .i64 1) := a0
    clear h hA hM hpath hff d1 a0 h1 ht hle h0
    go_enter Tryz.func83, Tryz.ntmps83
    go_wp2_with fail
    refine (wrong_any 7 _).mono ?_
    rintro e w2 ⟨rfl, B2⟩
    obtain ⟨s1, s2, s3⟩ := run_store4 ((HA.out).below B2) ((HXx.out).trans (Kx.ofBelow B2)) hw0 hS (.int .i64 2) (.int .i64 (-1)) (.int .i64 (-1)) (.int .i64 7)
    have m0 := cell_of_row w2 _ 0 _ _ _ s1
    have m1 := cell_of_row w2 _ 1 _ _ _ s1
    have m2 := cell_of_row w2 _ 2 _ _ _ s1
    have m3 := cell_of_row w2 _ 3 _ _ _ s1
    have z0 := frozen_of_row w2 _ 0 _ _ s1
    have z1 := frozen_of_row w2 _ 1 _ _ s1
    have z2 := frozen_of_row w2 _ 2 _ _ s1
    have z3 := frozen_of_row w2 _ 3 _ _ s1
    have HB := hide s1
    have HF : Hid (X.EvA fs f k (-1, -1, 7) ∧ ∃ M', Run w0 L fs M' us _ ∧ MOk fs M' ∧ (∀ i j, (M' i j).1 = 1 ↔ (M i j).1 = 1) ∧ Kx L fs.length w0.heap.size w _) := ⟨HE.out, M, s2, HMo.out, fun _ _ => Iff.rfl, s3⟩
    clear s1 s2 s3 B2 HE HA HXx HMo a0' a1 a2 a3 g2 c1 d4
    go_wp2_with fail
    exact bodyPost_ret (res_ans rfl _ _ (b := w.heap.size) rfl (set4_own HB.out)) rfl ⟨-1, -1, 7, rfl, HF⟩
  · have h2 : (M f k).1 = 2 := by omega
    have HE := hide ((hM f k).2 h2)
    rw [h2] at a0
    have a0' : (w.alloc (.cells #[.int .i64 0, .int .i64 0, .int .i64 0, .int .i64 0] 177)).cell? ⟨L.gb f, k * 4, none⟩ = some (.int .i64 2) := a0
    have HF : Hid (X.EvA fs f k ((M f k).2.1, (M f k).2.2.1, (M f k).2.2.2) ∧ ∃ M', Run w0 L fs M' us (w.alloc (.cells #[.int .i64 2, .int .i64 (M f k).2.1, .int .i64 (M f k).2.2.1, .int .i64 (M f k).2.2.2] 177)) ∧ MOk fs M' ∧ (∀ i j, (M' i j).1 = 1 ↔ (M i j).1 = 1) ∧ Kx L fs.length w0.heap.size w (w.alloc (.cells #[.int .i64 2, .int .i64 (M f k).2.1, .int .i64 (M f k).2.2.1, .int .i64 (M f k).2.2.2] 177))) := ⟨HE.out, M, h.alloc _, HMo.out, fun _ _ => Iff.rfl, (Kx.refl _ _ _ w).alloc _⟩
    clear h hA hM hpath hff d1 a0 h1 h2 hle h0 HE HMo HA HXx
    go_enter Tryz.func83, Tryz.ntmps83
    go_wp2_with fail
    exact bodyPost_ret (res_ans rfl _ _ (b := w.heap.size) rfl (heap_alloc_new w _)) rfl ⟨_, _, _, rfl, HF⟩
/-- What is remembered once a use is known. -/
theorem know_ok {M M' : Mem} {f k : Nat} {an : X.An} (hM' : MOk fs M') (he : X.EvA fs f k an) (h0 : (M f k).1 = 0) (ha : ∀ i j, (M' i j).1 = 1 ↔ (setM M f k (1, (M f k).2) i j).1 = 1) : MOk fs (setM M' f k (2, an)) ∧ ∀ i j, (setM M' f k (2, an) i j).1 = 1 ↔ (M i j).1 = 1 := by
  refine ⟨fun i j => ?_, fun i j => ?_⟩
  · by_cases e : i = f ∧ j = k
    · obtain ⟨rfl, rfl⟩ := e
      rw [setM_same]
      exact ⟨Nat.le_refl _, fun _ => he⟩
    · rw [setM_other M' f k _ e]
      exact hM' i j
  · by_cases e : i = f ∧ j = k
    · obtain ⟨rfl, rfl⟩ := e
      rw [setM_same, h0]
      constructor <;> intro h <;> cases h
    · rw [setM_other M' f k _ e, ha i j, setM_other M f k _ e]
set_option maxRecDepth 100000 in
set_option maxHeartbeats 4000000 in
/-- A use that was not asked for yet. -/
theorem used_new {N : Nat} (hL : LookOk w0 L fs N) (f k : Nat) (pub gs : Bool) (m n a : X.Nm) (ub : Nat) (h : Run w0 L fs M us w) (hM : MOk fs M) (hc : cnt fs M ≤ N + 1) (hk : (X.itemsOf fs f)[k]? = some (.use pub m n gs a)) (hub : w0.heap[ub]? = some (useC pub gs m n a)) (hus : ¬ L.S fs.length ub) (hpath : ∀ i j, (M i j).1 = 1 → ∃ t, X.on fs (t + 1) (i, j) = some (f, k)) (h0 : (M f k).1 = 0) :
    Calls Tryz.prog 83 #[.pointer (some ⟨L.wb, 0, none⟩), .int .i64 f, .int .i64 k, .pointer (some ⟨ub, 0, none⟩)] w (Fnd w0 L fs M us f k w) := by
  obtain ⟨hil, hkl⟩ := item_lt hk
  have hA := h.alloc (.cells #[.int .i64 0, .int .i64 0, .int .i64 0, .int .i64 0] 177)
  obtain ⟨-, c1⟩ := hA.wsp
  obtain ⟨fg, fcap, d1, d2, d3, d4⟩ := hA.files hil
  rw [d1] at c1
  have hff := hA.file hil
  have g2 := cell_of_row _ _ 2 _ _ _ hff
  have hn16 := h.st.n
  have hIl := h.st.il f
  have hi1 : (f : Int) < (fs.length : Int) := by omega
  have hi2 : (k : Int) < ((X.itemsOf fs f).length : Int) := by omega
  obtain ⟨⟨a0, a1, a2, a3⟩, fz⟩ := hA.ans hil hkl
  have q0 := fz (k * 4)
  have hw0 := h.size
  have hS := h.st.lt
  have hgl := (h.st.gl f hil).1
  have HXx : Hid (Kx L fs.length w0.heap.size (Al w) (w.alloc (.cells #[.int .i64 0, .int .i64 0, .int .i64 0, .int .i64 0] 177))) := Kx.refl _ _ _ _
  rw [h0] at a0
  have a0' : (w.alloc (.cells #[.int .i64 0, .int .i64 0, .int .i64 0, .int .i64 0] 177)).cell? ⟨L.gb f, k * 4, none⟩ = some (.int .i64 0) := a0
  have HA := hide hA
  have HMo := hide hM
  have HL := hide hL
  have HP := hide hpath
  have HU := hide hub
  clear h hA hM hpath hff d1 a0 hL hub fz
  go_enter Tryz.func83, Tryz.ntmps83
  go_upto_region 5 with fail
  generalize w.alloc (.cells #[.int .i64 0, .int .i64 0, .int .i64 0, .int .i64 0] 177) = W at *
  obtain ⟨r1, r2⟩ := (HA.out).ask hil hkl
  have hM1 : MOk fs (setM M f k (1, (M f k).2)) := fun i j => by
    by_cases e : i = f ∧ j = k
    · obtain ⟨rfl, rfl⟩ := e
      rw [setM_same]
      exact ⟨by show 1 ≤ 2; omega, fun h => by cases h⟩
    · rw [setM_other M f k _ e]
      exact (HMo.out) i j
  have hc1 : cnt fs (setM M f k (1, (M f k).2)) ≤ N := by
    have := cnt_less (X.useP_mem hk rfl) h0 (v := (1, (M f k).2)) (by simp)
    omega
  have hp1 : ∀ i j, (setM M f k (1, (M f k).2) i j).1 = 1 → ∃ t, X.on fs t (i, j) = some (f, k) := fun i j hij => by
    by_cases e : i = f ∧ j = k
    · obtain ⟨rfl, rfl⟩ := e
      exact ⟨0, rfl⟩
    · rw [setM_other M f k _ e] at hij
      obtain ⟨t, ht⟩ := (HP.out) i j hij
      exact ⟨t + 1, ht⟩
  have HC := hide ((HL.out) f k pub gs m n a ub _ us _ r1 hM1 hc1 hk HU.out hus hp1)
  have HR2 := hide r2
  clear r1 r2 hM1 hc1 hp1 HL HP HU
  go_wp2_with fail
  refine (HC.out).mono ?_
  rintro e w2 ⟨tf, tt, er, rfl, H2⟩
  obtain ⟨x1, M', x2, x3, x4, x5⟩ := H2.out
  obtain ⟨⟨b0, b1, b2, b3⟩, fz⟩ := x2.ans hil hkl
  have y0 := fz (k * 4)
  have y1 := fz (k * 4 + 1)
  have y2 := fz (k * 4 + 2)
  have y3 := fz (k * 4 + 3)
  obtain ⟨k1, k2⟩ := x2.know hil hkl tf tt er
  obtain ⟨o1, o2⟩ := know_ok x3 x1 h0 x4
  have HR3 := hide k1
  have HX3 : Hid (Kx L fs.length w0.heap.size (Al w) _) := ((HXx.out).trans ((HR2.out).trans x5)).trans k2
  have HO1 := hide o1
  have HO2 := hide o2
  have HE := hide x1
  clear k1 k2 o1 o2 x1 x2 x3 x4 x5 fz H2 HC HR2 HXx HA HMo q0 a0' a1 a2 a3 c1 d4 g2
  go_upto_region 7 with fail
  generalize (((w2.setCell ⟨L.gb f, k * 4, none⟩ (.int .i64 2)).setCell ⟨L.gb f, k * 4 + 1, none⟩ (.int .i64 tf)).setCell ⟨L.gb f, k * 4 + 2, none⟩ (.int .i64 tt)).setCell ⟨L.gb f, k * 4 + 3, none⟩ (.int .i64 er) = W3 at *
  obtain ⟨⟨e0, e1, e2, e3⟩, -⟩ := (HR3.out).ans hil hkl
  rw [setM_same] at e0 e1 e2 e3
  have e0' : W3.cell? ⟨L.gb f, k * 4, none⟩ = some (.int .i64 2) := e0
  have e1' : W3.cell? ⟨L.gb f, k * 4 + 1, none⟩ = some (.int .i64 tf) := e1
  have e2' : W3.cell? ⟨L.gb f, k * 4 + 2, none⟩ = some (.int .i64 tt) := e2
  have e3' : W3.cell? ⟨L.gb f, k * 4 + 3, none⟩ = some (.int .i64 er) := e3
  obtain ⟨s1, s2, s3⟩ := run_store4 HR3.out HX3.out hw0 hS (.int .i64 2) (.int .i64 tf) (.int .i64 tt) (.int .i64 er)
  have m0 := cell_of_row _ _ 0 _ _ _ s1
  have m1 := cell_of_row _ _ 1 _ _ _ s1
  have m2 := cell_of_row _ _ 2 _ _ _ s1
  have m3 := cell_of_row _ _ 3 _ _ _ s1
  have z0 := frozen_of_row _ _ 0 _ _ s1
  have z1 := frozen_of_row _ _ 1 _ _ s1
  have z2 := frozen_of_row _ _ 2 _ _ s1
  have z3 := frozen_of_row _ _ 3 _ _ s1
  have HB := hide s1
  have HF : Hid (X.EvA fs f k (tf, tt, er) ∧ ∃ M', Run w0 L fs M' us _ ∧ MOk fs M' ∧ (∀ i j, (M' i j).1 = 1 ↔ (M i j).1 = 1) ∧ Kx L fs.length w0.heap.size w _) := ⟨HE.out, _, s2, HO1.out, HO2.out, s3⟩
  clear s1 s2 s3 HE HO1 HO2 HR3 HX3 e0 e1 e2 e3 b0 b1 b2 b3 y0 y1 y2 y3
  go_wp2_with fail
  exact bodyPost_ret (res_ans rfl _ _ (b := w.heap.size) rfl (set4_own HB.out)) rfl ⟨tf, tt, er, rfl, HF⟩
/-- What a use stands for is found. -/
theorem used_ok : ∀ N, UsedOk w0 L fs N := by
  intro N
  induction N with
  | zero =>
    intro f k pub gs m n a ub M us w h hM hc hk hub hus hpath
    refine used_seen f k pub gs m n a ub h hM hk hpath (fun h0 => ?_)
    have := cnt_less (X.useP_mem hk rfl) h0 (v := (1, (M f k).2)) (by simp)
    omega
  | succ N ih =>
    intro f k pub gs m n a ub M us w h hM hc hk hub hus hpath
    by_cases h0 : (M f k).1 = 0
    · exact used_new (look_ok_of (item_ok_of ih)) f k pub gs m n a ub h hM hc hk hub hus hpath h0
    · exact used_seen f k pub gs m n a ub h hM hk hpath h0
/-- Nothing is asked for. -/
def Idle (M : Mem) : Prop := ∀ i j, (M i j).1 ≠ 1
theorem used_any (f k : Nat) (pub gs : Bool) (m n a : X.Nm) (ub : Nat) (h : Run w0 L fs M us w) (hM : MOk fs M) (hI : Idle M) (hk : (X.itemsOf fs f)[k]? = some (.use pub m n gs a)) (hub : w0.heap[ub]? = some (useC pub gs m n a)) (hus : ¬ L.S fs.length ub) :
    Calls Tryz.prog 83 #[.pointer (some ⟨L.wb, 0, none⟩), .int .i64 f, .int .i64 k, .pointer (some ⟨ub, 0, none⟩)] w fun e w' => e = .returned (.agg #[.int .i64 2, .int .i64 (X.ansI fs (X.usesN fs) f k).1, .int .i64 (X.ansI fs (X.usesN fs) f k).2.1, .int .i64 (X.ansI fs (X.usesN fs) f k).2.2]) ∧ Hid (∃ M', Run w0 L fs M' us w' ∧ MOk fs M' ∧ Idle M' ∧ Kx L fs.length w0.heap.size w w') := by
  refine (used_ok (cnt fs M) f k pub gs m n a ub M us w h hM (Nat.le_refl _) hk hub hus (fun i j hij => absurd hij (hI i j))).mono ?_
  rintro e w' ⟨tf, tt, er, rfl, H⟩
  obtain ⟨x1, M', x2, x3, x4, x5⟩ := H.out
  rw [x1.uses]
  exact ⟨rfl, M', x2, x3, fun i j hij => hI i j ((x4 i j).1 hij), x5⟩
theorem kitem_any (f k : Nat) (it : X.It) (h : Run w0 L fs M us w) (hM : MOk fs M) (hI : Idle M) (hk : (X.itemsOf fs f)[k]? = some it) :
    Calls Tryz.prog 124 #[.pointer (some ⟨L.wb, 0, none⟩), .int .i64 f, .int .i64 k] w fun e w' => e = .returned (.agg #[.int .i64 2, .int .i64 (X.ansI fs (X.usesN fs) f k).1, .int .i64 (X.ansI fs (X.usesN fs) f k).2.1, .int .i64 (X.ansI fs (X.usesN fs) f k).2.2]) ∧ Hid (∃ M', Run w0 L fs M' us w' ∧ MOk fs M' ∧ Idle M' ∧ Kx L fs.length w0.heap.size w w') := by
  refine (item_ok_of (used_ok (cnt fs M)) f k it M us w h hM (Nat.le_refl _) hk (fun _ i j hij => absurd hij (hI i j))).mono ?_
  rintro e w' ⟨tf, tt, er, rfl, H⟩
  obtain ⟨x1, M', x2, x3, x4, x5⟩ := H.out
  rw [x1.uses]
  exact ⟨rfl, M', x2, x3, fun i j hij => hI i j ((x4 i j).1 hij), x5⟩
end Go.Proofs.YtgjbafamiggafaaGreatDoor
