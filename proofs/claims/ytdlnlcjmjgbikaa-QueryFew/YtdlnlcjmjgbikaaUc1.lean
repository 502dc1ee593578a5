/- Set. -/
import Derived.Test.YtdlnlcjmjgbikaaUb1
namespace Go.Proofs.Ytdlnlcjmjgbikaa
open Go Go.Conc Go.RowKit Go.Deep

noncomputable section
variable {R : QR} {Z : QZ} {st : Int} {w w' : World} {T : QT} {k : Nat}
/-- An input is set. -/
def setM (R : QR) (T : QT) (k : Nat) (v : Int) : QT := if (T.mem k).out.num = v then T else { T with mem := upf T.mem k { T.mem k with out := { (T.mem k).out with num := v } }, fr := fun j => R.op j == 0 }
theorem Sh.setnum (hZ : Z.Ok R) (h : Sh R Z st w T) (hk : k < R.n) (v : Int) : Sh R Z st (w.setCell ⟨Z.mb, k * 4 + 1, none⟩ (.int .i64 v)) { T with mem := upf T.mem k { T.mem k with out := { (T.mem k).out with num := v } } } ∧ Keep Z.mut w (w.setCell ⟨Z.mb, k * 4 + 1, none⟩ (.int .i64 v)) := by
  have kp : Keep Z.mut w (w.setCell ⟨Z.mb, k * 4 + 1, none⟩ (.int .i64 v)) := (Keep.refl _ _).set ⟨Z.mb, k * 4 + 1, none⟩ (zm_mb Z) _
  refine ⟨h.blk hZ kp (h.s.oth _ hZ.n1.2 _) (fun j hj => ?_) (h.fresh.oth _ hZ.n4.1 _) (h.runs.oth _ hZ.n5.1 _), kp⟩
  obtain ⟨l, m1, m2⟩ := h.mems j hj
  by_cases e : j = k
  · subst e
    refine ⟨l, ?_, ?_⟩
    · show MemAt _ _ _ (upf T.mem j _ j) l
      rw [upf_same]
      have ne : ∀ i : Nat, i ≠ 1 → (⟨Z.mb, j * 4 + 1, none⟩ : Addr) ≠ ⟨Z.mb, j * 4 + i, none⟩ := fun i hi e => hi (by have := congrArg Addr.off e; simp at this; omega)
      exact ⟨⟨(World.cell?_setCell_other _ _ _ _ (ne 0 (by decide))).trans m1.ran.1, by simp [m1.ran.2]⟩, ⟨World.cell?_setCell_same _ _ _ m1.num.1, by simp [m1.num.2]⟩, ⟨(World.cell?_setCell_other _ _ _ _ (ne 2 (by decide))).trans m1.err.1, by simp [m1.err.2]⟩, ⟨(World.cell?_setCell_other _ _ _ _ (ne 3 (by decide))).trans m1.led.1, by simp [m1.led.2]⟩⟩
    · show LedIs _ _ _ (upf T.mem j _ j).led
      rw [upf_same]
      exact m2
  · refine ⟨l, ?_, ?_⟩
    · show MemAt _ _ _ (upf T.mem k _ j) l
      rw [upf_ne _ _ e]
      exact m1.other (fun a b ha hb => by omega) (i := 1) (by decide) _
    · show LedIs _ _ _ (upf T.mem k _ j).led
      rw [upf_ne _ _ e]
      exact m2
/-- What Set answers. -/
def SetPost (R : QR) (Z : QZ) (T : QT) (w : World) (k v : Int) (e : Ending) (w' : World) : Prop :=
  ((∃ kk : Nat, k = kk ∧ kk < R.n ∧ R.op kk = 0 ∧ e = .returned .nilIface ∧ Sh R Z 0 w' (setM R T kk v)) ∨ ((∀ kk : Nat, k = kk → kk < R.n → R.op kk ≠ 0) ∧ e = .returned (.iface 36 (.int .i64 1)) ∧ Sh R Z 0 w' T)) ∧ Keep Z.mut w w'
set_option maxRecDepth 100000 in
set_option maxHeartbeats 2000000 in
theorem set_any (hZ : Z.Ok R) (h : Sh R Z 0 w T) (hn : R.n < 65) (k v : Int) : Calls Sq.prog 7 #[.pointer (some ⟨Z.sh, 0, none⟩), .int .i64 k, .int .i64 v] w (SetPost R Z T w k v) := by
  have c0 := h.s.cell (i := 0) (by decide)
  have z0 := h.s.frozen (i := 0) (by decide)
  obtain ⟨h1, k1⟩ := h.lock hZ 1
  have d2 := h1.s.cell (i := 2) (by decide)
  simp only [QZ.sv] at c0 d2
  suffices ∀ Pp : Ending → World → Prop, Hid (∀ e w', SetPost R Z T w k v e w' → Pp e w') → Calls Sq.prog 7 #[.pointer (some ⟨Z.sh, 0, none⟩), .int .i64 k, .int .i64 v] w Pp from this _ (hide fun _ _ h => h)
  intro Pp HP
  have LK := hide (lacks_any d2 k)
  by_cases hr : k < 0 ∨ (R.n : Int) ≤ k
  · have hc := h1.s.cell (i := 0) (by decide)
    have hz := h1.s.frozen (i := 0) (by decide)
    obtain ⟨h2, k2⟩ := h1.lock hZ 0
    have HE := hide (show SetPost R Z T w k v (.returned (.iface 36 (.int .i64 1))) _ from ⟨.inr ⟨fun kk e hk => by omega, rfl, h2⟩, k1.trans k2⟩)
    rw [decide_eq_true hr] at LK
    replace hc := hide hc
    replace hz := hide hz
    clear h h1 h2 k1 k2 hZ d2
    go_enter_defers Sq.func7, Sq.ntmps7
    go_wp2_with fail
    refine (qlock_any ⟨Z.sh, 0, none⟩ w c0 z0).mono ?_
    rintro e w1 ⟨rfl, rfl⟩
    go_wp2_with fail
    refine LK.out.mono ?_
    rintro e w1 ⟨rfl, rfl⟩
    go_wp2_with fail
    refine leaves_cons (f := 15) (args := #[.pointer (some ⟨Z.sh, 0, none⟩)]) (by simp) (by simp [invoke]) ?_
    refine (qunlock_d ⟨Z.sh, 0, none⟩ .returning _ hc.out hz.out).mono ?_
    rintro e u' w3 ⟨rfl, rfl, rfl⟩
    exact ⟨_, results_tmp (t := 6) rfl _ _ _, HP.out _ _ HE.out⟩
  · rw [decide_eq_false hr] at LK
    obtain ⟨kk, rfl⟩ : ∃ kk : Nat, k = kk := ⟨k.toNat, by omega⟩
    have hk : kk < R.n := by omega
    have dop : (w.setCell ⟨Z.sh, 0, none⟩ (.int .i32 1)).cell? ⟨Z.cb, kk * 8, none⟩ = some (.int .i64 (R.op kk)) := (h1.cells kk hk).op
    by_cases h0 : R.op kk = 0
    · rw [h0] at dop
      have e3 := h1.s.cell (i := 3) (by decide)
      obtain ⟨l, m1, m2⟩ := h1.mems kk hk
      have dn := m1.num.1
      have dnz := m1.num.2
      simp only [QZ.sv] at e3
      by_cases hv : (T.mem kk).out.num = v
      · have hc := h1.s.cell (i := 0) (by decide)
        have hz := h1.s.frozen (i := 0) (by decide)
        obtain ⟨h2, k2⟩ := h1.lock hZ 0
        have HE := hide (show SetPost R Z T w kk v (.returned .nilIface) _ from ⟨.inl ⟨kk, rfl, hk, h0, rfl, by unfold setM; rw [if_pos hv]; exact h2⟩, k1.trans k2⟩)
        rw [hv] at dn
        replace hc := hide hc
        replace hz := hide hz
        clear h h1 h2 k1 k2 hZ hv m1 m2 dnz
        go_enter_defers Sq.func7, Sq.ntmps7
        go_wp2_with fail
        refine (qlock_any ⟨Z.sh, 0, none⟩ w c0 z0).mono ?_
        rintro e w1 ⟨rfl, hw1⟩
        rw [← hw1] at LK hc hz HE d2 dop e3 dn
        replace hw1 := hide hw1
        go_wp2_with fail
        refine LK.out.mono ?_
        rintro e w2 ⟨rfl, rfl⟩
        go_wp2_with fail
        refine leaves_cons (f := 15) (args := #[.pointer (some ⟨Z.sh, 0, none⟩)]) (by simp) (by simp [invoke]) ?_
        refine (qunlock_d ⟨Z.sh, 0, none⟩ .returning _ hc.out hz.out).mono ?_
        rintro e u' w3 ⟨rfl, rfl, rfl⟩
        exact ⟨_, results_tmp (t := 6) rfl _ _ _, HP.out _ _ HE.out⟩
      · have hvb : ((T.mem kk).out.num != v) = true := by simpa using hv
        obtain ⟨h2, k2⟩ := h1.setnum hZ hk v
        have AG := hide (age_any hZ h2 hn)
        have HE : Hid (∀ w3, Sh R Z 1 w3 { T with mem := upf T.mem kk { T.mem kk with out := { (T.mem kk).out with num := v } }, fr := fun j => R.op j == 0 } → Keep Z.mut w w3 → SetPost R Z T w kk v (.returned .nilIface) (w3.setCell ⟨Z.sh, 0, none⟩ (.int .i32 0))) := hide fun w3 h3 k3 => by
          obtain ⟨h4, k4⟩ := h3.lock hZ 0
          exact ⟨.inl ⟨kk, rfl, hk, h0, rfl, by unfold setM; rw [if_neg hv]; exact h4⟩, k3.trans k4⟩
        have K2 := hide (k1.trans k2)
        clear h h1 h2 k1 k2 hZ hv m1 m2
        go_enter_defers Sq.func7, Sq.ntmps7
        go_wp2_with fail
        refine (qlock_any ⟨Z.sh, 0, none⟩ w c0 z0).mono ?_
        rintro e w1 ⟨rfl, hw1⟩
        rw [← hw1] at LK AG K2 d2 dop e3 dn dnz
        replace hw1 := hide hw1
        go_wp2_with fail
        refine LK.out.mono ?_
        rintro e w2 ⟨rfl, rfl⟩
        go_wp2_with fail
        refine AG.out.mono ?_
        rintro e w3 ⟨rfl, h3, k3⟩
        have hc := h3.s.cell (i := 0) (by decide)
        have hz := h3.s.frozen (i := 0) (by decide)
        have HE3 := hide (HE.out w3 h3 (K2.out.trans k3))
        replace hc := hide hc
        replace hz := hide hz
        clear h3 k3
        go_wp2_with fail
        refine leaves_cons (f := 15) (args := #[.pointer (some ⟨Z.sh, 0, none⟩)]) (by simp) (by simp [invoke]) ?_
        refine (qunlock_d ⟨Z.sh, 0, none⟩ .returning _ hc.out hz.out).mono ?_
        rintro e u' w4 ⟨rfl, rfl, rfl⟩
        exact ⟨_, results_tmp (t := 6) rfl _ _ _, HP.out _ _ HE3.out⟩
    · have h0b : (R.op kk != 0) = true := by simpa using h0
      have hc := h1.s.cell (i := 0) (by decide)
      have hz := h1.s.frozen (i := 0) (by decide)
      obtain ⟨h2, k2⟩ := h1.lock hZ 0
      have HE := hide (show SetPost R Z T w kk v (.returned (.iface 36 (.int .i64 1))) _ from ⟨.inr ⟨fun k2 e hk2 => by
        obtain rfl : kk = k2 := by omega
        exact h0, rfl, h2⟩, k1.trans k2⟩)
      replace hc := hide hc
      replace hz := hide hz
      clear h h1 h2 k1 k2 hZ h0
      go_enter_defers Sq.func7, Sq.ntmps7
      go_wp2_with fail
      refine (qlock_any ⟨Z.sh, 0, none⟩ w c0 z0).mono ?_
      rintro e w1 ⟨rfl, hw1⟩
      rw [← hw1] at LK hc hz HE d2 dop
      replace hw1 := hide hw1
      go_wp2_with fail
      refine LK.out.mono ?_
      rintro e w2 ⟨rfl, rfl⟩
      go_wp2_with fail
      refine leaves_cons (f := 15) (args := #[.pointer (some ⟨Z.sh, 0, none⟩)]) (by simp) (by simp [invoke]) ?_
      refine (qunlock_d ⟨Z.sh, 0, none⟩ .returning _ hc.out hz.out).mono ?_
      rintro e u' w3 ⟨rfl, rfl, rfl⟩
      exact ⟨_, results_tmp (t := 6) rfl _ _ _, HP.out _ _ HE.out⟩
end
end Go.Proofs.Ytdlnlcjmjgbikaa
/- A new round. -/
namespace Go.Proofs.Ytdlnlcjmjgbikaa
open Go Go.Conc Go.RowKit Go.Deep

noncomputable section
variable {P : Program} {ops : Array Oper} {Q : Exit → Act → World → Prop} {md : Region.Mode}
/-- What wpAny_inv asks of a region's text, as a test. -/
def chkOps (md : Region.Mode) (ops : Array Oper) : Bool := (List.range ops.size).all fun i => match ops[i]? with | none => true | some o => o.guard.isNone && o.after.all fun e => !Region.binds md e || decide (e.on < i)
theorem chk_ac (h : chkOps md ops = true) : ∀ (i : Nat) (o : Oper), ops[i]? = some o → ∀ e ∈ o.after, Region.binds md e = true → e.on < i := fun i o ho e he hb => by
  have hi := (Array.getElem?_eq_some_iff.1 ho).1
  have := List.all_eq_true.1 h i (List.mem_range.2 hi)
  rw [ho] at this
  simp only [Bool.and_eq_true] at this
  have := Array.all_eq_true'.1 this.2 e he
  simpa [hb] using this
theorem chk_g (h : chkOps md ops = true) : ∀ (i : Nat) (o : Oper), ops[i]? = some o → o.guard = none := fun i o ho => by
  have hi := (Array.getElem?_eq_some_iff.1 ho).1
  have := List.all_eq_true.1 h i (List.mem_range.2 hi)
  rw [ho] at this
  simp only [Bool.and_eq_true] at this
  exact Option.isNone_iff_eq_none.1 this.1
variable {R : QR} {Z : QZ} {st most : Int} {w0 w w' : World} {T : QT} {lv : Nat → Value}
/-- A memory's cells, one behind the other. -/
def memF (T : QT) (lv : Nat → Value) (i : Nat) : Value := if i % 4 = 0 then .bool (T.mem (i / 4)).ran else if i % 4 = 1 then .int .i64 (T.mem (i / 4)).out.num else if i % 4 = 2 then .int .i64 (T.mem (i / 4)).out.err else lv (i / 4)
/-- What is made: how long, how many cells, which. -/
def mkLen (n i : Nat) : Nat := if i = 20 ∨ i = 33 ∨ i = 35 then 1 else n
def mkSize (n i : Nat) : Nat := if i = 8 then n * 4 else if i = 20 ∨ i = 33 ∨ i = 35 then 1 else n
def mkCell (T : QT) (lv : Nat → Value) (i : Nat) : Nat → Value := if i = 8 then memF T lv else if i = 14 then fun _ => .int .i64 0 else if i = 19 then fun k => .bool (T.fr k) else if i = 32 then fun _ => .chan none else fun _ => .int .i64 (-1)
/-- A slice of new memory. -/
def Made (R : QR) (T : QT) (lv : Nat → Value) (w0 : World) (i : Nat) (v : Value) (w : World) : Prop := ∃ g c, v = .slice (some ⟨g, 0, none⟩) (mkLen R.n i) c ∧ w0.heap.size ≤ g ∧ g < w.heap.size ∧ Mem w g (mkSize R.n i) (mkCell T lv i)
theorem Made.keep {i : Nat} {v : Value} (h : Made R T lv w0 i v w) (k : Keep (fun _ => False) w w') : Made R T lv w0 i v w' := by
  obtain ⟨g, c, e, h1, h2, h3⟩ := h
  exact ⟨g, c, e, h1, Nat.lt_of_lt_of_le h2 k.size, k.mem id h3⟩
/-- The round, as a value. -/
def roundV (R : QR) (Z : QZ) (x8 x14 x19 x26 x32 x35 : Value) : Array Value := #[.slice (some ⟨Z.cb, 0, none⟩) R.n Z.cc, x8, x14, .int .i64 0, .int .i32 0, .int .u32 0, x19, x26, x32, x35]
def RV (R : QR) (Z : QZ) (T : QT) (lv : Nat → Value) (w0 : World) (c : Array Value) (w : World) : Prop := ∃ x8 x14 x19 x26 x32 x35, c = roundV R Z x8 x14 x19 x26 x32 x35 ∧ Made R T lv w0 8 x8 w ∧ Made R T lv w0 14 x14 w ∧ Made R T lv w0 19 x19 w ∧ Made R T lv w0 26 x26 w ∧ Made R T lv w0 32 x32 w ∧ Made R T lv w0 35 x35 w ∧
  [x8.ownBlock, x14.ownBlock, x19.ownBlock, x26.ownBlock, x32.ownBlock, x35.ownBlock].Nodup
theorem RV.keep {c : Array Value} (h : RV R Z T lv w0 c w) (k : Keep (fun _ => False) w w') : RV R Z T lv w0 c w' := by
  obtain ⟨x8, x14, x19, x26, x32, x35, e, h1, h2, h3, h4, h5, h6, h7⟩ := h
  exact ⟨x8, x14, x19, x26, x32, x35, e, h1.keep k, h2.keep k, h3.keep k, h4.keep k, h5.keep k, h6.keep k, h7⟩
def RB (R : QR) (Z : QZ) (T : QT) (lv : Nat → Value) (w0 : World) (v : Value) (w : World) : Prop := ∃ r c w1, v = .pointer (some ⟨r, 0, none⟩) ∧ w0.heap.size ≤ r ∧ w.heap[r]? = some (.cells c 84 (0, 0)) ∧ w1.heap.size ≤ r ∧ RV R Z T lv w0 c w1 ∧ Keep (fun _ => False) w1 w
/-- What each operation yields. -/
def RC (R : QR) (Z : QZ) (T : QT) (lv : Nat → Value) (w0 : World) (i : Nat) (v : Value) (w : World) : Prop :=
  match i with
  | 0 => v = .pointer (some ⟨Z.sh, 0, none⟩)
  | 1 => v = .pointer (some ⟨Z.sh, 0, none⟩)
  | 2 => v = .pointer (some ⟨Z.sh, 2, none⟩)
  | 3 => v = .slice (some ⟨Z.cb, 0, none⟩) R.n Z.cc
  | 4 => v = .pointer (some ⟨Z.sh, 0, none⟩)
  | 5 => v = .pointer (some ⟨Z.sh, 0, none⟩)
  | 6 => v = .pointer (some ⟨Z.sh, 3, none⟩)
  | 7 => v = .slice (some ⟨Z.mb, 0, none⟩) R.n Z.mc
  | 9 => v = .pointer (some ⟨Z.sh, 0, none⟩)
  | 10 => v = .pointer (some ⟨Z.sh, 0, none⟩)
  | 11 => v = .pointer (some ⟨Z.sh, 2, none⟩)
  | 12 => v = .slice (some ⟨Z.cb, 0, none⟩) R.n Z.cc
  | 13 => v = .int .i64 R.n
  | 15 => v = .pointer (some ⟨Z.sh, 0, none⟩)
  | 16 => v = .pointer (some ⟨Z.sh, 0, none⟩)
  | 17 => v = .pointer (some ⟨Z.sh, 4, none⟩)
  | 18 => v = .slice (some ⟨Z.fb, 0, none⟩) R.n Z.fc
  | 21 => v = .pointer (some ⟨Z.sh, 0, none⟩)
  | 22 => v = .pointer (some ⟨Z.sh, 0, none⟩)
  | 23 => v = .pointer (some ⟨Z.sh, 2, none⟩)
  | 24 => v = .slice (some ⟨Z.cb, 0, none⟩) R.n Z.cc
  | 25 => v = .int .i64 R.n
  | 27 => v = .pointer (some ⟨Z.sh, 0, none⟩)
  | 28 => v = .pointer (some ⟨Z.sh, 0, none⟩)
  | 29 => v = .pointer (some ⟨Z.sh, 2, none⟩)
  | 30 => v = .slice (some ⟨Z.cb, 0, none⟩) R.n Z.cc
  | 31 => v = .int .i64 R.n
  | 34 => v = .int .i64 1
  | 8 => Made R T lv w0 8 v w
  | 14 => Made R T lv w0 14 v w
  | 19 => Made R T lv w0 19 v w
  | 20 => Made R T lv w0 20 v w
  | 26 => Made R T lv w0 26 v w
  | 32 => Made R T lv w0 32 v w
  | 33 => Made R T lv w0 33 v w
  | 35 => Made R T lv w0 35 v w
  | 36 => ∃ c, v = .agg c ∧ RV R Z T lv w0 c w
  | _ => RB R Z T lv w0 v w
theorem RC.keep {i : Nat} {v : Value} (h : RC R Z T lv w0 i v w) (k : Keep (fun _ => False) w w') : RC R Z T lv w0 i v w' := by
  unfold RC at h ⊢
  split at h
  all_goals first | exact h | exact Made.keep h k | (obtain ⟨c, e, hv⟩ := h; exact ⟨c, e, hv.keep k⟩) | (obtain ⟨r, c, w1, e, h1, h2, h3, h4, h5⟩ := h; exact ⟨r, c, w1, e, h1, (k.block r (Array.getElem?_eq_some_iff.1 h2).1 id).trans h2, h3, h4, h5.trans k⟩)
def slot (i : Nat) : Nat := if i = 38 then 7 else 8 + i
def isMk (i : Nat) : Bool := i == 8 || i == 14 || i == 19 || i == 20 || i == 26 || i == 32 || i == 33 || i == 35
/-- What holds while a round is made. -/
structure RJ (R : QR) (Z : QZ) (T : QT) (lv : Nat → Value) (most : Int) (w0 : World) (d : Array Bool) (a : Act) (w : World) : Prop where
  df : a.defers = []
  sz : a.tmps.size = 52
  t0 : a.tmps.getD 0 undef = .pointer (some ⟨Z.sh, 0, none⟩)
  t1 : a.tmps.getD 1 undef = .int .i64 1
  t2 : a.tmps.getD 2 undef = .int .i64 most
  kp : Keep (fun _ => False) w0 w
  c : ∀ i, i < 39 → d.getD i false = true → RC R Z T lv w0 i (a.tmps.getD (slot i) undef) w
  dist : ∀ i j, i < 39 → j < 39 → isMk i = true → isMk j = true → i ≠ j → d.getD i false = true → d.getD j false = true → (a.tmps.getD (slot i) undef).ownBlock ≠ (a.tmps.getD (slot j) undef).ownBlock
theorem slot_inj {i j : Nat} (hi : i < 39) (hj : j < 39) (h : slot i = slot j) : i = j := by
  unfold slot at h
  split at h <;> split at h <;> omega
theorem getD_put {a : Act} {t s : Nat} {v : Value} (h : s ≠ t) : (a.put (some t) v).tmps.getD s undef = a.tmps.getD s undef := by
  show (a.tmps.setIfInBounds t v).getD s undef = _
  simp [Array.getElem?_setIfInBounds_ne h.symm]
theorem getD_put_same {a : Act} {t : Nat} {v : Value} (h : t < a.tmps.size) : (a.put (some t) v).tmps.getD t undef = v := by
  show (a.tmps.setIfInBounds t v).getD t undef = _
  simp [h]
theorem made_own {i : Nat} {v : Value} (h : Made R T lv w0 i v w) : ∃ g, v.ownBlock = some g ∧ g < w.heap.size := by
  obtain ⟨g, c, rfl, _, h2, _⟩ := h
  exact ⟨g, rfl, h2⟩
theorem rc_made {i : Nat} {v : Value} (hm : isMk i = true) (h : RC R Z T lv w0 i v w) : Made R T lv w0 i v w := by
  have : i = 8 ∨ i = 14 ∨ i = 19 ∨ i = 20 ∨ i = 26 ∨ i = 32 ∨ i = 33 ∨ i = 35 := by simpa [isMk, or_assoc] using hm
  rcases this with rfl | rfl | rfl | rfl | rfl | rfl | rfl | rfl <;> exact h
theorem RJ.put {d : Array Bool} {a : Act} {i : Nat} {v : Value} (h : RJ R Z T lv most w0 d a w) (hi : i < 39) (hu : d.getD i true = false) (k : Keep (fun _ => False) w w') (hc : RC R Z T lv w0 i v w') (hm : isMk i = true → ∃ g, v.ownBlock = some g ∧ w.heap.size ≤ g) : RJ R Z T lv most w0 (d.setIfInBounds i true) (a.put (some (slot i)) v) w' := by
  have hs : slot i < a.tmps.size := by rw [h.sz]; unfold slot; split <;> omega
  have hs3 : 3 ≤ slot i := by unfold slot; split <;> omega
  have dd : ∀ j, j ≠ i → (d.setIfInBounds i true).getD j false = true → d.getD j false = true := fun j hj h => by rwa [getD_set_ne false (Ne.symm hj)] at h
  have tt : ∀ j, j < 39 → j ≠ i → (a.put (some (slot i)) v).tmps.getD (slot j) undef = a.tmps.getD (slot j) undef := fun j hj hne => getD_put fun e => hne (slot_inj hj hi e)
  have new : ∀ j, j < 39 → j ≠ i → isMk i = true → isMk j = true → d.getD j false = true → v.ownBlock ≠ (a.tmps.getD (slot j) undef).ownBlock := fun j hj hne m1 m2 hdj e => by
    obtain ⟨g, e1, h1⟩ := hm m1
    obtain ⟨g', e2, h2⟩ := made_own (rc_made m2 (h.c j hj hdj))
    rw [e1, e2] at e
    cases e
    omega
  refine ⟨h.df, ?_, ?_, ?_, ?_, h.kp.trans k, fun j hj hdj => ?_, fun p q hp hq mp mq hne dp dq => ?_⟩
  · show (a.tmps.setIfInBounds (slot i) v).size = 52
    rw [Array.size_setIfInBounds]
    exact h.sz
  · rw [getD_put (by omega)]; exact h.t0
  · rw [getD_put (by omega)]; exact h.t1
  · rw [getD_put (by omega)]; exact h.t2
  · by_cases e : j = i
    · subst e
      rw [getD_put_same hs]
      exact hc
    · rw [tt j hj e]
      exact (h.c j hj (dd j e hdj)).keep k
  · by_cases e1 : p = i
    · subst e1
      rw [getD_put_same hs, tt q hq (Ne.symm hne)]
      exact new q hq (Ne.symm hne) mp mq (dd q (Ne.symm hne) dq)
    · by_cases e2 : q = i
      · subst e2
        rw [getD_put_same hs, tt p hp e1]
        exact fun e => new p hp e1 mq mp (dd p e1 dp) e.symm
      · rw [tt p hp e1, tt q hq e2]
        exact h.dist p q hp hq mp mq hne (dd p e1 dp) (dd q e2 dq)
end
end Go.Proofs.Ytdlnlcjmjgbikaa
