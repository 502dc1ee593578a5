/- The program's reader of messages: what stands in brackets. (written by wip/tools/wire_gen/genor.py) -/
import Derived.Test.YthdbnafiindgbaaGreatDoorWoq
namespace Go.Proofs.YthdbnafiindgbaaGreatDoor
open Go.RowKit
open Wi

/-- Parts one behind the other, up to the sign that closes them. -/
def moreR {α : Type} (stp : α → List UInt8 → Res α) (e : UInt8) : Nat → α → List UInt8 → Res α
  | 0, _, _ => .bad 0 0
  | f + 1, x, l => match stp x l with
    | .bad k n => .bad k n
    | .ok x' l2 => match sign 44 l2 with
      | some l3 => moreR stp e f x' l3
      | none => match sign e l2 with
        | some l3 => .ok x' l3
        | none => .bad 3 (bla l2).length
def partsR {α : Type} (stp : α → List UInt8 → Res α) (e : UInt8) (x : α) (t : List UInt8) : Res α :=
  match sign e t with
  | some l => .ok x l
  | none => moreR stp e (t.length + 1) x t
/-- What comes of reading that changes a state. -/
def OkP {α : Type} (St : World → α → List UInt8 → Prop) (Fr : World → Prop) (s : ByteArray) (r : Res α) (en : Ending) (w' : World) : Prop :=
  match r with
  | .ok x l => en = .returned (.tuple #[]) ∧ St w' x l
  | .bad e n => en = flt (s.size - n : Nat) e ∧ Fr w'
theorem sgL_bla_none {e : UInt8} {l : List UInt8} (h : sign e l = none) : sgL e l = bla l := sgL_none h
set_option maxRecDepth 100000 in
set_option maxHeartbeats 8000000 in
theorem oparts_list {α : Type} (sb : Nat) (s : ByteArray) (d : Int) (e : UInt8) (k : Nat) (v1 v2 : Value) (stp : α → List UInt8 → Res α) (St : Int → World → α → List UInt8 → Prop) (Fr : World → Prop)
    (hs : s.size ≤ 1073741824) (hek : e.toNat = k) (hk0 : k ≠ 0) (hd0 : 0 ≤ d) (hd1 : d < 40)
    (h1 : ∀ d w x l, St d w x l → RawS w sb s (pos s l) d) (h2 : ∀ d w x l, St d w x l → ∀ d' w' l', l' <:+ l → Ow sb w w' → RawS w' sb s (pos s l') d' → St d' w' x l') (h3 : ∀ d w x l, St d w x l → Fr w) (h4 : ∀ w w', Fr w → Ow sb w w' → Fr w')
    (hC : ∀ w x l, Sfx s l → St (d + 1) w x l → Calls Tryz.prog 46 #[v1, v2] w fun en w' => OkP (St (d + 1)) Fr s (stp x l) en w')
    (hL : ∀ x l x' l', stp x l = .ok x' l' → l'.length < l.length ∧ l' <:+ l) (hB : ∀ x l, stp x (bla l) = stp x l)
    (x : α) (c : UInt8) (t : List UInt8) (w : World) (hl : Sfx s (c :: t)) (h : St d w x (c :: t)) :
    Calls Tryz.prog 45 #[.pointer (some ⟨sb, 0, none⟩), .int .u8 (k : Int), .func (.func 46) #[] #[v1, v2]] w fun en w' => OkP (St d) Fr s (partsR stp e x t) en w' := by
  have hr := h1 _ _ _ _ h
  have HPC := hide (pos_cons hl)
  have HT := hide hl.tail
  have hlt : pos s (c :: t) < s.size := by have := hl.pos; simp only [List.length_cons] at this; omega
  obtain ⟨⟨c0, c1, c2⟩, f1, f2⟩ := hr.facts
  have i1 : (d == 40) = false := by rw [beq_eq_false_iff_ne]; omega
  have i2 : ¬ d = 40 := by omega
  have HS1 : Hid (St (d + 1) ((w.setCell ⟨sb, 2, none⟩ (.int .i64 (d + 1))).setCell ⟨sb, 1, none⟩ (.int .i64 (pos s t : Nat))) x t) := by
    refine h2 _ _ _ _ h _ _ _ (List.suffix_cons c t) (Ow.set (Ow.set (Kp.refl _ w) 2 _) 1 _) ?_
    exact (hr.set2 (d + 1)).set1 _
  rw [HPC.out, Int.natCast_add] at HS1
  have H1 := hide h1
  have H2 := hide h2
  have H3 := hide h3
  have HFK := hide h4
  have HC := hide hC
  have HL := hide hL
  have HB := hide hB
  clear h hr h1 h2 h3 h4 hC hL hl hB
  go_enter Tryz.func45, Tryz.ntmps45
  go_wp2_with fail
  have HS1' : Hid (St (d + 1) ((w.setCell ⟨sb, 2, none⟩ (.int .i64 (d + 1))).setCell ⟨sb, 1, none⟩ (.int .i64 ((pos s (c :: t) : Int) + 1))) x t) := HS1
  clear HS1 c0 c1 c2 f1 f2
  generalize (w.setCell ⟨sb, 2, none⟩ (.int .i64 (d + 1))).setCell ⟨sb, 1, none⟩ (.int .i64 ((pos s (c :: t) : Int) + 1)) = w1 at *
  have HH := hide (ohas_any sb s t (d + 1) e k hek hk0 w1 hs HT.out ((H1.out) _ _ _ _ HS1'.out))
  have HSL := hide ((HT.out).mono (sgL_sfx e t))
  cases hsg : sign e t with
  | some l0 =>
    have HE : Hid (partsR stp e x t = .ok x l0) := by show _ = _; unfold partsR; rw [hsg]
    rw [hsg, sgL_some hsg] at HH
    rw [sgL_some hsg] at HSL
    have HSX : Hid (l0 <:+ t) := sign_sfx hsg
    clear hsg HC HL
    refine (HH.out).mono ?_
    rintro en w2 ⟨rfl, r2, k2⟩
    have HS2 := hide ((H2.out) _ _ _ _ HS1'.out _ _ _ HSX.out k2 r2)
    obtain ⟨⟨c0, c1, c2⟩, f1, f2⟩ := r2.facts
    have HF : Hid (OkP (St d) Fr s (partsR stp e x t) (.returned (.tuple #[])) (w2.setCell ⟨sb, 2, none⟩ (.int .i64 d))) := by
      show OkP _ _ _ _ _ _
      rw [HE.out]
      exact ⟨rfl, (H2.out) _ _ _ _ HS2.out _ _ _ List.suffix_rfl (Ow.set (Kp.refl _ w2) 2 _) (r2.set2 d)⟩
    have hdd : d + 1 - 1 = d := by omega
    clear r2 k2 HH HS1' HE H1 H2 H3
    go_wp2_with fail
    go_end0
    first | exact HF.out | (rw [hdd]; exact HF.out)
  | none =>
    have HE0 : Hid (partsR stp e x t = moreR stp e (t.length + 1) x t) := by show _ = _; unfold partsR; rw [hsg]
    rw [hsg, sgL_none hsg] at HH
    rw [sgL_none hsg] at HSL
    clear hsg
    refine (HH.out).mono ?_
    rintro en w2 ⟨rfl, r2, k2⟩
    have HS2 := hide ((H2.out) _ _ _ _ HS1'.out _ _ _ (bla_sfx t) k2 r2)
    have HCC := hide ((HC.out) _ _ _ HSL.out HS2.out)
    rw [(HB.out) x t] at HCC
    clear r2 k2 HH HS1'
    cases hst : stp x t with
    | bad e0 n0 =>
      have HE : Hid (partsR stp e x t = .bad e0 n0) := by show _ = _; rw [HE0.out, moreR, hst]
      rw [hst] at HCC
      clear hst
      go_wp2_with fail
      refine (HCC.out).mono ?_
      rintro en w3 ⟨rfl, h3⟩
      have HF : Hid (OkP (St d) Fr s (partsR stp e x t) (flt (s.size - n0 : Nat) e0) w3) := by
        show OkP _ _ _ _ _ _
        rw [HE.out]
        exact ⟨rfl, h3⟩
      clear HCC HE HE0 h3
      go_wp2_with fail
      exact ⟨rfl, HF.out⟩
    | ok x0 l0 =>
      have hL0 := (HL.out) _ _ _ _ hst
      have HE1 : Hid (partsR stp e x t = match sign 44 l0 with | some l3 => moreR stp e t.length x0 l3 | none => (match sign e l0 with | some l3 => .ok x0 l3 | none => .bad 3 (bla l0).length)) := by show _ = _; rw [HE0.out, moreR, hst]
      have HSF0 := hide ((HT.out).mono hL0.2)
      have HLN0 : Hid (l0.length ≤ t.length) := Nat.le_of_lt hL0.1
      rw [hst] at HCC
      clear hst HE0 hL0
      go_wp2_with fail
      refine (HCC.out).mono ?_
      rintro en w3 ⟨rfl, h3⟩
      have HS3 := hide h3
      clear h3 HCC HS2
      go_wp2_with fail
      go_loopw [] (fun wr => ∃ (f : Nat) (y : α) (l : List UInt8), Hid (Sfx s l) ∧ Hid (l.length ≤ f) ∧ Hid (St (d + 1) wr y l) ∧ Hid (partsR stp e x t = match sign 44 l with | some l3 => moreR stp e f y l3 | none => (match sign e l with | some l3 => .ok y l3 | none => .bad 3 (bla l).length))) (fun wr => s.size - atS sb wr)
      case atStart => exact ⟨_, x0, l0, HSF0, HLN0, HS3, HE1⟩
      case round =>
        obtain ⟨f, y, l, HSF, HLN, HSS, HEE⟩ := hrel
        clear HS3 HE1 HSF0 HLN0 HSL
        have hrs := (H1.out) _ _ _ _ HSS.out
        have hat := hrs.at
        have HH := hide (ohas_any sb s l (d + 1) 44 44 rfl (by decide) wr hs HSF.out hrs)
        have HSL := hide ((HSF.out).mono (sgL_sfx 44 l))
        have hps := (HSF.out).pos
        clear hrs
        cases hsg : sign 44 l with
        | none =>
          rw [hsg, sgL_none hsg] at HH
          rw [sgL_none hsg] at HSL
          rw [hsg] at HEE
          simp only at HEE
          clear hsg hat
          go_wp2_with fail
          refine (HH.out).mono ?_
          rintro en w4 ⟨rfl, r4, k4⟩
          have HS4 := hide ((H2.out) _ _ _ _ HSS.out _ _ _ (bla_sfx l) k4 r4)
          have HSG := hide (osign_any sb s (bla l) (d + 1) e k hek hk0 w4 hs HSL.out r4)
          rw [sign_bla, bla_blank] at HSG
          have hpb := (HSL.out).pos
          clear r4 k4 HH HSS
          cases hse : sign e l with
          | some l3 =>
            have HSX : Hid (l3 <:+ bla l) := sign_sfx (by rw [sign_bla]; exact hse)
            rw [hse] at HSG HEE
            simp only at HEE
            clear hse
            go_wp2_with fail
            refine (HSG.out).mono ?_
            rintro en w5 ⟨k5, rfl, r5⟩
            have HS5 := hide ((H2.out) _ _ _ _ HS4.out _ _ _ HSX.out k5 r5)
            obtain ⟨⟨c0, c1, c2⟩, f1, f2⟩ := r5.facts
            have HF : Hid (OkP (St d) Fr s (partsR stp e x t) (.returned (.tuple #[])) (w5.setCell ⟨sb, 2, none⟩ (.int .i64 d))) := by
              show OkP _ _ _ _ _ _
              rw [HEE.out]
              exact ⟨rfl, (H2.out) _ _ _ _ HS5.out _ _ _ List.suffix_rfl (Ow.set (Kp.refl _ w5) 2 _) (r5.set2 d)⟩
            have hdd : d + 1 - 1 = d := by omega
            clear r5 k5 HSG HS4 HS5 HEE
            go_wp2_with fail
            go_end0
            first | exact HF.out | (rw [hdd]; exact HF.out)
          | none =>
            rw [hse] at HSG HEE
            simp only at HEE
            clear hse
            go_wp2_with fail
            refine (HSG.out).mono ?_
            rintro en w5 ⟨k5, rfl⟩
            have HF : Hid (OkP (St d) Fr s (partsR stp e x t) (flt (pos s (bla l) : Nat) 3) w5) := by
              show OkP _ _ _ _ _ _
              rw [HEE.out]
              refine ⟨?_, (HFK.out) _ _ ((H3.out) _ _ _ _ HS4.out) k5⟩
              show flt _ _ = flt _ _
              rw [show s.size - (bla l).length = pos s (bla l) by omega]; rfl
            clear k5 HSG HS4 HEE
            go_wp2_with fail
            exact ⟨rfl, HF.out⟩
        | some l3 =>
          have hsl := sign_len hsg
          have HSX : Hid (l3 <:+ l) := sign_sfx hsg
          rw [hsg, sgL_some hsg] at HH
          rw [sgL_some hsg] at HSL
          rw [hsg] at HEE
          simp only at HEE
          clear hsg
          go_wp2_with fail
          refine (HH.out).mono ?_
          rintro en w4 ⟨rfl, r4, k4⟩
          have HS4 := hide ((H2.out) _ _ _ _ HSS.out _ _ _ HSX.out k4 r4)
          have HCC := hide ((HC.out) _ _ _ HSL.out HS4.out)
          clear r4 k4 HH HSS
          obtain ⟨f', rfl⟩ : ∃ f', f = f' + 1 := ⟨f - 1, by have := HLN.out; omega⟩
          cases hst : stp y l3 with
          | bad e0 n0 =>
            have HE : Hid (partsR stp e x t = .bad e0 n0) := by show _ = _; rw [HEE.out, moreR, hst]
            rw [hst] at HCC
            clear hst hat
            go_wp2_with fail
            refine (HCC.out).mono ?_
            rintro en w5 ⟨rfl, h5⟩
            have HF : Hid (OkP (St d) Fr s (partsR stp e x t) (flt (s.size - n0 : Nat) e0) w5) := by
              show OkP _ _ _ _ _ _
              rw [HE.out]
              exact ⟨rfl, h5⟩
            clear HCC HE HEE h5
            go_wp2_with fail
            exact ⟨rfl, HF.out⟩
          | ok y5 l5 =>
            have hL5 := (HL.out) _ _ _ _ hst
            have HE5 : Hid (partsR stp e x t = match sign 44 l5 with | some l3 => moreR stp e f' y5 l3 | none => (match sign e l5 with | some l3 => .ok y5 l3 | none => .bad 3 (bla l5).length)) := by show _ = _; rw [HEE.out, moreR, hst]
            have HSF5 := hide ((HSL.out).mono hL5.2)
            have HLN5 : Hid (l5.length ≤ f') := by show _ ≤ _; have := HLN.out; have := hL5.1; omega
            have hps5 := (HSF5.out).pos
            have hl5 := hL5.1
            rw [hst] at HCC
            clear hst hL5 HEE
            go_wp2_with fail
            refine (HCC.out).mono ?_
            rintro en w5 ⟨rfl, h5⟩
            have HS5 := hide h5
            clear h5 HCC HS4
            go_wp2_with fail
            refine ⟨⟨f', y5, l5, HSF5, HLN5, HS5, HE5⟩, ?_⟩
            have e1 := ((H1.out) _ _ _ _ HS5.out).at
            rw [hat]
            first | (rw [e1]; omega) | (erw [e1]; omega)
set_option maxRecDepth 100000 in
set_option maxHeartbeats 8000000 in
theorem oparts_pairs {α : Type} (sb : Nat) (s : ByteArray) (d : Int) (e : UInt8) (k : Nat) (v1 v2 v3 v4 : Value) (stp : α → List UInt8 → Res α) (St : Int → World → α → List UInt8 → Prop) (Fr : World → Prop)
    (hs : s.size ≤ 1073741824) (hek : e.toNat = k) (hk0 : k ≠ 0) (hd0 : 0 ≤ d) (hd1 : d < 40)
    (h1 : ∀ d w x l, St d w x l → RawS w sb s (pos s l) d) (h2 : ∀ d w x l, St d w x l → ∀ d' w' l', l' <:+ l → Ow sb w w' → RawS w' sb s (pos s l') d' → St d' w' x l') (h3 : ∀ d w x l, St d w x l → Fr w) (h4 : ∀ w w', Fr w → Ow sb w w' → Fr w')
    (hC : ∀ w x l, Sfx s l → St (d + 1) w x l → Calls Tryz.prog 47 #[v1, v2, v3, v4] w fun en w' => OkP (St (d + 1)) Fr s (stp x l) en w')
    (hL : ∀ x l x' l', stp x l = .ok x' l' → l'.length < l.length ∧ l' <:+ l) (hB : ∀ x l, stp x (bla l) = stp x l)
    (x : α) (c : UInt8) (t : List UInt8) (w : World) (hl : Sfx s (c :: t)) (h : St d w x (c :: t)) :
    Calls Tryz.prog 45 #[.pointer (some ⟨sb, 0, none⟩), .int .u8 (k : Int), .func (.func 47) #[] #[v1, v2, v3, v4]] w fun en w' => OkP (St d) Fr s (partsR stp e x t) en w' := by
  have hr := h1 _ _ _ _ h
  have HPC := hide (pos_cons hl)
  have HT := hide hl.tail
  have hlt : pos s (c :: t) < s.size := by have := hl.pos; simp only [List.length_cons] at this; omega
  obtain ⟨⟨c0, c1, c2⟩, f1, f2⟩ := hr.facts
  have i1 : (d == 40) = false := by rw [beq_eq_false_iff_ne]; omega
  have i2 : ¬ d = 40 := by omega
  have HS1 : Hid (St (d + 1) ((w.setCell ⟨sb, 2, none⟩ (.int .i64 (d + 1))).setCell ⟨sb, 1, none⟩ (.int .i64 (pos s t : Nat))) x t) := by
    refine h2 _ _ _ _ h _ _ _ (List.suffix_cons c t) (Ow.set (Ow.set (Kp.refl _ w) 2 _) 1 _) ?_
    exact (hr.set2 (d + 1)).set1 _
  rw [HPC.out, Int.natCast_add] at HS1
  have H1 := hide h1
  have H2 := hide h2
  have H3 := hide h3
  have HFK := hide h4
  have HC := hide hC
  have HL := hide hL
  have HB := hide hB
  clear h hr h1 h2 h3 h4 hC hL hl hB
  go_enter Tryz.func45, Tryz.ntmps45
  go_wp2_with fail
  have HS1' : Hid (St (d + 1) ((w.setCell ⟨sb, 2, none⟩ (.int .i64 (d + 1))).setCell ⟨sb, 1, none⟩ (.int .i64 ((pos s (c :: t) : Int) + 1))) x t) := HS1
  clear HS1 c0 c1 c2 f1 f2
  generalize (w.setCell ⟨sb, 2, none⟩ (.int .i64 (d + 1))).setCell ⟨sb, 1, none⟩ (.int .i64 ((pos s (c :: t) : Int) + 1)) = w1 at *
  have HH := hide (ohas_any sb s t (d + 1) e k hek hk0 w1 hs HT.out ((H1.out) _ _ _ _ HS1'.out))
  have HSL := hide ((HT.out).mono (sgL_sfx e t))
  cases hsg : sign e t with
  | some l0 =>
    have HE : Hid (partsR stp e x t = .ok x l0) := by show _ = _; unfold partsR; rw [hsg]
    rw [hsg, sgL_some hsg] at HH
    rw [sgL_some hsg] at HSL
    have HSX : Hid (l0 <:+ t) := sign_sfx hsg
    clear hsg HC HL
    refine (HH.out).mono ?_
    rintro en w2 ⟨rfl, r2, k2⟩
    have HS2 := hide ((H2.out) _ _ _ _ HS1'.out _ _ _ HSX.out k2 r2)
    obtain ⟨⟨c0, c1, c2⟩, f1, f2⟩ := r2.facts
    have HF : Hid (OkP (St d) Fr s (partsR stp e x t) (.returned (.tuple #[])) (w2.setCell ⟨sb, 2, none⟩ (.int .i64 d))) := by
      show OkP _ _ _ _ _ _
      rw [HE.out]
      exact ⟨rfl, (H2.out) _ _ _ _ HS2.out _ _ _ List.suffix_rfl (Ow.set (Kp.refl _ w2) 2 _) (r2.set2 d)⟩
    have hdd : d + 1 - 1 = d := by omega
    clear r2 k2 HH HS1' HE H1 H2 H3
    go_wp2_with fail
    go_end0
    first | exact HF.out | (rw [hdd]; exact HF.out)
  | none =>
    have HE0 : Hid (partsR stp e x t = moreR stp e (t.length + 1) x t) := by show _ = _; unfold partsR; rw [hsg]
    rw [hsg, sgL_none hsg] at HH
    rw [sgL_none hsg] at HSL
    clear hsg
    refine (HH.out).mono ?_
    rintro en w2 ⟨rfl, r2, k2⟩
    have HS2 := hide ((H2.out) _ _ _ _ HS1'.out _ _ _ (bla_sfx t) k2 r2)
    have HCC := hide ((HC.out) _ _ _ HSL.out HS2.out)
    rw [(HB.out) x t] at HCC
    clear r2 k2 HH HS1'
    cases hst : stp x t with
    | bad e0 n0 =>
      have HE : Hid (partsR stp e x t = .bad e0 n0) := by show _ = _; rw [HE0.out, moreR, hst]
      rw [hst] at HCC
      clear hst
      go_wp2_with fail
      refine (HCC.out).mono ?_
      rintro en w3 ⟨rfl, h3⟩
      have HF : Hid (OkP (St d) Fr s (partsR stp e x t) (flt (s.size - n0 : Nat) e0) w3) := by
        show OkP _ _ _ _ _ _
        rw [HE.out]
        exact ⟨rfl, h3⟩
      clear HCC HE HE0 h3
      go_wp2_with fail
      exact ⟨rfl, HF.out⟩
    | ok x0 l0 =>
      have hL0 := (HL.out) _ _ _ _ hst
      have HE1 : Hid (partsR stp e x t = match sign 44 l0 with | some l3 => moreR stp e t.length x0 l3 | none => (match sign e l0 with | some l3 => .ok x0 l3 | none => .bad 3 (bla l0).length)) := by show _ = _; rw [HE0.out, moreR, hst]
      have HSF0 := hide ((HT.out).mono hL0.2)
      have HLN0 : Hid (l0.length ≤ t.length) := Nat.le_of_lt hL0.1
      rw [hst] at HCC
      clear hst HE0 hL0
      go_wp2_with fail
      refine (HCC.out).mono ?_
      rintro en w3 ⟨rfl, h3⟩
      have HS3 := hide h3
      clear h3 HCC HS2
      go_wp2_with fail
      go_loopw [] (fun wr => ∃ (f : Nat) (y : α) (l : List UInt8), Hid (Sfx s l) ∧ Hid (l.length ≤ f) ∧ Hid (St (d + 1) wr y l) ∧ Hid (partsR stp e x t = match sign 44 l with | some l3 => moreR stp e f y l3 | none => (match sign e l with | some l3 => .ok y l3 | none => .bad 3 (bla l).length))) (fun wr => s.size - atS sb wr)
      case atStart => exact ⟨_, x0, l0, HSF0, HLN0, HS3, HE1⟩
      case round =>
        obtain ⟨f, y, l, HSF, HLN, HSS, HEE⟩ := hrel
        clear HS3 HE1 HSF0 HLN0 HSL
        have hrs := (H1.out) _ _ _ _ HSS.out
        have hat := hrs.at
        have HH := hide (ohas_any sb s l (d + 1) 44 44 rfl (by decide) wr hs HSF.out hrs)
        have HSL := hide ((HSF.out).mono (sgL_sfx 44 l))
        have hps := (HSF.out).pos
        clear hrs
        cases hsg : sign 44 l with
        | none =>
          rw [hsg, sgL_none hsg] at HH
          rw [sgL_none hsg] at HSL
          rw [hsg] at HEE
          simp only at HEE
          clear hsg hat
          go_wp2_with fail
          refine (HH.out).mono ?_
          rintro en w4 ⟨rfl, r4, k4⟩
          have HS4 := hide ((H2.out) _ _ _ _ HSS.out _ _ _ (bla_sfx l) k4 r4)
          have HSG := hide (osign_any sb s (bla l) (d + 1) e k hek hk0 w4 hs HSL.out r4)
          rw [sign_bla, bla_blank] at HSG
          have hpb := (HSL.out).pos
          clear r4 k4 HH HSS
          cases hse : sign e l with
          | some l3 =>
            have HSX : Hid (l3 <:+ bla l) := sign_sfx (by rw [sign_bla]; exact hse)
            rw [hse] at HSG HEE
            simp only at HEE
            clear hse
            go_wp2_with fail
            refine (HSG.out).mono ?_
            rintro en w5 ⟨k5, rfl, r5⟩
            have HS5 := hide ((H2.out) _ _ _ _ HS4.out _ _ _ HSX.out k5 r5)
            obtain ⟨⟨c0, c1, c2⟩, f1, f2⟩ := r5.facts
            have HF : Hid (OkP (St d) Fr s (partsR stp e x t) (.returned (.tuple #[])) (w5.setCell ⟨sb, 2, none⟩ (.int .i64 d))) := by
              show OkP _ _ _ _ _ _
              rw [HEE.out]
              exact ⟨rfl, (H2.out) _ _ _ _ HS5.out _ _ _ List.suffix_rfl (Ow.set (Kp.refl _ w5) 2 _) (r5.set2 d)⟩
            have hdd : d + 1 - 1 = d := by omega
            clear r5 k5 HSG HS4 HS5 HEE
            go_wp2_with fail
            go_end0
            first | exact HF.out | (rw [hdd]; exact HF.out)
          | none =>
            rw [hse] at HSG HEE
            simp only at HEE
            clear hse
            go_wp2_with fail
            refine (HSG.out).mono ?_
            rintro en w5 ⟨k5, rfl⟩
            have HF : Hid (OkP (St d) Fr s (partsR stp e x t) (flt (pos s (bla l) : Nat) 3) w5) := by
              show OkP _ _ _ _ _ _
              rw [HEE.out]
              refine ⟨?_, (HFK.out) _ _ ((H3.out) _ _ _ _ HS4.out) k5⟩
              show flt _ _ = flt _ _
              rw [show s.size - (bla l).length = pos s (bla l) by omega]; rfl
            clear k5 HSG HS4 HEE
            go_wp2_with fail
            exact ⟨rfl, HF.out⟩
        | some l3 =>
          have hsl := sign_len hsg
          have HSX : Hid (l3 <:+ l) := sign_sfx hsg
          rw [hsg, sgL_some hsg] at HH
          rw [sgL_some hsg] at HSL
          rw [hsg] at HEE
          simp only at HEE
          clear hsg
          go_wp2_with fail
          refine (HH.out).mono ?_
          rintro en w4 ⟨rfl, r4, k4⟩
          have HS4 := hide ((H2.out) _ _ _ _ HSS.out _ _ _ HSX.out k4 r4)
          have HCC := hide ((HC.out) _ _ _ HSL.out HS4.out)
          clear r4 k4 HH HSS
          obtain ⟨f', rfl⟩ : ∃ f', f = f' + 1 := ⟨f - 1, by have := HLN.out; omega⟩
          cases hst : stp y l3 with
          | bad e0 n0 =>
            have HE : Hid (partsR stp e x t = .bad e0 n0) := by show _ = _; rw [HEE.out, moreR, hst]
            rw [hst] at HCC
            clear hst hat
            go_wp2_with fail
            refine (HCC.out).mono ?_
            rintro en w5 ⟨rfl, h5⟩
            have HF : Hid (OkP (St d) Fr s (partsR stp e x t) (flt (s.size - n0 : Nat) e0) w5) := by
              show OkP _ _ _ _ _ _
              rw [HE.out]
              exact ⟨rfl, h5⟩
            clear HCC HE HEE h5
            go_wp2_with fail
            exact ⟨rfl, HF.out⟩
          | ok y5 l5 =>
            have hL5 := (HL.out) _ _ _ _ hst
            have HE5 : Hid (partsR stp e x t = match sign 44 l5 with | some l3 => moreR stp e f' y5 l3 | none => (match sign e l5 with | some l3 => .ok y5 l3 | none => .bad 3 (bla l5).length)) := by show _ = _; rw [HEE.out, moreR, hst]
            have HSF5 := hide ((HSL.out).mono hL5.2)
            have HLN5 : Hid (l5.length ≤ f') := by show _ ≤ _; have := HLN.out; have := hL5.1; omega
            have hps5 := (HSF5.out).pos
            have hl5 := hL5.1
            rw [hst] at HCC
            clear hst hL5 HEE
            go_wp2_with fail
            refine (HCC.out).mono ?_
            rintro en w5 ⟨rfl, h5⟩
            have HS5 := hide h5
            clear h5 HCC HS4
            go_wp2_with fail
            refine ⟨⟨f', y5, l5, HSF5, HLN5, HS5, HE5⟩, ?_⟩
            have e1 := ((H1.out) _ _ _ _ HS5.out).at
            rw [hat]
            first | (rw [e1]; omega) | (erw [e1]; omega)
set_option maxRecDepth 100000 in
theorem oparts_full (sb : Nat) (s : ByteArray) (l : List UInt8) (k fv : Value) (w : World) (h : RawS w sb s (pos s l) 40) :
    Calls Tryz.prog 45 #[.pointer (some ⟨sb, 0, none⟩), k, fv] w fun en w' => en = flt (pos s l : Nat) 12 ∧ w' = w := by
  obtain ⟨⟨c0, c1, c2⟩, f1, f2⟩ := h.facts
  clear h
  go_enter Tryz.func45, Tryz.ntmps45
  go_wp2_with fail
  exact ⟨rfl, rfl, rfl⟩
end Go.Proofs.YthdbnafiindgbaaGreatDoor
