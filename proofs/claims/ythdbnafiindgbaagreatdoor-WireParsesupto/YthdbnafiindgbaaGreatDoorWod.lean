/- The program's reader of messages: a number. (written by wip/tools/wire_gen/genod.py) -/
import Derived.Test.YthdbnafiindgbaaGreatDoorWoc
import Derived.BigQuiet
import Derived.Deep.RegionHeld3
namespace Go.Proofs.YthdbnafiindgbaaGreatDoor
open Go.RowKit
open Wi

set_option maxRecDepth 100000 in
set_option maxHeartbeats 8000000 in
theorem onumber_no (sb : Nat) (s : ByteArray) (c : UInt8) (t : List UInt8) (d : Int) (w : World) (hs : s.size ≤ 1073741824) (hl : Sfx s (c :: t)) (h : RawS w sb s (pos s (c :: t)) d) (hc : ¬ c = 45) :
    Calls Tryz.prog 26 #[.pointer (some ⟨sb, 0, none⟩)] w fun en w' => OkN w sb s d (numb (c :: t)) en w' := by
  have HR := hide h
  have HLB : Hid (Sfx s (c :: t)) := by first | exact hl | exact hl.tail
  have HPC := hide (pos_cons hl)
  have HL0 := hide hl
  have HP0 := hide hl.pos
  obtain ⟨⟨c0, c1, c2⟩, f1, -⟩ := h.facts
  have HNX := hide (onext_any sb s (c :: t) d w hl h)
  have i2 : (0 : Int) ≤ (pos s (c :: t) : Int) := Int.natCast_nonneg _
  have HDN : Hid (hdB (c :: t) = c.toNat) := rfl
  have b1 : ((hdB (c :: t) : Int) == 45) = false := by
    rw [HDN.out]; simp; intro e; exact hc (UInt8.toNat_inj.1 (by show c.toNat = 45; omega))
  have HN : Hid (∀ {ds l n}, Digs (c :: t) ds l n → Stops l → numb (c :: t) = if ds = [] then .bad 3 l.length else if 18 < ds.length ∨ 1 < ds.length ∧ ds.head? = some 48 then .bad 3 (t.length + 1) else .ok (.mk 2 (n) [] [] []) l) := by
    intro ds l n hd hst
    have := numb_of (c := c) (t := t) (ds := ds) (l := l) (n := n) (by rw [if_neg hc]; exact hd) hst
    rw [if_neg hc] at this
    exact this
  have hp1 : pos s (c :: t) + t.length + 1 = s.size := by have := hl.pos; simp only [List.length_cons] at this; omega
  have HAT : Hid (∀ ds l, Dg (c :: t) ds l → ds ≠ [] → ds.length ≤ 18 → ∀ W, Calls Tryz.prog 39 #[.string (s.extract (pos s (c :: t)) (pos s l))] W fun e w' => e = .returned (.tuple #[.int .i64 ((numOf ds : Int)), .nilIface]) ∧ Below W.heap.size W w') := by
    intro ds l hd h0 h18 W
    have hp := hd.digs.pos HLB.out
    refine atoi_any _ _ ?_ (by simp; omega) W
    have e1 : bs (s.extract (pos s (c :: t)) (pos s l)) = ((c :: t).take (pos s l - pos s (c :: t))) := by
      exact bs_extr hl _
    rw [e1]
    have e2 : pos s l - pos s (c :: t) = ds.length := by omega
    rw [e2, hd.eq, List.take_left]
    exact atoi_pos hd.dig h0 h18
  clear h hl hc HDN
  go_enter Tryz.func26, Tryz.ntmps26
  go_wp2_with fail
  refine (HNX.out).mono ?_
  rintro e w1 ⟨rfl, m, rfl⟩
  have HR1 := hide ((HR.out).drew m)
  have HK1 := hide (Ow.ofBelow sb (belowN (Below.refl _ w) m))
  clear c0 c1 c2 f1 HR HNX
  generalize w.drewN m = w1 at *
  obtain ⟨⟨c0, c1, c2⟩, f1, -⟩ := (HR1.out).facts
  generalize hdB (c :: t) = hd0 at *
  go_wp2_with fail
  have HR2 := HR1
  have HK2 := HK1
  go_loopw [] (fun wr => ∃ (ds l : List UInt8), Hid (Dg (c :: t) ds l) ∧ Hid (RawS wr sb s (pos s l) d) ∧ Hid (Ow sb w wr)) (fun wr => s.size - atS sb wr)
  case atStart => exact ⟨[], (c :: t), Dg.start _, HR2, HK2⟩
  case round =>
    obtain ⟨ds, l, HD, HJ, HK⟩ := hrel
    have hat := (HJ.out).at
    have hp := (HD.out).digs.pos HLB.out
    have HS := hide hp.1
    have HPE := hide hp.2
    have HPL := hide hp.1.pos
    clear hp c0 c1 c2 f1 HR2 HK2
    have HNX := hide (onext_any sb s l d wr HS.out HJ.out)
    have HID := hide (isDig_hd l)
    by_cases hst : Stops l
    · have HST := hide hst
      have hdg : dgH l = false := by
        cases l with
        | nil => rfl
        | cons x u => exact hst x u rfl
      rw [hdg] at HID
      have hdl : (pos s l : Int) - (pos s (c :: t) : Int) = (ds.length : Int) := by have e1 := HPE.out; omega
      have hq1 : pos s l ≤ s.size := by have e2 := HPL.out; omega
      have hq2 : pos s (c :: t) ≤ pos s l := by have e2 := HPE.out; omega
      have hq3 : pos s (c :: t) ≤ pos s l := by have e2 := HPE.out; have e3 := HPC.out; omega
      clear hst hdg hat
      go_wp2_with fail
      refine (HNX.out).mono ?_
      rintro e w3 ⟨rfl, m3, rfl⟩
      have HJ3 := hide ((HJ.out).drew m3)
      have HK3 := hide ((HK.out).drewN m3)
      generalize wr.drewN m3 = w3 at *
      obtain ⟨⟨c0, c1, c2⟩, f1, -⟩ := (HJ3.out).facts
      clear HJ HK HNX
      generalize hdB l = hd1 at *
      have hcase : (ds = []) ∨ (ds ≠ [] ∧ 18 < ds.length) ∨ (ds ≠ [] ∧ ¬ 18 < ds.length ∧ 1 < ds.length ∧ ds.head? = some 48) ∨ (ds ≠ [] ∧ ¬ 18 < ds.length ∧ ¬ 1 < ds.length) ∨ (ds ≠ [] ∧ ¬ 18 < ds.length ∧ 1 < ds.length ∧ ¬ ds.head? = some 48) := by
        by_cases h1 : ds = []
        · exact .inl h1
        by_cases h2 : 18 < ds.length
        · exact .inr (.inl ⟨h1, h2⟩)
        by_cases h3 : 1 < ds.length
        · by_cases h4 : ds.head? = some 48
          · exact .inr (.inr (.inl ⟨h1, h2, h3, h4⟩))
          · exact .inr (.inr (.inr (.inr ⟨h1, h2, h3, h4⟩)))
        · exact .inr (.inr (.inr (.inl ⟨h1, h2, h3⟩)))
      rcases hcase with hd | ⟨hd, h18⟩ | ⟨hd, h18, h1, h48⟩ | ⟨hd, h18, h1⟩ | ⟨hd, h18, h1, h48⟩
      · have e1 : ((pos s l : Int) - (pos s (c :: t) : Int) == 0) = true := by rw [hdl, hd]; rfl
        have HE : Hid (numb (c :: t) = .bad 3 l.length) := by show _ = _; rw [(HN.out) (HD.out).digs HST.out, if_pos hd]
        have HSP := hide (ostop_any sb s _ d _ HJ3.out)
        clear hd hdl HN HAT
        go_wp2_with fail
        refine (HID.out _).mono ?_
        rintro e w4 ⟨rfl, rfl⟩
        go_wp2_with fail
        refine (HSP.out).mono ?_
        rintro e w5 ⟨rfl, rfl⟩
        go_wp2_with fail
        refine ⟨rfl, ?_⟩
        rw [HE.out]
        refine ⟨HK3.out, ?_⟩
        have hp2 := HPL.out
        show flt _ _ = flt _ _
        rw [show s.size - l.length = pos s l by omega]; rfl
      · have hlen : 0 < ds.length := List.length_pos_iff.2 hd
        have e1 : ((pos s l : Int) - (pos s (c :: t) : Int) == 0) = false := by simp; omega
        have e2 : decide ((18 : Int) < (pos s l : Int) - (pos s (c :: t) : Int)) = true := by simp; omega
        have HE : Hid (numb (c :: t) = .bad 3 (t.length + 1)) := by show _ = _; rw [(HN.out) (HD.out).digs HST.out, if_neg hd, if_pos (.inl h18)]
        clear hd hdl HN HAT h18
        go_wp2_with fail
        refine (HID.out _).mono ?_
        rintro e w4 ⟨rfl, rfl⟩
        go_wp2_with fail
        refine ⟨rfl, ?_⟩
        rw [HE.out]
        refine ⟨HK3.out, ?_⟩
        show flt _ _ = flt _ _
        rw [show s.size - (t.length + 1) = pos s (c :: t) by omega]; rfl
      · have hlen : 0 < ds.length := List.length_pos_iff.2 hd
        have e1 : ((pos s l : Int) - (pos s (c :: t) : Int) == 0) = false := by simp; omega
        have e2 : decide ((18 : Int) < (pos s l : Int) - (pos s (c :: t) : Int)) = false := by simp; omega
        have e3 : decide ((1 : Int) < (pos s l : Int) - (pos s (c :: t) : Int)) = true := by simp; omega
        have hlt2 := (digs_first (HD.out).digs HLB.out hlen).choose
        have q2 := q2' (HD.out).digs HLB.out hlen (hi := hlt2)
        have e4 : ((s[pos s (c :: t)].toNat : Int) == 48) = true := by rw [h48] at q2; rw [Option.some.inj q2]; rfl
        have i4 : (0 : Int) ≤ (pos s (c :: t) : Int) := Int.natCast_nonneg _
        have i5 : (pos s (c :: t) : Int) < (s.size : Int) := by omega
        have HE : Hid (numb (c :: t) = .bad 3 (t.length + 1)) := by show _ = _; rw [(HN.out) (HD.out).digs HST.out, if_neg hd, if_pos (.inr ⟨h1, h48⟩)]
        clear hd hdl HN HAT h18 h1 h48 q2
        go_wp2_with fail
        refine (HID.out _).mono ?_
        rintro e w4 ⟨rfl, rfl⟩
        go_wp2_with fail
        refine ⟨rfl, ?_⟩
        rw [HE.out]
        refine ⟨HK3.out, ?_⟩
        show flt _ _ = flt _ _
        rw [show s.size - (t.length + 1) = pos s (c :: t) by omega]; rfl
      · have hlen : 0 < ds.length := List.length_pos_iff.2 hd
        have e1 : ((pos s l : Int) - (pos s (c :: t) : Int) == 0) = false := by simp; omega
        have e2 : decide ((18 : Int) < (pos s l : Int) - (pos s (c :: t) : Int)) = false := by simp; omega
        have e3 : decide ((1 : Int) < (pos s l : Int) - (pos s (c :: t) : Int)) = false := by simp; omega
        have HE : Hid (numb (c :: t) = .ok (.mk 2 ((numOf ds : Int)) [] [] []) l) := by
          show _ = _
          rw [(HN.out) (HD.out).digs HST.out, if_neg hd, if_neg (by omega), List.take_of_length_le (by omega)]
        have HA := hide ((HAT.out) ds l HD.out hd (by omega))
        have j1 : (pos s (c :: t) : Int) ≤ (pos s l : Int) := by omega
        have j2 : (pos s l : Int) ≤ (s.size : Int) := by omega
        clear hd hdl HN HAT h18 h1
        generalize (numOf ds : Int) = N at *
        go_wp2_with fail
        refine (HID.out _).mono ?_
        rintro e w5 ⟨rfl, rfl⟩
        have HJ4 := HJ3
        have HK4 := HK3
        clear HJ3 HK3
        have HA5 : Hid (∀ W, Below w5.heap.size w5 W → Calls Tryz.prog 39 #[.string (s.extract (pos s (c :: t)) (pos s l))] W fun e w' => e = .returned (.tuple #[.int .i64 N, .nilIface]) ∧ Below w5.heap.size w5 w' ∧ (w'.cell? ⟨sb, 0, none⟩ = some (.string s) ∧ w'.cell? ⟨sb, 1, none⟩ = some (.int .i64 (pos s l : Nat)))) := by
          intro W hW
          refine ((HA.out) W).mono ?_
          rintro e w' ⟨rfl, hb⟩
          have hb2 := hW.trans (hb.mono hW.size)
          have hf := ((HJ4.out).below hb2).facts.1
          exact ⟨rfl, hb2, hf.1, hf.2.1⟩
        clear HA
        go_wp2_with fail
        have hc5 : w5.cell? ⟨sb, 0, none⟩ = some (.string s) ∧ w5.cell? ⟨sb, 1, none⟩ = some (.int .i64 (pos s l : Nat)) := ⟨c0, c1⟩
        go_region_held3 (fun w' => w'.cell? ⟨sb, 0, none⟩ = some (.string s) ∧ w'.cell? ⟨sb, 1, none⟩ = some (.int .i64 (pos s l : Nat))) (first | (with_reducible exact hc5) | (with_reducible exact hc6) | exact hc5) ((go_at_call 39; refine ((HA5.out) _ ?_).mono ?_; (first | exact (Below.refl _ w5).drew | exact Below.refl _ w5 | exact belowN (Below.refl _ w5) _); rintro e w6 ⟨rfl, hb6, hc6⟩))
        go_wp2_with fail
        go_ret
        rw [HE.out]
        exact ⟨(HK4.out).to (Ow.ofBelow sb hb6), rfl, (HJ4.out).below hb6⟩
      · have hlen : 0 < ds.length := List.length_pos_iff.2 hd
        have e1 : ((pos s l : Int) - (pos s (c :: t) : Int) == 0) = false := by simp; omega
        have e2 : decide ((18 : Int) < (pos s l : Int) - (pos s (c :: t) : Int)) = false := by simp; omega
        have e3 : decide ((1 : Int) < (pos s l : Int) - (pos s (c :: t) : Int)) = true := by simp; omega
        have hlt2 := (digs_first (HD.out).digs HLB.out hlen).choose
        have q2 := q2' (HD.out).digs HLB.out hlen (hi := hlt2)
        have e4 : ((s[pos s (c :: t)].toNat : Int) == 48) = false := by
          rw [Bool.eq_false_iff]; intro e
          apply h48
          rw [← q2]
          exact congrArg some (UInt8.toNat_inj.1 (by have := beq_iff_eq.1 e; show _ = 48; omega))
        have i4 : (0 : Int) ≤ (pos s (c :: t) : Int) := Int.natCast_nonneg _
        have i5 : (pos s (c :: t) : Int) < (s.size : Int) := by omega
        have HE : Hid (numb (c :: t) = .ok (.mk 2 ((numOf ds : Int)) [] [] []) l) := by
          show _ = _
          rw [(HN.out) (HD.out).digs HST.out, if_neg hd, if_neg (by rintro (h | h); exact h18 h; exact h48 h.2), List.take_of_length_le (by omega)]
        have HA := hide ((HAT.out) ds l HD.out hd (by omega))
        have j1 : (pos s (c :: t) : Int) ≤ (pos s l : Int) := by omega
        have j2 : (pos s l : Int) ≤ (s.size : Int) := by omega
        clear hd hdl HN HAT h18 h1 h48 q2
        generalize (numOf ds : Int) = N at *
        go_wp2_with fail
        refine (HID.out _).mono ?_
        rintro e w5 ⟨rfl, rfl⟩
        have HJ4 := HJ3
        have HK4 := HK3
        clear HJ3 HK3
        have HA5 : Hid (∀ W, Below w5.heap.size w5 W → Calls Tryz.prog 39 #[.string (s.extract (pos s (c :: t)) (pos s l))] W fun e w' => e = .returned (.tuple #[.int .i64 N, .nilIface]) ∧ Below w5.heap.size w5 w' ∧ (w'.cell? ⟨sb, 0, none⟩ = some (.string s) ∧ w'.cell? ⟨sb, 1, none⟩ = some (.int .i64 (pos s l : Nat)))) := by
          intro W hW
          refine ((HA.out) W).mono ?_
          rintro e w' ⟨rfl, hb⟩
          have hb2 := hW.trans (hb.mono hW.size)
          have hf := ((HJ4.out).below hb2).facts.1
          exact ⟨rfl, hb2, hf.1, hf.2.1⟩
        clear HA
        go_wp2_with fail
        have hc5 : w5.cell? ⟨sb, 0, none⟩ = some (.string s) ∧ w5.cell? ⟨sb, 1, none⟩ = some (.int .i64 (pos s l : Nat)) := ⟨c0, c1⟩
        go_region_held3 (fun w' => w'.cell? ⟨sb, 0, none⟩ = some (.string s) ∧ w'.cell? ⟨sb, 1, none⟩ = some (.int .i64 (pos s l : Nat))) (first | (with_reducible exact hc5) | (with_reducible exact hc6) | exact hc5) ((go_at_call 39; refine ((HA5.out) _ ?_).mono ?_; (first | exact (Below.refl _ w5).drew | exact Below.refl _ w5 | exact belowN (Below.refl _ w5) _); rintro e w6 ⟨rfl, hb6, hc6⟩))
        go_wp2_with fail
        go_ret
        rw [HE.out]
        exact ⟨(HK4.out).to (Ow.ofBelow sb hb6), rfl, (HJ4.out).below hb6⟩
    · have hx : ∃ x u, l = x :: u ∧ isDig x = true := by
        cases l with
        | nil => exact absurd (fun _ _ e => by cases e) hst
        | cons x u =>
          refine ⟨x, u, rfl, ?_⟩
          cases hi : isDig x with
          | true => rfl
          | false => exact absurd (fun x' u' e => by cases e; exact hi) hst
      obtain ⟨x, u, rfl, hx⟩ := hx
      have HT := hide (pos_cons HS.out)
      have HD2 := hide ((HD.out).more hx)
      have hlt : pos s (x :: u) < s.size := by have e2 := HPL.out; simp only [List.length_cons] at e2; omega
      rw [show dgH (x :: u) = true from hx] at HID
      clear hst HN HAT
      go_wp2_with fail
      refine (HNX.out).mono ?_
      rintro e w3 ⟨rfl, m3, rfl⟩
      have HJ3 := hide ((HJ.out).drew m3)
      have HK3 := hide ((HK.out).drewN m3)
      generalize wr.drewN m3 = w3 at *
      obtain ⟨⟨c0, c1, c2⟩, f1, -⟩ := (HJ3.out).facts
      clear HJ HK HNX
      generalize hdB (x :: u) = hd1 at *
      go_wp2_with fail
      refine (HID.out _).mono ?_
      rintro e w4 ⟨rfl, rfl⟩
      go_wp2_with fail
      have HJ4 := ((HJ3.out).set1 ((pos s u : Nat) : Int))
      rw [HT.out] at HJ4
      refine ⟨⟨_, u, HD2, ?_, ?_⟩, ?_⟩
      · show RawS _ _ _ _ _
        rw [HT.out]; exact HJ4
      · exact Ow.set HK3.out 1 _
      · have := RawS.at (i := pos s (x :: u) + 1) HJ4
        rw [hat]
        first | (erw [this]; omega) | omega
set_option maxRecDepth 100000 in
set_option maxHeartbeats 8000000 in
theorem onumber_yes (sb : Nat) (s : ByteArray) (c : UInt8) (t : List UInt8) (d : Int) (w : World) (hs : s.size ≤ 1073741824) (hl : Sfx s (c :: t)) (h : RawS w sb s (pos s (c :: t)) d) (hc : c = 45) :
    Calls Tryz.prog 26 #[.pointer (some ⟨sb, 0, none⟩)] w fun en w' => OkN w sb s d (numb (c :: t)) en w' := by
  have HR := hide h
  have HLB : Hid (Sfx s (t)) := by first | exact hl | exact hl.tail
  have HPC := hide (pos_cons hl)
  have HL0 := hide hl
  have HP0 := hide hl.pos
  obtain ⟨⟨c0, c1, c2⟩, f1, -⟩ := h.facts
  have HNX := hide (onext_any sb s (c :: t) d w hl h)
  have i2 : (0 : Int) ≤ (pos s (c :: t) : Int) := Int.natCast_nonneg _
  have HDN : Hid (hdB (c :: t) = c.toNat) := rfl
  have b1 : ((hdB (c :: t) : Int) == 45) = true := by
    rw [HDN.out]; rw [hc]; rfl
  have HN : Hid (∀ {ds l n}, Digs (t) ds l n → Stops l → numb (c :: t) = if ds = [] then .bad 3 l.length else if 18 < ds.length ∨ 1 < ds.length ∧ ds.head? = some 48 then .bad 3 (t.length + 1) else .ok (.mk 2 (-n) [] [] []) l) := by
    intro ds l n hd hst
    have := numb_of (c := c) (t := t) (ds := ds) (l := l) (n := n) (by rw [if_pos hc]; exact hd) hst
    rw [if_pos hc] at this
    exact this
  have hp1 : pos s (c :: t) + t.length + 1 = s.size := by have := hl.pos; simp only [List.length_cons] at this; omega
  have HAT : Hid (∀ ds l, Dg (t) ds l → ds ≠ [] → ds.length ≤ 18 → ∀ W, Calls Tryz.prog 39 #[.string (s.extract (pos s (c :: t)) (pos s l))] W fun e w' => e = .returned (.tuple #[.int .i64 (-(numOf ds : Int)), .nilIface]) ∧ Below W.heap.size W w') := by
    intro ds l hd h0 h18 W
    have hp := hd.digs.pos HLB.out
    refine atoi_any _ _ ?_ (by simp; omega) W
    have e1 : bs (s.extract (pos s (c :: t)) (pos s l)) = ((c :: t).take (pos s l - pos s (c :: t))) := by
      exact bs_extr hl _
    rw [e1]
    have e2 : pos s l - pos s (c :: t) = ds.length + 1 := by have := HPC.out; omega
    rw [e2, List.take_succ_cons, hd.eq, List.take_left, hc]
    exact atoi_neg hd.dig h0 h18
  clear h hl hc HDN
  go_enter Tryz.func26, Tryz.ntmps26
  go_wp2_with fail
  refine (HNX.out).mono ?_
  rintro e w1 ⟨rfl, m, rfl⟩
  have HR1 := hide ((HR.out).drew m)
  have HK1 := hide (Ow.ofBelow sb (belowN (Below.refl _ w) m))
  clear c0 c1 c2 f1 HR HNX
  generalize w.drewN m = w1 at *
  obtain ⟨⟨c0, c1, c2⟩, f1, -⟩ := (HR1.out).facts
  generalize hdB (c :: t) = hd0 at *
  go_wp2_with fail
  have hpt : (pos s (c :: t) : Int) + 1 = ((pos s t : Nat) : Int) := by rw [HPC.out]; rfl
  rw [hpt]
  have HR2 := hide ((HR1.out).set1 ((pos s t : Nat) : Int))
  have HK2 := hide (Ow.set HK1.out 1 (.int .i64 ((pos s t : Nat) : Int)))
  clear c0 c1 c2 f1 HR1 HK1 hpt
  generalize w1.setCell ⟨sb, 1, none⟩ (.int .i64 ((pos s t : Nat) : Int)) = w2 at *
  obtain ⟨⟨c0, c1, c2⟩, f1, -⟩ := (HR2.out).facts
  go_loopw [] (fun wr => ∃ (ds l : List UInt8), Hid (Dg (t) ds l) ∧ Hid (RawS wr sb s (pos s l) d) ∧ Hid (Ow sb w wr)) (fun wr => s.size - atS sb wr)
  case atStart => exact ⟨[], (t), Dg.start _, HR2, HK2⟩
  case round =>
    obtain ⟨ds, l, HD, HJ, HK⟩ := hrel
    have hat := (HJ.out).at
    have hp := (HD.out).digs.pos HLB.out
    have HS := hide hp.1
    have HPE := hide hp.2
    have HPL := hide hp.1.pos
    clear hp c0 c1 c2 f1 HR2 HK2
    have HNX := hide (onext_any sb s l d wr HS.out HJ.out)
    have HID := hide (isDig_hd l)
    by_cases hst : Stops l
    · have HST := hide hst
      have hdg : dgH l = false := by
        cases l with
        | nil => rfl
        | cons x u => exact hst x u rfl
      rw [hdg] at HID
      have hdl : (pos s l : Int) - (pos s (t) : Int) = (ds.length : Int) := by have e1 := HPE.out; omega
      have hq1 : pos s l ≤ s.size := by have e2 := HPL.out; omega
      have hq2 : pos s (t) ≤ pos s l := by have e2 := HPE.out; omega
      have hq3 : pos s (c :: t) ≤ pos s l := by have e2 := HPE.out; have e3 := HPC.out; omega
      clear hst hdg hat
      go_wp2_with fail
      refine (HNX.out).mono ?_
      rintro e w3 ⟨rfl, m3, rfl⟩
      have HJ3 := hide ((HJ.out).drew m3)
      have HK3 := hide ((HK.out).drewN m3)
      generalize wr.drewN m3 = w3 at *
      obtain ⟨⟨c0, c1, c2⟩, f1, -⟩ := (HJ3.out).facts
      clear HJ HK HNX
      generalize hdB l = hd1 at *
      have hcase : (ds = []) ∨ (ds ≠ [] ∧ 18 < ds.length) ∨ (ds ≠ [] ∧ ¬ 18 < ds.length ∧ 1 < ds.length ∧ ds.head? = some 48) ∨ (ds ≠ [] ∧ ¬ 18 < ds.length ∧ ¬ 1 < ds.length) ∨ (ds ≠ [] ∧ ¬ 18 < ds.length ∧ 1 < ds.length ∧ ¬ ds.head? = some 48) := by
        by_cases h1 : ds = []
        · exact .inl h1
        by_cases h2 : 18 < ds.length
        · exact .inr (.inl ⟨h1, h2⟩)
        by_cases h3 : 1 < ds.length
        · by_cases h4 : ds.head? = some 48
          · exact .inr (.inr (.inl ⟨h1, h2, h3, h4⟩))
          · exact .inr (.inr (.inr (.inr ⟨h1, h2, h3, h4⟩)))
        · exact .inr (.inr (.inr (.inl ⟨h1, h2, h3⟩)))
      rcases hcase with hd | ⟨hd, h18⟩ | ⟨hd, h18, h1, h48⟩ | ⟨hd, h18, h1⟩ | ⟨hd, h18, h1, h48⟩
      · have e1 : ((pos s l : Int) - (pos s (t) : Int) == 0) = true := by rw [hdl, hd]; rfl
        have HE : Hid (numb (c :: t) = .bad 3 l.length) := by show _ = _; rw [(HN.out) (HD.out).digs HST.out, if_pos hd]
        have HSP := hide (ostop_any sb s _ d _ HJ3.out)
        clear hd hdl HN HAT
        go_wp2_with fail
        refine (HID.out _).mono ?_
        rintro e w4 ⟨rfl, rfl⟩
        go_wp2_with fail
        refine (HSP.out).mono ?_
        rintro e w5 ⟨rfl, rfl⟩
        go_wp2_with fail
        refine ⟨rfl, ?_⟩
        rw [HE.out]
        refine ⟨HK3.out, ?_⟩
        have hp2 := HPL.out
        show flt _ _ = flt _ _
        rw [show s.size - l.length = pos s l by omega]; rfl
      · have hlen : 0 < ds.length := List.length_pos_iff.2 hd
        have e1 : ((pos s l : Int) - (pos s (t) : Int) == 0) = false := by simp; omega
        have e2 : decide ((18 : Int) < (pos s l : Int) - (pos s (t) : Int)) = true := by simp; omega
        have HE : Hid (numb (c :: t) = .bad 3 (t.length + 1)) := by show _ = _; rw [(HN.out) (HD.out).digs HST.out, if_neg hd, if_pos (.inl h18)]
        clear hd hdl HN HAT h18
        go_wp2_with fail
        refine (HID.out _).mono ?_
        rintro e w4 ⟨rfl, rfl⟩
        go_wp2_with fail
        refine ⟨rfl, ?_⟩
        rw [HE.out]
        refine ⟨HK3.out, ?_⟩
        show flt _ _ = flt _ _
        rw [show s.size - (t.length + 1) = pos s (c :: t) by omega]; rfl
      · have hlen : 0 < ds.length := List.length_pos_iff.2 hd
        have e1 : ((pos s l : Int) - (pos s (t) : Int) == 0) = false := by simp; omega
        have e2 : decide ((18 : Int) < (pos s l : Int) - (pos s (t) : Int)) = false := by simp; omega
        have e3 : decide ((1 : Int) < (pos s l : Int) - (pos s (t) : Int)) = true := by simp; omega
        have hlt2 := (digs_first (HD.out).digs HLB.out hlen).choose
        have q2 := q2' (HD.out).digs HLB.out hlen (hi := hlt2)
        have e4 : ((s[pos s (t)].toNat : Int) == 48) = true := by rw [h48] at q2; rw [Option.some.inj q2]; rfl
        have i4 : (0 : Int) ≤ (pos s (t) : Int) := Int.natCast_nonneg _
        have i5 : (pos s (t) : Int) < (s.size : Int) := by omega
        have HE : Hid (numb (c :: t) = .bad 3 (t.length + 1)) := by show _ = _; rw [(HN.out) (HD.out).digs HST.out, if_neg hd, if_pos (.inr ⟨h1, h48⟩)]
        clear hd hdl HN HAT h18 h1 h48 q2
        go_wp2_with fail
        refine (HID.out _).mono ?_
        rintro e w4 ⟨rfl, rfl⟩
        go_wp2_with fail
        refine ⟨rfl, ?_⟩
        rw [HE.out]
        refine ⟨HK3.out, ?_⟩
        show flt _ _ = flt _ _
        rw [show s.size - (t.length + 1) = pos s (c :: t) by omega]; rfl
      · have hlen : 0 < ds.length := List.length_pos_iff.2 hd
        have e1 : ((pos s l : Int) - (pos s (t) : Int) == 0) = false := by simp; omega
        have e2 : decide ((18 : Int) < (pos s l : Int) - (pos s (t) : Int)) = false := by simp; omega
        have e3 : decide ((1 : Int) < (pos s l : Int) - (pos s (t) : Int)) = false := by simp; omega
        have HE : Hid (numb (c :: t) = .ok (.mk 2 (-(numOf ds : Int)) [] [] []) l) := by
          show _ = _
          rw [(HN.out) (HD.out).digs HST.out, if_neg hd, if_neg (by omega), List.take_of_length_le (by omega)]
        have HA := hide ((HAT.out) ds l HD.out hd (by omega))
        have j1 : (pos s (c :: t) : Int) ≤ (pos s l : Int) := by omega
        have j2 : (pos s l : Int) ≤ (s.size : Int) := by omega
        clear hd hdl HN HAT h18 h1
        generalize -(numOf ds : Int) = N at *
        go_wp2_with fail
        refine (HID.out _).mono ?_
        rintro e w5 ⟨rfl, rfl⟩
        have HJ4 := HJ3
        have HK4 := HK3
        clear HJ3 HK3
        have HA5 : Hid (∀ W, Below w5.heap.size w5 W → Calls Tryz.prog 39 #[.string (s.extract (pos s (c :: t)) (pos s l))] W fun e w' => e = .returned (.tuple #[.int .i64 N, .nilIface]) ∧ Below w5.heap.size w5 w' ∧ (w'.cell? ⟨sb, 0, none⟩ = some (.string s) ∧ w'.cell? ⟨sb, 1, none⟩ = some (.int .i64 (pos s l : Nat)))) := by
          intro W hW
          refine ((HA.out) W).mono ?_
          rintro e w' ⟨rfl, hb⟩
          have hb2 := hW.trans (hb.mono hW.size)
          have hf := ((HJ4.out).below hb2).facts.1
          exact ⟨rfl, hb2, hf.1, hf.2.1⟩
        clear HA
        go_wp2_with fail
        have hc5 : w5.cell? ⟨sb, 0, none⟩ = some (.string s) ∧ w5.cell? ⟨sb, 1, none⟩ = some (.int .i64 (pos s l : Nat)) := ⟨c0, c1⟩
        go_region_held3 (fun w' => w'.cell? ⟨sb, 0, none⟩ = some (.string s) ∧ w'.cell? ⟨sb, 1, none⟩ = some (.int .i64 (pos s l : Nat))) (first | (with_reducible exact hc5) | (with_reducible exact hc6) | exact hc5) ((go_at_call 39; refine ((HA5.out) _ ?_).mono ?_; (first | exact (Below.refl _ w5).drew | exact Below.refl _ w5 | exact belowN (Below.refl _ w5) _); rintro e w6 ⟨rfl, hb6, hc6⟩))
        go_wp2_with fail
        go_ret
        rw [HE.out]
        exact ⟨(HK4.out).to (Ow.ofBelow sb hb6), rfl, (HJ4.out).below hb6⟩
      · have hlen : 0 < ds.length := List.length_pos_iff.2 hd
        have e1 : ((pos s l : Int) - (pos s (t) : Int) == 0) = false := by simp; omega
        have e2 : decide ((18 : Int) < (pos s l : Int) - (pos s (t) : Int)) = false := by simp; omega
        have e3 : decide ((1 : Int) < (pos s l : Int) - (pos s (t) : Int)) = true := by simp; omega
        have hlt2 := (digs_first (HD.out).digs HLB.out hlen).choose
        have q2 := q2' (HD.out).digs HLB.out hlen (hi := hlt2)
        have e4 : ((s[pos s (t)].toNat : Int) == 48) = false := by
          rw [Bool.eq_false_iff]; intro e
          apply h48
          rw [← q2]
          exact congrArg some (UInt8.toNat_inj.1 (by have := beq_iff_eq.1 e; show _ = 48; omega))
        have i4 : (0 : Int) ≤ (pos s (t) : Int) := Int.natCast_nonneg _
        have i5 : (pos s (t) : Int) < (s.size : Int) := by omega
        have HE : Hid (numb (c :: t) = .ok (.mk 2 (-(numOf ds : Int)) [] [] []) l) := by
          show _ = _
          rw [(HN.out) (HD.out).digs HST.out, if_neg hd, if_neg (by rintro (h | h); exact h18 h; exact h48 h.2), List.take_of_length_le (by omega)]
        have HA := hide ((HAT.out) ds l HD.out hd (by omega))
        have j1 : (pos s (c :: t) : Int) ≤ (pos s l : Int) := by omega
        have j2 : (pos s l : Int) ≤ (s.size : Int) := by omega
        clear hd hdl HN HAT h18 h1 h48 q2
        generalize -(numOf ds : Int) = N at *
        go_wp2_with fail
        refine (HID.out _).mono ?_
        rintro e w5 ⟨rfl, rfl⟩
        have HJ4 := HJ3
        have HK4 := HK3
        clear HJ3 HK3
        have HA5 : Hid (∀ W, Below w5.heap.size w5 W → Calls Tryz.prog 39 #[.string (s.extract (pos s (c :: t)) (pos s l))] W fun e w' => e = .returned (.tuple #[.int .i64 N, .nilIface]) ∧ Below w5.heap.size w5 w' ∧ (w'.cell? ⟨sb, 0, none⟩ = some (.string s) ∧ w'.cell? ⟨sb, 1, none⟩ = some (.int .i64 (pos s l : Nat)))) := by
          intro W hW
          refine ((HA.out) W).mono ?_
          rintro e w' ⟨rfl, hb⟩
          have hb2 := hW.trans (hb.mono hW.size)
          have hf := ((HJ4.out).below hb2).facts.1
          exact ⟨rfl, hb2, hf.1, hf.2.1⟩
        clear HA
        go_wp2_with fail
        have hc5 : w5.cell? ⟨sb, 0, none⟩ = some (.string s) ∧ w5.cell? ⟨sb, 1, none⟩ = some (.int .i64 (pos s l : Nat)) := ⟨c0, c1⟩
        go_region_held3 (fun w' => w'.cell? ⟨sb, 0, none⟩ = some (.string s) ∧ w'.cell? ⟨sb, 1, none⟩ = some (.int .i64 (pos s l : Nat))) (first | (with_reducible exact hc5) | (with_reducible exact hc6) | exact hc5) ((go_at_call 39; refine ((HA5.out) _ ?_).mono ?_; (first | exact (Below.refl _ w5).drew | exact Below.refl _ w5 | exact belowN (Below.refl _ w5) _); rintro e w6 ⟨rfl, hb6, hc6⟩))
        go_wp2_with fail
        go_ret
        rw [HE.out]
        exact ⟨(HK4.out).to (Ow.ofBelow sb hb6), rfl, (HJ4.out).below hb6⟩
    · have hx : ∃ x u, l = x :: u ∧ isDig x = true := by
        cases l with
        | nil => exact absurd (fun _ _ e => by cases e) hst
        | cons x u =>
          refine ⟨x, u, rfl, ?_⟩
          cases hi : isDig x with
          | true => rfl
          | false => exact absurd (fun x' u' e => by cases e; exact hi) hst
      obtain ⟨x, u, rfl, hx⟩ := hx
      have HT := hide (pos_cons HS.out)
      have HD2 := hide ((HD.out).more hx)
      have hlt : pos s (x :: u) < s.size := by have e2 := HPL.out; simp only [List.length_cons] at e2; omega
      rw [show dgH (x :: u) = true from hx] at HID
      clear hst HN HAT
      go_wp2_with fail
      refine (HNX.out).mono ?_
      rintro e w3 ⟨rfl, m3, rfl⟩
      have HJ3 := hide ((HJ.out).drew m3)
      have HK3 := hide ((HK.out).drewN m3)
      generalize wr.drewN m3 = w3 at *
      obtain ⟨⟨c0, c1, c2⟩, f1, -⟩ := (HJ3.out).facts
      clear HJ HK HNX
      generalize hdB (x :: u) = hd1 at *
      go_wp2_with fail
      refine (HID.out _).mono ?_
      rintro e w4 ⟨rfl, rfl⟩
      go_wp2_with fail
      have HJ4 := ((HJ3.out).set1 ((pos s u : Nat) : Int))
      rw [HT.out] at HJ4
      refine ⟨⟨_, u, HD2, ?_, ?_⟩, ?_⟩
      · show RawS _ _ _ _ _
        rw [HT.out]; exact HJ4
      · exact Ow.set HK3.out 1 _
      · have := RawS.at (i := pos s (x :: u) + 1) HJ4
        rw [hat]
        first | (erw [this]; omega) | omega
theorem onumber_any (sb : Nat) (s : ByteArray) (c : UInt8) (t : List UInt8) (d : Int) (w : World) (hs : s.size ≤ 1073741824) (hl : Sfx s (c :: t)) (h : RawS w sb s (pos s (c :: t)) d) :
    Calls Tryz.prog 26 #[.pointer (some ⟨sb, 0, none⟩)] w fun en w' => OkN w sb s d (numb (c :: t)) en w' := by
  by_cases hc : c = 45
  · exact onumber_yes sb s c t d w hs hl h hc
  · exact onumber_no sb s c t d w hs hl h hc
end Go.Proofs.YthdbnafiindgbaaGreatDoor
