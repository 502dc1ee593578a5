/- The document's reader of messages: a number is read. (written by wip/tools/wire_gen/genke.py) -/
import Derived.Test.YthdbnafiindgbaaGreatDoorWk0
import Derived.Test.YthdbnafiindgbaaGreatDoorWka
import Derived.Test.YthdbnafiindgbaaGreatDoorWkd
namespace Go.Proofs.YthdbnafiindgbaaGreatDoor
open Go.RowKit
open Wi

theorem wrap64_of {x : Int} (h1 : -9223372036854775808 ≤ x) (h2 : x ≤ 9223372036854775807) : wrap64 x = x := by
  unfold wrap64; omega
set_option maxRecDepth 100000 in
set_option maxHeartbeats 8000000 in
theorem wnumber_no (rb : Nat) (s : ByteArray) (c : UInt8) (t : List UInt8) (w : World) (hs : s.size ≤ 1073741824) (hl : Sfx s (c :: t)) (h : RawW w rb s (pos s (c :: t)) 0 0) (hc : ¬ c = 45) :
    Calls Tryz.prog 19 #[.pointer (some ⟨rb, 0, none⟩)] w fun en w' => ∃ v, en = .returned v ∧ Hid (GvJ w rb s (numb (c :: t)) v w') := by
  have HR := hide h
  have HLB : Hid (Sfx s (c :: t)) := by first | exact hl | exact hl.tail
  have HPC := hide (pos_cons hl)
  obtain ⟨⟨c0, c1, c2, c3⟩, f1, f2, f3⟩ := h.facts
  obtain ⟨hi, hg⟩ := hl.getD (k := 0) (by simp)
  simp only [Nat.add_zero, List.getElem_cons_zero] at hi hg
  have i2 : (0 : Int) ≤ (pos s (c :: t) : Int) := Int.natCast_nonneg _
  have i3 : (pos s (c :: t) : Int) < (s.size : Int) := by omega
  have b1 : ((s[pos s (c :: t)].toNat : Int) == 45) = false := by
    rw [hg]; simp; intro e; exact hc (UInt8.toNat_inj.1 (by show c.toNat = 45; omega))
  have HN : Hid (∀ {ds l n}, Digs (c :: t) ds l n → Stops l → numb (c :: t) = if ds = [] then .bad 3 l.length else if 18 < ds.length ∨ 1 < ds.length ∧ ds.head? = some 48 then .bad 3 (t.length + 1) else .ok (.mk 2 (n) [] [] []) l) := by
    intro ds l n hd hst
    have := numb_of (c := c) (t := t) (ds := ds) (l := l) (n := n) (by rw [if_neg hc]; exact hd) hst
    rw [if_neg hc] at this
    exact this
  clear h hl hc hg
  go_enter Tryz.func19, Tryz.ntmps19
  go_wp2_with fail
  go_quiet (fail)
  go_wp2_with fail
  have HR1 := hide ((HR.out).drew nq)
  have HK1 := hide (Ow.ofBelow rb (belowN (Below.refl _ w) nq))
  generalize w.drewN nq = w1 at *
  go_loopw [6] (fun v wr => ∃ (ds l : List UInt8) (n : Int), v = .int .i64 n ∧ Hid (Digs (c :: t) ds l n) ∧ Hid (RawW wr rb s (pos s l) 0 0) ∧ Hid (Ow rb w wr)) (fun _ wr => s.size - atW rb wr)
  case atStart => exact ⟨[], (c :: t), 0, rfl, Digs.start _, HR1, HK1⟩
  case round =>
    obtain ⟨ds, l, n, rfl, HD, HJ, HK⟩ := hrel
    have hat := (HJ.out).at
    have hp := (HD.out).pos HLB.out
    have HS := hide hp.1
    have HPE := hide hp.2
    have HPL := hide hp.1.pos
    have hbd := (HD.out).bound
    clear hp c0 c1 c2 c3 f1 f2 f3 HR1 HK1
    obtain ⟨⟨c0, c1, c2, c3⟩, f1, f2, f3⟩ := (HJ.out).facts
    by_cases hst : Stops l
    · have HST := hide hst
      have hcs : (decide (pos s l < s.size) = false) ∨ (∃ hi : pos s l < s.size, decide (pos s l < s.size) = true ∧ decide ((48 : Int) ≤ (s[pos s l].toNat : Int)) = false) ∨ (∃ hi : pos s l < s.size, decide (pos s l < s.size) = true ∧ decide ((48 : Int) ≤ (s[pos s l].toNat : Int)) = true ∧ decide ((s[pos s l].toNat : Int) ≤ 57) = false) := by
        cases l with
        | nil => left; rw [pos_nil]; simp
        | cons x u =>
          right
          obtain ⟨hi, hg⟩ := (HS.out).getD (k := 0) (by simp)
          simp only [Nat.add_zero, List.getElem_cons_zero] at hi hg
          have h1 := hst x u rfl
          rw [isDig_eq, ← hg] at h1
          cases hx : decide ((48 : Int) ≤ (s[pos s (x :: u)].toNat : Int)) with
          | false => exact .inl ⟨hi, decide_eq_true hi, hx⟩
          | true => rw [hx, Bool.true_and] at h1; exact .inr ⟨hi, decide_eq_true hi, hx, h1⟩
      clear hst
      rcases hcs with j1 | ⟨hi4, j1, j2⟩ | ⟨hi4, j1, j2, j3⟩
      all_goals
        try have j4 : (0 : Int) ≤ (pos s l : Int) := Int.natCast_nonneg _
        try have j5 : (pos s l : Int) < (s.size : Int) := by omega
      all_goals
        have hdl : (pos s l : Int) - (pos s (c :: t) : Int) = (ds.length : Int) := by have e1 := HPE.out; omega
        have hq1 : pos s l ≤ s.size := by have e2 := HPL.out; omega
        have hq2 : pos s (c :: t) ≤ pos s l := by have e2 := HPE.out; omega
        have hcase : (ds = []) ∨ (ds ≠ [] ∧ 18 < ds.length) ∨ (ds ≠ [] ∧ ¬ 18 < ds.length ∧ 1 < ds.length ∧ ds.head? = some 48) ∨ (ds ≠ [] ∧ ¬ 18 < ds.length ∧ ¬ 1 < ds.length) ∨ (ds ≠ [] ∧ ¬ 18 < ds.length ∧ 1 < ds.length ∧ ¬ ds.head? = some 48) := by
          by_cases h1 : ds = []
          · exact .inl h1
          by_cases h2 : 18 < ds.length
          · exact .inr (.inl ⟨h1, h2⟩)
          by_cases h3 : 1 < ds.length
          · by_cases h4 : ds.head? = some 48
            · exact .inr (.inr (.inl ⟨h1, h2, h3, h4⟩))
            · exact .inr (.inr (.inr (.inr ⟨h1, h2, h3, h4⟩)))
          · exact .inr (.inr (.inr (.inl ⟨h1, h2, h3⟩)))
        rcases hcase with hd | ⟨hd, h18⟩ | ⟨hd, h18, h1, h48⟩ | ⟨hd, h18, h1⟩ | ⟨hd, h18, h1, h48⟩
        · have e1 : ((pos s l : Int) - (pos s (c :: t) : Int) == 0) = true := by rw [hdl, hd]; rfl
          have HE : Hid (numb (c :: t) = .bad 3 l.length) := by show _ = _; rw [(HN.out) HD.out HST.out, if_pos hd]
          have hp2 := HPL.out
          clear hd hdl
          go_wp2_with fail
          go_quiet (fail)
          go_wp2_with fail
          refine (wfail_any rb s _ _ 3 _ _ ((HJ.out).drew nq)).mono ?_
          rintro e w2 ⟨rfl, g1, g2⟩
          have G1 := hide g1
          have G2 := hide g2
          clear g1 g2
          go_wp2_with fail
          go_ret
          refine ⟨_, rfl, ?_⟩
          show GvJ _ _ _ _ _ _
          rw [HE.out]
          refine ⟨((HK.out).drew nq).to G2.out, pos s l, by omega, by decide, ?_⟩
          have := G1.out
          rw [show s.size - l.length = pos s l by omega]
          exact this
        · have hlen : 0 < ds.length := List.length_pos_iff.2 hd
          have e1 : ((pos s l : Int) - (pos s (c :: t) : Int) == 0) = false := by simp; omega
          have e2 : decide ((18 : Int) < (pos s l : Int) - (pos s (c :: t) : Int)) = true := by simp; omega
          have HE : Hid (numb (c :: t) = .bad 3 (t.length + 1)) := by show _ = _; rw [(HN.out) HD.out HST.out, if_neg hd, if_pos (.inl h18)]
          have hp2 := HPL.out
          clear hd h18 hdl
          go_wp2_with fail
          go_quiet (fail)
          go_wp2_with fail
          refine (wfail_any rb s _ _ 3 _ _ ((HJ.out).drew nq)).mono ?_
          rintro e w2 ⟨rfl, g1, g2⟩
          have G1 := hide g1
          have G2 := hide g2
          clear g1 g2
          go_wp2_with fail
          go_ret
          refine ⟨_, rfl, ?_⟩
          show GvJ _ _ _ _ _ _
          rw [HE.out]
          exact ⟨((HK.out).drew nq).to G2.out, pos s l, by omega, by decide, G1.out⟩
        · have hlen : 0 < ds.length := by omega
          have e1 : ((pos s l : Int) - (pos s (c :: t) : Int) == 0) = false := by simp; omega
          have e2 : decide ((18 : Int) < (pos s l : Int) - (pos s (c :: t) : Int)) = false := by simp; omega
          have e3 : decide ((1 : Int) < (pos s l : Int) - (pos s (c :: t) : Int)) = true := by simp; omega
          obtain ⟨q1, q2⟩ := digs_first HD.out HLB.out hlen
          have q3 : ((s[pos s (c :: t)].toNat : Int) == 48) = true := by
            rw [q2 48 h48]; rfl
          have q4 : (0 : Int) ≤ (pos s (c :: t) : Int) := Int.natCast_nonneg _
          have q5 : (pos s (c :: t) : Int) < (s.size : Int) := by omega
          have HE : Hid (numb (c :: t) = .bad 3 (t.length + 1)) := by show _ = _; rw [(HN.out) HD.out HST.out, if_neg hd, if_pos (.inr ⟨h1, h48⟩)]
          have hp2 := HPL.out
          clear hd h18 h1 h48 q2 hdl
          go_wp2_with fail
          go_quiet (fail)
          go_wp2_with fail
          refine (wfail_any rb s _ _ 3 _ _ ((HJ.out).drew nq)).mono ?_
          rintro e w2 ⟨rfl, g1, g2⟩
          have G1 := hide g1
          have G2 := hide g2
          clear g1 g2
          go_wp2_with fail
          go_ret
          refine ⟨_, rfl, ?_⟩
          show GvJ _ _ _ _ _ _
          rw [HE.out]
          exact ⟨((HK.out).drew nq).to G2.out, pos s l, by omega, by decide, G1.out⟩
        · have hlen : 0 < ds.length := List.length_pos_iff.2 hd
          have e1 : ((pos s l : Int) - (pos s (c :: t) : Int) == 0) = false := by simp; omega
          have e2 : decide ((18 : Int) < (pos s l : Int) - (pos s (c :: t) : Int)) = false := by simp; omega
          have e3 : decide ((1 : Int) < (pos s l : Int) - (pos s (c :: t) : Int)) = false := by simp; omega
          have HE : Hid (numb (c :: t) = .ok (.mk 2 (n) [] [] []) l) := by show _ = _; rw [(HN.out) HD.out HST.out, if_neg hd, if_neg (by omega)]
          clear hd h18 h1 hdl
          go_wp2_with fail
          go_quiet (fail)
          go_wp2_with fail
          go_ret
          refine ⟨_, rfl, ?_⟩
          show GvJ _ _ _ _ _ _
          rw [HE.out]
          exact GvJ.made ((HK.out).drew nq) HS.out ((HJ.out).drew nq) (by simp)
        · have hlen : 0 < ds.length := by omega
          have e1 : ((pos s l : Int) - (pos s (c :: t) : Int) == 0) = false := by simp; omega
          have e2 : decide ((18 : Int) < (pos s l : Int) - (pos s (c :: t) : Int)) = false := by simp; omega
          have e3 : decide ((1 : Int) < (pos s l : Int) - (pos s (c :: t) : Int)) = true := by simp; omega
          obtain ⟨q1, q2⟩ := digs_first HD.out HLB.out hlen
          have q3 : ((s[pos s (c :: t)].toNat : Int) == 48) = false := by
            simp; intro e; exact h48 (by rw [← q2' HD.out HLB.out hlen (hi := q1)]; congr 1; exact UInt8.toNat_inj.1 (by show _ = 48; omega))
          have q4 : (0 : Int) ≤ (pos s (c :: t) : Int) := Int.natCast_nonneg _
          have q5 : (pos s (c :: t) : Int) < (s.size : Int) := by omega
          have HE : Hid (numb (c :: t) = .ok (.mk 2 (n) [] [] []) l) := by show _ = _; rw [(HN.out) HD.out HST.out, if_neg hd, if_neg (by rintro (h | h); exact h18 h; exact h48 h.2)]
          clear hd h18 h1 h48 q2 hdl
          go_wp2_with fail
          go_quiet (fail)
          go_wp2_with fail
          go_ret
          refine ⟨_, rfl, ?_⟩
          show GvJ _ _ _ _ _ _
          rw [HE.out]
          exact GvJ.made ((HK.out).drew nq) HS.out ((HJ.out).drew nq) (by simp)
    · obtain ⟨x, u, rfl, hx⟩ : ∃ x u, l = x :: u ∧ isDig x = true := by
        cases l with
        | nil => exact absurd (fun _ _ e => by cases e) hst
        | cons x u =>
          refine ⟨x, u, rfl, ?_⟩
          cases hx : isDig x with
          | true => rfl
          | false => exact absurd (fun y v e => by cases e; exact hx) hst
      obtain ⟨hi4, hg⟩ := (HS.out).getD (k := 0) (by simp)
      simp only [Nat.add_zero, List.getElem_cons_zero] at hi4 hg
      have hxe := hx
      rw [isDig_eq, ← hg, Bool.and_eq_true] at hxe
      obtain ⟨j2, j3⟩ := hxe
      have j1 : decide (pos s (x :: u) < s.size) = true := decide_eq_true hi4
      have j4 : (0 : Int) ≤ (pos s (x :: u) : Int) := Int.natCast_nonneg _
      have j5 : (pos s (x :: u) : Int) < (s.size : Int) := by omega
      have hdl : (pos s (x :: u) : Int) - (pos s (c :: t) : Int) = (ds.length : Int) := by have e1 := HPE.out; omega
      have hq2 : pos s (c :: t) ≤ pos s (x :: u) := by have e2 := HPE.out; omega
      have HU := hide (pos_cons HS.out)
      have hb0 := hbd.1
      have hb1 := hbd.2.1
      have hb3 : (s[pos s (x :: u)].toNat : Int) < 256 := by have := s[pos s (x :: u)].toNat_lt; omega
      by_cases hfew : ds.length < 18
      · have j6 : decide ((pos s (x :: u) : Int) - (pos s (c :: t) : Int) < 18) = true := by simp; omega
        have hb2 := hbd.2.2 hfew
        have HD2 := hide ((HD.out).few hx hfew)
        rw [← hg] at HD2
        clear hbd hst hx hg hfew HD hdl
        go_wp2_with fail
        go_quiet (fail)
        go_wp2_with fail
        go_quiet (fail)
        go_wp2_with fail
        have hz : ∀ k : Nat, RawW ((wr.drewN k).setCell ⟨rb, 1, none⟩ (.int .i64 ((pos s (x :: u) : Int) + 1))) rb s (pos s u) 0 0 := fun k => by
          have := ((HJ.out).drew k).set1 ((pos s u : Nat) : Int)
          rw [HU.out, Int.natCast_add] at this
          rw [HU.out, Int.natCast_add]
          exact this
        refine ⟨⟨_, u, _, rfl, HD2, hz _, Ow.set ((HK.out).drew _) 1 _⟩, ?_⟩
        have e1 := HU.out
        rw [hat, (hz _).at]
        omega
      · have j6 : decide ((pos s (x :: u) : Int) - (pos s (c :: t) : Int) < 18) = false := by simp; omega
        have HD2 := hide ((HD.out).many hx hfew)
        clear hbd hst hx hg hfew HD hdl
        go_wp2_with fail
        go_quiet (fail)
        go_wp2_with fail
        have hz : ∀ k : Nat, RawW ((wr.drewN k).setCell ⟨rb, 1, none⟩ (.int .i64 ((pos s (x :: u) : Int) + 1))) rb s (pos s u) 0 0 := fun k => by
          have := ((HJ.out).drew k).set1 ((pos s u : Nat) : Int)
          rw [HU.out, Int.natCast_add] at this
          rw [HU.out, Int.natCast_add]
          exact this
        refine ⟨⟨_, u, _, rfl, HD2, hz _, Ow.set ((HK.out).drew _) 1 _⟩, ?_⟩
        have e1 := HU.out
        rw [hat, (hz _).at]
        omega

set_option maxRecDepth 100000 in
set_option maxHeartbeats 8000000 in
theorem wnumber_yes (rb : Nat) (s : ByteArray) (c : UInt8) (t : List UInt8) (w : World) (hs : s.size ≤ 1073741824) (hl : Sfx s (c :: t)) (h : RawW w rb s (pos s (c :: t)) 0 0) (hc : c = 45) :
    Calls Tryz.prog 19 #[.pointer (some ⟨rb, 0, none⟩)] w fun en w' => ∃ v, en = .returned v ∧ Hid (GvJ w rb s (numb (c :: t)) v w') := by
  have HR := hide h
  have HLB : Hid (Sfx s t) := by first | exact hl | exact hl.tail
  have HPC := hide (pos_cons hl)
  obtain ⟨⟨c0, c1, c2, c3⟩, f1, f2, f3⟩ := h.facts
  obtain ⟨hi, hg⟩ := hl.getD (k := 0) (by simp)
  simp only [Nat.add_zero, List.getElem_cons_zero] at hi hg
  have i2 : (0 : Int) ≤ (pos s (c :: t) : Int) := Int.natCast_nonneg _
  have i3 : (pos s (c :: t) : Int) < (s.size : Int) := by omega
  have b1 : ((s[pos s (c :: t)].toNat : Int) == 45) = true := by rw [hg, hc]; rfl
  have hpt : (pos s (c :: t) : Int) + 1 = (pos s t : Int) := by have := HPC.out; omega
  have HN : Hid (∀ {ds l n}, Digs t ds l n → Stops l → numb (c :: t) = if ds = [] then .bad 3 l.length else if 18 < ds.length ∨ 1 < ds.length ∧ ds.head? = some 48 then .bad 3 (t.length + 1) else .ok (.mk 2 (-n) [] [] []) l) := by
    intro ds l n hd hst
    have := numb_of (c := c) (t := t) (ds := ds) (l := l) (n := n) (by rw [if_pos hc]; exact hd) hst
    rw [if_pos hc] at this
    exact this
  clear h hl hc hg
  go_enter Tryz.func19, Tryz.ntmps19
  go_wp2_with fail
  go_quiet (fail)
  go_wp2_with fail
  have HR1 := hide (((HR.out).drew nq).set1 ((pos s t : Nat) : Int))
  have HK1 := hide (Ow.set (Ow.ofBelow rb (belowN (Below.refl _ w) nq)) 1 (.int .i64 ((pos s t : Nat) : Int)))
  generalize (w.drewN nq).setCell ⟨rb, 1, none⟩ (.int .i64 ((pos s t : Nat) : Int)) = w1 at *
  go_loopw [6] (fun v wr => ∃ (ds l : List UInt8) (n : Int), v = .int .i64 n ∧ Hid (Digs t ds l n) ∧ Hid (RawW wr rb s (pos s l) 0 0) ∧ Hid (Ow rb w wr)) (fun _ wr => s.size - atW rb wr)
  case atStart => exact ⟨[], t, 0, rfl, Digs.start _, HR1, HK1⟩
  case round =>
    obtain ⟨ds, l, n, rfl, HD, HJ, HK⟩ := hrel
    have hat := (HJ.out).at
    have hp := (HD.out).pos HLB.out
    have HS := hide hp.1
    have HPE := hide hp.2
    have HPL := hide hp.1.pos
    have hbd := (HD.out).bound
    clear hp c0 c1 c2 c3 f1 f2 f3 HR1 HK1
    obtain ⟨⟨c0, c1, c2, c3⟩, f1, f2, f3⟩ := (HJ.out).facts
    by_cases hst : Stops l
    · have HST := hide hst
      have hcs : (decide (pos s l < s.size) = false) ∨ (∃ hi : pos s l < s.size, decide (pos s l < s.size) = true ∧ decide ((48 : Int) ≤ (s[pos s l].toNat : Int)) = false) ∨ (∃ hi : pos s l < s.size, decide (pos s l < s.size) = true ∧ decide ((48 : Int) ≤ (s[pos s l].toNat : Int)) = true ∧ decide ((s[pos s l].toNat : Int) ≤ 57) = false) := by
        cases l with
        | nil => left; rw [pos_nil]; simp
        | cons x u =>
          right
          obtain ⟨hi, hg⟩ := (HS.out).getD (k := 0) (by simp)
          simp only [Nat.add_zero, List.getElem_cons_zero] at hi hg
          have h1 := hst x u rfl
          rw [isDig_eq, ← hg] at h1
          cases hx : decide ((48 : Int) ≤ (s[pos s (x :: u)].toNat : Int)) with
          | false => exact .inl ⟨hi, decide_eq_true hi, hx⟩
          | true => rw [hx, Bool.true_and] at h1; exact .inr ⟨hi, decide_eq_true hi, hx, h1⟩
      clear hst
      rcases hcs with j1 | ⟨hi4, j1, j2⟩ | ⟨hi4, j1, j2, j3⟩
      all_goals
        try have j4 : (0 : Int) ≤ (pos s l : Int) := Int.natCast_nonneg _
        try have j5 : (pos s l : Int) < (s.size : Int) := by omega
      all_goals
        have hdl : (pos s l : Int) - (pos s t : Int) = (ds.length : Int) := by have e1 := HPE.out; omega
        have hq1 : pos s l ≤ s.size := by have e2 := HPL.out; omega
        have hq2 : pos s t ≤ pos s l := by have e2 := HPE.out; omega
        have hcase : (ds = []) ∨ (ds ≠ [] ∧ 18 < ds.length) ∨ (ds ≠ [] ∧ ¬ 18 < ds.length ∧ 1 < ds.length ∧ ds.head? = some 48) ∨ (ds ≠ [] ∧ ¬ 18 < ds.length ∧ ¬ 1 < ds.length) ∨ (ds ≠ [] ∧ ¬ 18 < ds.length ∧ 1 < ds.length ∧ ¬ ds.head? = some 48) := by
          by_cases h1 : ds = []
          · exact .inl h1
          by_cases h2 : 18 < ds.length
          · exact .inr (.inl ⟨h1, h2⟩)
          by_cases h3 : 1 < ds.length
          · by_cases h4 : ds.head? = some 48
            · exact .inr (.inr (.inl ⟨h1, h2, h3, h4⟩))
            · exact .inr (.inr (.inr (.inr ⟨h1, h2, h3, h4⟩)))
          · exact .inr (.inr (.inr (.inl ⟨h1, h2, h3⟩)))
        rcases hcase with hd | ⟨hd, h18⟩ | ⟨hd, h18, h1, h48⟩ | ⟨hd, h18, h1⟩ | ⟨hd, h18, h1, h48⟩
        · have e1 : ((pos s l : Int) - (pos s t : Int) == 0) = true := by rw [hdl, hd]; rfl
          have HE : Hid (numb (c :: t) = .bad 3 l.length) := by show _ = _; rw [(HN.out) HD.out HST.out, if_pos hd]
          have hp2 := HPL.out
          clear hd hdl
          go_wp2_with fail
          go_quiet (fail)
          go_wp2_with fail
          refine (wfail_any rb s _ _ 3 _ _ ((HJ.out).drew nq)).mono ?_
          rintro e w2 ⟨rfl, g1, g2⟩
          have G1 := hide g1
          have G2 := hide g2
          clear g1 g2
          go_wp2_with fail
          go_ret
          refine ⟨_, rfl, ?_⟩
          show GvJ _ _ _ _ _ _
          rw [HE.out]
          refine ⟨((HK.out).drew nq).to G2.out, pos s l, by omega, by decide, ?_⟩
          have := G1.out
          rw [show s.size - l.length = pos s l by omega]
          exact this
        · have hlen : 0 < ds.length := List.length_pos_iff.2 hd
          have e1 : ((pos s l : Int) - (pos s t : Int) == 0) = false := by simp; omega
          have e2 : decide ((18 : Int) < (pos s l : Int) - (pos s t : Int)) = true := by simp; omega
          have HE : Hid (numb (c :: t) = .bad 3 (t.length + 1)) := by show _ = _; rw [(HN.out) HD.out HST.out, if_neg hd, if_pos (.inl h18)]
          have hp2 := HPL.out
          clear hd h18 hdl
          go_wp2_with fail
          go_quiet (fail)
          go_wp2_with fail
          refine (wfail_any rb s _ _ 3 _ _ ((HJ.out).drew nq)).mono ?_
          rintro e w2 ⟨rfl, g1, g2⟩
          have G1 := hide g1
          have G2 := hide g2
          clear g1 g2
          go_wp2_with fail
          go_ret
          refine ⟨_, rfl, ?_⟩
          show GvJ _ _ _ _ _ _
          rw [HE.out]
          exact ⟨((HK.out).drew nq).to G2.out, pos s l, by omega, by decide, G1.out⟩
        · have hlen : 0 < ds.length := by omega
          have e1 : ((pos s l : Int) - (pos s t : Int) == 0) = false := by simp; omega
          have e2 : decide ((18 : Int) < (pos s l : Int) - (pos s t : Int)) = false := by simp; omega
          have e3 : decide ((1 : Int) < (pos s l : Int) - (pos s t : Int)) = true := by simp; omega
          obtain ⟨q1, q2⟩ := digs_first HD.out HLB.out hlen
          have q3 : ((s[pos s t].toNat : Int) == 48) = true := by
            rw [q2 48 h48]; rfl
          have q4 : (0 : Int) ≤ (pos s t : Int) := Int.natCast_nonneg _
          have q5 : (pos s t : Int) < (s.size : Int) := by omega
          have HE : Hid (numb (c :: t) = .bad 3 (t.length + 1)) := by show _ = _; rw [(HN.out) HD.out HST.out, if_neg hd, if_pos (.inr ⟨h1, h48⟩)]
          have hp2 := HPL.out
          clear hd h18 h1 h48 q2 hdl
          go_wp2_with fail
          go_quiet (fail)
          go_wp2_with fail
          refine (wfail_any rb s _ _ 3 _ _ ((HJ.out).drew nq)).mono ?_
          rintro e w2 ⟨rfl, g1, g2⟩
          have G1 := hide g1
          have G2 := hide g2
          clear g1 g2
          go_wp2_with fail
          go_ret
          refine ⟨_, rfl, ?_⟩
          show GvJ _ _ _ _ _ _
          rw [HE.out]
          exact ⟨((HK.out).drew nq).to G2.out, pos s l, by omega, by decide, G1.out⟩
        · have hlen : 0 < ds.length := List.length_pos_iff.2 hd
          have e1 : ((pos s l : Int) - (pos s t : Int) == 0) = false := by simp; omega
          have e2 : decide ((18 : Int) < (pos s l : Int) - (pos s t : Int)) = false := by simp; omega
          have e3 : decide ((1 : Int) < (pos s l : Int) - (pos s t : Int)) = false := by simp; omega
          have HE : Hid (numb (c :: t) = .ok (.mk 2 (-n) [] [] []) l) := by show _ = _; rw [(HN.out) HD.out HST.out, if_neg hd, if_neg (by omega)]
          clear hd h18 h1 hdl
          go_wp2_with fail
          go_quiet (fail)
          go_wp2_with fail
          go_ret
          refine ⟨_, rfl, ?_⟩
          show GvJ _ _ _ _ _ _
          rw [HE.out]
          exact GvJ.made ((HK.out).drew nq) HS.out ((HJ.out).drew nq) (by simp)
        · have hlen : 0 < ds.length := by omega
          have e1 : ((pos s l : Int) - (pos s t : Int) == 0) = false := by simp; omega
          have e2 : decide ((18 : Int) < (pos s l : Int) - (pos s t : Int)) = false := by simp; omega
          have e3 : decide ((1 : Int) < (pos s l : Int) - (pos s t : Int)) = true := by simp; omega
          obtain ⟨q1, q2⟩ := digs_first HD.out HLB.out hlen
          have q3 : ((s[pos s t].toNat : Int) == 48) = false := by
            simp; intro e; exact h48 (by rw [← q2' HD.out HLB.out hlen (hi := q1)]; congr 1; exact UInt8.toNat_inj.1 (by show _ = 48; omega))
          have q4 : (0 : Int) ≤ (pos s t : Int) := Int.natCast_nonneg _
          have q5 : (pos s t : Int) < (s.size : Int) := by omega
          have HE : Hid (numb (c :: t) = .ok (.mk 2 (-n) [] [] []) l) := by show _ = _; rw [(HN.out) HD.out HST.out, if_neg hd, if_neg (by rintro (h | h); exact h18 h; exact h48 h.2)]
          clear hd h18 h1 h48 q2 hdl
          go_wp2_with fail
          go_quiet (fail)
          go_wp2_with fail
          go_ret
          refine ⟨_, rfl, ?_⟩
          show GvJ _ _ _ _ _ _
          rw [HE.out]
          exact GvJ.made ((HK.out).drew nq) HS.out ((HJ.out).drew nq) (by simp)
    · obtain ⟨x, u, rfl, hx⟩ : ∃ x u, l = x :: u ∧ isDig x = true := by
        cases l with
        | nil => exact absurd (fun _ _ e => by cases e) hst
        | cons x u =>
          refine ⟨x, u, rfl, ?_⟩
          cases hx : isDig x with
          | true => rfl
          | false => exact absurd (fun y v e => by cases e; exact hx) hst
      obtain ⟨hi4, hg⟩ := (HS.out).getD (k := 0) (by simp)
      simp only [Nat.add_zero, List.getElem_cons_zero] at hi4 hg
      have hxe := hx
      rw [isDig_eq, ← hg, Bool.and_eq_true] at hxe
      obtain ⟨j2, j3⟩ := hxe
      have j1 : decide (pos s (x :: u) < s.size) = true := decide_eq_true hi4
      have j4 : (0 : Int) ≤ (pos s (x :: u) : Int) := Int.natCast_nonneg _
      have j5 : (pos s (x :: u) : Int) < (s.size : Int) := by omega
      have hdl : (pos s (x :: u) : Int) - (pos s t : Int) = (ds.length : Int) := by have e1 := HPE.out; omega
      have hq2 : pos s t ≤ pos s (x :: u) := by have e2 := HPE.out; omega
      have HU := hide (pos_cons HS.out)
      have hb0 := hbd.1
      have hb1 := hbd.2.1
      have hb3 : (s[pos s (x :: u)].toNat : Int) < 256 := by have := s[pos s (x :: u)].toNat_lt; omega
      by_cases hfew : ds.length < 18
      · have j6 : decide ((pos s (x :: u) : Int) - (pos s t : Int) < 18) = true := by simp; omega
        have hb2 := hbd.2.2 hfew
        have HD2 := hide ((HD.out).few hx hfew)
        rw [← hg] at HD2
        clear hbd hst hx hg hfew HD hdl
        go_wp2_with fail
        go_quiet (fail)
        go_wp2_with fail
        go_quiet (fail)
        go_wp2_with fail
        have hz : ∀ k : Nat, RawW ((wr.drewN k).setCell ⟨rb, 1, none⟩ (.int .i64 ((pos s (x :: u) : Int) + 1))) rb s (pos s u) 0 0 := fun k => by
          have := ((HJ.out).drew k).set1 ((pos s u : Nat) : Int)
          rw [HU.out, Int.natCast_add] at this
          rw [HU.out, Int.natCast_add]
          exact this
        refine ⟨⟨_, u, _, rfl, HD2, hz _, Ow.set ((HK.out).drew _) 1 _⟩, ?_⟩
        have e1 := HU.out
        rw [hat, (hz _).at]
        omega
      · have j6 : decide ((pos s (x :: u) : Int) - (pos s t : Int) < 18) = false := by simp; omega
        have HD2 := hide ((HD.out).many hx hfew)
        clear hbd hst hx hg hfew HD hdl
        go_wp2_with fail
        go_quiet (fail)
        go_wp2_with fail
        have hz : ∀ k : Nat, RawW ((wr.drewN k).setCell ⟨rb, 1, none⟩ (.int .i64 ((pos s (x :: u) : Int) + 1))) rb s (pos s u) 0 0 := fun k => by
          have := ((HJ.out).drew k).set1 ((pos s u : Nat) : Int)
          rw [HU.out, Int.natCast_add] at this
          rw [HU.out, Int.natCast_add]
          exact this
        refine ⟨⟨_, u, _, rfl, HD2, hz _, Ow.set ((HK.out).drew _) 1 _⟩, ?_⟩
        have e1 := HU.out
        rw [hat, (hz _).at]
        omega
end Go.Proofs.YthdbnafiindgbaaGreatDoor
