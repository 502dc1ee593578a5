/- The document's reader of messages: any value. -/
import Derived.Test.YthdbnafiindgbaaGreatDoorWkr
import Derived.Test.YthdbnafiindgbaaGreatDoorWke
namespace Go.Proofs.YthdbnafiindgbaaGreatDoor
open Go.RowKit
open Wi

theorem GvJ.from {w w8 w9 : World} {rb : Nat} {s : ByteArray} {r : Res J} {v : Value} (h : Ow rb w w8) (g : GvJ w8 rb s r v w9) : GvJ w rb s r v w9 := by
  refine ⟨h.to g.1, ?_⟩
  cases r with
  | bad e n => exact g.2
  | ok j l =>
    obtain ⟨g1, g2, g3⟩ := g.2
    exact ⟨g1, g2, g3.mono (fun q hq => ⟨Nat.le_trans h.size hq.1, hq.2⟩)⟩
theorem c_eq {c k : UInt8} {n : Int} (hn : (k.toNat : Int) = n) : ((c.toNat : Int) == n) = decide (c = k) := by
  rw [Bool.eq_iff_iff, ← hn]; simp
  exact ⟨fun e => UInt8.toNat_inj.1 (by omega), fun e => by rw [e]⟩

set_option maxRecDepth 100000 in
set_option maxHeartbeats 2000000 in
theorem wvalue_W (d : Nat) (hd : d ≤ 40) (m : Bool → List UInt8 → Res J) (hval : ∀ l, val d l = valW m l) (hv : d = 0 → ∀ b t, m b t = .bad 12 (t.length + 1))
    (hm : ∀ e, d = e + 1 → ValC e ∧ ∀ b t, m b t = manyW (val e) b t) : ValC d := by
  intro rb s l w hs hl h
  have HM := hide hm
  have HV0 := hide hv
  have HR := hide h
  have HL := hide hl
  rw [hval]
  clear hm hv h hl hval
  have HC : Hid (valW m l = match bla l with
    | [] => .bad 3 0
    | c :: t =>
      if c = 110 then word sNull 0 0 (c :: t)
      else if c = 116 then word sTrue 1 1 (c :: t)
      else if c = 102 then word sFalse 1 0 (c :: t)
      else if c = 45 ∨ isDig c = true then numb (c :: t)
      else if c = 34 then match txt [] t with
        | .bad e n => .bad e n
        | .ok s r => .ok (.mk 3 0 s [] []) r
      else if c = 91 ∨ c = 123 then m (c == 123) t
      else .bad 3 (t.length + 1)) := rfl
  generalize valW m l = R at *
  go_enter Tryz.func9, Tryz.ntmps9
  go_wp2_with fail
  refine (wblank_any rb s l w hs HL.out HR.out).mono ?_
  rintro e w1 ⟨rfl, g1, g2⟩
  have HR1 := hide g1
  have HO1 := hide g2
  have HL1 := hide ((HL.out).mono (bla_sfx l))
  generalize bla l = l1 at *
  clear g1 g2 HR HL
  obtain ⟨⟨c0, c1, c2, c3⟩, f1, f2, f3⟩ := (HR1.out).facts
  have HFAIL : Hid (∀ (e : Nat) (i : Nat) w8 w9, e ≠ 0 → R = .bad e (s.size - i) → i ≤ s.size → Ow rb w1 w8 → RawW w9 rb s i e i → Ow rb w8 w9 → GvJ w rb s R (.pointer none) w9) := by
    intro e i w8 w9 he hr hi q1 q2 q3
    rw [hr]
    refine GvJ.bad ((HO1.out).to q1) q3 (i := i) (by omega) he ?_
    have : ((s.size - (s.size - i) : Nat) : Int) = i := by omega
    rw [this]; exact q2
  cases l1 with
  | nil =>
    have i1 : decide (s.size ≤ pos s []) = true := by rw [pos_nil]; simp
    have HRn := hide (fun n => (HR1.out).drew n)
    have HOn : Hid (∀ n, Ow rb w1 (w1.drewN n)) := fun n => Ow.drew (Kp.refl _ w1) n
    have HE : Hid (R = .bad 3 (s.size - pos s [])) := by show _ = _; rw [HC.out, pos_nil, Nat.sub_self]
    clear HC HR1
    go_wp2_with fail
    go_quiet (fail)
    go_wp2_with fail
    refine (wfail_any rb s _ _ 3 _ _ ((HRn.out) nq)).mono ?_
    rintro e w9 ⟨rfl, q1, q2⟩
    have HFF := hide ((HFAIL.out) 3 (pos s []) _ w9 (by decide) HE.out (by rw [pos_nil]; omega) ((HOn.out) nq) q1 q2)
    clear HFAIL q1 q2
    go_wp2_with fail
    go_ret
    exact ⟨_, rfl, HFF⟩
  | cons c t =>
  obtain ⟨hi, hg⟩ := (HL1.out).getD (k := 0) (by simp)
  simp only [Nat.add_zero, List.getElem_cons_zero] at hi hg
  have hpx := (HL1.out).pos
  have i1 : decide (s.size ≤ pos s (c :: t)) = false := by simp; omega
  have i2 : (0 : Int) ≤ (pos s (c :: t) : Int) := Int.natCast_nonneg _
  have i3 : (pos s (c :: t) : Int) < (s.size : Int) := by omega
  go_wp2_with fail
  go_quiet (fail)
  go_wp2_with fail
  revert nq
  intro n1
  go_quiet (fail)
  have HR8 := hide (((HR1.out).drew n1).drew nq)
  have HO8 := hide (Ow.drew (Ow.drew (Kp.refl (fun q => q = rb) w1) n1) nq)
  generalize (w1.drewN n1).drewN nq = w8 at *
  have HOW := hide ((HO1.out).to HO8.out)
  clear c0 c1 c2 c3 f1 f2 f3 HR1 hg
  have e110 := c_eq (c := c) (k := 110) (n := 110) rfl
  by_cases h110 : c = 110
  · rw [decide_eq_true h110] at e110
    have HE : Hid (R = word sNull 0 0 (c :: t)) := by show _ = _; rw [HC.out, if_pos h110]
    clear HC HFAIL
    go_wp2_with fail
    refine (wword_any rb s (c :: t) _ 0 0 w8 hs (by decide) HL1.out HR8.out).mono ?_
    rintro e w9 ⟨v, rfl, HG⟩
    have HF : Hid (GvJ w rb s R v w9) := by rw [HE.out]; exact GvJ.from HOW.out HG.out
    clear HG HE
    go_wp2_with fail
    go_ret
    exact ⟨_, rfl, HF⟩
  rw [decide_eq_false h110] at e110
  have e116 := c_eq (c := c) (k := 116) (n := 116) rfl
  by_cases h116 : c = 116
  · rw [decide_eq_true h116] at e116
    have HE : Hid (R = word sTrue 1 1 (c :: t)) := by show _ = _; rw [HC.out, if_neg h110, if_pos h116]
    clear HC HFAIL
    go_wp2_with fail
    refine (wword_any rb s (c :: t) _ 1 1 w8 hs (by decide) HL1.out HR8.out).mono ?_
    rintro e w9 ⟨v, rfl, HG⟩
    have HF : Hid (GvJ w rb s R v w9) := by rw [HE.out]; exact GvJ.from HOW.out HG.out
    clear HG HE
    go_wp2_with fail
    go_ret
    exact ⟨_, rfl, HF⟩
  rw [decide_eq_false h116] at e116
  have e102 := c_eq (c := c) (k := 102) (n := 102) rfl
  by_cases h102 : c = 102
  · rw [decide_eq_true h102] at e102
    have HE : Hid (R = word sFalse 1 0 (c :: t)) := by show _ = _; rw [HC.out, if_neg h110, if_neg h116, if_pos h102]
    clear HC HFAIL
    go_wp2_with fail
    refine (wword_any rb s (c :: t) _ 1 0 w8 hs (by decide) HL1.out HR8.out).mono ?_
    rintro e w9 ⟨v, rfl, HG⟩
    have HF : Hid (GvJ w rb s R v w9) := by rw [HE.out]; exact GvJ.from HOW.out HG.out
    clear HG HE
    go_wp2_with fail
    go_ret
    exact ⟨_, rfl, HF⟩
  rw [decide_eq_false h102] at e102
  have e45 := c_eq (c := c) (k := 45) (n := 45) rfl
  have hdig := isDig_eq c
  by_cases h45 : c = 45
  · rw [decide_eq_true h45] at e45
    have HE : Hid (R = numb (c :: t)) := by show _ = _; rw [HC.out, if_neg h110, if_neg h116, if_neg h102, if_pos (.inl h45)]
    clear HC HFAIL hdig
    go_wp2_with fail
    refine (wnumber_yes rb s c t w8 hs HL1.out HR8.out h45).mono ?_
    rintro e w9 ⟨v, rfl, HG⟩
    have HF : Hid (GvJ w rb s R v w9) := by rw [HE.out]; exact GvJ.from HOW.out HG.out
    clear HG HE
    go_wp2_with fail
    go_ret
    exact ⟨_, rfl, HF⟩
  rw [decide_eq_false h45] at e45
  by_cases hdg : isDig c = true
  · rw [hdg] at hdig
    have hd2 : decide ((48 : Int) ≤ (c.toNat : Int)) = true ∧ decide ((c.toNat : Int) ≤ 57) = true := by
      have := hdig.symm; rwa [Bool.and_eq_true] at this
    obtain ⟨q1, q2⟩ := hd2
    have HE : Hid (R = numb (c :: t)) := by show _ = _; rw [HC.out, if_neg h110, if_neg h116, if_neg h102, if_pos (.inr hdg)]
    clear HC HFAIL hdig
    go_wp2_with fail
    refine (wnumber_no rb s c t w8 hs HL1.out HR8.out h45).mono ?_
    rintro e w9 ⟨v, rfl, HG⟩
    have HF : Hid (GvJ w rb s R v w9) := by rw [HE.out]; exact GvJ.from HOW.out HG.out
    clear HG HE
    go_wp2_with fail
    go_ret
    exact ⟨_, rfl, HF⟩
  have hd3 : (decide ((48 : Int) ≤ (c.toNat : Int)) = false) ∨ (decide ((48 : Int) ≤ (c.toNat : Int)) = true ∧ decide ((c.toNat : Int) ≤ 57) = false) := by
    rw [Bool.not_eq_true] at hdg
    rw [hdg] at hdig
    revert hdig
    cases decide ((48 : Int) ≤ (c.toNat : Int)) <;> cases decide ((c.toNat : Int) ≤ 57) <;> simp
  clear hdig
  have e34 := c_eq (c := c) (k := 34) (n := 34) rfl
  have hnd : ¬ (c = 45 ∨ isDig c = true) := fun h => h.elim h45 hdg
  by_cases h34 : c = 34
  · rw [decide_eq_true h34] at e34
    have HE : Hid (R = match txt [] t with
        | .bad e n => .bad e n
        | .ok s r => .ok (.mk 3 0 s [] []) r) := by show _ = _; rw [HC.out, if_neg h110, if_neg h116, if_neg h102, if_neg hnd, if_pos h34]
    have j4 : decide ((48 : Int) ≤ (c.toNat : Int)) = false := by rw [h34]; decide
    clear HC HFAIL hd3
    go_wp2_with fail
    refine (wtext_any rb s c t w8 hs HL1.out HR8.out).mono ?_
    rintro e w9 ⟨v, rfl, HG⟩
    have HF : Hid (∃ T : ByteArray, v = .string T ∧ GvJ w rb s R (.pointer (some ⟨w9.heap.size, 0, none⟩)) (w9.alloc (.cells #[.int .i64 3, .int .i64 0, .string T, .slice none 0 0, .slice none 0 0] 36))) := by
      have g1 := (HG.out).1
      have g2 := (HG.out).2
      have hE := HE.out
      cases htx : txt [] t with
      | bad e n =>
        rw [htx] at hE g2
        obtain ⟨rfl, i, hi, he, hr⟩ := g2
        refine ⟨_, rfl, ?_⟩
        rw [hE]
        exact GvJ.bad ((HOW.out).to g1) (Ow.ofBelow rb ((Below.refl _ w9).alloc (Nat.le_refl _) _)) hi he (hr.alloc _)
      | ok x r =>
        rw [htx] at hE g2
        obtain ⟨rfl, hsr, hr⟩ := g2
        refine ⟨_, rfl, ?_⟩
        rw [hE]
        exact GvJ.made ((HOW.out).to g1) hsr hr rfl
    obtain ⟨T, rfl, hF⟩ := HF.out
    have HFF := hide hF
    clear HG HE HF hF
    go_wp2_with fail
    go_ret
    exact ⟨_, rfl, HFF⟩
  rw [decide_eq_false h34] at e34
  have e91 := c_eq (c := c) (k := 91) (n := 91) rfl
  have e123 := c_eq (c := c) (k := 123) (n := 123) rfl
  have hall : R = if c = 91 ∨ c = 123 then m (c == 123) t else .bad 3 (t.length + 1) := by rw [HC.out, if_neg h110, if_neg h116, if_neg h102, if_neg hnd, if_neg h34]
  have HALL := hide hall
  clear HC hall
  by_cases h91 : c = 91
  · rw [decide_eq_true h91] at e91
    have HE : Hid (R = m false t) := by show _ = _; rw [HALL.out, if_pos (.inl h91), h91]; rfl
    clear HALL
    subst h91
    clear e110 e116 e102 e45 e34 e91 e123 h110 h116 h102 h45 hdg hnd h34
    cases d with
    | zero =>
      have HEE : Hid (R = .bad 12 (s.size - pos s (91 :: t))) := by
        show _ = _; rw [HE.out, (HV0.out) rfl]; congr 1; simp at hpx; omega
      obtain ⟨⟨c0, c1, c2, c3⟩, f1, f2, f3⟩ := (HR8.out).facts
      have hpp : pos s (91 :: t) ≤ s.size := by omega
      clear HE
      rcases hd3 with q1 | ⟨q1, q2⟩
      all_goals
        go_wp2_with fail
        refine (wfail_any rb s _ _ 12 _ w8 HR8.out).mono ?_
        rintro e w9 ⟨rfl, q1, q2⟩
        have HFF := hide ((HFAIL.out) 12 (pos s (91 :: t)) w8 w9 (by decide) HEE.out hpp HO8.out q1 q2)
        clear q1 q2
        go_wp2_with fail
        go_ret
        exact ⟨_, rfl, HFF⟩
    | succ e =>
      obtain ⟨hvc, hmm⟩ := (HM.out) e rfl
      have HEE : Hid (R = manyW (val e) false t) := by show _ = _; rw [HE.out, hmm]
      have HVC := hide hvc
      have d1 : ((40 - ((e + 1 : Nat) : Int)) == 40) = false := by simp; omega
      have d2 : (40 - ((e + 1 : Nat) : Int)) = 39 - (e : Int) := by omega
      rw [d2] at d1 ⊢
      clear HE HFAIL hvc hmm d2
      rcases hd3 with q1 | ⟨q1, q2⟩
      all_goals
        go_wp2_with fail
        refine (wmany_list e (by omega) HVC.out rb s t w8 hs HL1.out HR8.out).mono ?_
        rintro e' w9 ⟨v, rfl, HG⟩
        have HF : Hid (GvJ w rb s R v w9) := by rw [HEE.out]; exact GvJ.from HOW.out HG.out
        clear HG
        go_wp2_with fail
        go_ret
        exact ⟨_, rfl, HF⟩
  rw [decide_eq_false h91] at e91
  by_cases h123 : c = 123
  · rw [decide_eq_true h123] at e123
    have HE : Hid (R = m true t) := by show _ = _; rw [HALL.out, if_pos (.inr h123), h123]; rfl
    clear HALL
    subst h123
    clear e110 e116 e102 e45 e34 e91 e123 h110 h116 h102 h45 hdg hnd h34 h91
    cases d with
    | zero =>
      have HEE : Hid (R = .bad 12 (s.size - pos s (123 :: t))) := by
        show _ = _; rw [HE.out, (HV0.out) rfl]; congr 1; simp at hpx; omega
      obtain ⟨⟨c0, c1, c2, c3⟩, f1, f2, f3⟩ := (HR8.out).facts
      have hpp : pos s (123 :: t) ≤ s.size := by omega
      clear HE
      rcases hd3 with q1 | ⟨q1, q2⟩
      all_goals
        go_wp2_with fail
        refine (wfail_any rb s _ _ 12 _ w8 HR8.out).mono ?_
        rintro e w9 ⟨rfl, q1, q2⟩
        have HFF := hide ((HFAIL.out) 12 (pos s (123 :: t)) w8 w9 (by decide) HEE.out hpp HO8.out q1 q2)
        clear q1 q2
        go_wp2_with fail
        go_ret
        exact ⟨_, rfl, HFF⟩
    | succ e =>
      obtain ⟨hvc, hmm⟩ := (HM.out) e rfl
      have HEE : Hid (R = manyW (val e) true t) := by show _ = _; rw [HE.out, hmm]
      have HVC := hide hvc
      have d1 : ((40 - ((e + 1 : Nat) : Int)) == 40) = false := by simp; omega
      have d2 : (40 - ((e + 1 : Nat) : Int)) = 39 - (e : Int) := by omega
      rw [d2] at d1 ⊢
      clear HE HFAIL hvc hmm d2
      rcases hd3 with q1 | ⟨q1, q2⟩
      all_goals
        go_wp2_with fail
        refine (wmany_map e (by omega) HVC.out rb s t w8 hs HL1.out HR8.out).mono ?_
        rintro e' w9 ⟨v, rfl, HG⟩
        have HF : Hid (GvJ w rb s R v w9) := by rw [HEE.out]; exact GvJ.from HOW.out HG.out
        clear HG
        go_wp2_with fail
        go_ret
        exact ⟨_, rfl, HF⟩
  rw [decide_eq_false h123] at e123
  have HEE : Hid (R = .bad 3 (s.size - pos s (c :: t))) := by
    show _ = _; rw [HALL.out, if_neg (fun h => h.elim h91 h123)]; congr 1; simp at hpx; omega
  obtain ⟨⟨c0, c1, c2, c3⟩, f1, f2, f3⟩ := (HR8.out).facts
  have hpp : pos s (c :: t) ≤ s.size := by omega
  clear HALL
  rcases hd3 with q1 | ⟨q1, q2⟩
  all_goals
    go_wp2_with fail
    refine (wfail_any rb s _ _ 3 _ w8 HR8.out).mono ?_
    rintro e w9 ⟨rfl, q1, q2⟩
    have HFF := hide ((HFAIL.out) 3 (pos s (c :: t)) w8 w9 (by decide) HEE.out hpp HO8.out q1 q2)
    clear q1 q2
    go_wp2_with fail
    go_ret
    exact ⟨_, rfl, HFF⟩

theorem wvalue_any (d : Nat) (hd : d ≤ 40) : ValC d := by
  induction d with
  | zero => exact wvalue_W 0 hd (fun _ t => .bad 12 (t.length + 1)) (fun _ => rfl) (fun _ _ _ => rfl) (fun e h => by omega)
  | succ d ih => exact wvalue_W (d + 1) hd (manyW (val d)) (fun _ => rfl) (fun h => by omega) (fun e h => by
    obtain rfl : d = e := (by omega)
    exact ⟨ih (by omega), fun _ _ => rfl⟩)
end Go.Proofs.YthdbnafiindgbaaGreatDoor
