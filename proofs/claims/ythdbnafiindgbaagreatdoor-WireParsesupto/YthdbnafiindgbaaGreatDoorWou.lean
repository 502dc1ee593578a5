/- The program's reader of messages: a value, whatever its kind. (written by wip/tools/wire_gen/genou.py) -/
import Derived.Test.YthdbnafiindgbaaGreatDoorWot
namespace Go.Proofs.YthdbnafiindgbaaGreatDoor
open Go.RowKit
open Wi

theorem numb_shape {l : List UInt8} {j : J} {r : List UInt8} (h : numb l = .ok j r) : ∃ n, j = .mk 2 n [] [] [] := by
  unfold numb at h
  simp only at h
  generalize (if l.head? = some 45 then l.tail else l) = b at h
  split at h
  · cases h
  split at h
  · cases h
  · cases h; exact ⟨_, rfl⟩
theorem IsX.rows {w : World} {A : Nat → Prop} {a b c kv rv : Value} {j : J} (h : IsX w A (.agg #[a, b, c, kv, rv]) j) : (∃ x y z, kv = .slice x y z) ∧ ∃ x y z, rv = .slice x y z := by
  cases h with
  | mk k n t ks kids ao bo cap bcap f hc hd hk hr hp => exact ⟨⟨_, _, _, rfl⟩, ⟨_, _, _, rfl⟩⟩
theorem ne_of_toNat {c : UInt8} {k : Nat} (h : ¬ c.toNat = k) : ((c.toNat : Int) == (k : Int)) = false := by rw [beq_eq_false_iff_ne]; omega
set_option maxRecDepth 100000 in
set_option maxHeartbeats 4000000 in
theorem oval_num (d : Nat) (sb : Nat) (s : ByteArray) (l : List UInt8) (c : UInt8) (t : List UInt8) (w : World) (hs : s.size ≤ 1073741824) (hl : Sfx s l) (h : RawS w sb s (pos s l) (40 - (d : Int))) (hE : Es w) (hne : sb ≠ 1) (hb : bla l = c :: t) (hc : c = 45 ∨ isDig c = true) :
    Calls Tryz.prog 15 #[.pointer (some ⟨sb, 0, none⟩)] w fun en w' => OkV w sb s (40 - (d : Int)) (val d l) en w' := by
  generalize 40 - (d : Int) = dd at *
  have hal := (Below.refl _ w).alloc (Nat.le_refl _) (.cells #[.int .i64 0, .int .i64 0, .string ⟨#[]⟩, .slice none 0 0, .slice none 0 0] 25)
  have HQ0 : Hid (QV w sb s dd w.heap.size l (.int .i64 0) (.int .i64 0) (.string ⟨#[]⟩) (.slice none 0 0) (.slice none 0 0) (w.alloc (.cells #[.int .i64 0, .int .i64 0, .string ⟨#[]⟩, .slice none 0 0, .slice none 0 0] 25))) := ⟨h.below hal, heap_alloc_new w _, Ow.ofBelow sb hal, hE.below hal, rfl, h.lt, hE.lt, hne⟩
  have HB := hide (oblanks_any sb s l _ _ hs hl (HQ0.out).src)
  have HL1 := hide (hl.mono (bla_sfx l))
  have hps := (HL1.out).pos
  clear h hE hl hal hne
  have hc2 : c.toNat = 45 ∨ 48 ≤ c.toNat ∧ c.toNat ≤ 57 := by
    rcases hc with e | e
    · left; rw [e]; rfl
    · right; simpa [isDig] using e
  have HD : Hid (val d l = numb (c :: t)) := by
    show _ = _
    rw [val_brk, valW, hb]
    simp only
    rw [if_neg (fun e => by rw [e] at hc2; exact absurd hc2 (by decide)), if_neg (fun e => by rw [e] at hc2; exact absurd hc2 (by decide)), if_neg (fun e => by rw [e] at hc2; exact absurd hc2 (by decide)), if_pos hc]
  rw [hb] at HB HL1 hps
  clear hb
  have n1 : ((c.toNat : Int) == 110) = false := ne_of_toNat (k := 110) (by omega)
  have n2 : ((c.toNat : Int) == 102) = false := ne_of_toNat (k := 102) (by omega)
  have n3 : ((c.toNat : Int) == 116) = false := ne_of_toNat (k := 116) (by omega)
  have HI := hide (isDigit_any c)
  have hcc : ((c.toNat : Int) == 45) = true ∨ ((c.toNat : Int) == 45) = false ∧ isDig c = true := by
    rcases hc with e | e
    · left; rw [e]; rfl
    · right; exact ⟨ne_of_toNat (k := 45) (by simp [isDig] at e; omega), e⟩
  clear hc2 hc
  go_enter Tryz.func15, Tryz.ntmps15
  go_wp2_with fail
  refine (HB.out).mono ?_
  rintro en w1 ⟨rfl, r1, k1⟩
  have HQ1 := hide ((HQ0.out).on k1 r1)
  clear r1 k1 HB HQ0
  generalize hVV : w.heap.size = V at *
  have HN := hide (onext_any sb s _ _ w1 HL1.out (HQ1.out).src)
  have hh : hdB (c :: t) = c.toNat := rfl
  rw [hh] at HN
  clear hh
  go_wp2_with fail
  refine (HN.out).mono ?_
  rintro en w2 ⟨rfl, m, rfl⟩
  have HQ2 := hide ((HQ1.out).on (Ow.ofBelow sb (belowN (Below.refl _ w1) m)) (((HQ1.out).src).drew m))
  clear HN HQ1
  generalize w1.drewN m = w2 at *
  obtain ⟨a0, a1, a2, a3, a4, a5⟩ := (HQ2.out).vb.cells
  have hV2 : V < w2.heap.size := heap_lt (HQ2.out).vb
  have HNB := hide (onumber_any sb s c t dd w2 hs HL1.out (HQ2.out).src)
  generalize (c.toNat : Int) = ci at *
  rcases hcc with n4 | ⟨n4, n5⟩
  all_goals
    try rw [n5] at HI
    first
      | (go_wp2_with fail
         refine ((HI.out) _).mono ?_
         rintro en w3 ⟨rfl, rfl⟩
         go_wp2_with fail)
      | go_wp2_with fail
    refine (HNB.out).mono ?_
    clear HNB HI
    cases hnb : numb (c :: t) with
    | bad e n =>
      rw [hnb] at HD
      rintro en w4 ⟨k4, rfl⟩
      have HF : Hid (OkV w sb s dd (val d l) (flt (s.size - n : Nat) e) w4) := by
        show OkV _ _ _ _ _ _ _
        rw [HD.out]
        exact ⟨((HQ2.out).ow).to k4, rfl⟩
      clear k4 HQ2 HD
      go_wp2_with fail
      exact ⟨rfl, HF.out⟩
    | ok j r =>
      obtain ⟨n, rfl⟩ := numb_shape hnb
      rw [hnb] at HD
      rintro en w4 ⟨k4, rfl, r4⟩
      have HQ4 := hide ((((HQ2.out).on k4 r4).set0 (.int .i64 2)).set1 (.int .i64 n))
      obtain ⟨b0, b1, b2, b3, b4, b5⟩ := ((HQ2.out).on k4 r4).vb.cells
      clear k4 r4 HQ2 hnb a0 a1 a2 a3 a4 a5 n1 n2 n3 n4
      obtain ⟨a0, a1, a2, a3, a4, a5⟩ := (HQ4.out).vb.cells
      have HQF := hide ((((((HQ4.out).set0 (.int .i64 2)).set1 (.int .i64 n)).set2 (.string ⟨#[]⟩)).set3 (.slice none 0 0)).set4 (.slice none 0 0))
      have HF : Hid (OkV w sb s dd (val d l) (.returned (.agg #[.int .i64 2, .int .i64 n, .string ⟨#[]⟩, .slice none 0 0, .slice none 0 0])) (((((((w4.setCell ⟨V, 0, none⟩ (.int .i64 2)).setCell ⟨V, 1, none⟩ (.int .i64 n)).setCell ⟨V, 0, none⟩ (.int .i64 2)).setCell ⟨V, 1, none⟩ (.int .i64 n)).setCell ⟨V, 2, none⟩ (.string ⟨#[]⟩)).setCell ⟨V, 3, none⟩ (.slice none 0 0)).setCell ⟨V, 4, none⟩ (.slice none 0 0))) := by
        show OkV _ _ _ _ _ _ _
        rw [HD.out]
        exact ⟨(HQF.out).ow, _, rfl, (.plain _ _ 2 n []), (HQF.out).src⟩
      clear HD
      go_wp2_with fail
      clear HQ4 a0 a1 a2 a3 a4 a5
      generalize (((((((w4.setCell ⟨V, 0, none⟩ (.int .i64 2)).setCell ⟨V, 1, none⟩ (.int .i64 n)).setCell ⟨V, 0, none⟩ (.int .i64 2)).setCell ⟨V, 1, none⟩ (.int .i64 n)).setCell ⟨V, 2, none⟩ (.string ⟨#[]⟩)).setCell ⟨V, 3, none⟩ (.slice none 0 0)).setCell ⟨V, 4, none⟩ (.slice none 0 0)) = wF at *
      obtain ⟨x0, x1, x2, x3, x4, -⟩ := (HQF.out).vb.cells
      exact bodyPost_ret (v := .agg #[.int .i64 2, .int .i64 n, .string ⟨#[]⟩, .slice none 0 0, .slice none 0 0]) (by simp [results, Tryz.results15, go_sem, x0, x1, x2, x3, x4]) rfl HF.out
set_option maxRecDepth 100000 in
set_option maxHeartbeats 4000000 in
theorem oval_text (d : Nat) (sb : Nat) (s : ByteArray) (l : List UInt8) (t : List UInt8) (w : World) (hs : s.size ≤ 1073741824) (hl : Sfx s l) (h : RawS w sb s (pos s l) (40 - (d : Int))) (hE : Es w) (hne : sb ≠ 1) (hb : bla l = 34 :: t) :
    Calls Tryz.prog 15 #[.pointer (some ⟨sb, 0, none⟩)] w fun en w' => OkV w sb s (40 - (d : Int)) (val d l) en w' := by
  generalize 40 - (d : Int) = dd at *
  have hal := (Below.refl _ w).alloc (Nat.le_refl _) (.cells #[.int .i64 0, .int .i64 0, .string ⟨#[]⟩, .slice none 0 0, .slice none 0 0] 25)
  have HQ0 : Hid (QV w sb s dd w.heap.size l (.int .i64 0) (.int .i64 0) (.string ⟨#[]⟩) (.slice none 0 0) (.slice none 0 0) (w.alloc (.cells #[.int .i64 0, .int .i64 0, .string ⟨#[]⟩, .slice none 0 0, .slice none 0 0] 25))) := ⟨h.below hal, heap_alloc_new w _, Ow.ofBelow sb hal, hE.below hal, rfl, h.lt, hE.lt, hne⟩
  have HB := hide (oblanks_any sb s l _ _ hs hl (HQ0.out).src)
  have HL1 := hide (hl.mono (bla_sfx l))
  have hps := (HL1.out).pos
  clear h hE hl hal hne
  have HD : Hid (val d l = match txt [] t with | .bad e n => .bad e n | .ok x r => .ok (.mk 3 0 x [] []) r) := by
    show _ = _
    rw [val_brk, valW, hb]
    rfl
  rw [hb] at HB HL1 hps
  clear hb
  have HI := hide (isDigit_any 34)
  rw [show isDig 34 = false by decide] at HI
  go_enter Tryz.func15, Tryz.ntmps15
  go_wp2_with fail
  refine (HB.out).mono ?_
  rintro en w1 ⟨rfl, r1, k1⟩
  have HQ1 := hide ((HQ0.out).on k1 r1)
  clear r1 k1 HB HQ0
  generalize hVV : w.heap.size = V at *
  have HN := hide (onext_any sb s _ _ w1 HL1.out (HQ1.out).src)
  have hh : hdB (34 :: t) = 34 := rfl
  rw [hh] at HN
  clear hh
  go_wp2_with fail
  refine (HN.out).mono ?_
  rintro en w2 ⟨rfl, m, rfl⟩
  have HQ2 := hide ((HQ1.out).on (Ow.ofBelow sb (belowN (Below.refl _ w1) m)) (((HQ1.out).src).drew m))
  clear HN HQ1
  generalize w1.drewN m = w2 at *
  obtain ⟨a0, a1, a2, a3, a4, a5⟩ := (HQ2.out).vb.cells
  have hV2 : V < w2.heap.size := heap_lt (HQ2.out).vb
  have HNB := hide (oquoted_any sb s 34 t dd w2 hs HL1.out (HQ2.out).src (HQ2.out).es (HQ2.out).ne)
  go_wp2_with fail
  refine ((HI.out) _).mono ?_
  rintro en w3 ⟨rfl, rfl⟩
  go_wp2_with fail
  refine (HNB.out).mono ?_
  clear HNB HI
  cases hnb : txt [] t with
  | bad e n =>
    rw [hnb] at HD
    simp only at HD
    rintro en w4 ⟨k4, rfl⟩
    have HF : Hid (OkV w sb s dd (val d l) (flt (s.size - n : Nat) e) w4) := by
      show OkV _ _ _ _ _ _ _
      rw [HD.out]
      exact ⟨((HQ2.out).ow).to k4, rfl⟩
    clear k4 HQ2 HD
    go_wp2_with fail
    exact ⟨rfl, HF.out⟩
  | ok x r =>
    rw [hnb] at HD
    simp only at HD
    rintro en w4 ⟨k4, rfl, r4⟩
    have HQ4 := hide ((((HQ2.out).on k4 r4).set0 (.int .i64 3)).set2 (.string (ba x)))
    obtain ⟨b0, b1, b2, b3, b4, b5⟩ := ((HQ2.out).on k4 r4).vb.cells
    clear k4 r4 HQ2 hnb a0 a1 a2 a3 a4 a5
    obtain ⟨a0, a1, a2, a3, a4, a5⟩ := (HQ4.out).vb.cells
    have HQF := hide ((((((HQ4.out).set0 (.int .i64 3)).set1 (.int .i64 0)).set2 (.string (ba x))).set3 (.slice none 0 0)).set4 (.slice none 0 0))
    have HF : Hid (OkV w sb s dd (val d l) (.returned (.agg #[.int .i64 3, .int .i64 0, .string (ba x), .slice none 0 0, .slice none 0 0])) (((((((w4.setCell ⟨V, 0, none⟩ (.int .i64 3)).setCell ⟨V, 2, none⟩ (.string (ba x))).setCell ⟨V, 0, none⟩ (.int .i64 3)).setCell ⟨V, 1, none⟩ (.int .i64 0)).setCell ⟨V, 2, none⟩ (.string (ba x))).setCell ⟨V, 3, none⟩ (.slice none 0 0)).setCell ⟨V, 4, none⟩ (.slice none 0 0))) := by
      show OkV _ _ _ _ _ _ _
      rw [HD.out]
      exact ⟨(HQF.out).ow, _, rfl, (.plain _ _ 3 0 x), (HQF.out).src⟩
    clear HD
    go_wp2_with fail
    clear HQ4 a0 a1 a2 a3 a4 a5
    generalize (((((((w4.setCell ⟨V, 0, none⟩ (.int .i64 3)).setCell ⟨V, 2, none⟩ (.string (ba x))).setCell ⟨V, 0, none⟩ (.int .i64 3)).setCell ⟨V, 1, none⟩ (.int .i64 0)).setCell ⟨V, 2, none⟩ (.string (ba x))).setCell ⟨V, 3, none⟩ (.slice none 0 0)).setCell ⟨V, 4, none⟩ (.slice none 0 0)) = wF at *
    obtain ⟨x0, x1, x2, x3, x4, -⟩ := (HQF.out).vb.cells
    exact bodyPost_ret (v := .agg #[.int .i64 3, .int .i64 0, .string (ba x), .slice none 0 0, .slice none 0 0]) (by simp [results, Tryz.results15, go_sem, x0, x1, x2, x3, x4]) rfl HF.out
set_option maxRecDepth 100000 in
set_option maxHeartbeats 4000000 in
theorem oval_list (d : Nat) (sb : Nat) (s : ByteArray) (l : List UInt8) (t : List UInt8) (w : World) (hs : s.size ≤ 1073741824) (hl : Sfx s l) (h : RawS w sb s (pos s l) (40 - (d : Int))) (hE : Es w) (hne : sb ≠ 1) (hLC : LC d) (hb : bla l = 91 :: t) :
    Calls Tryz.prog 15 #[.pointer (some ⟨sb, 0, none⟩)] w fun en w' => OkV w sb s (40 - (d : Int)) (val d l) en w' := by
  unfold LC at hLC
  generalize 40 - (d : Int) = dd at *
  have hal := (Below.refl _ w).alloc (Nat.le_refl _) (.cells #[.int .i64 0, .int .i64 0, .string ⟨#[]⟩, .slice none 0 0, .slice none 0 0] 25)
  have HQ0 : Hid (QV w sb s dd w.heap.size l (.int .i64 0) (.int .i64 0) (.string ⟨#[]⟩) (.slice none 0 0) (.slice none 0 0) (w.alloc (.cells #[.int .i64 0, .int .i64 0, .string ⟨#[]⟩, .slice none 0 0, .slice none 0 0] 25))) := ⟨h.below hal, heap_alloc_new w _, Ow.ofBelow sb hal, hE.below hal, rfl, h.lt, hE.lt, hne⟩
  have HB := hide (oblanks_any sb s l _ _ hs hl (HQ0.out).src)
  have HL1 := hide (hl.mono (bla_sfx l))
  have hps := (HL1.out).pos
  clear h hE hl hal hne
  have HD : Hid (val d l = brkR d false t) := by
    show _ = _
    rw [val_brk, valW, hb]
    rfl
  rw [hb] at HB HL1 hps
  clear hb
  have HI := hide (isDigit_any 91)
  rw [show isDig 91 = false by decide] at HI
  go_enter Tryz.func15, Tryz.ntmps15
  go_wp2_with fail
  refine (HB.out).mono ?_
  rintro en w1 ⟨rfl, r1, k1⟩
  have HQ1 := hide ((HQ0.out).on k1 r1)
  clear r1 k1 HB HQ0
  generalize hVV : w.heap.size = V at *
  have HN := hide (onext_any sb s _ _ w1 HL1.out (HQ1.out).src)
  have hh : hdB (91 :: t) = 91 := rfl
  rw [hh] at HN
  clear hh
  go_wp2_with fail
  refine (HN.out).mono ?_
  rintro en w2 ⟨rfl, m, rfl⟩
  have HQ2 := hide ((HQ1.out).on (Ow.ofBelow sb (belowN (Below.refl _ w1) m)) (((HQ1.out).src).drew m))
  clear HN HQ1
  generalize w1.drewN m = w2 at *
  obtain ⟨a0, a1, a2, a3, a4, a5⟩ := (HQ2.out).vb.cells
  have hV2 : V < w2.heap.size := heap_lt (HQ2.out).vb
  have HNB := hide (hLC sb s 91 t w2 hs HL1.out (HQ2.out).src (HQ2.out).es (HQ2.out).ne)
  clear hLC
  go_wp2_with fail
  refine ((HI.out) _).mono ?_
  rintro en w3 ⟨rfl, rfl⟩
  go_wp2_with fail
  refine (HNB.out).mono ?_
  clear HNB HI
  cases hnb : brkR d false t with
  | bad e n =>
    rw [hnb] at HD
    rintro en w4 ⟨k4, rfl⟩
    have HF : Hid (OkV w sb s dd (val d l) (flt (s.size - n : Nat) e) w4) := by
      show OkV _ _ _ _ _ _ _
      rw [HD.out]
      exact ⟨((HQ2.out).ow).to k4, rfl⟩
    clear k4 HQ2 HD
    go_wp2_with fail
    exact ⟨rfl, HF.out⟩
  | ok j r =>
    rw [hnb] at HD
    rintro en w4 ⟨k4, rv, rfl, hx4, r4⟩
    obtain ⟨-, p1, p2, p3, rfl⟩ := hx4.rows
    have HQ3 := hide ((HQ2.out).on k4 r4)
    have HQ4 := hide (((HQ3.out).set0 (.int .i64 4)).set4 (.slice p1 p2 p3))
    have HX4 := hide (((hx4.offV HQ3.out hV2 0 (.int .i64 4)).offV ((HQ3.out).set0 (.int .i64 4)) hV2 4 (.slice p1 p2 p3)))
    obtain ⟨b0, b1, b2, b3, b4, b5⟩ := (HQ3.out).vb.cells
    clear k4 r4 HQ2 hnb a0 a1 a2 a3 a4 a5 hx4
    obtain ⟨a0, a1, a2, a3, a4, a5⟩ := (HQ4.out).vb.cells
    have HQF := hide ((((((HQ4.out).set0 (.int .i64 4)).set1 (.int .i64 0)).set2 (.string ⟨#[]⟩)).set3 (.slice none 0 0)).set4 (.slice p1 p2 p3))
    have HF : Hid (OkV w sb s dd (val d l) (.returned (.agg #[.int .i64 4, .int .i64 0, .string ⟨#[]⟩, .slice none 0 0, .slice p1 p2 p3])) (((((((w4.setCell ⟨V, 0, none⟩ (.int .i64 4)).setCell ⟨V, 4, none⟩ (.slice p1 p2 p3)).setCell ⟨V, 0, none⟩ (.int .i64 4)).setCell ⟨V, 1, none⟩ (.int .i64 0)).setCell ⟨V, 2, none⟩ (.string ⟨#[]⟩)).setCell ⟨V, 3, none⟩ (.slice none 0 0)).setCell ⟨V, 4, none⟩ (.slice p1 p2 p3))) := by
      show OkV _ _ _ _ _ _ _
      rw [HD.out]
      exact ⟨(HQF.out).ow, _, rfl, (((((((HX4.out).offV (HQ4.out) hV2 0 (.int .i64 4)).offV ((HQ4.out).set0 (.int .i64 4)) hV2 1 (.int .i64 0)).offV (((HQ4.out).set0 (.int .i64 4)).set1 (.int .i64 0)) hV2 2 (.string ⟨#[]⟩)).offV ((((HQ4.out).set0 (.int .i64 4)).set1 (.int .i64 0)).set2 (.string ⟨#[]⟩)) hV2 3 (.slice none 0 0)).offV (((((HQ4.out).set0 (.int .i64 4)).set1 (.int .i64 0)).set2 (.string ⟨#[]⟩)).set3 (.slice none 0 0)) hV2 4 (.slice p1 p2 p3)).mono (fun q hq _ => by have := (HQF.out).hV; omega)), (HQF.out).src⟩
    clear HD
    go_wp2_with fail
    clear HQ4 a0 a1 a2 a3 a4 a5
    generalize (((((((w4.setCell ⟨V, 0, none⟩ (.int .i64 4)).setCell ⟨V, 4, none⟩ (.slice p1 p2 p3)).setCell ⟨V, 0, none⟩ (.int .i64 4)).setCell ⟨V, 1, none⟩ (.int .i64 0)).setCell ⟨V, 2, none⟩ (.string ⟨#[]⟩)).setCell ⟨V, 3, none⟩ (.slice none 0 0)).setCell ⟨V, 4, none⟩ (.slice p1 p2 p3)) = wF at *
    obtain ⟨x0, x1, x2, x3, x4, -⟩ := (HQF.out).vb.cells
    exact bodyPost_ret (v := .agg #[.int .i64 4, .int .i64 0, .string ⟨#[]⟩, .slice none 0 0, .slice p1 p2 p3]) (by simp [results, Tryz.results15, go_sem, x0, x1, x2, x3, x4]) rfl HF.out
set_option maxRecDepth 100000 in
set_option maxHeartbeats 4000000 in
theorem oval_map (d : Nat) (sb : Nat) (s : ByteArray) (l : List UInt8) (t : List UInt8) (w : World) (hs : s.size ≤ 1073741824) (hl : Sfx s l) (h : RawS w sb s (pos s l) (40 - (d : Int))) (hE : Es w) (hne : sb ≠ 1) (hPC : PC d) (hb : bla l = 123 :: t) :
    Calls Tryz.prog 15 #[.pointer (some ⟨sb, 0, none⟩)] w fun en w' => OkV w sb s (40 - (d : Int)) (val d l) en w' := by
  unfold PC at hPC
  generalize 40 - (d : Int) = dd at *
  have hal := (Below.refl _ w).alloc (Nat.le_refl _) (.cells #[.int .i64 0, .int .i64 0, .string ⟨#[]⟩, .slice none 0 0, .slice none 0 0] 25)
  have HQ0 : Hid (QV w sb s dd w.heap.size l (.int .i64 0) (.int .i64 0) (.string ⟨#[]⟩) (.slice none 0 0) (.slice none 0 0) (w.alloc (.cells #[.int .i64 0, .int .i64 0, .string ⟨#[]⟩, .slice none 0 0, .slice none 0 0] 25))) := ⟨h.below hal, heap_alloc_new w _, Ow.ofBelow sb hal, hE.below hal, rfl, h.lt, hE.lt, hne⟩
  have HB := hide (oblanks_any sb s l _ _ hs hl (HQ0.out).src)
  have HL1 := hide (hl.mono (bla_sfx l))
  have hps := (HL1.out).pos
  clear h hE hl hal hne
  have HD : Hid (val d l = brkR d true t) := by
    show _ = _
    rw [val_brk, valW, hb]
    rfl
  rw [hb] at HB HL1 hps
  clear hb
  have HI := hide (isDigit_any 123)
  rw [show isDig 123 = false by decide] at HI
  go_enter Tryz.func15, Tryz.ntmps15
  go_wp2_with fail
  refine (HB.out).mono ?_
  rintro en w1 ⟨rfl, r1, k1⟩
  have HQ1 := hide ((HQ0.out).on k1 r1)
  clear r1 k1 HB HQ0
  generalize hVV : w.heap.size = V at *
  have HN := hide (onext_any sb s _ _ w1 HL1.out (HQ1.out).src)
  have hh : hdB (123 :: t) = 123 := rfl
  rw [hh] at HN
  clear hh
  go_wp2_with fail
  refine (HN.out).mono ?_
  rintro en w2 ⟨rfl, m, rfl⟩
  have HQ2 := hide ((HQ1.out).on (Ow.ofBelow sb (belowN (Below.refl _ w1) m)) (((HQ1.out).src).drew m))
  clear HN HQ1
  generalize w1.drewN m = w2 at *
  obtain ⟨a0, a1, a2, a3, a4, a5⟩ := (HQ2.out).vb.cells
  have hV2 : V < w2.heap.size := heap_lt (HQ2.out).vb
  have HQ2b := hide ((HQ2.out).set0 (.int .i64 5))
  have hV3 : V < (w2.setCell ⟨V, 0, none⟩ (.int .i64 5)).heap.size := heap_lt (HQ2b.out).vb
  have HNB := hide (hPC sb s 123 t _ hs HL1.out (HQ2b.out).src (HQ2b.out).es (HQ2b.out).ne)
  clear hPC
  go_wp2_with fail
  refine ((HI.out) _).mono ?_
  rintro en w3 ⟨rfl, rfl⟩
  go_wp2_with fail
  refine (HNB.out).mono ?_
  clear HNB HI
  cases hnb : brkR d true t with
  | bad e n =>
    rw [hnb] at HD
    rintro en w4 ⟨k4, rfl⟩
    have HF : Hid (OkV w sb s dd (val d l) (flt (s.size - n : Nat) e) w4) := by
      show OkV _ _ _ _ _ _ _
      rw [HD.out]
      exact ⟨((HQ2b.out).ow).to k4, rfl⟩
    clear k4 HQ2b HD
    go_wp2_with fail
    exact ⟨rfl, HF.out⟩
  | ok j r =>
    rw [hnb] at HD
    rintro en w4 ⟨k4, kv, rv, rfl, hx4, r4⟩
    obtain ⟨⟨q1, q2, q3, rfl⟩, p1, p2, p3, rfl⟩ := hx4.rows
    have HQ3 := hide ((HQ2b.out).on k4 r4)
    have HQ4 := hide (((HQ3.out).set3 (.slice q1 q2 q3)).set4 (.slice p1 p2 p3))
    have HX4 := hide (((hx4.offV HQ3.out hV3 3 (.slice q1 q2 q3)).offV ((HQ3.out).set3 (.slice q1 q2 q3)) hV3 4 (.slice p1 p2 p3)))
    obtain ⟨b0, b1, b2, b3, b4, b5⟩ := (HQ3.out).vb.cells
    clear k4 r4 HQ2 HQ2b hnb a0 a1 a2 a3 a4 a5 hx4
    obtain ⟨a0, a1, a2, a3, a4, a5⟩ := (HQ4.out).vb.cells
    have HQF := hide ((((((HQ4.out).set0 (.int .i64 5)).set1 (.int .i64 0)).set2 (.string ⟨#[]⟩)).set3 (.slice q1 q2 q3)).set4 (.slice p1 p2 p3))
    have HF : Hid (OkV w sb s dd (val d l) (.returned (.agg #[.int .i64 5, .int .i64 0, .string ⟨#[]⟩, .slice q1 q2 q3, .slice p1 p2 p3])) (((((((w4.setCell ⟨V, 3, none⟩ (.slice q1 q2 q3)).setCell ⟨V, 4, none⟩ (.slice p1 p2 p3)).setCell ⟨V, 0, none⟩ (.int .i64 5)).setCell ⟨V, 1, none⟩ (.int .i64 0)).setCell ⟨V, 2, none⟩ (.string ⟨#[]⟩)).setCell ⟨V, 3, none⟩ (.slice q1 q2 q3)).setCell ⟨V, 4, none⟩ (.slice p1 p2 p3))) := by
      show OkV _ _ _ _ _ _ _
      rw [HD.out]
      exact ⟨(HQF.out).ow, _, rfl, (((((((HX4.out).offV (HQ4.out) hV3 0 (.int .i64 5)).offV ((HQ4.out).set0 (.int .i64 5)) hV3 1 (.int .i64 0)).offV (((HQ4.out).set0 (.int .i64 5)).set1 (.int .i64 0)) hV3 2 (.string ⟨#[]⟩)).offV ((((HQ4.out).set0 (.int .i64 5)).set1 (.int .i64 0)).set2 (.string ⟨#[]⟩)) hV3 3 (.slice q1 q2 q3)).offV (((((HQ4.out).set0 (.int .i64 5)).set1 (.int .i64 0)).set2 (.string ⟨#[]⟩)).set3 (.slice q1 q2 q3)) hV3 4 (.slice p1 p2 p3)).mono (fun q hq _ => by have := (HQF.out).hV; exact Nat.le_trans (by omega) hq)), (HQF.out).src⟩
    clear HD
    go_wp2_with fail
    clear HQ4 a0 a1 a2 a3 a4 a5
    generalize (((((((w4.setCell ⟨V, 3, none⟩ (.slice q1 q2 q3)).setCell ⟨V, 4, none⟩ (.slice p1 p2 p3)).setCell ⟨V, 0, none⟩ (.int .i64 5)).setCell ⟨V, 1, none⟩ (.int .i64 0)).setCell ⟨V, 2, none⟩ (.string ⟨#[]⟩)).setCell ⟨V, 3, none⟩ (.slice q1 q2 q3)).setCell ⟨V, 4, none⟩ (.slice p1 p2 p3)) = wF at *
    obtain ⟨x0, x1, x2, x3, x4, -⟩ := (HQF.out).vb.cells
    exact bodyPost_ret (v := .agg #[.int .i64 5, .int .i64 0, .string ⟨#[]⟩, .slice q1 q2 q3, .slice p1 p2 p3]) (by simp [results, Tryz.results15, go_sem, x0, x1, x2, x3, x4]) rfl HF.out
end Go.Proofs.YthdbnafiindgbaaGreatDoor
