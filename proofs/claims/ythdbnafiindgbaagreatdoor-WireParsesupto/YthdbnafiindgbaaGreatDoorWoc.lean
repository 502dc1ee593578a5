/- The program's reader of messages: what Atoi makes of digits. -/
import Derived.Test.YthdbnafiindgbaaGreatDoorWoa
import Derived.Test.YthdbnafiindgbaaGreatDoorWkd
import Derived.Test.YthdbnafiindgbaaGreatDoorWoz
import Derived.Lib.AtoiAll
import Derived.BigQuiet
namespace Go.Proofs.YthdbnafiindgbaaGreatDoor
open Go.RowKit
open Wi

theorem parseU_digs : ∀ (ds : List UInt8), (∀ c ∈ ds, isDig c = true) → ∀ acc : Nat, (acc + 1) * 10 ^ ds.length ≤ 10 ^ 18 → Lib.parseUint10 acc ds = .ok (ds.foldl (fun n c => n * 10 + (c.toNat - 48)) acc)
  | [], _, acc, _ => rfl
  | c :: l, hd, acc, h => by
    have hc := hd c (by simp)
    simp only [isDig, Bool.and_eq_true, decide_eq_true_eq] at hc
    have h1 : (acc + 1) * 10 * 10 ^ l.length ≤ 10 ^ 18 := by
      have e : (acc + 1) * 10 ^ (c :: l).length = (acc + 1) * 10 * 10 ^ l.length := by rw [List.length_cons, Nat.pow_succ, ← Nat.mul_assoc, Nat.mul_right_comm]
      rw [← e]; exact h
    have h2 : (acc + 1) * 10 ≤ 10 ^ 18 := Nat.le_trans (Nat.le_mul_of_pos_right _ (Nat.pow_pos (by decide))) h1
    have h3 : (acc * 10 + (c.toNat - 48) + 1) * 10 ^ l.length ≤ 10 ^ 18 := Nat.le_trans (Nat.mul_le_mul_right _ (by omega)) h1
    have ih := parseU_digs l (fun c h => hd c (by simp [h])) _ h3
    rw [Lib.parseUint10, if_pos hc, if_neg (by omega), if_neg (by omega), ih]
    rfl
theorem parseMag_digs {ds : List UInt8} (hd : ∀ c ∈ ds, isDig c = true) (h0 : ds ≠ []) (hl : ds.length ≤ 18) : Lib.parseMag ds = .ok (numOf ds) := by
  unfold Lib.parseMag
  rw [if_neg h0, parseU_digs ds hd 0 (by rw [Nat.zero_add, Nat.one_mul]; exact Nat.pow_le_pow_right (by decide) hl)]
  rfl
theorem atoi_neg {ds : List UInt8} (hd : ∀ c ∈ ds, isDig c = true) (h0 : ds ≠ []) (hl : ds.length ≤ 18) : Lib.atoiAll (45 :: ds) = .ok (-(numOf ds : Int)) := by
  have hn := numOf_lt2 hd 18 hl
  unfold Lib.atoiAll
  have e : ((45 : UInt8).toNat = 45) := rfl
  simp only [e, or_true, if_true, parseMag_digs hd h0 hl]
  rw [if_neg (by simp), if_neg (by omega)]
theorem atoi_pos {ds : List UInt8} (hd : ∀ c ∈ ds, isDig c = true) (h0 : ds ≠ []) (hl : ds.length ≤ 18) : Lib.atoiAll ds = .ok (numOf ds : Int) := by
  have hn := numOf_lt2 hd 18 hl
  cases ds with
  | nil => exact absurd rfl h0
  | cons c l =>
    have hc := hd c (by simp)
    simp only [isDig, Bool.and_eq_true, decide_eq_true_eq] at hc
    unfold Lib.atoiAll
    have e1 : ¬ c.toNat = 45 := by omega
    have e2 : ¬ c.toNat = 43 := by omega
    simp only [e1, e2, or_self, if_false, parseMag_digs hd h0 hl]
    rw [if_neg (by omega), if_neg (by simp)]
theorem atoi_any (x : ByteArray) (v : Int) (h : Lib.atoiAll (bs x) = .ok v) (hx : x.size ≤ 1073741824) (w : World) :
    Calls Tryz.prog 39 #[.string x] w fun e w' => e = .returned (.tuple #[.int .i64 v, .nilIface]) ∧ Below w.heap.size w w' := by
  refine (Any.strconv_Atoi_ok Tryz.layC172 x (by omega) v h w).mono ?_
  rintro e w' ⟨rfl, rfl | ⟨t, rfl⟩⟩
  · exact ⟨rfl, Below.refl _ _⟩
  · exact ⟨rfl, Lib.bytesWorld_below _ _ _⟩
/-- So many digits have been read. -/
structure Dg (b ds l : List UInt8) : Prop where
  eq : b = ds ++ l
  dig : ∀ c ∈ ds, isDig c = true
theorem Dg.start (b : List UInt8) : Dg b [] b := ⟨rfl, fun _ h => by simp at h⟩
theorem Dg.more {b ds t : List UInt8} {c : UInt8} (h : Dg b ds (c :: t)) (hc : isDig c = true) : Dg b (ds ++ [c]) t := by
  refine ⟨by rw [h.eq]; simp, fun x hx => ?_⟩
  rcases List.mem_append.1 hx with h1 | h1
  · exact h.dig x h1
  · rw [List.mem_singleton.1 h1]; exact hc
theorem Dg.digs {b ds l : List UInt8} (h : Dg b ds l) : Digs b ds l (numOf (ds.take 18) : Int) := ⟨h.eq, h.dig, rfl⟩
theorem bs_extr {s : ByteArray} {l : List UInt8} (h : Sfx s l) (b : Nat) : bs (s.extract (pos s l) b) = l.take (b - pos s l) := by rw [bs_cut, List.drop_take, h.eq]
/-- Whether the next byte is a digit. -/
def dgH (l : List UInt8) : Bool := match l with | [] => false | c :: _ => isDig c
theorem isDig_hd (l : List UInt8) (w : World) : Calls Tryz.prog 25 #[.int .u8 (hdB l : Nat)] w fun e w' => e = .returned (.bool (dgH l)) ∧ w' = w := by
  cases l with
  | nil => exact isDigit_any 0 w
  | cons c t => exact isDigit_any c w
/-- What comes of a number. -/
def OkN (w : World) (sb : Nat) (s : ByteArray) (d : Int) (r : Res J) (en : Ending) (w' : World) : Prop :=
  Ow sb w w' ∧ match r with
  | .ok (.mk _ n _ _ _) t => en = .returned (.int .i64 n) ∧ RawS w' sb s (pos s t) d
  | .bad e n => en = flt (s.size - n : Nat) e
end Go.Proofs.YthdbnafiindgbaaGreatDoor
/- The program's reader of messages: the plain bytes of a text. -/
namespace Go.Proofs.YthdbnafiindgbaaGreatDoor
open Go.RowKit
open Wi

/-- A byte of a text that stands for itself. -/
def isPl (c : UInt8) : Bool := decide (32 ≤ c.toNat) && !(c == 34) && !(c == 92)
def plnT (l : List UInt8) : List UInt8 := l.takeWhile isPl
def plnR (l : List UInt8) : List UInt8 := l.dropWhile isPl
theorem pln_eq (l : List UInt8) : plnT l ++ plnR l = l := List.takeWhile_append_dropWhile
theorem plnR_sfx (l : List UInt8) : plnR l <:+ l := ⟨plnT l, pln_eq l⟩
theorem txt_pln (l : List UInt8) : ∀ a, txt a l = txt (a ++ plnT l) (plnR l) := by
  induction l with
  | nil => intro a; simp [plnT, plnR]
  | cons c t ih =>
    intro a
    cases h : isPl c with
    | false => simp [plnT, plnR, h]
    | true =>
      have e1 : plnT (c :: t) = c :: plnT t := by simp [plnT, h]
      have e2 : plnR (c :: t) = plnR t := by simp [plnR, h]
      rw [e1, e2]
      simp only [isPl, Bool.and_eq_true, decide_eq_true_eq, Bool.not_eq_true', beq_eq_false_iff_ne, ne_eq] at h
      rw [txt, if_neg h.1.2, if_neg (by omega), if_pos h.2, ih]
      simp
/-- So many plain bytes have been read. -/
structure Pg (b ds l : List UInt8) : Prop where
  eq : b = ds ++ l
  pl : ∀ c ∈ ds, isPl c = true
theorem Pg.start (b : List UInt8) : Pg b [] b := ⟨rfl, fun _ h => by simp at h⟩
theorem Pg.more {b ds t : List UInt8} {c : UInt8} (h : Pg b ds (c :: t)) (hc : isPl c = true) : Pg b (ds ++ [c]) t := by
  refine ⟨by rw [h.eq]; simp, fun x hx => ?_⟩
  rcases List.mem_append.1 hx with h1 | h1
  · exact h.pl x h1
  · rw [List.mem_singleton.1 h1]; exact hc
theorem Pg.done {b ds l : List UInt8} (h : Pg b ds l) (hl : ∀ c t, l = c :: t → isPl c = false) : plnT b = ds ∧ plnR b = l := by
  have : ∀ (ds : List UInt8), (∀ c ∈ ds, isPl c = true) → plnT (ds ++ l) = ds ∧ plnR (ds ++ l) = l := by
    intro ds
    induction ds with
    | nil =>
      intro _
      cases l with
      | nil => exact ⟨rfl, rfl⟩
      | cons c t => have := hl c t rfl; simp [plnT, plnR, this]
    | cons x ds ih =>
      intro hp
      have hx := hp x (by simp)
      have := ih (fun c hc => hp c (by simp [hc]))
      simp only [plnT, plnR] at this ⊢
      simp [hx, this]
  have := this ds h.pl
  rw [← h.eq] at this
  exact this
theorem isPl_hd {l : List UInt8} (hst : ∀ c t, l = c :: t → isPl c = false) : (decide ((32 : Int) ≤ (hdB l : Int)) = false) ∨ (decide ((32 : Int) ≤ (hdB l : Int)) = true ∧ ((hdB l : Int) == 34) = true) ∨ (decide ((32 : Int) ≤ (hdB l : Int)) = true ∧ ((hdB l : Int) == 34) = false ∧ ((hdB l : Int) == 92) = true) := by
  cases l with
  | nil => exact .inl (by decide)
  | cons c t =>
    have h := hst c t rfl
    show (decide ((32 : Int) ≤ (c.toNat : Int)) = false) ∨ (decide ((32 : Int) ≤ (c.toNat : Int)) = true ∧ ((c.toNat : Int) == 34) = true) ∨ (decide ((32 : Int) ≤ (c.toNat : Int)) = true ∧ ((c.toNat : Int) == 34) = false ∧ ((c.toNat : Int) == 92) = true)
    by_cases h1 : 32 ≤ c.toNat
    · by_cases h2 : c.toNat = 34
      · exact .inr (.inl ⟨by simp; omega, by simp; omega⟩)
      · by_cases h3 : c.toNat = 92
        · exact .inr (.inr ⟨by simp; omega, by simp; omega, by simp; omega⟩)
        · exfalso
          have e2 : (c == 34) = false := by rw [beq_eq_false_iff_ne]; intro e; exact h2 (by rw [e]; rfl)
          have e3 : (c == 92) = false := by rw [beq_eq_false_iff_ne]; intro e; exact h3 (by rw [e]; rfl)
          simp [isPl, h1, e2, e3] at h
    · exact .inl (by simp; omega)
theorem isPl_yes {c : UInt8} (h : isPl c = true) : decide ((32 : Int) ≤ (c.toNat : Int)) = true ∧ ((c.toNat : Int) == 34) = false ∧ ((c.toNat : Int) == 92) = false := by
  simp only [isPl, Bool.and_eq_true, decide_eq_true_eq, Bool.not_eq_true', beq_eq_false_iff_ne, ne_eq] at h
  refine ⟨by simp; omega, ?_, ?_⟩
  · rw [beq_eq_false_iff_ne]; intro e; exact h.1.2 (UInt8.toNat_inj.1 (by show c.toNat = 34; omega))
  · rw [beq_eq_false_iff_ne]; intro e; exact h.2 (UInt8.toNat_inj.1 (by show c.toNat = 92; omega))
set_option maxRecDepth 100000 in
set_option maxHeartbeats 4000000 in
theorem oplain_any (sb : Nat) (s : ByteArray) (l : List UInt8) (d : Int) (w : World) (hs : s.size ≤ 1073741824) (hl : Sfx s l) (h : RawS w sb s (pos s l) d) :
    Calls Tryz.prog 41 #[.pointer (some ⟨sb, 0, none⟩)] w fun en w' => en = .returned (.string (ba (plnT l))) ∧ RawS w' sb s (pos s (plnR l)) d ∧ Ow sb w w' := by
  have HR := hide h
  have HL := hide hl
  obtain ⟨⟨c0, c1, c2⟩, f1, -⟩ := h.facts
  have HNX := hide (onext_any sb s l d w hl h)
  have i2 : (0 : Int) ≤ (pos s l : Int) := Int.natCast_nonneg _
  clear h hl
  go_enter Tryz.func41, Tryz.ntmps41
  go_wp2_with fail
  refine (HNX.out).mono ?_
  rintro e w1 ⟨rfl, m, rfl⟩
  have HR1 := hide ((HR.out).drew m)
  have HK1 := hide (Ow.ofBelow sb (belowN (Below.refl _ w) m))
  clear c0 c1 c2 f1 HR HNX
  generalize w.drewN m = w1 at *
  go_wp2_with fail
  go_loopw [4] (fun v wr => ∃ (ds l' : List UInt8), v = .int .u8 (hdB l' : Nat) ∧ Hid (Pg l ds l') ∧ Hid (RawS wr sb s (pos s l') d) ∧ Hid (Ow sb w wr)) (fun _ wr => s.size - atS sb wr)
  case atStart => exact ⟨[], l, rfl, Pg.start _, HR1, HK1⟩
  case round =>
    obtain ⟨ds, l', rfl, HD, HJ, HK⟩ := hrel
    have hat := (HJ.out).at
    have hl' : l' = l.drop ds.length := by rw [(HD.out).eq, List.drop_left]
    have hln : ds.length ≤ l.length := by rw [(HD.out).eq]; simp
    have HS : Hid (Sfx s l') := by show Sfx _ _; rw [hl']; exact (HL.out).drop _
    have HPE : Hid (pos s l' = pos s l + ds.length) := by show _ = _; rw [hl']; exact pos_drop HL.out hln
    have HPL := hide (HS.out).pos
    obtain ⟨⟨c0, c1, c2⟩, f1, -⟩ := (HJ.out).facts
    clear hl' hln
    by_cases hst : ∀ c t, l' = c :: t → isPl c = false
    · have HDN := hide ((HD.out).done hst)
      have hcs := isPl_hd hst
      have HB : Hid (s.extract (pos s l) (pos s l') = ba (plnT l)) := by
        show _ = _
        apply bs_inj
        rw [bs_extr HL.out, bs_ba, (HDN.out).1, HPE.out, Nat.add_sub_cancel_left]
        conv => lhs; rw [(HD.out).eq]
        exact List.take_left
      have j1 : (pos s l : Int) ≤ (pos s l' : Int) := by have := HPE.out; omega
      have j2 : (pos s l' : Int) ≤ (s.size : Int) := by have := HPL.out; omega
      have j3 : pos s l ≤ pos s l' := by omega
      have j4 : pos s l' ≤ s.size := by omega
      clear hst hat
      generalize hdB l' = hv at *
      rcases hcs with k1 | ⟨k1, k2⟩ | ⟨k1, k2, k3⟩
      all_goals
        try have k2b : ((hv : Int) != 34) = false := by rw [bne, k2]; rfl
        try have k2d : ((hv : Int) != 34) = true := by rw [bne, k2]; rfl
        try have k3b : ((hv : Int) != 92) = false := by rw [bne, k3]; rfl
        try have k2c : (hv : Int) = 34 := eq_of_beq k2
        try have k2e : ¬ (hv : Int) = 34 := fun e => by rw [e] at k2; exact absurd k2 (by decide)
        try have k3c : (hv : Int) = 92 := eq_of_beq k3
        go_wp2_with fail
        go_quiet (fail)
        go_wp2_with fail
        go_ret
        rw [HB.out, (HDN.out).2]
        exact ⟨rfl, (HJ.out).drew _, (HK.out).drewN _⟩
    · have hx : ∃ x u, l' = x :: u ∧ isPl x = true := by
        cases l' with
        | nil => exact absurd (fun _ _ e => by cases e) hst
        | cons x u =>
          refine ⟨x, u, rfl, ?_⟩
          cases hi : isPl x with
          | true => rfl
          | false => exact absurd (fun x' u' e => by cases e; exact hi) hst
      obtain ⟨x, u, rfl, hx⟩ := hx
      have HT := hide (pos_cons HS.out)
      have HS2 := hide (HS.out).tail
      have HD2 := hide ((HD.out).more hx)
      have hlt : pos s (x :: u) < s.size := by have e2 := HPL.out; simp only [List.length_cons] at e2; omega
      have HJ2 : Hid (RawS (wr.setCell ⟨sb, 1, none⟩ (.int .i64 ((pos s (x :: u) : Int) + 1))) sb s (pos s u : Nat) d) := by
        show RawS _ _ _ _ _
        rw [HT.out]; exact (HJ.out).set1 _
      have HK2 := hide (Ow.set HK.out 1 (.int .i64 ((pos s (x :: u) : Int) + 1)))
      have HNX := hide (onext_any sb s u d _ HS2.out HJ2.out)
      obtain ⟨k1, k2, k3⟩ := isPl_yes hx
      clear hst hx
      have HH : Hid (hdB (x :: u) = x.toNat) := rfl
      rw [HH.out]
      generalize x.toNat = hv at *
      have k2d : ((hv : Int) != 34) = true := by rw [bne, k2]; rfl
      have k2e : ¬ (hv : Int) = 34 := fun e => by rw [e] at k2; exact absurd k2 (by decide)
      have k3d : ((hv : Int) != 92) = true := by rw [bne, k3]; rfl
      have k3e : ¬ (hv : Int) = 92 := fun e => by rw [e] at k3; exact absurd k3 (by decide)
      go_wp2_with fail
      refine (HNX.out).mono ?_
      rintro e w3 ⟨rfl, m3, rfl⟩
      have HJ3 := hide ((HJ2.out).drew m3)
      have HK3 := hide ((HK2.out).drewN m3)
      clear HJ2 HK2 HNX
      generalize (wr.setCell ⟨sb, 1, none⟩ (.int .i64 ((pos s (x :: u) : Int) + 1))).drewN m3 = w3 at *
      go_wp2_with fail
      refine ⟨⟨_, u, rfl, HD2, HJ3, HK3⟩, ?_⟩
      have := (HJ3.out).at
      have e2 := HT.out
      rw [hat]
      first | (rw [this]; omega) | (erw [this]; omega)
end Go.Proofs.YthdbnafiindgbaaGreatDoor
