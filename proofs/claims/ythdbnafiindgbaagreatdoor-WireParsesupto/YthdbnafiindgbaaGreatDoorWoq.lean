/- The program's reader of messages: a key. -/
import Derived.Test.YthdbnafiindgbaaGreatDoorWon
import Derived.Test.YthdbnafiindgbaaGreatDoorWmb
namespace Go.Proofs.YthdbnafiindgbaaGreatDoor
open Go.RowKit
open Wi

theorem esc_few {l b : List UInt8} {k : Nat} (h : esc l = some (b, k)) : b.length ≤ 4 := by
  rw [escR_esc] at h
  cases hh : escR l with
  | none => rw [hh] at h; cases h
  | some p => rw [hh] at h; simp only [Option.map_some, Option.some.injEq, Prod.mk.injEq] at h; rw [← h.1]; exact enc_le _
theorem txt_grow (n : Nat) : ∀ (a l : List UInt8), l.length ≤ n → ∀ x r, txt a l = .ok x r → x.length ≤ a.length + 4 * l.length := by
  induction n with
  | zero =>
    intro a l h x r hx
    have : l = [] := List.eq_nil_of_length_eq_zero (by omega)
    subst this
    rw [txt] at hx; cases hx
  | succ n ih =>
    intro a l h x r hx
    cases l with
    | nil => rw [txt] at hx; cases hx
    | cons c t =>
      have ht : t.length ≤ n := by simpa using h
      rw [txt] at hx
      split at hx
      · cases hx; simp
      split at hx
      · cases hx
      split at hx
      · have := ih _ t ht x r hx; simp at this ⊢; omega
      · split at hx
        · cases hx
        · next b k he =>
          have h4 := esc_few he
          have := ih _ (t.drop (k - 1)) (by simp; omega) x r hx
          simp at this ⊢; omega
theorem txt_max {t x r : List UInt8} (h : txt [] t = .ok x r) : x.length ≤ 4 * t.length := by simpa using txt_grow t.length [] t (Nat.le_refl _) x r h
/-- A key that is not among others. -/
def keyR (ks : List (List UInt8)) (l : List UInt8) : Res (List UInt8) :=
  match bla l with
  | [] => .bad 3 0
  | c :: t => if c = 34 then match txt [] t with
      | .bad e n => .bad e n
      | .ok k r => if k ∈ ks then .bad 5 (t.length + 1) else .ok k r
    else .bad 3 (t.length + 1)
theorem key_keyR (ks : List (List UInt8)) (l : List UInt8) : key ks l = match keyR ks l with
    | .bad e n => .bad e n
    | .ok k r => match sign 58 r with
      | some r' => .ok (ks ++ [k]) r'
      | none => .bad 3 (bla r).length := by
  unfold key keyR
  cases bla l with
  | nil => rfl
  | cons c t =>
    simp only
    by_cases hc : c = 34
    · rw [if_pos hc, if_pos hc]
      cases txt [] t with
      | bad e n => rfl
      | ok k r =>
        simp only
        by_cases hk : k ∈ ks
        · rw [if_pos hk, if_pos hk]
        · rw [if_neg hk, if_neg hk]; rfl
    · rw [if_neg hc, if_neg hc]
/-- What comes of a key. -/
def OkK (w : World) (sb mb : Nat) (s : ByteArray) (d : Int) (ks : List (List UInt8)) (n : Nat) (r : Res (List UInt8)) (en : Ending) (w' : World) : Prop :=
  Kp (fun q => q = sb ∨ q = mb) w w' ∧ match r with
  | .ok k t => en = .returned (.string (ba k)) ∧ RawS w' sb s (pos s t) d ∧ Ms w' mb (n + 1) (ks ++ [k])
  | .bad e m => en = flt (s.size - m : Nat) e
set_option maxRecDepth 100000 in
set_option maxHeartbeats 8000000 in
theorem okey_any (sb mb : Nat) (s : ByteArray) (l : List UInt8) (d : Int) (ks : List (List UInt8)) (n : Nat) (w : World) (hs : s.size ≤ 1073741824) (hl : Sfx s l) (h : RawS w sb s (pos s l) d) (hE : Es w) (hne : sb ≠ 1) (hm : Ms w mb n ks) (hn : n ≤ 1073741824) :
    Calls Tryz.prog 48 #[.pointer (some ⟨sb, 0, none⟩), .map (some mb)] w fun en w' => OkK w sb mb s d ks n (keyR ks l) en w' := by
  have hsm : mb ≠ sb := hm.offc h
  have HBL := hide (oblanks_any sb s l d w hs hl h)
  have HL1 := hide (hl.mono (bla_sfx l))
  have HD : Hid (keyR ks l = match bla l with | [] => .bad 3 0 | c :: t => if c = 34 then (match txt [] t with | .bad e n => .bad e n | .ok k r => if k ∈ ks then .bad 5 (t.length + 1) else .ok k r) else .bad 3 (t.length + 1)) := rfl
  have HES := hide hE
  have HM := hide hm
  have HNE := hide hne
  clear h hl hE hm hne
  generalize keyR ks l = R at *
  generalize bla l = b at *
  go_enter Tryz.func48, Tryz.ntmps48
  go_wp2_with fail
  refine (HBL.out).mono ?_
  rintro e w1 ⟨rfl, h1, k1⟩
  have HN := hide (onext_any sb s b d w1 HL1.out h1)
  have HR1 := hide h1
  have HK1 := hide k1
  have HM1 := hide ((HM.out).keep k1 hsm)
  have HE1 := hide ((HES.out).ow k1 HNE.out)
  obtain ⟨⟨c0, c1, c2⟩, f1, -⟩ := h1.facts
  have hps := (HL1.out).pos
  clear h1 k1 HBL HM HES
  by_cases hx : ∃ t, b = 34 :: t
  · obtain ⟨t, rfl⟩ := hx
    have hh : hdB (34 :: t) = 34 := rfl
    rw [hh] at HN
    simp only [if_true] at HD
    go_wp2_with fail
    refine (HN.out).mono ?_
    rintro e w2 ⟨rfl, m, rfl⟩
    have HR2 := hide ((HR1.out).drew m)
    have HK2 := hide ((HK1.out).drewN m)
    have HM2 := hide ((HM1.out).below (belowN (Below.refl _ _) m))
    have HE2 := hide ((HE1.out).below (belowN (Below.refl _ _) m))
    clear HR1 HK1 HM1 HE1 HN c0 c1 c2 f1 hh
    generalize w1.drewN m = w2 at *
    have HQ := hide (oquoted_any sb s 34 t d w2 hs HL1.out HR2.out HE2.out HNE.out)
    cases hq : txt [] t with
    | bad e n2 =>
      rw [hq] at HD HQ
      simp only at HD
      clear hq
      go_wp2_with fail
      refine (HQ.out).mono ?_
      rintro e w3 ⟨k3, rfl⟩
      have HF : Hid (OkK w sb mb s d ks n R (flt (s.size - n2 : Nat) e) w3) := by
        show OkK _ _ _ _ _ _ _ _ _ _
        rw [HD.out]
        exact ⟨((HK2.out).to k3).mono (fun _ _ e => .inl e), rfl⟩
      clear HQ HD k3
      go_wp2_with fail
      exact ⟨rfl, HF.out⟩
    | ok k r =>
      have hkl : k.length ≤ maxLen := by have := txt_max hq; simp only [List.length_cons] at hps; unfold maxLen; omega
      rw [hq] at HD HQ
      simp only at HD
      clear hq
      go_wp2_with fail
      refine (HQ.out).mono ?_
      rintro e w3 ⟨k3, rfl, h3⟩
      have HR3 := hide h3
      have HK3 := hide ((HK2.out).to k3)
      have HM3 := hide ((HM2.out).keep k3 hsm)
      have hrun := (HM3.out).run_ok hkl
      clear HQ h3 k3 HM2 HK2 HR2 HE2
      by_cases hmem : k ∈ ks
      · rw [decide_eq_true hmem] at hrun
        rw [if_pos hmem] at HD
        have HF : Hid (OkK w sb mb s d ks n R (flt (pos s (34 :: t) : Nat) 5) (w3.alloc (.cells #[] 115))) := by
          show OkK _ _ _ _ _ _ _ _ _ _
          rw [HD.out]
          refine ⟨((HK3.out).mono (fun _ _ e => .inl e)).alloc _, ?_⟩
          show flt _ _ = flt _ _
          rw [show s.size - (t.length + 1) = pos s (34 :: t) by simp only [List.length_cons] at hps; omega]; rfl
        clear hmem HD HR3 HK3 HM3
        go_wp2_with fail
        exact ⟨rfl, HF.out⟩
      · rw [decide_eq_false hmem] at hrun
        rw [if_neg hmem] at HD
        have hBl : Below w3.heap.size w3 (w3.alloc (.cells #[] 115)) := (Below.refl _ w3).alloc (Nat.le_refl _) _
        obtain ⟨w5, hr5, hm5, k5, -⟩ := ((HM3.out).below hBl).run_put (by unfold maxLen; omega) hkl
        have HF : Hid (OkK w sb mb s d ks n R (.returned (.string (ba k))) w5) := by
          show OkK _ _ _ _ _ _ _ _ _ _
          rw [HD.out]
          refine ⟨Kp.trans (((HK3.out).mono (fun _ _ e => .inl e)).alloc _) k5 (fun _ _ e => .inr e), rfl, ((HR3.out).below hBl).keep k5 (fun e => hsm e.symm), hm5⟩
        clear hmem HD HR3 HK3 HM3 hm5 k5 hBl
        go_wp2_with fail
        go_ret
        exact HF.out
  · have HE : Hid (R = .bad 3 b.length) := by
      show _ = _
      rw [HD.out]
      cases b with
      | nil => rfl
      | cons x t => simp only; rw [if_neg (fun e => hx ⟨t, by rw [e]⟩)]; rfl
    have b1 : ((hdB b : Int) == 34) = false := by
      rw [beq_eq_false_iff_ne]; intro e
      cases b with
      | nil => simp [hdB] at e
      | cons x u => exact hx ⟨u, by rw [show x = 34 from UInt8.toNat_inj.1 (by have : ((x.toNat : Nat) : Int) = 34 := e; show x.toNat = 34; omega)]⟩
    have b2 : ((hdB b : Int) != 34) = true := by rw [bne, b1]; rfl
    have b3 : ¬ (hdB b : Int) = 34 := fun e => by rw [e] at b1; exact absurd b1 (by decide)
    clear hx HD
    generalize hdB b = hv at *
    go_wp2_with fail
    refine (HN.out).mono ?_
    rintro e w2 ⟨rfl, m, rfl⟩
    have HSP := hide (ostop_any sb s _ d _ ((HR1.out).drew m))
    have HF : Hid (OkK w sb mb s d ks n R (flt (pos s b : Nat) 3) (w1.drewN m)) := by
      show OkK _ _ _ _ _ _ _ _ _ _
      rw [HE.out]
      refine ⟨((HK1.out).drewN m).mono (fun _ _ e => .inl e), ?_⟩
      show flt _ _ = flt _ _
      rw [show s.size - b.length = pos s b by omega]; rfl
    clear HN HR1 HK1 HM1 HE1 HE
    go_wp2_with fail
    refine (HSP.out).mono ?_
    rintro e w4 ⟨rfl, rfl⟩
    go_wp2_with fail
    exact ⟨rfl, HF.out⟩
end Go.Proofs.YthdbnafiindgbaaGreatDoor
