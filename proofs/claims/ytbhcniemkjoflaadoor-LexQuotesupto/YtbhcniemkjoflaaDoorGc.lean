/- What a \ takes: a code point in digits of sixteen. -/
import Derived.Test.YtbhcniemkjoflaaDoorGb
namespace Go.Proofs.YtbhcniemkjoflaaDoor
open Go.RowKit
open M

def intOf : Value → Int | .int _ q => q | _ => 0
theorem rett {a a' : Int} {c c' : Bool} (h : a = a') (k : c = c') : Ending.returned (.tuple #[.int .i32 a, .bool c]) = .returned (.tuple #[.int .i32 a', .bool c']) := by rw [h, k]
theorem pow16 {k : Nat} (hk : k ≤ 5) {C : Int} (hC : C < ((16 ^ k : Nat) : Int)) : C ≤ 1048575 := by
  have h1 : 16 ^ k ≤ 16 ^ 5 := Nat.pow_le_pow_right (by omega) hk
  have h2 : (16 : Nat) ^ 5 = 1048576 := by decide
  omega
theorem pow16' {k : Nat} {C h : Int} (hC : C < ((16 ^ k : Nat) : Int)) (hh : h < 16) : C * 16 + h < ((16 ^ (k + 1) : Nat) : Int) := by
  rw [Nat.pow_succ]; omega
theorem pow16'' {k : Nat} (hk : k ≤ 6) {C : Int} (hC : C < ((16 ^ k : Nat) : Int)) : C ≤ 16777215 := by
  have h1 : 16 ^ k ≤ 16 ^ 6 := Nat.pow_le_pow_right (by omega) hk
  have h2 : (16 : Nat) ^ 6 = 16777216 := by decide
  omega

/-- Where the loop over the digits stands. -/
structure InHex (b : Nat) (s : ByteArray) (p : Nat) (w : World) (k : Nat) (C : Int) (wr : World) : Prop where
  rdr : Rdr wr b s (p + k)
  on : On b w wr
  lo : 0 ≤ C
  hi : C < ((16 ^ k : Nat) : Int)
  eq : hexs 6 0 ((bs s).drop p) = ((hexs (6 - k) C ((bs s).drop (p + k))).1, k + (hexs (6 - k) C ((bs s).drop (p + k))).2)

theorem InHex.stop {b : Nat} {s : ByteArray} {p : Nat} {w : World} {k : Nat} {C : Int} {wr : World} (h : InHex b s p w k C wr) (hk : k ≤ 6) (hx : ¬ (k < 6 ∧ 0 ≤ hexOf (cc ((bs s).drop (p + k))))) : hexs 6 0 ((bs s).drop p) = (C, k) := by
  rw [h.eq]
  by_cases h6 : k < 6
  · obtain ⟨m, hm⟩ : ∃ m, 6 - k = m + 1 := ⟨5 - k, by omega⟩
    rw [hm]; unfold hexs; rw [if_neg (fun h => hx ⟨h6, h⟩)]; rfl
  · have : 6 - k = 0 := by omega
    rw [this]; rfl
theorem InHex.next {b : Nat} {s : ByteArray} {p : Nat} {w : World} {k : Nat} {C : Int} {wr w2 : World} (h : InHex b s p w k C wr) (hk : k < 6) (hx : 0 ≤ hexOf (cc ((bs s).drop (p + k)))) (hr : Rdr w2 b s (p + k + 1)) (ho : On b wr w2) : InHex b s p w (k + 1) (C * 16 + hexOf (cc ((bs s).drop (p + k)))) w2 := by
  have hh := hexOf_lt (cc ((bs s).drop (p + k)))
  have h0 := h.lo
  refine ⟨hr, h.on.to ho, by omega, pow16' h.hi hh.2, ?_⟩
  rw [h.eq]
  obtain ⟨m, hm⟩ : ∃ m, 6 - k = m + 1 := ⟨5 - k, by omega⟩
  have hm2 : 6 - (k + 1) = m := by omega
  have ha := hexOf_ascii hx
  have z1 : sz ((bs s).drop (p + k)) = 1 := sz_cc (by omega) (by omega)
  rw [hm, hm2, show p + (k + 1) = p + k + 1 from rfl]
  conv => lhs; unfold hexs
  rw [if_pos hx, nx_drop, z1]
  simp only [Prod.mk.injEq]
  exact ⟨trivial, by omega⟩

set_option maxHeartbeats 4000000 in
theorem codePoint_any (b : Nat) (s : ByteArray) (p : Nat) (w : World) (h : Rdr w b s p) :
    Calls Tryd.prog 57 #[.pointer (some ⟨b, 0, none⟩)] w fun e w' => e = .returned (.tuple #[.int .i32 (code ((bs s).drop p)).1, .bool (code ((bs s).drop p)).2.1]) ∧ Rdr w' b s (p + (code ((bs s).drop p)).2.2) ∧ On b w w' := by
  have hs := h.big
  have hq := h.le
  obtain ⟨⟨c0, c1, c2, c3⟩, f0, f1, f2, f3⟩ := h.raw.facts
  by_cases g0 : cc ((bs s).drop p) = 123
  · have z1 : sz ((bs s).drop p) = 1 := sz_cc (by omega) (by omega)
    have hq1 : p + 1 ≤ s.size := by have := sz_drop_le hq; omega
    have HP := hide (pass_any b s p w h)
    have eN : nx ((bs s).drop p) = (bs s).drop (p + 1) := by rw [nx_drop, z1]
    have HC : Hid (code ((bs s).drop p) = if (hexs 6 0 ((bs s).drop (p + 1))).2 = 0 ∨ cc (((bs s).drop (p + 1)).drop (hexs 6 0 ((bs s).drop (p + 1))).2) ≠ 125 then (0, false, 1 + (hexs 6 0 ((bs s).drop (p + 1))).2)
        else ((hexs 6 0 ((bs s).drop (p + 1))).1, Lib.validRune (hexs 6 0 ((bs s).drop (p + 1))).1, 2 + (hexs 6 0 ((bs s).drop (p + 1))).2)) := by
      show _ = _
      unfold code; rw [if_pos g0, eN]
    rw [z1] at HP
    rw [g0] at c2
    clear g0 z1 eN
    go_enter Tryd.func57, Tryd.ntmps57
    go_wp2_with fail
    refine (HP.out).mono ?_
    rintro e w1 ⟨rfl, r1, k1⟩
    clear c0 c1 c2 c3 f0 f1 f2 f3
    go_wp2_with fail
    go_loopw [4, 5] (fun c i wr => ∃ (k : Nat) (C : Int), k ≤ 6 ∧ i = .int .i64 k ∧ c = .int .i32 C ∧ Hid (InHex b s (p + 1) w1 k C wr)) (fun _ i _ => 6 - (intOf i).toNat)
    case atStart => exact ⟨0, 0, by omega, rfl, rfl, ⟨r1, Kp.refl _ _, by omega, by decide, by simp⟩⟩
    case round =>
      obtain ⟨k, C, hk, rfl, rfl, HI⟩ := hrel
      obtain ⟨⟨c0, c1, c2, c3⟩, f0, f1, f2, f3⟩ := (HI.out).rdr.raw.facts
      have hhx := hexOf_lt (cc ((bs s).drop (p + 1 + k)))
      have hlo := (HI.out).lo
      have hhi := pow16'' hk (HI.out).hi
      by_cases hx : k < 6 ∧ 0 ≤ hexOf (cc ((bs s).drop (p + 1 + k)))
      · have h5 := pow16 (by omega : k ≤ 5) (HI.out).hi
        have HX := hide hx
        obtain ⟨hk6, hx0⟩ := hx
        have z2 : sz ((bs s).drop (p + 1 + k)) = 1 := by have := hexOf_ascii hx0; exact sz_cc (by omega) (by omega)
        have HP2 := hide (pass_any b s (p + 1 + k) _ (HI.out).rdr)
        rw [z2] at HP2
        clear z2
        have hk6' : (k : Int) < 6 := by omega
        go_wp2_with (first | (go_at_call 75; refine (hexOf_any _ _).mono ?_; rintro e w' ⟨rfl, rfl⟩) | (go_at_call 32; refine (HP2.out).mono ?_; rintro e w2 ⟨rfl, r2, k2⟩))
        go_roundw
        case rel => exact ⟨k + 1, _, by omega, by go_num, rfl, (HI.out).next hk6 (HX.out).2 r2 k2⟩
        case measure => simp [intOf]; omega
      · have HS := hide ((HI.out).stop hk hx)
        have hc2 : cc (((bs s).drop (p + 1)).drop k) = cc ((bs s).drop (p + 1 + k)) := by rw [List.drop_drop]
        have hvr : Hid (code ((bs s).drop p) = if k = 0 ∨ cc ((bs s).drop (p + 1 + k)) ≠ 125 then (0, false, 1 + k) else (C, Lib.validRune C, 2 + k)) := by
          show _ = _
          rw [HC.out, HS.out]; simp only; rw [hc2]
        clear hc2
        have HX := hide hx
        by_cases hk0 : k = 0
        · subst hk0
          have hx' : ¬ 0 ≤ hexOf (cc ((bs s).drop (p + 1 + 0))) := fun h => hx ⟨by omega, h⟩
          clear hx
          have hx2 : decide (0 ≤ hexOf (cc ((bs s).drop (p + 1 + 0)))) = false := by simpa using hx'
          clear hx'
          go_wp2_with (first | (go_at_call 75; refine (hexOf_any _ _).mono ?_; rintro e w' ⟨rfl, rfl⟩))
          go_ret2
          rw [hvr.out, if_pos (by simp)]
          exact ⟨rfl, (HI.out).rdr, k1.to (HI.out).on⟩
        have hkb : ((k : Int) == 0) = false := by simpa using hk0
        by_cases h125 : cc ((bs s).drop (p + 1 + k)) = 125
        · have HN : Hid (¬ (k = 0 ∨ cc ((bs s).drop (p + 1 + k)) ≠ 125)) := by show ¬ _; simp [hk0, h125]
          have z2 : sz ((bs s).drop (p + 1 + k)) = 1 := sz_cc (by omega) (by omega)
          have HP2 := hide (pass_any b s (p + 1 + k) _ (HI.out).rdr)
          have hx5 : hexOf (cc ((bs s).drop (p + 1 + k))) = -1 := by rw [h125]; decide
          rw [h125] at c2 hx5
          rw [z2] at HP2
          clear z2 hx hk0 h125 hhx
          by_cases hk6 : k < 6
          all_goals
            go_wp2_with (first | (go_at_call 75; refine (hexOf_any _ _).mono ?_; rintro e w' ⟨rfl, rfl⟩) | (go_at_call 32; refine (HP2.out).mono ?_; rintro e w2 ⟨rfl, r2, k2⟩) | (go_at_call 76; refine (Tryd.utf8_ValidRune _ _).mono ?_; rintro e w' ⟨rfl, rfl⟩))
            go_ret2
            rw [hvr.out, if_neg HN.out]
            refine ⟨rfl, ?_, (k1.to (HI.out).on).to k2⟩
            rw [show p + (2 + k) = p + 1 + k + 1 by omega]
            exact r2
        · have HN : Hid (k = 0 ∨ cc ((bs s).drop (p + 1 + k)) ≠ 125) := .inr h125
          have h1b : (cc ((bs s).drop (p + 1 + k)) == 125) = false := by simpa using h125
          clear hk0 h125
          by_cases hk6 : k < 6
          · have hx' : ¬ 0 ≤ hexOf (cc ((bs s).drop (p + 1 + k))) := fun h => hx ⟨hk6, h⟩
            have hx2 : decide (0 ≤ hexOf (cc ((bs s).drop (p + 1 + k)))) = false := by simpa using hx'
            clear hx hx'
            go_wp2_with (first | (go_at_call 75; refine (hexOf_any _ _).mono ?_; rintro e w' ⟨rfl, rfl⟩))
            go_ret2
            rw [hvr.out, if_pos HN.out]
            refine ⟨rfl, ?_, k1.to (HI.out).on⟩
            rw [show p + (1 + k) = p + 1 + k by omega]
            exact (HI.out).rdr
          · clear hx
            go_wp2_with (first | (go_at_call 75; refine (hexOf_any _ _).mono ?_; rintro e w' ⟨rfl, rfl⟩))
            go_ret2
            rw [hvr.out, if_pos HN.out]
            refine ⟨rfl, ?_, k1.to (HI.out).on⟩
            rw [show p + (1 + k) = p + 1 + k by omega]
            exact (HI.out).rdr
  · have b0 : (cc ((bs s).drop p) == 123) = false := by simpa using g0
    have HC : Hid (code ((bs s).drop p) = (0, false, 0)) := by show _ = _; unfold code; rw [if_neg g0]
    clear g0
    go_enter Tryd.func57, Tryd.ntmps57
    go_wp2_with fail
    go_ret2
    rw [HC.out]
    exact ⟨rfl, h, Kp.refl _ _⟩
end Go.Proofs.YtbhcniemkjoflaaDoor
