/- The document's own tokens: numbers. -/
import Derived.Test.YtbhcniemkjoflaaDoorFb
namespace Go.Proofs.YtbhcniemkjoflaaDoor
open Go.RowKit
open M

def dk (n : Nat) : Nat := if 18 < n then 8 else 5
theorem dig_at_yes {s : ByteArray} {k : Nat} (h : k < s.size) (h1 : 48 ≤ (s[k]'h).toNat) (h2 : (s[k]'h).toNat ≤ 57) : skip isDg ((bs s).drop k) = 1 + skip isDg ((bs s).drop (k + 1)) :=
  skip_at_yes h (by omega : (s[k]'h).toNat < 128) rfl (by unfold isDg; rw [decide_eq_true_iff]; omega)
theorem dig_at_no {s : ByteArray} {k : Nat} (h : k < s.size) (h1 : ¬ (48 ≤ (s[k]'h).toNat ∧ (s[k]'h).toNat ≤ 57)) : skip isDg ((bs s).drop k) = 0 := by
  refine skip_no ?_
  unfold isDg; rw [decide_eq_false_iff_not]
  intro e
  by_cases h2 : (s[k]'h).toNat < 128
  · have := (byte_lo h h2).1; omega
  · have := byte_hi h (by omega); omega

set_option maxRecDepth 100000 in
set_option maxHeartbeats 8000000 in
theorem one_digit (s : ByteArray) (p : Nat) (w : World) (hs : s.size ≤ 1073741824) (hp : p < s.size) (hc1 : 48 ≤ cc ((bs s).drop p)) (hc2 : cc ((bs s).drop p) ≤ 57) :
    Calls Tryd.prog 27 #[.string s, .int .i64 p] w fun e w' => e = .returned (.agg #[.int .i64 (dk (skip isDg ((bs s).drop p)) : Nat), .int .i64 p, .int .i64 (skip isDg ((bs s).drop p) : Nat)]) ∧ Below w.heap.size w w' := by
  have b9 : (cc ((bs s).drop p) == 9) = false := by simp; omega
  have b10 : (cc ((bs s).drop p) == 10) = false := by simp; omega
  have b13 : (cc ((bs s).drop p) == 13) = false := by simp; omega
  have b32 : (cc ((bs s).drop p) == 32) = false := by simp; omega
  have hh : hasB s p 123 45 = false := hasB_not (by omega)
  have hh0 : hasB s p 45 45 = false := hasB_not (by omega)
  have hlt : isLt (cc ((bs s).drop p)) = false := by unfold isLt; rw [decide_eq_false_iff_not]; omega
  go_enter Tryd.func27, Tryd.ntmps27
  go_wp2_with fail
  refine (refRune_at s p _ hp).mono ?_
  rintro e w' ⟨rfl, rfl⟩
  go_wp2_with fail
  refine (refLetter_any _ _).mono ?_
  rintro e w' ⟨rfl, rfl⟩
  go_wp2_with fail
  refine (has_45_45 s p _ hp hs).mono ?_
  rintro e w' ⟨rfl, rfl⟩
  go_wp2_with fail
  refine (has_123_45 s p _ hp hs).mono ?_
  rintro e w' ⟨rfl, rfl⟩
  go_wp2_with fail
  go_loop [8] (fun i => ∃ k : Nat, i = .int .i64 k ∧ p ≤ k ∧ k ≤ s.size ∧ Hid (p + skip isDg ((bs s).drop p) = k + skip isDg ((bs s).drop k))) (fun i => s.size - (intOf i).toNat)
  case atStart => exact ⟨p, rfl, Nat.le_refl _, by omega, rfl⟩
  case round =>
    obtain ⟨k, rfl, hpk, hk, HI⟩ := hrel
    by_cases hk1 : k < s.size
    case neg =>
      have HT : Hid (p + skip isDg ((bs s).drop p) = k) := by
        show _ = _
        have h := HI.out
        rw [show (bs s).drop k = [] by rw [List.drop_eq_nil_iff, bs_len]; omega, skip_nil] at h
        exact h
      by_cases h18 : (18 : Int) < (k : Int) - (p : Int)
      · go_wp2_with fail
        refine bodyPost_ret (v := .agg #[.int .i64 8, .int .i64 p, .int .i64 ((k : Int) - (p : Int))]) (by simp [results, Tryd.results27, go_sem]) rfl ⟨ret_tk (by unfold dk; rw [if_pos (by have h := HT.out; omega)]; rfl) rfl ?_, (Below.refl _ _).alloc (Nat.le_refl _) _⟩
        have h := HT.out
        omega
      · go_wp2_with fail
        refine bodyPost_ret (v := .agg #[.int .i64 5, .int .i64 p, .int .i64 ((k : Int) - (p : Int))]) (by simp [results, Tryd.results27, go_sem]) rfl ⟨ret_tk (by unfold dk; rw [if_neg (by have h := HT.out; omega)]; rfl) rfl ?_, (Below.refl _ _).alloc (Nat.le_refl _) _⟩
        have h := HT.out
        omega
    have i1 : (k : Int) < (s.size : Int) := by omega
    by_cases g1 : 48 ≤ (s[k]'hk1).toNat
    · have j1 : decide ((48 : Int) ≤ ((s[k]'hk1).toNat : Int)) = true := by simp; omega
      by_cases g2 : (s[k]'hk1).toNat ≤ 57
      · have j2 : decide (((s[k]'hk1).toNat : Int) ≤ 57) = true := by simp; omega
        have HN := hide (dig_at_yes hk1 g1 g2)
        clear g1 g2
        go_wp2_with fail
        go_round
        case rel => have h := HI.out; rw [HN.out] at h; exact ⟨k + 1, by go_num, by omega, by omega, by show _ = _; omega⟩
        case measure => simp [intOf]; omega
      · have j2 : decide (((s[k]'hk1).toNat : Int) ≤ 57) = false := by simp; omega
        have HT : Hid (p + skip isDg ((bs s).drop p) = k) := by show _ = _; have h := HI.out; rw [dig_at_no hk1 (by omega)] at h; exact h
        clear g1 g2
        by_cases h18 : (18 : Int) < (k : Int) - (p : Int)
        · go_wp2_with fail
          refine bodyPost_ret (v := .agg #[.int .i64 8, .int .i64 p, .int .i64 ((k : Int) - (p : Int))]) (by simp [results, Tryd.results27, go_sem]) rfl ⟨ret_tk (by unfold dk; rw [if_pos (by have h := HT.out; omega)]; rfl) rfl ?_, (Below.refl _ _).alloc (Nat.le_refl _) _⟩
          have h := HT.out
          omega
        · go_wp2_with fail
          refine bodyPost_ret (v := .agg #[.int .i64 5, .int .i64 p, .int .i64 ((k : Int) - (p : Int))]) (by simp [results, Tryd.results27, go_sem]) rfl ⟨ret_tk (by unfold dk; rw [if_neg (by have h := HT.out; omega)]; rfl) rfl ?_, (Below.refl _ _).alloc (Nat.le_refl _) _⟩
          have h := HT.out
          omega
    · have j1 : decide ((48 : Int) ≤ ((s[k]'hk1).toNat : Int)) = false := by simp; omega
      have HT : Hid (p + skip isDg ((bs s).drop p) = k) := by show _ = _; have h := HI.out; rw [dig_at_no hk1 (by omega)] at h; exact h
      clear g1
      by_cases h18 : (18 : Int) < (k : Int) - (p : Int)
      · go_wp2_with fail
        refine bodyPost_ret (v := .agg #[.int .i64 8, .int .i64 p, .int .i64 ((k : Int) - (p : Int))]) (by simp [results, Tryd.results27, go_sem]) rfl ⟨ret_tk (by unfold dk; rw [if_pos (by have h := HT.out; omega)]; rfl) rfl ?_, (Below.refl _ _).alloc (Nat.le_refl _) _⟩
        have h := HT.out
        omega
      · go_wp2_with fail
        refine bodyPost_ret (v := .agg #[.int .i64 5, .int .i64 p, .int .i64 ((k : Int) - (p : Int))]) (by simp [results, Tryd.results27, go_sem]) rfl ⟨ret_tk (by unfold dk; rw [if_neg (by have h := HT.out; omega)]; rfl) rfl ?_, (Below.refl _ _).alloc (Nat.le_refl _) _⟩
        have h := HT.out
        omega
end Go.Proofs.YtbhcniemkjoflaaDoor
