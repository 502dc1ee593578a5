/- The document's own tokens: spaces, and remarks up to the end of a line. -/
import Derived.Test.YtbhcniemkjoflaaDoorEf
namespace Go.Proofs.YtbhcniemkjoflaaDoor
open Go.RowKit
open M

theorem skip_at_yes {P : Int → Bool} {s : ByteArray} {k c : Nat} (h : k < s.size) (hc : c < 128) (hx : (s[k]'h).toNat = c) (hP : P (c : Int) = true) : skip P ((bs s).drop k) = 1 + skip P ((bs s).drop (k + 1)) := by
  have e : cc ((bs s).drop k) = (c : Int) := (byte_cc h hc).2 hx
  have z : sz ((bs s).drop k) = 1 := sz_cc (by omega) (by omega)
  rw [skip_yes (drop_ne h) (by rw [e]; exact hP), nx_at z, z]
theorem isSp_no {s : ByteArray} {k : Nat} (h : k < s.size) (h1 : (s[k]'h).toNat ≠ 9) (h2 : (s[k]'h).toNat ≠ 10) (h3 : (s[k]'h).toNat ≠ 13) (h4 : (s[k]'h).toNat ≠ 32) : isSp (cc ((bs s).drop k)) = false := by
  unfold isSp; rw [decide_eq_false_iff_not]
  rintro (e | e | e | e)
  · exact h4 ((byte_cc h (c := 32) (by omega)).1 e)
  · exact h2 ((byte_cc h (c := 10) (by omega)).1 e)
  · exact h1 ((byte_cc h (c := 9) (by omega)).1 e)
  · exact h3 ((byte_cc h (c := 13) (by omega)).1 e)
theorem ret_tk {a a' b b' c c' : Int} (h1 : a = a') (h2 : b = b') (h3 : c = c') : Ending.returned (.agg #[.int .i64 a, .int .i64 b, .int .i64 c]) = .returned (.agg #[.int .i64 a', .int .i64 b', .int .i64 c']) := by rw [h1, h2, h3]

set_option maxRecDepth 100000 in
set_option maxHeartbeats 8000000 in
theorem one_space (s : ByteArray) (p : Nat) (w : World) (hs : s.size ≤ 1073741824) (hp : p < s.size) (hc : isSp (cc ((bs s).drop p)) = true) :
    Calls Tryd.prog 27 #[.string s, .int .i64 p] w fun e w' => e = .returned (.agg #[.int .i64 1, .int .i64 p, .int .i64 (skip isSp ((bs s).drop p) : Nat)]) ∧ Below w.heap.size w w' := by
  have hc' : cc ((bs s).drop p) = 9 ∨ cc ((bs s).drop p) = 10 ∨ cc ((bs s).drop p) = 13 ∨ cc ((bs s).drop p) = 32 := by
    unfold isSp at hc; simp only [decide_eq_true_eq] at hc; omega
  clear hc
  obtain ⟨c, hcc⟩ : ∃ c, cc ((bs s).drop p) = c := ⟨_, rfl⟩
  rw [hcc] at hc'
  rcases hc' with rfl | rfl | rfl | rfl
  · have HC := hide hcc
    go_enter Tryd.func27, Tryd.ntmps27
    go_wp2_with fail
    refine (refRune_at s p _ hp).mono ?_
    rintro e w' ⟨rfl, rfl⟩
    rw [HC.out]
    clear hcc
    go_wp2_with fail
    refine (refLetter_any _ _).mono ?_
    rintro e w' ⟨rfl, rfl⟩
    go_wp2_with fail
    go_loop [8] (fun i => ∃ k : Nat, i = .int .i64 k ∧ p ≤ k ∧ k ≤ s.size ∧ Hid (p + skip isSp ((bs s).drop p) = k + skip isSp ((bs s).drop k))) (fun i => s.size - (intOf i).toNat)
    case atStart => exact ⟨p, rfl, Nat.le_refl _, by omega, rfl⟩
    case round =>
      obtain ⟨k, rfl, hpk, hk, HI⟩ := hrel
      by_cases hk1 : k < s.size
      case neg =>
        have HE : Hid ((bs s).drop k = []) := by show _ = _; rw [List.drop_eq_nil_iff, bs_len]; omega
        go_wp2_with fail
        refine bodyPost_ret (v := .agg #[.int .i64 1, .int .i64 p, .int .i64 ((k : Int) - (p : Int))]) (by simp [results, Tryd.results27, go_sem]) rfl ⟨ret_tk rfl rfl ?_, (Below.refl _ _).alloc (Nat.le_refl _) _⟩
        have h := HI.out
        rw [HE.out, skip_nil] at h
        omega
      have i1 : (k : Int) < (s.size : Int) := by omega
      by_cases g9 : (s[k]'hk1).toNat = 9
      · have HN := hide (skip_at_yes (P := isSp) hk1 (by omega : 9 < 128) g9 (by decide))
        have gu : (s[k]'hk1) = 9 := by rw [← UInt8.toNat_inj]; exact g9
        go_wp2_with fail
        go_round
        case rel => have h := HI.out; rw [HN.out] at h; exact ⟨k + 1, by go_num, by omega, by omega, by show _ = _; omega⟩
        case measure => simp [intOf]; omega
      by_cases g10 : (s[k]'hk1).toNat = 10
      · have HN := hide (skip_at_yes (P := isSp) hk1 (by omega : 10 < 128) g10 (by decide))
        have gu : (s[k]'hk1) = 10 := by rw [← UInt8.toNat_inj]; exact g10
        go_wp2_with fail
        go_round
        case rel => have h := HI.out; rw [HN.out] at h; exact ⟨k + 1, by go_num, by omega, by omega, by show _ = _; omega⟩
        case measure => simp [intOf]; omega
      by_cases g13 : (s[k]'hk1).toNat = 13
      · have HN := hide (skip_at_yes (P := isSp) hk1 (by omega : 13 < 128) g13 (by decide))
        have gu : (s[k]'hk1) = 13 := by rw [← UInt8.toNat_inj]; exact g13
        go_wp2_with fail
        go_round
        case rel => have h := HI.out; rw [HN.out] at h; exact ⟨k + 1, by go_num, by omega, by omega, by show _ = _; omega⟩
        case measure => simp [intOf]; omega
      by_cases g32 : (s[k]'hk1).toNat = 32
      · have HN := hide (skip_at_yes (P := isSp) hk1 (by omega : 32 < 128) g32 (by decide))
        have gu : (s[k]'hk1) = 32 := by rw [← UInt8.toNat_inj]; exact g32
        go_wp2_with fail
        go_round
        case rel => have h := HI.out; rw [HN.out] at h; exact ⟨k + 1, by go_num, by omega, by omega, by show _ = _; omega⟩
        case measure => simp [intOf]; omega
      have HN := hide (skip_no (isSp_no hk1 g9 g10 g13 g32))
      have b9 : (((s[k]'hk1).toNat : Int) == 9) = false := by simp; omega
      have b10 : (((s[k]'hk1).toNat : Int) == 10) = false := by simp; omega
      have b13 : (((s[k]'hk1).toNat : Int) == 13) = false := by simp; omega
      have b32 : (((s[k]'hk1).toNat : Int) == 32) = false := by simp; omega
      clear g9 g10 g13 g32
      go_wp2_with fail
      refine bodyPost_ret (v := .agg #[.int .i64 1, .int .i64 p, .int .i64 ((k : Int) - (p : Int))]) (by simp [results, Tryd.results27, go_sem]) rfl ⟨ret_tk rfl rfl ?_, (Below.refl _ _).alloc (Nat.le_refl _) _⟩
      have h := HI.out
      rw [HN.out] at h
      omega
  · have HC := hide hcc
    go_enter Tryd.func27, Tryd.ntmps27
    go_wp2_with fail
    refine (refRune_at s p _ hp).mono ?_
    rintro e w' ⟨rfl, rfl⟩
    rw [HC.out]
    clear hcc
    go_wp2_with fail
    refine (refLetter_any _ _).mono ?_
    rintro e w' ⟨rfl, rfl⟩
    go_wp2_with fail
    go_loop [8] (fun i => ∃ k : Nat, i = .int .i64 k ∧ p ≤ k ∧ k ≤ s.size ∧ Hid (p + skip isSp ((bs s).drop p) = k + skip isSp ((bs s).drop k))) (fun i => s.size - (intOf i).toNat)
    case atStart => exact ⟨p, rfl, Nat.le_refl _, by omega, rfl⟩
    case round =>
      obtain ⟨k, rfl, hpk, hk, HI⟩ := hrel
      by_cases hk1 : k < s.size
      case neg =>
        have HE : Hid ((bs s).drop k = []) := by show _ = _; rw [List.drop_eq_nil_iff, bs_len]; omega
        go_wp2_with fail
        refine bodyPost_ret (v := .agg #[.int .i64 1, .int .i64 p, .int .i64 ((k : Int) - (p : Int))]) (by simp [results, Tryd.results27, go_sem]) rfl ⟨ret_tk rfl rfl ?_, (Below.refl _ _).alloc (Nat.le_refl _) _⟩
        have h := HI.out
        rw [HE.out, skip_nil] at h
        omega
      have i1 : (k : Int) < (s.size : Int) := by omega
      by_cases g9 : (s[k]'hk1).toNat = 9
      · have HN := hide (skip_at_yes (P := isSp) hk1 (by omega : 9 < 128) g9 (by decide))
        have gu : (s[k]'hk1) = 9 := by rw [← UInt8.toNat_inj]; exact g9
        go_wp2_with fail
        go_round
        case rel => have h := HI.out; rw [HN.out] at h; exact ⟨k + 1, by go_num, by omega, by omega, by show _ = _; omega⟩
        case measure => simp [intOf]; omega
      by_cases g10 : (s[k]'hk1).toNat = 10
      · have HN := hide (skip_at_yes (P := isSp) hk1 (by omega : 10 < 128) g10 (by decide))
        have gu : (s[k]'hk1) = 10 := by rw [← UInt8.toNat_inj]; exact g10
        go_wp2_with fail
        go_round
        case rel => have h := HI.out; rw [HN.out] at h; exact ⟨k + 1, by go_num, by omega, by omega, by show _ = _; omega⟩
        case measure => simp [intOf]; omega
      by_cases g13 : (s[k]'hk1).toNat = 13
      · have HN := hide (skip_at_yes (P := isSp) hk1 (by omega : 13 < 128) g13 (by decide))
        have gu : (s[k]'hk1) = 13 := by rw [← UInt8.toNat_inj]; exact g13
        go_wp2_with fail
        go_round
        case rel => have h := HI.out; rw [HN.out] at h; exact ⟨k + 1, by go_num, by omega, by omega, by show _ = _; omega⟩
        case measure => simp [intOf]; omega
      by_cases g32 : (s[k]'hk1).toNat = 32
      · have HN := hide (skip_at_yes (P := isSp) hk1 (by omega : 32 < 128) g32 (by decide))
        have gu : (s[k]'hk1) = 32 := by rw [← UInt8.toNat_inj]; exact g32
        go_wp2_with fail
        go_round
        case rel => have h := HI.out; rw [HN.out] at h; exact ⟨k + 1, by go_num, by omega, by omega, by show _ = _; omega⟩
        case measure => simp [intOf]; omega
      have HN := hide (skip_no (isSp_no hk1 g9 g10 g13 g32))
      have b9 : (((s[k]'hk1).toNat : Int) == 9) = false := by simp; omega
      have b10 : (((s[k]'hk1).toNat : Int) == 10) = false := by simp; omega
      have b13 : (((s[k]'hk1).toNat : Int) == 13) = false := by simp; omega
      have b32 : (((s[k]'hk1).toNat : Int) == 32) = false := by simp; omega
      clear g9 g10 g13 g32
      go_wp2_with fail
      refine bodyPost_ret (v := .agg #[.int .i64 1, .int .i64 p, .int .i64 ((k : Int) - (p : Int))]) (by simp [results, Tryd.results27, go_sem]) rfl ⟨ret_tk rfl rfl ?_, (Below.refl _ _).alloc (Nat.le_refl _) _⟩
      have h := HI.out
      rw [HN.out] at h
      omega
  · have HC := hide hcc
    go_enter Tryd.func27, Tryd.ntmps27
    go_wp2_with fail
    refine (refRune_at s p _ hp).mono ?_
    rintro e w' ⟨rfl, rfl⟩
    rw [HC.out]
    clear hcc
    go_wp2_with fail
    refine (refLetter_any _ _).mono ?_
    rintro e w' ⟨rfl, rfl⟩
    go_wp2_with fail
    go_loop [8] (fun i => ∃ k : Nat, i = .int .i64 k ∧ p ≤ k ∧ k ≤ s.size ∧ Hid (p + skip isSp ((bs s).drop p) = k + skip isSp ((bs s).drop k))) (fun i => s.size - (intOf i).toNat)
    case atStart => exact ⟨p, rfl, Nat.le_refl _, by omega, rfl⟩
    case round =>
      obtain ⟨k, rfl, hpk, hk, HI⟩ := hrel
      by_cases hk1 : k < s.size
      case neg =>
        have HE : Hid ((bs s).drop k = []) := by show _ = _; rw [List.drop_eq_nil_iff, bs_len]; omega
        go_wp2_with fail
        refine bodyPost_ret (v := .agg #[.int .i64 1, .int .i64 p, .int .i64 ((k : Int) - (p : Int))]) (by simp [results, Tryd.results27, go_sem]) rfl ⟨ret_tk rfl rfl ?_, (Below.refl _ _).alloc (Nat.le_refl _) _⟩
        have h := HI.out
        rw [HE.out, skip_nil] at h
        omega
      have i1 : (k : Int) < (s.size : Int) := by omega
      by_cases g9 : (s[k]'hk1).toNat = 9
      · have HN := hide (skip_at_yes (P := isSp) hk1 (by omega : 9 < 128) g9 (by decide))
        have gu : (s[k]'hk1) = 9 := by rw [← UInt8.toNat_inj]; exact g9
        go_wp2_with fail
        go_round
        case rel => have h := HI.out; rw [HN.out] at h; exact ⟨k + 1, by go_num, by omega, by omega, by show _ = _; omega⟩
        case measure => simp [intOf]; omega
      by_cases g10 : (s[k]'hk1).toNat = 10
      · have HN := hide (skip_at_yes (P := isSp) hk1 (by omega : 10 < 128) g10 (by decide))
        have gu : (s[k]'hk1) = 10 := by rw [← UInt8.toNat_inj]; exact g10
        go_wp2_with fail
        go_round
        case rel => have h := HI.out; rw [HN.out] at h; exact ⟨k + 1, by go_num, by omega, by omega, by show _ = _; omega⟩
        case measure => simp [intOf]; omega
      by_cases g13 : (s[k]'hk1).toNat = 13
      · have HN := hide (skip_at_yes (P := isSp) hk1 (by omega : 13 < 128) g13 (by decide))
        have gu : (s[k]'hk1) = 13 := by rw [← UInt8.toNat_inj]; exact g13
        go_wp2_with fail
        go_round
        case rel => have h := HI.out; rw [HN.out] at h; exact ⟨k + 1, by go_num, by omega, by omega, by show _ = _; omega⟩
        case measure => simp [intOf]; omega
      by_cases g32 : (s[k]'hk1).toNat = 32
      · have HN := hide (skip_at_yes (P := isSp) hk1 (by omega : 32 < 128) g32 (by decide))
        have gu : (s[k]'hk1) = 32 := by rw [← UInt8.toNat_inj]; exact g32
        go_wp2_with fail
        go_round
        case rel => have h := HI.out; rw [HN.out] at h; exact ⟨k + 1, by go_num, by omega, by omega, by show _ = _; omega⟩
        case measure => simp [intOf]; omega
      have HN := hide (skip_no (isSp_no hk1 g9 g10 g13 g32))
      have b9 : (((s[k]'hk1).toNat : Int) == 9) = false := by simp; omega
      have b10 : (((s[k]'hk1).toNat : Int) == 10) = false := by simp; omega
      have b13 : (((s[k]'hk1).toNat : Int) == 13) = false := by simp; omega
      have b32 : (((s[k]'hk1).toNat : Int) == 32) = false := by simp; omega
      clear g9 g10 g13 g32
      go_wp2_with fail
      refine bodyPost_ret (v := .agg #[.int .i64 1, .int .i64 p, .int .i64 ((k : Int) - (p : Int))]) (by simp [results, Tryd.results27, go_sem]) rfl ⟨ret_tk rfl rfl ?_, (Below.refl _ _).alloc (Nat.le_refl _) _⟩
      have h := HI.out
      rw [HN.out] at h
      omega
  · have HC := hide hcc
    go_enter Tryd.func27, Tryd.ntmps27
    go_wp2_with fail
    refine (refRune_at s p _ hp).mono ?_
    rintro e w' ⟨rfl, rfl⟩
    rw [HC.out]
    clear hcc
    go_wp2_with fail
    refine (refLetter_any _ _).mono ?_
    rintro e w' ⟨rfl, rfl⟩
    go_wp2_with fail
    go_loop [8] (fun i => ∃ k : Nat, i = .int .i64 k ∧ p ≤ k ∧ k ≤ s.size ∧ Hid (p + skip isSp ((bs s).drop p) = k + skip isSp ((bs s).drop k))) (fun i => s.size - (intOf i).toNat)
    case atStart => exact ⟨p, rfl, Nat.le_refl _, by omega, rfl⟩
    case round =>
      obtain ⟨k, rfl, hpk, hk, HI⟩ := hrel
      by_cases hk1 : k < s.size
      case neg =>
        have HE : Hid ((bs s).drop k = []) := by show _ = _; rw [List.drop_eq_nil_iff, bs_len]; omega
        go_wp2_with fail
        refine bodyPost_ret (v := .agg #[.int .i64 1, .int .i64 p, .int .i64 ((k : Int) - (p : Int))]) (by simp [results, Tryd.results27, go_sem]) rfl ⟨ret_tk rfl rfl ?_, (Below.refl _ _).alloc (Nat.le_refl _) _⟩
        have h := HI.out
        rw [HE.out, skip_nil] at h
        omega
      have i1 : (k : Int) < (s.size : Int) := by omega
      by_cases g9 : (s[k]'hk1).toNat = 9
      · have HN := hide (skip_at_yes (P := isSp) hk1 (by omega : 9 < 128) g9 (by decide))
        have gu : (s[k]'hk1) = 9 := by rw [← UInt8.toNat_inj]; exact g9
        go_wp2_with fail
        go_round
        case rel => have h := HI.out; rw [HN.out] at h; exact ⟨k + 1, by go_num, by omega, by omega, by show _ = _; omega⟩
        case measure => simp [intOf]; omega
      by_cases g10 : (s[k]'hk1).toNat = 10
      · have HN := hide (skip_at_yes (P := isSp) hk1 (by omega : 10 < 128) g10 (by decide))
        have gu : (s[k]'hk1) = 10 := by rw [← UInt8.toNat_inj]; exact g10
        go_wp2_with fail
        go_round
        case rel => have h := HI.out; rw [HN.out] at h; exact ⟨k + 1, by go_num, by omega, by omega, by show _ = _; omega⟩
        case measure => simp [intOf]; omega
      by_cases g13 : (s[k]'hk1).toNat = 13
      · have HN := hide (skip_at_yes (P := isSp) hk1 (by omega : 13 < 128) g13 (by decide))
        have gu : (s[k]'hk1) = 13 := by rw [← UInt8.toNat_inj]; exact g13
        go_wp2_with fail
        go_round
        case rel => have h := HI.out; rw [HN.out] at h; exact ⟨k + 1, by go_num, by omega, by omega, by show _ = _; omega⟩
        case measure => simp [intOf]; omega
      by_cases g32 : (s[k]'hk1).toNat = 32
      · have HN := hide (skip_at_yes (P := isSp) hk1 (by omega : 32 < 128) g32 (by decide))
        have gu : (s[k]'hk1) = 32 := by rw [← UInt8.toNat_inj]; exact g32
        go_wp2_with fail
        go_round
        case rel => have h := HI.out; rw [HN.out] at h; exact ⟨k + 1, by go_num, by omega, by omega, by show _ = _; omega⟩
        case measure => simp [intOf]; omega
      have HN := hide (skip_no (isSp_no hk1 g9 g10 g13 g32))
      have b9 : (((s[k]'hk1).toNat : Int) == 9) = false := by simp; omega
      have b10 : (((s[k]'hk1).toNat : Int) == 10) = false := by simp; omega
      have b13 : (((s[k]'hk1).toNat : Int) == 13) = false := by simp; omega
      have b32 : (((s[k]'hk1).toNat : Int) == 32) = false := by simp; omega
      clear g9 g10 g13 g32
      go_wp2_with fail
      refine bodyPost_ret (v := .agg #[.int .i64 1, .int .i64 p, .int .i64 ((k : Int) - (p : Int))]) (by simp [results, Tryd.results27, go_sem]) rfl ⟨ret_tk rfl rfl ?_, (Below.refl _ _).alloc (Nat.le_refl _) _⟩
      have h := HI.out
      rw [HN.out] at h
      omega
end Go.Proofs.YtbhcniemkjoflaaDoor
