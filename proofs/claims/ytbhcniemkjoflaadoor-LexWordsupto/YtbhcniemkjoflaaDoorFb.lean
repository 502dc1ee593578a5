/- The document's own tokens: remarks. -/
import Derived.Test.YtbhcniemkjoflaaDoorFa
namespace Go.Proofs.YtbhcniemkjoflaaDoor
open Go.RowKit
open M
theorem has_45_45 (s : ByteArray) (k : Nat) (w : World) (hk : k < s.size) (hs : s.size ≤ 1073741824) :
    Calls Tryd.prog 52 #[.string s, .int .i64 k, .int .u8 45, .int .u8 45] w fun e w' => e = .returned (.bool (hasB s k 45 45)) ∧ w' = w := has_any s k 45 45 w hk hs (by omega) (by omega)
theorem has_123_45 (s : ByteArray) (k : Nat) (w : World) (hk : k < s.size) (hs : s.size ≤ 1073741824) :
    Calls Tryd.prog 52 #[.string s, .int .i64 k, .int .u8 123, .int .u8 45] w fun e w' => e = .returned (.bool (hasB s k 123 45)) ∧ w' = w := has_any s k 123 45 w hk hs (by omega) (by omega)
theorem has_61_62 (s : ByteArray) (k : Nat) (w : World) (hk : k < s.size) (hs : s.size ≤ 1073741824) :
    Calls Tryd.prog 52 #[.string s, .int .i64 k, .int .u8 61, .int .u8 62] w fun e w' => e = .returned (.bool (hasB s k 61 62)) ∧ w' = w := has_any s k 61 62 w hk hs (by omega) (by omega)
theorem has_61_61 (s : ByteArray) (k : Nat) (w : World) (hk : k < s.size) (hs : s.size ≤ 1073741824) :
    Calls Tryd.prog 52 #[.string s, .int .i64 k, .int .u8 61, .int .u8 61] w fun e w' => e = .returned (.bool (hasB s k 61 61)) ∧ w' = w := has_any s k 61 61 w hk hs (by omega) (by omega)
theorem has_43_43 (s : ByteArray) (k : Nat) (w : World) (hk : k < s.size) (hs : s.size ≤ 1073741824) :
    Calls Tryd.prog 52 #[.string s, .int .i64 k, .int .u8 43, .int .u8 43] w fun e w' => e = .returned (.bool (hasB s k 43 43)) ∧ w' = w := has_any s k 43 43 w hk hs (by omega) (by omega)
theorem hasB_not {s : ByteArray} {k a b : Nat} (h : cc ((bs s).drop k) ≠ (a : Int)) : hasB s k a b = false := by
  unfold hasB; exact decide_eq_false (fun e => h e.1)
theorem hasB_not2 {s : ByteArray} {k a b : Nat} (h : cc ((bs s).drop (k + 1)) ≠ (b : Int)) : hasB s k a b = false := by
  unfold hasB; exact decide_eq_false (fun e => h e.2)
theorem ln_at_yes {s : ByteArray} {k : Nat} (h : k < s.size) (hx : (s[k]'h).toNat ≠ 10) : ln ((bs s).drop k) = 1 + ln ((bs s).drop (k + 1)) := by
  have e : ((bs s).drop k).getD 0 0 = s[k]'h := by
    rw [List.getD_eq_getElem?_getD, List.getElem?_drop, Nat.add_zero, ← List.getD_eq_getElem?_getD, getD_bs s k h]
  rw [ln_yes (drop_ne h) (by rw [e]; exact hx), List.drop_drop]
theorem ln_at_no {s : ByteArray} {k : Nat} (h : k < s.size) (hx : (s[k]'h).toNat = 10) : ln ((bs s).drop k) = 0 := by
  have e : ((bs s).drop k).getD 0 0 = s[k]'h := by
    rw [List.getD_eq_getElem?_getD, List.getElem?_drop, Nat.add_zero, ← List.getD_eq_getElem?_getD, getD_bs s k h]
  exact ln_no (by rw [e]; exact hx)

set_option maxRecDepth 100000 in
set_option maxHeartbeats 8000000 in
theorem one_line (s : ByteArray) (p : Nat) (w : World) (hs : s.size ≤ 1073741824) (hp : p < s.size) (hc : cc ((bs s).drop p) = 45) (hc1 : cc ((bs s).drop (p + 1)) = 45) :
    Calls Tryd.prog 27 #[.string s, .int .i64 p] w fun e w' => e = .returned (.agg #[.int .i64 2, .int .i64 p, .int .i64 (ln ((bs s).drop p) : Nat)]) ∧ Below w.heap.size w w' := by
  have HC := hide hc
  have hh : hasB s p 45 45 = true := hasB_of hc hc1
  go_enter Tryd.func27, Tryd.ntmps27
  go_wp2_with fail
  refine (refRune_at s p _ hp).mono ?_
  rintro e w' ⟨rfl, rfl⟩
  rw [HC.out]
  clear hc
  go_wp2_with fail
  refine (refLetter_any _ _).mono ?_
  rintro e w' ⟨rfl, rfl⟩
  go_wp2_with fail
  refine (has_45_45 s p _ hp hs).mono ?_
  rintro e w' ⟨rfl, rfl⟩
  go_wp2_with fail
  go_loop [8] (fun i => ∃ k : Nat, i = .int .i64 k ∧ p ≤ k ∧ k ≤ s.size ∧ Hid (p + ln ((bs s).drop p) = k + ln ((bs s).drop k))) (fun i => s.size - (intOf i).toNat)
  case atStart => exact ⟨p, rfl, Nat.le_refl _, by omega, rfl⟩
  case round =>
    obtain ⟨k, rfl, hpk, hk, HI⟩ := hrel
    by_cases hk1 : k < s.size
    case neg =>
      have HE : Hid ((bs s).drop k = []) := by show _ = _; rw [List.drop_eq_nil_iff, bs_len]; omega
      go_wp2_with fail
      refine bodyPost_ret (v := .agg #[.int .i64 2, .int .i64 p, .int .i64 ((k : Int) - (p : Int))]) (by simp [results, Tryd.results27, go_sem]) rfl ⟨ret_tk rfl rfl ?_, (Below.refl _ _).alloc (Nat.le_refl _) _⟩
      have h := HI.out
      rw [HE.out, ln_nil] at h
      omega
    have i1 : (k : Int) < (s.size : Int) := by omega
    by_cases g10 : (s[k]'hk1).toNat = 10
    · have HN := hide (ln_at_no hk1 g10)
      have b10 : (((s[k]'hk1).toNat : Int) != 10) = false := by simp; omega
      clear g10
      go_wp2_with fail
      refine bodyPost_ret (v := .agg #[.int .i64 2, .int .i64 p, .int .i64 ((k : Int) - (p : Int))]) (by simp [results, Tryd.results27, go_sem]) rfl ⟨ret_tk rfl rfl ?_, (Below.refl _ _).alloc (Nat.le_refl _) _⟩
      have h := HI.out
      rw [HN.out] at h
      omega
    · have HN := hide (ln_at_yes hk1 g10)
      have b10 : (((s[k]'hk1).toNat : Int) != 10) = true := by simp; omega
      clear g10
      go_wp2_with fail
      go_round
      case rel => have h := HI.out; rw [HN.out] at h; exact ⟨k + 1, by go_num, by omega, by omega, by show _ = _; omega⟩
      case measure => simp [intOf]; omega

set_option maxRecDepth 100000 in
set_option maxHeartbeats 8000000 in
theorem one_open (s : ByteArray) (p : Nat) (w : World) (hs : s.size ≤ 1073741824) (hp : p < s.size) (hc : cc ((bs s).drop p) = 123) (hc1 : cc ((bs s).drop (p + 1)) = 45) :
    Calls Tryd.prog 27 #[.string s, .int .i64 p] w fun e w' => e = .returned (.agg #[.int .i64 ((nest 1 ((bs s).drop (p + 2))).1 : Nat), .int .i64 p, .int .i64 (2 + (nest 1 ((bs s).drop (p + 2))).2 : Nat)]) ∧ Below w.heap.size w w' := by
  have HC := hide hc
  have HC1 := hide hc1
  have hh : hasB s p 123 45 = true := hasB_of hc hc1
  have hh0 : hasB s p 45 45 = false := hasB_not (by rw [hc]; omega)
  have hkd := (nest_le _ 1 ((bs s).drop (p + 2)) (Nat.le_refl _)).2
  have hlen := (nest_le _ 1 ((bs s).drop (p + 2)) (Nat.le_refl _)).1
  rw [List.length_drop, bs_len] at hlen
  go_enter Tryd.func27, Tryd.ntmps27
  go_wp2_with fail
  refine (refRune_at s p _ hp).mono ?_
  rintro e w' ⟨rfl, rfl⟩
  rw [HC.out]
  clear hc
  go_wp2_with fail
  refine (refLetter_any _ _).mono ?_
  rintro e w' ⟨rfl, rfl⟩
  go_wp2_with fail
  refine (has_45_45 s p _ hp hs).mono ?_
  rintro e w' ⟨rfl, rfl⟩
  go_wp2_with fail
  refine (has_123_45 s p _ hp hs).mono ?_
  rintro e w' ⟨rfl, rfl⟩
  go_wp2_with fail
  refine (refNested_any s p _ hs HC.out HC1.out).mono ?_
  rintro e w' ⟨rfl, rfl⟩
  obtain ⟨N, hN⟩ : ∃ N, (nest 1 ((bs s).drop (p + 2))).2 = N := ⟨_, rfl⟩
  rw [hN] at hlen ⊢
  obtain ⟨E, hE⟩ : ∃ E, p + (2 + N) = E := ⟨_, rfl⟩
  rw [hE]
  have HE := hide hE
  have hpE : p ≤ E ∧ E ≤ 2147483648 := by omega
  obtain ⟨hpE1, hpE2⟩ := hpE
  have HN := hide hN
  clear hE hN
  rcases hkd with hkd | hkd
  · have hd : decide ((nest 1 ((bs s).drop (p + 2))).1 = 2) = false := by rw [hkd]; rfl
    rw [hd]
    have HD := hide hkd
    clear hkd hd
    go_wp2_with fail
    refine bodyPost_ret (v := .agg #[.int .i64 8, .int .i64 p, .int .i64 ((E : Int) - (p : Int))]) (by simp [results, Tryd.results27, go_sem]) rfl ⟨ret_tk (by rw [HD.out]; rfl) rfl (by have := HE.out; have := HN.out; omega), (Below.refl _ _).alloc (Nat.le_refl _) _⟩
  · have hd : decide ((nest 1 ((bs s).drop (p + 2))).1 = 2) = true := by rw [hkd]; rfl
    rw [hd]
    have HD := hide hkd
    clear hkd hd
    go_wp2_with fail
    refine bodyPost_ret (v := .agg #[.int .i64 2, .int .i64 p, .int .i64 ((E : Int) - (p : Int))]) (by simp [results, Tryd.results27, go_sem]) rfl ⟨ret_tk (by rw [HD.out]; rfl) rfl (by have := HE.out; have := HN.out; omega), (Below.refl _ _).alloc (Nat.le_refl _) _⟩

set_option maxRecDepth 100000 in
set_option maxHeartbeats 8000000 in
theorem one_quote (s : ByteArray) (p : Nat) (w : World) (hs : s.size ≤ 1073741824) (hp : p < s.size) (hc : cc ((bs s).drop p) = 34) :
    Calls Tryd.prog 27 #[.string s, .int .i64 p] w fun e w' => e = .returned (.agg #[.int .i64 ((quo 6 ((bs s).drop (p + 1))).1 : Nat), .int .i64 p, .int .i64 (1 + (quo 6 ((bs s).drop (p + 1))).2 : Nat)]) ∧ Below w.heap.size w w' := by
  have HC := hide hc
  have hh : hasB s p 123 45 = false := hasB_not (by rw [hc]; omega)
  have hh0 : hasB s p 45 45 = false := hasB_not (by rw [hc]; omega)
  have hlt : isLt 34 = false := by decide
  have hlen := (quo_le _ 6 ((bs s).drop (p + 1)) (Nat.le_refl _)).1
  rw [List.length_drop, bs_len] at hlen
  go_enter Tryd.func27, Tryd.ntmps27
  go_wp2_with fail
  refine (refRune_at s p _ hp).mono ?_
  rintro e w' ⟨rfl, rfl⟩
  rw [HC.out]
  clear hc
  go_wp2_with fail
  refine (refLetter_any _ _).mono ?_
  rintro e w' ⟨rfl, rfl⟩
  go_wp2_with fail
  refine (has_45_45 s p _ hp hs).mono ?_
  rintro e w' ⟨rfl, rfl⟩
  go_wp2_with fail
  refine (has_123_45 s p _ hp hs).mono ?_
  rintro e w' ⟨rfl, rfl⟩
  go_wp2_with fail
  refine (refQuoted_any s p _ hs hp).mono ?_
  rintro e w' ⟨rfl, rfl⟩
  obtain ⟨N, hN⟩ : ∃ N, (quo 6 ((bs s).drop (p + 1))).2 = N := ⟨_, rfl⟩
  rw [hN] at hlen ⊢
  obtain ⟨E, hE⟩ : ∃ E, p + (1 + N) = E := ⟨_, rfl⟩
  rw [hE]
  have HE := hide hE
  have hpE : p ≤ E ∧ E ≤ 2147483648 := by omega
  obtain ⟨hpE1, hpE2⟩ := hpE
  have HN := hide hN
  clear hE hN
  go_wp2_with fail
  refine bodyPost_ret (v := .agg #[.int .i64 (quo 6 ((bs s).drop (p + 1))).1, .int .i64 p, .int .i64 ((E : Int) - (p : Int))]) (by simp [results, Tryd.results27, go_sem]) rfl ⟨ret_tk rfl rfl (by have := HE.out; have := HN.out; omega), (Below.refl _ _).alloc (Nat.le_refl _) _⟩
end Go.Proofs.YtbhcniemkjoflaaDoor
