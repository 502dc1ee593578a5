/- The document's own Name. -/
import Derived.Test.YtbhcniemkjoflaaDoorWa
import Derived.Test.YtbhcniemkjoflaaDoorFh
namespace Go.Proofs.YtbhcniemkjoflaaDoor
open Go.RowKit
open M

set_option maxRecDepth 100000 in
set_option maxHeartbeats 4000000 in
theorem refName_any (s : ByteArray) (w : World) (hs : s.size ≤ 1073741824) :
    Calls Tryd.prog 16 #[.string s] w fun e w' => e = .returned (.bool (decide (s.size ≤ 40) && aloneB (bs s) 3)) ∧ Below w.heap.size w w' := by
  go_enter Tryd.func16, Tryd.ntmps16
  go_wp2_with fail
  refine (refTokens_any s _ hs).mono ?_
  rintro e w1 ⟨v, rfl, hown, k1⟩
  have hT := IsT.ofOwns hown
  have H1 := hide hT
  have K1 := hide k1
  clear k1 hown
  by_cases h40 : s.size ≤ 40
  case neg =>
    have i1 : decide ((s.size : Int) ≤ 40) = false := by simp; omega
    have HD : Hid ((decide (s.size ≤ 40) && aloneB (bs s) 3) = false) := by show _ = _; rw [decide_eq_false h40]; rfl
    clear hT
    go_wp2_with fail
    go_ret
    exact ⟨retb HD.out.symm, K1.out⟩
  have i1 : decide ((s.size : Int) ≤ 40) = true := by simp; omega
  cases ha : aloneB (bs s) 3
  · have HD : Hid ((decide (s.size ≤ 40) && aloneB (bs s) 3) = false) := by show _ = _; rw [ha, Bool.and_false]
    rcases alone_not ha with hl | ⟨t, ht, hk⟩
    · obtain ⟨ao, cap, rfl, hc1, hc2, -⟩ := hT
      have i2 : (((toks 0 (bs s)).length : Int) == 1) = false := by simp; omega
      clear ha hl
      go_wp2_with fail
      go_ret
      exact ⟨retb HD.out.symm, K1.out⟩
    · rw [ht] at hT H1
      obtain ⟨ao, cap, rfl, hc1, hc2, -⟩ := hT
      obtain ⟨b, o, t', rfl, ht', q1, q2, q3⟩ := (H1.out).get (Below.refl _ w1) (k := 0) (by simp)
      obtain rfl : t = t' := by simpa using ht'
      simp only [Nat.zero_mul, Nat.add_zero] at q1 q2 q3
      have i3 : ((t.kind : Int) == 3) = false := by simp; omega
      clear ha ht hk ht'
      go_wp2_with fail
      go_ret
      exact ⟨retb HD.out.symm, K1.out⟩
  · have HD : Hid ((decide (s.size ≤ 40) && aloneB (bs s) 3) = true) := by show _ = _; rw [ha, decide_eq_true h40]; rfl
    have ht := alone_toks.1 ha
    rw [ht] at hT H1
    obtain ⟨ao, cap, rfl, hc1, hc2, -⟩ := hT
    obtain ⟨b, o, t', rfl, ht', q1, q2, q3⟩ := (H1.out).get (Below.refl _ w1) (k := 0) (by simp)
    obtain rfl : (⟨3, 0, (bs s).length⟩ : Tk) = t' := by simpa using ht'
    simp only [Nat.zero_mul, Nat.add_zero] at q1 q2 q3
    clear ha ht ht'
    go_wp2_with fail
    go_ret
    exact ⟨retb HD.out.symm, K1.out⟩

theorem ret_sl {a : Option Addr} {n n' : Nat} (h : n = n') : Ending.returned (.slice a n n) = .returned (.slice a n' n') := by rw [h]
set_option maxRecDepth 100000 in
set_option maxHeartbeats 4000000 in
theorem utf_any (c : Int) (w : World) (h0 : 0 ≤ c) (hv : Lib.validRune c = true) :
    Calls Tryd.prog 40 #[.int .i64 c] w fun e w' => e = .returned (.slice (some ⟨w.heap.size, 0, none⟩) (Lib.encodeRune c).length (Lib.encodeRune c).length) ∧ w' = w.alloc (.cells (Lib.byteCells (Lib.encodeRune c)).toArray 5) := by
  have hv' : (0 ≤ c ∧ c < 0xD800) ∨ (0xDFFF < c ∧ c ≤ 0x10FFFF) := by unfold Lib.validRune at hv; exact of_decide_eq_true hv
  by_cases h1 : c < 128
  · have HC : Hid (Lib.byteCells (Lib.encodeRune c) = [.int .u8 c]) := by
      show _ = _
      rw [Lib.byteCells_encodeRune, Lib.runeCells, Lib.encodeRuneZ_one h0 (by omega)]; rfl
    have HL : Hid ((Lib.encodeRune c).length = 1) := by show _ = _; unfold Lib.encodeRune; rw [Lib.encodeRuneZ_one h0 (by omega)]; rfl
    have hc1 : c ≤ 1114111 := by omega
    clear hv hv'
    go_enter Tryd.func40, Tryd.ntmps40
    go_wp2
    go_ret
    exact ⟨ret_sl HL.out.symm, by rw [HC.out]⟩
  by_cases h2 : c < 2048
  · have HC : Hid (Lib.byteCells (Lib.encodeRune c) = [.int .u8 (192 + c / 64), .int .u8 (128 + c % 64)]) := by
      show _ = _
      rw [Lib.byteCells_encodeRune, Lib.runeCells, Lib.encodeRuneZ_two (by omega) (by omega)]; rfl
    have HL : Hid ((Lib.encodeRune c).length = 2) := by show _ = _; unfold Lib.encodeRune; rw [Lib.encodeRuneZ_two (by omega) (by omega)]; rfl
    have hc1 : c ≤ 1114111 := by omega
    clear hv hv'
    go_enter Tryd.func40, Tryd.ntmps40
    go_wp2
    go_ret
    exact ⟨ret_sl HL.out.symm, by rw [HC.out]⟩
  by_cases h3 : c < 65536
  · have HC : Hid (Lib.byteCells (Lib.encodeRune c) = [.int .u8 (224 + c / 4096), .int .u8 (128 + c / 64 % 64), .int .u8 (128 + c % 64)]) := by
      show _ = _
      rw [Lib.byteCells_encodeRune, Lib.runeCells, Lib.encodeRuneZ_three (by omega)]; rfl
    have HL : Hid ((Lib.encodeRune c).length = 3) := by show _ = _; unfold Lib.encodeRune; rw [Lib.encodeRuneZ_three (by omega)]; rfl
    have hc1 : c ≤ 1114111 := by omega
    clear hv hv'
    go_enter Tryd.func40, Tryd.ntmps40
    go_wp2
    go_ret
    exact ⟨ret_sl HL.out.symm, by rw [HC.out]⟩
  have HC : Hid (Lib.byteCells (Lib.encodeRune c) = [.int .u8 (240 + c / 262144), .int .u8 (128 + c / 4096 % 64), .int .u8 (128 + c / 64 % 64), .int .u8 (128 + c % 64)]) := by
    show _ = _
    rw [Lib.byteCells_encodeRune, Lib.runeCells, Lib.encodeRuneZ_four (by omega) (by omega)]; rfl
  have HL : Hid ((Lib.encodeRune c).length = 4) := by show _ = _; unfold Lib.encodeRune; rw [Lib.encodeRuneZ_four (by omega) (by omega)]; rfl
  have hc1 : c ≤ 1114111 := by omega
  clear hv hv'
  go_enter Tryd.func40, Tryd.ntmps40
  go_wp2
  go_ret
  exact ⟨ret_sl HL.out.symm, by rw [HC.out]⟩
end Go.Proofs.YtbhcniemkjoflaaDoor
