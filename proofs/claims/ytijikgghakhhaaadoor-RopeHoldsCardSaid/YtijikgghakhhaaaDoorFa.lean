/- What the document's own functions Lines, Units and Rune answer. -/
import Derived.Test.YtijikgghakhhaaaDoorWc
import Derived.Handy
namespace Go.Proofs.YtijikgghakhhaaaDoor
open Go.RowKit
open M

set_option maxHeartbeats 400000 in
theorem refUnits_any (c : Nat) (w : World) :
    Calls Tryd.prog 33 #[.int .i64 c] w fun e w' => e = .returned (.int .i64 (un c)) ∧ w' = w := by
  by_cases h : c > 65535
  · have h' : (65535 : Int) < (c : Int) := by omega
    rw [show un c = 2 from if_pos h]
    go_enter Tryd.func33, Tryd.ntmps33
    go_wp2
    go_ret
    exact ⟨rfl, rfl⟩
  · have h' : ¬ (65535 : Int) < (c : Int) := by omega
    rw [show un c = 1 from if_neg h]
    go_enter Tryd.func33, Tryd.ntmps33
    go_wp2
    go_ret
    exact ⟨rfl, rfl⟩

theorem nb_snoc (s : ByteArray) (k : Nat) (h : k < s.size) : nb ((bs s).take (k + 1)) = nb ((bs s).take k) + (if ((s[k]'h).toNat : Int) = 10 then 1 else 0) := by
  have e : (bs s).take (k + 1) = (bs s).take k ++ [s[k]'h] := by
    unfold bs
    rw [List.take_succ_eq_append_getElem (by simpa using h)]
    rfl
  rw [e, nb_append]
  congr 1
  by_cases hx : ((s[k]'h).toNat : Int) = 10
  · rw [if_pos hx]
    have : s[k]'h = 10 := UInt8.toNat_inj.1 (by show _ = 10; omega)
    rw [this]; rfl
  · rw [if_neg hx]
    unfold nb
    rw [List.count_eq_zero]
    intro hm
    simp only [List.mem_singleton] at hm
    exact hx (by rw [← hm]; rfl)

set_option maxHeartbeats 400000 in
theorem refLines_any (s : ByteArray) (w : World) (hs : s.size ≤ 4503599627370496) :
    Calls Tryd.prog 12 #[.string s] w fun e w' => e = .returned (.int .i64 (nb (bs s) + 1 : Nat)) ∧ w' = w := by
  have hl := bs_len s
  go_enter Tryd.func12, Tryd.ntmps12
  go_wp2
  go_loop [3, 4] (fun n i => ∃ k : Nat, k ≤ s.size ∧ i = .int .i64 k ∧ n = .int .i64 (nb ((bs s).take k) + 1 : Nat)) (fun _ i => s.size - (intOf i).toNat)
  case atStart => exact ⟨0, Nat.zero_le _, rfl, rfl⟩
  case round =>
    obtain ⟨k, hk, rfl, rfl⟩ := hrel
    have hd := nb_le ((bs s).take k)
    have hlk : ((bs s).take k).length ≤ k := List.length_take_le _ _
    by_cases hlt : k < s.size
    · have HS := hide (nb_snoc s k hlt)
      go_wp2
      all_goals
        go_round
        case rel => exact ⟨k + 1, by omega, by go_num, by rw [HS.out]; first | (rw [if_pos (by simp_all)]; go_num) | rw [if_neg (by simp_all)]⟩
        case measure => simp [intOf]; omega
    · go_wp2
      go_ret
      rw [List.take_of_length_le (by omega)]
      exact ⟨rfl, rfl⟩

theorem ret2 {n a b c d : Nat} {v k : Int} (h1 : ((Lib.decodeN n a b c d).1 : Int) = v) (h2 : ((Lib.decodeN n a b c d).2 : Int) = k) :
    Ending.returned (.tuple #[.int .i64 v, .int .i64 k]) = .returned (.tuple #[.int .i64 ((Lib.decodeN n a b c d).1 : Int), .int .i64 ((Lib.decodeN n a b c d).2 : Int)]) := by rw [h1, h2]

set_option maxRecDepth 100000 in
set_option maxHeartbeats 4000000 in
theorem rune_c1 (s : ByteArray) (w : World) (h0 : 0 < s.size) (b c d : Nat) (A : UInt8) (a0 : s[0]'(by omega) = A) (hA : (A.toNat : Int) < 128) :
    Calls Tryd.prog 19 #[.string s] w fun e w' => e = .returned (.tuple #[.int .i64 ((Lib.decodeN s.size A.toNat b c d).1 : Int), .int .i64 ((Lib.decodeN s.size A.toNat b c d).2 : Int)]) ∧ w' = w := by
  have z0 : ¬ s.size = 0 := by omega
  have z1 : (0 : Int) < (s.size : Int) := by omega
  have z6 : ¬ s = ByteArray.empty := by intro e; subst e; simp at h0
  have b0 : (A.toNat : Int) < 256 := by have := A.toNat_lt; omega
  go_enter Tryd.func19, Tryd.ntmps19
  go_wp2
  all_goals
    go_ret2
    refine ⟨ret2 ?_ ?_, rfl⟩
    all_goals
      unfold Lib.decodeN
      repeat' split
      all_goals (first | (exfalso; omega) | (simp only; done) | (simp only; omega))

set_option maxRecDepth 100000 in
set_option maxHeartbeats 4000000 in
theorem rune_lo (s : ByteArray) (w : World) (h0 : 0 < s.size) (b c d : Nat) (A : UInt8) (a0 : s[0]'(by omega) = A) (hA : (128 : Int) ≤ A.toNat) (hA2 : (A.toNat : Int) < 194) :
    Calls Tryd.prog 19 #[.string s] w fun e w' => e = .returned (.tuple #[.int .i64 ((Lib.decodeN s.size A.toNat b c d).1 : Int), .int .i64 ((Lib.decodeN s.size A.toNat b c d).2 : Int)]) ∧ w' = w := by
  have z0 : ¬ s.size = 0 := by omega
  have z1 : (0 : Int) < (s.size : Int) := by omega
  have z6 : ¬ s = ByteArray.empty := by intro e; subst e; simp at h0
  have b0 : (A.toNat : Int) < 256 := by have := A.toNat_lt; omega
  go_enter Tryd.func19, Tryd.ntmps19
  go_wp2
  all_goals
    go_ret2
    refine ⟨ret2 ?_ ?_, rfl⟩
    all_goals
      unfold Lib.decodeN
      repeat' split
      all_goals (first | (exfalso; omega) | (simp only; done) | (simp only; omega))

set_option maxRecDepth 100000 in
set_option maxHeartbeats 4000000 in
theorem rune_hi (s : ByteArray) (w : World) (h0 : 0 < s.size) (b c d : Nat) (A : UInt8) (a0 : s[0]'(by omega) = A) (hA : (244 : Int) < A.toNat) :
    Calls Tryd.prog 19 #[.string s] w fun e w' => e = .returned (.tuple #[.int .i64 ((Lib.decodeN s.size A.toNat b c d).1 : Int), .int .i64 ((Lib.decodeN s.size A.toNat b c d).2 : Int)]) ∧ w' = w := by
  have z0 : ¬ s.size = 0 := by omega
  have z1 : (0 : Int) < (s.size : Int) := by omega
  have z6 : ¬ s = ByteArray.empty := by intro e; subst e; simp at h0
  have b0 : (A.toNat : Int) < 256 := by have := A.toNat_lt; omega
  go_enter Tryd.func19, Tryd.ntmps19
  go_wp2
  all_goals
    go_ret2
    refine ⟨ret2 ?_ ?_, rfl⟩
    all_goals
      unfold Lib.decodeN
      repeat' split
      all_goals (first | (exfalso; omega) | (simp only; done) | (simp only; omega))

set_option maxRecDepth 100000 in
set_option maxHeartbeats 4000000 in
theorem rune_s2 (s : ByteArray) (w : World) (h0 : 0 < s.size) (b c d : Nat) (A : UInt8) (a0 : s[0]'(by omega) = A) (hA : (194 : Int) ≤ A.toNat) (hA2 : (A.toNat : Int) ≤ 223) (hs : s.size < 2) :
    Calls Tryd.prog 19 #[.string s] w fun e w' => e = .returned (.tuple #[.int .i64 ((Lib.decodeN s.size A.toNat b c d).1 : Int), .int .i64 ((Lib.decodeN s.size A.toNat b c d).2 : Int)]) ∧ w' = w := by
  have z0 : ¬ s.size = 0 := by omega
  have z1 : (0 : Int) < (s.size : Int) := by omega
  have z6 : ¬ s = ByteArray.empty := by intro e; subst e; simp at h0
  have b0 : (A.toNat : Int) < 256 := by have := A.toNat_lt; omega
  have z4 : (s.size : Int) < 2 := by omega
  go_enter Tryd.func19, Tryd.ntmps19
  go_wp2
  all_goals
    go_ret2
    refine ⟨ret2 ?_ ?_, rfl⟩
    all_goals
      unfold Lib.decodeN
      repeat' split
      all_goals (first | (exfalso; omega) | (simp only; done) | (simp only; omega))

set_option maxRecDepth 100000 in
set_option maxHeartbeats 4000000 in
theorem rune_s3 (s : ByteArray) (w : World) (h0 : 0 < s.size) (b c d : Nat) (A : UInt8) (a0 : s[0]'(by omega) = A) (hA : (224 : Int) ≤ A.toNat) (hA2 : (A.toNat : Int) ≤ 239) (hs : s.size < 3) :
    Calls Tryd.prog 19 #[.string s] w fun e w' => e = .returned (.tuple #[.int .i64 ((Lib.decodeN s.size A.toNat b c d).1 : Int), .int .i64 ((Lib.decodeN s.size A.toNat b c d).2 : Int)]) ∧ w' = w := by
  have z0 : ¬ s.size = 0 := by omega
  have z1 : (0 : Int) < (s.size : Int) := by omega
  have z6 : ¬ s = ByteArray.empty := by intro e; subst e; simp at h0
  have b0 : (A.toNat : Int) < 256 := by have := A.toNat_lt; omega
  have z4 : (s.size : Int) < 3 := by omega
  go_enter Tryd.func19, Tryd.ntmps19
  go_wp2
  all_goals
    go_ret2
    refine ⟨ret2 ?_ ?_, rfl⟩
    all_goals
      unfold Lib.decodeN
      repeat' split
      all_goals (first | (exfalso; omega) | (simp only; done) | (simp only; omega))

set_option maxRecDepth 100000 in
set_option maxHeartbeats 4000000 in
theorem rune_s4 (s : ByteArray) (w : World) (h0 : 0 < s.size) (b c d : Nat) (A : UInt8) (a0 : s[0]'(by omega) = A) (hA : (240 : Int) ≤ A.toNat) (hA2 : (A.toNat : Int) ≤ 244) (hs : s.size < 4) :
    Calls Tryd.prog 19 #[.string s] w fun e w' => e = .returned (.tuple #[.int .i64 ((Lib.decodeN s.size A.toNat b c d).1 : Int), .int .i64 ((Lib.decodeN s.size A.toNat b c d).2 : Int)]) ∧ w' = w := by
  have z0 : ¬ s.size = 0 := by omega
  have z1 : (0 : Int) < (s.size : Int) := by omega
  have z6 : ¬ s = ByteArray.empty := by intro e; subst e; simp at h0
  have b0 : (A.toNat : Int) < 256 := by have := A.toNat_lt; omega
  have z4 : (s.size : Int) < 4 := by omega
  go_enter Tryd.func19, Tryd.ntmps19
  go_wp2
  all_goals
    go_ret2
    refine ⟨ret2 ?_ ?_, rfl⟩
    all_goals
      unfold Lib.decodeN
      repeat' split
      all_goals (first | (exfalso; omega) | (simp only; done) | (simp only; omega))

set_option maxRecDepth 100000 in
set_option maxHeartbeats 4000000 in
theorem rune_l2 (s : ByteArray) (w : World) (h0 : 0 < s.size) (c d : Nat) (A : UInt8) (a0 : s[0]'(by omega) = A) (hA : (194 : Int) ≤ A.toNat) (hA2 : (A.toNat : Int) ≤ 223) (hs : 2 ≤ s.size) (B : UInt8) (a1 : s[1]'(by omega) = B) :
    Calls Tryd.prog 19 #[.string s] w fun e w' => e = .returned (.tuple #[.int .i64 ((Lib.decodeN s.size A.toNat B.toNat c d).1 : Int), .int .i64 ((Lib.decodeN s.size A.toNat B.toNat c d).2 : Int)]) ∧ w' = w := by
  have z0 : ¬ s.size = 0 := by omega
  have z1 : (0 : Int) < (s.size : Int) := by omega
  have z6 : ¬ s = ByteArray.empty := by intro e; subst e; simp at h0
  have b0 : (A.toNat : Int) < 256 := by have := A.toNat_lt; omega
  have z4 : ¬ (s.size : Int) < 2 := by omega
  have z2 : (1 : Int) < (s.size : Int) := by omega
  have b1 : (B.toNat : Int) < 256 := by have := B.toNat_lt; omega
  go_enter Tryd.func19, Tryd.ntmps19
  go_wp2
  go_rounds 3
  all_goals
    go_ret2
    refine ⟨ret2 ?_ ?_, rfl⟩
    all_goals
      unfold Lib.decodeN
      repeat' split
      all_goals (first | (exfalso; omega) | (simp only; done) | (simp only; omega))
end Go.Proofs.YtijikgghakhhaaaDoor
