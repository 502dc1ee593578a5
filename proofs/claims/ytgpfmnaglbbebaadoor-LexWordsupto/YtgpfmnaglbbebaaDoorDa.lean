/- What the document's own function Rune answers. -/
import Derived.Handy
import Derived.Test.YtgpfmnaglbbebaaDoorRb
namespace Go.Proofs.YtgpfmnaglbbebaaDoor
open Go.RowKit
open M

theorem ret2 {n a b c d : Nat} {v k : Int} (h1 : ((Lib.decodeN n a b c d).1 : Int) = v) (h2 : ((Lib.decodeN n a b c d).2 : Int) = k) :
    Ending.returned (.tuple #[.int .i64 v, .int .i64 k]) = .returned (.tuple #[.int .i64 ((Lib.decodeN n a b c d).1 : Int), .int .i64 ((Lib.decodeN n a b c d).2 : Int)]) := by rw [h1, h2]

set_option maxRecDepth 100000 in
set_option maxHeartbeats 4000000 in
theorem rune_c1 (s : ByteArray) (w : World) (h0 : 0 < s.size) (b c d : Nat) (A : UInt8) (a0 : s[0]'(by omega) = A) (hA : (A.toNat : Int) < 128) :
    Calls Tryd.prog 50 #[.string s] w fun e w' => e = .returned (.tuple #[.int .i64 ((Lib.decodeN s.size A.toNat b c d).1 : Int), .int .i64 ((Lib.decodeN s.size A.toNat b c d).2 : Int)]) ∧ w' = w := by
  have z0 : ¬ s.size = 0 := by omega
  have z1 : (0 : Int) < (s.size : Int) := by omega
  have z6 : ¬ s = ByteArray.empty := by intro e; subst e; simp at h0
  have b0 : (A.toNat : Int) < 256 := by have := A.toNat_lt; omega
  go_enter Tryd.func50, Tryd.ntmps50
  go_wp2
  all_goals
    go_ret2
    refine ⟨ret2 ?_ ?_, rfl⟩
    all_goals
      unfold Lib.decodeN
      repeat' split
      all_goals (first | (exfalso; omega) | (simp only; done) | (simp only; omega))

set_option maxRecDepth 100000 in
set_option maxHeartbeats 4000000 in
theorem rune_lo (s : ByteArray) (w : World) (h0 : 0 < s.size) (b c d : Nat) (A : UInt8) (a0 : s[0]'(by omega) = A) (hA : (128 : Int) ≤ A.toNat) (hA2 : (A.toNat : Int) < 194) :
    Calls Tryd.prog 50 #[.string s] w fun e w' => e = .returned (.tuple #[.int .i64 ((Lib.decodeN s.size A.toNat b c d).1 : Int), .int .i64 ((Lib.decodeN s.size A.toNat b c d).2 : Int)]) ∧ w' = w := by
  have z0 : ¬ s.size = 0 := by omega
  have z1 : (0 : Int) < (s.size : Int) := by omega
  have z6 : ¬ s = ByteArray.empty := by intro e; subst e; simp at h0
  have b0 : (A.toNat : Int) < 256 := by have := A.toNat_lt; omega
  go_enter Tryd.func50, Tryd.ntmps50
  go_wp2
  all_goals
    go_ret2
    refine ⟨ret2 ?_ ?_, rfl⟩
    all_goals
      unfold Lib.decodeN
      repeat' split
      all_goals (first | (exfalso; omega) | (simp only; done) | (simp only; omega))

set_option maxRecDepth 100000 in
set_option maxHeartbeats 4000000 in
theorem rune_hi (s : ByteArray) (w : World) (h0 : 0 < s.size) (b c d : Nat) (A : UInt8) (a0 : s[0]'(by omega) = A) (hA : (244 : Int) < A.toNat) :
    Calls Tryd.prog 50 #[.string s] w fun e w' => e = .returned (.tuple #[.int .i64 ((Lib.decodeN s.size A.toNat b c d).1 : Int), .int .i64 ((Lib.decodeN s.size A.toNat b c d).2 : Int)]) ∧ w' = w := by
  have z0 : ¬ s.size = 0 := by omega
  have z1 : (0 : Int) < (s.size : Int) := by omega
  have z6 : ¬ s = ByteArray.empty := by intro e; subst e; simp at h0
  have b0 : (A.toNat : Int) < 256 := by have := A.toNat_lt; omega
  go_enter Tryd.func50, Tryd.ntmps50
  go_wp2
  all_goals
    go_ret2
    refine ⟨ret2 ?_ ?_, rfl⟩
    all_goals
      unfold Lib.decodeN
      repeat' split
      all_goals (first | (exfalso; omega) | (simp only; done) | (simp only; omega))

set_option maxRecDepth 100000 in
set_option maxHeartbeats 4000000 in
theorem rune_s2 (s : ByteArray) (w : World) (h0 : 0 < s.size) (b c d : Nat) (A : UInt8) (a0 : s[0]'(by omega) = A) (hA : (194 : Int) ≤ A.toNat) (hA2 : (A.toNat : Int) ≤ 223) (hs : s.size < 2) :
    Calls Tryd.prog 50 #[.string s] w fun e w' => e = .returned (.tuple #[.int .i64 ((Lib.decodeN s.size A.toNat b c d).1 : Int), .int .i64 ((Lib.decodeN s.size A.toNat b c d).2 : Int)]) ∧ w' = w := by
  have z0 : ¬ s.size = 0 := by omega
  have z1 : (0 : Int) < (s.size : Int) := by omega
  have z6 : ¬ s = ByteArray.empty := by intro e; subst e; simp at h0
  have b0 : (A.toNat : Int) < 256 := by have := A.toNat_lt; omega
  have z4 : (s.size : Int) < 2 := by omega
  go_enter Tryd.func50, Tryd.ntmps50
  go_wp2
  all_goals
    go_ret2
    refine ⟨ret2 ?_ ?_, rfl⟩
    all_goals
      unfold Lib.decodeN
      repeat' split
      all_goals (first | (exfalso; omega) | (simp only; done) | (simp only; omega))

set_option maxRecDepth 100000 in
set_option maxHeartbeats 4000000 in
theorem rune_s3 (s : ByteArray) (w : World) (h0 : 0 < s.size) (b c d : Nat) (A : UInt8) (a0 : s[0]'(by omega) = A) (hA : (224 : Int) ≤ A.toNat) (hA2 : (A.toNat : Int) ≤ 239) (hs : s.size < 3) :
    Calls Tryd.prog 50 #[.string s] w fun e w' => e = .returned (.tuple #[.int .i64 ((Lib.decodeN s.size A.toNat b c d).1 : Int), .int .i64 ((Lib.decodeN s.size A.toNat b c d).2 : Int)]) ∧ w' = w := by
  have z0 : ¬ s.size = 0 := by omega
  have z1 : (0 : Int) < (s.size : Int) := by omega
  have z6 : ¬ s = ByteArray.empty := by intro e; subst e; simp at h0
  have b0 : (A.toNat : Int) < 256 := by have := A.toNat_lt; omega
  have z4 : (s.size : Int) < 3 := by omega
  go_enter Tryd.func50, Tryd.ntmps50
  go_wp2
  all_goals
    go_ret2
    refine ⟨ret2 ?_ ?_, rfl⟩
    all_goals
      unfold Lib.decodeN
      repeat' split
      all_goals (first | (exfalso; omega) | (simp only; done) | (simp only; omega))

set_option maxRecDepth 100000 in
set_option maxHeartbeats 4000000 in
theorem rune_s4 (s : ByteArray) (w : World) (h0 : 0 < s.size) (b c d : Nat) (A : UInt8) (a0 : s[0]'(by omega) = A) (hA : (240 : Int) ≤ A.toNat) (hA2 : (A.toNat : Int) ≤ 244) (hs : s.size < 4) :
    Calls Tryd.prog 50 #[.string s] w fun e w' => e = .returned (.tuple #[.int .i64 ((Lib.decodeN s.size A.toNat b c d).1 : Int), .int .i64 ((Lib.decodeN s.size A.toNat b c d).2 : Int)]) ∧ w' = w := by
  have z0 : ¬ s.size = 0 := by omega
  have z1 : (0 : Int) < (s.size : Int) := by omega
  have z6 : ¬ s = ByteArray.empty := by intro e; subst e; simp at h0
  have b0 : (A.toNat : Int) < 256 := by have := A.toNat_lt; omega
  have z4 : (s.size : Int) < 4 := by omega
  go_enter Tryd.func50, Tryd.ntmps50
  go_wp2
  all_goals
    go_ret2
    refine ⟨ret2 ?_ ?_, rfl⟩
    all_goals
      unfold Lib.decodeN
      repeat' split
      all_goals (first | (exfalso; omega) | (simp only; done) | (simp only; omega))

set_option maxRecDepth 100000 in
set_option maxHeartbeats 4000000 in
theorem rune_l2 (s : ByteArray) (w : World) (h0 : 0 < s.size) (c d : Nat) (A : UInt8) (a0 : s[0]'(by omega) = A) (hA : (194 : Int) ≤ A.toNat) (hA2 : (A.toNat : Int) ≤ 223) (hs : 2 ≤ s.size) (B : UInt8) (a1 : s[1]'(by omega) = B) :
    Calls Tryd.prog 50 #[.string s] w fun e w' => e = .returned (.tuple #[.int .i64 ((Lib.decodeN s.size A.toNat B.toNat c d).1 : Int), .int .i64 ((Lib.decodeN s.size A.toNat B.toNat c d).2 : Int)]) ∧ w' = w := by
  have z0 : ¬ s.size = 0 := by omega
  have z1 : (0 : Int) < (s.size : Int) := by omega
  have z6 : ¬ s = ByteArray.empty := by intro e; subst e; simp at h0
  have b0 : (A.toNat : Int) < 256 := by have := A.toNat_lt; omega
  have z4 : ¬ (s.size : Int) < 2 := by omega
  have z2 : (1 : Int) < (s.size : Int) := by omega
  have b1 : (B.toNat : Int) < 256 := by have := B.toNat_lt; omega
  go_enter Tryd.func50, Tryd.ntmps50
  go_wp2
  go_rounds 3
  all_goals
    go_ret2
    refine ⟨ret2 ?_ ?_, rfl⟩
    all_goals
      unfold Lib.decodeN
      repeat' split
      all_goals (first | (exfalso; omega) | (simp only; done) | (simp only; omega))
end Go.Proofs.YtgpfmnaglbbebaaDoor
