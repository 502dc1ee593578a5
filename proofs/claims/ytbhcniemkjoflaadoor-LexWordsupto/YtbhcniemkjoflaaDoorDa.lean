/- What the document's own function Rune answers. -/
import Derived.Handy
import Derived.Test.YtbhcniemkjoflaaDoorRb
namespace Go.Proofs.YtbhcniemkjoflaaDoor
open Go.RowKit
open M

theorem ret2 {n a b c d : Nat} {v k : Int} (h1 : ((Lib.decodeN n a b c d).1 : Int) = v) (h2 : ((Lib.decodeN n a b c d).2 : Int) = k) :
    Ending.returned (.tuple #[.int .i64 v, .int .i64 k]) = .returned (.tuple #[.int .i64 ((Lib.decodeN n a b c d).1 : Int), .int .i64 ((Lib.decodeN n a b c d).2 : Int)]) := by rw [h1, h2]

set_option maxRecDepth 100000 in
set_option maxHeartbeats 4000000 in
theorem rune_c1 (s : ByteArray) (w : World) (h0 : 0 < s.size) (b c d : Nat) (A : UInt8) (a0 : s[0]'(by omega) = A) (hA : (A.toNat : Int) < 128) :
    Calls Tryd.prog 50 #[.string s] w fun e w' => e = .returned (.tuple #[.int .i64 ((Lib.decodeN s.size A.toNat b c d).1 : Int), .int .i64 ((Lib.decodeN s.size A.toNat b c d).2 : Int)]) ∧ w' = w := by
  have z0 : ¬ s.size = 0 := by omega
  have z1 : (0 : Int) < (s.size : Int) := by omega
  have z6 : ¬ s = ByteArray.empty := by intro e; subst e; simp at h0
  have b0 : (A.toNat : Int) < 256 := by have := A.toNat_lt; omega
  go_enter Tryd.func50, Tryd.ntmps50
  go_wp2
  all_goals
    go_ret2
    refine ⟨ret2 ?_ ?_, rfl⟩
    all_goals
      unfold Lib.decodeN
      repeat' split
      all_goals (first | (exfalso; omega) | (simp only; done) | (simp only; omega))

set_option maxRecDepth 100000 in
set_option maxHeartbeats 4000000 in
theorem rune_lo (s : ByteArray) (w : World) (h0 : 0 < s.size) (b c d : Nat) (A : UInt8) (a0 : s[0]'(by omega) = A) (hA : (128 : Int) ≤ A.toNat) (hA2 : (A.toNat : Int) < 194) :
    Calls Tryd.prog 50 #[.string s] w fun e w' => e = .returned (.tuple #[.int .i64 ((Lib.decodeN s.size A.toNat b c d).1 : Int), .int .i64 ((Lib.decodeN s.size A.toNat b c d).2 : Int)]) ∧ w' = w := by
  have z0 : ¬ s.size = 0 := by omega
  have z1 : (0 : Int) < (s.size : Int) := by omega
  have z6 : ¬ s = ByteArray.empty := by intro e; subst e; simp at h0
  have b0 : (A.toNat : Int) < 256 := by have := A.toNat_lt; omega
  go_enter Tryd.func50, Tryd.ntmps50
  go_wp2
  all_goals
    go_ret2
    refine ⟨ret2 ?_ ?_, rfl⟩
    all_goals
      unfold Lib.decodeN
      repeat' split
      all_goals (first | (exfalso; omega) | (simp only; done) | (simp only; omega))

set_option maxRecDepth 100000 in
set_option maxHeartbeats 4000000 in
theorem rune_hi (s : ByteArray) (w : World) (h0 : 0 < s.size) (b c d : Nat) (A : UInt8) (a0 : s[0]'(by omega) = A) (hA : (244 : Int) < A.toNat) :
    Calls Tryd.prog 50 #[.string s] w fun e w' => e = .returned (.tuple #[.int .i64 ((Lib.decodeN s.size A.toNat b c d).1 : Int), .int .i64 ((Lib.decodeN s.size A.toNat b c d).2 : Int)]) ∧ w' = w := by
  have z0 : ¬ s.size = 0 := by omega
  have z1 : (0 : Int) < (s.size : Int) := by omega
  have z6 : ¬ s = ByteArray.empty := by intro e; subst e; simp at h0
  have b0 : (A.toNat : Int) < 256 := by have := A.toNat_lt; omega
  go_enter Tryd.func50, Tryd.ntmps50
  go_wp2
  all_goals
    go_ret2
    refine ⟨ret2 ?_ ?_, rfl⟩
    all_goals
      unfold Lib.decodeN
      repeat' split
      all_goals (first | (exfalso; omega) | (simp only; done) | (simp only; omega))

set_option maxRecDepth 100000 in
set_option maxHeartbeats 4000000 in
theorem rune_s2 (s : ByteArray) (w : World) (h0 : 0 < s.size) (b c d : Nat) (A : UInt8) (a0 : s[0]'(by omega) = A) (hA : (194 : Int) ≤ A.toNat) (hA2 : (A.toNat : Int) ≤ 223) (hs : s.size < 2) :
    Calls Tryd.prog 50 #[.string s] w fun e w' => e = .returned (.tuple #[.int .i64 ((Lib.decodeN s.size A.toNat b c d).1 : Int), .int .i64 ((Lib.decodeN s.size A.toNat b c d).2 : Int)]) ∧ w' = w := by
  have z0 : ¬ s.size = 0 := by omega
  have z1 : (0 : Int) < (s.size : Int) := by omega
  have z6 : ¬ s = ByteArray.empty := by intro e; subst e; simp at h0
  have b0 : (A.toNat : Int) < 256 := by have := A.toNat_lt; omega
  have z4 : (s.size : Int) < 2 := by omega
  go_enter Tryd.func50, Tryd.ntmps50
  go_wp2
  all_goals
    go_ret2
    refine ⟨ret2 ?_ ?_, rfl⟩
    all_goals
      unfold Lib.decodeN
      repeat' split
      all_goals (first | (exfalso; omega) | (simp only; done) | (simp only; omega))

set_option maxRecDepth 100000 in
set_option maxHeartbeats 4000000 in
theorem rune_s3 (s : ByteArray) (w : World) (h0 : 0 < s.size) (b c d : Nat) (A : UInt8) (a0 : s[0]'(by omega) = A) (hA : (224 : Int) ≤ A.toNat) (hA2 : (A.toNat : Int) ≤ 239) (hs : s.size < 3) :
    Calls Tryd.prog 50 #[.string s] w fun e w' => e = .returned (.tuple #[.int .i64 ((Lib.decodeN s.size A.toNat b c d).1 : Int), .int .i64 ((Lib.decodeN s.size A.toNat b c d).2 : Int)]) ∧ w' = w := by
  have z0 : ¬ s.size = 0 := by omega
  have z1 : (0 : Int) < (s.size : Int) := by omega
  have z6 : ¬ s = ByteArray.empty := by intro e; subst e; simp at h0
  have b0 : (A.toNat : Int) < 256 := by have := A.toNat_lt; omega
  have z4 : (s.size : Int) < 3 := by omega
  go_enter Tryd.func50, Tryd.ntmps50
  go_wp2
  all_goals
    go_ret2
    refine ⟨ret2 ?_ ?_, rfl⟩
    all_goals
      unfold Lib.decodeN
      repeat' split
      all_goals (first | (exfalso; omega) | (simp only; done) | (simp only; omega))

set_option maxRecDepth 100000 in
set_option maxHeartbeats 4000000 in
theorem rune_s4 (s : ByteArray) (w : World) (h0 : 0 < s.size) (b c d : Nat) (A : UInt8) (a0 : s[0]'(by omega) = A) (hA : (240 : Int) ≤ A.toNat) (hA2 : (A.toNat : Int) ≤ 244) (hs : s.size < 4) :
    Calls Tryd.prog 50 #[.string s] w fun e w' => e = .returned (.tuple #[.int .i64 ((Lib.decodeN s.size A.toNat b c d).1 : Int), .int .i64 ((Lib.decodeN s.size A.toNat b c d).2 : Int)]) ∧ w' = w := by
  have z0 : ¬ s.size = 0 := by omega
  have z1 : (0 : Int) < (s.size : Int) := by omega
  have z6 : ¬ s = ByteArray.empty := by intro e; subst e; simp at h0
  have b0 : (A.toNat : Int) < 256 := by have := A.toNat_lt; omega
  have z4 : (s.size : Int) < 4 := by omega
  go_enter Tryd.func50, Tryd.ntmps50
  go_wp2
  all_goals
    go_ret2
    refine ⟨ret2 ?_ ?_, rfl⟩
    all_goals
      unfold Lib.decodeN
      repeat' split
      all_goals (first | (exfalso; omega) | (simp only; done) | (simp only; omega))

set_option maxRecDepth 100000 in
set_option maxHeartbeats 4000000 in
theorem rune_l2 (s : ByteArray) (w : World) (h0 : 0 < s.size) (c d : Nat) (A : UInt8) (a0 : s[0]'(by omega) = A) (hA : (194 : Int) ≤ A.toNat) (hA2 : (A.toNat : Int) ≤ 223) (hs : 2 ≤ s.size) (B : UInt8) (a1 : s[1]'(by omega) = B) :
    Calls Tryd.prog 50 #[.string s] w fun e w' => e = .returned (.tuple #[.int .i64 ((Lib.decodeN s.size A.toNat B.toNat c d).1 : Int), .int .i64 ((Lib.decodeN s.size A.toNat B.toNat c d).2 : Int)]) ∧ w' = w := by
  have z0 : ¬ s.size = 0 := by omega
  have z1 : (0 : Int) < (s.size : Int) := by omega
  have z6 : ¬ s = ByteArray.empty := by intro e; subst e; simp at h0
  have b0 : (A.toNat : Int) < 256 := by have := A.toNat_lt; omega
  have z4 : ¬ (s.size : Int) < 2 := by omega
  have z2 : (1 : Int) < (s.size : Int) := by omega
  have b1 : (B.toNat : Int) < 256 := by have := B.toNat_lt; omega
  go_enter Tryd.func50, Tryd.ntmps50
  go_wp2
  go_rounds 3
  all_goals
    go_ret2
    refine ⟨ret2 ?_ ?_, rfl⟩
    all_goals
      unfold Lib.decodeN
      repeat' split
      all_goals (first | (exfalso; omega) | (simp only; done) | (simp only; omega))
end Go.Proofs.YtbhcniemkjoflaaDoor
/- What the document's own function Rune answers, of three bytes. -/
namespace Go.Proofs.YtbhcniemkjoflaaDoor
open Go.RowKit
open M

set_option maxRecDepth 100000 in
set_option maxHeartbeats 4000000 in
theorem rune_l3 (s : ByteArray) (w : World) (h0 : 0 < s.size) (d : Nat) (A : UInt8) (a0 : s[0]'(by omega) = A) (hA : (224 : Int) ≤ A.toNat) (hA2 : (A.toNat : Int) ≤ 239) (hs : 3 ≤ s.size) (B C : UInt8) (a1 : s[1]'(by omega) = B) (a2 : s[2]'(by omega) = C) :
    Calls Tryd.prog 50 #[.string s] w fun e w' => e = .returned (.tuple #[.int .i64 ((Lib.decodeN s.size A.toNat B.toNat C.toNat d).1 : Int), .int .i64 ((Lib.decodeN s.size A.toNat B.toNat C.toNat d).2 : Int)]) ∧ w' = w := by
  have z0 : ¬ s.size = 0 := by omega
  have z1 : (0 : Int) < (s.size : Int) := by omega
  have z6 : ¬ s = ByteArray.empty := by intro e; subst e; simp at h0
  have b0 : (A.toNat : Int) < 256 := by have := A.toNat_lt; omega
  have z4 : ¬ (s.size : Int) < 3 := by omega
  have z3 : (2 : Int) < (s.size : Int) := by omega
  have b2 : (C.toNat : Int) < 256 := by have := C.toNat_lt; omega
  have z2 : (1 : Int) < (s.size : Int) := by omega
  have b1 : (B.toNat : Int) < 256 := by have := B.toNat_lt; omega
  go_enter Tryd.func50, Tryd.ntmps50
  go_wp2
  go_rounds 4
  all_goals
    go_ret2
    refine ⟨ret2 ?_ ?_, rfl⟩
    all_goals
      unfold Lib.decodeN
      repeat' split
      all_goals (first | (exfalso; omega) | (simp only; done) | (simp only; omega))
end Go.Proofs.YtbhcniemkjoflaaDoor
/- What the document's own function Rune answers, of four bytes. -/
namespace Go.Proofs.YtbhcniemkjoflaaDoor
open Go.RowKit
open M

set_option maxRecDepth 100000 in
set_option maxHeartbeats 4000000 in
theorem rune_l4 (s : ByteArray) (w : World) (h0 : 0 < s.size) (A : UInt8) (a0 : s[0]'(by omega) = A) (hA : (240 : Int) ≤ A.toNat) (hA2 : (A.toNat : Int) ≤ 244) (hs : 4 ≤ s.size) (B C D : UInt8) (a1 : s[1]'(by omega) = B) (a2 : s[2]'(by omega) = C) (a3 : s[3]'(by omega) = D) :
    Calls Tryd.prog 50 #[.string s] w fun e w' => e = .returned (.tuple #[.int .i64 ((Lib.decodeN s.size A.toNat B.toNat C.toNat D.toNat).1 : Int), .int .i64 ((Lib.decodeN s.size A.toNat B.toNat C.toNat D.toNat).2 : Int)]) ∧ w' = w := by
  have z0 : ¬ s.size = 0 := by omega
  have z1 : (0 : Int) < (s.size : Int) := by omega
  have z6 : ¬ s = ByteArray.empty := by intro e; subst e; simp at h0
  have b0 : (A.toNat : Int) < 256 := by have := A.toNat_lt; omega
  have z4 : ¬ (s.size : Int) < 4 := by omega
  have z5 : (3 : Int) < (s.size : Int) := by omega
  have b3 : (D.toNat : Int) < 256 := by have := D.toNat_lt; omega
  have z3 : (2 : Int) < (s.size : Int) := by omega
  have b2 : (C.toNat : Int) < 256 := by have := C.toNat_lt; omega
  have z2 : (1 : Int) < (s.size : Int) := by omega
  have b1 : (B.toNat : Int) < 256 := by have := B.toNat_lt; omega
  go_enter Tryd.func50, Tryd.ntmps50
  go_wp2
  go_rounds 5
  all_goals
    go_ret2
    refine ⟨ret2 ?_ ?_, rfl⟩
    all_goals
      unfold Lib.decodeN
      repeat' split
      all_goals (first | (exfalso; omega) | (simp only; done) | (simp only; omega))
end Go.Proofs.YtbhcniemkjoflaaDoor
/- What the document's own function Rune answers, of any text. -/
namespace Go.Proofs.YtbhcniemkjoflaaDoor
open Go.RowKit
open M

theorem getD_bs (s : ByteArray) (k : Nat) (h : k < s.size) : (bs s).getD k 0 = s[k]'h := by
  unfold bs
  rw [List.getD_eq_getElem?_getD, List.getElem?_eq_getElem (by simpa using h)]
  rfl

theorem refRune_any (s : ByteArray) (w : World) (h : 0 < s.size) :
    Calls Tryd.prog 50 #[.string s] w fun e w' => e = .returned (.tuple #[.int .i64 (ch (bs s)), .int .i64 (sz (bs s))]) ∧ w' = w := by
  have hl := bs_len s
  have hd : dec (bs s) = Lib.decodeN s.size ((bs s).getD 0 0).toNat ((bs s).getD 1 0).toNat ((bs s).getD 2 0).toNat ((bs s).getD 3 0).toNat := by
    unfold dec; rw [if_neg (by omega), hl]
  unfold ch sz
  rw [hd, getD_bs s 0 h]
  have hA := (s[0]'h).toNat_lt
  by_cases c1 : (s[0]'h).toNat < 128
  · exact rune_c1 s w h _ _ _ _ rfl (by omega)
  by_cases c2 : (s[0]'h).toNat < 194
  · exact rune_lo s w h _ _ _ _ rfl (by omega) (by omega)
  by_cases c3 : (s[0]'h).toNat ≤ 223
  · by_cases h2 : s.size < 2
    · exact rune_s2 s w h _ _ _ _ rfl (by omega) (by omega) h2
    · rw [getD_bs s 1 (by omega)]
      exact rune_l2 s w h _ _ _ rfl (by omega) (by omega) (by omega) _ rfl
  by_cases c4 : (s[0]'h).toNat ≤ 239
  · by_cases h2 : s.size < 3
    · exact rune_s3 s w h _ _ _ _ rfl (by omega) (by omega) h2
    · rw [getD_bs s 1 (by omega), getD_bs s 2 (by omega)]
      exact rune_l3 s w h _ _ rfl (by omega) (by omega) (by omega) _ _ rfl rfl
  by_cases c5 : (s[0]'h).toNat ≤ 244
  · by_cases h2 : s.size < 4
    · exact rune_s4 s w h _ _ _ _ rfl (by omega) (by omega) h2
    · rw [getD_bs s 1 (by omega), getD_bs s 2 (by omega), getD_bs s 3 (by omega)]
      exact rune_l4 s w h _ rfl (by omega) (by omega) (by omega) _ _ _ rfl rfl rfl
  · exact rune_hi s w h _ _ _ _ rfl (by omega)

end Go.Proofs.YtbhcniemkjoflaaDoor
