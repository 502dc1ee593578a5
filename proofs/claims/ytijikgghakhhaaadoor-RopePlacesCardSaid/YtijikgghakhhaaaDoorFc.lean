/- What the document's own function Rune answers, of four bytes. -/
import Derived.Test.YtijikgghakhhaaaDoorFa
namespace Go.Proofs.YtijikgghakhhaaaDoor
open Go.RowKit
open M

set_option maxRecDepth 100000 in
set_option maxHeartbeats 4000000 in
theorem rune_l4 (s : ByteArray) (w : World) (h0 : 0 < s.size) (A : UInt8) (a0 : s[0]'(by omega) = A) (hA : (240 : Int) ≤ A.toNat) (hA2 : (A.toNat : Int) ≤ 244) (hs : 4 ≤ s.size) (B C D : UInt8) (a1 : s[1]'(by omega) = B) (a2 : s[2]'(by omega) = C) (a3 : s[3]'(by omega) = D) :
    Calls Tryd.prog 19 #[.string s] w fun e w' => e = .returned (.tuple #[.int .i64 ((Lib.decodeN s.size A.toNat B.toNat C.toNat D.toNat).1 : Int), .int .i64 ((Lib.decodeN s.size A.toNat B.toNat C.toNat D.toNat).2 : Int)]) ∧ w' = w := by
  have z0 : ¬ s.size = 0 := by omega
  have z1 : (0 : Int) < (s.size : Int) := by omega
  have z6 : ¬ s = ByteArray.empty := by intro e; subst e; simp at h0
  have b0 : (A.toNat : Int) < 256 := by have := A.toNat_lt; omega
  have z4 : ¬ (s.size : Int) < 4 := by omega
  have z5 : (3 : Int) < (s.size : Int) := by omega
  have b3 : (D.toNat : Int) < 256 := by have := D.toNat_lt; omega
  have z3 : (2 : Int) < (s.size : Int) := by omega
  have b2 : (C.toNat : Int) < 256 := by have := C.toNat_lt; omega
  have z2 : (1 : Int) < (s.size : Int) := by omega
  have b1 : (B.toNat : Int) < 256 := by have := B.toNat_lt; omega
  go_enter Tryd.func19, Tryd.ntmps19
  go_wp2
  go_rounds 5
  all_goals
    go_ret2
    refine ⟨ret2 ?_ ?_, rfl⟩
    all_goals
      unfold Lib.decodeN
      repeat' split
      all_goals (first | (exfalso; omega) | (simp only; done) | (simp only; omega))
end Go.Proofs.YtijikgghakhhaaaDoor
