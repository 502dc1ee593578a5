/- What the document's own function Rune answers, of three and of four bytes. -/
import Derived.Test.YtijikgghakhhaaaDoorFa
namespace Go.Proofs.YtijikgghakhhaaaDoor
open Go.RowKit
open M

set_option maxRecDepth 100000 in
set_option maxHeartbeats 4000000 in
theorem rune_l3 (s : ByteArray) (w : World) (h0 : 0 < s.size) (d : Nat) (A : UInt8) (a0 : s[0]'(by omega) = A) (hA : (224 : Int) ≤ A.toNat) (hA2 : (A.toNat : Int) ≤ 239) (hs : 3 ≤ s.size) (B C : UInt8) (a1 : s[1]'(by omega) = B) (a2 : s[2]'(by omega) = C) :
    Calls Tryd.prog 19 #[.string s] w fun e w' => e = .returned (.tuple #[.int .i64 ((Lib.decodeN s.size A.toNat B.toNat C.toNat d).1 : Int), .int .i64 ((Lib.decodeN s.size A.toNat B.toNat C.toNat d).2 : Int)]) ∧ w' = w := by
  have z0 : ¬ s.size = 0 := by omega
  have z1 : (0 : Int) < (s.size : Int) := by omega
  have z6 : ¬ s = ByteArray.empty := by intro e; subst e; simp at h0
  have b0 : (A.toNat : Int) < 256 := by have := A.toNat_lt; omega
  have z4 : ¬ (s.size : Int) < 3 := by omega
  have z3 : (2 : Int) < (s.size : Int) := by omega
  have b2 : (C.toNat : Int) < 256 := by have := C.toNat_lt; omega
  have z2 : (1 : Int) < (s.size : Int) := by omega
  have b1 : (B.toNat : Int) < 256 := by have := B.toNat_lt; omega
  go_enter Tryd.func19, Tryd.ntmps19
  go_wp2
  go_rounds 4
  all_goals
    go_ret2
    refine ⟨ret2 ?_ ?_, rfl⟩
    all_goals
      unfold Lib.decodeN
      repeat' split
      all_goals (first | (exfalso; omega) | (simp only; done) | (simp only; omega))
end Go.Proofs.YtijikgghakhhaaaDoor
