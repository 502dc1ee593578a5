/- The document's own small questions: a letter, two bytes, a digit of sixteen. -/
import Derived.Test.YtbhcniemkjoflaaDoorDa
import Derived.Test.YtbhcniemkjoflaaDoorCc
namespace Go.Proofs.YtbhcniemkjoflaaDoor
open Go.RowKit
open M

set_option maxHeartbeats 4000000 in
theorem refLetter_0 (c : Int) (w : World) (h2 : c ≤ 64) : Calls Tryd.prog 51 #[.int .i64 c] w fun e w' => e = .returned (.bool (isLt c)) ∧ w' = w := by
  have HH : Hid (isLt c = false) := by show _ = _; unfold isLt; simp; omega
  have g0 : decide (((97 : Int)) ≤ c) = false := by simp; omega
  have g1 : decide (((65 : Int)) ≤ c) = false := by simp; omega
  have g2 : decide (((192 : Int)) ≤ c) = false := by simp; omega
  have g3 : decide (((880 : Int)) ≤ c) = false := by simp; omega
  have g4 : decide (((1024 : Int)) ≤ c) = false := by simp; omega
  have g5 : decide (c ≤ (122 : Int)) = true := by simp; omega
  have g6 : decide (c ≤ (90 : Int)) = true := by simp; omega
  have g7 : decide (c ≤ (591 : Int)) = true := by simp; omega
  have g8 : decide (c ≤ (1023 : Int)) = true := by simp; omega
  have g9 : decide (c ≤ (1279 : Int)) = true := by simp; omega
  have q1 : (c == 95) = false := by simp; omega
  have q2 : (c != 215) = true := by simp; omega
  have q3 : (c != 247) = true := by simp; omega
  go_enter Tryd.func51, Tryd.ntmps51
  go_wp2
  go_ret
  exact ⟨retb HH.out.symm, rfl⟩
set_option maxHeartbeats 4000000 in
theorem refLetter_1 (c : Int) (w : World) (h1 : 65 ≤ c) (h2 : c ≤ 90) : Calls Tryd.prog 51 #[.int .i64 c] w fun e w' => e = .returned (.bool (isLt c)) ∧ w' = w := by
  have HH : Hid (isLt c = true) := by show _ = _; unfold isLt; simp; omega
  have g0 : decide (((97 : Int)) ≤ c) = false := by simp; omega
  have g1 : decide (((65 : Int)) ≤ c) = true := by simp; omega
  have g2 : decide (((192 : Int)) ≤ c) = false := by simp; omega
  have g3 : decide (((880 : Int)) ≤ c) = false := by simp; omega
  have g4 : decide (((1024 : Int)) ≤ c) = false := by simp; omega
  have g5 : decide (c ≤ (122 : Int)) = true := by simp; omega
  have g6 : decide (c ≤ (90 : Int)) = true := by simp; omega
  have g7 : decide (c ≤ (591 : Int)) = true := by simp; omega
  have g8 : decide (c ≤ (1023 : Int)) = true := by simp; omega
  have g9 : decide (c ≤ (1279 : Int)) = true := by simp; omega
  have q1 : (c == 95) = false := by simp; omega
  have q2 : (c != 215) = true := by simp; omega
  have q3 : (c != 247) = true := by simp; omega
  go_enter Tryd.func51, Tryd.ntmps51
  go_wp2
  go_ret
  exact ⟨retb HH.out.symm, rfl⟩
set_option maxHeartbeats 4000000 in
theorem refLetter_2 (c : Int) (w : World) (h1 : 91 ≤ c) (h2 : c ≤ 94) : Calls Tryd.prog 51 #[.int .i64 c] w fun e w' => e = .returned (.bool (isLt c)) ∧ w' = w := by
  have HH : Hid (isLt c = false) := by show _ = _; unfold isLt; simp; omega
  have g0 : decide (((97 : Int)) ≤ c) = false := by simp; omega
  have g1 : decide (((65 : Int)) ≤ c) = true := by simp; omega
  have g2 : decide (((192 : Int)) ≤ c) = false := by simp; omega
  have g3 : decide (((880 : Int)) ≤ c) = false := by simp; omega
  have g4 : decide (((1024 : Int)) ≤ c) = false := by simp; omega
  have g5 : decide (c ≤ (122 : Int)) = true := by simp; omega
  have g6 : decide (c ≤ (90 : Int)) = false := by simp; omega
  have g7 : decide (c ≤ (591 : Int)) = true := by simp; omega
  have g8 : decide (c ≤ (1023 : Int)) = true := by simp; omega
  have g9 : decide (c ≤ (1279 : Int)) = true := by simp; omega
  have q1 : (c == 95) = false := by simp; omega
  have q2 : (c != 215) = true := by simp; omega
  have q3 : (c != 247) = true := by simp; omega
  go_enter Tryd.func51, Tryd.ntmps51
  go_wp2
  go_ret
  exact ⟨retb HH.out.symm, rfl⟩
set_option maxHeartbeats 4000000 in
theorem refLetter_3 (c : Int) (w : World) (h1 : 95 ≤ c) (h2 : c ≤ 95) : Calls Tryd.prog 51 #[.int .i64 c] w fun e w' => e = .returned (.bool (isLt c)) ∧ w' = w := by
  have HH : Hid (isLt c = true) := by show _ = _; unfold isLt; simp; omega
  have g0 : decide (((97 : Int)) ≤ c) = false := by simp; omega
  have g1 : decide (((65 : Int)) ≤ c) = true := by simp; omega
  have g2 : decide (((192 : Int)) ≤ c) = false := by simp; omega
  have g3 : decide (((880 : Int)) ≤ c) = false := by simp; omega
  have g4 : decide (((1024 : Int)) ≤ c) = false := by simp; omega
  have g5 : decide (c ≤ (122 : Int)) = true := by simp; omega
  have g6 : decide (c ≤ (90 : Int)) = false := by simp; omega
  have g7 : decide (c ≤ (591 : Int)) = true := by simp; omega
  have g8 : decide (c ≤ (1023 : Int)) = true := by simp; omega
  have g9 : decide (c ≤ (1279 : Int)) = true := by simp; omega
  have q1 : (c == 95) = true := by simp; omega
  have q2 : (c != 215) = true := by simp; omega
  have q3 : (c != 247) = true := by simp; omega
  go_enter Tryd.func51, Tryd.ntmps51
  go_wp2
  go_ret
  exact ⟨retb HH.out.symm, rfl⟩
set_option maxHeartbeats 4000000 in
theorem refLetter_4 (c : Int) (w : World) (h1 : 96 ≤ c) (h2 : c ≤ 96) : Calls Tryd.prog 51 #[.int .i64 c] w fun e w' => e = .returned (.bool (isLt c)) ∧ w' = w := by
  have HH : Hid (isLt c = false) := by show _ = _; unfold isLt; simp; omega
  have g0 : decide (((97 : Int)) ≤ c) = false := by simp; omega
  have g1 : decide (((65 : Int)) ≤ c) = true := by simp; omega
  have g2 : decide (((192 : Int)) ≤ c) = false := by simp; omega
  have g3 : decide (((880 : Int)) ≤ c) = false := by simp; omega
  have g4 : decide (((1024 : Int)) ≤ c) = false := by simp; omega
  have g5 : decide (c ≤ (122 : Int)) = true := by simp; omega
  have g6 : decide (c ≤ (90 : Int)) = false := by simp; omega
  have g7 : decide (c ≤ (591 : Int)) = true := by simp; omega
  have g8 : decide (c ≤ (1023 : Int)) = true := by simp; omega
  have g9 : decide (c ≤ (1279 : Int)) = true := by simp; omega
  have q1 : (c == 95) = false := by simp; omega
  have q2 : (c != 215) = true := by simp; omega
  have q3 : (c != 247) = true := by simp; omega
  go_enter Tryd.func51, Tryd.ntmps51
  go_wp2
  go_ret
  exact ⟨retb HH.out.symm, rfl⟩
set_option maxHeartbeats 4000000 in
theorem refLetter_5 (c : Int) (w : World) (h1 : 97 ≤ c) (h2 : c ≤ 122) : Calls Tryd.prog 51 #[.int .i64 c] w fun e w' => e = .returned (.bool (isLt c)) ∧ w' = w := by
  have HH : Hid (isLt c = true) := by show _ = _; unfold isLt; simp; omega
  have g0 : decide (((97 : Int)) ≤ c) = true := by simp; omega
  have g1 : decide (((65 : Int)) ≤ c) = true := by simp; omega
  have g2 : decide (((192 : Int)) ≤ c) = false := by simp; omega
  have g3 : decide (((880 : Int)) ≤ c) = false := by simp; omega
  have g4 : decide (((1024 : Int)) ≤ c) = false := by simp; omega
  have g5 : decide (c ≤ (122 : Int)) = true := by simp; omega
  have g6 : decide (c ≤ (90 : Int)) = false := by simp; omega
  have g7 : decide (c ≤ (591 : Int)) = true := by simp; omega
  have g8 : decide (c ≤ (1023 : Int)) = true := by simp; omega
  have g9 : decide (c ≤ (1279 : Int)) = true := by simp; omega
  have q1 : (c == 95) = false := by simp; omega
  have q2 : (c != 215) = true := by simp; omega
  have q3 : (c != 247) = true := by simp; omega
  go_enter Tryd.func51, Tryd.ntmps51
  go_wp2
  go_ret
  exact ⟨retb HH.out.symm, rfl⟩
set_option maxHeartbeats 4000000 in
theorem refLetter_6 (c : Int) (w : World) (h1 : 123 ≤ c) (h2 : c ≤ 191) : Calls Tryd.prog 51 #[.int .i64 c] w fun e w' => e = .returned (.bool (isLt c)) ∧ w' = w := by
  have HH : Hid (isLt c = false) := by show _ = _; unfold isLt; simp; omega
  have g0 : decide (((97 : Int)) ≤ c) = true := by simp; omega
  have g1 : decide (((65 : Int)) ≤ c) = true := by simp; omega
  have g2 : decide (((192 : Int)) ≤ c) = false := by simp; omega
  have g3 : decide (((880 : Int)) ≤ c) = false := by simp; omega
  have g4 : decide (((1024 : Int)) ≤ c) = false := by simp; omega
  have g5 : decide (c ≤ (122 : Int)) = false := by simp; omega
  have g6 : decide (c ≤ (90 : Int)) = false := by simp; omega
  have g7 : decide (c ≤ (591 : Int)) = true := by simp; omega
  have g8 : decide (c ≤ (1023 : Int)) = true := by simp; omega
  have g9 : decide (c ≤ (1279 : Int)) = true := by simp; omega
  have q1 : (c == 95) = false := by simp; omega
  have q2 : (c != 215) = true := by simp; omega
  have q3 : (c != 247) = true := by simp; omega
  go_enter Tryd.func51, Tryd.ntmps51
  go_wp2
  go_ret
  exact ⟨retb HH.out.symm, rfl⟩
set_option maxHeartbeats 4000000 in
theorem refLetter_7 (c : Int) (w : World) (h1 : 192 ≤ c) (h2 : c ≤ 214) : Calls Tryd.prog 51 #[.int .i64 c] w fun e w' => e = .returned (.bool (isLt c)) ∧ w' = w := by
  have HH : Hid (isLt c = true) := by show _ = _; unfold isLt; simp; omega
  have g0 : decide (((97 : Int)) ≤ c) = true := by simp; omega
  have g1 : decide (((65 : Int)) ≤ c) = true := by simp; omega
  have g2 : decide (((192 : Int)) ≤ c) = true := by simp; omega
  have g3 : decide (((880 : Int)) ≤ c) = false := by simp; omega
  have g4 : decide (((1024 : Int)) ≤ c) = false := by simp; omega
  have g5 : decide (c ≤ (122 : Int)) = false := by simp; omega
  have g6 : decide (c ≤ (90 : Int)) = false := by simp; omega
  have g7 : decide (c ≤ (591 : Int)) = true := by simp; omega
  have g8 : decide (c ≤ (1023 : Int)) = true := by simp; omega
  have g9 : decide (c ≤ (1279 : Int)) = true := by simp; omega
  have q1 : (c == 95) = false := by simp; omega
  have q2 : (c != 215) = true := by simp; omega
  have q3 : (c != 247) = true := by simp; omega
  go_enter Tryd.func51, Tryd.ntmps51
  go_wp2
  go_ret
  exact ⟨retb HH.out.symm, rfl⟩
set_option maxHeartbeats 4000000 in
theorem refLetter_8 (c : Int) (w : World) (h1 : 215 ≤ c) (h2 : c ≤ 215) : Calls Tryd.prog 51 #[.int .i64 c] w fun e w' => e = .returned (.bool (isLt c)) ∧ w' = w := by
  have HH : Hid (isLt c = false) := by show _ = _; unfold isLt; simp; omega
  have g0 : decide (((97 : Int)) ≤ c) = true := by simp; omega
  have g1 : decide (((65 : Int)) ≤ c) = true := by simp; omega
  have g2 : decide (((192 : Int)) ≤ c) = true := by simp; omega
  have g3 : decide (((880 : Int)) ≤ c) = false := by simp; omega
  have g4 : decide (((1024 : Int)) ≤ c) = false := by simp; omega
  have g5 : decide (c ≤ (122 : Int)) = false := by simp; omega
  have g6 : decide (c ≤ (90 : Int)) = false := by simp; omega
  have g7 : decide (c ≤ (591 : Int)) = true := by simp; omega
  have g8 : decide (c ≤ (1023 : Int)) = true := by simp; omega
  have g9 : decide (c ≤ (1279 : Int)) = true := by simp; omega
  have q1 : (c == 95) = false := by simp; omega
  have q2 : (c != 215) = false := by simp; omega
  have q3 : (c != 247) = true := by simp; omega
  go_enter Tryd.func51, Tryd.ntmps51
  go_wp2
  go_ret
  exact ⟨retb HH.out.symm, rfl⟩
set_option maxHeartbeats 4000000 in
theorem refLetter_9 (c : Int) (w : World) (h1 : 216 ≤ c) (h2 : c ≤ 246) : Calls Tryd.prog 51 #[.int .i64 c] w fun e w' => e = .returned (.bool (isLt c)) ∧ w' = w := by
  have HH : Hid (isLt c = true) := by show _ = _; unfold isLt; simp; omega
  have g0 : decide (((97 : Int)) ≤ c) = true := by simp; omega
  have g1 : decide (((65 : Int)) ≤ c) = true := by simp; omega
  have g2 : decide (((192 : Int)) ≤ c) = true := by simp; omega
  have g3 : decide (((880 : Int)) ≤ c) = false := by simp; omega
  have g4 : decide (((1024 : Int)) ≤ c) = false := by simp; omega
  have g5 : decide (c ≤ (122 : Int)) = false := by simp; omega
  have g6 : decide (c ≤ (90 : Int)) = false := by simp; omega
  have g7 : decide (c ≤ (591 : Int)) = true := by simp; omega
  have g8 : decide (c ≤ (1023 : Int)) = true := by simp; omega
  have g9 : decide (c ≤ (1279 : Int)) = true := by simp; omega
  have q1 : (c == 95) = false := by simp; omega
  have q2 : (c != 215) = true := by simp; omega
  have q3 : (c != 247) = true := by simp; omega
  go_enter Tryd.func51, Tryd.ntmps51
  go_wp2
  go_ret
  exact ⟨retb HH.out.symm, rfl⟩
set_option maxHeartbeats 4000000 in
theorem refLetter_10 (c : Int) (w : World) (h1 : 247 ≤ c) (h2 : c ≤ 247) : Calls Tryd.prog 51 #[.int .i64 c] w fun e w' => e = .returned (.bool (isLt c)) ∧ w' = w := by
  have HH : Hid (isLt c = false) := by show _ = _; unfold isLt; simp; omega
  have g0 : decide (((97 : Int)) ≤ c) = true := by simp; omega
  have g1 : decide (((65 : Int)) ≤ c) = true := by simp; omega
  have g2 : decide (((192 : Int)) ≤ c) = true := by simp; omega
  have g3 : decide (((880 : Int)) ≤ c) = false := by simp; omega
  have g4 : decide (((1024 : Int)) ≤ c) = false := by simp; omega
  have g5 : decide (c ≤ (122 : Int)) = false := by simp; omega
  have g6 : decide (c ≤ (90 : Int)) = false := by simp; omega
  have g7 : decide (c ≤ (591 : Int)) = true := by simp; omega
  have g8 : decide (c ≤ (1023 : Int)) = true := by simp; omega
  have g9 : decide (c ≤ (1279 : Int)) = true := by simp; omega
  have q1 : (c == 95) = false := by simp; omega
  have q2 : (c != 215) = true := by simp; omega
  have q3 : (c != 247) = false := by simp; omega
  go_enter Tryd.func51, Tryd.ntmps51
  go_wp2
  go_ret
  exact ⟨retb HH.out.symm, rfl⟩
set_option maxHeartbeats 4000000 in
theorem refLetter_11 (c : Int) (w : World) (h1 : 248 ≤ c) (h2 : c ≤ 591) : Calls Tryd.prog 51 #[.int .i64 c] w fun e w' => e = .returned (.bool (isLt c)) ∧ w' = w := by
  have HH : Hid (isLt c = true) := by show _ = _; unfold isLt; simp; omega
  have g0 : decide (((97 : Int)) ≤ c) = true := by simp; omega
  have g1 : decide (((65 : Int)) ≤ c) = true := by simp; omega
  have g2 : decide (((192 : Int)) ≤ c) = true := by simp; omega
  have g3 : decide (((880 : Int)) ≤ c) = false := by simp; omega
  have g4 : decide (((1024 : Int)) ≤ c) = false := by simp; omega
  have g5 : decide (c ≤ (122 : Int)) = false := by simp; omega
  have g6 : decide (c ≤ (90 : Int)) = false := by simp; omega
  have g7 : decide (c ≤ (591 : Int)) = true := by simp; omega
  have g8 : decide (c ≤ (1023 : Int)) = true := by simp; omega
  have g9 : decide (c ≤ (1279 : Int)) = true := by simp; omega
  have q1 : (c == 95) = false := by simp; omega
  have q2 : (c != 215) = true := by simp; omega
  have q3 : (c != 247) = true := by simp; omega
  go_enter Tryd.func51, Tryd.ntmps51
  go_wp2
  go_ret
  exact ⟨retb HH.out.symm, rfl⟩
set_option maxHeartbeats 4000000 in
theorem refLetter_12 (c : Int) (w : World) (h1 : 592 ≤ c) (h2 : c ≤ 879) : Calls Tryd.prog 51 #[.int .i64 c] w fun e w' => e = .returned (.bool (isLt c)) ∧ w' = w := by
  have HH : Hid (isLt c = false) := by show _ = _; unfold isLt; simp; omega
  have g0 : decide (((97 : Int)) ≤ c) = true := by simp; omega
  have g1 : decide (((65 : Int)) ≤ c) = true := by simp; omega
  have g2 : decide (((192 : Int)) ≤ c) = true := by simp; omega
  have g3 : decide (((880 : Int)) ≤ c) = false := by simp; omega
  have g4 : decide (((1024 : Int)) ≤ c) = false := by simp; omega
  have g5 : decide (c ≤ (122 : Int)) = false := by simp; omega
  have g6 : decide (c ≤ (90 : Int)) = false := by simp; omega
  have g7 : decide (c ≤ (591 : Int)) = false := by simp; omega
  have g8 : decide (c ≤ (1023 : Int)) = true := by simp; omega
  have g9 : decide (c ≤ (1279 : Int)) = true := by simp; omega
  have q1 : (c == 95) = false := by simp; omega
  have q2 : (c != 215) = true := by simp; omega
  have q3 : (c != 247) = true := by simp; omega
  go_enter Tryd.func51, Tryd.ntmps51
  go_wp2
  go_ret
  exact ⟨retb HH.out.symm, rfl⟩
set_option maxHeartbeats 4000000 in
theorem refLetter_13 (c : Int) (w : World) (h1 : 880 ≤ c) (h2 : c ≤ 1023) : Calls Tryd.prog 51 #[.int .i64 c] w fun e w' => e = .returned (.bool (isLt c)) ∧ w' = w := by
  have HH : Hid (isLt c = true) := by show _ = _; unfold isLt; simp; omega
  have g0 : decide (((97 : Int)) ≤ c) = true := by simp; omega
  have g1 : decide (((65 : Int)) ≤ c) = true := by simp; omega
  have g2 : decide (((192 : Int)) ≤ c) = true := by simp; omega
  have g3 : decide (((880 : Int)) ≤ c) = true := by simp; omega
  have g4 : decide (((1024 : Int)) ≤ c) = false := by simp; omega
  have g5 : decide (c ≤ (122 : Int)) = false := by simp; omega
  have g6 : decide (c ≤ (90 : Int)) = false := by simp; omega
  have g7 : decide (c ≤ (591 : Int)) = false := by simp; omega
  have g8 : decide (c ≤ (1023 : Int)) = true := by simp; omega
  have g9 : decide (c ≤ (1279 : Int)) = true := by simp; omega
  have q1 : (c == 95) = false := by simp; omega
  have q2 : (c != 215) = true := by simp; omega
  have q3 : (c != 247) = true := by simp; omega
  go_enter Tryd.func51, Tryd.ntmps51
  go_wp2
  go_ret
  exact ⟨retb HH.out.symm, rfl⟩
set_option maxHeartbeats 4000000 in
theorem refLetter_14 (c : Int) (w : World) (h1 : 1024 ≤ c) (h2 : c ≤ 1279) : Calls Tryd.prog 51 #[.int .i64 c] w fun e w' => e = .returned (.bool (isLt c)) ∧ w' = w := by
  have HH : Hid (isLt c = true) := by show _ = _; unfold isLt; simp; omega
  have g0 : decide (((97 : Int)) ≤ c) = true := by simp; omega
  have g1 : decide (((65 : Int)) ≤ c) = true := by simp; omega
  have g2 : decide (((192 : Int)) ≤ c) = true := by simp; omega
  have g3 : decide (((880 : Int)) ≤ c) = true := by simp; omega
  have g4 : decide (((1024 : Int)) ≤ c) = true := by simp; omega
  have g5 : decide (c ≤ (122 : Int)) = false := by simp; omega
  have g6 : decide (c ≤ (90 : Int)) = false := by simp; omega
  have g7 : decide (c ≤ (591 : Int)) = false := by simp; omega
  have g8 : decide (c ≤ (1023 : Int)) = false := by simp; omega
  have g9 : decide (c ≤ (1279 : Int)) = true := by simp; omega
  have q1 : (c == 95) = false := by simp; omega
  have q2 : (c != 215) = true := by simp; omega
  have q3 : (c != 247) = true := by simp; omega
  go_enter Tryd.func51, Tryd.ntmps51
  go_wp2
  go_ret
  exact ⟨retb HH.out.symm, rfl⟩
set_option maxHeartbeats 4000000 in
theorem refLetter_15 (c : Int) (w : World) (h1 : 1280 ≤ c) : Calls Tryd.prog 51 #[.int .i64 c] w fun e w' => e = .returned (.bool (isLt c)) ∧ w' = w := by
  have HH : Hid (isLt c = false) := by show _ = _; unfold isLt; simp; omega
  have g0 : decide (((97 : Int)) ≤ c) = true := by simp; omega
  have g1 : decide (((65 : Int)) ≤ c) = true := by simp; omega
  have g2 : decide (((192 : Int)) ≤ c) = true := by simp; omega
  have g3 : decide (((880 : Int)) ≤ c) = true := by simp; omega
  have g4 : decide (((1024 : Int)) ≤ c) = true := by simp; omega
  have g5 : decide (c ≤ (122 : Int)) = false := by simp; omega
  have g6 : decide (c ≤ (90 : Int)) = false := by simp; omega
  have g7 : decide (c ≤ (591 : Int)) = false := by simp; omega
  have g8 : decide (c ≤ (1023 : Int)) = false := by simp; omega
  have g9 : decide (c ≤ (1279 : Int)) = false := by simp; omega
  have q1 : (c == 95) = false := by simp; omega
  have q2 : (c != 215) = true := by simp; omega
  have q3 : (c != 247) = true := by simp; omega
  go_enter Tryd.func51, Tryd.ntmps51
  go_wp2
  go_ret
  exact ⟨retb HH.out.symm, rfl⟩
theorem refLetter_any (c : Int) (w : World) : Calls Tryd.prog 51 #[.int .i64 c] w fun e w' => e = .returned (.bool (isLt c)) ∧ w' = w := by
  by_cases k0 : c ≤ 64
  · exact refLetter_0 c w k0
  by_cases k1 : c ≤ 90
  · exact refLetter_1 c w (by omega) k1
  by_cases k2 : c ≤ 94
  · exact refLetter_2 c w (by omega) k2
  by_cases k3 : c ≤ 95
  · exact refLetter_3 c w (by omega) k3
  by_cases k4 : c ≤ 96
  · exact refLetter_4 c w (by omega) k4
  by_cases k5 : c ≤ 122
  · exact refLetter_5 c w (by omega) k5
  by_cases k6 : c ≤ 191
  · exact refLetter_6 c w (by omega) k6
  by_cases k7 : c ≤ 214
  · exact refLetter_7 c w (by omega) k7
  by_cases k8 : c ≤ 215
  · exact refLetter_8 c w (by omega) k8
  by_cases k9 : c ≤ 246
  · exact refLetter_9 c w (by omega) k9
  by_cases k10 : c ≤ 247
  · exact refLetter_10 c w (by omega) k10
  by_cases k11 : c ≤ 591
  · exact refLetter_11 c w (by omega) k11
  by_cases k12 : c ≤ 879
  · exact refLetter_12 c w (by omega) k12
  by_cases k13 : c ≤ 1023
  · exact refLetter_13 c w (by omega) k13
  by_cases k14 : c ≤ 1279
  · exact refLetter_14 c w (by omega) k14
  exact refLetter_15 c w (by omega)

theorem byte_cc {s : ByteArray} {k : Nat} (h : k < s.size) {c : Nat} (hc : c < 128) : cc ((bs s).drop k) = (c : Int) ↔ (s[k]'h).toNat = c := by
  have e : ((bs s).drop k).getD 0 0 = s[k]'h := by
    rw [List.getD_eq_getElem?_getD, List.getElem?_drop, Nat.add_zero, ← List.getD_eq_getElem?_getD, getD_bs s k h]
  rw [cc_is hc, e]
  exact ⟨fun x => x.2, fun x => ⟨drop_ne h, x⟩⟩
theorem byte_lo {s : ByteArray} {k : Nat} (h : k < s.size) (h1 : (s[k]'h).toNat < 128) : cc ((bs s).drop k) = ((s[k]'h).toNat : Int) ∧ sz ((bs s).drop k) = 1 := by
  have e : ((bs s).drop k).getD 0 0 = s[k]'h := by
    rw [List.getD_eq_getElem?_getD, List.getElem?_drop, Nat.add_zero, ← List.getD_eq_getElem?_getD, getD_bs s k h]
  have := cc_lo (drop_ne h) (by rw [e]; exact h1)
  rw [e] at this
  exact ⟨this.1, this.2.1⟩
theorem byte_hi {s : ByteArray} {k : Nat} (h : k < s.size) (h1 : 128 ≤ (s[k]'h).toNat) : 128 ≤ cc ((bs s).drop k) := by
  have e : ((bs s).drop k).getD 0 0 = s[k]'h := by
    rw [List.getD_eq_getElem?_getD, List.getElem?_drop, Nat.add_zero, ← List.getD_eq_getElem?_getD, getD_bs s k h]
  exact cc_hi (drop_ne h) (by rw [e]; exact h1)

/-- Do two bytes stand at a place? -/
def hasB (s : ByteArray) (k a b : Nat) : Bool := decide (cc ((bs s).drop k) = (a : Int) ∧ cc ((bs s).drop (k + 1)) = (b : Int))
set_option maxHeartbeats 4000000 in
theorem has_any (s : ByteArray) (k a b : Nat) (w : World) (hk : k < s.size) (hs : s.size ≤ 1073741824) (ha : a < 128) (hb : b < 128) :
    Calls Tryd.prog 52 #[.string s, .int .i64 k, .int .u8 a, .int .u8 b] w fun e w' => e = .returned (.bool (hasB s k a b)) ∧ w' = w := by
  by_cases h1 : k + 1 < s.size
  · have i1 : (k : Int) + 1 < (s.size : Int) := by omega
    have e2 : cc ((bs s).drop (k + 1)) = (b : Int) ↔ (s[k + 1]'h1).toNat = b := byte_cc h1 hb
    have e1 : cc ((bs s).drop k) = (a : Int) ↔ (s[k]'hk).toNat = a := byte_cc hk ha
    by_cases h2 : (s[k]'hk).toNat = a
    · have i2 : (((s[k]'hk).toNat : Int) == (a : Int)) = true := by simp [h2]
      have HH : Hid (hasB s k a b = decide ((s[k + 1]'h1).toNat = b)) := by show _ = _; unfold hasB; rw [Bool.eq_iff_iff]; simp [e1, e2, h2]
      clear e1 e2 h2
      go_enter Tryd.func52, Tryd.ntmps52
      go_wp2
      go_ret
      refine ⟨retb ?_, rfl⟩
      rw [HH.out, Bool.eq_iff_iff]; simp; omega
    · have i2 : (((s[k]'hk).toNat : Int) == (a : Int)) = false := by simp; omega
      have HH : Hid (hasB s k a b = false) := by show _ = _; unfold hasB; simp [e1, h2]
      clear e1 e2 h2
      go_enter Tryd.func52, Tryd.ntmps52
      go_wp2
      go_ret
      exact ⟨retb HH.out.symm, rfl⟩
  · have i1 : ¬ (k : Int) + 1 < (s.size : Int) := by omega
    have HH : Hid (hasB s k a b = false) := by
      show _ = _; unfold hasB; rw [decide_eq_false_iff_not]
      rintro ⟨-, h⟩
      have : (bs s).drop (k + 1) = [] := by rw [List.drop_eq_nil_iff, bs_len]; omega
      rw [this, cc_nil] at h; omega
    have i2 : decide ((k : Int) + 1 < (s.size : Int)) = false := by simpa using i1
    go_enter Tryd.func52, Tryd.ntmps52
    go_wp2
    go_ret
    exact ⟨retb HH.out.symm, rfl⟩

set_option maxHeartbeats 4000000 in
theorem hexa_any (c : Nat) (w : World) (hc : c < 256) : Calls Tryd.prog 60 #[.int .u8 c] w fun e w' => e = .returned (.int .i64 (hexOf c)) ∧ w' = w := by
  have HH : Hid (hexOf (c : Int) = if 48 ≤ (c : Int) ∧ (c : Int) ≤ 57 then (c : Int) - 48 else if 97 ≤ (c : Int) ∧ (c : Int) ≤ 102 then (c : Int) - 87 else if 65 ≤ (c : Int) ∧ (c : Int) ≤ 70 then (c : Int) - 55 else -1) := rfl
  by_cases h1 : 48 ≤ (c : Int)
  all_goals by_cases h2 : 97 ≤ (c : Int)
  all_goals by_cases h3 : 65 ≤ (c : Int)
  all_goals (try omega)
  all_goals
    go_enter Tryd.func60, Tryd.ntmps60
    go_wp2
  all_goals
    go_ret
    refine ⟨reti ?_, rfl⟩
    rw [HH.out]
    repeat' split
    all_goals omega
end Go.Proofs.YtbhcniemkjoflaaDoor
