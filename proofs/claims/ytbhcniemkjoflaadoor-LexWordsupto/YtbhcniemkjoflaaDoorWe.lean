/- The law of the words. -/
import Derived.Test.YtbhcniemkjoflaaDoorEg
import Derived.Test.YtbhcniemkjoflaaDoorRe
import Derived.Test.YtbhcniemkjoflaaDoorRq
import Derived.Test.YtbhcniemkjoflaaDoorWd
import Derived.Test.YtbhcniemkjoflaaDoorQb
namespace Go.Proofs.YtbhcniemkjoflaaDoor
open Go.RowKit
open M

/-- What a text stands for, and whether it is one. -/
def uv (s : ByteArray) : ByteArray × Bool := if aloneB (bs s) 6 then (ba (unq (((bs s).take (s.size - 1)).drop 1)), true) else (⟨#[]⟩, false)
theorem unquote_any (s : ByteArray) (w : World) (hT : Tabs w) (hs : s.size ≤ 1073741824) :
    Calls Tryd.prog 13 #[.string s] w fun e w' => e = .returned (.tuple #[.string (uv s).1, .bool (uv s).2]) ∧ Below w.heap.size w w' := by
  unfold uv
  cases ha : aloneB (bs s) 6
  · exact unquote_no s w hT hs ha
  · have h2 := (tok_six (of_decide_eq_true ha).2).2
    rw [bs_len] at h2
    exact unquote_yes s w hT hs ha h2
theorem refUnquote_any (s : ByteArray) (w : World) (hs : s.size ≤ 1073741824) :
    Calls Tryd.prog 17 #[.string s] w fun e w' => e = .returned (.tuple #[.string (uv s).1, .bool (uv s).2]) ∧ Below w.heap.size w w' := by
  unfold uv
  cases ha : aloneB (bs s) 6
  · exact refUnquote_no s w hs ha
  · exact refUnquote_yes s w hs ha

set_option maxHeartbeats 4000000 in
theorem theWord_any (s : ByteArray) (w : World) : Calls Tryd.prog 11 #[.string s] w fun e w' => e = .returned (.bool (wordB (bs s))) ∧ w' = w := by
  go_enter Tryd.func11, Tryd.ntmps11
  go_wp2_with fail
  refine (word_any s _).mono ?_
  rintro e w1 ⟨rfl, rfl⟩
  go_wp2_with fail
  go_ret
  exact ⟨rfl, rfl⟩

set_option maxRecDepth 100000 in
set_option maxHeartbeats 4000000 in
theorem lexWords_any (s : ByteArray) (w : World) (hT : Tabs w) (hZ : Tz w) (hs : s.size ≤ 16777216) :
    Calls Tryd.prog 5 #[.string s] w fun e w' => e = .returned (.bool true) ∧ Below w.heap.size w w' := by
  have hs' : s.size ≤ 1073741824 := by omega
  go_enter Tryd.func5, Tryd.ntmps5
  go_wp2_with fail
  refine (theWord_any s _).mono ?_
  rintro e w1 ⟨rfl, hw⟩
  subst hw
  go_wp2_with fail
  refine (lexname_any s _ hT hs').mono ?_
  rintro e w2 ⟨rfl, k2⟩
  have hT2 := hT.below k2
  have hZ2 := hZ.below k2 hZ.lt
  have K2 := hide k2
  clear k2
  go_wp2_with fail
  refine (unquote_any s _ hT2 hs').mono ?_
  rintro e w3 ⟨rfl, k3⟩
  have hT3 := hT2.below k3
  have hZ3 := hZ2.below k3 hZ2.lt
  have K3 := hide ((K2.out).trans (k3.mono (K2.out).size))
  clear k3 K2 hT2 hZ2
  go_wp2_with fail
  refine (quote_any s _ hT3 hZ3 hs').mono ?_
  rintro e w4 ⟨rfl, k4⟩
  have K4 := hide ((K3.out).trans (k4.mono (K3.out).size))
  clear k4 K3 hT3 hZ3
  go_wp2_with fail
  refine (refWord_any s _).mono ?_
  rintro e w5 ⟨rfl, k5⟩
  have K5 := hide ((K4.out).trans (k5.mono (K4.out).size))
  clear k5 K4
  go_wp2_with fail
  refine (refName_any s _ hs').mono ?_
  rintro e w6 ⟨rfl, k6⟩
  have K6 := hide ((K5.out).trans (k6.mono (K5.out).size))
  clear k6 K5
  go_wp2_with fail
  refine (refUnquote_any s _ hs').mono ?_
  rintro e w7 ⟨rfl, k7⟩
  have K7 := hide ((K6.out).trans (k7.mono (K6.out).size))
  clear k7 K6
  go_wp2_with fail
  refine (refQuote_any s _ hs').mono ?_
  rintro e w8 ⟨rfl, k8⟩
  have K8 := hide ((K7.out).trans (k8.mono (K7.out).size))
  clear k8 K7
  rw [List.cons_append]
  generalize ba (34 :: (qt (bs s) ++ [34])) = D at *
  generalize wordB (bs s) = A at *
  generalize (decide (s.size ≤ 40) && aloneB (bs s) 3) = B at *
  generalize (uv s).1 = C at *
  generalize (uv s).2 = O at *
  have e1 : (C.toList == C.toList) = true := by simp
  have e2 : (D.toList == D.toList) = true := by simp
  have e3 : (A == A) = true := by simp
  have e4 : (B == B) = true := by simp
  have e5 : (O == O) = true := by simp
  go_wp2_with fail
  go_ret
  exact ⟨rfl, K8.out⟩
end Go.Proofs.YtbhcniemkjoflaaDoor
