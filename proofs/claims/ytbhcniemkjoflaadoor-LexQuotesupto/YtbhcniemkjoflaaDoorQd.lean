/- Quoted and back. -/
import Derived.Test.YtbhcniemkjoflaaDoorQb
import Derived.Test.YtbhcniemkjoflaaDoorQc
import Derived.Test.YtbhcniemkjoflaaDoorTa
namespace Go.Proofs.YtbhcniemkjoflaaDoor
open Go.RowKit
open M

/-- A text, quoted. -/
def qs (s : ByteArray) : ByteArray := ba (34 :: (qt (bs s) ++ [34]))
theorem qs_size (s : ByteArray) : (qs s).size = (qt (bs s)).length + 2 := by unfold qs; rw [ba_size]; simp
theorem qs_alone (s : ByteArray) : aloneB (bs (qs s)) 6 = true := by
  unfold aloneB qs; rw [bs_ba]; exact decide_eq_true ⟨by simp, tok_quote _⟩
theorem qs_inner (s : ByteArray) : ((bs (qs s)).take ((qs s).size - 1)).drop 1 = qt (bs s) := by
  rw [qs_size]; unfold qs; rw [bs_ba]
  rw [show (qt (bs s)).length + 2 - 1 = (qt (bs s)).length + 1 by omega, List.take_succ_cons, List.drop_succ_cons, List.drop_zero, List.take_left]
theorem qs_back (s : ByteArray) : ba (unq (((bs (qs s)).take ((qs s).size - 1)).drop 1)) = s := by rw [qs_inner, unq_all, ba_bs]
theorem qs_toks (s : ByteArray) : toks 0 (bs (qs s)) = [⟨6, 0, (qs s).size⟩] := by
  have h := tok_quote (bs s)
  have hne : (34 :: (qt (bs s) ++ [34]) : List UInt8) ≠ [] := by simp
  have hs : (qs s).size = (34 :: (qt (bs s) ++ [34])).length := by unfold qs; rw [ba_size]
  rw [hs]; unfold qs; rw [bs_ba, toks_cons hne, h]
  simp only [List.drop_length, toks_nil]

set_option maxRecDepth 100000 in
set_option maxHeartbeats 4000000 in
theorem lexQuotes_any (s : ByteArray) (w : World) (hT : Tabs w) (hZ : Tz w) (hs : s.size ≤ 16777216) :
    Calls Tryd.prog 6 #[.string s] w fun e w' => e = .returned (.bool true) ∧ Below w.heap.size w w' := by
  have hql := qt_len (bs s)
  rw [bs_len] at hql
  have hqz := qs_size s
  have hQ1 : (qs s).size ≤ 1073741824 := by omega
  have hQ2 : 2 ≤ (qs s).size := by omega
  have HQ := hide (quote_any s w hT hZ (by omega))
  rw [show ba (34 :: qt (bs s) ++ [34]) = qs s from rfl] at HQ
  have HA := hide (qs_alone s)
  have HBk := hide (qs_back s)
  have HTk := hide (qs_toks s)
  generalize qs s = Q at *
  clear hqz
  go_enter Tryd.func6, Tryd.ntmps6
  go_wp2_with fail
  refine (HQ.out).mono ?_
  rintro e w1 ⟨rfl, k1⟩
  have z1 := k1.size
  have hT1 := hT.below k1
  have K1 := hide k1
  clear k1
  go_wp2_with fail
  refine (unquote_yes Q _ hT1 hQ1 HA.out hQ2).mono ?_
  rintro e w2 ⟨rfl, k2⟩
  rw [HBk.out]
  have z2 := k2.size
  have hT2 := hT1.below k2
  have K2 := hide k2
  clear k2
  go_wp2_with fail
  refine (tokens_any Q _ hT2 hQ1).mono ?_
  rintro e w3 ⟨v, rfl, hown, k3⟩
  rw [HTk.out] at hown
  have z3 := k3.size
  have K3 := hide k3
  clear k3
  have hT3 := IsT.ofOwns (L := [⟨6, 0, Q.size⟩]) hown
  have H3 := hide hT3
  obtain ⟨ao, cap, rfl, hc1, hc2, -⟩ := hT3
  obtain ⟨b, o, t, rfl, ht, q1, q2, q3⟩ := (H3.out).get (Below.refl _ w3) (k := 0) (by simp)
  obtain rfl : (⟨6, 0, Q.size⟩ : Tk) = t := by simpa using ht
  simp only [Nat.zero_mul, Nat.add_zero] at q1 q2 q3
  clear ht hown
  have e1 : (s.toList == s.toList) = true := by simp
  go_wp2_with fail
  go_ret
  exact ⟨rfl, (((K1.out).trans ((K2.out).mono z1)).trans ((K3.out).mono (by omega)))⟩
end Go.Proofs.YtbhcniemkjoflaaDoor
