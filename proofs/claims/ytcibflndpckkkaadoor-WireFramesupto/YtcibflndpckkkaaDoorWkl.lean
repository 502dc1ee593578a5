/- The document's digits of a number. -/
import Derived.Test.YtcibflndpckkkaaDoorWk0
import Derived.Test.YtcibflndpckkkaaDoorWjb
import Derived.Test.YtcibflndpckkkaaDoorProg
namespace Go.Proofs.YtcibflndpckkkaaDoor
open Go.RowKit
open Wi

theorem ret_strD {a a' : ByteArray} (h : a = a') : Ending.returned (.string a) = .returned (.string a') := by rw [h]
theorem dig_cut : ∀ k : Fin 10, (⟨#[48, 49, 50, 51, 52, 53, 54, 55, 56, 57]⟩ : ByteArray).extract k.val (k.val + 1) = ba [(48 + k.val).toUInt8] := by
  intro k
  apply bs_inj
  rw [bs_cut, bs_ba]
  revert k
  decide
theorem ba_app (a b : List UInt8) : ba a ++ ba b = ba (a ++ b) := by
  apply bs_inj
  rw [bs_append, bs_ba, bs_ba, bs_ba]
theorem digs_small {n : Nat} (h : n < 10) : digs n = [(48 + n).toUInt8] := by rw [digs, if_pos h]
theorem digs_big {n : Nat} (h : ¬ n < 10) : digs n = digs (n / 10) ++ digs (n % 10) := by
  rw [digs, if_neg h, digs_small (show n % 10 < 10 by omega)]

set_option maxRecDepth 100000 in
set_option maxHeartbeats 1000000 in
theorem wdigits_nat (n : Nat) : ∀ (w : World), n ≤ 1000000000000000000 → Calls Tryd.prog 21 #[.int .i64 n] w fun e w' => e = .returned (.string (ba (digs n))) ∧ w' = w := by
  induction n using Nat.strongRecOn with
  | _ n ih =>
    intro w hn
    have hn0 : ¬ (n : Int) < 0 := by omega
    by_cases h10 : n < 10
    · have i1 : (n : Int) < 10 := by omega
      have i2 : (0 : Int) ≤ (n : Int) := Int.natCast_nonneg _
      have i3 : (n : Int) ≤ (n : Int) + 1 := by omega
      have i4 : (n : Int) + 1 ≤ ((⟨#[48, 49, 50, 51, 52, 53, 54, 55, 56, 57]⟩ : ByteArray).size : Int) := by show (n : Int) + 1 ≤ 10; omega
      have i5 : (n : Int) + 1 ≤ 10 := by omega
      have HE : Hid ((⟨#[48, 49, 50, 51, 52, 53, 54, 55, 56, 57]⟩ : ByteArray).extract n (n + 1) = ba (digs n)) := by
        show _ = _; rw [digs_small h10]; exact dig_cut ⟨n, h10⟩
      clear ih
      go_enter Tryd.func21, Tryd.ntmps21
      go_wp2_with fail
      go_ret
      exact ⟨ret_strD HE.out, rfl⟩
    · have i1 : ¬ (n : Int) < 10 := by omega
      have IH1 := hide (ih (n / 10) (by omega))
      have IH2 := hide (ih (n % 10) (by omega))
      have HE : Hid (ba (digs (n / 10)) ++ ba (digs (n % 10)) = ba (digs n)) := by show _ = _; rw [ba_app, ← digs_big h10]
      have hz : ¬ 9223372036854775807 < (ba (digs (n / 10))).size + (ba (digs (n % 10))).size := by
        have h1 := digs_len 19 (n / 10) (by show _ < 10000000000000000000; omega)
        have h2 := digs_len 19 (n % 10) (by show _ < 10000000000000000000; omega)
        rw [ba_size, ba_size]; omega
      have hd : n / 10 ≤ 1000000000000000000 := by omega
      have hm : n % 10 ≤ 1000000000000000000 := by omega
      clear ih
      go_enter Tryd.func21, Tryd.ntmps21
      go_wp2_with fail
      refine ((IH1.out) _ hd).mono ?_
      rintro e w1 ⟨rfl, rfl⟩
      go_wp2_with fail
      refine ((IH2.out) _ hm).mono ?_
      rintro e w1 ⟨rfl, rfl⟩
      go_wp2_with fail
      go_ret
      exact ⟨ret_strD HE.out, rfl⟩
set_option maxRecDepth 100000 in
set_option maxHeartbeats 1000000 in
theorem wdigits_any (n : Int) (w : World) (h1 : -1000000000000000000 ≤ n) (h2 : n ≤ 1000000000000000000) : Calls Tryd.prog 21 #[.int .i64 n] w fun e w' => e = .returned (.string (ba (digsZ n))) ∧ w' = w := by
  by_cases h : n < 0
  · have HE : Hid ((⟨#[45]⟩ : ByteArray) ++ ba (digs n.natAbs) = ba (digsZ n)) := by show _ = _; rw [show (⟨#[45]⟩ : ByteArray) = ba [45] from rfl, ba_app]; unfold digsZ; rw [if_pos h]; rfl
    have HC := hide (wdigits_nat n.natAbs w (by omega))
    have hn : -n = ((n.natAbs : Nat) : Int) := by omega
    have hl : (ba (digs n.natAbs)).size ≤ 19 := by
      have h1 := digs_len 19 n.natAbs (by show _ < 10000000000000000000; omega)
      rw [ba_size]; omega
    have hz1 : ¬ 9223372036854775807 < 1 + (ba (digs n.natAbs)).size := by omega
    have hz2 : ¬ 9223372036854775807 < (⟨#[45]⟩ : ByteArray).size + (ba (digs n.natAbs)).size := by show ¬ _ < 1 + _; omega
    go_enter Tryd.func21, Tryd.ntmps21
    go_wp2_with fail
    refine (HC.out).mono ?_
    rintro e w1 ⟨rfl, rfl⟩
    go_wp2_with fail
    go_ret
    exact ⟨ret_strD HE.out, rfl⟩
  · have e : n = ((n.natAbs : Nat) : Int) := by omega
    have e2 : digsZ n = digs n.natAbs := by unfold digsZ; rw [if_neg h]
    rw [e2, e]
    exact wdigits_nat n.natAbs w (by omega)
end Go.Proofs.YtcibflndpckkkaaDoor
