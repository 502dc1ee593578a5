/- Colours: how many are the same from the beginning, and to the end, of both. -/
import Derived.Test.YtnppdfnfhkopnaaDoorCya
namespace Go.Proofs.YtnppdfnfhkopnaaDoor
open Go.RowKit

set_option maxRecDepth 100000 in
set_option maxHeartbeats 1000000 in
theorem ahead_any (va vb : Value) (a b : List Cl) (w : World) (ha : IsC w va a) (hb : IsC w vb b) :
    Calls Tryd.prog 7 #[va, vb] w fun e w' => e = .returned (.int .i64 (pre a b : Nat)) ∧ Below w.heap.size w w' := by
  have HA := hide ha
  have HB := hide hb
  obtain ⟨ao, ca, rfl, h1, ⟨h2, -⟩, -⟩ := ha
  obtain ⟨bo, cb, rfl, h3, ⟨h4, -⟩, -⟩ := hb
  have HP := hide (pre_le a b)
  go_enter Tryd.func7, Tryd.ntmps7
  go_wp2_with fail
  go_loopw [5] (fun v wr => ∃ n : Nat, v = .int .i64 n ∧ n ≤ a.length ∧ Hid (n ≤ pre a b) ∧ Hid (Below w.heap.size w wr)) (fun v _ => a.length - (intOf v).toNat)
  case atStart => exact ⟨0, rfl, Nat.zero_le _, Nat.zero_le _, Below.refl _ _⟩
  case round =>
    obtain ⟨n, rfl, hn, HN, HK⟩ := hrel
    have HS := hide (pre_at a b n HN.out)
    by_cases g1 : n < a.length
    case neg =>
      have i1 : decide ((n : Int) < (a.length : Int)) = false := by simp; omega
      have j1 : decide (n < a.length) = false := by simp; omega
      have HE : Hid (pre a b = n) := by have := HN.out; have := (HP.out).1; show _ = _; omega
      clear g1
      go_wp2_with fail
      go_quiet (fail)
      go_wp2_with fail
      go_ret
      exact ⟨by rw [HE.out]; rfl, belowN HK.out _⟩
    have i1 : decide ((n : Int) < (a.length : Int)) = true := by simp; omega
    have j1 : decide (n < a.length) = true := by simp; omega
    by_cases g2 : n < b.length
    case neg =>
      have i2 : decide ((n : Int) < (b.length : Int)) = false := by simp; omega
      have j2 : decide (n < b.length) = false := by simp; omega
      have HE : Hid (pre a b = n) := by have := HN.out; have := (HP.out).2; show _ = _; omega
      clear g2
      go_wp2_with fail
      go_quiet (fail)
      go_wp2_with fail
      go_ret
      exact ⟨by rw [HE.out]; rfl, belowN HK.out _⟩
    have i2 : decide ((n : Int) < (b.length : Int)) = true := by simp; omega
    have j2 : decide (n < b.length) = true := by simp; omega
    obtain ⟨b1, o1, x, rfl, ex, p1, p2, p3, p4⟩ := ((HA.out).below HK.out).get g1
    obtain ⟨b2, o2, y, rfl, ey, q1, q2, q3, q4⟩ := ((HB.out).below HK.out).get g2
    have HX := hide ex
    have HY := hide ey
    clear ex ey
    have e1 := fun W => eqC W x y
    have e2 := guardC
    have i3 : (n : Int) < (a.length : Int) := by omega
    have i4 : (n : Int) < (b.length : Int) := by omega
    by_cases g3 : x = y
    · have i5 : decide (x = y) = true := decide_eq_true g3
      have HN1 : Hid (n < pre a b) := (HS.out).2 ⟨g1, g2, by rw [HX.out, HY.out, g3]⟩
      clear g3
      rw [i5] at e1
      go_wp2_with fail
      go_quiet (fail)
      go_wp2_with fail
      refine ⟨⟨n + 1, by simp, by omega, HN1.out, belowN HK.out _⟩, ?_⟩
      show a.length - (n + 1) < a.length - n
      omega
    · have i5 : decide (x = y) = false := decide_eq_false g3
      have HE : Hid (pre a b = n) := by
        have q0 : ¬ n < pre a b := fun h => g3 (by have := ((HS.out).1 h).2.2; rw [HX.out, HY.out] at this; exact Option.some.inj this)
        have := HN.out; show _ = _; omega
      clear g3
      rw [i5] at e1
      go_wp2_with fail
      go_quiet (fail)
      go_wp2_with fail
      go_ret
      exact ⟨by rw [HE.out]; rfl, belowN HK.out _⟩

set_option maxRecDepth 100000 in
set_option maxHeartbeats 1000000 in
theorem behind_any (va vb : Value) (a b : List Cl) (w : World) (ha : IsC w va a) (hb : IsC w vb b) :
    Calls Tryd.prog 8 #[va, vb] w fun e w' => e = .returned (.int .i64 (pre a.reverse b.reverse : Nat)) ∧ Below w.heap.size w w' := by
  have HA := hide ha
  have HB := hide hb
  obtain ⟨ao, ca, rfl, h1, ⟨h2, -⟩, -⟩ := ha
  obtain ⟨bo, cb, rfl, h3, ⟨h4, -⟩, -⟩ := hb
  have HP := hide (pre_le a.reverse b.reverse)
  rw [List.length_reverse, List.length_reverse] at HP
  go_enter Tryd.func8, Tryd.ntmps8
  go_wp2_with fail
  go_loopw [5] (fun v wr => ∃ n : Nat, v = .int .i64 n ∧ n ≤ a.length ∧ Hid (n ≤ pre a.reverse b.reverse) ∧ Hid (Below w.heap.size w wr)) (fun v _ => a.length - (intOf v).toNat)
  case atStart => exact ⟨0, rfl, Nat.zero_le _, Nat.zero_le _, Below.refl _ _⟩
  case round =>
    obtain ⟨n, rfl, hn, HN, HK⟩ := hrel
    have HS := hide (pre_at a.reverse b.reverse n HN.out)
    rw [List.length_reverse, List.length_reverse] at HS
    by_cases g1 : n < a.length
    case neg =>
      have i1 : decide ((n : Int) < (a.length : Int)) = false := by simp; omega
      have j1 : decide (n < a.length) = false := by simp; omega
      have HE : Hid (pre a.reverse b.reverse = n) := by have := HN.out; have := (HP.out).1; show _ = _; omega
      clear g1
      go_wp2_with fail
      go_quiet (fail)
      go_wp2_with fail
      go_ret
      exact ⟨by rw [HE.out]; rfl, belowN HK.out _⟩
    have i1 : decide ((n : Int) < (a.length : Int)) = true := by simp; omega
    have j1 : decide (n < a.length) = true := by simp; omega
    by_cases g2 : n < b.length
    case neg =>
      have i2 : decide ((n : Int) < (b.length : Int)) = false := by simp; omega
      have j2 : decide (n < b.length) = false := by simp; omega
      have HE : Hid (pre a.reverse b.reverse = n) := by have := HN.out; have := (HP.out).2; show _ = _; omega
      clear g2
      go_wp2_with fail
      go_quiet (fail)
      go_wp2_with fail
      go_ret
      exact ⟨by rw [HE.out]; rfl, belowN HK.out _⟩
    have i2 : decide ((n : Int) < (b.length : Int)) = true := by simp; omega
    have j2 : decide (n < b.length) = true := by simp; omega
    rw [List.getElem?_reverse g1, List.getElem?_reverse g2] at HS
    obtain ⟨k, hk⟩ : ∃ k, a.length - 1 - n = k := ⟨_, rfl⟩
    obtain ⟨l, hl⟩ : ∃ l, b.length - 1 - n = l := ⟨_, rfl⟩
    rw [hk, hl] at HS
    have g1' : k < a.length := by omega
    have g2' : l < b.length := by omega
    have m1 : (a.length : Int) - 1 - n = (k : Int) := by omega
    have m2 : (b.length : Int) - 1 - n = (l : Int) := by omega
    clear hk hl
    obtain ⟨b1, o1, x, rfl, ex, p1, p2, p3, p4⟩ := ((HA.out).below HK.out).get g1'
    obtain ⟨b2, o2, y, rfl, ey, q1, q2, q3, q4⟩ := ((HB.out).below HK.out).get g2'
    have HX := hide ex
    have HY := hide ey
    clear ex ey
    have e1 := fun W => eqC W x y
    have e2 := guardC
    have i3 : (k : Int) < (a.length : Int) := by omega
    have i4 : (l : Int) < (b.length : Int) := by omega
    by_cases g3 : x = y
    · have i5 : decide (x = y) = true := decide_eq_true g3
      have HN1 : Hid (n < pre a.reverse b.reverse) := (HS.out).2 ⟨g1, g2, by rw [HX.out, HY.out, g3]⟩
      clear g3
      rw [i5] at e1
      go_wp2_with fail
      go_quiet (fail)
      go_wp2_with fail
      refine ⟨⟨n + 1, by simp, by omega, HN1.out, belowN HK.out _⟩, ?_⟩
      show a.length - (n + 1) < a.length - n
      omega
    · have i5 : decide (x = y) = false := decide_eq_false g3
      have HE : Hid (pre a.reverse b.reverse = n) := by
        have q0 : ¬ n < pre a.reverse b.reverse := fun h => g3 (by have := ((HS.out).1 h).2.2; rw [HX.out, HY.out] at this; exact Option.some.inj this)
        have := HN.out; show _ = _; omega
      clear g3
      rw [i5] at e1
      go_wp2_with fail
      go_quiet (fail)
      go_wp2_with fail
      go_ret
      exact ⟨by rw [HE.out]; rfl, belowN HK.out _⟩
end Go.Proofs.YtnppdfnfhkopnaaDoor
