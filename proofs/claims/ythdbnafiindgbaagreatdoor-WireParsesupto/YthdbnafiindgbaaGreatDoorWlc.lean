/- Rows of texts held against each other. -/
import Derived.Test.YthdbnafiindgbaaGreatDoorWk0
namespace Go.Proofs.YthdbnafiindgbaaGreatDoor
open Go.RowKit
open Wi

/-- A row of texts that can be read. -/
def IsSt (w : World) (v : Value) (xs : List (List UInt8)) : Prop := ∃ ao cap, v = .slice ao xs.length cap ∧ xs.length ≤ cap ∧ cap ≤ maxLen ∧ ∀ (i : Nat) (x : List UInt8), xs[i]? = some x → ∃ g o, ao = some ⟨g, o, none⟩ ∧ w.cell? ⟨g, o + i, none⟩ = some (.string (ba x))
theorem IsSt.below {w w' : World} {v : Value} {xs : List (List UInt8)} (h : IsSt w v xs) (hk : Below w.heap.size w w') : IsSt w' v xs := by
  obtain ⟨ao, cap, e, h1, h2, h3⟩ := h
  refine ⟨ao, cap, e, h1, h2, fun i x hx => ?_⟩
  obtain ⟨g, o, e1, e2⟩ := h3 i x hx
  exact ⟨g, o, e1, (Kp.ofBelow hk (fun _ => False)).cellv e2 id⟩
theorem ba_inj {a b : List UInt8} (h : ba a = ba b) : a = b := by have := congrArg bs h; rwa [bs_ba, bs_ba] at this

set_option maxRecDepth 100000 in
set_option maxHeartbeats 2000000 in
theorem wtexts_any (xs ys : List (List UInt8)) (va vb : Value) (w : World) (ha : IsSt w va xs) (hb : IsSt w vb ys) (hx : xs.length ≤ 1073741824) :
    Calls Tryz.prog 13 #[va, vb] w fun en w' => en = .returned (.bool (decide (xs = ys))) ∧ ∃ n, w' = w.drewN n := by
  have HA := hide ha
  have HB := hide hb
  obtain ⟨ao, ca, rfl, h1, -, -⟩ := ha
  obtain ⟨bo, cb, rfl, h2, -, -⟩ := hb
  by_cases hl : xs.length = ys.length
  case neg =>
    have z1 : ((xs.length : Int) != (ys.length : Int)) = true := by simp; omega
    have z1' : ((xs.length : Int) == (ys.length : Int)) = false := by simp; omega
    have HE : Hid (decide (xs = ys) = false) := decide_eq_false (fun e => hl (by rw [e]))
    go_enter Tryz.func13, Tryz.ntmps13
    go_wp2_with fail
    go_ret
    exact ⟨retbw HE.out.symm, 0, rfl⟩
  have z1 : ((xs.length : Int) != (ys.length : Int)) = false := by rw [hl]; simp
  have z1' : ((xs.length : Int) == (ys.length : Int)) = true := by rw [hl]; simp
  have HL := hide hl
  clear hl
  go_enter Tryz.func13, Tryz.ntmps13
  go_wp2_with fail
  go_loopw [5] (fun iv wr => ∃ (i q : Nat), iv = .int .i64 i ∧ i ≤ xs.length ∧ Hid (xs.take i = ys.take i) ∧ wr = w.drewN q) (fun iv _ => xs.length - (intOf iv).toNat)
  case atStart => exact ⟨0, 0, rfl, Nat.zero_le _, (rfl : xs.take 0 = ys.take 0), rfl⟩
  case round =>
    obtain ⟨i, q, rfl, hi, HT, rfl⟩ := hrel
    by_cases hlt : i < xs.length
    case neg =>
      have i1 : decide ((i : Int) < (xs.length : Int)) = false := by simp; omega
      have i1' : decide (i < xs.length) = false := by simp; omega
      have HE : Hid (decide (xs = ys) = true) := by
        have h1 := HT.out
        have h2 := HL.out
        rw [List.take_of_length_le (by omega), List.take_of_length_le (by omega)] at h1
        exact decide_eq_true h1
      clear hlt
      go_wp2_with fail
      go_ret
      exact ⟨retbw HE.out.symm, q, rfl⟩
    have i1 : decide ((i : Int) < (xs.length : Int)) = true := by simp; omega
    have i1' : decide (i < xs.length) = true := by simp; omega
    have hlt2 : i < ys.length := by have := HL.out; omega
    have i2 : (i : Int) < (xs.length : Int) := by omega
    have i3 : (i : Int) < (ys.length : Int) := by omega
    obtain ⟨x, hxx⟩ : ∃ x, xs[i]? = some x := ⟨_, List.getElem?_eq_getElem hlt⟩
    obtain ⟨y, hyy⟩ : ∃ y, ys[i]? = some y := ⟨_, List.getElem?_eq_getElem hlt2⟩
    obtain ⟨ao', ca', ea, -, -, ga⟩ := HA.out
    obtain ⟨bo', cb', eb, -, -, gb⟩ := HB.out
    obtain ⟨g1, o1, e1, p1⟩ := ga i x hxx
    obtain ⟨g2, o2, e2, p2⟩ := gb i y hyy
    obtain ⟨rfl, -, rfl⟩ := Value.slice.inj ea
    obtain ⟨rfl, -, rfl⟩ := Value.slice.inj eb
    subst e1 e2
    clear ea eb
    have p1' : w.cell? ⟨g1, o1 + i * 1, none⟩ = some (.string (ba x)) := by rw [Nat.mul_one]; exact p1
    have p2' : w.cell? ⟨g2, o2 + i * 1, none⟩ = some (.string (ba y)) := by rw [Nat.mul_one]; exact p2
    by_cases hxy : x = y
    · have j4 : ((ba x).toList == (ba y).toList) = true := by rw [sb_eq, hxy]; simp
      have j5 : ((ba x).toList != (ba y).toList) = false := by rw [bne, j4]; rfl
      have HN : Hid (xs.take (i + 1) = ys.take (i + 1)) := by
        show _ = _
        rw [List.take_add_one, List.take_add_one, hxx, hyy, HT.out, hxy]
      clear hxy ga gb
      go_wp2_with fail
      go_quiet (fail)
      go_wp2_with fail
      refine ⟨⟨i + 1, q + nq, by simp, by omega, HN, rfl⟩, ?_⟩
      show xs.length - (i + 1) < xs.length - i
      omega
    · have j4 : ((ba x).toList == (ba y).toList) = false := by
        rw [sb_eq]; simp; intro e; exact hxy (ba_inj e)
      have j5 : ((ba x).toList != (ba y).toList) = true := by rw [bne, j4]; rfl
      have HE : Hid (decide (xs = ys) = false) := decide_eq_false (fun e => hxy (by rw [e, hyy] at hxx; exact (Option.some.inj hxx).symm))
      clear hxy ga gb
      go_wp2_with fail
      go_quiet (fail)
      go_wp2_with fail
      go_ret
      exact ⟨retbw HE.out.symm, q + nq, by rw [World.drewN_drewN]⟩
end Go.Proofs.YthdbnafiindgbaaGreatDoor
