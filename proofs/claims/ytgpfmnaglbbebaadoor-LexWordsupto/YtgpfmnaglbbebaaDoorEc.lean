/- The document's own reading of what a \ takes. -/
import Derived.Test.YtgpfmnaglbbebaaDoorEb
namespace Go.Proofs.YtgpfmnaglbbebaaDoor
open Go.RowKit
open M

/-- What stands for something else behind a \: the character, and how many bytes with the \; none: 0 and 0. -/
def esc (u : List UInt8) : Int × Nat := if (taken u).2.1 then ((taken u).1, 1 + (taken u).2.2) else (0, 0)
theorem ret_ii {a a' b b' : Int} (h : a = a') (k : b = b') : Ending.returned (.tuple #[.int .i64 a, .int .i64 b]) = .returned (.tuple #[.int .i64 a', .int .i64 b']) := by rw [h, k]
theorem taken_plain {u : List UInt8} (h1 : cc u ≠ 110) (h2 : cc u ≠ 116) (h3 : cc u ≠ 34) (h4 : cc u ≠ 92) (h5 : cc u ≠ 117) : esc u = (0, 0) := by
  have : (taken u).2.1 = false := by
    unfold taken
    by_cases h : cc u = -1 ∨ cc u = 10
    · rw [if_pos h]
    · rw [if_neg h, if_neg h1, if_neg h2, if_neg (by omega), if_neg h5]
  unfold esc; rw [this]; rfl
theorem esc_u {s : ByteArray} {p j : Nat} {C : Int} (h1 : cc ((bs s).drop (p + 1)) = 117) (h2 : cc ((bs s).drop (p + 2)) = 123) (h3 : hexs 6 0 ((bs s).drop (p + 3)) = (C, j)) :
    esc ((bs s).drop (p + 1)) = if j = 0 ∨ cc ((bs s).drop (p + 3 + j)) ≠ 125 then (0, 0) else if Lib.validRune C then (C, j + 4) else (0, 0) := by
  have z1 : sz ((bs s).drop (p + 1)) = 1 := sz_cc (by omega) (by omega)
  have z2 : sz ((bs s).drop (p + 2)) = 1 := sz_cc (by omega) (by omega)
  have e1 : nx ((bs s).drop (p + 1)) = (bs s).drop (p + 2) := nx_at z1
  have e2 : nx ((bs s).drop (p + 2)) = (bs s).drop (p + 3) := nx_at z2
  have et : taken ((bs s).drop (p + 1)) = ((code ((bs s).drop (p + 2))).1, (code ((bs s).drop (p + 2))).2.1, 1 + (code ((bs s).drop (p + 2))).2.2) := by
    unfold taken; rw [if_neg (by omega), if_neg (by omega), if_neg (by omega), if_neg (by omega), if_pos h1, e1]
  have ec : code ((bs s).drop (p + 2)) = if j = 0 ∨ cc ((bs s).drop (p + 3 + j)) ≠ 125 then (0, false, 1 + j) else (C, Lib.validRune C, 2 + j) := by
    unfold code; rw [if_pos h2, e2, h3]; simp only [List.drop_drop]
  unfold esc
  rw [et, ec]
  by_cases g : j = 0 ∨ cc ((bs s).drop (p + 3 + j)) ≠ 125
  · rw [if_pos g, if_pos g]; rfl
  · rw [if_neg g, if_neg g]
    simp only
    cases Lib.validRune C
    · rfl
    · simp only [if_true, Prod.mk.injEq, true_and]; omega
theorem esc_u0 {s : ByteArray} {p : Nat} (h1 : cc ((bs s).drop (p + 1)) = 117) (h2 : cc ((bs s).drop (p + 2)) ≠ 123) : esc ((bs s).drop (p + 1)) = (0, 0) := by
  have z1 : sz ((bs s).drop (p + 1)) = 1 := sz_cc (by omega) (by omega)
  have e1 : nx ((bs s).drop (p + 1)) = (bs s).drop (p + 2) := nx_at z1
  have ec : code ((bs s).drop (p + 2)) = (0, false, 0) := by unfold code; rw [if_neg h2]
  have et : taken ((bs s).drop (p + 1)) = (0, false, 1) := by
    unfold taken; rw [if_neg (by omega), if_neg (by omega), if_neg (by omega), if_neg (by omega), if_pos h1, e1, ec]; rfl
  unfold esc; rw [et]; rfl
/-- A digit of sixteen, by its byte. -/
theorem hex_byte {s : ByteArray} {k : Nat} (h : k < s.size) : hexOf ((s[k]'h).toNat : Int) = hexOf (cc ((bs s).drop k)) := by
  by_cases h1 : (s[k]'h).toNat < 128
  · rw [(byte_lo h h1).1]
  · have h2 := byte_hi h (by omega)
    have e1 : hexOf (cc ((bs s).drop k)) = -1 := by
      rcases Int.lt_or_le (hexOf (cc ((bs s).drop k))) 0 with g | g
      · have := (hexOf_lt (cc ((bs s).drop k))).1; omega
      · have := hexOf_ascii g; omega
    have e2 : hexOf ((s[k]'h).toNat : Int) = -1 := by
      rcases Int.lt_or_le (hexOf ((s[k]'h).toNat : Int)) 0 with g | g
      · have := (hexOf_lt ((s[k]'h).toNat : Int)).1; omega
      · have := hexOf_ascii g; omega
    rw [e1, e2]

/-- Where the document's loop over digits of sixteen stands. -/
structure InEsc (s : ByteArray) (p j : Nat) (C : Int) : Prop where
  lo : 0 ≤ C
  hi : C < ((16 ^ j : Nat) : Int)
  eq : hexs 6 0 ((bs s).drop p) = ((hexs (6 - j) C ((bs s).drop (p + j))).1, j + (hexs (6 - j) C ((bs s).drop (p + j))).2)
theorem InEsc.stop {s : ByteArray} {p j : Nat} {C : Int} (h : InEsc s p j C) (hj : j ≤ 6) (hx : ¬ (j < 6 ∧ 0 ≤ hexOf (cc ((bs s).drop (p + j))))) : hexs 6 0 ((bs s).drop p) = (C, j) := by
  rw [h.eq]
  by_cases h6 : j < 6
  · obtain ⟨m, hm⟩ : ∃ m, 6 - j = m + 1 := ⟨5 - j, by omega⟩
    rw [hm]; unfold hexs; rw [if_neg (fun h => hx ⟨h6, h⟩)]; rfl
  · have : 6 - j = 0 := by omega
    rw [this]; rfl
theorem InEsc.next {s : ByteArray} {p j : Nat} {C : Int} (h : InEsc s p j C) (hj : j < 6) (hx : 0 ≤ hexOf (cc ((bs s).drop (p + j)))) : InEsc s p (j + 1) (C * 16 + hexOf (cc ((bs s).drop (p + j)))) := by
  have hh := hexOf_lt (cc ((bs s).drop (p + j)))
  have h0 := h.lo
  refine ⟨by omega, pow16' h.hi hh.2, ?_⟩
  rw [h.eq]
  obtain ⟨m, hm⟩ : ∃ m, 6 - j = m + 1 := ⟨5 - j, by omega⟩
  have hm2 : 6 - (j + 1) = m := by omega
  have ha := hexOf_ascii hx
  have z1 : sz ((bs s).drop (p + j)) = 1 := sz_cc (by omega) (by omega)
  rw [hm, hm2, show p + (j + 1) = p + j + 1 from rfl]
  conv => lhs; unfold hexs
  rw [if_pos hx, nx_drop, z1]
  simp only [Prod.mk.injEq]
  exact ⟨trivial, by omega⟩
end Go.Proofs.YtgpfmnaglbbebaaDoor
