/- Plain mathematics of quoting. -/
import Derived.Test.YtbhcniemkjoflaaDoorCd
import Derived.Test.YtbhcniemkjoflaaDoorMa
namespace Go.Proofs.YtbhcniemkjoflaaDoor
open M

/-- A byte, quoted. -/
def qb (x : UInt8) : List UInt8 := if x.toNat = 10 then [92, 110] else if x.toNat = 9 then [92, 116] else if x.toNat = 34 ∨ x.toNat = 92 then [92, x] else if x.toNat < 32 ∨ x.toNat = 127 then [92, 117, 123] ++ hx x.toNat ++ [125] else [x]
def qt (l : List UInt8) : List UInt8 := l.flatMap qb
theorem hx_len (c : Nat) : (hx c).length ≤ 2 := by unfold hx; split <;> simp
theorem qb_len (x : UInt8) : (qb x).length ≤ 6 := by
  unfold qb
  have := hx_len x.toNat
  repeat' split
  all_goals (simp; try omega)
theorem qt_len (l : List UInt8) : (qt l).length ≤ 6 * l.length := by
  induction l with
  | nil => simp [qt]
  | cons x l ih =>
    have := qb_len x
    unfold qt at ih ⊢
    rw [List.flatMap_cons, List.length_append, List.length_cons]; omega
theorem qb_plain {x : UInt8} (h1 : x.toNat ≠ 10) (h2 : x.toNat ≠ 9) (h3 : x.toNat ≠ 34) (h4 : x.toNat ≠ 92) (h5 : ¬ x.toNat < 32) (h6 : x.toNat ≠ 127) : qb x = [x] := by
  unfold qb; rw [if_neg h1, if_neg h2, if_neg (by omega), if_neg (by omega)]
theorem qt_plain : ∀ l : List UInt8, (∀ x ∈ l, qb x = [x]) → qt l = l
  | [], _ => rfl
  | x :: l, h => by
    have e := qt_plain l (fun y hy => h y (by simp [hy]))
    unfold qt at e ⊢
    rw [List.flatMap_cons, h x (by simp), e]; rfl
theorem qt_append (a b : List UInt8) : qt (a ++ b) = qt a ++ qt b := by unfold qt; exact List.flatMap_append
/-- A character that is nothing special is quoted by itself. -/
theorem qt_char {t : List UInt8} (h0 : t ≠ []) (h3 : cc t ≠ 34) (h4 : cc t ≠ 92) (h5 : ¬ cc t < 32) (h6 : cc t ≠ 127) : qt t = t.take (sz t) ++ qt (nx t) := by
  conv => lhs; rw [← List.take_append_drop (sz t) t, qt_append]
  unfold nx
  congr 1
  refine qt_plain _ (fun x hx => ?_)
  obtain ⟨i, hi, rfl⟩ := List.getElem_of_mem hx
  rw [List.length_take] at hi
  rw [List.getElem_take]
  have hl := sz_le t
  have e : ∀ (j : Nat) (hj : j < t.length), t.getD j 0 = t[j]'hj := fun j hj => by rw [List.getD_eq_getElem?_getD, List.getElem?_eq_getElem hj]; rfl
  by_cases hm : 1 < sz t
  · have hM := multi hm
    have hge : 128 ≤ (t[i]'(by omega)).toNat := by
      rcases Nat.eq_zero_or_pos i with rfl | hi0
      · have := hM.1; rw [e 0 (by omega)] at this; omega
      · have := (hM.2.1 i hi0 (by omega)).1; rw [e i (by omega)] at this; exact this
    exact qb_plain (by omega) (by omega) (by omega) (by omega) (by omega) (by omega)
  · have hs : sz t = 1 := by have := sz_pos h0; omega
    obtain rfl : i = 0 := by omega
    have hc := head_cases h0 hs
    rw [e 0 (by omega)] at hc
    rw [cc_some h0] at h3 h4 h5 h6
    rcases hc with ⟨_, hc⟩ | ⟨hc, _⟩
    · exact qb_plain (by omega) (by omega) (by omega) (by omega) (by omega) (by omega)
    · exact qb_plain (by omega) (by omega) (by omega) (by omega) (by omega) (by omega)
/-- A character of one byte that is special. -/
theorem qt_one {t : List UInt8} {c : Nat} (hc : c < 128) (h : cc t = (c : Int)) : qt t = qb (UInt8.ofNat c) ++ qt (t.drop 1) ∧ sz t = 1 := by
  have h1 := (cc_is hc).1 h
  have hz : sz t = 1 := sz_cc (by omega) (by omega)
  cases t with
  | nil => exact absurd rfl h1.1
  | cons x u =>
    have hx : x = UInt8.ofNat c := by
      rw [← UInt8.toNat_inj]
      have := h1.2
      simp at this ⊢; omega
    refine ⟨?_, hz⟩
    unfold qt
    rw [List.flatMap_cons, hx]; rfl
end Go.Proofs.YtbhcniemkjoflaaDoor
