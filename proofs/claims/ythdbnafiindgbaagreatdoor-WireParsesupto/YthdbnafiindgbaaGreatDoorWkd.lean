/- The document's reader of messages: numbers. -/
import Derived.Test.YthdbnafiindgbaaGreatDoorWk0
import Derived.Test.YthdbnafiindgbaaGreatDoorWjb
namespace Go.Proofs.YthdbnafiindgbaaGreatDoor
open Go.RowKit
open Wi

theorem numOf_snoc (ds : List UInt8) (c : UInt8) : numOf (ds ++ [c]) = numOf ds * 10 + (c.toNat - 48) := by unfold numOf; simp
theorem Digs.few {b ds t : List UInt8} {c : UInt8} {n : Int} (h : Digs b ds (c :: t) n) (hc : isDig c = true) (hl : ds.length < 18) : Digs b (ds ++ [c]) t (n * 10 + (c.toNat : Int) - 48) := by
  refine ⟨by rw [h.eq]; simp, fun x hx => ?_, ?_⟩
  · rcases List.mem_append.1 hx with h1 | h1
    · exact h.dig x h1
    · rw [List.mem_singleton.1 h1]; exact hc
  · have e1 : (ds ++ [c]).take 18 = ds ++ [c] := List.take_of_length_le (by simp; omega)
    have e2 : ds.take 18 = ds := List.take_of_length_le (by omega)
    rw [e1, numOf_snoc, h.num, e2]
    simp only [isDig, Bool.and_eq_true, decide_eq_true_eq] at hc
    omega
theorem Digs.many {b ds t : List UInt8} {c : UInt8} {n : Int} (h : Digs b ds (c :: t) n) (hc : isDig c = true) (hl : ¬ ds.length < 18) : Digs b (ds ++ [c]) t n := by
  refine ⟨by rw [h.eq]; simp, fun x hx => ?_, ?_⟩
  · rcases List.mem_append.1 hx with h1 | h1
    · exact h.dig x h1
    · rw [List.mem_singleton.1 h1]; exact hc
  · rw [h.num, List.take_append_of_le_length (by omega)]
theorem Digs.bound {b ds l : List UInt8} {n : Int} (h : Digs b ds l n) : 0 ≤ n ∧ n < 1000000000000000000 ∧ (ds.length < 18 → n < 100000000000000000) := by
  have hd : ∀ c ∈ ds.take 18, isDig c = true := fun c hc => h.dig c (List.mem_of_mem_take hc)
  refine ⟨by rw [h.num]; exact Int.natCast_nonneg _, ?_, fun hl => ?_⟩
  · have := numOf_lt2 hd 18 (by simp; omega)
    rw [h.num]; omega
  · have := numOf_lt2 hd 17 (by simp; omega)
    rw [h.num]; omega
theorem Digs.done {b ds l : List UInt8} {n : Int} (h : Digs b ds l n) (hl : Stops l) : b.takeWhile isDig = ds ∧ b.dropWhile isDig = l := by
  rw [h.eq]; exact takeWhile_stops h.dig hl
/-- What comes of a number whose digits are these. -/
theorem numb_of {c : UInt8} {t ds l : List UInt8} {n : Int} (h : Digs (if c = 45 then t else c :: t) ds l n) (hl : Stops l) :
    numb (c :: t) = if ds = [] then .bad 3 l.length else if 18 < ds.length ∨ 1 < ds.length ∧ ds.head? = some 48 then .bad 3 (t.length + 1) else .ok (.mk 2 (if c = 45 then -n else n) [] [] []) l := by
  obtain ⟨h1, h2⟩ := h.done hl
  have hb : (if (c :: t).head? = some 45 then (c :: t).tail else c :: t) = if c = 45 then t else c :: t := by
    simp
  unfold numb
  simp only [hb, h1, h2]
  by_cases hd : ds = []
  · rw [if_pos hd, if_pos hd]
    have := h.eq
    rw [hd, List.nil_append] at this
    rw [this]
  rw [if_neg hd, if_neg hd]
  split
  · rfl
  · next hk =>
    have e2 : ds.take 18 = ds := List.take_of_length_le (by omega)
    have e3 := h.num
    rw [e2] at e3
    rw [e3]
    simp only [List.head?_cons, Option.some.injEq]
end Go.Proofs.YthdbnafiindgbaaGreatDoor
