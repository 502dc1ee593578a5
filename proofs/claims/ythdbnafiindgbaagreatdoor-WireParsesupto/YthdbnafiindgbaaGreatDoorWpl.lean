/- What Parse tells, in one form. -/
import Derived.Test.YthdbnafiindgbaaGreatDoorWpj
import Derived.Test.YthdbnafiindgbaaGreatDoorEra
namespace Go.Proofs.YthdbnafiindgbaaGreatDoor
open Go.RowKit
open Wi

theorem IsA.zero (w : World) : IsA w (.agg #[.int .i64 0, .int .i64 0, .string (ba []), .slice none 0 0, .slice none 0 0]) (.mk 0 0 [] [] []) :=
  (IsX.plain w (fun _ => True) 0 0 []).isA
theorem wt_zero : wt (.mk 0 0 [] [] []) = 40 := by simp [wt, wts]
/-- What Parse tells, in one form. -/
theorem okM_form {w w' : World} {s : ByteArray} {en : Ending} (h : OkM w NewW s en w') : Below w.heap.size w w' ∧ ∃ (v1 v2 : Int) (v3 : ByteArray) (u1 : Option Addr) (u2 u3 : Nat) (y1 : Option Addr) (y2 y3 : Nat) (at' k : Int) (j : J), en = .returned (.tuple #[.agg #[.int .i64 v1, .int .i64 v2, .string v3, .slice u1 u2 u3, .slice y1 y2 y3], .int .i64 at', errV k]) ∧ IsA w' (.agg #[.int .i64 v1, .int .i64 v2, .string v3, .slice u1 u2 u3, .slice y1 y2 y3]) j ∧
    match parse (bs s) with
    | .ok j' _ => j = j' ∧ at' = 0 ∧ k = 0
    | .bad e n => j = .mk 0 0 [] [] [] ∧ at' = (s.size - n : Nat) ∧ k = e := by
  obtain ⟨hb, h⟩ := h
  refine ⟨hb, ?_⟩
  cases hp : parse (bs s) with
  | ok j r =>
    rw [hp] at h
    obtain ⟨v, rfl, hx⟩ := h
    obtain ⟨v1, v2, v3, u1, u2, u3, y1, y2, y3, rfl⟩ := hx.shape5
    exact ⟨v1, v2, v3, u1, u2, u3, y1, y2, y3, 0, 0, j, rfl, hx.isA, rfl, rfl, rfl⟩
  | bad e n =>
    rw [hp] at h
    have he := (parse_err hp).2
    refine ⟨0, 0, ⟨#[]⟩, none, 0, 0, none, 0, 0, (s.size - n : Nat), e, .mk 0 0 [] [] [], ?_, IsA.zero w', rfl, rfl, rfl⟩
    rw [h]
    unfold errV
    rw [if_neg (by omega)]
end Go.Proofs.YthdbnafiindgbaaGreatDoor
