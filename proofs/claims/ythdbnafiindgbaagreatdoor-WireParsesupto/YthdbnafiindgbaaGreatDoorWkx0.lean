/- How much a value weighs. -/
import Derived.Test.YthdbnafiindgbaaGreatDoorWk0
import Derived.Test.YthdbnafiindgbaaGreatDoorWjb
namespace Go.Proofs.YthdbnafiindgbaaGreatDoor
open Go.RowKit
open Wi

mutual
/-- How much a value weighs. -/
def wt : J → Nat
  | .mk _ _ t ks kids => 40 + t.length * 7 + (ks.map fun x => x.length * 7 + 10).sum + wts kids
def wts : List J → Nat
  | [] => 0
  | j :: r => wt j + wts r
end
theorem wts_len (l : List J) : l.length ≤ wts l := by
  induction l with
  | nil => simp [wts]
  | cons j r ih =>
    cases j
    simp only [wts, wt, List.length_cons]; omega
theorem sum_len (ks : List (List UInt8)) : ks.length ≤ (ks.map fun x => x.length * 7 + 10).sum := by
  induction ks with
  | nil => simp
  | cons a l ih => simp only [List.map_cons, List.sum_cons, List.length_cons]; omega
theorem wt_len (k n : Int) (t : List UInt8) (ks : List (List UInt8)) (kids : List J) : ks.length + kids.length ≤ wt (.mk k n t ks kids) := by
  have := wts_len kids
  have := sum_len ks
  simp only [wt]; omega
theorem jcell_all {w : World} {N : Nat} {k n : Int} {t : List UInt8} {kv rv : Value} (h : w.heap[N]? = some (jcell k n t kv rv)) : w.cell? ⟨N, 0, none⟩ = some (.int .i64 k) ∧ w.cell? ⟨N, 1, none⟩ = some (.int .i64 n) ∧ w.cell? ⟨N, 2, none⟩ = some (.string (ba t)) ∧ w.cell? ⟨N, 3, none⟩ = some kv ∧ w.cell? ⟨N, 4, none⟩ = some rv := by
  unfold jcell at h
  refine ⟨?_, ?_, ?_, ?_, ?_⟩ <;> simp [World.cell?, h]
end Go.Proofs.YthdbnafiindgbaaGreatDoor
