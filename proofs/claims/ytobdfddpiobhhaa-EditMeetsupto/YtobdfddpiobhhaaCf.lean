/- One edit for two: Compose, and the law EditComposes. -/
import Derived.Test.YtobdfddpiobhhaaCe
import Derived.Test.YtobdfddpiobhhaaLa
namespace Go.Proofs.Ytobdfddpiobhhaa
open Go.RowKit
open EM
theorem spans_small (W : Wr) (N M K : Nat) (h1 : Wr.small W N M) (h2 : tot W.l + (Wr.txt W).length ≤ K) : W.spans.length ≤ M ∧ tot W.spans ≤ K := by
  obtain ⟨_, _, i3⟩ := h1
  unfold Wr.spans Wr.fin
  cases ho : W.o with
  | none => simp only [ho, Option.isSome_none, Bool.false_eq_true, if_false] at i3 ⊢; omega
  | some q =>
    obtain ⟨f, x⟩ := q
    have e1 : Wr.txt W = x := by simp [Wr.txt, ho]
    rw [e1] at h2
    simp only [ho, Option.isSome_some, if_true, tot_snoc, List.length_append, List.length_cons, List.length_nil] at i3 ⊢
    omega
end Go.Proofs.Ytobdfddpiobhhaa
