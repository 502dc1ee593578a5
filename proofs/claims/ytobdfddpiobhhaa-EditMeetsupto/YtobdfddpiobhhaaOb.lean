/- Where an argument's row lies. -/
import Derived.Test.YtobdfddpiobhhaaOa
import Derived.WideShapes
namespace Go.Proofs.Ytobdfddpiobhhaa
set_option maxRecDepth 100000 in
theorem arg_block {W : World} {base : Nat} {v : Value} (h : Value.okWide Try.prog W .any base 22 v) : ∀ k, v.ownBlock = some k → k < W.heap.size := by
  intro k hk
  obtain ⟨a, len, cap, rfl⟩ := Go.WideShapes.okWide_slice Try.underlying22 h
  cases a with
  | none => simp [Value.ownBlock] at hk
  | some a =>
    simp only [Value.ownBlock, Option.some.injEq] at hk
    subst hk
    simp only [Value.okWide, Try.underlying22, Cell.okWide, Cell.ok] at h
    obtain ⟨_, _, _, _, row, cells, hs, _⟩ := h
    by_cases hlt : a.block < W.heap.size
    · exact hlt
    · exfalso
      simp [World.shape?, Array.getElem?_eq_none (by omega : W.heap.size ≤ a.block)] at hs
end Go.Proofs.Ytobdfddpiobhhaa
