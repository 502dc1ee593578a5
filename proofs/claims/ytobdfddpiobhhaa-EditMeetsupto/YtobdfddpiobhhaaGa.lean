/- What the document's edits do to a text. -/
import Derived.Test.YtobdfddpiobhhaaFb
namespace Go.Proofs.Ytobdfddpiobhhaa
open Go.RowKit
open EM
/-- An edit, gap by gap, as the document's package has it. -/
def IsE (w : World) (v : Value) (n : Nat) (I : Nat → By) (O : Nat → Bool) : Prop :=
  ∃ (ao : Option Addr) (c1 : Nat) (g2 c2 : Nat), v = .agg #[.int .i64 n, .slice ao n c1, .slice (some ⟨g2, 0, none⟩) (n + 1) c2] ∧ n ≤ c1 ∧ n + 1 ≤ c2 ∧
    (∀ g, g < n → ∃ g1, ao = some ⟨g1, 0, none⟩ ∧ w.cell? ⟨g1, g, none⟩ = some (.bool (O g))) ∧ (∀ g, g ≤ n → w.cell? ⟨g2, g, none⟩ = some (.string (ba (I g))))
def dpre (x : By) (I : Nat → By) (O : Nat → Bool) (k : Nat) : By := (List.range k).flatMap fun g => I g ++ (if O g then [] else (x.drop g).take 1)
theorem dpre_succ (x : By) (I : Nat → By) (O : Nat → Bool) (k : Nat) : dpre x I O (k + 1) = dpre x I O k ++ I k ++ (if O k then [] else (x.drop k).take 1) := by
  unfold dpre; rw [List.range_succ, List.flatMap_append]; simp [List.append_assoc]
theorem dpre_mono (x : By) (I : Nat → By) (O : Nat → Bool) {k m : Nat} (h : k ≤ m) : (dpre x I O k).length ≤ (dpre x I O m).length := by
  induction m with
  | zero =>
    have : k = 0 := by omega
    subst this
    exact Nat.le_refl _
  | succ m ih =>
    rcases Nat.lt_or_ge k (m + 1) with h1 | h1
    · have := ih (by omega); rw [dpre_succ]; simp only [List.length_append]; omega
    · obtain rfl : k = m + 1 := by omega
      exact Nat.le_refl _
theorem ba_append (a b : By) : ba a ++ ba b = ba (a ++ b) := bs_inj (by rw [bs_append, bs_ba, bs_ba, bs_ba])
theorem ba_cut1 (s : ByteArray) (k : Nat) : s.extract k (k + 1) = ba (((bs s).drop k).take 1) := bs_inj (by rw [bs_cut, bs_ba, List.take_drop])
end Go.Proofs.Ytobdfddpiobhhaa
