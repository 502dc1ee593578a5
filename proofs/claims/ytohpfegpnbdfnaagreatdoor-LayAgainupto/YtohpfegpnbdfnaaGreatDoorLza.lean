/- Plain mathematics: nothing is wrong in a tree if it has no notes. -/
import Derived.Test.YtohpfegpnbdfnaaGreatDoorZr
import Derived.Test.YtohpfegpnbdfnaaGreatDoorLj
namespace Go.Proofs.YtohpfegpnbdfnaaGreatDoor
open M
namespace X
mutual
theorem nts_cln : ∀ (p : Part) (i : Nat), nts p i = [] ↔ cln p = true
  | .leaf k x, i => by
    rw [nts, cln]
    by_cases h : k = 8
    · subst h; simp
    · simp [h]
  | .miss m, i => by rw [nts, cln]; simp
  | .br k ps, i => by
    have := ntss_clns ps i
    rw [nts, cln]
    by_cases h : k = 5
    · subst h; simp
    · rw [if_neg h, List.nil_append, this]; simp [h]
theorem ntss_clns : ∀ (ps : List Part) (i : Nat), ntss ps i = [] ↔ clns ps = true
  | [], i => by rw [ntss, clns]; simp
  | p :: ps, i => by
    have h1 := nts_cln p i
    have h2 := ntss_clns ps (i + (pb p).length)
    rw [ntss, clns, List.append_eq_nil_iff, h1, h2, Bool.and_eq_true]
end
theorem file_cln (ts : List Tok) (i : Nat) : nts (file ts) i = [] ↔ clns (fileL ts) = true := by
  have e : file ts = .br 2 (fileL ts) := rfl
  rw [e, nts_cln, cln]; simp
end X
end Go.Proofs.YtohpfegpnbdfnaaGreatDoor
