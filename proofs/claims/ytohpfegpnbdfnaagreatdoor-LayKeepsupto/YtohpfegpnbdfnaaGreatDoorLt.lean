/- The kinds of any tree's nodes; rows of numbers that are the same. -/
import Derived.Test.YtohpfegpnbdfnaaGreatDoorLp
import Derived.Test.YtohpfegpnbdfnaaGreatDoorLm
import Derived.Test.YtohpfegpnbdfnaaGreatDoorYd
namespace Go.Proofs.YtohpfegpnbdfnaaGreatDoor
open Go.RowKit
open M
theorem kinds_any : ∀ (n : Nat) (p : X.Part), X.psz p ≤ n → X.psz p ≤ 500000000 → X.kok p → KQ p := by
  intro n
  induction n with
  | zero => intro p h; have := X.psz_pos p; omega
  | succ n ih =>
    intro p hn hz hk
    cases p with
    | leaf k x => exact kinds_leaf k x
    | miss m =>
      intro w D v base rv xs h hD hI hb hl
      cases h with
      | miss _ =>
      rw [X.knd] at hl ⊢
      exact kinds_node 1 (by decide) (ba m) none 0 (fun _ => undef) (fun _ => undef) (fun _ => undef) (fun _ => undef) [] ⟨Nat.le_refl _, by unfold maxLen; omega⟩ (fun i hi => by simp at hi) (fun j hj => by simp at hj) hI hb (by simp only [List.length_cons, List.length_nil, X.knds] at hl ⊢; omega) (by simp)
    | br k ps =>
      intro w D v base rv xs h hD hI hb hl
      rw [X.psz] at hn hz
      rw [X.kok] at hk
      have hge := owns_ge hI
      cases h with
      | br _ cap ao c0 c1 c2 c3 _ hc hr hp =>
      rw [X.knd] at hl ⊢
      refine kinds_node k hk.1 ⟨#[]⟩ ao cap c0 c1 c2 c3 ps hc (fun i hi => ?_) (fun j hj => ?_) hI hb (by simp only [List.length_cons, List.length_append, List.length_nil] at hl; omega) (by have := X.pssz_len ps; omega)
      · obtain ⟨g, h1, h0, h2⟩ := hr i hi
        exact ⟨g, h1, hD g h0, h2⟩
      · have hpj : ps[j]? = some ps[j] := List.getElem?_eq_getElem hj
        have hm := X.pssz_mem ps j _ hpj
        refine ⟨ps[j], hpj, fun W rvj ys kp hI2 hl2 => ?_⟩
        exact ih ps[j] (by omega) (by omega) (X.koks_mem ps j _ hk.2 hpj) W D _ base rvj ys ((hp j _ hpj).kept kp (fun q e hq => by have := (hge q e).1; have := hD q hq; omega)) hD hI2 (Nat.le_trans hb kp.size) hl2
end Go.Proofs.YtohpfegpnbdfnaaGreatDoor
