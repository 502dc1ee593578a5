/- The document's fault of spans; spans as the document has them. -/
import Derived.Test.YtobdfddpiobhhaaFa
import Derived.OwnWalk
import Derived.Deep.QuietTactic
import Derived.BigQuiet
import Derived.Deep.RegionHeld3
import Derived.Deep.AppendLies
namespace Go.Proofs.Ytobdfddpiobhhaa
open Go.RowKit
open EM
theorem first_good {n : Int} {L : List Rw} {r : Rw} (hr : L[0]? = some r) (h : L.any (badR n) = false) : ordB 0 L = ordB r.t (L.drop 1) := by
  have hb : badR n r = false := by simpa using (List.any_eq_false.1 h) r (List.mem_of_getElem? hr)
  have := drop_ord (e := 0) hr
  simp only [List.drop_zero] at this
  rw [this]
  simp only [badR, Bool.or_eq_false_iff, decide_eq_false_iff_not] at hb
  simp [hb.1.1]
end Go.Proofs.Ytobdfddpiobhhaa
