/- Spans as the document has them. -/
import Derived.Test.YtobdfddpiobhhaaFb
namespace Go.Proofs.Ytobdfddpiobhhaa
open Go.RowKit
open EM

theorem info32 : (Try.prog.info? 32).map (fun i => (i.zero, i.size, i.bytes)) = some (some (.agg #[.int .i64 0, .int .i64 0, .string .empty]), 3, 32) := by kernel_rfl
theorem take_vals {L : List Rw} {k : Nat} {r : Rw} (hr : L[k]? = some r) : (L.take (k + 1)).flatMap Rw.vals = (L.take k).flatMap Rw.vals ++ r.vals := by
  rw [List.take_add_one, hr, List.flatMap_append]; simp
end Go.Proofs.Ytobdfddpiobhhaa
