/- What the law asks of Layout;a closed fact. -/
import Derived.Test.YtgpcpbmacdhlkaaGreatDoorXy
import Derived.Shelf.Spec.SlicesGrow
namespace Go.Proofs.YtgpcpbmacdhlkaaGreatDoor
open M
namespace X
end X
end Go.Proofs.YtgpcpbmacdhlkaaGreatDoor
/- What the laws ask of Layout,and the closed fact that it lays out. -/
namespace Go.Proofs.YtgpcpbmacdhlkaaGreatDoor
open Go.RowKit
open M
def LayC:Prop:=∀ (s:ByteArray) (w:World),Tabs w→s.size≤1073741823→(toks 0 (bs s)).length≤134217728→(X.clns (X.fileL (X.xt (bs s)))=true→(X.layOf (bs s)).length≤1073741823) →
 Calls Tryz.prog 6 #[.string s] w fun e w'=>(e=.returned (if X.clns (X.fileL (X.xt (bs s))) then .tuple #[.string (ba (X.layOf (bs s))),.nilIface] else .tuple #[.string ⟨#[]⟩,.iface 45 (.int .i64 3)]))∧Below w.heap.size w w'
end Go.Proofs.YtgpcpbmacdhlkaaGreatDoor
