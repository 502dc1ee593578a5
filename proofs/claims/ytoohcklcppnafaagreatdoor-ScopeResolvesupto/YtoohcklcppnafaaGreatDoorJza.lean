import Derived.Test.YtoohcklcppnafaaGreatDoorJt
import Derived.Deep.Slices
namespace Go.Proofs.YtoohcklcppnafaaGreatDoor
open Tryz
open Go.RowKit Go.Deep
theorem bI3:∃ f0 f1:Field,prog.underlying 46=some (.struct #[f0,f1])∧f0.offset=0∧f1.offset=1∧f0.type=9∧f1.type=9 :=
 ⟨_,_,underlying46,rfl,rfl,rfl,rfl⟩
theorem QV:prog.cellsOf 46=2:=bC
theorem Vr:prog.cellsOf 9=1:=bC
instance:Inhabited AF:=⟨⟨.empty,.empty⟩⟩
def AF.vals(a:AF):List Value:=[.string a.n,.string a.t]
section
variable{H:Type}{enc:TypeId × Value→H}{W:aG}{base:Nat}{spare:Nat→Bool}{held:Bool}
end
end Go.Proofs.YtoohcklcppnafaaGreatDoor
