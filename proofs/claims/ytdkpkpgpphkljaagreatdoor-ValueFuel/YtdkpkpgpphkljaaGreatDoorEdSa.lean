/- The library's own contracts,laid at this program: a Builder is grown,written and read. -/
import Derived.Shelf.Strings.Builder2
import Derived.Test.YtdkpkpgpphkljaaGreatDoorSh
namespace Go.Proofs
open Tryz
open Go.Shelf
open Go.RowKit
def xQ:Go.Shelf.Ren:=⟨fun|165=>77|240=>99|241=>102|276=>123|277=>129|n=>n,fun|70=>95|3=>3|0=>0|4=>4|9=>9|20=>20|72=>98|37=>96|164=>305|5=>5|n=>n,fun|n=>n⟩
theorem Uc:Go.Proofs.Lays.n165 prog xQ:={
 mixed:=by kernel_rfl
 f165:=func77.trans (congrArg some (by kernel_rfl))
 f240:=func99.trans (congrArg some (by kernel_rfl))
 f241:=func102.trans (congrArg some (by kernel_rfl))
 f276:=func123.trans (congrArg some (by kernel_rfl))
 f277:=func129.trans (congrArg some (by kernel_rfl))
 t0:=underlying0
 a0:=isAgg0
 z0:=sizeOf0
 v0:=zeroValue0
 t3:=underlying3
 a3:=isAgg3
 z3:=sizeOf3
 v3:=zeroValue3
 t4:=underlying4
 a4:=isAgg4
 z4:=sizeOf4
 v4:=zeroValue4
 t9:=underlying9
 a9:=isAgg9
 z9:=sizeOf9
 v9:=zeroValue9
 t20:=underlying20
 a20:=isAgg20
 z20:=sizeOf20
 v20:=zeroValue20
 t37:=underlying96
 a37:=isAgg96
 z37:=sizeOf96
 v37:=zeroValue96
 t70:=underlying95
 a70:=isAgg95
 z70:=sizeOf95
 v70:=zeroValue95
 t72:=underlying98
 a72:=isAgg98
 z72:=sizeOf98
 v72:=zeroValue98
 t164:=underlying305
 a164:=isAgg305
 z164:=sizeOf305
 v164:=zeroValue305 }
theorem Tryz.uZ:Builder.Extra prog xQ:={
 sizeBuilder:=by kernel_rfl
 liesBuilder:=by kernel_rfl
 t5:=underlying5
 a5:=isAgg5
 z5:=sizeOf5
 v5:=zeroValue5
 infoByte:=by kernel_rfl
 cellsByte:=by kernel_rfl
 sizeByte:=by kernel_rfl
 neB5:=by decide }
theorem Tryz.Builder_Grow_fresh(B b n:Nat)(w:World)(hB:B≤b)(hbk:w.heap[b]?=some (.cells #[.pointer none,.slice none 0 0] 98 (0,0)))(hBw:B≤w.heap.size)(hn:n≤281474976710656) :
  Calls prog 77 #[.pointer (some ⟨b,0,none⟩),.int .i64 n] w fun e w'=>e=.returned (.tuple #[])∧(Lib.BuilderAt 98 5 B b (.pointer (some ⟨b,0,none⟩)) [] w'∧Below B w w'):=Any.Builder_Grow_fresh Uc Tryz.uZ B b n w hB hbk hBw hn
def u_:Go.Shelf.Ren:=⟨fun|166=>68|240=>99|276=>123|n=>n,fun|70=>95|3=>3|0=>0|4=>4|9=>9|20=>20|72=>98|37=>96|164=>305|5=>5|75=>25|80=>102|n=>n,fun|n=>n⟩
theorem OA:Go.Proofs.Lays.n166 prog u_:={
 mixed:=by kernel_rfl
 f166:=func68.trans (congrArg some (by kernel_rfl))
 f240:=func99.trans (congrArg some (by kernel_rfl))
 f276:=func123.trans (congrArg some (by kernel_rfl))
 t0:=underlying0
 a0:=isAgg0
 z0:=sizeOf0
 v0:=zeroValue0
 t3:=underlying3
 a3:=isAgg3
 z3:=sizeOf3
 v3:=zeroValue3
 t4:=underlying4
 a4:=isAgg4
 z4:=sizeOf4
 v4:=zeroValue4
 t9:=underlying9
 a9:=isAgg9
 z9:=sizeOf9
 v9:=zeroValue9
 t20:=underlying20
 a20:=isAgg20
 z20:=sizeOf20
 v20:=zeroValue20
 t37:=underlying96
 a37:=isAgg96
 z37:=sizeOf96
 v37:=zeroValue96
 t70:=underlying95
 a70:=isAgg95
 z70:=sizeOf95
 v70:=zeroValue95
 t72:=underlying98
 a72:=isAgg98
 z72:=sizeOf98
 v72:=zeroValue98
 t75:=underlying25
 a75:=isAgg25
 z75:=sizeOf25
 v75:=zeroValue25
 t164:=underlying305
 a164:=isAgg305
 z164:=sizeOf305
 v164:=zeroValue305 }
theorem Tryz.uH:Builder.Extra prog u_:={
 sizeBuilder:=by kernel_rfl
 liesBuilder:=by kernel_rfl
 t5:=underlying5
 a5:=isAgg5
 z5:=sizeOf5
 v5:=zeroValue5
 infoByte:=by kernel_rfl
 cellsByte:=by kernel_rfl
 sizeByte:=by kernel_rfl
 neB5:=by decide }
theorem Tryz.Builder_WriteString(B b:Nat)(bs:List Value)(s:ByteArray)(w:World)(h:Lib.IsBuilder 98 5 B b bs w)(hlen:bs.length+s.size≤140737488355328)(hBw:B≤w.heap.size) :
  Calls prog 68 #[.pointer (some ⟨b,0,none⟩),.string s] w fun e w'=>e=.returned (.tuple #[.int .i64 s.size,.nilIface])∧(Lib.BuilderAt 98 5 B b (.pointer (some ⟨b,0,none⟩)) (bs++Lib.strCells s) w'∧Below B w w'):=Any.Builder_WriteString OA Tryz.uH B b bs s w h hlen hBw
end Go.Proofs
