/- The library's own contracts,laid at this program. -/
import Derived.Test.YtdkpkpgpphkljaaGreatDoorA
import Derived.Shelf.Small.Utf8
import Derived.Shelf.Strings.BuilderRune
import Derived.Shelf.Strconv.Itoa0
import Derived.Shelf.Strings.Runes
import Derived.Shelf.Unicode.DecodeAny
import Derived.Test.YtdkpkpgpphkljaaGreatDoorProg
namespace Go.Proofs
open Tryz
open Go.Shelf
def yj:Go.Shelf.Ren:=⟨fun|169=>22|n=>n,fun|70=>95|9=>9|0=>0|72=>98|37=>96|127=>150|3=>3|5=>5|n=>n,fun|n=>n⟩
theorem Lb:Go.Proofs.Lays.n169 prog yj:={
 mixed:=by kernel_rfl
 f169:=func22.trans (congrArg some (by kernel_rfl))
 t0:=underlying0
 a0:=isAgg0
 z0:=sizeOf0
 v0:=zeroValue0
 t3:=underlying3
 a3:=isAgg3
 z3:=sizeOf3
 v3:=zeroValue3
 t9:=underlying9
 a9:=isAgg9
 z9:=sizeOf9
 v9:=zeroValue9
 t37:=underlying96
 a37:=isAgg96
 z37:=sizeOf96
 v37:=zeroValue96
 t70:=underlying95
 a70:=isAgg95
 z70:=sizeOf95
 v70:=zeroValue95
 t72:=underlying98
 a72:=isAgg98
 z72:=sizeOf98
 v72:=zeroValue98
 t127:=underlying150
 a127:=isAgg150
 z127:=sizeOf150
 v127:=zeroValue150 }
theorem Tryz.p_:Builder.Extra prog yj:={
 sizeBuilder:=by kernel_rfl
 liesBuilder:=by kernel_rfl
 t5:=underlying5
 a5:=isAgg5
 z5:=sizeOf5
 v5:=zeroValue5
 infoByte:=by kernel_rfl
 cellsByte:=by kernel_rfl
 sizeByte:=by kernel_rfl
 neB5:=by decide }
open Go.RowKit in
open Go.RowKit in
open Go.RowKit in
theorem Tryz.Builder_String_any(B b:Nat)(l:ah)(w:World)(h:Lib.IsBuilder 98 5 B b (Lib.byteCells l) w)(hBw:B≤w.heap.size) :
  Calls prog 22 #[.pointer (some ⟨b,0,none⟩)] w fun e w'=>e=.returned (.string ⟨l.toArray⟩)∧Below B w w':=Any.Builder_String_any Lb Tryz.p_ B b l w h hBw
def Gs:Go.Shelf.Ren:=⟨fun|119=>180|n=>n,fun|21=>21|4=>4|n=>n,fun|n=>n⟩
theorem Vs:Go.Proofs.Lays.n119 prog Gs:={
 mixed:=by kernel_rfl
 f119:=func180.trans (congrArg some (by kernel_rfl))
 t4:=underlying4
 a4:=isAgg4
 z4:=sizeOf4
 v4:=zeroValue4
 t21:=underlying21
 a21:=isAgg21
 z21:=sizeOf21
 v21:=zeroValue21 }
theorem utf8_ValidRune(r:Int)(w:World) :
  Calls prog 180 #[.int .i32 r] w fun e w'=>e=.returned (.bool (Lib.validRune r))∧w'=w:=Any.utf8_ValidRune Vs r w
def Gt:Go.Shelf.Ren:=⟨fun|137=>179|217=>191|266=>195|n=>n,fun|9=>9|5=>5|3=>3|n=>n,fun|n=>n⟩
theorem Vt:Go.Proofs.Lays.n137 prog Gt:={
 mixed:=by kernel_rfl
 f137:=func179.trans (congrArg some (by kernel_rfl))
 f217:=func191.trans (congrArg some (by kernel_rfl))
 f266:=func195.trans (congrArg some (by kernel_rfl))
 t3:=underlying3
 a3:=isAgg3
 z3:=sizeOf3
 v3:=zeroValue3
 t5:=underlying5
 a5:=isAgg5
 z5:=sizeOf5
 v5:=zeroValue5
 t9:=underlying9
 a9:=isAgg9
 z9:=sizeOf9
 v9:=zeroValue9 }
open Go.RowKit in
theorem strings_IndexByte(s:ByteArray)(c:Int)(w:World) :
  Calls prog 179 #[.string s,.int .u8 c] w fun e w'=>e=.returned (.int .i64 (Lib.indexByte s.data.toList c.toNat.toUInt8))∧w'=w:=Any.strings_IndexByte Vt s c w
open Go.RowKit in
open Go.RowKit in
open Go.RowKit in
open Go.RowKit in
open Go.RowKit in
open Go.RowKit in
theorem Tryz.Builder_String_any_k(B b:Nat)(l:ah)(w:World)(h:Lib.IsBuilderF 98 5 B b (Lib.byteCells l) w)(hBw:B≤w.heap.size) :
  Calls prog 22 #[.pointer (some ⟨b,0,none⟩)] w fun e w'=>e=.returned (.string ⟨l.toArray⟩)∧(Lib.IsBuilderF 98 5 B b (Lib.byteCells l) w'∧Below B w w'∧Lib.OthersKept 5 (some b) w w'):=Any.Builder_String_any_k Lb Tryz.p_ B b l w h hBw
def Gu:Go.Shelf.Ren:=⟨fun|151=>143|152=>166|137=>179|119=>180|224=>181|225=>182|217=>191|266=>195|n=>n,fun|9=>9|21=>21|4=>4|3=>3|5=>5|0=>0|46=>338|n=>n,fun|n=>n⟩
theorem Vu:Go.Proofs.Lays.n151 prog Gu:={
 mixed:=by kernel_rfl
 f119:=func180.trans (congrArg some (by kernel_rfl))
 f137:=func179.trans (congrArg some (by kernel_rfl))
 f151:=func143.trans (congrArg some (by kernel_rfl))
 f152:=func166.trans (congrArg some (by kernel_rfl))
 f217:=func191.trans (congrArg some (by kernel_rfl))
 f224:=func181.trans (congrArg some (by kernel_rfl))
 f225:=func182.trans (congrArg some (by kernel_rfl))
 f266:=func195.trans (congrArg some (by kernel_rfl))
 t0:=underlying0
 a0:=isAgg0
 z0:=sizeOf0
 v0:=zeroValue0
 t3:=underlying3
 a3:=isAgg3
 z3:=sizeOf3
 v3:=zeroValue3
 t4:=underlying4
 a4:=isAgg4
 z4:=sizeOf4
 v4:=zeroValue4
 t5:=underlying5
 a5:=isAgg5
 z5:=sizeOf5
 v5:=zeroValue5
 t9:=underlying9
 a9:=isAgg9
 z9:=sizeOf9
 v9:=zeroValue9
 t21:=underlying21
 a21:=isAgg21
 z21:=sizeOf21
 v21:=zeroValue21
 t46:=underlying338
 a46:=isAgg338
 z46:=sizeOf338
 v46:=zeroValue338 }
open Go.RowKit Go.Lib in
theorem strings_ContainsRune_ascii(s:ByteArray)(r:Int)(w:World)(h0:0≤r)(h1:r<128) :
  Calls prog 143 #[.string s,.int .i32 r] w fun e w'=>e=.returned (.bool (decide (0≤Lib.indexByte s.data.toList r.toNat.toUInt8)))∧w'=w:=Any.strings_ContainsRune_ascii Vu s r w h0 h1
def tu:Go.Shelf.Ren:=⟨fun|197=>128|260=>162|n=>n,fun|9=>9|21=>21|3=>3|4=>4|5=>5|105=>313|119=>358|0=>0|46=>338|139=>361|138=>360|n=>n,fun|3=>2|4=>3|n=>n⟩
theorem vR:Go.Proofs.Lays.n197 prog tu:={
 mixed:=by kernel_rfl
 f197:=func128.trans (congrArg some (by kernel_rfl))
 f260:=func162.trans (congrArg some (by kernel_rfl))
 t0:=underlying0
 a0:=isAgg0
 z0:=sizeOf0
 v0:=zeroValue0
 t3:=underlying3
 a3:=isAgg3
 z3:=sizeOf3
 v3:=zeroValue3
 t4:=underlying4
 a4:=isAgg4
 z4:=sizeOf4
 v4:=zeroValue4
 t5:=underlying5
 a5:=isAgg5
 z5:=sizeOf5
 v5:=zeroValue5
 t9:=underlying9
 a9:=isAgg9
 z9:=sizeOf9
 v9:=zeroValue9
 t21:=underlying21
 a21:=isAgg21
 z21:=sizeOf21
 v21:=zeroValue21
 t46:=underlying338
 a46:=isAgg338
 z46:=sizeOf338
 v46:=zeroValue338
 t105:=underlying313
 a105:=isAgg313
 z105:=sizeOf313
 v105:=zeroValue313
 t119:=underlying358
 a119:=isAgg358
 z119:=sizeOf358
 t138:=underlying360
 a138:=isAgg360
 z138:=sizeOf360
 v138:=zeroValue360
 t139:=underlying361
 a139:=isAgg361
 z139:=sizeOf361
 v139:=zeroValue361
 g3:=by kernel_rfl
 g4:=by kernel_rfl }
open Go.RowKit Go.Lib in
theorem utf8_DecodeRuneInString(s:ByteArray)(w:World)(hT:Lib.Utf8Tabs 2 3 w) :
  Calls prog 128 #[.string s] w fun e w'=>e=.returned (.tuple #[.int .i32 (Lib.decodeGo s).1,.int .i64 (Lib.decodeGo s).2])∧Below w.heap.size w w':=Any.utf8_DecodeRuneInString vR s w hT
end Go.Proofs
