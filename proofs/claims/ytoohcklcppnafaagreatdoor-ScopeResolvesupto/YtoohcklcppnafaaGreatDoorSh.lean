import Derived.Test.YtoohcklcppnafaaGreatDoorA
import Derived.Shelf.Small.Utf8
import Derived.Shelf.Strings.BuilderRune
import Derived.Shelf.Strconv.Itoa0
import Derived.Shelf.Strings.Runes
import Derived.Shelf.Unicode.DecodeAny
namespace Go.Proofs
open Go.Proofs.Tryz
open Go.Shelf
open Go.RowKit in
open Go.RowKit in
open Go.RowKit in
def Hz:Go.Shelf.Ren:=⟨fun|119=>170|n=>n,fun|21=>21|4=>4|n=>n,fun|n=>n⟩
theorem Wm:Go.Proofs.Lays.n119 prog Hz:={
 mixed:=bC
 f119:=func170.trans (congrArg some bC)
 t4:=underlying4
 a4:=isAgg4
 z4:=sizeOf4
 v4:=zeroValue4
 t21:=underlying21
 a21:=isAgg21
 z21:=sizeOf21
 v21:=zeroValue21 }
theorem utf8_ValidRune(r:Int)(w:aG) :
  bB 170 #[.int .i32 r] w (cK (.bool (Lib.validRune r)) fun w'=>w'=w):=Any.utf8_ValidRune Wm r w
def H_:Go.Shelf.Ren:=⟨fun|137=>169|217=>177|266=>179|n=>n,fun|9=>9|5=>5|3=>3|n=>n,fun|n=>n⟩
theorem Wn:Go.Proofs.Lays.n137 prog H_:={
 mixed:=bC
 f137:=func169.trans (congrArg some bC)
 f217:=func177.trans (congrArg some bC)
 f266:=func179.trans (congrArg some bC)
 t3:=underlying3
 a3:=isAgg3
 z3:=sizeOf3
 v3:=zeroValue3
 t5:=underlying5
 a5:=isAgg5
 z5:=sizeOf5
 v5:=zeroValue5
 t9:=underlying9
 a9:=isAgg9
 z9:=sizeOf9
 v9:=zeroValue9 }
open Go.RowKit in
theorem strings_IndexByte(s:ByteArray)(c:Int)(w:aG) :
  bB 169 #[.string s,.int .u8 c] w (cK (ak (Lib.indexByte s.data.toList c.toNat.toUInt8)) fun w'=>w'=w):=Any.strings_IndexByte Wn s c w
def Ia:Go.Shelf.Ren:=⟨fun|151=>148|152=>164|137=>169|119=>170|224=>171|225=>172|217=>177|266=>179|n=>n,fun|9=>9|21=>21|4=>4|3=>3|5=>5|0=>0|46=>316|n=>n,fun|n=>n⟩
theorem Wo:Go.Proofs.Lays.n151 prog Ia:={
 mixed:=bC
 f119:=func170.trans (congrArg some bC)
 f137:=func169.trans (congrArg some bC)
 f151:=func148.trans (congrArg some bC)
 f152:=func164.trans (congrArg some bC)
 f217:=func177.trans (congrArg some bC)
 f224:=func171.trans (congrArg some bC)
 f225:=func172.trans (congrArg some bC)
 f266:=func179.trans (congrArg some bC)
 t0:=underlying0
 a0:=isAgg0
 z0:=sizeOf0
 v0:=zeroValue0
 t3:=underlying3
 a3:=isAgg3
 z3:=sizeOf3
 v3:=zeroValue3
 t4:=underlying4
 a4:=isAgg4
 z4:=sizeOf4
 v4:=zeroValue4
 t5:=underlying5
 a5:=isAgg5
 z5:=sizeOf5
 v5:=zeroValue5
 t9:=underlying9
 a9:=isAgg9
 z9:=sizeOf9
 v9:=zeroValue9
 t21:=underlying21
 a21:=isAgg21
 z21:=sizeOf21
 v21:=zeroValue21
 t46:=underlying316
 a46:=isAgg316
 z46:=sizeOf316
 v46:=zeroValue316 }
open Go.RowKit Go.Lib in
theorem strings_ContainsRune_ascii(s:ByteArray)(r:Int)(w:aG)(h0:0≤r)(h1:r<128) :
  bB 148 #[.string s,.int .i32 r] w (cK (.bool (decide (0≤Lib.indexByte s.data.toList r.toNat.toUInt8))) fun w'=>w'=w):=Any.strings_ContainsRune_ascii Wo s r w h0 h1
def Yc:Go.Shelf.Ren:=⟨fun|260=>162|n=>n,fun|9=>9|21=>21|3=>3|4=>4|5=>5|119=>315|0=>0|46=>316|139=>319|138=>318|n=>n,fun|3=>1|4=>2|n=>n⟩
def tH:Go.Shelf.Ren:=⟨fun|197=>140|260=>162|n=>n,fun|9=>9|21=>21|3=>3|4=>4|5=>5|105=>285|119=>315|0=>0|46=>316|139=>319|138=>318|n=>n,fun|3=>1|4=>2|n=>n⟩
theorem wh:Go.Proofs.Lays.n197 prog tH:={
 mixed:=bC
 f197:=func140.trans (congrArg some bC)
 f260:=func162.trans (congrArg some bC)
 t0:=underlying0
 a0:=isAgg0
 z0:=sizeOf0
 v0:=zeroValue0
 t3:=underlying3
 a3:=isAgg3
 z3:=sizeOf3
 v3:=zeroValue3
 t4:=underlying4
 a4:=isAgg4
 z4:=sizeOf4
 v4:=zeroValue4
 t5:=underlying5
 a5:=isAgg5
 z5:=sizeOf5
 v5:=zeroValue5
 t9:=underlying9
 a9:=isAgg9
 z9:=sizeOf9
 v9:=zeroValue9
 t21:=underlying21
 a21:=isAgg21
 z21:=sizeOf21
 v21:=zeroValue21
 t46:=underlying316
 a46:=isAgg316
 z46:=sizeOf316
 v46:=zeroValue316
 t105:=underlying285
 a105:=isAgg285
 z105:=sizeOf285
 v105:=zeroValue285
 t119:=underlying315
 a119:=isAgg315
 z119:=sizeOf315
 t138:=underlying318
 a138:=isAgg318
 z138:=sizeOf318
 v138:=zeroValue318
 t139:=underlying319
 a139:=isAgg319
 z139:=sizeOf319
 v139:=zeroValue319
 g3:=bC
 g4:=by kernel_rfl }
open Go.RowKit Go.Lib in
theorem utf8_DecodeRuneInString(s:ByteArray)(w:aG)(hT:Lib.Utf8Tabs 1 2 w) :
  bB 140 #[.string s] w (cK (.tuple #[.int .i32 (Lib.decodeGo s).1,ak (Lib.decodeGo s).2]) fun w'=>Below w.heap.size w w'):=Any.utf8_DecodeRuneInString wh s w hT
end Go.Proofs
