/- Package value: which kind a value is of. -/
import Derived.Test.YtdkpkpgpphkljaaGreatDoorMvi
import Derived.Stop.Asserts
namespace Go.Proofs.YtdkpkpgpphkljaaGreatDoor
set_option maxRecDepth 100000
set_option maxHeartbeats 4000000
open Tryz
open Go.RowKit
open E (St Bo V Fr Ms Rs)
theorem xw(n:Int)(w:World):(Instr.typeAssert (.iface 3 (.int .i64 n)) 40 3 true).run prog w=.ok (.tuple #[.int .i64 n,.bool true]) w:=by kernel_rfl
theorem PO(n:Int)(w:World):(Instr.typeAssert (.iface 3 (.int .i64 n)) 40 4 true).run prog w=.ok (.tuple #[.bool false,.bool false]) w:=by kernel_rfl
theorem Yc(n:Int)(w:World):(Instr.typeAssert (.iface 3 (.int .i64 n)) 40 84 true).run prog w=.ok (.tuple #[.pointer none,.bool false]) w:=by kernel_rfl
theorem Yd(n:Int)(w:World):(Instr.typeAssert (.iface 3 (.int .i64 n)) 40 148 true).run prog w=.ok (.tuple #[.slice none 0 0,.bool false]) w:=by kernel_rfl
theorem Ye(n:Int)(w:World):(Instr.typeAssert (.iface 3 (.int .i64 n)) 40 295 true).run prog w=.ok (.tuple #[.pointer none,.bool false]) w:=by kernel_rfl
theorem IZ(b:Bool)(w:World):(Instr.typeAssert (.iface 4 (.bool b)) 40 3 true).run prog w=.ok (.tuple #[.int .i64 0,.bool false]) w:=by kernel_rfl
theorem D7(b:Bool)(w:World):(Instr.typeAssert (.iface 4 (.bool b)) 40 4 true).run prog w=.ok (.tuple #[.bool b,.bool true]) w:=by kernel_rfl
theorem Yf(b:Bool)(w:World):(Instr.typeAssert (.iface 4 (.bool b)) 40 84 true).run prog w=.ok (.tuple #[.pointer none,.bool false]) w:=by kernel_rfl
theorem Yg(b:Bool)(w:World):(Instr.typeAssert (.iface 4 (.bool b)) 40 148 true).run prog w=.ok (.tuple #[.slice none 0 0,.bool false]) w:=by kernel_rfl
theorem Yh(b:Bool)(w:World):(Instr.typeAssert (.iface 4 (.bool b)) 40 295 true).run prog w=.ok (.tuple #[.pointer none,.bool false]) w:=by kernel_rfl
theorem zV(b:Nat)(w:World):(Instr.typeAssert (.iface 84 (.pointer (some ⟨b,0,none⟩))) 40 3 true).run prog w=.ok (.tuple #[.int .i64 0,.bool false]) w:=by kernel_rfl
theorem xA(b:Nat)(w:World):(Instr.typeAssert (.iface 84 (.pointer (some ⟨b,0,none⟩))) 40 4 true).run prog w=.ok (.tuple #[.bool false,.bool false]) w:=by kernel_rfl
theorem rz(b:Nat)(w:World):(Instr.typeAssert (.iface 84 (.pointer (some ⟨b,0,none⟩))) 40 84 true).run prog w=.ok (.tuple #[.pointer (some ⟨b,0,none⟩),.bool true]) w:=by kernel_rfl
theorem Yi(b:Nat)(w:World):(Instr.typeAssert (.iface 84 (.pointer (some ⟨b,0,none⟩))) 40 148 true).run prog w=.ok (.tuple #[.slice none 0 0,.bool false]) w:=by kernel_rfl
theorem Yj(b:Nat)(w:World):(Instr.typeAssert (.iface 84 (.pointer (some ⟨b,0,none⟩))) 40 295 true).run prog w=.ok (.tuple #[.pointer none,.bool false]) w:=by kernel_rfl
theorem I4(ao:Option Addr)(l c:Nat)(w:World):(Instr.typeAssert (.iface 148 (.slice ao l c)) 40 3 true).run prog w=.ok (.tuple #[.int .i64 0,.bool false]) w:=by kernel_rfl
theorem D8(ao:Option Addr)(l c:Nat)(w:World):(Instr.typeAssert (.iface 148 (.slice ao l c)) 40 4 true).run prog w=.ok (.tuple #[.bool false,.bool false]) w:=by kernel_rfl
theorem I5(ao:Option Addr)(l c:Nat)(w:World):(Instr.typeAssert (.iface 148 (.slice ao l c)) 40 84 true).run prog w=.ok (.tuple #[.pointer none,.bool false]) w:=by kernel_rfl
theorem I6(ao:Option Addr)(l c:Nat)(w:World):(Instr.typeAssert (.iface 148 (.slice ao l c)) 40 148 true).run prog w=.ok (.tuple #[.slice ao l c,.bool true]) w:=by kernel_rfl
theorem Yk(ao:Option Addr)(l c:Nat)(w:World):(Instr.typeAssert (.iface 148 (.slice ao l c)) 40 295 true).run prog w=.ok (.tuple #[.pointer none,.bool false]) w:=by kernel_rfl
theorem PS(b:Nat)(w:World):(Instr.typeAssert (.iface 295 (.pointer (some ⟨b,0,none⟩))) 40 3 true).run prog w=.ok (.tuple #[.int .i64 0,.bool false]) w:=by kernel_rfl
theorem KR(b:Nat)(w:World):(Instr.typeAssert (.iface 295 (.pointer (some ⟨b,0,none⟩))) 40 4 true).run prog w=.ok (.tuple #[.bool false,.bool false]) w:=by kernel_rfl
theorem PU(b:Nat)(w:World):(Instr.typeAssert (.iface 295 (.pointer (some ⟨b,0,none⟩))) 40 84 true).run prog w=.ok (.tuple #[.pointer none,.bool false]) w:=by kernel_rfl
theorem PV(b:Nat)(w:World):(Instr.typeAssert (.iface 295 (.pointer (some ⟨b,0,none⟩))) 40 148 true).run prog w=.ok (.tuple #[.slice none 0 0,.bool false]) w:=by kernel_rfl
theorem aJ2(b:Nat)(w:World):(Instr.typeAssert (.iface 295 (.pointer (some ⟨b,0,none⟩))) 40 295 true).run prog w=.ok (.tuple #[.pointer (some ⟨b,0,none⟩),.bool true]) w:=by kernel_rfl
section
variable{β:Nat}
section
variable{w w':World}{O:Nat→Prop}{T:Int × Int→Nat}{mb:Nat}{m:Ms}
theorem Bu(l xs:List V)(n:Nat)(h:fE β w O T mb m)(hv:m.fr.vs=l++xs)(hn:xs.length=n)(hl:m.fr.vs.length<1073741823) :
  Calls prog 254 #[.agg #[.int .i64 n],.pointer (some ⟨mb,0,none⟩)] w fun e w'=>Bq β O T mb w (.on { m with fr:={ m.fr with vs:=l++[.list xs] } }) e w':=by
 have hb:=bQ w (.cells #[.int .i64 n] 253);have HT:=au (xu l xs n (h.below hb) hv hn hl);have hll:l.length<1073741823:=by rw[hv,ak] at hl;omega
 clear h hv hn hl;go_enter func254,ntmps254;go_wp2_with fail
 refine(HT.o).mono ?_;rintro e w2 ⟨r,rfl,H2⟩;obtain⟨O2,k1,k2,k3,-⟩:=H2.o;obtain⟨ao,cap,vs,rfl,q1,q2,q3,q4⟩:=k3.ex;have HP:=au (mY (.iface 148 (.slice ao xs.length cap)) (.list xs) k2 (.list ao cap xs vs ⟨q1,q2⟩ q3 q4) hll);have HK:=au k1;clear k1 k2 k3 q3 q4 H2;go_wp2_with fail
 refine(HP.o).mono ?_;rintro e w3 ⟨rfl,H3⟩;go_wp2_with fail
 go_ret;obtain⟨O',k4,k5⟩:=H3.o;exact⟨rfl,O',((Kv.aI hb).trans HK.o).trans k4,k5⟩
end
end
section
variable{β:Nat}
section
variable{w w':World}{O:Nat→Prop}{T:Int × Int→Nat}{mb:Nat}{m:Ms}
def aJ3(m:Ms)(l:List V)(t:Nat):V→Rs
 | .mH b=>.on { m with fr:={ m.fr with vs:=l,nx:=if b then m.fr.nx else t } }
 | _=>.err 10
theorem Bv(l:List V)(x:V)(t:Nat)(h:fE β w O T mb m)(hv:m.fr.vs=l++[x])(hl:l.length<1073741823)(ht:t≤1073741824) :
  Calls prog 262 #[.agg #[.int .i64 t],.pointer (some ⟨mb,0,none⟩)] w fun e w'=>Bq β O T mb w (aJ3 m l t x) e w':=by
 have hb:=bQ w (.cells #[.int .i64 t] 303);have HT:=au (qJ l x (h.below hb) hv hl);have hmn:mb≠w.heap.size:=fun e=>by
  obtain⟨cs,sv,nv,ev,vv,bv,bc,ro,hx⟩:=h;have:=hx.lt;omega
 have hno:¬ O w.heap.size:=h.new (aj _);have hbx:(w.alloc (.cells #[.int .i64 t] 303)).heap[w.heap.size]?=some (.cells #[.int .i64 t] 303 (0,0)):=aB w _;clear h hv hl;go_enter func262,ntmps262;go_wp2_with fail
 refine(HT.o).mono ?_;rintro e w2 ⟨r,rfl,H2⟩;obtain⟨O2,k1,k2,k3⟩:=H2.o;have hb2:=k1.heap hbx hno (by decide);have b2:=ai w2 _ 0 _ _ _ hb2;have HK:=au k1;have HM:=au k2;clear H2 k1 hbx hb2 HT;cases k3 with
 | mH b =>
  have hA:=D7 b;obtain⟨cs,sv,nv,ev,vv,bv,bc,ro,hx⟩:=k2;have c1:=hx.cell hx.c1;have f1:=hx.vB 1;have H:=au hx;clear hx;cases b with
  | true =>
   go_wp2_with fail
   go_ret;exact⟨rfl,O2,(Kv.aI hb).trans HK.o,HM.o⟩
  | false =>
   go_wp2_with fail
   go_ret;obtain⟨O',k4,k5⟩:=(H.o).DY t ht;exact⟨rfl,O',((Kv.aI hb).trans HK.o).trans k4,k5⟩
 | int n hn =>
  have hA:=PO n;clear k2;go_wp2_with fail
  go_ret;exact⟨rfl,by decide,O2,(Kv.aI hb).trans HK.o⟩
 | txt b x h =>
  have hA:=xA b;clear k2 h;go_wp2_with fail
  go_ret;exact⟨rfl,by decide,O2,(Kv.aI hb).trans HK.o⟩
 | list ao cap l' vs hc hr hp =>
  have hA:=D8 ao l'.length cap;clear k2 hr hp;go_wp2_with fail
  go_ret;exact⟨rfl,by decide,O2,(Kv.aI hb).trans HK.o⟩
 | fn fb bb a b env h ho hb' he =>
  have hA:=KR fb;clear k2 h ho hb' he;go_wp2_with fail
  go_ret;exact⟨rfl,by decide,O2,(Kv.aI hb).trans HK.o⟩
end
end
end Go.Proofs.YtdkpkpgpphkljaaGreatDoor
