/- Package value: the maker goes through an expression. -/
import Derived.Test.YtdkpkpgpphkljaaGreatDoorMwr
import Derived.Test.YtdkpkpgpphkljaaGreatDoorMwt
import Derived.Test.YtdkpkpgpphkljaaGreatDoorMww
namespace Go.Proofs.YtdkpkpgpphkljaaGreatDoor
set_option maxRecDepth 100000
set_option maxHeartbeats 4000000
open Tryz
open Go.RowKit
open X (Nm Ex)
section
open E (St Kn comp comps rq sM jk jO fU kU jT)
variable{β:Nat}
mutual
def qL:Ex→Prop
 | .lit _ x=>x.length≤20000
 | .hole _=>True
 | .missing=>True
 | .var _=>True
 | .iJ _ v b=>qL v∧qL b
 | .ite a b c=>qL a∧qL b∧qL c
 | .fn ps b=>ps.length≤1073741824∧qL b
 | .bin l _ r=>qL l∧qL r
 | .call g l=>qL g∧xB l
 | .list l=>xB l
 | .group e=>qL e
def xB:List Ex→Prop
 | []=>True
 | e::l=>qL e∧xB l
end
structure TM(β:Nat)(k:Kn)(T:Int × Int→Nat)(hi pb:Nat)(w:World):Prop where
 gm:Gm w
 le:hi≤w.heap.size
 kl:Yy k
 pr:PrS k T pb w
 bl:β≤w.heap.size
theorem TM.below{k:Kn}{T:Int × Int→Nat}{hi pb:Nat}{w w':World}(h:TM β k T hi pb w)(hb:Below w.heap.size w w'):TM β k T hi pb w':=⟨h.gm.below hb,bS h.le hb.size,h.kl,h.pr.below hb,bS h.bl hb.size⟩
section
variable{k:Kn}{T:Int × Int→Nat}{lo hi pb:Nat}
def EC(β:Nat)(k:Kn)(T:Int × Int→Nat)(lo hi pb:Nat)(e:Ex):Prop:=∀(w0 w:World) (Oe:Nat→Prop) (kb f:Nat) (ns:List (List Nm)) (c:List (Option St)) (u:Value),TM β k T hi pb w0→gJ w0 lo hi u e→oF β w0 w Oe T kb pb f ns c→qL e→c.length+jk e≤1073741819→ns.length+jk e≤1073741824 →
 Calls prog 65 #[.pointer (some ⟨kb,0,none⟩),u] w fun en w'=>en=.returned (.tuple #[])∧Hid (oF β w0 w' Oe T kb pb f ns (c++(comp k f ns c.length e).map some))
def AC(β:Nat)(k:Kn)(T:Int × Int→Nat)(lo hi pb:Nat)(l:List Ex):Prop:=∀(w0 w:World) (Oe:Nat→Prop) (kb f:Nat) (ns:List (List Nm)) (c:List (Option St)) (ao:Option Addr) (cap:Nat) (vs:Nat→Value),TM β k T hi pb w0→(l.length≤cap∧cap≤maxLen)→(∀ j,j<l.length→∃ g,ao=some ⟨g,0,none⟩∧lo≤g∧g<hi∧w0.cell? ⟨g,j,none⟩=some (vs j)∧∃ c f,w0.heap[g]?=some (.cells c 72 f))→(∀(j:Nat) (e:Ex),l[j]?=some e→gJ w0 lo hi (vs j) e)→oF β w0 w Oe T kb pb f ns c→xB l→c.length+jO l≤1073741819→ns.length+jO l≤1073741824 →
 Calls prog 98 #[.pointer (some ⟨kb,0,none⟩),.slice ao l.length cap] w fun en w'=>en=.returned (.tuple #[])∧Hid (oF β w0 w' Oe T kb pb f ns (c++(comps k f ns c.length l).map some))
variable{w0 w w':World}{Oe:Nat→Prop}{kb f:Nat}{ns:List (List Nm)}{c:List (Option St)}
theorem oF.lJ(h:oF β w0 w Oe T kb pb f ns c):Below w0.heap.size w0 w:=by obtain⟨_,_,_,h⟩:=h;exact h.lJ
theorem oF.get(h:oF β w0 w Oe T kb pb f ns c){b:Nat}{cc:Array Value}{t:TypeId}{ff:Nat × Nat}(hb:w0.heap[b]?=some (.cells cc t ff)):w.heap[b]?=some (.cells cc t ff):=(h.lJ.block b (aP hb)).trans hb
theorem jU(u:Value)(s:St){w1:World}(h:oF β w0 w Oe T kb pb f ns c)(hb:Below w.heap.size w w1)(hi:∃ ty y,u=.iface ty y)(hu:∀ O,(∀ q,O q→q<w.heap.size)→jP β w1 O T u s)(hl:c.length<1073741823) :
  Calls prog 93 #[.pointer (some ⟨kb,0,none⟩),u] w1 fun e w'=>e=.returned (.int .i64 (c.length:Int))∧Hid (oF β w0 w' Oe T kb pb f ns (c++[some s])):=by
 obtain⟨nv,sv,cs,h⟩:=h;refine(FR u (some s) (h.below hb) (.inl hi) (hu _ (fun q e=>?_)) hl).mono ?_
 ·rcases e with e|rfl|e
  ·exact aH (h.oe q e) h.lJ.size
  ·exact aP h.blk
  ·obtain⟨c2,h2⟩:=eX h.row e
   exact aP h2
 ·rintro e w' ⟨h1,h2⟩
  obtain⟨EL,cs',h3⟩:=h2.o;exact⟨h1,_,EL,cs',h3⟩
theorem YA(d:Nat)(x:ah):EC β k T lo hi pb (.lit d x):=by
 intro w0 w Oe kb f ns c u hS hE hM hL hz1 hz2;cases hE with
 | lit b _ _ hb h =>
  have HL:=au (FU (T:=T) (w:=w) hS.kl b d x (hM.get h) hL (hS.gm.below hM.lJ) (bS hS.bl hM.lJ.size));have HM:=au hM;have hcl:c.length<1073741823:=by omega
  have HR:Hid (comp k f ns c.length (.lit d x)=[rq k d x]):=by show _=_;rw[comp]
  have ha0:∀ wx,(Instr.typeAssert (.iface 223 (.pointer (some ⟨b,0,none⟩))) 72 223 true).run prog wx=.ok (.tuple #[.pointer (some ⟨b,0,none⟩),.bool true]) wx:=fun _=>by kernel_rfl
  clear hS hM hL h hz1 hz2 hb;go_enter func65,ntmps65;go_wp2_with fail
  refine(HL.o).mono ?_;rintro e w1 ⟨ty,y,rfl,H1⟩;have HA:=au (jU (.iface 227 (.agg #[.iface ty y])) (rq k d x) HM.o (H1.o).1 ⟨_,_,rfl⟩ (H1.o).2 hcl);go_wp2_with fail
  refine(HA.o).mono ?_;rintro e w2 ⟨rfl,H2⟩;go_wp2_with fail
  go_end0;refine⟨rfl,?_⟩;rw[HR.o];exact H2.o
theorem U6(i:Nat):EC β k T lo hi pb (.hole i):=by
 intro w0 w Oe kb f ns c u hS hE hM hL hz1 hz2;cases hE with
 | hole b _ hb h =>
  have HA:=au (jU (.iface 258 (.agg #[])) .stk hM (ay _ w) ⟨_,_,rfl⟩ (fun O _=>.stk) (by omega));have HR:Hid (comp k f ns c.length (.hole i)=[.stk]):=by show _=_;rw[comp]
  have ha0:∀ wx,(Instr.typeAssert (.iface 281 (.pointer (some ⟨b,0,none⟩))) 72 223 true).run prog wx=.ok (.tuple #[.pointer none,.bool false]) wx:=fun _=>by kernel_rfl
  have ha1:∀ wx,(Instr.typeAssert (.iface 281 (.pointer (some ⟨b,0,none⟩))) 72 228 true).run prog wx=.ok (.tuple #[.pointer none,.bool false]) wx:=fun _=>by kernel_rfl
  have ha2:∀ wx,(Instr.typeAssert (.iface 281 (.pointer (some ⟨b,0,none⟩))) 72 230 true).run prog wx=.ok (.tuple #[.pointer none,.bool false]) wx:=fun _=>by kernel_rfl
  have YB:∀ wx,(Instr.typeAssert (.iface 281 (.pointer (some ⟨b,0,none⟩))) 72 232 true).run prog wx=.ok (.tuple #[.pointer none,.bool false]) wx:=fun _=>by kernel_rfl
  have ha4:∀ wx,(Instr.typeAssert (.iface 281 (.pointer (some ⟨b,0,none⟩))) 72 234 true).run prog wx=.ok (.tuple #[.pointer none,.bool false]) wx:=fun _=>by kernel_rfl
  have ha5:∀ wx,(Instr.typeAssert (.iface 281 (.pointer (some ⟨b,0,none⟩))) 72 238 true).run prog wx=.ok (.tuple #[.pointer none,.bool false]) wx:=fun _=>by kernel_rfl
  have ha6:∀ wx,(Instr.typeAssert (.iface 281 (.pointer (some ⟨b,0,none⟩))) 72 243 true).run prog wx=.ok (.tuple #[.pointer none,.bool false]) wx:=fun _=>by kernel_rfl
  have ha7:∀ wx,(Instr.typeAssert (.iface 281 (.pointer (some ⟨b,0,none⟩))) 72 250 true).run prog wx=.ok (.tuple #[.pointer none,.bool false]) wx:=fun _=>by kernel_rfl
  have ha8:∀ wx,(Instr.typeAssert (.iface 281 (.pointer (some ⟨b,0,none⟩))) 72 254 true).run prog wx=.ok (.tuple #[.pointer none,.bool false]) wx:=fun _=>by kernel_rfl
  clear hS hM hL h hz1 hz2 hb;go_enter func65,ntmps65;go_wp2_with fail
  refine(HA.o).mono ?_;rintro e w2 ⟨rfl,H2⟩;go_wp2_with fail
  go_end0;refine⟨rfl,?_⟩;rw[HR.o];exact H2.o
theorem Jm:EC β k T lo hi pb .missing:=by
 intro w0 w Oe kb f ns c u hS hE hM hL hz1 hz2;cases hE with
 | missing b hb h =>
  have HA:=au (jU (.iface 258 (.agg #[])) .stk hM (ay _ w) ⟨_,_,rfl⟩ (fun O _=>.stk) (by omega));have HR:Hid (comp k f ns c.length .missing=[.stk]):=by show _=_;rw[comp]
  have ha0:∀ wx,(Instr.typeAssert (.iface 269 (.pointer (some ⟨b,0,none⟩))) 72 223 true).run prog wx=.ok (.tuple #[.pointer none,.bool false]) wx:=fun _=>by kernel_rfl
  have ha1:∀ wx,(Instr.typeAssert (.iface 269 (.pointer (some ⟨b,0,none⟩))) 72 228 true).run prog wx=.ok (.tuple #[.pointer none,.bool false]) wx:=fun _=>by kernel_rfl
  have ha2:∀ wx,(Instr.typeAssert (.iface 269 (.pointer (some ⟨b,0,none⟩))) 72 230 true).run prog wx=.ok (.tuple #[.pointer none,.bool false]) wx:=fun _=>by kernel_rfl
  have YB:∀ wx,(Instr.typeAssert (.iface 269 (.pointer (some ⟨b,0,none⟩))) 72 232 true).run prog wx=.ok (.tuple #[.pointer none,.bool false]) wx:=fun _=>by kernel_rfl
  have ha4:∀ wx,(Instr.typeAssert (.iface 269 (.pointer (some ⟨b,0,none⟩))) 72 234 true).run prog wx=.ok (.tuple #[.pointer none,.bool false]) wx:=fun _=>by kernel_rfl
  have ha5:∀ wx,(Instr.typeAssert (.iface 269 (.pointer (some ⟨b,0,none⟩))) 72 238 true).run prog wx=.ok (.tuple #[.pointer none,.bool false]) wx:=fun _=>by kernel_rfl
  have ha6:∀ wx,(Instr.typeAssert (.iface 269 (.pointer (some ⟨b,0,none⟩))) 72 243 true).run prog wx=.ok (.tuple #[.pointer none,.bool false]) wx:=fun _=>by kernel_rfl
  have ha7:∀ wx,(Instr.typeAssert (.iface 269 (.pointer (some ⟨b,0,none⟩))) 72 250 true).run prog wx=.ok (.tuple #[.pointer none,.bool false]) wx:=fun _=>by kernel_rfl
  have ha8:∀ wx,(Instr.typeAssert (.iface 269 (.pointer (some ⟨b,0,none⟩))) 72 254 true).run prog wx=.ok (.tuple #[.pointer none,.bool false]) wx:=fun _=>by kernel_rfl
  clear hS hM hL h hz1 hz2 hb;go_enter func65,ntmps65;go_wp2_with fail
  refine(HA.o).mono ?_;rintro e w2 ⟨rfl,H2⟩;go_wp2_with fail
  go_end0;refine⟨rfl,?_⟩;rw[HR.o];exact H2.o
end
end
section
open E (St Kn comp comps rq sM jk jO fU kU jT)
variable{β:Nat}
section
variable{k:Kn}{T:Int × Int→Nat}{lo hi pb:Nat}
theorem jB(c:List (Option St))(l:List St):(c++l.map some).length=c.length+l.length:=by simp
theorem YC:∀ e:Ex,1≤jk e:=fun e=>bS (jT ⟨fun _=>none,fun _=>none,fun _=>0,fun _=>[]⟩ 0 e [] 0) (fU _ 0 e [] 0)
theorem yZ:∀ l:List Ex,l.length≤jO l
 | []=>by simp[jO]
 | e::l=>by have:=yZ l;have:=YC e;rw[jO];simp;omega
theorem Qw(e:Ex)(h1:EC β k T lo hi pb e):EC β k T lo hi pb (.group e):=by
 intro w0 w Oe kb f ns c u hS hE hM hL hz1 hz2;rw[qL] at hL;rw[jk] at hz1 hz2;cases hE with
 | group b v _ hb h g1 =>
  have c3:=ai w _ 3 _ _ _ (hM.get h);have HX:=au (h1 w0 w Oe kb f ns c v hS g1 hM hL hz1 hz2);obtain⟨ty,vb,rfl⟩:=g1.iface;have HR:Hid (comp k f ns c.length (.group e)=comp k f ns c.length e):=by show _=_;rw[comp]
  have ha0:∀ wx,(Instr.typeAssert (.iface 254 (.pointer (some ⟨b,0,none⟩))) 72 223 true).run prog wx=.ok (.tuple #[.pointer none,.bool false]) wx:=fun _=>by kernel_rfl
  have ha1:∀ wx,(Instr.typeAssert (.iface 254 (.pointer (some ⟨b,0,none⟩))) 72 228 true).run prog wx=.ok (.tuple #[.pointer none,.bool false]) wx:=fun _=>by kernel_rfl
  have ha2:∀ wx,(Instr.typeAssert (.iface 254 (.pointer (some ⟨b,0,none⟩))) 72 230 true).run prog wx=.ok (.tuple #[.pointer none,.bool false]) wx:=fun _=>by kernel_rfl
  have YB:∀ wx,(Instr.typeAssert (.iface 254 (.pointer (some ⟨b,0,none⟩))) 72 232 true).run prog wx=.ok (.tuple #[.pointer none,.bool false]) wx:=fun _=>by kernel_rfl
  have ha4:∀ wx,(Instr.typeAssert (.iface 254 (.pointer (some ⟨b,0,none⟩))) 72 234 true).run prog wx=.ok (.tuple #[.pointer none,.bool false]) wx:=fun _=>by kernel_rfl
  have ha5:∀ wx,(Instr.typeAssert (.iface 254 (.pointer (some ⟨b,0,none⟩))) 72 238 true).run prog wx=.ok (.tuple #[.pointer none,.bool false]) wx:=fun _=>by kernel_rfl
  have ha6:∀ wx,(Instr.typeAssert (.iface 254 (.pointer (some ⟨b,0,none⟩))) 72 243 true).run prog wx=.ok (.tuple #[.pointer none,.bool false]) wx:=fun _=>by kernel_rfl
  have ha7:∀ wx,(Instr.typeAssert (.iface 254 (.pointer (some ⟨b,0,none⟩))) 72 250 true).run prog wx=.ok (.tuple #[.pointer none,.bool false]) wx:=fun _=>by kernel_rfl
  have ha8:∀ wx,(Instr.typeAssert (.iface 254 (.pointer (some ⟨b,0,none⟩))) 72 254 true).run prog wx=.ok (.tuple #[.pointer (some ⟨b,0,none⟩),.bool true]) wx:=fun _=>by kernel_rfl
  clear hS hM hL h hz1 hz2 hb g1;go_enter func65,ntmps65;go_wp2_with fail
  refine(HX.o).mono ?_;rintro e w2 ⟨rfl,H2⟩;go_wp2_with fail
  go_end0;refine⟨rfl,?_⟩;rw[HR.o];exact H2.o
theorem YD(l:Ex)(x:ah)(r:Ex)(h1:EC β k T lo hi pb l)(h2:EC β k T lo hi pb r):EC β k T lo hi pb (.bin l x r):=by
 intro w0 w Oe kb f ns c u hS hE hM hL hz1 hz2;rw[qL] at hL;rw[jk] at hz1 hz2;cases hE with
 | bin b v1 v2 _ _ _ hb h g1 g2 =>
  have c3:=ai w _ 3 _ _ _ (hM.get h);have HX:=au (h1 w0 w Oe kb f ns c v1 hS g1 hM hL.1 (by omega) (by omega));have hcl:=fU k f l ns c.length;have HY:Hid (∀ w1,oF β w0 w1 Oe T kb pb f ns (c++(comp k f ns c.length l).map some)→_):=fun w1 hM1=>h2 w0 w1 Oe kb f ns _ v2 hS g2 hM1 hL.2 (by rw[jB];omega) (by omega)
  have HZ:Hid (∀ w1,oF β w0 w1 Oe T kb pb f ns ((c++(comp k f ns c.length l).map some)++(comp k f ns (c++(comp k f ns c.length l).map some).length r).map some)→_):=fun w1 hM1=>jU (.iface 242 (.agg #[.string (ba x)])) (.DL x) hM1 (ay _ w1) ⟨_,_,rfl⟩ (fun O _=>.DL x) (by
   rw[jB,jB];have h3:=fU k f r ns (c.length+(comp k f ns c.length l).length);omega)
  have HH:=au h;obtain⟨ty1,vb1,rfl⟩:=g1.iface;obtain⟨UO,vb2,rfl⟩:=g2.iface;have HR:Hid (comp k f ns c.length (.bin l x r)=comp k f ns c.length l++(comp k f ns (c.length+(comp k f ns c.length l).length) r++[.DL x])):=by show _=_;rw[comp]
  have ha0:∀ wx,(Instr.typeAssert (.iface 238 (.pointer (some ⟨b,0,none⟩))) 72 223 true).run prog wx=.ok (.tuple #[.pointer none,.bool false]) wx:=fun _=>by kernel_rfl
  have ha1:∀ wx,(Instr.typeAssert (.iface 238 (.pointer (some ⟨b,0,none⟩))) 72 228 true).run prog wx=.ok (.tuple #[.pointer none,.bool false]) wx:=fun _=>by kernel_rfl
  have ha2:∀ wx,(Instr.typeAssert (.iface 238 (.pointer (some ⟨b,0,none⟩))) 72 230 true).run prog wx=.ok (.tuple #[.pointer none,.bool false]) wx:=fun _=>by kernel_rfl
  have YB:∀ wx,(Instr.typeAssert (.iface 238 (.pointer (some ⟨b,0,none⟩))) 72 232 true).run prog wx=.ok (.tuple #[.pointer none,.bool false]) wx:=fun _=>by kernel_rfl
  have ha4:∀ wx,(Instr.typeAssert (.iface 238 (.pointer (some ⟨b,0,none⟩))) 72 234 true).run prog wx=.ok (.tuple #[.pointer none,.bool false]) wx:=fun _=>by kernel_rfl
  have ha5:∀ wx,(Instr.typeAssert (.iface 238 (.pointer (some ⟨b,0,none⟩))) 72 238 true).run prog wx=.ok (.tuple #[.pointer (some ⟨b,0,none⟩),.bool true]) wx:=fun _=>by kernel_rfl
  clear hS hM hL h hz1 hz2 hb g1 g2 hcl;go_enter func65,ntmps65;go_wp2_with fail
  refine(HX.o).mono ?_;rintro e w2 ⟨rfl,H2⟩;have d5:=ai w2 _ 5 _ _ _ ((H2.o).get HH.o);clear c3;go_wp2_with fail
  refine((HY.o) w2 H2.o).mono ?_;rintro e w3 ⟨rfl,H3⟩;have d4:=ai w3 _ 4 _ _ _ ((H3.o).get HH.o);clear d5;go_wp2_with fail
  refine((HZ.o) w3 H3.o).mono ?_;rintro e w4 ⟨rfl,H4⟩;clear d4;go_wp2_with fail
  go_end0;refine⟨rfl,?_⟩;rw[HR.o];have h4:=H4.o;rw[jB] at h4;show oF β _ _ _ _ _ _ _ _ _
  simpa using h4
theorem U7(l:List Ex)(h1:AC β k T lo hi pb l):EC β k T lo hi pb (.list l):=by
 intro w0 w Oe kb f ns c u hS hE hM hL hz1 hz2;rw[qL] at hL;rw[jk] at hz1 hz2;cases hE with
 | list b ao cap vs _ hb h hc hr hp =>
  have c3:=ai w _ 3 _ _ _ (hM.get h);have HX:=au (h1 w0 w Oe kb f ns c ao cap vs hS hc hr hp hM hL (by omega) (by omega));have hcl:=kU k f l ns c.length;have hll:=yZ l;have HZ:Hid (∀ w1,oF β w0 w1 Oe T kb pb f ns (c++(comps k f ns c.length l).map some)→_):=fun w1 hM1=>jU (.iface 253 (.agg #[.int .i64 l.length])) (.EK l.length) hM1 (ay _ w1) ⟨_,_,rfl⟩ (fun O _=>.EK _ (by omega)) (by rw[jB];omega)
  have HH:=au h;have HR:Hid (comp k f ns c.length (.list l)=comps k f ns c.length l++[.EK l.length]):=by show _=_;rw[comp]
  obtain⟨hc1,hc2⟩:=hc;unfold maxLen at hc2;generalize hn:l.length=n at *;have hnb:n≤1073741824:=by omega
  have ha0:∀ wx,(Instr.typeAssert (.iface 250 (.pointer (some ⟨b,0,none⟩))) 72 223 true).run prog wx=.ok (.tuple #[.pointer none,.bool false]) wx:=fun _=>by kernel_rfl
  have ha1:∀ wx,(Instr.typeAssert (.iface 250 (.pointer (some ⟨b,0,none⟩))) 72 228 true).run prog wx=.ok (.tuple #[.pointer none,.bool false]) wx:=fun _=>by kernel_rfl
  have ha2:∀ wx,(Instr.typeAssert (.iface 250 (.pointer (some ⟨b,0,none⟩))) 72 230 true).run prog wx=.ok (.tuple #[.pointer none,.bool false]) wx:=fun _=>by kernel_rfl
  have YB:∀ wx,(Instr.typeAssert (.iface 250 (.pointer (some ⟨b,0,none⟩))) 72 232 true).run prog wx=.ok (.tuple #[.pointer none,.bool false]) wx:=fun _=>by kernel_rfl
  have ha4:∀ wx,(Instr.typeAssert (.iface 250 (.pointer (some ⟨b,0,none⟩))) 72 234 true).run prog wx=.ok (.tuple #[.pointer none,.bool false]) wx:=fun _=>by kernel_rfl
  have ha5:∀ wx,(Instr.typeAssert (.iface 250 (.pointer (some ⟨b,0,none⟩))) 72 238 true).run prog wx=.ok (.tuple #[.pointer none,.bool false]) wx:=fun _=>by kernel_rfl
  have ha6:∀ wx,(Instr.typeAssert (.iface 250 (.pointer (some ⟨b,0,none⟩))) 72 243 true).run prog wx=.ok (.tuple #[.pointer none,.bool false]) wx:=fun _=>by kernel_rfl
  have ha7:∀ wx,(Instr.typeAssert (.iface 250 (.pointer (some ⟨b,0,none⟩))) 72 250 true).run prog wx=.ok (.tuple #[.pointer (some ⟨b,0,none⟩),.bool true]) wx:=fun _=>by kernel_rfl
  clear hS hM hL h hz1 hz2 hb hr hp hcl hll hn;go_enter func65,ntmps65;go_wp2_with fail
  refine(HX.o).mono ?_;rintro e w2 ⟨rfl,H2⟩;have d3:=ai w2 _ 3 _ _ _ ((H2.o).get HH.o);clear c3;go_wp2_with fail
  refine((HZ.o) w2 H2.o).mono ?_;rintro e w4 ⟨rfl,H4⟩;clear d3;go_wp2_with fail
  go_end0;refine⟨rfl,?_⟩;rw[HR.o];have h4:=H4.o;show oF β _ _ _ _ _ _ _ _ _
  simpa using h4
theorem U8(g:Ex)(l:List Ex)(h0:EC β k T lo hi pb g)(h1:AC β k T lo hi pb l):EC β k T lo hi pb (.call g l):=by
 intro w0 w Oe kb f ns c u hS hE hM hL hz1 hz2;rw[qL] at hL;rw[jk] at hz1 hz2;cases hE with
 | call b v _ ao cap vs _ hb h hc g1 hr hp =>
  have c3:=ai w _ 3 _ _ _ (hM.get h);have HX:=au (h0 w0 w Oe kb f ns c v hS g1 hM hL.1 (by omega) (by omega));have hcl:=fU k f g ns c.length;have hll:=yZ l;have HY:Hid (∀ w1,oF β w0 w1 Oe T kb pb f ns (c++(comp k f ns c.length g).map some)→_):=fun w1 hM1=>h1 w0 w1 Oe kb f ns _ ao cap vs hS hc hr hp hM1 hL.2 (by rw[jB];omega) (by omega)
  have HZ:Hid (∀ w1,oF β w0 w1 Oe T kb pb f ns ((c++(comp k f ns c.length g).map some)++(comps k f ns (c++(comp k f ns c.length g).map some).length l).map some)→_):=fun w1 hM1=>jU (.iface 249 (.agg #[.int .i64 l.length])) (.DR l.length) hM1 (ay _ w1) ⟨_,_,rfl⟩ (fun O _=>.DR _ (by omega)) (by
   rw[jB,jB];have h3:=kU k f l ns (c.length+(comp k f ns c.length g).length);omega)
  have HH:=au h;have HR:Hid (comp k f ns c.length (.call g l)=comp k f ns c.length g++(comps k f ns (c.length+(comp k f ns c.length g).length) l++[.DR l.length])):=by show _=_;rw[comp]
  obtain⟨ty1,vb1,rfl⟩:=g1.iface;obtain⟨hc1,hc2⟩:=hc;unfold maxLen at hc2;generalize hn:l.length=n at *;have hnb:n≤1073741824:=by omega
  have ha0:∀ wx,(Instr.typeAssert (.iface 243 (.pointer (some ⟨b,0,none⟩))) 72 223 true).run prog wx=.ok (.tuple #[.pointer none,.bool false]) wx:=fun _=>by kernel_rfl
  have ha1:∀ wx,(Instr.typeAssert (.iface 243 (.pointer (some ⟨b,0,none⟩))) 72 228 true).run prog wx=.ok (.tuple #[.pointer none,.bool false]) wx:=fun _=>by kernel_rfl
  have ha2:∀ wx,(Instr.typeAssert (.iface 243 (.pointer (some ⟨b,0,none⟩))) 72 230 true).run prog wx=.ok (.tuple #[.pointer none,.bool false]) wx:=fun _=>by kernel_rfl
  have YB:∀ wx,(Instr.typeAssert (.iface 243 (.pointer (some ⟨b,0,none⟩))) 72 232 true).run prog wx=.ok (.tuple #[.pointer none,.bool false]) wx:=fun _=>by kernel_rfl
  have ha4:∀ wx,(Instr.typeAssert (.iface 243 (.pointer (some ⟨b,0,none⟩))) 72 234 true).run prog wx=.ok (.tuple #[.pointer none,.bool false]) wx:=fun _=>by kernel_rfl
  have ha5:∀ wx,(Instr.typeAssert (.iface 243 (.pointer (some ⟨b,0,none⟩))) 72 238 true).run prog wx=.ok (.tuple #[.pointer none,.bool false]) wx:=fun _=>by kernel_rfl
  have ha6:∀ wx,(Instr.typeAssert (.iface 243 (.pointer (some ⟨b,0,none⟩))) 72 243 true).run prog wx=.ok (.tuple #[.pointer (some ⟨b,0,none⟩),.bool true]) wx:=fun _=>by kernel_rfl
  clear hS hM hL h hz1 hz2 hb hr hp hcl hll hn g1;go_enter func65,ntmps65;go_wp2_with fail
  refine(HX.o).mono ?_;rintro e w2 ⟨rfl,H2⟩;have d4:=ai w2 _ 4 _ _ _ ((H2.o).get HH.o);clear c3;go_wp2_with fail
  refine((HY.o) w2 H2.o).mono ?_;rintro e w3 ⟨rfl,H3⟩;have d5:=ai w3 _ 4 _ _ _ ((H3.o).get HH.o);clear d4;go_wp2_with fail
  refine((HZ.o) w3 H3.o).mono ?_;rintro e w4 ⟨rfl,H4⟩;clear d5;go_wp2_with fail
  go_end0;refine⟨rfl,?_⟩;rw[HR.o];have h4:=H4.o;rw[jB] at h4;show oF β _ _ _ _ _ _ _ _ _
  simpa using h4
theorem Cq(k:Kn)(f:Nat)(ns:List (List Nm)):∀(a b:List Ex) (o:Nat),comps k f ns o (a++b)=comps k f ns o a++comps k f ns (o+(comps k f ns o a).length) b
 | [],b,o=>by simp[comps]
 | e::a,b,o=>by
  rw[dx,comps,comps,Cq k f ns a b];simp[fw]
theorem FV:∀ {l:List Ex} {i:Nat} {e:Ex},xB l→l[i]?=some e→qL e
 | [],_,_,_,h=>by cases h
 | a::l,0,e,h,hg=>by cases hg;exact h.1
 | a::l,i+1,e,h,hg=>FV (l:=l) h.2 (by simpa using hg)
theorem Ct:∀(l:List Ex) (i:Nat) (e:Ex),l[i]?=some e→jO (l.take i)+jk e≤jO l
 | [],_,_,h=>by cases h
 | a::l,0,e,h=>by cases h;simp[jO]
 | a::l,i+1,e,h=>by
  have:=Ct l i e (by simpa using h);rw[List.take_succ_cons,jO,jO];omega
theorem FW(l:List Ex)(hv:∀ e,e∈l→EC β k T lo hi pb e):AC β k T lo hi pb l:=by
 intro w0 w Oe kb f ns c ao cap vs hS hc hr hp hM hL hz1 hz2;have HV:=au hv;have HS:=au hS;have HR:=au hr;have HP:=au hp;have HM:=au hM;have HL:=au hL;have HZ:Hid (c.length+jO l≤1073741819∧ns.length+jO l≤1073741824):=⟨hz1,hz2⟩;obtain⟨hc1,hc2⟩:=hc;unfold maxLen at hc2;have hll:=yZ l;generalize hn:l.length=n at *;have hnb:n≤1073741824:=by omega
 have HN:=au hn;clear hv hS hr hp hM hL hz1 hz2 hn hll;go_enter func98,ntmps98;go_wp2_with fail
 go_loopw [8] (fun iv wr=>∃ i:Nat,iv=.int .i64 i∧i≤n∧Hid (oF β w0 wr Oe T kb pb f ns (c++(comps k f ns c.length (l.take i)).map some))) (fun iv _=>n - (intOf iv).toNat)
 case atStart=>exact⟨0,rfl,aX _,by show oF β _ _ _ _ _ _ _ _ _;have:=HM.o;simpa [comps] using this⟩
 case round =>
  obtain⟨i,rfl,hi,H2⟩:=hrel;clear HM;by_cases hlt:i<n
  case pos =>
   have i1:decide (i<n)=true:=by simp;omega
   have i2:decide ((i:Int)<(n:Int))=true:=by simp;omega
   have j0:(0:Int)≤(i:Int):=bU _;have j1:(i:Int)<(n:Int):=by omega
   have hlen:=HN.o;have hgv:l[i]?=some (l[i]'(by omega)):=aC (by omega);have htk:l.take (i+1)=l.take i++[l[i]'(by omega)]:=jZ (by omega);generalize l[i]'(by omega)=e at hgv htk;obtain⟨g,rfl,g1,g2,g3,gc,gf,g4⟩:=(HR.o) i (by omega);have hcell:wr.cell? ⟨g,i,none⟩=some (vs i):=(aN (a:=⟨g,i,none⟩) ((H2.o).lJ.block g (aP g4))).trans g3;have hE:=(HP.o) i e hgv;have hz:=HZ.o;have ht:=Ct l i e hgv;have hcl:=kU k f (l.take i) ns c.length;have HX:=au ((HV.o) e (dh hgv) w0 wr Oe kb f ns _ (vs i) HS.o hE H2.o (FV HL.o hgv) (by rw[jB];omega) (by omega));obtain⟨ty,vb,hu⟩:=hE.iface;rw[hu] at hcell HX;have HT:Hid (comps k f ns c.length (l.take (i+1))=comps k f ns c.length (l.take i)++comp k f ns (c.length+(comps k f ns c.length (l.take i)).length) e):=by
    show _=_;rw[htk,Cq,comps,comps,aJ]
   clear hgv htk g1 g2 g3 g4 hE hz ht hcl hlen;go_wp2_with fail
   refine(HX.o).mono ?_;rintro en w3 ⟨rfl,H3⟩;clear hcell;go_wp2_with fail
   refine⟨⟨i+1,by simp,by omega,?_⟩,by simp[intOf];omega⟩;rw[HT.o];have h3:=H3.o;rw[jB] at h3;show oF β _ _ _ _ _ _ _ _ _
   simpa using h3
  case neg =>
   have i1:decide (i<n)=false:=by simp;omega
   have i2:decide ((i:Int)<(n:Int))=false:=by simp;omega
   have HT:Hid (l.take i=l):=lY (by have:=HN.o;omega);go_wp2_with fail
   go_end0;refine⟨rfl,?_⟩;have h3:=H2.o;rw[HT.o] at h3;exact h3
end
end
section
open E (St Kn comp comps rq sM jk jO mM)
variable{β:Nat}
theorem YE(w:World):(zeroValue 57).run prog w=.ok (.agg #[.int .i64 0,.int .i64 0]) w:=by kernel_rfl
theorem Jp(w:World):(zeroValue 76).run prog w=.ok (.agg #[.pointer none,.pointer none]) w:=by kernel_rfl
section
variable{k:Kn}{T:Int × Int→Nat}{lo hi pb:Nat}{w0 w w':World}{Oe:Nat→Prop}{kb f:Nat}{ns:List (List Nm)}{c:List (Option St)}
def bB5(β:Nat)(T:Int × Int→Nat)(w:World)(s:St)(e:Ending)(w':World):Prop:=∃ ty y,e=.returned (.iface ty y)∧Below w.heap.size w w'∧∀ O,(∀ q,O q→q<w.heap.size)→jP β w' O T (.iface ty y) s
theorem YF{ns:List (List Nm)}{a:Int}:(Aa ns a).1≤ns.length:=by
 unfold Aa;cases h:mM ns a with
 | none=>exact aX _
 | some p =>
  obtain⟨b,h1,-⟩:=E.zT (u:=p.1) (i:=p.2) h;rcases bE p.1 ns.length with g|g
  ·exact Nat.le_of_lt g
  ·rw[aO g] at h1;cases h1
theorem Ei(b:Nat)(nm:Nm){m n:Int}{z:Bool}(hS0:TM β k T hi pb w0)(hM:oF β w0 w Oe T kb pb f ns c)(hb:w.heap[b]?=some (.cells #[.int .i64 m,.int .i64 n,.bool z,.string (ba nm.1),.int .i64 nm.2] 280 (0,0))) :
  Calls prog 95 #[.pointer (some ⟨kb,0,none⟩),.pointer (some ⟨b,0,none⟩)] w fun e w'=>Hid (bB5 β T w (sM k f ns nm) e w'):=by
 obtain⟨sb,db,n1,n2,iv,gd,p1,p2,p3,p4,p5⟩:=(hS0.below (Below.trans (ay _ _) (ay _ _)) |>.pr.below hM.lJ).ex;obtain⟨nv,sv,cs,hM⟩:=hM;obtain⟨c0,c1,c2,-⟩:=hM.cell;have c4:=ai w _ 4 _ _ _ hb;have d0:=ai w _ 0 _ _ _ p1;have d2:=ai w _ 2 _ _ _ p1;have hlk:=aP hM.blk;have hlb:=aP hb;have hlp:=aP p1;have HF:=au (fun wx (hx:Below w.heap.size w wx) (a:Int)=>MS nv ns a (hM.nss.grown hx) hM.nl);have hnl:=hM.nl;obtain⟨pn,rfl⟩:=hM.nss.ptr;have P2:=au p2;have P3:=au p3;have P4:=au p4;have P5:=au p5;have HG:Hid (∀ wx,Below w.heap.size w wx→((wx.cell? ⟨kb,0,none⟩=some (.pointer (some ⟨pb,0,none⟩))∧wx.cell? ⟨kb,1,none⟩=some (.int .i64 f)∧wx.cell? ⟨pb,0,none⟩=some (.map (some sb))∧wx.cell? ⟨b,4,none⟩=some (.int .i64 nm.2))∧Mq wx sb n1 (fun p=>(k.sd p).map sV))):=fun wx hx=>⟨⟨(aN (a:=⟨kb,0,none⟩) (hx.block kb hlk)).trans c0,(aN (a:=⟨kb,1,none⟩) (hx.block kb hlk)).trans c1,(aN (a:=⟨pb,0,none⟩) (hx.block pb hlp)).trans d0,(aN (a:=⟨b,4,none⟩) (hx.block b hlb)).trans c4⟩,(P2.o).below hx⟩
 have HC:Hid (w.cell? ⟨kb,0,none⟩=some (.pointer (some ⟨pb,0,none⟩))∧w.cell? ⟨pb,2,none⟩=some (.map (some db))∧w.cell? ⟨kb,2,none⟩=some (.pointer pn)):=⟨c0,d2,c2⟩;have Od:Hid (kb<w.heap.size∧pb<w.heap.size):=⟨hlk,hlp⟩;have hL1:Hid (∀ wx,Mq wx sb n1 (fun p=>(k.sd p).map sV)→(Instr.lookup 49 (.map (some sb)) (.agg #[.int .i64 f,.int .i64 nm.2]) true).run prog wx=.ok (.tuple #[((k.sd (f,nm.2)).map sV).getD (.agg #[.int .i64 0,.int .i64 0]),.bool ((k.sd (f,nm.2)).map sV).isSome]) wx):=fun wx hx=>hx.look underlying49 (YE wx) (f,nm.2) true
 have hL2:Hid (∀(tp:Int × Int) wx,Mq wx db n2 gd→(Instr.lookup 50 (.map (some db)) (.agg #[.int .i64 tp.1,.int .i64 tp.2]) true).run prog wx=.ok (.tuple #[(gd tp).getD (.agg #[.pointer none,.pointer none]),.bool (gd tp).isSome]) wx):=fun tp wx hx=>hx.look underlying50 (Jp wx) tp true
 have hS1:=(HG.o) w.drew (ay _ w).drew;clear hM hb p1 p2 p3 p4 p5 c0 c1 c2 c4 d0 d2 hlb hS0;cases hsd:k.sd (f,nm.2) with
 | none =>
  have HV:Hid (sM k f ns nm=.stk):=by show _=_;unfold sM;rw[hsd]
  rw[hsd] at hL1;dsimp only [Option.map_none,Option.getD_none,Option.isSome_none] at hL1;clear hsd hlk hlp hL2;go_enter func95,ntmps95;go_wp2_with fail
  refine bH (S:=fun w'=>(w'.cell? ⟨kb,0,none⟩=some (.pointer (some ⟨pb,0,none⟩))∧w'.cell? ⟨kb,1,none⟩=some (.int .i64 f)∧w'.cell? ⟨pb,0,none⟩=some (.map (some sb))∧w'.cell? ⟨b,4,none⟩=some (.int .i64 nm.2))∧Mq w' sb n1 (fun p=>(k.sd p).map sV)) (z:=24) (by kernel_rfl) ?_;have hS:(w.drew.cell? ⟨kb,0,none⟩=some (.pointer (some ⟨pb,0,none⟩))∧w.drew.cell? ⟨kb,1,none⟩=some (.int .i64 f)∧w.drew.cell? ⟨pb,0,none⟩=some (.map (some sb))∧w.drew.cell? ⟨b,4,none⟩=some (.int .i64 nm.2))∧Mq w.drew sb n1 (fun p=>(k.sd p).map sV):=hS1;clear hS1;iterate 17(refine ou hS ?_;simp only[Act.put,ax,aD,aF])
  refine rC (v:=?_) rfl rfl (by kernel_rfl) (by decide) (by kernel_rfl) (by kernel_rfl) (fun _ _ _ h=>h) (Or.inl ⟨by rfl,?_⟩) hS ?_;rotate_left;(· (intro wx hSw;have hlk:=(hL1.o) wx (hSw.2);(try dsimp only at hSw);go_simp;try(with_reducible rfl)));simp only[Act.put,List.setIfInBounds_toArray,List.set_cons_zero,List.set_cons_succ];iterate 3(refine ou hS ?_;simp only[Act.put,List.setIfInBounds_toArray,List.set_cons_zero,List.set_cons_succ])
  refine bD 21 fun K hK=>?_;go_simp;refine hK.o _ _ (fun _=>(HG.o) _ (by repeat(first|exact ay _ _|apply gW|refine fA (p:=⟨_,_,none⟩) ?_ (by simp) _|refine fZ ?_ (by simp) _))) (fun hS2=>?_);clear hK K hS;have hS:=hS2 (by decide);clear hS2;refine bD 22 fun K hK=>?_;go_simp;refine hK.o _ _ (fun _=>(HG.o) _ (by repeat(first|exact ay _ _|apply gW|refine fA (p:=⟨_,_,none⟩) ?_ (by simp) _|refine fZ ?_ (by simp) _))) (fun hS2=>?_);clear hK K hS;have hS:=hS2 (by decide);clear hS2;refine bD 23 fun K hK=>?_;go_simp;refine hK.o _ _ (fun _=>hS) (fun hS2=>?_);clear hK K hS hS2;refine fB ?_;go_wp2_with fail
  go_ret;exact⟨_,_,rfl,by repeat(first|exact ay _ _|apply gW|refine fA (p:=⟨_,_,none⟩) ?_ (by simp) _|refine fZ ?_ (by simp) _),fun O _=>by rw[HV.o];exact .stk⟩
 | some tp =>
  rw[hsd] at hL1;dsimp only [Option.map_some,Option.getD_some,Option.isSome_some,sV] at hL1;clear hlk hlp;go_enter func95,ntmps95;go_wp2_with fail
  refine bH (S:=fun w'=>(w'.cell? ⟨kb,0,none⟩=some (.pointer (some ⟨pb,0,none⟩))∧w'.cell? ⟨kb,1,none⟩=some (.int .i64 f)∧w'.cell? ⟨pb,0,none⟩=some (.map (some sb))∧w'.cell? ⟨b,4,none⟩=some (.int .i64 nm.2))∧Mq w' sb n1 (fun p=>(k.sd p).map sV)) (z:=24) (by kernel_rfl) ?_;have hS:(w.drew.cell? ⟨kb,0,none⟩=some (.pointer (some ⟨pb,0,none⟩))∧w.drew.cell? ⟨kb,1,none⟩=some (.int .i64 f)∧w.drew.cell? ⟨pb,0,none⟩=some (.map (some sb))∧w.drew.cell? ⟨b,4,none⟩=some (.int .i64 nm.2))∧Mq w.drew sb n1 (fun p=>(k.sd p).map sV):=hS1;clear hS1;iterate 17(refine ou hS ?_;simp only[Act.put,ax,aD,aF])
  refine rC (v:=?_) rfl rfl (by kernel_rfl) (by decide) (by kernel_rfl) (by kernel_rfl) (fun _ _ _ h=>h) (Or.inl ⟨by rfl,?_⟩) hS ?_;rotate_left;(· (intro wx hSw;have hlk:=(hL1.o) wx (hSw.2);(try dsimp only at hSw);go_simp;try(with_reducible rfl)));simp only[Act.put,List.setIfInBounds_toArray,List.set_cons_zero,List.set_cons_succ];iterate 3(refine ou hS ?_;simp only[Act.put,List.setIfInBounds_toArray,List.set_cons_zero,List.set_cons_succ])
  refine bD 21 fun K hK=>?_;go_simp;refine hK.o _ _ (fun _=>(HG.o) _ (by repeat(first|exact ay _ _|apply gW|refine fA (p:=⟨_,_,none⟩) ?_ (by simp) _|refine fZ ?_ (by simp) _))) (fun hS2=>?_);clear hK K hS;have hS:=hS2 (by decide);clear hS2;refine bD 22 fun K hK=>?_;go_simp;refine hK.o _ _ (fun _=>(HG.o) _ (by repeat(first|exact ay _ _|apply gW|refine fA (p:=⟨_,_,none⟩) ?_ (by simp) _|refine fZ ?_ (by simp) _))) (fun hS2=>?_);clear hK K hS;have hS:=hS2 (by decide);clear hS2;refine bD 23 fun K hK=>?_;go_simp;refine hK.o _ _ (fun _=>hS) (fun hS2=>?_);clear hK K hS hS2;refine fB ?_;go_wp2_with fail
  have hb1:Below w.heap.size w ((w.alloc (.cells #[.int .i64 tp.1,.int .i64 tp.2] 57)).drew):=by repeat(first|exact ay _ _|apply gW|refine fA (p:=⟨_,_,none⟩) ?_ (by simp) _|refine fZ ?_ (by simp) _)
  have hn1:((w.alloc (.cells #[.int .i64 tp.1,.int .i64 tp.2] 57)).drew).heap[w.heap.size]?=some (.cells #[.int .i64 tp.1,.int .i64 tp.2] 57 (0,0)):=aB w _;generalize (w.alloc (.cells #[.int .i64 tp.1,.int .i64 tp.2] 57)).drew=W1 at *;generalize hg1:w.heap.size=g1 at hn1 hb1 ⊢;have HB1:Hid (Below w.heap.size w W1):=by rw[hg1];exact hb1
  have U9:=au hn1;have Un:=au hg1;have hlg:=aP hn1;have e0:=ai W1 _ 0 _ _ _ hn1;have e1:=ai W1 _ 1 _ _ _ hn1;have YG:kb<W1.heap.size:=aH (Od.o).1 (HB1.o).size;have aL3:pb<W1.heap.size:=aH (Od.o).2 (HB1.o).size;have q0:W1.cell? ⟨kb,0,none⟩=some (.pointer (some ⟨pb,0,none⟩)):=(aN (a:=⟨kb,0,none⟩) ((HB1.o).block kb (Od.o).1)).trans (HC.o).1;have q2:W1.cell? ⟨pb,2,none⟩=some (.map (some db)):=(aN (a:=⟨pb,2,none⟩) ((HB1.o).block pb (Od.o).2)).trans (HC.o).2.1;have q3:W1.cell? ⟨kb,2,none⟩=some (.pointer pn):=(aN (a:=⟨kb,2,none⟩) ((HB1.o).block kb (Od.o).1)).trans (HC.o).2.2;have hP3:Mq W1 db n2 gd:=(P3.o).below HB1.o;have HG2:Hid (∀ wx,Below W1.heap.size W1 wx→((wx.cell? ⟨kb,0,none⟩=some (.pointer (some ⟨pb,0,none⟩))∧wx.cell? ⟨pb,2,none⟩=some (.map (some db))∧wx.cell? ⟨g1,0,none⟩=some (.int .i64 tp.1)∧wx.cell? ⟨g1,1,none⟩=some (.int .i64 tp.2))∧Mq wx db n2 gd)):=fun wx hx=>⟨⟨(aN (a:=⟨kb,0,none⟩) (hx.block kb YG)).trans q0,(aN (a:=⟨pb,2,none⟩) (hx.block pb aL3)).trans q2,(aN (a:=⟨g1,0,none⟩) (hx.block g1 hlg)).trans e0,(aN (a:=⟨g1,1,none⟩) (hx.block g1 hlg)).trans e1⟩,hP3.below hx⟩
  have YH:Hid (∀ wx,Below W1.heap.size W1 wx→(wx.cell? ⟨kb,2,none⟩=some (.pointer pn)∧wx.cell? ⟨g1,1,none⟩=some (.int .i64 tp.2))):=fun wx hx=>⟨(aN (a:=⟨kb,2,none⟩) (hx.block kb YG)).trans q3,(aN (a:=⟨g1,1,none⟩) (hx.block g1 hlg)).trans e1⟩
  have hS1:=(HG2.o) W1.drew (ay _ W1).drew;have hL2':Hid (∀ wx,Mq wx db n2 gd→(Instr.lookup 50 (.map (some db)) (.agg #[.int .i64 tp.1,.int .i64 tp.2]) true).run prog wx=.ok (.tuple #[(gd tp).getD (.agg #[.pointer none,.pointer none]),.bool (gd tp).isSome]) wx):=(hL2.o) tp;clear hn1 hb1 hg1 hlg e0 e1 YG aL3 q0 q2 q3 hP3 hL2 hL1 HG;cases hdk:k.dk tp with
  | none =>
   have hgd:=(P4.o) tp hdk;rw[hgd] at hL2';dsimp only [Option.getD_none,Option.isSome_none] at hL2';have HV:Hid (sM k f ns nm=.loc (Aa ns tp.2).1 (Aa ns tp.2).2):=by
    show _=_;unfold sM Aa;rw[hsd];simp only[hdk];cases mM ns tp.2<;>rfl
   clear hsd hdk hgd P5;refine bH (S:=fun w'=>(w'.cell? ⟨kb,0,none⟩=some (.pointer (some ⟨pb,0,none⟩))∧w'.cell? ⟨pb,2,none⟩=some (.map (some db))∧w'.cell? ⟨g1,0,none⟩=some (.int .i64 tp.1)∧w'.cell? ⟨g1,1,none⟩=some (.int .i64 tp.2))∧Mq w' db n2 gd) (z:=15) (by kernel_rfl) ?_;have hS:(W1.drew.cell? ⟨kb,0,none⟩=some (.pointer (some ⟨pb,0,none⟩))∧W1.drew.cell? ⟨pb,2,none⟩=some (.map (some db))∧W1.drew.cell? ⟨g1,0,none⟩=some (.int .i64 tp.1)∧W1.drew.cell? ⟨g1,1,none⟩=some (.int .i64 tp.2))∧Mq W1.drew db n2 gd:=hS1;clear hS1;iterate 8(refine ou hS ?_;simp only[Act.put,ax,aD,aF])
   refine rC (v:=?_) rfl rfl (by kernel_rfl) (by decide) (by kernel_rfl) (by kernel_rfl) (fun _ _ _ h=>h) (Or.inl ⟨by rfl,?_⟩) hS ?_;rotate_left;(· (intro wx hSw;have hlk:=(hL2'.o) wx (hSw.2);(try dsimp only at hSw);go_simp;try(with_reducible rfl)));simp only[Act.put,List.setIfInBounds_toArray,List.set_cons_zero,List.set_cons_succ];iterate 3(refine ou hS ?_;simp only[Act.put,List.setIfInBounds_toArray,List.set_cons_zero,List.set_cons_succ])
   refine bD 12 fun K hK=>?_;go_simp;refine hK.o _ _ (fun _=>(HG2.o) _ (by repeat(first|exact ay _ _|apply gW|refine fA (p:=⟨_,_,none⟩) ?_ (by simp) _|refine fZ ?_ (by simp) _))) (fun hS2=>?_);clear hK K hS;have hS:=hS2 (by decide);clear hS2;refine bD 13 fun K hK=>?_;go_simp;refine hK.o _ _ (fun _=>(HG2.o) _ (by repeat(first|exact ay _ _|apply gW|refine fA (p:=⟨_,_,none⟩) ?_ (by simp) _|refine fZ ?_ (by simp) _))) (fun hS2=>?_);clear hK K hS;have hS:=hS2 (by decide);clear hS2;refine bD 14 fun K hK=>?_;go_simp;refine hK.o _ _ (fun _=>hS) (fun hS2=>?_);clear hK K hS hS2;refine fB ?_;go_wp2_with fail
   have hb2:Below W1.heap.size W1 ((W1.alloc (.cells #[.pointer none,.pointer none] 76)).drew):=by repeat(first|exact ay _ _|apply gW|refine fA (p:=⟨_,_,none⟩) ?_ (by simp) _|refine fZ ?_ (by simp) _)
   generalize (W1.alloc (.cells #[.pointer none,.pointer none] 76)).drew=W2 at *;have HB2:=au hb2;have hS1:=(YH.o) W2.drew hb2.drew;clear hb2;refine bH (S:=fun w'=>w'.cell? ⟨kb,2,none⟩=some (.pointer pn)∧w'.cell? ⟨g1,1,none⟩=some (.int .i64 tp.2)) (z:=9) (by kernel_rfl) ?_;have hS:W2.drew.cell? ⟨kb,2,none⟩=some (.pointer pn)∧W2.drew.cell? ⟨g1,1,none⟩=some (.int .i64 tp.2):=hS1;clear hS1;iterate 6(refine ou hS ?_;simp only[Act.put,ax,aD,aF])
   have HB3:Hid (Below w.heap.size w W2.drew):=((HB1.o).trans ((HB2.o).mono (HB1.o).size)).drew;have HFi:=au ((HF.o) W2.drew HB3.o tp.2);refine bD 6 fun K hK=>?_;go_simp;refine(HFi.o).mono ?_;rintro e w3 ⟨rfl,k1⟩;have I_:Hid (Below w.heap.size w w3):=(HB3.o).trans (k1.mono (HB3.o).size);have PY:=(YH.o) w3 ((HB2.o).drew.trans (k1.mono (HB2.o).drew.size));dsimp only;refine hK.o _ _ (fun _=>PY) (fun hS2=>?_);clear hK K hS hS2 k1 HFi;refine bD 7 fun K hK=>?_;go_simp;refine hK.o _ _ (fun _=>PY) (fun hS2=>?_);clear hK K hS2;refine bD 8 fun K hK=>?_;go_simp;refine hK.o _ _ (fun _=>PY) (fun hS2=>?_);clear hK K hS2;refine fB ?_;go_wp2_with fail
   go_ret;exact⟨_,_,rfl,I_.o,fun O _=>by rw[HV.o];exact .loc _ _ (bS YF hnl)⟩
  | some zz =>
   obtain⟨hT0,B,bc,bq,g2,g3,g4,g5⟩:=(P5.o) tp zz hdk;rw[g2] at hL2';dsimp only [Option.getD_some,Option.isSome_some] at hL2';have hlB:=aP g3;have HBq:Hid (∀ wx,Below w.heap.size w wx→wx.cell? ⟨B,3,none⟩=some (.pointer bq)):=fun wx hx=>(World.cell?_of_block (a:=⟨B,3,none⟩) (hx.block B hlB)).trans (by simp[World.cell?,g3,g4])
   have HV:Hid (sM k f ns nm=if zz then .Ih tp else .vis tp):=by
    show _=_;unfold sM;rw[hsd];simp only[hdk];cases zz<;>rfl
   have HT0:=au hT0;clear hsd hdk g2 g3 g4 hlB P4 P5 hT0;refine bH (S:=fun w'=>(w'.cell? ⟨kb,0,none⟩=some (.pointer (some ⟨pb,0,none⟩))∧w'.cell? ⟨pb,2,none⟩=some (.map (some db))∧w'.cell? ⟨g1,0,none⟩=some (.int .i64 tp.1)∧w'.cell? ⟨g1,1,none⟩=some (.int .i64 tp.2))∧Mq w' db n2 gd) (z:=15) (by kernel_rfl) ?_;have hS:(W1.drew.cell? ⟨kb,0,none⟩=some (.pointer (some ⟨pb,0,none⟩))∧W1.drew.cell? ⟨pb,2,none⟩=some (.map (some db))∧W1.drew.cell? ⟨g1,0,none⟩=some (.int .i64 tp.1)∧W1.drew.cell? ⟨g1,1,none⟩=some (.int .i64 tp.2))∧Mq W1.drew db n2 gd:=hS1;clear hS1;iterate 8(refine ou hS ?_;simp only[Act.put,ax,aD,aF])
   refine rC (v:=?_) rfl rfl (by kernel_rfl) (by decide) (by kernel_rfl) (by kernel_rfl) (fun _ _ _ h=>h) (Or.inl ⟨by rfl,?_⟩) hS ?_;rotate_left;(· (intro wx hSw;have hlk:=(hL2'.o) wx (hSw.2);(try dsimp only at hSw);go_simp;try(with_reducible rfl)));simp only[Act.put,List.setIfInBounds_toArray,List.set_cons_zero,List.set_cons_succ];iterate 3(refine ou hS ?_;simp only[Act.put,List.setIfInBounds_toArray,List.set_cons_zero,List.set_cons_succ])
   refine bD 12 fun K hK=>?_;go_simp;refine hK.o _ _ (fun _=>(HG2.o) _ (by repeat(first|exact ay _ _|apply gW|refine fA (p:=⟨_,_,none⟩) ?_ (by simp) _|refine fZ ?_ (by simp) _))) (fun hS2=>?_);clear hK K hS;have hS:=hS2 (by decide);clear hS2;refine bD 13 fun K hK=>?_;go_simp;refine hK.o _ _ (fun _=>(HG2.o) _ (by repeat(first|exact ay _ _|apply gW|refine fA (p:=⟨_,_,none⟩) ?_ (by simp) _|refine fZ ?_ (by simp) _))) (fun hS2=>?_);clear hK K hS;have hS:=hS2 (by decide);clear hS2;refine bD 14 fun K hK=>?_;go_simp;refine hK.o _ _ (fun _=>hS) (fun hS2=>?_);clear hK K hS hS2;refine fB ?_;have hb2:Below W1.heap.size W1 ((W1.alloc (.cells #[.pointer (some ⟨B,0,none⟩),.pointer (some ⟨T tp,0,none⟩)] 76)).drew):=by repeat(first|exact ay _ _|apply gW|refine fA (p:=⟨_,_,none⟩) ?_ (by simp) _|refine fZ ?_ (by simp) _)
   have hn2:((W1.alloc (.cells #[.pointer (some ⟨B,0,none⟩),.pointer (some ⟨T tp,0,none⟩)] 76)).drew).heap[W1.heap.size]?=some (.cells #[.pointer (some ⟨B,0,none⟩),.pointer (some ⟨T tp,0,none⟩)] 76 (0,0)):=aB W1 _;generalize (W1.alloc (.cells #[.pointer (some ⟨B,0,none⟩),.pointer (some ⟨T tp,0,none⟩)] 76)).drew=W2 at *;have HB2:Hid (Below w.heap.size w W2):=(HB1.o).trans (hb2.mono (HB1.o).size);have e0:=ai W2 _ 0 _ _ _ hn2;have e1:=ai W2 _ 1 _ _ _ hn2;have e3:=(HBq.o) W2 HB2.o;generalize W1.heap.size=g2 at *;clear hb2 hn2;cases bq with
   | none =>
    obtain rfl:zz=false:=g5.symm;go_wp2_with fail
    go_ret;exact⟨_,_,rfl,HB2.o,fun O _=>by rw[HV.o];exact .vis tp HT0.o⟩
   | some bq =>
    obtain rfl:zz=true:=g5.symm;go_wp2_with fail
    go_ret;refine⟨_,_,rfl,(HB2.o).trans ((bQ W2 _).mono (HB2.o).size),fun O ho=>?_⟩;rw[HV.o];exact .Ih tp _ (aB W2 _) (fun e=>absurd (ho _ e) (by have:=(HB2.o).size;omega)) HT0.o
theorem YI(nm:Nm):EC β k T lo hi pb (.var nm):=by
 intro w0 w Oe kb f ns c u hS hE hM hL hz1 hz2;cases hE with
 | var b _ hb h =>
  have HV:=au (Ei b nm hS hM (hM.get h));have HM:=au hM;have hcl:c.length<1073741823:=by omega
  have HR:Hid (comp k f ns c.length (.var nm)=[sM k f ns nm]):=by show _=_;rw[comp]
  have ha0:∀ wx,(Instr.typeAssert (.iface 228 (.pointer (some ⟨b,0,none⟩))) 72 223 true).run prog wx=.ok (.tuple #[.pointer none,.bool false]) wx:=fun _=>by kernel_rfl
  have ha1:∀ wx,(Instr.typeAssert (.iface 228 (.pointer (some ⟨b,0,none⟩))) 72 228 true).run prog wx=.ok (.tuple #[.pointer (some ⟨b,0,none⟩),.bool true]) wx:=fun _=>by kernel_rfl
  clear hS hM hL h hz1 hz2 hb;go_enter func65,ntmps65;go_wp2_with fail
  refine(HV.o).mono ?_;rintro e w1 H1;obtain⟨ty,y,rfl,k1,k2⟩:=H1.o;have HA:=au (jU (.iface ty y) (sM k f ns nm) HM.o k1 ⟨_,_,rfl⟩ k2 hcl);clear k1 k2 H1;go_wp2_with fail
  refine(HA.o).mono ?_;rintro e w2 ⟨rfl,H2⟩;go_wp2_with fail
  go_end0;refine⟨rfl,?_⟩;rw[HR.o];exact H2.o
end
end
section
open E (St Kn comp comps rq sM jk jO fU kU jT)
variable{cap n:Nat}{z:Bool}
variable{β:Nat}
section
variable{k:Kn}{T:Int × Int→Nat}{lo hi pb:Nat}{w0 w w':World}{Oe:Nat→Prop}{kb f:Nat}{ns:List (List Nm)}{c:List (Option St)}{nv sv:Value}{cs:List Value}
theorem Mk.named(h:Mk β w0 w Oe T kb pb f ns c nv sv cs){ao:Option Addr}(l:List Nm)(hc:l.length≤cap∧cap≤maxLen)(hr:∀(j:Nat) (nm:Nm),l[j]?=some nm→∃ g c f,ao=some ⟨g,0,none⟩∧w.heap[g]?=some (.cells c 66 f)∧w.cell? ⟨g,j*2,none⟩=some (.string (ba nm.1))∧w.cell? ⟨g,j*2+1,none⟩=some (.int .i64 nm.2))(hl:ns.length<1073741824) :
  Mk β w0 ((w.alloc (.cells #[.slice ao l.length cap,nv] 187)).setCell ⟨kb,2,none⟩ (.pointer (some ⟨w.heap.size,0,none⟩))) Oe T kb pb f (l::ns) c (.pointer (some ⟨w.heap.size,0,none⟩)) sv cs:=by
 have hml:=aP h.blk;have hk:Kp (fun q=>q=kb∨sv.ownBlock=some q) w ((w.alloc (.cells #[.slice ao l.length cap,nv] 187)).setCell ⟨kb,2,none⟩ (.pointer (some ⟨w.heap.size,0,none⟩))):=Kp.setCell (Kp.alloc (Kp.refl _ w) _) (p:=⟨kb,2,none⟩) (fun _=>.inl rfl) _;have qH:∀ q,q≠kb→((w.alloc (.cells #[.slice ao l.length cap,nv] 187)).setCell ⟨kb,2,none⟩ (.pointer (some ⟨w.heap.size,0,none⟩))).heap[q]?=(w.alloc (.cells #[.slice ao l.length cap,nv] 187)).heap[q]?:=fun q hq=>by simp[World.setCell,aK,iG hq]
 refine h.turn hk ?_ (fun _ h2=>?_) (by simp;omega) ?_ (fun g hg=>.inl hg) (fun kv j s hj=>?_)
 ·have:=(dN w (.cells #[.slice ao l.length cap,nv] 187) hml).trans h.blk
  simp[World.setCell,aK,this]
 ·refine .cons w.heap.size ao cap l nv ns ?_ hc (fun j nm hj=>?_) h2
  ·rw[qH _ (by omega)];exact aB w _
  ·obtain⟨g,c2,f2,e,h3,h4,h5⟩:=hr j nm hj
   have hgk:g≠kb:=fun e=>by subst e;exact d_ h3 h.blk (by decide)
   have h6:=(qH g hgk).trans ((dN w (.cells #[.slice ao l.length cap,nv] 187) (aP h3)).trans h3);exact⟨g,c2,f2,e,h6,(aN (a:=⟨g,j*2,none⟩) (h6.trans h3.symm)).trans h4,(aN (a:=⟨g,j*2+1,none⟩) (h6.trans h3.symm)).trans h5⟩
 ·exact bV (h.row.alloc _) (fun e=>h.rne e) _
 ·obtain⟨u,h1,h2⟩:=h.st j s hj;exact⟨u,h1,h2.keep kv⟩
theorem Mk.unnamed(h:Mk β w0 w Oe T kb pb f ns c nv sv cs){EY:Value}{ns':List (List Nm)}(hn:kz w EY ns')(hl:ns'.length≤1073741824):Mk β w0 (w.setCell ⟨kb,2,none⟩ EY) Oe T kb pb f ns' c EY sv cs:=by
 have hk:Kp (fun q=>q=kb∨sv.ownBlock=some q) w (w.setCell ⟨kb,2,none⟩ EY):=Kp.setCell (Kp.refl _ w) (p:=⟨kb,2,none⟩) (fun _=>.inl rfl) _;refine h.turn hk (by simp[World.setCell,aK,h.blk]) (fun _ _=>?_) hl (bV h.row (fun e=>h.rne e) _) (fun g hg=>.inl hg) (fun kv j s hj=>by obtain⟨u,h1,h2⟩:=h.st j s hj;exact⟨u,h1,h2.keep kv⟩);refine hn.keep (fun b cc t ff ht hb=>?_);have hbk:b≠kb:=fun e=>by subst e;exact d_ hb h.blk (by rcases ht with rfl|rfl<;>decide)
 simp only[World.setCell,aK,aG (iG hbk)];exact hb
theorem Mk.put{g:Nat}(h:Mk β w0 w Oe T kb pb f ns c nv (.slice (some ⟨g,0,none⟩) n cap) cs)(hn:c.length=n)(i:Nat)(u:Value)(s:St)(hi:i<n)(hu:jP β w (fun q=>Oe q∨q=kb∨g=q) T u s):Mk β w0 (w.setCell ⟨g,i,none⟩ u) Oe T kb pb f ns (c.set i (some s)) nv (.slice (some ⟨g,0,none⟩) n cap) (cs.set i u):=by
 subst hn;have hk:Kp (fun q=>q=kb∨(Value.slice (some ⟨g,0,none⟩) c.length cap).ownBlock=some q) w (w.setCell ⟨g,i,none⟩ u):=Kp.setCell (Kp.refl _ w) (p:=⟨g,i,none⟩) (fun _=>.inr rfl) _;have hgk:g≠kb:=fun e=>h.rne (by rw[e];rfl)
 refine h.turn hk (by simp only[World.setCell,aK,aG hgk];exact h.blk) (fun _ h=>h) h.nl (by rw[List.length_set];exact(h.row.stored i u).1) (fun g hg=>.inl hg) (fun kv j x hj=>?_);have hcl:cs.length=c.length:=by have:=h.row.1;omega
 by_cases e:i=j
 ·subst e
  rw[List.getElem?_set_self hi] at hj;cases hj
  refine⟨u,List.getElem?_set_self (by omega),jP.keep kv (jP.less (fun q e=>?_) hu)⟩;rcases e with e|e|e
  ·exact .inl e
  ·exact .inr (.inl e)
  ·exact .inr (.inr (by simpa [Value.ownBlock] using e))
 ·rw[List.getElem?_set_ne e] at hj
  obtain⟨z,h1,h2⟩:=h.st j x hj;exact⟨z,by rw[List.getElem?_set_ne e];exact h1,h2.keep kv⟩
theorem FZ(h:oF β w0 w Oe T kb pb f ns c)(hl:c.length<1073741823) :
  Calls prog 93 #[.pointer (some ⟨kb,0,none⟩),.nilIface] w fun e w'=>e=.returned (.int .i64 (c.length:Int))∧Hid (oF β w0 w' Oe T kb pb f ns (c++[none])):=by
 obtain⟨nv,sv,cs,h⟩:=h;refine(FR .nilIface none h (.inr rfl) rfl hl).mono ?_;rintro e w' ⟨h1,h2⟩;obtain⟨EL,cs',h3⟩:=h2.o;exact⟨h1,_,EL,cs',h3⟩
theorem Qz(b:Nat)(nm:Nm)(v1 v2:Value)(e1 e2:Ex){m n:Int}(h1:EC β k T lo hi pb e1)(h2:EC β k T lo hi pb e2)(hS:TM β k T hi pb w0)(hM:oF β w0 w Oe T kb pb f ns c)(h:w0.heap[b]?=some (.cells #[.int .i64 m,.int .i64 n,.bool z,.string (ba nm.1),.int .i64 nm.2,v1,v2] 299 (0,0)))(g1:gJ w0 lo hi v1 e1)(g2:gJ w0 lo hi v2 e2)(hL:qL e1∧qL e2)(hz1:c.length+(jk e1+jk e2+2)≤1073741819)(hz2:ns.length+(jk e1+jk e2+2)≤1073741824) :
  Calls prog 96 #[.pointer (some ⟨kb,0,none⟩),.pointer (some ⟨b,0,none⟩)] w fun en w'=>en=.returned (.tuple #[])∧Hid (oF β w0 w' Oe T kb pb f ns (c++(comp k f ns c.length (.iJ nm e1 e2)).map some)):=by
 have c5:=ai w _ 5 _ _ _ (hM.get h);have HX:=au (h1 w0 w Oe kb f ns c v1 hS g1 hM hL.1 (by omega) (by omega));have hcl:=fU k f e1 ns c.length;have HY:Hid (∀ w1,oF β w0 w1 Oe T kb pb f ns (c++(comp k f ns c.length e1).map some)→_):=fun w1 hM1=>jU (.iface 300 (.agg #[])) .bnd hM1 (ay _ w1) ⟨_,_,rfl⟩ (fun O _=>.bnd) (by rw[jB];omega)
 have HB:Hid (∀ w1 c',oF β w0 w1 Oe T kb pb f ([nm]::ns) c'→c'.length=c.length+(comp k f ns c.length e1).length+1→_):=fun w1 c' hM1 hc'=>h2 w0 w1 Oe kb f ([nm]::ns) c' v2 hS g2 hM1 hL.2 (by omega) (by simp;omega)
 have HZ:Hid (∀ w1 c',oF β w0 w1 Oe T kb pb f ns c'→c'.length<1073741823→_):=fun w1 c' hM1 hc'=>jU (.iface 301 (.agg #[])) .DT hM1 (ay _ w1) ⟨_,_,rfl⟩ (fun O _=>.DT) hc'
 have hnl:ns.length<1073741824:=by omega
 have HL2:Hid (∀ o,(comp k f ([nm]::ns) o e2).length≤jk e2):=fun o=>fU k f e2 ([nm]::ns) o
 have HS:Hid (c.length+(jk e1+jk e2+2)≤1073741819∧(comp k f ns c.length e1).length≤jk e1):=⟨hz1,hcl⟩;have HH:=au h;obtain⟨ty1,vb1,rfl⟩:=g1.iface;obtain⟨UO,vb2,rfl⟩:=g2.iface;have HR:Hid (comp k f ns c.length (.iJ nm e1 e2)=comp k f ns c.length e1++([.bnd]++(comp k f ([nm]::ns) (c.length+(comp k f ns c.length e1).length+1) e2++[.DT]))):=by show _=_;rw[comp]
 clear hS hM hL h hz1 hz2 g1 g2 hcl h1 h2;go_enter func96,ntmps96;go_wp2_with fail
 refine(HX.o).mono ?_;rintro e w2 ⟨rfl,H2⟩;clear c5 HX;have HY2:=au ((HY.o) w2 H2.o);clear HY;go_wp2_with fail
 refine(HY2.o).mono ?_;rintro e w3 ⟨rfl,H3⟩;clear HY2 H2;have hg3:=(H3.o).get HH.o;have d3:=ai w3 _ 3 _ _ _ hg3;have d4:=ai w3 _ 4 _ _ _ hg3;have hlb:=aP hg3;obtain⟨nv3,sv3,cs3,hM3⟩:=H3.o;have hkb:=hM3.blk;have hlk:=aP hkb;obtain⟨-,-,q2,-⟩:=hM3.cell;have fz:=hM3.vB 2;obtain⟨pn,rfl⟩:=hM3.nss.ptr;have wW:=au hM3;have HG:Hid (∀ wx,Below w3.heap.size w3 wx→wx.cell? ⟨b,3,none⟩=some (.string (ba nm.1))∧wx.cell? ⟨b,4,none⟩=some (.int .i64 nm.2)∧wx.cell? ⟨kb,2,none⟩=some (.pointer pn)):=fun wx hx=>⟨(aN (a:=⟨b,3,none⟩) (hx.block b hlb)).trans d3,(aN (a:=⟨b,4,none⟩) (hx.block b hlb)).trans d4,(aN (a:=⟨kb,2,none⟩) (hx.block kb hlk)).trans q2⟩
 clear hM3 H3 hg3 hkb;go_wp2_with fail
 refine bH (S:=fun w'=>w'.cell? ⟨b,3,none⟩=some (.string (ba nm.1))∧w'.cell? ⟨b,4,none⟩=some (.int .i64 nm.2)∧w'.cell? ⟨kb,2,none⟩=some (.pointer pn)) (z:=14) (by kernel_rfl) ?_;have hS:w3.drew.cell? ⟨b,3,none⟩=some (.string (ba nm.1))∧w3.drew.cell? ⟨b,4,none⟩=some (.int .i64 nm.2)∧w3.drew.cell? ⟨kb,2,none⟩=some (.pointer pn):=⟨d3,d4,q2⟩;clear d3 d4 q2;iterate 5(refine lS hS ?_;simp only[Act.put,ax,aD,aF])
 refine j5 6 hS ?_;simp only[Act.put,ax,aD,aF];refine j5 7 hS ?_;simp only[Act.put,ax,aD,aF];refine j5 8 hS ?_;simp only[Act.put,ax,aD,aF];refine j5 9 hS ?_;simp only[Act.put,ax,aD,aF];refine bD 5 fun K hK=>?_;go_simp;refine hK.o _ _ (fun _=>(HG.o) _ (by repeat(first|exact ay _ _|apply gW|refine fA (p:=⟨_,_,none⟩) ?_ (by simp) _|refine fZ ?_ (by simp) _))) (fun hS2=>?_);clear hS hK K;have hS:=hS2 (by decide);clear hS2;refine bD 10 fun K hK=>?_;go_simp;refine hK.o _ _ (fun _=>hS) (fun hS2=>?_);clear hS hK K;have hS:=hS2 (by decide);clear hS2;refine bD 11 fun K hK=>?_;go_simp;refine hK.o _ _ (fun _=>(HG.o) _ (by repeat(first|exact ay _ _|apply gW|refine fA (p:=⟨_,_,none⟩) ?_ (by simp) _|refine fZ ?_ (by simp) _))) (fun hS2=>?_);clear hS hK K;have hS:=hS2 (by decide);clear hS2;refine bD 12 fun K hK=>?_;go_simp;refine hK.o _ _ (fun _=>hS) (fun hS2=>?_);clear hS hK K;have hS:=hS2 (by decide);clear hS2;refine bD 13 fun K hK=>?_;go_simp;refine hK.o _ _ (fun _=>hS) (fun hS2=>?_);clear hS hK K;have hS:=hS2 (by decide);clear hS2;have f2':((w3.alloc (.cells #[.string (ba nm.1),.int .i64 nm.2] 66)).alloc (.cells #[.slice (some ⟨w3.heap.size,0,none⟩) 1 1,.pointer pn] 187)).frozen? ⟨kb,2,none⟩=false:=(bN _ _ ⟨kb,2,none⟩ (by simp;omega)).trans ((bN _ _ ⟨kb,2,none⟩ (uS hlk)).trans fz);have bB6:kb<w3.heap.size+1:=by omega
 refine bD 14 fun K hK=>?_;go_simp;refine hK.o _ _ (fun h=>absurd rfl h) (fun _=>fB ?_);clear hK K hS HG;have N_:Hid (oF β w0 ((((w3.setCell ⟨kb,2,none⟩ (.pointer (some ⟨w3.heap.size+1,0,none⟩))).alloc (.cells #[.string (ba nm.1),.int .i64 nm.2] 66)).alloc (.cells #[.slice (some ⟨w3.heap.size,0,none⟩) 1 1,.pointer pn] 187)).drew) Oe T kb pb f ([nm]::ns) ((c++(comp k f ns c.length e1).map some)++[some .bnd])):=by
  have hba:=bQ w3 (.cells #[.string (ba nm.1),.int .i64 nm.2] 66);have hs1:(w3.alloc (.cells #[.string (ba nm.1),.int .i64 nm.2] 66)).heap.size=w3.heap.size+1:=by simp
  have hnw:=aB w3 (.cells #[.string (ba nm.1),.int .i64 nm.2] 66);have:=((wW.o).below hba).named (ao:=some ⟨w3.heap.size,0,none⟩) (cap:=1) [nm] ⟨aj _,by unfold maxLen;omega⟩ (fun j x hj=>?_) hnl
  ·rw[hs1] at this
   have hm:oF β w0 _ Oe T kb pb f ([nm]::ns) _:=⟨_,_,_,this⟩;rw[yN _ _ _ _ (show kb<(w3.alloc (.cells #[.string (ba nm.1),.int .i64 nm.2] 66)).heap.size by rw[hs1];omega),yN _ _ _ _ hlk] at hm;exact hm.below (ay _ _).drew
  ·cases j with
   | zero=>cases hj;exact⟨_,_,_,rfl,hnw,ai _ _ 0 _ _ _ hnw,ai _ _ 1 _ _ _ hnw⟩
   | succ j=>cases hj
 generalize (((w3.setCell ⟨kb,2,none⟩ (.pointer (some ⟨w3.heap.size+1,0,none⟩))).alloc (.cells #[.string (ba nm.1),.int .i64 nm.2] 66)).alloc (.cells #[.slice (some ⟨w3.heap.size,0,none⟩) 1 1,.pointer pn] 187)).drew=w4 at *;generalize w3.heap.size=g3 at *;clear f2' fz bB6 hlk hlb wW;have d6:=ai w4 _ 6 _ _ _ ((N_.o).get HH.o);have QA:((c++(comp k f ns c.length e1).map some)++[some St.bnd]).length=c.length+(comp k f ns c.length e1).length+1:=by simp;omega
 have I_:=au ((HB.o) w4 _ N_.o QA);rw[QA] at I_;clear HB N_ QA;go_wp2_with fail
 refine(I_.o).mono ?_;rintro e w5 ⟨rfl,H5⟩;clear d6 I_;obtain⟨nv5,sv5,cs5,Oi⟩:=H5.o;obtain⟨-,-,q2,-⟩:=Oi.cell;have fz:=Oi.vB 2;have Tx:=au Oi;have hA:=Oi.nss;clear Oi H5;cases hA with
 | cons nb ao cap l nx ns h hc hr hn =>
  have n1:=ai w5 _ 1 _ _ _ h;have HM6:=au ((Tx.o).unnamed hn (by omega));obtain⟨px,rfl⟩:=hn.ptr;clear h hr hn Tx;have hl6:(c++(comp k f ns c.length e1).map some++[some St.bnd]++(comp k f ([nm]::ns) (c.length+(comp k f ns c.length e1).length+1) e2).map some).length<1073741823:=by
   have h1:=(HL2.o) (c.length+(comp k f ns c.length e1).length+1);have h2:=HS.o;simp;omega
  have HZ6:=au ((HZ.o) _ _ ⟨_,_,_,HM6.o⟩ hl6);clear HZ hl6;go_wp2_with fail
  refine(HZ6.o).mono ?_;rintro e w7 ⟨rfl,H7⟩;clear HZ6 HM6 q2 fz n1;go_wp2_with fail
  go_end0;refine⟨rfl,?_⟩;rw[HR.o];have h7:=H7.o;show oF β _ _ _ _ _ _ _ _ _
  simpa using h7
theorem set_mid{α:Type}(x y:List α)(a v:α)(hn:n=x.length):(x++a::y).set n v=x++v::y:=by subst hn;simp
theorem QB(a b c:Ex)(o:Nat):comp k f ns o (.ite a b c)=comp k f ns o a++([.wQ (o+(comp k f ns o a).length+1+(comp k f ns (o+(comp k f ns o a).length+1) b).length+1)]++(comp k f ns (o+(comp k f ns o a).length+1) b++([.Bh (o+(comp k f ns o a).length+1+(comp k f ns (o+(comp k f ns o a).length+1) b).length+1+(comp k f ns (o+(comp k f ns o a).length+1+(comp k f ns (o+(comp k f ns o a).length+1) b).length+1) c).length)] ++
   comp k f ns (o+(comp k f ns o a).length+1+(comp k f ns (o+(comp k f ns o a).length+1) b).length+1) c))):=by rw[comp]
theorem Mk.slice(h:Mk β w0 w Oe T kb pb f ns c nv sv cs)(hp:0<c.length):∃ g cap,sv=.slice (some ⟨g,0,none⟩) c.length cap∧c.length≤cap∧cap≤maxLen:=by
 rcases h.row.2 with ⟨-,e⟩|⟨g,cap,cur,e1,-,-,h1,h2,-⟩
 ·omega
 ·exact⟨g,cap,e1,h1,h2⟩
theorem F3(b:Nat)(v1 v2 v3:Value)(e1 e2 e3:Ex){m n:Int}(h1:EC β k T lo hi pb e1)(h2:EC β k T lo hi pb e2)(h3:EC β k T lo hi pb e3)(hS:TM β k T hi pb w0)(hM:oF β w0 w Oe T kb pb f ns c)(h:w0.heap[b]?=some (.cells #[.int .i64 m,.int .i64 n,.bool z,v1,v2,v3] 275 (0,0)))(g1:gJ w0 lo hi v1 e1)(g2:gJ w0 lo hi v2 e2)(g3:gJ w0 lo hi v3 e3)(hL:qL e1∧qL e2∧qL e3)(hz1:c.length+(jk e1+jk e2+jk e3+2)≤1073741819)(hz2:ns.length+(jk e1+jk e2+jk e3+2)≤1073741824) :
  Calls prog 97 #[.pointer (some ⟨kb,0,none⟩),.pointer (some ⟨b,0,none⟩)] w fun en w'=>en=.returned (.tuple #[])∧Hid (oF β w0 w' Oe T kb pb f ns (c++(comp k f ns c.length (.ite e1 e2 e3)).map some)):=by
 have c3:=ai w _ 3 _ _ _ (hM.get h);have hE1:=fU k f e1 ns c.length;have HX:=au (h1 w0 w Oe kb f ns c v1 hS g1 hM hL.1 (by omega) (by omega));have HR:=au (QB (k:=k) (f:=f) (ns:=ns) e1 e2 e3 c.length);generalize comp k f ns c.length e1=A at *;have hE2:=fU k f e2 ns (c.length+A.length+1);have HY:Hid (∀ w1,oF β w0 w1 Oe T kb pb f ns (c++A.map some++[none])→_):=fun w1 hM1=>h2 w0 w1 Oe kb f ns _ v2 hS g2 hM1 hL.2.1 (by simp;omega) (by omega)
 have el1:(c++A.map some++[(none:Option St)]).length=c.length+A.length+1:=by simp;omega
 rw[el1] at HY;clear el1;generalize comp k f ns (c.length+A.length+1) e2=B at *;have YJ:=fU k f e3 ns (c.length+A.length+1+B.length+1);have HW:Hid (∀ w1,oF β w0 w1 Oe T kb pb f ns (c++A.map some++some (.wQ (c.length+A.length+1+B.length+1))::(B.map some++[none]))→_):=fun w1 hM1=>h3 w0 w1 Oe kb f ns _ v3 hS g3 hM1 hL.2.2 (by simp;omega) (by omega)
 have el2:(c++A.map some++some (St.wQ (c.length+A.length+1+B.length+1))::(B.map some++[(none:Option St)])).length=c.length+A.length+1+B.length+1:=by simp;omega
 rw[el2] at HW;clear el2;generalize comp k f ns (c.length+A.length+1+B.length+1) e3=C at *;have U9:Hid (∀ w1,oF β w0 w1 Oe T kb pb f ns (c++A.map some)→_):=fun w1 hM1=>FZ hM1 (by simp;omega)
 have Jf:Hid (∀ w1,oF β w0 w1 Oe T kb pb f ns (c++A.map some++[none]++B.map some)→_):=fun w1 hM1=>FZ hM1 (by simp;omega)
 have el3:(c++A.map some).length=c.length+A.length:=by simp
 rw[el3] at U9;clear el3;have el4:(c++A.map some++[(none:Option St)]++B.map some).length=c.length+A.length+1+B.length:=by simp;omega
 rw[el4] at Jf;clear el4;have hsum:c.length+A.length+1+B.length+1+C.length≤1073741819:=by omega
 have HH:=au h;obtain⟨ty1,vb1,rfl⟩:=g1.iface;obtain⟨UO,vb2,rfl⟩:=g2.iface;obtain⟨ty3,vb3,rfl⟩:=g3.iface;have bB7:Hid ((c++A.map some).length=c.length+A.length):=by show _=_;simp
 have YK:Hid ((c++A.map some++[none]++B.map some++[none]).length=c.length+A.length+1+B.length+1):=by show _=_;simp;omega
 have YL:Hid ((c++A.map some++some (St.wQ (c.length+A.length+1+B.length+1))::(B.map some++[none])++C.map some).length=c.length+A.length+1+B.length+1+C.length):=by show _=_;simp;omega
 clear hS hM hL h hz1 hz2 g1 g2 g3 h1 h2 h3 hE1 hE2 YJ;generalize hi1:c.length+A.length=i1 at *;generalize hn4:i1+1+B.length+1=n4 at *;generalize hi2:i1+1+B.length=i2 at *;generalize hn6:n4+C.length=n6 at *;have HI:Hid (c.length+A.length=i1∧i1+1+B.length+1=n4∧i1+1+B.length=i2∧n4+C.length=n6):=⟨hi1,by omega,hi2,hn6⟩;have b1:i1<n4:=by omega
 have b2:i2<n6:=by omega
 have b3:n4≤1073741819:=by omega
 clear hi1 hi2 hn4 hn6;go_enter func97,ntmps97;go_wp2_with fail
 refine(HX.o).mono ?_;rintro e w2 ⟨rfl,H2⟩;have aL4:=au ((U9.o) w2 H2.o);clear c3 HX U9 H2;go_wp2_with fail
 refine(aL4.o).mono ?_;rintro e w3 ⟨rfl,H3⟩;have d4:=ai w3 _ 4 _ _ _ ((H3.o).get HH.o);have HY':=au ((HY.o) w3 H3.o);clear aL4 HY H3;go_wp2_with fail
 refine(HY'.o).mono ?_;rintro e w4 ⟨rfl,H4⟩;have aL5:=au ((Jf.o) w4 H4.o);clear HY' Jf H4 d4;go_wp2_with fail
 refine(aL5.o).mono ?_;rintro e w5 ⟨rfl,H5⟩;clear aL5;obtain⟨nv5,sv5,cs5,Oi⟩:=H5.o;have aL6:=YK.o;obtain⟨g5,cap4,rfl,hc1,hc2⟩:=Oi.slice (by omega);rw[aL6] at Oi hc1;obtain⟨-,-,-,q4⟩:=Oi.cell;have QC:=Oi.row;rw[YK.o] at QC;have fz:=fun j=>QC.frozenAt j
 obtain⟨u5,cz⟩:∃ u,w5.cell? ⟨g5,i1,none⟩=some u:=⟨_,(QC.cellAt i1 (by omega)).trans (aC (by have:=QC.1;omega))⟩;clear QC;have Tx:=au Oi;have j0:(0:Int)≤(i1:Int):=bU _;have j1:(i1:Int)<(n4:Int):=by omega
 unfold maxLen at hc2;clear Oi H5 aL6;go_wp2_with fail
 refine bH (S:=fun w'=>w'.cell? ⟨kb,3,none⟩=some (.slice (some ⟨g5,0,none⟩) n4 cap4)) (z:=13) (by kernel_rfl) ?_;have hS:w5.drew.cell? ⟨kb,3,none⟩=some (.slice (some ⟨g5,0,none⟩) n4 cap4):=q4;iterate 13(refine lS hS ?_;simp only[Act.put,ax,aD,aF])
 refine bD 13 fun K hK=>?_;go_simp;refine hK.o _ _ (fun h=>absurd rfl h) (fun _=>fB ?_);clear hK K hS;have HM6:Hid (oF β w0 (w5.setCell ⟨g5,i1,none⟩ (.iface 303 (.agg #[.int .i64 n4]))).drew Oe T kb pb f ns (c++A.map some++some (.wQ n4)::(B.map some++[none]))):=by
  have h1:=(Tx.o).put YK.o i1 (.iface 303 (.agg #[.int .i64 n4])) (.wQ n4) (by omega) (.wQ _ (by omega));rw[show c++A.map some++[none]++B.map some++[none]=(c++A.map some)++none::(B.map some++[none]) by simp,set_mid _ _ _ _ (bB7.o).symm] at h1;exact oF.below ⟨_,_,_,h1⟩ (ay _ _).drew
 generalize (w5.setCell ⟨g5,i1,none⟩ (.iface 303 (.agg #[.int .i64 n4]))).drew=w6 at *;have d5:=ai w6 _ 5 _ _ _ ((HM6.o).get HH.o);have HW':=au ((HW.o) w6 HM6.o);clear Tx HM6 HW q4 fz j0 j1 cz;go_wp2_with fail
 refine(HW'.o).mono ?_;rintro e w7 ⟨rfl,H7⟩;clear HW' d5;obtain⟨nv7,sv7,cs7,hM7⟩:=H7.o;have aL7:=YL.o;obtain⟨g7,cap6,rfl,hd1,hd2⟩:=hM7.slice (by omega);rw[aL7] at hM7 hd1;obtain⟨-,-,-,q6⟩:=hM7.cell;have QD:=hM7.row;rw[YL.o] at QD;have fz:=fun j=>QD.frozenAt j
 obtain⟨u7,cz⟩:∃ u,w7.cell? ⟨g7,i2,none⟩=some u:=⟨_,(QD.cellAt i2 (by omega)).trans (aC (by have:=QD.1;omega))⟩;clear QD;have HM7:=au hM7;have j0:(0:Int)≤(i2:Int):=bU _;have j1:(i2:Int)<(n6:Int):=by omega
 unfold maxLen at hd2;clear hM7 H7 aL7;go_wp2_with fail
 refine bH (S:=fun w'=>w'.cell? ⟨kb,3,none⟩=some (.slice (some ⟨g7,0,none⟩) n6 cap6)) (z:=13) (by kernel_rfl) ?_;have hS:w7.drew.cell? ⟨kb,3,none⟩=some (.slice (some ⟨g7,0,none⟩) n6 cap6):=q6;iterate 13(refine lS hS ?_;simp only[Act.put,ax,aD,aF])
 refine bD 13 fun K hK=>?_;go_simp;refine hK.o _ _ (fun h=>absurd rfl h) (fun _=>fB ?_);clear hK K hS;have HM8:Hid (oF β w0 (w7.setCell ⟨g7,i2,none⟩ (.iface 304 (.agg #[.int .i64 n6]))).drew Oe T kb pb f ns (c++A.map some++some (.wQ n4)::B.map some++some (.Bh n6)::C.map some)):=by
  have h1:=(HM7.o).put YL.o i2 (.iface 304 (.agg #[.int .i64 n6])) (.Bh n6) (by omega) (.Bh _ (by omega));rw[show c++A.map some++some (.wQ n4)::(B.map some++[none])++C.map some=(c++A.map some++some (.wQ n4)::B.map some)++none::C.map some by simp,set_mid _ _ _ _ (by have:=HI.o;simp;omega)] at h1;exact oF.below ⟨_,_,_,h1⟩ (ay _ _).drew
 generalize (w7.setCell ⟨g7,i2,none⟩ (.iface 304 (.agg #[.int .i64 n6]))).drew=w8 at *;clear HM7 q6 fz cz;go_wp2_with fail
 go_end0;refine⟨rfl,?_⟩;rw[HR.o];have h8:=HM8.o;show oF β _ _ _ _ _ _ _ _ _
 simpa using h8
theorem YM(nm:Nm)(e1 e2:Ex)(h1:EC β k T lo hi pb e1)(h2:EC β k T lo hi pb e2):EC β k T lo hi pb (.iJ nm e1 e2):=by
 intro w0 w Oe kb f ns c u hS hE hM hL hz1 hz2;rw[qL] at hL;rw[jk] at hz1 hz2;cases hE with
 | iJ b _ v1 v2 _ _ hb h g1 g2 =>
  have HX:=au (Qz b nm v1 v2 e1 e2 h1 h2 hS hM h g1 g2 hL hz1 hz2);have ha0:∀ wx,(Instr.typeAssert (.iface 230 (.pointer (some ⟨b,0,none⟩))) 72 223 true).run prog wx=.ok (.tuple #[.pointer none,.bool false]) wx:=fun _=>by kernel_rfl
  have ha1:∀ wx,(Instr.typeAssert (.iface 230 (.pointer (some ⟨b,0,none⟩))) 72 228 true).run prog wx=.ok (.tuple #[.pointer none,.bool false]) wx:=fun _=>by kernel_rfl
  have ha2:∀ wx,(Instr.typeAssert (.iface 230 (.pointer (some ⟨b,0,none⟩))) 72 230 true).run prog wx=.ok (.tuple #[.pointer (some ⟨b,0,none⟩),.bool true]) wx:=fun _=>by kernel_rfl
  clear hS hM hL h hz1 hz2 hb g1 g2 h1 h2;go_enter func65,ntmps65;go_wp2_with fail
  refine(HX.o).mono ?_;rintro e w2 ⟨rfl,H2⟩;go_wp2_with fail
  go_end0;exact⟨rfl,H2⟩
theorem aL8(e1 e2 e3:Ex)(h1:EC β k T lo hi pb e1)(h2:EC β k T lo hi pb e2)(h3:EC β k T lo hi pb e3):EC β k T lo hi pb (.ite e1 e2 e3):=by
 intro w0 w Oe kb f ns c u hS hE hM hL hz1 hz2;rw[qL] at hL;rw[jk] at hz1 hz2;cases hE with
 | ite b v1 v2 v3 _ _ _ hb h g1 g2 g3 =>
  have HX:=au (F3 b v1 v2 v3 e1 e2 e3 h1 h2 h3 hS hM h g1 g2 g3 hL hz1 hz2);have ha0:∀ wx,(Instr.typeAssert (.iface 232 (.pointer (some ⟨b,0,none⟩))) 72 223 true).run prog wx=.ok (.tuple #[.pointer none,.bool false]) wx:=fun _=>by kernel_rfl
  have ha1:∀ wx,(Instr.typeAssert (.iface 232 (.pointer (some ⟨b,0,none⟩))) 72 228 true).run prog wx=.ok (.tuple #[.pointer none,.bool false]) wx:=fun _=>by kernel_rfl
  have ha2:∀ wx,(Instr.typeAssert (.iface 232 (.pointer (some ⟨b,0,none⟩))) 72 230 true).run prog wx=.ok (.tuple #[.pointer none,.bool false]) wx:=fun _=>by kernel_rfl
  have YB:∀ wx,(Instr.typeAssert (.iface 232 (.pointer (some ⟨b,0,none⟩))) 72 232 true).run prog wx=.ok (.tuple #[.pointer (some ⟨b,0,none⟩),.bool true]) wx:=fun _=>by kernel_rfl
  clear hS hM hL h hz1 hz2 hb g1 g2 g3 h1 h2 h3;go_enter func65,ntmps65;go_wp2_with fail
  refine(HX.o).mono ?_;rintro e w2 ⟨rfl,H2⟩;go_wp2_with fail
  go_end0;exact⟨rfl,H2⟩
end
end
end Go.Proofs.YtdkpkpgpphkljaaGreatDoor
