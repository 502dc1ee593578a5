import Derived.Test.YtoohcklcppnafaaGreatDoorXo
import Derived.Test.YtoohcklcppnafaaGreatDoorWzw
namespace Go.Proofs.YtoohcklcppnafaaGreatDoor
set_option maxRecDepth 100000
set_option maxHeartbeats 1000000
open Go.RowKit
section
variable{d:Array Bool}
section
variable{P:Program}{ops:Array Oper}{Q:Exit→Act→World→Prop}
def FZ(d:List Bool):Nat:=(d.filter (fun b=>!b)).length
theorem xk:∀(d:List Bool) (j:Nat),d.getD j true=false→FZ (d.set j true)+1=FZ d
 | [],j,h=>by simp at h
 | b::d,0,h=>by
  have hb:b=false:=by simpa using h
  subst hb;simp[FZ]
 | b::d,j+1,h=>by
  have:=xk d j (by simpa using h);unfold FZ at *;cases b<;>simp at*<;> omega
theorem CF(Inv:Array Bool→Act→World→Prop)
  (hstep:∀ d a w j,j∈Region.ready .any ops d→Inv d a w→∀ KK:Act→World→Prop,Hid (∀ a' w',Inv (d.setIfInBounds j true) a' w'→KK a' w')→wpOp P ops Q j KK a w)
  (hend:∀ d a w,Region.ready .any ops d=[]→Inv d a w→Q .normal a w):∀(n:Nat) (d:Array Bool) (a:Act) (w:aG),FZ d.toList≤n→Inv d a w→wpAny P .any ops Q n d a w:=by
 intro n
 induction n with
 | zero =>
  intro d a w hn hI;have hr:Region.ready .any ops d=[]:=by
   cases hr:Region.ready .any ops d with
   | nil=>rfl
   | cons j js =>
    exfalso;have hj:j∈Region.ready .any ops d:=by rw[hr];simp
    have h0:=(nQ.1 hj).1;have:=xk d.toList j (by rw[← h0];simp);omega
  exact⟨hr,hend d a w hr hI⟩
 | succ n ih =>
  intro d a w hn hI;refine⟨fun hr=>hend d a w hr hI,fun j hj=>?_⟩;refine hstep d a w j hj hI _ (fun a' w' hI'=>ih _ a' w' ?_ hI');have h0:=(nQ.1 hj).1;have h1:=xk d.toList j (by rw[← h0];simp);have h2:(d.setIfInBounds j true).toList=d.toList.set j true:=aT
  rw[h2];omega
theorem gQ{j i:Nat}(hj:j∈Region.ready .any ops d)(hw:Region.waitsFor .any ops j i=true):d.getD i false=true:=by
 obtain⟨oj,ho,e,he,hb,rfl⟩:=Region.waitsFor_spec hw;obtain⟨-,o2,ho2,hall⟩:=nQ.1 hj;obtain rfl:oj=o2:=bQ (ho.symm.trans ho2);exact hall e he hb
theorem F3{j:Nat}(hj:j∈Region.ready .any ops d):j<ops.size:=by
 unfold Region.ready at hj;exact jq.1 (List.mem_filter.1 hj).1
theorem F4(d:Array Bool)(j i:Nat):(d.setIfInBounds j true).getD i false=true↔(d.getD i false=true∨(i=j∧i<d.size)):=by
 rw[jg,jg,nO];by_cases h:j=i
 ·subst h
  by_cases hs:j<d.size
  ·simp[hs]
  ·simp[hs]
 ·have h':¬ i=j:=fun e=>h e.symm
  simp[h,h']
end
end
section
open Tryz
open M
open X
variable{W:aG}{b i a:Nat}{s:ByteArray}{L:List Tk}
theorem at_new(w:aG)(o:Obj){n:Nat}(h:w.heap.size=n):(w.alloc o).heap[n]?=some o:=h ▸ aI w o
theorem FH{v:Value}{o1 o2:Obj}(hb:b<W.heap.size)(h:W.cell? (aC b i)=some v):((W.alloc o1).alloc o2).drew.cell? (aC b i)=some v :=
 iY (((aB _ W).alloc (ax _) o1).alloc aT o2).drew hb h
theorem Um{c o:Nat}{x v:Value}(hn:¬ b=c)(h:W.cell? (aC b o)=some v):(W.setCell (aC c i) x).cell? (aC b o)=some v:=(On.set (Kp.refl (fun k=>k=c) W) i x).dD h hn
def JJ(rb:Nat)(w:aG):Nat:=match w.cell? (aC rb 2) with|some (.int _ n)=>n.toNat|_=>0
theorem xZ.at{w:aG}{rb:Nat}{tv:Value}{dp:Nat}(h:xZ w rb s L tv a dp):JJ rb w=a:=by
 obtain⟨c,hr⟩:=h.raw;unfold JJ;rw[hr.facts.1.2.2.1];simp
structure Ja(w:aG)(rb:Nat)(s:ByteArray)(L:List Tk)(tv:Value)(a dp lo B k:Nat)(rv:Value)(ps:List Part)(j:Nat)(wr:aG):Prop where
 ex:∃(uL:Value) (vF:List Value) (Lo Hi:Nat→Nat),vG wr rb s L tv (a+j) dp lo B k uL vF (ps++((L.drop a).take j).map (fun t=>lf (uI (bs s) t))) Lo Hi∧(∀ g,uL.ownBlock=some g→rv.ownBlock=some g∨w.heap.size≤g)∧Kp (Sm rb B rv) w wr
theorem Pv(h:L.length≤jO L a)(ha:a≤L.length):X.take (aR s L a)=(((L.drop a).take (L.length - a)).map (fun t=>lf (uI (bs s) t)),aR s L L.length):=by
 rw[Bp];have e:jO L a=L.length:=by have:=Bo ha;omega
 rw[e];refine Prod.ext ?_ ?_
 ·show List.map _ _=_
  rw[ku (by rw[bV];omega),ku (by rw[bV];omega)]
 ·show aR s L (L.length+1)=aR s L L.length
  unfold aR;rw[List.drop_eq_nil_iff.2 (au:L.length≤L.length+1),List.drop_length]
theorem gT(s:ByteArray)(L:List Tk)(dp:Nat)(hS:iU s L):nM 62 X.take (fun _=>True) s L dp:=by
 intro rb tv a lo B k rv vs ps Lo Hi w h _ hl;obtain⟨i0,hi0,hz0,hz1,hz2⟩:=dM qM;have hl1:=hS.size;have hl2:=hS.len;have HF:=aA hS.fit;have ha:=h.iW.le;have hq:=Bo ha;have hge:=TG L a;obtain⟨E,hE1,hE2,hE3,HE⟩:∃ E,a+E≤L.length∧a+E≤jO L a+1∧(a+E=L.length∨a+E=jO L a+1)∧Hid (X.take (aR s L a)=(((L.drop a).take E).map (fun t=>lf (uI (bs s) t)),aR s L (a+E))):=by
  by_cases hlt:jO L a<L.length
  ·exact⟨jO L a+1 - a,au,au,au,(Bp (s:=s) (L:=L) (a:=a)).trans (by rw[show a+(jO L a+1 - a)=jO L a+1 by omega])⟩
  ·exact⟨L.length - a,au,au,au,(Pv au ha).trans (by rw[show a+(L.length - a)=L.length by omega])⟩
 rw[HE.o] at hl ⊢;simp only[cB,dX,bV] at hl;have HI0:Hid (Ja w rb s L tv a dp lo B k rv ps 0 w):=⟨rv,vs,Lo,Hi,by simpa using h,fun g hg=>.inl hg,Kp.refl _ _⟩;have HA:=aA (x_ rb s L tv a dp w hS h.iW);obtain⟨ao,cap,rfl,hc1,hc2,-⟩:=h.iW.row;clear h HE hS;go_enter func62,ntmps62;go_wp2_with fail
 refine(HA.o).aX fun w1 k1=>?_;have HI1:Hid (Ja w rb s L (.slice ao L.length cap) a dp lo B k rv ps 0 w1):=by
  obtain⟨uL,vF,Lo,Hi,g1,g2,g3⟩:=(HI0.o).ex;have k0:=k1;exact⟨uL,vF,Lo,Hi,g1.below k0,g2,Kp.trans g3 (Kp.aN k0 (fun _=>False)) (fun _ _ e=>e.elim)⟩
 clear HI0 k1 HA;go_wp2_with fail
 go_loopw [] (fun wr=>∃ j:Nat,j≤E∧Hid (Ja w rb s L (.slice ao L.length cap) a dp lo B k rv ps j wr)) (fun wr=>L.length - JJ rb wr)
 case atStart=>exact⟨0,bJ _,HI1⟩
 case round =>
  obtain⟨j,hj,HI⟩:=hrel;clear HI1;obtain⟨uL,vF,Loj,Hij,g1,g2,g3⟩:=(HI.o).ex;have HW:=aA g1;have HG:=aA g2;have HK:=aA g3;clear g1 g2 g3 HI;obtain⟨I,hI⟩:∃ I,a+j=I:=⟨_,rfl⟩;rw[hI] at HW;obtain⟨c,hr⟩:=(HW.o).iW.raw;have HR:=aA hr;obtain⟨⟨c0,c1,c2,c3⟩,⟨f2,f3,f4⟩,-⟩:=hr.facts;have hrl:=bN hr;have hat:=(HW.o).iW.at
  clear hr;by_cases hlt:j<E
  case neg =>
   obtain rfl:j=E:=au
   have hfin:Hid (kV w rb s L (.slice ao L.length cap) dp lo B k rv (ps++((L.drop a).take j).map (fun t=>lf (uI (bs s) t))) (aR s L (a+j)) wr):=by
    rw[hI];exact⟨I,uL,vF,Loj,Hij,HW.o,rfl,HG.o,HK.o⟩
   clear HW HG HK hat
   rcases hE3 with e|e
   ·have i1:decide ((I:Int)<(L.length:Int))=false:=by simp;omega
    by_cases h5:I≤jO L a
    ·have i2:decide ((I:Int)≤(jO L a:Int))=true:=by simp;omega
     go_wp2_with fail
     go_quiet (fail)
     go_wp2_with fail
     go_end0;exact⟨rfl,(hfin.o).next (iQ (aB _ wr) nq)⟩
    ·have i2:decide ((I:Int)≤(jO L a:Int))=false:=by simp;omega
     go_wp2_with fail
     go_quiet (fail)
     go_wp2_with fail
     go_end0;exact⟨rfl,(hfin.o).next (iQ (aB _ wr) nq)⟩
   ·have i2:decide ((I:Int)≤(jO L a:Int))=false:=by simp;omega
    have h5:¬ I≤jO L a:=au
    go_wp2_with fail
    go_quiet (fail)
    go_wp2_with fail
    go_end0;exact⟨rfl,(hfin.o).next (iQ (aB _ wr) nq)⟩
  have i1:decide ((I:Int)<(L.length:Int))=true:=aQ
  have i2:decide ((I:Int)≤(jO L a:Int))=true:=aQ
  have h5:I≤jO L a:=au
  go_wp2_with fail
  go_quiet (fail)
  go_wp2_with fail
  have HW2:=aA ((HW.o).below (iQ (aB _ wr) nq));have mU:=aA <| Kp.trans HK.o (Kp.aN (iQ (aB _ wr) nq) (fun _=>False)) (fun _ _ e=>e.elim);have aD2:=hat
  clear HW HK HR hat c0 c1 c2 c3 f2 f3 f4 hrl;generalize hWq:wr.drewN nq=W at *;clear hWq;have hIL:I<L.length:=au
  obtain⟨b',o',t,rfl,ht,q1,q2,q3⟩:=(HW2.o).iW.row.get (aB _ W) hIL;obtain⟨c,hr⟩:=(HW2.o).iW.raw;obtain⟨⟨c0,c1,c2,c3⟩,⟨f2,f3,f4⟩,-⟩:=hr.facts;have hrl:=bN hr;have hbl:b'<W.heap.size:=dU _ _ q1;have hi1:(0:Int)≤(I:Int):=bO _;have hi2:(I:Int)<(L.length:Int):=au
  clear hr
  go_region_held3 (fun w'=>w'.cell? (aC rb 1)=some (.slice (some ⟨b',o',none⟩) L.length cap)∧w'.cell? (aC rb 2)=some (ak (I:Int))∧w'.cell? (aC b' (o'+I*3))=some (ak t.kind)∧w'.cell? (aC b' (o'+I*3+1))=some (ak t.pos)∧w'.cell? (aC b' (o'+I*3+2))=some (ak t.len))
   (go_keep)
   (fail)
  go_wp2_with fail
  have kT:Below W.heap.size W (W.alloc (.cells #[ak t.kind,ak t.pos,ak t.len] 87)).drew:=((aB _ W).alloc (ax _) _).drew;have HW3:=aA ((HW2.o).below kT);have HKT:=aA kT;have hblk:(W.alloc (.cells #[ak t.kind,ak t.pos,ak t.len] 87)).drew.heap[W.heap.size]?=some (.cells #[ak t.kind,ak t.pos,ak t.len] 87 (0,0)):=aI W _;have hz3:(W.alloc (.cells #[ak t.kind,ak t.pos,ak t.len] 87)).drew.heap.size=W.heap.size+1:=aT
  clear kT q1 q2 q3 c0 c1 c2 c3 f2 f3 f4 hrl;generalize (W.alloc (.cells #[ak t.kind,ak t.pos,ak t.len] 87)).drew=W2 at *;have t0:W2.cell? (aC W.heap.size 0)=some (ak t.kind):=aj W2 _ 0 _ _ _ hblk;have t1:W2.cell? (aC W.heap.size 1)=some (ak t.pos):=aj W2 _ 1 _ _ _ hblk;have t2:W2.cell? (aC W.heap.size 2)=some (ak t.len):=aj W2 _ 2 _ _ _ hblk;obtain⟨c,hr⟩:=(HW3.o).iW.raw;obtain⟨⟨c0,c1,c2,c3⟩,⟨f2,f3,f4⟩,-⟩:=hr.facts;obtain⟨b0,b3,g0,g3⟩:=(HW3.o).nd.facts;have hrl:=bN hr;have hBl:=(HW2.o).nd.lt;obtain⟨p1,p2,p3⟩:=(HF.o) t (dF ht);have j1:(t.pos:Int)≤(t.pos:Int)+(t.len:Int):=au
  have j2:(t.pos:Int)+(t.len:Int)≤(s.size:Int):=au
  have j3:t.pos≤s.size:=au
  have j4:(0:Int)≤(t.pos:Int):=bO _;have hwr:IntKind.i64.wrap ((t.pos:Int)+(t.len:Int))=(t.pos:Int)+(t.len:Int):=by rw[IntKind.wrap_i64];omega
  have hne:=(HW3.o).nd.ne;have hown:=dG (HW2.o).nd.row;have n1:some W.heap.size≠uL.ownBlock:=fun e=>by have:=(hown _ e.symm).2;omega
  have n2:some rb≠uL.ownBlock:=fun e=>by have:=(hown _ e.symm).1;have:=(HW2.o).Pt;omega
  have n3:some B≠uL.ownBlock:=fun e=>hne e.symm
  have hvl:vF.length≤1073741824:=by
   have:=(HW3.o).nd.pq.len;rw[this,ay,cB,dX,bV];omega
  clear hr hblk hown hne;have hTl:W.heap.size<W2.heap.size:=au
  have hrB:¬ rb=B:=by have:=(HW2.o).Pt;have:=(HW2.o).nd.ge;omega
  have hTB:¬ W.heap.size=B:=au
  have aD4:B<W2.heap.size:=au
  have HZ3:=aA hz3;clear hz3;have N1:=aA n1;have N2:=aA n2;have N3:=aA n3;clear n1 n2 n3;refine wp_region_noPanic ?_;refine dB (S:=fun w'=>w'.cell? (aC B 3)=some uL∧w'.cell? (aC rb 0)=some (.string s)∧w'.cell? (aC W.heap.size 0)=some (ak t.kind)∧w'.cell? (aC W.heap.size 1)=some (ak t.pos)∧w'.cell? (aC W.heap.size 2)=some (ak t.len)) (z:=25) bC ?_;have hS:W2.drew.cell? (aC B 3)=some uL∧W2.drew.cell? (aC rb 0)=some (.string s)∧W2.drew.cell? (aC W.heap.size 0)=some (ak t.kind)∧W2.drew.cell? (aC W.heap.size 1)=some (ak t.pos)∧W2.drew.cell? (aC W.heap.size 2)=some (ak t.len):=⟨b3,c0,t0,t1,t2⟩;iterate 20(refine ny hS ?_;simp only[Act.put,aD,aO,aP])
  refine fw 20 fun K hK=>?_;go_simp;refine hK.o _ _ (fun _=>by first|go_keep|(dsimp only;go_keep)) (fun hS2=>?_);clear hS hK K;have hS:=hS2 aS;clear hS2;refine fw 21 fun K hK=>?_;go_simp;refine hK.o _ _ (fun _=>by first|go_keep|(dsimp only;go_keep)) (fun hS2=>?_);clear hS hK K;have hS:=hS2 aS;clear hS2;refine fw 22 fun K hK=>?_;refine step_append_lies _ (by rfl) _ _ _ (by rfl) lo 51 i0 _ 1 8 underlying35 hi0 hz0 hz1 hz2 rfl au uL vF.length _ (by rfl) ((((HW3.o).nd.row.alloc _).alloc _).drew)
      ⟨W2.heap.size+1,0,none⟩ 1 1 [aH W2.heap.size] (by rfl) (by rfl) (World.news_of_block (cs:=#[aH W2.heap.size]) (t:=51) (fr:=(0,0)) (at_new (W2.alloc _) _ (fB W2 _))) (by simp[Value.oneCell'])
      au (by unfold maxLen;omega) au (by have:=HZ3.o;have:=(HW2.o).Pt;have:=(HW2.o).nd.ge;simp;omega) (W2.heap.size+2) aT ?_
  intro g cap5 w5 hown5 aV gI jm;have y0:=(aV.cell_far ⟨rb,0,none⟩ (by have:=HZ3.o;simp;omega) (N2.o)).trans (FH hrl c0);have y1:=(aV.cell_far ⟨W.heap.size,0,none⟩ (by have:=HZ3.o;simp;omega) (N1.o)).trans (FH hTl t0);have y2:=(aV.cell_far ⟨W.heap.size,1,none⟩ (by have:=HZ3.o;simp;omega) (N1.o)).trans (FH hTl t1);have y3:=(aV.cell_far ⟨W.heap.size,2,none⟩ (by have:=HZ3.o;simp;omega) (N1.o)).trans (FH hTl t2);have x1:=(aV.cell_far ⟨B,3,none⟩ (by have:=HZ3.o;simp;omega) (N3.o)).trans (FH aD4 b3);have x2:=(aV.frozen_far ⟨B,3,none⟩ (by have:=HZ3.o;simp;omega) (N3.o)).trans ((bD _ _ ⟨B,3,none⟩ (by have:=HZ3.o;simp;omega)).trans ((bD _ _ ⟨B,3,none⟩ (by have:=HZ3.o;simp;omega)).trans g3));show K (Act.put _ (some 58) _) w5;refine hK.o _ _ (fun _=>⟨x1,y0,y1,y2,y3⟩) (fun hS2=>?_);clear hS hK K;have hS:=hS2 aS;clear hS2;simp only[Act.put,aD,aO,aP];refine fw 23 fun K hK=>?_;go_simp;refine hK.o _ _ (fun _=>hS) (fun _=>?_);clear hK K;refine fw 24 fun K hK=>?_;go_simp;refine hK.o _ _ (fun _=>hS) (fun _=>?_);clear hK K;refine fw 25 fun K hK=>?_;go_simp;refine hK.o _ _ (fun h=>absurd rfl h) (fun _=>iF ?_);clear hK K;refine NoPanic.normal ?_;clear y0 y1 y2 y3 x1 x2 hS;have HP:Hid (kV W2 rb s L (.slice (some ⟨b',o',none⟩) L.length cap) dp lo B k uL (ps++((L.drop a).take (j+1)).map (fun t=>lf (uI (bs s) t))) (aR s L I) (w5.setCell (aC B 3) (.slice (b_ g) (vF.length+1) cap5))):=by
   have kN:∀ o1 o2:Obj,Below W2.heap.size W2 ((W2.alloc o1).alloc o2).drew:=fun o1 o2=>(((aB _ W2).alloc (ax _) o1).alloc aT o2).drew
   have hx:s.extract t.pos ((t.pos:Int)+(t.len:Int)).toNat=ba (((bs s).drop t.pos).take t.len):=by
    apply iD;rw[rV,xH,oP];congr 1;omega
   have hblk2:((W2.alloc (Obj.cells #[Value.int IntKind.i64 0,Value.int IntKind.i64 t.kind,Value.string (s.extract t.pos ((t.pos:Int)+(t.len:Int)).toNat),Value.slice none 0 0,Value.int IntKind.i64 0,Value.int IntKind.i64 0,Value.int IntKind.i64 0,Value.int IntKind.i64 0,Value.bool false] 55)).alloc
    (Obj.cells #[aH W2.heap.size] 51)).drew.heap[W2.heap.size]?=some (gH 0 t.kind (((bs s).drop t.pos).take t.len) (.slice none 0 0) 0 0 0 0 false):=by
    rw[hx];exact(eG _ _ aT).trans (aI W2 _)
   have hd:=(HW3.o).put (On.aN rb (kN _ _)) ((HW3.o).iW.below (kN _ _)) (nu.leaf hblk2) (ax _) aT aV hown5 (gI.imp id (fun e=>by rw[e];simp));have hl:(ps++((L.drop a).take j).map (fun t=>lf (uI (bs s) t)))++[Part.leaf t.kind (((bs s).drop t.pos).take t.len)]=ps++((L.drop a).take (j+1)).map (fun t=>lf (uI (bs s) t)):=by
    rw[aK,List.take_add_one,g_,hI,ht];simp[lf,uI]
   rw[hl] at hd;exact hd
  have yQ:=aA <| Kp.trans mU.o (Kp.aN HKT.o (fun _=>False)) (fun _ _ e=>e.elim);clear hown5 aV gI jm b0 b3 g0 g3 c0 c1 c2 c3 f2 f3 f4 t0 t1 t2 HZ3 N1 N2 N3 HW3 HKT;generalize w5.setCell (aC B 3) (.slice (b_ g) (vF.length+1) cap5)=W6 at *;obtain⟨a6,rv6,vs6,Lo6,Hi6,m1,m2,m3,m4⟩:=HP.o;have ha6:a6=I:=by
   have h1:=congrArg List.length m2;have h2:=m1.iW.le;unfold aR at h1;rw[cB,cB,bV,bV] at h1;omega
  subst ha6;have HW6:=aA m1;have w_:=aA m3;have vN:=aA m4;clear m1 m2 m3 m4 HP;obtain⟨c,hr⟩:=(HW6.o).iW.raw;obtain⟨⟨c0,c1,c2,c3⟩,⟨f2,f3,f4⟩,-⟩:=hr.facts;have bT1:=bN hr;have BL:=aA hr;clear hr;go_wp2_with fail
  have hon:On rb W6 (W6.setCell (aC rb 2) (ak ((a6+1:Nat):Int))):=On.set (Kp.refl _ W6) 2 _;have hrd:=(HW6.o).iW.moved hon ((BL.o).set2 _) au;refine⟨⟨j+1,au,rv6,vs6,Lo6,Hi6,?_,?_,?_⟩,?_⟩
  ·rw[show a+(j+1)=a6+1 by omega]
   exact(HW6.o).moved hon hrd
  ·intro q hq
   have hz:=(yQ.o).size;rcases(w_.o) q hq with e|e
   ·exact(HG.o) q e
   ·exact .inr au
  ·refine Kp.trans (Kp.trans yQ.o vN.o (fun i hi e=>?_)) hon (fun i _ e=>.inl e)
   rcases e with e|e|e
   ·exact .inl e
   ·exact .inr (.inl e)
   ·rcases(HG.o) i e with e|e
    ·exact .inr (.inr e)
    ·omega
  ·have h1:=hrd.at
   rw[aD2];show L.length - JJ rb (W6.setCell (aC rb 2) (ak ((a6+1:Nat):Int)))<_;rw[h1];omega
end
section
open Tryz
open M
open X
variable{W w:aG}{b i rb a dp lo B k:Nat}{v tv rv:Value}{s:ByteArray}{L:List Tk}{vs:List Value}{ps:List Part}{Lo Hi:Nat→Nat}
theorem yg{o1:Obj}(hb:b<W.heap.size)(h:W.cell? (aC b i)=some v):(W.alloc o1).cell? (aC b i)=some v:=iY ((aB _ W).alloc (ax _) o1) hb h
theorem Un{o1 o2:Obj}(hb:b<W.heap.size)(h:W.cell? (aC b i)=some v):((W.alloc o1).alloc o2).cell? (aC b i)=some v:=iY (((aB _ W).alloc (ax _) o1).alloc aT o2) hb h
theorem vG.missed{w5:aG}{g cap:Nat}(h:vG w rb s L tv a dp lo B k rv vs ps Lo Hi)(x:ah)
  (hgrow:((w.alloc (gH 1 0 x (.slice none 0 0) 0 0 0 0 false)).alloc (.cells #[aH w.heap.size] 51)).grownBy w5 rv.ownBlock) (hown:w5.ownsRow lo 51 1 (.slice (b_ g) (vs.length+1) cap) (vs.length+1) (vs++[aH w.heap.size])) (hat:rv.ownBlock=some g∨g=w.heap.size+2) :
  kV w rb s L tv dp lo B k rv (ps++[.miss x]) (aR s L a) (w5.setCell (aC B 3) (.slice (b_ g) (vs.length+1) cap)):=by
 have kN:∀ o1 o2:Obj,Below w.heap.size w ((w.alloc o1).alloc o2):=fun o1 o2=>((aB _ w).alloc (ax _) o1).alloc aT o2
 have hblk:((w.alloc (gH 1 0 x (.slice none 0 0) 0 0 0 0 false)).alloc (.cells #[aH w.heap.size] 51)).heap[w.heap.size]?=some (gH 1 0 x (.slice none 0 0) 0 0 0 0 false):=(eG _ _ aT).trans (aI w _);exact h.put (On.aN rb (kN _ _)) (h.iW.below (kN _ _)) (nu.miss hblk) (ax _) aT hgrow hown (hat.imp id (fun e=>by rw[e];simp))
theorem vG.FI(h:vG w rb s L tv a dp lo B k rv vs ps Lo Hi) :
  w.cell? (aC B 3)=some rv∧w.frozen? (aC B 3)=false∧B<w.heap.size∧lo≤w.heap.size∧Hid (some B≠rv.ownBlock)∧Hid (vs.length=ps.length) :=
 ⟨h.nd.facts.2.1,h.nd.facts.2.2.2,h.nd.lt,dI h.nd.ge (Nat.le_of_lt h.nd.lt),fun e=>h.nd.ne e.symm,h.nd.pq.len⟩
theorem Pw(s:ByteArray)(L:List Tk)(dp:Nat)(hS:iU s L)(x:ah)(rb:Nat)(tv:Value)(a lo B k:Nat)(rv:Value)(vs:List Value)(ps:List Part)(Lo Hi:Nat→Nat)(w:aG)(h:vG w rb s L tv a dp lo B k rv vs ps Lo Hi)(hl:ps.length+(X.want x (aR s L a)).1.length≤1073741824) :
  bB 63 #[aH rb,aH B,.string (ba x)] w fun en w'=>en=.returned (.tuple #[])∧Hid (kV w rb s L tv dp lo B k rv (ps++(X.want x (aR s L a)).1) (X.want x (aR s L a)).2 w'):=by
 obtain⟨i0,hi0,hz0,hz1,hz2⟩:=dM qM;have HW:=aA h;have HI:=aA (zF rb s L tv a dp x w hS h.iW);clear h;cases hp:dJ x (aR s L a) with
 | true =>
  have e1:X.want x (aR s L a)=X.take (aR s L a):=by unfold X.want;rw[aU hp]
  rw[e1] at hl ⊢;rw[hp] at HI;clear e1 hp;go_enter func63,ntmps63;go_wp2_with fail
  refine(HI.o).aX fun w1 k1=>?_;have HW1:=aA ((HW.o).below k1);have Dh:=aA k1;clear k1;go_wp2_with fail
  refine(gT s L dp hS rb tv a lo B k rv vs ps Lo Hi w1 (HW1.o) trivial hl).aX fun w2 H2=>?_;go_wp2_with fail
  go_end0;exact⟨rfl,kV.trans (fun _ hg=>.inl hg) (Kp.aN Dh.o _) H2.o⟩
 | false =>
  have e1:X.want x (aR s L a)=([.miss x],aR s L a):=by unfold X.want;rw[aM (by rw[hp];simp)]
  rw[e1] at hl ⊢;rw[hp] at HI;clear e1 hp;go_enter func63,ntmps63;go_wp2_with fail
  refine(HI.o).aX fun w1 k1=>?_;have HW1:=aA ((HW.o).below k1);have Dh:=aA k1;clear k1;obtain⟨b3,f3,hbl,hlo,HN,hvl⟩:=(HW1.o).FI;simp only[bF] at hl;have hvb:vs.length≤1073741823:=by rw[hvl.o];omega
  go_wp2_with (at_builtin;refine wpList_append_lies _ rfl _ _ 35 rfl lo 51 i0 _ 1 8 underlying35 hi0 hz0 hz1 hz2 rfl aS rv vs.length _ rfl (((HW1.o).nd.row.alloc _).alloc _) ⟨w1.heap.size+1,0,none⟩ 1 1 [aH w1.heap.size] rfl rfl (World.news_of_block (cs:=#[aH w1.heap.size]) (at_new (w1.alloc _) _ (fB w1 _))) (by simp[Value.oneCell']) au (by unfold maxLen;omega) au aQ (w1.heap.size+2) aT ?_;intro g cap5 w5 hown5 aV gI jm;have x1:=(aV.cell_far ⟨B,3,none⟩ aQ (HN.o)).trans (Un hbl b3);have x2:=(aV.frozen_far ⟨B,3,none⟩ aQ (HN.o)).trans ((bD _ _ ⟨B,3,none⟩ aQ).trans ((bD _ _ ⟨B,3,none⟩ aQ).trans f3));have HX:=aA ((HW1.o).missed x aV hown5 gI);clear hown5 aV)
  go_end0;exact⟨rfl,kV.trans (fun _ hg=>.inl hg) (Kp.aN Dh.o _) HX.o⟩
theorem ko(s:ByteArray)(L:List Tk)(dp:Nat)(hS:iU s L):nM 64 X.bE (fun _=>True) s L dp:=by
 intro rb tv a lo B k rv vs ps Lo Hi w h _ hl;obtain⟨i0,hi0,hz0,hz1,hz2⟩:=dM qM;have HW:=aA h;have HI:=aA (yc rb s L tv a dp w hS h.iW);clear h;cases hp:(dm (aR s L a)==3) with
 | true =>
  have e1:X.bE (aR s L a)=X.take (aR s L a):=by unfold X.bE;rw[aU hp]
  rw[e1] at hl ⊢;have hk:dm (aR s L a)=3:=by simpa using hp
  rw[hk] at HI;clear e1 hp hk;go_enter func64,ntmps64;go_wp2_with fail
  refine(HI.o).aX fun w1 k1=>?_;have HW1:=aA ((HW.o).below k1);have Dh:=aA k1;clear k1;go_wp2_with fail
  refine(gT s L dp hS rb tv a lo B k rv vs ps Lo Hi w1 (HW1.o) trivial hl).aX fun w2 H2=>?_;go_wp2_with fail
  go_end0;exact⟨rfl,kV.trans (fun _ hg=>.inl hg) (Kp.aN Dh.o _) H2.o⟩
 | false =>
  have e1:X.bE (aR s L a)=([.miss gy],aR s L a):=by unfold X.bE;rw[aM (by rw[hp];simp)]
  rw[e1] at hl ⊢;have hk:((dm (aR s L a):Int)==3)=false:=by rw[← hp,gq];simp;omega
  clear e1 hp;go_enter func64,ntmps64;go_wp2_with fail
  refine(HI.o).aX fun w1 k1=>?_;have HW1:=aA ((HW.o).below k1);have Dh:=aA k1;clear k1;obtain⟨b3,f3,hbl,hlo,HN,hvl⟩:=(HW1.o).FI;simp only[bF] at hl;have hvb:vs.length≤1073741823:=by rw[hvl.o];omega
  go_wp2_with (at_builtin;refine wpList_append_lies _ rfl _ _ 35 rfl lo 51 i0 _ 1 8 underlying35 hi0 hz0 hz1 hz2 rfl aS rv vs.length _ rfl (((HW1.o).nd.row.alloc _).alloc _) ⟨w1.heap.size+1,0,none⟩ 1 1 [aH w1.heap.size] rfl rfl (World.news_of_block (cs:=#[aH w1.heap.size]) (at_new (w1.alloc _) _ (fB w1 _))) (by simp[Value.oneCell']) au (by unfold maxLen;omega) au aQ (w1.heap.size+2) aT ?_;intro g cap5 w5 hown5 aV gI jm;have x1:=(aV.cell_far ⟨B,3,none⟩ aQ (HN.o)).trans (Un hbl b3);have x2:=(aV.frozen_far ⟨B,3,none⟩ aQ (HN.o)).trans ((bD _ _ ⟨B,3,none⟩ aQ).trans ((bD _ _ ⟨B,3,none⟩ aQ).trans f3));have HX:=aA ((HW1.o).missed gy aV hown5 gI);clear hown5 aV)
  go_end0;exact⟨rfl,kV.trans (fun _ hg=>.inl hg) (Kp.aN Dh.o _) HX.o⟩
end
section
open Tryz
open M
open X
variable{w w1 W:aG}{rb dp lo B k N a:Nat}{s:ByteArray}{L:List Tk}{tv rv:Value}{ps1 ps:List Part}{dh ts':List X.Tok}{p:Part}{vs:List Value}{Lo Hi:Nat→Nat}
theorem kV.go(h:kV w rb s L tv dp lo B k rv ps1 dh w1){fn:FuncId}{F:X.R}(hR:nM fn F (fun _=>True) s L dp)(hb:ps1.length+(F dh).1.length≤1073741824) :
  Calls prog fn #[aH rb,aH B] w1 fun en w2=>en=.returned (.tuple #[])∧Hid (kV w rb s L tv dp lo B k rv (ps1++(F dh).1) (F dh).2 w2):=by
 obtain⟨a',rv',vs',BO,BP,g1,rfl,g3,g4⟩:=h;exact(hR rb tv a' lo B k rv' vs' ps1 BO BP w1 g1 trivial hb).mono (fun e w2 h=>⟨h.1,kV.trans g3 g4 h.2.o⟩)
theorem kV.want{w w1:aG}{rb:Nat}{s:ByteArray}{L:List Tk}{tv:Value}{dp lo B k:Nat}{rv:Value}{ps1:List Part}{dh:List X.Tok}(h:kV w rb s L tv dp lo B k rv ps1 dh w1)(hS:iU s L)(x:ah)(hb:ps1.length+(X.want x dh).1.length≤1073741824) :
  bB 63 #[aH rb,aH B,.string (ba x)] w1 fun en w2=>en=.returned (.tuple #[])∧Hid (kV w rb s L tv dp lo B k rv (ps1++(X.want x dh).1) (X.want x dh).2 w2):=by
 obtain⟨a',rv',vs',BO,BP,g1,rfl,g3,g4⟩:=h;exact(Pw s L dp hS x rb tv a' lo B k rv' vs' ps1 BO BP w1 g1 hb).mono (fun e w2 h=>⟨h.1,kV.trans g3 g4 h.2.o⟩)
theorem kV.is(h:kV w rb s L tv dp lo B k rv ps1 dh w1)(hS:iU s L)(x:ah) :
  bB 61 #[aH rb,.string (ba x)] w1 (cK (.bool (dJ x dh)) fun w2=>Hid (kV w rb s L tv dp lo B k rv ps1 dh w2)):=by
 have h0:=h;obtain⟨a',rv',vs',BO,BP,g1,rfl,g3,g4⟩:=h;exact(zF rb s L tv a' dp x w1 hS g1.iW).mono (fun e w2 h=>⟨h.1,h0.next h.2⟩)
theorem kV.at{w w1:aG}{rb:Nat}{s:ByteArray}{L:List Tk}{tv:Value}{dp lo B k:Nat}{rv:Value}{ps1:List Part}{dh:List X.Tok}(h:kV w rb s L tv dp lo B k rv ps1 dh w1):L.length - JJ rb w1=dh.length:=by
 obtain⟨a',rv',vs',BO,BP,g1,rfl,g3,g4⟩:=h;rw[g1.iW.at];unfold aR;rw[cB,bV]
theorem kV.aX8(h:kV w rb s L tv dp lo B k rv ps1 dh w1):dh.length≤L.length:=by rw[← h.at];omega
theorem xZ.new{w:aG}{rb:Nat}{s:ByteArray}{L:List Tk}{tv:Value}{a dp:Nat}(h:xZ w rb s L tv a dp)(k:Nat):kV (w.alloc (gH k 0 [] (.slice none 0 0) 0 0 0 0 false)) rb s L tv dp w.heap.size w.heap.size k (.slice none 0 0) [] (aR s L a) (w.alloc (gH k 0 [] (.slice none 0 0) 0 0 0 0 false)) :=
 kV.refl ⟨h.below ((aB _ w).alloc (ax _) _),Mk.new w k,h.lt,fun q e=>(h.own q e).2⟩
def ql(w:aG)(rb:Nat)(s:ByteArray)(L:List Tk)(tv:Value)(dp:Nat)(p:Part)(ts':List X.Tok)(N:Nat)(w':aG):Prop :=
 ∃ a',xZ w' rb s L tv a' dp∧aR s L a'=ts'∧nu w' w.heap.size w'.heap.size (aH N) (X.raw p)∧On rb w w'
def qK(fn:FuncId)(args:Value→Array Value)(F:X.R)(s:ByteArray)(L:List Tk)(dp:Nat):Prop :=
 ∀(rb:Nat) (tv:Value) (a:Nat) (w:aG),xZ w rb s L tv a dp→Calls prog fn (args (aH rb)) w fun e w'=>∃ N p,e=.returned (aH N)∧Hid ((F (aR s L a)).1=[p])∧Hid (ql w rb s L tv dp p (F (aR s L a)).2 N w')
theorem ql.at{w w1:aG}{rb:Nat}{s:ByteArray}{L:List Tk}{tv:Value}{dp N:Nat}{p:Part}{dh:List X.Tok}(h:ql w rb s L tv dp p dh N w1):L.length - JJ rb w1=dh.length:=by
 obtain⟨a',g1,rfl,g3,g4⟩:=h;rw[g1.at];unfold aR;rw[cB,bV]
theorem ql.next{w2:aG}(h:ql w rb s L tv dp p dh N w1)(hk:Below w1.heap.size w1 w2):ql w rb s L tv dp p dh N w2:=by
 obtain⟨a',g1,g2,g3,g4⟩:=h;exact⟨a',g1.below hk,g2,(g3.kept hk).wide (ax _) hk.size,g4.to (On.aN rb hk)⟩
theorem ql.is(h:ql w rb s L tv dp p dh N w1)(hS:iU s L)(x:ah) :
  bB 61 #[aH rb,.string (ba x)] w1 (cK (.bool (dJ x dh)) fun w2=>Hid (ql w rb s L tv dp p dh N w2)):=by
 have h0:=h;obtain⟨a',g1,rfl,g3,g4⟩:=h;exact(zF rb s L tv a' dp x w1 hS g1).mono (fun e w2 h=>⟨h.1,h0.next h.2⟩)
theorem kV.closed{w4:aG}{zC:List Part}{xX:Value}(h:kV W rb s L tv dp w.heap.size N k xX zC ts' w4)(hk:On rb w W)(hr:∀ g,xX.ownBlock=some g→w.heap.size≤g):ql w rb s L tv dp (.br k zC) ts' N w4:=by
 obtain⟨a',rv',vs',BO,BP,g1,g2,g3,g4⟩:=h;have hge:=g1.nd.ge;refine⟨a',g1.iW,g2,g1.nd.done,Kp.trans hk g4 (fun i hi e=>?_)⟩;rcases e with e|e|e
 ·exact e
 ·omega
 ·have:=hr i e;omega
theorem vG.take{w5:aG}{g cap:Nat}(h:vG w rb s L tv a dp lo B k rv vs ps Lo Hi)(hg:ql w rb s L tv dp p ts' N W){o:Obj}
  (hgrow:(W.alloc o).grownBy w5 rv.ownBlock) (hown:w5.ownsRow lo 51 1 (.slice (b_ g) (vs.length+1) cap) (vs.length+1) (vs++[aH N])) (hat:rv.ownBlock=some g∨g=W.heap.size+1) :
  kV w rb s L tv dp lo B k rv (ps++[p]) ts' (w5.setCell (aC B 3) (.slice (b_ g) (vs.length+1) cap)):=by
 obtain⟨a',g1,rfl,g3,g4⟩:=hg;have kN:=(aB _ W).alloc (ax _) o;exact h.put (g4.to (On.aN rb kN)) (g1.below kN) (g3.kept kN) (ax _) aT hgrow hown (hat.imp id (fun e=>by rw[e];simp))
theorem vG.mg(h:vG w rb s L tv a dp lo B k rv vs ps Lo Hi)(hg:ql w rb s L tv dp p ts' N W) :
  W.cell? (aC B 3)=some rv∧W.frozen? (aC B 3)=false∧B<W.heap.size∧lo≤W.heap.size∧Hid (some B≠rv.ownBlock)∧Hid (vs.length=ps.length)∧Hid (W.ownsRow lo 51 1 rv vs.length vs):=by
 obtain⟨a',g1,g2,g3,g4⟩:=hg;have h2:=h.moved g4 g1;obtain⟨a1,a2,a3,a4,a5,a6⟩:=h2.FI;exact⟨a1,a2,a3,a4,a5,a6,h2.nd.row⟩
end
end Go.Proofs.YtoohcklcppnafaaGreatDoor
