import Derived.Test.YtoohcklcppnafaaGreatDoorHa
import Derived.Deep.AppendLies
import Derived.Handy
namespace Go.Proofs.YtoohcklcppnafaaGreatDoor
set_option maxRecDepth 100000
set_option maxHeartbeats 4000000
open Tryz
open Go.RowKit
open M
section
variable{L:List Tk}{w w':aG}{v:Value}{e:TypeId}{B z n:Nat}{xs:List Value}
def uq(t:Tk):List Value:=[ak (t.kind:Int),ak (t.pos:Int),ak (t.len:Int)]
theorem E8{i j:Nat}{t:Tk}(ht:L[i]?=some t)(hj:j<3):(L.flatMap uq)[i*3+j]?=(uq t)[j]?:=by
 induction L generalizing i with
 | nil=>simp at ht
 | cons a L ih =>
  cases i with
  | zero =>
   obtain rfl:a=t:=by simpa using ht
   rw[nX,bT (by simp[uq];omega)];simp
  | succ i =>
   rw[nX,bL (by simp[uq];omega),show(i+1)*3+j - (uq a).length=i*3+j by simp[uq];omega];exact ih (by simpa using ht)
def yt(w:aG)(v:Value)(L:List Tk):Prop :=
 ∃ ao cap,v=.slice ao L.length cap∧L.length≤cap∧cap≤maxLen∧(∀ i,i<L.length→∃ b o,ao=some ⟨b,o,none⟩∧∀ t,L[i]?=some t →
  w.cell? (aC b (o+i*3))=some (ak t.kind)∧w.cell? (aC b (o+i*3+1))=some (ak t.pos)∧w.cell? (aC b (o+i*3+2))=some (ak t.len))
theorem yt.keep{S:Nat→Prop}(h:yt w v L)(hk:Kp S w w')(hn:∀ k,v.ownBlock=some k→¬ S k):yt w' v L:=by
 obtain⟨ao,cap,rfl,h1,h2,h3⟩:=h;refine⟨ao,cap,rfl,h1,h2,fun i hi=>?_⟩;obtain⟨b,o,rfl,ha⟩:=h3 i hi;refine⟨b,o,rfl,fun r hr=>?_⟩;obtain⟨q1,q2,q3⟩:=ha r hr;have hs:¬ S b:=hn b rfl;exact⟨hk.dD q1 hs,hk.dD q2 hs,hk.dD q3 hs⟩
theorem yt.below(h:yt w v L)(hk:Below w.heap.size w w'):yt w' v L :=
 h.keep (Kp.aN hk (fun _=>False)) (fun _ _=>id)
theorem yt.zP{base:Nat}(h:w.ownsRow base e 3 v L.length (L.flatMap uq)):yt w v L:=by
 have hc:=fun g hg=>h.cells (g:=g) hg
 rcases h.2 with ⟨rfl,h0⟩|⟨g,cap,cur,rfl,hb,hg,hn,hm,hs,ht⟩
 ·exact⟨none,0,by rw[h0],au,by unfold maxLen;omega,fun i hi=>au⟩
 ·refine⟨_,cap,rfl,hn,hm,fun i hi=>⟨_,_,rfl,fun r hr=>?_⟩⟩
  have hc':=hc g rfl;have ad:∀ n,(⟨g,0,none⟩:Addr).add n=⟨g,0+n,none⟩:=by intro n;unfold Addr.add;split<;>simp_all
  have c0:=hc' (i*3) _ ((E8 hr (au:0<3)).trans rfl);have c1:=hc' (i*3+1) _ ((E8 hr (au:1<3)).trans rfl);have c2:=hc' (i*3+2) _ ((E8 hr (au:2<3)).trans rfl);rw[ad] at c0 c1 c2;exact⟨c0,by rw[fK];exact c1,by rw[fK];exact c2⟩
theorem CS{B':Nat}(h:w.ownsRow B e z v n xs)(hB:B'≤B):w.ownsRow B' e z v n xs:=by
 refine⟨h.1,?_⟩;rcases h.2 with h'|⟨g,cap,cur,rfl,hb,rest⟩
 ·exact .inl h'
 ·exact .inr ⟨g,cap,cur,rfl,au,rest⟩
def lenOf:Value→Nat|.slice _ n _=>n|_=>0
theorem Sn(h:w.ownsRow B e z v n xs):lenOf v=n:=by
 rcases h.2 with ⟨rfl,rfl⟩|⟨g,cap,cur,rfl,_⟩<;>rfl
theorem dG(h:w.ownsRow B e z v n xs):∀ k,v.ownBlock=some k→B≤k∧k<w.heap.size:=by
 rcases h.2 with ⟨rfl,rfl⟩|⟨g,cap,cur,rfl,hb,hg,_⟩
 ·intro k hk;simp[Value.ownBlock] at hk
 ·intro k hk;simp[Value.ownBlock] at hk;subst hk;exact⟨hb,bN hg⟩
theorem R9:(prog.info? 155).map (fun i=>(i.zero,i.size,i.bytes))=some (some (.agg #[ak 0,ak 0,ak 0]),3,24):=bC
structure aU7(w0:aG)(B b:Nat)(s:ByteArray)(L0:List Tk)(q:Nat)(v:Value)(w:aG):Prop where
 iW:nW w b s q
 row:w.ownsRow B 155 3 v L0.length (L0.flatMap uq)
 far:b<B
 on:On b w0 w
 le:L0.length≤q
theorem CZ(L:List Tk)(t:Tk):(L++[t]).flatMap uq=L.flatMap uq++uq t:=aT
theorem KN(s:ByteArray)(w:aG)(hT:nE w)(hs:s.size≤1073741824) :
  bB 81 #[.string s] w fun e w'=>∃ v,e=.returned v∧w'.ownsRow w.heap.size 155 3 v (toks 0 (bs s)).length ((toks 0 (bs s)).flatMap uq)∧Below w.heap.size w w':=by
 obtain⟨i0,hi0,hz0,hz1,hz2⟩:=dM R9;go_enter func81,ntmps81;go_wp2_with fail
 refine(v_ s 0 _ hT (bJ _) au).aX ?_;rintro w1 ⟨r1,k1⟩;have hz:=k1.size;have hbl:=r1.raw.lt;have K1:=aA k1;clear k1;go_wp2_with fail
 go_loopw [3] (fun v wr=>∃(L0:List Tk) (q:Nat),Hid (aU7 w1 w1.heap.size w.heap.size s L0 q v wr∧toks 0 (bs s)=L0++toks q ((bs s).drop q))) (fun v _=>s.size - lenOf v)
 case atStart=>exact⟨[],0,⟨⟨r1,dK _ _ _ _,hbl,Kp.refl _ _,ax _⟩,aT⟩⟩
 case round =>
  obtain⟨L0,q,HI⟩:=hrel;have hq:=(HI.o).1.iW.le;have hl0:=(HI.o).1.le;obtain⟨⟨c0,c1,c2,c3⟩,-⟩:=(HI.o).1.iW.raw.facts;by_cases hlt:q<s.size
  ·have hne:(cc ((bs s).drop q) !=-1)=true:=by
    have:=iJ hlt;simp only[bne_iff_ne,ne_eq,qC];exact this
   go_wp2_with fail
   refine(Da w.heap.size s q _ (HI.o).1.iW hlt).aX ?_;rintro w2 ⟨r2,k2⟩;have how:w2.ownsRow w1.heap.size 155 3 u3 L0.length (L0.flatMap uq):=Kp.owns k2 (HI.o).1.row (fun k hk e=>by have:=(dG (HI.o).1.row k hk).1;omega);have HO:=aA how;have hsz2:w1.heap.size≤w2.heap.size:=dI (HI.o).1.on.size k2.size;have HK:=aA (And.intro r2 k2);clear how r2 k2 c0 c1 c2 c3;go_wp2_with (at_builtin;refine wpList_append_lies _ rfl _ _ 184 rfl w1.heap.size 155 i0 _ 3 24 underlying184 hi0 hz0 hz1 hz2 rfl aS u3 L0.length _ rfl ((HO.o).alloc _) ⟨w2.heap.size,0,none⟩ 1 1 (uq ⟨(tok ((bs s).drop q)).1,q,(tok ((bs s).drop q)).2⟩) rfl rfl (World.news_of_block (cs:=#[ak (tok ((bs s).drop q)).1,ak q,ak (tok ((bs s).drop q)).2]) (aI w2 _)) (by simp[Value.oneCell',uq]) au (by unfold maxLen;omega) au aQ (w2.heap.size+1) aT ?_;intro g cap w5 hown5 aV gI jm)
   have hrow:=(HI.o).1.row;have hge:=dG hrow;have h7:=hT.2;obtain⟨r2,k2⟩:=HK.o;have kW:Kp (fun k=>u3.ownBlock=some k) w2 w5:=Kp.grown (Kp.alloc (Kp.refl _ w2) _) aV (fun k e _=>e);have hb:=jG (iJ hlt);refine⟨⟨L0++[⟨(tok ((bs s).drop q)).1,q,(tok ((bs s).drop q)).2⟩],q+(tok ((bs s).drop q)).2,⟨⟨r2.keep kW (fun e=>by have:=(hge _ e).1;omega) (fun k hk e=>by have:=(hge _ e).1;omega),?_,hbl,?_,?_⟩,?_⟩⟩,?_⟩
   ·rw[CZ,ay];exact hown5
   ·exact Kp.trans ((HI.o).1.on.to k2) kW (fun i hi e=>by have:=(hge _ e).1;omega)
   ·rw[ay];simp only[bF];omega
   ·rw[(HI.o).2,kZ (iJ hlt),cZ];simp
   ·rw[Sn hrow];simp only[lenOf];omega
  ·have hqe:q=s.size:=by omega
   have HE:Hid ((bs s).drop q=[]):=by show _=_;rw[hqe,← eY];simp
   rw[HE.o,lC] at c2;clear hqe;go_wp2_with fail
   go_ret;have e1:toks 0 (bs s)=L0:=by have:=(HI.o).2;rw[HE.o,jS,aL] at this;exact this
   rw[e1];refine⟨_,rfl,CS (HI.o).1.row hz,(K1.o).trans ?_⟩;exact(HI.o).1.on.below hz (ax _)
theorem yt.get{w wr:aG}{ao:Option Addr}{n cap:Nat}{L:List Tk}(h:yt w (.slice ao n cap) L)(hb:Below w.heap.size w wr){k:Nat}(hk:k<L.length) :
  ∃ b o t,ao=some ⟨b,o,none⟩∧L[k]?=some t∧wr.cell? (aC b (o+k*3))=some (ak t.kind)∧wr.cell? (aC b (o+k*3+1))=some (ak t.pos)∧wr.cell? (aC b (o+k*3+2))=some (ak t.len):=by
 obtain⟨_,_,e,_,_,h3⟩:=h.below hb;cases e
 obtain⟨b,o,ha,h4⟩:=h3 k hk;obtain⟨q1,q2,q3⟩:=h4 L[k] (aF hk);exact⟨b,o,L[k],ha,aF hk,q1,q2,q3⟩
theorem drop_at{L:List Tk}{k:Nat}{t:Tk}(h:L[k]?=some t):L.drop k=t::L.drop (k+1):=by
 have hk:k<L.length:=by
  rcases cu k L.length with h'|h'
  ·exact h'
  ·rw[bf h'] at h;cases h
 rw[aF hk] at h;cases h
 exact dS hk
structure PY(w:aG)(b:Nat)(v:Value)(s:ByteArray):Prop where
 text:w.cell? (aC b 0)=some (.string s)
 held:w.cell? (aC b 1)=some v
 row:yt w v (toks 0 (bs s))
theorem PY.below{w w':aG}{b:Nat}{v:Value}{s:ByteArray}(h:PY w b v s)(hk:Below w.heap.size w w'):PY w' b v s :=
 ⟨(Kp.aN hk (fun _=>False)).dD h.text id,(Kp.aN hk (fun _=>False)).dD h.held id,h.row.below hk⟩
theorem V7(s:ByteArray)(w:aG)(hT:nE w)(hs:s.size≤1073741824) :
  bB 48 #[.string s] w fun e w'=>∃ b,e=.returned (aH b)∧Hid (∃ v,w.heap.size≤b∧b<w'.heap.size∧PY w' b v s∧(∀ k,v.ownBlock=some k→w.heap.size≤k∧k<b)∧Below w.heap.size w w'):=by
 go_enter func48,ntmps48;go_wp2_with fail
 refine(KN s _ hT hs).mono ?_;rintro e w1 ⟨v,rfl,hown,k1⟩;have HO:=aA (dG hown);have HR:=aA (yt.zP hown);have K1:=aA k1;obtain⟨ao,cap,rfl,-⟩:=yt.zP hown;clear hown k1;go_wp2_with fail
 go_ret;refine⟨w1.heap.size,rfl,_,(K1.o).size,aT,⟨?_,?_,(HR.o).below ((aB _ w1).alloc (ax _) _)⟩,HO.o,(K1.o).alloc (K1.o).size _⟩
 ·rw[aj _ _ 0 _ _ _ (aI w1 _)];rfl
 ·rw[aj _ _ 1 _ _ _ (aI w1 _)];rfl
theorem R7(b:Nat)(v:Value)(s:ByteArray)(w:aG)(h:PY w b v s) :
  bB 72 #[aH b] w (cK (.string s) fun w'=>Below w.heap.size w w'):=by
 obtain⟨q1,q2,-⟩:=h;go_enter func72,ntmps72;go_wp2_with fail
 go_ret;exact⟨rfl,aB _ _⟩
end
section
variable{w w':aG}{rb:Nat}{s wd:ByteArray}{tv:Value}{a n k dp:Int}
def kr(w:aG)(rb:Nat)(s:ByteArray)(tv:Value)(a n k:Int)(wd:ByteArray)(dp:Int):Prop:=w.heap[rb]?=some (.cells #[.string s,tv,ak a,ak n,ak k,.string wd,ak dp] 190 (0,0))
theorem kr.facts(h:kr w rb s tv a n k wd dp) :
  (w.cell? (aC rb 0)=some (.string s)∧w.cell? (aC rb 1)=some tv∧w.cell? (aC rb 2)=some (ak a)∧w.cell? (aC rb 3)=some (ak n)∧w.cell? (aC rb 4)=some (ak k)∧w.cell? (aC rb 5)=some (.string wd)∧w.cell? (aC rb 6)=some (ak dp)) ∧
  (w.frozen? (aC rb 0)=false∧w.frozen? (aC rb 1)=false∧w.frozen? (aC rb 2)=false∧w.frozen? (aC rb 3)=false∧w.frozen? (aC rb 4)=false∧w.frozen? (aC rb 5)=false∧w.frozen? (aC rb 6)=false):=by
 unfold kr at h;refine⟨⟨?_,?_,?_,?_,?_,?_,?_⟩,?_,?_,?_,?_,?_,?_,?_⟩<;>simp[World.cell?,World.frozen?,h]
theorem kr.lt(h:kr w rb s tv a n k wd dp):rb<w.heap.size:=bN h
theorem kr.keep{S:Nat→Prop}(h:kr w rb s tv a n k wd dp)(hk:Kp S w w')(hn:¬ S rb):kr w' rb s tv a n k wd dp:=hk.heap h hn
theorem kr.below(h:kr w rb s tv a n k wd dp)(hk:Below w.heap.size w w'):kr w' rb s tv a n k wd dp:=h.keep (Kp.aN hk (fun _=>False)) id
theorem kr.set2(h:kr w rb s tv a n k wd dp)(y:Int):kr (w.setCell (aC rb 2) (ak y)) rb s tv y n k wd dp:=by
 unfold kr at h ⊢;simp[World.setCell,aZ,h]
theorem kr.EZ(h:kr w rb s tv a n k wd dp)(y:Int):kr (w.setCell (aC rb 3) (ak y)) rb s tv a y k wd dp:=by
 unfold kr at h ⊢;simp[World.setCell,aZ,h]
theorem kr.wH(h:kr w rb s tv a n k wd dp)(y:Int):kr (w.setCell (aC rb 4) (ak y)) rb s tv a n y wd dp:=by
 unfold kr at h ⊢;simp[World.setCell,aZ,h]
theorem kr.Fp(h:kr w rb s tv a n k wd dp)(y:ByteArray):kr (w.setCell (aC rb 5) (.string y)) rb s tv a n k y dp:=by
 unfold kr at h ⊢;simp[World.setCell,aZ,h]
theorem kr.Fq(h:kr w rb s tv a n k wd dp)(y:Int):kr (w.setCell (aC rb 6) (ak y)) rb s tv a n k wd y:=by
 unfold kr at h ⊢;simp[World.setCell,aZ,h]
def qk(t:Tk):Bool:=t.kind==1||t.kind==2
theorem yJ(k:Int)(w:aG):bB 133 #[ak k] w (cK (.bool (decide (k=1∨k=2))) fun w'=>w'=w):=by
 by_cases h1:k=1
 ·subst h1
  go_enter func133,ntmps133;go_wp2_with fail
  go_ret;exact⟨rfl,rfl⟩
 ·have i1:(k==1)=false:=by simpa using h1
  by_cases h2:k=2
  ·subst h2
   go_enter func133,ntmps133;go_wp2_with fail
   go_ret;exact⟨rfl,rfl⟩
  ·have i2:(k==2)=false:=by simpa using h2
   have HD:Hid (decide (k=1∨k=2)=false):=by show _=_;simp[h1,h2]
   rw[HD.o];clear h1 h2;go_enter func133,ntmps133;go_wp2_with fail
   go_ret;exact⟨rfl,rfl⟩
theorem Fu(rb:Nat)(s wd:ByteArray)(tv:Value)(L:List Tk)(a n k dp:Int)(w:aG)(h:kr w rb s tv a n k wd dp)(hT:yt w tv L)(hL:L.length≤1073741824)(p:Nat)(hp:p≤1073741824)(q:Nat)(HQ:Hid (p+((L.drop p).takeWhile qk).length=q)) :
  bB 112 #[aH rb,ak p] w (cK (ak q) fun w'=>Below w.heap.size w w'):=by
 have HR:=aA h;have HT:=aA hT;obtain⟨ao,cap,rfl,hc1,hc2,-⟩:=hT;clear h;go_enter func112,ntmps112;go_wp2_with fail
 go_loopw [1] (fun v wr=>∃ j:Nat,v=ak ((p+j:Nat):Int)∧p+j≤p+L.length∧Hid (((L.drop p).takeWhile qk).length=j+((L.drop (p+j)).takeWhile qk).length)∧Hid (Below w.heap.size w wr)) (fun v _=>p+L.length - (intOf v).toNat)
 case atStart=>exact⟨0,rfl,au,(by show _=_;simp),aB _ w⟩
 case round =>
  obtain⟨j,rfl,hj,HJ,HB⟩:=hrel;obtain⟨⟨c0,c1,c2,c3,c4,c5,c6⟩,-⟩:=((HR.o).below HB.o).facts;have hjb:p+j≤2147483648:=au
  generalize hm:p+j=m at *;have HM:=aA hm;clear hm;by_cases hlt:m<L.length
  case neg =>
   have i1:decide (m<L.length)=false:=aQ
   have i2:decide ((m:Int)<(L.length:Int))=false:=aQ
   have HE:Hid (q=m):=by
    have h0:=HQ.o;have h1:=HJ.o;have h2:=HM.o;rw[(List.drop_eq_nil_iff.2 (au):L.drop m=[])] at h1;show _=_;simp at h1;omega
   obtain rfl:=HE.o;go_wp2_with fail
   go_ret;exact⟨rfl,HB.o⟩
  obtain⟨b',o',t,rfl,ht,q1,q2,q3⟩:=(HT.o).get HB.o hlt;have i1:decide (m<L.length)=true:=aQ
  have i2:decide ((m:Int)<(L.length:Int))=true:=aQ
  have hd:=drop_at ht;by_cases hq:qk t=true
  ·have i3:decide ((t.kind:Int)=1∨(t.kind:Int)=2)=true:=by
    unfold qk at hq;simp at hq ⊢;omega
   have HJ':Hid (((L.drop p).takeWhile qk).length=(j+1)+((L.drop (m+1)).takeWhile qk).length):=by
    have h1:=HJ.o;show _=_;rw[hd,kX hq,aY] at h1;omega
   clear hd hq ht;go_wp2_with fail
   refine(yJ _ _).mono ?_;rintro e w2 ⟨rfl,rfl⟩;go_wp2_with fail
   refine⟨⟨j+1,?_,by have:=HM.o;omega,?_,HB.o⟩,by simp only[intOf];omega⟩
   ·rw[show p+(j+1)=m+1 by have:=HM.o;omega];rfl
   ·rw[show p+(j+1)=m+1 by have:=HM.o;omega];exact HJ'
  ·have hq':qk t=false:=by simpa using hq
   have i3:decide ((t.kind:Int)=1∨(t.kind:Int)=2)=false:=by
    unfold qk at hq';simp at hq' ⊢;omega
   have HE:Hid (q=m):=by
    have h0:=HQ.o;have h1:=HJ.o;have h2:=HM.o;rw[hd,fq (by simpa using hq')] at h1;show _=_;simp at h1;omega
   obtain rfl:=HE.o;clear hd hq ht hq';go_wp2_with fail
   refine(yJ _ _).mono ?_;rintro e w2 ⟨rfl,rfl⟩;go_wp2_with fail
   go_ret;exact⟨rfl,HB.o⟩
end
section
open X
variable{L:List Tk}{s:ByteArray}
def aR(s:ByteArray)(L:List Tk)(a:Nat):List X.Tok:=(L.drop a).map (uI (bs s))
def jO(L:List Tk)(a:Nat):Nat:=a+((L.drop a).takeWhile qk).length
theorem dropWhile_drop{α:Type}(p:α→Bool)(l:List α):l.dropWhile p=l.drop (l.takeWhile p).length:=by
 have h:=fE (p:=p) (l:=l);have:l.drop (l.takeWhile p).length=(l.takeWhile p++l.dropWhile p).drop (l.takeWhile p).length:=by rw[h]
 rw[this,List.drop_left]
theorem DF(l:ah):X.quiet ∘ uI l=qk:=rfl
theorem Iw(s:ByteArray)(L:List Tk)(a:Nat):(aR s L a).dropWhile X.quiet=aR s L (jO L a):=by
 unfold aR jO;rw[List.dropWhile_map,DF,dropWhile_drop,cZ]
theorem TD(s:ByteArray)(L:List Tk)(a:Nat):(aR s L a).takeWhile X.quiet=((L.drop a).takeWhile qk).map (uI (bs s)):=by
 unfold aR;rw[List.takeWhile_map,DF]
theorem zB(s:ByteArray)(L:List Tk)(a:Nat):pQ (aR s L a)=(L[jO L a]?).map (uI (bs s)):=by
 unfold pQ;rw[Iw];unfold aR;rw[List.head?_map,List.head?_drop]
theorem Iy(s:ByteArray)(L:List Tk)(a:Nat):dm (aR s L a)=match L[jO L a]? with|some t=>t.kind|none=>0:=by
 unfold dm;rw[zB];cases L[jO L a]?<;>rfl
theorem TF(s:ByteArray)(L:List Tk)(a:Nat):rZ (aR s L a)=match L[jO L a]? with|some t=>((bs s).drop t.pos).take t.len|none=>[]:=by
 unfold rZ;rw[zB];cases L[jO L a]?<;>rfl
theorem TG(L:List Tk)(a:Nat):a≤jO L a:=Nat.le_add_right _ _
theorem Bo{a:Nat}(h:a≤L.length):jO L a≤L.length:=by
 unfold jO;have:((L.drop a).takeWhile qk).length≤(L.drop a).length:=(List.takeWhile_sublist _).length_le;rw[bV] at this;omega
structure iU(s:ByteArray)(L:List Tk):Prop where
 size:s.size≤1073741823
 len:L.length≤268435456
 fit:∀ t∈L,t.pos+t.len≤s.size∧1≤t.kind∧t.kind≤8
 good:X.Good (L.map (uI (bs s)))
theorem iU.rem(h:iU s L)(a:Nat):X.Good (aR s L a):=by
 intro t ht;refine h.good t ?_;unfold aR at ht;obtain⟨t',h1,h2⟩:=fU.1 ht;exact fU.2 ⟨t',(List.drop_sublist _ _).subset h1,h2⟩
structure qA(w:aG)(rb:Nat)(s:ByteArray)(L:List Tk)(tv:Value)(a dp:Nat):Prop where
 raw:kr w rb s tv a (jO L a) (dm (aR s L a)) (ba (rZ (aR s L a))) dp
 row:yt w tv L
 le:a≤L.length
 own:∀ k,tv.ownBlock=some k→k≠rb
theorem qA.keep{S:Nat→Prop}{w w':aG}{rb:Nat}{s:ByteArray}{L:List Tk}{tv:Value}{a dp:Nat}(h:qA w rb s L tv a dp)(hk:Kp S w w')(hn:¬ S rb)(ht:∀ k,tv.ownBlock=some k→¬ S k):qA w' rb s L tv a dp :=
 ⟨h.raw.keep hk hn,h.row.keep hk ht,h.le,h.own⟩
theorem qA.below{w w':aG}{rb:Nat}{tv:Value}{a dp:Nat}(h:qA w rb s L tv a dp)(hk:Below w.heap.size w w'):qA w' rb s L tv a dp:=h.keep (Kp.aN hk (fun _=>False)) id (fun _ _=>id)
theorem xV(rb:Nat)(s wd:ByteArray)(L:List Tk)(tv:Value)(a dp:Nat)(n k:Int)(w:aG)(hS:iU s L)(h:kr w rb s tv a n k wd dp)(hT:yt w tv L)(ha:a≤L.length)(ho:∀ k,tv.ownBlock=some k→k≠rb) :
  bB 83 #[aH rb] w (cK (.tuple #[]) fun w'=>qA w' rb s L tv a dp∧On rb w w'):=by
 have h1:=hS.size;have h2:=hS.len;have HR:=aA h;have HT:=aA hT;have HF:=aA hS.fit;obtain⟨⟨c0,c1,c2,c3,c4,c5,c6⟩,f0,f1,f2,f3,f4,f5,f6⟩:=h.facts;clear h hT;go_enter func83,ntmps83;go_wp2_with fail
 refine(Fu rb s wd tv L a n k dp w HR.o HT.o au a au (jO L a) (rfl:_=_)).aX fun w1 k1=>?_;have HR1:=aA ((HR.o).below k1);have HT1:=aA ((HT.o).below k1);have Dh:=aA (On.aN rb k1);have hq:=Bo ha;clear k1 c0 c1 c2 c3 c4 c5 c6 f0 f1 f2 f3 f4 f5 f6 HR HT;obtain⟨⟨c0,c1,c2,c3,c4,c5,c6⟩,f0,f1,f2,f3,f4,f5,f6⟩:=(HR1.o).facts;have HK:=aA (Iy s L a);have HW:=aA (TF s L a);obtain⟨ao,cap,rfl,hc1,hc2,-⟩:=(HT1.o);by_cases hlt:jO L a<L.length
 ·obtain⟨b',o',t,rfl,ht,q1,q2,q3⟩:=(HT1.o).get (aB _ w1) hlt
  obtain⟨g1,g2,g3⟩:=(HF.o) t (dF ht);have hb':=ho b' rfl;rw[ht] at HK HW;have i1:decide (jO L a<L.length)=true:=aQ
  have i2:decide ((jO L a:Int)<(L.length:Int))=true:=aQ
  have HX:Hid (s.extract t.pos (t.pos+t.len)=ba (rZ (aR s L a))):=by
   show _=_;apply iD;rw[xH,rV,HW.o,oP,BD]
  have j1:(t.pos:Int)≤(t.pos:Int)+(t.len:Int):=au
  have j2:(t.pos:Int)+(t.len:Int)≤(s.size:Int):=au
  have j3:t.pos≤s.size:=au
  clear ht;have HR2:Hid (kr (((w1.setCell (aC rb 3) (ak (jO L a))).setCell (aC rb 4) (ak 0)).setCell (aC rb 5) (.string ⟨#[]⟩)) rb s (.slice (some ⟨b',o',none⟩) L.length cap) a (jO L a) 0 ⟨#[]⟩ dp):=(((HR1.o).EZ _).wH _).Fp _;have DJ:On rb w1 (((w1.setCell (aC rb 3) (ak (jO L a))).setCell (aC rb 4) (ak 0)).setCell (aC rb 5) (.string ⟨#[]⟩)):=On.set (On.set (On.set (Kp.refl _ w1) 3 _) 4 _) 5 _;have mU:=aA ((Dh.o).to DJ);have HT2:=aA ((HT1.o).keep DJ (fun k hk e=>ho k hk e));have p1:=DJ.dD q1 hb';have p2:=DJ.dD q2 hb';have p3:=DJ.dD q3 hb';go_wp2_with fail
  clear q1 q2 q3 c0 c1 c2 c3 c4 c5 c6 f0 f1 f2 f3 f4 f5 f6 HR1 HT1 DJ Dh;generalize ((w1.setCell (aC rb 3) (ak (jO L a))).setCell (aC rb 4) (ak 0)).setCell (aC rb 5) (.string ⟨#[]⟩)=W2 at *;obtain⟨⟨c0,c1,c2,c3,c4,c5,c6⟩,f0,f1,f2,f3,f4,f5,f6⟩:=(HR2.o).facts;have hrl:=(HR2.o).lt;go_quiet (fail)
  go_wp2_with fail
  have qz:=aA ((mU.o).to (On.drewN rb W2 nq));have HR3:Hid (kr (W2.drewN nq) rb s (.slice (some ⟨b',o',none⟩) L.length cap) a (jO L a) 0 ⟨#[]⟩ dp):=HR2.o;have HT3:=aA ((HT2.o).keep (On.drewN rb W2 nq) (fun k hk e=>ho k hk e));have r1:(W2.drewN nq).cell? (aC b' (o'+jO L a*3))=_:=p1;have r2:(W2.drewN nq).cell? (aC b' (o'+jO L a*3+1))=_:=p2;have r3:(W2.drewN nq).cell? (aC b' (o'+jO L a*3+2))=_:=p3;have hbl:b'<(W2.drewN nq).heap.size:=dU _ _ r1;clear p1 p2 p3 c0 c1 c2 c3 c4 c5 c6 f0 f1 f2 f3 f4 f5 f6 HR2 mU HT2 hrl;generalize W2.drewN nq=W3 at *;obtain⟨⟨c0,c1,c2,c3,c4,c5,c6⟩,f0,f1,f2,f3,f4,f5,f6⟩:=(HR3.o).facts;have hrl:=(HR3.o).lt
  go_region
  all_goals go_wp2_with fail
  all_goals go_region
  all_goals go_wp2_with fail
  all_goals
   have hraw:=((HR3.o).wH (t.kind:Int)).Fp (s.extract t.pos (t.pos+t.len));rw[HX.o] at hraw ⊢;have e1:(t.kind:Int)=(dm (aR s L a):Int):=by rw[HK.o]
   rw[e1] at hraw;have DJ:=On.set (On.set (Kp.refl (fun k=>k=rb) W3) 4 (ak t.kind)) 5 (.string (ba (rZ (aR s L a))));go_end0;refine⟨rfl,⟨?_,?_,ha,ho⟩,?_⟩
   ·rw[← e1] at hraw ⊢
    exact kr.below hraw ((((aB _ _).alloc (ax _) _).drew).drew)
   ·exact(((HT3.o).keep DJ (fun k hk e=>ho k hk e))).below ((((aB _ _).alloc (ax _) _).drew).drew)
   ·exact(qz.o).to (Kp.drew (Kp.drew (Kp.alloc DJ _)))
 ·have hm:jO L a=L.length:=by omega
  have hnone:L[jO L a]?=none:=bf au;rw[hnone] at HK HW;have i1:decide (jO L a<L.length)=false:=aQ
  have i2:decide ((jO L a:Int)<(L.length:Int))=false:=aQ
  have HR2:Hid (kr (((w1.setCell (aC rb 3) (ak (jO L a))).setCell (aC rb 4) (ak 0)).setCell (aC rb 5) (.string ⟨#[]⟩)) rb s (.slice ao L.length cap) a (jO L a) 0 ⟨#[]⟩ dp):=(((HR1.o).EZ _).wH _).Fp _;have DJ:On rb w1 (((w1.setCell (aC rb 3) (ak (jO L a))).setCell (aC rb 4) (ak 0)).setCell (aC rb 5) (.string ⟨#[]⟩)):=On.set (On.set (On.set (Kp.refl _ w1) 3 _) 4 _) 5 _;have mU:=aA ((Dh.o).to DJ);have HT2:=aA ((HT1.o).keep DJ (fun k hk e=>ho k hk e));clear hm hnone;go_wp2_with fail
  clear c0 c1 c2 c3 c4 c5 c6 f0 f1 f2 f3 f4 f5 f6 HR1 HT1 DJ Dh;generalize ((w1.setCell (aC rb 3) (ak (jO L a))).setCell (aC rb 4) (ak 0)).setCell (aC rb 5) (.string ⟨#[]⟩)=W2 at *;obtain⟨⟨c0,c1,c2,c3,c4,c5,c6⟩,f0,f1,f2,f3,f4,f5,f6⟩:=(HR2.o).facts;go_quiet (fail)
  go_wp2_with fail
  go_end0;refine⟨rfl,⟨?_,(HT2.o).keep (On.drewN rb W2 nq) (fun k hk e=>ho k hk e),ha,ho⟩,(mU.o).to (On.drewN rb W2 nq)⟩;rw[HK.o,HW.o];exact HR2.o
theorem Iz(rb:Nat)(s:ByteArray)(L:List Tk)(tv:Value)(a dp:Nat)(w:aG)(h:qA w rb s L tv a dp) :
  bB 50 #[aH rb] w (cK (.bool (dm (aR s L a) !=0)) fun w'=>w'=w):=by
 obtain⟨⟨c0,c1,c2,c3,c4,c5,c6⟩,-⟩:=h.raw.facts;have HB:Hid (((dm (aR s L a):Int) !=0)=(dm (aR s L a) !=0)):=by
  show _=_;rw[gq];simp
 go_enter func50,ntmps50;go_wp2_with fail
 go_ret;exact⟨jQ HB.o,rfl⟩
structure vz(w:aG)(c:Nat)(ss:List (ah)):Prop where
 cells:∀ i x,ss[i]?=some x→w.cell? (aC c i)=some (.string (ba x))
 len:ss.length≤1073741824
theorem vB(rb:Nat)(s:ByteArray)(L:List Tk)(tv:Value)(a dp:Nat)(w:aG)(h:qA w rb s L tv a dp)(c:Nat)(ss:List (ah))(hs:vz w c ss) :
  bB 113 #[aH rb,.slice (b_ c) ss.length ss.length] w (cK (.bool (ss.any (fun x=>pN x (aR s L a)))) fun w'=>Below w.heap.size w w'):=by
 obtain⟨⟨c0,c1,c2,c3,c4,c5,c6⟩,-⟩:=h.raw.facts;have hl:=hs.len;have HS:=aA hs;clear hs h;go_enter func113,ntmps113;go_wp2_with fail
 go_loopw [9] (fun v wr=>∃ j:Nat,v=ak j∧j≤ss.length∧Hid (ss.any (fun x=>pN x (aR s L a))=(ss.drop j).any (fun x=>pN x (aR s L a)))∧Hid (∃ m,wr=w.drewN m)) (fun v _=>ss.length - (intOf v).toNat)
 case atStart=>exact⟨0,rfl,bJ _,(by show _=_;simp),⟨0,rfl⟩⟩
 case round =>
  obtain⟨j,rfl,hj,HJ,HB⟩:=hrel;by_cases hlt:j<ss.length
  case neg =>
   have i1:decide (j<ss.length)=false:=aQ
   have i2:decide ((j:Int)<(ss.length:Int))=false:=aQ
   have HE:Hid (ss.any (fun x=>pN x (aR s L a))=false):=by
    show _=_;rw[HJ.o,List.drop_eq_nil_iff.2 au];rfl
   obtain⟨m,rfl⟩:=HB.o;go_wp2_with fail
   go_ret;exact⟨jQ HE.o.symm,iQ (aB _ w) m⟩
  obtain⟨x,hx⟩:∃ x,ss[j]?=some x:=⟨ss[j],aF hlt⟩;have hd:ss.drop j=x::ss.drop (j+1):=by
   rw[dS hlt];congr 1;exact bQ ((aF hlt).symm.trans hx)
  obtain⟨m,rfl⟩:=HB.o;have y0:(w.drewN m).cell? (aC c j)=some (.string (ba x)):=(HS.o).cells j x hx;have d0:(w.drewN m).cell? (aC rb 4)=_:=c4;have d1:(w.drewN m).cell? (aC rb 5)=_:=c5;have i1:decide (j<ss.length)=true:=aQ
  have i2:decide ((j:Int)<(ss.length:Int))=true:=aQ
  have tl:∀ z:ah,(ba z).toList=z:=fun z=>by rw[jw];exact rV z
  have HP:Hid (pN x (aR s L a)=((ba x).toList==(ba (rZ (aR s L a))).toList||((ba x).toList==[110,97,109,101]&&((dm (aR s L a):Int)==3)))):=by
   show _=_;rw[tl,tl];unfold pN;have:((dm (aR s L a):Int)==3)=(dm (aR s L a)==3):=by rw[gq];simp;omega
   rw[this];rfl
  have HD:Hid (ss.any (fun x=>pN x (aR s L a))=(pN x (aR s L a)||(ss.drop (j+1)).any (fun x=>pN x (aR s L a)))):=by
   show _=_;rw[HJ.o,hd];rfl
  clear hd HJ tl;cases k1:((ba x).toList==(ba (rZ (aR s L a))).toList) with
  | true =>
   rw[k1,Bool.true_or] at HP;rw[HP.o,Bool.true_or] at HD;go_wp2_with fail
   go_ret;exact⟨jQ HD.o.symm,iQ (aB _ w) m⟩
  | false =>
   cases k2:((ba x).toList==[110,97,109,101]) with
   | false =>
    rw[k1,k2] at HP;rw[HP.o] at HD;go_wp2_with fail
    exact⟨⟨j+1,by go_num,au,HD,⟨m,rfl⟩⟩,by simp only[intOf];omega⟩
   | true =>
    cases k3:((dm (aR s L a):Int)==3) with
    | false =>
     rw[k1,k2,k3] at HP;rw[HP.o] at HD;go_wp2_with fail
     exact⟨⟨j+1,by go_num,au,HD,⟨m,rfl⟩⟩,by simp only[intOf];omega⟩
    | true =>
     rw[k1,k2,k3] at HP;rw[HP.o] at HD;go_wp2_with fail
     go_ret;exact⟨jQ HD.o.symm,iQ (aB _ w) m⟩
end
end Go.Proofs.YtoohcklcppnafaaGreatDoor
