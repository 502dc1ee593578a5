/- The tokens of a text,as a row in memory. -/
import Derived.Test.YtdkpkpgpphkljaaGreatDoorHa
import Derived.Deep.AppendLies
import Derived.Handy
namespace Go.Proofs.YtdkpkpgpphkljaaGreatDoor
set_option maxRecDepth 100000
set_option maxHeartbeats 4000000
open Tryz
open Go.RowKit
open M
section
variable{L:List Tk}{w w':World}{v:Value}{e:TypeId}{B z n:Nat}{xs:List Value}
def vM(t:Tk):List Value:=[.int .i64 (t.kind:Int),.int .i64 (t.pos:Int),.int .i64 (t.len:Int)]
theorem El{i j:Nat}{t:Tk}(ht:L[i]?=some t)(hj:j<3):(L.flatMap vM)[i*3+j]?=(vM t)[j]?:=by
 induction L generalizing i with
 | nil=>simp at ht
 | cons a L ih =>
  cases i with
  | zero =>
   obtain rfl:a=t:=by simpa using ht
   rw[f_,aU (by simp[vM];omega)];simp
  | succ i =>
   rw[f_,aQ (by simp[vM];omega),show(i+1)*3+j - (vM a).length=i*3+j by simp[vM];omega];exact ih (by simpa using ht)
def yJ(w:World)(v:Value)(L:List Tk):Prop :=
 ∃ ao cap,v=.slice ao L.length cap∧L.length≤cap∧cap≤maxLen∧(∀ i,i<L.length→∃ b o,ao=some ⟨b,o,none⟩∧∀ t,L[i]?=some t →
  w.cell? ⟨b,o+i*3,none⟩=some (.int .i64 t.kind)∧w.cell? ⟨b,o+i*3+1,none⟩=some (.int .i64 t.pos)∧w.cell? ⟨b,o+i*3+2,none⟩=some (.int .i64 t.len))
theorem yJ.keep{S:Nat→Prop}(h:yJ w v L)(hk:Kp S w w')(hn:∀ k,v.ownBlock=some k→¬ S k):yJ w' v L:=by
 obtain⟨ao,cap,rfl,h1,h2,h3⟩:=h;refine⟨ao,cap,rfl,h1,h2,fun i hi=>?_⟩;obtain⟨b,o,rfl,ha⟩:=h3 i hi;refine⟨b,o,rfl,fun r hr=>?_⟩;obtain⟨q1,q2,q3⟩:=ha r hr;have hs:¬ S b:=hn b rfl;exact⟨hk.dY q1 hs,hk.dY q2 hs,hk.dY q3 hs⟩
theorem yJ.below(h:yJ w v L)(hk:Below w.heap.size w w'):yJ w' v L :=
 h.keep (Kp.aI hk (fun _=>False)) (fun _ _=>id)
theorem yJ.DJ{base:Nat}(h:w.ownsRow base e 3 v L.length (L.flatMap vM)):yJ w v L:=by
 have hc:=fun g hg=>h.cells (g:=g) hg
 rcases h.2 with ⟨rfl,h0⟩|⟨g,cap,cur,rfl,hb,hg,hn,hm,hs,ht⟩
 ·exact⟨none,0,by rw[h0],by omega,by unfold maxLen;omega,fun i hi=>by omega⟩
 ·refine⟨_,cap,rfl,hn,hm,fun i hi=>⟨_,_,rfl,fun r hr=>?_⟩⟩
  have hc':=hc g rfl;have ad:∀ n,(⟨g,0,none⟩:Addr).add n=⟨g,0+n,none⟩:=by intro n;unfold Addr.add;split<;>simp_all
  have c0:=hc' (i*3) _ ((El hr (by omega:0<3)).trans rfl);have c1:=hc' (i*3+1) _ ((El hr (by omega:1<3)).trans rfl);have c2:=hc' (i*3+2) _ ((El hr (by omega:2<3)).trans rfl);rw[ad] at c0 c1 c2;exact⟨c0,by rw[fw];exact c1,by rw[fw];exact c2⟩
theorem Na{B':Nat}(h:w.ownsRow B e z v n xs)(hB:B'≤B):w.ownsRow B' e z v n xs:=by
 refine⟨h.1,?_⟩;rcases h.2 with h'|⟨g,cap,cur,rfl,hb,rest⟩
 ·exact .inl h'
 ·exact .inr ⟨g,cap,cur,rfl,by omega,rest⟩
def lenOf:Value→Nat|.slice _ n _=>n|_=>0
theorem Q9(h:w.ownsRow B e z v n xs):lenOf v=n:=by
 rcases h.2 with ⟨rfl,rfl⟩|⟨g,cap,cur,rfl,_⟩<;>rfl
theorem dV(h:w.ownsRow B e z v n xs):∀ k,v.ownBlock=some k→B≤k∧k<w.heap.size:=by
 rcases h.2 with ⟨rfl,rfl⟩|⟨g,cap,cur,rfl,hb,hg,_⟩
 ·intro k hk;simp[Value.ownBlock] at hk
 ·intro k hk;simp[Value.ownBlock] at hk;subst hk;exact⟨hb,aP hg⟩
theorem QY:(prog.info? 203).map (fun i=>(i.zero,i.size,i.bytes))=some (some (.agg #[.int .i64 0,.int .i64 0,.int .i64 0]),3,24):=by kernel_rfl
structure aN8(w0:World)(B b:Nat)(s:ByteArray)(L0:List Tk)(q:Nat)(v:Value)(w:World):Prop where
 iF:lu w b s q
 row:w.ownsRow B 203 3 v L0.length (L0.flatMap vM)
 far:b<B
 on:On b w0 w
 le:L0.length≤q
theorem Nb(L:List Tk)(t:Tk):(L++[t]).flatMap vM=L.flatMap vM++vM t:=by simp
theorem Jy(s:ByteArray)(w:World)(hT:kP w)(hs:s.size≤1073741824) :
  Calls prog 58 #[.string s] w fun e w'=>∃ v,e=.returned v∧w'.ownsRow w.heap.size 203 3 v (toks 0 (bs s)).length ((toks 0 (bs s)).flatMap vM)∧Below w.heap.size w w':=by
 obtain⟨i0,hi0,hz0,hz1,hz2⟩:=gB QY;go_enter func58,ntmps58;go_wp2_with fail
 refine(oG s 0 _ hT (aX _) (by omega)).mono ?_;rintro e w1 ⟨rfl,r1,k1⟩;have hz:=k1.size;have hbl:=r1.raw.lt;have K1:=au k1;clear k1;go_wp2_with fail
 go_loopw [3] (fun v wr=>∃(L0:List Tk) (q:Nat),Hid (aN8 w1 w1.heap.size w.heap.size s L0 q v wr∧toks 0 (bs s)=L0++toks q ((bs s).drop q))) (fun v _=>s.size - lenOf v)
 case atStart=>exact⟨[],0,⟨⟨r1,bY _ _ _ _,hbl,Kp.refl _ _,aj _⟩,by simp⟩⟩
 case round =>
  obtain⟨L0,q,HI⟩:=hrel;have hq:=(HI.o).1.iF.le;have hl0:=(HI.o).1.le;obtain⟨⟨c0,c1,c2,c3⟩,-⟩:=(HI.o).1.iF.raw.facts;by_cases hlt:q<s.size
  ·have hne:(cc ((bs s).drop q) !=-1)=true:=by
    have:=jg hlt;simp only[bne_iff_ne,ne_eq,rP];exact this
   go_wp2_with fail
   refine(BO w.heap.size s q _ (HI.o).1.iF hlt).mono ?_;rintro e w2 ⟨rfl,r2,k2⟩;have how:w2.ownsRow w1.heap.size 203 3 u3 L0.length (L0.flatMap vM):=Kp.owns k2 (HI.o).1.row (fun k hk e=>by have:=(dV (HI.o).1.row k hk).1;omega);have HO:=au how;have hsz2:w1.heap.size≤w2.heap.size:=bS (HI.o).1.on.size k2.size;have HK:=au (And.intro r2 k2);clear how r2 k2 c0 c1 c2 c3;go_wp2_with (at_builtin;refine wpList_append_lies _ rfl _ _ 169 rfl w1.heap.size 203 i0 _ 3 24 underlying169 hi0 hz0 hz1 hz2 rfl (by decide) u3 L0.length _ rfl ((HO.o).alloc _) ⟨w2.heap.size,0,none⟩ 1 1 (vM ⟨(tok ((bs s).drop q)).1,q,(tok ((bs s).drop q)).2⟩) rfl rfl (World.news_of_block (cs:=#[.int .i64 (tok ((bs s).drop q)).1,.int .i64 q,.int .i64 (tok ((bs s).drop q)).2]) (aB w2 _)) (by simp[Value.oneCell',vM]) (by omega) (by unfold maxLen;omega) (by omega) (by simp;omega) (w2.heap.size+1) (by simp) ?_;intro g cap w5 hown5 cB nW A9)
   have hrow:=(HI.o).1.row;have hge:=dV hrow;have h7:=hT.2;obtain⟨r2,k2⟩:=HK.o;have kW:Kp (fun k=>u3.ownBlock=some k) w2 w5:=Kp.grown (Kp.alloc (Kp.refl _ w2) _) cB (fun k e _=>e);have hb:=iY (jg hlt);refine⟨⟨L0++[⟨(tok ((bs s).drop q)).1,q,(tok ((bs s).drop q)).2⟩],q+(tok ((bs s).drop q)).2,⟨⟨r2.keep kW (fun e=>by have:=(hge _ e).1;omega) (fun k hk e=>by have:=(hge _ e).1;omega),?_,hbl,?_,?_⟩,?_⟩⟩,?_⟩
   ·rw[Nb,ak];exact hown5
   ·exact Kp.trans ((HI.o).1.on.to k2) kW (fun i hi e=>by have:=(hge _ e).1;omega)
   ·rw[ak];simp only[dX];omega
   ·rw[(HI.o).2,qA (jg hlt),dB];simp
   ·rw[Q9 hrow];simp only[lenOf];omega
  ·have hqe:q=s.size:=by omega
   have HE:Hid ((bs s).drop q=[]):=by show _=_;rw[hqe,← eZ];simp
   rw[HE.o,mU] at c2;clear hqe;go_wp2_with fail
   go_ret;have e1:toks 0 (bs s)=L0:=by have:=(HI.o).2;rw[HE.o,lZ,aJ] at this;exact this
   rw[e1];refine⟨_,rfl,Na (HI.o).1.row hz,(K1.o).trans ?_⟩;exact(HI.o).1.on.below hz (aj _)
theorem yJ.get{w wr:World}{ao:Option Addr}{n cap:Nat}{L:List Tk}(h:yJ w (.slice ao n cap) L)(hb:Below w.heap.size w wr){k:Nat}(hk:k<L.length) :
  ∃ b o t,ao=some ⟨b,o,none⟩∧L[k]?=some t∧wr.cell? ⟨b,o+k*3,none⟩=some (.int .i64 t.kind)∧wr.cell? ⟨b,o+k*3+1,none⟩=some (.int .i64 t.pos)∧wr.cell? ⟨b,o+k*3+2,none⟩=some (.int .i64 t.len):=by
 obtain⟨_,_,e,_,_,h3⟩:=h.below hb;cases e
 obtain⟨b,o,ha,h4⟩:=h3 k hk;obtain⟨q1,q2,q3⟩:=h4 L[k] (aC hk);exact⟨b,o,L[k],ha,aC hk,q1,q2,q3⟩
theorem drop_at{L:List Tk}{k:Nat}{t:Tk}(h:L[k]?=some t):L.drop k=t::L.drop (k+1):=by
 have hk:k<L.length:=by
  rcases bE k L.length with h'|h'
  ·exact h'
  ·rw[aO h'] at h;cases h
 rw[aC hk] at h;cases h
 exact bP hk
structure Om(w:World)(b:Nat)(v:Value)(s:ByteArray):Prop where
 text:w.cell? ⟨b,0,none⟩=some (.string s)
 held:w.cell? ⟨b,1,none⟩=some v
 row:yJ w v (toks 0 (bs s))
theorem Om.below{w w':World}{b:Nat}{v:Value}{s:ByteArray}(h:Om w b v s)(hk:Below w.heap.size w w'):Om w' b v s :=
 ⟨(Kp.aI hk (fun _=>False)).dY h.text id,(Kp.aI hk (fun _=>False)).dY h.held id,h.row.below hk⟩
theorem Vg(s:ByteArray)(w:World)(hT:kP w)(hs:s.size≤1073741824) :
  Calls prog 31 #[.string s] w fun e w'=>∃ b,e=.returned (.pointer (some ⟨b,0,none⟩))∧Hid (∃ v,w.heap.size≤b∧b<w'.heap.size∧Om w' b v s∧(∀ k,v.ownBlock=some k→w.heap.size≤k∧k<b)∧Below w.heap.size w w'):=by
 go_enter func31,ntmps31;go_wp2_with fail
 refine(Jy s _ hT hs).mono ?_;rintro e w1 ⟨v,rfl,hown,k1⟩;have HO:=au (dV hown);have HR:=au (yJ.DJ hown);have K1:=au k1;obtain⟨ao,cap,rfl,-⟩:=yJ.DJ hown;clear hown k1;go_wp2_with fail
 go_ret;refine⟨w1.heap.size,rfl,_,(K1.o).size,by simp,⟨?_,?_,(HR.o).below ((ay _ w1).alloc (aj _) _)⟩,HO.o,(K1.o).alloc (K1.o).size _⟩
 ·rw[ai _ _ 0 _ _ _ (aB w1 _)];rfl
 ·rw[ai _ _ 1 _ _ _ (aB w1 _)];rfl
theorem QW(b:Nat)(v:Value)(s:ByteArray)(w:World)(h:Om w b v s) :
  Calls prog 49 #[.pointer (some ⟨b,0,none⟩)] w fun e w'=>e=.returned (.string s)∧Below w.heap.size w w':=by
 obtain⟨q1,q2,-⟩:=h;go_enter func49,ntmps49;go_wp2_with fail
 go_ret;exact⟨rfl,ay _ _⟩
end
section
variable{w w':World}{rb:Nat}{s wd:ByteArray}{tv:Value}{a n k dp:Int}
def jl(w:World)(rb:Nat)(s:ByteArray)(tv:Value)(a n k:Int)(wd:ByteArray)(dp:Int):Prop:=w.heap[rb]?=some (.cells #[.string s,tv,.int .i64 a,.int .i64 n,.int .i64 k,.string wd,.int .i64 dp] 175 (0,0))
theorem jl.facts(h:jl w rb s tv a n k wd dp) :
  (w.cell? ⟨rb,0,none⟩=some (.string s)∧w.cell? ⟨rb,1,none⟩=some tv∧w.cell? ⟨rb,2,none⟩=some (.int .i64 a)∧w.cell? ⟨rb,3,none⟩=some (.int .i64 n)∧w.cell? ⟨rb,4,none⟩=some (.int .i64 k)∧w.cell? ⟨rb,5,none⟩=some (.string wd)∧w.cell? ⟨rb,6,none⟩=some (.int .i64 dp)) ∧
  (w.frozen? ⟨rb,0,none⟩=false∧w.frozen? ⟨rb,1,none⟩=false∧w.frozen? ⟨rb,2,none⟩=false∧w.frozen? ⟨rb,3,none⟩=false∧w.frozen? ⟨rb,4,none⟩=false∧w.frozen? ⟨rb,5,none⟩=false∧w.frozen? ⟨rb,6,none⟩=false):=by
 unfold jl at h;refine⟨⟨?_,?_,?_,?_,?_,?_,?_⟩,?_,?_,?_,?_,?_,?_,?_⟩<;>simp[World.cell?,World.frozen?,h]
theorem jl.lt(h:jl w rb s tv a n k wd dp):rb<w.heap.size:=aP h
theorem jl.keep{S:Nat→Prop}(h:jl w rb s tv a n k wd dp)(hk:Kp S w w')(hn:¬ S rb):jl w' rb s tv a n k wd dp:=hk.heap h hn
theorem jl.below(h:jl w rb s tv a n k wd dp)(hk:Below w.heap.size w w'):jl w' rb s tv a n k wd dp:=h.keep (Kp.aI hk (fun _=>False)) id
theorem jl.set2(h:jl w rb s tv a n k wd dp)(y:Int):jl (w.setCell ⟨rb,2,none⟩ (.int .i64 y)) rb s tv y n k wd dp:=by
 unfold jl at h ⊢;simp[World.setCell,aK,h]
theorem jl.JC(h:jl w rb s tv a n k wd dp)(y:Int):jl (w.setCell ⟨rb,3,none⟩ (.int .i64 y)) rb s tv a y k wd dp:=by
 unfold jl at h ⊢;simp[World.setCell,aK,h]
theorem jl.Ni(h:jl w rb s tv a n k wd dp)(y:Int):jl (w.setCell ⟨rb,4,none⟩ (.int .i64 y)) rb s tv a n y wd dp:=by
 unfold jl at h ⊢;simp[World.setCell,aK,h]
theorem jl.Zz(h:jl w rb s tv a n k wd dp)(y:ByteArray):jl (w.setCell ⟨rb,5,none⟩ (.string y)) rb s tv a n k y dp:=by
 unfold jl at h ⊢;simp[World.setCell,aK,h]
theorem jl.bH5(h:jl w rb s tv a n k wd dp)(y:Int):jl (w.setCell ⟨rb,6,none⟩ (.int .i64 y)) rb s tv a n k wd y:=by
 unfold jl at h ⊢;simp[World.setCell,aK,h]
def qk(t:Tk):Bool:=t.kind==1||t.kind==2
theorem yA(k:Int)(w:World):Calls prog 115 #[.int .i64 k] w fun e w'=>e=.returned (.bool (decide (k=1∨k=2)))∧w'=w:=by
 by_cases h1:k=1
 ·subst h1
  go_enter func115,ntmps115;go_wp2_with fail
  go_ret;exact⟨rfl,rfl⟩
 ·have i1:(k==1)=false:=by simpa using h1
  by_cases h2:k=2
  ·subst h2
   go_enter func115,ntmps115;go_wp2_with fail
   go_ret;exact⟨rfl,rfl⟩
  ·have i2:(k==2)=false:=by simpa using h2
   have HD:Hid (decide (k=1∨k=2)=false):=by show _=_;simp[h1,h2]
   rw[HD.o];clear h1 h2;go_enter func115,ntmps115;go_wp2_with fail
   go_ret;exact⟨rfl,rfl⟩
theorem Ew(rb:Nat)(s wd:ByteArray)(tv:Value)(L:List Tk)(a n k dp:Int)(w:World)(h:jl w rb s tv a n k wd dp)(hT:yJ w tv L)(hL:L.length≤1073741824)(p:Nat)(hp:p≤1073741824)(q:Nat)(HQ:Hid (p+((L.drop p).takeWhile qk).length=q)) :
  Calls prog 88 #[.pointer (some ⟨rb,0,none⟩),.int .i64 p] w fun e w'=>e=.returned (.int .i64 q)∧Below w.heap.size w w':=by
 have HR:=au h;have HT:=au hT;obtain⟨ao,cap,rfl,hc1,hc2,-⟩:=hT;clear h;go_enter func88,ntmps88;go_wp2_with fail
 go_loopw [1] (fun v wr=>∃ j:Nat,v=.int .i64 ((p+j:Nat):Int)∧p+j≤p+L.length∧Hid (((L.drop p).takeWhile qk).length=j+((L.drop (p+j)).takeWhile qk).length)∧Hid (Below w.heap.size w wr)) (fun v _=>p+L.length - (intOf v).toNat)
 case atStart=>exact⟨0,rfl,by omega,(by show _=_;simp),ay _ w⟩
 case round =>
  obtain⟨j,rfl,hj,HJ,HB⟩:=hrel;obtain⟨⟨c0,c1,c2,c3,c4,c5,c6⟩,-⟩:=((HR.o).below HB.o).facts;have hjb:p+j≤2147483648:=by omega
  generalize hm:p+j=m at *;have HM:=au hm;clear hm;by_cases hlt:m<L.length
  case neg =>
   have i1:decide (m<L.length)=false:=by simp;omega
   have i2:decide ((m:Int)<(L.length:Int))=false:=by simp;omega
   have HE:Hid (q=m):=by
    have h0:=HQ.o;have h1:=HJ.o;have h2:=HM.o;rw[(List.drop_eq_nil_iff.2 (by omega):L.drop m=[])] at h1;show _=_;simp at h1;omega
   obtain rfl:=HE.o;go_wp2_with fail
   go_ret;exact⟨rfl,HB.o⟩
  obtain⟨b',o',t,rfl,ht,q1,q2,q3⟩:=(HT.o).get HB.o hlt;have i1:decide (m<L.length)=true:=by simp;omega
  have i2:decide ((m:Int)<(L.length:Int))=true:=by simp;omega
  have hd:L.drop m=t::L.drop (m+1):=drop_at ht;by_cases hq:qk t=true
  ·have i3:decide ((t.kind:Int)=1∨(t.kind:Int)=2)=true:=by
    unfold qk at hq;simp at hq ⊢;omega
   have HJ':Hid (((L.drop p).takeWhile qk).length=(j+1)+((L.drop (m+1)).takeWhile qk).length):=by
    have h1:=HJ.o;show _=_;rw[hd,jF hq,aW] at h1;omega
   clear hd hq ht;go_wp2_with fail
   refine(yA _ _).mono ?_;rintro e w2 ⟨rfl,rfl⟩;go_wp2_with fail
   refine⟨⟨j+1,?_,by have:=HM.o;omega,?_,HB.o⟩,by simp only[intOf];omega⟩
   ·rw[show p+(j+1)=m+1 by have:=HM.o;omega];rfl
   ·rw[show p+(j+1)=m+1 by have:=HM.o;omega];exact HJ'
  ·have hq':qk t=false:=by simpa using hq
   have i3:decide ((t.kind:Int)=1∨(t.kind:Int)=2)=false:=by
    unfold qk at hq';simp at hq' ⊢;omega
   have HE:Hid (q=m):=by
    have h0:=HQ.o;have h1:=HJ.o;have h2:=HM.o;rw[hd,dU (by simpa using hq')] at h1;show _=_;simp at h1;omega
   obtain rfl:=HE.o;clear hd hq ht hq';go_wp2_with fail
   refine(yA _ _).mono ?_;rintro e w2 ⟨rfl,rfl⟩;go_wp2_with fail
   go_ret;exact⟨rfl,HB.o⟩
end
section
variable{L:List Tk}{s:ByteArray}
def bn(s:ByteArray)(L:List Tk)(a:Nat):List X.Tok:=(L.drop a).map (X.CW (bs s))
def qY(L:List Tk)(a:Nat):Nat:=a+((L.drop a).takeWhile qk).length
theorem dropWhile_drop{α:Type}(p:α→Bool)(l:List α):l.dropWhile p=l.drop (l.takeWhile p).length:=by
 have h:=dZ (p:=p) (l:=l);have:l.drop (l.takeWhile p).length=(l.takeWhile p++l.dropWhile p).drop (l.takeWhile p).length:=by rw[h]
 rw[this,List.drop_left]
theorem CX(l:ah):X.quiet ∘ X.CW l=qk:=rfl
theorem GY(s:ByteArray)(L:List Tk)(a:Nat):(bn s L a).dropWhile X.quiet=bn s L (qY L a):=by
 unfold bn qY;rw[List.dropWhile_map,CX,dropWhile_drop,dB]
theorem Sg(s:ByteArray)(L:List Tk)(a:Nat):(bn s L a).takeWhile X.quiet=((L.drop a).takeWhile qk).map (X.CW (bs s)):=by
 unfold bn;rw[List.takeWhile_map,CX]
theorem Ey(s:ByteArray)(L:List Tk)(a:Nat):X.iE (bn s L a)=(L[qY L a]?).map (X.CW (bs s)):=by
 unfold X.iE;rw[GY];unfold bn;rw[List.head?_map,List.head?_drop]
theorem Si(s:ByteArray)(L:List Tk)(a:Nat):X.bJ (bn s L a)=match L[qY L a]? with|some t=>t.kind|none=>0:=by
 unfold X.bJ;rw[Ey];cases L[qY L a]?<;>rfl
theorem Sj(s:ByteArray)(L:List Tk)(a:Nat):X.rU (bn s L a)=match L[qY L a]? with|some t=>((bs s).drop t.pos).take t.len|none=>[]:=by
 unfold X.rU;rw[Ey];cases L[qY L a]?<;>rfl
theorem ZA(L:List Tk)(a:Nat):a≤qY L a:=Nat.le_add_right _ _
theorem ZB{a:Nat}(h:a≤L.length):qY L a≤L.length:=by
 unfold qY;have:((L.drop a).takeWhile qk).length≤(L.drop a).length:=(List.takeWhile_sublist _).length_le;rw[bM] at this;omega
structure kJ(s:ByteArray)(L:List Tk):Prop where
 size:s.size≤1073741823
 len:L.length≤268435456
 fit:∀ t∈L,t.pos+t.len≤s.size∧1≤t.kind∧t.kind≤8
 good:X.Good (L.map (X.CW (bs s)))
theorem kJ.rem(h:kJ s L)(a:Nat):X.Good (bn s L a):=by
 intro t ht;refine h.good t ?_;unfold bn at ht;obtain⟨t',h1,h2⟩:=iT.1 ht;exact iT.2 ⟨t',(List.drop_sublist _ _).subset h1,h2⟩
structure pX(w:World)(rb:Nat)(s:ByteArray)(L:List Tk)(tv:Value)(a dp:Nat):Prop where
 raw:jl w rb s tv a (qY L a) (X.bJ (bn s L a)) (ba (X.rU (bn s L a))) dp
 row:yJ w tv L
 le:a≤L.length
 own:∀ k,tv.ownBlock=some k→k≠rb
theorem pX.keep{S:Nat→Prop}{w w':World}{rb:Nat}{s:ByteArray}{L:List Tk}{tv:Value}{a dp:Nat}(h:pX w rb s L tv a dp)(hk:Kp S w w')(hn:¬ S rb)(ht:∀ k,tv.ownBlock=some k→¬ S k):pX w' rb s L tv a dp :=
 ⟨h.raw.keep hk hn,h.row.keep hk ht,h.le,h.own⟩
theorem pX.below{w w':World}{rb:Nat}{tv:Value}{a dp:Nat}(h:pX w rb s L tv a dp)(hk:Below w.heap.size w w'):pX w' rb s L tv a dp:=h.keep (Kp.aI hk (fun _=>False)) id (fun _ _=>id)
theorem xM(rb:Nat)(s wd:ByteArray)(L:List Tk)(tv:Value)(a dp:Nat)(n k:Int)(w:World)(hS:kJ s L)(h:jl w rb s tv a n k wd dp)(hT:yJ w tv L)(ha:a≤L.length)(ho:∀ k,tv.ownBlock=some k→k≠rb) :
  Calls prog 60 #[.pointer (some ⟨rb,0,none⟩)] w fun e w'=>e=.returned (.tuple #[])∧pX w' rb s L tv a dp∧On rb w w':=by
 have h1:=hS.size;have h2:=hS.len;have HR:=au h;have HT:=au hT;have HF:=au hS.fit;obtain⟨⟨c0,c1,c2,c3,c4,c5,c6⟩,f0,f1,f2,f3,f4,f5,f6⟩:=h.facts;clear h hT;go_enter func60,ntmps60;go_wp2_with fail
 refine(Ew rb s wd tv L a n k dp w HR.o HT.o (by omega) a (by omega) (qY L a) (rfl:_=_)).mono ?_;rintro e w1 ⟨rfl,k1⟩;have HR1:=au ((HR.o).below k1);have HT1:=au ((HT.o).below k1);have wP:=au (On.aI rb k1);have hq:=ZB ha;clear k1 c0 c1 c2 c3 c4 c5 c6 f0 f1 f2 f3 f4 f5 f6 HR HT;obtain⟨⟨c0,c1,c2,c3,c4,c5,c6⟩,f0,f1,f2,f3,f4,f5,f6⟩:=(HR1.o).facts;have HK:=au (Si s L a);have HW:=au (Sj s L a);obtain⟨ao,cap,rfl,hc1,hc2,-⟩:=(HT1.o);by_cases hlt:qY L a<L.length
 ·obtain⟨b',o',t,rfl,ht,q1,q2,q3⟩:=(HT1.o).get (ay _ w1) hlt
  obtain⟨g1,g2,g3⟩:=(HF.o) t (dh ht);have hb':b'≠rb:=ho b' rfl;rw[ht] at HK HW;have i1:decide (qY L a<L.length)=true:=by simp;omega
  have i2:decide ((qY L a:Int)<(L.length:Int))=true:=by simp;omega
  have HX:Hid (s.extract t.pos (t.pos+t.len)=ba (X.rU (bn s L a))):=by
   show _=_;apply jJ;rw[qf,kQ,HW.o,nS,je]
  have j1:(t.pos:Int)≤(t.pos:Int)+(t.len:Int):=by omega
  have j2:(t.pos:Int)+(t.len:Int)≤(s.size:Int):=by omega
  have j3:t.pos≤s.size:=by omega
  clear ht;have HR2:Hid (jl (((w1.setCell ⟨rb,3,none⟩ (.int .i64 (qY L a))).setCell ⟨rb,4,none⟩ (.int .i64 0)).setCell ⟨rb,5,none⟩ (.string ⟨#[]⟩)) rb s (.slice (some ⟨b',o',none⟩) L.length cap) a (qY L a) 0 ⟨#[]⟩ dp):=(((HR1.o).JC _).Ni _).Zz _;have CY:On rb w1 (((w1.setCell ⟨rb,3,none⟩ (.int .i64 (qY L a))).setCell ⟨rb,4,none⟩ (.int .i64 0)).setCell ⟨rb,5,none⟩ (.string ⟨#[]⟩)):=On.set (On.set (On.set (Kp.refl _ w1) 3 _) 4 _) 5 _;have mZ:=au ((wP.o).to CY);have HT2:=au ((HT1.o).keep CY (fun k hk e=>ho k hk e));have p1:=CY.dY q1 hb';have p2:=CY.dY q2 hb';have p3:=CY.dY q3 hb';go_wp2_with fail
  clear q1 q2 q3 c0 c1 c2 c3 c4 c5 c6 f0 f1 f2 f3 f4 f5 f6 HR1 HT1 CY wP;generalize ((w1.setCell ⟨rb,3,none⟩ (.int .i64 (qY L a))).setCell ⟨rb,4,none⟩ (.int .i64 0)).setCell ⟨rb,5,none⟩ (.string ⟨#[]⟩)=W2 at *;obtain⟨⟨c0,c1,c2,c3,c4,c5,c6⟩,f0,f1,f2,f3,f4,f5,f6⟩:=(HR2.o).facts;have hrl:=(HR2.o).lt;go_quiet (fail)
  go_wp2_with fail
  have qi:=au ((mZ.o).to (On.drewN rb W2 nq));have HR3:Hid (jl (W2.drewN nq) rb s (.slice (some ⟨b',o',none⟩) L.length cap) a (qY L a) 0 ⟨#[]⟩ dp):=HR2.o;have HT3:=au ((HT2.o).keep (On.drewN rb W2 nq) (fun k hk e=>ho k hk e));have r1:(W2.drewN nq).cell? ⟨b',o'+qY L a*3,none⟩=_:=p1;have r2:(W2.drewN nq).cell? ⟨b',o'+qY L a*3+1,none⟩=_:=p2;have r3:(W2.drewN nq).cell? ⟨b',o'+qY L a*3+2,none⟩=_:=p3;have hbl:b'<(W2.drewN nq).heap.size:=bG _ _ r1;clear p1 p2 p3 c0 c1 c2 c3 c4 c5 c6 f0 f1 f2 f3 f4 f5 f6 HR2 mZ HT2 hrl;generalize W2.drewN nq=W3 at *;obtain⟨⟨c0,c1,c2,c3,c4,c5,c6⟩,f0,f1,f2,f3,f4,f5,f6⟩:=(HR3.o).facts;have hrl:=(HR3.o).lt
  go_region
  all_goals go_wp2_with fail
  all_goals go_region
  all_goals go_wp2_with fail
  all_goals
   have hraw:=((HR3.o).Ni (t.kind:Int)).Zz (s.extract t.pos (t.pos+t.len));rw[HX.o] at hraw ⊢;have e1:(t.kind:Int)=(X.bJ (bn s L a):Int):=by rw[HK.o]
   rw[e1] at hraw;have CY:=On.set (On.set (Kp.refl (fun k=>k=rb) W3) 4 (.int .i64 t.kind)) 5 (.string (ba (X.rU (bn s L a))));go_end0;refine⟨rfl,⟨?_,?_,ha,ho⟩,?_⟩
   ·rw[← e1] at hraw ⊢
    exact jl.below hraw ((((ay _ _).alloc (aj _) _).drew).drew)
   ·exact(((HT3.o).keep CY (fun k hk e=>ho k hk e))).below ((((ay _ _).alloc (aj _) _).drew).drew)
   ·exact(qi.o).to (Kp.drew (Kp.drew (Kp.alloc CY _)))
 ·have hm:qY L a=L.length:=by omega
  have hnone:L[qY L a]?=none:=aO (by omega);rw[hnone] at HK HW;have i1:decide (qY L a<L.length)=false:=by simp;omega
  have i2:decide ((qY L a:Int)<(L.length:Int))=false:=by simp;omega
  have HR2:Hid (jl (((w1.setCell ⟨rb,3,none⟩ (.int .i64 (qY L a))).setCell ⟨rb,4,none⟩ (.int .i64 0)).setCell ⟨rb,5,none⟩ (.string ⟨#[]⟩)) rb s (.slice ao L.length cap) a (qY L a) 0 ⟨#[]⟩ dp):=(((HR1.o).JC _).Ni _).Zz _;have CY:On rb w1 (((w1.setCell ⟨rb,3,none⟩ (.int .i64 (qY L a))).setCell ⟨rb,4,none⟩ (.int .i64 0)).setCell ⟨rb,5,none⟩ (.string ⟨#[]⟩)):=On.set (On.set (On.set (Kp.refl _ w1) 3 _) 4 _) 5 _;have mZ:=au ((wP.o).to CY);have HT2:=au ((HT1.o).keep CY (fun k hk e=>ho k hk e));clear hm hnone;go_wp2_with fail
  clear c0 c1 c2 c3 c4 c5 c6 f0 f1 f2 f3 f4 f5 f6 HR1 HT1 CY wP;generalize ((w1.setCell ⟨rb,3,none⟩ (.int .i64 (qY L a))).setCell ⟨rb,4,none⟩ (.int .i64 0)).setCell ⟨rb,5,none⟩ (.string ⟨#[]⟩)=W2 at *;obtain⟨⟨c0,c1,c2,c3,c4,c5,c6⟩,f0,f1,f2,f3,f4,f5,f6⟩:=(HR2.o).facts;go_quiet (fail)
  go_wp2_with fail
  go_end0;refine⟨rfl,⟨?_,(HT2.o).keep (On.drewN rb W2 nq) (fun k hk e=>ho k hk e),ha,ho⟩,(mZ.o).to (On.drewN rb W2 nq)⟩;rw[HK.o,HW.o];exact HR2.o
theorem GZ(rb:Nat)(s:ByteArray)(L:List Tk)(tv:Value)(a dp:Nat)(w:World)(h:pX w rb s L tv a dp) :
  Calls prog 33 #[.pointer (some ⟨rb,0,none⟩)] w fun e w'=>e=.returned (.bool (X.bJ (bn s L a) !=0))∧w'=w:=by
 obtain⟨⟨c0,c1,c2,c3,c4,c5,c6⟩,-⟩:=h.raw.facts;have HB:Hid (((X.bJ (bn s L a):Int) !=0)=(X.bJ (bn s L a) !=0)):=by
  show _=_;rw[iD];simp
 go_enter func33,ntmps33;go_wp2_with fail
 go_ret;exact⟨ve HB.o,rfl⟩
structure qo(w:World)(c:Nat)(ss:List (ah)):Prop where
 cells:∀ i x,ss[i]?=some x→w.cell? ⟨c,i,none⟩=some (.string (ba x))
 len:ss.length≤1073741824
theorem uN(rb:Nat)(s:ByteArray)(L:List Tk)(tv:Value)(a dp:Nat)(w:World)(h:pX w rb s L tv a dp)(c:Nat)(ss:List (ah))(hs:qo w c ss) :
  Calls prog 89 #[.pointer (some ⟨rb,0,none⟩),.slice (some ⟨c,0,none⟩) ss.length ss.length] w fun e w'=>e=.returned (.bool (ss.any (fun x=>X.pN x (bn s L a))))∧Below w.heap.size w w':=by
 obtain⟨⟨c0,c1,c2,c3,c4,c5,c6⟩,-⟩:=h.raw.facts;have hl:=hs.len;have HS:=au hs;clear hs h;go_enter func89,ntmps89;go_wp2_with fail
 go_loopw [9] (fun v wr=>∃ j:Nat,v=.int .i64 j∧j≤ss.length∧Hid (ss.any (fun x=>X.pN x (bn s L a))=(ss.drop j).any (fun x=>X.pN x (bn s L a)))∧Hid (∃ m,wr=w.drewN m)) (fun v _=>ss.length - (intOf v).toNat)
 case atStart=>exact⟨0,rfl,aX _,(by show _=_;simp),⟨0,rfl⟩⟩
 case round =>
  obtain⟨j,rfl,hj,HJ,HB⟩:=hrel;by_cases hlt:j<ss.length
  case neg =>
   have i1:decide (j<ss.length)=false:=by simp;omega
   have i2:decide ((j:Int)<(ss.length:Int))=false:=by simp;omega
   have HE:Hid (ss.any (fun x=>X.pN x (bn s L a))=false):=by
    show _=_;rw[HJ.o,List.drop_eq_nil_iff.2 (by omega)];rfl
   obtain⟨m,rfl⟩:=HB.o;go_wp2_with fail
   go_ret;exact⟨ve HE.o.symm,sG (ay _ w) m⟩
  obtain⟨x,hx⟩:∃ x,ss[j]?=some x:=⟨ss[j],aC hlt⟩;have hd:ss.drop j=x::ss.drop (j+1):=by
   rw[bP hlt];congr 1;exact bK ((aC hlt).symm.trans hx)
  obtain⟨m,rfl⟩:=HB.o;have y0:(w.drewN m).cell? ⟨c,j,none⟩=some (.string (ba x)):=(HS.o).cells j x hx;have d0:(w.drewN m).cell? ⟨rb,4,none⟩=_:=c4;have d1:(w.drewN m).cell? ⟨rb,5,none⟩=_:=c5;have i1:decide (j<ss.length)=true:=by simp;omega
  have i2:decide ((j:Int)<(ss.length:Int))=true:=by simp;omega
  have tl:∀ z:ah,(ba z).toList=z:=fun z=>by rw[gN];exact kQ z
  have HP:Hid (X.pN x (bn s L a)=((ba x).toList==(ba (X.rU (bn s L a))).toList||((ba x).toList==[110,97,109,101]&&((X.bJ (bn s L a):Int)==3)))):=by
   show _=_;rw[tl,tl];unfold X.pN;have:((X.bJ (bn s L a):Int)==3)=(X.bJ (bn s L a)==3):=by rw[iD];simp;omega
   rw[this];rfl
  have HD:Hid (ss.any (fun x=>X.pN x (bn s L a))=(X.pN x (bn s L a)||(ss.drop (j+1)).any (fun x=>X.pN x (bn s L a)))):=by
   show _=_;rw[HJ.o,hd];rfl
  clear hd HJ tl;cases k1:((ba x).toList==(ba (X.rU (bn s L a))).toList) with
  | true =>
   rw[k1,Bool.true_or] at HP;rw[HP.o,Bool.true_or] at HD;go_wp2_with fail
   go_ret;exact⟨ve HD.o.symm,sG (ay _ w) m⟩
  | false =>
   cases k2:((ba x).toList==[110,97,109,101]) with
   | false =>
    rw[k1,k2] at HP;rw[HP.o] at HD;go_wp2_with fail
    exact⟨⟨j+1,by go_num,by omega,HD,⟨m,rfl⟩⟩,by simp only[intOf];omega⟩
   | true =>
    cases k3:((X.bJ (bn s L a):Int)==3) with
    | false =>
     rw[k1,k2,k3] at HP;rw[HP.o] at HD;go_wp2_with fail
     exact⟨⟨j+1,by go_num,by omega,HD,⟨m,rfl⟩⟩,by simp only[intOf];omega⟩
    | true =>
     rw[k1,k2,k3] at HP;rw[HP.o] at HD;go_wp2_with fail
     go_ret;exact⟨ve HD.o.symm,sG (ay _ w) m⟩
end
end Go.Proofs.YtdkpkpgpphkljaaGreatDoor
