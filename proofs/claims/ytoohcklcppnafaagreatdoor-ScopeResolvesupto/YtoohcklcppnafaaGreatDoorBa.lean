import Derived.Test.YtoohcklcppnafaaGreatDoorZo
import Derived.Test.YtoohcklcppnafaaGreatDoorVb
namespace Go.Proofs.YtoohcklcppnafaaGreatDoor
set_option maxRecDepth 100000
set_option maxHeartbeats 4000000
open Go.RowKit
open M
open X
section
variable{w:aG}{a b i k:Nat}{v:Value}{p q:Part}{l:List Value}{ps qs:List Part}{x:ah}
namespace X
def UE:List Part→Int→List Q
 | [],_=>[]
 | p::ps,i=>put p i::UE ps (i+pz [p])
theorem Yr(p:Part):pz [p]=(pb p).length:=by unfold pz;rw[mM,mM,aL]
theorem FP:∀(ps:List Part) (i f t:Int) (l:Bool),(puts ps i f t l).1=UE ps i
 | [],i,f,t,l=>by rw[puts,UE]
 | p::ps,i,f,t,l=>by
  rw[puts,UE];show put p i::(puts ps _ _ _ _).1=_;rw[FP ps,DZ,Yr]
theorem LH:∀(ps:List Part) (i:Int),(UE ps i).length=ps.length
 | [],i=>rfl
 | p::ps,i=>by rw[UE,aY,LH ps,aY]
theorem LJ:∀(ps:List Part) (i:Nat) (j:Nat) (p:Part),ps[j]?=some p→(UE ps i)[j]?=some (put p ((i+pz (ps.take j):Nat):Int))
 | [],i,j,p,h=>by simp at h
 | q::ps,i,0,p,h=>by
  obtain rfl:q=p:=by simpa using h
  rw[UE,jr,rA];rfl
 | q::ps,i,j+1,p,h=>by
  rw[UE,List.getElem?_cons_succ,List.take_succ_cons,gF q (ps.take j)];have:=LJ ps (i+pz [q]) j p (by simpa using h);rw[← fK];rw[show((i:Int)+(pz [q]:Int))=((i+pz [q]:Nat):Int) by omega];exact this
def pq:Part→List Part
 | .br _ ps=>ps
 | _=>[]
end X
def lS(w:aG)(a b:Nat)(v:Value)(p:Part)(i:Nat):Prop:=nu w a b v (X.put p i)
theorem lS.keep{S:Nat→Prop}{w w':aG}(hk:Kp S w w'){a b:Nat}{v:Value}{p:Part}{i:Nat}(h:lS w a b v p i)(hS:∀ q,a≤q→q<b→¬ S q):lS w' a b v p i:=nu.keep hk h hS
theorem lS.leaf{w:aG}{a b:Nat}{v:Value}{k:Nat}{x:ah}{i:Nat}(h:lS w a b v (.leaf k x) i)(hk:¬(k=1∨k=2)):∃ N rv en tt la,v=aH N∧a≤N∧N<b∧Nd w N 0 k x rv i en i tt la:=by
 unfold lS at h;rw[X.put,aM hk] at h;cases h with
 | mk _ _ N _ _ _ qs kM en fr tt la ao cap vs L H hN hb hc hr hs hp=>exact⟨N,_,_,_,_,rfl,hN.1,hN.2,hb⟩
theorem lS.miss{w:aG}{a b:Nat}{v:Value}{m:ah}{i:Nat}(h:lS w a b v (.miss m) i):∃ N ao cap kM en fr tt la,v=aH N∧a≤N∧N<b∧Nd w N 1 0 m (.slice ao 0 cap) kM en fr tt la:=by
 unfold lS at h;rw[X.put] at h;cases h with
 | mk _ _ N _ _ _ qs kM en fr tt la ao cap vs L H hN hb hc hr hs hp=>exact⟨N,_,_,_,_,_,_,_,rfl,hN.1,hN.2,hb⟩
def pk:Part→Nat
 | .leaf _ _=>0
 | .miss _=>1
 | .br k _=>k
def JK:Part→Nat
 | .leaf k _=>k
 | _=>0
def Yt:Part→ah
 | .leaf _ x=>x
 | .miss m=>m
 | .br _ _=>[]
theorem lS.any(h:lS w a b v p i):∃ N ao cap kM en fr tt la,∃ vs:Nat→Value,v=aH N∧a≤N∧N<b∧Nd w N (pk p) (JK p) (Yt p) (.slice ao (X.pq p).length cap) kM en fr tt la∧(X.pq p).length≤cap∧cap≤maxLen ∧
  (∀ j,j<(X.pq p).length→∃ g,ao=some ⟨g,0,none⟩∧a≤g∧g<b∧w.cell? (aC g j)=some (vs j)) ∧
  ∀(j:Nat) (q:Part),(X.pq p)[j]?=some q→lS w a b (vs j) q (i+pz ((X.pq p).take j)):=by
 unfold lS at h;have key:∀(k t:Nat) (x:ah) (ps:List Part) (i en fr tt:Int) (la:Bool) (i0:Nat),nu w a b v (.mk k t x (UE ps i0) i en fr tt la)→∃ N ao cap kM en fr tt la,∃ vs:Nat→Value,v=aH N∧a≤N∧N<b∧Nd w N k t x (.slice ao ps.length cap) kM en fr tt la∧ps.length≤cap∧cap≤maxLen ∧
  (∀ j,j<ps.length→∃ g,ao=some ⟨g,0,none⟩∧a≤g∧g<b∧w.cell? (aC g j)=some (vs j)) ∧
  ∀(j:Nat) (q:Part),ps[j]?=some q→lS w a b (vs j) q (i0+pz (ps.take j)):=by
  intro k t x ps i en fr tt la i0 h;cases h with
  | mk _ _ N _ _ _ qs kM en fr tt la ao cap vs L H hN hb hc hr hs hp =>
   rw[LH] at hb hc hr hs;refine⟨N,ao,cap,_,_,_,_,_,vs,rfl,hN.1,hN.2,hb,hc.1,hc.2,fun j hj=>?_,fun j q hq=>?_⟩
   ·obtain⟨g,e1,e2,e3,e4,e5,e6⟩:=hr j hj
    exact⟨g,e1,e2,e3,e6⟩
   ·have hj:=lt_of_some hq
    obtain⟨s1,s2,s3,-⟩:=hs j hj;exact(hp j _ (LJ ps i0 j q hq)).wide s1 s3
 cases p with
 | leaf k x=>rw[X.put] at h;exact key 0 k x [] _ _ _ _ _ i h
 | miss m=>rw[X.put] at h;exact key 1 0 m [] _ _ _ _ _ i h
 | br k ps=>rw[X.put,FP] at h;exact key k 0 [] ps _ _ _ _ _ i h
inductive LP(w:aG)(a b:Nat):List Value→List Part→Nat→Prop
 | nil (i:Nat):LP w a b [] [] i
 | quiet (q:Part) (l:List Value) (ps:List Part) (i:Nat) (hq:lq q=true) (h:LP w a b l ps (i+pz [q])):LP w a b l (q::ps) i
 | cons (v:Value) (p:Part) (l:List Value) (ps:List Part) (i:Nat) (hq:lq p=false) (hv:lS w a b v p i) (h:LP w a b l ps (i+pz [p])):LP w a b (v::l) (p::ps) i
theorem LP.keep{S:Nat→Prop}{w w':aG}{a b:Nat}(hk:Kp S w w')(hS:∀ q,a≤q→q<b→¬ S q){l:List Value}{ps:List Part}{i:Nat}(h:LP w a b l ps i):LP w' a b l ps i:=by
 induction h with
 | nil i=>exact .nil i
 | quiet q l ps i hq h ih=>exact .quiet q l ps i hq ih
 | cons v p l ps i hq hv h ih=>exact .cons v p l ps i hq (hv.keep hk hS) ih
theorem LP.len(h:LP w a b l ps i):l.length≤ps.length:=by
 induction h with
 | nil i=>exact ax _
 | quiet q l ps i hq h ih=>rw[aY];omega
 | cons v p l ps i hq hv h ih=>rw[aY,aY];omega
theorem LP.aH4(h:LP w a b l ps i)(hq:lq q=true):LP w a b l (ps++[q]) i:=by
 induction h with
 | nil i=>exact .quiet q [] [] i hq (.nil _)
 | quiet q' l ps i hq' h ih=>exact .quiet q' l _ i hq' ih
 | cons v p l ps i hq' hv h ih=>exact .cons v p l _ i hq' hv ih
theorem LP.snoc(h:LP w a b l ps i)(hq:lq q=false):lS w a b v q (i+pz ps)→LP w a b (l++[v]) (ps++[q]) i:=by
 induction h with
 | nil i=>intro hv;exact .cons v q [] [] i hq (by rw[rA] at hv;exact hv) (.nil _)
 | quiet q' l ps i hq' h ih =>
  intro hv;rw[gF,← fK] at hv;exact .quiet q' _ _ i hq' (ih hv)
 | cons v' p l ps i hq' hv' h ih =>
  intro hv;rw[gF,← fK] at hv;exact .cons v' p _ _ i hq' hv' (ih hv)
theorem LP.app:∀ {l:List Value} {i:Nat},LP w a b l (ps++qs) i→∃ l1 l2,l=l1++l2∧LP w a b l1 ps i∧LP w a b l2 qs (i+pz ps):=by
 induction ps with
 | nil=>intro l i h;exact⟨[],l,rfl,.nil i,by rw[rA];exact h⟩
 | cons p ps ih =>
  intro l i h;cases h with
  | quiet _ _ _ _ hq h =>
   obtain⟨l1,l2,e,h1,h2⟩:=ih h;exact⟨l1,l2,e,.quiet p l1 ps i hq h1,by rw[gF,← fK];exact h2⟩
  | cons v _ l' _ _ hq hv h =>
   obtain⟨l1,l2,e,h1,h2⟩:=ih h;exact⟨v::l1,l2,by rw[e];rfl,.cons v p l1 ps i hq hv h1,by rw[gF,← fK];exact h2⟩
theorem LP.one(h:LP w a b l [p] i)(hq:lq p=false):∃ v,l=[v]∧lS w a b v p i:=by
 cases h with
 | quiet _ _ _ _ hq' h=>rw[hq] at hq';cases hq'
 | cons v _ l' _ _ hq hv h=>cases h;exact⟨v,rfl,hv⟩
theorem LP.Yu(h:LP w a b l ps i):(∀ q∈ps,lq q=true)→l=[]:=by
 induction h with
 | nil i=>intro _;rfl
 | quiet q l ps i hq h ih=>intro hq;exact ih (fun q' h'=>hq q' (eX _ h'))
 | cons v p l ps i hq' hv h ih=>intro hq;rw[hq p aT] at hq';cases hq'
theorem P_(h:¬(k=1∨k=2)):lq (.leaf k x)=false:=by
 unfold lq;simp;omega
theorem LP.tk1(h:LP w a b l ps i)(ht:vH ps k x qs):∃ v,l=[v]∧lS w a b v (.leaf k x) (i+pz qs):=by
 rw[ht.eq] at h;obtain⟨l1,l2,rfl,h1,h2⟩:=h.app;obtain rfl:=h1.Yu ht.qu;exact h2.one (P_ ht.ne)
theorem LP.y_(h:LP w a b l ps i)(ht:sj ps):∃ v p i',l=[v]∧lS w a b v p i'∧pk p≤1:=by
 rcases ht with ⟨k,x,qs,h1⟩|⟨m,rfl⟩
 ·obtain⟨v,e,h2⟩:=h.tk1 h1
  exact⟨v,_,_,e,h2,bJ _⟩
 ·obtain⟨v,e,h2⟩:=h.one rfl
  exact⟨v,_,_,e,h2,ax _⟩
def qx(w:aG)(a b:Nat)(v:Value)(n:Nm):Prop:=(n.1=[]∧v=.pointer none)∨(n.1≠[]∧∃ N t rv kM en tt la,v=aH N∧a≤N∧N<b∧t=3∧Nd w N 0 t n.1 rv kM en n.2 tt la)
theorem qx.keep{S:Nat→Prop}{w':aG}(hk:Kp S w w'){n:Nm}(h:qx w a b v n)(hS:∀ q,a≤q→q<b→¬ S q):qx w' a b v n:=by
 rcases h with h|⟨h0,N,t,rv,kM,en,tt,la,h1,h2,h3,h4,h5⟩
 ·exact .inl h
 ·exact .inr ⟨h0,N,t,rv,kM,en,tt,la,h1,h2,h3,h4,hk.heap h5 (hS N h2 h3)⟩
def JO(p:Part)(v:Value):Value:=if pk p=0∧JK p=3 then v else .pointer none
theorem LP.nmp{nm:Nm}(h:LP w a b l ps i)(hn:zG ps i nm)(hb:oG ps):∃ v p i',l=[v]∧lS w a b v p i'∧pk p≤1∧qx w a b (JO p v) nm:=by
 cases hn with
 | name _ x qs _ ht =>
  obtain⟨v,e,h2⟩:=h.tk1 ht;have hx:x≠[]:=by
   have:=ht.eq;subst this;exact(hb.app.2).one.leaf
  refine⟨v,_,_,e,h2,bJ _,.inr ⟨hx,?_⟩⟩;obtain⟨N,rv,en,tt,la,rfl,h3,h4,h5⟩:=h2.leaf au;exact⟨N,3,rv,_,en,tt,la,rfl,h3,h4,rfl,h5⟩
 | miss _ =>
  obtain⟨v,e,h2⟩:=h.one rfl;exact⟨v,_,_,e,h2,ax _,.inl ⟨rfl,rfl⟩⟩
end
section
open Tryz
variable{a b i:Nat}{v:Value}{p:Part}
theorem lU(l:ah):(ba l).toList=l:=by rw[jw];exact rV l
theorem lS.below{w w':aG}(hk:Below w.heap.size w w')(h:lS w a b v p i):lS w' a b v p i:=h.keep (Kp.aN hk (fun _=>False)) (fun _ _ _=>id)
structure U3(w:aG)(a b:Nat)(ps:List Part)(i:Nat)(j:Nat)(rv:Value)(wr:aG):Prop where
 ex:∃ l,LP w a b l (ps.take j) i∧wr.ownsRow w.heap.size 51 1 rv l.length l
 BQ:Below w.heap.size w wr
theorem Cw{w:aG}(h:lS w a b v p i)(hb:b≤w.heap.size)(hk0:su p)(hl:(X.pq p).length≤1073741824) :
  bB 33 #[v] w fun e w'=>∃ rv,e=.returned rv∧Hid ((∃ l,LP w a b l (X.pq p) i∧w'.ownsRow w.heap.size 51 1 rv l.length l)∧Below w.heap.size w w'):=by
 obtain⟨i0,hi0,hz0,hz1,hz2⟩:=dM qM;obtain⟨N,ao,cap,kM,en,fr,tt,la,vs,rfl,hN1,tX,hnd,hc,hcm,hrow,uD⟩:=h.any;have HQ:Hid (∀ q∈X.pq p,∀ k' ps',q=.br k' ps'→k'≠0):=by
  cases p with
  | leaf k x=>intro q hq;cases hq
  | miss m=>intro q hq;cases hq
  | br k ps =>
   rw[su] at hk0;intro q hq k' ps' e;obtain⟨j,hj⟩:=List.getElem?_of_mem hq;have:=vK ps j q hk0.2 hj;rw[e,su] at this;exact this.1
 generalize X.pq p=ps at *;obtain⟨⟨c0,c1,c2,c3,c4,c5,c6,c7,c8⟩,-⟩:=hnd.facts;have HI0:Hid (U3 w a b ps i 0 (.slice none 0 0) w):=⟨⟨[],.nil i,dK _ _ _ _⟩,aB _ _⟩;have lT:=aA hrow;have D6:=aA uD;have rC:N<w.heap.size:=au
 clear hrow uD h hnd hk0;go_enter func33,ntmps33;go_wp2_with fail
 go_loopw [3,4] (fun rv jv wr=>∃(j:Nat),jv=ak j∧j≤ps.length∧Hid (U3 w a b ps i j rv wr)) (fun _ v _=>ps.length - (intOf v).toNat)
 case atStart=>exact⟨0,rfl,bJ _,HI0⟩
 case round =>
  clear HI0;obtain⟨j,rfl,hj,HI⟩:=hrel;have d3:=iY (HI.o).BQ rC c3;by_cases hlt:j<ps.length
  case neg =>
   obtain rfl:j=ps.length:=au
   have i1:decide (ps.length<ps.length)=false:=aT
   have i2:decide ((ps.length:Int)<(ps.length:Int))=false:=aT
   have HF:Hid ((∃ l,LP w a b l ps i∧wr.ownsRow w.heap.size 51 1 u3 l.length l)∧Below w.heap.size w wr):=by
    obtain⟨l,h1,h2⟩:=(HI.o).ex;rw[fC] at h1;exact⟨⟨l,h1,h2⟩,(HI.o).BQ⟩
   clear c0 c1 c2 c3 c4 c5 c6 c7 c8;go_wp2_with fail
   go_ret;exact⟨_,rfl,HF⟩
  have i1:decide (j<ps.length)=true:=aQ
  have i2:decide ((j:Int)<(ps.length:Int))=true:=aQ
  have hi1:(0:Int)≤(j:Int):=bO _;have hi2:(j:Int)<(ps.length:Int):=au
  obtain⟨q,hqj⟩:∃ q,ps[j]?=some q:=⟨ps[j],aF hlt⟩;have hq:=(D6.o) j q hqj;obtain⟨g,rfl,hg1,hg2,hcell⟩:=(lT.o) j hlt;have p0:=iY (HI.o).BQ au hcell;obtain⟨Nj,aoj,Yw,a1,a2,a3,a4,a5,vF,Jq,hj1,hj2,vI,-⟩:=hq.any;obtain⟨⟨e0,e1,-⟩,-⟩:=vI.facts;have f0:=iY (HI.o).BQ au e0;have f1:=iY (HI.o).BQ au e1;rw[Jq] at p0;have HQJ:=aA hq;have HP:=aA hqj;have HV:=aA Jq;obtain⟨l,hlp,hown⟩:=(HI.o).ex;have hll:l.length≤j:=by have:=hlp.len;rw[dX] at this;omega
  have HLP:=aA hlp;have HO:=aA hown;have HB:=aA (HI.o).BQ;clear hq Jq vI hcell e0 e1 c0 c1 c2 c4 c5 c6 c7 c8 hlp hown HI;have lG:Hid (∀(W:aG) (rv:Value) (l':List Value),LP w a b l' (ps.take j++[q]) i→W.ownsRow w.heap.size 51 1 rv l'.length l'→Below w.heap.size w W→U3 w a b ps i (j+1) rv W):=fun W rv l' h1 h2 h3=>⟨⟨l',by rw[List.take_add_one,HP.o];exact h1,h2⟩,h3⟩
  have hq0:=(HQ.o) q (dF hqj);cases hlq:lq q with
  | true =>
   obtain⟨k,x,rfl,hk⟩:=pE hlq;have b0:((pk (.leaf k x):Nat):Int)=0:=rfl;rw[b0] at f0;have HN:=aA <| (lG.o) wr u3 l ((HLP.o).aH4 hlq) HO.o HB.o;clear lG HLP HO hqj;have b1:((JK (.leaf k x):Nat):Int)=(k:Int):=rfl;rw[b1] at f1;rcases hk with rfl|rfl
   ·go_wp2_with fail
    exact⟨⟨j+1,by go_num,au,HN⟩,by simp only[intOf];omega⟩
   ·go_wp2_with fail
    exact⟨⟨j+1,by go_num,au,HN⟩,by simp only[intOf];omega⟩
  | false =>
   have HN:Hid (∀(W:aG) (rv:Value),W.ownsRow w.heap.size 51 1 rv (l.length+1) (l++[aH Nj])→Below w.heap.size w W→U3 w a b ps i (j+1) rv W):=fun W rv h1 h2=>(lG.o) W rv (l++[aH Nj]) (by
    have hv:=HQJ.o;rw[HV.o] at hv;exact(HLP.o).snoc hlq hv) (by rw[ay,bF];exact h1) h2
   have vJ:=(HB.o).size;have key:(pk q=0∧((JK q:Int) !=1)=true∧((JK q:Int) !=2)=true)∨((pk q:Int) !=0)=true:=by
    cases q with
    | leaf k x =>
     left
     simp[lq] at hlq;refine⟨rfl,?_,?_⟩<;>simp[JK]<;>omega
    | miss m=>right;rfl
    | br k ps'=>right;have:=hq0 k ps' rfl;simp[pk];omega
   clear lG HLP HQJ hqj hq0 hlq;generalize pk q=kq at *;generalize JK q=tq at *;have hge:=dG HO.o;rcases key with ⟨rfl,k1,k2⟩|k0
   ·go_wp2_with (at_builtin;refine wpList_append_lies _ rfl _ _ 35 rfl w.heap.size 51 i0 _ 1 8 underlying35 hi0 hz0 hz1 hz2 rfl aS u3 l.length _ rfl ((HO.o).alloc _) ⟨wr.heap.size,0,none⟩ 1 1 [aH Nj] rfl rfl (World.news_of_block (cs:=#[aH Nj]) (aI wr _)) (by simp[Value.oneCell']) au (by unfold maxLen;omega) au aQ (wr.heap.size+1) aT ?_;intro g5 cap5 w5 hown5 aV gI jm;have Jr:=aA <| (HN.o) w5 _ hown5 ((((HB.o).alloc vJ _)).grown aV aQ (fun q hq=>(hge q hq).1)))
    exact⟨⟨j+1,by go_num,au,Jr⟩,by simp only[intOf];omega⟩
   ·go_wp2_with (at_builtin;refine wpList_append_lies _ rfl _ _ 35 rfl w.heap.size 51 i0 _ 1 8 underlying35 hi0 hz0 hz1 hz2 rfl aS u3 l.length _ rfl ((HO.o).alloc _) ⟨wr.heap.size,0,none⟩ 1 1 [aH Nj] rfl rfl (World.news_of_block (cs:=#[aH Nj]) (aI wr _)) (by simp[Value.oneCell']) au (by unfold maxLen;omega) au aQ (wr.heap.size+1) aT ?_;intro g5 cap5 w5 hown5 aV gI jm;have Jr:=aA <| (HN.o) w5 _ hown5 ((((HB.o).alloc vJ _)).grown aV aQ (fun q hq=>(hge q hq).1)))
    exact⟨⟨j+1,by go_num,au,Jr⟩,by simp only[intOf];omega⟩
end
section
open Tryz
variable{w:aG}{a b i j:Nat}{v:Value}{ns:List Nm}{ps:List Part}{q:Part}
theorem xg{p:Part}(h:lS w a b v p i):bB 34 #[v] w (cK (JO p v) fun w'=>w'=w):=by
 obtain⟨N,ao,cap,kM,en,fr,tt,la,vs,rfl,hN1,tX,hnd,-⟩:=h.any;obtain⟨⟨c0,c1,-⟩,-⟩:=hnd.facts;unfold JO;clear h hnd;generalize pk p=kq at *;generalize JK p=tq at *;by_cases h0:kq=0
 ·subst h0
  by_cases h3:tq=3
  ·subst h3
   rw[aU ⟨rfl,rfl⟩];go_enter func34,ntmps34;go_wp2_with fail
   go_ret;exact⟨rfl,rfl⟩
  ·rw[aM (fun e=>h3 e.2)]
   have k1:((tq:Int)==3)=false:=aQ
   go_enter func34,ntmps34;go_wp2_with fail
   go_ret;exact⟨rfl,rfl⟩
 ·rw[aM (fun e=>h0 e.1)]
  have k1:((kq:Int)==0)=false:=aQ
  go_enter func34,ntmps34;go_wp2_with fail
  go_ret;exact⟨rfl,rfl⟩
def Yv(w:aG)(a b:Nat)(l:List Value)(ns:List Nm):Prop:=l.length=ns.length∧∀(j:Nat) (n:Nm),ns[j]?=some n→∃ u,l[j]?=some u∧qx w a b u n
theorem Yv.snoc{l:List Value}(h:Yv w a b l ns){u:Value}{n:Nm}(hu:qx w a b u n):Yv w a b (l++[u]) (ns++[n]):=by
 refine⟨by rw[ay,ay,h.1];rfl,fun j m hj=>?_⟩;rcases cu j ns.length with g|g
 ·rw[bT g] at hj
  obtain⟨u',h1,h2⟩:=h.2 j m hj;exact⟨u',by rw[bT (by rw[h.1];exact g)];exact h1,h2⟩
 ·have hl:=lt_of_some hj
  rw[ay,bF] at hl;obtain rfl:j=ns.length:=au
  rw[bL (ax _),iZ] at hj;obtain rfl:n=m:=by simpa using hj
  exact⟨u,by rw[← h.1,bL (ax _),iZ];rfl,hu⟩
theorem Qa(h:nU ps i ns){r:List Part}(e:ps=q::r)(hb:oG ps)(hv:lS w a b v q i) :
  (((pk q=0∧JK q=3)∨(pk q=1∧Yt q=gy∧JK q=0))∧∃ n ns',ns=n::ns'∧qx w a b (JO q v) n∧nU r (i+pz [q]) ns') ∨
  (((pk q=0∧JK q≠3)∨(pk q=1∧Yt q≠gy))∧nU r (i+pz [q]) ns):=by
 cases h with
 | nil i=>cases e
 | name x ps i ns h =>
  cases e
  refine .inl ⟨.inl ⟨rfl,rfl⟩,_,_,rfl,.inr ⟨hb.head.1.leaf,?_⟩,by rw[ji];exact h⟩;obtain⟨N,rv,en,tt,la,rfl,h3,h4,h5⟩:=hv.leaf au;exact⟨N,3,rv,_,en,tt,la,rfl,h3,h4,rfl,h5⟩
 | leaf k x ps i ns hk h =>
  cases e
  exact .inr ⟨.inl ⟨rfl,hk⟩,by rw[ji];exact h⟩
 | lack ps i ns h =>
  cases e
  exact .inl ⟨.inr ⟨rfl,rfl,rfl⟩,_,_,rfl,.inl ⟨rfl,rfl⟩,h⟩
 | miss m ps i ns hm h =>
  cases e
  exact .inr ⟨.inr ⟨rfl,hm⟩,h⟩
structure U0(w:aG)(a b:Nat)(ps:List Part)(i:Nat)(ns:List Nm)(j:Nat)(rv:Value)(wr:aG):Prop where
 ex:∃ l n1 n2,ns=n1++n2∧Yv w a b l n1∧l.length≤j∧nU (ps.drop j) (i+pz (ps.take j)) n2∧wr.ownsRow w.heap.size 51 1 rv l.length l
 BQ:Below w.heap.size w wr
theorem zb(h:ps[j]?=some q)(i:Nat):i+pz (ps.take j)+pz [q]=i+pz (ps.take (j+1)):=by
 rw[List.take_add_one,h,bZ];show _=i+(_+pz [q]);omega
theorem drop_cons(h:ps[j]?=some q):ps.drop j=q::ps.drop (j+1):=by
 have hl:=lt_of_some h;rw[dS hl];congr 1;exact bQ ((aF hl).symm.trans h)
theorem Cv{qs:List Part}(h:lS w a b v (.br 6 qs) i)(hb:b≤w.heap.size)(hn:nU qs i ns)(hy:oG qs)(hl:qs.length≤1073741824) :
  bB 35 #[v] w fun e w'=>∃ rv,e=.returned rv∧Hid ((∃ l,Yv w a b l ns∧w'.ownsRow w.heap.size 51 1 rv l.length l)∧Below w.heap.size w w'):=by
 obtain⟨i0,hi0,hz0,hz1,hz2⟩:=dM qM;obtain⟨N,ao,cap,kM,en,fr,tt,la,vs,rfl,hN1,tX,hnd,hc,hcm,hrow,uD⟩:=h.any;have hkd:X.pq (.br 6 qs)=qs:=rfl;rw[hkd] at hnd hc hrow uD;obtain⟨⟨c0,c1,c2,c3,c4,c5,c6,c7,c8⟩,-⟩:=hnd.facts;have HI0:Hid (U0 w a b qs i ns 0 (.slice none 0 0) w):=⟨⟨[],[],ns,rfl,⟨rfl,fun j n hj=>(by simp at hj)⟩,ax _,hn,dK _ _ _ _⟩,aB _ _⟩;have lT:=aA hrow;have D6:=aA uD;have HY:=aA hy;have rC:N<w.heap.size:=au
 clear hrow uD h hnd hn hy hkd;go_enter func35,ntmps35;go_wp2_with fail
 go_loopw [3,4] (fun rv jv wr=>∃(j:Nat),jv=ak j∧j≤qs.length∧Hid (U0 w a b qs i ns j rv wr)) (fun _ v _=>qs.length - (intOf v).toNat)
 case atStart=>exact⟨0,rfl,bJ _,HI0⟩
 case round =>
  clear HI0;obtain⟨j,rfl,hj,HI⟩:=hrel;have d3:=iY (HI.o).BQ rC c3;by_cases hlt:j<qs.length
  case neg =>
   obtain rfl:j=qs.length:=au
   have i1:decide (qs.length<qs.length)=false:=aT
   have i2:decide ((qs.length:Int)<(qs.length:Int))=false:=aT
   have HF:Hid ((∃ l,Yv w a b l ns∧wr.ownsRow w.heap.size 51 1 u3 l.length l)∧Below w.heap.size w wr):=by
    obtain⟨l,n1,n2,e1,e2,-,e3,e4⟩:=(HI.o).ex;rw[List.drop_length] at e3;cases e3
    rw[aL] at e1;subst e1;exact⟨⟨l,e2,e4⟩,(HI.o).BQ⟩
   clear c0 c1 c2 c3 c4 c5 c6 c7 c8;go_wp2_with fail
   go_ret;exact⟨_,rfl,HF⟩
  have i1:decide (j<qs.length)=true:=aQ
  have i2:decide ((j:Int)<(qs.length:Int))=true:=aQ
  have hi1:(0:Int)≤(j:Int):=bO _;have hi2:(j:Int)<(qs.length:Int):=au
  obtain⟨q,hqj⟩:∃ q,qs[j]?=some q:=⟨qs[j],aF hlt⟩;have hq:=(D6.o) j q hqj;obtain⟨g,rfl,hg1,hg2,hcell⟩:=(lT.o) j hlt;have p0:=iY (HI.o).BQ au hcell;obtain⟨l,n1,n2,hns,hlf,hll,hms,hown⟩:=(HI.o).ex;have hby:oG (qs.drop j):=by
   have:=HY.o;rw[← fD j qs] at this;exact this.app.2
  have hstep:=Qa hms (drop_cons hqj) hby hq;rw[zb hqj] at hstep;obtain⟨Nj,aoj,Yw,a1,a2,a3,a4,a5,vF,Jq,hj1,hj2,vI,-⟩:=hq.any;obtain⟨⟨e0,e1,e2,-⟩,-⟩:=vI.facts;have f0:=iY (HI.o).BQ au e0;have f1:=iY (HI.o).BQ au e1;have f2:=iY (HI.o).BQ au e2;rw[Jq] at p0;have HQJ:=aA (hq.below (w':=w) (aB _ _));have HV:=aA Jq;have HO:=aA hown;have HB:=aA (HI.o).BQ;have lG:Hid (∀(W:aG) (rv:Value) (l':List Value) (m1 m2:List Nm),ns=m1++m2→Yv w a b l' m1→l'.length≤j+1→nU (qs.drop (j+1)) (i+pz (qs.take (j+1))) m2→W.ownsRow w.heap.size 51 1 rv l'.length l'→Below w.heap.size w W→U0 w a b qs i ns (j+1) rv W):=fun W rv l' m1 m2 h1 h2 h3 h4 h5 h6=>⟨⟨l',m1,m2,h1,h2,h3,h4,h5⟩,h6⟩
  have HLF:=aA hlf;have HNS:=aA hns;clear hq vI hcell e0 e1 e2 c0 c1 c2 c4 c5 c6 c7 c8 hlf hown HI hms hby hns;rcases hstep with ⟨hk,n,ns',rfl,hlv,hrest⟩|⟨hk,hrest⟩
  ·have HN:Hid (∀(W:aG) (rv:Value),W.ownsRow w.heap.size 51 1 rv (l.length+1) (l++[JO q (aH Nj)])→Below w.heap.size w W→U0 w a b qs i ns (j+1) rv W):=fun W rv h1 h2=>(lG.o) W rv (l++[JO q (aH Nj)]) (n1++[n]) ns' (by rw[HNS.o,aK];rfl) ((HLF.o).snoc (by rw[← HV.o];exact hlv)) (by rw[ay,bF];omega) hrest (by rw[ay,bF];exact h1) h2
   have vJ:=(HB.o).size;have hge:=dG HO.o;have HC:Hid (bB 34 #[aH Nj] wr (cK (JO q (aH Nj)) fun w'=>w'=wr)):=by
    have:=xg ((HQJ.o).keep (Kp.aN HB.o (fun _=>False)) (fun _ _ _=>id));rw[HV.o] at this;exact this
   clear lG hlv hrest hqj HLF HQJ;obtain⟨po,hpo⟩:∃ po,JO q (aH Nj)=.pointer po:=by unfold JO;split<;>exact⟨_,rfl⟩
   rw[hpo] at HN HC;clear hpo;have k1:(pk q=0∧JK q=3)∨(pk q=1∧ba (Yt q)=ba gy):=by
    rcases hk with h|⟨h1,h2,-⟩
    ·exact .inl h
    ·exact .inr ⟨h1,by rw[h2]⟩
   clear hk;generalize pk q=kq at *;generalize JK q=tq at *;generalize ba (Yt q)=xq at *;rcases k1 with ⟨rfl,rfl⟩|⟨rfl,rfl⟩
   ·go_wp2_with fail
    refine(HC.o).mono ?_;rintro e w2 ⟨rfl,rfl⟩;go_wp2_with (at_builtin;refine wpList_append_lies _ rfl _ _ 35 rfl w.heap.size 51 i0 _ 1 8 underlying35 hi0 hz0 hz1 hz2 rfl aS u3 l.length _ rfl ((HO.o).alloc _) ⟨w2.heap.size,0,none⟩ 1 1 [.pointer po] rfl rfl (World.news_of_block (cs:=#[.pointer po]) (aI w2 _)) (by simp[Value.oneCell']) au (by unfold maxLen;omega) au aQ (w2.heap.size+1) aT ?_;intro g5 cap5 w5 hown5 aV gI jm;have Jr:=aA <| (HN.o) w5 _ hown5 ((((HB.o).alloc vJ _)).grown aV aQ (fun q hq=>(hge q hq).1)))
    exact⟨⟨j+1,by go_num,au,Jr⟩,by simp only[intOf];omega⟩
   ·have hs:ba gy=⟨#[110,97,109,101]⟩:=rfl
    rw[hs] at f2;go_wp2_with fail
    refine(HC.o).mono ?_;rintro e w2 ⟨rfl,rfl⟩;go_wp2_with (at_builtin;refine wpList_append_lies _ rfl _ _ 35 rfl w.heap.size 51 i0 _ 1 8 underlying35 hi0 hz0 hz1 hz2 rfl aS u3 l.length _ rfl ((HO.o).alloc _) ⟨w2.heap.size,0,none⟩ 1 1 [.pointer po] rfl rfl (World.news_of_block (cs:=#[.pointer po]) (aI w2 _)) (by simp[Value.oneCell']) au (by unfold maxLen;omega) au aQ (w2.heap.size+1) aT ?_;intro g5 cap5 w5 hown5 aV gI jm;have Jr:=aA <| (HN.o) w5 _ hown5 ((((HB.o).alloc vJ _)).grown aV aQ (fun q hq=>(hge q hq).1)))
    exact⟨⟨j+1,by go_num,au,Jr⟩,by simp only[intOf];omega⟩
  ·have HN:=aA <| (lG.o) wr u3 l n1 n2 HNS.o HLF.o au hrest HO.o HB.o
   clear lG hrest hqj HLF HQJ HO HB;have k1:(pk q=0∧((JK q:Int)==3)=false)∨(pk q=1∧((ba (Yt q)).toList==[110,97,109,101])=false):=by
    rcases hk with ⟨h1,h2⟩|⟨h1,h2⟩
    ·exact .inl ⟨h1,aQ⟩
    ·refine .inr ⟨h1,?_⟩
     rw[lU,eO];exact h2
   clear hk;generalize pk q=kq at *;generalize JK q=tq at *;generalize ba (Yt q)=xq at *;rcases k1 with ⟨rfl,k1⟩|⟨rfl,k1⟩
   ·go_wp2_with fail
    exact⟨⟨j+1,by go_num,au,HN⟩,by simp only[intOf];omega⟩
   ·go_wp2_with fail
    exact⟨⟨j+1,by go_num,au,HN⟩,by simp only[intOf];omega⟩
end
section
variable{w:aG}{a b k i:Nat}{v:Value}{x:ah}
namespace X
theorem CJ:∀(qs:List Part) (i:Nat) (t:Int) (l:Bool) (k:Nat) (x:ah),(∀ q∈qs,lq q=true)→¬(k=1∨k=2)→(puts (qs++[.leaf k x]) i (-1) t l).2.2.1=((i+pz qs:Nat):Int)
 | [],i,t,l,k,x,_,hk=>by
  rw[bM,puts];show(puts [] _ _ _ _).2.2.1=_;have e1:(put (.leaf k x) i).fr=i:=by rw[put];show(if k=1∨k=2 then(-1:Int) else i)=i;rw[aM hk]
  rw[puts,aU (au:(-1:Int)<0),e1,rA];rfl
 | q::qs,i,t,l,k,x,hq,hk=>by
  obtain⟨k',x',rfl,hk'⟩:=pE (hq q aT);rw[fM,puts];show(puts (qs++[.leaf k x]) _ _ _ _).2.2.1=_;have e1:(put (.leaf k' x') i).fr=-1:=by rw[put];show(if k'=1∨k'=2 then(-1:Int) else i)=-1;rw[aU hk']
  have e2:(put (.leaf k' x') i).en=((i+x'.length:Nat):Int):=by rw[DZ,pb];omega
  rw[aU (au:(-1:Int)<0),e1,e2,CJ qs (i+x'.length) _ _ k x (fun q h=>hq q (eX _ h)) hk,gF,ji];omega
theorem iX{a b:List Part}:ja (a++b)→ja a∧ja b:=by
 induction a with
 | nil=>intro h;exact⟨trivial,h⟩
 | cons p a ih =>
  intro h;obtain⟨h1,h2⟩:=h;obtain⟨h3,h4⟩:=ih h2;exact⟨⟨h1,h3⟩,h4⟩
end X
theorem lS.from{ps:List Part}(h:lS w a b v (.br k ps) i):∃ N rv kM en tt la,v=aH N∧a≤N∧N<b∧Nd w N k 0 [] rv kM en (puts ps i (-1) (-1) (k==1)).2.2.1 tt la:=by
 unfold lS at h;rw[X.put] at h;cases h with
 | mk _ _ N _ _ _ qs kM en fr tt la ao cap vs L H hN hb hc hr hs hp=>exact⟨N,_,_,_,_,_,rfl,hN.1,hN.2,hb⟩
theorem lS.var{t:Nat}{ps qs:List Part}(h:lS w a b v (.br k ps) i)(ht:vH ps t x qs):∃ N g M cap kM en tt la rv bt ben bfr btt bla,v=aH N∧a≤N∧N<b∧Nd w N k 0 [] (.slice (b_ g) (qs.length+1) cap) kM en ((i+pz qs:Nat):Int) tt la∧qs.length+1≤cap∧cap≤maxLen∧a≤g∧g<b∧w.cell? (aC g qs.length)=some (aH M)∧a≤M∧M<b∧Nd w M 0 t x rv bt ben bfr btt bla:=by
 obtain⟨N,ao,cap,kM,en,fr,tt,la,vs,rfl,hN1,tX,hnd,hc,hcm,hrow,uD⟩:=h.any;obtain⟨N',rv',aH7,en',U6,la',e,-,-,hnd'⟩:=h.from
 cases e
 have hkd:X.pq (.br k ps)=ps:=rfl;rw[hkd] at hnd hc hrow uD;have hl:ps.length=qs.length+1:=by rw[ht.eq,ay];rfl
 have hlast:ps[qs.length]?=some (.leaf t x):=by rw[ht.eq,bL (ax _),iZ];rfl
 obtain⟨g,rfl,hg1,hg2,hcell⟩:=hrow qs.length au;have hq:=uD qs.length _ hlast;obtain⟨M,rv,ben,btt,bla,hv,hM1,hM2,hm⟩:=hq.leaf ht.ne;rw[hv] at hcell;rw[hl] at hnd hc;have hfr:Nd w N k 0 [] (.slice (b_ g) (qs.length+1) cap) kM en ((i+pz qs:Nat):Int) tt la:=by
  have e1:(puts ps i (-1) (-1) (k==1)).2.2.1=((i+pz qs:Nat):Int):=by rw[ht.eq];exact CJ qs i _ _ t x ht.qu ht.ne
  have h2:=hnd';rw[e1] at h2;unfold Nd at hnd h2 ⊢;rw[hnd] at h2;have h3:=bQ h2;unfold gH at h3;injection h3 with h4 _ _;have h5:=congrArg (fun a:Array Value=>a[6]?) h4;simp at h5;have h6:((i+pz qs:Nat):Int)=fr:=au
  rw[h6];exact hnd
 exact⟨N,g,M,cap,kM,en,tt,la,rv,_,ben,_,btt,bla,rfl,hN1,tX,hfr,hc,hcm,hg1,hg2,hcell,hM1,hM2,hm⟩
namespace X
def Wk(f:Nat)(top:ah→An)(sc:List (List Nm))(p:Part)(i:Nat)(us:List U):Prop:=(∃ e,Rd p i e∧us=exU f top sc e)∨∃ gs es,p=.br 12 gs∧nA gs i es∧us=iM f top sc es
inductive sJ(f:Nat)(top:ah→An)(sc:List (List Nm)):List Part→Nat→List U→Prop
 | nil (i:Nat):sJ f top sc [] i []
 | skip (p:Part) (ps:List Part) (i:Nat) (us:List U) (hp:pk p≤1) (h:sJ f top sc ps (i+pz [p]) us):sJ f top sc (p::ps) i us
 | cons (p:Part) (ps:List Part) (i:Nat) (u1 us:List U) (hp:2≤pk p) (h1:Wk f top sc p i u1) (h:sJ f top sc ps (i+pz [p]) us):sJ f top sc (p::ps) i (u1++us)
variable{f:Nat}{top:ah→An}{sc:List (List Nm)}
theorem aI7{p:Part}{e:Ex}(h:Rd p i e):2≤pk p∨(pk p=1∧e=.missing):=by
 cases h with
 | missing=>exact .inr ⟨rfl,rfl⟩
 | lit k t x ps qs _ hk h=>exact .inl (by show 2≤k;omega)
 | var=>exact .inl (by show 2≤18;omega)
 | hole=>exact .inl (by show 2≤19;omega)
 | kH=>exact .inl (by show 2≤7;omega)
 | ite=>exact .inl (by show 2≤8;omega)
 | fn=>exact .inl (by show 2≤9;omega)
 | bin=>exact .inl (by show 2≤10;omega)
 | call=>exact .inl (by show 2≤11;omega)
 | list=>exact .inl (by show 2≤13;omega)
 | group=>exact .inl (by show 2≤14;omega)
theorem sJ.ex{p:Part}{ps:List Part}{e:Ex}{us:List U}(hp:Rd p i e)(h:sJ f top sc ps (i+pz [p]) us):sJ f top sc (p::ps) i (exU f top sc e++us):=by
 rcases aI7 hp with g|⟨g,rfl⟩
 ·exact .cons p ps i _ us g (.inl ⟨e,hp,rfl⟩) h
 ·rw[exU,bM]
  exact .skip p ps i us au h
theorem sJ.Ny:∀ {ps:List Part} {i:Nat} {es:List Ex},nA ps i es→sJ f top sc ps i (iM f top sc es)
 | [],i,es,h=>by cases h;rw[iM];exact .nil i
 | q::ps,i,es,h=>by
  cases h with
  | leaf k x _ _ _ h=>exact .skip _ _ _ _ (bJ _) (by rw[ji];exact sJ.Ny h)
  | miss m _ _ _ hm h=>exact .skip _ _ _ _ (ax _) (sJ.Ny (by have:pz [.miss m]=0:=rfl;rw[this];exact h))
  | cons _ _ _ e es hp h=>rw[iM];exact sJ.ex hp (sJ.Ny h)
theorem sJ.leaves:∀ {qs:List Part} {ps:List Part} {i:Nat} {us:List U},(∀ q∈qs,∃ k x,q=.leaf k x)→sJ f top sc ps (i+pz qs) us→sJ f top sc (qs++ps) i us
 | [],ps,i,us,_,h=>by rw[rA] at h;exact h
 | q::qs,ps,i,us,hq,h=>by
  obtain⟨k,x,rfl⟩:=hq q aT;rw[fM];refine .skip _ _ _ _ (bJ _) (sJ.leaves (fun q' h'=>hq q' (eX _ h')) ?_);rw[fK,← gF];exact h
theorem sJ.toks{ps:List Part}{qs:List Part}(h:vH ps k x qs):sJ f top sc ps i []:=by
 have:=sJ.leaves (f:=f) (top:=top) (sc:=sc) (i:=i) (ps:=[]) h.leaves (.nil _)
 rwa[aL] at this
theorem Wk.kids{p:Part}{us:List U}(h:Wk f top sc p i us)(h7:pk p≠7)(h9:pk p≠9)(h18:pk p≠18):sJ f top sc (pq p) i us:=by
 rcases h with ⟨e,h,rfl⟩|⟨gs,es,rfl,h,rfl⟩
 ·cases h with
  | missing=>rw[exU];exact .nil i
  | lit k t x ps qs _ hk h=>rw[exU];exact .toks h
  | var=>exact absurd rfl h18
  | hole t x ps qs _ h=>rw[exU];exact .toks h
  | kH=>exact absurd rfl h7
  | ite ps _ a b c h =>
   have:=sJ.Ny (f:=f) (top:=top) (sc:=sc) h;rw[iM,iM,iM,iM,aL] at this;rw[exU];exact this
  | fn=>exact absurd rfl h9
  | bin p1 p2 t qs k x _ e1 e2 hl h hr =>
   rw[exU];have:=sJ.ex hr (sJ.nil (f:=f) (top:=top) (sc:=sc) _);rw[aL] at this;exact sJ.ex hl (sJ.leaves (qs:=t) h.leaves this)
  | call p gs _ e es hc ha =>
   rw[exU];refine sJ.ex hc ?_;have:=sJ.cons (.br 12 gs) [] (i+pz [p]) _ _ (by show 2≤12;omega) (.inr ⟨gs,es,rfl,ha,rfl⟩) (sJ.nil (f:=f) (top:=top) (sc:=sc) _)
   rwa[aL] at this
  | list ps _ es h=>rw[exU];exact .Ny h
  | group ps _ e h =>
   have:=sJ.Ny (f:=f) (top:=top) (sc:=sc) h;rw[iM,iM,aL] at this;rw[exU];exact this
 ·exact .Ny h
end X
theorem LP.next{f:Nat}{top:ah→An}{sc:List (List Nm)}{w:aG}{a b:Nat}:∀ {ps:List Part} {v:Value} {l:List Value} {i:Nat} {us:List X.U},LP w a b (v::l) ps i→sJ f top sc ps i us→oG ps→ja ps→∃ p ps' i' u1 vM,lS w a b v p i'∧LP w a b l ps' (i'+pz [p])∧sJ f top sc ps' (i'+pz [p]) vM∧Cx p∧oG ps'∧su p∧ja ps'∧jh p+eT ps'≤eT ps∧us=u1++vM∧((pk p≤1∧u1=[])∨(2≤pk p∧X.Wk f top sc p i' u1))
 | [],v,l,i,us,h,_,_,_=>by cases h
 | q::ps,v,l,i,us,h,hw,hb,hk=>by
  cases h with
  | quiet _ _ _ _ hq h =>
   have hw':sJ f top sc ps (i+pz [q]) us:=by
    cases hw with
    | skip _ _ _ _ hp h=>exact h
    | cons _ _ _ u1 us hp h1 h =>
     obtain⟨k,x,rfl,-⟩:=pE hq;exact absurd hp (by show ¬ 2≤0;omega)
   obtain⟨p,ps',i',u1,vM,h1,h2,h3,h4,h5,h6,h7,h8,h9⟩:=LP.next h hw' hb.head.2 hk.2;refine⟨p,ps',i',u1,vM,h1,h2,h3,h4,h5,h6,h7,?_,h9⟩;rw[eT];omega
  | cons _ _ _ _ _ hq hv h =>
   cases hw with
   | skip _ _ _ _ hp hw=>exact⟨q,ps,i,[],us,hv,h,hw,hb.head.1,hb.head.2,hk.1,hk.2,by rw[eT];omega,rfl,.inl ⟨hp,rfl⟩⟩
   | cons _ _ _ u1 us hp h1 hw=>exact⟨q,ps,i,u1,us,hv,h,hw,hb.head.1,hb.head.2,hk.1,hk.2,by rw[eT];omega,rfl,.inr ⟨hp,h1⟩⟩
theorem LP.CK{f:Nat}{top:ah→An}{sc:List (List Nm)}{w:aG}{a b:Nat}:∀ {ps:List Part} {i:Nat} {us:List X.U},LP w a b [] ps i→sJ f top sc ps i us→us=[]
 | [],i,us,_,hw=>by cases hw;rfl
 | q::ps,i,us,h,hw=>by
  cases h with
  | quiet _ _ _ _ hq h =>
   cases hw with
   | skip _ _ _ _ hp hw=>exact LP.CK h hw
   | cons _ _ _ u1 us hp h1 hw =>
    obtain⟨k,x,rfl,-⟩:=pE hq;exact absurd hp (by show ¬ 2≤0;omega)
end
end Go.Proofs.YtoohcklcppnafaaGreatDoor
