import Derived.Test.YtoohcklcppnafaaGreatDoorYd
namespace Go.Proofs.YtoohcklcppnafaaGreatDoor
set_option maxRecDepth 100000
set_option maxHeartbeats 1000000
open M
section
variable{s:ah}
namespace X
inductive It where
 | use (pub:Bool) (m n:Nm) (gs:Bool) (a:Nm)
 | dfn (pub:Bool) (n:Nm) (ps:Option (List Nm)) (b:Ex)
def Qz:ah:=[97,115]
inductive PS:List Part→Bool→Prop
 | yes (ps:List Part) (k:Nat) (qs:List Part) (h:vH ps k jY qs):PS ps true
 | no:PS [] false
def Gg(s:ah)(ps:List Part):Prop:=(∃ k x qs,vH ps k x qs∧x≠s)∨∃ m,ps=[.miss m]
theorem Gg.y_{ps:List Part}(h:Gg s ps):sj ps:=by
 rcases h with ⟨k,x,qs,h1,-⟩|h
 ·exact .inl ⟨k,x,qs,h1⟩
 ·exact .inr h
inductive Z_:List Part→Nat→Bool→Nm→Prop
 | yes (t n:List Part) (k:Nat) (qs:List Part) (i:Nat) (nm:Nm) (h:vH t k Qz qs) (hn:zG n (i+pz t) nm):Z_ (t++n) i true nm
 | no (i:Nat):Z_ [] i false ([],0)
inductive Prp:List Part→Nat→Option (List Nm)→Prop
 | yes (qs:List Part) (i:Nat) (ns:List Nm) (h:nU qs i ns):Prp [.br 6 qs] i (some ns)
 | no (i:Nat):Prp [] i none
inductive BV:Part→Nat→It→Prop
 | use (pb t1 n1 t2 n2 ap t3:List Part) (i:Nat) (pub gs:Bool) (m n a:Nm) (hp:PS pb pub) (h1:Gg jY t1) (hm:zG n1 (i+pz pb+pz t1) m) (h2:sj t2) (hn:zG n2 (i+pz pb+pz t1+pz n1+pz t2) n) (ha:Z_ ap (i+pz pb+pz t1+pz n1+pz t2+pz n2) gs a) (h3:Gg Qz t3) :
   BV (.br 3 (pb++(t1++(n1++(t2++(n2++(ap++t3))))))) i (.use pub m n gs a)
 | dfn (pb t1 n1 pr t2:List Part) (p:Part) (t3:List Part) (i:Nat) (pub:Bool) (n:Nm) (ps:Option (List Nm)) (e:Ex) (hp:PS pb pub) (h1:Gg jY t1) (hn:zG n1 (i+pz pb+pz t1) n) (hr:Prp pr (i+pz pb+pz t1+pz n1) ps) (h2:sj t2) (he:Rd p (i+pz pb+pz t1+pz n1+pz pr+pz t2) e) (h3:sj t3) :
   BV (.br 4 (pb++(t1++(n1++(pr++(t2++([p]++t3))))))) i (.dfn pub n ps e)
inductive uG:List Part→Nat→List It→Prop
 | leaves (ps:List Part) (i:Nat) (h:∀ q∈ps,lq q=true):uG ps i []
 | junk (qs ps:List Part) (i:Nat) (its:List It) (hq:∀ q∈qs,∃ k x,q=.leaf k x) (h:uG ps (i+pz [.br 5 qs]) its):uG (.br 5 qs::ps) i its
 | item (p:Part) (ps:List Part) (i:Nat) (it:It) (its:List It) (hp:BV p i it) (h:uG ps (i+pz [p]) its):uG (p::ps) i (it::its)
theorem xQ{ts:List Tok}(h:dJ s ts=true):∃ k qs,vH (take ts).1 k s qs:=by
 obtain⟨k,x,qs,h1,h2⟩:=jo (bY h);have:x=s:=by
  unfold dJ at h;rw[h2] at h;simp at h;exact h.2
 subst this;exact⟨k,qs,h1⟩
theorem Bd{s':ah}(hs:s≠s')(ts:List Tok):Gg s' (want s ts).1:=by
 unfold want
 split
 ·next h =>
  obtain⟨k,qs,h1⟩:=xQ h;exact .inl ⟨k,s,qs,h1,hs⟩
 ·exact .inr ⟨s,rfl⟩
theorem MN(ts:List Tok):∃ b,PS (bH ts).1 b:=by
 unfold bH
 split
 ·next h =>
  obtain⟨k,qs,h1⟩:=xQ h;exact⟨true,.yes _ k qs h1⟩
 ·exact⟨false,.no⟩
theorem aA1(ts:List Tok)(i:Nat):∃ b a,Z_ (if dJ [97,115] ts then andThen take bE ts else([],ts)).1 i b a:=by
 split
 ·next h =>
  obtain⟨k,qs,h1⟩:=xQ h;obtain⟨nm,hn⟩:=qX (take ts).2 (i+pz (take ts).1);exact⟨true,nm,.yes _ _ k qs i nm h1 hn⟩
 ·exact⟨false,_,.no i⟩
theorem Wq(ts:List Tok)(i:Nat):∃ b,Prp (if dJ [40] ts then params ts else([],ts)).1 i b:=by
 split
 ·obtain⟨qs,h1,h2⟩:=Ba ts
  obtain⟨ns,hn⟩:=h2 i;rw[h1];exact⟨_,.yes qs i ns hn⟩
 ·exact⟨_,.no i⟩
theorem Ws(ts:List Tok)(i:Nat):∃ it,BV (.br 3 (andThen bH gW ts).1) i it:=by
 obtain⟨pub,hp⟩:=MN ts;show ∃ it,BV (.br 3 ((bH ts).1++(gW (bH ts).2).1)) i it;generalize (bH ts).1=pb at *;generalize (bH ts).2=dh at *;unfold gW;have h1:=Bd (s:=jf) (s':=jY) aS dh;show ∃ it,BV (.br 3 (pb++((want jf dh).1++((bE (want jf dh).2).1++((want [46] (bE (want jf dh).2).2).1++((bE (want [46] (bE (want jf dh).2).2).2).1++((if dJ [97,115] (bE (want [46] (bE (want jf dh).2).2).2).2 then andThen take bE (bE (want [46] (bE (want jf dh).2).2).2).2 else([],(bE (want [46] (bE (want jf dh).2).2).2).2)).1++(want [59] (if dJ [97,115] (bE (want [46] (bE (want jf dh).2).2).2).2 then andThen take bE (bE (want [46] (bE (want jf dh).2).2).2).2 else([],(bE (want [46] (bE (want jf dh).2).2).2).2)).2).1)))))) ) i it;generalize want jf dh=r1 at *;obtain⟨m,hm⟩:=qX r1.2 (i+pz pb+pz r1.1);generalize bE r1.2=r2 at *;have h2:=lM [46] r2.2;generalize want [46] r2.2=r3 at *;obtain⟨n,hn⟩:=qX r3.2 (i+pz pb+pz r1.1+pz r2.1+pz r3.1);generalize bE r3.2=r4 at *;obtain⟨gs,a,ha⟩:=aA1 r4.2 (i+pz pb+pz r1.1+pz r2.1+pz r3.1+pz r4.1);generalize (if dJ [97,115] r4.2 then andThen take bE r4.2 else([],r4.2))=r5 at *;have h3:=Bd (s:=[59]) (s':=Qz) aS r5.2;exact⟨_,.use _ _ _ _ _ _ _ i pub gs m n a hp h1 hm h2 hn ha h3⟩
theorem Wt(ts:List Tok)(i:Nat):∃ it,BV (.br 4 (andThen bH gU ts).1) i it:=by
 obtain⟨pub,hp⟩:=MN ts;show ∃ it,BV (.br 4 ((bH ts).1++(gU (bH ts).2).1)) i it;generalize (bH ts).1=pb at *;generalize (bH ts).2=dh at *;have hE:=Ib 65;unfold gU;generalize expr 65=E at *;have h1:=Bd (s:=lF) (s':=jY) aS dh;show ∃ it,BV (.br 4 (pb++((want lF dh).1++((bE (want lF dh).2).1++((if dJ [40] (bE (want lF dh).2).2 then params (bE (want lF dh).2).2 else([],(bE (want lF dh).2).2)).1++((want [61] (if dJ [40] (bE (want lF dh).2).2 then params (bE (want lF dh).2).2 else([],(bE (want lF dh).2).2)).2).1++((E (want [61] (if dJ [40] (bE (want lF dh).2).2 then params (bE (want lF dh).2).2 else([],(bE (want lF dh).2).2)).2).2).1++(want [59] (E (want [61] (if dJ [40] (bE (want lF dh).2).2 then params (bE (want lF dh).2).2 else([],(bE (want lF dh).2).2)).2).2).2).1)))))) ) i it;generalize want lF dh=r1 at *;obtain⟨n,hn⟩:=qX r1.2 (i+pz pb+pz r1.1);generalize bE r1.2=r2 at *;obtain⟨ps,hr⟩:=Wq r2.2 (i+pz pb+pz r1.1+pz r2.1);generalize (if dJ [40] r2.2 then params r2.2 else([],r2.2))=r3 at *;have h2:=lM [61] r3.2;generalize want [61] r3.2=r4 at *;obtain⟨p,hpe,hx⟩:=hE r4.2;rw[hpe];obtain⟨e,he⟩:=hx (i+pz pb+pz r1.1+pz r2.1+pz r3.1+pz r4.1);have h3:=lM [59] (E r4.2).2;exact⟨_,.dfn _ _ _ _ _ p _ i pub n ps e hp h1 hn hr h2 he h3⟩
theorem Wu{p:Part}(h:lv p=true):∃ k x,p=.leaf k x:=by
 cases p with
 | leaf k x=>exact⟨k,x,rfl⟩
 | miss m=>cases h
 | br k ps=>cases h
theorem He:∀(n:Nat) (ts:List Tok),ts.length≤n→(∀ t∈ts,t.1≠0)→∀ i,∃ its,uG (iy ts) i its
 | n,ts,hn,hk,i=>by
  cases h:(dm ts==0) with
  | true =>
   have hq:=KS h hk;refine⟨[],?_⟩;rw[Bg h];refine .leaves _ i fun q hq'=>?_
   obtain⟨t,ht,rfl⟩:=fU.1 hq';exact hq t ht
  | false =>
   have hl:=Bh h;have hs:=OL ts
   match n,hn with
   | 0,hn=>omega
   | n+1,hn =>
    have hk2:∀ t∈(kid ts).2.2,t.1≠0:=fun t ht=>hk t (by rw[hs];exact List.mem_append_right _ ht)
    obtain⟨its,hits⟩:=He n (kid ts).2.2 au hk2 (i+pz [.br (kid ts).1 (kid ts).2.1]);rw[xR h];have hj:=Wv h;revert hits hj;rw[kK]
    split
    ·split
     ·intro hits _
      obtain⟨it,hit⟩:=Ws ts i;exact⟨it::its,.item _ _ i it its hit hits⟩
     ·intro hits _
      obtain⟨it,hit⟩:=Wt ts i;exact⟨it::its,.item _ _ i it its hit hits⟩
    ·intro hits hj
     rw[UQ] at hj;exact⟨its,.junk _ _ i its (fun q hq=>Wu ((hj.1.2 rfl).1 q hq)) hits⟩
end X
namespace X
def Cx(p:Part):Prop:=∀ t∈pl p,t.2≠[]
def oG(ps:List Part):Prop:=∀ t∈sK ps,t.2≠[]
theorem oG.app{a b:List Part}(h:oG (a++b)):oG a∧oG b:=by
 unfold oG at *;rw[p9] at h;exact⟨fun t ht=>h t (List.mem_append_left _ ht),fun t ht=>h t (List.mem_append_right _ ht)⟩
theorem oG.one{p:Part}(h:oG [p]):Cx p:=fun t ht=>h t (by rw[sK,sK,aL];exact ht)
theorem oG.head{p:Part}{ps:List Part}(h:oG (p::ps)):Cx p∧oG ps:=by
 have:=oG.app (a:=[p]) (b:=ps) h;exact⟨this.1.one,this.2⟩
theorem Cx.kids{k:Nat}{ps:List Part}(h:Cx (.br k ps)):oG ps:=fun t ht=>h t (by rw[pl];exact ht)
theorem Cx.leaf{k:Nat}{x:ah}(h:Cx (.leaf k x)):x≠[]:=h (k,x) (by rw[pl];exact jP.2 rfl)
theorem CW(x:ah):oG (iy (xt x)):=fun t ht=>by
 have h:sK (iy (xt x))=xt x:=R6 (xt x);rw[h] at ht;obtain⟨-,-,h1⟩:=zw x t ht;intro e;rw[e] at h1;simp at h1
def Gd(ps:List Part):Prop:=oG ps∧ja ps
theorem Gd.tail{p:Part}{ps:List Part}(h:Gd (p::ps)):Gd ps:=⟨h.1.head.2,by have:=h.2;rw[ja] at this;exact this.2⟩
theorem Gd.app{a b:List Part}(h:Gd (a++b)):Gd b:=by
 induction a with
 | nil=>exact h
 | cons p a ih=>exact ih h.tail
theorem Gd.leaf{k:Nat}{x:ah}{ps:List Part}(h:Gd (.leaf k x::ps)):0<x.length:=by
 have:=h.1.head.1.leaf;cases x with
 | nil=>exact absurd rfl this
 | cons a x=>simp
theorem Gd.br{k:Nat}{qs ps:List Part}(h:Gd (.br k qs::ps)):k≠0∧Gd qs:=by
 have h2:=h.2;rw[ja,su] at h2;exact⟨h2.1.1,h.1.head.1.kids,h2.1.2⟩
end X
end
section
open Go.RowKit
open X
variable{w:aG}{D:Nat→Prop}{v:Value}{ps:List Part}{p:Part}
namespace X
def nk:Part→Nat
 | .leaf _ _=>0
 | .miss _=>1
 | .br k _=>k
def Dw:Part→Nat
 | .leaf k _=>k
 | _=>0
def BM:Part→ah
 | .leaf _ x=>x
 | .miss m=>m
 | .br _ _=>[]
def JH:Part→Nat
 | .leaf _ x=>x.length
 | _=>0
def kids:Part→List Part
 | .br _ ps=>ps
 | _=>[]
end X
structure qL(w:aG)(D:Nat→Prop)(v:Value)(ps:List Part):Prop where
 ex:∃(ao:Option Addr) (cap:Nat) (c0 c1 c2 c3:Nat→Value),v=.slice ao ps.length cap∧ps.length≤cap∧cap≤maxLen∧(∀ j,j<ps.length→∃ g o,ao=some ⟨g,o,none⟩∧D g∧w.cell? (aC g (o+j*4))=some (c0 j)∧w.cell? (aC g (o+j*4+1))=some (c1 j)∧w.cell? (aC g (o+j*4+2))=some (c2 j)∧w.cell? (aC g (o+j*4+3))=some (c3 j))∧(∀(j:Nat) (p:Part),ps[j]?=some p→zx w D (.agg #[c0 j,c1 j,c2 j,c3 j]) p)
theorem qL.keep{S:Nat→Prop}{w':aG}(hk:Kp S w w')(hD:∀ q,D q→¬ S q)(h:qL w D v ps):qL w' D v ps:=by
 obtain⟨ao,cap,c0,c1,c2,c3,e,h1,h2,hr,hp⟩:=h.ex;refine⟨ao,cap,c0,c1,c2,c3,e,h1,h2,fun j hj=>?_,fun j p hj=>(hp j p hj).kept hk (fun q hs hd=>hD q hd hs)⟩;obtain⟨g,o,x1,x2,y0,y1,y2,y3⟩:=hr j hj;have hn:=hD g x2;exact⟨g,o,x1,x2,hk.dD y0 hn,hk.dD y1 hn,hk.dD y2 hn,hk.dD y3 hn⟩
theorem zx.val(h:zx w D v p):∃ kv,v=.agg #[ak (nk p),ak (Dw p),.string (ba (BM p)),kv]∧qL w D kv (X.kids p):=by
 cases h with
 | leaf k x=>exact⟨_,rfl,none,0,fun _=>undef,fun _=>undef,fun _=>undef,fun _=>undef,rfl,ax _,by unfold maxLen;omega,fun j hj=>absurd hj (jE _),fun j p hp=>by simp[X.kids] at hp⟩
 | miss m=>exact⟨_,rfl,none,0,fun _=>undef,fun _=>undef,fun _=>undef,fun _=>undef,rfl,ax _,by unfold maxLen;omega,fun j hj=>absurd hj (jE _),fun j p hp=>by simp[X.kids] at hp⟩
 | br k cap ao c0 c1 c2 c3 ps hc hr hp =>
  refine⟨_,rfl,ao,cap,c0,c1,c2,c3,rfl,hc.1,hc.2,fun j hj=>?_,hp⟩;obtain⟨g,e1,e2,y0,y1,y2,y3⟩:=hr j hj;exact⟨g,0,e1,e2,by rw[bS];exact y0,by rw[bS];exact y1,by rw[bS];exact y2,by rw[bS];exact y3⟩
theorem qL.head(h:qL w D v (p::ps)) :
  ∃ g o cap kv,v=.slice (some ⟨g,o,none⟩) (ps.length+1) cap∧D g∧w.cell? (aC g o)=some (ak (nk p))∧w.cell? (aC g (o+1))=some (ak (Dw p))∧w.cell? (aC g (o+2))=some (.string (ba (BM p)))∧w.cell? (aC g (o+3))=some kv∧qL w D kv (X.kids p)∧zx w D (.agg #[ak (nk p),ak (Dw p),.string (ba (BM p)),kv]) p∧ps.length+1≤cap∧cap≤maxLen ∧
   (cap≠1→qL w D (.slice (some ⟨g,o+4,none⟩) ps.length (cap - 1)) ps)∧(cap=1→qL w D (.slice (some ⟨g,o,none⟩) 0 0) ps∧ps=[]):=by
 obtain⟨ao,cap,c0,c1,c2,c3,rfl,h1,h2,hr,hp⟩:=h.ex;obtain⟨g,o,rfl,hD,y0,y1,y2,y3⟩:=hr 0 (by rw[aY];omega);have hn:=hp 0 p rfl;obtain⟨kv,hv,hk⟩:=hn.val;have hv':=hv;simp only[Value.agg.injEq] at hv;have e0:c0 0=ak (nk p):=bQ (congrArg (fun a:Array Value=>a[0]?) hv);have e1:c1 0=ak (Dw p):=bQ (congrArg (fun a:Array Value=>a[1]?) hv);have e2:c2 0=.string (ba (BM p)):=bQ (congrArg (fun a:Array Value=>a[2]?) hv);have e3:c3 0=kv:=bQ (congrArg (fun a:Array Value=>a[3]?) hv);rw[hv'] at hn;simp only[Nat.zero_mul,Nat.add_zero,e0,e1,e2,e3] at y0 y1 y2 y3;rw[aY] at h1;refine⟨g,o,cap,kv,by rw[aY],hD,y0,y1,y2,y3,hk,hn,h1,h2,fun _=>?_,fun e=>?_⟩
 ·refine⟨_,_,fun j=>c0 (j+1),fun j=>c1 (j+1),fun j=>c2 (j+1),fun j=>c3 (j+1),rfl,au,au,fun j hj=>?_,fun j q hq=>hp (j+1) q (by rw[List.getElem?_cons_succ];exact hq)⟩
  obtain⟨g',o',e,-,z0,z1,z2,z3⟩:=hr (j+1) (by rw[aY];omega);cases e
  have a0:o+4+j*4=o+(j+1)*4:=au
  exact⟨g,o+4,rfl,hD,by rw[a0];exact z0,by rw[a0];exact z1,by rw[a0];exact z2,by rw[a0];exact z3⟩
 ·have hps:ps=[]:=bP.1 au
  subst hps;exact⟨⟨_,0,fun _=>undef,fun _=>undef,fun _=>undef,fun _=>undef,rfl,ax _,au,fun j hj=>absurd hj (jE _),fun j q hq=>by simp at hq⟩,rfl⟩
end
section
open Tryz
open Go.RowKit
open X
theorem tJ(a1 a2:Nat)(x:ByteArray)(a4:Option Addr)(a5 a6:Nat)(w:aG) :
  bB 73 #[.agg #[ak a1,ak a2,.string x,.slice a4 a5 a6]] w (cK (.bool (a1==0&&(a2==1||a2==2))) fun w'=>Below w.heap.size w w'):=by
 have kA:Below w.heap.size w (w.alloc (.cells #[ak a1,ak a2,.string x,.slice a4 a5 a6] 116)):=(aB _ w).alloc (ax _) _;have lV:=aA kA;clear kA;by_cases h0:a1=0
 ·subst h0
  by_cases h1:a2=1
  ·subst h1
   go_enter func73,ntmps73;go_wp2_with fail
   go_ret;exact⟨rfl,lV.o⟩
  ·have j1:((a2:Int)==1)=false:=by simp;omega
   have k1:(a2==1)=false:=aQ
   by_cases h2:a2=2
   ·subst h2
    go_enter func73,ntmps73;go_wp2_with fail
    go_ret;exact⟨rfl,lV.o⟩
   ·have j2:((a2:Int)==2)=false:=by simp;omega
    have k2:(a2==2)=false:=aQ
    rw[k1,k2];go_enter func73,ntmps73;go_wp2_with fail
    go_ret;exact⟨rfl,lV.o⟩
 ·have j0:((a1:Int)==0)=false:=by simp;omega
  have k0:(a1==0)=false:=aQ
  rw[k0];go_enter func73,ntmps73;go_wp2_with fail
  go_ret;exact⟨rfl,lV.o⟩
theorem Yd(p:Part):(nk p==0&&(Dw p==1||Dw p==2))=lq p:=by
 cases p with
 | leaf k x=>rfl
 | miss m=>rfl
 | br k ps=>show((k==0)&&false)=false;rw[Bool.and_false]
end
section
variable{lo hi f i:Nat}
namespace X
structure U where
 f:Nat
 i:Nat
 s:Nat
 tf:Int
 tt:Int
 e:Nat
deriving DecidableEq
abbrev An:=Int × Int × Nat
def f_(f:Nat)(n:Nm)(s:Nat)(a:An):List U:=if n.1=[] then [] else [⟨f,n.2,s,a.1,a.2.1,a.2.2⟩]
def jd(f:Nat)(n:Nm)(s e:Nat):List U:=f_ f n s (f,n.2,e)
def iL(f:Nat):List Nm→List Nm→List U
 | _,[]=>[]
 | seen,n::ns=>jd f n 1 (if seen.any (fun m=>m.1==n.1) then 5 else 0)++iL f (seen++[n]) ns
def first(l:List Nm)(x:ah):Option Nat:=(l.find? (fun m=>m.1==x)).map (·.2)
def sight:List (List Nm)→ah→Option Nat
 | [],_=>none
 | b::bs,x=>match first b x with|some i=>some i|none=>sight bs x
mutual
def exU(f:Nat)(top:ah→An):List (List Nm)→Ex→List U
 | _,.lit _ _=>[]
 | _,.hole _=>[]
 | _,.missing=>[]
 | sc,.var n=>f_ f n 6 (match sight sc n.1 with|some i=>(f,i,0)|none=>top n.1)
 | sc,.kH n v b=>jd f n 2 0++(exU f top sc v++exU f top ([n]::sc) b)
 | sc,.ite a b c=>exU f top sc a++(exU f top sc b++exU f top sc c)
 | sc,.fn ns b=>iL f [] ns++exU f top (ns::sc) b
 | sc,.bin l _ r=>exU f top sc l++exU f top sc r
 | sc,.call g l=>exU f top sc g++iM f top sc l
 | sc,.list l=>iM f top sc l
 | sc,.group e=>exU f top sc e
def iM(f:Nat)(top:ah→An):List (List Nm)→List Ex→List U
 | _,[]=>[]
 | sc,e::l=>exU f top sc e++iM f top sc l
end
def called:It→Nm
 | .use _ _ n gs a=>if gs then a else n
 | .dfn _ n _ _=>n
def shown:It→Bool
 | .use p _ _ _ _=>p
 | .dfn p _ _ _=>p
def iV(l:List It)(x:ah):Option Nat:=if x=[] then none else l.findIdx? (fun it=>(called it).1==x)
abbrev Fl:=ah × List It
def m_(fs:List Fl)(x:ah):Option Nat:=if x=[] then none else fs.findIdx? (fun f=>f.1==x)
def bI(fs:List Fl)(f:Nat):List It:=(fs.getD f ([],[])).2
def iC(fs:List Fl):Nat→Nat→Nat→An
 | left,f,k=>match (bI fs f)[k]? with
  | none=>(-1,-1,4)
  | some (.dfn _ n _ _)=>(f,n.2,0)
  | some (.use _ m n _ _)=>match m_ fs m.1 with
   | none=>(-1,-1,4)
   | some f'=>match iV (bI fs f') n.1 with
    | none=>(-1,-1,4)
    | some k'=>match (bI fs f')[k']? with
     | none=>(-1,-1,4)
     | some it=>if shown it=false∧f'≠f then(-1,-1,6) else
      match left with
      | 0=>match it with
       | .dfn _ d _ _=>(f',d.2,0)
       | .use _ _ _ _ _=>(-1,-1,7)
      | left+1=>iC fs left f' k'
def h_(fs:List Fl):Nat:=(fs.map fun f=>(f.2.filter fun it=>match it with|.use _ _ _ _ _=>true|_=>false).length).sum
def fH(fs:List Fl)(f:Nat)(x:ah):An:=match iV (bI fs f) x with
 | none=>(-1,-1,4)
 | some k=>((iC fs (h_ fs) f k).1,(iC fs (h_ fs) f k).2.1,0)
def gJ(l:List It)(k:Nat)(x:ah):Nat:=if x=[]∨iV l x=some k then 0 else 5
def BJ(fs:List Fl)(f k:Nat):It→List U
 | .use _ m n gs a =>
  let an:=iC fs (h_ fs) f k
  let tw:=gJ (bI fs f) k (if gs then a else n).1
  f_ f m 3 (match m_ fs m.1 with|some f'=>(f',-1,0)|none=>(-1,-1,4)) ++
  (f_ f n 4 (an.1,an.2.1,if an.2.2=0∧gs=false then tw else an.2.2)++f_ f a 5 (an.1,an.2.1,tw))
 | .dfn _ n ps b=>jd f n 0 (gJ (bI fs f) k n.1)++(iL f [] (ps.getD [])++exU f (fH fs f) (match ps with|some ns=>[ns]|none=>[]) b)
def jZ(fs:List Fl)(f:Nat):Nat→List It→List U
 | _,[]=>[]
 | k,it::l=>BJ fs f k it++jZ fs f (k+1) l
def nD(fs:List Fl):List U:=(List.range fs.length).flatMap fun f=>jZ fs f 0 (bI fs f)
/-! The places at which names stand. -/
def gG(lo hi:Nat)(l:List U):Prop:=l.Pairwise (fun a b=>a.i<b.i)∧∀ u∈l,lo≤u.i∧u.i<hi
theorem gG.nil{lo hi:Nat}:gG lo hi []:=⟨List.Pairwise.nil,fun _ h=>by cases h⟩
theorem gG.app{mi:Nat}{a b:List U}(h1:gG lo mi a)(h2:gG mi hi b)(hl:lo≤mi)(hh:mi≤hi):gG lo hi (a++b):=by
 refine⟨List.pairwise_append.2 ⟨h1.1,h2.1,fun x hx y hy=>?_⟩,fun u hu=>?_⟩
 ·have:=h1.2 x hx
  have:=h2.2 y hy;omega
 ·rcases uM.1 hu with g|g
  ·have:=h1.2 u g;omega
  ·have:=h2.2 u g;omega
theorem gG.wide{lo' hi':Nat}{a:List U}(h:gG lo hi a)(h1:lo'≤lo)(h2:hi≤hi'):gG lo' hi' a:=⟨h.1,fun u hu=>by have:=h.2 u hu;omega⟩
theorem mZ{n:Nm}{s:Nat}{a:An}(h:n.1≠[]→lo≤n.2∧n.2<hi):gG lo hi (f_ f n s a):=by
 unfold f_
 split
 ·exact .nil
 ·next h0=>exact⟨List.pairwise_singleton _ _,fun u hu=>by obtain rfl:=jP.1 hu;exact h h0⟩
theorem AX{ps:List Part}{nm:Nm}(h:zG ps i nm):nm.1≠[]→i≤nm.2∧nm.2<i+pz ps:=by
 cases h with
 | name _ x qs _ h =>
  intro hx;have e:pz ps=pz qs+x.length:=by
   rw[h.eq,bZ];unfold pz;rw[mM,pb,mM,aL]
  have:x.length≠0:=fun e0=>hx (bP.1 e0)
  show i≤i+pz qs∧i+pz qs<i+pz ps;omega
 | miss _=>intro hx;exact absurd rfl hx
theorem Hr{ps:List Part}{ns:List Nm}(h:nU ps i ns):∀ seen,gG i (i+pz ps) (iL f seen ns):=by
 induction h with
 | nil i=>intro _;exact .nil
 | name x ps i ns h ih =>
  intro seen;rw[iL,gF,ji];refine gG.app (mi:=i+x.length) (mZ fun hx=>?_) ((ih _).wide (ax _) au) au au;have:x.length≠0:=fun e0=>hx (bP.1 e0)
  exact⟨ax _,by show i<_;omega⟩
 | leaf k x ps i ns hk h ih =>
  intro seen;rw[gF,ji];exact(ih seen).wide au au
 | lack ps i ns h ih =>
  intro seen;rw[iL,gF];have:pz [.miss gy]=0:=rfl;refine gG.app (mi:=i) (mZ fun hx=>absurd rfl hx) ((ih _).wide (ax _) au) (ax _) au
 | miss m ps i ns hm h ih =>
  intro seen;rw[gF];have:pz [.miss m]=0:=rfl;exact(ih seen).wide au au
theorem gM(p:Part):eT [p]=jh p:=by rw[eT,eT,Nat.add_zero]
theorem KO{ps:List Part}{k:Nat}{x:ah}{qs:List Part}(h:vH ps k x qs):pz ps=pz qs+x.length:=by
 rw[h.eq,bZ,ji]
theorem V_(f:Nat)(top:ah→An):∀ n:Nat,(∀(p:Part) (i:Nat) (e:Ex),jh p≤n→Rd p i e→∀ sc,gG i (i+pz [p]) (exU f top sc e))∧(∀(ps:List Part) (i:Nat) (es:List Ex),eT ps≤n→nA ps i es→∀ sc,gG i (i+pz ps) (iM f top sc es)):=by
 intro n
 induction n with
 | zero =>
  refine⟨fun p i e h=>?_,fun ps i es h hr sc=>?_⟩
  ·have:=jA p;omega
  ·cases ps with
   | nil=>cases hr;rw[iM];exact .nil
   | cons p ps=>rw[eT] at h;have:=jA p;omega
 | succ n ih =>
  have hE:∀(p:Part) (i:Nat) (e:Ex),jh p≤n+1→Rd p i e→∀ sc,gG i (i+pz [p]) (exU f top sc e):=by
   intro p i e hn hr sc;cases hr with
   | missing _=>rw[exU];exact .nil
   | lit k t x ps qs _ hk h=>rw[exU];exact .nil
   | hole t x ps qs _ h=>rw[exU];exact .nil
   | var x ps qs _ h =>
    rw[exU,iw,KO h];refine mZ fun hx=>?_
    have:x.length≠0:=fun e0=>hx (bP.1 e0)
    show i≤i+pz qs∧i+pz qs<_;omega
   | kH t1 n1 t2 t3 p1 p2 _ nm e1 e2 h1 hn1 h2 hv h3 hb =>
    rw[jh,bR,bR,bR,bR,bR,gM,gM] at hn;rw[exU,iw,bZ,bZ,bZ,bZ,bZ];have b1:=ih.1 p1 _ e1 au hv sc;have b2:=ih.1 p2 _ e2 au hb ([nm]::sc);refine gG.app (mi:=i+pz t1+pz n1) ((mZ (AX hn1)).wide au au) ?_ au au;refine gG.app (mi:=i+pz t1+pz n1+pz t2+pz [p1]) (b1.wide au au) (b2.wide au au) au au
   | ite ps _ a b c h =>
    rw[jh] at hn;rw[exU,iw];have:=ih.2 ps i [a,b,c] au h sc;rw[iM,iM,iM,iM,aL] at this;exact this
   | fn t1 qs t2 p _ ns e h1 hns h2 hb =>
    rw[jh,bR,bR,bR,gM,gM] at hn;rw[exU,iw,bZ,bZ,bZ,iw];have b1:=Hr (f:=f) hns [];have b2:=ih.1 p _ e au hb (ns::sc);exact gG.app (mi:=i+pz t1+pz qs) (b1.wide au au) (b2.wide au au) au au
   | bin p1 p2 t qs k x _ e1 e2 hl h hr2 =>
    rw[jh,bR,bR,gM,gM] at hn;rw[exU,iw,bZ,bZ];have b1:=ih.1 p1 _ e1 au hl sc;have b2:=ih.1 p2 _ e2 au hr2 sc;exact gG.app (mi:=i+pz [p1]) b1 (b2.wide au au) au au
   | call p gs _ e es hc ha =>
    rw[jh,bR,gM,gM,jh] at hn;rw[exU,iw,bZ,iw];have b1:=ih.1 p _ e au hc sc;have b2:=ih.2 gs _ es au ha sc;exact gG.app (mi:=i+pz [p]) b1 (b2.wide au au) au au
   | list ps _ es h =>
    rw[jh] at hn;rw[exU,iw];exact ih.2 ps i es au h sc
   | group ps _ e h =>
    rw[jh] at hn;rw[exU,iw];have:=ih.2 ps i [e] au h sc;rw[iM,iM,aL] at this;exact this
  refine⟨hE,fun ps i es hn hr sc=>?_⟩
  induction ps generalizing i es with
  | nil=>cases hr;rw[iM];exact .nil
  | cons q ps Z8 =>
   rw[eT] at hn;have hq:=jA q;cases hr with
   | leaf k x _ _ _ h =>
    rw[gF,ji];exact(Z8 (i+x.length) es au h).wide au au
   | miss m _ _ _ hm h =>
    rw[gF];have:pz [.miss m]=0:=rfl;exact(Z8 i es au h).wide au au
   | cons _ _ _ e es hp h =>
    rw[iM,gF];exact gG.app (mi:=i+pz [q]) (hE q i e au hp sc) ((Z8 (i+pz [q]) es au h).wide (ax _) au) au au
end X
namespace X
theorem xI{l:List It}{x:ah}{k:Nat}(h:iV l x=some k):∃ it,l[k]?=some it∧(called it).1=x∧x≠[]:=by
 unfold iV at h
 split at h
 ·cases h
 ·next hx =>
  obtain⟨hk,hp,-⟩:=List.findIdx?_eq_some_iff_getElem.1 h;exact⟨l[k],aF hk,by simpa using hp,hx⟩
theorem Aq{fs:List Fl}{f k:Nat}{it:It}(h:(bI fs f)[k]?=some it):f<fs.length:=by
 rcases cu f fs.length with g|g
 ·exact g
 ·unfold bI at h
  rw[bG,bf g] at h;simp at h
end X
end
section
variable{i f:Nat}
namespace X
theorem Z9{ps:List Part}{b:Bool}{a:Nm}(h:Z_ ps i b a):a.1≠[]→i≤a.2∧a.2<i+pz ps:=by
 cases h with
 | yes t n k qs _ nm h hn =>
  intro hx;have:=AX hn hx;rw[bZ];omega
 | no _=>intro hx;exact absurd rfl hx
theorem Wh{fs:List Fl}{k:Nat}{p:Part}{it:It}(h:BV p i it):gG i (i+pz [p]) (BJ fs f k it):=by
 cases h with
 | use pb t1 n1 t2 n2 ap t3 _ pub gs m n a hp h1 hm h2 hn ha h3 =>
  simp only[BJ];rw[iw,bZ,bZ,bZ,bZ,bZ,bZ];refine gG.app (mi:=i+pz pb+pz t1+pz n1) ((mZ (AX hm)).wide au au) ?_ au au;refine gG.app (mi:=i+pz pb+pz t1+pz n1+pz t2+pz n2) ((mZ (AX hn)).wide au au) ((mZ (Z9 ha)).wide au au) au au
 | dfn pb t1 n1 pr t2 p t3 _ pub n ps e hp h1 hn hr h2 he h3 =>
  simp only[BJ];rw[iw,bZ,bZ,bZ,bZ,bZ,bZ];have be:=(V_ f (fH fs f) (jh p)).1 p _ e (ax _) he;have bp:gG (i+pz pb+pz t1+pz n1) (i+pz pb+pz t1+pz n1+pz pr) (iL f [] (ps.getD [])):=by
   cases hr with
   | yes qs _ ns h =>
    rw[iw];exact Hr h []
   | no _=>exact .nil
  refine gG.app (mi:=i+pz pb+pz t1+pz n1) ((mZ (AX hn)).wide au au) ?_ au au;exact gG.app (mi:=i+pz pb+pz t1+pz n1+pz pr) bp ((be _).wide au au) au au
theorem R3{fs:List Fl}{ps:List Part}{its:List It}(h:uG ps i its):∀ k,gG i (i+pz ps) (jZ fs f k its):=by
 induction h with
 | leaves ps i h=>intro k;rw[jZ];exact .nil
 | junk qs ps i its hq h ih =>
  intro k;rw[gF];exact(ih k).wide au au
 | item p ps i it its hp h ih =>
  intro k;rw[jZ,gF];exact gG.app (mi:=i+pz [p]) (Wh hp) ((ih (k+1)).wide (ax _) au) au au
end X
end
section
variable{f k j m:Nat}
namespace X
def wY(fs:List Fl)(f k:Nat):Sum An (Nat × Nat) :=
 match (bI fs f)[k]? with
 | none=>.inl (-1,-1,4)
 | some (.dfn _ n _ _)=>.inl (f,n.2,0)
 | some (.use _ m n _ _)=>match m_ fs m.1 with
  | none=>.inl (-1,-1,4)
  | some f'=>match iV (bI fs f') n.1 with
   | none=>.inl (-1,-1,4)
   | some k'=>match (bI fs f')[k']? with
    | none=>.inl (-1,-1,4)
    | some it=>if shown it=false∧f'≠f then .inl (-1,-1,6) else
     match it with
     | .dfn _ d _ _=>.inl (f',d.2,0)
     | .use _ _ _ _ _=>.inr (f',k')
theorem AY(fs:List Fl)(left f k:Nat):iC fs left f k=match wY fs f k with
  | .inl a=>a
  | .inr p=>match left with
   | 0=>(-1,-1,7)
   | l+1=>iC fs l p.1 p.2:=by
 unfold wY;rw[iC.eq_def];dsimp only;cases hk:(bI fs f)[k]? with
 | none=>simp only
 | some it =>
  cases it with
  | dfn p n ps b=>simp only
  | use p m n gs a =>
   simp only;cases hm:m_ fs m.1 with
   | none=>simp only
   | some f' =>
    simp only;cases ht:iV (bI fs f') n.1 with
    | none=>simp only
    | some k' =>
     simp only;cases hi:(bI fs f')[k']? with
     | none=>simp only
     | some it =>
      simp only;by_cases hs:shown it=false∧f'≠f
      ·rw[aU hs,aU hs]
      ·rw[aM hs,aM hs]
       cases left with
       | zero=>cases it<;>simp only
       | succ left =>
        cases it with
        | dfn p d ps b =>
         simp only;rw[iC.eq_def];dsimp only;rw[hi]
        | use _ _ _ _ _=>simp only
theorem AZ{fs:List Fl}{a:An}(h:wY fs f k=.inl a)(n:Nat):iC fs n f k=a:=by rw[AY,h]
theorem OH{fs:List Fl}{p:Nat × Nat}(h:wY fs f k=.inr p):iC fs 0 f k=(-1,-1,7):=by rw[AY,h]
theorem Dm{fs:List Fl}{p:Nat × Nat}(h:wY fs f k=.inr p)(n:Nat):iC fs (n+1) f k=iC fs n p.1 p.2:=by rw[AY,h]
def on(fs:List Fl):Nat→Nat × Nat→Option (Nat × Nat)
 | 0,p=>some p
 | n+1,p=>match wY fs p.1 p.2 with|.inl _=>none|.inr q=>on fs n q
theorem A7(fs:List Fl):∀(i j:Nat) (p q:Nat × Nat),on fs i p=some q→on fs (i+j) p=on fs j q
 | 0,j,p,q,h=>by
  cases h
  rw[bS]
 | i+1,j,p,q,h=>by
  rw[show i+1+j=(i+j)+1 by omega];rw[on] at h ⊢;cases hs:wY fs p.1 p.2 with
  | inl a=>rw[hs] at h;cases h
  | inr r =>
   rw[hs] at h;exact A7 fs i j r q h
theorem Mw{fs:List Fl}{i:Nat}{p q r:Nat × Nat}(h:on fs i p=some q)(hs:wY fs q.1 q.2=.inr r):on fs (i+1) p=some r:=by
 rw[A7 fs i 1 p q h,on,hs];rfl
theorem xP{fs:List Fl}:∀(m:Nat) (p q:Nat × Nat),on fs m p=some q→∀ n,iC fs n p.1 p.2=if n<m then(-1,-1,7) else iC fs (n - m) q.1 q.2
 | 0,p,q,h,n=>by
  cases h
  rw[aM au];rfl
 | m+1,p,q,h,n=>by
  rw[on] at h;cases hs:wY fs p.1 p.2 with
  | inl a=>rw[hs] at h;cases h
  | inr r =>
   rw[hs] at h;cases n with
   | zero=>rw[aU au,OH hs]
   | succ n =>
    rw[Dm hs,xP m r q h n];by_cases hn:n<m
    ·rw[aU hn,aU au]
    ·rw[aM hn,aM au,show n+1 - (m+1)=n - m by omega]
def EvA(fs:List Fl)(f k:Nat)(a:An):Prop:=∃ n0,∀ n,n0≤n→iC fs n f k=a
theorem EvA.fin{fs:List Fl}{a:An}(h:wY fs f k=.inl a):EvA fs f k a:=⟨0,fun n _=>AZ h n⟩
theorem EvA.step{fs:List Fl}{p:Nat × Nat}{a:An}(h:wY fs f k=.inr p)(he:EvA fs p.1 p.2 a):EvA fs f k a:=by
 obtain⟨n0,h0⟩:=he;refine⟨n0+1,fun n hn=>?_⟩;obtain⟨m,rfl⟩:∃ m,n=m+1:=⟨n - 1,au⟩;rw[Dm h];exact h0 m au
theorem R_{fs:List Fl}{p:Nat × Nat}(h:on fs (j+1) p=some p):∀ n,iC fs n p.1 p.2=(-1,-1,7):=by
 intro n
 induction n using Nat.strongRecOn with
 | _ n ih =>
  rw[xP (j+1) p p h n]
  split
  ·rfl
  ·exact ih _ au
theorem EvA.ring{fs:List Fl}(h:on fs (j+1) (f,k)=some (f,k)):EvA fs f k (-1,-1,7):=⟨0,fun n _=>R_ h n⟩
theorem EvA.one{fs:List Fl}{a b:An}(h1:EvA fs f k a)(h2:EvA fs f k b):a=b:=by
 obtain⟨n1,g1⟩:=h1;obtain⟨n2,g2⟩:=h2;rw[← g1 (n1+n2) au,← g2 (n1+n2) au]
/-! How many uses there are. -/
theorem Ht{α:Type}[DecidableEq α]:∀(l m:List α),l.Pairwise (·≠·)→(∀ x∈l,x∈m)→l.length≤m.length
 | [],m,_,_=>bJ _
 | a::l,m,hn,hs=>by
  rw[PO] at hn;have ha:=hs a aT;have:=Ht l (m.erase a) hn.2 (fun x hx=>(List.mem_erase_of_ne (fun e=>hn.1 x hx e.symm)).2 (hs x (by simp[hx])));rw[List.length_erase_of_mem ha] at this;have hp:=List.length_pos_of_mem ha;rw[aY];omega
theorem Dn{α:Type}(p:α→Bool):∀ l:List α,((List.range l.length).filter (fun k=>(l[k]?).any p)).length=(l.filter p).length
 | []=>rfl
 | a::l=>by
  rw[aY,List.range_succ_eq_map,o8,List.filter_map,o8];have ih:=Dn p l;have e:(fun k=>((a::l)[k]?).any p) ∘ Nat.succ=fun k=>(l[k]?).any p:=by
   funext k;simp
  rw[e];cases hp:p a<;>simp[hp,ih]
theorem Dp{α:Type}(h:α→Nat)(d:α):∀ l:List α,((List.range l.length).map (fun i=>h (l.getD i d))).sum=(l.map h).sum
 | []=>rfl
 | a::l=>by
  rw[aY,List.range_succ_eq_map,iO,List.map_map,List.sum_cons,iO,List.sum_cons,← Dp h d l];rfl
def nV:It→Bool
 | .use _ _ _ _ _=>true
 | _=>false
def Ry(fs:List Fl):List (Nat × Nat):=(List.range fs.length).flatMap fun f=>((List.range (bI fs f).length).filter (fun k=>((bI fs f)[k]?).any nV)).map fun k=>(f,k)
theorem Sc(fs:List Fl):(Ry fs).length=h_ fs:=by
 unfold Ry h_;rw[List.length_flatMap];have e:(fun f=>(((List.range (bI fs f).length).filter (fun k=>((bI fs f)[k]?).any nV)).map fun k=>(f,k)).length)=fun f=>(fun(x:Fl)=>(x.2.filter nV).length) (fs.getD f ([],[])):=by
  funext f;rw[cB,Dn];rfl
 rw[e,Dp (fun(x:Fl)=>(x.2.filter nV).length) ([],[]) fs];congr 1
theorem AB{fs:List Fl}{it:It}(h:(bI fs f)[k]?=some it)(hu:nV it=true):(f,k)∈Ry fs:=by
 refine List.mem_flatMap.2 ⟨f,jq.2 (Aq h),fU.2 ⟨k,List.mem_filter.2 ⟨jq.2 ?_,?_⟩,rfl⟩⟩
 ·rcases cu k (bI fs f).length with g|g
  ·exact g
  ·rw[bf g] at h;cases h
 ·rw[h];exact hu
theorem Wi{fs:List Fl}{p:Nat × Nat}(h:wY fs f k=.inr p):∃ it,(bI fs f)[k]?=some it∧nV it=true:=by
 unfold wY at h;cases hk:(bI fs f)[k]? with
 | none=>rw[hk] at h;cases h
 | some it =>
  rw[hk] at h;cases it with
  | dfn p n ps b=>cases h
  | use p m n gs a=>exact⟨_,rfl,rfl⟩
theorem Sd{fs:List Fl}{p q:Nat × Nat}(h:on fs m p=some q)(i:Nat)(hi:i≤m):∃ r,on fs i p=some r∧on fs (m - i) r=some q:=by
 cases hr:on fs i p with
 | none =>
  exfalso;have key:∀(i:Nat) (p:Nat × Nat) (j:Nat),on fs i p=none→on fs (i+j) p=none:=by
   intro i
   induction i with
   | zero=>intro p j h;cases h
   | succ i ih =>
    intro p j h;rw[show i+1+j=(i+j)+1 by omega];rw[on] at h ⊢;cases hs:wY fs p.1 p.2 with
    | inl a=>rfl
    | inr r=>rw[hs] at h;exact ih r j h
  have:=key i p (m - i) hr;rw[show i+(m - i)=m by omega,h] at this;cases this
 | some r =>
  refine⟨r,rfl,?_⟩;rw[← A7 fs i (m - i) p r hr,show i+(m - i)=m by omega];exact h
theorem Si{fs:List Fl}{p q:Nat × Nat}{a:An}(h:on fs m p=some q)(hq:wY fs q.1 q.2=.inl a):m≤h_ fs:=by
 rw[← Sc];have hl:((List.range m).map fun i=>(on fs i p).getD (0,0)).length=m:=aT
 rw[← hl];refine Ht _ _ ?_ (fun x hx=>?_)
 ·refine List.pairwise_map.2 ?_
  refine(List.pairwise_lt_range (n:=m)).imp_of_mem ?_;intro i j hi hj hij he;have hi':=jq.1 hi;have hj':=jq.1 hj;obtain⟨r,hr,hr2⟩:=Sd h i au;obtain⟨s,hs,hs2⟩:=Sd h j au;rw[hr,hs] at he;have he':r=s:=he;subst he';have e1:on fs ((m - j)+(j - i)) r=some q:=by rw[show m - j+(j - i)=m - i by omega];exact hr2
  rw[A7 fs (m - j) (j - i) r q hs2] at e1;obtain⟨t,ht⟩:∃ t,j - i=t+1:=⟨j - i - 1,au⟩;rw[ht,on,hq] at e1;cases e1
 ·obtain⟨i,hi,rfl⟩:=fU.1 hx
  have hi':=jq.1 hi;obtain⟨r,hr,hr2⟩:=Sd h i au;rw[hr];show r∈_;obtain⟨t,ht⟩:∃ t,m - i=t+1:=⟨m - i - 1,au⟩;rw[ht,on] at hr2;cases hs:wY fs r.1 r.2 with
  | inl a=>rw[hs] at hr2;cases hr2
  | inr r' =>
   obtain⟨it,h1,h2⟩:=Wi hs;exact AB h1 h2
theorem Wj(fs:List Fl)(p:Nat × Nat):(∃ m q a,on fs m p=some q∧wY fs q.1 q.2=.inl a)∨∀ m,∃ q,on fs m p=some q:=by
 rcases Classical.em (∀ m,∃ q,on fs m p=some q) with h|h
 ·exact .inr h
 ·left
  have ⟨m,hm⟩:=Classical.not_forall.1 h;have hm':on fs m p=none:=by
   cases he:on fs m p with
   | none=>rfl
   | some q=>exact absurd ⟨q,he⟩ hm
  clear hm h
  induction m with
  | zero=>cases hm'
  | succ m ih =>
   cases he:on fs m p with
   | none=>exact ih he
   | some q =>
    refine⟨m,q,?_⟩;rw[A7 fs m 1 p q he,on] at hm';cases hs:wY fs q.1 q.2 with
    | inl a=>exact⟨a,he,rfl⟩
    | inr r=>rw[hs] at hm';cases hm'
theorem EvA.uses{fs:List Fl}{a:An}(h:EvA fs f k a):iC fs (h_ fs) f k=a:=by
 obtain⟨n0,h0⟩:=h;rcases Wj fs (f,k) with ⟨m,q,b,h1,h2⟩|h
 ·have hm:=Si h1 h2
  have e1:=xP m (f,k) q h1 (h_ fs);rw[aM au,AZ h2] at e1;have e2:=xP m (f,k) q h1 (n0+h_ fs);rw[aM au,AZ h2] at e2;have e3:=h0 (n0+h_ fs) au;exact e1.trans (e2.symm.trans e3)
 ·obtain⟨q,h1⟩:=h (h_ fs+1)
  have e1:=xP _ (f,k) q h1 (h_ fs);rw[aU au] at e1;obtain⟨q2,h2⟩:=h (n0+1);have e2:=xP _ (f,k) q2 h2 n0;rw[aU au] at e2;exact e1.trans (e2.symm.trans (h0 n0 (ax _)))
end X
end
section
variable{i B:Nat}
namespace X
def EP(B:Nat)(n:Nm):Prop:=n.1.length≤B∧n.2≤B
mutual
def uz(B:Nat):Ex→Prop
 | .lit _ _=>True
 | .hole _=>True
 | .missing=>True
 | .var n=>EP B n
 | .kH n v b=>EP B n∧uz B v∧uz B b
 | .ite a b c=>uz B a∧uz B b∧uz B c
 | .fn ns b=>(∀ n∈ns,EP B n)∧uz B b
 | .bin l _ r=>uz B l∧uz B r
 | .call f gs=>uz B f∧gs.length≤B∧xO B gs
 | .list l=>l.length≤B∧xO B l
 | .group e=>uz B e
def xO(B:Nat):List Ex→Prop
 | []=>True
 | e::l=>uz B e∧xO B l
end
def PX(B:Nat):It→Prop
 | .use _ m n _ a=>EP B m∧EP B n∧EP B a
 | .dfn _ n ps b=>EP B n∧(∀ m∈ps.getD [],EP B m)∧uz B b
theorem Hu{ps:List Part}{nm:Nm}(h:zG ps i nm)(hB:i+pz ps≤B):EP B nm:=by
 cases h with
 | name _ x qs _ h =>
  have e:=KO h;exact⟨by show x.length≤B;omega,by show i+pz qs≤B;omega⟩
 | miss _=>exact⟨bJ _,bJ _⟩
theorem Yb{ps:List Part}{ns:List Nm}(h:nU ps i ns):∀ {B:Nat},i+pz ps≤B→∀ n∈ns,EP B n:=by
 induction h with
 | nil i=>intro B _ n hn;cases hn
 | name x ps i ns h ih =>
  intro B hB n hn;rw[gF,ji] at hB;rcases fJ.1 hn with rfl|g
  ·exact⟨by show x.length≤B;omega,by show i≤B;omega⟩
  ·exact ih au n g
 | leaf k x ps i ns hk h ih =>
  intro B hB n hn;rw[gF,ji] at hB;exact ih au n hn
 | lack ps i ns h ih =>
  intro B hB n hn;rw[gF] at hB;rcases fJ.1 hn with rfl|g
  ·exact⟨bJ _,bJ _⟩
  ·exact ih au n g
 | miss m ps i ns hm h ih =>
  intro B hB n hn;rw[gF] at hB;exact ih au n hn
theorem lX:∀ {ps:List Part} {i:Nat} {es:List Ex},nA ps i es→es.length≤eT ps
 | [],i,es,h=>by cases h;exact bJ _
 | q::ps,i,es,h=>by
  rw[eT];have hq:=jA q;cases h with
  | leaf k x _ _ _ h=>have:=lX h;omega
  | miss m _ _ _ hm h=>have:=lX h;omega
  | cons _ _ _ e es hp h=>have:=lX h;rw[aY];omega
theorem bN1(B:Nat):∀ n:Nat,n≤B→(∀(p:Part) (i:Nat) (e:Ex),jh p≤n→Rd p i e→i+pz [p]≤B→uz B e)∧(∀(ps:List Part) (i:Nat) (es:List Ex),eT ps≤n→nA ps i es→i+pz ps≤B→xO B es):=by
 intro n
 induction n with
 | zero =>
  intro _;refine⟨fun p i e h=>?_,fun ps i es h hr _=>?_⟩
  ·have:=jA p;omega
  ·cases ps with
   | nil=>cases hr;rw[xO];trivial
   | cons p ps=>rw[eT] at h;have:=jA p;omega
 | succ n ih0 =>
  intro FN;have ih:=ih0 au;have hE:∀(p:Part) (i:Nat) (e:Ex),jh p≤n+1→Rd p i e→i+pz [p]≤B→uz B e:=by
   intro p i e hn hr hB;cases hr with
   | missing _=>rw[uz];trivial
   | lit k t x ps qs _ hk h=>rw[uz];trivial
   | hole t x ps qs _ h=>rw[uz];trivial
   | var x ps qs _ h =>
    rw[uz];rw[iw,KO h] at hB;exact⟨by show x.length≤B;omega,by show i+pz qs≤B;omega⟩
   | kH t1 n1 t2 t3 p1 p2 _ nm e1 e2 h1 hn1 h2 hv h3 hb =>
    rw[jh,bR,bR,bR,bR,bR,gM,gM] at hn;rw[iw,bZ,bZ,bZ,bZ,bZ] at hB;rw[uz];exact⟨Hu hn1 au,ih.1 p1 _ e1 au hv au,ih.1 p2 _ e2 au hb au⟩
   | ite ps _ a b c h =>
    rw[jh] at hn;rw[iw] at hB;rw[uz];have:=ih.2 ps i [a,b,c] au h hB;rw[xO,xO,xO] at this;exact⟨this.1,this.2.1,this.2.2.1⟩
   | fn t1 qs t2 p _ ns e h1 hns h2 hb =>
    rw[jh,bR,bR,bR,gM,gM] at hn;rw[iw,bZ,bZ,bZ,iw] at hB;rw[uz];exact⟨Yb hns au,ih.1 p _ e au hb au⟩
   | bin p1 p2 t qs k x _ e1 e2 hl h hr2 =>
    rw[jh,bR,bR,gM,gM] at hn;rw[iw,bZ,bZ] at hB;rw[uz];exact⟨ih.1 p1 _ e1 au hl au,ih.1 p2 _ e2 au hr2 au⟩
   | call p gs _ e es hc ha =>
    rw[jh,bR,gM,gM,jh] at hn;rw[iw,bZ,iw] at hB;rw[uz];have:=lX ha;exact⟨ih.1 p _ e au hc au,au,ih.2 gs _ es au ha au⟩
   | list ps _ es h =>
    rw[jh] at hn;rw[iw] at hB;rw[uz];have:=lX h;exact⟨au,ih.2 ps i es au h hB⟩
   | group ps _ e h =>
    rw[jh] at hn;rw[iw] at hB;rw[uz];have:=ih.2 ps i [e] au h hB;rw[xO] at this;exact this.1
  refine⟨hE,fun ps i es hn hr hB=>?_⟩
  induction ps generalizing i es with
  | nil=>cases hr;rw[xO];trivial
  | cons q ps Z8 =>
   rw[eT] at hn;rw[gF] at hB;have hq:=jA q;cases hr with
   | leaf k x _ _ _ h =>
    rw[ji] at hB;exact Z8 (i+x.length) es au h au
   | miss m _ _ _ hm h =>
    exact Z8 i es au h au
   | cons _ _ _ e es hp h =>
    rw[xO];exact⟨hE q i e au hp au,Z8 (i+pz [q]) es au h au⟩
theorem aU4{p:Part}{it:It}(h:BV p i it)(hB:i+pz [p]≤B)(hz:jh p≤B):PX B it:=by
 cases h with
 | use pb t1 n1 t2 n2 ap t3 _ pub gs m n a hp h1 hm h2 hn ha h3 =>
  rw[iw,bZ,bZ,bZ,bZ,bZ,bZ] at hB;refine⟨Hu hm au,Hu hn au,?_⟩;cases ha with
  | yes t n k qs _ nm h hn' =>
   rw[bZ] at hB;exact Hu hn' au
  | no _=>exact⟨bJ _,bJ _⟩
 | dfn pb t1 n1 pr t2 p t3 _ pub n ps e hp h1 hn hr h2 he h3 =>
  rw[iw,bZ,bZ,bZ,bZ,bZ,bZ] at hB;rw[jh,bR,bR,bR,bR,bR,bR,gM] at hz;refine⟨Hu hn au,?_,(bN1 B (jh p) au).1 p _ e (ax _) he au⟩;cases hr with
  | yes qs _ ns h =>
   rw[iw] at hB;exact Yb h au
  | no _=>intro m hm;cases hm
theorem aU0{ps:List Part}{its:List It}(h:uG ps i its):i+pz ps≤B→eT ps≤B→∀ it∈its,PX B it:=by
 induction h with
 | leaves ps i h=>intro _ _ it hit;cases hit
 | junk qs ps i its hq h ih =>
  intro hB hz it hit;rw[gF] at hB;rw[eT] at hz;exact ih au au it hit
 | item p ps i it its hp h ih =>
  intro hB hz it' hit;rw[gF] at hB;rw[eT] at hz;rcases fJ.1 hit with rfl|g
  ·exact aU4 hp au au
  ·exact ih au au it' g
end X
end
end Go.Proofs.YtoohcklcppnafaaGreatDoor
