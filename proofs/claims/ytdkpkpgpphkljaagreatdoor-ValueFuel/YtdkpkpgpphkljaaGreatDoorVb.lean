/- Plain mathematics: what a tree says: items. -/
import Derived.Test.YtdkpkpgpphkljaaGreatDoorYd
namespace Go.Proofs.YtdkpkpgpphkljaaGreatDoor
set_option maxRecDepth 100000
set_option maxHeartbeats 1000000
open M
section
variable{s:ah}
namespace X
inductive It where
 | use (pub:Bool) (m n:Nm) (gs:Bool) (a:Nm)
 | dfn (pub:Bool) (n:Nm) (ps:Option (List Nm)) (b:Ex)
def Zd:ah:=[97,115]
inductive TR:List Part→Bool→Prop
 | yes (ps:List Part) (k:Nat) (qs:List Part) (h:y9 ps k jN qs):TR ps true
 | no:TR [] false
def Lg(s:ah)(ps:List Part):Prop:=(∃ k x qs,y9 ps k x qs∧x≠s)∨∃ m,ps=[.miss m]
theorem Lg.Lc{ps:List Part}(h:Lg s ps):wR ps:=by
 rcases h with ⟨k,x,qs,h1,-⟩|h
 ·exact .inl ⟨k,x,qs,h1⟩
 ·exact .inr h
inductive Y_:List Part→Nat→Bool→Nm→Prop
 | yes (t n:List Part) (k:Nat) (qs:List Part) (i:Nat) (nm:Nm) (h:y9 t k Zd qs) (hn:BD n (i+pz t) nm):Y_ (t++n) i true nm
 | no (i:Nat):Y_ [] i false ([],0)
inductive Prp:List Part→Nat→Option (List Nm)→Prop
 | yes (qs:List Part) (i:Nat) (ns:List Nm) (h:oN qs i ns):Prp [.br 6 qs] i (some ns)
 | no (i:Nat):Prp [] i none
inductive Jr:Part→Nat→It→Prop
 | use (pb t1 n1 t2 n2 ap t3:List Part) (i:Nat) (pub gs:Bool) (m n a:Nm) (hp:TR pb pub) (h1:Lg jN t1) (hm:BD n1 (i+pz pb+pz t1) m) (h2:wR t2) (hn:BD n2 (i+pz pb+pz t1+pz n1+pz t2) n) (ha:Y_ ap (i+pz pb+pz t1+pz n1+pz t2+pz n2) gs a) (h3:Lg Zd t3) :
   Jr (.br 3 (pb++(t1++(n1++(t2++(n2++(ap++t3))))))) i (.use pub m n gs a)
 | dfn (pb t1 n1 pr t2:List Part) (p:Part) (t3:List Part) (i:Nat) (pub:Bool) (n:Nm) (ps:Option (List Nm)) (e:Ex) (hp:TR pb pub) (h1:Lg jN t1) (hn:BD n1 (i+pz pb+pz t1) n) (hr:Prp pr (i+pz pb+pz t1+pz n1) ps) (h2:wR t2) (he:Rd p (i+pz pb+pz t1+pz n1+pz pr+pz t2) e) (h3:wR t3) :
   Jr (.br 4 (pb++(t1++(n1++(pr++(t2++([p]++t3))))))) i (.dfn pub n ps e)
inductive sI:List Part→Nat→List It→Prop
 | leaves (ps:List Part) (i:Nat) (h:∀ q∈ps,lq q=true):sI ps i []
 | junk (qs ps:List Part) (i:Nat) (its:List It) (hq:∀ q∈qs,∃ k x,q=.leaf k x) (h:sI ps (i+pz [.br 5 qs]) its):sI (.br 5 qs::ps) i its
 | item (p:Part) (ps:List Part) (i:Nat) (it:It) (its:List It) (hp:Jr p i it) (h:sI ps (i+pz [p]) its):sI (p::ps) i (it::its)
theorem xJ{ts:List Tok}(h:bX s ts=true):∃ k qs,y9 (take ts).1 k s qs:=by
 obtain⟨k,x,qs,h1,h2⟩:=iq (aZ h);have:x=s:=by
  unfold bX at h;rw[h2] at h;simp at h;exact h.2
 subst this;exact⟨k,qs,h1⟩
theorem Aq{s':ah}(hs:s≠s')(ts:List Tok):Lg s' (want s ts).1:=by
 unfold want
 split
 ·next h =>
  obtain⟨k,qs,h1⟩:=xJ h;exact .inl ⟨k,s,qs,h1,hs⟩
 ·exact .inr ⟨s,rfl⟩
theorem Lh(ts:List Tok):∃ b,TR (bW ts).1 b:=by
 unfold bW
 split
 ·next h =>
  obtain⟨k,qs,h1⟩:=xJ h;exact⟨true,.yes _ k qs h1⟩
 ·exact⟨false,.no⟩
theorem Ze(ts:List Tok)(i:Nat):∃ b a,Y_ (if bX [97,115] ts then andThen take aV ts else([],ts)).1 i b a:=by
 split
 ·next h =>
  obtain⟨k,qs,h1⟩:=xJ h;obtain⟨nm,hn⟩:=qM (take ts).2 (i+pz (take ts).1);exact⟨true,nm,.yes _ _ k qs i nm h1 hn⟩
 ·exact⟨false,_,.no i⟩
theorem Vx(ts:List Tok)(i:Nat):∃ b,Prp (if bX [40] ts then params ts else([],ts)).1 i b:=by
 split
 ·obtain⟨qs,h1,h2⟩:=Am ts
  obtain⟨ns,hn⟩:=h2 i;rw[h1];exact⟨_,.yes qs i ns hn⟩
 ·exact⟨_,.no i⟩
theorem Vy(ts:List Tok)(i:Nat):∃ it,Jr (.br 3 (andThen bW jA ts).1) i it:=by
 obtain⟨pub,hp⟩:=Lh ts;show ∃ it,Jr (.br 3 ((bW ts).1++(jA (bW ts).2).1)) i it;generalize (bW ts).1=pb at *;generalize (bW ts).2=eF at *;unfold jA;have h1:=Aq (s:=iN) (s':=jN) (by decide) eF;show ∃ it,Jr (.br 3 (pb++((want iN eF).1++((aV (want iN eF).2).1++((want [46] (aV (want iN eF).2).2).1++((aV (want [46] (aV (want iN eF).2).2).2).1++((if bX [97,115] (aV (want [46] (aV (want iN eF).2).2).2).2 then andThen take aV (aV (want [46] (aV (want iN eF).2).2).2).2 else([],(aV (want [46] (aV (want iN eF).2).2).2).2)).1++(want [59] (if bX [97,115] (aV (want [46] (aV (want iN eF).2).2).2).2 then andThen take aV (aV (want [46] (aV (want iN eF).2).2).2).2 else([],(aV (want [46] (aV (want iN eF).2).2).2).2)).2).1)))))) ) i it;generalize want iN eF=r1 at *;obtain⟨m,hm⟩:=qM r1.2 (i+pz pb+pz r1.1);generalize aV r1.2=r2 at *;have h2:=jW [46] r2.2;generalize want [46] r2.2=r3 at *;obtain⟨n,hn⟩:=qM r3.2 (i+pz pb+pz r1.1+pz r2.1+pz r3.1);generalize aV r3.2=r4 at *;obtain⟨gs,a,ha⟩:=Ze r4.2 (i+pz pb+pz r1.1+pz r2.1+pz r3.1+pz r4.1);generalize (if bX [97,115] r4.2 then andThen take aV r4.2 else([],r4.2))=r5 at *;have h3:=Aq (s:=[59]) (s':=Zd) (by decide) r5.2;exact⟨_,.use _ _ _ _ _ _ _ i pub gs m n a hp h1 hm h2 hn ha h3⟩
theorem Vz(ts:List Tok)(i:Nat):∃ it,Jr (.br 4 (andThen bW jr ts).1) i it:=by
 obtain⟨pub,hp⟩:=Lh ts;show ∃ it,Jr (.br 4 ((bW ts).1++(jr (bW ts).2).1)) i it;generalize (bW ts).1=pb at *;generalize (bW ts).2=eF at *;have hE:=Gv 65;unfold jr;generalize expr 65=E at *;have h1:=Aq (s:=kE) (s':=jN) (by decide) eF;show ∃ it,Jr (.br 4 (pb++((want kE eF).1++((aV (want kE eF).2).1++((if bX [40] (aV (want kE eF).2).2 then params (aV (want kE eF).2).2 else([],(aV (want kE eF).2).2)).1++((want [61] (if bX [40] (aV (want kE eF).2).2 then params (aV (want kE eF).2).2 else([],(aV (want kE eF).2).2)).2).1++((E (want [61] (if bX [40] (aV (want kE eF).2).2 then params (aV (want kE eF).2).2 else([],(aV (want kE eF).2).2)).2).2).1++(want [59] (E (want [61] (if bX [40] (aV (want kE eF).2).2 then params (aV (want kE eF).2).2 else([],(aV (want kE eF).2).2)).2).2).2).1)))))) ) i it;generalize want kE eF=r1 at *;obtain⟨n,hn⟩:=qM r1.2 (i+pz pb+pz r1.1);generalize aV r1.2=r2 at *;obtain⟨ps,hr⟩:=Vx r2.2 (i+pz pb+pz r1.1+pz r2.1);generalize (if bX [40] r2.2 then params r2.2 else([],r2.2))=r3 at *;have h2:=jW [61] r3.2;generalize want [61] r3.2=r4 at *;obtain⟨p,hpe,hx⟩:=hE r4.2;rw[hpe];obtain⟨e,he⟩:=hx (i+pz pb+pz r1.1+pz r2.1+pz r3.1+pz r4.1);have h3:=jW [59] (E r4.2).2;exact⟨_,.dfn _ _ _ _ _ p _ i pub n ps e hp h1 hn hr h2 he h3⟩
theorem VA{p:Part}(h:lv p=true):∃ k x,p=.leaf k x:=by
 cases p with
 | leaf k x=>exact⟨k,x,rfl⟩
 | miss m=>cases h
 | br k ps=>cases h
theorem Fq:∀(n:Nat) (ts:List Tok),ts.length≤n→(∀ t∈ts,t.1≠0)→∀ i,∃ its,sI (gV ts) i its
 | n,ts,hn,hk,i=>by
  cases h:(bJ ts==0) with
  | true =>
   have hq:=JF h hk;refine⟨[],?_⟩;rw[Gw h];refine .leaves _ i fun q hq'=>?_
   obtain⟨t,ht,rfl⟩:=iT.1 hq';exact hq t ht
  | false =>
   have hl:=En h;have hs:=Ng ts
   match n,hn with
   | 0,hn=>omega
   | n+1,hn =>
    have hk2:∀ t∈(kid ts).2.2,t.1≠0:=fun t ht=>hk t (by rw[hs];exact dz _ ht)
    obtain⟨its,hits⟩:=Fq n (kid ts).2.2 (by omega) hk2 (i+pz [.br (kid ts).1 (kid ts).2.1]);rw[CQ h];have hj:=VB h;revert hits hj;rw[qm]
    split
    ·split
     ·intro hits _
      obtain⟨it,hit⟩:=Vy ts i;exact⟨it::its,.item _ _ i it its hit hits⟩
     ·intro hits _
      obtain⟨it,hit⟩:=Vz ts i;exact⟨it::its,.item _ _ i it its hit hits⟩
    ·intro hits hj
     rw[TS] at hj;exact⟨its,.junk _ _ i its (fun q hq=>VA ((hj.1.2 rfl).1 q hq)) hits⟩
end X
namespace X
def Oa(p:Part):Prop:=∀ t∈pl p,t.2≠[]
def ql(ps:List Part):Prop:=∀ t∈r9 ps,t.2≠[]
theorem ql.app{a b:List Part}(h:ql (a++b)):ql a∧ql b:=by
 unfold ql at *;rw[o9] at h;exact⟨fun t ht=>h t (gG _ ht),fun t ht=>h t (dz _ ht)⟩
theorem ql.one{p:Part}(h:ql [p]):Oa p:=fun t ht=>h t (by rw[r9,r9,aJ];exact ht)
theorem ql.head{p:Part}{ps:List Part}(h:ql (p::ps)):Oa p∧ql ps:=by
 have:=ql.app (a:=[p]) (b:=ps) h;exact⟨this.1.one,this.2⟩
theorem Oa.kids{k:Nat}{ps:List Part}(h:Oa (.br k ps)):ql ps:=fun t ht=>h t (by rw[pl];exact ht)
theorem Oa.leaf{k:Nat}{x:ah}(h:Oa (.leaf k x)):x≠[]:=h (k,x) (by rw[pl];exact dR.2 rfl)
theorem Cx(x:ah):ql (gV (xt x)):=fun t ht=>by
 have h:r9 (gV (xt x))=xt x:=Pv (xt x);rw[h] at ht;obtain⟨-,-,h1⟩:=yS x t ht;intro e;rw[e] at h1;simp at h1
def Gd(ps:List Part):Prop:=ql ps∧iR ps
theorem Gd.tail{p:Part}{ps:List Part}(h:Gd (p::ps)):Gd ps:=⟨h.1.head.2,by have:=h.2;rw[iR] at this;exact this.2⟩
theorem Gd.app{a b:List Part}(h:Gd (a++b)):Gd b:=by
 induction a with
 | nil=>exact h
 | cons p a ih=>exact ih h.tail
theorem Gd.leaf{k:Nat}{x:ah}{ps:List Part}(h:Gd (.leaf k x::ps)):0<x.length:=by
 have:=h.1.head.1.leaf;cases x with
 | nil=>exact absurd rfl this
 | cons a x=>simp
theorem Gd.br{k:Nat}{qs ps:List Part}(h:Gd (.br k qs::ps)):k≠0∧Gd qs:=by
 have h2:=h.2;rw[iR,Nh] at h2;exact⟨h2.1.1,h.1.head.1.kids,h2.1.2⟩
end X
end
section
open Go.RowKit
variable{w:World}{D:Nat→Prop}{v:Value}{ps:List X.Part}{p:X.Part}
namespace X
def nk:Part→Nat
 | .leaf _ _=>0
 | .miss _=>1
 | .br k _=>k
def CR:Part→Nat
 | .leaf k _=>k
 | _=>0
def AQ:Part→ah
 | .leaf _ x=>x
 | .miss m=>m
 | .br _ _=>[]
def Ij:Part→Nat
 | .leaf _ x=>x.length
 | _=>0
def kids:Part→List Part
 | .br _ ps=>ps
 | _=>[]
end X
structure qz(w:World)(D:Nat→Prop)(v:Value)(ps:List X.Part):Prop where
 ex:∃(ao:Option Addr) (cap:Nat) (c0 c1 c2 c3:Nat→Value),v=.slice ao ps.length cap∧ps.length≤cap∧cap≤maxLen∧(∀ j,j<ps.length→∃ g o,ao=some ⟨g,o,none⟩∧D g∧w.cell? ⟨g,o+j*4,none⟩=some (c0 j)∧w.cell? ⟨g,o+j*4+1,none⟩=some (c1 j)∧w.cell? ⟨g,o+j*4+2,none⟩=some (c2 j)∧w.cell? ⟨g,o+j*4+3,none⟩=some (c3 j))∧(∀(j:Nat) (p:X.Part),ps[j]?=some p→ze w D (.agg #[c0 j,c1 j,c2 j,c3 j]) p)
theorem qz.keep{S:Nat→Prop}{w':World}(hk:Kp S w w')(hD:∀ q,D q→¬ S q)(h:qz w D v ps):qz w' D v ps:=by
 obtain⟨ao,cap,c0,c1,c2,c3,e,h1,h2,hr,hp⟩:=h.ex;refine⟨ao,cap,c0,c1,c2,c3,e,h1,h2,fun j hj=>?_,fun j p hj=>(hp j p hj).kept hk (fun q hs hd=>hD q hd hs)⟩;obtain⟨g,o,x1,x2,y0,y1,y2,y3⟩:=hr j hj;have hn:=hD g x2;exact⟨g,o,x1,x2,hk.dY y0 hn,hk.dY y1 hn,hk.dY y2 hn,hk.dY y3 hn⟩
theorem ze.val(h:ze w D v p):∃ kv,v=.agg #[.int .i64 (X.nk p),.int .i64 (X.CR p),.string (ba (X.AQ p)),kv]∧qz w D kv (X.kids p):=by
 cases h with
 | leaf k x=>exact⟨_,rfl,none,0,fun _=>undef,fun _=>undef,fun _=>undef,fun _=>undef,rfl,aj _,by unfold maxLen;omega,fun j hj=>absurd hj (mF _),fun j p hp=>by simp[X.kids] at hp⟩
 | miss m=>exact⟨_,rfl,none,0,fun _=>undef,fun _=>undef,fun _=>undef,fun _=>undef,rfl,aj _,by unfold maxLen;omega,fun j hj=>absurd hj (mF _),fun j p hp=>by simp[X.kids] at hp⟩
 | br k cap ao c0 c1 c2 c3 ps hc hr hp =>
  refine⟨_,rfl,ao,cap,c0,c1,c2,c3,rfl,hc.1,hc.2,fun j hj=>?_,hp⟩;obtain⟨g,e1,e2,y0,y1,y2,y3⟩:=hr j hj;exact⟨g,0,e1,e2,by rw[cu];exact y0,by rw[cu];exact y1,by rw[cu];exact y2,by rw[cu];exact y3⟩
theorem qz.head(h:qz w D v (p::ps)) :
  ∃ g o cap kv,v=.slice (some ⟨g,o,none⟩) (ps.length+1) cap∧D g∧w.cell? ⟨g,o,none⟩=some (.int .i64 (X.nk p))∧w.cell? ⟨g,o+1,none⟩=some (.int .i64 (X.CR p))∧w.cell? ⟨g,o+2,none⟩=some (.string (ba (X.AQ p)))∧w.cell? ⟨g,o+3,none⟩=some kv∧qz w D kv (X.kids p)∧ze w D (.agg #[.int .i64 (X.nk p),.int .i64 (X.CR p),.string (ba (X.AQ p)),kv]) p∧ps.length+1≤cap∧cap≤maxLen ∧
   (cap≠1→qz w D (.slice (some ⟨g,o+4,none⟩) ps.length (cap - 1)) ps)∧(cap=1→qz w D (.slice (some ⟨g,o,none⟩) 0 0) ps∧ps=[]):=by
 obtain⟨ao,cap,c0,c1,c2,c3,rfl,h1,h2,hr,hp⟩:=h.ex;obtain⟨g,o,rfl,hD,y0,y1,y2,y3⟩:=hr 0 (by rw[aW];omega);have hn:=hp 0 p rfl;obtain⟨kv,hv,hk⟩:=hn.val;have hv':=hv;simp only[Value.agg.injEq] at hv;have e0:c0 0=.int .i64 (X.nk p):=bK (congrArg (fun a:Array Value=>a[0]?) hv);have e1:c1 0=.int .i64 (X.CR p):=bK (congrArg (fun a:Array Value=>a[1]?) hv);have e2:c2 0=.string (ba (X.AQ p)):=bK (congrArg (fun a:Array Value=>a[2]?) hv);have e3:c3 0=kv:=bK (congrArg (fun a:Array Value=>a[3]?) hv);rw[hv'] at hn;simp only[Nat.zero_mul,Nat.add_zero,e0,e1,e2,e3] at y0 y1 y2 y3;rw[aW] at h1;refine⟨g,o,cap,kv,by rw[aW],hD,y0,y1,y2,y3,hk,hn,h1,h2,fun _=>?_,fun e=>?_⟩
 ·refine⟨_,_,fun j=>c0 (j+1),fun j=>c1 (j+1),fun j=>c2 (j+1),fun j=>c3 (j+1),rfl,by omega,by omega,fun j hj=>?_,fun j q hq=>hp (j+1) q (by rw[List.getElem?_cons_succ];exact hq)⟩
  obtain⟨g',o',e,-,z0,z1,z2,z3⟩:=hr (j+1) (by rw[aW];omega);cases e
  have a0:o+4+j*4=o+(j+1)*4:=by omega
  exact⟨g,o+4,rfl,hD,by rw[a0];exact z0,by rw[a0];exact z1,by rw[a0];exact z2,by rw[a0];exact z3⟩
 ·have hps:ps=[]:=aT.1 (by omega)
  subst hps;exact⟨⟨_,0,fun _=>undef,fun _=>undef,fun _=>undef,fun _=>undef,rfl,aj _,by omega,fun j hj=>absurd hj (mF _),fun j q hq=>by simp at hq⟩,rfl⟩
end
section
open Tryz
open Go.RowKit
theorem tC(a1 a2:Nat)(x:ByteArray)(a4:Option Addr)(a5 a6:Nat)(w:World) :
  Calls prog 50 #[.agg #[.int .i64 a1,.int .i64 a2,.string x,.slice a4 a5 a6]] w fun e w'=>e=.returned (.bool (a1==0&&(a2==1||a2==2)))∧Below w.heap.size w w':=by
 have kA:Below w.heap.size w (w.alloc (.cells #[.int .i64 a1,.int .i64 a2,.string x,.slice a4 a5 a6] 117)):=(ay _ w).alloc (aj _) _;have oM:=au kA;clear kA;by_cases h0:a1=0
 ·subst h0
  by_cases h1:a2=1
  ·subst h1
   go_enter func50,ntmps50;go_wp2_with fail
   go_ret;exact⟨rfl,oM.o⟩
  ·have j1:((a2:Int)==1)=false:=by simp;omega
   have k1:(a2==1)=false:=by simp;omega
   by_cases h2:a2=2
   ·subst h2
    go_enter func50,ntmps50;go_wp2_with fail
    go_ret;exact⟨rfl,oM.o⟩
   ·have j2:((a2:Int)==2)=false:=by simp;omega
    have k2:(a2==2)=false:=by simp;omega
    rw[k1,k2];go_enter func50,ntmps50;go_wp2_with fail
    go_ret;exact⟨rfl,oM.o⟩
 ·have j0:((a1:Int)==0)=false:=by simp;omega
  have k0:(a1==0)=false:=by simp;omega
  rw[k0];go_enter func50,ntmps50;go_wp2_with fail
  go_ret;exact⟨rfl,oM.o⟩
theorem Xd(p:X.Part):(X.nk p==0&&(X.CR p==1||X.CR p==2))=X.lq p:=by
 cases p with
 | leaf k x=>rfl
 | miss m=>rfl
 | br k ps=>show((k==0)&&false)=false;rw[Bool.and_false]
end
section
variable{lo hi f i:Nat}
namespace X
structure U where
 f:Nat
 i:Nat
 s:Nat
 tf:Int
 tt:Int
 e:Nat
deriving DecidableEq
abbrev An:=Int × Int × Nat
def gZ(f:Nat)(n:Nm)(s:Nat)(a:An):List U:=if n.1=[] then [] else [⟨f,n.2,s,a.1,a.2.1,a.2.2⟩]
def qg(f:Nat)(n:Nm)(s e:Nat):List U:=gZ f n s (f,n.2,e)
def jy(f:Nat):List Nm→List Nm→List U
 | _,[]=>[]
 | seen,n::ns=>qg f n 1 (if seen.any (fun m=>m.1==n.1) then 5 else 0)++jy f (seen++[n]) ns
def first(l:List Nm)(x:ah):Option Nat:=(l.find? (fun m=>m.1==x)).map (·.2)
def sight:List (List Nm)→ah→Option Nat
 | [],_=>none
 | b::bs,x=>match first b x with|some i=>some i|none=>sight bs x
mutual
def exU(f:Nat)(top:ah→An):List (List Nm)→Ex→List U
 | _,.lit _ _=>[]
 | _,.hole _=>[]
 | _,.missing=>[]
 | sc,.var n=>gZ f n 6 (match sight sc n.1 with|some i=>(f,i,0)|none=>top n.1)
 | sc,.iJ n v b=>qg f n 2 0++(exU f top sc v++exU f top ([n]::sc) b)
 | sc,.ite a b c=>exU f top sc a++(exU f top sc b++exU f top sc c)
 | sc,.fn ns b=>jy f [] ns++exU f top (ns::sc) b
 | sc,.bin l _ r=>exU f top sc l++exU f top sc r
 | sc,.call g l=>exU f top sc g++gL f top sc l
 | sc,.list l=>gL f top sc l
 | sc,.group e=>exU f top sc e
def gL(f:Nat)(top:ah→An):List (List Nm)→List Ex→List U
 | _,[]=>[]
 | sc,e::l=>exU f top sc e++gL f top sc l
end
def called:It→Nm
 | .use _ _ n gs a=>if gs then a else n
 | .dfn _ n _ _=>n
def shown:It→Bool
 | .use p _ _ _ _=>p
 | .dfn p _ _ _=>p
def jo(l:List It)(x:ah):Option Nat:=if x=[] then none else l.findIdx? (fun it=>(called it).1==x)
abbrev Fl:=ah × List It
def qC(fs:List Fl)(x:ah):Option Nat:=if x=[] then none else fs.findIdx? (fun f=>f.1==x)
def aM(fs:List Fl)(f:Nat):List It:=(fs.getD f ([],[])).2
def jM(fs:List Fl):Nat→Nat→Nat→An
 | left,f,k=>match (aM fs f)[k]? with
  | none=>(-1,-1,4)
  | some (.dfn _ n _ _)=>(f,n.2,0)
  | some (.use _ m n _ _)=>match qC fs m.1 with
   | none=>(-1,-1,4)
   | some f'=>match jo (aM fs f') n.1 with
    | none=>(-1,-1,4)
    | some k'=>match (aM fs f')[k']? with
     | none=>(-1,-1,4)
     | some it=>if shown it=false∧f'≠f then(-1,-1,6) else
      match left with
      | 0=>match it with
       | .dfn _ d _ _=>(f',d.2,0)
       | .use _ _ _ _ _=>(-1,-1,7)
      | left+1=>jM fs left f' k'
def ji(fs:List Fl):Nat:=(fs.map fun f=>(f.2.filter fun it=>match it with|.use _ _ _ _ _=>true|_=>false).length).sum
def gT(fs:List Fl)(f:Nat)(x:ah):An:=match jo (aM fs f) x with
 | none=>(-1,-1,4)
 | some k=>((jM fs (ji fs) f k).1,(jM fs (ji fs) f k).2.1,0)
def lH(l:List It)(k:Nat)(x:ah):Nat:=if x=[]∨jo l x=some k then 0 else 5
def xW(fs:List Fl)(f k:Nat):It→List U
 | .use _ m n gs a =>
  let an:=jM fs (ji fs) f k
  let tw:=lH (aM fs f) k (if gs then a else n).1
  gZ f m 3 (match qC fs m.1 with|some f'=>(f',-1,0)|none=>(-1,-1,4)) ++
  (gZ f n 4 (an.1,an.2.1,if an.2.2=0∧gs=false then tw else an.2.2)++gZ f a 5 (an.1,an.2.1,tw))
 | .dfn _ n ps b=>qg f n 0 (lH (aM fs f) k n.1)++(jy f [] (ps.getD [])++exU f (gT fs f) (match ps with|some ns=>[ns]|none=>[]) b)
def iB(fs:List Fl)(f:Nat):Nat→List It→List U
 | _,[]=>[]
 | k,it::l=>xW fs f k it++iB fs f (k+1) l
def jf(fs:List Fl):List U:=(List.range fs.length).flatMap fun f=>iB fs f 0 (aM fs f)
/-! The places at which names stand. -/
def fq(lo hi:Nat)(l:List U):Prop:=l.Pairwise (fun a b=>a.i<b.i)∧∀ u∈l,lo≤u.i∧u.i<hi
theorem fq.nil{lo hi:Nat}:fq lo hi []:=⟨List.Pairwise.nil,fun _ h=>by cases h⟩
theorem fq.app{mi:Nat}{a b:List U}(h1:fq lo mi a)(h2:fq mi hi b)(hl:lo≤mi)(hh:mi≤hi):fq lo hi (a++b):=by
 refine⟨tN.2 ⟨h1.1,h2.1,fun x hx y hy=>?_⟩,fun u hu=>?_⟩
 ·have:=h1.2 x hx
  have:=h2.2 y hy;omega
 ·rcases cZ.1 hu with g|g
  ·have:=h1.2 u g;omega
  ·have:=h2.2 u g;omega
theorem fq.wide{lo' hi':Nat}{a:List U}(h:fq lo hi a)(h1:lo'≤lo)(h2:hi≤hi'):fq lo' hi' a:=⟨h.1,fun u hu=>by have:=h.2 u hu;omega⟩
theorem lT{n:Nm}{s:Nat}{a:An}(h:n.1≠[]→lo≤n.2∧n.2<hi):fq lo hi (gZ f n s a):=by
 unfold gZ
 split
 ·exact .nil
 ·next h0=>exact⟨List.pairwise_singleton _ _,fun u hu=>by obtain rfl:=dR.1 hu;exact h h0⟩
theorem Ad{ps:List Part}{nm:Nm}(h:BD ps i nm):nm.1≠[]→i≤nm.2∧nm.2<i+pz ps:=by
 cases h with
 | name _ x qs _ h =>
  intro hx;have e:pz ps=pz qs+x.length:=by
   rw[h.eq,aY];unfold pz;rw[nN,pb,nN,aJ]
  have:x.length≠0:=fun e0=>hx (aT.1 e0)
  show i≤i+pz qs∧i+pz qs<i+pz ps;omega
 | miss _=>intro hx;exact absurd rfl hx
theorem Gf{ps:List Part}{ns:List Nm}(h:oN ps i ns):∀ seen,fq i (i+pz ps) (jy f seen ns):=by
 induction h with
 | nil i=>intro _;exact .nil
 | name x ps i ns h ih =>
  intro seen;rw[jy,fH,iK];refine fq.app (mi:=i+x.length) (lT fun hx=>?_) ((ih _).wide (aj _) (by omega)) (by omega) (by omega);have:x.length≠0:=fun e0=>hx (aT.1 e0)
  exact⟨aj _,by show i<_;omega⟩
 | leaf k x ps i ns hk h ih =>
  intro seen;rw[fH,iK];exact(ih seen).wide (by omega) (by omega)
 | lack ps i ns h ih =>
  intro seen;rw[jy,fH];have:pz [.miss fF]=0:=rfl;refine fq.app (mi:=i) (lT fun hx=>absurd rfl hx) ((ih _).wide (aj _) (by omega)) (aj _) (by omega)
 | miss m ps i ns hm h ih =>
  intro seen;rw[fH];have:pz [.miss m]=0:=rfl;exact(ih seen).wide (by omega) (by omega)
theorem dH(p:Part):dQ [p]=iM p:=by rw[dQ,dQ,Nat.add_zero]
theorem Jz{ps:List Part}{k:Nat}{x:ah}{qs:List Part}(h:y9 ps k x qs):pz ps=pz qs+x.length:=by
 rw[h.eq,aY,iK]
theorem Vj(f:Nat)(top:ah→An):∀ n:Nat,(∀(p:Part) (i:Nat) (e:Ex),iM p≤n→Rd p i e→∀ sc,fq i (i+pz [p]) (exU f top sc e))∧(∀(ps:List Part) (i:Nat) (es:List Ex),dQ ps≤n→lW ps i es→∀ sc,fq i (i+pz ps) (gL f top sc es)):=by
 intro n
 induction n with
 | zero =>
  refine⟨fun p i e h=>?_,fun ps i es h hr sc=>?_⟩
  ·have:=gQ p;omega
  ·cases ps with
   | nil=>cases hr;rw[gL];exact .nil
   | cons p ps=>rw[dQ] at h;have:=gQ p;omega
 | succ n ih =>
  have hE:∀(p:Part) (i:Nat) (e:Ex),iM p≤n+1→Rd p i e→∀ sc,fq i (i+pz [p]) (exU f top sc e):=by
   intro p i e hn hr sc;cases hr with
   | missing _=>rw[exU];exact .nil
   | lit k t x ps qs _ hk h=>rw[exU];exact .nil
   | hole t x ps qs _ h=>rw[exU];exact .nil
   | var x ps qs _ h =>
    rw[exU,eU,Jz h];refine lT fun hx=>?_
    have:x.length≠0:=fun e0=>hx (aT.1 e0)
    show i≤i+pz qs∧i+pz qs<_;omega
   | iJ t1 n1 t2 t3 p1 p2 _ nm e1 e2 h1 hn1 h2 hv h3 hb =>
    rw[iM,aR,aR,aR,aR,aR,dH,dH] at hn;rw[exU,eU,aY,aY,aY,aY,aY];have b1:=ih.1 p1 _ e1 (by omega) hv sc;have b2:=ih.1 p2 _ e2 (by omega) hb ([nm]::sc);refine fq.app (mi:=i+pz t1+pz n1) ((lT (Ad hn1)).wide (by omega) (by omega)) ?_ (by omega) (by omega);refine fq.app (mi:=i+pz t1+pz n1+pz t2+pz [p1]) (b1.wide (by omega) (by omega)) (b2.wide (by omega) (by omega)) (by omega) (by omega)
   | ite ps _ a b c h =>
    rw[iM] at hn;rw[exU,eU];have:=ih.2 ps i [a,b,c] (by omega) h sc;rw[gL,gL,gL,gL,aJ] at this;exact this
   | fn t1 qs t2 p _ ns e h1 hns h2 hb =>
    rw[iM,aR,aR,aR,dH,dH] at hn;rw[exU,eU,aY,aY,aY,eU];have b1:=Gf (f:=f) hns [];have b2:=ih.1 p _ e (by omega) hb (ns::sc);exact fq.app (mi:=i+pz t1+pz qs) (b1.wide (by omega) (by omega)) (b2.wide (by omega) (by omega)) (by omega) (by omega)
   | bin p1 p2 t qs k x _ e1 e2 hl h hr2 =>
    rw[iM,aR,aR,dH,dH] at hn;rw[exU,eU,aY,aY];have b1:=ih.1 p1 _ e1 (by omega) hl sc;have b2:=ih.1 p2 _ e2 (by omega) hr2 sc;exact fq.app (mi:=i+pz [p1]) b1 (b2.wide (by omega) (by omega)) (by omega) (by omega)
   | call p gs _ e es hc ha =>
    rw[iM,aR,dH,dH,iM] at hn;rw[exU,eU,aY,eU];have b1:=ih.1 p _ e (by omega) hc sc;have b2:=ih.2 gs _ es (by omega) ha sc;exact fq.app (mi:=i+pz [p]) b1 (b2.wide (by omega) (by omega)) (by omega) (by omega)
   | list ps _ es h =>
    rw[iM] at hn;rw[exU,eU];exact ih.2 ps i es (by omega) h sc
   | group ps _ e h =>
    rw[iM] at hn;rw[exU,eU];have:=ih.2 ps i [e] (by omega) h sc;rw[gL,gL,aJ] at this;exact this
  refine⟨hE,fun ps i es hn hr sc=>?_⟩
  induction ps generalizing i es with
  | nil=>cases hr;rw[gL];exact .nil
  | cons q ps IX =>
   rw[dQ] at hn;have hq:=gQ q;cases hr with
   | leaf k x _ _ _ h =>
    rw[fH,iK];exact(IX (i+x.length) es (by omega) h).wide (by omega) (by omega)
   | miss m _ _ _ hm h =>
    rw[fH];have:pz [.miss m]=0:=rfl;exact(IX i es (by omega) h).wide (by omega) (by omega)
   | cons _ _ _ e es hp h =>
    rw[gL,fH];exact fq.app (mi:=i+pz [q]) (hE q i e (by omega) hp sc) ((IX (i+pz [q]) es (by omega) h).wide (aj _) (by omega)) (by omega) (by omega)
end X
end
section
variable{k f:Nat}
namespace X
theorem qE{l:List It}{x:ah}(h:jo l x=some k):∃ it,l[k]?=some it∧(called it).1=x∧x≠[]:=by
 unfold jo at h
 split at h
 ·cases h
 ·next hx =>
  obtain⟨hk,hp,-⟩:=List.findIdx?_eq_some_iff_getElem.1 h;exact⟨l[k],aC hk,by simpa using hp,hx⟩
theorem F9(fs:List Fl):∀(left f k:Nat),(∀ p n ps b,(aM fs f)[k]?=some (.dfn p n ps b)→n.1≠[])→0≤(jM fs left f k).2.1→∃(f' k':Nat) (p:Bool) (n:Nm) (ps:Option (List Nm)) (b:Ex),(aM fs f')[k']?=some (.dfn p n ps b)∧n.1≠[]∧(jM fs left f k).1=f'∧(jM fs left f k).2.1=n.2
 | left,f,k,hd,h0=>by
  unfold jM at h0 ⊢;cases hk:(aM fs f)[k]? with
  | none=>rw[hk] at h0;exact absurd h0 (by simp)
  | some it =>
   rw[hk] at h0;cases it with
   | dfn p n ps b=>exact⟨f,k,p,n,ps,b,hk,hd p n ps b hk,rfl,rfl⟩
   | use p m n gs a =>
    simp only at h0 ⊢;cases hm:qC fs m.1 with
    | none=>rw[hm] at h0;exact absurd h0 (by simp)
    | some f' =>
     rw[hm] at h0;simp only at h0 ⊢;cases ht:jo (aM fs f') n.1 with
     | none=>rw[ht] at h0;exact absurd h0 (by simp)
     | some k' =>
      rw[ht] at h0;simp only at h0 ⊢;obtain⟨it,hit,hc,hne⟩:=qE ht;rw[hit] at h0 ⊢;simp only at h0 ⊢;by_cases hs:shown it=false∧f'≠f
      ·rw[aL hs] at h0;exact absurd h0 (by simp)
      ·rw[aG hs] at h0 ⊢
       cases left with
       | zero =>
        cases it with
        | dfn p2 d ps b=>exact⟨f',k',p2,d,ps,b,hit,by rw[← hc] at hne;exact hne,rfl,rfl⟩
        | use _ _ _ _ _=>exact absurd h0 (by simp)
       | succ left =>
        simp only at h0 ⊢;refine F9 fs left f' k' (fun p2 d ps b e=>?_) h0;rw[hit] at e;cases e
        rw[← hc] at hne;exact hne
theorem Ac{fs:List Fl}{f:Nat}:∀ {l:List It} {k j:Nat} {it:It},l[j]?=some it→∀ u∈xW fs f (k+j) it,u∈iB fs f k l
 | [],k,j,it,h=>by simp at h
 | a::l,k,0,it,h=>fun u hu=>by
  cases h
  rw[iB];exact gG _ hu
 | a::l,k,j+1,it,h=>fun u hu=>by
  rw[iB];refine dz _ (Ac (k:=k+1) (j:=j) (by simpa using h) u ?_);rw[show k+1+j=k+(j+1) by omega];exact hu
theorem q8{fs:List Fl}{it:It}(h:(aM fs f)[k]?=some it):f<fs.length:=by
 rcases bE f fs.length with g|g
 ·exact g
 ·unfold aM at h
  rw[bF,aO g] at h;simp at h
theorem QH{fs:List Fl}{it:It}(h:(aM fs f)[k]?=some it):∀ u∈xW fs f k it,u∈jf fs:=by
 intro u hu;refine kX.2 ⟨f,gD.2 (q8 h),Ac (k:=0) (j:=k) h u ?_⟩;rw[cu];exact hu
theorem Gg{fs:List Fl}{f:Nat}:∀ {l:List It} {k:Nat} {u:U},u∈iB fs f k l→∃ j it,l[j]?=some it∧u∈xW fs f (k+j) it
 | [],k,u,h=>by rw[iB] at h;cases h
 | a::l,k,u,h=>by
  rw[iB] at h;rcases cZ.1 h with g|g
  ·exact⟨0,a,rfl,g⟩
  ·obtain⟨j,it,h1,h2⟩:=Gg g
   refine⟨j+1,it,by simpa using h1,?_⟩;rw[show k+(j+1)=k+1+j by omega];exact h2
end X
end
section
variable{f k i:Nat}
namespace X
theorem lM{n:Nm}{s:Nat}{a:An}:∀ u∈gZ f n s a,u.f=f:=by
 intro u hu;unfold gZ at hu
 split at hu
 ·cases hu
 ·obtain rfl:=dR.1 hu;rfl
theorem xH{f:Nat}:∀(ns seen:List Nm),∀ u∈jy f seen ns,u.f=f
 | [],_,u,h=>by cases h
 | n::ns,seen,u,h=>by
  rw[jy] at h;rcases cZ.1 h with g|g
  ·exact lM u g
  ·exact xH ns _ u g
mutual
theorem jC{f:Nat}{top:ah→An}:∀(e:Ex) (sc:List (List Nm)),∀ u∈exU f top sc e,u.f=f
 | .lit _ _,sc=>fun u hu=>by rw[exU] at hu;cases hu
 | .hole _,sc=>fun u hu=>by rw[exU] at hu;cases hu
 | .missing,sc=>fun u hu=>by rw[exU] at hu;cases hu
 | .var n,sc=>by rw[exU];exact lM
 | .iJ n v b,sc=>fun u hu=>by
  rw[exU] at hu;rcases cZ.1 hu with g|g
  ·exact lM u g
  ·rcases cZ.1 g with g|g
   ·exact jC v sc u g
   ·exact jC b _ u g
 | .ite a b c,sc=>fun u hu=>by
  rw[exU] at hu;rcases cZ.1 hu with g|g
  ·exact jC a sc u g
  ·rcases cZ.1 g with g|g
   ·exact jC b sc u g
   ·exact jC c sc u g
 | .fn ns b,sc=>fun u hu=>by
  rw[exU] at hu;rcases cZ.1 hu with g|g
  ·exact xH ns _ u g
  ·exact jC b _ u g
 | .bin a _ b,sc=>fun u hu=>by
  rw[exU] at hu;rcases cZ.1 hu with g|g
  ·exact jC a sc u g
  ·exact jC b sc u g
 | .call a l,sc=>fun u hu=>by
  rw[exU] at hu;rcases cZ.1 hu with g|g
  ·exact jC a sc u g
  ·exact xI l sc u g
 | .list l,sc=>fun u hu=>by
  rw[exU] at hu;exact xI l sc u hu
 | .group e,sc=>fun u hu=>by
  rw[exU] at hu;exact jC e sc u hu
theorem xI{f:Nat}{top:ah→An}:∀(es:List Ex) (sc:List (List Nm)),∀ u∈gL f top sc es,u.f=f
 | [],sc=>fun u hu=>by rw[gL] at hu;cases hu
 | e::es,sc=>fun u hu=>by
  rw[gL] at hu;rcases cZ.1 hu with g|g
  ·exact jC e sc u g
  ·exact xI es sc u g
end
theorem QZ{fs:List Fl}(it:It):∀ u∈xW fs f k it,u.f=f:=by
 intro u hu;cases it with
 | use p m n gs a =>
  simp only[xW] at hu;rcases cZ.1 hu with g|g
  ·exact lM u g
  ·rcases cZ.1 g with g|g
   ·exact lM u g
   ·exact lM u g
 | dfn p n ps b =>
  simp only[xW] at hu;rcases cZ.1 hu with g|g
  ·exact lM u g
  ·rcases cZ.1 g with g|g
   ·exact xH _ _ u g
   ·exact jC b _ u g
theorem Y9{ps:List Part}{b:Bool}{a:Nm}(h:Y_ ps i b a):a.1≠[]→i≤a.2∧a.2<i+pz ps:=by
 cases h with
 | yes t n k qs _ nm h hn =>
  intro hx;have:=Ad hn hx;rw[aY];omega
 | no _=>intro hx;exact absurd rfl hx
theorem Vk{fs:List Fl}{p:Part}{it:It}(h:Jr p i it):fq i (i+pz [p]) (xW fs f k it):=by
 cases h with
 | use pb t1 n1 t2 n2 ap t3 _ pub gs m n a hp h1 hm h2 hn ha h3 =>
  simp only[xW];rw[eU,aY,aY,aY,aY,aY,aY];refine fq.app (mi:=i+pz pb+pz t1+pz n1) ((lT (Ad hm)).wide (by omega) (by omega)) ?_ (by omega) (by omega);refine fq.app (mi:=i+pz pb+pz t1+pz n1+pz t2+pz n2) ((lT (Ad hn)).wide (by omega) (by omega)) ((lT (Y9 ha)).wide (by omega) (by omega)) (by omega) (by omega)
 | dfn pb t1 n1 pr t2 p t3 _ pub n ps e hp h1 hn hr h2 he h3 =>
  simp only[xW];rw[eU,aY,aY,aY,aY,aY,aY];have be:=(Vj f (gT fs f) (iM p)).1 p _ e (aj _) he;have bp:fq (i+pz pb+pz t1+pz n1) (i+pz pb+pz t1+pz n1+pz pr) (jy f [] (ps.getD [])):=by
   cases hr with
   | yes qs _ ns h =>
    rw[eU];exact Gf h []
   | no _=>exact .nil
  refine fq.app (mi:=i+pz pb+pz t1+pz n1) ((lT (Ad hn)).wide (by omega) (by omega)) ?_ (by omega) (by omega);exact fq.app (mi:=i+pz pb+pz t1+pz n1+pz pr) bp ((be _).wide (by omega) (by omega)) (by omega) (by omega)
theorem zM{fs:List Fl}{ps:List Part}{its:List It}(h:sI ps i its):∀ k,fq i (i+pz ps) (iB fs f k its):=by
 induction h with
 | leaves ps i h=>intro k;rw[iB];exact .nil
 | junk qs ps i its hq h ih =>
  intro k;rw[fH];exact(ih k).wide (by omega) (by omega)
 | item p ps i it its hp h ih =>
  intro k;rw[iB,fH];exact fq.app (mi:=i+pz [p]) (Vk hp) ((ih (k+1)).wide (aj _) (by omega)) (by omega) (by omega)
theorem Cz{fs:List Fl}{l:List It}{u:U}(h:u∈iB fs f k l):u.f=f:=by
 obtain⟨j,it,-,h2⟩:=Gg h;exact QZ it u h2
theorem MW{fs:List Fl}(h:∀ f,f<fs.length→∃ ps,sI ps 0 (aM fs f)):(jf fs).Pairwise (fun a b=>¬(a.f=b.f∧a.i=b.i)):=by
 unfold jf;have key:∀ n,n≤fs.length→((List.range n).flatMap fun f=>iB fs f 0 (aM fs f)).Pairwise (fun a b=>¬(a.f=b.f∧a.i=b.i))∧∀ u∈((List.range n).flatMap fun f=>iB fs f 0 (aM fs f)),u.f<n:=by
  intro n
  induction n with
  | zero=>intro _;exact⟨List.Pairwise.nil,fun u hu=>by cases hu⟩
  | succ n ih =>
   intro hn;obtain⟨h1,h2⟩:=ih (by omega);rw[List.range_succ,iA];have e1:([n].flatMap fun f=>iB fs f 0 (aM fs f))=iB fs n 0 (aM fs n):=by simp
   rw[e1];obtain⟨ps,hps⟩:=h n (by omega);have hb:=(zM (fs:=fs) (f:=n) hps 0).1;refine⟨tN.2 ⟨h1,hb.imp (fun hlt he=>by omega),fun a ha b hb' he=>?_⟩,fun u hu=>?_⟩
   ·have:=h2 a ha
    have:=Cz hb';omega
   ·rcases cZ.1 hu with g|g
    ·have:=h2 u g;omega
    ·have:=Cz g;omega
 exact(key fs.length (aj _)).1
end X
end
section
variable{f k j m:Nat}
namespace X
def wN(fs:List Fl)(f k:Nat):Sum An (Nat × Nat) :=
 match (aM fs f)[k]? with
 | none=>.inl (-1,-1,4)
 | some (.dfn _ n _ _)=>.inl (f,n.2,0)
 | some (.use _ m n _ _)=>match qC fs m.1 with
  | none=>.inl (-1,-1,4)
  | some f'=>match jo (aM fs f') n.1 with
   | none=>.inl (-1,-1,4)
   | some k'=>match (aM fs f')[k']? with
    | none=>.inl (-1,-1,4)
    | some it=>if shown it=false∧f'≠f then .inl (-1,-1,6) else
     match it with
     | .dfn _ d _ _=>.inl (f',d.2,0)
     | .use _ _ _ _ _=>.inr (f',k')
theorem Ae(fs:List Fl)(left f k:Nat):jM fs left f k=match wN fs f k with
  | .inl a=>a
  | .inr p=>match left with
   | 0=>(-1,-1,7)
   | l+1=>jM fs l p.1 p.2:=by
 unfold wN;rw[jM.eq_def];dsimp only;cases hk:(aM fs f)[k]? with
 | none=>simp only
 | some it =>
  cases it with
  | dfn p n ps b=>simp only
  | use p m n gs a =>
   simp only;cases hm:qC fs m.1 with
   | none=>simp only
   | some f' =>
    simp only;cases ht:jo (aM fs f') n.1 with
    | none=>simp only
    | some k' =>
     simp only;cases hi:(aM fs f')[k']? with
     | none=>simp only
     | some it =>
      simp only;by_cases hs:shown it=false∧f'≠f
      ·rw[aL hs,aL hs]
      ·rw[aG hs,aG hs]
       cases left with
       | zero=>cases it<;>simp only
       | succ left =>
        cases it with
        | dfn p d ps b =>
         simp only;rw[jM.eq_def];dsimp only;rw[hi]
        | use _ _ _ _ _=>simp only
theorem vN{fs:List Fl}{a:An}(h:wN fs f k=.inl a)(n:Nat):jM fs n f k=a:=by rw[Ae,h]
theorem M9{fs:List Fl}{p:Nat × Nat}(h:wN fs f k=.inr p):jM fs 0 f k=(-1,-1,7):=by rw[Ae,h]
theorem CB{fs:List Fl}{p:Nat × Nat}(h:wN fs f k=.inr p)(n:Nat):jM fs (n+1) f k=jM fs n p.1 p.2:=by rw[Ae,h]
def on(fs:List Fl):Nat→Nat × Nat→Option (Nat × Nat)
 | 0,p=>some p
 | n+1,p=>match wN fs p.1 p.2 with|.inl _=>none|.inr q=>on fs n q
theorem Af(fs:List Fl):∀(i j:Nat) (p q:Nat × Nat),on fs i p=some q→on fs (i+j) p=on fs j q
 | 0,j,p,q,h=>by
  cases h
  rw[cu]
 | i+1,j,p,q,h=>by
  rw[show i+1+j=(i+j)+1 by omega];rw[on] at h ⊢;cases hs:wN fs p.1 p.2 with
  | inl a=>rw[hs] at h;cases h
  | inr r =>
   rw[hs] at h;exact Af fs i j r q h
theorem Kt{fs:List Fl}{i:Nat}{p q r:Nat × Nat}(h:on fs i p=some q)(hs:wN fs q.1 q.2=.inr r):on fs (i+1) p=some r:=by
 rw[Af fs i 1 p q h,on,hs];rfl
theorem tq{fs:List Fl}:∀(m:Nat) (p q:Nat × Nat),on fs m p=some q→∀ n,jM fs n p.1 p.2=if n<m then(-1,-1,7) else jM fs (n - m) q.1 q.2
 | 0,p,q,h,n=>by
  cases h
  rw[aG (by omega)];rfl
 | m+1,p,q,h,n=>by
  rw[on] at h;cases hs:wN fs p.1 p.2 with
  | inl a=>rw[hs] at h;cases h
  | inr r =>
   rw[hs] at h;cases n with
   | zero=>rw[aL (by omega),M9 hs]
   | succ n =>
    rw[CB hs,tq m r q h n];by_cases hn:n<m
    ·rw[aL hn,aL (by omega)]
    ·rw[aG hn,aG (by omega),show n+1 - (m+1)=n - m by omega]
def EvA(fs:List Fl)(f k:Nat)(a:An):Prop:=∃ n0,∀ n,n0≤n→jM fs n f k=a
theorem EvA.fin{fs:List Fl}{a:An}(h:wN fs f k=.inl a):EvA fs f k a:=⟨0,fun n _=>vN h n⟩
theorem EvA.step{fs:List Fl}{p:Nat × Nat}{a:An}(h:wN fs f k=.inr p)(he:EvA fs p.1 p.2 a):EvA fs f k a:=by
 obtain⟨n0,h0⟩:=he;refine⟨n0+1,fun n hn=>?_⟩;obtain⟨m,rfl⟩:∃ m,n=m+1:=⟨n - 1,by omega⟩;rw[CB h];exact h0 m (by omega)
theorem Q0{fs:List Fl}{p:Nat × Nat}(h:on fs (j+1) p=some p):∀ n,jM fs n p.1 p.2=(-1,-1,7):=by
 intro n
 induction n using Nat.strongRecOn with
 | _ n ih =>
  rw[tq (j+1) p p h n]
  split
  ·rfl
  ·exact ih _ (by omega)
theorem EvA.ring{fs:List Fl}(h:on fs (j+1) (f,k)=some (f,k)):EvA fs f k (-1,-1,7):=⟨0,fun n _=>Q0 h n⟩
theorem EvA.one{fs:List Fl}{a b:An}(h1:EvA fs f k a)(h2:EvA fs f k b):a=b:=by
 obtain⟨n1,g1⟩:=h1;obtain⟨n2,g2⟩:=h2;rw[← g1 (n1+n2) (by omega),← g2 (n1+n2) (by omega)]
/-! How many uses there are. -/
theorem Gh{α:Type}[DecidableEq α]:∀(l m:List α),l.Pairwise (·≠·)→(∀ x∈l,x∈m)→l.length≤m.length
 | [],m,_,_=>aX _
 | a::l,m,hn,hs=>by
  rw[wL] at hn;have ha:=hs a (by simp);have:=Gh l (m.erase a) hn.2 (fun x hx=>(List.mem_erase_of_ne (fun e=>hn.1 x hx e.symm)).2 (hs x (by simp[hx])));rw[List.length_erase_of_mem ha] at this;have hp:0<m.length:=List.length_pos_of_mem ha;rw[aW];omega
theorem CF{α:Type}(p:α→Bool):∀ l:List α,((List.range l.length).filter (fun k=>(l[k]?).any p)).length=(l.filter p).length
 | []=>rfl
 | a::l=>by
  rw[aW,List.range_succ_eq_map,oh,List.filter_map,oh];have ih:=CF p l;have e:(fun k=>((a::l)[k]?).any p) ∘ Nat.succ=fun k=>(l[k]?).any p:=by
   funext k;simp
  rw[e];cases hp:p a<;>simp[hp,ih]
theorem CG{α:Type}(h:α→Nat)(d:α):∀ l:List α,((List.range l.length).map (fun i=>h (l.getD i d))).sum=(l.map h).sum
 | []=>rfl
 | a::l=>by
  rw[aW,List.range_succ_eq_map,fQ,List.map_map,List.sum_cons,fQ,List.sum_cons,← CG h d l];rfl
def uE:It→Bool
 | .use _ _ _ _ _=>true
 | _=>false
def OL(fs:List Fl):List (Nat × Nat):=(List.range fs.length).flatMap fun f=>((List.range (aM fs f).length).filter (fun k=>((aM fs f)[k]?).any uE)).map fun k=>(f,k)
theorem Q5(fs:List Fl):(OL fs).length=ji fs:=by
 unfold OL ji;rw[List.length_flatMap];have e:(fun f=>(((List.range (aM fs f).length).filter (fun k=>((aM fs f)[k]?).any uE)).map fun k=>(f,k)).length)=fun f=>(fun(x:Fl)=>(x.2.filter uE).length) (fs.getD f ([],[])):=by
  funext f;rw[eG,CF];rfl
 rw[e,CG (fun(x:Fl)=>(x.2.filter uE).length) ([],[]) fs];congr 1
theorem zD{fs:List Fl}{it:It}(h:(aM fs f)[k]?=some it)(hu:uE it=true):(f,k)∈OL fs:=by
 refine kX.2 ⟨f,gD.2 (q8 h),iT.2 ⟨k,List.mem_filter.2 ⟨gD.2 ?_,?_⟩,rfl⟩⟩
 ·rcases bE k (aM fs f).length with g|g
  ·exact g
  ·rw[aO g] at h;cases h
 ·rw[h];exact hu
theorem Vl{fs:List Fl}{p:Nat × Nat}(h:wN fs f k=.inr p):∃ it,(aM fs f)[k]?=some it∧uE it=true:=by
 unfold wN at h;cases hk:(aM fs f)[k]? with
 | none=>rw[hk] at h;cases h
 | some it =>
  rw[hk] at h;cases it with
  | dfn p n ps b=>cases h
  | use p m n gs a=>exact⟨_,rfl,rfl⟩
theorem Q6{fs:List Fl}{p q:Nat × Nat}(h:on fs m p=some q)(i:Nat)(hi:i≤m):∃ r,on fs i p=some r∧on fs (m - i) r=some q:=by
 cases hr:on fs i p with
 | none =>
  exfalso;have key:∀(i:Nat) (p:Nat × Nat) (j:Nat),on fs i p=none→on fs (i+j) p=none:=by
   intro i
   induction i with
   | zero=>intro p j h;cases h
   | succ i ih =>
    intro p j h;rw[show i+1+j=(i+j)+1 by omega];rw[on] at h ⊢;cases hs:wN fs p.1 p.2 with
    | inl a=>rfl
    | inr r=>rw[hs] at h;exact ih r j h
  have:=key i p (m - i) hr;rw[show i+(m - i)=m by omega,h] at this;cases this
 | some r =>
  refine⟨r,rfl,?_⟩;rw[← Af fs i (m - i) p r hr,show i+(m - i)=m by omega];exact h
theorem Q7{fs:List Fl}{p q:Nat × Nat}{a:An}(h:on fs m p=some q)(hq:wN fs q.1 q.2=.inl a):m≤ji fs:=by
 rw[← Q5];have hl:((List.range m).map fun i=>(on fs i p).getD (0,0)).length=m:=by simp
 rw[← hl];refine Gh _ _ ?_ (fun x hx=>?_)
 ·refine List.pairwise_map.2 ?_
  refine(List.pairwise_lt_range (n:=m)).imp_of_mem ?_;intro i j hi hj hij he;have hi':=gD.1 hi;have hj':=gD.1 hj;obtain⟨r,hr,hr2⟩:=Q6 h i (by omega);obtain⟨s,hs,hs2⟩:=Q6 h j (by omega);rw[hr,hs] at he;have he':r=s:=he;subst he';have e1:on fs ((m - j)+(j - i)) r=some q:=by rw[show m - j+(j - i)=m - i by omega];exact hr2
  rw[Af fs (m - j) (j - i) r q hs2] at e1;obtain⟨t,ht⟩:∃ t,j - i=t+1:=⟨j - i - 1,by omega⟩;rw[ht,on,hq] at e1;cases e1
 ·obtain⟨i,hi,rfl⟩:=iT.1 hx
  have hi':=gD.1 hi;obtain⟨r,hr,hr2⟩:=Q6 h i (by omega);rw[hr];show r∈_;obtain⟨t,ht⟩:∃ t,m - i=t+1:=⟨m - i - 1,by omega⟩;rw[ht,on] at hr2;cases hs:wN fs r.1 r.2 with
  | inl a=>rw[hs] at hr2;cases hr2
  | inr r' =>
   obtain⟨it,h1,h2⟩:=Vl hs;exact zD h1 h2
theorem La(fs:List Fl)(p:Nat × Nat):(∃ m q a,on fs m p=some q∧wN fs q.1 q.2=.inl a)∨∀ m,∃ q,on fs m p=some q:=by
 rcases Classical.em (∀ m,∃ q,on fs m p=some q) with h|h
 ·exact .inr h
 ·left
  have ⟨m,hm⟩:=Classical.not_forall.1 h;have hm':on fs m p=none:=by
   cases he:on fs m p with
   | none=>rfl
   | some q=>exact absurd ⟨q,he⟩ hm
  clear hm h
  induction m with
  | zero=>cases hm'
  | succ m ih =>
   cases he:on fs m p with
   | none=>exact ih he
   | some q =>
    refine⟨m,q,?_⟩;rw[Af fs m 1 p q he,on] at hm';cases hs:wN fs q.1 q.2 with
    | inl a=>exact⟨a,he,rfl⟩
    | inr r=>rw[hs] at hm';cases hm'
theorem EvA.uses{fs:List Fl}{a:An}(h:EvA fs f k a):jM fs (ji fs) f k=a:=by
 obtain⟨n0,h0⟩:=h;rcases La fs (f,k) with ⟨m,q,b,h1,h2⟩|h
 ·have hm:=Q7 h1 h2
  have e1:=tq m (f,k) q h1 (ji fs);rw[aG (by omega),vN h2] at e1;have e2:=tq m (f,k) q h1 (n0+ji fs);rw[aG (by omega),vN h2] at e2;have e3:=h0 (n0+ji fs) (by omega);exact e1.trans (e2.symm.trans e3)
 ·obtain⟨q,h1⟩:=h (ji fs+1)
  have e1:=tq _ (f,k) q h1 (ji fs);rw[aL (by omega)] at e1;obtain⟨q2,h2⟩:=h (n0+1);have e2:=tq _ (f,k) q2 h2 n0;rw[aL (by omega)] at e2;exact e1.trans (e2.symm.trans (h0 n0 (aj _)))
end X
end
section
variable{i B:Nat}
namespace X
def Dp(B:Nat)(n:Nm):Prop:=n.1.length≤B∧n.2≤B
mutual
def tX(B:Nat):Ex→Prop
 | .lit _ _=>True
 | .hole _=>True
 | .missing=>True
 | .var n=>Dp B n
 | .iJ n v b=>Dp B n∧tX B v∧tX B b
 | .ite a b c=>tX B a∧tX B b∧tX B c
 | .fn ns b=>(∀ n∈ns,Dp B n)∧tX B b
 | .bin l _ r=>tX B l∧tX B r
 | .call f gs=>tX B f∧gs.length≤B∧w_ B gs
 | .list l=>l.length≤B∧w_ B l
 | .group e=>tX B e
def w_(B:Nat):List Ex→Prop
 | []=>True
 | e::l=>tX B e∧w_ B l
end
def NW(B:Nat):It→Prop
 | .use _ m n _ a=>Dp B m∧Dp B n∧Dp B a
 | .dfn _ n ps b=>Dp B n∧(∀ m∈ps.getD [],Dp B m)∧tX B b
theorem Gi{ps:List Part}{nm:Nm}(h:BD ps i nm)(hB:i+pz ps≤B):Dp B nm:=by
 cases h with
 | name _ x qs _ h =>
  have e:=Jz h;exact⟨by show x.length≤B;omega,by show i+pz qs≤B;omega⟩
 | miss _=>exact⟨aX _,aX _⟩
theorem Xa{ps:List Part}{ns:List Nm}(h:oN ps i ns):∀ {B:Nat},i+pz ps≤B→∀ n∈ns,Dp B n:=by
 induction h with
 | nil i=>intro B _ n hn;cases hn
 | name x ps i ns h ih =>
  intro B hB n hn;rw[fH,iK] at hB;rcases cK.1 hn with rfl|g
  ·exact⟨by show x.length≤B;omega,by show i≤B;omega⟩
  ·exact ih (by omega) n g
 | leaf k x ps i ns hk h ih =>
  intro B hB n hn;rw[fH,iK] at hB;exact ih (by omega) n hn
 | lack ps i ns h ih =>
  intro B hB n hn;rw[fH] at hB;rcases cK.1 hn with rfl|g
  ·exact⟨aX _,aX _⟩
  ·exact ih (by omega) n g
 | miss m ps i ns hm h ih =>
  intro B hB n hn;rw[fH] at hB;exact ih (by omega) n hn
theorem j6:∀ {ps:List Part} {i:Nat} {es:List Ex},lW ps i es→es.length≤dQ ps
 | [],i,es,h=>by cases h;exact aX _
 | q::ps,i,es,h=>by
  rw[dQ];have hq:=gQ q;cases h with
  | leaf k x _ _ _ h=>have:=j6 h;omega
  | miss m _ _ _ hm h=>have:=j6 h;omega
  | cons _ _ _ e es hp h=>have:=j6 h;rw[aW];omega
theorem bD4(B:Nat):∀ n:Nat,n≤B→(∀(p:Part) (i:Nat) (e:Ex),iM p≤n→Rd p i e→i+pz [p]≤B→tX B e)∧(∀(ps:List Part) (i:Nat) (es:List Ex),dQ ps≤n→lW ps i es→i+pz ps≤B→w_ B es):=by
 intro n
 induction n with
 | zero =>
  intro _;refine⟨fun p i e h=>?_,fun ps i es h hr _=>?_⟩
  ·have:=gQ p;omega
  ·cases ps with
   | nil=>cases hr;rw[w_];trivial
   | cons p ps=>rw[dQ] at h;have:=gQ p;omega
 | succ n ih0 =>
  intro Dq;have ih:=ih0 (by omega);have hE:∀(p:Part) (i:Nat) (e:Ex),iM p≤n+1→Rd p i e→i+pz [p]≤B→tX B e:=by
   intro p i e hn hr hB;cases hr with
   | missing _=>rw[tX];trivial
   | lit k t x ps qs _ hk h=>rw[tX];trivial
   | hole t x ps qs _ h=>rw[tX];trivial
   | var x ps qs _ h =>
    rw[tX];rw[eU,Jz h] at hB;exact⟨by show x.length≤B;omega,by show i+pz qs≤B;omega⟩
   | iJ t1 n1 t2 t3 p1 p2 _ nm e1 e2 h1 hn1 h2 hv h3 hb =>
    rw[iM,aR,aR,aR,aR,aR,dH,dH] at hn;rw[eU,aY,aY,aY,aY,aY] at hB;rw[tX];exact⟨Gi hn1 (by omega),ih.1 p1 _ e1 (by omega) hv (by omega),ih.1 p2 _ e2 (by omega) hb (by omega)⟩
   | ite ps _ a b c h =>
    rw[iM] at hn;rw[eU] at hB;rw[tX];have:=ih.2 ps i [a,b,c] (by omega) h hB;rw[w_,w_,w_] at this;exact⟨this.1,this.2.1,this.2.2.1⟩
   | fn t1 qs t2 p _ ns e h1 hns h2 hb =>
    rw[iM,aR,aR,aR,dH,dH] at hn;rw[eU,aY,aY,aY,eU] at hB;rw[tX];exact⟨Xa hns (by omega),ih.1 p _ e (by omega) hb (by omega)⟩
   | bin p1 p2 t qs k x _ e1 e2 hl h hr2 =>
    rw[iM,aR,aR,dH,dH] at hn;rw[eU,aY,aY] at hB;rw[tX];exact⟨ih.1 p1 _ e1 (by omega) hl (by omega),ih.1 p2 _ e2 (by omega) hr2 (by omega)⟩
   | call p gs _ e es hc ha =>
    rw[iM,aR,dH,dH,iM] at hn;rw[eU,aY,eU] at hB;rw[tX];have:=j6 ha;exact⟨ih.1 p _ e (by omega) hc (by omega),by omega,ih.2 gs _ es (by omega) ha (by omega)⟩
   | list ps _ es h =>
    rw[iM] at hn;rw[eU] at hB;rw[tX];have:=j6 h;exact⟨by omega,ih.2 ps i es (by omega) h hB⟩
   | group ps _ e h =>
    rw[iM] at hn;rw[eU] at hB;rw[tX];have:=ih.2 ps i [e] (by omega) h hB;rw[w_] at this;exact this.1
  refine⟨hE,fun ps i es hn hr hB=>?_⟩
  induction ps generalizing i es with
  | nil=>cases hr;rw[w_];trivial
  | cons q ps IX =>
   rw[dQ] at hn;rw[fH] at hB;have hq:=gQ q;cases hr with
   | leaf k x _ _ _ h =>
    rw[iK] at hB;exact IX (i+x.length) es (by omega) h (by omega)
   | miss m _ _ _ hm h =>
    exact IX i es (by omega) h (by omega)
   | cons _ _ _ e es hp h =>
    rw[w_];exact⟨hE q i e (by omega) hp (by omega),IX (i+pz [q]) es (by omega) h (by omega)⟩
theorem aN3{p:Part}{it:It}(h:Jr p i it)(hB:i+pz [p]≤B)(hz:iM p≤B):NW B it:=by
 cases h with
 | use pb t1 n1 t2 n2 ap t3 _ pub gs m n a hp h1 hm h2 hn ha h3 =>
  rw[eU,aY,aY,aY,aY,aY,aY] at hB;refine⟨Gi hm (by omega),Gi hn (by omega),?_⟩;cases ha with
  | yes t n k qs _ nm h hn' =>
   rw[aY] at hB;exact Gi hn' (by omega)
  | no _=>exact⟨aX _,aX _⟩
 | dfn pb t1 n1 pr t2 p t3 _ pub n ps e hp h1 hn hr h2 he h3 =>
  rw[eU,aY,aY,aY,aY,aY,aY] at hB;rw[iM,aR,aR,aR,aR,aR,aR,dH] at hz;refine⟨Gi hn (by omega),?_,(bD4 B (iM p) (by omega)).1 p _ e (aj _) he (by omega)⟩;cases hr with
  | yes qs _ ns h =>
   rw[eU] at hB;exact Xa h (by omega)
  | no _=>intro m hm;cases hm
theorem aI4{ps:List Part}{its:List It}(h:sI ps i its):i+pz ps≤B→dQ ps≤B→∀ it∈its,NW B it:=by
 induction h with
 | leaves ps i h=>intro _ _ it hit;cases hit
 | junk qs ps i its hq h ih =>
  intro hB hz it hit;rw[fH] at hB;rw[dQ] at hz;exact ih (by omega) (by omega) it hit
 | item p ps i it its hp h ih =>
  intro hB hz it' hit;rw[fH] at hB;rw[dQ] at hz;rcases cK.1 hit with rfl|g
  ·exact aN3 hp (by omega) (by omega)
  ·exact ih (by omega) (by omega) it' g
end X
end
section
variable{p fu:Nat}
namespace E
open X (Ex Nm)
def om(l:List Nm)(a:Int):Option Nat:=l.findIdx? (fun n=>(n.2:Int)==a)
def mM:List (List Nm)→Int→Option (Nat × Nat)
 | [],_=>none
 | b::bs,a=>match om b a with
  | some i=>some (0,i)
  | none=>(mM bs a).map (fun p=>(p.1+1,p.2))
theorem zT:∀ {ns:List (List Nm)} {a:Int} {u i:Nat},mM ns a=some (u,i)→∃ b,ns[u]?=some b∧i<b.length
 | [],a,u,i,h=>by cases h
 | b::bs,a,u,i,h=>by
  unfold mM at h
  split at h
  ·next j hj =>
   cases h
   unfold om at hj;exact⟨b,rfl,(List.findIdx?_eq_some_iff_findIdx_eq.1 hj).1⟩
  ·obtain⟨⟨u',i'⟩,h1,h2⟩:=gI.1 h
   cases h2
   obtain⟨b',h3,h4⟩:=zT h1;exact⟨b',by rw[List.getElem?_cons_succ];exact h3,h4⟩
structure Kn where
 sd:Int × Int→Option (Int × Int)
 dk:Int × Int→Option Bool
 nu:ah→Int
 un:ah→ah
variable(k:Kn)(f:Nat)
def rq(d:Nat)(x:ah):St:=if d=15 then .int (k.nu x) else if d=16 then .txt (k.un x) else .mH (x==[116,114,117,101])
def sM(ns:List (List Nm))(n:Nm):St:=match k.sd (f,n.2) with
 | none=>.stk
 | some tp=>match k.dk tp with
  | some true=>.Ih tp
  | some false=>.vis tp
  | none=>match mM ns tp.2 with
   | some p=>.loc p.1 p.2
   | none=>.loc 0 0
mutual
def comp:List (List Nm)→Nat→Ex→List St
 | _,_,.lit d x=>[rq k d x]
 | _,_,.hole _=>[.stk]
 | _,_,.missing=>[.stk]
 | ns,_,.var n=>[sM k f ns n]
 | ns,o,.iJ n v b=>comp ns o v++([.bnd]++(comp ([n]::ns) (o+(comp ns o v).length+1) b++[.DT]))
 | ns,o,.ite a b c =>
  comp ns o a++([.wQ (o+(comp ns o a).length+1+(comp ns (o+(comp ns o a).length+1) b).length+1)]++(comp ns (o+(comp ns o a).length+1) b++([.Bh (o+(comp ns o a).length+1+(comp ns (o+(comp ns o a).length+1) b).length+1+(comp ns (o+(comp ns o a).length+1+(comp ns (o+(comp ns o a).length+1) b).length+1) c).length)] ++
   comp ns (o+(comp ns o a).length+1+(comp ns (o+(comp ns o a).length+1) b).length+1) c)))
 | ns,_,.fn ps b=>[.enc ps.length (comp (ps::ns) 0 b)]
 | ns,o,.bin l x r=>comp ns o l++(comp ns (o+(comp ns o l).length) r++[.DL x])
 | ns,o,.call g l=>comp ns o g++(comps ns (o+(comp ns o g).length) l++[.DR l.length])
 | ns,o,.list l=>comps ns o l++[.EK l.length]
 | ns,o,.group e=>comp ns o e
def comps:List (List Nm)→Nat→List Ex→List St
 | _,_,[]=>[]
 | ns,o,e::l=>comp ns o e++comps ns (o+(comp ns o e).length) l
end
mutual
def rQ:List (List Nm)→Ex→Prop
 | _,.lit _ _=>True
 | _,.hole _=>True
 | _,.missing=>True
 | ns,.var n=>∀ tp,k.sd (f,n.2)=some tp→k.dk tp=none→(mM ns tp.2).isSome=true
 | ns,.iJ n v b=>rQ ns v∧rQ ([n]::ns) b
 | ns,.ite a b c=>rQ ns a∧rQ ns b∧rQ ns c
 | ns,.fn ps b=>(comp k f (ps::ns) 0 b).length≤1073741819∧rQ (ps::ns) b
 | ns,.bin l _ r=>rQ ns l∧rQ ns r
 | ns,.call g l=>rQ ns g∧Fz ns l
 | ns,.list l=>Fz ns l
 | ns,.group e=>rQ ns e
def Fz:List (List Nm)→List Ex→Prop
 | _,[]=>True
 | ns,e::l=>rQ ns e∧Fz ns l
end
theorem jT:∀(e:Ex) (ns:List (List Nm)) (o:Nat),1≤(comp k f ns o e).length
 | .lit _ _,_,_=>by rw[comp];exact aj _
 | .hole _,_,_=>by rw[comp];exact aj _
 | .missing,_,_=>by rw[comp];exact aj _
 | .var _,_,_=>by rw[comp];exact aj _
 | .iJ _ _ _,_,_=>by rw[comp];simp;omega
 | .ite _ _ _,_,_=>by rw[comp];simp;omega
 | .fn _ _,_,_=>by rw[comp];exact aj _
 | .bin _ _ _,_,_=>by rw[comp];simp;omega
 | .call _ _,_,_=>by rw[comp];simp;omega
 | .list _,_,_=>by rw[comp];simp
 | .group e,ns,o=>by rw[comp];exact jT e ns o
def Eok(env:List (List V))(ns:List (List Nm)):Prop:=env.map List.length=ns.map List.length
theorem Eok.get{env:List (List V)}{ns:List (List Nm)}(h:Eok env ns){u i:Nat}{b:List Nm}(hb:ns[u]?=some b)(hi:i<b.length):∃ b' v,env[u]?=some b'∧b'[i]?=some v:=by
 have h1:(env.map List.length)[u]?=(ns.map List.length)[u]?:=by rw[h]
 rw[mQ,mQ,hb] at h1;cases he:env[u]? with
 | none=>rw[he] at h1;cases h1
 | some b' =>
  rw[he] at h1;have h2:b'.length=b.length:=bK h1;exact⟨b',b'[i],rfl,aC (by omega)⟩
inductive KO(k:Kn):V→Prop
 | int (n:Int):KO k (.int n)
 | mH (b:Bool):KO k (.mH b)
 | txt (x:ah):KO k (.txt x)
 | list (l:List V) (h:∀ v∈l,KO k v):KO k (.list l)
 | fnd (p:Int × Int) (h:k.dk p=some true):KO k (.fn (.d p) [])
 | Ih (f:Nat) (ps:List Nm) (ns:List (List Nm)) (e:Ex) (env:List (List V)) (hz:(comp k f (ps::ns) 0 e).length≤1073741819) (hv:rQ k f (ps::ns) e) (he:Eok env ns) (hx:∀ b∈env,∀ v∈b,KO k v):KO k (.fn (.c ps.length (comp k f (ps::ns) 0 e)) env)
structure Dok(D:Int × Int→Nat × List St):Prop where
 no:∀ p,k.dk p=some false→∃ f e,D p=(0,comp k f [] 0 e)∧rQ k f [] e
 yes:∀ p,k.dk p=some true→∃ f ps e,D p=(ps.length,comp k f [ps] 0 e)∧rQ k f [ps] e
section
variable{k:Kn}{f:Nat}{D:Int × Int→Nat × List St}
inductive To(D:Int × Int→Nat × List St):Ms→Ms→Prop
 | refl (m:Ms):To D m m
 | head (m m1 m2:Ms) (h:it D m=.on m1) (t:To D m1 m2):To D m m2
theorem To.trans{a b c:Ms}(h:To D a b)(h':To D b c):To D a c:=by
 induction h with
 | refl m=>exact h'
 | head m m1 m2 h _ ih=>exact .head _ _ _ h (ih h')
theorem To.one{a b:Ms}(h:it D a=.on b):To D a b:=.head _ _ _ h (.refl _)
theorem To.fin{a b:Ms}(h:To D a b){r:Except Nat V}{n:Nat}(e:End D b r n):∃ n',End D a r n':=by
 induction h with
 | refl m=>exact⟨n,e⟩
 | head m m1 m2 h _ ih=>obtain⟨n',h'⟩:=ih e;exact⟨n'+1,.on _ _ _ _ h h'⟩
def Rz(D:Int × Int→Nat × List St)(m:Ms)(P:Ms→Prop):Prop:=(∃ e j,End D m (.error e) j)∨∃ m',To D m m'∧P m'
theorem Rz.bind{m:Ms}{P Q:Ms→Prop}(h:Rz D m P)(h2:∀ m',P m'→Rz D m' Q):Rz D m Q:=by
 rcases h with h|⟨m',h1,h3⟩
 ·exact .inl h
 ·rcases h2 m' h3 with ⟨e,j,g⟩|⟨m2,g1,g2⟩
  ·obtain⟨n',g'⟩:=h1.fin g
   exact .inl ⟨e,n',g'⟩
  ·exact .inr ⟨m2,h1.trans g1,g2⟩
theorem Rz.done{m:Ms}{P:Ms→Prop}(h:P m):Rz D m P:=.inr ⟨m,.refl m,h⟩
theorem Rz.step{m m1:Ms}{P:Ms→Prop}(h:it D m=.on m1)(h2:Rz D m1 P):Rz D m P:=Rz.bind (P:=fun x=>x=m1) (.inr ⟨m1,.one h,rfl⟩) (fun _ e=>e ▸ h2)
theorem Rz.err{m:Ms}{e:Nat}{P:Ms→Prop}(h:it D m=.err e):Rz D m P:=.inl ⟨e,0,.err m e h⟩
def Pu(k:Kn)(c:List St)(q:Nat)(env:List (List V))(vs:List V)(bk:List Fr)(fu n:Nat)(m:Ms):Prop:=∃ xs TJ,xs.length=n∧TJ≤fu∧(∀ x∈xs,KO k x)∧m=⟨⟨c,q,env,vs++xs⟩,bk,TJ⟩
theorem mid{c l:List St}{s:St}{r:List St}(h:c=l++s::r)(hp:l.length=p):c[p]?=some s:=by subst h hp;rw[aQ (aj _)];simp
theorem mO{c:List St}{env:List (List V)}{vs:List V}{bk:List Fr}{s:St}(h:c[p]?=some s):it D ⟨⟨c,p,env,vs⟩,bk,fu⟩=act D ⟨⟨c,p+1,env,vs⟩,bk,fu⟩ s:=by
 unfold it;rw[show(⟨⟨c,p,env,vs⟩,bk,fu⟩:Ms).fr.c[(⟨⟨c,p,env,vs⟩,bk,fu⟩:Ms).fr.nx]?=some s from h]
theorem UA{c:List St}{env:List (List V)}{vs:List V}{bk:List Fr}(v:V)(h:vs.length<1073741820):push ⟨⟨c,p,env,vs⟩,bk,fu⟩ v=.on ⟨⟨c,p,env,vs++[v]⟩,bk,fu⟩:=aL h
mutual
theorem KP:∀(a b:V) (f:Nat),(same a b f).2≤f
 | .int a,b,f=>by cases b<;>exact aj _
 | .mH a,b,f=>by cases b<;>exact aj _
 | .txt a,b,f=>by cases b<;>exact aj _
 | .fn a e,b,f=>by cases b<;>exact aj _
 | .list a,b,f=>by
  cases b with
  | list b =>
   simp only[same]
   split
   ·exact FB a b f
   ·exact aj _
  | _=>exact aj _
theorem FB:∀(a b:List V) (f:Nat),(kR a b f).2≤f
 | [],b,f=>by simp only[kR];exact aj _
 | a::l,[],f=>by simp only[kR];exact aj _
 | a::l,b::r,f=>by
  simp only[kR]
  split
  ·exact aX _
  ·have h1:=KP a b (f - 1)
   split
   ·next f' hs =>
    rw[hs] at h1;have h2:=FB l r f';have h3:f'≤f - 1:=h1;omega
   ·exact bS h1 (by omega)
end
theorem UB{x:ah}{l r:V}{f f':Nat}{v:V}(h:comb x l r f=(.ok v,f')):f'≤f∧KO k v:=by
 unfold comb at h
 split at h
 ·split at h
  ·next b f1 hs =>
   have:=KP l r f;rw[hs] at this;cases h
   exact⟨this,.mH _⟩
  ·cases h
 ·split at h
  ·split at h
   ·split at h
    ·cases h
    ·cases h;exact⟨aj _,.txt _⟩
   ·cases h
  ·split at h
   ·split at h
    ·cases h;exact⟨aj _,.mH _⟩
    ·split at h
     ·cases h;exact⟨aj _,.int _⟩
     ·cases h
   ·cases h
def Ce(k:Kn)(D:Int × Int→Nat × List St)(F:Nat)(e:Ex):Prop :=
 ∀(fu f:Nat) (ns:List (List Nm)) (c pre post:List St) (p:Nat) (env:List (List V)) (vs:List V) (bk:List Fr),fu≤F→c=pre++(comp k f ns p e++post)→pre.length=p→rQ k f ns e→Eok env ns→(∀ b∈env,∀ v∈b,KO k v)→vs.length≤p→c.length≤1073741819→bk.length+fu≤1073741819 →
  Rz D ⟨⟨c,p,env,vs⟩,bk,fu⟩ (Pu k c (p+(comp k f ns p e).length) env vs bk fu 1)
def Cs(k:Kn)(D:Int × Int→Nat × List St)(F:Nat)(l:List Ex):Prop :=
 ∀(fu f:Nat) (ns:List (List Nm)) (c pre post:List St) (p:Nat) (env:List (List V)) (vs:List V) (bk:List Fr),fu≤F→c=pre++(comps k f ns p l++post)→pre.length=p→Fz k f ns l→Eok env ns→(∀ b∈env,∀ v∈b,KO k v)→vs.length≤p→c.length≤1073741819→bk.length+fu≤1073741819 →
  Rz D ⟨⟨c,p,env,vs⟩,bk,fu⟩ (Pu k c (p+(comps k f ns p l).length) env vs bk fu l.length)
end
end E
end
section
variable{n q fu:Nat}
namespace E
open X (Ex Nm)
variable{k:Kn}{D:Int × Int→Nat × List St}
theorem sN{xs:List V}(h:xs.length=1):∃ v,xs=[v]:=by
 match xs,h with
 | [v],_=>exact⟨v,rfl⟩
theorem ru(vs:List V)(v:V):(vs++[v])[(vs++[v]).length - 1]?=some v:=by simp
theorem yT(vs xs:List V)(h:xs.length=n):(vs++xs).take ((vs++xs).length - n)=vs:=by rw[ak,show vs.length+xs.length - n=vs.length by omega];simp
theorem DU(vs xs:List V)(h:xs.length=n):(vs++xs).drop ((vs++xs).length - n)=xs:=by rw[ak,show vs.length+xs.length - n=vs.length by omega];simp
theorem oC{c:List St}{env:List (List V)}{vs:List V}{bk:List Fr}{TJ:Nat}{m:Ms}{v:V}(h:it D m=push ⟨⟨c,q,env,vs⟩,bk,TJ⟩ v)(hv:KO k v)(hl:vs.length<1073741820)(hf:TJ≤fu):Rz D m (Pu k c q env vs bk fu 1) :=
 Rz.step (h.trans (UA v hl)) (.done ⟨[v],TJ,rfl,hf,fun x hx=>by rw[dR.1 hx];exact hv,rfl⟩)
theorem vz{F:Nat}(IH:∀ F',F'<F→∀ e,Ce k D F' e){c:List St}{env env':List (List V)}{vs:List V}{bk:List Fr}{Bj f:Nat}{m:Ms}{b:Bo}{ns:List (List Nm)}{e:Ex}(h:it D m=enter D ⟨⟨c,q,env,vs⟩,bk,Bj⟩ b env')
  (hb:(g_ D b).2=comp k f ns 0 e) (hz:(g_ D b).2.length≤1073741819) (hv:rQ k f ns e) (he:Eok env' ns) (hx:∀ b∈env',∀ v∈b,KO k v) (h1:Bj≤fu) (h2:fu≤F) (hbk:bk.length+fu≤1073741819) (hl:vs.length<1073741820):Rz D m (Pu k c q env vs bk fu 1):=by
 by_cases h0:Bj=0
 ·exact Rz.err (e:=11) (h.trans ((aL ⟨by show bk.length<_;omega,hz⟩).trans (aL h0)))
 ·have h3:it D m=.on ⟨⟨(g_ D b).2,0,env',[]⟩,bk++[⟨c,q,env,vs⟩],Bj - 1⟩:=by
   rw[h];unfold enter;rw[aL ⟨by show bk.length<_;omega,hz⟩,aG h0]
  refine Rz.step h3 ?_;rw[hb] at hz ⊢;refine(IH (Bj - 1) (by omega) e (Bj - 1) f ns (comp k f ns 0 e) [] [] 0 env' [] (bk++[⟨c,q,env,vs⟩]) (Nat.le_refl _) (by simp) rfl hv he hx (Nat.le_refl _) hz (by rw[List.length_append];show bk.length+1+_≤_;omega)).bind ?_;rintro _ ⟨xs,Ch,g1,g2,g3,rfl⟩;obtain⟨v,rfl⟩:=sN g1;refine oC (v:=v) (TJ:=Ch) ?_ (g3 v (List.mem_singleton.2 rfl)) hl (by omega);unfold it;dsimp only;rw[List.getElem?_eq_none (by omega)];dsimp only;rw[ru [] v];dsimp only;rw[List.getLast?_append,List.getLast?_singleton];simp
mutual
theorem o_(hD:Dok k D)(hz:∀ p,(D p).2.length≤1073741819){F:Nat}(IH:∀ F',F'<F→∀ e,Ce k D F' e):∀ e,Ce k D F e
 | .lit d x=>by
  intro fu f ns c pre post p env vs bk hfu hc hp hv he hx hl hcl hbk;have hs:c[p]?=some (rq k d x):=mid (by rw[hc,comp];rfl) hp;have hcl':c.length=p+(1+post.length):=by rw[hc,comp,← hp];simp;omega
  have hvs:vs.length<1073741820:=by omega
  rw[comp];show Rz _ _ (Pu k c (p+1) env vs bk fu 1);unfold rq at hs
  split at hs
  ·exact oC (mO hs) (.int _) hvs (aj _)
  ·split at hs
   ·exact oC (mO hs) (.txt _) hvs (aj _)
   ·exact oC (mO hs) (.mH _) hvs (aj _)
 | .hole i=>by
  intro fu f ns c pre post p env vs bk hfu hc hp hv he hx hl hcl hbk;have hs:c[p]?=some .stk:=mid (by rw[hc,comp];rfl) hp;exact Rz.err (mO hs)
 | .missing=>by
  intro fu f ns c pre post p env vs bk hfu hc hp hv he hx hl hcl hbk;have hs:c[p]?=some .stk:=mid (by rw[hc,comp];rfl) hp;exact Rz.err (mO hs)
 | .var n=>by
  intro fu f ns c pre post p env vs bk hfu hc hp hv he hx hl hcl hbk;have hs:c[p]?=some (sM k f ns n):=mid (by rw[hc,comp];rfl) hp;have hcl':c.length=p+(1+post.length):=by rw[hc,comp,← hp];simp;omega
  have hvs:vs.length<1073741820:=by omega
  rw[rQ] at hv;rw[comp];show Rz _ _ (Pu k c (p+1) env vs bk fu 1);unfold sM at hs
  split at hs
  ·exact Rz.err (mO hs)
  ·next tp htp =>
   split at hs
   ·next hk=>exact oC (mO hs) (.fnd tp hk) hvs (aj _)
   ·next hk =>
    obtain⟨f',e,h1,h2⟩:=hD.no tp hk;exact vz IH (f:=f') (ns:=[]) (e:=e) (mO hs) (by show(D tp).2=_;rw[h1]) (hz tp) h2 rfl (fun b hb=>by cases hb) (aj _) hfu hbk hvs
   ·next hk =>
    have h1:=hv tp htp hk
    split at hs
    ·next q hq =>
     obtain⟨b,h2,h3⟩:=zT (u:=q.1) (i:=q.2) hq;obtain⟨b',v,h4,h5⟩:=he.get h2 h3;refine oC (v:=v) (TJ:=fu) ((mO hs).trans ?_) (hx b' (List.mem_of_getElem? h4) v (List.mem_of_getElem? h5)) hvs (Nat.le_refl _);show act D _ (.loc q.1 q.2)=_;simp only[act];rw[h4];dsimp only;rw[h5]
    ·next hq=>rw[hq] at h1;cases h1
 | .iJ n v b=>by
  intro fu f ns c pre post p env vs bk hfu hc hp hv he hx hl hcl hbk;rw[rQ] at hv;rw[comp] at hc ⊢;generalize hA:comp k f ns p v=A at hc ⊢;generalize hB:comp k f ([n]::ns) (p+A.length+1) b=B at hc ⊢;have hcl':c.length=p+(A.length+(1+(B.length+1)))+post.length:=by rw[hc,← hp];simp;omega
  have h1:=o_ hD hz IH v fu f ns c pre ([.bnd]++(B++[.DT])++post) p env vs bk hfu (by rw[hc,hA];simp) hp hv.1 he hx hl hcl hbk;rw[hA] at h1;refine h1.bind ?_;rintro _ ⟨xs,Bj,g1,g2,g3,rfl⟩;obtain⟨u,rfl⟩:=sN g1;have s1:c[p+A.length]?=some .bnd:=mid (l:=pre++A) (r:=B++[.DT]++post) (by rw[hc];simp) (by simp[hp]<;>omega);have e1:it D ⟨⟨c,p+A.length,env,vs++[u]⟩,bk,Bj⟩=.on ⟨⟨c,p+A.length+1,[u]::env,vs⟩,bk,Bj⟩:=by
   rw[mO s1];simp only[act];rw[aG (by simp),yT vs [u] (n:=1) rfl,DU vs [u] (n:=1) rfl]
  refine Rz.step e1 ?_;have h2:=o_ hD hz IH b Bj f ([n]::ns) c (pre++A++[.bnd]) ([.DT]++post) (p+A.length+1) ([u]::env) vs bk (by omega) (by rw[hc,hB];simp) (by simp[hp]<;>omega) hv.2 (by show [u].length::_=_;rw[he];rfl) (fun b' hb'=>by
   rcases cK.1 hb' with rfl|hb'
   ·exact g3
   ·exact hx b' hb') (by omega) hcl (by omega)
  rw[hB] at h2;refine h2.bind ?_;rintro _ ⟨ys,Ch,g4,g5,g6,rfl⟩;have s2:c[p+A.length+1+B.length]?=some .DT:=mid (l:=pre++A++[.bnd]++B) (r:=post) (by rw[hc];simp) (by simp[hp]<;>omega);refine Rz.step (mO s2) (.done ⟨ys,Ch,g4,by omega,g6,?_⟩);show(⟨⟨c,p+A.length+1+B.length+1,env,vs++ys⟩,bk,Ch⟩:Ms)=_;congr 2;simp;omega
 | .ite a b d=>by
  intro fu f ns c pre post p env vs bk hfu hc hp hv he hx hl hcl hbk;rw[rQ] at hv;rw[comp] at hc ⊢;generalize hA:comp k f ns p a=A at hc ⊢;generalize hB:comp k f ns (p+A.length+1) b=B at hc ⊢;generalize hC:comp k f ns (p+A.length+1+B.length+1) d=C at hc ⊢;have hcl':c.length=p+(A.length+(1+(B.length+(1+C.length))))+post.length:=by rw[hc,← hp];simp;omega
  have h1:=o_ hD hz IH a fu f ns c pre ([.wQ (p+A.length+1+B.length+1)]++(B++([.Bh (p+A.length+1+B.length+1+C.length)]++C))++post) p env vs bk hfu (by rw[hc,hA];simp) hp hv.1 he hx hl hcl hbk;rw[hA] at h1;refine h1.bind ?_;rintro _ ⟨xs,Bj,g1,g2,g3,rfl⟩;obtain⟨u,rfl⟩:=sN g1;have s1:c[p+A.length]?=some (.wQ (p+A.length+1+B.length+1)):=mid (l:=pre++A) (r:=B++([.Bh (p+A.length+1+B.length+1+C.length)]++C)++post) (by rw[hc];simp) (by simp[hp]<;>omega);have hq:p+(A++([St.wQ (p+A.length+1+B.length+1)]++(B++([St.Bh (p+A.length+1+B.length+1+C.length)]++C)))).length=p+A.length+1+B.length+1+C.length:=by simp;omega
  rw[hq];have hlast:=ru vs u;have e0:it D ⟨⟨c,p+A.length,env,vs++[u]⟩,bk,Bj⟩=match u with
    | .mH t=>.on ⟨⟨c,if t then p+A.length+1 else p+A.length+1+B.length+1,env,vs⟩,bk,Bj⟩
    | _=>.err 10:=by
   rw[mO s1];simp only[act];rw[hlast];cases u<;>simp only[yT vs _ (show [_].length=1 from rfl)]
  cases u with
  | mH t =>
   cases t with
   | true =>
    refine Rz.step e0 ?_;have h2:=o_ hD hz IH b Bj f ns c (pre++A++[.wQ (p+A.length+1+B.length+1)]) ([.Bh (p+A.length+1+B.length+1+C.length)]++C++post) (p+A.length+1) env vs bk (by omega) (by rw[hc,hB];simp) (by simp[hp]<;>omega) hv.2.1 he hx (by omega) hcl (by omega);rw[hB] at h2;refine h2.bind ?_;rintro _ ⟨ys,Ch,g4,g5,g6,rfl⟩;have s2:c[p+A.length+1+B.length]?=some (.Bh (p+A.length+1+B.length+1+C.length)):=mid (l:=pre++A++[.wQ (p+A.length+1+B.length+1)]++B) (r:=C++post) (by rw[hc];simp) (by simp[hp]<;>omega);exact Rz.step (mO s2) (.done ⟨ys,Ch,g4,by omega,g6,rfl⟩)
   | false =>
    refine Rz.step e0 ?_;have h2:=o_ hD hz IH d Bj f ns c (pre++A++[.wQ (p+A.length+1+B.length+1)]++B++[.Bh (p+A.length+1+B.length+1+C.length)]) post (p+A.length+1+B.length+1) env vs bk (by omega) (by rw[hc,hC];simp) (by simp[hp]<;>omega) hv.2.2 he hx (by omega) hcl (by omega);rw[hC] at h2;refine h2.bind ?_;rintro _ ⟨ys,Ch,g4,g5,g6,rfl⟩;exact .done ⟨ys,Ch,g4,by omega,g6,rfl⟩
  | int n=>exact Rz.err e0
  | txt n=>exact Rz.err e0
  | list n=>exact Rz.err e0
  | fn b n=>exact Rz.err e0
 | .fn ps b=>by
  intro fu f ns c pre post p env vs bk hfu hc hp hv he hx hl hcl hbk;have hs:c[p]?=some (.enc ps.length (comp k f (ps::ns) 0 b)):=mid (by rw[hc,comp];rfl) hp;have hcl':c.length=p+(1+post.length):=by rw[hc,comp,← hp];simp;omega
  rw[rQ] at hv;rw[comp];show Rz _ _ (Pu k c (p+1) env vs bk fu 1);exact oC (mO hs) (.Ih f ps ns b env hv.1 hv.2 he hx) (by omega) (aj _)
 | .bin l x r=>by
  intro fu f ns c pre post p env vs bk hfu hc hp hv he hx hl hcl hbk;rw[rQ] at hv;rw[comp] at hc ⊢;generalize hA:comp k f ns p l=A at hc ⊢;generalize hB:comp k f ns (p+A.length) r=B at hc ⊢;have hcl':c.length=p+(A.length+(B.length+1))+post.length:=by rw[hc,← hp];simp;omega
  have h1:=o_ hD hz IH l fu f ns c pre (B++[.DL x]++post) p env vs bk hfu (by rw[hc,hA];simp) hp hv.1 he hx hl hcl hbk;rw[hA] at h1;have hAl:1≤A.length:=by rw[← hA];exact jT k f l ns p
  refine h1.bind ?_;rintro _ ⟨xs,Bj,g1,g2,g3,rfl⟩;obtain⟨u,rfl⟩:=sN g1;have h2:=o_ hD hz IH r Bj f ns c (pre++A) ([.DL x]++post) (p+A.length) env (vs++[u]) bk (by omega) (by rw[hc,hB];simp) (by simp[hp]<;>omega) hv.2 he hx (by simp;omega) hcl (by omega);rw[hB] at h2;refine h2.bind ?_;rintro _ ⟨ys,Ch,g4,g5,g6,rfl⟩;obtain⟨t,rfl⟩:=sN g4;have s2:c[p+A.length+B.length]?=some (.DL x):=mid (l:=pre++A++B) (r:=post) (by rw[hc];simp) (by simp[hp]<;>omega);have hq:p+(A++(B++[St.DL x])).length=p+A.length+B.length+1:=by simp;omega
  rw[hq];have e0:it D ⟨⟨c,p+A.length+B.length,env,vs++[u]++[t]⟩,bk,Ch⟩=match comb x u t Ch with
    | (.ok v,f)=>push ⟨⟨c,p+A.length+B.length+1,env,vs⟩,bk,f⟩ v
    | (.error e,_)=>.err e:=by
   rw[mO s2];simp only[act];have t1:(vs++[u]++[t])[(vs++[u]++[t]).length - 2]?=some u:=by simp
   have t2:(vs++[u]++[t])[(vs++[u]++[t]).length - 1]?=some t:=by simp
   rw[t1,t2];dsimp only;rw[if_neg (by simp)];have t3:(vs++[u]++[t]).take ((vs++[u]++[t]).length - 2)=vs:=by rw[List.append_assoc];exact yT vs ([u]++[t]) rfl
   rw[t3];rcases comb x u t Ch with ⟨_|_,_⟩<;>rfl
  cases hcb:comb x u t Ch with
  | mk y f3 =>
   rw[hcb] at e0;cases y with
   | error e=>exact Rz.err e0
   | ok v =>
    obtain⟨q1,q2⟩:=UB (k:=k) hcb;exact oC e0 q2 (by omega) (by omega)
 | .call g l=>by
  intro fu f ns c pre post p env vs bk hfu hc hp hv he hx hl hcl hbk;rw[rQ] at hv;rw[comp] at hc ⊢;generalize hA:comp k f ns p g=A at hc ⊢;generalize hB:comps k f ns (p+A.length) l=B at hc ⊢;have hcl':c.length=p+(A.length+(B.length+1))+post.length:=by rw[hc,← hp];simp;omega
  have h1:=o_ hD hz IH g fu f ns c pre (B++[.DR l.length]++post) p env vs bk hfu (by rw[hc,hA];simp) hp hv.1 he hx hl hcl hbk;rw[hA] at h1;have hAl:1≤A.length:=by rw[← hA];exact jT k f g ns p
  refine h1.bind ?_;rintro _ ⟨xs,Bj,g1,g2,g3,rfl⟩;obtain⟨u,rfl⟩:=sN g1;have h2:=IW hD hz IH l Bj f ns c (pre++A) ([.DR l.length]++post) (p+A.length) env (vs++[u]) bk (by omega) (by rw[hc,hB];simp) (by simp[hp]<;>omega) hv.2 he hx (by simp;omega) hcl (by omega);rw[hB] at h2;refine h2.bind ?_;rintro _ ⟨ys,Ch,g4,g5,g6,rfl⟩;have s2:c[p+A.length+B.length]?=some (.DR l.length):=mid (l:=pre++A++B) (r:=post) (by rw[hc];simp) (by simp[hp]<;>omega);have hq:p+(A++(B++[St.DR l.length])).length=p+A.length+B.length+1:=by simp;omega
  rw[hq];have e0:it D ⟨⟨c,p+A.length+B.length,env,vs++[u]++ys⟩,bk,Ch⟩=match u with
    | .fn b en=>if (g_ D b).1=l.length then enter D ⟨⟨c,p+A.length+B.length+1,env,vs⟩,bk,Ch⟩ b (ys::en) else .err 10
    | _=>.err 10:=by
   rw[mO s2];simp only[act];rw[aG (by simp[g4])];have t1:(vs++[u]++ys)[(vs++[u]++ys).length - l.length - 1]?=some u:=by
    rw[show(vs++[u]++ys).length - l.length - 1=vs.length by simp[g4];omega];simp
   have t2:(vs++[u]++ys).drop ((vs++[u]++ys).length - l.length)=ys:=DU (vs++[u]) ys g4;have t3:(vs++[u]++ys).take ((vs++[u]++ys).length - l.length - 1)=vs:=by
    rw[show(vs++[u]++ys).length - l.length - 1=vs.length by simp[g4];omega];simp
   rw[t1,t2,t3];cases u<;>rfl
  have hu:=g3 u (dR.2 rfl);cases hu with
  | int n=>exact Rz.err e0
  | mH n=>exact Rz.err e0
  | txt n=>exact Rz.err e0
  | list n h=>exact Rz.err e0
  | fnd q hk =>
   obtain⟨f',ps,e,t1,t2⟩:=hD.yes q hk;dsimp only at e0
   split at e0
   ·next hn =>
    have hn':ps.length=l.length:=by have:(D q).1=l.length:=hn;rw[t1] at this;exact this
    exact vz IH (f:=f') (ns:=[ps]) (e:=e) e0 (by show(D q).2=_;rw[t1]) (hz q) t2 (by show [ys.length]=[ps.length];rw[g4,hn']) (fun b hb=>by rw[dR.1 hb];exact g6) (by omega) hfu hbk (by omega)
   ·exact Rz.err e0
  | Ih f' ps ns' e en hbig hv' he' hx' =>
   dsimp only at e0
   split at e0
   ·next hn =>
    have hn':ps.length=l.length:=hn;exact vz IH (f:=f') (ns:=ps::ns') (e:=e) e0 rfl hbig hv' (by show ys.length::_=ps.length::_;rw[g4,hn',he']) (fun b hb=>by
     rcases cK.1 hb with rfl|hb
     ·exact g6
     ·exact hx' b hb) (by omega) hfu hbk (by omega)
   ·exact Rz.err e0
 | .list l=>by
  intro fu f ns c pre post p env vs bk hfu hc hp hv he hx hl hcl hbk;rw[rQ] at hv;rw[comp] at hc ⊢;generalize hB:comps k f ns p l=B at hc ⊢;have hcl':c.length=p+(B.length+1)+post.length:=by rw[hc,← hp];simp;omega
  have h2:=IW hD hz IH l fu f ns c pre ([.EK l.length]++post) p env vs bk hfu (by rw[hc,hB];simp) hp hv he hx hl hcl hbk;rw[hB] at h2;refine h2.bind ?_;rintro _ ⟨ys,Ch,g4,g5,g6,rfl⟩;have s2:c[p+B.length]?=some (.EK l.length):=mid (l:=pre++B) (r:=post) (by rw[hc];simp) (by simp[hp]<;>omega);have hq:p+(B++[St.EK l.length]).length=p+B.length+1:=by simp;omega
  rw[hq];refine oC (v:=.list ys) (TJ:=Ch) ?_ (.list ys g6) (by omega) (by omega);rw[mO s2];simp only[act];rw[aL (by simp[g4]),yT vs ys g4,DU vs ys g4]
 | .group e=>by
  intro fu f ns c pre post p env vs bk hfu hc hp hv he hx hl hcl hbk;rw[rQ] at hv;rw[comp] at hc ⊢;exact o_ hD hz IH e fu f ns c pre post p env vs bk hfu hc hp hv he hx hl hcl hbk
theorem IW(hD:Dok k D)(hz:∀ p,(D p).2.length≤1073741819){F:Nat}(IH:∀ F',F'<F→∀ e,Ce k D F' e):∀ l,Cs k D F l
 | []=>by
  intro fu f ns c pre post p env vs bk hfu hc hp hv he hx hl hcl hbk;rw[comps];exact .done ⟨[],fu,rfl,aj _,(fun x h=>by cases h),by simp⟩
 | e::l=>by
  intro fu f ns c pre post p env vs bk hfu hc hp hv he hx hl hcl hbk;rw[Fz] at hv;rw[comps] at hc ⊢;generalize hA:comp k f ns p e=A at hc ⊢;generalize hB:comps k f ns (p+A.length) l=B at hc ⊢;have hcl':c.length=p+(A.length+B.length)+post.length:=by rw[hc,← hp];simp;omega
  have h1:=o_ hD hz IH e fu f ns c pre (B++post) p env vs bk hfu (by rw[hc,hA];simp) hp hv.1 he hx hl hcl hbk;rw[hA] at h1;have hAl:1≤A.length:=by rw[← hA];exact jT k f e ns p
  refine h1.bind ?_;rintro _ ⟨xs,Bj,g1,g2,g3,rfl⟩;obtain⟨u,rfl⟩:=sN g1;have h2:=IW hD hz IH l Bj f ns c (pre++A) post (p+A.length) env (vs++[u]) bk (by omega) (by rw[hc,hB];simp) (by simp[hp]<;>omega) hv.2 he hx (by simp;omega) hcl (by omega);rw[hB] at h2;refine h2.bind ?_;rintro _ ⟨ys,Ch,g4,g5,g6,rfl⟩;refine .done ⟨u::ys,Ch,by simp[g4],by omega,fun x h=>?_,?_⟩
  ·rcases cK.1 h with rfl|h
   ·exact g3 _ (dR.2 rfl)
   ·exact g6 x h
  ·congr 2
   ·simp;omega
   ·simp
end
theorem PI(hD:Dok k D)(hz:∀ p,(D p).2.length≤1073741819)(p:Int × Int)(hk:k.dk p=some false)(fu:Nat)(hf:fu≤1000000):∃ r n,End D ⟨⟨[.vis p],0,[],[]⟩,[],fu⟩ r n:=by
 have IH:∀ F e,Ce k D F e:=fun F=>Nat.strongRecOn F (fun F ih e=>o_ hD hz (fun F' h e=>ih F' h e) e)
 obtain⟨f,e,h1,h2⟩:=hD.no p hk;have h3:Rz D ⟨⟨[.vis p],0,[],[]⟩,[],fu⟩ (Pu k [.vis p] 1 [] [] [] fu 1):=vz (F:=fu) (fun F' _ e=>IH F' e) (f:=f) (ns:=[]) (e:=e) (mO (s:=.vis p) rfl) (by show(D p).2=_;rw[h1]) (hz p) h2 rfl (fun b hb=>by cases hb) (aj _) (aj _) (by show 0+fu≤_;omega) (by decide);rcases h3 with ⟨e,j,g⟩|⟨m',g1,xs,TJ,g2,-,-,rfl⟩
 ·exact⟨_,_,g⟩
 ·obtain⟨v,rfl⟩:=sN g2
  obtain⟨n',g'⟩:=g1.fin (.fin _ v rfl);exact⟨_,_,g'⟩
end E
end
section
namespace E
open X (Ex Nm Part Rd lW iM dQ gQ aR dH Oa ql ql.app ql.one ql.head Oa.kids Oa.leaf U exU gL gZ An)
mutual
def jk:Ex→Nat
 | .lit _ _=>1
 | .hole _=>1
 | .missing=>1
 | .var _=>1
 | .iJ _ v b=>jk v+jk b+2
 | .ite a b c=>jk a+jk b+jk c+2
 | .fn _ b=>jk b+1
 | .bin l _ r=>jk l+jk r+1
 | .call g l=>jk g+jO l+1
 | .list l=>jO l+1
 | .group e=>jk e
def jO:List Ex→Nat
 | []=>0
 | e::l=>jk e+jO l
end
mutual
theorem fU(k:Kn)(f:Nat):∀(e:Ex) (ns:List (List Nm)) (o:Nat),(comp k f ns o e).length≤jk e
 | .lit _ _,_,_=>by rw[comp,jk];exact aj _
 | .hole _,_,_=>by rw[comp,jk];exact aj _
 | .missing,_,_=>by rw[comp,jk];exact aj _
 | .var _,_,_=>by rw[comp,jk];exact aj _
 | .iJ n v b,ns,o=>by
  rw[comp,jk];have h1:=fU k f v ns o;have h2:=fU k f b ([n]::ns) (o+(comp k f ns o v).length+1);simp only[ak,dX];omega
 | .ite a b c,ns,o=>by
  rw[comp,jk];have h1:=fU k f a ns o;have h2:=fU k f b ns (o+(comp k f ns o a).length+1);have h3:=fU k f c ns (o+(comp k f ns o a).length+1+(comp k f ns (o+(comp k f ns o a).length+1) b).length+1);simp only[ak,dX];omega
 | .fn ps b,ns,o=>by rw[comp,jk];exact Nat.le_add_left _ _
 | .bin l x r,ns,o=>by
  rw[comp,jk];have h1:=fU k f l ns o;have h2:=fU k f r ns (o+(comp k f ns o l).length);simp only[ak,dX];omega
 | .call g l,ns,o=>by
  rw[comp,jk];have h1:=fU k f g ns o;have h2:=kU k f l ns (o+(comp k f ns o g).length);simp only[ak,dX];omega
 | .list l,ns,o=>by
  rw[comp,jk];have h2:=kU k f l ns o;simp only[ak,dX];omega
 | .group e,ns,o=>by rw[comp,jk];exact fU k f e ns o
theorem kU(k:Kn)(f:Nat):∀(l:List Ex) (ns:List (List Nm)) (o:Nat),(comps k f ns o l).length≤jO l
 | [],_,_=>by rw[comps,jO];exact aj _
 | e::l,ns,o=>by
  rw[comps,jO];have h1:=fU k f e ns o;have h2:=kU k f l ns (o+(comp k f ns o e).length);simp only[ak];omega
end
mutual
def sQ:Ex→Prop
 | .lit _ _=>True
 | .hole _=>True
 | .missing=>True
 | .var n=>n.1≠[]
 | .iJ _ v b=>sQ v∧sQ b
 | .ite a b c=>sQ a∧sQ b∧sQ c
 | .fn _ b=>sQ b
 | .bin l _ r=>sQ l∧sQ r
 | .call g l=>sQ g∧xk l
 | .list l=>xk l
 | .group e=>sQ e
def xk:List Ex→Prop
 | []=>True
 | e::l=>sQ e∧xk l
end
theorem aZ6:∀ n:Nat,(∀(p:Part) (i:Nat) (e:Ex),iM p≤n→Rd p i e→Oa p→jk e≤2*iM p∧sQ e)∧(∀(ps:List Part) (i:Nat) (es:List Ex),dQ ps≤n→lW ps i es→ql ps→jO es≤2*dQ ps∧xk es):=by
 intro n
 induction n with
 | zero =>
  refine⟨fun p i e h=>?_,fun ps i es h hr _=>?_⟩
  ·have:=gQ p;omega
  ·cases ps with
   | nil=>cases hr;rw[jO,xk];exact⟨aX _,trivial⟩
   | cons p ps=>rw[dQ] at h;have:=gQ p;omega
 | succ n ih =>
  have hE:∀(p:Part) (i:Nat) (e:Ex),iM p≤n+1→Rd p i e→Oa p→jk e≤2*iM p∧sQ e:=by
   intro p i e hn hr hB;have hp1:=gQ p;cases hr with
   | missing _=>rw[jk,sQ];exact⟨by omega,trivial⟩
   | lit k t x ps qs _ hk h=>rw[jk,sQ];exact⟨by omega,trivial⟩
   | hole t x ps qs _ h=>rw[jk,sQ];exact⟨by omega,trivial⟩
   | var x ps qs _ h =>
    rw[jk,sQ];refine⟨by omega,?_⟩;have:=hB.kids;rw[h.eq] at this;exact this.app.2.one.leaf
   | iJ t1 n1 t2 t3 p1 p2 _ nm e1 e2 h1 hn1 h2 hv h3 hb =>
    have hb':=hB.kids;have b1:=hb'.app.2.app.2.app.2.app.1.one;have b2:=hb'.app.2.app.2.app.2.app.2.app.2.one;rw[iM,aR,aR,aR,aR,aR,dH,dH] at hn ⊢;have q1:=ih.1 p1 _ e1 (by omega) hv b1;have q2:=ih.1 p2 _ e2 (by omega) hb b2;rw[jk,sQ];exact⟨by omega,q1.2,q2.2⟩
   | ite ps _ a b c h =>
    rw[iM] at hn ⊢;have:=ih.2 ps i [a,b,c] (by omega) h hB.kids;rw[jO,jO,jO,jO,xk,xk,xk] at this;rw[jk,sQ];exact⟨by omega,this.2.1,this.2.2.1,this.2.2.2.1⟩
   | fn t1 qs t2 p _ ns e h1 hns h2 hb =>
    have hb':=hB.kids;have b1:=hb'.app.2.app.2.app.2.one;rw[iM,aR,aR,aR,dH,dH] at hn ⊢;have q1:=ih.1 p _ e (by omega) hb b1;rw[jk,sQ];exact⟨by omega,q1.2⟩
   | bin p1 p2 t qs k x _ e1 e2 hl h hr2 =>
    have hb':=hB.kids;have b1:=hb'.app.1.one;have b2:=hb'.app.2.app.2.one;rw[iM,aR,aR,dH,dH] at hn ⊢;have q1:=ih.1 p1 _ e1 (by omega) hl b1;have q2:=ih.1 p2 _ e2 (by omega) hr2 b2;rw[jk,sQ];exact⟨by omega,q1.2,q2.2⟩
   | call p gs _ e es hc ha =>
    have hb':=hB.kids;have b1:=hb'.app.1.one;have b2:=hb'.app.2.one.kids;rw[iM,aR,dH,dH,iM] at hn ⊢;have q1:=ih.1 p _ e (by omega) hc b1;have q2:=ih.2 gs _ es (by omega) ha b2;rw[jk,sQ];exact⟨by omega,q1.2,q2.2⟩
   | list ps _ es h =>
    rw[iM] at hn ⊢;have q2:=ih.2 ps _ es (by omega) h hB.kids;rw[jk,sQ];exact⟨by omega,q2.2⟩
   | group ps _ e h =>
    rw[iM] at hn ⊢;have:=ih.2 ps i [e] (by omega) h hB.kids;rw[jO,jO,xk] at this;rw[jk,sQ];exact⟨by omega,this.2.1⟩
  refine⟨hE,fun ps i es hn hr hB=>?_⟩
  induction ps generalizing i es with
  | nil=>cases hr;rw[jO,xk];exact⟨aX _,trivial⟩
  | cons q ps IX =>
   rw[dQ] at hn ⊢;have hq:=gQ q;cases hr with
   | leaf k x _ _ _ h=>have:=IX (i+x.length) es (by omega) h hB.head.2;exact⟨by omega,this.2⟩
   | miss m _ _ _ hm h=>have:=IX i es (by omega) h hB.head.2;exact⟨by omega,this.2⟩
   | cons _ _ _ e es hp h =>
    have q1:=hE q i e (by omega) hp hB.head.1;have q2:=IX _ es (by omega) h hB.head.2;rw[jO,xk];exact⟨by omega,q1.2,q2.2⟩
theorem KQ:∀ {us:List U},us.Pairwise (fun a b=>¬(a.f=b.f∧a.i=b.i))→∀ {a b:U},a∈us→b∈us→a.f=b.f→a.i=b.i→a=b
 | [],_,a,b,h,_,_,_=>by cases h
 | u::us,hp,a,b,ha,hb,h1,h2=>by
  obtain⟨p1,p2⟩:=wL.1 hp;rcases cK.1 ha with rfl|ha'
  ·rcases cK.1 hb with rfl|hb'
   ·rfl
   ·exact absurd ⟨h1,h2⟩ (p1 b hb')
  ·rcases cK.1 hb with rfl|hb'
   ·exact absurd ⟨h1.symm,h2.symm⟩ (p1 a ha')
   ·exact KQ p2 ha' hb' h1 h2
theorem IY{b:List Nm}{x:ah}{i:Nat}(h:X.first b x=some i):(om b (i:Int)).isSome=true:=by
 unfold X.first at h;obtain⟨m,h1,rfl⟩:=gI.1 h;have h2:=List.mem_of_find?_eq_some h1;unfold om;cases he:b.findIdx? (fun n=>(n.2:Int)==(m.2:Int)) with
 | some j=>rfl
 | none =>
  have:=List.findIdx?_eq_none_iff.1 he m h2;simp at this
theorem zU:∀ {ns:List (List Nm)} {x:ah} {i:Nat},X.sight ns x=some i→(mM ns (i:Int)).isSome=true
 | [],x,i,h=>by cases h
 | b::bs,x,i,h=>by
  rw[X.sight] at h;unfold mM;cases hi:om b (i:Int) with
  | some j=>rfl
  | none =>
   cases hf:X.first b x with
   | some j =>
    rw[hf] at h;cases h
    have:=IY hf;rw[hi] at this;cases this
   | none =>
    rw[hf] at h;have:=zU h;rw[Option.isSome_map];exact this
section
variable{k:Kn}{f:Nat}{us:List U}{top:ah→An}
mutual
theorem nY(hsd:∀ p tp,k.sd p=some tp→∃ u∈us,((u.f:Int),(u.i:Int))=p∧(u.tf,u.tt)=tp∧0≤u.tt)(hone:us.Pairwise (fun a b=>¬(a.f=b.f∧a.i=b.i)))(htop:∀ x,0≤(top x).2.1→k.dk ((top x).1,(top x).2.1)≠none) :
  ∀(e:Ex) (ns:List (List Nm)),(∀ u∈exU f top ns e,u∈us)→sQ e→jk e≤1073741819→rQ k f ns e
 | .lit _ _,_,_,_,_=>by rw[rQ];trivial
 | .hole _,_,_,_,_=>by rw[rQ];trivial
 | .missing,_,_,_,_=>by rw[rQ];trivial
 | .var n,ns,hu,hn,_=>by
  rw[rQ];intro tp h1 h2;rw[sQ] at hn;rw[exU] at hu;unfold gZ at hu;rw[aG hn] at hu;have h3:=hu _ (dR.2 rfl);obtain⟨u,h4,h5,h6,h7⟩:=hsd _ _ h1;have e1:u.f=f:=by have:=congrArg Prod.fst h5;exact Int.ofNat.inj this
  have e2:u.i=n.2:=by have:=congrArg Prod.snd h5;exact Int.ofNat.inj this
  have e3:=KQ hone h4 h3 e1 e2;subst h6;rw[e3] at h2 h7 ⊢;dsimp only at h2 h7 ⊢;cases hs:X.sight ns n.1 with
  | some i=>exact zU hs
  | none =>
   rw[hs] at h2 h7;exact absurd h2 (htop n.1 h7)
 | .iJ n v b,ns,hu,hn,hz=>by
  rw[exU] at hu;rw[sQ] at hn;rw[jk] at hz;rw[rQ];exact⟨nY hsd hone htop v ns (fun u h=>hu u (dz _ (gG _ h))) hn.1 (by omega),nY hsd hone htop b ([n]::ns) (fun u h=>hu u (dz _ (dz _ h))) hn.2 (by omega)⟩
 | .ite a b c,ns,hu,hn,hz=>by
  rw[exU] at hu;rw[sQ] at hn;rw[jk] at hz;rw[rQ];exact⟨nY hsd hone htop a ns (fun u h=>hu u (gG _ h)) hn.1 (by omega),nY hsd hone htop b ns (fun u h=>hu u (dz _ (gG _ h))) hn.2.1 (by omega),nY hsd hone htop c ns (fun u h=>hu u (dz _ (dz _ h))) hn.2.2 (by omega)⟩
 | .fn ps b,ns,hu,hn,hz=>by
  rw[exU] at hu;rw[sQ] at hn;rw[jk] at hz;rw[rQ];have:=fU k f b (ps::ns) 0;exact⟨by omega,nY hsd hone htop b (ps::ns) (fun u h=>hu u (dz _ h)) hn (by omega)⟩
 | .bin l x r,ns,hu,hn,hz=>by
  rw[exU] at hu;rw[sQ] at hn;rw[jk] at hz;rw[rQ];exact⟨nY hsd hone htop l ns (fun u h=>hu u (gG _ h)) hn.1 (by omega),nY hsd hone htop r ns (fun u h=>hu u (dz _ h)) hn.2 (by omega)⟩
 | .call g l,ns,hu,hn,hz=>by
  rw[exU] at hu;rw[sQ] at hn;rw[jk] at hz;rw[rQ];exact⟨nY hsd hone htop g ns (fun u h=>hu u (gG _ h)) hn.1 (by omega),DV hsd hone htop l ns (fun u h=>hu u (dz _ h)) hn.2 (by omega)⟩
 | .list l,ns,hu,hn,hz=>by
  rw[exU] at hu;rw[sQ] at hn;rw[jk] at hz;rw[rQ];exact DV hsd hone htop l ns hu hn (by omega)
 | .group e,ns,hu,hn,hz=>by
  rw[exU] at hu;rw[sQ] at hn;rw[jk] at hz;rw[rQ];exact nY hsd hone htop e ns hu hn hz
theorem DV(hsd:∀ p tp,k.sd p=some tp→∃ u∈us,((u.f:Int),(u.i:Int))=p∧(u.tf,u.tt)=tp∧0≤u.tt)(hone:us.Pairwise (fun a b=>¬(a.f=b.f∧a.i=b.i)))(htop:∀ x,0≤(top x).2.1→k.dk ((top x).1,(top x).2.1)≠none) :
  ∀(l:List Ex) (ns:List (List Nm)),(∀ u∈gL f top ns l,u∈us)→xk l→jO l≤1073741819→Fz k f ns l
 | [],_,_,_,_=>by rw[Fz];trivial
 | e::l,ns,hu,hn,hz=>by
  rw[gL] at hu;rw[xk] at hn;rw[jO] at hz;rw[Fz];exact⟨nY hsd hone htop e ns (fun u h=>hu u (gG _ h)) hn.1 (by omega),DV hsd hone htop l ns (fun u h=>hu u (dz _ h)) hn.2 (by omega)⟩
end
end
end E
end
end Go.Proofs.YtdkpkpgpphkljaaGreatDoor
