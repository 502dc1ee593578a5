/- Plain mathematics: the defs of files,and what is known of them. -/
import Derived.Test.YtdkpkpgpphkljaaGreatDoorMwz
import Derived.Test.YtdkpkpgpphkljaaGreatDoorJt
namespace Go.Proofs.YtdkpkpgpphkljaaGreatDoor
set_option maxRecDepth 100000
set_option maxHeartbeats 8000000
section
open M
open E (Kn comp jk jO sQ rQ Dok fU)
open X (Ex Nm Part Rd lW sI Jr oN It U iM dQ pz gQ aR dH aY eU fH iK Oa ql)
variable{ps:List Part}{i j f:Nat}{fs:List X.Fl}
theorem F7{ns:List Nm}(h:oN ps i ns):ns.length≤dQ ps:=by
 induction h with
 | nil i=>exact aX _
 | name x ps i ns h ih=>rw[dQ,aW];have:=gQ (.leaf 3 x);omega
 | leaf k x ps i ns hk h ih=>rw[dQ];omega
 | lack ps i ns h ih=>rw[dQ,aW];have:=gQ (.miss X.fF);omega
 | miss m ps i ns hm h ih=>rw[dQ];omega
theorem bB9:∀ n:Nat,n≤1073741824→(∀(p:Part) (i:Nat) (e:Ex),iM p≤n→Rd p i e→pz [p]≤20000→qL e)∧(∀(ps:List Part) (i:Nat) (es:List Ex),dQ ps≤n→lW ps i es→pz ps≤20000→xB es):=by
 intro n
 induction n with
 | zero =>
  intro _;refine⟨fun p i e h=>?_,fun ps i es h hr _=>?_⟩
  ·have:=gQ p;omega
  ·cases ps with
   | nil=>cases hr;rw[xB];trivial
   | cons p ps=>rw[dQ] at h;have:=gQ p;omega
 | succ n ih0 =>
  intro Dq;have ih:=ih0 (by omega);have hE:∀(p:Part) (i:Nat) (e:Ex),iM p≤n+1→Rd p i e→pz [p]≤20000→qL e:=by
   intro p i e hn hr hB;cases hr with
   | missing _=>rw[qL];trivial
   | lit k t x ps qs _ hk h =>
    rw[qL];rw[eU,h.eq,aY,iK] at hB;omega
   | hole t x ps qs _ h=>rw[qL];trivial
   | var x ps qs _ h=>rw[qL];trivial
   | iJ t1 n1 t2 t3 p1 p2 _ nm e1 e2 h1 hn1 h2 hv h3 hb =>
    rw[iM,aR,aR,aR,aR,aR,dH,dH] at hn;rw[eU,aY,aY,aY,aY,aY] at hB;rw[qL];exact⟨ih.1 p1 _ e1 (by omega) hv (by omega),ih.1 p2 _ e2 (by omega) hb (by omega)⟩
   | ite ps _ a b c h =>
    rw[iM] at hn;rw[eU] at hB;rw[qL];have:=ih.2 ps i [a,b,c] (by omega) h hB;rw[xB,xB,xB] at this;exact⟨this.1,this.2.1,this.2.2.1⟩
   | fn t1 qs t2 p _ ns e h1 hns h2 hb =>
    rw[iM,aR,aR,aR,dH,dH,iM] at hn;rw[eU,aY,aY,aY,eU] at hB;rw[qL];have:=F7 hns;exact⟨by omega,ih.1 p _ e (by omega) hb (by omega)⟩
   | bin p1 p2 t qs k x _ e1 e2 hl h hr2 =>
    rw[iM,aR,aR,dH,dH] at hn;rw[eU,aY,aY] at hB;rw[qL];exact⟨ih.1 p1 _ e1 (by omega) hl (by omega),ih.1 p2 _ e2 (by omega) hr2 (by omega)⟩
   | call p gs _ e es hc ha =>
    rw[iM,aR,dH,dH,iM] at hn;rw[eU,aY,eU] at hB;rw[qL];exact⟨ih.1 p _ e (by omega) hc (by omega),ih.2 gs _ es (by omega) ha (by omega)⟩
   | list ps _ es h =>
    rw[iM] at hn;rw[eU] at hB;rw[qL];exact ih.2 ps i es (by omega) h hB
   | group ps _ e h =>
    rw[iM] at hn;rw[eU] at hB;rw[qL];have:=ih.2 ps i [e] (by omega) h hB;rw[xB] at this;exact this.1
  refine⟨hE,fun ps i es hn hr hB=>?_⟩
  induction ps generalizing i es with
  | nil=>cases hr;rw[xB];trivial
  | cons q ps IX =>
   rw[dQ] at hn;rw[fH] at hB;have hq:=gQ q;cases hr with
   | leaf k x _ _ _ h=>exact IX (i+x.length) es (by omega) h (by omega)
   | miss m _ _ _ hm h=>exact IX i es (by omega) h (by omega)
   | cons _ _ _ e es hp h =>
    rw[xB];exact⟨hE q i e (by omega) hp (by omega),IX (i+pz [q]) es (by omega) h (by omega)⟩
def itD:It→Prop
 | .use _ _ _ _ _=>True
 | .dfn _ _ ps e=>sQ e∧jk e≤536870912∧qL e∧Jq ps≤1073741824
theorem aM4{its:List It}(h:sI ps i its):pz ps≤20000→dQ ps≤268435456→ql ps→∀ it∈its,itD it:=by
 induction h with
 | leaves ps i h=>intro _ _ _ it hit;cases hit
 | junk qs ps i its hq h ih =>
  intro h1 h2 h3;rw[fH] at h1;rw[dQ] at h2;exact ih (by omega) (by omega) h3.head.2
 | item p ps i it its hp h ih =>
  intro h1 h2 h3 x hx;rw[fH] at h1;rw[dQ] at h2;rcases cK.1 hx with rfl|hx
  ·cases hp with
   | use=>exact trivial
   | dfn pb t1 n1 pr t2 p t3 _ pub n ps e hp h1' hn hr h2' he h3' =>
    have hb:=h3.head.1.kids;have b1:=hb.app.2.app.2.app.2.app.2.app.2.app.1.one;rw[eU,aY,aY,aY,aY,aY,aY] at h1;rw[iM,aR,aR,aR,aR,aR,aR,dH] at h2;have q1:=(E.aZ6 (iM p)).1 p _ e (aj _) he b1;refine⟨q1.2,by omega,(bB9 (iM p) (by omega)).1 p _ e (aj _) he (by omega),?_⟩;cases hr with
    | yes qs _ ns hh =>
     have:=F7 hh;rw[dH,iM] at h2;show ns.length≤_;omega
    | no=>exact aX _
  ·exact ih (by omega) (by omega) h3.head.2 x hx
structure Df where
 f:Nat
 nm:Nm
 ps:Option (List Nm)
 e:Ex
def Df.key(d:Df):Int × Int:=((d.f:Int),(d.nm.2:Int))
def dI(f:Nat):List It→List Df
 | []=>[]
 | .use _ _ _ _ _::l=>dI f l
 | .dfn _ n ps e::l=>if n.1=[] then dI f l else⟨f,n,ps,e⟩::dI f l
theorem xC(f:Nat):∀(a b:List It),dI f (a++b)=dI f a++dI f b
 | [],b=>rfl
 | .use _ _ _ _ _::a,b=>xC f a b
 | .dfn _ n ps e::a,b=>by
  rw[dx,dI,dI]
  split
  ·exact xC f a b
  ·rw[xC f a b];rfl
theorem Js(f:Nat):∀(l:List It) (d:Df),d∈dI f l→d.f=f∧d.nm.1≠[]∧∃(k:Nat) (pub:Bool),l[k]?=some (It.dfn pub d.nm d.ps d.e)
 | [],d,h=>by cases h
 | .use _ _ _ _ _::l,d,h=>by
  obtain⟨h1,h2,k,pub,h3⟩:=Js f l d h;exact⟨h1,h2,k+1,pub,by simpa using h3⟩
 | .dfn pb n ps e::l,d,h=>by
  rw[dI] at h;have hrec:d∈dI f l→d.f=f∧d.nm.1≠[]∧∃(k:Nat) (pub:Bool),(It.dfn pb n ps e::l)[k]?=some (It.dfn pub d.nm d.ps d.e):=fun h=>by
   obtain⟨h1,h2,k,pub,h3⟩:=Js f l d h;exact⟨h1,h2,k+1,pub,by simpa using h3⟩
  split at h
  ·exact hrec h
  ·next hn =>
   rcases cK.1 h with rfl|h
   ·exact⟨rfl,hn,0,pb,rfl⟩
   ·exact hrec h
theorem Ej(f:Nat):∀(l:List It) (k:Nat) (pub:Bool) (n:Nm) (ps:Option (List Nm)) (e:Ex),l[k]?=some (It.dfn pub n ps e)→n.1≠[]→⟨f,n,ps,e⟩∈dI f l
 | [],k,pub,n,ps,e,h,_=>by cases h
 | it::l,0,pub,n,ps,e,h,hn=>by
  cases h
  rw[dI,aG hn];exact List.mem_cons_self
 | it::l,k+1,pub,n,ps,e,h,hn=>by
  have:=Ej f l k pub n ps e (by simpa using h) hn;cases it with
  | use=>exact this
  | dfn pb m ps' e' =>
   rw[dI]
   split
   ·exact this
   ·exact fJ _ this
def dT(fs:List X.Fl)(j:Nat):List Df:=(List.range j).flatMap fun f=>dI f (X.aM fs f)
theorem KZ(fs:List X.Fl)(j:Nat):dT fs (j+1)=dT fs j++dI j (X.aM fs j):=by
 unfold dT;rw[List.range_succ,iA];simp
theorem QF{d:Df}(h:d∈dT fs j):d.f<j∧d.nm.1≠[]∧∃(k:Nat) (pub:Bool),(X.aM fs d.f)[k]?=some (It.dfn pub d.nm d.ps d.e):=by
 obtain⟨f,h1,h2⟩:=kX.1 h;obtain⟨rfl,h4,h5⟩:=Js f _ d h2;exact⟨gD.1 h1,h4,h5⟩
theorem QG{k:Nat}(hf:f<j){pub:Bool}{n:Nm}{ps:Option (List Nm)}{e:Ex}(h:(X.aM fs f)[k]?=some (It.dfn pub n ps e))(hn:n.1≠[]):⟨f,n,ps,e⟩∈dT fs j :=
 kX.2 ⟨f,gD.2 hf,Ej f _ k pub n ps e h hn⟩
def iX(l:List Df)(p:Int × Int):Option Df:=l.reverse.find? (fun d=>d.key==p)
theorem jV(l:List Df)(d:Df)(p:Int × Int):iX (l++[d]) p=if d.key=p then some d else iX l p:=by
 unfold iX;rw[List.reverse_append,List.reverse_singleton,List.singleton_append,mD];by_cases h:d.key=p
 ·simp[h]
 ·rw[dF.2 h];simp[h]
theorem oO{l:List Df}{p:Int × Int}{d:Df}(h:iX l p=some d):d∈l∧d.key=p:=by
 unfold iX at h;exact⟨List.mem_reverse.1 (List.mem_of_find?_eq_some h),by simpa using List.find?_some h⟩
theorem ni{l:List Df}{d:Df}(h:d∈l):∃ d',iX l d.key=some d':=by
 unfold iX;cases hx:l.reverse.find? (fun x=>x.key==d.key) with
 | some d'=>exact⟨d',rfl⟩
 | none =>
  have:=List.find?_eq_none.1 hx d (List.mem_reverse.2 h);simp at this
def MU(us:List U):Int × Int→Option (Int × Int):=us.foldl (fun g u=>if u.s=6∧0≤u.tt then(fun p=>if p=((u.f:Int),(u.i:Int)) then some (u.tf,u.tt) else g p) else g) (fun _=>none)
theorem F8(us:List U)(u:U):MU (us++[u])=if u.s=6∧0≤u.tt then(fun p=>if p=((u.f:Int),(u.i:Int)) then some (u.tf,u.tt) else MU us p) else MU us:=by
 unfold MU;rw[List.foldl_append];rfl
theorem K8:∀(us:List U) (g:Int × Int→Option (Int × Int)) (p tp:Int × Int),us.foldl (fun g u=>if u.s=6∧0≤u.tt then(fun p=>if p=((u.f:Int),(u.i:Int)) then some (u.tf,u.tt) else g p) else g) g p=some tp→g p=some tp∨∃ u∈us,((u.f:Int),(u.i:Int))=p∧(u.tf,u.tt)=tp∧0≤u.tt
 | [],g,p,tp,h=>.inl h
 | u::us,g,p,tp,h=>by
  rw[List.foldl_cons] at h;rcases K8 us _ p tp h with h1|⟨v,h1,h2⟩
  ·split at h1
   ·next hc =>
    dsimp only at h1
    split at h1
    ·next hp=>cases h1;exact .inr ⟨u,by simp,hp.symm,rfl,hc.2⟩
    ·exact .inl h1
   ·exact .inl h1
  ·exact .inr ⟨v,fJ _ h1,h2⟩
theorem Va(us:List U)(p tp:Int × Int)(h:MU us p=some tp):∃ u∈us,((u.f:Int),(u.i:Int))=p∧(u.tf,u.tt)=tp∧0≤u.tt:=by
 rcases K8 us _ p tp h with h1|h1
 ·cases h1
 ·exact h1
def BA(fs:List X.Fl):Kn:=⟨MU (X.jf fs),fun p=>(iX (dT fs fs.length) p).map (fun d=>d.ps.isSome),uK,Eh⟩
def MV(k:Kn)(l:List Df)(p:Int × Int):Nat × List E.St:=match iX l p with
 | some d=>(Jq d.ps,comp k d.f (pW d.ps []) 0 d.e)
 | none=>(0,[])
theorem YP(fs:List X.Fl):Yy (BA fs):=⟨rfl,rfl⟩
theorem Vb{x:ah}(h0:0≤(X.gT fs f x).2.1):(BA fs).dk ((X.gT fs f x).1,(X.gT fs f x).2.1)≠none:=by
 unfold X.gT at h0 ⊢
 split at h0
 ·simp at h0
 ·next k hk =>
  dsimp only at h0 ⊢;obtain⟨it,h1,h2,h3⟩:=X.qE hk;obtain⟨f',k',p,n,ps,b,h4,h5,h6,h7⟩:=X.F9 fs _ f k (fun p n ps b e=>by rw[e] at h1;cases h1;rw[← h2] at h3;exact h3) h0;have hm:=QG (j:=fs.length) (X.q8 h4) h4 h5;obtain⟨d',hd⟩:=ni hm;rw[h6,h7];show(iX (dT fs fs.length) _).map _≠none;have hk2:(Df.mk f' n ps b).key=((f':Int),(n.2:Int)):=rfl;rw[← hk2,hd];simp
theorem y8(hr:∀ f,f<fs.length→∃ ps,sI ps 0 (X.aM fs f))(hd:∀ f,∀ it∈X.aM fs f,itD it){d:Df}(h:d∈dT fs fs.length):rQ (BA fs) d.f (pW d.ps []) d.e∧jk d.e≤536870912∧qL d.e∧Jq d.ps≤1073741824:=by
 obtain⟨h1,h2,k,pub,h3⟩:=QF h;obtain⟨q1,q2,q3,q4⟩:=hd d.f _ (dh h3);refine⟨?_,q2,q3,q4⟩;refine E.nY (us:=X.jf fs) (top:=X.gT fs d.f) (fun p tp hp=>Va _ p tp hp) (X.MW hr) (fun x h0=>Vb h0) d.e _ (fun u hu=>?_) q1 (by omega);refine X.QH h3 u ?_;unfold X.xW;refine dz _ (dz _ ?_);obtain⟨f,nm,ps,e⟩:=d;cases ps<;>exact hu
theorem YQ(hr:∀ f,f<fs.length→∃ ps,sI ps 0 (X.aM fs f))(hd:∀ f,∀ it∈X.aM fs f,itD it):Dok (BA fs) (MV (BA fs) (dT fs fs.length))∧∀ p,(MV (BA fs) (dT fs fs.length) p).2.length≤1073741819:=by
 have hg:∀ p z,(BA fs).dk p=some z→∃ d,iX (dT fs fs.length) p=some d∧d.ps.isSome=z:=fun p z h=>gI.1 h
 refine⟨⟨fun p h=>?_,fun p h=>?_⟩,fun p=>?_⟩
 ·obtain⟨d,h1,h2⟩:=hg p _ h
  obtain⟨v1,-⟩:=y8 hr hd (oO h1).1;have hn:d.ps=none:=by cases hp:d.ps with
   | none=>rfl
   | some l=>rw[hp] at h2;cases h2
  rw[hn] at v1;exact⟨d.f,d.e,by unfold MV;rw[h1];dsimp only;rw[hn];rfl,v1⟩
 ·obtain⟨d,h1,h2⟩:=hg p _ h
  obtain⟨v1,-⟩:=y8 hr hd (oO h1).1;cases hp:d.ps with
  | none=>rw[hp] at h2;cases h2
  | some l =>
   rw[hp] at v1;exact⟨d.f,l,d.e,by unfold MV;rw[h1];dsimp only;rw[hp];rfl,v1⟩
 ·unfold MV
  cases h1:iX (dT fs fs.length) p with
  | none=>exact aX _
  | some d =>
   obtain⟨-,v2,-⟩:=y8 hr hd (oO h1).1;have:=fU (BA fs) d.f d.e (pW d.ps []) 0;dsimp only;omega
end
section
open Tryz
open Go.RowKit
open E (Kn)
open X (Nm Ex It)
variable{q b:Nat}{c:Array Value}
def QI(T:Int × Int→Nat)(dl:List Df)(q:Nat):Prop:=∃ p d,iX dl p=some d∧q=T p
structure Fi(w0 w:World)(its:Nat→List It)(j:Nat)(iv:Value)(vs:List Value)(Lo Hi:Nat→Nat)(X:Nat→Prop):Prop where
 row:w.ownsRow w0.heap.size 58 1 iv j vs
 it:∀ i,i<j→∃ v,vs[i]?=some v∧oV w (Lo i) (Hi i) v (its i)
 rg:∀ i,i<j→w0.heap.size≤Lo i∧Hi i≤w.heap.size
 far:∀ q,(X q∨iv.ownBlock=some q)→∀ i,i<j→¬(Lo i≤q∧q<Hi i)
structure Dm(w:World)(db:Nat)(T:Int × Int→Nat)(dl:List Df):Prop where
 mq:∃ n gd,Mq w db n gd∧(∀ p,iX dl p=none→gd p=none)∧∀ p d,iX dl p=some d→∃ b c q,gd p=some (.agg #[.pointer (some ⟨b,0,none⟩),.pointer (some ⟨T p,0,none⟩)])∧w.heap[b]?=some (.cells c 74 (0,0))∧c[3]?=some (.pointer q)∧q.isSome=d.ps.isSome
 td:∀ p d,iX dl p=some d→T p≠0∧∃ x y,w.heap[T p]?=some (.cells #[x,y] 140 (0,0))
 ti:∀ p q d d',iX dl p=some d→iX dl q=some d'→T p=T q→p=q
 tz:∀ p,iX dl p=none→T p=0
section
variable{w0 w w':World}{its:Nat→List It}{j:Nat}{iv:Value}{vs:List Value}{Lo Hi:Nat→Nat}{X X' S:Nat→Prop}{pb sb db:Nat}{gs:Int × Int→Option Value}{T:Int × Int→Nat}{dl:List Df}
theorem Fi.keep(h:Fi w0 w its j iv vs Lo Hi X)(hk:Kp S w w')(hS:∀ q,S q→(X q∨w.heap.size≤q)∧iv.ownBlock≠some q):Fi w0 w' its j iv vs Lo Hi X:=by
 refine⟨hk.owns h.row (fun g hg e=>(hS g e).2 hg),fun i hi=>?_,fun i hi=>⟨(h.rg i hi).1,bS (h.rg i hi).2 hk.size⟩,h.far⟩;obtain⟨v,h1,h2⟩:=h.it i hi;refine⟨v,h1,h2.LY hk (fun q g1 g2 e=>?_)⟩;rcases(hS q e).1 with e2|e2
 ·exact h.far q (.inl e2) i hi ⟨g1,g2⟩
 ·have:=(h.rg i hi).2;omega
theorem Dm.keep(h:Dm w db T dl)(hk:Kp S w w')(h1:¬ S db)(h2:∀ q c,w.heap[q]?=some (.cells c 74 (0,0))→¬ S q)(h3:∀ p d,iX dl p=some d→∃ x y,w'.heap[T p]?=some (.cells #[x,y] 140 (0,0))):Dm w' db T dl:=by
 obtain⟨n,gd,g1,g2,g3⟩:=h.mq;refine⟨⟨n,gd,g1.keep hk h1,g2,fun p d hp=>?_⟩,fun p d hp=>⟨(h.td p d hp).1,h3 p d hp⟩,h.ti,h.tz⟩;obtain⟨b,c,q,e1,e2,e3⟩:=g3 p d hp;exact⟨b,c,q,e1,hk.heap e2 (h2 b c e2),e3⟩
theorem Dm.below(h:Dm w db T dl)(hb:Below w.heap.size w w'):Dm w' db T dl :=
 h.keep (Kp.aI hb (fun _=>False)) id (fun _ _ _=>id) (fun p d hp=>by obtain⟨x,y,e⟩:=(h.td p d hp).2;exact⟨x,y,(hb.block _ (aP e)).trans e⟩)
structure Rp(w0 w:World)(its:Nat→List It)(pb sb db:Nat)(gs:Int × Int→Option Value)(j:Nat)(iv:Value)(vs:List Value)(Lo Hi:Nat→Nat)(T:Int × Int→Nat)(dl:List Df):Prop where
 blk:w.heap[pb]?=some (.cells #[.map (some sb),iv,.map (some db)] 53 (0,0))
 ms:∃ n,Mq w sb n gs
 dm:Dm w db T dl
 fi:Fi w0 w its j iv vs Lo Hi (fun q=>q=pb∨q=sb∨q=db∨QI T dl q)
 lJ:Below w0.heap.size w0 w
 lo:w0.heap.size≤pb∧w0.heap.size≤sb∧w0.heap.size≤db
 ne:sb≠db
 lt:∀ p d,iX dl p=some d→w0.heap.size≤T p
theorem sZ{w:World}{es:Array MapEntry}{clock:Nat}{t:TypeId}{f:Nat × Nat}(h:w.heap[q]?=some (.map es clock))(h':w.heap[q]?=some (.cells c t f)):False:=by
 rw[h] at h';injection h' with h';cases h'
theorem own_ne{e:TypeId}{k n:Nat}{v:Value}{xs:List Value}(h:w.ownsRow b e k v n xs)(hq:¬ ∃ c,w.heap[q]?=some (.cells c e (0,0))):v.ownBlock≠some q:=fun e=>hq (eX h e)
theorem Rp.below(h:Rp w0 w its pb sb db gs j iv vs Lo Hi T dl)(hb:Below w.heap.size w w'):Rp w0 w' its pb sb db gs j iv vs Lo Hi T dl:=by
 obtain⟨n,hm⟩:=h.ms;exact⟨(hb.block pb (aP h.blk)).trans h.blk,⟨n,hm.below hb⟩,h.dm.below hb,h.fi.keep (Kp.aI hb (fun _=>False)) (fun _ e=>e.elim),h.lJ.trans (hb.mono h.lJ.size),h.lo,h.ne,h.lt⟩
def Jt(T:Int × Int→Nat)(p:Int × Int)(b:Nat):Int × Int→Nat:=fun q=>if q=p then b else T q
theorem Rp.named(h:Rp w0 w its pb sb db gs j iv vs Lo Hi T dl)(d:Df){q:Option Addr}(hb:w.heap[b]?=some (.cells c 74 (0,0)))(hc:c[3]?=some (.pointer q))(hq:q.isSome=d.ps.isSome){w1:World}(hw1:w1=w.alloc (.cells #[.int .i64 0,.slice none 0 0] 140))(h0:0<w.heap.size) :
  ∃ w',(Instr.mapUpdate 50 (.map (some db)) (sV d.key) (.agg #[.pointer (some ⟨b,0,none⟩),.pointer (some ⟨w.heap.size,0,none⟩)])).run prog w1=.ok () w'∧Rp w0 w' its pb sb db gs j iv vs Lo Hi (Jt T d.key w.heap.size) (dl++[d]):=by
 have hba:=bQ w (.cells #[.int .i64 0,.slice none 0 0] 140);rw[← hw1] at hba;have h1:=h.below hba;have hnew:w1.heap[w.heap.size]?=some (.cells #[.int .i64 0,.slice none 0 0] 140 (0,0)):=by rw[hw1];exact aB w _
 obtain⟨n,gd,g1,g2,g3⟩:=h1.dm.mq;obtain⟨w',hr,hm,hk⟩:=g1.put (MT:=50) underlying50 d.key (.agg #[.pointer (some ⟨b,0,none⟩),.pointer (some ⟨w.heap.size,0,none⟩)]);obtain⟨es,cl,MX⟩:=g1.obj;have hT:∀ p d',iX dl p=some d'→T p<w.heap.size:=fun p d' hp=>by obtain⟨x,y,e⟩:=(h.dm.td p d' hp).2;exact aP e
 have hkeep:∀ {q:Nat} {c:Array Value} {t:TypeId} {f:Nat × Nat},w1.heap[q]?=some (.cells c t f)→w'.heap[q]?=some (.cells c t f):=fun hq=>hk.heap hq (fun e=>by subst e;exact sZ MX hq)
 refine⟨w',hr,hkeep h1.blk,?_,⟨⟨n+1,_,hm,fun p hp=>?_,fun p d' hp=>?_⟩,fun p d' hp=>?_,fun p q d1 d2 hp hq e=>?_,fun p hp=>?_⟩,?_,h1.lJ.trans (hk.below h1.lJ.size (fun q e=>by subst e;exact h.lo.2.2)),h.lo,h.ne,fun p d' hp=>?_⟩
 ·obtain⟨n2,hm2⟩:=h1.ms
  exact⟨n2,hm2.keep hk h.ne⟩
 ·rw[jV] at hp
  unfold Jo
  split at hp
  ·cases hp
  ·next hne=>rw[aG (iG hne)];exact g2 p hp
 ·rw[jV] at hp
  unfold Jo Jt
  split at hp
  ·next he =>
   cases hp
   subst he;rw[aL rfl,aL rfl];exact⟨b,c,q,rfl,hkeep ((hba.block b (aP hb)).trans hb),hc,hq⟩
  ·next hne =>
   rw[aG (iG hne),aG (iG hne)];obtain⟨b2,c2,q2,e1,e2,e3⟩:=g3 p d' hp;exact⟨b2,c2,q2,e1,hkeep e2,e3⟩
 ·rw[jV] at hp
  unfold Jt
  split at hp
  ·next he=>subst he;rw[aL rfl];exact⟨by omega,_,_,hkeep hnew⟩
  ·next hne =>
   rw[aG (iG hne)];obtain⟨x,y,e⟩:=(h1.dm.td p d' hp).2;exact⟨(h.dm.td p d' hp).1,x,y,hkeep e⟩
 ·rw[jV] at hp hq
  unfold Jt at e
  split at hp
  ·next h2 =>
   split at hq
   ·next h3=>exact h2.symm.trans h3
   ·next h3 =>
    rw[aL h2.symm,aG (iG h3)] at e;have:=hT q d2 hq;omega
  ·next h2 =>
   split at hq
   ·next h3 =>
    rw[aG (iG h2),aL h3.symm] at e;have:=hT p d1 hp;omega
   ·next h3 =>
    rw[aG (iG h2),aG (iG h3)] at e;exact h.dm.ti p q d1 d2 hp hq e
 ·rw[jV] at hp
  unfold Jt
  split at hp
  ·cases hp
  ·next hne=>rw[aG (iG hne)];exact h.dm.tz p hp
 ·have hf:=(h1.fi.keep hk (fun q e=>by
   subst e;exact⟨.inl (.inr (.inr (.inl rfl))),own_ne h1.fi.row (fun⟨c,hc⟩=>sZ MX hc)⟩))
  refine⟨hf.row,hf.it,hf.rg,fun q e i hi=>?_⟩;rcases e with e|e
  ·rcases e with e|e|e|⟨p,d',hp,e⟩
   ·exact hf.far q (.inl (.inl e)) i hi
   ·exact hf.far q (.inl (.inr (.inl e))) i hi
   ·exact hf.far q (.inl (.inr (.inr (.inl e)))) i hi
   ·rw[jV] at hp
    unfold Jt at e
    split at hp
    ·next he =>
     rw[aL he.symm] at e;have:=(h.fi.rg i hi).2;omega
    ·next hne =>
     rw[aG (iG hne)] at e;exact hf.far q (.inl (.inr (.inr (.inr ⟨p,d',hp,e⟩)))) i hi
  ·exact hf.far q (.inr e) i hi
 ·rw[jV] at hp
  unfold Jt
  split at hp
  ·next he=>rw[aL he.symm];exact h.lJ.size
  ·next hne=>rw[aG (iG hne)];exact h.lt p d' hp
theorem Rp.items(h:Rp w0 w its pb sb db gs j iv vs Lo Hi T dl){i:Nat}(hi:i<j):∃ g cap ia ic,iv=.slice (some ⟨g,0,none⟩) j cap∧j≤cap∧cap≤maxLen∧w.cell? ⟨g,i,none⟩=some (.slice ia (its i).length ic)∧Hid (oV w (Lo i) (Hi i) (.slice ia (its i).length ic) (its i)):=by
 obtain⟨v,h1,h2⟩:=h.fi.it i hi;obtain⟨ia,ic,vs',rfl,-⟩:=h2.ex;have hr:=h.fi.row;rcases hr.2 with ⟨-,e⟩|⟨g,cap,cur,rfl,-,-,q1,q2,-⟩
 ·omega
 ·exact⟨g,cap,ia,ic,rfl,q1,q2,(hr.cellAt i (by omega)).trans h1,h2⟩
theorem QJ(f:Nat)(pub:Bool)(n:Nm)(ps:Option (List Nm))(e:Ex)(l:List It)(hn:n.1≠[]):dI f (l++[.dfn pub n ps e])=dI f l++[⟨f,n,ps,e⟩]:=by
 rw[xC,dI,aG hn];rfl
theorem WZ(f:Nat)(pub:Bool)(n:Nm)(ps:Option (List Nm))(e:Ex)(l:List It)(hn:n.1=[]):dI f (l++[.dfn pub n ps e])=dI f l:=by
 rw[xC,dI,aL hn];simp[dI]
theorem QK(f:Nat)(pub:Bool)(m n:Nm)(g:Bool)(a:Nm)(l:List It):dI f (l++[.use pub m n g a])=dI f l:=by
 rw[xC,dI];simp[dI]
theorem Ju(b:Nat)(wx:World):(Instr.typeAssert (.iface 68 (.pointer (some ⟨b,0,none⟩))) 64 68 true).run prog wx=.ok (.tuple #[.pointer (some ⟨b,0,none⟩),.bool true]) wx:=by kernel_rfl
theorem Jv(b:Nat)(wx:World):(Instr.typeAssert (.iface 121 (.pointer (some ⟨b,0,none⟩))) 64 68 true).run prog wx=.ok (.tuple #[.pointer none,.bool false]) wx:=by kernel_rfl
end
end
section
open Tryz
open Go.RowKit
open X (Nm Ex It)
section
variable{w0 w w':World}{its:Nat→List It}{j:Nat}{iv:Value}{vs:List Value}{Lo Hi:Nat→Nat}{pb sb db:Nat}{gs:Int × Int→Option Value}{T:Int × Int→Nat}{dl:List Df}
def Oj(w0 w:World)(its:Nat→List It)(pb sb db:Nat)(gs:Int × Int→Option Value)(j:Nat)(iv:Value)(vs:List Value)(Lo Hi:Nat→Nat)(dl:List Df):Prop:=∃ T,Rp w0 w its pb sb db gs j iv vs Lo Hi T dl
theorem Oj.below(h:Oj w0 w its pb sb db gs j iv vs Lo Hi dl)(hb:Below w.heap.size w w'):Oj w0 w' its pb sb db gs j iv vs Lo Hi dl:=by
 obtain⟨T,h⟩:=h;exact⟨T,h.below hb⟩
theorem Rp.itm(h:Oj w0 w its pb sb db gs j iv vs Lo Hi dl){f:Nat}(hf:f<j){g cap:Nat}{ia:Option Addr}{ic:Nat}(hiv:iv=.slice (some ⟨g,0,none⟩) j cap)(hc:w.cell? ⟨g,f,none⟩=some (.slice ia (its f).length ic)){i:Nat}{it:It}(hi:(its f)[i]?=some it):∃ q v,ia=some ⟨q,0,none⟩∧w.cell? ⟨q,i,none⟩=some v∧Hid (lG w (Lo f) (Hi f) v it):=by
 obtain⟨T,h⟩:=h;obtain⟨g',cap',ia',ic',e1,-,-,e2,e3⟩:=h.items hf;rw[hiv] at e1;injection e1 with e4 e5 e6;injection e4 with e4;injection e4 with e4;subst e4;rw[hc] at e2;injection e2 with e2;injection e2 with e7 e8 e9;subst e7 e9;obtain⟨ao,ca,vv,q1,q2,q3,q4,q5⟩:=(e3.o).ex;injection q1 with q1;subst q1;have hl:i<(its f).length:=by
  rcases bE i (its f).length with g|g
  ·exact g
  ·rw[aO g] at hi;cases hi
 obtain⟨q,p1,p2,p3,p4,p5⟩:=q4 i hl;exact⟨q,vv i,p1,p4,q5 i it hi⟩
theorem MZ(f:Nat)(hf:f<j)(h:Oj w0 w its pb sb db gs j iv vs Lo Hi dl)(hil:(its f).length≤268435456)(h0:0<w0.heap.size) :
  Calls prog 16 #[.pointer (some ⟨pb,0,none⟩),.int .i64 f] w fun e w'=>e=.returned (.tuple #[])∧Hid (Oj w0 w' its pb sb db gs j iv vs Lo Hi (dl++dI f (its f))):=by
 obtain⟨T,hp⟩:=h;obtain⟨g,cap,ia,ic,rfl,hc1,hc2,hcell,-⟩:=hp.items hf;unfold maxLen at hc2;have c1:=ai w _ 1 _ _ _ hp.blk;have j0:(0:Int)≤(f:Int):=bU _;have j1:(f:Int)<(j:Int):=by omega
 have HP:Hid (Oj w0 w its pb sb db gs j (.slice (some ⟨g,0,none⟩) j cap) vs Lo Hi (dl++dI f ((its f).take 0))∧w.cell? ⟨g,f,none⟩=some (.slice ia (its f).length ic)):=⟨⟨T,by simpa [dI] using hp⟩,hcell⟩;clear hp;generalize hn:(its f).length=n at *;have HN:=au hn;clear hn;go_enter func16,ntmps16;go_wp2_with fail
 go_loopw [16] (fun v wr=>∃ i:Nat,v=.int .i64 i∧i≤n∧Hid (Oj w0 wr its pb sb db gs j (.slice (some ⟨g,0,none⟩) j cap) vs Lo Hi (dl++dI f ((its f).take i))∧wr.cell? ⟨g,f,none⟩=some (.slice ia n ic))) (fun v _=>n - (intOf v).toNat)
 case atStart=>exact⟨0,rfl,aX _,HP⟩
 case round =>
  obtain⟨i,rfl,hi,H1⟩:=hrel;clear HP c1 hcell;by_cases hlt:i<n
  case neg =>
   have i1:decide (i<n)=false:=by simp;omega
   have i2:decide ((i:Int)<(n:Int))=false:=by simp;omega
   have HT:Hid ((its f).take i=its f):=lY (by have:=HN.o;omega);go_wp2_with fail
   go_end0;refine⟨rfl,?_⟩;have h1:=(H1.o).1;rw[HT.o] at h1;exact h1
  case pos =>
   have i1:decide (i<n)=true:=by simp;omega
   have i2:decide ((i:Int)<(n:Int))=true:=by simp;omega
   have k0:(0:Int)≤(i:Int):=bU _;have k1:(i:Int)<(n:Int):=by omega
   have hlen:=HN.o;have hgv:(its f)[i]?=some ((its f)[i]'(by omega)):=aC (by omega);have htk:(its f).take (i+1)=(its f).take i++[(its f)[i]'(by omega)]:=jZ (by omega);generalize (its f)[i]'(by omega)=it at hgv htk;obtain⟨q,v,rfl,hv,HI⟩:=Rp.itm (H1.o).1 hf rfl (by rw[hlen];exact(H1.o).2) hgv;have hI:=HI.o;clear HI hgv hlen;cases hI with
   | use b pub gs' m nn a hb h =>
    have ha:=Jv b;have HF:Hid (Oj w0 wr its pb sb db gs j (.slice (some ⟨g,0,none⟩) j cap) vs Lo Hi (dl++dI f ((its f).take (i+1)))∧wr.cell? ⟨g,f,none⟩=some (.slice (some ⟨q,0,none⟩) n ic)):=by rw[htk,QK];exact H1.o
    clear h hb H1 htk;go_wp2_with fail
    exact⟨⟨i+1,by simp,by omega,HF.o⟩,by simp[intOf];omega⟩
   | dfn b pub nm pv ps ev e hb h hpv he =>
    have ha:=Ju b;have d1:=ai wr _ 1 _ _ _ h;have d2:=ai wr _ 2 _ _ _ h;have hlb:=aP h;have HM:=au (iV nm.1 nm.2 wr);cases hne:nm.1.isEmpty with
    | true =>
     rw[hne] at HM;have HF:Hid (∀ wx,Below wr.heap.size wr wx→Oj w0 wx its pb sb db gs j (.slice (some ⟨g,0,none⟩) j cap) vs Lo Hi (dl++dI f ((its f).take (i+1)))∧wx.cell? ⟨g,f,none⟩=some (.slice (some ⟨q,0,none⟩) n ic)):=fun wx hx=>by
      rw[htk,WZ _ _ _ _ _ _ (List.isEmpty_iff.1 hne)];exact⟨(H1.o).1.below hx,(aN (a:=⟨g,f,none⟩) (hx.block g (bG wr ⟨g,f,none⟩ (H1.o).2))).trans (H1.o).2⟩
     clear h hb H1 htk hpv he hne;go_wp2_with fail
     refine(HM.o).mono ?_;rintro en w2 ⟨rfl,k2⟩;have HF2:=au ((HF.o) w2 k2);clear HF k2 d1 d2 hlb HM hv;go_wp2_with fail
     exact⟨⟨i+1,by simp,by omega,HF2.o⟩,by simp[intOf];omega⟩
    | false =>
     rw[hne] at HM;have hn0:nm.1≠[]:=fun e=>by rw[e] at hne;cases hne
     have hq:∃ pq,pv=.pointer pq∧pq.isSome=ps.isSome:=by
      rcases hpv with ⟨e1,e2⟩|⟨l2,b2,e1,e2,-⟩
      ·exact⟨none,e2,by rw[e1];rfl⟩
      ·exact⟨_,e2,by rw[e1];rfl⟩
     obtain⟨pq,rfl,hpq⟩:=hq;have HF:Hid (∀ wx,Below wr.heap.size wr wx→∃ w',(Instr.mapUpdate 50 (.map (some db)) (.agg #[.int .i64 f,.int .i64 nm.2]) (.agg #[.pointer (some ⟨b,0,none⟩),.pointer (some ⟨wx.heap.size,0,none⟩)])).run prog (wx.alloc (.cells #[.int .i64 0,.slice none 0 0] 140))=.ok () w'∧Hid (Oj w0 w' its pb sb db gs j (.slice (some ⟨g,0,none⟩) j cap) vs Lo Hi (dl++dI f ((its f).take (i+1)))∧w'.cell? ⟨g,f,none⟩=some (.slice (some ⟨q,0,none⟩) n ic))):=fun wx hx=>by
      obtain⟨T1,h1⟩:=(H1.o).1.below hx;have hs:=h1.lJ.size;obtain⟨w',e1,e2⟩:=h1.named ⟨f,nm,ps,e⟩ ((hx.block b (aP h)).trans h) (q:=pq) rfl hpq rfl (by omega);refine⟨w',e1,?_⟩;rw[htk,QJ _ _ _ _ _ _ hn0,← aA];refine⟨⟨_,e2⟩,?_⟩;obtain⟨g',cap',ia',ic',x1,-,-,x2,-⟩:=e2.items hf;obtain⟨g2,cap2,ia2,ic2,y1,-,-,y2,-⟩:=h1.items hf;cases x1
      cases y1
      obtain⟨v1,z1,z2⟩:=e2.fi.it f hf;obtain⟨v2,z3,z4⟩:=h1.fi.it f hf;rw[z1] at z3;cases z3
      have hcx:wx.cell? ⟨g,f,none⟩=some (.slice (some ⟨q,0,none⟩) n ic):=(aN (a:=⟨g,f,none⟩) (hx.block g (bG wr ⟨g,f,none⟩ (H1.o).2))).trans (H1.o).2;have hr1:=h1.fi.row.cellAt f (by omega);have hr2:=e2.fi.row.cellAt f (by omega);rw[z1] at hr1 hr2;rw[hr2,← hr1];exact hcx
     have YR:Hid (∀ wx,Below wr.heap.size wr wx→wx.cell? ⟨pb,2,none⟩=some (.map (some db))∧wx.cell? ⟨b,2,none⟩=some (.int .i64 nm.2)):=fun wx hx=>by
      obtain⟨T1,h1⟩:=(H1.o).1.below hx;exact⟨ai wx _ 2 _ _ _ h1.blk,(aN (a:=⟨b,2,none⟩) (hx.block b (aP h))).trans d2⟩
     clear h hb H1 htk hpv he hne hn0;go_wp2_with fail
     refine(HM.o).mono ?_;rintro en w2 ⟨rfl,k2⟩;have mZ:=au k2;clear d1 d2 hlb HM hv k2;go_wp2_with fail
     have hS1:=(YR.o) w2.drew (mZ.o).drew;refine bH (S:=fun w'=>w'.cell? ⟨pb,2,none⟩=some (.map (some db))∧w'.cell? ⟨b,2,none⟩=some (.int .i64 nm.2)) (z:=15) (by kernel_rfl) ?_;have hS:w2.drew.cell? ⟨pb,2,none⟩=some (.map (some db))∧w2.drew.cell? ⟨b,2,none⟩=some (.int .i64 nm.2):=hS1;clear hS1;iterate 13(refine lS hS ?_;simp only[Act.put,ax,aD,aF])
     have hBk:Below w2.heap.size w2 ((w2.alloc (.cells #[.int .i64 0,.slice none 0 0] 140)).drew):=by repeat(first|exact ay _ _|apply gW|refine fA (p:=⟨_,_,none⟩) ?_ (by simp) _|refine fZ ?_ (by simp) _)
     refine bD 13 fun K hK=>?_;go_simp;refine hK.o _ _ (fun _=>(YR.o) _ ((mZ.o).trans (hBk.mono (mZ.o).size))) (fun hS2=>?_);clear hS hK K;have hS:=hS2 (by decide);clear hS2;refine bD 14 fun K hK=>?_;go_simp;refine hK.o _ _ (fun _=>hS) (fun _=>?_);clear hK K;obtain⟨w4,hrun,H4⟩:=(HF.o) w2.drew (mZ.o).drew;have hrun':(Instr.mapUpdate 50 (.map (some db)) (.agg #[.int .i64 f,.int .i64 nm.2]) (.agg #[.pointer (some ⟨b,0,none⟩),.pointer (some ⟨w2.heap.size,0,none⟩)])).run prog ((w2.alloc (.cells #[.int .i64 0,.slice none 0 0] 140)).drew)=.ok () w4:=hrun;clear hrun HF YR hBk;refine bD 15 fun K hK=>?_;go_simp;refine hK.o _ _ (fun h=>absurd rfl h) (fun _=>fB ?_);clear hK K hS hrun' mZ;go_wp2_with fail
     exact⟨⟨i+1,by simp,by omega,H4.o⟩,by simp[intOf];omega⟩
end
end
section
open Tryz
open Go.RowKit
open E (Kn comp jk)
open X (Nm Ex It)
variable{β:Nat}
section
variable{k:Kn}{w0 w w':World}{its:Nat→List It}{j:Nat}{iv:Value}{vs:List Value}{Lo Hi:Nat→Nat}{pb sb db:Nat}{gs:Int × Int→Option Value}{T:Int × Int→Nat}{dl dn:List Df}
structure Fl(β:Nat)(k:Kn)(w0 w:World)(its:Nat→List It)(pb sb db:Nat)(j:Nat)(iv:Value)(vs:List Value)(Lo Hi:Nat→Nat)(T:Int × Int→Nat)(dl dn:List Df):Prop where
 rp:Rp w0 w its pb sb db (fun p=>(k.sd p).map sV) j iv vs Lo Hi T dl
 fl:∀ p d,iX dn p=some d→∃ v,w.heap[T p]?=some (.cells #[.int .i64 (Jq d.ps:Nat),v] 140 (0,0))∧pV β w (QI T dl) T v (comp k d.f (pW d.ps []) 0 d.e)
 sub:∀ d,d∈dn→d∈dl
theorem Rp.tlt(h:Rp w0 w its pb sb db gs j iv vs Lo Hi T dl){q:Nat}(hq:QI T dl q):q<w.heap.size:=by
 obtain⟨p,d,h1,rfl⟩:=hq;obtain⟨x,y,e⟩:=(h.dm.td p d h1).2;exact aP e
theorem Fl.below(h:Fl β k w0 w its pb sb db j iv vs Lo Hi T dl dn)(hb:Below w.heap.size w w'):Fl β k w0 w' its pb sb db j iv vs Lo Hi T dl dn:=by
 refine⟨h.rp.below hb,fun p d hp=>?_,h.sub⟩;obtain⟨v,h1,h2⟩:=h.fl p d hp;exact⟨v,(hb.block _ (aP h1)).trans h1,h2.keep (Kv.aI hb)⟩
theorem Fl.sta(h:Fl β k w0 w its pb sb db j iv vs Lo Hi T dl dn)(hk:Yy k)(hdk:∀ p,k.dk p=(iX dl p).map (fun d=>d.ps.isSome))(hg:Gm w)(hβ:β≤w0.heap.size){hi:Nat}(hh:hi≤w.heap.size):TM β k T hi pb w:=by
 refine⟨hg,hh,hk,?_,bS hβ h.rp.lJ.size⟩;obtain⟨n1,hm⟩:=h.rp.ms;obtain⟨n2,gd,g1,g2,g3⟩:=h.rp.dm.mq;refine⟨sb,db,n1,n2,iv,gd,h.rp.blk,hm,g1,fun p hp=>?_,fun p z hp=>?_⟩
 ·rw[hdk] at hp
  exact g2 p (Option.map_eq_none_iff.1 hp)
 ·rw[hdk] at hp
  obtain⟨d,h1,h2⟩:=gI.1 hp;obtain⟨b,c,q,e1,e2,e3,e4⟩:=g3 p d h1;exact⟨(h.rp.dm.td p d h1).1,b,c,q,e1,e2,e3,e4.trans h2⟩
theorem Fl.put(h:Fl β k w0 w its pb sb db j iv vs Lo Hi T dl dn)(d:Df)(hd:d∈dl){sa:Option Addr}{cap:Nat}(hc:pV β w (QI T dl) T (.slice sa (comp k d.f (pW d.ps []) 0 d.e).length cap) (comp k d.f (pW d.ps []) 0 d.e)) :
  Fl β k w0 ((w.setCell ⟨T d.key,0,none⟩ (.int .i64 (Jq d.ps:Nat))).setCell ⟨T d.key,1,none⟩ (.slice sa (comp k d.f (pW d.ps []) 0 d.e).length cap)) its pb sb db j iv vs Lo Hi T dl (dn++[d]):=by
 obtain⟨d',hd'⟩:=ni hd;obtain⟨x,y,hbb⟩:=(h.rp.dm.td _ d' hd').2;have hkp:Kp (fun q=>q=T d.key) w ((w.setCell ⟨T d.key,0,none⟩ (.int .i64 (Jq d.ps:Nat))).setCell ⟨T d.key,1,none⟩ (.slice sa (comp k d.f (pW d.ps []) 0 d.e).length cap)):=On.set (On.set (Kp.refl _ w) 0 _) 1 _;have hset:=nM (x0:=.int .i64 (Jq d.ps:Nat)) (x1:=.slice sa (comp k d.f (pW d.ps []) 0 d.e).length cap) hbb;generalize ((w.setCell ⟨T d.key,0,none⟩ (.int .i64 (Jq d.ps:Nat))).setCell ⟨T d.key,1,none⟩ (.slice sa (comp k d.f (pW d.ps []) 0 d.e).length cap))=w2 at *;have hno:∀ {q:Nat} {c:Array Value} {t:TypeId} {f:Nat × Nat},w.heap[q]?=some (.cells c t f)→t≠140→¬ q=T d.key:=fun hq ht e=>by subst e;exact d_ hq hbb ht
 have hnm:∀ {q:Nat} {es:Array MapEntry} {cl:Nat},w.heap[q]?=some (.map es cl)→¬ q=T d.key:=fun hq e=>by subst e;exact sZ hq hbb
 have hTb:QI T dl (T d.key):=⟨_,d',hd',rfl⟩;have kv:Kv β (QI T dl) (QI T dl) w w2:=⟨hkp.mono (fun q _ e=>.inl (by rw[e];exact hTb)),fun b x hx=>hx.keep (fun b c hb=>hkp.heap hb (hno hb (by decide))),fun _ _ h=>h⟩;refine⟨⟨hkp.heap h.rp.blk (hno h.rp.blk (by decide)),?_,?_,?_,h.rp.lJ.trans (hkp.below h.rp.lJ.size (fun q e=>by rw[e];exact h.rp.lt _ d' hd')),h.rp.lo,h.rp.ne,h.rp.lt⟩,fun p d2 hp=>?_,fun x hx=>?_⟩
 ·obtain⟨n,hm⟩:=h.rp.ms
  obtain⟨es,cl,ho⟩:=hm.obj;exact⟨n,hm.keep hkp (hnm ho)⟩
 ·obtain⟨n,gd,g1,-⟩:=h.rp.dm.mq
  obtain⟨es,cl,ho⟩:=g1.obj;refine h.rp.dm.keep hkp (hnm ho) (fun q c hq=>hno hq (by decide)) (fun p d2 hp=>?_);by_cases e:T p=T d.key
  ·rw[e];exact⟨_,_,hset⟩
  ·obtain⟨x2,y2,e2⟩:=(h.rp.dm.td p d2 hp).2
   exact⟨x2,y2,hkp.heap e2 e⟩
 ·refine h.rp.fi.keep hkp (fun q e=>⟨.inl (.inr (.inr (.inr (by rw[e];exact hTb)))),own_ne h.rp.fi.row (fun⟨c,hc⟩=>?_)⟩)
  rw[e] at hc;exact d_ hc hbb (by decide)
 ·rw[jV] at hp
  split at hp
  ·next he =>
   cases hp
   rw[← he];exact⟨_,hset,hc.keep kv⟩
  ·next hne =>
   obtain⟨v,h1,h2⟩:=h.fl p d2 hp;by_cases e:T p=T d.key
   ·obtain⟨g1,g2⟩:=oO hp
    obtain⟨d3,g3⟩:=ni (h.sub d2 g1);rw[g2] at g3;exact absurd (h.rp.dm.ti p d.key d3 d' g3 hd' e) (iG hne)
   ·exact⟨v,hkp.heap h1 e,h2.keep kv⟩
 ·rcases cZ.1 hx with g|g
  ·exact h.sub x g
  ·rw[dR.1 g];exact hd
theorem QL(p q:Option Addr)(wx:World):(Instr.field 76 (.agg #[.pointer p,.pointer q]) 1).run prog wx=.ok (.pointer q) wx:=by kernel_rfl
theorem M0(f:Nat)(hf:f<j)(h:Fl β k w0 w its pb sb db j iv vs Lo Hi T dl dn)(hil:(its f).length≤268435456)(hg:Gm w0)(hβ:β≤w0.heap.size)(hk:Yy k)(hdk:∀ p,k.dk p=(iX dl p).map (fun d=>d.ps.isSome))(hsub:∀ d,d∈dI f (its f)→d∈dl)(aM5:∀ it∈its f,itD it) :
  Calls prog 17 #[.pointer (some ⟨pb,0,none⟩),.int .i64 f] w fun e w'=>e=.returned (.tuple #[])∧Hid (Fl β k w0 w' its pb sb db j iv vs Lo Hi T dl (dn++dI f (its f))):=by
 have hp:=h.rp;obtain⟨g,cap,ia,ic,rfl,hc1,hc2,hcell,-⟩:=hp.items hf;unfold maxLen at hc2;have c1:=ai w _ 1 _ _ _ hp.blk;have j0:(0:Int)≤(f:Int):=bU _;have j1:(f:Int)<(j:Int):=by omega
 have HP:Hid (Fl β k w0 w its pb sb db j (.slice (some ⟨g,0,none⟩) j cap) vs Lo Hi T dl (dn++dI f ((its f).take 0))∧w.cell? ⟨g,f,none⟩=some (.slice ia (its f).length ic)):=⟨by simpa [dI] using h,hcell⟩;have HK:=au hk;have HGm:=au hg;have HDK:=au hdk;have HSB:=au hsub;have HID:=au aM5;clear hp h hk hdk hsub aM5 hg;generalize hn:(its f).length=n at *;have HN:=au hn;clear hn;go_enter func17,ntmps17;go_wp2_with fail
 go_loopw [16] (fun v wr=>∃ i:Nat,v=.int .i64 i∧i≤n∧Hid (Fl β k w0 wr its pb sb db j (.slice (some ⟨g,0,none⟩) j cap) vs Lo Hi T dl (dn++dI f ((its f).take i))∧wr.cell? ⟨g,f,none⟩=some (.slice ia n ic))) (fun v _=>n - (intOf v).toNat)
 case atStart=>exact⟨0,rfl,aX _,HP⟩
 case round =>
  obtain⟨i,rfl,hi,H1⟩:=hrel;clear HP c1 hcell;by_cases hlt:i<n
  case neg =>
   have i1:decide (i<n)=false:=by simp;omega
   have i2:decide ((i:Int)<(n:Int))=false:=by simp;omega
   have HT:Hid ((its f).take i=its f):=lY (by have:=HN.o;omega);go_wp2_with fail
   go_end0;refine⟨rfl,?_⟩;have h1:=(H1.o).1;rw[HT.o] at h1;exact h1
  case pos =>
   have i1:decide (i<n)=true:=by simp;omega
   have i2:decide ((i:Int)<(n:Int))=true:=by simp;omega
   have k0:(0:Int)≤(i:Int):=bU _;have k1:(i:Int)<(n:Int):=by omega
   have hlen:=HN.o;have hgv:(its f)[i]?=some ((its f)[i]'(by omega)):=aC (by omega);have htk:(its f).take (i+1)=(its f).take i++[(its f)[i]'(by omega)]:=jZ (by omega);generalize (its f)[i]'(by omega)=it at hgv htk;have HGV:=au hgv;obtain⟨q,v,rfl,hv,HI⟩:=Rp.itm ⟨T,(H1.o).1.rp⟩ hf rfl (by rw[hlen];exact(H1.o).2) hgv;have hI:=HI.o;clear HI hgv hlen;cases hI with
   | use b pub gs' m nn a hb h =>
    have ha:=Jv b;have HF:Hid (Fl β k w0 wr its pb sb db j (.slice (some ⟨g,0,none⟩) j cap) vs Lo Hi T dl (dn++dI f ((its f).take (i+1)))∧wr.cell? ⟨g,f,none⟩=some (.slice (some ⟨q,0,none⟩) n ic)):=by rw[htk,QK];exact H1.o
    clear h hb H1 htk;go_wp2_with fail
    exact⟨⟨i+1,by simp,by omega,HF.o⟩,by simp[intOf];omega⟩
   | dfn b pub nm pv ps ev e hb h hpv he =>
    have ha:=Ju b;have d1:=ai wr _ 1 _ _ _ h;have d2:=ai wr _ 2 _ _ _ h;have hlb:=aP h;have HM:=au (iV nm.1 nm.2 wr);cases hne:nm.1.isEmpty with
    | true =>
     rw[hne] at HM;have HF:Hid (∀ wx,Below wr.heap.size wr wx→Fl β k w0 wx its pb sb db j (.slice (some ⟨g,0,none⟩) j cap) vs Lo Hi T dl (dn++dI f ((its f).take (i+1)))∧wx.cell? ⟨g,f,none⟩=some (.slice (some ⟨q,0,none⟩) n ic)):=fun wx hx=>by
      rw[htk,WZ _ _ _ _ _ _ (List.isEmpty_iff.1 hne)];exact⟨(H1.o).1.below hx,(aN (a:=⟨g,f,none⟩) (hx.block g (bG wr ⟨g,f,none⟩ (H1.o).2))).trans (H1.o).2⟩
     clear h hb H1 htk hpv he hne;go_wp2_with fail
     refine(HM.o).mono ?_;rintro en w2 ⟨rfl,k2⟩;have HF2:=au ((HF.o) w2 k2);clear HF k2 d1 d2 hlb HM hv;go_wp2_with fail
     exact⟨⟨i+1,by simp,by omega,HF2.o⟩,by simp[intOf];omega⟩
    | false =>
     rw[hne] at HM;have hn0:nm.1≠[]:=fun e=>by rw[e] at hne;cases hne
     have hdd:(⟨f,nm,ps,e⟩:Df)∈dl:=(HSB.o) _ (Ej f _ i pub nm ps e HGV.o hn0);obtain⟨d',hd'⟩:=ni hdd;obtain⟨t1,tx,ty,tb⟩:=(H1.o).1.rp.dm.td _ d' hd';obtain⟨n2,gd,m1,m2,m3⟩:=(H1.o).1.rp.dm.mq;obtain⟨bb,cc,cq,m4,-⟩:=m3 _ d' hd';obtain⟨x1,x2,x3,x4⟩:=(HID.o) _ (dh HGV.o);have HTT:=au hdd;have hLK:Hid (∀ wx,Mq wx db n2 gd→(Instr.lookup 50 (.map (some db)) (.agg #[.int .i64 f,.int .i64 nm.2]) false).run prog wx=.ok (.agg #[.pointer (some ⟨bb,0,none⟩),.pointer (some ⟨T (⟨f,nm,ps,e⟩:Df).key,0,none⟩)]) wx):=fun wx hx=>by
      have:=hx.look underlying50 (Jp wx) (⟨f,nm,ps,e⟩:Df).key false;rw[m4] at this;exact this
     obtain⟨ety,eb,rfl⟩:=he.iface;have d3:=ai wr _ 3 _ _ _ h;have d4:=ai wr _ 4 _ _ _ h;have hBC:=F6 (β:=β) (k:=k) (T:=T) (lo:=Lo f) (hi:=Hi f) (pb:=pb) e (ng e);have hrg:=((H1.o).1.rp.fi.rg f hf).2;have HBC:Hid (∀ wx,Below wr.heap.size wr wx→Calls prog 37 #[.pointer (some ⟨pb,0,none⟩),.int .i64 f,pv,.iface ety (.pointer (some ⟨eb,0,none⟩)),.pointer none] wx fun en w'=>∃ sa cap,en=.returned (.agg #[.int .i64 (Jq ps:Nat),.slice sa (comp k f (pW ps []) 0 e).length cap])∧Hid (Below wx.heap.size wx w'∧pV β w' (QI T dl) T (.slice sa (comp k f (pW ps []) 0 e).length cap) (comp k f (pW ps []) 0 e))):=fun wx hx=>by
      have hfl:=(H1.o).1.below hx;have hkx:Kp (fun _=>False) wr wx:=Kp.aI hx _;exact hBC wx (QI T dl) f [] pv _ (.pointer none) ps (hfl.sta HK.o HDK.o ((HGm.o).below hfl.rp.lJ) hβ (bS hrg hx.size)) (he.keep hkx (fun _ _ _=>id)) (o7.keep hpv hkx (fun _ _ _=>id)) .nil (fun q hq=>hfl.rp.tlt hq) x3 x4 (by omega) (by simp;omega)
     have YR:Hid (∀ wx,Below wr.heap.size wr wx→(wx.cell? ⟨pb,2,none⟩=some (.map (some db))∧wx.cell? ⟨b,2,none⟩=some (.int .i64 nm.2)∧wx.cell? ⟨b,3,none⟩=some pv∧wx.cell? ⟨b,4,none⟩=some (.iface ety (.pointer (some ⟨eb,0,none⟩))))∧Mq wx db n2 gd):=fun wx hx=>by
      have h1:=(H1.o).1.rp.below hx;have hB:=(hx.block b (aP h)).trans h;exact⟨⟨ai wx _ 2 _ _ _ h1.blk,ai wx _ 2 _ _ _ hB,ai wx _ 3 _ _ _ hB,ai wx _ 4 _ _ _ hB⟩,m1.below hx⟩
     have HTB:=au tb;have HT1:=au t1;have hpq:∃ pq,pv=.pointer pq:=by
      rcases hpv with ⟨e1,e2⟩|⟨l2,b2,e1,e2,-⟩
      ·exact⟨none,e2⟩
      ·exact⟨_,e2⟩
     obtain⟨pq,rfl⟩:=hpq;have HF:Hid (∀ w3,Below wr.heap.size wr w3→∀ sa cap',pV β w3 (QI T dl) T (.slice sa (comp k f (pW ps []) 0 e).length cap') (comp k f (pW ps []) 0 e)→Fl β k w0 ((w3.setCell ⟨T (⟨f,nm,ps,e⟩:Df).key,0,none⟩ (.int .i64 (Jq ps:Nat))).setCell ⟨T (⟨f,nm,ps,e⟩:Df).key,1,none⟩ (.slice sa (comp k f (pW ps []) 0 e).length cap')) its pb sb db j (.slice (some ⟨g,0,none⟩) j cap) vs Lo Hi T dl (dn++dI f ((its f).take (i+1)))∧((w3.setCell ⟨T (⟨f,nm,ps,e⟩:Df).key,0,none⟩ (.int .i64 (Jq ps:Nat))).setCell ⟨T (⟨f,nm,ps,e⟩:Df).key,1,none⟩ (.slice sa (comp k f (pW ps []) 0 e).length cap')).cell? ⟨g,f,none⟩=some (.slice (some ⟨q,0,none⟩) n ic)):=fun w3 hx sa cap' hcd=>by
      have hfl:=(H1.o).1.below hx;have hput:=hfl.put ⟨f,nm,ps,e⟩ hdd hcd;rw[htk,QJ _ _ _ _ _ _ hn0,← aA];refine⟨hput,?_⟩
      ·have hcx:w3.cell? ⟨g,f,none⟩=some (.slice (some ⟨q,0,none⟩) n ic):=(aN (a:=⟨g,f,none⟩) (hx.block g (bG wr ⟨g,f,none⟩ (H1.o).2))).trans (H1.o).2
       obtain⟨v1,z1,-⟩:=hput.rp.fi.it f hf;have hr1:=hput.rp.fi.row.cellAt f (by omega);have hr2:=hfl.rp.fi.row.cellAt f (by omega);rw[hr1,← hr2];exact hcx
     clear h hb H1 htk hpv he hne hn0 hBC m1 m2 m3 m4 hdd tb t1 d3 d4 hrg;go_wp2_with fail
     refine(HM.o).mono ?_;rintro en w2 ⟨rfl,k2⟩;have mZ:=au k2;clear d1 d2 hlb HM hv k2;go_wp2_with fail
     have hS1:=(YR.o) w2.drew (mZ.o).drew;refine bH (S:=fun w'=>(w'.cell? ⟨pb,2,none⟩=some (.map (some db))∧w'.cell? ⟨b,2,none⟩=some (.int .i64 nm.2)∧w'.cell? ⟨b,3,none⟩=some (.pointer pq)∧w'.cell? ⟨b,4,none⟩=some (.iface ety (.pointer (some ⟨eb,0,none⟩))))∧Mq w' db n2 gd) (z:=25) (by kernel_rfl) ?_;have hS:(w2.drew.cell? ⟨pb,2,none⟩=some (.map (some db))∧w2.drew.cell? ⟨b,2,none⟩=some (.int .i64 nm.2)∧w2.drew.cell? ⟨b,3,none⟩=some (.pointer pq)∧w2.drew.cell? ⟨b,4,none⟩=some (.iface ety (.pointer (some ⟨eb,0,none⟩))))∧Mq w2.drew db n2 gd:=hS1;clear hS1;iterate 11(refine lS hS ?_;simp only[Act.put,ax,aD,aF])
     refine vF (v:=?_) rfl rfl (by kernel_rfl) (by kernel_rfl) (by kernel_rfl) (by kernel_rfl) (by kernel_rfl) (fun _ _ _ h=>h) (Or.inl ⟨by rfl,?_⟩) hS ?_;rotate_left;(· (intro wx hSw;have hlk:=(hLK.o) wx (hSw.2);(try dsimp only at hSw);go_simp;try(with_reducible rfl)));simp only[Act.put,List.setIfInBounds_toArray,List.set_cons_zero,List.set_cons_succ];have hfd:=QL;iterate 11(refine lS hS ?_;simp only[Act.put,List.setIfInBounds_toArray,List.set_cons_zero,List.set_cons_succ])
     have HCB:=au ((HBC.o) w2.drew (mZ.o).drew);refine bD 23 fun K hK=>?_;go_simp;refine(HCB.o).mono ?_;rintro en w3 ⟨sa,cap',rfl,H3⟩;have hB3:Below wr.heap.size wr w3:=(mZ.o).trans (((ay _ w2).drew.trans (H3.o).1).mono (mZ.o).size);have PY:=(YR.o) w3 hB3;have HF3:=au ((HF.o) w3 hB3 sa cap' (H3.o).2);have hbk:=(hB3.block _ (aP HTB.o)).trans HTB.o;have fz:∀ x,w3.frozen? ⟨T (⟨f,nm,ps,e⟩:Df).key,x,none⟩=false:=fun x=>by simp[World.frozen?,hbk]
     have e0:=cell_of_row w3 _ 0 _ _ _ hbk;have e1:=cell_of_row w3 _ 1 _ _ _ hbk;dsimp only;refine hK.o _ _ (fun _=>PY) (fun _=>?_);clear hK K hS HCB H3 hB3 hbk HF YR HBC hLK HTB;generalize T (⟨f,nm,ps,e⟩:Df).key=tk at *;generalize (comp k f (pW ps []) 0 e).length=cl at *;refine bD 24 fun K hK=>?_;go_simp;refine hK.o _ _ (fun _=>PY) (fun _=>?_);clear hK K;refine bD 25 fun K hK=>?_;go_simp;refine hK.o _ _ (fun h=>absurd rfl h) (fun _=>fB ?_);clear hK K PY fz e0 e1;generalize (w3.setCell ⟨tk,0,none⟩ (.int .i64 (Jq ps:Nat))).setCell ⟨tk,1,none⟩ (.slice sa cl cap')=w4 at *;go_wp2_with fail
     exact⟨⟨i+1,by simp,by omega,HF3.o⟩,by simp[intOf];omega⟩
end
end
section
open Tryz
open Go.RowKit
open X (Nm Ex It)
section
variable{w0 w w':World}{its:Nat→List It}{j:Nat}{iv:Value}{vs:List Value}{Lo Hi:Nat→Nat}{pb sb db:Nat}{gs:Int × Int→Option Value}{T:Int × Int→Nat}{dl:List Df}
def w0P(w:World):World:=((w.alloc (.map #[] 0)).alloc (.map #[] 0)).alloc (.cells #[.map (some w.heap.size),.slice none 0 0,.map (some (w.heap.size+1))] 53)
theorem Rp.made(w:World)(its:Nat→List It):Rp w (w0P w) its (w.heap.size+2) w.heap.size (w.heap.size+1) (fun _=>none) 0 (.slice none 0 0) [] (fun _=>0) (fun _=>0) (fun _=>0) []:=by
 have hs:∀(x:World) (o:Obj),(x.alloc o).heap.size=x.heap.size+1:=fun x o=>by simp
 have m1:=Mq.made w;have m2:=Mq.made (w.alloc (.map #[] 0));rw[hs] at m2;have b1:=bQ w (.map #[] 0);have b2:=bQ (w.alloc (.map #[] 0)) (.map #[] 0);have b3:=bQ ((w.alloc (.map #[] 0)).alloc (.map #[] 0)) (.cells #[.map (some w.heap.size),.slice none 0 0,.map (some (w.heap.size+1))] 53);have hb:Below w.heap.size w (w0P w):=(b1.trans (b2.mono b1.size)).trans (b3.mono (b1.trans (b2.mono b1.size)).size);refine⟨?_,⟨0,(m1.below b2).below b3⟩,⟨⟨0,_,m2.below b3,fun p _=>rfl,fun p d h=>(by cases h)⟩,fun p d h=>(by cases h),fun p q d d' h=>(by cases h),fun _ _=>rfl⟩,⟨bY _ _ _ _,fun i hi=>(by omega),fun i hi=>(by omega),fun q _ i hi=>(by omega)⟩,hb,⟨by omega,by omega,by omega⟩,by omega,fun p d h=>(by cases h)⟩;have:=aB ((w.alloc (.map #[] 0)).alloc (.map #[] 0)) (.cells #[.map (some w.heap.size),.slice none 0 0,.map (some (w.heap.size+1))] 53);rw[hs,hs] at this;exact this
theorem Rp.stand(h:Rp w0 w its pb sb db gs j iv vs Lo Hi T dl)(p:Int × Int)(v:Value) :
  ∃ w',(Instr.mapUpdate 49 (.map (some sb)) (sV p) v).run prog w=.ok () w'∧Rp w0 w' its pb sb db (Jo gs p v) j iv vs Lo Hi T dl:=by
 obtain⟨n,hm⟩:=h.ms;obtain⟨es,cl,MX⟩:=hm.obj;obtain⟨w',hr,hm',hk⟩:=hm.put (MT:=49) underlying49 p v;have hkeep:∀ {q:Nat} {c:Array Value} {t:TypeId} {f:Nat × Nat},w.heap[q]?=some (.cells c t f)→w'.heap[q]?=some (.cells c t f):=fun hq=>hk.heap hq (fun e=>by subst e;exact sZ MX hq)
 refine⟨w',hr,hkeep h.blk,⟨_,hm'⟩,?_,?_,h.lJ.trans (hk.below h.lJ.size (fun q e=>by subst e;exact h.lo.2.1)),h.lo,h.ne,h.lt⟩
 ·exact h.dm.keep hk (fun e=>h.ne e.symm) (fun q c hq e=>by subst e;exact sZ MX hq) (fun p d hp=>by obtain⟨x,y,e⟩:=(h.dm.td p d hp).2;exact⟨x,y,hkeep e⟩)
 ·exact h.fi.keep hk (fun q e=>by subst e;exact⟨.inl (.inr (.inl rfl)),own_ne h.fi.row (fun⟨c,hc⟩=>sZ MX hc)⟩)
theorem Rp.file(h:Rp w0 w its pb sb db gs j iv vs Lo Hi T dl){w2 w7:World}{o:Obj}{v:Value}{lo g cap:Nat}(hb2:Below w.heap.size w w2)(hlo:w.heap.size≤lo)(hits:oV w2 lo w2.heap.size v (its j))
  (hown:w7.ownsRow w0.heap.size 58 1 (.slice (some ⟨g,0,none⟩) (j+1) cap) (j+1) (vs++[v])) (hgrow:(w2.alloc o).grownBy w7 iv.ownBlock) (hat:iv.ownBlock=some g∨g=w2.heap.size+1) :
  Rp w0 (w7.setCell ⟨pb,1,none⟩ (.slice (some ⟨g,0,none⟩) (j+1) cap)) its pb sb db gs (j+1) (.slice (some ⟨g,0,none⟩) (j+1) cap) (vs++[v]) (fun i=>if i=j then lo else Lo i) (fun i=>if i=j then w2.heap.size else Hi i) T dl:=by
 have h2:=h.below hb2;have hs0:=h.lJ.size;have s2:=hb2.size;have hvl:vs.length=j:=by have:=h.fi.row.1;omega
 have hio:∀ q,iv.ownBlock=some q→w0.heap.size≤q∧q<w.heap.size:=fun q hq=>dV h.fi.row q hq
 have hk1:Kp (fun q=>iv.ownBlock=some q) w2 w7:=Kp.grown (Kp.alloc (Kp.refl _ w2) o) hgrow (fun q e _=>e);have hpl:pb<w.heap.size:=aP h.blk;have hk:Kp (fun q=>iv.ownBlock=some q∨q=pb) w2 (w7.setCell ⟨pb,1,none⟩ (.slice (some ⟨g,0,none⟩) (j+1) cap)):=Kp.setCell (hk1.mono (fun q _ e=>.inl e)) (p:=⟨pb,1,none⟩) (fun _=>.inr rfl) _;have hrow:∀ q,iv.ownBlock=some q→∃ c,w2.heap[q]?=some (.cells c 58 (0,0)):=fun q hq=>eX h2.fi.row hq
 have hip:iv.ownBlock≠some pb:=fun e=>by obtain⟨c,hc⟩:=hrow pb e;exact d_ hc h2.blk (by decide)
 have hno:∀ {q:Nat} {c:Array Value} {t:TypeId} {f:Nat × Nat},w2.heap[q]?=some (.cells c t f)→t≠58→t≠53→¬(iv.ownBlock=some q∨q=pb):=fun hq h1 h3 e=>by
  rcases e with e|rfl
  ·obtain⟨c2,hc2⟩:=hrow _ e;exact d_ hq hc2 h1
  ·exact d_ hq h2.blk h3
 have hnm:∀ {q:Nat} {es:Array MapEntry} {cl:Nat},w2.heap[q]?=some (.map es cl)→¬(iv.ownBlock=some q∨q=pb):=fun hq e=>by
  rcases e with e|rfl
  ·obtain⟨c2,hc2⟩:=hrow _ e;exact sZ hq hc2
  ·exact sZ hq h2.blk
 have Vd:g≠pb:=by
  rcases hat with e|e
  ·exact fun e'=>hip (e' ▸ e)
  ·omega
 have h7:w7.heap[pb]?=some (.cells #[.map (some sb),iv,.map (some db)] 53 (0,0)):=hk1.heap h2.blk hip;have hsz:=hk.size;refine⟨by simp[World.setCell,aK,h7],?_,?_,?_,?_,h.lo,h.ne,h.lt⟩
 ·obtain⟨n,hm⟩:=h2.ms
  obtain⟨es,cl,ho⟩:=hm.obj;exact⟨n,hm.keep hk (hnm ho)⟩
 ·obtain⟨n,gd,g1,-⟩:=h2.dm.mq
  obtain⟨es,cl,ho⟩:=g1.obj;exact h2.dm.keep hk (hnm ho) (fun q c hq=>hno hq (by decide) (by decide)) (fun p d hp=>by obtain⟨x,y,e⟩:=(h2.dm.td p d hp).2;exact⟨x,y,hk.heap e (hno e (by decide) (by decide))⟩)
 ·refine⟨bV hown (by simp[Value.ownBlock];exact Vd) _,fun i hi=>?_,fun i hi=>?_,fun q e i hi=>?_⟩
  ·by_cases hij:i=j
   ·subst hij
    refine⟨v,by rw[aQ (by omega),hvl,uR];rfl,?_⟩;rw[aL rfl,aL rfl];refine hits.LY hk (fun q q1 q2 e=>?_);rcases e with e|rfl
    ·have:=(hio q e).2;omega
    ·omega
   ·obtain⟨v2,x1,x2⟩:=h2.fi.it i (by omega)
    refine⟨v2,by rw[aU (by omega)];exact x1,?_⟩;rw[aG hij,aG hij];refine x2.LY hk (fun q q1 q2 e=>?_);rcases e with e|rfl
    ·exact h2.fi.far q (.inr e) i (by omega) ⟨q1,q2⟩
    ·exact h2.fi.far q (.inl (.inl rfl)) i (by omega) ⟨q1,q2⟩
  ·by_cases hij:i=j
   ·rw[aL hij,aL hij];exact⟨by omega,by omega⟩
   ·rw[aG hij,aG hij]
    have:=h2.fi.rg i (by omega);exact⟨this.1,by omega⟩
  ·have hlt:(q=pb∨q=sb∨q=db∨QI T dl q)→q<w.heap.size:=fun e=>by
    rcases e with rfl|rfl|rfl|e
    ·exact hpl
    ·obtain⟨n,hm⟩:=h.ms;exact hm.lt
    ·obtain⟨n,gd,g1,-⟩:=h.dm.mq;exact g1.lt
    ·exact h.tlt e
   by_cases hij:i=j
   ·rw[aL hij,aL hij]
    rcases e with e|e
    ·have:=hlt e;omega
    ·simp only[Value.ownBlock,eH] at e
     subst e;rcases hat with e2|e2
     ·have:=(hio _ e2).2;omega
     ·omega
   ·rw[aG hij,aG hij]
    rcases e with e|e
    ·exact h2.fi.far q (.inl e) i (by omega)
    ·simp only[Value.ownBlock,eH] at e
     subst e;rcases hat with e2|e2
     ·exact h2.fi.far _ (.inr e2) i (by omega)
     ·have:=(h2.fi.rg i (by omega)).2;omega
 ·refine h2.lJ.trans (hk.below h2.lJ.size (fun q e=>?_))
  rcases e with e|rfl
  ·exact(hio q e).1
  ·exact h.lo.1
end
end
section
open Tryz
open Go.RowKit
open M
open E (Kn comp jk)
open X (Nm Ex It)
variable{l:List AF}{us:List X.U}{i:Nat}{u:X.U}
variable{β:Nat}
theorem QM(h:o8 l=0):∀ a∈l,a.t.size≤20000:=by
 intro a ha;unfold o8 at h;by_cases h1:16<l.length
 ·rw[aL h1] at h;cases h
 ·rw[aG h1] at h
  by_cases h2:l.any (fun a=>decide (20000<a.t.size))=true
  ·rw[aL h2] at h;cases h
  ·rcases bE 20000 a.t.size with g|g
   ·exact absurd (rX.2 ⟨a,ha,by simpa using g⟩) h2
   ·exact g
theorem QN(h:o8 l=0)(f:Nat):∀ it∈X.aM (dD l) f,itD it:=by
 rcases bE f l.length with g|g
 ·have ha:=aC g
  rw[qG ha];have hz:=QM h l[f] (List.getElem_mem g);obtain⟨p1,p2⟩:=Fu (x:=bs l[f].t) (by rw[eZ];omega);refine aM4 (X.sJ _) ?_ p2 (X.Cx _);rw[Dy,X.q9,X.KF,eZ];exact hz
 ·rw[xg g]
  exact fun it hit=>by cases hit
def Cy(β:Nat)(l:List AF)(w:World)(pb:Nat)(w':World):Prop:=∃ sb db iv vs Lo Hi T,Fl β (BA (dD l)) w w' (X.aM (dD l)) pb sb db l.length iv vs Lo Hi T (dT (dD l) l.length) (dT (dD l) l.length)
theorem K9(hu:us[i]?=some u):us.take (i+1)=us.take i++[u]:=by
 obtain⟨h,rfl⟩:=dP.1 hu;exact jZ h
theorem YS(hu:us[i]?=some u)(h1:u.s=6)(h2:0≤u.tt):(fun p=>(MU (us.take (i+1)) p).map sV)=Jo (fun p=>(MU (us.take i) p).map sV) ((u.f:Int),(u.i:Int)) (sV (u.tf,u.tt)):=by
 rw[K9 hu,F8,aL ⟨h1,h2⟩];funext p;unfold Jo;by_cases e:p=((u.f:Int),(u.i:Int))
 ·simp only[aL e];rfl
 ·simp only[aG e]
theorem W_(hu:us[i]?=some u)(h1:¬(u.s=6∧0≤u.tt)):(fun p=>(MU (us.take (i+1)) p).map sV)=fun p=>(MU (us.take i) p).map sV:=by
 rw[K9 hu,F8,aG h1]
theorem YT:(prog.info? 58).map (fun i=>(i.zero,i.size,i.bytes))=some (some (.slice none 0 0),1,24):=by kernel_rfl
section
variable{w w':World}
def QO(l:List AF)(w wr:World)(i:Nat):Prop:=Rp w wr (X.aM (dD l)) (w.heap.size+2) w.heap.size (w.heap.size+1) (fun p=>(MU ((X.jf (dD l)).take i) p).map sV) 0 (.slice none 0 0) [] (fun _=>0) (fun _=>0) (fun _=>0) []
def Ve(l:List AF)(w wr:World)(j:Nat):Prop:=∃ iv vs Lo Hi,Oj w wr (X.aM (dD l)) (w.heap.size+2) w.heap.size (w.heap.size+1) (fun p=>(MU (X.jf (dD l)) p).map sV) j iv vs Lo Hi (dT (dD l) j)
def YU(β:Nat)(l:List AF)(w wr:World)(j:Nat):Prop:=∃ iv vs Lo Hi T,Fl β (BA (dD l)) w wr (X.aM (dD l)) (w.heap.size+2) w.heap.size (w.heap.size+1) l.length iv vs Lo Hi T (dT (dD l) l.length) (dT (dD l) j)
theorem QO.lJ{l:List AF}{w wr:World}{i:Nat}(h:QO l w wr i):Below w.heap.size w wr:=Rp.lJ h
theorem QO.done{w wr:World}(h:QO l w wr i)(hi:(X.jf (dD l)).length≤i):Ve l w wr 0:=by
 unfold QO at h;rw[lY hi] at h;exact⟨_,_,_,_,_,h⟩
theorem Ve.done{w wr:World}(h:Ve l w wr l.length):YU β l w wr 0:=by
 obtain⟨iv,vs,Lo,Hi,T,h⟩:=h;exact⟨iv,vs,Lo,Hi,T,h,fun p d hp=>(by cases hp),fun d hd=>(by cases hd)⟩
theorem YU.done{w wr:World}(h:YU β l w wr l.length):Cy β l w (w.heap.size+2) wr:=by
 obtain⟨iv,vs,Lo,Hi,T,h⟩:=h;exact⟨_,_,iv,vs,Lo,Hi,T,h⟩
theorem M4(ao:Option Addr)(cap:Nat)(l:List AF)(nv:Value){B:Nat}(hg:Gm w)(hβ:β≤w.heap.size)(hA:qF w w.heap.size ao l)(hf:o8 l=0)(hN:w.ownsRow B 55 6 nv (X.jf (dD l)).length (BP (X.jf (dD l))))(hnl:(X.jf (dD l)).length≤1073741824) :
  Calls prog 7 #[.slice ao l.length cap,nv] w fun e w'=>∃ pb,e=.returned (.pointer (some ⟨pb,0,none⟩))∧Hid (Cy β l w pb w'):=by
 obtain⟨i0,hi0,hz0,hz1,hz2⟩:=gB YT;obtain⟨hn16,hsh,hok,hpw⟩:=DF hf;have HG:=au hg;have HL:=au hA;have HF:=au hf;have TF:=au hsh;have HI0:Hid (QO l w (w0P w) 0):=Rp.made w _;have hws:8≤w.heap.size:=hg.1.2.1.lt;have hform:∃ na nc,nv=.slice na (X.jf (dD l)).length nc:=by
  rcases hN.2 with ⟨e,e2⟩|⟨g',cap',cur,e,-⟩
  ·exact⟨none,0,by rw[e,e2]⟩
  ·exact⟨_,_,e⟩
 obtain⟨na,nc,rfl⟩:=hform;have HU:Hid (∀(i:Nat) (u:X.U),(X.jf (dD l))[i]?=some u→_):=fun i u hu=>Mv hN hu
 generalize hun:(X.jf (dD l)).length=un at *;have HUN:=au hun;generalize hln:l.length=ln at *;have Yz:=au hln;clear hg hA hf hsh hok hpw hN hun hln;have hmS:∀ wx,(Instr.makeMap 49 none).run prog wx=.ok (.map (some wx.heap.size)) (wx.alloc (.map #[] 0)):=fun _=>by kernel_rfl
 have hmD:∀ wx,(Instr.makeMap 50 none).run prog wx=.ok (.map (some wx.heap.size)) (wx.alloc (.map #[] 0)):=fun _=>by kernel_rfl
 go_enter func7,ntmps7;go_wp2_with fail
 change Code.wp _ _ _ _ (w0P w);go_loopw [17] (fun v wr=>∃ i:Nat,v=.int .i64 i∧i≤un∧Hid (QO l w wr i)) (fun v _=>un - (intOf v).toNat)
 case atStart=>exact⟨0,rfl,aX _,HI0⟩
 case round =>
  obtain⟨i,rfl,hi,H1⟩:=hrel;clear HI0;by_cases hlt:i<un
  case pos =>
   have i1:decide (i<un)=true:=by simp;omega
   have i2:decide ((i:Int)<(un:Int))=true:=by simp;omega
   have k0:(0:Int)≤(i:Int):=bU _;have k1:(i:Int)<(un:Int):=by omega
   obtain⟨u,hu⟩:∃ u,(X.jf (dD l))[i]?=some u:=⟨_,aC (by have:=HUN.o;omega)⟩;obtain⟨g,cap2,e1,e2,e3,e4,u0,u1,u2,u3,u4,u5⟩:=(HU.o) i u hu;injection e1 with e1 e5 e6;subst e1 e6;clear e5;have hbl:=(H1.o).lJ;have v0:=pU hbl e4 u0;have v1:=pU hbl e4 u1;have v2:=pU hbl e4 u2;have v3:=pU hbl e4 u3;have v4:=pU hbl e4 u4;have v5:=pU hbl e4 u5;have hnw:=aB wr (.cells #[.int .i64 u.f,.int .i64 u.i,.int .i64 u.s,.int .i64 u.tf,.int .i64 u.tt,.int .i64 u.e] 55);have hba:=bQ wr (.cells #[.int .i64 u.f,.int .i64 u.i,.int .i64 u.s,.int .i64 u.tf,.int .i64 u.tt,.int .i64 u.e] 55);have YV:Hid (Rp w (wr.alloc (.cells #[.int .i64 u.f,.int .i64 u.i,.int .i64 u.s,.int .i64 u.tf,.int .i64 u.tt,.int .i64 u.e] 55)) (X.aM (dD l)) (w.heap.size+2) w.heap.size (w.heap.size+1) (fun p=>(MU ((X.jf (dD l)).take i) p).map sV) 0 (.slice none 0 0) [] (fun _=>0) (fun _=>0) (fun _=>0) []):=Rp.below H1.o hba;have x0:=ai _ _ 0 _ _ _ hnw;have x1:=ai _ _ 1 _ _ _ hnw;have x2:=ai _ _ 2 _ _ _ hnw;have x3:=ai _ _ 3 _ _ _ hnw;have x4:=ai _ _ 4 _ _ _ hnw;have x5:=ai _ _ 0 _ _ _ (YV.o).blk;clear u0 u1 u2 u3 u4 u5 hbl hnw hba H1;by_cases hs6:u.s=6
   ·have p1:((u.s:Int)==6)=true:=by simp[hs6]
    by_cases ht0:0≤u.tt
    ·have p2:decide (0≤u.tt)=true:=by simpa using ht0
     obtain⟨w4,hrun,h4⟩:=((YV.o).below (ay _ _).drew).stand ((u.f:Int),(u.i:Int)) (sV (u.tf,u.tt));have H4:Hid (QO l w w4 (i+1)):=by
      show Rp _ _ _ _ _ _ _ _ _ _ _ _ _ _;rw[YS hu hs6 ht0];exact h4
     have hrun':(Instr.mapUpdate 49 (.map (some w.heap.size)) (.agg #[.int .i64 u.f,.int .i64 u.i]) (.agg #[.int .i64 u.tf,.int .i64 u.tt])).run prog (wr.alloc (.cells #[.int .i64 u.f,.int .i64 u.i,.int .i64 u.s,.int .i64 u.tf,.int .i64 u.tt,.int .i64 u.e] 55)).drew=.ok () w4:=hrun;clear h4 hs6 ht0 hu YV hrun;go_wp2_with fail
     generalize wr.alloc (.cells #[.int .i64 u.f,.int .i64 u.i,.int .i64 u.s,.int .i64 u.tf,.int .i64 u.tt,.int .i64 u.e] 55)=Wa at *;generalize wr.heap.size=ub at *;refine bH (S:=fun w'=>w'.cell? ⟨w.heap.size+2,0,none⟩=some (.map (some w.heap.size))∧w'.cell? ⟨ub,0,none⟩=some (.int .i64 u.f)∧w'.cell? ⟨ub,1,none⟩=some (.int .i64 u.i)∧w'.cell? ⟨ub,3,none⟩=some (.int .i64 u.tf)∧w'.cell? ⟨ub,4,none⟩=some (.int .i64 u.tt)) (z:=14) (by kernel_rfl) ?_;have hS:Wa.drew.cell? ⟨w.heap.size+2,0,none⟩=some (.map (some w.heap.size))∧Wa.drew.cell? ⟨ub,0,none⟩=some (.int .i64 u.f)∧Wa.drew.cell? ⟨ub,1,none⟩=some (.int .i64 u.i)∧Wa.drew.cell? ⟨ub,3,none⟩=some (.int .i64 u.tf)∧Wa.drew.cell? ⟨ub,4,none⟩=some (.int .i64 u.tt):=⟨x5,x0,x1,x3,x4⟩;iterate 14(refine lS hS ?_;simp only[Act.put,ax,aD,aF])
     refine bD 14 fun K hK=>?_;go_simp;refine hK.o _ _ (fun h=>absurd rfl h) (fun _=>fB ?_);clear hK K hS hrun' x0 x1 x2 x3 x4 x5;go_wp2_with fail
     exact⟨⟨i+1,by simp,by omega,H4.o⟩,by simp[intOf];omega⟩
    ·have p2:decide (0≤u.tt)=false:=by simpa using ht0
     have H4:Hid (QO l w (wr.alloc (.cells #[.int .i64 u.f,.int .i64 u.i,.int .i64 u.s,.int .i64 u.tf,.int .i64 u.tt,.int .i64 u.e] 55)) (i+1)):=by
      show Rp _ _ _ _ _ _ _ _ _ _ _ _ _ _;rw[W_ hu (fun e=>ht0 e.2)];exact YV.o
     clear hs6 ht0 hu YV;generalize AP:(u.s:Int)=us at *;clear AP;go_wp2_with fail
     exact⟨⟨i+1,by simp,by omega,H4.o⟩,by simp[intOf];omega⟩
   ·have p1:((u.s:Int)==6)=false:=by simp;omega
    have H4:Hid (QO l w (wr.alloc (.cells #[.int .i64 u.f,.int .i64 u.i,.int .i64 u.s,.int .i64 u.tf,.int .i64 u.tt,.int .i64 u.e] 55)) (i+1)):=by
     show Rp _ _ _ _ _ _ _ _ _ _ _ _ _ _;rw[W_ hu (fun e=>hs6 e.1)];exact YV.o
    clear hs6 hu YV;generalize AP:(u.s:Int)=us at *;clear AP;go_wp2_with fail
    exact⟨⟨i+1,by simp,by omega,H4.o⟩,by simp[intOf];omega⟩
  case neg =>
   have i1:decide (i<un)=false:=by simp;omega
   have i2:decide ((i:Int)<(un:Int))=false:=by simp;omega
   have HJ0:Hid (Ve l w wr 0):=QO.done H1.o (by have:=HUN.o;omega);clear H1 HU HUN i1 hmS hmD;go_wp2_with fail
   go_loopw [46] (fun v wr=>∃ j:Nat,v=.int .i64 j∧j≤ln∧Hid (Ve l w wr j)) (fun v _=>ln - (intOf v).toNat)
   case atStart=>exact⟨0,rfl,aX _,HJ0⟩
   case round =>
    obtain⟨j,rfl,hj,H1⟩:=hrel;clear HJ0;by_cases hjl:j<ln
    case pos =>
     have i3:decide (j<ln)=true:=by simp;omega
     have i4:decide ((j:Int)<(ln:Int))=true:=by simp;omega
     have k0:(0:Int)≤(j:Int):=bU _;have k1:(j:Int)<(ln:Int):=by omega
     obtain⟨a,ha⟩:∃ a,l[j]?=some a:=⟨_,aC (by have:=Yz.o;omega)⟩;obtain⟨iv,vs,Lo,Hi,T,hR⟩:=H1.o;clear H1;obtain⟨b,o,e1,e2,e3,e4⟩:=(HL.o).below hR.lJ j a ha;subst e1;have hts:a.t.size≤1000000:=(TF.o) a (dh ha);have HZ:Hid (X.iM (X.file (X.xt (bs a.t)))≤268435456∧X.pb (X.file (X.xt (bs a.t)))=bs a.t):=by
      have hll:(X.xt (bs a.t)).length≤a.t.size:=by
       have:=sw _ 0 (bs a.t) (aj _);rw[eZ] at this;unfold X.xt;rw[eG];exact this
      exact⟨by have:=X.zL (X.xt (bs a.t));omega,by rw[X.q9,X.KF]⟩
     have kF:Below wr.heap.size wr (wr.alloc (.cells #[.string a.n,.string a.t] 30)):=bQ wr _;have Dx:=aB wr (.cells #[.string a.n,.string a.t] 30);have n1:(wr.alloc (.cells #[.string a.n,.string a.t] 30)).cell? ⟨wr.heap.size,1,none⟩=some (.string a.t):=ai _ _ 1 _ _ _ Dx;have hlt2:=aP Dx;have HNw:=au (xX a.t (wr.alloc (.cells #[.string a.n,.string a.t] 30)).drew ((HG.o).1.1.below ((hR.lJ.alloc hR.lJ.size _).drew)) (by omega));have hblk:=hR.blk;have m1:(wr.alloc (.cells #[.string a.n,.string a.t] 30)).cell? ⟨w.heap.size+2,1,none⟩=some iv:=Lib.cell?_alloc_some _ (ai _ _ 1 _ _ _ hblk);have hlp:=aP hblk;have Z9:w.heap.size≤wr.heap.size:=hR.lJ.size;have hrs:∃ fa fn fc,iv=.slice fa fn fc:=by
      rcases hR.fi.row.2 with ⟨e,-⟩|⟨g',cap',cur,e,-⟩
      ·exact⟨_,_,_,e⟩
      ·exact⟨_,_,_,e⟩
     obtain⟨fa,fn,fc,rfl⟩:=hrs;have HR:=au hR;have Ig:=au kF;have bC6:Hid (X.aM (dD l) j=X.mX (bs a.t)):=qG ha;clear hR kF Dx hblk ha;go_wp2_with fail
     generalize wr.alloc (.cells #[.string a.n,.string a.t] 30)=Wa at *;refine bH (S:=fun w'=>w'.cell? ⟨w.heap.size+2,1,none⟩=some (.slice fa fn fc)∧w'.cell? ⟨wr.heap.size,1,none⟩=some (.string a.t)) (z:=13) (by kernel_rfl) ?_;have hS:Wa.drew.cell? ⟨w.heap.size+2,1,none⟩=some (.slice fa fn fc)∧Wa.drew.cell? ⟨wr.heap.size,1,none⟩=some (.string a.t):=⟨m1,n1⟩;iterate 7(refine lS hS ?_;simp only[Act.put,ax,aD,aF])
     refine bD 7 fun K hK=>?_;go_simp;refine(HNw.o).mono ?_;rintro e w1 ⟨tb,rfl,H1⟩;have B1:Below Wa.heap.size Wa w1:=((Below.refl _ Wa).drew).trans (H1.o).2;have hKs:=(Ig.o).size;have m11:=pU B1 (by omega) m1;have n11:=pU B1 (by omega) n1;have hs1:=B1.size;have WQ:=au (zN tb a.t (X.mX (bs a.t)) w1 (H1.o).1 (HZ.o).1 (HZ.o).2 (by omega) (X.sJ _));dsimp only;refine hK.o _ _ (fun _=>⟨m11,n11⟩) (fun hS2=>?_);clear hS hK K hS2;refine bD 8 fun K hK=>?_;go_simp;refine(WQ.o).mono ?_;rintro e w2 ⟨rv,rfl,H2⟩;have Pn:∃ ia ic,rv=.slice ia (X.mX (bs a.t)).length ic:=by
      obtain⟨ia,ic,-,e,-⟩:=(H2.o).1.ex;exact⟨ia,ic,e⟩
     obtain⟨ia,ic,rfl⟩:=Pn;have B2:=(H2.o).2;have m12:=pU B2 (by omega) m11;have n12:=pU B2 (by omega) n11;have hs2:=B2.size;have HB2:Hid (Below wr.heap.size wr w2):=(Ig.o).trans ((B1.trans (B2.mono hs1)).mono (Ig.o).size);have HIT:=au (H2.o).1;have OW:=au ((Kp.aI HB2.o (fun _=>False)).owns (HR.o).fi.row (fun _ _=>id));dsimp only;refine hK.o _ _ (fun _=>⟨m12,n12⟩) (fun hS2=>?_);clear hK K H1 H2 WQ B1 B2 m1 n1 m11 n11 HNw;have hS:=hS2 (by decide);clear hS2;generalize (X.mX (bs a.t)).length=il at *;refine bD 9 fun K hK=>?_;go_simp;refine hK.o _ _ (fun _=>by first|go_keep|(dsimp only;go_keep)) (fun hS2=>?_);clear hS hK K;have hS:=hS2 (by decide);clear hS2;refine bD 10 fun K hK=>?_;refine step_append_lies _ (by rfl) _ _ _ (by rfl) w.heap.size 58 i0 _ 1 24 underlying51 hi0 hz0 hz1 hz2 rfl (by omega) (.slice fa fn fc) j _ (by rfl) ((OW.o).alloc _)
      ⟨w2.heap.size,0,none⟩ 1 1 [.slice ia il ic] (by rfl) (by rfl) (World.news_of_block (cs:=#[.slice ia il ic]) (t:=58) (fr:=(0,0)) (aB w2 _)) (by simp[Value.oneCell'])
      (by omega) (by unfold maxLen;omega) (by omega) (by simp;omega) (w2.heap.size+1) (by simp) ?_
     intro g Bg w7 lQ gH uj DC;have hwf:some wr.heap.size≠(Value.slice fa fn fc).ownBlock:=fun e=>by have:=(dV (HR.o).fi.row _ e.symm).2;omega
     have hpf:some (w.heap.size+2)≠(Value.slice fa fn fc).ownBlock:=fun e=>by obtain⟨c,hc⟩:=eX (HR.o).fi.row e.symm;exact d_ hc (HR.o).blk (by decide)
     have y0:=(gH.cell_far ⟨w.heap.size+2,1,none⟩ (by simp;omega) hpf).trans hS.1;have y1:=(gH.cell_far ⟨wr.heap.size,1,none⟩ (by simp;omega) hwf).trans hS.2;have f7:w7.frozen? ⟨w.heap.size+2,1,none⟩=false:=(gH.frozen_far ⟨w.heap.size+2,1,none⟩ (by simp;omega) hpf).trans ((bN _ _ ⟨w.heap.size+2,1,none⟩ (by show w.heap.size+2≠_;omega)).trans (by have:=((HB2.o).block _ hlp).trans (HR.o).blk;simp[World.frozen?,this]));show K (Act.put _ (some 61) _) w7;refine hK.o _ _ (fun _=>⟨y0,y1⟩) (fun hS2=>?_);clear hS hK K;have hS:=hS2 (by decide);clear hS2;simp only[Act.put,ax,aD,aF];refine bD 11 fun K hK=>?_;go_simp;refine hK.o _ _ (fun _=>hS) (fun _=>?_);clear hK K;refine bD 12 fun K hK=>?_;go_simp;refine hK.o _ _ (fun _=>hS) (fun _=>?_);clear hK K;refine bD 13 fun K hK=>?_;go_simp;refine hK.o _ _ (fun h=>absurd rfl h) (fun _=>fB ?_);clear hK K;have Z_:=au ((HR.o).file (lo:=w1.heap.size) (o:=.cells #[.slice ia il ic] 58) HB2.o (by omega) (by rw[bC6.o];exact HIT.o) lQ gH (by rcases uj with e|e;exact .inl e;exact .inr (by rw[e])));have TH:=au (MZ j (Nat.lt_succ_self j) ⟨_,Z_.o⟩ (sK TF.o j).2.1 (by omega));clear lQ gH uj DC y0 y1 hS m12 n12 OW HIT HR Ig Z_ f7;generalize w7.setCell ⟨w.heap.size+2,1,none⟩ (.slice (some ⟨g,0,none⟩) (j+1) Bg)=w8 at *;go_wp2_with fail
     refine(TH.o).mono ?_;rintro en w9 ⟨rfl,H9⟩;have H10:Hid (Ve l w w9 (j+1)):=by
      have h9:=H9.o;rw[← KZ] at h9;exact⟨_,_,_,_,h9⟩
     clear TH H9;go_wp2_with fail
     exact⟨⟨j+1,by simp,by omega,H10.o⟩,by simp[intOf];omega⟩
    case neg =>
     have i3:decide (j<ln)=false:=by simp;omega
     have i4:decide ((j:Int)<(ln:Int))=false:=by simp;omega
     have HB0:Hid (YU β l w wr 0):=by
      have h1:=H1.o;obtain rfl:j=l.length:=by have:=Yz.o;omega
      exact Ve.done h1
     clear H1 i3 HL;go_wp2_with fail
     go_loopw [70] (fun v wr=>∃ m:Nat,v=.int .i64 m∧m≤ln∧Hid (YU β l w wr m)) (fun v _=>ln - (intOf v).toNat)
     case atStart=>exact⟨0,rfl,aX _,HB0⟩
     case round =>
      obtain⟨m,rfl,hm,H1⟩:=hrel;clear HB0;by_cases hml:m<ln
      case pos =>
       have i5:decide (m<ln)=true:=by simp;omega
       have i6:decide ((m:Int)<(ln:Int))=true:=by simp;omega
       obtain⟨iv,vs,Lo,Hi,T,hR⟩:=H1.o;have hll:=Yz.o;have HFl:=au (M0 m (by omega) hR (sK TF.o m).2.1 HG.o hβ (YP _) (fun p=>by show(iX (dT (dD l) (dD l).length) p).map _=_;rw[nL]) (fun d hd=>kX.2 ⟨m,gD.2 (by omega),hd⟩) (QN HF.o m));clear H1 hR hll;go_wp2_with fail
       refine(HFl.o).mono ?_;rintro en w9 ⟨rfl,H9⟩;have H10:Hid (YU β l w w9 (m+1)):=by
        have h9:=H9.o;rw[← KZ] at h9;exact⟨_,_,_,_,_,h9⟩
       clear HFl H9;go_wp2_with fail
       exact⟨⟨m+1,by simp,by omega,H10.o⟩,by simp[intOf];omega⟩
      case neg =>
       have i5:decide (m<ln)=false:=by simp;omega
       have i6:decide ((m:Int)<(ln:Int))=false:=by simp;omega
       have HE:Hid (Cy β l w (w.heap.size+2) wr):=by
        have h1:=H1.o;obtain rfl:m=l.length:=by have:=Yz.o;omega
        exact YU.done h1
       clear H1;go_wp2_with fail
       go_ret;exact⟨_,rfl,HE⟩
end
end
section
open Tryz
open Go.RowKit
open M
open E (Kn comp jk)
open X (Nm Ex It U)
def YW:It→Option Nm
 | .dfn _ n none _=>some n
 | .dfn _ _ (some _) _=>none
 | .use _ _ _ _ _=>none
def lK(x:ah):List It→Option Nm
 | []=>none
 | it::l=>if (X.called it).1=[]∨(X.called it).1≠x then lK x l else YW it
theorem F_{x:ah}:∀ {l:List It} {n:Nm},lK x l=some n→∃(k:Nat) (pub:Bool) (e:Ex),l[k]?=some (It.dfn pub n none e)∧n.1≠[]
 | [],n,h=>by cases h
 | it::l,n,h=>by
  rw[lK] at h
  split at h
  ·obtain⟨k,pub,e,h1,h2⟩:=F_ h
   exact⟨k+1,pub,e,by simpa using h1,h2⟩
  ·next hc =>
   cases it with
   | use=>cases h
   | dfn pub m ps e =>
    cases ps with
    | some l=>cases h
    | none=>cases h;exact⟨0,pub,e,rfl,fun e0=>hc (.inl e0)⟩
theorem xD{fs:List X.Fl}{f:Nat}{R:U→U→Prop}:∀ {l:List It} {k a b:Nat} {x y:It} {u v:U},(X.iB fs f k l).Pairwise R→l[a]?=some x→l[b]?=some y→a<b→u∈X.xW fs f (k+a) x→v∈X.xW fs f (k+b) y→R u v
 | [],k,a,b,x,y,u,v,_,h,_,_,_,_=>by cases h
 | it::l,k,0,0,x,y,u,v,_,_,_,h,_,_=>by omega
 | it::l,k,0,b+1,x,y,u,v,hp,h1,h2,_,hu,hv=>by
  cases h1
  rw[X.iB,tN] at hp;refine hp.2.2 u hu v (X.Ac (j:=b) (by simpa using h2) v ?_);rw[show k+1+b=k+(b+1) by omega];exact hv
 | it::l,k,a+1,0,x,y,u,v,_,_,_,h,_,_=>by omega
 | it::l,k,a+1,b+1,x,y,u,v,hp,h1,h2,hab,hu,hv=>by
  rw[X.iB,tN] at hp;refine xD (l:=l) (k:=k+1) (a:=a) (b:=b) hp.2.1 (by simpa using h1) (by simpa using h2) (by omega) ?_ ?_
  ·rw[show k+1+a=k+(a+1) by omega];exact hu
  ·rw[show k+1+b=k+(b+1) by omega];exact hv
theorem QS{fs:List X.Fl}{f:Nat}(hf:f<fs.length)(hr:∀ f,f<fs.length→∃ ps,X.sI ps 0 (X.aM fs f)){x:ah}{n:Nm}(h:lK x (X.aM fs f)=some n):(BA fs).dk ((f:Int),(n.2:Int))=some false:=by
 obtain⟨k0,pub,e,h1,h2⟩:=F_ h;obtain⟨d',hd⟩:=ni (QG hf h1 h2);obtain⟨m1,m2⟩:=oO hd;obtain⟨q1,q2,k',bC8,q3⟩:=QF m1;have hkey:d'.key=((f:Int),(n.2:Int)):=m2;have e1:d'.f=f:=Int.ofNat.inj (congrArg Prod.fst hkey);have e2:d'.nm.2=n.2:=Int.ofNat.inj (congrArg Prod.snd hkey);rw[e1] at q3;obtain⟨ps,hps⟩:=hr f hf;have hbt:=(X.zM (fs:=fs) (f:=f) hps 0).1;have hmem:∀(k:Nat) (pub:Bool) (m:Nm) (ps:Option (List Nm)) (b:Ex),m.1≠[]→∃ u∈X.xW fs f (0+k) (.dfn pub m ps b),u.i=m.2:=fun k pub m ps b hm=>⟨⟨f,m.2,0,f,m.2,_⟩,gG _ (by unfold X.qg X.gZ;rw[aG hm];exact dR.2 rfl),rfl⟩
 obtain⟨u,u1,u2⟩:=hmem k0 pub n none e h2;obtain⟨v,v1,v2⟩:=hmem k' bC8 d'.nm d'.ps d'.e q2;have hk:k0=k':=by
  rcases Nat.lt_trichotomy k0 k' with g|g|g
  ·have:=xD hbt h1 q3 g u1 v1;omega
  ·exact g
  ·have:=xD hbt q3 h1 g v1 u1;omega
 subst hk;rw[h1] at q3;injection q3 with q3;injection q3 with _ _ q4 _;show(iX (dT fs fs.length) _).map _=_;have hk2:(Df.mk f n none e).key=((f:Int),(n.2:Int)):=rfl;rw[← hk2,hd,mE,← q4];rfl
def AsR(T:Int × Int→Nat)(f:Nat):Option Nm→Value
 | some n=>.tuple #[.pointer (some ⟨T ((f:Int),(n.2:Int)),0,none⟩),.bool true]
 | none=>.tuple #[.pointer none,.bool false]
section
variable{k:Kn}{w0 w w':World}{its:Nat→List It}{j:Nat}{iv:Value}{vs:List Value}{Lo Hi:Nat→Nat}{pb sb db:Nat}{gs:Int × Int→Option Value}{T:Int × Int→Nat}{dl:List Df}
theorem Jw(f:Nat)(hf:f<j)(x:ah)(h:Rp w0 w its pb sb db gs j iv vs Lo Hi T dl)(hil:(its f).length≤268435456)(hsub:∀ d,d∈dI f (its f)→d∈dl) :
  Calls prog 8 #[.pointer (some ⟨pb,0,none⟩),.int .i64 f,.string (ba x)] w fun e w'=>e=.returned (AsR T f (lK x (its f)))∧Below w.heap.size w w':=by
 obtain⟨g,cap,ia,ic,rfl,hc1,hc2,hcell,-⟩:=h.items hf;unfold maxLen at hc2;have c1:=ai w _ 1 _ _ _ h.blk;have j0:(0:Int)≤(f:Int):=bU _;have j1:(f:Int)<(j:Int):=by omega
 have HP:Hid (Below w.heap.size w w∧lK x (its f)=lK x ((its f).drop 0)):=⟨ay _ w,rfl⟩;have HR:=au h;have HC:Hid (w.cell? ⟨g,f,none⟩=some (.slice ia (its f).length ic)):=hcell;have HSB:=au hsub;clear h hsub;generalize hn:(its f).length=n at *;have HN:=au hn;clear hn;go_enter func8,ntmps8;go_wp2_with fail
 go_loopw [21] (fun v wr=>∃ i:Nat,v=.int .i64 i∧i≤n∧Hid (Below w.heap.size w wr∧lK x (its f)=lK x ((its f).drop i))) (fun v _=>n - (intOf v).toNat)
 case atStart=>exact⟨0,rfl,aX _,HP⟩
 case round =>
  obtain⟨i,rfl,hi,H1⟩:=hrel;clear HP c1 hcell;by_cases hlt:i<n
  case neg =>
   have i1:decide (i<n)=false:=by simp;omega
   have i2:decide ((i:Int)<(n:Int))=false:=by simp;omega
   have HT:Hid (lK x (its f)=none):=by
    rw[(H1.o).2,iw (by have:=HN.o;omega)];exact rfl
   go_wp2_with fail
   go_ret2;rw[HT.o];exact⟨rfl,(H1.o).1⟩
  case pos =>
   have i1:decide (i<n)=true:=by simp;omega
   have i2:decide ((i:Int)<(n:Int))=true:=by simp;omega
   have k0:(0:Int)≤(i:Int):=bU _;have k1:(i:Int)<(n:Int):=by omega
   have hlen:=HN.o;have hgv:(its f)[i]?=some ((its f)[i]'(by omega)):=aC (by omega);have hdp:=(H1.o).2;rw[bP (by omega:i<(its f).length),lK] at hdp;generalize (its f)[i]'(by omega)=it at hgv hdp;have hRw:=(HR.o).below (H1.o).1;obtain⟨q,v,rfl,hv,HI⟩:=Rp.itm ⟨T,hRw⟩ hf rfl (by rw[hlen];exact(aN (a:=⟨g,f,none⟩) ((H1.o).1.block g (bG w ⟨g,f,none⟩ HC.o))).trans HC.o) hgv;have hI:=HI.o;have HB:=au (H1.o).1;have HGV:=au hgv;have HRw:=au hRw;clear HI hgv hlen H1 hRw;cases hI with
   | use b pub gs' m nn a hb h =>
    have ha:=Jv b;have tV:=au (uD b pub gs' m nn a wr h);clear h hb;have xE:Hid (lK x (its f)=if (if gs' then a else nn).1=[]∨(if gs' then a else nn).1≠x then lK x ((its f).drop (i+1)) else none):=hdp;clear hdp;generalize (if gs'=true then a else nn)=cn at *;go_wp2_with fail
    refine(tV.o).mono ?_;rintro en w2 ⟨rfl,k2⟩;have wP:Hid (Below wr.heap.size wr (w2.alloc (.cells #[.string (ba cn.1),.int .i64 cn.2] 66))):=k2.alloc k2.size _;have HMs:=au (iV cn.1 cn.2 (w2.alloc (.cells #[.string (ba cn.1),.int .i64 cn.2] 66)));have hnw:=aB w2 (.cells #[.string (ba cn.1),.int .i64 cn.2] 66);clear k2 tV;go_wp2_with fail
    generalize hW2:w2.alloc (.cells #[.string (ba cn.1),.int .i64 cn.2] 66)=W2 at *;generalize w2.heap.size=nb at *;clear hW2;refine(HMs.o).mono ?_;rintro en w3 ⟨rfl,k3⟩;have qi:Hid (Below wr.heap.size wr w3):=(wP.o).trans (k3.mono (wP.o).size);have rY:Hid (Below w.heap.size w w3):=(HB.o).trans ((qi.o).mono (HB.o).size);have YX:=(k3.block nb (aP hnw)).trans hnw;have z0:=ai _ _ 0 _ _ _ YX;have z1:=ai _ _ 1 _ _ _ YX;clear HMs hnw k3 YX wP hv;cases hne:cn.1.isEmpty with
    | true =>
     have HF:Hid (lK x (its f)=lK x ((its f).drop (i+1))):=by
      show _=_;rw[xE.o,aL (.inl (List.isEmpty_iff.1 hne))]
     clear xE hne;go_wp2_with fail
     exact⟨⟨i+1,by simp,by omega,rY.o,HF.o⟩,by simp[intOf];omega⟩
    | false =>
     have hn0:cn.1≠[]:=fun e=>by rw[e] at hne;cases hne
     by_cases hx:cn.1=x
     case neg =>
      have HF:Hid (lK x (its f)=lK x ((its f).drop (i+1))):=by
       show _=_;rw[xE.o,aL (.inr hx)]
      have s1:((ba cn.1).toList==(ba x).toList)=false:=by simp only[jK];simpa using hx
      have s2:((ba cn.1).toList !=(ba x).toList)=true:=by simp only[bne,s1];rfl
      have s5:(cn.1==x)=false:=by simpa using hx
      have s6:(cn.1 !=x)=true:=by simp only[bne,s5];rfl
      clear xE hne hx hn0;go_wp2_with fail
      exact⟨⟨i+1,by simp,by omega,rY.o,HF.o⟩,by simp[intOf];omega⟩
     case pos =>
      have HF:Hid (lK x (its f)=none):=by
       show _=_;rw[xE.o,aG (fun e=>by rcases e with e|e;exact hn0 e;exact e hx)]
      clear xE hne hn0;subst hx;go_wp2_with fail
      go_ret2;rw[HF.o];exact⟨rfl,rY.o⟩
   | dfn b pub nm pv ps ev e hb h hpv he =>
    have ha:=Ju b;have tV:=au (qh b pub nm pv ev _ _ wr h);have HH:=au h;have xE:Hid (lK x (its f)=if nm.1=[]∨nm.1≠x then lK x ((its f).drop (i+1)) else YW (.dfn pub nm ps e)):=hdp;have hpq:(∃ pq,pv=.pointer (some pq)∧∃ l2,ps=some l2)∨(pv=.pointer none∧ps=none):=by
     rcases hpv with ⟨e1,e2⟩|⟨l2,b2,e1,e2,-⟩
     ·exact .inr ⟨e2,e1⟩
     ·exact .inl ⟨_,e2,l2,e1⟩
    clear h hb hdp hpv he;go_wp2_with fail
    refine(tV.o).mono ?_;rintro en w2 ⟨rfl,k2⟩;have wP:Hid (Below wr.heap.size wr (w2.alloc (.cells #[.string (ba nm.1),.int .i64 nm.2] 66))):=k2.alloc k2.size _;have HMs:=au (iV nm.1 nm.2 (w2.alloc (.cells #[.string (ba nm.1),.int .i64 nm.2] 66)));have hnw:=aB w2 (.cells #[.string (ba nm.1),.int .i64 nm.2] 66);clear k2 tV;go_wp2_with fail
    generalize hW2:w2.alloc (.cells #[.string (ba nm.1),.int .i64 nm.2] 66)=W2 at *;generalize w2.heap.size=nb at *;clear hW2;refine(HMs.o).mono ?_;rintro en w3 ⟨rfl,k3⟩;have qi:Hid (Below wr.heap.size wr w3):=(wP.o).trans (k3.mono (wP.o).size);have rY:Hid (Below w.heap.size w w3):=(HB.o).trans ((qi.o).mono (HB.o).size);have YX:=(k3.block nb (aP hnw)).trans hnw;have z0:=ai _ _ 0 _ _ _ YX;have z1:=ai _ _ 1 _ _ _ YX;clear HMs hnw k3 YX wP hv;cases hne:nm.1.isEmpty with
    | true =>
     have HF:Hid (lK x (its f)=lK x ((its f).drop (i+1))):=by
      show _=_;rw[xE.o,aL (.inl (List.isEmpty_iff.1 hne))]
     clear xE hne;go_wp2_with fail
     exact⟨⟨i+1,by simp,by omega,rY.o,HF.o⟩,by simp[intOf];omega⟩
    | false =>
     have hn0:nm.1≠[]:=fun e=>by rw[e] at hne;cases hne
     by_cases hx:nm.1=x
     case neg =>
      have HF:Hid (lK x (its f)=lK x ((its f).drop (i+1))):=by
       show _=_;rw[xE.o,aL (.inr hx)]
      have s1:((ba nm.1).toList==(ba x).toList)=false:=by simp only[jK];simpa using hx
      have s2:((ba nm.1).toList !=(ba x).toList)=true:=by simp only[bne,s1];rfl
      have s5:(nm.1==x)=false:=by simpa using hx
      have s6:(nm.1 !=x)=true:=by simp only[bne,s5];rfl
      clear xE hne hx hn0;go_wp2_with fail
      exact⟨⟨i+1,by simp,by omega,rY.o,HF.o⟩,by simp[intOf];omega⟩
     case pos =>
      have HF:Hid (lK x (its f)=YW (.dfn pub nm ps e)):=by
       show _=_;rw[xE.o,aG (fun e=>by rcases e with e|e;exact hn0 e;exact e hx)]
      have hb3:=((qi.o).block b (aP HH.o)).trans HH.o;have d3:=ai w3 _ 3 _ _ _ hb3;have HN0:=au hn0;clear xE hne hn0 hb3;subst hx;rcases hpq with ⟨pq,rfl,l2,rfl⟩|⟨rfl,rfl⟩
      ·go_wp2_with fail
       go_ret2;rw[HF.o];exact⟨rfl,rY.o⟩
      ·have Tt:=(HRw.o).below qi.o
       obtain⟨d',hd'⟩:=ni ((HSB.o) _ (Ej f _ i pub nm none e HGV.o HN0.o));obtain⟨n2,gd,m1,m2,m3⟩:=Tt.dm.mq;obtain⟨bb,cc,cq,m4,-⟩:=m3 _ d' hd';have c2:=ai w3 _ 2 _ _ _ Tt.blk;have hLK:Hid (∀ wx,Mq wx db n2 gd→(Instr.lookup 50 (.map (some db)) (.agg #[.int .i64 f,.int .i64 nm.2]) false).run prog wx=.ok (.agg #[.pointer (some ⟨bb,0,none⟩),.pointer (some ⟨T ((f:Int),(nm.2:Int)),0,none⟩)]) wx):=fun wx hx=>by
        have:=hx.look underlying50 (Jp wx) (⟨f,nm,none,e⟩:Df).key false;rw[m4] at this;exact this
       clear Tt m2 m3 m4 hd' HRw;go_wp2_with fail
       refine bH (S:=fun w'=>(w'.cell? ⟨pb,2,none⟩=some (.map (some db))∧w'.cell? ⟨nb,1,none⟩=some (.int .i64 nm.2))∧Mq w' db n2 gd) (z:=12) (by kernel_rfl) ?_;have hS:(w3.drew.cell? ⟨pb,2,none⟩=some (.map (some db))∧w3.drew.cell? ⟨nb,1,none⟩=some (.int .i64 nm.2))∧Mq w3.drew db n2 gd:=⟨⟨c2,z1⟩,m1⟩;clear c2 z0 z1 m1 d3;iterate 8(refine ou hS ?_;simp only[Act.put,ax,aD,aF])
       refine rC (v:=?_) rfl rfl (by kernel_rfl) (by decide) (by kernel_rfl) (by kernel_rfl) (fun _ _ _ h=>h) (Or.inl ⟨by rfl,?_⟩) hS ?_;rotate_left;(· (intro wx hSw;have hlk:=(hLK.o) wx (hSw.2);(try dsimp only at hSw);go_simp;try(with_reducible rfl)));simp only[Act.put,List.setIfInBounds_toArray,List.set_cons_zero,List.set_cons_succ];have hfd:=QL;iterate 3(refine ou hS ?_;simp only[Act.put,List.setIfInBounds_toArray,List.set_cons_zero,List.set_cons_succ])
       refine fB ?_;go_wp2_with fail
       go_ret2;rw[HF.o];exact⟨rfl,(rY.o).drew⟩
end
end
end Go.Proofs.YtdkpkpgpphkljaaGreatDoor
