import Derived.Test.YtoohcklcppnafaaGreatDoorBa
import Derived.Test.YtoohcklcppnafaaGreatDoorJt
namespace Go.Proofs.YtoohcklcppnafaaGreatDoor
set_option maxRecDepth 100000
set_option maxHeartbeats 4000000
open Go.RowKit
open M
section
open X
variable{B g:Nat}{w':aG}
structure DK where
 wb:Nat
 a:Nat
 b:Nat
 fv:Value
 rv:Value
 iv:Value
def UB(w:aG)(q:Nat):Prop:=∃ cs d,w.heap[q]?=some (.cells cs 63 d)
def DK.Sx(K:DK)(B:Nat)(w:aG)(q:Nat):Prop:=q=K.wb∨(B≤q∧UB w q)
def Dx(K:DK)(B:Nat)(w w':aG):Prop:=Kp (K.Sx B w) w w'
theorem Dx.refl(K:DK)(B:Nat)(w:aG):Dx K B w w:=Kp.refl _ w
theorem Dx.trans{K:DK}{B:Nat}{a b c:aG}(h1:Dx K B a b)(h2:Dx K B b c):Dx K B a c:=by
 refine Kp.trans h1 h2 (fun i hi hs=>?_);rcases hs with hs|⟨hB,cs,d,hu⟩
 ·exact .inl hs
 ·rcases Classical.em (K.Sx B a i) with g|g
  ·exact g
  ·exact .inr ⟨hB,cs,d,by rw[← Kp.block h1 i hi g];exact hu⟩
theorem Dx.aN{K:DK}{B:Nat}{w w':aG}(h:Below w.heap.size w w'):Dx K B w w':=Kp.aN h _
theorem Dx.size{K:DK}{B:Nat}{w w':aG}(h:Dx K B w w'):w.heap.size≤w'.heap.size:=Kp.size h
def Sf(K:DK)(B:Nat)(w:aG)(g:Nat):Prop:=g<w.heap.size∧¬ K.Sx B w g
theorem Sf.keep{K:DK}{w:aG}(h:Sf K B w g)(hk:Dx K B w w'):Sf K B w' g:=by
 refine⟨aJ h.1 hk.size,fun hs=>?_⟩;rcases hs with hs|⟨hB,cs,d,hu⟩
 ·exact h.2 (.inl hs)
 ·exact h.2 (.inr ⟨hB,cs,d,by rw[← Kp.block hk g h.1 h.2];exact hu⟩)
theorem Sf.cell{K:DK}{w:aG}{o:Nat}{v:Value}(h:Sf K B w g)(hk:Dx K B w w')(hc:w.cell? (aC g o)=some v):w'.cell? (aC g o)=some v:=Kp.dD hk hc h.2
theorem Sf.made{K:DK}{w:aG}{cs:Array Value}{t:TypeId}{d:Nat × Nat}(hb:w.heap[g]?=some (.cells cs t d))(hw:g≠K.wb)(ht:t≠63):Sf K B w g :=
 ⟨bN hb,fun hs=>by
  rcases hs with hs|⟨-,cs',d',hu⟩
  ·exact hw hs
  ·rw[hb] at hu
   have:=bQ hu;injection this with _ h2 _;exact ht h2⟩
def yO(K:DK)(B:Nat)(w:aG)(v:Value)(ns:List Nm):Prop:=∃ ao cap,v=.slice ao ns.length cap∧ns.length≤cap∧cap≤maxLen∧∀(j:Nat) (n:Nm),ns[j]?=some n→∃ g u,ao=some ⟨g,0,none⟩∧Sf K B w g∧w.cell? (aC g j)=some u∧qx w K.a K.b u n
structure DI where
 use:Bool
 pub:Bool
 node:Option Addr
 name:Option Addr
 mod:Option Addr
 item:Option Addr
 gs:Bool
 al:Option Addr
 fn:Bool
 pa:Option Addr
 pn:Nat
 pc:Nat
 body:Option Addr
def DI.vals(d:DI):List Value:=[.bool d.use,.bool d.pub,.pointer d.node,.pointer d.name,.pointer d.mod,.pointer d.item,.bool d.gs,.pointer d.al,.bool d.fn,.slice d.pa d.pn d.pc,.pointer d.body]
def FQ(K:DK)(B:Nat)(w:aG)(d:DI):It→Prop
 | .use p m n gs a=>d.use=true∧d.pub=p∧qx w K.a K.b (.pointer d.name) (if gs then a else n)∧qx w K.a K.b (.pointer d.mod) m∧qx w K.a K.b (.pointer d.item) n∧d.gs=gs∧qx w K.a K.b (.pointer d.al) a
 | .dfn p n ps e=>d.use=false∧d.pub=p∧qx w K.a K.b (.pointer d.name) n∧d.mod=none∧d.item=none∧d.al=none∧yO K B w (.slice d.pa d.pn d.pc) (ps.getD [])∧∃ q i,lS w K.a K.b (.pointer d.body) q i∧Rd q i e∧Cx q∧su q∧i+pz [q]≤1000000∧jh q≤268435456
def Nk(K:DK)(B:Nat)(w:aG)(v:Value)(its:List It):Prop:=∃ ao cap,v=.slice ao its.length cap∧its.length≤cap∧cap≤maxLen∧∀(k:Nat) (it:It),its[k]?=some it→∃ g d,ao=some ⟨g,0,none⟩∧Sf K B w g∧(∀(j:Nat) (u:Value),d.vals[j]?=some u→w.cell? (aC g (k*11+j))=some u)∧FQ K B w d it
theorem yO.keep{K:DK}{B:Nat}{w w':aG}{v:Value}{ns:List Nm}(h:yO K B w v ns)(hk:Dx K B w w')(hS:∀ q,K.a≤q→q<K.b→¬ K.Sx B w q):yO K B w' v ns:=by
 obtain⟨ao,cap,h1,h2,h3,h4⟩:=h;refine⟨ao,cap,h1,h2,h3,fun j n hj=>?_⟩;obtain⟨g,u,e1,e2,e3,e4⟩:=h4 j n hj;exact⟨g,u,e1,e2.keep hk,e2.cell hk e3,e4.keep hk hS⟩
theorem FQ.keep{K:DK}{B:Nat}{w w':aG}{d:DI}{it:It}(h:FQ K B w d it)(hk:Dx K B w w')(hS:∀ q,K.a≤q→q<K.b→¬ K.Sx B w q):FQ K B w' d it:=by
 cases it with
 | use p m n gs a =>
  obtain⟨h1,h2,h3,h4,h5,h6,h7⟩:=h;exact⟨h1,h2,h3.keep hk hS,h4.keep hk hS,h5.keep hk hS,h6,h7.keep hk hS⟩
 | dfn p n ps e =>
  obtain⟨h1,h2,h3,h4,h5,h6,h7,q,i,h8,h9⟩:=h;exact⟨h1,h2,h3.keep hk hS,h4,h5,h6,h7.keep hk hS,q,i,h8.keep hk hS,h9⟩
theorem Nk.keep{K:DK}{B:Nat}{w w':aG}{v:Value}{its:List It}(h:Nk K B w v its)(hk:Dx K B w w')(hS:∀ q,K.a≤q→q<K.b→¬ K.Sx B w q):Nk K B w' v its:=by
 obtain⟨ao,cap,h1,h2,h3,h4⟩:=h;refine⟨ao,cap,h1,h2,h3,fun k it hk'=>?_⟩;obtain⟨g,d,e1,e2,e3,e4⟩:=h4 k it hk';exact⟨g,d,e1,e2.keep hk,fun j u hj=>e2.cell hk (e3 j u hj),e4.keep hk hS⟩
structure Dst(w:aG)(K:DK)(l:List AF):Prop where
 n:l.length≤16
 sh:Short l
 nm:∀ a∈l,pR a.n=true
 wl:K.wb<w.heap.size
 al:K.wb<K.a
 bl:K.b≤w.heap.size
 fl:∃ ao cap,K.fv=.slice ao l.length cap∧l.length≤cap∧cap≤maxLen∧∀(i:Nat) (a:AF),l[i]?=some a→∃ g,ao=some ⟨g,0,none⟩∧Sf K w.heap.size w g∧w.cell? (aC g (i*2))=some (.string a.n)
 it:∃ ao cap,K.iv=.slice ao l.length cap∧l.length≤cap∧cap≤maxLen∧∀(i:Nat) (a:AF),l[i]?=some a→∃ g sv,ao=some ⟨g,0,none⟩∧Sf K w.heap.size w g∧w.cell? (aC g i)=some sv∧Nk K w.heap.size w sv (fA (bs a.t))
structure Dr(w0:aG)(K:DK)(l:List AF)(us:List X.U)(w:aG):Prop where
 st:Dst w0 K l
 kp:Dx K w0.heap.size w0 w
 ws:∃ nv,w.heap[K.wb]?=some (.cells #[K.fv,K.rv,K.iv,nv] 39 (0,0))∧w.ownsRow w0.heap.size 63 6 nv us.length (yj us)
 lim:us.length≤1073741824
theorem Dst.nodes{w:aG}{K:DK}{l:List AF}(h:Dst w K l):∀(w':aG) (q:Nat),K.a≤q→q<K.b→¬ K.Sx w.heap.size w' q:=fun w' q h1 h2 hs=>by
 have:=h.al;have:=h.bl;rcases hs with hs|⟨hs,-⟩
 ·omega
 ·omega
variable{w0:aG}{K:DK}{l:List AF}{us:List X.U}{w:aG}
theorem Dr.size(h:Dr w0 K l us w):w0.heap.size≤w.heap.size:=h.kp.size
theorem Dr.wl(h:Dr w0 K l us w):K.wb<w.heap.size:=aJ h.st.wl h.size
theorem Dr.below(h:Dr w0 K l us w)(hb:Below w.heap.size w w'):Dr w0 K l us w':=by
 refine⟨h.st,h.kp.trans (Dx.aN hb),?_,h.lim⟩;obtain⟨nv,h1,h2⟩:=h.ws;have k:=Kp.aN hb (fun _=>False);exact⟨nv,k.heap h1 id,k.owns h2 (fun _ _=>id)⟩
theorem Dr.files(h:Dr w0 K l us w):∃ ao cap,K.fv=.slice ao l.length cap∧l.length≤cap∧cap≤maxLen∧∀(i:Nat) (a:AF),l[i]?=some a→∃ g,ao=some ⟨g,0,none⟩∧g<w.heap.size∧w.cell? (aC g (i*2))=some (.string a.n):=by
 obtain⟨ao,cap,h1,h2,h3,h4⟩:=h.st.fl;refine⟨ao,cap,h1,h2,h3,fun i a ha=>?_⟩;obtain⟨g,e1,e2,e3⟩:=h4 i a ha;exact⟨g,e1,(e2.keep h.kp).1,e2.cell h.kp e3⟩
theorem Dr.items(h:Dr w0 K l us w):∃ ao cap,K.iv=.slice ao l.length cap∧l.length≤cap∧cap≤maxLen∧∀(i:Nat) (a:AF),l[i]?=some a→∃ g sv,ao=some ⟨g,0,none⟩∧g<w.heap.size∧w.cell? (aC g i)=some sv∧Nk K w0.heap.size w sv (fA (bs a.t)):=by
 obtain⟨ao,cap,h1,h2,h3,h4⟩:=h.st.it;refine⟨ao,cap,h1,h2,h3,fun i a ha=>?_⟩;obtain⟨g,sv,e1,e2,e3,e4⟩:=h4 i a ha;exact⟨g,sv,e1,(e2.keep h.kp).1,e2.cell h.kp e3,e4.keep h.kp (h.st.nodes w0)⟩
theorem Dr.cells(h:Dr w0 K l us w):∃ nv,w.cell? (aC K.wb 0)=some K.fv∧w.cell? (aC K.wb 2)=some K.iv∧w.cell? (aC K.wb 3)=some nv∧w.frozen? (aC K.wb 3)=false∧w.ownsRow w0.heap.size 63 6 nv us.length (yj us):=by
 obtain⟨nv,h1,h2⟩:=h.ws;exact⟨nv,aj w _ 0 _ _ _ h1,aj w _ 2 _ _ _ h1,aj w _ 3 _ _ _ h1,dO h1,h2⟩
theorem Dr.told(h:Dr w0 K l us w){w3 w5:aG}(hb:Below w.heap.size w w3){nv:Value}(hnv:w.cell? (aC K.wb 3)=some nv)(u:X.U){cap:Nat}(hown:w5.ownsRow w0.heap.size 63 6 (.slice (b_ g) (us.length+1) cap) (us.length+1) (yj us++uv u))(hgrow:w3.grownBy w5 nv.ownBlock)(hlim:us.length+1≤1073741824) :
  Dr w0 K l (us++[u]) (w5.setCell (aC K.wb 3) (.slice (b_ g) (us.length+1) cap))∧Dx K w0.heap.size w (w5.setCell (aC K.wb 3) (.slice (b_ g) (us.length+1) cap)):=by
 have h3:=h.below hb;obtain⟨nv',hw,hown0⟩:=h.ws;have e0:=aj w _ 3 _ _ _ hw;rw[hnv] at e0;obtain rfl:nv=nv':=bQ e0;have hsz:=h.size;have hnb:∀ q,nv.ownBlock=some q→w0.heap.size≤q∧UB w q:=by
  intro q hq;refine⟨(dG hown0 q hq).1,?_⟩;rcases hown0.2 with ⟨rfl,-⟩|⟨g',cap',cur,rfl,hge,hgg,-⟩
  ·cases hq
  ·cases hq
   exact⟨_,_,hgg⟩
 have Cy:=(Kp.refl _ w3).grown hgrow (fun q e _=>e);have JR:w5.heap[K.wb]?=some (.cells #[K.fv,K.rv,K.iv,nv] 39 (0,0)):=by
  refine Cy.heap ((Kp.aN hb (fun _=>False)).heap hw id) (fun e=>?_);have:=(hnb _ e).1;have:=h.st.wl;omega
 have ze:Kp (fun q=>q=K.wb) w5 (w5.setCell (aC K.wb 3) (.slice (b_ g) (us.length+1) cap)):=Kp.setCell (S:=fun q=>q=K.wb) (p:=⟨K.wb,3,none⟩) (Kp.refl _ w5) (fun _=>rfl) _;have kx:Dx K w0.heap.size w (w5.setCell (aC K.wb 3) (.slice (b_ g) (us.length+1) cap)):=by
  refine Kp.trans (Kp.trans (Kp.aN hb _) Cy (fun i hi e=>.inr (hnb i e))) ze (fun i hi e=>.inl e)
 refine⟨⟨h.st,h.kp.trans kx,⟨_,(dV JR 3 _),?_⟩,?_⟩,kx⟩
 ·have e:(us++[u]).length=us.length+1:=by simp
  rw[e,LK,LM];refine ze.owns hown (fun q hq e=>?_);have:=(dG hown q hq).1;have:=h.st.wl;omega
 ·rw[ay];simpa using hlim
end
section
open Tryz
open X
variable{it:It}{f:Nat}{a:AF}
variable{w0:aG}{K:DK}{l:List AF}{us:List X.U}{w:aG}
def pU:Option Nat→Int
 | none=>-1
 | some k=>k
def nV:It→Bool
 | .use _ _ _ _ _=>true
 | .dfn _ _ _ _=>false
theorem FQ.parts{B:Nat}{d:DI}(h:FQ K B w d it):qx w K.a K.b (.pointer d.name) (called it)∧d.pub=shown it∧d.use=nV it:=by
 cases it with
 | use p m n gs a=>exact⟨h.2.2.1,h.2.1,h.1⟩
 | dfn p n ps e=>exact⟨h.2.2.1,h.2.1,h.1⟩
structure Got(K:DK)(w:aG)(f k:Nat)(it:It)(d:DI)(ga gi:Nat)(la ca lb cb:Nat):Prop where
 c2:w.cell? (aC K.wb 2)=some (.slice (b_ ga) la ca)
 cf:w.cell? (aC ga f)=some (.slice (b_ gi) lb cb)
 ck:∀(j:Nat) (u:Value),d.vals[j]?=some u→w.cell? (aC gi (k*11+j))=some u
 gl:ga<w.heap.size∧gi<w.heap.size
theorem Dr.got(h:Dr w0 K l us w){k:Nat}(hf:l[f]?=some a)(hk:(fA (bs a.t))[k]?=some it) :
  ∃ ga gi ca cb d,Got K w f k it d ga gi l.length ca (fA (bs a.t)).length cb∧l.length≤ca∧ca≤maxLen∧(fA (bs a.t)).length≤cb∧cb≤maxLen∧FQ K w0.heap.size w d it:=by
 obtain⟨ao,cap,h1,h2,h3,h4⟩:=h.items;obtain⟨ga,sv,rfl,e2,e3,pV,cap',rfl,e5,e6,e7⟩:=h4 f a hf;obtain⟨gi,d,rfl,g2,g3,g4⟩:=e7 k it hk;obtain⟨nv,-,c2,-⟩:=h.cells;rw[h1] at c2;exact⟨ga,gi,cap,cap',d,⟨c2,e3,g3,e2,g2.1⟩,h2,h3,e5,e6,g4⟩
theorem Dr.row(h:Dr w0 K l us w)(hf:l[f]?=some a):∃ ga ca ao cb,w.cell? (aC K.wb 2)=some (.slice (b_ ga) l.length ca)∧ga<w.heap.size∧w.cell? (aC ga f)=some (.slice ao (fA (bs a.t)).length cb)∧l.length≤ca∧ca≤maxLen∧(fA (bs a.t)).length≤cb∧cb≤maxLen:=by
 obtain⟨ao,cap,h1,h2,h3,h4⟩:=h.items;obtain⟨ga,sv,rfl,e2,e3,pV,cap',rfl,e5,e6,e7⟩:=h4 f a hf;obtain⟨nv,-,c2,-⟩:=h.cells;rw[h1] at c2;exact⟨ga,cap,pV,cap',c2,e2,e3,h2,h3,e5,e6⟩
theorem sN(h:Dr w0 K l us w)(hf:l[f]?=some a):(fA (bs a.t)).length≤268435456:=by
 have:=(uU h.st.sh f).2.1;rw[jc hf] at this;exact this
theorem oD{x y:ah}{b:Bool}(h:(x==y)=b):((ba x).toList==(ba y).toList)=b:=by rw[lU,lU];exact h
theorem zf(h:Dr w0 K l us w)(hf:l[f]?=some a)(x:ah)(hx:x≠[]) :
  bB 18 #[aH K.wb,ak f,.string (ba x)] w (cK (ak (pU (iV (fA (bs a.t)) x))) fun w'=>Below w.heap.size w w'):=by
 have HR:=aA h;have hil:=sN h hf;obtain⟨ga,ca,ao,cb,r1,r2,r3,r4,r5,r6,r7⟩:=h.row hf;have hwl:=h.wl;have hfl:=lt_of_some hf;have HF:=aA hf;have HT:Hid (iV (fA (bs a.t)) x=(fA (bs a.t)).findIdx? (fun it=>(called it).1==x)):=by
  show _=_;unfold iV;rw[aM hx]
 generalize hits:fA (bs a.t)=its at *;have HITS:=aA hits;have HFT:Hid (∀ k it,its[k]?=some it→∃ ga gi ca cb d,Got K w f k it d ga gi l.length ca its.length cb∧l.length≤ca∧ca≤maxLen∧its.length≤cb∧cb≤maxLen∧FQ K w0.heap.size w d it):=fun k it hk=>by
  have:=(HR.o).got HF.o (k:=k) (it:=it) (by rw[HITS.o];exact hk);rw[HITS.o] at this;exact this
 have hf1:(0:Int)≤(f:Int):=bO _;have hf2:(f:Int)<(l.length:Int):=au
 have hf3:=hfl;clear h hf hits;go_enter func18,ntmps18;go_wp2_with fail
 go_loopw [7] (fun kv wr=>∃ k:Nat,kv=ak k∧k≤its.length∧Hid (∀ k' it,k'<k→its[k']?=some it→((called it).1==x)=false)∧Hid (Below w.heap.size w wr)) (fun kv _=>its.length - (intOf kv).toNat)
 case atStart=>exact⟨0,rfl,bJ _,fun k' it hk=>absurd hk (jE _),aB _ _⟩
 case round =>
  obtain⟨k,rfl,hk,HP,HB⟩:=hrel;have s1:=iY HB.o hwl r1;have s3:=iY HB.o r2 r3;by_cases hlt:k<its.length
  case neg =>
   obtain rfl:k=its.length:=au
   have i1:decide (its.length<its.length)=false:=aT
   have i2:decide ((its.length:Int)<(its.length:Int))=false:=aT
   have HE:Hid (iV its x=none):=by
    show _=_;rw[HT.o,List.findIdx?_eq_none_iff];intro it hit;obtain⟨j,hj⟩:=List.getElem?_of_mem hit;exact(HP.o) j it (lt_of_some hj) hj
   clear HP;go_wp2_with fail
   go_ret;exact⟨by rw[HE.o];rfl,HB.o⟩
  have i1:decide (k<its.length)=true:=aQ
  have i2:decide ((k:Int)<(its.length:Int))=true:=aQ
  have hi1:(0:Int)≤(k:Int):=bO _;have hi2:(k:Int)<(its.length:Int):=au
  obtain⟨it,hit⟩:∃ it,its[k]?=some it:=⟨its[k],aF hlt⟩;obtain⟨ga',gi,ca',cb',d,hg,-,-,-,-,hd⟩:=(HFT.o) k it hit;obtain⟨hn,-,-⟩:=hd.parts;have hg1:=hg.c2;rw[r1] at hg1;cases hg1
  have hg2:=hg.cf;rw[r3] at hg2;cases hg2
  have q:=fun(j:Nat) (u:Value) (hj:d.vals[j]?=some u)=>iY HB.o hg.gl.2 (hg.ck j u hj)
  have q0:wr.cell? (aC gi (k*11))=some (.bool d.use):=q 0 _ rfl;have q1:=q 1 _ rfl;have q2:=q 2 _ rfl;have q3:=q 3 _ rfl;have q4:=q 4 _ rfl;have q5:=q 5 _ rfl;have q6:=q 6 _ rfl;have q7:=q 7 _ rfl;have q8:=q 8 _ rfl;have q9:=q 9 _ rfl;have q10:=q 10 _ rfl;clear q hg;have U4:Hid (((called it).1==x)=false→∀ k' it',k'<k+1→its[k']?=some it'→((called it').1==x)=false):=fun hn k' it' hk' hi'=>by
   by_cases e:k'=k
   ·subst e
    rw[hit] at hi';rw[← bQ hi'];exact hn
   ·exact(HP.o) k' it' au hi'
  have FR:Hid (((called it).1==x)=true→iV its x=some k):=fun hy=>by
   rw[HT.o,List.findIdx?_eq_some_iff_getElem];refine⟨hlt,?_,fun j hj=>?_⟩
   ·rw[aF hlt] at hit
    rw[bQ hit];exact hy
   ·have:=(HP.o) j its[j] hj (aF au)
    rw[this];decide
  have vJ:=(HB.o).size;clear HP hit hd HFT;obtain⟨d0,d1,d2,d3,d4,d5,d6,d7,d8,d9,BR,uV,d10⟩:=d;dsimp only at *;rcases hn with ⟨hn1,hv⟩|⟨hn1,N,t,rv,kM,en,tt,la,hv,hN1,tX,-,hnd⟩
  ·cases hv
   have HN:=aA ((U4.o) (by rw[hn1,eO];exact fun e=>hx e.symm));clear U4 FR;have HB2:Hid (∀ o:Obj,Below w.heap.size w (wr.alloc o)):=fun o=>(HB.o).alloc vJ o
   go_wp2_with fail
   exact⟨⟨k+1,by go_num,au,HN,(HB2.o) _⟩,by simp only[intOf];omega⟩
  ·cases hv
   obtain⟨⟨c0,c1,c2,-⟩,-⟩:=hnd.facts;have rC:=bN hnd;have t2:=iY HB.o rC c2;have hNr:=aJ rC vJ;have hNn:¬ N=wr.heap.size:=au
   clear c0 c1 c2 hnd;have HB2:Hid (∀ o:Obj,Below w.heap.size w (wr.alloc o)):=fun o=>(HB.o).alloc vJ o
   cases hb:((called it).1==x) with
   | true =>
    have hs:=oD hb;have HY:=aA ((FR.o) hb);clear FR U4 hb;go_wp2_with fail
    go_ret;exact⟨by rw[HY.o];rfl,(HB2.o) _⟩
   | false =>
    have hs:=oD hb;have HN:=aA ((U4.o) hb);clear U4 FR hb;go_wp2_with fail
    exact⟨⟨k+1,by go_num,au,HN,(HB2.o) _⟩,by simp only[intOf];omega⟩
end
section
open Tryz
open X
variable{w0:aG}{K:DK}{l:List AF}{us:List X.U}{w:aG}
theorem zH(h:Dr w0 K l us w){v:Value}{n:Nm}(hv:qx w K.a K.b v n) :
  bB 36 #[aH K.wb,v] w (cK (ak (pU (m_ (dA l) n.1))) fun w'=>Below w.heap.size w w'):=by
 rw[zI h.st.nm];rcases hv with ⟨hn,rfl⟩|⟨hn,N,t,rv,kM,en,tt,la,rfl,hN1,tX,-,hnd⟩
 ·have HE:Hid (mR l n.1=none):=by
   show _=_;cases hi:mR l n.1 with
   | none=>rfl
   | some i =>
    exfalso;have:=(qN l n.1).1 (by rw[hi];rfl);obtain⟨a,ha,e⟩:=fU.1 this;exact LQ (h.st.nm a ha) (e.trans hn)
  rw[HE.o];go_enter func36,ntmps36;go_wp2_with fail
  go_ret;exact⟨rfl,aB _ _⟩
 ·have hN:=h.st.n
  obtain⟨ao,cap,h1,h2,h3,h4⟩:=h.files;obtain⟨nv,c0,-⟩:=h.cells;rw[h1] at c0;have hwl:=h.wl;have HFl:=aA h4;obtain⟨⟨-,-,t2,-⟩,-⟩:=hnd.facts;have rC:=bN hnd;have HT:Hid (mR l n.1=l.findIdx? (fun a=>bs a.n==n.1)):=(rfl:_=_);clear h h1 h4 hnd;go_enter func36,ntmps36;go_wp2_with fail
  go_loopw [5] (fun kv wr=>∃ k:Nat,kv=ak k∧k≤l.length∧Hid (∀ k' a,k'<k→l[k']?=some a→(bs a.n==n.1)=false)∧Hid (Below w.heap.size w wr)) (fun kv _=>l.length - (intOf kv).toNat)
  case atStart=>exact⟨0,rfl,bJ _,fun k' it hk=>absurd hk (jE _),aB _ _⟩
  case round =>
   obtain⟨k,rfl,hk,HP,HB⟩:=hrel;have s0:=iY HB.o hwl c0;have s2:=iY HB.o rC t2;by_cases hlt:k<l.length
   case neg =>
    obtain rfl:k=l.length:=au
    have i1:decide (l.length<l.length)=false:=aT
    have i2:decide ((l.length:Int)<(l.length:Int))=false:=aT
    have HE:Hid (mR l n.1=none):=by
     show _=_;rw[HT.o,List.findIdx?_eq_none_iff];intro it hit;obtain⟨j,hj⟩:=List.getElem?_of_mem hit;exact(HP.o) j it (lt_of_some hj) hj
    clear HP;go_wp2_with fail
    go_ret;exact⟨by rw[HE.o];rfl,HB.o⟩
   have i1:decide (k<l.length)=true:=aQ
   have i2:decide ((k:Int)<(l.length:Int))=true:=aQ
   have hi1:(0:Int)≤(k:Int):=bO _;have hi2:(k:Int)<(l.length:Int):=au
   obtain⟨a,ha⟩:∃ a,l[k]?=some a:=⟨l[k],aF hlt⟩;obtain⟨g,rfl,g1,g2⟩:=(HFl.o) k a ha;have s3:=iY HB.o g1 g2;have U4:Hid ((bs a.n==n.1)=false→∀ k' a',k'<k+1→l[k']?=some a'→(bs a'.n==n.1)=false):=fun hn k' it' hk' hi'=>by
    by_cases e:k'=k
    ·subst e
     rw[ha] at hi';rw[← bQ hi'];exact hn
    ·exact(HP.o) k' it' au hi'
   have FR:Hid ((bs a.n==n.1)=true→mR l n.1=some k):=fun hy=>by
    rw[HT.o,List.findIdx?_eq_some_iff_getElem];refine⟨hlt,?_,fun j hj=>?_⟩
    ·rw[aF hlt] at ha
     rw[bQ ha];exact hy
    ·have:=(HP.o) j l[j] hj (aF au)
     rw[this];decide
   clear HP ha g2;cases hb:(bs a.n==n.1) with
   | true =>
    have hs:(a.n.toList==(ba n.1).toList)=true:=by have:=oD hb;rw[uN] at this;exact this
    have HY:=aA ((FR.o) hb);clear FR U4 hb;go_wp2_with fail
    go_quiet (fail)
    go_wp2_with fail
    go_ret;exact⟨by rw[HY.o];rfl,iQ HB.o _⟩
   | false =>
    have hs:(a.n.toList==(ba n.1).toList)=false:=by have:=oD hb;rw[uN] at this;exact this
    have HN:=aA ((U4.o) hb);clear U4 FR hb;go_wp2_with fail
    go_quiet (fail)
    go_wp2_with fail
    exact⟨⟨k+1,by go_num,au,HN,iQ HB.o _⟩,by simp only[intOf];omega⟩
def uE(its:List It):Nat:=(its.filter nV).length
theorem FT(l:List AF):h_ (dA l)=(l.map fun a=>uE (fA (bs a.t))).sum:=by
 unfold h_ dA;rw[List.map_map];congr 1;apply List.map_congr_left;intro a ha;show((fA (bs a.t)).filter _).length=_;unfold uE;congr 1;apply List.filter_congr;intro it _;cases it<;>rfl
noncomputable def o_(l:List AF)(i:Nat):Nat:=((l.take i).map fun a=>uE (fA (bs a.t))).sum
theorem zJ{l:List AF}{i:Nat}{a:AF}(h:l[i]?=some a):o_ l (i+1)=o_ l i+uE (fA (bs a.t)):=by
 unfold o_;rw[List.take_add_one,h,nN,List.sum_append];simp
theorem Nl{its:List It}{k:Nat}{it:It}(h:its[k]?=some it):uE (its.take (k+1))=uE (its.take k)+(if nV it then 1 else 0):=by
 unfold uE;rw[List.take_add_one,h,List.filter_append,ay];congr 1;show([it].filter nV).length=_;cases hi:nV it<;>simp[hi]
theorem D7(its:List It):uE its≤its.length:=List.length_filter_le _ _
theorem zK{l:List AF}(h:∀ a∈l,(fA (bs a.t)).length≤268435456):∀ i,o_ l i≤i*268435456
 | 0=>by simp[o_]
 | i+1=>by
  have ih:=zK h i;rcases cu i l.length with g|g
  ·have ha:=aF g
   rw[zJ ha];have:=D7 (fA (bs l[i].t));have:=h l[i] (List.getElem_mem g);omega
  ·have:o_ l (i+1)=o_ l i:=by unfold o_;rw[ku g,ku au]
   omega
theorem FU(h:Dr w0 K l us w) :
  bB 37 #[aH K.wb] w (cK (ak (h_ (dA l))) fun w'=>w'=w):=by
 rw[FT];have HE:Hid ((l.map fun a=>uE (fA (bs a.t))).sum=o_ l l.length):=by show _=_;unfold o_;rw[fC]
 rw[HE.o];have hN:=h.st.n;have HR:=aA h;have hle:∀ a∈l,(fA (bs a.t)).length≤268435456:=fun a ha=>by
  obtain⟨j,hj⟩:=List.getElem?_of_mem ha;exact sN h hj
 have HLe:=aA hle;have hS:=fun i=>zK hle i
 have HS:=aA hS;obtain⟨ao,cap,h1,h2,h3,-⟩:=h.items;obtain⟨nv,-,c2,-⟩:=h.cells;rw[h1] at c2;clear h hle hS h1 HE;go_enter func37,ntmps37;go_wp2_with fail
 go_loopw [3,4] (fun nv iv wr=>∃ i:Nat,nv=ak (o_ l i)∧iv=ak i∧i≤l.length∧wr=w) (fun _ iv _=>l.length - (intOf iv).toNat)
 case atStart=>exact⟨0,rfl,rfl,bJ _,rfl⟩
 case round =>
  obtain⟨i,rfl,rfl,hi,rfl⟩:=hrel;by_cases hlt:i<l.length
  case neg =>
   obtain rfl:i=l.length:=au
   have i1:decide (l.length<l.length)=false:=aT
   have i2:decide ((l.length:Int)<(l.length:Int))=false:=aT
   go_wp2_with fail
   go_ret;exact⟨rfl,rfl⟩
  have i1:decide (i<l.length)=true:=aQ
  have i2:decide ((i:Int)<(l.length:Int))=true:=aQ
  have hi1:(0:Int)≤(i:Int):=bO _;have hi2:(i:Int)<(l.length:Int):=au
  obtain⟨a,ha⟩:∃ a,l[i]?=some a:=⟨l[i],aF hlt⟩;obtain⟨ga,ca,ai,cb,r1,r2,r3,r4,r5,r6,r7⟩:=(HR.o).row ha;rw[c2] at r1;cases r1
  have hil:=(HLe.o) a (dF ha);have hsi:=(HS.o) i;have HA:=aA ha;have HSn:=aA (zJ ha);have bE0:Hid (∀ k it,(fA (bs a.t))[k]?=some it→∃ gi,ai=some ⟨gi,0,none⟩∧wr.cell? (aC gi (k*11))=some (.bool (nV it))):=fun k it hk=>by
   obtain⟨ga',gi,ca',cb',d,hg,-,-,-,-,hd⟩:=(HR.o).got HA.o hk;have hg1:=hg.c2;rw[c2] at hg1;cases hg1
   have hg2:=hg.cf;rw[r3] at hg2;cases hg2
   have:wr.cell? (aC gi (k*11))=some (.bool d.use):=hg.ck 0 _ rfl;rw[hd.parts.2.2] at this;exact⟨gi,rfl,this⟩
  have HUC:=aA (D7 (fA (bs a.t)));generalize fA (bs a.t)=its at *;clear ha;go_wp2_with fail
  go_loopw [3,5] (fun nv kv wr'=>∃ k:Nat,nv=ak ((o_ l i+uE (its.take k):Nat):Int)∧kv=ak k∧k≤its.length∧wr'=wr) (fun _ kv _=>its.length - (intOf kv).toNat)
  case atStart=>exact⟨0,rfl,rfl,bJ _,rfl⟩
  case round =>
   obtain⟨k,rfl,rfl,hk,rfl⟩:=hrel;by_cases hlt2:k<its.length
   case neg =>
    obtain rfl:k=its.length:=au
    have i3:decide (its.length<its.length)=false:=aT
    have i4:decide ((its.length:Int)<(its.length:Int))=false:=aT
    have pF:Hid (o_ l i+uE (its.take its.length)=o_ l (i+1)):=by show _=_;rw[fC,HSn.o]
    go_wp2_with fail
    exact⟨⟨i+1,by rw[← pF.o],by go_num,au,by trivial⟩,by simp only[intOf];omega⟩
   have i3:decide (k<its.length)=true:=aQ
   have i4:decide ((k:Int)<(its.length:Int))=true:=aQ
   have hk1:(0:Int)≤(k:Int):=bO _;have hk2:(k:Int)<(its.length:Int):=au
   obtain⟨it,hit⟩:∃ it,its[k]?=some it:=⟨its[k],aF hlt2⟩;obtain⟨gi,rfl,q0⟩:=(bE0.o) k it hit;have Nn:=aA (Nl hit);have hcl:uE (its.take k)≤its.length:=by have:=D7 (its.take k);rw[dX] at this;omega
   generalize hu:uE (its.take k)=c at *;cases hb:nV it with
   | true =>
    rw[hb] at q0;have Yx:Hid (uE (its.take (k+1))=c+1):=by show _=_;rw[Nn.o,hb];rfl
    clear Nn;go_wp2_with fail
    refine⟨⟨k+1,?_,by go_num,au,by trivial⟩,by simp only[intOf];omega⟩;rw[Yx.o]
    go_num
   | false =>
    rw[hb] at q0;have Yx:Hid (uE (its.take (k+1))=c):=by show _=_;rw[Nn.o,hb];rfl
    clear Nn;go_wp2_with fail
    refine⟨⟨k+1,?_,by go_num,au,by trivial⟩,by simp only[intOf];omega⟩;rw[Yx.o]
end
section
open Tryz
open X
variable{a a':AF}{n m al:Nm}{x:ah}{k left f f':Nat}{p gs:Bool}
variable{w0:aG}{K:DK}{l:List AF}{us:List X.U}{w:aG}
theorem qx.below{w w':aG}{a b:Nat}{v:Value}(h:qx w a b v n)(hk:Below w.heap.size w w'):qx w' a b v n:=h.keep (Kp.aN hk (fun _=>False)) (fun _ _ _=>id)
def DI.arr(d:DI):Array Value:=#[.bool d.use,.bool d.pub,.pointer d.node,.pointer d.name,.pointer d.mod,.pointer d.item,.bool d.gs,.pointer d.al,.bool d.fn,.slice d.pa d.pn d.pc,.pointer d.body]
theorem U5{l:List AF}(hn:∀ a∈l,pR a.n=true){i:Nat}(h:m_ (dA l) x=some i):i<l.length:=by
 rw[zI hn] at h;unfold mR at h;rw[List.findIdx?_eq_some_iff_getElem] at h;exact h.1
theorem Cz{its:List It}(h:iV its x=some k):∃ it,its[k]?=some it∧(called it).1=x∧x≠[]:=by
 unfold iV at h;by_cases hx:x=[]
 ·rw[aU hx] at h;cases h
 ·rw[aM hx,List.findIdx?_eq_some_iff_getElem] at h
  obtain⟨h1,h2,-⟩:=h;exact⟨its[k],aF h1,by simpa using h2,hx⟩
def zL(w0:aG)(K:DK)(l:List AF)(left:Nat):Prop:=∀(us:List X.U) (w:aG) (f k:Nat) (a:AF) (p:Bool) (m n:Nm) (gs:Bool) (al:Nm),Dr w0 K l us w→l[f]?=some a→(fA (bs a.t))[k]?=some (.use p m n gs al) →
 bB 38 #[aH K.wb,ak f,ak k,ak left] w fun e w'=>e=.returned (.tuple #[ak (iC (dA l) left f k).1,ak (iC (dA l) left f k).2.1,ak (iC (dA l) left f k).2.2])∧Below w.heap.size w w'
theorem Np{l:List AF}(hf:l[f]?=some a)(hk:(fA (bs a.t))[k]?=some (.use p m n gs al))(h:m_ (dA l) m.1=none):iC (dA l) left f k=(-1,-1,4):=by
 unfold iC;rw[jc hf,hk];simp only[h]
theorem CB{l:List AF}(hf:l[f]?=some a)(hk:(fA (bs a.t))[k]?=some (.use p m n gs al))(h:m_ (dA l) m.1=some f')(hf':l[f']?=some a')(ht:iV (fA (bs a'.t)) n.1=none):iC (dA l) left f k=(-1,-1,4):=by
 unfold iC;rw[jc hf,hk];simp only[h];rw[jc hf',ht]
theorem Qb{l:List AF}{k':Nat}{it:It}(hf:l[f]?=some a)(hk:(fA (bs a.t))[k]?=some (.use p m n gs al))(h:m_ (dA l) m.1=some f')(hf':l[f']?=some a')(ht:iV (fA (bs a'.t)) n.1=some k')(hit:(fA (bs a'.t))[k']?=some it) :
  iC (dA l) left f k=if shown it=false∧f'≠f then(-1,-1,6) else match left with|0=>(match it with|.dfn _ d _ _=>((f':Int),(d.2:Int),0)|.use _ _ _ _ _=>(-1,-1,7))|left+1=>iC (dA l) left f' k':=by
 rw[iC];rw[jc hf,hk];simp only[h];rw[jc hf',ht];simp only[hit];cases left<;>cases it<;>rfl
theorem LU{l:List AF}{ps:Option (List Nm)}{e:Ex}(hf:l[f]?=some a)(hk:(fA (bs a.t))[k]?=some (.dfn p n ps e)):iC (dA l) left f k=((f:Int),(n.2:Int),0):=by
 unfold iC;rw[jc hf,hk]
theorem BS{x y:An}(h:x=y):Ending.returned (.tuple #[ak y.1,ak y.2.1,ak y.2.2])=.returned (.tuple #[ak x.1,ak x.2.1,ak x.2.2]):=by rw[h]
theorem yo(left:Nat)(hleft:left≤8589934592)(ih:∀ j,j+1=left→zL w0 K l j):zL w0 K l left:=by
 intro us w f k a p m n gs al h hf hk;have HR:=aA h;have hN:=h.st.n;have hfl:=lt_of_some hf;have hkl:=lt_of_some hk;have hil:=sN h hf;have hwl:=h.wl;obtain⟨ga,gi,ca,cb,d,hg,r4,r5,r6,r7,hd⟩:=h.got hf hk;have HD:=aA hd;have c2:=hg.c2;have cf:=hg.cf;have q0:w.cell? (aC gi (k*11))=some (.bool d.use):=hg.ck 0 _ rfl;have q1:=hg.ck 1 _ rfl;have q2:=hg.ck 2 _ rfl;have q3:=hg.ck 3 _ rfl;have q4:=hg.ck 4 _ rfl;have q5:=hg.ck 5 _ rfl;have q6:=hg.ck 6 _ rfl;have q7:=hg.ck 7 _ rfl;have q8:=hg.ck 8 _ rfl;have q9:=hg.ck 9 _ rfl;have q10:=hg.ck 10 _ rfl;have HF:=aA hf;have HK:=aA hk;have UF:=aA ih;have hf1:(0:Int)≤(f:Int):=bO _;have hf2:(f:Int)<(l.length:Int):=au
 have hk1:(0:Int)≤(k:Int):=bO _;have hk2:(k:Int)<((fA (bs a.t)).length:Int):=au
 have HM:=aA <| hd.2.2.2.1;have HI:=aA <| hd.2.2.2.2.1;have kA:∀ o:Obj,Below w.heap.size w (w.alloc o):=fun o=>(aB _ w).alloc (ax _) o
 have lV:=aA kA;clear h hf hk hd hg ih kA HD;obtain⟨d0,d1,d2,d3,d4,d5,d6,d7,d8,d9,BR,uV,d10⟩:=d;dsimp only at *;go_enter func38,ntmps38;go_wp2_with fail
 refine(zH ((HR.o).below ((lV.o) _)) ((HM.o).below ((lV.o) _))).mono ?_;rintro e w2 ⟨rfl,k2⟩;have hX:w2.heap[w.heap.size]?=some (.cells #[.bool d0,.bool d1,.pointer d2,.pointer d3,.pointer d4,.pointer d5,.bool d6,.pointer d7,.bool d8,.slice d9 BR uV,.pointer d10] 57 (0,0)):=(Kp.aN k2 (fun _=>False)).heap (aI w _) id;have x5:=aj w2 _ 5 _ _ _ hX;have HB2:=aA <| ((lV.o) _).trans (k2.mono aT);clear hX k2 q0 q1 q2 q3 q4 q5 q6 q7 q8 q9 q10 c2 cf HM;cases hmod:m_ (dA l) m.1 with
 | none =>
  have HA:Hid (iC (dA l) left f k=(-1,-1,4)):=Np HF.o HK.o hmod;clear hmod;rw[pU];go_wp2_with fail
  go_ret3
  exact⟨BS HA.o,HB2.o⟩
 | some f' =>
  have bE1:=U5 (HR.o).st.nm hmod;obtain⟨a',ha'⟩:∃ a',l[f']?=some a':=⟨l[f'],aF bE1⟩;have i1:decide ((f':Int)<0)=false:=aT
  rw[pU];rcases HI.o with ⟨hn,hv⟩|⟨hn,N,t,rv,kM,en,tt,la,hv,hN1,tX,-,hnd⟩
  ·cases hv
   have HA:Hid (iC (dA l) left f k=(-1,-1,4)):=CB HF.o HK.o hmod ha' (by unfold iV;rw[aU hn]);clear hmod ha';go_wp2_with fail
   go_ret3
   exact⟨BS HA.o,HB2.o⟩
  ·cases hv
   obtain⟨⟨-,-,t2,-⟩,-⟩:=hnd.facts;have rC:=bN hnd;have s2:=iY HB2.o rC t2;have HR2:=aA ((HR.o).below HB2.o);have HT:=aA (zf HR2.o ha' n.1 hn);clear hnd t2 HI;go_wp2_with fail
   refine(HT.o).mono ?_;rintro e w3 ⟨rfl,k3⟩;have HB3:=aA <| (HB2.o).trans (k3.mono (HB2.o).size);have HR3:=aA ((HR2.o).below k3);clear k3 x5 s2 HT;cases htop:iV (fA (bs a'.t)) n.1 with
   | none =>
    have HA:Hid (iC (dA l) left f k=(-1,-1,4)):=CB HF.o HK.o hmod ha' htop;clear hmod ha' htop;rw[pU];go_wp2_with fail
    go_ret3
    exact⟨BS HA.o,HB3.o⟩
   | some k' =>
    obtain⟨it',hit',hcl,-⟩:=Cz htop;have HA:=aA (Qb (left:=left) HF.o HK.o hmod ha' htop hit');have cF8:=lt_of_some hit';have cF9:=sN HR3.o ha';obtain⟨ga',gi',ca',cb',d',hg',-,-,-,-,hd'⟩:=(HR3.o).got ha' hit';have c2:=hg'.c2;have cf:=hg'.cf;have q0:w3.cell? (aC gi' (k'*11))=some (.bool d'.use):=hg'.ck 0 _ rfl;have q1:=hg'.ck 1 _ rfl;have q2:=hg'.ck 2 _ rfl;have q3:=hg'.ck 3 _ rfl;have q4:=hg'.ck 4 _ rfl;have q5:=hg'.ck 5 _ rfl;have q6:=hg'.ck 6 _ rfl;have q7:=hg'.ck 7 _ rfl;have q8:=hg'.ck 8 _ rfl;have q9:=hg'.ck 9 _ rfl;have q10:=hg'.ck 10 _ rfl;obtain⟨hn',hp',hu'⟩:=hd'.parts;have hg1':(0:Int)≤(f':Int):=bO _;have cG1:(f':Int)<(l.length:Int):=au
    have cG2:(0:Int)≤(k':Int):=bO _;have cG3:(k':Int)<((fA (bs a'.t)).length:Int):=au
    have i2:decide ((k':Int)<0)=false:=aT
    have HHA:=aA ha';have HIT:=aA hit';have bE2:=(HB3.o).size;have FV:Hid (∀ o:Obj,Below w.heap.size w (w3.alloc o)):=fun o=>(HB3.o).alloc bE2 o
    have HR4:Hid (∀ o:Obj,Dr w0 K l us (w3.alloc o)):=fun o=>(HR3.o).below ((aB _ w3).alloc (ax _) o)
    clear hmod ha' htop hit' hd' hg' HR2;obtain⟨e0,e1,e2,e3,e4,e5,e6,e7,e8,e9,e9b,e9c,e10⟩:=d';dsimp only at *;rw[pU];by_cases hsh:shown it'=false∧f'≠f
    ·have HA2:Hid (iC (dA l) left f k=(-1,-1,6)):=by show _=_;rw[HA.o,aU hsh]
     obtain rfl:e1=false:=hp'.trans hsh.1;have i3:((f':Int) !=(f:Int))=true:=by have:=hsh.2;simp;omega
     clear HA hsh hp';go_wp2_with fail
     go_ret3
     exact⟨BS HA2.o,(FV.o) _⟩
    ·have HA2:=aA HA.o
     rw[aM hsh] at HA2;have Yy:shown it'=true∨(shown it'=false∧((f':Int) !=(f:Int))=false):=by
      cases hb:shown it' with
      | true=>exact .inl rfl
      | false=>refine .inr ⟨rfl,?_⟩;have:f'=f:=Classical.byContradiction (fun e=>hsh ⟨hb,e⟩);rw[this];simp
     clear HA hsh;cases it' with
     | dfn p' nn ps' ee =>
      have Xq:Hid (iC (dA l) left f k=((f':Int),(nn.2:Int),0)):=by
       show _=_;rw[HA2.o];cases left with
       | zero=>rfl
       | succ j=>exact LU HHA.o (by rw[HIT.o])
      rcases hn' with ⟨hn0,-⟩|⟨hn0,N',t',rv',aH7,en',U6,la',hv',-,-,-,hnd'⟩
      ·exfalso
       have:nn.1=n.1:=hcl;exact hn (this ▸ hn0)
      ·cases hv'
       obtain⟨⟨-,-,-,-,-,-,u6,-⟩,-⟩:=hnd'.facts;have D8:=bN hnd';have cG4:¬ N'=w3.heap.size:=au
       obtain rfl:e0=false:=hu';have hcd:called (.dfn p' nn ps' ee)=nn:=rfl;rw[hcd] at u6;clear HA2 hnd' hcl;rcases Yy with hb|⟨hb,i3⟩
       ·obtain rfl:e1=true:=hp'.trans hb
        clear hp' hb;go_wp2_with fail
        go_quiet (fail)
        go_wp2_with fail
        go_ret3
        exact⟨BS Xq.o,iQ ((FV.o) _) _⟩
       ·obtain rfl:e1=false:=hp'.trans hb
        clear hp' hb;go_wp2_with fail
        go_quiet (fail)
        go_wp2_with fail
        go_ret3
        exact⟨BS Xq.o,iQ ((FV.o) _) _⟩
     | use p' m' n' gs' al' =>
      obtain rfl:e0=true:=hu';clear hn' hcl;cases left with
      | zero =>
       have Xq:=aA <| HA2.o;clear HA2 UF;rcases Yy with hb|⟨hb,i3⟩
       ·obtain rfl:e1=true:=hp'.trans hb
        clear hp' hb;go_wp2_with fail
        go_ret3
        exact⟨BS Xq.o,(FV.o) _⟩
       ·obtain rfl:e1=false:=hp'.trans hb
        clear hp' hb;go_wp2_with fail
        go_ret3
        exact⟨BS Xq.o,(FV.o) _⟩
      | succ j =>
       have Xq:Hid (iC (dA l) (j+1) f k=iC (dA l) j f' k'):=HA2.o;have HC:Hid (∀ o:Obj,bB 38 #[aH K.wb,ak f',ak k',ak j] (w3.alloc o) (cK (.tuple #[ak (iC (dA l) j f' k').1,ak (iC (dA l) j f' k').2.1,ak (iC (dA l) j f' k').2.2]) fun w'=>Below (w3.alloc o).heap.size (w3.alloc o) w')):=fun o=>(UF.o) j rfl us (w3.alloc o) f' k' a' p' m' n' gs' al' ((HR4.o) o) HHA.o (by rw[HIT.o])
       have i4:(((j+1:Nat):Int)==0)=false:=aQ
       have i5:((j+1:Nat):Int) - 1=(j:Int):=au
       clear HA2 UF;generalize iC (dA l) j f' k'=an at *;rcases Yy with hb|⟨hb,i3⟩
       ·obtain rfl:e1=true:=hp'.trans hb
        clear hp' hb;go_wp2_with fail
        try rw[i5]
        refine((HC.o) _).mono ?_;rintro e w5 ⟨rfl,k5⟩;have FW:=aA <| ((FV.o) _).trans (k5.mono ((FV.o) _).size);clear k5;go_wp2_with fail
        go_ret3
        exact⟨BS Xq.o,FW.o⟩
       ·obtain rfl:e1=false:=hp'.trans hb
        clear hp' hb;go_wp2_with fail
        try rw[i5]
        refine((HC.o) _).mono ?_;rintro e w5 ⟨rfl,k5⟩;have FW:=aA <| ((FV.o) _).trans (k5.mono ((FV.o) _).size);clear k5;go_wp2_with fail
        go_ret3
        exact⟨BS Xq.o,FW.o⟩
theorem uW:∀ left,left≤8589934592→zL w0 K l left
 | 0,h=>yo 0 h (fun j hj=>au)
 | left+1,h=>yo (left+1) h (fun j hj=>by rw[show j=left by omega];exact uW left au)
end
section
open Tryz
variable{w0:aG}{K:DK}{l:List AF}{us:List X.U}{w:aG}
theorem Yz:(prog.info? 63).map (fun i=>(i.zero,i.size,i.bytes))=some (some (.agg #[ak 0,ak 0,ak 0,ak 0,ak 0,ak 0]),6,48):=bC
theorem mD(f kM s:Nat)(tf tt:Int)(er:Nat)(h:Dr w0 K l us w)(hlim:us.length+1≤1073741824) :
  bB 19 #[aH K.wb,.agg #[ak f,ak kM,ak s,ak tf,ak tt,ak er]] w (cK (.tuple #[]) fun w'=>Hid (Dr w0 K l (us++[⟨f,kM,s,tf,tt,er⟩]) w'∧Dx K w0.heap.size w w')):=by
 have JU:=aA h;obtain⟨i0,hi0,hz0,hz1,hz2⟩:=dM Yz;have kA:Below w.heap.size w (w.alloc (.cells #[ak f,ak kM,ak s,ak tf,ak tt,ak er] 63)):=(aB _ w).alloc (ax _) _;have hU:(w.alloc (.cells #[ak f,ak kM,ak s,ak tf,ak tt,ak er] 63)).heap[w.heap.size]?=some (.cells #[ak f,ak kM,ak s,ak tf,ak tt,ak er] 63 (0,0)):=aI w _;have hw0:=h.size;have hwb:=h.st.wl;obtain⟨nv0,-,-,n3,-,hown0⟩:=h.cells;have aH8:=dG hown0;have R2:=h.below kA;obtain⟨nv,-,-,b3,f3,hown⟩:=R2.cells;have e0:nv0=nv:=by
  have:=iY kA h.wl n3;rw[b3] at this;exact(bQ this).symm
 subst e0;have lV:=aA kA;go_enter func19,ntmps19;go_wp2_with fail
 generalize hw2:w.alloc (.cells #[ak f,ak kM,ak s,ak tf,ak tt,ak er] 63)=w2 at *;have hsz:w2.heap.size=w.heap.size+1:=by rw[← hw2];simp
 have u0:=aj w2 _ 0 _ _ _ hU;have u1:=aj w2 _ 1 _ _ _ hU;have u2:=aj w2 _ 2 _ _ _ hU;have u3:=aj w2 _ 3 _ _ _ hU;have u4:=aj w2 _ 4 _ _ _ hU;have u5:=aj w2 _ 5 _ _ _ hU;have HNB:=aA aH8;have HO:=aA hown;have HR2:=aA R2;have FX:us.length≤1073741824:=au
 have JV:(us.length+1)*48≤140737488355328:=au
 have HZ:=aA hsz;have HZ0:=aA hw0;clear aH8 hown hown0 R2 hU hw2 n3 h hsz hw0;refine wp_region_noPanic ?_;refine dB (S:=fun w'=>w'.cell? (aC w.heap.size 0)=some (ak f)∧w'.cell? (aC w.heap.size 1)=some (ak kM)∧w'.cell? (aC w.heap.size 2)=some (ak s)∧w'.cell? (aC w.heap.size 3)=some (ak tf)∧w'.cell? (aC w.heap.size 4)=some (ak tt)∧w'.cell? (aC w.heap.size 5)=some (ak er)∧w'.cell? (aC K.wb 3)=some nv0) (z:=10) bC ?_;have hS:w2.drew.cell? (aC w.heap.size 0)=some (ak f)∧w2.drew.cell? (aC w.heap.size 1)=some (ak kM)∧w2.drew.cell? (aC w.heap.size 2)=some (ak s)∧w2.drew.cell? (aC w.heap.size 3)=some (ak tf)∧w2.drew.cell? (aC w.heap.size 4)=some (ak tt)∧w2.drew.cell? (aC w.heap.size 5)=some (ak er)∧w2.drew.cell? (aC K.wb 3)=some nv0:=⟨u0,u1,u2,u3,u4,u5,b3⟩;iterate 6(refine ny hS ?_;simp only[Act.put,aD,aO,aP])
 refine dY (i:=6) bC rfl (fun KK hK=>?_);go_simp;refine hK.o _ _ (fun _=>by first|go_keep|(dsimp only;go_keep)) (fun hS2=>?_);clear hS hK KK;have hS:=hS2 aS;clear hS2;refine dY (i:=7) bC rfl (fun KK hK=>?_);refine step_append_lies _ (by rfl) _ _ _ (by rfl) w0.heap.size 63 i0 _ 6 48 underlying37 hi0 hz0 hz1 hz2 rfl au nv0 us.length _ (by rfl) (((HO.o:w2.ownsRow _ _ _ _ _ _).alloc _).drew)
  ⟨w2.heap.size,0,none⟩ 1 1 (uv ⟨f,kM,s,tf,tt,er⟩) (by rfl) (by rfl) (World.news_of_block (cs:=#[ak f,ak kM,ak s,ak tf,ak tt,ak er]) (t:=63) (fr:=(0,0)) (aI w2 _)) (by simp[Value.oneCell',uv])
  au (by unfold maxLen;omega) JV (by have:=HZ0.o;have:=HZ.o;simp;omega) (w2.heap.size+1) aT ?_
 intro g cap5 w5 hown5 aV gI jm;have nb:=HNB.o;have hz:=HZ.o;have cG5:=HZ0.o;have hun:some w.heap.size≠nv0.ownBlock:=fun e=>by have:=(nb _ e.symm).2;omega
 have y0:=(aV.cell_far ⟨w.heap.size,0,none⟩ aQ hun).trans hS.1;have y1:=(aV.cell_far ⟨w.heap.size,1,none⟩ aQ hun).trans hS.2.1;have y2:=(aV.cell_far ⟨w.heap.size,2,none⟩ aQ hun).trans hS.2.2.1;have y3:=(aV.cell_far ⟨w.heap.size,3,none⟩ aQ hun).trans hS.2.2.2.1;have y4:=(aV.cell_far ⟨w.heap.size,4,none⟩ aQ hun).trans hS.2.2.2.2.1;have y5:=(aV.cell_far ⟨w.heap.size,5,none⟩ aQ hun).trans hS.2.2.2.2.2.1;have hwn:some K.wb≠nv0.ownBlock:=fun e=>by have:=(nb _ e.symm).1;omega
 have y6:=(aV.cell_far ⟨K.wb,3,none⟩ aQ hwn).trans hS.2.2.2.2.2.2;have x2:=(aV.frozen_far ⟨K.wb,3,none⟩ aQ hwn).trans ((bD _ _ ⟨K.wb,3,none⟩ aQ).trans f3);show KK (Act.put _ (some 11) _) w5;refine hK.o _ _ (fun _=>⟨y0,y1,y2,y3,y4,y5,y6⟩) (fun hS2=>?_);clear hS hK KK;have hS:=hS2 aS;clear hS2;simp only[Act.put,aD,aO,aP];refine dY (i:=8) bC rfl (fun KK hK=>?_);go_simp;refine hK.o _ _ (fun _=>hS) (fun _=>?_);clear hK KK;refine dY (i:=9) bC rfl (fun KK hK=>?_);go_simp;refine hK.o _ _ (fun _=>hS) (fun _=>?_);clear hK KK;refine dY (i:=10) bC rfl (fun KK hK=>?_);go_simp;refine hK.o _ _ (fun h=>absurd rfl h) (fun _=>iF ?_);clear hK KK;refine NoPanic.normal ?_;have HF:Hid (Dr w0 K l (us++[⟨f,kM,s,tf,tt,er⟩]) (w5.setCell (aC K.wb 3) (.slice (b_ g) (us.length+1) cap5))∧Dx K w0.heap.size w (w5.setCell (aC K.wb 3) (.slice (b_ g) (us.length+1) cap5))):=by
  have hb3:Below w2.heap.size w2 (w2.alloc (.cells #[ak f,ak kM,ak s,ak tf,ak tt,ak er] 63)).drew:=((aB _ w2).alloc (ax _) _).drew;have:=Dr.told HR2.o hb3 b3 ⟨f,kM,s,tf,tt,er⟩ hown5 aV au;exact⟨this.1,(Dx.aN lV.o).trans this.2⟩
 clear y0 y1 y2 y3 y4 y5 y6 x2 hS hown5 aV gI nb;go_wp2_with fail
 go_end0;exact⟨rfl,HF⟩
namespace X
def sO(sl:List Nm)(x:ah):Option Nat:=(sl.reverse.find? (fun m=>m.1==x)).map (·.2)
def Sg(sc:List (List Nm))(sl:List Nm):Prop:=∀ x,x≠[]→sO sl x=sight sc x
theorem zM(sl:List Nm)(n:Nm)(x:ah):sO (sl++[n]) x=if n.1=x then some n.2 else sO sl x:=by
 unfold sO;rw[List.reverse_append];simp only[List.reverse_cons,List.reverse_nil,bM,List.singleton_append,aE1];by_cases h:n.1=x
 ·simp[h]
 ·have:(n.1==x)=false:=by simpa using h
  simp[this,h]
theorem Sg.nil:Sg [] []:=fun _ _=>rfl
theorem Sg.kH{sc:List (List Nm)}{sl:List Nm}(h:Sg sc sl)(n:Nm):Sg ([n]::sc) (sl++[n]):=fun x hx=>by
 rw[zM,sight];unfold first;rw[aE1];by_cases e:n.1=x
 ·simp[e]
 ·have:(n.1==x)=false:=by simpa using e
  simp[this,e,h x hx]
theorem Sg.miss{sc:List (List Nm)}{sl:List Nm}(h:Sg sc sl){n:Nm}(hn:n.1=[]):Sg ([n]::sc) sl:=fun x hx=>by
 rw[sight];unfold first;rw[aE1];have:(n.1==x)=false:=by rw[hn,eO];exact fun e=>hx e.symm
 simp[this,h x hx]
def dd:List Nm→List Nm→List Nm
 | _,[]=>[]
 | seen,n::ns=>(if n.1=[] then [] else if seen.any (fun m=>m.1==n.1) then [] else [n])++dd (seen++[n]) ns
theorem zN:∀(seen ns:List Nm),(dd seen ns).length≤ns.length
 | _,[]=>bJ _
 | seen,n::ns=>by
  rw[dd,ay,aY];have:=zN (seen++[n]) ns
  split
  ·simp;omega
  ·split
   ·simp;omega
   ·simp;omega
theorem zh:∀(ns:List Nm) (seen:List Nm) (n:Nm),dd seen (ns++[n])=dd seen ns++(if n.1=[] then [] else if (seen++ns).any (fun m=>m.1==n.1) then [] else [n])
 | [],seen,n=>by rw[bM,dd,dd,dd,aL,bM,aL]
 | m::ns,seen,n=>by
  rw[fM,dd,dd,zh ns,aK,aK];rfl
theorem Nq{ns:List Nm}{x:ah}:ns.any (fun m=>m.1==x)=(first ns x).isSome:=by
 unfold first;rw[Option.isSome_map];rw[gq,List.find?_isSome,o9]
theorem FY(ns:List Nm)(n:Nm)(x:ah):first (ns++[n]) x=match first ns x with|some i=>some i|none=>if n.1=x then some n.2 else none:=by
 unfold first;rw[List.find?_append];cases h:ns.find? (fun m=>m.1==x) with
 | some m=>simp
 | none =>
  by_cases e:n.1=x
  ·simp[e]
  ·have:(n.1==x)=false:=by simpa using e
   simp[this,e]
theorem Sg.par{sc:List (List Nm)}{sl:List Nm}(h:Sg sc sl):∀ k (ns:List Nm),ns.length=k→Sg (ns::sc) (sl++dd [] ns):=by
 intro k
 induction k with
 | zero =>
  intro ns hns;obtain rfl:=bP.1 hns;intro x hx;rw[dd,aL,sight];exact h x hx
 | succ k ih =>
  intro ns hns;rcases List.eq_nil_or_concat ns with rfl|⟨ms,n,rfl⟩
  ·simp at hns
  ·have hms:ms.length=k:=by simp at hns;omega
   have:=ih ms hms;intro x hx;have h1:=this x hx;rw[sight] at h1;rw[List.concat_eq_append,zh,bM,sight,FY];by_cases hn:n.1=[]
   ·rw[aU hn,aL,h1,aM (fun e=>hx (e.symm.trans hn))]
    cases first ms x<;>rfl
   ·rw[aM hn,Nq]
    cases hf:first ms n.1 with
    | some i =>
     rw[Option.isSome_some,aU rfl,aL,h1];cases hf2:first ms x with
     | some j=>rfl
     | none =>
      have:¬ n.1=x:=fun e=>by rw[e,hf2] at hf;cases hf
      rw[aM this]
    | none =>
     rw[Option.isSome_none,aM aS,← aK,zM,h1];by_cases e:n.1=x
     ·rw[aU e,aU e,← e,hf]
     ·rw[aM e,aM e]
      cases first ms x<;>rfl
theorem Sg.aH9{sc:List (List Nm)}{sl:List Nm}(h:Sg sc sl)(ns:List Nm):Sg (ns::sc) (sl++dd [] ns):=h.par _ ns rfl
end X
structure oH(K:DK)(B:Nat)(w:aG)(no:Option Addr)(nc:Nat)(ao:Option Addr)(ac:Nat)(sl:List X.Nm):Prop where
 nb:sl.length≤nc∧nc≤maxLen
 ab:sl.length≤ac∧ac≤maxLen
 nr:∀(j:Nat) (n:X.Nm),sl[j]?=some n→∃ g,no=some ⟨g,0,none⟩∧Sf K B w g∧w.cell? (aC g j)=some (.string (ba n.1))
 ar:∀(j:Nat) (n:X.Nm),sl[j]?=some n→∃ g,ao=some ⟨g,0,none⟩∧Sf K B w g∧w.cell? (aC g j)=some (ak n.2)
theorem oH.keep{K:DK}{B:Nat}{w w':aG}{no ao:Option Addr}{nc ac:Nat}{sl:List X.Nm}(h:oH K B w no nc ao ac sl)(hk:Dx K B w w'):oH K B w' no nc ao ac sl :=
 ⟨h.nb,h.ab,fun j n hj=>by obtain⟨g,e1,e2,e3⟩:=h.nr j n hj;exact⟨g,e1,e2.keep hk,e2.cell hk e3⟩,fun j n hj=>by obtain⟨g,e1,e2,e3⟩:=h.ar j n hj;exact⟨g,e1,e2.keep hk,e2.cell hk e3⟩⟩
theorem infoSt:(prog.info? 9).map (fun i=>(i.zero,i.size,i.bytes))=some (some (.string ⟨#[]⟩),1,16):=bC
theorem D9:(prog.info? 3).map (fun i=>(i.zero,i.size,i.bytes))=some (some (ak 0),1,8):=bC
end
section
open Tryz
variable{w:aG}{us:List X.U}
theorem Ad{t:TypeId}{base:Nat}{nv:Value}(h:w.ownsRow base t 6 nv us.length (yj us)){i:Nat}{u:X.U}(hu:us[i]?=some u):∃ g cap,nv=.slice (b_ g) us.length cap∧us.length≤cap∧cap≤maxLen∧g<w.heap.size∧w.cell? (aC g (i*6))=some (ak u.f)∧w.cell? (aC g (i*6+1))=some (ak u.i)∧w.cell? (aC g (i*6+2))=some (ak u.s)∧w.cell? (aC g (i*6+3))=some (ak u.tf)∧w.cell? (aC g (i*6+4))=some (ak u.tt)∧w.cell? (aC g (i*6+5))=some (ak u.e):=by
 have hil:=lt_of_some hu;obtain⟨g,cap,rfl,-,hlt⟩:=h.form au;rcases h.2 with ⟨e,-⟩|⟨g',cap',cur,e,-,-,hn,hm,-,-⟩
 ·cases e
 ·cases e
  have hc:∀ j,j<6→w.cell? (aC g (i*6+j))=(uv u)[j]?:=fun j hj=>(h.cellAt (i*6+j) au).trans (L8 us i u hu j hj)
  exact⟨g,cap,rfl,hn,hm,hlt,hc 0 au,hc 1 au,hc 2 au,hc 3 au,hc 4 au,hc 5 au⟩
theorem QH(f i s:Nat)(tf tt:Int)(er:Nat)(w:aG):bB 22 #[.agg #[ak f,ak i,ak s,ak tf,ak tt,ak er],.agg #[ak f,ak i,ak s,ak tf,ak tt,ak er]] w (cK (.bool true) fun w'=>Below w.heap.size w w'):=by
 have j1:((f:Int)==(f:Int))=true:=aT
 have j2:((i:Int)==(i:Int))=true:=aT
 have j3:((s:Int)==(s:Int))=true:=aT
 have j4:(tf==tf)=true:=aT
 have j5:(tt==tt)=true:=aT
 have j6:((er:Int)==(er:Int))=true:=aT
 have kA:∀ o o':Obj,Below w.heap.size w ((w.alloc o).alloc o'):=fun o o'=>((aB _ w).alloc (ax _) o).alloc aT o'
 have lV:=aA kA;clear kA;go_enter func22,ntmps22;go_wp2_with fail
 go_ret;exact⟨rfl,(lV.o) _ _⟩
theorem NN{B1 B2:Nat}{nv dv:Value}(h1:w.ownsRow B1 72 6 nv us.length (yj us))(h2:w.ownsRow B2 63 6 dv us.length (yj us))(hl:us.length≤1073741824) :
  bB 9 #[nv,dv] w (cK (.bool true) fun w'=>Below w.heap.size w w'):=by
 have lT:Hid (∀ i u,us[i]?=some u→∃ g cap g' cap',nv=.slice (b_ g) us.length cap∧dv=.slice (b_ g') us.length cap'∧g<w.heap.size∧g'<w.heap.size∧(w.cell? (aC g (i*6))=some (ak u.f)∧w.cell? (aC g (i*6+1))=some (ak u.i)∧w.cell? (aC g (i*6+2))=some (ak u.s)∧w.cell? (aC g (i*6+3))=some (ak u.tf)∧w.cell? (aC g (i*6+4))=some (ak u.tt)∧w.cell? (aC g (i*6+5))=some (ak u.e))∧(w.cell? (aC g' (i*6))=some (ak u.f)∧w.cell? (aC g' (i*6+1))=some (ak u.i)∧w.cell? (aC g' (i*6+2))=some (ak u.s)∧w.cell? (aC g' (i*6+3))=some (ak u.tf)∧w.cell? (aC g' (i*6+4))=some (ak u.tt)∧w.cell? (aC g' (i*6+5))=some (ak u.e))):=fun i u hu=>by
  obtain⟨g,cap,e1,-,-,e4,e5⟩:=Ad h1 hu;obtain⟨g',cap',f1,-,-,f4,f5⟩:=Ad h2 hu;exact⟨g,cap,g',cap',e1,f1,e4,f4,e5,f5⟩
 have form:∀ {t:TypeId} {B:Nat} {rv:Value},w.ownsRow B t 6 rv us.length (yj us)→∃ ao cap,rv=.slice ao us.length cap∧us.length≤cap∧cap≤maxLen:=fun h=>by
  rcases h.2 with ⟨e,h0⟩|⟨g,cap,cur,e,hge,hg,hn,hmx,hsz,htk⟩
  ·exact⟨none,0,by rw[h0];exact e,au,by unfold maxLen;omega⟩
  ·exact⟨_,cap,e,hn,hmx⟩
 obtain⟨na,nc,rfl,n1,n2⟩:=form h1;obtain⟨da,dc,rfl,d1,d2⟩:=form h2;have i0:((us.length:Int) !=(us.length:Int))=false:=aT
 clear h1 h2 form;go_enter func9,ntmps9;go_wp2_with fail
 go_loopw [5] (fun kv wr=>∃ k:Nat,kv=ak k∧k≤us.length∧Hid (Below w.heap.size w wr)) (fun kv _=>us.length - (intOf kv).toNat)
 case atStart=>exact⟨0,rfl,bJ _,aB _ _⟩
 case round =>
  obtain⟨k,rfl,hk,HB⟩:=hrel;by_cases hlt:k<us.length
  case neg =>
   obtain rfl:k=us.length:=au
   have i1:decide (us.length<us.length)=false:=aT
   have i2:decide ((us.length:Int)<(us.length:Int))=false:=aT
   go_wp2_with fail
   go_ret;exact⟨rfl,HB.o⟩
  have i1:decide (k<us.length)=true:=aQ
  have i2:decide ((k:Int)<(us.length:Int))=true:=aQ
  have hi1:(0:Int)≤(k:Int):=bO _;have hi2:(k:Int)<(us.length:Int):=au
  obtain⟨u,hu⟩:∃ u,us[k]?=some u:=⟨us[k],aF hlt⟩;obtain⟨g,cap,g',cap',e1,f1,e4,f4,⟨a0,a1,a2,a3,a4,a5⟩,⟨b0,b1,b2,b3,b4,b5⟩⟩:=(lT.o) k u hu;cases e1
  cases f1
  obtain⟨uf,ui,uS,utf,utt,ue⟩:=u;dsimp only at *;have x0:=iY HB.o e4 a0;have x1:=iY HB.o e4 a1;have x2:=iY HB.o e4 a2;have x3:=iY HB.o e4 a3;have x4:=iY HB.o e4 a4;have x5:=iY HB.o e4 a5;have y0:=iY HB.o f4 b0;have y1:=iY HB.o f4 b1;have y2:=iY HB.o f4 b2;have y3:=iY HB.o f4 b3;have y4:=iY HB.o f4 b4;have y5:=iY HB.o f4 b5;have hgl:g<wr.drew.heap.size:=Nat.lt_of_lt_of_le e4 (HB.o).size;have F8:g'<wr.drew.heap.size:=Nat.lt_of_lt_of_le f4 (HB.o).size;have HC:=aA (QH uf ui uS utf utt ue wr.drew);clear a0 a1 a2 a3 a4 a5 b0 b1 b2 b3 b4 b5 hu;go_wp2_with fail
  refine wp_region_noPanic ?_;refine dB (S:=fun w'=>w'.cell? (aC g (k*6))=some (ak uf)∧w'.cell? (aC g (k*6+1))=some (ak ui)∧w'.cell? (aC g (k*6+2))=some (ak uS)∧w'.cell? (aC g (k*6+3))=some (ak utf)∧w'.cell? (aC g (k*6+4))=some (ak utt)∧w'.cell? (aC g (k*6+5))=some (ak ue)∧w'.cell? (aC g' (k*6))=some (ak uf)∧w'.cell? (aC g' (k*6+1))=some (ak ui)∧w'.cell? (aC g' (k*6+2))=some (ak uS)∧w'.cell? (aC g' (k*6+3))=some (ak utf)∧w'.cell? (aC g' (k*6+4))=some (ak utt)∧w'.cell? (aC g' (k*6+5))=some (ak ue)) (z:=10) bC ?_;have hS:wr.drew.cell? (aC g (k*6))=some (ak uf)∧wr.drew.cell? (aC g (k*6+1))=some (ak ui)∧wr.drew.cell? (aC g (k*6+2))=some (ak uS)∧wr.drew.cell? (aC g (k*6+3))=some (ak utf)∧wr.drew.cell? (aC g (k*6+4))=some (ak utt)∧wr.drew.cell? (aC g (k*6+5))=some (ak ue)∧wr.drew.cell? (aC g' (k*6))=some (ak uf)∧wr.drew.cell? (aC g' (k*6+1))=some (ak ui)∧wr.drew.cell? (aC g' (k*6+2))=some (ak uS)∧wr.drew.cell? (aC g' (k*6+3))=some (ak utf)∧wr.drew.cell? (aC g' (k*6+4))=some (ak utt)∧wr.drew.cell? (aC g' (k*6+5))=some (ak ue):=⟨x0,x1,x2,x3,x4,x5,y0,y1,y2,y3,y4,y5⟩;iterate 8(refine oQ hS ?_;simp only[Act.put,aD,aO,aP])
  refine dY (i:=8) bC rfl (fun KK hK=>?_);go_simp;refine(HC.o).aX fun w4 H4=>?_;have z0:=iY H4 hgl hS.1;have z1:=iY H4 hgl hS.2.1;have z2:=iY H4 hgl hS.2.2.1;have z3:=iY H4 hgl hS.2.2.2.1;have z4:=iY H4 hgl hS.2.2.2.2.1;have z5:=iY H4 hgl hS.2.2.2.2.2.1;have z6:=iY H4 F8 hS.2.2.2.2.2.2.1;have z7:=iY H4 F8 hS.2.2.2.2.2.2.2.1;have z8:=iY H4 F8 hS.2.2.2.2.2.2.2.2.1;have z9:=iY H4 F8 hS.2.2.2.2.2.2.2.2.2.1;have PU:=iY H4 F8 hS.2.2.2.2.2.2.2.2.2.2.1;have z11:=iY H4 F8 hS.2.2.2.2.2.2.2.2.2.2.2;go_simp;refine hK.o _ _ (fun _=>⟨z0,z1,z2,z3,z4,z5,z6,z7,z8,z9,PU,z11⟩) (fun hS2=>?_);clear hS hK KK;have hS:=hS2 aS;clear hS2;refine dY (i:=9) bC rfl (fun KK hK=>?_);go_simp;refine hK.o _ _ (fun _=>hS) (fun _=>iF ?_);clear hK KK;refine NoPanic.normal ?_;have HB2:=aA <| (iQ HB.o _).trans (H4.mono (by show w.heap.size≤wr.heap.size;exact(HB.o).size));clear HB hS x0 x1 x2 x3 x4 x5 y0 y1 y2 y3 y4 y5 H4;go_wp2_with fail
  exact⟨⟨k+1,by go_num,au,HB2⟩,by simp only[intOf];omega⟩
end
end Go.Proofs.YtoohcklcppnafaaGreatDoor
