/- Package value: a machine in memory. -/
import Derived.Test.YtdkpkpgpphkljaaGreatDoorRb
import Derived.Deep.AppendLies
namespace Go.Proofs.YtdkpkpgpphkljaaGreatDoor
set_option maxRecDepth 100000
set_option maxHeartbeats 4000000
open Tryz
open Go.RowKit
open E (St Bo V Fr Ms)
section
variable{cs':Array Value}{v EY ev' Bn:Value}{q fu nx:Nat}{l vs:List V}{env:List (List V)}
variable{β:Nat}
def Ob(β:Nat)(w:World)(v:Value):Prop:=v=.pointer none∨∃(b l r:Nat) (n:Int) (x:ah),v=.pointer (some ⟨b,0,none⟩)∧w.heap[b]?=some (.cells #[.int .i64 n,.string (ba x),.pointer (some ⟨l,0,none⟩),.pointer (some ⟨r,0,none⟩)] 200 (0,0))∧ku β w b x
def ShD(cs:Array Value):Prop:=∀ i j,i<j→j<16→cs[6+i]?=cs[6+j]?→cs[6+i]?=some (.pointer none)
theorem ShD.of{cs:Array Value}(h:ShD cs)(e6:∀ i,6≤i→cs'[i]?=cs[i]?):ShD cs':=fun i j hi hj=>by
 rw[e6 _ (by omega),e6 _ (by omega)];exact h i j hi hj
structure Mx(β:Nat)(w:World)(O:Nat→Prop)(T:Int × Int→Nat)(mb:Nat)(m:Ms)(cs:Array Value)(sv nv ev vv bv:Value)(bc:List Value)(ro:Nat→Value):Prop where
 blk:w.heap[mb]?=some (.cells cs 89 (0,0))
 sz:cs.size=23
 c0:cs[0]?=some sv
 c1:cs[1]?=some nv
 c2:cs[2]?=some ev
 c3:cs[3]?=some vv
 c4:cs[4]?=some bv
 c5:cs[5]?=some (.int .i64 m.fu)
 sh:∀ i,i<16→∃ p,cs[6+i]?=some p∧Ob β w p
 sn:∃ k:Nat,cs[22]?=some (.int .i64 k)∧k<16∧ShD cs
 fr:xq β w O T sv nv ev vv m.fr
 row:w.ownsRow 0 82 4 bv m.bk.length bc
 WT:∀(j:Nat) (f:Fr),m.bk[j]?=some f→∃ s n e,bc[j*4]?=some s∧bc[j*4+1]?=some n∧bc[j*4+2]?=some e∧bc[j*4+3]?=some (ro j)∧xq β w O T s n e (ro j) f
 mo:O mb
 bo:∀ g,bv.ownBlock=some g→O g
 on:∀ q,O q→∃ c t f,w.heap[q]?=some (.cells c t f)∧(t=89∨t=40∨t=82)
 d1:∀ j g,j<m.bk.length→(ro j).ownBlock=some g→vv.ownBlock≠some g
 d2:∀ i j g,i<j→j<m.bk.length→(ro i).ownBlock=some g→(ro j).ownBlock≠some g
 fl:m.fu≤1073741824
 bl:m.bk.length≤1073741824
def fE(β:Nat)(w:World)(O:Nat→Prop)(T:Int × Int→Nat)(mb:Nat)(m:Ms):Prop:=∃ cs sv nv ev vv bv bc ro,Mx β w O T mb m cs sv nv ev vv bv bc ro
section
variable{w w':World}{O O':Nat→Prop}{T:Int × Int→Nat}{mb:Nat}{m:Ms}{cs:Array Value}{sv nv ev vv bv:Value}{bc:List Value}{ro:Nat→Value}
theorem eX{w:World}{b:Nat}{e:TypeId}{k:Nat}{n:Nat}{xs:List Value}(h:w.ownsRow b e k v n xs){g:Nat}(hg:v.ownBlock=some g):∃ c,w.heap[g]?=some (.cells c e (0,0)):=by
 rcases h.2 with ⟨e1,-⟩|⟨g',cap,cur,e1,-,h2,-⟩
 ·rw[e1] at hg;cases hg
 ·rw[e1] at hg
  cases hg
  exact⟨cur,h2⟩
theorem d_{w:World}{c c':Array Value}{t t':TypeId}{f f':Nat × Nat}(h:w.heap[q]?=some (.cells c t f))(h':w.heap[q]?=some (.cells c' t' f'))(ht:t≠t'):False:=by
 rw[h] at h';injection h' with h';injection h' with _ h' _;exact ht h'
def Sm(mb:Nat)(vv:Value)(q:Nat):Prop:=q=mb∨vv.ownBlock=some q
theorem Mx.sm(h:Mx β w O T mb m cs sv nv ev vv bv bc ro)(hq:Sm mb vv q):O q:=by
 rcases hq with rfl|e
 ·exact h.mo
 ·exact h.fr.vs.ow q e
theorem Mx.wds(h:Mx β w O T mb m cs sv nv ev vv bv bc ro)(hq:O q):¬ ∃ c f,w.heap[q]?=some (.cells c 200 f):=fun⟨c,f,e⟩=>by
 obtain⟨c',t,f',e',ht⟩:=h.on q hq;rcases ht with rfl|rfl|rfl
 ·exact d_ e e' (by decide)
 ·exact d_ e e' (by decide)
 ·exact d_ e e' (by decide)
theorem Mx.kv(h:Mx β w O T mb m cs sv nv ev vv bv bc ro)(hk:Kp (Sm mb vv) w w')(ho:∀ q,q<w.heap.size→O' q→O q):Kv β O O' w w' :=
 Kv.PK (hk.mono (fun _ _ e=>h.sm e)) (fun _ e=>h.wds e) ho
theorem sS.stay{S:Nat→Prop}(hk:Kp S w w')(kv:Kv β O O' w w')(h:sS β w O T v l)(hS:∀ g,v.ownBlock=some g→¬ S g)(ho:∀ g,v.ownBlock=some g→O' g):sS β w' O' T v l:=by
 obtain⟨c,h1,h2⟩:=h.ex;exact⟨⟨c,hk.owns h1 hS,fun j x hx=>by obtain⟨u,h3,h4⟩:=h2 j x hx;exact⟨u,h3,h4.keep kv⟩⟩,ho⟩
theorem xq.stay{S:Nat→Prop}(hk:Kp S w w')(kv:Kv β O O' w w'){s n e v:Value}{f:Fr}(h:xq β w O T s n e v f)(hS:∀ g,v.ownBlock=some g→¬ S g)(ho:∀ g,v.ownBlock=some g→O' g):xq β w' O' T s n e v f :=
 ⟨h.cd.keep kv,h.nx,h.en.keep kv,h.vs.stay hk kv hS ho,h.cl,h.nl⟩
theorem Mx.back(h:Mx β w O T mb m cs sv nv ev vv bv bc ro)(hk:Kp (Sm mb vv) w w')(ho:∀ q,q<w.heap.size→O' q→O q)(hi:∀ q,O q→¬ vv.ownBlock=some q→O' q) :
  w'.ownsRow 0 82 4 bv m.bk.length bc∧∀(j:Nat) (f:Fr),m.bk[j]?=some f→∃ s n e,bc[j*4]?=some s∧bc[j*4+1]?=some n∧bc[j*4+2]?=some e∧bc[j*4+3]?=some (ro j)∧xq β w' O' T s n e (ro j) f:=by
 have kv:=h.kv hk ho;refine⟨hk.owns h.row (fun g hg e=>?_),fun j f hf=>?_⟩
 ·obtain⟨c,hc⟩:=eX h.row hg
  rcases e with rfl|e
  ·exact d_ hc h.blk (by decide)
  ·obtain⟨c',h1,-⟩:=h.fr.vs.ex
   obtain⟨c2,h2⟩:=eX h1 e;exact d_ hc h2 (by decide)
 ·obtain⟨s,n,e,h1,h2,h3,h4,h5⟩:=h.WT j f hf
  have hj:j<m.bk.length:=by
   rcases bE j m.bk.length with g|g
   ·exact g
   ·rw[aO g] at hf;cases hf
  refine⟨s,n,e,h1,h2,h3,h4,h5.stay hk kv (fun g hg e=>?_) (fun g hg=>hi g (h5.vs.ow g hg) (h.d1 j g hj hg))⟩;rcases e with rfl|e
  ·obtain⟨c',h6,-⟩:=h5.vs.ex
   obtain⟨c2,h7⟩:=eX h6 hg;exact d_ h7 h.blk (by decide)
  ·exact h.d1 j g hj hg e
theorem Ob.keep(kv:Kv β O O' w w')(hw:∀(b:Nat) (c:Array Value),w.heap[b]?=some (.cells c 200 (0,0))→w'.heap[b]?=some (.cells c 200 (0,0))){p:Value}(h:Ob β w p):Ob β w' p:=by
 rcases h with h|⟨b,l,r,n,x,h1,h2,h3⟩
 ·exact .inl h
 ·exact .inr ⟨b,l,r,n,x,h1,hw _ _ h2,kv.wd b x h3⟩
theorem Mx.aJ1(h:Mx β w O T mb m cs sv nv ev vv bv bc ro)(hk:Kp (Sm mb vv) w w')(b:Nat)(c:Array Value)(hb:w.heap[b]?=some (.cells c 200 (0,0))):w'.heap[b]?=some (.cells c 200 (0,0)) :=
 hk.heap hb (fun e=>h.wds (h.sm e) ⟨c,_,hb⟩)
theorem Mx.cell(h:Mx β w O T mb m cs sv nv ev vv bv bc ro){i:Nat}(hi:cs[i]?=some v):w.cell? ⟨mb,i,none⟩=some v:=by
 simp[World.cell?,h.blk,hi]
theorem Mx.vB(h:Mx β w O T mb m cs sv nv ev vv bv bc ro)(i:Nat):w.frozen? ⟨mb,i,none⟩=false:=by
 simp[World.frozen?,h.blk]
theorem Mx.lt(h:Mx β w O T mb m cs sv nv ev vv bv bc ro):mb<w.heap.size:=aP h.blk
theorem Mx.WU(h:Mx β w O T mb m cs sv nv ev vv bv bc ro)(hk:Kp (Sm mb vv) w w')
  (hb:w'.heap[mb]?=some (.cells cs' 89 (0,0))) (hs:cs'.size=23) (e0:cs'[0]?=some sv) (e1:cs'[1]?=some EY) (e2:cs'[2]?=some ev') (e3:cs'[3]?=some Bn) (e4:cs'[4]?=some bv) (e5:cs'[5]?=some (.int .i64 fu)) (e6:∀ i,6≤i→cs'[i]?=cs[i]?)
  (hat:∀ g,Bn.ownBlock=some g→vv.ownBlock=some g∨w.heap.size≤g)
  (hv:∀ O',Kv β O O' w w'→(∀ q,O' q↔(O q∧¬ vv.ownBlock=some q)∨Bn.ownBlock=some q)→sS β w' O' T Bn vs∧qI β w' O' T ev' env) (hn:EY=.int .i64 nx) (hnx:nx≤1073741824) (hfu:fu≤1073741824)
  : ∃ O',Kv β O O' w w'∧(∀ q,O' q↔(O q∧¬ vv.ownBlock=some q)∨Bn.ownBlock=some q)∧Mx β w' O' T mb ⟨⟨m.fr.c,nx,env,vs⟩,m.bk,fu⟩ cs' sv EY ev' Bn bv bc ro:=by
 have hO:∀ q,q<w.heap.size→(O q∧¬ vv.ownBlock=some q)∨Bn.ownBlock=some q→O q:=fun q hq e=>by
  rcases e with e|e
  ·exact e.1
  ·rcases hat q e with g|g
   ·exact h.fr.vs.ow q g
   ·omega
 refine⟨fun q=>(O q∧¬ vv.ownBlock=some q)∨Bn.ownBlock=some q,h.kv hk hO,fun _=>Iff.rfl,?_⟩;have kv:=h.kv (O':=fun q=>(O q∧¬ vv.ownBlock=some q)∨Bn.ownBlock=some q) hk hO;obtain⟨hv1,hv2⟩:=hv _ kv (fun q=>Iff.rfl);have hmv:¬ vv.ownBlock=some mb:=fun e=>by
  obtain⟨c',h1,-⟩:=h.fr.vs.ex;obtain⟨c2,h2⟩:=eX h1 e;exact d_ h2 h.blk (by decide)
 obtain⟨b1,b2⟩:=h.back hk hO (fun q hq hn=>.inl ⟨hq,hn⟩);have hbv:∀ g,bv.ownBlock=some g→¬ vv.ownBlock=some g:=fun g hg e=>by
  obtain⟨c',h1,-⟩:=h.fr.vs.ex;obtain⟨c2,h2⟩:=eX h1 e;obtain⟨c3,h3⟩:=eX h.row hg;exact d_ h2 h3 (by decide)
 refine⟨hb,hs,e0,e1,e2,e3,e4,e5,fun i hi=>?_,?_,⟨h.fr.cd.keep kv,hn,hv2,hv1,h.fr.cl,hnx⟩,b1,b2,.inl ⟨h.mo,hmv⟩,fun g hg=>.inl ⟨h.bo g hg,hbv g hg⟩,fun q hq=>?_,fun j g hj hg e=>?_,h.d2,hfu,h.bl⟩
 ·obtain⟨p,h1,h2⟩:=h.sh i hi
  exact⟨p,by rw[e6 _ (by omega)];exact h1,h2.keep kv (h.aJ1 hk)⟩
 ·obtain⟨k,h1,h2⟩:=h.sn
  exact⟨k,by rw[e6 _ (by omega)];exact h1,h2.1,h2.2.of (fun i hi=>e6 i (by omega))⟩
 ·rcases hq with ⟨hq,hn⟩|hq
  ·obtain⟨c,t,f,h1,h2⟩:=h.on q hq
   by_cases hm:q=mb
   ·subst hm
    exact⟨cs',_,_,hb,.inl rfl⟩
   ·exact⟨c,t,f,hk.heap h1 (fun e=>by rcases e with e|e;exact hm e;exact hn e),h2⟩
  ·obtain⟨c',h1,-⟩:=hv1.ex
   obtain⟨c2,h2⟩:=eX h1 hq;exact⟨c2,_,_,h2,.inr (.inl rfl)⟩
 ·rcases hat g e with g1|g1
  ·exact h.d1 j g hj hg g1
  ·obtain⟨f,hf⟩:∃ f,m.bk[j]?=some f:=⟨m.bk[j],aC hj⟩
   obtain⟨s,n,e',-,-,-,-,h5⟩:=h.WT j f hf;obtain⟨c',h6,-⟩:=h5.vs.ex;obtain⟨c2,h7⟩:=eX h6 hg;have:=aP h7;omega
theorem Mx.turn(h:Mx β w O T mb m cs sv nv ev vv bv bc ro)(hk:Kp (Sm mb vv) w w')
  (hb:w'.heap[mb]?=some (.cells cs' 89 (0,0))) (hs:cs'.size=23) (e0:cs'[0]?=some sv) (e1:cs'[1]?=some EY) (e2:cs'[2]?=some ev') (e3:cs'[3]?=some Bn) (e4:cs'[4]?=some bv) (e5:cs'[5]?=some (.int .i64 fu)) (e6:∀ i,6≤i→cs'[i]?=cs[i]?)
  (hat:∀ g,Bn.ownBlock=some g→vv.ownBlock=some g∨w.heap.size≤g)
  (hv:∀ O',Kv β O O' w w'→(∀ q,O' q↔(O q∧¬ vv.ownBlock=some q)∨Bn.ownBlock=some q)→sS β w' O' T Bn vs∧qI β w' O' T ev' env) (hn:EY=.int .i64 nx) (hnx:nx≤1073741824) (hfu:fu≤1073741824)
  : ∃ O',Kv β O O' w w'∧Mx β w' O' T mb ⟨⟨m.fr.c,nx,env,vs⟩,m.bk,fu⟩ cs' sv EY ev' Bn bv bc ro:=by
 obtain⟨O',k1,-,k2⟩:=h.WU hk hb hs e0 e1 e2 e3 e4 e5 e6 hat hv hn hnx hfu;exact⟨O',k1,k2⟩
end
theorem DW:(prog.info? 40).map (fun i=>(i.zero,i.size,i.bytes))=some (some .nilIface,1,16):=by kernel_rfl
theorem sS.snoc{w w':World}{O O':Nat→Prop}{T:Int × Int→Nat}{v' u:Value}{x:V}(kv:Kv β O O' w w')(hx:mP β w O T u x)(cs:List Value)(hc:w.ownsRow 0 40 1 v l.length cs)(hr:w'.ownsRow 0 40 1 v' (l.length+1) (cs++[u]))(ho:∀ g,v'.ownBlock=some g→O' g)
  (hcs:∀(j:Nat) (x:V),l[j]?=some x→∃ u,cs[j]?=some u∧mP β w O T u x):sS β w' O' T v' (l++[x]):=by
 have hl:cs.length=l.length:=by have:=hc.1;omega
 refine⟨⟨cs++[u],by rw[ak];exact hr,fun j y hy=>?_⟩,ho⟩;by_cases hj:j<l.length
 ·rw[aU hj] at hy
  obtain⟨z,h1,h2⟩:=hcs j y hy;exact⟨z,by rw[aU (by omega)];exact h1,h2.keep kv⟩
 ·rw[aQ (by omega)] at hy
  have h0:j - l.length=0:=by
   rcases gF (j - l.length) with g|g
   ·exact g
   ·rw[aO (by simp;omega)] at hy;cases hy
  rw[h0] at hy;obtain rfl:x=y:=by simpa using hy
  exact⟨u,by rw[aQ (by omega),hl,h0];rfl,hx.keep kv⟩
end
section
variable{b g n cap k:Nat}{e:TypeId}{xs bc:List Value}{u v sv nv ev bv vv:Value}{l:List V}{cs:Array Value}{ro:Nat→Value}
variable{β:Nat}
section
variable{w:World}{O:Nat→Prop}{T:Int × Int→Nat}{mb:Nat}{m:Ms}
theorem mY(u:Value)(x:V)(h:fE β w O T mb m)(hu:mP β w O T u x)(hl:m.fr.vs.length<1073741823) :
  Calls prog 66 #[.pointer (some ⟨mb,0,none⟩),u] w fun e w'=>e=.returned (.tuple #[])∧Hid (∃ O',Kv β O O' w w'∧fE β w' O' T mb { m with fr:={ m.fr with vs:=m.fr.vs++[x] } }):=by
 obtain⟨i0,hi0,hz0,hz1,hz2⟩:=gB DW;obtain⟨cs,sv,nv,ev,vv,bv,bc,ro,h⟩:=h;obtain⟨vc,hrow,pE⟩:=h.fr.vs.ex;have c3:=h.cell h.c3;have f3:=h.vB 3;have hml:=h.lt;have hmv:∀ g,vv.ownBlock=some g→g≠mb:=fun g hg e=>by
  subst e;obtain⟨c2,h2⟩:=eX hrow hg;exact d_ h2 h.blk (by decide)
 have hut:∃ ty y,u=.iface ty y:=by cases hu<;>exact⟨_,_,rfl⟩
 obtain⟨ty,y,rfl⟩:=hut;have H:=au h;have HU:=au hu;have HR:=au hrow;have HV:=au pE;have HG:=au hmv;generalize hn:m.fr.vs.length=n at *;clear h hu hrow pE hmv;go_enter func66,ntmps66;go_wp2_with (at_builtin;refine wpList_append_lies _ rfl _ _ 80 rfl 0 40 i0 _ 1 16 underlying80 hi0 hz0 hz1 hz2 rfl (by decide) vv n _ rfl ((HR.o).alloc _) ⟨w.heap.size,0,none⟩ 1 1 [.iface ty y] rfl rfl (World.news_of_block (cs:=#[.iface ty y]) (aB w _)) (by simp[Value.oneCell']) (by omega) (by unfold maxLen;omega) (by omega) (aX _) (w.heap.size+1) (by simp) ?_;intro g cap5 w5 hown5 cB nW A9;have x1:w5.cell? ⟨mb,3,none⟩=some vv:=(cB.cell_far ⟨mb,3,none⟩ (by simp;omega) (fun e=>(HG.o) mb e.symm rfl)).trans (Lib.cell?_alloc_some _ c3);have x2:w5.frozen? ⟨mb,3,none⟩=false:=(cB.frozen_far ⟨mb,3,none⟩ (by simp;omega) (fun e=>(HG.o) mb e.symm rfl)).trans ((bN _ _ ⟨mb,3,none⟩ (uS hml)).trans f3);have Bp:=au hown5;have tZ:=au cB;clear hown5 cB)
 go_end0;have h:=H.o;have hk1:Kp (Sm mb vv) w w5:=Kp.grown (Kp.alloc (Kp.refl _ w) _) tZ.o (fun k e _=>.inr e);have hk:Kp (Sm mb vv) w (w5.setCell ⟨mb,3,none⟩ (.slice (some ⟨g,0,none⟩) (n+1) cap5)):=Kp.setCell hk1 (p:=⟨mb,3,none⟩) (fun _=>.inl rfl) _;have hgB:g≠mb:=by
  rcases nW with e|e
  ·exact(HG.o) g e
  ·omega
 have h5:w5.heap[mb]?=some (.cells cs 89 (0,0)):=(tZ.o).block mb (by simp;omega) (fun e=>(HG.o) mb e.symm rfl) |>.trans ((dN w _ hml).trans h.blk);have hb:(w5.setCell ⟨mb,3,none⟩ (.slice (some ⟨g,0,none⟩) (n+1) cap5)).heap[mb]?=some (.cells (cs.setIfInBounds 3 (.slice (some ⟨g,0,none⟩) (n+1) cap5)) 89 (0,0)):=by simp[World.setCell,aK,h5]
 have hcsz:=h.sz;refine⟨rfl,?_⟩;obtain⟨O',k1,k2⟩:=h.turn hk (Bn:=.slice (some ⟨g,0,none⟩) (n+1) cap5) (fu:=m.fu) (vs:=m.fr.vs++[x]) (env:=m.fr.env) (nx:=m.fr.nx) hb (by rw[dM];exact hcsz) (by simpa using h.c0) (by simpa using h.c1) (by simpa using h.c2) (b_ (by omega)) (by simpa using h.c4) (by simpa using h.c5) (fun i hi=>by rw[aS (by omega)])
  (fun q hq=>by
   simp only[Value.ownBlock,eH] at hq;subst hq;rcases nW with e|e
   ·exact .inl e
   ·exact .inr (by omega))
  (fun O' kv hO=>by
   refine⟨?_,h.fr.en.keep kv⟩;refine sS.snoc (w:=w) (v:=vv) (u:=.iface ty y) kv HU.o vc (by rw[hn];exact HR.o) ?_ (fun q hq=>(hO q).2 (.inr hq)) HV.o;rw[hn];exact bV Bp.o (by simp[Value.ownBlock];omega) _)
  h.fr.nx h.fr.nl h.fl
 exact⟨O',k1,_,_,_,_,_,_,_,_,k2⟩
theorem DX{w:World}(h:w.ownsRow b e 1 (.slice (some ⟨g,0,none⟩) n cap) n xs){j:Nat}(hj:xs[j]?=some u):w.cell? ⟨g,j,none⟩=some u:=by
 rcases h.2 with ⟨e1,-⟩|⟨g',cap',cur,e1,-,h2,h3,h4,h5,h6⟩
 ·cases e1
 ·injection e1 with e1 e2 e3
  injection e1 with e1;injection e1 with e1;subst e1 e3;rw[← h6,iP] at hj
  split at hj
  ·simpa [World.cell?,h2] using hj
  ·cases hj
theorem UC{w:World}(h:w.ownsRow b e 1 (.slice (some ⟨g,0,none⟩) n cap) n xs)(hk:k≤n):w.ownsRow b e 1 (.slice (some ⟨g,0,none⟩) k cap) k (xs.take k):=by
 have hl:=h.1;rcases h.2 with ⟨e1,-⟩|⟨g',cap',cur,e1,h1,h2,h3,h4,h5,h6⟩
 ·cases e1
 ·injection e1 with e1 e2 e3
  injection e1 with e1;injection e1 with e1;subst e1 e3;refine⟨by rw[bL];omega,.inr ⟨g,cap,cur,rfl,h1,h2,by omega,h4,h5,?_⟩⟩;rw[← h6,List.take_take,show min k (n*1)=k*1 by omega]
theorem PL{w:World}(h:w.ownsRow b e 1 v n xs)(hn:0<n):∃ g cap,v=.slice (some ⟨g,0,none⟩) n cap∧n≤cap∧cap≤maxLen:=by
 rcases h.2 with ⟨-,e1⟩|⟨g',cap',cur,e1,-,h2,h3,h4,h5,h6⟩
 ·omega
 ·exact⟨g',cap',e1,h3,h4⟩
theorem sS.cut{w w':World}{O O':Nat→Prop}{T:Int × Int→Nat}(kv:Kv β O O' w w')(cs:List Value)(hr:w'.ownsRow 0 40 1 (.slice (some ⟨g,0,none⟩) n cap) n cs)(hk:k≤n)(hcs:∀(j:Nat) (x:V),l[j]?=some x→∃ u,cs[j]?=some u∧mP β w O T u x)(hl:k≤l.length)(ho:O' g):sS β w' O' T (.slice (some ⟨g,0,none⟩) k cap) (l.take k):=by
 refine⟨⟨cs.take k,?_,fun j x hx=>?_⟩,fun q hq=>by cases hq;exact ho⟩
 ·rw[bL,Nat.min_eq_left hl];exact UC hr hk
 ·rw[iP] at hx
  split at hx
  ·next h1 =>
   obtain⟨u,h2,h3⟩:=hcs j x hx;exact⟨u,by rw[iP,aL h1];exact h2,h3.keep kv⟩
  ·cases hx
theorem Mx.Ya{vc:List Value}(h:Mx β w O T mb m cs sv nv ev (.slice (some ⟨g,0,none⟩) n cap) bv bc ro)(hrow:w.ownsRow 0 40 1 (.slice (some ⟨g,0,none⟩) n cap) n vc)(pE:∀(j:Nat) (x:V),m.fr.vs[j]?=some x→∃ u,vc[j]?=some u∧mP β w O T u x)(hk:k≤n)(hl:m.fr.vs.length=n) :
  ∃ O',Kv β O O' w (w.setCell ⟨mb,3,none⟩ (.slice (some ⟨g,0,none⟩) k cap))∧fE β (w.setCell ⟨mb,3,none⟩ (.slice (some ⟨g,0,none⟩) k cap)) O' T mb { m with fr:={ m.fr with vs:=m.fr.vs.take k } }:=by
 have hcsz:=h.sz;have hkp:Kp (Sm mb (.slice (some ⟨g,0,none⟩) n cap)) w (w.setCell ⟨mb,3,none⟩ (.slice (some ⟨g,0,none⟩) k cap)):=Kp.setCell (Kp.refl _ w) (p:=⟨mb,3,none⟩) (fun _=>.inl rfl) _;have hmv:g≠mb:=fun e=>by
  subst e;obtain⟨c2,h2⟩:=eX hrow (g:=g) rfl;exact d_ h2 h.blk (by decide)
 have hb:(w.setCell ⟨mb,3,none⟩ (.slice (some ⟨g,0,none⟩) k cap)).heap[mb]?=some (.cells (cs.setIfInBounds 3 (.slice (some ⟨g,0,none⟩) k cap)) 89 (0,0)):=by simp[World.setCell,aK,h.blk]
 obtain⟨O',k1,k2⟩:=h.turn hkp (Bn:=.slice (some ⟨g,0,none⟩) k cap) (fu:=m.fu) (vs:=m.fr.vs.take k) (env:=m.fr.env) (nx:=m.fr.nx) hb (by rw[dM];exact hcsz) (by simpa using h.c0) (by simpa using h.c1) (by simpa using h.c2) (b_ (by omega)) (by simpa using h.c4) (by simpa using h.c5) (fun i hi=>by rw[aS (by omega)])
  (fun q hq=>.inl hq)
  (fun O' kv hO=>⟨sS.cut kv vc (bV hrow (by simp[Value.ownBlock];omega) _) hk pE (by omega) ((hO g).2 (.inr rfl)),h.fr.en.keep kv⟩)
  h.fr.nx h.fr.nl h.fl
 exact⟨O',k1,_,_,_,_,_,_,_,_,k2⟩
theorem qJ(l:List V)(x:V)(h:fE β w O T mb m)(hv:m.fr.vs=l++[x])(hl:l.length<1073741823) :
  Calls prog 20 #[.pointer (some ⟨mb,0,none⟩)] w fun e w'=>∃ u,e=.returned u∧Hid (∃ O',Kv β O O' w w'∧fE β w' O' T mb { m with fr:={ m.fr with vs:=l } }∧mP β w' O' T u x):=by
 obtain⟨cs,sv,nv,ev,vv,bv,bc,ro,h⟩:=h;obtain⟨vc,hrow,pE⟩:=h.fr.vs.ex;rw[hv,ak] at hrow;obtain⟨g,cap,rfl,hc1,hc2⟩:=PL hrow (by simp);have hml:=h.lt;have hmv:g≠mb:=fun e=>by
  subst e;obtain⟨c2,h2⟩:=eX hrow (g:=g) rfl;exact d_ h2 h.blk (by decide)
 obtain⟨u,hu,hux⟩:=pE l.length x (by rw[hv];simp);have c3:=h.cell h.c3;have f3:=h.vB 3;have hcu:=DX hrow hu;have hgl:=bG w _ hcu;generalize hk:l.length=k at *;have hk0:(0:Int)≤(k:Int):=bU _;have hk1:(k:Int)<((k+1:Nat):Int):=by omega
 have H:=au h;have HR:=au hrow;have HV:=au pE;have HUX:=au hux;change k+1≤cap at hc1;unfold maxLen at hc2;clear h hrow pE hux hu;go_enter func20,ntmps20;go_wp2_with fail
 go_ret;refine⟨u,rfl,?_⟩;obtain⟨O',k1,k2⟩:=(H.o).Ya (k:=k) HR.o HV.o (Nat.le_add_right _ _) (by rw[hv,ak,hk]);rw[hv,← hk,List.take_left] at k2;rw[← hk] at k1;exact⟨O',by rw[← hk];exact k1,by rw[← hk];exact k2,by rw[← hk];exact(HUX.o).keep k1⟩
theorem sS.set{i:Nat}{O':Nat→Prop}(h:sS β w O T v l)(hne:v.ownBlock≠some mb)(kv:Kv β O O' w (w.setCell ⟨mb,i,none⟩ u))(ho:∀ g,v.ownBlock=some g→O' g):sS β (w.setCell ⟨mb,i,none⟩ u) O' T v l:=by
 obtain⟨c,h1,h2⟩:=h.ex;exact⟨⟨c,bV h1 hne _,fun j x hx=>by obtain⟨u,h3,h4⟩:=h2 j x hx;exact⟨u,h3,h4.keep kv⟩⟩,ho⟩
theorem Mx.vne(h:Mx β w O T mb m cs sv nv ev vv bv bc ro):vv.ownBlock≠some mb:=fun e=>by
 obtain⟨c',h1,-⟩:=h.fr.vs.ex;obtain⟨c2,h2⟩:=eX h1 e;exact d_ h2 h.blk (by decide)
theorem Mx.UD(h:Mx β w O T mb m cs sv nv ev vv bv bc ro)(f:Nat)(hf:f≤1073741824) :
  ∃ O',Kv β O O' w (w.setCell ⟨mb,5,none⟩ (.int .i64 f))∧fE β (w.setCell ⟨mb,5,none⟩ (.int .i64 f)) O' T mb { m with fu:=f }:=by
 have hcsz:=h.sz;obtain⟨O',k1,k2⟩:=h.turn (w':=w.setCell ⟨mb,5,none⟩ (.int .i64 f)) (Kp.setCell (Kp.refl _ w) (p:=⟨mb,5,none⟩) (fun _=>.inl rfl) _) (Bn:=vv) (fu:=f) (vs:=m.fr.vs) (env:=m.fr.env) (nx:=m.fr.nx) (cs':=cs.setIfInBounds 5 (.int .i64 f)) (by simp[World.setCell,aK,h.blk]) (by rw[dM];exact hcsz) (by simpa using h.c0) (by simpa using h.c1) (by simpa using h.c2) (by simpa using h.c3) (by simpa using h.c4) (b_ (by omega)) (fun i hi=>by rw[aS (by omega)])
  (fun q hq=>.inl hq) (fun O' kv hO=>⟨h.fr.vs.set h.vne kv (fun g hg=>(hO g).2 (.inr hg)),h.fr.en.keep kv⟩) h.fr.nx h.fr.nl hf
 exact⟨O',k1,_,_,_,_,_,_,_,_,k2⟩
theorem Mx.DY(h:Mx β w O T mb m cs sv nv ev vv bv bc ro)(f:Nat)(hf:f≤1073741824) :
  ∃ O',Kv β O O' w (w.setCell ⟨mb,1,none⟩ (.int .i64 f))∧fE β (w.setCell ⟨mb,1,none⟩ (.int .i64 f)) O' T mb { m with fr:={ m.fr with nx:=f } }:=by
 have hcsz:=h.sz;obtain⟨O',k1,k2⟩:=h.turn (w':=w.setCell ⟨mb,1,none⟩ (.int .i64 f)) (Kp.setCell (Kp.refl _ w) (p:=⟨mb,1,none⟩) (fun _=>.inl rfl) _) (Bn:=vv) (fu:=m.fu) (vs:=m.fr.vs) (env:=m.fr.env) (nx:=f) (cs':=cs.setIfInBounds 1 (.int .i64 f)) (by simp[World.setCell,aK,h.blk]) (by rw[dM];exact hcsz) (by simpa using h.c0) (b_ (by omega)) (by simpa using h.c2) (by simpa using h.c3) (by simpa using h.c4) (by simpa using h.c5) (fun i hi=>by rw[aS (by omega)])
  (fun q hq=>.inl hq) (fun O' kv hO=>⟨h.fr.vs.set h.vne kv (fun g hg=>(hO g).2 (.inr hg)),h.fr.en.keep kv⟩) rfl hf h.fl
 exact⟨O',k1,_,_,_,_,_,_,_,_,k2⟩
theorem Mx.PN(h:Mx β w O T mb m cs sv nv ev vv bv bc ro)(a:Value)(env:List (List V))(he:qI β w O T a env) :
  ∃ O',Kv β O O' w (w.setCell ⟨mb,2,none⟩ a)∧fE β (w.setCell ⟨mb,2,none⟩ a) O' T mb { m with fr:={ m.fr with env:=env } }:=by
 have hcsz:=h.sz;obtain⟨O',k1,k2⟩:=h.turn (w':=w.setCell ⟨mb,2,none⟩ a) (Kp.setCell (Kp.refl _ w) (p:=⟨mb,2,none⟩) (fun _=>.inl rfl) _) (Bn:=vv) (fu:=m.fu) (vs:=m.fr.vs) (env:=env) (nx:=m.fr.nx) (cs':=cs.setIfInBounds 2 a) (by simp[World.setCell,aK,h.blk]) (by rw[dM];exact hcsz) (by simpa using h.c0) (by simpa using h.c1) (b_ (by omega)) (by simpa using h.c3) (by simpa using h.c4) (by simpa using h.c5) (fun i hi=>by rw[aS (by omega)])
  (fun q hq=>.inl hq) (fun O' kv hO=>⟨h.fr.vs.set h.vne kv (fun g hg=>(hO g).2 (.inr hg)),he.keep kv⟩) h.fr.nx h.fr.nl h.fl
 exact⟨O',k1,_,_,_,_,_,_,_,_,k2⟩
theorem Ci(h:fE β w O T mb m) :
  Calls prog 222 #[.pointer (some ⟨mb,0,none⟩)] w fun e w'=>(m.fu=0∧e=.returned (.int .i64 11)∧w'=w)∨(m.fu≠0∧e=.returned (.int .i64 0)∧Hid (∃ O',Kv β O O' w w'∧fE β w' O' T mb { m with fu:=m.fu - 1 })):=by
 obtain⟨cs,sv,nv,ev,vv,bv,bc,ro,h⟩:=h;have c5:=h.cell h.c5;have f5:=h.vB 5;have hfl:=h.fl;have hml:=h.lt;have H:=au h;clear h;by_cases h0:m.fu=0
 ·have q1:((m.fu:Int)==0)=true:=by simp[h0]
  go_enter func222,ntmps222;go_wp2_with fail
  go_ret;exact .inl ⟨h0,rfl,rfl⟩
 ·have q1:((m.fu:Int)==0)=false:=by simp;omega
  obtain⟨f,hf⟩:∃ f,m.fu=f+1:=⟨m.fu - 1,by omega⟩;rw[hf] at c5 q1 hfl;have HF:=au hf;clear hf h0;go_enter func222,ntmps222;go_wp2_with fail
  go_ret;obtain⟨O',k1,k2⟩:=(H.o).UD f (by omega);have e1:m.fu - 1=f:=by rw[HF.o];rfl
  exact .inr ⟨by rw[HF.o];omega,rfl,O',k1,by rw[e1];exact k2⟩
end
end
end Go.Proofs.YtdkpkpgpphkljaaGreatDoor
