import Derived.Test.YtoohcklcppnafaaGreatDoorBs
import Derived.Test.YtoohcklcppnafaaGreatDoorBw
import Derived.Test.YtoohcklcppnafaaGreatDoorZn
namespace Go.Proofs.YtoohcklcppnafaaGreatDoor
open Go.RowKit
open M
open X
section
variable{w:aG}{v:Value}{B a b:Nat}{d:DI}{it:It}{T:Nat→Prop}
theorem Vm{g j:Nat}(h:w.cell? (aC g j)=some v):g<w.heap.size:=by
 rcases cu g w.heap.size with h1|h1
 ·exact h1
 ·simp[World.cell?,ni h1] at h
theorem nu.shrink{lo hi:Nat}{q:X.Q}(h:nu w lo hi v q):nu w lo (min hi w.heap.size) v q:=by
 induction h with
 | mk lo hi N k t x qs kM en fr tt la ao cap vs L H hN hb hc hr hs hp ih =>
  have hNs:=bN hb;refine .mk lo _ N k t x qs kM en fr tt la ao cap vs L (fun i=>min (H i) w.heap.size) ⟨hN.1,au⟩ hb hc (fun i hi=>?_) (fun i hi=>?_) (fun i q hq=>ih i q hq)
  ·obtain⟨g,h1,h2,h3,h4,h5,h6⟩:=hr i hi
   have:=Vm h6;exact⟨g,h1,h2,au,h4,fun j hj hh=>h5 j hj ⟨hh.1,au⟩,h6⟩
  ·obtain⟨h1,h2,h3,h4,h5⟩:=hs i hi
   obtain⟨q,hq⟩:∃ q,qs[i]?=some q:=⟨qs[i],aF hi⟩;have:=(ih i q hq).lt;exact⟨h1,au,au,fun hh=>h4 ⟨hh.1,au⟩,fun j hj hl=>by have:=h5 j hj hl;omega⟩
def bH2(T:Nat→Prop)(w:aG)(a b:Nat)(v:Value)(ns:List Nm):Prop:=∃ ao cap,v=.slice ao ns.length cap∧ns.length≤cap∧cap≤maxLen∧∀(j:Nat) (n:Nm),ns[j]?=some n→∃ g u,ao=some ⟨g,0,none⟩∧T g∧w.cell? (aC g j)=some u∧qx w a b u n
def XF(T:Nat→Prop)(w:aG)(a b:Nat)(d:DI):It→Prop
 | .use p m n gs al=>d.use=true∧d.pub=p∧qx w a b (.pointer d.name) (if gs then al else n)∧qx w a b (.pointer d.mod) m∧qx w a b (.pointer d.item) n∧d.gs=gs∧qx w a b (.pointer d.al) al
 | .dfn p n ps e=>d.use=false∧d.pub=p∧qx w a b (.pointer d.name) n∧d.mod=none∧d.item=none∧d.al=none∧bH2 T w a b (.slice d.pa d.pn d.pc) (ps.getD [])∧∃ q i,lS w a b (.pointer d.body) q i∧Rd q i e∧Cx q∧su q∧i+pz [q]≤1000000∧jh q≤268435456
theorem Jy.t(h:Jy B w a b d it)(hT:∀ q,B≤q→q<w.heap.size→T q):XF T w a b d it:=by
 cases it with
 | use p m n gs al=>exact h
 | dfn p n ps e =>
  obtain⟨h1,h2,h3,h4,h5,h6,⟨ao,cap,g1,g2,g3,g4⟩,h8⟩:=h;refine⟨h1,h2,h3,h4,h5,h6,⟨ao,cap,g1,g2,g3,fun j n hj=>?_⟩,h8⟩;obtain⟨g,cs,d,u,e1,e2,e3,e4,e5⟩:=g4 j n hj;exact⟨g,u,e1,hT g e2 (bN e3),e4,e5⟩
theorem XF.keep{T:Nat→Prop}{S:Nat→Prop}{w w':aG}{a b:Nat}{d:DI}{it:It}(h:XF T w a b d it)(hk:Kp S w w')(hS:∀ q,a≤q→q<b→¬ S q)(hT:∀ q,T q→¬ S q):XF T w' a b d it:=by
 cases it with
 | use p m n gs al =>
  obtain⟨h1,h2,h3,h4,h5,h6,h7⟩:=h;exact⟨h1,h2,h3.keep hk hS,h4.keep hk hS,h5.keep hk hS,h6,h7.keep hk hS⟩
 | dfn p n ps e =>
  obtain⟨h1,h2,h3,h4,h5,h6,⟨ao,cap,g1,g2,g3,g4⟩,q,i,h8,h9⟩:=h;refine⟨h1,h2,h3.keep hk hS,h4,h5,h6,⟨ao,cap,g1,g2,g3,fun j n hj=>?_⟩,q,i,h8.keep hk hS,h9⟩;obtain⟨g,u,e1,e2,e4,e5⟩:=g4 j n hj;exact⟨g,u,e1,e2,hk.dD e4 (hT g e2),e5.keep hk hS⟩
theorem XF.mono{T':Nat→Prop}(h:XF T w a b d it)(hT:∀ q,T q→T' q):XF T' w a b d it:=by
 cases it with
 | use p m n gs al=>exact h
 | dfn p n ps e =>
  obtain⟨h1,h2,h3,h4,h5,h6,⟨ao,cap,g1,g2,g3,g4⟩,h8⟩:=h;refine⟨h1,h2,h3,h4,h5,h6,⟨ao,cap,g1,g2,g3,fun j n hj=>?_⟩,h8⟩;obtain⟨g,u,e1,e2,e4,e5⟩:=g4 j n hj;exact⟨g,u,e1,hT g e2,e4,e5⟩
def sV(T:Nat→Prop)(A:Nat)(w:aG)(sv:Value)(its:List It):Prop:=∃ lo mi ao cap,A≤lo∧mi≤w.heap.size∧(∀ q,lo≤q→q<mi→T q)∧sv=.slice ao its.length cap∧its.length≤cap∧cap≤maxLen∧∀(k:Nat) (it:It),its[k]?=some it→∃ g d,ao=some ⟨g,0,none⟩∧T g∧(∀(j:Nat) (u:Value),d.vals[j]?=some u→w.cell? (aC g (k*11+j))=some u)∧XF T w lo mi d it
theorem sV.keep{T S:Nat→Prop}{A:Nat}{w w':aG}{sv:Value}{its:List It}(h:sV T A w sv its)(hk:Kp S w w')(hT:∀ q,T q→¬ S q):sV T A w' sv its:=by
 obtain⟨lo,mi,ao,cap,h1,h2,h3,h4,h5,h6,h7⟩:=h;refine⟨lo,mi,ao,cap,h1,dI h2 hk.size,h3,h4,h5,h6,fun k it hi=>?_⟩;obtain⟨g,d,e1,e2,e3,e4⟩:=h7 k it hi;exact⟨g,d,e1,e2,fun j u hj=>hk.dD (e3 j u hj) (hT g e2),e4.keep hk (fun q a b=>hT q (h3 q a b)) hT⟩
theorem sV.mono{T T':Nat→Prop}{A:Nat}{w:aG}{sv:Value}{its:List It}(h:sV T A w sv its)(hT:∀ q,T q→T' q):sV T' A w sv its:=by
 obtain⟨lo,mi,ao,cap,h1,h2,h3,h4,h5,h6,h7⟩:=h;refine⟨lo,mi,ao,cap,h1,h2,fun q a b=>hT q (h3 q a b),h4,h5,h6,fun k it hi=>?_⟩;obtain⟨g,d,e1,e2,e3,e4⟩:=h7 k it hi;exact⟨g,d,e1,hT g e2,e3,e4.mono hT⟩
theorem qx.wide{a' b':Nat}{n:Nm}(h:qx w a b v n)(ha:a'≤a)(hb:b≤b'):qx w a' b' v n:=by
 rcases h with h|⟨h0,N,t,rv,kM,en,tt,la,h1,h2,h3,h4,h5⟩
 ·exact .inl h
 ·exact .inr ⟨h0,N,t,rv,kM,en,tt,la,h1,au,au,h4,h5⟩
theorem sV.di{K:DK}{sv:Value}{its:List It}(h:sV T K.a w sv its)(hb:K.b=w.heap.size)(hT:∀ q,T q→K.wb<q∧q<w.heap.size):Nk K w.heap.size w sv its:=by
 obtain⟨lo,mi,ao,cap,h1,h2,h3,h4,h5,h6,h7⟩:=h;have hsf:∀ g,T g→Sf K w.heap.size w g:=fun g hg=>⟨(hT g hg).2,fun hs=>by
  have:=hT g hg;rcases hs with hs|⟨hs,-⟩<;>omega⟩
 refine⟨ao,cap,h4,h5,h6,fun k it hi=>?_⟩;obtain⟨g,d,e1,e2,e3,e4⟩:=h7 k it hi;refine⟨g,d,e1,hsf g e2,e3,?_⟩;cases it with
 | use p m n gs al =>
  obtain⟨g1,g2,g3,g4,g5,g6,g7⟩:=e4;exact⟨g1,g2,g3.wide h1 au,g4.wide h1 au,g5.wide h1 au,g6,g7.wide h1 au⟩
 | dfn p n ps e =>
  obtain⟨g1,g2,g3,g4,g5,g6,⟨pV,cap',r1,r2,r3,r4⟩,q,i,g8,g9⟩:=e4;refine⟨g1,g2,g3.wide h1 au,g4,g5,g6,⟨pV,cap',r1,r2,r3,fun j m hj=>?_⟩,q,i,nu.wide g8 h1 au,g9⟩;obtain⟨gg,u,s1,s2,s3,s4⟩:=r4 j m hj;exact⟨gg,u,s1,hsf gg s2,s3,s4.wide h1 au⟩
structure Y8(w:aG)(rv:Value)(l:List AF)(i:Nat)(wr:aG):Prop where
 bl:Below w.heap.size w wr
 ex:∃(T:Nat→Prop) (rts yw:Value) (rl sl:List Value),wr.heap[w.heap.size]?=some (.cells #[rv,rts,yw,.slice none 0 0] 39 (0,0))∧wr.ownsRow w.heap.size 51 1 rts i rl∧wr.ownsRow w.heap.size 53 1 yw i sl∧(∀ q,T q→w.heap.size<q∧q<wr.heap.size∧rts.ownBlock≠some q∧yw.ownBlock≠some q)∧∀(j:Nat) (a:AF),j<i→l[j]?=some a→∃ sv,sl[j]?=some sv∧sV T (w.heap.size+1) wr sv (fA (bs a.t))
theorem Y8.dst{rv:Value}{l:List AF}{wr:aG}(h:Y8 w rv l l.length wr)(hF:Eh w B rv l)(hn:l.length≤16)(hsh:Short l)(hnm:∀ a∈l,pR a.n=true):∃ K:DK,K.wb=w.heap.size∧Dr wr K l [] wr:=by
 obtain⟨T,rts,yw,rl,sl,h1,h2,h3,h4,h5⟩:=h.ex;obtain⟨fo,fc,e1,e2,e3,e4⟩:=hF.form;obtain⟨io,ic,g1,g2,g3,-,g4⟩:=qQ h3;have hws:=bN h1;have hsz:=h.bl.size;refine⟨⟨w.heap.size,w.heap.size+1,wr.heap.size,rv,rts,yw⟩,rfl,⟨hn,hsh,hnm,hws,Nat.lt_succ_self _,ax _,⟨fo,fc,e1,e2,e3,fun i a hi=>?_⟩,⟨io,ic,g1,g2,g3,fun i a hi=>?_⟩⟩,Dx.refl _ _ _,⟨_,h1,dK _ _ _ _⟩,bJ _⟩
 ·obtain⟨g,cs,d,s1,s2,s3,s4,s5⟩:=e4 i a hi
  have hg:=bN s3;refine⟨g,s1,⟨au,fun hs=>?_⟩,iY h.bl hg s4⟩;rcases hs with hs|⟨hs,-⟩
  ·have:g=w.heap.size:=hs
   omega
  ·omega
 ·obtain⟨sv,hsv,hft⟩:=h5 i a (lt_of_some hi) hi
  obtain⟨g,cs,d,s1,s2,s3,s4⟩:=g4 i sv hsv;have hg:=bN s3;refine⟨g,sv,s1,⟨hg,fun hs=>?_⟩,s4,hft.di rfl (fun q hq=>⟨(h4 q hq).1,(h4 q hq).2.1⟩)⟩;rcases hs with hs|⟨hs,-⟩
  ·have:g=w.heap.size:=hs
   subst this;rw[h1] at s3;have:=bQ s3;injection this with _ h2 _;exact absurd h2 aS
  ·omega
end
section
open Tryz
variable{p:Part}{ps:List Part}{i lo mi k:Nat}{its:List It}{w2 wr w:aG}{lv rv:Value}{l:List AF}
theorem Y9:(prog.info? 57).map (fun i=>(i.zero,i.size,i.bytes))=some (some (.agg #[.bool false,.bool false,.pointer none,.pointer none,.pointer none,.pointer none,.bool false,.pointer none,.bool false,.slice none 0 0,.pointer none]),11,96):=bC
theorem Vn:(prog.info? 53).map (fun i=>(i.zero,i.size,i.bytes))=some (some (.slice none 0 0),1,24):=bC
def JA:List DI→List Value
 | []=>[]
 | d::l=>d.vals++JA l
theorem L9:∀(a b:List DI),JA (a++b)=JA a++JA b
 | [],b=>rfl
 | x::a,b=>by rw[fM,JA,JA,L9 a b,aK]
theorem CP(d:DI):d.vals.length=11:=rfl
theorem L_:∀(l:List DI) (i:Nat) (d:DI),l[i]?=some d→∀ j u,d.vals[j]?=some u→(JA l)[i*11+j]?=some u
 | [],i,d,h=>by simp at h
 | x::l,0,d,h=>fun j u hj=>by
  obtain rfl:x=d:=by simpa using h
  rw[JA,Nat.zero_mul,bS,bT (lt_of_some hj)];exact hj
 | x::l,i+1,d,h=>fun j u hj=>by
  rw[JA,bL (by rw[CP];omega),CP];have e:(i+1)*11+j - 11=i*11+j:=au
  rw[e];exact L_ l i d (by simpa using h) j u hj
theorem CQ(h:uG (p::ps) i its):(pk p≠3∧pk p≠4∧uG ps (i+pz [p]) its)∨∃ it Ka,its=it::Ka∧X.BV p i it∧uG ps (i+pz [p]) Ka:=by
 cases h with
 | leaves _ _ h =>
  obtain⟨k,x,rfl,-⟩:=pE (h p aT);exact .inl ⟨by show 0≠3;omega,by show 0≠4;omega,.leaves ps _ (fun q hq=>h q (eX _ hq))⟩
 | junk qs _ _ _ hq h=>exact .inl ⟨by show 5≠3;omega,by show 5≠4;omega,h⟩
 | item _ _ _ it Ka hp h=>exact .inr ⟨it,Ka,rfl,hp,h⟩
theorem QI(h:uG [] i its):its=[]:=by
 cases h with
 | leaves _ _ h=>rfl
theorem Y_{it:It}(h:X.BV p i it):pk p=3∨pk p=4:=by
 cases h with
 | use=>exact .inl rfl
 | dfn=>exact .inr rfl
structure Gj(w2:aG)(lo mi:Nat)(ps:List Part)(its:List It)(k:Nat)(lv:Value)(wr:aG):Prop where
 bl:Below w2.heap.size w2 wr
 ex:∃ done rest dl,its=done++rest∧uG (ps.drop k) (pz (ps.take k)) rest∧wr.ownsRow w2.heap.size 57 11 lv done.length (JA dl)∧dl.length=done.length∧done.length≤k∧∀(j:Nat) (d:DI) (it:It),dl[j]?=some d→done[j]?=some it→Jy w2.heap.size wr lo mi d it
theorem Gj.start(h:uG ps 0 its):Gj w2 lo mi ps its 0 (.slice none 0 0) w2:=⟨aB _ _,[],its,[],rfl,h,dK _ _ _ _,rfl,ax _,fun j d it h=>by simp at h⟩
theorem Gj.skip(h:Gj w2 lo mi ps its k lv wr)(hp:ps[k]?=some p)(h3:pk p≠3)(h4:pk p≠4):Gj w2 lo mi ps its (k+1) lv wr:=by
 obtain⟨done,rest,dl,e1,e2,e3,e4,e5,e6⟩:=h.ex;rw[drop_cons hp] at e2;have e7:=zb hp 0;rw[bS,bS] at e7;rcases CQ e2 with ⟨-,-,g⟩|⟨it,Ka,-,g,-⟩
 ·rw[e7] at g
  exact⟨h.bl,done,rest,dl,e1,g,e3,e4,au,e6⟩
 ·rcases Y_ g with g|g
  ·exact absurd g h3
  ·exact absurd g h4
theorem Gj.next(h:Gj w2 lo mi ps its k lv wr)(hp:ps[k]?=some p)(hk:pk p=3∨pk p=4):∃ it n dl,X.BV p (pz (ps.take k)) it∧n≤k∧wr.ownsRow w2.heap.size 57 11 lv n (JA dl) ∧
  ∀(w4 w5:aG) (d:DI) (g cap:Nat),Below wr.heap.size wr w4→Jy w2.heap.size w4 lo mi d it→w5.ownsRow w2.heap.size 57 11 (.slice (b_ g) (n+1) cap) (n+1) (JA dl++d.vals)→w4.grownBy w5 lv.ownBlock→mi≤w2.heap.size→Gj w2 lo mi ps its (k+1) (.slice (b_ g) (n+1) cap) w5:=by
 obtain⟨done,rest,dl,e1,e2,e3,e4,e5,e6⟩:=h.ex;rw[drop_cons hp] at e2;have e7:=zb hp 0;rw[bS,bS] at e7;rcases CQ e2 with ⟨g3,g4,-⟩|⟨it,Ka,rfl,g,g2⟩
 ·rcases hk with hk|hk
  ·exact absurd hk g3
  ·exact absurd hk g4
 ·rw[e7] at g2
  refine⟨it,done.length,dl,g,e5,e3,fun w4 w5 d gg cap b4 hd hown hgrow hmi=>?_⟩;have hge:=dG e3;have hbs:=h.bl.size;have k45:=(Kp.refl _ w4).grown hgrow (fun q e _=>e);have keep:∀ {d':DI} {it':It},Jy w2.heap.size w4 lo mi d' it'→Jy w2.heap.size w5 lo mi d' it':=fun h'=>h'.keep k45 (fun q h1 h2 h3=>by have:=(hge q h3).1;omega) (fun q cs dd h1 h2 h3=>by
   obtain⟨cs',d',h4⟩:=eH e3 h3;have h5:=(Kp.aN b4 (fun _=>False)).heap h4 id;exact fO h5 h2 aS)
  refine⟨?_,done++[it],Ka,dl++[d],by rw[e1,aK];rfl,g2,?_,by rw[ay,ay,e4];rfl,by rw[ay];simpa using e5,fun j d' it' hj hi=>?_⟩
  ·have b5:=h.bl.trans (b4.mono hbs)
   exact b5.trans (k45.below b5.size (fun q hq=>(hge q hq).1))
  ·rw[ay,L9]
   show w5.ownsRow _ _ _ _ (done.length+1) (JA dl++(d.vals++[]));rw[aL];exact hown
  ·rcases cu j done.length with g'|g'
   ·rw[bT au] at hj
    rw[bT g'] at hi;exact keep ((e6 j d' it' hj hi).keep (Kp.aN b4 (fun _=>False)) (fun _ _ _=>id) (fun _ _ _ _ _=>id))
   ·have hl:=lt_of_some hi
    rw[ay,bF] at hl;obtain rfl:j=done.length:=au
    rw[bL (ax _),iZ] at hi;rw[bL au,e4,iZ] at hj;obtain rfl:it=it':=by simpa using hi
    obtain rfl:d=d':=by simpa using hj
    exact keep hd
theorem Gj.file{A:Nat}{T:Nat→Prop}(h:Gj w2 lo mi ps its ps.length lv wr)(hA:A≤lo)(hmi:mi≤w2.heap.size)(hT1:∀ q,lo≤q→q<mi→T q)(zm:∀ q,w2.heap.size≤q→q<wr.heap.size→T q):sV T A wr lv its:=by
 obtain⟨done,rest,dl,e1,e2,e3,e4,e5,e6⟩:=h.ex;rw[List.drop_length] at e2;obtain rfl:=QI e2;rw[aL] at e1;subst e1;have hbs:=h.bl.size;rcases e3.2 with ⟨e,h0⟩|⟨g,cap,cur,e,hge,hg,hn,hmx,hsz,htk⟩
 ·refine⟨lo,mi,none,0,hA,au,hT1,by rw[h0];exact e,au,by unfold maxLen;omega,fun k it hk=>by have:=lt_of_some hk;omega⟩
 ·refine⟨lo,mi,_,cap,hA,au,hT1,e,hn,hmx,fun k it hk=>?_⟩
  have hkl:=lt_of_some hk;obtain⟨d,hd⟩:∃ d,dl[k]?=some d:=⟨dl[k],aF au⟩;refine⟨g,d,rfl,zm g hge (bN hg),fun j u hj=>?_,(e6 k d it hd hk).t zm⟩;have:=e3.cells (g:=g) (by rw[e];rfl) (k*11+j) u (L_ dl k d hd j u hj)
  rwa[dQ,bS] at this
structure Za(w:aG)(rv:Value)(l:List AF)(i:Nat)(lo mi:Nat)(w2:aG):Prop where
 bl:Below w.heap.size w w2
 Vo:w.heap.size+1≤lo∧mi≤w2.heap.size
 ex:∃(T:Nat→Prop) (rts yw:Value) (rl sl:List Value),w2.heap[w.heap.size]?=some (.cells #[rv,rts,yw,.slice none 0 0] 39 (0,0))∧w2.ownsRow w.heap.size 51 1 rts (i+1) rl∧w2.ownsRow w.heap.size 53 1 yw i sl∧(∀ q,T q→w.heap.size<q∧q<w2.heap.size∧rts.ownBlock≠some q∧yw.ownBlock≠some q)∧(∀ q,lo≤q→q<mi→T q)∧∀(j:Nat) (a:AF),j<i→l[j]?=some a→∃ sv,sl[j]?=some sv∧sV T (w.heap.size+1) w2 sv (fA (bs a.t))
theorem Y8.root(h:Y8 w rv l i wr):∃ rts yw rl,wr.heap[w.heap.size]?=some (.cells #[rv,rts,yw,.slice none 0 0] 39 (0,0))∧wr.ownsRow w.heap.size 51 1 rts i rl ∧
  ∀(w1 w3 w5:aG) (lo mi:Nat) (v:Value) (g cap:Nat),Below wr.heap.size wr w1→wr.heap.size≤lo→mi≤w1.heap.size→Below w1.heap.size w1 w3→w3.heap.size=w1.heap.size+1→w5.ownsRow w.heap.size 51 1 (.slice (b_ g) (i+1) cap) (i+1) (rl++[v])→w3.grownBy w5 rts.ownBlock→(rts.ownBlock=some g∨g=w3.heap.size) →
   Za w rv l i lo mi (w5.setCell (aC w.heap.size 1) (.slice (b_ g) (i+1) cap))∧Kp (fun q=>rts.ownBlock=some q∨q=w.heap.size) w1 (w5.setCell (aC w.heap.size 1) (.slice (b_ g) (i+1) cap))∧∀ q,(rts.ownBlock=some q∨q=w.heap.size)→q<wr.heap.size:=by
 obtain⟨T,rts,yw,rl,sl,h1,h2,h3,h4,h5⟩:=h.ex;refine⟨rts,yw,rl,h1,h2,fun w1 w3 w5 lo mi v g cap b1 hlo hmi b3 hs3 hown hgrow hat=>?_⟩;have hge:=dG h2;have hgi:=dG h3;have hbs:=h.bl.size;have hb1:=b1.size;have hws:=bN h1;have Cy:=(Kp.refl _ w3).grown hgrow (fun q e _=>e);have ze:Kp (fun q=>q=w.heap.size) w5 (w5.setCell (aC w.heap.size 1) (.slice (b_ g) (i+1) cap)):=Kp.setCell (S:=fun q=>q=w.heap.size) (p:=⟨w.heap.size,1,none⟩) (Kp.refl _ w5) (fun _=>rfl) _;have k16:Kp (fun q=>rts.ownBlock=some q∨q=w.heap.size) w1 (w5.setCell (aC w.heap.size 1) (.slice (b_ g) (i+1) cap)):=Kp.trans (Kp.trans (Kp.aN b3 _) Cy (fun _ _ e=>.inl e)) ze (fun _ _ e=>.inr e);have UJ:=Kp.trans (Kp.aN b1 _) k16 (fun _ _ e=>e);have hSl:∀ q,(rts.ownBlock=some q∨q=w.heap.size)→q<wr.heap.size:=fun q hq=>by
  rcases hq with hq|rfl
  ·exact(hge q hq).2
  ·exact hws
 have hSg:∀ q,(rts.ownBlock=some q∨q=w.heap.size)→w.heap.size≤q:=fun q hq=>by
  rcases hq with hq|rfl
  ·exact(hge q hq).1
  ·exact ax _
 have hne1:rts.ownBlock≠some w.heap.size:=fun e=>by
  obtain⟨_,_,hh⟩:=eH h2 e;exact fO hh h1 aS
 have hne2:yw.ownBlock≠some w.heap.size:=fun e=>by
  obtain⟨_,_,hh⟩:=eH h3 e;exact fO hh h1 aS
 have JR:=Cy.heap ((Kp.aN b3 (fun _=>False)).heap ((Kp.aN b1 (fun _=>False)).heap h1 id) id) hne1;have h6s:=UJ.size;refine⟨⟨h.bl.trans (UJ.below hbs hSg),⟨au,dI hmi k16.size⟩,fun q=>T q∨(lo≤q∧q<mi),_,yw,rl++[v],sl,dV JR 1 _,ze.owns hown (fun q hq e=>?_),UJ.owns h3 (fun q hq e=>?_),fun q hq=>?_,fun q a b=>.inr ⟨a,b⟩,fun j a hj ha=>?_⟩,k16,hSl⟩
 ·have hq':some g=some q:=hq
  cases hq'
  rcases hat with hat|hat
  ·exact hne1 (e ▸ hat)
  ·omega
 ·rcases e with e|rfl
  ·obtain⟨_,_,g1⟩:=eH h3 hq
   obtain⟨_,_,g2⟩:=eH h2 e;exact fO g1 g2 aS
  ·exact hne2 hq
 ·rcases hq with hq|⟨ha,hb⟩
  ·obtain⟨t1,t2,t3,t4⟩:=h4 q hq
   refine⟨t1,au,fun e=>?_,t4⟩;have e':some g=some q:=e;cases e'
   rcases hat with hat|hat
   ·exact t3 hat
   ·omega
  ·refine⟨au,by have:=k16.size;omega,fun e=>?_,fun e=>by have:=(hgi q e).2;omega⟩
   have e':some g=some q:=e;cases e'
   rcases hat with hat|hat
   ·have:=(hge _ hat).2;omega
   ·omega
 ·obtain⟨sv,s1,s2⟩:=h5 j a hj ha
  refine⟨sv,s1,(s2.keep UJ (fun q hq e=>?_)).mono (fun q hq=>.inl hq)⟩;rcases e with e|rfl
  ·exact(h4 q hq).2.2.1 e
  ·exact absurd (h4 _ hq).1 (Nat.lt_irrefl _)
theorem Za.next{a:AF}(h:Za w rv l i lo mi w2)(ha:l[i]?=some a)(hI:Gj w2 lo mi ps (fA (bs a.t)) ps.length lv wr):∃ rts yw sl,wr.heap[w.heap.size]?=some (.cells #[rv,rts,yw,.slice none 0 0] 39 (0,0))∧wr.ownsRow w.heap.size 53 1 yw i sl ∧
  ∀(w3 w5:aG) (g cap:Nat),Below wr.heap.size wr w3→w3.heap.size=wr.heap.size+1→w5.ownsRow w.heap.size 53 1 (.slice (b_ g) (i+1) cap) (i+1) (sl++[lv])→w3.grownBy w5 yw.ownBlock→(yw.ownBlock=some g∨g=w3.heap.size) →
   Y8 w rv l (i+1) (w5.setCell (aC w.heap.size 2) (.slice (b_ g) (i+1) cap)):=by
 obtain⟨T,rts,yw,rl,sl,h1,h2,h3,h4,QJ,h5⟩:=h.ex;have kb:=Kp.aN hI.bl (fun _=>False);have h1r:=kb.heap h1 id;have h2r:=kb.owns h2 (fun _ _=>id);have h3r:=kb.owns h3 (fun _ _=>id);refine⟨rts,yw,sl,h1r,h3r,fun w3 w5 g cap b3 hs3 hown hgrow hat=>?_⟩;have hge:=dG h2;have hgi:=dG h3;have hbs:=h.bl.size;have hb1:=hI.bl.size;have hws:=bN h1;have Cy:=(Kp.refl _ w3).grown hgrow (fun q e _=>e);have ze:Kp (fun q=>q=w.heap.size) w5 (w5.setCell (aC w.heap.size 2) (.slice (b_ g) (i+1) cap)):=Kp.setCell (S:=fun q=>q=w.heap.size) (p:=⟨w.heap.size,2,none⟩) (Kp.refl _ w5) (fun _=>rfl) _;have UJ:Kp (fun q=>yw.ownBlock=some q∨q=w.heap.size) wr (w5.setCell (aC w.heap.size 2) (.slice (b_ g) (i+1) cap)):=Kp.trans (Kp.trans (Kp.aN b3 _) Cy (fun _ _ e=>.inl e)) ze (fun _ _ e=>.inr e);have hne1:rts.ownBlock≠some w.heap.size:=fun e=>by
  obtain⟨_,_,hh⟩:=eH h2 e;exact fO hh h1 aS
 have hne2:yw.ownBlock≠some w.heap.size:=fun e=>by
  obtain⟨_,_,hh⟩:=eH h3 e;exact fO hh h1 aS
 have JR:=Cy.heap ((Kp.aN b3 (fun _=>False)).heap h1r id) hne2;have h6s:=UJ.size;have hnT:∀ q,(T q∨(w2.heap.size≤q∧q<wr.heap.size))→¬(yw.ownBlock=some q∨q=w.heap.size):=fun q hq e=>by
  rcases hq with hq|⟨ha,hb⟩
  ·rcases e with e|rfl
   ·exact(h4 q hq).2.2.2 e
   ·exact absurd (h4 _ hq).1 (Nat.lt_irrefl _)
  ·rcases e with e|rfl
   ·have:=(hgi q e).2;omega
   ·omega
 refine⟨(h.bl.trans (hI.bl.mono hbs)).trans (UJ.below au (fun q hq=>?_)),fun q=>T q∨(w2.heap.size≤q∧q<wr.heap.size),rts,_,rl,sl++[lv],dV JR 2 _,UJ.owns h2r (fun q hq e=>?_),ze.owns hown (fun q hq e=>?_),fun q hq=>?_,fun j b hj hb=>?_⟩
 ·rcases hq with hq|rfl
  ·exact(hgi q hq).1
  ·exact ax _
 ·rcases e with e|rfl
  ·obtain⟨_,_,g1⟩:=eH h2 hq
   obtain⟨_,_,g2⟩:=eH h3 e;exact fO g1 g2 aS
  ·exact hne1 hq
 ·have hq':some g=some q:=hq
  cases hq'
  rcases hat with hat|hat
  ·exact hne2 (e ▸ hat)
  ·omega
 ·rcases hq with hq|⟨ha,hb⟩
  ·obtain⟨t1,t2,t3,t4⟩:=h4 q hq
   refine⟨t1,au,t3,fun e=>?_⟩;have e':some g=some q:=e;cases e'
   rcases hat with hat|hat
   ·exact t4 hat
   ·omega
  ·refine⟨au,au,fun e=>by have:=(hge q e).2;omega,fun e=>?_⟩
   have e':some g=some q:=e;cases e'
   rcases hat with hat|hat
   ·have:=(hgi _ hat).2;omega
   ·omega
 ·have hsl:sl.length=i:=by have:=h3.1;omega
  rcases cu j i with g'|g'
  ·obtain⟨sv,s1,s2⟩:=h5 j b g' hb
   refine⟨sv,by rw[bT au];exact s1,?_⟩;exact((s2.keep kb (fun q _=>id)).mono (fun q hq=>.inl hq)).keep UJ hnT
  ·obtain rfl:j=i:=by omega
   rw[ha] at hb;cases hb
   refine⟨lv,by rw[bL au,hsl,iZ];rfl,?_⟩;exact(hI.file h.Vo.1 h.Vo.2 (fun q a b=>.inl (QJ q a b)) (fun q a b=>.inr ⟨a,b⟩)).keep UJ hnT
end
section
open Tryz
variable{w:aG}{a b:Nat}{it:It}
theorem QF{v:Value}{p:Part}{i:Nat}(hn:lS w a b v p i)(hb:b≤w.heap.size)(hr:X.BV p i it)(hy:Cx p)(hk:su p)(hz:jh p≤268435456)(hi:i+pz [p]≤1000000) :
  bB 16 #[v] w fun e w'=>∃ d:DI,e=.returned (.agg d.arr)∧Hid (Jy w.heap.size w' a b d it∧Below w.heap.size w w'):=by
 cases it with
 | use p m n gs al=>exact Qx hn hb hr hy hk hz
 | dfn p n ps e=>exact QE hn hb hr hy hk hz hi
theorem Jy.base{B B':Nat}{d:DI}(h:Jy B w a b d it)(hb:B'≤B):Jy B' w a b d it:=by
 cases it with
 | use p m n gs al=>exact h
 | dfn p n ps e =>
  obtain⟨h1,h2,h3,h4,h5,h6,⟨ao,cap,g1,g2,g3,g4⟩,h8⟩:=h;refine⟨h1,h2,h3,h4,h5,h6,⟨ao,cap,g1,g2,g3,fun j n hj=>?_⟩,h8⟩;obtain⟨g,cs,d,u,e1,e2,e3,e4,e5⟩:=g4 j n hj;exact⟨g,cs,d,u,e1,au,e3,e4,e5⟩
theorem Gj.form{w2:aG}{lo mi:Nat}{ps:List Part}{its:List It}{k:Nat}{lv:Value}{wr:aG}(h:Gj w2 lo mi ps its k lv wr):∃ ao n c,lv=.slice ao n c:=by
 obtain⟨done,rest,dl,e1,e2,e3,e4,e5,e6⟩:=h.ex;rcases e3.2 with ⟨e,-⟩|⟨g,cap,cur,e,-⟩
 ·exact⟨_,_,_,e⟩
 ·exact⟨_,_,_,e⟩
end
end Go.Proofs.YtoohcklcppnafaaGreatDoor
