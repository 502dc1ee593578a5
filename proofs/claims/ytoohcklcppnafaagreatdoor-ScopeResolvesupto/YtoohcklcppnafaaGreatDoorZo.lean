import Derived.Test.YtoohcklcppnafaaGreatDoorYd
namespace Go.Proofs.YtoohcklcppnafaaGreatDoor
set_option maxRecDepth 100000
set_option maxHeartbeats 4000000
open M
section
open Tryz
open Go.RowKit
open X
namespace X
def Q.k:Q→Nat|.mk k _ _ _ _ _ _ _ _=>k
def Q.t:Q→Nat|.mk _ t _ _ _ _ _ _ _=>t
def Q.x:Q→ah|.mk _ _ x _ _ _ _ _ _=>x
def Q.en:Q→Int|.mk _ _ _ _ _ e _ _ _=>e
def Q.fr:Q→Int|.mk _ _ _ _ _ _ f _ _=>f
def Q.tt:Q→Int|.mk _ _ _ _ _ _ _ t _=>t
def Q.la:Q→Bool|.mk _ _ _ _ _ _ _ _ l=>l
end X
variable{j N k t lo hi cap i0 pos:Nat}{w wr W:aG}{x:ah}{rv:Value}{i en fr tt:Int}{la:Bool}{ao:Option Addr}{L H:Nat→Nat}{vs:Nat→Value}{ps:List Part}
namespace X
mutual
def put:Part→Int→Q
 | .leaf k x,i=>.mk 0 k x [] i (i+x.length) (if k=1∨k=2 then -1 else i) (if k=1∨k=2 then -1 else i+x.length) false
 | .miss m,i=>.mk 1 0 m [] i i (-1) (-1) true
 | .br k ps,i=>.mk k 0 [] (puts ps i (-1) (-1) (k==1)).1 i (puts ps i (-1) (-1) (k==1)).2.1 (puts ps i (-1) (-1) (k==1)).2.2.1 (puts ps i (-1) (-1) (k==1)).2.2.2.1 (puts ps i (-1) (-1) (k==1)).2.2.2.2
def puts:List Part→Int→Int→Int→Bool→List Q × Int × Int × Int × Bool
 | [],i,f,t,l=>([],i,f,t,l)
 | p::ps,i,f,t,l=>(put p i::(puts ps (put p i).en (if f<0 then(put p i).fr else f) (if (put p i).tt>t then(put p i).tt else t) (l||(put p i).la)).1,(puts ps (put p i).en (if f<0 then(put p i).fr else f) (if (put p i).tt>t then(put p i).tt else t) (l||(put p i).la)).2)
end
mutual
theorem DZ:∀(p:Part) (i:Int),(put p i).en=i+(pb p).length
 | .leaf k x,i=>by rw[put,pb];rfl
 | .miss m,i=>by rw[put,pb];simp[Q.en]
 | .br k ps,i=>by rw[put,pb];exact Nh ps i _ _ _
theorem Nh:∀(ps:List Part) (i f t:Int) (l:Bool),(puts ps i f t l).2.1=i+(mM ps).length
 | [],i,f,t,l=>by rw[puts,mM];simp
 | p::ps,i,f,t,l=>by
  rw[puts,mM];show(puts ps _ _ _ _).2.1=_;rw[Nh ps,DZ p,ay];omega
end
theorem PK{ps:List Part}{p:Part}(h:ps[j]?=some p)(i f t:Int)(l:Bool):puts (ps.drop j) i f t l=(put p i::(puts (ps.drop (j+1)) (put p i).en (if f<0 then(put p i).fr else f) (if (put p i).tt>t then(put p i).tt else t) (l||(put p i).la)).1,(puts (ps.drop (j+1)) (put p i).en (if f<0 then(put p i).fr else f) (if (put p i).tt>t then(put p i).tt else t) (l||(put p i).la)).2):=by
 have hl:j<ps.length:=by
  rcases cu j ps.length with g|g
  ·exact g
  ·rw[bf g] at h;cases h
 have hd:ps.drop j=p::ps.drop (j+1):=by
  rw[dS hl];congr 1;exact bQ ((aF hl).symm.trans h)
 rw[hd,puts]
end X
def Nd(w:aG)(N k t:Nat)(x:ah)(rv:Value)(i en fr tt:Int)(la:Bool):Prop:=w.heap[N]?=some (gH k t x rv i en fr tt la)
theorem Nd.facts(h:Nd w N k t x rv i en fr tt la) :
  (w.cell? (aC N 0)=some (ak k)∧w.cell? (aC N 1)=some (ak t)∧w.cell? (aC N 2)=some (.string (ba x))∧w.cell? (aC N 3)=some rv∧w.cell? (aC N 4)=some (ak i)∧w.cell? (aC N 5)=some (ak en)∧w.cell? (aC N 6)=some (ak fr)∧w.cell? (aC N 7)=some (ak tt)∧w.cell? (aC N 8)=some (.bool la)) ∧
  (w.frozen? (aC N 4)=false∧w.frozen? (aC N 5)=false∧w.frozen? (aC N 6)=false∧w.frozen? (aC N 7)=false∧w.frozen? (aC N 8)=false):=by
 unfold Nd gH at h;refine⟨⟨?_,?_,?_,?_,?_,?_,?_,?_,?_⟩,?_,?_,?_,?_,?_⟩<;>simp[World.cell?,World.frozen?,h]
theorem Nd.wH(h:Nd w N k t x rv i en fr tt la)(y:Int):Nd (w.setCell (aC N 4) (ak y)) N k t x rv y en fr tt la:=by
 unfold Nd gH at h ⊢;simp[World.setCell,aZ,h]
theorem Nd.Fp(h:Nd w N k t x rv i en fr tt la)(y:Int):Nd (w.setCell (aC N 5) (ak y)) N k t x rv i y fr tt la:=by
 unfold Nd gH at h ⊢;simp[World.setCell,aZ,h]
theorem Nd.Fq(h:Nd w N k t x rv i en fr tt la)(y:Int):Nd (w.setCell (aC N 6) (ak y)) N k t x rv i en y tt la:=by
 unfold Nd gH at h ⊢;simp[World.setCell,aZ,h]
theorem Nd.Cu(h:Nd w N k t x rv i en fr tt la)(y:Int):Nd (w.setCell (aC N 7) (ak y)) N k t x rv i en fr y la:=by
 unfold Nd gH at h ⊢;simp[World.setCell,aZ,h]
theorem Nd.PL(h:Nd w N k t x rv i en fr tt la)(y:Bool):Nd (w.setCell (aC N 8) (.bool y)) N k t x rv i en fr tt y:=by
 unfold Nd gH at h ⊢;simp[World.setCell,aZ,h]
theorem nu.node{v:Value}{q:X.Q}(h:nu w lo hi v q):∃(N:Nat) (rv:Value) (i:Int),v=aH N∧lo≤N∧N<hi∧Nd w N q.k q.t q.x rv i q.en q.fr q.tt q.la:=by
 cases h with
 | mk _ _ N k t x qs kM en fr tt la ao cap vs L H hN hb=>exact⟨N,_,kM,rfl,hN.1,hN.2,hb⟩
def DX(p:Part):Prop:=∀(lo hi:Nat) (v:Value) (i:Nat) (w:aG),nu w lo hi v (X.raw p)→i+(X.pb p).length≤1073741824 →
 bB 32 #[v,ak i] w fun e w'=>e=.returned (ak ((i+(X.pb p).length:Nat):Int))∧Hid (nu w' lo hi v (X.put p i)∧Kp (fun q=>lo≤q∧q<hi) w w')
theorem kn{w':aG}(h:Kp (fun q=>q=N) w w')(h1:lo≤N)(h2:N<hi):Kp (fun q=>lo≤q∧q<hi) w w':=Kp.mono h (fun i _ e=>by subst e;exact⟨h1,h2⟩)
theorem Uy(k:Nat)(x:ah):DX (.leaf k x):=by
 intro lo hi v i w h hl;rw[X.raw] at h;cases h with
 | mk _ _ N _ _ _ qs kM en fr tt la ao cap vs L H hN hb hc hr hs hp =>
 have HM:Hid (∀(w':aG) (en fr tt:Int),Nd w' N 0 k x (.slice ao 0 cap) i en fr tt false→nu w' lo hi (aH N) (.mk 0 k x [] i en fr tt false)):=fun w' en fr tt h=>.mk lo hi N 0 k x [] i en fr tt false ao cap vs L H hN h hc (fun i hi=>by simp at hi) (fun i hi=>by simp at hi) (fun i q hq=>by simp at hq)
 have HB:Hid (Nd w N 0 k x (.slice ao 0 cap) 0 0 0 0 false):=hb;rw[X.pb] at hl ⊢;obtain⟨⟨c0,c1,c2,c3,c4,c5,c6,c7,c8⟩,f4,f5,f6,f7,f8⟩:=(HB.o).facts;have hbs:=zo x;have Z7:=aA hN.1;have zO:=aA hN.2;clear hb hc hr hs hp hN;have HK:Hid (∀(w':aG),Kp (fun q=>q=N) w w'→Kp (fun q=>lo≤q∧q<hi) w w'):=fun w' h=>kn h Z7.o zO.o
 have HY:Hid ((k=1∨k=2)→∀ w',Nd w' N 0 k x (.slice ao 0 cap) i (i+x.length) (-1) (-1) false→nu w' lo hi (aH N) (X.put (.leaf k x) i)):=fun hq w' h=>by
  rw[X.put,aU hq,aU hq];exact(HM.o) _ _ _ _ h
 have HZ:Hid (¬(k=1∨k=2)→∀ w',Nd w' N 0 k x (.slice ao 0 cap) i (i+x.length) i (i+x.length) false→nu w' lo hi (aH N) (X.put (.leaf k x) i)):=fun hq w' h=>by
  rw[X.put,aM hq,aM hq];exact(HM.o) _ _ _ _ h
 clear HM;have HR:Hid (∀(w':aG),(nu w' lo hi (aH N) (X.put (.leaf k x) i)∧Kp (fun q=>lo≤q∧q<hi) w w')→((.returned (ak ((i:Int)+(x.length:Int))):Ending)=.returned (ak ((i+x.length:Nat):Int))∧Hid (nu w' lo hi (aH N) (X.put (.leaf k x) i)∧Kp (fun q=>lo≤q∧q<hi) w w'))):=fun w' h=>⟨by rw[j_],h⟩
 clear Z7 zO;cases k1:((k:Int)==1) with
 | true =>
  have n1:((k:Int) !=1)=false:=by simp[bne,k1]
  have n2:(k:Int)=1:=by simpa using k1
  go_enter func32,ntmps32;go_wp2_with fail
  go_ret;exact(HR.o) _ ⟨(HY.o) au _ (((((HB.o).wH _).Fq _).Cu _).Fp _),(HK.o) _ (On.set (On.set (On.set (On.set (Kp.refl _ w) 4 _) 6 _) 7 _) 5 _)⟩
 | false =>
  have n1:((k:Int) !=1)=true:=by simp[bne,k1]
  have n2:¬(k:Int)=1:=by simpa using k1
  cases k2:((k:Int)==2) with
  | true =>
   have n3:((k:Int) !=2)=false:=by simp[bne,k2]
   have n4:(k:Int)=2:=by simpa using k2
   go_enter func32,ntmps32;go_wp2_with fail
   go_ret;exact(HR.o) _ ⟨(HY.o) au _ (((((HB.o).wH _).Fq _).Cu _).Fp _),(HK.o) _ (On.set (On.set (On.set (On.set (Kp.refl _ w) 4 _) 6 _) 7 _) 5 _)⟩
  | false =>
   have n3:((k:Int) !=2)=true:=by simp[bne,k2]
   have n4:¬(k:Int)=2:=by simpa using k2
   go_enter func32,ntmps32;go_wp2_with fail
   go_ret;exact(HR.o) _ ⟨(HZ.o) au _ (((((((HB.o).wH _).Fq _).Cu _).Fp _).Fq _).Cu _),(HK.o) _ (On.set (On.set (On.set (On.set (On.set (On.set (Kp.refl _ w) 4 _) 6 _) 7 _) 5 _) 6 _) 7 _)⟩
structure Lie(lo hi N:Nat)(ao:Option Addr)(L H:Nat→Nat)(n:Nat):Prop where
 hN:lo≤N∧N<hi
 hs:∀ i,i<n→lo≤L i∧L i≤H i∧H i≤hi∧¬(L i≤N∧N<H i)∧∀ j,i<j→j<n→H i≤L j
 hg:∀ g,ao=some ⟨g,0,none⟩→0<n→lo≤g∧g<hi∧g≠N∧∀ j,j<n→¬(L j≤g∧g<H j)
theorem Lie.apart{n:Nat}(h:Lie lo hi N ao L H n){i q:Nat}(hi:i<n)(hj:j<n)(hne:i≠j)(h1:L i≤q)(h2:q<H i):¬(L j≤q∧q<H j):=by
 rcases cu i j with g|g
 ·have:=(h.hs i hi).2.2.2.2 j g hj;omega
 ·have:=(h.hs j hj).2.2.2.2 i au hi;omega
theorem lt_of_some{α:Type}{l:List α}{i:Nat}{a:α}(h:l[i]?=some a):i<l.length:=by
 rcases cu i l.length with g|g
 ·exact g
 ·rw[bf g] at h;cases h
structure FM(w:aG)(N k lo hi:Nat)(ao:Option Addr)(cap:Nat)(vs:Nat→Value)(L H:Nat→Nat)(ps:List Part)(i0:Nat)(j pos:Nat)(fr tt:Int)(la:Bool)(wr:aG):Prop where
 ex:∃ qs:List X.Q,qs.length=j∧(∀ i q,qs[i]?=some q→nu wr (L i) (H i) (vs i) q)∧puts ps i0 (-1) (-1) (k==1)=(qs++(puts (ps.drop j) pos fr tt la).1,(puts (ps.drop j) pos fr tt la).2)
 nd:Nd wr N k 0 [] (.slice ao ps.length cap) i0 0 fr tt la
 todo:∀ i p,j≤i→ps[i]?=some p→nu wr (L i) (H i) (vs i) (X.raw p)
 row:∀ i,i<ps.length→∃ g,ao=some ⟨g,0,none⟩∧wr.cell? (aC g i)=some (vs i)
 kp:Kp (fun q=>lo≤q∧q<hi) w wr
 pos:pos+(mM (ps.drop j)).length=i0+(mM ps).length
theorem FM.next{w2:aG}{p:Part}{fr' U6:Int}{la':Bool}(hL:Lie lo hi N ao L H ps.length)(h:FM w N k lo hi ao cap vs L H ps i0 j pos fr tt la wr)(hp:ps[j]?=some p)
  (hm:nu w2 (L j) (H j) (vs j) (X.put p pos)) (hk:Kp (fun q=>L j≤q∧q<H j) wr w2) (hk2:Kp (fun q=>q=N) w2 W) (hn:Nd W N k 0 [] (.slice ao ps.length cap) i0 0 fr' U6 la')
  (e1:fr'=if fr<0 then(X.put p pos).fr else fr) (e2:U6=if (X.put p pos).tt>tt then(X.put p pos).tt else tt) (e3:la'=(la||(X.put p pos).la)):FM w N k lo hi ao cap vs L H ps i0 (j+1) (pos+(X.pb p).length) fr' U6 la' W:=by
 have hjl:=lt_of_some hp;obtain⟨qs,q1,q2,q3⟩:=h.ex;obtain⟨s1,s2,s3,s4,s5⟩:=hL.hs j hjl;have hst:=PK hp (pos:Int) fr tt la;have hen:(X.put p pos).en=((pos+(X.pb p).length:Nat):Int):=by rw[DZ];omega
 rw[← e1,← e2,← e3,hen] at hst;have Yp:∀ {i:Nat} {q:X.Q},i<ps.length→i≠j→nu wr (L i) (H i) (vs i) q→nu W (L i) (H i) (vs i) q:=fun {i q} hi hne hq =>
  (hq.keep hk (fun x a1 a2=>hL.apart hi hjl hne a1 a2)).keep hk2 (fun x a1 a2 e=>by subst e;exact(hL.hs i hi).2.2.2.1 ⟨a1,a2⟩)
 refine⟨⟨qs++[X.put p pos],by rw[ay,q1];rfl,fun i q hq=>?_,?_⟩,hn,fun i p' hi hp'=>?_,fun i hi=>?_,?_,?_⟩
 ·by_cases hi:i<qs.length
  ·rw[bT hi] at hq
   exact Yp au au (q2 i q hq)
  ·have hil:=lt_of_some hq
   rw[ay,bF] at hil;have:i=j:=au
   subst this;rw[bL au,q1,iZ] at hq;obtain rfl:X.put p pos=q:=by simpa using hq
   exact hm.keep hk2 (fun x a1 a2 e=>by subst e;exact s4 ⟨a1,a2⟩)
 ·rw[q3,hst];simp
 ·exact Yp (lt_of_some hp') au (h.todo i p' au hp')
 ·obtain⟨g,g1,g2⟩:=h.row i hi
  obtain⟨a1,a2,a3,a4⟩:=hL.hg g g1 au;exact⟨g,g1,hk2.dD (hk.dD g2 (a4 j hjl)) a3⟩
 ·refine Kp.trans (Kp.trans h.kp hk (fun x _ e=>⟨au,au⟩)) hk2 (fun x _ e=>?_)
  subst e;exact hL.hN
 ·have hd:ps.drop j=p::ps.drop (j+1):=by
   rw[dS hjl];congr 1;exact bQ ((aF hjl).symm.trans hp)
  have:=h.pos;rw[hd,mM,ay] at this;omega
theorem FM.done(hL:Lie lo hi N ao L H ps.length)(hc:ps.length≤cap∧cap≤maxLen)(h:FM w N k lo hi ao cap vs L H ps i0 ps.length pos fr tt la wr)(hk2:Kp (fun q=>q=N) wr W)(hn:Nd W N k 0 [] (.slice ao ps.length cap) i0 pos fr tt la) :
  pos=i0+(mM ps).length∧nu W lo hi (aH N) (X.put (.br k ps) i0)∧Kp (fun q=>lo≤q∧q<hi) w W:=by
 obtain⟨qs,q1,q2,q3⟩:=h.ex;have hpos:=h.pos;rw[List.drop_length,puts,aL] at q3;rw[List.drop_length,mM] at hpos;refine⟨by simpa using hpos,?_,Kp.trans h.kp hk2 (fun x _ e=>by subst e;exact hL.hN)⟩;rw[X.put,q3];show nu W lo hi _ (.mk k 0 [] qs i0 pos fr tt la);refine .mk lo hi N k 0 [] qs i0 pos fr tt la ao cap vs L H hL.hN (by rw[q1];exact hn) (by rw[q1];exact hc) (fun i hi=>?_) (by rw[q1];exact hL.hs) (fun i q hq=>?_)
 ·rw[q1] at hi
  obtain⟨g,g1,g2⟩:=h.row i hi;obtain⟨a1,a2,a3,a4⟩:=hL.hg g g1 au;exact⟨g,g1,a1,a2,a3,by rw[q1];exact a4,hk2.dD g2 a3⟩
 ·have hil:=lt_of_some hq
  exact(q2 i q hq).keep hk2 (fun x a1 a2 e=>by subst e;exact(hL.hs i au).2.2.2.1 ⟨a1,a2⟩)
theorem Uz(m:ah):DX (.miss m):=by
 intro lo hi v i w h hl;rw[X.raw] at h;cases h with
 | mk _ _ N _ _ _ qs kM en fr tt la ao cap vs L H hN hb hc hr hs hp =>
 have HM:Hid (∀(w':aG),Nd w' N 1 0 m (.slice ao 0 cap) i i (-1) (-1) true→nu w' lo hi (aH N) (X.put (.miss m) i)):=fun w' h=>by
  rw[X.put];exact .mk lo hi N 1 0 m [] i i (-1) (-1) true ao cap vs L H hN h hc (fun i hi=>by simp at hi) (fun i hi=>by simp at hi) (fun i q hq=>by simp at hq)
 have HB:Hid (Nd w N 1 0 m (.slice ao 0 cap) 0 0 0 0 false):=hb;have hpb:(X.pb (.miss m)).length=0:=by rw[X.pb];rfl
 rw[hpb,Nat.add_zero];obtain⟨⟨c0,c1,c2,c3,c4,c5,c6,c7,c8⟩,f4,f5,f6,f7,f8⟩:=(HB.o).facts;have HK:Hid (∀(w':aG),Kp (fun q=>q=N) w w'→Kp (fun q=>lo≤q∧q<hi) w w'):=fun w' h=>kn h hN.1 hN.2
 clear hb hc hr hs hp hN hpb;go_enter func32,ntmps32;go_wp2_with fail
 refine wp_loop_rounds 1 ?_;rw[rounds_succ];go_wp2_with fail
 go_ret;exact⟨rfl,(HM.o) _ ((((((HB.o).wH _).Fq _).Cu _).PL _).Fp _),(HK.o) _ (On.set (On.set (On.set (On.set (On.set (Kp.refl _ w) 4 _) 6 _) 7 _) 8 _) 5 _)⟩
theorem aD8(k:Nat)(ps:List Part)(hk0:k≠0)(ih:∀(j:Nat) (p:Part),ps[j]?=some p→DX p)(hpl:ps.length≤1073741824):DX (.br k ps):=by
 intro lo hi v i w h hl;rw[X.pb] at hl ⊢;have UF:=aA ih;have h':=h;rw[X.raw] at h';cases h' with
 | mk _ _ N _ _ _ qs kM en fr tt la ao cap vs L H hN hb hc hr hs hp =>
 have sP:(FE ps).length=ps.length:=by rw[wQ,cB]
 rw[sP] at hb hc hr hs;have HL:Hid (Lie lo hi N ao L H ps.length):=⟨hN,hs,fun g hg h0=>by obtain⟨g',e1,e2,e3,e4,e5,e6⟩:=hr 0 h0;rw[hg] at e1;obtain rfl:g=g':=(by simpa using e1);exact⟨e2,e3,e4,e5⟩⟩;have HC:=aA hc;have HB:Hid (Nd w N k 0 [] (.slice ao ps.length cap) 0 0 0 0 false):=hb;have HT:Hid (∀(j:Nat) (p:Part),ps[j]?=some p→nu w (L j) (H j) (vs j) (X.raw p)):=fun j p hj=>hp j _ (by rw[wQ,iI,hj];rfl)
 have lT:Hid (∀ j,j<ps.length→∃ g,ao=some ⟨g,0,none⟩∧w.cell? (aC g j)=some (vs j)):=fun j hj=>by obtain⟨g,e1,e2,e3,e4,e5,e6⟩:=hr j hj;exact⟨g,e1,e6⟩
 obtain⟨⟨c0,c1,c2,c3,c4,c5,c6,c7,c8⟩,f4,f5,f6,f7,f8⟩:=(HB.o).facts;have hcap:=hc.1;clear hb hc hr hs hp hN h sP ih;have k0:((k:Int)==0)=false:=aQ
 have Dh:Hid (((k:Int)==1)=(k==1)):=by show _=_;rw[gq];simp;omega
 have HI0:Hid (FM w N k lo hi ao cap vs L H ps i 0 i (-1) (-1) (k==1) ((((w.setCell (aC N 4) (ak i)).setCell (aC N 6) (ak (-1))).setCell (aC N 7) (ak (-1))).setCell (aC N 8) (.bool ((k:Int)==1)))):=by
  have hkk:Kp (fun q=>q=N) w ((((w.setCell (aC N 4) (ak i)).setCell (aC N 6) (ak (-1))).setCell (aC N 7) (ak (-1))).setCell (aC N 8) (.bool ((k:Int)==1))):=On.set (On.set (On.set (On.set (Kp.refl _ w) 4 _) 6 _) 7 _) 8 _;have hL:=HL.o;refine⟨⟨[],rfl,fun i q hq=>by simp at hq,aT⟩,?_,fun j p _ hj=>((HT.o) j p hj).keep hkk (fun x a1 a2 e=>by subst e;exact(hL.hs j (lt_of_some hj)).2.2.2.1 ⟨a1,a2⟩),fun j hj=>?_,kn hkk hL.hN.1 hL.hN.2,aT⟩
  ·have:=(((((HB.o).wH (i:Int)).Fq (-1)).Cu (-1)).PL ((k:Int)==1))
   rw[Dh.o] at this ⊢;exact this
  ·obtain⟨g,g1,g2⟩:=(lT.o) j hj
   exact⟨g,g1,hkk.dD g2 (hL.hg g g1 au).2.2.1⟩
 clear HT lT Dh HB;go_enter func32,ntmps32;go_wp2_with fail
 go_loopw [1,5] (fun a v wr=>∃(j pos:Nat) (fr tt:Int) (la:Bool),a=ak pos∧v=ak j∧j≤ps.length∧Hid (FM w N k lo hi ao cap vs L H ps i j pos fr tt la wr)) (fun _ v _=>ps.length - (intOf v).toNat)
 case atStart=>exact⟨0,i,-1,-1,_,rfl,rfl,bJ _,HI0⟩
 case round =>
  clear HI0 c0 c1 c2 c3 c4 c5 c6 c7 c8 f4 f5 f6 f7 f8;obtain⟨j,pos,fr,tt,la,rfl,rfl,hj,HI⟩:=hrel;obtain⟨⟨c0,c1,c2,c3,c4,c5,c6,c7,c8⟩,f4,f5,f6,f7,f8⟩:=(HI.o).nd.facts;by_cases hlt:j<ps.length
  case neg =>
   obtain rfl:j=ps.length:=au
   have i1:decide (ps.length<ps.length)=false:=aT
   have i2:decide ((ps.length:Int)<(ps.length:Int))=false:=aT
   have HF:=aA (FM.done HL.o HC.o HI.o (On.set (Kp.refl _ wr) 5 (ak (pos:Int))) ((HI.o).nd.Fp _));go_wp2_with fail
   go_ret;exact⟨Uk (HF.o).1,(HF.o).2⟩
  have i1:decide (j<ps.length)=true:=aQ
  have i2:decide ((j:Int)<(ps.length:Int))=true:=aQ
  have hi1:(0:Int)≤(j:Int):=bO _;have hi2:(j:Int)<(ps.length:Int):=au
  obtain⟨p,hpj⟩:∃ p,ps[j]?=some p:=⟨ps[j],aF hlt⟩;obtain⟨g,rfl,hcell⟩:=(HI.o).row j hlt;have hm:=(HI.o).todo j p (ax _) hpj;obtain⟨Nj,uL,ij,Jq,cX2,cX3,vI⟩:=hm.node;have aY6:pos+(X.pb p).length≤1073741824:=by
   have h1:=(HI.o).pos;have hd:ps.drop j=p::ps.drop (j+1):=by
    rw[dS hlt];congr 1;exact bQ ((aF hlt).symm.trans hpj)
   rw[hd,mM,ay] at h1;omega
  have I7:=aA ((UF.o) j p hpj (L j) (H j) (vs j) pos wr hm aY6);have HP:=aA hpj;rw[Jq] at hcell I7;have HVJ:=aA Jq;have hNN:¬ N=Nj:=by have:=((HL.o).hs j hlt).2.2.2.1;omega
  have bT9:¬ Nj=N:=fun e=>hNN e.symm
  have HNI:=aA <| ((HL.o).hs j hlt).2.2.2.1;clear hm vI Jq hpj;go_wp2_with fail
  refine(I7.o).aX fun w2 H2=>?_;have hm2:=(H2.o).1;have hk2:=(H2.o).2;obtain⟨Nj2,aD9,ij2,aY7,-,-,Yq⟩:=hm2.node;obtain rfl:Nj=Nj2:=by simpa using aY7
  rw[← HVJ.o] at hm2;have HM2:=aA hm2;have mU:=aA hk2;have UA:Hid (Nd w2 N k 0 [] (.slice (b_ g) ps.length cap) i 0 fr tt la):=hk2.heap (HI.o).nd HNI.o;have UC:=aA Yq;clear hm2 hk2 Yq aY7 H2 c0 c1 c2 c3 c4 c5 c6 c7 c8 f4 f5 f6 f7 f8 hcell I7;obtain⟨⟨c0,c1,c2,c3,c4,c5,c6,c7,c8⟩,f4,f5,f6,f7,f8⟩:=(UA.o).facts;obtain⟨⟨d0,d1,d2,d3,d4,d5,d6,d7,d8⟩,-⟩:=(UC.o).facts;have lG:=aA (fun(W:aG) (fr' U6:Int) (la':Bool)=>FM.next (W:=W) (fr':=fr') (U6:=U6) (la':=la') HL.o HI.o HP.o HM2.o mU.o);clear HM2 mU;generalize X.put p pos=q at *;by_cases hf:fr<0
  ·have i3:decide (fr<0)=true:=by simpa using hf
   have Ei:Hid (Nd (w2.setCell (aC N 6) (ak q.fr)) N k 0 [] (.slice (b_ g) ps.length cap) i 0 q.fr tt la):=(UA.o).Fq _;have qz:Hid (Kp (fun x=>x=N) w2 (w2.setCell (aC N 6) (ak q.fr))):=On.set (Kp.refl _ w2) 6 _;have Jw:Hid (q.fr=if fr<0 then q.fr else fr):=by show _=_;rw[aU hf]
   have HJ3:Hid (Nd (w2.setCell (aC N 6) (ak q.fr)) Nj q.k q.t q.x aD9 ij2 q.en q.fr q.tt q.la):=(qz.o).heap UC.o bT9;go_wp2_with fail
   clear c0 c1 c2 c3 c4 c5 c6 c7 c8 f4 f5 f6 f7 f8 d0 d1 d2 d3 d4 d5 d6 d7 d8 UA UC hf i3;generalize w2.setCell (aC N 6) (ak q.fr)=W3 at *;obtain⟨⟨c0,c1,c2,c3,c4,c5,c6,c7,c8⟩,f4,f5,f6,f7,f8⟩:=(Ei.o).facts;obtain⟨⟨d0,d1,d2,d3,d4,d5,d6,d7,d8⟩,-⟩:=(HJ3.o).facts;go_quiet (fail)
   have UD:Hid (Nd (W3.drewN nq) N k 0 [] (.slice (b_ g) ps.length cap) i 0 q.fr tt la):=Ei.o;have HJ4:Hid (Nd (W3.drewN nq) Nj q.k q.t q.x aD9 ij2 q.en q.fr q.tt q.la):=HJ3.o;have JF:=aA <| Kp.trans qz.o (On.drewN N W3 nq) (fun _ _ e=>e);clear c0 c1 c2 c3 c4 c5 c6 c7 c8 f4 f5 f6 f7 f8 d0 d1 d2 d3 d4 d5 d6 d7 d8 Ei HJ3 qz;generalize W3.drewN nq=W4 at *;obtain⟨⟨c0,c1,c2,c3,c4,c5,c6,c7,c8⟩,f4,f5,f6,f7,f8⟩:=(UD.o).facts;obtain⟨⟨d0,d1,d2,d3,d4,d5,d6,d7,d8⟩,-⟩:=(HJ4.o).facts;by_cases ht:q.tt>tt
   ·have i4:decide (tt<q.tt)=true:=by simpa using ht
    cases hla:q.la with
    | true =>
     go_wp2_with fail
     exact⟨⟨j+1,pos+(X.pb p).length,q.fr,q.tt,true,by go_num,by go_num,au,(lG.o) _ _ _ _ (Kp.trans JF.o (On.set (On.set (Kp.refl _ W4) 7 _) 8 _) (fun _ _ e=>e)) (((UD.o).Cu _).PL _) Jw.o (by rw[aU ht]) (by rw[hla];simp)⟩,by simp only[intOf];omega⟩
    | false =>
     go_wp2_with fail
     exact⟨⟨j+1,pos+(X.pb p).length,q.fr,q.tt,la,by go_num,by go_num,au,(lG.o) _ _ _ _ (Kp.trans JF.o (On.set (Kp.refl _ W4) 7 _) (fun _ _ e=>e)) ((UD.o).Cu _) Jw.o (by rw[aU ht]) (by rw[hla];simp)⟩,by simp only[intOf];omega⟩
   ·have i4:decide (tt<q.tt)=false:=by simpa using ht
    cases hla:q.la with
    | true =>
     go_wp2_with fail
     exact⟨⟨j+1,pos+(X.pb p).length,q.fr,tt,true,by go_num,by go_num,au,(lG.o) _ _ _ _ (Kp.trans JF.o (On.set (Kp.refl _ W4) 8 _) (fun _ _ e=>e)) ((UD.o).PL _) Jw.o (by rw[aM ht]) (by rw[hla];simp)⟩,by simp only[intOf];omega⟩
    | false =>
     go_wp2_with fail
     exact⟨⟨j+1,pos+(X.pb p).length,q.fr,tt,la,by go_num,by go_num,au,(lG.o) _ _ _ _ (Kp.trans JF.o (Kp.refl _ W4) (fun _ _ e=>e)) (UD.o) Jw.o (by rw[aM ht]) (by rw[hla];simp)⟩,by simp only[intOf];omega⟩
  ·have i3:decide (fr<0)=false:=by simpa using hf
   have Ei:=aA UA.o;have qz:Hid (Kp (fun x=>x=N) w2 w2):=Kp.refl _ w2;have Jw:Hid (fr=if fr<0 then q.fr else fr):=by show _=_;rw[aM hf]
   have HJ3:=aA UC.o;go_wp2_with fail
   clear c0 c1 c2 c3 c4 c5 c6 c7 c8 f4 f5 f6 f7 f8 d0 d1 d2 d3 d4 d5 d6 d7 d8 UA UC hf i3;obtain⟨⟨c0,c1,c2,c3,c4,c5,c6,c7,c8⟩,f4,f5,f6,f7,f8⟩:=(Ei.o).facts;obtain⟨⟨d0,d1,d2,d3,d4,d5,d6,d7,d8⟩,-⟩:=(HJ3.o).facts;go_quiet (fail)
   have UD:Hid (Nd (w2.drewN nq) N k 0 [] (.slice (b_ g) ps.length cap) i 0 fr tt la):=Ei.o;have HJ4:Hid (Nd (w2.drewN nq) Nj q.k q.t q.x aD9 ij2 q.en q.fr q.tt q.la):=HJ3.o;have JF:=aA <| Kp.trans qz.o (On.drewN N w2 nq) (fun _ _ e=>e);clear c0 c1 c2 c3 c4 c5 c6 c7 c8 f4 f5 f6 f7 f8 d0 d1 d2 d3 d4 d5 d6 d7 d8 Ei HJ3 qz;generalize w2.drewN nq=W4 at *;obtain⟨⟨c0,c1,c2,c3,c4,c5,c6,c7,c8⟩,f4,f5,f6,f7,f8⟩:=(UD.o).facts;obtain⟨⟨d0,d1,d2,d3,d4,d5,d6,d7,d8⟩,-⟩:=(HJ4.o).facts;by_cases ht:q.tt>tt
   ·have i4:decide (tt<q.tt)=true:=by simpa using ht
    cases hla:q.la with
    | true =>
     go_wp2_with fail
     exact⟨⟨j+1,pos+(X.pb p).length,fr,q.tt,true,by go_num,by go_num,au,(lG.o) _ _ _ _ (Kp.trans JF.o (On.set (On.set (Kp.refl _ W4) 7 _) 8 _) (fun _ _ e=>e)) (((UD.o).Cu _).PL _) Jw.o (by rw[aU ht]) (by rw[hla];simp)⟩,by simp only[intOf];omega⟩
    | false =>
     go_wp2_with fail
     exact⟨⟨j+1,pos+(X.pb p).length,fr,q.tt,la,by go_num,by go_num,au,(lG.o) _ _ _ _ (Kp.trans JF.o (On.set (Kp.refl _ W4) 7 _) (fun _ _ e=>e)) ((UD.o).Cu _) Jw.o (by rw[aU ht]) (by rw[hla];simp)⟩,by simp only[intOf];omega⟩
   ·have i4:decide (tt<q.tt)=false:=by simpa using ht
    cases hla:q.la with
    | true =>
     go_wp2_with fail
     exact⟨⟨j+1,pos+(X.pb p).length,fr,tt,true,by go_num,by go_num,au,(lG.o) _ _ _ _ (Kp.trans JF.o (On.set (Kp.refl _ W4) 8 _) (fun _ _ e=>e)) ((UD.o).PL _) Jw.o (by rw[aM ht]) (by rw[hla];simp)⟩,by simp only[intOf];omega⟩
    | false =>
     go_wp2_with fail
     exact⟨⟨j+1,pos+(X.pb p).length,fr,tt,la,by go_num,by go_num,au,(lG.o) _ _ _ _ (Kp.trans JF.o (Kp.refl _ W4) (fun _ _ e=>e)) (UD.o) Jw.o (by rw[aM ht]) (by rw[hla];simp)⟩,by simp only[intOf];omega⟩
theorem Xo:∀(n:Nat) (p:Part),jh p≤n→jh p≤1073741824→su p→DX p:=by
 intro n
 induction n with
 | zero=>intro p h;have:=jA p;omega
 | succ n ih =>
  intro p hn hb hk;cases p with
  | leaf k x=>exact Uy k x
  | miss m=>exact Uz m
  | br k ps =>
   rw[jh] at hn hb;rw[su] at hk;have hl:=X.iH ps;exact aD8 k ps hk.1 (fun j p hj=>by
    have:=X.gX ps j p hj;exact ih p au au (vK ps j p hk.2 hj)) au
end
namespace X
end X
end Go.Proofs.YtoohcklcppnafaaGreatDoor
