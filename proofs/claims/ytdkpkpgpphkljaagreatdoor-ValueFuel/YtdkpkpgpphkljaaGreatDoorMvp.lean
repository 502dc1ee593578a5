/- Package value: a body is left. -/
import Derived.Test.YtdkpkpgpphkljaaGreatDoorMvn
namespace Go.Proofs.YtdkpkpgpphkljaaGreatDoor
set_option maxRecDepth 100000
set_option maxHeartbeats 4000000
open Tryz
open Go.RowKit
section
open E (St Bo V Fr Ms Rs)
variable{b g n cap z:Nat}{e:TypeId}{xs:List Value}
variable{β:Nat}
theorem vD{w:World}(h:w.ownsRow b e z (.slice (some ⟨g,0,none⟩) n cap) n xs){j:Nat}{u:Value}(hj:xs[j]?=some u):w.cell? ⟨g,j,none⟩=some u:=by
 rcases h.2 with ⟨e1,-⟩|⟨g',cap',cur,e1,-,h2,h3,h4,h5,h6⟩
 ·cases e1
 ·injection e1 with e1 e2 e3
  injection e1 with e1;injection e1 with e1;subst e1 e3;rw[← h6,iP] at hj
  split at hj
  ·simpa [World.cell?,h2] using hj
  ·cases hj
theorem PW{w:World}{k:Nat}(h:w.ownsRow b e z (.slice (some ⟨g,0,none⟩) n cap) n xs)(hk:k≤n):w.ownsRow b e z (.slice (some ⟨g,0,none⟩) k cap) k (xs.take (k*z)):=by
 have hl:=h.1;have hkz:k*z≤n*z:=Nat.mul_le_mul_right z hk;rcases h.2 with ⟨e1,-⟩|⟨g',cap',cur,e1,h1,h2,h3,h4,h5,h6⟩
 ·cases e1
 ·injection e1 with e1 e2 e3
  injection e1 with e1;injection e1 with e1;subst e1 e3;refine⟨by rw[bL];omega,.inr ⟨g,cap,cur,rfl,h1,h2,by omega,h4,h5,?_⟩⟩;rw[← h6,List.take_take,Nat.min_eq_left hkz]
section
variable{w w':World}{O:Nat→Prop}{T:Int × Int→Nat}{mb:Nat}{m:Ms}
theorem Mx.leave{cs:Array Value}{sv nv ev vv bv:Value}{bc:List Value}{ro:Nat→Value}(h:Mx β w O T mb m cs sv nv ev vv bv bc ro)(hk:Kp (fun q=>q=mb) w w'){bk:List Fr}{fr:Fr}(hbk:m.bk=bk++[fr]){s n e:Value}{cs':Array Value}(hbv:bv=.slice (some ⟨g,0,none⟩) (bk.length+1) cap)
  (g0:bc[bk.length*4]?=some s) (g1:bc[bk.length*4+1]?=some n) (g2:bc[bk.length*4+2]?=some e)
  (hb:w'.heap[mb]?=some (.cells cs' 89 (0,0))) (hs:cs'.size=23) (e0:cs'[0]?=some s) (e1:cs'[1]?=some n) (e2:cs'[2]?=some e) (e3:cs'[3]?=some (ro bk.length)) (e4:cs'[4]?=some (.slice (some ⟨g,0,none⟩) bk.length cap)) (e6:∀ i,5≤i→cs'[i]?=cs[i]?) :
  ∃ O',Kv β O O' w w'∧fE β w' O' T mb ⟨fr,bk,m.fu⟩:=by
 have kv:Kv β O (fun q=>O q∧¬ vv.ownBlock=some q) w w':=Kv.PK (hk.mono (fun q _ e=>by rw[e];exact h.mo)) (fun _ e=>h.wds e) (fun _ _ e=>e.1);have hval:∀ {v:Value} {n:Nat} {xs:List Value},w.ownsRow 0 40 1 v n xs→∀ q,v.ownBlock=some q→¬ q=mb:=fun hr q hq e=>by
  obtain⟨c2,h2⟩:=eX hr hq;subst e;exact d_ h2 h.blk (by decide)
 have stay:∀ {s n e:Value} {f:Fr} {j:Nat},j<m.bk.length→xq β w O T s n e (ro j) f→xq β w' (fun q=>O q∧¬ vv.ownBlock=some q) T s n e (ro j) f:=fun {s n e f j} hj hf=>by
  obtain⟨c',h1,-⟩:=hf.vs.ex;exact hf.stay hk kv (hval h1) (fun q hq=>⟨hf.vs.ow q hq,h.d1 j q hj hq⟩)
 have hlen:m.bk.length=bk.length+1:=by rw[hbk,ak];rfl
 have hrow:=h.row;rw[hlen] at hrow;subst hbv;have hvb:¬ vv.ownBlock=some g:=fun e=>by
  obtain⟨c',h1,-⟩:=h.fr.vs.ex;obtain⟨c2,h2⟩:=eX h1 e;obtain⟨c3,h3⟩:=eX hrow (g:=g) rfl;exact d_ h2 h3 (by decide)
 have hgm:g≠mb:=fun e=>by
  obtain⟨c3,h3⟩:=eX hrow (g:=g) rfl;subst e;exact d_ h3 h.blk (by decide)
 obtain⟨s',n',e',q1,q2,q3,q4,q5⟩:=h.WT bk.length fr (by rw[hbk];simp);rw[g0] at q1;rw[g1] at q2;rw[g2] at q3;cases q1
 cases q2
 cases q3
 refine⟨_,kv,cs',s,n,e,ro bk.length,.slice (some ⟨g,0,none⟩) bk.length cap,bc.take (bk.length*4),ro,⟨hb,hs,e0,e1,e2,e3,e4,by rw[e6 _ (aj _)];exact h.c5,fun i hi=>?_,?_,stay (by omega) q5,PW (hk.owns hrow (fun q hq e=>by cases hq;exact hgm e)) (Nat.le_succ _),fun j f hf=>?_,⟨h.mo,h.vne⟩,fun q hq=>?_,fun q hq=>?_,fun j q hj hq e=>h.d2 j bk.length q hj (by omega) hq e,fun i j q hij hj=>h.d2 i j q hij (by have hj':j<bk.length:=hj;omega),h.fl,by have:=h.bl;show bk.length≤_;omega⟩⟩
 ·obtain⟨p,h1,h2⟩:=h.sh i hi
  refine⟨p,by rw[e6 _ (by omega)];exact h1,h2.keep kv (fun b cc hbc2=>hk.heap hbc2 (fun e=>?_))⟩;subst e;exact d_ hbc2 h.blk (by decide)
 ·obtain⟨k,h1,h2⟩:=h.sn
  exact⟨k,by rw[e6 _ (by omega)];exact h1,h2.1,h2.2.of (fun i hi=>e6 i (by omega))⟩
 ·have hj:j<bk.length:=(dP.1 hf).1
  obtain⟨s2,n2,e2',h1,h2,h3,h4,h5⟩:=h.WT j f (by rw[hbk,aU hj];exact hf);refine⟨s2,n2,e2',?_,?_,?_,?_,stay (by omega) h5⟩
  ·rw[iP,aL (by omega)];exact h1
  ·rw[iP,aL (by omega)];exact h2
  ·rw[iP,aL (by omega)];exact h3
  ·rw[iP,aL (by omega)];exact h4
 ·cases hq;exact⟨h.bo g rfl,hvb⟩
 ·obtain⟨cc,t,f,h1,h2⟩:=h.on q hq.1
  by_cases hm:q=mb
  ·subst hm
   exact⟨cs',_,_,hb,.inl rfl⟩
  ·exact⟨cc,t,f,hk.heap h1 hm,h2⟩
theorem I7(l:List V)(x:V)(bk:List Fr)(fr:Fr)(h:fE β w O T mb m)(hv:m.fr.vs=l++[x])(hl:l.length<1073741823)(hbk:m.bk=bk++[fr])(hfl:fr.vs.length<1073741823) :
  Calls prog 38 #[.pointer (some ⟨mb,0,none⟩)] w fun e w'=>e=.returned (.tuple #[])∧Hid (∃ O',Kv β O O' w w'∧fE β w' O' T mb ⟨{ fr with vs:=fr.vs++[x] },bk,m.fu⟩):=by
 have HP:=au (qJ l x h hv hl);have HBk:=au hbk;clear h hv hbk;go_enter func38,ntmps38;go_wp2_with fail
 refine(HP.o).mono ?_;rintro e w2 ⟨u,rfl,H2⟩;obtain⟨O2,k1,k2,k3⟩:=H2.o;obtain⟨cs,sv,nv,ev,vv,bv,bc,ro,hx⟩:=k2;have hlen:m.bk.length=bk.length+1:=by rw[HBk.o,ak];rfl
 have hrow:=hx.row;change w2.ownsRow 0 82 4 bv m.bk.length bc at hrow;rw[hlen] at hrow;have hbl:=hx.bl;change m.bk.length≤_ at hbl;rw[hlen] at hbl;obtain⟨g,cap,rfl,hc1,hc2⟩:∃ g cap,bv=.slice (some ⟨g,0,none⟩) (bk.length+1) cap∧bk.length+1≤cap∧cap≤maxLen:=by
  rcases hrow.2 with ⟨-,e1⟩|⟨g',cap',cur,e1,-,h2,h3,h4,h5,h6⟩
  ·omega
  ·exact⟨g',cap',e1,h3,h4⟩
 obtain⟨s,n,e,q1,q2,q3,q4,q5⟩:=hx.WT bk.length fr (by show m.bk[bk.length]?=_;rw[HBk.o];simp);obtain⟨sa,FH,svs,hsv,-⟩:=q5.cd.ex;have Ui:=q5.nx;obtain⟨pe,hev⟩:=q5.en.ptr;obtain⟨vc,FI,-⟩:=q5.vs.ex;obtain⟨va,FJ,hvv⟩:=zW FI;have r0:=vD hrow q1;have r1:=vD hrow q2;have r2:=vD hrow q3;have r3:=vD hrow q4;have c0:=hx.cell hx.c0;have c1:=hx.cell hx.c1;have c2:=hx.cell hx.c2;have c3:=hx.cell hx.c3;have c4:=hx.cell hx.c4;have f0:=hx.vB 0;have f1:=hx.vB 1;have f2:=hx.vB 2;have f3:=hx.vB 3;have f4:=hx.vB 4;have hgm:¬ g=mb:=fun e=>by
  obtain⟨c3,h3⟩:=eX hrow (g:=g) rfl;subst e;exact d_ h3 hx.blk (by decide)
 have HX:=au hx;have HK:=au k1;have HV:=au k3;have Q1:=au q1;have Q2:=au q2;have Q3:=au q3;rw[hsv] at r0;rw[Ui] at r1;rw[hev] at r2;rw[hvv] at r3;have HSV:=au hsv;have HNV:=au Ui;have Uk:=au hev;have HVV:=au hvv;unfold maxLen at hc2;clear hx hrow k1 k3 H2 q1 q2 q3 q4 q5 FI hsv Ui hev hvv HP hlen;generalize hkl:bk.length=kl at *;generalize hnx:fr.nx=nx at *;generalize hsl:fr.c.length=sl at *;generalize hvl:fr.vs.length=vl at *;have k0:(0:Int)≤(kl:Int):=bU _;have k9:(kl:Int)<((kl+1:Nat):Int):=by omega
 obtain⟨W2,hW2⟩:∃ W,W=w2:=⟨_,rfl⟩;subst hW2;go_wp2_with fail
 have hx:=HX.o;have hcsz:=hx.sz;have HL:Hid (∃ O',Kv β O2 O' W2 (((((W2.setCell ⟨mb,0,none⟩ (.slice sa sl FH)).setCell ⟨mb,1,none⟩ (.int .i64 nx)).setCell ⟨mb,2,none⟩ (.pointer pe)).setCell ⟨mb,3,none⟩ (.slice va vl FJ)).setCell ⟨mb,4,none⟩ (.slice (some ⟨g,0,none⟩) kl cap)).drew∧fE β (((((W2.setCell ⟨mb,0,none⟩ (.slice sa sl FH)).setCell ⟨mb,1,none⟩ (.int .i64 nx)).setCell ⟨mb,2,none⟩ (.pointer pe)).setCell ⟨mb,3,none⟩ (.slice va vl FJ)).setCell ⟨mb,4,none⟩ (.slice (some ⟨g,0,none⟩) kl cap)).drew O' T mb ⟨fr,bk,m.fu⟩):=by
  subst hkl;exact hx.leave (Kp.drew (Kp.setCell (Kp.setCell (Kp.setCell (Kp.setCell (Kp.setCell (Kp.refl (fun q=>q=mb) W2) (p:=⟨mb,0,none⟩) (fun _=>rfl) _) (p:=⟨mb,1,none⟩) (fun _=>rfl) _) (p:=⟨mb,2,none⟩) (fun _=>rfl) _) (p:=⟨mb,3,none⟩) (fun _=>rfl) _) (p:=⟨mb,4,none⟩) (fun _=>rfl) _))
   (g:=g) (cap:=cap) (bk:=bk) (fr:=fr) HBk.o rfl Q1.o Q2.o Q3.o (vC (vC (vC (vC (vC hx.blk 0 _) 1 _) 2 _) 3 _) 4 _) (by simp only[dM];exact hcsz)
   (by rw[HSV.o];simp[hcsz]) (by rw[HNV.o];simp[hcsz]) (by rw[Uk.o];simp[hcsz]) (by rw[HVV.o];simp[hcsz]) (by simp[hcsz])
   (fun i hi=>by rw[aS (by omega),aS (by omega),aS (by omega),aS (by omega),aS (by omega)])
 clear hx hcsz
 go_region
 obtain⟨O3,k4,k5⟩:=HL.o;have HPu:=au (mY u x k5 ((HV.o).keep k4) (by show fr.vs.length<_;omega));have rY:=au k4;clear HL k4 k5 c0 c1 c2 c3 c4 r0 r1 r2 r3 f0 f1 f2 f3 f4;generalize (((((W2.setCell ⟨mb,0,none⟩ (.slice sa sl FH)).setCell ⟨mb,1,none⟩ (.int .i64 nx)).setCell ⟨mb,2,none⟩ (.pointer pe)).setCell ⟨mb,3,none⟩ (.slice va vl FJ)).setCell ⟨mb,4,none⟩ (.slice (some ⟨g,0,none⟩) kl cap)).drew=W5 at *;go_wp2_with fail
 refine(HPu.o).mono ?_;rintro e w6 ⟨rfl,H6⟩;go_wp2_with fail
 go_end0;obtain⟨O6,k6,k7⟩:=H6.o;exact⟨rfl,O6,((HK.o).trans rY.o).trans k6,k7⟩
end
end
section
open E (Cc uJ)
section
variable{w:World}
def RkR(r:Option Int)(e:Ending):Prop:=∃ n d,e=.returned (.tuple #[.int .i64 n,.bool d])∧(d=true→r=some n)∧(d=false→r=none)
def Cn(a b:Int):Option Int:=if a=0∨b=0 then some 0 else if Cc ((Cc (a*b)).tdiv b)=a∧decide (Cc (a*b)<0)=(decide (a<0) !=decide (b<0)) then some (Cc (a*b)) else none
theorem Eb(a b:Int) :
  Calls prog 249 #[.int .i64 a,.int .i64 b] w fun e w'=>w'=w∧RkR (Cn a b) e:=by
 by_cases ha:a=0
 ·have HE:Hid (Cn a b=some 0):=aL (.inl ha)
  go_enter func249,ntmps249;go_wp2_with fail
  go_ret2;rw[HE.o];exact⟨rfl,0,true,rfl,fun _=>rfl,fun h=>by cases h⟩
 ·by_cases hb:b=0
  ·have HE:Hid (Cn a b=some 0):=aL (.inr hb)
   go_enter func249,ntmps249;go_wp2_with fail
   go_ret2;rw[HE.o];exact⟨rfl,0,true,rfl,fun _=>rfl,fun h=>by cases h⟩
  ·have HP:Hid (Cn a b=if wrap64 ((wrap64 (a*b)).tdiv b)=a∧decide (wrap64 (a*b)<0)=(decide (a<0) !=decide (b<0)) then some (wrap64 (a*b)) else none):=by
    show _=_;unfold Cn;rw[aG (by omega)];simp only[Cc,IntWalk.i64_left]
   have ha':(a==0)=false:=by simpa using ha
   have hb':(b==0)=false:=by simpa using hb
   go_enter func249,ntmps249;go_wp2_with fail
   ·next h2 =>
    go_ret2;rw[HP.o];refine⟨rfl,_,_,rfl,fun h=>aL ⟨h2,?_⟩,fun h=>aG fun e=>?_⟩
    ·rw[dF] at h
     exact h e.2
    ·rw[beq_iff_eq] at h
     exact h
   ·next h2 =>
    go_ret2;rw[HP.o];exact⟨rfl,_,false,rfl,fun h=>Bool.noConfusion h,fun _=>aG fun e=>h2 e.1⟩
theorem Oc(x y:ah):((ba x).toList==y)=(x==y):=by rw[gN];rfl
theorem Jb(x:ah)(a b:Int) :
  Calls prog 247 #[.string (ba x),.int .i64 a,.int .i64 b] w fun e w'=>w'=w∧RkR (uJ x a b) e:=by
 by_cases h1:x=[43]
 ·have hq:((ba x).toList==[43])=true:=by rw[Oc,h1];rfl
  have HP:Hid (uJ x a b=if decide (a<wrap64 (a+b))=decide (0<b) then some (wrap64 (a+b)) else none):=by
   show _=_;unfold uJ;rw[aL h1];simp only[Cc,IntWalk.i64_left]
  clear h1;generalize ba x=s at *;go_enter func247,ntmps247;go_wp2_with fail
  go_ret2;rw[HP.o];refine⟨rfl,_,_,rfl,fun h=>aL ?_,fun h=>aG fun e=>?_⟩
  ·rw[beq_iff_eq] at h
   exact h
  ·rw[dF] at h
   exact h e
 ·by_cases h2:x=[45]
  ·have hq:((ba x).toList==[43])=false:=by rw[Oc,h2];rfl
   have hr:((ba x).toList==[45])=true:=by rw[Oc,h2];rfl
   have HP:Hid (uJ x a b=if decide (wrap64 (a - b)<a)=decide (0<b) then some (wrap64 (a - b)) else none):=by
    show _=_;unfold uJ;rw[aG h1,aL h2];simp only[Cc,IntWalk.i64_left]
   clear h1 h2;generalize ba x=s at *;go_enter func247,ntmps247;go_wp2_with fail
   go_ret2;rw[HP.o];refine⟨rfl,_,_,rfl,fun h=>aL ?_,fun h=>aG fun e=>?_⟩
   ·rw[beq_iff_eq] at h
    exact h
   ·rw[dF] at h
    exact h e
  ·have hq:((ba x).toList==[43])=false:=by rw[Oc];exact jQ h1
   have hr:((ba x).toList==[45])=false:=by rw[Oc];exact jQ h2
   have HP:Hid (uJ x a b=Cn a b):=by
    show _=_;unfold uJ;rw[aG h1,aG h2];rfl
   have HX:=au (Eb (w:=w) a b);clear h1 h2;generalize ba x=s at *;go_enter func247,ntmps247;go_wp2_with fail
   refine(HX.o).mono ?_;rintro e w2 ⟨rfl,n,d,rfl,h3,h4⟩;have H3:=au h3;have H4:=au h4;clear h3 h4;go_wp2_with fail
   go_ret2;rw[HP.o];exact⟨rfl,n,d,rfl,H3.o,H4.o⟩
end
end
section
open E (St Bo V Fr Ms Rs)
variable{β:Nat}
section
variable{w w':World}{O:Nat→Prop}{T:Int × Int→Nat}{mb:Nat}{m:Ms}
theorem Bq.shift{O2:Nat→Prop}{w1:World}{r:Rs}{e:Ending}(k:Kv β O O2 w w1)(h:Bq β O2 T mb w1 r e w'):Bq β O T mb w r e w':=by
 cases r with
 | on m'=>exact⟨h.1,by obtain⟨O',k1,k2⟩:=h.2.o;exact⟨O',k.trans k1,k2⟩⟩
 | err n=>exact⟨h.1,by obtain⟨k0,O',k1⟩:=h.2.o;exact⟨k0,O',k.trans k1⟩⟩
 | fin v=>exact h.elim
 | bad=>exact h.elim
theorem D_(b n:Nat)(c:List St)(h:fE β w O T mb m)(hb:Bl β w O T b n c)(hcl:c.length≤1073741824)(hbl:m.bk.length<1073741823) :
  Calls prog 220 #[.agg #[.pointer (some ⟨b,0,none⟩)],.pointer (some ⟨mb,0,none⟩)] w fun e w'=>Bq β O T mb w (Bw m c []) e w':=by
 have hba:=bQ w (.cells #[.pointer (some ⟨b,0,none⟩)] 91);have HE:=au (zX b n c (.pointer none) [] (h.below hba) (hb.keep (Kv.aI hba)) .nil hcl hbl);clear h hb;go_enter func220,ntmps220;go_wp2_with fail
 refine(HE.o).mono ?_;intro e w2 hD;have hk:=Bq.shift (Kv.aI (O:=O) hba) hD;cases hr:Bw m c [] with
 | on m' =>
  rw[hr] at hk;obtain⟨rfl,H⟩:=hk;have HR:=au hr;clear hr hD;go_wp2_with fail
  go_ret;rw[HR.o];exact⟨rfl,H⟩
 | err k =>
  rw[hr] at hk;obtain⟨rfl,H⟩:=hk;have HR:=au hr;clear hr hD;go_wp2_with fail
  go_ret;rw[HR.o];exact⟨rfl,H⟩
 | fin v=>rw[hr] at hk;exact hk.elim
 | bad=>rw[hr] at hk;exact hk.elim
theorem zY(b n:Nat)(c:List St)(h:fE β w O T mb m)(hb:Bl β w O T b n c)(hl:m.fr.vs.length<1073741823) :
  Calls prog 237 #[.agg #[.pointer (some ⟨b,0,none⟩)],.pointer (some ⟨mb,0,none⟩)] w fun e w'=>Bq β O T mb w (.on { m with fr:={ m.fr with vs:=m.fr.vs++[.fn (.c n c) m.fr.env] } }) e w':=by
 have hba:=bQ w (.cells #[.pointer (some ⟨b,0,none⟩)] 237);have hbx:(w.alloc (.cells #[.pointer (some ⟨b,0,none⟩)] 237)).heap[w.heap.size]?=some (.cells #[.pointer (some ⟨b,0,none⟩)] 237 (0,0)):=aB w _;have hno:∀ q,w.heap.size≤q→¬ O q:=fun q hq=>h.new hq
 obtain⟨cs,sv,nv,ev,vv,bv,bc,ro,hx⟩:=h.below hba;have c2:=hx.cell hx.c2;have x0:=ai (w.alloc (.cells #[.pointer (some ⟨b,0,none⟩)] 237)) _ 0 _ _ _ hbx;obtain⟨pe,hev⟩:=hx.fr.en.ptr;have yU:=au hx.fr.en;have HM:Hid (fE β (w.alloc (.cells #[.pointer (some ⟨b,0,none⟩)] 237)) O T mb m):=h.below hba;have HB:=au (hb.keep (Kv.aI (O:=O) hba));have hml:=hx.lt;have HA:=au hba;have HN:=au hno;subst hev;clear h hb hx hbx hba hno;go_enter func237,ntmps237;go_wp2_with fail
 generalize hw1:w.alloc (.cells #[.pointer (some ⟨b,0,none⟩)] 237)=w1 at *;have hsz1:w.heap.size+1=w1.heap.size:=by rw[← hw1];simp
 refine bH (S:=fun w'=>w'.cell? ⟨w.heap.size,0,none⟩=some (.pointer (some ⟨b,0,none⟩))∧w'.cell? ⟨mb,2,none⟩=some (.pointer pe)) (z:=11) (by kernel_rfl) ?_;have hS:w1.drew.cell? ⟨w.heap.size,0,none⟩=some (.pointer (some ⟨b,0,none⟩))∧w1.drew.cell? ⟨mb,2,none⟩=some (.pointer pe):=⟨x0,c2⟩;iterate 9(refine lS hS ?_;simp only[Act.put,ax,aD,aF])
 refine bD 9 fun K hK=>?_;go_simp;refine hK.o _ _ (fun _=>by first|go_keep|(dsimp only;go_keep)) (fun hS2=>?_);clear hS hK K;have hS:=hS2 (by decide);clear hS2;refine bD 10 fun K hK=>?_;go_simp;refine hK.o _ _ (fun _=>hS) (fun _=>?_);clear hK K;refine bD 11 fun K hK=>?_;have hB2:Below w1.heap.size w1 (w1.drew.alloc (.cells #[.pointer (some ⟨b,0,none⟩),.pointer pe] 297)):=((Below.refl _ w1).drew).alloc (Nat.le_refl _) _;have KT:Kv β O O w1 (w1.drew.alloc (.cells #[.pointer (some ⟨b,0,none⟩),.pointer pe] 297)):=Kv.aI hB2;have hfn:(w1.drew.alloc (.cells #[.pointer (some ⟨b,0,none⟩),.pointer pe] 297)).heap[w1.heap.size]?=some (.cells #[.pointer (some ⟨b,0,none⟩),.pointer pe] 297 (0,0)):=heap_alloc_new w1.drew _;have HP:=au (mY (.iface 295 (.pointer (some ⟨w1.heap.size,0,none⟩))) (.fn (.c n c) m.fr.env) ((HM.o).below hB2) (.fn w1.heap.size b (.pointer pe) (.c n c) m.fr.env hfn ((HN.o) _ (by omega)) ((HB.o).keep KT) ((yU.o).keep KT)) hl);have mZ:=au KT;clear KT hfn hB2 hS x0 c2;go_simp;refine(HP.o).mono ?_;rintro e w3 ⟨rfl,H3⟩;dsimp only;refine hK.o _ _ (fun h=>absurd rfl h) (fun _=>fB ?_);clear hK K;go_wp2_with fail
 go_ret;obtain⟨O',k1,k2⟩:=H3.o;exact⟨rfl,O',((Kv.aI HA.o).trans mZ.o).trans k1,k2⟩
end
end
section
open E (St Bo V Fr Ms Rs)
variable{β:Nat}
section
variable{w w':World}{O:Nat→Prop}{T:Int × Int→Nat}{mb:Nat}{m:Ms}
theorem qI.o{a:Value}{l:List V}{env:List (List V)}(h:qI β w O T a (l::env)):∃ eb a',a=.pointer (some ⟨eb,0,none⟩)∧w.cell? ⟨eb,1,none⟩=some a'∧qI β w O T a' env:=by
 cases h with
 | cons eb ao cap l vs a' env hh ho hc hr hp he=>exact⟨eb,a',rfl,ai w _ 1 _ _ _ hh,he⟩
theorem Ea(up ix:Nat)(b:List V)(x:V)(h:fE β w O T mb m)(h1:m.fr.env[up]?=some b)(h2:b[ix]?=some x)(hl:m.fr.vs.length<1073741823)(hup:up≤1073741824) :
  Calls prog 259 #[.agg #[.int .i64 up,.int .i64 ix],.pointer (some ⟨mb,0,none⟩)] w fun e w'=>Bq β O T mb w (.on { m with fr:={ m.fr with vs:=m.fr.vs++[x] } }) e w':=by
 have hba:=bQ w (.cells #[.int .i64 up,.int .i64 ix] 293);have hbx:(w.alloc (.cells #[.int .i64 up,.int .i64 ix] 293)).heap[w.heap.size]?=some (.cells #[.int .i64 up,.int .i64 ix] 293 (0,0)):=aB w _;obtain⟨cs,sv,nv,ev,vv,bv,bc,ro,hx⟩:=h.below hba;have c2:=hx.cell hx.c2;have x0:=ai (w.alloc (.cells #[.int .i64 up,.int .i64 ix] 293)) _ 0 _ _ _ hbx;have x1:=ai (w.alloc (.cells #[.int .i64 up,.int .i64 ix] 293)) _ 1 _ _ _ hbx;have HM:Hid (fE β (w.alloc (.cells #[.int .i64 up,.int .i64 ix] 293)) O T mb m):=h.below hba;have yU:=au hx.fr.en;have hlt:up<m.fr.env.length:=(dP.1 h1).1;have HA:=au hba;have Un:=au h1;have bA2:ix<b.length:=(dP.1 h2).1;have HE2:=au h2;clear h hx hbx hba h1 h2;go_enter func259,ntmps259;go_wp2_with fail
 generalize hw1:w.alloc (.cells #[.int .i64 up,.int .i64 ix] 293)=w1 at *;go_loopw [5,13] (fun av iv wr=>∃ i:Nat,iv=.int .i64 i∧i≤up∧wr=w1∧Hid (qI β w1 O T av (m.fr.env.drop i))) (fun _ iv _=>up - (intOf iv).toNat)
 case atStart=>exact⟨0,rfl,aX _,rfl,yU⟩
 case round =>
  obtain⟨i,rfl,hi,rfl,HI⟩:=hrel;by_cases hlt2:i<up
  case pos =>
   have i1:decide (i<up)=true:=by simp;omega
   have i2:decide ((i:Int)<(up:Int))=true:=by simp;omega
   obtain⟨l,hd⟩:∃ l,m.fr.env.drop i=l::m.fr.env.drop (i+1):=⟨m.fr.env[i],bP (by omega)⟩;have hI:=HI.o;rw[hd] at hI;obtain⟨eb,a',rfl,e1,hI2⟩:=hI.o;have HI2:=au hI2;clear hI hI2 hd HI;go_wp2_with fail
   exact⟨⟨i+1,by go_num,by omega,trivial,HI2⟩,by simp only[intOf];omega⟩
  case neg =>
   obtain rfl:i=up:=by omega
   have i1:decide (i<i)=false:=by simp
   have i2:decide ((i:Int)<(i:Int))=false:=by simp
   have hI:=HI.o;have hd:m.fr.env.drop i=b::m.fr.env.drop (i+1):=by
    rw[bP hlt];congr 1;have:=Un.o;rw[aC hlt] at this;exact bK this
   rw[hd] at hI;cases hI with
   | cons eb ao cap l vs a' env hh ho hc hr hp he =>
    obtain⟨g,cc,ff,rfl,hgo,hgh,hgc⟩:=hr ix bA2;have hvx:=hp ix x HE2.o;have e0:=ai wr _ 0 _ _ _ hh;have j0:(0:Int)≤(ix:Int):=bU _;have j1:(ix:Int)<(b.length:Int):=by omega
    generalize hbl:b.length=bl at *;generalize hvi:vs ix=u at *;have hut:∃ ty y,u=.iface ty y:=by cases hvx<;>exact⟨_,_,rfl⟩
    have HVX:=au hvx;obtain⟨ty,y,rfl⟩:=hut;have HHH:=au hh;have HGH:=au hgh;clear hh hr hp he hc hd hvx HI hgh;go_wp2_with fail
    refine bH (S:=fun w'=>w'.cell? ⟨w.heap.size,1,none⟩=some (.int .i64 ix)∧w'.cell? ⟨eb,0,none⟩=some (.slice (some ⟨g,0,none⟩) bl cap)∧w'.cell? ⟨g,ix,none⟩=some (.iface ty y)) (z:=9) (by kernel_rfl) ?_;have hS:wr.drew.cell? ⟨w.heap.size,1,none⟩=some (.int .i64 ix)∧wr.drew.cell? ⟨eb,0,none⟩=some (.slice (some ⟨g,0,none⟩) bl cap)∧wr.drew.cell? ⟨g,ix,none⟩=some (.iface ty y):=⟨x1,e0,hgc⟩;iterate 9(refine lS hS ?_;simp only[Act.put,ax,aD,aF])
    refine bD 9 fun K hK=>?_;have hB2:Below wr.heap.size wr wr.drew:=(Below.refl _ wr).drew;have KT:Kv β O O wr wr.drew:=Kv.aI hB2;have HP:=au (mY (.iface ty y) x ((HM.o).below hB2) ((HVX.o).keep KT) hl);have mZ:=au KT;clear KT hB2 hS x0 x1 c2 e0 hgc;go_simp;refine(HP.o).mono ?_;rintro e w3 ⟨rfl,H3⟩;dsimp only;refine hK.o _ _ (fun h=>absurd rfl h) (fun _=>fB ?_);clear hK K;go_wp2_with fail
    go_ret;obtain⟨O',k1,k2⟩:=H3.o;exact⟨rfl,O',((Kv.aI HA.o).trans mZ.o).trans k1,k2⟩
end
end
section
open E (St Bo V Fr Ms Rs)
variable{β:Nat}
section
variable{w w':World}{O:Nat→Prop}{T:Int × Int→Nat}{mb:Nat}{m:Ms}
theorem FL(l:List V)(x:V)(h:fE β w O T mb m)(hv:m.fr.vs=l++[x])(hl:m.fr.vs.length<1073741823) :
  Calls prog 260 #[.agg #[],.pointer (some ⟨mb,0,none⟩)] w fun e w'=>Bq β O T mb w (.on { m with fr:={ m.fr with vs:=l,env:=[x]::m.fr.env } }) e w':=by
 have hba:=bQ w (.cells #[] 300);have hno:∀ q,w.heap.size≤q→¬ O q:=fun q hq=>h.new hq
 have h1:=h.below hba;obtain⟨cs,sv,nv,ev,vv,bv,bc,ro,hx⟩:=h1;have c2:=hx.cell hx.c2;obtain⟨pe,hev⟩:=hx.fr.en.ptr;have yU:=au hx.fr.en;have HM:Hid (fE β (w.alloc (.cells #[] 300)) O T mb m):=h.below hba;have hml:=hx.lt;have HA:=au hba;have HV:=au hv;subst hev;clear h hx hba hno hv;go_enter func260,ntmps260;go_wp2_with fail
 generalize hw1:w.alloc (.cells #[] 300)=w1 at *;refine bH (S:=fun w'=>w'.cell? ⟨mb,2,none⟩=some (.pointer pe)) (z:=13) (by kernel_rfl) ?_;have hS:w1.drew.cell? ⟨mb,2,none⟩=some (.pointer pe):=c2;iterate 2(refine lS hS ?_;simp only[Act.put,ax,aD,aF])
 refine j5 3 hS ?_;simp only[Act.put,List.setIfInBounds_toArray,List.set_cons_zero,List.set_cons_succ];refine j5 4 hS ?_;simp only[Act.put,List.setIfInBounds_toArray,List.set_cons_zero,List.set_cons_succ];refine j5 5 hS ?_;simp only[Act.put,List.setIfInBounds_toArray,List.set_cons_zero,List.set_cons_succ];refine j5 6 hS ?_;simp only[Act.put,List.setIfInBounds_toArray,List.set_cons_zero,List.set_cons_succ];refine j5 7 hS ?_;simp only[Act.put,List.setIfInBounds_toArray,List.set_cons_zero,List.set_cons_succ];have hB2:Below w1.heap.size w1 w1.drew:=(Below.refl _ w1).drew;have HT:=au (xu l [x] 1 ((HM.o).below hB2) HV.o rfl hl);refine bD 2 fun K hK=>?_;go_simp;refine(HT.o).mono ?_;rintro e w3 ⟨r,rfl,H3⟩;obtain⟨O3,k1,k2,k3,k4⟩:=H3.o;have PY:w3.cell? ⟨mb,2,none⟩=some (.pointer pe):=k4.trans hS;dsimp only;refine hK.o _ _ (fun _=>PY) (fun _=>?_);clear hK K hS c2 HT H3 k4;obtain⟨ao,cap,vs,rfl,q1,q2,q3,q4⟩:=k3.ex;have wP:Hid (Kv β O O3 w1 w3):=(Kv.aI hB2).trans k1;have wW:=au k2;have WW:=au q3;have HQ4:=au q4;have HE3:=au ((yU.o).keep ((Kv.aI hB2).trans k1));obtain⟨cs3,sv3,nv3,ev3,vv3,bv3,bc3,ro3,hx3⟩:=k2;have f2:=hx3.vB 2;have aJ7:=hx3.lt;clear k1 k3 q3 q4 hx3;refine bD 8 fun K hK=>?_;go_simp;refine hK.o _ _ (fun _=>PY) (fun _=>?_);clear hK K;refine bD 9 fun K hK=>?_;go_simp;refine hK.o _ _ (fun _=>by first|go_keep|(dsimp only;go_keep)) (fun hS2=>?_);clear PY hK K;have hS:=hS2 (by decide);clear hS2;refine bD 10 fun K hK=>?_;go_simp;refine hK.o _ _ (fun _=>hS) (fun _=>?_);clear hK K;refine bD 11 fun K hK=>?_;go_simp;refine hK.o _ _ (fun _=>hS) (fun _=>?_);clear hK K;refine bD 12 fun K hK=>?_;go_simp;refine hK.o _ _ (fun _=>hS) (fun _=>?_);clear hK K;have f2':(w3.alloc (.cells #[.slice ao 1 cap,.pointer pe] 393)).frozen? ⟨mb,2,none⟩=false:=(World.frozen?_alloc_old _ _ ⟨mb,2,none⟩ (Nat.ne_of_lt aJ7)).trans f2;refine bD 13 fun K hK=>?_;go_simp;refine hK.o _ _ (fun h=>absurd rfl h) (fun _=>fB ?_);clear hK K hS;go_wp2_with fail
 go_ret;have hB3:Below w3.heap.size w3 (w3.alloc (.cells #[.slice ao 1 cap,.pointer pe] 393)):=bQ w3 _;have kv3:Kv β O3 O3 w3 (w3.alloc (.cells #[.slice ao 1 cap,.pointer pe] 393)):=Kv.aI hB3;obtain⟨cs4,sv4,nv4,ev4,vv4,bv4,bc4,ro4,hx4⟩:=(wW.o).below hB3;have hnew:¬ O3 w3.heap.size:=(wW.o).new (aj _);obtain⟨O',k5,k6⟩:=hx4.PN (.pointer (some ⟨w3.heap.size,0,none⟩)) ([x]::m.fr.env) (.cons w3.heap.size ao cap [x] vs (.pointer pe) m.fr.env (aB w3 _) hnew ⟨q1,q2⟩ ((WW.o).keep kv3 (by decide)) (fun j y hy=>((HQ4.o) j y hy).keep kv3) ((HE3.o).keep kv3));rw[yN _ _ _ _ aJ7] at k5 k6;exact⟨rfl,O',(((Kv.aI HA.o).trans wP.o).trans kv3).trans k5,k6⟩
end
end
section
open E (St Bo V Fr Ms Rs)
variable{β:Nat}
section
variable{w w':World}{O:Nat→Prop}{T:Int × Int→Nat}{mb:Nat}{m:Ms}
def PZ(D:Int × Int→Nat × List St)(m:Ms)(l xs:List V):V→Rs
 | .fn b en=>if (E.g_ D b).1=xs.length then Bw { m with fr:={ m.fr with vs:=l } } (E.g_ D b).2 (xs::en) else .err 10
 | _=>.err 10
theorem FM(D:Int × Int→Nat × List St)(l:List V)(u:V)(xs:List V)(n:Nat)(h:fE β w O T mb m)(hv:m.fr.vs=l++[u]++xs)(hn:xs.length=n)(hl:m.fr.vs.length<1073741823)(hct:CT β w O T D)(hz:∀ b en,u=.fn b en→(E.g_ D b).1=n→(E.g_ D b).2.length≤1073741824∧m.bk.length<1073741823) :
  Calls prog 251 #[.agg #[.int .i64 n],.pointer (some ⟨mb,0,none⟩)] w fun e w'=>Bq β O T mb w (PZ D m l xs u) e w':=by
 have hba:=bQ w (.cells #[.int .i64 n] 249);have HT:=au (xu (l++[u]) xs n (h.below hba) hv hn hl);have hll:l.length<1073741823:=by rw[hv,ak,ak] at hl;omega
 have HA:=au hba;have HC:=au hct;have HZ:=au hz;have HN:=au hn;clear h hv hl hba hct hz hn;go_enter func251,ntmps251;go_wp2_with fail
 refine(HT.o).mono ?_;rintro e w2 ⟨r,rfl,H2⟩;obtain⟨O2,k1,k2,k3,-⟩:=H2.o;have HP:=au (qJ l u k2 rfl hll);obtain⟨ao,cap,vs,rfl,q1,q2,q3,q4⟩:=k3.ex;have mZ:Hid (Kv β O O2 w w2):=(Kv.aI HA.o).trans k1;have HR2:=au k3;have hxn:xs.length=n:=HN.o;rw[hxn];clear H2 k1 k2 k3 q3 q4 HT hxn;go_wp2_with fail
 refine(HP.o).mono ?_;rintro e w4 ⟨v,rfl,H4⟩;obtain⟨O4,k4,k5,k6⟩:=H4.o;have rY:Hid (Kv β O O4 w w4):=(mZ.o).trans k4;have wW:=au k5;have HR4:=au ((HR2.o).keep k4);have Fh:=au ((HC.o).keep ((mZ.o).trans k4));clear H4 k4 k5 HP;cases k6 with
 | int i hi =>
  have hA:=Ye i;clear wW;go_wp2_with fail
  go_ret;exact⟨rfl,by decide,O4,rY.o⟩
 | mH b =>
  have hA:=Yh b;clear wW;go_wp2_with fail
  go_ret;exact⟨rfl,by decide,O4,rY.o⟩
 | txt b x hw =>
  clear hw;have hA:=Yj b;clear wW;go_wp2_with fail
  go_ret;exact⟨rfl,by decide,O4,rY.o⟩
 | list KU cap2 l2 vs2 hc hr hp =>
  clear hr hp;have hA:=Yk KU l2.length cap2;clear wW;go_wp2_with fail
  go_ret;exact⟨rfl,by decide,O4,rY.o⟩
 | fn fb bb a b en hh ho hb he =>
  have hbd:=hb.bd Fh.o;obtain⟨bv,hbb,hcd⟩:=hbd.ex;have hA:=aJ2 fb;have y0:=ai w4 _ 0 _ _ _ hh;have y1:=ai w4 _ 1 _ _ _ hh;have z0:=ai w4 _ 0 _ _ _ hbb;have hfl:=aP hh;obtain⟨pe,rfl⟩:=he.ptr;have HBD:=au hbd;have HEN:=au he;have HH:=au hh;have HO:=au ho;clear hbd hcd hbb he hh ho hb;by_cases hnn:(E.g_ D b).1=n
  case neg =>
   have HRR:Hid (PZ D m l xs (.fn b en)=.err 10):=aG (by rw[HN.o];exact hnn);have p1:(((E.g_ D b).1:Int) !=(n:Int))=true:=by simp;omega
   generalize (E.g_ D b).1=nb at *;clear hnn;go_wp2_with fail
   go_ret;rw[HRR.o];exact⟨rfl,by decide,O4,rY.o⟩
  case pos =>
   have HRR:Hid (PZ D m l xs (.fn b en)=Bw { m with fr:={ m.fr with vs:=l } } (E.g_ D b).2 (xs::en)):=aL (by rw[HN.o];exact hnn);have p1:(((E.g_ D b).1:Int) !=(n:Int))=false:=by simp;omega
   have Z6:=au hnn;have HZ2:=au ((HZ.o) b en rfl hnn);generalize hnb:(E.g_ D b).1=nb at *;clear hnn;go_wp2_with fail
   refine bH (S:=fun w'=>w'.cell? ⟨fb,0,none⟩=some (.pointer (some ⟨bb,0,none⟩))∧w'.cell? ⟨fb,1,none⟩=some (.pointer pe)) (z:=12) (by kernel_rfl) ?_;have hS:w4.drew.cell? ⟨fb,0,none⟩=some (.pointer (some ⟨bb,0,none⟩))∧w4.drew.cell? ⟨fb,1,none⟩=some (.pointer pe):=⟨y0,y1⟩;iterate 11(refine lS hS ?_;simp only[Act.put,ax,aD,aF])
   refine bD 11 fun K hK=>?_;go_simp;refine hK.o _ _ (fun _=>by first|go_keep|(dsimp only;go_keep)) (fun hS2=>?_);clear hS hK K;have hS:=hS2 (by decide);clear hS2;have EM:Below w4.heap.size w4 (w4.drew.alloc (.cells #[.slice ao n cap,.pointer pe] 393)):=((Below.refl _ w4).drew).alloc (Nat.le_refl _) _;have kv5:Kv β O4 O4 w4 (w4.drew.alloc (.cells #[.slice ao n cap,.pointer pe] 393)):=Kv.aI EM;have hblk:(w4.drew.alloc (.cells #[.slice ao n cap,.pointer pe] 393)).heap[w4.heap.size]?=some (.cells #[.slice ao n cap,.pointer pe] 393 (0,0)):=heap_alloc_new w4.drew _;have hen:qI β (w4.drew.alloc (.cells #[.slice ao n cap,.pointer pe] 393)) O4 T (.pointer (some ⟨w4.heap.size,0,none⟩)) (xs::en):=by
    obtain⟨ao',cap',vs',e1,r1,r2,r3,r4⟩:=((HR4.o).keep kv5).ex;injection e1 with e1 e2 e3;subst e1 e3;exact .cons w4.heap.size ao cap xs vs' (.pointer pe) en (by rw[HN.o];exact hblk) ((wW.o).new (aj _)) ⟨r1,r2⟩ r3 r4 ((HEN.o).keep kv5)
   have HE:=au (zX bb nb (E.g_ D b).2 (.pointer (some ⟨w4.heap.size,0,none⟩)) (xs::en) ((wW.o).below EM) ((HBD.o).keep kv5) hen (HZ2.o).1 (HZ2.o).2);have HK5:=au kv5;have HF5:=au (kv5.heap HH.o HO.o (by decide));refine bD 12 fun K hK=>?_;clear hblk hen EM kv5;go_simp;refine(HE.o).mono ?_;intro e w6 hD;have hk:=Bq.shift ((rY.o).trans HK5.o) hD;have hS6:∀ O6,Kv β O4 O6 (w4.drew.alloc (.cells #[.slice ao n cap,.pointer pe] 393)) w6→w6.cell? ⟨fb,0,none⟩=some (.pointer (some ⟨bb,0,none⟩))∧w6.cell? ⟨fb,1,none⟩=some (.pointer pe):=fun O6 k=>⟨k.cell HF5.o HO.o (by decide) hS.1,k.cell HF5.o HO.o (by decide) hS.2⟩
   rw[← HRR.o] at hk;cases hr:Bw { m with fr:={ m.fr with vs:=l } } (E.g_ D b).2 (xs::en) with
   | on m' =>
    rw[hr] at hD;obtain⟨rfl,HD⟩:=hD;obtain⟨O6,k7,-⟩:=HD.o;have hSS:=hS6 O6 k7;have HKK:=au hk;clear hk HD k7 hr hS6 hS;dsimp only;refine hK.o _ _ (fun h=>absurd rfl h) (fun _=>?_);clear hK K;refine bD 13 fun K hK=>?_;go_simp;refine hK.o _ _ (fun _=>hSS) (fun _=>fB ?_);clear hK K hSS;go_wp2_with fail
    go_ret;exact HKK.o
   | err k =>
    rw[hr] at hD;obtain⟨rfl,HD⟩:=hD;obtain⟨-,O6,k7⟩:=HD.o;have hSS:=hS6 O6 k7;have HKK:=au hk;clear hk HD k7 hr hS6 hS;dsimp only;refine hK.o _ _ (fun h=>absurd rfl h) (fun _=>?_);clear hK K;refine bD 13 fun K hK=>?_;go_simp;refine hK.o _ _ (fun _=>hSS) (fun _=>fB ?_);clear hK K hSS;go_wp2_with fail
    go_ret;exact HKK.o
   | fin v=>rw[hr] at hD;exact hD.elim
   | bad=>rw[hr] at hD;exact hD.elim
end
end
end Go.Proofs.YtdkpkpgpphkljaaGreatDoor
