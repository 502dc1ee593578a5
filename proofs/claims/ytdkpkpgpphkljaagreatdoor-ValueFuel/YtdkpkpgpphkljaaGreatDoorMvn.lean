/- Package value: another body is entered. -/
import Derived.Test.YtdkpkpgpphkljaaGreatDoorMvk
import Derived.Test.YtdkpkpgpphkljaaGreatDoorWzw
namespace Go.Proofs.YtdkpkpgpphkljaaGreatDoor
set_option maxRecDepth 100000
set_option maxHeartbeats 4000000
open Tryz
open Go.RowKit
open E (St Bo V Fr Ms Rs)
section
variable{β:Nat}
theorem UF:(prog.info? 82).map (fun i=>(i.zero,i.size,i.bytes))=some (some (.agg #[.slice none 0 0,.int .i64 0,.pointer none,.slice none 0 0]),4,64):=by kernel_rfl
section
variable{w w':World}{O:Nat→Prop}{T:Int × Int→Nat}{mb:Nat}{m:Ms}
theorem Mx.enter{cs:Array Value}{sv nv ev vv bv:Value}{bc:List Value}{ro:Nat→Value}(h:Mx β w O T mb m cs sv nv ev vv bv bc ro)(hk:Kp (fun q=>q=mb∨bv.ownBlock=some q) w w'){g cap:Nat}{EL a:Value}{c:List St}{env:List (List V)}{cs':Array Value}
  (hb:w'.heap[mb]?=some (.cells cs' 89 (0,0))) (hs:cs'.size=23) (e0:cs'[0]?=some EL) (e1:cs'[1]?=some (.int .i64 0)) (e2:cs'[2]?=some a) (e3:cs'[3]?=some (.slice none 0 0)) (e4:cs'[4]?=some (.slice (some ⟨g,0,none⟩) (m.bk.length+1) cap)) (e6:∀ i,5≤i→cs'[i]?=cs[i]?)
  (hrow:w'.ownsRow 0 82 4 (.slice (some ⟨g,0,none⟩) (m.bk.length+1) cap) (m.bk.length+1) (bc++[sv,nv,ev,vv])) (hat:bv.ownBlock=some g∨w.heap.size≤g)
  (hc:pV β w O T EL c) (he:qI β w O T a env) (hcl:c.length≤1073741824) (hbl:m.bk.length<1073741823) :
  ∃ O',Kv β O O' w w'∧fE β w' O' T mb ⟨⟨c,0,env,[]⟩,m.bk++[m.fr],m.fu⟩:=by
 have hO:∀ q,q<w.heap.size→(O q∧¬ bv.ownBlock=some q)∨q=g→O q:=fun q hq e=>by
  rcases e with e|rfl
  ·exact e.1
  ·rcases hat with e|e
   ·exact h.bo q e
   ·omega
 have kv:Kv β O (fun q=>(O q∧¬ bv.ownBlock=some q)∨q=g) w w':=Kv.PK (hk.mono (fun q _ e=>by
  rcases e with rfl|e
  ·exact h.mo
  ·exact h.bo q e)) (fun _ e=>h.wds e) hO
 have TG:¬ bv.ownBlock=some mb:=fun e=>by
  obtain⟨c2,h2⟩:=eX h.row e;exact d_ h2 h.blk (by decide)
 have hval:∀ {v:Value} {n:Nat} {xs:List Value},w.ownsRow 0 40 1 v n xs→∀ q,v.ownBlock=some q→¬(q=mb∨bv.ownBlock=some q):=fun hr q hq e=>by
  obtain⟨c2,h2⟩:=eX hr hq;rcases e with rfl|e
  ·exact d_ h2 h.blk (by decide)
  ·obtain⟨c3,h3⟩:=eX h.row e
   exact d_ h2 h3 (by decide)
 have stay:∀ {s n e v:Value} {f:Fr},xq β w O T s n e v f→xq β w' (fun q=>(O q∧¬ bv.ownBlock=some q)∨q=g) T s n e v f:=fun {s n e v f} hf=>by
  obtain⟨c',h1,-⟩:=hf.vs.ex;exact hf.stay hk kv (hval h1) (fun q hq=>.inl ⟨hf.vs.ow q hq,fun e=>hval h1 q hq (.inr e)⟩)
 have hbc:bc.length=m.bk.length*4:=h.row.1;refine⟨_,kv,cs',EL,_,a,_,_,bc++[sv,nv,ev,vv],fun j=>if j=m.bk.length then vv else ro j,⟨hb,hs,e0,e1,e2,e3,e4,by rw[e6 _ (aj _)];exact h.c5,fun i hi=>?_,?_,⟨hc.keep kv,rfl,he.keep kv,⟨⟨[],bY _ _ _ _,fun j x hj=>by simp at hj⟩,(fun q hq=>by cases hq)⟩,hcl,aX _⟩,by rw[ak];exact hrow,fun j f hf=>?_,.inl ⟨h.mo,TG⟩,fun q hq=>?_,fun q hq=>?_,(fun j q _ _ e=>by cases e),fun i j q hij hj hi e=>?_,h.fl,?_⟩⟩
 ·obtain⟨p,h1,h2⟩:=h.sh i hi
  refine⟨p,by rw[e6 _ (by omega)];exact h1,h2.keep kv (fun b cc hbc2=>hk.heap hbc2 (fun e=>?_))⟩;rcases e with rfl|e
  ·exact d_ hbc2 h.blk (by decide)
  ·obtain⟨c3,h3⟩:=eX h.row e
   exact d_ hbc2 h3 (by decide)
 ·obtain⟨k,h1,h2⟩:=h.sn
  exact⟨k,by rw[e6 _ (by omega)];exact h1,h2.1,h2.2.of (fun i hi=>e6 i (by omega))⟩
 ·rcases bE j m.bk.length with hj|hj
  ·rw[aU hj] at hf
   obtain⟨s,n,e,h1,h2,h3,h4,h5⟩:=h.WT j f hf;refine⟨s,n,e,?_,?_,?_,?_,?_⟩
   ·rw[aU (by omega)];exact h1
   ·rw[aU (by omega)];exact h2
   ·rw[aU (by omega)];exact h3
   ·rw[aU (by omega),aG (by omega)];exact h4
   ·rw[aG (by omega)];exact stay h5
  ·rw[aQ hj] at hf
   have h0:j - m.bk.length=0:=by
    rcases gF (j - m.bk.length) with q|q
    ·exact q
    ·rw[aO (by simp;omega)] at hf;cases hf
   rw[h0] at hf;have hf':f=m.fr:=by simpa using hf.symm
   have hj':j=m.bk.length:=by omega
   subst hf' hj';refine⟨sv,nv,ev,?_,?_,?_,?_,?_⟩
   ·rw[aQ (by omega),show m.bk.length*4 - bc.length=0 by omega];rfl
   ·rw[aQ (by omega),show m.bk.length*4+1 - bc.length=1 by omega];rfl
   ·rw[aQ (by omega),show m.bk.length*4+2 - bc.length=2 by omega];rfl
   ·rw[aQ (by omega),show m.bk.length*4+3 - bc.length=3 by omega,aL rfl];rfl
   ·rw[aL rfl];exact stay h.fr
 ·cases hq;exact .inr rfl
 ·rcases hq with ⟨hq,hn⟩|rfl
  ·obtain⟨cc,t,f,h1,h2⟩:=h.on q hq
   by_cases hm:q=mb
   ·subst hm
    exact⟨cs',_,_,hb,.inl rfl⟩
   ·exact⟨cc,t,f,hk.heap h1 (fun e=>by rcases e with e|e;exact hm e;exact hn e),h2⟩
  ·obtain⟨c2,h2⟩:=eX hrow (g:=q) rfl
   exact⟨c2,_,_,h2,.inr (.inr rfl)⟩
 ·have hj2:j<m.bk.length+1:=by simpa using hj
  rw[aG (by omega)] at hi;by_cases hjn:j=m.bk.length
  ·rw[aL hjn] at e
   exact h.d1 i q (by omega) hi e
  ·rw[aG hjn] at e
   exact h.d2 i j q hij (by omega) hi e
 ·rw[ak];show m.bk.length+1≤_;omega
end
end
section
variable{β:Nat}
section
variable{w w':World}{O:Nat→Prop}{T:Int × Int→Nat}{mb:Nat}{m:Ms}
theorem qI.ptr{a:Value}{env:List (List V)}(h:qI β w O T a env):∃ p,a=.pointer p:=by cases h<;>exact⟨_,rfl⟩
theorem zW{b:Nat}{e:TypeId}{k:Nat}{v:Value}{n:Nat}{xs:List Value}(h:w.ownsRow b e k v n xs):∃ ao cap,v=.slice ao n cap:=by
 rcases h.2 with ⟨e1,e2⟩|⟨g,cap,cur,e1,-⟩
 ·exact⟨none,0,by rw[e1,e2]⟩
 ·exact⟨_,_,e1⟩
theorem vC{W:World}{b:Nat}{vs:Array Value}{ty:TypeId}(h:W.heap[b]?=some (.cells vs ty (0,0)))(k:Nat)(v:Value):(W.setCell ⟨b,k,none⟩ v).heap[b]?=some (.cells (vs.setIfInBounds k v) ty (0,0)):=by simp[World.setCell,aK,h]
def Bw(m:Ms)(c:List St)(env:List (List V)):Rs:=if m.fu=0 then .err 11 else .on ⟨⟨c,0,env,[]⟩,m.bk++[m.fr],m.fu - 1⟩
theorem zX(b n:Nat)(c:List St)(a:Value)(env:List (List V))(h:fE β w O T mb m)(hb:Bl β w O T b n c)(he:qI β w O T a env)(hcl:c.length≤1073741824)(hbl:m.bk.length<1073741823) :
  Calls prog 221 #[.pointer (some ⟨mb,0,none⟩),.pointer (some ⟨b,0,none⟩),a] w fun e w'=>Bq β O T mb w (Bw m c env) e w':=by
 obtain⟨i0,hi0,hz0,hz1,hz2⟩:=gB UF;have HB:=au (Ci h);have HBd:=au hb;have yU:=au he;obtain⟨pa,rfl⟩:=he.ptr;clear h hb he;go_enter func221,ntmps221;go_wp2_with fail
 refine(HB.o).mono ?_;rintro e w2 (⟨h0,rfl,rfl⟩|⟨h0,rfl,H2⟩)
 ·have HRR:Hid (Bw m c env=.err 11):=aL h0
  clear h0;go_wp2_with fail
  go_ret;rw[HRR.o];exact⟨rfl,by decide,O,Kv.refl _ _⟩
 ·have HRR:Hid (Bw m c env=.on ⟨⟨c,0,env,[]⟩,m.bk++[m.fr],m.fu - 1⟩):=aG h0
  clear h0;obtain⟨O2,k1,k2⟩:=H2.o;obtain⟨cs,sv,nv,ev,vv,bv,bc,ro,hx⟩:=k2;have aJ4:=(HBd.o).keep k1;have aJ5:=(yU.o).keep k1;obtain⟨bsv,hbb,hcd⟩:=aJ4.ex;have b1:=ai w2 _ 1 _ _ _ hbb;have aW4:=aP hbb;obtain⟨ba1,FE,bvs,aZ7,-⟩:=hcd.ex;obtain⟨sa,FH,svs,hsv,-⟩:=hx.fr.cd.ex;have Ui:=hx.fr.nx;obtain⟨pe,hev⟩:=hx.fr.en.ptr;obtain⟨vc,FI,-⟩:=hx.fr.vs.ex;obtain⟨va,FJ,hvv⟩:=zW FI;have c0:=hx.cell hx.c0;have c1:=hx.cell hx.c1;have c2:=hx.cell hx.c2;have c3:=hx.cell hx.c3;have c4:=hx.cell hx.c4;have f0:=hx.vB 0;have f1:=hx.vB 1;have f2:=hx.vB 2;have f3:=hx.vB 3;have f4:=hx.vB 4;have hml:=hx.lt;have hmv:∀ g,bv.ownBlock=some g→g≠mb:=fun g hg e=>by
   subst e;obtain⟨c2,h2⟩:=eX hx.row hg;exact d_ h2 hx.blk (by decide)
  have Ii:∀ g,bv.ownBlock=some g→g≠b:=fun g hg e=>by
   subst e;obtain⟨c2,h2⟩:=eX hx.row hg;exact d_ h2 hbb (by decide)
  have TG:b≠mb:=fun e=>by subst e;exact d_ hbb hx.blk (by decide)
  have HX:=au hx;have HCD:=au hcd;have HE2:=au aJ5;have wP:=au k1;have Yl:=au hx.row;have HG:=au hmv;have HGo:=au Ii;have HBB:=au hbb;subst aZ7;rw[hsv] at c0;rw[Ui] at c1;rw[hev] at c2;rw[hvv] at c3;have HSV:=au hsv;have HNV:=au Ui;have Uk:=au hev;have HVV:=au hvv;clear hx hcd aJ5 k1 H2 aJ4 FI hmv Ii hbb hsv Ui hev hvv HB;generalize hnx:m.fr.nx=nx at *;generalize hsl:m.fr.c.length=sl at *;generalize hvl:m.fr.vs.length=vl at *;generalize hkl:m.bk.length=kl at *;go_wp2_with fail
  refine bH (S:=fun w'=>w'.cell? ⟨mb,0,none⟩=some (.slice sa sl FH)∧w'.cell? ⟨mb,1,none⟩=some (.int .i64 nx)∧w'.cell? ⟨mb,2,none⟩=some (.pointer pe)∧w'.cell? ⟨mb,3,none⟩=some (.slice va vl FJ)∧w'.cell? ⟨mb,4,none⟩=some bv) (z:=13) (by kernel_rfl) ?_;have hS:w2.drew.cell? ⟨mb,0,none⟩=some (.slice sa sl FH)∧w2.drew.cell? ⟨mb,1,none⟩=some (.int .i64 nx)∧w2.drew.cell? ⟨mb,2,none⟩=some (.pointer pe)∧w2.drew.cell? ⟨mb,3,none⟩=some (.slice va vl FJ)∧w2.drew.cell? ⟨mb,4,none⟩=some bv:=⟨c0,c1,c2,c3,c4⟩;iterate 9(refine qD hS ?_;simp only[Act.put,ax,aD,aF])
  refine bD 9 fun K hK=>?_;go_simp;refine hK.o _ _ (fun _=>by first|go_keep|(dsimp only;go_keep)) (fun hS2=>?_);clear hS hK K;have hS:=hS2 (by decide);clear hS2;refine bD 10 fun K hK=>?_;refine step_append_lies _ (by rfl) _ _ _ (by rfl) 0 82 i0 _ 4 64 underlying83 hi0 hz0 hz1 hz2 rfl (by omega) bv kl _ (by rfl) (((Yl.o:w2.ownsRow _ _ _ _ _ _).drew).alloc _)
   ⟨w2.heap.size,0,none⟩ 1 1 [.slice sa sl FH,.int .i64 nx,.pointer pe,.slice va vl FJ] (by rfl) (by rfl) (World.news_of_block (cs:=#[.slice sa sl FH,.int .i64 nx,.pointer pe,.slice va vl FJ]) (t:=82) (fr:=(0,0)) (aB w2.drew _)) (by simp[Value.oneCell'])
   (by omega) (by unfold maxLen;omega) (by omega) (aX _) (w2.heap.size+1) (by simp) ?_
  intro g cap5 w5 hown5 cB nW A9;have hwn:some mb≠bv.ownBlock:=fun e=>(HG.o) mb e.symm rfl
  have hwb:some b≠bv.ownBlock:=fun e=>(HGo.o) b e.symm rfl
  have y0:=(cB.cell_far ⟨mb,0,none⟩ (by simp;omega) hwn).trans hS.1;have y1:=(cB.cell_far ⟨mb,1,none⟩ (by simp;omega) hwn).trans hS.2.1;have y2:=(cB.cell_far ⟨mb,2,none⟩ (by simp;omega) hwn).trans hS.2.2.1;have y3:=(cB.cell_far ⟨mb,3,none⟩ (by simp;omega) hwn).trans hS.2.2.2.1;have y4:w5.cell? ⟨mb,4,none⟩=some bv:=(cB.cell_far ⟨mb,4,none⟩ (by simp;omega) hwn).trans hS.2.2.2.2;have x0:w5.frozen? ⟨mb,0,none⟩=false:=(cB.frozen_far ⟨mb,0,none⟩ (by simp;omega) hwn).trans ((bN _ _ ⟨mb,0,none⟩ (by simp;omega)).trans f0);have x1:w5.frozen? ⟨mb,1,none⟩=false:=(cB.frozen_far ⟨mb,1,none⟩ (by simp;omega) hwn).trans ((bN _ _ ⟨mb,1,none⟩ (by simp;omega)).trans f1);have x2:w5.frozen? ⟨mb,2,none⟩=false:=(cB.frozen_far ⟨mb,2,none⟩ (by simp;omega) hwn).trans ((bN _ _ ⟨mb,2,none⟩ (by simp;omega)).trans f2);have x3:w5.frozen? ⟨mb,3,none⟩=false:=(cB.frozen_far ⟨mb,3,none⟩ (by simp;omega) hwn).trans ((bN _ _ ⟨mb,3,none⟩ (by simp;omega)).trans f3);have x4:w5.frozen? ⟨mb,4,none⟩=false:=(cB.frozen_far ⟨mb,4,none⟩ (by simp;omega) hwn).trans ((bN _ _ ⟨mb,4,none⟩ (by simp;omega)).trans f4);have xb:w5.cell? ⟨b,1,none⟩=some (.slice ba1 c.length FE):=(cB.cell_far ⟨b,1,none⟩ (by simp;omega) hwb).trans (Lib.cell?_alloc_some _ b1);have Bp:=au hown5;have tZ:=au cB;clear hown5 cB c0 c1 c2 c3 c4 f0 f1 f2 f3 f4;show K (Act.put _ (some 23) _) w5;refine hK.o _ _ (fun _=>⟨y0,y1,y2,y3,y4⟩) (fun hS2=>?_);clear hS hK K;have hS:=hS2 (by decide);clear hS2;simp only[Act.put,ax,aD,aF];refine bD 11 fun K hK=>?_;go_simp;refine hK.o _ _ (fun _=>hS) (fun _=>?_);clear hK K;refine bD 12 fun K hK=>?_;go_simp;refine hK.o _ _ (fun _=>hS) (fun _=>?_);clear hK K;refine bD 13 fun K hK=>?_;go_simp;refine hK.o _ _ (fun h=>absurd rfl h) (fun _=>fB ?_);clear hK K hS;have cA3:¬ b=mb:=TG;go_wp2_with fail
  go_ret;rw[HRR.o];refine⟨rfl,?_⟩;have hx:=HX.o;have hgm:g≠mb:=by
   rcases nW with e|e
   ·exact(HG.o) g e
   ·omega
  have hcsz:=hx.sz;have hk1:Kp (fun q=>q=mb∨bv.ownBlock=some q) w2 w5:=Kp.grown (Kp.alloc (Kp.drew (Kp.refl _ w2)) _) tZ.o (fun k e _=>.inr e);have h5:w5.heap[mb]?=some (.cells cs 89 (0,0)):=(tZ.o).block mb (by simp;omega) hwn |>.trans ((dN w2.drew _ hml).trans hx.blk);have hrow:w5.ownsRow 0 82 4 (.slice (some ⟨g,0,none⟩) (m.bk.length+1) cap5) (m.bk.length+1) (bc++[sv,nv,ev,vv]):=by
   rw[HSV.o,HNV.o,Uk.o,HVV.o,hkl];exact Bp.o
  have hne:(Value.slice (some ⟨g,0,none⟩) (m.bk.length+1) cap5).ownBlock≠some mb:=by simp[Value.ownBlock];omega
  subst hkl;obtain⟨O',k4,k5⟩:=hx.enter (w':=((((w5.setCell ⟨mb,4,none⟩ (.slice (some ⟨g,0,none⟩) (m.bk.length+1) cap5)).setCell ⟨mb,0,none⟩ (.slice ba1 c.length FE)).setCell ⟨mb,1,none⟩ (.int .i64 0)).setCell ⟨mb,2,none⟩ (.pointer pa)).setCell ⟨mb,3,none⟩ (.slice none 0 0))
   (Kp.setCell (Kp.setCell (Kp.setCell (Kp.setCell (Kp.setCell hk1 (p:=⟨mb,4,none⟩) (fun _=>.inl rfl) _) (p:=⟨mb,0,none⟩) (fun _=>.inl rfl) _) (p:=⟨mb,1,none⟩) (fun _=>.inl rfl) _) (p:=⟨mb,2,none⟩) (fun _=>.inl rfl) _) (p:=⟨mb,3,none⟩) (fun _=>.inl rfl) _)
   (g:=g) (cap:=cap5) (EL:=.slice ba1 c.length FE) (a:=.pointer pa) (c:=c) (env:=env) (vC (vC (vC (vC (vC h5 4 _) 0 _) 1 _) 2 _) 3 _) (by simp only[dM];exact hcsz)
   (by simp[hcsz]) (by simp[hcsz]) (by simp[hcsz]) (by simp[hcsz]) (by simp[hcsz])
   (fun i hi=>by rw[aS (by omega),aS (by omega),aS (by omega),aS (by omega),aS (by omega)])
   (bV (bV (bV (bV (bV hrow hne _) hne _) hne _) hne _) hne _)
   (by rcases nW with e|e;exact .inl e;exact .inr (by omega)) HCD.o HE2.o hcl hbl
  exact⟨O',(wP.o).trans k4,k5⟩
end
end
end Go.Proofs.YtdkpkpgpphkljaaGreatDoor
