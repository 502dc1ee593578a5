import Derived.Test.YtoohcklcppnafaaGreatDoorJe
import Derived.Stop.Asserts
namespace Go.Proofs.YtoohcklcppnafaaGreatDoor
set_option maxRecDepth 100000
set_option maxHeartbeats 8000000
open Tryz
open Go.RowKit
open M
open X
section
def Fnd(w0:aG)(L:Lay)(fs:List Fl)(M:Mem)(us:List X.U)(f k:Nat)(w:aG)(e:Ending)(w':aG):Prop :=
 ∃(tf tt:Int) (er:Nat),e=.returned (.agg #[ak 2,ak tf,ak tt,ak er])∧Hid (EvA fs f k (tf,tt,er)∧∃ M',Run w0 L fs M' us w'∧qF fs M'∧(∀ i j,(M' i j).1=1↔(M i j).1=1)∧Kx L fs.length w0.heap.size w w')
def Om(pub gs:Bool)(m n a:Nm):Obj:=.cells #[.bool pub,.string (ba m.1),ak m.2,.string (ba n.1),ak n.2,.bool gs,.string (ba a.1),ak a.2] 176 (0,0)
def Rz(w0:aG)(L:Lay)(fs:List Fl)(N:Nat):Prop:=∀(f k:Nat) (pub gs:Bool) (m n a:Nm) (ub:Nat) (M:Mem) (us:List X.U) (w:aG),Run w0 L fs M us w→qF fs M→cnt fs M≤N→(bI fs f)[k]?=some (.use pub m n gs a)→w0.heap[ub]?=some (Om pub gs m n a)→¬ L.S fs.length ub →
 (∀ i j,(M i j).1=1→∃ t,X.on fs (t+1) (i,j)=some (f,k))→bB 102 #[aH L.wb,ak f,ak k,aH ub] w (Fnd w0 L fs M us f k w)
def RA(w0:aG)(L:Lay)(fs:List Fl)(N:Nat):Prop:=∀(f k:Nat) (it:It) (M:Mem) (us:List X.U) (w:aG),Run w0 L fs M us w→qF fs M→cnt fs M≤N→(bI fs f)[k]?=some it →
 (X.nV it=true→∀ i j,(M i j).1=1→∃ t,X.on fs (t+1) (i,j)=some (f,k))→bB 150 #[aH L.wb,ak f,ak k] w (Fnd w0 L fs M us f k w)
theorem kJ{w0:aG}{L:Lay}{fs:List Fl}{M:Mem}{us:List X.U}{w w2:aG}(h:Run w0 L fs M us w2)(hk:Kx L fs.length w0.heap.size (w.alloc (.cells #[ak 0,ak 0,ak 0,ak 0] 222)) w2)(h0:w0.heap.size≤w.heap.size)(hS:∀ q,L.S fs.length q→q<w0.heap.size)(x0 x1 x2 x3:Value) :
  w2.heap[w.heap.size]?=some (.cells #[ak 0,ak 0,ak 0,ak 0] 222 (0,0)) ∧
  (Run w0 L fs M us ((((w2.setCell (aC w.heap.size 0) x0).setCell (aC w.heap.size 1) x1).setCell (aC w.heap.size 2) x2).setCell (aC w.heap.size 3) x3)) ∧
  Kx L fs.length w0.heap.size w ((((w2.setCell (aC w.heap.size 0) x0).setCell (aC w.heap.size 1) x1).setCell (aC w.heap.size 2) x2).setCell (aC w.heap.size 3) x3):=by
 have hb:=hk.made hS (aI w _) h0 (fun cs d e=>by cases e);have hkp:∀(o:Nat) (v:Value) (W:aG),Kp (fun q=>q=w.heap.size) w2 W→Kp (fun q=>q=w.heap.size) w2 (W.setCell (aC w.heap.size o) v):=fun o v W hW=>Kp.setCell (S:=fun q=>q=w.heap.size) (p:=⟨w.heap.size,o,none⟩) hW (fun _=>rfl) v
 have hkk:=hkp 3 x3 _ (hkp 2 x2 _ (hkp 1 x1 _ (hkp 0 x0 _ (Kp.refl _ w2))));have UM:∀ q,L.S fs.length q→q≠w.heap.size:=fun q hq e=>by have:=hS q hq;omega
 refine⟨hb,⟨h.st,h.kp.trans hkk (fun i hi e=>au),?_,fun i hi=>?_,h.lim⟩,?_⟩
 ·obtain⟨nv,y1,y2⟩:=h.tl
  refine⟨nv,hkk.heap y1 (UM _ (.inl rfl)),hkk.owns y2 (fun q hq e=>?_)⟩;rcases y2.2 with ⟨rfl,-⟩|⟨g',cap',cur,rfl,hge,hgg,-⟩
  ·cases hq
  ·cases hq
   have e':g'=w.heap.size:=e;rw[e',hb] at hgg;cases hgg
 ·obtain⟨arr,y1,y2⟩:=h.fd i hi
  exact⟨arr,hkk.heap y1 (UM _ (.inr ⟨i,hi,rfl⟩)),y2⟩
 ·have k1:=Kx.trans ((Kx.refl _ _ _ w).alloc _) hk
  exact Kp.trans k1 hkk (fun i hi e=>au)
variable{w0:aG}{L:Lay}{fs:List Fl}{M:Mem}{us:List X.U}{w:aG}
theorem aR2(c:ByteArray)(a:Int)(w:aG):(Instr.field 163 (.agg #[.string c,ak a]) 1).run prog w=.ok (ak a) w:=bC
theorem Mt(b:Nat)(w:aG):(Instr.typeAssert (.iface 121 (aH b)) 161 121 true).run prog w=.ok (.tuple #[aH b,.bool true]) w:=bC
theorem Mv(b:Nat)(w:aG):(Instr.typeAssert (.iface 123 (aH b)) 161 121 true).run prog w=.ok (.tuple #[.pointer none,.bool false]) w:=bC
theorem Ay{N:Nat}(hU:Rz w0 L fs N):RA w0 L fs N:=by
 intro f k it M us w h hM hc hk oK;obtain⟨hil,hkl⟩:=mQ hk;obtain⟨g,cap,v,lo,hi,e1,e2,e3,e4,e5,e6,e7,e8⟩:=h.st.item hil hk;have hA:=h.alloc (.cells #[ak 0,ak 0,ak 0,ak 0] 222);obtain⟨-,c1⟩:=hA.VR;obtain⟨fg,vZ,d1,d2,d3,d4⟩:=hA.files hil;rw[d1] at c1;have hf:=hA.file hil;rw[e1] at hf;have f0:=aj _ _ 0 _ _ _ hf;have iv:=hA.kp.dD e4 e5;have hi1:(f:Int)<(fs.length:Int):=au
 have hn16:=h.st.n;have Zy:=h.st.il f;have hi2:(k:Int)<((bI fs f).length:Int):=au
 have h0:=h.size;have hS:=h.st.lt;have HA:=aA hA;have xJ:=aA hM;have HP:=aA oK;have HH:=aA h;clear hf h hA hM oK d1 e1;cases e6 with
 | use ub pub gs m n a hb hub =>
  have HC:=aA (hU f k pub gs m n a ub M us _ HA.o xJ.o hc hk hub (e8 ub hb.1 hb.2) ((HP.o) rfl));have hat:=Mt ub;clear hub hU;go_enter func150,ntmps150;go_wp2_with fail
  refine(HC.o).mono ?_;rintro e w2 ⟨tf,tt,er,rfl,H2⟩;obtain⟨x1,M',x2,x3,x4,x5⟩:=H2.o;obtain⟨s1,s2,s3⟩:=kJ x2 x5 h0 hS (ak 2) (ak tf) (ak tt) (ak er);have m0:=aj w2 _ 0 _ _ _ s1;have m1:=aj w2 _ 1 _ _ _ s1;have m2:=aj w2 _ 2 _ _ _ s1;have m3:=aj w2 _ 3 _ _ _ s1;have z0:=bW w2 _ 0 _ _ s1;have z1:=bW w2 _ 1 _ _ s1;have z2:=bW w2 _ 2 _ _ s1;have z3:=bW w2 _ 3 _ _ s1;have HB:=aA s1;have HF:Hid (EvA fs f k (tf,tt,er)∧∃ M',Run w0 L fs M' us _∧qF fs M'∧(∀ i j,(M' i j).1=1↔(M i j).1=1)∧Kx L fs.length w0.heap.size w _):=⟨x1,M',s2,x3,x4,s3⟩;clear x1 x2 x3 x4 x5 s1 s2 s3 H2 HC HH HA xJ HP hat
  go_wp2_with fail
  exact aW (nG rfl _ _ (b:=w.heap.size) rfl (jL HB.o)) rfl ⟨tf,tt,er,rfl,HF⟩
 | dfn b pub n pv ps v e hb hd hp he =>
  have hd2:=(HA.o).kp.heap hd (e8 b hb.1 hb.2);have HC:=aA (uQ b pub n pv v _ _ _ hd2);have hat:=Mv b;have aR3:=aR2;have hst:wY fs f k=.inl (f,n.2,0):=by unfold wY;rw[hk]
  have HE:=aA (EvA.fin hst);clear hd hd2 hU hp he hst;go_enter func150,ntmps150;go_wp2_with fail
  refine(HC.o).aX fun w2 B2=>?_;obtain⟨s1,s2,s3⟩:=kJ ((HA.o).below B2) (Kx.aN B2) h0 hS (ak 2) (ak f) (ak n.2) (ak 0);have m0:=aj w2 _ 0 _ _ _ s1;have m1:=aj w2 _ 1 _ _ _ s1;have m2:=aj w2 _ 2 _ _ _ s1;have m3:=aj w2 _ 3 _ _ _ s1;have z0:=bW w2 _ 0 _ _ s1;have z1:=bW w2 _ 1 _ _ s1;have z2:=bW w2 _ 2 _ _ s1;have z3:=bW w2 _ 3 _ _ s1;have HB:=aA s1;have HF:Hid (EvA fs f k (f,n.2,0)∧∃ M',Run w0 L fs M' us _∧qF fs M'∧(∀ i j,(M' i j).1=1↔(M i j).1=1)∧Kx L fs.length w0.heap.size w _):=⟨HE.o,M,s2,xJ.o,fun _ _=>Iff.rfl,s3⟩;clear s1 s2 s3 B2 HC HH HA xJ HP hat HE;go_wp2_with fail
  exact aW (nG rfl _ _ (b:=w.heap.size) rfl (jL HB.o)) rfl ⟨f,n.2,0,rfl,HF⟩
end
section
variable{w0:aG}{L:Lay}{fs:List Fl}{M:Mem}{us:List X.U}{w:aG}
theorem Az{w:aG}{lo hi:Nat}{v:Value}{it:It}(h:ng w lo hi v it)(b0:Bool)(hb0:shown it=b0):∃ b,(v=.iface 121 (aH b)∧bB 204 #[aH b] w (cK (.bool b0) fun w'=>w'=w))∨(v=.iface 123 (aH b)∧bB 206 #[aH b] w (cK (.bool b0) fun w'=>w'=w)):=by
 subst hb0;cases h with
 | use b pub gs m n a hb h=>exact⟨b,.inl ⟨rfl,ER b pub gs m n a w h⟩⟩
 | dfn b pub n pv ps v e hb h hp he=>exact⟨b,.inr ⟨rfl,ES b pub n pv v _ _ w h⟩⟩
theorem zu{x:ah}{f:Nat}(h:m_ fs x=some f):f<fs.length:=by
 unfold m_ at h
 split at h
 ·cases h
 ·exact(List.findIdx?_eq_some_iff_getElem.1 h).1
theorem Oo(f k:Nat)(pub gs:Bool)(m n a:Nm)(hk:(bI fs f)[k]?=some (.use pub m n gs a)) :
  (m_ fs m.1=none∧wY fs f k=.inl (-1,-1,4))∨∃ f',m_ fs m.1=some f'∧((iV (bI fs f') n.1=none∧wY fs f k=.inl (-1,-1,4))∨∃ k' it,iV (bI fs f') n.1=some k'∧(bI fs f')[k']?=some it ∧
   ((shown it=false∧f'≠f∧wY fs f k=.inl (-1,-1,6))∨((shown it=true∨f'=f)∧∀ ans,EvA fs f' k' ans→EvA fs f k ans)∧(X.nV it=true→wY fs f k=.inr (f',k')))):=by
 have hst:wY fs f k=match m_ fs m.1 with
  | none=>.inl (-1,-1,4)
  | some f'=>match iV (bI fs f') n.1 with
   | none=>.inl (-1,-1,4)
   | some k'=>match (bI fs f')[k']? with
    | none=>.inl (-1,-1,4)
    | some it=>if shown it=false∧f'≠f then .inl (-1,-1,6) else
     match it with
     | .dfn _ d _ _=>.inl (f',d.2,0)
     | .use _ _ _ _ _=>.inr (f',k'):=by
  unfold wY;simp only[hk];rfl
 cases hm:m_ fs m.1 with
 | none=>rw[hm] at hst;exact .inl ⟨rfl,hst⟩
 | some f' =>
  rw[hm] at hst;refine .inr ⟨f',rfl,?_⟩;cases ht:iV (bI fs f') n.1 with
  | none=>simp only[ht] at hst;exact .inl ⟨rfl,hst⟩
  | some k' =>
   obtain⟨it,hit,-⟩:=xI ht;simp only[ht,hit] at hst;refine .inr ⟨k',it,rfl,hit,?_⟩;by_cases hs:shown it=false∧f'≠f
   ·rw[aU hs] at hst
    exact .inl ⟨hs.1,hs.2,hst⟩
   ·rw[aM hs] at hst
    right
    have h1:shown it=true∨f'=f:=by
     cases hb:shown it with
     | true=>exact .inl rfl
     | false =>
      right
      rcases Classical.em (f'=f) with g|g
      ·exact g
      ·exact absurd ⟨hb,g⟩ hs
    cases it with
    | use p2 m2 n2 gs2 a2=>exact⟨⟨h1,fun ans ha=>EvA.step (p:=(f',k')) hst ha⟩,fun _=>hst⟩
    | dfn p2 d ps b =>
     refine⟨⟨h1,fun ans ha=>?_⟩,fun h=>by cases h⟩;have e2:wY fs f' k'=.inl (f',d.2,0):=by unfold wY;rw[hit]
     rw[ha.one (EvA.fin e2)];exact EvA.fin hst
def Al(w:aG):World:=w.alloc (.cells #[ak 0,ak 0,ak 0,ak 0] 222)
def RB(w0:aG)(L:Lay)(fs:List Fl)(N:Nat):Prop:=∀(f k:Nat) (pub gs:Bool) (m n a:Nm) (ub:Nat) (M:Mem) (us:List X.U) (w:aG),Run w0 L fs M us w→qF fs M→cnt fs M≤N→(bI fs f)[k]?=some (.use pub m n gs a)→w0.heap[ub]?=some (Om pub gs m n a)→¬ L.S fs.length ub →
 (∀ i j,(M i j).1=1→∃ t,X.on fs t (i,j)=some (f,k))→bB 124 #[aH L.wb,ak f,aH ub] w (Fnd w0 L fs M us f k w)
theorem KA{N:Nat}(hI:RA w0 L fs N):RB w0 L fs N:=by
 intro f k pub gs m n a ub M us w h hM hc hk hub CV oK;have bJ8:=h.PX hk;obtain⟨⟨mB,-⟩,⟨nB,-⟩,-⟩:=bJ8;have hml:m.1.length≤maxLen:=by unfold maxLen;omega
 have hnl:n.1.length≤maxLen:=by unfold maxLen;omega
 have hA:=h.alloc (.cells #[ak 0,ak 0,ak 0,ak 0] 222);obtain⟨c0,c1⟩:=hA.VR;have hu2:=hA.kp.heap hub CV;have u1:=aj _ _ 1 _ _ _ hu2;have u3:=aj _ _ 3 _ _ _ hu2;have h0:=h.size;have hS:=h.st.lt;have hn16:=h.st.n;obtain⟨kk,hmp⟩:=(hA.below ((aB _ _).drew)).mods;have hrun:=hmp.oV hml;have hil:=(mQ hk).1;have HA:=aA hA;have xJ:=aA hM;have HP:=aA oK;have HST:=aA (Oo f k pub gs m n a hk);have HI:=aA hI;have HK:=aA hk;clear h hA hM oK hu2 hub hmp hI hk;rcases HST.o with ⟨hm,hst⟩|⟨f',hm,hrest⟩
 ·rw[hm] at hrun
  have hrun':(Instr.lookup 73 (.map (some L.mb)) (.string (ba m.1)) true).run prog (w.alloc (.cells #[ak 0,ak 0,ak 0,ak 0] 222)).drew=.ok (.tuple #[ak 0,.bool false]) (w.alloc (.cells #[ak 0,ak 0,ak 0,ak 0] 222)).drew:=hrun;clear hrun HST HI HK;go_enter func124,ntmps124;go_wp2_with fail
  have HX0:Hid (Kx L fs.length w0.heap.size (Al w) (w.alloc (.cells #[ak 0,ak 0,ak 0,ak 0] 222)).drew):=(Kx.refl _ _ _ _).drew;have HD0:=aA <| (HA.o).below ((aB _ _).drew);generalize w.alloc (.cells #[ak 0,ak 0,ak 0,ak 0] 222)=W at *
  go_region_held3 (fun w'=>w'.cell? (aC L.wb 0)=some (.map (some L.mb))∧w'.cell? (aC ub 1)=some (.string (ba m.1))∧(Instr.lookup 73 (.map (some L.mb)) (.string (ba m.1)) true).run prog w'=.ok (.tuple #[ak 0,.bool false]) w')
   (first|(with_reducible exact⟨c0,u1,hrun'⟩)|go_keep)
   (fail)
  have HD:=HD0;have HX:=HX0;clear hrun' HX0 HD0 c0 c1 u1 u3 HA;generalize W.drew=Wd at *;have HE:=aA (EvA.fin hst);clear hst;go_wp2_with fail
  refine(uw 4 _).aX fun w2 B2=>?_;obtain⟨s1,s2,s3⟩:=kJ ((HD.o).below B2) ((HX.o).trans (Kx.aN B2)) h0 hS (ak 2) (ak (-1)) (ak (-1)) (ak 4);have m0:=aj w2 _ 0 _ _ _ s1;have m1:=aj w2 _ 1 _ _ _ s1;have m2:=aj w2 _ 2 _ _ _ s1;have m3:=aj w2 _ 3 _ _ _ s1;have z0:=bW w2 _ 0 _ _ s1;have z1:=bW w2 _ 1 _ _ s1;have z2:=bW w2 _ 2 _ _ s1;have z3:=bW w2 _ 3 _ _ s1;have HB:=aA s1;have HF:Hid (EvA fs f k (-1,-1,4)∧∃ M',Run w0 L fs M' us _∧qF fs M'∧(∀ i j,(M' i j).1=1↔(M i j).1=1)∧Kx L fs.length w0.heap.size w _):=⟨HE.o,M,s2,xJ.o,fun _ _=>Iff.rfl,s3⟩;clear s1 s2 s3 B2 HE HD HX xJ HP;go_wp2_with fail
  exact aW (nG rfl _ _ (b:=w.heap.size) rfl (jL HB.o)) rfl ⟨-1,-1,4,rfl,HF⟩
 ·rcases hrest with ⟨ht,hst⟩|⟨k',it,ht,hit,hrest⟩
  ·rw[hm] at hrun
   have hrun':(Instr.lookup 73 (.map (some L.mb)) (.string (ba m.1)) true).run prog (w.alloc (.cells #[ak 0,ak 0,ak 0,ak 0] 222)).drew=.ok (.tuple #[ak f',.bool true]) (w.alloc (.cells #[ak 0,ak 0,ak 0,ak 0] 222)).drew:=hrun;have hfl:=zu hm;obtain⟨kk2,AA⟩:=((HA.o).below ((aB _ _).drew.drew)).named hfl;have pY:=AA.oV hnl;obtain⟨fg,vZ,d1,d2,d3,d4⟩:=(HA.o).files hfl;rw[d1] at c1;have wZ:=(HA.o).file hfl;have g0:=aj _ _ 0 _ _ _ wZ;have g1:=aj _ _ 1 _ _ _ wZ;have hi1:(f':Int)<(fs.length:Int):=au
   clear hrun AA wZ d1;rw[ht] at pY;have p8:(Instr.lookup 73 (.map (some (L.nb f'))) (.string (ba n.1)) true).run prog (w.alloc (.cells #[ak 0,ak 0,ak 0,ak 0] 222)).drew.drew=.ok (.tuple #[ak 0,.bool false]) (w.alloc (.cells #[ak 0,ak 0,ak 0,ak 0] 222)).drew.drew:=pY;clear pY HST HI HK g0;go_enter func124,ntmps124;go_wp2_with fail
   have HX0:Hid (Kx L fs.length w0.heap.size (Al w) (w.alloc (.cells #[ak 0,ak 0,ak 0,ak 0] 222)).drew):=(Kx.refl _ _ _ _).drew;have HD0:=aA <| (HA.o).below ((aB _ _).drew);generalize w.alloc (.cells #[ak 0,ak 0,ak 0,ak 0] 222)=W at *
   go_region_held3 (fun w'=>w'.cell? (aC L.wb 0)=some (.map (some L.mb))∧w'.cell? (aC ub 1)=some (.string (ba m.1))∧(Instr.lookup 73 (.map (some L.mb)) (.string (ba m.1)) true).run prog w'=.ok (.tuple #[ak f',.bool true]) w')
    (first|(with_reducible exact⟨c0,u1,hrun'⟩)|go_keep)
    (fail)
   clear hrun';have ZA:W.drew.cell? (aC L.wb 1)=some (.slice (b_ fg) fs.length vZ):=c1;have ZB:W.drew.cell? (aC fg f')=some (aH (L.fb f')):=d4;have RD:W.drew.cell? (aC (L.fb f') 1)=some (.map (some (L.nb f'))):=g1;have RF:W.drew.cell? (aC ub 3)=some (.string (ba n.1)):=u3;clear c1 c0 u1 d4 g1 u3;go_wp2_with fail
   have nI:=p8
   go_region_held3 (fun w'=>w'.cell? (aC (L.fb f') 1)=some (.map (some (L.nb f')))∧w'.cell? (aC ub 3)=some (.string (ba n.1))∧(Instr.lookup 73 (.map (some (L.nb f'))) (.string (ba n.1)) true).run prog w'=.ok (.tuple #[ak 0,.bool false]) w')
    (first|(with_reducible exact⟨RD,RF,nI⟩)|go_keep)
    (fail)
   have HD:=aA <| (HD0.o).below ((aB _ _).drew);have HX:=aA <| (HX0.o).drew;clear p8 nI HX0 HD0 ZA ZB RF RD HA;generalize W.drew.drew=Wd at *;have HE:=aA (EvA.fin hst);clear hst;go_wp2_with fail
   refine(uw 4 _).aX fun w2 B2=>?_;obtain⟨s1,s2,s3⟩:=kJ ((HD.o).below B2) ((HX.o).trans (Kx.aN B2)) h0 hS (ak 2) (ak (-1)) (ak (-1)) (ak 4);have m0:=aj w2 _ 0 _ _ _ s1;have m1:=aj w2 _ 1 _ _ _ s1;have m2:=aj w2 _ 2 _ _ _ s1;have m3:=aj w2 _ 3 _ _ _ s1;have z0:=bW w2 _ 0 _ _ s1;have z1:=bW w2 _ 1 _ _ s1;have z2:=bW w2 _ 2 _ _ s1;have z3:=bW w2 _ 3 _ _ s1;have HB:=aA s1;have HF:Hid (EvA fs f k (-1,-1,4)∧∃ M',Run w0 L fs M' us _∧qF fs M'∧(∀ i j,(M' i j).1=1↔(M i j).1=1)∧Kx L fs.length w0.heap.size w _):=⟨HE.o,M,s2,xJ.o,fun _ _=>Iff.rfl,s3⟩;clear s1 s2 s3 B2 HE HD HX xJ HP;go_wp2_with fail
   exact aW (nG rfl _ _ (b:=w.heap.size) rfl (jL HB.o)) rfl ⟨-1,-1,4,rfl,HF⟩
  ·rcases hrest with ⟨hsh,hne,hst⟩|⟨⟨bK0,hev⟩,hnx⟩
   ·have hn1:((f':Int)==f)=false:=by simp;omega
    have hn2:(!((f':Int)==f))=true:=by rw[hn1];rfl
    rw[hm] at hrun;have hrun':(Instr.lookup 73 (.map (some L.mb)) (.string (ba m.1)) true).run prog (w.alloc (.cells #[ak 0,ak 0,ak 0,ak 0] 222)).drew=.ok (.tuple #[ak f',.bool true]) (w.alloc (.cells #[ak 0,ak 0,ak 0,ak 0] 222)).drew:=hrun;have hfl:=zu hm;obtain⟨kk2,AA⟩:=((HA.o).below ((aB _ _).drew.drew)).named hfl;have pY:=AA.oV hnl;obtain⟨fg,vZ,d1,d2,d3,d4⟩:=(HA.o).files hfl;rw[d1] at c1;have wZ:=(HA.o).file hfl;have g0:=aj _ _ 0 _ _ _ wZ;have g1:=aj _ _ 1 _ _ _ wZ;have hi1:(f':Int)<(fs.length:Int):=au
    clear hrun AA wZ d1;rw[ht] at pY;have p8:(Instr.lookup 73 (.map (some (L.nb f'))) (.string (ba n.1)) true).run prog (w.alloc (.cells #[ak 0,ak 0,ak 0,ak 0] 222)).drew.drew=.ok (.tuple #[ak k',.bool true]) (w.alloc (.cells #[ak 0,ak 0,ak 0,ak 0] 222)).drew.drew:=pY;obtain⟨ig,G6,v',lo,hi,i1,i2,i3,i4,i5,i6,i7,i8⟩:=((HA.o).st).item hfl hit;rw[i1] at g0;have aR4:=(mQ hit).2;have Zy:=((HA.o).st).il f';have hi2:(k':Int)<((bI fs f').length:Int):=au
    clear pY HST HK i1;go_enter func124,ntmps124;go_wp2_with fail
    have HX0:Hid (Kx L fs.length w0.heap.size (Al w) (w.alloc (.cells #[ak 0,ak 0,ak 0,ak 0] 222)).drew):=(Kx.refl _ _ _ _).drew;have HD0:=aA <| (HA.o).below ((aB _ _).drew);generalize w.alloc (.cells #[ak 0,ak 0,ak 0,ak 0] 222)=W at *
    go_region_held3 (fun w'=>w'.cell? (aC L.wb 0)=some (.map (some L.mb))∧w'.cell? (aC ub 1)=some (.string (ba m.1))∧(Instr.lookup 73 (.map (some L.mb)) (.string (ba m.1)) true).run prog w'=.ok (.tuple #[ak f',.bool true]) w')
     (first|(with_reducible exact⟨c0,u1,hrun'⟩)|go_keep)
     (fail)
    clear hrun';have ZA:W.drew.cell? (aC L.wb 1)=some (.slice (b_ fg) fs.length vZ):=c1;have ZB:W.drew.cell? (aC fg f')=some (aH (L.fb f')):=d4;have XU:W.drew.cell? (aC (L.fb f') 0)=some (.slice (b_ ig) (bI fs f').length G6):=g0;have RD:W.drew.cell? (aC (L.fb f') 1)=some (.map (some (L.nb f'))):=g1;have RF:W.drew.cell? (aC ub 3)=some (.string (ba n.1)):=u3;clear c1 c0 u1 d4 g0 g1 u3;go_wp2_with fail
    have nI:=p8
    go_region_held3 (fun w'=>w'.cell? (aC (L.fb f') 1)=some (.map (some (L.nb f')))∧w'.cell? (aC ub 3)=some (.string (ba n.1))∧(Instr.lookup 73 (.map (some (L.nb f'))) (.string (ba n.1)) true).run prog w'=.ok (.tuple #[ak k',.bool true]) w')
     (first|(with_reducible exact⟨RD,RF,nI⟩)|go_keep)
     (fail)
    have HD:=aA <| (HD0.o).below ((aB _ _).drew);have HX:=aA <| (HX0.o).drew;clear p8 nI HX0 HD0 ZA ZB RF RD HA;have HIT:=(HD.o).kp;have iv1:=HIT.dD i4 i5;have XV:=i6.keep HIT i8;obtain⟨ib,hcase⟩:=Az XV false hsh;clear HIT i4 i5 i6 XV i8;have g0e:W.drew.drew.cell? (aC (L.fb f') 0)=some (.slice (b_ ig) (bI fs f').length G6):=XU;clear XU;generalize W.drew.drew=Wd at *;rcases hcase with ⟨rfl,ET⟩|⟨rfl,ET⟩
    all_goals
     have HC:=aA ET;clear ET;go_wp2_with fail
     refine(HC.o).mono ?_;rintro e w3 ⟨rfl,rfl⟩;clear HC g0e iv1;clear HI hit;have HE:=aA (EvA.fin hst);clear hst;go_wp2_with fail
     refine(uw 6 _).aX fun w2 B2=>?_;obtain⟨s1,s2,s3⟩:=kJ ((HD.o).below B2) ((HX.o).trans (Kx.aN B2)) h0 hS (ak 2) (ak (-1)) (ak (-1)) (ak 6);have m0:=aj w2 _ 0 _ _ _ s1;have m1:=aj w2 _ 1 _ _ _ s1;have m2:=aj w2 _ 2 _ _ _ s1;have m3:=aj w2 _ 3 _ _ _ s1;have z0:=bW w2 _ 0 _ _ s1;have z1:=bW w2 _ 1 _ _ s1;have z2:=bW w2 _ 2 _ _ s1;have z3:=bW w2 _ 3 _ _ s1;have HB:=aA s1;have HF:Hid (EvA fs f k (-1,-1,6)∧∃ M',Run w0 L fs M' us _∧qF fs M'∧(∀ i j,(M' i j).1=1↔(M i j).1=1)∧Kx L fs.length w0.heap.size w _):=⟨HE.o,M,s2,xJ.o,fun _ _=>Iff.rfl,s3⟩;clear s1 s2 s3 B2 HE HD HX xJ HP;go_wp2_with fail
     exact aW (nG rfl _ _ (b:=w.heap.size) rfl (jL HB.o)) rfl ⟨-1,-1,6,rfl,HF⟩
   ·cases hsh:shown it with
    | true =>
     rw[hm] at hrun;have hrun':(Instr.lookup 73 (.map (some L.mb)) (.string (ba m.1)) true).run prog (w.alloc (.cells #[ak 0,ak 0,ak 0,ak 0] 222)).drew=.ok (.tuple #[ak f',.bool true]) (w.alloc (.cells #[ak 0,ak 0,ak 0,ak 0] 222)).drew:=hrun;have hfl:=zu hm;obtain⟨kk2,AA⟩:=((HA.o).below ((aB _ _).drew.drew)).named hfl;have pY:=AA.oV hnl;obtain⟨fg,vZ,d1,d2,d3,d4⟩:=(HA.o).files hfl;rw[d1] at c1;have wZ:=(HA.o).file hfl;have g0:=aj _ _ 0 _ _ _ wZ;have g1:=aj _ _ 1 _ _ _ wZ;have hi1:(f':Int)<(fs.length:Int):=au
     clear hrun AA wZ d1;rw[ht] at pY;have p8:(Instr.lookup 73 (.map (some (L.nb f'))) (.string (ba n.1)) true).run prog (w.alloc (.cells #[ak 0,ak 0,ak 0,ak 0] 222)).drew.drew=.ok (.tuple #[ak k',.bool true]) (w.alloc (.cells #[ak 0,ak 0,ak 0,ak 0] 222)).drew.drew:=pY;obtain⟨ig,G6,v',lo,hi,i1,i2,i3,i4,i5,i6,i7,i8⟩:=((HA.o).st).item hfl hit;rw[i1] at g0;have aR4:=(mQ hit).2;have Zy:=((HA.o).st).il f';have hi2:(k':Int)<((bI fs f').length:Int):=au
     clear pY HST HK i1;go_enter func124,ntmps124;go_wp2_with fail
     have HX0:Hid (Kx L fs.length w0.heap.size (Al w) (w.alloc (.cells #[ak 0,ak 0,ak 0,ak 0] 222)).drew):=(Kx.refl _ _ _ _).drew;have HD0:=aA <| (HA.o).below ((aB _ _).drew);generalize w.alloc (.cells #[ak 0,ak 0,ak 0,ak 0] 222)=W at *
     go_region_held3 (fun w'=>w'.cell? (aC L.wb 0)=some (.map (some L.mb))∧w'.cell? (aC ub 1)=some (.string (ba m.1))∧(Instr.lookup 73 (.map (some L.mb)) (.string (ba m.1)) true).run prog w'=.ok (.tuple #[ak f',.bool true]) w')
      (first|(with_reducible exact⟨c0,u1,hrun'⟩)|go_keep)
      (fail)
     clear hrun';have ZA:W.drew.cell? (aC L.wb 1)=some (.slice (b_ fg) fs.length vZ):=c1;have ZB:W.drew.cell? (aC fg f')=some (aH (L.fb f')):=d4;have XU:W.drew.cell? (aC (L.fb f') 0)=some (.slice (b_ ig) (bI fs f').length G6):=g0;have RD:W.drew.cell? (aC (L.fb f') 1)=some (.map (some (L.nb f'))):=g1;have RF:W.drew.cell? (aC ub 3)=some (.string (ba n.1)):=u3;clear c1 c0 u1 d4 g0 g1 u3;go_wp2_with fail
     have nI:=p8
     go_region_held3 (fun w'=>w'.cell? (aC (L.fb f') 1)=some (.map (some (L.nb f')))∧w'.cell? (aC ub 3)=some (.string (ba n.1))∧(Instr.lookup 73 (.map (some (L.nb f'))) (.string (ba n.1)) true).run prog w'=.ok (.tuple #[ak k',.bool true]) w')
      (first|(with_reducible exact⟨RD,RF,nI⟩)|go_keep)
      (fail)
     have HD:=aA <| (HD0.o).below ((aB _ _).drew);have HX:=aA <| (HX0.o).drew;clear p8 nI HX0 HD0 ZA ZB RF RD HA;have HIT:=(HD.o).kp;have iv1:=HIT.dD i4 i5;have XV:=i6.keep HIT i8;obtain⟨ib,hcase⟩:=Az XV true hsh;clear HIT i4 i5 i6 XV i8;have g0e:W.drew.drew.cell? (aC (L.fb f') 0)=some (.slice (b_ ig) (bI fs f').length G6):=XU;clear XU;generalize W.drew.drew=Wd at *;rcases hcase with ⟨rfl,ET⟩|⟨rfl,ET⟩
     all_goals
      have HC:=aA ET;clear ET;go_wp2_with fail
      refine(HC.o).mono ?_;rintro e w3 ⟨rfl,rfl⟩;clear HC g0e iv1;have HPn:Hid (X.nV it=true→∀ i j,(M i j).1=1→∃ t,X.on fs (t+1) (i,j)=some (f',k')):=fun hu i j hij=>by
       obtain⟨t,ht⟩:=(HP.o) i j hij;exact⟨t,Mw ht (hnx hu)⟩
      have HC:=aA ((HI.o) f' k' it M us w3 HD.o xJ.o hc hit HPn.o);have Zg:=aA hev;clear HI hit HP HPn hnx hev;go_wp2_with fail
      refine(HC.o).mono ?_;rintro e w4 ⟨tf,tt,er,rfl,H4⟩;obtain⟨x1,M',x2,x3,x4,x5⟩:=H4.o;obtain⟨s1,s2,s3⟩:=kJ x2 ((HX.o).trans x5) h0 hS (ak 2) (ak tf) (ak tt) (ak er);have m0:=aj w4 _ 0 _ _ _ s1;have m1:=aj w4 _ 1 _ _ _ s1;have m2:=aj w4 _ 2 _ _ _ s1;have m3:=aj w4 _ 3 _ _ _ s1;have z0:=bW w4 _ 0 _ _ s1;have z1:=bW w4 _ 1 _ _ s1;have z2:=bW w4 _ 2 _ _ s1;have z3:=bW w4 _ 3 _ _ s1;have HB:=aA s1;have HF:Hid (EvA fs f k (tf,tt,er)∧∃ M',Run w0 L fs M' us _∧qF fs M'∧(∀ i j,(M' i j).1=1↔(M i j).1=1)∧Kx L fs.length w0.heap.size w _):=⟨(Zg.o) _ x1,M',s2,x3,x4,s3⟩;clear s1 s2 s3 x1 x2 x3 x4 x5 H4 HC HD HX xJ Zg;go_wp2_with fail
      exact aW (nG rfl _ _ (b:=w.heap.size) rfl (jL HB.o)) rfl ⟨tf,tt,er,rfl,HF⟩
    | false =>
     have wZ:f'=f:=by
      rcases bK0 with h|h
      ·rw[hsh] at h;cases h
      ·exact h
     subst wZ;rw[hm] at hrun;have hrun':(Instr.lookup 73 (.map (some L.mb)) (.string (ba m.1)) true).run prog (w.alloc (.cells #[ak 0,ak 0,ak 0,ak 0] 222)).drew=.ok (.tuple #[ak f',.bool true]) (w.alloc (.cells #[ak 0,ak 0,ak 0,ak 0] 222)).drew:=hrun;have hfl:=zu hm;obtain⟨kk2,AA⟩:=((HA.o).below ((aB _ _).drew.drew)).named hfl;have pY:=AA.oV hnl;obtain⟨fg,vZ,d1,d2,d3,d4⟩:=(HA.o).files hfl;rw[d1] at c1;have wZ:=(HA.o).file hfl;have g0:=aj _ _ 0 _ _ _ wZ;have g1:=aj _ _ 1 _ _ _ wZ;have hi1:(f':Int)<(fs.length:Int):=au
     clear hrun AA wZ d1;rw[ht] at pY;have p8:(Instr.lookup 73 (.map (some (L.nb f'))) (.string (ba n.1)) true).run prog (w.alloc (.cells #[ak 0,ak 0,ak 0,ak 0] 222)).drew.drew=.ok (.tuple #[ak k',.bool true]) (w.alloc (.cells #[ak 0,ak 0,ak 0,ak 0] 222)).drew.drew:=pY;obtain⟨ig,G6,v',lo,hi,i1,i2,i3,i4,i5,i6,i7,i8⟩:=((HA.o).st).item hfl hit;rw[i1] at g0;have aR4:=(mQ hit).2;have Zy:=((HA.o).st).il f';have hi2:(k':Int)<((bI fs f').length:Int):=au
     clear pY HST HK i1;go_enter func124,ntmps124;go_wp2_with fail
     have HX0:Hid (Kx L fs.length w0.heap.size (Al w) (w.alloc (.cells #[ak 0,ak 0,ak 0,ak 0] 222)).drew):=(Kx.refl _ _ _ _).drew;have HD0:=aA <| (HA.o).below ((aB _ _).drew);generalize w.alloc (.cells #[ak 0,ak 0,ak 0,ak 0] 222)=W at *
     go_region_held3 (fun w'=>w'.cell? (aC L.wb 0)=some (.map (some L.mb))∧w'.cell? (aC ub 1)=some (.string (ba m.1))∧(Instr.lookup 73 (.map (some L.mb)) (.string (ba m.1)) true).run prog w'=.ok (.tuple #[ak f',.bool true]) w')
      (first|(with_reducible exact⟨c0,u1,hrun'⟩)|go_keep)
      (fail)
     clear hrun';have ZA:W.drew.cell? (aC L.wb 1)=some (.slice (b_ fg) fs.length vZ):=c1;have ZB:W.drew.cell? (aC fg f')=some (aH (L.fb f')):=d4;have XU:W.drew.cell? (aC (L.fb f') 0)=some (.slice (b_ ig) (bI fs f').length G6):=g0;have RD:W.drew.cell? (aC (L.fb f') 1)=some (.map (some (L.nb f'))):=g1;have RF:W.drew.cell? (aC ub 3)=some (.string (ba n.1)):=u3;clear c1 c0 u1 d4 g0 g1 u3;go_wp2_with fail
     have nI:=p8
     go_region_held3 (fun w'=>w'.cell? (aC (L.fb f') 1)=some (.map (some (L.nb f')))∧w'.cell? (aC ub 3)=some (.string (ba n.1))∧(Instr.lookup 73 (.map (some (L.nb f'))) (.string (ba n.1)) true).run prog w'=.ok (.tuple #[ak k',.bool true]) w')
      (first|(with_reducible exact⟨RD,RF,nI⟩)|go_keep)
      (fail)
     have HD:=aA <| (HD0.o).below ((aB _ _).drew);have HX:=aA <| (HX0.o).drew;clear p8 nI HX0 HD0 ZA ZB RF RD HA;have HIT:=(HD.o).kp;have iv1:=HIT.dD i4 i5;have XV:=i6.keep HIT i8;obtain⟨ib,hcase⟩:=Az XV false hsh;clear HIT i4 i5 i6 XV i8;have g0e:W.drew.drew.cell? (aC (L.fb f') 0)=some (.slice (b_ ig) (bI fs f').length G6):=XU;clear XU;generalize W.drew.drew=Wd at *;rcases hcase with ⟨rfl,ET⟩|⟨rfl,ET⟩
     all_goals
      have HC:=aA ET;clear ET;go_wp2_with fail
      refine(HC.o).mono ?_;rintro e w3 ⟨rfl,rfl⟩;clear HC g0e iv1;have HPn:Hid (X.nV it=true→∀ i j,(M i j).1=1→∃ t,X.on fs (t+1) (i,j)=some (f',k')):=fun hu i j hij=>by
       obtain⟨t,ht⟩:=(HP.o) i j hij;exact⟨t,Mw ht (hnx hu)⟩
      have HC:=aA ((HI.o) f' k' it M us w3 HD.o xJ.o hc hit HPn.o);have Zg:=aA hev;clear HI hit HP HPn hnx hev;go_wp2_with fail
      refine(HC.o).mono ?_;rintro e w4 ⟨tf,tt,er,rfl,H4⟩;obtain⟨x1,M',x2,x3,x4,x5⟩:=H4.o;obtain⟨s1,s2,s3⟩:=kJ x2 ((HX.o).trans x5) h0 hS (ak 2) (ak tf) (ak tt) (ak er);have m0:=aj w4 _ 0 _ _ _ s1;have m1:=aj w4 _ 1 _ _ _ s1;have m2:=aj w4 _ 2 _ _ _ s1;have m3:=aj w4 _ 3 _ _ _ s1;have z0:=bW w4 _ 0 _ _ s1;have z1:=bW w4 _ 1 _ _ s1;have z2:=bW w4 _ 2 _ _ s1;have z3:=bW w4 _ 3 _ _ s1;have HB:=aA s1;have HF:Hid (EvA fs f' k (tf,tt,er)∧∃ M',Run w0 L fs M' us _∧qF fs M'∧(∀ i j,(M' i j).1=1↔(M i j).1=1)∧Kx L fs.length w0.heap.size w _):=⟨(Zg.o) _ x1,M',s2,x3,x4,s3⟩;clear s1 s2 s3 x1 x2 x3 x4 x5 H4 HC HD HX xJ Zg;go_wp2_with fail
      exact aW (nG rfl _ _ (b:=w.heap.size) rfl (jL HB.o)) rfl ⟨tf,tt,er,rfl,HF⟩
theorem Dc(f k:Nat)(pub gs:Bool)(m n a:Nm)(ub:Nat)(h:Run w0 L fs M us w)(hM:qF fs M)(hk:(bI fs f)[k]?=some (.use pub m n gs a))(oK:∀ i j,(M i j).1=1→∃ t,X.on fs (t+1) (i,j)=some (f,k))(h0:(M f k).1≠0) :
  bB 102 #[aH L.wb,ak f,ak k,aH ub] w (Fnd w0 L fs M us f k w):=by
 obtain⟨hil,hkl⟩:=mQ hk;have hA:=h.alloc (.cells #[ak 0,ak 0,ak 0,ak 0] 222);obtain⟨-,c1⟩:=hA.VR;obtain⟨fg,vZ,d1,d2,d3,d4⟩:=hA.files hil;rw[d1] at c1;have wZ:=hA.file hil;have g2:=aj _ _ 2 _ _ _ wZ;have hn16:=h.st.n;have Zy:=h.st.il f;have hi1:(f:Int)<(fs.length:Int):=au
 have hi2:(k:Int)<((bI fs f).length:Int):=au
 obtain⟨⟨a0,a1,a2,a3⟩,-⟩:=hA.ans hil hkl;have hw0:=h.size;have hS:=h.st.lt;have hle:=(hM f k).1;have hsz:w.heap.size<(w.alloc (.cells #[ak 0,ak 0,ak 0,ak 0] 222)).heap.size:=aT
 have HA:=aA hA;have xJ:=aA hM;have HXx:Hid (Kx L fs.length w0.heap.size (Al w) (w.alloc (.cells #[ak 0,ak 0,ak 0,ak 0] 222))):=Kx.refl _ _ _ _;by_cases h1:(M f k).1=1
 ·obtain⟨t,ht⟩:=oK f k h1
  have HE:=aA (EvA.ring ht);rw[h1] at a0;have a0':(w.alloc (.cells #[ak 0,ak 0,ak 0,ak 0] 222)).cell? (aC (L.gb f) (k*4))=some (ak 1):=a0;clear h hA hM oK wZ d1 a0 h1 ht hle h0;go_enter func102,ntmps102;go_wp2_with fail
  refine(uw 7 _).aX fun w2 B2=>?_;obtain⟨s1,s2,s3⟩:=kJ ((HA.o).below B2) ((HXx.o).trans (Kx.aN B2)) hw0 hS (ak 2) (ak (-1)) (ak (-1)) (ak 7);have m0:=aj w2 _ 0 _ _ _ s1;have m1:=aj w2 _ 1 _ _ _ s1;have m2:=aj w2 _ 2 _ _ _ s1;have m3:=aj w2 _ 3 _ _ _ s1;have z0:=bW w2 _ 0 _ _ s1;have z1:=bW w2 _ 1 _ _ s1;have z2:=bW w2 _ 2 _ _ s1;have z3:=bW w2 _ 3 _ _ s1;have HB:=aA s1;have HF:Hid (EvA fs f k (-1,-1,7)∧∃ M',Run w0 L fs M' us _∧qF fs M'∧(∀ i j,(M' i j).1=1↔(M i j).1=1)∧Kx L fs.length w0.heap.size w _):=⟨HE.o,M,s2,xJ.o,fun _ _=>Iff.rfl,s3⟩;clear s1 s2 s3 B2 HE HA HXx xJ a0' a1 a2 a3 g2 c1 d4;go_wp2_with fail
  exact aW (nG rfl _ _ (b:=w.heap.size) rfl (jL HB.o)) rfl ⟨-1,-1,7,rfl,HF⟩
 ·have h2:(M f k).1=2:=by omega
  have HE:=aA ((hM f k).2 h2);rw[h2] at a0;have a0':(w.alloc (.cells #[ak 0,ak 0,ak 0,ak 0] 222)).cell? (aC (L.gb f) (k*4))=some (ak 2):=a0;have HF:Hid (EvA fs f k ((M f k).2.1,(M f k).2.2.1,(M f k).2.2.2)∧∃ M',Run w0 L fs M' us (w.alloc (.cells #[ak 2,ak (M f k).2.1,ak (M f k).2.2.1,ak (M f k).2.2.2] 222))∧qF fs M'∧(∀ i j,(M' i j).1=1↔(M i j).1=1)∧Kx L fs.length w0.heap.size w (w.alloc (.cells #[ak 2,ak (M f k).2.1,ak (M f k).2.2.1,ak (M f k).2.2.2] 222))):=⟨HE.o,M,h.alloc _,xJ.o,fun _ _=>Iff.rfl,(Kx.refl _ _ _ w).alloc _⟩;clear h hA hM oK wZ d1 a0 h1 h2 hle h0 HE xJ HA HXx;go_enter func102,ntmps102;go_wp2_with fail
  exact aW (nG rfl _ _ (b:=w.heap.size) rfl (aI w _)) rfl ⟨_,_,_,rfl,HF⟩
theorem VS{M M':Mem}{f k:Nat}{an:An}(hM':qF fs M')(he:EvA fs f k an)(h0:(M f k).1=0)(ha:∀ i j,(M' i j).1=1↔(Aw M f k (1,(M f k).2) i j).1=1):qF fs (Aw M' f k (2,an))∧∀ i j,(Aw M' f k (2,an) i j).1=1↔(M i j).1=1:=by
 refine⟨fun i j=>?_,fun i j=>?_⟩
 ·by_cases e:i=f∧j=k
  ·obtain⟨rfl,rfl⟩:=e
   rw[mX];exact⟨ax _,fun _=>he⟩
  ·rw[jX M' f k _ e]
   exact hM' i j
 ·by_cases e:i=f∧j=k
  ·obtain⟨rfl,rfl⟩:=e
   rw[mX,h0];constructor<;>intro h<;>cases h
  ·rw[jX M' f k _ e,ha i j,jX M f k _ e]
theorem RG{N:Nat}(hL:RB w0 L fs N)(f k:Nat)(pub gs:Bool)(m n a:Nm)(ub:Nat)(h:Run w0 L fs M us w)(hM:qF fs M)(hc:cnt fs M≤N+1)(hk:(bI fs f)[k]?=some (.use pub m n gs a))(hub:w0.heap[ub]?=some (Om pub gs m n a))(CV:¬ L.S fs.length ub)(oK:∀ i j,(M i j).1=1→∃ t,X.on fs (t+1) (i,j)=some (f,k))(h0:(M f k).1=0) :
  bB 102 #[aH L.wb,ak f,ak k,aH ub] w (Fnd w0 L fs M us f k w):=by
 obtain⟨hil,hkl⟩:=mQ hk;have hA:=h.alloc (.cells #[ak 0,ak 0,ak 0,ak 0] 222);obtain⟨-,c1⟩:=hA.VR;obtain⟨fg,vZ,d1,d2,d3,d4⟩:=hA.files hil;rw[d1] at c1;have wZ:=hA.file hil;have g2:=aj _ _ 2 _ _ _ wZ;have hn16:=h.st.n;have Zy:=h.st.il f;have hi1:(f:Int)<(fs.length:Int):=au
 have hi2:(k:Int)<((bI fs f).length:Int):=au
 obtain⟨⟨a0,a1,a2,a3⟩,fz⟩:=hA.ans hil hkl;have q0:=fz (k*4);have hw0:=h.size;have hS:=h.st.lt;have hgl:=(h.st.gl f hil).1;have HXx:Hid (Kx L fs.length w0.heap.size (Al w) (w.alloc (.cells #[ak 0,ak 0,ak 0,ak 0] 222))):=Kx.refl _ _ _ _;rw[h0] at a0;have a0':(w.alloc (.cells #[ak 0,ak 0,ak 0,ak 0] 222)).cell? (aC (L.gb f) (k*4))=some (ak 0):=a0;have HA:=aA hA;have xJ:=aA hM;have HL:=aA hL;have HP:=aA oK;have HU:=aA hub;clear h hA hM oK wZ d1 a0 hL hub fz;go_enter func102,ntmps102
 go_upto_region 5 with fail
 generalize w.alloc (.cells #[ak 0,ak 0,ak 0,ak 0] 222)=W at *;obtain⟨r1,r2⟩:=(HA.o).ask hil hkl;have hM1:qF fs (Aw M f k (1,(M f k).2)):=fun i j=>by
  by_cases e:i=f∧j=k
  ·obtain⟨rfl,rfl⟩:=e
   rw[mX];exact⟨by show 1≤2;omega,fun h=>by cases h⟩
  ·rw[jX M f k _ e]
   exact(xJ.o) i j
 have hc1:cnt fs (Aw M f k (1,(M f k).2))≤N:=by
  have:=GZ (AB hk rfl) h0 (v:=(1,(M f k).2)) aT;omega
 have hp1:∀ i j,(Aw M f k (1,(M f k).2) i j).1=1→∃ t,X.on fs t (i,j)=some (f,k):=fun i j hij=>by
  by_cases e:i=f∧j=k
  ·obtain⟨rfl,rfl⟩:=e
   exact⟨0,rfl⟩
  ·rw[jX M f k _ e] at hij
   obtain⟨t,ht⟩:=(HP.o) i j hij;exact⟨t+1,ht⟩
 have HC:=aA ((HL.o) f k pub gs m n a ub _ us _ r1 hM1 hc1 hk HU.o CV hp1);have HR2:=aA r2;clear r1 r2 hM1 hc1 hp1 HL HP HU;go_wp2_with fail
 refine(HC.o).mono ?_;rintro e w2 ⟨tf,tt,er,rfl,H2⟩;obtain⟨x1,M',x2,x3,x4,x5⟩:=H2.o;obtain⟨⟨b0,b1,b2,b3⟩,fz⟩:=x2.ans hil hkl;have y0:=fz (k*4);have y1:=fz (k*4+1);have y2:=fz (k*4+2);have y3:=fz (k*4+3);obtain⟨k1,k2⟩:=x2.know hil hkl tf tt er;obtain⟨o1,o2⟩:=VS x3 x1 h0 x4;have HR3:=aA k1;have HX3:Hid (Kx L fs.length w0.heap.size (Al w) _):=((HXx.o).trans ((HR2.o).trans x5)).trans k2;have Zc:=aA o1;have Md:=aA o2;have HE:=aA x1;clear k1 k2 o1 o2 x1 x2 x3 x4 x5 fz H2 HC HR2 HXx HA xJ q0 a0' a1 a2 a3 c1 d4 g2
 go_upto_region 7 with fail
 generalize (((w2.setCell (aC (L.gb f) (k*4)) (ak 2)).setCell (aC (L.gb f) (k*4+1)) (ak tf)).setCell (aC (L.gb f) (k*4+2)) (ak tt)).setCell (aC (L.gb f) (k*4+3)) (ak er)=W3 at *;obtain⟨⟨e0,e1,e2,e3⟩,-⟩:=(HR3.o).ans hil hkl;rw[mX] at e0 e1 e2 e3;have e0':W3.cell? (aC (L.gb f) (k*4))=some (ak 2):=e0;have F6:W3.cell? (aC (L.gb f) (k*4+1))=some (ak tf):=e1;have e2':W3.cell? (aC (L.gb f) (k*4+2))=some (ak tt):=e2;have e3':W3.cell? (aC (L.gb f) (k*4+3))=some (ak er):=e3;obtain⟨s1,s2,s3⟩:=kJ HR3.o HX3.o hw0 hS (ak 2) (ak tf) (ak tt) (ak er);have m0:=aj _ _ 0 _ _ _ s1;have m1:=aj _ _ 1 _ _ _ s1;have m2:=aj _ _ 2 _ _ _ s1;have m3:=aj _ _ 3 _ _ _ s1;have z0:=bW _ _ 0 _ _ s1;have z1:=bW _ _ 1 _ _ s1;have z2:=bW _ _ 2 _ _ s1;have z3:=bW _ _ 3 _ _ s1;have HB:=aA s1;have HF:Hid (EvA fs f k (tf,tt,er)∧∃ M',Run w0 L fs M' us _∧qF fs M'∧(∀ i j,(M' i j).1=1↔(M i j).1=1)∧Kx L fs.length w0.heap.size w _):=⟨HE.o,_,s2,Zc.o,Md.o,s3⟩;clear s1 s2 s3 HE Zc Md HR3 HX3 e0 e1 e2 e3 b0 b1 b2 b3 y0 y1 y2 y3;go_wp2_with fail
 exact aW (nG rfl _ _ (b:=w.heap.size) rfl (jL HB.o)) rfl ⟨tf,tt,er,rfl,HF⟩
theorem Mx:∀ N,Rz w0 L fs N:=by
 intro N
 induction N with
 | zero =>
  intro f k pub gs m n a ub M us w h hM hc hk hub CV oK;refine Dc f k pub gs m n a ub h hM hk oK (fun h0=>?_);have:=GZ (AB hk rfl) h0 (v:=(1,(M f k).2)) aT;omega
 | succ N ih =>
  intro f k pub gs m n a ub M us w h hM hc hk hub CV oK;by_cases h0:(M f k).1=0
  ·exact RG (KA (Ay ih)) f k pub gs m n a ub h hM hc hk hub CV oK h0
  ·exact Dc f k pub gs m n a ub h hM hk oK h0
def Idle(M:Mem):Prop:=∀ i j,(M i j).1≠1
theorem RH(f k:Nat)(pub gs:Bool)(m n a:Nm)(ub:Nat)(h:Run w0 L fs M us w)(hM:qF fs M)(hI:Idle M)(hk:(bI fs f)[k]?=some (.use pub m n gs a))(hub:w0.heap[ub]?=some (Om pub gs m n a))(CV:¬ L.S fs.length ub) :
  bB 102 #[aH L.wb,ak f,ak k,aH ub] w (cK (.agg #[ak 2,ak (iC fs (h_ fs) f k).1,ak (iC fs (h_ fs) f k).2.1,ak (iC fs (h_ fs) f k).2.2]) fun w'=>Hid (∃ M',Run w0 L fs M' us w'∧qF fs M'∧Idle M'∧Kx L fs.length w0.heap.size w w')):=by
 refine(Mx (cnt fs M) f k pub gs m n a ub M us w h hM (ax _) hk hub CV (fun i j hij=>absurd hij (hI i j))).mono ?_;rintro e w' ⟨tf,tt,er,rfl,H⟩;obtain⟨x1,M',x2,x3,x4,x5⟩:=H.o;rw[x1.uses];exact⟨rfl,M',x2,x3,fun i j hij=>hI i j ((x4 i j).1 hij),x5⟩
theorem Oq(f k:Nat)(it:It)(h:Run w0 L fs M us w)(hM:qF fs M)(hI:Idle M)(hk:(bI fs f)[k]?=some it) :
  bB 150 #[aH L.wb,ak f,ak k] w (cK (.agg #[ak 2,ak (iC fs (h_ fs) f k).1,ak (iC fs (h_ fs) f k).2.1,ak (iC fs (h_ fs) f k).2.2]) fun w'=>Hid (∃ M',Run w0 L fs M' us w'∧qF fs M'∧Idle M'∧Kx L fs.length w0.heap.size w w')):=by
 refine(Ay (Mx (cnt fs M)) f k it M us w h hM (ax _) hk (fun _ i j hij=>absurd hij (hI i j))).mono ?_;rintro e w' ⟨tf,tt,er,rfl,H⟩;obtain⟨x1,M',x2,x3,x4,x5⟩:=H.o;rw[x1.uses];exact⟨rfl,M',x2,x3,fun i j hij=>hI i j ((x4 i j).1 hij),x5⟩
theorem aS0(a b c d:Int)(w:aG):(Instr.field 222 (.agg #[ak a,ak b,ak c,ak d]) 1).run prog w=.ok (.agg #[ak b,ak c]) w:=bC
def sF(w0:aG)(L:Lay)(fs:List Fl)(us:List X.U)(w w':aG):Prop:=∃ M',Run w0 L fs M' us w'∧qF fs M'∧Idle M'∧Kx L fs.length w0.heap.size w w'
theorem MB(B:Nat)(bv:Value)(sc:List (List Nm))(x:ah)(w:aG)(h:jN w B bv sc)(hx:x.length≤maxLen)(r:Option Nat)(hr:sight sc x=r) :
  bB 165 #[bv,.string (ba x)] w (cK (.tuple #[ak ((r.getD 0:Nat):Int),.bool r.isSome]) fun w'=>w'=w):=by
 subst hr;exact Rt B bv sc x w h hx
theorem Ci(hf:L.tf<fs.length)(n:Nm)(FN:EP 268435456 n)(bv:Value)(sc:List (List Nm))(h:Run w0 L fs M us w)(hM:qF fs M)(xK:Idle M)(hbk:jN w w0.heap.size bv sc)(tl:List X.U)(htl:exU L.tf (fH fs L.tf) sc (.var n)=tl)(hlim:us.length+tl.length≤1073741824) :
  bB 151 #[aH L.tb,.agg #[.string (ba n.1),ak n.2],bv] w (cK (.tuple #[]) fun w'=>Hid (sF w0 L fs (us++tl) w w')):=by
 have kA:Below w.heap.size w (w.alloc (.cells #[.string (ba n.1),ak n.2] 163)):=(aB _ w).alloc (ax _) _;have h1:=h.below kA;have hb1:=hbk.UK kA;have hN:=aI w (.cells #[.string (ba n.1),ak n.2] 163);obtain⟨k1,k2⟩:=FN;have hlen:n.1.length≤maxLen:=by unfold maxLen;omega
 have hn16:=h.st.n;have h0:=h.size;have hi1:(L.tf:Int)<(fs.length:Int):=au
 have HS:=aA h.st.lt;rw[exU] at htl;have lV:=aA kA;have xJ:=aA hM;have HId:=aA xK;clear kA h hbk hM xK;cases hsg:sight sc n.1 with
 | some i =>
  rw[hsg] at htl;have G7:X.f_ L.tf n 6 (L.tf,i,0)=tl:=htl;have HC:=aA (MB w0.heap.size bv sc n.1 _ hb1 hlen (some i) hsg);have HA:=aA (oJ n 6 L.tf i 0 (h1.below (aB _ _).drew) (by rw[G7];exact hlim));obtain⟨nv,-,t1,-⟩:=h1.cells;clear hb1 h1;go_enter func151,ntmps151;go_wp2_with fail
  refine(HC.o).mono ?_;rintro e w2 ⟨rfl,rfl⟩;generalize w.alloc (.cells #[.string (ba n.1),ak n.2] 163)=W at *;have n0:=aj W _ 0 _ _ _ hN;have n1:=aj W _ 1 _ _ _ hN;have e1:((some i).getD 0:Nat)=i:=rfl;rw[e1];have e2:(some i).isSome=true:=rfl;rw[e2];clear HC;go_wp2_with fail
  refine dB (S:=fun w'=>w'.cell? (aC L.tb 1)=some (ak L.tf)∧w'.cell? (aC w.heap.size 0)=some (.string (ba n.1))∧w'.cell? (aC w.heap.size 1)=some (ak n.2)) (z:=9) bC ?_;have hS:W.drew.cell? (aC L.tb 1)=some (ak L.tf)∧W.drew.cell? (aC w.heap.size 0)=some (.string (ba n.1))∧W.drew.cell? (aC w.heap.size 1)=some (ak n.2):=⟨t1,n0,n1⟩;iterate 8(refine oQ hS ?_;simp only[Act.put,aD,aO,aP])
  refine fw 8 fun K hK=>?_;go_simp;refine(HA.o).aX fun w3 H3=>?_;have G8:=(H3.o).2.made (b:=w.heap.size) HS.o hN h0 (fun cs d e=>by cases e);obtain⟨nv3,-,u1,-⟩:=(H3.o).1.cells;have HF:Hid (sF w0 L fs (us++tl) w w3):=by
   rw[← G7];exact⟨M,(H3.o).1,xJ.o,HId.o,(Kx.aN (lV.o).drew).trans (H3.o).2⟩
  dsimp only;refine hK.o _ _ (fun _=>⟨u1,cell_of_row w3 _ 0 _ _ _ G8,cell_of_row w3 _ 1 _ _ _ G8⟩) (fun _=>iF ?_);clear hK K hS HA H3 t1 n0 n1 u1 G8;go_wp2_with fail
  go_end0;exact⟨rfl,HF⟩
 | none =>
  rw[hsg] at htl;have aS1:X.f_ L.tf n 6 (fH fs L.tf n.1)=tl:=htl;have HC:=aA (MB w0.heap.size bv sc n.1 _ hb1 hlen none hsg);obtain⟨kk,hmp⟩:=(h1.below ((aB _ _).drew)).named hf;have hrun:=hmp.oV hlen;obtain⟨nv,t0,t1,-⟩:=h1.cells;obtain⟨-,c1⟩:=h1.VR;obtain⟨fg,vZ,d1,d2,d3,d4⟩:=h1.files hf;rw[d1] at c1;have g1:=aj _ _ 1 _ _ _ (h1.file hf);have HR:=aA h1;clear hb1 h1 hmp d1 htl;cases htp:iV (bI fs L.tf) n.1 with
  | none =>
   rw[htp] at hrun;have hrun':(Instr.lookup 73 (.map (some (L.nb L.tf))) (.string (ba n.1)) true).run prog (w.alloc (.cells #[.string (ba n.1),ak n.2] 163)).drew=.ok (.tuple #[ak 0,.bool false]) (w.alloc (.cells #[.string (ba n.1),ak n.2] 163)).drew:=hrun;clear hrun;go_enter func151,ntmps151;go_wp2_with fail
   refine(HC.o).mono ?_;rintro e w2 ⟨rfl,rfl⟩;generalize w.alloc (.cells #[.string (ba n.1),ak n.2] 163)=W at *;have n0:=aj W _ 0 _ _ _ hN;have n1:=aj W _ 1 _ _ _ hN;have rC:=bN hN;have e1:((none:Option Nat).getD 0:Nat)=0:=rfl;rw[e1];have e2:(none:Option Nat).isSome=false:=rfl;rw[e2];clear HC;go_wp2_with fail
   go_region_held3 (fun w'=>w'.cell? (aC L.tb 0)=some (aH L.wb)∧w'.cell? (aC L.tb 1)=some (ak L.tf)∧w'.cell? (aC L.wb 1)=some (.slice (b_ fg) fs.length vZ)∧w'.cell? (aC fg L.tf)=some (aH (L.fb L.tf))∧w'.cell? (aC (L.fb L.tf) 1)=some (.map (some (L.nb L.tf)))∧w'.cell? (aC w.heap.size 0)=some (.string (ba n.1))∧(Instr.lookup 73 (.map (some (L.nb L.tf))) (.string (ba n.1)) true).run prog w'=.ok (.tuple #[ak 0,.bool false]) w')
    (first|(with_reducible exact⟨t0,t1,c1,d4,g1,n0,hrun'⟩)|go_keep)
    (fail)
   have hKW:=(lV.o).drew;have HR2:=aA <| (HR.o).below ((aB _ W).drew);have t0':W.drew.cell? (aC L.tb 0)=some (aH L.wb):=t0;have t1':W.drew.cell? (aC L.tb 1)=some (ak L.tf):=t1;have n0':W.drew.cell? (aC w.heap.size 0)=some (.string (ba n.1)):=n0;have n1':W.drew.cell? (aC w.heap.size 1)=some (ak n.2):=n1;have hNd:W.drew.heap[w.heap.size]?=some (.cells #[.string (ba n.1),ak n.2] 163 (0,0)):=hN;have D8:w.heap.size<W.drew.heap.size:=rC;clear hrun' t0 t1 n0 n1 c1 d4 g1 hN rC HR lV;generalize W.drew=Wd at *;go_wp2_with fail
   have G7:X.f_ L.tf n 6 (-1,-1,4)=tl:=by rw[← aS1,fH,htp]
   refine dB (S:=fun w'=>w'.cell? (aC w.heap.size 0)=some (.string (ba n.1))∧w'.cell? (aC w.heap.size 1)=some (ak n.2)) (z:=3) bC ?_;have hS:Wd.drew.cell? (aC w.heap.size 0)=some (.string (ba n.1))∧Wd.drew.cell? (aC w.heap.size 1)=some (ak n.2):=⟨n0',n1'⟩;iterate 2(refine ny hS ?_;simp only[Act.put,aD,aO,aP])
   refine fw 2 fun K hK=>?_;go_simp;refine(tF _).aX fun w3 B3=>?_;have HR3:=aA <| (HR2.o).below (((aB _ Wd).drew).trans B3);have qz:=aA <| hKW.trans ((((aB _ Wd).drew).trans B3).mono hKW.size);go_simp;refine hK.o _ _ (fun _=>⟨iY B3 D8 hS.1,iY B3 D8 hS.2⟩) (fun hS2=>?_);clear hS hK K;have hS:=hS2 aS;clear hS2;refine fw 3 fun K hK=>?_;go_simp;refine(oJ n 6 (-1) (-1) 4 HR3.o (by rw[G7];exact hlim)).aX fun w4 H4=>?_;go_simp;refine hK.o _ _ (fun h=>absurd rfl h) (fun _=>iF ?_);clear hK K hS;have HF:Hid (sF w0 L fs (us++tl) w w4):=by
    rw[← G7];exact⟨M,(H4.o).1,xJ.o,HId.o,(Kx.aN qz.o).trans (H4.o).2⟩
   clear H4;go_wp2_with fail
   go_end0;exact⟨rfl,HF⟩
  | some k =>
   rw[htp] at hrun;have hrun':(Instr.lookup 73 (.map (some (L.nb L.tf))) (.string (ba n.1)) true).run prog (w.alloc (.cells #[.string (ba n.1),ak n.2] 163)).drew=.ok (.tuple #[ak (k:Nat),.bool true]) (w.alloc (.cells #[.string (ba n.1),ak n.2] 163)).drew:=hrun;clear hrun;go_enter func151,ntmps151;go_wp2_with fail
   refine(HC.o).mono ?_;rintro e w2 ⟨rfl,rfl⟩;generalize w.alloc (.cells #[.string (ba n.1),ak n.2] 163)=W at *;have n0:=aj W _ 0 _ _ _ hN;have n1:=aj W _ 1 _ _ _ hN;have rC:=bN hN;have e1:((none:Option Nat).getD 0:Nat)=0:=rfl;rw[e1];have e2:(none:Option Nat).isSome=false:=rfl;rw[e2];clear HC;go_wp2_with fail
   go_region_held3 (fun w'=>w'.cell? (aC L.tb 0)=some (aH L.wb)∧w'.cell? (aC L.tb 1)=some (ak L.tf)∧w'.cell? (aC L.wb 1)=some (.slice (b_ fg) fs.length vZ)∧w'.cell? (aC fg L.tf)=some (aH (L.fb L.tf))∧w'.cell? (aC (L.fb L.tf) 1)=some (.map (some (L.nb L.tf)))∧w'.cell? (aC w.heap.size 0)=some (.string (ba n.1))∧(Instr.lookup 73 (.map (some (L.nb L.tf))) (.string (ba n.1)) true).run prog w'=.ok (.tuple #[ak (k:Nat),.bool true]) w')
    (first|(with_reducible exact⟨t0,t1,c1,d4,g1,n0,hrun'⟩)|go_keep)
    (fail)
   have hKW:=(lV.o).drew;have HR2:=aA <| (HR.o).below ((aB _ W).drew);have t0':W.drew.cell? (aC L.tb 0)=some (aH L.wb):=t0;have t1':W.drew.cell? (aC L.tb 1)=some (ak L.tf):=t1;have n0':W.drew.cell? (aC w.heap.size 0)=some (.string (ba n.1)):=n0;have n1':W.drew.cell? (aC w.heap.size 1)=some (ak n.2):=n1;have hNd:W.drew.heap[w.heap.size]?=some (.cells #[.string (ba n.1),ak n.2] 163 (0,0)):=hN;have D8:w.heap.size<W.drew.heap.size:=rC;clear hrun' t0 t1 n0 n1 c1 d4 g1 hN rC HR lV;generalize W.drew=Wd at *;go_wp2_with fail
   have G7:X.f_ L.tf n 6 ((iC fs (h_ fs) L.tf k).1,(iC fs (h_ fs) L.tf k).2.1,0)=tl:=by rw[← aS1,fH,htp]
   obtain⟨it,hit,-⟩:=xI htp;have hfl:=aS0;refine dB (S:=fun w'=>w'.cell? (aC L.tb 0)=some (aH L.wb)∧w'.cell? (aC L.tb 1)=some (ak L.tf)∧w'.cell? (aC w.heap.size 0)=some (.string (ba n.1))∧w'.cell? (aC w.heap.size 1)=some (ak n.2)) (z:=14) bC ?_;have hS:Wd.drew.cell? (aC L.tb 0)=some (aH L.wb)∧Wd.drew.cell? (aC L.tb 1)=some (ak L.tf)∧Wd.drew.cell? (aC w.heap.size 0)=some (.string (ba n.1))∧Wd.drew.cell? (aC w.heap.size 1)=some (ak n.2):=⟨t0',t1',n0',n1'⟩;iterate 11(refine oQ hS ?_;simp only[Act.put,aD,aO,aP])
   refine fw 11 fun K hK=>?_;go_simp;refine(Oq L.tf k it ((HR2.o).below ((Below.refl _ Wd).drew)) xJ.o HId.o hit).aX fun w3 H3=>?_;obtain⟨M3,x1,x2,x3,x4⟩:=H3.o;have G8:=x4.made HS.o hNd h0 (fun cs d e=>by cases e);have HX3:=aA <| (Kx.aN (hKW.drew)).trans x4;obtain⟨nv3,u0,u1,-⟩:=x1.cells;dsimp only;refine hK.o _ _ (fun _=>⟨u0,u1,cell_of_row w3 _ 0 _ _ _ G8,cell_of_row w3 _ 1 _ _ _ G8⟩) (fun hS2=>?_);clear hS hK K;have hS:=hS2 aS;clear hS2;generalize hAn:(iC fs (h_ fs) L.tf k)=an at *;iterate 1(refine oQ hS ?_;simp only[Act.put,List.setIfInBounds_toArray,List.set_cons_zero,List.set_cons_succ])
   refine fw 13 fun K hK=>?_;go_simp;refine(oJ n 6 an.1 an.2.1 0 x1 (by rw[G7];exact hlim)).aX fun w4 H4=>?_;have hN4:=(H4.o).2.made HS.o G8 h0 (fun cs d e=>by cases e);obtain⟨nv4,v0,v1,-⟩:=(H4.o).1.cells;have HF:Hid (sF w0 L fs (us++tl) w w4):=by
    rw[← G7];exact⟨M3,(H4.o).1,x2,x3,(HX3.o).trans (H4.o).2⟩
   dsimp only;refine hK.o _ _ (fun _=>⟨v0,v1,cell_of_row w4 _ 0 _ _ _ hN4,cell_of_row w4 _ 1 _ _ _ hN4⟩) (fun _=>iF ?_);clear hK K hS H4 x1 x2 x3 x4 G8 hN4 u0 u1 v0 v1;go_wp2_with fail
   go_end0;exact⟨rfl,HF⟩
def yE(w0:aG)(L:Lay)(fs:List Fl)(lo hi:Nat)(e:Ex):Prop:=∀(M:Mem) (us:List X.U) (w:aG) (v bv:Value) (sc:List (List Nm)),Run w0 L fs M us w→qF fs M→Idle M→je w lo hi v e→jN w w0.heap.size bv sc→us.length+(exU L.tf (fH fs L.tf) sc e).length≤1073741824 →
 bB 126 #[aH L.tb,v,bv] w fun en w'=>en=.returned (.tuple #[])∧Hid (sF w0 L fs (us++exU L.tf (fH fs L.tf) sc e) w w')
theorem Ow(n:Nm)(x:ah):X.first [n] x=upd (fun _=>none) n.1 n.2 x:=by
 unfold X.first upd;by_cases e:x=n.1
 ·subst e;simp
 ·have:(n.1==x)=false:=by simpa using Ne.symm e
  simp[this,e]
theorem jN.ptr{B:Nat}{w:aG}{v:Value}{sc:List (List Nm)}(h:jN w B v sc):∃ pa,v=.pointer pa:=by cases h<;>exact⟨_,rfl⟩
theorem mkMap(t:TypeId)(w:aG):(Instr.makeMap t none).run prog w=.ok (.map (some w.heap.size)) (w.alloc (.map #[] 0)):=rfl
theorem RI{m0 n0:Int}{z0:Bool}(lo hi lb:Nat)(n:Nm)(v1 v2 bv:Value)(e1 e2:Ex)(sc:List (List Nm))(hv:Av L fs.length w0.heap.size lo hi)(h1:yE w0 L fs lo hi e1)(h2:yE w0 L fs lo hi e2)(FN:EP 268435456 n)(hlb:lo≤lb∧lb<hi)
  (hl:w.heap[lb]?=some (.cells #[ak m0,ak n0,.bool z0,.string (ba n.1),ak n.2,v1,v2] 301 (0,0))) (q1:je w lo hi v1 e1) (q2:je w lo hi v2 e2) (h:Run w0 L fs M us w) (hM:qF fs M) (xK:Idle M) (hbk:jN w w0.heap.size bv sc) (hlim:us.length+(exU L.tf (fH fs L.tf) sc (.kH n e1 e2)).length≤1073741824) :
  bB 152 #[aH L.tb,aH lb,bv] w fun en w'=>en=.returned (.tuple #[])∧Hid (sF w0 L fs (us++exU L.tf (fH fs L.tf) sc (.kH n e1 e2)) w w'):=by
 obtain⟨y1,g1,rfl⟩:=q1.iface;obtain⟨y2,g2,rfl⟩:=q2.iface;obtain⟨pa,rfl⟩:=hbk.ptr;have hmm:=mkMap;have h0:=h.size;have hlw:lb<w0.heap.size:=by have:=hv.top;omega
 obtain⟨nB1,nB2⟩:=FN;have hlen:n.1.length≤maxLen:=by unfold maxLen;omega
 have hn2:n.2≤9223372036854775807:=au
 have hS:=h.st.lt;have FX:exU L.tf (fH fs L.tf) sc (.kH n e1 e2)=jd L.tf n 2 0++(exU L.tf (fH fs L.tf) sc e1++exU L.tf (fH fs L.tf) ([n]::sc) e2):=by rw[exU]
 rw[FX] at hlim ⊢;generalize hE1:exU L.tf (fH fs L.tf) sc e1=E1 at *;generalize hE2:exU L.tf (fH fs L.tf) ([n]::sc) e2=E2 at *;rw[ay,ay] at hlim;have HV:=aA hv;have HB:=aA hbk;have Q1:=aA q1;have Q2:=aA q2;have HL:=aA hl;have HR:=aA h;have HM:=aA hM;have HI:=aA xK;have H1:=aA h1;have H2:=aA h2;have Jw:=aA hE1;have HE2:=aA hE2;have ug:=aA (vY n 2 0 HR.o au);have l0:=aj w _ 3 _ _ _ hl;have l1:=aj w _ 4 _ _ _ hl;clear hv hbk q1 q2 hl h hM xK h1 h2 hE1 hE2 FX;go_enter func152,ntmps152;go_wp2_with fail
 refine(ug.o).aX fun w2 X2=>?_;have kx2:=(X2.o).2;have hl2:=Kp.heap kx2 HL.o ((HV.o).sx w lb hlb.1 hlb.2);have HL2:=aA hl2;have l22:=aj w2 _ 5 _ _ _ hl2;have Q12:=aA ((Q1.o).keep kx2 ((HV.o).sx w));have Q22:=aA ((Q2.o).keep kx2 ((HV.o).sx w));have HB2:=aA ((HB.o).keep kx2 hS);have HR2:=aA (X2.o).1;have XW:=aA kx2;have nC:=aA ((H1.o) M _ w2 _ _ sc HR2.o HM.o HI.o Q12.o HB2.o (by rw[Jw.o,ay];omega));clear hl2 kx2 X2 l0 l1 ug Q1 Q2 HB HL HR Q12;go_wp2_with fail
 refine(nC.o).aX fun w3 X3=>?_;obtain⟨M3,r3,m3,i3,kx3⟩:=X3.o;have hl3:=Kp.heap kx3 HL2.o ((HV.o).sx w2 lb hlb.1 hlb.2);have HL3:=aA hl3;have l03:=aj w3 _ 3 _ _ _ hl3;have l13:=aj w3 _ 4 _ _ _ hl3;have l33:=aj w3 _ 6 _ _ _ hl3;have Q23:=aA ((Q22.o).keep kx3 ((HV.o).sx w2));have HB3:=aA ((HB2.o).keep kx3 hS);have HR3:=aA r3;have w_:=aA m3;have HI3:=aA i3;have KX3:=aA <| (XW.o).trans kx3;clear hl3 kx3 X3 r3 m3 i3 nC l22 Q22 HB2 HR2 HL2 XW;obtain⟨w5,hri,hm5,hk5⟩:=(Mp.made w3.drew).zq (by unfold maxLen;omega) (k:=n.1) hlen (i:=n.2) hn2;have cO7:(Instr.mapUpdate 73 (.map (some w3.heap.size)) (.string (ba n.1)) (ak n.2)).run prog (w3.alloc (.map #[] 0)).drew=.ok () w5:=hri;have hz3:w3.heap.size<(w3.drew.alloc (.map #[] 0)).heap.size:=by show w3.heap.size<(w3.drew.alloc (.map #[] 0)).heap.size;rw[fB];exact Nat.lt_succ_self _
 have hz5:=aJ hz3 hk5.size;have ZE:Kp (fun q=>q=w3.heap.size) w3 w5:=Kp.trans (((Kp.refl _ w3).drew).alloc _) hk5 (fun _ _ e=>e);have hw3:=(HR3.o).size;have hne:∀ q,q<w3.heap.size→¬ q=w3.heap.size:=fun q hq e=>au
 have hl5:=ZE.heap HL3.o (hne _ au);have kB:Below w5.heap.size w5 (w5.alloc (.cells #[.map (some w3.heap.size),.pointer pa] 299)):=(aB _ w5).alloc (ax _) _;have hR5:Run w0 L fs M3 _ w5:=Run.map ((HR3.o).below (((aB _ w3).drew).alloc (ax _) (.map #[] 0))) hk5 hw3 (Mp.obj (Mp.made w3.drew));have VT:Kx L fs.length w0.heap.size w3 w5:=ZE.mono (fun q hq e=>au);have VU:=VT.trans (Kx.aN kB);have hb6:(w5.alloc (.cells #[.map (some w3.heap.size),.pointer pa] 299)).heap[w5.heap.size]?=some (.cells #[.map (some w3.heap.size),.pointer pa] 299 (0,0)):=aI w5 _;have RJ:jN (w5.alloc (.cells #[.map (some w3.heap.size),.pointer pa] 299)) w0.heap.size (aH w5.heap.size) ([n]::sc) :=
  .cons _ _ _ [n] _ sc au hw3 hb6 ((hm5.below kB).congr (fun x=>(Ow n x).symm)) ((HB3.o).keep VU hS)
 have uh:=aA ((H2.o) M3 _ _ _ _ ([n]::sc) (hR5.below kB) w_.o HI3.o ((Q23.o).keep VU ((HV.o).sx w3)) RJ (by rw[HE2.o,ay,ay,Jw.o];omega));have HL6:=aA ((Kp.aN kB (fun _=>False)).heap hl5 id);have LW:=aA VU;have l05:=aj w5 _ 3 _ _ _ hl5;have l15:=aj w5 _ 4 _ _ _ hl5;have l35:=aj w5 _ 6 _ _ _ hl5;have l06:=aj _ _ 3 _ _ _ HL6.o;have l16:=aj _ _ 4 _ _ _ HL6.o;have l36:=aj _ _ 6 _ _ _ HL6.o;have l04:=Lib.cell?_alloc_some (.map #[] 0) l03;have l14:=Lib.cell?_alloc_some (.map #[] 0) l13;have l34:=Lib.cell?_alloc_some (.map #[] 0) l33;clear hm5 hk5 hz3 ZE hl5 kB hR5 VT VU hb6 RJ hne;go_wp2_with fail
 go_region_held3 (fun w'=>w'.cell? (aC lb 3)=some (.string (ba n.1))∧w'.cell? (aC lb 4)=some (ak n.2)∧w'.cell? (aC lb 6)=some (.iface y2 (aH g2)))
  (first|(with_reducible exact⟨l03,l13,l33⟩)|(with_reducible exact⟨l04,l14,l34⟩)|(with_reducible exact⟨l05,l15,l35⟩)|(with_reducible exact⟨l06,l16,l36⟩)|(with_reducible exact⟨l07,l17,l37⟩)|go_keep)
  ((go_at_call 126;refine(uh.o).aX fun w7 X7=>?_;obtain⟨M7,r7,m7,i7,x7⟩:=X7.o;have UN:=Kp.heap x7 HL6.o ((HV.o).sx _ lb hlb.1 hlb.2);have l07:=aj w7 _ 3 _ _ _ UN;have l17:=aj w7 _ 4 _ _ _ UN;have l37:=aj w7 _ 6 _ _ _ UN))
 have HF:Hid (sF w0 L fs (us++(jd L.tf n 2 0++(E1++E2))) w w7):=by
  refine⟨M7,?_,m7,i7,((KX3.o).trans LW.o).trans x7⟩;rw[Jw.o,HE2.o] at r7
  simpa using r7
 clear X7 r7 m7 i7 x7 UN l07 l17 l37;go_wp2_with fail
 go_end0;exact⟨rfl,HF⟩
end
section
variable{m0 n0:Int}{z0:Bool}
variable{w0:aG}{L:Lay}{fs:List Fl}{M:Mem}{us:List X.U}{w:aG}
theorem ZI(b:Nat)(w:aG):(Instr.typeAssert (.iface 274 (aH b)) 179 274 true).run prog w=.ok (.tuple #[aH b,.bool true]) w:=bC
theorem ZJ(b:Nat)(w:aG):(Instr.typeAssert (.iface 255 (aH b)) 179 274 true).run prog w=.ok (.tuple #[.pointer none,.bool false]) w:=bC
theorem ZK(b:Nat)(w:aG):(Instr.typeAssert (.iface 255 (aH b)) 179 255 true).run prog w=.ok (.tuple #[aH b,.bool true]) w:=bC
theorem ZL(b:Nat)(w:aG):(Instr.typeAssert (.iface 262 (aH b)) 179 274 true).run prog w=.ok (.tuple #[.pointer none,.bool false]) w:=bC
theorem ZM(b:Nat)(w:aG):(Instr.typeAssert (.iface 262 (aH b)) 179 255 true).run prog w=.ok (.tuple #[.pointer none,.bool false]) w:=bC
theorem ZN(b:Nat)(w:aG):(Instr.typeAssert (.iface 262 (aH b)) 179 262 true).run prog w=.ok (.tuple #[aH b,.bool true]) w:=bC
theorem RN(b:Nat)(n:Nm)(sc:List (List Nm))(bv:Value)(hf:L.tf<fs.length)(FN:EP 268435456 n)(hcell:w.heap[b]?=some (.cells #[ak m0,ak n0,.bool z0,.string (ba n.1),ak n.2] 276 (0,0)))
  (h:Run w0 L fs M us w) (hM:qF fs M) (xK:Idle M) (hbk:jN w w0.heap.size bv sc) (hlim:us.length+(exU L.tf (fH fs L.tf) sc (.var n)).length≤1073741824) :
  bB 126 #[aH L.tb,.iface 274 (aH b),bv] w fun en w'=>en=.returned (.tuple #[])∧Hid (sF w0 L fs (us++exU L.tf (fH fs L.tf) sc (.var n)) w w'):=by
 have av:=ZI b;have v0:=aj w _ 3 _ _ _ hcell;have v1:=aj w _ 4 _ _ _ hcell;have HC:=aA (Ci hf n FN bv sc h hM xK hbk _ rfl hlim);clear hcell h hM xK hbk hlim;go_enter func126,ntmps126;go_wp2_with fail
 refine(HC.o).aX fun w2 X2=>?_;clear HC;go_wp2_with fail
 go_end0;exact⟨rfl,X2⟩
theorem RO(lo hi b:Nat)(n:Nm)(v1 v2:Value)(e1 e2:Ex)(sc:List (List Nm))(bv:Value)(hv:Av L fs.length w0.heap.size lo hi)(h1:yE w0 L fs lo hi e1)(h2:yE w0 L fs lo hi e2)(FN:EP 268435456 n)(hb:lo≤b∧b<hi)(hcell:w.heap[b]?=some (.cells #[ak m0,ak n0,.bool z0,.string (ba n.1),ak n.2,v1,v2] 301 (0,0)))(q1:je w lo hi v1 e1)(q2:je w lo hi v2 e2)
  (h:Run w0 L fs M us w) (hM:qF fs M) (xK:Idle M) (hbk:jN w w0.heap.size bv sc) (hlim:us.length+(exU L.tf (fH fs L.tf) sc (.kH n e1 e2)).length≤1073741824) :
  bB 126 #[aH L.tb,.iface 255 (aH b),bv] w fun en w'=>en=.returned (.tuple #[])∧Hid (sF w0 L fs (us++exU L.tf (fH fs L.tf) sc (.kH n e1 e2)) w w'):=by
 have av:=ZJ b;have al:=ZK b;have HC:=aA (RI lo hi b n v1 v2 bv e1 e2 sc hv h1 h2 FN hb hcell q1 q2 h hM xK hbk hlim);clear hcell h hM xK hbk hlim hv h1 h2 q1 q2;go_enter func126,ntmps126;go_wp2_with fail
 refine(HC.o).aX fun w2 X2=>?_;clear HC;go_wp2_with fail
 go_end0;exact⟨rfl,X2⟩
theorem RP(lo hi b pb:Nat)(ns:List Nm)(v1:Value)(e1:Ex)(sc:List (List Nm))(bv:Value)(hv:Av L fs.length w0.heap.size lo hi)(h1:yE w0 L fs lo hi e1)(FN:∀ n∈ns,EP 268435456 n)(hb:lo≤b∧b<hi)(hcell:w.heap[b]?=some (.cells #[ak m0,ak n0,.bool z0,aH pb,v1] 297 (0,0)))(hp:mY w lo hi pb ns)(q1:je w lo hi v1 e1)
  (h:Run w0 L fs M us w) (hM:qF fs M) (xK:Idle M) (hbk:jN w w0.heap.size bv sc) (hlim:us.length+(exU L.tf (fH fs L.tf) sc (.fn ns e1)).length≤1073741824) :
  bB 126 #[aH L.tb,.iface 262 (aH b),bv] w fun en w'=>en=.returned (.tuple #[])∧Hid (sF w0 L fs (us++exU L.tf (fH fs L.tf) sc (.fn ns e1)) w w'):=by
 have av:=ZL b;have al:=ZM b;have af:=ZN b;obtain⟨y1,g1,rfl⟩:=q1.iface;have kD:Below w.heap.size w w.drew:=(aB _ w).drew;have v0:=aj w _ 3 _ _ _ hcell;have v1:=aj w _ 4 _ _ _ hcell;have hkd:=Kp.aN kD (fun _=>False);have FX:exU L.tf (fH fs L.tf) sc (.fn ns e1)=iL L.tf [] ns++exU L.tf (fH fs L.tf) (ns::sc) e1:=by rw[exU]
 rw[FX] at hlim ⊢;rw[ay] at hlim;have HC:=aA (yD lo hi pb ns bv sc hv (hp.keep hkd (fun _ _ _=>id)) FN (h.below kD) (hbk.UK kD) au);have nC:Hid (∀ w2 bp,Run w0 L fs M (us++iL L.tf [] ns) w2→je w2 lo hi (.iface y1 (aH g1)) e1→jN w2 w0.heap.size bp (ns::sc)→bB 126 #[aH L.tb,.iface y1 (aH g1),bp] w2 fun en w'=>en=.returned (.tuple #[])∧Hid (sF w0 L fs ((us++iL L.tf [] ns)++exU L.tf (fH fs L.tf) (ns::sc) e1) w2 w')):=fun w2 bp hr he hb2=>h1 M _ w2 _ bp (ns::sc) hr hM xK he hb2 (by rw[ay];omega)
 have HV:=aA hv;have FO:=aA hcell;have HQ:=aA (q1.keep hkd (fun _ _ _=>id));clear kD hcell h hM xK hbk hlim hv hkd h1 q1 hp FX FN;go_enter func126,ntmps126;go_wp2_with fail
 refine dB (S:=fun w'=>w'.cell? (aC b 3)=some (aH pb)∧w'.cell? (aC b 4)=some (.iface y1 (aH g1))) (z:=13) bC ?_;have hS:w.drew.cell? (aC b 3)=some (aH pb)∧w.drew.cell? (aC b 4)=some (.iface y1 (aH g1)):=⟨v0,v1⟩;iterate 11(refine oQ hS ?_;simp only[Act.put,aD,aO,aP])
 refine fw 11 fun K hK=>?_;go_simp;refine(HC.o).mono ?_;rintro e w2 ⟨nb,rfl,X2⟩;have x2:=(Kx.aN (Below.refl _ w).drew).trans (X2.o).2.1;have hc2:=Kp.heap x2 FO.o ((HV.o).sx _ b hb.1 hb.2);have uh:=aA ((nC.o) w2 _ (X2.o).1 ((HQ.o).keep (X2.o).2.1 ((HV.o).sx _)) (X2.o).2.2);dsimp only;refine hK.o _ _ (fun _=>⟨cell_of_row w2 _ 3 _ _ _ hc2,cell_of_row w2 _ 4 _ _ _ hc2⟩) (fun hS2=>?_);clear hS hK K HC;have hS:=hS2 aS;clear hS2;refine fw 12 fun K hK=>?_;go_simp;refine(uh.o).aX fun w3 X3=>?_;obtain⟨M3,r3,m3,i3,x3⟩:=X3.o;have hc3:=Kp.heap x3 hc2 ((HV.o).sx _ b hb.1 hb.2);have HF:Hid (sF w0 L fs (us++(iL L.tf [] ns++exU L.tf (fH fs L.tf) (ns::sc) e1)) w w3):=by
  refine⟨M3,?_,m3,i3,x2.trans x3⟩;rw[← aK];exact r3
 dsimp only;refine hK.o _ _ (fun _=>⟨cell_of_row w3 _ 3 _ _ _ hc3,cell_of_row w3 _ 4 _ _ _ hc3⟩) (fun _=>iF ?_);clear hK K hS X2 x2 hc2 X3 r3 m3 i3 x3 hc3 uh v0 v1;go_wp2_with fail
 go_end0;exact⟨rfl,HF⟩
end
end Go.Proofs.YtoohcklcppnafaaGreatDoor
