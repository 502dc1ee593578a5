/- Package scope: where an item leads. -/
import Derived.Test.YtdkpkpgpphkljaaGreatDoorJa
import Derived.Stop.Asserts
namespace Go.Proofs.YtdkpkpgpphkljaaGreatDoor
set_option maxRecDepth 100000
set_option maxHeartbeats 8000000
open Tryz
open Go.RowKit
open M
section
def WG(w0:World)(L:Lay)(fs:List X.Fl)(M:Mem)(us:List X.U)(f k:Nat)(w:World)(e:Ending)(w':World):Prop :=
 ∃(tf tt:Int) (er:Nat),e=.returned (.agg #[.int .i64 2,.int .i64 tf,.int .i64 tt,.int .i64 er])∧Hid (X.EvA fs f k (tf,tt,er)∧∃ M',Run w0 L fs M' us w'∧p9 fs M'∧(∀ i j,(M' i j).1=1↔(M i j).1=1)∧Kx L fs.length w0.heap.size w w')
def L8(pub gs:Bool)(m n a:X.Nm):Obj:=.cells #[.bool pub,.string (ba m.1),.int .i64 m.2,.string (ba n.1),.int .i64 n.2,.bool gs,.string (ba a.1),.int .i64 a.2] 166 (0,0)
def OM(w0:World)(L:Lay)(fs:List X.Fl)(N:Nat):Prop:=∀(f k:Nat) (pub gs:Bool) (m n a:X.Nm) (ub:Nat) (M:Mem) (us:List X.U) (w:World),Run w0 L fs M us w→p9 fs M→cnt fs M≤N→(X.aM fs f)[k]?=some (.use pub m n gs a)→w0.heap[ub]?=some (L8 pub gs m n a)→¬ L.S fs.length ub →
 (∀ i j,(M i j).1=1→∃ t,X.on fs (t+1) (i,j)=some (f,k))→Calls prog 104 #[.pointer (some ⟨L.wb,0,none⟩),.int .i64 f,.int .i64 k,.pointer (some ⟨ub,0,none⟩)] w (WG w0 L fs M us f k w)
def OO(w0:World)(L:Lay)(fs:List X.Fl)(N:Nat):Prop:=∀(f k:Nat) (it:X.It) (M:Mem) (us:List X.U) (w:World),Run w0 L fs M us w→p9 fs M→cnt fs M≤N→(X.aM fs f)[k]?=some it →
 (X.uE it=true→∀ i j,(M i j).1=1→∃ t,X.on fs (t+1) (i,j)=some (f,k))→Calls prog 163 #[.pointer (some ⟨L.wb,0,none⟩),.int .i64 f,.int .i64 k] w (WG w0 L fs M us f k w)
theorem jq{w0:World}{L:Lay}{fs:List X.Fl}{M:Mem}{us:List X.U}{w w2:World}(h:Run w0 L fs M us w2)(hk:Kx L fs.length w0.heap.size (w.alloc (.cells #[.int .i64 0,.int .i64 0,.int .i64 0,.int .i64 0] 263)) w2)(h0:w0.heap.size≤w.heap.size)(hS:∀ q,L.S fs.length q→q<w0.heap.size)(x0 x1 x2 x3:Value) :
  w2.heap[w.heap.size]?=some (.cells #[.int .i64 0,.int .i64 0,.int .i64 0,.int .i64 0] 263 (0,0)) ∧
  (Run w0 L fs M us ((((w2.setCell ⟨w.heap.size,0,none⟩ x0).setCell ⟨w.heap.size,1,none⟩ x1).setCell ⟨w.heap.size,2,none⟩ x2).setCell ⟨w.heap.size,3,none⟩ x3)) ∧
  Kx L fs.length w0.heap.size w ((((w2.setCell ⟨w.heap.size,0,none⟩ x0).setCell ⟨w.heap.size,1,none⟩ x1).setCell ⟨w.heap.size,2,none⟩ x2).setCell ⟨w.heap.size,3,none⟩ x3):=by
 have hb:w2.heap[w.heap.size]?=some (.cells #[.int .i64 0,.int .i64 0,.int .i64 0,.int .i64 0] 263 (0,0)):=hk.made hS (aB w _) h0 (fun cs d e=>by cases e);have hkp:∀(o:Nat) (v:Value) (W:World),Kp (fun q=>q=w.heap.size) w2 W→Kp (fun q=>q=w.heap.size) w2 (W.setCell ⟨w.heap.size,o,none⟩ v):=fun o v W hW=>Kp.setCell (S:=fun q=>q=w.heap.size) (p:=⟨w.heap.size,o,none⟩) hW (fun _=>rfl) v
 have hkk:=hkp 3 x3 _ (hkp 2 x2 _ (hkp 1 x1 _ (hkp 0 x0 _ (Kp.refl _ w2))));have Tw:∀ q,L.S fs.length q→q≠w.heap.size:=fun q hq e=>by have:=hS q hq;omega
 refine⟨hb,⟨h.st,h.kp.trans hkk (fun i hi e=>by omega),?_,fun i hi=>?_,h.lim⟩,?_⟩
 ·obtain⟨nv,y1,y2⟩:=h.tl
  refine⟨nv,hkk.heap y1 (Tw _ (.inl rfl)),hkk.owns y2 (fun q hq e=>?_)⟩;rcases y2.2 with ⟨rfl,-⟩|⟨g',cap',cur,rfl,hge,hgg,-⟩
  ·cases hq
  ·cases hq
   have e':g'=w.heap.size:=e;rw[e',hb] at hgg;cases hgg
 ·obtain⟨arr,y1,y2⟩:=h.fd i hi
  exact⟨arr,hkk.heap y1 (Tw _ (.inr ⟨i,hi,rfl⟩)),y2⟩
 ·have k1:Kx L fs.length w0.heap.size w w2:=Kx.trans ((Kx.refl _ _ _ w).alloc _) hk
  exact Kp.trans k1 hkk (fun i hi e=>by omega)
variable{w0:World}{L:Lay}{fs:List X.Fl}{M:Mem}{us:List X.U}{w:World}
theorem aF5(c:ByteArray)(a:Int)(w:World):(Instr.field 66 (.agg #[.string c,.int .i64 a]) 1).run prog w=.ok (.int .i64 a) w:=by kernel_rfl
theorem Ko(b:Nat)(w:World):(Instr.typeAssert (.iface 121 (.pointer (some ⟨b,0,none⟩))) 64 121 true).run prog w=.ok (.tuple #[.pointer (some ⟨b,0,none⟩),.bool true]) w:=by kernel_rfl
theorem Kr(b:Nat)(w:World):(Instr.typeAssert (.iface 68 (.pointer (some ⟨b,0,none⟩))) 64 121 true).run prog w=.ok (.tuple #[.pointer none,.bool false]) w:=by kernel_rfl
theorem zy{N:Nat}(hU:OM w0 L fs N):OO w0 L fs N:=by
 intro f k it M us w h hM hc hk nJ;obtain⟨hil,hkl⟩:=lC hk;obtain⟨g,cap,v,lo,hi,e1,e2,e3,e4,e5,e6,e7,e8⟩:=h.st.item hil hk;have hA:=h.alloc (.cells #[.int .i64 0,.int .i64 0,.int .i64 0,.int .i64 0] 263);obtain⟨-,c1⟩:=hA.Uh;obtain⟨fg,vk,d1,d2,d3,d4⟩:=hA.files hil;rw[d1] at c1;have hf:=hA.file hil;rw[e1] at hf;have f0:=ai _ _ 0 _ _ _ hf;have iv:=hA.kp.dY e4 e5;have hi1:(f:Int)<(fs.length:Int):=by omega
 have hn16:=h.st.n;have Xv:=h.st.il f;have hi2:(k:Int)<((X.aM fs f).length:Int):=by omega
 have h0:=h.size;have hS:=h.st.lt;have HA:=au hA;have wT:=au hM;have HP:=au nJ;have HH:=au h;clear hf h hA hM nJ d1 e1;cases e6 with
 | use ub pub gs m n a hb hub =>
  have HC:=au (hU f k pub gs m n a ub M us _ HA.o wT.o hc hk hub (e8 ub hb.1 hb.2) ((HP.o) rfl));have hat:=Ko ub;clear hub hU;go_enter func163,ntmps163;go_wp2_with fail
  refine(HC.o).mono ?_;rintro e w2 ⟨tf,tt,er,rfl,H2⟩;obtain⟨x1,M',x2,x3,x4,x5⟩:=H2.o;obtain⟨s1,s2,s3⟩:=jq x2 x5 h0 hS (.int .i64 2) (.int .i64 tf) (.int .i64 tt) (.int .i64 er);have m0:=ai w2 _ 0 _ _ _ s1;have m1:=ai w2 _ 1 _ _ _ s1;have m2:=ai w2 _ 2 _ _ _ s1;have m3:=ai w2 _ 3 _ _ _ s1;have z0:=bB w2 _ 0 _ _ s1;have z1:=bB w2 _ 1 _ _ s1;have z2:=bB w2 _ 2 _ _ s1;have z3:=bB w2 _ 3 _ _ s1;have HB:=au s1;have HF:Hid (X.EvA fs f k (tf,tt,er)∧∃ M',Run w0 L fs M' us _∧p9 fs M'∧(∀ i j,(M' i j).1=1↔(M i j).1=1)∧Kx L fs.length w0.heap.size w _):=⟨x1,M',s2,x3,x4,s3⟩;clear x1 x2 x3 x4 x5 s1 s2 s3 H2 HC HH HA wT HP hat
  go_wp2_with fail
  exact bI (l8 rfl _ _ (b:=w.heap.size) rfl (iI HB.o)) rfl ⟨tf,tt,er,rfl,HF⟩
 | dfn b pub n pv ps v e hb hd hp he =>
  have hd2:=(HA.o).kp.heap hd (e8 b hb.1 hb.2);have HC:=au (qh b pub n pv v _ _ _ hd2);have hat:=Kr b;have aF6:=aF5;have hst:X.wN fs f k=.inl (f,n.2,0):=by unfold X.wN;rw[hk]
  have HE:=au (X.EvA.fin hst);clear hd hd2 hU hp he hst;go_enter func163,ntmps163;go_wp2_with fail
  refine(HC.o).mono ?_;rintro e w2 ⟨rfl,B2⟩;obtain⟨s1,s2,s3⟩:=jq ((HA.o).below B2) (Kx.aI B2) h0 hS (.int .i64 2) (.int .i64 f) (.int .i64 n.2) (.int .i64 0);have m0:=ai w2 _ 0 _ _ _ s1;have m1:=ai w2 _ 1 _ _ _ s1;have m2:=ai w2 _ 2 _ _ _ s1;have m3:=ai w2 _ 3 _ _ _ s1;have z0:=bB w2 _ 0 _ _ s1;have z1:=bB w2 _ 1 _ _ s1;have z2:=bB w2 _ 2 _ _ s1;have z3:=bB w2 _ 3 _ _ s1;have HB:=au s1;have HF:Hid (X.EvA fs f k (f,n.2,0)∧∃ M',Run w0 L fs M' us _∧p9 fs M'∧(∀ i j,(M' i j).1=1↔(M i j).1=1)∧Kx L fs.length w0.heap.size w _):=⟨HE.o,M,s2,wT.o,fun _ _=>Iff.rfl,s3⟩;clear s1 s2 s3 B2 HC HH HA wT HP hat HE;go_wp2_with fail
  exact bI (l8 rfl _ _ (b:=w.heap.size) rfl (iI HB.o)) rfl ⟨f,n.2,0,rfl,HF⟩
end
section
variable{w0:World}{L:Lay}{fs:List X.Fl}{M:Mem}{us:List X.U}{w:World}
theorem zA{w:World}{lo hi:Nat}{v:Value}{it:X.It}(h:lG w lo hi v it)(b0:Bool)(hb0:X.shown it=b0):∃ b,(v=.iface 121 (.pointer (some ⟨b,0,none⟩))∧Calls prog 225 #[.pointer (some ⟨b,0,none⟩)] w fun e w'=>e=.returned (.bool b0)∧w'=w)∨(v=.iface 68 (.pointer (some ⟨b,0,none⟩))∧Calls prog 218 #[.pointer (some ⟨b,0,none⟩)] w fun e w'=>e=.returned (.bool b0)∧w'=w):=by
 subst hb0;cases h with
 | use b pub gs m n a hb h=>exact⟨b,.inl ⟨rfl,Dr b pub gs m n a w h⟩⟩
 | dfn b pub n pv ps v e hb h hp he=>exact⟨b,.inr ⟨rfl,Dt b pub n pv v _ _ w h⟩⟩
theorem yQ{x:ah}{f:Nat}(h:X.qC fs x=some f):f<fs.length:=by
 unfold X.qC at h
 split at h
 ·cases h
 ·exact(List.findIdx?_eq_some_iff_getElem.1 h).1
theorem L9(f k:Nat)(pub gs:Bool)(m n a:X.Nm)(hk:(X.aM fs f)[k]?=some (.use pub m n gs a)) :
  (X.qC fs m.1=none∧X.wN fs f k=.inl (-1,-1,4))∨∃ f',X.qC fs m.1=some f'∧((X.jo (X.aM fs f') n.1=none∧X.wN fs f k=.inl (-1,-1,4))∨∃ k' it,X.jo (X.aM fs f') n.1=some k'∧(X.aM fs f')[k']?=some it ∧
   ((X.shown it=false∧f'≠f∧X.wN fs f k=.inl (-1,-1,6))∨((X.shown it=true∨f'=f)∧∀ ans,X.EvA fs f' k' ans→X.EvA fs f k ans)∧(X.uE it=true→X.wN fs f k=.inr (f',k')))):=by
 have hst:X.wN fs f k=match X.qC fs m.1 with
  | none=>.inl (-1,-1,4)
  | some f'=>match X.jo (X.aM fs f') n.1 with
   | none=>.inl (-1,-1,4)
   | some k'=>match (X.aM fs f')[k']? with
    | none=>.inl (-1,-1,4)
    | some it=>if X.shown it=false∧f'≠f then .inl (-1,-1,6) else
     match it with
     | .dfn _ d _ _=>.inl (f',d.2,0)
     | .use _ _ _ _ _=>.inr (f',k'):=by
  unfold X.wN;simp only[hk];rfl
 cases hm:X.qC fs m.1 with
 | none=>rw[hm] at hst;exact .inl ⟨rfl,hst⟩
 | some f' =>
  rw[hm] at hst;refine .inr ⟨f',rfl,?_⟩;cases ht:X.jo (X.aM fs f') n.1 with
  | none=>simp only[ht] at hst;exact .inl ⟨rfl,hst⟩
  | some k' =>
   obtain⟨it,hit,-⟩:=X.qE ht;simp only[ht,hit] at hst;refine .inr ⟨k',it,rfl,hit,?_⟩;by_cases hs:X.shown it=false∧f'≠f
   ·rw[aL hs] at hst
    exact .inl ⟨hs.1,hs.2,hst⟩
   ·rw[aG hs] at hst
    right
    have h1:X.shown it=true∨f'=f:=by
     cases hb:X.shown it with
     | true=>exact .inl rfl
     | false =>
      right
      rcases Classical.em (f'=f) with g|g
      ·exact g
      ·exact absurd ⟨hb,g⟩ hs
    cases it with
    | use p2 m2 n2 gs2 a2=>exact⟨⟨h1,fun ans ha=>X.EvA.step (p:=(f',k')) hst ha⟩,fun _=>hst⟩
    | dfn p2 d ps b =>
     refine⟨⟨h1,fun ans ha=>?_⟩,fun h=>by cases h⟩;have e2:X.wN fs f' k'=.inl (f',d.2,0):=by unfold X.wN;rw[hit]
     rw[ha.one (X.EvA.fin e2)];exact X.EvA.fin hst
def Al(w:World):World:=w.alloc (.cells #[.int .i64 0,.int .i64 0,.int .i64 0,.int .i64 0] 263)
def OQ(w0:World)(L:Lay)(fs:List X.Fl)(N:Nat):Prop:=∀(f k:Nat) (pub gs:Bool) (m n a:X.Nm) (ub:Nat) (M:Mem) (us:List X.U) (w:World),Run w0 L fs M us w→p9 fs M→cnt fs M≤N→(X.aM fs f)[k]?=some (.use pub m n gs a)→w0.heap[ub]?=some (L8 pub gs m n a)→¬ L.S fs.length ub →
 (∀ i j,(M i j).1=1→∃ t,X.on fs t (i,j)=some (f,k))→Calls prog 132 #[.pointer (some ⟨L.wb,0,none⟩),.int .i64 f,.pointer (some ⟨ub,0,none⟩)] w (WG w0 L fs M us f k w)
theorem IC{N:Nat}(hI:OO w0 L fs N):OQ w0 L fs N:=by
 intro f k pub gs m n a ub M us w h hM hc hk hub AP nJ;have aV8:=h.NW hk;obtain⟨⟨mB,-⟩,⟨nB,-⟩,-⟩:=aV8;have hml:m.1.length≤maxLen:=by unfold maxLen;omega
 have hnl:n.1.length≤maxLen:=by unfold maxLen;omega
 have hA:=h.alloc (.cells #[.int .i64 0,.int .i64 0,.int .i64 0,.int .i64 0] 263);obtain⟨c0,c1⟩:=hA.Uh;have hu2:=hA.kp.heap hub AP;have u1:=ai _ _ 1 _ _ _ hu2;have u3:=ai _ _ 3 _ _ _ hu2;have h0:=h.size;have hS:=h.st.lt;have hn16:=h.st.n;obtain⟨kk,hmp⟩:=(hA.below ((ay _ _).drew)).mods;have hrun:=hmp.nV hml;have hil:=(lC hk).1;have HA:=au hA;have wT:=au hM;have HP:=au nJ;have HST:=au (L9 f k pub gs m n a hk);have HI:=au hI;have HK:=au hk;clear h hA hM nJ hu2 hub hmp hI hk;rcases HST.o with ⟨hm,hst⟩|⟨f',hm,hrest⟩
 ·rw[hm] at hrun
  have hrun':(Instr.lookup 103 (.map (some L.mb)) (.string (ba m.1)) true).run prog (w.alloc (.cells #[.int .i64 0,.int .i64 0,.int .i64 0,.int .i64 0] 263)).drew=.ok (.tuple #[.int .i64 0,.bool false]) (w.alloc (.cells #[.int .i64 0,.int .i64 0,.int .i64 0,.int .i64 0] 263)).drew:=hrun;clear hrun HST HI HK;go_enter func132,ntmps132;go_wp2_with fail
  have HX0:Hid (Kx L fs.length w0.heap.size (Al w) (w.alloc (.cells #[.int .i64 0,.int .i64 0,.int .i64 0,.int .i64 0] 263)).drew):=(Kx.refl _ _ _ _).drew;have HD0:Hid (Run w0 L fs M us (w.alloc (.cells #[.int .i64 0,.int .i64 0,.int .i64 0,.int .i64 0] 263)).drew):=(HA.o).below ((ay _ _).drew);generalize w.alloc (.cells #[.int .i64 0,.int .i64 0,.int .i64 0,.int .i64 0] 263)=W at *
  go_region_held3 (fun w'=>w'.cell? ⟨L.wb,0,none⟩=some (.map (some L.mb))∧w'.cell? ⟨ub,1,none⟩=some (.string (ba m.1))∧(Instr.lookup 103 (.map (some L.mb)) (.string (ba m.1)) true).run prog w'=.ok (.tuple #[.int .i64 0,.bool false]) w')
   (first|(with_reducible exact⟨c0,u1,hrun'⟩)|go_keep)
   (fail)
  have HD:=HD0;have HX:=HX0;clear hrun' HX0 HD0 c0 c1 u1 u3 HA;generalize W.drew=Wd at *;have HE:=au (X.EvA.fin hst);clear hst;go_wp2_with fail
  refine(tQ 4 _).mono ?_;rintro e w2 ⟨rfl,B2⟩;obtain⟨s1,s2,s3⟩:=jq ((HD.o).below B2) ((HX.o).trans (Kx.aI B2)) h0 hS (.int .i64 2) (.int .i64 (-1)) (.int .i64 (-1)) (.int .i64 4);have m0:=ai w2 _ 0 _ _ _ s1;have m1:=ai w2 _ 1 _ _ _ s1;have m2:=ai w2 _ 2 _ _ _ s1;have m3:=ai w2 _ 3 _ _ _ s1;have z0:=bB w2 _ 0 _ _ s1;have z1:=bB w2 _ 1 _ _ s1;have z2:=bB w2 _ 2 _ _ s1;have z3:=bB w2 _ 3 _ _ s1;have HB:=au s1;have HF:Hid (X.EvA fs f k (-1,-1,4)∧∃ M',Run w0 L fs M' us _∧p9 fs M'∧(∀ i j,(M' i j).1=1↔(M i j).1=1)∧Kx L fs.length w0.heap.size w _):=⟨HE.o,M,s2,wT.o,fun _ _=>Iff.rfl,s3⟩;clear s1 s2 s3 B2 HE HD HX wT HP;go_wp2_with fail
  exact bI (l8 rfl _ _ (b:=w.heap.size) rfl (iI HB.o)) rfl ⟨-1,-1,4,rfl,HF⟩
 ·rcases hrest with ⟨ht,hst⟩|⟨k',it,ht,hit,hrest⟩
  ·rw[hm] at hrun
   have hrun':(Instr.lookup 103 (.map (some L.mb)) (.string (ba m.1)) true).run prog (w.alloc (.cells #[.int .i64 0,.int .i64 0,.int .i64 0,.int .i64 0] 263)).drew=.ok (.tuple #[.int .i64 f',.bool true]) (w.alloc (.cells #[.int .i64 0,.int .i64 0,.int .i64 0,.int .i64 0] 263)).drew:=hrun;have hfl:=yQ hm;obtain⟨kk2,zC⟩:=((HA.o).below ((ay _ _).drew.drew)).named hfl;have oW:=zC.nV hnl;obtain⟨fg,vk,d1,d2,d3,d4⟩:=(HA.o).files hfl;rw[d1] at c1;have wO:=(HA.o).file hfl;have g0:=ai _ _ 0 _ _ _ wO;have g1:=ai _ _ 1 _ _ _ wO;have hi1:(f':Int)<(fs.length:Int):=by omega
   clear hrun zC wO d1;rw[ht] at oW;have oZ:(Instr.lookup 103 (.map (some (L.nb f'))) (.string (ba n.1)) true).run prog (w.alloc (.cells #[.int .i64 0,.int .i64 0,.int .i64 0,.int .i64 0] 263)).drew.drew=.ok (.tuple #[.int .i64 0,.bool false]) (w.alloc (.cells #[.int .i64 0,.int .i64 0,.int .i64 0,.int .i64 0] 263)).drew.drew:=oW;clear oW HST HI HK g0;go_enter func132,ntmps132;go_wp2_with fail
   have HX0:Hid (Kx L fs.length w0.heap.size (Al w) (w.alloc (.cells #[.int .i64 0,.int .i64 0,.int .i64 0,.int .i64 0] 263)).drew):=(Kx.refl _ _ _ _).drew;have HD0:Hid (Run w0 L fs M us (w.alloc (.cells #[.int .i64 0,.int .i64 0,.int .i64 0,.int .i64 0] 263)).drew):=(HA.o).below ((ay _ _).drew);generalize w.alloc (.cells #[.int .i64 0,.int .i64 0,.int .i64 0,.int .i64 0] 263)=W at *
   go_region_held3 (fun w'=>w'.cell? ⟨L.wb,0,none⟩=some (.map (some L.mb))∧w'.cell? ⟨ub,1,none⟩=some (.string (ba m.1))∧(Instr.lookup 103 (.map (some L.mb)) (.string (ba m.1)) true).run prog w'=.ok (.tuple #[.int .i64 f',.bool true]) w')
    (first|(with_reducible exact⟨c0,u1,hrun'⟩)|go_keep)
    (fail)
   clear hrun';have Xx:W.drew.cell? ⟨L.wb,1,none⟩=some (.slice (some ⟨fg,0,none⟩) fs.length vk):=c1;have Xy:W.drew.cell? ⟨fg,f',none⟩=some (.pointer (some ⟨L.fb f',0,none⟩)):=d4;have OT:W.drew.cell? ⟨L.fb f',1,none⟩=some (.map (some (L.nb f'))):=g1;have OU:W.drew.cell? ⟨ub,3,none⟩=some (.string (ba n.1)):=u3;clear c1 c0 u1 d4 g1 u3;go_wp2_with fail
   have l_:(Instr.lookup 103 (.map (some (L.nb f'))) (.string (ba n.1)) true).run prog W.drew.drew=.ok (.tuple #[.int .i64 0,.bool false]) W.drew.drew:=oZ
   go_region_held3 (fun w'=>w'.cell? ⟨L.fb f',1,none⟩=some (.map (some (L.nb f')))∧w'.cell? ⟨ub,3,none⟩=some (.string (ba n.1))∧(Instr.lookup 103 (.map (some (L.nb f'))) (.string (ba n.1)) true).run prog w'=.ok (.tuple #[.int .i64 0,.bool false]) w')
    (first|(with_reducible exact⟨OT,OU,l_⟩)|go_keep)
    (fail)
   have HD:Hid (Run w0 L fs M us W.drew.drew):=(HD0.o).below ((ay _ _).drew);have HX:Hid (Kx L fs.length w0.heap.size (Al w) W.drew.drew):=(HX0.o).drew;clear oZ l_ HX0 HD0 Xx Xy OU OT HA;generalize W.drew.drew=Wd at *;have HE:=au (X.EvA.fin hst);clear hst;go_wp2_with fail
   refine(tQ 4 _).mono ?_;rintro e w2 ⟨rfl,B2⟩;obtain⟨s1,s2,s3⟩:=jq ((HD.o).below B2) ((HX.o).trans (Kx.aI B2)) h0 hS (.int .i64 2) (.int .i64 (-1)) (.int .i64 (-1)) (.int .i64 4);have m0:=ai w2 _ 0 _ _ _ s1;have m1:=ai w2 _ 1 _ _ _ s1;have m2:=ai w2 _ 2 _ _ _ s1;have m3:=ai w2 _ 3 _ _ _ s1;have z0:=bB w2 _ 0 _ _ s1;have z1:=bB w2 _ 1 _ _ s1;have z2:=bB w2 _ 2 _ _ s1;have z3:=bB w2 _ 3 _ _ s1;have HB:=au s1;have HF:Hid (X.EvA fs f k (-1,-1,4)∧∃ M',Run w0 L fs M' us _∧p9 fs M'∧(∀ i j,(M' i j).1=1↔(M i j).1=1)∧Kx L fs.length w0.heap.size w _):=⟨HE.o,M,s2,wT.o,fun _ _=>Iff.rfl,s3⟩;clear s1 s2 s3 B2 HE HD HX wT HP;go_wp2_with fail
   exact bI (l8 rfl _ _ (b:=w.heap.size) rfl (iI HB.o)) rfl ⟨-1,-1,4,rfl,HF⟩
  ·rcases hrest with ⟨hsh,hne,hst⟩|⟨⟨aW0,hev⟩,hnx⟩
   ·have hn1:((f':Int)==f)=false:=by simp;omega
    have hn2:(!((f':Int)==f))=true:=by rw[hn1];rfl
    rw[hm] at hrun;have hrun':(Instr.lookup 103 (.map (some L.mb)) (.string (ba m.1)) true).run prog (w.alloc (.cells #[.int .i64 0,.int .i64 0,.int .i64 0,.int .i64 0] 263)).drew=.ok (.tuple #[.int .i64 f',.bool true]) (w.alloc (.cells #[.int .i64 0,.int .i64 0,.int .i64 0,.int .i64 0] 263)).drew:=hrun;have hfl:=yQ hm;obtain⟨kk2,zC⟩:=((HA.o).below ((ay _ _).drew.drew)).named hfl;have oW:=zC.nV hnl;obtain⟨fg,vk,d1,d2,d3,d4⟩:=(HA.o).files hfl;rw[d1] at c1;have wO:=(HA.o).file hfl;have g0:=ai _ _ 0 _ _ _ wO;have g1:=ai _ _ 1 _ _ _ wO;have hi1:(f':Int)<(fs.length:Int):=by omega
    clear hrun zC wO d1;rw[ht] at oW;have oZ:(Instr.lookup 103 (.map (some (L.nb f'))) (.string (ba n.1)) true).run prog (w.alloc (.cells #[.int .i64 0,.int .i64 0,.int .i64 0,.int .i64 0] 263)).drew.drew=.ok (.tuple #[.int .i64 k',.bool true]) (w.alloc (.cells #[.int .i64 0,.int .i64 0,.int .i64 0,.int .i64 0] 263)).drew.drew:=oW;obtain⟨ig,Fa,v',lo,hi,i1,i2,i3,i4,i5,i6,i7,i8⟩:=((HA.o).st).item hfl hit;rw[i1] at g0;have aF7:=(lC hit).2;have Xv:=((HA.o).st).il f';have hi2:(k':Int)<((X.aM fs f').length:Int):=by omega
    clear oW HST HK i1;go_enter func132,ntmps132;go_wp2_with fail
    have HX0:Hid (Kx L fs.length w0.heap.size (Al w) (w.alloc (.cells #[.int .i64 0,.int .i64 0,.int .i64 0,.int .i64 0] 263)).drew):=(Kx.refl _ _ _ _).drew;have HD0:Hid (Run w0 L fs M us (w.alloc (.cells #[.int .i64 0,.int .i64 0,.int .i64 0,.int .i64 0] 263)).drew):=(HA.o).below ((ay _ _).drew);generalize w.alloc (.cells #[.int .i64 0,.int .i64 0,.int .i64 0,.int .i64 0] 263)=W at *
    go_region_held3 (fun w'=>w'.cell? ⟨L.wb,0,none⟩=some (.map (some L.mb))∧w'.cell? ⟨ub,1,none⟩=some (.string (ba m.1))∧(Instr.lookup 103 (.map (some L.mb)) (.string (ba m.1)) true).run prog w'=.ok (.tuple #[.int .i64 f',.bool true]) w')
     (first|(with_reducible exact⟨c0,u1,hrun'⟩)|go_keep)
     (fail)
    clear hrun';have Xx:W.drew.cell? ⟨L.wb,1,none⟩=some (.slice (some ⟨fg,0,none⟩) fs.length vk):=c1;have Xy:W.drew.cell? ⟨fg,f',none⟩=some (.pointer (some ⟨L.fb f',0,none⟩)):=d4;have WH:W.drew.cell? ⟨L.fb f',0,none⟩=some (.slice (some ⟨ig,0,none⟩) (X.aM fs f').length Fa):=g0;have OT:W.drew.cell? ⟨L.fb f',1,none⟩=some (.map (some (L.nb f'))):=g1;have OU:W.drew.cell? ⟨ub,3,none⟩=some (.string (ba n.1)):=u3;clear c1 c0 u1 d4 g0 g1 u3;go_wp2_with fail
    have l_:(Instr.lookup 103 (.map (some (L.nb f'))) (.string (ba n.1)) true).run prog W.drew.drew=.ok (.tuple #[.int .i64 k',.bool true]) W.drew.drew:=oZ
    go_region_held3 (fun w'=>w'.cell? ⟨L.fb f',1,none⟩=some (.map (some (L.nb f')))∧w'.cell? ⟨ub,3,none⟩=some (.string (ba n.1))∧(Instr.lookup 103 (.map (some (L.nb f'))) (.string (ba n.1)) true).run prog w'=.ok (.tuple #[.int .i64 k',.bool true]) w')
     (first|(with_reducible exact⟨OT,OU,l_⟩)|go_keep)
     (fail)
    have HD:Hid (Run w0 L fs M us W.drew.drew):=(HD0.o).below ((ay _ _).drew);have HX:Hid (Kx L fs.length w0.heap.size (Al w) W.drew.drew):=(HX0.o).drew;clear oZ l_ HX0 HD0 Xx Xy OU OT HA;have HIT:=(HD.o).kp;have iv1:=HIT.dY i4 i5;have WI:=i6.keep HIT i8;obtain⟨ib,hcase⟩:=zA WI false hsh;clear HIT i4 i5 i6 WI i8;have g0e:W.drew.drew.cell? ⟨L.fb f',0,none⟩=some (.slice (some ⟨ig,0,none⟩) (X.aM fs f').length Fa):=WH;clear WH;generalize W.drew.drew=Wd at *;rcases hcase with ⟨rfl,Du⟩|⟨rfl,Du⟩
    all_goals
     have HC:=au Du;clear Du;go_wp2_with fail
     refine(HC.o).mono ?_;rintro e w3 ⟨rfl,rfl⟩;clear HC g0e iv1;clear HI hit;have HE:=au (X.EvA.fin hst);clear hst;go_wp2_with fail
     refine(tQ 6 _).mono ?_;rintro e w2 ⟨rfl,B2⟩;obtain⟨s1,s2,s3⟩:=jq ((HD.o).below B2) ((HX.o).trans (Kx.aI B2)) h0 hS (.int .i64 2) (.int .i64 (-1)) (.int .i64 (-1)) (.int .i64 6);have m0:=ai w2 _ 0 _ _ _ s1;have m1:=ai w2 _ 1 _ _ _ s1;have m2:=ai w2 _ 2 _ _ _ s1;have m3:=ai w2 _ 3 _ _ _ s1;have z0:=bB w2 _ 0 _ _ s1;have z1:=bB w2 _ 1 _ _ s1;have z2:=bB w2 _ 2 _ _ s1;have z3:=bB w2 _ 3 _ _ s1;have HB:=au s1;have HF:Hid (X.EvA fs f k (-1,-1,6)∧∃ M',Run w0 L fs M' us _∧p9 fs M'∧(∀ i j,(M' i j).1=1↔(M i j).1=1)∧Kx L fs.length w0.heap.size w _):=⟨HE.o,M,s2,wT.o,fun _ _=>Iff.rfl,s3⟩;clear s1 s2 s3 B2 HE HD HX wT HP;go_wp2_with fail
     exact bI (l8 rfl _ _ (b:=w.heap.size) rfl (iI HB.o)) rfl ⟨-1,-1,6,rfl,HF⟩
   ·cases hsh:X.shown it with
    | true =>
     rw[hm] at hrun;have hrun':(Instr.lookup 103 (.map (some L.mb)) (.string (ba m.1)) true).run prog (w.alloc (.cells #[.int .i64 0,.int .i64 0,.int .i64 0,.int .i64 0] 263)).drew=.ok (.tuple #[.int .i64 f',.bool true]) (w.alloc (.cells #[.int .i64 0,.int .i64 0,.int .i64 0,.int .i64 0] 263)).drew:=hrun;have hfl:=yQ hm;obtain⟨kk2,zC⟩:=((HA.o).below ((ay _ _).drew.drew)).named hfl;have oW:=zC.nV hnl;obtain⟨fg,vk,d1,d2,d3,d4⟩:=(HA.o).files hfl;rw[d1] at c1;have wO:=(HA.o).file hfl;have g0:=ai _ _ 0 _ _ _ wO;have g1:=ai _ _ 1 _ _ _ wO;have hi1:(f':Int)<(fs.length:Int):=by omega
     clear hrun zC wO d1;rw[ht] at oW;have oZ:(Instr.lookup 103 (.map (some (L.nb f'))) (.string (ba n.1)) true).run prog (w.alloc (.cells #[.int .i64 0,.int .i64 0,.int .i64 0,.int .i64 0] 263)).drew.drew=.ok (.tuple #[.int .i64 k',.bool true]) (w.alloc (.cells #[.int .i64 0,.int .i64 0,.int .i64 0,.int .i64 0] 263)).drew.drew:=oW;obtain⟨ig,Fa,v',lo,hi,i1,i2,i3,i4,i5,i6,i7,i8⟩:=((HA.o).st).item hfl hit;rw[i1] at g0;have aF7:=(lC hit).2;have Xv:=((HA.o).st).il f';have hi2:(k':Int)<((X.aM fs f').length:Int):=by omega
     clear oW HST HK i1;go_enter func132,ntmps132;go_wp2_with fail
     have HX0:Hid (Kx L fs.length w0.heap.size (Al w) (w.alloc (.cells #[.int .i64 0,.int .i64 0,.int .i64 0,.int .i64 0] 263)).drew):=(Kx.refl _ _ _ _).drew;have HD0:Hid (Run w0 L fs M us (w.alloc (.cells #[.int .i64 0,.int .i64 0,.int .i64 0,.int .i64 0] 263)).drew):=(HA.o).below ((ay _ _).drew);generalize w.alloc (.cells #[.int .i64 0,.int .i64 0,.int .i64 0,.int .i64 0] 263)=W at *
     go_region_held3 (fun w'=>w'.cell? ⟨L.wb,0,none⟩=some (.map (some L.mb))∧w'.cell? ⟨ub,1,none⟩=some (.string (ba m.1))∧(Instr.lookup 103 (.map (some L.mb)) (.string (ba m.1)) true).run prog w'=.ok (.tuple #[.int .i64 f',.bool true]) w')
      (first|(with_reducible exact⟨c0,u1,hrun'⟩)|go_keep)
      (fail)
     clear hrun';have Xx:W.drew.cell? ⟨L.wb,1,none⟩=some (.slice (some ⟨fg,0,none⟩) fs.length vk):=c1;have Xy:W.drew.cell? ⟨fg,f',none⟩=some (.pointer (some ⟨L.fb f',0,none⟩)):=d4;have WH:W.drew.cell? ⟨L.fb f',0,none⟩=some (.slice (some ⟨ig,0,none⟩) (X.aM fs f').length Fa):=g0;have OT:W.drew.cell? ⟨L.fb f',1,none⟩=some (.map (some (L.nb f'))):=g1;have OU:W.drew.cell? ⟨ub,3,none⟩=some (.string (ba n.1)):=u3;clear c1 c0 u1 d4 g0 g1 u3;go_wp2_with fail
     have l_:(Instr.lookup 103 (.map (some (L.nb f'))) (.string (ba n.1)) true).run prog W.drew.drew=.ok (.tuple #[.int .i64 k',.bool true]) W.drew.drew:=oZ
     go_region_held3 (fun w'=>w'.cell? ⟨L.fb f',1,none⟩=some (.map (some (L.nb f')))∧w'.cell? ⟨ub,3,none⟩=some (.string (ba n.1))∧(Instr.lookup 103 (.map (some (L.nb f'))) (.string (ba n.1)) true).run prog w'=.ok (.tuple #[.int .i64 k',.bool true]) w')
      (first|(with_reducible exact⟨OT,OU,l_⟩)|go_keep)
      (fail)
     have HD:Hid (Run w0 L fs M us W.drew.drew):=(HD0.o).below ((ay _ _).drew);have HX:Hid (Kx L fs.length w0.heap.size (Al w) W.drew.drew):=(HX0.o).drew;clear oZ l_ HX0 HD0 Xx Xy OU OT HA;have HIT:=(HD.o).kp;have iv1:=HIT.dY i4 i5;have WI:=i6.keep HIT i8;obtain⟨ib,hcase⟩:=zA WI true hsh;clear HIT i4 i5 i6 WI i8;have g0e:W.drew.drew.cell? ⟨L.fb f',0,none⟩=some (.slice (some ⟨ig,0,none⟩) (X.aM fs f').length Fa):=WH;clear WH;generalize W.drew.drew=Wd at *;rcases hcase with ⟨rfl,Du⟩|⟨rfl,Du⟩
     all_goals
      have HC:=au Du;clear Du;go_wp2_with fail
      refine(HC.o).mono ?_;rintro e w3 ⟨rfl,rfl⟩;clear HC g0e iv1;have HPn:Hid (X.uE it=true→∀ i j,(M i j).1=1→∃ t,X.on fs (t+1) (i,j)=some (f',k')):=fun hu i j hij=>by
       obtain⟨t,ht⟩:=(HP.o) i j hij;exact⟨t,X.Kt ht (hnx hu)⟩
      have HC:=au ((HI.o) f' k' it M us w3 HD.o wT.o hc hit HPn.o);have Uk:=au hev;clear HI hit HP HPn hnx hev;go_wp2_with fail
      refine(HC.o).mono ?_;rintro e w4 ⟨tf,tt,er,rfl,H4⟩;obtain⟨x1,M',x2,x3,x4,x5⟩:=H4.o;obtain⟨s1,s2,s3⟩:=jq x2 ((HX.o).trans x5) h0 hS (.int .i64 2) (.int .i64 tf) (.int .i64 tt) (.int .i64 er);have m0:=ai w4 _ 0 _ _ _ s1;have m1:=ai w4 _ 1 _ _ _ s1;have m2:=ai w4 _ 2 _ _ _ s1;have m3:=ai w4 _ 3 _ _ _ s1;have z0:=bB w4 _ 0 _ _ s1;have z1:=bB w4 _ 1 _ _ s1;have z2:=bB w4 _ 2 _ _ s1;have z3:=bB w4 _ 3 _ _ s1;have HB:=au s1;have HF:Hid (X.EvA fs f k (tf,tt,er)∧∃ M',Run w0 L fs M' us _∧p9 fs M'∧(∀ i j,(M' i j).1=1↔(M i j).1=1)∧Kx L fs.length w0.heap.size w _):=⟨(Uk.o) _ x1,M',s2,x3,x4,s3⟩;clear s1 s2 s3 x1 x2 x3 x4 x5 H4 HC HD HX wT Uk;go_wp2_with fail
      exact bI (l8 rfl _ _ (b:=w.heap.size) rfl (iI HB.o)) rfl ⟨tf,tt,er,rfl,HF⟩
    | false =>
     have wO:f'=f:=by
      rcases aW0 with h|h
      ·rw[hsh] at h;cases h
      ·exact h
     subst wO;rw[hm] at hrun;have hrun':(Instr.lookup 103 (.map (some L.mb)) (.string (ba m.1)) true).run prog (w.alloc (.cells #[.int .i64 0,.int .i64 0,.int .i64 0,.int .i64 0] 263)).drew=.ok (.tuple #[.int .i64 f',.bool true]) (w.alloc (.cells #[.int .i64 0,.int .i64 0,.int .i64 0,.int .i64 0] 263)).drew:=hrun;have hfl:=yQ hm;obtain⟨kk2,zC⟩:=((HA.o).below ((ay _ _).drew.drew)).named hfl;have oW:=zC.nV hnl;obtain⟨fg,vk,d1,d2,d3,d4⟩:=(HA.o).files hfl;rw[d1] at c1;have wO:=(HA.o).file hfl;have g0:=ai _ _ 0 _ _ _ wO;have g1:=ai _ _ 1 _ _ _ wO;have hi1:(f':Int)<(fs.length:Int):=by omega
     clear hrun zC wO d1;rw[ht] at oW;have oZ:(Instr.lookup 103 (.map (some (L.nb f'))) (.string (ba n.1)) true).run prog (w.alloc (.cells #[.int .i64 0,.int .i64 0,.int .i64 0,.int .i64 0] 263)).drew.drew=.ok (.tuple #[.int .i64 k',.bool true]) (w.alloc (.cells #[.int .i64 0,.int .i64 0,.int .i64 0,.int .i64 0] 263)).drew.drew:=oW;obtain⟨ig,Fa,v',lo,hi,i1,i2,i3,i4,i5,i6,i7,i8⟩:=((HA.o).st).item hfl hit;rw[i1] at g0;have aF7:=(lC hit).2;have Xv:=((HA.o).st).il f';have hi2:(k':Int)<((X.aM fs f').length:Int):=by omega
     clear oW HST HK i1;go_enter func132,ntmps132;go_wp2_with fail
     have HX0:Hid (Kx L fs.length w0.heap.size (Al w) (w.alloc (.cells #[.int .i64 0,.int .i64 0,.int .i64 0,.int .i64 0] 263)).drew):=(Kx.refl _ _ _ _).drew;have HD0:Hid (Run w0 L fs M us (w.alloc (.cells #[.int .i64 0,.int .i64 0,.int .i64 0,.int .i64 0] 263)).drew):=(HA.o).below ((ay _ _).drew);generalize w.alloc (.cells #[.int .i64 0,.int .i64 0,.int .i64 0,.int .i64 0] 263)=W at *
     go_region_held3 (fun w'=>w'.cell? ⟨L.wb,0,none⟩=some (.map (some L.mb))∧w'.cell? ⟨ub,1,none⟩=some (.string (ba m.1))∧(Instr.lookup 103 (.map (some L.mb)) (.string (ba m.1)) true).run prog w'=.ok (.tuple #[.int .i64 f',.bool true]) w')
      (first|(with_reducible exact⟨c0,u1,hrun'⟩)|go_keep)
      (fail)
     clear hrun';have Xx:W.drew.cell? ⟨L.wb,1,none⟩=some (.slice (some ⟨fg,0,none⟩) fs.length vk):=c1;have Xy:W.drew.cell? ⟨fg,f',none⟩=some (.pointer (some ⟨L.fb f',0,none⟩)):=d4;have WH:W.drew.cell? ⟨L.fb f',0,none⟩=some (.slice (some ⟨ig,0,none⟩) (X.aM fs f').length Fa):=g0;have OT:W.drew.cell? ⟨L.fb f',1,none⟩=some (.map (some (L.nb f'))):=g1;have OU:W.drew.cell? ⟨ub,3,none⟩=some (.string (ba n.1)):=u3;clear c1 c0 u1 d4 g0 g1 u3;go_wp2_with fail
     have l_:(Instr.lookup 103 (.map (some (L.nb f'))) (.string (ba n.1)) true).run prog W.drew.drew=.ok (.tuple #[.int .i64 k',.bool true]) W.drew.drew:=oZ
     go_region_held3 (fun w'=>w'.cell? ⟨L.fb f',1,none⟩=some (.map (some (L.nb f')))∧w'.cell? ⟨ub,3,none⟩=some (.string (ba n.1))∧(Instr.lookup 103 (.map (some (L.nb f'))) (.string (ba n.1)) true).run prog w'=.ok (.tuple #[.int .i64 k',.bool true]) w')
      (first|(with_reducible exact⟨OT,OU,l_⟩)|go_keep)
      (fail)
     have HD:Hid (Run w0 L fs M us W.drew.drew):=(HD0.o).below ((ay _ _).drew);have HX:Hid (Kx L fs.length w0.heap.size (Al w) W.drew.drew):=(HX0.o).drew;clear oZ l_ HX0 HD0 Xx Xy OU OT HA;have HIT:=(HD.o).kp;have iv1:=HIT.dY i4 i5;have WI:=i6.keep HIT i8;obtain⟨ib,hcase⟩:=zA WI false hsh;clear HIT i4 i5 i6 WI i8;have g0e:W.drew.drew.cell? ⟨L.fb f',0,none⟩=some (.slice (some ⟨ig,0,none⟩) (X.aM fs f').length Fa):=WH;clear WH;generalize W.drew.drew=Wd at *;rcases hcase with ⟨rfl,Du⟩|⟨rfl,Du⟩
     all_goals
      have HC:=au Du;clear Du;go_wp2_with fail
      refine(HC.o).mono ?_;rintro e w3 ⟨rfl,rfl⟩;clear HC g0e iv1;have HPn:Hid (X.uE it=true→∀ i j,(M i j).1=1→∃ t,X.on fs (t+1) (i,j)=some (f',k')):=fun hu i j hij=>by
       obtain⟨t,ht⟩:=(HP.o) i j hij;exact⟨t,X.Kt ht (hnx hu)⟩
      have HC:=au ((HI.o) f' k' it M us w3 HD.o wT.o hc hit HPn.o);have Uk:=au hev;clear HI hit HP HPn hnx hev;go_wp2_with fail
      refine(HC.o).mono ?_;rintro e w4 ⟨tf,tt,er,rfl,H4⟩;obtain⟨x1,M',x2,x3,x4,x5⟩:=H4.o;obtain⟨s1,s2,s3⟩:=jq x2 ((HX.o).trans x5) h0 hS (.int .i64 2) (.int .i64 tf) (.int .i64 tt) (.int .i64 er);have m0:=ai w4 _ 0 _ _ _ s1;have m1:=ai w4 _ 1 _ _ _ s1;have m2:=ai w4 _ 2 _ _ _ s1;have m3:=ai w4 _ 3 _ _ _ s1;have z0:=bB w4 _ 0 _ _ s1;have z1:=bB w4 _ 1 _ _ s1;have z2:=bB w4 _ 2 _ _ s1;have z3:=bB w4 _ 3 _ _ s1;have HB:=au s1;have HF:Hid (X.EvA fs f' k (tf,tt,er)∧∃ M',Run w0 L fs M' us _∧p9 fs M'∧(∀ i j,(M' i j).1=1↔(M i j).1=1)∧Kx L fs.length w0.heap.size w _):=⟨(Uk.o) _ x1,M',s2,x3,x4,s3⟩;clear s1 s2 s3 x1 x2 x3 x4 x5 H4 HC HD HX wT Uk;go_wp2_with fail
      exact bI (l8 rfl _ _ (b:=w.heap.size) rfl (iI HB.o)) rfl ⟨tf,tt,er,rfl,HF⟩
theorem BR(f k:Nat)(pub gs:Bool)(m n a:X.Nm)(ub:Nat)(h:Run w0 L fs M us w)(hM:p9 fs M)(hk:(X.aM fs f)[k]?=some (.use pub m n gs a))(nJ:∀ i j,(M i j).1=1→∃ t,X.on fs (t+1) (i,j)=some (f,k))(h0:(M f k).1≠0) :
  Calls prog 104 #[.pointer (some ⟨L.wb,0,none⟩),.int .i64 f,.int .i64 k,.pointer (some ⟨ub,0,none⟩)] w (WG w0 L fs M us f k w):=by
 obtain⟨hil,hkl⟩:=lC hk;have hA:=h.alloc (.cells #[.int .i64 0,.int .i64 0,.int .i64 0,.int .i64 0] 263);obtain⟨-,c1⟩:=hA.Uh;obtain⟨fg,vk,d1,d2,d3,d4⟩:=hA.files hil;rw[d1] at c1;have wO:=hA.file hil;have g2:=ai _ _ 2 _ _ _ wO;have hn16:=h.st.n;have Xv:=h.st.il f;have hi1:(f:Int)<(fs.length:Int):=by omega
 have hi2:(k:Int)<((X.aM fs f).length:Int):=by omega
 obtain⟨⟨a0,a1,a2,a3⟩,-⟩:=hA.ans hil hkl;have hw0:=h.size;have hS:=h.st.lt;have hle:=(hM f k).1;have hsz:w.heap.size<(w.alloc (.cells #[.int .i64 0,.int .i64 0,.int .i64 0,.int .i64 0] 263)).heap.size:=by simp
 have HA:=au hA;have wT:=au hM;have ZQ:Hid (Kx L fs.length w0.heap.size (Al w) (w.alloc (.cells #[.int .i64 0,.int .i64 0,.int .i64 0,.int .i64 0] 263))):=Kx.refl _ _ _ _;by_cases h1:(M f k).1=1
 ·obtain⟨t,ht⟩:=nJ f k h1
  have HE:=au (X.EvA.ring ht);rw[h1] at a0;have a0':(w.alloc (.cells #[.int .i64 0,.int .i64 0,.int .i64 0,.int .i64 0] 263)).cell? ⟨L.gb f,k*4,none⟩=some (.int .i64 1):=a0;clear h hA hM nJ wO d1 a0 h1 ht hle h0;go_enter func104,ntmps104;go_wp2_with fail
  refine(tQ 7 _).mono ?_;rintro e w2 ⟨rfl,B2⟩;obtain⟨s1,s2,s3⟩:=jq ((HA.o).below B2) ((ZQ.o).trans (Kx.aI B2)) hw0 hS (.int .i64 2) (.int .i64 (-1)) (.int .i64 (-1)) (.int .i64 7);have m0:=ai w2 _ 0 _ _ _ s1;have m1:=ai w2 _ 1 _ _ _ s1;have m2:=ai w2 _ 2 _ _ _ s1;have m3:=ai w2 _ 3 _ _ _ s1;have z0:=bB w2 _ 0 _ _ s1;have z1:=bB w2 _ 1 _ _ s1;have z2:=bB w2 _ 2 _ _ s1;have z3:=bB w2 _ 3 _ _ s1;have HB:=au s1;have HF:Hid (X.EvA fs f k (-1,-1,7)∧∃ M',Run w0 L fs M' us _∧p9 fs M'∧(∀ i j,(M' i j).1=1↔(M i j).1=1)∧Kx L fs.length w0.heap.size w _):=⟨HE.o,M,s2,wT.o,fun _ _=>Iff.rfl,s3⟩;clear s1 s2 s3 B2 HE HA ZQ wT a0' a1 a2 a3 g2 c1 d4;go_wp2_with fail
  exact bI (l8 rfl _ _ (b:=w.heap.size) rfl (iI HB.o)) rfl ⟨-1,-1,7,rfl,HF⟩
 ·have h2:(M f k).1=2:=by omega
  have HE:=au ((hM f k).2 h2);rw[h2] at a0;have a0':(w.alloc (.cells #[.int .i64 0,.int .i64 0,.int .i64 0,.int .i64 0] 263)).cell? ⟨L.gb f,k*4,none⟩=some (.int .i64 2):=a0;have HF:Hid (X.EvA fs f k ((M f k).2.1,(M f k).2.2.1,(M f k).2.2.2)∧∃ M',Run w0 L fs M' us (w.alloc (.cells #[.int .i64 2,.int .i64 (M f k).2.1,.int .i64 (M f k).2.2.1,.int .i64 (M f k).2.2.2] 263))∧p9 fs M'∧(∀ i j,(M' i j).1=1↔(M i j).1=1)∧Kx L fs.length w0.heap.size w (w.alloc (.cells #[.int .i64 2,.int .i64 (M f k).2.1,.int .i64 (M f k).2.2.1,.int .i64 (M f k).2.2.2] 263))):=⟨HE.o,M,h.alloc _,wT.o,fun _ _=>Iff.rfl,(Kx.refl _ _ _ w).alloc _⟩;clear h hA hM nJ wO d1 a0 h1 h2 hle h0 HE wT HA ZQ;go_enter func104,ntmps104;go_wp2_with fail
  exact bI (l8 rfl _ _ (b:=w.heap.size) rfl (aB w _)) rfl ⟨_,_,_,rfl,HF⟩
theorem Ul{M M':Mem}{f k:Nat}{an:X.An}(hM':p9 fs M')(he:X.EvA fs f k an)(h0:(M f k).1=0)(ha:∀ i j,(M' i j).1=1↔(zx M f k (1,(M f k).2) i j).1=1):p9 fs (zx M' f k (2,an))∧∀ i j,(zx M' f k (2,an) i j).1=1↔(M i j).1=1:=by
 refine⟨fun i j=>?_,fun i j=>?_⟩
 ·by_cases e:i=f∧j=k
  ·obtain⟨rfl,rfl⟩:=e
   rw[lN];exact⟨aj _,fun _=>he⟩
  ·rw[jc M' f k _ e]
   exact hM' i j
 ·by_cases e:i=f∧j=k
  ·obtain⟨rfl,rfl⟩:=e
   rw[lN,h0];constructor<;>intro h<;>cases h
  ·rw[jc M' f k _ e,ha i j,jc M f k _ e]
theorem OV{N:Nat}(hL:OQ w0 L fs N)(f k:Nat)(pub gs:Bool)(m n a:X.Nm)(ub:Nat)(h:Run w0 L fs M us w)(hM:p9 fs M)(hc:cnt fs M≤N+1)(hk:(X.aM fs f)[k]?=some (.use pub m n gs a))(hub:w0.heap[ub]?=some (L8 pub gs m n a))(AP:¬ L.S fs.length ub)(nJ:∀ i j,(M i j).1=1→∃ t,X.on fs (t+1) (i,j)=some (f,k))(h0:(M f k).1=0) :
  Calls prog 104 #[.pointer (some ⟨L.wb,0,none⟩),.int .i64 f,.int .i64 k,.pointer (some ⟨ub,0,none⟩)] w (WG w0 L fs M us f k w):=by
 obtain⟨hil,hkl⟩:=lC hk;have hA:=h.alloc (.cells #[.int .i64 0,.int .i64 0,.int .i64 0,.int .i64 0] 263);obtain⟨-,c1⟩:=hA.Uh;obtain⟨fg,vk,d1,d2,d3,d4⟩:=hA.files hil;rw[d1] at c1;have wO:=hA.file hil;have g2:=ai _ _ 2 _ _ _ wO;have hn16:=h.st.n;have Xv:=h.st.il f;have hi1:(f:Int)<(fs.length:Int):=by omega
 have hi2:(k:Int)<((X.aM fs f).length:Int):=by omega
 obtain⟨⟨a0,a1,a2,a3⟩,fz⟩:=hA.ans hil hkl;have q0:=fz (k*4);have hw0:=h.size;have hS:=h.st.lt;have hgl:=(h.st.gl f hil).1;have ZQ:Hid (Kx L fs.length w0.heap.size (Al w) (w.alloc (.cells #[.int .i64 0,.int .i64 0,.int .i64 0,.int .i64 0] 263))):=Kx.refl _ _ _ _;rw[h0] at a0;have a0':(w.alloc (.cells #[.int .i64 0,.int .i64 0,.int .i64 0,.int .i64 0] 263)).cell? ⟨L.gb f,k*4,none⟩=some (.int .i64 0):=a0;have HA:=au hA;have wT:=au hM;have HL:=au hL;have HP:=au nJ;have HU:=au hub;clear h hA hM nJ wO d1 a0 hL hub fz;go_enter func104,ntmps104
 go_upto_region 5 with fail
 generalize w.alloc (.cells #[.int .i64 0,.int .i64 0,.int .i64 0,.int .i64 0] 263)=W at *;obtain⟨r1,r2⟩:=(HA.o).ask hil hkl;have hM1:p9 fs (zx M f k (1,(M f k).2)):=fun i j=>by
  by_cases e:i=f∧j=k
  ·obtain⟨rfl,rfl⟩:=e
   rw[lN];exact⟨by show 1≤2;omega,fun h=>by cases h⟩
  ·rw[jc M f k _ e]
   exact(wT.o) i j
 have hc1:cnt fs (zx M f k (1,(M f k).2))≤N:=by
  have:=E_ (X.zD hk rfl) h0 (v:=(1,(M f k).2)) (by simp);omega
 have hp1:∀ i j,(zx M f k (1,(M f k).2) i j).1=1→∃ t,X.on fs t (i,j)=some (f,k):=fun i j hij=>by
  by_cases e:i=f∧j=k
  ·obtain⟨rfl,rfl⟩:=e
   exact⟨0,rfl⟩
  ·rw[jc M f k _ e] at hij
   obtain⟨t,ht⟩:=(HP.o) i j hij;exact⟨t+1,ht⟩
 have HC:=au ((HL.o) f k pub gs m n a ub _ us _ r1 hM1 hc1 hk HU.o AP hp1);have HR2:=au r2;clear r1 r2 hM1 hc1 hp1 HL HP HU;go_wp2_with fail
 refine(HC.o).mono ?_;rintro e w2 ⟨tf,tt,er,rfl,H2⟩;obtain⟨x1,M',x2,x3,x4,x5⟩:=H2.o;obtain⟨⟨b0,b1,b2,b3⟩,fz⟩:=x2.ans hil hkl;have y0:=fz (k*4);have y1:=fz (k*4+1);have y2:=fz (k*4+2);have y3:=fz (k*4+3);obtain⟨k1,k2⟩:=x2.know hil hkl tf tt er;obtain⟨o1,o2⟩:=Ul x3 x1 h0 x4;have HR3:=au k1;have HX3:Hid (Kx L fs.length w0.heap.size (Al w) _):=((ZQ.o).trans ((HR2.o).trans x5)).trans k2;have HO1:=au o1;have OW:=au o2;have HE:=au x1;clear k1 k2 o1 o2 x1 x2 x3 x4 x5 fz H2 HC HR2 ZQ HA wT q0 a0' a1 a2 a3 c1 d4 g2
 go_upto_region 7 with fail
 generalize (((w2.setCell ⟨L.gb f,k*4,none⟩ (.int .i64 2)).setCell ⟨L.gb f,k*4+1,none⟩ (.int .i64 tf)).setCell ⟨L.gb f,k*4+2,none⟩ (.int .i64 tt)).setCell ⟨L.gb f,k*4+3,none⟩ (.int .i64 er)=W3 at *;obtain⟨⟨e0,e1,e2,e3⟩,-⟩:=(HR3.o).ans hil hkl;rw[lN] at e0 e1 e2 e3;have e0':W3.cell? ⟨L.gb f,k*4,none⟩=some (.int .i64 2):=e0;have ZR:W3.cell? ⟨L.gb f,k*4+1,none⟩=some (.int .i64 tf):=e1;have e2':W3.cell? ⟨L.gb f,k*4+2,none⟩=some (.int .i64 tt):=e2;have e3':W3.cell? ⟨L.gb f,k*4+3,none⟩=some (.int .i64 er):=e3;obtain⟨s1,s2,s3⟩:=jq HR3.o HX3.o hw0 hS (.int .i64 2) (.int .i64 tf) (.int .i64 tt) (.int .i64 er);have m0:=ai _ _ 0 _ _ _ s1;have m1:=ai _ _ 1 _ _ _ s1;have m2:=ai _ _ 2 _ _ _ s1;have m3:=ai _ _ 3 _ _ _ s1;have z0:=bB _ _ 0 _ _ s1;have z1:=bB _ _ 1 _ _ s1;have z2:=bB _ _ 2 _ _ s1;have z3:=bB _ _ 3 _ _ s1;have HB:=au s1;have HF:Hid (X.EvA fs f k (tf,tt,er)∧∃ M',Run w0 L fs M' us _∧p9 fs M'∧(∀ i j,(M' i j).1=1↔(M i j).1=1)∧Kx L fs.length w0.heap.size w _):=⟨HE.o,_,s2,HO1.o,OW.o,s3⟩;clear s1 s2 s3 HE HO1 OW HR3 HX3 e0 e1 e2 e3 b0 b1 b2 b3 y0 y1 y2 y3;go_wp2_with fail
 exact bI (l8 rfl _ _ (b:=w.heap.size) rfl (iI HB.o)) rfl ⟨tf,tt,er,rfl,HF⟩
theorem Ku:∀ N,OM w0 L fs N:=by
 intro N
 induction N with
 | zero =>
  intro f k pub gs m n a ub M us w h hM hc hk hub AP nJ;refine BR f k pub gs m n a ub h hM hk nJ (fun h0=>?_);have:=E_ (X.zD hk rfl) h0 (v:=(1,(M f k).2)) (by simp);omega
 | succ N ih =>
  intro f k pub gs m n a ub M us w h hM hc hk hub AP nJ;by_cases h0:(M f k).1=0
  ·exact OV (IC (zy ih)) f k pub gs m n a ub h hM hc hk hub AP nJ h0
  ·exact BR f k pub gs m n a ub h hM hk nJ h0
def Idle(M:Mem):Prop:=∀ i j,(M i j).1≠1
theorem OX(f k:Nat)(pub gs:Bool)(m n a:X.Nm)(ub:Nat)(h:Run w0 L fs M us w)(hM:p9 fs M)(hI:Idle M)(hk:(X.aM fs f)[k]?=some (.use pub m n gs a))(hub:w0.heap[ub]?=some (L8 pub gs m n a))(AP:¬ L.S fs.length ub) :
  Calls prog 104 #[.pointer (some ⟨L.wb,0,none⟩),.int .i64 f,.int .i64 k,.pointer (some ⟨ub,0,none⟩)] w fun e w'=>e=.returned (.agg #[.int .i64 2,.int .i64 (X.jM fs (X.ji fs) f k).1,.int .i64 (X.jM fs (X.ji fs) f k).2.1,.int .i64 (X.jM fs (X.ji fs) f k).2.2])∧Hid (∃ M',Run w0 L fs M' us w'∧p9 fs M'∧Idle M'∧Kx L fs.length w0.heap.size w w'):=by
 refine(Ku (cnt fs M) f k pub gs m n a ub M us w h hM (aj _) hk hub AP (fun i j hij=>absurd hij (hI i j))).mono ?_;rintro e w' ⟨tf,tt,er,rfl,H⟩;obtain⟨x1,M',x2,x3,x4,x5⟩:=H.o;rw[x1.uses];exact⟨rfl,M',x2,x3,fun i j hij=>hI i j ((x4 i j).1 hij),x5⟩
theorem L_(f k:Nat)(it:X.It)(h:Run w0 L fs M us w)(hM:p9 fs M)(hI:Idle M)(hk:(X.aM fs f)[k]?=some it) :
  Calls prog 163 #[.pointer (some ⟨L.wb,0,none⟩),.int .i64 f,.int .i64 k] w fun e w'=>e=.returned (.agg #[.int .i64 2,.int .i64 (X.jM fs (X.ji fs) f k).1,.int .i64 (X.jM fs (X.ji fs) f k).2.1,.int .i64 (X.jM fs (X.ji fs) f k).2.2])∧Hid (∃ M',Run w0 L fs M' us w'∧p9 fs M'∧Idle M'∧Kx L fs.length w0.heap.size w w'):=by
 refine(zy (Ku (cnt fs M)) f k it M us w h hM (aj _) hk (fun _ i j hij=>absurd hij (hI i j))).mono ?_;rintro e w' ⟨tf,tt,er,rfl,H⟩;obtain⟨x1,M',x2,x3,x4,x5⟩:=H.o;rw[x1.uses];exact⟨rfl,M',x2,x3,fun i j hij=>hI i j ((x4 i j).1 hij),x5⟩
theorem aG3(a b c d:Int)(w:World):(Instr.field 263 (.agg #[.int .i64 a,.int .i64 b,.int .i64 c,.int .i64 d]) 1).run prog w=.ok (.agg #[.int .i64 b,.int .i64 c]) w:=by kernel_rfl
def qX(w0:World)(L:Lay)(fs:List X.Fl)(us:List X.U)(w w':World):Prop:=∃ M',Run w0 L fs M' us w'∧p9 fs M'∧Idle M'∧Kx L fs.length w0.heap.size w w'
theorem Kw(B:Nat)(bv:Value)(sc:List (List X.Nm))(x:ah)(w:World)(h:iL w B bv sc)(hx:x.length≤maxLen)(r:Option Nat)(hr:X.sight sc x=r) :
  Calls prog 178 #[bv,.string (ba x)] w fun e w'=>e=.returned (.tuple #[.int .i64 ((r.getD 0:Nat):Int),.bool r.isSome])∧w'=w:=by
 subst hr;exact OG B bv sc x w h hx
theorem A_(hf:L.tf<fs.length)(n:X.Nm)(Dq:X.Dp 268435456 n)(bv:Value)(sc:List (List X.Nm))(h:Run w0 L fs M us w)(hM:p9 fs M)(wU:Idle M)(hbk:iL w w0.heap.size bv sc)(tl:List X.U)(htl:X.exU L.tf (X.gT fs L.tf) sc (.var n)=tl)(hlim:us.length+tl.length≤1073741824) :
  Calls prog 164 #[.pointer (some ⟨L.tb,0,none⟩),.agg #[.string (ba n.1),.int .i64 n.2],bv] w fun e w'=>e=.returned (.tuple #[])∧Hid (qX w0 L fs (us++tl) w w'):=by
 have kA:Below w.heap.size w (w.alloc (.cells #[.string (ba n.1),.int .i64 n.2] 66)):=(ay _ w).alloc (aj _) _;have h1:=h.below kA;have hb1:=hbk.LY kA;have hN:=aB w (.cells #[.string (ba n.1),.int .i64 n.2] 66);obtain⟨k1,k2⟩:=Dq;have hlen:n.1.length≤maxLen:=by unfold maxLen;omega
 have hn16:=h.st.n;have h0:=h.size;have hi1:(L.tf:Int)<(fs.length:Int):=by omega
 have HS:=au h.st.lt;rw[X.exU] at htl;have oM:=au kA;have wT:=au hM;have HId:=au wU;clear kA h hbk hM wU;cases hsg:X.sight sc n.1 with
 | some i =>
  rw[hsg] at htl;have Fb:X.gZ L.tf n 6 (L.tf,i,0)=tl:=htl;have HC:=au (Kw w0.heap.size bv sc n.1 _ hb1 hlen (some i) hsg);have HA:=au (nI n 6 L.tf i 0 (h1.below (ay _ _).drew) (by rw[Fb];exact hlim));obtain⟨nv,-,t1,-⟩:=h1.cells;clear hb1 h1;go_enter func164,ntmps164;go_wp2_with fail
  refine(HC.o).mono ?_;rintro e w2 ⟨rfl,rfl⟩;generalize w.alloc (.cells #[.string (ba n.1),.int .i64 n.2] 66)=W at *;have n0:=ai W _ 0 _ _ _ hN;have n1:=ai W _ 1 _ _ _ hN;have e1:((some i).getD 0:Nat)=i:=rfl;rw[e1];have e2:(some i).isSome=true:=rfl;rw[e2];clear HC;go_wp2_with fail
  refine bH (S:=fun w'=>w'.cell? ⟨L.tb,1,none⟩=some (.int .i64 L.tf)∧w'.cell? ⟨w.heap.size,0,none⟩=some (.string (ba n.1))∧w'.cell? ⟨w.heap.size,1,none⟩=some (.int .i64 n.2)) (z:=9) (by kernel_rfl) ?_;have hS:W.drew.cell? ⟨L.tb,1,none⟩=some (.int .i64 L.tf)∧W.drew.cell? ⟨w.heap.size,0,none⟩=some (.string (ba n.1))∧W.drew.cell? ⟨w.heap.size,1,none⟩=some (.int .i64 n.2):=⟨t1,n0,n1⟩;iterate 8(refine ou hS ?_;simp only[Act.put,ax,aD,aF])
  refine bD 8 fun K hK=>?_;go_simp;refine(HA.o).mono ?_;rintro e w3 ⟨rfl,H3⟩;have Fe:=(H3.o).2.made (b:=w.heap.size) HS.o hN h0 (fun cs d e=>by cases e);obtain⟨nv3,-,u1,-⟩:=(H3.o).1.cells;have HF:Hid (qX w0 L fs (us++tl) w w3):=by
   rw[← Fb];exact⟨M,(H3.o).1,wT.o,HId.o,(Kx.aI (oM.o).drew).trans (H3.o).2⟩
  dsimp only;refine hK.o _ _ (fun _=>⟨u1,cell_of_row w3 _ 0 _ _ _ Fe,cell_of_row w3 _ 1 _ _ _ Fe⟩) (fun _=>fB ?_);clear hK K hS HA H3 t1 n0 n1 u1 Fe;go_wp2_with fail
  go_end0;exact⟨rfl,HF⟩
 | none =>
  rw[hsg] at htl;have aG5:X.gZ L.tf n 6 (X.gT fs L.tf n.1)=tl:=htl;have HC:=au (Kw w0.heap.size bv sc n.1 _ hb1 hlen none hsg);obtain⟨kk,hmp⟩:=(h1.below ((ay _ _).drew)).named hf;have hrun:=hmp.nV hlen;obtain⟨nv,t0,t1,-⟩:=h1.cells;obtain⟨-,c1⟩:=h1.Uh;obtain⟨fg,vk,d1,d2,d3,d4⟩:=h1.files hf;rw[d1] at c1;have g1:=ai _ _ 1 _ _ _ (h1.file hf);have HR:=au h1;clear hb1 h1 hmp d1 htl;cases htp:X.jo (X.aM fs L.tf) n.1 with
  | none =>
   rw[htp] at hrun;have hrun':(Instr.lookup 103 (.map (some (L.nb L.tf))) (.string (ba n.1)) true).run prog (w.alloc (.cells #[.string (ba n.1),.int .i64 n.2] 66)).drew=.ok (.tuple #[.int .i64 0,.bool false]) (w.alloc (.cells #[.string (ba n.1),.int .i64 n.2] 66)).drew:=hrun;clear hrun;go_enter func164,ntmps164;go_wp2_with fail
   refine(HC.o).mono ?_;rintro e w2 ⟨rfl,rfl⟩;generalize w.alloc (.cells #[.string (ba n.1),.int .i64 n.2] 66)=W at *;have n0:=ai W _ 0 _ _ _ hN;have n1:=ai W _ 1 _ _ _ hN;have Uj:=aP hN;have e1:((none:Option Nat).getD 0:Nat)=0:=rfl;rw[e1];have e2:(none:Option Nat).isSome=false:=rfl;rw[e2];clear HC;go_wp2_with fail
   go_region_held3 (fun w'=>w'.cell? ⟨L.tb,0,none⟩=some (.pointer (some ⟨L.wb,0,none⟩))∧w'.cell? ⟨L.tb,1,none⟩=some (.int .i64 L.tf)∧w'.cell? ⟨L.wb,1,none⟩=some (.slice (some ⟨fg,0,none⟩) fs.length vk)∧w'.cell? ⟨fg,L.tf,none⟩=some (.pointer (some ⟨L.fb L.tf,0,none⟩))∧w'.cell? ⟨L.fb L.tf,1,none⟩=some (.map (some (L.nb L.tf)))∧w'.cell? ⟨w.heap.size,0,none⟩=some (.string (ba n.1))∧(Instr.lookup 103 (.map (some (L.nb L.tf))) (.string (ba n.1)) true).run prog w'=.ok (.tuple #[.int .i64 0,.bool false]) w')
    (first|(with_reducible exact⟨t0,t1,c1,d4,g1,n0,hrun'⟩)|go_keep)
    (fail)
   have hKW:Below w.heap.size w W.drew:=(oM.o).drew;have HR2:Hid (Run w0 L fs M us W.drew):=(HR.o).below ((ay _ W).drew);have t0':W.drew.cell? ⟨L.tb,0,none⟩=some (.pointer (some ⟨L.wb,0,none⟩)):=t0;have t1':W.drew.cell? ⟨L.tb,1,none⟩=some (.int .i64 L.tf):=t1;have n0':W.drew.cell? ⟨w.heap.size,0,none⟩=some (.string (ba n.1)):=n0;have n1':W.drew.cell? ⟨w.heap.size,1,none⟩=some (.int .i64 n.2):=n1;have hNd:W.drew.heap[w.heap.size]?=some (.cells #[.string (ba n.1),.int .i64 n.2] 66 (0,0)):=hN;have L6:w.heap.size<W.drew.heap.size:=Uj;clear hrun' t0 t1 n0 n1 c1 d4 g1 hN Uj HR oM;generalize W.drew=Wd at *;go_wp2_with fail
   have Fb:X.gZ L.tf n 6 (-1,-1,4)=tl:=by rw[← aG5,X.gT,htp]
   refine bH (S:=fun w'=>w'.cell? ⟨w.heap.size,0,none⟩=some (.string (ba n.1))∧w'.cell? ⟨w.heap.size,1,none⟩=some (.int .i64 n.2)) (z:=3) (by kernel_rfl) ?_;have hS:Wd.drew.cell? ⟨w.heap.size,0,none⟩=some (.string (ba n.1))∧Wd.drew.cell? ⟨w.heap.size,1,none⟩=some (.int .i64 n.2):=⟨n0',n1'⟩;iterate 2(refine qD hS ?_;simp only[Act.put,ax,aD,aF])
   refine bD 2 fun K hK=>?_;go_simp;refine(sH _).mono ?_;rintro e w3 ⟨rfl,B3⟩;have HR3:Hid (Run w0 L fs M us w3):=(HR2.o).below (((ay _ Wd).drew).trans B3);have qi:Hid (Below w.heap.size w w3):=hKW.trans ((((ay _ Wd).drew).trans B3).mono hKW.size);go_simp;refine hK.o _ _ (fun _=>⟨pU B3 L6 hS.1,pU B3 L6 hS.2⟩) (fun hS2=>?_);clear hS hK K;have hS:=hS2 (by decide);clear hS2;refine bD 3 fun K hK=>?_;go_simp;refine(nI n 6 (-1) (-1) 4 HR3.o (by rw[Fb];exact hlim)).mono ?_;rintro e w4 ⟨rfl,H4⟩;go_simp;refine hK.o _ _ (fun h=>absurd rfl h) (fun _=>fB ?_);clear hK K hS;have HF:Hid (qX w0 L fs (us++tl) w w4):=by
    rw[← Fb];exact⟨M,(H4.o).1,wT.o,HId.o,(Kx.aI qi.o).trans (H4.o).2⟩
   clear H4;go_wp2_with fail
   go_end0;exact⟨rfl,HF⟩
  | some k =>
   rw[htp] at hrun;have hrun':(Instr.lookup 103 (.map (some (L.nb L.tf))) (.string (ba n.1)) true).run prog (w.alloc (.cells #[.string (ba n.1),.int .i64 n.2] 66)).drew=.ok (.tuple #[.int .i64 (k:Nat),.bool true]) (w.alloc (.cells #[.string (ba n.1),.int .i64 n.2] 66)).drew:=hrun;clear hrun;go_enter func164,ntmps164;go_wp2_with fail
   refine(HC.o).mono ?_;rintro e w2 ⟨rfl,rfl⟩;generalize w.alloc (.cells #[.string (ba n.1),.int .i64 n.2] 66)=W at *;have n0:=ai W _ 0 _ _ _ hN;have n1:=ai W _ 1 _ _ _ hN;have Uj:=aP hN;have e1:((none:Option Nat).getD 0:Nat)=0:=rfl;rw[e1];have e2:(none:Option Nat).isSome=false:=rfl;rw[e2];clear HC;go_wp2_with fail
   go_region_held3 (fun w'=>w'.cell? ⟨L.tb,0,none⟩=some (.pointer (some ⟨L.wb,0,none⟩))∧w'.cell? ⟨L.tb,1,none⟩=some (.int .i64 L.tf)∧w'.cell? ⟨L.wb,1,none⟩=some (.slice (some ⟨fg,0,none⟩) fs.length vk)∧w'.cell? ⟨fg,L.tf,none⟩=some (.pointer (some ⟨L.fb L.tf,0,none⟩))∧w'.cell? ⟨L.fb L.tf,1,none⟩=some (.map (some (L.nb L.tf)))∧w'.cell? ⟨w.heap.size,0,none⟩=some (.string (ba n.1))∧(Instr.lookup 103 (.map (some (L.nb L.tf))) (.string (ba n.1)) true).run prog w'=.ok (.tuple #[.int .i64 (k:Nat),.bool true]) w')
    (first|(with_reducible exact⟨t0,t1,c1,d4,g1,n0,hrun'⟩)|go_keep)
    (fail)
   have hKW:Below w.heap.size w W.drew:=(oM.o).drew;have HR2:Hid (Run w0 L fs M us W.drew):=(HR.o).below ((ay _ W).drew);have t0':W.drew.cell? ⟨L.tb,0,none⟩=some (.pointer (some ⟨L.wb,0,none⟩)):=t0;have t1':W.drew.cell? ⟨L.tb,1,none⟩=some (.int .i64 L.tf):=t1;have n0':W.drew.cell? ⟨w.heap.size,0,none⟩=some (.string (ba n.1)):=n0;have n1':W.drew.cell? ⟨w.heap.size,1,none⟩=some (.int .i64 n.2):=n1;have hNd:W.drew.heap[w.heap.size]?=some (.cells #[.string (ba n.1),.int .i64 n.2] 66 (0,0)):=hN;have L6:w.heap.size<W.drew.heap.size:=Uj;clear hrun' t0 t1 n0 n1 c1 d4 g1 hN Uj HR oM;generalize W.drew=Wd at *;go_wp2_with fail
   have Fb:X.gZ L.tf n 6 ((X.jM fs (X.ji fs) L.tf k).1,(X.jM fs (X.ji fs) L.tf k).2.1,0)=tl:=by rw[← aG5,X.gT,htp]
   obtain⟨it,hit,-⟩:=X.qE htp;have hfl:=aG3;refine bH (S:=fun w'=>w'.cell? ⟨L.tb,0,none⟩=some (.pointer (some ⟨L.wb,0,none⟩))∧w'.cell? ⟨L.tb,1,none⟩=some (.int .i64 L.tf)∧w'.cell? ⟨w.heap.size,0,none⟩=some (.string (ba n.1))∧w'.cell? ⟨w.heap.size,1,none⟩=some (.int .i64 n.2)) (z:=14) (by kernel_rfl) ?_;have hS:Wd.drew.cell? ⟨L.tb,0,none⟩=some (.pointer (some ⟨L.wb,0,none⟩))∧Wd.drew.cell? ⟨L.tb,1,none⟩=some (.int .i64 L.tf)∧Wd.drew.cell? ⟨w.heap.size,0,none⟩=some (.string (ba n.1))∧Wd.drew.cell? ⟨w.heap.size,1,none⟩=some (.int .i64 n.2):=⟨t0',t1',n0',n1'⟩;iterate 11(refine ou hS ?_;simp only[Act.put,ax,aD,aF])
   refine bD 11 fun K hK=>?_;go_simp;refine(L_ L.tf k it ((HR2.o).below ((Below.refl _ Wd).drew)) wT.o HId.o hit).mono ?_;rintro e w3 ⟨rfl,H3⟩;obtain⟨M3,x1,x2,x3,x4⟩:=H3.o;have Fe:w3.heap[w.heap.size]?=some (.cells #[.string (ba n.1),.int .i64 n.2] 66 (0,0)):=x4.made HS.o hNd h0 (fun cs d e=>by cases e);have HX3:Hid (Kx L fs.length w0.heap.size w w3):=(Kx.aI (hKW.drew)).trans x4;obtain⟨nv3,u0,u1,-⟩:=x1.cells;dsimp only;refine hK.o _ _ (fun _=>⟨u0,u1,cell_of_row w3 _ 0 _ _ _ Fe,cell_of_row w3 _ 1 _ _ _ Fe⟩) (fun hS2=>?_);clear hS hK K;have hS:=hS2 (by decide);clear hS2;generalize hAn:(X.jM fs (X.ji fs) L.tf k)=an at *;iterate 1(refine ou hS ?_;simp only[Act.put,List.setIfInBounds_toArray,List.set_cons_zero,List.set_cons_succ])
   refine bD 13 fun K hK=>?_;go_simp;refine(nI n 6 an.1 an.2.1 0 x1 (by rw[Fb];exact hlim)).mono ?_;rintro e w4 ⟨rfl,H4⟩;have hN4:=(H4.o).2.made HS.o Fe h0 (fun cs d e=>by cases e);obtain⟨nv4,v0,v1,-⟩:=(H4.o).1.cells;have HF:Hid (qX w0 L fs (us++tl) w w4):=by
    rw[← Fb];exact⟨M3,(H4.o).1,x2,x3,(HX3.o).trans (H4.o).2⟩
   dsimp only;refine hK.o _ _ (fun _=>⟨v0,v1,cell_of_row w4 _ 0 _ _ _ hN4,cell_of_row w4 _ 1 _ _ _ hN4⟩) (fun _=>fB ?_);clear hK K hS H4 x1 x2 x3 x4 Fe hN4 u0 u1 v0 v1;go_wp2_with fail
   go_end0;exact⟨rfl,HF⟩
def xV(w0:World)(L:Lay)(fs:List X.Fl)(lo hi:Nat)(e:X.Ex):Prop:=∀(M:Mem) (us:List X.U) (w:World) (v bv:Value) (sc:List (List X.Nm)),Run w0 L fs M us w→p9 fs M→Idle M→gJ w lo hi v e→iL w w0.heap.size bv sc→us.length+(X.exU L.tf (X.gT fs L.tf) sc e).length≤1073741824 →
 Calls prog 134 #[.pointer (some ⟨L.tb,0,none⟩),v,bv] w fun en w'=>en=.returned (.tuple #[])∧Hid (qX w0 L fs (us++X.exU L.tf (X.gT fs L.tf) sc e) w w')
theorem Me(n:X.Nm)(x:ah):X.first [n] x=upd (fun _=>none) n.1 n.2 x:=by
 unfold X.first upd;by_cases e:x=n.1
 ·subst e;simp
 ·have:(n.1==x)=false:=by simpa using iG e
  simp[this,e]
theorem iL.ptr{B:Nat}{w:World}{v:Value}{sc:List (List X.Nm)}(h:iL w B v sc):∃ pa,v=.pointer pa:=by cases h<;>exact⟨_,rfl⟩
theorem mkMap(t:TypeId)(w:World):(Instr.makeMap t none).run prog w=.ok (.map (some w.heap.size)) (w.alloc (.map #[] 0)):=rfl
theorem OY{m0 n0:Int}{z0:Bool}(lo hi lb:Nat)(n:X.Nm)(v1 v2 bv:Value)(e1 e2:X.Ex)(sc:List (List X.Nm))(hv:Av L fs.length w0.heap.size lo hi)(h1:xV w0 L fs lo hi e1)(h2:xV w0 L fs lo hi e2)(Dq:X.Dp 268435456 n)(hlb:lo≤lb∧lb<hi)
  (hl:w.heap[lb]?=some (.cells #[.int .i64 m0,.int .i64 n0,.bool z0,.string (ba n.1),.int .i64 n.2,v1,v2] 299 (0,0))) (q1:gJ w lo hi v1 e1) (q2:gJ w lo hi v2 e2) (h:Run w0 L fs M us w) (hM:p9 fs M) (wU:Idle M) (hbk:iL w w0.heap.size bv sc) (hlim:us.length+(X.exU L.tf (X.gT fs L.tf) sc (.iJ n e1 e2)).length≤1073741824) :
  Calls prog 165 #[.pointer (some ⟨L.tb,0,none⟩),.pointer (some ⟨lb,0,none⟩),bv] w fun en w'=>en=.returned (.tuple #[])∧Hid (qX w0 L fs (us++X.exU L.tf (X.gT fs L.tf) sc (.iJ n e1 e2)) w w'):=by
 obtain⟨y1,g1,rfl⟩:=q1.iface;obtain⟨y2,g2,rfl⟩:=q2.iface;obtain⟨pa,rfl⟩:=hbk.ptr;have hmm:=mkMap;have h0:=h.size;have hlw:lb<w0.heap.size:=by have:=hv.top;omega
 obtain⟨nB1,nB2⟩:=Dq;have hlen:n.1.length≤maxLen:=by unfold maxLen;omega
 have hn2:n.2≤9223372036854775807:=by omega
 have hS:=h.st.lt;have NY:X.exU L.tf (X.gT fs L.tf) sc (.iJ n e1 e2)=X.qg L.tf n 2 0++(X.exU L.tf (X.gT fs L.tf) sc e1++X.exU L.tf (X.gT fs L.tf) ([n]::sc) e2):=by rw[X.exU]
 rw[NY] at hlim ⊢;generalize hE1:X.exU L.tf (X.gT fs L.tf) sc e1=E1 at *;generalize hE2:X.exU L.tf (X.gT fs L.tf) ([n]::sc) e2=E2 at *;rw[ak,ak] at hlim;have HV:=au hv;have HB:=au hbk;have Q1:=au q1;have Q2:=au q2;have HL:=au hl;have HR:=au h;have HM:=au hM;have HI:=au wU;have H1:=au h1;have H2:=au h2;have Un:=au hE1;have HE2:=au hE2;have yG:=au (vg n 2 0 HR.o (by omega));have l0:=ai w _ 3 _ _ _ hl;have l1:=ai w _ 4 _ _ _ hl;clear hv hbk q1 q2 hl h hM wU h1 h2 hE1 hE2 NY;go_enter func165,ntmps165;go_wp2_with fail
 refine(yG.o).mono ?_;rintro e w2 ⟨rfl,X2⟩;have ZV:=(X2.o).2;have hl2:=Kp.heap ZV HL.o ((HV.o).sx w lb hlb.1 hlb.2);have HL2:=au hl2;have l22:=ai w2 _ 5 _ _ _ hl2;have Q12:=au ((Q1.o).keep ZV ((HV.o).sx w));have Q22:=au ((Q2.o).keep ZV ((HV.o).sx w));have HB2:=au ((HB.o).keep ZV hS);have HR2:=au (X2.o).1;have WJ:=au ZV;have tV:=au ((H1.o) M _ w2 _ _ sc HR2.o HM.o HI.o Q12.o HB2.o (by rw[Un.o,ak];omega));clear hl2 ZV X2 l0 l1 yG Q1 Q2 HB HL HR Q12;go_wp2_with fail
 refine(tV.o).mono ?_;rintro e w3 ⟨rfl,X3⟩;obtain⟨M3,r3,m3,i3,kx3⟩:=X3.o;have hl3:=Kp.heap kx3 HL2.o ((HV.o).sx w2 lb hlb.1 hlb.2);have HL3:=au hl3;have l03:=ai w3 _ 3 _ _ _ hl3;have l13:=ai w3 _ 4 _ _ _ hl3;have l33:=ai w3 _ 6 _ _ _ hl3;have Q23:=au ((Q22.o).keep kx3 ((HV.o).sx w2));have HB3:=au ((HB2.o).keep kx3 hS);have HR3:=au r3;have wW:=au m3;have HI3:=au i3;have KX3:Hid (Kx L fs.length w0.heap.size w w3):=(WJ.o).trans kx3;clear hl3 kx3 X3 r3 m3 i3 tV l22 Q22 HB2 HR2 HL2 WJ;obtain⟨w5,hri,hm5,hk5⟩:=(Mp.made w3.drew).yP (by unfold maxLen;omega) (k:=n.1) hlen (i:=n.2) hn2;have bX2:(Instr.mapUpdate 103 (.map (some w3.heap.size)) (.string (ba n.1)) (.int .i64 n.2)).run prog (w3.alloc (.map #[] 0)).drew=.ok () w5:=hri;have hz3:w3.heap.size<(w3.drew.alloc (.map #[] 0)).heap.size:=by show w3.heap.size<(w3.drew.alloc (.map #[] 0)).heap.size;rw[gX];exact Nat.lt_succ_self _
 have hz5:w3.heap.size<w5.heap.size:=aH hz3 hk5.size;have XA:Kp (fun q=>q=w3.heap.size) w3 w5:=Kp.trans (((Kp.refl _ w3).drew).alloc _) hk5 (fun _ _ e=>e);have hw3:w0.heap.size≤w3.heap.size:=(HR3.o).size;have hne:∀ q,q<w3.heap.size→¬ q=w3.heap.size:=fun q hq e=>by omega
 have hl5:=XA.heap HL3.o (hne _ (by omega));have kB:Below w5.heap.size w5 (w5.alloc (.cells #[.map (some w3.heap.size),.pointer pa] 347)):=(ay _ w5).alloc (aj _) _;have hR5:Run w0 L fs M3 _ w5:=Run.map ((HR3.o).below (((ay _ w3).drew).alloc (aj _) (.map #[] 0))) hk5 hw3 (Mp.obj (Mp.made w3.drew));have Um:Kx L fs.length w0.heap.size w3 w5:=XA.mono (fun q hq e=>by omega);have Uo:Kx L fs.length w0.heap.size w3 (w5.alloc (.cells #[.map (some w3.heap.size),.pointer pa] 347)):=Um.trans (Kx.aI kB);have hb6:(w5.alloc (.cells #[.map (some w3.heap.size),.pointer pa] 347)).heap[w5.heap.size]?=some (.cells #[.map (some w3.heap.size),.pointer pa] 347 (0,0)):=aB w5 _;have OZ:iL (w5.alloc (.cells #[.map (some w3.heap.size),.pointer pa] 347)) w0.heap.size (.pointer (some ⟨w5.heap.size,0,none⟩)) ([n]::sc) :=
  .cons _ _ _ [n] _ sc (by omega) hw3 hb6 ((hm5.below kB).congr (fun x=>(Me n x).symm)) ((HB3.o).keep Uo hS)
 have wX:=au ((H2.o) M3 _ _ _ _ ([n]::sc) (hR5.below kB) wW.o HI3.o ((Q23.o).keep Uo ((HV.o).sx w3)) OZ (by rw[HE2.o,ak,ak,Un.o];omega));have HL6:=au ((Kp.aI kB (fun _=>False)).heap hl5 id);have HK6:=au Uo;have l05:=ai w5 _ 3 _ _ _ hl5;have l15:=ai w5 _ 4 _ _ _ hl5;have l35:=ai w5 _ 6 _ _ _ hl5;have l06:=ai _ _ 3 _ _ _ HL6.o;have l16:=ai _ _ 4 _ _ _ HL6.o;have l36:=ai _ _ 6 _ _ _ HL6.o;have l04:=Lib.cell?_alloc_some (.map #[] 0) l03;have l14:=Lib.cell?_alloc_some (.map #[] 0) l13;have l34:=Lib.cell?_alloc_some (.map #[] 0) l33;clear hm5 hk5 hz3 XA hl5 kB hR5 Um Uo hb6 OZ hne;go_wp2_with fail
 go_region_held3 (fun w'=>w'.cell? ⟨lb,3,none⟩=some (.string (ba n.1))∧w'.cell? ⟨lb,4,none⟩=some (.int .i64 n.2)∧w'.cell? ⟨lb,6,none⟩=some (.iface y2 (.pointer (some ⟨g2,0,none⟩))))
  (first|(with_reducible exact⟨l03,l13,l33⟩)|(with_reducible exact⟨l04,l14,l34⟩)|(with_reducible exact⟨l05,l15,l35⟩)|(with_reducible exact⟨l06,l16,l36⟩)|(with_reducible exact⟨l07,l17,l37⟩)|go_keep)
  ((go_at_call 134;refine(wX.o).mono ?_;rintro e w7 ⟨rfl,X7⟩;obtain⟨M7,r7,m7,i7,x7⟩:=X7.o;have TA:=Kp.heap x7 HL6.o ((HV.o).sx _ lb hlb.1 hlb.2);have l07:=ai w7 _ 3 _ _ _ TA;have l17:=ai w7 _ 4 _ _ _ TA;have l37:=ai w7 _ 6 _ _ _ TA))
 have HF:Hid (qX w0 L fs (us++(X.qg L.tf n 2 0++(E1++E2))) w w7):=by
  refine⟨M7,?_,m7,i7,((KX3.o).trans HK6.o).trans x7⟩;rw[Un.o,HE2.o] at r7
  simpa using r7
 clear X7 r7 m7 i7 x7 TA l07 l17 l37;go_wp2_with fail
 go_end0;exact⟨rfl,HF⟩
end
section
variable{m0 n0:Int}{z0:Bool}
variable{w0:World}{L:Lay}{fs:List X.Fl}{M:Mem}{us:List X.U}{w:World}
theorem XE(b:Nat)(w:World):(Instr.typeAssert (.iface 228 (.pointer (some ⟨b,0,none⟩))) 72 228 true).run prog w=.ok (.tuple #[.pointer (some ⟨b,0,none⟩),.bool true]) w:=by kernel_rfl
theorem XF(b:Nat)(w:World):(Instr.typeAssert (.iface 230 (.pointer (some ⟨b,0,none⟩))) 72 228 true).run prog w=.ok (.tuple #[.pointer none,.bool false]) w:=by kernel_rfl
theorem XG(b:Nat)(w:World):(Instr.typeAssert (.iface 230 (.pointer (some ⟨b,0,none⟩))) 72 230 true).run prog w=.ok (.tuple #[.pointer (some ⟨b,0,none⟩),.bool true]) w:=by kernel_rfl
theorem XH(b:Nat)(w:World):(Instr.typeAssert (.iface 234 (.pointer (some ⟨b,0,none⟩))) 72 228 true).run prog w=.ok (.tuple #[.pointer none,.bool false]) w:=by kernel_rfl
theorem XI(b:Nat)(w:World):(Instr.typeAssert (.iface 234 (.pointer (some ⟨b,0,none⟩))) 72 230 true).run prog w=.ok (.tuple #[.pointer none,.bool false]) w:=by kernel_rfl
theorem XJ(b:Nat)(w:World):(Instr.typeAssert (.iface 234 (.pointer (some ⟨b,0,none⟩))) 72 234 true).run prog w=.ok (.tuple #[.pointer (some ⟨b,0,none⟩),.bool true]) w:=by kernel_rfl
theorem O7(b:Nat)(n:X.Nm)(sc:List (List X.Nm))(bv:Value)(hf:L.tf<fs.length)(Dq:X.Dp 268435456 n)(hcell:w.heap[b]?=some (.cells #[.int .i64 m0,.int .i64 n0,.bool z0,.string (ba n.1),.int .i64 n.2] 280 (0,0)))
  (h:Run w0 L fs M us w) (hM:p9 fs M) (wU:Idle M) (hbk:iL w w0.heap.size bv sc) (hlim:us.length+(X.exU L.tf (X.gT fs L.tf) sc (.var n)).length≤1073741824) :
  Calls prog 134 #[.pointer (some ⟨L.tb,0,none⟩),.iface 228 (.pointer (some ⟨b,0,none⟩)),bv] w fun en w'=>en=.returned (.tuple #[])∧Hid (qX w0 L fs (us++X.exU L.tf (X.gT fs L.tf) sc (.var n)) w w'):=by
 have av:=XE b;have v0:=ai w _ 3 _ _ _ hcell;have v1:=ai w _ 4 _ _ _ hcell;have HC:=au (A_ hf n Dq bv sc h hM wU hbk _ rfl hlim);clear hcell h hM wU hbk hlim;go_enter func134,ntmps134;go_wp2_with fail
 refine(HC.o).mono ?_;rintro e w2 ⟨rfl,X2⟩;clear HC;go_wp2_with fail
 go_end0;exact⟨rfl,X2⟩
theorem O8(lo hi b:Nat)(n:X.Nm)(v1 v2:Value)(e1 e2:X.Ex)(sc:List (List X.Nm))(bv:Value)(hv:Av L fs.length w0.heap.size lo hi)(h1:xV w0 L fs lo hi e1)(h2:xV w0 L fs lo hi e2)(Dq:X.Dp 268435456 n)(hb:lo≤b∧b<hi)(hcell:w.heap[b]?=some (.cells #[.int .i64 m0,.int .i64 n0,.bool z0,.string (ba n.1),.int .i64 n.2,v1,v2] 299 (0,0)))(q1:gJ w lo hi v1 e1)(q2:gJ w lo hi v2 e2)
  (h:Run w0 L fs M us w) (hM:p9 fs M) (wU:Idle M) (hbk:iL w w0.heap.size bv sc) (hlim:us.length+(X.exU L.tf (X.gT fs L.tf) sc (.iJ n e1 e2)).length≤1073741824) :
  Calls prog 134 #[.pointer (some ⟨L.tb,0,none⟩),.iface 230 (.pointer (some ⟨b,0,none⟩)),bv] w fun en w'=>en=.returned (.tuple #[])∧Hid (qX w0 L fs (us++X.exU L.tf (X.gT fs L.tf) sc (.iJ n e1 e2)) w w'):=by
 have av:=XF b;have al:=XG b;have HC:=au (OY lo hi b n v1 v2 bv e1 e2 sc hv h1 h2 Dq hb hcell q1 q2 h hM wU hbk hlim);clear hcell h hM wU hbk hlim hv h1 h2 q1 q2;go_enter func134,ntmps134;go_wp2_with fail
 refine(HC.o).mono ?_;rintro e w2 ⟨rfl,X2⟩;clear HC;go_wp2_with fail
 go_end0;exact⟨rfl,X2⟩
theorem O9(lo hi b pb:Nat)(ns:List X.Nm)(v1:Value)(e1:X.Ex)(sc:List (List X.Nm))(bv:Value)(hv:Av L fs.length w0.heap.size lo hi)(h1:xV w0 L fs lo hi e1)(Dq:∀ n∈ns,X.Dp 268435456 n)(hb:lo≤b∧b<hi)(hcell:w.heap[b]?=some (.cells #[.int .i64 m0,.int .i64 n0,.bool z0,.pointer (some ⟨pb,0,none⟩),v1] 236 (0,0)))(hp:kM w lo hi pb ns)(q1:gJ w lo hi v1 e1)
  (h:Run w0 L fs M us w) (hM:p9 fs M) (wU:Idle M) (hbk:iL w w0.heap.size bv sc) (hlim:us.length+(X.exU L.tf (X.gT fs L.tf) sc (.fn ns e1)).length≤1073741824) :
  Calls prog 134 #[.pointer (some ⟨L.tb,0,none⟩),.iface 234 (.pointer (some ⟨b,0,none⟩)),bv] w fun en w'=>en=.returned (.tuple #[])∧Hid (qX w0 L fs (us++X.exU L.tf (X.gT fs L.tf) sc (.fn ns e1)) w w'):=by
 have av:=XH b;have al:=XI b;have af:=XJ b;obtain⟨y1,g1,rfl⟩:=q1.iface;have kD:Below w.heap.size w w.drew:=(ay _ w).drew;have v0:=ai w _ 3 _ _ _ hcell;have v1:=ai w _ 4 _ _ _ hcell;have hkd:=Kp.aI kD (fun _=>False);have NY:X.exU L.tf (X.gT fs L.tf) sc (.fn ns e1)=X.jy L.tf [] ns++X.exU L.tf (X.gT fs L.tf) (ns::sc) e1:=by rw[X.exU]
 rw[NY] at hlim ⊢;rw[ak] at hlim;have HC:=au (xU lo hi pb ns bv sc hv (hp.keep hkd (fun _ _ _=>id)) Dq (h.below kD) (hbk.LY kD) (by omega));have tV:Hid (∀ w2 bp,Run w0 L fs M (us++X.jy L.tf [] ns) w2→gJ w2 lo hi (.iface y1 (.pointer (some ⟨g1,0,none⟩))) e1→iL w2 w0.heap.size bp (ns::sc)→Calls prog 134 #[.pointer (some ⟨L.tb,0,none⟩),.iface y1 (.pointer (some ⟨g1,0,none⟩)),bp] w2 fun en w'=>en=.returned (.tuple #[])∧Hid (qX w0 L fs ((us++X.jy L.tf [] ns)++X.exU L.tf (X.gT fs L.tf) (ns::sc) e1) w2 w')):=fun w2 bp hr he hb2=>h1 M _ w2 _ bp (ns::sc) hr hM wU he hb2 (by rw[ak];omega)
 have HV:=au hv;have BX:=au hcell;have HQ:=au (q1.keep hkd (fun _ _ _=>id));clear kD hcell h hM wU hbk hlim hv hkd h1 q1 hp NY Dq;go_enter func134,ntmps134;go_wp2_with fail
 refine bH (S:=fun w'=>w'.cell? ⟨b,3,none⟩=some (.pointer (some ⟨pb,0,none⟩))∧w'.cell? ⟨b,4,none⟩=some (.iface y1 (.pointer (some ⟨g1,0,none⟩)))) (z:=13) (by kernel_rfl) ?_;have hS:w.drew.cell? ⟨b,3,none⟩=some (.pointer (some ⟨pb,0,none⟩))∧w.drew.cell? ⟨b,4,none⟩=some (.iface y1 (.pointer (some ⟨g1,0,none⟩))):=⟨v0,v1⟩;iterate 11(refine ou hS ?_;simp only[Act.put,ax,aD,aF])
 refine bD 11 fun K hK=>?_;go_simp;refine(HC.o).mono ?_;rintro e w2 ⟨nb,rfl,X2⟩;have x2:Kx L fs.length w0.heap.size w w2:=(Kx.aI (Below.refl _ w).drew).trans (X2.o).2.1;have hc2:=Kp.heap x2 BX.o ((HV.o).sx _ b hb.1 hb.2);have wX:=au ((tV.o) w2 _ (X2.o).1 ((HQ.o).keep (X2.o).2.1 ((HV.o).sx _)) (X2.o).2.2);dsimp only;refine hK.o _ _ (fun _=>⟨cell_of_row w2 _ 3 _ _ _ hc2,cell_of_row w2 _ 4 _ _ _ hc2⟩) (fun hS2=>?_);clear hS hK K HC;have hS:=hS2 (by decide);clear hS2;refine bD 12 fun K hK=>?_;go_simp;refine(wX.o).mono ?_;rintro e w3 ⟨rfl,X3⟩;obtain⟨M3,r3,m3,i3,x3⟩:=X3.o;have hc3:=Kp.heap x3 hc2 ((HV.o).sx _ b hb.1 hb.2);have HF:Hid (qX w0 L fs (us++(X.jy L.tf [] ns++X.exU L.tf (X.gT fs L.tf) (ns::sc) e1)) w w3):=by
  refine⟨M3,?_,m3,i3,x2.trans x3⟩;rw[← aA];exact r3
 dsimp only;refine hK.o _ _ (fun _=>⟨cell_of_row w3 _ 3 _ _ _ hc3,cell_of_row w3 _ 4 _ _ _ hc3⟩) (fun _=>fB ?_);clear hK K hS X2 x2 hc2 X3 r3 m3 i3 x3 hc3 wX v0 v1;go_wp2_with fail
 go_end0;exact⟨rfl,HF⟩
end
end Go.Proofs.YtdkpkpgpphkljaaGreatDoor
