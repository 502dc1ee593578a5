/- Package scope: where an item leads. -/
import Derived.Test.YtbmebfgapjhchaaGreatDoorJe
import Derived.Test.YtbmebfgapjhchaaGreatDoorJa
import Derived.Stop.Asserts
namespace Go.Proofs.YtbmebfgapjhchaaGreatDoor
open Go.RowKit
open M
def Fnd (w0:World) (L:Lay) (fs:List X.Fl) (M:Mem) (us:List X.U) (f k:Nat) (w:World) (e:Ending) (w':World):Prop :=
 ∃ (tf tt:Int) (er:Nat),e=.returned (.agg #[.int .i64 2,.int .i64 tf,.int .i64 tt,.int .i64 er])∧Hid (X.EvA fs f k (tf,tt,er)∧∃ M',Run w0 L fs M' us w'∧MOk fs M'∧(∀ i j,(M' i j).1=1↔(M i j).1=1)∧Kx L fs.length w0.heap.size w w')
def useC (pub gs:Bool) (m n a:X.Nm):Obj:=.cells #[.bool pub,.string (ba m.1),.int .i64 m.2,.string (ba n.1),.int .i64 n.2,.bool gs,.string (ba a.1),.int .i64 a.2] 177 (0,0)
def UsedOk (w0:World) (L:Lay) (fs:List X.Fl) (N:Nat):Prop:=∀ (f k:Nat) (pub gs:Bool) (m n a:X.Nm) (ub:Nat) (M:Mem) (us:List X.U) (w:World),Run w0 L fs M us w→MOk fs M→cnt fs M≤N→(X.itemsOf fs f)[k]?=some (.use pub m n gs a)→w0.heap[ub]?=some (useC pub gs m n a)→¬ L.S fs.length ub →
 (∀ i j,(M i j).1=1→∃ t,X.on fs (t+1) (i,j)=some (f,k))→Calls Tryz.prog 90 #[.pointer (some ⟨L.wb,0,none⟩),.int .i64 f,.int .i64 k,.pointer (some ⟨ub,0,none⟩)] w (Fnd w0 L fs M us f k w)
def ItemOk (w0:World) (L:Lay) (fs:List X.Fl) (N:Nat):Prop:=∀ (f k:Nat) (it:X.It) (M:Mem) (us:List X.U) (w:World),Run w0 L fs M us w→MOk fs M→cnt fs M≤N→(X.itemsOf fs f)[k]?=some it →
 (X.isUse it=true→∀ i j,(M i j).1=1→∃ t,X.on fs (t+1) (i,j)=some (f,k))→Calls Tryz.prog 135 #[.pointer (some ⟨L.wb,0,none⟩),.int .i64 f,.int .i64 k] w (Fnd w0 L fs M us f k w)
theorem run_store4 {w0:World} {L:Lay} {fs:List X.Fl} {M:Mem} {us:List X.U} {w w2:World} (h:Run w0 L fs M us w2) (hk:Kx L fs.length w0.heap.size (w.alloc (.cells #[.int .i64 0,.int .i64 0,.int .i64 0,.int .i64 0] 205)) w2) (h0:w0.heap.size≤w.heap.size) (hS:∀ q,L.S fs.length q→q<w0.heap.size) (x0 x1 x2 x3:Value) :
  w2.heap[w.heap.size]?=some (.cells #[.int .i64 0,.int .i64 0,.int .i64 0,.int .i64 0] 205 (0,0)) ∧
  (Run w0 L fs M us ((((w2.setCell ⟨w.heap.size,0,none⟩ x0).setCell ⟨w.heap.size,1,none⟩ x1).setCell ⟨w.heap.size,2,none⟩ x2).setCell ⟨w.heap.size,3,none⟩ x3)) ∧
  Kx L fs.length w0.heap.size w ((((w2.setCell ⟨w.heap.size,0,none⟩ x0).setCell ⟨w.heap.size,1,none⟩ x1).setCell ⟨w.heap.size,2,none⟩ x2).setCell ⟨w.heap.size,3,none⟩ x3):=by
 have hb:w2.heap[w.heap.size]?=some (.cells #[.int .i64 0,.int .i64 0,.int .i64 0,.int .i64 0] 205 (0,0)):=hk.made hS (heap_alloc_new w _) h0 (fun cs d e=>by cases e)
 have hkp:∀ (o:Nat) (v:Value) (W:World),Kp (fun q=>q=w.heap.size) w2 W→Kp (fun q=>q=w.heap.size) w2 (W.setCell ⟨w.heap.size,o,none⟩ v):=fun o v W hW=>Kp.setCell (S:=fun q=>q=w.heap.size) (p:=⟨w.heap.size,o,none⟩) hW (fun _=>rfl) v
 have hkk:=hkp 3 x3 _ (hkp 2 x2 _ (hkp 1 x1 _ (hkp 0 x0 _ (Kp.refl _ w2))))
 have hnS:∀ q,L.S fs.length q→q≠w.heap.size:=fun q hq e=>by have:=hS q hq;omega
 refine ⟨hb,⟨h.st,h.kp.trans hkk (fun i hi e=>by omega),?_,fun i hi=>?_,h.lim⟩,?_⟩
 ·obtain ⟨nv,y1,y2⟩:=h.tl
  refine ⟨nv,hkk.heap y1 (hnS _ (.inl rfl)),hkk.owns y2 (fun q hq e=>?_)⟩
  rcases y2.2 with ⟨rfl,-⟩|⟨g',cap',cur,rfl,hge,hgg,-⟩
  ·cases hq
  ·cases hq
   have e':g'=w.heap.size:=e
   rw [e',hb] at hgg
   cases hgg
 ·obtain ⟨arr,y1,y2⟩:=h.fd i hi
  exact ⟨arr,hkk.heap y1 (hnS _ (.inr ⟨i,hi,rfl⟩)),y2⟩
 ·have k1:Kx L fs.length w0.heap.size w w2:=Kx.trans ((Kx.refl _ _ _ w).alloc _) hk
  exact Kp.trans k1 hkk (fun i hi e=>by omega)
variable {w0:World} {L:Lay} {fs:List X.Fl} {M:Mem} {us:List X.U} {w:World}
theorem fldAt (c:ByteArray) (a:Int) (w:World):(Instr.field 165 (.agg #[.string c,.int .i64 a]) 1).run Tryz.prog w=.ok (.int .i64 a) w:=by kernel_rfl
theorem asrtUse (b:Nat) (w:World):(Instr.typeAssert (.iface 124 (.pointer (some ⟨b,0,none⟩))) 163 124 true).run Tryz.prog w=.ok (.tuple #[.pointer (some ⟨b,0,none⟩),.bool true]) w:=by kernel_rfl
theorem asrtDef (b:Nat) (w:World):(Instr.typeAssert (.iface 126 (.pointer (some ⟨b,0,none⟩))) 163 124 true).run Tryz.prog w=.ok (.tuple #[.pointer none,.bool false]) w:=by kernel_rfl
set_option maxRecDepth 100000 in
set_option maxHeartbeats 2000000 in
theorem item_ok_of {N:Nat} (hU:UsedOk w0 L fs N):ItemOk w0 L fs N:=by
 intro f k it M us w h hM hc hk hpath
 obtain ⟨hil,hkl⟩:=item_lt hk
 obtain ⟨g,cap,v,lo,hi,e1,e2,e3,e4,e5,e6,e7,e8⟩:=h.st.item hil hk
 have hA:=h.alloc (.cells #[.int .i64 0,.int .i64 0,.int .i64 0,.int .i64 0] 205)
 obtain ⟨-,c1⟩:=hA.wsp
 obtain ⟨fg,fcap,d1,d2,d3,d4⟩:=hA.files hil
 rw [d1] at c1
 have hf:=hA.file hil
 rw [e1] at hf
 have f0:=cell_of_row _ _ 0 _ _ _ hf
 have iv:=hA.kp.cellv e4 e5
 have hi1:(f:Int)<(fs.length:Int):=by omega
 have hn16:=h.st.n
 have hIl:=h.st.il f
 have hi2:(k:Int)<((X.itemsOf fs f).length:Int):=by omega
 have h0:=h.size
 have hS:=h.st.lt
 have HA:=hide hA
 have HMo:=hide hM
 have HP:=hide hpath
 have HH:=hide h
 clear hf h hA hM hpath d1 e1
 cases e6 with
 | use ub pub gs m n a hb hub =>
  have HC:=hide (hU f k pub gs m n a ub M us _ HA.out HMo.out hc hk hub (e8 ub hb.1 hb.2) ((HP.out) rfl))
  have hat:=asrtUse ub
  clear hub hU
  go_enter Tryz.func135,Tryz.ntmps135
  go_wp2_with fail
  refine (HC.out).mono ?_
  rintro e w2 ⟨tf,tt,er,rfl,H2⟩
  obtain ⟨x1,M',x2,x3,x4,x5⟩:=H2.out
  obtain ⟨s1,s2,s3⟩:=run_store4 x2 x5 h0 hS (.int .i64 2) (.int .i64 tf) (.int .i64 tt) (.int .i64 er)
  have m0:=cell_of_row w2 _ 0 _ _ _ s1
  have m1:=cell_of_row w2 _ 1 _ _ _ s1
  have m2:=cell_of_row w2 _ 2 _ _ _ s1
  have m3:=cell_of_row w2 _ 3 _ _ _ s1
  have z0:=frozen_of_row w2 _ 0 _ _ s1
  have z1:=frozen_of_row w2 _ 1 _ _ s1
  have z2:=frozen_of_row w2 _ 2 _ _ s1
  have z3:=frozen_of_row w2 _ 3 _ _ s1
  have HB:=hide s1
  have HF:Hid (X.EvA fs f k (tf,tt,er)∧∃ M',Run w0 L fs M' us _∧MOk fs M'∧(∀ i j,(M' i j).1=1↔(M i j).1=1)∧Kx L fs.length w0.heap.size w _):=⟨x1,M',s2,x3,x4,s3⟩
  clear x1 x2 x3 x4 x5 s1 s2 s3 H2 HC HH HA HMo HP hat
  go_wp2_with fail
  exact bodyPost_ret (res_ans rfl _ _ (b:=w.heap.size) rfl (set4_own HB.out)) rfl ⟨tf,tt,er,rfl,HF⟩
 | dfn b pub n pv ps v e hb hd hp he =>
  have hd2:=(HA.out).kp.heap hd (e8 b hb.1 hb.2)
  have HC:=hide (defCalled_any b pub n pv v _ _ _ hd2)
  have hat:=asrtDef b
  have hfld:=fldAt
  have hst:X.stp fs f k=.inl (f,n.2,0):=by unfold X.stp;rw [hk]
  have HE:=hide (X.EvA.fin hst)
  clear hd hd2 hU hp he hst
  go_enter Tryz.func135,Tryz.ntmps135
  go_wp2_with fail
  refine (HC.out).mono ?_
  rintro e w2 ⟨rfl,B2⟩
  obtain ⟨s1,s2,s3⟩:=run_store4 ((HA.out).below B2) (Kx.ofBelow B2) h0 hS (.int .i64 2) (.int .i64 f) (.int .i64 n.2) (.int .i64 0)
  have m0:=cell_of_row w2 _ 0 _ _ _ s1
  have m1:=cell_of_row w2 _ 1 _ _ _ s1
  have m2:=cell_of_row w2 _ 2 _ _ _ s1
  have m3:=cell_of_row w2 _ 3 _ _ _ s1
  have z0:=frozen_of_row w2 _ 0 _ _ s1
  have z1:=frozen_of_row w2 _ 1 _ _ s1
  have z2:=frozen_of_row w2 _ 2 _ _ s1
  have z3:=frozen_of_row w2 _ 3 _ _ s1
  have HB:=hide s1
  have HF:Hid (X.EvA fs f k (f,n.2,0)∧∃ M',Run w0 L fs M' us _∧MOk fs M'∧(∀ i j,(M' i j).1=1↔(M i j).1=1)∧Kx L fs.length w0.heap.size w _):=⟨HE.out,M,s2,HMo.out,fun _ _=>Iff.rfl,s3⟩
  clear s1 s2 s3 B2 HC HH HA HMo HP hat HE
  go_wp2_with fail
  exact bodyPost_ret (res_ans rfl _ _ (b:=w.heap.size) rfl (set4_own HB.out)) rfl ⟨f,n.2,0,rfl,HF⟩
end Go.Proofs.YtbmebfgapjhchaaGreatDoor
/- Package scope: a use leads to an item. -/
namespace Go.Proofs.YtbmebfgapjhchaaGreatDoor
open Go.RowKit
open M
variable {w0:World} {L:Lay} {fs:List X.Fl} {M:Mem} {us:List X.U} {w:World}
theorem shown_of {w:World} {lo hi:Nat} {v:Value} {it:X.It} (h:IsIt w lo hi v it) (b0:Bool) (hb0:X.shown it=b0):∃ b,(v=.iface 124 (.pointer (some ⟨b,0,none⟩))∧Calls Tryz.prog 185 #[.pointer (some ⟨b,0,none⟩)] w fun e w'=>e=.returned (.bool b0)∧w'=w)∨(v=.iface 126 (.pointer (some ⟨b,0,none⟩))∧Calls Tryz.prog 187 #[.pointer (some ⟨b,0,none⟩)] w fun e w'=>e=.returned (.bool b0)∧w'=w):=by
 subst hb0
 cases h with
 | use b pub gs m n a hb h=>exact ⟨b,.inl ⟨rfl,useShown_any b pub gs m n a w h⟩⟩
 | dfn b pub n pv ps v e hb h hp he=>exact ⟨b,.inr ⟨rfl,defShown_any b pub n pv v _ _ w h⟩⟩
theorem modI_lt {x:List UInt8} {f:Nat} (h:X.modI fs x=some f):f<fs.length:=by
 unfold X.modI at h
 split at h
 ·cases h
 ·exact (List.findIdx?_eq_some_iff_getElem.1 h).1
theorem stp_cases (f k:Nat) (pub gs:Bool) (m n a:X.Nm) (hk:(X.itemsOf fs f)[k]?=some (.use pub m n gs a)) :
  (X.modI fs m.1=none∧X.stp fs f k=.inl (-1,-1,4))∨∃ f',X.modI fs m.1=some f'∧((X.topI (X.itemsOf fs f') n.1=none∧X.stp fs f k=.inl (-1,-1,4))∨∃ k' it,X.topI (X.itemsOf fs f') n.1=some k'∧(X.itemsOf fs f')[k']?=some it ∧
   ((X.shown it=false∧f'≠f∧X.stp fs f k=.inl (-1,-1,6))∨((X.shown it=true∨f'=f)∧∀ ans,X.EvA fs f' k' ans→X.EvA fs f k ans)∧(X.isUse it=true→X.stp fs f k=.inr (f',k')))):=by
 have hst:X.stp fs f k=match X.modI fs m.1 with
  | none=>.inl (-1,-1,4)
  | some f'=>match X.topI (X.itemsOf fs f') n.1 with
   | none=>.inl (-1,-1,4)
   | some k'=>match (X.itemsOf fs f')[k']? with
    | none=>.inl (-1,-1,4)
    | some it=>if X.shown it=false∧f'≠f then .inl (-1,-1,6) else
     match it with
     | .dfn _ d _ _=>.inl (f',d.2,0)
     | .use _ _ _ _ _=>.inr (f',k'):=by
  unfold X.stp
  simp only [hk]
  rfl
 cases hm:X.modI fs m.1 with
 | none=>rw [hm] at hst;exact .inl ⟨rfl,hst⟩
 | some f' =>
  rw [hm] at hst
  refine .inr ⟨f',rfl,?_⟩
  cases ht:X.topI (X.itemsOf fs f') n.1 with
  | none=>simp only [ht] at hst;exact .inl ⟨rfl,hst⟩
  | some k' =>
   obtain ⟨it,hit,-⟩:=X.topI_name ht
   simp only [ht,hit] at hst
   refine .inr ⟨k',it,rfl,hit,?_⟩
   by_cases hs:X.shown it=false∧f'≠f
   ·rw [if_pos hs] at hst
    exact .inl ⟨hs.1,hs.2,hst⟩
   ·rw [if_neg hs] at hst
    right
    have h1:X.shown it=true∨f'=f:=by
     cases hb:X.shown it with
     | true=>exact .inl rfl
     | false =>
      right
      rcases Classical.em (f'=f) with g|g
      ·exact g
      ·exact absurd ⟨hb,g⟩ hs
    cases it with
    | use p2 m2 n2 gs2 a2=>exact ⟨⟨h1,fun ans ha=>X.EvA.step (p:=(f',k')) hst ha⟩,fun _=>hst⟩
    | dfn p2 d ps b =>
     refine ⟨⟨h1,fun ans ha=>?_⟩,fun h=>by cases h⟩
     have e2:X.stp fs f' k'=.inl (f',d.2,0):=by unfold X.stp;rw [hit]
     rw [ha.one (X.EvA.fin e2)]
     exact X.EvA.fin hst
def Al (w:World):World:=w.alloc (.cells #[.int .i64 0,.int .i64 0,.int .i64 0,.int .i64 0] 205)
def LookOk (w0:World) (L:Lay) (fs:List X.Fl) (N:Nat):Prop:=∀ (f k:Nat) (pub gs:Bool) (m n a:X.Nm) (ub:Nat) (M:Mem) (us:List X.U) (w:World),Run w0 L fs M us w→MOk fs M→cnt fs M≤N→(X.itemsOf fs f)[k]?=some (.use pub m n gs a)→w0.heap[ub]?=some (useC pub gs m n a)→¬ L.S fs.length ub →
 (∀ i j,(M i j).1=1→∃ t,X.on fs t (i,j)=some (f,k))→Calls Tryz.prog 119 #[.pointer (some ⟨L.wb,0,none⟩),.int .i64 f,.pointer (some ⟨ub,0,none⟩)] w (Fnd w0 L fs M us f k w)
set_option maxRecDepth 100000 in
set_option maxHeartbeats 4000000 in
theorem look_ok_of {N:Nat} (hI:ItemOk w0 L fs N):LookOk w0 L fs N:=by
 intro f k pub gs m n a ub M us w h hM hc hk hub hus hpath
 have hitB:=h.itB hk
 obtain ⟨⟨mB,-⟩,⟨nB,-⟩,-⟩:=hitB
 have hml:m.1.length≤maxLen:=by unfold maxLen;omega
 have hnl:n.1.length≤maxLen:=by unfold maxLen;omega
 have hA:=h.alloc (.cells #[.int .i64 0,.int .i64 0,.int .i64 0,.int .i64 0] 205)
 obtain ⟨c0,c1⟩:=hA.wsp
 have hu2:=hA.kp.heap hub hus
 have u1:=cell_of_row _ _ 1 _ _ _ hu2
 have u3:=cell_of_row _ _ 3 _ _ _ hu2
 have h0:=h.size
 have hS:=h.st.lt
 have hn16:=h.st.n
 obtain ⟨kk,hmp⟩:=(hA.below ((Below.refl _ _).drew)).mods
 have hrun:=hmp.run_ok hml
 have hil:=(item_lt hk).1
 have HA:=hide hA
 have HMo:=hide hM
 have HP:=hide hpath
 have HST:=hide (stp_cases f k pub gs m n a hk)
 have HI:=hide hI
 have HK:=hide hk
 clear h hA hM hpath hu2 hub hmp hI hk
 rcases HST.out with ⟨hm,hst⟩|⟨f',hm,hrest⟩
 ·rw [hm] at hrun
  have hrun':(Instr.lookup 85 (.map (some L.mb)) (.string (ba m.1)) true).run Tryz.prog (w.alloc (.cells #[.int .i64 0,.int .i64 0,.int .i64 0,.int .i64 0] 205)).drew=.ok (.tuple #[.int .i64 0,.bool false]) (w.alloc (.cells #[.int .i64 0,.int .i64 0,.int .i64 0,.int .i64 0] 205)).drew:=hrun
  clear hrun HST HI HK
  go_enter Tryz.func119,Tryz.ntmps119
  go_wp2_with fail
  have HX0:Hid (Kx L fs.length w0.heap.size (Al w) (w.alloc (.cells #[.int .i64 0,.int .i64 0,.int .i64 0,.int .i64 0] 205)).drew):=(Kx.refl _ _ _ _).drew
  have HD0:Hid (Run w0 L fs M us (w.alloc (.cells #[.int .i64 0,.int .i64 0,.int .i64 0,.int .i64 0] 205)).drew):=(HA.out).below ((Below.refl _ _).drew)
  generalize w.alloc (.cells #[.int .i64 0,.int .i64 0,.int .i64 0,.int .i64 0] 205)=W at *
  go_region_held3 (fun w'=>w'.cell? ⟨L.wb,0,none⟩=some (.map (some L.mb))∧w'.cell? ⟨ub,1,none⟩=some (.string (ba m.1))∧(Instr.lookup 85 (.map (some L.mb)) (.string (ba m.1)) true).run Tryz.prog w'=.ok (.tuple #[.int .i64 0,.bool false]) w')
   (first|(with_reducible exact ⟨c0,u1,hrun'⟩)|go_keep)
   (fail)
  have HD:=HD0
  have HX:=HX0
  clear hrun' HX0 HD0 c0 c1 u1 u3 HA
  generalize W.drew=Wd at *
  have HE:=hide (X.EvA.fin hst)
  clear hst
  go_wp2_with fail
  refine (wrong_any 4 _).mono ?_
  rintro e w2 ⟨rfl,B2⟩
  obtain ⟨s1,s2,s3⟩:=run_store4 ((HD.out).below B2) ((HX.out).trans (Kx.ofBelow B2)) h0 hS (.int .i64 2) (.int .i64 (-1)) (.int .i64 (-1)) (.int .i64 4)
  have m0:=cell_of_row w2 _ 0 _ _ _ s1
  have m1:=cell_of_row w2 _ 1 _ _ _ s1
  have m2:=cell_of_row w2 _ 2 _ _ _ s1
  have m3:=cell_of_row w2 _ 3 _ _ _ s1
  have z0:=frozen_of_row w2 _ 0 _ _ s1
  have z1:=frozen_of_row w2 _ 1 _ _ s1
  have z2:=frozen_of_row w2 _ 2 _ _ s1
  have z3:=frozen_of_row w2 _ 3 _ _ s1
  have HB:=hide s1
  have HF:Hid (X.EvA fs f k (-1,-1,4)∧∃ M',Run w0 L fs M' us _∧MOk fs M'∧(∀ i j,(M' i j).1=1↔(M i j).1=1)∧Kx L fs.length w0.heap.size w _):=⟨HE.out,M,s2,HMo.out,fun _ _=>Iff.rfl,s3⟩
  clear s1 s2 s3 B2 HE HD HX HMo HP
  go_wp2_with fail
  exact bodyPost_ret (res_ans rfl _ _ (b:=w.heap.size) rfl (set4_own HB.out)) rfl ⟨-1,-1,4,rfl,HF⟩
 ·rcases hrest with ⟨ht,hst⟩|⟨k',it,ht,hit,hrest⟩
  ·rw [hm] at hrun
   have hrun':(Instr.lookup 85 (.map (some L.mb)) (.string (ba m.1)) true).run Tryz.prog (w.alloc (.cells #[.int .i64 0,.int .i64 0,.int .i64 0,.int .i64 0] 205)).drew=.ok (.tuple #[.int .i64 f',.bool true]) (w.alloc (.cells #[.int .i64 0,.int .i64 0,.int .i64 0,.int .i64 0] 205)).drew:=hrun
   have hfl:=modI_lt hm
   obtain ⟨kk2,hmp2⟩:=((HA.out).below ((Below.refl _ _).drew.drew)).named hfl
   have hrun2:=hmp2.run_ok hnl
   obtain ⟨fg,fcap,d1,d2,d3,d4⟩:=(HA.out).files hfl
   rw [d1] at c1
   have hff:=(HA.out).file hfl
   have g0:=cell_of_row _ _ 0 _ _ _ hff
   have g1:=cell_of_row _ _ 1 _ _ _ hff
   have hi1:(f':Int)<(fs.length:Int):=by omega
   clear hrun hmp2 hff d1
   rw [ht] at hrun2
   have hrun2':(Instr.lookup 85 (.map (some (L.nb f'))) (.string (ba n.1)) true).run Tryz.prog (w.alloc (.cells #[.int .i64 0,.int .i64 0,.int .i64 0,.int .i64 0] 205)).drew.drew=.ok (.tuple #[.int .i64 0,.bool false]) (w.alloc (.cells #[.int .i64 0,.int .i64 0,.int .i64 0,.int .i64 0] 205)).drew.drew:=hrun2
   clear hrun2 HST HI HK g0
   go_enter Tryz.func119,Tryz.ntmps119
   go_wp2_with fail
   have HX0:Hid (Kx L fs.length w0.heap.size (Al w) (w.alloc (.cells #[.int .i64 0,.int .i64 0,.int .i64 0,.int .i64 0] 205)).drew):=(Kx.refl _ _ _ _).drew
   have HD0:Hid (Run w0 L fs M us (w.alloc (.cells #[.int .i64 0,.int .i64 0,.int .i64 0,.int .i64 0] 205)).drew):=(HA.out).below ((Below.refl _ _).drew)
   generalize w.alloc (.cells #[.int .i64 0,.int .i64 0,.int .i64 0,.int .i64 0] 205)=W at *
   go_region_held3 (fun w'=>w'.cell? ⟨L.wb,0,none⟩=some (.map (some L.mb))∧w'.cell? ⟨ub,1,none⟩=some (.string (ba m.1))∧(Instr.lookup 85 (.map (some L.mb)) (.string (ba m.1)) true).run Tryz.prog w'=.ok (.tuple #[.int .i64 f',.bool true]) w')
    (first|(with_reducible exact ⟨c0,u1,hrun'⟩)|go_keep)
    (fail)
   clear hrun'
   have c1d:W.drew.cell? ⟨L.wb,1,none⟩=some (.slice (some ⟨fg,0,none⟩) fs.length fcap):=c1
   have d4d:W.drew.cell? ⟨fg,f',none⟩=some (.pointer (some ⟨L.fb f',0,none⟩)):=d4
   have g1d:W.drew.cell? ⟨L.fb f',1,none⟩=some (.map (some (L.nb f'))):=g1
   have u3d:W.drew.cell? ⟨ub,3,none⟩=some (.string (ba n.1)):=u3
   clear c1 c0 u1 d4 g1 u3
   go_wp2_with fail
   have hrun2'':(Instr.lookup 85 (.map (some (L.nb f'))) (.string (ba n.1)) true).run Tryz.prog W.drew.drew=.ok (.tuple #[.int .i64 0,.bool false]) W.drew.drew:=hrun2'
   go_region_held3 (fun w'=>w'.cell? ⟨L.fb f',1,none⟩=some (.map (some (L.nb f')))∧w'.cell? ⟨ub,3,none⟩=some (.string (ba n.1))∧(Instr.lookup 85 (.map (some (L.nb f'))) (.string (ba n.1)) true).run Tryz.prog w'=.ok (.tuple #[.int .i64 0,.bool false]) w')
    (first|(with_reducible exact ⟨g1d,u3d,hrun2''⟩)|go_keep)
    (fail)
   have HD:Hid (Run w0 L fs M us W.drew.drew):=(HD0.out).below ((Below.refl _ _).drew)
   have HX:Hid (Kx L fs.length w0.heap.size (Al w) W.drew.drew):=(HX0.out).drew
   clear hrun2' hrun2'' HX0 HD0 c1d d4d u3d g1d HA
   generalize W.drew.drew=Wd at *
   have HE:=hide (X.EvA.fin hst)
   clear hst
   go_wp2_with fail
   refine (wrong_any 4 _).mono ?_
   rintro e w2 ⟨rfl,B2⟩
   obtain ⟨s1,s2,s3⟩:=run_store4 ((HD.out).below B2) ((HX.out).trans (Kx.ofBelow B2)) h0 hS (.int .i64 2) (.int .i64 (-1)) (.int .i64 (-1)) (.int .i64 4)
   have m0:=cell_of_row w2 _ 0 _ _ _ s1
   have m1:=cell_of_row w2 _ 1 _ _ _ s1
   have m2:=cell_of_row w2 _ 2 _ _ _ s1
   have m3:=cell_of_row w2 _ 3 _ _ _ s1
   have z0:=frozen_of_row w2 _ 0 _ _ s1
   have z1:=frozen_of_row w2 _ 1 _ _ s1
   have z2:=frozen_of_row w2 _ 2 _ _ s1
   have z3:=frozen_of_row w2 _ 3 _ _ s1
   have HB:=hide s1
   have HF:Hid (X.EvA fs f k (-1,-1,4)∧∃ M',Run w0 L fs M' us _∧MOk fs M'∧(∀ i j,(M' i j).1=1↔(M i j).1=1)∧Kx L fs.length w0.heap.size w _):=⟨HE.out,M,s2,HMo.out,fun _ _=>Iff.rfl,s3⟩
   clear s1 s2 s3 B2 HE HD HX HMo HP
   go_wp2_with fail
   exact bodyPost_ret (res_ans rfl _ _ (b:=w.heap.size) rfl (set4_own HB.out)) rfl ⟨-1,-1,4,rfl,HF⟩
  ·rcases hrest with ⟨hsh,hne,hst⟩|⟨⟨hvis,hev⟩,hnx⟩
   ·have hn1:((f':Int)==f)=false:=by simp;omega
    have hn2:(!((f':Int)==f))=true:=by rw [hn1];rfl
    rw [hm] at hrun
    have hrun':(Instr.lookup 85 (.map (some L.mb)) (.string (ba m.1)) true).run Tryz.prog (w.alloc (.cells #[.int .i64 0,.int .i64 0,.int .i64 0,.int .i64 0] 205)).drew=.ok (.tuple #[.int .i64 f',.bool true]) (w.alloc (.cells #[.int .i64 0,.int .i64 0,.int .i64 0,.int .i64 0] 205)).drew:=hrun
    have hfl:=modI_lt hm
    obtain ⟨kk2,hmp2⟩:=((HA.out).below ((Below.refl _ _).drew.drew)).named hfl
    have hrun2:=hmp2.run_ok hnl
    obtain ⟨fg,fcap,d1,d2,d3,d4⟩:=(HA.out).files hfl
    rw [d1] at c1
    have hff:=(HA.out).file hfl
    have g0:=cell_of_row _ _ 0 _ _ _ hff
    have g1:=cell_of_row _ _ 1 _ _ _ hff
    have hi1:(f':Int)<(fs.length:Int):=by omega
    clear hrun hmp2 hff d1
    rw [ht] at hrun2
    have hrun2':(Instr.lookup 85 (.map (some (L.nb f'))) (.string (ba n.1)) true).run Tryz.prog (w.alloc (.cells #[.int .i64 0,.int .i64 0,.int .i64 0,.int .i64 0] 205)).drew.drew=.ok (.tuple #[.int .i64 k',.bool true]) (w.alloc (.cells #[.int .i64 0,.int .i64 0,.int .i64 0,.int .i64 0] 205)).drew.drew:=hrun2
    obtain ⟨ig,icap,v',lo,hi,i1,i2,i3,i4,i5,i6,i7,i8⟩:=((HA.out).st).item hfl hit
    rw [i1] at g0
    have hkl2:=(item_lt hit).2
    have hIl:=((HA.out).st).il f'
    have hi2:(k':Int)<((X.itemsOf fs f').length:Int):=by omega
    clear hrun2 HST HK i1
    go_enter Tryz.func119,Tryz.ntmps119
    go_wp2_with fail
    have HX0:Hid (Kx L fs.length w0.heap.size (Al w) (w.alloc (.cells #[.int .i64 0,.int .i64 0,.int .i64 0,.int .i64 0] 205)).drew):=(Kx.refl _ _ _ _).drew
    have HD0:Hid (Run w0 L fs M us (w.alloc (.cells #[.int .i64 0,.int .i64 0,.int .i64 0,.int .i64 0] 205)).drew):=(HA.out).below ((Below.refl _ _).drew)
    generalize w.alloc (.cells #[.int .i64 0,.int .i64 0,.int .i64 0,.int .i64 0] 205)=W at *
    go_region_held3 (fun w'=>w'.cell? ⟨L.wb,0,none⟩=some (.map (some L.mb))∧w'.cell? ⟨ub,1,none⟩=some (.string (ba m.1))∧(Instr.lookup 85 (.map (some L.mb)) (.string (ba m.1)) true).run Tryz.prog w'=.ok (.tuple #[.int .i64 f',.bool true]) w')
     (first|(with_reducible exact ⟨c0,u1,hrun'⟩)|go_keep)
     (fail)
    clear hrun'
    have c1d:W.drew.cell? ⟨L.wb,1,none⟩=some (.slice (some ⟨fg,0,none⟩) fs.length fcap):=c1
    have d4d:W.drew.cell? ⟨fg,f',none⟩=some (.pointer (some ⟨L.fb f',0,none⟩)):=d4
    have g0d:W.drew.cell? ⟨L.fb f',0,none⟩=some (.slice (some ⟨ig,0,none⟩) (X.itemsOf fs f').length icap):=g0
    have g1d:W.drew.cell? ⟨L.fb f',1,none⟩=some (.map (some (L.nb f'))):=g1
    have u3d:W.drew.cell? ⟨ub,3,none⟩=some (.string (ba n.1)):=u3
    clear c1 c0 u1 d4 g0 g1 u3
    go_wp2_with fail
    have hrun2'':(Instr.lookup 85 (.map (some (L.nb f'))) (.string (ba n.1)) true).run Tryz.prog W.drew.drew=.ok (.tuple #[.int .i64 k',.bool true]) W.drew.drew:=hrun2'
    go_region_held3 (fun w'=>w'.cell? ⟨L.fb f',1,none⟩=some (.map (some (L.nb f')))∧w'.cell? ⟨ub,3,none⟩=some (.string (ba n.1))∧(Instr.lookup 85 (.map (some (L.nb f'))) (.string (ba n.1)) true).run Tryz.prog w'=.ok (.tuple #[.int .i64 k',.bool true]) w')
     (first|(with_reducible exact ⟨g1d,u3d,hrun2''⟩)|go_keep)
     (fail)
    have HD:Hid (Run w0 L fs M us W.drew.drew):=(HD0.out).below ((Below.refl _ _).drew)
    have HX:Hid (Kx L fs.length w0.heap.size (Al w) W.drew.drew):=(HX0.out).drew
    clear hrun2' hrun2'' HX0 HD0 c1d d4d u3d g1d HA
    have HIT:=(HD.out).kp
    have iv1:=HIT.cellv i4 i5
    have i6':=i6.keep HIT i8
    obtain ⟨ib,hcase⟩:=shown_of i6' false hsh
    clear HIT i4 i5 i6 i6' i8
    have g0e:W.drew.drew.cell? ⟨L.fb f',0,none⟩=some (.slice (some ⟨ig,0,none⟩) (X.itemsOf fs f').length icap):=g0d
    clear g0d
    generalize W.drew.drew=Wd at *
    rcases hcase with ⟨rfl,HC0⟩|⟨rfl,HC0⟩
    all_goals
     have HC:=hide HC0
     clear HC0
     go_wp2_with fail
     refine (HC.out).mono ?_
     rintro e w3 ⟨rfl,rfl⟩
     clear HC g0e iv1
     clear HI hit
     have HE:=hide (X.EvA.fin hst)
     clear hst
     go_wp2_with fail
     refine (wrong_any 6 _).mono ?_
     rintro e w2 ⟨rfl,B2⟩
     obtain ⟨s1,s2,s3⟩:=run_store4 ((HD.out).below B2) ((HX.out).trans (Kx.ofBelow B2)) h0 hS (.int .i64 2) (.int .i64 (-1)) (.int .i64 (-1)) (.int .i64 6)
     have m0:=cell_of_row w2 _ 0 _ _ _ s1
     have m1:=cell_of_row w2 _ 1 _ _ _ s1
     have m2:=cell_of_row w2 _ 2 _ _ _ s1
     have m3:=cell_of_row w2 _ 3 _ _ _ s1
     have z0:=frozen_of_row w2 _ 0 _ _ s1
     have z1:=frozen_of_row w2 _ 1 _ _ s1
     have z2:=frozen_of_row w2 _ 2 _ _ s1
     have z3:=frozen_of_row w2 _ 3 _ _ s1
     have HB:=hide s1
     have HF:Hid (X.EvA fs f k (-1,-1,6)∧∃ M',Run w0 L fs M' us _∧MOk fs M'∧(∀ i j,(M' i j).1=1↔(M i j).1=1)∧Kx L fs.length w0.heap.size w _):=⟨HE.out,M,s2,HMo.out,fun _ _=>Iff.rfl,s3⟩
     clear s1 s2 s3 B2 HE HD HX HMo HP
     go_wp2_with fail
     exact bodyPost_ret (res_ans rfl _ _ (b:=w.heap.size) rfl (set4_own HB.out)) rfl ⟨-1,-1,6,rfl,HF⟩
   ·cases hsh:X.shown it with
    | true =>
     rw [hm] at hrun
     have hrun':(Instr.lookup 85 (.map (some L.mb)) (.string (ba m.1)) true).run Tryz.prog (w.alloc (.cells #[.int .i64 0,.int .i64 0,.int .i64 0,.int .i64 0] 205)).drew=.ok (.tuple #[.int .i64 f',.bool true]) (w.alloc (.cells #[.int .i64 0,.int .i64 0,.int .i64 0,.int .i64 0] 205)).drew:=hrun
     have hfl:=modI_lt hm
     obtain ⟨kk2,hmp2⟩:=((HA.out).below ((Below.refl _ _).drew.drew)).named hfl
     have hrun2:=hmp2.run_ok hnl
     obtain ⟨fg,fcap,d1,d2,d3,d4⟩:=(HA.out).files hfl
     rw [d1] at c1
     have hff:=(HA.out).file hfl
     have g0:=cell_of_row _ _ 0 _ _ _ hff
     have g1:=cell_of_row _ _ 1 _ _ _ hff
     have hi1:(f':Int)<(fs.length:Int):=by omega
     clear hrun hmp2 hff d1
     rw [ht] at hrun2
     have hrun2':(Instr.lookup 85 (.map (some (L.nb f'))) (.string (ba n.1)) true).run Tryz.prog (w.alloc (.cells #[.int .i64 0,.int .i64 0,.int .i64 0,.int .i64 0] 205)).drew.drew=.ok (.tuple #[.int .i64 k',.bool true]) (w.alloc (.cells #[.int .i64 0,.int .i64 0,.int .i64 0,.int .i64 0] 205)).drew.drew:=hrun2
     obtain ⟨ig,icap,v',lo,hi,i1,i2,i3,i4,i5,i6,i7,i8⟩:=((HA.out).st).item hfl hit
     rw [i1] at g0
     have hkl2:=(item_lt hit).2
     have hIl:=((HA.out).st).il f'
     have hi2:(k':Int)<((X.itemsOf fs f').length:Int):=by omega
     clear hrun2 HST HK i1
     go_enter Tryz.func119,Tryz.ntmps119
     go_wp2_with fail
     have HX0:Hid (Kx L fs.length w0.heap.size (Al w) (w.alloc (.cells #[.int .i64 0,.int .i64 0,.int .i64 0,.int .i64 0] 205)).drew):=(Kx.refl _ _ _ _).drew
     have HD0:Hid (Run w0 L fs M us (w.alloc (.cells #[.int .i64 0,.int .i64 0,.int .i64 0,.int .i64 0] 205)).drew):=(HA.out).below ((Below.refl _ _).drew)
     generalize w.alloc (.cells #[.int .i64 0,.int .i64 0,.int .i64 0,.int .i64 0] 205)=W at *
     go_region_held3 (fun w'=>w'.cell? ⟨L.wb,0,none⟩=some (.map (some L.mb))∧w'.cell? ⟨ub,1,none⟩=some (.string (ba m.1))∧(Instr.lookup 85 (.map (some L.mb)) (.string (ba m.1)) true).run Tryz.prog w'=.ok (.tuple #[.int .i64 f',.bool true]) w')
      (first|(with_reducible exact ⟨c0,u1,hrun'⟩)|go_keep)
      (fail)
     clear hrun'
     have c1d:W.drew.cell? ⟨L.wb,1,none⟩=some (.slice (some ⟨fg,0,none⟩) fs.length fcap):=c1
     have d4d:W.drew.cell? ⟨fg,f',none⟩=some (.pointer (some ⟨L.fb f',0,none⟩)):=d4
     have g0d:W.drew.cell? ⟨L.fb f',0,none⟩=some (.slice (some ⟨ig,0,none⟩) (X.itemsOf fs f').length icap):=g0
     have g1d:W.drew.cell? ⟨L.fb f',1,none⟩=some (.map (some (L.nb f'))):=g1
     have u3d:W.drew.cell? ⟨ub,3,none⟩=some (.string (ba n.1)):=u3
     clear c1 c0 u1 d4 g0 g1 u3
     go_wp2_with fail
     have hrun2'':(Instr.lookup 85 (.map (some (L.nb f'))) (.string (ba n.1)) true).run Tryz.prog W.drew.drew=.ok (.tuple #[.int .i64 k',.bool true]) W.drew.drew:=hrun2'
     go_region_held3 (fun w'=>w'.cell? ⟨L.fb f',1,none⟩=some (.map (some (L.nb f')))∧w'.cell? ⟨ub,3,none⟩=some (.string (ba n.1))∧(Instr.lookup 85 (.map (some (L.nb f'))) (.string (ba n.1)) true).run Tryz.prog w'=.ok (.tuple #[.int .i64 k',.bool true]) w')
      (first|(with_reducible exact ⟨g1d,u3d,hrun2''⟩)|go_keep)
      (fail)
     have HD:Hid (Run w0 L fs M us W.drew.drew):=(HD0.out).below ((Below.refl _ _).drew)
     have HX:Hid (Kx L fs.length w0.heap.size (Al w) W.drew.drew):=(HX0.out).drew
     clear hrun2' hrun2'' HX0 HD0 c1d d4d u3d g1d HA
     have HIT:=(HD.out).kp
     have iv1:=HIT.cellv i4 i5
     have i6':=i6.keep HIT i8
     obtain ⟨ib,hcase⟩:=shown_of i6' true hsh
     clear HIT i4 i5 i6 i6' i8
     have g0e:W.drew.drew.cell? ⟨L.fb f',0,none⟩=some (.slice (some ⟨ig,0,none⟩) (X.itemsOf fs f').length icap):=g0d
     clear g0d
     generalize W.drew.drew=Wd at *
     rcases hcase with ⟨rfl,HC0⟩|⟨rfl,HC0⟩
     all_goals
      have HC:=hide HC0
      clear HC0
      go_wp2_with fail
      refine (HC.out).mono ?_
      rintro e w3 ⟨rfl,rfl⟩
      clear HC g0e iv1
      have HPn:Hid (X.isUse it=true→∀ i j,(M i j).1=1→∃ t,X.on fs (t+1) (i,j)=some (f',k')):=fun hu i j hij=>by
       obtain ⟨t,ht⟩:=(HP.out) i j hij
       exact ⟨t,X.on_snoc ht (hnx hu)⟩
      have HC:=hide ((HI.out) f' k' it M us w3 HD.out HMo.out hc hit HPn.out)
      have HEV:=hide hev
      clear HI hit HP HPn hnx hev
      go_wp2_with fail
      refine (HC.out).mono ?_
      rintro e w4 ⟨tf,tt,er,rfl,H4⟩
      obtain ⟨x1,M',x2,x3,x4,x5⟩:=H4.out
      obtain ⟨s1,s2,s3⟩:=run_store4 x2 ((HX.out).trans x5) h0 hS (.int .i64 2) (.int .i64 tf) (.int .i64 tt) (.int .i64 er)
      have m0:=cell_of_row w4 _ 0 _ _ _ s1
      have m1:=cell_of_row w4 _ 1 _ _ _ s1
      have m2:=cell_of_row w4 _ 2 _ _ _ s1
      have m3:=cell_of_row w4 _ 3 _ _ _ s1
      have z0:=frozen_of_row w4 _ 0 _ _ s1
      have z1:=frozen_of_row w4 _ 1 _ _ s1
      have z2:=frozen_of_row w4 _ 2 _ _ s1
      have z3:=frozen_of_row w4 _ 3 _ _ s1
      have HB:=hide s1
      have HF:Hid (X.EvA fs f k (tf,tt,er)∧∃ M',Run w0 L fs M' us _∧MOk fs M'∧(∀ i j,(M' i j).1=1↔(M i j).1=1)∧Kx L fs.length w0.heap.size w _):=⟨(HEV.out) _ x1,M',s2,x3,x4,s3⟩
      clear s1 s2 s3 x1 x2 x3 x4 x5 H4 HC HD HX HMo HEV
      go_wp2_with fail
      exact bodyPost_ret (res_ans rfl _ _ (b:=w.heap.size) rfl (set4_own HB.out)) rfl ⟨tf,tt,er,rfl,HF⟩
    | false =>
     have hff:f'=f:=by
      rcases hvis with h|h
      ·rw [hsh] at h;cases h
      ·exact h
     subst hff
     rw [hm] at hrun
     have hrun':(Instr.lookup 85 (.map (some L.mb)) (.string (ba m.1)) true).run Tryz.prog (w.alloc (.cells #[.int .i64 0,.int .i64 0,.int .i64 0,.int .i64 0] 205)).drew=.ok (.tuple #[.int .i64 f',.bool true]) (w.alloc (.cells #[.int .i64 0,.int .i64 0,.int .i64 0,.int .i64 0] 205)).drew:=hrun
     have hfl:=modI_lt hm
     obtain ⟨kk2,hmp2⟩:=((HA.out).below ((Below.refl _ _).drew.drew)).named hfl
     have hrun2:=hmp2.run_ok hnl
     obtain ⟨fg,fcap,d1,d2,d3,d4⟩:=(HA.out).files hfl
     rw [d1] at c1
     have hff:=(HA.out).file hfl
     have g0:=cell_of_row _ _ 0 _ _ _ hff
     have g1:=cell_of_row _ _ 1 _ _ _ hff
     have hi1:(f':Int)<(fs.length:Int):=by omega
     clear hrun hmp2 hff d1
     rw [ht] at hrun2
     have hrun2':(Instr.lookup 85 (.map (some (L.nb f'))) (.string (ba n.1)) true).run Tryz.prog (w.alloc (.cells #[.int .i64 0,.int .i64 0,.int .i64 0,.int .i64 0] 205)).drew.drew=.ok (.tuple #[.int .i64 k',.bool true]) (w.alloc (.cells #[.int .i64 0,.int .i64 0,.int .i64 0,.int .i64 0] 205)).drew.drew:=hrun2
     obtain ⟨ig,icap,v',lo,hi,i1,i2,i3,i4,i5,i6,i7,i8⟩:=((HA.out).st).item hfl hit
     rw [i1] at g0
     have hkl2:=(item_lt hit).2
     have hIl:=((HA.out).st).il f'
     have hi2:(k':Int)<((X.itemsOf fs f').length:Int):=by omega
     clear hrun2 HST HK i1
     go_enter Tryz.func119,Tryz.ntmps119
     go_wp2_with fail
     have HX0:Hid (Kx L fs.length w0.heap.size (Al w) (w.alloc (.cells #[.int .i64 0,.int .i64 0,.int .i64 0,.int .i64 0] 205)).drew):=(Kx.refl _ _ _ _).drew
     have HD0:Hid (Run w0 L fs M us (w.alloc (.cells #[.int .i64 0,.int .i64 0,.int .i64 0,.int .i64 0] 205)).drew):=(HA.out).below ((Below.refl _ _).drew)
     generalize w.alloc (.cells #[.int .i64 0,.int .i64 0,.int .i64 0,.int .i64 0] 205)=W at *
     go_region_held3 (fun w'=>w'.cell? ⟨L.wb,0,none⟩=some (.map (some L.mb))∧w'.cell? ⟨ub,1,none⟩=some (.string (ba m.1))∧(Instr.lookup 85 (.map (some L.mb)) (.string (ba m.1)) true).run Tryz.prog w'=.ok (.tuple #[.int .i64 f',.bool true]) w')
      (first|(with_reducible exact ⟨c0,u1,hrun'⟩)|go_keep)
      (fail)
     clear hrun'
     have c1d:W.drew.cell? ⟨L.wb,1,none⟩=some (.slice (some ⟨fg,0,none⟩) fs.length fcap):=c1
     have d4d:W.drew.cell? ⟨fg,f',none⟩=some (.pointer (some ⟨L.fb f',0,none⟩)):=d4
     have g0d:W.drew.cell? ⟨L.fb f',0,none⟩=some (.slice (some ⟨ig,0,none⟩) (X.itemsOf fs f').length icap):=g0
     have g1d:W.drew.cell? ⟨L.fb f',1,none⟩=some (.map (some (L.nb f'))):=g1
     have u3d:W.drew.cell? ⟨ub,3,none⟩=some (.string (ba n.1)):=u3
     clear c1 c0 u1 d4 g0 g1 u3
     go_wp2_with fail
     have hrun2'':(Instr.lookup 85 (.map (some (L.nb f'))) (.string (ba n.1)) true).run Tryz.prog W.drew.drew=.ok (.tuple #[.int .i64 k',.bool true]) W.drew.drew:=hrun2'
     go_region_held3 (fun w'=>w'.cell? ⟨L.fb f',1,none⟩=some (.map (some (L.nb f')))∧w'.cell? ⟨ub,3,none⟩=some (.string (ba n.1))∧(Instr.lookup 85 (.map (some (L.nb f'))) (.string (ba n.1)) true).run Tryz.prog w'=.ok (.tuple #[.int .i64 k',.bool true]) w')
      (first|(with_reducible exact ⟨g1d,u3d,hrun2''⟩)|go_keep)
      (fail)
     have HD:Hid (Run w0 L fs M us W.drew.drew):=(HD0.out).below ((Below.refl _ _).drew)
     have HX:Hid (Kx L fs.length w0.heap.size (Al w) W.drew.drew):=(HX0.out).drew
     clear hrun2' hrun2'' HX0 HD0 c1d d4d u3d g1d HA
     have HIT:=(HD.out).kp
     have iv1:=HIT.cellv i4 i5
     have i6':=i6.keep HIT i8
     obtain ⟨ib,hcase⟩:=shown_of i6' false hsh
     clear HIT i4 i5 i6 i6' i8
     have g0e:W.drew.drew.cell? ⟨L.fb f',0,none⟩=some (.slice (some ⟨ig,0,none⟩) (X.itemsOf fs f').length icap):=g0d
     clear g0d
     generalize W.drew.drew=Wd at *
     rcases hcase with ⟨rfl,HC0⟩|⟨rfl,HC0⟩
     all_goals
      have HC:=hide HC0
      clear HC0
      go_wp2_with fail
      refine (HC.out).mono ?_
      rintro e w3 ⟨rfl,rfl⟩
      clear HC g0e iv1
      have HPn:Hid (X.isUse it=true→∀ i j,(M i j).1=1→∃ t,X.on fs (t+1) (i,j)=some (f',k')):=fun hu i j hij=>by
       obtain ⟨t,ht⟩:=(HP.out) i j hij
       exact ⟨t,X.on_snoc ht (hnx hu)⟩
      have HC:=hide ((HI.out) f' k' it M us w3 HD.out HMo.out hc hit HPn.out)
      have HEV:=hide hev
      clear HI hit HP HPn hnx hev
      go_wp2_with fail
      refine (HC.out).mono ?_
      rintro e w4 ⟨tf,tt,er,rfl,H4⟩
      obtain ⟨x1,M',x2,x3,x4,x5⟩:=H4.out
      obtain ⟨s1,s2,s3⟩:=run_store4 x2 ((HX.out).trans x5) h0 hS (.int .i64 2) (.int .i64 tf) (.int .i64 tt) (.int .i64 er)
      have m0:=cell_of_row w4 _ 0 _ _ _ s1
      have m1:=cell_of_row w4 _ 1 _ _ _ s1
      have m2:=cell_of_row w4 _ 2 _ _ _ s1
      have m3:=cell_of_row w4 _ 3 _ _ _ s1
      have z0:=frozen_of_row w4 _ 0 _ _ s1
      have z1:=frozen_of_row w4 _ 1 _ _ s1
      have z2:=frozen_of_row w4 _ 2 _ _ s1
      have z3:=frozen_of_row w4 _ 3 _ _ s1
      have HB:=hide s1
      have HF:Hid (X.EvA fs f' k (tf,tt,er)∧∃ M',Run w0 L fs M' us _∧MOk fs M'∧(∀ i j,(M' i j).1=1↔(M i j).1=1)∧Kx L fs.length w0.heap.size w _):=⟨(HEV.out) _ x1,M',s2,x3,x4,s3⟩
      clear s1 s2 s3 x1 x2 x3 x4 x5 H4 HC HD HX HMo HEV
      go_wp2_with fail
      exact bodyPost_ret (res_ans rfl _ _ (b:=w.heap.size) rfl (set4_own HB.out)) rfl ⟨tf,tt,er,rfl,HF⟩
end Go.Proofs.YtbmebfgapjhchaaGreatDoor
/- Package scope: what the UItem of a use stands for. -/
namespace Go.Proofs.YtbmebfgapjhchaaGreatDoor
open Go.RowKit
open M
variable {w0:World} {L:Lay} {fs:List X.Fl} {M:Mem} {us:List X.U} {w:World}
set_option maxRecDepth 100000 in
set_option maxHeartbeats 4000000 in
theorem used_seen (f k:Nat) (pub gs:Bool) (m n a:X.Nm) (ub:Nat) (h:Run w0 L fs M us w) (hM:MOk fs M) (hk:(X.itemsOf fs f)[k]?=some (.use pub m n gs a)) (hpath:∀ i j,(M i j).1=1→∃ t,X.on fs (t+1) (i,j)=some (f,k)) (h0:(M f k).1≠0) :
  Calls Tryz.prog 90 #[.pointer (some ⟨L.wb,0,none⟩),.int .i64 f,.int .i64 k,.pointer (some ⟨ub,0,none⟩)] w (Fnd w0 L fs M us f k w):=by
 obtain ⟨hil,hkl⟩:=item_lt hk
 have hA:=h.alloc (.cells #[.int .i64 0,.int .i64 0,.int .i64 0,.int .i64 0] 205)
 obtain ⟨-,c1⟩:=hA.wsp
 obtain ⟨fg,fcap,d1,d2,d3,d4⟩:=hA.files hil
 rw [d1] at c1
 have hff:=hA.file hil
 have g2:=cell_of_row _ _ 2 _ _ _ hff
 have hn16:=h.st.n
 have hIl:=h.st.il f
 have hi1:(f:Int)<(fs.length:Int):=by omega
 have hi2:(k:Int)<((X.itemsOf fs f).length:Int):=by omega
 obtain ⟨⟨a0,a1,a2,a3⟩,-⟩:=hA.ans hil hkl
 have hw0:=h.size
 have hS:=h.st.lt
 have hle:=(hM f k).1
 have hsz:w.heap.size<(w.alloc (.cells #[.int .i64 0,.int .i64 0,.int .i64 0,.int .i64 0] 205)).heap.size:=by simp
 have HA:=hide hA
 have HMo:=hide hM
 have HXx:Hid (Kx L fs.length w0.heap.size (Al w) (w.alloc (.cells #[.int .i64 0,.int .i64 0,.int .i64 0,.int .i64 0] 205))):=Kx.refl _ _ _ _
 by_cases h1:(M f k).1=1
 ·obtain ⟨t,ht⟩:=hpath f k h1
  have HE:=hide (X.EvA.ring ht)
  rw [h1] at a0
  have a0':(w.alloc (.cells #[.int .i64 0,.int .i64 0,.int .i64 0,.int .i64 0] 205)).cell? ⟨L.gb f,k*4,none⟩=some (.int .i64 1):=a0
  clear h hA hM hpath hff d1 a0 h1 ht hle h0
  go_enter Tryz.func90,Tryz.ntmps90
  go_wp2_with fail
  refine (wrong_any 7 _).mono ?_
  rintro e w2 ⟨rfl,B2⟩
  obtain ⟨s1,s2,s3⟩:=run_store4 ((HA.out).below B2) ((HXx.out).trans (Kx.ofBelow B2)) hw0 hS (.int .i64 2) (.int .i64 (-1)) (.int .i64 (-1)) (.int .i64 7)
  have m0:=cell_of_row w2 _ 0 _ _ _ s1
  have m1:=cell_of_row w2 _ 1 _ _ _ s1
  have m2:=cell_of_row w2 _ 2 _ _ _ s1
  have m3:=cell_of_row w2 _ 3 _ _ _ s1
  have z0:=frozen_of_row w2 _ 0 _ _ s1
  have z1:=frozen_of_row w2 _ 1 _ _ s1
  have z2:=frozen_of_row w2 _ 2 _ _ s1
  have z3:=frozen_of_row w2 _ 3 _ _ s1
  have HB:=hide s1
  have HF:Hid (X.EvA fs f k (-1,-1,7)∧∃ M',Run w0 L fs M' us _∧MOk fs M'∧(∀ i j,(M' i j).1=1↔(M i j).1=1)∧Kx L fs.length w0.heap.size w _):=⟨HE.out,M,s2,HMo.out,fun _ _=>Iff.rfl,s3⟩
  clear s1 s2 s3 B2 HE HA HXx HMo a0' a1 a2 a3 g2 c1 d4
  go_wp2_with fail
  exact bodyPost_ret (res_ans rfl _ _ (b:=w.heap.size) rfl (set4_own HB.out)) rfl ⟨-1,-1,7,rfl,HF⟩
 ·have h2:(M f k).1=2:=by omega
  have HE:=hide ((hM f k).2 h2)
  rw [h2] at a0
  have a0':(w.alloc (.cells #[.int .i64 0,.int .i64 0,.int .i64 0,.int .i64 0] 205)).cell? ⟨L.gb f,k*4,none⟩=some (.int .i64 2):=a0
  have HF:Hid (X.EvA fs f k ((M f k).2.1,(M f k).2.2.1,(M f k).2.2.2)∧∃ M',Run w0 L fs M' us (w.alloc (.cells #[.int .i64 2,.int .i64 (M f k).2.1,.int .i64 (M f k).2.2.1,.int .i64 (M f k).2.2.2] 205))∧MOk fs M'∧(∀ i j,(M' i j).1=1↔(M i j).1=1)∧Kx L fs.length w0.heap.size w (w.alloc (.cells #[.int .i64 2,.int .i64 (M f k).2.1,.int .i64 (M f k).2.2.1,.int .i64 (M f k).2.2.2] 205))):=⟨HE.out,M,h.alloc _,HMo.out,fun _ _=>Iff.rfl,(Kx.refl _ _ _ w).alloc _⟩
  clear h hA hM hpath hff d1 a0 h1 h2 hle h0 HE HMo HA HXx
  go_enter Tryz.func90,Tryz.ntmps90
  go_wp2_with fail
  exact bodyPost_ret (res_ans rfl _ _ (b:=w.heap.size) rfl (heap_alloc_new w _)) rfl ⟨_,_,_,rfl,HF⟩
theorem know_ok {M M':Mem} {f k:Nat} {an:X.An} (hM':MOk fs M') (he:X.EvA fs f k an) (h0:(M f k).1=0) (ha:∀ i j,(M' i j).1=1↔(setM M f k (1,(M f k).2) i j).1=1):MOk fs (setM M' f k (2,an))∧∀ i j,(setM M' f k (2,an) i j).1=1↔(M i j).1=1:=by
 refine ⟨fun i j=>?_,fun i j=>?_⟩
 ·by_cases e:i=f∧j=k
  ·obtain ⟨rfl,rfl⟩:=e
   rw [setM_same]
   exact ⟨Nat.le_refl _,fun _=>he⟩
  ·rw [setM_other M' f k _ e]
   exact hM' i j
 ·by_cases e:i=f∧j=k
  ·obtain ⟨rfl,rfl⟩:=e
   rw [setM_same,h0]
   constructor<;>intro h<;>cases h
  ·rw [setM_other M' f k _ e,ha i j,setM_other M f k _ e]
set_option maxRecDepth 100000 in
set_option maxHeartbeats 4000000 in
theorem used_new {N:Nat} (hL:LookOk w0 L fs N) (f k:Nat) (pub gs:Bool) (m n a:X.Nm) (ub:Nat) (h:Run w0 L fs M us w) (hM:MOk fs M) (hc:cnt fs M≤N+1) (hk:(X.itemsOf fs f)[k]?=some (.use pub m n gs a)) (hub:w0.heap[ub]?=some (useC pub gs m n a)) (hus:¬ L.S fs.length ub) (hpath:∀ i j,(M i j).1=1→∃ t,X.on fs (t+1) (i,j)=some (f,k)) (h0:(M f k).1=0) :
  Calls Tryz.prog 90 #[.pointer (some ⟨L.wb,0,none⟩),.int .i64 f,.int .i64 k,.pointer (some ⟨ub,0,none⟩)] w (Fnd w0 L fs M us f k w):=by
 obtain ⟨hil,hkl⟩:=item_lt hk
 have hA:=h.alloc (.cells #[.int .i64 0,.int .i64 0,.int .i64 0,.int .i64 0] 205)
 obtain ⟨-,c1⟩:=hA.wsp
 obtain ⟨fg,fcap,d1,d2,d3,d4⟩:=hA.files hil
 rw [d1] at c1
 have hff:=hA.file hil
 have g2:=cell_of_row _ _ 2 _ _ _ hff
 have hn16:=h.st.n
 have hIl:=h.st.il f
 have hi1:(f:Int)<(fs.length:Int):=by omega
 have hi2:(k:Int)<((X.itemsOf fs f).length:Int):=by omega
 obtain ⟨⟨a0,a1,a2,a3⟩,fz⟩:=hA.ans hil hkl
 have q0:=fz (k*4)
 have hw0:=h.size
 have hS:=h.st.lt
 have hgl:=(h.st.gl f hil).1
 have HXx:Hid (Kx L fs.length w0.heap.size (Al w) (w.alloc (.cells #[.int .i64 0,.int .i64 0,.int .i64 0,.int .i64 0] 205))):=Kx.refl _ _ _ _
 rw [h0] at a0
 have a0':(w.alloc (.cells #[.int .i64 0,.int .i64 0,.int .i64 0,.int .i64 0] 205)).cell? ⟨L.gb f,k*4,none⟩=some (.int .i64 0):=a0
 have HA:=hide hA
 have HMo:=hide hM
 have HL:=hide hL
 have HP:=hide hpath
 have HU:=hide hub
 clear h hA hM hpath hff d1 a0 hL hub fz
 go_enter Tryz.func90,Tryz.ntmps90
 go_upto_region 5 with fail
 generalize w.alloc (.cells #[.int .i64 0,.int .i64 0,.int .i64 0,.int .i64 0] 205)=W at *
 obtain ⟨r1,r2⟩:=(HA.out).ask hil hkl
 have hM1:MOk fs (setM M f k (1,(M f k).2)):=fun i j=>by
  by_cases e:i=f∧j=k
  ·obtain ⟨rfl,rfl⟩:=e
   rw [setM_same]
   exact ⟨by show 1≤2;omega,fun h=>by cases h⟩
  ·rw [setM_other M f k _ e]
   exact (HMo.out) i j
 have hc1:cnt fs (setM M f k (1,(M f k).2))≤N:=by
  have:=cnt_less (X.useP_mem hk rfl) h0 (v:=(1,(M f k).2)) (by simp)
  omega
 have hp1:∀ i j,(setM M f k (1,(M f k).2) i j).1=1→∃ t,X.on fs t (i,j)=some (f,k):=fun i j hij=>by
  by_cases e:i=f∧j=k
  ·obtain ⟨rfl,rfl⟩:=e
   exact ⟨0,rfl⟩
  ·rw [setM_other M f k _ e] at hij
   obtain ⟨t,ht⟩:=(HP.out) i j hij
   exact ⟨t+1,ht⟩
 have HC:=hide ((HL.out) f k pub gs m n a ub _ us _ r1 hM1 hc1 hk HU.out hus hp1)
 have HR2:=hide r2
 clear r1 r2 hM1 hc1 hp1 HL HP HU
 go_wp2_with fail
 refine (HC.out).mono ?_
 rintro e w2 ⟨tf,tt,er,rfl,H2⟩
 obtain ⟨x1,M',x2,x3,x4,x5⟩:=H2.out
 obtain ⟨⟨b0,b1,b2,b3⟩,fz⟩:=x2.ans hil hkl
 have y0:=fz (k*4)
 have y1:=fz (k*4+1)
 have y2:=fz (k*4+2)
 have y3:=fz (k*4+3)
 obtain ⟨k1,k2⟩:=x2.know hil hkl tf tt er
 obtain ⟨o1,o2⟩:=know_ok x3 x1 h0 x4
 have HR3:=hide k1
 have HX3:Hid (Kx L fs.length w0.heap.size (Al w) _):=((HXx.out).trans ((HR2.out).trans x5)).trans k2
 have HO1:=hide o1
 have HO2:=hide o2
 have HE:=hide x1
 clear k1 k2 o1 o2 x1 x2 x3 x4 x5 fz H2 HC HR2 HXx HA HMo q0 a0' a1 a2 a3 c1 d4 g2
 go_upto_region 7 with fail
 generalize (((w2.setCell ⟨L.gb f,k*4,none⟩ (.int .i64 2)).setCell ⟨L.gb f,k*4+1,none⟩ (.int .i64 tf)).setCell ⟨L.gb f,k*4+2,none⟩ (.int .i64 tt)).setCell ⟨L.gb f,k*4+3,none⟩ (.int .i64 er)=W3 at *
 obtain ⟨⟨e0,e1,e2,e3⟩,-⟩:=(HR3.out).ans hil hkl
 rw [setM_same] at e0 e1 e2 e3
 have e0':W3.cell? ⟨L.gb f,k*4,none⟩=some (.int .i64 2):=e0
 have e1':W3.cell? ⟨L.gb f,k*4+1,none⟩=some (.int .i64 tf):=e1
 have e2':W3.cell? ⟨L.gb f,k*4+2,none⟩=some (.int .i64 tt):=e2
 have e3':W3.cell? ⟨L.gb f,k*4+3,none⟩=some (.int .i64 er):=e3
 obtain ⟨s1,s2,s3⟩:=run_store4 HR3.out HX3.out hw0 hS (.int .i64 2) (.int .i64 tf) (.int .i64 tt) (.int .i64 er)
 have m0:=cell_of_row _ _ 0 _ _ _ s1
 have m1:=cell_of_row _ _ 1 _ _ _ s1
 have m2:=cell_of_row _ _ 2 _ _ _ s1
 have m3:=cell_of_row _ _ 3 _ _ _ s1
 have z0:=frozen_of_row _ _ 0 _ _ s1
 have z1:=frozen_of_row _ _ 1 _ _ s1
 have z2:=frozen_of_row _ _ 2 _ _ s1
 have z3:=frozen_of_row _ _ 3 _ _ s1
 have HB:=hide s1
 have HF:Hid (X.EvA fs f k (tf,tt,er)∧∃ M',Run w0 L fs M' us _∧MOk fs M'∧(∀ i j,(M' i j).1=1↔(M i j).1=1)∧Kx L fs.length w0.heap.size w _):=⟨HE.out,_,s2,HO1.out,HO2.out,s3⟩
 clear s1 s2 s3 HE HO1 HO2 HR3 HX3 e0 e1 e2 e3 b0 b1 b2 b3 y0 y1 y2 y3
 go_wp2_with fail
 exact bodyPost_ret (res_ans rfl _ _ (b:=w.heap.size) rfl (set4_own HB.out)) rfl ⟨tf,tt,er,rfl,HF⟩
theorem used_ok:∀ N,UsedOk w0 L fs N:=by
 intro N
 induction N with
 | zero =>
  intro f k pub gs m n a ub M us w h hM hc hk hub hus hpath
  refine used_seen f k pub gs m n a ub h hM hk hpath (fun h0=>?_)
  have:=cnt_less (X.useP_mem hk rfl) h0 (v:=(1,(M f k).2)) (by simp)
  omega
 | succ N ih =>
  intro f k pub gs m n a ub M us w h hM hc hk hub hus hpath
  by_cases h0:(M f k).1=0
  ·exact used_new (look_ok_of (item_ok_of ih)) f k pub gs m n a ub h hM hc hk hub hus hpath h0
  ·exact used_seen f k pub gs m n a ub h hM hk hpath h0
def Idle (M:Mem):Prop:=∀ i j,(M i j).1≠1
theorem used_any (f k:Nat) (pub gs:Bool) (m n a:X.Nm) (ub:Nat) (h:Run w0 L fs M us w) (hM:MOk fs M) (hI:Idle M) (hk:(X.itemsOf fs f)[k]?=some (.use pub m n gs a)) (hub:w0.heap[ub]?=some (useC pub gs m n a)) (hus:¬ L.S fs.length ub) :
  Calls Tryz.prog 90 #[.pointer (some ⟨L.wb,0,none⟩),.int .i64 f,.int .i64 k,.pointer (some ⟨ub,0,none⟩)] w fun e w'=>e=.returned (.agg #[.int .i64 2,.int .i64 (X.ansI fs (X.usesN fs) f k).1,.int .i64 (X.ansI fs (X.usesN fs) f k).2.1,.int .i64 (X.ansI fs (X.usesN fs) f k).2.2])∧Hid (∃ M',Run w0 L fs M' us w'∧MOk fs M'∧Idle M'∧Kx L fs.length w0.heap.size w w'):=by
 refine (used_ok (cnt fs M) f k pub gs m n a ub M us w h hM (Nat.le_refl _) hk hub hus (fun i j hij=>absurd hij (hI i j))).mono ?_
 rintro e w' ⟨tf,tt,er,rfl,H⟩
 obtain ⟨x1,M',x2,x3,x4,x5⟩:=H.out
 rw [x1.uses]
 exact ⟨rfl,M',x2,x3,fun i j hij=>hI i j ((x4 i j).1 hij),x5⟩
theorem kitem_any (f k:Nat) (it:X.It) (h:Run w0 L fs M us w) (hM:MOk fs M) (hI:Idle M) (hk:(X.itemsOf fs f)[k]?=some it) :
  Calls Tryz.prog 135 #[.pointer (some ⟨L.wb,0,none⟩),.int .i64 f,.int .i64 k] w fun e w'=>e=.returned (.agg #[.int .i64 2,.int .i64 (X.ansI fs (X.usesN fs) f k).1,.int .i64 (X.ansI fs (X.usesN fs) f k).2.1,.int .i64 (X.ansI fs (X.usesN fs) f k).2.2])∧Hid (∃ M',Run w0 L fs M' us w'∧MOk fs M'∧Idle M'∧Kx L fs.length w0.heap.size w w'):=by
 refine (item_ok_of (used_ok (cnt fs M)) f k it M us w h hM (Nat.le_refl _) hk (fun _ i j hij=>absurd hij (hI i j))).mono ?_
 rintro e w' ⟨tf,tt,er,rfl,H⟩
 obtain ⟨x1,M',x2,x3,x4,x5⟩:=H.out
 rw [x1.uses]
 exact ⟨rfl,M',x2,x3,fun i j hij=>hI i j ((x4 i j).1 hij),x5⟩
end Go.Proofs.YtbmebfgapjhchaaGreatDoor
