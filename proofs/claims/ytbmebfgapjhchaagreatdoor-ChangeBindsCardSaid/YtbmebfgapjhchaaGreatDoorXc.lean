/- The reader of a tree in memory: what is next. -/
import Derived.Test.YtbmebfgapjhchaaGreatDoorXb
import Derived.Test.YtbmebfgapjhchaaGreatDoorTa
import Derived.Deep.QuietTactic
namespace Go.Proofs.YtbmebfgapjhchaaGreatDoor
open Go.RowKit
open M
def RawT (w:World) (rb:Nat) (s:ByteArray) (tv:Value) (a n k:Int) (wd:ByteArray) (dp:Int):Prop:=w.heap[rb]?=some (.cells #[.string s,tv,.int .i64 a,.int .i64 n,.int .i64 k,.string wd,.int .i64 dp] 191 (0,0))
theorem RawT.facts {w:World} {rb:Nat} {s wd:ByteArray} {tv:Value} {a n k dp:Int} (h:RawT w rb s tv a n k wd dp) :
  (w.cell? ⟨rb,0,none⟩=some (.string s)∧w.cell? ⟨rb,1,none⟩=some tv∧w.cell? ⟨rb,2,none⟩=some (.int .i64 a)∧w.cell? ⟨rb,3,none⟩=some (.int .i64 n)∧w.cell? ⟨rb,4,none⟩=some (.int .i64 k)∧w.cell? ⟨rb,5,none⟩=some (.string wd)∧w.cell? ⟨rb,6,none⟩=some (.int .i64 dp)) ∧
  (w.frozen? ⟨rb,0,none⟩=false∧w.frozen? ⟨rb,1,none⟩=false∧w.frozen? ⟨rb,2,none⟩=false∧w.frozen? ⟨rb,3,none⟩=false∧w.frozen? ⟨rb,4,none⟩=false∧w.frozen? ⟨rb,5,none⟩=false∧w.frozen? ⟨rb,6,none⟩=false):=by
 unfold RawT at h
 refine ⟨⟨?_,?_,?_,?_,?_,?_,?_⟩,?_,?_,?_,?_,?_,?_,?_⟩<;>simp [World.cell?,World.frozen?,h]
theorem RawT.lt {w:World} {rb:Nat} {s wd:ByteArray} {tv:Value} {a n k dp:Int} (h:RawT w rb s tv a n k wd dp):rb<w.heap.size:=heap_lt h
theorem RawT.keep {S:Nat→Prop} {w w':World} {rb:Nat} {s wd:ByteArray} {tv:Value} {a n k dp:Int} (h:RawT w rb s tv a n k wd dp) (hk:Kp S w w') (hn:¬ S rb):RawT w' rb s tv a n k wd dp:=hk.heap h hn
theorem RawT.below {w w':World} {rb:Nat} {s wd:ByteArray} {tv:Value} {a n k dp:Int} (h:RawT w rb s tv a n k wd dp) (hk:Below w.heap.size w w'):RawT w' rb s tv a n k wd dp:=h.keep (Kp.ofBelow hk (fun _=>False)) id
theorem RawT.set2 {w:World} {rb:Nat} {s wd:ByteArray} {tv:Value} {a n k dp:Int} (h:RawT w rb s tv a n k wd dp) (y:Int):RawT (w.setCell ⟨rb,2,none⟩ (.int .i64 y)) rb s tv y n k wd dp:=by
 unfold RawT at h ⊢
 simp [World.setCell,Array.getElem?_modify,h]
theorem RawT.set3 {w:World} {rb:Nat} {s wd:ByteArray} {tv:Value} {a n k dp:Int} (h:RawT w rb s tv a n k wd dp) (y:Int):RawT (w.setCell ⟨rb,3,none⟩ (.int .i64 y)) rb s tv a y k wd dp:=by
 unfold RawT at h ⊢
 simp [World.setCell,Array.getElem?_modify,h]
theorem RawT.set4 {w:World} {rb:Nat} {s wd:ByteArray} {tv:Value} {a n k dp:Int} (h:RawT w rb s tv a n k wd dp) (y:Int):RawT (w.setCell ⟨rb,4,none⟩ (.int .i64 y)) rb s tv a n y wd dp:=by
 unfold RawT at h ⊢
 simp [World.setCell,Array.getElem?_modify,h]
theorem RawT.set5 {w:World} {rb:Nat} {s wd:ByteArray} {tv:Value} {a n k dp:Int} (h:RawT w rb s tv a n k wd dp) (y:ByteArray):RawT (w.setCell ⟨rb,5,none⟩ (.string y)) rb s tv a n k y dp:=by
 unfold RawT at h ⊢
 simp [World.setCell,Array.getElem?_modify,h]
theorem RawT.set6 {w:World} {rb:Nat} {s wd:ByteArray} {tv:Value} {a n k dp:Int} (h:RawT w rb s tv a n k wd dp) (y:Int):RawT (w.setCell ⟨rb,6,none⟩ (.int .i64 y)) rb s tv a n k wd y:=by
 unfold RawT at h ⊢
 simp [World.setCell,Array.getElem?_modify,h]
def qk (t:Tk):Bool:=t.kind==1||t.kind==2
theorem isQuiet_any (k:Int) (w:World):Calls Tryz.prog 128 #[.int .i64 k] w fun e w'=>e=.returned (.bool (decide (k=1∨k=2)))∧w'=w:=by
 by_cases h1:k=1
 ·subst h1
  go_enter Tryz.func128,Tryz.ntmps128
  go_wp2_with fail
  go_ret
  exact ⟨rfl,rfl⟩
 ·have i1:(k==1)=false:=by simpa using h1
  by_cases h2:k=2
  ·subst h2
   go_enter Tryz.func128,Tryz.ntmps128
   go_wp2_with fail
   go_ret
   exact ⟨rfl,rfl⟩
  ·have i2:(k==2)=false:=by simpa using h2
   have HD:Hid (decide (k=1∨k=2)=false):=by show _=_;simp [h1,h2]
   rw [HD.out]
   clear h1 h2
   go_enter Tryz.func128,Tryz.ntmps128
   go_wp2_with fail
   go_ret
   exact ⟨rfl,rfl⟩
set_option maxRecDepth 100000 in
set_option maxHeartbeats 4000000 in
theorem nextFrom_any (rb:Nat) (s wd:ByteArray) (tv:Value) (L:List Tk) (a n k dp:Int) (w:World) (h:RawT w rb s tv a n k wd dp) (hT:IsT w tv L) (hL:L.length≤1073741824) (p:Nat) (hp:p≤1073741824) (q:Nat) (HQ:Hid (p+((L.drop p).takeWhile qk).length=q)) :
  Calls Tryz.prog 100 #[.pointer (some ⟨rb,0,none⟩),.int .i64 p] w fun e w'=>e=.returned (.int .i64 q)∧Below w.heap.size w w':=by
 have HR:=hide h
 have HT:=hide hT
 obtain ⟨ao,cap,rfl,hc1,hc2,-⟩:=hT
 clear h
 go_enter Tryz.func100,Tryz.ntmps100
 go_wp2_with fail
 go_loopw [1] (fun v wr=>∃ j:Nat,v=.int .i64 ((p+j:Nat):Int)∧p+j≤p+L.length∧Hid (((L.drop p).takeWhile qk).length=j+((L.drop (p+j)).takeWhile qk).length)∧Hid (Below w.heap.size w wr)) (fun v _=>p+L.length - (intOf v).toNat)
 case atStart=>exact ⟨0,rfl,by omega,(by show _=_;simp),Below.refl _ w⟩
 case round =>
  obtain ⟨j,rfl,hj,HJ,HB⟩:=hrel
  obtain ⟨⟨c0,c1,c2,c3,c4,c5,c6⟩,-⟩:=((HR.out).below HB.out).facts
  have hjb:p+j≤2147483648:=by omega
  generalize hm:p+j=m at *
  have HM:=hide hm
  clear hm
  by_cases hlt:m<L.length
  case neg =>
   have i1:decide (m<L.length)=false:=by simp;omega
   have i2:decide ((m:Int)<(L.length:Int))=false:=by simp;omega
   have HE:Hid (q=m):=by
    have h0:=HQ.out
    have h1:=HJ.out
    have h2:=HM.out
    rw [(List.drop_eq_nil_iff.2 (by omega):L.drop m=[])] at h1
    show _=_
    simp at h1;omega
   obtain rfl:=HE.out
   go_wp2_with fail
   go_ret
   exact ⟨rfl,HB.out⟩
  obtain ⟨b',o',t,rfl,ht,q1,q2,q3⟩:=(HT.out).get HB.out hlt
  have i1:decide (m<L.length)=true:=by simp;omega
  have i2:decide ((m:Int)<(L.length:Int))=true:=by simp;omega
  have hd:L.drop m=t::L.drop (m+1):=drop_at ht
  by_cases hq:qk t=true
  ·have i3:decide ((t.kind:Int)=1∨(t.kind:Int)=2)=true:=by
    unfold qk at hq;simp at hq ⊢;omega
   have HJ':Hid (((L.drop p).takeWhile qk).length=(j+1)+((L.drop (m+1)).takeWhile qk).length):=by
    have h1:=HJ.out
    show _=_
    rw [hd,List.takeWhile_cons_of_pos hq,List.length_cons] at h1;omega
   clear hd hq ht
   go_wp2_with fail
   refine (isQuiet_any _ _).mono ?_
   rintro e w2 ⟨rfl,rfl⟩
   go_wp2_with fail
   refine ⟨⟨j+1,?_,by have:=HM.out;omega,?_,HB.out⟩,by simp only [intOf];omega⟩
   ·rw [show p+(j+1)=m+1 by have:=HM.out;omega];rfl
   ·rw [show p+(j+1)=m+1 by have:=HM.out;omega];exact HJ'
  ·have hq':qk t=false:=by simpa using hq
   have i3:decide ((t.kind:Int)=1∨(t.kind:Int)=2)=false:=by
    unfold qk at hq';simp at hq' ⊢;omega
   have HE:Hid (q=m):=by
    have h0:=HQ.out
    have h1:=HJ.out
    have h2:=HM.out
    rw [hd,List.takeWhile_cons_of_neg (by simpa using hq')] at h1
    show _=_
    simp at h1;omega
   obtain rfl:=HE.out
   clear hd hq ht hq'
   go_wp2_with fail
   refine (isQuiet_any _ _).mono ?_
   rintro e w2 ⟨rfl,rfl⟩
   go_wp2_with fail
   go_ret
   exact ⟨rfl,HB.out⟩
end Go.Proofs.YtbmebfgapjhchaaGreatDoor
/- The reader of a tree in memory: it looks;is something next? -/
namespace Go.Proofs.YtbmebfgapjhchaaGreatDoor
open Go.RowKit
open M
def remT (s:ByteArray) (L:List Tk) (a:Nat):List X.Tok:=(L.drop a).map (X.tkx (bs s))
def nxI (L:List Tk) (a:Nat):Nat:=a+((L.drop a).takeWhile qk).length
theorem dropWhile_drop {α:Type} (p:α→Bool) (l:List α):l.dropWhile p=l.drop (l.takeWhile p).length:=by
 have h:=List.takeWhile_append_dropWhile (p:=p) (l:=l)
 have:l.drop (l.takeWhile p).length=(l.takeWhile p++l.dropWhile p).drop (l.takeWhile p).length:=by rw [h]
 rw [this,List.drop_left]
theorem quiet_tkx (l:List UInt8):X.quiet ∘ X.tkx l=qk:=rfl
theorem rem_drop (s:ByteArray) (L:List Tk) (a:Nat):(remT s L a).dropWhile X.quiet=remT s L (nxI L a):=by
 unfold remT nxI
 rw [List.dropWhile_map,quiet_tkx,dropWhile_drop,List.drop_drop]
theorem rem_take (s:ByteArray) (L:List Tk) (a:Nat):(remT s L a).takeWhile X.quiet=((L.drop a).takeWhile qk).map (X.tkx (bs s)):=by
 unfold remT
 rw [List.takeWhile_map,quiet_tkx]
theorem nxt_rem (s:ByteArray) (L:List Tk) (a:Nat):X.nxt (remT s L a)=(L[nxI L a]?).map (X.tkx (bs s)):=by
 unfold X.nxt
 rw [rem_drop]
 unfold remT
 rw [List.head?_map,List.head?_drop]
theorem kind_rem (s:ByteArray) (L:List Tk) (a:Nat):X.kindN (remT s L a)=match L[nxI L a]? with|some t=>t.kind|none=>0:=by
 unfold X.kindN
 rw [nxt_rem]
 cases L[nxI L a]?<;>rfl
theorem word_rem (s:ByteArray) (L:List Tk) (a:Nat):X.wordN (remT s L a)=match L[nxI L a]? with|some t=>((bs s).drop t.pos).take t.len|none=>[]:=by
 unfold X.wordN
 rw [nxt_rem]
 cases L[nxI L a]?<;>rfl
theorem nxI_ge (L:List Tk) (a:Nat):a≤nxI L a:=Nat.le_add_right _ _
theorem nxI_le {L:List Tk} {a:Nat} (h:a≤L.length):nxI L a≤L.length:=by
 unfold nxI
 have:((L.drop a).takeWhile qk).length≤(L.drop a).length:=(List.takeWhile_sublist _).length_le
 rw [List.length_drop] at this;omega
structure TokS (s:ByteArray) (L:List Tk):Prop where
 size:s.size≤1073741823
 len:L.length≤268435456
 fit:∀ t∈L,t.pos+t.len≤s.size∧1≤t.kind∧t.kind≤8
 good:X.Good (L.map (X.tkx (bs s)))
theorem TokS.rem {s:ByteArray} {L:List Tk} (h:TokS s L) (a:Nat):X.Good (remT s L a):=by
 intro t ht
 refine h.good t ?_
 unfold remT at ht
 obtain ⟨t',h1,h2⟩:=List.mem_map.1 ht
 exact List.mem_map.2 ⟨t',(List.drop_sublist _ _).subset h1,h2⟩
structure RdrT (w:World) (rb:Nat) (s:ByteArray) (L:List Tk) (tv:Value) (a dp:Nat):Prop where
 raw:RawT w rb s tv a (nxI L a) (X.kindN (remT s L a)) (ba (X.wordN (remT s L a))) dp
 row:IsT w tv L
 le:a≤L.length
 own:∀ k,tv.ownBlock=some k→k≠rb
theorem RdrT.keep {S:Nat→Prop} {w w':World} {rb:Nat} {s:ByteArray} {L:List Tk} {tv:Value} {a dp:Nat} (h:RdrT w rb s L tv a dp) (hk:Kp S w w') (hn:¬ S rb) (ht:∀ k,tv.ownBlock=some k→¬ S k):RdrT w' rb s L tv a dp :=
 ⟨h.raw.keep hk hn,h.row.keep hk ht,h.le,h.own⟩
theorem RdrT.below {w w':World} {rb:Nat} {s:ByteArray} {L:List Tk} {tv:Value} {a dp:Nat} (h:RdrT w rb s L tv a dp) (hk:Below w.heap.size w w'):RdrT w' rb s L tv a dp:=h.keep (Kp.ofBelow hk (fun _=>False)) id (fun _ _=>id)
set_option maxRecDepth 100000 in
set_option maxHeartbeats 4000000 in
theorem tlook_any (rb:Nat) (s wd:ByteArray) (L:List Tk) (tv:Value) (a dp:Nat) (n k:Int) (w:World) (hS:TokS s L) (h:RawT w rb s tv a n k wd dp) (hT:IsT w tv L) (ha:a≤L.length) (ho:∀ k,tv.ownBlock=some k→k≠rb) :
  Calls Tryz.prog 78 #[.pointer (some ⟨rb,0,none⟩)] w fun e w'=>e=.returned (.tuple #[])∧RdrT w' rb s L tv a dp∧On rb w w':=by
 have h1:=hS.size
 have h2:=hS.len
 have HR:=hide h
 have HT:=hide hT
 have HF:=hide hS.fit
 obtain ⟨⟨c0,c1,c2,c3,c4,c5,c6⟩,f0,f1,f2,f3,f4,f5,f6⟩:=h.facts
 clear h hT
 go_enter Tryz.func78,Tryz.ntmps78
 go_wp2_with fail
 refine (nextFrom_any rb s wd tv L a n k dp w HR.out HT.out (by omega) a (by omega) (nxI L a) (rfl:_=_)).mono ?_
 rintro e w1 ⟨rfl,k1⟩
 have HR1:=hide ((HR.out).below k1)
 have HT1:=hide ((HT.out).below k1)
 have HK1:=hide (On.ofBelow rb k1)
 have hq:=nxI_le ha
 clear k1 c0 c1 c2 c3 c4 c5 c6 f0 f1 f2 f3 f4 f5 f6 HR HT
 obtain ⟨⟨c0,c1,c2,c3,c4,c5,c6⟩,f0,f1,f2,f3,f4,f5,f6⟩:=(HR1.out).facts
 have HK:=hide (kind_rem s L a)
 have HW:=hide (word_rem s L a)
 obtain ⟨ao,cap,rfl,hc1,hc2,-⟩:=(HT1.out)
 by_cases hlt:nxI L a<L.length
 ·obtain ⟨b',o',t,rfl,ht,q1,q2,q3⟩:=(HT1.out).get (Below.refl _ w1) hlt
  obtain ⟨g1,g2,g3⟩:=(HF.out) t (List.mem_of_getElem? ht)
  have hb':b'≠rb:=ho b' rfl
  rw [ht] at HK HW
  have i1:decide (nxI L a<L.length)=true:=by simp;omega
  have i2:decide ((nxI L a:Int)<(L.length:Int))=true:=by simp;omega
  have HX:Hid (s.extract t.pos (t.pos+t.len)=ba (X.wordN (remT s L a))):=by
   show _=_
   apply bs_inj
   rw [bs_cut,bs_ba,HW.out,List.drop_take,Nat.add_sub_cancel_left]
  have j1:(t.pos:Int)≤(t.pos:Int)+(t.len:Int):=by omega
  have j2:(t.pos:Int)+(t.len:Int)≤(s.size:Int):=by omega
  have j3:t.pos≤s.size:=by omega
  clear ht
  have HR2:Hid (RawT (((w1.setCell ⟨rb,3,none⟩ (.int .i64 (nxI L a))).setCell ⟨rb,4,none⟩ (.int .i64 0)).setCell ⟨rb,5,none⟩ (.string ⟨#[]⟩)) rb s (.slice (some ⟨b',o',none⟩) L.length cap) a (nxI L a) 0 ⟨#[]⟩ dp):=(((HR1.out).set3 _).set4 _).set5 _
  have hOn:On rb w1 (((w1.setCell ⟨rb,3,none⟩ (.int .i64 (nxI L a))).setCell ⟨rb,4,none⟩ (.int .i64 0)).setCell ⟨rb,5,none⟩ (.string ⟨#[]⟩)):=On.set (On.set (On.set (Kp.refl _ w1) 3 _) 4 _) 5 _
  have HK2:=hide ((HK1.out).to hOn)
  have HT2:=hide ((HT1.out).keep hOn (fun k hk e=>ho k hk e))
  have p1:=hOn.cellv q1 hb'
  have p2:=hOn.cellv q2 hb'
  have p3:=hOn.cellv q3 hb'
  go_wp2_with fail
  clear q1 q2 q3 c0 c1 c2 c3 c4 c5 c6 f0 f1 f2 f3 f4 f5 f6 HR1 HT1 hOn HK1
  generalize ((w1.setCell ⟨rb,3,none⟩ (.int .i64 (nxI L a))).setCell ⟨rb,4,none⟩ (.int .i64 0)).setCell ⟨rb,5,none⟩ (.string ⟨#[]⟩)=W2 at *
  obtain ⟨⟨c0,c1,c2,c3,c4,c5,c6⟩,f0,f1,f2,f3,f4,f5,f6⟩:=(HR2.out).facts
  have hrl:=(HR2.out).lt
  go_quiet (fail)
  go_wp2_with fail
  have HK3:=hide ((HK2.out).to (On.drewN rb W2 nq))
  have HR3:Hid (RawT (W2.drewN nq) rb s (.slice (some ⟨b',o',none⟩) L.length cap) a (nxI L a) 0 ⟨#[]⟩ dp):=HR2.out
  have HT3:=hide ((HT2.out).keep (On.drewN rb W2 nq) (fun k hk e=>ho k hk e))
  have r1:(W2.drewN nq).cell? ⟨b',o'+nxI L a*3,none⟩=_:=p1
  have r2:(W2.drewN nq).cell? ⟨b',o'+nxI L a*3+1,none⟩=_:=p2
  have r3:(W2.drewN nq).cell? ⟨b',o'+nxI L a*3+2,none⟩=_:=p3
  have hbl:b'<(W2.drewN nq).heap.size:=World.block_lt_of_cell? _ _ r1
  clear p1 p2 p3 c0 c1 c2 c3 c4 c5 c6 f0 f1 f2 f3 f4 f5 f6 HR2 HK2 HT2 hrl
  generalize W2.drewN nq=W3 at *
  obtain ⟨⟨c0,c1,c2,c3,c4,c5,c6⟩,f0,f1,f2,f3,f4,f5,f6⟩:=(HR3.out).facts
  have hrl:=(HR3.out).lt
  go_region
  all_goals go_wp2_with fail
  all_goals go_region
  all_goals go_wp2_with fail
  all_goals
   have hraw:=((HR3.out).set4 (t.kind:Int)).set5 (s.extract t.pos (t.pos+t.len))
   rw [HX.out] at hraw ⊢
   have e1:(t.kind:Int)=(X.kindN (remT s L a):Int):=by rw [HK.out]
   rw [e1] at hraw
   have hOn:=On.set (On.set (Kp.refl (fun k=>k=rb) W3) 4 (.int .i64 t.kind)) 5 (.string (ba (X.wordN (remT s L a))))
   go_end0
   refine ⟨rfl,⟨?_,?_,ha,ho⟩,?_⟩
   ·rw [← e1] at hraw ⊢
    exact RawT.below hraw ((((Below.refl _ _).alloc (Nat.le_refl _) _).drew).drew)
   ·exact (((HT3.out).keep hOn (fun k hk e=>ho k hk e))).below ((((Below.refl _ _).alloc (Nat.le_refl _) _).drew).drew)
   ·exact (HK3.out).to (Kp.drew (Kp.drew (Kp.alloc hOn _)))
 ·have hm:nxI L a=L.length:=by omega
  have hnone:L[nxI L a]?=none:=List.getElem?_eq_none (by omega)
  rw [hnone] at HK HW
  have i1:decide (nxI L a<L.length)=false:=by simp;omega
  have i2:decide ((nxI L a:Int)<(L.length:Int))=false:=by simp;omega
  have HR2:Hid (RawT (((w1.setCell ⟨rb,3,none⟩ (.int .i64 (nxI L a))).setCell ⟨rb,4,none⟩ (.int .i64 0)).setCell ⟨rb,5,none⟩ (.string ⟨#[]⟩)) rb s (.slice ao L.length cap) a (nxI L a) 0 ⟨#[]⟩ dp):=(((HR1.out).set3 _).set4 _).set5 _
  have hOn:On rb w1 (((w1.setCell ⟨rb,3,none⟩ (.int .i64 (nxI L a))).setCell ⟨rb,4,none⟩ (.int .i64 0)).setCell ⟨rb,5,none⟩ (.string ⟨#[]⟩)):=On.set (On.set (On.set (Kp.refl _ w1) 3 _) 4 _) 5 _
  have HK2:=hide ((HK1.out).to hOn)
  have HT2:=hide ((HT1.out).keep hOn (fun k hk e=>ho k hk e))
  clear hm hnone
  go_wp2_with fail
  clear c0 c1 c2 c3 c4 c5 c6 f0 f1 f2 f3 f4 f5 f6 HR1 HT1 hOn HK1
  generalize ((w1.setCell ⟨rb,3,none⟩ (.int .i64 (nxI L a))).setCell ⟨rb,4,none⟩ (.int .i64 0)).setCell ⟨rb,5,none⟩ (.string ⟨#[]⟩)=W2 at *
  obtain ⟨⟨c0,c1,c2,c3,c4,c5,c6⟩,f0,f1,f2,f3,f4,f5,f6⟩:=(HR2.out).facts
  go_quiet (fail)
  go_wp2_with fail
  go_end0
  refine ⟨rfl,⟨?_,(HT2.out).keep (On.drewN rb W2 nq) (fun k hk e=>ho k hk e),ha,ho⟩,(HK2.out).to (On.drewN rb W2 nq)⟩
  rw [HK.out,HW.out]
  exact HR2.out
end Go.Proofs.YtbmebfgapjhchaaGreatDoor
/- The reader of a tree in memory: is one of some things next? -/
namespace Go.Proofs.YtbmebfgapjhchaaGreatDoor
open Go.RowKit
open M
set_option maxHeartbeats 1000000 in
theorem more_any (rb:Nat) (s:ByteArray) (L:List Tk) (tv:Value) (a dp:Nat) (w:World) (h:RdrT w rb s L tv a dp) :
  Calls Tryz.prog 51 #[.pointer (some ⟨rb,0,none⟩)] w fun e w'=>e=.returned (.bool (X.kindN (remT s L a) !=0))∧w'=w:=by
 obtain ⟨⟨c0,c1,c2,c3,c4,c5,c6⟩,-⟩:=h.raw.facts
 have HB:Hid (((X.kindN (remT s L a):Int) !=0)=(X.kindN (remT s L a) !=0)):=by
  show _=_
  rw [Bool.eq_iff_iff];simp
 go_enter Tryz.func51,Tryz.ntmps51
 go_wp2_with fail
 go_ret
 exact ⟨retb HB.out,rfl⟩
structure StrRow (w:World) (c:Nat) (ss:List (List UInt8)):Prop where
 cells:∀ i x,ss[i]?=some x→w.cell? ⟨c,i,none⟩=some (.string (ba x))
 len:ss.length≤1073741824
set_option maxRecDepth 100000 in
set_option maxHeartbeats 4000000 in
theorem isNext_any (rb:Nat) (s:ByteArray) (L:List Tk) (tv:Value) (a dp:Nat) (w:World) (h:RdrT w rb s L tv a dp) (c:Nat) (ss:List (List UInt8)) (hs:StrRow w c ss) :
  Calls Tryz.prog 101 #[.pointer (some ⟨rb,0,none⟩),.slice (some ⟨c,0,none⟩) ss.length ss.length] w fun e w'=>e=.returned (.bool (ss.any (fun x=>X.pN x (remT s L a))))∧Below w.heap.size w w':=by
 obtain ⟨⟨c0,c1,c2,c3,c4,c5,c6⟩,-⟩:=h.raw.facts
 have hl:=hs.len
 have HS:=hide hs
 clear hs h
 go_enter Tryz.func101,Tryz.ntmps101
 go_wp2_with fail
 go_loopw [9] (fun v wr=>∃ j:Nat,v=.int .i64 j∧j≤ss.length∧Hid (ss.any (fun x=>X.pN x (remT s L a))=(ss.drop j).any (fun x=>X.pN x (remT s L a)))∧Hid (∃ m,wr=w.drewN m)) (fun v _=>ss.length - (intOf v).toNat)
 case atStart=>exact ⟨0,rfl,Nat.zero_le _,(by show _=_;simp),⟨0,rfl⟩⟩
 case round =>
  obtain ⟨j,rfl,hj,HJ,HB⟩:=hrel
  by_cases hlt:j<ss.length
  case neg =>
   have i1:decide (j<ss.length)=false:=by simp;omega
   have i2:decide ((j:Int)<(ss.length:Int))=false:=by simp;omega
   have HE:Hid (ss.any (fun x=>X.pN x (remT s L a))=false):=by
    show _=_
    rw [HJ.out,List.drop_eq_nil_iff.2 (by omega)];rfl
   obtain ⟨m,rfl⟩:=HB.out
   go_wp2_with fail
   go_ret
   exact ⟨retb HE.out.symm,belowN (Below.refl _ w) m⟩
  obtain ⟨x,hx⟩:∃ x,ss[j]?=some x:=⟨ss[j],List.getElem?_eq_getElem hlt⟩
  have hd:ss.drop j=x::ss.drop (j+1):=by
   rw [List.drop_eq_getElem_cons hlt];congr 1
   exact Option.some.inj ((List.getElem?_eq_getElem hlt).symm.trans hx)
  obtain ⟨m,rfl⟩:=HB.out
  have y0:(w.drewN m).cell? ⟨c,j,none⟩=some (.string (ba x)):=(HS.out).cells j x hx
  have d0:(w.drewN m).cell? ⟨rb,4,none⟩=_:=c4
  have d1:(w.drewN m).cell? ⟨rb,5,none⟩=_:=c5
  have i1:decide (j<ss.length)=true:=by simp;omega
  have i2:decide ((j:Int)<(ss.length:Int))=true:=by simp;omega
  have tl:∀ z:List UInt8,(ba z).toList=z:=fun z=>by rw [ByteArray.toList_eq];exact bs_ba z
  have HP:Hid (X.pN x (remT s L a)=((ba x).toList==(ba (X.wordN (remT s L a))).toList||((ba x).toList==[110,97,109,101]&&((X.kindN (remT s L a):Int)==3)))):=by
   show _=_
   rw [tl,tl]
   unfold X.pN
   have:((X.kindN (remT s L a):Int)==3)=(X.kindN (remT s L a)==3):=by rw [Bool.eq_iff_iff];simp;omega
   rw [this];rfl
  have HD:Hid (ss.any (fun x=>X.pN x (remT s L a))=(X.pN x (remT s L a)||(ss.drop (j+1)).any (fun x=>X.pN x (remT s L a)))):=by
   show _=_
   rw [HJ.out,hd];rfl
  clear hd HJ tl
  cases k1:((ba x).toList==(ba (X.wordN (remT s L a))).toList) with
  | true =>
   rw [k1,Bool.true_or] at HP
   rw [HP.out,Bool.true_or] at HD
   go_wp2_with fail
   go_ret
   exact ⟨retb HD.out.symm,belowN (Below.refl _ w) m⟩
  | false =>
   cases k2:((ba x).toList==[110,97,109,101]) with
   | false =>
    rw [k1,k2] at HP
    rw [HP.out] at HD
    go_wp2_with fail
    exact ⟨⟨j+1,by go_num,by omega,HD,⟨m,rfl⟩⟩,by simp only [intOf];omega⟩
   | true =>
    cases k3:((X.kindN (remT s L a):Int)==3) with
    | false =>
     rw [k1,k2,k3] at HP
     rw [HP.out] at HD
     go_wp2_with fail
     exact ⟨⟨j+1,by go_num,by omega,HD,⟨m,rfl⟩⟩,by simp only [intOf];omega⟩
    | true =>
     rw [k1,k2,k3] at HP
     rw [HP.out] at HD
     go_wp2_with fail
     go_ret
     exact ⟨retb HD.out.symm,belowN (Below.refl _ w) m⟩
end Go.Proofs.YtbmebfgapjhchaaGreatDoor
