/- A region that draws its order,whose last operation is a store into a cell that the region has read: a condition on the world holds till that store. -/
import Derived.Test.YtgpcpbmacdhlkaaGreatDoorXo
import Derived.OrdersHeld
import Derived.RegionTactic
import Derived.StillTail
import Derived.Test.YtgpcpbmacdhlkaaGreatDoorXf
namespace Go.Proofs.YtgpcpbmacdhlkaaGreatDoor
open Go.RowKit
section
variable {P:Program} {ops:Array Oper} {Q:Exit→Act→World→Prop} {S:World→Prop} {z:Nat}
def wpTo (P:Program) (ops:Array Oper) (Q:Exit→Act→World→Prop) (S:World→Prop) (z:Nat):Nat→Array Bool→Act→World→Prop
 | 0,d,a,w=>Region.ready .any ops d=[]∧Q .normal a w
 | n+1,d,a,w=>(Region.ready .any ops d=[]→Q .normal a w)∧∀ j∈Region.ready .any ops d,wpOp P ops Q j (fun a' w'=>(j≠z→S w')∧wpTo P ops Q S z n (d.setIfInBounds j true) a' w') a w
theorem wpTo_any (n:Nat):∀ (d:Array Bool) (a:Act) (w:World),wpTo P ops Q S z n d a w→wpAny P .any ops Q n d a w:=by
 induction n with
 | zero=>intro d a w h;exact h
 | succ n ih=>intro d a w h;exact ⟨h.1,fun j hj=>wpOp_mono (fun a' w' hk=>ih _ _ _ hk.2) (h.2 j hj)⟩
theorem wpTo_start {id:Nat} {a:Act} {w:World} (hm:P.follows .mixedOrders=true) (h:wpTo P ops Q S z ops.size (Array.replicate ops.size false) a w.drew):(Code.region id ops true).wp P Q a w :=
 wp_region_any hm (wpTo_any _ _ _ _ h)
theorem wpTo_end {d:Array Bool} {a:Act} {w:World} {n:Nat} (hr:Region.ready .any ops d=[]) (h:Q .normal a w):wpTo P ops Q S z n d a w:=by
 cases n with
 | zero=>exact ⟨hr,h⟩
 | succ n=>exact ⟨fun _=>h,fun j hj=>by rw [hr] at hj;cases hj⟩
theorem not_yet {i j:Nat} {d:Array Bool} (hw:Region.waitsFor .any ops j i=true) (hi:i∈Region.ready .any ops d):j∉Region.ready .any ops d:=by
 intro hj
 obtain ⟨oj,ho,e,he,hb,rfl⟩:=Region.waitsFor_spec hw
 obtain ⟨-,o2,ho2,hall⟩:=mem_ready.1 hj
 obtain rfl:oj=o2:=Option.some.inj (ho.symm.trans ho2)
 have h1:=hall e he hb
 have h0:=(mem_ready.1 hi).1
 rw [Array.getD_eq_getD_getElem?] at h0 h1
 cases hx:d[e.on]? with
 | none=>rw [hx] at h1;cases h1
 | some b=>rw [hx] at h0 h1;simp at h0 h1;rw [h0] at h1;cases h1
theorem wpTo_first {i:Nat} {oi:Oper} {v:Value} (hi:ops[i]?=some oi) (hs:Region.noSelect ops=true) (hz:Region.waitsFor .any ops z i=true) (hQ:∀ c a w,Q (.panic c) (a.put oi.dst v) w→Q (.panic c) a w) (n:Nat) :
  ∀ (d:Array Bool) (a:Act) (w:World),(∀ j oj,ops[j]?=some oj→j≠i→d.getD j true=false→(∀ e∈oj.after,Region.binds .any e=true→e.on≠i)→oi.apart ops oj=true) →
   i∈Region.ready .any ops d→YieldsIf P ops S oi v a→S w→wpTo P ops Q S z n (d.setIfInBounds i true) (a.put oi.dst v) w→wpTo P ops Q S z (n+1) d a w:=by
 have hsel:=Region.noSelect_spec hs
 induction n with
 | zero =>
  intro d a w _ hr hy hS H
  refine ⟨fun h0=>(by rw [h0] at hr;cases hr),fun j hj=>?_⟩
  by_cases e:j=i
  ·subst e;exact hy.wpOp hi hS ⟨fun _=>hS,H⟩
  ·have h1:=ready_mono hj e
   rw [H.1] at h1;cases h1
 | succ n ih =>
  intro d a w hf hr hy hS H
  refine ⟨fun h0=>(by rw [h0] at hr;cases hr),fun j hj=>?_⟩
  by_cases e:j=i
  ·subst e;exact hy.wpOp hi hS ⟨fun _=>hS,H⟩
  ·have hjz:j≠z:=fun e'=>not_yet hz hr (e' ▸ hj)
   have hno:∀ oj,ops[j]?=some oj→∀ e∈oj.after,Region.binds .any e=true→e.on≠i:=fun oj ho e he hb he' =>
    not_yet (ops:=ops) (j:=j) (i:=i) (by unfold Region.waitsFor;rw [ho];exact Array.any_eq_true'.2 ⟨e,he,by simp [hb,he']⟩) hr hj
   obtain ⟨hun,oj,ho,-⟩:=mem_ready.1 hj
   have h2:=wpOp_putIf ho (hf j oj ho e hun (hno oj ho)) (fun cs b=>hsel i oi cs b hi) (fun cs b=>hsel j oj cs b ho) hQ hy (H.2 j (ready_mono hj e))
   refine wpOp_mono (fun a' w' h3=>⟨fun _=>h3.2.1 hjz,ih _ _ _ ?_ (ready_mono hr (Ne.symm e)) h3.1 (h3.2.1 hjz) ?_⟩) h2
   ·intro k ok hk hki hkun hkno
    refine hf k ok hk hki ?_ hkno
    by_cases ejk:j=k
    ·subst ejk;exact hun
    ·rw [getD_set_ne true ejk] at hkun;exact hkun
   ·rw [Array.setIfInBounds_comm _ _ e];exact h3.2.2
theorem wpTo_take {i dn:Nat} {oi:Oper} {v:Value} {n:Nat} {d:Array Bool} {a:Act} {w:World} (hi:ops[i]?=some oi) (hd:oi.dst=some dn) (hs:Region.noSelect ops=true) (hz:Region.waitsFor .any ops z i=true) (hf:Region.free .any ops d i=true) (hr:(Region.ready .any ops d).contains i=true)
  (hQ:∀ c a w,Q (.panic c) (a.put (some dn) v) w→Q (.panic c) a w) (hy:YieldsIf P ops S oi v a) (hS:S w) (h:wpTo P ops Q S z n (d.setIfInBounds i true) (a.put (some dn) v) w):wpTo P ops Q S z (n+1) d a w :=
 wpTo_first hi hs hz (by rw [hd];exact hQ) n d a w (Region.free_spec hi hf) (by simpa using hr) hy hS (by rw [hd];exact h)
theorem wpTo_nx0 {dn:Nat} {oi:Oper} {v:Value} {n:Nat} {d:Array Bool} {a:Act} {w:World} (hi:ops[ops.size - (n+1)]?=some oi) (hd:oi.dst=some dn) (hs:Region.noSelect ops=true) (hz:Region.waitsFor .any ops z (ops.size - (n+1))=true) (hf:Region.free .any ops d (ops.size - (n+1))=true) (hr:(Region.ready .any ops d).contains (ops.size - (n+1))=true)
  (hQ:∀ c a w,Q (.panic c) (a.put (some dn) v) w→Q (.panic c) a w) (hy:YieldsIf P ops S oi v a) (hS:S w) (h:wpTo P ops Q S z n (d.setIfInBounds (ops.size - (n+1)) true) (a.put (some dn) v) w):wpTo P ops Q S z (n+1) d a w:=wpTo_take hi hd hs hz hf hr hQ hy hS h
theorem wpTo_one {i:Nat} {o:Oper} {n:Nat} {d:Array Bool} {a:Act} {w:World} (hr:Region.ready .any ops d=[i]) (ho:ops[i]?=some o)
  (h:∀ K:Act→World→Prop,Hid (∀ a' w',(i≠z→S w')→((i≠z→S w')→wpTo P ops Q S z n (d.setIfInBounds i true) a' w')→K a' w')→if Region.wanted o (yielded ops a.tmps)=true then Oper.wp P o a w K Q else K (a.put o.dst undef) w):wpTo P ops Q S z (n+1) d a w:=by
 refine ⟨fun h0=>(by rw [hr] at h0;cases h0),fun j hj=>?_⟩
 rw [hr] at hj
 obtain rfl:j=i:=by simpa using hj
 exact wpOp_step ho (fun K' hK=>h K' (fun a' w' h1 h2=>hK a' w' ⟨h1,h2 h1⟩))
end
end Go.Proofs.YtgpcpbmacdhlkaaGreatDoor
/- A region that draws its order: a condition on the world that holds behind every operation. -/
namespace Go.Proofs.YtgpcpbmacdhlkaaGreatDoor
open Go.RowKit
section
variable {P:Program} {ops:Array Oper} {Q:Exit→Act→World→Prop} {S:World→Prop} {z:Nat}
theorem wpTo_firstA {i:Nat} {oi:Oper} {v:Value} (hi:ops[i]?=some oi) (hs:Region.noSelect ops=true) (hz:ops.size≤z) (hQ:∀ c a w,Q (.panic c) (a.put oi.dst v) w→Q (.panic c) a w) (n:Nat) :
  ∀ (d:Array Bool) (a:Act) (w:World),(∀ j oj,ops[j]?=some oj→j≠i→d.getD j true=false→(∀ e∈oj.after,Region.binds .any e=true→e.on≠i)→oi.apart ops oj=true) →
   i∈Region.ready .any ops d→YieldsIf P ops S oi v a→S w→wpTo P ops Q S z n (d.setIfInBounds i true) (a.put oi.dst v) w→wpTo P ops Q S z (n+1) d a w:=by
 have hsel:=Region.noSelect_spec hs
 induction n with
 | zero =>
  intro d a w _ hr hy hS H
  refine ⟨fun h0=>(by rw [h0] at hr;cases hr),fun j hj=>?_⟩
  by_cases e:j=i
  ·subst e;exact hy.wpOp hi hS ⟨fun _=>hS,H⟩
  ·have h1:=ready_mono hj e
   rw [H.1] at h1;cases h1
 | succ n ih =>
  intro d a w hf hr hy hS H
  refine ⟨fun h0=>(by rw [h0] at hr;cases hr),fun j hj=>?_⟩
  by_cases e:j=i
  ·subst e;exact hy.wpOp hi hS ⟨fun _=>hS,H⟩
  ·have hjz:j≠z:=fun e'=>by
    obtain ⟨-,o2,ho2,-⟩:=mem_ready.1 hj
    have:=(Array.getElem?_eq_some_iff.1 ho2).1
    omega
   have hno:∀ oj,ops[j]?=some oj→∀ e∈oj.after,Region.binds .any e=true→e.on≠i:=fun oj ho e he hb he' =>
    not_yet (ops:=ops) (j:=j) (i:=i) (by unfold Region.waitsFor;rw [ho];exact Array.any_eq_true'.2 ⟨e,he,by simp [hb,he']⟩) hr hj
   obtain ⟨hun,oj,ho,-⟩:=mem_ready.1 hj
   have h2:=wpOp_putIf ho (hf j oj ho e hun (hno oj ho)) (fun cs b=>hsel i oi cs b hi) (fun cs b=>hsel j oj cs b ho) hQ hy (H.2 j (ready_mono hj e))
   refine wpOp_mono (fun a' w' h3=>⟨fun _=>h3.2.1 hjz,ih _ _ _ ?_ (ready_mono hr (Ne.symm e)) h3.1 (h3.2.1 hjz) ?_⟩) h2
   ·intro k ok hk hki hkun hkno
    refine hf k ok hk hki ?_ hkno
    by_cases ejk:j=k
    ·subst ejk;exact hun
    ·rw [getD_set_ne true ejk] at hkun;exact hkun
   ·rw [Array.setIfInBounds_comm _ _ e];exact h3.2.2
theorem wpTo_takeA {i dn:Nat} {oi:Oper} {v:Value} {n:Nat} {d:Array Bool} {a:Act} {w:World} (hi:ops[i]?=some oi) (hd:oi.dst=some dn) (hs:Region.noSelect ops=true) (hz:ops.size≤z) (hf:Region.free .any ops d i=true) (hr:(Region.ready .any ops d).contains i=true)
  (hQ:∀ c a w,Q (.panic c) (a.put (some dn) v) w→Q (.panic c) a w) (hy:YieldsIf P ops S oi v a) (hS:S w) (h:wpTo P ops Q S z n (d.setIfInBounds i true) (a.put (some dn) v) w):wpTo P ops Q S z (n+1) d a w :=
 wpTo_firstA hi hs hz (by rw [hd];exact hQ) n d a w (Region.free_spec hi hf) (by simpa using hr) hy hS (by rw [hd];exact h)
theorem wpTo_nx {dn:Nat} {oi:Oper} {v:Value} {n:Nat} {d:Array Bool} {a:Act} {w:World} (hi:ops[ops.size - (n+1)]?=some oi) (hd:oi.dst=some dn) (hs:Region.noSelect ops=true) (hz:ops.size≤z) (hf:Region.free .any ops d (ops.size - (n+1))=true) (hr:(Region.ready .any ops d).contains (ops.size - (n+1))=true)
  (hQ:∀ c a w,Q (.panic c) (a.put (some dn) v) w→Q (.panic c) a w) (hy:YieldsIf P ops S oi v a) (hS:S w) (h:wpTo P ops Q S z n (d.setIfInBounds (ops.size - (n+1)) true) (a.put (some dn) v) w):wpTo P ops Q S z (n+1) d a w:=wpTo_takeA hi hd hs hz hf hr hQ hy hS h
end
end Go.Proofs.YtgpcpbmacdhlkaaGreatDoor
/- What is next becomes leaves of a node of the document. -/
namespace Go.Proofs.YtgpcpbmacdhlkaaGreatDoor
open Go.RowKit
open M
theorem at_new (w:World) (o:Obj) {n:Nat} (h:w.heap.size=n):(w.alloc o).heap[n]?=some o:=h ▸ heap_alloc_new w o
theorem old2 {W:World} {b i:Nat} {v:Value} {o1 o2:Obj} (hb:b<W.heap.size) (h:W.cell? ⟨b,i,none⟩=some v):((W.alloc o1).alloc o2).drew.cell? ⟨b,i,none⟩=some v :=
 kcb (((Below.refl _ W).alloc (Nat.le_refl _) o1).alloc (by simp) o2).drew hb h
theorem set_far {W:World} {c b o i:Nat} {x v:Value} (hn:¬ b=c) (h:W.cell? ⟨b,o,none⟩=some v):(W.setCell ⟨c,i,none⟩ x).cell? ⟨b,o,none⟩=some v:=(On.set (Kp.refl (fun k=>k=c) W) i x).cellv h hn
def atM (rb:Nat) (w:World):Nat:=match w.cell? ⟨rb,2,none⟩ with|some (.int _ n)=>n.toNat|_=>0
theorem RdM.at {w:World} {rb:Nat} {s:ByteArray} {L:List Tk} {tv:Value} {a dp:Nat} (h:RdM w rb s L tv a dp):atM rb w=a:=by
 obtain ⟨c,hr⟩:=h.raw
 unfold atM
 rw [hr.facts.1.2.2.1];simp
structure InTk (w:World) (rb:Nat) (s:ByteArray) (L:List Tk) (tv:Value) (a dp lo B k:Nat) (rv:Value) (ps:List X.Part) (j:Nat) (wr:World):Prop where
 ex:∃ (rvj:Value) (vsj:List Value) (Lo Hi:Nat→Nat),WkM wr rb s L tv (a+j) dp lo B k rvj vsj (ps++((L.drop a).take j).map (fun t=>X.lf (X.tkx (bs s) t))) Lo Hi∧(∀ g,rvj.ownBlock=some g→rv.ownBlock=some g∨w.heap.size≤g)∧Kp (Sm rb B rv) w wr
theorem take_over {s:ByteArray} {L:List Tk} {a:Nat} (h:L.length≤nxI L a) (ha:a≤L.length):X.take (remT s L a)=(((L.drop a).take (L.length - a)).map (fun t=>X.lf (X.tkx (bs s) t)),remT s L L.length):=by
 rw [take_rem]
 have e:nxI L a=L.length:=by have:=nxI_le ha;omega
 rw [e]
 refine Prod.ext ?_ ?_
 ·show List.map _ _=_
  rw [List.take_of_length_le (by rw [List.length_drop];omega),List.take_of_length_le (by rw [List.length_drop];omega)]
 ·show remT s L (L.length+1)=remT s L L.length
  unfold remT
  rw [List.drop_eq_nil_iff.2 (by omega:L.length≤L.length+1),List.drop_length]
set_option maxRecDepth 100000 in
set_option maxHeartbeats 1000000 in
theorem rtake_any (s:ByteArray) (L:List Tk) (dp:Nat) (hS:TokS s L):ReadsM 69 X.take (fun _=>True) s L dp:=by
 intro rb tv a lo B k rv vs ps Lo Hi w h _ hl
 obtain ⟨i0,hi0,hz0,hz1,hz2⟩:=info_parts infoM
 have hl1:=hS.size
 have hl2:=hS.len
 have HF:=hide hS.fit
 have ha:=h.rdr.le
 have hq:=nxI_le ha
 have hge:=nxI_ge L a
 obtain ⟨E,hE1,hE2,hE3,HE⟩:∃ E,a+E≤L.length∧a+E≤nxI L a+1∧(a+E=L.length∨a+E=nxI L a+1)∧Hid (X.take (remT s L a)=(((L.drop a).take E).map (fun t=>X.lf (X.tkx (bs s) t)),remT s L (a+E))):=by
  by_cases hlt:nxI L a<L.length
  ·exact ⟨nxI L a+1 - a,by omega,by omega,by omega,(take_rem (s:=s) (L:=L) (a:=a)).trans (by rw [show a+(nxI L a+1 - a)=nxI L a+1 by omega])⟩
  ·exact ⟨L.length - a,by omega,by omega,by omega,(take_over (by omega) ha).trans (by rw [show a+(L.length - a)=L.length by omega])⟩
 rw [HE.out] at hl ⊢
 simp only [List.length_map,List.length_take,List.length_drop] at hl
 have HI0:Hid (InTk w rb s L tv a dp lo B k rv ps 0 w):=⟨rv,vs,Lo,Hi,by simpa using h,fun g hg=>.inl hg,Kp.refl _ _⟩
 have HA:=hide (ahead_any rb s L tv a dp w hS h.rdr)
 obtain ⟨ao,cap,rfl,hc1,hc2,-⟩:=h.rdr.row
 clear h HE hS
 go_enter Tryz.func69,Tryz.ntmps69
 go_wp2_with fail
 refine (HA.out).mono ?_
 rintro e w1 ⟨rfl,k1⟩
 have HI1:Hid (InTk w rb s L (.slice ao L.length cap) a dp lo B k rv ps 0 w1):=by
  obtain ⟨rvj,vsj,Lo,Hi,g1,g2,g3⟩:=(HI0.out).ex
  have k0:Below w.heap.size w w1:=k1
  exact ⟨rvj,vsj,Lo,Hi,g1.below k0,g2,Kp.trans g3 (Kp.ofBelow k0 (fun _=>False)) (fun _ _ e=>e.elim)⟩
 clear HI0 k1 HA
 go_wp2_with fail
 go_loopw [] (fun wr=>∃ j:Nat,j≤E∧Hid (InTk w rb s L (.slice ao L.length cap) a dp lo B k rv ps j wr)) (fun wr=>L.length - atM rb wr)
 case atStart=>exact ⟨0,Nat.zero_le _,HI1⟩
 case round =>
  obtain ⟨j,hj,HI⟩:=hrel
  clear HI1
  obtain ⟨rvj,vsj,Loj,Hij,g1,g2,g3⟩:=(HI.out).ex
  have HW:=hide g1
  have HG:=hide g2
  have HK:=hide g3
  clear g1 g2 g3 HI
  obtain ⟨I,hI⟩:∃ I,a+j=I:=⟨_,rfl⟩
  rw [hI] at HW
  obtain ⟨c,hr⟩:=(HW.out).rdr.raw
  have HR:=hide hr
  obtain ⟨⟨c0,c1,c2,c3⟩,⟨f2,f3,f4⟩,-⟩:=hr.facts
  have hrl:=heap_lt hr
  have hat:=(HW.out).rdr.at
  clear hr
  by_cases hlt:j<E
  case neg =>
   obtain rfl:j=E:=by omega
   have hfin:Hid (DnM w rb s L (.slice ao L.length cap) dp lo B k rv (ps++((L.drop a).take j).map (fun t=>X.lf (X.tkx (bs s) t))) (remT s L (a+j)) wr):=by
    rw [hI]
    exact ⟨I,rvj,vsj,Loj,Hij,HW.out,rfl,HG.out,HK.out⟩
   clear HW HG HK hat
   rcases hE3 with e|e
   ·have i1:decide ((I:Int)<(L.length:Int))=false:=by simp;omega
    by_cases h5:I≤nxI L a
    ·have i2:decide ((I:Int)≤(nxI L a:Int))=true:=by simp;omega
     go_wp2_with fail
     go_quiet (fail)
     go_wp2_with fail
     go_end0
     exact ⟨rfl,(hfin.out).next (belowN (Below.refl _ wr) nq)⟩
    ·have i2:decide ((I:Int)≤(nxI L a:Int))=false:=by simp;omega
     go_wp2_with fail
     go_quiet (fail)
     go_wp2_with fail
     go_end0
     exact ⟨rfl,(hfin.out).next (belowN (Below.refl _ wr) nq)⟩
   ·have i2:decide ((I:Int)≤(nxI L a:Int))=false:=by simp;omega
    have h5:¬ I≤nxI L a:=by omega
    go_wp2_with fail
    go_quiet (fail)
    go_wp2_with fail
    go_end0
    exact ⟨rfl,(hfin.out).next (belowN (Below.refl _ wr) nq)⟩
  have i1:decide ((I:Int)<(L.length:Int))=true:=by simp;omega
  have i2:decide ((I:Int)≤(nxI L a:Int))=true:=by simp;omega
  have h5:I≤nxI L a:=by omega
  go_wp2_with fail
  go_quiet (fail)
  go_wp2_with fail
  have HW2:=hide ((HW.out).below (belowN (Below.refl _ wr) nq))
  have HK2:Hid (Kp (Sm rb B rv) w (wr.drewN nq)):=Kp.trans HK.out (Kp.ofBelow (belowN (Below.refl _ wr) nq) (fun _=>False)) (fun _ _ e=>e.elim)
  have hat2:atM rb wr=I:=hat
  clear HW HK HR hat c0 c1 c2 c3 f2 f3 f4 hrl
  generalize hWq:wr.drewN nq=W at *
  clear hWq
  have hIL:I<L.length:=by omega
  obtain ⟨b',o',t,rfl,ht,q1,q2,q3⟩:=(HW2.out).rdr.row.get (Below.refl _ W) hIL
  obtain ⟨c,hr⟩:=(HW2.out).rdr.raw
  obtain ⟨⟨c0,c1,c2,c3⟩,⟨f2,f3,f4⟩,-⟩:=hr.facts
  have hrl:=heap_lt hr
  have hbl:b'<W.heap.size:=World.block_lt_of_cell? _ _ q1
  have hi1:(0:Int)≤(I:Int):=Int.natCast_nonneg _
  have hi2:(I:Int)<(L.length:Int):=by omega
  clear hr
  go_region_held3 (fun w'=>w'.cell? ⟨rb,1,none⟩=some (.slice (some ⟨b',o',none⟩) L.length cap)∧w'.cell? ⟨rb,2,none⟩=some (.int .i64 (I:Int))∧w'.cell? ⟨b',o'+I*3,none⟩=some (.int .i64 t.kind)∧w'.cell? ⟨b',o'+I*3+1,none⟩=some (.int .i64 t.pos)∧w'.cell? ⟨b',o'+I*3+2,none⟩=some (.int .i64 t.len))
   (go_keep)
   (fail)
  go_wp2_with fail
  have kT:Below W.heap.size W (W.alloc (.cells #[.int .i64 t.kind,.int .i64 t.pos,.int .i64 t.len] 114)).drew:=((Below.refl _ W).alloc (Nat.le_refl _) _).drew
  have HW3:=hide ((HW2.out).below kT)
  have HKT:=hide kT
  have hblk:(W.alloc (.cells #[.int .i64 t.kind,.int .i64 t.pos,.int .i64 t.len] 114)).drew.heap[W.heap.size]?=some (.cells #[.int .i64 t.kind,.int .i64 t.pos,.int .i64 t.len] 114 (0,0)):=heap_alloc_new W _
  have hz3:(W.alloc (.cells #[.int .i64 t.kind,.int .i64 t.pos,.int .i64 t.len] 114)).drew.heap.size=W.heap.size+1:=by simp
  clear kT q1 q2 q3 c0 c1 c2 c3 f2 f3 f4 hrl
  generalize (W.alloc (.cells #[.int .i64 t.kind,.int .i64 t.pos,.int .i64 t.len] 114)).drew=W2 at *
  have t0:W2.cell? ⟨W.heap.size,0,none⟩=some (.int .i64 t.kind):=cell_of_row W2 _ 0 _ _ _ hblk
  have t1:W2.cell? ⟨W.heap.size,1,none⟩=some (.int .i64 t.pos):=cell_of_row W2 _ 1 _ _ _ hblk
  have t2:W2.cell? ⟨W.heap.size,2,none⟩=some (.int .i64 t.len):=cell_of_row W2 _ 2 _ _ _ hblk
  obtain ⟨c,hr⟩:=(HW3.out).rdr.raw
  obtain ⟨⟨c0,c1,c2,c3⟩,⟨f2,f3,f4⟩,-⟩:=hr.facts
  obtain ⟨b0,b3,g0,g3⟩:=(HW3.out).nd.facts
  have hrl:=heap_lt hr
  have hBl:=(HW2.out).nd.lt
  obtain ⟨p1,p2,p3⟩:=(HF.out) t (List.mem_of_getElem? ht)
  have j1:(t.pos:Int)≤(t.pos:Int)+(t.len:Int):=by omega
  have j2:(t.pos:Int)+(t.len:Int)≤(s.size:Int):=by omega
  have j3:t.pos≤s.size:=by omega
  have j4:(0:Int)≤(t.pos:Int):=Int.natCast_nonneg _
  have hwr:IntKind.i64.wrap ((t.pos:Int)+(t.len:Int))=(t.pos:Int)+(t.len:Int):=by rw [IntKind.wrap_i64];omega
  have hne:=(HW3.out).nd.ne
  have hown:=owns_ge (HW2.out).nd.row
  have n1:some W.heap.size≠rvj.ownBlock:=fun e=>by have:=(hown _ e.symm).2;omega
  have n2:some rb≠rvj.ownBlock:=fun e=>by have:=(hown _ e.symm).1;have:=(HW2.out).rlt;omega
  have n3:some B≠rvj.ownBlock:=fun e=>hne e.symm
  have hvl:vsj.length≤1073741824:=by
   have:=(HW3.out).nd.kds.len
   rw [this,List.length_append,List.length_map,List.length_take,List.length_drop];omega
  clear hr hblk hown hne
  have hTl:W.heap.size<W2.heap.size:=by omega
  have hrB:¬ rb=B:=by have:=(HW2.out).rlt;have:=(HW2.out).nd.ge;omega
  have hTB:¬ W.heap.size=B:=by omega
  have hBl2:B<W2.heap.size:=by omega
  have HZ3:=hide hz3
  clear hz3
  have N1:=hide n1
  have N2:=hide n2
  have N3:=hide n3
  clear n1 n2 n3
  refine wp_region_noPanic ?_
  refine wpTo_start (S:=fun w'=>w'.cell? ⟨B,3,none⟩=some rvj∧w'.cell? ⟨rb,0,none⟩=some (.string s)∧w'.cell? ⟨W.heap.size,0,none⟩=some (.int .i64 t.kind)∧w'.cell? ⟨W.heap.size,1,none⟩=some (.int .i64 t.pos)∧w'.cell? ⟨W.heap.size,2,none⟩=some (.int .i64 t.len)) (z:=25) (by kernel_rfl) ?_
  have hS:W2.drew.cell? ⟨B,3,none⟩=some rvj∧W2.drew.cell? ⟨rb,0,none⟩=some (.string s)∧W2.drew.cell? ⟨W.heap.size,0,none⟩=some (.int .i64 t.kind)∧W2.drew.cell? ⟨W.heap.size,1,none⟩=some (.int .i64 t.pos)∧W2.drew.cell? ⟨W.heap.size,2,none⟩=some (.int .i64 t.len):=⟨b3,c0,t0,t1,t2⟩
  iterate 20 (refine wpTo_nx0 (v:=?_) rfl rfl (by kernel_rfl) (by kernel_rfl) (by kernel_rfl) (by kernel_rfl) (fun _ _ _ h=>h) (Or.inl ⟨by rfl,?_⟩) hS ?_;rotate_left;(· (intro wx hSw;(try dsimp only at hSw);go_simp;try (with_reducible rfl)));simp only [Act.put,List.setIfInBounds_toArray,List.set_cons_zero,List.set_cons_succ])
  refine wpTo_one (i:=20) (by kernel_rfl) rfl (fun K hK=>?_)
  go_simp
  refine hK.out _ _ (fun _=>by first|go_keep|(dsimp only;go_keep)) (fun hS2=>?_)
  clear hS hK K
  have hS:=hS2 (by decide)
  clear hS2
  refine wpTo_one (i:=21) (by kernel_rfl) rfl (fun K hK=>?_)
  go_simp
  refine hK.out _ _ (fun _=>by first|go_keep|(dsimp only;go_keep)) (fun hS2=>?_)
  clear hS hK K
  have hS:=hS2 (by decide)
  clear hS2
  refine wpTo_one (i:=22) (by kernel_rfl) rfl (fun K hK=>?_)
  refine step_append_lies _ (by rfl) _ _ _ (by rfl) lo 52 i0 _ 1 8 Tryz.underlying56 hi0 hz0 hz1 hz2 rfl (by omega) rvj vsj.length _ (by rfl) ((((HW3.out).nd.row.alloc _).alloc _).drew)
      ⟨W2.heap.size+1,0,none⟩ 1 1 [.pointer (some ⟨W2.heap.size,0,none⟩)] (by rfl) (by rfl) (World.news_of_block (cs:=#[.pointer (some ⟨W2.heap.size,0,none⟩)]) (t:=52) (fr:=(0,0)) (at_new (W2.alloc _) _ (World.size_alloc W2 _))) (by simp [Value.oneCell'])
      (by omega) (by unfold maxLen;omega) (by omega) (by have:=HZ3.out;have:=(HW2.out).rlt;have:=(HW2.out).nd.ge;simp;omega) (W2.heap.size+2) (by simp) ?_
  intro g cap5 w5 hown5 hgrow5 hat5 hlt5
  have y0:=(hgrow5.cell_far ⟨rb,0,none⟩ (by have:=HZ3.out;simp;omega) (N2.out)).trans (old2 hrl c0)
  have y1:=(hgrow5.cell_far ⟨W.heap.size,0,none⟩ (by have:=HZ3.out;simp;omega) (N1.out)).trans (old2 hTl t0)
  have y2:=(hgrow5.cell_far ⟨W.heap.size,1,none⟩ (by have:=HZ3.out;simp;omega) (N1.out)).trans (old2 hTl t1)
  have y3:=(hgrow5.cell_far ⟨W.heap.size,2,none⟩ (by have:=HZ3.out;simp;omega) (N1.out)).trans (old2 hTl t2)
  have x1:w5.cell? ⟨B,3,none⟩=some rvj:=(hgrow5.cell_far ⟨B,3,none⟩ (by have:=HZ3.out;simp;omega) (N3.out)).trans (old2 hBl2 b3)
  have x2:w5.frozen? ⟨B,3,none⟩=false:=(hgrow5.frozen_far ⟨B,3,none⟩ (by have:=HZ3.out;simp;omega) (N3.out)).trans ((World.frozen?_alloc_old _ _ ⟨B,3,none⟩ (by have:=HZ3.out;simp;omega)).trans ((World.frozen?_alloc_old _ _ ⟨B,3,none⟩ (by have:=HZ3.out;simp;omega)).trans g3))
  show K (Act.put _ (some 58) _) w5
  refine hK.out _ _ (fun _=>⟨x1,y0,y1,y2,y3⟩) (fun hS2=>?_)
  clear hS hK K
  have hS:=hS2 (by decide)
  clear hS2
  simp only [Act.put,List.setIfInBounds_toArray,List.set_cons_zero,List.set_cons_succ]
  refine wpTo_one (i:=23) (by kernel_rfl) rfl (fun K hK=>?_)
  go_simp
  refine hK.out _ _ (fun _=>hS) (fun _=>?_)
  clear hK K
  refine wpTo_one (i:=24) (by kernel_rfl) rfl (fun K hK=>?_)
  go_simp
  refine hK.out _ _ (fun _=>hS) (fun _=>?_)
  clear hK K
  refine wpTo_one (i:=25) (by kernel_rfl) rfl (fun K hK=>?_)
  go_simp
  refine hK.out _ _ (fun h=>absurd rfl h) (fun _=>wpTo_end (by kernel_rfl) ?_)
  clear hK K
  refine NoPanic.normal ?_
  clear y0 y1 y2 y3 x1 x2 hS
  have HP:Hid (DnM W2 rb s L (.slice (some ⟨b',o',none⟩) L.length cap) dp lo B k rvj (ps++((L.drop a).take (j+1)).map (fun t=>X.lf (X.tkx (bs s) t))) (remT s L I) (w5.setCell ⟨B,3,none⟩ (.slice (some ⟨g,0,none⟩) (vsj.length+1) cap5))):=by
   have kN:∀ o1 o2:Obj,Below W2.heap.size W2 ((W2.alloc o1).alloc o2).drew:=fun o1 o2=>(((Below.refl _ W2).alloc (Nat.le_refl _) o1).alloc (by simp) o2).drew
   have hx:s.extract t.pos ((t.pos:Int)+(t.len:Int)).toNat=ba (((bs s).drop t.pos).take t.len):=by
    apply bs_inj
    rw [bs_ba,bs_cut,List.drop_take]
    congr 1
    omega
   have hblk2:((W2.alloc (Obj.cells #[Value.int IntKind.i64 0,Value.int IntKind.i64 t.kind,Value.string (s.extract t.pos ((t.pos:Int)+(t.len:Int)).toNat),Value.slice none 0 0,Value.int IntKind.i64 0,Value.int IntKind.i64 0,Value.int IntKind.i64 0,Value.int IntKind.i64 0,Value.bool false] 58)).alloc
    (Obj.cells #[Value.pointer (some ⟨W2.heap.size,0,none⟩)] 52)).drew.heap[W2.heap.size]?=some (mcell 0 t.kind (((bs s).drop t.pos).take t.len) (.slice none 0 0) 0 0 0 0 false):=by
    rw [hx]
    exact (heap_alloc_old _ _ (by simp)).trans (heap_alloc_new W2 _)
   have hd:=(HW3.out).put (On.ofBelow rb (kN _ _)) ((HW3.out).rdr.below (kN _ _)) (IsM.leaf hblk2) (Nat.le_refl _) (by simp) hgrow5 hown5 (hat5.imp id (fun e=>by rw [e];simp))
   have hl:(ps++((L.drop a).take j).map (fun t=>X.lf (X.tkx (bs s) t)))++[X.Part.leaf t.kind (((bs s).drop t.pos).take t.len)]=ps++((L.drop a).take (j+1)).map (fun t=>X.lf (X.tkx (bs s) t)):=by
    rw [List.append_assoc,List.take_add_one,List.getElem?_drop,hI,ht];simp [X.lf,X.tkx]
   rw [hl] at hd
   exact hd
  have HKF:Hid (Kp (Sm rb B rv) w W2):=Kp.trans HK2.out (Kp.ofBelow HKT.out (fun _=>False)) (fun _ _ e=>e.elim)
  clear hown5 hgrow5 hat5 hlt5 b0 b3 g0 g3 c0 c1 c2 c3 f2 f3 f4 t0 t1 t2 HZ3 N1 N2 N3 HW3 HKT
  generalize w5.setCell ⟨B,3,none⟩ (.slice (some ⟨g,0,none⟩) (vsj.length+1) cap5)=W6 at *
  obtain ⟨a6,rv6,vs6,Lo6,Hi6,m1,m2,m3,m4⟩:=HP.out
  have ha6:a6=I:=by
   have h1:=congrArg List.length m2
   have h2:=m1.rdr.le
   unfold remT at h1
   rw [List.length_map,List.length_map,List.length_drop,List.length_drop] at h1
   omega
  subst ha6
  have HW6:=hide m1
  have HM3:=hide m3
  have HM4:=hide m4
  clear m1 m2 m3 m4 HP
  obtain ⟨c,hr⟩:=(HW6.out).rdr.raw
  obtain ⟨⟨c0,c1,c2,c3⟩,⟨f2,f3,f4⟩,-⟩:=hr.facts
  have hrl6:=heap_lt hr
  have HR6:=hide hr
  clear hr
  go_wp2_with fail
  have hon:On rb W6 (W6.setCell ⟨rb,2,none⟩ (.int .i64 ((a6+1:Nat):Int))):=On.set (Kp.refl _ W6) 2 _
  have hrd:RdM (W6.setCell ⟨rb,2,none⟩ (.int .i64 ((a6+1:Nat):Int))) rb s L (.slice (some ⟨b',o',none⟩) L.length cap) (a6+1) dp:=(HW6.out).rdr.moved hon ((HR6.out).set2 _) (by omega)
  refine ⟨⟨j+1,by omega,rv6,vs6,Lo6,Hi6,?_,?_,?_⟩,?_⟩
  ·rw [show a+(j+1)=a6+1 by omega]
   exact (HW6.out).moved hon hrd
  ·intro q hq
   have hz:=(HKF.out).size
   rcases (HM3.out) q hq with e|e
   ·exact (HG.out) q e
   ·exact .inr (by omega)
  ·refine Kp.trans (Kp.trans HKF.out HM4.out (fun i hi e=>?_)) hon (fun i _ e=>.inl e)
   rcases e with e|e|e
   ·exact .inl e
   ·exact .inr (.inl e)
   ·rcases (HG.out) i e with e|e
    ·exact .inr (.inr e)
    ·omega
  ·have h1:atM rb (W6.setCell ⟨rb,2,none⟩ (.int .i64 ((a6+1:Nat):Int)))=a6+1:=hrd.at
   rw [hat2]
   show L.length - atM rb (W6.setCell ⟨rb,2,none⟩ (.int .i64 ((a6+1:Nat):Int)))<_
   rw [h1];omega
end Go.Proofs.YtgpcpbmacdhlkaaGreatDoor
/- The document's reader: something is wanted;steps one behind the other. -/
namespace Go.Proofs.YtgpcpbmacdhlkaaGreatDoor
open Go.RowKit
open M
theorem old1 {W:World} {b i:Nat} {v:Value} {o1:Obj} (hb:b<W.heap.size) (h:W.cell? ⟨b,i,none⟩=some v):(W.alloc o1).cell? ⟨b,i,none⟩=some v:=kcb ((Below.refl _ W).alloc (Nat.le_refl _) o1) hb h
theorem old2' {W:World} {b i:Nat} {v:Value} {o1 o2:Obj} (hb:b<W.heap.size) (h:W.cell? ⟨b,i,none⟩=some v):((W.alloc o1).alloc o2).cell? ⟨b,i,none⟩=some v:=kcb (((Below.refl _ W).alloc (Nat.le_refl _) o1).alloc (by simp) o2) hb h
theorem WkM.missed {w w5:World} {rb:Nat} {s:ByteArray} {L:List Tk} {tv:Value} {a dp lo B k:Nat} {rv:Value} {vs:List Value} {ps:List X.Part} {Lo Hi:Nat→Nat} {g cap:Nat} (h:WkM w rb s L tv a dp lo B k rv vs ps Lo Hi) (x:List UInt8)
  (hgrow:((w.alloc (mcell 1 0 x (.slice none 0 0) 0 0 0 0 false)).alloc (.cells #[.pointer (some ⟨w.heap.size,0,none⟩)] 52)).grownBy w5 rv.ownBlock) (hown:w5.ownsRow lo 52 1 (.slice (some ⟨g,0,none⟩) (vs.length+1) cap) (vs.length+1) (vs++[.pointer (some ⟨w.heap.size,0,none⟩)])) (hat:rv.ownBlock=some g∨g=w.heap.size+2) :
  DnM w rb s L tv dp lo B k rv (ps++[.miss x]) (remT s L a) (w5.setCell ⟨B,3,none⟩ (.slice (some ⟨g,0,none⟩) (vs.length+1) cap)):=by
 have kN:∀ o1 o2:Obj,Below w.heap.size w ((w.alloc o1).alloc o2):=fun o1 o2=>((Below.refl _ w).alloc (Nat.le_refl _) o1).alloc (by simp) o2
 have hblk:((w.alloc (mcell 1 0 x (.slice none 0 0) 0 0 0 0 false)).alloc (.cells #[.pointer (some ⟨w.heap.size,0,none⟩)] 52)).heap[w.heap.size]?=some (mcell 1 0 x (.slice none 0 0) 0 0 0 0 false):=(heap_alloc_old _ _ (by simp)).trans (heap_alloc_new w _)
 exact h.put (On.ofBelow rb (kN _ _)) (h.rdr.below (kN _ _)) (IsM.miss hblk) (Nat.le_refl _) (by simp) hgrow hown (hat.imp id (fun e=>by rw [e];simp))
theorem WkM.forPut {w:World} {rb:Nat} {s:ByteArray} {L:List Tk} {tv:Value} {a dp lo B k:Nat} {rv:Value} {vs:List Value} {ps:List X.Part} {Lo Hi:Nat→Nat} (h:WkM w rb s L tv a dp lo B k rv vs ps Lo Hi) :
  w.cell? ⟨B,3,none⟩=some rv∧w.frozen? ⟨B,3,none⟩=false∧B<w.heap.size∧lo≤w.heap.size∧Hid (some B≠rv.ownBlock)∧Hid (vs.length=ps.length) :=
 ⟨h.nd.facts.2.1,h.nd.facts.2.2.2,h.nd.lt,Nat.le_trans h.nd.ge (Nat.le_of_lt h.nd.lt),fun e=>h.nd.ne e.symm,h.nd.kds.len⟩
set_option maxRecDepth 100000 in
set_option maxHeartbeats 1000000 in
theorem rwant_any (s:ByteArray) (L:List Tk) (dp:Nat) (hS:TokS s L) (x:List UInt8) (rb:Nat) (tv:Value) (a lo B k:Nat) (rv:Value) (vs:List Value) (ps:List X.Part) (Lo Hi:Nat→Nat) (w:World) (h:WkM w rb s L tv a dp lo B k rv vs ps Lo Hi) (hl:ps.length+(X.want x (remT s L a)).1.length≤1073741824) :
  Calls Tryz.prog 70 #[.pointer (some ⟨rb,0,none⟩),.pointer (some ⟨B,0,none⟩),.string (ba x)] w fun en w'=>en=.returned (.tuple #[])∧Hid (DnM w rb s L tv dp lo B k rv (ps++(X.want x (remT s L a)).1) (X.want x (remT s L a)).2 w'):=by
 obtain ⟨i0,hi0,hz0,hz1,hz2⟩:=info_parts infoM
 have HW:=hide h
 have HI:=hide (ris_any rb s L tv a dp x w hS h.rdr)
 clear h
 cases hp:X.isN x (remT s L a) with
 | true =>
  have e1:X.want x (remT s L a)=X.take (remT s L a):=by unfold X.want;rw [if_pos hp]
  rw [e1] at hl ⊢
  rw [hp] at HI
  clear e1 hp
  go_enter Tryz.func70,Tryz.ntmps70
  go_wp2_with fail
  refine (HI.out).mono ?_
  rintro e w1 ⟨rfl,k1⟩
  have HW1:=hide ((HW.out).below k1)
  have HK1:=hide k1
  clear k1
  go_wp2_with fail
  refine (rtake_any s L dp hS rb tv a lo B k rv vs ps Lo Hi w1 (HW1.out) trivial hl).mono ?_
  rintro e w2 ⟨rfl,H2⟩
  go_wp2_with fail
  go_end0
  exact ⟨rfl,DnM.trans (fun _ hg=>.inl hg) (Kp.ofBelow HK1.out _) H2.out⟩
 | false =>
  have e1:X.want x (remT s L a)=([.miss x],remT s L a):=by unfold X.want;rw [if_neg (by rw [hp];simp)]
  rw [e1] at hl ⊢
  rw [hp] at HI
  clear e1 hp
  go_enter Tryz.func70,Tryz.ntmps70
  go_wp2_with fail
  refine (HI.out).mono ?_
  rintro e w1 ⟨rfl,k1⟩
  have HW1:=hide ((HW.out).below k1)
  have HK1:=hide k1
  clear k1
  obtain ⟨b3,f3,hbl,hlo,HN,hvl⟩:=(HW1.out).forPut
  simp only [List.length_singleton] at hl
  have hvb:vs.length≤1073741823:=by rw [hvl.out];omega
  go_wp2_with (at_builtin;refine wpList_append_lies _ rfl _ _ 56 rfl lo 52 i0 _ 1 8 Tryz.underlying56 hi0 hz0 hz1 hz2 rfl (by decide) rv vs.length _ rfl (((HW1.out).nd.row.alloc _).alloc _) ⟨w1.heap.size+1,0,none⟩ 1 1 [.pointer (some ⟨w1.heap.size,0,none⟩)] rfl rfl (World.news_of_block (cs:=#[.pointer (some ⟨w1.heap.size,0,none⟩)]) (at_new (w1.alloc _) _ (World.size_alloc w1 _))) (by simp [Value.oneCell']) (by omega) (by unfold maxLen;omega) (by omega) (by simp;omega) (w1.heap.size+2) (by simp) ?_;intro g cap5 w5 hown5 hgrow5 hat5 hlt5;have x1:w5.cell? ⟨B,3,none⟩=some rv:=(hgrow5.cell_far ⟨B,3,none⟩ (by simp;omega) (HN.out)).trans (old2' hbl b3);have x2:w5.frozen? ⟨B,3,none⟩=false:=(hgrow5.frozen_far ⟨B,3,none⟩ (by simp;omega) (HN.out)).trans ((World.frozen?_alloc_old _ _ ⟨B,3,none⟩ (by simp;omega)).trans ((World.frozen?_alloc_old _ _ ⟨B,3,none⟩ (by simp;omega)).trans f3));have HX:=hide ((HW1.out).missed x hgrow5 hown5 hat5);clear hown5 hgrow5)
  go_end0
  exact ⟨rfl,DnM.trans (fun _ hg=>.inl hg) (Kp.ofBelow HK1.out _) HX.out⟩
set_option maxRecDepth 100000 in
set_option maxHeartbeats 1000000 in
theorem rname_any (s:ByteArray) (L:List Tk) (dp:Nat) (hS:TokS s L):ReadsM 71 X.wname (fun _=>True) s L dp:=by
 intro rb tv a lo B k rv vs ps Lo Hi w h _ hl
 obtain ⟨i0,hi0,hz0,hz1,hz2⟩:=info_parts infoM
 have HW:=hide h
 have HI:=hide (rkind_any rb s L tv a dp w hS h.rdr)
 clear h
 cases hp:(X.kindN (remT s L a)==3) with
 | true =>
  have e1:X.wname (remT s L a)=X.take (remT s L a):=by unfold X.wname;rw [if_pos hp]
  rw [e1] at hl ⊢
  have hk:X.kindN (remT s L a)=3:=by simpa using hp
  rw [hk] at HI
  clear e1 hp hk
  go_enter Tryz.func71,Tryz.ntmps71
  go_wp2_with fail
  refine (HI.out).mono ?_
  rintro e w1 ⟨rfl,k1⟩
  have HW1:=hide ((HW.out).below k1)
  have HK1:=hide k1
  clear k1
  go_wp2_with fail
  refine (rtake_any s L dp hS rb tv a lo B k rv vs ps Lo Hi w1 (HW1.out) trivial hl).mono ?_
  rintro e w2 ⟨rfl,H2⟩
  go_wp2_with fail
  go_end0
  exact ⟨rfl,DnM.trans (fun _ hg=>.inl hg) (Kp.ofBelow HK1.out _) H2.out⟩
 | false =>
  have e1:X.wname (remT s L a)=([.miss X.sName],remT s L a):=by unfold X.wname;rw [if_neg (by rw [hp];simp)]
  rw [e1] at hl ⊢
  have hk:((X.kindN (remT s L a):Int)==3)=false:=by rw [← hp,Bool.eq_iff_iff];simp;omega
  clear e1 hp
  go_enter Tryz.func71,Tryz.ntmps71
  go_wp2_with fail
  refine (HI.out).mono ?_
  rintro e w1 ⟨rfl,k1⟩
  have HW1:=hide ((HW.out).below k1)
  have HK1:=hide k1
  clear k1
  obtain ⟨b3,f3,hbl,hlo,HN,hvl⟩:=(HW1.out).forPut
  simp only [List.length_singleton] at hl
  have hvb:vs.length≤1073741823:=by rw [hvl.out];omega
  go_wp2_with (at_builtin;refine wpList_append_lies _ rfl _ _ 56 rfl lo 52 i0 _ 1 8 Tryz.underlying56 hi0 hz0 hz1 hz2 rfl (by decide) rv vs.length _ rfl (((HW1.out).nd.row.alloc _).alloc _) ⟨w1.heap.size+1,0,none⟩ 1 1 [.pointer (some ⟨w1.heap.size,0,none⟩)] rfl rfl (World.news_of_block (cs:=#[.pointer (some ⟨w1.heap.size,0,none⟩)]) (at_new (w1.alloc _) _ (World.size_alloc w1 _))) (by simp [Value.oneCell']) (by omega) (by unfold maxLen;omega) (by omega) (by simp;omega) (w1.heap.size+2) (by simp) ?_;intro g cap5 w5 hown5 hgrow5 hat5 hlt5;have x1:w5.cell? ⟨B,3,none⟩=some rv:=(hgrow5.cell_far ⟨B,3,none⟩ (by simp;omega) (HN.out)).trans (old2' hbl b3);have x2:w5.frozen? ⟨B,3,none⟩=false:=(hgrow5.frozen_far ⟨B,3,none⟩ (by simp;omega) (HN.out)).trans ((World.frozen?_alloc_old _ _ ⟨B,3,none⟩ (by simp;omega)).trans ((World.frozen?_alloc_old _ _ ⟨B,3,none⟩ (by simp;omega)).trans f3));have HX:=hide ((HW1.out).missed X.sName hgrow5 hown5 hat5);clear hown5 hgrow5)
  go_end0
  exact ⟨rfl,DnM.trans (fun _ hg=>.inl hg) (Kp.ofBelow HK1.out _) HX.out⟩
end Go.Proofs.YtgpcpbmacdhlkaaGreatDoor
/- The document's reader: steps one behind the other;a node within a node. -/
namespace Go.Proofs.YtgpcpbmacdhlkaaGreatDoor
open Go.RowKit
open M
theorem DnM.go {w w1:World} {rb:Nat} {s:ByteArray} {L:List Tk} {tv:Value} {dp lo B k:Nat} {rv:Value} {ps1:List X.Part} {ts1:List X.Tok} (h:DnM w rb s L tv dp lo B k rv ps1 ts1 w1) {fn:FuncId} {F:X.R} (hR:ReadsM fn F (fun _=>True) s L dp) (hb:ps1.length+(F ts1).1.length≤1073741824) :
  Calls Tryz.prog fn #[.pointer (some ⟨rb,0,none⟩),.pointer (some ⟨B,0,none⟩)] w1 fun en w2=>en=.returned (.tuple #[])∧Hid (DnM w rb s L tv dp lo B k rv (ps1++(F ts1).1) (F ts1).2 w2):=by
 obtain ⟨a',rv',vs',Lo',Hi',g1,rfl,g3,g4⟩:=h
 exact (hR rb tv a' lo B k rv' vs' ps1 Lo' Hi' w1 g1 trivial hb).mono (fun e w2 h=>⟨h.1,DnM.trans g3 g4 h.2.out⟩)
theorem DnM.want {w w1:World} {rb:Nat} {s:ByteArray} {L:List Tk} {tv:Value} {dp lo B k:Nat} {rv:Value} {ps1:List X.Part} {ts1:List X.Tok} (h:DnM w rb s L tv dp lo B k rv ps1 ts1 w1) (hS:TokS s L) (x:List UInt8) (hb:ps1.length+(X.want x ts1).1.length≤1073741824) :
  Calls Tryz.prog 70 #[.pointer (some ⟨rb,0,none⟩),.pointer (some ⟨B,0,none⟩),.string (ba x)] w1 fun en w2=>en=.returned (.tuple #[])∧Hid (DnM w rb s L tv dp lo B k rv (ps1++(X.want x ts1).1) (X.want x ts1).2 w2):=by
 obtain ⟨a',rv',vs',Lo',Hi',g1,rfl,g3,g4⟩:=h
 exact (rwant_any s L dp hS x rb tv a' lo B k rv' vs' ps1 Lo' Hi' w1 g1 hb).mono (fun e w2 h=>⟨h.1,DnM.trans g3 g4 h.2.out⟩)
theorem DnM.is {w w1:World} {rb:Nat} {s:ByteArray} {L:List Tk} {tv:Value} {dp lo B k:Nat} {rv:Value} {ps1:List X.Part} {ts1:List X.Tok} (h:DnM w rb s L tv dp lo B k rv ps1 ts1 w1) (hS:TokS s L) (x:List UInt8) :
  Calls Tryz.prog 68 #[.pointer (some ⟨rb,0,none⟩),.string (ba x)] w1 fun e w2=>e=.returned (.bool (X.isN x ts1))∧Hid (DnM w rb s L tv dp lo B k rv ps1 ts1 w2):=by
 have h0:=h
 obtain ⟨a',rv',vs',Lo',Hi',g1,rfl,g3,g4⟩:=h
 exact (ris_any rb s L tv a' dp x w1 hS g1.rdr).mono (fun e w2 h=>⟨h.1,h0.next h.2⟩)
theorem DnM.at {w w1:World} {rb:Nat} {s:ByteArray} {L:List Tk} {tv:Value} {dp lo B k:Nat} {rv:Value} {ps1:List X.Part} {ts1:List X.Tok} (h:DnM w rb s L tv dp lo B k rv ps1 ts1 w1):L.length - atM rb w1=ts1.length:=by
 obtain ⟨a',rv',vs',Lo',Hi',g1,rfl,g3,g4⟩:=h
 rw [g1.rdr.at];unfold remT;rw [List.length_map,List.length_drop]
theorem DnM.tlen {w w1:World} {rb:Nat} {s:ByteArray} {L:List Tk} {tv:Value} {dp lo B k:Nat} {rv:Value} {ps1:List X.Part} {ts1:List X.Tok} (h:DnM w rb s L tv dp lo B k rv ps1 ts1 w1):ts1.length≤L.length:=by rw [← h.at];omega
theorem RdM.new {w:World} {rb:Nat} {s:ByteArray} {L:List Tk} {tv:Value} {a dp:Nat} (h:RdM w rb s L tv a dp) (k:Nat):DnM (w.alloc (mcell k 0 [] (.slice none 0 0) 0 0 0 0 false)) rb s L tv dp w.heap.size w.heap.size k (.slice none 0 0) [] (remT s L a) (w.alloc (mcell k 0 [] (.slice none 0 0) 0 0 0 0 false)) :=
 DnM.refl ⟨h.below ((Below.refl _ w).alloc (Nat.le_refl _) _),Mk.new w k,h.lt,fun q e=>(h.own q e).2⟩
def GvM (w:World) (rb:Nat) (s:ByteArray) (L:List Tk) (tv:Value) (dp:Nat) (p:X.Part) (ts':List X.Tok) (N:Nat) (w':World):Prop :=
 ∃ a',RdM w' rb s L tv a' dp∧remT s L a'=ts'∧IsM w' w.heap.size w'.heap.size (.pointer (some ⟨N,0,none⟩)) (X.raw p)∧On rb w w'
def GivesM (fn:FuncId) (args:Value→Array Value) (F:X.R) (s:ByteArray) (L:List Tk) (dp:Nat):Prop :=
 ∀ (rb:Nat) (tv:Value) (a:Nat) (w:World),RdM w rb s L tv a dp→Calls Tryz.prog fn (args (.pointer (some ⟨rb,0,none⟩))) w fun e w'=>∃ N p,e=.returned (.pointer (some ⟨N,0,none⟩))∧Hid ((F (remT s L a)).1=[p])∧Hid (GvM w rb s L tv dp p (F (remT s L a)).2 N w')
theorem GvM.at {w w1:World} {rb:Nat} {s:ByteArray} {L:List Tk} {tv:Value} {dp N:Nat} {p:X.Part} {ts1:List X.Tok} (h:GvM w rb s L tv dp p ts1 N w1):L.length - atM rb w1=ts1.length:=by
 obtain ⟨a',g1,rfl,g3,g4⟩:=h
 rw [g1.at];unfold remT;rw [List.length_map,List.length_drop]
theorem GvM.next {w w1 w2:World} {rb:Nat} {s:ByteArray} {L:List Tk} {tv:Value} {dp N:Nat} {p:X.Part} {ts1:List X.Tok} (h:GvM w rb s L tv dp p ts1 N w1) (hk:Below w1.heap.size w1 w2):GvM w rb s L tv dp p ts1 N w2:=by
 obtain ⟨a',g1,g2,g3,g4⟩:=h
 exact ⟨a',g1.below hk,g2,(g3.kept hk).wide (Nat.le_refl _) hk.size,g4.to (On.ofBelow rb hk)⟩
theorem GvM.is {w w1:World} {rb:Nat} {s:ByteArray} {L:List Tk} {tv:Value} {dp N:Nat} {p:X.Part} {ts1:List X.Tok} (h:GvM w rb s L tv dp p ts1 N w1) (hS:TokS s L) (x:List UInt8) :
  Calls Tryz.prog 68 #[.pointer (some ⟨rb,0,none⟩),.string (ba x)] w1 fun e w2=>e=.returned (.bool (X.isN x ts1))∧Hid (GvM w rb s L tv dp p ts1 N w2):=by
 have h0:=h
 obtain ⟨a',g1,rfl,g3,g4⟩:=h
 exact (ris_any rb s L tv a' dp x w1 hS g1).mono (fun e w2 h=>⟨h.1,h0.next h.2⟩)
theorem DnM.closed {w W w4:World} {rb:Nat} {s:ByteArray} {L:List Tk} {tv:Value} {dp N k:Nat} {cps:List X.Part} {ts':List X.Tok} {rvn:Value} (h:DnM W rb s L tv dp w.heap.size N k rvn cps ts' w4) (hk:On rb w W) (hr:∀ g,rvn.ownBlock=some g→w.heap.size≤g):GvM w rb s L tv dp (.br k cps) ts' N w4:=by
 obtain ⟨a',rv',vs',Lo',Hi',g1,g2,g3,g4⟩:=h
 have hge:=g1.nd.ge
 refine ⟨a',g1.rdr,g2,g1.nd.done,Kp.trans hk g4 (fun i hi e=>?_)⟩
 rcases e with e|e|e
 ·exact e
 ·omega
 ·have:=hr i e;omega
theorem WkM.take {w W w5:World} {rb:Nat} {s:ByteArray} {L:List Tk} {tv:Value} {a dp lo B k:Nat} {rv:Value} {vs:List Value} {ps:List X.Part} {Lo Hi:Nat→Nat} {g cap N:Nat} {p:X.Part} {ts':List X.Tok} (h:WkM w rb s L tv a dp lo B k rv vs ps Lo Hi) (hg:GvM w rb s L tv dp p ts' N W) {o:Obj}
  (hgrow:(W.alloc o).grownBy w5 rv.ownBlock) (hown:w5.ownsRow lo 52 1 (.slice (some ⟨g,0,none⟩) (vs.length+1) cap) (vs.length+1) (vs++[.pointer (some ⟨N,0,none⟩)])) (hat:rv.ownBlock=some g∨g=W.heap.size+1) :
  DnM w rb s L tv dp lo B k rv (ps++[p]) ts' (w5.setCell ⟨B,3,none⟩ (.slice (some ⟨g,0,none⟩) (vs.length+1) cap)):=by
 obtain ⟨a',g1,rfl,g3,g4⟩:=hg
 have kN:Below W.heap.size W (W.alloc o):=(Below.refl _ W).alloc (Nat.le_refl _) o
 exact h.put (g4.to (On.ofBelow rb kN)) (g1.below kN) (g3.kept kN) (Nat.le_refl _) (by simp) hgrow hown (hat.imp id (fun e=>by rw [e];simp))
theorem WkM.forTake {w W:World} {rb:Nat} {s:ByteArray} {L:List Tk} {tv:Value} {a dp lo B k:Nat} {rv:Value} {vs:List Value} {ps:List X.Part} {Lo Hi:Nat→Nat} {N:Nat} {p:X.Part} {ts':List X.Tok} (h:WkM w rb s L tv a dp lo B k rv vs ps Lo Hi) (hg:GvM w rb s L tv dp p ts' N W) :
  W.cell? ⟨B,3,none⟩=some rv∧W.frozen? ⟨B,3,none⟩=false∧B<W.heap.size∧lo≤W.heap.size∧Hid (some B≠rv.ownBlock)∧Hid (vs.length=ps.length)∧Hid (W.ownsRow lo 52 1 rv vs.length vs):=by
 obtain ⟨a',g1,g2,g3,g4⟩:=hg
 have h2:WkM W rb s L tv a' dp lo B k rv vs ps Lo Hi:=h.moved g4 g1
 obtain ⟨a1,a2,a3,a4,a5,a6⟩:=h2.forPut
 exact ⟨a1,a2,a3,a4,a5,a6,h2.nd.row⟩
end Go.Proofs.YtgpcpbmacdhlkaaGreatDoor
