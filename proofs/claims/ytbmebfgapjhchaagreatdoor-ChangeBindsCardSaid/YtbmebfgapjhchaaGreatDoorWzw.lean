/- A region that draws its order,whose last operation is a store into a cell that the region has read: a condition on the world holds till that store. -/
import Derived.Test.YtbmebfgapjhchaaGreatDoorKa
import Derived.Test.YtbmebfgapjhchaaGreatDoorProg
import Derived.OrdersHeld
import Derived.RegionTactic
import Derived.StillTail
namespace Go.Proofs.YtbmebfgapjhchaaGreatDoor
open Go.RowKit
section
variable {P:Program} {ops:Array Oper} {Q:Exit→Act→World→Prop} {S:World→Prop} {z:Nat}
def wpTo (P:Program) (ops:Array Oper) (Q:Exit→Act→World→Prop) (S:World→Prop) (z:Nat):Nat→Array Bool→Act→World→Prop
 | 0,d,a,w=>Region.ready .any ops d=[]∧Q .normal a w
 | n+1,d,a,w=>(Region.ready .any ops d=[]→Q .normal a w)∧∀ j∈Region.ready .any ops d,wpOp P ops Q j (fun a' w'=>(j≠z→S w')∧wpTo P ops Q S z n (d.setIfInBounds j true) a' w') a w
theorem wpTo_any (n:Nat):∀ (d:Array Bool) (a:Act) (w:World),wpTo P ops Q S z n d a w→wpAny P .any ops Q n d a w:=by
 induction n with
 | zero=>intro d a w h;exact h
 | succ n ih=>intro d a w h;exact ⟨h.1,fun j hj=>wpOp_mono (fun a' w' hk=>ih _ _ _ hk.2) (h.2 j hj)⟩
theorem wpTo_start {id:Nat} {a:Act} {w:World} (hm:P.follows .mixedOrders=true) (h:wpTo P ops Q S z ops.size (Array.replicate ops.size false) a w.drew):(Code.region id ops true).wp P Q a w :=
 wp_region_any hm (wpTo_any _ _ _ _ h)
theorem wpTo_end {d:Array Bool} {a:Act} {w:World} {n:Nat} (hr:Region.ready .any ops d=[]) (h:Q .normal a w):wpTo P ops Q S z n d a w:=by
 cases n with
 | zero=>exact ⟨hr,h⟩
 | succ n=>exact ⟨fun _=>h,fun j hj=>by rw [hr] at hj;cases hj⟩
theorem not_yet {i j:Nat} {d:Array Bool} (hw:Region.waitsFor .any ops j i=true) (hi:i∈Region.ready .any ops d):j∉Region.ready .any ops d:=by
 intro hj
 obtain ⟨oj,ho,e,he,hb,rfl⟩:=Region.waitsFor_spec hw
 obtain ⟨-,o2,ho2,hall⟩:=mem_ready.1 hj
 obtain rfl:oj=o2:=Option.some.inj (ho.symm.trans ho2)
 have h1:=hall e he hb
 have h0:=(mem_ready.1 hi).1
 rw [Array.getD_eq_getD_getElem?] at h0 h1
 cases hx:d[e.on]? with
 | none=>rw [hx] at h1;cases h1
 | some b=>rw [hx] at h0 h1;simp at h0 h1;rw [h0] at h1;cases h1
theorem wpTo_first {i:Nat} {oi:Oper} {v:Value} (hi:ops[i]?=some oi) (hs:Region.noSelect ops=true) (hz:Region.waitsFor .any ops z i=true) (hQ:∀ c a w,Q (.panic c) (a.put oi.dst v) w→Q (.panic c) a w) (n:Nat) :
  ∀ (d:Array Bool) (a:Act) (w:World),(∀ j oj,ops[j]?=some oj→j≠i→d.getD j true=false→(∀ e∈oj.after,Region.binds .any e=true→e.on≠i)→oi.apart ops oj=true) →
   i∈Region.ready .any ops d→YieldsIf P ops S oi v a→S w→wpTo P ops Q S z n (d.setIfInBounds i true) (a.put oi.dst v) w→wpTo P ops Q S z (n+1) d a w:=by
 have hsel:=Region.noSelect_spec hs
 induction n with
 | zero =>
  intro d a w _ hr hy hS H
  refine ⟨fun h0=>(by rw [h0] at hr;cases hr),fun j hj=>?_⟩
  by_cases e:j=i
  ·subst e;exact hy.wpOp hi hS ⟨fun _=>hS,H⟩
  ·have h1:=ready_mono hj e
   rw [H.1] at h1;cases h1
 | succ n ih =>
  intro d a w hf hr hy hS H
  refine ⟨fun h0=>(by rw [h0] at hr;cases hr),fun j hj=>?_⟩
  by_cases e:j=i
  ·subst e;exact hy.wpOp hi hS ⟨fun _=>hS,H⟩
  ·have hjz:j≠z:=fun e'=>not_yet hz hr (e' ▸ hj)
   have hno:∀ oj,ops[j]?=some oj→∀ e∈oj.after,Region.binds .any e=true→e.on≠i:=fun oj ho e he hb he' =>
    not_yet (ops:=ops) (j:=j) (i:=i) (by unfold Region.waitsFor;rw [ho];exact Array.any_eq_true'.2 ⟨e,he,by simp [hb,he']⟩) hr hj
   obtain ⟨hun,oj,ho,-⟩:=mem_ready.1 hj
   have h2:=wpOp_putIf ho (hf j oj ho e hun (hno oj ho)) (fun cs b=>hsel i oi cs b hi) (fun cs b=>hsel j oj cs b ho) hQ hy (H.2 j (ready_mono hj e))
   refine wpOp_mono (fun a' w' h3=>⟨fun _=>h3.2.1 hjz,ih _ _ _ ?_ (ready_mono hr (Ne.symm e)) h3.1 (h3.2.1 hjz) ?_⟩) h2
   ·intro k ok hk hki hkun hkno
    refine hf k ok hk hki ?_ hkno
    by_cases ejk:j=k
    ·subst ejk;exact hun
    ·rw [getD_set_ne true ejk] at hkun;exact hkun
   ·rw [Array.setIfInBounds_comm _ _ e];exact h3.2.2
theorem wpTo_take {i dn:Nat} {oi:Oper} {v:Value} {n:Nat} {d:Array Bool} {a:Act} {w:World} (hi:ops[i]?=some oi) (hd:oi.dst=some dn) (hs:Region.noSelect ops=true) (hz:Region.waitsFor .any ops z i=true) (hf:Region.free .any ops d i=true) (hr:(Region.ready .any ops d).contains i=true)
  (hQ:∀ c a w,Q (.panic c) (a.put (some dn) v) w→Q (.panic c) a w) (hy:YieldsIf P ops S oi v a) (hS:S w) (h:wpTo P ops Q S z n (d.setIfInBounds i true) (a.put (some dn) v) w):wpTo P ops Q S z (n+1) d a w :=
 wpTo_first hi hs hz (by rw [hd];exact hQ) n d a w (Region.free_spec hi hf) (by simpa using hr) hy hS (by rw [hd];exact h)
theorem wpTo_nx0 {dn:Nat} {oi:Oper} {v:Value} {n:Nat} {d:Array Bool} {a:Act} {w:World} (hi:ops[ops.size - (n+1)]?=some oi) (hd:oi.dst=some dn) (hs:Region.noSelect ops=true) (hz:Region.waitsFor .any ops z (ops.size - (n+1))=true) (hf:Region.free .any ops d (ops.size - (n+1))=true) (hr:(Region.ready .any ops d).contains (ops.size - (n+1))=true)
  (hQ:∀ c a w,Q (.panic c) (a.put (some dn) v) w→Q (.panic c) a w) (hy:YieldsIf P ops S oi v a) (hS:S w) (h:wpTo P ops Q S z n (d.setIfInBounds (ops.size - (n+1)) true) (a.put (some dn) v) w):wpTo P ops Q S z (n+1) d a w:=wpTo_take hi hd hs hz hf hr hQ hy hS h
theorem wpTo_one {i:Nat} {o:Oper} {n:Nat} {d:Array Bool} {a:Act} {w:World} (hr:Region.ready .any ops d=[i]) (ho:ops[i]?=some o)
  (h:∀ K:Act→World→Prop,Hid (∀ a' w',(i≠z→S w')→((i≠z→S w')→wpTo P ops Q S z n (d.setIfInBounds i true) a' w')→K a' w')→if Region.wanted o (yielded ops a.tmps)=true then Oper.wp P o a w K Q else K (a.put o.dst undef) w):wpTo P ops Q S z (n+1) d a w:=by
 refine ⟨fun h0=>(by rw [hr] at h0;cases h0),fun j hj=>?_⟩
 rw [hr] at hj
 obtain rfl:j=i:=by simpa using hj
 exact wpOp_step ho (fun K' hK=>h K' (fun a' w' h1 h2=>hK a' w' ⟨h1,h2 h1⟩))
end
end Go.Proofs.YtbmebfgapjhchaaGreatDoor
/- A region that draws its order: a condition on the world that holds behind every operation. -/
namespace Go.Proofs.YtbmebfgapjhchaaGreatDoor
open Go.RowKit
section
variable {P:Program} {ops:Array Oper} {Q:Exit→Act→World→Prop} {S:World→Prop} {z:Nat}
theorem wpTo_firstA {i:Nat} {oi:Oper} {v:Value} (hi:ops[i]?=some oi) (hs:Region.noSelect ops=true) (hz:ops.size≤z) (hQ:∀ c a w,Q (.panic c) (a.put oi.dst v) w→Q (.panic c) a w) (n:Nat) :
  ∀ (d:Array Bool) (a:Act) (w:World),(∀ j oj,ops[j]?=some oj→j≠i→d.getD j true=false→(∀ e∈oj.after,Region.binds .any e=true→e.on≠i)→oi.apart ops oj=true) →
   i∈Region.ready .any ops d→YieldsIf P ops S oi v a→S w→wpTo P ops Q S z n (d.setIfInBounds i true) (a.put oi.dst v) w→wpTo P ops Q S z (n+1) d a w:=by
 have hsel:=Region.noSelect_spec hs
 induction n with
 | zero =>
  intro d a w _ hr hy hS H
  refine ⟨fun h0=>(by rw [h0] at hr;cases hr),fun j hj=>?_⟩
  by_cases e:j=i
  ·subst e;exact hy.wpOp hi hS ⟨fun _=>hS,H⟩
  ·have h1:=ready_mono hj e
   rw [H.1] at h1;cases h1
 | succ n ih =>
  intro d a w hf hr hy hS H
  refine ⟨fun h0=>(by rw [h0] at hr;cases hr),fun j hj=>?_⟩
  by_cases e:j=i
  ·subst e;exact hy.wpOp hi hS ⟨fun _=>hS,H⟩
  ·have hjz:j≠z:=fun e'=>by
    obtain ⟨-,o2,ho2,-⟩:=mem_ready.1 hj
    have:=(Array.getElem?_eq_some_iff.1 ho2).1
    omega
   have hno:∀ oj,ops[j]?=some oj→∀ e∈oj.after,Region.binds .any e=true→e.on≠i:=fun oj ho e he hb he' =>
    not_yet (ops:=ops) (j:=j) (i:=i) (by unfold Region.waitsFor;rw [ho];exact Array.any_eq_true'.2 ⟨e,he,by simp [hb,he']⟩) hr hj
   obtain ⟨hun,oj,ho,-⟩:=mem_ready.1 hj
   have h2:=wpOp_putIf ho (hf j oj ho e hun (hno oj ho)) (fun cs b=>hsel i oi cs b hi) (fun cs b=>hsel j oj cs b ho) hQ hy (H.2 j (ready_mono hj e))
   refine wpOp_mono (fun a' w' h3=>⟨fun _=>h3.2.1 hjz,ih _ _ _ ?_ (ready_mono hr (Ne.symm e)) h3.1 (h3.2.1 hjz) ?_⟩) h2
   ·intro k ok hk hki hkun hkno
    refine hf k ok hk hki ?_ hkno
    by_cases ejk:j=k
    ·subst ejk;exact hun
    ·rw [getD_set_ne true ejk] at hkun;exact hkun
   ·rw [Array.setIfInBounds_comm _ _ e];exact h3.2.2
theorem wpTo_takeA {i dn:Nat} {oi:Oper} {v:Value} {n:Nat} {d:Array Bool} {a:Act} {w:World} (hi:ops[i]?=some oi) (hd:oi.dst=some dn) (hs:Region.noSelect ops=true) (hz:ops.size≤z) (hf:Region.free .any ops d i=true) (hr:(Region.ready .any ops d).contains i=true)
  (hQ:∀ c a w,Q (.panic c) (a.put (some dn) v) w→Q (.panic c) a w) (hy:YieldsIf P ops S oi v a) (hS:S w) (h:wpTo P ops Q S z n (d.setIfInBounds i true) (a.put (some dn) v) w):wpTo P ops Q S z (n+1) d a w :=
 wpTo_firstA hi hs hz (by rw [hd];exact hQ) n d a w (Region.free_spec hi hf) (by simpa using hr) hy hS (by rw [hd];exact h)
theorem wpTo_nx {dn:Nat} {oi:Oper} {v:Value} {n:Nat} {d:Array Bool} {a:Act} {w:World} (hi:ops[ops.size - (n+1)]?=some oi) (hd:oi.dst=some dn) (hs:Region.noSelect ops=true) (hz:ops.size≤z) (hf:Region.free .any ops d (ops.size - (n+1))=true) (hr:(Region.ready .any ops d).contains (ops.size - (n+1))=true)
  (hQ:∀ c a w,Q (.panic c) (a.put (some dn) v) w→Q (.panic c) a w) (hy:YieldsIf P ops S oi v a) (hS:S w) (h:wpTo P ops Q S z n (d.setIfInBounds (ops.size - (n+1)) true) (a.put (some dn) v) w):wpTo P ops Q S z (n+1) d a w:=wpTo_takeA hi hd hs hz hf hr hQ hy hS h
end
end Go.Proofs.YtbmebfgapjhchaaGreatDoor
/- A region that draws its order,whose last operations (Z) store into cells that the region has read: a condition on the world holds till these. -/
namespace Go.Proofs.YtbmebfgapjhchaaGreatDoor
open Go.RowKit
section
variable {P:Program} {ops:Array Oper} {Q:Exit→Act→World→Prop} {S:World→Prop} {Z:Nat→Bool}
def wpZ (P:Program) (ops:Array Oper) (Q:Exit→Act→World→Prop) (S:World→Prop) (Z:Nat→Bool):Nat→Array Bool→Act→World→Prop
 | 0,d,a,w=>Region.ready .any ops d=[]∧Q .normal a w
 | n+1,d,a,w=>(Region.ready .any ops d=[]→Q .normal a w)∧∀ j∈Region.ready .any ops d,wpOp P ops Q j (fun a' w'=>(Z j=false→S w')∧wpZ P ops Q S Z n (d.setIfInBounds j true) a' w') a w
theorem wpZ_any (n:Nat):∀ (d:Array Bool) (a:Act) (w:World),wpZ P ops Q S Z n d a w→wpAny P .any ops Q n d a w:=by
 induction n with
 | zero=>intro d a w h;exact h
 | succ n ih=>intro d a w h;exact ⟨h.1,fun j hj=>wpOp_mono (fun a' w' hk=>ih _ _ _ hk.2) (h.2 j hj)⟩
theorem wpZ_start {id:Nat} {a:Act} {w:World} (hm:P.follows .mixedOrders=true) (h:wpZ P ops Q S Z ops.size (Array.replicate ops.size false) a w.drew):(Code.region id ops true).wp P Q a w :=
 wp_region_any hm (wpZ_any _ _ _ _ h)
theorem wpZ_end {d:Array Bool} {a:Act} {w:World} {n:Nat} (hr:Region.ready .any ops d=[]) (h:Q .normal a w):wpZ P ops Q S Z n d a w:=by
 cases n with
 | zero=>exact ⟨hr,h⟩
 | succ n=>exact ⟨fun _=>h,fun j hj=>by rw [hr] at hj;cases hj⟩
theorem wpZ_first {i:Nat} {oi:Oper} {v:Value} (hi:ops[i]?=some oi) (hs:Region.noSelect ops=true) (hz:∀ z,Z z=true→Region.waitsFor .any ops z i=true) (hQ:∀ c a w,Q (.panic c) (a.put oi.dst v) w→Q (.panic c) a w) (n:Nat) :
  ∀ (d:Array Bool) (a:Act) (w:World),(∀ j oj,ops[j]?=some oj→j≠i→d.getD j true=false→(∀ e∈oj.after,Region.binds .any e=true→e.on≠i)→oi.apart ops oj=true) →
   i∈Region.ready .any ops d→YieldsIf P ops S oi v a→S w→wpZ P ops Q S Z n (d.setIfInBounds i true) (a.put oi.dst v) w→wpZ P ops Q S Z (n+1) d a w:=by
 have hsel:=Region.noSelect_spec hs
 induction n with
 | zero =>
  intro d a w _ hr hy hS H
  refine ⟨fun h0=>(by rw [h0] at hr;cases hr),fun j hj=>?_⟩
  by_cases e:j=i
  ·subst e;exact hy.wpOp hi hS ⟨fun _=>hS,H⟩
  ·have h1:=ready_mono hj e
   rw [H.1] at h1;cases h1
 | succ n ih =>
  intro d a w hf hr hy hS H
  refine ⟨fun h0=>(by rw [h0] at hr;cases hr),fun j hj=>?_⟩
  by_cases e:j=i
  ·subst e;exact hy.wpOp hi hS ⟨fun _=>hS,H⟩
  ·have hjz:Z j=false:=by
    cases hb:Z j with
    | false=>rfl
    | true=>exact absurd hj (not_yet (hz j hb) hr)
   have hno:∀ oj,ops[j]?=some oj→∀ e∈oj.after,Region.binds .any e=true→e.on≠i:=fun oj ho e he hb he' =>
    not_yet (ops:=ops) (j:=j) (i:=i) (by unfold Region.waitsFor;rw [ho];exact Array.any_eq_true'.2 ⟨e,he,by simp [hb,he']⟩) hr hj
   obtain ⟨hun,oj,ho,-⟩:=mem_ready.1 hj
   have h2:=wpOp_putIf ho (hf j oj ho e hun (hno oj ho)) (fun cs b=>hsel i oi cs b hi) (fun cs b=>hsel j oj cs b ho) hQ hy (H.2 j (ready_mono hj e))
   refine wpOp_mono (fun a' w' h3=>⟨fun _=>h3.2.1 hjz,ih _ _ _ ?_ (ready_mono hr (Ne.symm e)) h3.1 (h3.2.1 hjz) ?_⟩) h2
   ·intro k ok hk hki hkun hkno
    refine hf k ok hk hki ?_ hkno
    by_cases ejk:j=k
    ·subst ejk;exact hun
    ·rw [getD_set_ne true ejk] at hkun;exact hkun
   ·rw [Array.setIfInBounds_comm _ _ e];exact h3.2.2
theorem wpZ_take {i dn:Nat} {oi:Oper} {v:Value} {n:Nat} {d:Array Bool} {a:Act} {w:World} (hi:ops[i]?=some oi) (hd:oi.dst=some dn) (hs:Region.noSelect ops=true) (hz:∀ z,Z z=true→Region.waitsFor .any ops z i=true) (hf:Region.free .any ops d i=true) (hr:(Region.ready .any ops d).contains i=true)
  (hQ:∀ c a w,Q (.panic c) (a.put (some dn) v) w→Q (.panic c) a w) (hy:YieldsIf P ops S oi v a) (hS:S w) (h:wpZ P ops Q S Z n (d.setIfInBounds i true) (a.put (some dn) v) w):wpZ P ops Q S Z (n+1) d a w :=
 wpZ_first hi hs hz (by rw [hd];exact hQ) n d a w (Region.free_spec hi hf) (by simpa using hr) hy hS (by rw [hd];exact h)
theorem wpZ_one {i:Nat} {o:Oper} {n:Nat} {d:Array Bool} {a:Act} {w:World} (hr:Region.ready .any ops d=[i]) (ho:ops[i]?=some o)
  (h:∀ K:Act→World→Prop,Hid (∀ a' w',(Z i=false→S w')→((Z i=false→S w')→wpZ P ops Q S Z n (d.setIfInBounds i true) a' w')→K a' w')→if Region.wanted o (yielded ops a.tmps)=true then Oper.wp P o a w K Q else K (a.put o.dst undef) w):wpZ P ops Q S Z (n+1) d a w:=by
 refine ⟨fun h0=>(by rw [hr] at h0;cases h0),fun j hj=>?_⟩
 rw [hr] at hj
 obtain rfl:j=i:=by simpa using hj
 exact wpOp_step ho (fun K' hK=>h K' (fun a' w' h1 h2=>hK a' w' ⟨h1,h2 h1⟩))
end
end Go.Proofs.YtbmebfgapjhchaaGreatDoor
