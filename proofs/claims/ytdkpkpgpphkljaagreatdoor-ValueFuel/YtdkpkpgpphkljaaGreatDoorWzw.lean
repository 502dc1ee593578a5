/- A region that draws its order,whose last operation is a store into a cell that the region has read: a condition on the world holds till that store. -/
import Derived.Test.YtdkpkpgpphkljaaGreatDoorA
import Derived.Test.YtdkpkpgpphkljaaGreatDoorProg
import Derived.OrdersHeld
import Derived.StillTail
namespace Go.Proofs.YtdkpkpgpphkljaaGreatDoor
open Go.RowKit
section
variable{a:Act}{w:World}{d:Array Bool}{n i dn:Nat}{oi o:Oper}{v:Value}
section
variable{P:Program}{ops:Array Oper}{Q:Exit→Act→World→Prop}{S:World→Prop}{z:Nat}
def iQ(P:Program)(ops:Array Oper)(Q:Exit→Act→World→Prop)(S:World→Prop)(z:Nat):Nat→Array Bool→Act→World→Prop
 | 0,d,a,w=>Region.ready .any ops d=[]∧Q .normal a w
 | n+1,d,a,w=>(Region.ready .any ops d=[]→Q .normal a w)∧∀ j∈Region.ready .any ops d,wpOp P ops Q j (fun a' w'=>(j≠z→S w')∧iQ P ops Q S z n (d.setIfInBounds j true) a' w') a w
theorem R8(n:Nat):∀(d:Array Bool) (a:Act) (w:World),iQ P ops Q S z n d a w→wpAny P .any ops Q n d a w:=by
 induction n with
 | zero=>intro d a w h;exact h
 | succ n ih=>intro d a w h;exact⟨h.1,fun j hj=>wpOp_mono (fun a' w' hk=>ih _ _ _ hk.2) (h.2 j hj)⟩
theorem bH{id:Nat}(hm:P.follows .mixedOrders=true)(h:iQ P ops Q S z ops.size (Array.replicate ops.size false) a w.drew):(Code.region id ops true).wp P Q a w :=
 wp_region_any hm (R8 _ _ _ _ h)
theorem R9(hr:Region.ready .any ops d=[])(h:Q .normal a w):iQ P ops Q S z n d a w:=by
 cases n with
 | zero=>exact⟨hr,h⟩
 | succ n=>exact⟨fun _=>h,fun j hj=>by rw[hr] at hj;cases hj⟩
theorem rA{j:Nat}(hw:Region.waitsFor .any ops j i=true)(hi:i∈Region.ready .any ops d):j∉Region.ready .any ops d:=by
 intro hj;obtain⟨oj,ho,e,he,hb,rfl⟩:=Region.waitsFor_spec hw;obtain⟨-,o2,ho2,hall⟩:=kV.1 hj;obtain rfl:oj=o2:=bK (ho.symm.trans ho2);have h1:=hall e he hb;have h0:=(kV.1 hi).1;rw[gY] at h0 h1;cases hx:d[e.on]? with
 | none=>rw[hx] at h1;cases h1
 | some b=>rw[hx] at h0 h1;simp at h0 h1;rw[h0] at h1;cases h1
theorem J4(hi:ops[i]?=some oi)(hs:Region.noSelect ops=true)(hz:Region.waitsFor .any ops z i=true)(hQ:∀ c a w,Q (.panic c) (a.put oi.dst v) w→Q (.panic c) a w)(n:Nat) :
  ∀(d:Array Bool) (a:Act) (w:World),(∀ j oj,ops[j]?=some oj→j≠i→d.getD j true=false→(∀ e∈oj.after,Region.binds .any e=true→e.on≠i)→oi.apart ops oj=true) →
   i∈Region.ready .any ops d→YieldsIf P ops S oi v a→S w→iQ P ops Q S z n (d.setIfInBounds i true) (a.put oi.dst v) w→iQ P ops Q S z (n+1) d a w:=by
 have hsel:=nU hs
 induction n with
 | zero =>
  intro d a w _ hr hy hS H;refine⟨fun h0=>(by rw[h0] at hr;cases hr),fun j hj=>?_⟩;by_cases e:j=i
  ·subst e;exact hy.wpOp hi hS ⟨fun _=>hS,H⟩
  ·have h1:=iO hj e
   rw[H.1] at h1;cases h1
 | succ n ih =>
  intro d a w hf hr hy hS H;refine⟨fun h0=>(by rw[h0] at hr;cases hr),fun j hj=>?_⟩;by_cases e:j=i
  ·subst e;exact hy.wpOp hi hS ⟨fun _=>hS,H⟩
  ·have hjz:j≠z:=fun e'=>rA hz hr (e' ▸ hj)
   have hno:∀ oj,ops[j]?=some oj→∀ e∈oj.after,Region.binds .any e=true→e.on≠i:=fun oj ho e he hb he' =>
    rA (ops:=ops) (j:=j) (i:=i) (by unfold Region.waitsFor;rw[ho];exact jE.2 ⟨e,he,by simp[hb,he']⟩) hr hj
   obtain⟨hun,oj,ho,-⟩:=kV.1 hj;have h2:=wpOp_putIf ho (hf j oj ho e hun (hno oj ho)) (fun cs b=>hsel i oi cs b hi) (fun cs b=>hsel j oj cs b ho) hQ hy (H.2 j (iO hj e));refine wpOp_mono (fun a' w' h3=>⟨fun _=>h3.2.1 hjz,ih _ _ _ ?_ (iO hr (iG e)) h3.1 (h3.2.1 hjz) ?_⟩) h2
   ·intro k ok hk hki vE D9
    refine hf k ok hk hki ?_ D9;by_cases KS:j=k
    ·subst KS;exact hun
    ·rw[getD_set_ne true KS] at vE;exact vE
   ·rw[ko _ _ e];exact h3.2.2
theorem jh(hi:ops[i]?=some oi)(hd:oi.dst=some dn)(hs:Region.noSelect ops=true)(hz:Region.waitsFor .any ops z i=true)(hf:Region.free .any ops d i=true)(hr:(Region.ready .any ops d).contains i=true)
  (hQ:∀ c a w,Q (.panic c) (a.put (some dn) v) w→Q (.panic c) a w) (hy:YieldsIf P ops S oi v a) (hS:S w) (h:iQ P ops Q S z n (d.setIfInBounds i true) (a.put (some dn) v) w):iQ P ops Q S z (n+1) d a w :=
 J4 hi hs hz (by rw[hd];exact hQ) n d a w (og hi hf) (by simpa using hr) hy hS (by rw[hd];exact h)
theorem R_(hi:ops[ops.size - (n+1)]?=some oi)(hd:oi.dst=some dn)(hs:Region.noSelect ops=true)(hz:Region.waitsFor .any ops z (ops.size - (n+1))=true)(hf:Region.free .any ops d (ops.size - (n+1))=true)(hr:(Region.ready .any ops d).contains (ops.size - (n+1))=true)
  (hQ:∀ c a w,Q (.panic c) (a.put (some dn) v) w→Q (.panic c) a w) (hy:YieldsIf P ops S oi v a) (hS:S w) (h:iQ P ops Q S z n (d.setIfInBounds (ops.size - (n+1)) true) (a.put (some dn) v) w):iQ P ops Q S z (n+1) d a w:=jh hi hd hs hz hf hr hQ hy hS h
theorem Sc(hr:Region.ready .any ops d=[i])(ho:ops[i]?=some o)
  (h:∀ K:Act→World→Prop,Hid (∀ a' w',(i≠z→S w')→((i≠z→S w')→iQ P ops Q S z n (d.setIfInBounds i true) a' w')→K a' w')→if Region.wanted o (yielded ops a.tmps)=true then Oper.wp P o a w K Q else K (a.put o.dst undef) w):iQ P ops Q S z (n+1) d a w:=by
 refine⟨fun h0=>(by rw[hr] at h0;cases h0),fun j hj=>?_⟩;rw[hr] at hj;obtain rfl:j=i:=by simpa using hj
 exact wpOp_step ho (fun K' hK=>h K' (fun a' w' h1 h2=>hK a' w' ⟨h1,h2 h1⟩))
theorem OH(i:Nat)(hS:S w)(h:iQ P ops Q S z n (d.setIfInBounds i true) (a.put (some dn) v) w)(hi:ops[i]?=some oi:=by exact rfl)(hd:oi.dst=some dn:=by exact rfl)(hs:Region.noSelect ops=true:=by kernel_rfl)(hz:Region.waitsFor .any ops z i=true:=by kernel_rfl)(hf:Region.free .any ops d i=true:=by kernel_rfl)(hr:(Region.ready .any ops d).contains i=true:=by kernel_rfl)(hQ:∀ c a w,Q (.panic c) (a.put (some dn) v) w→Q (.panic c) a w:=by exact fun _ _ _ h=>h)(hy:YieldsIf P ops S oi v a:=by exact Or.inl ⟨by rfl,by intro wx hSw;(try dsimp only at hSw);go_simp;try(with_reducible rfl)⟩):iQ P ops Q S z (n+1) d a w:=jh hi hd hs hz hf hr hQ hy hS h
theorem qD(hS:S w)(h:iQ P ops Q S z n (d.setIfInBounds (ops.size - (n+1)) true) (a.put (some dn) v) w)(hi:ops[(ops.size - (n+1))]?=some oi:=by exact rfl)(hd:oi.dst=some dn:=by exact rfl)(hs:Region.noSelect ops=true:=by kernel_rfl)(hz:Region.waitsFor .any ops z (ops.size - (n+1))=true:=by kernel_rfl)(hf:Region.free .any ops d (ops.size - (n+1))=true:=by kernel_rfl)(hr:(Region.ready .any ops d).contains (ops.size - (n+1))=true:=by kernel_rfl)(hQ:∀ c a w,Q (.panic c) (a.put (some dn) v) w→Q (.panic c) a w:=by exact fun _ _ _ h=>h)(hy:YieldsIf P ops S oi v a:=by exact Or.inl ⟨by rfl,by intro wx hSw;(try dsimp only at hSw);go_simp;try(with_reducible rfl)⟩):iQ P ops Q S z (n+1) d a w:=R_ hi hd hs hz hf hr hQ hy hS h
theorem bD(i:Nat)
  (h:∀ K:Act→World→Prop,Hid (∀ a' w',(i≠z→S w')→((i≠z→S w')→iQ P ops Q S z n (d.setIfInBounds i true) a' w')→K a' w')→if Region.wanted o (yielded ops a.tmps)=true then Oper.wp P o a w K Q else K (a.put o.dst undef) w) (hr:Region.ready .any ops d=[i]:=by kernel_rfl) (ho:ops[i]?=some o:=by exact rfl):iQ P ops Q S z (n+1) d a w:=Sc hr ho h
theorem fB(h:Q .normal a w)(hr:Region.ready .any ops d=[]:=by kernel_rfl):iQ P ops Q S z n d a w:=R9 hr h
end
end
section
variable{a:Act}{w:World}{d:Array Bool}{n i:Nat}{oi:Oper}{v:Value}
section
variable{P:Program}{ops:Array Oper}{Q:Exit→Act→World→Prop}{S:World→Prop}{Z:Nat→Bool}
def KV(P:Program)(ops:Array Oper)(Q:Exit→Act→World→Prop)(S:World→Prop)(Z:Nat→Bool):Nat→Array Bool→Act→World→Prop
 | 0,d,a,w=>Region.ready .any ops d=[]∧Q .normal a w
 | n+1,d,a,w=>(Region.ready .any ops d=[]→Q .normal a w)∧∀ j∈Region.ready .any ops d,wpOp P ops Q j (fun a' w'=>(Z j=false→S w')∧KV P ops Q S Z n (d.setIfInBounds j true) a' w') a w
theorem VW(n:Nat):∀(d:Array Bool) (a:Act) (w:World),KV P ops Q S Z n d a w→wpAny P .any ops Q n d a w:=by
 induction n with
 | zero=>intro d a w h;exact h
 | succ n ih=>intro d a w h;exact⟨h.1,fun j hj=>wpOp_mono (fun a' w' hk=>ih _ _ _ hk.2) (h.2 j hj)⟩
theorem Co{id:Nat}(hm:P.follows .mixedOrders=true)(h:KV P ops Q S Z ops.size (Array.replicate ops.size false) a w.drew):(Code.region id ops true).wp P Q a w :=
 wp_region_any hm (VW _ _ _ _ h)
theorem Ee(hr:Region.ready .any ops d=[])(h:Q .normal a w):KV P ops Q S Z n d a w:=by
 cases n with
 | zero=>exact⟨hr,h⟩
 | succ n=>exact⟨fun _=>h,fun j hj=>by rw[hr] at hj;cases hj⟩
theorem Nv(hi:ops[i]?=some oi)(hs:Region.noSelect ops=true)(hz:∀ z,Z z=true→Region.waitsFor .any ops z i=true)(hQ:∀ c a w,Q (.panic c) (a.put oi.dst v) w→Q (.panic c) a w)(n:Nat) :
  ∀(d:Array Bool) (a:Act) (w:World),(∀ j oj,ops[j]?=some oj→j≠i→d.getD j true=false→(∀ e∈oj.after,Region.binds .any e=true→e.on≠i)→oi.apart ops oj=true) →
   i∈Region.ready .any ops d→YieldsIf P ops S oi v a→S w→KV P ops Q S Z n (d.setIfInBounds i true) (a.put oi.dst v) w→KV P ops Q S Z (n+1) d a w:=by
 have hsel:=nU hs
 induction n with
 | zero =>
  intro d a w _ hr hy hS H;refine⟨fun h0=>(by rw[h0] at hr;cases hr),fun j hj=>?_⟩;by_cases e:j=i
  ·subst e;exact hy.wpOp hi hS ⟨fun _=>hS,H⟩
  ·have h1:=iO hj e
   rw[H.1] at h1;cases h1
 | succ n ih =>
  intro d a w hf hr hy hS H;refine⟨fun h0=>(by rw[h0] at hr;cases hr),fun j hj=>?_⟩;by_cases e:j=i
  ·subst e;exact hy.wpOp hi hS ⟨fun _=>hS,H⟩
  ·have hjz:Z j=false:=by
    cases hb:Z j with
    | false=>rfl
    | true=>exact absurd hj (rA (hz j hb) hr)
   have hno:∀ oj,ops[j]?=some oj→∀ e∈oj.after,Region.binds .any e=true→e.on≠i:=fun oj ho e he hb he' =>
    rA (ops:=ops) (j:=j) (i:=i) (by unfold Region.waitsFor;rw[ho];exact jE.2 ⟨e,he,by simp[hb,he']⟩) hr hj
   obtain⟨hun,oj,ho,-⟩:=kV.1 hj;have h2:=wpOp_putIf ho (hf j oj ho e hun (hno oj ho)) (fun cs b=>hsel i oi cs b hi) (fun cs b=>hsel j oj cs b ho) hQ hy (H.2 j (iO hj e));refine wpOp_mono (fun a' w' h3=>⟨fun _=>h3.2.1 hjz,ih _ _ _ ?_ (iO hr (iG e)) h3.1 (h3.2.1 hjz) ?_⟩) h2
   ·intro k ok hk hki vE D9
    refine hf k ok hk hki ?_ D9;by_cases KS:j=k
    ·subst KS;exact hun
    ·rw[getD_set_ne true KS] at vE;exact vE
   ·rw[ko _ _ e];exact h3.2.2
theorem nO{dn:Nat}(hi:ops[i]?=some oi)(hd:oi.dst=some dn)(hs:Region.noSelect ops=true)(hz:∀ z,Z z=true→Region.waitsFor .any ops z i=true)(hf:Region.free .any ops d i=true)(hr:(Region.ready .any ops d).contains i=true)
  (hQ:∀ c a w,Q (.panic c) (a.put (some dn) v) w→Q (.panic c) a w) (hy:YieldsIf P ops S oi v a) (hS:S w) (h:KV P ops Q S Z n (d.setIfInBounds i true) (a.put (some dn) v) w):KV P ops Q S Z (n+1) d a w :=
 Nv hi hs hz (by rw[hd];exact hQ) n d a w (og hi hf) (by simpa using hr) hy hS (by rw[hd];exact h)
theorem t_{o:Oper}(hr:Region.ready .any ops d=[i])(ho:ops[i]?=some o)
  (h:∀ K:Act→World→Prop,Hid (∀ a' w',(Z i=false→S w')→((Z i=false→S w')→KV P ops Q S Z n (d.setIfInBounds i true) a' w')→K a' w')→if Region.wanted o (yielded ops a.tmps)=true then Oper.wp P o a w K Q else K (a.put o.dst undef) w):KV P ops Q S Z (n+1) d a w:=by
 refine⟨fun h0=>(by rw[hr] at h0;cases h0),fun j hj=>?_⟩;rw[hr] at hj;obtain rfl:j=i:=by simpa using hj
 exact wpOp_step ho (fun K' hK=>h K' (fun a' w' h1 h2=>hK a' w' ⟨h1,h2 h1⟩))
end
end
section
variable{i dn n:Nat}{oi:Oper}{v:Value}{d:Array Bool}{a:Act}{w:World}
section
variable{P:Program}{ops:Array Oper}{Q:Exit→Act→World→Prop}{S:World→Prop}{z:Nat}
theorem H_(hi:ops[i]?=some oi)(hs:Region.noSelect ops=true)(hz:ops.size≤z)(hQ:∀ c a w,Q (.panic c) (a.put oi.dst v) w→Q (.panic c) a w)(n:Nat) :
  ∀(d:Array Bool) (a:Act) (w:World),(∀ j oj,ops[j]?=some oj→j≠i→d.getD j true=false→(∀ e∈oj.after,Region.binds .any e=true→e.on≠i)→oi.apart ops oj=true) →
   i∈Region.ready .any ops d→YieldsIf P ops S oi v a→S w→iQ P ops Q S z n (d.setIfInBounds i true) (a.put oi.dst v) w→iQ P ops Q S z (n+1) d a w:=by
 have hsel:=nU hs
 induction n with
 | zero =>
  intro d a w _ hr hy hS H;refine⟨fun h0=>(by rw[h0] at hr;cases hr),fun j hj=>?_⟩;by_cases e:j=i
  ·subst e;exact hy.wpOp hi hS ⟨fun _=>hS,H⟩
  ·have h1:=iO hj e
   rw[H.1] at h1;cases h1
 | succ n ih =>
  intro d a w hf hr hy hS H;refine⟨fun h0=>(by rw[h0] at hr;cases hr),fun j hj=>?_⟩;by_cases e:j=i
  ·subst e;exact hy.wpOp hi hS ⟨fun _=>hS,H⟩
  ·have hjz:j≠z:=fun e'=>by
    obtain⟨-,o2,ho2,-⟩:=kV.1 hj;have:=(wM.1 ho2).1;omega
   have hno:∀ oj,ops[j]?=some oj→∀ e∈oj.after,Region.binds .any e=true→e.on≠i:=fun oj ho e he hb he' =>
    rA (ops:=ops) (j:=j) (i:=i) (by unfold Region.waitsFor;rw[ho];exact jE.2 ⟨e,he,by simp[hb,he']⟩) hr hj
   obtain⟨hun,oj,ho,-⟩:=kV.1 hj;have h2:=wpOp_putIf ho (hf j oj ho e hun (hno oj ho)) (fun cs b=>hsel i oi cs b hi) (fun cs b=>hsel j oj cs b ho) hQ hy (H.2 j (iO hj e));refine wpOp_mono (fun a' w' h3=>⟨fun _=>h3.2.1 hjz,ih _ _ _ ?_ (iO hr (iG e)) h3.1 (h3.2.1 hjz) ?_⟩) h2
   ·intro k ok hk hki vE D9
    refine hf k ok hk hki ?_ D9;by_cases KS:j=k
    ·subst KS;exact hun
    ·rw[getD_set_ne true KS] at vE;exact vE
   ·rw[ko _ _ e];exact h3.2.2
theorem AO(hi:ops[i]?=some oi)(hd:oi.dst=some dn)(hs:Region.noSelect ops=true)(hz:ops.size≤z)(hf:Region.free .any ops d i=true)(hr:(Region.ready .any ops d).contains i=true)
  (hQ:∀ c a w,Q (.panic c) (a.put (some dn) v) w→Q (.panic c) a w) (hy:YieldsIf P ops S oi v a) (hS:S w) (h:iQ P ops Q S z n (d.setIfInBounds i true) (a.put (some dn) v) w):iQ P ops Q S z (n+1) d a w :=
 H_ hi hs hz (by rw[hd];exact hQ) n d a w (og hi hf) (by simpa using hr) hy hS (by rw[hd];exact h)
theorem rC(hi:ops[ops.size - (n+1)]?=some oi)(hd:oi.dst=some dn)(hs:Region.noSelect ops=true)(hz:ops.size≤z)(hf:Region.free .any ops d (ops.size - (n+1))=true)(hr:(Region.ready .any ops d).contains (ops.size - (n+1))=true)
  (hQ:∀ c a w,Q (.panic c) (a.put (some dn) v) w→Q (.panic c) a w) (hy:YieldsIf P ops S oi v a) (hS:S w) (h:iQ P ops Q S z n (d.setIfInBounds (ops.size - (n+1)) true) (a.put (some dn) v) w):iQ P ops Q S z (n+1) d a w:=AO hi hd hs hz hf hr hQ hy hS h
theorem Es(i:Nat)(hS:S w)(h:iQ P ops Q S z n (d.setIfInBounds i true) (a.put (some dn) v) w)(hi:ops[i]?=some oi:=by exact rfl)(hd:oi.dst=some dn:=by exact rfl)(hs:Region.noSelect ops=true:=by kernel_rfl)(hz:ops.size≤z:=by decide)(hf:Region.free .any ops d i=true:=by kernel_rfl)(hr:(Region.ready .any ops d).contains i=true:=by kernel_rfl)(hQ:∀ c a w,Q (.panic c) (a.put (some dn) v) w→Q (.panic c) a w:=by exact fun _ _ _ h=>h)(hy:YieldsIf P ops S oi v a:=by exact Or.inl ⟨by rfl,by intro wx hSw;(try dsimp only at hSw);go_simp;try(with_reducible rfl)⟩):iQ P ops Q S z (n+1) d a w:=AO hi hd hs hz hf hr hQ hy hS h
theorem ou(hS:S w)(h:iQ P ops Q S z n (d.setIfInBounds (ops.size - (n+1)) true) (a.put (some dn) v) w)(hi:ops[(ops.size - (n+1))]?=some oi:=by exact rfl)(hd:oi.dst=some dn:=by exact rfl)(hs:Region.noSelect ops=true:=by kernel_rfl)(hz:ops.size≤z:=by decide)(hf:Region.free .any ops d (ops.size - (n+1))=true:=by kernel_rfl)(hr:(Region.ready .any ops d).contains (ops.size - (n+1))=true:=by kernel_rfl)(hQ:∀ c a w,Q (.panic c) (a.put (some dn) v) w→Q (.panic c) a w:=by exact fun _ _ _ h=>h)(hy:YieldsIf P ops S oi v a:=by exact Or.inl ⟨by rfl,by intro wx hSw;(try dsimp only at hSw);go_simp;try(with_reducible rfl)⟩):iQ P ops Q S z (n+1) d a w:=rC hi hd hs hz hf hr hQ hy hS h
end
end
section
variable{d:Array Bool}{n k i j dn:Nat}{oi:Oper}{v:Value}{a:Act}{w:World}
section
variable{P:Program}{ops:Array Oper}{Q:Exit→Act→World→Prop}{S:World→Prop}{z:Nat}
def WV(ops:Array Oper)(d:Array Bool):Prop:=∀(j:Nat) (o:Oper),ops[j]?=some o→d.getD j false=true→∀ e∈o.after,Region.binds .any e=true→d.getD e.on false=true
def MG(ops:Array Oper)(d:Array Bool):Bool:=(List.range ops.size).all fun j=>!d.getD j false||((ops[j]?).map fun o=>o.after.all fun e=>!Region.binds .any e||d.getD e.on false).getD true
theorem I8(h:MG ops d=true):WV ops d:=fun j o ho hd e he hb=>by
 have hj:j<ops.size:=(wM.1 ho).1;have h1:=List.all_eq_true.1 h j (gD.2 hj);rw[hd,ho] at h1;simp only[Bool.not_true,Bool.false_or,mE,Option.getD_some] at h1;have h2:=Array.all_eq_true'.1 h1 e he;rw[hb] at h2
 simpa using h2
def rch(ops:Array Oper):Nat→Nat→Nat→Bool
 | 0,_,_=>false
 | n+1,k,i=>((ops[k]?).map fun o=>o.after.any fun e=>Region.binds .any e&&(e.on==i||rch ops n e.on i)).getD false
theorem FK{d:Array Bool}(hc:WV ops d):∀(n k i:Nat),rch ops n k i=true→d.getD k false=true→d.getD i false=true
 | 0,_,_,h,_=>by cases h
 | n+1,k,i,h,hk=>by
  unfold rch at h;cases ho:ops[k]? with
  | none=>rw[ho] at h;cases h
  | some o =>
   rw[ho] at h;simp only[mE,Option.getD_some] at h;obtain⟨e,he,h1⟩:=jE.1 h;simp only[Bool.and_eq_true,gU,beq_iff_eq] at h1;have h2:=hc k o ho hk e he h1.1;rcases h1.2 with h3|h3
   ·rw[← h3];exact h2
   ·exact FK hc n e.on i h3 h2
theorem Cj(hc:WV ops d)(h:rch ops n k i=true)(hk:k∈Region.ready .any ops d):d.getD i false=true:=by
 obtain⟨-,o,ho,hall⟩:=kV.1 hk;cases n with
 | zero=>cases h
 | succ n =>
  unfold rch at h;rw[ho] at h;simp only[mE,Option.getD_some] at h;obtain⟨e,he,h1⟩:=jE.1 h;simp only[Bool.and_eq_true,gU,beq_iff_eq] at h1;have h2:=hall e he h1.1;rcases h1.2 with h3|h3
  ·rw[← h3];exact h2
  ·exact FK hc n e.on i h3 h2
theorem PX(h:d.getD k false=true):(d.setIfInBounds j true).getD k false=true:=by
 rw[gY] at h ⊢;rw[mG]
 split
 ·next e=>subst e;split;rfl;next hn=>rw[qW (by omega)] at h;exact h
 ·exact h
theorem WV.set(hc:WV ops d)(hj:j∈Region.ready .any ops d):WV ops (d.setIfInBounds j true):=fun k o ho hd e he hb=>by
 by_cases e1:j=k
 ·subst e1
  obtain⟨-,o2,ho2,hall⟩:=kV.1 hj;obtain rfl:o=o2:=bK (ho.symm.trans ho2);exact PX (hall e he hb)
 ·refine PX (hc k o ho ?_ e he hb)
  rw[gY,aS e1] at hd;rw[gY];exact hd
theorem xZ{N:Nat}(hi:ops[i]?=some oi)(hs:Region.noSelect ops=true)(hz:rch ops N z i=true)(hQ:∀ c a w,Q (.panic c) (a.put oi.dst v) w→Q (.panic c) a w)(n:Nat) :
  ∀(d:Array Bool) (a:Act) (w:World),WV ops d→(∀ j oj,ops[j]?=some oj→j≠i→d.getD j true=false→(∀ e∈oj.after,Region.binds .any e=true→e.on≠i)→oi.apart ops oj=true) →
   i∈Region.ready .any ops d→YieldsIf P ops S oi v a→S w→iQ P ops Q S z n (d.setIfInBounds i true) (a.put oi.dst v) w→iQ P ops Q S z (n+1) d a w:=by
 have hsel:=nU hs
 induction n with
 | zero =>
  intro d a w _ _ hr hy hS H;refine⟨fun h0=>(by rw[h0] at hr;cases hr),fun j hj=>?_⟩;by_cases e:j=i
  ·subst e;exact hy.wpOp hi hS ⟨fun _=>hS,H⟩
  ·have h1:=iO hj e
   rw[H.1] at h1;cases h1
 | succ n ih =>
  intro d a w hc hf hr hy hS H;refine⟨fun h0=>(by rw[h0] at hr;cases hr),fun j hj=>?_⟩;by_cases e:j=i
  ·subst e;exact hy.wpOp hi hS ⟨fun _=>hS,H⟩
  ·have hjz:j≠z:=fun e'=>by
    have h1:=Cj hc hz (e' ▸ hj);have h2:=(kV.1 hr).1;rw[gY] at h1 h2;cases hx:d[i]? with
    | none=>rw[hx] at h1;cases h1
    | some b=>rw[hx] at h1 h2;simp at h1 h2;rw[h1] at h2;cases h2
   have hno:∀ oj,ops[j]?=some oj→∀ e∈oj.after,Region.binds .any e=true→e.on≠i:=fun oj ho e he hb he' =>
    rA (ops:=ops) (j:=j) (i:=i) (by unfold Region.waitsFor;rw[ho];exact jE.2 ⟨e,he,by simp[hb,he']⟩) hr hj
   obtain⟨hun,oj,ho,-⟩:=kV.1 hj;have h2:=wpOp_putIf ho (hf j oj ho e hun (hno oj ho)) (fun cs b=>hsel i oi cs b hi) (fun cs b=>hsel j oj cs b ho) hQ hy (H.2 j (iO hj e));refine wpOp_mono (fun a' w' h3=>⟨fun _=>h3.2.1 hjz,ih _ _ _ (hc.set hj) ?_ (iO hr (iG e)) h3.1 (h3.2.1 hjz) ?_⟩) h2
   ·intro k ok hk hki vE D9
    refine hf k ok hk hki ?_ D9;by_cases KS:j=k
    ·subst KS;exact hun
    ·rw[getD_set_ne true KS] at vE;exact vE
   ·rw[ko _ _ e];exact h3.2.2
theorem vF(hi:ops[ops.size - (n+1)]?=some oi)(hd:oi.dst=some dn)(hs:Region.noSelect ops=true)(hz:rch ops 9 z (ops.size - (n+1))=true)(hc:MG ops d=true)(hf:Region.free .any ops d (ops.size - (n+1))=true)(hr:(Region.ready .any ops d).contains (ops.size - (n+1))=true)
  (hQ:∀ c a w,Q (.panic c) (a.put (some dn) v) w→Q (.panic c) a w) (hy:YieldsIf P ops S oi v a) (hS:S w) (h:iQ P ops Q S z n (d.setIfInBounds (ops.size - (n+1)) true) (a.put (some dn) v) w):iQ P ops Q S z (n+1) d a w :=
 xZ hi hs hz (by rw[hd];exact hQ) n d a w (I8 hc) (og hi hf) (by simpa using hr) hy hS (by rw[hd];exact h)
theorem I9(hi:ops[i]?=some oi)(hd:oi.dst=some dn)(hs:Region.noSelect ops=true)(hz:rch ops 9 z i=true)(hc:MG ops d=true)(hf:Region.free .any ops d i=true)(hr:(Region.ready .any ops d).contains i=true)
  (hQ:∀ c a w,Q (.panic c) (a.put (some dn) v) w→Q (.panic c) a w) (hy:YieldsIf P ops S oi v a) (hS:S w) (h:iQ P ops Q S z n (d.setIfInBounds i true) (a.put (some dn) v) w):iQ P ops Q S z (n+1) d a w :=
 xZ hi hs hz (by rw[hd];exact hQ) n d a w (I8 hc) (og hi hf) (by simpa using hr) hy hS (by rw[hd];exact h)
theorem j5(i:Nat)(hS:S w)(h:iQ P ops Q S z n (d.setIfInBounds i true) (a.put (some dn) v) w)(hi:ops[i]?=some oi:=by exact rfl)(hd:oi.dst=some dn:=by exact rfl)(hs:Region.noSelect ops=true:=by kernel_rfl)(hz:rch ops 9 z i=true:=by kernel_rfl)(hc:MG ops d=true:=by kernel_rfl)(hf:Region.free .any ops d i=true:=by kernel_rfl)(hr:(Region.ready .any ops d).contains i=true:=by kernel_rfl)(hQ:∀ c a w,Q (.panic c) (a.put (some dn) v) w→Q (.panic c) a w:=by exact fun _ _ _ h=>h)(hy:YieldsIf P ops S oi v a:=by exact Or.inl ⟨by rfl,by intro wx hSw;(try dsimp only at hSw);go_simp;try(with_reducible rfl)⟩):iQ P ops Q S z (n+1) d a w:=I9 hi hd hs hz hc hf hr hQ hy hS h
theorem lS(hS:S w)(h:iQ P ops Q S z n (d.setIfInBounds (ops.size - (n+1)) true) (a.put (some dn) v) w)(hi:ops[(ops.size - (n+1))]?=some oi:=by exact rfl)(hd:oi.dst=some dn:=by exact rfl)(hs:Region.noSelect ops=true:=by kernel_rfl)(hz:rch ops 9 z (ops.size - (n+1))=true:=by kernel_rfl)(hc:MG ops d=true:=by kernel_rfl)(hf:Region.free .any ops d (ops.size - (n+1))=true:=by kernel_rfl)(hr:(Region.ready .any ops d).contains (ops.size - (n+1))=true:=by kernel_rfl)(hQ:∀ c a w,Q (.panic c) (a.put (some dn) v) w→Q (.panic c) a w:=by exact fun _ _ _ h=>h)(hy:YieldsIf P ops S oi v a:=by exact Or.inl ⟨by rfl,by intro wx hSw;(try dsimp only at hSw);go_simp;try(with_reducible rfl)⟩):iQ P ops Q S z (n+1) d a w:=vF hi hd hs hz hc hf hr hQ hy hS h
end
end
section
variable{oi:Oper}{v:Value}
section
variable{P:Program}{ops:Array Oper}{Q:Exit→Act→World→Prop}{S:World→Prop}{Z:Nat→Bool}
def zB(ops:Array Oper)(Z:Nat→Bool)(i:Nat):Bool:=(List.range ops.size).all fun z=>!Z z||rch ops 9 z i
theorem Jg{i:Nat}(hi:ops[i]?=some oi)(hs:Region.noSelect ops=true)(hz:zB ops Z i=true)(hQ:∀ c a w,Q (.panic c) (a.put oi.dst v) w→Q (.panic c) a w)(n:Nat) :
  ∀(d:Array Bool) (a:Act) (w:World),WV ops d→(∀ j oj,ops[j]?=some oj→j≠i→d.getD j true=false→(∀ e∈oj.after,Region.binds .any e=true→e.on≠i)→oi.apart ops oj=true) →
   i∈Region.ready .any ops d→YieldsIf P ops S oi v a→S w→KV P ops Q S Z n (d.setIfInBounds i true) (a.put oi.dst v) w→KV P ops Q S Z (n+1) d a w:=by
 have hsel:=nU hs
 induction n with
 | zero =>
  intro d a w _ _ hr hy hS H;refine⟨fun h0=>(by rw[h0] at hr;cases hr),fun j hj=>?_⟩;by_cases e:j=i
  ·subst e;exact hy.wpOp hi hS ⟨fun _=>hS,H⟩
  ·have h1:=iO hj e
   rw[H.1] at h1;cases h1
 | succ n ih =>
  intro d a w hc hf hr hy hS H;refine⟨fun h0=>(by rw[h0] at hr;cases hr),fun j hj=>?_⟩;by_cases e:j=i
  ·subst e;exact hy.wpOp hi hS ⟨fun _=>hS,H⟩
  ·have hjz:Z j=false:=by
    cases hb:Z j with
    | false=>rfl
    | true =>
     exfalso;obtain⟨-,oj,hoj,-⟩:=kV.1 hj;have hjs:j<ops.size:=(wM.1 hoj).1;have hzj:=List.all_eq_true.1 hz j (gD.2 hjs);rw[hb] at hzj;have h1:=Cj hc (n:=9) (by simpa using hzj) hj;have h2:=(kV.1 hr).1;rw[gY] at h1 h2;cases hx:d[i]? with
     | none=>rw[hx] at h1;cases h1
     | some b=>rw[hx] at h1 h2;simp at h1 h2;rw[h1] at h2;cases h2
   have hno:∀ oj,ops[j]?=some oj→∀ e∈oj.after,Region.binds .any e=true→e.on≠i:=fun oj ho e he hb he' =>
    rA (ops:=ops) (j:=j) (i:=i) (by unfold Region.waitsFor;rw[ho];exact jE.2 ⟨e,he,by simp[hb,he']⟩) hr hj
   obtain⟨hun,oj,ho,-⟩:=kV.1 hj;have h2:=wpOp_putIf ho (hf j oj ho e hun (hno oj ho)) (fun cs b=>hsel i oi cs b hi) (fun cs b=>hsel j oj cs b ho) hQ hy (H.2 j (iO hj e));refine wpOp_mono (fun a' w' h3=>⟨fun _=>h3.2.1 hjz,ih _ _ _ (hc.set hj) ?_ (iO hr (iG e)) h3.1 (h3.2.1 hjz) ?_⟩) h2
   ·intro k ok hk hki vE D9
    refine hf k ok hk hki ?_ D9;by_cases KS:j=k
    ·subst KS;exact hun
    ·rw[getD_set_ne true KS] at vE;exact vE
   ·rw[ko _ _ e];exact h3.2.2
theorem UY{dn:Nat}{n:Nat}{d:Array Bool}{a:Act}{w:World}(hi:ops[ops.size - (n+1)]?=some oi)(hd:oi.dst=some dn)(hs:Region.noSelect ops=true)(hz:zB ops Z (ops.size - (n+1))=true)(hc:MG ops d=true)(hf:Region.free .any ops d (ops.size - (n+1))=true)(hr:(Region.ready .any ops d).contains (ops.size - (n+1))=true)
  (hQ:∀ c a w,Q (.panic c) (a.put (some dn) v) w→Q (.panic c) a w) (hy:YieldsIf P ops S oi v a) (hS:S w) (h:KV P ops Q S Z n (d.setIfInBounds (ops.size - (n+1)) true) (a.put (some dn) v) w):KV P ops Q S Z (n+1) d a w :=
 Jg hi hs hz (by rw[hd];exact hQ) n d a w (I8 hc) (og hi hf) (by simpa using hr) hy hS (by rw[hd];exact h)
end
end
end Go.Proofs.YtdkpkpgpphkljaaGreatDoor
