import Derived.Test.YtoohcklcppnafaaGreatDoorA
import Derived.OrdersHeld
import Derived.StillTail
namespace Go.Proofs.YtoohcklcppnafaaGreatDoor
open Go.RowKit
section
variable{a:Act}{w:aG}{d:Array Bool}{n i dn:Nat}{oi o:Oper}{v:Value}
section
variable{P:Program}{ops:Array Oper}{Q:Exit→Act→World→Prop}{S:aG→Prop}{z:Nat}
def mH(P:Program)(ops:Array Oper)(Q:Exit→Act→World→Prop)(S:aG→Prop)(z:Nat):Nat→Array Bool→Act→World→Prop
 | 0,d,a,w=>Region.ready .any ops d=[]∧Q .normal a w
 | n+1,d,a,w=>(Region.ready .any ops d=[]→Q .normal a w)∧∀ j∈Region.ready .any ops d,wpOp P ops Q j (fun a' w'=>(j≠z→S w')∧mH P ops Q S z n (d.setIfInBounds j true) a' w') a w
theorem Tw(n:Nat):∀(d:Array Bool) (a:Act) (w:aG),mH P ops Q S z n d a w→wpAny P .any ops Q n d a w:=by
 induction n with
 | zero=>intro d a w h;exact h
 | succ n ih=>intro d a w h;exact⟨h.1,fun j hj=>wpOp_mono (fun a' w' hk=>ih _ _ _ hk.2) (h.2 j hj)⟩
theorem dB{id:Nat}(hm:P.follows .mixedOrders=true)(h:mH P ops Q S z ops.size (Array.replicate ops.size false) a w.drew):(Code.region id ops true).wp P Q a w :=
 wp_region_any hm (Tw _ _ _ _ h)
theorem Tx(hr:Region.ready .any ops d=[])(h:Q .normal a w):mH P ops Q S z n d a w:=by
 cases n with
 | zero=>exact⟨hr,h⟩
 | succ n=>exact⟨fun _=>h,fun j hj=>by rw[hr] at hj;cases hj⟩
theorem wM{j:Nat}(hw:Region.waitsFor .any ops j i=true)(hi:i∈Region.ready .any ops d):j∉Region.ready .any ops d:=by
 intro hj;obtain⟨oj,ho,e,he,hb,rfl⟩:=Region.waitsFor_spec hw;obtain⟨-,o2,ho2,hall⟩:=nQ.1 hj;obtain rfl:oj=o2:=bQ (ho.symm.trans ho2);have h1:=hall e he hb;have h0:=(nQ.1 hi).1;rw[jg] at h0 h1;cases hx:d[e.on]? with
 | none=>rw[hx] at h1;cases h1
 | some b=>rw[hx] at h0 h1;simp at h0 h1;rw[h0] at h1;cases h1
theorem Le(hi:ops[i]?=some oi)(hs:Region.noSelect ops=true)(hz:Region.waitsFor .any ops z i=true)(hQ:∀ c a w,Q (.panic c) (a.put oi.dst v) w→Q (.panic c) a w)(n:Nat) :
  ∀(d:Array Bool) (a:Act) (w:aG),(∀ j oj,ops[j]?=some oj→j≠i→d.getD j true=false→(∀ e∈oj.after,Region.binds .any e=true→e.on≠i)→oi.apart ops oj=true) →
   i∈Region.ready .any ops d→YieldsIf P ops S oi v a→S w→mH P ops Q S z n (d.setIfInBounds i true) (a.put oi.dst v) w→mH P ops Q S z (n+1) d a w:=by
 have hsel:=Jp hs
 induction n with
 | zero =>
  intro d a w _ hr hy hS H;refine⟨fun h0=>(by rw[h0] at hr;cases hr),fun j hj=>?_⟩;by_cases e:j=i
  ·subst e;exact hy.wpOp hi hS ⟨fun _=>hS,H⟩
  ·have h1:=qB hj e
   rw[H.1] at h1;cases h1
 | succ n ih =>
  intro d a w hf hr hy hS H;refine⟨fun h0=>(by rw[h0] at hr;cases hr),fun j hj=>?_⟩;by_cases e:j=i
  ·subst e;exact hy.wpOp hi hS ⟨fun _=>hS,H⟩
  ·have hjz:j≠z:=fun e'=>wM hz hr (e' ▸ hj)
   have hno:∀ oj,ops[j]?=some oj→∀ e∈oj.after,Region.binds .any e=true→e.on≠i:=fun oj ho e he hb he' =>
    wM (ops:=ops) (j:=j) (i:=i) (by unfold Region.waitsFor;rw[ho];exact PN.2 ⟨e,he,by simp[hb,he']⟩) hr hj
   obtain⟨hun,oj,ho,-⟩:=nQ.1 hj;have h2:=wpOp_putIf ho (hf j oj ho e hun (hno oj ho)) (fun cs b=>hsel i oi cs b hi) (fun cs b=>hsel j oj cs b ho) hQ hy (H.2 j (qB hj e));refine wpOp_mono (fun a' w' h3=>⟨fun _=>h3.2.1 hjz,ih _ _ _ ?_ (qB hr (Ne.symm e)) h3.1 (h3.2.1 hjz) ?_⟩) h2
   ·intro k ok hk hki Iu Tz
    refine hf k ok hk hki ?_ Tz;by_cases Yg:j=k
    ·subst Yg;exact hun
    ·rw[getD_set_ne true Yg] at Iu;exact Iu
   ·rw[y9 _ _ e];exact h3.2.2
theorem kg(hi:ops[i]?=some oi)(hd:oi.dst=some dn)(hs:Region.noSelect ops=true)(hz:Region.waitsFor .any ops z i=true)(hf:Region.free .any ops d i=true)(hr:(Region.ready .any ops d).contains i=true)
  (hQ:∀ c a w,Q (.panic c) (a.put (some dn) v) w→Q (.panic c) a w) (hy:YieldsIf P ops S oi v a) (hS:S w) (h:mH P ops Q S z n (d.setIfInBounds i true) (a.put (some dn) v) w):mH P ops Q S z (n+1) d a w :=
 Le hi hs hz (by rw[hd];exact hQ) n d a w (Xp hi hf) (by simpa using hr) hy hS (by rw[hd];exact h)
theorem TA(hi:ops[ops.size - (n+1)]?=some oi)(hd:oi.dst=some dn)(hs:Region.noSelect ops=true)(hz:Region.waitsFor .any ops z (ops.size - (n+1))=true)(hf:Region.free .any ops d (ops.size - (n+1))=true)(hr:(Region.ready .any ops d).contains (ops.size - (n+1))=true)
  (hQ:∀ c a w,Q (.panic c) (a.put (some dn) v) w→Q (.panic c) a w) (hy:YieldsIf P ops S oi v a) (hS:S w) (h:mH P ops Q S z n (d.setIfInBounds (ops.size - (n+1)) true) (a.put (some dn) v) w):mH P ops Q S z (n+1) d a w:=kg hi hd hs hz hf hr hQ hy hS h
theorem dY(hr:Region.ready .any ops d=[i])(ho:ops[i]?=some o)
  (h:∀ K:Act→World→Prop,Hid (∀ a' w',(i≠z→S w')→((i≠z→S w')→mH P ops Q S z n (d.setIfInBounds i true) a' w')→K a' w')→if Region.wanted o (yielded ops a.tmps)=true then Oper.wp P o a w K Q else K (a.put o.dst undef) w):mH P ops Q S z (n+1) d a w:=by
 refine⟨fun h0=>(by rw[hr] at h0;cases h0),fun j hj=>?_⟩;rw[hr] at hj;obtain rfl:j=i:=by simpa using hj
 exact wpOp_step ho (fun K' hK=>h K' (fun a' w' h1 h2=>hK a' w' ⟨h1,h2 h1⟩))
theorem Ru(i:Nat)(hS:S w)(h:mH P ops Q S z n (d.setIfInBounds i true) (a.put (some dn) v) w)(hi:ops[i]?=some oi:=by exact rfl)(hd:oi.dst=some dn:=by exact rfl)(hs:Region.noSelect ops=true:=by kernel_rfl)(hz:Region.waitsFor .any ops z i=true:=by kernel_rfl)(hf:Region.free .any ops d i=true:=by kernel_rfl)(hr:(Region.ready .any ops d).contains i=true:=by kernel_rfl)(hQ:∀ c a w,Q (.panic c) (a.put (some dn) v) w→Q (.panic c) a w:=by exact fun _ _ _ h=>h)(hy:YieldsIf P ops S oi v a:=by exact Or.inl ⟨by rfl,by intro wx hSw;(try dsimp only at hSw);go_simp;try(with_reducible rfl)⟩):mH P ops Q S z (n+1) d a w:=kg hi hd hs hz hf hr hQ hy hS h
theorem ny(hS:S w)(h:mH P ops Q S z n (d.setIfInBounds (ops.size - (n+1)) true) (a.put (some dn) v) w)(hi:ops[(ops.size - (n+1))]?=some oi:=by exact rfl)(hd:oi.dst=some dn:=by exact rfl)(hs:Region.noSelect ops=true:=by kernel_rfl)(hz:Region.waitsFor .any ops z (ops.size - (n+1))=true:=by kernel_rfl)(hf:Region.free .any ops d (ops.size - (n+1))=true:=by kernel_rfl)(hr:(Region.ready .any ops d).contains (ops.size - (n+1))=true:=by kernel_rfl)(hQ:∀ c a w,Q (.panic c) (a.put (some dn) v) w→Q (.panic c) a w:=by exact fun _ _ _ h=>h)(hy:YieldsIf P ops S oi v a:=by exact Or.inl ⟨by rfl,by intro wx hSw;(try dsimp only at hSw);go_simp;try(with_reducible rfl)⟩):mH P ops Q S z (n+1) d a w:=TA hi hd hs hz hf hr hQ hy hS h
theorem fw(i:Nat)
  (h:∀ K:Act→World→Prop,Hid (∀ a' w',(i≠z→S w')→((i≠z→S w')→mH P ops Q S z n (d.setIfInBounds i true) a' w')→K a' w')→if Region.wanted o (yielded ops a.tmps)=true then Oper.wp P o a w K Q else K (a.put o.dst undef) w) (hr:Region.ready .any ops d=[i]:=by kernel_rfl) (ho:ops[i]?=some o:=by exact rfl):mH P ops Q S z (n+1) d a w:=dY hr ho h
theorem iF(h:Q .normal a w)(hr:Region.ready .any ops d=[]:=by kernel_rfl):mH P ops Q S z n d a w:=Tx hr h
end
end
section
variable{a:Act}{w:aG}{d:Array Bool}{n i:Nat}{oi:Oper}{v:Value}
section
variable{P:Program}{ops:Array Oper}{Q:Exit→Act→World→Prop}{S:aG→Prop}{Z:Nat→Bool}
def UX(P:Program)(ops:Array Oper)(Q:Exit→Act→World→Prop)(S:aG→Prop)(Z:Nat→Bool):Nat→Array Bool→Act→World→Prop
 | 0,d,a,w=>Region.ready .any ops d=[]∧Q .normal a w
 | n+1,d,a,w=>(Region.ready .any ops d=[]→Q .normal a w)∧∀ j∈Region.ready .any ops d,wpOp P ops Q j (fun a' w'=>(Z j=false→S w')∧UX P ops Q S Z n (d.setIfInBounds j true) a' w') a w
theorem WK(n:Nat):∀(d:Array Bool) (a:Act) (w:aG),UX P ops Q S Z n d a w→wpAny P .any ops Q n d a w:=by
 induction n with
 | zero=>intro d a w h;exact h
 | succ n ih=>intro d a w h;exact⟨h.1,fun j hj=>wpOp_mono (fun a' w' hk=>ih _ _ _ hk.2) (h.2 j hj)⟩
theorem OM{id:Nat}(hm:P.follows .mixedOrders=true)(h:UX P ops Q S Z ops.size (Array.replicate ops.size false) a w.drew):(Code.region id ops true).wp P Q a w :=
 wp_region_any hm (WK _ _ _ _ h)
theorem Wy(hr:Region.ready .any ops d=[])(h:Q .normal a w):UX P ops Q S Z n d a w:=by
 cases n with
 | zero=>exact⟨hr,h⟩
 | succ n=>exact⟨fun _=>h,fun j hj=>by rw[hr] at hj;cases hj⟩
theorem O1(hi:ops[i]?=some oi)(hs:Region.noSelect ops=true)(hz:∀ z,Z z=true→Region.waitsFor .any ops z i=true)(hQ:∀ c a w,Q (.panic c) (a.put oi.dst v) w→Q (.panic c) a w)(n:Nat) :
  ∀(d:Array Bool) (a:Act) (w:aG),(∀ j oj,ops[j]?=some oj→j≠i→d.getD j true=false→(∀ e∈oj.after,Region.binds .any e=true→e.on≠i)→oi.apart ops oj=true) →
   i∈Region.ready .any ops d→YieldsIf P ops S oi v a→S w→UX P ops Q S Z n (d.setIfInBounds i true) (a.put oi.dst v) w→UX P ops Q S Z (n+1) d a w:=by
 have hsel:=Jp hs
 induction n with
 | zero =>
  intro d a w _ hr hy hS H;refine⟨fun h0=>(by rw[h0] at hr;cases hr),fun j hj=>?_⟩;by_cases e:j=i
  ·subst e;exact hy.wpOp hi hS ⟨fun _=>hS,H⟩
  ·have h1:=qB hj e
   rw[H.1] at h1;cases h1
 | succ n ih =>
  intro d a w hf hr hy hS H;refine⟨fun h0=>(by rw[h0] at hr;cases hr),fun j hj=>?_⟩;by_cases e:j=i
  ·subst e;exact hy.wpOp hi hS ⟨fun _=>hS,H⟩
  ·have hjz:Z j=false:=by
    cases hb:Z j with
    | false=>rfl
    | true=>exact absurd hj (wM (hz j hb) hr)
   have hno:∀ oj,ops[j]?=some oj→∀ e∈oj.after,Region.binds .any e=true→e.on≠i:=fun oj ho e he hb he' =>
    wM (ops:=ops) (j:=j) (i:=i) (by unfold Region.waitsFor;rw[ho];exact PN.2 ⟨e,he,by simp[hb,he']⟩) hr hj
   obtain⟨hun,oj,ho,-⟩:=nQ.1 hj;have h2:=wpOp_putIf ho (hf j oj ho e hun (hno oj ho)) (fun cs b=>hsel i oi cs b hi) (fun cs b=>hsel j oj cs b ho) hQ hy (H.2 j (qB hj e));refine wpOp_mono (fun a' w' h3=>⟨fun _=>h3.2.1 hjz,ih _ _ _ ?_ (qB hr (Ne.symm e)) h3.1 (h3.2.1 hjz) ?_⟩) h2
   ·intro k ok hk hki Iu Tz
    refine hf k ok hk hki ?_ Tz;by_cases Yg:j=k
    ·subst Yg;exact hun
    ·rw[getD_set_ne true Yg] at Iu;exact Iu
   ·rw[y9 _ _ e];exact h3.2.2
theorem oN{dn:Nat}(hi:ops[i]?=some oi)(hd:oi.dst=some dn)(hs:Region.noSelect ops=true)(hz:∀ z,Z z=true→Region.waitsFor .any ops z i=true)(hf:Region.free .any ops d i=true)(hr:(Region.ready .any ops d).contains i=true)
  (hQ:∀ c a w,Q (.panic c) (a.put (some dn) v) w→Q (.panic c) a w) (hy:YieldsIf P ops S oi v a) (hS:S w) (h:UX P ops Q S Z n (d.setIfInBounds i true) (a.put (some dn) v) w):UX P ops Q S Z (n+1) d a w :=
 O1 hi hs hz (by rw[hd];exact hQ) n d a w (Xp hi hf) (by simpa using hr) hy hS (by rw[hd];exact h)
theorem E_{o:Oper}(hr:Region.ready .any ops d=[i])(ho:ops[i]?=some o)
  (h:∀ K:Act→World→Prop,Hid (∀ a' w',(Z i=false→S w')→((Z i=false→S w')→UX P ops Q S Z n (d.setIfInBounds i true) a' w')→K a' w')→if Region.wanted o (yielded ops a.tmps)=true then Oper.wp P o a w K Q else K (a.put o.dst undef) w):UX P ops Q S Z (n+1) d a w:=by
 refine⟨fun h0=>(by rw[hr] at h0;cases h0),fun j hj=>?_⟩;rw[hr] at hj;obtain rfl:j=i:=by simpa using hj
 exact wpOp_step ho (fun K' hK=>h K' (fun a' w' h1 h2=>hK a' w' ⟨h1,h2 h1⟩))
end
end
section
variable{i dn n:Nat}{oi:Oper}{v:Value}{d:Array Bool}{a:Act}{w:aG}
section
variable{P:Program}{ops:Array Oper}{Q:Exit→Act→World→Prop}{S:aG→Prop}{z:Nat}
theorem Jo(hi:ops[i]?=some oi)(hs:Region.noSelect ops=true)(hz:ops.size≤z)(hQ:∀ c a w,Q (.panic c) (a.put oi.dst v) w→Q (.panic c) a w)(n:Nat) :
  ∀(d:Array Bool) (a:Act) (w:aG),(∀ j oj,ops[j]?=some oj→j≠i→d.getD j true=false→(∀ e∈oj.after,Region.binds .any e=true→e.on≠i)→oi.apart ops oj=true) →
   i∈Region.ready .any ops d→YieldsIf P ops S oi v a→S w→mH P ops Q S z n (d.setIfInBounds i true) (a.put oi.dst v) w→mH P ops Q S z (n+1) d a w:=by
 have hsel:=Jp hs
 induction n with
 | zero =>
  intro d a w _ hr hy hS H;refine⟨fun h0=>(by rw[h0] at hr;cases hr),fun j hj=>?_⟩;by_cases e:j=i
  ·subst e;exact hy.wpOp hi hS ⟨fun _=>hS,H⟩
  ·have h1:=qB hj e
   rw[H.1] at h1;cases h1
 | succ n ih =>
  intro d a w hf hr hy hS H;refine⟨fun h0=>(by rw[h0] at hr;cases hr),fun j hj=>?_⟩;by_cases e:j=i
  ·subst e;exact hy.wpOp hi hS ⟨fun _=>hS,H⟩
  ·have hjz:j≠z:=fun e'=>by
    obtain⟨-,o2,ho2,-⟩:=nQ.1 hj;have:=(Array.getElem?_eq_some_iff.1 ho2).1;omega
   have hno:∀ oj,ops[j]?=some oj→∀ e∈oj.after,Region.binds .any e=true→e.on≠i:=fun oj ho e he hb he' =>
    wM (ops:=ops) (j:=j) (i:=i) (by unfold Region.waitsFor;rw[ho];exact PN.2 ⟨e,he,by simp[hb,he']⟩) hr hj
   obtain⟨hun,oj,ho,-⟩:=nQ.1 hj;have h2:=wpOp_putIf ho (hf j oj ho e hun (hno oj ho)) (fun cs b=>hsel i oi cs b hi) (fun cs b=>hsel j oj cs b ho) hQ hy (H.2 j (qB hj e));refine wpOp_mono (fun a' w' h3=>⟨fun _=>h3.2.1 hjz,ih _ _ _ ?_ (qB hr (Ne.symm e)) h3.1 (h3.2.1 hjz) ?_⟩) h2
   ·intro k ok hk hki Iu Tz
    refine hf k ok hk hki ?_ Tz;by_cases Yg:j=k
    ·subst Yg;exact hun
    ·rw[getD_set_ne true Yg] at Iu;exact Iu
   ·rw[y9 _ _ e];exact h3.2.2
theorem BA(hi:ops[i]?=some oi)(hd:oi.dst=some dn)(hs:Region.noSelect ops=true)(hz:ops.size≤z)(hf:Region.free .any ops d i=true)(hr:(Region.ready .any ops d).contains i=true)
  (hQ:∀ c a w,Q (.panic c) (a.put (some dn) v) w→Q (.panic c) a w) (hy:YieldsIf P ops S oi v a) (hS:S w) (h:mH P ops Q S z n (d.setIfInBounds i true) (a.put (some dn) v) w):mH P ops Q S z (n+1) d a w :=
 Jo hi hs hz (by rw[hd];exact hQ) n d a w (Xp hi hf) (by simpa using hr) hy hS (by rw[hd];exact h)
theorem MO(hi:ops[ops.size - (n+1)]?=some oi)(hd:oi.dst=some dn)(hs:Region.noSelect ops=true)(hz:ops.size≤z)(hf:Region.free .any ops d (ops.size - (n+1))=true)(hr:(Region.ready .any ops d).contains (ops.size - (n+1))=true)
  (hQ:∀ c a w,Q (.panic c) (a.put (some dn) v) w→Q (.panic c) a w) (hy:YieldsIf P ops S oi v a) (hS:S w) (h:mH P ops Q S z n (d.setIfInBounds (ops.size - (n+1)) true) (a.put (some dn) v) w):mH P ops Q S z (n+1) d a w:=BA hi hd hs hz hf hr hQ hy hS h
theorem Fg(i:Nat)(hS:S w)(h:mH P ops Q S z n (d.setIfInBounds i true) (a.put (some dn) v) w)(hi:ops[i]?=some oi:=by exact rfl)(hd:oi.dst=some dn:=by exact rfl)(hs:Region.noSelect ops=true:=by kernel_rfl)(hz:ops.size≤z:=by decide)(hf:Region.free .any ops d i=true:=by kernel_rfl)(hr:(Region.ready .any ops d).contains i=true:=by kernel_rfl)(hQ:∀ c a w,Q (.panic c) (a.put (some dn) v) w→Q (.panic c) a w:=by exact fun _ _ _ h=>h)(hy:YieldsIf P ops S oi v a:=by exact Or.inl ⟨by rfl,by intro wx hSw;(try dsimp only at hSw);go_simp;try(with_reducible rfl)⟩):mH P ops Q S z (n+1) d a w:=BA hi hd hs hz hf hr hQ hy hS h
theorem oQ(hS:S w)(h:mH P ops Q S z n (d.setIfInBounds (ops.size - (n+1)) true) (a.put (some dn) v) w)(hi:ops[(ops.size - (n+1))]?=some oi:=by exact rfl)(hd:oi.dst=some dn:=by exact rfl)(hs:Region.noSelect ops=true:=by kernel_rfl)(hz:ops.size≤z:=by decide)(hf:Region.free .any ops d (ops.size - (n+1))=true:=by kernel_rfl)(hr:(Region.ready .any ops d).contains (ops.size - (n+1))=true:=by kernel_rfl)(hQ:∀ c a w,Q (.panic c) (a.put (some dn) v) w→Q (.panic c) a w:=by exact fun _ _ _ h=>h)(hy:YieldsIf P ops S oi v a:=by exact Or.inl ⟨by rfl,by intro wx hSw;(try dsimp only at hSw);go_simp;try(with_reducible rfl)⟩):mH P ops Q S z (n+1) d a w:=MO hi hd hs hz hf hr hQ hy hS h
end
end
end Go.Proofs.YtoohcklcppnafaaGreatDoor
