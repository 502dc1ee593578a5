/- What is wrong with spans: the program's answer,and the document's. -/
import Derived.Test.YtbmebfgapjhchaaGreatDoorChecked
import Derived.Test.YtbmebfgapjhchaaGreatDoorEdMath
import Derived.Test.YtbmebfgapjhchaaGreatDoorKa
import Derived.WalkKit
import Derived.WalkSpells
import Derived.Deep.LoopGhost
import Derived.Deep.DeepCutAuto
import Derived.Handy
namespace Go.Proofs.YtbmebfgapjhchaaGreatDoor.Ed
open Go.RowKit
open EM
def badR (n:Int) (r:Rw):Bool:=decide (r.f<0)||decide (r.t<r.f)||decide (n<r.t)
def ordB (e:Int):List Rw→Bool
 | []=>false
 | r::L=>decide (r.f<e)||ordB r.t L
def flt (n:Int) (L:List Rw):Int:=if n<0∨L.any (badR n)=true then 1 else if ordB 0 L=true then 2 else 0
def errV (k:Int):Value:=if k=0 then .nilIface else .iface 34 (.int .i64 k)
theorem flt_neg {n:Int} (L:List Rw) (h:n<0):flt n L=1:=if_pos (.inl h)
theorem flt_bad {n:Int} {L:List Rw} {k:Nat} {r:Rw} (hr:L[k]?=some r) (h:badR n r=true):flt n L=1 :=
 if_pos (.inr (List.any_eq_true.2 ⟨r,List.mem_of_getElem? hr,h⟩))
theorem flt_ord {n:Int} {L:List Rw} (hn:¬ n<0) (h:L.any (badR n)=false) (ho:ordB 0 L=true):flt n L=2:=by
 unfold flt;rw [if_neg (by rw [h];simp;omega),if_pos ho]
theorem flt_ok {n:Int} {L:List Rw} (hn:¬ n<0) (h:L.any (badR n)=false) (ho:ordB 0 L=false):flt n L=0:=by
 unfold flt;rw [if_neg (by rw [h];simp;omega),if_neg (by simp [ho])]
theorem take_any {L:List Rw} {k:Nat} {r:Rw} {p:Rw→Bool} (hr:L[k]?=some r) (h:(L.take k).any p=false) (hp:p r=false):(L.take (k+1)).any p=false:=by
 rw [List.take_add_one,hr,List.any_append,h];simp [hp]
theorem drop_ord {L:List Rw} {k:Nat} {r:Rw} {e:Int} (hr:L[k]?=some r):ordB e (L.drop k)=(decide (r.f<e)||ordB r.t (L.drop (k+1))):=by
 have hk:k<L.length:=by
  rcases Nat.lt_or_ge k L.length with h|h
  ·exact h
  ·rw [List.getElem?_eq_none h] at hr;cases hr
 rw [List.drop_eq_getElem_cons hk]
 rw [List.getElem?_eq_getElem hk] at hr
 cases hr
 rfl
set_option maxHeartbeats 1000000 in
theorem fault_any (n:Int) (v:Value) (L:List Rw) (w:World) (h:IsL w v L) :
  Calls Tryz.prog 58 #[.int .i64 n,v] w fun e w'=>e=.returned (errV (flt n L))∧Below w.heap.size w w':=by
 have H:=hide h
 obtain ⟨ao,cap,rfl,hc,hl,hcm,hx⟩:=h
 clear hx
 by_cases hn:n<0
 ·have HE:=hide (flt_neg L hn)
  go_enter Tryz.func58,Tryz.ntmps58
  go_wp2_with fail
  go_ret
  rw [HE.out]
  exact ⟨rfl,Below.refl _ _⟩
 have HN:=hide hn
 go_enter Tryz.func58,Tryz.ntmps58
 go_wp2_with fail
 go_loopw [15] (fun i wr=>∃ k:Nat,k≤L.length∧i=.int .i64 k∧Hid ((L.take k).any (badR n)=false)∧Below w.heap.size w wr) (fun i _=>L.length - (intOf i).toNat)
 case atStart=>exact ⟨0,Nat.zero_le _,rfl,rfl,Below.refl _ _⟩
 case round =>
  obtain ⟨k,hk,rfl,HT,hB⟩:=hrel
  by_cases hlt:k<L.length
  ·obtain ⟨b,o,r,rfl,hr,q1,q2,q3,hbl⟩:=(H.out).get hB hlt
   have HR:=hide hr
   clear hr
   have fin:badR n r=true→flt n L=1:=fun hb=>flt_bad HR.out hb
   have HF:=hide fin
   clear fin
   by_cases g1:r.f<0
   ·go_wp2_with fail
    go_ret
    rw [HF.out (by simp [badR,g1])]
    exact ⟨rfl,hB.alloc hB.size _⟩
   by_cases g2:r.t<r.f
   ·go_wp2_with fail
    go_ret
    rw [HF.out (by simp [badR,g2])]
    exact ⟨rfl,hB.alloc hB.size _⟩
   by_cases g3:n<r.t
   ·go_wp2_with fail
    go_ret
    rw [HF.out (by simp [badR,g3])]
    exact ⟨rfl,hB.alloc hB.size _⟩
   have HG:=hide (show badR n r=false by simp [badR,g1,g2,g3])
   go_wp2_with fail
   refine ⟨⟨k+1,by omega,by go_num,take_any HR.out HT.out HG.out,hB.alloc hB.size _⟩,?_⟩
   simp [intOf];omega
  ·have hkl:k=L.length:=by omega
   have HA:=hide (show L.any (badR n)=false by have:=HT.out;rwa [hkl,List.take_of_length_le (Nat.le_refl _)] at this)
   clear hkl
   go_wp2_with fail
   go_loopw [7,39] (fun e i wr=>∃ (k:Nat) (E:Int),k≤L.length∧i=.int .i64 k∧e=.int .i64 E∧Hid (ordB 0 L=ordB E (L.drop k))∧Below w.heap.size w wr) (fun _ i _=>L.length - (intOf i).toNat)
   case atStart=>exact ⟨0,0,Nat.zero_le _,rfl,rfl,rfl,hB⟩
   case round =>
    obtain ⟨k,E,hk,rfl,rfl,HO,hB⟩:=hrel
    by_cases hlt:k<L.length
    ·obtain ⟨b,o,r,rfl,hr,q1,q2,q3,hbl⟩:=(H.out).get hB hlt
     have HD:=hide (drop_ord (e:=E) hr)
     clear hr
     by_cases g1:r.f<E
     ·have HQ:=hide (flt_ord (by have:=HN.out;omega) HA.out (by rw [HO.out,HD.out];simp [g1]))
      go_wp2_with fail
      go_ret
      rw [HQ.out]
      exact ⟨rfl,hB.alloc hB.size _⟩
     ·have HQ:=hide (show ordB 0 L=ordB r.t (L.drop (k+1)) by rw [HO.out,HD.out];simp [g1])
      go_wp2_with fail
      refine ⟨⟨k+1,r.t,by omega,by go_num,rfl,HQ.out,hB.alloc hB.size _⟩,?_⟩
      simp [intOf];omega
    ·have hkl:k=L.length:=by omega
     have HQ:=hide (flt_ok (by have:=HN.out;omega) HA.out (by rw [HO.out,hkl,List.drop_length];rfl))
     clear hkl
     go_wp2_with fail
     go_ret
     rw [HQ.out]
     exact ⟨rfl,hB⟩
end Go.Proofs.YtbmebfgapjhchaaGreatDoor.Ed
