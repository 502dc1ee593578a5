/- The document's Layout: mathematics of its loop. -/
import Derived.Test.YtgpcpbmacdhlkaaGreatDoorLku
import Derived.Test.YtgpcpbmacdhlkaaGreatDoorZr
import Derived.Test.YtgpcpbmacdhlkaaGreatDoorZs
namespace Go.Proofs.YtgpcpbmacdhlkaaGreatDoor
open Go.RowKit
open M
namespace X
def rln (xs:List (List UInt8)):List UInt8:=xs.flatMap (fun x=>x++[10])
theorem rln_append (a b:List (List UInt8)):rln (a++b)=rln a++rln b:=by unfold rln;rw [List.flatMap_append]
theorem want_rmk (k:Nat) (x:List UInt8):wantK true (k,x)=(k==2):=by
 unfold wantK
 cases h2:k==2 with
 | true =>
  have:k=2:=by simpa using h2
  simp [this]
 | false=>simp
mutual
theorem lds_rmk (g:Bool):∀ p:Part,(lds true g p).map (·.1)=((pl p).filter rmk).map (·.2)
 | .leaf k x=>by
  rw [lds,pl,want_rmk]
  cases h:k==2 with
  | true=>rw [if_pos rfl,List.filter_cons_of_pos (by unfold rmk;exact h)];rfl
  | false=>rw [if_neg (by simp),List.filter_cons_of_neg (by unfold rmk;simp [h])];rfl
 | .miss m=>by rw [lds,pl];rfl
 | .br k ps=>by rw [lds,pl];exact ldss_rmk (k==14) ps
theorem ldss_rmk (g:Bool):∀ ps:List Part,(ldss true g ps).map (·.1)=((pls ps).filter rmk).map (·.2)
 | []=>rfl
 | p::ps=>by rw [ldss,pls,List.map_append,List.filter_append,List.map_append,lds_rmk g p,ldss_rmk g ps]
end
theorem remarks_rln (p:Part):remarks (pl p)=rln ((lds true false p).map (·.1)):=by
 rw [lds_rmk]
 unfold remarks rln
 rw [List.flatMap_map]
theorem lay_take {ps:List Part} {j:Nat} {p:Part} (h:ps[j]?=some p):lay (ps.take (j+1))=lay (ps.take j)++kidOut p:=by
 unfold lay
 rw [List.take_add_one,h,Option.toList_some,List.flatMap_append,List.flatMap_cons,List.flatMap_nil,List.append_nil]
theorem lay_pre (ps:List Part) (j:Nat):(lay (ps.take j)).length≤(lay ps).length:=by
 conv=>rhs;rw [← List.take_append_drop j ps]
 unfold lay
 rw [List.flatMap_append,List.length_append];omega
theorem rln_take {L:List LfD} {j:Nat} {l:LfD} (h:L[j]?=some l):rln ((L.take (j+1)).map (·.1))=rln ((L.take j).map (·.1))++(l.1++[10]):=by
 rw [List.take_add_one,h,Option.toList_some,List.map_append,rln_append]
 congr 1
 unfold rln
 simp
theorem rln_pre (L:List LfD) (j:Nat):(rln ((L.take j).map (·.1))).length≤(rln (L.map (·.1))).length:=by
 conv=>rhs;rw [← List.take_append_drop j L]
 rw [List.map_append,rln_append,List.length_append];omega
theorem rln_mem {L:List LfD} {j:Nat} {l:LfD} (h:L[j]?=some l):l.1.length≤(rln (L.map (·.1))).length:=by
 have h1:=rln_take h
 have h2:=rln_pre L (j+1)
 rw [h1,List.length_append,List.length_append] at h2
 omega
theorem wt_kid {M:Nat} {ps:List Part} {p:Part} (h:p∈ps):wt M (nt p)≤wt M (pls ps):=by
 obtain ⟨a,b,e⟩:=List.append_of_mem h
 rw [e,pls_append,pls,wt_append,wt_append]
 have h2:=wt_two M (pl p)
 unfold nt
 omega
end X
theorem IsM.shr {w:World} {lo hi:Nat} {v:Value} {q:X.Q} (h:IsM w lo hi v q):IsM w lo (min hi w.heap.size) v q:=by
 induction h with
 | mk lo hi N k t x qs at0 en fr tt la ao cap vs L H hN hb hc hr hs hp ih =>
  have hNl:=heap_lt hb
  refine .mk lo _ N k t x qs at0 en fr tt la ao cap vs L (fun i=>min (H i) w.heap.size) ⟨hN.1,by omega⟩ hb hc (fun i hi=>?_) (fun i hi=>?_) ih
  ·obtain ⟨g,e1,e2,e3,e4,e5,e6⟩:=hr i hi
   have:=World.block_lt_of_cell? w _ e6
   exact ⟨g,e1,e2,by simp at this;omega,e4,fun j hj e=>e5 j hj ⟨e.1,by omega⟩,e6⟩
  ·obtain ⟨e1,e2,e3,e4,e5⟩:=hs i hi
   have hk:=(ih i _ (List.getElem?_eq_getElem hi)).lt
   exact ⟨e1,by omega,by omega,fun e=>e4 ⟨e.1,by omega⟩,fun j h1 h2=>by have:=e5 j h1 h2;omega⟩
end Go.Proofs.YtgpcpbmacdhlkaaGreatDoor
