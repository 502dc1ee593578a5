/- Package syntax: the parts of a list and of a call. -/
import Derived.Test.YtbmebfgapjhchaaGreatDoorVv
import Derived.Deep.RegionHeldLaw
import Derived.Deep.Upon
namespace Go.Proofs.YtbmebfgapjhchaaGreatDoor
open Go.RowKit
open M
def evs (vs:Nat→Value) (n:Nat):List Value:=(List.range n).map vs
theorem evs_len (vs:Nat→Value) (n:Nat):(evs vs n).length=n:=by simp [evs]
theorem evs_get (vs:Nat→Value) (n j:Nat) (h:j<n):(evs vs n)[j]?=some (vs j):=by simp [evs,h]
theorem evs_some {vs:Nat→Value} {n j:Nat} {u:Value} (h:(evs vs n)[j]?=some u):j<n∧u=vs j:=by
 have hj:j<n:=by
  rcases Nat.lt_or_ge j n with q|q
  ·exact q
  ·rw [List.getElem?_eq_none (by rw [evs_len];exact q)] at h;cases h
 rw [evs_get vs n j hj] at h
 exact ⟨hj,by cases h;rfl⟩
theorem pts_row {w w':World} {lo hi:Nat} {es:List X.Ex} {vs:List Value} {g cap:Nat} (hl:vs.length=es.length) (hown:w'.ownsRow w.heap.size 180 1 (.slice (some ⟨g,0,none⟩) es.length cap) es.length vs) (hb:Below w.heap.size w w') (hp:∀ (j:Nat) (e:X.Ex),es[j]?=some e→∃ v,vs[j]?=some v∧IsE w lo hi v e) :
  Pts w w' lo hi (.slice (some ⟨g,0,none⟩) es.length cap) es:=by
 have hc:=hown.cells (g:=g) rfl
 rcases hown.2 with ⟨h0,-⟩|⟨g',cap',cur,e,hge,hgg,hn,hm,-,-⟩
 ·cases h0
 ·cases e
  refine ⟨⟨_,cap,fun j=>vs.getD j undef,rfl,hn,hm,fun j hj=>⟨g,_,_,rfl,hge,hgg,?_⟩,fun j e hj=>?_⟩,hb⟩
  ·have hv:vs[j]?=some (vs.getD j undef):=by
    rw [List.getD_eq_getElem?_getD,List.getElem?_eq_getElem (by omega)];rfl
   have:=hc j _ hv
   rwa [Addr.add_lit,Nat.zero_add] at this
  ·obtain ⟨v,x1,x2⟩:=hp j e hj
   have:vs.getD j undef=v:=by rw [List.getD_eq_getElem?_getD,x1];rfl
   show IsE _ _ _ (vs.getD j undef) e
   rw [this]
   exact x2
theorem wpList_append_run {P:Program} {w w':World} {ops:Array Oper} {rest:List Oper} {o:Oper} {a:Act} {Q:Exit→Act→World→Prop} (hg:o.guard=none) (s x:Operand) (t:TypeId) (ho:o.op=.call { callee:=.builtin .append,args:=#[s,x],argTypes:=#[t,t] }) {v:Value}
  (hr:(Builtin.append_ #[t,t] o.type #[a.eval s,a.eval x]).run P w=.ok v w') (hK:wpList P ops Q rest (a.put o.dst v) w'):wpList P ops Q (o::rest) a w:=by
 refine wpList_plain hg fun K' hK'=>?_
 unfold Oper.wp execOp
 simp only [ho,resolve,invoke,builtin,Sem.run_bind,Sem.run_pure,Result.andThen_ok,List.map_toArray,List.map_cons,List.map_nil,hr]
 exact hK' _ _ hK
theorem src_none (w:World) (ao:Option Addr) (cap:Nat) {size:Nat}:Src Tryz.prog size 245 (.slice ao 0 cap) 0 [] w:=by
 cases ao with
 | none=>exact Src.ofNil w Tryz.underlying245 cap
 | some a=>exact Src.ofSlice w Tryz.underlying245 a 0 cap [] (by simp) (fun j u h=>by simp at h) (fun u h=>by cases h)
set_option maxRecDepth 100000 in
set_option maxHeartbeats 1000000 in
theorem partsList_any {m0 n0:Int} {z0:Bool} (b:Nat) (ao:Option Addr) (cap:Nat) (vs:Nat→Value) (es:List X.Ex) (w:World) (lo hi:Nat) (h:w.heap[b]?=some (.cells #[.int .i64 m0,.int .i64 n0,.bool z0,.slice ao es.length cap] 258 (0,0)))
  (hr:∀ j,j<es.length→∃ g,ao=some ⟨g,0,none⟩∧lo≤g∧g<hi∧w.cell? ⟨g,j,none⟩=some (vs j)∧∃ c f,w.heap[g]?=some (.cells c 180 f)) (hp:∀ (j:Nat) (e:X.Ex),es[j]?=some e→IsE w lo hi (vs j) e) (hes:es.length≤268435456) :
  Calls Tryz.prog 202 #[.pointer (some ⟨b,0,none⟩)] w fun e w'=>∃ rv,e=.returned rv∧Hid (Pts w w' lo hi rv es):=by
 have c0:=cell_of_row w _ 3 _ _ _ h
 have hb:=heap_lt h
 obtain ⟨i0,hi0,hz0,hz1,hz2⟩:=info_parts infoE
 clear h
 by_cases h0:es.length=0
 ·have e0:es=[]:=List.length_eq_zero_iff.1 h0
  subst e0
  have hrun:=run_append_nothing (P:=Tryz.prog) w 245 245 245 180 i0 Tryz.underlying245 hi0 none 0 0 (Nat.le_refl _) (.slice ao 0 cap) (src_none w ao cap)
  go_enter Tryz.func202,Tryz.ntmps202
  go_wp2_with (at_builtin;refine wpList_append_run rfl _ _ 245 rfl hrun ?_)
  go_ret
  exact ⟨_,rfl,Pts.nil w lo hi⟩
 ·obtain ⟨g,rfl,-,-,-⟩:=hr 0 (by omega)
  have hnew:∀ j u,(evs vs es.length)[j]?=some u→w.cell? (Addr.add ⟨g,0,none⟩ j)=some u:=fun j u hu=>by
   obtain ⟨hj,rfl⟩:=evs_some hu
   obtain ⟨g',e,-,-,hc,-⟩:=hr j hj
   cases e
   rw [Addr.add_lit,Nat.zero_add]
   exact hc
  have h1:∀ u∈evs vs es.length,u.oneCell'=true:=fun u hu=>by
   obtain ⟨j,hj,rfl⟩:=List.getElem_of_mem hu
   have hjl:j<es.length:=by rw [evs_len] at hj;exact hj
   have e1:(evs vs es.length)[j]=vs j:=by
    have:=evs_get vs es.length j hjl
    rw [List.getElem?_eq_getElem hj] at this
    exact Option.some.inj this
   rw [e1]
   obtain ⟨ty,b',e2⟩:=(hp j es[j] (List.getElem?_eq_getElem hjl)).iface
   rw [e2];rfl
  obtain ⟨g2,cap2,w2,hrun,hown,hgrow,hat,hlt⟩:=run_append_lies (P:=Tryz.prog) w 245 245 w.heap.size 180 i0 _ 1 16 Tryz.underlying245 hi0 hz0 hz1 hz2 rfl (by decide) (.slice none 0 0) 0 [] (World.ownsRow_nil _ _ _ _) ⟨g,0,none⟩ es.length cap (evs vs es.length) (by rw [evs_len,Nat.mul_one]) hnew h1 (by omega) (by unfold maxLen;omega) (by omega) (Nat.le_refl _) w.heap.size rfl
  rw [Nat.zero_add] at hrun hown
  have HF:Hid (Pts w w2 lo hi (.slice (some ⟨g2,0,none⟩) es.length cap2) es):=pts_row (evs_len _ _) hown ((Below.refl _ w).grown hgrow (Nat.le_refl _) (fun k e=>by cases e)) (fun j e hj=>by
   have hjl:j<es.length:=by
    rcases Nat.lt_or_ge j es.length with q|q
    ·exact q
    ·rw [List.getElem?_eq_none q] at hj;cases hj
   exact ⟨_,evs_get vs es.length j hjl,hp j e hj⟩)
  clear hr hp hnew h1 hown hgrow hat
  go_enter Tryz.func202,Tryz.ntmps202
  go_wp2_with (at_builtin;refine wpList_append_run rfl _ _ 245 rfl hrun ?_)
  go_ret
  exact ⟨_,rfl,HF⟩
theorem step_append_run {P:Program} {w w':World} {ops:Array Oper} {o:Oper} {a:Act} {K:Act→World→Prop} {Q:Exit→Act→World→Prop} {E:Prop} (hgd:o.guard=none) (s x:Operand) (t ty:TypeId) (ho:o.op=.call { callee:=.builtin .append,args:=#[s,x],argTypes:=#[t,t] }) (hty:o.type=ty) {v:Value} (v1 v2:Value) (hs:a.eval s=v1) (hx:a.eval x=v2)
  (hr:(Builtin.append_ #[t,t] ty #[v1,v2]).run P w=.ok v w') (hK:K (a.put o.dst v) w'):if Region.wanted o (yielded ops a.tmps)=true then Oper.wp P o a w K Q else E:=by
 have hw:Region.wanted o (yielded ops a.tmps)=true:=by simp [Region.wanted,hgd]
 rw [if_pos hw]
 unfold Oper.wp execOp
 simp only [ho,resolve,invoke,builtin,Sem.run_bind,Sem.run_pure,Result.andThen_ok,List.map_toArray,List.map_cons,List.map_nil,hs,hx,hty,hr]
 exact hK
set_option maxRecDepth 100000 in
set_option maxHeartbeats 1000000 in
theorem partsCall_any {m0 n0:Int} {z0:Bool} (b:Nat) (v:Value) (e0:X.Ex) (ao:Option Addr) (cap:Nat) (vs:Nat→Value) (es:List X.Ex) (w:World) (lo hi:Nat) (h:w.heap[b]?=some (.cells #[.int .i64 m0,.int .i64 n0,.bool z0,v,.slice ao es.length cap] 289 (0,0))) (h0:IsE w lo hi v e0)
  (hr:∀ j,j<es.length→∃ g,ao=some ⟨g,0,none⟩∧lo≤g∧g<hi∧w.cell? ⟨g,j,none⟩=some (vs j)∧∃ c f,w.heap[g]?=some (.cells c 180 f)) (hp:∀ (j:Nat) (e:X.Ex),es[j]?=some e→IsE w lo hi (vs j) e) (hes:es.length≤268435456) :
  Calls Tryz.prog 201 #[.pointer (some ⟨b,0,none⟩)] w fun e w'=>∃ rv,e=.returned rv∧Hid (Pts w w' lo hi rv (e0::es)):=by
 obtain ⟨y0,g0,hv0⟩:=h0.iface
 subst hv0
 have c0:w.cell? ⟨b,3,none⟩=some (.iface y0 (.pointer (some ⟨g0,0,none⟩))):=cell_of_row w _ 3 _ _ _ h
 have c1:w.cell? ⟨b,4,none⟩=some (.slice ao es.length cap):=cell_of_row w _ 4 _ _ _ h
 have hb:=heap_lt h
 obtain ⟨i0,hi0,hz0,hz1,hz2⟩:=info_parts infoE
 clear h
 have HO:Hid ((w.alloc (.cells #[.iface y0 (.pointer (some ⟨g0,0,none⟩))] 180)).drew.ownsRow w.heap.size 180 1 (.slice (some ⟨w.heap.size,0,none⟩) 1 1) 1 [.iface y0 (.pointer (some ⟨g0,0,none⟩))]) :=
  (World.ownsRow_lit w #[.iface y0 (.pointer (some ⟨g0,0,none⟩))] 1 (Nat.le_refl _) (by unfold maxLen;omega) rfl).drew
 have HP1:Hid (Pts w (w.alloc (.cells #[.iface y0 (.pointer (some ⟨g0,0,none⟩))] 180)).drew lo hi (.slice (some ⟨w.heap.size,0,none⟩) 1 1) [e0]):=(pts_new (es:=[e0]) (vs:=[.iface y0 (.pointer (some ⟨g0,0,none⟩))]) rfl (by simp) (fun j e hj=>by
   match j with
   | 0=>simp at hj;subst hj;exact ⟨_,rfl,h0⟩
   | j+1=>simp at hj)).drew
 by_cases hl0:es.length=0
 ·have e0:es=[]:=List.length_eq_zero_iff.1 hl0
  subst e0
  clear hp hr hes hl0
  have c1':w.cell? ⟨b,4,none⟩=some (.slice ao 0 cap):=c1
  clear c1
  have HR:=hide (run_append_nothing (P:=Tryz.prog) (w.alloc (.cells #[.iface y0 (.pointer (some ⟨g0,0,none⟩))] 180)).drew 245 245 245 180 i0 Tryz.underlying245 hi0 (some ⟨w.heap.size,0,none⟩) 1 1 (Nat.le_refl _) (.slice ao 0 cap) (src_none _ ao cap))
  go_enter Tryz.func201,Tryz.ntmps201
  go_wp2_with fail
  go_region_held3 (fun w'=>w'.cell? ⟨b,3,none⟩=some (.iface y0 (.pointer (some ⟨g0,0,none⟩)))∧w'.cell? ⟨b,4,none⟩=some (.slice ao 0 cap))
   (first|(with_reducible exact ⟨c0,c1'⟩)|(with_reducible exact ⟨Lib.cell?_alloc_some _ c0,Lib.cell?_alloc_some _ c1'⟩)|go_keep)
   ((refine step_append_run (by rfl) _ _ 245 245 (by rfl) (by rfl) (.slice (some ⟨w.heap.size,0,none⟩) 1 1) (.slice ao 0 cap) (by rfl) (by rfl) HR.out ?_))
  go_wp2_with fail
  go_ret
  exact ⟨_,rfl,HP1⟩
 ·obtain ⟨g,rfl,-,-,-⟩:=hr 0 (by omega)
  have HN:Hid (∀ j u,(evs vs es.length)[j]?=some u→(w.alloc (.cells #[.iface y0 (.pointer (some ⟨g0,0,none⟩))] 180)).drew.cell? (Addr.add ⟨g,0,none⟩ j)=some u):=fun j u hu=>by
   obtain ⟨hj,rfl⟩:=evs_some hu
   obtain ⟨g',e,-,-,hc,-⟩:=hr j hj
   cases e
   rw [Addr.add_lit,Nat.zero_add]
   exact Lib.cell?_alloc_some _ hc
  have H1:Hid (∀ u∈evs vs es.length,u.oneCell'=true):=fun u hu=>by
   obtain ⟨j,hj,rfl⟩:=List.getElem_of_mem hu
   have hjl:j<es.length:=by rw [evs_len] at hj;exact hj
   have e1:(evs vs es.length)[j]=vs j:=by
    have:=evs_get vs es.length j hjl
    rw [List.getElem?_eq_getElem hj] at this
    exact Option.some.inj this
   rw [e1]
   obtain ⟨ty,b',e2⟩:=(hp j es[j] (List.getElem?_eq_getElem hjl)).iface
   rw [e2];rfl
  have HP:=hide hp
  have HE0:=hide h0
  have hpos:0<es.length:=by omega
  clear hp hr hl0 h0
  go_enter Tryz.func201,Tryz.ntmps201
  go_wp2_with fail
  go_region_held3 (fun w'=>w'.cell? ⟨b,3,none⟩=some (.iface y0 (.pointer (some ⟨g0,0,none⟩)))∧w'.cell? ⟨b,4,none⟩=some (.slice (some ⟨g,0,none⟩) es.length cap))
   (first|(with_reducible exact ⟨c0,c1⟩)|(with_reducible exact ⟨Lib.cell?_alloc_some _ c0,Lib.cell?_alloc_some _ c1⟩)|(with_reducible exact ⟨k0,k1⟩)|go_keep)
   ((refine step_append_lies _ (by rfl) _ _ _ (by rfl) w.heap.size 180 i0 _ 1 16 Tryz.underlying245 hi0 hz0 hz1 hz2 rfl (by omega) (.slice (some ⟨w.heap.size,0,none⟩) 1 1) 1 _ (by rfl) HO.out ⟨g,0,none⟩ es.length cap (evs vs es.length) (by rfl) (by rw [evs_len,Nat.mul_one]) HN.out H1.out hpos (by unfold maxLen;omega) (by omega) (by simp) (w.heap.size+1) (by simp) ?_;intro g5 cap5 w5 hown5 hgrow5 hat5 hlt5;have HO5:=hide hown5;have HB5:Hid (Below w.heap.size w w5):=(((Below.refl _ w).alloc (Nat.le_refl _) _).drew).grown hgrow5 (by simp) (fun q hq=>(by cases hq;exact Nat.le_refl _));have k0:=kcb HB5.out hb c0;have k1:=kcb HB5.out hb c1;clear hown5 hgrow5 hat5))
  go_wp2_with fail
  go_ret
  have hcm:1+es.length=(e0::es).length:=by rw [List.length_cons,Nat.add_comm]
  have HO6:=HO5.out
  rw [hcm] at HO6
  refine ⟨_,rfl,?_⟩
  rw [hcm]
  refine pts_row (by rw [List.length_append,evs_len,List.length_cons];simp;omega) HO6 HB5.out (fun j e hj=>?_)
  match j with
  | 0=>simp at hj;subst hj;exact ⟨_,rfl,HE0.out⟩
  | j+1 =>
   have hj':es[j]?=some e:=by simpa using hj
   have hjl:j<es.length:=by
    rcases Nat.lt_or_ge j es.length with q|q
    ·exact q
    ·rw [List.getElem?_eq_none q] at hj';cases hj'
   exact ⟨_,by simpa using evs_get vs es.length j hjl,HP.out j e hj'⟩
end Go.Proofs.YtbmebfgapjhchaaGreatDoor
