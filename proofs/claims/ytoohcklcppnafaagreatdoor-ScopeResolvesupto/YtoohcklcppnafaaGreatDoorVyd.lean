import Derived.Test.YtoohcklcppnafaaGreatDoorVt
import Derived.Deep.RegionHeldLaw
import Derived.Deep.Upon
namespace Go.Proofs.YtoohcklcppnafaaGreatDoor
set_option maxRecDepth 100000
set_option maxHeartbeats 1000000
open Tryz
open Go.RowKit
open M
open X
variable{w w':aG}{P:Program}{ops:Array Oper}{o:Oper}{a:Act}{Q:Exit→Act→World→Prop}{v:Value}{m0 n0:Int}{z0:Bool}
def evs(vs:Nat→Value)(n:Nat):List Value:=(List.range n).map vs
theorem rQ(vs:Nat→Value)(n:Nat):(evs vs n).length=n:=by simp[evs]
theorem wL(vs:Nat→Value)(n j:Nat)(h:j<n):(evs vs n)[j]?=some (vs j):=by simp[evs,h]
theorem Iq{vs:Nat→Value}{n j:Nat}{u:Value}(h:(evs vs n)[j]?=some u):j<n∧u=vs j:=by
 have hj:j<n:=by
  rcases cu j n with q|q
  ·exact q
  ·rw[bf (by rw[rQ];exact q)] at h;cases h
 rw[wL vs n j hj] at h;exact⟨hj,by cases h;rfl⟩
theorem MX{lo hi:Nat}{es:List Ex}{vs:List Value}{g cap:Nat}(hl:vs.length=es.length)(hown:w'.ownsRow w.heap.size 179 1 (.slice (b_ g) es.length cap) es.length vs)(hb:Below w.heap.size w w')(hp:∀(j:Nat) (e:Ex),es[j]?=some e→∃ v,vs[j]?=some v∧je w lo hi v e) :
  AP w w' lo hi (.slice (b_ g) es.length cap) es:=by
 have hc:=hown.cells (g:=g) rfl;rcases hown.2 with ⟨h0,-⟩|⟨g',cap',cur,e,hge,hgg,hn,hm,-,-⟩
 ·cases h0
 ·cases e
  refine⟨⟨_,cap,fun j=>vs.getD j undef,rfl,hn,hm,fun j hj=>⟨g,_,_,rfl,hge,hgg,?_⟩,fun j e hj=>?_⟩,hb⟩
  ·have hv:vs[j]?=some (vs.getD j undef):=by
    rw[bG,aF au];rfl
   have:=hc j _ hv
   rwa[dQ,bS] at this
  ·obtain⟨v,x1,x2⟩:=hp j e hj
   have:vs.getD j undef=v:=by rw[bG,x1];rfl
   show je _ _ _ (vs.getD j undef) e;rw[this];exact x2
theorem wpList_append_run{rest:List Oper}(hg:o.guard=none)(s x:Operand)(t:TypeId)(ho:o.op=.call { callee:=.builtin .append,args:=#[s,x],argTypes:=#[t,t] })
  (hr:(Builtin.append_ #[t,t] o.type #[a.eval s,a.eval x]).run P w=.ok v w') (hK:wpList P ops Q rest (a.put o.dst v) w'):wpList P ops Q (o::rest) a w:=by
 refine wpList_plain hg fun K' hK'=>?_
 unfold Oper.wp execOp;simp only[ho,resolve,invoke,builtin,Sem.run_bind,Sem.run_pure,Result.andThen_ok,List.map_toArray,iO,List.map_nil,hr];exact hK' _ _ hK
theorem Ir(w:aG)(ao:Option Addr)(cap:Nat){size:Nat}:Src prog size 257 (.slice ao 0 cap) 0 [] w:=by
 cases ao with
 | none=>exact Src.ofNil w underlying257 cap
 | some a=>exact Src.ofSlice w underlying257 a 0 cap [] aT (fun j u h=>by simp at h) (fun u h=>by cases h)
theorem Cm(b:Nat)(ao:Option Addr)(cap:Nat)(vs:Nat→Value)(es:List Ex)(w:aG)(lo hi:Nat)(h:w.heap[b]?=some (.cells #[ak m0,ak n0,.bool z0,.slice ao es.length cap] 270 (0,0)))
  (hr:∀ j,j<es.length→∃ g,ao=some ⟨g,0,none⟩∧lo≤g∧g<hi∧w.cell? (aC g j)=some (vs j)∧∃ c f,w.heap[g]?=some (.cells c 179 f)) (hp:∀(j:Nat) (e:Ex),es[j]?=some e→je w lo hi (vs j) e) (hes:es.length≤268435456) :
  bB 233 #[aH b] w fun e w'=>∃ rv,e=.returned rv∧Hid (AP w w' lo hi rv es):=by
 have c0:=aj w _ 3 _ _ _ h;have hb:=bN h;obtain⟨i0,hi0,hz0,hz1,hz2⟩:=dM S9;clear h;by_cases h0:es.length=0
 ·have e0:=bP.1 h0
  subst e0;have hrun:=run_append_nothing (P:=prog) w 257 257 257 179 i0 underlying257 hi0 none 0 0 (ax _) (.slice ao 0 cap) (Ir w ao cap);go_enter func233,ntmps233;go_wp2_with (at_builtin;refine wpList_append_run rfl _ _ 257 rfl hrun ?_)
  go_ret;exact⟨_,rfl,AP.nil w lo hi⟩
 ·obtain⟨g,rfl,-,-,-⟩:=hr 0 au
  have hnew:∀ j u,(evs vs es.length)[j]?=some u→w.cell? (Addr.add ⟨g,0,none⟩ j)=some u:=fun j u hu=>by
   obtain⟨hj,rfl⟩:=Iq hu;obtain⟨g',e,-,-,hc,-⟩:=hr j hj;cases e
   rw[dQ,bS];exact hc
  have h1:∀ u∈evs vs es.length,u.oneCell'=true:=fun u hu=>by
   obtain⟨j,hj,rfl⟩:=pO hu;have hjl:j<es.length:=by rw[rQ] at hj;exact hj
   have e1:(evs vs es.length)[j]=vs j:=by
    have:=wL vs es.length j hjl;rw[aF hj] at this;exact bQ this
   rw[e1];obtain⟨ty,b',e2⟩:=(hp j es[j] (aF hjl)).iface;rw[e2];rfl
  obtain⟨g2,cap2,w2,hrun,hown,hgrow,hat,hlt⟩:=run_append_lies (P:=prog) w 257 257 w.heap.size 179 i0 _ 1 16 underlying257 hi0 hz0 hz1 hz2 rfl aS (.slice none 0 0) 0 [] (dK _ _ _ _) ⟨g,0,none⟩ es.length cap (evs vs es.length) (by rw[rQ,Nat.mul_one]) hnew h1 au (by unfold maxLen;omega) au (ax _) w.heap.size rfl;rw[bS] at hrun hown;have HF:=aA <| MX (rQ _ _) hown ((aB _ w).grown hgrow (ax _) (fun k e=>by cases e)) (fun j e hj=>by
   have hjl:j<es.length:=by
    rcases cu j es.length with q|q
    ·exact q
    ·rw[bf q] at hj;cases hj
   exact⟨_,wL vs es.length j hjl,hp j e hj⟩)
  clear hr hp hnew h1 hown hgrow hat
  go_enter func233,ntmps233;go_wp2_with (at_builtin;refine wpList_append_run rfl _ _ 257 rfl hrun ?_)
  go_ret;exact⟨_,rfl,HF⟩
theorem kP{K:Act→World→Prop}{E:Prop}(hgd:o.guard=none)(s x:Operand)(t ty:TypeId)(ho:o.op=.call { callee:=.builtin .append,args:=#[s,x],argTypes:=#[t,t] })(hty:o.type=ty)(v1 v2:Value)(hs:a.eval s=v1)(hx:a.eval x=v2)
  (hr:(Builtin.append_ #[t,t] ty #[v1,v2]).run P w=.ok v w') (hK:K (a.put o.dst v) w'):if Region.wanted o (yielded ops a.tmps)=true then Oper.wp P o a w K Q else E:=by
 have hw:Region.wanted o (yielded ops a.tmps)=true:=by simp[Region.wanted,hgd]
 rw[aU hw];unfold Oper.wp execOp;simp only[ho,resolve,invoke,builtin,Sem.run_bind,Sem.run_pure,Result.andThen_ok,List.map_toArray,iO,List.map_nil,hs,hx,hty,hr];exact hK
theorem Ck(b:Nat)(v:Value)(e0:Ex)(ao:Option Addr)(cap:Nat)(vs:Nat→Value)(es:List Ex)(w:aG)(lo hi:Nat)(h:w.heap[b]?=some (.cells #[ak m0,ak n0,.bool z0,v,.slice ao es.length cap] 305 (0,0)))(h0:je w lo hi v e0)
  (hr:∀ j,j<es.length→∃ g,ao=some ⟨g,0,none⟩∧lo≤g∧g<hi∧w.cell? (aC g j)=some (vs j)∧∃ c f,w.heap[g]?=some (.cells c 179 f)) (hp:∀(j:Nat) (e:Ex),es[j]?=some e→je w lo hi (vs j) e) (hes:es.length≤268435456) :
  bB 232 #[aH b] w fun e w'=>∃ rv,e=.returned rv∧Hid (AP w w' lo hi rv (e0::es)):=by
 obtain⟨y0,g0,hv0⟩:=h0.iface;subst hv0;have c0:w.cell? (aC b 3)=some (.iface y0 (aH g0)):=aj w _ 3 _ _ _ h;have c1:w.cell? (aC b 4)=some (.slice ao es.length cap):=aj w _ 4 _ _ _ h;have hb:=bN h;obtain⟨i0,hi0,hz0,hz1,hz2⟩:=dM S9;clear h;have HO:Hid ((w.alloc (.cells #[.iface y0 (aH g0)] 179)).drew.ownsRow w.heap.size 179 1 (.slice (b_ w.heap.size) 1 1) 1 [.iface y0 (aH g0)]) :=
  (World.ownsRow_lit w #[.iface y0 (aH g0)] 1 (ax _) (by unfold maxLen;omega) rfl).drew
 have Rp:Hid (AP w (w.alloc (.cells #[.iface y0 (aH g0)] 179)).drew lo hi (.slice (b_ w.heap.size) 1 1) [e0]):=(zA (es:=[e0]) (vs:=[.iface y0 (aH g0)]) rfl aT (fun j e hj=>by
   match j with
   | 0=>simp at hj;subst hj;exact⟨_,rfl,h0⟩
   | j+1=>simp at hj)).drew
 by_cases hl0:es.length=0
 ·have e0:=bP.1 hl0
  subst e0;clear hp hr hes hl0;have c1':w.cell? (aC b 4)=some (.slice ao 0 cap):=c1;clear c1;have HR:=aA (run_append_nothing (P:=prog) (w.alloc (.cells #[.iface y0 (aH g0)] 179)).drew 257 257 257 179 i0 underlying257 hi0 (b_ w.heap.size) 1 1 (ax _) (.slice ao 0 cap) (Ir _ ao cap));go_enter func232,ntmps232;go_wp2_with fail
  go_region_held3 (fun w'=>w'.cell? (aC b 3)=some (.iface y0 (aH g0))∧w'.cell? (aC b 4)=some (.slice ao 0 cap))
   (first|(with_reducible exact⟨c0,c1'⟩)|(with_reducible exact⟨Lib.cell?_alloc_some _ c0,Lib.cell?_alloc_some _ c1'⟩)|go_keep)
   ((refine kP (by rfl) _ _ 257 257 (by rfl) (by rfl) (.slice (b_ w.heap.size) 1 1) (.slice ao 0 cap) (by rfl) (by rfl) HR.o ?_))
  go_wp2_with fail
  go_ret;exact⟨_,rfl,Rp⟩
 ·obtain⟨g,rfl,-,-,-⟩:=hr 0 au
  have HN:Hid (∀ j u,(evs vs es.length)[j]?=some u→(w.alloc (.cells #[.iface y0 (aH g0)] 179)).drew.cell? (Addr.add ⟨g,0,none⟩ j)=some u):=fun j u hu=>by
   obtain⟨hj,rfl⟩:=Iq hu;obtain⟨g',e,-,-,hc,-⟩:=hr j hj;cases e
   rw[dQ,bS];exact Lib.cell?_alloc_some _ hc
  have H1:Hid (∀ u∈evs vs es.length,u.oneCell'=true):=fun u hu=>by
   obtain⟨j,hj,rfl⟩:=pO hu;have hjl:j<es.length:=by rw[rQ] at hj;exact hj
   have e1:(evs vs es.length)[j]=vs j:=by
    have:=wL vs es.length j hjl;rw[aF hj] at this;exact bQ this
   rw[e1];obtain⟨ty,b',e2⟩:=(hp j es[j] (aF hjl)).iface;rw[e2];rfl
  have HP:=aA hp;have wX:=aA h0;have hpos:0<es.length:=au
  clear hp hr hl0 h0;go_enter func232,ntmps232;go_wp2_with fail
  go_region_held3 (fun w'=>w'.cell? (aC b 3)=some (.iface y0 (aH g0))∧w'.cell? (aC b 4)=some (.slice (b_ g) es.length cap))
   (first|(with_reducible exact⟨c0,c1⟩)|(with_reducible exact⟨Lib.cell?_alloc_some _ c0,Lib.cell?_alloc_some _ c1⟩)|(with_reducible exact⟨k0,k1⟩)|go_keep)
   ((refine step_append_lies _ (by rfl) _ _ _ (by rfl) w.heap.size 179 i0 _ 1 16 underlying257 hi0 hz0 hz1 hz2 rfl au (.slice (b_ w.heap.size) 1 1) 1 _ (by rfl) HO.o ⟨g,0,none⟩ es.length cap (evs vs es.length) (by rfl) (by rw[rQ,Nat.mul_one]) HN.o H1.o hpos (by unfold maxLen;omega) au aT (w.heap.size+1) aT ?_;intro g5 cap5 w5 hown5 aV gI jm;have OD:=aA hown5;have FW:=aA <| (((aB _ w).alloc (ax _) _).drew).grown aV aT (fun q hq=>(by cases hq;exact ax _));have k0:=iY FW.o hb c0;have k1:=iY FW.o hb c1;clear hown5 aV gI))
  go_wp2_with fail
  go_ret;have hcm:1+es.length=(e0::es).length:=by rw[aY,Nat.add_comm]
  have BI:=OD.o;rw[hcm] at BI;refine⟨_,rfl,?_⟩;rw[hcm];refine MX (by rw[ay,rQ,aY];simp;omega) BI FW.o (fun j e hj=>?_)
  match j with
  | 0=>simp at hj;subst hj;exact⟨_,rfl,wX.o⟩
  | j+1 =>
   have hj':es[j]?=some e:=by simpa using hj
   have hjl:j<es.length:=by
    rcases cu j es.length with q|q
    ·exact q
    ·rw[bf q] at hj';cases hj'
   exact⟨_,by simpa using wL vs es.length j hjl,HP.o j e hj'⟩
end Go.Proofs.YtoohcklcppnafaaGreatDoor
