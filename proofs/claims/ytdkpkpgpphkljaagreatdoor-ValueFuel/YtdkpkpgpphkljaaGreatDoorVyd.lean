/- Package syntax: the parts of a list and of a call. -/
import Derived.Test.YtdkpkpgpphkljaaGreatDoorVt
import Derived.Deep.RegionHeldLaw
import Derived.Deep.Upon
namespace Go.Proofs.YtdkpkpgpphkljaaGreatDoor
set_option maxRecDepth 100000
set_option maxHeartbeats 1000000
open Tryz
open Go.RowKit
open M
variable{w w':World}{P:Program}{ops:Array Oper}{o:Oper}{a:Act}{Q:Exit→Act→World→Prop}{v:Value}{m0 n0:Int}{z0:Bool}
def evs(vs:Nat→Value)(n:Nat):List Value:=(List.range n).map vs
theorem rF(vs:Nat→Value)(n:Nat):(evs vs n).length=n:=by simp[evs]
theorem vZ(vs:Nat→Value)(n j:Nat)(h:j<n):(evs vs n)[j]?=some (vs j):=by simp[evs,h]
theorem GQ{vs:Nat→Value}{n j:Nat}{u:Value}(h:(evs vs n)[j]?=some u):j<n∧u=vs j:=by
 have hj:j<n:=by
  rcases bE j n with q|q
  ·exact q
  ·rw[aO (by rw[rF];exact q)] at h;cases h
 rw[vZ vs n j hj] at h;exact⟨hj,by cases h;rfl⟩
theorem Lu{lo hi:Nat}{es:List X.Ex}{vs:List Value}{g cap:Nat}(hl:vs.length=es.length)(hown:w'.ownsRow w.heap.size 72 1 (.slice (some ⟨g,0,none⟩) es.length cap) es.length vs)(hb:Below w.heap.size w w')(hp:∀(j:Nat) (e:X.Ex),es[j]?=some e→∃ v,vs[j]?=some v∧gJ w lo hi v e) :
  yR w w' lo hi (.slice (some ⟨g,0,none⟩) es.length cap) es:=by
 have hc:=hown.cells (g:=g) rfl;rcases hown.2 with ⟨h0,-⟩|⟨g',cap',cur,e,hge,hgg,hn,hm,-,-⟩
 ·cases h0
 ·cases e
  refine⟨⟨_,cap,fun j=>vs.getD j undef,rfl,hn,hm,fun j hj=>⟨g,_,_,rfl,hge,hgg,?_⟩,fun j e hj=>?_⟩,hb⟩
  ·have hv:vs[j]?=some (vs.getD j undef):=by
    rw[bF,aC (by omega)];rfl
   have:=hc j _ hv
   rwa[fe,cu] at this
  ·obtain⟨v,x1,x2⟩:=hp j e hj
   have:vs.getD j undef=v:=by rw[bF,x1];rfl
   show gJ _ _ _ (vs.getD j undef) e;rw[this];exact x2
theorem wpList_append_run{rest:List Oper}(hg:o.guard=none)(s x:Operand)(t:TypeId)(ho:o.op=.call { callee:=.builtin .append,args:=#[s,x],argTypes:=#[t,t] })
  (hr:(Builtin.append_ #[t,t] o.type #[a.eval s,a.eval x]).run P w=.ok v w') (hK:wpList P ops Q rest (a.put o.dst v) w'):wpList P ops Q (o::rest) a w:=by
 refine wpList_plain hg fun K' hK'=>?_
 unfold Oper.wp execOp;simp only[ho,resolve,invoke,builtin,Sem.run_bind,Sem.run_pure,yF,List.map_toArray,fQ,List.map_nil,hr];exact hK' _ _ hK
theorem GR(w:World)(ao:Option Addr)(cap:Nat){size:Nat}:Src prog size 244 (.slice ao 0 cap) 0 [] w:=by
 cases ao with
 | none=>exact Src.ofNil w underlying244 cap
 | some a=>exact Src.ofSlice w underlying244 a 0 cap [] (by simp) (fun j u h=>by simp at h) (fun u h=>by cases h)
theorem Bc(b:Nat)(ao:Option Addr)(cap:Nat)(vs:Nat→Value)(es:List X.Ex)(w:World)(lo hi:Nat)(h:w.heap[b]?=some (.cells #[.int .i64 m0,.int .i64 n0,.bool z0,.slice ao es.length cap] 252 (0,0)))
  (hr:∀ j,j<es.length→∃ g,ao=some ⟨g,0,none⟩∧lo≤g∧g<hi∧w.cell? ⟨g,j,none⟩=some (vs j)∧∃ c f,w.heap[g]?=some (.cells c 72 f)) (hp:∀(j:Nat) (e:X.Ex),es[j]?=some e→gJ w lo hi (vs j) e) (hes:es.length≤268435456) :
  Calls prog 253 #[.pointer (some ⟨b,0,none⟩)] w fun e w'=>∃ rv,e=.returned rv∧Hid (yR w w' lo hi rv es):=by
 have c0:=ai w _ 3 _ _ _ h;have hb:=aP h;obtain⟨i0,hi0,hz0,hz1,hz2⟩:=gB RD;clear h;by_cases h0:es.length=0
 ·have e0:es=[]:=aT.1 h0
  subst e0;have hrun:=run_append_nothing (P:=prog) w 244 244 244 72 i0 underlying244 hi0 none 0 0 (aj _) (.slice ao 0 cap) (GR w ao cap);go_enter func253,ntmps253;go_wp2_with (at_builtin;refine wpList_append_run rfl _ _ 244 rfl hrun ?_)
  go_ret;exact⟨_,rfl,yR.nil w lo hi⟩
 ·obtain⟨g,rfl,-,-,-⟩:=hr 0 (by omega)
  have hnew:∀ j u,(evs vs es.length)[j]?=some u→w.cell? (Addr.add ⟨g,0,none⟩ j)=some u:=fun j u hu=>by
   obtain⟨hj,rfl⟩:=GQ hu;obtain⟨g',e,-,-,hc,-⟩:=hr j hj;cases e
   rw[fe,cu];exact hc
  have h1:∀ u∈evs vs es.length,u.oneCell'=true:=fun u hu=>by
   obtain⟨j,hj,rfl⟩:=oL hu;have hjl:j<es.length:=by rw[rF] at hj;exact hj
   have e1:(evs vs es.length)[j]=vs j:=by
    have:=vZ vs es.length j hjl;rw[aC hj] at this;exact bK this
   rw[e1];obtain⟨ty,b',e2⟩:=(hp j es[j] (aC hjl)).iface;rw[e2];rfl
  obtain⟨g2,cap2,w2,hrun,hown,hgrow,hat,hlt⟩:=run_append_lies (P:=prog) w 244 244 w.heap.size 72 i0 _ 1 16 underlying244 hi0 hz0 hz1 hz2 rfl (by decide) (.slice none 0 0) 0 [] (bY _ _ _ _) ⟨g,0,none⟩ es.length cap (evs vs es.length) (by rw[rF,Nat.mul_one]) hnew h1 (by omega) (by unfold maxLen;omega) (by omega) (aj _) w.heap.size rfl;rw[cu] at hrun hown;have HF:Hid (yR w w2 lo hi (.slice (some ⟨g2,0,none⟩) es.length cap2) es):=Lu (rF _ _) hown ((ay _ w).grown hgrow (aj _) (fun k e=>by cases e)) (fun j e hj=>by
   have hjl:j<es.length:=by
    rcases bE j es.length with q|q
    ·exact q
    ·rw[aO q] at hj;cases hj
   exact⟨_,vZ vs es.length j hjl,hp j e hj⟩)
  clear hr hp hnew h1 hown hgrow hat
  go_enter func253,ntmps253;go_wp2_with (at_builtin;refine wpList_append_run rfl _ _ 244 rfl hrun ?_)
  go_ret;exact⟨_,rfl,HF⟩
theorem yK{K:Act→World→Prop}{E:Prop}(hgd:o.guard=none)(s x:Operand)(t ty:TypeId)(ho:o.op=.call { callee:=.builtin .append,args:=#[s,x],argTypes:=#[t,t] })(hty:o.type=ty)(v1 v2:Value)(hs:a.eval s=v1)(hx:a.eval x=v2)
  (hr:(Builtin.append_ #[t,t] ty #[v1,v2]).run P w=.ok v w') (hK:K (a.put o.dst v) w'):if Region.wanted o (yielded ops a.tmps)=true then Oper.wp P o a w K Q else E:=by
 have hw:Region.wanted o (yielded ops a.tmps)=true:=by simp[Region.wanted,hgd]
 rw[aL hw];unfold Oper.wp execOp;simp only[ho,resolve,invoke,builtin,Sem.run_bind,Sem.run_pure,yF,List.map_toArray,fQ,List.map_nil,hs,hx,hty,hr];exact hK
theorem Bb(b:Nat)(v:Value)(e0:X.Ex)(ao:Option Addr)(cap:Nat)(vs:Nat→Value)(es:List X.Ex)(w:World)(lo hi:Nat)(h:w.heap[b]?=some (.cells #[.int .i64 m0,.int .i64 n0,.bool z0,v,.slice ao es.length cap] 246 (0,0)))(h0:gJ w lo hi v e0)
  (hr:∀ j,j<es.length→∃ g,ao=some ⟨g,0,none⟩∧lo≤g∧g<hi∧w.cell? ⟨g,j,none⟩=some (vs j)∧∃ c f,w.heap[g]?=some (.cells c 72 f)) (hp:∀(j:Nat) (e:X.Ex),es[j]?=some e→gJ w lo hi (vs j) e) (hes:es.length≤268435456) :
  Calls prog 250 #[.pointer (some ⟨b,0,none⟩)] w fun e w'=>∃ rv,e=.returned rv∧Hid (yR w w' lo hi rv (e0::es)):=by
 obtain⟨y0,g0,hv0⟩:=h0.iface;subst hv0;have c0:w.cell? ⟨b,3,none⟩=some (.iface y0 (.pointer (some ⟨g0,0,none⟩))):=ai w _ 3 _ _ _ h;have c1:w.cell? ⟨b,4,none⟩=some (.slice ao es.length cap):=ai w _ 4 _ _ _ h;have hb:=aP h;obtain⟨i0,hi0,hz0,hz1,hz2⟩:=gB RD;clear h;have HO:Hid ((w.alloc (.cells #[.iface y0 (.pointer (some ⟨g0,0,none⟩))] 72)).drew.ownsRow w.heap.size 72 1 (.slice (some ⟨w.heap.size,0,none⟩) 1 1) 1 [.iface y0 (.pointer (some ⟨g0,0,none⟩))]) :=
  (World.ownsRow_lit w #[.iface y0 (.pointer (some ⟨g0,0,none⟩))] 1 (aj _) (by unfold maxLen;omega) rfl).drew
 have Km:Hid (yR w (w.alloc (.cells #[.iface y0 (.pointer (some ⟨g0,0,none⟩))] 72)).drew lo hi (.slice (some ⟨w.heap.size,0,none⟩) 1 1) [e0]):=(zh (es:=[e0]) (vs:=[.iface y0 (.pointer (some ⟨g0,0,none⟩))]) rfl (by simp) (fun j e hj=>by
   match j with
   | 0=>simp at hj;subst hj;exact⟨_,rfl,h0⟩
   | j+1=>simp at hj)).drew
 by_cases hl0:es.length=0
 ·have e0:es=[]:=aT.1 hl0
  subst e0;clear hp hr hes hl0;have c1':w.cell? ⟨b,4,none⟩=some (.slice ao 0 cap):=c1;clear c1;have HR:=au (run_append_nothing (P:=prog) (w.alloc (.cells #[.iface y0 (.pointer (some ⟨g0,0,none⟩))] 72)).drew 244 244 244 72 i0 underlying244 hi0 (some ⟨w.heap.size,0,none⟩) 1 1 (aj _) (.slice ao 0 cap) (GR _ ao cap));go_enter func250,ntmps250;go_wp2_with fail
  go_region_held3 (fun w'=>w'.cell? ⟨b,3,none⟩=some (.iface y0 (.pointer (some ⟨g0,0,none⟩)))∧w'.cell? ⟨b,4,none⟩=some (.slice ao 0 cap))
   (first|(with_reducible exact⟨c0,c1'⟩)|(with_reducible exact⟨Lib.cell?_alloc_some _ c0,Lib.cell?_alloc_some _ c1'⟩)|go_keep)
   ((refine yK (by rfl) _ _ 244 244 (by rfl) (by rfl) (.slice (some ⟨w.heap.size,0,none⟩) 1 1) (.slice ao 0 cap) (by rfl) (by rfl) HR.o ?_))
  go_wp2_with fail
  go_ret;exact⟨_,rfl,Km⟩
 ·obtain⟨g,rfl,-,-,-⟩:=hr 0 (by omega)
  have HN:Hid (∀ j u,(evs vs es.length)[j]?=some u→(w.alloc (.cells #[.iface y0 (.pointer (some ⟨g0,0,none⟩))] 72)).drew.cell? (Addr.add ⟨g,0,none⟩ j)=some u):=fun j u hu=>by
   obtain⟨hj,rfl⟩:=GQ hu;obtain⟨g',e,-,-,hc,-⟩:=hr j hj;cases e
   rw[fe,cu];exact Lib.cell?_alloc_some _ hc
  have H1:Hid (∀ u∈evs vs es.length,u.oneCell'=true):=fun u hu=>by
   obtain⟨j,hj,rfl⟩:=oL hu;have hjl:j<es.length:=by rw[rF] at hj;exact hj
   have e1:(evs vs es.length)[j]=vs j:=by
    have:=vZ vs es.length j hjl;rw[aC hj] at this;exact bK this
   rw[e1];obtain⟨ty,b',e2⟩:=(hp j es[j] (aC hjl)).iface;rw[e2];rfl
  have HP:=au hp;have HE0:=au h0;have hpos:0<es.length:=by omega
  clear hp hr hl0 h0;go_enter func250,ntmps250;go_wp2_with fail
  go_region_held3 (fun w'=>w'.cell? ⟨b,3,none⟩=some (.iface y0 (.pointer (some ⟨g0,0,none⟩)))∧w'.cell? ⟨b,4,none⟩=some (.slice (some ⟨g,0,none⟩) es.length cap))
   (first|(with_reducible exact⟨c0,c1⟩)|(with_reducible exact⟨Lib.cell?_alloc_some _ c0,Lib.cell?_alloc_some _ c1⟩)|(with_reducible exact⟨k0,k1⟩)|go_keep)
   ((refine step_append_lies _ (by rfl) _ _ _ (by rfl) w.heap.size 72 i0 _ 1 16 underlying244 hi0 hz0 hz1 hz2 rfl (by omega) (.slice (some ⟨w.heap.size,0,none⟩) 1 1) 1 _ (by rfl) HO.o ⟨g,0,none⟩ es.length cap (evs vs es.length) (by rfl) (by rw[rF,Nat.mul_one]) HN.o H1.o hpos (by unfold maxLen;omega) (by omega) (by simp) (w.heap.size+1) (by simp) ?_;intro g5 cap5 w5 hown5 cB nW A9;have Mt:=au hown5;have TN:Hid (Below w.heap.size w w5):=(((ay _ w).alloc (aj _) _).drew).grown cB (by simp) (fun q hq=>(by cases hq;exact aj _));have k0:=pU TN.o hb c0;have k1:=pU TN.o hb c1;clear hown5 cB nW))
  go_wp2_with fail
  go_ret;have hcm:1+es.length=(e0::es).length:=by rw[aW,Nat.add_comm]
  have HO6:=Mt.o;rw[hcm] at HO6;refine⟨_,rfl,?_⟩;rw[hcm];refine Lu (by rw[ak,rF,aW];simp;omega) HO6 TN.o (fun j e hj=>?_)
  match j with
  | 0=>simp at hj;subst hj;exact⟨_,rfl,HE0.o⟩
  | j+1 =>
   have hj':es[j]?=some e:=by simpa using hj
   have hjl:j<es.length:=by
    rcases bE j es.length with q|q
    ·exact q
    ·rw[aO q] at hj';cases hj'
   exact⟨_,by simpa using vZ vs es.length j hjl,HP.o j e hj'⟩
end Go.Proofs.YtdkpkpgpphkljaaGreatDoor
