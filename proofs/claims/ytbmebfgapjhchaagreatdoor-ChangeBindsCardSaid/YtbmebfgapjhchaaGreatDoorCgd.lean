/- Names with any numbers in a row: held against each other,and made again. -/
import Derived.Test.YtbmebfgapjhchaaGreatDoorHa
import Derived.Laws.StructEq
import Derived.Laws.AppendOwn
import Derived.Laws.OwnMore
import Derived.Deep.AppendLies
import Derived.Lib.SliceRun
import Derived.Lib.AppendZeros
import Derived.WalkSpells
import Derived.BigQuiet
namespace Go.Proofs.YtbmebfgapjhchaaGreatDoor
open Go.RowKit
open M
structure Q6 where
 a:Int
 b:Int
 c:Int
 d:Int
 e:Int
 f:Int
deriving DecidableEq
def Q6.vals (q:Q6):List Value:=[.int .i64 q.a,.int .i64 q.b,.int .i64 q.c,.int .i64 q.d,.int .i64 q.e,.int .i64 q.f]
def Q6.v (q:Q6):Value:=.agg #[.int .i64 q.a,.int .i64 q.b,.int .i64 q.c,.int .i64 q.d,.int .i64 q.e,.int .i64 q.f]
def qvs (L:List Q6):List Value:=L.flatMap Q6.vals
theorem qvs_len (L:List Q6):(qvs L).length=L.length*6:=by
 induction L with
 | nil=>rfl
 | cons u L ih=>show (u.vals++qvs L).length=_;rw [List.length_append,ih,List.length_cons];show 6+_=_;omega
theorem qvs_get:∀ (L:List Q6) (i:Nat) (q:Q6),L[i]?=some q→∀ j,j<6→(qvs L)[i*6+j]?=q.vals[j]?
 | [],i,q,h,j,hj=>by simp at h
 | p::L,0,q,h,j,hj=>by
  obtain rfl:p=q:=Option.some.inj h
  show (p.vals++qvs L)[0*6+j]?=_
  rw [Nat.zero_mul,Nat.zero_add,List.getElem?_append_left (by show j<6;exact hj)]
 | p::L,i+1,q,h,j,hj=>by
  show (p.vals++qvs L)[(i+1)*6+j]?=_
  rw [List.getElem?_append_right (by show 6≤_;omega),show (i+1)*6+j - p.vals.length=i*6+j by show _ - 6=_;omega]
  exact qvs_get L i q h j hj
theorem qvs_set:∀ (L:List Q6) (i:Nat) (q:Q6) (x:Int),L[i]?=some q→(qvs L).set (i*6+1) (.int .i64 x)=qvs (L.set i { q with b:=x })∧(qvs L).set (i*6+4) (.int .i64 x)=qvs (L.set i { q with e:=x })
 | [],i,q,x,h=>by simp at h
 | p::L,0,q,x,h=>by
  obtain rfl:p=q:=Option.some.inj h
  exact ⟨rfl,rfl⟩
 | p::L,i+1,q,x,h=>by
  obtain ⟨i1,i2⟩:=qvs_set L i q x h
  constructor
  ·show (p.vals++qvs L).set ((i+1)*6+1) _=p.vals++qvs (L.set i { q with b:=x })
   rw [← i1,show (i+1)*6+1=(i*6+1)+6 by omega];rfl
  ·show (p.vals++qvs L).set ((i+1)*6+4) _=p.vals++qvs (L.set i { q with e:=x })
   rw [← i2,show (i+1)*6+4=(i*6+4)+6 by omega];rfl
theorem q_cells {w:World} {B n:Nat} {v:Value} {L:List Q6} (h:w.ownsRow B 36 6 v n (qvs L)) {i:Nat} {q:Q6} (hq:L[i]?=some q) :
  ∃ g cap,v=.slice (some ⟨g,0,none⟩) n cap∧n=L.length∧n≤cap∧cap≤maxLen∧B≤g∧g<w.heap.size∧w.cell? ⟨g,i*6,none⟩=some (.int .i64 q.a)∧w.cell? ⟨g,i*6+1,none⟩=some (.int .i64 q.b)∧w.cell? ⟨g,i*6+2,none⟩=some (.int .i64 q.c)∧w.cell? ⟨g,i*6+3,none⟩=some (.int .i64 q.d)∧w.cell? ⟨g,i*6+4,none⟩=some (.int .i64 q.e)∧w.cell? ⟨g,i*6+5,none⟩=some (.int .i64 q.f):=by
 have hi:i<L.length:=by
  rcases Nat.lt_or_ge i L.length with g|g
  ·exact g
  ·rw [List.getElem?_eq_none g] at hq;cases hq
 have hn:n=L.length:=by have:=h.1;rw [qvs_len] at this;omega
 have h':=h
 rcases h'.2 with ⟨-,h0⟩|⟨g,cap,cur,rfl,hb,hg,hc,hm,-⟩
 ·omega
 ·have hc':∀ j,j<6→w.cell? ⟨g,i*6+j,none⟩=q.vals[j]?:=fun j hj=>(h.cellAt (i*6+j) (by omega)).trans (qvs_get L i q hq j hj)
  exact ⟨g,cap,rfl,hn,hc,hm,hb,heap_lt hg,hc' 0 (by omega),hc' 1 (by omega),hc' 2 (by omega),hc' 3 (by omega),hc' 4 (by omega),hc' 5 (by omega)⟩
set_option maxRecDepth 100000 in
set_option maxHeartbeats 4000000 in
theorem eqQ (w:World) (x y:Q6):(Op.equalIn 10000 36 x.v y.v).run Tryz.prog w=.ok (decide (x=y)) w:=by
 obtain ⟨x1,x2,x3,x4,x5,x6⟩:=x
 obtain ⟨y1,y2,y3,y4,y5,y6⟩:=y
 have:decide ((⟨x1,x2,x3,x4,x5,x6⟩:Q6)=⟨y1,y2,y3,y4,y5,y6⟩)=((x1==y1)&&((x2==y2)&&((x3==y3)&&((x4==y4)&&((x5==y5)&&(x6==y6)))))):=by
  rw [Bool.eq_iff_iff];simp [Q6.mk.injEq]
 rw [this]
 unfold Q6.v
 rw [run_equalIn_struct w 9999 36 _ _ Tryz.underlying36 (by kernel_rfl)]
 simp [Program.fieldsOf,Tryz.underlying36,Op.eqFields,go_sem,Tryz.underlying3,Tryz.isAgg3,Tryz.sizeOf3,Tryz.underlying34,Tryz.isAgg34,Tryz.sizeOf34]
 by_cases h1:x1=y1<;>by_cases h2:x2=y2<;>by_cases h3:x3=y3<;>by_cases h4:x4=y4<;>by_cases h5:x5=y5<;>by_cases h6:x6=y6<;>simp [h1,h2,h3,h4,h5,h6]
theorem neQ (w:World) (x y:Q6):(binOp .neq 36 (.agg #[.int .i64 x.a,.int .i64 x.b,.int .i64 x.c,.int .i64 x.d,.int .i64 x.e,.int .i64 x.f]) (.agg #[.int .i64 y.a,.int .i64 y.b,.int .i64 y.c,.int .i64 y.d,.int .i64 y.e,.int .i64 y.f])).run Tryz.prog w=.ok (.bool (!decide (x=y))) w:=by
 rw [run_neq_struct]
 have:=eqQ w x y
 unfold Q6.v at this
 rw [this];rfl
theorem guardQ:Tryz.prog.eqGuardType Tryz.prog.depth 36=false:=by kernel_rfl
set_option maxRecDepth 100000 in
set_option maxHeartbeats 4000000 in
theorem equalU_any (va vb:Value) (B C n m:Nat) (P Q:List Q6) (w:World) (ha:w.ownsRow B 36 6 va n (qvs P)) (hb:w.ownsRow C 36 6 vb m (qvs Q)) (hl:P.length≤1073741824) :
  Calls Tryz.prog 27 #[va,vb] w fun e w'=>e=.returned (.bool (decide (P=Q)))∧Below w.heap.size w w':=by
 have hn:n=P.length:=by have:=ha.1;rw [qvs_len] at this;omega
 have hm':m=Q.length:=by have:=hb.1;rw [qvs_len] at this;omega
 subst hn hm'
 obtain ⟨ao,ca,rfl⟩:∃ ao ca,va=.slice ao P.length ca:=by
  rcases ha.2 with ⟨e,h0⟩|⟨g,cap,cur,e,-⟩
  ·exact ⟨none,0,by rw [h0];exact e⟩
  ·exact ⟨_,_,e⟩
 obtain ⟨bo,cb,rfl⟩:∃ bo cb,vb=.slice bo Q.length cb:=by
  rcases hb.2 with ⟨e,h0⟩|⟨g,cap,cur,e,-⟩
  ·exact ⟨none,0,by rw [h0];exact e⟩
  ·exact ⟨_,_,e⟩
 have HA:=hide ha
 have HB:=hide hb
 by_cases hq:P.length=Q.length
 case neg =>
  have i1:((P.length:Int)==(Q.length:Int))=false:=by simp;omega
  have i2:(P.length==Q.length)=false:=by simp;omega
  have HR:Hid (decide (P=Q)=false):=decide_eq_false (fun e=>hq (by rw [e]))
  clear ha hb hq
  go_enter Tryz.func27,Tryz.ntmps27
  go_wp2_with fail
  go_ret
  exact ⟨by rw [HR.out];rfl,Below.refl _ w⟩
 have i1:((P.length:Int)==(Q.length:Int))=true:=by simp;omega
 have i2:(P.length==Q.length)=true:=by simp;omega
 have HQ:=hide hq
 generalize hR:decide (P=Q)=R
 have HR:=hide hR
 clear ha hb hR hq
 go_enter Tryz.func27,Tryz.ntmps27
 go_wp2_with fail
 go_loopw [13] (fun v wr=>∃ k:Nat,v=.int .i64 k∧k≤P.length∧Hid (P.take k=Q.take k)∧Hid (Below w.heap.size w wr)) (fun v _=>P.length - (intOf v).toNat)
 case atStart=>exact ⟨0,rfl,Nat.zero_le _,hide rfl,Below.refl _ w⟩
 case round =>
  obtain ⟨k,rfl,hk,HE,HK⟩:=hrel
  by_cases g1:k<P.length
  case neg =>
   have j1:decide ((k:Int)<(P.length:Int))=false:=by simp;omega
   have j2:decide (k<P.length)=false:=by simp;omega
   have HF:Hid (R=true):=by
    have h:=HE.out
    rw [List.take_of_length_le (by omega),List.take_of_length_le (by have:=HQ.out;omega)] at h
    rw [← HR.out];exact decide_eq_true h
   clear g1 HE HQ HR
   go_wp2_with fail
   go_ret
   exact ⟨by rw [HF.out];rfl,HK.out⟩
  have j1:decide ((k:Int)<(P.length:Int))=true:=by simp;omega
  have j2:decide (k<P.length)=true:=by simp;omega
  have g2:k<Q.length:=by have:=HQ.out;omega
  have j3:(k:Int)<(P.length:Int):=by omega
  have j4:(k:Int)<(Q.length:Int):=by omega
  have ex:=List.getElem?_eq_getElem g1
  have ey:=List.getElem?_eq_getElem g2
  generalize P[k]=x at ex
  generalize Q[k]=y at ey
  obtain ⟨b1,_,e1,-,-,-,-,z1,p1,p2,p3,p4,p5,p6⟩:=q_cells HA.out ex
  obtain ⟨b2,_,e2,-,-,-,-,z2,q1,q2,q3,q4,q5,q6⟩:=q_cells HB.out ey
  cases e1
  cases e2
  have hkc:=bcell HK.out
  replace p1:=(hkc.1 _ _ z1).trans p1
  replace p2:=(hkc.1 _ _ z1).trans p2
  replace p3:=(hkc.1 _ _ z1).trans p3
  replace p4:=(hkc.1 _ _ z1).trans p4
  replace p5:=(hkc.1 _ _ z1).trans p5
  replace p6:=(hkc.1 _ _ z1).trans p6
  replace q1:=(hkc.1 _ _ z2).trans q1
  replace q2:=(hkc.1 _ _ z2).trans q2
  replace q3:=(hkc.1 _ _ z2).trans q3
  replace q4:=(hkc.1 _ _ z2).trans q4
  replace q5:=(hkc.1 _ _ z2).trans q5
  replace q6:=(hkc.1 _ _ z2).trans q6
  have HX:=hide ex
  have HY:=hide ey
  have r1:=fun W=>neQ W x y
  have r2:=guardQ
  clear ex ey hkc
  by_cases g3:x=y
  ·have i5:decide (x=y)=true:=decide_eq_true g3
   have HN:Hid (P.take (k+1)=Q.take (k+1)):=by
    show _=_
    rw [List.take_add_one,List.take_add_one,HE.out,HX.out,HY.out,g3]
   clear g3 HE
   rw [i5] at r1
   go_wp2_with fail
   go_quiet (fail)
   go_wp2_with fail
   refine ⟨⟨k+1,by simp,by omega,HN,belowN HK.out _⟩,?_⟩
   show P.length - (k+1)<P.length - k
   omega
  ·have i5:decide (x=y)=false:=decide_eq_false g3
   have HF:Hid (R=false):=by
    rw [← HR.out]
    refine decide_eq_false (fun e=>g3 ?_)
    have:=HX.out
    rw [e,HY.out] at this
    exact (Option.some.inj this).symm
   clear g3 HE HR
   rw [i5] at r1
   go_wp2_with fail
   go_quiet (fail)
   go_wp2_with fail
   go_ret
   exact ⟨by rw [HF.out];rfl,belowN HK.out _⟩
end Go.Proofs.YtbmebfgapjhchaaGreatDoor
/- Rows of names and of files,made again (slices.Clone). -/
namespace Go.Proofs.YtbmebfgapjhchaaGreatDoor
open Go.RowKit
open M
theorem infoUse:(Tryz.prog.info? 36).map (fun i=>(i.zero,i.size,i.bytes))=some (some (.agg #[.int .i64 0,.int .i64 0,.int .i64 0,.int .i64 0,.int .i64 0,.int .i64 0]),6,48):=by kernel_rfl
theorem q_one (L:List Q6):∀ u∈qvs L,u.oneCell'=true:=by
 intro u hu
 obtain ⟨t,-,ht⟩:=List.mem_flatMap.1 hu
 unfold Q6.vals at ht
 simp only [List.mem_cons,List.not_mem_nil,or_false] at ht
 rcases ht with rfl|rfl|rfl|rfl|rfl|rfl<;>rfl
set_option maxRecDepth 100000 in
theorem run_append_q (w:World) (B C n cap g:Nat) (v:Value) (L:List Q6) (hown:w.ownsRow B 36 6 v 0 []) (h:w.ownsRow C 36 6 (.slice (some ⟨g,0,none⟩) n cap) n (qvs L)) (hl:n≤1073741824) (hB:B≤w.heap.size) (ty:TypeId) :
  ∃ v' w',(Builtin.append_ #[31,31] ty #[v,.slice (some ⟨g,0,none⟩) n cap]).run Tryz.prog w=.ok v' w'∧w'.ownsRow B 36 6 v' n (qvs L)∧w.grownBy w' v.ownBlock:=by
 obtain ⟨i0,hi0,hz0,hz1,hz2⟩:=info_parts infoUse
 have HN:∀ j u,(qvs L)[j]?=some u→w.cell? ((⟨g,0,none⟩:Addr).add j)=some u:=h.cells rfl
 obtain ⟨v',w',a1,a2,a3,-⟩:=run_append_own (P:=Tryz.prog) w B 31 ty 36 i0 _ 6 48 Tryz.underlying31 hi0 hz0 hz1 hz2 rfl (by decide) v 0 [] hown ⟨g,0,none⟩ n cap (qvs L) h.1 HN (q_one L) (by unfold maxLen;omega) (by omega) hB
 exact ⟨v',w',a1,by simpa using a2,a3⟩
set_option maxRecDepth 100000 in
set_option maxHeartbeats 4000000 in
theorem cloneU_any (v:Value) (C n:Nat) (L:List Q6) (w:World) (h:w.ownsRow C 36 6 v n (qvs L)) (hl:n≤1073741824) :
  Calls Tryz.prog 25 #[v] w fun e w'=>∃ v',e=.returned v'∧Hid (w'.ownsRow w.heap.size 36 6 v' n (qvs L)∧Below w.heap.size w w'):=by
 have q22:∀ (w:World) (a:Option Addr) (n c n' c':Nat),(binOp .eql 31 (.slice a n c) (.slice none n' c')).run Tryz.prog w=.ok (.bool a.isNone) w:=fun w a n c n' c'=>Lib.run_eql_slice_nil w _ _ a n c n' c' Tryz.underlying31
 have h':=h
 rcases h'.2 with ⟨rfl,rfl⟩|⟨g,cap,cur,rfl,-⟩
 ·have HF:Hid (w.ownsRow w.heap.size 36 6 (.slice none 0 0) 0 (qvs L)∧Below w.heap.size w w):=⟨⟨h.1,.inl ⟨rfl,rfl⟩⟩,Below.refl _ w⟩
  clear h
  go_enter Tryz.func25,Tryz.ntmps25
  go_wp2_with fail
  go_ret
  exact ⟨_,rfl,HF⟩
 ·have hb0:Below w.heap.size w (w.alloc (.cells #[] 36)):=(Below.refl _ w).alloc (Nat.le_refl _) _
  have hown0:(w.alloc (.cells #[] 36)).ownsRow w.heap.size 36 6 (.slice (some ⟨w.heap.size,0,none⟩) 0 0) 0 []:=⟨rfl,.inr ⟨_,0,#[],rfl,Nat.le_refl _,heap_alloc_new _ _,Nat.le_refl _,Nat.zero_le _,rfl,rfl⟩⟩
  obtain ⟨v',w',a1,a2,a3⟩:=run_append_q _ _ C n cap g _ L hown0 (h.alloc _) hl hb0.size 31
  have HF:Hid (w'.ownsRow w.heap.size 36 6 v' n (qvs L)∧Below w.heap.size w w'):=⟨a2,hb0.grown a3 hb0.size (fun k hk=>by cases hk;exact Nat.le_refl _)⟩
  clear h h' hown0 hb0 a2 a3
  go_enter Tryz.func25,Tryz.ntmps25
  go_wp2_with (at_builtin;refine Lib.wpList_append_run _ rfl _ _ _ _ rfl _ _ rfl rfl _ _ a1 ?_)
  go_ret
  exact ⟨_,rfl,HF⟩
end Go.Proofs.YtbmebfgapjhchaaGreatDoor
