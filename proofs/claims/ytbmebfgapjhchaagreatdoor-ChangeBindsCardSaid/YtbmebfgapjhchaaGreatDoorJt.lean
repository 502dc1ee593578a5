/- Package scope: what is known of one file. -/
import Derived.Test.YtbmebfgapjhchaaGreatDoorJn
import Derived.Test.YtbmebfgapjhchaaGreatDoorVv
import Derived.Laws.MakeOwn
import Derived.Test.YtbmebfgapjhchaaGreatDoorJe
namespace Go.Proofs.YtbmebfgapjhchaaGreatDoor
open Go.RowKit
open M
theorem infoA:(Tryz.prog.info? 205).map (fun i=>(i.zero,i.size,i.bytes))=some (some (.agg #[.int .i64 0,.int .i64 0,.int .i64 0,.int .i64 0]),4,32):=by kernel_rfl
theorem mk_ans (n:Nat) (hn:n≤268435456):∃ A:Array Value,A.size=n*4∧(∀ g,g<n*4→A[g]?=some (.int .i64 0))∧∀ W:World,(Instr.makeSlice 159 (.int .i64 n) (.int .i64 n)).run Tryz.prog W=.ok (.slice (some ⟨W.heap.size,0,none⟩) n n) (W.alloc (.cells A 205)):=by
 obtain ⟨i,hi,z0,z1,z2⟩:=info_parts infoA
 refine ⟨madeCells (Value.agg #[.int .i64 0,.int .i64 0,.int .i64 0,.int .i64 0]).cells (n*i.size),by rw [size_madeCells,z1],fun g hg=>?_,fun W=>?_⟩
 ·rw [z1]
  have h4:g % 4=0∨g % 4=1∨g % 4=2∨g % 4=3:=by omega
  rcases h4 with e|e|e|e<;>simp [madeCells,Value.cells,hg,e]
 ·have:=run_make (P:=Tryz.prog) W 159 205 i _ Tryz.underlying159 hi z0 .i64 .i64 n n (by omega) (Int.le_refl _) (by rw [z2];omega) (by omega)
  simpa using this
namespace X
theorem topI_snoc {l:List It} {j:Nat} {it:It} (h:l[j]?=some it) (x:List UInt8):topI (l.take (j+1)) x=match topI (l.take j) x with|some i=>some i|none=>if x≠[]∧(called it).1=x then some j else none:=by
 have hj:j<l.length:=by
  rcases Nat.lt_or_ge j l.length with g|g
  ·exact g
  ·rw [List.getElem?_eq_none g] at h;cases h
 unfold topI
 by_cases hx:x=[]
 ·simp [hx]
 ·rw [if_neg hx,if_neg hx,take_snoc h,List.findIdx?_append]
  cases hf:(l.take j).findIdx? (fun it=>(called it).1==x) with
  | some i=>simp
  | none =>
   by_cases e:(called it).1=x
   ·have e2:((called it).1==x)=true:=by simpa using e
    simp [List.findIdx?_cons,e,hx,List.length_take]
    omega
   ·have e2:((called it).1==x)=false:=by simpa using e
    simp [List.findIdx?_cons,e2,e]
end X
structure IsF (w w':World) (iv:Value) (its:List X.It):Prop where
 blk:w'.heap[w.heap.size+2]?=some (.cells #[iv,.map (some w.heap.size),.slice (some ⟨w.heap.size+1,0,none⟩) its.length its.length] 161 (0,0))
 mp:∃ k,Mp w' w.heap.size k (X.topI its)
 ans:∃ A,w'.heap[w.heap.size+1]?=some (.cells A 205 (0,0))∧A.size=its.length*4∧∀ g,g<its.length*4→A[g]?=some (.int .i64 0)
 bl:Below w.heap.size w w'
theorem IsIts.blw {w w':World} {lo hi:Nat} {rv:Value} {es:List X.It} {S:Nat→Prop} (h:IsIts w lo hi rv es) (hk:Kp S w w') (hS:∀ q,lo≤q→q<hi→¬ S q):IsIts w' lo hi rv es:=by
 obtain ⟨ao,cap,vs,e,c1,c2,c3,c4⟩:=h.ex
 exact ⟨ao,cap,vs,e,c1,c2,fun j hj=>by obtain ⟨g,x1,x2,x3,x4,c,f,x5⟩:=c3 j hj;exact ⟨g,x1,x2,x3,hk.cellv x4 (hS g x2 x3),c,f,hk.heap x5 (hS g x2 x3)⟩,fun j e hj=>(c4 j e hj).keep hk hS⟩
structure InR (W:World) (nb:Nat) (its:List X.It) (j:Nat) (wr:World):Prop where
 kp:Kp (fun q=>q=nb) W wr
 mp:Mp wr nb j (X.topI (its.take j))
theorem InR.more {W:World} {nb:Nat} {its:List X.It} {j:Nat} {wr w2:World} {it:X.It} (h:InR W nb its j wr) (he:its[j]?=some it) (hk:Kp (fun q=>q=nb) wr w2) {k:Nat} {g:List UInt8→Option Nat} (hm:Mp w2 nb k g) (hk1:k≤j+1) (hg:∀ x,g x=match X.topI (its.take j) x with|some i=>some i|none=>if x≠[]∧(X.called it).1=x then some j else none):InR W nb its (j+1) w2:=by
 refine ⟨h.kp.trans hk (fun _ _ e=>e),?_⟩
 obtain ⟨D,o1,o2⟩:=hm
 exact Mp.congr ⟨D,o1.mono hk1,o2⟩ (fun x=>by rw [hg x,X.topI_snoc he])
set_option maxRecDepth 100000 in
set_option maxHeartbeats 8000000 in
theorem fileOf_any (lo hi:Nat) (iv:Value) (its:List X.It) (w:World) (hits:IsIts w lo hi iv its) (hhi:hi≤w.heap.size) (hlen:its.length≤268435456) (hB:∀ it∈its,X.itB 268435456 it) :
  Calls Tryz.prog 42 #[iv] w fun e w'=>e=.returned (.pointer (some ⟨w.heap.size+2,0,none⟩))∧Hid (IsF w w' iv its):=by
 obtain ⟨A,hA1,hA2,hA3⟩:=mk_ans its.length hlen
 have hmm:=mkMap
 obtain ⟨ao,cap,vs,hrv,z2,z3,z4,z5⟩:=hits.ex
 subst hrv
 have HBd:=hide hB
 have Z4:=hide z4
 have Z5:=hide z5
 clear hB z4 z5 hits
 go_enter Tryz.func42,Tryz.ntmps42
 go_upto_region 2 with fail
 have kW:Below w.heap.size w (((w.alloc (.map #[] 0)).alloc (.cells A 205)).alloc (.cells #[.slice ao its.length cap,.map (some w.heap.size),.slice (some ⟨w.heap.size+1,0,none⟩) its.length its.length] 161)):=(((Below.refl _ w).alloc (Nat.le_refl _) _).alloc (by simp) _).alloc (by simp;omega) _
 have hM0:Mp (((w.alloc (.map #[] 0)).alloc (.cells A 205)).alloc (.cells #[.slice ao its.length cap,.map (some w.heap.size),.slice (some ⟨w.heap.size+1,0,none⟩) its.length its.length] 161)) w.heap.size 0 (X.topI (its.take 0)):=by
  refine Mp.congr ((Mp.made w).below (((Below.refl _ _).alloc (Nat.le_refl _) _).alloc (by simp) _)) (fun x=>?_)
  rw [List.take_zero]
  unfold X.topI
  split<;>rfl
 have hA0:(((w.alloc (.map #[] 0)).alloc (.cells A 205)).alloc (.cells #[.slice ao its.length cap,.map (some w.heap.size),.slice (some ⟨w.heap.size+1,0,none⟩) its.length its.length] 161)).heap[w.heap.size+1]?=some (.cells A 205 (0,0)):=by
  refine (heap_alloc_old _ _ (by simp)).trans ?_
  have:=heap_alloc_new (w.alloc (.map #[] 0)) (.cells A 205)
  simpa using this
 have hF0:(((w.alloc (.map #[] 0)).alloc (.cells A 205)).alloc (.cells #[.slice ao its.length cap,.map (some w.heap.size),.slice (some ⟨w.heap.size+1,0,none⟩) its.length its.length] 161)).heap[w.heap.size+2]?=some (.cells #[.slice ao its.length cap,.map (some w.heap.size),.slice (some ⟨w.heap.size+1,0,none⟩) its.length its.length] 161 (0,0)):=by
  have:=heap_alloc_new ((w.alloc (.map #[] 0)).alloc (.cells A 205)) (.cells #[.slice ao its.length cap,.map (some w.heap.size),.slice (some ⟨w.heap.size+1,0,none⟩) its.length its.length] 161)
  simpa using this
 have hwsz:(((w.alloc (.map #[] 0)).alloc (.cells A 205)).alloc (.cells #[.slice ao its.length cap,.map (some w.heap.size),.slice (some ⟨w.heap.size+1,0,none⟩) its.length its.length] 161)).heap.size=w.heap.size+3:=by simp
 have HKW:=hide kW
 have HF0:=hide hF0
 have HA0:=hide hA0
 have HI0:Hid (InR (((w.alloc (.map #[] 0)).alloc (.cells A 205)).alloc (.cells #[.slice ao its.length cap,.map (some w.heap.size),.slice (some ⟨w.heap.size+1,0,none⟩) its.length its.length] 161)) w.heap.size its 0 (((w.alloc (.map #[] 0)).alloc (.cells A 205)).alloc (.cells #[.slice ao its.length cap,.map (some w.heap.size),.slice (some ⟨w.heap.size+1,0,none⟩) its.length its.length] 161))):=⟨Kp.refl _ _,hM0⟩
 have HSZ:=hide hwsz
 clear kW hM0 hF0 hA0 hmm hA3 hwsz
 generalize (((w.alloc (.map #[] 0)).alloc (.cells A 205)).alloc (.cells #[.slice ao its.length cap,.map (some w.heap.size),.slice (some ⟨w.heap.size+1,0,none⟩) its.length its.length] 161))=W at *
 go_wp2_with fail
 go_loopw [18] (fun v wr=>∃ j:Nat,v=.int .i64 j∧j≤its.length∧Hid (InR W w.heap.size its j wr)) (fun v _=>its.length - (intOf v).toNat)
 case atStart=>exact ⟨0,rfl,Nat.zero_le _,HI0⟩
 case round =>
  obtain ⟨j,rfl,hj,HI⟩:=hrel
  clear HI0
  have k2r:Kp (fun q=>q=w.heap.size) w wr:=Kp.trans (Kp.ofBelow HKW.out _) (HI.out).kp (fun _ _ e=>e)
  have hav:∀ q,lo≤q→q<hi→¬ q=w.heap.size:=fun q _ h e=>by omega
  by_cases hjl:j<its.length
  ·obtain ⟨it,he⟩:∃ it,its[j]?=some it:=⟨its[j],List.getElem?_eq_getElem hjl⟩
   obtain ⟨g,hao,y1,y2,y3,-⟩:=(Z4.out) j hjl
   have hi1:(j:Int)<(its.length:Int):=by omega
   have y4:=k2r.cellv y3 (hav g y1 y2)
   have hIs:=((Z5.out) j it he).keep k2r hav
   obtain ⟨q1,q2⟩:=called_B ((HBd.out) it (List.mem_of_getElem? he))
   have hlen2:(X.called it).1.length≤maxLen:=by unfold maxLen;omega
   obtain ⟨b,hcase⟩:=called_of hIs
   have hFr:=(HI.out).kp.heap HF0.out (by omega)
   have f1:=cell_of_row wr _ 1 _ _ _ hFr
   have hfl:=heap_lt hFr
   have hwr:w.heap.size+3≤wr.heap.size:=by have:=(HI.out).kp.size;have:=HSZ.out;omega
   subst hao
   clear y3 hIs k2r hFr hav
   generalize hnn:X.called it=nn at *
   generalize vs j=vj at *
   have HNN:=hide hnn
   clear hnn
   rcases hcase with ⟨rfl,hc⟩|⟨rfl,hc⟩
   all_goals
    have HC:=hide hc
    clear hc
    go_wp2_with fail
    refine (HC.out).mono ?_
    rintro e w3 ⟨rfl,B3⟩
    have k3:Below wr.heap.size wr (w3.alloc (.cells #[.string (ba nn.1),.int .i64 nn.2] 165)):=B3.alloc B3.size _
    have hmp3:=(HI.out).mp.below (k3.drew)
    have hrun:=hmp3.run_ok hlen2
    have f13:=kcb k3 hfl f1
    have HN3:=hide (heap_alloc_new w3 (.cells #[.string (ba nn.1),.int .i64 nn.2] 165))
    have n03:=cell_of_row _ _ 0 _ _ _ HN3.out
    have n13:=cell_of_row _ _ 1 _ _ _ HN3.out
    have hw3:wr.heap.size≤w3.heap.size:=B3.size
    have hw4:(w3.alloc (.cells #[.string (ba nn.1),.int .i64 nn.2] 165)).heap.size=w3.heap.size+1:=by simp
    have HK3:=hide k3
    have HM3:=hide hmp3
    clear k3 hmp3 HC B3
    cases htp:X.topI (its.take j) nn.1 with
    | some i =>
     rw [htp] at hrun
     have hrun':(Instr.lookup 85 (.map (some w.heap.size)) (.string (ba nn.1)) true).run Tryz.prog (w3.alloc (.cells #[.string (ba nn.1),.int .i64 nn.2] 165)).drew=.ok (.tuple #[.int .i64 (i:Nat),.bool true]) (w3.alloc (.cells #[.string (ba nn.1),.int .i64 nn.2] 165)).drew:=hrun
     have HI3:Hid (InR W w.heap.size its (j+1) (w3.alloc (.cells #[.string (ba nn.1),.int .i64 nn.2] 165)).drew):=(HI.out).more he (Kp.ofBelow (HK3.out).drew _) HM3.out (by omega) (fun x=>by
      cases hx:X.topI (its.take j) x with
      | some i=>rfl
      | none =>
       have:¬(x≠[]∧(X.called it).1=x):=fun e=>by rw [HNN.out] at e;rw [← e.2,htp] at hx;cases hx
       show _=if _ then _ else _
       rw [if_neg this])
     clear hrun HM3 HK3 HI hw4
     go_wp2_with fail
     generalize w3.alloc (.cells #[.string (ba nn.1),.int .i64 nn.2] 165)=W4 at *
     go_region_held3 (fun w'=>w'.cell? ⟨w.heap.size+2,1,none⟩=some (.map (some w.heap.size))∧w'.cell? ⟨w3.heap.size,0,none⟩=some (.string (ba nn.1))∧(Instr.lookup 85 (.map (some w.heap.size)) (.string (ba nn.1)) true).run Tryz.prog w'=.ok (.tuple #[.int .i64 (i:Nat),.bool true]) w')
      (first|(with_reducible exact ⟨f13,n03,hrun'⟩)|go_keep)
      (fail)
     clear hrun' f13 n03 n13
     go_wp2_with fail
     exact ⟨⟨j+1,by simp,by omega,HI3⟩,by simp [intOf];omega⟩
    | none =>
     rw [htp] at hrun
     have hrun':(Instr.lookup 85 (.map (some w.heap.size)) (.string (ba nn.1)) true).run Tryz.prog (w3.alloc (.cells #[.string (ba nn.1),.int .i64 nn.2] 165)).drew=.ok (.tuple #[.int .i64 0,.bool false]) (w3.alloc (.cells #[.string (ba nn.1),.int .i64 nn.2] 165)).drew:=hrun
     clear hrun
     go_wp2_with fail
     generalize w3.alloc (.cells #[.string (ba nn.1),.int .i64 nn.2] 165)=W4 at *
     go_region_held3 (fun w'=>w'.cell? ⟨w.heap.size+2,1,none⟩=some (.map (some w.heap.size))∧w'.cell? ⟨w3.heap.size,0,none⟩=some (.string (ba nn.1))∧(Instr.lookup 85 (.map (some w.heap.size)) (.string (ba nn.1)) true).run Tryz.prog w'=.ok (.tuple #[.int .i64 0,.bool false]) w')
      (first|(with_reducible exact ⟨f13,n03,hrun'⟩)|go_keep)
      (fail)
     have f14:W4.drew.cell? ⟨w.heap.size+2,1,none⟩=some (.map (some w.heap.size)):=f13
     have n04:W4.drew.cell? ⟨w3.heap.size,0,none⟩=some (.string (ba nn.1)):=n03
     have n14:W4.drew.cell? ⟨w3.heap.size,1,none⟩=some (.int .i64 nn.2):=n13
     have HK4:Hid (Below wr.heap.size wr W4.drew):=(HK3.out).drew
     have hs4:W4.drew.heap.size=w3.heap.size+1:=hw4
     clear hrun' f13 n03 n13 hw4 HK3 HN3
     generalize W4.drew=Wd at *
     by_cases hn:nn.1=[]
     ·have e1:nn.1.isEmpty=true:=by rw [hn];rfl
      have HC5:=hide (nameMissing_is nn.1 nn.2 Wd true e1)
      have HH:Hid (∀ x,X.topI (its.take j) x=match X.topI (its.take j) x with|some i=>some i|none=>if x≠[]∧(X.called it).1=x then some j else none):=fun x=>by
       cases hx:X.topI (its.take j) x with
       | some i=>rfl
       | none =>
        have:¬(x≠[]∧(X.called it).1=x):=fun e=>by rw [HNN.out] at e;exact e.1 (e.2.symm.trans hn)
        show _=if _ then _ else _
        rw [if_neg this]
      clear hn
      go_wp2_with fail
      refine (HC5.out).mono ?_
      rintro e w5 ⟨rfl,B5⟩
      have HI5:Hid (InR W w.heap.size its (j+1) w5):=(HI.out).more he (Kp.ofBelow ((HK4.out).trans (B5.mono (HK4.out).size)) _) ((HM3.out).below B5) (by omega) HH.out
      clear B5 HC5 HI HM3 HK4 f14 n04 n14
      go_wp2_with fail
      exact ⟨⟨j+1,by simp,by omega,HI5⟩,by simp [intOf];omega⟩
     ·have e1:nn.1.isEmpty=false:=by cases hx:nn.1 with|nil=>exact absurd hx hn|cons a l=>rfl
      have HC5:=hide (nameMissing_is nn.1 nn.2 Wd false e1)
      have HH:Hid (∀ x,upd (X.topI (its.take j)) nn.1 j x=match X.topI (its.take j) x with|some i=>some i|none=>if x≠[]∧(X.called it).1=x then some j else none):=fun x=>by
       unfold upd
       rw [HNN.out]
       by_cases e:x=nn.1
       ·subst e
        rw [if_pos rfl,htp]
        show _=if _ then _ else _
        rw [if_pos ⟨hn,rfl⟩]
       ·rw [if_neg e]
        cases hx:X.topI (its.take j) x with
        | some i=>rfl
        | none =>
         show _=if _ then _ else _
         rw [if_neg (fun e2=>e e2.2.symm)]
      clear hn
      go_wp2_with fail
      refine (HC5.out).mono ?_
      rintro e w5 ⟨rfl,B5⟩
      have f15:=kcb B5 (by omega) f14
      have n05:=kcb B5 (by omega) n04
      have HK5:Hid (Below wr.heap.size wr w5):=(HK4.out).trans (B5.mono (HK4.out).size)
      have HM5:Hid (Mp w5.drew w.heap.size j (X.topI (its.take j))):=((HM3.out).below B5).below ((Below.refl _ w5).drew)
      have hjm:j<maxLen:=by unfold maxLen;omega
      have hn2:j≤9223372036854775807:=by omega
      clear B5 HC5 HM3 HK4 f14 n04 n14
      go_wp2_with fail
      refine wpTo_start (S:=fun w'=>w'.cell? ⟨w.heap.size+2,1,none⟩=some (.map (some w.heap.size))∧w'.cell? ⟨w3.heap.size,0,none⟩=some (.string (ba nn.1))) (z:=7) (by kernel_rfl) ?_
      have hS:w5.drew.cell? ⟨w.heap.size+2,1,none⟩=some (.map (some w.heap.size))∧w5.drew.cell? ⟨w3.heap.size,0,none⟩=some (.string (ba nn.1)):=⟨f15,n05⟩
      iterate 7 (refine wpTo_nx0 (v:=?_) rfl rfl (by kernel_rfl) (by kernel_rfl) (by kernel_rfl) (by kernel_rfl) (fun _ _ _ h=>h) (Or.inl ⟨by rfl,?_⟩) hS ?_;rotate_left;(· (intro wx hSw;(try dsimp only at hSw);go_simp;try (with_reducible rfl)));simp only [Act.put,List.setIfInBounds_toArray,List.set_cons_zero,List.set_cons_succ])
      refine wpTo_one (i:=7) (by kernel_rfl) rfl (fun K hK=>?_)
      refine step_put_mp (by rfl) _ _ _ (by rfl) w.heap.size j (X.topI (its.take j)) (by rfl) HM5.out hjm nn.1 hlen2 j hn2 (by rfl) (by rfl) ?_
      intro w6 hmp6 hk6
      refine hK.out _ _ (fun h=>absurd rfl h) (fun _=>wpTo_end (by kernel_rfl) ?_)
      clear hK K hS
      have HI6:Hid (InR W w.heap.size its (j+1) w6):=(HI.out).more he (Kp.trans (Kp.ofBelow (HK5.out).drew _) hk6 (fun _ _ e=>e)) hmp6 (Nat.le_refl _) HH.out
      clear hmp6 hk6 HM5 HK5 HI f15 n05
      go_wp2_with fail
      exact ⟨⟨j+1,by simp,by omega,HI6⟩,by simp [intOf];omega⟩
  ·obtain rfl:j=its.length:=by omega
   have hd1:¬(its.length:Int)<(its.length:Int):=by omega
   have HF:Hid (IsF w wr (.slice ao its.length cap) its):=by
    have hk:=(HI.out).kp
    refine ⟨hk.heap HF0.out (by omega),⟨its.length,?_⟩,⟨A,hk.heap HA0.out (by omega),hA1,hA2⟩,k2r.below (Nat.le_refl _) (fun q e=>by omega)⟩
    have:=(HI.out).mp
    rw [List.take_length] at this
    exact this
   clear HI k2r hav
   go_wp2_with fail
   go_ret
   exact ⟨rfl,HF⟩
end Go.Proofs.YtbmebfgapjhchaaGreatDoor
/- Package scope: the files of a workspace,as they are read. -/
namespace Go.Proofs.YtbmebfgapjhchaaGreatDoor
open Go.RowKit
open M
namespace X
theorem btw_len:∀ (l:List U) (lo hi:Nat),Between lo hi l→l.length≤hi - lo
 | [],lo,hi,_=>Nat.zero_le _
 | a::l,lo,hi,h=>by
  obtain ⟨h1,h2⟩:=h
  rw [List.pairwise_cons] at h1
  have ha:=h2 a (by simp)
  have:=btw_len l (a.i+1) hi ⟨h1.2,fun u hu=>⟨h1.1 u hu,(h2 u (by simp [hu])).2⟩⟩
  rw [List.length_cons];omega
def T0:List UInt8:=[100,101,102,32,120,32,61,32,49,59]
def I0:List It:=[.dfn false ([120],4) none (.lit 15 [49])]
theorem file0:fileL (xt T0)=[.br 4 [.leaf 4 [100,101,102],.leaf 1 [32],.leaf 3 [120],.leaf 1 [32],.leaf 7 [61],.br 15 [.leaf 1 [32],.leaf 5 [49]],.leaf 7 [59]]]:=by kernel_rfl
theorem qu0:∀ q∈[Part.leaf 1 [32]],lq q=true:=fun q hq=>by rw [List.mem_singleton.1 hq];rfl
theorem rdf0:Rdf (fileL (xt T0)) 0 I0:=by
 rw [file0]
 refine Rdf.item (.br 4 ([]++([.leaf 4 [100,101,102]]++([.leaf 1 [32],.leaf 3 [120]]++([]++([.leaf 1 [32],.leaf 7 [61]]++([.br 15 [.leaf 1 [32],.leaf 5 [49]]]++[.leaf 7 [59]]))))))) [] 0 _ [] ?_ (.leaves [] _ (fun q hq=>by cases hq))
 exact .dfn [] [.leaf 4 [100,101,102]] [.leaf 1 [32],.leaf 3 [120]] [] [.leaf 1 [32],.leaf 7 [61]] (.br 15 [.leaf 1 [32],.leaf 5 [49]]) [.leaf 7 [59]] 0 false ([120],4) none (.lit 15 [49]) .no (.inl ⟨4,[100,101,102],[],⟨rfl,fun q hq=>(by cases hq),by decide⟩,by decide⟩) (.name _ [120] [.leaf 1 [32]] 3 ⟨rfl,qu0,by decide⟩) (.no _) (.inl ⟨7,[61],[.leaf 1 [32]],⟨rfl,qu0,by decide⟩⟩) (.lit 15 5 [49] _ [.leaf 1 [32]] _ (by decide) ⟨rfl,qu0,by decide⟩) (.inl ⟨7,[59],[],⟨rfl,fun q hq=>(by cases hq),by decide⟩⟩)
def T1:List UInt8:=[100,101,102,32,121,32,61,32,49,59]
def I1:List It:=[.dfn false ([121],4) none (.lit 15 [49])]
theorem file1:fileL (xt T1)=[.br 4 [.leaf 4 [100,101,102],.leaf 1 [32],.leaf 3 [121],.leaf 1 [32],.leaf 7 [61],.br 15 [.leaf 1 [32],.leaf 5 [49]],.leaf 7 [59]]]:=by kernel_rfl
theorem rdf1:Rdf (fileL (xt T1)) 0 I1:=by
 rw [file1]
 refine Rdf.item (.br 4 ([]++([.leaf 4 [100,101,102]]++([.leaf 1 [32],.leaf 3 [121]]++([]++([.leaf 1 [32],.leaf 7 [61]]++([.br 15 [.leaf 1 [32],.leaf 5 [49]]]++[.leaf 7 [59]]))))))) [] 0 _ [] ?_ (.leaves [] _ (fun q hq=>by cases hq))
 exact .dfn [] [.leaf 4 [100,101,102]] [.leaf 1 [32],.leaf 3 [121]] [] [.leaf 1 [32],.leaf 7 [61]] (.br 15 [.leaf 1 [32],.leaf 5 [49]]) [.leaf 7 [59]] 0 false ([121],4) none (.lit 15 [49]) .no (.inl ⟨4,[100,101,102],[],⟨rfl,fun q hq=>(by cases hq),by decide⟩,by decide⟩) (.name _ [121] [.leaf 1 [32]] 3 ⟨rfl,qu0,by decide⟩) (.no _) (.inl ⟨7,[61],[.leaf 1 [32]],⟨rfl,qu0,by decide⟩⟩) (.lit 15 5 [49] _ [.leaf 1 [32]] _ (by decide) ⟨rfl,qu0,by decide⟩) (.inl ⟨7,[59],[],⟨rfl,fun q hq=>(by cases hq),by decide⟩⟩)
noncomputable def itsT (x:List UInt8):List It:=open Classical in if x=T0 then I0 else if x=T1 then I1 else if h:∃ its,Rdf (fileL (xt x)) 0 its then Classical.choose h else []
theorem itsT_rdf (x:List UInt8):Rdf (fileL (xt x)) 0 (itsT x):=by
 have h:∃ its,Rdf (fileL (xt x)) 0 its:=file_rdf _ (xt x) (Nat.le_refl _) (fun t ht e=>by have:=(xt_fits x t ht).2.2.2.1;omega) 0
 unfold itsT
 by_cases e:x=T0
 ·rw [if_pos e,e];exact rdf0
 ·rw [if_neg e]
  by_cases e1:x=T1
  ·rw [if_pos e1,e1];exact rdf1
  ·rw [if_neg e1,dif_pos h]
   exact Classical.choose_spec h
theorem itsT0:itsT T0=I0:=if_pos rfl
theorem itsT1:itsT T1=I1:=(if_neg (by decide)).trans (if_pos rfl)
end X
noncomputable def fsOf (l:List AF):List X.Fl:=l.map fun a=>(bs a.n,X.itsT (bs a.t))
theorem fsOf_get {l:List AF} {i:Nat} {a:AF} (h:l[i]?=some a):X.itemsOf (fsOf l) i=X.itsT (bs a.t):=by
 unfold X.itemsOf fsOf
 rw [List.getD_eq_getElem?_getD,List.getElem?_map,h]
 rfl
theorem fsOf_len (l:List AF):(fsOf l).length=l.length:=by unfold fsOf;rw [List.length_map]
theorem fsOf_none {l:List AF} {i:Nat} (h:l.length≤i):X.itemsOf (fsOf l) i=[]:=by
 unfold X.itemsOf fsOf
 rw [List.getD_eq_getElem?_getD,List.getElem?_map,List.getElem?_eq_none h]
 rfl
def Short (l:List AF):Prop:=∀ a∈l,a.t.size≤1000000
theorem short_pz {x:List UInt8} (h:x.length≤1000000):X.pz (X.fileL (X.xt x))≤1000000∧X.pssz (X.fileL (X.xt x))≤268435456:=by
 have hb:X.pb (X.file (X.xt x))=x:=by rw [X.file_keeps,X.xt_tb]
 refine ⟨by rw [pz_file,hb];exact h,?_⟩
 have hll:(X.xt x).length≤x.length:=by
  have:=toks_len _ 0 x (Nat.le_refl _)
  unfold X.xt;rw [List.length_map];exact this
 have h1:=X.file_psz (X.xt x)
 have h3:X.psz (X.file (X.xt x))=1+X.pssz (X.fileL (X.xt x)):=rfl
 omega
theorem its_rdf {l:List AF} (i:Nat):∃ ps,X.Rdf ps 0 (X.itemsOf (fsOf l) i):=by
 rcases Nat.lt_or_ge i l.length with g|g
 ·rw [fsOf_get (List.getElem?_eq_getElem g)]
  exact ⟨_,X.itsT_rdf _⟩
 ·rw [fsOf_none g]
  exact ⟨[],.leaves [] 0 (fun q hq=>by cases hq)⟩
theorem its_bd {l:List AF} (h:Short l) (i:Nat):(∀ it∈X.itemsOf (fsOf l) i,X.itB 268435456 it)∧(X.itemsOf (fsOf l) i).length≤268435456∧∀ fs f,(X.itsU fs f 0 (X.itemsOf (fsOf l) i)).length≤1000000:=by
 rcases Nat.lt_or_ge i l.length with g|g
 ·have ha:=List.getElem?_eq_getElem g
  rw [fsOf_get ha]
  have hr:=X.itsT_rdf (bs l[i].t)
  obtain ⟨p1,p2⟩:=short_pz (x:=bs l[i].t) (by rw [bs_len];exact h _ (List.getElem_mem g))
  refine ⟨X.rdf_B hr (by omega) p2,?_,fun fs f=>?_⟩
  ·have h1:=rdf_len hr
   have h2:=pssz_len (X.fileL (X.xt (bs l[i].t)))
   omega
  ·have:=X.btw_len _ _ _ (X.itsU_btw (fs:=fs) (f:=f) hr 0)
   omega
 ·rw [fsOf_none g]
  exact ⟨fun it hit=>(by cases hit),Nat.zero_le _,fun fs f=>(by rw [X.itsU];exact Nat.zero_le _)⟩
def usT (fs:List X.Fl) (j:Nat):List X.U:=(List.range j).flatMap fun f=>X.itsU fs f 0 (X.itemsOf fs f)
theorem usT_snoc (fs:List X.Fl) (j:Nat):usT fs (j+1)=usT fs j++X.itsU fs j 0 (X.itemsOf fs j):=by
 unfold usT
 rw [List.range_succ,List.flatMap_append]
 simp
theorem usT_len {l:List AF} (h:Short l):∀ j,(usT (fsOf l) j).length≤j*1000000
 | 0=>Nat.zero_le _
 | j+1=>by
  rw [usT_snoc,List.length_append]
  have:=usT_len h j
  have:=(its_bd h j).2.2 (fsOf l) j
  omega
theorem nmOk_ne {s:ByteArray} (h:nmOk s=true):bs s≠[]:=by
 intro e
 unfold nmOk at h
 rw [e] at h
 simp [aloneB] at h
theorem fltN_ok {l:List AF}:∀ {seen:List (List UInt8)},fltN l seen=0→(∀ a∈l,nmOk a.n=true)∧(l.map (fun a=>bs a.n)).Pairwise (·≠·)∧∀ a∈l,bs a.n∉seen:=by
 induction l with
 | nil=>intro seen _;exact ⟨fun a h=>(by cases h),List.Pairwise.nil,fun a h=>(by cases h)⟩
 | cons a l ih =>
  intro seen h
  rw [fltN] at h
  cases hn:nmOk a.n with
  | false=>rw [hn] at h;simp at h
  | true =>
   rw [hn,if_pos rfl] at h
   by_cases hm:bs a.n∈seen
   ·rw [if_pos hm] at h;cases h
   ·rw [if_neg hm] at h
    obtain ⟨h1,h2,h3⟩:=ih h
    refine ⟨fun b hb=>?_,?_,fun b hb=>?_⟩
    ·rcases List.mem_cons.1 hb with rfl|hb
     ·exact hn
     ·exact h1 b hb
    ·rw [List.map_cons,List.pairwise_cons]
     refine ⟨fun x hx e=>?_,h2⟩
     obtain ⟨b,hb,rfl⟩:=List.mem_map.1 hx
     exact h3 b hb (by rw [← e];simp)
    ·rcases List.mem_cons.1 hb with rfl|hb
     ·exact hm
     ·exact fun e=>h3 b hb (by simp [e])
theorem modI_idx {l:List AF} (h:∀ a∈l,nmOk a.n=true) (x:List UInt8):X.modI (fsOf l) x=idxN l x:=by
 have e1:(fsOf l).findIdx? (fun f=>f.1==x)=idxN l x:=by
  unfold fsOf idxN
  rw [List.findIdx?_map]
  rfl
 unfold X.modI
 by_cases hx:x=[]
 ·rw [if_pos hx]
  cases hi:idxN l x with
  | none=>rfl
  | some i =>
   exfalso
   have:=(idxN_mem l x).1 (by rw [hi];rfl)
   obtain ⟨a,ha,e⟩:=List.mem_map.1 this
   exact nmOk_ne (h a ha) (e.trans hx)
 ·rw [if_neg hx,e1]
structure IsFs (w:World) (B:Nat) (rv:Value) (l:List AF) (IV:Nat→Value) (Lo Hi:Nat→Nat):Prop where
 ex:∃ (ao:Option Addr) (cap:Nat),rv=.slice ao l.length cap∧l.length≤cap∧cap≤maxLen∧∀ (j:Nat) (a:AF),l[j]?=some a→∃ g,ao=some ⟨g,0,none⟩∧g<w.heap.size∧B≤g∧w.cell? ⟨g,j*2,none⟩=some (.string a.n)∧w.cell? ⟨g,j*2+1,none⟩=some (IV j)
 its:∀ (j:Nat) (a:AF),l[j]?=some a→IsIts w (Lo j) (Hi j) (IV j) (X.itsT (bs a.t))∧B≤Lo j∧Hi j≤w.heap.size
structure InFs (w:World) (l:List AF) (j:Nat) (rv:Value) (vs:List Value) (IV:Nat→Value) (Lo Hi:Nat→Nat) (wr:World):Prop where
 bl:Below w.heap.size w wr
 row:wr.ownsRow w.heap.size 95 2 rv j vs
 len:vs.length=j*2
 val:∀ i a,i<j→l[i]?=some a→vs[i*2]?=some (.string a.n)∧vs[i*2+1]?=some (IV i)
 its:∀ i a,i<j→l[i]?=some a→IsIts wr (Lo i) (Hi i) (IV i) (X.itsT (bs a.t))∧w.heap.size≤Lo i∧Hi i≤wr.heap.size
 far:∀ g,rv.ownBlock=some g→∀ i,i<j→¬(Lo i≤g∧g<Hi i)
theorem InFs.more {w:World} {l:List AF} {j:Nat} {rv:Value} {vs:List Value} {IV:Nat→Value} {Lo Hi:Nat→Nat} {wr w2 w6 w7:World} {a:AF} {iv:Value} {lo g cap:Nat} (h:InFs w l j rv vs IV Lo Hi wr) (ha:l[j]?=some a) (hb2:Below wr.heap.size wr w2) (hlo:wr.heap.size≤lo) (hits:IsIts w2 lo w2.heap.size iv (X.itsT (bs a.t))) (hb6:Below w2.heap.size w2 w6)
  (hown:w7.ownsRow w.heap.size 95 2 (.slice (some ⟨g,0,none⟩) (j+1) cap) (j+1) (vs++[.string a.n,iv])) (hgrow:w6.grownBy w7 rv.ownBlock) (hat:rv.ownBlock=some g∨g=w6.heap.size) :
  InFs w l (j+1) (.slice (some ⟨g,0,none⟩) (j+1) cap) (vs++[.string a.n,iv]) (fun i=>if i=j then iv else IV i) (fun i=>if i=j then lo else Lo i) (fun i=>if i=j then w2.heap.size else Hi i) w7:=by
 have s2:=hb2.size
 have s6:=hb6.size
 have s0:=h.bl.size
 have hown0:∀ q,rv.ownBlock=some q→w.heap.size≤q∧q<wr.heap.size:=fun q hq=>owns_ge h.row q hq
 have k67:Kp (fun q=>rv.ownBlock=some q) w6 w7:=(Kp.refl _ w6).grown hgrow (fun q e _=>e)
 have k27:Kp (fun q=>rv.ownBlock=some q) w2 w7:=(Kp.ofBelow hb6 _).trans k67 (fun _ _ e=>e)
 have kr7:Kp (fun q=>rv.ownBlock=some q) wr w7:=(Kp.ofBelow hb2 _).trans k27 (fun _ _ e=>e)
 have s7:=k67.size
 refine ⟨h.bl.trans (kr7.below s0 (fun q e=>(hown0 q e).1)),hown,by rw [List.length_append,h.len];show _+2=_;omega,fun i b hi hb=>?_,fun i b hi hb=>?_,fun q hq i hi=>?_⟩
 ·by_cases hij:i=j
  ·subst hij
   rw [ha] at hb
   cases hb
   rw [if_pos rfl,List.getElem?_append_right (by rw [h.len];exact Nat.le_refl _),List.getElem?_append_right (by rw [h.len];omega),h.len]
   exact ⟨by rw [Nat.sub_self];rfl,by rw [Nat.add_sub_cancel_left];rfl⟩
  ·rw [if_neg hij]
   have:=h.val i b (by omega) hb
   rw [List.getElem?_append_left (by rw [h.len];omega),List.getElem?_append_left (by rw [h.len];omega)]
   exact this
 ·by_cases hij:i=j
  ·subst hij
   rw [ha] at hb
   cases hb
   rw [if_pos rfl,if_pos rfl,if_pos rfl]
   exact ⟨hits.blw k27 (fun q h1 _ e=>by have:=(hown0 q e).2;omega),by omega,by omega⟩
  ·rw [if_neg hij,if_neg hij,if_neg hij]
   obtain ⟨b1,b2,b3⟩:=h.its i b (by omega) hb
   exact ⟨b1.blw kr7 (fun q h1 h2 e=>h.far q e i (by omega) ⟨h1,h2⟩),b2,by omega⟩
 ·obtain rfl:q=g:=by cases hq;rfl
  by_cases hij:i=j
  ·rw [if_pos hij,if_pos hij]
   rcases hat with e|e
   ·have:=(hown0 _ e).2
    omega
   ·omega
  ·rw [if_neg hij,if_neg hij]
   rcases hat with e|e
   ·exact h.far _ e i (by omega)
   ·have hil:i<l.length:=by
     have:j<l.length:=by
      rcases Nat.lt_or_ge j l.length with g|g
      ·exact g
      ·rw [List.getElem?_eq_none g] at ha;cases ha
     omega
    have:=(h.its i l[i] (by omega) (List.getElem?_eq_getElem hil)).2.2
    omega
theorem InFs.done {w:World} {l:List AF} {rv:Value} {vs:List Value} {IV:Nat→Value} {Lo Hi:Nat→Nat} {wr:World} (h:InFs w l l.length rv vs IV Lo Hi wr):IsFs wr w.heap.size rv l IV Lo Hi:=by
 have hlt:∀ {j:Nat} {a:AF},l[j]?=some a→j<l.length:=fun {j a} ha=>by
  rcases Nat.lt_or_ge j l.length with g|g
  ·exact g
  ·rw [List.getElem?_eq_none g] at ha;cases ha
 refine ⟨?_,fun j a ha=>h.its j a (hlt ha) ha⟩
 have hr:=h.row
 have hc:=fun g hg=>hr.cells (g:=g) hg
 rcases hr.2 with ⟨e,h0⟩|⟨g,cap,cur,e,hge,hgg,hnn,hm,-,-⟩
 ·exact ⟨none,0,by rw [h0];exact e,by rw [h0];exact Nat.le_refl _,by unfold maxLen;omega,fun j a ha=>by have:=hlt ha;omega⟩
 ·refine ⟨_,cap,e,hnn,hm,fun j a ha=>⟨g,rfl,heap_lt hgg,hge,?_,?_⟩⟩
  ·have:=hc g (by rw [e];rfl) _ _ (h.val j a (hlt ha) ha).1
   rwa [Addr.add_lit,Nat.zero_add] at this
  ·have:=hc g (by rw [e];rfl) _ _ (h.val j a (hlt ha) ha).2
   rwa [Addr.add_lit,Nat.zero_add] at this
structure InW (w:World) (l:List AF) (mb wb:Nat) (j:Nat) (Bf:Nat→Nat) (IV:Nat→Value) (fv:Value) (wr:World):Prop where
 bl:Below w.heap.size w wr
 blk:wr.heap[wb]?=some (.cells #[.map (some mb),fv] 107 (0,0))
 mp:Mp wr mb j (idxN (l.take j))
 row:wr.ownsRow w.heap.size 108 1 fv j ((List.range j).map fun i=>.pointer (some ⟨Bf i+2,0,none⟩))
 far:∀ g,fv.ownBlock=some g→g≠mb∧g≠wb∧∀ i,i<j→¬(Bf i≤g∧g≤Bf i+2)
 ord:∀ i,i<j→wb<Bf i∧mb<Bf i∧Bf i+2<wr.heap.size
 asc:∀ i i',i<i'→i'<j→Bf i+2<Bf i'
 fil:∀ i a,i<j→l[i]?=some a→wr.heap[Bf i+2]?=some (.cells #[IV i,.map (some (Bf i)),.slice (some ⟨Bf i+1,0,none⟩) (X.itsT (bs a.t)).length (X.itsT (bs a.t)).length] 161 (0,0))∧(∃ k,Mp wr (Bf i) k (X.topI (X.itsT (bs a.t))))∧∃ A,wr.heap[Bf i+1]?=some (.cells A 205 (0,0))∧A.size=(X.itsT (bs a.t)).length*4∧∀ g,g<(X.itsT (bs a.t)).length*4→A[g]?=some (.int .i64 0)
end Go.Proofs.YtbmebfgapjhchaaGreatDoor
/- Plain mathematics: as what names stand there,and in which order they are told. -/
namespace Go.Proofs.YtbmebfgapjhchaaGreatDoor
open M
namespace X
def Ahd (a b:U):Prop:=a.f<b.f∨(a.f=b.f∧a.i<b.i)
theorem allU_sorted {fs:List Fl} (h:∀ f,f<fs.length→∃ ps,Rdf ps 0 (itemsOf fs f)):(allU fs).Pairwise Ahd:=by
 unfold allU
 rw [List.pairwise_flatMap]
 refine ⟨fun f hf=>?_,?_⟩
 ·obtain ⟨ps,hr⟩:=h f (List.mem_range.1 hf)
  have:=(itsU_btw (fs:=fs) (f:=f) hr 0).1
  refine List.Pairwise.imp_of_mem ?_ this
  intro a b ha hb hab
  exact .inr ⟨(itsU_file ha).trans (itsU_file hb).symm,hab⟩
 ·refine List.Pairwise.imp ?_ (List.pairwise_lt_range (n:=fs.length))
  intro a b hab x hx y hy
  left
  rw [itsU_file hx,itsU_file hy]
  exact hab
end X
end Go.Proofs.YtbmebfgapjhchaaGreatDoor
/- Names that are made others: plain mathematics. -/
namespace Go.Proofs.YtbmebfgapjhchaaGreatDoor
open M
theorem allU_file {l:List AF} {u:X.U} (h:u∈X.allU (fsOf l)):∃ a,l[u.f]?=some a∧u.i<(bs a.t).length:=by
 unfold X.allU at h
 obtain ⟨f,hf,hm⟩:=List.mem_flatMap.1 h
 have hf':=List.mem_range.1 hf
 rw [fsOf_len] at hf'
 have e:=X.itsU_file hm
 have ha:=List.getElem?_eq_getElem hf'
 rw [e]
 refine ⟨l[f],ha,?_⟩
 rw [fsOf_get ha] at hm
 have h2:=((X.itsU_btw (fs:=fsOf l) (f:=f) (X.itsT_rdf (bs l[f].t)) 0).2 u hm).2
 have h3:X.pz (X.fileL (X.xt (bs l[f].t)))=(bs l[f].t).length:=by
  rw [pz_file,X.file_keeps,X.xt_tb]
 omega
theorem allU_srt (l:List AF):(X.allU (fsOf l)).Pairwise X.Ahd:=X.allU_sorted fun f _=>its_rdf f
theorem allU_to {l:List AF} {u:X.U} (h:u∈X.allU (fsOf l)) (h0:0≤u.tt):∃ v∈X.allU (fsOf l),(v.f:Int)=u.tf∧(v.i:Int)=u.tt:=by
 have h1:=(X.allU_stands (fs:=fsOf l) (fun f _=>its_rdf f) u h h0).1
 cases hx:(X.allU (fsOf l)).filter (fun v=>decide ((v.f:Int)=u.tf∧(v.i:Int)=u.tt)) with
 | nil=>rw [hx] at h1;cases h1
 | cons v r =>
  have hv:v∈(X.allU (fsOf l)).filter (fun v=>decide ((v.f:Int)=u.tf∧(v.i:Int)=u.tt)):=by rw [hx];exact List.mem_cons_self
  obtain ⟨a,b⟩:=List.mem_filter.1 hv
  exact ⟨v,a,of_decide_eq_true b⟩
theorem srt_one {us:List X.U} (h:us.Pairwise X.Ahd) {i j:Nat} {a b:X.U} (ha:us[i]?=some a) (hb:us[j]?=some b) (hf:a.f=b.f) (hi:a.i=b.i):i=j:=by
 obtain ⟨hi',rfl⟩:=List.getElem?_eq_some_iff.1 ha
 obtain ⟨hj',rfl⟩:=List.getElem?_eq_some_iff.1 hb
 rw [List.pairwise_iff_getElem] at h
 rcases Nat.lt_trichotomy i j with q|q|q
 ·have:=h i j hi' hj' q
  unfold X.Ahd at this
  omega
 ·exact q
 ·have:=h j i hj' hi' q
  unfold X.Ahd at this
  omega
end Go.Proofs.YtbmebfgapjhchaaGreatDoor
/- Package syntax: all files are read. -/
namespace Go.Proofs.YtbmebfgapjhchaaGreatDoor
open Go.RowKit
open M
theorem infoSF:(Tryz.prog.info? 95).map (fun i=>(i.zero,i.size,i.bytes))=some (some (.agg #[.string ⟨#[]⟩,.slice none 0 0]),2,40):=by kernel_rfl
set_option maxRecDepth 100000 in
set_option maxHeartbeats 8000000 in
theorem syFiles_any (ao:Option Addr) (cap:Nat) (l:List AF) (w:World) (hT:Tabs w) (h:IsAF w w.heap.size ao l) (hn16:l.length≤16) (hsh:Short l) :
  Calls Tryz.prog 18 #[.slice ao l.length cap] w fun e w'=>∃ rv,e=.returned rv∧Hid ((∃ IV Lo Hi,IsFs w' w.heap.size rv l IV Lo Hi)∧Below w.heap.size w w'):=by
 obtain ⟨i0,hi0,hz0,hz1,hz2⟩:=info_parts infoSF
 have HT:=hide hT
 have HL:=hide h
 have HSH:=hide hsh
 have HI0:Hid (∃ vs IV Lo Hi,InFs w l 0 (.slice none 0 0) vs IV Lo Hi w):=⟨[],fun _=>undef,fun _=>0,fun _=>0,Below.refl _ w,World.ownsRow_nil _ _ _ _,rfl,fun i a hi=>by omega,fun i a hi=>by omega,fun g hg=>by cases hg⟩
 clear h hT hsh
 go_enter Tryz.func18,Tryz.ntmps18
 go_wp2_with fail
 go_loopw [3,8] (fun sv v wr=>∃ (j:Nat) (rv:Value),rv=sv∧v=.int .i64 j∧j≤l.length∧Hid (∃ vs IV Lo Hi,InFs w l j rv vs IV Lo Hi wr)) (fun _ v _=>l.length - (intOf v).toNat)
 case atStart=>exact ⟨0,_,rfl,rfl,Nat.zero_le _,HI0⟩
 case round =>
  obtain ⟨j,rv,rfl,rfl,hj,HI⟩:=hrel
  clear HI0
  by_cases hjl:j<l.length
  ·obtain ⟨a,ha⟩:∃ a,l[j]?=some a:=⟨l[j],List.getElem?_eq_getElem hjl⟩
   obtain ⟨vs,IV,Lo,Hi,hin⟩:=HI.out
   clear HI
   obtain ⟨b,o,e1,e2,e3,e4⟩:=(HL.out).below hin.bl j a ha
   subst e1
   have hi1:(j:Int)<(l.length:Int):=by omega
   have hts:a.t.size≤1000000:=(HSH.out) a (List.mem_of_getElem? ha)
   have HZ:Hid (X.psz (X.file (X.xt (bs a.t)))≤268435456∧X.pb (X.file (X.xt (bs a.t)))=bs a.t):=by
    have hll:(X.xt (bs a.t)).length≤a.t.size:=by
     have:=toks_len _ 0 (bs a.t) (Nat.le_refl _)
     rw [bs_len] at this
     unfold X.xt;rw [List.length_map];exact this
    exact ⟨by have:=X.file_psz (X.xt (bs a.t));omega,by rw [X.file_keeps,X.xt_tb]⟩
   have kF:Below wr.heap.size wr (wr.alloc (.cells #[.string a.n,.string a.t] 39)):=(Below.refl _ _).alloc (Nat.le_refl _) _
   have hF0:=heap_alloc_new wr (.cells #[.string a.n,.string a.t] 39)
   have n0:(wr.alloc (.cells #[.string a.n,.string a.t] 39)).cell? ⟨wr.heap.size,0,none⟩=some (.string a.n):=cell_of_row _ _ 0 _ _ _ hF0
   have n1:(wr.alloc (.cells #[.string a.n,.string a.t] 39)).cell? ⟨wr.heap.size,1,none⟩=some (.string a.t):=cell_of_row _ _ 1 _ _ _ hF0
   have hlt:=heap_lt hF0
   have HNw:=hide (newTree_any a.t (wr.alloc (.cells #[.string a.n,.string a.t] 39)).drew ((HT.out).below ((hin.bl.alloc hin.bl.size _).drew)) (by omega))
   have HIN:=hide hin
   have HKF:=hide kF
   have hww:w.heap.size≤wr.heap.size:=hin.bl.size
   have hrs:∃ fa fn fc,rv=.slice fa fn fc:=by
    rcases hin.row.2 with ⟨e,-⟩|⟨g',cap',cur,e,-⟩
    ·exact ⟨_,_,_,e⟩
    ·exact ⟨_,_,_,e⟩
   obtain ⟨fa,fn,fc,rfl⟩:=hrs
   clear hin kF hF0
   go_wp2_with fail
   generalize wr.alloc (.cells #[.string a.n,.string a.t] 39)=Wa at *
   refine wpTo_start (S:=fun w'=>w'.cell? ⟨wr.heap.size,0,none⟩=some (.string a.n)∧w'.cell? ⟨wr.heap.size,1,none⟩=some (.string a.t)) (z:=10) (by kernel_rfl) ?_
   have hS:Wa.drew.cell? ⟨wr.heap.size,0,none⟩=some (.string a.n)∧Wa.drew.cell? ⟨wr.heap.size,1,none⟩=some (.string a.t):=⟨n0,n1⟩
   iterate 5 (refine wpTo_nx0 (v:=?_) rfl rfl (by kernel_rfl) (by kernel_rfl) (by kernel_rfl) (by kernel_rfl) (fun _ _ _ h=>h) (Or.inl ⟨by rfl,?_⟩) hS ?_;rotate_left;(· (intro wx hSw;(try dsimp only at hSw);go_simp;try (with_reducible rfl)));simp only [Act.put,List.setIfInBounds_toArray,List.set_cons_zero,List.set_cons_succ])
   refine wpTo_one (i:=5) (by kernel_rfl) rfl (fun K hK=>?_)
   go_simp
   refine (HNw.out).mono ?_
   rintro e w1 ⟨tb,rfl,H1⟩
   have B1:Below Wa.heap.size Wa w1:=((Below.refl _ Wa).drew).trans (H1.out).2
   have n01:=kcb B1 (by omega) n0
   have n11:=kcb B1 (by omega) n1
   have hs1:=B1.size
   have HRd:=hide (syRead_any tb a.t (X.itsT (bs a.t)) w1 (H1.out).1 (HZ.out).1 (HZ.out).2 (by omega) (X.itsT_rdf _))
   dsimp only
   refine hK.out _ _ (fun _=>⟨n01,n11⟩) (fun hS2=>?_)
   clear hS hK K
   have hS:=hS2 (by decide)
   clear hS2
   refine wpTo_one (i:=6) (by kernel_rfl) rfl (fun K hK=>?_)
   go_simp
   refine (HRd.out).mono ?_
   rintro e w2 ⟨iv,rfl,H2⟩
   have hivs:∃ ia ic,iv=.slice ia (X.itsT (bs a.t)).length ic:=by
    obtain ⟨ia,ic,-,e,-⟩:=(H2.out).1.ex
    exact ⟨ia,ic,e⟩
   obtain ⟨ia,ic,rfl⟩:=hivs
   have B2:=(H2.out).2
   have n02:=kcb B2 (by omega) n01
   have n12:=kcb B2 (by omega) n11
   have hs2:=B2.size
   have HB2:Hid (Below wr.heap.size wr w2):=(HKF.out).trans ((B1.trans (B2.mono hs1)).mono (HKF.out).size)
   have HIT:=hide (H2.out).1
   have HO2:=hide ((Kp.ofBelow HB2.out (fun _=>False)).owns (HIN.out).row (fun _ _=>id))
   dsimp only
   refine hK.out _ _ (fun _=>⟨n02,n12⟩) (fun hS2=>?_)
   clear hS hK K H1 H2 HRd B1 B2 n0 n1 n01 n11
   have hS:=hS2 (by decide)
   clear hS2
   generalize (X.itsT (bs a.t)).length=il at *
   iterate 1 (refine wpTo_nx0 (v:=?_) rfl rfl (by kernel_rfl) (by kernel_rfl) (by kernel_rfl) (by kernel_rfl) (fun _ _ _ h=>h) (Or.inl ⟨by rfl,?_⟩) hS ?_;rotate_left;(· (intro wx hSw;(try dsimp only at hSw);go_simp;try (with_reducible rfl)));simp only [Act.put,List.setIfInBounds_toArray,List.set_cons_zero,List.set_cons_succ])
   refine wpTo_one (i:=8) (by kernel_rfl) rfl (fun K hK=>?_)
   go_simp
   refine hK.out _ _ (fun _=>by first|go_keep|(dsimp only;go_keep)) (fun hS2=>?_)
   clear hS hK K
   have hS:=hS2 (by decide)
   clear hS2
   refine wpTo_one (i:=9) (by kernel_rfl) rfl (fun K hK=>?_)
   refine step_append_lies _ (by rfl) _ _ _ (by rfl) w.heap.size 95 i0 _ 2 40 Tryz.underlying61 hi0 hz0 hz1 hz2 rfl (by omega) (.slice fa fn fc) j _ (by rfl) ((HO2.out).alloc _)
    ⟨w2.heap.size,0,none⟩ 1 1 [.string a.n,.slice ia il ic] (by rfl) (by rfl) (World.news_of_block (cs:=#[.string a.n,.slice ia il ic]) (t:=95) (fr:=(0,0)) (heap_alloc_new w2 _)) (by simp [Value.oneCell'])
    (by omega) (by unfold maxLen;omega) (by omega) (by simp;omega) (w2.heap.size+1) (by simp) ?_
   intro g cap7 w7 hown7 hgrow7 hat7 hlt7
   have hwf:some wr.heap.size≠(Value.slice fa fn fc).ownBlock:=fun e=>by have:=(owns_ge (HIN.out).row _ e.symm).2;omega
   have y0:=(hgrow7.cell_far ⟨wr.heap.size,0,none⟩ (by simp;omega) hwf).trans hS.1
   have y1:=(hgrow7.cell_far ⟨wr.heap.size,1,none⟩ (by simp;omega) hwf).trans hS.2
   show K (Act.put _ (some 21) _) w7
   refine hK.out _ _ (fun _=>⟨y0,y1⟩) (fun hS2=>?_)
   clear hS hK K
   have hS:=hS2 (by decide)
   clear hS2
   simp only [Act.put,List.setIfInBounds_toArray,List.set_cons_zero,List.set_cons_succ]
   refine wpTo_one (i:=10) (by kernel_rfl) rfl (fun K hK=>?_)
   go_simp
   refine hK.out _ _ (fun h=>absurd rfl h) (fun _=>wpTo_end (by kernel_rfl) ?_)
   clear hK K
   have HI8:Hid (∃ vs IV Lo Hi,InFs w l (j+1) (.slice (some ⟨g,0,none⟩) (j+1) cap7) vs IV Lo Hi w7):=by
    have hb6:Below w2.heap.size w2 (w2.alloc (.cells #[.string a.n,.slice ia il ic] 95)):=(Below.refl _ w2).alloc (Nat.le_refl _) _
    exact ⟨_,_,_,_,(HIN.out).more ha HB2.out (by omega) HIT.out hb6 hown7 hgrow7 (by rcases hat7 with e|e;exact .inl e;exact .inr (by rw [e];simp))⟩
   clear hown7 hgrow7 hat7 hlt7 y0 y1 hS n02 n12 HO2 HIT HIN HKF
   go_wp2_with fail
   exact ⟨⟨j+1,_,rfl,by simp,by omega,HI8⟩,by simp [intOf];omega⟩
  ·obtain rfl:j=l.length:=by omega
   have hd1:¬(l.length:Int)<(l.length:Int):=by omega
   have HF:Hid ((∃ IV Lo Hi,IsFs wr w.heap.size rv l IV Lo Hi)∧Below w.heap.size w wr):=by
    obtain ⟨vs,IV,Lo,Hi,hin⟩:=HI.out
    exact ⟨⟨_,_,_,hin.done⟩,hin.bl⟩
   clear HI
   go_wp2_with fail
   go_ret
   exact ⟨_,rfl,HF⟩
end Go.Proofs.YtbmebfgapjhchaaGreatDoor
/- Package scope: a workspace whose files have been read. -/
namespace Go.Proofs.YtbmebfgapjhchaaGreatDoor
open Go.RowKit
open M
theorem InW.start (w:World) (l:List AF) (IV:Nat→Value):InW w l w.heap.size (w.heap.size+1) 0 (fun _=>0) IV (.slice none 0 0) ((w.alloc (.map #[] 0)).alloc (.cells #[.map (some w.heap.size),.slice none 0 0] 107)):=by
 refine ⟨((Below.refl _ w).alloc (Nat.le_refl _) _).alloc (by simp) _,?_,?_,?_,fun g hg=>(by cases hg),fun i hi=>(by omega),fun i i' _ hi=>(by omega),fun i a hi=>(by omega)⟩
 ·have:=heap_alloc_new (w.alloc (.map #[] 0)) (.cells #[.map (some w.heap.size),.slice none 0 0] 107)
  simpa using this
 ·exact ((Mp.made w).below ((Below.refl _ _).alloc (Nat.le_refl _) _)).congr (fun x=>by rw [List.take_zero];rfl)
 ·exact World.ownsRow_nil _ _ _ _
theorem InW.more {w:World} {l:List AF} {mb wb j:Nat} {Bf:Nat→Nat} {IV:Nat→Value} {fv:Value} {wr wm w5 w6 w7:World} {a:AF} {g cap k:Nat} (h:InW w l mb wb j Bf IV fv wr) (hw:w.heap.size≤mb) (hmw:mb<wb) (ha:l[j]?=some a) (hnew:idxN (l.take j) (bs a.n)=none)
  (hk1:Kp (fun q=>q=mb) wr wm) (hm1:Mp wm mb k (upd (idxN (l.take j)) (bs a.n) j)) (hkk:k≤j+1) (hf:IsF wm w5 (IV j) (X.itsT (bs a.t))) (hb6:Below w5.heap.size w5 w6)
  (hown:w7.ownsRow w.heap.size 108 1 (.slice (some ⟨g,0,none⟩) (j+1) cap) (j+1) (((List.range j).map fun i=>.pointer (some ⟨Bf i+2,0,none⟩))++[.pointer (some ⟨wm.heap.size+2,0,none⟩)])) (hgrow:w6.grownBy w7 fv.ownBlock) (hat:fv.ownBlock=some g∨g=w6.heap.size) :
  ∃ Bf',InW w l mb wb (j+1) Bf' IV (.slice (some ⟨g,0,none⟩) (j+1) cap) (w7.setCell ⟨wb,1,none⟩ (.slice (some ⟨g,0,none⟩) (j+1) cap)):=by
 have hwbl:wb<wr.heap.size:=heap_lt h.blk
 have s1:=hk1.size
 have s2:=hf.bl.size
 have s3:=hb6.size
 have hown0:∀ q,fv.ownBlock=some q→q<wr.heap.size:=fun q hq=>(owns_ge h.row q hq).2
 have k15:Kp (fun q=>q=mb) wr w5:=hk1.trans (Kp.ofBelow hf.bl (fun _=>False)) (fun _ _ e=>e.elim)
 have k67:Kp (fun q=>fv.ownBlock=some q) w6 w7:=(Kp.refl _ w6).grown hgrow (fun q e _=>e)
 have k57:Kp (fun q=>fv.ownBlock=some q) w5 w7:=(Kp.ofBelow hb6 (fun q=>fv.ownBlock=some q)).trans k67 (fun _ _ e=>e)
 have k78:Kp (fun q=>q=wb) w7 (w7.setCell ⟨wb,1,none⟩ (.slice (some ⟨g,0,none⟩) (j+1) cap)):=Kp.setCell (S:=fun q=>q=wb) (p:=⟨wb,1,none⟩) (Kp.refl _ w7) (fun _=>rfl) _
 have k58:Kp (fun q=>q=wb∨fv.ownBlock=some q) w5 (w7.setCell ⟨wb,1,none⟩ (.slice (some ⟨g,0,none⟩) (j+1) cap)):=(k57.mono (fun _ _ e=>.inr e)).trans k78 (fun _ _ e=>.inl e)
 have kr8:Kp (fun q=>q=mb∨q=wb∨fv.ownBlock=some q) wr (w7.setCell ⟨wb,1,none⟩ (.slice (some ⟨g,0,none⟩) (j+1) cap)):=(k15.mono (fun _ _ e=>.inl e)).trans k58 (fun _ _ e=>.inr e)
 have hfar:=h.far
 have hold:∀ i,i<j→∀ q,Bf i≤q→q≤Bf i+2→¬(q=mb∨q=wb∨fv.ownBlock=some q):=by
  intro i hi q h1 h2 e
  have ho:=h.ord i hi
  rcases e with e|e|e
  ·omega
  ·omega
  ·exact (hfar q e).2.2 i hi ⟨h1,h2⟩
 have hnw:∀ q,wm.heap.size≤q→¬(q=wb∨fv.ownBlock=some q):=by
  intro q h1 e
  rcases e with e|e
  ·omega
  ·have:=hown0 q e;omega
 obtain ⟨k',hmp⟩:=hf.mp
 obtain ⟨A,hA1,hA2,hA3⟩:=hf.ans
 have hhi5:=heap_lt hf.blk
 have s8:w5.heap.size≤(w7.setCell ⟨wb,1,none⟩ (.slice (some ⟨g,0,none⟩) (j+1) cap)).heap.size:=k58.size
 refine ⟨fun i=>if i=j then wm.heap.size else Bf i,?_,?_,?_,?_,?_,?_,?_,?_⟩
 ·refine h.bl.trans (kr8.below h.bl.size (fun q e=>?_))
  rcases e with e|e|e
  ·omega
  ·omega
  ·exact (owns_ge h.row q e).1
 ·have h5:w7.heap[wb]?=some (.cells #[.map (some mb),fv] 107 (0,0)):=k57.heap (k15.heap h.blk (by omega)) (fun e=>(hfar wb e).2.1 rfl)
  exact set_cells h5 1 _
 ·have hm5:Mp w5 mb k (upd (idxN (l.take j)) (bs a.n) j):=hm1.below hf.bl
  have hm8:=hm5.keep k58 (fun e=>by
   rcases e with e|e
   ·omega
   ·exact (hfar mb e).1 rfl)
  obtain ⟨D,o1,o2⟩:=hm8
  refine Mp.congr (g:=upd (idxN (l.take j)) (bs a.n) j) ⟨D,o1.mono hkk,o2⟩ (fun x=>?_)
  rw [idxN_snoc ha]
  unfold upd
  by_cases e:x=bs a.n
  ·subst e
   rw [if_pos rfl,hnew]
   show _=if _ then _ else _
   rw [if_pos rfl]
  ·rw [if_neg e]
   cases hx:idxN (l.take j) x with
   | some i=>rfl
   | none =>
    show _=if _ then _ else _
    rw [if_neg (fun e2=>e e2.symm)]
 ·have hg:g≠wb:=by
   rcases hat with e|e
   ·exact (hfar g e).2.1
   ·omega
  have:=k78.owns hown (fun q hq e=>by cases hq;exact hg e)
  have e1:((List.range (j+1)).map fun i=>(.pointer (some ⟨(if i=j then wm.heap.size else Bf i)+2,0,none⟩):Value))=((List.range j).map fun i=>.pointer (some ⟨Bf i+2,0,none⟩))++[.pointer (some ⟨wm.heap.size+2,0,none⟩)]:=by
   rw [List.range_succ,List.map_append]
   congr 1
   ·refine List.map_congr_left (fun i hi'=>?_)
    have:=List.mem_range.1 hi'
    rw [if_neg (by omega)]
   ·simp
  rw [e1]
  exact this
 ·intro q hq
  obtain rfl:q=g:=by cases hq;rfl
  clear hq
  rcases hat with e|e
  ·obtain ⟨f1,f2,f3⟩:=hfar _ e
   refine ⟨f1,f2,fun i hi'=>?_⟩
   by_cases hij:i=j
   ·rw [if_pos hij]
    have:=hown0 _ e
    omega
   ·rw [if_neg hij]
    exact f3 i (by omega)
  ·refine ⟨by omega,by omega,fun i hi'=>?_⟩
   by_cases hij:i=j
   ·rw [if_pos hij];omega
   ·rw [if_neg hij]
    have:=h.ord i (by omega)
    omega
 ·intro i hi'
  by_cases hij:i=j
  ·rw [if_pos hij];omega
  ·rw [if_neg hij]
   have:=h.ord i (by omega)
   omega
 ·intro i i' h1 h2
  by_cases hij:i'=j
  ·rw [if_neg (by omega),if_pos hij]
   have:=h.ord i (by omega)
   omega
  ·rw [if_neg (by omega),if_neg hij]
   exact h.asc i i' h1 (by omega)
 ·intro i b hi' hb
  by_cases hij:i=j
  ·subst hij
   rw [ha] at hb
   cases hb
   rw [if_pos rfl]
   exact ⟨k58.heap hf.blk (hnw _ (by omega)),⟨k',hmp.keep k58 (hnw _ (by omega))⟩,A,k58.heap hA1 (hnw _ (by omega)),hA2,hA3⟩
  ·rw [if_neg hij]
   obtain ⟨b1,⟨k2,b2⟩,A2,b4,b5⟩:=h.fil i b (by omega) hb
   exact ⟨kr8.heap b1 (hold i (by omega) _ (by omega) (by omega)),⟨k2,b2.keep kr8 (hold i (by omega) _ (by omega) (by omega))⟩,A2,kr8.heap b4 (hold i (by omega) _ (by omega) (by omega)),b5⟩
def noMem:Mem:=fun _ _=>(0,(0,0,0))
theorem noMem_ok (fs:List X.Fl):MOk fs noMem:=fun _ _=>⟨Nat.zero_le _,fun h=>by cases h⟩
theorem noMem_idle:Idle noMem:=fun _ _ h=>by cases h
theorem InW.run {w:World} {l:List AF} {mb wb:Nat} {Bf:Nat→Nat} {IV:Nat→Value} {Lo Hi:Nat→Nat} {B:Nat} {rv fv:Value} {wr:World} (h:InW w l mb wb l.length Bf IV fv wr) (hw:w.heap.size≤mb) (hmw:mb<wb) (hI:IsFs w B rv l IV Lo Hi) (hn:l.length≤16) (hok:∀ a∈l,nmOk a.n=true) (hsh:Short l) :
  Run (wr.alloc (.cells #[.pointer (some ⟨wb,0,none⟩),.int .i64 0,.slice none 0 0] 112)) ⟨wb,wr.heap.size,0,mb,fv,fun i=>Bf i+2,Bf,IV,fun i=>Bf i+1⟩ (fsOf l) noMem [] (wr.alloc (.cells #[.pointer (some ⟨wb,0,none⟩),.int .i64 0,.slice none 0 0] 112)):=by
 have hfl:=fsOf_len l
 have hget:∀ i,i<(fsOf l).length→∃ a,l[i]?=some a∧X.itemsOf (fsOf l) i=X.itsT (bs a.t):=fun i hi=>by
  rw [hfl] at hi
  exact ⟨l[i],List.getElem?_eq_getElem hi,fsOf_get (List.getElem?_eq_getElem hi)⟩
 have hS:∀ q,(Lay.mk wb wr.heap.size 0 mb fv (fun i=>Bf i+2) Bf IV (fun i=>Bf i+1)).S (fsOf l).length q→q=wr.heap.size∨∃ i,i<l.length∧q=Bf i+1:=fun q hq=>by
  rcases hq with e|⟨i,h1,h2⟩
  ·exact .inl e
  ·exact .inr ⟨i,by rw [← hfl];exact h1,h2⟩
 have hwb:=heap_lt h.blk
 have bA:Below wr.heap.size wr (wr.alloc (.cells #[.pointer (some ⟨wb,0,none⟩),.int .i64 0,.slice none 0 0] 112)):=(Below.refl _ wr).alloc (Nat.le_refl _) _
 have kA:=Kp.ofBelow bA (fun _=>False)
 have hszA:(wr.alloc (.cells #[.pointer (some ⟨wb,0,none⟩),.int .i64 0,.slice none 0 0] 112)).heap.size=wr.heap.size+1:=by simp
 have hsep:∀ i q,i<l.length→q=Bf i∨q=Bf i+2→¬(Lay.mk wb wr.heap.size 0 mb fv (fun i=>Bf i+2) Bf IV (fun i=>Bf i+1)).S (fsOf l).length q:=by
  intro i q hi h1 hs
  have ho:=h.ord i hi
  rcases hS q hs with e|⟨i',hi',e⟩
  ·omega
  ·have ho':=h.ord i' hi'
   rcases Nat.lt_trichotomy i i' with c|c|c
   ·have:=h.asc i i' c hi';omega
   ·subst c;omega
   ·have:=h.asc i' i c hi;omega
 have hlow:∀ q,q≤wb→¬(Lay.mk wb wr.heap.size 0 mb fv (fun i=>Bf i+2) Bf IV (fun i=>Bf i+1)).S (fsOf l).length q:=by
  intro q hq hs
  rcases hS q hs with e|⟨i,hi,e⟩
  ·omega
  ·have:=h.ord i hi;omega
 have hst:St (wr.alloc (.cells #[.pointer (some ⟨wb,0,none⟩),.int .i64 0,.slice none 0 0] 112)) ⟨wb,wr.heap.size,0,mb,fv,fun i=>Bf i+2,Bf,IV,fun i=>Bf i+1⟩ (fsOf l):=by
  refine ⟨by rw [hfl];exact hn,⟨kA.heap h.blk id,hlow wb (Nat.le_refl _)⟩,?_,hlow mb (by omega),?_,fun i hi=>?_,fun i hi=>?_,fun i hi=>?_,fun i it hit=>(its_bd hsh i).1 it hit,fun i=>(its_bd hsh i).2.1,by show wr.heap.size<_;omega,fun i hi=>?_⟩
  ·refine ⟨_,(h.mp.below bA).congr (fun x=>?_)⟩
   rw [List.take_length,modI_idx hok]
  ·have hr:=h.row
   have hc:=fun g hg=>hr.cells (g:=g) hg
   rcases hr.2 with ⟨e,h0⟩|⟨g,cap,cur,e,hge,hgg,hnn,hm,-,-⟩
   ·refine ⟨none,0,by rw [hfl,h0];exact e,by rw [hfl,h0];exact Nat.le_refl _,by unfold maxLen;omega,fun i hi=>by rw [hfl,h0] at hi;omega⟩
   ·refine ⟨_,cap,by rw [hfl];exact e,by rw [hfl];exact hnn,hm,fun i hi=>⟨g,rfl,fun hs=>?_,?_⟩⟩
    ·have hfar:=h.far g (by rw [e];rfl)
     have hgl:=heap_lt hgg
     rcases hS _ hs with e1|⟨i',hi',e1⟩
     ·omega
     ·exact hfar.2.2 i' hi' ⟨by omega,by omega⟩
    ·rw [hfl] at hi
     have:=hc g (by rw [e];rfl) i (.pointer (some ⟨Bf i+2,0,none⟩)) (by simp [hi])
     rw [Addr.add_lit,Nat.zero_add] at this
     exact Lib.cell?_alloc_some _ this
  ·obtain ⟨a,ha,e⟩:=hget i hi
   rw [hfl] at hi
   rw [e]
   exact ⟨kA.heap (h.fil i a hi ha).1 id,hsep i _ hi (.inr rfl)⟩
  ·obtain ⟨a,ha,e⟩:=hget i hi
   rw [hfl] at hi
   rw [e]
   obtain ⟨k,hk⟩:=(h.fil i a hi ha).2.1
   exact ⟨⟨k,hk.below bA⟩,hsep i _ hi (.inl rfl)⟩
  ·obtain ⟨a,ha,e⟩:=hget i hi
   rw [hfl] at hi
   rw [e]
   obtain ⟨q1,q2,q3⟩:=hI.its i a ha
   have s0:=h.bl.size
   exact ⟨Lo i,Hi i,(q1.blw (Kp.ofBelow h.bl (fun _=>False)) (fun _ _ _=>id)).blw kA (fun _ _ _=>id),by omega,fun q h1 h2=>hlow q (by omega)⟩
  ·rw [hfl] at hi
   have ho:=h.ord i hi
   refine ⟨by show Bf i+1<_;omega,by show Bf i+1≠wr.heap.size;omega,fun j hj e=>?_⟩
   rw [hfl] at hj
   have e':Bf i+1=Bf j+1:=e
   have ho':=h.ord j hj
   rcases Nat.lt_trichotomy i j with c|c|c
   ·have:=h.asc i j c hj;omega
   ·exact c
   ·have:=h.asc j i c hi;omega
 refine ⟨hst,Kp.refl _ _,⟨_,heap_alloc_new wr _,World.ownsRow_nil _ _ _ _⟩,fun i hi=>?_,Nat.zero_le _⟩
 obtain ⟨a,ha,e⟩:=hget i hi
 rw [hfl] at hi
 obtain ⟨-,-,A,b4,b5,b6⟩:=h.fil i a hi ha
 rw [e]
 exact ⟨A,kA.heap b4 id,b5,fun k hk=>⟨b6 _ (by omega),b6 _ (by omega),b6 _ (by omega),b6 _ (by omega)⟩⟩
end Go.Proofs.YtbmebfgapjhchaaGreatDoor
