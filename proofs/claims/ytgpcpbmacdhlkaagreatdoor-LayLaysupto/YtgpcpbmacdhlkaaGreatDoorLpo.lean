/- Package lay: two expressions and a sign. -/
import Derived.Test.YtgpcpbmacdhlkaaGreatDoorLpi
import Derived.Test.YtgpcpbmacdhlkaaGreatDoorXy
namespace Go.Proofs.YtgpcpbmacdhlkaaGreatDoor
open Go.RowKit
open M
set_option maxRecDepth 100000 in
set_option maxHeartbeats 8000000 in
theorem gbinary_any (L:List X.Lf) (q s:X.Part) (ihq:XC L q) (ihs:XC L s) (f n i te k g cap:Nat) (w:World) (Q R:Nat) (rm:List (List UInt8)) (D:Nat→Prop) (ls:List X.Lne) (kq fq tq kd fd td ks fs ts:Nat) (a1:Option Addr) (a2 a3:Nat) (b1:Option Addr) (b2 b3:Nat) (d1:Option Addr) (d2 d3:Nat) (cur:Array Value) (hgb:w.heap[g]?=some (.cells cur 95 (0,0)))
  (x00:w.cell? ⟨g,0,none⟩=some (.int .i64 kq)) (x01:w.cell? ⟨g,1,none⟩=some (.int .i64 fq)) (x02:w.cell? ⟨g,2,none⟩=some (.int .i64 tq)) (x03:w.cell? ⟨g,3,none⟩=some (.slice a1 a2 a3)) (x10:w.cell? ⟨g,4,none⟩=some (.int .i64 kd)) (x11:w.cell? ⟨g,5,none⟩=some (.int .i64 fd)) (x12:w.cell? ⟨g,6,none⟩=some (.int .i64 td)) (x13:w.cell? ⟨g,7,none⟩=some (.slice b1 b2 b3)) (x20:w.cell? ⟨g,8,none⟩=some (.int .i64 ks)) (x21:w.cell? ⟨g,9,none⟩=some (.int .i64 fs)) (x22:w.cell? ⟨g,10,none⟩=some (.int .i64 ts)) (x23:w.cell? ⟨g,11,none⟩=some (.slice d1 d2 d3))
  (hr:IsRow w R rm L) (hg:∃ lv,IsPg w Q R ls lv) (hq:IsPt w D fq (.agg #[.int .i64 kq,.int .i64 fq,.int .i64 tq,.slice a1 a2 a3]) q) (hs:IsPt w D fs (.agg #[.int .i64 ks,.int .i64 fs,.int .i64 ts,.slice d1 d2 d3]) s) (hAq:X.Ats L fq (X.fl false q)) (hAs:X.Ats L fs (X.fl false s)) (hfq:(X.nt q).length≤f) (hfs:(X.nt s).length≤f) (hmq:n+X.dp q≤522) (hms:n+2+X.dp s≤522) (hl:ls.length+1+(X.nt q).length+(X.nt s).length≤268435456) :
  Calls Tryz.prog 119 #[.pointer (some ⟨Q,0,none⟩),.agg #[.int .i64 k,.int .i64 i,.int .i64 te,.slice (some ⟨g,0,none⟩) 3 cap],.int .i64 n] w fun e w'=>e=.returned (.tuple #[])∧Hid (∃ l1 l2,X.SG L fq (X.nt q).length l1 (X.ex f n q)∧X.SG L fs (X.nt s).length l2 (X.ex f (n+2) s)∧PgTo w Q R (ls++(l1++[(n,fd,td)]++l2)) w'):=by
 have HR:=hide hr
 have HG:=hide hg
 have HQ:=hide hq
 have HS:=hide hs
 have HAq:=hide hAq
 have HAs:=hide hAs
 have hgl:=heap_lt hgb
 clear hr hg hq hs hAq hAs
 go_enter Tryz.func119,Tryz.ntmps119
 go_upto_region 1 with fail
 have k1:Below w.heap.size w (w.alloc (.cells #[.int .i64 k,.int .i64 i,.int .i64 te,.slice (some ⟨g,0,none⟩) 3 cap] 95)):=(Below.refl _ w).alloc (Nat.le_refl _) _
 have hbx:(w.alloc (.cells #[.int .i64 k,.int .i64 i,.int .i64 te,.slice (some ⟨g,0,none⟩) 3 cap] 95)).heap[w.heap.size]?=some (.cells #[.int .i64 k,.int .i64 i,.int .i64 te,.slice (some ⟨g,0,none⟩) 3 cap] 95 (0,0)):=heap_alloc_new w _
 have hz1:(w.alloc (.cells #[.int .i64 k,.int .i64 i,.int .i64 te,.slice (some ⟨g,0,none⟩) 3 cap] 95)).heap.size=w.heap.size+1:=by simp
 replace x00:=(Kp.ofBelow k1 (fun _=>False)).cellv x00 id
 replace x01:=(Kp.ofBelow k1 (fun _=>False)).cellv x01 id
 replace x02:=(Kp.ofBelow k1 (fun _=>False)).cellv x02 id
 replace x03:=(Kp.ofBelow k1 (fun _=>False)).cellv x03 id
 replace x10:=(Kp.ofBelow k1 (fun _=>False)).cellv x10 id
 replace x11:=(Kp.ofBelow k1 (fun _=>False)).cellv x11 id
 replace x12:=(Kp.ofBelow k1 (fun _=>False)).cellv x12 id
 replace x13:=(Kp.ofBelow k1 (fun _=>False)).cellv x13 id
 replace x20:=(Kp.ofBelow k1 (fun _=>False)).cellv x20 id
 replace x21:=(Kp.ofBelow k1 (fun _=>False)).cellv x21 id
 replace x22:=(Kp.ofBelow k1 (fun _=>False)).cellv x22 id
 replace x23:=(Kp.ofBelow k1 (fun _=>False)).cellv x23 id
 generalize w.alloc (.cells #[.int .i64 k,.int .i64 i,.int .i64 te,.slice (some ⟨g,0,none⟩) 3 cap] 95)=W at *
 have bx3:=cell_of_row W _ 3 _ _ _ hbx
 have HK1:=hide k1
 have hWl:w.heap.size<W.heap.size:=by omega
 have hgW:g<W.heap.size:=by omega
 have HBX:=hide hbx
 have HZ1:=hide hz1
 clear k1 hz1 hbx
 go_cut [6,7,8] (fun s6 s7 s8 wx=>∃ A B C,s6=.pointer (some ⟨A,0,none⟩)∧s7=.pointer (some ⟨B,0,none⟩)∧s8=.pointer (some ⟨C,0,none⟩)∧Hid (Tri W A B C #[.int .i64 kq,.int .i64 fq,.int .i64 tq,.slice a1 a2 a3] #[.int .i64 kd,.int .i64 fd,.int .i64 td,.slice b1 b2 b3] #[.int .i64 ks,.int .i64 fs,.int .i64 ts,.slice d1 d2 d3] wx))
 case first =>
  refine wp_region_noPanic ?_
  refine wpTo_start (S:=fun w'=>w'.cell? ⟨w.heap.size,3,none⟩=some (.slice (some ⟨g,0,none⟩) 3 cap)∧w'.cell? ⟨g,0,none⟩=some (.int .i64 kq)∧w'.cell? ⟨g,1,none⟩=some (.int .i64 fq)∧w'.cell? ⟨g,2,none⟩=some (.int .i64 tq)∧w'.cell? ⟨g,3,none⟩=some (.slice a1 a2 a3)∧w'.cell? ⟨g,4,none⟩=some (.int .i64 kd)∧w'.cell? ⟨g,5,none⟩=some (.int .i64 fd)∧w'.cell? ⟨g,6,none⟩=some (.int .i64 td)∧w'.cell? ⟨g,7,none⟩=some (.slice b1 b2 b3)∧w'.cell? ⟨g,8,none⟩=some (.int .i64 ks)∧w'.cell? ⟨g,9,none⟩=some (.int .i64 fs)∧w'.cell? ⟨g,10,none⟩=some (.int .i64 ts)∧w'.cell? ⟨g,11,none⟩=some (.slice d1 d2 d3)) (z:=18) (by kernel_rfl) ?_
  have hS:W.drew.cell? ⟨w.heap.size,3,none⟩=some (.slice (some ⟨g,0,none⟩) 3 cap)∧W.drew.cell? ⟨g,0,none⟩=some (.int .i64 kq)∧W.drew.cell? ⟨g,1,none⟩=some (.int .i64 fq)∧W.drew.cell? ⟨g,2,none⟩=some (.int .i64 tq)∧W.drew.cell? ⟨g,3,none⟩=some (.slice a1 a2 a3)∧W.drew.cell? ⟨g,4,none⟩=some (.int .i64 kd)∧W.drew.cell? ⟨g,5,none⟩=some (.int .i64 fd)∧W.drew.cell? ⟨g,6,none⟩=some (.int .i64 td)∧W.drew.cell? ⟨g,7,none⟩=some (.slice b1 b2 b3)∧W.drew.cell? ⟨g,8,none⟩=some (.int .i64 ks)∧W.drew.cell? ⟨g,9,none⟩=some (.int .i64 fs)∧W.drew.cell? ⟨g,10,none⟩=some (.int .i64 ts)∧W.drew.cell? ⟨g,11,none⟩=some (.slice d1 d2 d3):=⟨bx3,x00,x01,x02,x03,x10,x11,x12,x13,x20,x21,x22,x23⟩
  have HSW:=hide hS
  iterate 12 (refine wpTo_nx (v:=?_) rfl rfl (by kernel_rfl) (by decide) (by kernel_rfl) (by kernel_rfl) (fun _ _ _ h=>h) (Or.inl ⟨by rfl,?_⟩) hS ?_;rotate_left;(· (intro wx hSw;(try dsimp only at hSw);go_simp;try (with_reducible rfl)));simp only [Act.put,List.setIfInBounds_toArray,List.set_cons_zero,List.set_cons_succ])
  have HSK:Hid (∀ w',Below W.heap.size W w'→w'.cell? ⟨w.heap.size,3,none⟩=some (.slice (some ⟨g,0,none⟩) 3 cap)∧w'.cell? ⟨g,0,none⟩=some (.int .i64 kq)∧w'.cell? ⟨g,1,none⟩=some (.int .i64 fq)∧w'.cell? ⟨g,2,none⟩=some (.int .i64 tq)∧w'.cell? ⟨g,3,none⟩=some (.slice a1 a2 a3)∧w'.cell? ⟨g,4,none⟩=some (.int .i64 kd)∧w'.cell? ⟨g,5,none⟩=some (.int .i64 fd)∧w'.cell? ⟨g,6,none⟩=some (.int .i64 td)∧w'.cell? ⟨g,7,none⟩=some (.slice b1 b2 b3)∧w'.cell? ⟨g,8,none⟩=some (.int .i64 ks)∧w'.cell? ⟨g,9,none⟩=some (.int .i64 fs)∧w'.cell? ⟨g,10,none⟩=some (.int .i64 ts)∧w'.cell? ⟨g,11,none⟩=some (.slice d1 d2 d3)):=fun w' hB=>by
   have hK:=Kp.ofBelow hB (fun _=>False)
   exact ⟨hK.cellv bx3 id,hK.cellv x00 id,hK.cellv x01 id,hK.cellv x02 id,hK.cellv x03 id,hK.cellv x10 id,hK.cellv x11 id,hK.cellv x12 id,hK.cellv x13 id,hK.cellv x20 id,hK.cellv x21 id,hK.cellv x22 id,hK.cellv x23 id⟩
  clear hS HSW
  apply cutm
  ·intro key
   have z1:Below W.heap.size W (W.alloc (.cells #[.int .i64 0,.int .i64 0,.int .i64 0,.slice none 0 0] 95)):=(Below.refl _ W).alloc (Nat.le_refl _) _
   have z2:Below W.heap.size W ((W.alloc (.cells #[.int .i64 0,.int .i64 0,.int .i64 0,.slice none 0 0] 95)).alloc (.cells #[.int .i64 0,.int .i64 0,.int .i64 0,.slice none 0 0] 95)):=z1.alloc (by simp) _
   have z3:Below W.heap.size W (((W.alloc (.cells #[.int .i64 0,.int .i64 0,.int .i64 0,.slice none 0 0] 95)).alloc (.cells #[.int .i64 0,.int .i64 0,.int .i64 0,.slice none 0 0] 95)).alloc (.cells #[.int .i64 0,.int .i64 0,.int .i64 0,.slice none 0 0] 95)):=z2.alloc (by simp;omega) _
   have HZ:=hide z1
   have HY:=hide z2
   have HX:=hide z3
   have e0:(((W.alloc (.cells #[.int .i64 0,.int .i64 0,.int .i64 0,.slice none 0 0] 95)).alloc (.cells #[.int .i64 0,.int .i64 0,.int .i64 0,.slice none 0 0] 95)).alloc (.cells #[.int .i64 0,.int .i64 0,.int .i64 0,.slice none 0 0] 95)).drew.heap[W.heap.size]?=some (.cells #[.int .i64 0,.int .i64 0,.int .i64 0,.slice none 0 0] 95 (0,0)):=(heap_alloc_old _ _ (by simp;omega)).trans ((heap_alloc_old _ _ (by simp)).trans (heap_alloc_new W _))
   have e1:(((W.alloc (.cells #[.int .i64 0,.int .i64 0,.int .i64 0,.slice none 0 0] 95)).alloc (.cells #[.int .i64 0,.int .i64 0,.int .i64 0,.slice none 0 0] 95)).alloc (.cells #[.int .i64 0,.int .i64 0,.int .i64 0,.slice none 0 0] 95)).drew.heap[W.heap.size+1]?=some (.cells #[.int .i64 0,.int .i64 0,.int .i64 0,.slice none 0 0] 95 (0,0)):=(heap_alloc_old _ _ (by simp)).trans (new_at _ _ (by simp))
   have e2:(((W.alloc (.cells #[.int .i64 0,.int .i64 0,.int .i64 0,.slice none 0 0] 95)).alloc (.cells #[.int .i64 0,.int .i64 0,.int .i64 0,.slice none 0 0] 95)).alloc (.cells #[.int .i64 0,.int .i64 0,.int .i64 0,.slice none 0 0] 95)).drew.heap[W.heap.size+1+1]?=some (.cells #[.int .i64 0,.int .i64 0,.int .i64 0,.slice none 0 0] 95 (0,0)):=new_at _ _ (by simp)
   clear z1 z2 z3
   refine wpTo_list (l:=[12,13,14]) (by kernel_rfl) (by simp) (fun j hj=>?_)
   simp only [List.mem_cons,List.not_mem_nil,or_false] at hj
   rcases hj with rfl|rfl|rfl
   all_goals
    refine ⟨_,rfl,fun K hK=>?_⟩
    go_simp
    refine hK.out _ _ (fun _=>(HSK.out) _ ((HZ.out).drew)) (fun _=>?_)
    clear hK K
   refine wpTo_list (l:=[13,14]) (by kernel_rfl) (by simp) (fun j hj=>?_)
   rotate_left
   refine wpTo_list (l:=[12,14]) (by kernel_rfl) (by simp) (fun j hj=>?_)
   rotate_left
   refine wpTo_list (l:=[12,13]) (by kernel_rfl) (by simp) (fun j hj=>?_)
   rotate_left
   all_goals
    simp only [List.mem_cons,List.not_mem_nil,or_false] at hj
    rcases hj with rfl|rfl
   all_goals
    refine ⟨_,rfl,fun K hK=>?_⟩
    go_simp
    refine hK.out _ _ (fun _=>(HSK.out) _ ((HY.out).drew)) (fun _=>?_)
    clear hK K
   refine wpTo_one (i:=14) (by kernel_rfl) rfl (fun K hK=>?_)
   rotate_left
   refine wpTo_one (i:=13) (by kernel_rfl) rfl (fun K hK=>?_)
   rotate_left
   refine wpTo_one (i:=14) (by kernel_rfl) rfl (fun K hK=>?_)
   rotate_left
   refine wpTo_one (i:=12) (by kernel_rfl) rfl (fun K hK=>?_)
   rotate_left
   refine wpTo_one (i:=13) (by kernel_rfl) rfl (fun K hK=>?_)
   rotate_left
   refine wpTo_one (i:=12) (by kernel_rfl) rfl (fun K hK=>?_)
   rotate_left
   all_goals
    go_simp
    refine hK.out _ _ (fun _=>(HSK.out) _ ((HX.out).drew)) (fun _=>?_)
    clear hK K
    refine wpTo_cast 3 #[true,true,true,true,true,true,true,true,true,true,true,true,true,true,true,false,false,false] (by kernel_rfl) (by kernel_rfl) ?_
    have HD:=hide ((HX.out).drew)
    generalize (((W.alloc (.cells #[.int .i64 0,.int .i64 0,.int .i64 0,.slice none 0 0] 95)).alloc (.cells #[.int .i64 0,.int .i64 0,.int .i64 0,.slice none 0 0] 95)).alloc (.cells #[.int .i64 0,.int .i64 0,.int .i64 0,.slice none 0 0] 95)).drew=W3 at e0 e1 e2 HD ⊢
   ·have sg:∀ B C,W.heap.size+1=B→W.heap.size+1+1=C→Hid (B≠W.heap.size∧C≠W.heap.size∧C≠B∧W.heap.size≤W.heap.size∧W.heap.size≤B∧W.heap.size≤C):=fun B C h1 h2=>⟨by omega,by omega,by omega,by omega,by omega,by omega⟩
    generalize hC:W.heap.size+1+1=C at e2 ⊢
    generalize hB:W.heap.size+1=B at e1 ⊢
    replace sg:=sg B C hB hC
    clear hB hC HX HY HZ
    have sg':∀ A,W.heap.size=A→Hid (B≠A∧C≠A∧C≠B∧W.heap.size≤A∧W.heap.size≤B∧W.heap.size≤C):=fun A h=>h ▸ sg
    generalize hA:W.heap.size=A at e0 ⊢
    replace sg:=sg' A hA
    clear sg' hA
    revert e2
    revert e1
    revert e0
    revert HD
    revert sg
    revert A
    revert B
    revert C
    revert W3
    exact key.out
   all_goals
    first
     | exact key.out W3 (W.heap.size+1) (W.heap.size+1+1) W.heap.size ⟨by omega,by omega,by omega,by omega,by omega,by omega⟩ HD e0 e2 e1
     | exact key.out W3 (W.heap.size+1+1) W.heap.size (W.heap.size+1) ⟨by omega,by omega,by omega,by omega,by omega,by omega⟩ HD e1 e0 e2
     | exact key.out W3 W.heap.size (W.heap.size+1+1) (W.heap.size+1) ⟨by omega,by omega,by omega,by omega,by omega,by omega⟩ HD e1 e2 e0
     | exact key.out W3 (W.heap.size+1) W.heap.size (W.heap.size+1+1) ⟨by omega,by omega,by omega,by omega,by omega,by omega⟩ HD e2 e0 e1
     | exact key.out W3 W.heap.size (W.heap.size+1) (W.heap.size+1+1) ⟨by omega,by omega,by omega,by omega,by omega,by omega⟩ HD e2 e1 e0
  ·intro W3 C B A sg HD e0 e1 e2
   obtain ⟨n1,n2,n3,l1,l2,l3⟩:=sg.out
   clear sg
   have m0:=cell_of_row W3 _ 0 _ _ _ e0
   have m1:=cell_of_row W3 _ 1 _ _ _ e0
   have m2:=cell_of_row W3 _ 2 _ _ _ e0
   have m3:=cell_of_row W3 _ 3 _ _ _ e0
   have fz:∀ o,W3.frozen? ⟨A,o,none⟩=false:=fun o=>by simp [World.frozen?,e0]
   have g0:=set4_B (x0:=(.int .i64 kq)) (x1:=(.int .i64 fq)) (x2:=(.int .i64 tq)) (x3:=(.slice a1 a2 a3)) e0
   have kS:Kp (fun x=>x=A) W3 ((((W3.setCell ⟨A,0,none⟩ (.int .i64 kq)).setCell ⟨A,1,none⟩ (.int .i64 fq)).setCell ⟨A,2,none⟩ (.int .i64 tq)).setCell ⟨A,3,none⟩ (.slice a1 a2 a3)):=On.set (On.set (On.set (On.set (Kp.refl _ W3) 0 _) 1 _) 2 _) 3 _
   have HD2:Hid (Below W.heap.size W ((((W3.setCell ⟨A,0,none⟩ (.int .i64 kq)).setCell ⟨A,1,none⟩ (.int .i64 fq)).setCell ⟨A,2,none⟩ (.int .i64 tq)).setCell ⟨A,3,none⟩ (.slice a1 a2 a3))):=(HD.out).trans (Kp.below kS (HD.out).size (fun x e=>by omega))
   replace e1:=kS.heap e1 (show ¬(B=A) by omega)
   replace e2:=kS.heap e2 (show ¬(C=A) by omega)
   refine wpTo_one (i:=15) (by kernel_rfl) rfl (fun K hK=>?_)
   go_simp
   refine hK.out _ _ (fun _=>(HSK.out) _ HD2.out) (fun _=>?_)
   clear hK K m0 m1 m2 m3 fz HD e0 kS
   have e0:=g0
   clear g0
   generalize ((((W3.setCell ⟨A,0,none⟩ (.int .i64 kq)).setCell ⟨A,1,none⟩ (.int .i64 fq)).setCell ⟨A,2,none⟩ (.int .i64 tq)).setCell ⟨A,3,none⟩ (.slice a1 a2 a3))=W4 at *
   have HD:=HD2
   clear HD2
   have m0:=cell_of_row W4 _ 0 _ _ _ e1
   have m1:=cell_of_row W4 _ 1 _ _ _ e1
   have m2:=cell_of_row W4 _ 2 _ _ _ e1
   have m3:=cell_of_row W4 _ 3 _ _ _ e1
   have fz:∀ o,W4.frozen? ⟨B,o,none⟩=false:=fun o=>by simp [World.frozen?,e1]
   have g0:=set4_B (x0:=(.int .i64 kd)) (x1:=(.int .i64 fd)) (x2:=(.int .i64 td)) (x3:=(.slice b1 b2 b3)) e1
   have kS:Kp (fun x=>x=B) W4 ((((W4.setCell ⟨B,0,none⟩ (.int .i64 kd)).setCell ⟨B,1,none⟩ (.int .i64 fd)).setCell ⟨B,2,none⟩ (.int .i64 td)).setCell ⟨B,3,none⟩ (.slice b1 b2 b3)):=On.set (On.set (On.set (On.set (Kp.refl _ W4) 0 _) 1 _) 2 _) 3 _
   have HD2:Hid (Below W.heap.size W ((((W4.setCell ⟨B,0,none⟩ (.int .i64 kd)).setCell ⟨B,1,none⟩ (.int .i64 fd)).setCell ⟨B,2,none⟩ (.int .i64 td)).setCell ⟨B,3,none⟩ (.slice b1 b2 b3))):=(HD.out).trans (Kp.below kS (HD.out).size (fun x e=>by omega))
   replace e0:=kS.heap e0 (show ¬(A=B) by omega)
   replace e2:=kS.heap e2 (show ¬(C=B) by omega)
   refine wpTo_one (i:=16) (by kernel_rfl) rfl (fun K hK=>?_)
   go_simp
   refine hK.out _ _ (fun _=>(HSK.out) _ HD2.out) (fun _=>?_)
   clear hK K m0 m1 m2 m3 fz HD e1 kS
   have e1:=g0
   clear g0
   generalize ((((W4.setCell ⟨B,0,none⟩ (.int .i64 kd)).setCell ⟨B,1,none⟩ (.int .i64 fd)).setCell ⟨B,2,none⟩ (.int .i64 td)).setCell ⟨B,3,none⟩ (.slice b1 b2 b3))=W5 at *
   have HD:=HD2
   clear HD2
   have m0:=cell_of_row W5 _ 0 _ _ _ e2
   have m1:=cell_of_row W5 _ 1 _ _ _ e2
   have m2:=cell_of_row W5 _ 2 _ _ _ e2
   have m3:=cell_of_row W5 _ 3 _ _ _ e2
   have fz:∀ o,W5.frozen? ⟨C,o,none⟩=false:=fun o=>by simp [World.frozen?,e2]
   have g0:=set4_B (x0:=(.int .i64 ks)) (x1:=(.int .i64 fs)) (x2:=(.int .i64 ts)) (x3:=(.slice d1 d2 d3)) e2
   have kS:Kp (fun x=>x=C) W5 ((((W5.setCell ⟨C,0,none⟩ (.int .i64 ks)).setCell ⟨C,1,none⟩ (.int .i64 fs)).setCell ⟨C,2,none⟩ (.int .i64 ts)).setCell ⟨C,3,none⟩ (.slice d1 d2 d3)):=On.set (On.set (On.set (On.set (Kp.refl _ W5) 0 _) 1 _) 2 _) 3 _
   have HD2:Hid (Below W.heap.size W ((((W5.setCell ⟨C,0,none⟩ (.int .i64 ks)).setCell ⟨C,1,none⟩ (.int .i64 fs)).setCell ⟨C,2,none⟩ (.int .i64 ts)).setCell ⟨C,3,none⟩ (.slice d1 d2 d3))):=(HD.out).trans (Kp.below kS (HD.out).size (fun x e=>by omega))
   replace e0:=kS.heap e0 (show ¬(A=C) by omega)
   replace e1:=kS.heap e1 (show ¬(B=C) by omega)
   refine wpTo_one (i:=17) (by kernel_rfl) rfl (fun K hK=>?_)
   go_simp
   refine hK.out _ _ (fun _=>(HSK.out) _ HD2.out) (fun _=>?_)
   clear hK K m0 m1 m2 m3 fz HD e2 kS
   have e2:=g0
   clear g0
   generalize ((((W5.setCell ⟨C,0,none⟩ (.int .i64 ks)).setCell ⟨C,1,none⟩ (.int .i64 fs)).setCell ⟨C,2,none⟩ (.int .i64 ts)).setCell ⟨C,3,none⟩ (.slice d1 d2 d3))=W6 at *
   have HD:=HD2
   clear HD2
   have HF:Hid (Tri W A B C #[.int .i64 kq,.int .i64 fq,.int .i64 tq,.slice a1 a2 a3] #[.int .i64 kd,.int .i64 fd,.int .i64 td,.slice b1 b2 b3] #[.int .i64 ks,.int .i64 fs,.int .i64 ts,.slice d1 d2 d3] W6):=⟨e0,e1,e2,HD.out⟩
   clear HD HSK e0 e1 e2
   refine wpTo_end (by kernel_rfl) ?_
   refine NoPanic.normal ?_
   go_wp2_with fail
   go_meet
   case rel=>exact ⟨_,_,_,rfl,rfl,rfl,HF⟩
 case rest =>
  obtain ⟨A,B,C,rfl,rfl,rfl,HTr⟩:=hcut
  obtain ⟨tA,tB,tC,kT⟩:=HTr.out
  have k2:Below w.heap.size w wc:=(HK1.out).trans (kT.mono (HK1.out).size)
  have HBX2:=hide ((Kp.ofBelow kT (fun _=>False)).heap HBX.out id)
  have HQ2:=hide ((HQ.out).kept (Kp.ofBelow k2 (fun _=>False)) (fun _ h=>h.elim))
  have HS2:=hide ((HS.out).kept (Kp.ofBelow k2 (fun _=>False)) (fun _ h=>h.elim))
  have HR2:=hide ((HR.out).below k2)
  have HG2:Hid (∃ lv,IsPg wc Q R ls lv):=by
   obtain ⟨lv,hlv⟩:=HG.out
   exact ⟨lv,hlv.below k2⟩
  have HK2:=hide k2
  have HA2:=hide tA
  have HB2:=hide tB
  have HC2:=hide tC
  clear HTr kT k2 HBX HQ HS HR HG HK1 HZ1 bx3 x00 x01 x02 x03 x10 x11 x12 x13 x20 x21 x22 x23
  have qa0:=cell_of_row wc _ 0 _ _ _ HA2.out
  have qa1:=cell_of_row wc _ 1 _ _ _ HA2.out
  have qa2:=cell_of_row wc _ 2 _ _ _ HA2.out
  have qa3:=cell_of_row wc _ 3 _ _ _ HA2.out
  go_wp2_with fail
  refine (ihq f n fq wc Q R rm D (.agg #[.int .i64 kq,.int .i64 fq,.int .i64 tq,.slice a1 a2 a3]) (ls) HR2.out HG2.out HQ2.out HAq.out hfq hmq (by omega)).mono ?_
  rintro e v1 ⟨rfl,HE⟩
  obtain ⟨l1,sgl1,hpl1⟩:=HE.out
  have HSGl1:=hide sgl1
  have HP:=hide hpl1
  have hlenl1:=sgl1.rg.len
  clear HE sgl1 hpl1
  have HBX2':=hide ((HP.out).2.heap HBX2.out PT.pt)
  clear HBX2
  have HBX2:=HBX2'
  clear HBX2'
  have HA2':=hide ((HP.out).2.heap HA2.out PT.pt)
  clear HA2
  have HA2:=HA2'
  clear HA2'
  have HB2':=hide ((HP.out).2.heap HB2.out PT.pt)
  clear HB2
  have HB2:=HB2'
  clear HB2'
  have HC2':=hide ((HP.out).2.heap HC2.out PT.pt)
  clear HC2
  have HC2:=HC2'
  clear HC2'
  have HQ2':=hide (IsPt.fk (HP.out).2 PT.pt HQ2.out)
  have HS2':=hide (IsPt.fk (HP.out).2 PT.pt HS2.out)
  have HR2':=hide ((HR2.out).keep (HP.out).2 (fun t ht=>PT.rt ht))
  have HG2':=hide ((HP.out).1)
  have HK2':Hid (FK PT Q w v1):=(FK.below HK2.out).trans (HP.out).2
  clear HQ2 HS2 HR2 HG2 HK2 HP
  have HQ2:=HQ2'
  have HS2:=HS2'
  have HR2:=HR2'
  have HG2:=HG2'
  have HK2:=HK2'
  clear HQ2' HS2' HR2' HG2' HK2'
  clear qa0 qa1 qa2 qa3
  have qb1:=cell_of_row v1 _ 1 _ _ _ HB2.out
  have qb2:=cell_of_row v1 _ 2 _ _ _ HB2.out
  go_wp2_with fail
  refine (gadd_any n fd td Q R (ls++l1) v1 HG2.out (by simp only [List.length_append];omega)).mono ?_
  rintro e v2 ⟨rfl,HP⟩
  have HBX2':=hide ((HP.out).2.heap HBX2.out PT.pt)
  clear HBX2
  have HBX2:=HBX2'
  clear HBX2'
  have HA2':=hide ((HP.out).2.heap HA2.out PT.pt)
  clear HA2
  have HA2:=HA2'
  clear HA2'
  have HB2':=hide ((HP.out).2.heap HB2.out PT.pt)
  clear HB2
  have HB2:=HB2'
  clear HB2'
  have HC2':=hide ((HP.out).2.heap HC2.out PT.pt)
  clear HC2
  have HC2:=HC2'
  clear HC2'
  have HQ2':=hide (IsPt.fk (HP.out).2 PT.pt HQ2.out)
  have HS2':=hide (IsPt.fk (HP.out).2 PT.pt HS2.out)
  have HR2':=hide ((HR2.out).keep (HP.out).2 (fun t ht=>PT.rt ht))
  have HG2':=hide ((HP.out).1)
  have HK2':Hid (FK PT Q w v2):=(HK2.out).trans (HP.out).2
  clear HQ2 HS2 HR2 HG2 HK2 HP
  have HQ2:=HQ2'
  have HS2:=HS2'
  have HR2:=HR2'
  have HG2:=HG2'
  have HK2:=HK2'
  clear HQ2' HS2' HR2' HG2' HK2'
  clear qb1 qb2
  have qc0:=cell_of_row v2 _ 0 _ _ _ HC2.out
  have qc1:=cell_of_row v2 _ 1 _ _ _ HC2.out
  have qc2:=cell_of_row v2 _ 2 _ _ _ HC2.out
  have qc3:=cell_of_row v2 _ 3 _ _ _ HC2.out
  go_wp2_with fail
  refine (ihs f (n+2) fs v2 Q R rm D (.agg #[.int .i64 ks,.int .i64 fs,.int .i64 ts,.slice d1 d2 d3]) ((ls++l1++[(n,fd,td)])) HR2.out HG2.out HS2.out HAs.out hfs hms (by simp only [List.length_append,List.length_singleton];omega)).mono ?_
  rintro e v3 ⟨rfl,HE⟩
  obtain ⟨l2,sgl2,hpl2⟩:=HE.out
  have HSGl2:=hide sgl2
  have HP:=hide hpl2
  have hlenl2:=sgl2.rg.len
  clear HE sgl2 hpl2
  have HBX2':=hide ((HP.out).2.heap HBX2.out PT.pt)
  clear HBX2
  have HBX2:=HBX2'
  clear HBX2'
  have HA2':=hide ((HP.out).2.heap HA2.out PT.pt)
  clear HA2
  have HA2:=HA2'
  clear HA2'
  have HB2':=hide ((HP.out).2.heap HB2.out PT.pt)
  clear HB2
  have HB2:=HB2'
  clear HB2'
  have HC2':=hide ((HP.out).2.heap HC2.out PT.pt)
  clear HC2
  have HC2:=HC2'
  clear HC2'
  have HQ2':=hide (IsPt.fk (HP.out).2 PT.pt HQ2.out)
  have HS2':=hide (IsPt.fk (HP.out).2 PT.pt HS2.out)
  have HR2':=hide ((HR2.out).keep (HP.out).2 (fun t ht=>PT.rt ht))
  have HG2':=hide ((HP.out).1)
  have HK2':Hid (FK PT Q w v3):=(HK2.out).trans (HP.out).2
  clear HQ2 HS2 HR2 HG2 HK2 HP
  have HQ2:=HQ2'
  have HS2:=HS2'
  have HR2:=HR2'
  have HG2:=HG2'
  have HK2:=HK2'
  clear HQ2' HS2' HR2' HG2' HK2'
  clear qc0 qc1 qc2 qc3
  have HF:Hid (∃ l1 l2,X.SG L fq (X.nt q).length l1 (X.ex f n q)∧X.SG L fs (X.nt s).length l2 (X.ex f (n+2) s)∧PgTo w Q R (ls++(l1++[(n,fd,td)]++l2)) v3):=by
   refine ⟨l1,l2,HSGl1.out,HSGl2.out,?_,HK2.out⟩
   have h:=HG2.out
   simp only [List.append_assoc] at h ⊢
   exact h
  go_wp2_with fail
  go_end0
  exact ⟨rfl,HF⟩
end Go.Proofs.YtgpcpbmacdhlkaaGreatDoor
/- Package lay: brackets. -/
namespace Go.Proofs.YtgpcpbmacdhlkaaGreatDoor
open Go.RowKit
open M
set_option maxRecDepth 100000 in
set_option maxHeartbeats 8000000 in
theorem gbracket_none (a b:X.Part) (p:X.Part) (hp:X.tks (X.kidsOf p)=[a,b]) (fr n ib:Nat) (w:World) (Q R:Nat) (D:Nat→Prop) (v:Value) (ls:List X.Lne) (hg:∃ lv,IsPg w Q R ls lv) (h:IsPt w D ib v p) (hl:ls.length≤268435456) :
  Calls Tryz.prog 120 #[.pointer (some ⟨Q,0,none⟩),.int .i64 fr,v,.int .i64 n] w fun e w'=>e=.returned (.tuple #[])∧Hid (PgTo w Q R (ls++[(n,fr,ib+(X.nt p).length)]) w'):=by
 obtain ⟨ao,cap,rfl,hc1,hc2,hk⟩:=h.kid
 rw [hp] at hk hc1 ⊢
 obtain ⟨g,b1,b2,b3,rfl,⟨cur,hgb⟩,-⟩:=hk 0 a rfl
 have hcap:2≤cap:=hc1
 generalize ib+(X.nt p).length=te at *
 have hgl:=heap_lt hgb
 have k1:Below w.heap.size w (w.alloc (.cells #[.int .i64 (X.kindOf p),.int .i64 ib,.int .i64 te,.slice (some ⟨g,0,none⟩) 2 cap] 95)):=(Below.refl _ w).alloc (Nat.le_refl _) _
 have HC:Hid (Calls Tryz.prog 64 #[.pointer (some ⟨Q,0,none⟩),.int .i64 n,.int .i64 fr,.int .i64 te] (w.alloc (.cells #[.int .i64 (X.kindOf p),.int .i64 ib,.int .i64 te,.slice (some ⟨g,0,none⟩) 2 cap] 95)) fun e w'=>e=.returned (.tuple #[])∧Hid (PgTo (w.alloc (.cells #[.int .i64 (X.kindOf p),.int .i64 ib,.int .i64 te,.slice (some ⟨g,0,none⟩) 2 cap] 95)) Q R (ls++[(n,fr,te)]) w')):=by
  obtain ⟨lv,hlv⟩:=hg
  exact gadd_any n fr te Q R ls _ ⟨lv,hlv.below k1⟩ hl
 have HK:=hide k1
 have i1:(1:Int)≤(cap:Int):=by omega
 have i2:¬ cap=1:=by omega
 have i3:1<cap:=by omega
 have hlen:([a,b]:List X.Part).length=2:=rfl
 rw [hlen]
 clear hk h hg k1 hp hc1 hlen
 go_enter Tryz.func120,Tryz.ntmps120
 go_wp2_with fail
 refine (HC.out).mono ?_
 rintro e w2 ⟨rfl,H2⟩
 have HF:Hid (PgTo w Q R (ls++[(n,fr,te)]) w2):=PgTo.from HK.out H2.out
 clear H2
 go_wp2_with fail
 try simp only [Exit.inBlock,Exit.then]
 refine bodyPost_ret (v:=.tuple #[]) (by simp [results,Tryz.results120,go_sem]) rfl ?_
 exact ⟨rfl,HF⟩
structure InBr (w:World) (Q R:Nat) (rm:List (List UInt8)) (L:List X.Lf) (D:Nat→Prop) (ib:Nat) (pv:Value) (p:X.Part) (E:X.Part→List UInt8→List UInt8) (c:List UInt8) (l:List X.Part) (ls:List X.Lne) (bx:Nat) (bc:Array Value) (j:Nat) (lj:List X.Lne) (wr:World):Prop where
 row:IsRow wr R rm L
 pg:∃ lv,IsPg wr Q R (ls++lj) lv
 pt:IsPt wr D ib pv p
 box:wr.heap[bx]?=some (.cells bc 95 (0,0))
 bri:X.BrI L (ib+1) E c l j lj
 fk:FK PT Q w wr
theorem InBr.to {w:World} {Q R:Nat} {rm:List (List UInt8)} {L:List X.Lf} {D:Nat→Prop} {ib:Nat} {pv:Value} {p:X.Part} {E:X.Part→List UInt8→List UInt8} {c:List UInt8} {l:List X.Part} {ls:List X.Lne} {bx:Nat} {bc:Array Value} {j j':Nat} {lj lj':List X.Lne} {wr w1 w2:World} (h:InBr w Q R rm L D ib pv p E c l ls bx bc j lj wr) (hb:Below wr.heap.size wr w1) (hp:PgTo w1 Q R (ls++lj') w2) (hi:X.BrI L (ib+1) E c l j' lj'):InBr w Q R rm L D ib pv p E c l ls bx bc j' lj' w2:=by
 have hk:FK PT Q wr w2:=(FK.below hb).trans hp.2
 exact ⟨h.row.keep hk (fun _ ht=>PT.rt ht),hp.1,IsPt.fk hk PT.pt h.pt,hk.heap h.box PT.pt,hi,h.fk.trans hk⟩
theorem IsPt.kidv {w:World} {D:Nat→Prop} {i:Nat} {x y z:Value} {ao:Option Addr} {n cap:Nat} {p:X.Part} (h:IsPt w D i (.agg #[x,y,z,.slice ao n cap]) p) {j:Nat} {q:X.Part} (hj:(X.tks (X.kidsOf p))[j]?=some q):∃ (g:Nat) (b1:Option Addr) (b2 b3:Nat),ao=some ⟨g,0,none⟩∧(∃ cur,w.heap[g]?=some (.cells cur 95 (0,0))) ∧
   w.cell? ⟨g,j*4,none⟩=some (.int .i64 (X.kindOf q))∧w.cell? ⟨g,j*4+1,none⟩=some (.int .i64 ((i+(X.nts' ((X.tks (X.kidsOf p)).take j)).length:Nat):Int))∧w.cell? ⟨g,j*4+2,none⟩=some (.int .i64 ((i+(X.nts' ((X.tks (X.kidsOf p)).take j)).length+(X.nt q).length:Nat):Int))∧w.cell? ⟨g,j*4+3,none⟩=some (.slice b1 b2 b3) ∧
   IsPt w D (i+(X.nts' ((X.tks (X.kidsOf p)).take j)).length) (.agg #[.int .i64 (X.kindOf q),.int .i64 ((i+(X.nts' ((X.tks (X.kidsOf p)).take j)).length:Nat):Int),.int .i64 ((i+(X.nts' ((X.tks (X.kidsOf p)).take j)).length+(X.nt q).length:Nat):Int),.slice b1 b2 b3]) q:=by
 obtain ⟨ao',cap',hv,-,-,hk⟩:=h.kid
 simp only [Value.agg.injEq,Array.mk.injEq,List.cons.injEq,and_true,Value.slice.injEq] at hv
 obtain ⟨-,-,-,rfl,-,-⟩:=hv
 exact hk j q hj
set_option maxRecDepth 100000 in
set_option maxHeartbeats 8000000 in
theorem gbracket_some (L:List X.Lf) (hL:L.length≤268435456) (p:X.Part) (ta:X.Tok) (l:List X.Part) (c:List UInt8) (hp:X.tks (X.kidsOf p)=X.lf ta::l) (hta:X.lou ta=true) (hsh:X.ShA c l) (hlou:∀ t:X.Tok,X.lf t∈l→X.lou t=true) (gg:Bool) (f fr n ib:Nat) (ih:∀ q∈l,X.Sh q→XC L q) (hdp:∀ q∈l,n+2+X.dp q≤522) (hfu:∀ q∈l,(X.nt q).length≤f) (hA:X.Ats L ib (X.fls gg (X.lf ta::l))) (w:World) (Q R:Nat) (rm:List (List UInt8)) (D:Nat→Prop) (v:Value) (ls:List X.Lne) (hr:IsRow w R rm L) (hg:∃ lv,IsPg w Q R ls lv) (h:IsPt w D ib v p) (hl:ls.length+1+(X.nts' l).length≤268435456) :
  Calls Tryz.prog 120 #[.pointer (some ⟨Q,0,none⟩),.int .i64 fr,v,.int .i64 n] w fun e w'=>e=.returned (.tuple #[])∧Hid (∃ lm,X.RG L (ib+1) (X.nts' (l.take (l.length - 1))).length lm (X.many (X.ex f (n+2)) l)∧PgTo w Q R (ls++([(n,fr,ib+1)]++lm++[(n,ib+(X.nt p).length - 1,ib+(X.nt p).length)])) w'):=by
 obtain ⟨m,hm⟩:∃ m,l.length=m+1:=⟨l.length - 1,by have:=hsh.two;omega⟩
 have hm1:1≤m:=by have:=hsh.two;omega
 obtain ⟨ao,cap,hv,hc1,hc2,hk⟩:=h.kid
 have hte:1≤(X.nt p).length:=by
  have h1:=X.nts_tks (X.kidsOf p)
  rw [hp,X.nts_cons,X.nt_lf,if_pos hta] at h1
  cases h with
  | mk i p' =>
  have h2:(X.nt p).length=(X.nts' (X.kidsOf p)).length:=by
   cases p with
   | leaf k x=>simp [X.kidsOf,X.tks] at hp
   | miss m=>simp [X.kidsOf,X.tks] at hp
   | br k ps=>unfold X.nt X.nts';rw [X.pl];rfl
  rw [h2,← h1,List.length_append];simp
 obtain ⟨g,b1,b2,b3,rfl,⟨cur,hgb⟩,-⟩:=hk 0 (X.lf ta) (by rw [hp];rfl)
 have hnl:(X.tks (X.kidsOf p)).length=m+2:=by rw [hp,List.length_cons,hm]
 rw [hnl] at hv hc1
 have hfl:=X.fls_len gg (X.lf ta::l)
 have hn1:(X.nts' (X.lf ta::l)).length=1+(X.nts' l).length:=by rw [X.nts_cons,X.nt_lf,if_pos hta,List.length_append];rfl
 have hnp:(X.nt p).length=1+(X.nts' l).length:=by
  have h1:=X.nts_tks (X.kidsOf p)
  rw [hp] at h1
  have h2:(X.nt p).length=(X.nts' (X.kidsOf p)).length:=by
   cases p with
   | leaf k x=>simp [X.kidsOf,X.tks] at hp
   | miss m=>simp [X.kidsOf,X.tks] at hp
   | br k ps=>unfold X.nt X.nts';rw [X.pl];rfl
  rw [h2,← h1,hn1]
 have hle:=hA.le
 rw [hfl,hn1] at hle
 have hAl:X.Ats L (ib+1) (X.fls gg l):=by
  have e:X.fls gg (X.lf ta::l)=X.fl gg (X.lf ta)++X.fls gg l:=by rw [X.fls]
  rw [e] at hA
  have h1:=hA.right
  rw [X.fl_lf hta] at h1
  exact h1
 have HKID:Hid (∀ (W:World) (j:Nat) (q:X.Part),IsPt W D ib (.agg #[.int .i64 (X.kindOf p),.int .i64 ib,.int .i64 ((ib+(X.nt p).length:Nat):Int),.slice (some ⟨g,0,none⟩) (m+2) cap]) p→l[j]?=some q→∃ (k1 f1 t1:Nat) (d1:Option Addr) (d2 d3:Nat),Hid (k1=X.kindOf q∧f1=ib+1+(X.nts' (l.take j)).length)∧W.cell? ⟨g,4+j*4,none⟩=some (.int .i64 k1)∧W.cell? ⟨g,4+j*4+1,none⟩=some (.int .i64 f1)∧W.cell? ⟨g,4+j*4+2,none⟩=some (.int .i64 t1)∧W.cell? ⟨g,4+j*4+3,none⟩=some (.slice d1 d2 d3)∧Hid (IsPt W D f1 (.agg #[.int .i64 k1,.int .i64 f1,.int .i64 t1,.slice d1 d2 d3]) q)):=fun W j q hW hj=>by
  obtain ⟨g',d1,d2,d3,e1,-,z0,z1,z2,z3,hq⟩:=hW.kidv (j:=j+1) (q:=q) (by rw [hp];simpa using hj)
  injection e1 with e1
  injection e1 with e1
  subst e1
  have e2:ib+(X.nts' ((X.tks (X.kidsOf p)).take (j+1))).length=ib+1+(X.nts' (l.take j)).length:=by
   rw [hp,List.take_succ_cons,X.nts_cons,X.nt_lf,if_pos hta,List.length_append];simp;omega
  rw [e2] at z1 z2 hq
  have e3:(j+1)*4=4+j*4:=by omega
  rw [e3] at z0 z1 z2 z3
  exact ⟨_,_,_,d1,d2,d3,⟨rfl,rfl⟩,z0,z1,z2,z3,hq⟩
 subst hv
 obtain ⟨te,hteq⟩:∃ te,te=ib+(X.nt p).length:=⟨_,rfl⟩
 rw [← hteq] at HKID h ⊢
 have hte1:1≤te:=by omega
 have hteL:te≤L.length:=by omega
 have hgl:=heap_lt hgb
 have hcap:m+2≤cap:=hc1
 have hcm:m+2≤9223372036854775807:=by unfold maxLen at hc2;omega
 have k1:Below w.heap.size w (w.alloc (.cells #[.int .i64 (X.kindOf p),.int .i64 ib,.int .i64 te,.slice (some ⟨g,0,none⟩) (m+2) cap] 95)):=(Below.refl _ w).alloc (Nat.le_refl _) _
 have hbx:(w.alloc (.cells #[.int .i64 (X.kindOf p),.int .i64 ib,.int .i64 te,.slice (some ⟨g,0,none⟩) (m+2) cap] 95)).heap[w.heap.size]?=some (.cells #[.int .i64 (X.kindOf p),.int .i64 ib,.int .i64 te,.slice (some ⟨g,0,none⟩) (m+2) cap] 95 (0,0)):=heap_alloc_new w _
 have HPT:=hide (h.kept (Kp.ofBelow k1 (fun _=>False)) (fun _ e=>e.elim))
 have HROW:=hide (hr.below k1)
 have HPG:Hid (∃ lv,IsPg (w.alloc (.cells #[.int .i64 (X.kindOf p),.int .i64 ib,.int .i64 te,.slice (some ⟨g,0,none⟩) (m+2) cap] 95)) Q R ls lv):=by
  obtain ⟨lv,hlv⟩:=hg
  exact ⟨lv,hlv.below k1⟩
 obtain ⟨q0,hq0⟩:∃ q0,l[0]?=some q0:=⟨l[0]'(by omega),List.getElem?_eq_getElem (by omega)⟩
 obtain ⟨kk0,f0,t0,d1,d2,d3,HE0,-,y1,-⟩:=(HKID.out) w 0 q0 h hq0
 have HF0:Hid (f0=ib+1):=by
  have:=(HE0.out).2
  rw [List.take_zero] at this
  exact this
 replace y1:w.cell? ⟨g,5,none⟩=some (.int .i64 f0):=y1
 have hmm:m+2 - 1 - 1=m:=by omega
 have HK1:=hide k1
 have HBX:=hide hbx
 have HTE:=hide hteq
 have HIH:=hide ih
 have HAL:=hide hAl
 have HSH:=hide hsh
 have HLO:=hide hlou
 have HDP:=hide hdp
 have HFU:=hide hfu
 have i1:(1:Int)≤(cap:Int):=by omega
 have i2:¬ cap=1:=by omega
 have i3:1<cap:=by omega
 have i4:(1:Int)≤(m:Int)+1:=by omega
 have i5:(m:Int)+1≤(cap:Int):=by omega
 have i6:((m:Int)==0)=false:=by simp;omega
 have i7:(0:Int)<(m:Int):=by omega
 have i8:0<m:=hm1
 have i9:¬ m=0:=by omega
 have hlb:ls.length+1+(X.nts' l).length≤268435456:=hl
 clear h hr hg k1 hbx hteq ih hAl hsh hlou hdp hfu hk hp hA hta hfl hn1 hnp hle hte hl hnl HE0 hc1 hc2
 go_enter Tryz.func120,Tryz.ntmps120
 go_wp2_with fail
 generalize w.alloc (.cells #[.int .i64 (X.kindOf p),.int .i64 ib,.int .i64 te,.slice (some ⟨g,0,none⟩) (m+2) cap] 95)=W1 at *
 refine (gadd_any n fr f0 Q R ls W1 HPG.out (by omega)).mono ?_
 rintro e w2 ⟨rfl,H2⟩
 have HI0:Hid (InBr w Q R rm L D ib (.agg #[.int .i64 (X.kindOf p),.int .i64 ib,.int .i64 te,.slice (some ⟨g,0,none⟩) (m+2) cap]) p (X.ex f (n+2)) c l (ls++[(n,fr,f0)]) w.heap.size #[.int .i64 (X.kindOf p),.int .i64 ib,.int .i64 te,.slice (some ⟨g,0,none⟩) (m+2) cap] 0 [] w2):=by
  have hk:=(H2.out).2
  exact ⟨(HROW.out).keep hk (fun _ ht=>PT.rt ht),by rw [List.append_nil];exact (H2.out).1,IsPt.fk hk PT.pt HPT.out,hk.heap HBX.out PT.pt,X.BrI.start HSH.out,(FK.below HK1.out).trans hk⟩
 have hz2:w.heap.size<w2.heap.size:=by
  have h1:=heap_lt HBX.out
  have h2:=(H2.out).2.size
  omega
 have hg2:g<w2.heap.size:=by omega
 rw [hmm]
 clear H2 HPG HROW HPT HBX HK1 hmm y1
 go_wp2_with fail
 go_loopw [37] (fun iv wr=>∃ (j:Nat) (lj:List X.Lne),iv=.int .i64 j∧j≤m∧Hid (InBr w Q R rm L D ib (.agg #[.int .i64 (X.kindOf p),.int .i64 ib,.int .i64 te,.slice (some ⟨g,0,none⟩) (m+2) cap]) p (X.ex f (n+2)) c l (ls++[(n,fr,f0)]) w.heap.size #[.int .i64 (X.kindOf p),.int .i64 ib,.int .i64 te,.slice (some ⟨g,0,none⟩) (m+2) cap] j lj wr)) (fun iv _=>m - (intOf iv).toNat)
 case atStart=>exact ⟨0,_,rfl,Nat.zero_le _,HI0⟩
 case round =>
  clear HI0
  obtain ⟨j,lj,rfl,hj,HI⟩:=hrel
  have bx2:=cell_of_row wr _ 2 _ _ _ (HI.out).box
  have hzr:w.heap.size<wr.heap.size:=heap_lt (HI.out).box
  have hgr:g<wr.heap.size:=by omega
  by_cases hlt:j<m
  case neg =>
   obtain rfl:j=m:=by omega
   have j1:decide (j<j)=false:=by simp
   have j2:decide ((j:Int)<(j:Int))=false:=by simp
   have hw1:IntKind.i64.wrap ((te:Int) - 1)=((te - 1:Nat):Int):=by rw [IntKind.wrap_i64];omega
   have hw2:(te:Int) - 1=((te - 1:Nat):Int):=by omega
   have HRG:=hide ((HI.out).bri.fin hm.symm)
   have hljl:=(HRG.out).len
   have hnt:=X.nts_cut l j
   have hlj:lj.length≤(X.nts' l).length:=by
    obtain ⟨r,e⟩:=hnt
    rw [e,List.length_append];omega
   clear hnt
   have HFK:=hide (HI.out).fk
   obtain ⟨tm,htm⟩:∃ tm,tm=te - 1:=⟨_,rfl⟩
   rw [← htm] at hw1 hw2
   have HTM:=hide htm
   clear htm
   go_wp2_with fail
   refine (gadd_any n tm te Q R (ls++[(n,fr,f0)]++lj) wr (HI.out).pg (by simp only [List.length_append,List.length_singleton];omega)).mono ?_
   rintro e w5 ⟨rfl,H5⟩
   have HF:Hid (∃ lm,X.RG L (ib+1) (X.nts' (l.take (l.length - 1))).length lm (X.many (X.ex f (n+2)) l)∧PgTo w Q R (ls++([(n,fr,ib+1)]++lm++[(n,te - 1,te)])) w5):=by
    refine ⟨lj,by rw [hm,Nat.add_sub_cancel];exact HRG.out,?_,(HFK.out).trans (H5.out).2⟩
    have h:=(H5.out).1
    rw [HTM.out,HF0.out] at h
    simp only [List.append_assoc] at h ⊢
    exact h
   clear H5 HRG HI
   go_wp2_with fail
   go_end0
   exact ⟨rfl,HF⟩
  have j1:decide (j<m)=true:=by simp;omega
  have j2:decide ((j:Int)<(m:Int))=true:=by simp;omega
  have j3:(0:Int)≤(j:Int):=Int.natCast_nonneg _
  have j4:(j:Int)<(m:Int):=by omega
  have HATS:Hid (∀ q,l[j]?=some q→X.Ats L (ib+1+(X.nts' (l.take j)).length) (X.fl gg q)):=fun q hq=>by
   obtain ⟨r,e⟩:=X.fls_cut gg l (j+1)
   have h:=HAL.out
   rw [e,X.fls_take gg hq] at h
   have h2:=h.left.right
   rw [X.fls_len] at h2
   exact h2
  have hntl:(X.nts' (l.take j)).length≤(X.nts' l).length:=by
   obtain ⟨r,e⟩:=X.nts_cut l j
   rw [e,List.length_append];omega
  rcases (HI.out).bri.next (by omega) HLO.out with ⟨q,hq,hSh,hlen,hnext⟩|⟨tb,hq,hlou,hb44,hne,hlen,hto,hnext⟩
  ·obtain ⟨k1,f1,t1,d1,d2,d3,HE,y0,y1,y2,y3,HQ⟩:=(HKID.out) wr j q (HI.out).pt hq
   have hmem:q∈l:=List.mem_of_getElem? hq
   have hk1:((k1:Int)==0)=false:=by
    have h1:=(HE.out).1
    have h2:X.kindOf q≠0:=by
     cases hSh<;>simp [X.kindOf]
     omega
    simp;omega
   have HNX:=hide hnext
   have HAq:Hid (X.Ats L f1 (X.fl false q)):=by
    have:=(HATS.out) q hq
    rw [hSh.fl] at this
    rw [(HE.out).2];exact this
   have HXC:=hide ((HIH.out) q hmem hSh)
   have hfq:=(HFU.out) q hmem
   have hdq:=(HDP.out) q hmem
   have hlq:(X.nts' (l.take j)).length+(X.nt q).length≤(X.nts' l).length:=by
    obtain ⟨r,e⟩:=X.nts_cut l (j+1)
    rw [e,X.nts_take hq,List.length_append,List.length_append];omega
   have kA:Below wr.heap.size wr (wr.alloc (.cells #[.int .i64 k1,.int .i64 f1,.int .i64 t1,.slice d1 d2 d3] 95)):=(Below.refl _ wr).alloc (Nat.le_refl _) _
   have HKA:=hide kA
   have HPG:Hid (∃ lv,IsPg (wr.alloc (.cells #[.int .i64 k1,.int .i64 f1,.int .i64 t1,.slice d1 d2 d3] 95)) Q R (ls++[(n,fr,f0)]++lj) lv):=by
    obtain ⟨lv,hlv⟩:=(HI.out).pg
    exact ⟨lv,hlv.below kA⟩
   have HRW:=hide ((HI.out).row.below kA)
   have HQA:=hide ((HQ.out).kept (Kp.ofBelow kA (fun _=>False)) (fun _ e=>e.elim))
   clear kA hnext hSh
   go_wp2_with fail
   refine ((HXC.out) f (n+2) f1 _ Q R rm D _ (ls++[(n,fr,f0)]++lj) HRW.out HPG.out HQA.out HAq.out hfq hdq (by simp only [List.length_append,List.length_singleton];omega)).mono ?_
   rintro e w5 ⟨rfl,H5⟩
   obtain ⟨l2,h51,h52⟩:=H5.out
   have HN:Hid (InBr w Q R rm L D ib (.agg #[.int .i64 (X.kindOf p),.int .i64 ib,.int .i64 te,.slice (some ⟨g,0,none⟩) (m+2) cap]) p (X.ex f (n+2)) c l (ls++[(n,fr,f0)]) w.heap.size #[.int .i64 (X.kindOf p),.int .i64 ib,.int .i64 te,.slice (some ⟨g,0,none⟩) (m+2) cap] (j+1) (lj++l2) w5):=by
    refine (HI.out).to HKA.out (by rw [← List.append_assoc];exact h52) ((HNX.out) l2 ?_)
    rw [(HE.out).2] at h51;exact h51
   clear H5 h51 h52 HQA HRW HPG HQ HXC HAq HNX HI
   go_wp2_with fail
   exact ⟨⟨j+1,_,by go_num,by omega,HN⟩,by simp only [intOf];omega⟩
  ·obtain ⟨k1,f1,t1,d1,d2,d3,HE,y0,y1,y2,y3,HQ⟩:=(HKID.out) wr j _ (HI.out).pt hq
   have hk0:k1=0:=(HE.out).1
   have hk1:((k1:Int)==0)=true:=by rw [hk0];rfl
   have HNX:Hid (X.BrI L (ib+1) (X.ex f (n+2)) c l (j+1) (X.cl lj)):=by
    have h:=(HATS.out) _ hq
    rw [X.fl_lf hlou] at h
    exact hnext _ h.get hb44
   have kA:Below wr.heap.size wr (wr.alloc (.cells #[.int .i64 k1,.int .i64 f1,.int .i64 t1,.slice d1 d2 d3] 95)):=(Below.refl _ wr).alloc (Nat.le_refl _) _
   have HKA:=hide kA
   have HPG:Hid (∃ lv,IsPg (wr.alloc (.cells #[.int .i64 k1,.int .i64 f1,.int .i64 t1,.slice d1 d2 d3] 95)) Q R (ls++[(n,fr,f0)]++lj) lv):=by
    obtain ⟨lv,hlv⟩:=(HI.out).pg
    exact ⟨lv,hlv.below kA⟩
   have hbnd:ib+1+(X.nts' (l.take j)).length≤268435456:=by
    have:=((HATS.out) _ hq).le
    omega
   clear kA hnext hk0
   go_wp2_with fail
   refine (gclose_any Q R (ls++[(n,fr,f0)]) lj _ HPG.out hne (by simp only [List.length_append,List.length_singleton];omega) (fun x hx=>by have:=hto x hx;omega)).mono ?_
   rintro e w5 ⟨rfl,H5⟩
   have HN:Hid (InBr w Q R rm L D ib (.agg #[.int .i64 (X.kindOf p),.int .i64 ib,.int .i64 te,.slice (some ⟨g,0,none⟩) (m+2) cap]) p (X.ex f (n+2)) c l (ls++[(n,fr,f0)]) w.heap.size #[.int .i64 (X.kindOf p),.int .i64 ib,.int .i64 te,.slice (some ⟨g,0,none⟩) (m+2) cap] (j+1) (X.cl lj) w5):=(HI.out).to HKA.out H5.out HNX.out
   clear H5 HPG HQ HNX HI
   go_wp2_with fail
   exact ⟨⟨j+1,_,by go_num,by omega,HN⟩,by simp only [intOf];omega⟩
end Go.Proofs.YtgpcpbmacdhlkaaGreatDoor
