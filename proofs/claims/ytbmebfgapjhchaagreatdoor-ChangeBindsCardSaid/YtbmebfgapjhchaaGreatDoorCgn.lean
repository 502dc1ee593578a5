/- Package scope: the name at a place (At). -/
import Derived.Test.YtbmebfgapjhchaaGreatDoorCgh
import Derived.Test.YtbmebfgapjhchaaGreatDoorJx
import Derived.Test.YtbmebfgapjhchaaGreatDoorJt
import Derived.Test.YtbmebfgapjhchaaGreatDoorWzw
namespace Go.Proofs.YtbmebfgapjhchaaGreatDoor
open Go.RowKit
open M
def atU (l:List AF) (us:List X.U) (f:Nat) (a:Int):Option X.U :=
 if upN us f a=0 then none else match us[upN us f a - 1]? with
  | some u=>if u.f=f∧a≤(u.i:Int)+(txL l f u.i).size then some u else none
  | none=>none
def u0:X.U:=⟨0,0,0,0,0,0⟩
theorem atU_mem {l:List AF} {us:List X.U} {f:Nat} {a:Int} {u:X.U} (h:atU l us f a=some u):u∈us:=by
 unfold atU at h
 split at h
 ·cases h
 ·split at h
  ·next v hv =>
   split at h
   ·obtain rfl:=Option.some.inj h
    exact List.mem_of_getElem? hv
   ·cases h
  ·cases h
theorem end_use {fn:Func} {t t2:Tmp} (h:fn.results=#[.cell t 36,.tmp t2]) {tmps:Array Value} {w W:World} {b:Nat} {u:X.U} {ok:Bool} {y0 y1 y2 y3 y4 y5:Value} (ht:tmps[t]?.getD undef=.pointer (some ⟨b,0,none⟩)) (ht2:tmps[t2]?.getD undef=.bool ok) (hb:W.heap[b]?=some (.cells #[y0,y1,y2,y3,y4,y5] 36 (0,0))) (hk:Below w.heap.size w W) (hl:w.heap.size≤b) :
  bodyPost Tryz.prog fn (fun e w'=>e=.returned (.tuple #[.agg #[.int .i64 u.f,.int .i64 u.i,.int .i64 u.s,.int .i64 u.tf,.int .i64 u.tt,.int .i64 u.e],.bool ok])∧Below w.heap.size w w') Exit.ret { tmps:=tmps,defers:=[] } ((((((W.setCell ⟨b,0,none⟩ (.int .i64 u.f)).setCell ⟨b,1,none⟩ (.int .i64 u.i)).setCell ⟨b,2,none⟩ (.int .i64 u.s)).setCell ⟨b,3,none⟩ (.int .i64 u.tf)).setCell ⟨b,4,none⟩ (.int .i64 u.tt)).setCell ⟨b,5,none⟩ (.int .i64 u.e)) ∧
  bodyPost Tryz.prog fn (fun e w'=>e=.returned (.tuple #[.agg #[.int .i64 u.f,.int .i64 u.i,.int .i64 u.s,.int .i64 u.tf,.int .i64 u.tt,.int .i64 u.e],.bool ok])∧Below w.heap.size w w') Exit.ret { tmps:=tmps,defers:=[] } ((((((W.setCell ⟨b,0,none⟩ (.int .i64 u.f)).setCell ⟨b,1,none⟩ (.int .i64 u.i)).setCell ⟨b,2,none⟩ (.int .i64 u.s)).setCell ⟨b,3,none⟩ (.int .i64 u.tf)).setCell ⟨b,4,none⟩ (.int .i64 u.tt)).setCell ⟨b,5,none⟩ (.int .i64 u.e)).drew:=by
 have k:=kset6 (Kp.ofBelow hk (fun _=>False)) hl (.int .i64 u.f) (.int .i64 u.i) (.int .i64 u.s) (.int .i64 u.tf) (.int .i64 u.tt) (.int .i64 u.e)
 have e:=set6_own (x0:=.int .i64 u.f) (x1:=.int .i64 u.i) (x2:=.int .i64 u.s) (x3:=.int .i64 u.tf) (x4:=.int .i64 u.tt) (x5:=.int .i64 u.e) hb
 generalize ((((((W.setCell ⟨b,0,none⟩ (.int .i64 u.f)).setCell ⟨b,1,none⟩ (.int .i64 u.i)).setCell ⟨b,2,none⟩ (.int .i64 u.s)).setCell ⟨b,3,none⟩ (.int .i64 u.tf)).setCell ⟨b,4,none⟩ (.int .i64 u.tt)).setCell ⟨b,5,none⟩ (.int .i64 u.e))=V at *
 exact ⟨bodyPost_ret (res_use h tmps V ht ht2 e) rfl ⟨rfl,k.below (Nat.le_refl _) (fun _=>False.elim)⟩,bodyPost_ret (res_use h tmps V.drew ht ht2 e) rfl ⟨rfl,(k.drew).below (Nat.le_refl _) (fun _=>False.elim)⟩⟩
set_option maxRecDepth 100000 in
set_option maxHeartbeats 2000000 in
theorem at_any (l:List AF) (us:List X.U) (ao:Option Addr) (cap:Nat) (f:Nat) (fa:AF) (a:Int) (w:World) (h:IsUs w w.heap.size ao us) (hT:Tabs w) (hl:us.length≤1073741824) (hc:us.length≤cap) (hfa:l[f]?=some fa) (hfs:fa.t.size≤1048576) (hU:∀ u∈us,u.f=f→u.i<fa.t.size) :
  Calls Tryz.prog 19 #[.slice ao us.length cap,.int .i64 f,.string fa.t,.int .i64 a] w fun e w'=>e=.returned (.tuple #[.agg #[.int .i64 ((atU l us f a).getD u0).f,.int .i64 ((atU l us f a).getD u0).i,.int .i64 ((atU l us f a).getD u0).s,.int .i64 ((atU l us f a).getD u0).tf,.int .i64 ((atU l us f a).getD u0).tt,.int .i64 ((atU l us f a).getD u0).e],.bool (atU l us f a).isSome])∧Below w.heap.size w w':=by
 have kA:Below w.heap.size w (w.alloc (.cells #[.int .i64 0,.int .i64 0,.int .i64 0,.int .i64 0,.int .i64 0,.int .i64 0] 36)):=(Below.refl _ w).alloc (Nat.le_refl _) _
 have HC:=hide (upTo_any us ao cap f a _ ((h.below kA).wide kA.size) hl hc)
 have hZ:=heap_alloc_new w (.cells #[.int .i64 0,.int .i64 0,.int .i64 0,.int .i64 0,.int .i64 0,.int .i64 0] 36)
 have hsz:(w.alloc (.cells #[.int .i64 0,.int .i64 0,.int .i64 0,.int .i64 0,.int .i64 0,.int .i64 0] 36)).heap.size=w.heap.size+1:=by simp
 have HZ:=hide hZ
 have HK:=hide kA
 have HU:=hide hU
 have HIs:=hide h
 have HT:=hide hT
 have hle:=upN_le us f a
 generalize hR:atU l us f a=R
 have HR:=hide hR
 generalize hn:upN us f a=n at *
 have HN:=hide hn
 clear h hT kA hZ hU hR hn
 go_enter Tryz.func19,Tryz.ntmps19
 go_wp2_with fail
 refine (HC.out).mono ?_
 rintro e w2 ⟨rfl,B2⟩
 have hZ2:=(Kp.ofBelow B2 (fun _=>False)).heap HZ.out id
 have kB:Below w.heap.size w w2:=(HK.out).trans (B2.mono (HK.out).size)
 have HKB:=hide kB
 have z0:=cell_of_row w2 _ 0 _ _ _ hZ2
 have z1:=cell_of_row w2 _ 1 _ _ _ hZ2
 have z2:=cell_of_row w2 _ 2 _ _ _ hZ2
 have z3:=cell_of_row w2 _ 3 _ _ _ hZ2
 have z4:=cell_of_row w2 _ 4 _ _ _ hZ2
 have z5:=cell_of_row w2 _ 5 _ _ _ hZ2
 have y0:=frozen_of_row w2 _ 0 _ _ hZ2
 have y1:=frozen_of_row w2 _ 1 _ _ hZ2
 have y2:=frozen_of_row w2 _ 2 _ _ hZ2
 have y3:=frozen_of_row w2 _ 3 _ _ hZ2
 have y4:=frozen_of_row w2 _ 4 _ _ hZ2
 have y5:=frozen_of_row w2 _ 5 _ _ hZ2
 have HZ2:=hide hZ2
 have HW2:Hid (w.heap.size<w2.heap.size):=heap_lt hZ2
 by_cases g1:n=0
 ·have d1:((n:Int)==0)=true:=by simp [g1]
  have HE:Hid (R=none):=by show _=_;rw [← HR.out];unfold atU;rw [if_pos (by rw [HN.out];exact g1)]
  clear HC B2 HZ kB hZ2 g1
  go_wp2_with fail
  rw [HE.out]
  exact bodyPost_ret (res_use (u:=u0) rfl _ _ (b:=w.heap.size) rfl rfl (set6_own HZ2.out)) rfl ⟨rfl,(kset6 (Kp.ofBelow HKB.out (fun _=>False)) (Nat.le_refl _) _ _ _ _ _ _).below (Nat.le_refl _) (fun _=>False.elim)⟩
 have d1:((n:Int)==0)=false:=by simp;omega
 obtain ⟨m,rfl⟩:∃ m,n=m+1:=⟨n - 1,by omega⟩
 have hmu:m<us.length:=by omega
 have hu:=List.getElem?_eq_getElem hmu
 generalize us[m]=u at hu
 obtain ⟨b,o,rfl,hb,c0,c1,c2,c3,c4,c5⟩:=(HIs.out).below HKB.out m u hu
 have i1:((m+1:Nat):Int) - 1=(m:Int):=by omega
 have HU1:=hide ((HU.out) u (List.mem_of_getElem? hu))
 have HRu:Hid (R=if u.f=f∧a≤(u.i:Int)+(txL l f u.i).size then some u else none):=by
  show _=_
  rw [← HR.out];unfold atU;rw [if_neg (by rw [HN.out];omega),HN.out,Nat.add_sub_cancel,hu]
 have hZ3:(w2.alloc (.cells #[.int .i64 u.f,.int .i64 u.i,.int .i64 u.s,.int .i64 u.tf,.int .i64 u.tt,.int .i64 u.e] 36)).heap[w.heap.size]?=some (.cells #[.int .i64 0,.int .i64 0,.int .i64 0,.int .i64 0,.int .i64 0,.int .i64 0] 36 (0,0)):=(Below.heap_alloc w2 _ w.heap.size HW2.out).trans HZ2.out
 have hL3:=heap_alloc_new w2 (.cells #[.int .i64 u.f,.int .i64 u.i,.int .i64 u.s,.int .i64 u.tf,.int .i64 u.tt,.int .i64 u.e] 36)
 have hB3:Below w.heap.size w (w2.alloc (.cells #[.int .i64 u.f,.int .i64 u.i,.int .i64 u.s,.int .i64 u.tf,.int .i64 u.tt,.int .i64 u.e] 36)):=(HKB.out).alloc (HKB.out).size _
 have hT3:Tabs (w2.alloc (.cells #[.int .i64 u.f,.int .i64 u.i,.int .i64 u.s,.int .i64 u.tf,.int .i64 u.tt,.int .i64 u.e] 36)):=(HT.out).below hB3
 have HZ3:=hide hZ3
 have HL3:=hide hL3
 have HB3:=hide hB3
 have HT3:=hide hT3
 clear HC B2 HZ kB hZ2 hZ3 hL3 hB3 hT3 z0 z1 z2 z3 z4 z5 y0 y1 y2 y3 y4 y5 HKB HZ2 HK HT HIs HU hu
 go_upto_region 5 with fail
 have HS3:Hid (w2.heap.size<(w2.alloc (.cells #[.int .i64 u.f,.int .i64 u.i,.int .i64 u.s,.int .i64 u.tf,.int .i64 u.tt,.int .i64 u.e] 36)).heap.size∧w.heap.size<w2.heap.size):=⟨by simp,HW2.out⟩
 generalize (w2.alloc (.cells #[.int .i64 u.f,.int .i64 u.i,.int .i64 u.s,.int .i64 u.tf,.int .i64 u.tt,.int .i64 u.e] 36))=WW at *
 have z0:=cell_of_row WW _ 0 _ _ _ HZ3.out
 have y0:=frozen_of_row WW _ 0 _ _ HZ3.out
 have z1:=cell_of_row WW _ 1 _ _ _ HZ3.out
 have y1:=frozen_of_row WW _ 1 _ _ HZ3.out
 have z2:=cell_of_row WW _ 2 _ _ _ HZ3.out
 have y2:=frozen_of_row WW _ 2 _ _ HZ3.out
 have z3:=cell_of_row WW _ 3 _ _ _ HZ3.out
 have y3:=frozen_of_row WW _ 3 _ _ HZ3.out
 have z4:=cell_of_row WW _ 4 _ _ _ HZ3.out
 have y4:=frozen_of_row WW _ 4 _ _ HZ3.out
 have z5:=cell_of_row WW _ 5 _ _ _ HZ3.out
 have y5:=frozen_of_row WW _ 5 _ _ HZ3.out
 have x0:=cell_of_row WW _ 0 _ _ _ HL3.out
 have x1:=cell_of_row WW _ 1 _ _ _ HL3.out
 have x2:=cell_of_row WW _ 2 _ _ _ HL3.out
 have x3:=cell_of_row WW _ 3 _ _ _ HL3.out
 have x4:=cell_of_row WW _ 4 _ _ _ HL3.out
 have x5:=cell_of_row WW _ 5 _ _ _ HL3.out
 by_cases g2:u.f=f
 case neg =>
  have d2:((u.f:Int)==(f:Int))=false:=by simp;omega
  have d3:(u.f==f)=false:=by simp;omega
  have HE:Hid (R=none):=by show _=_;rw [HRu.out,if_neg (fun e=>g2 e.1)]
  have d4:((u.f:Int) !=(f:Int))=true:=by rw [bne,d2];rfl
  clear g2 HL3
  go_wp2_with fail
  refine wpTo_start (S:=fun w'=>w'.cell? ⟨w2.heap.size,0,none⟩=some (.int .i64 u.f)∧w'.cell? ⟨w2.heap.size,1,none⟩=some (.int .i64 u.i)) (z:=16) (by kernel_rfl) ?_
  have hS:WW.drew.cell? ⟨w2.heap.size,0,none⟩=some (.int .i64 u.f)∧WW.drew.cell? ⟨w2.heap.size,1,none⟩=some (.int .i64 u.i):=⟨x0,x1⟩
  iterate 5 (refine wpTo_nx (v:=?_) rfl rfl (by kernel_rfl) (by decide) (by kernel_rfl) (by kernel_rfl) (fun _ _ _ h=>h) (Or.inl ⟨by rfl,?_⟩) hS ?_;rotate_left;(· (intro wx hSw;(try dsimp only at hSw);go_simp;try (with_reducible rfl)));simp only [Act.put,List.setIfInBounds_toArray,List.set_cons_zero,List.set_cons_succ])
  refine wpTo_takeA (i:=5) (dn:=31) (v:=undef) rfl rfl (by kernel_rfl) (by decide) (by kernel_rfl) (by kernel_rfl) (fun _ _ _ h=>h) (Or.inr ⟨by rfl,rfl⟩) hS ?_
  simp only [Act.put,List.setIfInBounds_toArray,List.set_cons_zero,List.set_cons_succ]
  refine wpTo_takeA (i:=6) (dn:=32) (v:=undef) rfl rfl (by kernel_rfl) (by decide) (by kernel_rfl) (by kernel_rfl) (fun _ _ _ h=>h) (Or.inr ⟨by rfl,rfl⟩) hS ?_
  simp only [Act.put,List.setIfInBounds_toArray,List.set_cons_zero,List.set_cons_succ]
  refine wpTo_takeA (i:=7) (dn:=33) (v:=undef) rfl rfl (by kernel_rfl) (by decide) (by kernel_rfl) (by kernel_rfl) (fun _ _ _ h=>h) (Or.inr ⟨by rfl,rfl⟩) hS ?_
  simp only [Act.put,List.setIfInBounds_toArray,List.set_cons_zero,List.set_cons_succ]
  refine wpTo_takeA (i:=8) (dn:=34) (v:=undef) rfl rfl (by kernel_rfl) (by decide) (by kernel_rfl) (by kernel_rfl) (fun _ _ _ h=>h) (Or.inr ⟨by rfl,rfl⟩) hS ?_
  simp only [Act.put,List.setIfInBounds_toArray,List.set_cons_zero,List.set_cons_succ]
  refine wpTo_takeA (i:=9) (dn:=35) (v:=undef) rfl rfl (by kernel_rfl) (by decide) (by kernel_rfl) (by kernel_rfl) (fun _ _ _ h=>h) (Or.inr ⟨by rfl,rfl⟩) hS ?_
  simp only [Act.put,List.setIfInBounds_toArray,List.set_cons_zero,List.set_cons_succ]
  refine wpTo_takeA (i:=10) (dn:=36) (v:=undef) rfl rfl (by kernel_rfl) (by decide) (by kernel_rfl) (by kernel_rfl) (fun _ _ _ h=>h) (Or.inr ⟨by rfl,rfl⟩) hS ?_
  simp only [Act.put,List.setIfInBounds_toArray,List.set_cons_zero,List.set_cons_succ]
  refine wpTo_takeA (i:=11) (dn:=37) (v:=undef) rfl rfl (by kernel_rfl) (by decide) (by kernel_rfl) (by kernel_rfl) (fun _ _ _ h=>h) (Or.inr ⟨by rfl,rfl⟩) hS ?_
  simp only [Act.put,List.setIfInBounds_toArray,List.set_cons_zero,List.set_cons_succ]
  refine wpTo_takeA (i:=12) (dn:=38) (v:=undef) rfl rfl (by kernel_rfl) (by decide) (by kernel_rfl) (by kernel_rfl) (fun _ _ _ h=>h) (Or.inr ⟨by rfl,rfl⟩) hS ?_
  simp only [Act.put,List.setIfInBounds_toArray,List.set_cons_zero,List.set_cons_succ]
  refine wpTo_takeA (i:=13) (dn:=39) (v:=undef) rfl rfl (by kernel_rfl) (by decide) (by kernel_rfl) (by kernel_rfl) (fun _ _ _ h=>h) (Or.inr ⟨by rfl,rfl⟩) hS ?_
  simp only [Act.put,List.setIfInBounds_toArray,List.set_cons_zero,List.set_cons_succ]
  refine wpTo_takeA (i:=14) (dn:=40) (v:=undef) rfl rfl (by kernel_rfl) (by decide) (by kernel_rfl) (by kernel_rfl) (fun _ _ _ h=>h) (Or.inr ⟨by rfl,rfl⟩) hS ?_
  simp only [Act.put,List.setIfInBounds_toArray,List.set_cons_zero,List.set_cons_succ]
  refine wpTo_takeA (i:=15) (dn:=41) (v:=?_) rfl rfl (by kernel_rfl) (by decide) (by kernel_rfl) (by kernel_rfl) (fun _ _ _ h=>h) (Or.inl ⟨by rfl,?_⟩) hS ?_
  rotate_left
  ·(intro wx hSw;(try dsimp only at hSw);go_simp;try (with_reducible rfl))
  simp only [Act.put,List.setIfInBounds_toArray,List.set_cons_zero,List.set_cons_succ]
  refine wpTo_end (by kernel_rfl) ?_
  clear hS
  go_wp2_with fail
  rw [HE.out]
  exact (end_use (u:=u0) (ok:=false) rfl rfl rfl HZ3.out HB3.out (Nat.le_refl _)).2
 have d2:((u.f:Int)==(f:Int))=true:=by simp [g2]
 have d3:(u.f==f)=true:=by simp [g2]
 have d4:((u.f:Int) !=(f:Int))=false:=by rw [bne,d2];rfl
 have hui:=(HU1.out) g2
 have HC:=hide (scText_any fa.t u.i WW.drew ((HT3.out).below ((Below.refl _ WW).drew)) (by omega) (by omega))
 have HTX:Hid (txL l f u.i=txtAt fa.t u.i):=by show _=_;unfold txL;rw [hfa]
 have hts:=(txtAt_size fa.t u.i (by omega)).2
 generalize hts2:(txtAt fa.t u.i).size=ts at *
 have HTS:=hide hts2
 have HG2:=hide g2
 clear g2 hts2
 have j1:(u.i:Int)+(ts:Int)≤1048576:=by omega
 obtain ⟨q,hq⟩:∃ q,u.i+ts=q:=⟨_,rfl⟩
 have j2:(u.i:Int)+(ts:Int)=(q:Int):=by omega
 have j3:IntKind.i64.wrap (q:Int)=(q:Int):=IntWalk.i64_in _ (by omega)
 have HQ:=hide hq
 clear hq
 generalize txtAt fa.t u.i=tx at *
 go_wp2_with fail
 refine wpTo_start (S:=fun w'=>w'.cell? ⟨w2.heap.size,0,none⟩=some (.int .i64 u.f)∧w'.cell? ⟨w2.heap.size,1,none⟩=some (.int .i64 u.i)) (z:=16) (by kernel_rfl) ?_
 have hS:WW.drew.cell? ⟨w2.heap.size,0,none⟩=some (.int .i64 u.f)∧WW.drew.cell? ⟨w2.heap.size,1,none⟩=some (.int .i64 u.i):=⟨x0,x1⟩
 iterate 10 (refine wpTo_nx (v:=?_) rfl rfl (by kernel_rfl) (by decide) (by kernel_rfl) (by kernel_rfl) (fun _ _ _ h=>h) (Or.inl ⟨by rfl,?_⟩) hS ?_;rotate_left;(· (intro wx hSw;(try dsimp only at hSw);go_simp;try (with_reducible rfl)));simp only [Act.put,List.setIfInBounds_toArray,List.set_cons_zero,List.set_cons_succ])
 refine wpTo_takeA (i:=13) (dn:=39) (v:=?_) rfl rfl (by kernel_rfl) (by decide) (by kernel_rfl) (by kernel_rfl) (fun _ _ _ h=>h) (Or.inl ⟨by rfl,?_⟩) hS ?_
 rotate_left
 ·(intro wx hSw;(try dsimp only at hSw);go_simp;try (with_reducible rfl))
 simp only [Act.put,List.setIfInBounds_toArray,List.set_cons_zero,List.set_cons_succ]
 refine wpTo_one (i:=10) (by kernel_rfl) rfl (fun K hK=>?_)
 go_simp
 refine (HC.out).mono ?_
 rintro e w5 ⟨rfl,B5⟩
 have B5':Below WW.heap.size WW w5:=((Below.refl _ WW).drew).trans B5
 have hS2:w5.cell? ⟨w2.heap.size,0,none⟩=some (.int .i64 u.f)∧w5.cell? ⟨w2.heap.size,1,none⟩=some (.int .i64 u.i):=⟨kcb B5' (HS3.out).1 x0,kcb B5' (HS3.out).1 x1⟩
 have HZ5:=hide ((Kp.ofBelow B5' (fun _=>False)).heap HZ3.out id)
 have HL5:=hide ((Kp.ofBelow B5' (fun _=>False)).heap HL3.out id)
 have HB5:Hid (Below w.heap.size w w5):=(HB3.out).trans (B5'.mono (HB3.out).size)
 dsimp only
 refine hK.out _ _ (fun _=>hS2) (fun _=>?_)
 clear hK K hS B5 B5' HC z0 z1 z2 z3 z4 z5 y0 y1 y2 y3 y4 y5 x0 x1 x2 x3 x4 x5 HZ3 HL3 HB3 HT3
 have hS:=hS2
 have z0:=cell_of_row w5 _ 0 _ _ _ HZ5.out
 have y0:=frozen_of_row w5 _ 0 _ _ HZ5.out
 have z1:=cell_of_row w5 _ 1 _ _ _ HZ5.out
 have y1:=frozen_of_row w5 _ 1 _ _ HZ5.out
 have z2:=cell_of_row w5 _ 2 _ _ _ HZ5.out
 have y2:=frozen_of_row w5 _ 2 _ _ HZ5.out
 have z3:=cell_of_row w5 _ 3 _ _ _ HZ5.out
 have y3:=frozen_of_row w5 _ 3 _ _ HZ5.out
 have z4:=cell_of_row w5 _ 4 _ _ _ HZ5.out
 have y4:=frozen_of_row w5 _ 4 _ _ HZ5.out
 have z5:=cell_of_row w5 _ 5 _ _ _ HZ5.out
 have y5:=frozen_of_row w5 _ 5 _ _ HZ5.out
 have x0:=cell_of_row w5 _ 0 _ _ _ HL5.out
 have x1:=cell_of_row w5 _ 1 _ _ _ HL5.out
 have x2:=cell_of_row w5 _ 2 _ _ _ HL5.out
 have x3:=cell_of_row w5 _ 3 _ _ _ HL5.out
 have x4:=cell_of_row w5 _ 4 _ _ _ HL5.out
 have x5:=cell_of_row w5 _ 5 _ _ _ HL5.out
 have j4:(tx.size:Int)=(ts:Int):=by rw [HTS.out]
 have j5:tx.size=ts:=HTS.out
 refine wpTo_takeA (i:=11) (dn:=37) (v:=?_) rfl rfl (by kernel_rfl) (by decide) (by kernel_rfl) (by kernel_rfl) (fun _ _ _ h=>h) (Or.inl ⟨by rfl,?_⟩) hS ?_
 rotate_left
 ·(intro wx hSw;(try dsimp only at hSw);go_simp;try (with_reducible rfl))
 simp only [Act.put,List.setIfInBounds_toArray,List.set_cons_zero,List.set_cons_succ]
 refine wpTo_takeA (i:=12) (dn:=38) (v:=?_) rfl rfl (by kernel_rfl) (by decide) (by kernel_rfl) (by kernel_rfl) (fun _ _ _ h=>h) (Or.inl ⟨by rfl,?_⟩) hS ?_
 rotate_left
 ·(intro wx hSw;(try dsimp only at hSw);go_simp;try (with_reducible rfl))
 simp only [Act.put,List.setIfInBounds_toArray,List.set_cons_zero,List.set_cons_succ]
 refine wpTo_takeA (i:=14) (dn:=40) (v:=?_) rfl rfl (by kernel_rfl) (by decide) (by kernel_rfl) (by kernel_rfl) (fun _ _ _ h=>h) (Or.inl ⟨by rfl,?_⟩) hS ?_
 rotate_left
 ·(intro wx hSw;(try dsimp only at hSw);go_simp;try (with_reducible rfl))
 simp only [Act.put,List.setIfInBounds_toArray,List.set_cons_zero,List.set_cons_succ]
 refine wpTo_takeA (i:=15) (dn:=41) (v:=?_) rfl rfl (by kernel_rfl) (by decide) (by kernel_rfl) (by kernel_rfl) (fun _ _ _ h=>h) (Or.inl ⟨by rfl,?_⟩) hS ?_
 rotate_left
 ·(intro wx hSw;(try dsimp only at hSw);go_simp;try (with_reducible rfl))
 simp only [Act.put,List.setIfInBounds_toArray,List.set_cons_zero,List.set_cons_succ]
 refine wpTo_end (by kernel_rfl) ?_
 clear hS hS2
 by_cases g4:(q:Int)<a
 ·have d5:decide ((q:Int)<a)=true:=decide_eq_true g4
  have HE:Hid (R=none):=by
   show _=_
   rw [HRu.out,if_neg]
   rintro ⟨-,h2⟩
   rw [HTX.out,HTS.out] at h2
   have:=HQ.out
   omega
  rw [d5]
  clear g4 HL5 d5
  go_wp2_with fail
  rw [HE.out]
  exact (end_use (u:=u0) (ok:=false) rfl rfl rfl HZ5.out HB5.out (Nat.le_refl _)).1
 ·have d5:decide ((q:Int)<a)=false:=decide_eq_false g4
  have HE:Hid (R=some u):=by
   show _=_
   rw [HRu.out,if_pos]
   refine ⟨HG2.out,?_⟩
   rw [HTX.out,HTS.out]
   have:=HQ.out
   omega
  rw [d5]
  clear g4 d5
  go_wp2_with fail
  rw [HE.out]
  exact (end_use (u:=u) (ok:=true) rfl rfl rfl HZ5.out HB5.out (Nat.le_refl _)).1
end Go.Proofs.YtbmebfgapjhchaaGreatDoor
