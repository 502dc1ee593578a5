/- Package scope: Open,Names,Resolve. -/
import Derived.Test.YtbmebfgapjhchaaGreatDoorJt
import Derived.Test.YtbmebfgapjhchaaGreatDoorHa
import Derived.Lib.SliceRun
namespace Go.Proofs.YtbmebfgapjhchaaGreatDoor
open Go.RowKit
open M
theorem IsAF.wide {w:World} {B B':Nat} {ao:Option Addr} {l:List AF} (h:IsAF w B ao l) (hb:B≤B'):IsAF w B' ao l:=fun j a hj=>by
 obtain ⟨b,o,e1,e2,e3⟩:=h j a hj
 exact ⟨b,o,e1,Nat.lt_of_lt_of_le e2 hb,e3⟩
theorem infoPF:(Tryz.prog.info? 108).map (fun i=>(i.zero,i.size,i.bytes))=some (some (.pointer none),1,8):=by kernel_rfl
theorem fltF_ok {l:List AF} (h:fltF l=0):l.length≤16∧Short l∧(∀ a∈l,nmOk a.n=true)∧(l.map (fun a=>bs a.n)).Pairwise (·≠·):=by
 unfold fltF at h
 by_cases h1:16<l.length
 ·rw [if_pos h1] at h;cases h
 ·rw [if_neg h1] at h
  by_cases h2:l.any (fun a=>decide (20000<a.t.size))=true
  ·rw [if_pos h2] at h;cases h
  ·rw [if_neg h2] at h
   obtain ⟨a,b,-⟩:=fltN_ok h
   refine ⟨by omega,fun a ha=>?_,a,b⟩
   rcases Nat.lt_or_ge 20000 a.t.size with g|g
   ·exact absurd (List.any_eq_true.2 ⟨a,ha,by simpa using g⟩) h2
   ·exact Nat.le_trans g (by decide)
theorem idx_new {l:List AF} (h:(l.map (fun a=>bs a.n)).Pairwise (·≠·)) {j:Nat} {a:AF} (ha:l[j]?=some a):idxN (l.take j) (bs a.n)=none:=by
 cases hi:idxN (l.take j) (bs a.n) with
 | none=>rfl
 | some i =>
  exfalso
  have hm:=(idxN_mem (l.take j) (bs a.n)).1 (by rw [hi];rfl)
  obtain ⟨b,hb,e⟩:=List.mem_map.1 hm
  obtain ⟨i',hi',rfl⟩:=List.getElem_of_mem hb
  rw [List.length_take] at hi'
  have hjl:j<l.length:=by
   rcases Nat.lt_or_ge j l.length with g|g
   ·exact g
   ·rw [List.getElem?_eq_none g] at ha;cases ha
  rw [List.getElem?_eq_getElem hjl] at ha
  have ha':=Option.some.inj ha
  have hp:=List.pairwise_iff_getElem.1 h i' j (by rw [List.length_map];omega) (by rw [List.length_map];exact hjl) (by omega)
  rw [List.getElem_map,List.getElem_map,ha'] at hp
  rw [List.getElem_take] at e
  exact hp e
set_option maxRecDepth 100000 in
set_option maxHeartbeats 16000000 in
theorem open_any (l:List AF) (rv:Value) (IV:Nat→Value) (Lo Hi:Nat→Nat) (B:Nat) (w:World) (hI:IsFs w B rv l IV Lo Hi) (hn16:l.length≤16) (hsh:Short l) (hok:∀ a∈l,nmOk a.n=true) (hpw:(l.map (fun a=>bs a.n)).Pairwise (·≠·)) :
  Calls Tryz.prog 32 #[rv] w fun e w'=>e=.returned (.pointer (some ⟨w.heap.size+1,0,none⟩))∧Hid (∃ Bf fv,InW w l w.heap.size (w.heap.size+1) l.length Bf IV fv w'):=by
 have hmm:=mkMap
 obtain ⟨i0,hi0,hz0,hz1,hz2⟩:=info_parts infoPF
 obtain ⟨ao,cap,rfl,hcl,hcm,hx⟩:=hI.ex
 have HX:=hide hx
 have HIT:=hide hI.its
 have HSH:=hide hsh
 have HOK:=hide hok
 have HPW:=hide hpw
 have HI0:Hid (∃ Bf fv,InW w l w.heap.size (w.heap.size+1) 0 Bf IV fv ((w.alloc (.map #[] 0)).alloc (.cells #[.map (some w.heap.size),.slice none 0 0] 107))):=⟨_,_,InW.start w l IV⟩
 clear hx hI hsh hok hpw
 go_enter Tryz.func32,Tryz.ntmps32
 go_wp2_with fail
 generalize ((w.alloc (.map #[] 0)).alloc (.cells #[.map (some w.heap.size),.slice none 0 0] 107))=W0 at *
 generalize hmb:w.heap.size=mb at *
 have HMB:=hide hmb
 clear hmm hmb
 go_loopw [11] (fun v wr=>∃ j:Nat,v=.int .i64 j∧j≤l.length∧Hid (∃ Bf fv,InW w l mb (mb+1) j Bf IV fv wr)) (fun v _=>l.length - (intOf v).toNat)
 case atStart=>exact ⟨0,rfl,Nat.zero_le _,HI0⟩
 case round =>
  obtain ⟨j,rfl,hj,HI⟩:=hrel
  clear HI0
  by_cases hjl:j<l.length
  ·obtain ⟨Bf,fv,hin⟩:=HI.out
   clear HI
   obtain ⟨a,ha⟩:∃ a,l[j]?=some a:=⟨l[j],List.getElem?_eq_getElem hjl⟩
   obtain ⟨b,e1,e2,-,e3,e4⟩:=(HX.out) j a ha
   subst e1
   obtain ⟨hits,-,hhi⟩:=(HIT.out) j a ha
   have hi1:(j:Int)<(l.length:Int):=by omega
   have hmb:=HMB.out
   have hww:=hin.bl.size
   have e3':=kcb hin.bl (by omega) e3
   have e4':=kcb hin.bl (by omega) e4
   have hivs:∃ ia ic,IV j=.slice ia (X.itsT (bs a.t)).length ic:=by
    obtain ⟨ia,ic,-,e,-⟩:=hits.ex
    exact ⟨ia,ic,e⟩
   obtain ⟨ia,ic,hiv⟩:=hivs
   rw [hiv] at hits e4'
   have hlB:=its_bd HSH.out j
   rw [fsOf_get ha] at hlB
   have hnl:nmOk a.n=true:=(HOK.out) a (List.mem_of_getElem? ha)
   have hlen:(bs a.n).length≤maxLen:=by
    unfold nmOk at hnl
    rw [bs_len]
    unfold maxLen
    have:a.n.size≤40:=by simp at hnl;exact hnl.1
    omega
   have HFO:Hid (∀ W:World,Below w.heap.size w W→Calls Tryz.prog 42 #[.slice ia (X.itsT (bs a.t)).length ic] W fun e w'=>e=.returned (.pointer (some ⟨W.heap.size+2,0,none⟩))∧Hid (IsF W w' (IV j) (X.itsT (bs a.t)))):=fun W hW=>by
    rw [hiv]
    exact fileOf_any (Lo j) (Hi j) _ _ W (hits.blw (Kp.ofBelow hW (fun _=>False)) (fun _ _ _=>id)) (by have:=hW.size;omega) hlB.2.1 hlB.1
   clear hlB hits hiv
   generalize hil:(X.itsT (bs a.t)).length=il at *
   clear hil
   have hnew:=idx_new HPW.out ha
   have kF:Below wr.heap.size wr (wr.alloc (.cells #[.string a.n,.slice ia il ic] 95)):=(Below.refl _ _).alloc (Nat.le_refl _) _
   have hF0:=heap_alloc_new wr (.cells #[.string a.n,.slice ia il ic] 95)
   have n0:(wr.alloc (.cells #[.string a.n,.slice ia il ic] 95)).cell? ⟨wr.heap.size,0,none⟩=some (.string a.n):=cell_of_row _ _ 0 _ _ _ hF0
   have hwbl:=heap_lt hin.blk
   have c0:(wr.alloc (.cells #[.string a.n,.slice ia il ic] 95)).cell? ⟨mb+1,0,none⟩=some (.map (some mb)):=kcb kF hwbl (cell_of_row wr _ 0 _ _ _ hin.blk)
   have hjm:j<maxLen:=by unfold maxLen;omega
   have hj2:j≤9223372036854775807:=by omega
   obtain ⟨wm,hp1,hp2,hp3⟩:=(hin.mp.below kF.drew).run_put hjm hlen (i:=j) hj2
   rw [ba_bs] at hp1
   have HIN:=hide hin
   have HF0:=hide hF0
   have HP2:=hide hp2
   have HP3:=hide hp3
   have HKF:=hide kF
   have HN:=hide hnew
   clear hin kF hF0 hp2 hp3 hnl hnew e3 e4
   go_wp2_with fail
   generalize wr.alloc (.cells #[.string a.n,.slice ia il ic] 95)=Wa at *
   refine wpTo_start (S:=fun w'=>w'.cell? ⟨mb+1,0,none⟩=some (.map (some mb))∧w'.cell? ⟨wr.heap.size,0,none⟩=some (.string a.n)) (z:=7) (by kernel_rfl) ?_
   have hS:Wa.drew.cell? ⟨mb+1,0,none⟩=some (.map (some mb))∧Wa.drew.cell? ⟨wr.heap.size,0,none⟩=some (.string a.n):=⟨c0,n0⟩
   iterate 7 (refine wpTo_nx0 (v:=?_) rfl rfl (by kernel_rfl) (by kernel_rfl) (by kernel_rfl) (by kernel_rfl) (fun _ _ _ h=>h) (Or.inl ⟨by rfl,?_⟩) hS ?_;rotate_left;(· (intro wx hSw;(try dsimp only at hSw);go_simp;try (with_reducible rfl)));simp only [Act.put,List.setIfInBounds_toArray,List.set_cons_zero,List.set_cons_succ])
   refine wpTo_one (i:=7) (by kernel_rfl) rfl (fun K hK=>?_)
   go_simp
   refine hK.out _ _ (fun h=>absurd rfl h) (fun _=>wpTo_end (by kernel_rfl) ?_)
   clear hK K hS hp1 c0 n0
   have hks:Kp (fun q=>q=mb) wr wm:=Kp.trans (Kp.ofBelow (HKF.out).drew _) HP3.out (fun _ _ e=>e)
   have HKS:=hide hks
   have hFm:=(HP3.out).heap (w:=Wa.drew) HF0.out (by have:=hwbl;omega)
   have n1:wm.cell? ⟨wr.heap.size,1,none⟩=some (.slice ia il ic):=cell_of_row wm _ 1 _ _ _ hFm
   have hbm:=hks.heap (HIN.out).blk (by omega)
   have c1:wm.cell? ⟨mb+1,1,none⟩=some fv:=cell_of_row wm _ 1 _ _ _ hbm
   have hbw:Below w.heap.size w wm:=(HIN.out).bl.trans (hks.below (HIN.out).bl.size (fun q e=>by omega))
   have HRD:=hide ((HFO.out) wm.drew hbw.drew)
   have HOW:=hide (hks.owns (HIN.out).row (fun q hq e=>(HIN.out).far q hq |>.1 e))
   have hlm:=heap_lt hFm
   have hfv:∃ fa fn fc,fv=.slice fa fn fc:=by
    rcases (HIN.out).row.2 with ⟨e,-⟩|⟨g',cap',cur,e,-⟩
    ·exact ⟨_,_,_,e⟩
    ·exact ⟨_,_,_,e⟩
   obtain ⟨fa,fn,fc,rfl⟩:=hfv
   have HFar:=hide (HIN.out).far
   have HO0:Hid (∀ q,(Value.slice fa fn fc).ownBlock=some q→q<wr.heap.size):=fun q hq=>(owns_ge (HIN.out).row q hq).2
   clear hks hFm hbm hbw HFO
   go_wp2_with fail
   refine wpTo_start (S:=fun w'=>w'.cell? ⟨mb+1,1,none⟩=some (.slice fa fn fc)∧w'.cell? ⟨wr.heap.size,1,none⟩=some (.slice ia il ic)) (z:=12) (by kernel_rfl) ?_
   have hS:wm.drew.cell? ⟨mb+1,1,none⟩=some (.slice fa fn fc)∧wm.drew.cell? ⟨wr.heap.size,1,none⟩=some (.slice ia il ic):=⟨c1,n1⟩
   iterate 7 (refine wpTo_nx0 (v:=?_) rfl rfl (by kernel_rfl) (by kernel_rfl) (by kernel_rfl) (by kernel_rfl) (fun _ _ _ h=>h) (Or.inl ⟨by rfl,?_⟩) hS ?_;rotate_left;(· (intro wx hSw;(try dsimp only at hSw);go_simp;try (with_reducible rfl)));simp only [Act.put,List.setIfInBounds_toArray,List.set_cons_zero,List.set_cons_succ])
   refine wpTo_one (i:=7) (by kernel_rfl) rfl (fun K hK=>?_)
   go_simp
   refine (HRD.out).mono ?_
   rintro e w5 ⟨rfl,X5⟩
   have B5:=(X5.out).bl
   have c15:=kcb B5 (by show _<wm.heap.size;omega) c1
   have n15:=kcb B5 (by show _<wm.heap.size;omega) n1
   have hmz:wm.heap.size≤w5.heap.size:=B5.size
   have HO5:=hide ((Kp.ofBelow (((Below.refl _ wm).drew).trans B5) (fun _=>False)).owns HOW.out (fun _ _=>id))
   dsimp only
   refine hK.out _ _ (fun _=>⟨c15,n15⟩) (fun hS2=>?_)
   clear hS hK K
   have hS:=hS2 (by decide)
   clear hS2
   refine wpTo_one (i:=8) (by kernel_rfl) rfl (fun K hK=>?_)
   go_simp
   refine hK.out _ _ (fun _=>by first|go_keep|(dsimp only;go_keep)) (fun hS2=>?_)
   clear hS hK K
   have hS:=hS2 (by decide)
   clear hS2
   refine wpTo_one (i:=9) (by kernel_rfl) rfl (fun K hK=>?_)
   refine step_append_lies _ (by rfl) _ _ _ (by rfl) w.heap.size 108 i0 _ 1 8 Tryz.underlying105 hi0 hz0 hz1 hz2 rfl (by omega) (.slice fa fn fc) j _ (by rfl) ((HO5.out).alloc _)
    ⟨w5.heap.size,0,none⟩ 1 1 [.pointer (some ⟨wm.heap.size+2,0,none⟩)] (by rfl) (by rfl) (World.news_of_block (cs:=#[.pointer (some ⟨wm.heap.size+2,0,none⟩)]) (t:=108) (fr:=(0,0)) (heap_alloc_new w5 _)) (by simp [Value.oneCell'])
    (by omega) (by unfold maxLen;omega) (by omega) (by simp;omega) (w5.heap.size+1) (by simp) ?_
   intro g cap7 w7 hown7 hgrow7 hat7 hlt7
   have hfar:=HFar.out
   have ho0:=HO0.out
   have hwn:some (mb+1)≠(Value.slice fa fn fc).ownBlock:=fun e=>(hfar _ e.symm).2.1 rfl
   have hwf:some wr.heap.size≠(Value.slice fa fn fc).ownBlock:=fun e=>by have:=ho0 _ e.symm;omega
   have y0:w7.cell? ⟨mb+1,1,none⟩=some (.slice fa fn fc):=(hgrow7.cell_far ⟨mb+1,1,none⟩ (by simp;omega) hwn).trans hS.1
   have y1:=(hgrow7.cell_far ⟨wr.heap.size,1,none⟩ (by simp;omega) hwf).trans hS.2
   have hblk5:w5.heap[mb+1]?=some (.cells #[.map (some mb),.slice fa fn fc] 107 (0,0)):=(Kp.ofBelow (((Below.refl _ wm).drew).trans B5) (fun _=>False)).heap ((HKS.out).heap (HIN.out).blk (by omega)) id
   have x2:w7.frozen? ⟨mb+1,1,none⟩=false:=(hgrow7.frozen_far ⟨mb+1,1,none⟩ (by simp;omega) hwn).trans ((World.frozen?_alloc_old _ _ ⟨mb+1,1,none⟩ (by simp;omega)).trans (frozen_of_row w5 _ 1 _ _ hblk5))
   show K (Act.put _ (some 32) _) w7
   refine hK.out _ _ (fun _=>⟨y0,y1⟩) (fun hS2=>?_)
   clear hS hK K
   have hS:=hS2 (by decide)
   clear hS2
   simp only [Act.put,List.setIfInBounds_toArray,List.set_cons_zero,List.set_cons_succ]
   refine wpTo_one (i:=10) (by kernel_rfl) rfl (fun K hK=>?_)
   go_simp
   refine hK.out _ _ (fun _=>hS) (fun _=>?_)
   clear hK K
   refine wpTo_one (i:=11) (by kernel_rfl) rfl (fun K hK=>?_)
   go_simp
   refine hK.out _ _ (fun _=>hS) (fun _=>?_)
   clear hK K
   refine wpTo_one (i:=12) (by kernel_rfl) rfl (fun K hK=>?_)
   go_simp
   refine hK.out _ _ (fun h=>absurd rfl h) (fun _=>wpTo_end (by kernel_rfl) ?_)
   clear hK K
   have HI8:Hid (∃ Bf fv,InW w l mb (mb+1) (j+1) Bf IV fv (w7.setCell ⟨mb+1,1,none⟩ (.slice (some ⟨g,0,none⟩) (j+1) cap7))):=by
    have hb6:Below w5.heap.size w5 (w5.alloc (.cells #[.pointer (some ⟨wm.heap.size+2,0,none⟩)] 108)):=(Below.refl _ w5).alloc (Nat.le_refl _) _
    obtain ⟨Bf',hmore⟩:=(HIN.out).more (by omega) (by omega) ha HN.out ((HKS.out).drew) ((HP2.out).below ((Below.refl _ wm).drew)) (Nat.le_refl _) X5.out hb6 hown7 hgrow7 (by rcases hat7 with e|e;exact .inl e;exact .inr (by rw [e];simp))
    exact ⟨Bf',_,hmore⟩
   clear hown7 hgrow7 hat7 hlt7 y0 y1 x2 hS c15 n15 c1 n1 B5 X5 HO5 hfar ho0 hblk5
   go_wp2_with fail
   exact ⟨⟨j+1,by simp,by omega,HI8⟩,by simp [intOf];omega⟩
  ·obtain rfl:j=l.length:=by omega
   have hd1:¬(l.length:Int)<(l.length:Int):=by omega
   have HF:=HI
   clear HI
   go_wp2_with fail
   go_ret
   exact ⟨by rw [HMB.out];rfl,by rw [HMB.out];exact HF⟩
set_option maxRecDepth 100000 in
set_option maxHeartbeats 16000000 in
theorem kNames_any (l:List AF) (rv fv:Value) (IV:Nat→Value) (Lo Hi Bf:Nat→Nat) (B mb wb:Nat) (w wr:World) (hI:IsFs w B rv l IV Lo Hi) (hin:InW w l mb wb l.length Bf IV fv wr) (hw:w.heap.size≤mb) (hmw:mb<wb) (hn16:l.length≤16) (hsh:Short l) (hok:∀ a∈l,nmOk a.n=true) :
  Calls Tryz.prog 33 #[.pointer (some ⟨wb,0,none⟩)] wr fun e w'=>∃ nv,e=.returned nv∧Hid (Below w.heap.size w w'∧w'.ownsRow w.heap.size 36 6 nv (X.allU (fsOf l)).length (uvs (X.allU (fsOf l)))∧(X.allU (fsOf l)).length≤1073741824):=by
 have hR:=hin.run hw hmw hI hn16 hok hsh
 have hfsl:=fsOf_len l
 have hfv:∃ fa fc,fv=.slice fa l.length fc:=by
  rcases hin.row.2 with ⟨e,h0⟩|⟨g',cap',cur,e,-⟩
  ·exact ⟨none,0,by rw [h0];exact e⟩
  ·exact ⟨_,_,e⟩
 obtain ⟨fa,fc,rfl⟩:=hfv
 have c1:(wr.alloc (.cells #[.pointer (some ⟨wb,0,none⟩),.int .i64 0,.slice none 0 0] 112)).cell? ⟨wb,1,none⟩=some (.slice fa l.length fc):=Lib.cell?_alloc_some _ (cell_of_row wr _ 1 _ _ _ hin.blk)
 obtain ⟨TP,hTP⟩:∃ TP:List X.U→World→Prop,TP=fun us w2=>∃ f,Tld (wr.alloc (.cells #[.pointer (some ⟨wb,0,none⟩),.int .i64 0,.slice none 0 0] 112)) ⟨wb,wr.heap.size,f,mb,(.slice fa l.length fc),fun i=>Bf i+2,Bf,IV,fun i=>Bf i+1⟩ (fsOf l) us (wr.alloc (.cells #[.pointer (some ⟨wb,0,none⟩),.int .i64 0,.slice none 0 0] 112)) w2:=⟨_,rfl⟩
 have HT0:Hid (TP (usT (fsOf l) 0) (wr.alloc (.cells #[.pointer (some ⟨wb,0,none⟩),.int .i64 0,.slice none 0 0] 112))):=by
  rw [hTP]
  exact ⟨0,noMem,hR,noMem_ok _,noMem_idle,Kx.refl _ _ _ _⟩
 have HTell:Hid (∀ (j:Nat) (w2:World),j<l.length→TP (usT (fsOf l) j) w2→Calls Tryz.prog 43 #[.pointer (some ⟨wr.heap.size,0,none⟩),.int .i64 j] w2 fun e w3=>e=.returned (.tuple #[])∧Hid (TP (usT (fsOf l) (j+1)) w3)):=fun j w2 hj ht=>by
  rw [hTP] at ht
  obtain ⟨f,M2,r2,m2,i2,x2⟩:=ht
  have hl1:=usT_len hsh j
  have hl2:=(its_bd hsh j).2.2 (fsOf l) j
  refine (tall_any j (by rw [hfsl];exact hj) r2 m2 i2 (by omega)).mono ?_
  rintro e w3 ⟨rfl,X3⟩
  obtain ⟨M3,r3,m3,i3,x3⟩:=X3.out
  refine ⟨rfl,?_⟩
  rw [hTP]
  exact ⟨j,M3,by rw [usT_snoc];exact r3,m3,i3,Kx.trans x2 x3⟩
 have HFin:Hid (∀ w2:World,TP (usT (fsOf l) l.length) w2→∃ nv,w2.cell? ⟨wr.heap.size,2,none⟩=some nv∧Hid (Below w.heap.size w w2∧w2.ownsRow w.heap.size 36 6 nv (X.allU (fsOf l)).length (uvs (X.allU (fsOf l)))∧(X.allU (fsOf l)).length≤1073741824)):=fun w2 ht=>by
  rw [hTP] at ht
  obtain ⟨f,M2,r2,m2,i2,x2⟩:=ht
  obtain ⟨nv,-,-,b2,-,b4⟩:=r2.cells
  have e1:X.allU (fsOf l)=usT (fsOf l) l.length:=by unfold X.allU usT;rw [hfsl]
  rw [e1]
  have hbA:Below w.heap.size w (wr.alloc (.cells #[.pointer (some ⟨wb,0,none⟩),.int .i64 0,.slice none 0 0] 112)):=hin.bl.alloc hin.bl.size _
  refine ⟨nv,b2,?_,⟨b4.1,?_⟩,r2.lim⟩
  ·refine hbA.trans (r2.kp.below hbA.size (fun q hq=>?_))
   rcases hq with e|⟨i,hi,e⟩
   ·have e':q=wr.heap.size:=e
    have:=hin.bl.size
    omega
   ·have e':q=Bf i+1:=e
    have:=hin.ord i (by rw [← hfsl];exact hi)
    omega
  ·rcases b4.2 with hh|⟨g',cap',cur,e,e2,r⟩
   ·exact .inl hh
   ·exact .inr ⟨g',cap',cur,e,Nat.le_trans hbA.size e2,r⟩
 clear hin hR hsh hok hTP hI
 go_enter Tryz.func33,Tryz.ntmps33
 go_wp2_with fail
 clear c1
 generalize wr.alloc (.cells #[.pointer (some ⟨wb,0,none⟩),.int .i64 0,.slice none 0 0] 112)=W at *
 generalize wr.heap.size=tb at *
 go_loopw [13] (fun v w2=>∃ j:Nat,v=.int .i64 j∧j≤l.length∧Hid (TP (usT (fsOf l) j) w2)) (fun v _=>l.length - (intOf v).toNat)
 case atStart=>exact ⟨0,rfl,Nat.zero_le _,HT0⟩
 case round =>
  obtain ⟨j,rfl,hj,HI⟩:=hrel
  clear HT0
  by_cases hjl:j<l.length
  ·have hi1:(j:Int)<(l.length:Int):=by omega
   have HC:=hide ((HTell.out) j _ hjl HI.out)
   clear HI
   go_wp2_with fail
   refine (HC.out).mono ?_
   rintro e w3 ⟨rfl,X3⟩
   clear HC
   go_wp2_with fail
   exact ⟨⟨j+1,by simp,by omega,X3⟩,by simp [intOf];omega⟩
  ·obtain rfl:j=l.length:=by omega
   have hd1:¬(l.length:Int)<(l.length:Int):=by omega
   obtain ⟨nv,b2,HF⟩:=(HFin.out) _ HI.out
   clear HI HTell HFin
   have hnvs:∃ na nn nc,nv=.slice na nn nc:=by
    rcases (HF.out).2.1.2 with ⟨e,-⟩|⟨g',cap',cur,e,-⟩
    ·exact ⟨_,_,_,e⟩
    ·exact ⟨_,_,_,e⟩
   obtain ⟨na,nn,nc,rfl⟩:=hnvs
   go_wp2_with fail
   go_ret
   exact ⟨_,rfl,HF⟩
set_option maxRecDepth 100000 in
theorem scNames_any (l:List AF) (rv:Value) (IV:Nat→Value) (Lo Hi:Nat→Nat) (B:Nat) (w:World) (hI:IsFs w B rv l IV Lo Hi) (hn16:l.length≤16) (hsh:Short l) (hok:∀ a∈l,nmOk a.n=true) (hpw:(l.map (fun a=>bs a.n)).Pairwise (·≠·)) :
  Calls Tryz.prog 17 #[rv] w fun e w'=>∃ nv,e=.returned nv∧Hid (Below w.heap.size w w'∧w'.ownsRow w.heap.size 36 6 nv (X.allU (fsOf l)).length (uvs (X.allU (fsOf l)))∧(X.allU (fsOf l)).length≤1073741824):=by
 have HO:=hide (open_any l rv IV Lo Hi B w hI hn16 hsh hok hpw)
 have HK:Hid (∀ wr,(∃ Bf fv,InW w l w.heap.size (w.heap.size+1) l.length Bf IV fv wr)→Calls Tryz.prog 33 #[.pointer (some ⟨w.heap.size+1,0,none⟩)] wr fun e w'=>∃ nv,e=.returned nv∧Hid (Below w.heap.size w w'∧w'.ownsRow w.heap.size 36 6 nv (X.allU (fsOf l)).length (uvs (X.allU (fsOf l)))∧(X.allU (fsOf l)).length≤1073741824)):=fun wr h=>by
  obtain ⟨Bf,fv,h⟩:=h
  exact kNames_any l rv fv IV Lo Hi Bf B _ _ w wr hI h (Nat.le_refl _) (Nat.lt_succ_self _) hn16 hsh hok
 obtain ⟨ao,cap,rfl,-⟩:=hI.ex
 clear hI hsh hok hpw
 go_enter Tryz.func17,Tryz.ntmps17
 go_wp2_with fail
 refine (HO.out).mono ?_
 rintro e w1 ⟨rfl,X1⟩
 have HC:=hide ((HK.out) w1 X1.out)
 clear HO HK X1
 go_wp2_with fail
 refine (HC.out).mono ?_
 rintro e w2 ⟨nv,rfl,HF⟩
 clear HC
 go_wp2_with fail
 go_ret
 exact ⟨_,rfl,HF⟩
set_option maxRecDepth 100000 in
theorem resolve_yes (ao:Option Addr) (cap:Nat) (l:List AF) (w:World) (hT:Tabs w) (h:IsAF w w.heap.size ao l) (hl:l.length≤cap) (hc:cap≤maxLen) (hf:fltF l=0) :
  Calls Tryz.prog 7 #[.slice ao l.length cap] w fun e w'=>∃ nv,e=.returned (.tuple #[nv,.nilIface])∧Hid (Below w.heap.size w w'∧w'.ownsRow w.heap.size 36 6 nv (X.allU (fsOf l)).length (uvs (X.allU (fsOf l)))∧(X.allU (fsOf l)).length≤1073741824):=by
 obtain ⟨hn16,hsh,hok,hpw⟩:=fltF_ok hf
 have hCF:=fault_any ao cap l w hT h hl hc
 rw [hf] at hCF
 have HC:Hid (Calls Tryz.prog 16 #[.slice ao l.length cap] w fun e w'=>e=.returned .nilIface∧Below w.heap.size w w'):=hCF
 have HS:Hid (∀ w1,Below w.heap.size w w1→Calls Tryz.prog 18 #[.slice ao l.length cap] w1 fun e w'=>∃ rv,e=.returned rv∧Hid ((∃ IV Lo Hi,IsFs w' w1.heap.size rv l IV Lo Hi)∧Below w1.heap.size w1 w')):=fun w1 hb=>syFiles_any ao cap l w1 (hT.below hb) ((h.below hb).wide hb.size) hn16 hsh
 have HNm:Hid (∀ rv B w2,(∃ IV Lo Hi,IsFs w2 B rv l IV Lo Hi)→Calls Tryz.prog 17 #[rv] w2 fun e w'=>∃ nv,e=.returned nv∧Hid (Below w2.heap.size w2 w'∧w'.ownsRow w2.heap.size 36 6 nv (X.allU (fsOf l)).length (uvs (X.allU (fsOf l)))∧(X.allU (fsOf l)).length≤1073741824)):=fun rv B w2 hx=>by
  obtain ⟨IV,Lo,Hi,hI⟩:=hx
  exact scNames_any l rv IV Lo Hi B w2 hI hn16 hsh hok hpw
 clear h hT hCF hsh hok hpw hf
 go_enter Tryz.func7,Tryz.ntmps7
 go_wp2_with fail
 refine (HC.out).mono ?_
 rintro e w1 ⟨rfl,B1⟩
 have HB1:=hide B1
 have HC2:=hide ((HS.out) w1 B1)
 clear HC B1 HS
 go_wp2_with fail
 refine (HC2.out).mono ?_
 rintro e w2 ⟨rv,rfl,X2⟩
 have HC3:=hide ((HNm.out) rv _ w2 (X2.out).1)
 have HB2:Hid (Below w.heap.size w w2):=(HB1.out).trans ((X2.out).2.mono (HB1.out).size)
 obtain ⟨ra,rn,rc,rfl⟩:∃ ra rn rc,rv=.slice ra rn rc:=by
  obtain ⟨IV,Lo,Hi,hI⟩:=(X2.out).1
  obtain ⟨ra,rc,e,-⟩:=hI.ex
  exact ⟨_,_,_,e⟩
 clear HC2 X2 HNm
 go_wp2_with fail
 refine (HC3.out).mono ?_
 rintro e w3 ⟨nv,rfl,X3⟩
 have HF:Hid (Below w.heap.size w w3∧w3.ownsRow w.heap.size 36 6 nv (X.allU (fsOf l)).length (uvs (X.allU (fsOf l)))∧(X.allU (fsOf l)).length≤1073741824):=by
  obtain ⟨h1,h2,h3⟩:=X3.out
  refine ⟨(HB2.out).trans (h1.mono (HB2.out).size),⟨h2.1,?_⟩,h3⟩
  rcases h2.2 with hh|⟨g',cap',cur,e,e2,r⟩
  ·exact .inl hh
  ·exact .inr ⟨g',cap',cur,e,Nat.le_trans (HB2.out).size e2,r⟩
 clear HC3 X3
 go_wp2_with fail
 go_ret2
 exact ⟨_,rfl,HF⟩
end Go.Proofs.YtbmebfgapjhchaaGreatDoor
/- Names that have been told,cell by cell. -/
namespace Go.Proofs.YtbmebfgapjhchaaGreatDoor
open Go.RowKit
open M
theorem IsAF.one {w:World} (n t:ByteArray):IsAF (w.alloc (.cells #[.string n,.string t] 39)) (w.alloc (.cells #[.string n,.string t] 39)).heap.size (some ⟨w.heap.size,0,none⟩) [⟨n,t⟩]:=fun j a hj=>by
 match j with
 | 0 =>
  simp at hj
  subst hj
  have h0:=heap_alloc_new w (.cells #[.string n,.string t] 39)
  exact ⟨_,_,rfl,by simp,cell_of_row _ _ 0 _ _ _ h0,cell_of_row _ _ 1 _ _ _ h0⟩
 | j+1=>simp at hj
theorem uvs_get:∀ (us:List X.U) (i:Nat) (u:X.U),us[i]?=some u→∀ j,j<6→(uvs us)[i*6+j]?=(uv u)[j]?
 | [],i,u,h,j,hj=>by simp at h
 | a::us,0,u,h,j,hj=>by
  simp at h
  subst h
  show (uv a++uvs us)[0*6+j]?=_
  rw [List.getElem?_append_left (by show 0*6+j<6;omega),Nat.zero_mul,Nat.zero_add]
 | a::us,i+1,u,h,j,hj=>by
  show (uv a++uvs us)[(i+1)*6+j]?=_
  rw [List.getElem?_append_right (by show 6≤(i+1)*6+j;omega)]
  have:(i+1)*6+j - (uv a).length=i*6+j:=by show (i+1)*6+j - 6=_;omega
  rw [this]
  exact uvs_get us i u (by simpa using h) j hj
theorem use_cells {w:World} {base:Nat} {nv:Value} {us:List X.U} (h:w.ownsRow base 36 6 nv us.length (uvs us)) {i:Nat} {u:X.U} (hu:us[i]?=some u):∃ g cap,nv=.slice (some ⟨g,0,none⟩) us.length cap∧us.length≤cap∧cap≤maxLen∧g<w.heap.size∧w.cell? ⟨g,i*6,none⟩=some (.int .i64 u.f)∧w.cell? ⟨g,i*6+1,none⟩=some (.int .i64 u.i)∧w.cell? ⟨g,i*6+2,none⟩=some (.int .i64 u.s)∧w.cell? ⟨g,i*6+3,none⟩=some (.int .i64 u.tf)∧w.cell? ⟨g,i*6+4,none⟩=some (.int .i64 u.tt)∧w.cell? ⟨g,i*6+5,none⟩=some (.int .i64 u.e):=by
 have hil:i<us.length:=by
  rcases Nat.lt_or_ge i us.length with g|g
  ·exact g
  ·rw [List.getElem?_eq_none g] at hu;cases hu
 obtain ⟨g,cap,rfl,-,hlt⟩:=h.form (by omega)
 rcases h.2 with ⟨e,-⟩|⟨g',cap',cur,e,-,-,hn,hm,-,-⟩
 ·cases e
 ·cases e
  have hc:∀ j,j<6→w.cell? ⟨g,i*6+j,none⟩=(uv u)[j]?:=fun j hj=>(h.cellAt (i*6+j) (by omega)).trans (uvs_get us i u hu j hj)
  exact ⟨g,cap,rfl,hn,hm,hlt,hc 0 (by omega),hc 1 (by omega),hc 2 (by omega),hc 3 (by omega),hc 4 (by omega),hc 5 (by omega)⟩
end Go.Proofs.YtbmebfgapjhchaaGreatDoor
/- Closed facts of one file. -/
namespace Go.Proofs.YtbmebfgapjhchaaGreatDoor
open Go.RowKit
open M
def l0:List AF:=[⟨⟨#[97]⟩,⟨#[100,101,102,32,120,32,61,32,49,59]⟩⟩]
theorem flt0:fltF l0=0:=by
 have h1:nmOk ⟨#[97]⟩=true:=by
  unfold nmOk aloneB
  have:M.tok (bs ⟨#[97]⟩)=(3,(bs ⟨#[97]⟩).length):=by kernel_rfl
  rw [decide_eq_true (show (⟨#[97]⟩:ByteArray).size≤40 by decide),Bool.true_and]
  exact decide_eq_true ⟨by decide,this⟩
 unfold fltF l0
 rw [if_neg (by decide),if_neg (by decide),fltN,if_pos h1,if_neg (by simp),fltN]
theorem fs0:fsOf l0=[([97],X.I0)]:=by
 have:X.itsT (bs ⟨#[100,101,102,32,120,32,61,32,49,59]⟩)=X.I0:=X.itsT0
 unfold fsOf l0
 rw [List.map_cons,List.map_nil,this]
 rfl
theorem all0:X.allU (fsOf l0)=[⟨0,4,0,0,4,0⟩]:=by
 rw [fs0]
 kernel_rfl
end Go.Proofs.YtbmebfgapjhchaaGreatDoor
/- Package scope: the names that begin in a piece of a file. -/
namespace Go.Proofs.YtbmebfgapjhchaaGreatDoor
open Go.RowKit
open M
def IsUs (w:World) (B:Nat) (ao:Option Addr) (us:List X.U):Prop:=∀ (j:Nat) (u:X.U),us[j]?=some u→∃ b o,ao=some ⟨b,o,none⟩∧b<B∧w.cell? ⟨b,o+j*6,none⟩=some (.int .i64 u.f)∧w.cell? ⟨b,o+j*6+1,none⟩=some (.int .i64 u.i)∧w.cell? ⟨b,o+j*6+2,none⟩=some (.int .i64 u.s)∧w.cell? ⟨b,o+j*6+3,none⟩=some (.int .i64 u.tf)∧w.cell? ⟨b,o+j*6+4,none⟩=some (.int .i64 u.tt)∧w.cell? ⟨b,o+j*6+5,none⟩=some (.int .i64 u.e)
theorem kcB {w w':World} {B:Nat} (h:Below B w w') {b o:Nat} (hb:b<B) {v:Value} (c:w.cell? ⟨b,o,none⟩=some v):w'.cell? ⟨b,o,none⟩=some v:=(h.cell (p:=⟨b,o,none⟩) hb).trans c
theorem IsUs.below {w w':World} {B:Nat} {ao:Option Addr} {us:List X.U} (h:IsUs w B ao us) (hk:Below B w w'):IsUs w' B ao us:=fun j u hj=>by
 obtain ⟨b,o,e1,e2,c0,c1,c2,c3,c4,c5⟩:=h j u hj
 exact ⟨b,o,e1,e2,kcB hk e2 c0,kcB hk e2 c1,kcB hk e2 c2,kcB hk e2 c3,kcB hk e2 c4,kcB hk e2 c5⟩
def past1 (us:List X.U) (f a:Int) (i:Nat):Bool:=match us[i]? with|some u=>decide (f<(u.f:Int))||(decide ((u.f:Int)=f)&&decide (a<(u.i:Int)))|none=>false
set_option maxRecDepth 100000 in
set_option maxHeartbeats 4000000 in
theorem upTo1_any (us:List X.U) (ao:Option Addr) (cap:Nat) (f a:Int) (i x y z:Nat) (w:World) (hi:i<us.length) (h:IsUs w w.heap.size ao us) (hx:w.cell? ⟨x,0,none⟩=some (.slice ao us.length cap)) (hy:w.cell? ⟨y,0,none⟩=some (.int .i64 f)) (hz:w.cell? ⟨z,0,none⟩=some (.int .i64 a)) :
  Calls Tryz.prog 55 #[.int .i64 i,.pointer (some ⟨x,0,none⟩),.pointer (some ⟨y,0,none⟩),.pointer (some ⟨z,0,none⟩)] w fun e w'=>e=.returned (.bool (past1 us f a i))∧Below w.heap.size w w':=by
 obtain ⟨u,hu⟩:∃ u,us[i]?=some u:=⟨us[i],List.getElem?_eq_getElem hi⟩
 obtain ⟨b,o,rfl,hb,c0,c1,c2,c3,c4,c5⟩:=h i u hu
 have hi1:(i:Int)<(us.length:Int):=by omega
 have hp:past1 us f a i=(decide (f<(u.f:Int))||(decide ((u.f:Int)=f)&&decide (a<(u.i:Int)))):=by unfold past1;rw [hu]
 rw [hp]
 have HB:Hid (Below w.heap.size w (w.alloc (.cells #[.int .i64 u.f,.int .i64 u.i,.int .i64 u.s,.int .i64 u.tf,.int .i64 u.tt,.int .i64 u.e] 36))):=(Below.refl _ w).alloc (Nat.le_refl _) _
 have hy':=Lib.cell?_alloc_some (.cells #[.int .i64 u.f,.int .i64 u.i,.int .i64 u.s,.int .i64 u.tf,.int .i64 u.tt,.int .i64 u.e] 36) hy
 have hz':=Lib.cell?_alloc_some (.cells #[.int .i64 u.f,.int .i64 u.i,.int .i64 u.s,.int .i64 u.tf,.int .i64 u.tt,.int .i64 u.e] 36) hz
 clear hp h hu
 by_cases h1:f<(u.f:Int)
 ·go_enter Tryz.func55,Tryz.ntmps55
  go_wp2_with fail
  go_ret
  exact ⟨by simp [h1],HB.out⟩
 ·by_cases h2:(u.f:Int)=f
  ·subst h2
   go_enter Tryz.func55,Tryz.ntmps55
   go_wp2_with fail
   go_ret
   exact ⟨by simp,HB.out⟩
  ·have q2:((u.f:Int)==f)=false:=by simpa using h2
   go_enter Tryz.func55,Tryz.ntmps55
   go_wp2_with fail
   go_ret
   exact ⟨by simp [h1],HB.out⟩
def upN (us:List X.U) (f a:Int):Nat:=srch (past1 us f a) us.length 0 us.length
theorem upN_le (us:List X.U) (f a:Int):upN us f a≤us.length:=(srch_le _ _ 0 _ (Nat.zero_le _)).2
theorem IsUs.wide {w:World} {B B':Nat} {ao:Option Addr} {us:List X.U} (h:IsUs w B ao us) (hb:B≤B'):IsUs w B' ao us:=fun j u hj=>by
 obtain ⟨b,o,e1,e2,e3⟩:=h j u hj
 exact ⟨b,o,e1,Nat.lt_of_lt_of_le e2 hb,e3⟩
set_option maxRecDepth 100000 in
set_option maxHeartbeats 4000000 in
theorem upTo_any (us:List X.U) (ao:Option Addr) (cap:Nat) (f a:Int) (w:World) (h:IsUs w w.heap.size ao us) (hl:us.length≤1073741824) (hc:us.length≤cap) :
  Calls Tryz.prog 36 #[.slice ao us.length cap,.int .i64 f,.int .i64 a] w fun e w'=>e=.returned (.slice ao (upN us f a) cap)∧Below w.heap.size w w':=by
 have kW:Below w.heap.size w (((w.alloc (.cells #[.slice ao us.length cap] 31)).alloc (.cells #[.int .i64 f] 3)).alloc (.cells #[.int .i64 a] 3)):=(((Below.refl _ w).alloc (Nat.le_refl _) _).alloc (by simp) _).alloc (by simp;omega) _
 have x0:(((w.alloc (.cells #[.slice ao us.length cap] 31)).alloc (.cells #[.int .i64 f] 3)).alloc (.cells #[.int .i64 a] 3)).cell? ⟨w.heap.size,0,none⟩=some (.slice ao us.length cap):=Lib.cell?_alloc_some _ (Lib.cell?_alloc_some _ (cell_of_row _ _ 0 _ _ _ (heap_alloc_new w _)))
 have y0:(((w.alloc (.cells #[.slice ao us.length cap] 31)).alloc (.cells #[.int .i64 f] 3)).alloc (.cells #[.int .i64 a] 3)).cell? ⟨w.heap.size+1,0,none⟩=some (.int .i64 f):=Lib.cell?_alloc_some _ (by simp)
 have z0:(((w.alloc (.cells #[.slice ao us.length cap] 31)).alloc (.cells #[.int .i64 f] 3)).alloc (.cells #[.int .i64 a] 3)).cell? ⟨w.heap.size+2,0,none⟩=some (.int .i64 a):=by have:=cell_of_row _ _ 0 _ _ _ (heap_alloc_new ((w.alloc (.cells #[.slice ao us.length cap] 31)).alloc (.cells #[.int .i64 f] 3)) (.cells #[.int .i64 a] 3));simpa using this
 have hsz:(((w.alloc (.cells #[.slice ao us.length cap] 31)).alloc (.cells #[.int .i64 f] 3)).alloc (.cells #[.int .i64 a] 3)).heap.size=w.heap.size+3:=by simp
 have hle:=upN_le us f a
 have HC:Hid (Calls Tryz.prog 40 #[.int .i64 us.length,.func (.func 55) #[] #[.pointer (some ⟨w.heap.size,0,none⟩),.pointer (some ⟨w.heap.size+1,0,none⟩),.pointer (some ⟨w.heap.size+2,0,none⟩)]] (((w.alloc (.cells #[.slice ao us.length cap] 31)).alloc (.cells #[.int .i64 f] 3)).alloc (.cells #[.int .i64 a] 3)).drew fun e w'=>e=.returned (.int .i64 (upN us f a))∧Below (((w.alloc (.cells #[.slice ao us.length cap] 31)).alloc (.cells #[.int .i64 f] 3)).alloc (.cells #[.int .i64 a] 3)).heap.size (((w.alloc (.cells #[.slice ao us.length cap] 31)).alloc (.cells #[.int .i64 f] 3)).alloc (.cells #[.int .i64 a] 3)).drew w') :=
  search_any us.length _ _ _ (past1 us f a) _ hl (fun i W' hi hb=>upTo1_any us ao cap f a i _ _ _ W' hi ((h.below (kW.drew.trans (hb.mono (by show w.heap.size≤(((w.alloc (.cells #[.slice ao us.length cap] 31)).alloc (.cells #[.int .i64 f] 3)).alloc (.cells #[.int .i64 a] 3)).heap.size;omega)))).wide (by have:=hb.size;have:(((w.alloc (.cells #[.slice ao us.length cap] 31)).alloc (.cells #[.int .i64 f] 3)).alloc (.cells #[.int .i64 a] 3)).drew.heap.size=w.heap.size+3:=hsz;omega)) (kcb hb (by show _<(((w.alloc (.cells #[.slice ao us.length cap] 31)).alloc (.cells #[.int .i64 f] 3)).alloc (.cells #[.int .i64 a] 3)).heap.size;omega) x0) (kcb hb (by show _<(((w.alloc (.cells #[.slice ao us.length cap] 31)).alloc (.cells #[.int .i64 f] 3)).alloc (.cells #[.int .i64 a] 3)).heap.size;omega) y0) (kcb hb (by show _<(((w.alloc (.cells #[.slice ao us.length cap] 31)).alloc (.cells #[.int .i64 f] 3)).alloc (.cells #[.int .i64 a] 3)).heap.size;omega) z0))
 have HKW:=hide kW
 clear h kW y0 z0
 generalize hn:upN us f a=n at *
 clear hn
 go_enter Tryz.func36,Tryz.ntmps36
 go_wp2_with fail
 have hadd:w.heap.size+1+1=w.heap.size+2:=rfl
 simp only [hadd]
 generalize (((w.alloc (.cells #[.slice ao us.length cap] 31)).alloc (.cells #[.int .i64 f] 3)).alloc (.cells #[.int .i64 a] 3))=W at *
 refine wpTo_start (S:=fun w'=>w'.cell? ⟨w.heap.size,0,none⟩=some (.slice ao us.length cap)) (z:=6) (by kernel_rfl) ?_
 have hS:W.drew.cell? ⟨w.heap.size,0,none⟩=some (.slice ao us.length cap):=x0
 iterate 3 (refine wpTo_nx0 (v:=?_) rfl rfl (by kernel_rfl) (by kernel_rfl) (by kernel_rfl) (by kernel_rfl) (fun _ _ _ h=>h) (Or.inl ⟨by rfl,?_⟩) hS ?_;rotate_left;(· (intro wx hSw;(try dsimp only at hSw);go_simp;try (with_reducible rfl)));simp only [Act.put,List.setIfInBounds_toArray,List.set_cons_zero,List.set_cons_succ])
 refine wpTo_one (i:=3) (by kernel_rfl) rfl (fun K hK=>?_)
 go_simp
 refine hK.out _ _ (fun _=>hS) (fun _=>?_)
 clear hK K
 refine wpTo_one (i:=4) (by kernel_rfl) rfl (fun K hK=>?_)
 go_simp
 refine (HC.out).mono ?_
 rintro e w2 ⟨rfl,B2⟩
 have HB2:Hid (Below w.heap.size w w2):=((HKW.out).drew).trans (B2.mono (HKW.out).size)
 have hS2:=kcB B2 (by omega) hS
 dsimp only
 refine hK.out _ _ (fun _=>hS2) (fun _=>?_)
 clear hK K hS B2 HC
 have hS:=hS2
 have hi1:(n:Int)≤(cap:Int):=by omega
 have hi2:n≤cap:=by omega
 refine wpTo_one (i:=5) (by kernel_rfl) rfl (fun K hK=>?_)
 go_simp
 refine hK.out _ _ (fun _=>hS) (fun _=>?_)
 clear hK K
 refine wpTo_one (i:=6) (by kernel_rfl) rfl (fun K hK=>?_)
 go_simp
 refine hK.out _ _ (fun h=>absurd rfl h) (fun _=>wpTo_end (by kernel_rfl) ?_)
 clear hK K hS hS2
 go_wp2_with fail
 go_ret
 exact ⟨rfl,HB2.out⟩
end Go.Proofs.YtbmebfgapjhchaaGreatDoor
/- A name as a result that lies in a cell. -/
namespace Go.Proofs.YtbmebfgapjhchaaGreatDoor
open Go.RowKit
open M
theorem set6_own {W:World} {b:Nat} {x0 x1 x2 x3 x4 x5 y0 y1 y2 y3 y4 y5:Value} {t:TypeId} (h:W.heap[b]?=some (.cells #[y0,y1,y2,y3,y4,y5] t (0,0))):((((((W.setCell ⟨b,0,none⟩ x0).setCell ⟨b,1,none⟩ x1).setCell ⟨b,2,none⟩ x2).setCell ⟨b,3,none⟩ x3).setCell ⟨b,4,none⟩ x4).setCell ⟨b,5,none⟩ x5).heap[b]?=some (.cells #[x0,x1,x2,x3,x4,x5] t (0,0)):=by
 simp [World.setCell,Array.getElem?_modify,h]
theorem kset6 {S:Nat→Prop} {w W:World} (hk:Kp S w W) {b:Nat} (hb:w.heap.size≤b) (x0 x1 x2 x3 x4 x5:Value):Kp S w ((((((W.setCell ⟨b,0,none⟩ x0).setCell ⟨b,1,none⟩ x1).setCell ⟨b,2,none⟩ x2).setCell ⟨b,3,none⟩ x3).setCell ⟨b,4,none⟩ x4).setCell ⟨b,5,none⟩ x5) :=
 Kp.setCell (p:=⟨b,5,none⟩) (Kp.setCell (p:=⟨b,4,none⟩) (kset4 hk hb x0 x1 x2 x3) (fun h=>absurd h (by simpa using hb)) _) (fun h=>absurd h (by simpa using hb)) _
theorem res_use {fn:Func} {t t2:Tmp} (h:fn.results=#[.cell t 36,.tmp t2]) (tmps:Array Value) (W:World) {b:Nat} {u:X.U} {ok:Bool} (ht:tmps[t]?.getD undef=.pointer (some ⟨b,0,none⟩)) (ht2:tmps[t2]?.getD undef=.bool ok) (hb:W.heap[b]?=some (.cells #[.int .i64 u.f,.int .i64 u.i,.int .i64 u.s,.int .i64 u.tf,.int .i64 u.tt,.int .i64 u.e] 36 (0,0))) :
  (results fn tmps).run Tryz.prog W=.ok (.tuple #[.agg #[.int .i64 u.f,.int .i64 u.i,.int .i64 u.s,.int .i64 u.tf,.int .i64 u.tt,.int .i64 u.e],.bool ok]) W:=by
 have m0:=cell_of_row W _ 0 _ _ _ hb
 have m1:=cell_of_row W _ 1 _ _ _ hb
 have m2:=cell_of_row W _ 2 _ _ _ hb
 have m3:=cell_of_row W _ 3 _ _ _ hb
 have m4:=cell_of_row W _ 4 _ _ _ hb
 have m5:=cell_of_row W _ 5 _ _ _ hb
 simp [results,h,go_sem,ht,ht2,m0,m1,m2,m3,m4,m5]
end Go.Proofs.YtbmebfgapjhchaaGreatDoor
