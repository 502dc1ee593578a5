/- Package scope: own,module,twice. -/
import Derived.Test.YtbmebfgapjhchaaGreatDoorJa
import Derived.Test.YtbmebfgapjhchaaGreatDoorHa
namespace Go.Proofs.YtbmebfgapjhchaaGreatDoor
open Go.RowKit
open M
variable {w0:World} {L:Lay} {fs:List X.Fl} {M:Mem} {us:List X.U} {w:World}
set_option maxRecDepth 100000 in
set_option maxHeartbeats 1000000 in
theorem town_any (n:X.Nm) (s:Nat) (er:Nat) (h:Run w0 L fs M us w) (hlim:us.length+(X.ownU L.tf n s er).length≤1073741824) :
  Calls Tryz.prog 93 #[.pointer (some ⟨L.tb,0,none⟩),.agg #[.string (ba n.1),.int .i64 n.2],.int .i64 s,.int .i64 er] w fun e w'=>e=.returned (.tuple #[])∧Hid (Run w0 L fs M (us++X.ownU L.tf n s er) w'∧Kx L fs.length w0.heap.size w w'):=by
 have kA:Below w.heap.size w (w.alloc (.cells #[.string (ba n.1),.int .i64 n.2] 165)).drew:=((Below.refl _ w).alloc (Nat.le_refl _) _).drew
 have hN:=heap_alloc_new w (.cells #[.string (ba n.1),.int .i64 n.2] 165)
 have n0:(w.alloc (.cells #[.string (ba n.1),.int .i64 n.2] 165)).cell? ⟨w.heap.size,0,none⟩=some (.string (ba n.1)):=cell_of_row _ _ 0 _ _ _ hN
 have n1:(w.alloc (.cells #[.string (ba n.1),.int .i64 n.2] 165)).cell? ⟨w.heap.size,1,none⟩=some (.int .i64 n.2):=cell_of_row _ _ 1 _ _ _ hN
 obtain ⟨nv,-,t1,-⟩:=(h.alloc (.cells #[.string (ba n.1),.int .i64 n.2] 165)).cells
 have HC:=hide (tadd_any n s L.tf n.2 er (h.below kA) hlim)
 have HK:=hide kA
 have HS:=hide h.st.lt
 have hsz:=h.size
 have HN:=hide hN
 clear kA h hlim hN
 go_enter Tryz.func93,Tryz.ntmps93
 go_wp2_with fail
 refine wpTo_start (S:=fun w'=>w'.cell? ⟨L.tb,1,none⟩=some (.int .i64 L.tf)∧w'.cell? ⟨w.heap.size,0,none⟩=some (.string (ba n.1))∧w'.cell? ⟨w.heap.size,1,none⟩=some (.int .i64 n.2)) (z:=12) (by kernel_rfl) ?_
 have hS:(w.alloc (.cells #[.string (ba n.1),.int .i64 n.2] 165)).drew.cell? ⟨L.tb,1,none⟩=some (.int .i64 L.tf)∧(w.alloc (.cells #[.string (ba n.1),.int .i64 n.2] 165)).drew.cell? ⟨w.heap.size,0,none⟩=some (.string (ba n.1))∧(w.alloc (.cells #[.string (ba n.1),.int .i64 n.2] 165)).drew.cell? ⟨w.heap.size,1,none⟩=some (.int .i64 n.2):=⟨t1,n0,n1⟩
 iterate 11 (refine wpTo_nx (v:=?_) rfl rfl (by kernel_rfl) (by decide) (by kernel_rfl) (by kernel_rfl) (fun _ _ _ h=>h) (Or.inl ⟨by rfl,?_⟩) hS ?_;rotate_left;(· (intro wx hSw;(try dsimp only at hSw);go_simp;try (with_reducible rfl)));simp only [Act.put,List.setIfInBounds_toArray,List.set_cons_zero,List.set_cons_succ])
 refine wpTo_one (i:=11) (by kernel_rfl) rfl (fun K hK=>?_)
 go_simp
 refine (HC.out).mono ?_
 rintro e w2 ⟨rfl,H2⟩
 have HF:Hid (Run w0 L fs M (us++X.ownU L.tf n s er) w2∧Kx L fs.length w0.heap.size w w2):=⟨(H2.out).1,(Kx.ofBelow HK.out).trans (H2.out).2⟩
 have hN2:=(H2.out).2.made HS.out HN.out hsz (fun cs d e=>by cases e)
 obtain ⟨nv2,-,u1,-⟩:=(H2.out).1.cells
 have m0:=cell_of_row w2 _ 0 _ _ _ hN2
 have m1:=cell_of_row w2 _ 1 _ _ _ hN2
 dsimp only
 refine hK.out _ _ (fun _=>⟨u1,m0,m1⟩) (fun _=>wpTo_end (by kernel_rfl) ?_)
 clear hK K hS HC HK H2 hN2 m0 m1 u1 n0 n1 t1 HN
 go_wp2_with fail
 go_end0
 exact ⟨rfl,HF⟩
theorem nameMissing_is (x:List UInt8) (n:Int) (w:World) (b:Bool) (hb:x.isEmpty=b) :
  Calls Tryz.prog 63 #[.agg #[.string (ba x),.int .i64 n]] w fun e w'=>e=.returned (.bool b)∧Below w.heap.size w w':=by
 subst hb
 exact nameMissing_any x n w
theorem called_of {w:World} {lo hi:Nat} {v:Value} {it:X.It} (h:IsIt w lo hi v it):∃ b,(v=.iface 124 (.pointer (some ⟨b,0,none⟩))∧Calls Tryz.prog 184 #[.pointer (some ⟨b,0,none⟩)] w fun e w'=>e=.returned (.agg #[.string (ba (X.called it).1),.int .i64 (X.called it).2])∧Below w.heap.size w w')∨(v=.iface 126 (.pointer (some ⟨b,0,none⟩))∧Calls Tryz.prog 186 #[.pointer (some ⟨b,0,none⟩)] w fun e w'=>e=.returned (.agg #[.string (ba (X.called it).1),.int .i64 (X.called it).2])∧Below w.heap.size w w'):=by
 cases h with
 | use b pub gs m n a hb h=>exact ⟨b,.inl ⟨rfl,useCalled_any b pub gs m n a w h⟩⟩
 | dfn b pub n pv ps v e hb h hp he=>exact ⟨b,.inr ⟨rfl,defCalled_any b pub n pv v _ _ w h⟩⟩
theorem called_B {it:X.It} (h:X.itB 268435456 it):X.nmB 268435456 (X.called it):=by
 cases it with
 | use p m n gs a =>
  show X.nmB _ (if gs then a else n)
  cases gs
  ·exact h.2.1
  ·exact h.2.2
 | dfn p n ps b=>exact h.1
theorem topI_some {l:List X.It} {k:Nat} {it:X.It} (hk:l[k]?=some it) (hn:(X.called it).1≠[]):∃ j,X.topI l (X.called it).1=some j:=by
 unfold X.topI
 rw [if_neg hn]
 cases hf:l.findIdx? (fun it'=>(X.called it').1==(X.called it).1) with
 | some j=>exact ⟨j,rfl⟩
 | none =>
  have:=List.findIdx?_eq_none_iff.1 hf it (List.mem_of_getElem? hk)
  simp at this
set_option maxRecDepth 100000 in
set_option maxHeartbeats 2000000 in
theorem isTwice_any (i k:Nat) (it:X.It) (hk:(X.itemsOf fs i)[k]?=some it) (h:Run w0 L fs M us w) :
  Calls Tryz.prog 120 #[.pointer (some ⟨L.fb i,0,none⟩),.int .i64 k] w fun e w'=>e=.returned (.bool (X.twiceE (X.itemsOf fs i) k (X.called it).1==5))∧Below w.heap.size w w':=by
 obtain ⟨hil,hkl⟩:=item_lt hk
 obtain ⟨g,cap,v,lo,hi,e1,e2,e3,e4,e5,-,-⟩:=h.item hil hk
 have hf:=h.file hil
 rw [e1] at hf
 have f0:=cell_of_row w _ 0 _ _ _ hf
 have f1:=cell_of_row w _ 1 _ _ _ hf
 have hfl:=heap_lt hf
 obtain ⟨kk,hmp⟩:=h.named hil
 obtain ⟨ba1,ba2⟩:=called_B (h.itB hk)
 have hIl:(X.itemsOf fs i).length≤268435456:=h.st.il i
 obtain ⟨b,hcase⟩:=called_of e5
 have hi1:(k:Int)<((X.itemsOf fs i).length:Int):=by omega
 have HM:=hide hmp
 have hnm:(X.called it).1≠[]→∃ j,X.topI (X.itemsOf fs i) (X.called it).1=some j:=topI_some hk
 have hj:∀ j,X.topI (X.itemsOf fs i) (X.called it).1=some j→j<268435456:=fun j hj=>by
  obtain ⟨it',hit,-⟩:=X.topI_name hj
  have:=(item_lt hit).2
  omega
 generalize hnn:X.called it=nn at *
 generalize hA:(X.twiceE (X.itemsOf fs i) k nn.1==5)=A
 have HA:=hide hA
 have hlen:nn.1.length≤maxLen:=by unfold maxLen;omega
 clear hmp hnn hA h e5 hf e1
 have key:∀ w2:World,Below w.heap.size w w2→Mp w2 (L.nb i) kk (X.topI (X.itemsOf fs i)):=fun w2 hb=>(HM.out).below hb
 have HKEY:=hide key
 clear key
 rcases hcase with ⟨rfl,hc⟩|⟨rfl,hc⟩
 all_goals
  have HC:=hide hc
  clear hc
  go_enter Tryz.func120,Tryz.ntmps120
  go_wp2_with fail
  refine (HC.out).mono ?_
  rintro e w2 ⟨rfl,B2⟩
  have g1:=kcb B2 hfl f1
  have kC:Below w.heap.size w (w2.alloc (.cells #[.string (ba nn.1),.int .i64 nn.2] 165)):=B2.alloc B2.size _
  have hN:(w2.alloc (.cells #[.string (ba nn.1),.int .i64 nn.2] 165)).heap[w2.heap.size]?=some (.cells #[.string (ba nn.1),.int .i64 nn.2] 165 (0,0)):=heap_alloc_new w2 _
  have HB2:=hide B2
  have HKC:=hide kC
  have hsz:w2.heap.size<(w2.alloc (.cells #[.string (ba nn.1),.int .i64 nn.2] 165)).heap.size:=by simp
  clear kC B2 HC
  have N0:=cell_of_row _ _ 0 _ _ _ hN
  have N1:=cell_of_row _ _ 1 _ _ _ hN
  have g1':=Lib.cell?_alloc_some (.cells #[.string (ba nn.1),.int .i64 nn.2] 165) g1
  have hw2:L.fb i<w2.heap.size:=Nat.lt_of_lt_of_le hfl (HB2.out).size
  have hw3:L.fb i<(w2.alloc (.cells #[.string (ba nn.1),.int .i64 nn.2] 165)).heap.size:=by simp;omega
  clear hN
  by_cases hn:nn.1=[]
  ·have e1:nn.1.isEmpty=true:=by rw [hn];rfl
   have HA2:Hid (A=false):=by rw [← HA.out];unfold X.twiceE;rw [if_pos (.inl hn)];exact hide rfl
   clear HA hn
   go_wp2_with fail
   generalize w2.alloc (.cells #[.string (ba nn.1),.int .i64 nn.2] 165)=w3 at *
   refine wp_region_noPanic ?_
   refine wpTo_start (S:=fun w'=>w'.cell? ⟨w2.heap.size,0,none⟩=some (.string (ba nn.1))∧w'.cell? ⟨w2.heap.size,1,none⟩=some (.int .i64 nn.2)) (z:=14) (by kernel_rfl) ?_
   have hS:w3.drew.cell? ⟨w2.heap.size,0,none⟩=some (.string (ba nn.1))∧w3.drew.cell? ⟨w2.heap.size,1,none⟩=some (.int .i64 nn.2):=⟨N0,N1⟩
   refine wpTo_take (i:=0) (dn:=14) (v:=?_) rfl rfl (by kernel_rfl) (by kernel_rfl) (by kernel_rfl) (by kernel_rfl) (fun _ _ _ h=>h) (Or.inl ⟨by rfl,?_⟩) hS ?_
   rotate_left
   ·(intro wx hSw;(try dsimp only at hSw);go_simp;try (with_reducible rfl))
   simp only [Act.put,List.setIfInBounds_toArray,List.set_cons_zero,List.set_cons_succ]
   refine wpTo_one (i:=1) (by kernel_rfl) rfl (fun K hK=>?_)
   go_simp
   refine (nameMissing_is nn.1 nn.2 _ true e1).mono ?_
   rintro e w4 ⟨rfl,B4⟩
   have N0':=kcb B4 hsz N0
   have N1':=kcb B4 hsz N1
   go_simp
   refine hK.out _ _ (fun _=>⟨N0',N1'⟩) (fun hS2=>?_)
   clear hS hK K
   have hS:=hS2 (by decide)
   clear hS2
   iterate 2 (refine wpTo_nx0 (v:=?_) rfl rfl (by kernel_rfl) (by kernel_rfl) (by kernel_rfl) (by kernel_rfl) (fun _ _ _ h=>h) (Or.inl ⟨by rfl,?_⟩) hS ?_;rotate_left;(· (intro wx hSw;(try dsimp only at hSw);go_simp;try (with_reducible rfl)));simp only [Act.put,List.setIfInBounds_toArray,List.set_cons_zero,List.set_cons_succ])
   refine wpTo_take (i:=4) (dn:=18) (v:=undef) rfl rfl (by kernel_rfl) (by kernel_rfl) (by kernel_rfl) (by kernel_rfl) (fun _ _ _ h=>h) (Or.inr ⟨by rfl,rfl⟩) hS ?_
   simp only [Act.put,List.setIfInBounds_toArray,List.set_cons_zero,List.set_cons_succ]
   refine wpTo_take (i:=5) (dn:=19) (v:=undef) rfl rfl (by kernel_rfl) (by kernel_rfl) (by kernel_rfl) (by kernel_rfl) (fun _ _ _ h=>h) (Or.inr ⟨by rfl,rfl⟩) hS ?_
   simp only [Act.put,List.setIfInBounds_toArray,List.set_cons_zero,List.set_cons_succ]
   refine wpTo_take (i:=6) (dn:=20) (v:=undef) rfl rfl (by kernel_rfl) (by kernel_rfl) (by kernel_rfl) (by kernel_rfl) (fun _ _ _ h=>h) (Or.inr ⟨by rfl,rfl⟩) hS ?_
   simp only [Act.put,List.setIfInBounds_toArray,List.set_cons_zero,List.set_cons_succ]
   refine wpTo_take (i:=7) (dn:=21) (v:=undef) rfl rfl (by kernel_rfl) (by kernel_rfl) (by kernel_rfl) (by kernel_rfl) (fun _ _ _ h=>h) (Or.inr ⟨by rfl,rfl⟩) hS ?_
   simp only [Act.put,List.setIfInBounds_toArray,List.set_cons_zero,List.set_cons_succ]
   refine wpTo_take (i:=8) (dn:=22) (v:=undef) rfl rfl (by kernel_rfl) (by kernel_rfl) (by kernel_rfl) (by kernel_rfl) (fun _ _ _ h=>h) (Or.inr ⟨by rfl,rfl⟩) hS ?_
   simp only [Act.put,List.setIfInBounds_toArray,List.set_cons_zero,List.set_cons_succ]
   refine wpTo_take (i:=9) (dn:=23) (v:=undef) rfl rfl (by kernel_rfl) (by kernel_rfl) (by kernel_rfl) (by kernel_rfl) (fun _ _ _ h=>h) (Or.inr ⟨by rfl,rfl⟩) hS ?_
   simp only [Act.put,List.setIfInBounds_toArray,List.set_cons_zero,List.set_cons_succ]
   refine wpTo_take (i:=10) (dn:=24) (v:=undef) rfl rfl (by kernel_rfl) (by kernel_rfl) (by kernel_rfl) (by kernel_rfl) (fun _ _ _ h=>h) (Or.inr ⟨by rfl,rfl⟩) hS ?_
   simp only [Act.put,List.setIfInBounds_toArray,List.set_cons_zero,List.set_cons_succ]
   refine wpTo_take (i:=11) (dn:=25) (v:=undef) rfl rfl (by kernel_rfl) (by kernel_rfl) (by kernel_rfl) (by kernel_rfl) (fun _ _ _ h=>h) (Or.inr ⟨by rfl,rfl⟩) hS ?_
   simp only [Act.put,List.setIfInBounds_toArray,List.set_cons_zero,List.set_cons_succ]
   refine wpTo_take (i:=12) (dn:=26) (v:=undef) rfl rfl (by kernel_rfl) (by kernel_rfl) (by kernel_rfl) (by kernel_rfl) (fun _ _ _ h=>h) (Or.inr ⟨by rfl,rfl⟩) hS ?_
   simp only [Act.put,List.setIfInBounds_toArray,List.set_cons_zero,List.set_cons_succ]
   refine wpTo_take (i:=13) (dn:=27) (v:=?_) rfl rfl (by kernel_rfl) (by kernel_rfl) (by kernel_rfl) (by kernel_rfl) (fun _ _ _ h=>h) (Or.inl ⟨by rfl,?_⟩) hS ?_
   rotate_left
   ·(intro wx hSw;(try dsimp only at hSw);go_simp;try (with_reducible rfl))
   simp only [Act.put,List.setIfInBounds_toArray,List.set_cons_zero,List.set_cons_succ]
   refine wpTo_one (i:=14) (by kernel_rfl) rfl (fun K hK=>?_)
   go_simp
   refine hK.out _ _ (fun h=>absurd rfl h) (fun _=>wpTo_end (by kernel_rfl) ?_)
   clear hK K hS
   refine NoPanic.normal ?_
   have HF:Hid (Below w.heap.size w w4):=((HKC.out).drew).trans (B4.mono ((HKC.out).size))
   clear B4 N0 N1 N0' N1'
   go_wp2_with fail
   go_ret
   exact ⟨by rw [HA2.out];rfl,HF.out⟩
  ·have e1:nn.1.isEmpty=false:=by cases hx:nn.1 with|nil=>exact absurd hx hn|cons a l=>rfl
   obtain ⟨j,hj2⟩:=hnm hn
   have hjl:=hj j hj2
   have HRn:Hid (∀ w2:World,Below w.heap.size w w2→(Instr.lookup 85 (.map (some (L.nb i))) (.string (ba nn.1)) false).run Tryz.prog w2=.ok (.int .i64 j) w2):=fun w2 hb=>by
    have:=((HKEY.out) w2 hb).run_no hlen
    rw [hj2] at this
    exact this
   have HA2:Hid (A=!((j:Int)==k)):=by
    rw [← HA.out]
    unfold X.twiceE
    rw [hj2]
    by_cases hjk:j=k
    ·subst hjk
     rw [if_pos (.inr rfl)]
     exact hide (by simp)
    ·rw [if_neg (fun e=>by rcases e with e|e;exact hn e;exact hjk (Option.some.inj e))]
     have:((j:Int)==k)=false:=by simp;omega
     rw [this]
     exact hide rfl
   clear HA hn hj2 hnm hj
   go_wp2_with fail
   have hR3:=(HRn.out) _ (HKC.out).drew
   generalize w2.alloc (.cells #[.string (ba nn.1),.int .i64 nn.2] 165)=w3 at *
   go_region_held3 (fun w'=>w'.cell? ⟨w2.heap.size,0,none⟩=some (.string (ba nn.1))∧w'.cell? ⟨w2.heap.size,1,none⟩=some (.int .i64 nn.2)∧w'.cell? ⟨L.fb i,1,none⟩=some (.map (some (L.nb i)))∧(Instr.lookup 85 (.map (some (L.nb i))) (.string (ba nn.1)) false).run Tryz.prog w'=.ok (.int .i64 j) w')
    (first|(with_reducible exact ⟨N0,N1,g1',hR3⟩)|(with_reducible exact ⟨N0',N1',g1'',hR4⟩)|go_keep)
    ((go_at_call 63;refine (nameMissing_is nn.1 nn.2 _ false e1).mono ?_;rintro e w4 ⟨rfl,B4⟩;have N0':=kcb B4 hsz N0;have N1':=kcb B4 hsz N1;have g1'':=kcb B4 hw3 g1';have hR4:=(HRn.out) w4 (((HKC.out).drew).trans (B4.mono ((HKC.out).size)))))
   have HF:Hid (Below w.heap.size w w4):=((HKC.out).drew).trans (B4.mono ((HKC.out).size))
   clear B4 N0 N1 N0' N1' g1' g1'' hR3 hR4
   go_wp2_with fail
   go_ret
   exact ⟨by rw [HA2.out];rfl,HF.out⟩
end Go.Proofs.YtbmebfgapjhchaaGreatDoor
/- Package scope: twice,module. -/
namespace Go.Proofs.YtbmebfgapjhchaaGreatDoor
open Go.RowKit
open M
variable {w0:World} {L:Lay} {fs:List X.Fl} {M:Mem} {us:List X.U} {w:World}
theorem isTwice_is (i k:Nat) (it:X.It) (hk:(X.itemsOf fs i)[k]?=some it) (h:Run w0 L fs M us w) (b:Bool) (hb:(X.twiceE (X.itemsOf fs i) k (X.called it).1==5)=b) :
  Calls Tryz.prog 120 #[.pointer (some ⟨L.fb i,0,none⟩),.int .i64 k] w fun e w'=>e=.returned (.bool b)∧Below w.heap.size w w':=by
 subst hb
 exact isTwice_any i k it hk h
set_option maxRecDepth 100000 in
set_option maxHeartbeats 2000000 in
theorem ttwice_any (k:Nat) (it:X.It) (hk:(X.itemsOf fs L.tf)[k]?=some it) (h:Run w0 L fs M us w) :
  Calls Tryz.prog 91 #[.pointer (some ⟨L.tb,0,none⟩),.int .i64 k] w fun e w'=>e=.returned (.int .i64 (X.twiceE (X.itemsOf fs L.tf) k (X.called it).1))∧Below w.heap.size w w':=by
 obtain ⟨hil,hkl⟩:=item_lt hk
 have hn16:=h.st.n
 obtain ⟨nv,t0,t1,-⟩:=h.cells
 obtain ⟨-,c1⟩:=h.wsp
 obtain ⟨g,cap,e1,e2,e3,e4⟩:=h.files hil
 rw [e1] at c1
 have hi1:(L.tf:Int)<(fs.length:Int):=by omega
 have htl:L.tb<w.heap.size:=World.block_lt_of_cell? w ⟨L.tb,0,none⟩ t0
 have hwl:L.wb<w.heap.size:=World.block_lt_of_cell? w ⟨L.wb,1,none⟩ c1
 have hgl:g<w.heap.size:=World.block_lt_of_cell? w ⟨g,L.tf,none⟩ e4
 have htw:X.twiceE (X.itemsOf fs L.tf) k (X.called it).1=5∨X.twiceE (X.itemsOf fs L.tf) k (X.called it).1=0:=by
  unfold X.twiceE
  split
  ·exact .inr rfl
  ·exact .inl rfl
 have kD:Below w.heap.size w w.drew:=(Below.refl _ w).drew
 rcases htw with ht|ht
 ·have HC:=hide (isTwice_is L.tf k it hk (h.below kD) true (by rw [ht];rfl))
  clear h kD
  rw [ht]
  go_enter Tryz.func91,Tryz.ntmps91
  go_wp2_with fail
  refine wpTo_start (S:=fun w'=>w'.cell? ⟨L.tb,0,none⟩=some (.pointer (some ⟨L.wb,0,none⟩))∧w'.cell? ⟨L.tb,1,none⟩=some (.int .i64 L.tf)∧w'.cell? ⟨L.wb,1,none⟩=some (.slice (some ⟨g,0,none⟩) fs.length cap)∧w'.cell? ⟨g,L.tf,none⟩=some (.pointer (some ⟨L.fb L.tf,0,none⟩))) (z:=15) (by kernel_rfl) ?_
  have hS:w.drew.cell? ⟨L.tb,0,none⟩=some (.pointer (some ⟨L.wb,0,none⟩))∧w.drew.cell? ⟨L.tb,1,none⟩=some (.int .i64 L.tf)∧w.drew.cell? ⟨L.wb,1,none⟩=some (.slice (some ⟨g,0,none⟩) fs.length cap)∧w.drew.cell? ⟨g,L.tf,none⟩=some (.pointer (some ⟨L.fb L.tf,0,none⟩)):=⟨t0,t1,c1,e4⟩
  iterate 14 (refine wpTo_nx (v:=?_) rfl rfl (by kernel_rfl) (by decide) (by kernel_rfl) (by kernel_rfl) (fun _ _ _ h=>h) (Or.inl ⟨by rfl,?_⟩) hS ?_;rotate_left;(· (intro wx hSw;(try dsimp only at hSw);go_simp;try (with_reducible rfl)));simp only [Act.put,List.setIfInBounds_toArray,List.set_cons_zero,List.set_cons_succ])
  refine wpTo_one (i:=14) (by kernel_rfl) rfl (fun K hK=>?_)
  go_simp
  refine (HC.out).mono ?_
  rintro e w4 ⟨rfl,B4⟩
  dsimp only
  refine hK.out _ _ (fun _=>⟨kcb B4 htl hS.1,kcb B4 htl hS.2.1,kcb B4 hwl hS.2.2.1,kcb B4 hgl hS.2.2.2⟩) (fun _=>wpTo_end (by kernel_rfl) ?_)
  have HF:Hid (Below w.heap.size w w4):=(Below.refl _ w).drew.trans B4
  clear hK K hS B4 t0 t1 c1 e4 HC
  go_wp2_with fail
  go_ret
  exact ⟨rfl,HF.out⟩
 ·have HC:=hide (isTwice_is L.tf k it hk (h.below kD) false (by rw [ht];rfl))
  clear h kD
  rw [ht]
  go_enter Tryz.func91,Tryz.ntmps91
  go_wp2_with fail
  refine wpTo_start (S:=fun w'=>w'.cell? ⟨L.tb,0,none⟩=some (.pointer (some ⟨L.wb,0,none⟩))∧w'.cell? ⟨L.tb,1,none⟩=some (.int .i64 L.tf)∧w'.cell? ⟨L.wb,1,none⟩=some (.slice (some ⟨g,0,none⟩) fs.length cap)∧w'.cell? ⟨g,L.tf,none⟩=some (.pointer (some ⟨L.fb L.tf,0,none⟩))) (z:=15) (by kernel_rfl) ?_
  have hS:w.drew.cell? ⟨L.tb,0,none⟩=some (.pointer (some ⟨L.wb,0,none⟩))∧w.drew.cell? ⟨L.tb,1,none⟩=some (.int .i64 L.tf)∧w.drew.cell? ⟨L.wb,1,none⟩=some (.slice (some ⟨g,0,none⟩) fs.length cap)∧w.drew.cell? ⟨g,L.tf,none⟩=some (.pointer (some ⟨L.fb L.tf,0,none⟩)):=⟨t0,t1,c1,e4⟩
  iterate 14 (refine wpTo_nx (v:=?_) rfl rfl (by kernel_rfl) (by decide) (by kernel_rfl) (by kernel_rfl) (fun _ _ _ h=>h) (Or.inl ⟨by rfl,?_⟩) hS ?_;rotate_left;(· (intro wx hSw;(try dsimp only at hSw);go_simp;try (with_reducible rfl)));simp only [Act.put,List.setIfInBounds_toArray,List.set_cons_zero,List.set_cons_succ])
  refine wpTo_one (i:=14) (by kernel_rfl) rfl (fun K hK=>?_)
  go_simp
  refine (HC.out).mono ?_
  rintro e w4 ⟨rfl,B4⟩
  dsimp only
  refine hK.out _ _ (fun _=>⟨kcb B4 htl hS.1,kcb B4 htl hS.2.1,kcb B4 hwl hS.2.2.1,kcb B4 hgl hS.2.2.2⟩) (fun _=>wpTo_end (by kernel_rfl) ?_)
  have HF:Hid (Below w.heap.size w w4):=(Below.refl _ w).drew.trans B4
  clear hK K hS B4 t0 t1 c1 e4 HC
  go_wp2_with fail
  go_ret
  exact ⟨rfl,HF.out⟩
set_option maxRecDepth 100000 in
set_option maxHeartbeats 2000000 in
theorem tmodule_any (n:X.Nm) (hnB:X.nmB 268435456 n) (h:Run w0 L fs M us w) (hlim:us.length+(X.tellU L.tf n 3 (match X.modI fs n.1 with|some f'=>(f',-1,0)|none=>(-1,-1,4))).length≤1073741824) :
  Calls Tryz.prog 89 #[.pointer (some ⟨L.tb,0,none⟩),.agg #[.string (ba n.1),.int .i64 n.2]] w fun e w'=>e=.returned (.tuple #[])∧Hid (Run w0 L fs M (us++X.tellU L.tf n 3 (match X.modI fs n.1 with|some f'=>(f',-1,0)|none=>(-1,-1,4))) w'∧Kx L fs.length w0.heap.size w w'):=by
 have kA:Below w.heap.size w (w.alloc (.cells #[.string (ba n.1),.int .i64 n.2] 165)):=(Below.refl _ w).alloc (Nat.le_refl _) _
 have h1:=h.below kA
 have hN:=heap_alloc_new w (.cells #[.string (ba n.1),.int .i64 n.2] 165)
 obtain ⟨k1,k2⟩:=hnB
 have hlen:n.1.length≤maxLen:=by unfold maxLen;omega
 have HS:=hide h.st.lt
 have hsz:=h.size
 have HKA:=hide kA
 clear kA h
 cases hm:X.modI fs n.1 with
 | some f' =>
  rw [hm] at hlim
  go_enter Tryz.func89,Tryz.ntmps89
  go_wp2_with fail
  generalize w.alloc (.cells #[.string (ba n.1),.int .i64 n.2] 165)=W at *
  have n0:=cell_of_row W _ 0 _ _ _ hN
  have n1:=cell_of_row W _ 1 _ _ _ hN
  have hNl:=heap_lt hN
  obtain ⟨nv,t0,-⟩:=h1.cells
  obtain ⟨c0,-⟩:=h1.wsp
  have h1d:=h1.below ((Below.refl _ W).drew)
  obtain ⟨kk,hmp⟩:=h1d.mods
  have hrun:=hmp.run_ok hlen
  rw [hm] at hrun
  have hrun':(Instr.lookup 85 (.map (some L.mb)) (.string (ba n.1)) true).run Tryz.prog W.drew=.ok (.tuple #[.int .i64 f',.bool true]) W.drew:=hrun
  have HR:=hide h1
  clear hmp hrun h1 h1d hN
  go_region_held3 (fun w'=>w'.cell? ⟨L.tb,0,none⟩=some (.pointer (some ⟨L.wb,0,none⟩))∧w'.cell? ⟨w.heap.size,0,none⟩=some (.string (ba n.1))∧w'.cell? ⟨L.wb,0,none⟩=some (.map (some L.mb))∧(Instr.lookup 85 (.map (some L.mb)) (.string (ba n.1)) true).run Tryz.prog w'=.ok (.tuple #[.int .i64 f',.bool true]) w')
   (first|(with_reducible exact ⟨t0,n0,c0,hrun'⟩)|go_keep)
   (fail)
  clear hrun'
  have HC:=hide (tadd_any n 3 f' (-1) 0 ((HR.out).below ((Below.refl _ W).drew)) hlim)
  go_wp2_with fail
  refine (HC.out).mono ?_
  rintro e w4 ⟨rfl,H4⟩
  have HF:Hid (Run w0 L fs M (us++X.tellU L.tf n 3 (f',-1,0)) w4∧Kx L fs.length w0.heap.size w w4):=⟨(H4.out).1,(Kx.ofBelow (HKA.out).drew).trans (H4.out).2⟩
  clear HC H4 t0 n0 n1 c0
  go_wp2_with fail
  go_end0
  exact ⟨rfl,HF⟩
 | none =>
  rw [hm] at hlim
  go_enter Tryz.func89,Tryz.ntmps89
  go_wp2_with fail
  generalize w.alloc (.cells #[.string (ba n.1),.int .i64 n.2] 165)=W at *
  have n0:=cell_of_row W _ 0 _ _ _ hN
  have n1:=cell_of_row W _ 1 _ _ _ hN
  have hNl:=heap_lt hN
  obtain ⟨nv,t0,-⟩:=h1.cells
  obtain ⟨c0,-⟩:=h1.wsp
  have h1d:=h1.below ((Below.refl _ W).drew)
  obtain ⟨kk,hmp⟩:=h1d.mods
  have hrun:=hmp.run_ok hlen
  rw [hm] at hrun
  have hrun':(Instr.lookup 85 (.map (some L.mb)) (.string (ba n.1)) true).run Tryz.prog W.drew=.ok (.tuple #[.int .i64 0,.bool false]) W.drew:=hrun
  have HR:=hide h1
  clear hmp hrun h1 h1d hN
  go_region_held3 (fun w'=>w'.cell? ⟨L.tb,0,none⟩=some (.pointer (some ⟨L.wb,0,none⟩))∧w'.cell? ⟨w.heap.size,0,none⟩=some (.string (ba n.1))∧w'.cell? ⟨L.wb,0,none⟩=some (.map (some L.mb))∧(Instr.lookup 85 (.map (some L.mb)) (.string (ba n.1)) true).run Tryz.prog w'=.ok (.tuple #[.int .i64 0,.bool false]) w')
   (first|(with_reducible exact ⟨t0,n0,c0,hrun'⟩)|go_keep)
   (fail)
  clear hrun'
  go_wp2_with fail
  generalize hWd:W.drew=Wd at *
  have hKW:Below w.heap.size w Wd:=by rw [← hWd];exact (HKA.out).drew
  have HR2:Hid (Run w0 L fs M us Wd):=by rw [← hWd];exact (HR.out).below ((Below.refl _ W).drew)
  have n0':Wd.cell? ⟨w.heap.size,0,none⟩=some (.string (ba n.1)):=by rw [← hWd];exact n0
  have n1':Wd.cell? ⟨w.heap.size,1,none⟩=some (.int .i64 n.2):=by rw [← hWd];exact n1
  have hNl':w.heap.size<Wd.heap.size:=by rw [← hWd];exact hNl
  clear hWd t0 n0 n1 c0
  refine wpTo_start (S:=fun w'=>w'.cell? ⟨w.heap.size,0,none⟩=some (.string (ba n.1))∧w'.cell? ⟨w.heap.size,1,none⟩=some (.int .i64 n.2)) (z:=3) (by kernel_rfl) ?_
  have hS:Wd.drew.cell? ⟨w.heap.size,0,none⟩=some (.string (ba n.1))∧Wd.drew.cell? ⟨w.heap.size,1,none⟩=some (.int .i64 n.2):=⟨n0',n1'⟩
  iterate 2 (refine wpTo_nx0 (v:=?_) rfl rfl (by kernel_rfl) (by kernel_rfl) (by kernel_rfl) (by kernel_rfl) (fun _ _ _ h=>h) (Or.inl ⟨by rfl,?_⟩) hS ?_;rotate_left;(· (intro wx hSw;(try dsimp only at hSw);go_simp;try (with_reducible rfl)));simp only [Act.put,List.setIfInBounds_toArray,List.set_cons_zero,List.set_cons_succ])
  refine wpTo_one (i:=2) (by kernel_rfl) rfl (fun K hK=>?_)
  go_simp
  refine (nowhere_any _).mono ?_
  rintro e w3 ⟨rfl,B3⟩
  have HR3:Hid (Run w0 L fs M us w3):=(HR2.out).below (((Below.refl _ Wd).drew).trans B3)
  have HK3:Hid (Below w.heap.size w w3):=hKW.trans ((((Below.refl _ Wd).drew).trans B3).mono hKW.size)
  go_simp
  refine hK.out _ _ (fun _=>⟨kcb B3 hNl' hS.1,kcb B3 hNl' hS.2⟩) (fun hS2=>?_)
  clear hS hK K
  have hS:=hS2 (by decide)
  clear hS2
  refine wpTo_one (i:=3) (by kernel_rfl) rfl (fun K hK=>?_)
  go_simp
  refine (tadd_any n 3 (-1) (-1) 4 HR3.out hlim).mono ?_
  rintro e w4 ⟨rfl,H4⟩
  go_simp
  refine hK.out _ _ (fun h=>absurd rfl h) (fun _=>wpTo_end (by kernel_rfl) ?_)
  clear hK K hS
  have HF:Hid (Run w0 L fs M (us++X.tellU L.tf n 3 (-1,-1,4)) w4∧Kx L fs.length w0.heap.size w w4):=⟨(H4.out).1,(Kx.ofBelow HK3.out).trans (H4.out).2⟩
  clear H4
  go_wp2_with fail
  go_end0
  exact ⟨rfl,HF⟩
end Go.Proofs.YtbmebfgapjhchaaGreatDoor
/- Package scope: the names of an NParams come in sight. -/
namespace Go.Proofs.YtbmebfgapjhchaaGreatDoor
open Go.RowKit
open M
namespace X
theorem parU_app (f:Nat) (r:List Nm):∀ (l seen:List Nm),parU f seen (l++r)=parU f seen l++parU f (seen++l) r
 | [],seen=>by rw [List.nil_append,parU,List.nil_append,List.append_nil]
 | a::l,seen=>by
  rw [List.cons_append,parU,parU,parU_app f r l,List.append_assoc,List.append_assoc]
  rfl
theorem parU_snoc (f:Nat) (n:Nm) (l seen:List Nm):parU f seen (l++[n])=parU f seen l++ownU f n 1 (if (seen++l).any (fun m=>m.1==n.1) then 5 else 0):=by
 rw [parU_app,parU,parU,List.append_nil]
theorem parU_take (f:Nat) (ns:List Nm) (j:Nat):(parU f [] (ns.take j)).length≤(parU f [] ns).length:=by
 have:=parU_app f (ns.drop j) (ns.take j) []
 rw [List.take_append_drop] at this
 rw [this,List.length_append];omega
theorem take_snoc {α:Type} {l:List α} {j:Nat} {n:α} (h:l[j]?=some n):l.take (j+1)=l.take j++[n]:=by
 rw [List.take_add_one,h];rfl
theorem first_snoc (l:List Nm) (n:Nm) (x:List UInt8):first (l++[n]) x=match first l x with|some i=>some i|none=>if n.1=x then some n.2 else none:=by
 unfold first
 rw [List.find?_append]
 cases h:l.find? (fun m=>m.1==x) with
 | some m=>simp
 | none =>
  by_cases e:n.1=x
  ·simp [e]
  ·simp [e]
theorem first_any (l:List Nm) (x:List UInt8):l.any (fun m=>m.1==x)=(first l x).isSome:=by
 unfold first
 rw [Option.isSome_map]
 exact Bool.eq_iff_iff.2 (by rw [List.any_eq_true,List.find?_isSome])
end X
structure Av (L:Lay) (n B lo hi:Nat):Prop where
 top:hi≤B
 av:∀ q,lo≤q→q<hi→¬ L.S n q
theorem Av.sx {L:Lay} {n B lo hi:Nat} (h:Av L n B lo hi) (w:World):∀ q,lo≤q→q<hi→¬ L.Sx n B w q:=fun q h1 h2 hs=>by
 rcases hs with hs|hs
 ·exact h.av q h1 h2 hs
 ·have:=h.top;omega
theorem step_put_mp {w:World} {ops:Array Oper} {o:Oper} {a:Act} {K:Act→World→Prop} {Q:Exit→Act→World→Prop} {E:Prop} (hg:o.guard=none) (m x v:Operand) (hop:o.op=Op.mapUpdate 85 m x v) (b n:Nat) (g:List UInt8→Option Nat)
  (hm:a.eval m=.map (some b)) (h:Mp w b n g) (hn:n<maxLen) (k:List UInt8) (hk:k.length≤maxLen) (i:Nat) (hi:i≤9223372036854775807) (hx:a.eval x=.string (ba k)) (hv:a.eval v=.int .i64 i)
  (hK:∀ w',Mp w' b (n+1) (upd g k i)→Kp (fun q=>q=b) w w'→K (a.put o.dst undef) w') :
  if Region.wanted o (yielded ops a.tmps)=true then Oper.wp Tryz.prog o a w K Q else E:=by
 have hw:Region.wanted o (yielded ops a.tmps)=true:=by simp [Region.wanted,hg]
 rw [if_pos hw]
 obtain ⟨w',hrun,r1,r2⟩:=h.run_put hn hk hi
 unfold Oper.wp
 simp [execOp,hop,hm,hx,hv,hrun,Result.andThen]
 exact hK w' r1 r2
def IsNs (w:World) (lo hi:Nat) (ao:Option Addr) (ns:List X.Nm):Prop:=∀ (j:Nat) (n:X.Nm),ns[j]?=some n→∃ g,ao=some ⟨g,0,none⟩∧lo≤g∧g<hi∧w.cell? ⟨g,j*2,none⟩=some (.string (ba n.1))∧w.cell? ⟨g,j*2+1,none⟩=some (.int .i64 n.2)
theorem IsNs.keep {S:Nat→Prop} {w w':World} {lo hi:Nat} {ao:Option Addr} {ns:List X.Nm} (h:IsNs w lo hi ao ns) (hk:Kp S w w') (hS:∀ i,lo≤i→i<hi→¬ S i):IsNs w' lo hi ao ns:=fun j n hj=>by
 obtain ⟨g,e1,e2,e3,e4,e5⟩:=h j n hj
 exact ⟨g,e1,e2,e3,hk.cellv e4 (hS g e2 e3),hk.cellv e5 (hS g e2 e3)⟩
inductive Out (w:World) (m:Nat):Value→Prop
 | nil:Out w m (.pointer none)
 | cons (b m':Nat) (v:Value) (hb:b≠m) (hm:m'≠m) (h:w.heap[b]?=some (.cells #[.map (some m'),v] 283 (0,0))) (ho:Out w m v):Out w m (.pointer (some ⟨b,0,none⟩))
theorem IsBk.lt {B:Nat} {w:World} {v:Value} {sc:List (List X.Nm)} {m:Nat} (h:IsBk w B v sc) (hm:w.heap.size≤m):Out w m v:=by
 induction h with
 | nil=>exact .nil
 | cons b m' k ns v sc hB hm' h hp ho ih=>exact .cons b m' v (by have:=heap_lt h;omega) (by have:=hp.lt;omega) h ih
theorem Out.keep {L:Lay} {n B:Nat} {w w':World} {m:Nat} {v:Value} (h:Out w m v) (hk:Kx L n B w w') (hS:∀ q,L.S n q→q<B) {sc:List (List X.Nm)} (hbk:IsBk w B v sc):Out w' m v:=by
 induction h generalizing sc with
 | nil=>exact .nil
 | cons b m' v hb hm h ho ih =>
  cases hbk with
  | cons _ m2 k ns v2 sc hB hm' h' hp ho' =>
   rw [h] at h'
   cases h'
   exact .cons b m' v hb hm (hk.made hS h hB (fun cs d e=>by cases e)) (ih ho')
theorem mkMapN (n:Int) (w:World):(Instr.makeMap 85 (some (.int .i64 n))).run Tryz.prog w=.ok (.map (some w.heap.size)) (w.alloc (.map #[] 0)):=by
 simp [Instr.makeMap,run_underlying Tryz.underlying85,asInt,go_sem]
structure InP (w:World) (w0:World) (L:Lay) (fs:List X.Fl) (M:Mem) (us:List X.U) (lo hi:Nat) (ao:Option Addr) (ns:List X.Nm) (bv:Value) (sc:List (List X.Nm)) (b m j:Nat) (wr:World):Prop where
 run:Run w0 L fs M (us++X.parU L.tf [] (ns.take j)) wr
 kx:Kx L fs.length w0.heap.size w wr
 par:IsNs wr lo hi ao ns
 bl:wr.heap[b]?=some (.cells #[.map (some m),bv] 283 (0,0))
 mp:Mp wr m j (X.first (ns.take j))
 bk:IsBk wr w0.heap.size bv sc
 ot:Out wr m bv
variable {w0:World} {L:Lay} {fs:List X.Fl} {M:Mem} {us:List X.U} {w:World}
theorem Mp.kx {n B:Nat} {w w':World} {b k:Nat} {g:List UInt8→Option Nat} (h:Mp w b k g) (hk:Kx L n B w w') (hS:∀ q,L.S n q→q<B) (hB:B≤b):Mp w' b k g:=by
 obtain ⟨es,clock,hb⟩:=h.obj
 exact h.keep hk (fun hs=>by
  rcases hs with hs|⟨-,cs,d,hu⟩
  ·have:=hS b hs;omega
  ·rw [hb] at hu;cases hu)
theorem Run.map (h:Run w0 L fs M us w) {w':World} {m:Nat} (hk:Kp (fun q=>q=m) w w') (hm:w0.heap.size≤m) (ho:∃ es clock,w.heap[m]?=some (.map es clock)):Run w0 L fs M us w':=by
 obtain ⟨es,clock,hob⟩:=ho
 refine ⟨h.st,h.kp.trans hk (fun i hi e=>by omega),?_,fun i hi=>?_,h.lim⟩
 ·obtain ⟨nv,h1,h2⟩:=h.tl
  refine ⟨nv,hk.heap h1 (fun e=>by have:=h.st.wl;omega),hk.owns h2 (fun q hq e=>?_)⟩
  rcases h2.2 with ⟨rfl,-⟩|⟨g',cap',cur,rfl,hge,hgg,-⟩
  ·cases hq
  ·cases hq
   have e':g'=m:=e
   rw [e',hob] at hgg
   cases hgg
 ·obtain ⟨arr,x1,x2⟩:=h.fd i hi
  exact ⟨arr,hk.heap x1 (fun e=>by have:=(h.st.gl i hi).1;omega),x2⟩
theorem Out.map {w w':World} {m:Nat} {v:Value} (h:Out w m v) (hk:Kp (fun q=>q=m) w w'):Out w' m v:=by
 induction h with
 | nil=>exact .nil
 | cons b m' v hb hm h ho ih=>exact .cons b m' v hb hm (hk.heap h hb) ih
theorem IsBk.map {B:Nat} {w w':World} {m:Nat} (hk:Kp (fun q=>q=m) w w') {v:Value} {sc:List (List X.Nm)} (h:IsBk w B v sc) (ho:Out w m v):IsBk w' B v sc:=by
 induction h with
 | nil=>exact .nil
 | cons b m' k ns v sc hB hm' h hp ho' ih =>
  cases ho with
  | cons _ m2 v2 hb hm h' hoo =>
   rw [h] at h'
   cases h'
   exact .cons b m' k ns v sc hB hm' (hk.heap h hb) (hp.keep hk hm) (ih hoo)
theorem InP.step {lo hi:Nat} {ao:Option Addr} {ns:List X.Nm} {bv:Value} {sc:List (List X.Nm)} {b m j:Nat} {wr w2:World} (h:InP w w0 L fs M us lo hi ao ns bv sc b m j wr) (hv:Av L fs.length w0.heap.size lo hi) (h2:w0.heap.size≤b) (h3:w0.heap.size≤m) {us2:List X.U} (hr:Run w0 L fs M us2 w2) (hk:Kx L fs.length w0.heap.size wr w2) :
  Kx L fs.length w0.heap.size w w2∧IsNs w2 lo hi ao ns∧w2.heap[b]?=some (.cells #[.map (some m),bv] 283 (0,0))∧Mp w2 m j (X.first (ns.take j))∧IsBk w2 w0.heap.size bv sc∧Out w2 m bv:=by
 have hS:=hr.st.lt
 exact ⟨h.kx.trans hk,h.par.keep hk (hv.sx wr),hk.made hS h.bl h2 (fun cs d e=>by cases e),h.mp.kx hk hS h3,h.bk.keep hk hS,h.ot.keep hk hS h.bk⟩
set_option maxRecDepth 100000 in
set_option maxHeartbeats 4000000 in
theorem tparams_any (lo hi pb:Nat) (ns:List X.Nm) (bv:Value) (sc:List (List X.Nm)) (hv:Av L fs.length w0.heap.size lo hi) (hp:IsPar w lo hi pb ns) (hnB:∀ n∈ns,X.nmB 268435456 n) (h:Run w0 L fs M us w) (hbk:IsBk w w0.heap.size bv sc) (hlim:us.length+(X.parU L.tf [] ns).length≤1073741824) :
  Calls Tryz.prog 122 #[.pointer (some ⟨L.tb,0,none⟩),.pointer (some ⟨pb,0,none⟩),bv] w fun e w'=>∃ b,e=.returned (.pointer (some ⟨b,0,none⟩))∧Hid (Run w0 L fs M (us++X.parU L.tf [] ns) w'∧Kx L fs.length w0.heap.size w w'∧IsBk w' w0.heap.size (.pointer (some ⟨b,0,none⟩)) (ns::sc)):=by
 have hmm:=mkMapN
 have h0:=h.size
 have hbv:∃ pa,bv=.pointer pa:=by cases hbk<;>exact ⟨_,rfl⟩
 obtain ⟨pa,rfl⟩:=hbv
 have kA:Below w.heap.size w ((w.alloc (.map #[] 0)).alloc (.cells #[.map (some w.heap.size),.pointer pa] 283)):=((Below.refl _ w).alloc (Nat.le_refl _) _).alloc (by simp) _
 obtain ⟨ao,cap,hpb,hc1,hc2,hcs⟩:=hp.ex
 have hcs':IsNs w lo hi ao ns:=fun j n hj=>by obtain ⟨g,u1,u2,u3,u4,u5,-⟩:=hcs j n hj;exact ⟨g,u1,u2,u3,u4,u5⟩
 have HI0:Hid (InP w w0 L fs M us lo hi ao ns (.pointer pa) sc (w.heap.size+1) w.heap.size 0 ((w.alloc (.map #[] 0)).alloc (.cells #[.map (some w.heap.size),.pointer pa] 283))):=by
  refine ⟨?_,Kx.ofBelow kA,hcs'.keep (Kp.ofBelow kA (fun _=>False)) (fun _ _ _=>id),?_,?_,hbk.blw kA,(hbk.lt (by omega)).keep (Kx.ofBelow (L:=L) (n:=fs.length) (B:=w0.heap.size) kA) h.st.lt hbk⟩
  ·rw [List.take_zero,X.parU,List.append_nil];exact h.below kA
  ·have:=heap_alloc_new (w.alloc (.map #[] 0)) (.cells #[.map (some w.heap.size),.pointer pa] 283)
   simpa using this
  ·have:=(Mp.made w).below ((Below.refl _ _).alloc (Nat.le_refl _) (.cells #[.map (some w.heap.size),.pointer pa] 283))
   exact Mp.congr (g:=fun _=>none) this (fun _=>rfl)
 have hpl:=heap_lt hpb
 have p00:=cell_of_row w _ 0 _ _ _ hpb
 have p0:=kcb kA hpl p00
 have hcap:ns.length≤9223372036854775807:=by unfold maxLen at hc2;omega
 have HV:=hide hv
 have HB:=hide hnB
 clear kA hpb hcs hcs' hp h hbk hv hnB
 go_enter Tryz.func122,Tryz.ntmps122
 go_wp2_with fail
 generalize (w.alloc (.map #[] 0)).alloc (.cells #[.map (some w.heap.size),.pointer pa] 283)=W at *
 go_loopw [29] (fun v wr=>∃ j:Nat,v=.int .i64 j∧j≤ns.length∧Hid (InP w w0 L fs M us lo hi ao ns (.pointer pa) sc (w.heap.size+1) w.heap.size j wr)) (fun v _=>ns.length - (intOf v).toNat)
 case atStart=>exact ⟨0,rfl,Nat.zero_le _,HI0⟩
 case round =>
  obtain ⟨j,rfl,hj,HI⟩:=hrel
  clear HI0
  by_cases hjl:j<ns.length
  ·obtain ⟨n,hn⟩:∃ n,ns[j]?=some n:=⟨ns[j],List.getElem?_eq_getElem hjl⟩
   obtain ⟨g,e1,e2,e3,e4,e5⟩:=(HI.out).par j n hn
   subst e1
   obtain ⟨nB1,nB2⟩:=(HB.out) n (List.mem_of_getElem? hn)
   have hlen:n.1.length≤maxLen:=by unfold maxLen;omega
   have hi1:(j:Int)<(ns.length:Int):=by omega
   have kW:Below wr.heap.size wr (wr.alloc (.cells #[.string (ba n.1),.int .i64 n.2] 165)):=(Below.refl _ wr).alloc (Nat.le_refl _) _
   have HK1:=hide kW
   have R1:=(HI.out).run.below kW
   have hwr0:w0.heap.size≤wr.heap.size:=(HI.out).run.size
   have hwr2:w.heap.size+1<wr.heap.size:=heap_lt (HI.out).bl
   have b0:=kcb kW (by omega) (cell_of_row wr _ 0 _ _ _ (HI.out).bl)
   have hN0:=hide (heap_alloc_new wr (.cells #[.string (ba n.1),.int .i64 n.2] 165))
   have n0:=cell_of_row _ _ 0 _ _ _ hN0.out
   have n1:=cell_of_row _ _ 1 _ _ _ hN0.out
   have hrun:=((HI.out).mp.below (kW.drew)).run_ok hlen
   clear kW
   cases hfn:X.first (ns.take j) n.1 with
   | some i =>
    rw [hfn] at hrun
    have hrun':(Instr.lookup 85 (.map (some w.heap.size)) (.string (ba n.1)) true).run Tryz.prog (wr.alloc (.cells #[.string (ba n.1),.int .i64 n.2] 165)).drew=.ok (.tuple #[.int .i64 (i:Nat),.bool true]) (wr.alloc (.cells #[.string (ba n.1),.int .i64 n.2] 165)).drew:=hrun
    have hany:(if ([]++ns.take j).any (fun m=>m.1==n.1) then 5 else 0)=5:=by rw [List.nil_append,X.first_any,hfn];rfl
    have HU:Hid (us++X.parU L.tf [] (ns.take (j+1))=(us++X.parU L.tf [] (ns.take j))++X.ownU L.tf n 1 5):=by
     rw [X.take_snoc hn,X.parU_snoc,hany,List.append_assoc];exact hide rfl
    have hl2:(us++X.parU L.tf [] (ns.take j)).length+(X.ownU L.tf n 1 5).length≤1073741824:=by
     have e1:=congrArg List.length HU.out
     have e2:=X.parU_take L.tf ns (j+1)
     rw [List.length_append,List.length_append] at e1
     omega
    have HC:=hide (town_any n 1 5 (R1.below ((Below.refl _ _).drew)) hl2)
    clear hrun R1 hl2 hany
    go_wp2_with fail
    generalize hW1:wr.alloc (.cells #[.string (ba n.1),.int .i64 n.2] 165)=W1 at *
    go_region_held3 (fun w'=>w'.cell? ⟨w.heap.size+1,0,none⟩=some (.map (some w.heap.size))∧w'.cell? ⟨wr.heap.size,0,none⟩=some (.string (ba n.1))∧(Instr.lookup 85 (.map (some w.heap.size)) (.string (ba n.1)) true).run Tryz.prog w'=.ok (.tuple #[.int .i64 (i:Nat),.bool true]) w')
     (first|(with_reducible exact ⟨b0,n0,hrun'⟩)|go_keep)
     (fail)
    clear hrun'
    have n0d:W1.drew.cell? ⟨wr.heap.size,0,none⟩=some (.string (ba n.1)):=n0
    have n1d:W1.drew.cell? ⟨wr.heap.size,1,none⟩=some (.int .i64 n.2):=n1
    go_wp2_with fail
    refine (HC.out).mono ?_
    rintro e w2 ⟨rfl,H2⟩
    have hk2:Kx L fs.length w0.heap.size wr w2:=(Kx.ofBelow ((HK1.out).drew)).trans (H2.out).2
    obtain ⟨y1,y2,y4,y5,y6,y7⟩:=(HI.out).step HV.out (by omega) (by omega) (H2.out).1 hk2
    have hnm2:w2.heap[wr.heap.size]?=some (.cells #[.string (ba n.1),.int .i64 n.2] 165 (0,0)):=(H2.out).2.made (H2.out).1.st.lt hN0.out hwr0 (fun cs d e=>by cases e)
    clear HC n0d n1d n0 n1 b0 HK1
    have HI2:Hid (InP w w0 L fs M us lo hi (some ⟨g,0,none⟩) ns (.pointer pa) sc (w.heap.size+1) w.heap.size (j+1) w2):=by
     refine ⟨by rw [HU.out];exact (H2.out).1,y1,y2,y4,?_,y6,y7⟩
     obtain ⟨D,o1,o2⟩:=y5
     refine Mp.congr (g:=X.first (ns.take j)) ⟨D,o1.mono (by omega),o2⟩ (fun x=>?_)
     rw [X.take_snoc hn,X.first_snoc]
     cases hx:X.first (ns.take j) x with
     | some i=>rfl
     | none =>
      by_cases e:n.1=x
      ·rw [e,hx] at hfn;cases hfn
      ·simp [e]
    clear y1 y2 y4 y5 y6 y7 hnm2 hk2 H2 HI
    go_wp2_with fail
    exact ⟨⟨j+1,by simp,by omega,HI2⟩,by simp [intOf];omega⟩
   | none =>
    rw [hfn] at hrun
    have hrun':(Instr.lookup 85 (.map (some w.heap.size)) (.string (ba n.1)) true).run Tryz.prog (wr.alloc (.cells #[.string (ba n.1),.int .i64 n.2] 165)).drew=.ok (.tuple #[.int .i64 0,.bool false]) (wr.alloc (.cells #[.string (ba n.1),.int .i64 n.2] 165)).drew:=hrun
    have hany:(if ([]++ns.take j).any (fun m=>m.1==n.1) then 5 else 0)=0:=by rw [List.nil_append,X.first_any,hfn];rfl
    have HU:Hid (us++X.parU L.tf [] (ns.take (j+1))=(us++X.parU L.tf [] (ns.take j))++X.ownU L.tf n 1 0):=by
     rw [X.take_snoc hn,X.parU_snoc,hany,List.append_assoc];exact hide rfl
    have hl2:(us++X.parU L.tf [] (ns.take j)).length+(X.ownU L.tf n 1 0).length≤1073741824:=by
     have e1:=congrArg List.length HU.out
     have e2:=X.parU_take L.tf ns (j+1)
     rw [List.length_append,List.length_append] at e1
     omega
    have HC:=hide (town_any n 1 0 (R1.below ((Below.refl _ _).drew)) hl2)
    clear hrun R1 hl2 hany
    go_wp2_with fail
    generalize hW1:wr.alloc (.cells #[.string (ba n.1),.int .i64 n.2] 165)=W1 at *
    go_region_held3 (fun w'=>w'.cell? ⟨w.heap.size+1,0,none⟩=some (.map (some w.heap.size))∧w'.cell? ⟨wr.heap.size,0,none⟩=some (.string (ba n.1))∧(Instr.lookup 85 (.map (some w.heap.size)) (.string (ba n.1)) true).run Tryz.prog w'=.ok (.tuple #[.int .i64 0,.bool false]) w')
     (first|(with_reducible exact ⟨b0,n0,hrun'⟩)|go_keep)
     (fail)
    clear hrun'
    have n0d:W1.drew.cell? ⟨wr.heap.size,0,none⟩=some (.string (ba n.1)):=n0
    have n1d:W1.drew.cell? ⟨wr.heap.size,1,none⟩=some (.int .i64 n.2):=n1
    go_wp2_with fail
    refine (HC.out).mono ?_
    rintro e w2 ⟨rfl,H2⟩
    have hk2:Kx L fs.length w0.heap.size wr w2:=(Kx.ofBelow ((HK1.out).drew)).trans (H2.out).2
    obtain ⟨y1,y2,y4,y5,y6,y7⟩:=(HI.out).step HV.out (by omega) (by omega) (H2.out).1 hk2
    have hnm2:w2.heap[wr.heap.size]?=some (.cells #[.string (ba n.1),.int .i64 n.2] 165 (0,0)):=(H2.out).2.made (H2.out).1.st.lt hN0.out hwr0 (fun cs d e=>by cases e)
    clear HC n0d n1d n0 n1 b0 HK1
    have b0':=cell_of_row w2 _ 0 _ _ _ y4
    have q0:=cell_of_row w2 _ 0 _ _ _ hnm2
    have q1:=cell_of_row w2 _ 1 _ _ _ hnm2
    have hbl2:=heap_lt y4
    have hnl2:=heap_lt hnm2
    have HR2:=hide (H2.out).1
    have Y1:=hide y1
    have Y2:=hide y2
    have Y4:=hide y4
    have Y5:=hide y5
    have Y6:=hide y6
    have Y7:=hide y7
    clear y1 y2 y4 y5 y6 y7 hnm2 hk2 H2 HI
    go_wp2_with fail
    have hne1:¬(w.heap.size+1=w.heap.size):=by omega
    have HM5:Hid (Mp w2.drew w.heap.size j (X.first (ns.take j))):=(Y5.out).below ((Below.refl _ w2).drew)
    have hjm:j<maxLen:=by unfold maxLen;omega
    have hn2:n.2≤9223372036854775807:=by omega
    have hne2:¬(wr.heap.size=w.heap.size):=by have:=hwr2;omega
    refine wpTo_start (S:=fun w'=>w'.cell? ⟨w.heap.size+1,0,none⟩=some (.map (some w.heap.size))∧w'.cell? ⟨wr.heap.size,0,none⟩=some (.string (ba n.1))∧w'.cell? ⟨wr.heap.size,1,none⟩=some (.int .i64 n.2)) (z:=8) (by kernel_rfl) ?_
    have hS:w2.drew.cell? ⟨w.heap.size+1,0,none⟩=some (.map (some w.heap.size))∧w2.drew.cell? ⟨wr.heap.size,0,none⟩=some (.string (ba n.1))∧w2.drew.cell? ⟨wr.heap.size,1,none⟩=some (.int .i64 n.2):=⟨b0',q0,q1⟩
    iterate 8 (refine wpTo_nx0 (v:=?_) rfl rfl (by kernel_rfl) (by kernel_rfl) (by kernel_rfl) (by kernel_rfl) (fun _ _ _ h=>h) (Or.inl ⟨by rfl,?_⟩) hS ?_;rotate_left;(· (intro wx hSw;(try dsimp only at hSw);go_simp;try (with_reducible rfl)));simp only [Act.put,List.setIfInBounds_toArray,List.set_cons_zero,List.set_cons_succ])
    refine wpTo_one (i:=8) (by kernel_rfl) rfl (fun K hK=>?_)
    refine step_put_mp (by rfl) _ _ _ (by rfl) w.heap.size j (X.first (ns.take j)) (by rfl) HM5.out hjm n.1 hlen n.2 hn2 (by rfl) (by rfl) ?_
    intro w5 hmp5 hk5
    refine hK.out _ _ (fun h=>absurd rfl h) (fun _=>wpTo_end (by kernel_rfl) ?_)
    clear hK K hS
    have HI2:Hid (InP w w0 L fs M us lo hi (some ⟨g,0,none⟩) ns (.pointer pa) sc (w.heap.size+1) w.heap.size (j+1) w5):=by
     have hw0m:w0.heap.size≤w.heap.size:=by omega
     have hk25:Kp (fun q=>q=w.heap.size) w2 w5:=((Kp.refl _ w2).drew).trans hk5 (fun _ _ e=>e)
     have hav:∀ i,lo≤i→i<hi→¬(i=w.heap.size):=fun i _ hi' e=>by have:=(HV.out).top;omega
     have hr5:Run w0 L fs M (us++X.parU L.tf [] (ns.take (j+1))) w5:=by
      rw [HU.out]
      exact (HR2.out).map hk25 hw0m (Y5.out).obj
     have hkx5:Kx L fs.length w0.heap.size w w5:=Kp.trans Y1.out hk25 (fun i hi' e=>by omega)
     refine ⟨hr5,hkx5,(Y2.out).keep hk25 hav,hk25.heap Y4.out (by omega),?_,(Y6.out).map hk25 Y7.out,(Y7.out).map hk25⟩
     refine hmp5.congr (fun x=>?_)
     rw [X.take_snoc hn,X.first_snoc]
     unfold upd
     by_cases e:x=n.1
     ·subst e
      rw [if_pos rfl,hfn]
      simp
     ·rw [if_neg e]
      cases hx:X.first (ns.take j) x with
      | some i=>rfl
      | none=>simp [Ne.symm e]
    clear hmp5 hk5 b0' q0 q1 Y1 Y2 Y4 Y5 Y6 Y7 HR2
    go_wp2_with fail
    exact ⟨⟨j+1,by simp,by omega,HI2⟩,by simp [intOf];omega⟩
  ·obtain rfl:j=ns.length:=by omega
   have hd1:¬(ns.length:Int)<(ns.length:Int):=by omega
   have HF:Hid (Run w0 L fs M (us++X.parU L.tf [] ns) wr∧Kx L fs.length w0.heap.size w wr∧IsBk wr w0.heap.size (.pointer (some ⟨w.heap.size+1,0,none⟩)) (ns::sc)):=by
    have hin:=HI.out
    have e1:=hin.run
    have e2:=hin.mp
    rw [List.take_length] at e1 e2
    exact ⟨e1,hin.kx,.cons _ _ _ ns _ sc (by omega) (by omega) hin.bl e2 hin.bk⟩
   clear HI
   go_wp2_with fail
   go_ret
   exact ⟨_,rfl,HF⟩
end Go.Proofs.YtbmebfgapjhchaaGreatDoor
/- Package scope: what is wrong with the files of a workspace. -/
namespace Go.Proofs.YtbmebfgapjhchaaGreatDoor
open Go.RowKit
open M
structure AF where
 n:ByteArray
 t:ByteArray
def IsAF (w:World) (B:Nat) (ao:Option Addr) (l:List AF):Prop:=∀ (j:Nat) (a:AF),l[j]?=some a→∃ b o,ao=some ⟨b,o,none⟩∧b<B∧w.cell? ⟨b,o+j*2,none⟩=some (.string a.n)∧w.cell? ⟨b,o+j*2+1,none⟩=some (.string a.t)
theorem IsAF.below {w w':World} {B:Nat} {ao:Option Addr} {l:List AF} (h:IsAF w B ao l) (hk:Below B w w'):IsAF w' B ao l:=fun j a hj=>by
 obtain ⟨b,o,e1,e2,e3,e4⟩:=h j a hj
 exact ⟨b,o,e1,e2,(hk.cell (p:=⟨b,o+j*2,none⟩) e2).trans e3,(hk.cell (p:=⟨b,o+j*2+1,none⟩) e2).trans e4⟩
def nmOk (s:ByteArray):Bool:=decide (s.size≤40)&&aloneB (bs s) 3
def fltN:List AF→List (List UInt8)→Nat
 | [],_=>0
 | a::l,seen=>if nmOk a.n then (if bs a.n∈seen then 5 else fltN l (seen++[bs a.n])) else 4
def fltF (l:List AF):Nat:=if 16<l.length then 12 else if l.any (fun a=>decide (20000<a.t.size)) then 12 else fltN l []
def errV (r:Nat):Value:=if r=0 then .nilIface else .iface 34 (.int .i64 r)
theorem name_is (s:ByteArray) (w:World) (hT:Tabs w) (b:Bool) (hb:nmOk s=b):Calls Tryz.prog 10 #[.string s] w fun e w'=>e=.returned (.bool b)∧Below w.heap.size w w':=by
 subst hb
 by_cases h:s.size≤40
 ·exact lexname_any s w hT (by omega)
 ·have i1:decide ((s.size:Int)≤40)=false:=by simp;omega
  unfold nmOk
  rw [decide_eq_false h,Bool.false_and]
  go_enter Tryz.func10,Tryz.ntmps10
  go_wp2_with fail
  go_ret
  exact ⟨rfl,Below.refl _ _⟩
def idxN (l:List AF) (x:List UInt8):Option Nat:=l.findIdx? (fun a=>bs a.n==x)
theorem idxN_snoc {l:List AF} {j:Nat} {a:AF} (h:l[j]?=some a) (x:List UInt8):idxN (l.take (j+1)) x=match idxN (l.take j) x with|some i=>some i|none=>if bs a.n=x then some j else none:=by
 have hj:j<l.length:=by
  rcases Nat.lt_or_ge j l.length with g|g
  ·exact g
  ·rw [List.getElem?_eq_none g] at h;cases h
 unfold idxN
 rw [X.take_snoc h,List.findIdx?_append]
 cases hf:(l.take j).findIdx? (fun a=>bs a.n==x) with
 | some i=>simp
 | none =>
  by_cases e:bs a.n=x
  ·simp [List.findIdx?_cons,e,List.length_take]
   omega
  ·have e2:(bs a.n==x)=false:=by simpa using e
   simp [List.findIdx?_cons,e2,e]
theorem idxN_mem (l:List AF) (x:List UInt8):(idxN l x).isSome=true↔x∈l.map (fun a=>bs a.n):=by
 unfold idxN
 rw [List.findIdx?_isSome,List.any_eq_true,List.mem_map]
 constructor
 ·rintro ⟨a,h1,h2⟩;exact ⟨a,h1,by simpa using h2⟩
 ·rintro ⟨a,h1,h2⟩;exact ⟨a,h1,by simpa using h2⟩
def RestN (l:List AF) (j r:Nat):Prop:=fltN (l.drop j) ((l.take j).map (fun a=>bs a.n))=r
theorem RestN.next {l:List AF} {j r:Nat} {a:AF} (h:RestN l j r) (ha:l[j]?=some a):(nmOk a.n=false∧r=4)∨(nmOk a.n=true∧((∃ i,idxN (l.take j) (bs a.n)=some i)∧r=5∨(idxN (l.take j) (bs a.n)=none∧RestN l (j+1) r))):=by
 unfold RestN at h ⊢
 have hd:l.drop j=a::l.drop (j+1):=by
  have hj:j<l.length:=by
   rcases Nat.lt_or_ge j l.length with g|g
   ·exact g
   ·rw [List.getElem?_eq_none g] at ha;cases ha
  rw [List.drop_eq_getElem_cons hj]
  rw [List.getElem?_eq_getElem hj] at ha
  rw [Option.some.inj ha]
 rw [hd,fltN] at h
 cases hn:nmOk a.n with
 | false=>rw [hn] at h;left;exact ⟨rfl,by simpa using h.symm⟩
 | true =>
  rw [hn,if_pos rfl] at h
  right
  refine ⟨rfl,?_⟩
  cases hi:idxN (l.take j) (bs a.n) with
  | some i =>
   left
   have:bs a.n∈(l.take j).map (fun a=>bs a.n):=(idxN_mem _ _).1 (by rw [hi];rfl)
   rw [if_pos this] at h
   exact ⟨⟨i,rfl⟩,h.symm⟩
  | none =>
   right
   have:¬ bs a.n∈(l.take j).map (fun a=>bs a.n):=fun hm=>by
    have:=(idxN_mem _ _).2 hm
    rw [hi] at this;cases this
   rw [if_neg this] at h
   refine ⟨rfl,?_⟩
   rw [X.take_snoc ha,List.map_append]
   exact h
set_option maxRecDepth 100000 in
set_option maxHeartbeats 8000000 in
theorem fault_any (ao:Option Addr) (cap:Nat) (l:List AF) (w:World) (hT:Tabs w) (h:IsAF w w.heap.size ao l) (hl:l.length≤cap) (hc:cap≤maxLen) :
  Calls Tryz.prog 16 #[.slice ao l.length cap] w fun e w'=>e=.returned (errV (fltF l))∧Below w.heap.size w w':=by
 have hmm:∀ (t:TypeId) (w:World),(Instr.makeMap t none).run Tryz.prog w=.ok (.map (some w.heap.size)) (w.alloc (.map #[] 0)):=fun _ _=>rfl
 have HL:=hide h
 have HT:=hide hT
 have hcap:l.length≤9223372036854775807:=by unfold maxLen at hc;omega
 by_cases h16:16<l.length
 ·have e1:fltF l=12:=if_pos h16
  rw [e1]
  have d1:((l.length:Int)>16):=by omega
  have d2:(16:Int)<(l.length:Int):=by omega
  clear h hT
  go_enter Tryz.func16,Tryz.ntmps16
  go_wp2_with fail
  go_ret
  exact ⟨rfl,Below.refl _ w⟩
 ·have d1:¬(16:Int)<(l.length:Int):=by omega
  generalize hR:fltF l=r
  have HR:Hid ((if l.any (fun a=>decide (20000<a.t.size)) then 12 else fltN l [])=r):=by
   rw [← hR]
   exact (if_neg h16).symm
  clear h hT hR
  go_enter Tryz.func16,Tryz.ntmps16
  go_wp2_with fail
  go_loopw [16] (fun v wr=>∃ j:Nat,v=.int .i64 j∧j≤l.length∧Hid ((l.take j).any (fun a=>decide (20000<a.t.size))=false)∧Hid (Below w.heap.size w wr)) (fun v _=>l.length - (intOf v).toNat)
  case atStart=>exact ⟨0,rfl,Nat.zero_le _,hide rfl,Below.refl _ w⟩
  case round =>
   obtain ⟨j,rfl,hj,HA,HB⟩:=hrel
   by_cases hjl:j<l.length
   ·obtain ⟨a,ha⟩:∃ a,l[j]?=some a:=⟨l[j],List.getElem?_eq_getElem hjl⟩
    obtain ⟨b,o,e1,e2,e3,e4⟩:=(HL.out).below HB.out j a ha
    subst e1
    have hi1:(j:Int)<(l.length:Int):=by omega
    have hbl:b<wr.heap.size:=Nat.lt_of_lt_of_le e2 (HB.out).size
    by_cases hq:20000<a.t.size
    ·have hq2:(20000:Int)<(a.t.size:Int):=by omega
     have HF:Hid (r=12):=by
      rw [← HR.out]
      have:l.any (fun a=>decide (20000<a.t.size))=true:=List.any_eq_true.2 ⟨a,List.mem_of_getElem? ha,by simpa using hq⟩
      rw [this];exact hide rfl
     have HB2:Hid (Below w.heap.size w (wr.alloc (.cells #[.string a.n,.string a.t] 39))):=(HB.out).alloc (HB.out).size _
     clear HA HB HR
     go_wp2_with fail
     go_ret
     exact ⟨by rw [HF.out];rfl,HB2.out⟩
    ·have hq2:¬(20000:Int)<(a.t.size:Int):=by omega
     have HA2:Hid ((l.take (j+1)).any (fun a=>decide (20000<a.t.size))=false):=by
      rw [X.take_snoc ha,List.any_append,HA.out]
      exact hide (by simpa using hq)
     have HB2:Hid (Below w.heap.size w (wr.alloc (.cells #[.string a.n,.string a.t] 39))):=(HB.out).alloc (HB.out).size _
     clear HA HB
     go_wp2_with fail
     exact ⟨⟨j+1,by simp,by omega,HA2,HB2⟩,by simp [intOf];omega⟩
   ·obtain rfl:j=l.length:=by omega
    have hd1:¬(l.length:Int)<(l.length:Int):=by omega
    have HR2:Hid (RestN l 0 r):=by
     have h1:=HA.out
     rw [List.take_length] at h1
     have h2:=HR.out
     rw [h1] at h2
     exact h2
    clear HA HR
    go_wp2_with fail
    have HI0:Hid (Below w.heap.size w (wr.alloc (.map #[] 0))∧Mp (wr.alloc (.map #[] 0)) wr.heap.size 0 (idxN (l.take 0))):=⟨(HB.out).alloc (HB.out).size _,(Mp.made wr).congr (fun x=>by rw [List.take_zero];rfl)⟩
    have hwm:w.heap.size≤wr.heap.size:=(HB.out).size
    clear HB hmm
    generalize wr.heap.size=m at *
    generalize wr.alloc (.map #[] 0)=W0 at *
    go_loopw [29] (fun v wr2=>∃ j:Nat,v=.int .i64 j∧j≤l.length∧Hid (RestN l j r)∧Hid (Below w.heap.size w wr2∧Mp wr2 m j (idxN (l.take j)))) (fun v _=>l.length - (intOf v).toNat)
    case atStart=>exact ⟨0,rfl,Nat.zero_le _,HR2,HI0⟩
    case round =>
     obtain ⟨j,rfl,hj,HR3,HI⟩:=hrel
     clear HI0 HR2
     by_cases hjl:j<l.length
     ·obtain ⟨a,ha⟩:∃ a,l[j]?=some a:=⟨l[j],List.getElem?_eq_getElem hjl⟩
      obtain ⟨b,o,e1,e2,e3,e4⟩:=(HL.out).below (HI.out).1 j a ha
      subst e1
      have hi1:(j:Int)<(l.length:Int):=by omega
      have hcs:=(HR3.out).next ha
      have kF:Below w.heap.size w (wr.alloc (.cells #[.string a.n,.string a.t] 39)):=(HI.out).1.alloc (HI.out).1.size _
      have hTw:Tabs (wr.alloc (.cells #[.string a.n,.string a.t] 39)):=(HT.out).below kF
      have hF0:=heap_alloc_new wr (.cells #[.string a.n,.string a.t] 39)
      have hwr1:(wr.alloc (.cells #[.string a.n,.string a.t] 39)).heap.size=wr.heap.size+1:=by simp
      have n0:=cell_of_row _ _ 0 _ _ _ hF0
      have hmp1:=(HI.out).2.below ((Below.refl _ wr).alloc (Nat.le_refl _) (.cells #[.string a.n,.string a.t] 39))
      have HKF:=hide kF
      have HM1:=hide hmp1
      have HF0:=hide hF0
      clear kF hmp1 HI hF0
      rcases hcs with ⟨hn,hr⟩|⟨hn,hcs⟩
      ·have HC:=hide (name_is a.n _ hTw false hn)
       have HRr:=hide hr
       clear hTw hn hr HM1
       go_wp2_with fail
       refine (HC.out).mono ?_
       rintro e w3 ⟨rfl,B3⟩
       have HF:Hid (Below w.heap.size w w3):=(HKF.out).trans (B3.mono (HKF.out).size)
       clear B3 HC n0
       go_wp2_with fail
       go_ret
       exact ⟨by rw [HRr.out];rfl,HF.out⟩
      ·have HC:=hide (name_is a.n _ hTw true hn)
       have hlen:(bs a.n).length≤maxLen:=by
        unfold nmOk at hn
        rw [bs_len]
        unfold maxLen
        have:a.n.size≤40:=by simp at hn;exact hn.1
        omega
       have HCS:=hide hcs
       clear hTw hn hcs
       go_wp2_with fail
       refine (HC.out).mono ?_
       rintro e w3 ⟨rfl,B3⟩
       have hm3:=(HM1.out).below B3
       have hrun:=hm3.run_ok hlen
       rw [ba_bs] at hrun
       have n03:=kcb B3 (by omega) n0
       have HK3:Hid (Below w.heap.size w w3):=(HKF.out).trans (B3.mono (HKF.out).size)
       have HM3:=hide hm3
       clear HC B3 hm3 HM1 HKF HF0 n0
       rcases HCS.out with ⟨⟨i,hi⟩,hr⟩|⟨hi,hr⟩
       ·rw [hi] at hrun
        have hrun':(Instr.lookup 85 (.map (some m)) (.string a.n) true).run Tryz.prog w3=.ok (.tuple #[.int .i64 (i:Nat),.bool true]) w3:=hrun
        have HRr:=hide hr
        clear hrun hi hr HCS HM3
        go_wp2_with fail
        go_ret
        exact ⟨by rw [HRr.out];rfl,(HK3.out)⟩
       ·rw [hi] at hrun
        have hrun':(Instr.lookup 85 (.map (some m)) (.string a.n) true).run Tryz.prog w3=.ok (.tuple #[.int .i64 0,.bool false]) w3:=hrun
        have HRr:=hide hr
        have HI3:=hide hi
        have hjm:j<maxLen:=by unfold maxLen;omega
        obtain ⟨w4,hp1,hp2,hp3⟩:=(HM3.out).run_put hjm hlen (i:=j) (by omega)
        rw [ba_bs] at hp1
        have HI4:Hid (Below w.heap.size w w4∧Mp w4 m (j+1) (idxN (l.take (j+1)))):=by
         refine ⟨(HK3.out).trans (hp3.below (HK3.out).size (fun q e=>by omega)),hp2.congr (fun x=>?_)⟩
         rw [idxN_snoc ha]
         unfold upd
         by_cases e:x=bs a.n
         ·subst e
          rw [if_pos rfl,HI3.out]
          show _=if _ then _ else _
          rw [if_pos rfl]
         ·rw [if_neg e]
          cases hx:idxN (l.take j) x with
          | some i=>rfl
          | none =>
           show _=if _ then _ else _
           rw [if_neg (fun e2=>e e2.symm)]
        clear hrun hi hr HCS HM3 hp2 hp3 HK3
        go_wp2_with fail
        exact ⟨⟨j+1,by simp,by omega,HRr,HI4⟩,by simp [intOf];omega⟩
     ·obtain rfl:j=l.length:=by omega
      have hd2:¬(l.length:Int)<(l.length:Int):=by omega
      have HF:Hid (r=0∧Below w.heap.size w wr):=by
       have h1:=HR3.out
       unfold RestN at h1
       rw [List.drop_length,fltN] at h1
       exact ⟨h1.symm,(HI.out).1⟩
      clear HI HR3
      go_wp2_with fail
      go_ret
      exact ⟨by rw [(HF.out).1];rfl,(HF.out).2⟩
end Go.Proofs.YtbmebfgapjhchaaGreatDoor
