/- Package scope: the name of an NVar. -/
import Derived.Test.YtbmebfgapjhchaaGreatDoorJh
import Derived.Test.YtbmebfgapjhchaaGreatDoorJe
namespace Go.Proofs.YtbmebfgapjhchaaGreatDoor
open Go.RowKit
open M
variable {w0:World} {L:Lay} {fs:List X.Fl} {M:Mem} {us:List X.U} {w:World}
theorem fldTo (a b c d:Int) (w:World):(Instr.field 205 (.agg #[.int .i64 a,.int .i64 b,.int .i64 c,.int .i64 d]) 1).run Tryz.prog w=.ok (.agg #[.int .i64 b,.int .i64 c]) w:=by kernel_rfl
def Tld (w0:World) (L:Lay) (fs:List X.Fl) (us:List X.U) (w w':World):Prop:=∃ M',Run w0 L fs M' us w'∧MOk fs M'∧Idle M'∧Kx L fs.length w0.heap.size w w'
theorem find_is (B:Nat) (bv:Value) (sc:List (List X.Nm)) (x:List UInt8) (w:World) (h:IsBk w B bv sc) (hx:x.length≤maxLen) (r:Option Nat) (hr:X.sight sc x=r) :
  Calls Tryz.prog 152 #[bv,.string (ba x)] w fun e w'=>e=.returned (.tuple #[.int .i64 ((r.getD 0:Nat):Int),.bool r.isSome])∧w'=w:=by
 subst hr
 exact find_any B bv sc x w h hx
set_option maxRecDepth 100000 in
set_option maxHeartbeats 4000000 in
theorem tvariable_any (hf:L.tf<fs.length) (n:X.Nm) (hnB:X.nmB 268435456 n) (bv:Value) (sc:List (List X.Nm)) (h:Run w0 L fs M us w) (hM:MOk fs M) (hId:Idle M) (hbk:IsBk w w0.heap.size bv sc) (tl:List X.U) (htl:X.exU L.tf (X.topA fs L.tf) sc (.var n)=tl) (hlim:us.length+tl.length≤1073741824) :
  Calls Tryz.prog 136 #[.pointer (some ⟨L.tb,0,none⟩),.agg #[.string (ba n.1),.int .i64 n.2],bv] w fun e w'=>e=.returned (.tuple #[])∧Hid (Tld w0 L fs (us++tl) w w'):=by
 have kA:Below w.heap.size w (w.alloc (.cells #[.string (ba n.1),.int .i64 n.2] 165)):=(Below.refl _ w).alloc (Nat.le_refl _) _
 have h1:=h.below kA
 have hb1:=hbk.blw kA
 have hN:=heap_alloc_new w (.cells #[.string (ba n.1),.int .i64 n.2] 165)
 obtain ⟨k1,k2⟩:=hnB
 have hlen:n.1.length≤maxLen:=by unfold maxLen;omega
 have hn16:=h.st.n
 have h0:=h.size
 have hi1:(L.tf:Int)<(fs.length:Int):=by omega
 have HS:=hide h.st.lt
 rw [X.exU] at htl
 have HKA:=hide kA
 have HMo:=hide hM
 have HId:=hide hId
 clear kA h hbk hM hId
 cases hsg:X.sight sc n.1 with
 | some i =>
  rw [hsg] at htl
  have htl':X.tellU L.tf n 6 (L.tf,i,0)=tl:=htl
  have HC:=hide (find_is w0.heap.size bv sc n.1 _ hb1 hlen (some i) hsg)
  have HA:=hide (tadd_any n 6 L.tf i 0 (h1.below (Below.refl _ _).drew) (by rw [htl'];exact hlim))
  obtain ⟨nv,-,t1,-⟩:=h1.cells
  clear hb1 h1
  go_enter Tryz.func136,Tryz.ntmps136
  go_wp2_with fail
  refine (HC.out).mono ?_
  rintro e w2 ⟨rfl,rfl⟩
  generalize w.alloc (.cells #[.string (ba n.1),.int .i64 n.2] 165)=W at *
  have n0:=cell_of_row W _ 0 _ _ _ hN
  have n1:=cell_of_row W _ 1 _ _ _ hN
  have e1:((some i).getD 0:Nat)=i:=rfl
  rw [e1]
  have e2:(some i).isSome=true:=rfl
  rw [e2]
  clear HC
  go_wp2_with fail
  refine wpTo_start (S:=fun w'=>w'.cell? ⟨L.tb,1,none⟩=some (.int .i64 L.tf)∧w'.cell? ⟨w.heap.size,0,none⟩=some (.string (ba n.1))∧w'.cell? ⟨w.heap.size,1,none⟩=some (.int .i64 n.2)) (z:=9) (by kernel_rfl) ?_
  have hS:W.drew.cell? ⟨L.tb,1,none⟩=some (.int .i64 L.tf)∧W.drew.cell? ⟨w.heap.size,0,none⟩=some (.string (ba n.1))∧W.drew.cell? ⟨w.heap.size,1,none⟩=some (.int .i64 n.2):=⟨t1,n0,n1⟩
  iterate 8 (refine wpTo_nx (v:=?_) rfl rfl (by kernel_rfl) (by decide) (by kernel_rfl) (by kernel_rfl) (fun _ _ _ h=>h) (Or.inl ⟨by rfl,?_⟩) hS ?_;rotate_left;(· (intro wx hSw;(try dsimp only at hSw);go_simp;try (with_reducible rfl)));simp only [Act.put,List.setIfInBounds_toArray,List.set_cons_zero,List.set_cons_succ])
  refine wpTo_one (i:=8) (by kernel_rfl) rfl (fun K hK=>?_)
  go_simp
  refine (HA.out).mono ?_
  rintro e w3 ⟨rfl,H3⟩
  have hN3:=(H3.out).2.made (b:=w.heap.size) HS.out hN h0 (fun cs d e=>by cases e)
  obtain ⟨nv3,-,u1,-⟩:=(H3.out).1.cells
  have HF:Hid (Tld w0 L fs (us++tl) w w3):=by
   rw [← htl']
   exact ⟨M,(H3.out).1,HMo.out,HId.out,(Kx.ofBelow (HKA.out).drew).trans (H3.out).2⟩
  dsimp only
  refine hK.out _ _ (fun _=>⟨u1,cell_of_row w3 _ 0 _ _ _ hN3,cell_of_row w3 _ 1 _ _ _ hN3⟩) (fun _=>wpTo_end (by kernel_rfl) ?_)
  clear hK K hS HA H3 t1 n0 n1 u1 hN3
  go_wp2_with fail
  go_end0
  exact ⟨rfl,HF⟩
 | none =>
  rw [hsg] at htl
  have htl0:X.tellU L.tf n 6 (X.topA fs L.tf n.1)=tl:=htl
  have HC:=hide (find_is w0.heap.size bv sc n.1 _ hb1 hlen none hsg)
  obtain ⟨kk,hmp⟩:=(h1.below ((Below.refl _ _).drew)).named hf
  have hrun:=hmp.run_ok hlen
  obtain ⟨nv,t0,t1,-⟩:=h1.cells
  obtain ⟨-,c1⟩:=h1.wsp
  obtain ⟨fg,fcap,d1,d2,d3,d4⟩:=h1.files hf
  rw [d1] at c1
  have g1:=cell_of_row _ _ 1 _ _ _ (h1.file hf)
  have HR:=hide h1
  clear hb1 h1 hmp d1 htl
  cases htp:X.topI (X.itemsOf fs L.tf) n.1 with
  | none =>
   rw [htp] at hrun
   have hrun':(Instr.lookup 85 (.map (some (L.nb L.tf))) (.string (ba n.1)) true).run Tryz.prog (w.alloc (.cells #[.string (ba n.1),.int .i64 n.2] 165)).drew=.ok (.tuple #[.int .i64 0,.bool false]) (w.alloc (.cells #[.string (ba n.1),.int .i64 n.2] 165)).drew:=hrun
   clear hrun
   go_enter Tryz.func136,Tryz.ntmps136
   go_wp2_with fail
   refine (HC.out).mono ?_
   rintro e w2 ⟨rfl,rfl⟩
   generalize w.alloc (.cells #[.string (ba n.1),.int .i64 n.2] 165)=W at *
   have n0:=cell_of_row W _ 0 _ _ _ hN
   have n1:=cell_of_row W _ 1 _ _ _ hN
   have hNl:=heap_lt hN
   have e1:((none:Option Nat).getD 0:Nat)=0:=rfl
   rw [e1]
   have e2:(none:Option Nat).isSome=false:=rfl
   rw [e2]
   clear HC
   go_wp2_with fail
   go_region_held3 (fun w'=>w'.cell? ⟨L.tb,0,none⟩=some (.pointer (some ⟨L.wb,0,none⟩))∧w'.cell? ⟨L.tb,1,none⟩=some (.int .i64 L.tf)∧w'.cell? ⟨L.wb,1,none⟩=some (.slice (some ⟨fg,0,none⟩) fs.length fcap)∧w'.cell? ⟨fg,L.tf,none⟩=some (.pointer (some ⟨L.fb L.tf,0,none⟩))∧w'.cell? ⟨L.fb L.tf,1,none⟩=some (.map (some (L.nb L.tf)))∧w'.cell? ⟨w.heap.size,0,none⟩=some (.string (ba n.1))∧(Instr.lookup 85 (.map (some (L.nb L.tf))) (.string (ba n.1)) true).run Tryz.prog w'=.ok (.tuple #[.int .i64 0,.bool false]) w')
    (first|(with_reducible exact ⟨t0,t1,c1,d4,g1,n0,hrun'⟩)|go_keep)
    (fail)
   have hKW:Below w.heap.size w W.drew:=(HKA.out).drew
   have HR2:Hid (Run w0 L fs M us W.drew):=(HR.out).below ((Below.refl _ W).drew)
   have t0':W.drew.cell? ⟨L.tb,0,none⟩=some (.pointer (some ⟨L.wb,0,none⟩)):=t0
   have t1':W.drew.cell? ⟨L.tb,1,none⟩=some (.int .i64 L.tf):=t1
   have n0':W.drew.cell? ⟨w.heap.size,0,none⟩=some (.string (ba n.1)):=n0
   have n1':W.drew.cell? ⟨w.heap.size,1,none⟩=some (.int .i64 n.2):=n1
   have hNd:W.drew.heap[w.heap.size]?=some (.cells #[.string (ba n.1),.int .i64 n.2] 165 (0,0)):=hN
   have hNl':w.heap.size<W.drew.heap.size:=hNl
   clear hrun' t0 t1 n0 n1 c1 d4 g1 hN hNl HR HKA
   generalize W.drew=Wd at *
   go_wp2_with fail
   have htl':X.tellU L.tf n 6 (-1,-1,4)=tl:=by rw [← htl0,X.topA,htp]
   refine wpTo_start (S:=fun w'=>w'.cell? ⟨w.heap.size,0,none⟩=some (.string (ba n.1))∧w'.cell? ⟨w.heap.size,1,none⟩=some (.int .i64 n.2)) (z:=3) (by kernel_rfl) ?_
   have hS:Wd.drew.cell? ⟨w.heap.size,0,none⟩=some (.string (ba n.1))∧Wd.drew.cell? ⟨w.heap.size,1,none⟩=some (.int .i64 n.2):=⟨n0',n1'⟩
   iterate 2 (refine wpTo_nx0 (v:=?_) rfl rfl (by kernel_rfl) (by kernel_rfl) (by kernel_rfl) (by kernel_rfl) (fun _ _ _ h=>h) (Or.inl ⟨by rfl,?_⟩) hS ?_;rotate_left;(· (intro wx hSw;(try dsimp only at hSw);go_simp;try (with_reducible rfl)));simp only [Act.put,List.setIfInBounds_toArray,List.set_cons_zero,List.set_cons_succ])
   refine wpTo_one (i:=2) (by kernel_rfl) rfl (fun K hK=>?_)
   go_simp
   refine (nowhere_any _).mono ?_
   rintro e w3 ⟨rfl,B3⟩
   have HR3:Hid (Run w0 L fs M us w3):=(HR2.out).below (((Below.refl _ Wd).drew).trans B3)
   have HK3:Hid (Below w.heap.size w w3):=hKW.trans ((((Below.refl _ Wd).drew).trans B3).mono hKW.size)
   go_simp
   refine hK.out _ _ (fun _=>⟨kcb B3 hNl' hS.1,kcb B3 hNl' hS.2⟩) (fun hS2=>?_)
   clear hS hK K
   have hS:=hS2 (by decide)
   clear hS2
   refine wpTo_one (i:=3) (by kernel_rfl) rfl (fun K hK=>?_)
   go_simp
   refine (tadd_any n 6 (-1) (-1) 4 HR3.out (by rw [htl'];exact hlim)).mono ?_
   rintro e w4 ⟨rfl,H4⟩
   go_simp
   refine hK.out _ _ (fun h=>absurd rfl h) (fun _=>wpTo_end (by kernel_rfl) ?_)
   clear hK K hS
   have HF:Hid (Tld w0 L fs (us++tl) w w4):=by
    rw [← htl']
    exact ⟨M,(H4.out).1,HMo.out,HId.out,(Kx.ofBelow HK3.out).trans (H4.out).2⟩
   clear H4
   go_wp2_with fail
   go_end0
   exact ⟨rfl,HF⟩
  | some k =>
   rw [htp] at hrun
   have hrun':(Instr.lookup 85 (.map (some (L.nb L.tf))) (.string (ba n.1)) true).run Tryz.prog (w.alloc (.cells #[.string (ba n.1),.int .i64 n.2] 165)).drew=.ok (.tuple #[.int .i64 (k:Nat),.bool true]) (w.alloc (.cells #[.string (ba n.1),.int .i64 n.2] 165)).drew:=hrun
   clear hrun
   go_enter Tryz.func136,Tryz.ntmps136
   go_wp2_with fail
   refine (HC.out).mono ?_
   rintro e w2 ⟨rfl,rfl⟩
   generalize w.alloc (.cells #[.string (ba n.1),.int .i64 n.2] 165)=W at *
   have n0:=cell_of_row W _ 0 _ _ _ hN
   have n1:=cell_of_row W _ 1 _ _ _ hN
   have hNl:=heap_lt hN
   have e1:((none:Option Nat).getD 0:Nat)=0:=rfl
   rw [e1]
   have e2:(none:Option Nat).isSome=false:=rfl
   rw [e2]
   clear HC
   go_wp2_with fail
   go_region_held3 (fun w'=>w'.cell? ⟨L.tb,0,none⟩=some (.pointer (some ⟨L.wb,0,none⟩))∧w'.cell? ⟨L.tb,1,none⟩=some (.int .i64 L.tf)∧w'.cell? ⟨L.wb,1,none⟩=some (.slice (some ⟨fg,0,none⟩) fs.length fcap)∧w'.cell? ⟨fg,L.tf,none⟩=some (.pointer (some ⟨L.fb L.tf,0,none⟩))∧w'.cell? ⟨L.fb L.tf,1,none⟩=some (.map (some (L.nb L.tf)))∧w'.cell? ⟨w.heap.size,0,none⟩=some (.string (ba n.1))∧(Instr.lookup 85 (.map (some (L.nb L.tf))) (.string (ba n.1)) true).run Tryz.prog w'=.ok (.tuple #[.int .i64 (k:Nat),.bool true]) w')
    (first|(with_reducible exact ⟨t0,t1,c1,d4,g1,n0,hrun'⟩)|go_keep)
    (fail)
   have hKW:Below w.heap.size w W.drew:=(HKA.out).drew
   have HR2:Hid (Run w0 L fs M us W.drew):=(HR.out).below ((Below.refl _ W).drew)
   have t0':W.drew.cell? ⟨L.tb,0,none⟩=some (.pointer (some ⟨L.wb,0,none⟩)):=t0
   have t1':W.drew.cell? ⟨L.tb,1,none⟩=some (.int .i64 L.tf):=t1
   have n0':W.drew.cell? ⟨w.heap.size,0,none⟩=some (.string (ba n.1)):=n0
   have n1':W.drew.cell? ⟨w.heap.size,1,none⟩=some (.int .i64 n.2):=n1
   have hNd:W.drew.heap[w.heap.size]?=some (.cells #[.string (ba n.1),.int .i64 n.2] 165 (0,0)):=hN
   have hNl':w.heap.size<W.drew.heap.size:=hNl
   clear hrun' t0 t1 n0 n1 c1 d4 g1 hN hNl HR HKA
   generalize W.drew=Wd at *
   go_wp2_with fail
   have htl':X.tellU L.tf n 6 ((X.ansI fs (X.usesN fs) L.tf k).1,(X.ansI fs (X.usesN fs) L.tf k).2.1,0)=tl:=by rw [← htl0,X.topA,htp]
   obtain ⟨it,hit,-⟩:=X.topI_name htp
   have hfl:=fldTo
   refine wpTo_start (S:=fun w'=>w'.cell? ⟨L.tb,0,none⟩=some (.pointer (some ⟨L.wb,0,none⟩))∧w'.cell? ⟨L.tb,1,none⟩=some (.int .i64 L.tf)∧w'.cell? ⟨w.heap.size,0,none⟩=some (.string (ba n.1))∧w'.cell? ⟨w.heap.size,1,none⟩=some (.int .i64 n.2)) (z:=14) (by kernel_rfl) ?_
   have hS:Wd.drew.cell? ⟨L.tb,0,none⟩=some (.pointer (some ⟨L.wb,0,none⟩))∧Wd.drew.cell? ⟨L.tb,1,none⟩=some (.int .i64 L.tf)∧Wd.drew.cell? ⟨w.heap.size,0,none⟩=some (.string (ba n.1))∧Wd.drew.cell? ⟨w.heap.size,1,none⟩=some (.int .i64 n.2):=⟨t0',t1',n0',n1'⟩
   iterate 11 (refine wpTo_nx (v:=?_) rfl rfl (by kernel_rfl) (by decide) (by kernel_rfl) (by kernel_rfl) (fun _ _ _ h=>h) (Or.inl ⟨by rfl,?_⟩) hS ?_;rotate_left;(· (intro wx hSw;(try dsimp only at hSw);go_simp;try (with_reducible rfl)));simp only [Act.put,List.setIfInBounds_toArray,List.set_cons_zero,List.set_cons_succ])
   refine wpTo_one (i:=11) (by kernel_rfl) rfl (fun K hK=>?_)
   go_simp
   refine (kitem_any L.tf k it ((HR2.out).below ((Below.refl _ Wd).drew)) HMo.out HId.out hit).mono ?_
   rintro e w3 ⟨rfl,H3⟩
   obtain ⟨M3,x1,x2,x3,x4⟩:=H3.out
   have hN3:w3.heap[w.heap.size]?=some (.cells #[.string (ba n.1),.int .i64 n.2] 165 (0,0)):=x4.made HS.out hNd h0 (fun cs d e=>by cases e)
   have HX3:Hid (Kx L fs.length w0.heap.size w w3):=(Kx.ofBelow (hKW.drew)).trans x4
   obtain ⟨nv3,u0,u1,-⟩:=x1.cells
   dsimp only
   refine hK.out _ _ (fun _=>⟨u0,u1,cell_of_row w3 _ 0 _ _ _ hN3,cell_of_row w3 _ 1 _ _ _ hN3⟩) (fun hS2=>?_)
   clear hS hK K
   have hS:=hS2 (by decide)
   clear hS2
   generalize hAn:(X.ansI fs (X.usesN fs) L.tf k)=an at *
   iterate 1 (refine wpTo_nx (v:=?_) rfl rfl (by kernel_rfl) (by decide) (by kernel_rfl) (by kernel_rfl) (fun _ _ _ h=>h) (Or.inl ⟨by rfl,?_⟩) hS ?_;rotate_left;(· (intro wx hSw;(try dsimp only at hSw);go_simp;try (with_reducible rfl)));simp only [Act.put,List.setIfInBounds_toArray,List.set_cons_zero,List.set_cons_succ])
   refine wpTo_one (i:=13) (by kernel_rfl) rfl (fun K hK=>?_)
   go_simp
   refine (tadd_any n 6 an.1 an.2.1 0 x1 (by rw [htl'];exact hlim)).mono ?_
   rintro e w4 ⟨rfl,H4⟩
   have hN4:=(H4.out).2.made HS.out hN3 h0 (fun cs d e=>by cases e)
   obtain ⟨nv4,v0,v1,-⟩:=(H4.out).1.cells
   have HF:Hid (Tld w0 L fs (us++tl) w w4):=by
    rw [← htl']
    exact ⟨M3,(H4.out).1,x2,x3,(HX3.out).trans (H4.out).2⟩
   dsimp only
   refine hK.out _ _ (fun _=>⟨v0,v1,cell_of_row w4 _ 0 _ _ _ hN4,cell_of_row w4 _ 1 _ _ _ hN4⟩) (fun _=>wpTo_end (by kernel_rfl) ?_)
   clear hK K hS H4 x1 x2 x3 x4 hN3 hN4 u0 u1 v0 v1
   go_wp2_with fail
   go_end0
   exact ⟨rfl,HF⟩
end Go.Proofs.YtbmebfgapjhchaaGreatDoor
/- Package scope: a let. -/
namespace Go.Proofs.YtbmebfgapjhchaaGreatDoor
open Go.RowKit
open M
variable {w0:World} {L:Lay} {fs:List X.Fl} {M:Mem} {us:List X.U} {w:World}
def TexOk (w0:World) (L:Lay) (fs:List X.Fl) (lo hi:Nat) (e:X.Ex):Prop:=∀ (M:Mem) (us:List X.U) (w:World) (v bv:Value) (sc:List (List X.Nm)),Run w0 L fs M us w→MOk fs M→Idle M→IsE w lo hi v e→IsBk w w0.heap.size bv sc→us.length+(X.exU L.tf (X.topA fs L.tf) sc e).length≤1073741824 →
 Calls Tryz.prog 121 #[.pointer (some ⟨L.tb,0,none⟩),v,bv] w fun en w'=>en=.returned (.tuple #[])∧Hid (Tld w0 L fs (us++X.exU L.tf (X.topA fs L.tf) sc e) w w')
theorem first_one (n:X.Nm) (x:List UInt8):X.first [n] x=upd (fun _=>none) n.1 n.2 x:=by
 unfold X.first upd
 by_cases e:x=n.1
 ·subst e;simp
 ·have:(n.1==x)=false:=by simpa using Ne.symm e
  simp [this,e]
theorem IsBk.ptr {B:Nat} {w:World} {v:Value} {sc:List (List X.Nm)} (h:IsBk w B v sc):∃ pa,v=.pointer pa:=by cases h<;>exact ⟨_,rfl⟩
theorem mkMap (t:TypeId) (w:World):(Instr.makeMap t none).run Tryz.prog w=.ok (.map (some w.heap.size)) (w.alloc (.map #[] 0)):=rfl
set_option maxRecDepth 100000 in
set_option maxHeartbeats 8000000 in
theorem tlet_any {m0 n0:Int} {z0:Bool} (lo hi lb:Nat) (n:X.Nm) (v1 v2 bv:Value) (e1 e2:X.Ex) (sc:List (List X.Nm)) (hv:Av L fs.length w0.heap.size lo hi) (h1:TexOk w0 L fs lo hi e1) (h2:TexOk w0 L fs lo hi e2) (hnB:X.nmB 268435456 n) (hlb:lo≤lb∧lb<hi)
  (hl:w.heap[lb]?=some (.cells #[.int .i64 m0,.int .i64 n0,.bool z0,.string (ba n.1),.int .i64 n.2,v1,v2] 285 (0,0))) (q1:IsE w lo hi v1 e1) (q2:IsE w lo hi v2 e2) (h:Run w0 L fs M us w) (hM:MOk fs M) (hId:Idle M) (hbk:IsBk w w0.heap.size bv sc) (hlim:us.length+(X.exU L.tf (X.topA fs L.tf) sc (.lett n e1 e2)).length≤1073741824) :
  Calls Tryz.prog 137 #[.pointer (some ⟨L.tb,0,none⟩),.pointer (some ⟨lb,0,none⟩),bv] w fun en w'=>en=.returned (.tuple #[])∧Hid (Tld w0 L fs (us++X.exU L.tf (X.topA fs L.tf) sc (.lett n e1 e2)) w w'):=by
 obtain ⟨y1,g1,rfl⟩:=q1.iface
 obtain ⟨y2,g2,rfl⟩:=q2.iface
 obtain ⟨pa,rfl⟩:=hbk.ptr
 have hmm:=mkMap
 have h0:=h.size
 have hlw:lb<w0.heap.size:=by have:=hv.top;omega
 obtain ⟨nB1,nB2⟩:=hnB
 have hlen:n.1.length≤maxLen:=by unfold maxLen;omega
 have hn2:n.2≤9223372036854775807:=by omega
 have hS:=h.st.lt
 have hul:X.exU L.tf (X.topA fs L.tf) sc (.lett n e1 e2)=X.ownU L.tf n 2 0++(X.exU L.tf (X.topA fs L.tf) sc e1++X.exU L.tf (X.topA fs L.tf) ([n]::sc) e2):=by rw [X.exU]
 rw [hul] at hlim ⊢
 generalize hE1:X.exU L.tf (X.topA fs L.tf) sc e1=E1 at *
 generalize hE2:X.exU L.tf (X.topA fs L.tf) ([n]::sc) e2=E2 at *
 rw [List.length_append,List.length_append] at hlim
 have HV:=hide hv
 have HB:=hide hbk
 have Q1:=hide q1
 have Q2:=hide q2
 have HL:=hide hl
 have HR:=hide h
 have HM:=hide hM
 have HI:=hide hId
 have H1:=hide h1
 have H2:=hide h2
 have HE1:=hide hE1
 have HE2:=hide hE2
 have HC1:=hide (town_any n 2 0 HR.out (by omega))
 have l0:=cell_of_row w _ 3 _ _ _ hl
 have l1:=cell_of_row w _ 4 _ _ _ hl
 clear hv hbk q1 q2 hl h hM hId h1 h2 hE1 hE2 hul
 go_enter Tryz.func137,Tryz.ntmps137
 go_wp2_with fail
 refine (HC1.out).mono ?_
 rintro e w2 ⟨rfl,X2⟩
 have kx2:=(X2.out).2
 have hl2:=Kp.heap kx2 HL.out ((HV.out).sx w lb hlb.1 hlb.2)
 have HL2:=hide hl2
 have l22:=cell_of_row w2 _ 5 _ _ _ hl2
 have Q12:=hide ((Q1.out).keep kx2 ((HV.out).sx w))
 have Q22:=hide ((Q2.out).keep kx2 ((HV.out).sx w))
 have HB2:=hide ((HB.out).keep kx2 hS)
 have HR2:=hide (X2.out).1
 have KX2:=hide kx2
 have HC2:=hide ((H1.out) M _ w2 _ _ sc HR2.out HM.out HI.out Q12.out HB2.out (by rw [HE1.out,List.length_append];omega))
 clear hl2 kx2 X2 l0 l1 HC1 Q1 Q2 HB HL HR Q12
 go_wp2_with fail
 refine (HC2.out).mono ?_
 rintro e w3 ⟨rfl,X3⟩
 obtain ⟨M3,r3,m3,i3,kx3⟩:=X3.out
 have hl3:=Kp.heap kx3 HL2.out ((HV.out).sx w2 lb hlb.1 hlb.2)
 have HL3:=hide hl3
 have l03:=cell_of_row w3 _ 3 _ _ _ hl3
 have l13:=cell_of_row w3 _ 4 _ _ _ hl3
 have l33:=cell_of_row w3 _ 6 _ _ _ hl3
 have Q23:=hide ((Q22.out).keep kx3 ((HV.out).sx w2))
 have HB3:=hide ((HB2.out).keep kx3 hS)
 have HR3:=hide r3
 have HM3:=hide m3
 have HI3:=hide i3
 have KX3:Hid (Kx L fs.length w0.heap.size w w3):=(KX2.out).trans kx3
 clear hl3 kx3 X3 r3 m3 i3 HC2 l22 Q22 HB2 HR2 HL2 KX2
 obtain ⟨w5,hri,hm5,hk5⟩:=(Mp.made w3.drew).run_put (by unfold maxLen;omega) (k:=n.1) hlen (i:=n.2) hn2
 have hri':(Instr.mapUpdate 85 (.map (some w3.heap.size)) (.string (ba n.1)) (.int .i64 n.2)).run Tryz.prog (w3.alloc (.map #[] 0)).drew=.ok () w5:=hri
 have hz3:w3.heap.size<(w3.drew.alloc (.map #[] 0)).heap.size:=by show w3.heap.size<(w3.drew.alloc (.map #[] 0)).heap.size;rw [World.size_alloc];exact Nat.lt_succ_self _
 have hz5:w3.heap.size<w5.heap.size:=Nat.lt_of_lt_of_le hz3 hk5.size
 have hk35:Kp (fun q=>q=w3.heap.size) w3 w5:=Kp.trans (((Kp.refl _ w3).drew).alloc _) hk5 (fun _ _ e=>e)
 have hw3:w0.heap.size≤w3.heap.size:=(HR3.out).size
 have hne:∀ q,q<w3.heap.size→¬ q=w3.heap.size:=fun q hq e=>by omega
 have hl5:=hk35.heap HL3.out (hne _ (by omega))
 have kB:Below w5.heap.size w5 (w5.alloc (.cells #[.map (some w3.heap.size),.pointer pa] 283)):=(Below.refl _ w5).alloc (Nat.le_refl _) _
 have hR5:Run w0 L fs M3 _ w5:=Run.map ((HR3.out).below (((Below.refl _ w3).drew).alloc (Nat.le_refl _) (.map #[] 0))) hk5 hw3 (Mp.obj (Mp.made w3.drew))
 have hkx5:Kx L fs.length w0.heap.size w3 w5:=hk35.mono (fun q hq e=>by omega)
 have hkx6:Kx L fs.length w0.heap.size w3 (w5.alloc (.cells #[.map (some w3.heap.size),.pointer pa] 283)):=hkx5.trans (Kx.ofBelow kB)
 have hb6:(w5.alloc (.cells #[.map (some w3.heap.size),.pointer pa] 283)).heap[w5.heap.size]?=some (.cells #[.map (some w3.heap.size),.pointer pa] 283 (0,0)):=heap_alloc_new w5 _
 have hB6:IsBk (w5.alloc (.cells #[.map (some w3.heap.size),.pointer pa] 283)) w0.heap.size (.pointer (some ⟨w5.heap.size,0,none⟩)) ([n]::sc) :=
  .cons _ _ _ [n] _ sc (by omega) hw3 hb6 ((hm5.below kB).congr (fun x=>(first_one n x).symm)) ((HB3.out).keep hkx6 hS)
 have HC3:=hide ((H2.out) M3 _ _ _ _ ([n]::sc) (hR5.below kB) HM3.out HI3.out ((Q23.out).keep hkx6 ((HV.out).sx w3)) hB6 (by rw [HE2.out,List.length_append,List.length_append,HE1.out];omega))
 have HL6:=hide ((Kp.ofBelow kB (fun _=>False)).heap hl5 id)
 have HK6:=hide hkx6
 have l05:=cell_of_row w5 _ 3 _ _ _ hl5
 have l15:=cell_of_row w5 _ 4 _ _ _ hl5
 have l35:=cell_of_row w5 _ 6 _ _ _ hl5
 have l06:=cell_of_row _ _ 3 _ _ _ HL6.out
 have l16:=cell_of_row _ _ 4 _ _ _ HL6.out
 have l36:=cell_of_row _ _ 6 _ _ _ HL6.out
 have l04:=Lib.cell?_alloc_some (.map #[] 0) l03
 have l14:=Lib.cell?_alloc_some (.map #[] 0) l13
 have l34:=Lib.cell?_alloc_some (.map #[] 0) l33
 clear hm5 hk5 hz3 hk35 hl5 kB hR5 hkx5 hkx6 hb6 hB6 hne
 go_wp2_with fail
 go_region_held3 (fun w'=>w'.cell? ⟨lb,3,none⟩=some (.string (ba n.1))∧w'.cell? ⟨lb,4,none⟩=some (.int .i64 n.2)∧w'.cell? ⟨lb,6,none⟩=some (.iface y2 (.pointer (some ⟨g2,0,none⟩))))
  (first|(with_reducible exact ⟨l03,l13,l33⟩)|(with_reducible exact ⟨l04,l14,l34⟩)|(with_reducible exact ⟨l05,l15,l35⟩)|(with_reducible exact ⟨l06,l16,l36⟩)|(with_reducible exact ⟨l07,l17,l37⟩)|go_keep)
  ((go_at_call 121;refine (HC3.out).mono ?_;rintro e w7 ⟨rfl,X7⟩;obtain ⟨M7,r7,m7,i7,x7⟩:=X7.out;have hl7:=Kp.heap x7 HL6.out ((HV.out).sx _ lb hlb.1 hlb.2);have l07:=cell_of_row w7 _ 3 _ _ _ hl7;have l17:=cell_of_row w7 _ 4 _ _ _ hl7;have l37:=cell_of_row w7 _ 6 _ _ _ hl7))
 have HF:Hid (Tld w0 L fs (us++(X.ownU L.tf n 2 0++(E1++E2))) w w7):=by
  refine ⟨M7,?_,m7,i7,((KX3.out).trans HK6.out).trans x7⟩
  rw [HE1.out,HE2.out] at r7
  simpa [List.append_assoc] using r7
 clear X7 r7 m7 i7 x7 hl7 l07 l17 l37
 go_wp2_with fail
 go_end0
 exact ⟨rfl,HF⟩
end Go.Proofs.YtbmebfgapjhchaaGreatDoor
/- Package scope: the names in an expression: NVar,NLet,NFun;all kinds. -/
namespace Go.Proofs.YtbmebfgapjhchaaGreatDoor
open Go.RowKit
open M
variable {w0:World} {L:Lay} {fs:List X.Fl} {M:Mem} {us:List X.U} {w:World}
theorem asVarV (b:Nat) (w:World):(Instr.typeAssert (.iface 262 (.pointer (some ⟨b,0,none⟩))) 180 262 true).run Tryz.prog w=.ok (.tuple #[.pointer (some ⟨b,0,none⟩),.bool true]) w:=by kernel_rfl
theorem asLetV (b:Nat) (w:World):(Instr.typeAssert (.iface 243 (.pointer (some ⟨b,0,none⟩))) 180 262 true).run Tryz.prog w=.ok (.tuple #[.pointer none,.bool false]) w:=by kernel_rfl
theorem asLetL (b:Nat) (w:World):(Instr.typeAssert (.iface 243 (.pointer (some ⟨b,0,none⟩))) 180 243 true).run Tryz.prog w=.ok (.tuple #[.pointer (some ⟨b,0,none⟩),.bool true]) w:=by kernel_rfl
theorem asFunV (b:Nat) (w:World):(Instr.typeAssert (.iface 250 (.pointer (some ⟨b,0,none⟩))) 180 262 true).run Tryz.prog w=.ok (.tuple #[.pointer none,.bool false]) w:=by kernel_rfl
theorem asFunL (b:Nat) (w:World):(Instr.typeAssert (.iface 250 (.pointer (some ⟨b,0,none⟩))) 180 243 true).run Tryz.prog w=.ok (.tuple #[.pointer none,.bool false]) w:=by kernel_rfl
theorem asFunF (b:Nat) (w:World):(Instr.typeAssert (.iface 250 (.pointer (some ⟨b,0,none⟩))) 180 250 true).run Tryz.prog w=.ok (.tuple #[.pointer (some ⟨b,0,none⟩),.bool true]) w:=by kernel_rfl
set_option maxRecDepth 100000 in
set_option maxHeartbeats 4000000 in
theorem texprVar {m0 n0:Int} {z0:Bool} (b:Nat) (n:X.Nm) (sc:List (List X.Nm)) (bv:Value) (hf:L.tf<fs.length) (hnB:X.nmB 268435456 n) (hcell:w.heap[b]?=some (.cells #[.int .i64 m0,.int .i64 n0,.bool z0,.string (ba n.1),.int .i64 n.2] 264 (0,0)))
  (h:Run w0 L fs M us w) (hM:MOk fs M) (hId:Idle M) (hbk:IsBk w w0.heap.size bv sc) (hlim:us.length+(X.exU L.tf (X.topA fs L.tf) sc (.var n)).length≤1073741824) :
  Calls Tryz.prog 121 #[.pointer (some ⟨L.tb,0,none⟩),.iface 262 (.pointer (some ⟨b,0,none⟩)),bv] w fun en w'=>en=.returned (.tuple #[])∧Hid (Tld w0 L fs (us++X.exU L.tf (X.topA fs L.tf) sc (.var n)) w w'):=by
 have av:=asVarV b
 have v0:=cell_of_row w _ 3 _ _ _ hcell
 have v1:=cell_of_row w _ 4 _ _ _ hcell
 have HC:=hide (tvariable_any hf n hnB bv sc h hM hId hbk _ rfl hlim)
 clear hcell h hM hId hbk hlim
 go_enter Tryz.func121,Tryz.ntmps121
 go_wp2_with fail
 refine (HC.out).mono ?_
 rintro e w2 ⟨rfl,X2⟩
 clear HC
 go_wp2_with fail
 go_end0
 exact ⟨rfl,X2⟩
set_option maxRecDepth 100000 in
set_option maxHeartbeats 4000000 in
theorem texprLet {m0 n0:Int} {z0:Bool} (lo hi b:Nat) (n:X.Nm) (v1 v2:Value) (e1 e2:X.Ex) (sc:List (List X.Nm)) (bv:Value) (hv:Av L fs.length w0.heap.size lo hi) (h1:TexOk w0 L fs lo hi e1) (h2:TexOk w0 L fs lo hi e2) (hnB:X.nmB 268435456 n) (hb:lo≤b∧b<hi) (hcell:w.heap[b]?=some (.cells #[.int .i64 m0,.int .i64 n0,.bool z0,.string (ba n.1),.int .i64 n.2,v1,v2] 285 (0,0))) (q1:IsE w lo hi v1 e1) (q2:IsE w lo hi v2 e2)
  (h:Run w0 L fs M us w) (hM:MOk fs M) (hId:Idle M) (hbk:IsBk w w0.heap.size bv sc) (hlim:us.length+(X.exU L.tf (X.topA fs L.tf) sc (.lett n e1 e2)).length≤1073741824) :
  Calls Tryz.prog 121 #[.pointer (some ⟨L.tb,0,none⟩),.iface 243 (.pointer (some ⟨b,0,none⟩)),bv] w fun en w'=>en=.returned (.tuple #[])∧Hid (Tld w0 L fs (us++X.exU L.tf (X.topA fs L.tf) sc (.lett n e1 e2)) w w'):=by
 have av:=asLetV b
 have al:=asLetL b
 have HC:=hide (tlet_any lo hi b n v1 v2 bv e1 e2 sc hv h1 h2 hnB hb hcell q1 q2 h hM hId hbk hlim)
 clear hcell h hM hId hbk hlim hv h1 h2 q1 q2
 go_enter Tryz.func121,Tryz.ntmps121
 go_wp2_with fail
 refine (HC.out).mono ?_
 rintro e w2 ⟨rfl,X2⟩
 clear HC
 go_wp2_with fail
 go_end0
 exact ⟨rfl,X2⟩
set_option maxRecDepth 100000 in
set_option maxHeartbeats 4000000 in
theorem texprFun {m0 n0:Int} {z0:Bool} (lo hi b pb:Nat) (ns:List X.Nm) (v1:Value) (e1:X.Ex) (sc:List (List X.Nm)) (bv:Value) (hv:Av L fs.length w0.heap.size lo hi) (h1:TexOk w0 L fs lo hi e1) (hnB:∀ n∈ns,X.nmB 268435456 n) (hb:lo≤b∧b<hi) (hcell:w.heap[b]?=some (.cells #[.int .i64 m0,.int .i64 n0,.bool z0,.pointer (some ⟨pb,0,none⟩),v1] 281 (0,0))) (hp:IsPar w lo hi pb ns) (q1:IsE w lo hi v1 e1)
  (h:Run w0 L fs M us w) (hM:MOk fs M) (hId:Idle M) (hbk:IsBk w w0.heap.size bv sc) (hlim:us.length+(X.exU L.tf (X.topA fs L.tf) sc (.fn ns e1)).length≤1073741824) :
  Calls Tryz.prog 121 #[.pointer (some ⟨L.tb,0,none⟩),.iface 250 (.pointer (some ⟨b,0,none⟩)),bv] w fun en w'=>en=.returned (.tuple #[])∧Hid (Tld w0 L fs (us++X.exU L.tf (X.topA fs L.tf) sc (.fn ns e1)) w w'):=by
 have av:=asFunV b
 have al:=asFunL b
 have af:=asFunF b
 obtain ⟨y1,g1,rfl⟩:=q1.iface
 have kD:Below w.heap.size w w.drew:=(Below.refl _ w).drew
 have v0:=cell_of_row w _ 3 _ _ _ hcell
 have v1:=cell_of_row w _ 4 _ _ _ hcell
 have hkd:=Kp.ofBelow kD (fun _=>False)
 have hul:X.exU L.tf (X.topA fs L.tf) sc (.fn ns e1)=X.parU L.tf [] ns++X.exU L.tf (X.topA fs L.tf) (ns::sc) e1:=by rw [X.exU]
 rw [hul] at hlim ⊢
 rw [List.length_append] at hlim
 have HC:=hide (tparams_any lo hi pb ns bv sc hv (hp.keep hkd (fun _ _ _=>id)) hnB (h.below kD) (hbk.blw kD) (by omega))
 have HC2:Hid (∀ w2 bp,Run w0 L fs M (us++X.parU L.tf [] ns) w2→IsE w2 lo hi (.iface y1 (.pointer (some ⟨g1,0,none⟩))) e1→IsBk w2 w0.heap.size bp (ns::sc)→Calls Tryz.prog 121 #[.pointer (some ⟨L.tb,0,none⟩),.iface y1 (.pointer (some ⟨g1,0,none⟩)),bp] w2 fun en w'=>en=.returned (.tuple #[])∧Hid (Tld w0 L fs ((us++X.parU L.tf [] ns)++X.exU L.tf (X.topA fs L.tf) (ns::sc) e1) w2 w')):=fun w2 bp hr he hb2=>h1 M _ w2 _ bp (ns::sc) hr hM hId he hb2 (by rw [List.length_append];omega)
 have HV:=hide hv
 have HCL:=hide hcell
 have HQ:=hide (q1.keep hkd (fun _ _ _=>id))
 clear kD hcell h hM hId hbk hlim hv hkd h1 q1 hp hul hnB
 go_enter Tryz.func121,Tryz.ntmps121
 go_wp2_with fail
 refine wpTo_start (S:=fun w'=>w'.cell? ⟨b,3,none⟩=some (.pointer (some ⟨pb,0,none⟩))∧w'.cell? ⟨b,4,none⟩=some (.iface y1 (.pointer (some ⟨g1,0,none⟩)))) (z:=13) (by kernel_rfl) ?_
 have hS:w.drew.cell? ⟨b,3,none⟩=some (.pointer (some ⟨pb,0,none⟩))∧w.drew.cell? ⟨b,4,none⟩=some (.iface y1 (.pointer (some ⟨g1,0,none⟩))):=⟨v0,v1⟩
 iterate 11 (refine wpTo_nx (v:=?_) rfl rfl (by kernel_rfl) (by decide) (by kernel_rfl) (by kernel_rfl) (fun _ _ _ h=>h) (Or.inl ⟨by rfl,?_⟩) hS ?_;rotate_left;(· (intro wx hSw;(try dsimp only at hSw);go_simp;try (with_reducible rfl)));simp only [Act.put,List.setIfInBounds_toArray,List.set_cons_zero,List.set_cons_succ])
 refine wpTo_one (i:=11) (by kernel_rfl) rfl (fun K hK=>?_)
 go_simp
 refine (HC.out).mono ?_
 rintro e w2 ⟨nb,rfl,X2⟩
 have x2:Kx L fs.length w0.heap.size w w2:=(Kx.ofBelow (Below.refl _ w).drew).trans (X2.out).2.1
 have hc2:=Kp.heap x2 HCL.out ((HV.out).sx _ b hb.1 hb.2)
 have HC3:=hide ((HC2.out) w2 _ (X2.out).1 ((HQ.out).keep (X2.out).2.1 ((HV.out).sx _)) (X2.out).2.2)
 dsimp only
 refine hK.out _ _ (fun _=>⟨cell_of_row w2 _ 3 _ _ _ hc2,cell_of_row w2 _ 4 _ _ _ hc2⟩) (fun hS2=>?_)
 clear hS hK K HC
 have hS:=hS2 (by decide)
 clear hS2
 refine wpTo_one (i:=12) (by kernel_rfl) rfl (fun K hK=>?_)
 go_simp
 refine (HC3.out).mono ?_
 rintro e w3 ⟨rfl,X3⟩
 obtain ⟨M3,r3,m3,i3,x3⟩:=X3.out
 have hc3:=Kp.heap x3 hc2 ((HV.out).sx _ b hb.1 hb.2)
 have HF:Hid (Tld w0 L fs (us++(X.parU L.tf [] ns++X.exU L.tf (X.topA fs L.tf) (ns::sc) e1)) w w3):=by
  refine ⟨M3,?_,m3,i3,x2.trans x3⟩
  rw [← List.append_assoc];exact r3
 dsimp only
 refine hK.out _ _ (fun _=>⟨cell_of_row w3 _ 3 _ _ _ hc3,cell_of_row w3 _ 4 _ _ _ hc3⟩) (fun _=>wpTo_end (by kernel_rfl) ?_)
 clear hK K hS X2 x2 hc2 X3 r3 m3 i3 x3 hc3 HC3 v0 v1
 go_wp2_with fail
 go_end0
 exact ⟨rfl,HF⟩
end Go.Proofs.YtbmebfgapjhchaaGreatDoor
