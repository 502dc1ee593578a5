/- Package change: the name at a place (nameAt);files are opened (open). -/
import Derived.Test.YtbmebfgapjhchaaGreatDoorCgn
import Derived.Test.YtbmebfgapjhchaaGreatDoorCgk
import Derived.Test.YtbmebfgapjhchaaGreatDoorJx
import Derived.Test.YtbmebfgapjhchaaGreatDoorEdFb
namespace Go.Proofs.YtbmebfgapjhchaaGreatDoor
open Go.RowKit
open M
theorem us_owns {w:World} {B:Nat} {na:Option Addr} {nc:Nat} {us:List X.U} (h:w.ownsRow B 36 6 (.slice na us.length nc) us.length (uvs us)):IsUs w w.heap.size na us:=by
 intro j u hu
 obtain ⟨g,_,e,-,-,hl,c0,c1,c2,c3,c4,c5⟩:=use_cells h hu
 cases e
 refine ⟨g,0,rfl,hl,?_,?_,?_,?_,?_,?_⟩<;>rw [Nat.zero_add]
 ·exact c0
 ·exact c1
 ·exact c2
 ·exact c3
 ·exact c4
 ·exact c5
variable {w:World} {wb B:Nat} {ao:Option Addr} {cap:Nat} {l:List AF} {rv nv:Value} {us:List X.U}
set_option maxRecDepth 100000 in
set_option maxHeartbeats 2000000 in
theorem nameAt_ws (h:IsWs w wb B ao cap l rv nv us) (hT:Tabs w) (hul:us.length≤1048576) (f:Nat) (fa:AF) (a:Int) (hfa:l[f]?=some fa) (hfs:fa.t.size≤1048576) (hU:∀ u∈us,∃ a,l[u.f]?=some a∧u.i<a.t.size) :
  Calls Tryz.prog 9 #[.pointer (some ⟨wb,0,none⟩),.int .i64 f,.int .i64 a] w fun e w'=>e=.returned (.tuple #[.agg #[.int .i64 ((atU l us f a).getD u0).f,.int .i64 ((atU l us f a).getD u0).i,.int .i64 ((atU l us f a).getD u0).s,.int .i64 ((atU l us f a).getD u0).tf,.int .i64 ((atU l us f a).getD u0).tt,.int .i64 ((atU l us f a).getD u0).e],.bool (atU l us f a).isSome])∧Below w.heap.size w w':=by
 have kA:Below w.heap.size w (w.alloc (.cells #[.int .i64 0,.int .i64 0,.int .i64 0,.int .i64 0,.int .i64 0,.int .i64 0] 36)):=(Below.refl _ w).alloc (Nat.le_refl _) _
 have hZ:=heap_alloc_new w (.cells #[.int .i64 0,.int .i64 0,.int .i64 0,.int .i64 0,.int .i64 0,.int .i64 0] 36)
 have hW:=h.below kA
 have hTW:=hT.below kA
 have hwb:wb<w.heap.size:=heap_lt h.blk
 have hsw:(w.alloc (.cells #[.int .i64 0,.int .i64 0,.int .i64 0,.int .i64 0,.int .i64 0,.int .i64 0] 36)).heap.size=w.heap.size+1:=by simp
 obtain ⟨na,nc,rfl⟩:∃ na nc,nv=.slice na us.length nc:=by
  rcases (h.nms).2 with ⟨e,h0⟩|⟨g',cap,cur,e,-⟩
  ·exact ⟨none,0,by rw [h0];exact e⟩
  ·exact ⟨_,_,e⟩
 have hnc:us.length≤nc:=by
  rcases (h.nms).2 with ⟨e,h0⟩|⟨g',cap,cur,e,_,_,hn,-⟩
  ·omega
  ·cases e;exact hn
 obtain ⟨b,o,rfl,hb,e1,e2⟩:=h.af f fa hfa
 have b2:w.cell? ⟨wb,2,none⟩=some (.slice na us.length nc):=cell_of_row _ _ 2 _ _ _ h.blk
 have b0:w.cell? ⟨wb,0,none⟩=some (.slice (some ⟨b,o,none⟩) l.length cap):=cell_of_row _ _ 0 _ _ _ h.blk
 have HB3:=hide (And.intro b2 (And.intro b0 e2))
 clear b2 b0
 have c2:(w.alloc (.cells #[.int .i64 0,.int .i64 0,.int .i64 0,.int .i64 0,.int .i64 0,.int .i64 0] 36)).cell? ⟨wb,2,none⟩=some (.slice na us.length nc):=cell_of_row _ _ 2 _ _ _ hW.blk
 have c0:(w.alloc (.cells #[.int .i64 0,.int .i64 0,.int .i64 0,.int .i64 0,.int .i64 0,.int .i64 0] 36)).cell? ⟨wb,0,none⟩=some (.slice (some ⟨b,o,none⟩) l.length cap):=cell_of_row _ _ 0 _ _ _ hW.blk
 have c3:(w.alloc (.cells #[.int .i64 0,.int .i64 0,.int .i64 0,.int .i64 0,.int .i64 0,.int .i64 0] 36)).cell? ⟨b,o+f*2+1,none⟩=some (.string fa.t):=kcb kA hb e2
 have hfl:f<l.length:=by
  rcases Nat.lt_or_ge f l.length with g|g
  ·exact g
  ·rw [List.getElem?_eq_none g] at hfa;cases hfa
 have i1:(f:Int)<(l.length:Int):=by omega
 have hID:IsUs (w.alloc (.cells #[.int .i64 0,.int .i64 0,.int .i64 0,.int .i64 0,.int .i64 0,.int .i64 0] 36)).drew (w.alloc (.cells #[.int .i64 0,.int .i64 0,.int .i64 0,.int .i64 0,.int .i64 0,.int .i64 0] 36)).drew.heap.size na us:=us_owns hW.nms
 have HC:=hide (at_any l us na nc f fa a (w.alloc (.cells #[.int .i64 0,.int .i64 0,.int .i64 0,.int .i64 0,.int .i64 0,.int .i64 0] 36)).drew hID (hTW.below ((Below.refl _ _).drew)) (by omega) hnc hfa hfs (fun u hu e=>by
  obtain ⟨a',h1,h2⟩:=hU u hu
  rw [e,hfa] at h1
  obtain rfl:=Option.some.inj h1
  exact h2))
 generalize hR:atU l us f a=R at *
 generalize hV:R.getD u0=V at *
 generalize hO:R.isSome=ok at *
 have HZ:=hide hZ
 have HK:=hide kA
 clear h hT hU hW hTW hID hZ kA hR hV hO e1 e2
 go_enter Tryz.func9,Tryz.ntmps9
 go_wp2_with fail
 refine wpTo_start (S:=fun w'=>w'.cell? ⟨wb,2,none⟩=some (.slice na us.length nc)∧w'.cell? ⟨wb,0,none⟩=some (.slice (some ⟨b,o,none⟩) l.length cap)∧w'.cell? ⟨b,o+f*2+1,none⟩=some (.string fa.t)) (z:=19) (by kernel_rfl) ?_
 have hS:(w.alloc (.cells #[.int .i64 0,.int .i64 0,.int .i64 0,.int .i64 0,.int .i64 0,.int .i64 0] 36)).drew.cell? ⟨wb,2,none⟩=some (.slice na us.length nc)∧(w.alloc (.cells #[.int .i64 0,.int .i64 0,.int .i64 0,.int .i64 0,.int .i64 0,.int .i64 0] 36)).drew.cell? ⟨wb,0,none⟩=some (.slice (some ⟨b,o,none⟩) l.length cap)∧(w.alloc (.cells #[.int .i64 0,.int .i64 0,.int .i64 0,.int .i64 0,.int .i64 0,.int .i64 0] 36)).drew.cell? ⟨b,o+f*2+1,none⟩=some (.string fa.t):=⟨c2,c0,c3⟩
 iterate 14 (refine wpTo_nx (v:=?_) rfl rfl (by kernel_rfl) (by decide) (by kernel_rfl) (by kernel_rfl) (fun _ _ _ h=>h) (Or.inl ⟨by rfl,?_⟩) hS ?_;rotate_left;(· (intro wx hSw;(try dsimp only at hSw);go_simp;try (with_reducible rfl)));simp only [Act.put,List.setIfInBounds_toArray,List.set_cons_zero,List.set_cons_succ])
 refine wpTo_one (i:=14) (by kernel_rfl) rfl (fun K hK=>?_)
 go_simp
 refine (HC.out).mono ?_
 rintro e w5 ⟨rfl,B5⟩
 have B5':Below (w.alloc (.cells #[.int .i64 0,.int .i64 0,.int .i64 0,.int .i64 0,.int .i64 0,.int .i64 0] 36)).heap.size (w.alloc (.cells #[.int .i64 0,.int .i64 0,.int .i64 0,.int .i64 0,.int .i64 0,.int .i64 0] 36)) w5:=((Below.refl _ _).drew).trans B5
 have hS2:w5.cell? ⟨wb,2,none⟩=some (.slice na us.length nc)∧w5.cell? ⟨wb,0,none⟩=some (.slice (some ⟨b,o,none⟩) l.length cap)∧w5.cell? ⟨b,o+f*2+1,none⟩=some (.string fa.t):=⟨kcb B5' (by omega) c2,kcb B5' (by omega) c0,kcb B5' (by omega) c3⟩
 have HZ5:=hide ((Kp.ofBelow B5' (fun _=>False)).heap HZ.out id)
 have HB5:Hid (Below w.heap.size w w5):=(HK.out).trans (B5'.mono (HK.out).size)
 dsimp only
 refine hK.out _ _ (fun _=>hS2) (fun _=>?_)
 clear hK K hS B5 B5' HC c0 c2 c3
 have hS:=hS2
 have z0:=cell_of_row w5 _ 0 _ _ _ HZ5.out
 have y0:=frozen_of_row w5 _ 0 _ _ HZ5.out
 have z1:=cell_of_row w5 _ 1 _ _ _ HZ5.out
 have y1:=frozen_of_row w5 _ 1 _ _ HZ5.out
 have z2:=cell_of_row w5 _ 2 _ _ _ HZ5.out
 have y2:=frozen_of_row w5 _ 2 _ _ HZ5.out
 have z3:=cell_of_row w5 _ 3 _ _ _ HZ5.out
 have y3:=frozen_of_row w5 _ 3 _ _ HZ5.out
 have z4:=cell_of_row w5 _ 4 _ _ _ HZ5.out
 have y4:=frozen_of_row w5 _ 4 _ _ HZ5.out
 have z5:=cell_of_row w5 _ 5 _ _ _ HZ5.out
 have y5:=frozen_of_row w5 _ 5 _ _ HZ5.out
 iterate 2 (refine wpTo_nx (v:=?_) rfl rfl (by kernel_rfl) (by decide) (by kernel_rfl) (by kernel_rfl) (fun _ _ _ h=>h) (Or.inl ⟨by rfl,?_⟩) hS ?_;rotate_left;(· (intro wx hSw;(try dsimp only at hSw);go_simp;try (with_reducible rfl)));simp only [Act.put,List.setIfInBounds_toArray,List.set_cons_zero,List.set_cons_succ])
 refine wpTo_one (i:=17) (by kernel_rfl) rfl (fun K hK=>?_)
 go_simp
 have k:=kset6 (Kp.ofBelow HB5.out (fun _=>False)) (b:=w.heap.size) (Nat.le_refl _) (.int .i64 V.f) (.int .i64 V.i) (.int .i64 V.s) (.int .i64 V.tf) (.int .i64 V.tt) (.int .i64 V.e)
 obtain ⟨b2,b0,b3⟩:=HB3.out
 have hS3:=And.intro (k.cellv b2 id) (And.intro (k.cellv b0 id) (k.cellv b3 id))
 refine hK.out _ _ (fun _=>hS3) (fun _=>?_)
 clear hK K hS hS2 b2 b0 b3
 refine wpTo_one (i:=18) (by kernel_rfl) rfl (fun K hK=>?_)
 go_simp
 refine hK.out _ _ (fun _=>hS3) (fun _=>wpTo_end (by kernel_rfl) ?_)
 clear hK K hS3 k z0 z1 z2 z3 z4 z5 y0 y1 y2 y3 y4 y5
 go_wp2_with fail
 exact (end_use (u:=V) (ok:=ok) rfl rfl rfl HZ5.out HB5.out (Nat.le_refl _)).1
set_option maxRecDepth 100000 in
set_option maxHeartbeats 2000000 in
theorem chOpen_no (ao:Option Addr) (cap:Nat) (l:List AF) (fi:Int) (w:World) (hT:Tabs w) (h:IsAF w w.heap.size ao l) (hl:l.length≤cap) (hc:cap≤maxLen) (hn:fltF l≠0∨fi<0∨(l.length:Int)≤fi) :
  Calls Tryz.prog 8 #[.slice ao l.length cap,.int .i64 fi] w fun e w'=>∃ r:Nat,e=.returned (.tuple #[.pointer none,.iface 34 (.int .i64 r)])∧Below w.heap.size w w':=by
 have HC:=hide (fault_any ao cap l w hT h hl hc)
 have hll:(l.length:Int)≤9223372036854775807:=by unfold maxLen at hc;omega
 by_cases hf:fltF l=0
 ·have e0:errV (fltF l)=.nilIface:=if_pos hf
  rw [e0] at HC
  replace hn:fi<0∨(l.length:Int)≤fi:=by
   rcases hn with h|h
   ·exact absurd hf h
   ·exact h
  clear h hT hf e0
  go_enter Tryz.func8,Tryz.ntmps8
  go_wp2_with fail
  refine (HC.out).mono ?_
  rintro e w1 ⟨rfl,B1⟩
  have HB:=hide B1
  clear HC B1
  by_cases hneg:fi<0
  ·have d1:decide (fi<0)=true:=decide_eq_true hneg
   go_wp2_with fail
   go_ret2
   exact ⟨1,rfl,HB.out⟩
  ·have d1:decide (fi<0)=false:=decide_eq_false hneg
   have hge:(l.length:Int)≤fi:=by omega
   have d2:decide (fi≥(l.length:Int))=true:=decide_eq_true hge
   have d3:decide ((l.length:Int)≤fi)=true:=decide_eq_true hge
   go_wp2_with fail
   go_ret2
   exact ⟨1,rfl,HB.out⟩
 ·have e0:errV (fltF l)=.iface 34 (.int .i64 (fltF l)):=if_neg hf
  rw [e0] at HC
  generalize fltF l=r at *
  clear h hT hf e0 hn
  go_enter Tryz.func8,Tryz.ntmps8
  go_wp2_with fail
  refine (HC.out).mono ?_
  rintro e w1 ⟨rfl,B1⟩
  have HB:=hide B1
  clear HC B1
  go_wp2_with fail
  go_ret2
  exact ⟨r,rfl,HB.out⟩
end Go.Proofs.YtbmebfgapjhchaaGreatDoor
/- Package change: files without a fault are opened (open). -/
namespace Go.Proofs.YtbmebfgapjhchaaGreatDoor
open Go.RowKit
open M
set_option maxRecDepth 100000 in
set_option maxHeartbeats 2000000 in
theorem chOpen_yes (ao:Option Addr) (cap:Nat) (l:List AF) (f:Nat) (w:World) (hT:Tabs w) (h:IsAF w w.heap.size ao l) (hl:l.length≤cap) (hc:cap≤maxLen) (hf:fltF l=0) (hfl:f<l.length) :
  Calls Tryz.prog 8 #[.slice ao l.length cap,.int .i64 f] w fun e w'=>∃ wb rv nv,e=.returned (.tuple #[.pointer (some ⟨wb,0,none⟩),.nilIface])∧Hid (IsWs w' wb w.heap.size ao cap l rv nv (X.allU (fsOf l))∧Below w.heap.size w w'):=by
 obtain ⟨hn16,hsh,hok,hpw⟩:=fltF_ok hf
 have hCF:=fault_any ao cap l w hT h hl hc
 have e0:errV (fltF l)=.nilIface:=if_pos hf
 rw [e0] at hCF
 have HCF:=hide hCF
 have HS:Hid (∀ w1,Below w.heap.size w w1→Calls Tryz.prog 18 #[.slice ao l.length cap] w1 fun e w'=>∃ rv,e=.returned rv∧Hid ((∃ IV Lo Hi,IsFs w' w1.heap.size rv l IV Lo Hi)∧Below w1.heap.size w1 w')):=fun w1 hb=>syFiles_any ao cap l w1 (hT.below hb) ((h.below hb).wide hb.size) hn16 hsh
 have HN:Hid (∀ w2 rv,(∃ B IV Lo Hi,IsFs w2 B rv l IV Lo Hi)→Calls Tryz.prog 17 #[rv] w2 fun e w'=>∃ nv,e=.returned nv∧Hid (Below w2.heap.size w2 w'∧w'.ownsRow w2.heap.size 36 6 nv (X.allU (fsOf l)).length (uvs (X.allU (fsOf l)))∧(X.allU (fsOf l)).length≤1073741824)):=fun w2 rv hI=>by
  obtain ⟨B,IV,Lo,Hi,hI⟩:=hI
  exact scNames_any l rv IV Lo Hi B w2 hI hn16 hsh hok hpw
 have HAF:=hide h
 have HCC:=hide (And.intro hl hc)
 have i1:decide ((f:Int)<0)=false:=by simp
 have i2:decide ((f:Int)≥(l.length:Int))=false:=by simp;omega
 have i3:decide ((l.length:Int)≤(f:Int))=false:=by simp;omega
 have i4:decide (l.length≤f)=false:=by simp;omega
 clear h hT hCF hsh hok hpw hf e0
 go_enter Tryz.func8,Tryz.ntmps8
 go_wp2_with fail
 refine (HCF.out).mono ?_
 rintro e w1 ⟨rfl,B1⟩
 have HC1:=hide ((HS.out) w1 B1)
 have HB1:=hide B1
 clear HCF HS B1
 go_wp2_with fail
 refine (HC1.out).mono ?_
 rintro e w2 ⟨rv,rfl,X2⟩
 obtain ⟨⟨IV,Lo,Hi,hI⟩,B2⟩:=X2.out
 have HC2:=hide ((HN.out) w2 rv ⟨_,IV,Lo,Hi,hI⟩)
 obtain ⟨ra,rc,rfl,-⟩:=hI.ex
 have HB2:Hid (Below w.heap.size w w2):=(HB1.out).trans (B2.mono (HB1.out).size)
 clear HC1 X2 hI B2 HN HB1
 go_wp2_with fail
 refine (HC2.out).mono ?_
 rintro e w3 ⟨nv,rfl,X3⟩
 obtain ⟨B3,hr3,-⟩:=X3.out
 obtain ⟨na,nc,rfl⟩:∃ na nc,nv=.slice na (X.allU (fsOf l)).length nc:=by
  rcases hr3.2 with ⟨e,h0⟩|⟨g',cap,cur,e,-⟩
  ·exact ⟨none,0,by rw [h0];exact e⟩
  ·exact ⟨_,_,e⟩
 have hb3:Below w.heap.size w w3:=(HB2.out).trans (B3.mono (HB2.out).size)
 have HF:Hid (IsWs (w3.alloc (.cells #[.slice ao l.length cap,.slice ra l.length rc,.slice na (X.allU (fsOf l)).length nc] 64)) w3.heap.size w.heap.size ao cap l (.slice ra l.length rc) (.slice na (X.allU (fsOf l)).length nc) (X.allU (fsOf l))∧Below w.heap.size w (w3.alloc (.cells #[.slice ao l.length cap,.slice ra l.length rc,.slice na (X.allU (fsOf l)).length nc] 64))):=by
  have hb4:Below w.heap.size w (w3.alloc (.cells #[.slice ao l.length cap,.slice ra l.length rc,.slice na (X.allU (fsOf l)).length nc] 64)):=hb3.alloc hb3.size _
  exact ⟨⟨heap_alloc_new w3 _,((HAF.out).below hb4).wide hb4.size,(hr3.mono (HB2.out).size).alloc _,HCC.out⟩,hb4⟩
 clear HC2 X3 B3 hr3 hb3 HB2
 go_wp2_with fail
 go_ret2
 exact ⟨_,_,_,rfl,HF⟩
end Go.Proofs.YtbmebfgapjhchaaGreatDoor
/- Package change: Rename. -/
namespace Go.Proofs.YtbmebfgapjhchaaGreatDoor
open Go.RowKit
open M
noncomputable def spV (l:List AF) (v:X.U) (name:ByteArray):Nat→List Rw:=spK l (X.allU (fsOf l)) v.f v.i (txL l v.f v.i) name (X.allU (fsOf l)).length
def grV (l:List AF) (v:X.U) (name:ByteArray):Int:=(name.size:Int) - (txL l v.f v.i).size
structure RnOk (l:List AF) (fi at_:Int) (name:ByteArray) (u v:X.U):Prop where
 fl:fltF l=0
 ff:∃ f:Nat,fi=f∧f<l.length∧atU l (X.allU (fsOf l)) f at_=some u
 t0:0≤u.tt
 vm:v∈X.allU (fsOf l)∧(v.f:Int)=u.tf∧(v.i:Int)=u.tt
 nm:nmOk name=true
 eq:(X.allU (fsOf (outL l (spV l v name)))).map uq=(X.allU (fsOf l)).map (mvQ (spV l v name) (grV l v name))
 sz:∀ (i:Nat) (a:AF),l[i]?=some a→(apT a.t (spV l v name i)).size≤20000
def RnRes (l:List AF) (fi at_:Int) (name:ByteArray) (w:World) (e:Ending) (w':World):Prop :=
 (∃ r:Nat,e=.returned (.tuple #[.slice none 0 0,.iface 34 (.int .i64 r)])∧Hid (Below w.heap.size w w'∧∀ u v,¬ RnOk l fi at_ name u v)) ∨
 (∃ u v pv vs,e=.returned (.tuple #[pv,.nilIface])∧Hid (RnOk l fi at_ name u v∧Below w.heap.size w w'∧w'.ownsRow w.heap.size 42 2 pv (idx l (spV l v name) l.length).length (pvs vs (idx l (spV l v name) l.length)) ∧
  ∀ i,i<l.length→w'.ownsRow w.heap.size 70 3 (vs i) (spV l v name i).length ((spV l v name i).flatMap Rw.vals)))
theorem edOk_of {l:List AF} (h0:0<l.length) (hf:fltF l=0) (v:X.U) (hv:v∈X.allU (fsOf l)) (name:ByteArray) (hn:name.size≤40):EdOk l (X.allU (fsOf l)) (spV l v name) (grV l v name):=by
 obtain ⟨hn16,-,hok,hpw⟩:=fltF_ok hf
 have hsz:=flt_sz hf
 have hul:=allU_few hsz hn16
 have hU:∀ u∈X.allU (fsOf l),u.f<l.length∧u.i<20000:=fun u hu=>by
  obtain ⟨a,ha,hi⟩:=allU_file hu
  have:=hsz a (List.mem_of_getElem? ha)
  rw [bs_len] at hi
  refine ⟨?_,by omega⟩
  rcases Nat.lt_or_ge u.f l.length with g|g
  ·exact g
  ·rw [List.getElem?_eq_none g] at ha;cases ha
 have hold:(txL l v.f v.i).size≤20000:=by
  obtain ⟨a,ha,hi⟩:=allU_file hv
  rw [bs_len] at hi
  have h1:=(txtAt_size a.t v.i (by omega)).2
  have:=hsz a (List.mem_of_getElem? ha)
  unfold txL;rw [ha];show (txtAt a.t v.i).size≤_;omega
 refine ⟨h0,hn16,hsz,hok,hpw,fun i=>spK_few hsz _ _ _ _ _ i,fun i=>spK_tot hsz _ _ _ _ hn _ i,by omega,fun u hu=>⟨(hU u hu).1,by have:=(hU u hu).2;omega,fun h=>?_⟩,?_⟩
 ·obtain ⟨t,ht,e1,e2⟩:=allU_to hu h
  have:=hU t ht
  exact ⟨t.f,e1.symm,this.1,by omega⟩
 ·unfold grV;omega
theorem spV_eq {l:List AF} {v v':X.U} {name:ByteArray} (h1:v'.f=v.f) (h2:v'.i=v.i):spV l v' name=spV l v name∧grV l v' name=grV l v name:=by
 unfold spV grV
 rw [h1,h2]
 exact ⟨rfl,rfl⟩
set_option maxRecDepth 100000 in
set_option maxHeartbeats 4000000 in
theorem rename_any (ao:Option Addr) (cap:Nat) (l:List AF) (fi at_:Int) (name:ByteArray) (w:World) (hT:Tabs w) (h:IsAF w w.heap.size ao l) (hl:l.length≤cap) (hc:cap≤maxLen) :
  Calls Tryz.prog 5 #[.slice ao l.length cap,.int .i64 fi,.int .i64 at_,.string name] w fun e w'=>RnRes l fi at_ name w e w':=by
 by_cases h1:fltF l≠0∨fi<0∨(l.length:Int)≤fi
 ·have HC:=hide (chOpen_no ao cap l fi w hT h hl hc h1)
  have HN:Hid (∀ u v,¬ RnOk l fi at_ name u v):=fun u v hk=>by
   obtain ⟨f,e1,e2,-⟩:=hk.ff
   rcases h1 with q|q|q
   ·exact q hk.fl
   ·omega
   ·omega
  clear h hT h1
  go_enter Tryz.func5,Tryz.ntmps5
  go_wp2_with fail
  refine (HC.out).mono ?_
  rintro e w1 ⟨r,rfl,B1⟩
  have HF:Hid (Below w.heap.size w w1∧∀ u v,¬ RnOk l fi at_ name u v):=⟨B1,HN.out⟩
  clear HC B1 HN
  go_wp2_with fail
  go_ret2
  exact .inl ⟨r,rfl,HF⟩
 have hf:fltF l=0:=Decidable.byContradiction fun q=>h1 (.inl q)
 obtain ⟨f,rfl⟩:∃ f:Nat,fi=f:=⟨fi.toNat,by omega⟩
 have hfl:f<l.length:=by omega
 have hfa:=List.getElem?_eq_getElem hfl
 generalize l[f]=fa at hfa
 have hn16:=(fltF_ok hf).1
 have hsz:=flt_sz hf
 have hul:=allU_few hsz hn16
 have hU:∀ u∈X.allU (fsOf l),∃ a,l[u.f]?=some a∧u.i<a.t.size:=fun u hu=>by
  obtain ⟨a,ha,hi⟩:=allU_file hu
  rw [bs_len] at hi
  exact ⟨a,ha,hi⟩
 have HC:=hide (chOpen_yes ao cap l f w hT h hl hc hf hfl)
 have HAT:Hid (∀ (w1:World) (wb:Nat) (rv nv:Value),Below w.heap.size w w1→IsWs w1 wb w.heap.size ao cap l rv nv (X.allU (fsOf l))→Calls Tryz.prog 9 #[.pointer (some ⟨wb,0,none⟩),.int .i64 f,.int .i64 at_] w1 fun e w'=>e=.returned (.tuple #[.agg #[.int .i64 ((atU l (X.allU (fsOf l)) f at_).getD u0).f,.int .i64 ((atU l (X.allU (fsOf l)) f at_).getD u0).i,.int .i64 ((atU l (X.allU (fsOf l)) f at_).getD u0).s,.int .i64 ((atU l (X.allU (fsOf l)) f at_).getD u0).tf,.int .i64 ((atU l (X.allU (fsOf l)) f at_).getD u0).tt,.int .i64 ((atU l (X.allU (fsOf l)) f at_).getD u0).e],.bool (atU l (X.allU (fsOf l)) f at_).isSome])∧Below w1.heap.size w1 w') :=
  fun w1 wb rv nv hb hW=>nameAt_ws hW (hT.below hb) (by omega) f fa at_ hfa (by have:=hsz fa (List.mem_of_getElem? hfa);omega) hU
 have HT:=hide hT
 have HU:=hide hU
 have HSZ:=hide hsz
 have HF0:=hide hf
 clear h hT h1 hU hsz hf
 go_enter Tryz.func5,Tryz.ntmps5
 go_wp2_with fail
 refine (HC.out).mono ?_
 rintro e w1 ⟨wb,rv,nv,rfl,X1⟩
 obtain ⟨W1,B1⟩:=X1.out
 have HC1:=hide ((HAT.out) w1 wb rv nv B1 W1)
 have HW1:=hide W1
 have HB1:=hide B1
 clear HC HAT X1 W1 B1
 cases hR:atU l (X.allU (fsOf l)) f at_ with
 | none =>
  rw [hR] at HC1
  have HN:Hid (∀ u v,¬ RnOk l f at_ name u v):=fun u v hk=>by
   obtain ⟨f',e1,e2,e3⟩:=hk.ff
   obtain rfl:f=f':=by omega
   rw [hR] at e3;cases e3
  replace HC1:Hid (Calls Tryz.prog 9 #[.pointer (some ⟨wb,0,none⟩),.int .i64 f,.int .i64 at_] w1 fun e w'=>e=.returned (.tuple #[.agg #[.int .i64 0,.int .i64 0,.int .i64 0,.int .i64 0,.int .i64 0,.int .i64 0],.bool false])∧Below w1.heap.size w1 w'):=HC1.out
  clear hR
  go_wp2_with fail
  refine (HC1.out).mono ?_
  rintro e w2 ⟨rfl,B2⟩
  have HB2:Hid (Below w.heap.size w w2):=(HB1.out).trans (B2.mono (HB1.out).size)
  clear HC1 B2
  go_wp2_with fail
  go_ret2
  exact .inl ⟨1,rfl,(HB2.out).alloc (HB2.out).size _,HN.out⟩
 | some u =>
  rw [hR] at HC1
  replace HC1:Hid (Calls Tryz.prog 9 #[.pointer (some ⟨wb,0,none⟩),.int .i64 f,.int .i64 at_] w1 fun e w'=>e=.returned (.tuple #[.agg #[.int .i64 u.f,.int .i64 u.i,.int .i64 u.s,.int .i64 u.tf,.int .i64 u.tt,.int .i64 u.e],.bool true])∧Below w1.heap.size w1 w'):=HC1.out
  have hum:=atU_mem hR
  by_cases g1:u.tt<0
  ·have HN:Hid (∀ u v,¬ RnOk l f at_ name u v):=fun u' v hk=>by
    obtain ⟨f',e1,e2,e3⟩:=hk.ff
    obtain rfl:f=f':=by omega
    rw [hR] at e3
    obtain rfl:=Option.some.inj e3
    have:=hk.t0
    omega
   have d1:decide (u.tt<0)=true:=decide_eq_true g1
   clear hR g1 hum
   go_wp2_with fail
   refine (HC1.out).mono ?_
   rintro e w2 ⟨rfl,B2⟩
   have HB2:Hid (Below w.heap.size w w2):=(HB1.out).trans (B2.mono (HB1.out).size)
   clear HC1 B2
   go_wp2_with fail
   go_ret2
   exact .inl ⟨1,rfl,(HB2.out).alloc (HB2.out).size _,HN.out⟩
  have d1:decide (u.tt<0)=false:=decide_eq_false g1
  obtain ⟨v,hv,hvf,hvi⟩:=allU_to hum (by omega)
  obtain ⟨uf,ui,us,utf,utt,ue⟩:=u
  simp only at hvf hvi d1 g1 HC1
  subst hvf hvi
  have HNm:Hid (∀ W,Below w.heap.size w W→Calls Tryz.prog 10 #[.string name] W fun e w'=>e=.returned (.bool (nmOk name))∧Below W.heap.size W w'):=fun W hW=>name_is name W ((HT.out).below hW) _ rfl
  have HRN:Hid (∀ v',(∃ u',RnOk l f at_ name u' v')→v'.f=v.f∧v'.i=v.i):=fun v' hx=>by
   obtain ⟨u',hk⟩:=hx
   obtain ⟨f',e1,e2,e3⟩:=hk.ff
   obtain rfl:f=f':=by omega
   rw [hR] at e3
   obtain rfl:=Option.some.inj e3
   obtain ⟨-,q1,q2⟩:=hk.vm
   simp only at q1 q2
   omega
  have HRW:=hide hR
  have HV:=hide hv
  clear g1
  go_wp2_with fail
  refine (HC1.out).mono ?_
  rintro e w2 ⟨rfl,B2⟩
  have HB2:Hid (Below w.heap.size w w2):=(HB1.out).trans (B2.mono (HB1.out).size)
  have hb3:Below w.heap.size w (w2.alloc (.cells #[.int .i64 uf,.int .i64 ui,.int .i64 us,.int .i64 v.f,.int .i64 v.i,.int .i64 ue] 36)):=(HB2.out).alloc (HB2.out).size _
  have hO3:=heap_alloc_new w2 (.cells #[.int .i64 uf,.int .i64 ui,.int .i64 us,.int .i64 v.f,.int .i64 v.i,.int .i64 ue] 36)
  have HC2:=hide ((HNm.out) _ hb3)
  have hW3:=((HW1.out).below B2).below ((Below.refl _ w2).alloc (Nat.le_refl _) (.cells #[.int .i64 uf,.int .i64 ui,.int .i64 us,.int .i64 v.f,.int .i64 v.i,.int .i64 ue] 36))
  have HB3:=hide hb3
  have HO3:=hide hO3
  have HW3:=hide hW3
  clear HC1 HNm B2 hb3 hO3 hW3 HW1 HB2 HB1
  cases hnm:nmOk name with
  | false =>
   rw [hnm] at HC2
   have HN:Hid (∀ u v,¬ RnOk l f at_ name u v):=fun u' v' hk=>by
    have:=hk.nm
    rw [hnm] at this;cases this
   clear hnm
   go_wp2_with fail
   refine (HC2.out).mono ?_
   rintro e w4 ⟨rfl,B4⟩
   have HF:Hid (Below w.heap.size w w4∧∀ u v,¬ RnOk l f at_ name u v):=⟨(HB3.out).trans (B4.mono (HB3.out).size),HN.out⟩
   clear HC2 B4 HN
   go_wp2_with fail
   go_ret2
   exact .inl ⟨4,rfl,HF⟩
  | true =>
   rw [hnm] at HC2
   have hns:name.size≤40:=by
    unfold nmOk at hnm
    rw [Bool.and_eq_true] at hnm
    exact of_decide_eq_true hnm.1
   have hEd:=edOk_of (by omega) HF0.out v hv name hns
   have HEd:=hide hEd
   have HNM:=hide hnm
   clear hnm hEd hR hum hv
   go_wp2_with fail
   refine (HC2.out).mono ?_
   rintro e w4 ⟨rfl,B4⟩
   have hB4:Below w.heap.size w w4:=(HB3.out).trans (B4.mono (HB3.out).size)
   have hW4:=(HW3.out).below B4
   have hO4:=(B4.block w2.heap.size (by simp)).trans HO3.out
   have q0:=cell_of_row _ _ 0 _ _ _ hO4
   have q1:=cell_of_row _ _ 1 _ _ _ hO4
   have q2:=cell_of_row _ _ 2 _ _ _ hO4
   have q3:=cell_of_row _ _ 3 _ _ _ hO4
   have q4:=cell_of_row _ _ 4 _ _ _ hO4
   have q5:=cell_of_row _ _ 5 _ _ _ hO4
   have HC3:=hide (renamed_any hW4 ((HT.out).below hB4) hn16 (fun a ha=>by have:=(HSZ.out) a ha;omega) (by omega) HU.out uf ui us ue v HV.out name hns)
   have HB4:=hide hB4
   have HW4:=hide hW4
   replace HC3:Hid (Calls Tryz.prog 11 #[.pointer (some ⟨wb,0,none⟩),.agg #[.int .i64 uf,.int .i64 ui,.int .i64 us,.int .i64 v.f,.int .i64 v.i,.int .i64 ue],.string name] w4 fun e w'=>∃ g vs,e=.returned (.tuple #[.slice (some ⟨g,0,none⟩) l.length l.length,.int .i64 (grV l v name)]) ∧
    Hid (IsEd w' w4.heap.size g l.length vs (spV l v name)∧Below w4.heap.size w4 w')):=HC3.out
   have HOV:Hid (∀ v',(∃ u',RnOk l f at_ name u' v')→spV l v' name=spV l v name∧grV l v' name=grV l v name):=fun v' hx=>spV_eq ((HRN.out) v' hx).1 ((HRN.out) v' hx).2
   clear HC2 B4 hB4 hW4 hO4 HW3 HO3 HB3 HRN
   go_wp2_with fail
   refine (HC3.out).mono ?_
   rintro e w5 ⟨g,vs,rfl,X5⟩
   obtain ⟨E5,B5⟩:=X5.out
   have hB5:Below w.heap.size w w5:=(HB4.out).trans (B5.mono (HB4.out).size)
   have hW5:=(HW4.out).below B5
   have HC4:=hide (clashes_any hW5 ((HT.out).below hB5) E5 HEd.out)
   have HE5:=hide (E5.mono (HB4.out).size)
   have HB5:=hide hB5
   have HW5:=hide hW5
   generalize hgr:grV l v name=gr at *
   clear HC3 X5 E5 B5 hB5 hW5 HW4 HB4 q0 q1 q2 q3 q4 q5
   by_cases geq:(X.allU (fsOf (outL l (spV l v name)))).map uq=(X.allU (fsOf l)).map (mvQ (spV l v name) gr)
   case neg =>
    rw [decide_eq_false geq] at HC4
    have HN:Hid (∀ u v,¬ RnOk l f at_ name u v):=fun u' v' hk=>by
     obtain ⟨s1,s2⟩:=(HOV.out) v' ⟨u',hk⟩
     have:=hk.eq
     rw [s1,s2] at this
     exact geq this
    clear geq
    go_wp2_with fail
    refine (HC4.out).mono ?_
    rintro e w6 ⟨rfl,B6⟩
    have HF:Hid (Below w.heap.size w w6∧∀ u v,¬ RnOk l f at_ name u v):=⟨(HB5.out).trans (B6.mono (HB5.out).size),HN.out⟩
    clear HC4 B6 HN
    go_wp2_with fail
    go_ret2
    exact .inl ⟨13,rfl,HF⟩
   rw [decide_eq_true geq] at HC4
   have HEQ:=hide geq
   have hno:=no_flt (gr:=gr) geq
   have HNO:Hid (∀ (i:Nat) (a:AF),l[i]?=some a→Ed.flt a.t.size (spV l v name i)=0):=hno
   clear geq hno
   go_wp2_with fail
   refine (HC4.out).mono ?_
   rintro e w6 ⟨rfl,B6⟩
   have hB6:Below w.heap.size w w6:=(HB5.out).trans (B6.mono (HB5.out).size)
   have hE6:=(HE5.out).below B6
   have HC5:=hide (patches_any ((HW5.out).below B6) hE6 HEd.out HNO.out)
   have HE6:=hide hE6
   have HB6:=hide hB6
   clear HC4 B6 hB6 hE6 HW5 HE5 HB5
   go_wp2_with fail
   refine (HC5.out).mono ?_
   rintro e w7 (⟨rfl,X7⟩|⟨pv,rfl,X7⟩)
   ·obtain ⟨B7,i,a,ha,hbig⟩:=X7.out
    have HF:Hid (Below w.heap.size w w7∧∀ u v,¬ RnOk l f at_ name u v):=⟨(HB6.out).trans (B7.mono (HB6.out).size),fun u' v' hk=>by
     obtain ⟨s1,s2⟩:=(HOV.out) v' ⟨u',hk⟩
     have:=hk.sz i a ha
     rw [s1] at this
     omega⟩
    clear HC5 X7 B7 ha hbig
    go_wp2_with fail
    go_ret2
    exact .inl ⟨12,rfl,HF⟩
   ·obtain ⟨hrow,B7,hsz7⟩:=X7.out
    have HF:Hid (RnOk l f at_ name ⟨uf,ui,us,v.f,v.i,ue⟩ v∧Below w.heap.size w w7∧w7.ownsRow w.heap.size 42 2 pv (idx l (spV l v name) l.length).length (pvs vs (idx l (spV l v name) l.length))∧∀ i,i<l.length→w7.ownsRow w.heap.size 70 3 (vs i) (spV l v name i).length ((spV l v name i).flatMap Rw.vals)):=by
     refine ⟨⟨HF0.out,⟨f,rfl,hfl,HRW.out⟩,Int.natCast_nonneg _,⟨HV.out,rfl,rfl⟩,HNM.out,?_,hsz7⟩,(HB6.out).trans (B7.mono (HB6.out).size),hrow.mono (HB6.out).size,fun i hi=>((HE6.out).below B7).row i hi⟩
     rw [hgr]
     exact HEQ.out
    clear HC5 X7 B7 hrow hsz7 HE6 HB6 HEQ HNO HOV
    go_wp2_with fail
    go_ret2
    exact .inr ⟨_,v,_,vs,rfl,HF⟩
end Go.Proofs.YtbmebfgapjhchaaGreatDoor
/- The files that come of patches (the document's Patched). -/
namespace Go.Proofs.YtbmebfgapjhchaaGreatDoor
open Go.RowKit
open M
theorem idx_mem {l:List AF} {sp:Nat→List Rw} {n i:Nat}:i∈idx l sp n↔i<n∧chg l sp i=true:=by
 unfold idx;rw [List.mem_filter,List.mem_range]
theorem idx_lt (l:List AF) (sp:Nat→List Rw) (n:Nat):(idx l sp n).Pairwise (·<·):=(List.pairwise_lt_range (n:=n)).sublist List.filter_sublist
def lastI (is:List Nat) (k:Nat):Int:=if k=0 then -1 else (is.getD (k - 1) 0:Nat)
theorem lastI_lt {is:List Nat} (h:is.Pairwise (·<·)) {k f:Nat} (hf:is[k]?=some f):lastI is k<(f:Int):=by
 unfold lastI
 split
 ·omega
 ·next hk =>
  obtain ⟨hl,rfl⟩:=List.getElem?_eq_some_iff.1 hf
  have:=List.pairwise_iff_getElem.1 h (k - 1) k (by omega) hl (by omega)
  rw [List.getD_eq_getElem?_getD,List.getElem?_eq_getElem (by omega:k - 1<is.length)]
  show ((is[k - 1]:Nat):Int)<_
  omega
theorem lastI_succ {is:List Nat} {k f:Nat} (hf:is[k]?=some f):lastI is (k+1)=(f:Int):=by
 unfold lastI
 rw [if_neg (by omega),Nat.add_sub_cancel,List.getD_eq_getElem?_getD,hf];rfl
noncomputable def outP (l:List AF) (sp:Nat→List Rw) (js:List Nat):List AF:=l.mapIdx fun i a=>if i∈js then ⟨a.n,apT a.t (sp i)⟩ else a
theorem outP_get (l:List AF) (sp:Nat→List Rw) (js:List Nat) (i:Nat):(outP l sp js)[i]?=(l[i]?).map fun a=>if i∈js then ⟨a.n,apT a.t (sp i)⟩ else a:=List.getElem?_mapIdx
theorem outP_nil (l:List AF) (sp:Nat→List Rw):outP l sp []=l:=by
 refine List.ext_getElem? fun i=>?_
 rw [outP_get]
 cases l[i]? with
 | none=>rfl
 | some a=>simp
theorem outP_snoc {l:List AF} {sp:Nat→List Rw} {js:List Nat} {f:Nat} {a:AF} (ha:l[f]?=some a):∃ b:AF,(outP l sp js)[f]?=some b∧(outP l sp js).set f ⟨b.n,apT a.t (sp f)⟩=outP l sp (js++[f]):=by
 have h1:(outP l sp js)[f]?=some (if f∈js then ⟨a.n,apT a.t (sp f)⟩ else a):=by rw [outP_get,ha];rfl
 have hn:(if f∈js then (⟨a.n,apT a.t (sp f)⟩:AF) else a).n=a.n:=by split<;>rfl
 have hk:f<(outP l sp js).length:=by
  rcases Nat.lt_or_ge f (outP l sp js).length with g|g
  ·exact g
  ·rw [List.getElem?_eq_none g] at h1;cases h1
 refine ⟨_,h1,List.ext_getElem? fun i=>?_⟩
 rw [hn,List.getElem?_set,outP_get,outP_get]
 by_cases e:f=i
 ·subst e
  rw [if_pos rfl,if_pos hk,ha];simp
 ·rw [if_neg e]
  cases l[i]? with
  | none=>rfl
  | some b=>simp [Ne.symm e]
theorem outP_all (l:List AF) (sp:Nat→List Rw):outP l sp (idx l sp l.length)=outL l sp:=by
 refine List.ext_getElem? fun i=>?_
 cases ha:l[i]? with
 | none =>
  rw [outP_get,ha]
  unfold outL
  rw [outK_get,ha];rfl
 | some a =>
  have hi:i<l.length:=by
   rcases Nat.lt_or_ge i l.length with g|g
   ·exact g
   ·rw [List.getElem?_eq_none g] at ha;cases ha
  rw [outP_get,ha,outL_get ha]
  simp only [Option.map_some]
  by_cases hm:i∈idx l sp l.length
  ·rw [if_pos hm]
  ·rw [if_neg hm]
   have:chg l sp i=false:=by
    cases hc:chg l sp i with
    | false=>rfl
    | true=>exact absurd (idx_mem.2 ⟨hi,hc⟩) hm
   unfold chg at this
   rw [ha] at this
   have e:apT a.t (sp i)=a.t:=by simpa using this
   rw [e]
theorem pvs_get (vs:Nat→Value):∀ (is:List Nat) (k f:Nat),is[k]?=some f→(pvs vs is)[k*2]?=some (.int .i64 f)∧(pvs vs is)[k*2+1]?=some (vs f)
 | [],k,f,h=>by simp at h
 | i::is,0,f,h=>by
  obtain rfl:i=f:=Option.some.inj h
  exact ⟨rfl,rfl⟩
 | i::is,k+1,f,h=>by
  have ih:=pvs_get vs is k f h
  rw [show (k+1)*2=k*2+1+1 by omega]
  exact ih
set_option maxRecDepth 100000 in
set_option maxHeartbeats 4000000 in
theorem patched_any (ao:Option Addr) (cap:Nat) (l:List AF) (sp:Nat→List Rw) (pv:Value) (vs:Nat→Value) (C:Nat) (w:World) (h:IsAF w w.heap.size ao l) (h0:0<l.length) (hn:l.length≤16) (hsz:∀ a∈l,a.t.size≤20000) (hsl:∀ i,(sp i).length≤20000) (htt:∀ i,totR (sp i)≤800000) (hfl:∀ (i:Nat) (a:AF),l[i]?=some a→Ed.flt a.t.size (sp i)=0)
  (hp:w.ownsRow C 42 2 pv (idx l sp l.length).length (pvs vs (idx l sp l.length))) (hr:∀ i,i<l.length→w.ownsRow C 70 3 (vs i) (sp i).length ((sp i).flatMap Rw.vals)) :
  Calls Tryz.prog 6 #[.slice ao l.length cap,pv] w fun e w'=>∃ g c,e=.returned (.tuple #[.slice (some ⟨g,0,none⟩) l.length c,.bool true])∧Hid (w'.ownsRow w.heap.size 39 2 (.slice (some ⟨g,0,none⟩) l.length c) l.length (fvs (outL l sp))∧Below w.heap.size w w'):=by
 have hb0:Below w.heap.size w (w.alloc (.cells #[] 39)):=(Below.refl _ w).alloc (Nat.le_refl _) _
 have hown0:(w.alloc (.cells #[] 39)).ownsRow w.heap.size 39 2 (.slice (some ⟨w.heap.size,0,none⟩) 0 0) 0 []:=⟨rfl,.inr ⟨_,0,#[],rfl,Nat.le_refl _,heap_alloc_new _ _,Nat.le_refl _,Nat.zero_le _,rfl,rfl⟩⟩
 obtain ⟨v1,w1,ra,a2,a3⟩:=run_append_f _ _ _ hown0 ao cap l ((h.below hb0).wide hb0.size) h0 hn hb0.size 22
 obtain ⟨g,c,rfl,hgl,-⟩:=a2.form h0
 have HX1:Hid (w1.ownsRow w.heap.size 39 2 (.slice (some ⟨g,0,none⟩) l.length c) l.length (fvs (outP l sp ((idx l sp l.length).take 0)))∧Below w.heap.size w w1):=by
  rw [List.take_zero,outP_nil]
  exact ⟨a2,hb0.grown a3 hb0.size (fun k hk=>by cases hk;exact Nat.le_refl _)⟩
 have hlast:=fun k f hk=>lastI_lt (idx_lt l sp l.length) (k:=k) (f:=f) hk
 have hmem:=fun k f (hk:(idx l sp l.length)[k]?=some f)=>idx_mem.1 (List.mem_of_getElem? hk)
 have hal:=outP_all l sp
 have hil:=idx_len l sp l.length
 generalize idx l sp l.length=is at *
 obtain ⟨pa,pc,rfl⟩:∃ pa pc,pv=.slice pa is.length pc:=by
  rcases hp.2 with ⟨e,h1⟩|⟨g',cap,cur,e,-⟩
  ·exact ⟨none,0,by rw [h1];exact e⟩
  ·exact ⟨_,_,e⟩
 have HIA:=hide h
 have HP:=hide hp
 have HRW:=hide hr
 have HSZ:=hide hsz
 have HSL:=hide hsl
 have HTT:=hide htt
 have HFL:=hide hfl
 have HLA:=hide hlast
 have HME:=hide hmem
 have HAL:=hide hal
 have HGL:=hide hgl
 clear h hb0 hown0 a2 a3 hp hr hsz hsl htt hfl hlast hmem hal hgl
 go_enter Tryz.func6,Tryz.ntmps6
 go_wp2_with (at_builtin;refine Lib.wpList_append_run _ rfl _ _ _ _ rfl _ _ rfl rfl _ _ ra ?_)
 go_loopw [7,8] (fun lv iv wr=>∃ k:Nat,iv=.int .i64 k∧lv=.int .i64 (lastI is k)∧k≤is.length∧Hid (wr.ownsRow w.heap.size 39 2 (.slice (some ⟨g,0,none⟩) l.length c) l.length (fvs (outP l sp (is.take k)))∧Below w.heap.size w wr)) (fun _ v _=>is.length - (intOf v).toNat)
 case atStart=>exact ⟨0,rfl,rfl,Nat.zero_le _,HX1⟩
 case round =>
  obtain ⟨k,rfl,rfl,hk,HX⟩:=hrel
  by_cases g1:k<is.length
  case neg =>
   have j1:decide ((k:Int)<(is.length:Int))=false:=by simp;omega
   have j2:decide (k<is.length)=false:=by simp;omega
   have HF:Hid (wr.ownsRow w.heap.size 39 2 (.slice (some ⟨g,0,none⟩) l.length c) l.length (fvs (outL l sp))∧Below w.heap.size w wr):=by
    have:=HX.out
    rw [List.take_of_length_le (by omega),HAL.out] at this
    exact this
   clear g1 HX
   go_wp2_with fail
   go_ret2
   exact ⟨_,_,rfl,HF⟩
  have j1:decide ((k:Int)<(is.length:Int))=true:=by simp;omega
  have j2:decide (k<is.length)=true:=by simp;omega
  have j3:(k:Int)<(is.length:Int):=by omega
  have hf:=List.getElem?_eq_getElem g1
  generalize is[k]=f at hf
  obtain ⟨hfl,hch⟩:=(HME.out) k f hf
  have hlt:=(HLA.out) k f hf
  obtain ⟨hrow,hbl⟩:=HX.out
  have ha:=List.getElem?_eq_getElem hfl
  generalize l[f]=a at ha
  have has:=(HSZ.out) a (List.mem_of_getElem? ha)
  have hne:apT a.t (sp f)≠a.t:=by
   unfold chg at hch
   rw [ha] at hch
   simpa using hch
  have hpr:=(Kp.ofBelow hbl (fun _=>False)).owns HP.out (fun _ _=>id)
  obtain ⟨gp,_,ep,-,hgp⟩:=hpr.form (by omega)
  cases ep
  have p0:wr.cell? ⟨gp,k*2,none⟩=some (.int .i64 f):=(hpr.cellAt (k*2) (by omega)).trans (pvs_get vs is k f hf).1
  have p1:=(hpr.cellAt (k*2+1) (by omega)).trans (pvs_get vs is k f hf).2
  have hrr:=(Kp.ofBelow hbl (fun _=>False)).owns ((HRW.out) f hfl) (fun _ _=>id)
  obtain ⟨sa,sc,evs⟩:∃ sa sc,vs f=.slice sa (sp f).length sc:=by
   rcases hrr.2 with ⟨e,h1⟩|⟨g',cap,cur,e,-⟩
   ·exact ⟨none,0,by rw [h1];exact e⟩
   ·exact ⟨_,_,e⟩
  rw [evs] at p1 hrr
  have hs1:=(HSL.out) f
  have HC:=hide (Ed.spans_any (.slice sa (sp f).length sc) (sp f) wr (IsL.ofOwns hrr (by omega)) (by omega))
  obtain ⟨b,o,rfl,hb,c1,c2⟩:=((HIA.out).below hbl) f a ha
  have d1:decide ((f:Int)≤lastI is k)=false:=by simp;omega
  have d2:decide ((f:Int)≥(l.length:Int))=false:=by simp;omega
  have d3:decide ((l.length:Int)≤(f:Int))=false:=by simp;omega
  have d4:decide (l.length≤f)=false:=by simp;omega
  have i6:(f:Int)<(l.length:Int):=by omega
  have HA:=hide ha
  have HF:=hide hf
  have HNE:=hide hne
  have HROW:=hide hrow
  have HBL:=hide hbl
  generalize hqn:(sp f).length=ns at *
  clear HX hrow hbl hpr hrr evs ha hf hne hch hlt
  go_wp2_with fail
  refine (HC.out).mono ?_
  rintro e w2 ⟨qv,rfl,hq,B2⟩
  obtain ⟨qa,qc,rfl⟩:∃ qa qc,qv=.slice qa ns qc:=by
   rcases hq.2 with ⟨e,h1⟩|⟨g',cap,cur,e,-⟩
   ·exact ⟨none,0,by rw [h1];exact e⟩
   ·exact ⟨_,_,e⟩
  have hq':w2.ownsRow wr.heap.size 77 3 (.slice qa ns qc) (sp f).length ((sp f).flatMap Rw.vals):=by rw [hqn];exact hq
  have HC2:=hide (refApply_any a.t (.slice qa ns qc) (sp f) w2 (IsL.ofOwns hq' (by omega)) (by omega) (by have:=(HTT.out) f;omega) ((HFL.out) f a HA.out))
  have hB2:=(HBL.out).trans (B2.mono (HBL.out).size)
  have c2':=((HIA.out).below hB2) f a HA.out
  obtain ⟨_,_,ee,-,-,c3⟩:=c2'
  cases ee
  have HROW2:=hide ((Kp.ofBelow B2 (fun _=>False)).owns HROW.out (fun _ _=>id))
  have HB2:=hide hB2
  have HNE2:=hide HNE.out
  generalize htx:apT a.t (sp f)=tx at *
  have HTX:=hide htx
  clear HC B2 hq hq' hB2 HROW HBL c1 c2 p0 p1 htx
  go_wp2_with fail
  refine (HC2.out).mono ?_
  rintro e w3 ⟨rfl,B3⟩
  have hB3:=(HB2.out).trans (B3.mono (HB2.out).size)
  have c2':=((HIA.out).below hB3) f a HA.out
  obtain ⟨_,_,ee,-,-,c4⟩:=c2'
  cases ee
  have hrow3:=(Kp.ofBelow B3 (fun _=>False)).owns HROW2.out (fun _ _=>id)
  obtain ⟨b',o1,o2⟩:=outP_snoc (sp:=sp) (js:=is.take k) HA.out
  have cc:=(hrow3.cellAt (f*2+1) (by omega)).trans (fvs_even _ f b' o1).2
  have ff:w3.frozen? ⟨g,f*2+1,none⟩=false:=hrow3.frozenAt _
  have hst:=hrow3.stored (f*2+1) (.string tx)
  rw [HTX.out] at o2
  rw [fvs_set _ f b' _ o1,o2] at hst
  have HFN:Hid ((w3.setCell ⟨g,f*2+1,none⟩ (.string tx)).ownsRow w.heap.size 39 2 (.slice (some ⟨g,0,none⟩) l.length c) l.length (fvs (outP l sp (is.take (k+1))))∧Below w.heap.size w (w3.setCell ⟨g,f*2+1,none⟩ (.string tx))):=by
   rw [List.take_add_one,HF.out]
   exact ⟨hst.1,hB3.grown hst.2 hB3.size (fun q hq=>by cases hq;exact HGL.out)⟩
  have d6:(tx.toList==a.t.toList)=false:=by rw [beq_eq_false_iff_ne,ByteArray.toList_eq,ByteArray.toList_eq];exact fun e=>HNE2.out (bs_inj e)
  have HLS:=hide (lastI_succ HF.out)
  clear HC2 B3 hB3 hrow3 o1 o2 hst HROW2 HB2 c3
  go_wp2_with fail
  exact ⟨⟨k+1,by simp,by rw [HLS.out],by omega,HFN⟩,by simp [intOf];omega⟩
end Go.Proofs.YtbmebfgapjhchaaGreatDoor
/- What holds of names that have been made others;closed facts: plain mathematics. -/
namespace Go.Proofs.YtbmebfgapjhchaaGreatDoor
open Go.RowKit
open M
theorem fltN_names:∀ (l l':List AF) (s:List (List UInt8)),l.map (fun a=>a.n)=l'.map (fun a=>a.n)→fltN l s=fltN l' s
 | [],[],s,_=>rfl
 | [],b::l',s,h=>by simp at h
 | a::l,[],s,h=>by simp at h
 | a::l,b::l',s,h=>by
  rw [List.map_cons,List.map_cons] at h
  injection h with h1 h2
  rw [fltN,fltN,h1]
  split
  ·split
   ·rfl
   ·exact fltN_names l l' _ h2
  ·rfl
theorem flt_out {l:List AF} {fi at_:Int} {name:ByteArray} {u v:X.U} (h:RnOk l fi at_ name u v):fltF (outL l (spV l v name))=0:=by
 have hl:(outL l (spV l v name)).length=l.length:=outK_len _ _ _
 have hf:=h.fl
 have h16:=(fltF_ok hf).1
 unfold fltF at hf ⊢
 rw [if_neg (by omega)] at hf
 rw [if_neg (by omega)]
 have h2:¬ l.any (fun a=>decide (20000<a.t.size))=true:=by
  intro q
  rw [if_pos q] at hf;cases hf
 rw [if_neg h2] at hf
 rw [if_neg,← hf]
 ·exact fltN_names _ _ _ (outK_names l _ _)
 ·intro q
  obtain ⟨a,ha,hb⟩:=List.any_eq_true.1 q
  obtain ⟨i,hi,rfl⟩:=List.getElem_of_mem ha
  have hi':i<l.length:=by omega
  have h1:=outL_get (sp:=spV l v name) (List.getElem?_eq_getElem hi')
  rw [List.getElem?_eq_getElem hi] at h1
  rw [Option.some.inj h1] at hb
  have:=h.sz i _ (List.getElem?_eq_getElem hi')
  have hb':=of_decide_eq_true hb
  simp only at hb'
  omega
structure Same (us us2:List X.U) (a b:X.U):Prop where
 f:(b.f:Int)=a.f
 s:(b.s:Int)=a.s
 e:(b.e:Int)=a.e
 tf:b.tf=a.tf
 neg:a.tt<0→b.tt<0
 pos:0≤a.tt→0≤b.tt∧∃ j,j<us.length∧(∀ (k:Nat) (x:X.U),us[k]?=some x→(((x.f:Int)=a.tf∧(x.i:Int)=a.tt)↔k=j))∧(∀ (k:Nat) (x:X.U),us2[k]?=some x→(((x.f:Int)=b.tf∧(x.i:Int)=b.tt)↔k=j))
theorem all_same {l:List AF} {fi at_:Int} {name:ByteArray} {u v:X.U} (h:RnOk l fi at_ name u v):(X.allU (fsOf (outL l (spV l v name)))).length=(X.allU (fsOf l)).length∧∀ (k:Nat) (a b:X.U),(X.allU (fsOf l))[k]?=some a→(X.allU (fsOf (outL l (spV l v name))))[k]?=some b→Same (X.allU (fsOf l)) (X.allU (fsOf (outL l (spV l v name)))) a b:=by
 have he:=h.eq
 have s1:=allU_srt l
 have s2:=allU_srt (outL l (spV l v name))
 have ht:=fun a ha h0=>allU_to (l:=l) (u:=a) ha h0
 generalize X.allU (fsOf l)=us at *
 generalize X.allU (fsOf (outL l (spV l v name)))=us2 at *
 have hl:us2.length=us.length:=by have:=congrArg List.length he;rwa [List.length_map,List.length_map] at this
 have hat:∀ (k:Nat) (a b:X.U),us[k]?=some a→us2[k]?=some b→uq b=mvQ (spV l v name) (grV l v name) a:=by
  intro k a b ha hb
  have:=congrArg (·[k]?) he
  simp only [List.getElem?_map,ha,hb,Option.map_some] at this
  exact Option.some.inj this
 refine ⟨hl,fun k a b ha hb=>?_⟩
 have e:=hat k a b ha hb
 have e1:(b.f:Int)=a.f:=congrArg Q6.a e
 have e3:(b.s:Int)=a.s:=congrArg Q6.c e
 have e4:b.tf=a.tf:=congrArg Q6.d e
 have e5:b.tt=if 0≤a.tt then mvI (spV l v name a.tf.toNat) (grV l v name) a.tt else a.tt:=congrArg Q6.e e
 have e6:(b.e:Int)=a.e:=congrArg Q6.f e
 refine ⟨e1,e3,e6,e4,fun hn=>by rw [e5,if_neg (by omega)];exact hn,fun h0=>?_⟩
 rw [if_pos h0] at e5
 obtain ⟨t,htm,tf,ti⟩:=ht a (List.mem_of_getElem? ha) h0
 obtain ⟨j,hj,rfl⟩:=List.getElem_of_mem htm
 have hj2:j<us2.length:=by omega
 have q:=hat j _ _ (List.getElem?_eq_getElem hj) (List.getElem?_eq_getElem hj2)
 have q1:(us2[j].f:Int)=us[j].f:=congrArg Q6.a q
 have q2:(us2[j].i:Int)=mvI (spV l v name us[j].f) (grV l v name) us[j].i:=congrArg Q6.b q
 have e7:b.tt=(us2[j].i:Int):=by
  rw [e5,q2,← ti,← tf];rfl
 refine ⟨by rw [e7];exact Int.natCast_nonneg _,j,hj,fun k' x hx=>⟨fun ⟨a1,a2⟩=>?_,fun e=>?_⟩,fun k' x hx=>⟨fun ⟨a1,a2⟩=>?_,fun e=>?_⟩⟩
 ·exact srt_one s1 hx (List.getElem?_eq_getElem hj) (by omega) (by omega)
 ·subst e
  rw [List.getElem?_eq_getElem hj] at hx
  obtain rfl:=Option.some.inj hx
  exact ⟨tf,ti⟩
 ·exact srt_one s2 hx (List.getElem?_eq_getElem hj2) (by omega) (by omega)
 ·subst e
  rw [List.getElem?_eq_getElem hj2] at hx
  obtain rfl:=Option.some.inj hx
  exact ⟨by omega,by omega⟩
end Go.Proofs.YtbmebfgapjhchaaGreatDoor
/- A closed fact: a name is made another one. -/
namespace Go.Proofs.YtbmebfgapjhchaaGreatDoor
open Go.RowKit
open M
def v0:X.U:=⟨0,4,0,0,4,0⟩
def ny:ByteArray:=⟨#[121]⟩
theorem us0:X.allU (fsOf l0)=[v0]:=all0
theorem nm_y:nmOk ny=true:=by
 unfold nmOk aloneB
 have:M.tok (bs ny)=(3,(bs ny).length):=by kernel_rfl
 rw [decide_eq_true (show ny.size≤40 by decide),Bool.true_and]
 exact decide_eq_true ⟨by decide,this⟩
theorem old0:txL l0 0 4=⟨#[120]⟩:=by
 have:txtAt ⟨#[100,101,102,32,120,32,61,32,49,59]⟩ 4=⟨#[120]⟩:=by
  refine bs_inj ?_
  unfold txtAt
  have h1:firstT ((⟨#[100,101,102,32,120,32,61,32,49,59]⟩:ByteArray).extract 4 10)=(3,1):=by
   unfold firstT
   rw [if_neg (by rw [ext_size _ _ _ (by decide)];decide),bs_cut]
   kernel_rfl
  rw [bs_cut]
  have h2:(⟨#[100,101,102,32,120,32,61,32,49,59]⟩:ByteArray).size=10:=rfl
  rw [h2,h1]
  rfl
 exact this
theorem sp0:spV l0 v0 ny 0=[⟨4,5,ny⟩]:=by
 unfold spV spK
 rw [us0]
 have h:selB l0 (v0.f:Int) (v0.i:Int) (txL l0 v0.f v0.i) 0 v0=true:=by
  unfold selB
  rw [decide_eq_true (rfl:txL l0 v0.f v0.i=txL l0 v0.f v0.i)]
  rfl
 rw [show [v0].take [v0].length=[v0] from rfl,List.filter_cons_of_pos h]
 show [mkSp (txL l0 0 4) ny v0]=_
 rw [old0]
 rfl
theorem gr0:grV l0 v0 ny=0:=by
 unfold grV
 show (1:Int) - ((txL l0 0 4).size:Int)=0
 rw [old0];rfl
theorem ap0:apT ⟨#[100,101,102,32,120,32,61,32,49,59]⟩ [⟨4,5,ny⟩]=⟨#[100,101,102,32,121,32,61,32,49,59]⟩:=by
 have hf:Ed.flt (⟨#[100,101,102,32,120,32,61,32,49,59]⟩:ByteArray).size [(⟨4,5,ny⟩:Rw)]=0:=by decide
 obtain ⟨Ls,e1,-,e2⟩:=apT_yes hf
 rw [e2]
 match Ls,e1 with
 | [],e1=>cases e1
 | c::d::r,e1=>simp at e1
 | [c],e1 =>
  rw [List.map_cons,List.map_nil] at e1
  injection e1 with e1 _
  unfold Ed.raw at e1
  injection e1 with q1 q2 q3
  have c1:c.f=4:=by omega
  have c2:c.t=5:=by omega
  have c3:c.s=[121]:=by
   have:=congrArg bs q3
   rw [bs_ba] at this
   exact this.symm
  obtain ⟨cf,ct,cs⟩:=c
  simp only at c1 c2 c3
  subst c1 c2 c3
  rfl
theorem out0:outL l0 (spV l0 v0 ny)=[⟨⟨#[97]⟩,⟨#[100,101,102,32,121,32,61,32,49,59]⟩⟩]:=by
 refine List.ext_getElem? fun i=>?_
 by_cases hi:i=0
 ·subst hi
  rw [outL_get (l:=l0) (i:=0) (a:=⟨⟨#[97]⟩,⟨#[100,101,102,32,120,32,61,32,49,59]⟩⟩) rfl,sp0,ap0]
  rfl
 ·rw [List.getElem?_eq_none (by rw [show (outL l0 (spV l0 v0 ny)).length=1 from outK_len _ _ _];omega),List.getElem?_eq_none (by show 1≤i;omega)]
theorem fs1:fsOf [⟨⟨#[97]⟩,⟨#[100,101,102,32,121,32,61,32,49,59]⟩⟩]=[([97],X.I1)]:=by
 have:X.itsT (bs ⟨#[100,101,102,32,121,32,61,32,49,59]⟩)=X.I1:=X.itsT1
 unfold fsOf
 rw [List.map_cons,List.map_nil,this]
 rfl
theorem us1:X.allU (fsOf (outL l0 (spV l0 v0 ny)))=[v0]:=by
 rw [out0,fs1]
 kernel_rfl
theorem rn0:RnOk l0 0 4 ny v0 v0:=by
 refine ⟨flt0,⟨0,rfl,by decide,?_⟩,by decide,⟨by rw [us0];exact List.mem_singleton.2 rfl,rfl,rfl⟩,nm_y,?_,?_⟩
 ·rw [us0]
  unfold atU
  have h1:upN [v0] ((0:Nat):Int) 4=1:=by kernel_rfl
  rw [h1,if_neg (by decide)]
  show (if v0.f=0∧(4:Int)≤(v0.i:Int)+((txL l0 0 4).size:Int) then some v0 else none)=some v0
  rw [old0,if_pos ⟨rfl,by decide⟩]
 ·rw [us1,us0,gr0]
  show [uq v0]=[mvQ (spV l0 v0 ny) 0 v0]
  have:mvQ (spV l0 v0 ny) 0 v0=uq v0:=by
   unfold mvQ mvI uq v0
   simp
  rw [this]
 ·intro i a ha
  match i with
  | 0 =>
   obtain rfl:=Option.some.inj ha
   rw [sp0,ap0];decide
  | i+1=>simp [l0] at ha
theorem chg0:idx l0 (spV l0 v0 ny) l0.length=[0]:=by
 show idx l0 (spV l0 v0 ny) (0+1)=[0]
 have:chg l0 (spV l0 v0 ny) 0=true:=by
  unfold chg
  show decide (apT ⟨#[100,101,102,32,120,32,61,32,49,59]⟩ (spV l0 v0 ny 0)≠⟨#[100,101,102,32,120,32,61,32,49,59]⟩)=true
  rw [sp0,ap0];decide
 rw [idx_succ,if_pos this]
 rfl
end Go.Proofs.YtbmebfgapjhchaaGreatDoor
/- The closed fact of the law ChangeBinds. -/
namespace Go.Proofs.YtbmebfgapjhchaaGreatDoor
open Go.RowKit
open M
set_option maxRecDepth 100000 in
set_option maxHeartbeats 4000000 in
theorem lives1_any (w:World) (hT:Tabs w):Calls Tryz.prog 4 #[] w fun e w'=>e=.returned (.bool true)∧Below w.heap.size w w':=by
 have kA:Below w.heap.size w (w.alloc (.cells #[.string ⟨#[97]⟩,.string ⟨#[100,101,102,32,120,32,61,32,49,59]⟩] 39)):=(Below.refl _ w).alloc (Nat.le_refl _) _
 have hR:=rename_any (some ⟨w.heap.size,0,none⟩) 1 l0 0 4 ny (w.alloc (.cells #[.string ⟨#[97]⟩,.string ⟨#[100,101,102,32,120,32,61,32,49,59]⟩] 39)) (hT.below kA) (IsAF.one _ _) (Nat.le_refl _) (by unfold maxLen;omega)
 have HC:Hid (Calls Tryz.prog 5 #[.slice (some ⟨w.heap.size,0,none⟩) 1 1,.int .i64 0,.int .i64 4,.string ⟨#[121]⟩] (w.alloc (.cells #[.string ⟨#[97]⟩,.string ⟨#[100,101,102,32,120,32,61,32,49,59]⟩] 39)) fun e w'=>RnRes l0 0 4 ny (w.alloc (.cells #[.string ⟨#[97]⟩,.string ⟨#[100,101,102,32,120,32,61,32,49,59]⟩] 39)) e w'):=hR
 have HK:=hide kA
 clear hR kA hT
 go_enter Tryz.func4,Tryz.ntmps4
 go_wp2_with fail
 refine (HC.out).mono ?_
 rintro e w1 X1
 rcases X1 with ⟨r,-,X1⟩|⟨u,v,pv,vs,rfl,X1⟩
 ·exact absurd rn0 ((X1.out).2 _ _)
 ·obtain ⟨hk,B1,hrow,-⟩:=X1.out
  have hb:Below w.heap.size w w1:=(HK.out).trans (B1.mono (HK.out).size)
  have hsp:spV l0 v ny=spV l0 v0 ny:=by
   obtain ⟨hvm,-⟩:=hk.vm
   rw [us0] at hvm
   rw [List.mem_singleton.1 hvm]
  rw [hsp,chg0] at hrow
  obtain ⟨g,c,rfl,-,-⟩:=hrow.form (by decide)
  have c0:w1.cell? ⟨g,0,none⟩=some (.int .i64 0):=hrow.cellAt 0 (by decide)
  have HB:=hide hb
  clear HC X1 hk B1 hrow hb HK hsp
  go_wp2_with fail
  go_ret
  exact ⟨rfl,HB.out⟩
end Go.Proofs.YtbmebfgapjhchaaGreatDoor
/- The law ChangeBinds. -/
namespace Go.Proofs.YtbmebfgapjhchaaGreatDoor
open Go.RowKit
open M
def pI (d:Int) (j k:Nat):Int:=if j<k then (j:Int) else d
theorem pI_succ (d:Int) {j k:Nat} (h:k≠j):pI d j (k+1)=pI d j k:=by
 unfold pI
 by_cases q:j<k
 ·rw [if_pos q,if_pos (by omega)]
 ·rw [if_neg q,if_neg (by omega)]
set_option maxRecDepth 100000 in
set_option maxHeartbeats 8000000 in
theorem binds_any (ao:Option Addr) (cap:Nat) (l:List AF) (fi at_:Int) (name:ByteArray) (w:World) (hT:Tabs w) (h:IsAF w w.heap.size ao l) (hl:l.length≤cap) (hc:cap≤maxLen) :
  Calls Tryz.prog 3 #[.slice ao l.length cap,.int .i64 fi,.int .i64 at_,.string name] w fun e w'=>e=.returned (.bool true)∧Below w.heap.size w w':=by
 have HV:=hide (lives1_any w hT)
 have HAF:Hid (∀ W,Below w.heap.size w W→IsAF W W.heap.size ao l):=fun W hW=>(h.below hW).wide hW.size
 have HT:Hid (∀ W,Below w.heap.size w W→Tabs W):=fun W hW=>hT.below hW
 have HCC:=hide (And.intro hl hc)
 clear h hT hl hc
 go_enter Tryz.func3,Tryz.ntmps3
 go_wp2_with fail
 refine (HV.out).mono ?_
 rintro e w1 ⟨rfl,B1⟩
 have HC:=hide (rename_any ao cap l fi at_ name w1 ((HT.out) _ B1) ((HAF.out) _ B1) (HCC.out).1 (HCC.out).2)
 have HB1:=hide B1
 clear HV B1
 go_wp2_with fail
 refine (HC.out).mono ?_
 rintro e w2 X2
 rcases X2 with ⟨r,rfl,X2⟩|⟨u,v,pv,vs,rfl,X2⟩
 ·have HF:Hid (Below w.heap.size w w2):=(HB1.out).trans ((X2.out).1.mono (HB1.out).size)
  clear HC X2
  go_wp2_with fail
  go_ret
  exact ⟨rfl,HF.out⟩
 obtain ⟨hk,B2,hrow,hrs⟩:=X2.out
 have hB2:Below w.heap.size w w2:=(HB1.out).trans (B2.mono (HB1.out).size)
 have hf:=hk.fl
 have hn16:=(fltF_ok hf).1
 have h0:0<l.length:=by obtain ⟨f,-,q,-⟩:=hk.ff;omega
 have hns:name.size≤40:=by
  have:=hk.nm
  unfold nmOk at this
  rw [Bool.and_eq_true] at this
  exact of_decide_eq_true this.1
 have hEd:=edOk_of h0 hf v hk.vm.1 name hns
 have HC2:=hide (patched_any ao cap l (spV l v name) pv vs w1.heap.size w2 ((HAF.out) _ hB2) h0 hn16 hEd.sz hEd.sl hEd.tt (no_flt hk.eq) hrow hrs)
 have HSM:=hide (all_same hk)
 have HFO:=hide (flt_out hk)
 have HR:Hid (∀ W,Below w.heap.size w W→Calls Tryz.prog 7 #[.slice ao l.length cap] W fun e w'=>∃ nv,e=.returned (.tuple #[nv,.nilIface])∧Hid (Below W.heap.size W w'∧w'.ownsRow W.heap.size 36 6 nv (X.allU (fsOf l)).length (uvs (X.allU (fsOf l)))∧(X.allU (fsOf l)).length≤1073741824)):=fun W hW=>resolve_yes ao cap l W ((HT.out) _ hW) ((HAF.out) _ hW) (HCC.out).1 (HCC.out).2 hf
 have HR2:Hid (∀ W g c,Below w.heap.size w W→W.ownsRow w2.heap.size 39 2 (.slice (some ⟨g,0,none⟩) l.length c) l.length (fvs (outL l (spV l v name)))→Calls Tryz.prog 7 #[.slice (some ⟨g,0,none⟩) l.length c] W fun e w'=>∃ nv,e=.returned (.tuple #[nv,.nilIface])∧Hid (Below W.heap.size W w'∧w'.ownsRow W.heap.size 36 6 nv (X.allU (fsOf (outL l (spV l v name)))).length (uvs (X.allU (fsOf (outL l (spV l v name)))))∧(X.allU (fsOf (outL l (spV l v name)))).length≤1073741824)):=fun W g c hW hr=>by
  have hlen:(outL l (spV l v name)).length=l.length:=outK_len _ _ _
  obtain ⟨_,_,eg,-,hglt⟩:=hr.form h0
  cases eg
  have hcp:=af_cap hr
  have:=resolve_yes (some ⟨g,0,none⟩) c (outL l (spV l v name)) W ((HT.out) _ hW) (af_owns hlen.symm hr hglt) (by rw [hlen];exact hcp.1) hcp.2 HFO.out
  rw [hlen] at this
  exact this
 obtain ⟨pa,pc,rfl⟩:∃ pa pc,pv=.slice pa (idx l (spV l v name) l.length).length pc:=by
  rcases hrow.2 with ⟨e,h1⟩|⟨g',cap,cur,e,-⟩
  ·exact ⟨none,0,by rw [h1];exact e⟩
  ·exact ⟨_,_,e⟩
 have HB2:=hide hB2
 generalize X.allU (fsOf l)=us at *
 generalize X.allU (fsOf (outL l (spV l v name)))=us2 at *
 clear HC X2 hk B2 hrow hrs hB2 hf hEd HFO HT HAF HCC HB1
 go_wp2_with fail
 refine (HC2.out).mono ?_
 rintro e w3 ⟨g,c,rfl,X3⟩
 obtain ⟨hrow3,B3⟩:=X3.out
 have hB3:Below w.heap.size w w3:=(HB2.out).trans (B3.mono (HB2.out).size)
 have HC3:=hide ((HR.out) w3 hB3)
 have HB3:=hide hB3
 have HROW3:=hide hrow3
 clear HC2 X3 hrow3 B3 hB3 HB2 HR
 go_wp2_with fail
 refine (HC3.out).mono ?_
 rintro e w4 ⟨nv,rfl,X4⟩
 obtain ⟨B4,hr4,hl4⟩:=X4.out
 have hB4:Below w.heap.size w w4:=(HB3.out).trans (B4.mono (HB3.out).size)
 have HC4:=hide ((HR2.out) w4 g c hB4 ((Kp.ofBelow B4 (fun _=>False)).owns HROW3.out (fun _ _=>id)))
 obtain ⟨na,nc,rfl⟩:∃ na nc,nv=.slice na us.length nc:=by
  rcases hr4.2 with ⟨e,h1⟩|⟨g',cap,cur,e,-⟩
  ·exact ⟨none,0,by rw [h1];exact e⟩
  ·exact ⟨_,_,e⟩
 have HB4:=hide hB4
 have HR4:=hide hr4
 clear HC3 X4 B4 hr4 hB4 HB3 HROW3 HR2
 go_wp2_with fail
 refine (HC4.out).mono ?_
 rintro e w5 ⟨mv,rfl,X5⟩
 obtain ⟨B5,hr5,hl5⟩:=X5.out
 have hB5:Below w.heap.size w w5:=(HB4.out).trans (B5.mono (HB4.out).size)
 have hlen:=(HSM.out).1
 rw [hlen] at hr5
 obtain ⟨ma,mc,rfl⟩:∃ ma mc,mv=.slice ma us.length mc:=by
  rcases hr5.2 with ⟨e,h1⟩|⟨g',cap,cur,e,-⟩
  ·exact ⟨none,0,by rw [h1];exact e⟩
  ·exact ⟨_,_,e⟩
 have HRA:=hide ((Kp.ofBelow B5 (fun _=>False)).owns HR4.out (fun _ _=>id))
 have HRB:Hid (w5.ownsRow w4.heap.size 36 6 (.slice ma us2.length mc) us2.length (uvs us2)):=by rw [hlen];exact hr5
 have HLN:=hide hlen
 have HB5:=hide hB5
 clear HC4 X5 B5 hr5 hB5 HB4 HR4 hl5 hlen
 go_wp2_with fail
 go_loopw [18] (fun sv wr=>∃ i:Nat,sv=.int .i64 i∧i≤us.length∧Hid (Below w5.heap.size w5 wr)) (fun v _=>us.length - (intOf v).toNat)
 case atStart=>exact ⟨0,rfl,Nat.zero_le _,Below.refl _ w5⟩
 case round =>
  obtain ⟨i,rfl,hi,HK⟩:=hrel
  by_cases g1:i<us.length
  case neg =>
   have j1:decide ((i:Int)<(us.length:Int))=false:=by simp;omega
   have j2:decide (i<us.length)=false:=by simp;omega
   have HF:Hid (Below w.heap.size w wr):=(HB5.out).trans ((HK.out).mono (HB5.out).size)
   clear g1 HK
   go_wp2_with fail
   go_ret
   exact ⟨rfl,HF.out⟩
  have j1:decide ((i:Int)<(us.length:Int))=true:=by simp;omega
  have j2:decide (i<us.length)=true:=by simp;omega
  have j3:(i:Int)<(us.length:Int):=by omega
  have ha:=List.getElem?_eq_getElem g1
  generalize us[i]=a at ha
  obtain ⟨b,hb⟩:∃ b,us2[i]?=some b:=⟨_,List.getElem?_eq_getElem (show i<us2.length by have:=HLN.out;omega)⟩
  have hS:=(HSM.out).2 i a b ha hb
  obtain ⟨ga,_,e1,-,-,hga,c0,c1,c2,c3,c4,c5⟩:=use_cells ((Kp.ofBelow HK.out (fun _=>False)).owns HRA.out (fun _ _=>id)) ha
  cases e1
  obtain ⟨gb,_,e1,-,-,hgb,d0,d1,d2,d3,d4,d5⟩:=use_cells ((Kp.ofBelow HK.out (fun _=>False)).owns HRB.out (fun _ _=>id)) hb
  cases e1
  obtain ⟨bf,bi,bs',btf,btt,be⟩:=b
  obtain ⟨s1,s2,s3,s4,s5,s6⟩:=hS
  simp only at s1 s2 s3 s4 s5 s6 d0 d1 d2 d3 d4 d5
  obtain rfl:bf=a.f:=by omega
  obtain rfl:bs'=a.s:=by omega
  obtain rfl:be=a.e:=by omega
  subst s4
  replace d0:=Lib.cell?_alloc_some (.cells #[.int .i64 a.f,.int .i64 a.i,.int .i64 a.s,.int .i64 a.tf,.int .i64 a.tt,.int .i64 a.e] 36) d0
  replace d1:=Lib.cell?_alloc_some (.cells #[.int .i64 a.f,.int .i64 a.i,.int .i64 a.s,.int .i64 a.tf,.int .i64 a.tt,.int .i64 a.e] 36) d1
  replace d2:=Lib.cell?_alloc_some (.cells #[.int .i64 a.f,.int .i64 a.i,.int .i64 a.s,.int .i64 a.tf,.int .i64 a.tt,.int .i64 a.e] 36) d2
  replace d3:=Lib.cell?_alloc_some (.cells #[.int .i64 a.f,.int .i64 a.i,.int .i64 a.s,.int .i64 a.tf,.int .i64 a.tt,.int .i64 a.e] 36) d3
  replace d4:=Lib.cell?_alloc_some (.cells #[.int .i64 a.f,.int .i64 a.i,.int .i64 a.s,.int .i64 a.tf,.int .i64 a.tt,.int .i64 a.e] 36) d4
  replace d5:=Lib.cell?_alloc_some (.cells #[.int .i64 a.f,.int .i64 a.i,.int .i64 a.s,.int .i64 a.tf,.int .i64 a.tt,.int .i64 a.e] 36) d5
  have hA0:=heap_alloc_new wr (.cells #[.int .i64 a.f,.int .i64 a.i,.int .i64 a.s,.int .i64 a.tf,.int .i64 a.tt,.int .i64 a.e] 36)
  have hB0:=heap_alloc_new (wr.alloc (.cells #[.int .i64 a.f,.int .i64 a.i,.int .i64 a.s,.int .i64 a.tf,.int .i64 a.tt,.int .i64 a.e] 36)) (.cells #[.int .i64 a.f,.int .i64 bi,.int .i64 a.s,.int .i64 a.tf,.int .i64 btt,.int .i64 a.e] 36)
  have hz:(wr.alloc (.cells #[.int .i64 a.f,.int .i64 a.i,.int .i64 a.s,.int .i64 a.tf,.int .i64 a.tt,.int .i64 a.e] 36)).heap.size=wr.heap.size+1:=by simp
  rw [hz] at hB0
  have kW:Below wr.heap.size wr ((wr.alloc (.cells #[.int .i64 a.f,.int .i64 a.i,.int .i64 a.s,.int .i64 a.tf,.int .i64 a.tt,.int .i64 a.e] 36)).alloc (.cells #[.int .i64 a.f,.int .i64 bi,.int .i64 a.s,.int .i64 a.tf,.int .i64 btt,.int .i64 a.e] 36)):=((Below.refl _ wr).alloc (Nat.le_refl _) _).alloc (by rw [hz];omega) _
  have hA1:((wr.alloc (.cells #[.int .i64 a.f,.int .i64 a.i,.int .i64 a.s,.int .i64 a.tf,.int .i64 a.tt,.int .i64 a.e] 36)).alloc (.cells #[.int .i64 a.f,.int .i64 bi,.int .i64 a.s,.int .i64 a.tf,.int .i64 btt,.int .i64 a.e] 36)).heap[wr.heap.size]?=some (.cells #[.int .i64 a.f,.int .i64 a.i,.int .i64 a.s,.int .i64 a.tf,.int .i64 a.tt,.int .i64 a.e] 36 (0,0)):=(Below.heap_alloc _ _ _ (by rw [hz];omega)).trans hA0
  have HKW:Hid (Below w5.heap.size w5 ((wr.alloc (.cells #[.int .i64 a.f,.int .i64 a.i,.int .i64 a.s,.int .i64 a.tf,.int .i64 a.tt,.int .i64 a.e] 36)).alloc (.cells #[.int .i64 a.f,.int .i64 bi,.int .i64 a.s,.int .i64 a.tf,.int .i64 btt,.int .i64 a.e] 36))):=(HK.out).trans (kW.mono (HK.out).size)
  have HS5:=hide s5
  have HS6:=hide s6
  have y0:=cell_of_row _ _ 0 _ _ _ hA1
  have y2:=cell_of_row _ _ 2 _ _ _ hA1
  have y3:=cell_of_row _ _ 3 _ _ _ hA1
  have y4:=cell_of_row _ _ 4 _ _ _ hA1
  have y5:=cell_of_row _ _ 5 _ _ _ hA1
  have z0:=cell_of_row _ _ 0 _ _ _ hB0
  have z2:=cell_of_row _ _ 2 _ _ _ hB0
  have z3:=cell_of_row _ _ 3 _ _ _ hB0
  have z4:=cell_of_row _ _ 4 _ _ _ hB0
  have z5:=cell_of_row _ _ 5 _ _ _ hB0
  have HA1:=hide hA1
  have HB0:=hide hB0
  have HSZ:Hid (wr.heap.size+1<((wr.alloc (.cells #[.int .i64 a.f,.int .i64 a.i,.int .i64 a.s,.int .i64 a.tf,.int .i64 a.tt,.int .i64 a.e] 36)).alloc (.cells #[.int .i64 a.f,.int .i64 bi,.int .i64 a.s,.int .i64 a.tf,.int .i64 btt,.int .i64 a.e] 36)).heap.size):=heap_lt hB0
  clear hA0 hz kW s5 s6 s1 s2 s3 hA1 hB0
  by_cases g2:a.tt<0
  ·have q1:decide (a.tt<0)=true:=decide_eq_true g2
   have q2:decide (btt<0)=true:=decide_eq_true ((HS5.out) g2)
   clear g2
   go_wp2_with fail
   exact ⟨⟨i+1,by simp,by omega,HKW⟩,by simp [intOf];omega⟩
  have q1:decide (a.tt<0)=false:=decide_eq_false g2
  obtain ⟨hbt,j,hj,hA,hB⟩:=(HS6.out) (by omega)
  have q2:decide (btt<0)=false:=decide_eq_false (by omega)
  have HJA:=hide hA
  have HJB:=hide hB
  clear hA hB hbt g2
  go_wp2_with fail
  generalize ((wr.alloc (.cells #[.int .i64 a.f,.int .i64 a.i,.int .i64 a.s,.int .i64 a.tf,.int .i64 a.tt,.int .i64 a.e] 36)).alloc (.cells #[.int .i64 a.f,.int .i64 bi,.int .i64 a.s,.int .i64 a.tf,.int .i64 btt,.int .i64 a.e] 36))=V at *
  clear c0 c1 c2 c3 c4 c5 d0 d1 d2 d3 d4 d5 y0 y2 y5 z0 z2 z5 HK hga hgb HA1 HB0
  generalize wr.heap.size=nb at *
  replace y3:V.cell? ⟨nb,3,none⟩=some (.int .i64 a.tf):=y3
  replace y4:V.cell? ⟨nb,4,none⟩=some (.int .i64 a.tt):=y4
  replace z3:V.cell? ⟨nb+1,3,none⟩=some (.int .i64 a.tf):=z3
  replace z4:V.cell? ⟨nb+1,4,none⟩=some (.int .i64 btt):=z4
  go_loopw [23,21,22] (fun kv pv qv wr2=>∃ k:Nat,kv=.int .i64 k∧pv=.int .i64 (pI (-1) j k)∧qv=.int .i64 (pI (-2) j k)∧k≤us.length∧Hid (Below V.heap.size V wr2)) (fun kv _ _ _=>us.length - (intOf kv).toNat)
  case atStart=>exact ⟨0,rfl,rfl,rfl,Nat.zero_le _,Below.refl _ V⟩
  case round =>
   obtain ⟨k,rfl,rfl,rfl,hk,HKI⟩:=hrel
   by_cases g3:k<us.length
   case neg =>
    have k1:decide ((k:Int)<(us.length:Int))=false:=by simp;omega
    have k2:decide (k<us.length)=false:=by simp;omega
    obtain rfl:k=us.length:=by omega
    have e1:pI (-1) j us.length=(j:Int):=if_pos hj
    have e2:pI (-2) j us.length=(j:Int):=if_pos hj
    rw [e1,e2]
    have HF:Hid (Below w5.heap.size w5 wr):=(HKW.out).trans ((HKI.out).mono (HKW.out).size)
    clear e1 e2 g3 y3 y4 z3 z4 HKI
    go_wp2_with fail
    exact ⟨⟨i+1,by simp,by omega,HF⟩,by simp [intOf];omega⟩
   have k1:decide ((k:Int)<(us.length:Int))=true:=by simp;omega
   have k2:decide (k<us.length)=true:=by simp;omega
   have k3:(k:Int)<(us.length:Int):=by omega
   have hx:=List.getElem?_eq_getElem g3
   generalize us[k]=x at hx
   obtain ⟨y,hy⟩:∃ y,us2[k]?=some y:=⟨_,List.getElem?_eq_getElem (show k<us2.length by have:=HLN.out;omega)⟩
   have hbb:Below w5.heap.size w5 wr:=(HKW.out).trans ((HKI.out).mono (HKW.out).size)
   obtain ⟨_,_,ee,-,-,-,x0,x1,-,-,-,-⟩:=use_cells ((Kp.ofBelow hbb (fun _=>False)).owns HRA.out (fun _ _=>id)) hx
   cases ee
   obtain ⟨_,_,ee,-,-,-,w0',w1',-,-,-,-⟩:=use_cells ((Kp.ofBelow hbb (fun _=>False)).owns HRB.out (fun _ _=>id)) hy
   cases ee
   have hsz:=HSZ.out
   have r3:=kcb HKI.out (show nb<V.heap.size by omega) y3
   have r4:=kcb HKI.out (show nb<V.heap.size by omega) y4
   have t3:=kcb HKI.out hsz z3
   have t4:=kcb HKI.out hsz z4
   have hxa:=(HJA.out) k x hx
   have hyb:=(HJB.out) k y hy
   clear hx hy hbb hsz
   by_cases g4:k=j
   ·obtain ⟨a1,a2⟩:=hxa.2 g4
    obtain ⟨b1,b2⟩:=hyb.2 g4
    have HP1:Hid (pI (-1) j (k+1)=(k:Int)):=by show _=_;unfold pI;rw [if_pos (by omega),g4]
    have HP2:Hid (pI (-2) j (k+1)=(k:Int)):=by show _=_;unfold pI;rw [if_pos (by omega),g4]
    have m1:((x.f:Int)==a.tf)=true:=by simpa using a1
    have m2:((x.i:Int)==a.tt)=true:=by simpa using a2
    have m3:((y.f:Int)==a.tf)=true:=by simpa using b1
    have m4:((y.i:Int)==btt)=true:=by simpa using b2
    clear a1 a2 b1 b2 hxa hyb g4
    go_wp2_with fail
    go_quiet (fail)
    go_wp2_with fail
    go_quiet (fail)
    go_wp2_with fail
    exact ⟨⟨k+1,by simp,by rw [HP1.out],by rw [HP2.out],by omega,belowN HKI.out _⟩,by simp [intOf];omega⟩
   have HP1:Hid (pI (-1) j (k+1)=pI (-1) j k):=pI_succ _ g4
   have HP2:Hid (pI (-2) j (k+1)=pI (-2) j k):=pI_succ _ g4
   have na':=fun q=>g4 (hxa.1 q)
   have nb':=fun q=>g4 (hyb.1 q)
   generalize pI (-1) j k=P1 at *
   generalize pI (-2) j k=P2 at *
   clear hxa hyb g4
   by_cases a1:(x.f:Int)=a.tf
   ·have m1:((x.f:Int)==a.tf)=true:=by simpa using a1
    have m2:((x.i:Int)==a.tt)=false:=by simpa using fun q=>na' ⟨a1,q⟩
    clear a1 na'
    by_cases b1:(y.f:Int)=a.tf
    ·have m3:((y.f:Int)==a.tf)=true:=by simpa using b1
     have m4:((y.i:Int)==btt)=false:=by simpa using fun q=>nb' ⟨b1,q⟩
     clear b1 nb'
     go_wp2_with fail
     go_quiet (fail)
     go_wp2_with fail
     go_quiet (fail)
     go_wp2_with fail
     exact ⟨⟨k+1,by simp,by rw [HP1.out],by rw [HP2.out],by omega,belowN HKI.out _⟩,by simp [intOf];omega⟩
    ·have m3:((y.f:Int)==a.tf)=false:=by simpa using b1
     clear b1 nb'
     go_wp2_with fail
     go_quiet (fail)
     go_wp2_with fail
     go_quiet (fail)
     go_wp2_with fail
     exact ⟨⟨k+1,by simp,by rw [HP1.out],by rw [HP2.out],by omega,belowN HKI.out _⟩,by simp [intOf];omega⟩
   ·have m1:((x.f:Int)==a.tf)=false:=by simpa using a1
    clear a1 na'
    by_cases b1:(y.f:Int)=a.tf
    ·have m3:((y.f:Int)==a.tf)=true:=by simpa using b1
     have m4:((y.i:Int)==btt)=false:=by simpa using fun q=>nb' ⟨b1,q⟩
     clear b1 nb'
     go_wp2_with fail
     go_quiet (fail)
     go_wp2_with fail
     go_quiet (fail)
     go_wp2_with fail
     exact ⟨⟨k+1,by simp,by rw [HP1.out],by rw [HP2.out],by omega,belowN HKI.out _⟩,by simp [intOf];omega⟩
    ·have m3:((y.f:Int)==a.tf)=false:=by simpa using b1
     clear b1 nb'
     go_wp2_with fail
     go_quiet (fail)
     go_wp2_with fail
     go_quiet (fail)
     go_wp2_with fail
     exact ⟨⟨k+1,by simp,by rw [HP1.out],by rw [HP2.out],by omega,belowN HKI.out _⟩,by simp [intOf];omega⟩
end Go.Proofs.YtbmebfgapjhchaaGreatDoor
