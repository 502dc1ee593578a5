/- Package change: all names that are made others (renamed). -/
import Derived.Test.YtbmebfgapjhchaaGreatDoorCgh
import Derived.Test.YtbmebfgapjhchaaGreatDoorWzw
import Derived.Test.YtbmebfgapjhchaaGreatDoorJx
namespace Go.Proofs.YtbmebfgapjhchaaGreatDoor
open Go.RowKit
open M
def selB (l:List AF) (tf tt:Int) (old:ByteArray) (i:Nat) (u:X.U):Bool:=decide (u.f=i)&&(decide (u.tf=tf)&&(decide (u.tt=tt)&&decide (txL l u.f u.i=old)))
def mkSp (old name:ByteArray) (u:X.U):Rw:=⟨u.i,(u.i:Int)+old.size,name⟩
def spK (l:List AF) (us:List X.U) (tf tt:Int) (old name:ByteArray) (k i:Nat):List Rw:=((us.take k).filter (selB l tf tt old i)).map (mkSp old name)
theorem spK_no {l:List AF} {us:List X.U} {tf tt:Int} {old name:ByteArray} {k:Nat} {u:X.U} (hu:us[k]?=some u) (i:Nat) (h:selB l tf tt old i u=false):spK l us tf tt old name (k+1) i=spK l us tf tt old name k i:=by
 unfold spK
 rw [List.take_add_one,hu,List.filter_append]
 simp [h]
theorem spK_yes {l:List AF} {us:List X.U} {tf tt:Int} {old name:ByteArray} {k:Nat} {u:X.U} (hu:us[k]?=some u) (h:selB l tf tt old u.f u=true):spK l us tf tt old name (k+1) u.f=spK l us tf tt old name k u.f++[mkSp old name u]:=by
 unfold spK
 rw [List.take_add_one,hu,List.filter_append]
 simp [h]
theorem spK_len (l:List AF) (us:List X.U) (tf tt:Int) (old name:ByteArray) (k i:Nat):(spK l us tf tt old name k i).length≤us.length:=by
 unfold spK
 rw [List.length_map]
 refine Nat.le_trans (List.length_filter_le _ _) ?_
 rw [List.length_take];omega
theorem IsEd.mono {w:World} {B B' g n:Nat} {vs:Nat→Value} {sp:Nat→List Rw} (h:IsEd w B g n vs sp) (hb:B'≤B):IsEd w B' g n vs sp:=⟨h.cell,h.blk,Nat.le_trans hb h.gB,fun i hi=>(h.row i hi).mono hb,h.sep⟩
variable {w:World} {wb B:Nat} {ao:Option Addr} {cap:Nat} {l:List AF} {rv nv:Value} {us:List X.U}
set_option maxRecDepth 100000 in
set_option maxHeartbeats 8000000 in
theorem renamed_any (h:IsWs w wb B ao cap l rv nv us) (hT:Tabs w) (hn:l.length≤16) (hsz:∀ a∈l,a.t.size≤1048576) (hul:us.length≤1048576) (hU:∀ u∈us,∃ a,l[u.f]?=some a∧u.i<a.t.size)
  (x0 x1 x2 x5:Int) (v:X.U) (hv:v∈us) (name:ByteArray) (hnm:name.size≤40) :
  Calls Tryz.prog 11 #[.pointer (some ⟨wb,0,none⟩),.agg #[.int .i64 x0,.int .i64 x1,.int .i64 x2,.int .i64 v.f,.int .i64 v.i,.int .i64 x5],.string name] w fun e w'=>∃ g vs,e=.returned (.tuple #[.slice (some ⟨g,0,none⟩) l.length l.length,.int .i64 ((name.size:Int) - (txL l v.f v.i).size)]) ∧
   Hid (IsEd w' w.heap.size g l.length vs (spK l us v.f v.i (txL l v.f v.i) name us.length)∧Below w.heap.size w w'):=by
 obtain ⟨i0,hi0,hz0,hz1,hz2⟩:=info_parts infoSp
 obtain ⟨va,hva,hvi⟩:=hU v hv
 have hB1:Below w.heap.size w (w.alloc (.cells #[.int .i64 x0,.int .i64 x1,.int .i64 x2,.int .i64 v.f,.int .i64 v.i,.int .i64 x5] 36)):=(Below.refl _ w).alloc (Nat.le_refl _) _
 have hO1:=heap_alloc_new w (.cells #[.int .i64 x0,.int .i64 x1,.int .i64 x2,.int .i64 v.f,.int .i64 v.i,.int .i64 x5] 36)
 have d3:=cell_of_row _ _ 3 _ _ _ hO1
 have d4:=cell_of_row _ _ 4 _ _ _ hO1
 have HC1:=hide (textAt_any (h.below hB1) (hT.below hB1) (i:=v.i) hva (by omega) (by have:=hsz va (List.mem_of_getElem? hva);omega))
 have HW:=hide (h.below hB1)
 have HT:=hide (hT.below hB1)
 have HB1:=hide hB1
 have HO1:=hide hO1
 have HU:=hide hU
 have HSZ:=hide hsz
 have hvs:va.t.size≤1048576:=hsz va (List.mem_of_getElem? hva)
 have hold:(txL l v.f v.i).size≤1048576:=by
  have h1:=(txtAt_size va.t v.i (by omega)).2
  unfold txL;rw [hva];show (txtAt va.t v.i).size≤_;omega
 generalize txL l v.f v.i=old at *
 clear h hT hB1 hO1 hva hU hsz
 go_enter Tryz.func11,Tryz.ntmps11
 go_wp2_with fail
 refine (HC1.out).mono ?_
 rintro e w1 ⟨rfl,B1⟩
 have HW1:=hide ((HW.out).below B1)
 have HT1:=hide ((HT.out).below B1)
 have HB2:Hid (Below w.heap.size w w1):=(HB1.out).trans (B1.mono (HB1.out).size)
 have hO2:=(B1.block w.heap.size (by simp)).trans HO1.out
 have HL1:Hid (w.heap.size<w1.heap.size):=heap_lt hO2
 have e3:=cell_of_row _ _ 3 _ _ _ hO2
 have e4:=cell_of_row _ _ 4 _ _ _ hO2
 have HO2:=hide hO2
 have HC2:=hide (noEdits_any HW1.out hn)
 have c2:=cell_of_row _ _ 2 _ _ _ (HW1.out).blk
 obtain ⟨na,nc,rfl⟩:∃ na nc,nv=.slice na us.length nc:=by
  rcases ((HW1.out).nms).2 with ⟨e,h0⟩|⟨g,cap,cur,e,-⟩
  ·exact ⟨none,0,by rw [h0];exact e⟩
  ·exact ⟨_,_,e⟩
 clear HC1 HW HT HB1 HO1 B1 d3 d4 hO2 e3 e4
 go_wp2_with fail
 refine (HC2.out).mono ?_
 rintro e w2 ⟨vs0,rfl,X2⟩
 obtain ⟨E2,B2⟩:=X2.out
 have c2:=kcb B2 (heap_lt ((HW1.out).blk)) c2
 have HE2:=hide E2
 have HB3:=hide B2
 clear HC2 X2 E2 B2
 go_wp2_with fail
 go_loopw [25] (fun sv wr=>∃ (k:Nat) (vs:Nat→Value),sv=.int .i64 k∧k≤us.length∧Hid (IsEd wr w1.heap.size w1.heap.size l.length vs (spK l us v.f v.i old name k))∧Hid (Below w1.heap.size w1 wr)) (fun v _=>us.length - (intOf v).toNat)
 case atStart=>exact ⟨0,vs0,rfl,Nat.zero_le _,HE2,HB3⟩
 case round =>
  obtain ⟨k,vs,rfl,hk,HE,HK⟩:=hrel
  by_cases g1:k<us.length
  case neg =>
   have j1:decide ((k:Int)<(us.length:Int))=false:=by simp;omega
   have j2:decide (k<us.length)=false:=by simp;omega
   have HF:Hid (IsEd wr w.heap.size w1.heap.size l.length vs (spK l us v.f v.i old name us.length)∧Below w.heap.size w wr):=by
    obtain rfl:k=us.length:=by omega
    exact ⟨(HE.out).mono (HB2.out).size,(HB2.out).trans ((HK.out).mono (HB2.out).size)⟩
   clear g1 HE HK HB2
   go_wp2_with fail
   go_ret2
   exact ⟨_,_,rfl,HF⟩
  have j1:decide ((k:Int)<(us.length:Int))=true:=by simp;omega
  have j2:decide (k<us.length)=true:=by simp;omega
  have j3:(k:Int)<(us.length:Int):=by omega
  have hu:=List.getElem?_eq_getElem g1
  generalize us[k]=u at hu
  have HWr:=hide ((HW1.out).below HK.out)
  obtain ⟨gu,_,eu,-,-,-,p0,p1,p2,p3,p4,p5⟩:=use_cells (HWr.out).nms hu
  cases eu
  have e3:=cell_of_row _ _ 3 _ _ _ (((HK.out).block w.heap.size HL1.out).trans HO2.out)
  have e4:=cell_of_row _ _ 4 _ _ _ (((HK.out).block w.heap.size HL1.out).trans HO2.out)
  replace e3:∀ o,(wr.alloc o).cell? ⟨w.heap.size,3,none⟩=some (.int .i64 v.f):=fun o=>Lib.cell?_alloc_some o e3
  replace e4:∀ o,(wr.alloc o).cell? ⟨w.heap.size,4,none⟩=some (.int .i64 v.i):=fun o=>Lib.cell?_alloc_some o e4
  have hBW:Below wr.heap.size wr (wr.alloc (.cells #[.int .i64 u.f,.int .i64 u.i,.int .i64 u.s,.int .i64 u.tf,.int .i64 u.tt,.int .i64 u.e] 36)):=(Below.refl _ wr).alloc (Nat.le_refl _) _
  have hOW:=heap_alloc_new wr (.cells #[.int .i64 u.f,.int .i64 u.i,.int .i64 u.s,.int .i64 u.tf,.int .i64 u.tt,.int .i64 u.e] 36)
  have HNO:Hid ((∀ i,selB l v.f v.i old i u=false)→∀ W,Below wr.heap.size wr W→(∃ (k':Nat) (vs:Nat→Value),Value.int .i64 ((k:Int)+1)=.int .i64 k'∧k'≤us.length∧Hid (IsEd W w1.heap.size w1.heap.size l.length vs (spK l us v.f v.i old name k'))∧Hid (Below w1.heap.size w1 W))∧us.length - (intOf (Value.int .i64 ((k:Int)+1))).toNat<us.length - (intOf (Value.int .i64 (k:Int))).toNat):=fun hno W hW=>by
   refine ⟨⟨k+1,vs,by simp,by omega,?_,(HK.out).trans (hW.mono (HK.out).size)⟩,by simp [intOf];omega⟩
   have:spK l us v.f v.i old name (k+1)=spK l us v.f v.i old name k:=funext fun i=>spK_no hu i (hno i)
   rw [this]
   exact (HE.out).below hW
  have HBW:=hide hBW
  by_cases g2:u.tf=(v.f:Int)
  case neg =>
   have d1:(u.tf==(v.f:Int))=false:=by simpa using g2
   have HN:=hide ((HNO.out) (fun i=>by unfold selB;simp [g2]) _ hBW)
   clear HNO g2 HE HK hBW hOW
   go_wp2_with fail
   exact HN.out
  have d1:(u.tf==(v.f:Int))=true:=by simpa using g2
  have HG2:=hide g2
  clear g2
  by_cases g3:u.tt=(v.i:Int)
  case neg =>
   have d2:(u.tt==(v.i:Int))=false:=by simpa using g3
   have HN:=hide ((HNO.out) (fun i=>by unfold selB;simp [g3]) _ hBW)
   clear HNO g3 HE HK hBW hOW
   go_wp2_with fail
   exact HN.out
  have d2:(u.tt==(v.i:Int))=true:=by simpa using g3
  have HG3:=hide g3
  clear g3
  obtain ⟨a,ha,hai⟩:=(HU.out) u (List.mem_of_getElem? hu)
  have HC:=hide (textAt_any ((HWr.out).below hBW) (((HT1.out).below HK.out).below hBW) (i:=u.i) ha (by omega) (by have:=(HSZ.out) a (List.mem_of_getElem? ha);omega))
  have hfl:u.f<l.length:=by
   rcases Nat.lt_or_ge u.f l.length with g|g
   ·exact g
   ·rw [List.getElem?_eq_none g] at ha;cases ha
  have hai2:u.i≤1048576:=by have:=(HSZ.out) a (List.mem_of_getElem? ha);omega
  have HOW:=hide hOW
  clear hBW hOW ha hai
  by_cases g4:txL l u.f u.i=old
  case neg =>
   have HN:=hide (fun W hW=>(HNO.out) (fun i=>by unfold selB;simp [g4]) W hW)
   have d3:((txL l u.f u.i).toList==old.toList)=false:=by rw [beq_eq_false_iff_ne,ByteArray.toList_eq,ByteArray.toList_eq];exact fun e=>g4 (bs_inj e)
   generalize txL l u.f u.i=tx at *
   clear HNO HE HK
   go_wp2_with fail
   refine (HC.out).mono ?_
   rintro e w3 ⟨rfl,B3⟩
   have HN3:=hide ((HN.out) w3 ((HBW.out).trans (B3.mono (HBW.out).size)))
   clear HC HN B3
   go_wp2_with fail
   exact HN3.out
  have HSEL:Hid (selB l v.f v.i old u.f u=true):=by
   show _=_
   unfold selB
   rw [HG2.out,HG3.out,g4]
   simp
  have HSEN:Hid (∀ i,i≠u.f→selB l v.f v.i old i u=false):=fun i hi=>by
   unfold selB
   rw [decide_eq_false (Ne.symm hi)];rfl
  rw [g4] at HC
  clear g4
  go_wp2_with fail
  refine (HC.out).mono ?_
  rintro e w3 ⟨rfl,B3⟩
  have HE3:=hide (((HE.out).below HBW.out).below B3)
  have hO3:=(B3.block wr.heap.size (by simp)).trans HOW.out
  have q0:=cell_of_row _ _ 0 _ _ _ hO3
  have q1:=cell_of_row _ _ 1 _ _ _ hO3
  have q2:=(HE3.out).cell u.f hfl
  have HO3:=hide hO3
  have HB3':Hid (Below wr.heap.size wr w3):=(HBW.out).trans (B3.mono (HBW.out).size)
  have HL3:Hid (wr.heap.size<w3.heap.size):=heap_lt hO3
  have HLE:Hid (w1.heap.size≤wr.heap.size∧w1.heap.size<w3.heap.size):=⟨(HK.out).size,(HE3.out).lt⟩
  have f2:w3.frozen? ⟨w1.heap.size,u.f,none⟩=false:=by obtain ⟨c,e⟩:=(HE3.out).blk;exact frzN e _
  have hrow:=(HE3.out).row u.f hfl
  have hfar:=fun k=>(HE3.out).far hfl (k:=k)
  have hsl:=spK_len l us v.f v.i old name k u.f
  obtain ⟨sa,sc,evs⟩:∃ sa sc,vs u.f=.slice sa (spK l us v.f v.i old name k u.f).length sc:=by
   rcases hrow.2 with ⟨e,h0⟩|⟨g,cap,cur,e,-⟩
   ·exact ⟨none,0,by rw [h0];exact e⟩
   ·exact ⟨_,_,e⟩
  rw [evs] at q2
  rw [evs] at hrow hfar
  have HROW:=hide hrow
  have HFAR:=hide hfar
  have HVS:=hide evs
  obtain ⟨m,hm⟩:∃ m,u.i+old.size=m:=⟨_,rfl⟩
  have i5:(u.i:Int)+(old.size:Int)=(m:Int):=by omega
  have HM:=hide hm
  have i6:(u.f:Int)<(l.length:Int):=by omega
  have i7:IntKind.i64.wrap (m:Int)=(m:Int):=IntWalk.i64_in _ (by omega)
  generalize hq:(spK l us v.f v.i old name k u.f).length=ns at *
  have HQ:=hide hq
  have hns:ns≤1048576:=by omega
  clear HC HNO B3 hO3 hrow hfar evs hm hq hsl
  go_wp2_with fail
  refine wpTo_start (S:=fun w'=>w'.cell? ⟨wr.heap.size,0,none⟩=some (.int .i64 u.f)∧w'.cell? ⟨wr.heap.size,1,none⟩=some (.int .i64 u.i)∧w'.cell? ⟨w1.heap.size,u.f,none⟩=some (.slice sa ns sc)) (z:=20) (by kernel_rfl) ?_
  have hS:w3.drew.cell? ⟨wr.heap.size,0,none⟩=some (.int .i64 u.f)∧w3.drew.cell? ⟨wr.heap.size,1,none⟩=some (.int .i64 u.i)∧w3.drew.cell? ⟨w1.heap.size,u.f,none⟩=some (.slice sa ns sc):=⟨q0,q1,q2⟩
  iterate 17 (refine wpTo_nx0 (v:=?_) rfl rfl (by kernel_rfl) (by kernel_rfl) (by kernel_rfl) (by kernel_rfl) (fun _ _ _ h=>h) (Or.inl ⟨by rfl,?_⟩) hS ?_;rotate_left;(· (intro wx hSw;(try dsimp only at hSw);go_simp;try (with_reducible rfl)));simp only [Act.put,List.setIfInBounds_toArray,List.set_cons_zero,List.set_cons_succ])
  refine wpTo_one (i:=17) (by kernel_rfl) rfl (fun K hK=>?_)
  go_simp
  refine hK.out _ _ (fun _=>by first|go_keep|(dsimp only;go_keep)) (fun hS2=>?_)
  clear hS hK K
  have hS:=hS2 (by decide)
  clear hS2
  refine wpTo_one (i:=18) (by kernel_rfl) rfl (fun K hK=>?_)
  refine step_append_lies _ (by rfl) _ _ _ (by rfl) w1.heap.size 70 i0 _ 3 32 Tryz.underlying40 hi0 hz0 hz1 hz2 rfl (by omega) (.slice sa ns sc) ns _ (by rfl) (((HROW.out:w3.ownsRow _ _ _ _ _ _).alloc _).drew)
   ⟨w3.heap.size,0,none⟩ 1 1 [.int .i64 u.i,.int .i64 m,.string name] (by rfl) (by rfl) (World.news_of_block (cs:=#[.int .i64 u.i,.int .i64 m,.string name]) (t:=70) (fr:=(0,0)) (heap_alloc_new w3 _)) (by simp [Value.oneCell'])
   (by omega) (by unfold maxLen;omega) (by omega) (by have:=(HLE.out).2;simp;omega) (w3.heap.size+1) (by simp) ?_
  intro g5 cap5 w5 hown5 hgrow5 hat5 hlt5
  have hl3:=HL3.out
  have hle:=HLE.out
  have hna:some w1.heap.size≠(Value.slice sa ns sc).ownBlock:=fun e=>((HFAR.out) _ e.symm).1 rfl
  have hnb:some wr.heap.size≠(Value.slice sa ns sc).ownBlock:=fun e=>by
   rcases (HROW.out:w3.ownsRow _ _ _ _ _ _).2 with ⟨e',-⟩|⟨g',_,cur,e',-,hg',-⟩
   ·rw [e'] at e;cases e
   ·rw [e'] at e
    obtain rfl:wr.heap.size=g':=Option.some.inj e
    rw [HO3.out] at hg'
    injection hg' with hg'
    injection hg' with _ h2 _
    exact absurd h2 (by decide)
  have y1:=(hgrow5.cell_far ⟨wr.heap.size,0,none⟩ (by simp;omega) hnb).trans hS.1
  have y2:=(hgrow5.cell_far ⟨wr.heap.size,1,none⟩ (by simp;omega) hnb).trans hS.2.1
  have y3:w5.cell? ⟨w1.heap.size,u.f,none⟩=some (.slice sa ns sc):=(hgrow5.cell_far ⟨w1.heap.size,u.f,none⟩ (by simp;omega) hna).trans hS.2.2
  have x3:w5.frozen? ⟨w1.heap.size,u.f,none⟩=false:=(hgrow5.frozen_far ⟨w1.heap.size,u.f,none⟩ (by simp;omega) hna).trans ((World.frozen?_alloc_old _ _ ⟨w1.heap.size,u.f,none⟩ (by simp;omega)).trans f2)
  show K (Act.put _ (some 69) _) w5
  refine hK.out _ _ (fun _=>⟨y1,y2,y3⟩) (fun hS2=>?_)
  clear hS hK K
  have hS:=hS2 (by decide)
  clear hS2
  simp only [Act.put,List.setIfInBounds_toArray,List.set_cons_zero,List.set_cons_succ]
  refine wpTo_one (i:=19) (by kernel_rfl) rfl (fun K hK=>?_)
  go_simp
  refine hK.out _ _ (fun _=>hS) (fun _=>?_)
  clear hK K
  refine wpTo_one (i:=20) (by kernel_rfl) rfl (fun K hK=>?_)
  go_simp
  refine hK.out _ _ (fun h=>absurd rfl h) (fun _=>wpTo_end (by kernel_rfl) ?_)
  clear hK K
  have HF:Hid (∃ vs',IsEd (w5.setCell ⟨w1.heap.size,u.f,none⟩ (.slice (some ⟨g5,0,none⟩) (ns+1) cap5)) w1.heap.size w1.heap.size l.length vs' (spK l us v.f v.i old name (k+1))∧Below w1.heap.size w1 (w5.setCell ⟨w1.heap.size,u.f,none⟩ (.slice (some ⟨g5,0,none⟩) (ns+1) cap5))):=by
   have hb4:Below w3.heap.size w3 (w3.alloc (.cells #[.int .i64 u.i,.int .i64 m,.string name] 70)).drew:=((Below.refl _ w3).alloc (Nat.le_refl _) _).drew
   have hq:=HQ.out
   have hr:(mkSp old name u).vals=[.int .i64 u.i,.int .i64 m,.string name]:=by show [_,Value.int .i64 ((u.i:Int)+old.size),_]=_;rw [i5];rfl
   have:=(HE3.out).put hfl hb4 (r:=mkSp old name u) (g5:=g5) (cap:=cap5) (by rw [hq,hr];exact hown5) (by rw [HVS.out];exact hgrow5) (by rw [HVS.out];rcases hat5 with e|e;exact .inl e;exact .inr (by omega)) (spK l us v.f v.i old name (k+1)) (fun i hi=>spK_no hu i ((HSEN.out) i hi)) (spK_yes hu HSEL.out)
   rw [hq] at this
   refine ⟨_,this.1,?_⟩
   have hk1:=HK.out
   exact (hk1.trans ((HB3'.out).mono hk1.size)).trans (this.2.below (by omega) (fun q hq=>hq))
  clear y1 y2 y3 x3 hS hown5 hgrow5 hat5 hna hnb HE HK HE3 HVS HQ HROW HFAR HSEL HSEN
  go_wp2_with fail
  obtain ⟨vs',f1,f2⟩:=HF.out
  exact ⟨⟨k+1,vs',by simp,by omega,f1,f2⟩,by simp [intOf];omega⟩
end Go.Proofs.YtbmebfgapjhchaaGreatDoor
