/- One edit of each file,in memory. -/
import Derived.Test.YtbmebfgapjhchaaGreatDoorEdAb
import Derived.Test.YtbmebfgapjhchaaGreatDoorCgf
import Derived.Test.YtbmebfgapjhchaaGreatDoorHa
namespace Go.Proofs.YtbmebfgapjhchaaGreatDoor
open Go.RowKit
open M
theorem infoSp:(Tryz.prog.info? 70).map (fun i=>(i.zero,i.size,i.bytes))=some (some (.agg #[.int .i64 0,.int .i64 0,.string .empty]),3,32):=by kernel_rfl
structure IsEd (w:World) (B g n:Nat) (vs:Nat→Value) (sp:Nat→List Rw):Prop where
 cell:∀ i,i<n→w.cell? ⟨g,i,none⟩=some (vs i)
 blk:∃ c,w.heap[g]?=some (.cells c 40 (0,0))
 gB:B≤g
 row:∀ i,i<n→w.ownsRow B 70 3 (vs i) (sp i).length ((sp i).flatMap Rw.vals)
 sep:∀ i j,i<n→j<n→i≠j→∀ k,(vs i).ownBlock=some k→(vs j).ownBlock≠some k
theorem IsEd.lt {w:World} {B g n:Nat} {vs:Nat→Value} {sp:Nat→List Rw} (h:IsEd w B g n vs sp):g<w.heap.size:=by
 obtain ⟨c,e⟩:=h.blk
 exact heap_lt e
theorem IsEd.far {w:World} {B g n:Nat} {vs:Nat→Value} {sp:Nat→List Rw} (h:IsEd w B g n vs sp) {i:Nat} (hi:i<n) {k:Nat} (hk:(vs i).ownBlock=some k):k≠g∧k<w.heap.size∧B≤k:=by
 obtain ⟨c,e⟩:=h.blk
 rcases (h.row i hi).2 with ⟨e',-⟩|⟨g',_,cur,e',hb,hg,-⟩
 ·rw [e'] at hk;cases hk
 ·rw [e'] at hk
  obtain rfl:g'=k:=Option.some.inj hk
  refine ⟨fun e2=>?_,heap_lt hg,hb⟩
  subst e2
  rw [e] at hg
  injection hg with hg
  injection hg with _ h2 _
  exact absurd h2 (by decide)
theorem IsEd.below {w w':World} {B g n:Nat} {vs:Nat→Value} {sp:Nat→List Rw} (h:IsEd w B g n vs sp) (hb:Below w.heap.size w w'):IsEd w' B g n vs sp:=by
 have hk:=Kp.ofBelow hb (fun _=>False)
 obtain ⟨c,e⟩:=h.blk
 exact ⟨fun i hi=>hk.cellv (h.cell i hi) id,⟨c,hk.heap e id⟩,h.gB,fun i hi=>hk.owns (h.row i hi) (fun _ _=>id),h.sep⟩
theorem IsEd.isL {w:World} {B g n:Nat} {vs:Nat→Value} {sp:Nat→List Rw} (h:IsEd w B g n vs sp) {i:Nat} (hi:i<n) (hl:(sp i).length≤1048576):IsL w (vs i) (sp i):=IsL.ofOwns (h.row i hi) (by omega)
theorem IsEd.put {w w4 w5:World} {B g n f:Nat} {vs:Nat→Value} {sp:Nat→List Rw} (h:IsEd w B g n vs sp) (hf:f<n) (hb4:Below w.heap.size w w4) {r:Rw} {g5 cap:Nat} (hown:w5.ownsRow B 70 3 (.slice (some ⟨g5,0,none⟩) ((sp f).length+1) cap) ((sp f).length+1) ((sp f).flatMap Rw.vals++r.vals)) (hgrow:w4.grownBy w5 (vs f).ownBlock)
  (hat:(vs f).ownBlock=some g5∨w.heap.size≤g5) (sp':Nat→List Rw) (hsp:∀ i,i≠f→sp' i=sp i) (hspf:sp' f=sp f++[r]) :
  IsEd (w5.setCell ⟨g,f,none⟩ (.slice (some ⟨g5,0,none⟩) ((sp f).length+1) cap)) B g n (fun i=>if i=f then .slice (some ⟨g5,0,none⟩) ((sp f).length+1) cap else vs i) sp'∧Kp (fun q=>B≤q) w (w5.setCell ⟨g,f,none⟩ (.slice (some ⟨g5,0,none⟩) ((sp f).length+1) cap)):=by
 have h4:=h.below hb4
 have hgl:=h.lt
 have z4:=hb4.size
 have hne:(vs f).ownBlock≠some g:=fun e=>(h.far hf e).1 rfl
 have hg5:g5≠g:=by
  rcases hat with e|e
  ·exact (h.far hf e).1
  ·omega
 have k5:Kp (fun q=>(vs f).ownBlock=some q) w w5:=((Kp.ofBelow hb4 _).grown hgrow (fun k hk _=>hk))
 have k6:Kp (fun q=>q=g) w5 (w5.setCell ⟨g,f,none⟩ (.slice (some ⟨g5,0,none⟩) ((sp f).length+1) cap)):=(Kp.refl (fun k=>k=g) w5).setCell (p:=⟨g,f,none⟩) (fun _=>rfl) _
 obtain ⟨c,e⟩:=h.blk
 have e5:=k5.heap e hne
 have hc5:=fun i hi=>k5.cellv (h.cell i hi) hne
 refine ⟨⟨fun i hi=>?_,?_,h.gB,fun i hi=>?_,?_⟩,?_⟩
 ·by_cases hif:i=f
  ·subst hif
   rw [if_pos rfl]
   have hsz:i<c.size:=by
    have:=h.cell i hi
    rw [Lib.cell_of_heap e] at this
    exact (Array.getElem?_eq_some_iff.1 this).1
   have:(w5.setCell ⟨g,i,none⟩ (.slice (some ⟨g5,0,none⟩) ((sp i).length+1) cap)).heap[g]?=some (.cells (c.setIfInBounds i (.slice (some ⟨g5,0,none⟩) ((sp i).length+1) cap)) 40 (0,0)):=by simp [World.setCell,Array.getElem?_modify,e5]
   rw [Lib.cell_of_heap this]
   simp [hsz]
  ·rw [if_neg hif]
   have:(w5.setCell ⟨g,f,none⟩ (.slice (some ⟨g5,0,none⟩) ((sp f).length+1) cap)).heap[g]?=some (.cells (c.setIfInBounds f (.slice (some ⟨g5,0,none⟩) ((sp f).length+1) cap)) 40 (0,0)):=by simp [World.setCell,Array.getElem?_modify,e5]
   rw [Lib.cell_of_heap this,Array.getElem?_setIfInBounds_ne (by omega)]
   have:=hc5 i hi
   rwa [Lib.cell_of_heap e5] at this
 ·exact ⟨_,by simp [World.setCell,Array.getElem?_modify,e5];rfl⟩
 ·by_cases hif:i=f
  ·subst hif
   rw [if_pos rfl,hspf,List.length_append,List.flatMap_append]
   refine k6.owns (by simpa using hown) (fun k hk e=>?_)
   simp [Value.ownBlock] at hk
   omega
  ·rw [if_neg hif,hsp i hif]
   refine k6.owns (k5.owns (h.row i hi) (fun k hk e=>h.sep i f hi hf hif k hk e)) (fun k hk e=>?_)
   exact (h.far hi hk).1 e
 ·intro i j hi hj hij k hk
  by_cases hif:i=f
  ·subst hif
   simp only [if_true] at hk
   rw [if_neg (Ne.symm hij)]
   obtain rfl:g5=k:=by simpa [Value.ownBlock] using hk
   rcases hat with e|e
   ·exact h.sep i j hi hj hij _ e
   ·intro e2
    have:=(h.far hj e2).2.1
    omega
  ·rw [if_neg hif] at hk
   by_cases hjf:j=f
   ·subst hjf
    rw [if_pos rfl]
    intro e2
    obtain rfl:g5=k:=by simpa [Value.ownBlock] using e2
    rcases hat with e|e
    ·exact h.sep j i hj hi (Ne.symm hij) _ e hk
    ·have:=(h.far hi hk).2.1
     omega
   ·rw [if_neg hjf]
    exact h.sep i j hi hj hij k hk
 ·exact (k5.mono (fun i _ e=>(h.far hf e).2.2)).trans (k6.mono (T:=fun q=>B≤q) (fun i _ e=>(show B≤i by rw [e];exact h.gB))) (fun _ _ e=>e)
set_option maxRecDepth 100000 in
theorem mk_eds (n:Nat) (hn:n≤16):∃ A:Array Value,A.size=n∧(∀ g,g<n→A[g]?=some (.slice none 0 0))∧∀ W:World,(Instr.makeSlice 50 (.int .i64 n) (.int .i64 n)).run Tryz.prog W=.ok (.slice (some ⟨W.heap.size,0,none⟩) n n) (W.alloc (.cells A 40)):=by
 obtain ⟨i,hi,z0,z1,z2⟩:=info_parts (show (Tryz.prog.info? 40).map (fun i=>(i.zero,i.size,i.bytes))=some (some (.slice none 0 0),1,24) by kernel_rfl)
 refine ⟨madeCells (Value.slice none 0 0).cells (n*i.size),by rw [size_madeCells,z1];omega,fun g hg=>?_,fun W=>?_⟩
 ·rw [z1];simp [madeCells,Value.cells,hg,Nat.mod_one]
 ·have:=run_make (P:=Tryz.prog) W 50 40 i _ Tryz.underlying50 hi z0 .i64 .i64 n n (by omega) (Int.le_refl _) (by rw [z2];omega) (by omega)
  simpa using this
structure IsWs (w:World) (wb B:Nat) (ao:Option Addr) (cap:Nat) (l:List AF) (rv nv:Value) (us:List X.U):Prop where
 blk:w.heap[wb]?=some (.cells #[.slice ao l.length cap,rv,nv] 64 (0,0))
 af:IsAF w w.heap.size ao l
 nms:w.ownsRow B 36 6 nv us.length (uvs us)
 cp:l.length≤cap∧cap≤maxLen
theorem IsWs.below {w w':World} {wb B:Nat} {ao:Option Addr} {cap:Nat} {l:List AF} {rv nv:Value} {us:List X.U} (h:IsWs w wb B ao cap l rv nv us) (hb:Below w.heap.size w w'):IsWs w' wb B ao cap l rv nv us:=by
 have hk:=Kp.ofBelow hb (fun _=>False)
 refine ⟨hk.heap h.blk id,fun j a hj=>?_,hk.owns h.nms (fun _ _=>id),h.cp⟩
 obtain ⟨b,o,e1,e2,e3,e4⟩:=h.af.below hb j a hj
 exact ⟨b,o,e1,Nat.lt_of_lt_of_le e2 hb.size,e3,e4⟩
set_option maxRecDepth 100000 in
set_option maxHeartbeats 4000000 in
theorem noEdits_any {w:World} {wb B:Nat} {ao:Option Addr} {cap:Nat} {l:List AF} {rv nv:Value} {us:List X.U} (h:IsWs w wb B ao cap l rv nv us) (hn:l.length≤16) :
  Calls Tryz.prog 22 #[.pointer (some ⟨wb,0,none⟩)] w fun e w'=>∃ vs,e=.returned (.slice (some ⟨w.heap.size,0,none⟩) l.length l.length)∧Hid (IsEd w' w.heap.size w.heap.size l.length vs (fun _=>[])∧Below w.heap.size w w'):=by
 have c0:=cell_of_row w _ 0 _ _ _ h.blk
 obtain ⟨A,a1,a2,a3⟩:=mk_eds l.length hn
 have HF:Hid (IsEd (w.alloc (.cells A 40)) w.heap.size w.heap.size l.length (fun _=>.slice none 0 0) (fun _=>[])∧Below w.heap.size w (w.alloc (.cells A 40))):=by
  refine ⟨⟨fun i hi=>?_,⟨A,heap_alloc_new w _⟩,Nat.le_refl _,fun i _=>World.ownsRow_nil _ _ _ _,fun i j _ _ _ k hk=>by cases hk⟩,(Below.refl _ w).alloc (Nat.le_refl _) _⟩
  rw [Lib.cell_of_heap (heap_alloc_new w _)]
  exact a2 i hi
 clear h
 go_enter Tryz.func22,Tryz.ntmps22
 go_wp2_with fail
 go_ret
 exact ⟨_,rfl,HF⟩
end Go.Proofs.YtbmebfgapjhchaaGreatDoor
/- Package change: the text of a name of a file. -/
namespace Go.Proofs.YtbmebfgapjhchaaGreatDoor
open Go.RowKit
open M
def txL (l:List AF) (f i:Nat):ByteArray:=match l[f]? with|some a=>txtAt a.t i|none=>⟨#[]⟩
variable {w:World} {wb B:Nat} {ao:Option Addr} {cap:Nat} {l:List AF} {rv nv:Value} {us:List X.U}
set_option maxRecDepth 100000 in
set_option maxHeartbeats 4000000 in
theorem textAt_any (h:IsWs w wb B ao cap l rv nv us) (hT:Tabs w) {f i:Nat} {a:AF} (ha:l[f]?=some a) (hi:i≤a.t.size) (hs:a.t.size≤1073741824) :
  Calls Tryz.prog 21 #[.pointer (some ⟨wb,0,none⟩),.int .i64 f,.int .i64 i] w fun e w'=>e=.returned (.string (txL l f i))∧Below w.heap.size w w':=by
 have c0:=cell_of_row w _ 0 _ _ _ h.blk
 obtain ⟨b,o,rfl,hb,c1,c2⟩:=h.af f a ha
 have hfl:f<l.length:=by
  rcases Nat.lt_or_ge f l.length with g|g
  ·exact g
  ·rw [List.getElem?_eq_none g] at ha;cases ha
 have i1:(f:Int)<(l.length:Int):=by omega
 have HE:Hid (txL l f i=txtAt a.t i):=by show _=_;unfold txL;rw [ha]
 have HC:=hide (scText_any a.t i w hT hi hs)
 clear h hT ha
 go_enter Tryz.func21,Tryz.ntmps21
 go_wp2_with fail
 refine (HC.out).mono ?_
 rintro e w1 ⟨rfl,B1⟩
 have HB:=hide B1
 clear HC B1
 go_wp2_with fail
 go_ret
 exact ⟨by rw [HE.out];rfl,HB.out⟩
set_option maxRecDepth 100000 in
set_option maxHeartbeats 4000000 in
theorem after_any (h:IsWs w wb B ao cap l rv nv us) {f:Nat} {a:AF} {v:Value} {L:List Rw} (ha:l[f]?=some a) (hv:IsL w v L) (hb:∀ k,v.ownBlock=some k→k<w.heap.size) (hs:a.t.size≤1048576) (ht:totR L≤1073741824) :
  Calls Tryz.prog 24 #[.pointer (some ⟨wb,0,none⟩),.int .i64 f,v] w fun e w'=>e=.returned (.string (apT a.t L))∧Below w.heap.size w w':=by
 have c0:=cell_of_row w _ 0 _ _ _ h.blk
 obtain ⟨b,o,rfl,hbb,c1,c2⟩:=h.af f a ha
 have hfl:f<l.length:=by
  rcases Nat.lt_or_ge f l.length with g|g
  ·exact g
  ·rw [List.getElem?_eq_none g] at ha;cases ha
 have i1:(f:Int)<(l.length:Int):=by omega
 have HC:=hide (apply_any a.t v L w hv hb hs ht)
 clear h ha hv
 go_enter Tryz.func24,Tryz.ntmps24
 go_wp2_with fail
 refine (HC.out).mono ?_
 rintro e w1 ⟨ev,rfl,B1⟩
 have HB:=hide B1
 clear HC B1
 go_wp2_with fail
 go_ret
 exact ⟨rfl,HB.out⟩
end Go.Proofs.YtbmebfgapjhchaaGreatDoor
