/- Package lay: how many characters a text of bytes has;a piece of a flat text. -/
import Derived.Test.YtgpcpbmacdhlkaaGreatDoorLph
import Derived.Shelf.Spec.RuneCount
import Derived.Test.YtgpcpbmacdhlkaaGreatDoorLkb
import Derived.Test.YtgpcpbmacdhlkaaGreatDoorRb
import Derived.Test.YtgpcpbmacdhlkaaGreatDoorXy
namespace Go.Proofs
open Go.Shelf
open Go.RowKit
def Tryz.laysC_ren:Go.Shelf.Ren:=⟨fun|31=>89|48=>116|n=>n,fun|0=>0|3=>3|4=>4|5=>5|9=>9|30=>47|n=>n,fun|n=>n⟩
theorem Tryz.laysC:Go.Proofs.Lays7.n31 Tryz.prog Tryz.laysC_ren:={
 mixed:=by kernel_rfl
 f31:=Tryz.func89.trans (congrArg some (by kernel_rfl))
 f48:=Tryz.func116.trans (congrArg some (by kernel_rfl))
 t0:=Tryz.underlying0
 a0:=Tryz.isAgg0
 z0:=Tryz.sizeOf0
 v0:=Tryz.zeroValue0
 i0:=by kernel_rfl
 t3:=Tryz.underlying3
 a3:=Tryz.isAgg3
 z3:=Tryz.sizeOf3
 v3:=Tryz.zeroValue3
 i3:=by kernel_rfl
 t4:=Tryz.underlying4
 a4:=Tryz.isAgg4
 z4:=Tryz.sizeOf4
 v4:=Tryz.zeroValue4
 i4:=by kernel_rfl
 t5:=Tryz.underlying5
 a5:=Tryz.isAgg5
 z5:=Tryz.sizeOf5
 v5:=Tryz.zeroValue5
 i5:=by kernel_rfl
 t9:=Tryz.underlying9
 a9:=Tryz.isAgg9
 z9:=Tryz.sizeOf9
 v9:=Tryz.zeroValue9
 i9:=by kernel_rfl
 t30:=Tryz.underlying47
 a30:=Tryz.isAgg47
 z30:=Tryz.sizeOf47
 v30:=Tryz.zeroValue47
 i30:=by kernel_rfl }
end Go.Proofs
namespace Go.Proofs.YtgpcpbmacdhlkaaGreatDoor
open Go.RowKit
open M
theorem dec_at (s:ByteArray) (i:Nat) (h:i<s.size):(Utf8.decode s i).2=sz ((bs s).drop i):=by
 have hl:(bs s).length=s.size:=bs_len s
 unfold sz dec
 rw [if_neg (by rw [List.length_drop];omega),Lib.decode_at,List.length_drop,hl]
 have g:∀ k,s.get! (i+k)=((bs s).drop i).getD k 0:=fun k=>by
  rw [List.getD_eq_getElem?_getD,List.getElem?_drop,← List.getD_eq_getElem?_getD]
  exact (Lib.getD_get!' s (i+k)).symm
 have g0:=g 0
 rw [Nat.add_zero] at g0
 rw [g0,g 1,g 2,g 3]
theorem count_from (s:ByteArray):∀ (f i:Nat),s.size - i≤f→Lib.runeCountFrom s f i=X.chars ((bs s).drop i)
 | 0,i,h=>by
  have:(bs s).drop i=[]:=List.drop_eq_nil_of_le (by rw [bs_len];omega)
  rw [this,X.chars_nil,Lib.runeCountFrom]
 | f+1,i,h=>by
  rw [Lib.runeCountFrom]
  by_cases hi:i<s.size
  ·have hne:(bs s).drop i≠[]:=fun e=>by have:=congrArg List.length e;rw [List.length_drop,bs_len,List.length_nil] at this;omega
   have hp:=sz_pos hne
   rw [if_pos hi,dec_at s i hi,X.chars_cons hne,count_from s f _ (by omega)]
   unfold nx
   rw [List.drop_drop]
  ·have:(bs s).drop i=[]:=List.drop_eq_nil_of_le (by rw [bs_len];omega)
   rw [if_neg hi,this,X.chars_nil]
theorem count_chars (l:List UInt8):Lib.runeCount (ba l)=X.chars l:=by
 unfold Lib.runeCount
 rw [count_from _ _ 0 (by omega),bs_ba,List.drop_zero]
def IsBy (w:World) (g o:Nat) (l:List UInt8):Prop:=∀ j b,l[j]?=some b→w.cell? ⟨g,o+j,none⟩=some (.int .u8 b.toNat)
theorem count_any (l:List UInt8) (g o cap:Nat) (w:World) (hc:l.length≤cap) (h:IsBy w g o l) (hl:l.length≤8589934592) :
  Calls Tryz.prog 89 #[.slice (some ⟨g,o,none⟩) l.length cap] w fun e w'=>e=.returned (.int .i64 (X.chars l))∧Below w.heap.size w w':=by
 have:=Any7.utf8_RuneCount Tryz.laysC (ba l) g o cap w (by rw [ba_size];exact hc) (fun j hj=>by
  rw [ba_size] at hj
  have h1:l[j]?=some l[j]:=List.getElem?_eq_getElem hj
  rw [h j _ h1]
  have:(ba l).get! j=l[j]:=by
   rw [← Lib.getD_get!']
   show l.toArray.toList.getD j 0=_
   rw [List.getD_eq_getElem?_getD,h1];rfl
  rw [this]) (by rw [ba_size];omega)
 rw [ba_size,count_chars] at this
 refine this.mono ?_
 rintro e w' ⟨rfl,h|⟨t,pos,h⟩⟩
 ·subst h;exact ⟨rfl,Below.refl _ _⟩
 ·subst h;exact ⟨rfl,(Below.refl _ w).alloc (Nat.le_refl _) _⟩
end Go.Proofs.YtgpcpbmacdhlkaaGreatDoor
/- Package lay: a piece of a flat text,and whether it fits. -/
namespace Go.Proofs.YtgpcpbmacdhlkaaGreatDoor
open Go.RowKit
open M
theorem exv_get:∀ (E:List (Nat × Nat)) (i a b:Nat),E[i]?=some (a,b)→(exv E)[i*2]?=some (.int .i64 a)∧(exv E)[i*2+1]?=some (.int .i64 b)
 | [],i,a,b,h=>by simp at h
 | e::E,0,a,b,h=>by
  have:e=(a,b):=by simpa using h
  subst this
  exact ⟨rfl,rfl⟩
 | e::E,i+1,a,b,h=>by
  obtain ⟨h1,h2⟩:=exv_get E i a b (by simpa using h)
  have e1:(i+1)*2=i*2+2:=by omega
  have e2:exv (e::E)=.int .i64 e.1::.int .i64 e.2::exv E:=rfl
  rw [e1,e2]
  exact ⟨h1,h2⟩
theorem ext_cells {w:World} {R:Nat} {tv:Value} {E:List (Nat × Nat)} (h:w.ownsRow R 146 2 tv E.length (exv E)) {i a b:Nat} (hi:E[i]?=some (a,b)):∃ tg tc,tv=.slice (some ⟨tg,0,none⟩) E.length tc∧E.length≤tc∧w.cell? ⟨tg,i*2,none⟩=some (.int .i64 a)∧w.cell? ⟨tg,i*2+1,none⟩=some (.int .i64 b):=by
 have hc:=fun g hg=>h.cells (g:=g) hg
 rcases h.2 with ⟨rfl,h0⟩|⟨g,cap,cur,rfl,hb,hg,hn,-⟩
 ·rw [List.length_eq_zero_iff.1 h0] at hi;simp at hi
 ·obtain ⟨h1,h2⟩:=exv_get E i a b hi
  have c1:=hc g rfl _ _ h1
  have c2:=hc g rfl _ _ h2
  rw [Addr.add_lit,Nat.zero_add] at c1 c2
  exact ⟨g,cap,rfl,hn,c1,c2⟩
theorem flat_cells {w:World} {R:Nat} {fv:Value} {F:List UInt8} (h:w.ownsRow R 5 1 fv F.length (Lib.byteCells F)) (hF:F≠[]):∃ g cap cur,fv=.slice (some ⟨g,0,none⟩) F.length cap∧F.length≤cap∧cap≤maxLen∧w.heap[g]?=some (.cells cur 5 (0,0))∧IsBy w g 0 F:=by
 have hc:=fun g hg=>h.cells (g:=g) hg
 rcases h.2 with ⟨rfl,h0⟩|⟨g,cap,cur,rfl,hb,hg,hn,hm,-⟩
 ·exact absurd (List.length_eq_zero_iff.1 h0) hF
 ·refine ⟨g,cap,cur,rfl,hn,hm,hg,fun j b hj=>?_⟩
  have c1:=hc g rfl j (.int .u8 b.toNat) (by simp [Lib.byteCells,hj])
  rw [Addr.add_lit] at c1
  exact c1
theorem IsBy.cut {w:World} {g o a d:Nat} {F:List UInt8} (h:IsBy w g o F):IsBy w g (o+a) ((F.take d).drop a):=fun j b hj=>by
 rw [List.getElem?_drop] at hj
 have:a+j<d:=by
  rcases Nat.lt_or_ge (a+j) d with e|e
  ·exact e
  ·rw [List.getElem?_eq_none (by rw [List.length_take];omega)] at hj;cases hj
 rw [List.getElem?_take_of_lt this] at hj
 rw [Nat.add_assoc];exact h _ b hj
namespace X
theorem flt_ne {M:List Lf} (hM:M≠[]) (hn:∀ b∈M,b.1.2≠[]):flt M≠[]:=by
 cases M with
 | nil=>exact absurd rfl hM
 | cons a l =>
  obtain ⟨s,hs⟩:=flt_head a l
  rw [hs]
  exact fun e=>hn a (by simp) (List.append_eq_nil_iff.1 e).1
theorem chars_four (n:Nat):∀ t:List UInt8,t.length≤n→t.length≤4*chars t:=by
 induction n with
 | zero=>intro t h;omega
 | succ n ih =>
  intro t h
  by_cases h0:t=[]
  ·subst h0;simp
  ·rw [chars_cons h0]
   have h1:=nx_lt h0
   have:=ih (nx t) (by omega)
   have h2:=nx_len t
   have h3:sz t≤4:=by
    unfold sz dec
    rw [if_neg (fun e=>h0 (List.length_eq_zero_iff.1 e))]
    exact (decodeN_sz _ _ _ _ _ (List.length_pos_iff.2 h0)).2.1
   omega
end X
def PcAt (w:World) (R:Nat) (v:Value) (l:List UInt8):Prop:=∃ g o cap cur,v=.slice (some ⟨g,o,none⟩) l.length cap∧l.length≤cap∧cap≤maxLen∧R≤g∧w.heap[g]?=some (.cells cur 5 (0,0))∧IsBy w g o l
set_option maxRecDepth 100000 in
set_option maxHeartbeats 8000000 in
theorem apiece_any (L M:List X.Lf) (i j:Nat) (R:Nat) (rm:List (List UInt8)) (w:World) (h:IsRow w R rm L) (hA:X.Ats L i M) (hM:M≠[]) (hj:j=i+M.length) (hL:L.length≤268435456) (hF:(X.flt L).length≤8589934592) :
  Calls Tryz.prog 43 #[.pointer (some ⟨R,0,none⟩),.int .i64 i,.int .i64 j] w fun e w'=>∃ v,e=.returned v∧Hid (PcAt w' R v (X.flt M)∧Below w.heap.size w w'):=by
 obtain ⟨⟨rv,fv,tv,hr⟩,hn⟩:=h
 obtain ⟨a,b,c,d,e1,e2,had,hdl,hseg,hlen⟩:=X.piece_at hA hM
 have hMl:=List.length_pos_iff.2 hM
 have hle:=hA.le
 obtain ⟨tg,tc,rfl,htc,t0,-⟩:=ext_cells hr.oex e1
 obtain ⟨tg',tc',et,htc',-,t1⟩:=ext_cells hr.oex e2
 injection et with et
 injection et with et
 injection et with et1 et2 et3
 subst et1
 have hLne:L≠[]:=fun e=>by rw [e,List.length_nil] at hle;omega
 obtain ⟨g,cap,cur,rfl,hcap,hcm,hg,hby⟩:=flat_cells hr.ofl (X.flt_ne hLne hn)
 obtain ⟨⟨r0,r1,r2,r3⟩,rf,hRl⟩:=hr.cells
 rw [X.exts_len] at r2 htc
 have hgR:R≤g:=(owns_ge hr.ofl g rfl).1
 have HF:Hid (PcAt w.drew R (.slice (some ⟨g,a,none⟩) (d - a) (cap - a)) (X.flt M)∧Below w.heap.size w w.drew):=by
  refine ⟨⟨g,a,cap - a,cur,by rw [show (X.flt M).length=d - a by omega],by omega,by omega,hgR,hg,?_⟩,(Below.refl _ w).drew⟩
  have:=hby.cut (a:=a) (d:=d)
  rw [hseg,Nat.zero_add] at this
  exact this
 have hjm:j - 1=i+M.length - 1:=by omega
 rw [← hjm] at t1
 have hj1:1≤j:=by omega
 have hjl:j≤L.length:=by omega
 have i1:(0:Int)≤(i:Int):=Int.natCast_nonneg _
 have i2:(i:Int)<(L.length:Int):=by omega
 have i3:(0:Int)≤(j:Int) - 1:=by omega
 have i4:(j:Int) - 1<(L.length:Int):=by omega
 have i5:((j:Int) - 1).toNat=j - 1:=by omega
 have i6:(0:Int)≤(a:Int):=Int.natCast_nonneg _
 have i7:(a:Int)≤(d:Int):=by omega
 have i8:(d:Int)≤(cap:Int):=by omega
 have hwr:IntKind.i64.wrap ((j:Int) - 1)=(j:Int) - 1:=by rw [IntKind.wrap_i64];omega
 have i9:(1:Int)≤(j:Int):=by omega
 have hml:0<(X.flt M).length:=List.length_pos_iff.2 (X.flt_ne hM (fun b hb=>hn b (by obtain ⟨A,B,e,-⟩:=hA;rw [e];exact List.mem_append_right _ (List.mem_append_left _ hb))))
 have i10:¬ a=cap:=by omega
 have i11:¬ cap=a:=by omega
 have i12:a<cap:=by omega
 have i13:¬ cap - a=0:=by omega
 have i14:(a:Int)<(cap:Int):=by omega
 have i15:¬(a:Int)=(cap:Int):=by omega
 have HIJ:=hide hj
 clear hr hn e1 e2 hA hseg hlen hby hg rf r0 r3 hjm hj
 generalize (X.flt L).length=fl at *
 go_enter Tryz.func43,Tryz.ntmps43
 go_wp2_with fail
 refine wp_region_noPanic ?_
 refine wpTo_start (S:=fun w'=>w'.cell? ⟨R,1,none⟩=some (.slice (some ⟨g,0,none⟩) fl cap)∧w'.cell? ⟨R,2,none⟩=some (.slice (some ⟨tg,0,none⟩) L.length tc)∧w'.cell? ⟨tg,i*2,none⟩=some (.int .i64 a)∧w'.cell? ⟨tg,(j - 1)*2+1,none⟩=some (.int .i64 d)) (z:=23) (by kernel_rfl) ?_
 have hS:w.drew.cell? ⟨R,1,none⟩=some (.slice (some ⟨g,0,none⟩) fl cap)∧w.drew.cell? ⟨R,2,none⟩=some (.slice (some ⟨tg,0,none⟩) L.length tc)∧w.drew.cell? ⟨tg,i*2,none⟩=some (.int .i64 a)∧w.drew.cell? ⟨tg,(j - 1)*2+1,none⟩=some (.int .i64 d):=⟨r1,r2,t0,t1⟩
 iterate 23 (refine wpTo_nx (v:=?_) rfl rfl (by kernel_rfl) (by decide) (by kernel_rfl) (by kernel_rfl) (fun _ _ _ h=>h) (Or.inl ⟨by rfl,?_⟩) hS ?_;rotate_left;(· (intro wx hSw;(try dsimp only at hSw);go_simp;try (with_reducible rfl)));simp only [Act.put,List.setIfInBounds_toArray,List.set_cons_zero,List.set_cons_succ])
 refine wpTo_end (by kernel_rfl) ?_
 clear hS
 refine NoPanic.normal ?_
 go_wp2_with fail
 go_ret
 exact ⟨_,rfl,HF⟩
end Go.Proofs.YtgpcpbmacdhlkaaGreatDoor
/- A Builder,with all that a write may turn. -/
namespace Go.Proofs.YtgpcpbmacdhlkaaGreatDoor
open Go.RowKit
open M
structure BdW (w:World) (B:Nat) (l:List UInt8) (p bv:Value):Prop where
 blk:w.heap[B]?=some (.cells #[p,bv] 49 (0,0))
 adr:p=.pointer none∨p=.pointer (some ⟨B,0,none⟩)
 row:w.ownsRow B 5 1 bv l.length (Lib.byteCells l)
theorem BdW.keep {S:Nat→Prop} {w w':World} {B:Nat} {l:List UInt8} {p bv:Value} (h:BdW w B l p bv) (hk:Kp S w w') (hB:¬ S B) (hS:∀ k,bv.ownBlock=some k→¬ S k):BdW w' B l p bv :=
 ⟨hk.heap h.blk hB,h.adr,hk.owns h.row hS⟩
theorem BdW.far {w:World} {B:Nat} {l:List UInt8} {p bv:Value} (h:BdW w B l p bv):some B≠bv.ownBlock:=fun e=>by
 obtain ⟨-,c,hc⟩:=own_ty h.row e.symm
 exact absurd (cells_ty hc h.blk) (by decide)
theorem BdW.new (w:World):BdW (w.alloc (.cells #[.pointer none,.slice none 0 0] 49)) w.heap.size [] (.pointer none) (.slice none 0 0) :=
 ⟨heap_alloc_new w _,.inl rfl,World.ownsRow_nil _ _ _ _⟩
def BdTo (w:World) (B:Nat) (bv:Value) (l:List UInt8) (w':World):Prop:=∃ p bv',BdW w' B l p bv'∧(∀ k,bv'.ownBlock=some k→bv.ownBlock=some k∨w.heap.size≤k)∧Kp (fun q=>q=B∨bv.ownBlock=some q) w w'
theorem copyCheck_bd {w:World} {B:Nat} {l:List UInt8} {p bv:Value} (h:BdW w B l p bv) :
  Calls Tryz.prog 61 #[.pointer (some ⟨B,0,none⟩)] w fun e w'=>e=.returned (.tuple #[])∧BdW w' B l (.pointer (some ⟨B,0,none⟩)) bv∧Kp (fun q=>q=B) w w'∧w'.heap.size=w.heap.size:=by
 have c0:=cell_of_row w _ 0 _ _ _ h.blk
 rcases h.adr with e|e
 ·subst e
  refine (Any.Builder_copyCheck_fresh { Tryz.lays166 with } Tryz.Builder_Extra_166.toX72 B w c0 (by simp [World.shape?,h.blk];rfl) (by simp [World.frozen?,h.blk])).mono ?_
  rintro e w' ⟨rfl,rfl⟩
  have k:Kp (fun q=>q=B) w (w.setCell ⟨B,0,none⟩ (.pointer (some ⟨B,0,none⟩))):=Kp.setCell (S:=fun q=>q=B) (p:=⟨B,0,none⟩) (Kp.refl _ w) (fun _=>rfl) _
  exact ⟨rfl,⟨set_blk h.blk 0 _,.inr rfl,k.owns h.row (fun q hq e=>h.far (by rw [hq,e]))⟩,k,by simp [World.setCell]⟩
 ·subst e
  refine (Any.Builder_copyCheck_used { Tryz.lays166 with } Tryz.Builder_Extra_166.toX72 B w c0).mono ?_
  rintro e w' ⟨rfl,rfl⟩
  exact ⟨rfl,h,Kp.refl _ _,rfl⟩
theorem BdW.put {w w1 w3 w5:World} {B:Nat} {l l':List UInt8} {bv bv':Value} (h:BdW w1 B l (.pointer (some ⟨B,0,none⟩)) bv) (k1:Kp (fun q=>q=B) w w1) (hb:Below w1.heap.size w1 w3) (hown:w5.ownsRow B 5 1 bv' l'.length (Lib.byteCells l')) (hg:w3.grownBy w5 bv.ownBlock) (hat:∀ k,bv'.ownBlock=some k→bv.ownBlock=some k∨w.heap.size≤k):BdTo w B bv l' (w5.setCell ⟨B,1,none⟩ bv'):=by
 obtain ⟨h1,h2,-,-⟩:=row_put (P:=fun _=>True) (j:=1) h.blk h.row trivial trivial (by decide) hb hown hg
 refine ⟨_,_,⟨h1,.inr rfl,h2⟩,hat,?_⟩
 have k35:Kp (fun q=>bv.ownBlock=some q) w3 w5:=(Kp.refl _ w3).grown hg (fun q e _=>e)
 have k56:Kp (fun q=>q=B) w5 (w5.setCell ⟨B,1,none⟩ bv'):=Kp.setCell (S:=fun q=>q=B) (p:=⟨B,1,none⟩) (Kp.refl _ w5) (fun _=>rfl) _
 exact Kp.trans (Kp.trans (Kp.trans (k1.mono (fun _ _ e=>.inl e)) (Kp.ofBelow hb (fun _=>False)) (fun _ _ e=>e.elim)) k35 (fun _ _ e=>.inr e)) k56 (fun _ _ e=>.inl e)
theorem uch (c:UInt8):Lib.byteCells [c]=[.int .u8 c.toNat]:=rfl
set_option maxRecDepth 100000 in
set_option maxHeartbeats 8000000 in
theorem bbyte_any (c:UInt8) (B:Nat) (l:List UInt8) (p bv:Value) (w:World) (h:BdW w B l p bv) (hl:l.length≤1099511627776) :
  Calls Tryz.prog 40 #[.pointer (some ⟨B,0,none⟩),.int .u8 c.toNat] w fun e w'=>e=.returned .nilIface∧Hid (BdTo w B bv (l++[c]) w'):=by
 obtain ⟨ib,hib,hb0,hb1,hb2⟩:=info_parts infoBy
 have HC:=hide (copyCheck_bd h)
 have HUC:=hide (uch c)
 clear h
 generalize (c.toNat:Int)=ci at *
 go_enter Tryz.func40,Tryz.ntmps40
 go_wp2_with fail
 refine (HC.out).mono ?_
 rintro e w1 ⟨rfl,h1,k1,hz1⟩
 have HB:=hide h1
 have HK:=hide k1
 have HZ:=hide hz1
 have q1:=cell_of_row w1 _ 1 _ _ _ h1.blk
 have f1:w1.frozen? ⟨B,1,none⟩=false:=by simp [World.frozen?,h1.blk]
 have hBl:B<w1.heap.size:=heap_lt h1.blk
 have HFAR:=hide h1.far
 clear h1 k1 hz1 HC
 go_wp2_with (at_builtin;refine wpList_append_lies _ rfl _ _ 47 rfl B 5 ib _ 1 1 Tryz.underlying47 hib hb0 hb1 hb2 rfl (by decide) bv l.length _ rfl (((HB.out).row:w1.ownsRow _ _ _ _ _ _).alloc _) ⟨w1.heap.size,0,none⟩ 1 1 [.int .u8 ci] rfl rfl (World.news_of_block (cs:=#[.int .u8 ci]) (heap_alloc_new w1 _)) (by simp [Value.oneCell']) (by omega) (by unfold maxLen;omega) (by omega) (by simp;omega) (w1.heap.size+1) (by simp) ?_;intro g5 cap5 w5 hown5 hgrow5 hat5 hlt5;have HO5:=hide hown5;have HG5:=hide hgrow5;have HA5:=hide hat5;have hc5:w5.frozen? ⟨B,1,none⟩=false:=(hgrow5.frozen_far ⟨B,1,none⟩ (by simp;omega) HFAR.out).trans ((World.frozen?_alloc_old _ _ ⟨B,1,none⟩ (by simp;omega)).trans f1);have hd5:w5.cell? ⟨B,1,none⟩=some bv:=(hgrow5.cell_far ⟨B,1,none⟩ (by simp;omega) HFAR.out).trans ((World.cell?_alloc_old _ _ ⟨B,1,none⟩ (by simp;omega)).trans q1);clear hown5 hgrow5 hat5 hlt5)
 have HF:Hid (BdTo w B bv (l++[c]) (w5.setCell ⟨B,1,none⟩ (.slice (some ⟨g5,0,none⟩) (l.length+1) cap5))):=by
  refine (HB.out).put HK.out ((Below.refl _ w1).alloc (Nat.le_refl _) _) ?_ HG5.out (fun k hk=>?_)
  ·rw [List.length_append,Lib.byteCells_append,HUC.out];exact HO5.out
  ·obtain rfl:g5=k:=by simpa [Value.ownBlock] using hk
   rcases HA5.out with e|e
   ·exact .inl e
   ·exact .inr (by have:=HZ.out;omega)
 clear HO5 HG5 HA5
 go_wp2_with fail
 go_ret
 exact ⟨rfl,HF⟩
set_option maxRecDepth 100000 in
set_option maxHeartbeats 8000000 in
theorem bstr_any (x:List UInt8) (hx:x≠[]) (B:Nat) (l:List UInt8) (p bv:Value) (w:World) (h:BdW w B l p bv) (hl:l.length+x.length≤1099511627776) :
  Calls Tryz.prog 39 #[.pointer (some ⟨B,0,none⟩),.string (ba x)] w fun e w'=>(∃ v,e=.returned v)∧Hid (BdTo w B bv (l++x) w'):=by
 obtain ⟨ib,hib,hb0,hb1,hb2⟩:=info_parts infoBy
 have HC:=hide (copyCheck_bd h)
 have hxl:0<(ba x).size:=by rw [ba_size];exact List.length_pos_iff.2 hx
 have hxs:(ba x).size=x.length:=ba_size _
 have HSC:Hid (Lib.strCells (ba x)=Lib.byteCells x):=by show _=_;unfold Lib.strCells Lib.byteCells;simp [ba]
 have HXS:=hide hxs
 have hls:l.length+(ba x).size≤1099511627776:=by omega
 clear h hx hxs hl
 generalize ba x=T at *
 go_enter Tryz.func39,Tryz.ntmps39
 go_wp2_with fail
 refine (HC.out).mono ?_
 rintro e w1 ⟨rfl,h1,k1,hz1⟩
 have HB:=hide h1
 have HK:=hide k1
 have HZ:=hide hz1
 have q1:=cell_of_row w1 _ 1 _ _ _ h1.blk
 have f1:w1.frozen? ⟨B,1,none⟩=false:=by simp [World.frozen?,h1.blk]
 have hBl:B<w1.heap.size:=heap_lt h1.blk
 have HFAR:=hide h1.far
 clear h1 k1 hz1 HC
 go_wp2_with (at_builtin;refine wpList_append_str_at _ rfl _ _ 47 9 rfl B 5 ib Tryz.underlying47 Tryz.underlying9 hib hb0 hb1 hb2 _ _ _ rfl (HB.out).row T rfl hxl (by omega) (by omega) ?_;intro g6 cap6 w6 hown6 hgrow6 hat6;have HO6:=hide hown6;have HG6:=hide hgrow6;have HA6:=hide hat6;have hc6:w6.frozen? ⟨B,1,none⟩=false:=(hgrow6.frozen_far ⟨B,1,none⟩ hBl HFAR.out).trans f1;have hd6:w6.cell? ⟨B,1,none⟩=some bv:=(hgrow6.cell_far ⟨B,1,none⟩ hBl HFAR.out).trans q1;clear hown6 hgrow6 hat6)
 have HF:Hid (BdTo w B bv (l++x) (w6.setCell ⟨B,1,none⟩ (.slice (some ⟨g6,0,none⟩) (l.length+T.size) cap6))):=by
  refine (HB.out).put HK.out (Below.refl _ w1) ?_ HG6.out (fun k hk=>?_)
  ·rw [List.length_append,Lib.byteCells_append,← HSC.out,← HXS.out];exact HO6.out
  ·obtain rfl:g6=k:=by simpa [Value.ownBlock] using hk
   rcases HA6.out with e|e
   ·exact .inl e
   ·exact .inr (by have:=HZ.out;omega)
 clear HO6 HG6 HA6
 go_wp2_with fail
 go_ret2
 exact ⟨⟨_,rfl⟩,HF⟩
set_option maxRecDepth 100000 in
set_option maxHeartbeats 8000000 in
theorem bwrite_any (x:List UInt8) (hx:x≠[]) (B:Nat) (l:List UInt8) (p bv:Value) (w:World) (h:BdW w B l p bv) (hl:l.length+x.length≤1099511627776) (g o cap:Nat) (hgB:g≠B) (hby:IsBy w g o x) :
  Calls Tryz.prog 42 #[.pointer (some ⟨B,0,none⟩),.slice (some ⟨g,o,none⟩) x.length cap] w fun e w'=>(∃ v,e=.returned v)∧Hid (BdTo w B bv (l++x) w'):=by
 obtain ⟨ib,hib,hb0,hb1,hb2⟩:=info_parts infoBy
 have HC:=hide (copyCheck_bd h)
 have hxl:0<x.length:=List.length_pos_iff.2 hx
 have HBY:=hide hby
 clear h hx hby
 go_enter Tryz.func42,Tryz.ntmps42
 go_wp2_with fail
 refine (HC.out).mono ?_
 rintro e w1 ⟨rfl,h1,k1,hz1⟩
 have HB:=hide h1
 have HK:=hide k1
 have HZ:=hide hz1
 have q1:=cell_of_row w1 _ 1 _ _ _ h1.blk
 have f1:w1.frozen? ⟨B,1,none⟩=false:=by simp [World.frozen?,h1.blk]
 have hBl:B<w1.heap.size:=heap_lt h1.blk
 have HFAR:=hide h1.far
 have HNW:Hid (∀ (j:Nat) (u:Value),(Lib.byteCells x)[j]?=some u→w1.cell? ((⟨g,o,none⟩:Addr).add j)=some u):=fun j u hj=>by
  have hjl:j<x.length:=by
   rcases Nat.lt_or_ge j x.length with e|e
   ·exact e
   ·rw [List.getElem?_eq_none (by simp [Lib.byteCells];omega)] at hj;cases hj
  have h2:x[j]?=some x[j]:=List.getElem?_eq_getElem hjl
  have h3:u=.int .u8 x[j].toNat:=by
   have:(Lib.byteCells x)[j]?=some (.int .u8 x[j].toNat):=by simp [Lib.byteCells,hjl]
   rw [this] at hj;exact (Option.some.inj hj).symm
  have h4:=(HK.out).cellv ((HBY.out) j _ h2) hgB
  rw [h3]
  have ad:∀ n,(⟨g,o,none⟩:Addr).add n=⟨g,o+n,none⟩:=by intro n;unfold Addr.add;split<;>simp_all
  rw [ad];exact h4
 clear h1 k1 hz1 HC
 go_wp2_with (at_builtin;refine wpList_append_lies _ rfl _ _ 47 rfl B 5 ib _ 1 1 Tryz.underlying47 hib hb0 hb1 hb2 rfl (by decide) bv l.length _ rfl (HB.out).row ⟨g,o,none⟩ x.length cap (Lib.byteCells x) rfl (by simp [Lib.byteCells]) HNW.out (by intro u hu;simp only [Lib.byteCells,List.mem_map] at hu;obtain ⟨y,-,rfl⟩:=hu;rfl) hxl (by unfold maxLen;omega) (by omega) (by omega) w1.heap.size rfl ?_;intro g5 cap5 w5 hown5 hgrow5 hat5 hlt5;have HO5:=hide hown5;have HG5:=hide hgrow5;have HA5:=hide hat5;have hc5:w5.frozen? ⟨B,1,none⟩=false:=(hgrow5.frozen_far ⟨B,1,none⟩ hBl HFAR.out).trans f1;have hd5:w5.cell? ⟨B,1,none⟩=some bv:=(hgrow5.cell_far ⟨B,1,none⟩ hBl HFAR.out).trans q1;clear hown5 hgrow5 hat5 hlt5)
 have HF:Hid (BdTo w B bv (l++x) (w5.setCell ⟨B,1,none⟩ (.slice (some ⟨g5,0,none⟩) (l.length+x.length) cap5))):=by
  refine (HB.out).put HK.out (Below.refl _ w1) ?_ HG5.out (fun k hk=>?_)
  ·rw [List.length_append,Lib.byteCells_append];exact HO5.out
  ·obtain rfl:g5=k:=by simpa [Value.ownBlock] using hk
   rcases HA5.out with e|e
   ·exact .inl e
   ·exact .inr (by have:=HZ.out;omega)
 clear HO5 HG5 HA5
 go_wp2_with fail
 go_ret2
 exact ⟨⟨_,rfl⟩,HF⟩
end Go.Proofs.YtgpcpbmacdhlkaaGreatDoor
/- Package lay: whether a part fits;lines are added. -/
namespace Go.Proofs.YtgpcpbmacdhlkaaGreatDoor
open Go.RowKit
open M
set_option maxRecDepth 100000 in
set_option maxHeartbeats 8000000 in
theorem afits_any (L M:List X.Lf) (i j:Nat) (R:Nat) (rm:List (List UInt8)) (w:World) (k:Nat) (so:Option Addr) (sn sc:Nat) (most:Int) (h:IsRow w R rm L) (hA:X.Ats L i M) (hM:M≠[]) (hj:j=i+M.length) (hL:L.length≤268435456) (hF:(X.flt L).length≤8589934592) (hm1:-100000≤most) (hm2:most≤100000) :
  Calls Tryz.prog 62 #[.pointer (some ⟨R,0,none⟩),.agg #[.int .i64 k,.int .i64 i,.int .i64 j,.slice so sn sc],.int .i64 most] w fun e w'=>e=.returned (.bool (decide ((X.chars (X.flt M):Int)≤most)))∧Below w.heap.size w w':=by
 have kA:Below w.heap.size w (w.alloc (.cells #[.int .i64 k,.int .i64 i,.int .i64 j,.slice so sn sc] 95)):=(Below.refl _ w).alloc (Nat.le_refl _) _
 have HP:=hide (apiece_any L M i j R rm _ (h.below kA) hA hM hj hL hF)
 have HKA:=hide kA
 have h4:=X.chars_four _ (X.flt M) (Nat.le_refl _)
 have hcl:=X.chars_le _ (X.flt M) (Nat.le_refl _)
 have hML:(X.flt M).length≤8589934592:=by
  obtain ⟨a,b,c,d,-,-,-,hd,-,hl⟩:=X.piece_at hA hM
  omega
 clear h hA hM hj kA
 generalize X.flt M=f at *
 go_enter Tryz.func62,Tryz.ntmps62
 go_wp2_with fail
 refine (HP.out).mono ?_
 rintro e w2 ⟨v,rfl,H2⟩
 obtain ⟨⟨g,o,cap,cur,rfl,hc1,hc2,hgR,hg,hby⟩,k2⟩:=H2.out
 have HK2:Hid (Below w.heap.size w w2):=(HKA.out).trans (k2.mono (HKA.out).size)
 have HC:=hide (count_any f g o cap w2 hc1 hby hML)
 clear H2 k2 hg hby HKA HP
 by_cases hle:(f.length:Int)≤most*4
 ·have i1:decide ((f.length:Int)≤most*4)=true:=decide_eq_true hle
  go_wp2_with fail
  refine (HC.out).mono ?_
  rintro e w3 ⟨rfl,k3⟩
  have HF:Hid (Below w.heap.size w w3):=(HK2.out).trans (k3.mono (HK2.out).size)
  clear k3
  go_wp2_with fail
  go_ret
  exact ⟨rfl,HF.out⟩
 ·have i1:decide ((f.length:Int)≤most*4)=false:=decide_eq_false hle
  have i2:decide ((X.chars f:Int)≤most)=false:=decide_eq_false (by omega)
  go_wp2_with fail
  go_ret
  exact ⟨by rw [i2];rfl,HK2.out⟩
def PT (t:TypeId):Prop:=t=141∨t=103
theorem PT.rt {t:TypeId} (h:PT t):¬ RT t:=by
 rcases h with rfl|rfl<;>(unfold RT;decide)
theorem PT.pt:¬ PT 95:=by unfold PT;decide
def lnv (ls:List X.Lne):List Value:=ls.flatMap (fun l=>[.int .i64 l.1,.int .i64 l.2.1,.int .i64 l.2.2])
theorem lnv_append (a b:List X.Lne):lnv (a++b)=lnv a++lnv b:=List.flatMap_append ..
theorem lnv_one (l:X.Lne):lnv [l]=[.int .i64 l.1,.int .i64 l.2.1,.int .i64 l.2.2]:=rfl
theorem lnv_len (ls:List X.Lne):(lnv ls).length=ls.length*3:=by
 induction ls with
 | nil=>rfl
 | cons e E ih=>unfold lnv at *;rw [List.flatMap_cons,List.length_append,ih,List.length_cons];simp;omega
structure IsPg (w:World) (Q R:Nat) (ls:List X.Lne) (lv:Value):Prop where
 blk:w.heap[Q]?=some (.cells #[.pointer (some ⟨R,0,none⟩),lv] 141 (0,0))
 row:w.ownsRow Q 103 3 lv ls.length (lnv ls)
theorem IsPg.below {w w':World} {Q R:Nat} {ls:List X.Lne} {lv:Value} (h:IsPg w Q R ls lv) (hk:Below w.heap.size w w'):IsPg w' Q R ls lv :=
 ⟨(Kp.ofBelow hk (fun _=>False)).heap h.blk id,(Kp.ofBelow hk (fun _=>False)).owns h.row (fun _ _=>id)⟩
def PgTo (w:World) (Q R:Nat) (ls:List X.Lne) (w':World):Prop:=(∃ lv,IsPg w' Q R ls lv)∧FK PT Q w w'
theorem infoLn:(Tryz.prog.info? 103).map (fun i=>(i.zero,i.size,i.bytes))=some (some (.agg #[.int .i64 0,.int .i64 0,.int .i64 0]),3,24):=by kernel_rfl
set_option maxRecDepth 100000 in
set_option maxHeartbeats 8000000 in
theorem gadd_any (n i j:Nat) (Q R:Nat) (ls:List X.Lne) (w:World) (h:∃ lv,IsPg w Q R ls lv) (hl:ls.length≤268435456) :
  Calls Tryz.prog 64 #[.pointer (some ⟨Q,0,none⟩),.int .i64 n,.int .i64 i,.int .i64 j] w fun e w'=>e=.returned (.tuple #[])∧Hid (PgTo w Q R (ls++[(n,i,j)]) w'):=by
 obtain ⟨lv,h⟩:=h
 obtain ⟨ib,hib,hb0,hb1,hb2⟩:=info_parts infoLn
 have q1:=cell_of_row w _ 1 _ _ _ h.blk
 have f1:w.frozen? ⟨Q,1,none⟩=false:=by simp [World.frozen?,h.blk]
 have hQ:=heap_lt h.blk
 have HH:=hide h
 have HFAR:Hid (some Q≠lv.ownBlock):=fun e=>by
  obtain ⟨-,c,hc⟩:=own_ty (HH.out).row e.symm
  exact absurd (cells_ty hc (HH.out).blk) (by decide)
 clear h
 go_enter Tryz.func64,Tryz.ntmps64
 go_wp2_with (at_builtin;refine wpList_append_lies _ rfl _ _ 100 rfl Q 103 ib _ 3 24 Tryz.underlying100 hib hb0 hb1 hb2 rfl (by decide) lv ls.length _ rfl (((HH.out).row:w.ownsRow _ _ _ _ _ _).alloc _) ⟨w.heap.size,0,none⟩ 1 1 [.int .i64 n,.int .i64 i,.int .i64 j] rfl rfl (World.news_of_block (cs:=#[.int .i64 n,.int .i64 i,.int .i64 j]) (heap_alloc_new w _)) (by simp [Value.oneCell']) (by omega) (by unfold maxLen;omega) (by omega) (by simp;omega) (w.heap.size+1) (by simp) ?_;intro g5 cap5 w5 hown5 hgrow5 hat5 hlt5;have HO5:=hide hown5;have HG5:=hide hgrow5;have hc5:w5.frozen? ⟨Q,1,none⟩=false:=(hgrow5.frozen_far ⟨Q,1,none⟩ (by simp;omega) HFAR.out).trans ((World.frozen?_alloc_old _ _ ⟨Q,1,none⟩ (by simp;omega)).trans f1);have hd5:w5.cell? ⟨Q,1,none⟩=some lv:=(hgrow5.cell_far ⟨Q,1,none⟩ (by simp;omega) HFAR.out).trans ((World.cell?_alloc_old _ _ ⟨Q,1,none⟩ (by simp;omega)).trans q1);clear hown5 hgrow5 hat5 hlt5)
 have HF:Hid (PgTo w Q R (ls++[(n,i,j)]) (w5.setCell ⟨Q,1,none⟩ (.slice (some ⟨g5,0,none⟩) (ls.length+1) cap5))):=by
  obtain ⟨h1,h2,h3,-⟩:=row_put (P:=PT) (j:=1) (HH.out).blk (HH.out).row (.inl rfl) (.inr rfl) (by decide) ((Below.refl _ w).alloc (Nat.le_refl _) _) HO5.out HG5.out
  refine ⟨⟨_,h1,?_⟩,h3⟩
  rw [List.length_append,lnv_append,lnv_one];exact h2
 go_wp2_with fail
 go_end0
 exact ⟨rfl,HF⟩
end Go.Proofs.YtgpcpbmacdhlkaaGreatDoor
/- Package lay: the next token is put at the end of the last line. -/
namespace Go.Proofs.YtgpcpbmacdhlkaaGreatDoor
open Go.RowKit
open M
theorem lnv_set (ls:List X.Lne) (n a b b':Nat):(lnv (ls++[(n,a,b)])).set (ls.length*3+2) (.int .i64 b')=lnv (ls++[(n,a,b')]):=by
 rw [lnv_append,lnv_append,List.set_append_right _ _ (by rw [lnv_len];omega),lnv_len]
 congr 1
 rw [show ls.length*3+2 - ls.length*3=2 by omega]
 rfl
theorem IsPg.close {w:World} {Q R:Nat} {ls:List X.Lne} {n a b:Nat} {lv:Value} (h:IsPg w Q R (ls++[(n,a,b)]) lv):∃ g cap,lv=.slice (some ⟨g,0,none⟩) (ls.length+1) cap∧w.cell? ⟨g,ls.length*3+2,none⟩=some (.int .i64 b)∧w.frozen? ⟨g,ls.length*3+2,none⟩=false∧g≠Q ∧
  IsPg (w.setCell ⟨g,ls.length*3+2,none⟩ (.int .i64 ((b+1:Nat):Int))) Q R (ls++[(n,a,b+1)]) lv∧FK PT Q w (w.setCell ⟨g,ls.length*3+2,none⟩ (.int .i64 ((b+1:Nat):Int))):=by
 have hll:(ls++[(n,a,b)]).length=ls.length+1:=by simp
 have hll2:(ls++[(n,a,b+1)]).length=ls.length+1:=by simp
 have hr:=h.row
 have hcells:=fun g hg=>hr.cells (g:=g) hg
 rw [hll] at hr
 rcases hr.2 with ⟨rfl,h0⟩|⟨g,cap,cur,rfl,hb,hg,hn,hm,hsz,ht⟩
 ·omega
 ·have hgQ:g≠Q:=fun e=>by
   rw [e] at hg
   exact absurd (cells_ty hg h.blk) (by decide)
  have hcs:ls.length*3+2<cur.size:=by rw [hsz];have:=Nat.mul_le_mul_right 3 hn;omega
  have kS:Kp (fun q=>q=g) w (w.setCell ⟨g,ls.length*3+2,none⟩ (.int .i64 ((b+1:Nat):Int))):=Kp.setCell (S:=fun q=>q=g) (p:=⟨g,ls.length*3+2,none⟩) (Kp.refl _ w) (fun _=>rfl) _
  refine ⟨g,cap,rfl,?_,by simp [World.frozen?,hg],hgQ,⟨kS.heap h.blk (fun e=>hgQ e.symm),⟨by rw [lnv_len],.inr ⟨g,cap,cur.setIfInBounds (ls.length*3+2) (.int .i64 ((b+1:Nat):Int)),by rw [hll2],hb,?_,by rw [hll2];exact hn,hm,by rw [Array.size_setIfInBounds,hsz],?_⟩⟩⟩,Kp.mono kS (fun i hi e=>by subst e;exact ⟨hb,_,_,_,hg,.inr rfl⟩)⟩
  ·have h1:(lnv (ls++[(n,a,b)]))[ls.length*3+2]?=some (.int .i64 b):=by
    rw [lnv_append,List.getElem?_append_right (by rw [lnv_len];omega),lnv_len,show ls.length*3+2 - ls.length*3=2 by omega];rfl
   have:=hcells g rfl _ _ h1
   rw [Addr.add_lit,Nat.zero_add] at this
   exact this
  ·exact set_blk hg _ _
  ·rw [hll2,Array.toList_setIfInBounds,List.take_set,ht,lnv_set]
set_option maxRecDepth 100000 in
set_option maxHeartbeats 8000000 in
theorem gclose_any (Q R:Nat) (l0 ls:List X.Lne) (w:World) (h:∃ lv,IsPg w Q R (l0++ls) lv) (hne:ls≠[]) (hl:(l0++ls).length≤268435456) (hb:∀ l∈ls,l.2.2≤1073741824) :
  Calls Tryz.prog 91 #[.pointer (some ⟨Q,0,none⟩)] w fun e w'=>e=.returned (.tuple #[])∧Hid (PgTo w Q R (l0++X.cl ls) w'):=by
 obtain ⟨lv,h⟩:=h
 obtain ⟨ls,⟨n,a,b⟩,rfl⟩:∃ l x,ls=l++[x]:=⟨ls.dropLast,ls.getLast hne,(List.dropLast_concat_getLast hne).symm⟩
 rw [X.cl_last]
 rw [← List.append_assoc] at h hl ⊢
 have hbb:b≤1073741824:=hb (n,a,b) (by simp)
 rw [List.length_append,List.length_singleton] at hl
 generalize l0++ls=ls at *
 have q1:=cell_of_row w _ 1 _ _ _ h.blk
 obtain ⟨g,cap,rfl,c2,f2,hgQ,h1,h2⟩:=h.close
 have HF:Hid (PgTo w Q R (ls++[(n,a,b+1)]) (w.setCell ⟨g,ls.length*3+2,none⟩ (.int .i64 ((b+1:Nat):Int)))):=⟨⟨_,h1⟩,h2⟩
 have hQ:=heap_lt h.blk
 have i1:(0:Int)≤(ls.length:Int):=Int.natCast_nonneg _
 have i2:(ls.length:Int)<(ls.length:Int)+1:=by omega
 have hw1:IntKind.i64.wrap ((ls.length:Int)+1 - 1)=(ls.length:Int):=by rw [IntKind.wrap_i64];omega
 have hw2:IntKind.i64.wrap ((b:Int)+1)=((b+1:Nat):Int):=by rw [IntKind.wrap_i64];omega
 have hw3:IntKind.i64.wrap (ls.length:Int)=(ls.length:Int):=by rw [IntKind.wrap_i64];omega
 clear h h1 h2 hne hb
 generalize hbw:((b+1:Nat):Int)=bw at *
 clear hbw
 go_enter Tryz.func91,Tryz.ntmps91
 go_wp2_with fail
 go_region
 have HF2:Hid (PgTo w Q R (ls++[(n,a,b+1)]) (w.drew.setCell ⟨g,ls.length*3+2,none⟩ (.int .i64 bw))):=by
  have h:=HF.out
  obtain ⟨⟨lv,q1,q2⟩,q3⟩:=h
  exact ⟨⟨lv,q1,q2⟩,q3.os,q3.tape,q3.output,q3.size,q3.block⟩
 go_wp2_with fail
 go_end0
 exact ⟨rfl,HF2⟩
end Go.Proofs.YtgpcpbmacdhlkaaGreatDoor
/- Package lay: parts of parts;a last part in lines of its own. -/
namespace Go.Proofs.YtgpcpbmacdhlkaaGreatDoor
open Go.RowKit
open M
theorem IsPt.kid {w:World} {D:Nat→Prop} {i:Nat} {v:Value} {p:X.Part} (h:IsPt w D i v p):∃ (ao:Option Addr) (cap:Nat),v=.agg #[.int .i64 (X.kindOf p),.int .i64 i,.int .i64 ((i+(X.nt p).length:Nat):Int),.slice ao (X.tks (X.kidsOf p)).length cap]∧(X.tks (X.kidsOf p)).length≤cap∧cap≤maxLen ∧
  ∀ (j:Nat) (q:X.Part),(X.tks (X.kidsOf p))[j]?=some q→∃ (g:Nat) (b1:Option Addr) (b2 b3:Nat),ao=some ⟨g,0,none⟩∧(∃ cur,w.heap[g]?=some (.cells cur 95 (0,0))) ∧
   w.cell? ⟨g,j*4,none⟩=some (.int .i64 (X.kindOf q))∧w.cell? ⟨g,j*4+1,none⟩=some (.int .i64 ((i+(X.nts' ((X.tks (X.kidsOf p)).take j)).length:Nat):Int))∧w.cell? ⟨g,j*4+2,none⟩=some (.int .i64 ((i+(X.nts' ((X.tks (X.kidsOf p)).take j)).length+(X.nt q).length:Nat):Int))∧w.cell? ⟨g,j*4+3,none⟩=some (.slice b1 b2 b3) ∧
   IsPt w D (i+(X.nts' ((X.tks (X.kidsOf p)).take j)).length) (.agg #[.int .i64 (X.kindOf q),.int .i64 ((i+(X.nts' ((X.tks (X.kidsOf p)).take j)).length:Nat):Int),.int .i64 ((i+(X.nts' ((X.tks (X.kidsOf p)).take j)).length+(X.nt q).length:Nat):Int),.slice b1 b2 b3]) q:=by
 cases h with
 | mk i p cap ao c0 c1 c2 c3 hc hr hp =>
 refine ⟨ao,cap,rfl,hc.1,hc.2,fun j q hq=>?_⟩
 have hj:j<(X.tks (X.kidsOf p)).length:=by
  rcases Nat.lt_or_ge j (X.tks (X.kidsOf p)).length with e|e
  ·exact e
  ·rw [List.getElem?_eq_none e] at hq;cases hq
 obtain ⟨g,cur,e1,-,hg,z0,z1,z2,z3⟩:=hr j hj
 have hk:=hp j q hq
 obtain ⟨b1,b2,b3,hv⟩:=hk.shape
 unfold q4v at hv
 simp only [Value.agg.injEq,Array.mk.injEq,List.cons.injEq,and_true] at hv
 obtain ⟨u0,u1,u2,u3⟩:=hv
 rw [u0,u1,u2,u3] at hk
 rw [u0] at z0
 rw [u1] at z1
 rw [u2] at z2
 rw [u3] at z3
 refine ⟨g,b1,b2,b3,e1,⟨cur,hg⟩,?_,?_,?_,?_,hk⟩
 ·rw [Lib.cell_of_heap hg];exact z0
 ·rw [Lib.cell_of_heap hg];exact z1
 ·rw [Lib.cell_of_heap hg];exact z2
 ·rw [Lib.cell_of_heap hg];exact z3
def XC (L:List X.Lf) (p:X.Part):Prop:=∀ (f n i:Nat) (w:World) (Q R:Nat) (rm:List (List UInt8)) (D:Nat→Prop) (v:Value) (ls:List X.Lne),IsRow w R rm L→(∃ lv,IsPg w Q R ls lv)→IsPt w D i v p→X.Ats L i (X.fl false p)→(X.nt p).length≤f→n+X.dp p≤522→ls.length+(X.nt p).length≤268435456 →
 Calls Tryz.prog 90 #[.pointer (some ⟨Q,0,none⟩),v,.int .i64 n] w fun e w'=>e=.returned (.tuple #[])∧Hid (∃ ls',X.SG L i (X.nt p).length ls' (X.ex f n p)∧PgTo w Q R (ls++ls') w')
theorem PgTo.trans {w w1 w2:World} {Q R:Nat} {l1 l2:List X.Lne} (h1:PgTo w Q R l1 w1) (h2:PgTo w1 Q R l2 w2):PgTo w Q R l2 w2:=⟨h2.1,h1.2.trans h2.2⟩
theorem PgTo.from {w w1 w2:World} {Q R:Nat} {l2:List X.Lne} (h1:Below w.heap.size w w1) (h2:PgTo w1 Q R l2 w2):PgTo w Q R l2 w2:=⟨h2.1,(FK.below h1).trans h2.2⟩
set_option maxRecDepth 100000 in
set_option maxHeartbeats 8000000 in
theorem gtail_any (L:List X.Lf) (p q:X.Part) (M:List X.Part) (hM:X.tks (X.kidsOf p)=M++[q]) (ih:XC L q) (f n m i:Nat) (w:World) (Q R:Nat) (rm:List (List UInt8)) (D:Nat→Prop) (v:Value) (ls:List X.Lne) (hr:IsRow w R rm L) (hg:∃ lv,IsPg w Q R ls lv) (h:IsPt w D i v p) (hA:X.Ats L (i+(X.nts' M).length) (X.fl false q)) (hf:(X.nt q).length≤f) (hm:m+X.dp q≤522) (hl:ls.length+1+(X.nt q).length≤268435456) :
  Calls Tryz.prog 117 #[.pointer (some ⟨Q,0,none⟩),v,.int .i64 n,.int .i64 m] w fun e w'=>e=.returned (.tuple #[])∧Hid (∃ ls',X.SG L (i+(X.nts' M).length) (X.nt q).length ls' (X.ex f m q)∧PgTo w Q R (ls++([(n,i,i+(X.nts' M).length)]++ls')) w'):=by
 obtain ⟨ao,cap,rfl,hc1,hc2,hk⟩:=h.kid
 rw [hM] at hk hc1 ⊢
 obtain ⟨g,b1,b2,b3,rfl,⟨cur,hgb⟩,c0,c1,c2,c3,hq⟩:=hk M.length q (by rw [List.getElem?_append_right (Nat.le_refl _),Nat.sub_self];rfl)
 rw [List.take_left' rfl] at c1 c2 hq
 have hle:=hA.le
 rw [X.fl_len] at hle
 have hml:(M++[q]).length=M.length+1:=by simp
 rw [hml] at hc1 ⊢
 have hMl:M.length≤9223372036854775807:=by unfold maxLen at hc2;omega
 have hgl:=heap_lt hgb
 have i1:(0:Int)≤(M.length:Int):=Int.natCast_nonneg _
 have i2:(M.length:Int)<(M.length:Int)+1:=by omega
 have hw1:IntKind.i64.wrap ((M.length:Int)+1 - 1)=(M.length:Int):=by rw [IntKind.wrap_i64];unfold maxLen at hc2;omega
 have hw2:IntKind.i64.wrap (M.length:Int)=(M.length:Int):=by rw [IntKind.wrap_i64];unfold maxLen at hc2;omega
 obtain ⟨fr,hfr⟩:∃ fr,fr=i+(X.nts' M).length:=⟨_,rfl⟩
 rw [← hfr] at c1 c2 hq hA ⊢
 generalize ht:fr+(X.nt q).length=t at *
 generalize hte:i+(X.nt p).length=te at *
 clear hte
 have HT:=hide ht
 have HFR:=hide hfr
 have HR:=hide hr
 have HG:=hide hg
 have HQ:=hide hq
 have HA:=hide hA
 clear h hk hM hr hg hq hA ht hfr hml
 go_enter Tryz.func117,Tryz.ntmps117
 go_wp2_with fail
 have k2:Below w.heap.size w ((w.alloc (.cells #[.int .i64 (X.kindOf p),.int .i64 i,.int .i64 te,.slice (some ⟨g,0,none⟩) (M.length+1) cap] 95)).alloc (.cells #[.int .i64 (X.kindOf q),.int .i64 fr,.int .i64 t,.slice b1 b2 b3] 95)):=((Below.refl _ w).alloc (Nat.le_refl _) _).alloc (by simp) _
 have hb1:((w.alloc (.cells #[.int .i64 (X.kindOf p),.int .i64 i,.int .i64 te,.slice (some ⟨g,0,none⟩) (M.length+1) cap] 95)).alloc (.cells #[.int .i64 (X.kindOf q),.int .i64 fr,.int .i64 t,.slice b1 b2 b3] 95)).heap[w.heap.size+1]?=some (.cells #[.int .i64 (X.kindOf q),.int .i64 fr,.int .i64 t,.slice b1 b2 b3] 95 (0,0)):=new_at _ _ (by simp)
 generalize ((w.alloc (.cells #[.int .i64 (X.kindOf p),.int .i64 i,.int .i64 te,.slice (some ⟨g,0,none⟩) (M.length+1) cap] 95)).alloc (.cells #[.int .i64 (X.kindOf q),.int .i64 fr,.int .i64 t,.slice b1 b2 b3] 95))=W2 at *
 have c2':=Kp.ofBelow k2 (fun _=>False)
 obtain ⟨lv,hlv⟩:=HG.out
 refine (gadd_any n i fr Q R ls W2 ⟨lv,hlv.below k2⟩ (by omega)).mono ?_
 rintro e w3 ⟨rfl,H3⟩
 have hb3:=(H3.out).2.heap hb1 PT.pt
 have HIH:=hide (ih f m fr w3 Q R rm D (.agg #[.int .i64 (X.kindOf q),.int .i64 fr,.int .i64 t,.slice b1 b2 b3]) (ls++[(n,i,fr)]) (((HR.out).below k2).keep (H3.out).2 (fun t ht=>PT.rt ht)) (H3.out).1 (IsPt.fk (H3.out).2 PT.pt ((HQ.out).kept c2' (fun _ h=>h.elim))) HA.out hf hm (by rw [List.length_append,List.length_singleton];omega))
 have x0:=cell_of_row w3 _ 0 _ _ _ hb3
 have x1:=cell_of_row w3 _ 1 _ _ _ hb3
 have x2:=cell_of_row w3 _ 2 _ _ _ hb3
 have x3:=cell_of_row w3 _ 3 _ _ _ hb3
 have HK3:=hide (PgTo.from k2 H3.out)
 clear H3 hb3 hb1 k2 c2' hlv HG
 go_wp2_with fail
 refine (HIH.out).mono ?_
 rintro e w4 ⟨rfl,H4⟩
 have HF:Hid (∃ ls',X.SG L fr (X.nt q).length ls' (X.ex f m q)∧PgTo w Q R (ls++([(n,i,fr)]++ls')) w4):=by
  obtain ⟨ls',h1,h2⟩:=H4.out
  refine ⟨ls',h1,?_⟩
  rw [← List.append_assoc];exact PgTo.trans HK3.out h2
 clear H4 HK3 HIH
 go_wp2_with fail
 go_end0
 exact ⟨rfl,HF⟩
end Go.Proofs.YtgpcpbmacdhlkaaGreatDoor
/- Package lay: a choice. -/
namespace Go.Proofs.YtgpcpbmacdhlkaaGreatDoor
open Go.RowKit
open M
section
variable {P:Program} {ops:Array Oper} {Q:Exit→Act→World→Prop} {S:World→Prop} {z:Nat}
theorem wpTo_list {n:Nat} {d:Array Bool} {a:Act} {w:World} {l:List Nat} (hr:Region.ready .any ops d=l) (hl:l≠[]) (h:∀ i∈l,∃ o,ops[i]?=some o∧∀ K:Act→World→Prop,Hid (∀ a' w',(i≠z→S w')→((i≠z→S w')→wpTo P ops Q S z n (d.setIfInBounds i true) a' w')→K a' w')→if Region.wanted o (yielded ops a.tmps)=true then Oper.wp P o a w K Q else K (a.put o.dst undef) w):wpTo P ops Q S z (n+1) d a w:=by
 refine ⟨fun h0=>absurd (hr.symm.trans h0) hl,fun j hj=>?_⟩
 rw [hr] at hj
 obtain ⟨o,ho,hh⟩:=h j hj
 exact wpOp_step ho (fun K' hK=>hh K' (fun a' w' h1 h2=>hK a' w' ⟨h1,h2 h1⟩))
end
theorem wpTo_cast {P:Program} {ops:Array Oper} {Q:Exit→Act→World→Prop} {S:World→Prop} {z n:Nat} {d:Array Bool} {a:Act} {w:World} (n':Nat) (d':Array Bool) (hn:n=n') (hd:d=d') (h:wpTo P ops Q S z n' d' a w):wpTo P ops Q S z n d a w:=hn ▸ hd ▸ h
theorem cutm {T G:Prop} (h:Hid T→G) (k:T):G:=h k
def Tri (w:World) (A B C:Nat) (u v x:Array Value) (w':World):Prop:=w'.heap[A]?=some (.cells u 95 (0,0))∧w'.heap[B]?=some (.cells v 95 (0,0))∧w'.heap[C]?=some (.cells x 95 (0,0))∧Below w.heap.size w w'
set_option maxRecDepth 100000 in
set_option maxHeartbeats 8000000 in
theorem gchoice_any (L:List X.Lf) (q s:X.Part) (ihq:XC L q) (ihs:XC L s) (f n i te k g cap:Nat) (w:World) (Q R:Nat) (rm:List (List UInt8)) (D:Nat→Prop) (ls:List X.Lne) (kq fq tq kd fd td ks fs ts:Nat) (a1:Option Addr) (a2 a3:Nat) (b1:Option Addr) (b2 b3:Nat) (d1:Option Addr) (d2 d3:Nat) (cur:Array Value) (hgb:w.heap[g]?=some (.cells cur 95 (0,0)))
  (x00:w.cell? ⟨g,12,none⟩=some (.int .i64 kq)) (x01:w.cell? ⟨g,13,none⟩=some (.int .i64 fq)) (x02:w.cell? ⟨g,14,none⟩=some (.int .i64 tq)) (x03:w.cell? ⟨g,15,none⟩=some (.slice a1 a2 a3)) (x10:w.cell? ⟨g,16,none⟩=some (.int .i64 kd)) (x11:w.cell? ⟨g,17,none⟩=some (.int .i64 fd)) (x12:w.cell? ⟨g,18,none⟩=some (.int .i64 td)) (x13:w.cell? ⟨g,19,none⟩=some (.slice b1 b2 b3)) (x20:w.cell? ⟨g,20,none⟩=some (.int .i64 ks)) (x21:w.cell? ⟨g,21,none⟩=some (.int .i64 fs)) (x22:w.cell? ⟨g,22,none⟩=some (.int .i64 ts)) (x23:w.cell? ⟨g,23,none⟩=some (.slice d1 d2 d3))
  (hr:IsRow w R rm L) (hg:∃ lv,IsPg w Q R ls lv) (hq:IsPt w D fq (.agg #[.int .i64 kq,.int .i64 fq,.int .i64 tq,.slice a1 a2 a3]) q) (hs:IsPt w D fs (.agg #[.int .i64 ks,.int .i64 fs,.int .i64 ts,.slice d1 d2 d3]) s) (hAq:X.Ats L fq (X.fl false q)) (hAs:X.Ats L fs (X.fl false s)) (hfq:(X.nt q).length≤f) (hfs:(X.nt s).length≤f) (hmq:(n+2)+X.dp q≤522) (hms:n+2+X.dp s≤522) (hl:ls.length+2+(X.nt q).length+(X.nt s).length≤268435456) :
  Calls Tryz.prog 118 #[.pointer (some ⟨Q,0,none⟩),.agg #[.int .i64 k,.int .i64 i,.int .i64 te,.slice (some ⟨g,0,none⟩) 6 cap],.int .i64 n] w fun e w'=>e=.returned (.tuple #[])∧Hid (∃ l1 l2,X.SG L fq (X.nt q).length l1 (X.ex f (n+2) q)∧X.SG L fs (X.nt s).length l2 (X.ex f (n+2) s)∧PgTo w Q R (ls++([(n,i,fq)]++l1++[(n,fd,td)]++l2)) w'):=by
 have HR:=hide hr
 have HG:=hide hg
 have HQ:=hide hq
 have HS:=hide hs
 have HAq:=hide hAq
 have HAs:=hide hAs
 have hgl:=heap_lt hgb
 clear hr hg hq hs hAq hAs
 go_enter Tryz.func118,Tryz.ntmps118
 go_upto_region 1 with fail
 have k1:Below w.heap.size w (w.alloc (.cells #[.int .i64 k,.int .i64 i,.int .i64 te,.slice (some ⟨g,0,none⟩) 6 cap] 95)):=(Below.refl _ w).alloc (Nat.le_refl _) _
 have hbx:(w.alloc (.cells #[.int .i64 k,.int .i64 i,.int .i64 te,.slice (some ⟨g,0,none⟩) 6 cap] 95)).heap[w.heap.size]?=some (.cells #[.int .i64 k,.int .i64 i,.int .i64 te,.slice (some ⟨g,0,none⟩) 6 cap] 95 (0,0)):=heap_alloc_new w _
 have hz1:(w.alloc (.cells #[.int .i64 k,.int .i64 i,.int .i64 te,.slice (some ⟨g,0,none⟩) 6 cap] 95)).heap.size=w.heap.size+1:=by simp
 replace x00:=(Kp.ofBelow k1 (fun _=>False)).cellv x00 id
 replace x01:=(Kp.ofBelow k1 (fun _=>False)).cellv x01 id
 replace x02:=(Kp.ofBelow k1 (fun _=>False)).cellv x02 id
 replace x03:=(Kp.ofBelow k1 (fun _=>False)).cellv x03 id
 replace x10:=(Kp.ofBelow k1 (fun _=>False)).cellv x10 id
 replace x11:=(Kp.ofBelow k1 (fun _=>False)).cellv x11 id
 replace x12:=(Kp.ofBelow k1 (fun _=>False)).cellv x12 id
 replace x13:=(Kp.ofBelow k1 (fun _=>False)).cellv x13 id
 replace x20:=(Kp.ofBelow k1 (fun _=>False)).cellv x20 id
 replace x21:=(Kp.ofBelow k1 (fun _=>False)).cellv x21 id
 replace x22:=(Kp.ofBelow k1 (fun _=>False)).cellv x22 id
 replace x23:=(Kp.ofBelow k1 (fun _=>False)).cellv x23 id
 generalize w.alloc (.cells #[.int .i64 k,.int .i64 i,.int .i64 te,.slice (some ⟨g,0,none⟩) 6 cap] 95)=W at *
 have bx3:=cell_of_row W _ 3 _ _ _ hbx
 have HK1:=hide k1
 have hWl:w.heap.size<W.heap.size:=by omega
 have hgW:g<W.heap.size:=by omega
 have HBX:=hide hbx
 have HZ1:=hide hz1
 clear k1 hz1 hbx
 go_cut [6,7,8] (fun s6 s7 s8 wx=>∃ A B C,s6=.pointer (some ⟨A,0,none⟩)∧s7=.pointer (some ⟨B,0,none⟩)∧s8=.pointer (some ⟨C,0,none⟩)∧Hid (Tri W A B C #[.int .i64 kq,.int .i64 fq,.int .i64 tq,.slice a1 a2 a3] #[.int .i64 kd,.int .i64 fd,.int .i64 td,.slice b1 b2 b3] #[.int .i64 ks,.int .i64 fs,.int .i64 ts,.slice d1 d2 d3] wx))
 case first =>
  refine wp_region_noPanic ?_
  refine wpTo_start (S:=fun w'=>w'.cell? ⟨w.heap.size,3,none⟩=some (.slice (some ⟨g,0,none⟩) 6 cap)∧w'.cell? ⟨g,12,none⟩=some (.int .i64 kq)∧w'.cell? ⟨g,13,none⟩=some (.int .i64 fq)∧w'.cell? ⟨g,14,none⟩=some (.int .i64 tq)∧w'.cell? ⟨g,15,none⟩=some (.slice a1 a2 a3)∧w'.cell? ⟨g,16,none⟩=some (.int .i64 kd)∧w'.cell? ⟨g,17,none⟩=some (.int .i64 fd)∧w'.cell? ⟨g,18,none⟩=some (.int .i64 td)∧w'.cell? ⟨g,19,none⟩=some (.slice b1 b2 b3)∧w'.cell? ⟨g,20,none⟩=some (.int .i64 ks)∧w'.cell? ⟨g,21,none⟩=some (.int .i64 fs)∧w'.cell? ⟨g,22,none⟩=some (.int .i64 ts)∧w'.cell? ⟨g,23,none⟩=some (.slice d1 d2 d3)) (z:=18) (by kernel_rfl) ?_
  have hS:W.drew.cell? ⟨w.heap.size,3,none⟩=some (.slice (some ⟨g,0,none⟩) 6 cap)∧W.drew.cell? ⟨g,12,none⟩=some (.int .i64 kq)∧W.drew.cell? ⟨g,13,none⟩=some (.int .i64 fq)∧W.drew.cell? ⟨g,14,none⟩=some (.int .i64 tq)∧W.drew.cell? ⟨g,15,none⟩=some (.slice a1 a2 a3)∧W.drew.cell? ⟨g,16,none⟩=some (.int .i64 kd)∧W.drew.cell? ⟨g,17,none⟩=some (.int .i64 fd)∧W.drew.cell? ⟨g,18,none⟩=some (.int .i64 td)∧W.drew.cell? ⟨g,19,none⟩=some (.slice b1 b2 b3)∧W.drew.cell? ⟨g,20,none⟩=some (.int .i64 ks)∧W.drew.cell? ⟨g,21,none⟩=some (.int .i64 fs)∧W.drew.cell? ⟨g,22,none⟩=some (.int .i64 ts)∧W.drew.cell? ⟨g,23,none⟩=some (.slice d1 d2 d3):=⟨bx3,x00,x01,x02,x03,x10,x11,x12,x13,x20,x21,x22,x23⟩
  have HSW:=hide hS
  iterate 12 (refine wpTo_nx (v:=?_) rfl rfl (by kernel_rfl) (by decide) (by kernel_rfl) (by kernel_rfl) (fun _ _ _ h=>h) (Or.inl ⟨by rfl,?_⟩) hS ?_;rotate_left;(· (intro wx hSw;(try dsimp only at hSw);go_simp;try (with_reducible rfl)));simp only [Act.put,List.setIfInBounds_toArray,List.set_cons_zero,List.set_cons_succ])
  have HSK:Hid (∀ w',Below W.heap.size W w'→w'.cell? ⟨w.heap.size,3,none⟩=some (.slice (some ⟨g,0,none⟩) 6 cap)∧w'.cell? ⟨g,12,none⟩=some (.int .i64 kq)∧w'.cell? ⟨g,13,none⟩=some (.int .i64 fq)∧w'.cell? ⟨g,14,none⟩=some (.int .i64 tq)∧w'.cell? ⟨g,15,none⟩=some (.slice a1 a2 a3)∧w'.cell? ⟨g,16,none⟩=some (.int .i64 kd)∧w'.cell? ⟨g,17,none⟩=some (.int .i64 fd)∧w'.cell? ⟨g,18,none⟩=some (.int .i64 td)∧w'.cell? ⟨g,19,none⟩=some (.slice b1 b2 b3)∧w'.cell? ⟨g,20,none⟩=some (.int .i64 ks)∧w'.cell? ⟨g,21,none⟩=some (.int .i64 fs)∧w'.cell? ⟨g,22,none⟩=some (.int .i64 ts)∧w'.cell? ⟨g,23,none⟩=some (.slice d1 d2 d3)):=fun w' hB=>by
   have hK:=Kp.ofBelow hB (fun _=>False)
   exact ⟨hK.cellv bx3 id,hK.cellv x00 id,hK.cellv x01 id,hK.cellv x02 id,hK.cellv x03 id,hK.cellv x10 id,hK.cellv x11 id,hK.cellv x12 id,hK.cellv x13 id,hK.cellv x20 id,hK.cellv x21 id,hK.cellv x22 id,hK.cellv x23 id⟩
  clear hS HSW
  apply cutm
  ·intro key
   have z1:Below W.heap.size W (W.alloc (.cells #[.int .i64 0,.int .i64 0,.int .i64 0,.slice none 0 0] 95)):=(Below.refl _ W).alloc (Nat.le_refl _) _
   have z2:Below W.heap.size W ((W.alloc (.cells #[.int .i64 0,.int .i64 0,.int .i64 0,.slice none 0 0] 95)).alloc (.cells #[.int .i64 0,.int .i64 0,.int .i64 0,.slice none 0 0] 95)):=z1.alloc (by simp) _
   have z3:Below W.heap.size W (((W.alloc (.cells #[.int .i64 0,.int .i64 0,.int .i64 0,.slice none 0 0] 95)).alloc (.cells #[.int .i64 0,.int .i64 0,.int .i64 0,.slice none 0 0] 95)).alloc (.cells #[.int .i64 0,.int .i64 0,.int .i64 0,.slice none 0 0] 95)):=z2.alloc (by simp;omega) _
   have HZ:=hide z1
   have HY:=hide z2
   have HX:=hide z3
   have e0:(((W.alloc (.cells #[.int .i64 0,.int .i64 0,.int .i64 0,.slice none 0 0] 95)).alloc (.cells #[.int .i64 0,.int .i64 0,.int .i64 0,.slice none 0 0] 95)).alloc (.cells #[.int .i64 0,.int .i64 0,.int .i64 0,.slice none 0 0] 95)).drew.heap[W.heap.size]?=some (.cells #[.int .i64 0,.int .i64 0,.int .i64 0,.slice none 0 0] 95 (0,0)):=(heap_alloc_old _ _ (by simp;omega)).trans ((heap_alloc_old _ _ (by simp)).trans (heap_alloc_new W _))
   have e1:(((W.alloc (.cells #[.int .i64 0,.int .i64 0,.int .i64 0,.slice none 0 0] 95)).alloc (.cells #[.int .i64 0,.int .i64 0,.int .i64 0,.slice none 0 0] 95)).alloc (.cells #[.int .i64 0,.int .i64 0,.int .i64 0,.slice none 0 0] 95)).drew.heap[W.heap.size+1]?=some (.cells #[.int .i64 0,.int .i64 0,.int .i64 0,.slice none 0 0] 95 (0,0)):=(heap_alloc_old _ _ (by simp)).trans (new_at _ _ (by simp))
   have e2:(((W.alloc (.cells #[.int .i64 0,.int .i64 0,.int .i64 0,.slice none 0 0] 95)).alloc (.cells #[.int .i64 0,.int .i64 0,.int .i64 0,.slice none 0 0] 95)).alloc (.cells #[.int .i64 0,.int .i64 0,.int .i64 0,.slice none 0 0] 95)).drew.heap[W.heap.size+1+1]?=some (.cells #[.int .i64 0,.int .i64 0,.int .i64 0,.slice none 0 0] 95 (0,0)):=new_at _ _ (by simp)
   clear z1 z2 z3
   refine wpTo_list (l:=[12,13,14]) (by kernel_rfl) (by simp) (fun j hj=>?_)
   simp only [List.mem_cons,List.not_mem_nil,or_false] at hj
   rcases hj with rfl|rfl|rfl
   all_goals
    refine ⟨_,rfl,fun K hK=>?_⟩
    go_simp
    refine hK.out _ _ (fun _=>(HSK.out) _ ((HZ.out).drew)) (fun _=>?_)
    clear hK K
   refine wpTo_list (l:=[13,14]) (by kernel_rfl) (by simp) (fun j hj=>?_)
   rotate_left
   refine wpTo_list (l:=[12,14]) (by kernel_rfl) (by simp) (fun j hj=>?_)
   rotate_left
   refine wpTo_list (l:=[12,13]) (by kernel_rfl) (by simp) (fun j hj=>?_)
   rotate_left
   all_goals
    simp only [List.mem_cons,List.not_mem_nil,or_false] at hj
    rcases hj with rfl|rfl
   all_goals
    refine ⟨_,rfl,fun K hK=>?_⟩
    go_simp
    refine hK.out _ _ (fun _=>(HSK.out) _ ((HY.out).drew)) (fun _=>?_)
    clear hK K
   refine wpTo_one (i:=14) (by kernel_rfl) rfl (fun K hK=>?_)
   rotate_left
   refine wpTo_one (i:=13) (by kernel_rfl) rfl (fun K hK=>?_)
   rotate_left
   refine wpTo_one (i:=14) (by kernel_rfl) rfl (fun K hK=>?_)
   rotate_left
   refine wpTo_one (i:=12) (by kernel_rfl) rfl (fun K hK=>?_)
   rotate_left
   refine wpTo_one (i:=13) (by kernel_rfl) rfl (fun K hK=>?_)
   rotate_left
   refine wpTo_one (i:=12) (by kernel_rfl) rfl (fun K hK=>?_)
   rotate_left
   all_goals
    go_simp
    refine hK.out _ _ (fun _=>(HSK.out) _ ((HX.out).drew)) (fun _=>?_)
    clear hK K
    refine wpTo_cast 3 #[true,true,true,true,true,true,true,true,true,true,true,true,true,true,true,false,false,false] (by kernel_rfl) (by kernel_rfl) ?_
    have HD:=hide ((HX.out).drew)
    generalize (((W.alloc (.cells #[.int .i64 0,.int .i64 0,.int .i64 0,.slice none 0 0] 95)).alloc (.cells #[.int .i64 0,.int .i64 0,.int .i64 0,.slice none 0 0] 95)).alloc (.cells #[.int .i64 0,.int .i64 0,.int .i64 0,.slice none 0 0] 95)).drew=W3 at e0 e1 e2 HD ⊢
   ·have sg:∀ B C,W.heap.size+1=B→W.heap.size+1+1=C→Hid (B≠W.heap.size∧C≠W.heap.size∧C≠B∧W.heap.size≤W.heap.size∧W.heap.size≤B∧W.heap.size≤C):=fun B C h1 h2=>⟨by omega,by omega,by omega,by omega,by omega,by omega⟩
    generalize hC:W.heap.size+1+1=C at e2 ⊢
    generalize hB:W.heap.size+1=B at e1 ⊢
    replace sg:=sg B C hB hC
    clear hB hC HX HY HZ
    have sg':∀ A,W.heap.size=A→Hid (B≠A∧C≠A∧C≠B∧W.heap.size≤A∧W.heap.size≤B∧W.heap.size≤C):=fun A h=>h ▸ sg
    generalize hA:W.heap.size=A at e0 ⊢
    replace sg:=sg' A hA
    clear sg' hA
    revert e2
    revert e1
    revert e0
    revert HD
    revert sg
    revert A
    revert B
    revert C
    revert W3
    exact key.out
   all_goals
    first
     | exact key.out W3 (W.heap.size+1) (W.heap.size+1+1) W.heap.size ⟨by omega,by omega,by omega,by omega,by omega,by omega⟩ HD e0 e2 e1
     | exact key.out W3 (W.heap.size+1+1) W.heap.size (W.heap.size+1) ⟨by omega,by omega,by omega,by omega,by omega,by omega⟩ HD e1 e0 e2
     | exact key.out W3 W.heap.size (W.heap.size+1+1) (W.heap.size+1) ⟨by omega,by omega,by omega,by omega,by omega,by omega⟩ HD e1 e2 e0
     | exact key.out W3 (W.heap.size+1) W.heap.size (W.heap.size+1+1) ⟨by omega,by omega,by omega,by omega,by omega,by omega⟩ HD e2 e0 e1
     | exact key.out W3 W.heap.size (W.heap.size+1) (W.heap.size+1+1) ⟨by omega,by omega,by omega,by omega,by omega,by omega⟩ HD e2 e1 e0
  ·intro W3 C B A sg HD e0 e1 e2
   obtain ⟨n1,n2,n3,l1,l2,l3⟩:=sg.out
   clear sg
   have m0:=cell_of_row W3 _ 0 _ _ _ e0
   have m1:=cell_of_row W3 _ 1 _ _ _ e0
   have m2:=cell_of_row W3 _ 2 _ _ _ e0
   have m3:=cell_of_row W3 _ 3 _ _ _ e0
   have fz:∀ o,W3.frozen? ⟨A,o,none⟩=false:=fun o=>by simp [World.frozen?,e0]
   have g0:=set4_B (x0:=(.int .i64 kq)) (x1:=(.int .i64 fq)) (x2:=(.int .i64 tq)) (x3:=(.slice a1 a2 a3)) e0
   have kS:Kp (fun x=>x=A) W3 ((((W3.setCell ⟨A,0,none⟩ (.int .i64 kq)).setCell ⟨A,1,none⟩ (.int .i64 fq)).setCell ⟨A,2,none⟩ (.int .i64 tq)).setCell ⟨A,3,none⟩ (.slice a1 a2 a3)):=On.set (On.set (On.set (On.set (Kp.refl _ W3) 0 _) 1 _) 2 _) 3 _
   have HD2:Hid (Below W.heap.size W ((((W3.setCell ⟨A,0,none⟩ (.int .i64 kq)).setCell ⟨A,1,none⟩ (.int .i64 fq)).setCell ⟨A,2,none⟩ (.int .i64 tq)).setCell ⟨A,3,none⟩ (.slice a1 a2 a3))):=(HD.out).trans (Kp.below kS (HD.out).size (fun x e=>by omega))
   replace e1:=kS.heap e1 (show ¬(B=A) by omega)
   replace e2:=kS.heap e2 (show ¬(C=A) by omega)
   refine wpTo_one (i:=15) (by kernel_rfl) rfl (fun K hK=>?_)
   go_simp
   refine hK.out _ _ (fun _=>(HSK.out) _ HD2.out) (fun _=>?_)
   clear hK K m0 m1 m2 m3 fz HD e0 kS
   have e0:=g0
   clear g0
   generalize ((((W3.setCell ⟨A,0,none⟩ (.int .i64 kq)).setCell ⟨A,1,none⟩ (.int .i64 fq)).setCell ⟨A,2,none⟩ (.int .i64 tq)).setCell ⟨A,3,none⟩ (.slice a1 a2 a3))=W4 at *
   have HD:=HD2
   clear HD2
   have m0:=cell_of_row W4 _ 0 _ _ _ e1
   have m1:=cell_of_row W4 _ 1 _ _ _ e1
   have m2:=cell_of_row W4 _ 2 _ _ _ e1
   have m3:=cell_of_row W4 _ 3 _ _ _ e1
   have fz:∀ o,W4.frozen? ⟨B,o,none⟩=false:=fun o=>by simp [World.frozen?,e1]
   have g0:=set4_B (x0:=(.int .i64 kd)) (x1:=(.int .i64 fd)) (x2:=(.int .i64 td)) (x3:=(.slice b1 b2 b3)) e1
   have kS:Kp (fun x=>x=B) W4 ((((W4.setCell ⟨B,0,none⟩ (.int .i64 kd)).setCell ⟨B,1,none⟩ (.int .i64 fd)).setCell ⟨B,2,none⟩ (.int .i64 td)).setCell ⟨B,3,none⟩ (.slice b1 b2 b3)):=On.set (On.set (On.set (On.set (Kp.refl _ W4) 0 _) 1 _) 2 _) 3 _
   have HD2:Hid (Below W.heap.size W ((((W4.setCell ⟨B,0,none⟩ (.int .i64 kd)).setCell ⟨B,1,none⟩ (.int .i64 fd)).setCell ⟨B,2,none⟩ (.int .i64 td)).setCell ⟨B,3,none⟩ (.slice b1 b2 b3))):=(HD.out).trans (Kp.below kS (HD.out).size (fun x e=>by omega))
   replace e0:=kS.heap e0 (show ¬(A=B) by omega)
   replace e2:=kS.heap e2 (show ¬(C=B) by omega)
   refine wpTo_one (i:=16) (by kernel_rfl) rfl (fun K hK=>?_)
   go_simp
   refine hK.out _ _ (fun _=>(HSK.out) _ HD2.out) (fun _=>?_)
   clear hK K m0 m1 m2 m3 fz HD e1 kS
   have e1:=g0
   clear g0
   generalize ((((W4.setCell ⟨B,0,none⟩ (.int .i64 kd)).setCell ⟨B,1,none⟩ (.int .i64 fd)).setCell ⟨B,2,none⟩ (.int .i64 td)).setCell ⟨B,3,none⟩ (.slice b1 b2 b3))=W5 at *
   have HD:=HD2
   clear HD2
   have m0:=cell_of_row W5 _ 0 _ _ _ e2
   have m1:=cell_of_row W5 _ 1 _ _ _ e2
   have m2:=cell_of_row W5 _ 2 _ _ _ e2
   have m3:=cell_of_row W5 _ 3 _ _ _ e2
   have fz:∀ o,W5.frozen? ⟨C,o,none⟩=false:=fun o=>by simp [World.frozen?,e2]
   have g0:=set4_B (x0:=(.int .i64 ks)) (x1:=(.int .i64 fs)) (x2:=(.int .i64 ts)) (x3:=(.slice d1 d2 d3)) e2
   have kS:Kp (fun x=>x=C) W5 ((((W5.setCell ⟨C,0,none⟩ (.int .i64 ks)).setCell ⟨C,1,none⟩ (.int .i64 fs)).setCell ⟨C,2,none⟩ (.int .i64 ts)).setCell ⟨C,3,none⟩ (.slice d1 d2 d3)):=On.set (On.set (On.set (On.set (Kp.refl _ W5) 0 _) 1 _) 2 _) 3 _
   have HD2:Hid (Below W.heap.size W ((((W5.setCell ⟨C,0,none⟩ (.int .i64 ks)).setCell ⟨C,1,none⟩ (.int .i64 fs)).setCell ⟨C,2,none⟩ (.int .i64 ts)).setCell ⟨C,3,none⟩ (.slice d1 d2 d3))):=(HD.out).trans (Kp.below kS (HD.out).size (fun x e=>by omega))
   replace e0:=kS.heap e0 (show ¬(A=C) by omega)
   replace e1:=kS.heap e1 (show ¬(B=C) by omega)
   refine wpTo_one (i:=17) (by kernel_rfl) rfl (fun K hK=>?_)
   go_simp
   refine hK.out _ _ (fun _=>(HSK.out) _ HD2.out) (fun _=>?_)
   clear hK K m0 m1 m2 m3 fz HD e2 kS
   have e2:=g0
   clear g0
   generalize ((((W5.setCell ⟨C,0,none⟩ (.int .i64 ks)).setCell ⟨C,1,none⟩ (.int .i64 fs)).setCell ⟨C,2,none⟩ (.int .i64 ts)).setCell ⟨C,3,none⟩ (.slice d1 d2 d3))=W6 at *
   have HD:=HD2
   clear HD2
   have HF:Hid (Tri W A B C #[.int .i64 kq,.int .i64 fq,.int .i64 tq,.slice a1 a2 a3] #[.int .i64 kd,.int .i64 fd,.int .i64 td,.slice b1 b2 b3] #[.int .i64 ks,.int .i64 fs,.int .i64 ts,.slice d1 d2 d3] W6):=⟨e0,e1,e2,HD.out⟩
   clear HD HSK e0 e1 e2
   refine wpTo_end (by kernel_rfl) ?_
   refine NoPanic.normal ?_
   go_wp2_with fail
   go_meet
   case rel=>exact ⟨_,_,_,rfl,rfl,rfl,HF⟩
 case rest =>
  obtain ⟨A,B,C,rfl,rfl,rfl,HTr⟩:=hcut
  obtain ⟨tA,tB,tC,kT⟩:=HTr.out
  have k2:Below w.heap.size w wc:=(HK1.out).trans (kT.mono (HK1.out).size)
  have HBX2:=hide ((Kp.ofBelow kT (fun _=>False)).heap HBX.out id)
  have HQ2:=hide ((HQ.out).kept (Kp.ofBelow k2 (fun _=>False)) (fun _ h=>h.elim))
  have HS2:=hide ((HS.out).kept (Kp.ofBelow k2 (fun _=>False)) (fun _ h=>h.elim))
  have HR2:=hide ((HR.out).below k2)
  have HG2:Hid (∃ lv,IsPg wc Q R ls lv):=by
   obtain ⟨lv,hlv⟩:=HG.out
   exact ⟨lv,hlv.below k2⟩
  have HK2:=hide k2
  have HA2:=hide tA
  have HB2:=hide tB
  have HC2:=hide tC
  clear HTr kT k2 HBX HQ HS HR HG HK1 HZ1 bx3 x00 x01 x02 x03 x10 x11 x12 x13 x20 x21 x22 x23
  have p1:=cell_of_row wc _ 1 _ _ _ HBX2.out
  have qa1:=cell_of_row wc _ 1 _ _ _ HA2.out
  go_wp2_with fail
  refine (gadd_any n i fq Q R ls wc HG2.out (by omega)).mono ?_
  rintro e v1 ⟨rfl,HP⟩
  have HBX2':=hide ((HP.out).2.heap HBX2.out PT.pt)
  clear HBX2
  have HBX2:=HBX2'
  clear HBX2'
  have HA2':=hide ((HP.out).2.heap HA2.out PT.pt)
  clear HA2
  have HA2:=HA2'
  clear HA2'
  have HB2':=hide ((HP.out).2.heap HB2.out PT.pt)
  clear HB2
  have HB2:=HB2'
  clear HB2'
  have HC2':=hide ((HP.out).2.heap HC2.out PT.pt)
  clear HC2
  have HC2:=HC2'
  clear HC2'
  have HQ2':=hide (IsPt.fk (HP.out).2 PT.pt HQ2.out)
  have HS2':=hide (IsPt.fk (HP.out).2 PT.pt HS2.out)
  have HR2':=hide ((HR2.out).keep (HP.out).2 (fun t ht=>PT.rt ht))
  have HG2':=hide ((HP.out).1)
  have HK2':Hid (FK PT Q w v1):=(FK.below HK2.out).trans (HP.out).2
  clear HQ2 HS2 HR2 HG2 HK2 HP
  have HQ2:=HQ2'
  have HS2:=HS2'
  have HR2:=HR2'
  have HG2:=HG2'
  have HK2:=HK2'
  clear HQ2' HS2' HR2' HG2' HK2'
  clear p1 qa1
  have qa0:=cell_of_row v1 _ 0 _ _ _ HA2.out
  have qa1:=cell_of_row v1 _ 1 _ _ _ HA2.out
  have qa2:=cell_of_row v1 _ 2 _ _ _ HA2.out
  have qa3:=cell_of_row v1 _ 3 _ _ _ HA2.out
  go_wp2_with fail
  refine (ihq f (n+2) fq v1 Q R rm D (.agg #[.int .i64 kq,.int .i64 fq,.int .i64 tq,.slice a1 a2 a3]) ((ls++[(n,i,fq)])) HR2.out HG2.out HQ2.out HAq.out hfq hmq (by rw [List.length_append,List.length_singleton];omega)).mono ?_
  rintro e v2 ⟨rfl,HE⟩
  obtain ⟨l1,sgl1,hpl1⟩:=HE.out
  have HSGl1:=hide sgl1
  have HP:=hide hpl1
  have hlenl1:=sgl1.rg.len
  clear HE sgl1 hpl1
  have HBX2':=hide ((HP.out).2.heap HBX2.out PT.pt)
  clear HBX2
  have HBX2:=HBX2'
  clear HBX2'
  have HA2':=hide ((HP.out).2.heap HA2.out PT.pt)
  clear HA2
  have HA2:=HA2'
  clear HA2'
  have HB2':=hide ((HP.out).2.heap HB2.out PT.pt)
  clear HB2
  have HB2:=HB2'
  clear HB2'
  have HC2':=hide ((HP.out).2.heap HC2.out PT.pt)
  clear HC2
  have HC2:=HC2'
  clear HC2'
  have HQ2':=hide (IsPt.fk (HP.out).2 PT.pt HQ2.out)
  have HS2':=hide (IsPt.fk (HP.out).2 PT.pt HS2.out)
  have HR2':=hide ((HR2.out).keep (HP.out).2 (fun t ht=>PT.rt ht))
  have HG2':=hide ((HP.out).1)
  have HK2':Hid (FK PT Q w v2):=(HK2.out).trans (HP.out).2
  clear HQ2 HS2 HR2 HG2 HK2 HP
  have HQ2:=HQ2'
  have HS2:=HS2'
  have HR2:=HR2'
  have HG2:=HG2'
  have HK2:=HK2'
  clear HQ2' HS2' HR2' HG2' HK2'
  clear qa0 qa1 qa2 qa3
  have qb1:=cell_of_row v2 _ 1 _ _ _ HB2.out
  have qb2:=cell_of_row v2 _ 2 _ _ _ HB2.out
  go_wp2_with fail
  refine (gadd_any n fd td Q R (ls++[(n,i,fq)]++l1) v2 HG2.out (by simp only [List.length_append,List.length_singleton];omega)).mono ?_
  rintro e v3 ⟨rfl,HP⟩
  have HBX2':=hide ((HP.out).2.heap HBX2.out PT.pt)
  clear HBX2
  have HBX2:=HBX2'
  clear HBX2'
  have HA2':=hide ((HP.out).2.heap HA2.out PT.pt)
  clear HA2
  have HA2:=HA2'
  clear HA2'
  have HB2':=hide ((HP.out).2.heap HB2.out PT.pt)
  clear HB2
  have HB2:=HB2'
  clear HB2'
  have HC2':=hide ((HP.out).2.heap HC2.out PT.pt)
  clear HC2
  have HC2:=HC2'
  clear HC2'
  have HQ2':=hide (IsPt.fk (HP.out).2 PT.pt HQ2.out)
  have HS2':=hide (IsPt.fk (HP.out).2 PT.pt HS2.out)
  have HR2':=hide ((HR2.out).keep (HP.out).2 (fun t ht=>PT.rt ht))
  have HG2':=hide ((HP.out).1)
  have HK2':Hid (FK PT Q w v3):=(HK2.out).trans (HP.out).2
  clear HQ2 HS2 HR2 HG2 HK2 HP
  have HQ2:=HQ2'
  have HS2:=HS2'
  have HR2:=HR2'
  have HG2:=HG2'
  have HK2:=HK2'
  clear HQ2' HS2' HR2' HG2' HK2'
  clear qb1 qb2
  have qc0:=cell_of_row v3 _ 0 _ _ _ HC2.out
  have qc1:=cell_of_row v3 _ 1 _ _ _ HC2.out
  have qc2:=cell_of_row v3 _ 2 _ _ _ HC2.out
  have qc3:=cell_of_row v3 _ 3 _ _ _ HC2.out
  go_wp2_with fail
  refine (ihs f (n+2) fs v3 Q R rm D (.agg #[.int .i64 ks,.int .i64 fs,.int .i64 ts,.slice d1 d2 d3]) ((ls++[(n,i,fq)]++l1++[(n,fd,td)])) HR2.out HG2.out HS2.out HAs.out hfs hms (by simp only [List.length_append,List.length_singleton];omega)).mono ?_
  rintro e v4 ⟨rfl,HE⟩
  obtain ⟨l2,sgl2,hpl2⟩:=HE.out
  have HSGl2:=hide sgl2
  have HP:=hide hpl2
  have hlenl2:=sgl2.rg.len
  clear HE sgl2 hpl2
  have HBX2':=hide ((HP.out).2.heap HBX2.out PT.pt)
  clear HBX2
  have HBX2:=HBX2'
  clear HBX2'
  have HA2':=hide ((HP.out).2.heap HA2.out PT.pt)
  clear HA2
  have HA2:=HA2'
  clear HA2'
  have HB2':=hide ((HP.out).2.heap HB2.out PT.pt)
  clear HB2
  have HB2:=HB2'
  clear HB2'
  have HC2':=hide ((HP.out).2.heap HC2.out PT.pt)
  clear HC2
  have HC2:=HC2'
  clear HC2'
  have HQ2':=hide (IsPt.fk (HP.out).2 PT.pt HQ2.out)
  have HS2':=hide (IsPt.fk (HP.out).2 PT.pt HS2.out)
  have HR2':=hide ((HR2.out).keep (HP.out).2 (fun t ht=>PT.rt ht))
  have HG2':=hide ((HP.out).1)
  have HK2':Hid (FK PT Q w v4):=(HK2.out).trans (HP.out).2
  clear HQ2 HS2 HR2 HG2 HK2 HP
  have HQ2:=HQ2'
  have HS2:=HS2'
  have HR2:=HR2'
  have HG2:=HG2'
  have HK2:=HK2'
  clear HQ2' HS2' HR2' HG2' HK2'
  clear qc0 qc1 qc2 qc3
  have HF:Hid (∃ l1 l2,X.SG L fq (X.nt q).length l1 (X.ex f (n+2) q)∧X.SG L fs (X.nt s).length l2 (X.ex f (n+2) s)∧PgTo w Q R (ls++([(n,i,fq)]++l1++[(n,fd,td)]++l2)) v4):=by
   refine ⟨l1,l2,HSGl1.out,HSGl2.out,?_,HK2.out⟩
   have h:=HG2.out
   simp only [List.append_assoc] at h ⊢
   exact h
  go_wp2_with fail
  go_end0
  exact ⟨rfl,HF⟩
end Go.Proofs.YtgpcpbmacdhlkaaGreatDoor
