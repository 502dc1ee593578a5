/- Package lay: leaf. -/
import Derived.Test.YtgpcpbmacdhlkaaGreatDoorLpc
import Derived.Test.YtgpcpbmacdhlkaaGreatDoorXz
import Derived.Test.YtgpcpbmacdhlkaaGreatDoorXy
namespace Go.Proofs.YtgpcpbmacdhlkaaGreatDoor
open Go.RowKit
open M
theorem infoStr:(Tryz.prog.info? 9).map (fun i=>(i.zero,i.size,i.bytes))=some (some (.string ⟨#[]⟩),1,16):=by kernel_rfl
def IsRow (w:World) (R:Nat) (rm:List (List UInt8)) (L:List X.Lf):Prop:=(∃ rv fv tv,RawR w R rm (X.flt L) (X.exts L) (X.lastT L) rv fv tv)∧∀ b∈L,b.1.2≠[]
theorem IsRow.keep {P:TypeId→Prop} {R':Nat} {w w':World} {R:Nat} {rm:List (List UInt8)} {L:List X.Lf} (h:IsRow w R rm L) (hk:FK P R' w w') (hP:∀ t,P t→¬ RT t):IsRow w' R rm L:=by
 obtain ⟨⟨rv,fv,tv,h1⟩,h2⟩:=h
 exact ⟨⟨rv,fv,tv,h1.keep hk hP⟩,h2⟩
theorem IsRow.below {w w':World} {R:Nat} {rm:List (List UInt8)} {L:List X.Lf} (h:IsRow w R rm L) (hk:Below w.heap.size w w'):IsRow w' R rm L :=
 h.keep (P:=fun _=>False) (R':=0) (FK.below hk) (fun _ h=>h.elim)
namespace X
def rms (p:Part):List (List UInt8):=((pl p).filter rmk).map (·.2)
def rmss (ps:List Part):List (List UInt8):=((pls ps).filter rmk).map (·.2)
theorem rmss_append (a b:List Part):rmss (a++b)=rmss a++rmss b:=by unfold rmss;rw [pls_append,List.filter_append,List.map_append]
theorem rmss_one (p:Part):rmss [p]=rms p:=by unfold rmss rms;rw [pls,pls,List.append_nil]
theorem rms_br (k:Nat) (ps:List Part):rms (.br k ps)=rmss ps:=by unfold rms rmss;rw [pl]
theorem rms_leaf (k:Nat) (x:List UInt8):rms (.leaf k x)=if k=2 then [x] else []:=by
 unfold rms
 rw [pl]
 by_cases h:k=2
 ·rw [if_pos h,List.filter_cons_of_pos (by simp [rmk,h])];rfl
 ·rw [if_neg h,List.filter_cons_of_neg (by simp [rmk,h])];rfl
end X
theorem strv_snoc (rm:List (List UInt8)) (x:List UInt8):strv (rm++[x])=strv rm++[.string (ba x)]:=by unfold strv;rw [List.map_append];rfl
set_option maxRecDepth 100000 in
set_option maxHeartbeats 8000000 in
theorem aleaf_any (k:Nat) (x:List UInt8) (kd:Nat) (L:List X.Lf) (R:Nat) (rm:List (List UInt8)) (w:World) (hx:x≠[]) (h:IsRow w R rm L) (hlen:(X.flt (L++X.fl (kd==14) (.leaf k x))).length≤8589934592) (hll:L.length≤268435456) (hrl:rm.length≤268435456) :
  Calls Tryz.prog 60 #[.pointer (some ⟨R,0,none⟩),.agg #[.int .i64 0,.int .i64 k,.string (ba x),.slice none 0 0],.int .i64 kd] w fun e w'=>e=.returned (.tuple #[])∧Hid (IsRow w' R (rm++X.rms (.leaf k x)) (L++X.fl (kd==14) (.leaf k x))∧FK RT R w w'):=by
 obtain ⟨ib,hib,hb0,hb1,hb2⟩:=info_parts infoStr
 obtain ⟨⟨rv,fv,tv,h1⟩,hne⟩:=h
 rw [X.rms_leaf]
 have hfl:X.fl (kd==14) (.leaf k x)=if k=1∨k=2 then [] else [((k,x),(kd==14)&&x==[40])]:=by rw [X.fl]
 rw [hfl] at hlen ⊢
 clear hfl
 have kA:Below w.heap.size w (w.alloc (.cells #[.int .i64 0,.int .i64 k,.string (ba x),.slice none 0 0] 38)):=(Below.refl _ w).alloc (Nat.le_refl _) _
 have HRA:=hide (h1.below kA)
 have HKA:Hid (FK RT R w (w.alloc (.cells #[.int .i64 0,.int .i64 k,.string (ba x),.slice none 0 0] 38))):=FK.below kA
 have hRl:R<w.heap.size:=heap_lt h1.blk
 have HNE:=hide hne
 by_cases k1:k=1
 ·subst k1
  rw [if_neg (by decide),if_pos (.inl rfl),List.append_nil,List.append_nil]
  have HF:Hid (IsRow (w.alloc (.cells #[.int .i64 0,.int .i64 ((1:Nat):Int),.string (ba x),.slice none 0 0] 38)) R rm L∧FK RT R w (w.alloc (.cells #[.int .i64 0,.int .i64 ((1:Nat):Int),.string (ba x),.slice none 0 0] 38))):=⟨⟨⟨_,_,_,HRA.out⟩,HNE.out⟩,HKA.out⟩
  have i1:(((1:Nat):Int)==1)=true:=rfl
  go_enter Tryz.func60,Tryz.ntmps60
  go_wp2_with fail
  go_end0
  exact ⟨rfl,HF⟩
 have i1:((k:Int)==1)=false:=by simp;omega
 by_cases k2:k=2
 ·rw [if_pos k2,if_pos (.inr k2),List.append_nil]
  have i2:((k:Int)==2)=true:=by rw [k2];rfl
  clear k1 k2 hlen
  obtain ⟨⟨r0,r1,r2,r3⟩,rf,hRx⟩:=(HRA.out).cells
  have rf0:=rf 0
  have hfar:=raw_far (HRA.out).blk (HRA.out).orm (by decide)
  have n2:(w.alloc (.cells #[.int .i64 0,.int .i64 k,.string (ba x),.slice none 0 0] 38)).cell? ⟨w.heap.size,2,none⟩=some (.string (ba x)):=cell_of_row _ _ 2 _ _ _ (heap_alloc_new w _)
  have hfarN:some w.heap.size≠rv.ownBlock:=fun e=>by
   obtain ⟨-,c,hc⟩:=own_ty (HRA.out).orm e.symm
   exact absurd (cells_ty hc (heap_alloc_new w _)) (by decide)
  clear rf h1 hne kA
  go_enter Tryz.func60,Tryz.ntmps60
  go_wp2_with fail
  have hsz:(w.alloc (.cells #[.int .i64 0,.int .i64 k,.string (ba x),.slice none 0 0] 38)).heap.size=w.heap.size+1:=by simp
  generalize w.alloc (.cells #[.int .i64 0,.int .i64 k,.string (ba x),.slice none 0 0] 38)=wA at *
  have HZ:=hide hsz
  have hNl:w.heap.size<wA.heap.size:=by omega
  have hRA:R<wA.heap.size:=by omega
  clear hsz
  refine wp_region_noPanic ?_
  refine wpTo_start (S:=fun w'=>w'.cell? ⟨R,0,none⟩=some rv∧w'.cell? ⟨w.heap.size,2,none⟩=some (.string (ba x))) (z:=11) (by kernel_rfl) ?_
  have hS:wA.drew.cell? ⟨R,0,none⟩=some rv∧wA.drew.cell? ⟨w.heap.size,2,none⟩=some (.string (ba x)):=⟨r0,n2⟩
  iterate 7 (refine wpTo_nx0 (v:=?_) rfl rfl (by kernel_rfl) (by kernel_rfl) (by kernel_rfl) (by kernel_rfl) (fun _ _ _ h=>h) (Or.inl ⟨by rfl,?_⟩) hS ?_;rotate_left;(· (intro wx hSw;(try dsimp only at hSw);go_simp;try (with_reducible rfl)));simp only [Act.put,List.setIfInBounds_toArray,List.set_cons_zero,List.set_cons_succ])
  refine wpTo_one (i:=7) (by kernel_rfl) rfl (fun K hK=>?_)
  go_simp
  refine hK.out _ _ (fun _=>by first|go_keep|(dsimp only;go_keep)) (fun hS2=>?_)
  clear hS hK K
  have hS:=hS2 (by decide)
  clear hS2
  refine wpTo_one (i:=8) (by kernel_rfl) rfl (fun K hK=>?_)
  refine step_append_lies _ (by rfl) _ _ _ (by rfl) R 9 ib _ 1 16 Tryz.underlying31 hib hb0 hb1 hb2 rfl (by omega) rv rm.length _ (by rfl) ((((HRA.out).orm:wA.ownsRow _ _ _ _ _ _).drew).alloc _)
   ⟨wA.heap.size,0,none⟩ 1 1 [.string (ba x)] (by rfl) (by rfl) (World.news_of_block (cs:=#[.string (ba x)]) (t:=9) (fr:=(0,0)) (heap_alloc_new wA.drew _)) (by simp [Value.oneCell'])
   (by omega) (by unfold maxLen;omega) (by omega) (by simp;omega) (wA.heap.size+1) (by simp) ?_
  intro g8 cap8 w8 hown8 hgrow8 hat8 hlt8
  have y0:=(hgrow8.cell_far ⟨R,0,none⟩ (by simp;omega) hfar).trans hS.1
  have y1:=(hgrow8.cell_far ⟨w.heap.size,2,none⟩ (by simp;omega) hfarN).trans hS.2
  have x2:w8.frozen? ⟨R,0,none⟩=false:=(hgrow8.frozen_far ⟨R,0,none⟩ (by simp;omega) hfar).trans ((World.frozen?_alloc_old _ _ ⟨R,0,none⟩ (by simp;omega)).trans rf0)
  show K (Act.put _ (some 25) _) w8
  refine hK.out _ _ (fun _=>⟨y0,y1⟩) (fun hS2=>?_)
  clear hS hK K
  have hS:=hS2 (by decide)
  clear hS2
  simp only [Act.put,List.setIfInBounds_toArray,List.set_cons_zero,List.set_cons_succ]
  refine wpTo_one (i:=9) (by kernel_rfl) rfl (fun K hK=>?_)
  go_simp
  refine hK.out _ _ (fun _=>hS) (fun _=>?_)
  clear hK K
  refine wpTo_one (i:=10) (by kernel_rfl) rfl (fun K hK=>?_)
  go_simp
  refine hK.out _ _ (fun _=>hS) (fun _=>?_)
  clear hK K
  refine wpTo_one (i:=11) (by kernel_rfl) rfl (fun K hK=>?_)
  go_simp
  refine hK.out _ _ (fun h=>absurd rfl h) (fun _=>wpTo_end (by kernel_rfl) ?_)
  clear hK K
  refine NoPanic.normal ?_
  have hp3:=(HRA.out).putR (rm':=rm++[x]) (rv':=.slice (some ⟨g8,0,none⟩) (rm.length+1) cap8) (((Below.refl _ wA).drew).alloc (by simp) _) (by rw [List.length_append,strv_snoc];exact hown8) hgrow8
  clear y0 y1 x2 hS hown8 hgrow8 hat8 hlt8
  have HF:Hid (IsRow (w8.setCell ⟨R,0,none⟩ (.slice (some ⟨g8,0,none⟩) (rm.length+1) cap8)) R (rm++[x]) L∧FK RT R w (w8.setCell ⟨R,0,none⟩ (.slice (some ⟨g8,0,none⟩) (rm.length+1) cap8))):=⟨⟨⟨_,_,_,hp3.1⟩,HNE.out⟩,(HKA.out).trans hp3.2⟩
  clear hp3
  go_wp2_with fail
  go_end0
  exact ⟨rfl,HF⟩
 have i2:((k:Int)==2)=false:=by simp;omega
 rw [if_neg k2,if_neg (by omega),List.append_nil]
 rw [if_neg (by omega)] at hlen
 have HT:=hide (atoken_any L ((k,x),(kd==14)&&x==[40]) kd R rm rv fv tv _ hx rfl hne HRA.out hlen hll)
 have HNX:Hid (∀ b∈L++[((k,x),(kd==14)&&x==[40])],b.1.2≠[]):=fun b hb=>by
  rcases List.mem_append.1 hb with hb|hb
  ·exact HNE.out b hb
  ·rw [List.mem_singleton.1 hb];exact hx
 clear h1 hne kA k1 k2 hlen
 go_enter Tryz.func60,Tryz.ntmps60
 go_wp2_with fail
 refine (HT.out).mono ?_
 rintro e w2 ⟨rfl,H2⟩
 have HF:Hid (IsRow w2 R rm (L++[((k,x),(kd==14)&&x==[40])])∧FK RT R w w2):=by
  obtain ⟨rv2,fv2,tv2,q1,q2⟩:=H2.out
  exact ⟨⟨⟨_,_,_,q1⟩,HNX.out⟩,(HKA.out).trans q2⟩
 clear H2
 go_wp2_with fail
 go_end0
 exact ⟨rfl,HF⟩
end Go.Proofs.YtgpcpbmacdhlkaaGreatDoor
/- Package lay: parts in memory. -/
namespace Go.Proofs.YtgpcpbmacdhlkaaGreatDoor
open Go.RowKit
open M
namespace X
def tkp (p:Part):Bool:=!(nt p).isEmpty
def tks (ps:List Part):List Part:=ps.filter tkp
theorem tks_append (a b:List Part):tks (a++b)=tks a++tks b:=List.filter_append ..
theorem tks_one {p:Part} (h:nt p≠[]):tks [p]=[p]:=by
 unfold tks tkp
 rw [List.filter_cons_of_pos (by cases hx:nt p with|nil=>exact absurd hx h|cons a l=>rfl)];rfl
theorem tks_none {p:Part} (h:nt p=[]):tks [p]=[]:=by
 unfold tks tkp
 rw [List.filter_cons_of_neg (by rw [h];simp)];rfl
theorem nts_tks (ps:List Part):nts' (tks ps)=nts' ps:=by
 induction ps with
 | nil=>rfl
 | cons p ps ih =>
  have e:p::ps=[p]++ps:=rfl
  rw [e,tks_append,nts_append,nts_append,ih]
  by_cases h:nt p=[]
  ·rw [tks_none h,nts_nil,nts_one,h]
  ·rw [tks_one h]
theorem tks_take {ps:List Part} {j:Nat} {p:Part} (h:ps[j]?=some p):tks (ps.take (j+1))=tks (ps.take j)++tks [p]:=by
 rw [List.take_add_one,h,Option.toList_some,tks_append]
theorem fls_take (g:Bool) {ps:List Part} {j:Nat} {p:Part} (h:ps[j]?=some p):fls g (ps.take (j+1))=fls g (ps.take j)++fl g p:=by
 rw [List.take_add_one,h,Option.toList_some,fls_append,fls_one]
theorem rmss_take {ps:List Part} {j:Nat} {p:Part} (h:ps[j]?=some p):rmss (ps.take (j+1))=rmss (ps.take j)++rms p:=by
 rw [List.take_add_one,h,Option.toList_some,rmss_append,rmss_one]
theorem nts_take {ps:List Part} {j:Nat} {p:Part} (h:ps[j]?=some p):nts' (ps.take (j+1))=nts' (ps.take j)++nt p:=by
 rw [List.take_add_one,h,Option.toList_some,nts_append,nts_one]
theorem tks_len (ps:List Part):(tks ps).length≤ps.length:=List.length_filter_le _ _
end X
inductive IsPt (w:World) (D:Nat→Prop):Nat→Value→X.Part→Prop
 | mk (i:Nat) (p:X.Part) (cap:Nat) (ao:Option Addr) (c0 c1 c2 c3:Nat→Value) (hc:(X.tks (X.kidsOf p)).length≤cap∧cap≤maxLen)
   (hr:∀ j,j<(X.tks (X.kidsOf p)).length→∃ g cur,ao=some ⟨g,0,none⟩∧D g∧w.heap[g]?=some (.cells cur 95 (0,0))∧cur[j*4]?=some (c0 j)∧cur[j*4+1]?=some (c1 j)∧cur[j*4+2]?=some (c2 j)∧cur[j*4+3]?=some (c3 j))
   (hp:∀ (j:Nat) (q:X.Part),(X.tks (X.kidsOf p))[j]?=some q→IsPt w D (i+(X.nts' ((X.tks (X.kidsOf p)).take j)).length) (.agg #[c0 j,c1 j,c2 j,c3 j]) q) :
   IsPt w D i (.agg #[.int .i64 (X.kindOf p),.int .i64 i,.int .i64 ((i+(X.nt p).length:Nat):Int),.slice ao (X.tks (X.kidsOf p)).length cap]) p
theorem IsPt.kept {S:Nat→Prop} {w w':World} {D:Nat→Prop} (kk:Kp S w w') (hS:∀ q,S q→¬ D q) {i:Nat} {v:Value} {p:X.Part} (h:IsPt w D i v p):IsPt w' D i v p:=by
 induction h with
 | mk i p cap ao c0 c1 c2 c3 hc hr hp ih =>
  exact .mk i p cap ao c0 c1 c2 c3 hc (fun j hj=>by
   obtain ⟨g,cur,h1,h0,h2,h3⟩:=hr j hj
   exact ⟨g,cur,h1,h0,kk.heap h2 (fun e=>hS g e h0),h3⟩) ih
theorem IsPt.fk {P:TypeId→Prop} {R:Nat} {w w':World} {D:Nat→Prop} (hk:FK P R w w') (hP:¬ P 95) {i:Nat} {v:Value} {p:X.Part} (h:IsPt w D i v p):IsPt w' D i v p:=by
 induction h with
 | mk i p cap ao c0 c1 c2 c3 hc hr hp ih =>
  exact .mk i p cap ao c0 c1 c2 c3 hc (fun j hj=>by
   obtain ⟨g,cur,h1,h0,h2,h3⟩:=hr j hj
   exact ⟨g,cur,h1,h0,hk.heap h2 hP,h3⟩) ih
theorem IsPt.low {w:World} {D E:Nat→Prop} (hb:∀ q,D q→E q) {i:Nat} {v:Value} {p:X.Part} (h:IsPt w D i v p):IsPt w E i v p:=by
 induction h with
 | mk i p cap ao c0 c1 c2 c3 hc hr hp ih =>
  exact .mk i p cap ao c0 c1 c2 c3 hc (fun j hj=>by
   obtain ⟨g,cur,h1,h0,h2⟩:=hr j hj
   exact ⟨g,cur,h1,hb g h0,h2⟩) ih
theorem IsPt.shape {w:World} {D:Nat→Prop} {i:Nat} {v:Value} {p:X.Part} (h:IsPt w D i v p):∃ (ao:Option Addr) (n cap:Nat),v=q4v (.int .i64 (X.kindOf p),.int .i64 i,.int .i64 ((i+(X.nt p).length:Nat):Int),.slice ao n cap):=by
 cases h with
 | mk=>exact ⟨_,_,_,rfl⟩
theorem infoPt:(Tryz.prog.info? 95).map (fun i=>(i.zero,i.size,i.bytes))=some (some (.agg #[.int .i64 0,.int .i64 0,.int .i64 0,.slice none 0 0]),4,48):=by kernel_rfl
theorem IsN.view {w:World} {D:Nat→Prop} {v:Value} {p:X.Part} (h:IsN w D v p):∃ (tk:Nat) (tx:ByteArray) (ao:Option Addr) (cap:Nat) (c0 c1 c2 c3:Nat→Value),v=.agg #[.int .i64 (X.kindOf p),.int .i64 tk,.string tx,.slice ao (X.kidsOf p).length cap]∧(X.kidsOf p).length≤cap∧cap≤maxLen ∧
  (∀ i,i<(X.kidsOf p).length→∃ g,ao=some ⟨g,0,none⟩∧D g∧w.cell? ⟨g,i*4,none⟩=some (c0 i)∧w.cell? ⟨g,i*4+1,none⟩=some (c1 i)∧w.cell? ⟨g,i*4+2,none⟩=some (c2 i)∧w.cell? ⟨g,i*4+3,none⟩=some (c3 i)) ∧
  (∀ (i:Nat) (q:X.Part),(X.kidsOf p)[i]?=some q→IsN w D (.agg #[c0 i,c1 i,c2 i,c3 i]) q)∧(∀ k x,p=.leaf k x→tk=k∧tx=ba x∧ao=none∧cap=0):=by
 cases h with
 | leaf k x=>exact ⟨k,ba x,none,0,fun _=>undef,fun _=>undef,fun _=>undef,fun _=>undef,rfl,Nat.le_refl _,by unfold maxLen;omega,fun i hi=>by simp [X.kidsOf] at hi,fun i q hq=>by simp [X.kidsOf] at hq,fun k' x' e=>by cases e;exact ⟨rfl,rfl,rfl,rfl⟩⟩
 | miss m=>exact ⟨0,ba m,none,0,fun _=>undef,fun _=>undef,fun _=>undef,fun _=>undef,rfl,Nat.le_refl _,by unfold maxLen;omega,fun i hi=>by simp [X.kidsOf] at hi,fun i q hq=>by simp [X.kidsOf] at hq,fun k' x' e=>by cases e⟩
 | br k cap ao c0 c1 c2 c3 ps hc hr hp=>exact ⟨0,⟨#[]⟩,ao,cap,c0,c1,c2,c3,rfl,hc.1,hc.2,hr,hp,fun k' x' e=>by cases e⟩
def RQ (p:X.Part):Prop:=∀ (w:World) (R:Nat) (D:Nat→Prop) (v:Value) (kd:Nat) (L:List X.Lf) (rm:List (List UInt8)),(∀ q,D q→q<R)→IsN w D v p→IsRow w R rm L→(∀ t∈X.nt p,t.2≠[])→(∀ t∈X.pl p,t.2≠[]) →
 (X.flt (L++X.fl (kd==14) p)).length≤8589934592→L.length+(X.nt p).length≤268435456→rm.length+(X.rms p).length≤268435456 →
 Calls Tryz.prog 38 #[.pointer (some ⟨R,0,none⟩),v,.int .i64 kd] w fun e w'=>∃ pv,e=.returned pv∧Hid (IsRow w' R (rm++X.rms p) (L++X.fl (kd==14) p)∧FK RT R w w'∧∃ E,IsPt w' E L.length pv p∧∀ q,E q→w.heap.size≤q∧q<w'.heap.size)
structure InRd (w:World) (R:Nat) (rm:List (List UInt8)) (L:List X.Lf) (k fr:Nat) (nv:Array Value) (ps:List X.Part) (j:Nat) (kv:Value) (qs:List Q4) (E:Nat→Prop) (wr:World):Prop where
 nod:wr.heap[w.heap.size]?=some (.cells nv 38 (0,0))
 res:wr.heap[w.heap.size+1]?=some (.cells #[.int .i64 0,.int .i64 0,.int .i64 0,.slice none 0 0] 95 (0,0))
 prt:wr.heap[w.heap.size+2]?=some (.cells #[.int .i64 k,.int .i64 fr,.int .i64 0,kv] 95 (0,0))
 row:wr.ownsRow (w.heap.size+3) 95 4 kv qs.length (qs.flatMap q4)
 len:qs.length=(X.tks (ps.take j)).length
 kids:∀ (i:Nat) (q:Q4) (p:X.Part),qs[i]?=some q→(X.tks (ps.take j))[i]?=some p→IsPt wr E (fr+(X.nts' ((X.tks (ps.take j)).take i)).length) (q4v q) p
 sep:∀ q,E q→w.heap.size+3≤q∧q<wr.heap.size∧kv.ownBlock≠some q
 isr:IsRow wr R (rm++X.rmss (ps.take j)) (L++X.fls (k==14) (ps.take j))
 fk:FK RT R w wr
 sz:w.heap.size+3≤wr.heap.size
theorem lowc {P:TypeId→Prop} {R:Nat} {w wr:World} (h:FK P R w wr) {b o:Nat} {v:Value} (hb:b<R) (hc:w.cell? ⟨b,o,none⟩=some v):wr.cell? ⟨b,o,none⟩=some v :=
 Kp.cellv h hc (fun e=>by have:=e.1;have:R≤b:=this;omega)
theorem q4_in {cs:Array Value} {qs:List Q4} {i:Nat} {q:Q4} {n:Nat} (ht:cs.toList.take n=qs.flatMap q4) (hq:qs[i]?=some q) (m:Nat) (hm:m<4):cs[i*4+m]?=(q4 q)[m]?:=by
 have h1:=q4_get hq hm
 rw [← ht] at h1
 rw [← h1,← Array.getElem?_toList]
 have:i*4+m<n:=by
  rcases Nat.lt_or_ge (i*4+m) n with g|g
  ·exact g
  ·rw [List.getElem?_eq_none (by rw [List.length_take];omega)] at h1
   have:(q4 q)[m]?=some ((q4 q)[m]'(by simpa [q4] using hm)):=List.getElem?_eq_getElem _
   rw [this] at h1;cases h1
 rw [List.getElem?_take_of_lt this]
theorem InRd.part {w:World} {R:Nat} {rm:List (List UInt8)} {L:List X.Lf} {k fr:Nat} {nv:Array Value} {p:X.Part} {kv:Value} {qs:List Q4} {E:Nat→Prop} {wr w':World} (h:InRd w R rm L k fr nv (X.kidsOf p) (X.kidsOf p).length kv qs E wr) (hk:Kp (fun q=>q<w.heap.size+3) wr w') (hkd:X.kindOf p=k) (t:Nat) (ht:t=fr+(X.nt p).length) :
  ∃ E',IsPt w' E' fr (.agg #[.int .i64 k,.int .i64 fr,.int .i64 t,kv]) p∧∀ q,E' q→w.heap.size≤q∧q<w'.heap.size:=by
 have hlen:=h.len
 have hkids:=h.kids
 rw [List.take_length] at hlen hkids
 have hsz:=hk.size
 subst ht hkd
 rcases h.row.2 with ⟨rfl,h0⟩|⟨g,cap,cur,rfl,hb,hg,hn,hm,hsz2,htk⟩
 ·refine ⟨E,?_,fun q hq=>by have:=h.sep q hq;omega⟩
  have hz:(X.tks (X.kidsOf p)).length=0:=by rw [← hlen,h0]
  have:=IsPt.mk (w:=w') (D:=E) fr p 0 none (fun _=>undef) (fun _=>undef) (fun _=>undef) (fun _=>undef) ⟨by omega,by unfold maxLen;omega⟩ (fun j hj=>by omega) (fun j q hq=>by rw [List.length_eq_zero_iff.1 hz] at hq;simp at hq)
  rw [hz] at this
  exact this
 ·have hq:∀ i,i<qs.length→qs[i]?=some (qs.getD i (undef,undef,undef,undef)):=fun i hi=>by
   rw [List.getD_eq_getElem?_getD,List.getElem?_eq_getElem hi];rfl
  refine ⟨fun q=>E q∨q=g,?_,fun q hq=>?_⟩
  ·rw [hlen]
   refine IsPt.mk fr p cap (some ⟨g,0,none⟩) (fun i=>(qs.getD i (undef,undef,undef,undef)).1) (fun i=>(qs.getD i (undef,undef,undef,undef)).2.1) (fun i=>(qs.getD i (undef,undef,undef,undef)).2.2.1) (fun i=>(qs.getD i (undef,undef,undef,undef)).2.2.2) ⟨by omega,hm⟩ (fun j hj=>?_) (fun j q hq2=>?_)
   ·have hj':j<qs.length:=by omega
    refine ⟨g,cur,rfl,.inr rfl,hk.heap hg (fun e=>by have:g<w.heap.size+3:=e;omega),?_,?_,?_,?_⟩
    ·exact (q4_in htk (hq j hj') 0 (by omega)).trans rfl
    ·exact (q4_in htk (hq j hj') 1 (by omega)).trans rfl
    ·exact (q4_in htk (hq j hj') 2 (by omega)).trans rfl
    ·exact (q4_in htk (hq j hj') 3 (by omega)).trans rfl
   ·have hj':j<qs.length:=by
     rcases Nat.lt_or_ge j (X.tks (X.kidsOf p)).length with e|e
     ·omega
     ·rw [List.getElem?_eq_none e] at hq2;cases hq2
    have:=hkids j _ q (hq j hj') hq2
    exact (this.kept hk (fun q2 e e2=>by have:=h.sep q2 e2;have:q2<w.heap.size+3:=e;omega)).low (fun _=>.inl)
  ·rcases hq with hq|rfl
   ·have:=h.sep q hq;omega
   ·have:=heap_lt hg;omega
end Go.Proofs.YtgpcpbmacdhlkaaGreatDoor
