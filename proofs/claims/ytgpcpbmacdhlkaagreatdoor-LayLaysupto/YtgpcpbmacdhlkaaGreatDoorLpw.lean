/- Package lay: any expression;a def;the lines of an item. -/
import Derived.Test.YtgpcpbmacdhlkaaGreatDoorLpu
import Derived.Test.YtgpcpbmacdhlkaaGreatDoorXy
import Derived.Test.YtgpcpbmacdhlkaaGreatDoorLpi
namespace Go.Proofs.YtgpcpbmacdhlkaaGreatDoor
open Go.RowKit
open M
theorem gexpr_any (L:List X.Lf) (hL:L.length≤268435456) (hF:(X.flt L).length≤8589934592):∀ (m:Nat) (p:X.Part),X.psz p≤m→X.Sh p→XC L p:=by
 intro m
 induction m with
 | zero=>intro p h;have:=X.psz_pos p;omega
 | succ m ih =>
  intro p hm hs
  have hs':=hs
  have key:∀ {k:Nat} {ps:List X.Part},X.psz (.br k ps)≤m+1→∀ q∈X.pts ps,X.psz q≤m:=fun {k ps} h q hq=>by
   obtain ⟨j,hj⟩:=List.getElem?_of_mem ((List.mem_filter.1 hq).1)
   have:=X.pssz_mem ps j q hj
   rw [X.psz] at h
   omega
  cases hs with
  | tok k t ps hk h=>exact gexpr_tok L hL hF k ps hk hs'
  | lett ps a b c d p q h hp hq=>exact gexpr_let L hL hF ps a b c d p q h hq (ih q (key hm q (by rw [h];simp)) hq) hs'
  | ite ps a b c p q s h hc hp hq hs=>exact gexpr_if L hL hF ps a b c p q s h hc hp hq hs (ih q (key hm q (by rw [h];simp)) hq) (ih s (key hm s (by rw [h];simp)) hs) hs'
  | fn ps a b qs p h hp=>exact gexpr_fun L hL hF ps a b qs p h hp (ih p (key hm p (by rw [h];simp)) hp) hs'
  | bin ps p a q h hp hq=>exact gexpr_bin L hL hF ps a p q h hp hq (ih p (key hm p (by rw [h];simp)) hp) (ih q (key hm q (by rw [h];simp)) hq) hs'
  | call ps p qs h hp hb =>
   have hmq:X.psz (.br 12 qs)≤m+1:=Nat.le_succ_of_le (key hm (.br 12 qs) (by rw [h];simp))
   generalize hg:X.pts qs=l at hb
   cases hb with
   | none _ _ a b ha hb=>exact gexpr_call0 L hL hF ps p qs h hp a b hg hs'
   | some _ _ a l ha hsa=>exact gexpr_call L hL hF ps p qs h hp a l _ hg ha hsa (fun q hq hsq=>ih q (key hmq q (by rw [hg];exact List.mem_cons_of_mem _ hq)) hsq) hs'
  | list ps hb =>
   generalize hg:X.pts ps=l at hb
   cases hb with
   | none _ _ a b ha hb=>exact gexpr_list0 L hL hF ps a b hg hs'
   | some _ _ a l ha hsa=>exact gexpr_list L hL hF ps a l _ hg ha hsa (fun q hq hsq=>ih q (key hm q (by rw [hg];exact List.mem_cons_of_mem _ hq)) hsq) hs'
  | group ps a p b h ha hb hp=>exact gexpr_group L hL hF ps a [p,X.lf b] _ h ha (.last _ p b hp hb) (fun q hq hsq=>ih q (key hm q (by rw [h];exact List.mem_cons_of_mem _ hq)) hsq) hs'
set_option maxRecDepth 100000 in
set_option maxHeartbeats 8000000 in
theorem gdef_any (L:List X.Lf) (hL:L.length≤268435456) (ps M:List X.Part) (q:X.Part) (tz:X.Tok) (hsp:X.pts ps=M++[q,X.lf tz]) (hq:X.Sh q) (htz:tz.2=[59]) (ih:XC L q) (w:World) (Q R:Nat) (rm:List (List UInt8)) (D:Nat→Prop) (v:Value) (hr:IsRow w R rm L) (hg:∃ lv,IsPg w Q R [] lv) (h:IsPt w D 0 v (.br 4 ps)) (hA:L=X.fl false (.br 4 ps)) (hMn:X.nts' M≠[]) (hd:2+X.dp q≤522) :
  Calls Tryz.prog 63 #[.pointer (some ⟨Q,0,none⟩),v] w fun e w'=>e=.returned (.tuple #[])∧Hid (∃ ls,X.RG L 0 L.length ls (X.flat M++([10]++X.ex (X.nt q).length 2 q [59]))∧PgTo w Q R ls w'):=by
 have hlz:X.lou tz=true:=X.mem_pts hsp (by simp)
 have hnz:(X.nt (X.lf tz)).length=1:=by rw [X.nt_lf,if_pos hlz];rfl
 have hfl:L=X.fls false M++(X.fl false q++[(tz,false)]):=by
  rw [hA,X.fl_br,X.fls_pts,hsp]
  show X.fls false (M++[q,X.lf tz])=_
  rw [X.fls_append,X.fls,X.fls_one,X.fl_lf hlz];rfl
 have htk:X.tks (X.kidsOf (.br 4 ps))=X.tks M++[q,X.lf tz]:=by
  rw [show X.kidsOf (.br 4 ps)=ps from rfl,X.tks_pts,hsp,X.tks_append]
  congr 1
  refine X.tks_all (fun x hx=>?_)
  simp only [List.mem_cons,List.not_mem_nil,or_false] at hx
  rcases hx with rfl|rfl
  ·exact hq.ne
  ·exact X.nt_lf_ne hlz
 have hAt:X.Ats L 0 (X.fls false M++(X.fl false q++[(tz,false)])):=by rw [← hfl];exact X.Ats.all L
 have hMl:(X.nts' (X.tks M)).length=(X.fls false M).length:=by rw [X.nts_tks,X.fls_len]
 have hMf:X.fls false M≠[]:=fun e=>hMn (List.length_eq_zero_iff.1 (by rw [← X.fls_len false,e];rfl))
 have hLl:L.length=(X.fls false M).length+((X.nt q).length+1):=by
  conv=>lhs;rw [hfl]
  rw [List.length_append,List.length_append,X.fl_len];rfl
 obtain ⟨ao,cap,hv,hc1,hc2,hk⟩:=h.kid
 obtain ⟨g,b1,b2,b3,rfl,⟨cur,hgb⟩,c0,c1,c2,c3,hPq⟩:=hk (X.tks M).length q (by rw [htk,List.getElem?_append_right (Nat.le_refl _),Nat.sub_self];rfl)
 have etk:(X.tks (X.kidsOf (.br 4 ps))).take (X.tks M).length=X.tks M:=by rw [htk,List.take_left' rfl]
 rw [etk,hMl,Nat.zero_add] at c1 c2 hPq
 have hnl:(X.tks (X.kidsOf (.br 4 ps))).length=(X.tks M).length+2:=by rw [htk,List.length_append];rfl
 rw [hnl] at hv hc1
 subst hv
 generalize (X.tks M).length=ml at *
 have hnt0:0+(X.nt (.br 4 ps)).length=L.length:=by
  rw [hA,X.fl_len];omega
 rw [hnt0]
 obtain ⟨LL,hLL⟩:∃ LL,LL=L.length:=⟨_,rfl⟩
 rw [← hLL,show X.kindOf (.br 4 ps)=4 from rfl]
 obtain ⟨fq,hfq⟩:∃ fq,fq=(X.fls false M).length:=⟨_,rfl⟩
 rw [← hfq] at c1 c2 hPq
 generalize htq:fq+(X.nt q).length=tq at *
 have hgl:=heap_lt hgb
 have hml:ml+2≤9223372036854775807:=by unfold maxLen at hc2;omega
 have i1:(0:Int)≤(ml:Int):=Int.natCast_nonneg _
 have i2:(ml:Int)<(ml:Int)+2:=by omega
 have hw1:IntKind.i64.wrap ((ml:Int)+2 - 2)=(ml:Int):=by rw [IntKind.wrap_i64];omega
 have hw2:IntKind.i64.wrap (ml:Int)=(ml:Int):=by rw [IntKind.wrap_i64];omega
 have HFQ:=hide hfq
 have HTQ:=hide htq
 have HLL:=hide hLL
 have HR:=hide hr
 have HG:=hide hg
 have HQ:=hide hPq
 have HAT:=hide hAt
 have hbig:(X.nt q).length≤268435455:=by omega
 have HFB:Hid (fq+(X.nt q).length≤268435456):=by show _≤_;omega
 have HEND:Hid (∀ l1,X.SG L fq (X.nt q).length l1 (X.ex (X.nt q).length 2 q)→X.RG L 0 L.length ([(0,0,fq)]++X.cl l1) (X.flat M++([10]++X.ex (X.nt q).length 2 q [59]))):=fun l1 h1=>by
  have h0:=X.RG.first (n:=0) (j:=fq) hAt.left hMf (by omega) (by rw [hfq];omega)
  have hz:L[fq+(X.nt q).length]?=some (tz,false):=by
   have h2:=hAt.right.right
   rw [X.fl_len,Nat.zero_add,← hfq] at h2
   exact h2.get
  have h3:=h1.close hz (.inr htz)
  rw [hfq,← Nat.zero_add (X.fls false M).length] at h3
  have h4:=h0.app h3
  have e1:(X.fls false M).length+((X.nt q).length+1)=L.length:=hLl.symm
  rw [e1] at h4
  have e2:X.line 0 (X.flt (X.fls false M))++X.ex (X.nt q).length 2 q (tz,false).1.2=X.flat M++([10]++X.ex (X.nt q).length 2 q [59]):=by
   show X.line 0 (X.flat M)++X.ex _ 2 q tz.2=_
   rw [htz]
   unfold X.line
   simp
  rw [e2] at h4
  rw [hfq] at h4 ⊢
  exact h4
 clear h hk hr hg hPq hAt hsp hq htz hlz hnz hfl htk hMl hMf hLl hfq htq hLL hc1 hc2 etk hnl hnt0 hA hMn
 go_enter Tryz.func63,Tryz.ntmps63
 go_wp2_with fail
 have k2:Below w.heap.size w ((w.alloc (.cells #[.int .i64 4,.int .i64 0,.int .i64 LL,.slice (some ⟨g,0,none⟩) (ml+2) cap] 95)).alloc (.cells #[.int .i64 (X.kindOf q),.int .i64 fq,.int .i64 tq,.slice b1 b2 b3] 95)):=((Below.refl _ w).alloc (Nat.le_refl _) _).alloc (by simp) _
 have hb1:((w.alloc (.cells #[.int .i64 4,.int .i64 0,.int .i64 LL,.slice (some ⟨g,0,none⟩) (ml+2) cap] 95)).alloc (.cells #[.int .i64 (X.kindOf q),.int .i64 fq,.int .i64 tq,.slice b1 b2 b3] 95)).heap[w.heap.size+1]?=some (.cells #[.int .i64 (X.kindOf q),.int .i64 fq,.int .i64 tq,.slice b1 b2 b3] 95 (0,0)):=new_at _ _ (by simp)
 generalize ((w.alloc (.cells #[.int .i64 4,.int .i64 0,.int .i64 LL,.slice (some ⟨g,0,none⟩) (ml+2) cap] 95)).alloc (.cells #[.int .i64 (X.kindOf q),.int .i64 fq,.int .i64 tq,.slice b1 b2 b3] 95))=W2 at *
 have c2':=Kp.ofBelow k2 (fun _=>False)
 obtain ⟨lv,hlv⟩:=HG.out
 refine (gadd_any 0 0 fq Q R [] W2 ⟨lv,hlv.below k2⟩ (by simp)).mono ?_
 rintro e w3 ⟨rfl,H3⟩
 have hb3:=(H3.out).2.heap hb1 PT.pt
 have HIH:=hide (ih (X.nt q).length 2 fq w3 Q R rm D (.agg #[.int .i64 (X.kindOf q),.int .i64 fq,.int .i64 tq,.slice b1 b2 b3]) ([]++[(0,0,fq)]) (((HR.out).below k2).keep (H3.out).2 (fun t ht=>PT.rt ht)) (H3.out).1 (IsPt.fk (H3.out).2 PT.pt ((HQ.out).kept c2' (fun _ h=>h.elim))) (by
  have h:=(HAT.out).right.left
  rw [Nat.zero_add,← HFQ.out] at h
  exact h) (Nat.le_refl _) hd (by simp;omega))
 have x0:=cell_of_row w3 _ 0 _ _ _ hb3
 have x1:=cell_of_row w3 _ 1 _ _ _ hb3
 have x2:=cell_of_row w3 _ 2 _ _ _ hb3
 have x3:=cell_of_row w3 _ 3 _ _ _ hb3
 have HK3:=hide (PgTo.from k2 H3.out)
 clear H3 hb3 hb1 k2 c2' hlv HG
 go_wp2_with fail
 refine (HIH.out).mono ?_
 rintro e w4 ⟨rfl,H4⟩
 obtain ⟨l1,h1,h2⟩:=H4.out
 have HS1:=hide h1
 have HP1:=hide h2
 have hl1:=h1.rg.len
 clear H4 h1 h2 HIH
 go_wp2_with fail
 refine (gclose_any Q R ([]++[(0,0,fq)]) l1 w4 (HP1.out).1 (HS1.out).ne (by simp;omega) (fun x hx=>by have:=((HS1.out).rg.inr x hx).2.2;have:=HFB.out;omega)).mono ?_
 rintro e w5 ⟨rfl,H5⟩
 have HF:Hid (∃ ls,X.RG L 0 L.length ls (X.flat M++([10]++X.ex (X.nt q).length 2 q [59]))∧PgTo w Q R ls w5):=⟨_,(HEND.out) l1 HS1.out,PgTo.trans (PgTo.trans HK3.out HP1.out) H5.out⟩
 clear H5 HP1 HK3
 go_wp2_with fail
 go_end0
 rw [← HLL.out] at HF
 exact ⟨rfl,HF⟩
end Go.Proofs.YtgpcpbmacdhlkaaGreatDoor
/- Package lay: the lines of an item. -/
namespace Go.Proofs.YtgpcpbmacdhlkaaGreatDoor
open Go.RowKit
open M
def LinesOut (p:X.Part):List UInt8:=if X.kindOf p=0 then [] else X.item p
set_option maxRecDepth 100000 in
set_option maxHeartbeats 8000000 in
theorem alines_any (p:X.Part) (hk:X.KidW p) (hdp:X.dps (X.kidsOf p)≤520) (L:List X.Lf) (hL:L.length≤268435456) (hF:(X.flt L).length≤8589934592) (hA:L=X.fl false p) (hne:X.quietP p=false→X.nt p≠[]) (w:World) (R:Nat) (rm:List (List UInt8)) (D:Nat→Prop) (v:Value) (hr:IsRow w R rm L) (h:IsPt w D 0 v p) :
  Calls Tryz.prog 41 #[.pointer (some ⟨R,0,none⟩),v] w fun e w'=>∃ (ls:List X.Lne) (lv:Value),e=.returned lv∧Hid (X.RG L 0 L.length ls (LinesOut p)∧w'.ownsRow w.heap.size 103 3 lv ls.length (lnv ls)∧Below w.heap.size w w'):=by
 obtain ⟨ao,cap,hv,hc1,hc2,hkid⟩:=h.kid
 have hLl:L.length=(X.nt p).length:=by rw [hA,X.fl_len]
 have HPT:=hide h
 subst hv
 rw [Nat.zero_add,← hLl] at HPT ⊢
 obtain ⟨LL,hLL⟩:∃ LL,LL=L.length:=⟨_,rfl⟩
 rw [← hLL] at HPT ⊢
 obtain ⟨kk,hkk⟩:∃ kk,kk=X.kindOf p:=⟨_,rfl⟩
 rw [← hkk] at HPT ⊢
 generalize (X.tks (X.kidsOf p)).length=nn at *
 have k2:Below w.heap.size w ((w.alloc (.cells #[.int .i64 kk,.int .i64 0,.int .i64 LL,.slice ao nn cap] 95)).alloc (.cells #[.pointer (some ⟨R,0,none⟩),.slice none 0 0] 141)):=((Below.refl _ w).alloc (Nat.le_refl _) _).alloc (by simp) _
 have HK2:=hide k2
 have HR2:=hide (hr.below k2)
 have hbx:((w.alloc (.cells #[.int .i64 kk,.int .i64 0,.int .i64 LL,.slice ao nn cap] 95)).alloc (.cells #[.pointer (some ⟨R,0,none⟩),.slice none 0 0] 141)).heap[w.heap.size]?=some (.cells #[.int .i64 kk,.int .i64 0,.int .i64 LL,.slice ao nn cap] 95 (0,0)):=(heap_alloc_old _ _ (by simp)).trans (heap_alloc_new w _)
 have hpg:IsPg ((w.alloc (.cells #[.int .i64 kk,.int .i64 0,.int .i64 LL,.slice ao nn cap] 95)).alloc (.cells #[.pointer (some ⟨R,0,none⟩),.slice none 0 0] 141)) (w.heap.size+1) R [] (.slice none 0 0):=⟨new_at _ _ (by simp),World.ownsRow_nil _ _ _ _⟩
 have HP2:=hide ((HPT.out).kept (Kp.ofBelow k2 (fun _=>False)) (fun _ e=>e.elim))
 have hz2:((w.alloc (.cells #[.int .i64 kk,.int .i64 0,.int .i64 LL,.slice ao nn cap] 95)).alloc (.cells #[.pointer (some ⟨R,0,none⟩),.slice none 0 0] 141)).heap.size=w.heap.size+2:=by simp
 have HBX:=hide hbx
 have HPG:=hide hpg
 have HLL:=hide hLL
 have HZ2:=hide hz2
 have HEND:Hid (∀ (ls:List X.Lne) (w':World),X.RG L 0 L.length ls (LinesOut p)→PgTo ((w.alloc (.cells #[.int .i64 kk,.int .i64 0,.int .i64 LL,.slice ao nn cap] 95)).alloc (.cells #[.pointer (some ⟨R,0,none⟩),.slice none 0 0] 141)) (w.heap.size+1) R ls w'→∃ lv,w'.cell? ⟨w.heap.size+1,1,none⟩=some lv∧Hid (X.RG L 0 L.length ls (LinesOut p)∧w'.ownsRow w.heap.size 103 3 lv ls.length (lnv ls)∧Below w.heap.size w w')):=fun ls w' hR hP=>by
  obtain ⟨⟨lv,hlv⟩,hk⟩:=hP
  refine ⟨lv,cell_of_row w' _ 1 _ _ _ hlv.blk,hR,?_,?_⟩
  ·rcases hlv.row with ⟨h1,h2|⟨g,cp,cur,e,hb,rest⟩⟩
   ·exact ⟨h1,.inl h2⟩
   ·exact ⟨h1,.inr ⟨g,cp,cur,e,by omega,rest⟩⟩
  ·exact (HK2.out).trans (Kp.below hk (by have:=HZ2.out;omega) (fun q hq=>by have:=hq.1;omega))
 have hRwl:X.KidW p→((X.quietP p=true∧L=[]∧kk=0)∨(X.quietP p=false∧L≠[]∧(kk=3∨kk=4))):=fun hk=>by
  rcases hk with hq|⟨ps,rfl⟩|⟨ps,l,q,t,rfl,-⟩
  ·refine .inl ⟨hq,?_,?_⟩
   ·exact List.length_eq_zero_iff.1 (by rw [hLl,X.nt_quiet hq];rfl)
   ·cases p with
    | leaf k x=>exact hkk
    | miss m=>cases hq
    | br k ps=>cases hq
  ·exact .inr ⟨rfl,fun e=>hne rfl (List.length_eq_zero_iff.1 (by rw [← hLl,e];rfl)),.inl hkk⟩
  ·exact .inr ⟨rfl,fun e=>hne rfl (List.length_eq_zero_iff.1 (by rw [← hLl,e];rfl)),.inr hkk⟩
 have HONE:Hid (X.quietP p=false→(kk=3∨X.chars (X.flt L)≤80)→L≠[]→X.RG L 0 L.length [(0,0,LL)] (LinesOut p)):=fun hq hc hn=>by
  have h1:=X.RG.first (n:=0) (j:=LL) (X.Ats.all L) hn (by omega) (by rw [hLL];omega)
  have e1:LinesOut p=X.line 0 (X.flt L):=by
   unfold LinesOut
   have hk0:X.kindOf p≠0:=by
    rcases hRwl hk with ⟨e,-⟩|⟨-,-,e⟩
    ·rw [hq] at e;cases e
    ·omega
   have hfl:X.flat [p]=X.flt L:=by rw [X.flat_one,hA]
   rw [if_neg hk0]
   unfold X.item
   rw [if_pos (by rcases hc with e|e;exact .inl (by omega);exact .inr (by rw [hfl];exact e)),hfl]
   rfl
  rw [e1];exact h1
 have HFIT:=hide (fun W (hI:IsRow W R rm L) (hn:L≠[])=>afits_any L L 0 LL R rm W kk ao nn cap 80 hI (X.Ats.all L) hn (by rw [hLL];omega) hL hF (by omega) (by omega))
 rcases hRwl hk with ⟨hq,hLe,hk0⟩|⟨hq,hLn,hk34⟩
 ·-- nothing
  have e0:((kk:Int)==4)=false:=by rw [hk0];rfl
  have hLL0:LL=0:=by rw [hLL,hLe];rfl
  have i1:decide ((0:Int)<(LL:Int))=false:=by rw [hLL0];rfl
  have i2:decide (0<LL)=false:=by rw [hLL0];rfl
  have HR0:Hid (X.RG L 0 L.length [] (LinesOut p)):=by
   have:LinesOut p=[]:=by unfold LinesOut;rw [if_pos (by omega)]
   rw [this,hLe];exact X.RG.nil _ _
  obtain ⟨lv,hlv1,hlv2⟩:=(HEND.out) [] _ HR0.out ⟨⟨_,HPG.out⟩,FK.refl _ _ _⟩
  have HF:=hlv2
  clear HEND HONE HFIT HR0 hRwl hLL hkk hk hkid hr h k2 hbx hpg hz2 hA hne hLl hLe hk0 hLL0 hlv2
  go_enter Tryz.func41,Tryz.ntmps41
  go_wp2_with fail
  go_ret
  refine ⟨[],lv,rfl,?_⟩
  rw [← HLL.out] at HF
  exact HF
 have hLLp:0<LL:=by rw [hLL];exact List.length_pos_iff.2 hLn
 have j1:decide ((0:Int)<(LL:Int))=true:=by simp;omega
 have j2:decide (0<LL)=true:=by simp;omega
 by_cases hk3:kk=3
 ·have e0:((kk:Int)==4)=false:=by rw [hk3];rfl
  have HR1:=hide ((HONE.out) hq (.inl hk3) hLn)
  clear HONE HFIT hRwl hLL hkk hk hkid hr h k2 hpg hz2 hA hne hLl hk34 hk3 hLLp
  have p1:=cell_of_row _ _ 1 _ _ _ hbx
  have p2:=cell_of_row _ _ 2 _ _ _ hbx
  clear hbx
  go_enter Tryz.func41,Tryz.ntmps41
  go_wp2_with fail
  refine (gadd_any 0 0 LL (w.heap.size+1) R [] ((w.alloc (.cells #[.int .i64 kk,.int .i64 0,.int .i64 LL,.slice ao nn cap] 95)).alloc (.cells #[.pointer (some ⟨R,0,none⟩),.slice none 0 0] 141)) ⟨_,HPG.out⟩ (by simp)).mono ?_
  rintro e w5 ⟨rfl,H5⟩
  obtain ⟨lv,hlv1,hlv2⟩:=(HEND.out) [(0,0,LL)] w5 HR1.out (PgTo.from (Below.refl _ _) H5.out)
  have hl5:w.heap.size+1<w5.heap.size:=World.block_lt_of_cell? w5 _ hlv1
  clear H5
  go_wp2_with fail
  go_ret
  refine ⟨[(0,0,LL)],lv,rfl,?_⟩
  rw [← HLL.out] at hlv2
  exact hlv2
 have hk4:kk=4:=by omega
 have e0:((kk:Int)==4)=true:=by rw [hk4];rfl
 have hz2':=hz2
 by_cases hfit:X.chars (X.flt L)≤80
 ·have c0:decide ((X.chars (X.flt L):Int)≤80)=true:=decide_eq_true (by omega)
  have HR1:=hide ((HONE.out) hq (.inr hfit) hLn)
  have HFT:=hide ((HFIT.out) _ HR2.out hLn)
  rw [c0] at HFT
  clear HONE HFIT hRwl hLL hkk hk hkid hr h k2 hpg hz2 hz2' hA hne hLl hk34 hk3 hLLp hk4 hfit c0 hbx
  go_enter Tryz.func41,Tryz.ntmps41
  go_wp2_with fail
  generalize ((w.alloc (.cells #[.int .i64 kk,.int .i64 0,.int .i64 LL,.slice ao nn cap] 95)).alloc (.cells #[.pointer (some ⟨R,0,none⟩),.slice none 0 0] 141))=W2 at *
  refine (HFT.out).mono ?_
  rintro e w3 ⟨rfl,k3⟩
  have HK3:=hide k3
  have c3:=Kp.ofBelow k3 (fun _=>False)
  have hb3:=c3.heap HBX.out id
  have p1:=cell_of_row _ _ 1 _ _ _ hb3
  have p2:=cell_of_row _ _ 2 _ _ _ hb3
  have HPG3:=hide ((HPG.out).below k3)
  have hl3:w.heap.size<w3.heap.size:=heap_lt hb3
  clear k3 c3 hb3 HFT
  go_wp2_with fail
  refine (gadd_any 0 0 LL (w.heap.size+1) R [] w3 ⟨_,HPG3.out⟩ (by simp)).mono ?_
  rintro e w5 ⟨rfl,H5⟩
  obtain ⟨lv,hlv1,hlv2⟩:=(HEND.out) [(0,0,LL)] w5 HR1.out (PgTo.from HK3.out H5.out)
  have hl5:w.heap.size+1<w5.heap.size:=World.block_lt_of_cell? w5 _ hlv1
  clear H5
  go_wp2_with fail
  go_ret
  refine ⟨[(0,0,LL)],lv,rfl,?_⟩
  rw [← HLL.out] at hlv2
  exact hlv2
 ·have c0:decide ((X.chars (X.flt L):Int)≤80)=false:=decide_eq_false (by omega)
  have HFT:=hide ((HFIT.out) _ HR2.out hLn)
  rw [c0] at HFT
  obtain ⟨ps,l,q,t,hpe,d1,d2,d3,d4⟩:∃ ps l q t,p=.br 4 ps∧X.pts ps=l++[q,X.lf t]∧X.Sh q∧t.2=[59]∧X.nts' l≠[]:=by
   rcases hk with e|⟨ps,rfl⟩|e
   ·rw [hq] at e;cases e
   ·exact absurd hkk (by rw [hk4];show ¬(4:Nat)=3;decide)
   ·exact e
  have hdq:2+X.dp q≤522:=by
   rw [hpe] at hdp
   have h1:X.dp q≤X.dps ps:=X.dps_mem ((List.mem_filter.1 (show q∈X.pts ps by rw [d1];simp)).1)
   have h2:X.dps (X.kidsOf (.br 4 ps))=X.dps ps:=rfl
   omega
  have HTX:Hid (LinesOut p=X.flat l++([10]++X.ex (X.nt q).length 2 q [59])):=by
   show _=_
   unfold LinesOut
   rw [if_neg (by omega),hpe,X.item_def d1]
   rw [← hpe,X.flat_one,← hA];exact hfit
  have HP4:=HP2
  rw [hpe] at HP4
  have HD:=hide (fun W v hr hg hp=>gdef_any L hL ps l q t d1 d2 d3 (gexpr_any L hL hF _ q (Nat.le_refl _) d2) W (w.heap.size+1) R rm D v hr hg hp (by rw [← hpe];exact hA) d4 hdq)
  clear HONE HFIT hRwl hLL hkk hk hkid hr h k2 hpg hz2 hz2' hA hne hLl hk34 hk3 hLLp hk4 hfit c0 hbx d1 d2 d3 d4 hdq hdp hpe
  go_enter Tryz.func41,Tryz.ntmps41
  go_wp2_with fail
  generalize ((w.alloc (.cells #[.int .i64 kk,.int .i64 0,.int .i64 LL,.slice ao nn cap] 95)).alloc (.cells #[.pointer (some ⟨R,0,none⟩),.slice none 0 0] 141))=W2 at *
  refine (HFT.out).mono ?_
  rintro e w3 ⟨rfl,k3⟩
  have HK3:=hide k3
  have c3:=Kp.ofBelow k3 (fun _=>False)
  have hb3:=c3.heap HBX.out id
  have p0:=cell_of_row _ _ 0 _ _ _ hb3
  have p1:=cell_of_row _ _ 1 _ _ _ hb3
  have p2:=cell_of_row _ _ 2 _ _ _ hb3
  have p3:=cell_of_row _ _ 3 _ _ _ hb3
  have HPG3:=hide ((HPG.out).below k3)
  have HR3:=hide ((HR2.out).below k3)
  have HP5:=hide ((HP4.out).kept c3 (fun _ e=>e.elim))
  have hl3:w.heap.size<w3.heap.size:=heap_lt hb3
  clear k3 c3 hb3 HFT
  go_wp2_with fail
  refine ((HD.out) w3 _ HR3.out ⟨_,HPG3.out⟩ HP5.out).mono ?_
  rintro e w5 ⟨rfl,H5⟩
  obtain ⟨ls,h51,h52⟩:=H5.out
  obtain ⟨lv,hlv1,hlv2⟩:=(HEND.out) ls w5 (by rw [HTX.out];exact h51) (PgTo.from HK3.out h52)
  have hl5:w.heap.size+1<w5.heap.size:=World.block_lt_of_cell? w5 _ hlv1
  clear H5 h51 h52
  go_wp2_with fail
  go_ret
  refine ⟨ls,lv,rfl,?_⟩
  rw [← HLL.out] at hlv2
  exact hlv2
end Go.Proofs.YtgpcpbmacdhlkaaGreatDoor
/- Package lay: a kid of the root is written. -/
namespace Go.Proofs.YtgpcpbmacdhlkaaGreatDoor
open Go.RowKit
open M
theorem BdTo.step {w w1 w2:World} {B:Nat} {bv bv':Value} {l':List UInt8} (h2:∀ k,bv'.ownBlock=some k→bv.ownBlock=some k∨w.heap.size≤k) (k1:Kp (fun q=>q=B∨bv.ownBlock=some q) w w1) (h:BdTo w1 B bv' l' w2):BdTo w B bv l' w2:=by
 obtain ⟨p3,bv3,h3,h4,h5⟩:=h
 refine ⟨p3,bv3,h3,fun k hk=>?_,Kp.trans k1 h5 (fun i hi e=>?_)⟩
 ·rcases h4 k hk with e|e
  ·exact h2 k e
  ·exact .inr (Nat.le_trans k1.size e)
 ·rcases e with e|e
  ·exact .inl e
  ·rcases h2 i e with e|e
   ·exact .inr e
   ·omega
theorem BdTo.refl {w:World} {B:Nat} {l:List UInt8} {p bv:Value} (h:BdW w B l p bv):BdTo w B bv l w:=⟨p,bv,h,fun _ e=>.inl e,Kp.refl _ _⟩
theorem BdTo.below {w w1 w2:World} {B:Nat} {bv:Value} {l:List UInt8} (h:BdTo w B bv l w1) (hb:Below w1.heap.size w1 w2):BdTo w B bv l w2:=by
 obtain ⟨p,bv',h1,h2,k1⟩:=h
 exact ⟨p,bv',h1.keep (Kp.ofBelow hb (fun _=>False)) id (fun _ _=>id),h2,Kp.trans k1 (Kp.ofBelow hb (fun _=>False)) (fun _ _ e=>e.elim)⟩
theorem IsRow.kp {w w':World} {R:Nat} {rm:List (List UInt8)} {L:List X.Lf} (h:IsRow w R rm L) (hk:Kp (fun q=>q<R) w w'):IsRow w' R rm L:=by
 obtain ⟨⟨rv,fv,tv,h1⟩,h2⟩:=h
 refine ⟨⟨rv,fv,tv,hk.heap h1.blk (by omega),hk.owns h1.orm (fun q hq e=>?_),hk.owns h1.ofl (fun q hq e=>?_),hk.owns h1.oex (fun q hq e=>?_)⟩,h2⟩
 ·have:=(owns_ge h1.orm q hq).1;omega
 ·have:=(owns_ge h1.ofl q hq).1;omega
 ·have:=(owns_ge h1.oex q hq).1;omega
namespace X
theorem Ats.range {L:List Lf} {a b:Nat} (h1:a<b) (h2:b≤L.length):Ats L a ((L.take b).drop a)∧((L.take b).drop a).length=b - a:=by
 have hl:((L.take b).drop a).length=b - a:=by rw [List.length_drop,List.length_take];omega
 refine ⟨⟨L.take a,L.drop b,?_,by rw [List.length_take];omega⟩,hl⟩
 have e1:L.take a++(L.take b).drop a=L.take b:=by
  have:L.take a=(L.take b).take a:=by rw [List.take_take,Nat.min_eq_left (by omega)]
  rw [this,List.take_append_drop]
 rw [← List.append_assoc,e1,List.take_append_drop]
theorem rln_map (rm:List (List UInt8)) (j:Nat) (x:List UInt8) (h:rm[j]?=some x):(rm.take (j+1)).flatMap (fun x=>x++[10])=(rm.take j).flatMap (fun x=>x++[10])++(x++[10]):=by
 rw [List.take_add_one,h,Option.toList_some,List.flatMap_append];simp
theorem rends_take {L:List Lf} {ls:List Lne} {j:Nat} {l:Lne} (h:ls[j]?=some l):rends L (ls.take (j+1))=rends L (ls.take j)++rend L l:=by
 rw [List.take_add_one,h,Option.toList_some,rends_append,rends_one]
end X
theorem str_cells {w:World} {R:Nat} {rv:Value} {rm:List (List UInt8)} (h:w.ownsRow R 9 1 rv rm.length (strv rm)):∃ ao cap,rv=.slice ao rm.length cap∧∀ j x,rm[j]?=some x→∃ g,ao=some ⟨g,0,none⟩∧R≤g∧g<w.heap.size∧w.cell? ⟨g,j,none⟩=some (.string (ba x)):=by
 have hc:=fun g hg=>h.cells (g:=g) hg
 rcases h.2 with ⟨rfl,h0⟩|⟨g,cap,cur,rfl,hb,hg,hn,-⟩
 ·exact ⟨none,0,by rw [h0],fun j x hj=>by rw [List.length_eq_zero_iff.1 h0] at hj;simp at hj⟩
 ·refine ⟨_,cap,rfl,fun j x hj=>⟨g,rfl,hb,heap_lt hg,?_⟩⟩
  have:=hc g rfl j (.string (ba x)) (by simp [strv,hj])
  rw [Addr.add_lit,Nat.zero_add] at this
  exact this
theorem lnv_get:∀ (ls:List X.Lne) (j:Nat) (l:X.Lne),ls[j]?=some l→(lnv ls)[j*3]?=some (.int .i64 l.1)∧(lnv ls)[j*3+1]?=some (.int .i64 l.2.1)∧(lnv ls)[j*3+2]?=some (.int .i64 l.2.2)
 | [],j,l,h=>by simp at h
 | m::ls,0,l,h=>by
  have:m=l:=by simpa using h
  subst this
  exact ⟨rfl,rfl,rfl⟩
 | m::ls,j+1,l,h=>by
  have h1:=lnv_get ls j l (by simpa using h)
  have e1:(j+1)*3=j*3+3:=by omega
  have e2:lnv (m::ls)=.int .i64 m.1::.int .i64 m.2.1::.int .i64 m.2.2::lnv ls:=rfl
  rw [e1,e2]
  exact h1
theorem ln_cells {w:World} {Q:Nat} {lv:Value} {ls:List X.Lne} (h:w.ownsRow Q 103 3 lv ls.length (lnv ls)):∃ ao cap,lv=.slice ao ls.length cap∧∀ j l,ls[j]?=some l→∃ g,ao=some ⟨g,0,none⟩∧Q≤g∧g<w.heap.size∧w.cell? ⟨g,j*3,none⟩=some (.int .i64 l.1)∧w.cell? ⟨g,j*3+1,none⟩=some (.int .i64 l.2.1)∧w.cell? ⟨g,j*3+2,none⟩=some (.int .i64 l.2.2):=by
 have hc:=fun g hg=>h.cells (g:=g) hg
 rcases h.2 with ⟨rfl,h0⟩|⟨g,cap,cur,rfl,hb,hg,hn,-⟩
 ·exact ⟨none,0,by rw [h0],fun j x hj=>by rw [List.length_eq_zero_iff.1 h0] at hj;simp at hj⟩
 ·refine ⟨_,cap,rfl,fun j l hj=>⟨g,rfl,hb,heap_lt hg,?_⟩⟩
  obtain ⟨h1,h2,h3⟩:=lnv_get ls j l hj
  have c1:=hc g rfl _ _ h1
  have c2:=hc g rfl _ _ h2
  have c3:=hc g rfl _ _ h3
  rw [Addr.add_lit,Nat.zero_add] at c1 c2 c3
  exact ⟨c1,c2,c3⟩
def WrOk (p:X.Part):Prop:=∀ (w:World) (D:Nat→Prop) (v:Value) (B:Nat) (acc:List UInt8) (pb bv:Value),(∀ q,D q→q<w.heap.size)→IsN w D v p→BdW w B acc pb bv→(acc++X.kidOut p).length≤1099511627776 →
 Calls Tryz.prog 17 #[.pointer (some ⟨B,0,none⟩),v] w fun e w'=>e=.returned (.tuple #[])∧Hid (BdTo w B bv (acc++X.kidOut p) w')
set_option maxRecDepth 100000 in
set_option maxHeartbeats 8000000 in
theorem awrite_any (p:X.Part) (hkw:X.KidW p) (hdp:X.dps (X.kidsOf p)≤520) (hne:X.quietP p=false→X.nt p≠[]) (hz:X.psz p≤1073741824) (hko:X.kok p) (hnp:∀ t∈X.pl p,t.2≠[]) (hfl:(X.flt (X.fl false p)).length≤8589934592) (hnl:(X.nt p).length≤268435456) (hrl:(X.rms p).length≤268435456):WrOk p:=by
 intro w D v B acc pb bv hD hN hB hout
 obtain ⟨a1,a2,a3,a4,a5,a6,hv⟩:=hN.shape
 unfold q4v at hv
 subst hv
 have hBl:B<w.heap.size:=heap_lt hB.blk
 have k2:Below w.heap.size w ((w.alloc (.cells #[.int .i64 a1,.int .i64 a2,.string a3,.slice a4 a5 a6] 38)).alloc (.cells #[.slice none 0 0,.slice none 0 0,.slice none 0 0,.string ⟨#[]⟩] 92)):=((Below.refl _ w).alloc (Nat.le_refl _) _).alloc (by simp) _
 have hrow:IsRow ((w.alloc (.cells #[.int .i64 a1,.int .i64 a2,.string a3,.slice a4 a5 a6] 38)).alloc (.cells #[.slice none 0 0,.slice none 0 0,.slice none 0 0,.string ⟨#[]⟩] 92)) (w.heap.size+1) [] [] :=
  ⟨⟨.slice none 0 0,.slice none 0 0,.slice none 0 0,new_at _ _ (by simp),World.ownsRow_nil _ _ _ _,World.ownsRow_nil _ _ _ _,World.ownsRow_nil _ _ _ _⟩,fun b hb=>by simp at hb⟩
 have HRD:=hide (aread_any _ p (Nat.le_refl _) hz hko _ (w.heap.size+1) D _ 2 [] [] (fun q hq=>by have:=hD q hq;omega) (hN.kept (Kp.ofBelow k2 (fun _=>False)) (fun _ e=>e.elim)) hrow (fun t ht=>hnp t (List.mem_filter.1 ht).1) hnp (by simpa using hfl) (by simpa using hnl) (by simpa using hrl))
 have hz2:((w.alloc (.cells #[.int .i64 a1,.int .i64 a2,.string a3,.slice a4 a5 a6] 38)).alloc (.cells #[.slice none 0 0,.slice none 0 0,.slice none 0 0,.string ⟨#[]⟩] 92)).heap.size=w.heap.size+2:=by simp
 have HB:=hide hB
 have HK2:=hide k2
 have HZ2:=hide hz2
 clear hN hB k2 hrow hz2
 go_enter Tryz.func17,Tryz.ntmps17
 go_wp2_with fail
 refine (HRD.out).mono ?_
 rintro e w3 ⟨pv,rfl,H3⟩
 obtain ⟨h31,h32,E,h33,h34⟩:=H3.out
 obtain ⟨b1,b2,b3,hpv⟩:=h33.shape
 unfold q4v at hpv
 subst hpv
 have e14:((2:Nat)==14)=false:=rfl
 rw [e14,List.nil_append,List.nil_append] at h31
 rw [List.length_nil,Nat.zero_add] at h33 ⊢
 generalize hte:(X.nt p).length=te at *
 generalize hkk:X.kindOf p=kk at *
 replace h33:IsPt w3 E 0 (.agg #[.int .i64 kk,.int .i64 0,.int .i64 te,.slice b1 b2 b3]) p:=h33
 have hl31:w.heap.size+1<w3.heap.size:=heap_lt h31.1.choose_spec.choose_spec.choose_spec.blk
 have k34:Below w3.heap.size w3 (w3.alloc (.cells #[.int .i64 kk,.int .i64 0,.int .i64 te,.slice b1 b2 b3] 95)):=(Below.refl _ w3).alloc (Nat.le_refl _) _
 have hzw3:w.heap.size+2≤w3.heap.size:=by have:=h32.size;have:=HZ2.out;omega
 have HI4:=hide (h31.below k34)
 have HPT4:=hide (h33.kept (Kp.ofBelow k34 (fun _=>False)) (fun _ e=>e.elim))
 have hit:(w3.alloc (.cells #[.int .i64 kk,.int .i64 0,.int .i64 te,.slice b1 b2 b3] 95)).heap[w3.heap.size]?=some (.cells #[.int .i64 kk,.int .i64 0,.int .i64 te,.slice b1 b2 b3] 95 (0,0)):=heap_alloc_new w3 _
 have hbo:∀ k,bv.ownBlock=some k→k<w.heap.size:=fun k hk=>(owns_ge (HB.out).row k hk).2
 have HBO:=hide hbo
 have k24:Kp (fun q=>w.heap.size+1≤q) w (w3.alloc (.cells #[.int .i64 kk,.int .i64 0,.int .i64 te,.slice b1 b2 b3] 95)):=Kp.trans (Kp.trans (Kp.ofBelow HK2.out _) h32 (fun i hi e=>e.1)) (Kp.ofBelow k34 (fun _=>False)) (fun _ _ e=>e.elim)
 have HB4:=hide ((HB.out).keep k24 (by omega) (fun k hk e=>by have:=hbo k hk;omega))
 have HK24:=hide k24
 have HE:=hide h34
 have HIT:=hide hit
 have hz4:(w3.alloc (.cells #[.int .i64 kk,.int .i64 0,.int .i64 te,.slice b1 b2 b3] 95)).heap.size=w3.heap.size+1:=by simp
 have HZ4:=hide hz4
 clear H3 h31 h32 h33 h34 k34 hit hbo k24 hz4 HRD
 obtain ⟨⟨rv,fv,tv,hraw⟩,hLne⟩:=HI4.out
 obtain ⟨⟨r0,-,-,-⟩,-,hRl⟩:=hraw.cells
 obtain ⟨rao,rcap,rfl,hrm⟩:=str_cells hraw.orm
 have HRM:=hide hrm
 have HFIN:Hid (acc++X.kidOut p=acc++((X.rms p).flatMap (fun x=>x++[10])++LinesOut p)):=by
  show _=_
  unfold X.kidOut LinesOut X.remarks X.rms
  rw [List.flatMap_map]
 have hlo:acc.length+(((X.rms p).flatMap (fun x=>x++[10])).length+(LinesOut p).length)≤1099511627776:=by
  have h:=hout
  rw [HFIN.out,List.length_append,List.length_append] at h
  exact h
 have HRNE:Hid (∀ x∈X.rms p,x≠[]):=fun x hx=>by
  unfold X.rms at hx
  obtain ⟨t,ht,rfl⟩:=List.mem_map.1 hx
  exact hnp t (List.mem_filter.1 ht).1
 clear hraw hLne hrm hout
 go_wp2_with fail
 generalize w3.alloc (.cells #[.int .i64 kk,.int .i64 0,.int .i64 te,.slice b1 b2 b3] 95)=W4 at *
 go_loopw [15] (fun iv wr=>∃ j:Nat,iv=.int .i64 j∧j≤(X.rms p).length∧Hid (BdTo W4 B bv (acc++((X.rms p).take j).flatMap (fun x=>x++[10])) wr)) (fun iv _=>(X.rms p).length - (intOf iv).toNat)
 case atStart=>exact ⟨0,rfl,Nat.zero_le _,by rw [List.take_zero,List.flatMap_nil,List.append_nil];exact BdTo.refl HB4.out⟩
 case round =>
  obtain ⟨j,rfl,hj,HI⟩:=hrel
  have kS:Kp (fun q=>q<w.heap.size) W4 wr:=by
   obtain ⟨-,-,-,-,k⟩:=HI.out
   exact k.mono (fun i _ e=>by rcases e with e|e;omega;exact (HBO.out) i e)
  have HKS:=hide kS
  by_cases hlt:j<(X.rms p).length
  case pos =>
   have i1:decide (j<(X.rms p).length)=true:=by simp;omega
   have i2:decide ((j:Int)<((X.rms p).length:Int))=true:=by simp;omega
   have hi1:(0:Int)≤(j:Int):=Int.natCast_nonneg _
   have hi2:(j:Int)<((X.rms p).length:Int):=by omega
   obtain ⟨x,hx⟩:∃ x,(X.rms p)[j]?=some x:=⟨_,List.getElem?_eq_getElem hlt⟩
   obtain ⟨g,rfl,hgR,hgl,hc⟩:=(HRM.out) j x hx
   have c0:=kS.cellv hc (show ¬ g<w.heap.size by omega)
   have hxn:=(HRNE.out) x (List.mem_of_getElem? hx)
   obtain ⟨p1,bv1,hb1,ho1,kb1⟩:=HI.out
   have HB1:=hide hb1
   have hxl:acc.length+(((X.rms p).take j).flatMap (fun x=>x++[10])).length+(x.length+1)≤1099511627776:=by
    have h1:=X.rln_map (X.rms p) j x hx
    have h2:(X.rms p).flatMap (fun x=>x++[10])=((X.rms p).take (j+1)).flatMap (fun x=>x++[10])++((X.rms p).drop (j+1)).flatMap (fun x=>x++[10]):=by rw [← List.flatMap_append,List.take_append_drop]
    rw [h2,h1,List.length_append,List.length_append,List.length_append,List.length_singleton] at hlo
    omega
   have HST:=hide (fun w1 (h:BdTo W4 B bv (acc++((X.rms p).take j).flatMap (fun x=>x++[10])++x) w1)=>h)
   have HO1:=hide ho1
   have HKB1:=hide kb1
   have HRLN:=hide (X.rln_map (X.rms p) j x hx)
   clear hb1 ho1 kb1 hc kS hx
   go_wp2_with fail
   refine (bstr_any x hxn B _ p1 bv1 wr HB1.out (by rw [List.length_append];omega)).mono ?_
   rintro e w5 ⟨⟨v5,rfl⟩,H5⟩
   obtain ⟨p5,bv5,hb5,ho5,kb5⟩:=H5.out
   have HB5:=hide hb5
   have HT5:=hide (BdTo.step HO1.out HKB1.out H5.out)
   have HO5:=hide ho5
   have HKB5:=hide kb5
   clear H5 hb5 ho5 kb5
   go_wp2_with fail
   refine (bbyte_any 10 B _ p5 bv5 w5 HB5.out (by rw [List.length_append,List.length_append];omega)).mono ?_
   rintro e w6 ⟨rfl,H6⟩
   have HN:Hid (BdTo W4 B bv (acc++((X.rms p).take (j+1)).flatMap (fun x=>x++[10])) w6):=by
    have h:=BdTo.step HO1.out HKB1.out (BdTo.step HO5.out HKB5.out H6.out)
    rw [HRLN.out,← List.append_assoc,← List.append_assoc];exact h
   clear H6 HT5 HST HI
   go_wp2_with fail
   exact ⟨⟨j+1,by go_num,by omega,HN⟩,by simp only [intOf];omega⟩
  obtain rfl:j=(X.rms p).length:=by omega
  have i1:decide ((X.rms p).length<(X.rms p).length)=false:=by simp
  have i2:decide (((X.rms p).length:Int)<((X.rms p).length:Int))=false:=by simp
  have HI2:=HI
  rw [List.take_length] at HI2
  have hb4:=kS.heap HIT.out (show ¬ w3.heap.size<w.heap.size by omega)
  have x0:=cell_of_row wr _ 0 _ _ _ hb4
  have x1:=cell_of_row wr _ 1 _ _ _ hb4
  have x2:=cell_of_row wr _ 2 _ _ _ hb4
  have x3:=cell_of_row wr _ 3 _ _ _ hb4
  have kR4:Kp (fun q=>q<w.heap.size+1) W4 wr:=kS.mono (fun i _ e=>by show i<_;have:i<w.heap.size:=e;omega)
  have hLL:(X.fl false p).length≤268435456:=by rw [X.fl_len,hte];exact hnl
  have HLN:=hide (alines_any p hkw hdp (X.fl false p) hLL hfl rfl hne wr (w.heap.size+1) (X.rms p) E _ ((HI4.out).kp kR4) ((HPT4.out).kept kS (fun q e e2=>by have h1:=(HE.out) q e2;have h2:=HZ2.out;have:q<w.heap.size:=e;omega)))
  have HKR4:=hide kR4
  have hzr:W4.heap.size≤wr.heap.size:=kS.size
  clear hb4 kR4 kS HI HIT HPT4 HRM HRNE
  go_wp2_with fail
  refine (HLN.out).mono ?_
  rintro e w7 ⟨ls,lv,rfl,H7⟩
  obtain ⟨hRG,hown,k7⟩:=H7.out
  obtain ⟨lao,lcap,rfl,hln⟩:=ln_cells hown
  have HRG:=hide hRG
  have HLNC:=hide hln
  have HK7:=hide k7
  obtain ⟨p1,bv1,hb1,ho1,kb1⟩:=HI2.out
  have hb7:BdW w7 B (acc++(X.rms p).flatMap (fun x=>x++[10])) p1 bv1:=hb1.keep (Kp.ofBelow k7 (fun _=>False)) id (fun _ _=>id)
  have HB7:=hide hb7
  have HO1:=hide ho1
  have HKB1:=hide kb1
  have HBO1:Hid (∀ k,bv1.ownBlock=some k→k<wr.heap.size):=fun k hk=>(owns_ge hb1.row k hk).2
  have hlsl:=hRG.len
  have HRE:=hide hRG.one
  have hz7:wr.heap.size≤w7.heap.size:=k7.size
  clear H7 hRG hown k7 hln hb1 ho1 kb1 hb7 HLN x0 x1 x2 x3
  have HKR:Hid (∀ (l:List UInt8) (w9:World),BdTo w7 B bv1 l w9→IsRow w9 (w.heap.size+1) (X.rms p) (X.fl false p)):=fun l w9 h=>by
   obtain ⟨-,-,-,-,k9⟩:=h
   refine (HI4.out).kp (Kp.trans (Kp.trans HKR4.out (Kp.ofBelow (HK7.out) (fun _=>False)) (fun _ _ e=>e.elim)) k9 (fun i hi e=>?_))
   show i<w.heap.size+1
   rcases e with e|e
   ·omega
   ·rcases (HO1.out) i e with e|e
    ·have:=(HBO.out) i e;omega
    ·omega
  clear hz7
  have hz7:wr.heap.size≤w7.heap.size:=(HK7.out).size
  generalize hL:X.fl false p=L at *
  have hlo2:acc.length+((X.rms p).flatMap (fun x=>x++[10])).length+(X.rends L ls).length≤1099511627776:=by rw [HRE.out];omega
  go_wp2_with fail
  go_loopw [28] (fun iv wx=>∃ j:Nat,iv=.int .i64 j∧j≤ls.length∧Hid (BdTo w7 B bv1 (acc++(X.rms p).flatMap (fun x=>x++[10])++X.rends L (ls.take j)) wx)) (fun iv _=>ls.length - (intOf iv).toNat)
  case atStart=>exact ⟨0,rfl,Nat.zero_le _,by
   have e:X.rends L ([]:List X.Lne)=[]:=rfl
   rw [List.take_zero,e,List.append_nil];exact BdTo.refl HB7.out⟩
  case round =>
   obtain ⟨j,rfl,hj,HJ⟩:=hrel
   by_cases hlt:j<ls.length
   case neg =>
    obtain rfl:j=ls.length:=by omega
    have i1:decide (ls.length<ls.length)=false:=by simp
    have i2:decide ((ls.length:Int)<(ls.length:Int))=false:=by simp
    have HF:Hid (BdTo w B bv (acc++X.kidOut p) wr):=by
     have h:=HJ.out
     rw [List.take_length,HRE.out,List.append_assoc,← HFIN.out] at h
     obtain ⟨p9,bv9,h9,o9,k9⟩:=h
     refine ⟨p9,bv9,h9,fun k hk=>?_,?_⟩
     ·rcases o9 k hk with e|e
      ·rcases (HO1.out) k e with e|e
       ·exact .inl e
       ·exact .inr (by omega)
      ·exact .inr (by omega)
     ·refine Kp.trans (Kp.trans (Kp.trans ((HK24.out).mono (fun i hi e=>absurd e (show ¬(w.heap.size+1≤i) by omega))) HKB1.out (fun i hi e=>?_)) (Kp.ofBelow (HK7.out) (fun _=>False)) (fun _ _ e=>e.elim)) k9 (fun i hi e=>?_)
      ·exact e
      ·rcases e with e|e
       ·exact .inl e
       ·rcases (HO1.out) i e with e|e
        ·exact .inr e
        ·omega
    clear HJ
    go_wp2_with fail
    go_end0
    exact ⟨rfl,HF⟩
   have i1:decide (j<ls.length)=true:=by simp;omega
   have i2:decide ((j:Int)<(ls.length:Int))=true:=by simp;omega
   have hi1:(0:Int)≤(j:Int):=Int.natCast_nonneg _
   have hi2:(j:Int)<(ls.length:Int):=by omega
   obtain ⟨⟨n,fa,ft⟩,hl⟩:∃ l,ls[j]?=some l:=⟨_,List.getElem?_eq_getElem hlt⟩
   obtain ⟨g,rfl,hgQ,hgl,z0,z1,z2⟩:=(HLNC.out) j _ hl
   obtain ⟨hn522,hft,hto⟩:=(HRG.out).inr _ (List.mem_of_getElem? hl)
   replace hn522:n≤522:=hn522
   replace hft:fa<ft:=hft
   replace hto:ft≤L.length:=by rw [Nat.zero_add] at hto;exact hto
   obtain ⟨hAt,hAl⟩:=X.Ats.range hft hto
   have HTK:=hide (X.rends_take (L:=L) hl)
   have hrl2:(X.rends L (ls.take j)).length+(n+((X.flt ((L.take ft).drop fa)).length+1))≤(X.rends L ls).length:=by
    have h1:=X.rends_take (L:=L) hl
    have h2:X.rends L ls=X.rends L (ls.take (j+1))++X.rends L (ls.drop (j+1)):=by rw [← X.rends_append,List.take_append_drop]
    have h3:(X.rend L (n,fa,ft)).length=n+((X.flt ((L.take ft).drop fa)).length+1):=by
     unfold X.rend X.line;rw [List.length_append,List.length_append,List.length_replicate];rfl
    rw [h2,h1,List.length_append,List.length_append,h3];omega
   have HRD:Hid (X.rend L (n,fa,ft)=List.replicate n 32++(X.flt ((L.take ft).drop fa)++[10])):=rfl
   generalize hM:(L.take ft).drop fa=M at *
   obtain ⟨p8,bv8,hb8,ho8,kb8⟩:=HJ.out
   have hgk:¬(g=B∨bv1.ownBlock=some g):=fun e=>by
    rcases e with e|e
    ·omega
    ·have:=(HBO1.out) g e;omega
   have y0:=kb8.cellv z0 hgk
   have y1:=kb8.cellv z1 hgk
   have y2:=kb8.cellv z2 hgk
   replace y0:wr.cell? ⟨g,j*3,none⟩=some (.int .i64 n):=y0
   replace y1:wr.cell? ⟨g,j*3+1,none⟩=some (.int .i64 fa):=y1
   replace y2:wr.cell? ⟨g,j*3+2,none⟩=some (.int .i64 ft):=y2
   have hzx:w7.heap.size≤wr.heap.size:=kb8.size
   have kA:Below wr.heap.size wr (wr.alloc (.cells #[.int .i64 n,.int .i64 fa,.int .i64 ft] 103)):=(Below.refl _ wr).alloc (Nat.le_refl _) _
   have hbl:(wr.alloc (.cells #[.int .i64 n,.int .i64 fa,.int .i64 ft] 103)).heap[wr.heap.size]?=some (.cells #[.int .i64 n,.int .i64 fa,.int .i64 ft] 103 (0,0)):=heap_alloc_new wr _
   have HB8:=hide (hb8.keep (Kp.ofBelow kA (fun _=>False)) id (fun _ _=>id))
   have HOB8:Hid (∀ k,bv8.ownBlock=some k→k<wr.heap.size):=fun k hk=>(owns_ge hb8.row k hk).2
   have HO8:=hide ho8
   have HKB8:=hide (Kp.trans kb8 (Kp.ofBelow kA (fun _=>False)) (fun _ _ e=>e.elim))
   have HBL:=hide hbl
   have hBx:B<wr.heap.size:=by omega
   have hgx:g<wr.heap.size:=by omega
   clear hb8 ho8 kb8 hgk z0 z1 z2 kA hbl HJ hl
   go_wp2_with fail
   generalize wr.alloc (.cells #[.int .i64 n,.int .i64 fa,.int .i64 ft] 103)=W8 at *
   generalize wr.heap.size=lb at *
   go_loopw [34] (fun iv wy=>∃ k:Nat,iv=.int .i64 k∧k≤n∧Hid (BdTo W8 B bv8 (acc++(X.rms p).flatMap (fun x=>x++[10])++X.rends L (ls.take j)++List.replicate k 32) wy)) (fun iv _=>n - (intOf iv).toNat)
   case atStart=>exact ⟨0,rfl,Nat.zero_le _,by rw [List.replicate_zero,List.append_nil];exact BdTo.refl HB8.out⟩
   case round =>
    obtain ⟨k,rfl,hk,HKk⟩:=hrel
    obtain ⟨p9,bv9,hb9,ho9,kb9⟩:=HKk.out
    have HB9:=hide hb9
    have HO9:=hide ho9
    have HKB9:=hide kb9
    have hb10:=kb9.heap HBL.out (fun e=>by
     rcases e with e|e
     ·omega
     ·have:=(HOB8.out) lb e;omega)
    have y0':=cell_of_row wr _ 0 _ _ _ hb10
    have y1':=cell_of_row wr _ 1 _ _ _ hb10
    have y2':=cell_of_row wr _ 2 _ _ _ hb10
    clear hb9 ho9 kb9 hb10
    by_cases hkn:k<n
    case pos =>
     have j1:decide (k<n)=true:=by simp;omega
     have j2:decide ((k:Int)<(n:Int))=true:=by simp;omega
     go_wp2_with fail
     refine (bbyte_any 32 B _ p9 bv9 wr HB9.out (by simp only [List.length_append,List.length_replicate];omega)).mono ?_
     rintro e w6 ⟨rfl,H6⟩
     have HN:Hid (BdTo W8 B bv8 (acc++(X.rms p).flatMap (fun x=>x++[10])++X.rends L (ls.take j)++List.replicate (k+1) 32) w6):=by
      have h:=BdTo.step HO9.out HKB9.out H6.out
      rw [List.replicate_succ',← List.append_assoc];exact h
     clear H6
     go_wp2_with fail
     exact ⟨⟨k+1,by go_num,by omega,HN⟩,by simp only [intOf];omega⟩
    obtain rfl:k=n:=by omega
    have j1:decide (k<k)=false:=by simp
    have j2:decide ((k:Int)<(k:Int))=false:=by simp
    have HT9:Hid (BdTo w7 B bv1 (acc++(X.rms p).flatMap (fun x=>x++[10])++X.rends L (ls.take j)++List.replicate k 32) wr):=BdTo.step HO8.out HKB8.out HKk.out
    have HPC:=hide (apiece_any L M fa ft (w.heap.size+1) (X.rms p) wr ((HKR.out) _ wr HT9.out) hAt (fun e=>by rw [e] at hAl;simp at hAl;omega) (by omega) hLL hfl)
    have hMne:X.flt M≠[]:=by
     refine X.flt_ne (fun e=>by rw [e] at hAl;simp at hAl;omega) (fun b hb=>?_)
     have h:=(HI4.out).2
     obtain ⟨A,C,e,-⟩:=hAt
     exact h b (by rw [e];exact List.mem_append_right _ (List.mem_append_left _ hb))
    go_wp2_with fail
    refine (HPC.out).mono ?_
    rintro e w10 ⟨v10,rfl,H10⟩
    obtain ⟨⟨g2,o2,cap2,cur2,rfl,hc2,hcm2,hg2,hg2b,hby2⟩,k10⟩:=H10.out
    have HB10:=hide ((HB9.out).keep (Kp.ofBelow k10 (fun _=>False)) id (fun _ _=>id))
    have HW:=hide (bwrite_any (X.flt M) hMne B _ p9 bv9 w10 HB10.out (by simp only [List.length_append,List.length_replicate];omega) g2 o2 cap2 (by omega) hby2)
    have HT10:=hide (BdTo.below HT9.out k10)
    have HK10:=hide k10
    clear H10 hby2 hg2b HPC k10
    go_wp2_with fail
    refine (HW.out).mono ?_
    rintro e w11 ⟨⟨v11,rfl⟩,H11⟩
    obtain ⟨p11,bv11,hb11,ho11,kb11⟩:=H11.out
    have HB11:=hide hb11
    have HO11:=hide ho11
    have HKB11:=hide kb11
    clear H11 hb11 ho11 kb11 HW
    go_wp2_with fail
    refine (bbyte_any 10 B _ p11 bv11 w11 HB11.out (by simp only [List.length_append,List.length_replicate];omega)).mono ?_
    rintro e w12 ⟨rfl,H12⟩
    have HN:Hid (BdTo w7 B bv1 (acc++(X.rms p).flatMap (fun x=>x++[10])++X.rends L (ls.take (j+1))) w12):=by
     have h1:BdTo W8 B bv8 _ w10:=BdTo.below HKk.out HK10.out
     obtain ⟨pa,ba,hba,hoa,kba⟩:BdTo W8 B bv8 (acc++(X.rms p).flatMap (fun x=>x++[10])++X.rends L (ls.take j)++List.replicate k 32) w10:=h1
     have h2:=BdTo.step HO11.out HKB11.out H12.out
     have h3:BdTo wr B bv9 (acc++(X.rms p).flatMap (fun x=>x++[10])++X.rends L (ls.take j)++List.replicate k 32++X.flt M++[10]) w12:=by
      obtain ⟨pc,bc,hbc,hoc,kbc⟩:=h2
      refine ⟨pc,bc,hbc,fun x hx=>?_,Kp.trans (Kp.ofBelow HK10.out _) kbc (fun i hi e=>e)⟩
      rcases hoc x hx with e|e
      ·exact .inl e
      ·exact .inr (Nat.le_trans (HK10.out).size e)
     have h4:=BdTo.step HO8.out HKB8.out (BdTo.step HO9.out HKB9.out h3)
     rw [HTK.out,HRD.out]
     simp only [List.append_assoc] at h4 ⊢
     exact h4
    clear H12 HT9 HT10
    go_wp2_with fail
    exact ⟨⟨j+1,by go_num,by omega,HN⟩,by simp only [intOf];omega⟩
end Go.Proofs.YtgpcpbmacdhlkaaGreatDoor
