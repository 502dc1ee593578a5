/- Package lay: expression: lists and groups. -/
import Derived.Test.YtgpcpbmacdhlkaaGreatDoorLpr
namespace Go.Proofs.YtgpcpbmacdhlkaaGreatDoor
open Go.RowKit
open M
namespace X
theorem ShA_ne:∀ (m:Nat) {c:List UInt8} {l:List Part},l.length≤m→ShA c l→(∀ t:Tok,lf t∈l→lou t=true)→∀ x∈l,nt x≠[]
 | 0,_,l,hm,ha,_=>by cases ha<;>simp at hm
 | m+1,_,l,hm,ha,hl=>by
  cases ha with
  | last _ p b hp hb =>
   intro x hx
   simp only [List.mem_cons,List.not_mem_nil,or_false] at hx
   rcases hx with rfl|rfl
   ·exact hp.ne
   ·exact nt_lf_ne (hl b (by simp))
  | more _ p b q l' hp hb h =>
   intro x hx
   rcases List.mem_cons.1 hx with rfl|hx
   ·exact hp.ne
   ·rcases List.mem_cons.1 hx with rfl|hx
    ·exact nt_lf_ne (hl b (by simp))
    ·exact ShA_ne m (by simp at hm ⊢;omega) h (fun t ht=>hl t (List.mem_cons_of_mem _ (List.mem_cons_of_mem _ ht))) x hx
theorem ShA_end:∀ (m:Nat) {c:List UInt8} {l:List Part},l.length≤m→ShA c l→∃ b:Tok,l[l.length - 1]?=some (lf b)∧b.2=c
 | 0,_,l,hm,ha=>by cases ha<;>simp at hm
 | m+1,_,l,hm,ha=>by
  cases ha with
  | last _ p b hp hb=>exact ⟨b,rfl,hb⟩
  | more _ p b q l' hp hb h =>
   obtain ⟨b',e1,e2⟩:=ShA_end m (by simp at hm ⊢;omega) h
   refine ⟨b',?_,e2⟩
   have:(p::lf b::q::l').length - 1=((q::l').length - 1)+2:=by simp
   rw [this];exact e1
theorem nts_mem {l:List Part} {q:Part} (h:q∈l):(nt q).length≤(nts' l).length:=by
 obtain ⟨a,b,e⟩:=List.append_of_mem h
 rw [e,nts_append,nts_cons,List.length_append,List.length_append];omega
end X
set_option maxRecDepth 100000 in
set_option maxHeartbeats 8000000 in
theorem gexpr_list0 (L:List X.Lf) (hL:L.length≤268435456) (hF:(X.flt L).length≤8589934592) (ps:List X.Part) (ta tb:X.Tok) (hb:X.pts ps=[X.lf ta,X.lf tb])  (hsh:X.Sh (.br 13 ps)):XC L (.br 13 ps):=by
 intro f n i w Q R rm D v ls hr hg h hA hf hd hl
 have hne:X.nt (.br 13 ps)≠[]:=hsh.ne
 have hfl:=X.fl_len false (.br 13 ps)
 have hMne:X.fl false (.br 13 ps)≠[]:=fun e=>hne (List.length_eq_zero_iff.1 (by rw [← hfl,e];rfl))
 have hle:=hA.le
 rw [hfl] at hle
 obtain ⟨ao,cap,hv,hc1,hc2,-⟩:=h.kid
 have HPT:=hide h
 subst hv
 have hkk:X.kindOf (.br 13 ps)=13:=rfl
 rw [hkk] at HPT ⊢
 have HW:Hid (n+X.chars (X.flat [.br 13 ps])+1≤80→∀ e,X.ex f n (.br 13 ps) e=X.line n (X.flat [.br 13 ps]++e)):=fun h e=>X.ex_fit h
 have hfe:X.flat [.br 13 ps]=X.flt (X.fl false (.br 13 ps)):=X.flat_one _
 obtain ⟨te,hteq⟩:∃ te,te=i+(X.nt (.br 13 ps)).length:=⟨_,rfl⟩
 rw [← hteq] at HPT ⊢
 obtain ⟨nn,hnn⟩:∃ nn,nn=(X.tks (X.kidsOf (.br 13 ps))).length:=⟨_,rfl⟩
 rw [← hnn] at HPT ⊢
 have k1:Below w.heap.size w (w.alloc (.cells #[.int .i64 13,.int .i64 i,.int .i64 te,.slice ao nn cap] 95)):=(Below.refl _ w).alloc (Nat.le_refl _) _
 have HFIT:=hide (fun W (hI:IsRow W R rm L)=>afits_any L (X.fl false (.br 13 ps)) i te R rm W 13 ao nn cap (80 - (n:Int) - 1) hI hA hMne (by rw [hfl];exact hteq) hL hF (by omega) (by omega))
 have hbx:(w.alloc (.cells #[.int .i64 13,.int .i64 i,.int .i64 te,.slice ao nn cap] 95)).heap[w.heap.size]?=some (.cells #[.int .i64 13,.int .i64 i,.int .i64 te,.slice ao nn cap] 95 (0,0)):=heap_alloc_new w _
 have hn522:n≤522:=by omega
 have HROW:=hide (hr.below k1)
 have HG:=hide hg
 have HK1:=hide k1
 have HBX:=hide hbx
 have HAT:=hide hA
 have HTE:=hide hteq
 have HNN:=hide hnn
 have HFE:=hide hfe
 obtain ⟨lv0,hlv0⟩:=hg
 have q0:=cell_of_row _ _ 0 _ _ _ (hlv0.below k1).blk
 have hQl:Q<w.heap.size:=heap_lt hlv0.blk
 have p0:=cell_of_row _ _ 0 _ _ _ hbx
 have p1:=cell_of_row _ _ 1 _ _ _ hbx
 have p2:=cell_of_row _ _ 2 _ _ _ hbx
 have p3:=cell_of_row _ _ 3 _ _ _ hbx
 have HNE:=hide hne
 have hwr1:IntKind.i64.wrap (80 - (n:Int))=80 - (n:Int):=by rw [IntKind.wrap_i64];omega
 have hwr2:IntKind.i64.wrap (80 - (n:Int) - 1)=80 - (n:Int) - 1:=by rw [IntKind.wrap_i64];omega
 clear hr h hA k1 hbx hlv0 hteq hnn hfe hMne hne hkk hc1 hc2
 have hlta:X.lou ta=true:=X.mem_pts hb (by simp)
 have hltb:X.lou tb=true:=X.mem_pts hb (by simp)
 have htb:X.tks (X.kidsOf (.br 13 ps))=[X.lf ta,X.lf tb]:=by
  rw [show X.kidsOf (.br 13 ps)=ps from rfl,X.tks_pts,hb]
  refine X.tks_all (fun x hx=>?_)
  simp only [List.mem_cons,List.not_mem_nil,or_false] at hx
  rcases hx with rfl|rfl
  ·exact X.nt_lf_ne hlta
  ·exact X.nt_lf_ne hltb
 have hflsM:X.fl false (.br 13 ps)=X.fls false ([X.lf ta,X.lf tb]):=by
  rw [X.fl_br,X.fls_pts,hb];rfl
 have HFLS:=hide hflsM
 have HTB:=hide htb
 clear hflsM htb
 go_enter Tryz.func90,Tryz.ntmps90
 go_wp2_with fail
 generalize w.alloc (.cells #[.int .i64 13,.int .i64 i,.int .i64 te,.slice ao nn cap] 95)=W at *
 refine wp_region_noPanic ?_
 refine wpTo_start (S:=fun w'=>w'.cell? ⟨Q,0,none⟩=some (.pointer (some ⟨R,0,none⟩))∧w'.cell? ⟨w.heap.size,0,none⟩=some (.int .i64 13)∧w'.cell? ⟨w.heap.size,1,none⟩=some (.int .i64 i)∧w'.cell? ⟨w.heap.size,2,none⟩=some (.int .i64 te)∧w'.cell? ⟨w.heap.size,3,none⟩=some (.slice ao nn cap)) (z:=9) (by kernel_rfl) ?_
 have hS:W.drew.cell? ⟨Q,0,none⟩=some (.pointer (some ⟨R,0,none⟩))∧W.drew.cell? ⟨w.heap.size,0,none⟩=some (.int .i64 13)∧W.drew.cell? ⟨w.heap.size,1,none⟩=some (.int .i64 i)∧W.drew.cell? ⟨w.heap.size,2,none⟩=some (.int .i64 te)∧W.drew.cell? ⟨w.heap.size,3,none⟩=some (.slice ao nn cap):=⟨q0,p0,p1,p2,p3⟩
 iterate 8 (refine wpTo_nx (v:=?_) rfl rfl (by kernel_rfl) (by decide) (by kernel_rfl) (by kernel_rfl) (fun _ _ _ h=>h) (Or.inl ⟨by rfl,?_⟩) hS ?_;rotate_left;(· (intro wx hSw;(try dsimp only at hSw);go_simp;try (with_reducible rfl)));simp only [Act.put,List.setIfInBounds_toArray,List.set_cons_zero,List.set_cons_succ])
 refine wpTo_one (i:=8) (by kernel_rfl) rfl (fun K hK=>?_)
 go_simp
 refine ((HFIT.out) _ ((HROW.out).below ((Below.refl _ W).drew))).mono ?_
 rintro e w2 ⟨rfl,B2⟩
 have b2:Below W.heap.size W w2:=((Below.refl _ W).drew).trans B2
 have c2:=Kp.ofBelow b2 (fun _=>False)
 replace q0:=c2.cellv q0 id
 replace p0:=c2.cellv p0 id
 replace p1:=c2.cellv p1 id
 replace p2:=c2.cellv p2 id
 replace p3:=c2.cellv p3 id
 go_simp
 refine hK.out _ _ (fun _=>⟨q0,p0,p1,p2,p3⟩) (fun _=>wpTo_end (by kernel_rfl) ?_)
 clear hK K hS c2
 refine NoPanic.normal ?_
 have HK2:Hid (Below w.heap.size w w2):=(HK1.out).trans (b2.mono (HK1.out).size)
 have HR2:=hide ((HROW.out).below b2)
 have HG2:Hid (∃ lv,IsPg w2 Q R ls lv):=by
  obtain ⟨lv,hlv⟩:=HG.out
  exact ⟨lv,hlv.below HK2.out⟩
 have HPT2:=hide ((HPT.out).kept (Kp.ofBelow HK2.out (fun _=>False)) (fun _ h=>h.elim))
 have HBX2:=hide ((Kp.ofBelow b2 (fun _=>False)).heap HBX.out id)
 clear b2 B2 HROW HG HK1 HBX HPT HFIT
 rw [← HFE.out]
 by_cases hW:n+X.chars (X.flat [.br 13 ps])+1≤80
 ·have c0:decide ((X.chars (X.flat [.br 13 ps]):Int)≤80 - (n:Int) - 1)=true:=decide_eq_true (by omega)
  rw [c0]
  go_wp2_with fail
  refine (gadd_any n i te Q R ls w2 HG2.out (by omega)).mono ?_
  rintro e w3 ⟨rfl,H3⟩
  have HF:Hid (∃ ls',X.SG L i (X.nt (.br 13 ps)).length ls' (X.ex f n (.br 13 ps))∧PgTo w Q R (ls++ls') w3):=⟨_,X.SG.whole HAT.out HNE.out hn522 HTE.out ((HW.out) hW),PgTo.from HK2.out H3.out⟩
  clear H3
  go_wp2_with fail
  try simp only [Exit.inBlock,Exit.then]
  refine bodyPost_ret (v:=.tuple #[]) (by simp [results,Tryz.results90,go_sem]) rfl ?_
  exact ⟨rfl,HF⟩
 have c0:decide ((X.chars (X.flat [.br 13 ps]):Int)≤80 - (n:Int) - 1)=false:=decide_eq_false (by omega)
 rw [c0]
 obtain ⟨f',rfl⟩:∃ f',f=f'+1:=⟨f - 1,by have:=List.length_pos_iff.2 HNE.out;omega⟩
 have hex0:∀ e,X.ex (f'+1) n (.br 13 ps) e=X.bracket (X.ex f' (n+2)) n (X.line n (X.flat [.br 13 ps]++e)) ([91]) ([X.lf ta,X.lf tb]) e:=fun e=>by
  conv=>lhs;unfold X.ex
  rw [if_neg hW,show X.kindOf (.br 13 ps)=13 from rfl,if_neg (by decide),if_neg (by decide),if_neg (by decide),if_neg (by decide),if_neg (by decide),if_pos rfl,show X.kidsOf (.br 13 ps)=ps from rfl,hb]
  try rfl
 obtain ⟨ib,hib⟩:∃ ib,ib=i:=⟨_,rfl⟩
 have HIB:=hide hib
 have HPB:=HPT2
 have hnb:(X.nt (.br 13 ps)).length=(X.nts' ([X.lf ta,X.lf tb])).length:=by rw [X.nt_br,hb]
 have hteb:ib+(X.nt (.br 13 ps)).length=te:=by rw [HTE.out,hib]
 have HEND:Hid (X.SG L i (X.nt (.br 13 ps)).length [(n,i,te)] (X.ex (f'+1) n (.br 13 ps))):=X.SG.whole HAT.out HNE.out hn522 HTE.out (fun e=>by rw [hex0 e];unfold X.bracket;rw [if_pos (show ([X.lf ta,X.lf tb]:List X.Part).length=2 from rfl)])
 have HC:Hid (∀ W (hg:∃ lv,IsPg W Q R ls lv) (v:Value) (hp:IsPt W D i v (.br 13 ps)),Calls Tryz.prog 120 #[.pointer (some ⟨Q,0,none⟩),.int .i64 i,v,.int .i64 n] W fun e w'=>e=.returned (.tuple #[])∧Hid (∃ ls',X.SG L i (X.nt (.br 13 ps)).length ls' (X.ex (f'+1) n (.br 13 ps))∧PgTo W Q R (ls++ls') w')):=fun W hg v hp=>by
  refine (gbracket_none (X.lf ta) (X.lf tb) (.br 13 ps) HTB.out i n i W Q R D v ls hg hp (by omega)).mono ?_
  rintro e w' ⟨rfl,H⟩
  have e1:i+(X.nt (.br 13 ps)).length=te:=by rw [HTE.out]
  have h:=H.out
  rw [e1] at h
  exact ⟨rfl,_,HEND.out,h⟩
 clear hex0 hib hnb hteb HW HTB HFLS
 go_wp2_with fail
 refine ((HC.out) w2 HG2.out _ HPB.out).mono ?_
 rintro e w3 ⟨rfl,H3⟩
 have HF:Hid (∃ ls',X.SG L i (X.nt (.br 13 ps)).length ls' (X.ex (f'+1) n (.br 13 ps))∧PgTo w Q R (ls++ls') w3):=by
  obtain ⟨ls',h1,h2⟩:=H3.out
  exact ⟨_,h1,PgTo.from HK2.out h2⟩
 clear H3
 go_wp2_with fail
 go_end0
 exact ⟨rfl,HF⟩
set_option maxRecDepth 100000 in
set_option maxHeartbeats 8000000 in
theorem gexpr_list (L:List X.Lf) (hL:L.length≤268435456) (hF:(X.flt L).length≤8589934592) (ps:List X.Part) (ta:X.Tok) (l:List X.Part) (c:List UInt8) (hb:X.pts ps=X.lf ta::l) (hta:ta.2=[91]) (hsa:X.ShA c l) (ih:∀ q∈l,X.Sh q→XC L q) (hsh:X.Sh (.br 13 ps)):XC L (.br 13 ps):=by
 intro f n i w Q R rm D v ls hr hg h hA hf hd hl
 have hne:X.nt (.br 13 ps)≠[]:=hsh.ne
 have hfl:=X.fl_len false (.br 13 ps)
 have hMne:X.fl false (.br 13 ps)≠[]:=fun e=>hne (List.length_eq_zero_iff.1 (by rw [← hfl,e];rfl))
 have hle:=hA.le
 rw [hfl] at hle
 obtain ⟨ao,cap,hv,hc1,hc2,-⟩:=h.kid
 have HPT:=hide h
 subst hv
 have hkk:X.kindOf (.br 13 ps)=13:=rfl
 rw [hkk] at HPT ⊢
 have HW:Hid (n+X.chars (X.flat [.br 13 ps])+1≤80→∀ e,X.ex f n (.br 13 ps) e=X.line n (X.flat [.br 13 ps]++e)):=fun h e=>X.ex_fit h
 have hfe:X.flat [.br 13 ps]=X.flt (X.fl false (.br 13 ps)):=X.flat_one _
 obtain ⟨te,hteq⟩:∃ te,te=i+(X.nt (.br 13 ps)).length:=⟨_,rfl⟩
 rw [← hteq] at HPT ⊢
 obtain ⟨nn,hnn⟩:∃ nn,nn=(X.tks (X.kidsOf (.br 13 ps))).length:=⟨_,rfl⟩
 rw [← hnn] at HPT ⊢
 have k1:Below w.heap.size w (w.alloc (.cells #[.int .i64 13,.int .i64 i,.int .i64 te,.slice ao nn cap] 95)):=(Below.refl _ w).alloc (Nat.le_refl _) _
 have HFIT:=hide (fun W (hI:IsRow W R rm L)=>afits_any L (X.fl false (.br 13 ps)) i te R rm W 13 ao nn cap (80 - (n:Int) - 1) hI hA hMne (by rw [hfl];exact hteq) hL hF (by omega) (by omega))
 have hbx:(w.alloc (.cells #[.int .i64 13,.int .i64 i,.int .i64 te,.slice ao nn cap] 95)).heap[w.heap.size]?=some (.cells #[.int .i64 13,.int .i64 i,.int .i64 te,.slice ao nn cap] 95 (0,0)):=heap_alloc_new w _
 have hn522:n≤522:=by omega
 have HROW:=hide (hr.below k1)
 have HG:=hide hg
 have HK1:=hide k1
 have HBX:=hide hbx
 have HAT:=hide hA
 have HTE:=hide hteq
 have HNN:=hide hnn
 have HFE:=hide hfe
 obtain ⟨lv0,hlv0⟩:=hg
 have q0:=cell_of_row _ _ 0 _ _ _ (hlv0.below k1).blk
 have hQl:Q<w.heap.size:=heap_lt hlv0.blk
 have p0:=cell_of_row _ _ 0 _ _ _ hbx
 have p1:=cell_of_row _ _ 1 _ _ _ hbx
 have p2:=cell_of_row _ _ 2 _ _ _ hbx
 have p3:=cell_of_row _ _ 3 _ _ _ hbx
 have HNE:=hide hne
 have hwr1:IntKind.i64.wrap (80 - (n:Int))=80 - (n:Int):=by rw [IntKind.wrap_i64];omega
 have hwr2:IntKind.i64.wrap (80 - (n:Int) - 1)=80 - (n:Int) - 1:=by rw [IntKind.wrap_i64];omega
 clear hr h hA k1 hbx hlv0 hteq hnn hfe hMne hne hkk hc1 hc2
 have hlta:X.lou ta=true:=X.mem_pts hb (by simp)
 have hlou:∀ t:X.Tok,X.lf t∈l→X.lou t=true:=fun t ht=>X.mem_pts hb (List.mem_cons_of_mem _ ht)
 have htb:X.tks (X.kidsOf (.br 13 ps))=X.lf ta::l:=by
  rw [show X.kidsOf (.br 13 ps)=ps from rfl,X.tks_pts,hb]
  refine X.tks_all (fun x hx=>?_)
  rcases List.mem_cons.1 hx with rfl|hx
  ·exact X.nt_lf_ne hlta
  ·exact X.ShA_ne _ (Nat.le_refl _) hsa hlou x hx
 have hflsM:X.fl false (.br 13 ps)=X.fls false (X.lf ta::l):=by
  rw [X.fl_br,X.fls_pts,hb];rfl
 have HFLS:=hide hflsM
 have HTB:=hide htb
 clear hflsM htb
 go_enter Tryz.func90,Tryz.ntmps90
 go_wp2_with fail
 generalize w.alloc (.cells #[.int .i64 13,.int .i64 i,.int .i64 te,.slice ao nn cap] 95)=W at *
 refine wp_region_noPanic ?_
 refine wpTo_start (S:=fun w'=>w'.cell? ⟨Q,0,none⟩=some (.pointer (some ⟨R,0,none⟩))∧w'.cell? ⟨w.heap.size,0,none⟩=some (.int .i64 13)∧w'.cell? ⟨w.heap.size,1,none⟩=some (.int .i64 i)∧w'.cell? ⟨w.heap.size,2,none⟩=some (.int .i64 te)∧w'.cell? ⟨w.heap.size,3,none⟩=some (.slice ao nn cap)) (z:=9) (by kernel_rfl) ?_
 have hS:W.drew.cell? ⟨Q,0,none⟩=some (.pointer (some ⟨R,0,none⟩))∧W.drew.cell? ⟨w.heap.size,0,none⟩=some (.int .i64 13)∧W.drew.cell? ⟨w.heap.size,1,none⟩=some (.int .i64 i)∧W.drew.cell? ⟨w.heap.size,2,none⟩=some (.int .i64 te)∧W.drew.cell? ⟨w.heap.size,3,none⟩=some (.slice ao nn cap):=⟨q0,p0,p1,p2,p3⟩
 iterate 8 (refine wpTo_nx (v:=?_) rfl rfl (by kernel_rfl) (by decide) (by kernel_rfl) (by kernel_rfl) (fun _ _ _ h=>h) (Or.inl ⟨by rfl,?_⟩) hS ?_;rotate_left;(· (intro wx hSw;(try dsimp only at hSw);go_simp;try (with_reducible rfl)));simp only [Act.put,List.setIfInBounds_toArray,List.set_cons_zero,List.set_cons_succ])
 refine wpTo_one (i:=8) (by kernel_rfl) rfl (fun K hK=>?_)
 go_simp
 refine ((HFIT.out) _ ((HROW.out).below ((Below.refl _ W).drew))).mono ?_
 rintro e w2 ⟨rfl,B2⟩
 have b2:Below W.heap.size W w2:=((Below.refl _ W).drew).trans B2
 have c2:=Kp.ofBelow b2 (fun _=>False)
 replace q0:=c2.cellv q0 id
 replace p0:=c2.cellv p0 id
 replace p1:=c2.cellv p1 id
 replace p2:=c2.cellv p2 id
 replace p3:=c2.cellv p3 id
 go_simp
 refine hK.out _ _ (fun _=>⟨q0,p0,p1,p2,p3⟩) (fun _=>wpTo_end (by kernel_rfl) ?_)
 clear hK K hS c2
 refine NoPanic.normal ?_
 have HK2:Hid (Below w.heap.size w w2):=(HK1.out).trans (b2.mono (HK1.out).size)
 have HR2:=hide ((HROW.out).below b2)
 have HG2:Hid (∃ lv,IsPg w2 Q R ls lv):=by
  obtain ⟨lv,hlv⟩:=HG.out
  exact ⟨lv,hlv.below HK2.out⟩
 have HPT2:=hide ((HPT.out).kept (Kp.ofBelow HK2.out (fun _=>False)) (fun _ h=>h.elim))
 have HBX2:=hide ((Kp.ofBelow b2 (fun _=>False)).heap HBX.out id)
 clear b2 B2 HROW HG HK1 HBX HPT HFIT
 rw [← HFE.out]
 by_cases hW:n+X.chars (X.flat [.br 13 ps])+1≤80
 ·have c0:decide ((X.chars (X.flat [.br 13 ps]):Int)≤80 - (n:Int) - 1)=true:=decide_eq_true (by omega)
  rw [c0]
  go_wp2_with fail
  refine (gadd_any n i te Q R ls w2 HG2.out (by omega)).mono ?_
  rintro e w3 ⟨rfl,H3⟩
  have HF:Hid (∃ ls',X.SG L i (X.nt (.br 13 ps)).length ls' (X.ex f n (.br 13 ps))∧PgTo w Q R (ls++ls') w3):=⟨_,X.SG.whole HAT.out HNE.out hn522 HTE.out ((HW.out) hW),PgTo.from HK2.out H3.out⟩
  clear H3
  go_wp2_with fail
  try simp only [Exit.inBlock,Exit.then]
  refine bodyPost_ret (v:=.tuple #[]) (by simp [results,Tryz.results90,go_sem]) rfl ?_
  exact ⟨rfl,HF⟩
 have c0:decide ((X.chars (X.flat [.br 13 ps]):Int)≤80 - (n:Int) - 1)=false:=decide_eq_false (by omega)
 rw [c0]
 obtain ⟨f',rfl⟩:∃ f',f=f'+1:=⟨f - 1,by have:=List.length_pos_iff.2 HNE.out;omega⟩
 have hex0:∀ e,X.ex (f'+1) n (.br 13 ps) e=X.bracket (X.ex f' (n+2)) n (X.line n (X.flat [.br 13 ps]++e)) ([91]) (X.lf ta::l) e:=fun e=>by
  conv=>lhs;unfold X.ex
  rw [if_neg hW,show X.kindOf (.br 13 ps)=13 from rfl,if_neg (by decide),if_neg (by decide),if_neg (by decide),if_neg (by decide),if_neg (by decide),if_pos rfl,show X.kidsOf (.br 13 ps)=ps from rfl,hb]
  try rfl
 obtain ⟨ib,hib⟩:∃ ib,ib=i:=⟨_,rfl⟩
 have HIB:=hide hib
 have HPB:=HPT2
 have hnb:(X.nt (.br 13 ps)).length=(X.nts' (X.lf ta::l)).length:=by rw [X.nt_br,hb]
 have hteb:ib+(X.nt (.br 13 ps)).length=te:=by rw [HTE.out,hib]
 obtain ⟨tz,hz1,hz2⟩:=X.ShA_end _ (Nat.le_refl _) hsa
 have hlz:X.lou tz=true:=hlou tz (List.mem_of_getElem? hz1)
 have hl2:=hsa.two
 have hex:∀ e,X.ex (f'+1) n (.br 13 ps) e=X.line n ([91])++(X.many (X.ex f' (n+2)) l++X.line n (tz.2++e)):=fun e=>by
  rw [hex0 e]
  unfold X.bracket
  rw [if_neg (by simp;omega),show (X.lf ta::l).drop 1=l from rfl]
  have e1:(X.lf ta::l).getD ((X.lf ta::l).length - 1) X.nil1=X.lf tz:=by
   have:(X.lf ta::l).length - 1=(l.length - 1)+1:=by simp;omega
   rw [this,List.getD_eq_getElem?_getD,List.getElem?_cons_succ,hz1];rfl
  rw [e1];rfl
 have hn1:(X.nts' (X.lf ta::l)).length=1+(X.nts' l).length:=by rw [X.nts_cons,X.nt_lf,if_pos hlta,List.length_append];rfl
 have hdB:∀ q∈l,n+2+X.dp q≤522:=fun q hq=>by
  have h1:=X.dp_pts (k:=13) (by decide) hb (p:=q) (List.mem_cons_of_mem _ hq)
  rw [if_pos (by decide)] at h1
  omega
 have hfB:∀ q∈l,(X.nt q).length≤f':=fun q hq=>by
  have h1:=X.nts_mem hq
  have h2:=HTE.out
  omega
 have HA2:=hide HAT.out
 rw [HFLS.out] at HA2
 have hfa:X.fls false (X.lf ta::l)=[(ta,false)]++X.fls false l:=by rw [X.fls,X.fl_lf hlta]<;>rfl
 have hA3:X.Ats L i (X.fls false (X.lf ta::l)):=HA2.out
 have hA4:X.Ats L i [(ta,false)]:=by
  have h:=HA2.out
  rw [hfa] at h
  exact h.left
 have hA5:X.Ats L (i+1) (X.fls false l):=by
  have h:=HA2.out
  rw [hfa] at h
  exact h.right
 have hflt:X.flt [(ta,false)]=[91]:=hta
 have hRG:=X.RG.first (n:=n) (j:=i+1) hA4 (by simp) hn522 rfl
 rw [hflt] at hRG
 have hk0:i+([(ta,false)]:List X.Lf).length=i+1:=rfl
 have hnp:(X.nt (.br 13 ps)).length=([(ta,false)]:List X.Lf).length+(X.nts' l).length:=by rw [hnb,hn1];rfl
 have HC:Hid (∀ W (hr:IsRow W R rm L) (hg:∃ lv,IsPg W Q R ls lv) (v:Value) (hp:IsPt W D i v (.br 13 ps)),Calls Tryz.prog 120 #[.pointer (some ⟨Q,0,none⟩),.int .i64 i,v,.int .i64 n] W fun e w'=>e=.returned (.tuple #[])∧Hid (∃ ls',X.SG L i (X.nt (.br 13 ps)).length ls' (X.ex (f'+1) n (.br 13 ps))∧PgTo W Q R (ls++ls') w')):=fun W hr hg v hp=>by
  refine (gbracket_some L hL (.br 13 ps) ta l c HTB.out hlta hsa hlou false f' i n i ih hdB hfB hA3 W Q R rm D v ls hr hg hp (by omega)).mono ?_
  rintro e w' ⟨rfl,H⟩
  obtain ⟨lm,h1,h2⟩:=H.out
  refine ⟨rfl,_,?_,h2⟩
  exact (X.SG.bracket hRG hk0 h1 hz1 hlz hA5 hn522 (by rw [hnb,hn1];omega)).of hnp.symm rfl (fun e=>(hex e).symm)
 clear hex hn1 hdB hfB HA2 hA3 hA4 hA5 hfa hflt hRG hk0 hnp hz1 hz2 hlz
 clear hex0 hib hnb hteb HW HTB HFLS
 go_wp2_with fail
 refine ((HC.out) w2 HR2.out HG2.out _ HPB.out).mono ?_
 rintro e w3 ⟨rfl,H3⟩
 have HF:Hid (∃ ls',X.SG L i (X.nt (.br 13 ps)).length ls' (X.ex (f'+1) n (.br 13 ps))∧PgTo w Q R (ls++ls') w3):=by
  obtain ⟨ls',h1,h2⟩:=H3.out
  exact ⟨_,h1,PgTo.from HK2.out h2⟩
 clear H3
 go_wp2_with fail
 go_end0
 exact ⟨rfl,HF⟩
set_option maxRecDepth 100000 in
set_option maxHeartbeats 8000000 in
theorem gexpr_group (L:List X.Lf) (hL:L.length≤268435456) (hF:(X.flt L).length≤8589934592) (ps:List X.Part) (ta:X.Tok) (l:List X.Part) (c:List UInt8) (hb:X.pts ps=X.lf ta::l) (hta:ta.2=[40]) (hsa:X.ShA c l) (ih:∀ q∈l,X.Sh q→XC L q) (hsh:X.Sh (.br 14 ps)):XC L (.br 14 ps):=by
 intro f n i w Q R rm D v ls hr hg h hA hf hd hl
 have hne:X.nt (.br 14 ps)≠[]:=hsh.ne
 have hfl:=X.fl_len false (.br 14 ps)
 have hMne:X.fl false (.br 14 ps)≠[]:=fun e=>hne (List.length_eq_zero_iff.1 (by rw [← hfl,e];rfl))
 have hle:=hA.le
 rw [hfl] at hle
 obtain ⟨ao,cap,hv,hc1,hc2,-⟩:=h.kid
 have HPT:=hide h
 subst hv
 have hkk:X.kindOf (.br 14 ps)=14:=rfl
 rw [hkk] at HPT ⊢
 have HW:Hid (n+X.chars (X.flat [.br 14 ps])+1≤80→∀ e,X.ex f n (.br 14 ps) e=X.line n (X.flat [.br 14 ps]++e)):=fun h e=>X.ex_fit h
 have hfe:X.flat [.br 14 ps]=X.flt (X.fl false (.br 14 ps)):=X.flat_one _
 obtain ⟨te,hteq⟩:∃ te,te=i+(X.nt (.br 14 ps)).length:=⟨_,rfl⟩
 rw [← hteq] at HPT ⊢
 obtain ⟨nn,hnn⟩:∃ nn,nn=(X.tks (X.kidsOf (.br 14 ps))).length:=⟨_,rfl⟩
 rw [← hnn] at HPT ⊢
 have k1:Below w.heap.size w (w.alloc (.cells #[.int .i64 14,.int .i64 i,.int .i64 te,.slice ao nn cap] 95)):=(Below.refl _ w).alloc (Nat.le_refl _) _
 have HFIT:=hide (fun W (hI:IsRow W R rm L)=>afits_any L (X.fl false (.br 14 ps)) i te R rm W 14 ao nn cap (80 - (n:Int) - 1) hI hA hMne (by rw [hfl];exact hteq) hL hF (by omega) (by omega))
 have hbx:(w.alloc (.cells #[.int .i64 14,.int .i64 i,.int .i64 te,.slice ao nn cap] 95)).heap[w.heap.size]?=some (.cells #[.int .i64 14,.int .i64 i,.int .i64 te,.slice ao nn cap] 95 (0,0)):=heap_alloc_new w _
 have hn522:n≤522:=by omega
 have HROW:=hide (hr.below k1)
 have HG:=hide hg
 have HK1:=hide k1
 have HBX:=hide hbx
 have HAT:=hide hA
 have HTE:=hide hteq
 have HNN:=hide hnn
 have HFE:=hide hfe
 obtain ⟨lv0,hlv0⟩:=hg
 have q0:=cell_of_row _ _ 0 _ _ _ (hlv0.below k1).blk
 have hQl:Q<w.heap.size:=heap_lt hlv0.blk
 have p0:=cell_of_row _ _ 0 _ _ _ hbx
 have p1:=cell_of_row _ _ 1 _ _ _ hbx
 have p2:=cell_of_row _ _ 2 _ _ _ hbx
 have p3:=cell_of_row _ _ 3 _ _ _ hbx
 have HNE:=hide hne
 have hwr1:IntKind.i64.wrap (80 - (n:Int))=80 - (n:Int):=by rw [IntKind.wrap_i64];omega
 have hwr2:IntKind.i64.wrap (80 - (n:Int) - 1)=80 - (n:Int) - 1:=by rw [IntKind.wrap_i64];omega
 clear hr h hA k1 hbx hlv0 hteq hnn hfe hMne hne hkk hc1 hc2
 have hlta:X.lou ta=true:=X.mem_pts hb (by simp)
 have hlou:∀ t:X.Tok,X.lf t∈l→X.lou t=true:=fun t ht=>X.mem_pts hb (List.mem_cons_of_mem _ ht)
 have htb:X.tks (X.kidsOf (.br 14 ps))=X.lf ta::l:=by
  rw [show X.kidsOf (.br 14 ps)=ps from rfl,X.tks_pts,hb]
  refine X.tks_all (fun x hx=>?_)
  rcases List.mem_cons.1 hx with rfl|hx
  ·exact X.nt_lf_ne hlta
  ·exact X.ShA_ne _ (Nat.le_refl _) hsa hlou x hx
 have hflsM:X.fl false (.br 14 ps)=X.fls true (X.lf ta::l):=by
  rw [X.fl_br,X.fls_pts,hb];rfl
 have HFLS:=hide hflsM
 have HTB:=hide htb
 clear hflsM htb
 go_enter Tryz.func90,Tryz.ntmps90
 go_wp2_with fail
 generalize w.alloc (.cells #[.int .i64 14,.int .i64 i,.int .i64 te,.slice ao nn cap] 95)=W at *
 refine wp_region_noPanic ?_
 refine wpTo_start (S:=fun w'=>w'.cell? ⟨Q,0,none⟩=some (.pointer (some ⟨R,0,none⟩))∧w'.cell? ⟨w.heap.size,0,none⟩=some (.int .i64 14)∧w'.cell? ⟨w.heap.size,1,none⟩=some (.int .i64 i)∧w'.cell? ⟨w.heap.size,2,none⟩=some (.int .i64 te)∧w'.cell? ⟨w.heap.size,3,none⟩=some (.slice ao nn cap)) (z:=9) (by kernel_rfl) ?_
 have hS:W.drew.cell? ⟨Q,0,none⟩=some (.pointer (some ⟨R,0,none⟩))∧W.drew.cell? ⟨w.heap.size,0,none⟩=some (.int .i64 14)∧W.drew.cell? ⟨w.heap.size,1,none⟩=some (.int .i64 i)∧W.drew.cell? ⟨w.heap.size,2,none⟩=some (.int .i64 te)∧W.drew.cell? ⟨w.heap.size,3,none⟩=some (.slice ao nn cap):=⟨q0,p0,p1,p2,p3⟩
 iterate 8 (refine wpTo_nx (v:=?_) rfl rfl (by kernel_rfl) (by decide) (by kernel_rfl) (by kernel_rfl) (fun _ _ _ h=>h) (Or.inl ⟨by rfl,?_⟩) hS ?_;rotate_left;(· (intro wx hSw;(try dsimp only at hSw);go_simp;try (with_reducible rfl)));simp only [Act.put,List.setIfInBounds_toArray,List.set_cons_zero,List.set_cons_succ])
 refine wpTo_one (i:=8) (by kernel_rfl) rfl (fun K hK=>?_)
 go_simp
 refine ((HFIT.out) _ ((HROW.out).below ((Below.refl _ W).drew))).mono ?_
 rintro e w2 ⟨rfl,B2⟩
 have b2:Below W.heap.size W w2:=((Below.refl _ W).drew).trans B2
 have c2:=Kp.ofBelow b2 (fun _=>False)
 replace q0:=c2.cellv q0 id
 replace p0:=c2.cellv p0 id
 replace p1:=c2.cellv p1 id
 replace p2:=c2.cellv p2 id
 replace p3:=c2.cellv p3 id
 go_simp
 refine hK.out _ _ (fun _=>⟨q0,p0,p1,p2,p3⟩) (fun _=>wpTo_end (by kernel_rfl) ?_)
 clear hK K hS c2
 refine NoPanic.normal ?_
 have HK2:Hid (Below w.heap.size w w2):=(HK1.out).trans (b2.mono (HK1.out).size)
 have HR2:=hide ((HROW.out).below b2)
 have HG2:Hid (∃ lv,IsPg w2 Q R ls lv):=by
  obtain ⟨lv,hlv⟩:=HG.out
  exact ⟨lv,hlv.below HK2.out⟩
 have HPT2:=hide ((HPT.out).kept (Kp.ofBelow HK2.out (fun _=>False)) (fun _ h=>h.elim))
 have HBX2:=hide ((Kp.ofBelow b2 (fun _=>False)).heap HBX.out id)
 clear b2 B2 HROW HG HK1 HBX HPT HFIT
 rw [← HFE.out]
 by_cases hW:n+X.chars (X.flat [.br 14 ps])+1≤80
 ·have c0:decide ((X.chars (X.flat [.br 14 ps]):Int)≤80 - (n:Int) - 1)=true:=decide_eq_true (by omega)
  rw [c0]
  go_wp2_with fail
  refine (gadd_any n i te Q R ls w2 HG2.out (by omega)).mono ?_
  rintro e w3 ⟨rfl,H3⟩
  have HF:Hid (∃ ls',X.SG L i (X.nt (.br 14 ps)).length ls' (X.ex f n (.br 14 ps))∧PgTo w Q R (ls++ls') w3):=⟨_,X.SG.whole HAT.out HNE.out hn522 HTE.out ((HW.out) hW),PgTo.from HK2.out H3.out⟩
  clear H3
  go_wp2_with fail
  try simp only [Exit.inBlock,Exit.then]
  refine bodyPost_ret (v:=.tuple #[]) (by simp [results,Tryz.results90,go_sem]) rfl ?_
  exact ⟨rfl,HF⟩
 have c0:decide ((X.chars (X.flat [.br 14 ps]):Int)≤80 - (n:Int) - 1)=false:=decide_eq_false (by omega)
 rw [c0]
 obtain ⟨f',rfl⟩:∃ f',f=f'+1:=⟨f - 1,by have:=List.length_pos_iff.2 HNE.out;omega⟩
 have hex0:∀ e,X.ex (f'+1) n (.br 14 ps) e=X.bracket (X.ex f' (n+2)) n (X.line n (X.flat [.br 14 ps]++e)) ([40]) (X.lf ta::l) e:=fun e=>by
  conv=>lhs;unfold X.ex
  rw [if_neg hW,show X.kindOf (.br 14 ps)=14 from rfl,if_neg (by decide),if_neg (by decide),if_neg (by decide),if_neg (by decide),if_neg (by decide),if_neg (by decide),if_pos rfl,show X.kidsOf (.br 14 ps)=ps from rfl,hb]
  try rfl
 obtain ⟨ib,hib⟩:∃ ib,ib=i:=⟨_,rfl⟩
 have HIB:=hide hib
 have HPB:=HPT2
 have hnb:(X.nt (.br 14 ps)).length=(X.nts' (X.lf ta::l)).length:=by rw [X.nt_br,hb]
 have hteb:ib+(X.nt (.br 14 ps)).length=te:=by rw [HTE.out,hib]
 obtain ⟨tz,hz1,hz2⟩:=X.ShA_end _ (Nat.le_refl _) hsa
 have hlz:X.lou tz=true:=hlou tz (List.mem_of_getElem? hz1)
 have hl2:=hsa.two
 have hex:∀ e,X.ex (f'+1) n (.br 14 ps) e=X.line n ([40])++(X.many (X.ex f' (n+2)) l++X.line n (tz.2++e)):=fun e=>by
  rw [hex0 e]
  unfold X.bracket
  rw [if_neg (by simp;omega),show (X.lf ta::l).drop 1=l from rfl]
  have e1:(X.lf ta::l).getD ((X.lf ta::l).length - 1) X.nil1=X.lf tz:=by
   have:(X.lf ta::l).length - 1=(l.length - 1)+1:=by simp;omega
   rw [this,List.getD_eq_getElem?_getD,List.getElem?_cons_succ,hz1];rfl
  rw [e1];rfl
 have hn1:(X.nts' (X.lf ta::l)).length=1+(X.nts' l).length:=by rw [X.nts_cons,X.nt_lf,if_pos hlta,List.length_append];rfl
 have hdB:∀ q∈l,n+2+X.dp q≤522:=fun q hq=>by
  have h1:=X.dp_pts (k:=14) (by decide) hb (p:=q) (List.mem_cons_of_mem _ hq)
  rw [if_pos (by decide)] at h1
  omega
 have hfB:∀ q∈l,(X.nt q).length≤f':=fun q hq=>by
  have h1:=X.nts_mem hq
  have h2:=HTE.out
  omega
 have HA2:=hide HAT.out
 rw [HFLS.out] at HA2
 have hfa:X.fls true (X.lf ta::l)=[(ta,true&&ta.2==[40])]++X.fls true l:=by rw [X.fls,X.fl_lf hlta]<;>rfl
 have hA3:X.Ats L i (X.fls true (X.lf ta::l)):=HA2.out
 have hA4:X.Ats L i [(ta,true&&ta.2==[40])]:=by
  have h:=HA2.out
  rw [hfa] at h
  exact h.left
 have hA5:X.Ats L (i+1) (X.fls true l):=by
  have h:=HA2.out
  rw [hfa] at h
  exact h.right
 have hflt:X.flt [(ta,true&&ta.2==[40])]=[40]:=hta
 have hRG:=X.RG.first (n:=n) (j:=i+1) hA4 (by simp) hn522 rfl
 rw [hflt] at hRG
 have hk0:i+([(ta,true&&ta.2==[40])]:List X.Lf).length=i+1:=rfl
 have hnp:(X.nt (.br 14 ps)).length=([(ta,true&&ta.2==[40])]:List X.Lf).length+(X.nts' l).length:=by rw [hnb,hn1];rfl
 have HC:Hid (∀ W (hr:IsRow W R rm L) (hg:∃ lv,IsPg W Q R ls lv) (v:Value) (hp:IsPt W D i v (.br 14 ps)),Calls Tryz.prog 120 #[.pointer (some ⟨Q,0,none⟩),.int .i64 i,v,.int .i64 n] W fun e w'=>e=.returned (.tuple #[])∧Hid (∃ ls',X.SG L i (X.nt (.br 14 ps)).length ls' (X.ex (f'+1) n (.br 14 ps))∧PgTo W Q R (ls++ls') w')):=fun W hr hg v hp=>by
  refine (gbracket_some L hL (.br 14 ps) ta l c HTB.out hlta hsa hlou true f' i n i ih hdB hfB hA3 W Q R rm D v ls hr hg hp (by omega)).mono ?_
  rintro e w' ⟨rfl,H⟩
  obtain ⟨lm,h1,h2⟩:=H.out
  refine ⟨rfl,_,?_,h2⟩
  exact (X.SG.bracket hRG hk0 h1 hz1 hlz hA5 hn522 (by rw [hnb,hn1];omega)).of hnp.symm rfl (fun e=>(hex e).symm)
 clear hex hn1 hdB hfB HA2 hA3 hA4 hA5 hfa hflt hRG hk0 hnp hz1 hz2 hlz
 clear hex0 hib hnb hteb HW HTB HFLS
 go_wp2_with fail
 refine ((HC.out) w2 HR2.out HG2.out _ HPB.out).mono ?_
 rintro e w3 ⟨rfl,H3⟩
 have HF:Hid (∃ ls',X.SG L i (X.nt (.br 14 ps)).length ls' (X.ex (f'+1) n (.br 14 ps))∧PgTo w Q R (ls++ls') w3):=by
  obtain ⟨ls',h1,h2⟩:=H3.out
  exact ⟨_,h1,PgTo.from HK2.out h2⟩
 clear H3
 go_wp2_with fail
 go_end0
 exact ⟨rfl,HF⟩
end Go.Proofs.YtgpcpbmacdhlkaaGreatDoor
/- Package lay: expression: calls. -/
namespace Go.Proofs.YtgpcpbmacdhlkaaGreatDoor
open Go.RowKit
open M
theorem FK.cellt {P:TypeId→Prop} {R:Nat} {w w':World} (h:FK P R w w') {b o:Nat} {c:Array Value} {t:TypeId} {fz:Nat × Nat} {v:Value} (hb:w.heap[b]?=some (.cells c t fz)) (hn:¬ P t) (hc:w.cell? ⟨b,o,none⟩=some v):w'.cell? ⟨b,o,none⟩=some v :=
 Kp.cellv h hc (fun ⟨_,c2,t2,fz2,e,ht⟩=>hn (by rw [cells_ty hb e];exact ht))
set_option maxRecDepth 100000 in
set_option maxHeartbeats 8000000 in
theorem gexpr_call0 (L:List X.Lf) (hL:L.length≤268435456) (hF:(X.flt L).length≤8589934592) (ps:List X.Part) (pc:X.Part) (qs:List X.Part) (hsp:X.pts ps=[pc,.br 12 qs]) (hpc:X.Sh pc) (ta tb:X.Tok) (hb:X.pts qs=[X.lf ta,X.lf tb])  (hsh:X.Sh (.br 11 ps)):XC L (.br 11 ps):=by
 intro f n i w Q R rm D v ls hr hg h hA hf hd hl
 have hne:X.nt (.br 11 ps)≠[]:=hsh.ne
 have hfl:=X.fl_len false (.br 11 ps)
 have hMne:X.fl false (.br 11 ps)≠[]:=fun e=>hne (List.length_eq_zero_iff.1 (by rw [← hfl,e];rfl))
 have hle:=hA.le
 rw [hfl] at hle
 obtain ⟨ao,cap,hv,hc1,hc2,-⟩:=h.kid
 have HPT:=hide h
 subst hv
 have hkk:X.kindOf (.br 11 ps)=11:=rfl
 rw [hkk] at HPT ⊢
 have HW:Hid (n+X.chars (X.flat [.br 11 ps])+1≤80→∀ e,X.ex f n (.br 11 ps) e=X.line n (X.flat [.br 11 ps]++e)):=fun h e=>X.ex_fit h
 have hfe:X.flat [.br 11 ps]=X.flt (X.fl false (.br 11 ps)):=X.flat_one _
 obtain ⟨te,hteq⟩:∃ te,te=i+(X.nt (.br 11 ps)).length:=⟨_,rfl⟩
 rw [← hteq] at HPT ⊢
 obtain ⟨nn,hnn⟩:∃ nn,nn=(X.tks (X.kidsOf (.br 11 ps))).length:=⟨_,rfl⟩
 rw [← hnn] at HPT ⊢
 have k1:Below w.heap.size w (w.alloc (.cells #[.int .i64 11,.int .i64 i,.int .i64 te,.slice ao nn cap] 95)):=(Below.refl _ w).alloc (Nat.le_refl _) _
 have HFIT:=hide (fun W (hI:IsRow W R rm L)=>afits_any L (X.fl false (.br 11 ps)) i te R rm W 11 ao nn cap (80 - (n:Int) - 1) hI hA hMne (by rw [hfl];exact hteq) hL hF (by omega) (by omega))
 have hbx:(w.alloc (.cells #[.int .i64 11,.int .i64 i,.int .i64 te,.slice ao nn cap] 95)).heap[w.heap.size]?=some (.cells #[.int .i64 11,.int .i64 i,.int .i64 te,.slice ao nn cap] 95 (0,0)):=heap_alloc_new w _
 have hn522:n≤522:=by omega
 have HROW:=hide (hr.below k1)
 have HG:=hide hg
 have HK1:=hide k1
 have HBX:=hide hbx
 have HAT:=hide hA
 have HTE:=hide hteq
 have HNN:=hide hnn
 have HFE:=hide hfe
 obtain ⟨lv0,hlv0⟩:=hg
 have q0:=cell_of_row _ _ 0 _ _ _ (hlv0.below k1).blk
 have hQl:Q<w.heap.size:=heap_lt hlv0.blk
 have p0:=cell_of_row _ _ 0 _ _ _ hbx
 have p1:=cell_of_row _ _ 1 _ _ _ hbx
 have p2:=cell_of_row _ _ 2 _ _ _ hbx
 have p3:=cell_of_row _ _ 3 _ _ _ hbx
 have HNE:=hide hne
 have hwr1:IntKind.i64.wrap (80 - (n:Int))=80 - (n:Int):=by rw [IntKind.wrap_i64];omega
 have hwr2:IntKind.i64.wrap (80 - (n:Int) - 1)=80 - (n:Int) - 1:=by rw [IntKind.wrap_i64];omega
 clear hr h hA k1 hbx hlv0 hteq hnn hfe hMne hne hkk hc1 hc2
 have hlta:X.lou ta=true:=X.mem_pts hb (by simp)
 have hltb:X.lou tb=true:=X.mem_pts hb (by simp)
 have htb:X.tks (X.kidsOf (.br 12 qs))=[X.lf ta,X.lf tb]:=by
  rw [show X.kidsOf (.br 12 qs)=qs from rfl,X.tks_pts,hb]
  refine X.tks_all (fun x hx=>?_)
  simp only [List.mem_cons,List.not_mem_nil,or_false] at hx
  rcases hx with rfl|rfl
  ·exact X.nt_lf_ne hlta
  ·exact X.nt_lf_ne hltb
 have hqn:X.nt (.br 12 qs)≠[]:=by
  rw [X.nt_br,hb,X.nts_cons,X.nt_lf,if_pos hlta];simp
 have htk:X.tks (X.kidsOf (.br 11 ps))=[pc,.br 12 qs]:=by
  rw [show X.kidsOf (.br 11 ps)=ps from rfl,X.tks_pts,hsp]
  refine X.tks_all (fun x hx=>?_)
  simp only [List.mem_cons,List.not_mem_nil,or_false] at hx
  rcases hx with rfl|rfl
  ·exact hpc.ne
  ·exact hqn
 obtain ⟨g,d1,d2,d3,rfl,-⟩:=(HPT.out).kidv (j:=1) (q:=.br 12 qs) (by rw [htk];rfl)
 obtain rfl:nn=2:=by rw [HNN.out,htk];rfl
 have hflsM:X.fl false (.br 11 ps)=X.fl false pc++X.fls false ([X.lf ta,X.lf tb]):=by
  rw [X.fl_br,X.fls_pts,hsp,← X.fls_one false pc]
  have:X.fls false ([X.lf ta,X.lf tb])=X.fls false [.br 12 qs]:=by
   rw [X.fls_one,X.fl_br]
   show _=X.fls false qs
   rw [X.fls_pts false qs,hb]
  rw [this,← X.fls_append];rfl
 have HFLS:=hide hflsM
 have HTB:=hide htb
 clear hflsM htb
 have HTK:=hide htk
 clear htk hqn
 go_enter Tryz.func90,Tryz.ntmps90
 go_wp2_with fail
 generalize w.alloc (.cells #[.int .i64 11,.int .i64 i,.int .i64 te,.slice (some ⟨g,0,none⟩) 2 cap] 95)=W at *
 refine wp_region_noPanic ?_
 refine wpTo_start (S:=fun w'=>w'.cell? ⟨Q,0,none⟩=some (.pointer (some ⟨R,0,none⟩))∧w'.cell? ⟨w.heap.size,0,none⟩=some (.int .i64 11)∧w'.cell? ⟨w.heap.size,1,none⟩=some (.int .i64 i)∧w'.cell? ⟨w.heap.size,2,none⟩=some (.int .i64 te)∧w'.cell? ⟨w.heap.size,3,none⟩=some (.slice (some ⟨g,0,none⟩) 2 cap)) (z:=9) (by kernel_rfl) ?_
 have hS:W.drew.cell? ⟨Q,0,none⟩=some (.pointer (some ⟨R,0,none⟩))∧W.drew.cell? ⟨w.heap.size,0,none⟩=some (.int .i64 11)∧W.drew.cell? ⟨w.heap.size,1,none⟩=some (.int .i64 i)∧W.drew.cell? ⟨w.heap.size,2,none⟩=some (.int .i64 te)∧W.drew.cell? ⟨w.heap.size,3,none⟩=some (.slice (some ⟨g,0,none⟩) 2 cap):=⟨q0,p0,p1,p2,p3⟩
 iterate 8 (refine wpTo_nx (v:=?_) rfl rfl (by kernel_rfl) (by decide) (by kernel_rfl) (by kernel_rfl) (fun _ _ _ h=>h) (Or.inl ⟨by rfl,?_⟩) hS ?_;rotate_left;(· (intro wx hSw;(try dsimp only at hSw);go_simp;try (with_reducible rfl)));simp only [Act.put,List.setIfInBounds_toArray,List.set_cons_zero,List.set_cons_succ])
 refine wpTo_one (i:=8) (by kernel_rfl) rfl (fun K hK=>?_)
 go_simp
 refine ((HFIT.out) _ ((HROW.out).below ((Below.refl _ W).drew))).mono ?_
 rintro e w2 ⟨rfl,B2⟩
 have b2:Below W.heap.size W w2:=((Below.refl _ W).drew).trans B2
 have c2:=Kp.ofBelow b2 (fun _=>False)
 replace q0:=c2.cellv q0 id
 replace p0:=c2.cellv p0 id
 replace p1:=c2.cellv p1 id
 replace p2:=c2.cellv p2 id
 replace p3:=c2.cellv p3 id
 go_simp
 refine hK.out _ _ (fun _=>⟨q0,p0,p1,p2,p3⟩) (fun _=>wpTo_end (by kernel_rfl) ?_)
 clear hK K hS c2
 refine NoPanic.normal ?_
 have HK2:Hid (Below w.heap.size w w2):=(HK1.out).trans (b2.mono (HK1.out).size)
 have HR2:=hide ((HROW.out).below b2)
 have HG2:Hid (∃ lv,IsPg w2 Q R ls lv):=by
  obtain ⟨lv,hlv⟩:=HG.out
  exact ⟨lv,hlv.below HK2.out⟩
 have HPT2:=hide ((HPT.out).kept (Kp.ofBelow HK2.out (fun _=>False)) (fun _ h=>h.elim))
 have HBX2:=hide ((Kp.ofBelow b2 (fun _=>False)).heap HBX.out id)
 clear b2 B2 HROW HG HK1 HBX HPT HFIT
 rw [← HFE.out]
 by_cases hW:n+X.chars (X.flat [.br 11 ps])+1≤80
 ·have c0:decide ((X.chars (X.flat [.br 11 ps]):Int)≤80 - (n:Int) - 1)=true:=decide_eq_true (by omega)
  rw [c0]
  go_wp2_with fail
  refine (gadd_any n i te Q R ls w2 HG2.out (by omega)).mono ?_
  rintro e w3 ⟨rfl,H3⟩
  have HF:Hid (∃ ls',X.SG L i (X.nt (.br 11 ps)).length ls' (X.ex f n (.br 11 ps))∧PgTo w Q R (ls++ls') w3):=⟨_,X.SG.whole HAT.out HNE.out hn522 HTE.out ((HW.out) hW),PgTo.from HK2.out H3.out⟩
  clear H3
  go_wp2_with fail
  try simp only [Exit.inBlock,Exit.then]
  refine bodyPost_ret (v:=.tuple #[]) (by simp [results,Tryz.results90,go_sem]) rfl ?_
  exact ⟨rfl,HF⟩
 have c0:decide ((X.chars (X.flat [.br 11 ps]):Int)≤80 - (n:Int) - 1)=false:=decide_eq_false (by omega)
 rw [c0]
 obtain ⟨f',rfl⟩:∃ f',f=f'+1:=⟨f - 1,by have:=List.length_pos_iff.2 HNE.out;omega⟩
 have hex0:∀ e,X.ex (f'+1) n (.br 11 ps) e=X.bracket (X.ex f' (n+2)) n (X.line n (X.flat [.br 11 ps]++e)) (X.flat [pc]++[40]) ([X.lf ta,X.lf tb]) e:=fun e=>by
  conv=>lhs;unfold X.ex
  rw [if_neg hW,show X.kindOf (.br 11 ps)=11 from rfl,if_neg (by decide),if_neg (by decide),if_neg (by decide),if_neg (by decide),if_pos rfl,show X.kidsOf (.br 11 ps)=ps from rfl,hsp]
  show X.bracket _ n _ _ (X.pts qs) e=_;rw [hb];rfl
 obtain ⟨g1,d1,d2,d3,e1,⟨cur,hgb⟩,x0,x1,x2,x3,hPb⟩:=(HPT2.out).kidv (j:=1) (q:=.br 12 qs) (by rw [HTK.out];rfl)
 injection e1 with e1
 injection e1 with e1
 subst e1
 have efb:i+(X.nts' ((X.tks (X.kidsOf (.br 11 ps))).take 1)).length=i+(X.nt pc).length:=by rw [HTK.out,show ([pc,.br 12 qs]:List X.Part).take 1=[pc] from rfl,X.nts_one]
 rw [efb] at x1 x2 hPb
 obtain ⟨ib,hib⟩:∃ ib,ib=i+(X.nt pc).length:=⟨_,rfl⟩
 rw [← hib] at x1 x2 hPb
 have HIB:=hide hib
 have hnb:(X.nt (.br 12 qs)).length=(X.nts' ([X.lf ta,X.lf tb])).length:=by rw [X.nt_br,hb]
 have hteb:ib+(X.nt (.br 12 qs)).length=te:=by
  have h1:=HTE.out
  have h2:(X.nt (.br 11 ps)).length=(X.nt pc).length+(X.nt (.br 12 qs)).length:=by rw [X.nt_br,hsp,X.nts_cons,X.nts_one,List.length_append]
  rw [h1,h2,hib];omega
 rw [hteb] at x2 hPb
 have hgl:=heap_lt hgb
 have HPB:=hide hPb
 have HGB:=hide hgb
 clear hPb hgb efb
 have HEND:Hid (X.SG L i (X.nt (.br 11 ps)).length [(n,i,te)] (X.ex (f'+1) n (.br 11 ps))):=X.SG.whole HAT.out HNE.out hn522 HTE.out (fun e=>by rw [hex0 e];unfold X.bracket;rw [if_pos (show ([X.lf ta,X.lf tb]:List X.Part).length=2 from rfl)])
 have HC:Hid (∀ W (hg:∃ lv,IsPg W Q R ls lv) (v:Value) (hp:IsPt W D ib v (.br 12 qs)),Calls Tryz.prog 120 #[.pointer (some ⟨Q,0,none⟩),.int .i64 i,v,.int .i64 n] W fun e w'=>e=.returned (.tuple #[])∧Hid (∃ ls',X.SG L i (X.nt (.br 11 ps)).length ls' (X.ex (f'+1) n (.br 11 ps))∧PgTo W Q R (ls++ls') w')):=fun W hg v hp=>by
  refine (gbracket_none (X.lf ta) (X.lf tb) (.br 12 qs) HTB.out i n ib W Q R D v ls hg hp (by omega)).mono ?_
  rintro e w' ⟨rfl,H⟩
  have e1:ib+(X.nt (.br 12 qs)).length=te:=hteb
  have h:=H.out
  rw [e1] at h
  exact ⟨rfl,_,HEND.out,h⟩
 clear hex0 hib hnb hteb HW HTB HFLS
 go_wp2_with fail
 refine wp_region_noPanic ?_
 refine wpTo_start (S:=fun w'=>w'.cell? ⟨w.heap.size,1,none⟩=some (.int .i64 i)∧w'.cell? ⟨w.heap.size,3,none⟩=some (.slice (some ⟨g,0,none⟩) 2 cap)∧w'.cell? ⟨g,4,none⟩=some (.int .i64 12)∧w'.cell? ⟨g,5,none⟩=some (.int .i64 ib)∧w'.cell? ⟨g,6,none⟩=some (.int .i64 te)∧w'.cell? ⟨g,7,none⟩=some (.slice d1 d2 d3)) (z:=9) (by kernel_rfl) ?_
 have hS:w2.drew.cell? ⟨w.heap.size,1,none⟩=some (.int .i64 i)∧w2.drew.cell? ⟨w.heap.size,3,none⟩=some (.slice (some ⟨g,0,none⟩) 2 cap)∧w2.drew.cell? ⟨g,4,none⟩=some (.int .i64 12)∧w2.drew.cell? ⟨g,5,none⟩=some (.int .i64 ib)∧w2.drew.cell? ⟨g,6,none⟩=some (.int .i64 te)∧w2.drew.cell? ⟨g,7,none⟩=some (.slice d1 d2 d3):=⟨p1,p3,x0,x1,x2,x3⟩
 iterate 8 (refine wpTo_nx (v:=?_) rfl rfl (by kernel_rfl) (by decide) (by kernel_rfl) (by kernel_rfl) (fun _ _ _ h=>h) (Or.inl ⟨by rfl,?_⟩) hS ?_;rotate_left;(· (intro wx hSw;(try dsimp only at hSw);go_simp;try (with_reducible rfl)));simp only [Act.put,List.setIfInBounds_toArray,List.set_cons_zero,List.set_cons_succ])
 have kD:Below w2.heap.size w2 w2.drew:=(Below.refl _ w2).drew
 refine wpTo_one (i:=8) (by kernel_rfl) rfl (fun K hK=>?_)
 go_simp
 refine ((HC.out) w2.drew (by obtain ⟨lv,hlv⟩:=HG2.out;exact ⟨lv,hlv.below kD⟩) _ ((HPB.out).kept (Kp.ofBelow kD (fun _=>False)) (fun _ h=>h.elim))).mono ?_
 rintro e w3 ⟨rfl,H3⟩
 have k3:FK PT Q w2 w3:=by
  obtain ⟨ls',-,h2⟩:=H3.out
  exact (FK.below kD).trans h2.2
 have hS3:w3.cell? ⟨w.heap.size,1,none⟩=some (.int .i64 i)∧w3.cell? ⟨w.heap.size,3,none⟩=some (.slice (some ⟨g,0,none⟩) 2 cap)∧w3.cell? ⟨g,4,none⟩=some (.int .i64 12)∧w3.cell? ⟨g,5,none⟩=some (.int .i64 ib)∧w3.cell? ⟨g,6,none⟩=some (.int .i64 te)∧w3.cell? ⟨g,7,none⟩=some (.slice d1 d2 d3):=⟨k3.cellt HBX2.out PT.pt p1,k3.cellt HBX2.out PT.pt p3,k3.cellt HGB.out PT.pt x0,k3.cellt HGB.out PT.pt x1,k3.cellt HGB.out PT.pt x2,k3.cellt HGB.out PT.pt x3⟩
 go_simp
 refine hK.out _ _ (fun _=>hS3) (fun _=>wpTo_end (by kernel_rfl) ?_)
 clear hK K hS hS3 k3
 refine NoPanic.normal ?_
 have HF:Hid (∃ ls',X.SG L i (X.nt (.br 11 ps)).length ls' (X.ex (f'+1) n (.br 11 ps))∧PgTo w Q R (ls++ls') w3):=by
  obtain ⟨ls',h1,h2⟩:=H3.out
  exact ⟨_,h1,PgTo.from ((HK2.out).trans (kD.mono (HK2.out).size)) h2⟩
 clear H3
 go_wp2_with fail
 go_end0
 exact ⟨rfl,HF⟩
set_option maxRecDepth 100000 in
set_option maxHeartbeats 8000000 in
theorem gexpr_call (L:List X.Lf) (hL:L.length≤268435456) (hF:(X.flt L).length≤8589934592) (ps:List X.Part) (pc:X.Part) (qs:List X.Part) (hsp:X.pts ps=[pc,.br 12 qs]) (hpc:X.Sh pc) (ta:X.Tok) (l:List X.Part) (c:List UInt8) (hb:X.pts qs=X.lf ta::l) (hta:ta.2=[40]) (hsa:X.ShA c l) (ih:∀ q∈l,X.Sh q→XC L q) (hsh:X.Sh (.br 11 ps)):XC L (.br 11 ps):=by
 intro f n i w Q R rm D v ls hr hg h hA hf hd hl
 have hne:X.nt (.br 11 ps)≠[]:=hsh.ne
 have hfl:=X.fl_len false (.br 11 ps)
 have hMne:X.fl false (.br 11 ps)≠[]:=fun e=>hne (List.length_eq_zero_iff.1 (by rw [← hfl,e];rfl))
 have hle:=hA.le
 rw [hfl] at hle
 obtain ⟨ao,cap,hv,hc1,hc2,-⟩:=h.kid
 have HPT:=hide h
 subst hv
 have hkk:X.kindOf (.br 11 ps)=11:=rfl
 rw [hkk] at HPT ⊢
 have HW:Hid (n+X.chars (X.flat [.br 11 ps])+1≤80→∀ e,X.ex f n (.br 11 ps) e=X.line n (X.flat [.br 11 ps]++e)):=fun h e=>X.ex_fit h
 have hfe:X.flat [.br 11 ps]=X.flt (X.fl false (.br 11 ps)):=X.flat_one _
 obtain ⟨te,hteq⟩:∃ te,te=i+(X.nt (.br 11 ps)).length:=⟨_,rfl⟩
 rw [← hteq] at HPT ⊢
 obtain ⟨nn,hnn⟩:∃ nn,nn=(X.tks (X.kidsOf (.br 11 ps))).length:=⟨_,rfl⟩
 rw [← hnn] at HPT ⊢
 have k1:Below w.heap.size w (w.alloc (.cells #[.int .i64 11,.int .i64 i,.int .i64 te,.slice ao nn cap] 95)):=(Below.refl _ w).alloc (Nat.le_refl _) _
 have HFIT:=hide (fun W (hI:IsRow W R rm L)=>afits_any L (X.fl false (.br 11 ps)) i te R rm W 11 ao nn cap (80 - (n:Int) - 1) hI hA hMne (by rw [hfl];exact hteq) hL hF (by omega) (by omega))
 have hbx:(w.alloc (.cells #[.int .i64 11,.int .i64 i,.int .i64 te,.slice ao nn cap] 95)).heap[w.heap.size]?=some (.cells #[.int .i64 11,.int .i64 i,.int .i64 te,.slice ao nn cap] 95 (0,0)):=heap_alloc_new w _
 have hn522:n≤522:=by omega
 have HROW:=hide (hr.below k1)
 have HG:=hide hg
 have HK1:=hide k1
 have HBX:=hide hbx
 have HAT:=hide hA
 have HTE:=hide hteq
 have HNN:=hide hnn
 have HFE:=hide hfe
 obtain ⟨lv0,hlv0⟩:=hg
 have q0:=cell_of_row _ _ 0 _ _ _ (hlv0.below k1).blk
 have hQl:Q<w.heap.size:=heap_lt hlv0.blk
 have p0:=cell_of_row _ _ 0 _ _ _ hbx
 have p1:=cell_of_row _ _ 1 _ _ _ hbx
 have p2:=cell_of_row _ _ 2 _ _ _ hbx
 have p3:=cell_of_row _ _ 3 _ _ _ hbx
 have HNE:=hide hne
 have hwr1:IntKind.i64.wrap (80 - (n:Int))=80 - (n:Int):=by rw [IntKind.wrap_i64];omega
 have hwr2:IntKind.i64.wrap (80 - (n:Int) - 1)=80 - (n:Int) - 1:=by rw [IntKind.wrap_i64];omega
 clear hr h hA k1 hbx hlv0 hteq hnn hfe hMne hne hkk hc1 hc2
 have hlta:X.lou ta=true:=X.mem_pts hb (by simp)
 have hlou:∀ t:X.Tok,X.lf t∈l→X.lou t=true:=fun t ht=>X.mem_pts hb (List.mem_cons_of_mem _ ht)
 have htb:X.tks (X.kidsOf (.br 12 qs))=X.lf ta::l:=by
  rw [show X.kidsOf (.br 12 qs)=qs from rfl,X.tks_pts,hb]
  refine X.tks_all (fun x hx=>?_)
  rcases List.mem_cons.1 hx with rfl|hx
  ·exact X.nt_lf_ne hlta
  ·exact X.ShA_ne _ (Nat.le_refl _) hsa hlou x hx
 have hqn:X.nt (.br 12 qs)≠[]:=by
  rw [X.nt_br,hb,X.nts_cons,X.nt_lf,if_pos hlta];simp
 have htk:X.tks (X.kidsOf (.br 11 ps))=[pc,.br 12 qs]:=by
  rw [show X.kidsOf (.br 11 ps)=ps from rfl,X.tks_pts,hsp]
  refine X.tks_all (fun x hx=>?_)
  simp only [List.mem_cons,List.not_mem_nil,or_false] at hx
  rcases hx with rfl|rfl
  ·exact hpc.ne
  ·exact hqn
 obtain ⟨g,d1,d2,d3,rfl,-⟩:=(HPT.out).kidv (j:=1) (q:=.br 12 qs) (by rw [htk];rfl)
 obtain rfl:nn=2:=by rw [HNN.out,htk];rfl
 have hflsM:X.fl false (.br 11 ps)=X.fl false pc++X.fls false (X.lf ta::l):=by
  rw [X.fl_br,X.fls_pts,hsp,← X.fls_one false pc]
  have:X.fls false (X.lf ta::l)=X.fls false [.br 12 qs]:=by
   rw [X.fls_one,X.fl_br]
   show _=X.fls false qs
   rw [X.fls_pts false qs,hb]
  rw [this,← X.fls_append];rfl
 have HFLS:=hide hflsM
 have HTB:=hide htb
 clear hflsM htb
 have HTK:=hide htk
 clear htk hqn
 go_enter Tryz.func90,Tryz.ntmps90
 go_wp2_with fail
 generalize w.alloc (.cells #[.int .i64 11,.int .i64 i,.int .i64 te,.slice (some ⟨g,0,none⟩) 2 cap] 95)=W at *
 refine wp_region_noPanic ?_
 refine wpTo_start (S:=fun w'=>w'.cell? ⟨Q,0,none⟩=some (.pointer (some ⟨R,0,none⟩))∧w'.cell? ⟨w.heap.size,0,none⟩=some (.int .i64 11)∧w'.cell? ⟨w.heap.size,1,none⟩=some (.int .i64 i)∧w'.cell? ⟨w.heap.size,2,none⟩=some (.int .i64 te)∧w'.cell? ⟨w.heap.size,3,none⟩=some (.slice (some ⟨g,0,none⟩) 2 cap)) (z:=9) (by kernel_rfl) ?_
 have hS:W.drew.cell? ⟨Q,0,none⟩=some (.pointer (some ⟨R,0,none⟩))∧W.drew.cell? ⟨w.heap.size,0,none⟩=some (.int .i64 11)∧W.drew.cell? ⟨w.heap.size,1,none⟩=some (.int .i64 i)∧W.drew.cell? ⟨w.heap.size,2,none⟩=some (.int .i64 te)∧W.drew.cell? ⟨w.heap.size,3,none⟩=some (.slice (some ⟨g,0,none⟩) 2 cap):=⟨q0,p0,p1,p2,p3⟩
 iterate 8 (refine wpTo_nx (v:=?_) rfl rfl (by kernel_rfl) (by decide) (by kernel_rfl) (by kernel_rfl) (fun _ _ _ h=>h) (Or.inl ⟨by rfl,?_⟩) hS ?_;rotate_left;(· (intro wx hSw;(try dsimp only at hSw);go_simp;try (with_reducible rfl)));simp only [Act.put,List.setIfInBounds_toArray,List.set_cons_zero,List.set_cons_succ])
 refine wpTo_one (i:=8) (by kernel_rfl) rfl (fun K hK=>?_)
 go_simp
 refine ((HFIT.out) _ ((HROW.out).below ((Below.refl _ W).drew))).mono ?_
 rintro e w2 ⟨rfl,B2⟩
 have b2:Below W.heap.size W w2:=((Below.refl _ W).drew).trans B2
 have c2:=Kp.ofBelow b2 (fun _=>False)
 replace q0:=c2.cellv q0 id
 replace p0:=c2.cellv p0 id
 replace p1:=c2.cellv p1 id
 replace p2:=c2.cellv p2 id
 replace p3:=c2.cellv p3 id
 go_simp
 refine hK.out _ _ (fun _=>⟨q0,p0,p1,p2,p3⟩) (fun _=>wpTo_end (by kernel_rfl) ?_)
 clear hK K hS c2
 refine NoPanic.normal ?_
 have HK2:Hid (Below w.heap.size w w2):=(HK1.out).trans (b2.mono (HK1.out).size)
 have HR2:=hide ((HROW.out).below b2)
 have HG2:Hid (∃ lv,IsPg w2 Q R ls lv):=by
  obtain ⟨lv,hlv⟩:=HG.out
  exact ⟨lv,hlv.below HK2.out⟩
 have HPT2:=hide ((HPT.out).kept (Kp.ofBelow HK2.out (fun _=>False)) (fun _ h=>h.elim))
 have HBX2:=hide ((Kp.ofBelow b2 (fun _=>False)).heap HBX.out id)
 clear b2 B2 HROW HG HK1 HBX HPT HFIT
 rw [← HFE.out]
 by_cases hW:n+X.chars (X.flat [.br 11 ps])+1≤80
 ·have c0:decide ((X.chars (X.flat [.br 11 ps]):Int)≤80 - (n:Int) - 1)=true:=decide_eq_true (by omega)
  rw [c0]
  go_wp2_with fail
  refine (gadd_any n i te Q R ls w2 HG2.out (by omega)).mono ?_
  rintro e w3 ⟨rfl,H3⟩
  have HF:Hid (∃ ls',X.SG L i (X.nt (.br 11 ps)).length ls' (X.ex f n (.br 11 ps))∧PgTo w Q R (ls++ls') w3):=⟨_,X.SG.whole HAT.out HNE.out hn522 HTE.out ((HW.out) hW),PgTo.from HK2.out H3.out⟩
  clear H3
  go_wp2_with fail
  try simp only [Exit.inBlock,Exit.then]
  refine bodyPost_ret (v:=.tuple #[]) (by simp [results,Tryz.results90,go_sem]) rfl ?_
  exact ⟨rfl,HF⟩
 have c0:decide ((X.chars (X.flat [.br 11 ps]):Int)≤80 - (n:Int) - 1)=false:=decide_eq_false (by omega)
 rw [c0]
 obtain ⟨f',rfl⟩:∃ f',f=f'+1:=⟨f - 1,by have:=List.length_pos_iff.2 HNE.out;omega⟩
 have hex0:∀ e,X.ex (f'+1) n (.br 11 ps) e=X.bracket (X.ex f' (n+2)) n (X.line n (X.flat [.br 11 ps]++e)) (X.flat [pc]++[40]) (X.lf ta::l) e:=fun e=>by
  conv=>lhs;unfold X.ex
  rw [if_neg hW,show X.kindOf (.br 11 ps)=11 from rfl,if_neg (by decide),if_neg (by decide),if_neg (by decide),if_neg (by decide),if_pos rfl,show X.kidsOf (.br 11 ps)=ps from rfl,hsp]
  show X.bracket _ n _ _ (X.pts qs) e=_;rw [hb];rfl
 obtain ⟨g1,d1,d2,d3,e1,⟨cur,hgb⟩,x0,x1,x2,x3,hPb⟩:=(HPT2.out).kidv (j:=1) (q:=.br 12 qs) (by rw [HTK.out];rfl)
 injection e1 with e1
 injection e1 with e1
 subst e1
 have efb:i+(X.nts' ((X.tks (X.kidsOf (.br 11 ps))).take 1)).length=i+(X.nt pc).length:=by rw [HTK.out,show ([pc,.br 12 qs]:List X.Part).take 1=[pc] from rfl,X.nts_one]
 rw [efb] at x1 x2 hPb
 obtain ⟨ib,hib⟩:∃ ib,ib=i+(X.nt pc).length:=⟨_,rfl⟩
 rw [← hib] at x1 x2 hPb
 have HIB:=hide hib
 have hnb:(X.nt (.br 12 qs)).length=(X.nts' (X.lf ta::l)).length:=by rw [X.nt_br,hb]
 have hteb:ib+(X.nt (.br 12 qs)).length=te:=by
  have h1:=HTE.out
  have h2:(X.nt (.br 11 ps)).length=(X.nt pc).length+(X.nt (.br 12 qs)).length:=by rw [X.nt_br,hsp,X.nts_cons,X.nts_one,List.length_append]
  rw [h1,h2,hib];omega
 rw [hteb] at x2 hPb
 have hgl:=heap_lt hgb
 have HPB:=hide hPb
 have HGB:=hide hgb
 clear hPb hgb efb
 obtain ⟨tz,hz1,hz2⟩:=X.ShA_end _ (Nat.le_refl _) hsa
 have hlz:X.lou tz=true:=hlou tz (List.mem_of_getElem? hz1)
 have hl2:=hsa.two
 have hex:∀ e,X.ex (f'+1) n (.br 11 ps) e=X.line n (X.flat [pc]++[40])++(X.many (X.ex f' (n+2)) l++X.line n (tz.2++e)):=fun e=>by
  rw [hex0 e]
  unfold X.bracket
  rw [if_neg (by simp;omega),show (X.lf ta::l).drop 1=l from rfl]
  have e1:(X.lf ta::l).getD ((X.lf ta::l).length - 1) X.nil1=X.lf tz:=by
   have:(X.lf ta::l).length - 1=(l.length - 1)+1:=by simp;omega
   rw [this,List.getD_eq_getElem?_getD,List.getElem?_cons_succ,hz1];rfl
  rw [e1];rfl
 have hn1:(X.nts' (X.lf ta::l)).length=1+(X.nts' l).length:=by rw [X.nts_cons,X.nt_lf,if_pos hlta,List.length_append];rfl
 have hdB:∀ q∈l,n+2+X.dp q≤522:=fun q hq=>by
  have h1:=X.dp_pts (k:=12) (by decide) hb (p:=q) (List.mem_cons_of_mem _ hq)
  rw [if_pos (by decide)] at h1
  have h2:=X.dp_pts (k:=11) (by decide) hsp (p:=.br 12 qs) (by simp)
  rw [if_neg (by decide)] at h2
  omega
 have hfB:∀ q∈l,(X.nt q).length≤f':=fun q hq=>by
  have h1:=X.nts_mem hq
  have h2:=HTE.out
  omega
 have HA2:=hide HAT.out
 rw [HFLS.out] at HA2
 have hA3:X.Ats L ib (X.fls false (X.lf ta::l)):=by
  have h:=(HA2.out).right
  rw [X.fl_len] at h
  rw [hib];exact h
 have hfa:X.fls false (X.lf ta::l)=[(ta,false)]++X.fls false l:=by rw [X.fls,X.fl_lf hlta];rfl
 have hA4:X.Ats L i (X.fl false pc++[(ta,false)]):=by
  have h:=HA2.out
  rw [hfa,← List.append_assoc] at h
  exact h.left
 have hA5:X.Ats L (ib+1) (X.fls false l):=by
  have h:=hA3
  rw [hfa] at h
  exact h.right
 have hflt:X.flt (X.fl false pc++[(ta,false)])=X.flat [pc]++[40]:=by
  rw [X.flt_snoc,X.flat_one]
  have:X.gap (X.fl false pc) (ta,false)=[]:=by
   unfold X.gap
   cases (X.fl false pc).getLast? with
   | none=>rfl
   | some b=>show X.sep b (ta,false)=[];unfold X.sep;rw [if_pos];unfold X.tight;simp [hta]
  rw [this]
  show X.flt _++([]++ta.2)=_
  rw [hta];rfl
 have hRG:=X.RG.first (n:=n) (j:=ib+1) hA4 (by simp) hn522 (by rw [List.length_append,X.fl_len,hib];rfl)
 rw [hflt] at hRG
 have hk0:i+(X.fl false pc++[(ta,false)]).length=ib+1:=by rw [List.length_append,X.fl_len,hib];rfl
 have hnp:(X.nt (.br 11 ps)).length=(X.fl false pc++[(ta,false)]).length+(X.nts' l).length:=by
  have:=HTE.out
  rw [hn1] at hnb
  omega
 have HC:Hid (∀ W (hr:IsRow W R rm L) (hg:∃ lv,IsPg W Q R ls lv) (v:Value) (hp:IsPt W D ib v (.br 12 qs)),Calls Tryz.prog 120 #[.pointer (some ⟨Q,0,none⟩),.int .i64 i,v,.int .i64 n] W fun e w'=>e=.returned (.tuple #[])∧Hid (∃ ls',X.SG L i (X.nt (.br 11 ps)).length ls' (X.ex (f'+1) n (.br 11 ps))∧PgTo W Q R (ls++ls') w')):=fun W hr hg v hp=>by
  refine (gbracket_some L hL (.br 12 qs) ta l c HTB.out hlta hsa hlou false f' i n ib ih hdB hfB hA3 W Q R rm D v ls hr hg hp (by omega)).mono ?_
  rintro e w' ⟨rfl,H⟩
  obtain ⟨lm,h1,h2⟩:=H.out
  refine ⟨rfl,_,?_,h2⟩
  exact (X.SG.bracket hRG hk0 h1 hz1 hlz hA5 hn522 (by rw [hn1] at hnb;omega)).of hnp.symm rfl (fun e=>(hex e).symm)
 clear hex hn1 hdB hfB HA2 hA3 hA4 hA5 hfa hflt hRG hk0 hnp hz1 hz2 hlz
 clear hex0 hib hnb hteb HW HTB HFLS
 go_wp2_with fail
 refine wp_region_noPanic ?_
 refine wpTo_start (S:=fun w'=>w'.cell? ⟨w.heap.size,1,none⟩=some (.int .i64 i)∧w'.cell? ⟨w.heap.size,3,none⟩=some (.slice (some ⟨g,0,none⟩) 2 cap)∧w'.cell? ⟨g,4,none⟩=some (.int .i64 12)∧w'.cell? ⟨g,5,none⟩=some (.int .i64 ib)∧w'.cell? ⟨g,6,none⟩=some (.int .i64 te)∧w'.cell? ⟨g,7,none⟩=some (.slice d1 d2 d3)) (z:=9) (by kernel_rfl) ?_
 have hS:w2.drew.cell? ⟨w.heap.size,1,none⟩=some (.int .i64 i)∧w2.drew.cell? ⟨w.heap.size,3,none⟩=some (.slice (some ⟨g,0,none⟩) 2 cap)∧w2.drew.cell? ⟨g,4,none⟩=some (.int .i64 12)∧w2.drew.cell? ⟨g,5,none⟩=some (.int .i64 ib)∧w2.drew.cell? ⟨g,6,none⟩=some (.int .i64 te)∧w2.drew.cell? ⟨g,7,none⟩=some (.slice d1 d2 d3):=⟨p1,p3,x0,x1,x2,x3⟩
 iterate 8 (refine wpTo_nx (v:=?_) rfl rfl (by kernel_rfl) (by decide) (by kernel_rfl) (by kernel_rfl) (fun _ _ _ h=>h) (Or.inl ⟨by rfl,?_⟩) hS ?_;rotate_left;(· (intro wx hSw;(try dsimp only at hSw);go_simp;try (with_reducible rfl)));simp only [Act.put,List.setIfInBounds_toArray,List.set_cons_zero,List.set_cons_succ])
 have kD:Below w2.heap.size w2 w2.drew:=(Below.refl _ w2).drew
 refine wpTo_one (i:=8) (by kernel_rfl) rfl (fun K hK=>?_)
 go_simp
 refine ((HC.out) w2.drew ((HR2.out).below kD) (by obtain ⟨lv,hlv⟩:=HG2.out;exact ⟨lv,hlv.below kD⟩) _ ((HPB.out).kept (Kp.ofBelow kD (fun _=>False)) (fun _ h=>h.elim))).mono ?_
 rintro e w3 ⟨rfl,H3⟩
 have k3:FK PT Q w2 w3:=by
  obtain ⟨ls',-,h2⟩:=H3.out
  exact (FK.below kD).trans h2.2
 have hS3:w3.cell? ⟨w.heap.size,1,none⟩=some (.int .i64 i)∧w3.cell? ⟨w.heap.size,3,none⟩=some (.slice (some ⟨g,0,none⟩) 2 cap)∧w3.cell? ⟨g,4,none⟩=some (.int .i64 12)∧w3.cell? ⟨g,5,none⟩=some (.int .i64 ib)∧w3.cell? ⟨g,6,none⟩=some (.int .i64 te)∧w3.cell? ⟨g,7,none⟩=some (.slice d1 d2 d3):=⟨k3.cellt HBX2.out PT.pt p1,k3.cellt HBX2.out PT.pt p3,k3.cellt HGB.out PT.pt x0,k3.cellt HGB.out PT.pt x1,k3.cellt HGB.out PT.pt x2,k3.cellt HGB.out PT.pt x3⟩
 go_simp
 refine hK.out _ _ (fun _=>hS3) (fun _=>wpTo_end (by kernel_rfl) ?_)
 clear hK K hS hS3 k3
 refine NoPanic.normal ?_
 have HF:Hid (∃ ls',X.SG L i (X.nt (.br 11 ps)).length ls' (X.ex (f'+1) n (.br 11 ps))∧PgTo w Q R (ls++ls') w3):=by
  obtain ⟨ls',h1,h2⟩:=H3.out
  exact ⟨_,h1,PgTo.from ((HK2.out).trans (kD.mono (HK2.out).size)) h2⟩
 clear H3
 go_wp2_with fail
 go_end0
 exact ⟨rfl,HF⟩
end Go.Proofs.YtgpcpbmacdhlkaaGreatDoor
