/- Package lay: expression. -/
import Derived.Test.YtgpcpbmacdhlkaaGreatDoorLpo
import Derived.Test.YtgpcpbmacdhlkaaGreatDoorXy
namespace Go.Proofs.YtgpcpbmacdhlkaaGreatDoor
open Go.RowKit
open M
namespace X
theorem nt_quiet {p:Part} (h:quietP p=true):nt p=[]:=by
 cases p with
 | leaf k x =>
  have e:(.leaf k x:Part)=lf (k,x):=rfl
  rw [e,nt_lf,if_neg]
  unfold lou;unfold quietP at h;simp only at h ⊢;rw [h];simp
 | miss m=>cases h
 | br k qs=>cases h
theorem tks_pts (ps:List Part):tks ps=tks (pts ps):=by
 induction ps with
 | nil=>rfl
 | cons p ps ih =>
  rw [show p::ps=[p]++ps from rfl,tks_append,ih,pts_append,tks_append]
  congr 1
  cases hq:quietP p with
  | true =>
   rw [tks_none (nt_quiet hq)]
   unfold pts
   rw [List.filter_cons_of_neg (by simp [hq])];rfl
  | false =>
   unfold pts
   rw [List.filter_cons_of_pos (by simp [hq])];rfl
theorem tks_all {l:List Part} (h:∀ p∈l,nt p≠[]):tks l=l:=by
 unfold tks tkp
 refine List.filter_eq_self.2 (fun p hp=>?_)
 have:=h p hp
 cases hx:nt p with
 | nil=>exact absurd hx this
 | cons a l=>rfl
theorem nt_lf_ne {t:Tok} (h:lou t=true):nt (lf t)≠[]:=by rw [nt_lf,if_pos h];simp
end X
set_option maxRecDepth 100000 in
set_option maxHeartbeats 8000000 in
theorem gexpr_tok (L:List X.Lf) (hL:L.length≤268435456) (hF:(X.flt L).length≤8589934592) (k:Nat) (ps:List X.Part) (hk:15≤k∧k≤19) (hsh:X.Sh (.br k ps)):XC L (.br k ps):=by
 intro f n i w Q R rm D v ls hr hg h hA hf hd hl
 have hne:X.nt (.br k ps)≠[]:=hsh.ne
 have hfl:=X.fl_len false (.br k ps)
 have hMne:X.fl false (.br k ps)≠[]:=fun e=>hne (List.length_eq_zero_iff.1 (by rw [← hfl,e];rfl))
 have hle:=hA.le
 rw [hfl] at hle
 obtain ⟨ao,cap,hv,hc1,hc2,-⟩:=h.kid
 have HPT:=hide h
 subst hv
 have hkk:X.kindOf (.br k ps)=k:=rfl
 rw [hkk] at HPT ⊢
 have HW:Hid (n+X.chars (X.flat [.br k ps])+1≤80→∀ e,X.ex f n (.br k ps) e=X.line n (X.flat [.br k ps]++e)):=fun h e=>X.ex_fit h
 have hfe:X.flat [.br k ps]=X.flt (X.fl false (.br k ps)):=X.flat_one _
 obtain ⟨te,hteq⟩:∃ te,te=i+(X.nt (.br k ps)).length:=⟨_,rfl⟩
 rw [← hteq] at HPT ⊢
 obtain ⟨nn,hnn⟩:∃ nn,nn=(X.tks (X.kidsOf (.br k ps))).length:=⟨_,rfl⟩
 rw [← hnn] at HPT ⊢
 have k1:Below w.heap.size w (w.alloc (.cells #[.int .i64 k,.int .i64 i,.int .i64 te,.slice ao nn cap] 95)):=(Below.refl _ w).alloc (Nat.le_refl _) _
 have HFIT:=hide (fun W (hI:IsRow W R rm L)=>afits_any L (X.fl false (.br k ps)) i te R rm W k ao nn cap (80 - (n:Int) - 1) hI hA hMne (by rw [hfl];exact hteq) hL hF (by omega) (by omega))
 have hbx:(w.alloc (.cells #[.int .i64 k,.int .i64 i,.int .i64 te,.slice ao nn cap] 95)).heap[w.heap.size]?=some (.cells #[.int .i64 k,.int .i64 i,.int .i64 te,.slice ao nn cap] 95 (0,0)):=heap_alloc_new w _
 have hn522:n≤522:=by omega
 have HROW:=hide (hr.below k1)
 have HG:=hide hg
 have HK1:=hide k1
 have HBX:=hide hbx
 have HAT:=hide hA
 have HTE:=hide hteq
 have HNN:=hide hnn
 have HFE:=hide hfe
 obtain ⟨lv0,hlv0⟩:=hg
 have q0:=cell_of_row _ _ 0 _ _ _ (hlv0.below k1).blk
 have hQl:Q<w.heap.size:=heap_lt hlv0.blk
 have p0:=cell_of_row _ _ 0 _ _ _ hbx
 have p1:=cell_of_row _ _ 1 _ _ _ hbx
 have p2:=cell_of_row _ _ 2 _ _ _ hbx
 have p3:=cell_of_row _ _ 3 _ _ _ hbx
 have HNE:=hide hne
 have hwr1:IntKind.i64.wrap (80 - (n:Int))=80 - (n:Int):=by rw [IntKind.wrap_i64];omega
 have hwr2:IntKind.i64.wrap (80 - (n:Int) - 1)=80 - (n:Int) - 1:=by rw [IntKind.wrap_i64];omega
 clear hr h hA k1 hbx hlv0 hteq hnn hfe hMne hne hkk hc1 hc2
 have e7:((k:Int)==7)=false:=by simp;omega
 have e8:((k:Int)==8)=false:=by simp;omega
 have e9:((k:Int)==9)=false:=by simp;omega
 have e10:((k:Int)==10)=false:=by simp;omega
 have e11:((k:Int)==11)=false:=by simp;omega
 have e13:((k:Int)==13)=false:=by simp;omega
 have e14:((k:Int)==14)=false:=by simp;omega
 go_enter Tryz.func90,Tryz.ntmps90
 go_wp2_with fail
 generalize w.alloc (.cells #[.int .i64 k,.int .i64 i,.int .i64 te,.slice ao nn cap] 95)=W at *
 refine wp_region_noPanic ?_
 refine wpTo_start (S:=fun w'=>w'.cell? ⟨Q,0,none⟩=some (.pointer (some ⟨R,0,none⟩))∧w'.cell? ⟨w.heap.size,0,none⟩=some (.int .i64 k)∧w'.cell? ⟨w.heap.size,1,none⟩=some (.int .i64 i)∧w'.cell? ⟨w.heap.size,2,none⟩=some (.int .i64 te)∧w'.cell? ⟨w.heap.size,3,none⟩=some (.slice ao nn cap)) (z:=9) (by kernel_rfl) ?_
 have hS:W.drew.cell? ⟨Q,0,none⟩=some (.pointer (some ⟨R,0,none⟩))∧W.drew.cell? ⟨w.heap.size,0,none⟩=some (.int .i64 k)∧W.drew.cell? ⟨w.heap.size,1,none⟩=some (.int .i64 i)∧W.drew.cell? ⟨w.heap.size,2,none⟩=some (.int .i64 te)∧W.drew.cell? ⟨w.heap.size,3,none⟩=some (.slice ao nn cap):=⟨q0,p0,p1,p2,p3⟩
 iterate 8 (refine wpTo_nx (v:=?_) rfl rfl (by kernel_rfl) (by decide) (by kernel_rfl) (by kernel_rfl) (fun _ _ _ h=>h) (Or.inl ⟨by rfl,?_⟩) hS ?_;rotate_left;(· (intro wx hSw;(try dsimp only at hSw);go_simp;try (with_reducible rfl)));simp only [Act.put,List.setIfInBounds_toArray,List.set_cons_zero,List.set_cons_succ])
 refine wpTo_one (i:=8) (by kernel_rfl) rfl (fun K hK=>?_)
 go_simp
 refine ((HFIT.out) _ ((HROW.out).below ((Below.refl _ W).drew))).mono ?_
 rintro e w2 ⟨rfl,B2⟩
 have b2:Below W.heap.size W w2:=((Below.refl _ W).drew).trans B2
 have c2:=Kp.ofBelow b2 (fun _=>False)
 replace q0:=c2.cellv q0 id
 replace p0:=c2.cellv p0 id
 replace p1:=c2.cellv p1 id
 replace p2:=c2.cellv p2 id
 replace p3:=c2.cellv p3 id
 go_simp
 refine hK.out _ _ (fun _=>⟨q0,p0,p1,p2,p3⟩) (fun _=>wpTo_end (by kernel_rfl) ?_)
 clear hK K hS c2
 refine NoPanic.normal ?_
 have HK2:Hid (Below w.heap.size w w2):=(HK1.out).trans (b2.mono (HK1.out).size)
 have HR2:=hide ((HROW.out).below b2)
 have HG2:Hid (∃ lv,IsPg w2 Q R ls lv):=by
  obtain ⟨lv,hlv⟩:=HG.out
  exact ⟨lv,hlv.below HK2.out⟩
 have HPT2:=hide ((HPT.out).kept (Kp.ofBelow HK2.out (fun _=>False)) (fun _ h=>h.elim))
 have HBX2:=hide ((Kp.ofBelow b2 (fun _=>False)).heap HBX.out id)
 clear b2 B2 HROW HG HK1 HBX HPT HFIT
 rw [← HFE.out]
 by_cases hW:n+X.chars (X.flat [.br k ps])+1≤80
 ·have c0:decide ((X.chars (X.flat [.br k ps]):Int)≤80 - (n:Int) - 1)=true:=decide_eq_true (by omega)
  rw [c0]
  go_wp2_with fail
  refine (gadd_any n i te Q R ls w2 HG2.out (by omega)).mono ?_
  rintro e w3 ⟨rfl,H3⟩
  have HF:Hid (∃ ls',X.SG L i (X.nt (.br k ps)).length ls' (X.ex f n (.br k ps))∧PgTo w Q R (ls++ls') w3):=⟨_,X.SG.whole HAT.out HNE.out hn522 HTE.out ((HW.out) hW),PgTo.from HK2.out H3.out⟩
  clear H3
  go_wp2_with fail
  try simp only [Exit.inBlock,Exit.then]
  refine bodyPost_ret (v:=.tuple #[]) (by simp [results,Tryz.results90,go_sem]) rfl ?_
  exact ⟨rfl,HF⟩
 have c0:decide ((X.chars (X.flat [.br k ps]):Int)≤80 - (n:Int) - 1)=false:=decide_eq_false (by omega)
 rw [c0]
 have hex:∀ e,X.ex f n (.br k ps) e=X.line n (X.flat [.br k ps]++e):=fun e=>by
  cases f with
  | zero=>rw [X.ex]
  | succ f =>
   have e0:X.kindOf (.br k ps)=k:=rfl
   unfold X.ex
   rw [if_neg hW,e0,if_neg (by omega),if_neg (by omega),if_neg (by omega),if_neg (by omega),if_neg (by omega),if_neg (by omega),if_neg (by omega)]
 have HEX:=hide hex
 clear hex
 go_wp2_with fail
 refine (gadd_any n i te Q R ls w2 HG2.out (by omega)).mono ?_
 rintro e w3 ⟨rfl,H3⟩
 have HF:Hid (∃ ls',X.SG L i (X.nt (.br k ps)).length ls' (X.ex f n (.br k ps))∧PgTo w Q R (ls++ls') w3):=⟨_,X.SG.whole HAT.out HNE.out hn522 HTE.out HEX.out,PgTo.from HK2.out H3.out⟩
 clear H3
 go_wp2_with fail
 go_end0
 exact ⟨rfl,HF⟩
set_option maxRecDepth 100000 in
set_option maxHeartbeats 8000000 in
theorem gexpr_let (L:List X.Lf) (hL:L.length≤268435456) (hF:(X.flt L).length≤8589934592) (ps:List X.Part) (ta tb tc td:X.Tok) (p q:X.Part) (hsp:X.pts ps=[X.lf ta,X.lf tb,X.lf tc,p,X.lf td,q]) (hq:X.Sh q) (ih:XC L q) (hsh:X.Sh (.br 7 ps)):XC L (.br 7 ps):=by
 intro f n i w Q R rm D v ls hr hg h hA hf hd hl
 have hne:X.nt (.br 7 ps)≠[]:=hsh.ne
 have hfl:=X.fl_len false (.br 7 ps)
 have hMne:X.fl false (.br 7 ps)≠[]:=fun e=>hne (List.length_eq_zero_iff.1 (by rw [← hfl,e];rfl))
 have hle:=hA.le
 rw [hfl] at hle
 obtain ⟨ao,cap,hv,hc1,hc2,-⟩:=h.kid
 have HPT:=hide h
 subst hv
 have hkk:X.kindOf (.br 7 ps)=7:=rfl
 rw [hkk] at HPT ⊢
 have HW:Hid (n+X.chars (X.flat [.br 7 ps])+1≤80→∀ e,X.ex f n (.br 7 ps) e=X.line n (X.flat [.br 7 ps]++e)):=fun h e=>X.ex_fit h
 have hfe:X.flat [.br 7 ps]=X.flt (X.fl false (.br 7 ps)):=X.flat_one _
 obtain ⟨te,hteq⟩:∃ te,te=i+(X.nt (.br 7 ps)).length:=⟨_,rfl⟩
 rw [← hteq] at HPT ⊢
 obtain ⟨nn,hnn⟩:∃ nn,nn=(X.tks (X.kidsOf (.br 7 ps))).length:=⟨_,rfl⟩
 rw [← hnn] at HPT ⊢
 have k1:Below w.heap.size w (w.alloc (.cells #[.int .i64 7,.int .i64 i,.int .i64 te,.slice ao nn cap] 95)):=(Below.refl _ w).alloc (Nat.le_refl _) _
 have HFIT:=hide (fun W (hI:IsRow W R rm L)=>afits_any L (X.fl false (.br 7 ps)) i te R rm W 7 ao nn cap (80 - (n:Int) - 1) hI hA hMne (by rw [hfl];exact hteq) hL hF (by omega) (by omega))
 have hbx:(w.alloc (.cells #[.int .i64 7,.int .i64 i,.int .i64 te,.slice ao nn cap] 95)).heap[w.heap.size]?=some (.cells #[.int .i64 7,.int .i64 i,.int .i64 te,.slice ao nn cap] 95 (0,0)):=heap_alloc_new w _
 have hn522:n≤522:=by omega
 have HROW:=hide (hr.below k1)
 have HG:=hide hg
 have HK1:=hide k1
 have HBX:=hide hbx
 have HAT:=hide hA
 have HTE:=hide hteq
 have HNN:=hide hnn
 have HFE:=hide hfe
 obtain ⟨lv0,hlv0⟩:=hg
 have q0:=cell_of_row _ _ 0 _ _ _ (hlv0.below k1).blk
 have hQl:Q<w.heap.size:=heap_lt hlv0.blk
 have p0:=cell_of_row _ _ 0 _ _ _ hbx
 have p1:=cell_of_row _ _ 1 _ _ _ hbx
 have p2:=cell_of_row _ _ 2 _ _ _ hbx
 have p3:=cell_of_row _ _ 3 _ _ _ hbx
 have HNE:=hide hne
 have hwr1:IntKind.i64.wrap (80 - (n:Int))=80 - (n:Int):=by rw [IntKind.wrap_i64];omega
 have hwr2:IntKind.i64.wrap (80 - (n:Int) - 1)=80 - (n:Int) - 1:=by rw [IntKind.wrap_i64];omega
 clear hr h hA k1 hbx hlv0 hteq hnn hfe hMne hne hkk hc1 hc2
 go_enter Tryz.func90,Tryz.ntmps90
 go_wp2_with fail
 generalize w.alloc (.cells #[.int .i64 7,.int .i64 i,.int .i64 te,.slice ao nn cap] 95)=W at *
 refine wp_region_noPanic ?_
 refine wpTo_start (S:=fun w'=>w'.cell? ⟨Q,0,none⟩=some (.pointer (some ⟨R,0,none⟩))∧w'.cell? ⟨w.heap.size,0,none⟩=some (.int .i64 7)∧w'.cell? ⟨w.heap.size,1,none⟩=some (.int .i64 i)∧w'.cell? ⟨w.heap.size,2,none⟩=some (.int .i64 te)∧w'.cell? ⟨w.heap.size,3,none⟩=some (.slice ao nn cap)) (z:=9) (by kernel_rfl) ?_
 have hS:W.drew.cell? ⟨Q,0,none⟩=some (.pointer (some ⟨R,0,none⟩))∧W.drew.cell? ⟨w.heap.size,0,none⟩=some (.int .i64 7)∧W.drew.cell? ⟨w.heap.size,1,none⟩=some (.int .i64 i)∧W.drew.cell? ⟨w.heap.size,2,none⟩=some (.int .i64 te)∧W.drew.cell? ⟨w.heap.size,3,none⟩=some (.slice ao nn cap):=⟨q0,p0,p1,p2,p3⟩
 iterate 8 (refine wpTo_nx (v:=?_) rfl rfl (by kernel_rfl) (by decide) (by kernel_rfl) (by kernel_rfl) (fun _ _ _ h=>h) (Or.inl ⟨by rfl,?_⟩) hS ?_;rotate_left;(· (intro wx hSw;(try dsimp only at hSw);go_simp;try (with_reducible rfl)));simp only [Act.put,List.setIfInBounds_toArray,List.set_cons_zero,List.set_cons_succ])
 refine wpTo_one (i:=8) (by kernel_rfl) rfl (fun K hK=>?_)
 go_simp
 refine ((HFIT.out) _ ((HROW.out).below ((Below.refl _ W).drew))).mono ?_
 rintro e w2 ⟨rfl,B2⟩
 have b2:Below W.heap.size W w2:=((Below.refl _ W).drew).trans B2
 have c2:=Kp.ofBelow b2 (fun _=>False)
 replace q0:=c2.cellv q0 id
 replace p0:=c2.cellv p0 id
 replace p1:=c2.cellv p1 id
 replace p2:=c2.cellv p2 id
 replace p3:=c2.cellv p3 id
 go_simp
 refine hK.out _ _ (fun _=>⟨q0,p0,p1,p2,p3⟩) (fun _=>wpTo_end (by kernel_rfl) ?_)
 clear hK K hS c2
 refine NoPanic.normal ?_
 have HK2:Hid (Below w.heap.size w w2):=(HK1.out).trans (b2.mono (HK1.out).size)
 have HR2:=hide ((HROW.out).below b2)
 have HG2:Hid (∃ lv,IsPg w2 Q R ls lv):=by
  obtain ⟨lv,hlv⟩:=HG.out
  exact ⟨lv,hlv.below HK2.out⟩
 have HPT2:=hide ((HPT.out).kept (Kp.ofBelow HK2.out (fun _=>False)) (fun _ h=>h.elim))
 have HBX2:=hide ((Kp.ofBelow b2 (fun _=>False)).heap HBX.out id)
 clear b2 B2 HROW HG HK1 HBX HPT HFIT
 rw [← HFE.out]
 by_cases hW:n+X.chars (X.flat [.br 7 ps])+1≤80
 ·have c0:decide ((X.chars (X.flat [.br 7 ps]):Int)≤80 - (n:Int) - 1)=true:=decide_eq_true (by omega)
  rw [c0]
  go_wp2_with fail
  refine (gadd_any n i te Q R ls w2 HG2.out (by omega)).mono ?_
  rintro e w3 ⟨rfl,H3⟩
  have HF:Hid (∃ ls',X.SG L i (X.nt (.br 7 ps)).length ls' (X.ex f n (.br 7 ps))∧PgTo w Q R (ls++ls') w3):=⟨_,X.SG.whole HAT.out HNE.out hn522 HTE.out ((HW.out) hW),PgTo.from HK2.out H3.out⟩
  clear H3
  go_wp2_with fail
  try simp only [Exit.inBlock,Exit.then]
  refine bodyPost_ret (v:=.tuple #[]) (by simp [results,Tryz.results90,go_sem]) rfl ?_
  exact ⟨rfl,HF⟩
 have c0:decide ((X.chars (X.flat [.br 7 ps]):Int)≤80 - (n:Int) - 1)=false:=decide_eq_false (by omega)
 rw [c0]
 obtain ⟨f',rfl⟩:∃ f',f=f'+1:=⟨f - 1,by have:=List.length_pos_iff.2 HNE.out;omega⟩
 have hex:∀ e,X.ex (f'+1) n (.br 7 ps) e=X.line n (X.flat [X.lf ta,X.lf tb,X.lf tc,p,X.lf td])++X.ex f' n q e:=fun e=>by
  conv=>lhs;unfold X.ex
  rw [if_neg hW,show X.kindOf (.br 7 ps)=7 from rfl,if_pos rfl,show X.kidsOf (.br 7 ps)=ps from rfl,hsp]
  rfl
 have hflsM:X.fl false (.br 7 ps)=X.fls false [X.lf ta,X.lf tb,X.lf tc,p,X.lf td]++X.fl false q:=by
  rw [X.fl_br,X.fls_pts,hsp,← X.fls_one false q,← X.fls_append];rfl
 have htk:X.tks (X.kidsOf (.br 7 ps))=X.tks [X.lf ta,X.lf tb,X.lf tc,p,X.lf td]++[q]:=by
  rw [show X.kidsOf (.br 7 ps)=ps from rfl,X.tks_pts,hsp]
  have:=X.tks_append [X.lf ta,X.lf tb,X.lf tc,p,X.lf td] [q]
  rw [X.tks_one hq.ne] at this
  exact this
 have hMt:(X.nts' (X.tks [X.lf ta,X.lf tb,X.lf tc,p,X.lf td])).length=(X.fls false [X.lf ta,X.lf tb,X.lf tc,p,X.lf td]).length:=by rw [X.nts_tks,X.fls_len]
 have hMn:X.fls false [X.lf ta,X.lf tb,X.lf tc,p,X.lf td]≠[]:=fun e=>by
  have h1:=congrArg List.length e
  rw [X.fls_len,X.nts_cons,X.nt_lf,if_pos (X.mem_pts hsp (by simp)),List.length_append] at h1
  simp at h1
 have hnp:(X.nt (.br 7 ps)).length=(X.fls false [X.lf ta,X.lf tb,X.lf tc,p,X.lf td]).length+(X.nt q).length:=by rw [← X.fl_len false,hflsM,List.length_append,X.fl_len]
 have hdq:n+X.dp q≤522:=by
  have:=X.dp_pts (k:=7) (by decide) hsp (p:=q) (by simp)
  first|(rw [if_neg (by decide)] at this;omega)|(rw [if_pos (by decide)] at this;omega)
 have hMp:=List.length_pos_iff.2 hMn
 have HA2:=hide HAT.out
 rw [hflsM] at HA2
 have HT:=hide (fun W v hr hg hp=>gtail_any L (.br 7 ps) q (X.tks [X.lf ta,X.lf tb,X.lf tc,p,X.lf td]) htk ih f' n n i W Q R rm D v ls hr hg hp (by rw [hMt];exact (HA2.out).right) (by omega) hdq (by omega))
 have HEND:Hid (∀ ls',X.SG L (i+(X.nts' (X.tks [X.lf ta,X.lf tb,X.lf tc,p,X.lf td])).length) (X.nt q).length ls' (X.ex f' n q)→X.SG L i (X.nt (.br 7 ps)).length ([(n,i,i+(X.nts' (X.tks [X.lf ta,X.lf tb,X.lf tc,p,X.lf td])).length)]++ls') (X.ex (f'+1) n (.br 7 ps))):=fun ls' h=>by
  rw [hMt] at h ⊢
  have h1:=X.RG.first (n:=n) (j:=i+(X.fls false [X.lf ta,X.lf tb,X.lf tc,p,X.lf td]).length) (HA2.out).left hMn hn522 rfl
  exact (h1.then h).of hnp.symm rfl (fun e=>(hex e).symm)
 clear hex hflsM htk hMt hMn hnp hdq hMp HA2 HW
 go_wp2_with fail
 refine ((HT.out) w2 _ HR2.out HG2.out HPT2.out).mono ?_
 rintro e w3 ⟨rfl,H3⟩
 have HF:Hid (∃ ls',X.SG L i (X.nt (.br 7 ps)).length ls' (X.ex (f'+1) n (.br 7 ps))∧PgTo w Q R (ls++ls') w3):=by
  obtain ⟨ls',h1,h2⟩:=H3.out
  exact ⟨_,(HEND.out) ls' h1,PgTo.from HK2.out h2⟩
 clear H3
 go_wp2_with fail
 go_end0
 exact ⟨rfl,HF⟩
set_option maxRecDepth 100000 in
set_option maxHeartbeats 8000000 in
theorem gexpr_fun (L:List X.Lf) (hL:L.length≤268435456) (hF:(X.flt L).length≤8589934592) (ps:List X.Part) (ta tb:X.Tok) (qs:List X.Part) (q:X.Part) (hsp:X.pts ps=[X.lf ta,.br 6 qs,X.lf tb,q]) (hq:X.Sh q) (ih:XC L q) (hsh:X.Sh (.br 9 ps)):XC L (.br 9 ps):=by
 intro f n i w Q R rm D v ls hr hg h hA hf hd hl
 have hne:X.nt (.br 9 ps)≠[]:=hsh.ne
 have hfl:=X.fl_len false (.br 9 ps)
 have hMne:X.fl false (.br 9 ps)≠[]:=fun e=>hne (List.length_eq_zero_iff.1 (by rw [← hfl,e];rfl))
 have hle:=hA.le
 rw [hfl] at hle
 obtain ⟨ao,cap,hv,hc1,hc2,-⟩:=h.kid
 have HPT:=hide h
 subst hv
 have hkk:X.kindOf (.br 9 ps)=9:=rfl
 rw [hkk] at HPT ⊢
 have HW:Hid (n+X.chars (X.flat [.br 9 ps])+1≤80→∀ e,X.ex f n (.br 9 ps) e=X.line n (X.flat [.br 9 ps]++e)):=fun h e=>X.ex_fit h
 have hfe:X.flat [.br 9 ps]=X.flt (X.fl false (.br 9 ps)):=X.flat_one _
 obtain ⟨te,hteq⟩:∃ te,te=i+(X.nt (.br 9 ps)).length:=⟨_,rfl⟩
 rw [← hteq] at HPT ⊢
 obtain ⟨nn,hnn⟩:∃ nn,nn=(X.tks (X.kidsOf (.br 9 ps))).length:=⟨_,rfl⟩
 rw [← hnn] at HPT ⊢
 have k1:Below w.heap.size w (w.alloc (.cells #[.int .i64 9,.int .i64 i,.int .i64 te,.slice ao nn cap] 95)):=(Below.refl _ w).alloc (Nat.le_refl _) _
 have HFIT:=hide (fun W (hI:IsRow W R rm L)=>afits_any L (X.fl false (.br 9 ps)) i te R rm W 9 ao nn cap (80 - (n:Int) - 1) hI hA hMne (by rw [hfl];exact hteq) hL hF (by omega) (by omega))
 have hbx:(w.alloc (.cells #[.int .i64 9,.int .i64 i,.int .i64 te,.slice ao nn cap] 95)).heap[w.heap.size]?=some (.cells #[.int .i64 9,.int .i64 i,.int .i64 te,.slice ao nn cap] 95 (0,0)):=heap_alloc_new w _
 have hn522:n≤522:=by omega
 have HROW:=hide (hr.below k1)
 have HG:=hide hg
 have HK1:=hide k1
 have HBX:=hide hbx
 have HAT:=hide hA
 have HTE:=hide hteq
 have HNN:=hide hnn
 have HFE:=hide hfe
 obtain ⟨lv0,hlv0⟩:=hg
 have q0:=cell_of_row _ _ 0 _ _ _ (hlv0.below k1).blk
 have hQl:Q<w.heap.size:=heap_lt hlv0.blk
 have p0:=cell_of_row _ _ 0 _ _ _ hbx
 have p1:=cell_of_row _ _ 1 _ _ _ hbx
 have p2:=cell_of_row _ _ 2 _ _ _ hbx
 have p3:=cell_of_row _ _ 3 _ _ _ hbx
 have HNE:=hide hne
 have hwr1:IntKind.i64.wrap (80 - (n:Int))=80 - (n:Int):=by rw [IntKind.wrap_i64];omega
 have hwr2:IntKind.i64.wrap (80 - (n:Int) - 1)=80 - (n:Int) - 1:=by rw [IntKind.wrap_i64];omega
 clear hr h hA k1 hbx hlv0 hteq hnn hfe hMne hne hkk hc1 hc2
 go_enter Tryz.func90,Tryz.ntmps90
 go_wp2_with fail
 generalize w.alloc (.cells #[.int .i64 9,.int .i64 i,.int .i64 te,.slice ao nn cap] 95)=W at *
 refine wp_region_noPanic ?_
 refine wpTo_start (S:=fun w'=>w'.cell? ⟨Q,0,none⟩=some (.pointer (some ⟨R,0,none⟩))∧w'.cell? ⟨w.heap.size,0,none⟩=some (.int .i64 9)∧w'.cell? ⟨w.heap.size,1,none⟩=some (.int .i64 i)∧w'.cell? ⟨w.heap.size,2,none⟩=some (.int .i64 te)∧w'.cell? ⟨w.heap.size,3,none⟩=some (.slice ao nn cap)) (z:=9) (by kernel_rfl) ?_
 have hS:W.drew.cell? ⟨Q,0,none⟩=some (.pointer (some ⟨R,0,none⟩))∧W.drew.cell? ⟨w.heap.size,0,none⟩=some (.int .i64 9)∧W.drew.cell? ⟨w.heap.size,1,none⟩=some (.int .i64 i)∧W.drew.cell? ⟨w.heap.size,2,none⟩=some (.int .i64 te)∧W.drew.cell? ⟨w.heap.size,3,none⟩=some (.slice ao nn cap):=⟨q0,p0,p1,p2,p3⟩
 iterate 8 (refine wpTo_nx (v:=?_) rfl rfl (by kernel_rfl) (by decide) (by kernel_rfl) (by kernel_rfl) (fun _ _ _ h=>h) (Or.inl ⟨by rfl,?_⟩) hS ?_;rotate_left;(· (intro wx hSw;(try dsimp only at hSw);go_simp;try (with_reducible rfl)));simp only [Act.put,List.setIfInBounds_toArray,List.set_cons_zero,List.set_cons_succ])
 refine wpTo_one (i:=8) (by kernel_rfl) rfl (fun K hK=>?_)
 go_simp
 refine ((HFIT.out) _ ((HROW.out).below ((Below.refl _ W).drew))).mono ?_
 rintro e w2 ⟨rfl,B2⟩
 have b2:Below W.heap.size W w2:=((Below.refl _ W).drew).trans B2
 have c2:=Kp.ofBelow b2 (fun _=>False)
 replace q0:=c2.cellv q0 id
 replace p0:=c2.cellv p0 id
 replace p1:=c2.cellv p1 id
 replace p2:=c2.cellv p2 id
 replace p3:=c2.cellv p3 id
 go_simp
 refine hK.out _ _ (fun _=>⟨q0,p0,p1,p2,p3⟩) (fun _=>wpTo_end (by kernel_rfl) ?_)
 clear hK K hS c2
 refine NoPanic.normal ?_
 have HK2:Hid (Below w.heap.size w w2):=(HK1.out).trans (b2.mono (HK1.out).size)
 have HR2:=hide ((HROW.out).below b2)
 have HG2:Hid (∃ lv,IsPg w2 Q R ls lv):=by
  obtain ⟨lv,hlv⟩:=HG.out
  exact ⟨lv,hlv.below HK2.out⟩
 have HPT2:=hide ((HPT.out).kept (Kp.ofBelow HK2.out (fun _=>False)) (fun _ h=>h.elim))
 have HBX2:=hide ((Kp.ofBelow b2 (fun _=>False)).heap HBX.out id)
 clear b2 B2 HROW HG HK1 HBX HPT HFIT
 rw [← HFE.out]
 by_cases hW:n+X.chars (X.flat [.br 9 ps])+1≤80
 ·have c0:decide ((X.chars (X.flat [.br 9 ps]):Int)≤80 - (n:Int) - 1)=true:=decide_eq_true (by omega)
  rw [c0]
  go_wp2_with fail
  refine (gadd_any n i te Q R ls w2 HG2.out (by omega)).mono ?_
  rintro e w3 ⟨rfl,H3⟩
  have HF:Hid (∃ ls',X.SG L i (X.nt (.br 9 ps)).length ls' (X.ex f n (.br 9 ps))∧PgTo w Q R (ls++ls') w3):=⟨_,X.SG.whole HAT.out HNE.out hn522 HTE.out ((HW.out) hW),PgTo.from HK2.out H3.out⟩
  clear H3
  go_wp2_with fail
  try simp only [Exit.inBlock,Exit.then]
  refine bodyPost_ret (v:=.tuple #[]) (by simp [results,Tryz.results90,go_sem]) rfl ?_
  exact ⟨rfl,HF⟩
 have c0:decide ((X.chars (X.flat [.br 9 ps]):Int)≤80 - (n:Int) - 1)=false:=decide_eq_false (by omega)
 rw [c0]
 obtain ⟨f',rfl⟩:∃ f',f=f'+1:=⟨f - 1,by have:=List.length_pos_iff.2 HNE.out;omega⟩
 have hex:∀ e,X.ex (f'+1) n (.br 9 ps) e=X.line n (X.flat [X.lf ta,.br 6 qs,X.lf tb])++X.ex f' (n+2) q e:=fun e=>by
  conv=>lhs;unfold X.ex
  rw [if_neg hW,show X.kindOf (.br 9 ps)=9 from rfl,if_neg (by decide),if_neg (by decide),if_pos rfl,show X.kidsOf (.br 9 ps)=ps from rfl,hsp]
  rfl
 have hflsM:X.fl false (.br 9 ps)=X.fls false [X.lf ta,.br 6 qs,X.lf tb]++X.fl false q:=by
  rw [X.fl_br,X.fls_pts,hsp,← X.fls_one false q,← X.fls_append];rfl
 have htk:X.tks (X.kidsOf (.br 9 ps))=X.tks [X.lf ta,.br 6 qs,X.lf tb]++[q]:=by
  rw [show X.kidsOf (.br 9 ps)=ps from rfl,X.tks_pts,hsp]
  have:=X.tks_append [X.lf ta,.br 6 qs,X.lf tb] [q]
  rw [X.tks_one hq.ne] at this
  exact this
 have hMt:(X.nts' (X.tks [X.lf ta,.br 6 qs,X.lf tb])).length=(X.fls false [X.lf ta,.br 6 qs,X.lf tb]).length:=by rw [X.nts_tks,X.fls_len]
 have hMn:X.fls false [X.lf ta,.br 6 qs,X.lf tb]≠[]:=fun e=>by
  have h1:=congrArg List.length e
  rw [X.fls_len,X.nts_cons,X.nt_lf,if_pos (X.mem_pts hsp (by simp)),List.length_append] at h1
  simp at h1
 have hnp:(X.nt (.br 9 ps)).length=(X.fls false [X.lf ta,.br 6 qs,X.lf tb]).length+(X.nt q).length:=by rw [← X.fl_len false,hflsM,List.length_append,X.fl_len]
 have hdq:(n+2)+X.dp q≤522:=by
  have:=X.dp_pts (k:=9) (by decide) hsp (p:=q) (by simp)
  first|(rw [if_neg (by decide)] at this;omega)|(rw [if_pos (by decide)] at this;omega)
 have hMp:=List.length_pos_iff.2 hMn
 have HA2:=hide HAT.out
 rw [hflsM] at HA2
 have HT:=hide (fun W v hr hg hp=>gtail_any L (.br 9 ps) q (X.tks [X.lf ta,.br 6 qs,X.lf tb]) htk ih f' n (n+2) i W Q R rm D v ls hr hg hp (by rw [hMt];exact (HA2.out).right) (by omega) hdq (by omega))
 have HEND:Hid (∀ ls',X.SG L (i+(X.nts' (X.tks [X.lf ta,.br 6 qs,X.lf tb])).length) (X.nt q).length ls' (X.ex f' (n+2) q)→X.SG L i (X.nt (.br 9 ps)).length ([(n,i,i+(X.nts' (X.tks [X.lf ta,.br 6 qs,X.lf tb])).length)]++ls') (X.ex (f'+1) n (.br 9 ps))):=fun ls' h=>by
  rw [hMt] at h ⊢
  have h1:=X.RG.first (n:=n) (j:=i+(X.fls false [X.lf ta,.br 6 qs,X.lf tb]).length) (HA2.out).left hMn hn522 rfl
  exact (h1.then h).of hnp.symm rfl (fun e=>(hex e).symm)
 clear hex hflsM htk hMt hMn hnp hdq hMp HA2 HW
 go_wp2_with fail
 refine ((HT.out) w2 _ HR2.out HG2.out HPT2.out).mono ?_
 rintro e w3 ⟨rfl,H3⟩
 have HF:Hid (∃ ls',X.SG L i (X.nt (.br 9 ps)).length ls' (X.ex (f'+1) n (.br 9 ps))∧PgTo w Q R (ls++ls') w3):=by
  obtain ⟨ls',h1,h2⟩:=H3.out
  exact ⟨_,(HEND.out) ls' h1,PgTo.from HK2.out h2⟩
 clear H3
 go_wp2_with fail
 go_end0
 exact ⟨rfl,HF⟩
end Go.Proofs.YtgpcpbmacdhlkaaGreatDoor
/- Package lay: expression: a choice,two expressions and a sign. -/
namespace Go.Proofs.YtgpcpbmacdhlkaaGreatDoor
open Go.RowKit
open M
theorem X.dp_bin {ps:List X.Part} {q s:X.Part} {t:X.Tok} (h:X.pts ps=[q,X.lf t,s]):X.dp q≤X.dp (.br 10 ps)∧X.dp s+2≤X.dp (.br 10 ps):=by
 obtain ⟨d1,d2⟩:=X.dpb_pts h
 have d3:X.dp s≤X.dps [X.lf t,s]:=X.dps_mem (by simp)
 have d4:X.dp (.br 10 ps)=X.dpb ps:=by rw [X.dp,if_pos rfl]
 omega
set_option maxRecDepth 100000 in
set_option maxHeartbeats 8000000 in
theorem gexpr_if (L:List X.Lf) (hL:L.length≤268435456) (hF:(X.flt L).length≤8589934592) (ps:List X.Part) (ta tb tc:X.Tok) (p q s:X.Part) (hsp:X.pts ps=[X.lf ta,p,X.lf tb,q,X.lf tc,s]) (hc:tc.2=X.sElse) (hp:X.Sh p) (hq:X.Sh q) (hs:X.Sh s) (ihq:XC L q) (ihs:XC L s) (hsh:X.Sh (.br 8 ps)):XC L (.br 8 ps):=by
 intro f n i w Q R rm D v ls hr hg h hA hf hd hl
 have hne:X.nt (.br 8 ps)≠[]:=hsh.ne
 have hfl:=X.fl_len false (.br 8 ps)
 have hMne:X.fl false (.br 8 ps)≠[]:=fun e=>hne (List.length_eq_zero_iff.1 (by rw [← hfl,e];rfl))
 have hle:=hA.le
 rw [hfl] at hle
 obtain ⟨ao,cap,hv,hc1,hc2,-⟩:=h.kid
 have HPT:=hide h
 subst hv
 have hkk:X.kindOf (.br 8 ps)=8:=rfl
 rw [hkk] at HPT ⊢
 have HW:Hid (n+X.chars (X.flat [.br 8 ps])+1≤80→∀ e,X.ex f n (.br 8 ps) e=X.line n (X.flat [.br 8 ps]++e)):=fun h e=>X.ex_fit h
 have hfe:X.flat [.br 8 ps]=X.flt (X.fl false (.br 8 ps)):=X.flat_one _
 obtain ⟨te,hteq⟩:∃ te,te=i+(X.nt (.br 8 ps)).length:=⟨_,rfl⟩
 rw [← hteq] at HPT ⊢
 obtain ⟨nn,hnn⟩:∃ nn,nn=(X.tks (X.kidsOf (.br 8 ps))).length:=⟨_,rfl⟩
 rw [← hnn] at HPT ⊢
 have k1:Below w.heap.size w (w.alloc (.cells #[.int .i64 8,.int .i64 i,.int .i64 te,.slice ao nn cap] 95)):=(Below.refl _ w).alloc (Nat.le_refl _) _
 have HFIT:=hide (fun W (hI:IsRow W R rm L)=>afits_any L (X.fl false (.br 8 ps)) i te R rm W 8 ao nn cap (80 - (n:Int) - 1) hI hA hMne (by rw [hfl];exact hteq) hL hF (by omega) (by omega))
 have hbx:(w.alloc (.cells #[.int .i64 8,.int .i64 i,.int .i64 te,.slice ao nn cap] 95)).heap[w.heap.size]?=some (.cells #[.int .i64 8,.int .i64 i,.int .i64 te,.slice ao nn cap] 95 (0,0)):=heap_alloc_new w _
 have hn522:n≤522:=by omega
 have HROW:=hide (hr.below k1)
 have HG:=hide hg
 have HK1:=hide k1
 have HBX:=hide hbx
 have HAT:=hide hA
 have HTE:=hide hteq
 have HNN:=hide hnn
 have HFE:=hide hfe
 obtain ⟨lv0,hlv0⟩:=hg
 have q0:=cell_of_row _ _ 0 _ _ _ (hlv0.below k1).blk
 have hQl:Q<w.heap.size:=heap_lt hlv0.blk
 have p0:=cell_of_row _ _ 0 _ _ _ hbx
 have p1:=cell_of_row _ _ 1 _ _ _ hbx
 have p2:=cell_of_row _ _ 2 _ _ _ hbx
 have p3:=cell_of_row _ _ 3 _ _ _ hbx
 have HNE:=hide hne
 have hwr1:IntKind.i64.wrap (80 - (n:Int))=80 - (n:Int):=by rw [IntKind.wrap_i64];omega
 have hwr2:IntKind.i64.wrap (80 - (n:Int) - 1)=80 - (n:Int) - 1:=by rw [IntKind.wrap_i64];omega
 clear hr h hA k1 hbx hlv0 hteq hnn hfe hMne hne hkk hc1 hc2
 have htk:X.tks (X.kidsOf (.br 8 ps))=[X.lf ta,p,X.lf tb,q,X.lf tc,s]:=by
  rw [show X.kidsOf (.br 8 ps)=ps from rfl,X.tks_pts,hsp]
  refine X.tks_all (fun x hx=>?_)
  simp only [List.mem_cons,List.not_mem_nil,or_false] at hx
  rcases hx with rfl|rfl|rfl|rfl|rfl|rfl
  all_goals first|exact X.nt_lf_ne (X.mem_pts hsp (by simp))|exact hp.ne|exact hq.ne|exact hs.ne
 obtain ⟨g,-,-,-,rfl,-⟩:=(HPT.out).kidv (j:=3) (q:=q) (by rw [htk];rfl)
 obtain rfl:nn=6:=by rw [HNN.out,htk];rfl
 have hflsM:X.fl false (.br 8 ps)=X.fls false [X.lf ta,p,X.lf tb]++(X.fl false q++(X.fl false (X.lf tc)++X.fl false s)):=by
  rw [X.fl_br,X.fls_pts,hsp,← X.fls_one false s,← X.fls_one false (X.lf tc),← X.fls_one false q,← X.fls_append,← X.fls_append,← X.fls_append];rfl
 have HFLS:=hide hflsM
 have HTK:=hide htk
 clear hflsM htk
 go_enter Tryz.func90,Tryz.ntmps90
 go_wp2_with fail
 generalize w.alloc (.cells #[.int .i64 8,.int .i64 i,.int .i64 te,.slice (some ⟨g,0,none⟩) 6 cap] 95)=W at *
 refine wp_region_noPanic ?_
 refine wpTo_start (S:=fun w'=>w'.cell? ⟨Q,0,none⟩=some (.pointer (some ⟨R,0,none⟩))∧w'.cell? ⟨w.heap.size,0,none⟩=some (.int .i64 8)∧w'.cell? ⟨w.heap.size,1,none⟩=some (.int .i64 i)∧w'.cell? ⟨w.heap.size,2,none⟩=some (.int .i64 te)∧w'.cell? ⟨w.heap.size,3,none⟩=some (.slice (some ⟨g,0,none⟩) 6 cap)) (z:=9) (by kernel_rfl) ?_
 have hS:W.drew.cell? ⟨Q,0,none⟩=some (.pointer (some ⟨R,0,none⟩))∧W.drew.cell? ⟨w.heap.size,0,none⟩=some (.int .i64 8)∧W.drew.cell? ⟨w.heap.size,1,none⟩=some (.int .i64 i)∧W.drew.cell? ⟨w.heap.size,2,none⟩=some (.int .i64 te)∧W.drew.cell? ⟨w.heap.size,3,none⟩=some (.slice (some ⟨g,0,none⟩) 6 cap):=⟨q0,p0,p1,p2,p3⟩
 iterate 8 (refine wpTo_nx (v:=?_) rfl rfl (by kernel_rfl) (by decide) (by kernel_rfl) (by kernel_rfl) (fun _ _ _ h=>h) (Or.inl ⟨by rfl,?_⟩) hS ?_;rotate_left;(· (intro wx hSw;(try dsimp only at hSw);go_simp;try (with_reducible rfl)));simp only [Act.put,List.setIfInBounds_toArray,List.set_cons_zero,List.set_cons_succ])
 refine wpTo_one (i:=8) (by kernel_rfl) rfl (fun K hK=>?_)
 go_simp
 refine ((HFIT.out) _ ((HROW.out).below ((Below.refl _ W).drew))).mono ?_
 rintro e w2 ⟨rfl,B2⟩
 have b2:Below W.heap.size W w2:=((Below.refl _ W).drew).trans B2
 have c2:=Kp.ofBelow b2 (fun _=>False)
 replace q0:=c2.cellv q0 id
 replace p0:=c2.cellv p0 id
 replace p1:=c2.cellv p1 id
 replace p2:=c2.cellv p2 id
 replace p3:=c2.cellv p3 id
 go_simp
 refine hK.out _ _ (fun _=>⟨q0,p0,p1,p2,p3⟩) (fun _=>wpTo_end (by kernel_rfl) ?_)
 clear hK K hS c2
 refine NoPanic.normal ?_
 have HK2:Hid (Below w.heap.size w w2):=(HK1.out).trans (b2.mono (HK1.out).size)
 have HR2:=hide ((HROW.out).below b2)
 have HG2:Hid (∃ lv,IsPg w2 Q R ls lv):=by
  obtain ⟨lv,hlv⟩:=HG.out
  exact ⟨lv,hlv.below HK2.out⟩
 have HPT2:=hide ((HPT.out).kept (Kp.ofBelow HK2.out (fun _=>False)) (fun _ h=>h.elim))
 have HBX2:=hide ((Kp.ofBelow b2 (fun _=>False)).heap HBX.out id)
 clear b2 B2 HROW HG HK1 HBX HPT HFIT
 rw [← HFE.out]
 by_cases hW:n+X.chars (X.flat [.br 8 ps])+1≤80
 ·have c0:decide ((X.chars (X.flat [.br 8 ps]):Int)≤80 - (n:Int) - 1)=true:=decide_eq_true (by omega)
  rw [c0]
  go_wp2_with fail
  refine (gadd_any n i te Q R ls w2 HG2.out (by omega)).mono ?_
  rintro e w3 ⟨rfl,H3⟩
  have HF:Hid (∃ ls',X.SG L i (X.nt (.br 8 ps)).length ls' (X.ex f n (.br 8 ps))∧PgTo w Q R (ls++ls') w3):=⟨_,X.SG.whole HAT.out HNE.out hn522 HTE.out ((HW.out) hW),PgTo.from HK2.out H3.out⟩
  clear H3
  go_wp2_with fail
  try simp only [Exit.inBlock,Exit.then]
  refine bodyPost_ret (v:=.tuple #[]) (by simp [results,Tryz.results90,go_sem]) rfl ?_
  exact ⟨rfl,HF⟩
 have c0:decide ((X.chars (X.flat [.br 8 ps]):Int)≤80 - (n:Int) - 1)=false:=decide_eq_false (by omega)
 rw [c0]
 obtain ⟨f',rfl⟩:∃ f',f=f'+1:=⟨f - 1,by have:=List.length_pos_iff.2 HNE.out;omega⟩
 have hex:∀ e,X.ex (f'+1) n (.br 8 ps) e=X.line n (X.flat [X.lf ta,p,X.lf tb])++(X.ex f' (n+2) q []++(X.line n X.sElse++X.ex f' (n+2) s e)):=fun e=>by
  conv=>lhs;unfold X.ex
  rw [if_neg hW,show X.kindOf (.br 8 ps)=8 from rfl,if_neg (by decide),if_pos rfl,show X.kidsOf (.br 8 ps)=ps from rfl,hsp]
  rfl
 have hlc:X.lou tc=true:=X.mem_pts hsp (by simp)
 have hc1:X.fl false (X.lf tc)=[(tc,false)]:=by rw [X.fl_lf hlc];rfl
 have hcn:(X.nt (X.lf tc)).length=1:=by rw [X.nt_lf,if_pos hlc];rfl
 have HA2:=hide HAT.out
 rw [HFLS.out] at HA2
 have hMn:X.fls false [X.lf ta,p,X.lf tb]≠[]:=fun e=>by
  have h1:=congrArg List.length e
  rw [X.fls_len,X.nts_cons,X.nt_lf,if_pos (X.mem_pts hsp (by simp)),List.length_append] at h1
  simp at h1
 have hMp:=List.length_pos_iff.2 hMn
 have hA1:=(HA2.out).left
 have hAq:=(HA2.out).right.left
 have hAc:=(HA2.out).right.right.left
 have hAs:=(HA2.out).right.right.right
 rw [X.fl_len] at hAc hAs
 rw [hc1] at hAc
 rw [hc1,List.length_singleton] at hAs
 have hnp:(X.nt (.br 8 ps)).length=(X.fls false [X.lf ta,p,X.lf tb]).length+((X.nt q).length+(1+(X.nt s).length)):=by rw [← X.fl_len false,HFLS.out,List.length_append,List.length_append,List.length_append,X.fl_len,X.fl_len,X.fl_len,hcn]
 have hdq:n+2+X.dp q≤522:=by
  have:=X.dp_pts (k:=8) (by decide) hsp (p:=q) (by simp)
  rw [if_pos (by decide)] at this;omega
 have hds:n+2+X.dp s≤522:=by
  have:=X.dp_pts (k:=8) (by decide) hsp (p:=s) (by simp)
  rw [if_pos (by decide)] at this;omega
 obtain ⟨g1,a1,a2,a3,e1,⟨cur,hgb⟩,x0,x1,x2,x3,hPq⟩:=(HPT2.out).kidv (j:=3) (q:=q) (by rw [HTK.out];rfl)
 injection e1 with e1
 injection e1 with e1
 subst e1
 obtain ⟨g1,b1,b2,b3,e1,-,y0,y1,y2,y3,-⟩:=(HPT2.out).kidv (j:=4) (q:=(X.lf tc)) (by rw [HTK.out];rfl)
 injection e1 with e1
 injection e1 with e1
 subst e1
 obtain ⟨g1,d1,d2,d3,e1,-,z0,z1,z2,z3,hPs⟩:=(HPT2.out).kidv (j:=5) (q:=s) (by rw [HTK.out];rfl)
 injection e1 with e1
 injection e1 with e1
 subst e1
 have efq:i+(X.nts' ((X.tks (X.kidsOf (.br 8 ps))).take 3)).length=i+(X.fls false [X.lf ta,p,X.lf tb]).length:=by rw [HTK.out];rw [X.fls_len];rfl
 have efd:i+(X.nts' ((X.tks (X.kidsOf (.br 8 ps))).take 4)).length=i+(X.fls false [X.lf ta,p,X.lf tb]).length+(X.nt q).length:=by
  rw [HTK.out,show ([X.lf ta,p,X.lf tb,q,X.lf tc,s]:List X.Part).take 4=[X.lf ta,p,X.lf tb]++[q] from rfl,X.nts_append,X.nts_one,List.length_append,X.fls_len];omega
 have efs:i+(X.nts' ((X.tks (X.kidsOf (.br 8 ps))).take 5)).length=i+(X.fls false [X.lf ta,p,X.lf tb]).length+(X.nt q).length+1:=by
  rw [HTK.out,show ([X.lf ta,p,X.lf tb,q,X.lf tc,s]:List X.Part).take 5=[X.lf ta,p,X.lf tb]++([q]++[(X.lf tc)]) from rfl,X.nts_append,X.nts_append,X.nts_one,X.nts_one,List.length_append,List.length_append,hcn,X.fls_len];omega
 rw [efq] at x1 x2 hPq
 rw [efd] at y1 y2
 rw [efs] at z1 z2 hPs
 rw [hcn] at y2
 have HC:=hide (gchoice_any L q s ihq ihs f' n i te 8 g cap w2 Q R rm D ls _ _ _ _ _ _ _ _ _ a1 a2 a3 b1 b2 b3 d1 d2 d3 cur hgb x0 x1 x2 x3 y0 y1 y2 y3 z0 z1 z2 z3 HR2.out HG2.out hPq hPs hAq hAs (by omega) (by omega) hdq hds (by omega))
 have HEND:Hid (∀ l1 l2,X.SG L (i+(X.fls false [X.lf ta,p,X.lf tb]).length) (X.nt q).length l1 (X.ex f' (n+2) q)→X.SG L (i+(X.fls false [X.lf ta,p,X.lf tb]).length+(X.nt q).length+1) (X.nt s).length l2 (X.ex f' (n+2) s)→X.SG L i (X.nt (.br 8 ps)).length ([(n,i,i+(X.fls false [X.lf ta,p,X.lf tb]).length)]++l1++[(n,i+(X.fls false [X.lf ta,p,X.lf tb]).length+(X.nt q).length,i+(X.fls false [X.lf ta,p,X.lf tb]).length+(X.nt q).length+1)]++l2) (X.ex (f'+1) n (.br 8 ps))):=fun l1 l2 h2 h4=>by
  have h3:=X.RG.first (n:=n) (j:=i+(X.fls false [X.lf ta,p,X.lf tb]).length+(X.nt q).length+1) hAc (by simp) hn522 rfl
  have h1:=X.RG.first (n:=n) (j:=i+(X.fls false [X.lf ta,p,X.lf tb]).length) hA1 hMn hn522 rfl
  rw [Nat.add_assoc] at h3
  rw [Nat.add_assoc,Nat.add_assoc] at h4
  have h5:=((h1.app h2.rg).app h3).then (by rw [Nat.add_assoc];exact h4)
  refine h5.of (by rw [hnp];simp;omega) (by simp [Nat.add_assoc]) (fun e=>?_)
  rw [hex e]
  rw [← hc]
  simp only [List.append_assoc]
  rfl
 clear hex hlc hc1 hcn HA2 hnp hdq hds hMn hMp hA1 hAq hAc hAs x0 x1 x2 x3 y0 y1 y2 y3 z0 z1 z2 z3 hPq hPs efq efd efs HW HTK HFLS
 go_wp2_with fail
 refine (HC.out).mono ?_
 rintro e w3 ⟨rfl,H3⟩
 have HF:Hid (∃ ls',X.SG L i (X.nt (.br 8 ps)).length ls' (X.ex (f'+1) n (.br 8 ps))∧PgTo w Q R (ls++ls') w3):=by
  obtain ⟨l1,l2,h1,h2,h3⟩:=H3.out
  exact ⟨_,(HEND.out) l1 l2 h1 h2,PgTo.from HK2.out h3⟩
 clear H3
 go_wp2_with fail
 go_end0
 exact ⟨rfl,HF⟩
set_option maxRecDepth 100000 in
set_option maxHeartbeats 8000000 in
theorem gexpr_bin (L:List X.Lf) (hL:L.length≤268435456) (hF:(X.flt L).length≤8589934592) (ps:List X.Part) (tc:X.Tok) (q s:X.Part) (hsp:X.pts ps=[q,X.lf tc,s]) (hq:X.Sh q) (hs:X.Sh s) (ihq:XC L q) (ihs:XC L s) (hsh:X.Sh (.br 10 ps)):XC L (.br 10 ps):=by
 intro f n i w Q R rm D v ls hr hg h hA hf hd hl
 have hne:X.nt (.br 10 ps)≠[]:=hsh.ne
 have hfl:=X.fl_len false (.br 10 ps)
 have hMne:X.fl false (.br 10 ps)≠[]:=fun e=>hne (List.length_eq_zero_iff.1 (by rw [← hfl,e];rfl))
 have hle:=hA.le
 rw [hfl] at hle
 obtain ⟨ao,cap,hv,hc1,hc2,-⟩:=h.kid
 have HPT:=hide h
 subst hv
 have hkk:X.kindOf (.br 10 ps)=10:=rfl
 rw [hkk] at HPT ⊢
 have HW:Hid (n+X.chars (X.flat [.br 10 ps])+1≤80→∀ e,X.ex f n (.br 10 ps) e=X.line n (X.flat [.br 10 ps]++e)):=fun h e=>X.ex_fit h
 have hfe:X.flat [.br 10 ps]=X.flt (X.fl false (.br 10 ps)):=X.flat_one _
 obtain ⟨te,hteq⟩:∃ te,te=i+(X.nt (.br 10 ps)).length:=⟨_,rfl⟩
 rw [← hteq] at HPT ⊢
 obtain ⟨nn,hnn⟩:∃ nn,nn=(X.tks (X.kidsOf (.br 10 ps))).length:=⟨_,rfl⟩
 rw [← hnn] at HPT ⊢
 have k1:Below w.heap.size w (w.alloc (.cells #[.int .i64 10,.int .i64 i,.int .i64 te,.slice ao nn cap] 95)):=(Below.refl _ w).alloc (Nat.le_refl _) _
 have HFIT:=hide (fun W (hI:IsRow W R rm L)=>afits_any L (X.fl false (.br 10 ps)) i te R rm W 10 ao nn cap (80 - (n:Int) - 1) hI hA hMne (by rw [hfl];exact hteq) hL hF (by omega) (by omega))
 have hbx:(w.alloc (.cells #[.int .i64 10,.int .i64 i,.int .i64 te,.slice ao nn cap] 95)).heap[w.heap.size]?=some (.cells #[.int .i64 10,.int .i64 i,.int .i64 te,.slice ao nn cap] 95 (0,0)):=heap_alloc_new w _
 have hn522:n≤522:=by omega
 have HROW:=hide (hr.below k1)
 have HG:=hide hg
 have HK1:=hide k1
 have HBX:=hide hbx
 have HAT:=hide hA
 have HTE:=hide hteq
 have HNN:=hide hnn
 have HFE:=hide hfe
 obtain ⟨lv0,hlv0⟩:=hg
 have q0:=cell_of_row _ _ 0 _ _ _ (hlv0.below k1).blk
 have hQl:Q<w.heap.size:=heap_lt hlv0.blk
 have p0:=cell_of_row _ _ 0 _ _ _ hbx
 have p1:=cell_of_row _ _ 1 _ _ _ hbx
 have p2:=cell_of_row _ _ 2 _ _ _ hbx
 have p3:=cell_of_row _ _ 3 _ _ _ hbx
 have HNE:=hide hne
 have hwr1:IntKind.i64.wrap (80 - (n:Int))=80 - (n:Int):=by rw [IntKind.wrap_i64];omega
 have hwr2:IntKind.i64.wrap (80 - (n:Int) - 1)=80 - (n:Int) - 1:=by rw [IntKind.wrap_i64];omega
 clear hr h hA k1 hbx hlv0 hteq hnn hfe hMne hne hkk hc1 hc2
 have htk:X.tks (X.kidsOf (.br 10 ps))=[q,X.lf tc,s]:=by
  rw [show X.kidsOf (.br 10 ps)=ps from rfl,X.tks_pts,hsp]
  refine X.tks_all (fun x hx=>?_)
  simp only [List.mem_cons,List.not_mem_nil,or_false] at hx
  rcases hx with rfl|rfl|rfl
  all_goals first|exact X.nt_lf_ne (X.mem_pts hsp (by simp))|exact hp.ne|exact hq.ne|exact hs.ne
 obtain ⟨g,-,-,-,rfl,-⟩:=(HPT.out).kidv (j:=0) (q:=q) (by rw [htk];rfl)
 obtain rfl:nn=3:=by rw [HNN.out,htk];rfl
 have hflsM:X.fl false (.br 10 ps)=(X.fl false q++(X.fl false (X.lf tc)++X.fl false s)):=by
  rw [X.fl_br,X.fls_pts,hsp,← X.fls_one false s,← X.fls_one false (X.lf tc),← X.fls_one false q,← X.fls_append,← X.fls_append];rfl
 have HFLS:=hide hflsM
 have HTK:=hide htk
 clear hflsM htk
 go_enter Tryz.func90,Tryz.ntmps90
 go_wp2_with fail
 generalize w.alloc (.cells #[.int .i64 10,.int .i64 i,.int .i64 te,.slice (some ⟨g,0,none⟩) 3 cap] 95)=W at *
 refine wp_region_noPanic ?_
 refine wpTo_start (S:=fun w'=>w'.cell? ⟨Q,0,none⟩=some (.pointer (some ⟨R,0,none⟩))∧w'.cell? ⟨w.heap.size,0,none⟩=some (.int .i64 10)∧w'.cell? ⟨w.heap.size,1,none⟩=some (.int .i64 i)∧w'.cell? ⟨w.heap.size,2,none⟩=some (.int .i64 te)∧w'.cell? ⟨w.heap.size,3,none⟩=some (.slice (some ⟨g,0,none⟩) 3 cap)) (z:=9) (by kernel_rfl) ?_
 have hS:W.drew.cell? ⟨Q,0,none⟩=some (.pointer (some ⟨R,0,none⟩))∧W.drew.cell? ⟨w.heap.size,0,none⟩=some (.int .i64 10)∧W.drew.cell? ⟨w.heap.size,1,none⟩=some (.int .i64 i)∧W.drew.cell? ⟨w.heap.size,2,none⟩=some (.int .i64 te)∧W.drew.cell? ⟨w.heap.size,3,none⟩=some (.slice (some ⟨g,0,none⟩) 3 cap):=⟨q0,p0,p1,p2,p3⟩
 iterate 8 (refine wpTo_nx (v:=?_) rfl rfl (by kernel_rfl) (by decide) (by kernel_rfl) (by kernel_rfl) (fun _ _ _ h=>h) (Or.inl ⟨by rfl,?_⟩) hS ?_;rotate_left;(· (intro wx hSw;(try dsimp only at hSw);go_simp;try (with_reducible rfl)));simp only [Act.put,List.setIfInBounds_toArray,List.set_cons_zero,List.set_cons_succ])
 refine wpTo_one (i:=8) (by kernel_rfl) rfl (fun K hK=>?_)
 go_simp
 refine ((HFIT.out) _ ((HROW.out).below ((Below.refl _ W).drew))).mono ?_
 rintro e w2 ⟨rfl,B2⟩
 have b2:Below W.heap.size W w2:=((Below.refl _ W).drew).trans B2
 have c2:=Kp.ofBelow b2 (fun _=>False)
 replace q0:=c2.cellv q0 id
 replace p0:=c2.cellv p0 id
 replace p1:=c2.cellv p1 id
 replace p2:=c2.cellv p2 id
 replace p3:=c2.cellv p3 id
 go_simp
 refine hK.out _ _ (fun _=>⟨q0,p0,p1,p2,p3⟩) (fun _=>wpTo_end (by kernel_rfl) ?_)
 clear hK K hS c2
 refine NoPanic.normal ?_
 have HK2:Hid (Below w.heap.size w w2):=(HK1.out).trans (b2.mono (HK1.out).size)
 have HR2:=hide ((HROW.out).below b2)
 have HG2:Hid (∃ lv,IsPg w2 Q R ls lv):=by
  obtain ⟨lv,hlv⟩:=HG.out
  exact ⟨lv,hlv.below HK2.out⟩
 have HPT2:=hide ((HPT.out).kept (Kp.ofBelow HK2.out (fun _=>False)) (fun _ h=>h.elim))
 have HBX2:=hide ((Kp.ofBelow b2 (fun _=>False)).heap HBX.out id)
 clear b2 B2 HROW HG HK1 HBX HPT HFIT
 rw [← HFE.out]
 by_cases hW:n+X.chars (X.flat [.br 10 ps])+1≤80
 ·have c0:decide ((X.chars (X.flat [.br 10 ps]):Int)≤80 - (n:Int) - 1)=true:=decide_eq_true (by omega)
  rw [c0]
  go_wp2_with fail
  refine (gadd_any n i te Q R ls w2 HG2.out (by omega)).mono ?_
  rintro e w3 ⟨rfl,H3⟩
  have HF:Hid (∃ ls',X.SG L i (X.nt (.br 10 ps)).length ls' (X.ex f n (.br 10 ps))∧PgTo w Q R (ls++ls') w3):=⟨_,X.SG.whole HAT.out HNE.out hn522 HTE.out ((HW.out) hW),PgTo.from HK2.out H3.out⟩
  clear H3
  go_wp2_with fail
  try simp only [Exit.inBlock,Exit.then]
  refine bodyPost_ret (v:=.tuple #[]) (by simp [results,Tryz.results90,go_sem]) rfl ?_
  exact ⟨rfl,HF⟩
 have c0:decide ((X.chars (X.flat [.br 10 ps]):Int)≤80 - (n:Int) - 1)=false:=decide_eq_false (by omega)
 rw [c0]
 obtain ⟨f',rfl⟩:∃ f',f=f'+1:=⟨f - 1,by have:=List.length_pos_iff.2 HNE.out;omega⟩
 have hex:∀ e,X.ex (f'+1) n (.br 10 ps) e=X.ex f' n q []++(X.line n tc.2++X.ex f' (n+2) s e):=fun e=>by
  conv=>lhs;unfold X.ex
  rw [if_neg hW,show X.kindOf (.br 10 ps)=10 from rfl,if_neg (by decide),if_neg (by decide),if_neg (by decide),if_pos rfl,show X.kidsOf (.br 10 ps)=ps from rfl,hsp]
  rfl
 have hlc:X.lou tc=true:=X.mem_pts hsp (by simp)
 have hc1:X.fl false (X.lf tc)=[(tc,false)]:=by rw [X.fl_lf hlc];rfl
 have hcn:(X.nt (X.lf tc)).length=1:=by rw [X.nt_lf,if_pos hlc];rfl
 have HA2:=hide HAT.out
 rw [HFLS.out] at HA2
 have hAq:=(HA2.out).left
 have hAc:=(HA2.out).right.left
 have hAs:=(HA2.out).right.right
 rw [X.fl_len] at hAc hAs
 rw [hc1] at hAc
 rw [hc1,List.length_singleton] at hAs
 have hnp:(X.nt (.br 10 ps)).length=((X.nt q).length+(1+(X.nt s).length)):=by rw [← X.fl_len false,HFLS.out,List.length_append,List.length_append,X.fl_len,X.fl_len,X.fl_len,hcn]
 obtain ⟨hdq',hds'⟩:=X.dp_bin hsp
 have hdq:n+X.dp q≤522:=by omega
 have hds:n+2+X.dp s≤522:=by omega
 obtain ⟨g1,a1,a2,a3,e1,⟨cur,hgb⟩,x0,x1,x2,x3,hPq⟩:=(HPT2.out).kidv (j:=0) (q:=q) (by rw [HTK.out];rfl)
 injection e1 with e1
 injection e1 with e1
 subst e1
 obtain ⟨g1,b1,b2,b3,e1,-,y0,y1,y2,y3,-⟩:=(HPT2.out).kidv (j:=1) (q:=(X.lf tc)) (by rw [HTK.out];rfl)
 injection e1 with e1
 injection e1 with e1
 subst e1
 obtain ⟨g1,d1,d2,d3,e1,-,z0,z1,z2,z3,hPs⟩:=(HPT2.out).kidv (j:=2) (q:=s) (by rw [HTK.out];rfl)
 injection e1 with e1
 injection e1 with e1
 subst e1
 have efq:i+(X.nts' ((X.tks (X.kidsOf (.br 10 ps))).take 0)).length=i:=by rw [HTK.out];rfl
 have efd:i+(X.nts' ((X.tks (X.kidsOf (.br 10 ps))).take 1)).length=i+(X.nt q).length:=by
  rw [HTK.out,show ([q,X.lf tc,s]:List X.Part).take 1=[q] from rfl,X.nts_one]
 have efs:i+(X.nts' ((X.tks (X.kidsOf (.br 10 ps))).take 2)).length=i+(X.nt q).length+1:=by
  rw [HTK.out,show ([q,X.lf tc,s]:List X.Part).take 2=([q]++[(X.lf tc)]) from rfl,X.nts_append,X.nts_one,X.nts_one,List.length_append,hcn];omega
 rw [efq] at x1 x2 hPq
 rw [efd] at y1 y2
 rw [efs] at z1 z2 hPs
 rw [hcn] at y2
 have HC:=hide (gbinary_any L q s ihq ihs f' n i te 10 g cap w2 Q R rm D ls _ _ _ _ _ _ _ _ _ a1 a2 a3 b1 b2 b3 d1 d2 d3 cur hgb x0 x1 x2 x3 y0 y1 y2 y3 z0 z1 z2 z3 HR2.out HG2.out hPq hPs hAq hAs (by omega) (by omega) hdq hds (by omega))
 have HEND:Hid (∀ l1 l2,X.SG L (i) (X.nt q).length l1 (X.ex f' n q)→X.SG L (i+(X.nt q).length+1) (X.nt s).length l2 (X.ex f' (n+2) s)→X.SG L i (X.nt (.br 10 ps)).length (l1++[(n,i+(X.nt q).length,i+(X.nt q).length+1)]++l2) (X.ex (f'+1) n (.br 10 ps))):=fun l1 l2 h2 h4=>by
  have h3:=X.RG.first (n:=n) (j:=i+(X.nt q).length+1) hAc (by simp) hn522 rfl
  rw [Nat.add_assoc] at h4
  have h5:=(h2.rg.app h3).then h4
  refine h5.of (by rw [hnp];simp;omega) (by simp [Nat.add_assoc]) (fun e=>?_)
  rw [hex e]
  skip
  simp only [List.append_assoc]
  rfl
 clear hex hlc hc1 hcn HA2 hnp hdq hds hAq hAc hAs x0 x1 x2 x3 y0 y1 y2 y3 z0 z1 z2 z3 hPq hPs efq efd efs HW HTK HFLS hdq' hds'
 go_wp2_with fail
 refine (HC.out).mono ?_
 rintro e w3 ⟨rfl,H3⟩
 have HF:Hid (∃ ls',X.SG L i (X.nt (.br 10 ps)).length ls' (X.ex (f'+1) n (.br 10 ps))∧PgTo w Q R (ls++ls') w3):=by
  obtain ⟨l1,l2,h1,h2,h3⟩:=H3.out
  exact ⟨_,(HEND.out) l1 l2 h1 h2,PgTo.from HK2.out h3⟩
 clear H3
 go_wp2_with fail
 go_end0
 exact ⟨rfl,HF⟩
end Go.Proofs.YtgpcpbmacdhlkaaGreatDoor
