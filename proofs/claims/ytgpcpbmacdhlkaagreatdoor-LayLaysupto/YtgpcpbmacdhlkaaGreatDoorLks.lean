/- The document's lines of an expression: a call. -/
import Derived.Test.YtgpcpbmacdhlkaaGreatDoorLkg
namespace Go.Proofs.YtgpcpbmacdhlkaaGreatDoor
open Go.RowKit
open M
set_option maxRecDepth 100000 in
set_option maxHeartbeats 4000000 in
theorem expr_call0 (ps:List X.Part) (p:X.Part) (qs:List X.Part) (ta tb:X.Tok) (hsp:X.pts ps=[p,.br 12 qs]) (hqs:X.pts qs=[X.lf ta,X.lf tb]) (hsh:X.Sh (.br 11 ps)) (hp:Fine (.br 11 ps)):EC (.br 11 ps):=by
 intro f n e w a b v i h hb hfu hd he
 by_cases hW:n+X.chars (X.flat [.br 11 ps])+1≤80
 ·exact expr_fit _ hp f n e w a b v i h hb (by omega) he hW
 have hne:X.nt (.br 11 ps)≠[]:=hsh.ne
 obtain ⟨f',rfl⟩:∃ f',f=f'+1:=⟨f - 1,by have:=List.length_pos_iff.2 hne;omega⟩
 have hex:X.ex (f'+1) n (.br 11 ps) e=X.bracket (X.ex f' (n+2)) n (X.line n (X.flat [.br 11 ps]++e)) (X.flat [p]++[40]) (X.pts qs) e:=by
  conv=>lhs;unfold X.ex
  rw [if_neg hW,show X.kindOf (.br 11 ps)=11 from rfl,if_neg (by decide),if_neg (by decide),if_neg (by decide),if_neg (by decide),if_pos rfl,show X.kidsOf (.br 11 ps)=ps from rfl,hsp]
  all_goals rfl
 rw [hqs] at hex
 unfold X.bracket at hex
 rw [if_pos (by rfl)] at hex
 rw [hex]
 have hS:=flat_fine hp
 obtain ⟨N,ao0,cap0,at0,en,fr,tt,la,vs0,rfl,hN1,hN2,hnd,-⟩:=h.any
 obtain ⟨⟨c0,-⟩,-⟩:=hnd.facts
 have b0:((pk (.br 11 ps):Nat):Int)=11:=rfl
 rw [b0] at c0
 have HO:=hide (yone_any _ hp w a b _ i h hb)
 have hSz:=ba_size (X.flat [.br 11 ps])
 have hez:=ba_size e
 have HCh:=hide (fun W=>ychars_any (ba (X.flat [.br 11 ps])) W (by omega))
 rw [bs_ba] at HCh
 have HLi:=hide (fun W=>yline_any n (X.flat [.br 11 ps]++e) W (by omega) (by rw [List.length_append];omega))
 rw [← ba_app] at HLi
 have hlc:=X.chars_le _ (X.flat [.br 11 ps]) (Nat.le_refl _)
 have HH:=hide h
 have HP:=hide hp
 have hpl:=hp.parts
 clear hex hne hnd h
 generalize X.line n (X.flat [.br 11 ps]++e)=R at *
 generalize X.chars (X.flat [.br 11 ps])=c at *
 generalize ba (X.flat [.br 11 ps])=S at *
 generalize hE:ba e=E at *
 have hz1:¬ 9223372036854775807<S.size+E.size:=by omega
 have i1:decide ((n:Int)+(c:Int)+1≤80)=false:=decide_eq_false (by omega)
 have i2:¬(n:Int)+(c:Int)+1≤80:=by omega
 have i3:(80:Int)<(n:Int)+(c:Int)+1:=by omega
 have C0:=hide c0
 clear c0 b0 hp
 go_enter Tryz.func26,Tryz.ntmps26
 go_wp2_with fail
 refine (HO.out).mono ?_
 rintro r w1 ⟨rfl,k1⟩
 have K1:=hide k1
 have HH1:=hide ((HH.out).below k1)
 have hw1:=k1.size
 have d0:=kcb k1 (by omega) C0.out
 clear k1 HO HH C0
 go_wp2_with fail
 refine ((HCh.out) w1).mono ?_
 rintro r wa ⟨rfl,rfl⟩
 go_wp2_with fail
 refine ((HLi.out) wa).mono ?_
 rintro r wb ⟨rfl,rfl⟩
 clear HCh HLi
 go_wp2_with fail
 refine (parts_any HH1.out (by omega) (HP.out).kok (by show ps.length≤_;omega)).mono ?_
 rintro r w2 ⟨rv,rfl,X2⟩
 obtain ⟨⟨l1,hlp,hown⟩,k2⟩:=X2.out
 replace hlp:LP _ a b l1 ps i:=hlp
 have hat:=hlp.at
 rw [hsp] at hat
 have hll:l1.length=2:=hat.1
 have HV1:=hide (IsV.ofOwns hown)
 have HLP1:=hide hlp
 have K2:=hide k2
 have d0':=kcb k2 (by omega) d0
 have hw2:=k2.size
 obtain ⟨ro1,rc1,rfl,hrc1,hrm1,-⟩:=(HV1.out)
 have HAT1:=hide hat.2
 clear X2 hlp hown k2 hat d0
 obtain ⟨v0,k0,e0,n0⟩:=(HAT1.out) 0 p rfl
 have hc0:∀ W,Below w2.heap.size w2 W→∃ g,ro1=some ⟨g,0,none⟩∧W.cell? ⟨g,0,none⟩=some v0:=fun W hB=>by
  obtain ⟨g,eA,eB⟩:=(HV1.out).get hB rfl (by omega:0<l1.length)
  have:l1[0]'(by omega)=v0:=Option.some.inj ((List.getElem?_eq_getElem (by omega)).symm.trans e0)
  rw [this] at eB
  exact ⟨g,eA,eB⟩
 have HC0:=hide hc0
 have HN0:=hide n0
 clear hc0 n0 e0
 obtain ⟨v1,k1,e1,n1⟩:=(HAT1.out) 1 (.br 12 qs) rfl
 have hc1:∀ W,Below w2.heap.size w2 W→∃ g,ro1=some ⟨g,0,none⟩∧W.cell? ⟨g,1,none⟩=some v1:=fun W hB=>by
  obtain ⟨g,eA,eB⟩:=(HV1.out).get hB rfl (by omega:1<l1.length)
  have:l1[1]'(by omega)=v1:=Option.some.inj ((List.getElem?_eq_getElem (by omega)).symm.trans e1)
  rw [this] at eB
  exact ⟨g,eA,eB⟩
 have HC1:=hide hc1
 have HN1:=hide n1
 clear hc1 n1 e1
 have hfp:=(HP.out).part (q:=p) (by rw [hsp];simp)
 have hfq:=(HP.out).part (q:=.br 12 qs) (by rw [hsp];simp)
 have hfl:=flat_fine hfp
 have HO1:=hide (yone_any p hfp w2 a b v0 k0 ((HN0.out).below K2.out) (by omega))
 have hpz:=ba_size (X.flat [p])
 obtain ⟨g1,rfl,z0⟩:=(HC0.out) w2 (Below.refl _ _)
 have HPART:=hide (fun W (h1:NdP W a b v1 (.br 12 qs) k1) (h2:b≤W.heap.size)=>parts_any h1 h2 hfq.kok (by show qs.length≤_;have:=hfq.parts;omega))
 have HSP:Hid (ba (X.flat [p])++⟨#[40]⟩=ba (X.flat [p]++[40])):=ba_app (X.flat [p]) [40]
 generalize hSP:ba (X.flat [p])=SP at *
 have hz2:¬ 9223372036854775807<SP.size+1:=by omega
 rw [hll]
 go_wp2_with fail
 refine (HO1.out).mono ?_
 rintro r w3 ⟨rfl,k3⟩
 obtain ⟨g',eg,z1⟩:=(HC1.out) w3 k3
 injection eg with eg
 injection eg with eg
 subst eg
 have k13:Below wb.heap.size wb w3:=(K2.out).trans (k3.mono hw2)
 have HNQ:=hide ((HN1.out).below k13)
 have K13':=hide ((K1.out).trans (k13.mono hw1))
 have hw3:=k3.size
 clear k3 k13 z0
 go_wp2_with fail
 refine ((HPART.out) w3 HNQ.out (by omega)).mono ?_
 rintro r w4 ⟨rv,rfl,X4⟩
 obtain ⟨⟨l,hlp,hown⟩,k4⟩:=X4.out
 replace hlp:LP _ a b l qs k1:=hlp
 have hat:=hlp.at
 rw [hqs] at hat
 have hll2:l.length=2:=hat.1
 have HV:=hide (IsV.ofOwns hown)
 have HAT:=hide hat.2
 have hw4:=k4.size
 obtain ⟨ro,rc,rfl,hrc,hrm,-⟩:=(HV.out)
 have HEND:Hid (Below w.heap.size w w4):=(K13'.out).trans (k4.mono (K13'.out).size)
 rw [hll2]
 clear X4 hlp hown k4 hat
 go_wp2_with fail
 go_ret
 exact ⟨rfl,HEND.out⟩
set_option maxRecDepth 100000 in
set_option maxHeartbeats 4000000 in
theorem expr_call (ps:List X.Part) (p:X.Part) (qs:List X.Part) (ta:X.Tok) (ml:List X.Part) (hsp:X.pts ps=[p,.br 12 qs]) (hqs:X.pts qs=X.lf ta::ml) (hA:X.ShA [41] ml) (hsh:X.Sh (.br 11 ps)) (hp:Fine (.br 11 ps)) (ih:∀ q∈ml,X.Sh q→EC q):EC (.br 11 ps):=by
 intro f n e w a b v i h hb hfu hd he
 by_cases hW:n+X.chars (X.flat [.br 11 ps])+1≤80
 ·exact expr_fit _ hp f n e w a b v i h hb (by omega) he hW
 have hne:X.nt (.br 11 ps)≠[]:=hsh.ne
 obtain ⟨f',rfl⟩:∃ f',f=f'+1:=⟨f - 1,by have:=List.length_pos_iff.2 hne;omega⟩
 have hex:X.ex (f'+1) n (.br 11 ps) e=X.bracket (X.ex f' (n+2)) n (X.line n (X.flat [.br 11 ps]++e)) (X.flat [p]++[40]) (X.pts qs) e:=by
  conv=>lhs;unfold X.ex
  rw [if_neg hW,show X.kindOf (.br 11 ps)=11 from rfl,if_neg (by decide),if_neg (by decide),if_neg (by decide),if_neg (by decide),if_pos rfl,show X.kidsOf (.br 11 ps)=ps from rfl,hsp]
  all_goals rfl
 rw [hqs] at hex
 rw [hex]
 have hS:=flat_fine hp
 obtain ⟨N,ao0,cap0,at0,en,fr,tt,la,vs0,rfl,hN1,hN2,hnd,-⟩:=h.any
 obtain ⟨⟨c0,-⟩,-⟩:=hnd.facts
 have b0:((pk (.br 11 ps):Nat):Int)=11:=rfl
 rw [b0] at c0
 have HO:=hide (yone_any _ hp w a b _ i h hb)
 have hSz:=ba_size (X.flat [.br 11 ps])
 have hez:=ba_size e
 have HCh:=hide (fun W=>ychars_any (ba (X.flat [.br 11 ps])) W (by omega))
 rw [bs_ba] at HCh
 have HLi:=hide (fun W=>yline_any n (X.flat [.br 11 ps]++e) W (by omega) (by rw [List.length_append];omega))
 rw [← ba_app] at HLi
 have hlc:=X.chars_le _ (X.flat [.br 11 ps]) (Nat.le_refl _)
 have HH:=hide h
 have HP:=hide hp
 have hpl:=hp.parts
 clear hex hne hnd h
 generalize X.line n (X.flat [.br 11 ps]++e)=R at *
 generalize X.chars (X.flat [.br 11 ps])=c at *
 generalize ba (X.flat [.br 11 ps])=S at *
 generalize hE:ba e=E at *
 have hz1:¬ 9223372036854775807<S.size+E.size:=by omega
 have i1:decide ((n:Int)+(c:Int)+1≤80)=false:=decide_eq_false (by omega)
 have i2:¬(n:Int)+(c:Int)+1≤80:=by omega
 have i3:(80:Int)<(n:Int)+(c:Int)+1:=by omega
 have C0:=hide c0
 clear c0 b0 hp
 go_enter Tryz.func26,Tryz.ntmps26
 go_wp2_with fail
 refine (HO.out).mono ?_
 rintro r w1 ⟨rfl,k1⟩
 have K1:=hide k1
 have HH1:=hide ((HH.out).below k1)
 have hw1:=k1.size
 have d0:=kcb k1 (by omega) C0.out
 clear k1 HO HH C0
 go_wp2_with fail
 refine ((HCh.out) w1).mono ?_
 rintro r wa ⟨rfl,rfl⟩
 go_wp2_with fail
 refine ((HLi.out) wa).mono ?_
 rintro r wb ⟨rfl,rfl⟩
 clear HCh HLi
 go_wp2_with fail
 refine (parts_any HH1.out (by omega) (HP.out).kok (by show ps.length≤_;omega)).mono ?_
 rintro r w2 ⟨rv,rfl,X2⟩
 obtain ⟨⟨l1,hlp,hown⟩,k2⟩:=X2.out
 replace hlp:LP _ a b l1 ps i:=hlp
 have hat:=hlp.at
 rw [hsp] at hat
 have hll:l1.length=2:=hat.1
 have HV1:=hide (IsV.ofOwns hown)
 have HLP1:=hide hlp
 have K2:=hide k2
 have d0':=kcb k2 (by omega) d0
 have hw2:=k2.size
 obtain ⟨ro1,rc1,rfl,hrc1,hrm1,-⟩:=(HV1.out)
 have HAT1:=hide hat.2
 clear X2 hlp hown k2 hat d0
 obtain ⟨v0,k0,e0,n0⟩:=(HAT1.out) 0 p rfl
 have hc0:∀ W,Below w2.heap.size w2 W→∃ g,ro1=some ⟨g,0,none⟩∧W.cell? ⟨g,0,none⟩=some v0:=fun W hB=>by
  obtain ⟨g,eA,eB⟩:=(HV1.out).get hB rfl (by omega:0<l1.length)
  have:l1[0]'(by omega)=v0:=Option.some.inj ((List.getElem?_eq_getElem (by omega)).symm.trans e0)
  rw [this] at eB
  exact ⟨g,eA,eB⟩
 have HC0:=hide hc0
 have HN0:=hide n0
 clear hc0 n0 e0
 obtain ⟨v1,k1,e1,n1⟩:=(HAT1.out) 1 (.br 12 qs) rfl
 have hc1:∀ W,Below w2.heap.size w2 W→∃ g,ro1=some ⟨g,0,none⟩∧W.cell? ⟨g,1,none⟩=some v1:=fun W hB=>by
  obtain ⟨g,eA,eB⟩:=(HV1.out).get hB rfl (by omega:1<l1.length)
  have:l1[1]'(by omega)=v1:=Option.some.inj ((List.getElem?_eq_getElem (by omega)).symm.trans e1)
  rw [this] at eB
  exact ⟨g,eA,eB⟩
 have HC1:=hide hc1
 have HN1:=hide n1
 clear hc1 n1 e1
 have hfp:=(HP.out).part (q:=p) (by rw [hsp];simp)
 have hfq:=(HP.out).part (q:=.br 12 qs) (by rw [hsp];simp)
 have hfl:=flat_fine hfp
 have HO1:=hide (yone_any p hfp w2 a b v0 k0 ((HN0.out).below K2.out) (by omega))
 have hpz:=ba_size (X.flat [p])
 obtain ⟨g1,rfl,z0⟩:=(HC0.out) w2 (Below.refl _ _)
 have HPART:=hide (fun W (h1:NdP W a b v1 (.br 12 qs) k1) (h2:b≤W.heap.size)=>parts_any h1 h2 hfq.kok (by show qs.length≤_;have:=hfq.parts;omega))
 have HSP:Hid (ba (X.flat [p])++⟨#[40]⟩=ba (X.flat [p]++[40])):=ba_app (X.flat [p]) [40]
 generalize hSP:ba (X.flat [p])=SP at *
 have hz2:¬ 9223372036854775807<SP.size+1:=by omega
 rw [hll]
 go_wp2_with fail
 refine (HO1.out).mono ?_
 rintro r w3 ⟨rfl,k3⟩
 obtain ⟨g',eg,z1⟩:=(HC1.out) w3 k3
 injection eg with eg
 injection eg with eg
 subst eg
 have k13:Below wb.heap.size wb w3:=(K2.out).trans (k3.mono hw2)
 have HNQ:=hide ((HN1.out).below k13)
 have K13':=hide ((K1.out).trans (k13.mono hw1))
 have hw3:=k3.size
 clear k3 k13 z0
 go_wp2_with fail
 refine ((HPART.out) w3 HNQ.out (by omega)).mono ?_
 rintro r w4 ⟨rv,rfl,X4⟩
 obtain ⟨⟨l,hlp,hown⟩,k4⟩:=X4.out
 replace hlp:LP _ a b l qs k1:=hlp
 have hat:=hlp.at
 rw [hqs] at hat
 have hll2:l.length=ml.length+1:=hat.1
 have HV:=hide (IsV.ofOwns hown)
 have HAT:=hide hat.2
 have hw4:=k4.size
 obtain ⟨ro,rc,rfl,hrc,hrm,-⟩:=(HV.out)
 have K1:=K13'
 have hw1:=(K1.out).size
 have K2:=hide k4
 have hw2:=k4.size
 have hpl:=hfq.parts
 clear X4 hlp hown k4 hat
 have hPL:=hqs
 have hml2:2≤ml.length:=by cases hA<;>simp
 have hdx:∀ q∈ml,n+2+X.dp q≤522:=fun q hq=>by
  have h1:=X.dp_pts (k:=11) (by decide) hsp (p:=.br 12 qs) (by simp)
  have h2:=X.dp_pts (k:=12) (by decide) hqs (p:=q) (List.mem_cons_of_mem _ hq)
  rw [if_neg (by decide)] at h1
  rw [if_pos (by decide)] at h2
  omega
 have hcnt:∀ q∈ml,(X.nt q).length≤f':=fun q hq=>by
  have h1:X.nt (.br 11 ps)=X.nt p++(X.nt (X.lf ta)++X.nts' ml):=by rw [X.nt_br,hsp,X.nts_cons,X.nts_one,X.nt_br,hqs,X.nts_cons]
  have h2:(X.nt (X.lf ta)).length=1:=by rw [X.nt_lf,if_pos (X.mem_pts hqs (by simp))];rfl
  obtain ⟨x,y,ey⟩:=List.append_of_mem hq
  rw [ey,X.nts_append,X.nts_cons] at h1
  have h3:=congrArg List.length h1
  simp only [List.length_append] at h3
  omega
 have hbr:X.bracket (X.ex f' (n+2)) n R (X.flat [p]++[40]) (X.lf ta::ml) e=X.line n (X.flat [p]++[40])++(X.many (X.ex f' (n+2)) ml++X.line n ([41]++e)):=by
  unfold X.bracket
  rw [if_neg (by simp only [List.length_cons];omega)]
  obtain ⟨tz,ez1,ez2⟩:=ShA_last _ (Nat.le_refl _) hA
  have ez3:X.textOf ((X.lf ta::ml).getD ((X.lf ta::ml).length - 1) X.nil1)=[41]:=by
   obtain ⟨x,hx⟩:∃ x,ml.length=x+1:=⟨ml.length - 1,by omega⟩
   rw [List.getD_eq_getElem?_getD]
   simp only [List.length_cons,Nat.add_sub_cancel]
   rw [hx,List.getElem?_cons_succ]
   rw [hx,Nat.add_sub_cancel] at ez1
   rw [ez1]
   exact ez2
  rw [ez3]
  rfl
 have HBR:=hide hbr
 have HKid:Hid (∀ (j:Nat) (q:X.Part),ml[j]?=some q→∃ v,(∀ W,Below w4.heap.size w4 W→∃ g,ro=some ⟨g,0,none⟩∧W.cell? ⟨g,j+1,none⟩=some v)∧(∃ k,NdP w3 a b v q k)):=fun j q hj=>by
  obtain ⟨v,k,e1,n1⟩:=(HAT.out) (j+1) q (by rw [List.getElem?_cons_succ];exact hj)
  have hjl:j+1<l.length:=by
   rcases Nat.lt_or_ge (j+1) l.length with g|g
   ·exact g
   ·rw [List.getElem?_eq_none g] at e1;cases e1
  refine ⟨v,fun W hB=>?_,k,n1⟩
  obtain ⟨g,eA,eB⟩:=(HV.out).get hB rfl hjl
  have:l[j+1]=v:=Option.some.inj ((List.getElem?_eq_getElem hjl).symm.trans e1)
  rw [this] at eB
  exact ⟨g,eA,eB⟩
 obtain ⟨tz,hz8,hzc⟩:=ShA_last _ (Nat.le_refl _) hA
 have hmany:(X.many (X.ex f' (n+2)) ml).length≤1073741823:=by
  have:=(X.many_len (n:=n) (X.ex_len (M:=522) f' (n+2)) (by omega) [] _ (Nat.le_refl _) hA (fun x hx=>by
   have:=hdx x hx
   omega) (fun t ht=>X.pts_lou (ps:=qs) (by rw [hPL];exact List.mem_cons_of_mem _ ht))).2
  have hwl:X.wt 522 (X.nts' ml)≤1073740000:=by
   have:=hpl.1
   rw [hPL,X.nts_cons,X.wt_append] at this
   omega
  simp only [List.length_nil] at this
  omega
 have HIH:Hid (∀ (q:X.Part) (e':List UInt8) (W:World) (v:Value) (k:Nat),q∈ml→X.Sh q→e'.length≤10→NdP W a b v q k→b≤W.heap.size→Calls Tryz.prog 26 #[.int .i64 ((n:Int)+2),v,.string (ba e')] W fun r w'=>r=.returned (.string (ba (X.ex f' (n+2) q e')))∧Below W.heap.size W w'):=fun q e' W v k hq hs he' h1 h2=>by
  have:=ih q hq hs f' (n+2) e' W a b v k h1 h2 (hcnt q hq) (by have:=hdx q hq;omega) he'
  rw [show ((n+2:Nat):Int)=(n:Int)+2 by omega] at this
  exact this
 have HLf:=hide (fun W=>yline_any n (X.flat [p]++[40]) W (by omega) (by rw [List.length_append];simp only [List.length_cons,List.length_nil];omega))
 have hFz:(ba (X.line n (X.flat [p]++[40]))).size≤1073750000:=by rw [ba_size,X.line_len];rw [List.length_append];simp only [List.length_cons,List.length_nil];omega
 have HLz:=hide (fun W=>yline_any n ([41]++e) W (by omega) (by rw [List.length_append];simp only [List.length_cons,List.length_nil];omega))
 rw [← ba_app,hE] at HLz
 have hZz:(ba (X.line n ([41]++e))).size≤1073750000:=by rw [ba_size,X.line_len,List.length_append];simp only [List.length_cons,List.length_nil];omega
 have HBk0:=hide (Bk.start (E:=X.ex f' (n+2)) hA)
 have HA:=hide hA
 have HZ8:=hide hz8
 clear hbr ih hcnt hdx hz8
 obtain ⟨g,rfl,-⟩:∃ g,ro=some ⟨g,0,none⟩∧True:=by
  obtain ⟨q0,hq0⟩:∃ q0,ml[0]?=some q0:=⟨_,List.getElem?_eq_getElem (by omega)⟩
  obtain ⟨v0,hv0,-⟩:=(HKid.out) 0 q0 hq0
  obtain ⟨g,e1,-⟩:=hv0 w4 (Below.refl _ _)
  exact ⟨g,e1,trivial⟩
 have j0:(((ml.length+1:Nat):Int)==2)=false:=by simp;omega
 have hmlb:ml.length≤67108864:=by
  have:=hpl.2.1
  rw [hPL,List.length_cons] at this
  omega
 have j1:IntKind.i64.wrap (((ml.length+1:Nat):Int) - 1)=(ml.length:Int):=by rw [IntKind.wrap_i64];omega
 rw [hll2]
 rw [← HSP.out] at HLf
 go_wp2_with fail
 refine ((HLf.out) w4).mono ?_
 rintro r wc ⟨rfl,rfl⟩
 generalize hRF:ba (X.line n (X.flat [p]++[40]))=RF at *
 go_wp2_with fail
 go_loopw [28,29] (fun a v wr=>∃ (t:Nat) (pre:List UInt8) (O:ByteArray),Hid (Bk (X.ex f' (n+2)) [41] ml t pre)∧Hid (O=RF++ba pre)∧a=.string O∧v=.int .i64 ((1+2*t:Nat):Int)∧Hid (Below wc.heap.size wc wr)) (fun _ v _=>ml.length+2 - (intOf v).toNat)
 case atStart=>exact ⟨0,[],RF,HBk0,bs_inj (by rw [bs_app,bs_ba,List.append_nil]),rfl,rfl,Below.refl _ _⟩
 case round =>
  obtain ⟨t,pre,O,HB,HO,rfl,rfl,KL⟩:=hrel
  have hBle:=(HB.out).le
  have hBlen:=(HB.out).len
  have hOz:O.size≤2147500000:=by rw [HO.out,ByteArray.size_append,ba_size];omega
  have hwl:=(KL.out).size
  by_cases hlt:2*t<ml.length
  ·obtain ⟨q,hq,hs,hcase⟩:=(HB.out).step hlt
   have hqm:q∈ml:=List.mem_of_getElem? hq
   obtain ⟨v,hcell,k,hnd⟩:=(HKid.out) (2*t) q hq
   obtain ⟨g',eg,z⟩:=hcell wr KL.out
   injection eg with eg
   injection eg with eg
   subst eg
   rw [Nat.add_comm (2*t) 1] at z
   have K13:Hid (Below w3.heap.size w3 wr):=(K2.out).trans ((KL.out).mono hw2)
   have hw13:=(K13.out).size
   have m1:decide (((1+2*t:Nat):Int)<(ml.length:Int))=true:=decide_eq_true (by omega)
   have m1b:((1+2*t:Nat):Int)<(ml.length:Int):=by omega
   have m2:(0:Int)≤((1+2*t:Nat):Int):=Int.natCast_nonneg _
   have m2b:((1+2*t:Nat):Int)<((ml.length+1:Nat):Int):=by omega
   have m6:IntKind.i64.wrap (((1+2*t:Nat):Int)+2)=((1+2*t:Nat):Int)+2:=by rw [IntKind.wrap_i64];omega
   rcases hcase with ⟨hc1,hbn⟩|⟨hc1,hbn⟩
   all_goals have HBn:=hide hbn
   all_goals clear hbn
   ·have m3:decide (((ml.length+1:Nat):Int)≤((1+2*t:Nat):Int)+2)=true:=decide_eq_true (by omega)
    have m4:((ml.length+1:Nat):Int)≤((1+2*t:Nat):Int)+2:=by omega
    have HE9:=hide ((HIH.out) q [] wr v k hqm hs (by decide) (hnd.below K13.out) (by omega))
    have hXz:(ba (X.ex f' (n+2) q [])).size≤2147483647:=by
     have:=(HBn.out).len
     rw [List.length_append] at this
     rw [ba_size];omega
    have HON:Hid (O++ba (X.ex f' (n+2) q [])=RF++ba (pre++X.ex f' (n+2) q [])):=by
     show _=_
     rw [HO.out,← ba_app]
     exact bs_inj (by simp only [bs_app,List.append_assoc])
    generalize ba (X.ex f' (n+2) q [])=RX at *
    have m5:¬ 9223372036854775807<O.size+RX.size:=by omega
    clear HO HB hcell hnd
    go_wp2_with fail
    refine (HE9.out).mono ?_
    rintro r w9 ⟨rfl,k9⟩
    have HK9:Hid (Below wc.heap.size wc w9):=(KL.out).trans (k9.mono hwl)
    clear k9 HE9
    go_wp2_with fail
    exact ⟨⟨t+1,_,_,HBn,HON,rfl,by go_num,HK9⟩,by simp only [intOf];omega⟩
   ·have m3:decide (((ml.length+1:Nat):Int)≤((1+2*t:Nat):Int)+2)=false:=decide_eq_false (by omega)
    have m4:¬((ml.length+1:Nat):Int)≤((1+2*t:Nat):Int)+2:=by omega
    have HE9:=hide ((HIH.out) q [44] wr v k hqm hs (by decide) (hnd.below K13.out) (by omega))
    have hXz:(ba (X.ex f' (n+2) q [44])).size≤2147483647:=by
     have:=(HBn.out).len
     rw [List.length_append] at this
     rw [ba_size];omega
    have HON:Hid (O++ba (X.ex f' (n+2) q [44])=RF++ba (pre++X.ex f' (n+2) q [44])):=by
     show _=_
     rw [HO.out,← ba_app]
     exact bs_inj (by simp only [bs_app,List.append_assoc])
    generalize ba (X.ex f' (n+2) q [44])=RX at *
    have m5:¬ 9223372036854775807<O.size+RX.size:=by omega
    clear HO HB hcell hnd
    go_wp2_with fail
    refine (HE9.out).mono ?_
    rintro r w9 ⟨rfl,k9⟩
    have HK9:Hid (Below wc.heap.size wc w9):=(KL.out).trans (k9.mono hwl)
    clear k9 HE9
    go_wp2_with fail
    exact ⟨⟨t+1,_,_,HBn,HON,rfl,by go_num,HK9⟩,by simp only [intOf];omega⟩
  ·obtain ⟨hd1,hd2⟩:=(HB.out).done hlt
   have m1:decide (((1+2*t:Nat):Int)<(ml.length:Int))=false:=decide_eq_false (by omega)
   have m1b:¬((1+2*t:Nat):Int)<(ml.length:Int):=by omega
   obtain ⟨v,hcell,k,hnd⟩:=(HKid.out) (ml.length - 1) (X.lf tz) HZ8.out
   obtain ⟨g',eg,z⟩:=hcell wr KL.out
   injection eg with eg
   injection eg with eg
   subst eg
   rw [show ml.length - 1+1=ml.length by omega] at z
   have K13:Hid (Below w3.heap.size w3 wr):=(K2.out).trans ((KL.out).mono hw2)
   obtain ⟨N1,ao1,cap1,at1,en1,fr1,tt1,la1,vs1,rfl,hM1,hM2,hnd1,-⟩:=hnd.any
   obtain ⟨⟨-,-,x2,-⟩,-⟩:=hnd1.facts
   replace x2:w3.cell? ⟨N1,2,none⟩=some (.string (ba tz.2)):=x2
   rw [hzc] at x2
   have y2:=kcb K13.out (by omega) x2
   have m2:(0:Int)≤(ml.length:Int):=Int.natCast_nonneg _
   have m2b:(ml.length:Int)<((ml.length+1:Nat):Int):=by omega
   have hCz:(ba [41]).size=1:=rfl
   have HRES:Hid (O++ba (X.line n ([41]++e))=ba (X.bracket (X.ex f' (n+2)) n R (X.flat [p]++[40]) (X.lf ta::ml) e)):=by
    show _=_
    rw [HBR.out,HO.out,hd2,← hRF,ba_app,ba_app,List.append_assoc]
   have HLz9:=hide ((HLz.out) wr)
   generalize ba (X.line n ([41]++e))=RZ at *
   generalize ba [41]=CB at *
   have m5:¬ 9223372036854775807<CB.size+E.size:=by omega
   have m7:¬ 9223372036854775807<O.size+RZ.size:=by omega
   clear HO HB hcell hnd hnd1 x2 HBR HIH HKid HLz
   go_wp2_with fail
   refine (HLz9.out).mono ?_
   rintro r w9 ⟨rfl,rfl⟩
   have HEND:Hid (Below w.heap.size w w9):=(K1.out).trans ((K13.out).mono hw1)
   go_wp2_with fail
   go_ret
   exact ⟨by rw [HRES.out];rfl,HEND.out⟩
end Go.Proofs.YtgpcpbmacdhlkaaGreatDoor
