/- The document's lines of an expression: a token. -/
import Derived.Test.YtgpcpbmacdhlkaaGreatDoorLkg
namespace Go.Proofs.YtgpcpbmacdhlkaaGreatDoor
open Go.RowKit
open M
set_option maxRecDepth 100000 in
set_option maxHeartbeats 4000000 in
theorem expr_tok15 (ps:List X.Part) (ta:X.Tok) (hsp:X.pts ps=[X.lf ta]) (hsh:X.Sh (.br 15 ps)) (hp:Fine (.br 15 ps)):EC (.br 15 ps):=by
 intro f n e w a b v i h hb hfu hd he
 by_cases hW:n+X.chars (X.flat [.br 15 ps])+1≤80
 ·exact expr_fit _ hp f n e w a b v i h hb (by omega) he hW
 have hne:X.nt (.br 15 ps)≠[]:=hsh.ne
 obtain ⟨f',rfl⟩:∃ f',f=f'+1:=⟨f - 1,by have:=List.length_pos_iff.2 hne;omega⟩
 have hex:X.ex (f'+1) n (.br 15 ps) e=X.line n (X.flat [.br 15 ps]++e):=by
  conv=>lhs;unfold X.ex
  rw [if_neg hW,show X.kindOf (.br 15 ps)=15 from rfl,if_neg (by decide),if_neg (by decide),if_neg (by decide),if_neg (by decide),if_neg (by decide),if_neg (by decide),if_neg (by decide)]
  all_goals rfl
 rw [hex]
 have hS:=flat_fine hp
 obtain ⟨N,ao0,cap0,at0,en,fr,tt,la,vs0,rfl,hN1,hN2,hnd,-⟩:=h.any
 obtain ⟨⟨c0,-⟩,-⟩:=hnd.facts
 have b0:((pk (.br 15 ps):Nat):Int)=15:=rfl
 rw [b0] at c0
 have HO:=hide (yone_any _ hp w a b _ i h hb)
 have hSz:=ba_size (X.flat [.br 15 ps])
 have hez:=ba_size e
 have HCh:=hide (fun W=>ychars_any (ba (X.flat [.br 15 ps])) W (by omega))
 rw [bs_ba] at HCh
 have HLi:=hide (fun W=>yline_any n (X.flat [.br 15 ps]++e) W (by omega) (by rw [List.length_append];omega))
 rw [← ba_app] at HLi
 have hlc:=X.chars_le _ (X.flat [.br 15 ps]) (Nat.le_refl _)
 have HH:=hide h
 have HP:=hide hp
 have hpl:=hp.parts
 clear hex hne hnd h
 generalize X.line n (X.flat [.br 15 ps]++e)=R at *
 generalize X.chars (X.flat [.br 15 ps])=c at *
 generalize ba (X.flat [.br 15 ps])=S at *
 generalize hE:ba e=E at *
 have hz1:¬ 9223372036854775807<S.size+E.size:=by omega
 have i1:decide ((n:Int)+(c:Int)+1≤80)=false:=decide_eq_false (by omega)
 have i2:¬(n:Int)+(c:Int)+1≤80:=by omega
 have i3:(80:Int)<(n:Int)+(c:Int)+1:=by omega
 have C0:=hide c0
 clear c0 b0 hp
 go_enter Tryz.func26,Tryz.ntmps26
 go_wp2_with fail
 refine (HO.out).mono ?_
 rintro r w1 ⟨rfl,k1⟩
 have K1:=hide k1
 have HH1:=hide ((HH.out).below k1)
 have hw1:=k1.size
 have d0:=kcb k1 (by omega) C0.out
 clear k1 HO HH C0
 go_wp2_with fail
 refine ((HCh.out) w1).mono ?_
 rintro r wa ⟨rfl,rfl⟩
 go_wp2_with fail
 refine ((HLi.out) wa).mono ?_
 rintro r wb ⟨rfl,rfl⟩
 clear HCh HLi
 go_wp2_with fail
 refine (parts_any HH1.out (by omega) (HP.out).kok (by show ps.length≤_;omega)).mono ?_
 rintro r w2 ⟨rv,rfl,X2⟩
 obtain ⟨⟨l,hlp,hown⟩,k2⟩:=X2.out
 replace hlp:LP _ a b l ps i:=hlp
 have hat:=hlp.at
 rw [hsp] at hat
 have hll:l.length=1:=hat.1
 have HV:=hide (IsV.ofOwns hown)
 have HLP:=hide hlp
 have K2:=hide k2
 have d0':=kcb k2 (by omega) d0
 have hw2:=k2.size
 obtain ⟨ro,rc,rfl,hrc,hrm,-⟩:=(HV.out)
 have HAT:=hide hat.2
 clear X2 hlp hown k2 hat d0
 have HEND:Hid (Below w.heap.size w w2):=(K1.out).trans ((K2.out).mono hw1)
 rw [hll]
 go_wp2_with fail
 go_ret
 exact ⟨rfl,HEND.out⟩
set_option maxRecDepth 100000 in
set_option maxHeartbeats 4000000 in
theorem expr_tok16 (ps:List X.Part) (ta:X.Tok) (hsp:X.pts ps=[X.lf ta]) (hsh:X.Sh (.br 16 ps)) (hp:Fine (.br 16 ps)):EC (.br 16 ps):=by
 intro f n e w a b v i h hb hfu hd he
 by_cases hW:n+X.chars (X.flat [.br 16 ps])+1≤80
 ·exact expr_fit _ hp f n e w a b v i h hb (by omega) he hW
 have hne:X.nt (.br 16 ps)≠[]:=hsh.ne
 obtain ⟨f',rfl⟩:∃ f',f=f'+1:=⟨f - 1,by have:=List.length_pos_iff.2 hne;omega⟩
 have hex:X.ex (f'+1) n (.br 16 ps) e=X.line n (X.flat [.br 16 ps]++e):=by
  conv=>lhs;unfold X.ex
  rw [if_neg hW,show X.kindOf (.br 16 ps)=16 from rfl,if_neg (by decide),if_neg (by decide),if_neg (by decide),if_neg (by decide),if_neg (by decide),if_neg (by decide),if_neg (by decide)]
  all_goals rfl
 rw [hex]
 have hS:=flat_fine hp
 obtain ⟨N,ao0,cap0,at0,en,fr,tt,la,vs0,rfl,hN1,hN2,hnd,-⟩:=h.any
 obtain ⟨⟨c0,-⟩,-⟩:=hnd.facts
 have b0:((pk (.br 16 ps):Nat):Int)=16:=rfl
 rw [b0] at c0
 have HO:=hide (yone_any _ hp w a b _ i h hb)
 have hSz:=ba_size (X.flat [.br 16 ps])
 have hez:=ba_size e
 have HCh:=hide (fun W=>ychars_any (ba (X.flat [.br 16 ps])) W (by omega))
 rw [bs_ba] at HCh
 have HLi:=hide (fun W=>yline_any n (X.flat [.br 16 ps]++e) W (by omega) (by rw [List.length_append];omega))
 rw [← ba_app] at HLi
 have hlc:=X.chars_le _ (X.flat [.br 16 ps]) (Nat.le_refl _)
 have HH:=hide h
 have HP:=hide hp
 have hpl:=hp.parts
 clear hex hne hnd h
 generalize X.line n (X.flat [.br 16 ps]++e)=R at *
 generalize X.chars (X.flat [.br 16 ps])=c at *
 generalize ba (X.flat [.br 16 ps])=S at *
 generalize hE:ba e=E at *
 have hz1:¬ 9223372036854775807<S.size+E.size:=by omega
 have i1:decide ((n:Int)+(c:Int)+1≤80)=false:=decide_eq_false (by omega)
 have i2:¬(n:Int)+(c:Int)+1≤80:=by omega
 have i3:(80:Int)<(n:Int)+(c:Int)+1:=by omega
 have C0:=hide c0
 clear c0 b0 hp
 go_enter Tryz.func26,Tryz.ntmps26
 go_wp2_with fail
 refine (HO.out).mono ?_
 rintro r w1 ⟨rfl,k1⟩
 have K1:=hide k1
 have HH1:=hide ((HH.out).below k1)
 have hw1:=k1.size
 have d0:=kcb k1 (by omega) C0.out
 clear k1 HO HH C0
 go_wp2_with fail
 refine ((HCh.out) w1).mono ?_
 rintro r wa ⟨rfl,rfl⟩
 go_wp2_with fail
 refine ((HLi.out) wa).mono ?_
 rintro r wb ⟨rfl,rfl⟩
 clear HCh HLi
 go_wp2_with fail
 refine (parts_any HH1.out (by omega) (HP.out).kok (by show ps.length≤_;omega)).mono ?_
 rintro r w2 ⟨rv,rfl,X2⟩
 obtain ⟨⟨l,hlp,hown⟩,k2⟩:=X2.out
 replace hlp:LP _ a b l ps i:=hlp
 have hat:=hlp.at
 rw [hsp] at hat
 have hll:l.length=1:=hat.1
 have HV:=hide (IsV.ofOwns hown)
 have HLP:=hide hlp
 have K2:=hide k2
 have d0':=kcb k2 (by omega) d0
 have hw2:=k2.size
 obtain ⟨ro,rc,rfl,hrc,hrm,-⟩:=(HV.out)
 have HAT:=hide hat.2
 clear X2 hlp hown k2 hat d0
 have HEND:Hid (Below w.heap.size w w2):=(K1.out).trans ((K2.out).mono hw1)
 rw [hll]
 go_wp2_with fail
 go_ret
 exact ⟨rfl,HEND.out⟩
set_option maxRecDepth 100000 in
set_option maxHeartbeats 4000000 in
theorem expr_tok17 (ps:List X.Part) (ta:X.Tok) (hsp:X.pts ps=[X.lf ta]) (hsh:X.Sh (.br 17 ps)) (hp:Fine (.br 17 ps)):EC (.br 17 ps):=by
 intro f n e w a b v i h hb hfu hd he
 by_cases hW:n+X.chars (X.flat [.br 17 ps])+1≤80
 ·exact expr_fit _ hp f n e w a b v i h hb (by omega) he hW
 have hne:X.nt (.br 17 ps)≠[]:=hsh.ne
 obtain ⟨f',rfl⟩:∃ f',f=f'+1:=⟨f - 1,by have:=List.length_pos_iff.2 hne;omega⟩
 have hex:X.ex (f'+1) n (.br 17 ps) e=X.line n (X.flat [.br 17 ps]++e):=by
  conv=>lhs;unfold X.ex
  rw [if_neg hW,show X.kindOf (.br 17 ps)=17 from rfl,if_neg (by decide),if_neg (by decide),if_neg (by decide),if_neg (by decide),if_neg (by decide),if_neg (by decide),if_neg (by decide)]
  all_goals rfl
 rw [hex]
 have hS:=flat_fine hp
 obtain ⟨N,ao0,cap0,at0,en,fr,tt,la,vs0,rfl,hN1,hN2,hnd,-⟩:=h.any
 obtain ⟨⟨c0,-⟩,-⟩:=hnd.facts
 have b0:((pk (.br 17 ps):Nat):Int)=17:=rfl
 rw [b0] at c0
 have HO:=hide (yone_any _ hp w a b _ i h hb)
 have hSz:=ba_size (X.flat [.br 17 ps])
 have hez:=ba_size e
 have HCh:=hide (fun W=>ychars_any (ba (X.flat [.br 17 ps])) W (by omega))
 rw [bs_ba] at HCh
 have HLi:=hide (fun W=>yline_any n (X.flat [.br 17 ps]++e) W (by omega) (by rw [List.length_append];omega))
 rw [← ba_app] at HLi
 have hlc:=X.chars_le _ (X.flat [.br 17 ps]) (Nat.le_refl _)
 have HH:=hide h
 have HP:=hide hp
 have hpl:=hp.parts
 clear hex hne hnd h
 generalize X.line n (X.flat [.br 17 ps]++e)=R at *
 generalize X.chars (X.flat [.br 17 ps])=c at *
 generalize ba (X.flat [.br 17 ps])=S at *
 generalize hE:ba e=E at *
 have hz1:¬ 9223372036854775807<S.size+E.size:=by omega
 have i1:decide ((n:Int)+(c:Int)+1≤80)=false:=decide_eq_false (by omega)
 have i2:¬(n:Int)+(c:Int)+1≤80:=by omega
 have i3:(80:Int)<(n:Int)+(c:Int)+1:=by omega
 have C0:=hide c0
 clear c0 b0 hp
 go_enter Tryz.func26,Tryz.ntmps26
 go_wp2_with fail
 refine (HO.out).mono ?_
 rintro r w1 ⟨rfl,k1⟩
 have K1:=hide k1
 have HH1:=hide ((HH.out).below k1)
 have hw1:=k1.size
 have d0:=kcb k1 (by omega) C0.out
 clear k1 HO HH C0
 go_wp2_with fail
 refine ((HCh.out) w1).mono ?_
 rintro r wa ⟨rfl,rfl⟩
 go_wp2_with fail
 refine ((HLi.out) wa).mono ?_
 rintro r wb ⟨rfl,rfl⟩
 clear HCh HLi
 go_wp2_with fail
 refine (parts_any HH1.out (by omega) (HP.out).kok (by show ps.length≤_;omega)).mono ?_
 rintro r w2 ⟨rv,rfl,X2⟩
 obtain ⟨⟨l,hlp,hown⟩,k2⟩:=X2.out
 replace hlp:LP _ a b l ps i:=hlp
 have hat:=hlp.at
 rw [hsp] at hat
 have hll:l.length=1:=hat.1
 have HV:=hide (IsV.ofOwns hown)
 have HLP:=hide hlp
 have K2:=hide k2
 have d0':=kcb k2 (by omega) d0
 have hw2:=k2.size
 obtain ⟨ro,rc,rfl,hrc,hrm,-⟩:=(HV.out)
 have HAT:=hide hat.2
 clear X2 hlp hown k2 hat d0
 have HEND:Hid (Below w.heap.size w w2):=(K1.out).trans ((K2.out).mono hw1)
 rw [hll]
 go_wp2_with fail
 go_ret
 exact ⟨rfl,HEND.out⟩
set_option maxRecDepth 100000 in
set_option maxHeartbeats 4000000 in
theorem expr_tok18 (ps:List X.Part) (ta:X.Tok) (hsp:X.pts ps=[X.lf ta]) (hsh:X.Sh (.br 18 ps)) (hp:Fine (.br 18 ps)):EC (.br 18 ps):=by
 intro f n e w a b v i h hb hfu hd he
 by_cases hW:n+X.chars (X.flat [.br 18 ps])+1≤80
 ·exact expr_fit _ hp f n e w a b v i h hb (by omega) he hW
 have hne:X.nt (.br 18 ps)≠[]:=hsh.ne
 obtain ⟨f',rfl⟩:∃ f',f=f'+1:=⟨f - 1,by have:=List.length_pos_iff.2 hne;omega⟩
 have hex:X.ex (f'+1) n (.br 18 ps) e=X.line n (X.flat [.br 18 ps]++e):=by
  conv=>lhs;unfold X.ex
  rw [if_neg hW,show X.kindOf (.br 18 ps)=18 from rfl,if_neg (by decide),if_neg (by decide),if_neg (by decide),if_neg (by decide),if_neg (by decide),if_neg (by decide),if_neg (by decide)]
  all_goals rfl
 rw [hex]
 have hS:=flat_fine hp
 obtain ⟨N,ao0,cap0,at0,en,fr,tt,la,vs0,rfl,hN1,hN2,hnd,-⟩:=h.any
 obtain ⟨⟨c0,-⟩,-⟩:=hnd.facts
 have b0:((pk (.br 18 ps):Nat):Int)=18:=rfl
 rw [b0] at c0
 have HO:=hide (yone_any _ hp w a b _ i h hb)
 have hSz:=ba_size (X.flat [.br 18 ps])
 have hez:=ba_size e
 have HCh:=hide (fun W=>ychars_any (ba (X.flat [.br 18 ps])) W (by omega))
 rw [bs_ba] at HCh
 have HLi:=hide (fun W=>yline_any n (X.flat [.br 18 ps]++e) W (by omega) (by rw [List.length_append];omega))
 rw [← ba_app] at HLi
 have hlc:=X.chars_le _ (X.flat [.br 18 ps]) (Nat.le_refl _)
 have HH:=hide h
 have HP:=hide hp
 have hpl:=hp.parts
 clear hex hne hnd h
 generalize X.line n (X.flat [.br 18 ps]++e)=R at *
 generalize X.chars (X.flat [.br 18 ps])=c at *
 generalize ba (X.flat [.br 18 ps])=S at *
 generalize hE:ba e=E at *
 have hz1:¬ 9223372036854775807<S.size+E.size:=by omega
 have i1:decide ((n:Int)+(c:Int)+1≤80)=false:=decide_eq_false (by omega)
 have i2:¬(n:Int)+(c:Int)+1≤80:=by omega
 have i3:(80:Int)<(n:Int)+(c:Int)+1:=by omega
 have C0:=hide c0
 clear c0 b0 hp
 go_enter Tryz.func26,Tryz.ntmps26
 go_wp2_with fail
 refine (HO.out).mono ?_
 rintro r w1 ⟨rfl,k1⟩
 have K1:=hide k1
 have HH1:=hide ((HH.out).below k1)
 have hw1:=k1.size
 have d0:=kcb k1 (by omega) C0.out
 clear k1 HO HH C0
 go_wp2_with fail
 refine ((HCh.out) w1).mono ?_
 rintro r wa ⟨rfl,rfl⟩
 go_wp2_with fail
 refine ((HLi.out) wa).mono ?_
 rintro r wb ⟨rfl,rfl⟩
 clear HCh HLi
 go_wp2_with fail
 refine (parts_any HH1.out (by omega) (HP.out).kok (by show ps.length≤_;omega)).mono ?_
 rintro r w2 ⟨rv,rfl,X2⟩
 obtain ⟨⟨l,hlp,hown⟩,k2⟩:=X2.out
 replace hlp:LP _ a b l ps i:=hlp
 have hat:=hlp.at
 rw [hsp] at hat
 have hll:l.length=1:=hat.1
 have HV:=hide (IsV.ofOwns hown)
 have HLP:=hide hlp
 have K2:=hide k2
 have d0':=kcb k2 (by omega) d0
 have hw2:=k2.size
 obtain ⟨ro,rc,rfl,hrc,hrm,-⟩:=(HV.out)
 have HAT:=hide hat.2
 clear X2 hlp hown k2 hat d0
 have HEND:Hid (Below w.heap.size w w2):=(K1.out).trans ((K2.out).mono hw1)
 rw [hll]
 go_wp2_with fail
 go_ret
 exact ⟨rfl,HEND.out⟩
set_option maxRecDepth 100000 in
set_option maxHeartbeats 4000000 in
theorem expr_tok19 (ps:List X.Part) (ta:X.Tok) (hsp:X.pts ps=[X.lf ta]) (hsh:X.Sh (.br 19 ps)) (hp:Fine (.br 19 ps)):EC (.br 19 ps):=by
 intro f n e w a b v i h hb hfu hd he
 by_cases hW:n+X.chars (X.flat [.br 19 ps])+1≤80
 ·exact expr_fit _ hp f n e w a b v i h hb (by omega) he hW
 have hne:X.nt (.br 19 ps)≠[]:=hsh.ne
 obtain ⟨f',rfl⟩:∃ f',f=f'+1:=⟨f - 1,by have:=List.length_pos_iff.2 hne;omega⟩
 have hex:X.ex (f'+1) n (.br 19 ps) e=X.line n (X.flat [.br 19 ps]++e):=by
  conv=>lhs;unfold X.ex
  rw [if_neg hW,show X.kindOf (.br 19 ps)=19 from rfl,if_neg (by decide),if_neg (by decide),if_neg (by decide),if_neg (by decide),if_neg (by decide),if_neg (by decide),if_neg (by decide)]
  all_goals rfl
 rw [hex]
 have hS:=flat_fine hp
 obtain ⟨N,ao0,cap0,at0,en,fr,tt,la,vs0,rfl,hN1,hN2,hnd,-⟩:=h.any
 obtain ⟨⟨c0,-⟩,-⟩:=hnd.facts
 have b0:((pk (.br 19 ps):Nat):Int)=19:=rfl
 rw [b0] at c0
 have HO:=hide (yone_any _ hp w a b _ i h hb)
 have hSz:=ba_size (X.flat [.br 19 ps])
 have hez:=ba_size e
 have HCh:=hide (fun W=>ychars_any (ba (X.flat [.br 19 ps])) W (by omega))
 rw [bs_ba] at HCh
 have HLi:=hide (fun W=>yline_any n (X.flat [.br 19 ps]++e) W (by omega) (by rw [List.length_append];omega))
 rw [← ba_app] at HLi
 have hlc:=X.chars_le _ (X.flat [.br 19 ps]) (Nat.le_refl _)
 have HH:=hide h
 have HP:=hide hp
 have hpl:=hp.parts
 clear hex hne hnd h
 generalize X.line n (X.flat [.br 19 ps]++e)=R at *
 generalize X.chars (X.flat [.br 19 ps])=c at *
 generalize ba (X.flat [.br 19 ps])=S at *
 generalize hE:ba e=E at *
 have hz1:¬ 9223372036854775807<S.size+E.size:=by omega
 have i1:decide ((n:Int)+(c:Int)+1≤80)=false:=decide_eq_false (by omega)
 have i2:¬(n:Int)+(c:Int)+1≤80:=by omega
 have i3:(80:Int)<(n:Int)+(c:Int)+1:=by omega
 have C0:=hide c0
 clear c0 b0 hp
 go_enter Tryz.func26,Tryz.ntmps26
 go_wp2_with fail
 refine (HO.out).mono ?_
 rintro r w1 ⟨rfl,k1⟩
 have K1:=hide k1
 have HH1:=hide ((HH.out).below k1)
 have hw1:=k1.size
 have d0:=kcb k1 (by omega) C0.out
 clear k1 HO HH C0
 go_wp2_with fail
 refine ((HCh.out) w1).mono ?_
 rintro r wa ⟨rfl,rfl⟩
 go_wp2_with fail
 refine ((HLi.out) wa).mono ?_
 rintro r wb ⟨rfl,rfl⟩
 clear HCh HLi
 go_wp2_with fail
 refine (parts_any HH1.out (by omega) (HP.out).kok (by show ps.length≤_;omega)).mono ?_
 rintro r w2 ⟨rv,rfl,X2⟩
 obtain ⟨⟨l,hlp,hown⟩,k2⟩:=X2.out
 replace hlp:LP _ a b l ps i:=hlp
 have hat:=hlp.at
 rw [hsp] at hat
 have hll:l.length=1:=hat.1
 have HV:=hide (IsV.ofOwns hown)
 have HLP:=hide hlp
 have K2:=hide k2
 have d0':=kcb k2 (by omega) d0
 have hw2:=k2.size
 obtain ⟨ro,rc,rfl,hrc,hrm,-⟩:=(HV.out)
 have HAT:=hide hat.2
 clear X2 hlp hown k2 hat d0
 have HEND:Hid (Below w.heap.size w w2):=(K1.out).trans ((K2.out).mono hw1)
 rw [hll]
 go_wp2_with fail
 go_ret
 exact ⟨rfl,HEND.out⟩
set_option maxRecDepth 100000 in
set_option maxHeartbeats 4000000 in
theorem expr_list0 (ps:List X.Part) (ta tb:X.Tok) (hsp:X.pts ps=[X.lf ta,X.lf tb]) (hsh:X.Sh (.br 13 ps)) (hp:Fine (.br 13 ps)):EC (.br 13 ps):=by
 intro f n e w a b v i h hb hfu hd he
 by_cases hW:n+X.chars (X.flat [.br 13 ps])+1≤80
 ·exact expr_fit _ hp f n e w a b v i h hb (by omega) he hW
 have hne:X.nt (.br 13 ps)≠[]:=hsh.ne
 obtain ⟨f',rfl⟩:∃ f',f=f'+1:=⟨f - 1,by have:=List.length_pos_iff.2 hne;omega⟩
 have hex:X.ex (f'+1) n (.br 13 ps) e=X.line n (X.flat [.br 13 ps]++e):=by
  conv=>lhs;unfold X.ex
  rw [if_neg hW,show X.kindOf (.br 13 ps)=13 from rfl,if_neg (by decide),if_neg (by decide),if_neg (by decide),if_neg (by decide),if_neg (by decide),if_pos rfl,show X.kidsOf (.br 13 ps)=ps from rfl,hsp]
  unfold X.bracket
  rw [if_pos (by rfl)]
 rw [hex]
 have hS:=flat_fine hp
 obtain ⟨N,ao0,cap0,at0,en,fr,tt,la,vs0,rfl,hN1,hN2,hnd,-⟩:=h.any
 obtain ⟨⟨c0,-⟩,-⟩:=hnd.facts
 have b0:((pk (.br 13 ps):Nat):Int)=13:=rfl
 rw [b0] at c0
 have HO:=hide (yone_any _ hp w a b _ i h hb)
 have hSz:=ba_size (X.flat [.br 13 ps])
 have hez:=ba_size e
 have HCh:=hide (fun W=>ychars_any (ba (X.flat [.br 13 ps])) W (by omega))
 rw [bs_ba] at HCh
 have HLi:=hide (fun W=>yline_any n (X.flat [.br 13 ps]++e) W (by omega) (by rw [List.length_append];omega))
 rw [← ba_app] at HLi
 have hlc:=X.chars_le _ (X.flat [.br 13 ps]) (Nat.le_refl _)
 have HH:=hide h
 have HP:=hide hp
 have hpl:=hp.parts
 clear hex hne hnd h
 generalize X.line n (X.flat [.br 13 ps]++e)=R at *
 generalize X.chars (X.flat [.br 13 ps])=c at *
 generalize ba (X.flat [.br 13 ps])=S at *
 generalize hE:ba e=E at *
 have hz1:¬ 9223372036854775807<S.size+E.size:=by omega
 have i1:decide ((n:Int)+(c:Int)+1≤80)=false:=decide_eq_false (by omega)
 have i2:¬(n:Int)+(c:Int)+1≤80:=by omega
 have i3:(80:Int)<(n:Int)+(c:Int)+1:=by omega
 have C0:=hide c0
 clear c0 b0 hp
 go_enter Tryz.func26,Tryz.ntmps26
 go_wp2_with fail
 refine (HO.out).mono ?_
 rintro r w1 ⟨rfl,k1⟩
 have K1:=hide k1
 have HH1:=hide ((HH.out).below k1)
 have hw1:=k1.size
 have d0:=kcb k1 (by omega) C0.out
 clear k1 HO HH C0
 go_wp2_with fail
 refine ((HCh.out) w1).mono ?_
 rintro r wa ⟨rfl,rfl⟩
 go_wp2_with fail
 refine ((HLi.out) wa).mono ?_
 rintro r wb ⟨rfl,rfl⟩
 clear HCh HLi
 go_wp2_with fail
 refine (parts_any HH1.out (by omega) (HP.out).kok (by show ps.length≤_;omega)).mono ?_
 rintro r w2 ⟨rv,rfl,X2⟩
 obtain ⟨⟨l,hlp,hown⟩,k2⟩:=X2.out
 replace hlp:LP _ a b l ps i:=hlp
 have hat:=hlp.at
 rw [hsp] at hat
 have hll:l.length=2:=hat.1
 have HV:=hide (IsV.ofOwns hown)
 have HLP:=hide hlp
 have K2:=hide k2
 have d0':=kcb k2 (by omega) d0
 have hw2:=k2.size
 obtain ⟨ro,rc,rfl,hrc,hrm,-⟩:=(HV.out)
 have HAT:=hide hat.2
 clear X2 hlp hown k2 hat d0
 have HEND:Hid (Below w.heap.size w w2):=(K1.out).trans ((K2.out).mono hw1)
 rw [hll]
 go_wp2_with fail
 go_ret
 exact ⟨rfl,HEND.out⟩
end Go.Proofs.YtgpcpbmacdhlkaaGreatDoor
