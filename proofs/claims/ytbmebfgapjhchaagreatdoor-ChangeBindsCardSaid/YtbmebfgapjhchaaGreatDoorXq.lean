/- What stands within brackets and behind words,if expressions can be read one level deeper. -/
import Derived.Test.YtbmebfgapjhchaaGreatDoorXn
import Derived.Shelf.Abstract
namespace Go.Proofs.YtbmebfgapjhchaaGreatDoor
open Go.RowKit Go.Shelf
open M
theorem en_name:∀ args w,(callFunc 141 args).run Tryz.prog w=.ok (.enter 141 args) w:=enters_of Tryz.func141 (by kernel_rfl) rfl
theorem en_expr:∀ args w,(callFunc 131 args).run Tryz.prog w=.ok (.enter 131 args) w:=enters_of Tryz.func131 (by kernel_rfl) rfl
theorem X.len_andThen (f g:X.R) (ts:List X.Tok):(X.andThen f g ts).1.length=(f ts).1.length+(g (f ts).2).1.length:=by simp [X.andThen]
theorem Done.several {w w1:World} {rb:Nat} {s:ByteArray} {L:List Tk} {tv:Value} {dp B k:Nat} {rv:Value} {ps1:List X.Part} {ts1:List X.Tok} {D:Nat→Prop} {Q:Ending→World→Prop} (h:Done w rb s L tv dp B k rv ps1 ts1 D w1) (hS:TokS s L)
  {fn:FuncId} (hen:∀ args w,(callFunc fn args).run Tryz.prog w=.ok (.enter fn args) w) {O:X.R} (hO:Reads fn O (fun _=>True) s L dp) (hsh:X.Shr O) (e:List UInt8) (he:e∈X.signs) (hl:ps1.length+(X.several O e ts1).1.length≤1073741824)
  (hQ:∀ w2,Hid (Done w rb s L tv dp B k rv (ps1++(X.several O e ts1).1) (X.several O e ts1).2 D w2)→Q (.returned (.tuple #[])) w2) :
  Calls Tryz.prog 140 #[.pointer (some ⟨rb,0,none⟩),.pointer (some ⟨B,0,none⟩),.func (.func fn) #[.pointer (some ⟨rb,0,none⟩)] #[],.string (ba e)] w1 Q:=by
 have hF:=several_any s L dp hS fn hen O hO hsh e he
 exact Done.thenA (args:=fun rb B=>#[.pointer (some ⟨rb,0,none⟩),.pointer (some ⟨B,0,none⟩),.func (.func fn) #[.pointer (some ⟨rb,0,none⟩)] #[],.string (ba e)]) h hF trivial hl hQ
section
variable {s:ByteArray} {L:List Tk} {dp:Nat} (hS:TokS s L) {E:X.R} (hE:Reads 131 E (fun _=>True) s L dp) (hsh:X.Shr E)
include hS hE hsh
set_option maxRecDepth 100000 in
set_option maxHeartbeats 400000 in
theorem args_any:Reads 163 (X.several E [41]) (fun _=>True) s L dp:=by
 intro rb tv a B k rv vs ps D w h _ hl
 have H:=Done.start h
 have HE:=hide hE
 clear h hE
 go_enter Tryz.func163,Tryz.ntmps163
 go_wp2_with fail
 refine Done.several (H.out) hS en_expr HE.out hsh [41] (by decide) hl ?_
 intro w1 H1
 go_wp2_with fail
 go_end0
 exact ⟨rfl,H1⟩
set_option maxRecDepth 100000 in
set_option maxHeartbeats 400000 in
theorem list_any:Reads 165 (X.several E [93]) (fun _=>True) s L dp:=by
 intro rb tv a B k rv vs ps D w h _ hl
 have H:=Done.start h
 have HE:=hide hE
 clear h hE
 go_enter Tryz.func165,Tryz.ntmps165
 go_wp2_with fail
 refine Done.several (H.out) hS en_expr HE.out hsh [93] (by decide) hl ?_
 intro w1 H1
 go_wp2_with fail
 go_end0
 exact ⟨rfl,H1⟩
set_option maxRecDepth 100000 in
set_option maxHeartbeats 400000 in
omit hsh in
theorem group_any:Reads 164 (X.andThen E (X.want [41])) (fun _=>True) s L dp:=by
 intro rb tv a B k rv vs ps D w h _ hl
 have H:=Done.start h
 have HE:=hide hE
 clear h hE
 rw [X.len_andThen] at hl
 go_enter Tryz.func164,Tryz.ntmps164
 go_wp2_with fail
 refine Done.then (H.out) (HE.out) trivial (by omega) ?_
 intro w1 H1
 have e1:X.wantsP [[41]] (E (remT s L a)).2=X.want [41] (E (remT s L a)).2:=by rw [X.wantsP_one,X.wantP_sign ((H1.out).good hS) (.inr (by decide))]
 go_wp2_with fail
 refine Done.want (H1.out) hS [[41]] (by simp) (by simp) (by rw [e1,List.length_append];omega) ?_
 intro w2 H2
 rw [e1] at H2
 go_wp2_with fail
 go_end0
 exact ⟨rfl,by show Done _ _ _ _ _ _ _ _ _ _ _ _ _;rw [List.append_assoc] at H2;exact H2.out⟩
end
end Go.Proofs.YtbmebfgapjhchaaGreatDoor
/- Lets,choices,funs and their names,if expressions can be read one level deeper. -/
namespace Go.Proofs.YtbmebfgapjhchaaGreatDoor
open Go.RowKit Go.Shelf
open M
namespace X
theorem andThen_congr {f f' g g':R} {ts:List Tok} (h1:f ts=f' ts) (h2:g (f' ts).2=g' (f' ts).2):andThen f g ts=andThen f' g' ts:=by
 unfold andThen;rw [h1,h2]
theorem wants_sign {x:List UInt8} (hs:x∈words∨x∈signs) {ts:List Tok} (hg:Good ts):wantsP [x] ts=want x ts:=by rw [wantsP_one,wantP_sign hg hs]
theorem wants_name {ts:List Tok} (hg:Good ts):wantsP [sName] ts=wname ts:=by rw [wantsP_one,wantP_name hg]
theorem wants_cons_name {xs:List (List UInt8)} {g:R} {ts:List Tok} (hg:Good ts) (h:wantsP xs (wname ts).2=g (wname ts).2):wantsP (sName::xs) ts=andThen wname g ts:=andThen_congr (wantP_name hg) h
theorem wants_cons_sign {x:List UInt8} (hs:x∈words∨x∈signs) {xs:List (List UInt8)} {g:R} {ts:List Tok} (hg:Good ts) (h:wantsP xs (want x ts).2=g (want x ts).2):wantsP (x::xs) ts=andThen (want x) g ts:=andThen_congr (wantP_sign hg hs) h
end X
set_option maxRecDepth 100000 in
set_option maxHeartbeats 400000 in
theorem params_any {s:ByteArray} {L:List Tk} {dp:Nat} (hS:TokS s L):Reads 130 X.params (fun _=>True) s L dp:=by
 intro rb tv a B k rv vs ps D w h _ hl
 have hg:=hS.rem a
 have hn:=name_any s L dp hS
 have hlen:(remT s L a).length≤L.length:=(Done.refl h).len
 have hL:=hS.len
 have hc:=((X.Cap.want [40]).andThen (X.Cap.wname.several [41])).le (remT s L a)
 rw [X.len_andThen] at hc
 have hl1:ps.length+1≤1073741824:=hl
 have HH:=hide h
 have HNm:=hide hn
 clear h hn hl
 have e1:=X.wants_sign (x:=[40]) (.inr (by decide)) hg
 go_enter Tryz.func130,Tryz.ntmps130
 go_wp2_with fail
 refine (grow_any rb s L tv a dp B k rv vs ps D w HH.out (by omega) 6).mono ?_
 rintro e w1 ⟨rfl,H1⟩
 have HO:=hide (H1.out).1
 have H2:=Done.start (H1.out).2
 clear H1
 go_wp2_with fail
 refine Done.want (H2.out) hS [[40]] (by simp) (by simp) (by rw [e1];simp;omega) ?_
 intro w3 H3
 rw [e1,List.nil_append] at H3
 go_wp2_with fail
 refine Done.several (H3.out) hS en_name (HNm.out) X.Shr.wname [41] (by decide) (by omega) ?_
 intro w4 H4
 go_wp2_with fail
 go_end0
 exact ⟨rfl,(HO.out).close H4.out⟩
section
variable {s:ByteArray} {L:List Tk} {dp:Nat} (hS:TokS s L) {E:X.R} (hE:Reads 131 E (fun _=>True) s L dp)
include hS hE
set_option maxRecDepth 100000 in
set_option maxHeartbeats 400000 in
theorem let_any:Reads 143 (X.andThen X.wname (X.andThen (X.want [61]) (X.andThen E (X.andThen (X.want [105,110]) E)))) (fun _=>True) s L dp:=by
 intro rb tv a B k rv vs ps D w h _ hl
 have H:=Done.start h
 have hg:=hS.rem a
 have HE:=hide hE
 clear h hE
 have e1:X.wantsP [X.sName,[61]] (remT s L a)=X.andThen X.wname (X.want [61]) (remT s L a):=X.wants_cons_name hg (X.wants_sign (.inr (by decide)) (X.Shr.wname.good hg))
 have e0:X.andThen X.wname (X.andThen (X.want [61]) (X.andThen E (X.andThen (X.want [105,110]) E)))=X.andThen (X.andThen X.wname (X.want [61])) (X.andThen E (X.andThen (X.want [105,110]) E)):=(X.andThen_assoc _ _ _).symm
 rw [e0] at hl ⊢
 rw [X.len_andThen,X.len_andThen E,X.len_andThen (X.want [105,110])] at hl
 generalize hF:X.andThen X.wname (X.want [61])=F at *
 go_enter Tryz.func143,Tryz.ntmps143
 go_wp2_with fail
 refine Done.want (H.out) hS [X.sName,[61]] (by simp [X.sName]) (by simp) (by rw [e1];omega) ?_
 intro w1 H1
 rw [e1] at H1
 go_wp2_with fail
 refine Done.then (H1.out) (HE.out) trivial (by rw [List.length_append];omega) ?_
 intro w2 H2
 have e2:=X.wants_sign (x:=[105,110]) (.inl (by decide)) ((H2.out).good hS)
 go_wp2_with fail
 refine Done.want (H2.out) hS [[105,110]] (by simp) (by simp) (by rw [e2,List.length_append,List.length_append];omega) ?_
 intro w3 H3
 rw [e2] at H3
 go_wp2_with fail
 refine Done.then (H3.out) (HE.out) trivial (by simp only [List.length_append];omega) ?_
 intro w4 H4
 go_wp2_with fail
 go_end0
 refine ⟨rfl,?_⟩
 simp only [List.append_assoc] at H4
 exact H4
set_option maxRecDepth 100000 in
set_option maxHeartbeats 400000 in
theorem choice_any:Reads 144 (X.andThen E (X.andThen (X.want [116,104,101,110]) (X.andThen E (X.andThen (X.want [101,108,115,101]) E)))) (fun _=>True) s L dp:=by
 intro rb tv a B k rv vs ps D w h _ hl
 have H:=Done.start h
 have HE:=hide hE
 clear h hE
 rw [X.len_andThen,X.len_andThen (X.want _),X.len_andThen E,X.len_andThen (X.want _)] at hl
 go_enter Tryz.func144,Tryz.ntmps144
 go_wp2_with fail
 refine Done.then (H.out) (HE.out) trivial (by omega) ?_
 intro w1 H1
 have e1:=X.wants_sign (x:=[116,104,101,110]) (.inl (by decide)) ((H1.out).good hS)
 go_wp2_with fail
 refine Done.want (H1.out) hS [[116,104,101,110]] (by simp) (by simp) (by rw [e1];simp only [List.length_append];omega) ?_
 intro w2 H2
 rw [e1] at H2
 go_wp2_with fail
 refine Done.then (H2.out) (HE.out) trivial (by simp only [List.length_append];omega) ?_
 intro w3 H3
 have e2:=X.wants_sign (x:=[101,108,115,101]) (.inl (by decide)) ((H3.out).good hS)
 go_wp2_with fail
 refine Done.want (H3.out) hS [[101,108,115,101]] (by simp) (by simp) (by rw [e2];simp only [List.length_append];omega) ?_
 intro w4 H4
 rw [e2] at H4
 go_wp2_with fail
 refine Done.then (H4.out) (HE.out) trivial (by simp only [List.length_append];omega) ?_
 intro w5 H5
 go_wp2_with fail
 go_end0
 refine ⟨rfl,?_⟩
 simp only [List.append_assoc] at H5
 exact H5
set_option maxRecDepth 100000 in
set_option maxHeartbeats 400000 in
theorem fun_any:Reads 145 (X.andThen X.params (X.andThen (X.want [61,62]) E)) (fun _=>True) s L dp:=by
 intro rb tv a B k rv vs ps D w h _ hl
 have H:=Done.start h
 have HE:=hide hE
 have HP:=hide (params_any (s:=s) (L:=L) (dp:=dp) hS)
 clear h hE
 rw [X.len_andThen,X.len_andThen (X.want _)] at hl
 generalize hF:X.params=F at *
 go_enter Tryz.func145,Tryz.ntmps145
 go_wp2_with fail
 refine Done.then (H.out) (HP.out) trivial (by omega) ?_
 intro w1 H1
 have e1:=X.wants_sign (x:=[61,62]) (.inr (by decide)) ((H1.out).good hS)
 go_wp2_with fail
 refine Done.want (H1.out) hS [[61,62]] (by simp) (by simp) (by rw [e1];simp only [List.length_append];omega) ?_
 intro w2 H2
 rw [e1] at H2
 go_wp2_with fail
 refine Done.then (H2.out) (HE.out) trivial (by simp only [List.length_append];omega) ?_
 intro w3 H3
 go_wp2_with fail
 go_end0
 refine ⟨rfl,?_⟩
 simp only [List.append_assoc] at H3
 exact H3
end
end Go.Proofs.YtbmebfgapjhchaaGreatDoor
/- Things with signs between them. -/
namespace Go.Proofs.YtbmebfgapjhchaaGreatDoor
open Go.RowKit Go.Shelf
open M
set_option maxRecDepth 100000 in
set_option maxHeartbeats 400000 in
theorem binary_any {s:ByteArray} {L:List Tk} {dp:Nat} (hS:TokS s L) {fn:FuncId} (hen:∀ args w,(callFunc fn args).run Tryz.prog w=.ok (.enter fn args) w) {O:X.R} (hO:Reads fn O (fun _=>True) s L dp)
  (rb:Nat) (tv:Value) (a B k:Nat) (rv:Value) (vs:List Value) (ps:List X.Part) (p:X.Part) (D:Nat→Prop) (w:World) (h:Wk w rb s L tv a dp B k rv vs (ps++[p]) D) (hn:X.nxt (remT s L a)≠none) (hl:ps.length+1≤1073741824) (hl2:1+(X.andThen X.take O (remT s L a)).1.length≤1073741824) :
  Calls Tryz.prog 154 #[.pointer (some ⟨rb,0,none⟩),.pointer (some ⟨B,0,none⟩),.func (.func fn) #[.pointer (some ⟨rb,0,none⟩)] #[]] w fun en w'=>en=.returned (.tuple #[])∧Hid (Done w rb s L tv dp B k rv (ps++[.br 10 ([p]++(X.andThen X.take O (remT s L a)).1)]) (X.andThen X.take O (remT s L a)).2 D w'):=by
 rw [X.len_andThen] at hl2
 have HH:=hide h
 have HO:=hide hO
 clear h hO
 go_enter Tryz.func154,Tryz.ntmps154
 go_wp2_with fail
 refine (wrap_any rb s L tv a dp B k rv vs ps p D w HH.out hl 10).mono ?_
 rintro e w1 ⟨N,rvn,v,rfl,H1⟩
 have HOp:=hide (H1.out).1
 have H2:=Done.start (H1.out).2
 clear H1
 go_wp2_with fail
 refine Done.then (H2.out) (take_any s L dp hS) hn (by simp;omega) ?_
 intro w3 H3
 go_wp2_with fail
 refine Done.then (H3.out) (HO.out) trivial (by simp;omega) ?_
 intro w4 H4
 go_wp2_with fail
 go_end0
 refine ⟨rfl,?_⟩
 rw [List.append_assoc] at H4
 exact (HOp.out).close H4.out
theorem Done.binary {w w1:World} {rb:Nat} {s:ByteArray} {L:List Tk} {tv:Value} {dp B k:Nat} {rv:Value} {ps1:List X.Part} {p:X.Part} {ts1:List X.Tok} {D:Nat→Prop} {Q:Ending→World→Prop} (h:Done w rb s L tv dp B k rv (ps1++[p]) ts1 D w1) (hS:TokS s L)
  {fn:FuncId} (hen:∀ args w,(callFunc fn args).run Tryz.prog w=.ok (.enter fn args) w) {O:X.R} (hO:Reads fn O (fun _=>True) s L dp) (hn:X.nxt ts1≠none) (hl:ps1.length+1≤1073741824) (hl2:1+(X.andThen X.take O ts1).1.length≤1073741824)
  (hQ:∀ w2,Hid (Done w rb s L tv dp B k rv (ps1++[.br 10 ([p]++(X.andThen X.take O ts1).1)]) (X.andThen X.take O ts1).2 D w2)→Q (.returned (.tuple #[])) w2) :
  Calls Tryz.prog 154 #[.pointer (some ⟨rb,0,none⟩),.pointer (some ⟨B,0,none⟩),.func (.func fn) #[.pointer (some ⟨rb,0,none⟩)] #[]] w1 Q:=by
 obtain ⟨a1,rv1,vs1,D1,g1,rfl,g3,g4,g5,g6⟩:=h
 refine (binary_any hS hen hO rb tv a1 B k rv1 vs1 ps1 p D1 w1 g1 hn hl hl2).mono ?_
 rintro e w2 ⟨rfl,H2⟩
 exact hQ w2 (Done.trans g3 g4 g5 g6 H2.out)
theorem Done.isNextRow {w w1:World} {rb:Nat} {s:ByteArray} {L:List Tk} {tv:Value} {dp B k:Nat} {rv:Value} {ps1:List X.Part} {ts1:List X.Tok} {D:Nat→Prop} {Q:Ending→World→Prop}
  (h:Done w rb s L tv dp B k rv ps1 ts1 D w1) {c:Nat} {ss:List (List UInt8)} (hs:StrRow w c ss) (hc:c≠rb∧c≠B∧rv.ownBlock≠some c)
  (hQ:∀ w2,Hid (Done w rb s L tv dp B k rv ps1 ts1 D w2)→Q (.returned (.bool (ss.any (fun x=>X.pN x ts1)))) w2) :
  Calls Tryz.prog 101 #[.pointer (some ⟨rb,0,none⟩),.slice (some ⟨c,0,none⟩) ss.length ss.length] w1 Q:=by
 obtain ⟨a1,rv1,vs1,D1,g1,rfl,g3,g4,g5,g6⟩:=h
 have hs1:StrRow w1 c ss:=⟨fun i x hx=>g6.cellv (hs.cells i x hx) (by
  rintro (e|e|e)
  ·exact hc.1 e
  ·exact hc.2.1 e
  ·exact hc.2.2 e),hs.len⟩
 refine (isNext_any rb s L tv a1 dp _ g1.rdr c ss hs1).mono ?_
 rintro e w2 ⟨rfl,k2⟩
 exact hQ w2 ⟨a1,rv1,vs1,D1,g1.below k2,rfl,g3,g4,g5,Kp.trans g6 (Kp.ofBelow k2 (fun _=>False)) (fun _ _ h=>h.elim)⟩
set_option maxRecDepth 100000 in
set_option maxHeartbeats 400000 in
theorem row_any {s:ByteArray} {L:List Tk} {dp:Nat} (hS:TokS s L) {fn:FuncId} (hen:∀ args w,(callFunc fn args).run Tryz.prog w=.ok (.enter fn args) w) {O:X.R} (hO:Reads fn O (fun _=>True) s L dp) (hsh:X.Shr O) (h1:X.One1 O)
  (ss:List (List UInt8)) (ok:List X.Tok→Bool) (hok:∀ ts,X.Good ts→ss.any (fun x=>X.pN x ts)=ok ts) (hok2:∀ ts,ok ts=true→X.nxt ts≠none)
  (rb:Nat) (tv:Value) (a B k:Nat) (rv:Value) (vs:List Value) (ps:List X.Part) (D:Nat→Prop) (w:World) (h:Wk w rb s L tv a dp B k rv vs ps D) (c:Nat) (hs:StrRow w c ss) (hc:c≠rb∧c≠B∧rv.ownBlock≠some c) (hl:ps.length+1≤1073741824) :
  Calls Tryz.prog 157 #[.pointer (some ⟨rb,0,none⟩),.pointer (some ⟨B,0,none⟩),.func (.func fn) #[.pointer (some ⟨rb,0,none⟩)] #[],.slice (some ⟨c,0,none⟩) ss.length ss.length] w fun en w'=>en=.returned (.tuple #[])∧Hid (Done w rb s L tv dp B k rv (ps++(X.row O ok (remT s L a)).1) (X.row O ok (remT s L a)).2 D w'):=by
 have H:=Done.start h
 have HO:=hide hO
 have HS:=hide hs
 have HC:=hide hc
 have hL:=hS.len
 have hO1:=h1.len (remT s L a)
 clear h hO hs hc
 go_enter Tryz.func157,Tryz.ntmps157
 go_wp2_with fail
 refine Done.then (H.out) (HO.out) trivial (by omega) ?_
 intro w1 H1
 obtain ⟨p0,hp0⟩:=h1 (remT s L a)
 rw [hp0] at H1
 go_wp2_with fail
 go_loopw [] (fun wr=>∃ (p:X.Part) (ts1:List X.Tok),Hid (Done w rb s L tv dp B k rv (ps++[p]) ts1 D wr)∧Hid (X.row O ok (remT s L a)=X.rowL O ok [p] ts1)) (fun wr=>L.length - atT rb wr)
 case atStart=>exact ⟨p0,_,H1,by show _=_;rw [X.row_eq,hp0]⟩
 case round =>
  obtain ⟨p,ts1,H3,HE⟩:=hrel
  have hg1:=(H3.out).good hS
  have hlen1:=(H3.out).len
  go_wp2_with fail
  refine Done.isNextRow (H3.out) (HS.out) (HC.out) ?_
  intro w4 H4
  rw [hok ts1 hg1]
  cases hc2:ok ts1 with
  | true =>
   have hn:=hok2 ts1 hc2
   have hcap:=(X.Cap.take.andThen (h1.cap hsh)).le ts1
   go_wp2_with fail
   refine Done.binary (H4.out) hS hen (HO.out) hn hl (by omega) ?_
   intro w5 H5
   go_wp2_with fail
   refine ⟨⟨_,_,H5,?_⟩,?_⟩
   ·show _=_
    rw [HE.out,X.rowL_yes hsh hok2 hc2]
   ·rw [(H5.out).at,(H3.out).at]
    have:=X.take_lt hn
    have:=hsh.le (X.take ts1).2
    show (O (X.take ts1).2).2.length<_
    omega
  | false =>
   have hx:X.row O ok (remT s L a)=([p],ts1):=by rw [HE.out,X.rowL_no hc2]
   go_wp2_with fail
   go_end0
   refine ⟨rfl,?_⟩
   rw [hx]
   exact H4
theorem Done.row {w w1:World} {rb:Nat} {s:ByteArray} {L:List Tk} {tv:Value} {dp B k:Nat} {rv:Value} {ps1:List X.Part} {ts1:List X.Tok} {D:Nat→Prop} {Q:Ending→World→Prop} (h:Done w rb s L tv dp B k rv ps1 ts1 D w1) (hS:TokS s L)
  {fn:FuncId} (hen:∀ args w,(callFunc fn args).run Tryz.prog w=.ok (.enter fn args) w) {O:X.R} (hO:Reads fn O (fun _=>True) s L dp) (hsh:X.Shr O) (h1:X.One1 O)
  (ss:List (List UInt8)) (hl1:ss.length≤1073741824) (ok:List X.Tok→Bool) (hok:∀ ts,X.Good ts→ss.any (fun x=>X.pN x ts)=ok ts) (hok2:∀ ts,ok ts=true→X.nxt ts≠none) (hl:ps1.length+1≤1073741824)
  (hQ:∀ w2,Hid (Done w rb s L tv dp B k rv (ps1++(X.row O ok ts1).1) (X.row O ok ts1).2 D w2)→Q (.returned (.tuple #[])) w2) :
  Calls Tryz.prog 157 #[.pointer (some ⟨rb,0,none⟩),.pointer (some ⟨B,0,none⟩),.func (.func fn) #[.pointer (some ⟨rb,0,none⟩)] #[],.slice (some ⟨w1.heap.size,0,none⟩) ss.length ss.length] (w1.alloc (Obj.cells (strA ss) 9)) Q:=by
 obtain ⟨a1,rv1,vs1,D1,g1,rfl,g3,g4,g5,g6⟩:=h
 have kA:Below w1.heap.size w1 (w1.alloc (Obj.cells (strA ss) 9)):=(Below.refl _ w1).alloc (Nat.le_refl _) _
 have hbl:=g1.bra.lt
 have hrl:=g1.rdr.raw.lt
 refine (row_any hS hen hO hsh h1 ss ok hok hok2 rb tv a1 B k rv1 vs1 ps1 D1 _ (g1.below kA) w1.heap.size (strRow_all w1 ss hl1) ⟨by omega,by omega,fun e=>by have:=(owns_ge g1.bra.row _ e).2;omega⟩ hl).mono ?_
 rintro e w2 ⟨rfl,H2⟩
 exact hQ w2 (Done.trans g3 g4 g5 (Kp.trans g6 (Kp.ofBelow kA (fun _=>False)) (fun _ _ h=>h.elim)) H2.out)
end Go.Proofs.YtbmebfgapjhchaaGreatDoor
/- Parts and calls of an expression,if expressions can be read one level deeper. -/
namespace Go.Proofs.YtbmebfgapjhchaaGreatDoor
open Go.RowKit Go.Shelf
open M
def OpD (w:World) (rb:Nat) (s:ByteArray) (L:List Tk) (tv:Value) (dp B k:Nat) (rv:Value) (ps0:List X.Part) (ts1:List X.Tok) (D:Nat→Prop) (kd N:Nat) (cps0:List X.Part) (w2:World):Prop :=
 ∃ (D1:Nat→Prop) (rvn:Value),Done w2 rb s L tv dp N kd rvn cps0 ts1 D1 w2∧∀ cps ts' w4 dp',Done w2 rb s L tv dp' N kd rvn cps ts' D1 w4→Done w rb s L tv dp' B k rv (ps0++[.br kd cps]) ts' D w4
theorem Done.grow {w w1:World} {rb:Nat} {s:ByteArray} {L:List Tk} {tv:Value} {dp B k:Nat} {rv:Value} {ps1:List X.Part} {ts1:List X.Tok} {D:Nat→Prop} {Q:Ending→World→Prop} (h:Done w rb s L tv dp B k rv ps1 ts1 D w1) (hl:ps1.length≤1073741824) (kd:Nat)
  (hQ:∀ N w2,Hid (OpD w rb s L tv dp B k rv ps1 ts1 D kd N [] w2)→Q (.returned (.pointer (some ⟨N,0,none⟩))) w2) :
  Calls Tryz.prog 139 #[.pointer (some ⟨B,0,none⟩),.int .i64 kd] w1 Q:=by
 obtain ⟨a1,rv1,vs1,D1,g1,rfl,g3,g4,g5,g6⟩:=h
 refine (grow_any rb s L tv a1 dp B k rv1 vs1 ps1 D1 w1 g1 hl kd).mono ?_
 rintro e w2 ⟨rfl,H2⟩
 exact hQ _ w2 ⟨D1,_,Done.refl (H2.out).2,fun cps ts' w4 dp' hd=>Done.trans g3 g4 g5 g6 ((H2.out).1.close hd)⟩
theorem Done.wrap {w w1:World} {rb:Nat} {s:ByteArray} {L:List Tk} {tv:Value} {dp B k:Nat} {rv:Value} {ps1:List X.Part} {p:X.Part} {ts1:List X.Tok} {D:Nat→Prop} {Q:Ending→World→Prop} (h:Done w rb s L tv dp B k rv (ps1++[p]) ts1 D w1) (hl:ps1.length+1≤1073741824) (kd:Nat)
  (hQ:∀ N w2,Hid (OpD w rb s L tv dp B k rv ps1 ts1 D kd N [p] w2)→Q (.returned (.pointer (some ⟨N,0,none⟩))) w2) :
  Calls Tryz.prog 159 #[.pointer (some ⟨B,0,none⟩),.int .i64 kd] w1 Q:=by
 obtain ⟨a1,rv1,vs1,D1,g1,rfl,g3,g4,g5,g6⟩:=h
 refine (wrap_any rb s L tv a1 dp B k rv1 vs1 ps1 p D1 w1 g1 hl kd).mono ?_
 rintro e w2 ⟨N,rvn,v,rfl,H2⟩
 exact hQ N w2 ⟨D1,rvn,Done.refl (H2.out).2,fun cps ts' w4 dp' hd=>Done.trans g3 g4 g5 g6 ((H2.out).1.close hd)⟩
theorem Done.nest {w w1:World} {rb:Nat} {s:ByteArray} {L:List Tk} {tv:Value} {dp B k:Nat} {rv:Value} {ps1:List X.Part} {ts1:List X.Tok} {D:Nat→Prop} {Q:Ending→World→Prop} (h:Done w rb s L tv dp B k rv ps1 ts1 D w1) (hS:TokS s L) (hdp:dp≤1000)
  {fn:FuncId} (hen:∀ args w,(callFunc fn args).run Tryz.prog w=.ok (.enter fn args) w) {I:X.R} (hI:Reads fn I (fun _=>True) s L (dp+1)) (hn:X.nxt ts1≠none) (kd:Nat) (hl:ps1.length+1≤1073741824) (hl2:(X.andThen X.take I ts1).1.length≤1073741824)
  (hQ:∀ w2,Hid (Done w rb s L tv dp B k rv (ps1++(X.node kd (X.andThen X.take I) ts1).1) (X.node kd (X.andThen X.take I) ts1).2 D w2)→Q (.returned (.tuple #[])) w2) :
  Calls Tryz.prog 142 #[.pointer (some ⟨rb,0,none⟩),.pointer (some ⟨B,0,none⟩),.int .i64 kd,.func (.func fn) #[.pointer (some ⟨rb,0,none⟩)] #[]] w1 Q:=by
 obtain ⟨a1,rv1,vs1,D1,g1,rfl,g3,g4,g5,g6⟩:=h
 refine (nest_any s L dp hS hdp fn hen I hI rb tv a1 B k rv1 vs1 ps1 D1 w1 g1 hn kd hl hl2).mono ?_
 rintro e w2 ⟨rfl,H2⟩
 exact hQ w2 (Done.trans g3 g4 g5 g6 H2.out)
theorem Done.lack {w w1:World} {rb:Nat} {s:ByteArray} {L:List Tk} {tv:Value} {dp B k:Nat} {rv:Value} {ps1:List X.Part} {ts1:List X.Tok} {D:Nat→Prop} {Q:Ending→World→Prop} (h:Done w rb s L tv dp B k rv ps1 ts1 D w1) (m:List UInt8) (hl:ps1.length≤1073741824)
  (hQ:∀ w2,Hid (Done w rb s L tv dp B k rv (ps1++[.miss m]) ts1 D w2)→Q (.returned (.tuple #[])) w2) :
  Calls Tryz.prog 52 #[.pointer (some ⟨B,0,none⟩),.iface 290 (.string (ba m))] w1 Q:=by
 obtain ⟨a1,rv1,vs1,D1,g1,rfl,g3,g4,g5,g6⟩:=h
 refine (add_any B k rv1 vs1 290 (.string (ba m)) w1 g1.bra (fun g hg=>(g1.sepG g hg).2.2) (by rw [g1.len];exact hl)).mono ?_
 rintro e w2 ⟨rfl,rv2,b2,o2,k2⟩
 refine hQ w2 (Done.trans g3 g4 g5 g6 ⟨a1,rv2,_,D1,g1.added b2 o2 k2 (IsP.miss m),rfl,fun _=>id,fun q hq=>.inl hq,o2,Kp.mono k2 (fun i _ e=>.inr e)⟩)
theorem Done.kind {w w1:World} {rb:Nat} {s:ByteArray} {L:List Tk} {tv:Value} {dp B k:Nat} {rv:Value} {ps1:List X.Part} {ts1:List X.Tok} {D:Nat→Prop} (h:Done w rb s L tv dp B k rv ps1 ts1 D w1):w1.cell? ⟨rb,4,none⟩=some (.int .i64 (X.kindN ts1))∧w1.cell? ⟨rb,6,none⟩=some (.int .i64 dp):=by
 obtain ⟨a1,rv1,vs1,D1,g1,rfl,-⟩:=h
 obtain ⟨⟨c0,c1,c2,c3,c4,c5,c6⟩,-⟩:=g1.rdr.raw.facts
 exact ⟨c4,c6⟩
theorem en_args:∀ args w,(callFunc 163 args).run Tryz.prog w=.ok (.enter 163 args) w:=enters_of Tryz.func163 (by kernel_rfl) rfl
theorem en_list:∀ args w,(callFunc 165 args).run Tryz.prog w=.ok (.enter 165 args) w:=enters_of Tryz.func165 (by kernel_rfl) rfl
theorem en_group:∀ args w,(callFunc 164 args).run Tryz.prog w=.ok (.enter 164 args) w:=enters_of Tryz.func164 (by kernel_rfl) rfl
section
variable {s:ByteArray} {L:List Tk} {dp:Nat} (hS:TokS s L) (hdp:dp≤1000) {E:X.R} (hE:Reads 131 E (fun _=>True) s L (dp+1)) (hsh:X.Shr E) (h1:X.One1 E)
include hS hdp hE hsh h1
set_option maxRecDepth 100000 in
set_option maxHeartbeats 1000000 in
theorem part_any:Reads 162 (X.part E) (fun _=>True) s L dp:=by
 intro rb tv a B k rv vs ps D w h _ hl
 have hl0:ps.length+1≤1073741824:=by rw [(X.One1.part E).len] at hl;exact hl
 have H:=Done.start h
 have hg:=hS.rem a
 have HG:=hide (group_any hS hE)
 have HL:=hide (list_any hS hE hsh)
 have hlen:=(H.out).len
 have hL:=hS.len
 have cT:=X.Cap.take.le (remT s L a)
 have cG:=(X.Cap.take.andThen ((h1.cap hsh).andThen (X.Cap.want [41]))).le (remT s L a)
 have cL:=(X.Cap.take.andThen ((h1.cap hsh).several [93])).le (remT s L a)
 obtain ⟨c4,c6⟩:=(H.out).kind
 clear h hl hE
 generalize hts:remT s L a=ts at *
 have HP:Hid (X.part E ts=if X.kindN ts==5 then X.node 15 X.take ts else if X.kindN ts==6 then X.node 16 X.take ts else if X.isN [116,114,117,101] ts||X.isN [102,97,108,115,101] ts then X.node 17 X.take ts
  else if X.kindN ts==3 then X.node 18 X.take ts else if X.isN [63] ts then X.node 19 X.take ts else if X.isN [40] ts then X.node 14 (X.andThen X.take (X.andThen E (X.want [41]))) ts else if X.isN [91] ts then X.node 13 (X.andThen X.take (X.several E [93])) ts else ([.miss X.sExpr],ts)):=(rfl:_=_)
 have kI:∀ n:Nat,((X.kindN ts:Int)==(n:Int))=(X.kindN ts==n):=fun n=>by rw [Bool.eq_iff_iff];simp;omega
 have i5:((X.kindN ts:Int)==5)=(X.kindN ts==5):=kI 5
 have i6:((X.kindN ts:Int)==6)=(X.kindN ts==6):=kI 6
 clear kI
 generalize X.part E ts=PE at *
 go_enter Tryz.func162,Tryz.ntmps162
 cases h5:(X.kindN ts==5) with
 | true =>
  rw [h5] at i5
  go_wp2_with fail
  refine Done.grow (H.out) (by omega) 15 ?_
  intro N w2 HOp
  obtain ⟨D1,rvn,hst,hcl⟩:=HOp.out
  have HST:=hide hst
  have HCL:=hide hcl
  clear hst hcl HOp
  go_wp2_with fail
  refine Done.then (HST.out) (take_any s L dp hS) (X.kindN_next (by decide) h5) (by simp;omega) ?_
  intro w3 H3
  have HF:=hide ((HCL.out) _ _ _ _ H3.out)
  clear HST HCL H3
  go_wp2_with fail
  go_end0
  refine ⟨rfl,?_⟩
  have hp:=HP.out
  rw [h5,if_pos rfl] at hp
  rw [hp]
  exact HF
 | false =>
  rw [h5] at i5
  cases h6:(X.kindN ts==6) with
  | true =>
   rw [h6] at i6
   go_wp2_with fail
   refine Done.grow (H.out) (by omega) 16 ?_
   intro N w2 HOp
   obtain ⟨D1,rvn,hst,hcl⟩:=HOp.out
   have HST:=hide hst
   have HCL:=hide hcl
   clear hst hcl HOp
   go_wp2_with fail
   refine Done.then (HST.out) (take_any s L dp hS) (X.kindN_next (by decide) h6) (by simp;omega) ?_
   intro w3 H3
   have HF:=hide ((HCL.out) _ _ _ _ H3.out)
   clear HST HCL H3
   go_wp2_with fail
   go_end0
   refine ⟨rfl,?_⟩
   have hp:=HP.out
   rw [h5,if_neg (by simp),h6,if_pos rfl] at hp
   rw [hp]
   exact HF
  | false =>
   rw [h6] at i6
   go_wp2_with fail
   have eA:[[116,114,117,101],[102,97,108,115,101]].any (fun x=>X.pN x ts)=(X.isN [116,114,117,101] ts||X.isN [102,97,108,115,101] ts):=by simp [X.pN_sign hg (.inl (by decide:[116,114,117,101]∈words)),X.pN_sign hg (.inl (by decide:[102,97,108,115,101]∈words))]
   refine Done.isNext (H.out) [[116,114,117,101],[102,97,108,115,101]] (by simp) ?_
   intro wA HA
   rw [eA]
   clear eA c4 c6 H i5 i6
   cases hA:(X.isN [116,114,117,101] ts||X.isN [102,97,108,115,101] ts) with
   | true =>
    go_wp2_with fail
    refine Done.grow (HA.out) (by omega) 17 ?_
    intro N w2 HOp
    obtain ⟨D1,rvn,hst,hcl⟩:=HOp.out
    have HST:=hide hst
    have HCL:=hide hcl
    clear hst hcl HOp
    go_wp2_with fail
    refine Done.then (HST.out) (take_any s L dp hS) (by rcases Bool.or_eq_true_iff.1 hA with g|g<;>exact X.isN_next g) (by simp;omega) ?_
    intro w3 H3
    have HF:=hide ((HCL.out) _ _ _ _ H3.out)
    clear HST HCL H3
    go_wp2_with fail
    go_end0
    refine ⟨rfl,?_⟩
    have hp:=HP.out
    rw [h5,if_neg (by simp),h6,if_neg (by simp),hA,if_pos rfl] at hp
    rw [hp]
    exact HF
   | false =>
    go_wp2_with fail
    have eB:[X.sName].any (fun x=>X.pN x ts)=(X.kindN ts==3):=by simp [X.pN_name hg]
    refine Done.isNext (HA.out) [X.sName] (by simp) ?_
    intro wB HB
    rw [eB]
    clear eB HA
    cases hB:(X.kindN ts==3) with
    | true =>
     go_wp2_with fail
     refine Done.grow (HB.out) (by omega) 18 ?_
     intro N w2 HOp
     obtain ⟨D1,rvn,hst,hcl⟩:=HOp.out
     have HST:=hide hst
     have HCL:=hide hcl
     clear hst hcl HOp
     go_wp2_with fail
     refine Done.then (HST.out) (take_any s L dp hS) (X.kindN_next (by decide) hB) (by simp;omega) ?_
     intro w3 H3
     have HF:=hide ((HCL.out) _ _ _ _ H3.out)
     clear HST HCL H3
     go_wp2_with fail
     go_end0
     refine ⟨rfl,?_⟩
     have hp:=HP.out
     rw [h5,if_neg (by simp),h6,if_neg (by simp),hA,if_neg (by simp),hB,if_pos rfl] at hp
     rw [hp]
     exact HF
    | false =>
     go_wp2_with fail
     have eC:[[63]].any (fun x=>X.pN x ts)=X.isN [63] ts:=by simp [X.pN_sign hg (.inr (by decide:[63]∈X.signs))]
     refine Done.isNext (HB.out) [[63]] (by simp) ?_
     intro wC HC
     rw [eC]
     clear eC HB
     cases hC:X.isN [63] ts with
     | true =>
      go_wp2_with fail
      refine Done.grow (HC.out) (by omega) 19 ?_
      intro N w2 HOp
      obtain ⟨D1,rvn,hst,hcl⟩:=HOp.out
      have HST:=hide hst
      have HCL:=hide hcl
      clear hst hcl HOp
      go_wp2_with fail
      refine Done.then (HST.out) (take_any s L dp hS) (X.isN_next hC) (by simp;omega) ?_
      intro w3 H3
      have HF:=hide ((HCL.out) _ _ _ _ H3.out)
      clear HST HCL H3
      go_wp2_with fail
      go_end0
      refine ⟨rfl,?_⟩
      have hp:=HP.out
      rw [h5,if_neg (by simp),h6,if_neg (by simp),hA,if_neg (by simp),hB,if_neg (by simp),hC,if_pos rfl] at hp
      rw [hp]
      exact HF
     | false =>
      go_wp2_with fail
      have eD:[[40]].any (fun x=>X.pN x ts)=X.isN [40] ts:=by simp [X.pN_sign hg (.inr (by decide:[40]∈X.signs))]
      refine Done.isNext (HC.out) [[40]] (by simp) ?_
      intro wD HD
      rw [eD]
      clear eD HC
      cases hD:X.isN [40] ts with
      | true =>
       go_wp2_with fail
       refine Done.nest (HD.out) hS hdp en_group (HG.out) (X.isN_next hD) 14 hl0 (by omega) ?_
       intro w3 HF
       clear HD
       go_wp2_with fail
       go_end0
       refine ⟨rfl,?_⟩
       have hp:=HP.out
       rw [h5,if_neg (by simp),h6,if_neg (by simp),hA,if_neg (by simp),hB,if_neg (by simp),hC,if_neg (by simp),hD,if_pos rfl] at hp
       rw [hp]
       exact HF
      | false =>
       go_wp2_with fail
       have eE:[[91]].any (fun x=>X.pN x ts)=X.isN [91] ts:=by simp [X.pN_sign hg (.inr (by decide:[91]∈X.signs))]
       refine Done.isNext (HD.out) [[91]] (by simp) ?_
       intro wE HE
       rw [eE]
       clear eE HD
       cases hE:X.isN [91] ts with
       | true =>
        go_wp2_with fail
        refine Done.nest (HE.out) hS hdp en_list (HL.out) (X.isN_next hE) 13 hl0 (by omega) ?_
        intro w3 HF
        clear HE
        go_wp2_with fail
        go_end0
        refine ⟨rfl,?_⟩
        have hp:=HP.out
        rw [h5,if_neg (by simp),h6,if_neg (by simp),hA,if_neg (by simp),hB,if_neg (by simp),hC,if_neg (by simp),hD,if_neg (by simp),hE,if_pos rfl] at hp
        rw [hp]
        exact HF
       | false =>
        go_wp2_with fail
        refine Done.lack (HE.out) X.sExpr (by omega) ?_
        intro w3 HF
        clear HE
        go_wp2_with fail
        go_end0
        refine ⟨rfl,?_⟩
        have hp:=HP.out
        rw [h5,if_neg (by simp),h6,if_neg (by simp),hA,if_neg (by simp),hB,if_neg (by simp),hC,if_neg (by simp),hD,if_neg (by simp),hE,if_neg (by simp)] at hp
        rw [hp]
        exact HF
end
end Go.Proofs.YtbmebfgapjhchaaGreatDoor
/- Expressions. -/
namespace Go.Proofs.YtbmebfgapjhchaaGreatDoor
open Go.RowKit Go.Shelf
open M
theorem en_call:∀ args w,(callFunc 161 args).run Tryz.prog w=.ok (.enter 161 args) w:=enters_of Tryz.func161 (by kernel_rfl) rfl
theorem en_product:∀ args w,(callFunc 158 args).run Tryz.prog w=.ok (.enter 158 args) w:=enters_of Tryz.func158 (by kernel_rfl) rfl
theorem en_sum:∀ args w,(callFunc 153 args).run Tryz.prog w=.ok (.enter 153 args) w:=enters_of Tryz.func153 (by kernel_rfl) rfl
theorem en_let:∀ args w,(callFunc 143 args).run Tryz.prog w=.ok (.enter 143 args) w:=enters_of Tryz.func143 (by kernel_rfl) rfl
theorem en_choice:∀ args w,(callFunc 144 args).run Tryz.prog w=.ok (.enter 144 args) w:=enters_of Tryz.func144 (by kernel_rfl) rfl
theorem en_fun:∀ args w,(callFunc 145 args).run Tryz.prog w=.ok (.enter 145 args) w:=enters_of Tryz.func145 (by kernel_rfl) rfl
section
variable {s:ByteArray} {L:List Tk} {dp:Nat} (hS:TokS s L) (hdp:dp≤1000) {E:X.R} (hE:Reads 131 E (fun _=>True) s L (dp+1)) (hsh:X.Shr E) (h1:X.One1 E)
include hS hdp hE hsh h1
set_option maxRecDepth 100000 in
set_option maxHeartbeats 1000000 in
theorem call_any:Reads 161 (X.call E) (fun _=>True) s L dp:=by
 intro rb tv a B k rv vs ps D w h _ hl
 have hl0:ps.length+1≤1073741824:=by rw [(X.One1.call E).len] at hl;exact hl
 have H:=Done.start h
 have HP:=hide (part_any hS hdp hE hsh h1)
 have HA:=hide (args_any hS hE hsh)
 have hL:=hS.len
 have hO1:=(X.One1.part E).len (remT s L a)
 obtain ⟨p0,hp0⟩:=X.One1.part E (remT s L a)
 have HC0:Hid (X.call E (remT s L a)=X.callL E [p0] (X.part E (remT s L a)).2):=by
  show X.callGo E _ _ _=_
  rw [hp0];rfl
 clear h hl hE
 generalize X.call E (remT s L a)=CE at *
 go_enter Tryz.func161,Tryz.ntmps161
 go_wp2_with fail
 refine Done.then (H.out) (HP.out) trivial (by omega) ?_
 intro w1 H1
 rw [hp0] at H1
 go_wp2_with fail
 go_loopw [] (fun wr=>∃ (p:X.Part) (ts1:List X.Tok),Hid (Done w rb s L tv dp B k rv (ps++[p]) ts1 D wr)∧Hid (CE=X.callL E [p] ts1)) (fun wr=>L.length - atT rb wr)
 case atStart=>exact ⟨p0,_,H1,HC0⟩
 case round =>
  obtain ⟨p,ts1,H3,HE⟩:=hrel
  have hg1:=(H3.out).good hS
  have hlen1:=(H3.out).len
  have eA:[[40]].any (fun x=>X.pN x ts1)=X.isN [40] ts1:=by simp [X.pN_sign hg1 (.inr (by decide:[40]∈X.signs))]
  go_wp2_with fail
  refine Done.isNext (H3.out) [[40]] (by simp) ?_
  intro w4 H4
  rw [eA]
  cases hc2:X.isN [40] ts1 with
  | true =>
   have hn:=X.isN_next hc2
   have hcap:=(X.Cap.take.andThen ((h1.cap hsh).several [41])).le ts1
   go_wp2_with fail
   refine Done.wrap (H4.out) hl0 11 ?_
   intro N w5 HOp
   obtain ⟨D1,rvn,hst,hcl⟩:=HOp.out
   have HST:=hide hst
   have HCL:=hide hcl
   clear hst hcl HOp
   go_wp2_with fail
   refine Done.nest (HST.out) hS hdp en_args (HA.out) hn 12 (by simp) (by omega) ?_
   intro w6 H6
   have HF:=hide ((HCL.out) _ _ _ _ H6.out)
   go_wp2_with fail
   refine ⟨⟨_,_,HF,?_⟩,?_⟩
   ·show _=_
    rw [HE.out,X.callL_yes hsh hc2];rfl
   ·rw [(HF.out).at,(H3.out).at]
    exact X.args_lt hsh hn
  | false =>
   have hx:CE=([p],ts1):=by rw [HE.out,X.callL_no hc2]
   go_wp2_with fail
   go_end0
   refine ⟨rfl,?_⟩
   rw [hx]
   exact H4
set_option maxRecDepth 100000 in
set_option maxHeartbeats 1000000 in
theorem product_any:Reads 158 (X.product E) (fun _=>True) s L dp:=by
 intro rb tv a B k rv vs ps D w h _ hl
 have hl0:ps.length+1≤1073741824:=by rw [(X.One1.product E).len] at hl;exact hl
 have H:=Done.start h
 have HC:=hide (call_any hS hdp hE hsh h1)
 clear h hl hE
 go_enter Tryz.func158,Tryz.ntmps158
 go_wp2_with fail
 refine Done.row (H.out) hS en_call (HC.out) hsh.call (X.One1.call E) [[42]] (by simp) (X.isN [42]) (fun ts hg=>by simp [X.pN_sign hg (.inr (by decide:[42]∈X.signs))]) (fun ts h=>X.isN_next h) hl0 ?_
 intro w1 H1
 go_wp2_with fail
 go_end0
 exact ⟨rfl,H1⟩
set_option maxRecDepth 100000 in
set_option maxHeartbeats 1000000 in
theorem sum_any:Reads 153 (X.sum E) (fun _=>True) s L dp:=by
 intro rb tv a B k rv vs ps D w h _ hl
 have hl0:ps.length+1≤1073741824:=by rw [(X.One1.sum E).len] at hl;exact hl
 have H:=Done.start h
 have HC:=hide (product_any hS hdp hE hsh h1)
 clear h hl hE
 go_enter Tryz.func153,Tryz.ntmps153
 go_wp2_with fail
 refine Done.row (H.out) hS en_product (HC.out) hsh.product (X.One1.product E) [[43],[45],[43,43]] (by simp) (fun ts=>X.isN [43] ts||X.isN [45] ts||X.isN [43,43] ts) (fun ts hg=>by simp [X.pN_sign hg (.inr (by decide:[43]∈X.signs)),X.pN_sign hg (.inr (by decide:[45]∈X.signs)),X.pN_sign hg (.inr (by decide:[43,43]∈X.signs)),Bool.or_assoc]) (fun ts h=>by
  rcases Bool.or_eq_true_iff.1 h with g|g
  ·rcases Bool.or_eq_true_iff.1 g with g|g<;>exact X.isN_next g
  ·exact X.isN_next g) hl0 ?_
 intro w1 H1
 go_wp2_with fail
 go_end0
 exact ⟨rfl,H1⟩
set_option maxRecDepth 100000 in
set_option maxHeartbeats 1000000 in
theorem comparison_any:Reads 146 (X.comparison E) (fun _=>True) s L dp:=by
 intro rb tv a B k rv vs ps D w h _ hl
 have hl0:ps.length+1≤1073741824:=by rw [(X.One1.comparison E).len] at hl;exact hl
 have H:=Done.start h
 have HC:=hide (sum_any hS hdp hE hsh h1)
 have hL:=hS.len
 have hO1:=(X.One1.sum E).len (remT s L a)
 obtain ⟨p0,hp0⟩:=X.One1.sum E (remT s L a)
 have HX:Hid (X.comparison E (remT s L a)=if X.isN [61,61] (X.sum E (remT s L a)).2||X.isN [60] (X.sum E (remT s L a)).2 then ([.br 10 ((X.sum E (remT s L a)).1++(X.andThen X.take (X.sum E) (X.sum E (remT s L a)).2).1)],(X.andThen X.take (X.sum E) (X.sum E (remT s L a)).2).2) else X.sum E (remT s L a)):=(rfl:_=_)
 have hcp:X.Cap (X.sum E) 1:=(X.One1.sum E).cap hsh.sum
 clear h hl hE
 generalize X.comparison E (remT s L a)=CE at *
 generalize X.sum E=SE at *
 go_enter Tryz.func146,Tryz.ntmps146
 go_wp2_with fail
 refine Done.then (H.out) (HC.out) trivial (by omega) ?_
 intro w1 H1
 rw [hp0] at H1
 have hg1:=(H1.out).good hS
 have hlen1:=(H1.out).len
 have hcap:=(X.Cap.take.andThen hcp).le (SE (remT s L a)).2
 have eA:[[61,61],[60]].any (fun x=>X.pN x (SE (remT s L a)).2)=(X.isN [61,61] (SE (remT s L a)).2||X.isN [60] (SE (remT s L a)).2):=by simp [X.pN_sign hg1 (.inr (by decide:[61,61]∈X.signs)),X.pN_sign hg1 (.inr (by decide:[60]∈X.signs))]
 go_wp2_with fail
 refine Done.isNext (H1.out) [[61,61],[60]] (by simp) ?_
 intro w2 H2
 rw [eA]
 cases hc:(X.isN [61,61] (SE (remT s L a)).2||X.isN [60] (SE (remT s L a)).2) with
 | true =>
  go_wp2_with fail
  refine Done.binary (H2.out) hS en_sum (HC.out) (by rcases Bool.or_eq_true_iff.1 hc with g|g<;>exact X.isN_next g) hl0 (by omega) ?_
  intro w3 H3
  go_wp2_with fail
  go_end0
  refine ⟨rfl,?_⟩
  have hp:=HX.out
  rw [hc,if_pos rfl] at hp
  rw [hp,hp0]
  exact H3
 | false =>
  go_wp2_with fail
  go_end0
  refine ⟨rfl,?_⟩
  have hp:=HX.out
  rw [hc,if_neg (by simp)] at hp
  rw [hp,hp0]
  exact H2
end
set_option maxRecDepth 100000 in
set_option maxHeartbeats 1000000 in
theorem expression_any {s:ByteArray} {L:List Tk} (hS:TokS s L):∀ (n dp:Nat),dp+n=65→Reads 131 (X.expr n) (fun _=>True) s L dp:=by
 intro n
 induction n with
 | zero =>
  intro dp hd rb tv a B k rv vs ps D w h _ hl
  have H:=Done.start h
  obtain ⟨c4,c6⟩:=(H.out).kind
  have i1:decide ((dp:Int)>64)=true:=by simp;omega
  have i2:decide (64<dp)=true:=by simp;omega
  have hl0:ps.length+1≤1073741824:=hl
  clear h hl
  go_enter Tryz.func131,Tryz.ntmps131
  go_wp2_with fail
  refine Done.lack (H.out) X.sExpr (by omega) ?_
  intro w1 H1
  go_wp2_with fail
  go_end0
  exact ⟨rfl,H1⟩
 | succ n ih =>
  intro dp hd rb tv a B k rv vs ps D w h _ hl
  have hl0:ps.length+1≤1073741824:=by rw [(X.One1.expr (n+1)).len] at hl;exact hl
  have hE:=ih (dp+1) (by omega)
  have hsh:=X.Shr.expr n
  have h1:=X.One1.expr n
  have hdp:dp≤1000:=by omega
  have H:=Done.start h
  have hg:=hS.rem a
  have HLt:=hide (let_any hS hE)
  have HCh:=hide (choice_any hS hE)
  have HFn:=hide (fun_any hS hE)
  have HCp:=hide (comparison_any hS hdp hE hsh h1)
  have hlen:=(H.out).len
  have hL:=hS.len
  have c1:=(X.Cap.take.andThen (X.Cap.wname.andThen ((X.Cap.want [61]).andThen ((h1.cap hsh).andThen ((X.Cap.want [105,110]).andThen (h1.cap hsh)))))).le (remT s L a)
  have c2:=(X.Cap.take.andThen ((h1.cap hsh).andThen ((X.Cap.want [116,104,101,110]).andThen ((h1.cap hsh).andThen ((X.Cap.want [101,108,115,101]).andThen (h1.cap hsh)))))).le (remT s L a)
  have c3:=(X.Cap.take.andThen (((show X.Cap X.params 1 from X.One1.cap (X.One1.node _ 6) X.Shr.params)).andThen ((X.Cap.want [61,62]).andThen (h1.cap hsh)))).le (remT s L a)
  have c5:=(X.One1.comparison (X.expr n)).len (remT s L a)
  obtain ⟨c4,c6⟩:=(H.out).kind
  have i1:decide ((dp:Int)>64)=false:=by simp;omega
  have i2:decide (64<dp)=false:=by simp;omega
  have HX:Hid (X.expr (n+1) (remT s L a)=if X.isN [108,101,116] (remT s L a) then X.node 7 (X.andThen X.take (X.andThen X.wname (X.andThen (X.want [61]) (X.andThen (X.expr n) (X.andThen (X.want [105,110]) (X.expr n)))))) (remT s L a)
   else if X.isN [105,102] (remT s L a) then X.node 8 (X.andThen X.take (X.andThen (X.expr n) (X.andThen (X.want [116,104,101,110]) (X.andThen (X.expr n) (X.andThen (X.want [101,108,115,101]) (X.expr n)))))) (remT s L a)
   else if X.isN [102,117,110] (remT s L a) then X.node 9 (X.andThen X.take (X.andThen X.params (X.andThen (X.want [61,62]) (X.expr n)))) (remT s L a)
   else X.comparison (X.expr n) (remT s L a)):=(rfl:_=_)
  clear h hl hE ih hd
  generalize X.expr (n+1) (remT s L a)=CE at *
  generalize X.expr n=E at *
  have eA:[[108,101,116]].any (fun x=>X.pN x (remT s L a))=X.isN [108,101,116] (remT s L a):=by simp [X.pN_sign hg (.inl (by decide:[108,101,116]∈words))]
  have eB:[[105,102]].any (fun x=>X.pN x (remT s L a))=X.isN [105,102] (remT s L a):=by simp [X.pN_sign hg (.inl (by decide:[105,102]∈words))]
  have eC:[[102,117,110]].any (fun x=>X.pN x (remT s L a))=X.isN [102,117,110] (remT s L a):=by simp [X.pN_sign hg (.inl (by decide:[102,117,110]∈words))]
  generalize remT s L a=ts at *
  go_enter Tryz.func131,Tryz.ntmps131
  go_wp2_with fail
  refine Done.isNext (H.out) [[108,101,116]] (by simp) ?_
  intro wA HA
  rw [eA]
  clear eA c4 c6 H i1 i2
  cases hA:X.isN [108,101,116] ts with
  | true =>
   go_wp2_with fail
   refine Done.nest (HA.out) hS hdp en_let (HLt.out) (X.isN_next hA) 7 hl0 (by omega) ?_
   intro w1 H1
   go_wp2_with fail
   go_end0
   refine ⟨rfl,?_⟩
   have hp:=HX.out
   rw [hA,if_pos rfl] at hp
   rw [hp]
   exact H1
  | false =>
   go_wp2_with fail
   refine Done.isNext (HA.out) [[105,102]] (by simp) ?_
   intro wB HB
   rw [eB]
   clear eB HA
   cases hB:X.isN [105,102] ts with
   | true =>
    go_wp2_with fail
    refine Done.nest (HB.out) hS hdp en_choice (HCh.out) (X.isN_next hB) 8 hl0 (by omega) ?_
    intro w1 H1
    go_wp2_with fail
    go_end0
    refine ⟨rfl,?_⟩
    have hp:=HX.out
    rw [hA,if_neg (by simp),hB,if_pos rfl] at hp
    rw [hp]
    exact H1
   | false =>
    go_wp2_with fail
    refine Done.isNext (HB.out) [[102,117,110]] (by simp) ?_
    intro wC HC
    rw [eC]
    clear eC HB
    cases hC:X.isN [102,117,110] ts with
    | true =>
     go_wp2_with fail
     refine Done.nest (HC.out) hS hdp en_fun (HFn.out) (X.isN_next hC) 9 hl0 (by omega) ?_
     intro w1 H1
     go_wp2_with fail
     go_end0
     refine ⟨rfl,?_⟩
     have hp:=HX.out
     rw [hA,if_neg (by simp),hB,if_neg (by simp),hC,if_pos rfl] at hp
     rw [hp]
     exact H1
    | false =>
     go_wp2_with fail
     refine Done.then (HC.out) (HCp.out) trivial (by omega) ?_
     intro w1 H1
     go_wp2_with fail
     go_end0
     refine ⟨rfl,?_⟩
     have hp:=HX.out
     rw [hA,if_neg (by simp),hB,if_neg (by simp),hC,if_neg (by simp)] at hp
     rw [hp]
     exact H1
end Go.Proofs.YtbmebfgapjhchaaGreatDoor
