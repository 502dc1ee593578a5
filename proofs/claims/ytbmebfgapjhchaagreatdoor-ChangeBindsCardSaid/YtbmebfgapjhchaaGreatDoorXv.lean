/- The kids of a root: items and junk. -/
import Derived.Test.YtbmebfgapjhchaaGreatDoorXq
namespace Go.Proofs.YtbmebfgapjhchaaGreatDoor
open Go.RowKit Go.Shelf
open M
namespace X
theorem Shr.optPub:Shr optPub:=Shr.ite (c:=isN sPub) Shr.take Shr.nil
theorem Shr.defR:Shr defR:=(Shr.want _).andThen (Shr.wname.andThen ((Shr.ite (c:=isN [40]) Shr.params Shr.nil).andThen ((Shr.want _).andThen ((Shr.expr 65).andThen (Shr.want _)))))
theorem Shr.useR:Shr useR:=(Shr.want _).andThen (Shr.wname.andThen ((Shr.want _).andThen (Shr.wname.andThen ((Shr.ite (c:=isN [97,115]) (Shr.take.andThen Shr.wname) Shr.nil).andThen (Shr.want _)))))
theorem Cap.useR:Cap useR 6:=((Cap.want _).andThen (Cap.wname.andThen ((Cap.want _).andThen (Cap.wname.andThen ((Cap.ite (b:=isN [97,115]) (c:=1) (Cap.take.andThen Cap.wname) (Cap.nil.mono (by omega))).andThen (Cap.want _)))))).mono (by omega)
theorem Cap.params:Cap params 1:=One1.cap (One1.node _ 6) Shr.params
theorem Cap.defR:Cap defR 6:=((Cap.want _).andThen (Cap.wname.andThen ((Cap.ite (b:=isN [40]) (c:=1) Cap.params (Cap.nil.mono (by omega))).andThen ((Cap.want _).andThen (((One1.expr 65).cap (Shr.expr 65)).andThen (Cap.want _)))))).mono (by omega)
theorem Cap.optPub:Cap optPub 0:=Cap.ite (b:=isN sPub) Cap.take Cap.nil
theorem kind_next {ts:List Tok} (h:(kindN ts==0)=false):nxt ts≠none:=by
 intro e;unfold kindN at h;rw [e] at h;simp at h
theorem junkGo_fuel:∀ (n:Nat) (ts:List Tok),ts.length≤n→junkGo n ts=junkGo ts.length ts:=by
 intro n
 induction n using Nat.strongRecOn with
 | _ n ih =>
  intro ts h
  rcases Nat.lt_or_ge ts.length n with hlt|hge
  ·cases n with
   | zero=>omega
   | succ n =>
    cases hm:ts.length with
    | zero =>
     have h0:ts=[]:=List.length_eq_zero_iff.1 hm
     subst h0;rfl
    | succ m =>
     unfold junkGo
     by_cases hc:(kindN ts==0||starts ts)=true
     ·rw [if_pos hc,if_pos hc]
     ·rw [if_neg hc,if_neg hc]
      have hk:(kindN ts==0)=false:=by
       cases hq:(kindN ts==0) with
       | true=>rw [hq] at hc;simp at hc
       | false=>rfl
      have hl:=take_lt (kind_next hk)
      split
      ·rfl
      ·have e1:=ih n (by omega) (take ts).2 (by omega)
       have e2:=ih m (by omega) (take ts).2 (by omega)
       simp only [X.andThen]
       rw [e1,e2]
  ·rw [show n=ts.length by omega]
def junkL:R:=fun ts=>junkGo ts.length ts
theorem junkL_no {ts:List Tok} (h:(kindN ts==0||starts ts)=true):junkL ts=([],ts):=by
 unfold junkL
 cases ts.length with
 | zero=>rfl
 | succ m=>unfold junkGo;rw [if_pos h]
theorem junkL_yes {ts:List Tok} (h:(kindN ts==0||starts ts)=false):junkL ts=if isN [59] ts then take ts else andThen take junkL ts:=by
 have hk:(kindN ts==0)=false:=by
  cases hq:(kindN ts==0) with
  | true=>rw [hq] at h;simp at h
  | false=>rfl
 have hl:=take_lt (kind_next hk)
 unfold junkL
 obtain ⟨m,hm⟩:∃ m,ts.length=m+1:=⟨ts.length - 1,by omega⟩
 rw [hm]
 conv=>lhs;unfold junkGo
 rw [if_neg (by rw [h];simp)]
 split
 ·rfl
 ·simp only [X.andThen]
  rw [junkGo_fuel m _ (by omega)]
theorem Cap.junkGo:∀ n,Cap (junkGo n) 0
 | 0=>Cap.nil
 | n+1=>Cap.ite (b:=fun ts=>kindN ts==0||starts ts) Cap.nil (Cap.ite (b:=isN [59]) Cap.take (Cap.take.andThen (Cap.junkGo n)))
theorem Cap.junkL:Cap junkL 0:=fun ts=>Cap.junkGo ts.length ts
theorem Shr.junkGo:∀ n,Shr (junkGo n)
 | 0=>Shr.nil
 | n+1=>Shr.ite (c:=fun ts=>kindN ts==0||starts ts) Shr.nil (Shr.ite (c:=isN [59]) Shr.take (Shr.take.andThen (Shr.junkGo n)))
theorem kid_eq (ts:List Tok):kid ts=if starts ts then (if isN sUse (optPub ts).2 then (3,andThen optPub useR ts) else (4,andThen optPub defR ts)) else (5,junkL ts):=rfl
end X
theorem Done.setKind {w w1:World} {rb:Nat} {s:ByteArray} {L:List Tk} {tv:Value} {dp B k:Nat} {rv:Value} {ps1:List X.Part} {ts1:List X.Tok} {D:Nat→Prop} (h:Done w rb s L tv dp B k rv ps1 ts1 D w1) (k2:Nat):Done w rb s L tv dp B k2 rv ps1 ts1 D (w1.setCell ⟨B,0,none⟩ (.int .i64 k2)):=by
 obtain ⟨a1,rv1,vs1,D1,g1,g2,g3,g4,g5,g6⟩:=h
 have hk:Kp (fun q=>q=B) w1 (w1.setCell ⟨B,0,none⟩ (.int .i64 k2)):=Kp.setCell (Kp.refl (fun q=>q=B) w1) (p:=⟨B,0,none⟩) (fun _=>rfl) _
 refine ⟨a1,rv1,vs1,D1,⟨g1.rdr.keep hk (fun e=>g1.sep.2.2 e.symm) (fun q hq e=>(g1.sepT q hq).2.1 e),⟨?_,?_⟩,g1.len,g1.each.keep hk (fun q hq e=>g1.sep.2.1 (e ▸ hq)),fun q hq=>by have:=g1.dlt q hq;simpa using this,g1.sep,g1.sepG,fun q hq=>?_⟩,g2,g3,g4,g5,Kp.trans g6 hk (fun i _ e=>.inr (.inl e))⟩
 ·have hb:=g1.bra.blk
  simp [World.setCell,Array.getElem?_modify,hb]
 ·exact ownsRow_setCell_other g1.bra.row (fun e=>(g1.sepG B e).2.2 rfl) _
 ·obtain ⟨a1,a2,a3,a4⟩:=g1.sepT q hq
  exact ⟨a1,a2,a3,by simpa using a4⟩
theorem Done.bfacts {w w1:World} {rb:Nat} {s:ByteArray} {L:List Tk} {tv:Value} {dp B k:Nat} {rv:Value} {ps1:List X.Part} {ts1:List X.Tok} {D:Nat→Prop} (h:Done w rb s L tv dp B k rv ps1 ts1 D w1):w1.cell? ⟨B,0,none⟩=some (.int .i64 k)∧w1.frozen? ⟨B,0,none⟩=false:=by
 obtain ⟨a1,rv1,vs1,D1,g1,-⟩:=h
 exact ⟨g1.bra.facts.1.1,g1.bra.facts.2.1⟩
set_option maxRecDepth 100000 in
set_option maxHeartbeats 1000000 in
theorem Done.atItem {w w1:World} {rb:Nat} {s:ByteArray} {L:List Tk} {tv:Value} {dp B k:Nat} {rv:Value} {ps1:List X.Part} {ts1:List X.Tok} {D:Nat→Prop} {Q:Ending→World→Prop} (h:Done w rb s L tv dp B k rv ps1 ts1 D w1) (hS:TokS s L)
  (hQ:∀ w2,Hid (Done w rb s L tv dp B k rv ps1 ts1 D w2)→Q (.returned (.bool (X.starts ts1))) w2):Calls Tryz.prog 79 #[.pointer (some ⟨rb,0,none⟩)] w1 Q:=by
 have hg:=h.good hS
 have H:=hide h
 have eA:[X.sUse,X.sPub,X.sDef].any (fun x=>X.pN x ts1)=X.starts ts1:=by
  unfold X.starts
  simp [X.pN_sign hg (.inl (by decide:X.sUse∈words)),X.pN_sign hg (.inl (by decide:X.sPub∈words)),X.pN_sign hg (.inl (by decide:X.sDef∈words)),Bool.or_assoc]
 clear h
 have key:Calls Tryz.prog 79 #[.pointer (some ⟨rb,0,none⟩)] w1 fun e w2=>e=.returned (.bool (X.starts ts1))∧Hid (Done w rb s L tv dp B k rv ps1 ts1 D w2):=by
  go_enter Tryz.func79,Tryz.ntmps79
  go_wp2_with fail
  refine Done.isNext (H.out) [X.sUse,X.sPub,X.sDef] (by simp) ?_
  intro w2 H2
  rw [eA]
  go_wp2_with fail
  go_ret
  exact ⟨rfl,H2⟩
 refine key.mono ?_
 rintro e w2 ⟨rfl,H2⟩
 exact hQ w2 H2
theorem Done.more {w w1:World} {rb:Nat} {s:ByteArray} {L:List Tk} {tv:Value} {dp B k:Nat} {rv:Value} {ps1:List X.Part} {ts1:List X.Tok} {D:Nat→Prop} {Q:Ending→World→Prop} (h:Done w rb s L tv dp B k rv ps1 ts1 D w1)
  (hQ:Q (.returned (.bool (X.kindN ts1 !=0))) w1):Calls Tryz.prog 51 #[.pointer (some ⟨rb,0,none⟩)] w1 Q:=by
 obtain ⟨a1,rv1,vs1,D1,g1,rfl,-⟩:=h
 refine (more_any rb s L tv a1 dp w1 g1.rdr).mono ?_
 rintro e w2 ⟨rfl,rfl⟩
 exact hQ
def ReadsK (fn:FuncId) (F:X.R) (k2:Nat) (s:ByteArray) (L:List Tk) (dp:Nat):Prop :=
 ∀ (w w1:World) (rb:Nat) (tv:Value) (B k:Nat) (rv:Value) (ps:List X.Part) (ts:List X.Tok) (D:Nat→Prop),Done w rb s L tv dp B k rv ps ts D w1→ps.length+(F ts).1.length≤1073741824 →
  Calls Tryz.prog fn #[.pointer (some ⟨rb,0,none⟩),.pointer (some ⟨B,0,none⟩)] w1 fun en w'=>en=.returned (.tuple #[])∧Hid (Done w rb s L tv dp B k2 rv (ps++(F ts).1) (F ts).2 D w')
set_option maxRecDepth 100000 in
set_option maxHeartbeats 300000 in
theorem use_any {s:ByteArray} {L:List Tk} {dp:Nat} (hS:TokS s L):ReadsK 103 X.useR 3 s L dp:=by
 intro w w1 rb tv B k rv ps ts D h hl
 obtain ⟨b0,b1⟩:=h.bfacts
 have hg:=h.good hS
 have H:=hide (h.setKind 3)
 obtain ⟨M,hM⟩:∃ M:X.R,M=fun ts=>if X.isN [97,115] ts then X.andThen X.take X.wname ts else ([],ts):=⟨_,rfl⟩
 have e0:X.useR=X.andThen (X.andThen (X.want X.sUse) (X.andThen X.wname (X.andThen (X.want [46]) X.wname))) (X.andThen M (X.want [59])):=by
  unfold X.useR;rw [hM];simp only [X.andThen_assoc]
 rw [e0] at hl ⊢
 rw [X.len_andThen,X.len_andThen M] at hl
 have e1:X.wantsP [X.sUse,X.sName,[46],X.sName] ts=X.andThen (X.want X.sUse) (X.andThen X.wname (X.andThen (X.want [46]) X.wname)) ts :=
  X.wants_cons_sign (.inl (by decide)) hg (X.wants_cons_name ((X.Shr.want _).good hg) (X.wants_cons_sign (.inr (by decide)) (X.Shr.wname.good ((X.Shr.want _).good hg)) (X.wants_name ((X.Shr.want _).good (X.Shr.wname.good ((X.Shr.want _).good hg))))))
 generalize X.andThen (X.want X.sUse) (X.andThen X.wname (X.andThen (X.want [46]) X.wname))=F at *
 have hcp:X.Cap (X.andThen X.take X.wname) 1:=X.Cap.take.andThen X.Cap.wname
 have HM:Hid (∀ ts,M ts=if X.isN [97,115] ts then X.andThen X.take X.wname ts else ([],ts)):=fun ts=>by rw [hM]
 clear h hM e0
 have hz:(w1.setCell ⟨B,0,none⟩ (.int .i64 ((3:Nat):Int))).heap.size=w1.heap.size:=by simp
 go_enter Tryz.func103,Tryz.ntmps103
 go_wp2_with fail
 rw [show (Value.int IntKind.i64 3)=.int .i64 ((3:Nat):Int) from rfl] at *
 generalize w1.setCell ⟨B,0,none⟩ (.int .i64 ((3:Nat):Int))=W at *
 rw [← hz]
 refine Done.want (H.out) hS [X.sUse,X.sName,[46],X.sName] (by simp [X.sUse,X.sName]) (by simp) (by rw [e1];omega) ?_
 intro w2 H2
 rw [e1] at H2
 have hg2:=(H2.out).good hS
 have eA:[[97,115]].any (fun x=>X.pN x (F ts).2)=X.isN [97,115] (F ts).2:=by simp [X.pN_sign hg2 (.inl (by decide:[97,115]∈words))]
 go_wp2_with fail
 refine Done.isNext (H2.out) [[97,115]] (by simp) ?_
 intro w3 H3
 rw [eA]
 cases hA:X.isN [97,115] (F ts).2 with
 | true =>
  have hm:M (F ts).2=X.andThen X.take X.wname (F ts).2:=by rw [HM.out,hA,if_pos rfl]
  have e2:X.wantsP [[97,115],X.sName] (F ts).2=X.andThen X.take X.wname (F ts).2:=by
   refine X.andThen_congr ?_ (X.wants_name (X.Shr.take.good hg2))
   unfold X.wantP;rw [X.pN_sign hg2 (.inl (by decide)),hA,if_pos rfl]
  rw [hm] at hl
  go_wp2_with fail
  refine Done.want (H3.out) hS [[97,115],X.sName] (by simp [X.sName]) (by simp) (by rw [e2,List.length_append];omega) ?_
  intro w4 H4
  rw [e2,← hm] at H4
  rw [← hm] at hl
  have e3:=X.wants_sign (x:=[59]) (.inr (by decide)) ((H4.out).good hS)
  go_wp2_with fail
  refine Done.want (H4.out) hS [[59]] (by simp) (by simp) (by rw [e3];simp only [List.length_append];omega) ?_
  intro w5 H5
  rw [e3] at H5
  go_wp2_with fail
  go_end0
  refine ⟨rfl,?_⟩
  simp only [List.append_assoc] at H5
  exact H5
 | false =>
  have hm:M (F ts).2=([],(F ts).2):=by rw [HM.out,hA,if_neg (by simp)]
  have e3:=X.wants_sign (x:=[59]) (.inr (by decide)) hg2
  have hx:X.andThen F (X.andThen M (X.want [59])) ts=((F ts).1++(X.want [59] (F ts).2).1,(X.want [59] (F ts).2).2):=by
   unfold X.andThen;simp [hm]
  rw [hm] at hl
  go_wp2_with fail
  refine Done.want (H3.out) hS [[59]] (by simp) (by simp) (by rw [e3];simp only [List.length_append];simp at hl;omega) ?_
  intro w5 H5
  rw [e3] at H5
  go_wp2_with fail
  go_end0
  refine ⟨rfl,?_⟩
  rw [hx,← List.append_assoc]
  exact H5
end Go.Proofs.YtbmebfgapjhchaaGreatDoor
/- The kids of a root. -/
namespace Go.Proofs.YtbmebfgapjhchaaGreatDoor
open Go.RowKit Go.Shelf
open M
set_option maxRecDepth 100000 in
set_option maxHeartbeats 300000 in
theorem def_any {s:ByteArray} {L:List Tk} (hS:TokS s L):ReadsK 104 X.defR 4 s L 0:=by
 intro w w1 rb tv B k rv ps ts D h hl
 obtain ⟨b0,b1⟩:=h.bfacts
 have hg:=h.good hS
 have H:=hide (h.setKind 4)
 have HE:=hide (expression_any hS 65 0 rfl)
 have HPa:=hide (params_any (s:=s) (L:=L) (dp:=0) hS)
 obtain ⟨M,hM⟩:∃ M:X.R,M=fun ts=>if X.isN [40] ts then X.params ts else ([],ts):=⟨_,rfl⟩
 have e0:X.defR=X.andThen (X.andThen (X.want X.sDef) X.wname) (X.andThen M (X.andThen (X.want [61]) (X.andThen (X.expr 65) (X.want [59])))):=by
  unfold X.defR;rw [hM];simp only [X.andThen_assoc]
 rw [e0] at hl ⊢
 rw [X.len_andThen,X.len_andThen M,X.len_andThen (X.want [61]),X.len_andThen (X.expr 65)] at hl
 have e1:X.wantsP [X.sDef,X.sName] ts=X.andThen (X.want X.sDef) X.wname ts :=
  X.wants_cons_sign (.inl (by decide)) hg (X.wants_name ((X.Shr.want _).good hg))
 generalize X.andThen (X.want X.sDef) X.wname=F at *
 generalize X.expr 65=E at *
 have HM:Hid (∀ ts,M ts=if X.isN [40] ts then X.params ts else ([],ts)):=fun ts=>by rw [hM]
 clear h hM e0
 have hz:(w1.setCell ⟨B,0,none⟩ (.int .i64 ((4:Nat):Int))).heap.size=w1.heap.size:=by simp
 go_enter Tryz.func104,Tryz.ntmps104
 go_wp2_with fail
 rw [show (Value.int IntKind.i64 4)=.int .i64 ((4:Nat):Int) from rfl] at *
 generalize w1.setCell ⟨B,0,none⟩ (.int .i64 ((4:Nat):Int))=W at *
 rw [← hz]
 refine Done.want (H.out) hS [X.sDef,X.sName] (by simp [X.sDef,X.sName]) (by simp) (by rw [e1];omega) ?_
 intro w2 H2
 rw [e1] at H2
 have hg2:=(H2.out).good hS
 have eA:[[40]].any (fun x=>X.pN x (F ts).2)=X.isN [40] (F ts).2:=by simp [X.pN_sign hg2 (.inr (by decide:[40]∈X.signs))]
 go_wp2_with fail
 refine Done.isNext (H2.out) [[40]] (by simp) ?_
 intro w3 H3
 rw [eA]
 cases hA:X.isN [40] (F ts).2 with
 | true =>
  have hm:M (F ts).2=X.params (F ts).2:=by rw [HM.out,hA,if_pos rfl]
  generalize X.params=PA at *
  go_wp2_with fail
  refine Done.then (H3.out) (HPa.out) trivial (by rw [← hm,List.length_append];omega) ?_
  intro w4 H4
  rw [← hm] at H4
  have e3:=X.wants_sign (x:=[61]) (.inr (by decide)) ((H4.out).good hS)
  go_wp2_with fail
  refine Done.want (H4.out) hS [[61]] (by simp) (by simp) (by rw [e3];simp only [List.length_append];omega) ?_
  intro w5 H5
  rw [e3] at H5
  go_wp2_with fail
  refine Done.then (H5.out) (HE.out) trivial (by simp only [List.length_append];omega) ?_
  intro w6 H6
  have e4:=X.wants_sign (x:=[59]) (.inr (by decide)) ((H6.out).good hS)
  go_wp2_with fail
  refine Done.want (H6.out) hS [[59]] (by simp) (by simp) (by rw [e4];simp only [List.length_append];omega) ?_
  intro w7 H7
  rw [e4] at H7
  go_wp2_with fail
  go_end0
  refine ⟨rfl,?_⟩
  simp only [List.append_assoc] at H7
  exact H7
 | false =>
  have hm:M (F ts).2=([],(F ts).2):=by rw [HM.out,hA,if_neg (by simp)]
  have H4:Hid (Done w rb s L tv 0 B 4 rv (ps++(F ts).1++(M (F ts).2).1) (M (F ts).2).2 D w3):=by
   rw [hm,List.append_nil];exact H3
  clear hm H3
  have e3:=X.wants_sign (x:=[61]) (.inr (by decide)) ((H4.out).good hS)
  go_wp2_with fail
  refine Done.want (H4.out) hS [[61]] (by simp) (by simp) (by rw [e3];simp only [List.length_append];omega) ?_
  intro w5 H5
  rw [e3] at H5
  go_wp2_with fail
  refine Done.then (H5.out) (HE.out) trivial (by simp only [List.length_append];omega) ?_
  intro w6 H6
  have e4:=X.wants_sign (x:=[59]) (.inr (by decide)) ((H6.out).good hS)
  go_wp2_with fail
  refine Done.want (H6.out) hS [[59]] (by simp) (by simp) (by rw [e4];simp only [List.length_append];omega) ?_
  intro w7 H7
  rw [e4] at H7
  go_wp2_with fail
  go_end0
  refine ⟨rfl,?_⟩
  simp only [List.append_assoc] at H7
  exact H7
theorem Done.thenK {w w1:World} {rb:Nat} {s:ByteArray} {L:List Tk} {tv:Value} {dp B k:Nat} {rv:Value} {ps1:List X.Part} {ts1:List X.Tok} {D:Nat→Prop} {fn:FuncId} {F:X.R} {k2:Nat} {Q:Ending→World→Prop}
  (h:Done w rb s L tv dp B k rv ps1 ts1 D w1) (hF:ReadsK fn F k2 s L dp) (hl:ps1.length+(F ts1).1.length≤1073741824)
  (hQ:∀ w2,Hid (Done w rb s L tv dp B k2 rv (ps1++(F ts1).1) (F ts1).2 D w2)→Q (.returned (.tuple #[])) w2) :
  Calls Tryz.prog fn #[.pointer (some ⟨rb,0,none⟩),.pointer (some ⟨B,0,none⟩)] w1 Q:=by
 refine (hF w w1 rb tv B k rv ps1 ts1 D h hl).mono ?_
 rintro e w2 ⟨rfl,H2⟩
 exact hQ w2 H2
set_option maxRecDepth 100000 in
set_option maxHeartbeats 300000 in
theorem item_any {s:ByteArray} {L:List Tk} (hS:TokS s L) (w w1:World) (rb:Nat) (tv:Value) (B k:Nat) (rv:Value) (ps:List X.Part) (ts:List X.Tok) (D:Nat→Prop) (h:Done w rb s L tv 0 B k rv ps ts D w1) (hst:X.starts ts=true) (hl:ps.length+(X.kid ts).2.1.length≤1073741824) :
  Calls Tryz.prog 80 #[.pointer (some ⟨rb,0,none⟩),.pointer (some ⟨B,0,none⟩)] w1 fun en w'=>en=.returned (.tuple #[])∧Hid (Done w rb s L tv 0 B (X.kid ts).1 rv (ps++(X.kid ts).2.1) (X.kid ts).2.2 D w'):=by
 have hg:=h.good hS
 have H:=hide h
 have HU:=hide (use_any (s:=s) (L:=L) (dp:=0) hS)
 have HDf:=hide (def_any hS)
 have HK:Hid (X.kid ts=if X.isN X.sUse (X.optPub ts).2 then (3,X.andThen X.optPub X.useR ts) else (4,X.andThen X.optPub X.defR ts)):=by
  show _=_
  rw [X.kid_eq,hst,if_pos rfl]
 have HO:Hid (X.optPub ts=if X.isN X.sPub ts then X.take ts else ([],ts)):=(rfl:_=_)
 have eA:[X.sPub].any (fun x=>X.pN x ts)=X.isN X.sPub ts:=by simp [X.pN_sign hg (.inl (by decide:X.sPub∈words))]
 clear h
 generalize X.kid ts=KD at *
 have hlu:X.isN X.sUse (X.optPub ts).2=true→ps.length+((X.optPub ts).1.length+(X.useR (X.optPub ts).2).1.length)≤1073741824:=fun e=>by
  have:=HK.out;rw [e,if_pos rfl] at this;rw [this] at hl
  rw [X.len_andThen] at hl;exact hl
 have hld:X.isN X.sUse (X.optPub ts).2=false→ps.length+((X.optPub ts).1.length+(X.defR (X.optPub ts).2).1.length)≤1073741824:=fun e=>by
  have:=HK.out;rw [e,if_neg (by simp)] at this;rw [this] at hl
  rw [X.len_andThen] at hl;exact hl
 have hlo:ps.length+(X.optPub ts).1.length≤1073741824:=by
  cases e:X.isN X.sUse (X.optPub ts).2 with
  | true=>have:=hlu e;omega
  | false=>have:=hld e;omega
 generalize X.useR=U at *
 generalize X.defR=Df at *
 generalize hop:X.optPub=OP at *
 clear hop
 go_enter Tryz.func80,Tryz.ntmps80
 go_wp2_with fail
 refine Done.isNext (H.out) [X.sPub] (by simp) ?_
 intro w2 H2
 rw [eA]
 cases hA:X.isN X.sPub ts with
 | true =>
  have ho:OP ts=X.take ts:=by rw [HO.out,hA,if_pos rfl]
  go_wp2_with fail
  refine Done.then (H2.out) (take_any s L 0 hS) (X.isN_next hA) (by rw [← ho];exact hlo) ?_
  intro w3 H3
  rw [← ho] at H3
  have eB:[X.sUse].any (fun x=>X.pN x (OP ts).2)=X.isN X.sUse (OP ts).2:=by simp [X.pN_sign ((H3.out).good hS) (.inl (by decide:X.sUse∈words))]
  go_wp2_with fail
  refine Done.isNext (H3.out) [X.sUse] (by simp) ?_
  intro w4 H4
  rw [eB]
  cases hB:X.isN X.sUse (OP ts).2 with
  | true =>
   have h9:=hlu hB
   go_wp2_with fail
   refine Done.thenK (H4.out) (HU.out) (by rw [List.length_append];omega) ?_
   intro w5 H5
   go_wp2_with fail
   go_end0
   refine ⟨rfl,?_⟩
   have hp:=HK.out
   rw [hB,if_pos rfl] at hp
   rw [hp]
   rw [List.append_assoc] at H5
   exact H5
  | false =>
   have h9:=hld hB
   go_wp2_with fail
   refine Done.thenK (H4.out) (HDf.out) (by rw [List.length_append];omega) ?_
   intro w5 H5
   go_wp2_with fail
   go_end0
   refine ⟨rfl,?_⟩
   have hp:=HK.out
   rw [hB,if_neg (by simp)] at hp
   rw [hp]
   rw [List.append_assoc] at H5
   exact H5
 | false =>
  have ho:OP ts=([],ts):=by rw [HO.out,hA,if_neg (by simp)]
  have H3:Hid (Done w rb s L tv 0 B k rv (ps++(OP ts).1) (OP ts).2 D w2):=by rw [ho,List.append_nil];exact H2
  have eB:[X.sUse].any (fun x=>X.pN x (OP ts).2)=X.isN X.sUse (OP ts).2:=by simp [X.pN_sign ((H3.out).good hS) (.inl (by decide:X.sUse∈words))]
  go_wp2_with fail
  refine Done.isNext (H3.out) [X.sUse] (by simp) ?_
  intro w4 H4
  rw [eB]
  cases hB:X.isN X.sUse (OP ts).2 with
  | true =>
   have h9:=hlu hB
   go_wp2_with fail
   refine Done.thenK (H4.out) (HU.out) (by rw [List.length_append];omega) ?_
   intro w5 H5
   go_wp2_with fail
   go_end0
   refine ⟨rfl,?_⟩
   have hp:=HK.out
   rw [hB,if_pos rfl] at hp
   rw [hp]
   rw [List.append_assoc] at H5
   exact H5
  | false =>
   have h9:=hld hB
   go_wp2_with fail
   refine Done.thenK (H4.out) (HDf.out) (by rw [List.length_append];omega) ?_
   intro w5 H5
   go_wp2_with fail
   go_end0
   refine ⟨rfl,?_⟩
   have hp:=HK.out
   rw [hB,if_neg (by simp)] at hp
   rw [hp]
   rw [List.append_assoc] at H5
   exact H5
end Go.Proofs.YtbmebfgapjhchaaGreatDoor
/- Junk,and the kids of a root. -/
namespace Go.Proofs.YtbmebfgapjhchaaGreatDoor
open Go.RowKit Go.Shelf
open M
set_option maxRecDepth 100000 in
set_option maxHeartbeats 300000 in
theorem junk_any {s:ByteArray} {L:List Tk} (hS:TokS s L):ReadsK 81 X.junkL 5 s L 0:=by
 intro w w1 rb tv B k rv ps ts D h hl
 obtain ⟨b0,b1⟩:=h.bfacts
 have H:=hide (h.setKind 5)
 have hL:=hS.len
 have hz:(w1.setCell ⟨B,0,none⟩ (.int .i64 ((5:Nat):Int))).heap.size=w1.heap.size:=by simp
 clear h
 go_enter Tryz.func81,Tryz.ntmps81
 go_wp2_with fail
 rw [show (Value.int IntKind.i64 5)=.int .i64 ((5:Nat):Int) from rfl] at *
 generalize w1.setCell ⟨B,0,none⟩ (.int .i64 ((5:Nat):Int))=W at *
 have hcj:=X.Cap.junkL
 go_loopw [4] (fun v wr=>∃ (b:Bool) (acc:List X.Part) (ts1:List X.Tok),v=.bool b∧Hid (Done w rb s L tv 0 B 5 rv (ps++acc) ts1 D wr)∧Hid (X.junkL ts=if b then (acc,ts1) else (acc++(X.junkL ts1).1,(X.junkL ts1).2))) (fun _ wr=>L.length - atT rb wr)
 case atStart=>exact ⟨false,[],ts,rfl,by rw [List.append_nil];exact H,by show _=_;simp⟩
 case round =>
  obtain ⟨b,acc,ts1,rfl,H3,HE⟩:=hrel
  have hlen1:=(H3.out).len
  cases b with
  | true =>
   go_wp2_with fail
   go_end0
   refine ⟨rfl,?_⟩
   have hp:X.junkL ts=(acc,ts1):=by have:=HE.out;simpa using this
   rw [hp]
   exact H3
  | false =>
   have hp:X.junkL ts=(acc++(X.junkL ts1).1,(X.junkL ts1).2):=by have:=HE.out;rwa [if_neg (by simp)] at this
   have hla:ps.length+(acc.length+(X.junkL ts1).1.length)≤1073741824:=by rw [hp] at hl;simpa using hl
   have HPP:=hide hp
   clear hp HE
   have kI:(X.kindN ts1 !=0)=!(X.kindN ts1==0):=rfl
   go_wp2_with fail
   refine Done.more (H3.out) ?_
   rw [kI]
   cases hk:(X.kindN ts1==0) with
   | true =>
    have hj:=X.junkL_no (ts:=ts1) (by rw [hk];rfl)
    go_wp2_with fail
    go_end0
    refine ⟨rfl,?_⟩
    rw [HPP.out,hj,List.append_nil]
    exact H3
   | false =>
    go_wp2_with fail
    refine Done.atItem (H3.out) hS ?_
    intro w4 H4
    cases hs:X.starts ts1 with
    | true =>
     have hj:=X.junkL_no (ts:=ts1) (by rw [hs,Bool.or_true])
     go_wp2_with fail
     go_end0
     refine ⟨rfl,?_⟩
     rw [HPP.out,hj,List.append_nil]
     exact H4
    | false =>
     have hj:=X.junkL_yes (ts:=ts1) (by rw [hk,hs];rfl)
     have hn:=X.kind_next hk
     have hlt:=X.take_lt hn
     have eA:[[59]].any (fun x=>X.pN x ts1)=X.isN [59] ts1:=by simp [X.pN_sign ((H4.out).good hS) (.inr (by decide:[59]∈X.signs))]
     have hlb:(X.take ts1).1.length≤(X.junkL ts1).1.length:=by
      rw [hj];split
      ·exact Nat.le_refl _
      ·rw [X.len_andThen];omega
     go_wp2_with fail
     refine Done.isNext (H4.out) [[59]] (by simp) ?_
     intro w5 H5
     rw [eA]
     go_wp2_with fail
     refine Done.then (H5.out) (take_any s L 0 hS) hn (by rw [List.length_append];omega) ?_
     intro w6 H6
     go_wp2_with fail
     refine ⟨⟨X.isN [59] ts1,acc++(X.take ts1).1,(X.take ts1).2,rfl,by rw [← List.append_assoc];exact H6,?_⟩,by rw [(H6.out).at,(H3.out).at];exact hlt⟩
     show _=_
     rw [HPP.out,hj]
     cases X.isN [59] ts1<;>simp [X.andThen]
theorem kid_cap (ts:List X.Tok):(X.kid ts).2.1.length≤6+2*ts.length:=by
 rw [X.kid_eq]
 split
 ·split
  ·have:=(X.Cap.optPub.andThen X.Cap.useR).le ts;simpa using this
  ·have:=(X.Cap.optPub.andThen X.Cap.defR).le ts;simpa using this
 ·have:=X.Cap.junkL.le ts
  show (X.junkL ts).1.length≤_
  omega
theorem kid_le (ts:List X.Tok):(X.kid ts).2.2.length≤ts.length:=by
 rw [X.kid_eq]
 split
 ·split
  ·exact (X.Shr.optPub.andThen X.Shr.useR).le ts
  ·exact (X.Shr.optPub.andThen X.Shr.defR).le ts
 ·exact (X.Shr.junkGo ts.length).le ts
def kidV (N n:Nat):Value:=.agg #[.pointer (some ⟨N,0,none⟩),.int .i64 n]
theorem kid_end {w W w3 w4:World} {rb:Nat} {s:ByteArray} {L:List Tk} {tv:Value} {D:Nat→Prop} {k:Nat} {ps:List X.Part} {ts:List X.Tok} (kA:Below w.heap.size w W) (hsz:W.heap.size=w.heap.size+2) (hrl:rb<w.heap.size) (hD:∀ q,D q→q<w.heap.size) (hT:∀ q,tv.ownBlock=some q→¬ D q∧q<w.heap.size)
  (h:Done W rb s L tv 0 (w.heap.size+1) k (.slice none 0 0) ps ts D w3) (k34:Kp (fun q=>q=w.heap.size) w3 w4) :
  ∃ (D':Nat→Prop) (a':Nat),RdrT w4 rb s L tv a' 0∧remT s L a'=ts∧IsP w4 D' (.iface 130 (.pointer (some ⟨w.heap.size+1,0,none⟩))) (.br k ps)∧(∀ q,D q→D' q)∧(∀ q,D' q→D q∨w.heap.size≤q)∧(∀ q,D' q→q<w4.heap.size)∧On rb w w4:=by
 obtain ⟨a',rv3,vs3,D3,g1,g2,g3,g4,g5,g6⟩:=h
 have hz3:=g6.size
 have hz4:=k34.size
 have hg5:∀ g,rv3.ownBlock=some g→W.heap.size≤g:=fun g hg=>by
  rcases g5 g hg with e|e
  ·cases e
  ·exact e
 have hD3:∀ q,(D3 q∨q=w.heap.size+1∨rv3.ownBlock=some q)→D q∨w.heap.size<q:=by
  rintro q (e|e|e)
  ·rcases g4 q e with h|h
   ·exact .inl h
   ·exact .inr (by omega)
  ·exact .inr (by omega)
  ·exact .inr (by have:=hg5 q e;omega)
 refine ⟨_,a',g1.rdr.keep k34 (fun e=>by omega) (fun q hq e=>by have:=(hT q hq).2;omega),g2,g1.part.keep k34 (fun q hq e=>?_),fun q hq=>.inl (g3 q hq),fun q hq=>?_,fun q hq=>?_,?_⟩
 ·rcases hD3 q hq with h|h
  ·have:=hD q h;omega
  ·omega
 ·rcases hD3 q hq with h|h
  ·exact .inl h
  ·exact .inr (by omega)
 ·rcases hq with e|e|e
  ·have:=g1.dlt q e;omega
  ·omega
  ·have:=(owns_ge g1.bra.row q e).2;omega
 ·refine Kp.trans (Kp.trans (Kp.ofBelow kA (fun q=>q=rb)) g6 (fun i hi e=>?_)) k34 (fun i hi e=>by omega)
  rcases e with e|e|e
  ·exact e
  ·omega
  ·cases e
set_option maxRecDepth 100000 in
set_option maxHeartbeats 300000 in
theorem kid_any {s:ByteArray} {L:List Tk} (hS:TokS s L) (rb:Nat) (tv:Value) (a:Nat) (w:World) (hr:RdrT w rb s L tv a 0) (D:Nat→Prop) (hD:∀ q,D q→q<w.heap.size) (hDr:¬ D rb) (hT:∀ q,tv.ownBlock=some q→¬ D q∧q<w.heap.size) :
  Calls Tryz.prog 53 #[.pointer (some ⟨rb,0,none⟩)] w fun en w'=>∃ (N:Nat) (D':Nat→Prop) (a':Nat),en=.returned (kidV N ((remT s L a).length - (X.kid (remT s L a)).2.2.length))∧Hid (RdrT w' rb s L tv a' 0∧remT s L a'=(X.kid (remT s L a)).2.2∧IsP w' D' (.iface 130 (.pointer (some ⟨N,0,none⟩))) (.br (X.kid (remT s L a)).1 (X.kid (remT s L a)).2.1)∧(∀ q,D q→D' q)∧(∀ q,D' q→D q∨w.heap.size≤q)∧(∀ q,D' q→q<w'.heap.size)∧On rb w w'):=by
 have hle:=hr.le
 have hrl:=hr.raw.lt
 have kA:Below w.heap.size w ((w.alloc (Obj.cells #[.pointer none,.int .i64 0] 138)).alloc (Obj.cells #[.int .i64 0,.slice none 0 0] 133)):=((Below.refl _ w).alloc (Nat.le_refl _) _).alloc (by simp) _
 have hlen:(remT s L a).length=L.length - a:=by unfold remT;simp
 have hL:=hS.len
 have hcap:=kid_cap (remT s L a)
 have hsz:((w.alloc (Obj.cells #[.pointer none,.int .i64 0] 138)).alloc (Obj.cells #[.int .i64 0,.slice none 0 0] 133)).heap.size=w.heap.size+2:=by simp
 have hnew:((w.alloc (Obj.cells #[.pointer none,.int .i64 0] 138)).alloc (Obj.cells #[.int .i64 0,.slice none 0 0] 133)).heap[w.heap.size+1]?=some (.cells #[.int .i64 0,.slice none 0 0] 133 (0,0)):=by
  have:=heap_alloc_new (w.alloc (Obj.cells #[.pointer none,.int .i64 0] 138)) (Obj.cells #[.int .i64 0,.slice none 0 0] 133)
  rwa [World.size_alloc] at this
 have hres:((w.alloc (Obj.cells #[.pointer none,.int .i64 0] 138)).alloc (Obj.cells #[.int .i64 0,.slice none 0 0] 133)).heap[w.heap.size]?=some (.cells #[.pointer none,.int .i64 0] 138 (0,0)) :=
  (heap_alloc_old (w.alloc _) _ (show w.heap.size<_ by simp)).trans (heap_alloc_new w _)
 obtain ⟨⟨c0,c1,c2,c3,c4,c5,c6⟩,-⟩:=hr.raw.facts
 have HJ:=hide (junk_any hS)
 have HR:=hide hr
 clear hr
 go_enter Tryz.func53,Tryz.ntmps53
 go_wp2_with fail
 generalize (w.alloc (Obj.cells #[.pointer none,.int .i64 0] 138)).alloc (Obj.cells #[.int .i64 0,.slice none 0 0] 133)=W at *
 have HW:Hid (Done W rb s L tv 0 (w.heap.size+1) 0 (.slice none 0 0) [] (remT s L a) D W):=by
  refine Done.refl (a:=a) (vs:=[]) ⟨(HR.out).below kA,⟨hnew,World.ownsRow_nil _ _ _ _⟩,rfl,Each.nil _ _,fun q hq=>?_,⟨hDr,fun hd=>?_,?_⟩,(fun g hg=>by cases hg),fun q hq=>?_⟩
  ·have:=hD q hq;omega
  ·have:=hD _ hd;omega
  ·omega
  ·obtain ⟨h1,h2⟩:=hT q hq
   exact ⟨h1,by omega,(fun e=>by cases e),by omega⟩
 refine Done.atItem (HW.out) hS ?_
 intro w2 H2
 cases hst:X.starts (remT s L a) with
 | true =>
  go_wp2_with fail
  refine (item_any hS W w2 rb tv (w.heap.size+1) 0 (.slice none 0 0) [] (remT s L a) D H2.out hst (by simp;omega)).mono ?_
  rintro e w3 ⟨rfl,H3⟩
  rw [List.nil_append] at H3
  have hle3:=kid_le (remT s L a)
  have HQ:Hid (∃ a3:Nat,a≤a3∧(remT s L a).length - (X.kid (remT s L a)).2.2.length=a3 - a∧w3.cell? ⟨rb,2,none⟩=some (.int .i64 a3)∧a3≤L.length):=by
   obtain ⟨a3,rv3,vs3,D3,g1,g2,-⟩:=H3.out
   obtain ⟨⟨z0,z1,z2,-⟩,-⟩:=g1.rdr.raw.facts
   have hl3:(remT s L a3).length=L.length - a3:=by unfold remT;simp
   have hle4:=g1.rdr.le
   rw [← g2] at hle3 ⊢
   exact ⟨a3,by omega,by omega,z2,hle4⟩
  have hres3:w3.heap[w.heap.size]?=some (.cells #[.pointer none,.int .i64 0] 138 (0,0)):=by
   obtain ⟨a3,rv3,vs3,D3,g1,g2,g3,g4,g5,g6⟩:=H3.out
   exact g6.heap hres (by
    rintro (e|e|e)
    ·omega
    ·omega
    ·cases e)
  obtain ⟨a3,q1,q2,q3,q4⟩:=HQ.out
  have r0:w3.cell? ⟨w.heap.size,0,none⟩=some (.pointer none):=cell_of_row w3 _ 0 _ _ _ hres3
  have r1:w3.cell? ⟨w.heap.size,1,none⟩=some (.int .i64 0):=cell_of_row w3 _ 1 _ _ _ hres3
  have r2:w3.frozen? ⟨w.heap.size,0,none⟩=false:=by simp [World.frozen?,hres3]
  have r3:w3.frozen? ⟨w.heap.size,1,none⟩=false:=by simp [World.frozen?,hres3]
  clear HQ hres3 hnew hres c0 c1 c2 c3 c4 c5 c6
  have HF:Hid (∃ (D':Nat→Prop) (a':Nat),RdrT ((w3.setCell ⟨w.heap.size,0,none⟩ (.pointer (some ⟨w.heap.size+1,0,none⟩))).setCell ⟨w.heap.size,1,none⟩ (.int .i64 ((a3:Int) - (a:Int)))) rb s L tv a' 0∧remT s L a'=(X.kid (remT s L a)).2.2∧IsP ((w3.setCell ⟨w.heap.size,0,none⟩ (.pointer (some ⟨w.heap.size+1,0,none⟩))).setCell ⟨w.heap.size,1,none⟩ (.int .i64 ((a3:Int) - (a:Int)))) D' (.iface 130 (.pointer (some ⟨w.heap.size+1,0,none⟩))) (.br (X.kid (remT s L a)).1 (X.kid (remT s L a)).2.1)∧(∀ q,D q→D' q)∧(∀ q,D' q→D q∨w.heap.size≤q)∧(∀ q,D' q→q<((w3.setCell ⟨w.heap.size,0,none⟩ (.pointer (some ⟨w.heap.size+1,0,none⟩))).setCell ⟨w.heap.size,1,none⟩ (.int .i64 ((a3:Int) - (a:Int)))).heap.size)∧On rb w ((w3.setCell ⟨w.heap.size,0,none⟩ (.pointer (some ⟨w.heap.size+1,0,none⟩))).setCell ⟨w.heap.size,1,none⟩ (.int .i64 ((a3:Int) - (a:Int))))):=kid_end kA hsz hrl hD hT H3.out (On.set (On.set (Kp.refl _ w3) 0 _) 1 _)
  go_wp2_with fail
  obtain ⟨D',a',hF⟩:=HF.out
  have e9:((a3:Int) - (a:Int))=(((remT s L a).length - (X.kid (remT s L a)).2.2.length:Nat):Int):=by rw [q2];omega
  exact bodyPost_ret (v:=.agg #[.pointer (some ⟨w.heap.size+1,0,none⟩),.int .i64 ((a3:Int) - (a:Int))]) (by simp [results,Tryz.results53,go_sem,r0,r1]) rfl ⟨w.heap.size+1,D',a',by unfold kidV;rw [← e9],hF⟩
 | false =>
  go_wp2_with fail
  refine Done.thenK (H2.out) (HJ.out) (by have:=X.Cap.junkL.le (remT s L a);simp;omega) ?_
  intro w3 H3'
  have ek:X.kid (remT s L a)=(5,X.junkL (remT s L a)):=by rw [X.kid_eq,hst,if_neg (by simp)]
  have H3:Hid (Done W rb s L tv 0 (w.heap.size+1) (X.kid (remT s L a)).1 (.slice none 0 0) (X.kid (remT s L a)).2.1 (X.kid (remT s L a)).2.2 D w3):=by
   rw [ek];rw [List.nil_append] at H3';exact H3'
  clear H3' ek
  have hle3:=kid_le (remT s L a)
  have HQ:Hid (∃ a3:Nat,a≤a3∧(remT s L a).length - (X.kid (remT s L a)).2.2.length=a3 - a∧w3.cell? ⟨rb,2,none⟩=some (.int .i64 a3)∧a3≤L.length):=by
   obtain ⟨a3,rv3,vs3,D3,g1,g2,-⟩:=H3.out
   obtain ⟨⟨z0,z1,z2,-⟩,-⟩:=g1.rdr.raw.facts
   have hl3:(remT s L a3).length=L.length - a3:=by unfold remT;simp
   have hle4:=g1.rdr.le
   rw [← g2] at hle3 ⊢
   exact ⟨a3,by omega,by omega,z2,hle4⟩
  have hres3:w3.heap[w.heap.size]?=some (.cells #[.pointer none,.int .i64 0] 138 (0,0)):=by
   obtain ⟨a3,rv3,vs3,D3,g1,g2,g3,g4,g5,g6⟩:=H3.out
   exact g6.heap hres (by
    rintro (e|e|e)
    ·omega
    ·omega
    ·cases e)
  obtain ⟨a3,q1,q2,q3,q4⟩:=HQ.out
  have r0:w3.cell? ⟨w.heap.size,0,none⟩=some (.pointer none):=cell_of_row w3 _ 0 _ _ _ hres3
  have r1:w3.cell? ⟨w.heap.size,1,none⟩=some (.int .i64 0):=cell_of_row w3 _ 1 _ _ _ hres3
  have r2:w3.frozen? ⟨w.heap.size,0,none⟩=false:=by simp [World.frozen?,hres3]
  have r3:w3.frozen? ⟨w.heap.size,1,none⟩=false:=by simp [World.frozen?,hres3]
  clear HQ hres3 hnew hres c0 c1 c2 c3 c4 c5 c6
  have HF:Hid (∃ (D':Nat→Prop) (a':Nat),RdrT ((w3.setCell ⟨w.heap.size,0,none⟩ (.pointer (some ⟨w.heap.size+1,0,none⟩))).setCell ⟨w.heap.size,1,none⟩ (.int .i64 ((a3:Int) - (a:Int)))) rb s L tv a' 0∧remT s L a'=(X.kid (remT s L a)).2.2∧IsP ((w3.setCell ⟨w.heap.size,0,none⟩ (.pointer (some ⟨w.heap.size+1,0,none⟩))).setCell ⟨w.heap.size,1,none⟩ (.int .i64 ((a3:Int) - (a:Int)))) D' (.iface 130 (.pointer (some ⟨w.heap.size+1,0,none⟩))) (.br (X.kid (remT s L a)).1 (X.kid (remT s L a)).2.1)∧(∀ q,D q→D' q)∧(∀ q,D' q→D q∨w.heap.size≤q)∧(∀ q,D' q→q<((w3.setCell ⟨w.heap.size,0,none⟩ (.pointer (some ⟨w.heap.size+1,0,none⟩))).setCell ⟨w.heap.size,1,none⟩ (.int .i64 ((a3:Int) - (a:Int)))).heap.size)∧On rb w ((w3.setCell ⟨w.heap.size,0,none⟩ (.pointer (some ⟨w.heap.size+1,0,none⟩))).setCell ⟨w.heap.size,1,none⟩ (.int .i64 ((a3:Int) - (a:Int))))):=kid_end kA hsz hrl hD hT H3.out (On.set (On.set (Kp.refl _ w3) 0 _) 1 _)
  go_wp2_with fail
  obtain ⟨D',a',hF⟩:=HF.out
  have e9:((a3:Int) - (a:Int))=(((remT s L a).length - (X.kid (remT s L a)).2.2.length:Nat):Int):=by rw [q2];omega
  exact bodyPost_ret (v:=.agg #[.pointer (some ⟨w.heap.size+1,0,none⟩),.int .i64 ((a3:Int) - (a:Int))]) (by simp [results,Tryz.results53,go_sem,r0,r1]) rfl ⟨w.heap.size+1,D',a',by unfold kidV;rw [← e9],hF⟩
end Go.Proofs.YtbmebfgapjhchaaGreatDoor
