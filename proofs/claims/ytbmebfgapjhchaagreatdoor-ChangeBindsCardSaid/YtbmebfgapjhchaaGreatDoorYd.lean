/- Plain mathematics: how many parts the tree of a text has,and of what kinds they are. -/
import Derived.Test.YtbmebfgapjhchaaGreatDoorXy
import Derived.Test.YtbmebfgapjhchaaGreatDoorKa
namespace Go.Proofs.YtbmebfgapjhchaaGreatDoor
open M
namespace X
mutual
def kok:Part→Prop
 | .leaf _ _=>True
 | .miss _=>True
 | .br k ps=>k≠0∧koks ps
def koks:List Part→Prop
 | []=>True
 | p::ps=>kok p∧koks ps
end
theorem pssz_append (l r:List Part):pssz (l++r)=pssz l+pssz r:=by
 induction l with
 | nil=>simp [pssz]
 | cons p l ih=>rw [List.cons_append,pssz,ih,pssz];omega
theorem koks_append {l r:List Part} (hl:koks l) (hr:koks r):koks (l++r):=by
 induction l with
 | nil=>exact hr
 | cons p l ih=>rw [List.cons_append,koks];rw [koks] at hl;exact ⟨hl.1,ih hl.2⟩
theorem pssz_lf (ts:List Tok):pssz (ts.map lf)=ts.length:=by
 induction ts with
 | nil=>rfl
 | cons t ts ih=>rw [List.map_cons,pssz,ih,lf,psz,List.length_cons];omega
theorem koks_lf (ts:List Tok):koks (ts.map lf):=by
 induction ts with
 | nil=>rw [List.map_nil,koks];trivial
 | cons t ts ih=>rw [List.map_cons,koks,lf,kok];exact ⟨trivial,ih⟩
def At (f:R) (c:Nat) (ts:List Tok):Prop:=koks (f ts).1∧pssz (f ts).1+7*(f ts).2.length≤c+7*ts.length
def Sz (f:R) (c:Nat):Prop:=∀ ts,At f c ts
theorem At.mono {f:R} {c d:Nat} {ts:List Tok} (h:At f c ts) (hd:c≤d):At f d ts:=⟨h.1,by have:=h.2;omega⟩
theorem Sz.mono {f:R} {c d:Nat} (h:Sz f c) (hd:c≤d):Sz f d:=fun ts=>(h ts).mono hd
theorem At.andThen {f g:R} {c d:Nat} {ts:List Tok} (hf:At f c ts) (hg:Sz g d):At (andThen f g) (c+d) ts:=by
 have h2:=hg (f ts).2
 refine ⟨koks_append hf.1 h2.1,?_⟩
 have e1:=hf.2
 have e2:=h2.2
 show pssz ((f ts).1++(g (f ts).2).1)+7*(g (f ts).2).2.length≤_
 rw [pssz_append];omega
theorem Sz.andThen {f g:R} {c d:Nat} (hf:Sz f c) (hg:Sz g d):Sz (andThen f g) (c+d):=fun ts=>(hf ts).andThen hg
theorem At.node {f:R} {c:Nat} {ts:List Tok} (h:At f c ts) {k:Nat} (hk:k≠0):At (node k f) (c+1) ts:=by
 refine ⟨by show koks [.br k (f ts).1];rw [koks,koks,kok];exact ⟨⟨hk,h.1⟩,trivial⟩,?_⟩
 have:=h.2
 show pssz [.br k (f ts).1]+7*(f ts).2.length≤_
 rw [pssz,pssz,psz];omega
theorem Sz.nil:Sz (fun ts=>([],ts)) 0:=fun ts=>⟨by show koks [];rw [koks];trivial,by show pssz []+7*ts.length≤_;rw [pssz];omega⟩
theorem Sz.miss (m:List UInt8):Sz (fun ts=>([.miss m],ts)) 1:=fun ts=>⟨by show koks [.miss m];rw [koks,koks,kok];exact ⟨trivial,trivial⟩,by show pssz [.miss m]+7*ts.length≤_;rw [pssz,pssz,psz];omega⟩
theorem At.ite {f g:R} {c:Nat} {b:List Tok→Bool} {ts:List Tok} (hf:b ts=true→At f c ts) (hg:b ts=false→At g c ts):At (fun ts=>if b ts then f ts else g ts) c ts:=by
 unfold At at *
 by_cases h:b ts=true
 ·simp only [h,if_true];exact hf h
 ·simp only [Bool.not_eq_true] at h;simp only [h,Bool.false_eq_true,if_false];exact hg h
theorem Sz.ite {f g:R} {c:Nat} {b:List Tok→Bool} (hf:Sz f c) (hg:Sz g c):Sz (fun ts=>if b ts then f ts else g ts) c:=fun ts=>At.ite (fun _=>hf ts) (fun _=>hg ts)
theorem take_sz (ts:List Tok):pssz (take ts).1=(take ts).1.length:=by
 show pssz (List.map lf _)=(List.map lf _).length
 rw [pssz_lf,List.length_map]
theorem take_ok (ts:List Tok):koks (take ts).1:=koks_lf _
theorem Sz.take:Sz take 0:=fun ts=>⟨take_ok ts,by have:=take_len ts;rw [take_sz];omega⟩
theorem At.tk {g:R} {c e:Nat} {ts:List Tok} (hn:nxt ts≠none) (hg:Sz g c) (he:c≤6+e):At (X.andThen X.take g) e ts:=by
 have h2:=hg (X.take ts).2
 refine ⟨koks_append (take_ok ts) h2.1,?_⟩
 have e2:=h2.2
 have l1:=take_len ts
 have l2:=take_lt hn
 show pssz ((X.take ts).1++(g (X.take ts).2).1)+7*(g (X.take ts).2).2.length≤_
 rw [pssz_append,take_sz];omega
theorem At.tk1 {ts:List Tok} (hn:nxt ts≠none) {k:Nat} (hk:k≠0):At (X.node k X.take) 0 ts:=by
 refine ⟨by show koks [.br k (X.take ts).1];rw [koks,koks,kok];exact ⟨⟨hk,take_ok ts⟩,trivial⟩,?_⟩
 have l1:=take_len ts
 have l2:=take_lt hn
 show pssz [.br k (X.take ts).1]+7*(X.take ts).2.length≤_
 rw [pssz,pssz,psz,take_sz];omega
theorem At.tkn {g:R} {c e:Nat} {ts:List Tok} (hn:nxt ts≠none) (hg:Sz g c) (he:c≤5+e) {k:Nat} (hk:k≠0):At (X.node k (X.andThen X.take g)) e ts:=by
 have h2:=hg (X.take ts).2
 refine ⟨by show koks [.br k _];rw [koks,koks,kok];exact ⟨⟨hk,koks_append (take_ok ts) h2.1⟩,trivial⟩,?_⟩
 have e2:=h2.2
 have l1:=take_len ts
 have l2:=take_lt hn
 show pssz [.br k ((X.take ts).1++(g (X.take ts).2).1)]+7*(g (X.take ts).2).2.length≤_
 rw [pssz,pssz,psz,pssz_append,take_sz];omega
theorem Sz.want (s:List UInt8):Sz (want s) 1:=Sz.ite (b:=isN s) (Sz.take.mono (by omega)) (Sz.miss s)
theorem Sz.wname:Sz wname 1:=Sz.ite (b:=fun ts=>kindN ts==3) (Sz.take.mono (by omega)) (Sz.miss sName)
theorem Sz.sevGo {one:R} (h:Sz one 1):∀ n,Sz (sevGo one n) 0
 | 0=>Sz.nil
 | n+1=>fun ts=>At.ite (b:=isN [44]) (fun hc=>At.tk (isN_next hc) (h.andThen (Sz.sevGo h n)) (by omega)) (fun _=>Sz.nil ts)
theorem Sz.several {one:R} (h:Sz one 1) (e:List UInt8):Sz (several one e) 2 :=
 Sz.ite (b:=isN e) ((Sz.want e).mono (by omega)) (h.andThen (Sz.andThen (c:=0) (fun ts=>Sz.sevGo h ts.length ts) (Sz.want e)))
theorem Sz.params:Sz params 4:=fun ts=>At.node (c:=3) (((Sz.want [40]).andThen (Sz.wname.several [41])) ts) (by decide)
theorem rowGo_sz {one:R} {ok:List Tok→Bool} (h:Sz one 1) (hok:∀ ts,ok ts=true→nxt ts≠none):∀ (n:Nat) (p:List Part) (ts:List Tok),koks p→koks (rowGo one ok n p ts).1∧pssz (rowGo one ok n p ts).1+7*(rowGo one ok n p ts).2.length≤pssz p+7*ts.length
 | 0,p,ts,hp=>⟨hp,Nat.le_refl _⟩
 | n+1,p,ts,hp=>by
  unfold X.rowGo
  by_cases hc:ok ts=true
  ·rw [if_pos hc]
   have h1:=At.tk (e:=0) (hok ts hc) h (by omega)
   have l0:(X.andThen X.take one ts).1=(X.take ts).1++(one (X.take ts).2).1:=rfl
   have h2:=rowGo_sz h hok n [.br 10 (p++(X.andThen X.take one ts).1)] (X.andThen X.take one ts).2 (by rw [koks,koks,kok];exact ⟨⟨by decide,koks_append hp h1.1⟩,trivial⟩)
   refine ⟨h2.1,?_⟩
   have e2:=h2.2
   have e3:=h (X.take ts).2
   have e4:=e3.2
   have l1:=take_len ts
   have l2:=take_lt (hok ts hc)
   have l5:pssz [.br 10 (p++(X.andThen X.take one ts).1)]=1+(pssz p+((X.take ts).1.length+pssz (one (X.take ts).2).1))+0:=by
    rw [pssz,pssz,psz,pssz_append,l0,pssz_append,take_sz]
   have l3:(X.andThen X.take one ts).2.length=(one (X.take ts).2).2.length:=rfl
   rw [l5,l3] at e2
   omega
  ·rw [if_neg hc];exact ⟨hp,Nat.le_refl _⟩
theorem Sz.row {one:R} {ok:List Tok→Bool} (h:Sz one 1) (hok:∀ ts,ok ts=true→nxt ts≠none):Sz (row one ok) 1:=by
 intro ts
 have h1:=h ts
 have h2:=rowGo_sz h hok (one ts).2.length (one ts).1 (one ts).2 h1.1
 refine ⟨h2.1,?_⟩
 have e1:=h1.2
 have e2:=h2.2
 show pssz (X.rowGo one ok (one ts).2.length (one ts).1 (one ts).2).1+7*(X.rowGo one ok (one ts).2.length (one ts).1 (one ts).2).2.length≤_
 omega
theorem args_sz {E:R} (h:Sz E 1) {ts:List Tok} (hn:nxt ts≠none):koks (args E ts).1∧pssz (args E ts).1+1+7*(args E ts).2.length≤7*ts.length:=by
 have h2:=(h.several [41]) (X.take ts).2
 have l1:=take_len ts
 have l2:=take_lt hn
 have e2:=h2.2
 refine ⟨(At.tkn (k:=12) (e:=0) hn (h.several [41]) (by omega) (by decide)).1,?_⟩
 show pssz [.br 12 ((X.take ts).1++(X.several E [41] (X.take ts).2).1)]+1+7*(X.several E [41] (X.take ts).2).2.length≤_
 rw [pssz,pssz,psz,pssz_append,take_sz];omega
theorem callGo_sz {E:R} (h:Sz E 1):∀ (n:Nat) (p:List Part) (ts:List Tok),koks p→koks (callGo E n p ts).1∧pssz (callGo E n p ts).1+7*(callGo E n p ts).2.length≤pssz p+7*ts.length
 | 0,p,ts,hp=>⟨hp,Nat.le_refl _⟩
 | n+1,p,ts,hp=>by
  unfold X.callGo
  by_cases hc:isN [40] ts=true
  ·rw [if_pos hc]
   have h1:=args_sz h (isN_next hc)
   have h2:=callGo_sz h n [.br 11 (p++(X.args E ts).1)] (X.args E ts).2 (by rw [koks,koks,kok];exact ⟨⟨by decide,koks_append hp h1.1⟩,trivial⟩)
   refine ⟨h2.1,?_⟩
   have e1:=h1.2
   have e2:=h2.2
   rw [pssz,pssz,psz,pssz_append] at e2
   omega
  ·rw [if_neg hc];exact ⟨hp,Nat.le_refl _⟩
theorem Sz.part {E:R} (h:Sz E 1):Sz (part E) 1:=fun ts =>
 At.ite (b:=fun ts=>kindN ts==5) (fun hc=>(At.tk1 (kindN_next (by decide) hc) (by decide)).mono (by omega)) fun _ =>
 At.ite (b:=fun ts=>kindN ts==6) (fun hc=>(At.tk1 (kindN_next (by decide) hc) (by decide)).mono (by omega)) fun _ =>
 At.ite (b:=fun ts=>isN [116,114,117,101] ts||isN [102,97,108,115,101] ts) (fun hc=>(At.tk1 (by rcases (Bool.or_eq_true _ _).mp hc with h|h<;>exact isN_next h) (by decide)).mono (by omega)) fun _ =>
 At.ite (b:=fun ts=>kindN ts==3) (fun hc=>(At.tk1 (kindN_next (by decide) hc) (by decide)).mono (by omega)) fun _ =>
 At.ite (b:=isN [63]) (fun hc=>(At.tk1 (isN_next hc) (by decide)).mono (by omega)) fun _ =>
 At.ite (b:=isN [40]) (fun hc=>At.tkn (isN_next hc) (h.andThen (Sz.want [41])) (by omega) (by decide)) fun _ =>
 At.ite (b:=isN [91]) (fun hc=>At.tkn (isN_next hc) (h.several [93]) (by omega) (by decide)) fun _=>Sz.miss _ ts
theorem Sz.call {E:R} (h:Sz E 1):Sz (call E) 1:=by
 intro ts
 have h1:=Sz.part h ts
 have h2:=callGo_sz h (X.part E ts).2.length (X.part E ts).1 (X.part E ts).2 h1.1
 refine ⟨h2.1,?_⟩
 have e1:=h1.2
 have e2:=h2.2
 show pssz (X.callGo E (X.part E ts).2.length (X.part E ts).1 (X.part E ts).2).1+7*(X.callGo E (X.part E ts).2.length (X.part E ts).1 (X.part E ts).2).2.length≤_
 omega
theorem Sz.product {E:R} (h:Sz E 1):Sz (product E) 1:=h.call.row (fun _ hc=>isN_next hc)
theorem Sz.sum {E:R} (h:Sz E 1):Sz (sum E) 1:=h.product.row (fun _ hc=>by
 rcases (Bool.or_eq_true _ _).mp hc with h|h
 ·rcases (Bool.or_eq_true _ _).mp h with h|h<;>exact isN_next h
 ·exact isN_next h)
theorem comparison_yes {E:R} {ts:List Tok} (hc:(isN [61,61] (sum E ts).2||isN [60] (sum E ts).2)=true):comparison E ts=([.br 10 ((sum E ts).1++((take (sum E ts).2).1++(sum E (take (sum E ts).2).2).1))],(sum E (take (sum E ts).2).2).2):=by
 simp only [comparison,hc,if_true,andThen]
theorem comparison_no {E:R} {ts:List Tok} (hc:(isN [61,61] (sum E ts).2||isN [60] (sum E ts).2)=false):comparison E ts=sum E ts:=by
 simp only [comparison,hc,Bool.false_eq_true,if_false]
theorem Sz.comparison {E:R} (h:Sz E 1):Sz (comparison E) 1:=by
 intro ts
 have h0:=h.sum
 have h1:=h0 ts
 cases hc:(isN [61,61] (X.sum E ts).2||isN [60] (X.sum E ts).2) with
 | true =>
  have hn:nxt (X.sum E ts).2≠none:=by rcases (Bool.or_eq_true _ _).mp hc with h|h<;>exact isN_next h
  have e0:=comparison_yes hc
  unfold At
  rw [e0]
  clear e0 h hc
  revert h0 h1 hn
  generalize X.sum E=F
  intro h0 h1 hn
  have e3:=h0 (X.take (F ts).2).2
  have l1:=take_len (F ts).2
  have l2:=take_lt hn
  have e1:=h1.2
  have e4:=e3.2
  have k1:=h1.1
  have k2:=e3.1
  refine ⟨?_,?_⟩
  ·rw [koks,koks,kok];exact ⟨⟨by decide,koks_append k1 (koks_append (take_ok _) k2)⟩,trivial⟩
  ·rw [pssz,pssz,psz,pssz_append,pssz_append,take_sz]
   simp only
   omega
 | false =>
  unfold At
  rw [comparison_no hc];exact h1
theorem Sz.expr:∀ n,Sz (expr n) 1
 | 0=>Sz.miss _
 | n+1=>fun ts =>
  have h:Sz (X.expr n) 1:=Sz.expr n
  At.ite (b:=isN [108,101,116]) (fun hc=>At.tkn (isN_next hc) (Sz.wname.andThen ((Sz.want [61]).andThen (h.andThen ((Sz.want [105,110]).andThen h)))) (by omega) (by decide)) fun _ =>
  At.ite (b:=isN [105,102]) (fun hc=>At.tkn (isN_next hc) (h.andThen ((Sz.want [116,104,101,110]).andThen (h.andThen ((Sz.want [101,108,115,101]).andThen h)))) (by omega) (by decide)) fun _ =>
  At.ite (b:=isN [102,117,110]) (fun hc=>At.tkn (isN_next hc) (Sz.params.andThen ((Sz.want [61,62]).andThen h)) (by omega) (by decide)) fun _=>h.comparison ts
theorem Sz.junkGo:∀ n,Sz (junkGo n) 0
 | 0=>Sz.nil
 | n+1=>Sz.ite (b:=fun ts=>kindN ts==0||starts ts) Sz.nil (Sz.ite (b:=isN [59]) Sz.take (Sz.take.andThen (Sz.junkGo n)))
theorem Sz.useTail:Sz (X.andThen X.wname (X.andThen (X.want [46]) (X.andThen X.wname (X.andThen (fun ts=>_root_.ite (isN [97,115] ts=true) (X.andThen X.take X.wname ts) ([],ts)) (X.want [59]))))) 4 :=
 Sz.wname.andThen ((Sz.want _).andThen (Sz.wname.andThen (Sz.andThen (c:=0) (fun ts=>At.ite (b:=isN [97,115]) (fun hc=>At.tk (isN_next hc) Sz.wname (by omega)) (fun _=>Sz.nil ts)) (Sz.want _))))
theorem Sz.optParams:Sz (fun ts=>_root_.ite (isN [40] ts=true) (X.params ts) ([],ts)) 0:=fun ts=>At.ite (b:=isN [40]) (fun hc=>by
  have e:X.params ts=X.node 6 (X.andThen X.take (X.several X.wname [41])) ts:=by
   unfold X.params X.node X.andThen X.want;simp only [hc,if_true]
  have:=At.tkn (k:=6) (e:=0) (isN_next hc) (Sz.wname.several [41]) (by omega) (by decide)
  unfold At at this ⊢
  rw [e];exact this) (fun _=>Sz.nil ts)
theorem Sz.defTail:Sz (X.andThen X.wname (X.andThen (fun ts=>_root_.ite (isN [40] ts=true) (X.params ts) ([],ts)) (X.andThen (X.want [61]) (X.andThen (X.expr 65) (X.want [59]))))) 4 :=
 Sz.wname.andThen (Sz.optParams.andThen ((Sz.want _).andThen ((Sz.expr 65).andThen (Sz.want _))))
theorem Sz.useAll:Sz useR 5:=by unfold useR;exact (Sz.want sUse).andThen Sz.useTail
theorem Sz.defAll:Sz defR 5:=by unfold defR;exact (Sz.want sDef).andThen Sz.defTail
theorem want_take {s:List UInt8} {ts:List Tok} (h:isN s ts=true):X.want s ts=X.take ts:=by unfold X.want;rw [if_pos h]
theorem tk_sz {G:R} {c:Nat} {ts:List Tok} (hG:Sz G c) (hc:c≤5) (hn:nxt ts≠none):koks (andThen take G ts).1∧1+pssz (andThen take G ts).1+7*(andThen take G ts).2.length≤7*ts.length:=by
 have h2:=hG (take ts).2
 have e2:=h2.2
 have l1:=take_len ts
 have l2:=take_lt hn
 refine ⟨koks_append (take_ok ts) h2.1,?_⟩
 show 1+pssz ((take ts).1++(G (take ts).2).1)+7*(G (take ts).2).2.length≤_
 rw [pssz_append,take_sz];omega
theorem opt_take {ts:List Tok} (h:isN sPub ts=true) (F:R):andThen optPub F ts=andThen take F ts:=by simp only [andThen,optPub,h,if_true]
theorem opt_nil {ts:List Tok} (h:isN sPub ts=false) (F:R):andThen optPub F ts=F ts:=by simp only [andThen,optPub,h,Bool.false_eq_true,if_false,List.nil_append]
theorem want_then {x:List UInt8} {ts:List Tok} (h:isN x ts=true) (G:R):andThen (want x) G ts=andThen take G ts:=by
 have e:=want_take h
 show ((want x ts).1++(G (want x ts).2).1,(G (want x ts).2).2)=((take ts).1++(G (take ts).2).1,(G (take ts).2).2)
 rw [e]
theorem use_tk {ts:List Tok} (h:isN sUse ts=true):∃ G,Sz G 4∧useR ts=andThen take G ts:=⟨_,Sz.useTail,want_then h _⟩
theorem def_tk {ts:List Tok} (h:isN sDef ts=true):∃ G,Sz G 4∧defR ts=andThen take G ts:=⟨_,Sz.defTail,want_then h _⟩
theorem kid_sz {ts:List Tok} (hk:(kindN ts==0)=false):(kid ts).1≠0∧koks (kid ts).2.1∧1+pssz (kid ts).2.1+7*(kid ts).2.2.length≤7*ts.length:=by
 have hU:=Sz.useAll
 have hD:=Sz.defAll
 have hu1:=@use_tk ts
 have hd1:=@def_tk ts
 rw [kid_eq]
 revert hU hD hu1 hd1
 generalize useR=U
 generalize defR=V
 intro hU hD hu1 hd1
 by_cases hs:starts ts=true
 ·simp only [hs,if_true]
  by_cases hp:isN sPub ts=true
  ·have hn:=isN_next hp
   have eP:=opt_take hp
   cases hu:isN sUse (optPub ts).2 with
   | true=>simp only [if_true,eP];exact ⟨by decide,tk_sz hU (by omega) hn⟩
   | false=>simp only [Bool.false_eq_true,if_false,eP];exact ⟨by decide,tk_sz hD (by omega) hn⟩
  ·have hp':isN sPub ts=false:=by simpa using hp
   have eP:=opt_nil hp'
   have e0:(optPub ts).2=ts:=by unfold optPub;rw [if_neg hp]
   rw [e0]
   cases hu:isN sUse ts with
   | true =>
    obtain ⟨G,g1,g2⟩:=hu1 hu
    simp only [if_true,eP,g2]
    exact ⟨by decide,tk_sz g1 (by omega) (isN_next hu)⟩
   | false =>
    have hd:isN sDef ts=true:=by
     unfold starts at hs
     rw [hu,hp'] at hs
     simpa using hs
    obtain ⟨G,g1,g2⟩:=hd1 hd
    simp only [Bool.false_eq_true,if_false,eP,g2]
    exact ⟨by decide,tk_sz g1 (by omega) (isN_next hd)⟩
 ·simp only [Bool.not_eq_true] at hs
  simp only [hs,Bool.false_eq_true,if_false]
  have e:junkL ts=if isN [59] ts then take ts else andThen take junkL ts:=junkL_yes (by rw [hk,hs];rfl)
  have hn:=kind_next hk
  refine ⟨by decide,?_⟩
  rw [e]
  have l1:=take_len ts
  have l2:=take_lt hn
  have hJ:Sz junkL 0:=fun ts=>Sz.junkGo ts.length ts
  split
  ·exact ⟨take_ok ts,by rw [take_sz];omega⟩
  ·exact tk_sz hJ (by omega) hn
theorem fileGo_sz:∀ (n:Nat) (ts:List Tok),koks (fileGo n ts)∧pssz (fileGo n ts)≤7*ts.length
 | 0,ts=>⟨koks_lf ts,by show pssz (ts.map lf)≤_;rw [pssz_lf];omega⟩
 | n+1,ts=>by
  unfold fileGo
  by_cases hk:(kindN ts==0)=true
  ·rw [if_pos hk];exact ⟨koks_lf ts,by rw [pssz_lf];omega⟩
  ·rw [if_neg hk]
   simp only [Bool.not_eq_true] at hk
   obtain ⟨k1,k2,k3⟩:=kid_sz hk
   have ih:=fileGo_sz n (kid ts).2.2
   have e2:=ih.2
   exact ⟨by rw [koks,kok];exact ⟨⟨k1,k2⟩,ih.1⟩,by rw [pssz,psz];omega⟩
theorem file_kok (ts:List Tok):kok (file ts):=by rw [file,kok];exact ⟨by decide,(fileGo_sz _ ts).1⟩
theorem file_psz (ts:List Tok):psz (file ts)≤1+7*ts.length:=by rw [file,psz];have:=(fileGo_sz ts.length ts).2;omega
end X
end Go.Proofs.YtbmebfgapjhchaaGreatDoor
/- Plain mathematics: a kid of the root hangs on its tokens and the next one. -/
namespace Go.Proofs.YtbmebfgapjhchaaGreatDoor
open M
namespace X
end X
end Go.Proofs.YtbmebfgapjhchaaGreatDoor
/- Plain mathematics: the kids of a root and their tokens;a text in which a piece is replaced. -/
namespace Go.Proofs.YtbmebfgapjhchaaGreatDoor
open M
namespace X
theorem kid_split (ts:List Tok):ts=pls (kid ts).2.1++(kid ts).2.2:=(kid_lvs ts).symm
theorem drop_nil:∀ ts:List Tok,ts.dropWhile quiet=[]→∀ t∈ts,quiet t=true
 | [],_,t,ht=>by cases ht
 | u::ts,e,t,ht=>by
  rw [List.dropWhile_cons] at e
  by_cases hq:quiet u=true
  ·rw [if_pos hq] at e
   rcases List.mem_cons.1 ht with rfl|h
   ·exact hq
   ·exact drop_nil ts e t h
  ·rw [if_neg hq] at e;cases e
theorem kindN_drop {ts:List Tok} (h:(kindN ts==0)=true) (hk:∀ t∈ts,t.1≠0):∀ t∈ts,quiet t=true:=by
 intro t ht
 cases hq:quiet t with
 | true=>rfl
 | false =>
  exfalso
  have hne:ts.dropWhile quiet≠[]:=by
   intro e
   have:=drop_nil ts e t ht
   rw [hq] at this
   exact absurd this (by simp)
  obtain ⟨u,l,e⟩:=List.exists_cons_of_ne_nil hne
  have hu:u∈ts:=(List.dropWhile_sublist (p:=quiet) (l:=ts)).mem (by rw [e];simp)
  have h0:kindN ts=u.1:=by unfold kindN nxt;rw [e];rfl
  rw [h0] at h
  exact hk u hu (by simpa using h)
end X
end Go.Proofs.YtbmebfgapjhchaaGreatDoor
/- Plain mathematics: what is wrong in a tree. -/
namespace Go.Proofs.YtbmebfgapjhchaaGreatDoor
open M
namespace X
def qlen:List Part→Nat
 | .leaf k x::ps=>if k=1∨k=2 then x.length+qlen ps else 0
 | _=>0
def lv:Part→Bool
 | .leaf _ _=>true
 | _=>false
def Junky (ps:List Part):Prop:=(∀ p∈ps,lv p=true)∧∃ l k x,ps=l++[.leaf k x]∧¬(k=1∨k=2)
mutual
def jok:Part→Prop
 | .leaf _ _=>True
 | .miss _=>True
 | .br k ps=>(k≠1∧(k=5→Junky ps))∧joks ps
def joks:List Part→Prop
 | []=>True
 | p::ps=>jok p∧joks ps
end
theorem joks_append {l r:List Part} (hl:joks l) (hr:joks r):joks (l++r):=by
 induction l with
 | nil=>exact hr
 | cons p l ih=>rw [List.cons_append,joks];rw [joks] at hl;exact ⟨hl.1,ih hl.2⟩
theorem joks_lf (ts:List Tok):joks (ts.map lf):=by
 induction ts with
 | nil=>rw [List.map_nil,joks];trivial
 | cons t ts ih=>rw [List.map_cons,joks,lf,jok];exact ⟨trivial,ih⟩
def Jn (f:R):Prop:=∀ ts,joks (f ts).1
theorem Jn.andThen {f g:R} (hf:Jn f) (hg:Jn g):Jn (X.andThen f g):=fun ts=>joks_append (hf ts) (hg (f ts).2)
theorem joks_one {k:Nat} {ps:List Part} (hk:k≠1∧k≠5) (h:joks ps):joks [.br k ps]:=by rw [joks,joks,jok];exact ⟨⟨⟨hk.1,fun e=>absurd e hk.2⟩,h⟩,trivial⟩
theorem Jn.node {f:R} (h:Jn f) {k:Nat} (hk:k≠1∧k≠5):Jn (X.node k f):=fun ts=>joks_one hk (h ts)
theorem Jn.nil:Jn (fun ts=>([],ts)):=fun ts=>by show joks [];rw [joks];trivial
theorem Jn.miss (m:List UInt8):Jn (fun ts=>([.miss m],ts)):=fun ts=>by show joks [.miss m];rw [joks,joks,jok];exact ⟨trivial,trivial⟩
theorem Jn.ite {f g:R} {b:List Tok→Bool} (hf:Jn f) (hg:Jn g):Jn (fun ts=>if b ts then f ts else g ts):=by
 intro ts
 show joks (if b ts then f ts else g ts).1
 split
 ·exact hf ts
 ·exact hg ts
theorem Jn.take:Jn X.take:=fun _=>joks_lf _
theorem Jn.want (s:List UInt8):Jn (X.want s):=Jn.ite (b:=isN s) Jn.take (Jn.miss s)
theorem Jn.wname:Jn X.wname:=Jn.ite (b:=fun ts=>kindN ts==3) Jn.take (Jn.miss sName)
theorem Jn.sevGo {one:R} (h:Jn one):∀ n,Jn (X.sevGo one n)
 | 0=>Jn.nil
 | n+1=>Jn.ite (b:=isN [44]) (Jn.take.andThen (h.andThen (Jn.sevGo h n))) Jn.nil
theorem Jn.several {one:R} (h:Jn one) (e:List UInt8):Jn (X.several one e):=Jn.ite (b:=isN e) (Jn.want e) (h.andThen (Jn.andThen (f:=fun ts=>X.sevGo one ts.length ts) (fun ts=>Jn.sevGo h ts.length ts) (Jn.want e)))
theorem Jn.params:Jn X.params:=((Jn.want _).andThen (Jn.wname.several _)).node (by decide)
theorem rowGo_jn {one:R} {ok:List Tok→Bool} (h:Jn one):∀ (n:Nat) (p:List Part) (ts:List Tok),joks p→joks (rowGo one ok n p ts).1
 | 0,p,ts,hp=>hp
 | n+1,p,ts,hp=>by
  unfold X.rowGo
  split
  ·exact rowGo_jn h n _ _ (joks_one (by decide) (joks_append hp ((Jn.take.andThen h) ts)))
  ·exact hp
theorem Jn.row {one:R} {ok:List Tok→Bool} (h:Jn one):Jn (X.row one ok):=fun ts=>rowGo_jn h _ _ _ (h ts)
theorem Jn.args {E:R} (h:Jn E):Jn (X.args E):=(Jn.take.andThen (h.several _)).node (by decide)
theorem callGo_jn {E:R} (h:Jn E):∀ (n:Nat) (p:List Part) (ts:List Tok),joks p→joks (callGo E n p ts).1
 | 0,p,ts,hp=>hp
 | n+1,p,ts,hp=>by
  unfold X.callGo
  split
  ·exact callGo_jn h n _ _ (joks_one (by decide) (joks_append hp (h.args ts)))
  ·exact hp
theorem Jn.part {E:R} (h:Jn E):Jn (X.part E) :=
 Jn.ite (b:=fun ts=>kindN ts==5) (Jn.take.node (by decide)) <|
 Jn.ite (b:=fun ts=>kindN ts==6) (Jn.take.node (by decide)) <|
 Jn.ite (b:=fun ts=>isN [116,114,117,101] ts||isN [102,97,108,115,101] ts) (Jn.take.node (by decide)) <|
 Jn.ite (b:=fun ts=>kindN ts==3) (Jn.take.node (by decide)) <|
 Jn.ite (b:=isN [63]) (Jn.take.node (by decide)) <|
 Jn.ite (b:=isN [40]) ((Jn.take.andThen (h.andThen (Jn.want _))).node (by decide)) <|
 Jn.ite (b:=isN [91]) ((Jn.take.andThen (h.several _)).node (by decide)) (Jn.miss _)
theorem Jn.call {E:R} (h:Jn E):Jn (X.call E):=fun ts=>callGo_jn h _ _ _ (h.part ts)
theorem Jn.product {E:R} (h:Jn E):Jn (X.product E):=h.call.row
theorem Jn.sum {E:R} (h:Jn E):Jn (X.sum E):=h.product.row
theorem Jn.comparison {E:R} (h:Jn E):Jn (X.comparison E):=by
 intro ts
 have h0:=h.sum
 cases hc:(isN [61,61] (X.sum E ts).2||isN [60] (X.sum E ts).2) with
 | true =>
  have e0:=comparison_yes hc
  rw [e0]
  clear e0 h hc
  revert h0
  generalize X.sum E=F
  intro h0
  exact joks_one (by decide) (joks_append (h0 ts) (joks_append (joks_lf _) (h0 _)))
 | false=>rw [comparison_no hc];exact h0 ts
theorem Jn.expr:∀ n,Jn (X.expr n)
 | 0=>Jn.miss _
 | n+1 =>
  have h:Jn (X.expr n):=Jn.expr n
  Jn.ite (b:=isN [108,101,116]) ((Jn.take.andThen (Jn.wname.andThen ((Jn.want _).andThen (h.andThen ((Jn.want _).andThen h))))).node (by decide)) <|
  Jn.ite (b:=isN [105,102]) ((Jn.take.andThen (h.andThen ((Jn.want _).andThen (h.andThen ((Jn.want _).andThen h))))).node (by decide)) <|
  Jn.ite (b:=isN [102,117,110]) ((Jn.take.andThen (Jn.params.andThen ((Jn.want _).andThen h))).node (by decide)) h.comparison
theorem Jn.optPub:Jn X.optPub:=Jn.ite (b:=isN sPub) Jn.take Jn.nil
theorem Jn.useR:Jn X.useR:=(Jn.want _).andThen (Jn.wname.andThen ((Jn.want _).andThen (Jn.wname.andThen ((Jn.ite (b:=isN [97,115]) (Jn.take.andThen Jn.wname) Jn.nil).andThen (Jn.want _)))))
theorem Jn.defR:Jn X.defR:=(Jn.want _).andThen (Jn.wname.andThen ((Jn.ite (b:=isN [40]) Jn.params Jn.nil).andThen ((Jn.want _).andThen ((Jn.expr 65).andThen (Jn.want _)))))
theorem take_junky {ts:List Tok} (h:nxt ts≠none):Junky (take ts).1:=by
 unfold nxt at h
 have hq:∃ t r,ts.dropWhile quiet=t::r:=by
  cases hd:ts.dropWhile quiet with
  | nil=>rw [hd] at h;exact absurd rfl h
  | cons t r=>exact ⟨t,r,rfl⟩
 obtain ⟨t,r,hd⟩:=hq
 have hnq:quiet t=false:=by
  have:=List.head?_dropWhile_not quiet ts
  rw [hd] at this
  simpa using this
 refine ⟨fun p hp=>?_,(ts.takeWhile quiet).map lf,t.1,t.2,?_,?_⟩
 ·obtain ⟨t',-,rfl⟩:=List.mem_map.1 hp
  rfl
 ·show List.map lf _=_
  rw [hd,List.map_append];rfl
 ·unfold quiet at hnq
  simpa using hnq
theorem Junky.append {l r:List Part} (hl:Junky l) (hr:Junky r):Junky (l++r):=by
 obtain ⟨l',k,x,e,hk⟩:=hr.2
 refine ⟨fun p hp=>?_,l++l',k,x,by rw [e,List.append_assoc],hk⟩
 rcases List.mem_append.1 hp with h|h
 ·exact hl.1 p h
 ·exact hr.1 p h
theorem junkGo_junky:∀ (n:Nat) (ts:List Tok),(junkGo n ts).1=[]∨Junky (junkGo n ts).1
 | 0,ts=>.inl rfl
 | n+1,ts=>by
  unfold junkGo
  by_cases h1:(kindN ts==0||starts ts)=true
  ·rw [if_pos h1];exact .inl rfl
  ·rw [if_neg h1]
   have hk:(kindN ts==0)=false:=by
    cases h:(kindN ts==0) with
    | false=>rfl
    | true=>rw [h] at h1;exact absurd rfl h1
   have hn:=kind_next hk
   by_cases h2:isN [59] ts=true
   ·rw [if_pos h2];exact .inr (take_junky hn)
   ·rw [if_neg h2]
    right
    show Junky ((take ts).1++(junkGo n (take ts).2).1)
    rcases junkGo_junky n (take ts).2 with e|e
    ·rw [e,List.append_nil];exact take_junky hn
    ·exact (take_junky hn).append e
theorem leaves_joks:∀ {ps:List Part},(∀ p∈ps,lv p=true)→joks ps
 | [],_=>by rw [joks];trivial
 | p::ps,h=>by
  rw [joks]
  refine ⟨?_,leaves_joks (fun q hq=>h q (List.mem_cons_of_mem _ hq))⟩
  have:=h p (List.mem_cons_self ..)
  cases p with
  | leaf k x=>rw [jok];trivial
  | miss m=>cases this
  | br k qs=>cases this
theorem kid_jok {ts:List Tok} (hk:(kindN ts==0)=false):jok (.br (kid ts).1 (kid ts).2.1):=by
 have hU:=Jn.optPub.andThen Jn.useR
 have hD:=Jn.optPub.andThen Jn.defR
 rw [kid_eq]
 revert hU hD
 generalize X.andThen optPub useR=U
 generalize X.andThen optPub defR=V
 intro hU hD
 by_cases hs:starts ts=true
 ·simp only [hs,if_true]
  split
  ·rw [jok];exact ⟨⟨fun e=>(by cases e),fun e=>(by cases e)⟩,hU ts⟩
  ·rw [jok];exact ⟨⟨fun e=>(by cases e),fun e=>(by cases e)⟩,hD ts⟩
 ·simp only [Bool.not_eq_true] at hs
  simp only [hs,Bool.false_eq_true,if_false]
  have hn:=kind_next hk
  have hj:Junky (junkL ts).1:=by
   rcases junkGo_junky ts.length ts with e|e
   ·exfalso
    have h2:junkL ts=if isN [59] ts then take ts else X.andThen take junkL ts:=junkL_yes (by rw [hk,hs];rfl)
    have h3:(take ts).1≠[]:=by
     obtain ⟨-,l,k,x,e',-⟩:=take_junky hn
     rw [e'];simp
    have h4:(junkL ts).1=[]:=e
    rw [h2] at h4
    split at h4
    ·exact h3 h4
    ·have:(take ts).1++(junkL (take ts).2).1=[]:=h4
     exact h3 (List.append_eq_nil_iff.1 this).1
   ·exact e
  rw [jok]
  exact ⟨⟨by decide,fun _=>hj⟩,leaves_joks hj.1⟩
end X
end Go.Proofs.YtbmebfgapjhchaaGreatDoor
