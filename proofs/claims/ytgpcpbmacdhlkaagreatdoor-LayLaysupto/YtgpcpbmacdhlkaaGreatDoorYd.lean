/- Plain mathematics: how many parts the tree of a text has,and of what kinds they are. -/
import Derived.Test.YtgpcpbmacdhlkaaGreatDoorXz
import Derived.Test.YtgpcpbmacdhlkaaGreatDoorKa
import Derived.Test.YtgpcpbmacdhlkaaGreatDoorXo
namespace Go.Proofs.YtgpcpbmacdhlkaaGreatDoor
open M
namespace X
mutual
def kok:Part→Prop
 | .leaf _ _=>True
 | .miss _=>True
 | .br k ps=>k≠0∧koks ps
def koks:List Part→Prop
 | []=>True
 | p::ps=>kok p∧koks ps
end
theorem koks_mem:∀ (ps:List Part) (i:Nat) (p:Part),koks ps→ps[i]?=some p→kok p
 | [],i,p,_,h=>by simp at h
 | q::ps,0,p,hk,h=>by
  obtain rfl:q=p:=by simpa using h
  exact hk.1
 | q::ps,i+1,p,hk,h=>koks_mem ps i p hk.2 (by simpa using h)
theorem pssz_append (l r:List Part):pssz (l++r)=pssz l+pssz r:=by
 induction l with
 | nil=>simp [pssz]
 | cons p l ih=>rw [List.cons_append,pssz,ih,pssz];omega
theorem koks_append {l r:List Part} (hl:koks l) (hr:koks r):koks (l++r):=by
 induction l with
 | nil=>exact hr
 | cons p l ih=>rw [List.cons_append,koks];rw [koks] at hl;exact ⟨hl.1,ih hl.2⟩
theorem pssz_lf (ts:List Tok):pssz (ts.map lf)=ts.length:=by
 induction ts with
 | nil=>rfl
 | cons t ts ih=>rw [List.map_cons,pssz,ih,lf,psz,List.length_cons];omega
theorem koks_lf (ts:List Tok):koks (ts.map lf):=by
 induction ts with
 | nil=>rw [List.map_nil,koks];trivial
 | cons t ts ih=>rw [List.map_cons,koks,lf,kok];exact ⟨trivial,ih⟩
def At (f:R) (c:Nat) (ts:List Tok):Prop:=koks (f ts).1∧pssz (f ts).1+7*(f ts).2.length≤c+7*ts.length
def Sz (f:R) (c:Nat):Prop:=∀ ts,At f c ts
theorem At.mono {f:R} {c d:Nat} {ts:List Tok} (h:At f c ts) (hd:c≤d):At f d ts:=⟨h.1,by have:=h.2;omega⟩
theorem Sz.mono {f:R} {c d:Nat} (h:Sz f c) (hd:c≤d):Sz f d:=fun ts=>(h ts).mono hd
theorem At.andThen {f g:R} {c d:Nat} {ts:List Tok} (hf:At f c ts) (hg:Sz g d):At (andThen f g) (c+d) ts:=by
 have h2:=hg (f ts).2
 refine ⟨koks_append hf.1 h2.1,?_⟩
 have e1:=hf.2
 have e2:=h2.2
 show pssz ((f ts).1++(g (f ts).2).1)+7*(g (f ts).2).2.length≤_
 rw [pssz_append];omega
theorem Sz.andThen {f g:R} {c d:Nat} (hf:Sz f c) (hg:Sz g d):Sz (andThen f g) (c+d):=fun ts=>(hf ts).andThen hg
theorem At.node {f:R} {c:Nat} {ts:List Tok} (h:At f c ts) {k:Nat} (hk:k≠0):At (node k f) (c+1) ts:=by
 refine ⟨by show koks [.br k (f ts).1];rw [koks,koks,kok];exact ⟨⟨hk,h.1⟩,trivial⟩,?_⟩
 have:=h.2
 show pssz [.br k (f ts).1]+7*(f ts).2.length≤_
 rw [pssz,pssz,psz];omega
theorem Sz.nil:Sz (fun ts=>([],ts)) 0:=fun ts=>⟨by show koks [];rw [koks];trivial,by show pssz []+7*ts.length≤_;rw [pssz];omega⟩
theorem Sz.miss (m:List UInt8):Sz (fun ts=>([.miss m],ts)) 1:=fun ts=>⟨by show koks [.miss m];rw [koks,koks,kok];exact ⟨trivial,trivial⟩,by show pssz [.miss m]+7*ts.length≤_;rw [pssz,pssz,psz];omega⟩
theorem At.ite {f g:R} {c:Nat} {b:List Tok→Bool} {ts:List Tok} (hf:b ts=true→At f c ts) (hg:b ts=false→At g c ts):At (fun ts=>if b ts then f ts else g ts) c ts:=by
 unfold At at *
 by_cases h:b ts=true
 ·simp only [h,if_true];exact hf h
 ·simp only [Bool.not_eq_true] at h;simp only [h,Bool.false_eq_true,if_false];exact hg h
theorem Sz.ite {f g:R} {c:Nat} {b:List Tok→Bool} (hf:Sz f c) (hg:Sz g c):Sz (fun ts=>if b ts then f ts else g ts) c:=fun ts=>At.ite (fun _=>hf ts) (fun _=>hg ts)
theorem take_sz (ts:List Tok):pssz (take ts).1=(take ts).1.length:=by
 show pssz (List.map lf _)=(List.map lf _).length
 rw [pssz_lf,List.length_map]
theorem take_ok (ts:List Tok):koks (take ts).1:=koks_lf _
theorem Sz.take:Sz take 0:=fun ts=>⟨take_ok ts,by have:=take_len ts;rw [take_sz];omega⟩
theorem At.tk {g:R} {c e:Nat} {ts:List Tok} (hn:nxt ts≠none) (hg:Sz g c) (he:c≤6+e):At (X.andThen X.take g) e ts:=by
 have h2:=hg (X.take ts).2
 refine ⟨koks_append (take_ok ts) h2.1,?_⟩
 have e2:=h2.2
 have l1:=take_len ts
 have l2:=take_lt hn
 show pssz ((X.take ts).1++(g (X.take ts).2).1)+7*(g (X.take ts).2).2.length≤_
 rw [pssz_append,take_sz];omega
theorem At.tk1 {ts:List Tok} (hn:nxt ts≠none) {k:Nat} (hk:k≠0):At (X.node k X.take) 0 ts:=by
 refine ⟨by show koks [.br k (X.take ts).1];rw [koks,koks,kok];exact ⟨⟨hk,take_ok ts⟩,trivial⟩,?_⟩
 have l1:=take_len ts
 have l2:=take_lt hn
 show pssz [.br k (X.take ts).1]+7*(X.take ts).2.length≤_
 rw [pssz,pssz,psz,take_sz];omega
theorem At.tkn {g:R} {c e:Nat} {ts:List Tok} (hn:nxt ts≠none) (hg:Sz g c) (he:c≤5+e) {k:Nat} (hk:k≠0):At (X.node k (X.andThen X.take g)) e ts:=by
 have h2:=hg (X.take ts).2
 refine ⟨by show koks [.br k _];rw [koks,koks,kok];exact ⟨⟨hk,koks_append (take_ok ts) h2.1⟩,trivial⟩,?_⟩
 have e2:=h2.2
 have l1:=take_len ts
 have l2:=take_lt hn
 show pssz [.br k ((X.take ts).1++(g (X.take ts).2).1)]+7*(g (X.take ts).2).2.length≤_
 rw [pssz,pssz,psz,pssz_append,take_sz];omega
theorem Sz.want (s:List UInt8):Sz (want s) 1:=Sz.ite (b:=isN s) (Sz.take.mono (by omega)) (Sz.miss s)
theorem Sz.wname:Sz wname 1:=Sz.ite (b:=fun ts=>kindN ts==3) (Sz.take.mono (by omega)) (Sz.miss sName)
theorem Sz.sevGo {one:R} (h:Sz one 1):∀ n,Sz (sevGo one n) 0
 | 0=>Sz.nil
 | n+1=>fun ts=>At.ite (b:=isN [44]) (fun hc=>At.tk (isN_next hc) (h.andThen (Sz.sevGo h n)) (by omega)) (fun _=>Sz.nil ts)
theorem Sz.several {one:R} (h:Sz one 1) (e:List UInt8):Sz (several one e) 2 :=
 Sz.ite (b:=isN e) ((Sz.want e).mono (by omega)) (h.andThen (Sz.andThen (c:=0) (fun ts=>Sz.sevGo h ts.length ts) (Sz.want e)))
theorem Sz.params:Sz params 4:=fun ts=>At.node (c:=3) (((Sz.want [40]).andThen (Sz.wname.several [41])) ts) (by decide)
theorem rowGo_sz {one:R} {ok:List Tok→Bool} (h:Sz one 1) (hok:∀ ts,ok ts=true→nxt ts≠none):∀ (n:Nat) (p:List Part) (ts:List Tok),koks p→koks (rowGo one ok n p ts).1∧pssz (rowGo one ok n p ts).1+7*(rowGo one ok n p ts).2.length≤pssz p+7*ts.length
 | 0,p,ts,hp=>⟨hp,Nat.le_refl _⟩
 | n+1,p,ts,hp=>by
  unfold X.rowGo
  by_cases hc:ok ts=true
  ·rw [if_pos hc]
   have h1:=At.tk (e:=0) (hok ts hc) h (by omega)
   have l0:(X.andThen X.take one ts).1=(X.take ts).1++(one (X.take ts).2).1:=rfl
   have h2:=rowGo_sz h hok n [.br 10 (p++(X.andThen X.take one ts).1)] (X.andThen X.take one ts).2 (by rw [koks,koks,kok];exact ⟨⟨by decide,koks_append hp h1.1⟩,trivial⟩)
   refine ⟨h2.1,?_⟩
   have e2:=h2.2
   have e3:=h (X.take ts).2
   have e4:=e3.2
   have l1:=take_len ts
   have l2:=take_lt (hok ts hc)
   have l5:pssz [.br 10 (p++(X.andThen X.take one ts).1)]=1+(pssz p+((X.take ts).1.length+pssz (one (X.take ts).2).1))+0:=by
    rw [pssz,pssz,psz,pssz_append,l0,pssz_append,take_sz]
   have l3:(X.andThen X.take one ts).2.length=(one (X.take ts).2).2.length:=rfl
   rw [l5,l3] at e2
   omega
  ·rw [if_neg hc];exact ⟨hp,Nat.le_refl _⟩
theorem Sz.row {one:R} {ok:List Tok→Bool} (h:Sz one 1) (hok:∀ ts,ok ts=true→nxt ts≠none):Sz (row one ok) 1:=by
 intro ts
 have h1:=h ts
 have h2:=rowGo_sz h hok (one ts).2.length (one ts).1 (one ts).2 h1.1
 refine ⟨h2.1,?_⟩
 have e1:=h1.2
 have e2:=h2.2
 show pssz (X.rowGo one ok (one ts).2.length (one ts).1 (one ts).2).1+7*(X.rowGo one ok (one ts).2.length (one ts).1 (one ts).2).2.length≤_
 omega
theorem args_sz {E:R} (h:Sz E 1) {ts:List Tok} (hn:nxt ts≠none):koks (args E ts).1∧pssz (args E ts).1+1+7*(args E ts).2.length≤7*ts.length:=by
 have h2:=(h.several [41]) (X.take ts).2
 have l1:=take_len ts
 have l2:=take_lt hn
 have e2:=h2.2
 refine ⟨(At.tkn (k:=12) (e:=0) hn (h.several [41]) (by omega) (by decide)).1,?_⟩
 show pssz [.br 12 ((X.take ts).1++(X.several E [41] (X.take ts).2).1)]+1+7*(X.several E [41] (X.take ts).2).2.length≤_
 rw [pssz,pssz,psz,pssz_append,take_sz];omega
theorem callGo_sz {E:R} (h:Sz E 1):∀ (n:Nat) (p:List Part) (ts:List Tok),koks p→koks (callGo E n p ts).1∧pssz (callGo E n p ts).1+7*(callGo E n p ts).2.length≤pssz p+7*ts.length
 | 0,p,ts,hp=>⟨hp,Nat.le_refl _⟩
 | n+1,p,ts,hp=>by
  unfold X.callGo
  by_cases hc:isN [40] ts=true
  ·rw [if_pos hc]
   have h1:=args_sz h (isN_next hc)
   have h2:=callGo_sz h n [.br 11 (p++(X.args E ts).1)] (X.args E ts).2 (by rw [koks,koks,kok];exact ⟨⟨by decide,koks_append hp h1.1⟩,trivial⟩)
   refine ⟨h2.1,?_⟩
   have e1:=h1.2
   have e2:=h2.2
   rw [pssz,pssz,psz,pssz_append] at e2
   omega
  ·rw [if_neg hc];exact ⟨hp,Nat.le_refl _⟩
theorem Sz.part {E:R} (h:Sz E 1):Sz (part E) 1:=fun ts =>
 At.ite (b:=fun ts=>kindN ts==5) (fun hc=>(At.tk1 (kindN_next (by decide) hc) (by decide)).mono (by omega)) fun _ =>
 At.ite (b:=fun ts=>kindN ts==6) (fun hc=>(At.tk1 (kindN_next (by decide) hc) (by decide)).mono (by omega)) fun _ =>
 At.ite (b:=fun ts=>isN [116,114,117,101] ts||isN [102,97,108,115,101] ts) (fun hc=>(At.tk1 (by rcases (Bool.or_eq_true _ _).mp hc with h|h<;>exact isN_next h) (by decide)).mono (by omega)) fun _ =>
 At.ite (b:=fun ts=>kindN ts==3) (fun hc=>(At.tk1 (kindN_next (by decide) hc) (by decide)).mono (by omega)) fun _ =>
 At.ite (b:=isN [63]) (fun hc=>(At.tk1 (isN_next hc) (by decide)).mono (by omega)) fun _ =>
 At.ite (b:=isN [40]) (fun hc=>At.tkn (isN_next hc) (h.andThen (Sz.want [41])) (by omega) (by decide)) fun _ =>
 At.ite (b:=isN [91]) (fun hc=>At.tkn (isN_next hc) (h.several [93]) (by omega) (by decide)) fun _=>Sz.miss _ ts
theorem Sz.call {E:R} (h:Sz E 1):Sz (call E) 1:=by
 intro ts
 have h1:=Sz.part h ts
 have h2:=callGo_sz h (X.part E ts).2.length (X.part E ts).1 (X.part E ts).2 h1.1
 refine ⟨h2.1,?_⟩
 have e1:=h1.2
 have e2:=h2.2
 show pssz (X.callGo E (X.part E ts).2.length (X.part E ts).1 (X.part E ts).2).1+7*(X.callGo E (X.part E ts).2.length (X.part E ts).1 (X.part E ts).2).2.length≤_
 omega
theorem Sz.product {E:R} (h:Sz E 1):Sz (product E) 1:=h.call.row (fun _ hc=>isN_next hc)
theorem Sz.sum {E:R} (h:Sz E 1):Sz (sum E) 1:=h.product.row (fun _ hc=>by
 rcases (Bool.or_eq_true _ _).mp hc with h|h
 ·rcases (Bool.or_eq_true _ _).mp h with h|h<;>exact isN_next h
 ·exact isN_next h)
theorem comparison_yes {E:R} {ts:List Tok} (hc:(isN [61,61] (sum E ts).2||isN [60] (sum E ts).2)=true):comparison E ts=([.br 10 ((sum E ts).1++((take (sum E ts).2).1++(sum E (take (sum E ts).2).2).1))],(sum E (take (sum E ts).2).2).2):=by
 simp only [comparison,hc,if_true,andThen]
theorem comparison_no {E:R} {ts:List Tok} (hc:(isN [61,61] (sum E ts).2||isN [60] (sum E ts).2)=false):comparison E ts=sum E ts:=by
 simp only [comparison,hc,Bool.false_eq_true,if_false]
theorem Sz.comparison {E:R} (h:Sz E 1):Sz (comparison E) 1:=by
 intro ts
 have h0:=h.sum
 have h1:=h0 ts
 cases hc:(isN [61,61] (X.sum E ts).2||isN [60] (X.sum E ts).2) with
 | true =>
  have hn:nxt (X.sum E ts).2≠none:=by rcases (Bool.or_eq_true _ _).mp hc with h|h<;>exact isN_next h
  have e0:=comparison_yes hc
  unfold At
  rw [e0]
  clear e0 h hc
  revert h0 h1 hn
  generalize X.sum E=F
  intro h0 h1 hn
  have e3:=h0 (X.take (F ts).2).2
  have l1:=take_len (F ts).2
  have l2:=take_lt hn
  have e1:=h1.2
  have e4:=e3.2
  have k1:=h1.1
  have k2:=e3.1
  refine ⟨?_,?_⟩
  ·rw [koks,koks,kok];exact ⟨⟨by decide,koks_append k1 (koks_append (take_ok _) k2)⟩,trivial⟩
  ·rw [pssz,pssz,psz,pssz_append,pssz_append,take_sz]
   simp only
   omega
 | false =>
  unfold At
  rw [comparison_no hc];exact h1
theorem Sz.expr:∀ n,Sz (expr n) 1
 | 0=>Sz.miss _
 | n+1=>fun ts =>
  have h:Sz (X.expr n) 1:=Sz.expr n
  At.ite (b:=isN [108,101,116]) (fun hc=>At.tkn (isN_next hc) (Sz.wname.andThen ((Sz.want [61]).andThen (h.andThen ((Sz.want [105,110]).andThen h)))) (by omega) (by decide)) fun _ =>
  At.ite (b:=isN [105,102]) (fun hc=>At.tkn (isN_next hc) (h.andThen ((Sz.want [116,104,101,110]).andThen (h.andThen ((Sz.want [101,108,115,101]).andThen h)))) (by omega) (by decide)) fun _ =>
  At.ite (b:=isN [102,117,110]) (fun hc=>At.tkn (isN_next hc) (Sz.params.andThen ((Sz.want [61,62]).andThen h)) (by omega) (by decide)) fun _=>h.comparison ts
theorem Sz.junkGo:∀ n,Sz (junkGo n) 0
 | 0=>Sz.nil
 | n+1=>Sz.ite (b:=fun ts=>kindN ts==0||starts ts) Sz.nil (Sz.ite (b:=isN [59]) Sz.take (Sz.take.andThen (Sz.junkGo n)))
theorem Sz.useTail:Sz (X.andThen X.wname (X.andThen (X.want [46]) (X.andThen X.wname (X.andThen (fun ts=>_root_.ite (isN [97,115] ts=true) (X.andThen X.take X.wname ts) ([],ts)) (X.want [59]))))) 4 :=
 Sz.wname.andThen ((Sz.want _).andThen (Sz.wname.andThen (Sz.andThen (c:=0) (fun ts=>At.ite (b:=isN [97,115]) (fun hc=>At.tk (isN_next hc) Sz.wname (by omega)) (fun _=>Sz.nil ts)) (Sz.want _))))
theorem Sz.optParams:Sz (fun ts=>_root_.ite (isN [40] ts=true) (X.params ts) ([],ts)) 0:=fun ts=>At.ite (b:=isN [40]) (fun hc=>by
  have e:X.params ts=X.node 6 (X.andThen X.take (X.several X.wname [41])) ts:=by
   unfold X.params X.node X.andThen X.want;simp only [hc,if_true]
  have:=At.tkn (k:=6) (e:=0) (isN_next hc) (Sz.wname.several [41]) (by omega) (by decide)
  unfold At at this ⊢
  rw [e];exact this) (fun _=>Sz.nil ts)
theorem Sz.defTail:Sz (X.andThen X.wname (X.andThen (fun ts=>_root_.ite (isN [40] ts=true) (X.params ts) ([],ts)) (X.andThen (X.want [61]) (X.andThen (X.expr 65) (X.want [59]))))) 4 :=
 Sz.wname.andThen (Sz.optParams.andThen ((Sz.want _).andThen ((Sz.expr 65).andThen (Sz.want _))))
theorem Sz.useAll:Sz useR 5:=by unfold useR;exact (Sz.want sUse).andThen Sz.useTail
theorem Sz.defAll:Sz defR 5:=by unfold defR;exact (Sz.want sDef).andThen Sz.defTail
theorem want_take {s:List UInt8} {ts:List Tok} (h:isN s ts=true):X.want s ts=X.take ts:=by unfold X.want;rw [if_pos h]
theorem tk_sz {G:R} {c:Nat} {ts:List Tok} (hG:Sz G c) (hc:c≤5) (hn:nxt ts≠none):koks (andThen take G ts).1∧1+pssz (andThen take G ts).1+7*(andThen take G ts).2.length≤7*ts.length:=by
 have h2:=hG (take ts).2
 have e2:=h2.2
 have l1:=take_len ts
 have l2:=take_lt hn
 refine ⟨koks_append (take_ok ts) h2.1,?_⟩
 show 1+pssz ((take ts).1++(G (take ts).2).1)+7*(G (take ts).2).2.length≤_
 rw [pssz_append,take_sz];omega
theorem opt_take {ts:List Tok} (h:isN sPub ts=true) (F:R):andThen optPub F ts=andThen take F ts:=by simp only [andThen,optPub,h,if_true]
theorem opt_nil {ts:List Tok} (h:isN sPub ts=false) (F:R):andThen optPub F ts=F ts:=by simp only [andThen,optPub,h,Bool.false_eq_true,if_false,List.nil_append]
theorem want_then {x:List UInt8} {ts:List Tok} (h:isN x ts=true) (G:R):andThen (want x) G ts=andThen take G ts:=by
 have e:=want_take h
 show ((want x ts).1++(G (want x ts).2).1,(G (want x ts).2).2)=((take ts).1++(G (take ts).2).1,(G (take ts).2).2)
 rw [e]
theorem use_tk {ts:List Tok} (h:isN sUse ts=true):∃ G,Sz G 4∧useR ts=andThen take G ts:=⟨_,Sz.useTail,want_then h _⟩
theorem def_tk {ts:List Tok} (h:isN sDef ts=true):∃ G,Sz G 4∧defR ts=andThen take G ts:=⟨_,Sz.defTail,want_then h _⟩
theorem kid_sz {ts:List Tok} (hk:(kindN ts==0)=false):(kid ts).1≠0∧koks (kid ts).2.1∧1+pssz (kid ts).2.1+7*(kid ts).2.2.length≤7*ts.length:=by
 have hU:=Sz.useAll
 have hD:=Sz.defAll
 have hu1:=@use_tk ts
 have hd1:=@def_tk ts
 rw [kid_eq]
 revert hU hD hu1 hd1
 generalize useR=U
 generalize defR=V
 intro hU hD hu1 hd1
 by_cases hs:starts ts=true
 ·simp only [hs,if_true]
  by_cases hp:isN sPub ts=true
  ·have hn:=isN_next hp
   have eP:=opt_take hp
   cases hu:isN sUse (optPub ts).2 with
   | true=>simp only [if_true,eP];exact ⟨by decide,tk_sz hU (by omega) hn⟩
   | false=>simp only [Bool.false_eq_true,if_false,eP];exact ⟨by decide,tk_sz hD (by omega) hn⟩
  ·have hp':isN sPub ts=false:=by simpa using hp
   have eP:=opt_nil hp'
   have e0:(optPub ts).2=ts:=by unfold optPub;rw [if_neg hp]
   rw [e0]
   cases hu:isN sUse ts with
   | true =>
    obtain ⟨G,g1,g2⟩:=hu1 hu
    simp only [if_true,eP,g2]
    exact ⟨by decide,tk_sz g1 (by omega) (isN_next hu)⟩
   | false =>
    have hd:isN sDef ts=true:=by
     unfold starts at hs
     rw [hu,hp'] at hs
     simpa using hs
    obtain ⟨G,g1,g2⟩:=hd1 hd
    simp only [Bool.false_eq_true,if_false,eP,g2]
    exact ⟨by decide,tk_sz g1 (by omega) (isN_next hd)⟩
 ·simp only [Bool.not_eq_true] at hs
  simp only [hs,Bool.false_eq_true,if_false]
  have e:junkL ts=if isN [59] ts then take ts else andThen take junkL ts:=junkL_yes (by rw [hk,hs];rfl)
  have hn:=kind_next hk
  refine ⟨by decide,?_⟩
  rw [e]
  have l1:=take_len ts
  have l2:=take_lt hn
  have hJ:Sz junkL 0:=fun ts=>Sz.junkGo ts.length ts
  split
  ·exact ⟨take_ok ts,by rw [take_sz];omega⟩
  ·exact tk_sz hJ (by omega) hn
theorem fileGo_sz:∀ (n:Nat) (ts:List Tok),koks (fileGo n ts)∧pssz (fileGo n ts)≤7*ts.length
 | 0,ts=>⟨koks_lf ts,by show pssz (ts.map lf)≤_;rw [pssz_lf];omega⟩
 | n+1,ts=>by
  unfold fileGo
  by_cases hk:(kindN ts==0)=true
  ·rw [if_pos hk];exact ⟨koks_lf ts,by rw [pssz_lf];omega⟩
  ·rw [if_neg hk]
   simp only [Bool.not_eq_true] at hk
   obtain ⟨k1,k2,k3⟩:=kid_sz hk
   have ih:=fileGo_sz n (kid ts).2.2
   have e2:=ih.2
   exact ⟨by rw [koks,kok];exact ⟨⟨k1,k2⟩,ih.1⟩,by rw [pssz,psz];omega⟩
theorem file_kok (ts:List Tok):kok (file ts):=by rw [file,kok];exact ⟨by decide,(fileGo_sz _ ts).1⟩
theorem file_psz (ts:List Tok):psz (file ts)≤1+7*ts.length:=by rw [file,psz];have:=(fileGo_sz ts.length ts).2;omega
end X
end Go.Proofs.YtgpcpbmacdhlkaaGreatDoor
/- Plain mathematics: a kid of the root hangs on its tokens and the next one. -/
namespace Go.Proofs.YtgpcpbmacdhlkaaGreatDoor
open M
namespace X
end X
end Go.Proofs.YtgpcpbmacdhlkaaGreatDoor
/- Plain mathematics: the kids of a root and their tokens;a text in which a piece is replaced. -/
namespace Go.Proofs.YtgpcpbmacdhlkaaGreatDoor
open M
namespace X
end X
end Go.Proofs.YtgpcpbmacdhlkaaGreatDoor
/- Plain mathematics: what a tree says,without spaces,remarks and signs: expressions. -/
namespace Go.Proofs.YtgpcpbmacdhlkaaGreatDoor
open M
namespace X
def lq:Part→Bool
 | .leaf k _=>k==1||k==2
 | _=>false
def pz (ps:List Part):Nat:=(psb ps).length
theorem pz_app (l r:List Part):pz (l++r)=pz l+pz r:=by unfold pz;rw [psb_append,List.length_append]
theorem pz_nil:pz []=0:=rfl
theorem pz_cons (p:Part) (ps:List Part):pz (p::ps)=pz [p]+pz ps:=pz_app [p] ps
theorem lq_leaf {q:Part} (h:lq q=true):∃ k x,q=.leaf k x∧(k=1∨k=2):=by
 cases q with
 | leaf k x=>exact ⟨k,x,rfl,by simpa [lq] using h⟩
 | miss m=>cases h
 | br k ps=>cases h
end X
end Go.Proofs.YtgpcpbmacdhlkaaGreatDoor
/- The document's Put: where nodes stand. -/
namespace Go.Proofs.YtgpcpbmacdhlkaaGreatDoor
open Go.RowKit
open M
namespace X
def Q.k:Q→Nat|.mk k _ _ _ _ _ _ _ _=>k
def Q.t:Q→Nat|.mk _ t _ _ _ _ _ _ _=>t
def Q.x:Q→List UInt8|.mk _ _ x _ _ _ _ _ _=>x
def Q.en:Q→Int|.mk _ _ _ _ _ e _ _ _=>e
def Q.fr:Q→Int|.mk _ _ _ _ _ _ f _ _=>f
def Q.tt:Q→Int|.mk _ _ _ _ _ _ _ t _=>t
def Q.la:Q→Bool|.mk _ _ _ _ _ _ _ _ l=>l
mutual
def put:Part→Int→Q
 | .leaf k x,i=>.mk 0 k x [] i (i+x.length) (if k=1∨k=2 then -1 else i) (if k=1∨k=2 then -1 else i+x.length) false
 | .miss m,i=>.mk 1 0 m [] i i (-1) (-1) true
 | .br k ps,i=>.mk k 0 [] (puts ps i (-1) (-1) (k==1)).1 i (puts ps i (-1) (-1) (k==1)).2.1 (puts ps i (-1) (-1) (k==1)).2.2.1 (puts ps i (-1) (-1) (k==1)).2.2.2.1 (puts ps i (-1) (-1) (k==1)).2.2.2.2
def puts:List Part→Int→Int→Int→Bool→List Q × Int × Int × Int × Bool
 | [],i,f,t,l=>([],i,f,t,l)
 | p::ps,i,f,t,l=>(put p i::(puts ps (put p i).en (if f<0 then (put p i).fr else f) (if (put p i).tt>t then (put p i).tt else t) (l||(put p i).la)).1,(puts ps (put p i).en (if f<0 then (put p i).fr else f) (if (put p i).tt>t then (put p i).tt else t) (l||(put p i).la)).2)
end
mutual
theorem put_en:∀ (p:Part) (i:Int),(put p i).en=i+(pb p).length
 | .leaf k x,i=>by rw [put,pb];rfl
 | .miss m,i=>by rw [put,pb];simp [Q.en]
 | .br k ps,i=>by rw [put,pb];exact puts_en ps i _ _ _
theorem puts_en:∀ (ps:List Part) (i f t:Int) (l:Bool),(puts ps i f t l).2.1=i+(psb ps).length
 | [],i,f,t,l=>by rw [puts,psb];simp
 | p::ps,i,f,t,l=>by
  rw [puts,psb]
  show (puts ps _ _ _ _).2.1=_
  rw [puts_en ps,put_en p,List.length_append];omega
end
theorem puts_step {ps:List Part} {j:Nat} {p:Part} (h:ps[j]?=some p) (i f t:Int) (l:Bool):puts (ps.drop j) i f t l=(put p i::(puts (ps.drop (j+1)) (put p i).en (if f<0 then (put p i).fr else f) (if (put p i).tt>t then (put p i).tt else t) (l||(put p i).la)).1,(puts (ps.drop (j+1)) (put p i).en (if f<0 then (put p i).fr else f) (if (put p i).tt>t then (put p i).tt else t) (l||(put p i).la)).2):=by
 have hl:j<ps.length:=by
  rcases Nat.lt_or_ge j ps.length with g|g
  ·exact g
  ·rw [List.getElem?_eq_none g] at h;cases h
 have hd:ps.drop j=p::ps.drop (j+1):=by
  rw [List.drop_eq_getElem_cons hl];congr 1
  exact Option.some.inj ((List.getElem?_eq_getElem hl).symm.trans h)
 rw [hd,puts]
end X
def Nd (w:World) (N k t:Nat) (x:List UInt8) (rv:Value) (i en fr tt:Int) (la:Bool):Prop:=w.heap[N]?=some (mcell k t x rv i en fr tt la)
theorem Nd.facts {w:World} {N k t:Nat} {x:List UInt8} {rv:Value} {i en fr tt:Int} {la:Bool} (h:Nd w N k t x rv i en fr tt la) :
  (w.cell? ⟨N,0,none⟩=some (.int .i64 k)∧w.cell? ⟨N,1,none⟩=some (.int .i64 t)∧w.cell? ⟨N,2,none⟩=some (.string (ba x))∧w.cell? ⟨N,3,none⟩=some rv∧w.cell? ⟨N,4,none⟩=some (.int .i64 i)∧w.cell? ⟨N,5,none⟩=some (.int .i64 en)∧w.cell? ⟨N,6,none⟩=some (.int .i64 fr)∧w.cell? ⟨N,7,none⟩=some (.int .i64 tt)∧w.cell? ⟨N,8,none⟩=some (.bool la)) ∧
  (w.frozen? ⟨N,4,none⟩=false∧w.frozen? ⟨N,5,none⟩=false∧w.frozen? ⟨N,6,none⟩=false∧w.frozen? ⟨N,7,none⟩=false∧w.frozen? ⟨N,8,none⟩=false):=by
 unfold Nd mcell at h
 refine ⟨⟨?_,?_,?_,?_,?_,?_,?_,?_,?_⟩,?_,?_,?_,?_,?_⟩<;>simp [World.cell?,World.frozen?,h]
theorem Nd.set4 {w:World} {N k t:Nat} {x:List UInt8} {rv:Value} {i en fr tt:Int} {la:Bool} (h:Nd w N k t x rv i en fr tt la) (y:Int):Nd (w.setCell ⟨N,4,none⟩ (.int .i64 y)) N k t x rv y en fr tt la:=by
 unfold Nd mcell at h ⊢
 simp [World.setCell,Array.getElem?_modify,h]
theorem Nd.set5 {w:World} {N k t:Nat} {x:List UInt8} {rv:Value} {i en fr tt:Int} {la:Bool} (h:Nd w N k t x rv i en fr tt la) (y:Int):Nd (w.setCell ⟨N,5,none⟩ (.int .i64 y)) N k t x rv i y fr tt la:=by
 unfold Nd mcell at h ⊢
 simp [World.setCell,Array.getElem?_modify,h]
theorem Nd.set6 {w:World} {N k t:Nat} {x:List UInt8} {rv:Value} {i en fr tt:Int} {la:Bool} (h:Nd w N k t x rv i en fr tt la) (y:Int):Nd (w.setCell ⟨N,6,none⟩ (.int .i64 y)) N k t x rv i en y tt la:=by
 unfold Nd mcell at h ⊢
 simp [World.setCell,Array.getElem?_modify,h]
theorem Nd.set7 {w:World} {N k t:Nat} {x:List UInt8} {rv:Value} {i en fr tt:Int} {la:Bool} (h:Nd w N k t x rv i en fr tt la) (y:Int):Nd (w.setCell ⟨N,7,none⟩ (.int .i64 y)) N k t x rv i en fr y la:=by
 unfold Nd mcell at h ⊢
 simp [World.setCell,Array.getElem?_modify,h]
theorem Nd.set8 {w:World} {N k t:Nat} {x:List UInt8} {rv:Value} {i en fr tt:Int} {la:Bool} (h:Nd w N k t x rv i en fr tt la) (y:Bool):Nd (w.setCell ⟨N,8,none⟩ (.bool y)) N k t x rv i en fr tt y:=by
 unfold Nd mcell at h ⊢
 simp [World.setCell,Array.getElem?_modify,h]
theorem IsM.node {w:World} {lo hi:Nat} {v:Value} {q:X.Q} (h:IsM w lo hi v q):∃ (N:Nat) (rv:Value) (i:Int),v=.pointer (some ⟨N,0,none⟩)∧lo≤N∧N<hi∧Nd w N q.k q.t q.x rv i q.en q.fr q.tt q.la:=by
 cases h with
 | mk _ _ N k t x qs at0 en fr tt la ao cap vs L H hN hb=>exact ⟨N,_,at0,rfl,hN.1,hN.2,hb⟩
def PutOk (p:X.Part):Prop:=∀ (lo hi:Nat) (v:Value) (i:Nat) (w:World),IsM w lo hi v (X.raw p)→i+(X.pb p).length≤1073741824 →
 Calls Tryz.prog 47 #[v,.int .i64 i] w fun e w'=>e=.returned (.int .i64 ((i+(X.pb p).length:Nat):Int))∧Hid (IsM w' lo hi v (X.put p i)∧Kp (fun q=>lo≤q∧q<hi) w w')
theorem kn {w w':World} {lo hi N:Nat} (h:Kp (fun q=>q=N) w w') (h1:lo≤N) (h2:N<hi):Kp (fun q=>lo≤q∧q<hi) w w':=Kp.mono h (fun i _ e=>by subst e;exact ⟨h1,h2⟩)
set_option maxRecDepth 100000 in
set_option maxHeartbeats 1000000 in
theorem put_leaf (k:Nat) (x:List UInt8):PutOk (.leaf k x):=by
 intro lo hi v i w h hl
 rw [X.raw] at h
 cases h with
 | mk _ _ N _ _ _ qs at0 en fr tt la ao cap vs L H hN hb hc hr hs hp =>
 have HM:Hid (∀ (w':World) (en fr tt:Int),Nd w' N 0 k x (.slice ao 0 cap) i en fr tt false→IsM w' lo hi (.pointer (some ⟨N,0,none⟩)) (.mk 0 k x [] i en fr tt false)):=fun w' en fr tt h=>.mk lo hi N 0 k x [] i en fr tt false ao cap vs L H hN h hc (fun i hi=>by simp at hi) (fun i hi=>by simp at hi) (fun i q hq=>by simp at hq)
 have HB:Hid (Nd w N 0 k x (.slice ao 0 cap) 0 0 0 0 false):=hb
 rw [X.pb] at hl ⊢
 obtain ⟨⟨c0,c1,c2,c3,c4,c5,c6,c7,c8⟩,f4,f5,f6,f7,f8⟩:=(HB.out).facts
 have hbs:(ba x).size=x.length:=ba_size x
 have HN1:=hide hN.1
 have HN2:=hide hN.2
 clear hb hc hr hs hp hN
 have HK:Hid (∀ (w':World),Kp (fun q=>q=N) w w'→Kp (fun q=>lo≤q∧q<hi) w w'):=fun w' h=>kn h HN1.out HN2.out
 have HY:Hid ((k=1∨k=2)→∀ w',Nd w' N 0 k x (.slice ao 0 cap) i (i+x.length) (-1) (-1) false→IsM w' lo hi (.pointer (some ⟨N,0,none⟩)) (X.put (.leaf k x) i)):=fun hq w' h=>by
  rw [X.put,if_pos hq,if_pos hq];exact (HM.out) _ _ _ _ h
 have HZ:Hid (¬(k=1∨k=2)→∀ w',Nd w' N 0 k x (.slice ao 0 cap) i (i+x.length) i (i+x.length) false→IsM w' lo hi (.pointer (some ⟨N,0,none⟩)) (X.put (.leaf k x) i)):=fun hq w' h=>by
  rw [X.put,if_neg hq,if_neg hq];exact (HM.out) _ _ _ _ h
 clear HM
 have HR:Hid (∀ (w':World),(IsM w' lo hi (.pointer (some ⟨N,0,none⟩)) (X.put (.leaf k x) i)∧Kp (fun q=>lo≤q∧q<hi) w w')→((.returned (.int .i64 ((i:Int)+(x.length:Int))):Ending)=.returned (.int .i64 ((i+x.length:Nat):Int))∧Hid (IsM w' lo hi (.pointer (some ⟨N,0,none⟩)) (X.put (.leaf k x) i)∧Kp (fun q=>lo≤q∧q<hi) w w'))):=fun w' h=>⟨by rw [Int.natCast_add],h⟩
 clear HN1 HN2
 cases k1:((k:Int)==1) with
 | true =>
  have n1:((k:Int) !=1)=false:=by simp [bne,k1]
  have n2:(k:Int)=1:=by simpa using k1
  go_enter Tryz.func47,Tryz.ntmps47
  go_wp2_with fail
  go_ret
  exact (HR.out) _ ⟨(HY.out) (by omega) _ (((((HB.out).set4 _).set6 _).set7 _).set5 _),(HK.out) _ (On.set (On.set (On.set (On.set (Kp.refl _ w) 4 _) 6 _) 7 _) 5 _)⟩
 | false =>
  have n1:((k:Int) !=1)=true:=by simp [bne,k1]
  have n2:¬(k:Int)=1:=by simpa using k1
  cases k2:((k:Int)==2) with
  | true =>
   have n3:((k:Int) !=2)=false:=by simp [bne,k2]
   have n4:(k:Int)=2:=by simpa using k2
   go_enter Tryz.func47,Tryz.ntmps47
   go_wp2_with fail
   go_ret
   exact (HR.out) _ ⟨(HY.out) (by omega) _ (((((HB.out).set4 _).set6 _).set7 _).set5 _),(HK.out) _ (On.set (On.set (On.set (On.set (Kp.refl _ w) 4 _) 6 _) 7 _) 5 _)⟩
  | false =>
   have n3:((k:Int) !=2)=true:=by simp [bne,k2]
   have n4:¬(k:Int)=2:=by simpa using k2
   go_enter Tryz.func47,Tryz.ntmps47
   go_wp2_with fail
   go_ret
   exact (HR.out) _ ⟨(HZ.out) (by omega) _ (((((((HB.out).set4 _).set6 _).set7 _).set5 _).set6 _).set7 _),(HK.out) _ (On.set (On.set (On.set (On.set (On.set (On.set (Kp.refl _ w) 4 _) 6 _) 7 _) 5 _) 6 _) 7 _)⟩
structure Lie (lo hi N:Nat) (ao:Option Addr) (L H:Nat→Nat) (n:Nat):Prop where
 hN:lo≤N∧N<hi
 hs:∀ i,i<n→lo≤L i∧L i≤H i∧H i≤hi∧¬(L i≤N∧N<H i)∧∀ j,i<j→j<n→H i≤L j
 hg:∀ g,ao=some ⟨g,0,none⟩→0<n→lo≤g∧g<hi∧g≠N∧∀ j,j<n→¬(L j≤g∧g<H j)
theorem Lie.apart {lo hi N:Nat} {ao:Option Addr} {L H:Nat→Nat} {n:Nat} (h:Lie lo hi N ao L H n) {i j q:Nat} (hi:i<n) (hj:j<n) (hne:i≠j) (h1:L i≤q) (h2:q<H i):¬(L j≤q∧q<H j):=by
 rcases Nat.lt_or_ge i j with g|g
 ·have:=(h.hs i hi).2.2.2.2 j g hj;omega
 ·have:=(h.hs j hj).2.2.2.2 i (by omega) hi;omega
theorem lt_of_some {α:Type} {l:List α} {i:Nat} {a:α} (h:l[i]?=some a):i<l.length:=by
 rcases Nat.lt_or_ge i l.length with g|g
 ·exact g
 ·rw [List.getElem?_eq_none g] at h;cases h
structure InPt (w:World) (N k lo hi:Nat) (ao:Option Addr) (cap:Nat) (vs:Nat→Value) (L H:Nat→Nat) (ps:List X.Part) (i0:Nat) (j pos:Nat) (fr tt:Int) (la:Bool) (wr:World):Prop where
 ex:∃ qs:List X.Q,qs.length=j∧(∀ i q,qs[i]?=some q→IsM wr (L i) (H i) (vs i) q)∧X.puts ps i0 (-1) (-1) (k==1)=(qs++(X.puts (ps.drop j) pos fr tt la).1,(X.puts (ps.drop j) pos fr tt la).2)
 nd:Nd wr N k 0 [] (.slice ao ps.length cap) i0 0 fr tt la
 todo:∀ i p,j≤i→ps[i]?=some p→IsM wr (L i) (H i) (vs i) (X.raw p)
 row:∀ i,i<ps.length→∃ g,ao=some ⟨g,0,none⟩∧wr.cell? ⟨g,i,none⟩=some (vs i)
 kp:Kp (fun q=>lo≤q∧q<hi) w wr
 pos:pos+(X.psb (ps.drop j)).length=i0+(X.psb ps).length
theorem InPt.next {w wr w2 W:World} {N k lo hi:Nat} {ao:Option Addr} {cap:Nat} {vs:Nat→Value} {L H:Nat→Nat} {ps:List X.Part} {i0 j pos:Nat} {fr tt:Int} {la:Bool} {p:X.Part} {fr' tt':Int} {la':Bool} (hL:Lie lo hi N ao L H ps.length) (h:InPt w N k lo hi ao cap vs L H ps i0 j pos fr tt la wr) (hp:ps[j]?=some p)
  (hm:IsM w2 (L j) (H j) (vs j) (X.put p pos)) (hk:Kp (fun q=>L j≤q∧q<H j) wr w2) (hk2:Kp (fun q=>q=N) w2 W) (hn:Nd W N k 0 [] (.slice ao ps.length cap) i0 0 fr' tt' la')
  (e1:fr'=if fr<0 then (X.put p pos).fr else fr) (e2:tt'=if (X.put p pos).tt>tt then (X.put p pos).tt else tt) (e3:la'=(la||(X.put p pos).la)):InPt w N k lo hi ao cap vs L H ps i0 (j+1) (pos+(X.pb p).length) fr' tt' la' W:=by
 have hjl:=lt_of_some hp
 obtain ⟨qs,q1,q2,q3⟩:=h.ex
 obtain ⟨s1,s2,s3,s4,s5⟩:=hL.hs j hjl
 have hst:=X.puts_step hp (pos:Int) fr tt la
 have hen:(X.put p pos).en=((pos+(X.pb p).length:Nat):Int):=by rw [X.put_en];omega
 rw [← e1,← e2,← e3,hen] at hst
 have keepJ:∀ {i:Nat} {q:X.Q},i<ps.length→i≠j→IsM wr (L i) (H i) (vs i) q→IsM W (L i) (H i) (vs i) q:=fun {i q} hi hne hq =>
  (hq.keep hk (fun x a1 a2=>hL.apart hi hjl hne a1 a2)).keep hk2 (fun x a1 a2 e=>by subst e;exact (hL.hs i hi).2.2.2.1 ⟨a1,a2⟩)
 refine ⟨⟨qs++[X.put p pos],by rw [List.length_append,q1];rfl,fun i q hq=>?_,?_⟩,hn,fun i p' hi hp'=>?_,fun i hi=>?_,?_,?_⟩
 ·by_cases hi:i<qs.length
  ·rw [List.getElem?_append_left hi] at hq
   exact keepJ (by omega) (by omega) (q2 i q hq)
  ·have hil:=lt_of_some hq
   rw [List.length_append,List.length_singleton] at hil
   have:i=j:=by omega
   subst this
   rw [List.getElem?_append_right (by omega),q1,Nat.sub_self] at hq
   obtain rfl:X.put p pos=q:=by simpa using hq
   exact hm.keep hk2 (fun x a1 a2 e=>by subst e;exact s4 ⟨a1,a2⟩)
 ·rw [q3,hst];simp
 ·exact keepJ (lt_of_some hp') (by omega) (h.todo i p' (by omega) hp')
 ·obtain ⟨g,g1,g2⟩:=h.row i hi
  obtain ⟨a1,a2,a3,a4⟩:=hL.hg g g1 (by omega)
  exact ⟨g,g1,hk2.cellv (hk.cellv g2 (a4 j hjl)) a3⟩
 ·refine Kp.trans (Kp.trans h.kp hk (fun x _ e=>⟨by omega,by omega⟩)) hk2 (fun x _ e=>?_)
  subst e
  exact hL.hN
 ·have hd:ps.drop j=p::ps.drop (j+1):=by
   rw [List.drop_eq_getElem_cons hjl];congr 1
   exact Option.some.inj ((List.getElem?_eq_getElem hjl).symm.trans hp)
  have:=h.pos
  rw [hd,X.psb,List.length_append] at this
  omega
theorem InPt.done {w wr W:World} {N k lo hi:Nat} {ao:Option Addr} {cap:Nat} {vs:Nat→Value} {L H:Nat→Nat} {ps:List X.Part} {i0 pos:Nat} {fr tt:Int} {la:Bool} (hL:Lie lo hi N ao L H ps.length) (hc:ps.length≤cap∧cap≤maxLen) (h:InPt w N k lo hi ao cap vs L H ps i0 ps.length pos fr tt la wr) (hk2:Kp (fun q=>q=N) wr W) (hn:Nd W N k 0 [] (.slice ao ps.length cap) i0 pos fr tt la) :
  pos=i0+(X.psb ps).length∧IsM W lo hi (.pointer (some ⟨N,0,none⟩)) (X.put (.br k ps) i0)∧Kp (fun q=>lo≤q∧q<hi) w W:=by
 obtain ⟨qs,q1,q2,q3⟩:=h.ex
 have hpos:=h.pos
 rw [List.drop_length,X.puts,List.append_nil] at q3
 rw [List.drop_length,X.psb] at hpos
 refine ⟨by simpa using hpos,?_,Kp.trans h.kp hk2 (fun x _ e=>by subst e;exact hL.hN)⟩
 rw [X.put,q3]
 show IsM W lo hi _ (.mk k 0 [] qs i0 pos fr tt la)
 refine .mk lo hi N k 0 [] qs i0 pos fr tt la ao cap vs L H hL.hN (by rw [q1];exact hn) (by rw [q1];exact hc) (fun i hi=>?_) (by rw [q1];exact hL.hs) (fun i q hq=>?_)
 ·rw [q1] at hi
  obtain ⟨g,g1,g2⟩:=h.row i hi
  obtain ⟨a1,a2,a3,a4⟩:=hL.hg g g1 (by omega)
  exact ⟨g,g1,a1,a2,a3,by rw [q1];exact a4,hk2.cellv g2 a3⟩
 ·have hil:=lt_of_some hq
  exact (q2 i q hq).keep hk2 (fun x a1 a2 e=>by subst e;exact (hL.hs i (by omega)).2.2.2.1 ⟨a1,a2⟩)
set_option maxRecDepth 100000 in
set_option maxHeartbeats 1000000 in
theorem put_miss (m:List UInt8):PutOk (.miss m):=by
 intro lo hi v i w h hl
 rw [X.raw] at h
 cases h with
 | mk _ _ N _ _ _ qs at0 en fr tt la ao cap vs L H hN hb hc hr hs hp =>
 have HM:Hid (∀ (w':World),Nd w' N 1 0 m (.slice ao 0 cap) i i (-1) (-1) true→IsM w' lo hi (.pointer (some ⟨N,0,none⟩)) (X.put (.miss m) i)):=fun w' h=>by
  rw [X.put]
  exact .mk lo hi N 1 0 m [] i i (-1) (-1) true ao cap vs L H hN h hc (fun i hi=>by simp at hi) (fun i hi=>by simp at hi) (fun i q hq=>by simp at hq)
 have HB:Hid (Nd w N 1 0 m (.slice ao 0 cap) 0 0 0 0 false):=hb
 have hpb:(X.pb (.miss m)).length=0:=by rw [X.pb];rfl
 rw [hpb,Nat.add_zero]
 obtain ⟨⟨c0,c1,c2,c3,c4,c5,c6,c7,c8⟩,f4,f5,f6,f7,f8⟩:=(HB.out).facts
 have HK:Hid (∀ (w':World),Kp (fun q=>q=N) w w'→Kp (fun q=>lo≤q∧q<hi) w w'):=fun w' h=>kn h hN.1 hN.2
 clear hb hc hr hs hp hN hpb
 go_enter Tryz.func47,Tryz.ntmps47
 go_wp2_with fail
 refine wp_loop_rounds 1 ?_
 rw [rounds_succ]
 go_wp2_with fail
 go_ret
 exact ⟨rfl,(HM.out) _ ((((((HB.out).set4 _).set6 _).set7 _).set8 _).set5 _),(HK.out) _ (On.set (On.set (On.set (On.set (On.set (Kp.refl _ w) 4 _) 6 _) 7 _) 8 _) 5 _)⟩
set_option maxRecDepth 100000 in
set_option maxHeartbeats 4000000 in
theorem put_br (k:Nat) (ps:List X.Part) (hk0:k≠0) (ih:∀ (j:Nat) (p:X.Part),ps[j]?=some p→PutOk p) (hpl:ps.length≤1073741824):PutOk (.br k ps):=by
 intro lo hi v i w h hl
 rw [X.pb] at hl ⊢
 have HIH:=hide ih
 have h':=h
 rw [X.raw] at h'
 cases h' with
 | mk _ _ N _ _ _ qs at0 en fr tt la ao cap vs L H hN hb hc hr hs hp =>
 have hql:(X.raws ps).length=ps.length:=by rw [X.raws_eq,List.length_map]
 rw [hql] at hb hc hr hs
 have HL:Hid (Lie lo hi N ao L H ps.length):=⟨hN,hs,fun g hg h0=>by obtain ⟨g',e1,e2,e3,e4,e5,e6⟩:=hr 0 h0;rw [hg] at e1;obtain rfl:g=g':=(by simpa using e1);exact ⟨e2,e3,e4,e5⟩⟩
 have HC:=hide hc
 have HB:Hid (Nd w N k 0 [] (.slice ao ps.length cap) 0 0 0 0 false):=hb
 have HT:Hid (∀ (j:Nat) (p:X.Part),ps[j]?=some p→IsM w (L j) (H j) (vs j) (X.raw p)):=fun j p hj=>hp j _ (by rw [X.raws_eq,List.getElem?_map,hj];rfl)
 have HRow:Hid (∀ j,j<ps.length→∃ g,ao=some ⟨g,0,none⟩∧w.cell? ⟨g,j,none⟩=some (vs j)):=fun j hj=>by obtain ⟨g,e1,e2,e3,e4,e5,e6⟩:=hr j hj;exact ⟨g,e1,e6⟩
 obtain ⟨⟨c0,c1,c2,c3,c4,c5,c6,c7,c8⟩,f4,f5,f6,f7,f8⟩:=(HB.out).facts
 have hcap:ps.length≤cap:=hc.1
 clear hb hc hr hs hp hN h hql ih
 have k0:((k:Int)==0)=false:=by simp;omega
 have HK1:Hid (((k:Int)==1)=(k==1)):=by show _=_;rw [Bool.eq_iff_iff];simp;omega
 have HI0:Hid (InPt w N k lo hi ao cap vs L H ps i 0 i (-1) (-1) (k==1) ((((w.setCell ⟨N,4,none⟩ (.int .i64 i)).setCell ⟨N,6,none⟩ (.int .i64 (-1))).setCell ⟨N,7,none⟩ (.int .i64 (-1))).setCell ⟨N,8,none⟩ (.bool ((k:Int)==1)))):=by
  have hkk:Kp (fun q=>q=N) w ((((w.setCell ⟨N,4,none⟩ (.int .i64 i)).setCell ⟨N,6,none⟩ (.int .i64 (-1))).setCell ⟨N,7,none⟩ (.int .i64 (-1))).setCell ⟨N,8,none⟩ (.bool ((k:Int)==1))):=On.set (On.set (On.set (On.set (Kp.refl _ w) 4 _) 6 _) 7 _) 8 _
  have hL:=HL.out
  refine ⟨⟨[],rfl,fun i q hq=>by simp at hq,by simp⟩,?_,fun j p _ hj=>((HT.out) j p hj).keep hkk (fun x a1 a2 e=>by subst e;exact (hL.hs j (lt_of_some hj)).2.2.2.1 ⟨a1,a2⟩),fun j hj=>?_,kn hkk hL.hN.1 hL.hN.2,by simp⟩
  ·have:=(((((HB.out).set4 (i:Int)).set6 (-1)).set7 (-1)).set8 ((k:Int)==1))
   rw [HK1.out] at this ⊢
   exact this
  ·obtain ⟨g,g1,g2⟩:=(HRow.out) j hj
   exact ⟨g,g1,hkk.cellv g2 (hL.hg g g1 (by omega)).2.2.1⟩
 clear HT HRow HK1 HB
 go_enter Tryz.func47,Tryz.ntmps47
 go_wp2_with fail
 go_loopw [1,5] (fun a v wr=>∃ (j pos:Nat) (fr tt:Int) (la:Bool),a=.int .i64 pos∧v=.int .i64 j∧j≤ps.length∧Hid (InPt w N k lo hi ao cap vs L H ps i j pos fr tt la wr)) (fun _ v _=>ps.length - (intOf v).toNat)
 case atStart=>exact ⟨0,i,-1,-1,_,rfl,rfl,Nat.zero_le _,HI0⟩
 case round =>
  clear HI0 c0 c1 c2 c3 c4 c5 c6 c7 c8 f4 f5 f6 f7 f8
  obtain ⟨j,pos,fr,tt,la,rfl,rfl,hj,HI⟩:=hrel
  obtain ⟨⟨c0,c1,c2,c3,c4,c5,c6,c7,c8⟩,f4,f5,f6,f7,f8⟩:=(HI.out).nd.facts
  by_cases hlt:j<ps.length
  case neg =>
   obtain rfl:j=ps.length:=by omega
   have i1:decide (ps.length<ps.length)=false:=by simp
   have i2:decide ((ps.length:Int)<(ps.length:Int))=false:=by simp
   have HF:=hide (InPt.done HL.out HC.out HI.out (On.set (Kp.refl _ wr) 5 (.int .i64 (pos:Int))) ((HI.out).nd.set5 _))
   go_wp2_with fail
   go_ret
   exact ⟨retn (HF.out).1,(HF.out).2⟩
  have i1:decide (j<ps.length)=true:=by simp;omega
  have i2:decide ((j:Int)<(ps.length:Int))=true:=by simp;omega
  have hi1:(0:Int)≤(j:Int):=Int.natCast_nonneg _
  have hi2:(j:Int)<(ps.length:Int):=by omega
  obtain ⟨p,hpj⟩:∃ p,ps[j]?=some p:=⟨ps[j],List.getElem?_eq_getElem hlt⟩
  obtain ⟨g,rfl,hcell⟩:=(HI.out).row j hlt
  have hm:=(HI.out).todo j p (Nat.le_refl _) hpj
  obtain ⟨Nj,rvj,ij,hvj,hNj1,hNj2,hndj⟩:=hm.node
  have hposb:pos+(X.pb p).length≤1073741824:=by
   have h1:=(HI.out).pos
   have hd:ps.drop j=p::ps.drop (j+1):=by
    rw [List.drop_eq_getElem_cons hlt];congr 1
    exact Option.some.inj ((List.getElem?_eq_getElem hlt).symm.trans hpj)
   rw [hd,X.psb,List.length_append] at h1
   omega
  have HCall:=hide ((HIH.out) j p hpj (L j) (H j) (vs j) pos wr hm hposb)
  have HP:=hide hpj
  rw [hvj] at hcell HCall
  have HVJ:=hide hvj
  have hNN:¬ N=Nj:=by have:=((HL.out).hs j hlt).2.2.2.1;omega
  have hNN':¬ Nj=N:=fun e=>hNN e.symm
  have HNI:Hid (¬(L j≤N∧N<H j)):=((HL.out).hs j hlt).2.2.2.1
  clear hm hndj hvj hpj
  go_wp2_with fail
  refine (HCall.out).mono ?_
  rintro e w2 ⟨rfl,H2⟩
  have hm2:=(H2.out).1
  have hk2:=(H2.out).2
  obtain ⟨Nj2,rvj2,ij2,hvj2,-,-,hndj2⟩:=hm2.node
  obtain rfl:Nj=Nj2:=by simpa using hvj2
  rw [← HVJ.out] at hm2
  have HM2:=hide hm2
  have HK2:=hide hk2
  have HNd2:Hid (Nd w2 N k 0 [] (.slice (some ⟨g,0,none⟩) ps.length cap) i 0 fr tt la):=hk2.heap (HI.out).nd HNI.out
  have HNdj:=hide hndj2
  clear hm2 hk2 hndj2 hvj2 H2 c0 c1 c2 c3 c4 c5 c6 c7 c8 f4 f5 f6 f7 f8 hcell HCall
  obtain ⟨⟨c0,c1,c2,c3,c4,c5,c6,c7,c8⟩,f4,f5,f6,f7,f8⟩:=(HNd2.out).facts
  obtain ⟨⟨d0,d1,d2,d3,d4,d5,d6,d7,d8⟩,-⟩:=(HNdj.out).facts
  have HNext:=hide (fun (W:World) (fr' tt':Int) (la':Bool)=>InPt.next (W:=W) (fr':=fr') (tt':=tt') (la':=la') HL.out HI.out HP.out HM2.out HK2.out)
  clear HM2 HK2
  generalize X.put p pos=q at *
  by_cases hf:fr<0
  ·have i3:decide (fr<0)=true:=by simpa using hf
   have HN3:Hid (Nd (w2.setCell ⟨N,6,none⟩ (.int .i64 q.fr)) N k 0 [] (.slice (some ⟨g,0,none⟩) ps.length cap) i 0 q.fr tt la):=(HNd2.out).set6 _
   have HK3:Hid (Kp (fun x=>x=N) w2 (w2.setCell ⟨N,6,none⟩ (.int .i64 q.fr))):=On.set (Kp.refl _ w2) 6 _
   have HE1:Hid (q.fr=if fr<0 then q.fr else fr):=by show _=_;rw [if_pos hf]
   have HJ3:Hid (Nd (w2.setCell ⟨N,6,none⟩ (.int .i64 q.fr)) Nj q.k q.t q.x rvj2 ij2 q.en q.fr q.tt q.la):=(HK3.out).heap HNdj.out hNN'
   go_wp2_with fail
   clear c0 c1 c2 c3 c4 c5 c6 c7 c8 f4 f5 f6 f7 f8 d0 d1 d2 d3 d4 d5 d6 d7 d8 HNd2 HNdj hf i3
   generalize w2.setCell ⟨N,6,none⟩ (.int .i64 q.fr)=W3 at *
   obtain ⟨⟨c0,c1,c2,c3,c4,c5,c6,c7,c8⟩,f4,f5,f6,f7,f8⟩:=(HN3.out).facts
   obtain ⟨⟨d0,d1,d2,d3,d4,d5,d6,d7,d8⟩,-⟩:=(HJ3.out).facts
   go_quiet (fail)
   have HN4:Hid (Nd (W3.drewN nq) N k 0 [] (.slice (some ⟨g,0,none⟩) ps.length cap) i 0 q.fr tt la):=HN3.out
   have HJ4:Hid (Nd (W3.drewN nq) Nj q.k q.t q.x rvj2 ij2 q.en q.fr q.tt q.la):=HJ3.out
   have HK4:Hid (Kp (fun x=>x=N) w2 (W3.drewN nq)):=Kp.trans HK3.out (On.drewN N W3 nq) (fun _ _ e=>e)
   clear c0 c1 c2 c3 c4 c5 c6 c7 c8 f4 f5 f6 f7 f8 d0 d1 d2 d3 d4 d5 d6 d7 d8 HN3 HJ3 HK3
   generalize W3.drewN nq=W4 at *
   obtain ⟨⟨c0,c1,c2,c3,c4,c5,c6,c7,c8⟩,f4,f5,f6,f7,f8⟩:=(HN4.out).facts
   obtain ⟨⟨d0,d1,d2,d3,d4,d5,d6,d7,d8⟩,-⟩:=(HJ4.out).facts
   by_cases ht:q.tt>tt
   ·have i4:decide (tt<q.tt)=true:=by simpa using ht
    cases hla:q.la with
    | true =>
     go_wp2_with fail
     exact ⟨⟨j+1,pos+(X.pb p).length,q.fr,q.tt,true,by go_num,by go_num,by omega,(HNext.out) _ _ _ _ (Kp.trans HK4.out (On.set (On.set (Kp.refl _ W4) 7 _) 8 _) (fun _ _ e=>e)) (((HN4.out).set7 _).set8 _) HE1.out (by rw [if_pos ht]) (by rw [hla];simp)⟩,by simp only [intOf];omega⟩
    | false =>
     go_wp2_with fail
     exact ⟨⟨j+1,pos+(X.pb p).length,q.fr,q.tt,la,by go_num,by go_num,by omega,(HNext.out) _ _ _ _ (Kp.trans HK4.out (On.set (Kp.refl _ W4) 7 _) (fun _ _ e=>e)) ((HN4.out).set7 _) HE1.out (by rw [if_pos ht]) (by rw [hla];simp)⟩,by simp only [intOf];omega⟩
   ·have i4:decide (tt<q.tt)=false:=by simpa using ht
    cases hla:q.la with
    | true =>
     go_wp2_with fail
     exact ⟨⟨j+1,pos+(X.pb p).length,q.fr,tt,true,by go_num,by go_num,by omega,(HNext.out) _ _ _ _ (Kp.trans HK4.out (On.set (Kp.refl _ W4) 8 _) (fun _ _ e=>e)) ((HN4.out).set8 _) HE1.out (by rw [if_neg ht]) (by rw [hla];simp)⟩,by simp only [intOf];omega⟩
    | false =>
     go_wp2_with fail
     exact ⟨⟨j+1,pos+(X.pb p).length,q.fr,tt,la,by go_num,by go_num,by omega,(HNext.out) _ _ _ _ (Kp.trans HK4.out (Kp.refl _ W4) (fun _ _ e=>e)) (HN4.out) HE1.out (by rw [if_neg ht]) (by rw [hla];simp)⟩,by simp only [intOf];omega⟩
  ·have i3:decide (fr<0)=false:=by simpa using hf
   have HN3:=hide HNd2.out
   have HK3:Hid (Kp (fun x=>x=N) w2 w2):=Kp.refl _ w2
   have HE1:Hid (fr=if fr<0 then q.fr else fr):=by show _=_;rw [if_neg hf]
   have HJ3:=hide HNdj.out
   go_wp2_with fail
   clear c0 c1 c2 c3 c4 c5 c6 c7 c8 f4 f5 f6 f7 f8 d0 d1 d2 d3 d4 d5 d6 d7 d8 HNd2 HNdj hf i3
   obtain ⟨⟨c0,c1,c2,c3,c4,c5,c6,c7,c8⟩,f4,f5,f6,f7,f8⟩:=(HN3.out).facts
   obtain ⟨⟨d0,d1,d2,d3,d4,d5,d6,d7,d8⟩,-⟩:=(HJ3.out).facts
   go_quiet (fail)
   have HN4:Hid (Nd (w2.drewN nq) N k 0 [] (.slice (some ⟨g,0,none⟩) ps.length cap) i 0 fr tt la):=HN3.out
   have HJ4:Hid (Nd (w2.drewN nq) Nj q.k q.t q.x rvj2 ij2 q.en q.fr q.tt q.la):=HJ3.out
   have HK4:Hid (Kp (fun x=>x=N) w2 (w2.drewN nq)):=Kp.trans HK3.out (On.drewN N w2 nq) (fun _ _ e=>e)
   clear c0 c1 c2 c3 c4 c5 c6 c7 c8 f4 f5 f6 f7 f8 d0 d1 d2 d3 d4 d5 d6 d7 d8 HN3 HJ3 HK3
   generalize w2.drewN nq=W4 at *
   obtain ⟨⟨c0,c1,c2,c3,c4,c5,c6,c7,c8⟩,f4,f5,f6,f7,f8⟩:=(HN4.out).facts
   obtain ⟨⟨d0,d1,d2,d3,d4,d5,d6,d7,d8⟩,-⟩:=(HJ4.out).facts
   by_cases ht:q.tt>tt
   ·have i4:decide (tt<q.tt)=true:=by simpa using ht
    cases hla:q.la with
    | true =>
     go_wp2_with fail
     exact ⟨⟨j+1,pos+(X.pb p).length,fr,q.tt,true,by go_num,by go_num,by omega,(HNext.out) _ _ _ _ (Kp.trans HK4.out (On.set (On.set (Kp.refl _ W4) 7 _) 8 _) (fun _ _ e=>e)) (((HN4.out).set7 _).set8 _) HE1.out (by rw [if_pos ht]) (by rw [hla];simp)⟩,by simp only [intOf];omega⟩
    | false =>
     go_wp2_with fail
     exact ⟨⟨j+1,pos+(X.pb p).length,fr,q.tt,la,by go_num,by go_num,by omega,(HNext.out) _ _ _ _ (Kp.trans HK4.out (On.set (Kp.refl _ W4) 7 _) (fun _ _ e=>e)) ((HN4.out).set7 _) HE1.out (by rw [if_pos ht]) (by rw [hla];simp)⟩,by simp only [intOf];omega⟩
   ·have i4:decide (tt<q.tt)=false:=by simpa using ht
    cases hla:q.la with
    | true =>
     go_wp2_with fail
     exact ⟨⟨j+1,pos+(X.pb p).length,fr,tt,true,by go_num,by go_num,by omega,(HNext.out) _ _ _ _ (Kp.trans HK4.out (On.set (Kp.refl _ W4) 8 _) (fun _ _ e=>e)) ((HN4.out).set8 _) HE1.out (by rw [if_neg ht]) (by rw [hla];simp)⟩,by simp only [intOf];omega⟩
    | false =>
     go_wp2_with fail
     exact ⟨⟨j+1,pos+(X.pb p).length,fr,tt,la,by go_num,by go_num,by omega,(HNext.out) _ _ _ _ (Kp.trans HK4.out (Kp.refl _ W4) (fun _ _ e=>e)) (HN4.out) HE1.out (by rw [if_neg ht]) (by rw [hla];simp)⟩,by simp only [intOf];omega⟩
theorem put_any:∀ (n:Nat) (p:X.Part),X.psz p≤n→X.psz p≤1073741824→X.kok p→PutOk p:=by
 intro n
 induction n with
 | zero=>intro p h;have:=X.psz_pos p;omega
 | succ n ih =>
  intro p hn hb hk
  cases p with
  | leaf k x=>exact put_leaf k x
  | miss m=>exact put_miss m
  | br k ps =>
   rw [X.psz] at hn hb
   rw [X.kok] at hk
   have hl:=X.pssz_len ps
   exact put_br k ps hk.1 (fun j p hj=>by
    have:=X.pssz_mem ps j p hj
    exact ih p (by omega) (by omega) (X.koks_mem ps j p hk.2 hj)) (by omega)
end Go.Proofs.YtgpcpbmacdhlkaaGreatDoor
