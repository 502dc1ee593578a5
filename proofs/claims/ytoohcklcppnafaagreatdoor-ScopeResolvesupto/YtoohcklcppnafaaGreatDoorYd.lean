import Derived.Test.YtoohcklcppnafaaGreatDoorXy
namespace Go.Proofs.YtoohcklcppnafaaGreatDoor
open M
section
open X
variable{c e k:Nat}
namespace X
mutual
def su:Part→Prop
 | .leaf _ _=>True
 | .miss _=>True
 | .br k ps=>k≠0∧ja ps
def ja:List Part→Prop
 | []=>True
 | p::ps=>su p∧ja ps
end
theorem vK:∀(ps:List Part) (i:Nat) (p:Part),ja ps→ps[i]?=some p→su p
 | [],i,p,_,h=>by simp at h
 | q::ps,0,p,hk,h=>by
  obtain rfl:q=p:=by simpa using h
  exact hk.1
 | q::ps,i+1,p,hk,h=>vK ps i p hk.2 (by simpa using h)
theorem bR(l r:List Part):eT (l++r)=eT l+eT r:=by
 induction l with
 | nil=>simp[eT]
 | cons p l ih=>rw[fM,eT,ih,eT];omega
theorem kz{l r:List Part}(hl:ja l)(hr:ja r):ja (l++r):=by
 induction l with
 | nil=>exact hr
 | cons p l ih=>rw[fM,ja];rw[ja] at hl;exact⟨hl.1,ih hl.2⟩
theorem FC(ts:List Tok):eT (ts.map lf)=ts.length:=by
 induction ts with
 | nil=>rfl
 | cons t ts ih=>rw[iO,eT,ih,lf,jh,aY];omega
theorem FD(ts:List Tok):ja (ts.map lf):=by
 induction ts with
 | nil=>rw[List.map_nil,ja];trivial
 | cons t ts ih=>rw[iO,ja,lf,su];exact⟨trivial,ih⟩
def At(f:R)(c:Nat)(ts:List Tok):Prop:=ja (f ts).1∧eT (f ts).1+7*(f ts).2.length≤c+7*ts.length
def Sz(f:R)(c:Nat):Prop:=∀ ts,At f c ts
theorem At.mono{f:R}{d:Nat}{ts:List Tok}(h:At f c ts)(hd:c≤d):At f d ts:=⟨h.1,by have:=h.2;omega⟩
theorem Sz.mono{f:R}{c d:Nat}(h:Sz f c)(hd:c≤d):Sz f d:=fun ts=>(h ts).mono hd
theorem At.andThen{f g:R}{c d:Nat}{ts:List Tok}(hf:At f c ts)(hg:Sz g d):At (X.andThen f g) (c+d) ts:=by
 have h2:=hg (f ts).2;refine⟨kz hf.1 h2.1,?_⟩;have e1:=hf.2;have e2:=h2.2;show eT ((f ts).1++(g (f ts).2).1)+7*(g (f ts).2).2.length≤_;rw[bR];omega
theorem Sz.andThen{f g:R}{c d:Nat}(hf:Sz f c)(hg:Sz g d):Sz (X.andThen f g) (c+d):=fun ts=>(hf ts).andThen hg
theorem At.node{f:R}{c:Nat}{ts:List Tok}(h:At f c ts){k:Nat}(hk:k≠0):At (node k f) (c+1) ts:=by
 refine⟨by show ja [.br k (f ts).1];rw[ja,ja,su];exact⟨⟨hk,h.1⟩,trivial⟩,?_⟩;have:=h.2;show eT [.br k (f ts).1]+7*(f ts).2.length≤_;rw[eT,eT,jh];omega
theorem Sz.nil:Sz (fun ts=>([],ts)) 0:=fun ts=>⟨by show ja [];rw[ja];trivial,by show eT []+7*ts.length≤_;rw[eT];omega⟩
theorem Sz.miss(m:ah):Sz (fun ts=>([.miss m],ts)) 1:=fun ts=>⟨by show ja [.miss m];rw[ja,ja,su];exact⟨trivial,trivial⟩,by show eT [.miss m]+7*ts.length≤_;rw[eT,eT,jh];omega⟩
theorem At.ite{f g:R}{b:List Tok→Bool}{ts:List Tok}(hf:b ts=true→At f c ts)(hg:b ts=false→At g c ts):At (fun ts=>if b ts then f ts else g ts) c ts:=by
 unfold At at *;by_cases h:b ts=true
 ·simp only[h,iK];exact hf h
 ·simp only[Bool.not_eq_true] at h;simp only[h,dw,gY];exact hg h
theorem Sz.ite{f g:R}{c:Nat}{b:List Tok→Bool}(hf:Sz f c)(hg:Sz g c):Sz (fun ts=>if b ts then f ts else g ts) c:=fun ts=>At.ite (fun _=>hf ts) (fun _=>hg ts)
theorem pJ(ts:List Tok):eT (take ts).1=(take ts).1.length:=by
 show eT (List.map lf _)=(List.map lf _).length;rw[FC,cB]
theorem rT(ts:List Tok):ja (take ts).1:=FD _
theorem Sz.take:Sz X.take 0:=fun ts=>⟨rT ts,by have:=take_len ts;rw[pJ];omega⟩
theorem At.tk{g:R}{ts:List Tok}(hn:pQ ts≠none)(hg:Sz g c)(he:c≤6+e):At (X.andThen take g) e ts:=by
 have h2:=hg (take ts).2;refine⟨kz (rT ts) h2.1,?_⟩;have e2:=h2.2;have l1:=take_len ts;have l2:=fZ hn;show eT ((take ts).1++(g (take ts).2).1)+7*(g (take ts).2).2.length≤_;rw[bR,pJ];omega
theorem At.tk1{ts:List Tok}(hn:pQ ts≠none)(hk:k≠0):At (X.node k take) 0 ts:=by
 refine⟨by show ja [.br k (take ts).1];rw[ja,ja,su];exact⟨⟨hk,rT ts⟩,trivial⟩,?_⟩;have l1:=take_len ts;have l2:=fZ hn;show eT [.br k (take ts).1]+7*(take ts).2.length≤_;rw[eT,eT,jh,pJ];omega
theorem At.tkn{g:R}{ts:List Tok}(hn:pQ ts≠none)(hg:Sz g c)(he:c≤5+e)(hk:k≠0):At (X.node k (X.andThen take g)) e ts:=by
 have h2:=hg (take ts).2;refine⟨by show ja [.br k _];rw[ja,ja,su];exact⟨⟨hk,kz (rT ts) h2.1⟩,trivial⟩,?_⟩;have e2:=h2.2;have l1:=take_len ts;have l2:=fZ hn;show eT [.br k ((take ts).1++(g (take ts).2).1)]+7*(g (take ts).2).2.length≤_;rw[eT,eT,jh,bR,pJ];omega
theorem Sz.want(s:ah):Sz (X.want s) 1:=Sz.ite (b:=dJ s) (Sz.take.mono au) (Sz.miss s)
theorem Sz.bE:Sz X.bE 1:=Sz.ite (b:=fun ts=>dm ts==3) (Sz.take.mono au) (Sz.miss gy)
theorem Sz.iA{one:R}(h:Sz one 1):∀ n,Sz (iA one n) 0
 | 0=>Sz.nil
 | n+1=>fun ts=>At.ite (b:=dJ [44]) (fun hc=>At.tk (bY hc) (h.andThen (Sz.iA h n)) au) (fun _=>Sz.nil ts)
theorem Sz.dz{one:R}(h:Sz one 1)(e:ah):Sz (X.dz one e) 2 :=
 Sz.ite (b:=dJ e) ((Sz.want e).mono au) (h.andThen (Sz.andThen (c:=0) (fun ts=>Sz.iA h ts.length ts) (Sz.want e)))
theorem Sz.params:Sz X.params 4:=fun ts=>At.node (c:=3) (((Sz.want [40]).andThen (Sz.bE.dz [41])) ts) aS
theorem I9{one:R}{ok:List Tok→Bool}(h:Sz one 1)(hok:∀ ts,ok ts=true→pQ ts≠none):∀(n:Nat) (p:List Part) (ts:List Tok),ja p→ja (iG one ok n p ts).1∧eT (iG one ok n p ts).1+7*(iG one ok n p ts).2.length≤eT p+7*ts.length
 | 0,p,ts,hp=>⟨hp,ax _⟩
 | n+1,p,ts,hp=>by
  unfold X.iG;by_cases hc:ok ts=true
  ·rw[aU hc]
   have h1:=At.tk (e:=0) (hok ts hc) h au;have l0:(andThen take one ts).1=(take ts).1++(one (take ts).2).1:=rfl;have h2:=I9 h hok n [.br 10 (p++(andThen take one ts).1)] (andThen take one ts).2 (by rw[ja,ja,su];exact⟨⟨aS,kz hp h1.1⟩,trivial⟩);refine⟨h2.1,?_⟩;have e2:=h2.2;have e3:=h (take ts).2;have e4:=e3.2;have l1:=take_len ts;have l2:=fZ (hok ts hc);have l5:eT [.br 10 (p++(andThen take one ts).1)]=1+(eT p+((take ts).1.length+eT (one (take ts).2).1))+0:=by
    rw[eT,eT,jh,bR,l0,bR,pJ]
   have l3:(andThen take one ts).2.length=(one (take ts).2).2.length:=rfl;rw[l5,l3] at e2;omega
  ·rw[aM hc];exact⟨hp,ax _⟩
theorem Sz.row{one:R}{ok:List Tok→Bool}(h:Sz one 1)(hok:∀ ts,ok ts=true→pQ ts≠none):Sz (row one ok) 1:=by
 intro ts;have h1:=h ts;have h2:=I9 h hok (one ts).2.length (one ts).1 (one ts).2 h1.1;refine⟨h2.1,?_⟩;have e1:=h1.2;have e2:=h2.2;show eT (X.iG one ok (one ts).2.length (one ts).1 (one ts).2).1+7*(X.iG one ok (one ts).2.length (one ts).1 (one ts).2).2.length≤_;omega
theorem Xi{E:R}(h:Sz E 1){ts:List Tok}(hn:pQ ts≠none):ja (args E ts).1∧eT (args E ts).1+1+7*(args E ts).2.length≤7*ts.length:=by
 have h2:=(h.dz [41]) (take ts).2;have l1:=take_len ts;have l2:=fZ hn;have e2:=h2.2;refine⟨(At.tkn (k:=12) (e:=0) hn (h.dz [41]) au aS).1,?_⟩;show eT [.br 12 ((take ts).1++(dz E [41] (take ts).2).1)]+1+7*(dz E [41] (take ts).2).2.length≤_;rw[eT,eT,jh,bR,pJ];omega
theorem DR{E:R}(h:Sz E 1):∀(n:Nat) (p:List Part) (ts:List Tok),ja p→ja (fG E n p ts).1∧eT (fG E n p ts).1+7*(fG E n p ts).2.length≤eT p+7*ts.length
 | 0,p,ts,hp=>⟨hp,ax _⟩
 | n+1,p,ts,hp=>by
  unfold fG;by_cases hc:dJ [40] ts=true
  ·rw[aU hc]
   have h1:=Xi h (bY hc);have h2:=DR h n [.br 11 (p++(X.args E ts).1)] (X.args E ts).2 (by rw[ja,ja,su];exact⟨⟨aS,kz hp h1.1⟩,trivial⟩);refine⟨h2.1,?_⟩;have e1:=h1.2;have e2:=h2.2;rw[eT,eT,jh,bR] at e2;omega
  ·rw[aM hc];exact⟨hp,ax _⟩
theorem Sz.part{E:R}(h:Sz E 1):Sz (part E) 1:=fun ts =>
 At.ite (b:=fun ts=>dm ts==5) (fun hc=>(At.tk1 (jM aS hc) aS).mono au) fun _ =>
 At.ite (b:=fun ts=>dm ts==6) (fun hc=>(At.tk1 (jM aS hc) aS).mono au) fun _ =>
 At.ite (b:=fun ts=>dJ [116,114,117,101] ts||dJ [102,97,108,115,101] ts) (fun hc=>(At.tk1 (by rcases(iP _ _).mp hc with h|h<;>exact bY h) aS).mono au) fun _ =>
 At.ite (b:=fun ts=>dm ts==3) (fun hc=>(At.tk1 (jM aS hc) aS).mono au) fun _ =>
 At.ite (b:=dJ [63]) (fun hc=>(At.tk1 (bY hc) aS).mono au) fun _ =>
 At.ite (b:=dJ [40]) (fun hc=>At.tkn (bY hc) (h.andThen (Sz.want [41])) au aS) fun _ =>
 At.ite (b:=dJ [91]) (fun hc=>At.tkn (bY hc) (h.dz [93]) au aS) fun _=>Sz.miss _ ts
theorem Sz.call{E:R}(h:Sz E 1):Sz (call E) 1:=by
 intro ts;have h1:=Sz.part h ts;have h2:=DR h (X.part E ts).2.length (X.part E ts).1 (X.part E ts).2 h1.1;refine⟨h2.1,?_⟩;have e1:=h1.2;have e2:=h2.2;show eT (fG E (X.part E ts).2.length (X.part E ts).1 (X.part E ts).2).1+7*(fG E (X.part E ts).2.length (X.part E ts).1 (X.part E ts).2).2.length≤_;omega
theorem Sz.product{E:R}(h:Sz E 1):Sz (X.product E) 1:=h.call.row (fun _ hc=>bY hc)
theorem Sz.sum{E:R}(h:Sz E 1):Sz (X.sum E) 1:=h.product.row (fun _ hc=>by
 rcases(iP _ _).mp hc with h|h
 ·rcases(iP _ _).mp h with h|h<;>exact bY h
 ·exact bY h)
theorem nL{E:R}{ts:List Tok}(hc:(dJ [61,61] (sum E ts).2||dJ [60] (sum E ts).2)=true):comparison E ts=([.br 10 ((sum E ts).1++((take (sum E ts).2).1++(sum E (take (sum E ts).2).2).1))],(sum E (take (sum E ts).2).2).2):=by
 simp only[comparison,hc,iK,andThen]
theorem qJ{E:R}{ts:List Tok}(hc:(dJ [61,61] (sum E ts).2||dJ [60] (sum E ts).2)=false):comparison E ts=sum E ts:=by
 simp only[comparison,hc,dw,gY]
theorem Sz.comparison{E:R}(h:Sz E 1):Sz (X.comparison E) 1:=by
 intro ts;have h0:=h.sum;have h1:=h0 ts;cases hc:(dJ [61,61] (X.sum E ts).2||dJ [60] (X.sum E ts).2) with
 | true =>
  have hn:pQ (X.sum E ts).2≠none:=by rcases(iP _ _).mp hc with h|h<;>exact bY h
  have e0:=nL hc;unfold At;rw[e0];clear e0 h hc;revert h0 h1 hn;generalize X.sum E=F;intro h0 h1 hn;have e3:=h0 (X.take (F ts).2).2;have l1:=take_len (F ts).2;have l2:=fZ hn;have e1:=h1.2;have e4:=e3.2;have k1:=h1.1;have k2:=e3.1;refine⟨?_,?_⟩
  ·rw[ja,ja,su];exact⟨⟨aS,kz k1 (kz (rT _) k2)⟩,trivial⟩
  ·rw[eT,eT,jh,bR,bR,pJ]
   simp only;omega
 | false =>
  unfold At;rw[qJ hc];exact h1
theorem Sz.expr:∀ n,Sz (X.expr n) 1
 | 0=>Sz.miss _
 | n+1=>fun ts =>
  have h:Sz (X.expr n) 1:=Sz.expr n
  At.ite (b:=dJ [108,101,116]) (fun hc=>At.tkn (bY hc) (Sz.bE.andThen ((Sz.want [61]).andThen (h.andThen ((Sz.want [105,110]).andThen h)))) au aS) fun _ =>
  At.ite (b:=dJ [105,102]) (fun hc=>At.tkn (bY hc) (h.andThen ((Sz.want [116,104,101,110]).andThen (h.andThen ((Sz.want [101,108,115,101]).andThen h)))) au aS) fun _ =>
  At.ite (b:=dJ [102,117,110]) (fun hc=>At.tkn (bY hc) (Sz.params.andThen ((Sz.want [61,62]).andThen h)) au aS) fun _=>h.comparison ts
theorem Sz.iE:∀ n,Sz (iE n) 0
 | 0=>Sz.nil
 | n+1=>Sz.ite (b:=fun ts=>dm ts==0||starts ts) Sz.nil (Sz.ite (b:=dJ [59]) Sz.take (Sz.take.andThen (Sz.iE n)))
theorem Sz.Nc:Sz (X.andThen X.bE (X.andThen (X.want [46]) (X.andThen X.bE (X.andThen (fun ts=>_root_.ite (dJ [97,115] ts=true) (X.andThen X.take X.bE ts) ([],ts)) (X.want [59]))))) 4 :=
 Sz.bE.andThen ((Sz.want _).andThen (Sz.bE.andThen (Sz.andThen (c:=0) (fun ts=>At.ite (b:=dJ [97,115]) (fun hc=>At.tk (bY hc) Sz.bE au) (fun _=>Sz.nil ts)) (Sz.want _))))
theorem Sz.optParams:Sz (fun ts=>_root_.ite (dJ [40] ts=true) (X.params ts) ([],ts)) 0:=fun ts=>At.ite (b:=dJ [40]) (fun hc=>by
  have e:X.params ts=X.node 6 (X.andThen X.take (X.dz X.bE [41])) ts:=by
   unfold X.params X.node X.andThen X.want;simp only[hc,iK]
  have:=At.tkn (k:=6) (e:=0) (bY hc) (Sz.bE.dz [41]) au aS;unfold At at this ⊢;rw[e];exact this) (fun _=>Sz.nil ts)
theorem Sz.Nf:Sz (X.andThen X.bE (X.andThen (fun ts=>_root_.ite (dJ [40] ts=true) (X.params ts) ([],ts)) (X.andThen (X.want [61]) (X.andThen (X.expr 65) (X.want [59]))))) 4 :=
 Sz.bE.andThen (Sz.optParams.andThen ((Sz.want _).andThen ((Sz.expr 65).andThen (Sz.want _))))
theorem Sz.aC7:Sz gW 5:=by unfold gW;exact(Sz.want jf).andThen Sz.Nc
theorem Sz.aC8:Sz gU 5:=by unfold gU;exact(Sz.want lF).andThen Sz.Nf
theorem Pq{s:ah}{ts:List Tok}(h:dJ s ts=true):want s ts=take ts:=by unfold want;rw[aU h]
theorem I_{G:R}{ts:List Tok}(hG:Sz G c)(hc:c≤5)(hn:pQ ts≠none):ja (andThen take G ts).1∧1+eT (andThen take G ts).1+7*(andThen take G ts).2.length≤7*ts.length:=by
 have h2:=hG (take ts).2;have e2:=h2.2;have l1:=take_len ts;have l2:=fZ hn;refine⟨kz (rT ts) h2.1,?_⟩;show 1+eT ((take ts).1++(G (take ts).2).1)+7*(G (take ts).2).2.length≤_;rw[bR,pJ];omega
theorem Ui{ts:List Tok}(h:dJ jY ts=true)(F:R):andThen bH F ts=andThen take F ts:=by simp only[andThen,bH,h,iK]
theorem Xj{ts:List Tok}(h:dJ jY ts=false)(F:R):andThen bH F ts=F ts:=by simp only[andThen,bH,h,dw,gY,bM]
theorem DT{x:ah}{ts:List Tok}(h:dJ x ts=true)(G:R):andThen (want x) G ts=andThen take G ts:=by
 have e:=Pq h;show((want x ts).1++(G (want x ts).2).1,(G (want x ts).2).2)=((take ts).1++(G (take ts).2).1,(G (take ts).2).2);rw[e]
theorem aC9{ts:List Tok}(h:dJ jf ts=true):∃ G,Sz G 4∧gW ts=andThen take G ts:=⟨_,Sz.Nc,DT h _⟩
theorem aD0{ts:List Tok}(h:dJ lF ts=true):∃ G,Sz G 4∧gU ts=andThen take G ts:=⟨_,Sz.Nf,DT h _⟩
theorem aD1{ts:List Tok}(hk:(dm ts==0)=false):(kid ts).1≠0∧ja (kid ts).2.1∧1+eT (kid ts).2.1+7*(kid ts).2.2.length≤7*ts.length:=by
 have hU:=Sz.aC7;have hD:=Sz.aC8;have hu1:=@aC9 ts;have hd1:=@aD0 ts;rw[kK];revert hU hD hu1 hd1;generalize gW=U;generalize gU=V;intro hU hD hu1 hd1;by_cases hs:starts ts=true
 ·simp only[hs,iK]
  by_cases hp:dJ jY ts=true
  ·have hn:=bY hp
   have eP:=Ui hp;cases hu:dJ jf (bH ts).2 with
   | true=>simp only[iK,eP];exact⟨aS,I_ hU au hn⟩
   | false=>simp only[dw,gY,eP];exact⟨aS,I_ hD au hn⟩
  ·have hp':dJ jY ts=false:=by simpa using hp
   have eP:=Xj hp';have e0:(bH ts).2=ts:=by unfold bH;rw[aM hp]
   rw[e0];cases hu:dJ jf ts with
   | true =>
    obtain⟨G,g1,g2⟩:=hu1 hu;simp only[iK,eP,g2];exact⟨aS,I_ g1 au (bY hu)⟩
   | false =>
    have hd:dJ lF ts=true:=by
     unfold starts at hs;rw[hu,hp'] at hs
     simpa using hs
    obtain⟨G,g1,g2⟩:=hd1 hd;simp only[dw,gY,eP,g2];exact⟨aS,I_ g1 au (bY hd)⟩
 ·simp only[Bool.not_eq_true] at hs
  simp only[hs,dw,gY];have e:=qZ (by rw[hk,hs];rfl);have hn:=l_ hk;refine⟨aS,?_⟩;rw[e];have l1:=take_len ts;have l2:=fZ hn;have hJ:Sz iB 0:=fun ts=>Sz.iE ts.length ts
  split
  ·exact⟨rT ts,by rw[pJ];omega⟩
  ·exact I_ hJ au hn
theorem xY:∀(n:Nat) (ts:List Tok),ja (mW n ts)∧eT (mW n ts)≤7*ts.length
 | 0,ts=>⟨FD ts,by show eT (ts.map lf)≤_;rw[FC];omega⟩
 | n+1,ts=>by
  unfold mW;by_cases hk:(dm ts==0)=true
  ·rw[aU hk];exact⟨FD ts,by rw[FC];omega⟩
  ·rw[aM hk]
   simp only[Bool.not_eq_true] at hk;obtain⟨k1,k2,k3⟩:=aD1 hk;have ih:=xY n (kid ts).2.2;have e2:=ih.2;exact⟨by rw[ja,su];exact⟨⟨k1,k2⟩,ih.1⟩,by rw[eT,jh];omega⟩
theorem Ah(ts:List Tok):su (file ts):=by rw[file,su];exact⟨aS,(xY _ ts).1⟩
theorem AU(ts:List Tok):jh (file ts)≤1+7*ts.length:=by rw[file,jh];have:=(xY ts.length ts).2;omega
end X
end
namespace X
end X
namespace X
theorem OL(ts:List Tok):ts=sK (kid ts).2.1++(kid ts).2.2:=(EY ts).symm
theorem drop_nil:∀ ts:List Tok,ts.dropWhile quiet=[]→∀ t∈ts,quiet t=true
 | [],_,t,ht=>by cases ht
 | u::ts,e,t,ht=>by
  rw[List.dropWhile_cons] at e;by_cases hq:quiet u=true
  ·rw[aU hq] at e
   rcases fJ.1 ht with rfl|h
   ·exact hq
   ·exact drop_nil ts e t h
  ·rw[aM hq] at e;cases e
theorem KS{ts:List Tok}(h:(dm ts==0)=true)(hk:∀ t∈ts,t.1≠0):∀ t∈ts,quiet t=true:=by
 intro t ht;cases hq:quiet t with
 | true=>rfl
 | false =>
  exfalso;have hne:ts.dropWhile quiet≠[]:=by
   intro e;have:=drop_nil ts e t ht;rw[hq] at this;exact absurd this aT
  obtain⟨u,l,e⟩:=List.exists_cons_of_ne_nil hne;have hu:u∈ts:=(gD (p:=quiet) (l:=ts)).mem (by rw[e];simp);have h0:dm ts=u.1:=by unfold dm pQ;rw[e];rfl
  rw[h0] at h;exact hk u hu (by simpa using h)
end X
section
open X
namespace X
def bU2:List Part→Nat
 | .leaf k x::ps=>if k=1∨k=2 then x.length+bU2 ps else 0
 | _=>0
def lv:Part→Bool
 | .leaf _ _=>true
 | _=>false
def wT(ps:List Part):Prop:=(∀ p∈ps,lv p=true)∧∃ l k x,ps=l++[.leaf k x]∧¬(k=1∨k=2)
mutual
def UQ:Part→Prop
 | .leaf _ _=>True
 | .miss _=>True
 | .br k ps=>(k≠1∧(k=5→wT ps))∧nT ps
def nT:List Part→Prop
 | []=>True
 | p::ps=>UQ p∧nT ps
end
theorem oO{l r:List Part}(hl:nT l)(hr:nT r):nT (l++r):=by
 induction l with
 | nil=>exact hr
 | cons p l ih=>rw[fM,nT];rw[nT] at hl;exact⟨hl.1,ih hl.2⟩
theorem Ni(ts:List Tok):nT (ts.map lf):=by
 induction ts with
 | nil=>rw[List.map_nil,nT];trivial
 | cons t ts ih=>rw[iO,nT,lf,UQ];exact⟨trivial,ih⟩
def Jn(f:R):Prop:=∀ ts,nT (f ts).1
theorem Jn.andThen{f g:R}(hf:Jn f)(hg:Jn g):Jn (X.andThen f g):=fun ts=>oO (hf ts) (hg (f ts).2)
theorem wU{k:Nat}{ps:List Part}(hk:k≠1∧k≠5)(h:nT ps):nT [.br k ps]:=by rw[nT,nT,UQ];exact⟨⟨⟨hk.1,fun e=>absurd e hk.2⟩,h⟩,trivial⟩
theorem Jn.node{f:R}(h:Jn f){k:Nat}(hk:k≠1∧k≠5):Jn (X.node k f):=fun ts=>wU hk (h ts)
theorem Jn.nil:Jn (fun ts=>([],ts)):=fun ts=>by show nT [];rw[nT];trivial
theorem Jn.miss(m:ah):Jn (fun ts=>([.miss m],ts)):=fun ts=>by show nT [.miss m];rw[nT,nT,UQ];exact⟨trivial,trivial⟩
theorem Jn.ite{f g:R}{b:List Tok→Bool}(hf:Jn f)(hg:Jn g):Jn (fun ts=>if b ts then f ts else g ts):=by
 intro ts;show nT (if b ts then f ts else g ts).1
 split
 ·exact hf ts
 ·exact hg ts
theorem Jn.take:Jn X.take:=fun _=>Ni _
theorem Jn.want(s:ah):Jn (X.want s):=Jn.ite (b:=dJ s) Jn.take (Jn.miss s)
theorem Jn.bE:Jn X.bE:=Jn.ite (b:=fun ts=>dm ts==3) Jn.take (Jn.miss gy)
theorem Jn.iA{one:R}(h:Jn one):∀ n,Jn (X.iA one n)
 | 0=>Jn.nil
 | n+1=>Jn.ite (b:=dJ [44]) (Jn.take.andThen (h.andThen (Jn.iA h n))) Jn.nil
theorem Jn.dz{one:R}(h:Jn one)(e:ah):Jn (X.dz one e):=Jn.ite (b:=dJ e) (Jn.want e) (h.andThen (Jn.andThen (f:=fun ts=>X.iA one ts.length ts) (fun ts=>Jn.iA h ts.length ts) (Jn.want e)))
theorem Jn.params:Jn X.params:=((Jn.want _).andThen (Jn.bE.dz _)).node aS
theorem Jm{one:R}{ok:List Tok→Bool}(h:Jn one):∀(n:Nat) (p:List Part) (ts:List Tok),nT p→nT (iG one ok n p ts).1
 | 0,p,ts,hp=>hp
 | n+1,p,ts,hp=>by
  unfold X.iG
  split
  ·exact Jm h n _ _ (wU aS (oO hp ((Jn.take.andThen h) ts)))
  ·exact hp
theorem Jn.row{one:R}{ok:List Tok→Bool}(h:Jn one):Jn (X.row one ok):=fun ts=>Jm h _ _ _ (h ts)
theorem Jn.args{E:R}(h:Jn E):Jn (X.args E):=(Jn.take.andThen (h.dz _)).node aS
theorem DY{E:R}(h:Jn E):∀(n:Nat) (p:List Part) (ts:List Tok),nT p→nT (fG E n p ts).1
 | 0,p,ts,hp=>hp
 | n+1,p,ts,hp=>by
  unfold fG
  split
  ·exact DY h n _ _ (wU aS (oO hp (h.args ts)))
  ·exact hp
theorem Jn.part{E:R}(h:Jn E):Jn (X.part E) :=
 Jn.ite (b:=fun ts=>dm ts==5) (Jn.take.node aS) <|
 Jn.ite (b:=fun ts=>dm ts==6) (Jn.take.node aS) <|
 Jn.ite (b:=fun ts=>dJ [116,114,117,101] ts||dJ [102,97,108,115,101] ts) (Jn.take.node aS) <|
 Jn.ite (b:=fun ts=>dm ts==3) (Jn.take.node aS) <|
 Jn.ite (b:=dJ [63]) (Jn.take.node aS) <|
 Jn.ite (b:=dJ [40]) ((Jn.take.andThen (h.andThen (Jn.want _))).node aS) <|
 Jn.ite (b:=dJ [91]) ((Jn.take.andThen (h.dz _)).node aS) (Jn.miss _)
theorem Jn.call{E:R}(h:Jn E):Jn (X.call E):=fun ts=>DY h _ _ _ (h.part ts)
theorem Jn.product{E:R}(h:Jn E):Jn (X.product E):=h.call.row
theorem Jn.sum{E:R}(h:Jn E):Jn (X.sum E):=h.product.row
theorem Jn.comparison{E:R}(h:Jn E):Jn (X.comparison E):=by
 intro ts;have h0:=h.sum;cases hc:(dJ [61,61] (X.sum E ts).2||dJ [60] (X.sum E ts).2) with
 | true =>
  have e0:=nL hc;rw[e0];clear e0 h hc;revert h0;generalize X.sum E=F;intro h0;exact wU aS (oO (h0 ts) (oO (Ni _) (h0 _)))
 | false=>rw[qJ hc];exact h0 ts
theorem Jn.expr:∀ n,Jn (X.expr n)
 | 0=>Jn.miss _
 | n+1 =>
  have h:Jn (X.expr n):=Jn.expr n
  Jn.ite (b:=dJ [108,101,116]) ((Jn.take.andThen (Jn.bE.andThen ((Jn.want _).andThen (h.andThen ((Jn.want _).andThen h))))).node aS) <|
  Jn.ite (b:=dJ [105,102]) ((Jn.take.andThen (h.andThen ((Jn.want _).andThen (h.andThen ((Jn.want _).andThen h))))).node aS) <|
  Jn.ite (b:=dJ [102,117,110]) ((Jn.take.andThen (Jn.params.andThen ((Jn.want _).andThen h))).node aS) h.comparison
theorem Jn.bH:Jn X.bH:=Jn.ite (b:=dJ jY) Jn.take Jn.nil
theorem Jn.gW:Jn X.gW:=(Jn.want _).andThen (Jn.bE.andThen ((Jn.want _).andThen (Jn.bE.andThen ((Jn.ite (b:=dJ [97,115]) (Jn.take.andThen Jn.bE) Jn.nil).andThen (Jn.want _)))))
theorem Jn.gU:Jn X.gU:=(Jn.want _).andThen (Jn.bE.andThen ((Jn.ite (b:=dJ [40]) Jn.params Jn.nil).andThen ((Jn.want _).andThen ((Jn.expr 65).andThen (Jn.want _)))))
theorem rU{ts:List Tok}(h:pQ ts≠none):wT (take ts).1:=by
 unfold pQ at h;have hq:∃ t r,ts.dropWhile quiet=t::r:=by
  cases hd:ts.dropWhile quiet with
  | nil=>rw[hd] at h;exact absurd rfl h
  | cons t r=>exact⟨t,r,rfl⟩
 obtain⟨t,r,hd⟩:=hq;have hnq:quiet t=false:=by
  have:=qo quiet ts;rw[hd] at this
  simpa using this
 refine⟨fun p hp=>?_,(ts.takeWhile quiet).map lf,t.1,t.2,?_,?_⟩
 ·obtain⟨t',-,rfl⟩:=fU.1 hp
  rfl
 ·show List.map lf _=_
  rw[hd,nN];rfl
 ·unfold quiet at hnq
  simpa using hnq
theorem wT.append{l r:List Part}(hl:wT l)(hr:wT r):wT (l++r):=by
 obtain⟨l',k,x,e,hk⟩:=hr.2;refine⟨fun p hp=>?_,l++l',k,x,by rw[e,aK],hk⟩;rcases uM.1 hp with h|h
 ·exact hl.1 p h
 ·exact hr.1 p h
theorem wV:∀(n:Nat) (ts:List Tok),(iE n ts).1=[]∨wT (iE n ts).1
 | 0,ts=>.inl rfl
 | n+1,ts=>by
  unfold iE;by_cases h1:(dm ts==0||starts ts)=true
  ·rw[aU h1];exact .inl rfl
  ·rw[aM h1]
   have hk:(dm ts==0)=false:=by
    cases h:(dm ts==0) with
    | false=>rfl
    | true=>rw[h] at h1;exact absurd rfl h1
   have hn:=l_ hk;by_cases h2:dJ [59] ts=true
   ·rw[aU h2];exact .inr (rU hn)
   ·rw[aM h2]
    right
    show wT ((take ts).1++(iE n (take ts).2).1);rcases wV n (take ts).2 with e|e
    ·rw[e,aL];exact rU hn
    ·exact(rU hn).append e
theorem yN:∀ {ps:List Part},(∀ p∈ps,lv p=true)→nT ps
 | [],_=>by rw[nT];trivial
 | p::ps,h=>by
  rw[nT];refine⟨?_,yN (fun q hq=>h q (eX _ hq))⟩;have:=h p (List.mem_cons_self ..);cases p with
  | leaf k x=>rw[UQ];trivial
  | miss m=>cases this
  | br k qs=>cases this
theorem Wv{ts:List Tok}(hk:(dm ts==0)=false):UQ (.br (kid ts).1 (kid ts).2.1):=by
 have hU:=Jn.bH.andThen Jn.gW;have hD:=Jn.bH.andThen Jn.gU;rw[kK];revert hU hD;generalize andThen bH gW=U;generalize andThen bH gU=V;intro hU hD;by_cases hs:starts ts=true
 ·simp only[hs,iK]
  split
  ·rw[UQ];exact⟨⟨fun e=>(by cases e),fun e=>(by cases e)⟩,hU ts⟩
  ·rw[UQ];exact⟨⟨fun e=>(by cases e),fun e=>(by cases e)⟩,hD ts⟩
 ·simp only[Bool.not_eq_true] at hs
  simp only[hs,dw,gY];have hn:=l_ hk;have hj:wT (iB ts).1:=by
   rcases wV ts.length ts with e|e
   ·exfalso
    have h2:=qZ (by rw[hk,hs];rfl);have h3:(take ts).1≠[]:=by
     obtain⟨-,l,k,x,e',-⟩:=rU hn;rw[e'];simp
    have h4:(iB ts).1=[]:=e;rw[h2] at h4
    split at h4
    ·exact h3 h4
    ·have:(take ts).1++(iB (take ts).2).1=[]:=h4
     exact h3 (List.append_eq_nil_iff.1 this).1
   ·exact e
  rw[UQ];exact⟨⟨aS,fun _=>hj⟩,yN hj.1⟩
end X
end
section
variable{k i:Nat}{x s:ah}
namespace X
abbrev Nm:=ah × Nat
inductive Ex where
 | lit (k:Nat) (x:ah)
 | hole (i:Nat)
 | missing
 | var (n:Nm)
 | kH (n:Nm) (v b:Ex)
 | ite (a b c:Ex)
 | fn (ns:List Nm) (b:Ex)
 | bin (l:Ex) (x:ah) (r:Ex)
 | call (f:Ex) (gs:List Ex)
 | list (l:List Ex)
 | group (e:Ex)
def lq:Part→Bool
 | .leaf k _=>k==1||k==2
 | _=>false
def pz(ps:List Part):Nat:=(mM ps).length
theorem bZ(l r:List Part):pz (l++r)=pz l+pz r:=by unfold pz;rw[p_,ay]
theorem rA:pz []=0:=rfl
theorem gF(p:Part)(ps:List Part):pz (p::ps)=pz [p]+pz ps:=bZ [p] ps
theorem ji(k:Nat)(x:ah):pz [.leaf k x]=x.length:=by unfold pz;rw[mM,pb,mM,aL]
theorem iw(k:Nat)(ps:List Part):pz [.br k ps]=pz ps:=by unfold pz;rw[mM,pb,mM,aL]
structure vH(ps:List Part)(k:Nat)(x:ah)(qs:List Part):Prop where
 eq:ps=qs++[.leaf k x]
 qu:∀ q∈qs,lq q=true
 ne:¬(k=1∨k=2)
def sj(ps:List Part):Prop:=(∃ k x qs,vH ps k x qs)∨∃ m,ps=[.miss m]
inductive zG:List Part→Nat→Nm→Prop
 | name (ps:List Part) (x:ah) (qs:List Part) (i:Nat) (h:vH ps 3 x qs):zG ps i (x,i+pz qs)
 | miss (i:Nat):zG [.miss gy] i ([],0)
inductive nU:List Part→Nat→List Nm→Prop
 | nil (i:Nat):nU [] i []
 | name (x:ah) (ps:List Part) (i:Nat) (ns:List Nm) (h:nU ps (i+x.length) ns):nU (.leaf 3 x::ps) i ((x,i)::ns)
 | leaf (k:Nat) (x:ah) (ps:List Part) (i:Nat) (ns:List Nm) (hk:k≠3) (h:nU ps (i+x.length) ns):nU (.leaf k x::ps) i ns
 | lack (ps:List Part) (i:Nat) (ns:List Nm) (h:nU ps i ns):nU (.miss gy::ps) i (([],0)::ns)
 | miss (m:ah) (ps:List Part) (i:Nat) (ns:List Nm) (hm:m≠gy) (h:nU ps i ns):nU (.miss m::ps) i ns
mutual
inductive Rd:Part→Nat→Ex→Prop
 | missing (i:Nat):Rd (.miss kU) i .missing
 | lit (k t:Nat) (x:ah) (ps qs:List Part) (i:Nat) (hk:15≤k∧k≤17) (h:vH ps t x qs):Rd (.br k ps) i (.lit k x)
 | var (x:ah) (ps qs:List Part) (i:Nat) (h:vH ps 3 x qs):Rd (.br 18 ps) i (.var (x,i+pz qs))
 | hole (t:Nat) (x:ah) (ps qs:List Part) (i:Nat) (h:vH ps t x qs):Rd (.br 19 ps) i (.hole (i+pz qs))
 | kH (t1 n t2 t3:List Part) (p1 p2:Part) (i:Nat) (nm:Nm) (e1 e2:Ex) (h1:sj t1) (hn:zG n (i+pz t1) nm) (h2:sj t2) (hv:Rd p1 (i+pz t1+pz n+pz t2) e1) (h3:sj t3) (hb:Rd p2 (i+pz t1+pz n+pz t2+pz [p1]+pz t3) e2):Rd (.br 7 (t1++(n++(t2++([p1]++(t3++[p2])))))) i (.kH nm e1 e2)
 | ite (ps:List Part) (i:Nat) (a b c:Ex) (h:nA ps i [a,b,c]):Rd (.br 8 ps) i (.ite a b c)
 | fn (t1 qs t2:List Part) (p:Part) (i:Nat) (ns:List Nm) (e:Ex) (h1:sj t1) (hn:nU qs (i+pz t1) ns) (h2:sj t2) (hb:Rd p (i+pz t1+pz qs+pz t2) e):Rd (.br 9 (t1++([.br 6 qs]++(t2++[p])))) i (.fn ns e)
 | bin (p1 p2:Part) (t qs:List Part) (k:Nat) (x:ah) (i:Nat) (e1 e2:Ex) (hl:Rd p1 i e1) (h:vH t k x qs) (hr:Rd p2 (i+pz [p1]+pz t) e2):Rd (.br 10 ([p1]++(t++[p2]))) i (.bin e1 x e2)
 | call (p:Part) (gs:List Part) (i:Nat) (e:Ex) (es:List Ex) (hc:Rd p i e) (ha:nA gs (i+pz [p]) es):Rd (.br 11 ([p]++[.br 12 gs])) i (.call e es)
 | list (ps:List Part) (i:Nat) (es:List Ex) (h:nA ps i es):Rd (.br 13 ps) i (.list es)
 | group (ps:List Part) (i:Nat) (e:Ex) (h:nA ps i [e]):Rd (.br 14 ps) i (.group e)
inductive nA:List Part→Nat→List Ex→Prop
 | nil (i:Nat):nA [] i []
 | leaf (k:Nat) (x:ah) (ps:List Part) (i:Nat) (es:List Ex) (h:nA ps (i+x.length) es):nA (.leaf k x::ps) i es
 | miss (m:ah) (ps:List Part) (i:Nat) (es:List Ex) (hm:m≠kU) (h:nA ps i es):nA (.miss m::ps) i es
 | cons (p:Part) (ps:List Part) (i:Nat) (e:Ex) (es:List Ex) (hp:Rd p i e) (h:nA ps (i+pz [p]) es):nA (p::ps) i (e::es)
end
def Rx(p:Part):Prop:=∀ i,∃ e,Rd p i e
def JG(f:R):Prop:=∀ ts,∃ p,(f ts).1=[p]∧Rx p
theorem jo{ts:List Tok}(h:pQ ts≠none):∃ k x qs,vH (take ts).1 k x qs∧pQ ts=some (k,x):=by
 unfold pQ at h;cases hd:ts.dropWhile quiet with
 | nil=>rw[hd] at h;exact absurd rfl h
 | cons t l =>
  have hne:quiet t=false:=by
   have:=qo quiet ts;rw[hd] at this
   simpa using this
  refine⟨t.1,t.2,(ts.takeWhile quiet).map lf,⟨?_,fun q hq=>?_,?_⟩,?_⟩
  ·show((ts.takeWhile quiet++(ts.dropWhile quiet).take 1).map lf)=_
   rw[hd,nN];rfl
  ·obtain⟨u,hu,rfl⟩:=fU.1 hq
   exact List.all_eq_true.1 (List.all_takeWhile (p:=quiet) (l:=ts)) u hu
  ·unfold quiet at hne;simp at hne;omega
  ·unfold pQ;rw[hd];rfl
theorem lM(s:ah)(ts:List Tok):sj (want s ts).1:=by
 unfold want
 split
 ·next h =>
  obtain⟨k,x,qs,h1,-⟩:=jo (bY h);exact .inl ⟨k,x,qs,h1⟩
 ·exact .inr ⟨s,rfl⟩
theorem A9{ts:List Tok}(h:pQ ts=some (k,x)):dm ts=k:=by unfold dm;rw[h]
theorem qX(ts:List Tok)(i:Nat):∃ nm,zG (bE ts).1 i nm:=by
 unfold bE
 split
 ·next h =>
  obtain⟨k,x,qs,h1,h2⟩:=jo (jM aS h);have:=A9 h2;rw[this] at h;obtain rfl:k=3:=by simpa using h
  exact⟨_,.name _ x qs i h1⟩
 ·exact⟨_,.miss i⟩
theorem pE{q:Part}(h:lq q=true):∃ k x,q=.leaf k x∧(k=1∨k=2):=by
 cases q with
 | leaf k x=>exact⟨k,x,rfl,by simpa [lq] using h⟩
 | miss m=>cases h
 | br k ps=>cases h
theorem nA.skip:∀ {qs:List Part} {ps:List Part} {i:Nat} {es:List Ex},(∀ q∈qs,∃ k x,q=.leaf k x)→nA ps (i+pz qs) es→nA (qs++ps) i es
 | [],ps,i,es,_,h=>by rw[rA] at h;exact h
 | q::qs,ps,i,es,hq,h=>by
  obtain⟨k,x,rfl⟩:=hq q aT;have e1:pz (.leaf k x::qs)=x.length+pz qs:=by unfold pz;rw[mM,pb,ay]
  rw[e1,← fK] at h;exact .leaf k x _ _ _ (nA.skip (fun q' hq'=>hq q' (eX _ hq')) h)
theorem vH.leaves{ps:List Part}{qs:List Part}(h:vH ps k x qs):∀ q∈ps,∃ k x,q=.leaf k x:=by
 intro q hq;rw[h.eq] at hq;rcases uM.1 hq with h1|h1
 ·obtain⟨k,x,e,-⟩:=pE (h.qu q h1)
  exact⟨k,x,e⟩
 ·obtain rfl:=jP.1 h1
  exact⟨k,x,rfl⟩
theorem nA.y_{t ps:List Part}{es:List Ex}(ht:sj t)(hx:t≠[.miss kU])(h:nA ps (i+pz t) es):nA (t++ps) i es:=by
 rcases ht with ⟨k,x,qs,h1⟩|⟨m,rfl⟩
 ·exact nA.skip h1.leaves h
 ·have:pz [.miss m]=0:=rfl
  rw[this] at h;exact .miss m _ _ _ (fun e=>hx (by rw[e])) h
theorem wo(s:ah)(hs:s≠kU)(ts:List Tok):(want s ts).1≠[.miss kU]:=by
 unfold want
 split
 ·next h =>
  obtain⟨k,x,qs,h1,-⟩:=jo (bY h);rw[h1.eq];intro e;cases qs with
  | nil=>cases e
  | cons q qs =>
   have:=congrArg List.length e;simp at this
 ·intro e
  cases e
  exact hs rfl
theorem A_{ps:List Part}{qs:List Part}(h:vH ps k x qs):ps≠[.miss kU]:=by
 intro e;obtain⟨k',x',e'⟩:=h.leaves (.miss kU) (by rw[e];simp);cases e'
theorem Dq{E:R}(hE:JG E){t:List Part}(ht:sj t)(hx:t≠[.miss kU]):∀(n:Nat) (ts:List Tok) (i:Nat),∃ es,nA ((iA E n ts).1++t) i es
 | 0,ts,i=>⟨[],by
   show nA ([]++t) i [];have:=nA.y_ (ps:=[]) (i:=i) (es:=[]) ht hx (.nil _);rw[aL] at this;exact this⟩
 | n+1,ts,i=>by
  unfold iA
  split
  ·next h =>
   obtain⟨k,x,qs,h1,-⟩:=jo (bY h);obtain⟨p,hp,hr⟩:=hE (take ts).2;obtain⟨e,he⟩:=hr (i+pz (take ts).1);obtain⟨es,hes⟩:=Dq hE ht hx n (E (take ts).2).2 (i+pz (take ts).1+pz [p]);refine⟨e::es,?_⟩;show nA (((take ts).1++((E (take ts).2).1++(iA E n (E (take ts).2).2).1))++t) i _;rw[hp,aK];refine nA.y_ (.inl ⟨k,x,qs,h1⟩) (A_ h1) ?_;exact .cons p _ _ e es he hes
  ·have:=nA.y_ (ps:=[]) (i:=i) (es:=[]) ht hx (.nil _)
   rw[aL] at this;exact⟨[],this⟩
theorem yF{E:R}(hE:JG E)(hs:s≠kU)(ts:List Tok)(i:Nat):∃ es,nA (dz E s ts).1 i es:=by
 unfold dz
 split
 ·have:=nA.y_ (ps:=[]) (i:=i) (es:=[]) (lM s ts) (wo s hs ts) (.nil _)
  rw[aL] at this;exact⟨[],this⟩
 ·obtain⟨p,hp,hr⟩:=hE ts
  obtain⟨e,he⟩:=hr i;obtain⟨es,hes⟩:=Dq hE (lM s ((fun ts=>iA E ts.length ts) (E ts).2).2) (wo s hs _) (E ts).2.length (E ts).2 (i+pz [p]);refine⟨e::es,?_⟩;show nA ((E ts).1++((iA E (E ts).2.length (E ts).2).1++_)) i _;rw[hp];exact .cons p _ _ e es he hes
theorem nU.skip:∀ {qs:List Part} {ps:List Part} {i:Nat} {ns:List Nm},(∀ q∈qs,∃ k x,q=.leaf k x∧k≠3)→nU ps (i+pz qs) ns→nU (qs++ps) i ns
 | [],ps,i,ns,_,h=>by rw[rA] at h;exact h
 | q::qs,ps,i,ns,hq,h=>by
  obtain⟨k,x,rfl,hk⟩:=hq q aT;have e1:pz (.leaf k x::qs)=x.length+pz qs:=by unfold pz;rw[mM,pb,ay]
  rw[e1,← fK] at h;exact .leaf k x _ _ _ hk (nU.skip (fun q' hq'=>hq q' (eX _ hq')) h)
theorem KR{qs:List Part}(h:∀ q∈qs,lq q=true):∀ q∈qs,∃ k x,q=.leaf k x∧k≠3:=fun q hq=>by
 obtain⟨k,x,e,hk⟩:=pE (h q hq);exact⟨k,x,e,au⟩
theorem wF(hs:s≠gy)(ts:List Tok){ps:List Part}{ns:List Nm}(h:nU ps (i+pz (want s ts).1) ns):nU ((want s ts).1++ps) i ns:=by
 unfold want at h ⊢
 split
 ·next hi =>
  rw[aU hi] at h;obtain⟨k,x,qs,h1,h2⟩:=jo (bY hi);have hk:k≠3:=by
   unfold dJ at hi;rw[h2] at hi;intro e;subst e;simp at hi
  refine nU.skip (fun q hq=>?_) h;rw[h1.eq] at hq;rcases uM.1 hq with g|g
  ·exact KR h1.qu q g
  ·obtain rfl:=jP.1 g
   exact⟨k,x,rfl,hk⟩
 ·next hi =>
  rw[aM hi] at h;exact .miss s _ _ _ hs h
theorem Dt(ts:List Tok){ps:List Part}(h:∀ j,∃ ns,nU ps j ns):∃ ns,nU ((bE ts).1++ps) i ns:=by
 unfold bE
 split
 ·next hi =>
  obtain⟨k,x,qs,h1,h2⟩:=jo (jM aS hi);have:=A9 h2;rw[this] at hi;obtain rfl:k=3:=by simpa using hi
  obtain⟨ns,hns⟩:=h (i+pz qs+x.length);refine⟨(x,i+pz qs)::ns,?_⟩;rw[h1.eq,aK];exact nU.skip (KR h1.qu) (.name x _ _ _ hns)
 ·obtain⟨ns,hns⟩:=h i
  exact⟨_,.lack _ _ _ hns⟩
theorem Du{s:ah}(hs:s≠gy):∀(n:Nat) (ts ts':List Tok) (i:Nat),∃ ns,nU ((iA bE n ts).1++(want s ts').1) i ns
 | 0,ts,ts',i=>⟨[],by
   show nU ([]++(want s ts').1) i [];have:=wF (ps:=[]) (i:=i) (ns:=[]) hs ts' (.nil _);rw[aL] at this;exact this⟩
 | n+1,ts,ts',i=>by
  unfold iA
  split
  ·next h =>
   obtain⟨k,x,qs,h1,h2⟩:=jo (bY h);have hk:k≠3:=by
    unfold dJ at h;rw[h2] at h;intro e;subst e;simp at h
   obtain⟨ns,hns⟩:=Dt (take ts).2 (ps:=(iA bE n (bE (take ts).2).2).1++(want s ts').1) (i:=i+pz (take ts).1) (fun j=>Du hs n _ _ j);refine⟨ns,?_⟩;show nU (((take ts).1++((bE (take ts).2).1++(iA bE n (bE (take ts).2).2).1))++_) i _;rw[aK,aK];refine nU.skip (fun q hq=>?_) hns;rw[h1.eq] at hq;rcases uM.1 hq with g|g
   ·exact KR h1.qu q g
   ·obtain rfl:=jP.1 g
    exact⟨k,x,rfl,hk⟩
  ·have:=wF (ps:=[]) (i:=i) (ns:=[]) hs ts' (.nil _)
   rw[aL] at this;exact⟨[],this⟩
theorem Ba(ts:List Tok):∃ qs,(params ts).1=[.br 6 qs]∧∀ i,∃ ns,nU qs i ns:=by
 refine⟨_,rfl,fun i=>?_⟩;show ∃ ns,nU ((want [40] ts).1++(dz bE [41] (want [40] ts).2).1) i ns;have key:∀ j,∃ ns,nU (dz bE [41] (want [40] ts).2).1 j ns:=fun j=>by
  unfold dz
  split
  ·have:=wF (s:=[41]) (ps:=[]) (i:=j) (ns:=[]) aS (want [40] ts).2 (.nil _)
   rw[aL] at this;exact⟨[],this⟩
  ·exact Dt _ (fun j=>Du aS _ _ _ j)
 obtain⟨ns,h⟩:=key (i+pz (want [40] ts).1);exact⟨ns,wF aS ts h⟩
theorem wG{ts:List Tok}(h:pQ ts≠none)(hk:(15≤k∧k≤17)∨k=19∨(k=18∧(dm ts==3)=true)):∃ p,(node k take ts).1=[p]∧Rx p:=by
 obtain⟨t,x,qs,h1,h2⟩:=jo h;refine⟨_,rfl,fun i=>?_⟩;rcases hk with hk|rfl|⟨rfl,hk⟩
 ·exact⟨_,.lit k t x _ qs i hk h1⟩
 ·exact⟨_,.hole t x _ qs i h1⟩
 ·rw[A9 h2] at hk
  obtain rfl:t=3:=by simpa using hk
  exact⟨_,.var x _ qs i h1⟩
theorem Sq{E:R}(hE:JG E):JG (part E):=by
 intro ts;unfold part
 split
 ·next h=>exact wG (jM aS h) (.inl ⟨aS,aS⟩)
 split
 ·next h=>exact wG (jM aS h) (.inl ⟨aS,aS⟩)
 split
 ·next h =>
  refine wG ?_ (.inl ⟨aS,aS⟩);rcases jy.1 h with g|g
  ·exact bY g
  ·exact bY g
 split
 ·next h=>exact wG (jM aS h) (.inr (.inr ⟨rfl,h⟩))
 split
 ·next h=>exact wG (bY h) (.inr (.inl rfl))
 split
 ·next h =>
  obtain⟨k,x,qs,h1,-⟩:=jo (bY h);obtain⟨p,hp,hr⟩:=hE (take ts).2;refine⟨_,rfl,fun i=>?_⟩;obtain⟨e,he⟩:=hr (i+pz (take ts).1);refine⟨.group e,.group _ i e ?_⟩;show nA ((take ts).1++((E (take ts).2).1++(want [41] (E (take ts).2).2).1)) i [e];rw[hp];refine nA.y_ (.inl ⟨k,x,qs,h1⟩) (A_ h1) (.cons p _ _ e [] he ?_);have:=nA.y_ (ps:=[]) (i:=i+pz (take ts).1+pz [p]) (es:=[]) (lM [41] (E (take ts).2).2) (wo [41] aS _) (.nil _);rw[aL] at this;exact this
 split
 ·next h =>
  obtain⟨k,x,qs,h1,-⟩:=jo (bY h);refine⟨_,rfl,fun i=>?_⟩;obtain⟨es,hes⟩:=yF hE (s:=[93]) aS (take ts).2 (i+pz (take ts).1);exact⟨.list es,.list _ i es (nA.y_ (.inl ⟨k,x,qs,h1⟩) (A_ h1) hes)⟩
 ·exact⟨_,rfl,fun i=>⟨_,.missing i⟩⟩
theorem Bb{E:R}(hE:JG E):∀(n:Nat) (p:Part) (ts:List Tok),Rx p→∃ q,(fG E n [p] ts).1=[q]∧Rx q
 | 0,p,ts,h=>⟨p,rfl,h⟩
 | n+1,p,ts,h=>by
  unfold fG
  split
  ·next hi =>
   refine Bb hE n _ _ fun i=>?_
   obtain⟨k,x,qs,h1,-⟩:=jo (bY hi);obtain⟨e,he⟩:=h i;obtain⟨es,hes⟩:=yF hE (s:=[41]) aS (take ts).2 (i+pz [p]+pz (take ts).1);exact⟨.call e es,.call p _ i e es he (nA.y_ (.inl ⟨k,x,qs,h1⟩) (A_ h1) hes)⟩
  ·exact⟨p,rfl,h⟩
theorem Sv{E:R}(hE:JG E):JG (call E):=fun ts=>by
 obtain⟨p,hp,hr⟩:=Sq hE ts;unfold call;rw[hp];exact Bb hE _ p _ hr
theorem Sy{one:R}(h1:JG one){p:Part}(hp:Rx p){ts:List Tok}(hn:pQ ts≠none):Rx (.br 10 ([p]++(andThen take one ts).1)):=by
 intro i;obtain⟨k,x,qs,ht,-⟩:=jo hn;obtain⟨q,hq,hr⟩:=h1 (take ts).2;obtain⟨e,he⟩:=hp i;obtain⟨e2,he2⟩:=hr (i+pz [p]+pz (take ts).1);refine⟨.bin e x e2,?_⟩;show Rd (.br 10 ([p]++((take ts).1++(one (take ts).2).1))) i _;rw[hq];exact .bin p q _ qs k x i e e2 he ht he2
theorem Dv{one:R}(h1:JG one){ok:List Tok→Bool}(hok:∀ ts,ok ts=true→pQ ts≠none):∀(n:Nat) (p:Part) (ts:List Tok),Rx p→∃ q,(iG one ok n [p] ts).1=[q]∧Rx q
 | 0,p,ts,h=>⟨p,rfl,h⟩
 | n+1,p,ts,h=>by
  unfold iG
  split
  ·next hi=>exact Dv h1 hok n _ _ (Sy h1 h (hok ts hi))
  ·exact⟨p,rfl,h⟩
theorem ML{one:R}(h1:JG one){ok:List Tok→Bool}(hok:∀ ts,ok ts=true→pQ ts≠none):JG (row one ok):=fun ts=>by
 obtain⟨p,hp,hr⟩:=h1 ts;unfold row;rw[hp];exact Dv h1 hok _ p _ hr
theorem Wp{E:R}(hE:JG E):JG (sum E) :=
 ML (ML (Sv hE) (fun _ h=>bY h)) (fun ts h=>by
  rcases jy.1 h with g|g
  ·rcases jy.1 g with g|g
   ·exact bY g
   ·exact bY g
  ·exact bY g)
theorem Bc{E:R}(hE:JG E):JG (comparison E):=fun ts=>by
 have hs:=Wp hE;obtain⟨p,hp,hr⟩:=hs ts;unfold comparison
 split
 ·next h =>
  rw[hp];refine⟨_,rfl,Sy hs hr ?_⟩;rcases jy.1 h with g|g
  ·exact bY g
  ·exact bY g
 ·exact⟨p,hp,hr⟩
theorem Ib:∀ n,JG (expr n)
 | 0=>fun ts=>⟨_,rfl,fun i=>⟨_,.missing i⟩⟩
 | n+1=>fun ts=>by
  have hE:=Ib n;unfold expr;generalize expr n=E at *
  split
  ·next h =>
   obtain⟨k,x,qs,h1,-⟩:=jo (bY h);refine⟨_,rfl,fun i=>?_⟩;obtain⟨nm,hn⟩:=qX (take ts).2 (i+pz (take ts).1);obtain⟨p1,hp1,hr1⟩:=hE (want [61] (bE (take ts).2).2).2;obtain⟨p2,hp2,hr2⟩:=hE (want [105,110] (E (want [61] (bE (take ts).2).2).2).2).2;obtain⟨e1,he1⟩:=hr1 (i+pz (take ts).1+pz (bE (take ts).2).1+pz (want [61] (bE (take ts).2).2).1);obtain⟨e2,he2⟩:=hr2 (i+pz (take ts).1+pz (bE (take ts).2).1+pz (want [61] (bE (take ts).2).2).1+pz [p1]+pz (want [105,110] (E (want [61] (bE (take ts).2).2).2).2).1);refine⟨.kH nm e1 e2,?_⟩;show Rd (.br 7 ((take ts).1++((bE (take ts).2).1++((want [61] (bE (take ts).2).2).1++((E (want [61] (bE (take ts).2).2).2).1++((want [105,110] (E (want [61] (bE (take ts).2).2).2).2).1++(E (want [105,110] (E (want [61] (bE (take ts).2).2).2).2).2).1)))))) i _;rw[hp1,hp2];exact .kH _ _ _ _ p1 p2 i nm e1 e2 (.inl ⟨k,x,qs,h1⟩) hn (lM _ _) he1 (lM _ _) he2
  split
  ·next h =>
   obtain⟨k,x,qs,h1,-⟩:=jo (bY h);refine⟨_,rfl,fun i=>?_⟩;obtain⟨p1,hp1,hr1⟩:=hE (take ts).2;obtain⟨p2,hp2,hr2⟩:=hE (want [116,104,101,110] (E (take ts).2).2).2;obtain⟨p3,hp3,hr3⟩:=hE (want [101,108,115,101] (E (want [116,104,101,110] (E (take ts).2).2).2).2).2;obtain⟨e1,he1⟩:=hr1 (i+pz (take ts).1);obtain⟨e2,he2⟩:=hr2 (i+pz (take ts).1+pz [p1]+pz (want [116,104,101,110] (E (take ts).2).2).1);obtain⟨e3,he3⟩:=hr3 (i+pz (take ts).1+pz [p1]+pz (want [116,104,101,110] (E (take ts).2).2).1+pz [p2]+pz (want [101,108,115,101] (E (want [116,104,101,110] (E (take ts).2).2).2).2).1);refine⟨.ite e1 e2 e3,.ite _ i e1 e2 e3 ?_⟩;show nA ((take ts).1++((E (take ts).2).1++((want [116,104,101,110] (E (take ts).2).2).1++((E (want [116,104,101,110] (E (take ts).2).2).2).1++((want [101,108,115,101] (E (want [116,104,101,110] (E (take ts).2).2).2).2).1++(E (want [101,108,115,101] (E (want [116,104,101,110] (E (take ts).2).2).2).2).2).1))))) i _;rw[hp1,hp2,hp3];have s3:=nA.y_ (i:=i+pz (take ts).1+pz [p1]+pz (want [116,104,101,110] (E (take ts).2).2).1+pz [p2]) (lM [101,108,115,101] (E (want [116,104,101,110] (E (take ts).2).2).2).2) (wo _ aS _) (.cons p3 [] _ e3 [] he3 (.nil _));have s2:=nA.y_ (i:=i+pz (take ts).1+pz [p1]) (lM [116,104,101,110] (E (take ts).2).2) (wo _ aS _) (.cons p2 _ _ e2 _ he2 s3);exact nA.y_ (.inl ⟨k,x,qs,h1⟩) (A_ h1) (.cons p1 _ _ e1 _ he1 s2)
  split
  ·next h =>
   obtain⟨k,x,qs,h1,-⟩:=jo (bY h);refine⟨_,rfl,fun i=>?_⟩;obtain⟨ps,hps,hns⟩:=Ba (take ts).2;obtain⟨ns,hn⟩:=hns (i+pz (take ts).1);obtain⟨p,hp,hr⟩:=hE (want [61,62] (params (take ts).2).2).2;obtain⟨e,he⟩:=hr (i+pz (take ts).1+pz ps+pz (want [61,62] (params (take ts).2).2).1);refine⟨.fn ns e,?_⟩;show Rd (.br 9 ((take ts).1++((params (take ts).2).1++((want [61,62] (params (take ts).2).2).1++(E (want [61,62] (params (take ts).2).2).2).1)))) i _;rw[hps,hp];exact .fn _ ps _ p i ns e (.inl ⟨k,x,qs,h1⟩) hn (lM _ _) he
  ·exact Bc hE ts
end X
end
end Go.Proofs.YtoohcklcppnafaaGreatDoor
