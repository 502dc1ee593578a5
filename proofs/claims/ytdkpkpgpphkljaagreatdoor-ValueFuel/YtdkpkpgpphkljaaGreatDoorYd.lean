/- Plain mathematics: how many parts the tree of a text has,and of what kinds they are. -/
import Derived.Test.YtdkpkpgpphkljaaGreatDoorXy
namespace Go.Proofs.YtdkpkpgpphkljaaGreatDoor
open M
section
variable{c e k:Nat}
namespace X
mutual
def Nh:Part→Prop
 | .leaf _ _=>True
 | .miss _=>True
 | .br k ps=>k≠0∧iR ps
def iR:List Part→Prop
 | []=>True
 | p::ps=>Nh p∧iR ps
end
theorem aR(l r:List Part):dQ (l++r)=dQ l+dQ r:=by
 induction l with
 | nil=>simp[dQ]
 | cons p l ih=>rw[dx,dQ,ih,dQ];omega
theorem jm{l r:List Part}(hl:iR l)(hr:iR r):iR (l++r):=by
 induction l with
 | nil=>exact hr
 | cons p l ih=>rw[dx,iR];rw[iR] at hl;exact⟨hl.1,ih hl.2⟩
theorem EH(ts:List Tok):dQ (ts.map lf)=ts.length:=by
 induction ts with
 | nil=>rfl
 | cons t ts ih=>rw[fQ,dQ,ih,lf,iM,aW];omega
theorem EI(ts:List Tok):iR (ts.map lf):=by
 induction ts with
 | nil=>rw[List.map_nil,iR];trivial
 | cons t ts ih=>rw[fQ,iR,lf,Nh];exact⟨trivial,ih⟩
def At(f:R)(c:Nat)(ts:List Tok):Prop:=iR (f ts).1∧dQ (f ts).1+7*(f ts).2.length≤c+7*ts.length
def Sz(f:R)(c:Nat):Prop:=∀ ts,At f c ts
theorem At.mono{f:R}{d:Nat}{ts:List Tok}(h:At f c ts)(hd:c≤d):At f d ts:=⟨h.1,by have:=h.2;omega⟩
theorem Sz.mono{f:R}{c d:Nat}(h:Sz f c)(hd:c≤d):Sz f d:=fun ts=>(h ts).mono hd
theorem At.andThen{f g:R}{c d:Nat}{ts:List Tok}(hf:At f c ts)(hg:Sz g d):At (andThen f g) (c+d) ts:=by
 have h2:=hg (f ts).2;refine⟨jm hf.1 h2.1,?_⟩;have e1:=hf.2;have e2:=h2.2;show dQ ((f ts).1++(g (f ts).2).1)+7*(g (f ts).2).2.length≤_;rw[aR];omega
theorem Sz.andThen{f g:R}{c d:Nat}(hf:Sz f c)(hg:Sz g d):Sz (andThen f g) (c+d):=fun ts=>(hf ts).andThen hg
theorem At.node{f:R}{c:Nat}{ts:List Tok}(h:At f c ts){k:Nat}(hk:k≠0):At (node k f) (c+1) ts:=by
 refine⟨by show iR [.br k (f ts).1];rw[iR,iR,Nh];exact⟨⟨hk,h.1⟩,trivial⟩,?_⟩;have:=h.2;show dQ [.br k (f ts).1]+7*(f ts).2.length≤_;rw[dQ,dQ,iM];omega
theorem Sz.nil:Sz (fun ts=>([],ts)) 0:=fun ts=>⟨by show iR [];rw[iR];trivial,by show dQ []+7*ts.length≤_;rw[dQ];omega⟩
theorem Sz.miss(m:ah):Sz (fun ts=>([.miss m],ts)) 1:=fun ts=>⟨by show iR [.miss m];rw[iR,iR,Nh];exact⟨trivial,trivial⟩,by show dQ [.miss m]+7*ts.length≤_;rw[dQ,dQ,iM];omega⟩
theorem At.ite{f g:R}{b:List Tok→Bool}{ts:List Tok}(hf:b ts=true→At f c ts)(hg:b ts=false→At g c ts):At (fun ts=>if b ts then f ts else g ts) c ts:=by
 unfold At at *;by_cases h:b ts=true
 ·simp only[h,sj];exact hf h
 ·simp only[Bool.not_eq_true] at h;simp only[h,eO,nR];exact hg h
theorem Sz.ite{f g:R}{c:Nat}{b:List Tok→Bool}(hf:Sz f c)(hg:Sz g c):Sz (fun ts=>if b ts then f ts else g ts) c:=fun ts=>At.ite (fun _=>hf ts) (fun _=>hg ts)
theorem oJ(ts:List Tok):dQ (take ts).1=(take ts).1.length:=by
 show dQ (List.map lf _)=(List.map lf _).length;rw[EH,eG]
theorem rJ(ts:List Tok):iR (take ts).1:=EI _
theorem Sz.take:Sz take 0:=fun ts=>⟨rJ ts,by have:=take_len ts;rw[oJ];omega⟩
theorem At.tk{g:R}{ts:List Tok}(hn:iE ts≠none)(hg:Sz g c)(he:c≤6+e):At (X.andThen X.take g) e ts:=by
 have h2:=hg (X.take ts).2;refine⟨jm (rJ ts) h2.1,?_⟩;have e2:=h2.2;have l1:=take_len ts;have l2:=fD hn;show dQ ((X.take ts).1++(g (X.take ts).2).1)+7*(g (X.take ts).2).2.length≤_;rw[aR,oJ];omega
theorem At.tk1{ts:List Tok}(hn:iE ts≠none)(hk:k≠0):At (X.node k X.take) 0 ts:=by
 refine⟨by show iR [.br k (X.take ts).1];rw[iR,iR,Nh];exact⟨⟨hk,rJ ts⟩,trivial⟩,?_⟩;have l1:=take_len ts;have l2:=fD hn;show dQ [.br k (X.take ts).1]+7*(X.take ts).2.length≤_;rw[dQ,dQ,iM,oJ];omega
theorem At.tkn{g:R}{ts:List Tok}(hn:iE ts≠none)(hg:Sz g c)(he:c≤5+e)(hk:k≠0):At (X.node k (X.andThen X.take g)) e ts:=by
 have h2:=hg (X.take ts).2;refine⟨by show iR [.br k _];rw[iR,iR,Nh];exact⟨⟨hk,jm (rJ ts) h2.1⟩,trivial⟩,?_⟩;have e2:=h2.2;have l1:=take_len ts;have l2:=fD hn;show dQ [.br k ((X.take ts).1++(g (X.take ts).2).1)]+7*(g (X.take ts).2).2.length≤_;rw[dQ,dQ,iM,aR,oJ];omega
theorem Sz.want(s:ah):Sz (want s) 1:=Sz.ite (b:=bX s) (Sz.take.mono (by omega)) (Sz.miss s)
theorem Sz.aV:Sz aV 1:=Sz.ite (b:=fun ts=>bJ ts==3) (Sz.take.mono (by omega)) (Sz.miss fF)
theorem Sz.fO{one:R}(h:Sz one 1):∀ n,Sz (fO one n) 0
 | 0=>Sz.nil
 | n+1=>fun ts=>At.ite (b:=bX [44]) (fun hc=>At.tk (aZ hc) (h.andThen (Sz.fO h n)) (by omega)) (fun _=>Sz.nil ts)
theorem Sz.bO{one:R}(h:Sz one 1)(e:ah):Sz (bO one e) 2 :=
 Sz.ite (b:=bX e) ((Sz.want e).mono (by omega)) (h.andThen (Sz.andThen (c:=0) (fun ts=>Sz.fO h ts.length ts) (Sz.want e)))
theorem Sz.params:Sz params 4:=fun ts=>At.node (c:=3) (((Sz.want [40]).andThen (Sz.aV.bO [41])) ts) (by decide)
theorem Hy{one:R}{ok:List Tok→Bool}(h:Sz one 1)(hok:∀ ts,ok ts=true→iE ts≠none):∀(n:Nat) (p:List Part) (ts:List Tok),iR p→iR (fK one ok n p ts).1∧dQ (fK one ok n p ts).1+7*(fK one ok n p ts).2.length≤dQ p+7*ts.length
 | 0,p,ts,hp=>⟨hp,aj _⟩
 | n+1,p,ts,hp=>by
  unfold X.fK;by_cases hc:ok ts=true
  ·rw[aL hc]
   have h1:=At.tk (e:=0) (hok ts hc) h (by omega);have l0:(X.andThen X.take one ts).1=(X.take ts).1++(one (X.take ts).2).1:=rfl;have h2:=Hy h hok n [.br 10 (p++(X.andThen X.take one ts).1)] (X.andThen X.take one ts).2 (by rw[iR,iR,Nh];exact⟨⟨by decide,jm hp h1.1⟩,trivial⟩);refine⟨h2.1,?_⟩;have e2:=h2.2;have e3:=h (X.take ts).2;have e4:=e3.2;have l1:=take_len ts;have l2:=fD (hok ts hc);have l5:dQ [.br 10 (p++(X.andThen X.take one ts).1)]=1+(dQ p+((X.take ts).1.length+dQ (one (X.take ts).2).1))+0:=by
    rw[dQ,dQ,iM,aR,l0,aR,oJ]
   have l3:(X.andThen X.take one ts).2.length=(one (X.take ts).2).2.length:=rfl;rw[l5,l3] at e2;omega
  ·rw[aG hc];exact⟨hp,aj _⟩
theorem Sz.row{one:R}{ok:List Tok→Bool}(h:Sz one 1)(hok:∀ ts,ok ts=true→iE ts≠none):Sz (row one ok) 1:=by
 intro ts;have h1:=h ts;have h2:=Hy h hok (one ts).2.length (one ts).1 (one ts).2 h1.1;refine⟨h2.1,?_⟩;have e1:=h1.2;have e2:=h2.2;show dQ (X.fK one ok (one ts).2.length (one ts).1 (one ts).2).1+7*(X.fK one ok (one ts).2.length (one ts).1 (one ts).2).2.length≤_;omega
theorem Wx{E:R}(h:Sz E 1){ts:List Tok}(hn:iE ts≠none):iR (args E ts).1∧dQ (args E ts).1+1+7*(args E ts).2.length≤7*ts.length:=by
 have h2:=(h.bO [41]) (X.take ts).2;have l1:=take_len ts;have l2:=fD hn;have e2:=h2.2;refine⟨(At.tkn (k:=12) (e:=0) hn (h.bO [41]) (by omega) (by decide)).1,?_⟩;show dQ [.br 12 ((X.take ts).1++(X.bO E [41] (X.take ts).2).1)]+1+7*(X.bO E [41] (X.take ts).2).2.length≤_;rw[dQ,dQ,iM,aR,oJ];omega
theorem CZ{E:R}(h:Sz E 1):∀(n:Nat) (p:List Part) (ts:List Tok),iR p→iR (dW E n p ts).1∧dQ (dW E n p ts).1+7*(dW E n p ts).2.length≤dQ p+7*ts.length
 | 0,p,ts,hp=>⟨hp,aj _⟩
 | n+1,p,ts,hp=>by
  unfold X.dW;by_cases hc:bX [40] ts=true
  ·rw[aL hc]
   have h1:=Wx h (aZ hc);have h2:=CZ h n [.br 11 (p++(X.args E ts).1)] (X.args E ts).2 (by rw[iR,iR,Nh];exact⟨⟨by decide,jm hp h1.1⟩,trivial⟩);refine⟨h2.1,?_⟩;have e1:=h1.2;have e2:=h2.2;rw[dQ,dQ,iM,aR] at e2;omega
  ·rw[aG hc];exact⟨hp,aj _⟩
theorem Sz.part{E:R}(h:Sz E 1):Sz (part E) 1:=fun ts =>
 At.ite (b:=fun ts=>bJ ts==5) (fun hc=>(At.tk1 (gq (by decide) hc) (by decide)).mono (by omega)) fun _ =>
 At.ite (b:=fun ts=>bJ ts==6) (fun hc=>(At.tk1 (gq (by decide) hc) (by decide)).mono (by omega)) fun _ =>
 At.ite (b:=fun ts=>bX [116,114,117,101] ts||bX [102,97,108,115,101] ts) (fun hc=>(At.tk1 (by rcases(gU _ _).mp hc with h|h<;>exact aZ h) (by decide)).mono (by omega)) fun _ =>
 At.ite (b:=fun ts=>bJ ts==3) (fun hc=>(At.tk1 (gq (by decide) hc) (by decide)).mono (by omega)) fun _ =>
 At.ite (b:=bX [63]) (fun hc=>(At.tk1 (aZ hc) (by decide)).mono (by omega)) fun _ =>
 At.ite (b:=bX [40]) (fun hc=>At.tkn (aZ hc) (h.andThen (Sz.want [41])) (by omega) (by decide)) fun _ =>
 At.ite (b:=bX [91]) (fun hc=>At.tkn (aZ hc) (h.bO [93]) (by omega) (by decide)) fun _=>Sz.miss _ ts
theorem Sz.call{E:R}(h:Sz E 1):Sz (call E) 1:=by
 intro ts;have h1:=Sz.part h ts;have h2:=CZ h (X.part E ts).2.length (X.part E ts).1 (X.part E ts).2 h1.1;refine⟨h2.1,?_⟩;have e1:=h1.2;have e2:=h2.2;show dQ (X.dW E (X.part E ts).2.length (X.part E ts).1 (X.part E ts).2).1+7*(X.dW E (X.part E ts).2.length (X.part E ts).1 (X.part E ts).2).2.length≤_;omega
theorem Sz.product{E:R}(h:Sz E 1):Sz (product E) 1:=h.call.row (fun _ hc=>aZ hc)
theorem Sz.sum{E:R}(h:Sz E 1):Sz (sum E) 1:=h.product.row (fun _ hc=>by
 rcases(gU _ _).mp hc with h|h
 ·rcases(gU _ _).mp h with h|h<;>exact aZ h
 ·exact aZ h)
theorem tL{E:R}{ts:List Tok}(hc:(bX [61,61] (sum E ts).2||bX [60] (sum E ts).2)=true):comparison E ts=([.br 10 ((sum E ts).1++((take (sum E ts).2).1++(sum E (take (sum E ts).2).2).1))],(sum E (take (sum E ts).2).2).2):=by
 simp only[comparison,hc,sj,andThen]
theorem qy{E:R}{ts:List Tok}(hc:(bX [61,61] (sum E ts).2||bX [60] (sum E ts).2)=false):comparison E ts=sum E ts:=by
 simp only[comparison,hc,eO,nR]
theorem Sz.comparison{E:R}(h:Sz E 1):Sz (comparison E) 1:=by
 intro ts;have h0:=h.sum;have h1:=h0 ts;cases hc:(bX [61,61] (X.sum E ts).2||bX [60] (X.sum E ts).2) with
 | true =>
  have hn:iE (X.sum E ts).2≠none:=by rcases(gU _ _).mp hc with h|h<;>exact aZ h
  have e0:=tL hc;unfold At;rw[e0];clear e0 h hc;revert h0 h1 hn;generalize X.sum E=F;intro h0 h1 hn;have e3:=h0 (X.take (F ts).2).2;have l1:=take_len (F ts).2;have l2:=fD hn;have e1:=h1.2;have e4:=e3.2;have k1:=h1.1;have k2:=e3.1;refine⟨?_,?_⟩
  ·rw[iR,iR,Nh];exact⟨⟨by decide,jm k1 (jm (rJ _) k2)⟩,trivial⟩
  ·rw[dQ,dQ,iM,aR,aR,oJ]
   simp only;omega
 | false =>
  unfold At;rw[qy hc];exact h1
theorem Sz.expr:∀ n,Sz (expr n) 1
 | 0=>Sz.miss _
 | n+1=>fun ts =>
  have h:Sz (X.expr n) 1:=Sz.expr n
  At.ite (b:=bX [108,101,116]) (fun hc=>At.tkn (aZ hc) (Sz.aV.andThen ((Sz.want [61]).andThen (h.andThen ((Sz.want [105,110]).andThen h)))) (by omega) (by decide)) fun _ =>
  At.ite (b:=bX [105,102]) (fun hc=>At.tkn (aZ hc) (h.andThen ((Sz.want [116,104,101,110]).andThen (h.andThen ((Sz.want [101,108,115,101]).andThen h)))) (by omega) (by decide)) fun _ =>
  At.ite (b:=bX [102,117,110]) (fun hc=>At.tkn (aZ hc) (Sz.params.andThen ((Sz.want [61,62]).andThen h)) (by omega) (by decide)) fun _=>h.comparison ts
theorem Sz.fM:∀ n,Sz (fM n) 0
 | 0=>Sz.nil
 | n+1=>Sz.ite (b:=fun ts=>bJ ts==0||starts ts) Sz.nil (Sz.ite (b:=bX [59]) Sz.take (Sz.take.andThen (Sz.fM n)))
theorem Sz.LJ:Sz (X.andThen X.aV (X.andThen (X.want [46]) (X.andThen X.aV (X.andThen (fun ts=>_root_.ite (bX [97,115] ts=true) (X.andThen X.take X.aV ts) ([],ts)) (X.want [59]))))) 4 :=
 Sz.aV.andThen ((Sz.want _).andThen (Sz.aV.andThen (Sz.andThen (c:=0) (fun ts=>At.ite (b:=bX [97,115]) (fun hc=>At.tk (aZ hc) Sz.aV (by omega)) (fun _=>Sz.nil ts)) (Sz.want _))))
theorem Sz.optParams:Sz (fun ts=>_root_.ite (bX [40] ts=true) (X.params ts) ([],ts)) 0:=fun ts=>At.ite (b:=bX [40]) (fun hc=>by
  have e:X.params ts=X.node 6 (X.andThen X.take (X.bO X.aV [41])) ts:=by
   unfold X.params X.node X.andThen X.want;simp only[hc,sj]
  have:=At.tkn (k:=6) (e:=0) (aZ hc) (Sz.aV.bO [41]) (by omega) (by decide);unfold At at this ⊢;rw[e];exact this) (fun _=>Sz.nil ts)
theorem Sz.LK:Sz (X.andThen X.aV (X.andThen (fun ts=>_root_.ite (bX [40] ts=true) (X.params ts) ([],ts)) (X.andThen (X.want [61]) (X.andThen (X.expr 65) (X.want [59]))))) 4 :=
 Sz.aV.andThen (Sz.optParams.andThen ((Sz.want _).andThen ((Sz.expr 65).andThen (Sz.want _))))
theorem Sz.ZJ:Sz jA 5:=by unfold jA;exact(Sz.want iN).andThen Sz.LJ
theorem Sz.ZK:Sz jr 5:=by unfold jr;exact(Sz.want kE).andThen Sz.LK
theorem NT{s:ah}{ts:List Tok}(h:bX s ts=true):X.want s ts=X.take ts:=by unfold X.want;rw[aL h]
theorem Hz{G:R}{ts:List Tok}(hG:Sz G c)(hc:c≤5)(hn:iE ts≠none):iR (andThen take G ts).1∧1+dQ (andThen take G ts).1+7*(andThen take G ts).2.length≤7*ts.length:=by
 have h2:=hG (take ts).2;have e2:=h2.2;have l1:=take_len ts;have l2:=fD hn;refine⟨jm (rJ ts) h2.1,?_⟩;show 1+dQ ((take ts).1++(G (take ts).2).1)+7*(G (take ts).2).2.length≤_;rw[aR,oJ];omega
theorem Tj{ts:List Tok}(h:bX jN ts=true)(F:R):andThen bW F ts=andThen take F ts:=by simp only[andThen,bW,h,sj]
theorem Wy{ts:List Tok}(h:bX jN ts=false)(F:R):andThen bW F ts=F ts:=by simp only[andThen,bW,h,eO,nR,bT]
theorem C8{x:ah}{ts:List Tok}(h:bX x ts=true)(G:R):andThen (want x) G ts=andThen take G ts:=by
 have e:=NT h;show((want x ts).1++(G (want x ts).2).1,(G (want x ts).2).2)=((take ts).1++(G (take ts).2).1,(G (take ts).2).2);rw[e]
theorem ZL{ts:List Tok}(h:bX iN ts=true):∃ G,Sz G 4∧jA ts=andThen take G ts:=⟨_,Sz.LJ,C8 h _⟩
theorem ZM{ts:List Tok}(h:bX kE ts=true):∃ G,Sz G 4∧jr ts=andThen take G ts:=⟨_,Sz.LK,C8 h _⟩
theorem ZN{ts:List Tok}(hk:(bJ ts==0)=false):(kid ts).1≠0∧iR (kid ts).2.1∧1+dQ (kid ts).2.1+7*(kid ts).2.2.length≤7*ts.length:=by
 have hU:=Sz.ZJ;have hD:=Sz.ZK;have hu1:=@ZL ts;have hd1:=@ZM ts;rw[qm];revert hU hD hu1 hd1;generalize jA=U;generalize jr=V;intro hU hD hu1 hd1;by_cases hs:starts ts=true
 ·simp only[hs,sj]
  by_cases hp:bX jN ts=true
  ·have hn:=aZ hp
   have eP:=Tj hp;cases hu:bX iN (bW ts).2 with
   | true=>simp only[sj,eP];exact⟨by decide,Hz hU (by omega) hn⟩
   | false=>simp only[eO,nR,eP];exact⟨by decide,Hz hD (by omega) hn⟩
  ·have hp':bX jN ts=false:=by simpa using hp
   have eP:=Wy hp';have e0:(bW ts).2=ts:=by unfold bW;rw[aG hp]
   rw[e0];cases hu:bX iN ts with
   | true =>
    obtain⟨G,g1,g2⟩:=hu1 hu;simp only[sj,eP,g2];exact⟨by decide,Hz g1 (by omega) (aZ hu)⟩
   | false =>
    have hd:bX kE ts=true:=by
     unfold starts at hs;rw[hu,hp'] at hs
     simpa using hs
    obtain⟨G,g1,g2⟩:=hd1 hd;simp only[eO,nR,eP,g2];exact⟨by decide,Hz g1 (by omega) (aZ hd)⟩
 ·simp only[Bool.not_eq_true] at hs
  simp only[hs,eO,nR];have e:fV ts=if bX [59] ts then take ts else andThen take fV ts:=nG (by rw[hk,hs];rfl)
  have hn:=jI hk;refine⟨by decide,?_⟩;rw[e];have l1:=take_len ts;have l2:=fD hn;have hJ:Sz fV 0:=fun ts=>Sz.fM ts.length ts
  split
  ·exact⟨rJ ts,by rw[oJ];omega⟩
  ·exact Hz hJ (by omega) hn
theorem xP:∀(n:Nat) (ts:List Tok),iR (lI n ts)∧dQ (lI n ts)≤7*ts.length
 | 0,ts=>⟨EI ts,by show dQ (ts.map lf)≤_;rw[EH];omega⟩
 | n+1,ts=>by
  unfold lI;by_cases hk:(bJ ts==0)=true
  ·rw[aL hk];exact⟨EI ts,by rw[EH];omega⟩
  ·rw[aG hk]
   simp only[Bool.not_eq_true] at hk;obtain⟨k1,k2,k3⟩:=ZN hk;have ih:=xP n (kid ts).2.2;have e2:=ih.2;exact⟨by rw[iR,Nh];exact⟨⟨k1,k2⟩,ih.1⟩,by rw[dQ,iM];omega⟩
theorem R3(ts:List Tok):Nh (file ts):=by rw[file,Nh];exact⟨by decide,(xP _ ts).1⟩
theorem zL(ts:List Tok):iM (file ts)≤1+7*ts.length:=by rw[file,iM];have:=(xP ts.length ts).2;omega
end X
namespace X
end X
namespace X
theorem Ng(ts:List Tok):ts=r9 (kid ts).2.1++(kid ts).2.2:=(DK ts).symm
theorem drop_nil:∀ ts:List Tok,ts.dropWhile quiet=[]→∀ t∈ts,quiet t=true
 | [],_,t,ht=>by cases ht
 | u::ts,e,t,ht=>by
  rw[kK] at e;by_cases hq:quiet u=true
  ·rw[aL hq] at e
   rcases cK.1 ht with rfl|h
   ·exact hq
   ·exact drop_nil ts e t h
  ·rw[aG hq] at e;cases e
theorem JF{ts:List Tok}(h:(bJ ts==0)=true)(hk:∀ t∈ts,t.1≠0):∀ t∈ts,quiet t=true:=by
 intro t ht;cases hq:quiet t with
 | true=>rfl
 | false =>
  exfalso;have hne:ts.dropWhile quiet≠[]:=by
   intro e;have:=drop_nil ts e t ht;rw[hq] at this;exact absurd this (by simp)
  obtain⟨u,l,e⟩:=List.exists_cons_of_ne_nil hne;have hu:u∈ts:=(fo (p:=quiet) (l:=ts)).mem (by rw[e];simp);have h0:bJ ts=u.1:=by unfold bJ iE;rw[e];rfl
  rw[h0] at h;exact hk u hu (by simpa using h)
end X
namespace X
def lv:Part→Bool
 | .leaf _ _=>true
 | _=>false
def wI(ps:List Part):Prop:=(∀ p∈ps,lv p=true)∧∃ l k x,ps=l++[.leaf k x]∧¬(k=1∨k=2)
mutual
def TS:Part→Prop
 | .leaf _ _=>True
 | .miss _=>True
 | .br k ps=>(k≠1∧(k=5→wI ps))∧mK ps
def mK:List Part→Prop
 | []=>True
 | p::ps=>TS p∧mK ps
end
theorem nQ{l r:List Part}(hl:mK l)(hr:mK r):mK (l++r):=by
 induction l with
 | nil=>exact hr
 | cons p l ih=>rw[dx,mK];rw[mK] at hl;exact⟨hl.1,ih hl.2⟩
theorem LM(ts:List Tok):mK (ts.map lf):=by
 induction ts with
 | nil=>rw[List.map_nil,mK];trivial
 | cons t ts ih=>rw[fQ,mK,lf,TS];exact⟨trivial,ih⟩
def Jn(f:R):Prop:=∀ ts,mK (f ts).1
theorem Jn.andThen{f g:R}(hf:Jn f)(hg:Jn g):Jn (X.andThen f g):=fun ts=>nQ (hf ts) (hg (f ts).2)
theorem wJ{k:Nat}{ps:List Part}(hk:k≠1∧k≠5)(h:mK ps):mK [.br k ps]:=by rw[mK,mK,TS];exact⟨⟨⟨hk.1,fun e=>absurd e hk.2⟩,h⟩,trivial⟩
theorem Jn.node{f:R}(h:Jn f){k:Nat}(hk:k≠1∧k≠5):Jn (X.node k f):=fun ts=>wJ hk (h ts)
theorem Jn.nil:Jn (fun ts=>([],ts)):=fun ts=>by show mK [];rw[mK];trivial
theorem Jn.miss(m:ah):Jn (fun ts=>([.miss m],ts)):=fun ts=>by show mK [.miss m];rw[mK,mK,TS];exact⟨trivial,trivial⟩
theorem Jn.ite{f g:R}{b:List Tok→Bool}(hf:Jn f)(hg:Jn g):Jn (fun ts=>if b ts then f ts else g ts):=by
 intro ts;show mK (if b ts then f ts else g ts).1
 split
 ·exact hf ts
 ·exact hg ts
theorem Jn.take:Jn X.take:=fun _=>LM _
theorem Jn.want(s:ah):Jn (X.want s):=Jn.ite (b:=bX s) Jn.take (Jn.miss s)
theorem Jn.aV:Jn X.aV:=Jn.ite (b:=fun ts=>bJ ts==3) Jn.take (Jn.miss fF)
theorem Jn.fO{one:R}(h:Jn one):∀ n,Jn (X.fO one n)
 | 0=>Jn.nil
 | n+1=>Jn.ite (b:=bX [44]) (Jn.take.andThen (h.andThen (Jn.fO h n))) Jn.nil
theorem Jn.bO{one:R}(h:Jn one)(e:ah):Jn (X.bO one e):=Jn.ite (b:=bX e) (Jn.want e) (h.andThen (Jn.andThen (f:=fun ts=>X.fO one ts.length ts) (fun ts=>Jn.fO h ts.length ts) (Jn.want e)))
theorem Jn.params:Jn X.params:=((Jn.want _).andThen (Jn.aV.bO _)).node (by decide)
theorem H8{one:R}{ok:List Tok→Bool}(h:Jn one):∀(n:Nat) (p:List Part) (ts:List Tok),mK p→mK (fK one ok n p ts).1
 | 0,p,ts,hp=>hp
 | n+1,p,ts,hp=>by
  unfold X.fK
  split
  ·exact H8 h n _ _ (wJ (by decide) (nQ hp ((Jn.take.andThen h) ts)))
  ·exact hp
theorem Jn.row{one:R}{ok:List Tok→Bool}(h:Jn one):Jn (X.row one ok):=fun ts=>H8 h _ _ _ (h ts)
theorem Jn.args{E:R}(h:Jn E):Jn (X.args E):=(Jn.take.andThen (h.bO _)).node (by decide)
theorem C9{E:R}(h:Jn E):∀(n:Nat) (p:List Part) (ts:List Tok),mK p→mK (dW E n p ts).1
 | 0,p,ts,hp=>hp
 | n+1,p,ts,hp=>by
  unfold X.dW
  split
  ·exact C9 h n _ _ (wJ (by decide) (nQ hp (h.args ts)))
  ·exact hp
theorem Jn.part{E:R}(h:Jn E):Jn (X.part E) :=
 Jn.ite (b:=fun ts=>bJ ts==5) (Jn.take.node (by decide)) <|
 Jn.ite (b:=fun ts=>bJ ts==6) (Jn.take.node (by decide)) <|
 Jn.ite (b:=fun ts=>bX [116,114,117,101] ts||bX [102,97,108,115,101] ts) (Jn.take.node (by decide)) <|
 Jn.ite (b:=fun ts=>bJ ts==3) (Jn.take.node (by decide)) <|
 Jn.ite (b:=bX [63]) (Jn.take.node (by decide)) <|
 Jn.ite (b:=bX [40]) ((Jn.take.andThen (h.andThen (Jn.want _))).node (by decide)) <|
 Jn.ite (b:=bX [91]) ((Jn.take.andThen (h.bO _)).node (by decide)) (Jn.miss _)
theorem Jn.call{E:R}(h:Jn E):Jn (X.call E):=fun ts=>C9 h _ _ _ (h.part ts)
theorem Jn.product{E:R}(h:Jn E):Jn (X.product E):=h.call.row
theorem Jn.sum{E:R}(h:Jn E):Jn (X.sum E):=h.product.row
theorem Jn.comparison{E:R}(h:Jn E):Jn (X.comparison E):=by
 intro ts;have h0:=h.sum;cases hc:(bX [61,61] (X.sum E ts).2||bX [60] (X.sum E ts).2) with
 | true =>
  have e0:=tL hc;rw[e0];clear e0 h hc;revert h0;generalize X.sum E=F;intro h0;exact wJ (by decide) (nQ (h0 ts) (nQ (LM _) (h0 _)))
 | false=>rw[qy hc];exact h0 ts
theorem Jn.expr:∀ n,Jn (X.expr n)
 | 0=>Jn.miss _
 | n+1 =>
  have h:Jn (X.expr n):=Jn.expr n
  Jn.ite (b:=bX [108,101,116]) ((Jn.take.andThen (Jn.aV.andThen ((Jn.want _).andThen (h.andThen ((Jn.want _).andThen h))))).node (by decide)) <|
  Jn.ite (b:=bX [105,102]) ((Jn.take.andThen (h.andThen ((Jn.want _).andThen (h.andThen ((Jn.want _).andThen h))))).node (by decide)) <|
  Jn.ite (b:=bX [102,117,110]) ((Jn.take.andThen (Jn.params.andThen ((Jn.want _).andThen h))).node (by decide)) h.comparison
theorem Jn.bW:Jn X.bW:=Jn.ite (b:=bX jN) Jn.take Jn.nil
theorem Jn.jA:Jn X.jA:=(Jn.want _).andThen (Jn.aV.andThen ((Jn.want _).andThen (Jn.aV.andThen ((Jn.ite (b:=bX [97,115]) (Jn.take.andThen Jn.aV) Jn.nil).andThen (Jn.want _)))))
theorem Jn.jr:Jn X.jr:=(Jn.want _).andThen (Jn.aV.andThen ((Jn.ite (b:=bX [40]) Jn.params Jn.nil).andThen ((Jn.want _).andThen ((Jn.expr 65).andThen (Jn.want _)))))
theorem rO{ts:List Tok}(h:iE ts≠none):wI (take ts).1:=by
 unfold iE at h;have hq:∃ t r,ts.dropWhile quiet=t::r:=by
  cases hd:ts.dropWhile quiet with
  | nil=>rw[hd] at h;exact absurd rfl h
  | cons t r=>exact⟨t,r,rfl⟩
 obtain⟨t,r,hd⟩:=hq;have hnq:quiet t=false:=by
  have:=pO quiet ts;rw[hd] at this
  simpa using this
 refine⟨fun p hp=>?_,(ts.takeWhile quiet).map lf,t.1,t.2,?_,?_⟩
 ·obtain⟨t',-,rfl⟩:=iT.1 hp
  rfl
 ·show List.map lf _=_
  rw[hd,pQ];rfl
 ·unfold quiet at hnq
  simpa using hnq
theorem wI.append{l r:List Part}(hl:wI l)(hr:wI r):wI (l++r):=by
 obtain⟨l',k,x,e,hk⟩:=hr.2;refine⟨fun p hp=>?_,l++l',k,x,by rw[e,aA],hk⟩;rcases cZ.1 hp with h|h
 ·exact hl.1 p h
 ·exact hr.1 p h
theorem wK:∀(n:Nat) (ts:List Tok),(fM n ts).1=[]∨wI (fM n ts).1
 | 0,ts=>.inl rfl
 | n+1,ts=>by
  unfold fM;by_cases h1:(bJ ts==0||starts ts)=true
  ·rw[aL h1];exact .inl rfl
  ·rw[aG h1]
   have hk:(bJ ts==0)=false:=by
    cases h:(bJ ts==0) with
    | false=>rfl
    | true=>rw[h] at h1;exact absurd rfl h1
   have hn:=jI hk;by_cases h2:bX [59] ts=true
   ·rw[aL h2];exact .inr (rO hn)
   ·rw[aG h2]
    right
    show wI ((take ts).1++(fM n (take ts).2).1);rcases wK n (take ts).2 with e|e
    ·rw[e,aJ];exact rO hn
    ·exact(rO hn).append e
theorem yE:∀ {ps:List Part},(∀ p∈ps,lv p=true)→mK ps
 | [],_=>by rw[mK];trivial
 | p::ps,h=>by
  rw[mK];refine⟨?_,yE (fun q hq=>h q (fJ _ hq))⟩;have:=h p (List.mem_cons_self ..);cases p with
  | leaf k x=>rw[TS];trivial
  | miss m=>cases this
  | br k qs=>cases this
theorem VB{ts:List Tok}(hk:(bJ ts==0)=false):TS (.br (kid ts).1 (kid ts).2.1):=by
 have hU:=Jn.bW.andThen Jn.jA;have hD:=Jn.bW.andThen Jn.jr;rw[qm];revert hU hD;generalize X.andThen bW jA=U;generalize X.andThen bW jr=V;intro hU hD;by_cases hs:starts ts=true
 ·simp only[hs,sj]
  split
  ·rw[TS];exact⟨⟨fun e=>(by cases e),fun e=>(by cases e)⟩,hU ts⟩
  ·rw[TS];exact⟨⟨fun e=>(by cases e),fun e=>(by cases e)⟩,hD ts⟩
 ·simp only[Bool.not_eq_true] at hs
  simp only[hs,eO,nR];have hn:=jI hk;have hj:wI (fV ts).1:=by
   rcases wK ts.length ts with e|e
   ·exfalso
    have h2:fV ts=if bX [59] ts then take ts else X.andThen take fV ts:=nG (by rw[hk,hs];rfl)
    have h3:(take ts).1≠[]:=by
     obtain⟨-,l,k,x,e',-⟩:=rO hn;rw[e'];simp
    have h4:(fV ts).1=[]:=e;rw[h2] at h4
    split at h4
    ·exact h3 h4
    ·have:(take ts).1++(fV (take ts).2).1=[]:=h4
     exact h3 (List.append_eq_nil_iff.1 this).1
   ·exact e
  rw[TS];exact⟨⟨by decide,fun _=>hj⟩,yE hj.1⟩
end X
end
section
variable{k i:Nat}{x s:ah}
namespace X
abbrev Nm:=ah × Nat
inductive Ex where
 | lit (k:Nat) (x:ah)
 | hole (i:Nat)
 | missing
 | var (n:Nm)
 | iJ (n:Nm) (v b:Ex)
 | ite (a b c:Ex)
 | fn (ns:List Nm) (b:Ex)
 | bin (l:Ex) (x:ah) (r:Ex)
 | call (f:Ex) (gs:List Ex)
 | list (l:List Ex)
 | group (e:Ex)
def lq:Part→Bool
 | .leaf k _=>k==1||k==2
 | _=>false
def pz(ps:List Part):Nat:=(nN ps).length
theorem aY(l r:List Part):pz (l++r)=pz l+pz r:=by unfold pz;rw[pG,ak]
theorem Em:pz []=0:=rfl
theorem fH(p:Part)(ps:List Part):pz (p::ps)=pz [p]+pz ps:=aY [p] ps
theorem iK(k:Nat)(x:ah):pz [.leaf k x]=x.length:=by unfold pz;rw[nN,pb,nN,aJ]
theorem eU(k:Nat)(ps:List Part):pz [.br k ps]=pz ps:=by unfold pz;rw[nN,pb,nN,aJ]
structure y9(ps:List Part)(k:Nat)(x:ah)(qs:List Part):Prop where
 eq:ps=qs++[.leaf k x]
 qu:∀ q∈qs,lq q=true
 ne:¬(k=1∨k=2)
def wR(ps:List Part):Prop:=(∃ k x qs,y9 ps k x qs)∨∃ m,ps=[.miss m]
inductive BD:List Part→Nat→Nm→Prop
 | name (ps:List Part) (x:ah) (qs:List Part) (i:Nat) (h:y9 ps 3 x qs):BD ps i (x,i+pz qs)
 | miss (i:Nat):BD [.miss fF] i ([],0)
inductive oN:List Part→Nat→List Nm→Prop
 | nil (i:Nat):oN [] i []
 | name (x:ah) (ps:List Part) (i:Nat) (ns:List Nm) (h:oN ps (i+x.length) ns):oN (.leaf 3 x::ps) i ((x,i)::ns)
 | leaf (k:Nat) (x:ah) (ps:List Part) (i:Nat) (ns:List Nm) (hk:k≠3) (h:oN ps (i+x.length) ns):oN (.leaf k x::ps) i ns
 | lack (ps:List Part) (i:Nat) (ns:List Nm) (h:oN ps i ns):oN (.miss fF::ps) i (([],0)::ns)
 | miss (m:ah) (ps:List Part) (i:Nat) (ns:List Nm) (hm:m≠fF) (h:oN ps i ns):oN (.miss m::ps) i ns
mutual
inductive Rd:Part→Nat→Ex→Prop
 | missing (i:Nat):Rd (.miss lU) i .missing
 | lit (k t:Nat) (x:ah) (ps qs:List Part) (i:Nat) (hk:15≤k∧k≤17) (h:y9 ps t x qs):Rd (.br k ps) i (.lit k x)
 | var (x:ah) (ps qs:List Part) (i:Nat) (h:y9 ps 3 x qs):Rd (.br 18 ps) i (.var (x,i+pz qs))
 | hole (t:Nat) (x:ah) (ps qs:List Part) (i:Nat) (h:y9 ps t x qs):Rd (.br 19 ps) i (.hole (i+pz qs))
 | iJ (t1 n t2 t3:List Part) (p1 p2:Part) (i:Nat) (nm:Nm) (e1 e2:Ex) (h1:wR t1) (hn:BD n (i+pz t1) nm) (h2:wR t2) (hv:Rd p1 (i+pz t1+pz n+pz t2) e1) (h3:wR t3) (hb:Rd p2 (i+pz t1+pz n+pz t2+pz [p1]+pz t3) e2):Rd (.br 7 (t1++(n++(t2++([p1]++(t3++[p2])))))) i (.iJ nm e1 e2)
 | ite (ps:List Part) (i:Nat) (a b c:Ex) (h:lW ps i [a,b,c]):Rd (.br 8 ps) i (.ite a b c)
 | fn (t1 qs t2:List Part) (p:Part) (i:Nat) (ns:List Nm) (e:Ex) (h1:wR t1) (hn:oN qs (i+pz t1) ns) (h2:wR t2) (hb:Rd p (i+pz t1+pz qs+pz t2) e):Rd (.br 9 (t1++([.br 6 qs]++(t2++[p])))) i (.fn ns e)
 | bin (p1 p2:Part) (t qs:List Part) (k:Nat) (x:ah) (i:Nat) (e1 e2:Ex) (hl:Rd p1 i e1) (h:y9 t k x qs) (hr:Rd p2 (i+pz [p1]+pz t) e2):Rd (.br 10 ([p1]++(t++[p2]))) i (.bin e1 x e2)
 | call (p:Part) (gs:List Part) (i:Nat) (e:Ex) (es:List Ex) (hc:Rd p i e) (ha:lW gs (i+pz [p]) es):Rd (.br 11 ([p]++[.br 12 gs])) i (.call e es)
 | list (ps:List Part) (i:Nat) (es:List Ex) (h:lW ps i es):Rd (.br 13 ps) i (.list es)
 | group (ps:List Part) (i:Nat) (e:Ex) (h:lW ps i [e]):Rd (.br 14 ps) i (.group e)
inductive lW:List Part→Nat→List Ex→Prop
 | nil (i:Nat):lW [] i []
 | leaf (k:Nat) (x:ah) (ps:List Part) (i:Nat) (es:List Ex) (h:lW ps (i+x.length) es):lW (.leaf k x::ps) i es
 | miss (m:ah) (ps:List Part) (i:Nat) (es:List Ex) (hm:m≠lU) (h:lW ps i es):lW (.miss m::ps) i es
 | cons (p:Part) (ps:List Part) (i:Nat) (e:Ex) (es:List Ex) (hp:Rd p i e) (h:lW ps (i+pz [p]) es):lW (p::ps) i (e::es)
end
def Rx(p:Part):Prop:=∀ i,∃ e,Rd p i e
def Cy(f:R):Prop:=∀ ts,∃ p,(f ts).1=[p]∧Rx p
theorem iq{ts:List Tok}(h:iE ts≠none):∃ k x qs,y9 (take ts).1 k x qs∧iE ts=some (k,x):=by
 unfold iE at h;cases hd:ts.dropWhile quiet with
 | nil=>rw[hd] at h;exact absurd rfl h
 | cons t l =>
  have hne:quiet t=false:=by
   have:=pO quiet ts;rw[hd] at this
   simpa using this
  refine⟨t.1,t.2,(ts.takeWhile quiet).map lf,⟨?_,fun q hq=>?_,?_⟩,?_⟩
  ·show((ts.takeWhile quiet++(ts.dropWhile quiet).take 1).map lf)=_
   rw[hd,pQ];rfl
  ·obtain⟨u,hu,rfl⟩:=iT.1 hq
   exact List.all_eq_true.1 (List.all_takeWhile (p:=quiet) (l:=ts)) u hu
  ·unfold quiet at hne;simp at hne;omega
  ·unfold iE;rw[hd];rfl
theorem jW(s:ah)(ts:List Tok):wR (want s ts).1:=by
 unfold want
 split
 ·next h =>
  obtain⟨k,x,qs,h1,-⟩:=iq (aZ h);exact .inl ⟨k,x,qs,h1⟩
 ·exact .inr ⟨s,rfl⟩
theorem Aj{ts:List Tok}(h:iE ts=some (k,x)):bJ ts=k:=by unfold bJ;rw[h]
theorem qM(ts:List Tok)(i:Nat):∃ nm,BD (aV ts).1 i nm:=by
 unfold aV
 split
 ·next h =>
  obtain⟨k,x,qs,h1,h2⟩:=iq (gq (by decide) h);have:=Aj h2;rw[this] at h;obtain rfl:k=3:=by simpa using h
  exact⟨_,.name _ x qs i h1⟩
 ·exact⟨_,.miss i⟩
theorem y_{q:Part}(h:lq q=true):∃ k x,q=.leaf k x∧(k=1∨k=2):=by
 cases q with
 | leaf k x=>exact⟨k,x,rfl,by simpa [lq] using h⟩
 | miss m=>cases h
 | br k ps=>cases h
theorem lW.skip:∀ {qs:List Part} {ps:List Part} {i:Nat} {es:List Ex},(∀ q∈qs,∃ k x,q=.leaf k x)→lW ps (i+pz qs) es→lW (qs++ps) i es
 | [],ps,i,es,_,h=>by rw[Em] at h;exact h
 | q::qs,ps,i,es,hq,h=>by
  obtain⟨k,x,rfl⟩:=hq q (by simp);have e1:pz (.leaf k x::qs)=x.length+pz qs:=by unfold pz;rw[nN,pb,ak]
  rw[e1,← fw] at h;exact .leaf k x _ _ _ (lW.skip (fun q' hq'=>hq q' (fJ _ hq')) h)
theorem y9.leaves{ps:List Part}{qs:List Part}(h:y9 ps k x qs):∀ q∈ps,∃ k x,q=.leaf k x:=by
 intro q hq;rw[h.eq] at hq;rcases cZ.1 hq with h1|h1
 ·obtain⟨k,x,e,-⟩:=y_ (h.qu q h1)
  exact⟨k,x,e⟩
 ·obtain rfl:=dR.1 h1
  exact⟨k,x,rfl⟩
theorem lW.Lc{t ps:List Part}{es:List Ex}(ht:wR t)(hx:t≠[.miss lU])(h:lW ps (i+pz t) es):lW (t++ps) i es:=by
 rcases ht with ⟨k,x,qs,h1⟩|⟨m,rfl⟩
 ·exact lW.skip h1.leaves h
 ·have:pz [.miss m]=0:=rfl
  rw[this] at h;exact .miss m _ _ _ (fun e=>hx (by rw[e])) h
theorem vS(s:ah)(hs:s≠lU)(ts:List Tok):(want s ts).1≠[.miss lU]:=by
 unfold want
 split
 ·next h =>
  obtain⟨k,x,qs,h1,-⟩:=iq (aZ h);rw[h1.eq];intro e;cases qs with
  | nil=>cases e
  | cons q qs =>
   have:=congrArg List.length e;simp at this
 ·intro e
  cases e
  exact hs rfl
theorem Ak{ps:List Part}{qs:List Part}(h:y9 ps k x qs):ps≠[.miss lU]:=by
 intro e;obtain⟨k',x',e'⟩:=h.leaves (.miss lU) (by rw[e];simp);cases e'
theorem CJ{E:R}(hE:Cy E){t:List Part}(ht:wR t)(hx:t≠[.miss lU]):∀(n:Nat) (ts:List Tok) (i:Nat),∃ es,lW ((fO E n ts).1++t) i es
 | 0,ts,i=>⟨[],by
   show lW ([]++t) i [];have:=lW.Lc (ps:=[]) (i:=i) (es:=[]) ht hx (.nil _);rw[aJ] at this;exact this⟩
 | n+1,ts,i=>by
  unfold fO
  split
  ·next h =>
   obtain⟨k,x,qs,h1,-⟩:=iq (aZ h);obtain⟨p,hp,hr⟩:=hE (take ts).2;obtain⟨e,he⟩:=hr (i+pz (take ts).1);obtain⟨es,hes⟩:=CJ hE ht hx n (E (take ts).2).2 (i+pz (take ts).1+pz [p]);refine⟨e::es,?_⟩;show lW (((take ts).1++((E (take ts).2).1++(fO E n (E (take ts).2).2).1))++t) i _;rw[hp,aA];refine lW.Lc (.inl ⟨k,x,qs,h1⟩) (Ak h1) ?_;exact .cons p _ _ e es he hes
  ·have:=lW.Lc (ps:=[]) (i:=i) (es:=[]) ht hx (.nil _)
   rw[aJ] at this;exact⟨[],this⟩
theorem yo{E:R}(hE:Cy E)(hs:s≠lU)(ts:List Tok)(i:Nat):∃ es,lW (bO E s ts).1 i es:=by
 unfold bO
 split
 ·have:=lW.Lc (ps:=[]) (i:=i) (es:=[]) (jW s ts) (vS s hs ts) (.nil _)
  rw[aJ] at this;exact⟨[],this⟩
 ·obtain⟨p,hp,hr⟩:=hE ts
  obtain⟨e,he⟩:=hr i;obtain⟨es,hes⟩:=CJ hE (jW s ((fun ts=>fO E ts.length ts) (E ts).2).2) (vS s hs _) (E ts).2.length (E ts).2 (i+pz [p]);refine⟨e::es,?_⟩;show lW ((E ts).1++((fO E (E ts).2.length (E ts).2).1++_)) i _;rw[hp];exact .cons p _ _ e es he hes
theorem oN.skip:∀ {qs:List Part} {ps:List Part} {i:Nat} {ns:List Nm},(∀ q∈qs,∃ k x,q=.leaf k x∧k≠3)→oN ps (i+pz qs) ns→oN (qs++ps) i ns
 | [],ps,i,ns,_,h=>by rw[Em] at h;exact h
 | q::qs,ps,i,ns,hq,h=>by
  obtain⟨k,x,rfl,hk⟩:=hq q (by simp);have e1:pz (.leaf k x::qs)=x.length+pz qs:=by unfold pz;rw[nN,pb,ak]
  rw[e1,← fw] at h;exact .leaf k x _ _ _ hk (oN.skip (fun q' hq'=>hq q' (fJ _ hq')) h)
theorem JE{qs:List Part}(h:∀ q∈qs,lq q=true):∀ q∈qs,∃ k x,q=.leaf k x∧k≠3:=fun q hq=>by
 obtain⟨k,x,e,hk⟩:=y_ (h q hq);exact⟨k,x,e,by omega⟩
theorem vT(hs:s≠fF)(ts:List Tok){ps:List Part}{ns:List Nm}(h:oN ps (i+pz (want s ts).1) ns):oN ((want s ts).1++ps) i ns:=by
 unfold want at h ⊢
 split
 ·next hi =>
  rw[aL hi] at h;obtain⟨k,x,qs,h1,h2⟩:=iq (aZ hi);have hk:k≠3:=by
   unfold bX at hi;rw[h2] at hi;intro e;subst e;simp at hi
  refine oN.skip (fun q hq=>?_) h;rw[h1.eq] at hq;rcases cZ.1 hq with g|g
  ·exact JE h1.qu q g
  ·obtain rfl:=dR.1 g
   exact⟨k,x,rfl,hk⟩
 ·next hi =>
  rw[aG hi] at h;exact .miss s _ _ _ hs h
theorem CK(ts:List Tok){ps:List Part}(h:∀ j,∃ ns,oN ps j ns):∃ ns,oN ((aV ts).1++ps) i ns:=by
 unfold aV
 split
 ·next hi =>
  obtain⟨k,x,qs,h1,h2⟩:=iq (gq (by decide) hi);have:=Aj h2;rw[this] at hi;obtain rfl:k=3:=by simpa using hi
  obtain⟨ns,hns⟩:=h (i+pz qs+x.length);refine⟨(x,i+pz qs)::ns,?_⟩;rw[h1.eq,aA];exact oN.skip (JE h1.qu) (.name x _ _ _ hns)
 ·obtain⟨ns,hns⟩:=h i
  exact⟨_,.lack _ _ _ hns⟩
theorem CO{s:ah}(hs:s≠fF):∀(n:Nat) (ts ts':List Tok) (i:Nat),∃ ns,oN ((fO aV n ts).1++(want s ts').1) i ns
 | 0,ts,ts',i=>⟨[],by
   show oN ([]++(want s ts').1) i [];have:=vT (ps:=[]) (i:=i) (ns:=[]) hs ts' (.nil _);rw[aJ] at this;exact this⟩
 | n+1,ts,ts',i=>by
  unfold fO
  split
  ·next h =>
   obtain⟨k,x,qs,h1,h2⟩:=iq (aZ h);have hk:k≠3:=by
    unfold bX at h;rw[h2] at h;intro e;subst e;simp at h
   obtain⟨ns,hns⟩:=CK (take ts).2 (ps:=(fO aV n (aV (take ts).2).2).1++(want s ts').1) (i:=i+pz (take ts).1) (fun j=>CO hs n _ _ j);refine⟨ns,?_⟩;show oN (((take ts).1++((aV (take ts).2).1++(fO aV n (aV (take ts).2).2).1))++_) i _;rw[aA,aA];refine oN.skip (fun q hq=>?_) hns;rw[h1.eq] at hq;rcases cZ.1 hq with g|g
   ·exact JE h1.qu q g
   ·obtain rfl:=dR.1 g
    exact⟨k,x,rfl,hk⟩
  ·have:=vT (ps:=[]) (i:=i) (ns:=[]) hs ts' (.nil _)
   rw[aJ] at this;exact⟨[],this⟩
theorem Am(ts:List Tok):∃ qs,(params ts).1=[.br 6 qs]∧∀ i,∃ ns,oN qs i ns:=by
 refine⟨_,rfl,fun i=>?_⟩;show ∃ ns,oN ((want [40] ts).1++(bO aV [41] (want [40] ts).2).1) i ns;have key:∀ j,∃ ns,oN (bO aV [41] (want [40] ts).2).1 j ns:=fun j=>by
  unfold bO
  split
  ·have:=vT (s:=[41]) (ps:=[]) (i:=j) (ns:=[]) (by decide) (want [40] ts).2 (.nil _)
   rw[aJ] at this;exact⟨[],this⟩
  ·exact CK _ (fun j=>CO (by decide) _ _ _ j)
 obtain⟨ns,h⟩:=key (i+pz (want [40] ts).1);exact⟨ns,vT (by decide) ts h⟩
theorem vU{ts:List Tok}(h:iE ts≠none)(hk:(15≤k∧k≤17)∨k=19∨(k=18∧(bJ ts==3)=true)):∃ p,(node k take ts).1=[p]∧Rx p:=by
 obtain⟨t,x,qs,h1,h2⟩:=iq h;refine⟨_,rfl,fun i=>?_⟩;rcases hk with hk|rfl|⟨rfl,hk⟩
 ·exact⟨_,.lit k t x _ qs i hk h1⟩
 ·exact⟨_,.hole t x _ qs i h1⟩
 ·rw[Aj h2] at hk
  obtain rfl:t=3:=by simpa using hk
  exact⟨_,.var x _ qs i h1⟩
theorem Rc{E:R}(hE:Cy E):Cy (part E):=by
 intro ts;unfold part
 split
 ·next h=>exact vU (gq (by decide) h) (.inl ⟨by decide,by decide⟩)
 split
 ·next h=>exact vU (gq (by decide) h) (.inl ⟨by decide,by decide⟩)
 split
 ·next h =>
  refine vU ?_ (.inl ⟨by decide,by decide⟩);rcases iy.1 h with g|g
  ·exact aZ g
  ·exact aZ g
 split
 ·next h=>exact vU (gq (by decide) h) (.inr (.inr ⟨rfl,h⟩))
 split
 ·next h=>exact vU (aZ h) (.inr (.inl rfl))
 split
 ·next h =>
  obtain⟨k,x,qs,h1,-⟩:=iq (aZ h);obtain⟨p,hp,hr⟩:=hE (take ts).2;refine⟨_,rfl,fun i=>?_⟩;obtain⟨e,he⟩:=hr (i+pz (take ts).1);refine⟨.group e,.group _ i e ?_⟩;show lW ((take ts).1++((E (take ts).2).1++(want [41] (E (take ts).2).2).1)) i [e];rw[hp];refine lW.Lc (.inl ⟨k,x,qs,h1⟩) (Ak h1) (.cons p _ _ e [] he ?_);have:=lW.Lc (ps:=[]) (i:=i+pz (take ts).1+pz [p]) (es:=[]) (jW [41] (E (take ts).2).2) (vS [41] (by decide) _) (.nil _);rw[aJ] at this;exact this
 split
 ·next h =>
  obtain⟨k,x,qs,h1,-⟩:=iq (aZ h);refine⟨_,rfl,fun i=>?_⟩;obtain⟨es,hes⟩:=yo hE (s:=[93]) (by decide) (take ts).2 (i+pz (take ts).1);exact⟨.list es,.list _ i es (lW.Lc (.inl ⟨k,x,qs,h1⟩) (Ak h1) hes)⟩
 ·exact⟨_,rfl,fun i=>⟨_,.missing i⟩⟩
theorem Ao{E:R}(hE:Cy E):∀(n:Nat) (p:Part) (ts:List Tok),Rx p→∃ q,(dW E n [p] ts).1=[q]∧Rx q
 | 0,p,ts,h=>⟨p,rfl,h⟩
 | n+1,p,ts,h=>by
  unfold dW
  split
  ·next hi =>
   refine Ao hE n _ _ fun i=>?_
   obtain⟨k,x,qs,h1,-⟩:=iq (aZ hi);obtain⟨e,he⟩:=h i;obtain⟨es,hes⟩:=yo hE (s:=[41]) (by decide) (take ts).2 (i+pz [p]+pz (take ts).1);exact⟨.call e es,.call p _ i e es he (lW.Lc (.inl ⟨k,x,qs,h1⟩) (Ak h1) hes)⟩
  ·exact⟨p,rfl,h⟩
theorem Rf{E:R}(hE:Cy E):Cy (call E):=fun ts=>by
 obtain⟨p,hp,hr⟩:=Rc hE ts;unfold call;rw[hp];exact Ao hE _ p _ hr
theorem Rh{one:R}(h1:Cy one){p:Part}(hp:Rx p){ts:List Tok}(hn:iE ts≠none):Rx (.br 10 ([p]++(andThen take one ts).1)):=by
 intro i;obtain⟨k,x,qs,ht,-⟩:=iq hn;obtain⟨q,hq,hr⟩:=h1 (take ts).2;obtain⟨e,he⟩:=hp i;obtain⟨e2,he2⟩:=hr (i+pz [p]+pz (take ts).1);refine⟨.bin e x e2,?_⟩;show Rd (.br 10 ([p]++((take ts).1++(one (take ts).2).1))) i _;rw[hq];exact .bin p q _ qs k x i e e2 he ht he2
theorem CP{one:R}(h1:Cy one){ok:List Tok→Bool}(hok:∀ ts,ok ts=true→iE ts≠none):∀(n:Nat) (p:Part) (ts:List Tok),Rx p→∃ q,(fK one ok n [p] ts).1=[q]∧Rx q
 | 0,p,ts,h=>⟨p,rfl,h⟩
 | n+1,p,ts,h=>by
  unfold fK
  split
  ·next hi=>exact CP h1 hok n _ _ (Rh h1 h (hok ts hi))
  ·exact⟨p,rfl,h⟩
theorem Le{one:R}(h1:Cy one){ok:List Tok→Bool}(hok:∀ ts,ok ts=true→iE ts≠none):Cy (row one ok):=fun ts=>by
 obtain⟨p,hp,hr⟩:=h1 ts;unfold row;rw[hp];exact CP h1 hok _ p _ hr
theorem Vw{E:R}(hE:Cy E):Cy (sum E) :=
 Le (Le (Rf hE) (fun _ h=>aZ h)) (fun ts h=>by
  rcases iy.1 h with g|g
  ·rcases iy.1 g with g|g
   ·exact aZ g
   ·exact aZ g
  ·exact aZ g)
theorem Ap{E:R}(hE:Cy E):Cy (comparison E):=fun ts=>by
 have hs:=Vw hE;obtain⟨p,hp,hr⟩:=hs ts;unfold comparison
 split
 ·next h =>
  rw[hp];refine⟨_,rfl,Rh hs hr ?_⟩;rcases iy.1 h with g|g
  ·exact aZ g
  ·exact aZ g
 ·exact⟨p,hp,hr⟩
theorem Gv:∀ n,Cy (expr n)
 | 0=>fun ts=>⟨_,rfl,fun i=>⟨_,.missing i⟩⟩
 | n+1=>fun ts=>by
  have hE:=Gv n;unfold expr;generalize expr n=E at *
  split
  ·next h =>
   obtain⟨k,x,qs,h1,-⟩:=iq (aZ h);refine⟨_,rfl,fun i=>?_⟩;obtain⟨nm,hn⟩:=qM (take ts).2 (i+pz (take ts).1);obtain⟨p1,hp1,hr1⟩:=hE (want [61] (aV (take ts).2).2).2;obtain⟨p2,hp2,hr2⟩:=hE (want [105,110] (E (want [61] (aV (take ts).2).2).2).2).2;obtain⟨e1,he1⟩:=hr1 (i+pz (take ts).1+pz (aV (take ts).2).1+pz (want [61] (aV (take ts).2).2).1);obtain⟨e2,he2⟩:=hr2 (i+pz (take ts).1+pz (aV (take ts).2).1+pz (want [61] (aV (take ts).2).2).1+pz [p1]+pz (want [105,110] (E (want [61] (aV (take ts).2).2).2).2).1);refine⟨.iJ nm e1 e2,?_⟩;show Rd (.br 7 ((take ts).1++((aV (take ts).2).1++((want [61] (aV (take ts).2).2).1++((E (want [61] (aV (take ts).2).2).2).1++((want [105,110] (E (want [61] (aV (take ts).2).2).2).2).1++(E (want [105,110] (E (want [61] (aV (take ts).2).2).2).2).2).1)))))) i _;rw[hp1,hp2];exact .iJ _ _ _ _ p1 p2 i nm e1 e2 (.inl ⟨k,x,qs,h1⟩) hn (jW _ _) he1 (jW _ _) he2
  split
  ·next h =>
   obtain⟨k,x,qs,h1,-⟩:=iq (aZ h);refine⟨_,rfl,fun i=>?_⟩;obtain⟨p1,hp1,hr1⟩:=hE (take ts).2;obtain⟨p2,hp2,hr2⟩:=hE (want [116,104,101,110] (E (take ts).2).2).2;obtain⟨p3,hp3,hr3⟩:=hE (want [101,108,115,101] (E (want [116,104,101,110] (E (take ts).2).2).2).2).2;obtain⟨e1,he1⟩:=hr1 (i+pz (take ts).1);obtain⟨e2,he2⟩:=hr2 (i+pz (take ts).1+pz [p1]+pz (want [116,104,101,110] (E (take ts).2).2).1);obtain⟨e3,he3⟩:=hr3 (i+pz (take ts).1+pz [p1]+pz (want [116,104,101,110] (E (take ts).2).2).1+pz [p2]+pz (want [101,108,115,101] (E (want [116,104,101,110] (E (take ts).2).2).2).2).1);refine⟨.ite e1 e2 e3,.ite _ i e1 e2 e3 ?_⟩;show lW ((take ts).1++((E (take ts).2).1++((want [116,104,101,110] (E (take ts).2).2).1++((E (want [116,104,101,110] (E (take ts).2).2).2).1++((want [101,108,115,101] (E (want [116,104,101,110] (E (take ts).2).2).2).2).1++(E (want [101,108,115,101] (E (want [116,104,101,110] (E (take ts).2).2).2).2).2).1))))) i _;rw[hp1,hp2,hp3];have s3:=lW.Lc (i:=i+pz (take ts).1+pz [p1]+pz (want [116,104,101,110] (E (take ts).2).2).1+pz [p2]) (jW [101,108,115,101] (E (want [116,104,101,110] (E (take ts).2).2).2).2) (vS _ (by decide) _) (.cons p3 [] _ e3 [] he3 (.nil _));have s2:=lW.Lc (i:=i+pz (take ts).1+pz [p1]) (jW [116,104,101,110] (E (take ts).2).2) (vS _ (by decide) _) (.cons p2 _ _ e2 _ he2 s3);exact lW.Lc (.inl ⟨k,x,qs,h1⟩) (Ak h1) (.cons p1 _ _ e1 _ he1 s2)
  split
  ·next h =>
   obtain⟨k,x,qs,h1,-⟩:=iq (aZ h);refine⟨_,rfl,fun i=>?_⟩;obtain⟨ps,hps,hns⟩:=Am (take ts).2;obtain⟨ns,hn⟩:=hns (i+pz (take ts).1);obtain⟨p,hp,hr⟩:=hE (want [61,62] (params (take ts).2).2).2;obtain⟨e,he⟩:=hr (i+pz (take ts).1+pz ps+pz (want [61,62] (params (take ts).2).2).1);refine⟨.fn ns e,?_⟩;show Rd (.br 9 ((take ts).1++((params (take ts).2).1++((want [61,62] (params (take ts).2).2).1++(E (want [61,62] (params (take ts).2).2).2).1)))) i _;rw[hps,hp];exact .fn _ ps _ p i ns e (.inl ⟨k,x,qs,h1⟩) hn (jW _ _) he
  ·exact Ap hE ts
end X
end
end Go.Proofs.YtdkpkpgpphkljaaGreatDoor
