import Derived.Test.YtoohcklcppnafaaGreatDoorXf
namespace Go.Proofs.YtoohcklcppnafaaGreatDoor
set_option maxRecDepth 100000
set_option maxHeartbeats 4000000
open M
open X
namespace X
def Cap(f:R)(c:Nat):Prop:=∀ ts,(f ts).1.length+2*(f ts).2.length≤c+2*ts.length
theorem Cap.le{f:R}{c:Nat}(h:Cap f c)(ts:List Tok):(f ts).1.length≤c+2*ts.length:=by have:=h ts;omega
theorem Cap.mono{f:R}{c d:Nat}(h:Cap f c)(hd:c≤d):Cap f d:=fun ts=>by have:=h ts;omega
theorem Cap.nil:Cap Fv 0:=fun ts=>by show 0+_≤_;simp[Fv]
theorem Cap.andThen{f g:R}{c d:Nat}(hf:Cap f c)(hg:Cap g d):Cap (X.andThen f g) (c+d):=by
 intro ts;have h1:=hf ts;have h2:=hg (f ts).2;show((f ts).1++(g (f ts).2).1).length+2*(g (f ts).2).2.length≤_;rw[ay];omega
theorem Cap.ite{f g:R}{c:Nat}{b:List Tok→Bool}(hf:Cap f c)(hg:Cap g c):Cap (fun ts=>if b ts then f ts else g ts) c:=by
 intro ts;show(if b ts then f ts else g ts).1.length+2*(if b ts then f ts else g ts).2.length≤_
 split
 ·exact hf ts
 ·exact hg ts
theorem Cap.miss(m:ah):Cap (fun ts=>([.miss m],ts)) 1:=fun ts=>by show 1+_≤_;simp
theorem take_len(ts:List Tok):(take ts).1.length+(take ts).2.length=ts.length:=by
 show(List.map lf (ts.takeWhile quiet++(ts.dropWhile quiet).take 1)).length+((ts.dropWhile quiet).drop 1).length=_;have h:=congrArg List.length (fE (p:=quiet) (l:=ts));rw[ay] at h;rw[cB,ay,dX,bV];omega
theorem Cap.take:Cap X.take 0:=fun ts=>by have:=take_len ts;omega
theorem Cap.want(x:ah):Cap (X.want x) 1:=Cap.ite (b:=dJ x) (Cap.take.mono au) (Cap.miss x)
theorem Cap.bE:Cap X.bE 1:=Cap.ite (b:=fun ts=>dm ts==3) (Cap.take.mono au) (Cap.miss gy)
theorem Cap.iA{one:R}(h:Cap one 1):∀ n,Cap (iA one n) 0
 | 0=>Cap.nil
 | n+1=>by
  intro ts;unfold X.iA;by_cases hc:dJ [44] ts=true
  ·rw[aU hc]
   have h1:=fZ (bY hc);have h2:=take_len ts;have h3:=(h.andThen (Cap.iA h n)) (X.take ts).2;show((X.take ts).1++(X.andThen one (X.iA one n) (X.take ts).2).1).length+2*(X.andThen one (X.iA one n) (X.take ts).2).2.length≤_;rw[ay];omega
  ·rw[aM hc];simp
theorem Cap.jC{one:R}(h:Cap one 1):Cap (X.jC one) 0:=fun ts=>Cap.iA h ts.length ts
theorem Cap.dz{one:R}(h:Cap one 1)(e:ah):Cap (X.dz one e) 2:=Cap.ite (b:=dJ e) ((Cap.want e).mono au) (h.andThen (h.jC.andThen (Cap.want e)))
def fP(f:R):Prop:=∀ ts,∃ p,(f ts).1=[p]
theorem fP.node(f:R)(k:Nat):fP (node k f):=fun ts=>⟨.br k (f ts).1,rfl⟩
theorem fP.miss(m:ah):fP (fun ts=>([.miss m],ts)):=fun _=>⟨_,rfl⟩
theorem fP.ite{f g:R}{b:List Tok→Bool}(hf:fP f)(hg:fP g):fP (fun ts=>if b ts then f ts else g ts):=by
 intro ts;show ∃ p,(if b ts then f ts else g ts).1=[p]
 split
 ·exact hf ts
 ·exact hg ts
theorem fP.iG{one:R}{ok:List Tok→Bool}:∀(n:Nat) (p:Part) (ts:List Tok),∃ q,(iG one ok n [p] ts).1=[q]
 | 0,p,_=>⟨p,rfl⟩
 | n+1,p,ts=>by
  unfold X.iG
  split
  ·exact fP.iG n _ _
  ·exact⟨p,rfl⟩
theorem fP.row{one:R}{ok:List Tok→Bool}(h:fP one):fP (row one ok):=by
 intro ts;obtain⟨p,e⟩:=h ts;show ∃ q,(X.iG one ok (one ts).2.length (one ts).1 (one ts).2).1=[q];rw[e];exact fP.iG _ _ _
theorem fP.fG{E:R}:∀(n:Nat) (p:Part) (ts:List Tok),∃ q,(X.fG E n [p] ts).1=[q]
 | 0,p,_=>⟨p,rfl⟩
 | n+1,p,ts=>by
  unfold X.fG
  split
  ·exact fP.fG n _ _
  ·exact⟨p,rfl⟩
theorem fP.part(E:R):fP (part E) :=
 fP.ite (b:=fun ts=>dm ts==5) (fP.node _ _) <|
 fP.ite (b:=fun ts=>dm ts==6) (fP.node _ _) <|
 fP.ite (b:=fun ts=>dJ [116,114,117,101] ts||dJ [102,97,108,115,101] ts) (fP.node _ _) <|
 fP.ite (b:=fun ts=>dm ts==3) (fP.node _ _) <|
 fP.ite (b:=dJ [63]) (fP.node _ _) <|
 fP.ite (b:=dJ [40]) (fP.node _ _) <|
 fP.ite (b:=dJ [91]) (fP.node _ _) (fP.miss _)
theorem fP.call(E:R):fP (call E):=by
 intro ts;obtain⟨p,e⟩:=fP.part E ts;show ∃ q,(X.fG E (X.part E ts).2.length (X.part E ts).1 (X.part E ts).2).1=[q];rw[e];exact fP.fG _ _ _
theorem fP.product(E:R):fP (X.product E):=(fP.call E).row
theorem fP.sum(E:R):fP (X.sum E):=(fP.product E).row
theorem fP.comparison(E:R):fP (X.comparison E):=by
 intro ts;by_cases hc:(dJ [61,61] (X.sum E ts).2||dJ [60] (X.sum E ts).2)=true
 ·unfold X.comparison;rw[aU hc];exact⟨_,rfl⟩
 ·unfold X.comparison;rw[aM hc];exact fP.sum E ts
theorem fP.expr:∀ n,fP (X.expr n)
 | 0=>fP.miss _
 | _+1=>fP.ite (b:=dJ [108,101,116]) (fP.node _ _) <| fP.ite (b:=dJ [105,102]) (fP.node _ _) <| fP.ite (b:=dJ [102,117,110]) (fP.node _ _) (fP.comparison _)
theorem fP.cap{f:R}(h:fP f)(hs:eF f):Cap f 1:=by
 intro ts;obtain⟨p,e⟩:=h ts;have:=hs.le ts;rw[e];simp;omega
theorem fP.len{f:R}(h:fP f)(ts:List Tok):(f ts).1.length=1:=by obtain⟨p,e⟩:=h ts;rw[e];rfl
end X
section
open Tryz
open Go.RowKit
variable{w w1:aG}{rb dp B k:Nat}{s:ByteArray}{L:List Tk}{tv rv:Value}{ps1:List Part}{dh:List X.Tok}{D:Nat→Prop}
def Yk(rb:Nat)(w:aG):Nat:=match w.cell? (aC rb 2) with|some (.int _ a)=>a.toNat|_=>0
theorem bU.at(h:bU w rb s L tv dp B k rv ps1 dh D w1):L.length - Yk rb w1=dh.length:=by
 obtain⟨a1,nS,vs1,D1,g1,rfl,-⟩:=h;obtain⟨⟨c0,c1,c2,-⟩,-⟩:=g1.iW.raw.facts;have:Yk rb w1=a1:=by unfold Yk;rw[c2];rfl
 rw[this];unfold aR;simp
theorem bU.len(h:bU w rb s L tv dp B k rv ps1 dh D w1):dh.length≤L.length:=by
 obtain⟨a1,nS,vs1,D1,g1,rfl,-⟩:=h;unfold aR;simp
def TM(fn:FuncId)(args:Nat→Nat→Array Value)(F:X.R)(ok:List X.Tok→Prop)(s:ByteArray)(L:List Tk)(dp:Nat):Prop :=
 ∀(rb:Nat) (tv:Value) (a B k:Nat) (rv:Value) (vs:List Value) (ps:List Part) (D:Nat→Prop) (w:aG),Wk w rb s L tv a dp B k rv vs ps D→ok (aR s L a)→ps.length+(F (aR s L a)).1.length≤1073741824 →
  Calls prog fn (args rb B) w fun en w'=>en=.returned (.tuple #[])∧Hid (bU w rb s L tv dp B k rv (ps++(F (aR s L a)).1) (F (aR s L a)).2 D w')
theorem bU.aW7{fn:FuncId}{args:Nat→Nat→Array Value}{F:X.R}{ok:List X.Tok→Prop}{Q:Ending→World→Prop}
  (h:bU w rb s L tv dp B k rv ps1 dh D w1) (hF:TM fn args F ok s L dp) (hok:ok dh) (hl:ps1.length+(F dh).1.length≤1073741824)
  (hQ:∀ w2,Hid (bU w rb s L tv dp B k rv (ps1++(F dh).1) (F dh).2 D w2)→Q (.returned (.tuple #[])) w2) :
  Calls prog fn (args rb B) w1 Q:=by
 obtain⟨a1,nS,vs1,D1,g1,rfl,g3,g4,g5,g6⟩:=h;refine(hF rb tv a1 B k nS vs1 ps1 D1 w1 g1 hok hl).aX fun w2 H2=>?_;exact hQ w2 (bU.trans g3 g4 g5 g6 H2.o)
theorem TN(s:ByteArray)(L:List Tk)(dp:Nat)(hS:iU s L):Reads 156 X.bE (fun _=>True) s L dp:=by
 intro rb tv a B k rv vs ps D w h _ hl;have H:=bU.start h;have hg:=hS.rem a;have e1:eZ [gy] (aR s L a)=X.bE (aR s L a):=by rw[oC,vD hg]
 rw[← e1] at hl ⊢;clear h e1;go_enter func156,ntmps156;go_wp2_with fail
 refine bU.want (H.o) hS [gy] (by simp[gy]) aT hl ?_;intro w1 H1;go_wp2_with fail
 go_end0;exact⟨rfl,H1⟩
theorem IU(s:ByteArray)(L:List Tk)(dp:Nat)(hS:iU s L)(fn:FuncId)(hen:∀ args w,(callFunc fn args).run prog w=.ok (.enter fn args) w)(O:X.R)(hO:Reads fn O (fun _=>True) s L dp)(hsh:eF O)(e:ah)(he:e∈signs) :
  TM 155 (fun rb B=>#[aH rb,aH B,.func (.func fn) #[aH rb] #[],.string (ba e)]) (X.dz O e) (fun _=>True) s L dp:=by
 intro rb tv a B k rv vs ps D w h _ hl;have H:=bU.start h;have hg:=hS.rem a;have aW8:e≠[]:=by rintro rfl;revert he;decide
 have HO:=aA hO;rw[qj] at hl;clear h hO;have e1:[e].any (fun x=>pN x (aR s L a))=dJ e (aR s L a):=by simp[gV hg (.inr he)]
 go_enter func155,ntmps155;go_wp2_with fail
 refine bU.kL (H.o) [e] aT ?_;intro w1 H1;rw[e1];clear e1 H;cases hc:dJ e (aR s L a) with
 | true =>
  rw[hc] at hl;simp only[iK] at hl;have e2:eZ [e] (aR s L a)=X.want e (aR s L a):=by rw[oC,qi hg (.inr he)]
  rw[← e2] at hl;go_wp2_with fail
  refine bU.want (H1.o) hS [e] (by simpa using aW8) aT hl ?_;intro w2 H2;go_wp2_with fail
  go_end0;refine⟨rfl,?_⟩;rw[qj,hc,aU rfl,← e2];exact H2
 | false =>
  rw[hc] at hl;simp only[dw,gY] at hl;have hlA:ps.length+((O (aR s L a)).1.length+((X.jC O (O (aR s L a)).2).1.length+(X.want e (X.jC O (O (aR s L a)).2).2).1.length))≤1073741824:=by
   simp only[X.andThen,ay] at hl;omega
  go_wp2_with fail
  refine bU.then (H1.o) (HO.o) trivial au ?_;intro w2 H2;go_wp2_with fail
  go_loopw [] (fun wr=>∃(acc:List Part) (dh:List X.Tok),Hid (bU w rb s L tv dp B k rv (ps++acc) dh D wr)∧Hid (X.andThen O (X.jC O) (aR s L a)=(acc++(X.jC O dh).1,(X.jC O dh).2))) (fun wr=>L.length - Yk rb wr)
  case atStart=>exact⟨_,_,H2,(rfl:_=_)⟩
  case round =>
   obtain⟨acc,dh,H3,HE⟩:=hrel;have hg1:=(H3.o).good hS;have hlB:acc.length+(X.jC O dh).1.length=(O (aR s L a)).1.length+(X.jC O (O (aR s L a)).2).1.length:=by
    have:=congrArg (fun z=>z.1.length) HE.o;simp only[X.andThen,ay] at this;omega
   have e3:[[44]].any (fun x=>pN x dh)=dJ [44] dh:=by simp[gV hg1 (.inr (aS:[44]∈signs))]
   go_wp2_with fail
   refine bU.kL (H3.o) [[44]] aT ?_;intro w4 H4;rw[e3];cases hc2:dJ [44] dh with
   | true =>
    have hs:=IK hsh hc2;have hlC:(X.jC O dh).1.length=(X.take dh).1.length+((O (X.take dh).2).1.length+(X.jC O (O (X.take dh).2).2).1.length):=by
     rw[hs];simp only[X.andThen,ay]
    go_wp2_with fail
    refine bU.then (H4.o) (lQ s L dp hS) (bY hc2) (by rw[ay];omega) ?_;intro w5 H5;go_wp2_with fail
    refine bU.then (H5.o) (HO.o) trivial (by rw[ay,ay];omega) ?_;intro w6 H6;go_wp2_with fail
    refine⟨⟨acc++(X.take dh).1++(O (X.take dh).2).1,(O (X.take dh).2).2,?_,?_⟩,?_⟩
    ·have:ps++(acc++(X.take dh).1++(O (X.take dh).2).1)=ps++acc++(X.take dh).1++(O (X.take dh).2).1:=by simp
     rw[this];exact H6
    ·show _=_
     rw[HE.o,hs];simp[X.andThen]
    ·rw[(H6.o).at,(H3.o).at]
     have:=fZ (bY hc2);have:=hsh.le (X.take dh).2;omega
   | false =>
    have hs:=M6 (one:=O) hc2;have hx:X.andThen O (X.jC O) (aR s L a)=(acc,dh):=by rw[HE.o,hs];simp
    have e4:eZ [e] dh=X.want e dh:=by rw[oC,qi hg1 (.inr he)]
    have hx1:(X.jC O (O (aR s L a)).2).2=dh:=congrArg Prod.snd hx;have hx2:(O (aR s L a)).1++(X.jC O (O (aR s L a)).2).1=acc:=congrArg Prod.fst hx;rw[hx1] at hlA;go_wp2_with fail
    refine bU.want (H4.o) hS [e] (by simpa using aW8) aT (by rw[e4,ay,← hx2,ay];omega) ?_;intro w5 H5;go_wp2_with fail
    go_end0;refine⟨rfl,?_⟩;rw[qj,hc,aM aT];have e5:X.andThen O (X.andThen (X.jC O) (X.want e)) (aR s L a)=(acc++(X.want e dh).1,(X.want e dh).2):=by
     rw[← andThen_assoc];show((X.andThen O (X.jC O) (aR s L a)).1++_,_)=_;simp only[hx]
    rw[e5,← aK,← e4];exact H5
end
section
open Tryz
open Go.RowKit
variable{w w':aG}{lo hi B k:Nat}{v rv:Value}{vs:List Value}{ps:List Part}{L H:Nat→Nat}
namespace X
inductive Q where
 | mk (k t:Nat) (x:ah) (qs:List Q) (kM en fr tt:Int) (la:Bool)
mutual
def raw:Part→Q
 | .leaf k x=>.mk 0 k x [] 0 0 0 0 false
 | .miss m=>.mk 1 0 m [] 0 0 0 0 false
 | .br k ps=>.mk k 0 [] (FE ps) 0 0 0 0 false
def FE:List Part→List Q
 | []=>[]
 | p::ps=>raw p::FE ps
end
theorem wQ:∀ ps:List Part,FE ps=ps.map raw
 | []=>rfl
 | p::ps=>by rw[FE,wQ ps,iO]
end X
def gH(k t:Nat)(x:ah)(rv:Value)(kM en fr tt:Int)(la:Bool):Obj:=.cells #[ak k,ak t,.string (ba x),rv,ak kM,ak en,ak fr,ak tt,.bool la] 55 (0,0)
inductive nu(w:aG):Nat→Nat→Value→X.Q→Prop
 | mk (lo hi N k t:Nat) (x:ah) (qs:List X.Q) (kM en fr tt:Int) (la:Bool) (ao:Option Addr) (cap:Nat) (vs:Nat→Value) (L H:Nat→Nat)
   (hN:lo≤N∧N<hi) (hb:w.heap[N]?=some (gH k t x (.slice ao qs.length cap) kM en fr tt la)) (hc:qs.length≤cap∧cap≤maxLen)
   (hr:∀ i,i<qs.length→∃ g,ao=some ⟨g,0,none⟩∧lo≤g∧g<hi∧g≠N∧(∀ j,j<qs.length→¬(L j≤g∧g<H j))∧w.cell? (aC g i)=some (vs i))
   (hs:∀ i,i<qs.length→lo≤L i∧L i≤H i∧H i≤hi∧¬(L i≤N∧N<H i)∧∀ j,i<j→j<qs.length→H i≤L j)
   (hp:∀(i:Nat) (q:X.Q),qs[i]?=some q→nu w (L i) (H i) (vs i) q):nu w lo hi (aH N) (.mk k t x qs kM en fr tt la)
theorem nu.keep{S:Nat→Prop}(hk:Kp S w w'){q:X.Q}(h:nu w lo hi v q):(∀ i,lo≤i→i<hi→¬ S i)→nu w' lo hi v q:=by
 induction h with
 | mk lo hi N k t x qs kM en fr tt la ao cap vs L H hN hb hc hr hs hp ih =>
  intro hS;refine .mk lo hi N k t x qs kM en fr tt la ao cap vs L H hN (hk.heap hb (hS N hN.1 hN.2)) hc (fun i hi=>?_) hs (fun i q hq=>ih i q hq (fun j h1 h2=>?_))
  ·obtain⟨g,h1,h2,h3,h4,h5,h6⟩:=hr i hi
   exact⟨g,h1,h2,h3,h4,h5,hk.dD h6 (hS g h2 h3)⟩
  ·have hl:i<qs.length:=by
    rcases cu i qs.length with g|g
    ·exact g
    ·rw[bf g] at hq;cases hq
   have:=hs i hl;exact hS j au au
theorem nu.lt{q:X.Q}(h:nu w lo hi v q):lo<hi:=by
 cases h with
 | mk _ _ N _ _ _ _ _ _ _ _ _ _ _ _ _ _ hN=>omega
theorem nu.kept(hk:Below w.heap.size w w'){q:X.Q}(h:nu w lo hi v q):nu w' lo hi v q:=h.keep (Kp.aN hk (fun _=>False)) (fun _ _ _=>id)
theorem nu.wide{lo' hi':Nat}{q:X.Q}(h:nu w lo hi v q)(h1:lo'≤lo)(h2:hi≤hi'):nu w lo' hi' v q:=by
 cases h with
 | mk _ _ N k t x qs kM en fr tt la ao cap vs L H hN hb hc hr hs hp =>
  exact .mk lo' hi' N k t x qs kM en fr tt la ao cap vs L H ⟨au,au⟩ hb hc (fun i hi=>by obtain⟨g,e1,e2,e3,e4⟩:=hr i hi;exact⟨g,e1,au,au,e4⟩) (fun i hi=>by obtain⟨e1,e2,e3,e4⟩:=hs i hi;exact⟨au,e2,au,e4⟩) hp
structure UY(w:aG)(lo B:Nat)(og:Option Nat)(vs:List Value)(ps:List Part)(L H:Nat→Nat):Prop where
 len:vs.length=ps.length
 sep:∀ i,i<ps.length→lo≤L i∧L i≤H i∧H i≤w.heap.size∧¬(L i≤B∧B<H i)∧(∀ g,og=some g→¬(L i≤g∧g<H i))∧∀ j,i<j→j<ps.length→H i≤L j
 each:∀(i:Nat) (p:Part),ps[i]?=some p→∃ v,vs[i]?=some v∧nu w (L i) (H i) v (X.raw p)
theorem UY.keep{S:Nat→Prop}{w w':aG}{lo B:Nat}{og:Option Nat}{vs:List Value}{ps:List Part}{L H:Nat→Nat}(h:UY w lo B og vs ps L H)(hk:Kp S w w')(hS:∀ i,i<ps.length→∀ q,L i≤q→q<H i→¬ S q):UY w' lo B og vs ps L H:=by
 refine⟨h.len,fun i hi=>?_,fun i p hp=>?_⟩
 ·obtain⟨h1,h2,h3,h4⟩:=h.sep i hi
  exact⟨h1,h2,dI h3 hk.size,h4⟩
 ·obtain⟨v,h1,h2⟩:=h.each i p hp
  have hl:i<ps.length:=by
   rcases cu i ps.length with g|g
   ·exact g
   ·rw[bf g] at hp;cases hp
  exact⟨v,h1,h2.keep hk (hS i hl)⟩
theorem UY.nil(w:aG)(lo B:Nat)(og:Option Nat):UY w lo B og [] [] (fun _=>0) (fun _=>0):=⟨rfl,fun i hi=>by simp at hi,fun i p hp=>by simp at hp⟩
theorem UY.snoc{og og':Option Nat}(h:UY w lo B og vs ps L H){l u:Nat}{p:Part}(hp:nu w l u v (X.raw p))
  (h1:∀ i,i<ps.length→H i≤l) (h2:lo≤l) (h3:u≤w.heap.size) (h4:¬(l≤B∧B<u)) (h5:∀ g,og'=some g→(¬(l≤g∧g<u))∧∀ i,i<ps.length→¬(L i≤g∧g<H i)) :
  UY w lo B og' (vs++[v]) (ps++[p]) (fun i=>if i=ps.length then l else L i) (fun i=>if i=ps.length then u else H i):=by
 have YI:=hp.lt;refine⟨by rw[ay,ay,h.len];rfl,fun i hi=>?_,fun i q hq=>?_⟩
 ·rw[ay,bF] at hi
  by_cases e:i=ps.length
  ·simp only[e,iK]
   refine⟨h2,au,h3,h4,fun g hg=>(h5 g hg).1,fun j hj hj2=>?_⟩;rw[ay,bF] at hj2;omega
  ·have hi':i<ps.length:=by omega
   obtain⟨a1,a2,a3,a4,a5,a6⟩:=h.sep i hi';simp only[e,gY];refine⟨a1,a2,a3,a4,fun g hg=>(h5 g hg).2 i hi',fun j hj hj2=>?_⟩;rw[ay,bF] at hj2;by_cases e2:j=ps.length
   ·simp only[e2,iK];exact h1 i hi'
   ·simp only[e2,gY];exact a6 j hj au
 ·have hi:i<ps.length+1:=by
   rcases cu i (ps.length+1) with g|g
   ·exact g
   ·rw[bf (by rw[ay];exact g)] at hq;cases hq
  by_cases e:i=ps.length
  ·subst e
   rw[bL (ax _),iZ] at hq;obtain rfl:p=q:=by simpa using hq
   refine⟨v,by rw[← h.len,bL (ax _),iZ];rfl,?_⟩;simp only[iK];exact hp
  ·rw[bT au] at hq
   obtain⟨u',g1,g2⟩:=h.each i q hq;refine⟨u',by rw[bT (by rw[h.len];omega)];exact g1,?_⟩;simp only[e,gY];exact g2
structure Mk(w:aG)(lo B k:Nat)(rv:Value)(vs:List Value)(ps:List Part)(L H:Nat→Nat):Prop where
 blk:w.heap[B]?=some (gH k 0 [] rv 0 0 0 0 false)
 row:w.ownsRow lo 51 1 rv vs.length vs
 pq:UY w lo B rv.ownBlock vs ps L H
 ge:lo≤B
 ne:rv.ownBlock≠some B
theorem Mk.lt(h:Mk w lo B k rv vs ps L H):B<w.heap.size:=bN h.blk
theorem Mk.keep{S:Nat→Prop}{w w':aG}{lo B k:Nat}{rv:Value}{vs:List Value}{ps:List Part}{L H:Nat→Nat}(h:Mk w lo B k rv vs ps L H)(hk:Kp S w w')(hS:∀ q,lo≤q→q<w.heap.size→¬ S q):Mk w' lo B k rv vs ps L H :=
 ⟨hk.heap h.blk (hS B h.ge h.lt),hk.owns h.row (fun g hg=>by have:=dG h.row g hg;exact hS g this.1 this.2),h.pq.keep hk (fun i hi q h1 h2=>by have:=h.pq.sep i hi;exact hS q au au),h.ge,h.ne⟩
theorem Mk.below(h:Mk w lo B k rv vs ps L H)(hk:Below w.heap.size w w'):Mk w' lo B k rv vs ps L H:=h.keep (Kp.aN hk (fun _=>False)) (fun _ _ _=>id)
theorem Mk.facts(h:Mk w lo B k rv vs ps L H) :
  w.cell? (aC B 0)=some (ak k)∧w.cell? (aC B 3)=some rv∧w.frozen? (aC B 0)=false∧w.frozen? (aC B 3)=false:=by
 have h:=h.blk;unfold gH at h;refine⟨?_,?_,?_,?_⟩<;>simp[World.cell?,World.frozen?,h]
theorem Mk.new(w:aG)(k:Nat):Mk (w.alloc (gH k 0 [] (.slice none 0 0) 0 0 0 0 false)) w.heap.size w.heap.size k (.slice none 0 0) [] [] (fun _=>0) (fun _=>0) :=
 ⟨aI w _,dK _ _ _ _,UY.nil _ _ _ _,ax _,fun e=>by cases e⟩
theorem Mk.done(h:Mk w lo B k rv vs ps L H):nu w lo w.heap.size (aH B) (X.raw (.br k ps)):=by
 have hl:=h.pq.len;have hbl:=h.lt;have hge:=h.ge;have hb:=h.blk;have sP:(FE ps).length=ps.length:=by rw[wQ,cB]
 have uD:∀(vs':Nat→Value),(∀ i,vs' i=vs.getD i undef)→∀(i:Nat) (q:X.Q),(FE ps)[i]?=some q→nu w (L i) (H i) (vs' i) q:=by
  intro vs' hv i q hq;rw[wQ,iI] at hq;cases hp:ps[i]? with
  | none=>rw[hp] at hq;cases hq
  | some p =>
   rw[hp] at hq;obtain rfl:X.raw p=q:=by simpa using hq
   obtain⟨v,h1,h2⟩:=h.pq.each i p hp;rw[hv,bG,h1];exact h2
 rw[X.raw];rcases h.row.2 with ⟨rfl,h0⟩|⟨g,cap,cur,rfl,hg0,hg,hn,hmx,hsz,ht⟩
 ·have hp:ps=[]:=bP.1 au
  subst hp;exact .mk lo _ B k 0 [] _ 0 0 0 0 false none 0 (fun i=>vs.getD i undef) L H ⟨hge,hbl⟩ hb ⟨ax _,by unfold maxLen;omega⟩ (fun i hi=>by simp[FE] at hi) (fun i hi=>by simp[FE] at hi) (uD _ (fun _=>rfl))
 ·have hgl:=bN hg
  rw[hl] at hb hn;have hne:g≠B:=fun e=>h.ne (by rw[e];rfl)
  refine .mk lo _ B k 0 [] _ 0 0 0 0 false (b_ g) cap (fun i=>vs.getD i undef) L H ⟨hge,hbl⟩ (by rw[sP];exact hb) ⟨by rw[sP];exact hn,hmx⟩ (fun i hi=>⟨g,rfl,hg0,hgl,hne,fun j hj=>?_,?_⟩) (fun i hi=>?_) (uD _ (fun _=>rfl))
  ·rw[sP] at hj
   exact(h.pq.sep j hj).2.2.2.2.1 g rfl
  ·rw[sP] at hi
   have hv:vs[i]?=some (vs.getD i undef):=by
    rw[bG,aF au];rfl
   have:=h.row.cells (g:=g) rfl i _ hv
   rwa[dQ,bS] at this
  ·rw[sP] at hi
   obtain⟨a1,a2,a3,a4,a5,a6⟩:=h.pq.sep i hi;exact⟨a1,a2,a3,a4,fun j h1 h2=>a6 j h1 (by rw[sP] at h2;exact h2)⟩
theorem nu.leaf{w:aG}{N k:Nat}{x:ah}(hb:w.heap[N]?=some (gH 0 k x (.slice none 0 0) 0 0 0 0 false)):nu w N (N+1) (aH N) (X.raw (.leaf k x)):=by
 rw[X.raw];exact .mk N _ N 0 k x [] 0 0 0 0 false none 0 (fun _=>undef) (fun _=>0) (fun _=>0) ⟨ax _,au⟩ hb ⟨ax _,by unfold maxLen;omega⟩ (fun i hi=>by simp at hi) (fun i hi=>by simp at hi) (fun i q hq=>by simp at hq)
theorem nu.miss{w:aG}{N:Nat}{x:ah}(hb:w.heap[N]?=some (gH 1 0 x (.slice none 0 0) 0 0 0 0 false)):nu w N (N+1) (aH N) (X.raw (.miss x)):=by
 rw[X.raw];exact .mk N _ N 1 0 x [] 0 0 0 0 false none 0 (fun _=>undef) (fun _=>0) (fun _=>0) ⟨ax _,au⟩ hb ⟨ax _,by unfold maxLen;omega⟩ (fun i hi=>by simp at hi) (fun i hi=>by simp at hi) (fun i q hq=>by simp at hq)
theorem qM:(prog.info? 51).map (fun i=>(i.zero,i.size,i.bytes))=some (some (.pointer none),1,8):=bC
end
section
open Tryz
open Go.RowKit
variable{w w':aG}{rb a:Nat}{s:ByteArray}{tv:Value}{c:Bool}{L:List Tk}{t:Tk}
def sI(w:aG)(rb:Nat)(s:ByteArray)(tv:Value)(a dp:Int)(c:Bool):Prop:=w.heap[rb]?=some (.cells #[.string s,tv,ak a,ak dp,.bool c] 92 (0,0))
theorem sI.facts{a dp:Int}(h:sI w rb s tv a dp c) :
  (w.cell? (aC rb 0)=some (.string s)∧w.cell? (aC rb 1)=some tv∧w.cell? (aC rb 2)=some (ak a)∧w.cell? (aC rb 3)=some (ak dp))∧(w.frozen? (aC rb 2)=false∧w.frozen? (aC rb 3)=false∧w.frozen? (aC rb 4)=false)∧w.cell? (aC rb 4)=some (.bool c):=by
 unfold sI at h;refine⟨⟨?_,?_,?_,?_⟩,⟨?_,?_,?_⟩,?_⟩<;>simp[World.cell?,World.frozen?,h]
theorem sI.set2{a dp:Int}(h:sI w rb s tv a dp c)(y:Int):sI (w.setCell (aC rb 2) (ak y)) rb s tv y dp c:=by
 unfold sI at h ⊢;simp[World.setCell,aZ,h]
theorem sI.EZ{a dp:Int}(h:sI w rb s tv a dp c)(y:Int):sI (w.setCell (aC rb 3) (ak y)) rb s tv a y c:=by
 unfold sI at h ⊢;simp[World.setCell,aZ,h]
theorem sI.wH{a dp:Int}(h:sI w rb s tv a dp c)(y:Bool):sI (w.setCell (aC rb 4) (.bool y)) rb s tv a dp y:=by
 unfold sI at h ⊢;simp[World.setCell,aZ,h]
structure xZ(w:aG)(rb:Nat)(s:ByteArray)(L:List Tk)(tv:Value)(a dp:Nat):Prop where
 raw:∃ c,sI w rb s tv a dp c
 row:yt w tv L
 le:a≤L.length
 own:∀ k,tv.ownBlock=some k→k≠rb∧k<w.heap.size
theorem xZ.lt{dp:Nat}(h:xZ w rb s L tv a dp):rb<w.heap.size:=by obtain⟨c,h1⟩:=h.raw;exact bN h1
theorem xZ.keep{S:Nat→Prop}{w w':aG}{rb:Nat}{s:ByteArray}{L:List Tk}{tv:Value}{a dp:Nat}(h:xZ w rb s L tv a dp)(hk:Kp S w w')(hn:¬ S rb)(ht:∀ k,tv.ownBlock=some k→¬ S k):xZ w' rb s L tv a dp :=
 ⟨by obtain⟨c,h1⟩:=h.raw;exact⟨c,hk.heap h1 hn⟩,h.row.keep hk ht,h.le,fun k e=>⟨(h.own k e).1,aJ (h.own k e).2 hk.size⟩⟩
theorem xZ.below{dp:Nat}(h:xZ w rb s L tv a dp)(hk:Below w.heap.size w w'):xZ w' rb s L tv a dp:=h.keep (Kp.aN hk (fun _=>False)) id (fun _ _=>id)
theorem xZ.moved{dp a' Lh:Nat}(h:xZ w rb s L tv a dp)(hk:On rb w w')(hr:sI w' rb s tv a' Lh c)(ha:a'≤L.length):xZ w' rb s L tv a' Lh :=
 ⟨⟨c,hr⟩,h.row.keep hk (fun k e e'=>(h.own k e).1 e'),ha,fun k e=>⟨(h.own k e).1,aJ (h.own k e).2 hk.size⟩⟩
theorem DU(h:L[a]?=some t)(hq:qk t=true):jO L a=jO L (a+1):=by
 have hd:L.drop a=t::L.drop (a+1):=by
  have hl:a<L.length:=by
   rcases cu a L.length with g|g
   ·exact g
   ·rw[bf g] at h;cases h
  rw[dS hl];congr 1;exact bQ ((aF hl).symm.trans h)
 unfold jO;rw[hd,List.takeWhile_cons,aU hq,aY];omega
theorem Uj(h:L[a]?=some t)(hq:qk t=false):jO L a=a:=by
 have hd:L.drop a=t::L.drop (a+1):=by
  have hl:a<L.length:=by
   rcases cu a L.length with g|g
   ·exact g
   ·rw[bf g] at h;cases h
  rw[dS hl];congr 1;exact bQ ((aF hl).symm.trans h)
 unfold jO;rw[hd,List.takeWhile_cons,aM (by rw[hq];simp)];rfl
theorem Uk{b:Nat}(h:a=b):Ending.returned (ak (a:Int))=Ending.returned (ak (b:Int)):=by rw[h]
theorem Ul:jO L L.length=L.length:=by unfold jO;simp
theorem x_(rb:Nat)(s:ByteArray)(L:List Tk)(tv:Value)(a dp:Nat)(w:aG)(hS:iU s L)(h:xZ w rb s L tv a dp) :
  bB 59 #[aH rb] w (cK (ak (jO L a)) fun w'=>Below w.heap.size w w'):=by
 obtain⟨c,hr⟩:=h.raw;have HR:=aA hr;obtain⟨⟨c0,c1,c2,c3⟩,-,-⟩:=hr.facts;have hl2:=hS.len;have HT:=aA h.row;have ha:=h.le;obtain⟨ao,cap,rfl,hc1,hc2,-⟩:=h.row;clear h hr hS;go_enter func59,ntmps59;go_wp2_with fail
 go_loopw [3] (fun v wr=>∃ m:Nat,v=ak m∧m≤L.length∧Hid (jO L a=jO L m)∧Hid (Below w.heap.size w wr)) (fun v _=>L.length - (intOf v).toNat)
 case atStart=>exact⟨a,rfl,ha,(rfl:jO L a=jO L a),aB _ w⟩
 case round =>
  obtain⟨m,rfl,hm,HJ,HB⟩:=hrel;clear c0 c1 c2 c3;obtain⟨⟨c0,c1,c2,c3⟩,-,-⟩:=sI.facts ((Kp.aN (HB.o) (fun _=>False)).heap HR.o id);by_cases hlt:m<L.length
  case neg =>
   have i1:decide (m<L.length)=false:=aQ
   have i2:decide ((m:Int)<(L.length:Int))=false:=aQ
   have HE:Hid (jO L a=m):=by
    have hml:m=L.length:=au
    show _=_;rw[HJ.o,hml,Ul]
   clear HJ;go_wp2_with fail
   go_ret;exact⟨Uk HE.o.symm,HB.o⟩
  obtain⟨b',o',t,rfl,ht,q1,q2,q3⟩:=(HT.o).get HB.o hlt;have i1:decide (m<L.length)=true:=aQ
  have i2:decide ((m:Int)<(L.length:Int))=true:=aQ
  have hi1:(0:Int)≤(m:Int):=bO _;have hi2:(m:Int)<(L.length:Int):=au
  cases k1:((t.kind:Int)==1) with
  | true =>
   have HN:Hid (jO L a=jO L (m+1)):=by
    show _=_;rw[HJ.o];exact DU ht (by unfold qk;simp at k1 ⊢;omega)
   clear ht HJ;go_wp2_with fail
   exact⟨⟨m+1,by go_num,au,HN,HB⟩,by simp only[intOf];omega⟩
  | false =>
   cases k2:((t.kind:Int)==2) with
   | true =>
    have HN:Hid (jO L a=jO L (m+1)):=by
     show _=_;rw[HJ.o];exact DU ht (by unfold qk;simp at k2 ⊢;omega)
    clear ht HJ;go_wp2_with fail
    exact⟨⟨m+1,by go_num,au,HN,HB⟩,by simp only[intOf];omega⟩
   | false =>
    have HN:Hid (jO L a=m):=by
     show _=_;rw[HJ.o];exact Uj ht (by unfold qk;simp at k1 k2 ⊢;omega)
    clear ht HJ;go_wp2_with fail
    go_ret;exact⟨Uk HN.o.symm,HB.o⟩
theorem yc(rb:Nat)(s:ByteArray)(L:List Tk)(tv:Value)(a dp:Nat)(w:aG)(hS:iU s L)(h:xZ w rb s L tv a dp) :
  bB 30 #[aH rb] w (cK (ak (dm (aR s L a))) fun w'=>Below w.heap.size w w'):=by
 have HR:=aA h;have hl2:=hS.len;have hq:=Bo h.le;obtain⟨ao,cap,rfl,hc1,hc2,-⟩:=h.row;have HK:=aA (Iy s L a);clear h;go_enter func30,ntmps30;go_wp2_with fail
 refine(x_ rb s L _ a dp w hS HR.o).aX fun w1 k1=>?_;have HB:=aA k1;have HR1:=aA ((HR.o).below k1);clear k1 HR;obtain⟨c,hr⟩:=(HR1.o).raw;obtain⟨⟨c0,c1,c2,c3⟩,-,-⟩:=hr.facts;clear hr;by_cases hlt:jO L a<L.length
 ·obtain⟨b',o',t,rfl,ht,q1,q2,q3⟩:=(HR1.o).row.get (aB _ w1) hlt
  rw[ht] at HK;have i1:decide (L.length≤jO L a)=false:=aQ
  have i2:decide ((L.length:Int)≤(jO L a:Int))=false:=aQ
  have hi1:(0:Int)≤(jO L a:Int):=bO _;have hi2:(jO L a:Int)<(L.length:Int):=au
  clear ht;go_wp2_with fail
  go_ret;exact⟨Uk HK.o.symm,HB.o⟩
 ·have i1:decide (L.length≤jO L a)=true:=by simp;omega
  have i2:decide ((L.length:Int)≤(jO L a:Int))=true:=aQ
  have hnone:L[jO L a]?=none:=bf au;rw[hnone] at HK;clear hnone;go_wp2_with fail
  go_ret;exact⟨Uk (b:=dm (aR s L a)) HK.o.symm,HB.o⟩
theorem Xk(s:ByteArray)(L:List Tk)(a:Nat)(x:ah):dJ x (aR s L a)=match L[jO L a]? with|some t=>(t.kind==4||t.kind==7)&&((bs s).drop t.pos).take t.len==x|none=>false:=by
 unfold dJ;rw[zB];cases L[jO L a]?<;>rfl
theorem zF(rb:Nat)(s:ByteArray)(L:List Tk)(tv:Value)(a dp:Nat)(x:ah)(w:aG)(hS:iU s L)(h:xZ w rb s L tv a dp) :
  bB 61 #[aH rb,.string (ba x)] w (cK (.bool (dJ x (aR s L a))) fun w'=>Below w.heap.size w w'):=by
 have HR:=aA h;have hl1:=hS.size;have hl2:=hS.len;have HF:=aA hS.fit;have hq:=Bo h.le;obtain⟨ao,cap,rfl,hc1,hc2,-⟩:=h.row;have HK:=aA (Xk s L a x);clear h;go_enter func61,ntmps61;go_wp2_with fail
 refine(x_ rb s L _ a dp w hS HR.o).aX fun w1 k1=>?_;have HB:=aA k1;have HR1:=aA ((HR.o).below k1);clear k1 HR hS;obtain⟨c,hr⟩:=(HR1.o).raw;obtain⟨⟨c0,c1,c2,c3⟩,-,-⟩:=hr.facts;have hrl:=bN hr;clear hr;by_cases hlt:jO L a<L.length
 ·obtain⟨b',o',t,rfl,ht,q1,q2,q3⟩:=(HR1.o).row.get (aB _ w1) hlt
  obtain⟨g1,g2,g3⟩:=(HF.o) t (dF ht);rw[ht] at HK;have i1:decide (L.length≤jO L a)=false:=aQ
  have i2:decide ((L.length:Int)≤(jO L a:Int))=false:=aQ
  have hi1:(0:Int)≤(jO L a:Int):=bO _;have hi2:(jO L a:Int)<(L.length:Int):=au
  have j1:(t.pos:Int)≤(t.pos:Int)+(t.len:Int):=au
  have j2:(t.pos:Int)+(t.len:Int)≤(s.size:Int):=au
  have j3:t.pos≤s.size:=au
  have tl:∀ z:ah,(ba z).toList=z:=fun z=>by rw[jw];exact rV z
  have HX:Hid ((s.extract t.pos (t.pos+t.len)).toList=((bs s).drop t.pos).take t.len):=by
   show _=_;rw[jw];show bs _=_;rw[xH,oP,BD]
  have HXX:Hid ((((bs s).drop t.pos).take t.len==x)=((s.extract t.pos (t.pos+t.len)).toList==(ba x).toList)):=by
   show _=_;rw[HX.o,tl]
  have hbl:b'<w1.heap.size:=dU _ _ q1;clear ht tl HX;have hnew:∀ o:Obj,(w1.alloc o).cell? (aC b' (o'+jO L a*3))=w1.cell? (aC b' (o'+jO L a*3)):=fun o=>World.cell?_alloc_old _ _ _ (Nat.ne_of_lt hbl)
  cases k1:((t.kind:Int)==4) with
  | true =>
   have mU:Hid (dJ x (aR s L a)=((s.extract t.pos (t.pos+t.len)).toList==(ba x).toList)):=by
    show _=_;rw[HK.o,← HXX.o];have:(t.kind==4)=true:=by simp at k1 ⊢;omega
    simp only[this,Bool.true_or,Bool.true_and]
   have n1:((t.kind:Int) !=4)=false:=by simp[bne,k1]
   have n2:(t.kind:Int)=4:=by simpa using k1
   clear HK HXX hnew;go_wp2_with fail
   go_quiet (fail)
   go_wp2_with fail
   go_ret;exact⟨jQ mU.o.symm,(HB.o).trans ((iQ ((aB _ w1).alloc (ax _) _) nq).mono (HB.o).size)⟩
  | false =>
   cases k2:((t.kind:Int)==7) with
   | true =>
    have mU:Hid (dJ x (aR s L a)=((s.extract t.pos (t.pos+t.len)).toList==(ba x).toList)):=by
     show _=_;rw[HK.o,← HXX.o];have:(t.kind==7)=true:=by simp at k2 ⊢;omega
     simp only[this,Bool.or_true,Bool.true_and]
    have n1:((t.kind:Int) !=4)=true:=by simp[bne,k1]
    have n2:¬(t.kind:Int)=4:=by simpa using k1
    have n3:((t.kind:Int) !=7)=false:=by simp[bne,k2]
    have n4:(t.kind:Int)=7:=by simpa using k2
    clear HK HXX hnew;go_wp2_with fail
    go_quiet (fail)
    go_wp2_with fail
    go_ret;exact⟨jQ mU.o.symm,(HB.o).trans ((iQ ((aB _ w1).alloc (ax _) _) nq).mono (HB.o).size)⟩
   | false =>
    have mU:Hid (dJ x (aR s L a)=false):=by
     show _=_;rw[HK.o];have e1:(t.kind==4)=false:=by simp at k1 ⊢;omega
     have e2:(t.kind==7)=false:=by simp at k2 ⊢;omega
     simp only[e1,e2,Bool.or_self,Bool.false_and]
    have n1:((t.kind:Int) !=4)=true:=by simp[bne,k1]
    have n2:¬(t.kind:Int)=4:=by simpa using k1
    have n3:((t.kind:Int) !=7)=true:=by simp[bne,k2]
    have n4:¬(t.kind:Int)=7:=by simpa using k2
    clear HK HXX hnew;go_wp2_with fail
    go_ret;exact⟨jQ mU.o.symm,HB.o⟩
 ·have i1:decide (L.length≤jO L a)=true:=by simp;omega
  have i2:decide ((L.length:Int)≤(jO L a:Int))=true:=aQ
  have hnone:L[jO L a]?=none:=bf au;rw[hnone] at HK;clear hnone;go_wp2_with fail
  go_ret;exact⟨jQ HK.o.symm,HB.o⟩
end
section
open Tryz
open Go.RowKit
variable{w w':aG}{lo B k l u rb a dp a' Lh:Nat}{rv v tv:Value}{vs:List Value}{ps:List Part}{p:Part}{L:List Tk}{s:ByteArray}{Lo Hi:Nat→Nat}
theorem Mk.added{rv':Value}{L H:Nat→Nat}(h:Mk w lo B k rv vs ps L H)(hp:nu w l u v (X.raw p))
  (h1:∀ i,i<ps.length→H i≤l) (h2:lo≤l) (h3:u≤w.heap.size) (h4:¬(l≤B∧B<u)) (h5:∀ g,rv.ownBlock=some g→¬(l≤g∧g<u))
  (hb:w'.heap[B]?=some (gH k 0 [] rv' 0 0 0 0 false)) (hr:w'.ownsRow lo 51 1 rv' (vs++[v]).length (vs++[v])) (ho:∀ g,rv'.ownBlock=some g→rv.ownBlock=some g∨w.heap.size≤g) (hk:Kp (fun q=>q=B∨rv.ownBlock=some q) w w') :
  ∃ L' H',Mk w' lo B k rv' (vs++[v]) (ps++[p]) L' H':=by
 have hS:∀ i,i<ps.length→∀ q,L i≤q→q<H i→¬(q=B∨rv.ownBlock=some q):=by
  rintro i hi q e1 e2 (e|e)
  ·have:=(h.pq.sep i hi).2.2.2.1;subst e;exact this ⟨e1,e2⟩
  ·exact(h.pq.sep i hi).2.2.2.2.1 q e ⟨e1,e2⟩
 have hP:∀ i,l≤i→i<u→¬(i=B∨rv.ownBlock=some i):=by
  rintro i e1 e2 (e|e)
  ·subst e;exact h4 ⟨e1,e2⟩
  ·exact h5 i e ⟨e1,e2⟩
 have hbl:=h.lt;refine⟨_,_,hb,hr,(h.pq.keep hk hS).snoc (hp.keep hk hP) h1 h2 (dI h3 hk.size) h4 (fun g hg=>?_),h.ge,fun e=>?_⟩
 ·rcases ho g hg with e|e
  ·exact⟨h5 g e,fun i hi=>(h.pq.sep i hi).2.2.2.2.1 g e⟩
  ·exact⟨au,fun i hi=>by have:=(h.pq.sep i hi).2.2.1;omega⟩
 ·rcases ho B e with e|e
  ·exact h.ne e
  ·omega
structure vG(w:aG)(rb:Nat)(s:ByteArray)(L:List Tk)(tv:Value)(a dp lo B k:Nat)(rv:Value)(vs:List Value)(ps:List Part)(Lo Hi:Nat→Nat):Prop where
 iW:xZ w rb s L tv a dp
 nd:Mk w lo B k rv vs ps Lo Hi
 Pt:rb<lo
 tlt:∀ q,tv.ownBlock=some q→q<lo
def Sm(rb B:Nat)(rv:Value)(q:Nat):Prop:=q=rb∨q=B∨rv.ownBlock=some q
def kV(w:aG)(rb:Nat)(s:ByteArray)(L:List Tk)(tv:Value)(dp lo B k:Nat)(rv:Value)(ps':List Part)(ts':List X.Tok)(w':aG):Prop :=
 ∃ a' rv' vs' BO BP,vG w' rb s L tv a' dp lo B k rv' vs' ps' BO BP∧aR s L a'=ts'∧(∀ g,rv'.ownBlock=some g→rv.ownBlock=some g∨w.heap.size≤g)∧Kp (Sm rb B rv) w w'
theorem kV.refl{w:aG}{rb:Nat}{s:ByteArray}{L:List Tk}{tv:Value}{a dp lo B k:Nat}{rv:Value}{vs:List Value}{ps:List Part}{Lo Hi:Nat→Nat}(h:vG w rb s L tv a dp lo B k rv vs ps Lo Hi):kV w rb s L tv dp lo B k rv ps (aR s L a) w :=
 ⟨a,rv,vs,Lo,Hi,h,rfl,fun _ hg=>.inl hg,Kp.refl _ _⟩
theorem kV.trans{w w1 w2:aG}{rb:Nat}{s:ByteArray}{L:List Tk}{tv:Value}{dp lo B k1:Nat}{rv nS:Value}{ps2:List Part}{M4:List X.Tok}
  (hr:∀ g,nS.ownBlock=some g→rv.ownBlock=some g∨w.heap.size≤g) (hk:Kp (Sm rb B rv) w w1) (h:kV w1 rb s L tv dp lo B k1 nS ps2 M4 w2):kV w rb s L tv dp lo B k1 rv ps2 M4 w2:=by
 obtain⟨a',rv',vs',BO,BP,h1,h2,h3,h4⟩:=h;have hz:=hk.size;refine⟨a',rv',vs',BO,BP,h1,h2,fun g hg=>?_,Kp.trans hk h4 (fun i hi e=>?_)⟩
 ·rcases h3 g hg with e|e
  ·exact hr g e
  ·exact .inr au
 ·rcases e with e|e|e
  ·exact .inl e
  ·exact .inr (.inl e)
  ·rcases hr i e with e|e
   ·exact .inr (.inr e)
   ·omega
theorem vG.below{w w':aG}{rb:Nat}{s:ByteArray}{L:List Tk}{tv:Value}{a dp lo B k:Nat}{rv:Value}{vs:List Value}{ps:List Part}{Lo Hi:Nat→Nat}(h:vG w rb s L tv a dp lo B k rv vs ps Lo Hi)(hk:Below w.heap.size w w'):vG w' rb s L tv a dp lo B k rv vs ps Lo Hi :=
 ⟨h.iW.below hk,h.nd.below hk,h.Pt,h.tlt⟩
theorem vG.moved(h:vG w rb s L tv a dp lo B k rv vs ps Lo Hi)(hk:On rb w w')(hr:xZ w' rb s L tv a' Lh):vG w' rb s L tv a' Lh lo B k rv vs ps Lo Hi :=
 ⟨hr,h.nd.keep hk (fun q e1 _ e=>by have:=h.Pt;omega),h.Pt,h.tlt⟩
theorem kV.next{w1:aG}{ps1:List Part}{dh:List X.Tok}(h:kV w rb s L tv dp lo B k rv ps1 dh w1){w2:aG}(hk:Below w1.heap.size w1 w2):kV w rb s L tv dp lo B k rv ps1 dh w2:=by
 obtain⟨a',rv',vs',BO,BP,h1,h2,h3,h4⟩:=h;exact⟨a',rv',vs',BO,BP,h1.below hk,h2,h3,Kp.trans h4 (Kp.aN hk (fun _=>False)) (fun _ _ e=>e.elim)⟩
theorem vG.put{W w5:aG}{g cap:Nat}(h:vG w rb s L tv a dp lo B k rv vs ps Lo Hi)(hK:On rb w W)(hr:xZ W rb s L tv a' Lh)
  (hp:nu W l u v (X.raw p)) (hl:w.heap.size≤l) (hu:u≤W.heap.size) (hgrow:W.grownBy w5 rv.ownBlock) (hown:w5.ownsRow lo 51 1 (.slice (b_ g) (vs.length+1) cap) (vs.length+1) (vs++[v])) (hat:rv.ownBlock=some g∨W.heap.size≤g) :
  kV w rb s L tv Lh lo B k rv (ps++[p]) (aR s L a') (w5.setCell (aC B 3) (.slice (b_ g) (vs.length+1) cap)):=by
 have hM:=h.moved hK hr;have hz:=hK.size;have hbl:=h.nd.lt;have hrl:=h.Pt;have hge:=h.nd.ge;have hrow:=dG h.nd.row;have hne:=h.nd.ne;have hgB:g≠B:=by
  rcases hat with e|e
  ·exact fun e'=>hne (e' ▸ e)
  ·omega
 have hk1:Kp (fun q=>q=B∨rv.ownBlock=some q) W w5:=Kp.grown (Kp.refl _ W) hgrow (fun k e _=>.inr e);have hk:Kp (fun q=>q=B∨rv.ownBlock=some q) W (w5.setCell (aC B 3) (.slice (b_ g) (vs.length+1) cap)):=Kp.setCell hk1 (p:=⟨B,3,none⟩) (fun _=>.inl rfl) _;have hb5:=(hgrow.block B au (fun e=>hne e.symm)).trans hM.nd.blk;have hb:(w5.setCell (aC B 3) (.slice (b_ g) (vs.length+1) cap)).heap[B]?=some (gH k 0 [] (.slice (b_ g) (vs.length+1) cap) 0 0 0 0 false):=by
  unfold gH at hb5 ⊢;simp[World.setCell,aZ,hb5]
 have ho:∀ q,(Value.slice (b_ g) (vs.length+1) cap).ownBlock=some q→rv.ownBlock=some q∨W.heap.size≤q:=by
  intro q hq;simp only[Value.ownBlock,dP] at hq;subst hq;exact hat
 obtain⟨L',H',hm⟩:=hM.nd.added hp (fun i hi=>by have:=(h.nd.pq.sep i hi).2.2.1;omega) au hu au (fun g' hg'=>by have:=hrow g' hg';omega) hb (by rw[ay];exact lu hown (by simp[Value.ownBlock];omega) _) ho hk;have hS:∀ q,(q=B∨rv.ownBlock=some q)→lo≤q:=by
  rintro q (e|e)
  ·omega
  ·exact(hrow q e).1
 refine⟨a',_,_,L',H',⟨hr.keep hk (fun e=>by have:=hS _ e;omega) (fun q e e'=>by have:=hS _ e';have:=h.tlt q e;omega),hm,h.Pt,h.tlt⟩,rfl,fun q hq=>?_,Kp.trans (Kp.mono hK (fun i _ e=>.inl e)) hk (fun i _ e=>.inr e)⟩;rcases ho q hq with e|e
 ·exact .inl e
 ·exact .inr au
def nM(fn:FuncId)(F:X.R)(ok:List X.Tok→Prop)(s:ByteArray)(L:List Tk)(dp:Nat):Prop :=
 ∀(rb:Nat) (tv:Value) (a lo B k:Nat) (rv:Value) (vs:List Value) (ps:List Part) (Lo Hi:Nat→Nat) (w:aG),vG w rb s L tv a dp lo B k rv vs ps Lo Hi→ok (aR s L a)→ps.length+(F (aR s L a)).1.length≤1073741824 →
  Calls prog fn #[aH rb,aH B] w fun en w'=>en=.returned (.tuple #[])∧Hid (kV w rb s L tv dp lo B k rv (ps++(F (aR s L a)).1) (F (aR s L a)).2 w')
end
end Go.Proofs.YtoohcklcppnafaaGreatDoor
