import Derived.Test.YtoohcklcppnafaaGreatDoorXo
namespace Go.Proofs.YtoohcklcppnafaaGreatDoor
set_option maxRecDepth 100000
set_option maxHeartbeats 1000000
open Tryz
open Go.RowKit Go.Shelf
open M
open X
section
theorem WQ:∀ args w,(callFunc 156 args).run prog w=.ok (.enter 156 args) w:=enters_of func156 bC rfl
theorem M8:∀ args w,(callFunc 136 args).run prog w=.ok (.enter 136 args) w:=enters_of func136 bC rfl
theorem X.fe(f g:X.R)(ts:List X.Tok):(X.andThen f g ts).1.length=(f ts).1.length+(g (f ts).2).1.length:=by simp[X.andThen]
theorem bU.dz{w w1:aG}{rb:Nat}{s:ByteArray}{L:List Tk}{tv:Value}{dp B k:Nat}{rv:Value}{ps1:List Part}{dh:List X.Tok}{D:Nat→Prop}{Q:Ending→World→Prop}(h:bU w rb s L tv dp B k rv ps1 dh D w1)(hS:iU s L)
  {fn:FuncId} (hen:∀ args w,(callFunc fn args).run prog w=.ok (.enter fn args) w) {O:X.R} (hO:Reads fn O (fun _=>True) s L dp) (hsh:eF O) (e:ah) (he:e∈signs) (hl:ps1.length+(X.dz O e dh).1.length≤1073741824)
  (hQ:∀ w2,Hid (bU w rb s L tv dp B k rv (ps1++(X.dz O e dh).1) (X.dz O e dh).2 D w2)→Q (.returned (.tuple #[])) w2) :
  bB 155 #[aH rb,aH B,.func (.func fn) #[aH rb] #[],.string (ba e)] w1 Q:=by
 have hF:=IU s L dp hS fn hen O hO hsh e he;exact bU.aW7 (args:=fun rb B=>#[aH rb,aH B,.func (.func fn) #[aH rb] #[],.string (ba e)]) h hF trivial hl hQ
section
variable{s:ByteArray}{L:List Tk}{dp:Nat}(hS:iU s L){E:X.R}(hE:Reads 136 E (fun _=>True) s L dp)(hsh:eF E)
include hS hE hsh
theorem TQ:Reads 181 (X.dz E [41]) (fun _=>True) s L dp:=by
 intro rb tv a B k rv vs ps D w h _ hl;have H:=bU.start h;have HE:=aA hE;clear h hE;go_enter func181,ntmps181;go_wp2_with fail
 refine bU.dz (H.o) hS M8 HE.o hsh [41] aS hl ?_;intro w1 H1;go_wp2_with fail
 go_end0;exact⟨rfl,H1⟩
theorem TR:Reads 183 (X.dz E [93]) (fun _=>True) s L dp:=by
 intro rb tv a B k rv vs ps D w h _ hl;have H:=bU.start h;have HE:=aA hE;clear h hE;go_enter func183,ntmps183;go_wp2_with fail
 refine bU.dz (H.o) hS M8 HE.o hsh [93] aS hl ?_;intro w1 H1;go_wp2_with fail
 go_end0;exact⟨rfl,H1⟩
omit hsh in
theorem Pb:Reads 182 (X.andThen E (X.want [41])) (fun _=>True) s L dp:=by
 intro rb tv a B k rv vs ps D w h _ hl;have H:=bU.start h;have HE:=aA hE;clear h hE;rw[X.fe] at hl;go_enter func182,ntmps182;go_wp2_with fail
 refine bU.then (H.o) (HE.o) trivial au ?_;intro w1 H1;have e1:eZ [[41]] (E (aR s L a)).2=X.want [41] (E (aR s L a)).2:=by rw[oC,qi ((H1.o).good hS) (.inr aS)]
 go_wp2_with fail
 refine bU.want (H1.o) hS [[41]] aT aT (by rw[e1,ay];omega) ?_;intro w2 H2;rw[e1] at H2;go_wp2_with fail
 go_end0;exact⟨rfl,by show bU _ _ _ _ _ _ _ _ _ _ _ _ _;rw[aK] at H2;exact H2.o⟩
end
end
section
variable{x:ah}
namespace X
theorem qI{f f' g g':R}{ts:List Tok}(h1:f ts=f' ts)(h2:g (f' ts).2=g' (f' ts).2):andThen f g ts=andThen f' g' ts:=by
 unfold andThen;rw[h1,h2]
theorem jl(hs:x∈words∨x∈signs){ts:List Tok}(hg:Good ts):eZ [x] ts=want x ts:=by rw[oC,qi hg hs]
theorem vE{ts:List Tok}(hg:Good ts):eZ [gy] ts=bE ts:=by rw[oC,vD hg]
theorem r_{xs:List (ah)}{g:R}{ts:List Tok}(hg:Good ts)(h:eZ xs (bE ts).2=g (bE ts).2):eZ (gy::xs) ts=andThen bE g ts:=qI (vD hg) h
theorem oZ(hs:x∈words∨x∈signs){xs:List (ah)}{g:R}{ts:List Tok}(hg:Good ts)(h:eZ xs (want x ts).2=g (want x ts).2):eZ (x::xs) ts=andThen (want x) g ts:=qI (qi hg hs) h
end X
theorem Bt{s:ByteArray}{L:List Tk}{dp:Nat}(hS:iU s L):Reads 135 X.params (fun _=>True) s L dp:=by
 intro rb tv a B k rv vs ps D w h _ hl;have hg:=hS.rem a;have hn:=TN s L dp hS;have hlen:=(bU.refl h).len;have hL:=hS.len;have hc:=((Cap.want [40]).andThen (Cap.bE.dz [41])).le (aR s L a);rw[X.fe] at hc;have hl1:ps.length+1≤1073741824:=hl;have HH:=aA h;have Jv:=aA hn;clear h hn hl;have e1:=jl (x:=[40]) (.inr aS) hg;go_enter func135,ntmps135;go_wp2_with fail
 refine(Bq rb s L tv a dp B k rv vs ps D w HH.o au 6).aX fun w1 H1=>?_;have HO:=aA (H1.o).1;have H2:=bU.start (H1.o).2;clear H1;go_wp2_with fail
 refine bU.want (H2.o) hS [[40]] aT aT (by rw[e1];simp;omega) ?_;intro w3 H3;rw[e1,bM] at H3;go_wp2_with fail
 refine bU.dz (H3.o) hS WQ (Jv.o) eF.bE [41] aS au ?_;intro w4 H4;go_wp2_with fail
 go_end0;exact⟨rfl,(HO.o).close H4.o⟩
section
variable{s:ByteArray}{L:List Tk}{dp:Nat}(hS:iU s L){E:X.R}(hE:Reads 136 E (fun _=>True) s L dp)
include hS hE
theorem WR:Reads 158 (X.andThen X.bE (X.andThen (X.want [61]) (X.andThen E (X.andThen (X.want [105,110]) E)))) (fun _=>True) s L dp:=by
 intro rb tv a B k rv vs ps D w h _ hl;have H:=bU.start h;have hg:=hS.rem a;have HE:=aA hE;clear h hE;have e1:eZ [gy,[61]] (aR s L a)=X.andThen X.bE (X.want [61]) (aR s L a):=r_ hg (jl (.inr aS) (eF.bE.good hg));have e0:X.andThen X.bE (X.andThen (X.want [61]) (X.andThen E (X.andThen (X.want [105,110]) E)))=X.andThen (X.andThen X.bE (X.want [61])) (X.andThen E (X.andThen (X.want [105,110]) E)):=(andThen_assoc _ _ _).symm;rw[e0] at hl ⊢;rw[X.fe,X.fe E,X.fe (X.want [105,110])] at hl;generalize hF:X.andThen X.bE (X.want [61])=F at *;go_enter func158,ntmps158;go_wp2_with fail
 refine bU.want (H.o) hS [gy,[61]] (by simp[gy]) aT (by rw[e1];omega) ?_;intro w1 H1;rw[e1] at H1;go_wp2_with fail
 refine bU.then (H1.o) (HE.o) trivial (by rw[ay];omega) ?_;intro w2 H2;have e2:=jl (x:=[105,110]) (.inl aS) ((H2.o).good hS);go_wp2_with fail
 refine bU.want (H2.o) hS [[105,110]] aT aT (by rw[e2,ay,ay];omega) ?_;intro w3 H3;rw[e2] at H3;go_wp2_with fail
 refine bU.then (H3.o) (HE.o) trivial (by simp only[ay];omega) ?_;intro w4 H4;go_wp2_with fail
 go_end0;refine⟨rfl,?_⟩;simp only[aK] at H4;exact H4
theorem Lr:Reads 159 (X.andThen E (X.andThen (X.want [116,104,101,110]) (X.andThen E (X.andThen (X.want [101,108,115,101]) E)))) (fun _=>True) s L dp:=by
 intro rb tv a B k rv vs ps D w h _ hl;have H:=bU.start h;have HE:=aA hE;clear h hE;rw[X.fe,X.fe (X.want _),X.fe E,X.fe (X.want _)] at hl;go_enter func159,ntmps159;go_wp2_with fail
 refine bU.then (H.o) (HE.o) trivial au ?_;intro w1 H1;have e1:=jl (x:=[116,104,101,110]) (.inl aS) ((H1.o).good hS);go_wp2_with fail
 refine bU.want (H1.o) hS [[116,104,101,110]] aT aT (by rw[e1];simp only[ay];omega) ?_;intro w2 H2;rw[e1] at H2;go_wp2_with fail
 refine bU.then (H2.o) (HE.o) trivial (by simp only[ay];omega) ?_;intro w3 H3;have e2:=jl (x:=[101,108,115,101]) (.inl aS) ((H3.o).good hS);go_wp2_with fail
 refine bU.want (H3.o) hS [[101,108,115,101]] aT aT (by rw[e2];simp only[ay];omega) ?_;intro w4 H4;rw[e2] at H4;go_wp2_with fail
 refine bU.then (H4.o) (HE.o) trivial (by simp only[ay];omega) ?_;intro w5 H5;go_wp2_with fail
 go_end0;refine⟨rfl,?_⟩;simp only[aK] at H5;exact H5
theorem WS:Reads 160 (X.andThen X.params (X.andThen (X.want [61,62]) E)) (fun _=>True) s L dp:=by
 intro rb tv a B k rv vs ps D w h _ hl;have H:=bU.start h;have HE:=aA hE;have HP:=aA (Bt (s:=s) (L:=L) (dp:=dp) hS);clear h hE;rw[X.fe,X.fe (X.want _)] at hl;generalize hF:X.params=F at *;go_enter func160,ntmps160;go_wp2_with fail
 refine bU.then (H.o) (HP.o) trivial au ?_;intro w1 H1;have e1:=jl (x:=[61,62]) (.inr aS) ((H1.o).good hS);go_wp2_with fail
 refine bU.want (H1.o) hS [[61,62]] aT aT (by rw[e1];simp only[ay];omega) ?_;intro w2 H2;rw[e1] at H2;go_wp2_with fail
 refine bU.then (H2.o) (HE.o) trivial (by simp only[ay];omega) ?_;intro w3 H3;go_wp2_with fail
 go_end0;refine⟨rfl,?_⟩;simp only[aK] at H3;exact H3
end
end
section
variable{s:ByteArray}{L:List Tk}{dp rb B k:Nat}{fn:FuncId}{O:X.R}{w w1:aG}{tv rv:Value}{ps1:List Part}{dh:List X.Tok}{D:Nat→Prop}{Q:Ending→World→Prop}
theorem Ls(hS:iU s L)(hen:∀ args w,(callFunc fn args).run prog w=.ok (.enter fn args) w)(hO:Reads fn O (fun _=>True) s L dp)
  (rb:Nat) (tv:Value) (a B k:Nat) (rv:Value) (vs:List Value) (ps:List Part) (p:Part) (D:Nat→Prop) (w:aG) (h:Wk w rb s L tv a dp B k rv vs (ps++[p]) D) (hn:pQ (aR s L a)≠none) (hl:ps.length+1≤1073741824) (hl2:1+(X.andThen X.take O (aR s L a)).1.length≤1073741824) :
  bB 167 #[aH rb,aH B,.func (.func fn) #[aH rb] #[]] w fun en w'=>en=.returned (.tuple #[])∧Hid (bU w rb s L tv dp B k rv (ps++[.br 10 ([p]++(X.andThen X.take O (aR s L a)).1)]) (X.andThen X.take O (aR s L a)).2 D w'):=by
 rw[X.fe] at hl2;have HH:=aA h;have HO:=aA hO;clear h hO;go_enter func167,ntmps167;go_wp2_with fail
 refine(II rb s L tv a dp B k rv vs ps p D w HH.o hl 10).mono ?_;rintro e w1 ⟨N,xX,v,rfl,H1⟩;have Fx:=aA (H1.o).1;have H2:=bU.start (H1.o).2;clear H1;go_wp2_with fail
 refine bU.then (H2.o) (lQ s L dp hS) hn aQ ?_;intro w3 H3;go_wp2_with fail
 refine bU.then (H3.o) (HO.o) trivial aQ ?_;intro w4 H4;go_wp2_with fail
 go_end0;refine⟨rfl,?_⟩;rw[aK] at H4;exact(Fx.o).close H4.o
theorem bU.binary{p:Part}(h:bU w rb s L tv dp B k rv (ps1++[p]) dh D w1)(hS:iU s L)
  {fn:FuncId} (hen:∀ args w,(callFunc fn args).run prog w=.ok (.enter fn args) w) {O:X.R} (hO:Reads fn O (fun _=>True) s L dp) (hn:pQ dh≠none) (hl:ps1.length+1≤1073741824) (hl2:1+(X.andThen X.take O dh).1.length≤1073741824)
  (hQ:∀ w2,Hid (bU w rb s L tv dp B k rv (ps1++[.br 10 ([p]++(X.andThen X.take O dh).1)]) (X.andThen X.take O dh).2 D w2)→Q (.returned (.tuple #[])) w2) :
  bB 167 #[aH rb,aH B,.func (.func fn) #[aH rb] #[]] w1 Q:=by
 obtain⟨a1,nS,vs1,D1,g1,rfl,g3,g4,g5,g6⟩:=h;refine(Ls hS hen hO rb tv a1 B k nS vs1 ps1 p D1 w1 g1 hn hl hl2).aX fun w2 H2=>?_;exact hQ w2 (bU.trans g3 g4 g5 g6 H2.o)
theorem bU.Pf
  (h:bU w rb s L tv dp B k rv ps1 dh D w1) {c:Nat} {ss:List (ah)} (hs:vz w c ss) (hc:c≠rb∧c≠B∧rv.ownBlock≠some c)
  (hQ:∀ w2,Hid (bU w rb s L tv dp B k rv ps1 dh D w2)→Q (.returned (.bool (ss.any (fun x=>pN x dh)))) w2) :
  bB 113 #[aH rb,.slice (b_ c) ss.length ss.length] w1 Q:=by
 obtain⟨a1,nS,vs1,D1,g1,rfl,g3,g4,g5,g6⟩:=h;have hs1:vz w1 c ss:=⟨fun i x hx=>g6.dD (hs.cells i x hx) (by
  rintro(e|e|e)
  ·exact hc.1 e
  ·exact hc.2.1 e
  ·exact hc.2.2 e),hs.len⟩
 refine(vB rb s L tv a1 dp _ g1.iW c ss hs1).aX fun w2 k2=>?_;exact hQ w2 ⟨a1,nS,vs1,D1,g1.below k2,rfl,g3,g4,g5,Kp.trans g6 (Kp.aN k2 (fun _=>False)) (fun _ _ h=>h.elim)⟩
theorem WT(hS:iU s L)(hen:∀ args w,(callFunc fn args).run prog w=.ok (.enter fn args) w)(hO:Reads fn O (fun _=>True) s L dp)(hsh:eF O)(h1:fP O)
  (ss:List (ah)) (ok:List X.Tok→Bool) (hok:∀ ts,X.Good ts→ss.any (fun x=>pN x ts)=ok ts) (hok2:∀ ts,ok ts=true→pQ ts≠none)
  (rb:Nat) (tv:Value) (a B k:Nat) (rv:Value) (vs:List Value) (ps:List Part) (D:Nat→Prop) (w:aG) (h:Wk w rb s L tv a dp B k rv vs ps D) (c:Nat) (hs:vz w c ss) (hc:c≠rb∧c≠B∧rv.ownBlock≠some c) (hl:ps.length+1≤1073741824) :
  bB 173 #[aH rb,aH B,.func (.func fn) #[aH rb] #[],.slice (b_ c) ss.length ss.length] w fun en w'=>en=.returned (.tuple #[])∧Hid (bU w rb s L tv dp B k rv (ps++(X.row O ok (aR s L a)).1) (X.row O ok (aR s L a)).2 D w'):=by
 have H:=bU.start h;have HO:=aA hO;have HS:=aA hs;have HC:=aA hc;have hL:=hS.len;have hO1:=h1.len (aR s L a);clear h hO hs hc;go_enter func173,ntmps173;go_wp2_with fail
 refine bU.then (H.o) (HO.o) trivial au ?_;intro w1 H1;obtain⟨p0,hp0⟩:=h1 (aR s L a);rw[hp0] at H1;go_wp2_with fail
 go_loopw [] (fun wr=>∃(p:Part) (dh:List X.Tok),Hid (bU w rb s L tv dp B k rv (ps++[p]) dh D wr)∧Hid (X.row O ok (aR s L a)=Br O ok [p] dh)) (fun wr=>L.length - Yk rb wr)
 case atStart=>exact⟨p0,_,H1,by show _=_;rw[Lp,hp0]⟩
 case round =>
  obtain⟨p,dh,H3,HE⟩:=hrel;have hg1:=(H3.o).good hS;have hlen1:=(H3.o).len;go_wp2_with fail
  refine bU.Pf (H3.o) (HS.o) (HC.o) ?_;intro w4 H4;rw[hok dh hg1];cases hc2:ok dh with
  | true =>
   have hn:=hok2 dh hc2;have hcap:=(Cap.take.andThen (h1.cap hsh)).le dh;go_wp2_with fail
   refine bU.binary (H4.o) hS hen (HO.o) hn hl au ?_;intro w5 H5;go_wp2_with fail
   refine⟨⟨_,_,H5,?_⟩,?_⟩
   ·show _=_
    rw[HE.o,tQ hsh hok2 hc2]
   ·rw[(H5.o).at,(H3.o).at]
    have:=fZ hn;have:=hsh.le (X.take dh).2;show(O (X.take dh).2).2.length<_;omega
  | false =>
   have hx:X.row O ok (aR s L a)=([p],dh):=by rw[HE.o,Fw hc2]
   go_wp2_with fail
   go_end0;refine⟨rfl,?_⟩;rw[hx];exact H4
theorem bU.row{w w1:aG}{rb:Nat}{s:ByteArray}{L:List Tk}{tv:Value}{dp B k:Nat}{rv:Value}{ps1:List Part}{dh:List X.Tok}{D:Nat→Prop}{Q:Ending→World→Prop}(h:bU w rb s L tv dp B k rv ps1 dh D w1)(hS:iU s L)
  {fn:FuncId} (hen:∀ args w,(callFunc fn args).run prog w=.ok (.enter fn args) w) {O:X.R} (hO:Reads fn O (fun _=>True) s L dp) (hsh:eF O) (h1:fP O)
  (ss:List (ah)) (hl1:ss.length≤1073741824) (ok:List X.Tok→Bool) (hok:∀ ts,X.Good ts→ss.any (fun x=>pN x ts)=ok ts) (hok2:∀ ts,ok ts=true→pQ ts≠none) (hl:ps1.length+1≤1073741824)
  (hQ:∀ w2,Hid (bU w rb s L tv dp B k rv (ps1++(X.row O ok dh).1) (X.row O ok dh).2 D w2)→Q (.returned (.tuple #[])) w2) :
  bB 173 #[aH rb,aH B,.func (.func fn) #[aH rb] #[],.slice (b_ w1.heap.size) ss.length ss.length] (w1.alloc (Obj.cells (IJ ss) 9)) Q:=by
 obtain⟨a1,nS,vs1,D1,g1,rfl,g3,g4,g5,g6⟩:=h;have kA:Below w1.heap.size w1 (w1.alloc (Obj.cells (IJ ss) 9)):=(aB _ w1).alloc (ax _) _;have hbl:=g1.sM.lt;have hrl:=g1.iW.raw.lt;refine(WT hS hen hO hsh h1 ss ok hok hok2 rb tv a1 B k nS vs1 ps1 D1 _ (g1.below kA) w1.heap.size (vC w1 ss hl1) ⟨au,au,fun e=>by have:=(dG g1.sM.row _ e).2;omega⟩ hl).aX fun w2 H2=>?_;exact hQ w2 (bU.trans g3 g4 g5 (Kp.trans g6 (Kp.aN kA (fun _=>False)) (fun _ _ h=>h.elim)) H2.o)
end
section
variable{w w1:aG}{rb B k:Nat}{tv rv:Value}{ps1:List Part}{dh:List X.Tok}{D:Nat→Prop}{Q:Ending→World→Prop}
def OpD(w:aG)(rb:Nat)(s:ByteArray)(L:List Tk)(tv:Value)(dp B k:Nat)(rv:Value)(ps0:List Part)(dh:List X.Tok)(D:Nat→Prop)(kd N:Nat)(bR5:List Part)(w2:aG):Prop :=
 ∃(D1:Nat→Prop) (xX:Value),bU w2 rb s L tv dp N kd xX bR5 dh D1 w2∧∀ zC ts' w4 Lh,bU w2 rb s L tv Lh N kd xX zC ts' D1 w4→bU w rb s L tv Lh B k rv (ps0++[.br kd zC]) ts' D w4
theorem bU.grow{s:ByteArray}{L:List Tk}{dp:Nat}(h:bU w rb s L tv dp B k rv ps1 dh D w1)(hl:ps1.length≤1073741824)(kd:Nat)
  (hQ:∀ N w2,Hid (OpD w rb s L tv dp B k rv ps1 dh D kd N [] w2)→Q (.returned (aH N)) w2) :
  bB 154 #[aH B,ak kd] w1 Q:=by
 obtain⟨a1,nS,vs1,D1,g1,rfl,g3,g4,g5,g6⟩:=h;refine(Bq rb s L tv a1 dp B k nS vs1 ps1 D1 w1 g1 hl kd).aX fun w2 H2=>?_;exact hQ _ w2 ⟨D1,_,bU.refl (H2.o).2,fun zC ts' w4 Lh hd=>bU.trans g3 g4 g5 g6 ((H2.o).1.close hd)⟩
theorem bU.wrap{s:ByteArray}{L:List Tk}{dp:Nat}{p:Part}(h:bU w rb s L tv dp B k rv (ps1++[p]) dh D w1)(hl:ps1.length+1≤1073741824)(kd:Nat)
  (hQ:∀ N w2,Hid (OpD w rb s L tv dp B k rv ps1 dh D kd N [p] w2)→Q (.returned (aH N)) w2) :
  bB 175 #[aH B,ak kd] w1 Q:=by
 obtain⟨a1,nS,vs1,D1,g1,rfl,g3,g4,g5,g6⟩:=h;refine(II rb s L tv a1 dp B k nS vs1 ps1 p D1 w1 g1 hl kd).mono ?_;rintro e w2 ⟨N,xX,v,rfl,H2⟩;exact hQ N w2 ⟨D1,xX,bU.refl (H2.o).2,fun zC ts' w4 Lh hd=>bU.trans g3 g4 g5 g6 ((H2.o).1.close hd)⟩
theorem bU.nest{s:ByteArray}{L:List Tk}{dp:Nat}(h:bU w rb s L tv dp B k rv ps1 dh D w1)(hS:iU s L)(hdp:dp≤1000)
  {fn:FuncId} (hen:∀ args w,(callFunc fn args).run prog w=.ok (.enter fn args) w) {I:X.R} (hI:Reads fn I (fun _=>True) s L (dp+1)) (hn:pQ dh≠none) (kd:Nat) (hl:ps1.length+1≤1073741824) (hl2:(X.andThen X.take I dh).1.length≤1073741824)
  (hQ:∀ w2,Hid (bU w rb s L tv dp B k rv (ps1++(X.node kd (X.andThen X.take I) dh).1) (X.node kd (X.andThen X.take I) dh).2 D w2)→Q (.returned (.tuple #[])) w2) :
  bB 157 #[aH rb,aH B,ak kd,.func (.func fn) #[aH rb] #[]] w1 Q:=by
 obtain⟨a1,nS,vs1,D1,g1,rfl,g3,g4,g5,g6⟩:=h;refine(TL s L dp hS hdp fn hen I hI rb tv a1 B k nS vs1 ps1 D1 w1 g1 hn kd hl hl2).aX fun w2 H2=>?_;exact hQ w2 (bU.trans g3 g4 g5 g6 H2.o)
theorem bU.lack{s:ByteArray}{L:List Tk}{dp:Nat}(h:bU w rb s L tv dp B k rv ps1 dh D w1)(m:ah)(hl:ps1.length≤1073741824)
  (hQ:∀ w2,Hid (bU w rb s L tv dp B k rv (ps1++[.miss m]) dh D w2)→Q (.returned (.tuple #[])) w2) :
  bB 51 #[aH B,.iface 306 (.string (ba m))] w1 Q:=by
 obtain⟨a1,nS,vs1,D1,g1,rfl,g3,g4,g5,g6⟩:=h;refine(wO B k nS vs1 306 (.string (ba m)) w1 g1.sM (fun g hg=>(g1.oz g hg).2.2) (by rw[g1.len];exact hl)).aX ?_;rintro w2 ⟨O7,b2,o2,k2⟩;refine hQ w2 (bU.trans g3 g4 g5 g6 ⟨a1,O7,_,D1,g1.added b2 o2 k2 (uJ.miss m),rfl,fun _=>id,fun q hq=>.inl hq,o2,Kp.mono k2 (fun i _ e=>.inr e)⟩)
theorem bU.kind{s:ByteArray}{L:List Tk}{dp:Nat}(h:bU w rb s L tv dp B k rv ps1 dh D w1):w1.cell? (aC rb 4)=some (ak (dm dh))∧w1.cell? (aC rb 6)=some (ak dp):=by
 obtain⟨a1,nS,vs1,D1,g1,rfl,-⟩:=h;obtain⟨⟨c0,c1,c2,c3,c4,c5,c6⟩,-⟩:=g1.iW.raw.facts;exact⟨c4,c6⟩
theorem WU:∀ args w,(callFunc 181 args).run prog w=.ok (.enter 181 args) w:=enters_of func181 bC rfl
theorem WV:∀ args w,(callFunc 183 args).run prog w=.ok (.enter 183 args) w:=enters_of func183 bC rfl
theorem TS:∀ args w,(callFunc 182 args).run prog w=.ok (.enter 182 args) w:=enters_of func182 bC rfl
section
variable{s:ByteArray}{L:List Tk}{dp:Nat}(hS:iU s L)(hdp:dp≤1000){E:X.R}(hE:Reads 136 E (fun _=>True) s L (dp+1))(hsh:eF E)(h1:fP E)
include hS hdp hE hsh h1
theorem TT:Reads 180 (X.part E) (fun _=>True) s L dp:=by
 intro rb tv a B k rv vs ps D w h _ hl;have hl0:ps.length+1≤1073741824:=by rw[(fP.part E).len] at hl;exact hl
 have H:=bU.start h;have hg:=hS.rem a;have HG:=aA (Pb hS hE);have HL:=aA (TR hS hE hsh);have hlen:=(H.o).len;have hL:=hS.len;have cT:=Cap.take.le (aR s L a);have cG:=(Cap.take.andThen ((h1.cap hsh).andThen (Cap.want [41]))).le (aR s L a);have cL:=(Cap.take.andThen ((h1.cap hsh).dz [93])).le (aR s L a);obtain⟨c4,c6⟩:=(H.o).kind;clear h hl hE;generalize hts:aR s L a=ts at *;have HP:Hid (X.part E ts=if dm ts==5 then X.node 15 X.take ts else if dm ts==6 then X.node 16 X.take ts else if dJ [116,114,117,101] ts||dJ [102,97,108,115,101] ts then X.node 17 X.take ts
  else if dm ts==3 then X.node 18 X.take ts else if dJ [63] ts then X.node 19 X.take ts else if dJ [40] ts then X.node 14 (X.andThen X.take (X.andThen E (X.want [41]))) ts else if dJ [91] ts then X.node 13 (X.andThen X.take (X.dz E [93])) ts else([.miss kU],ts)):=(rfl:_=_)
 have kI:∀ n:Nat,((dm ts:Int)==(n:Int))=(dm ts==n):=fun n=>by rw[gq];simp;omega
 have i5:((dm ts:Int)==5)=(dm ts==5):=kI 5;have i6:((dm ts:Int)==6)=(dm ts==6):=kI 6;clear kI;generalize X.part E ts=PE at *;go_enter func180,ntmps180;cases h5:(dm ts==5) with
 | true =>
  rw[h5] at i5;go_wp2_with fail
  refine bU.grow (H.o) au 15 ?_;intro N w2 Fx;obtain⟨D1,xX,hst,hcl⟩:=Fx.o;have HST:=aA hst;have FO:=aA hcl;clear hst hcl Fx;go_wp2_with fail
  refine bU.then (HST.o) (lQ s L dp hS) (jM aS h5) aQ ?_;intro w3 H3;have HF:=aA ((FO.o) _ _ _ _ H3.o);clear HST FO H3;go_wp2_with fail
  go_end0;refine⟨rfl,?_⟩;have hp:=HP.o;rw[h5,aU rfl] at hp;rw[hp];exact HF
 | false =>
  rw[h5] at i5;cases h6:(dm ts==6) with
  | true =>
   rw[h6] at i6;go_wp2_with fail
   refine bU.grow (H.o) au 16 ?_;intro N w2 Fx;obtain⟨D1,xX,hst,hcl⟩:=Fx.o;have HST:=aA hst;have FO:=aA hcl;clear hst hcl Fx;go_wp2_with fail
   refine bU.then (HST.o) (lQ s L dp hS) (jM aS h6) aQ ?_;intro w3 H3;have HF:=aA ((FO.o) _ _ _ _ H3.o);clear HST FO H3;go_wp2_with fail
   go_end0;refine⟨rfl,?_⟩;have hp:=HP.o;rw[h5,aM aT,h6,aU rfl] at hp;rw[hp];exact HF
  | false =>
   rw[h6] at i6;go_wp2_with fail
   have eA:[[116,114,117,101],[102,97,108,115,101]].any (fun x=>pN x ts)=(dJ [116,114,117,101] ts||dJ [102,97,108,115,101] ts):=by simp[gV hg (.inl (aS:[116,114,117,101]∈words)),gV hg (.inl (aS:[102,97,108,115,101]∈words))]
   refine bU.kL (H.o) [[116,114,117,101],[102,97,108,115,101]] aT ?_;intro wA HA;rw[eA];clear eA c4 c6 H i5 i6;cases hA:(dJ [116,114,117,101] ts||dJ [102,97,108,115,101] ts) with
   | true =>
    go_wp2_with fail
    refine bU.grow (HA.o) au 17 ?_;intro N w2 Fx;obtain⟨D1,xX,hst,hcl⟩:=Fx.o;have HST:=aA hst;have FO:=aA hcl;clear hst hcl Fx;go_wp2_with fail
    refine bU.then (HST.o) (lQ s L dp hS) (by rcases jy.1 hA with g|g<;>exact bY g) aQ ?_;intro w3 H3;have HF:=aA ((FO.o) _ _ _ _ H3.o);clear HST FO H3;go_wp2_with fail
    go_end0;refine⟨rfl,?_⟩;have hp:=HP.o;rw[h5,aM aT,h6,aM aT,hA,aU rfl] at hp;rw[hp];exact HF
   | false =>
    go_wp2_with fail
    have eB:[gy].any (fun x=>pN x ts)=(dm ts==3):=by simp[M0 hg]
    refine bU.kL (HA.o) [gy] aT ?_;intro wB HB;rw[eB];clear eB HA;cases hB:(dm ts==3) with
    | true =>
     go_wp2_with fail
     refine bU.grow (HB.o) au 18 ?_;intro N w2 Fx;obtain⟨D1,xX,hst,hcl⟩:=Fx.o;have HST:=aA hst;have FO:=aA hcl;clear hst hcl Fx;go_wp2_with fail
     refine bU.then (HST.o) (lQ s L dp hS) (jM aS hB) aQ ?_;intro w3 H3;have HF:=aA ((FO.o) _ _ _ _ H3.o);clear HST FO H3;go_wp2_with fail
     go_end0;refine⟨rfl,?_⟩;have hp:=HP.o;rw[h5,aM aT,h6,aM aT,hA,aM aT,hB,aU rfl] at hp;rw[hp];exact HF
    | false =>
     go_wp2_with fail
     have eC:[[63]].any (fun x=>pN x ts)=dJ [63] ts:=by simp[gV hg (.inr (aS:[63]∈signs))]
     refine bU.kL (HB.o) [[63]] aT ?_;intro wC HC;rw[eC];clear eC HB;cases hC:dJ [63] ts with
     | true =>
      go_wp2_with fail
      refine bU.grow (HC.o) au 19 ?_;intro N w2 Fx;obtain⟨D1,xX,hst,hcl⟩:=Fx.o;have HST:=aA hst;have FO:=aA hcl;clear hst hcl Fx;go_wp2_with fail
      refine bU.then (HST.o) (lQ s L dp hS) (bY hC) aQ ?_;intro w3 H3;have HF:=aA ((FO.o) _ _ _ _ H3.o);clear HST FO H3;go_wp2_with fail
      go_end0;refine⟨rfl,?_⟩;have hp:=HP.o;rw[h5,aM aT,h6,aM aT,hA,aM aT,hB,aM aT,hC,aU rfl] at hp;rw[hp];exact HF
     | false =>
      go_wp2_with fail
      have eD:[[40]].any (fun x=>pN x ts)=dJ [40] ts:=by simp[gV hg (.inr (aS:[40]∈signs))]
      refine bU.kL (HC.o) [[40]] aT ?_;intro wD HD;rw[eD];clear eD HC;cases hD:dJ [40] ts with
      | true =>
       go_wp2_with fail
       refine bU.nest (HD.o) hS hdp TS (HG.o) (bY hD) 14 hl0 au ?_;intro w3 HF;clear HD;go_wp2_with fail
       go_end0;refine⟨rfl,?_⟩;have hp:=HP.o;rw[h5,aM aT,h6,aM aT,hA,aM aT,hB,aM aT,hC,aM aT,hD,aU rfl] at hp;rw[hp];exact HF
      | false =>
       go_wp2_with fail
       have eE:[[91]].any (fun x=>pN x ts)=dJ [91] ts:=by simp[gV hg (.inr (aS:[91]∈signs))]
       refine bU.kL (HD.o) [[91]] aT ?_;intro wE HE;rw[eE];clear eE HD;cases hE:dJ [91] ts with
       | true =>
        go_wp2_with fail
        refine bU.nest (HE.o) hS hdp WV (HL.o) (bY hE) 13 hl0 au ?_;intro w3 HF;clear HE;go_wp2_with fail
        go_end0;refine⟨rfl,?_⟩;have hp:=HP.o;rw[h5,aM aT,h6,aM aT,hA,aM aT,hB,aM aT,hC,aM aT,hD,aM aT,hE,aU rfl] at hp;rw[hp];exact HF
       | false =>
        go_wp2_with fail
        refine bU.lack (HE.o) kU au ?_;intro w3 HF;clear HE;go_wp2_with fail
        go_end0;refine⟨rfl,?_⟩;have hp:=HP.o;rw[h5,aM aT,h6,aM aT,hA,aM aT,hB,aM aT,hC,aM aT,hD,aM aT,hE,aM aT] at hp;rw[hp];exact HF
end
end
section
theorem WW:∀ args w,(callFunc 178 args).run prog w=.ok (.enter 178 args) w:=enters_of func178 bC rfl
theorem Lu:∀ args w,(callFunc 174 args).run prog w=.ok (.enter 174 args) w:=enters_of func174 bC rfl
theorem aC1:∀ args w,(callFunc 166 args).run prog w=.ok (.enter 166 args) w:=enters_of func166 bC rfl
theorem aC2:∀ args w,(callFunc 158 args).run prog w=.ok (.enter 158 args) w:=enters_of func158 bC rfl
theorem Pg:∀ args w,(callFunc 159 args).run prog w=.ok (.enter 159 args) w:=enters_of func159 bC rfl
theorem aC3:∀ args w,(callFunc 160 args).run prog w=.ok (.enter 160 args) w:=enters_of func160 bC rfl
section
variable{s:ByteArray}{L:List Tk}{dp:Nat}(hS:iU s L)(hdp:dp≤1000){E:X.R}(hE:Reads 136 E (fun _=>True) s L (dp+1))(hsh:eF E)(h1:fP E)
include hS hdp hE hsh h1
theorem TU:Reads 178 (X.call E) (fun _=>True) s L dp:=by
 intro rb tv a B k rv vs ps D w h _ hl;have hl0:ps.length+1≤1073741824:=by rw[(fP.call E).len] at hl;exact hl
 have H:=bU.start h;have HP:=aA (TT hS hdp hE hsh h1);have HA:=aA (TQ hS hE hsh);have hL:=hS.len;have hO1:=(fP.part E).len (aR s L a);obtain⟨p0,hp0⟩:=fP.part E (aR s L a);have ET:Hid (X.call E (aR s L a)=uR E [p0] (X.part E (aR s L a)).2):=by
  show X.fG E _ _ _=_;rw[hp0];rfl
 clear h hl hE;generalize X.call E (aR s L a)=CE at *;go_enter func178,ntmps178;go_wp2_with fail
 refine bU.then (H.o) (HP.o) trivial au ?_;intro w1 H1;rw[hp0] at H1;go_wp2_with fail
 go_loopw [] (fun wr=>∃(p:Part) (dh:List X.Tok),Hid (bU w rb s L tv dp B k rv (ps++[p]) dh D wr)∧Hid (CE=uR E [p] dh)) (fun wr=>L.length - Yk rb wr)
 case atStart=>exact⟨p0,_,H1,ET⟩
 case round =>
  obtain⟨p,dh,H3,HE⟩:=hrel;have hg1:=(H3.o).good hS;have hlen1:=(H3.o).len;have eA:[[40]].any (fun x=>pN x dh)=dJ [40] dh:=by simp[gV hg1 (.inr (aS:[40]∈signs))]
  go_wp2_with fail
  refine bU.kL (H3.o) [[40]] aT ?_;intro w4 H4;rw[eA];cases hc2:dJ [40] dh with
  | true =>
   have hn:=bY hc2;have hcap:=(Cap.take.andThen ((h1.cap hsh).dz [41])).le dh;go_wp2_with fail
   refine bU.wrap (H4.o) hl0 11 ?_;intro N w5 Fx;obtain⟨D1,xX,hst,hcl⟩:=Fx.o;have HST:=aA hst;have FO:=aA hcl;clear hst hcl Fx;go_wp2_with fail
   refine bU.nest (HST.o) hS hdp WU (HA.o) hn 12 aT au ?_;intro w6 H6;have HF:=aA ((FO.o) _ _ _ _ H6.o);go_wp2_with fail
   refine⟨⟨_,_,HF,?_⟩,?_⟩
   ·show _=_
    rw[HE.o,DL hsh hc2];rfl
   ·rw[(HF.o).at,(H3.o).at]
    exact zD hsh hn
  | false =>
   have hx:CE=([p],dh):=by rw[HE.o,IQ hc2]
   go_wp2_with fail
   go_end0;refine⟨rfl,?_⟩;rw[hx];exact H4
theorem IW:Reads 174 (X.product E) (fun _=>True) s L dp:=by
 intro rb tv a B k rv vs ps D w h _ hl;have hl0:ps.length+1≤1073741824:=by rw[(fP.product E).len] at hl;exact hl
 have H:=bU.start h;have HC:=aA (TU hS hdp hE hsh h1);clear h hl hE;go_enter func174,ntmps174;go_wp2_with fail
 refine bU.row (H.o) hS WW (HC.o) hsh.call (fP.call E) [[42]] aT (dJ [42]) (fun ts hg=>by simp[gV hg (.inr (aS:[42]∈signs))]) (fun ts h=>bY h) hl0 ?_;intro w1 H1;go_wp2_with fail
 go_end0;exact⟨rfl,H1⟩
theorem WX:Reads 166 (X.sum E) (fun _=>True) s L dp:=by
 intro rb tv a B k rv vs ps D w h _ hl;have hl0:ps.length+1≤1073741824:=by rw[(fP.sum E).len] at hl;exact hl
 have H:=bU.start h;have HC:=aA (IW hS hdp hE hsh h1);clear h hl hE;go_enter func166,ntmps166;go_wp2_with fail
 refine bU.row (H.o) hS Lu (HC.o) hsh.product (fP.product E) [[43],[45],[43,43]] aT (fun ts=>dJ [43] ts||dJ [45] ts||dJ [43,43] ts) (fun ts hg=>by simp[gV hg (.inr (aS:[43]∈signs)),gV hg (.inr (aS:[45]∈signs)),gV hg (.inr (aS:[43,43]∈signs)),Bool.or_assoc]) (fun ts h=>by
  rcases jy.1 h with g|g
  ·rcases jy.1 g with g|g<;>exact bY g
  ·exact bY g) hl0 ?_
 intro w1 H1;go_wp2_with fail
 go_end0;exact⟨rfl,H1⟩
theorem Bu:Reads 161 (X.comparison E) (fun _=>True) s L dp:=by
 intro rb tv a B k rv vs ps D w h _ hl;have hl0:ps.length+1≤1073741824:=by rw[(fP.comparison E).len] at hl;exact hl
 have H:=bU.start h;have HC:=aA (WX hS hdp hE hsh h1);have hL:=hS.len;have hO1:=(fP.sum E).len (aR s L a);obtain⟨p0,hp0⟩:=fP.sum E (aR s L a);have HX:Hid (X.comparison E (aR s L a)=if dJ [61,61] (X.sum E (aR s L a)).2||dJ [60] (X.sum E (aR s L a)).2 then([.br 10 ((X.sum E (aR s L a)).1++(X.andThen X.take (X.sum E) (X.sum E (aR s L a)).2).1)],(X.andThen X.take (X.sum E) (X.sum E (aR s L a)).2).2) else X.sum E (aR s L a)):=(rfl:_=_);have hcp:=(fP.sum E).cap hsh.sum;clear h hl hE;generalize X.comparison E (aR s L a)=CE at *;generalize X.sum E=SE at *;go_enter func161,ntmps161;go_wp2_with fail
 refine bU.then (H.o) (HC.o) trivial au ?_;intro w1 H1;rw[hp0] at H1;have hg1:=(H1.o).good hS;have hlen1:=(H1.o).len;have hcap:=(Cap.take.andThen hcp).le (SE (aR s L a)).2;have eA:[[61,61],[60]].any (fun x=>pN x (SE (aR s L a)).2)=(dJ [61,61] (SE (aR s L a)).2||dJ [60] (SE (aR s L a)).2):=by simp[gV hg1 (.inr (aS:[61,61]∈signs)),gV hg1 (.inr (aS:[60]∈signs))]
 go_wp2_with fail
 refine bU.kL (H1.o) [[61,61],[60]] aT ?_;intro w2 H2;rw[eA];cases hc:(dJ [61,61] (SE (aR s L a)).2||dJ [60] (SE (aR s L a)).2) with
 | true =>
  go_wp2_with fail
  refine bU.binary (H2.o) hS aC1 (HC.o) (by rcases jy.1 hc with g|g<;>exact bY g) hl0 au ?_;intro w3 H3;go_wp2_with fail
  go_end0;refine⟨rfl,?_⟩;have hp:=HX.o;rw[hc,aU rfl] at hp;rw[hp,hp0];exact H3
 | false =>
  go_wp2_with fail
  go_end0;refine⟨rfl,?_⟩;have hp:=HX.o;rw[hc,aM aT] at hp;rw[hp,hp0];exact H2
end
theorem Bv{s:ByteArray}{L:List Tk}(hS:iU s L):∀(n dp:Nat),dp+n=65→Reads 136 (X.expr n) (fun _=>True) s L dp:=by
 intro n
 induction n with
 | zero =>
  intro dp hd rb tv a B k rv vs ps D w h _ hl;have H:=bU.start h;obtain⟨c4,c6⟩:=(H.o).kind;have i1:decide ((dp:Int)>64)=true:=aQ
  have i2:decide (64<dp)=true:=aQ
  have hl0:ps.length+1≤1073741824:=hl;clear h hl;go_enter func136,ntmps136;go_wp2_with fail
  refine bU.lack (H.o) kU au ?_;intro w1 H1;go_wp2_with fail
  go_end0;exact⟨rfl,H1⟩
 | succ n ih =>
  intro dp hd rb tv a B k rv vs ps D w h _ hl;have hl0:ps.length+1≤1073741824:=by rw[(fP.expr (n+1)).len] at hl;exact hl
  have hE:=ih (dp+1) au;have hsh:=eF.expr n;have h1:=fP.expr n;have hdp:dp≤1000:=au
  have H:=bU.start h;have hg:=hS.rem a;have HLt:=aA (WR hS hE);have HCh:=aA (Lr hS hE);have HFn:=aA (WS hS hE);have HCp:=aA (Bu hS hdp hE hsh h1);have hlen:=(H.o).len;have hL:=hS.len;have c1:=(Cap.take.andThen (Cap.bE.andThen ((Cap.want [61]).andThen ((h1.cap hsh).andThen ((Cap.want [105,110]).andThen (h1.cap hsh)))))).le (aR s L a);have c2:=(Cap.take.andThen ((h1.cap hsh).andThen ((Cap.want [116,104,101,110]).andThen ((h1.cap hsh).andThen ((Cap.want [101,108,115,101]).andThen (h1.cap hsh)))))).le (aR s L a);have c3:=(Cap.take.andThen (((show Cap X.params 1 from fP.cap (fP.node _ 6) eF.params)).andThen ((Cap.want [61,62]).andThen (h1.cap hsh)))).le (aR s L a);have c5:=(fP.comparison (X.expr n)).len (aR s L a);obtain⟨c4,c6⟩:=(H.o).kind;have i1:decide ((dp:Int)>64)=false:=aQ
  have i2:decide (64<dp)=false:=aQ
  have HX:Hid (X.expr (n+1) (aR s L a)=if dJ [108,101,116] (aR s L a) then X.node 7 (X.andThen X.take (X.andThen X.bE (X.andThen (X.want [61]) (X.andThen (X.expr n) (X.andThen (X.want [105,110]) (X.expr n)))))) (aR s L a)
   else if dJ [105,102] (aR s L a) then X.node 8 (X.andThen X.take (X.andThen (X.expr n) (X.andThen (X.want [116,104,101,110]) (X.andThen (X.expr n) (X.andThen (X.want [101,108,115,101]) (X.expr n)))))) (aR s L a)
   else if dJ [102,117,110] (aR s L a) then X.node 9 (X.andThen X.take (X.andThen X.params (X.andThen (X.want [61,62]) (X.expr n)))) (aR s L a)
   else X.comparison (X.expr n) (aR s L a)):=(rfl:_=_)
  clear h hl hE ih hd;generalize X.expr (n+1) (aR s L a)=CE at *;generalize X.expr n=E at *;have eA:[[108,101,116]].any (fun x=>pN x (aR s L a))=dJ [108,101,116] (aR s L a):=by simp[gV hg (.inl (aS:[108,101,116]∈words))]
  have eB:[[105,102]].any (fun x=>pN x (aR s L a))=dJ [105,102] (aR s L a):=by simp[gV hg (.inl (aS:[105,102]∈words))]
  have eC:[[102,117,110]].any (fun x=>pN x (aR s L a))=dJ [102,117,110] (aR s L a):=by simp[gV hg (.inl (aS:[102,117,110]∈words))]
  generalize aR s L a=ts at *;go_enter func136,ntmps136;go_wp2_with fail
  refine bU.kL (H.o) [[108,101,116]] aT ?_;intro wA HA;rw[eA];clear eA c4 c6 H i1 i2;cases hA:dJ [108,101,116] ts with
  | true =>
   go_wp2_with fail
   refine bU.nest (HA.o) hS hdp aC2 (HLt.o) (bY hA) 7 hl0 au ?_;intro w1 H1;go_wp2_with fail
   go_end0;refine⟨rfl,?_⟩;have hp:=HX.o;rw[hA,aU rfl] at hp;rw[hp];exact H1
  | false =>
   go_wp2_with fail
   refine bU.kL (HA.o) [[105,102]] aT ?_;intro wB HB;rw[eB];clear eB HA;cases hB:dJ [105,102] ts with
   | true =>
    go_wp2_with fail
    refine bU.nest (HB.o) hS hdp Pg (HCh.o) (bY hB) 8 hl0 au ?_;intro w1 H1;go_wp2_with fail
    go_end0;refine⟨rfl,?_⟩;have hp:=HX.o;rw[hA,aM aT,hB,aU rfl] at hp;rw[hp];exact H1
   | false =>
    go_wp2_with fail
    refine bU.kL (HB.o) [[102,117,110]] aT ?_;intro wC HC;rw[eC];clear eC HB;cases hC:dJ [102,117,110] ts with
    | true =>
     go_wp2_with fail
     refine bU.nest (HC.o) hS hdp aC3 (HFn.o) (bY hC) 9 hl0 au ?_;intro w1 H1;go_wp2_with fail
     go_end0;refine⟨rfl,?_⟩;have hp:=HX.o;rw[hA,aM aT,hB,aM aT,hC,aU rfl] at hp;rw[hp];exact H1
    | false =>
     go_wp2_with fail
     refine bU.then (HC.o) (HCp.o) trivial au ?_;intro w1 H1;go_wp2_with fail
     go_end0;refine⟨rfl,?_⟩;have hp:=HX.o;rw[hA,aM aT,hB,aM aT,hC,aM aT] at hp;rw[hp];exact H1
end
section
variable{w w1:aG}{rb dp B k:Nat}{s:ByteArray}{L:List Tk}{tv rv:Value}{ps1:List Part}{dh:List X.Tok}{D:Nat→Prop}{Q:Ending→World→Prop}
namespace X
theorem eF.bH:eF X.bH:=eF.ite (c:=dJ jY) eF.take eF.nil
theorem eF.gU:eF X.gU:=(eF.want _).andThen (eF.bE.andThen ((eF.ite (c:=dJ [40]) eF.params eF.nil).andThen ((eF.want _).andThen ((eF.expr 65).andThen (eF.want _)))))
theorem eF.gW:eF X.gW:=(eF.want _).andThen (eF.bE.andThen ((eF.want _).andThen (eF.bE.andThen ((eF.ite (c:=dJ [97,115]) (eF.take.andThen eF.bE) eF.nil).andThen (eF.want _)))))
theorem Cap.gW:Cap X.gW 6:=((Cap.want _).andThen (Cap.bE.andThen ((Cap.want _).andThen (Cap.bE.andThen ((Cap.ite (b:=dJ [97,115]) (c:=1) (Cap.take.andThen Cap.bE) (Cap.nil.mono au)).andThen (Cap.want _)))))).mono au
theorem Cap.params:Cap X.params 1:=fP.cap (fP.node _ 6) eF.params
theorem Cap.gU:Cap X.gU 6:=((Cap.want _).andThen (Cap.bE.andThen ((Cap.ite (b:=dJ [40]) (c:=1) Cap.params (Cap.nil.mono au)).andThen ((Cap.want _).andThen (((fP.expr 65).cap (eF.expr 65)).andThen (Cap.want _)))))).mono au
theorem Cap.bH:Cap X.bH 0:=Cap.ite (b:=dJ jY) Cap.take Cap.nil
theorem l_{ts:List Tok}(h:(dm ts==0)=false):pQ ts≠none:=by
 intro e;unfold dm at h;rw[e] at h;simp at h
theorem IX:∀(n:Nat) (ts:List Tok),ts.length≤n→iE n ts=iE ts.length ts:=by
 intro n
 induction n using Nat.strongRecOn with
 | _ n ih =>
  intro ts h;rcases cu ts.length n with hlt|hge
  ·cases n with
   | zero=>omega
   | succ n =>
    cases hm:ts.length with
    | zero =>
     have h0:=bP.1 hm;subst h0;rfl
    | succ m =>
     unfold iE;by_cases hc:(dm ts==0||starts ts)=true
     ·rw[aU hc,aU hc]
     ·rw[aM hc,aM hc]
      have hk:(dm ts==0)=false:=by
       cases hq:(dm ts==0) with
       | true=>rw[hq] at hc;simp at hc
       | false=>rfl
      have hl:=fZ (l_ hk)
      split
      ·rfl
      ·have e1:=ih n au (take ts).2 au
       have e2:=ih m au (take ts).2 au;simp only[andThen];rw[e1,e2]
  ·rw[show n=ts.length by omega]
def iB:R:=fun ts=>iE ts.length ts
theorem wP{ts:List Tok}(h:(dm ts==0||starts ts)=true):iB ts=([],ts):=by
 unfold iB;cases ts.length with
 | zero=>rfl
 | succ m=>unfold iE;rw[aU h]
theorem qZ{ts:List Tok}(h:(dm ts==0||starts ts)=false):iB ts=if dJ [59] ts then take ts else andThen take iB ts:=by
 have hk:(dm ts==0)=false:=by
  cases hq:(dm ts==0) with
  | true=>rw[hq] at h;simp at h
  | false=>rfl
 have hl:=fZ (l_ hk);unfold iB;obtain⟨m,hm⟩:∃ m,ts.length=m+1:=⟨ts.length - 1,au⟩;rw[hm]
 conv=>lhs;unfold iE
 rw[aM (by rw[h];simp)]
 split
 ·rfl
 ·simp only[andThen]
  rw[IX m _ au]
theorem Cap.iE:∀ n,Cap (iE n) 0
 | 0=>Cap.nil
 | n+1=>Cap.ite (b:=fun ts=>dm ts==0||starts ts) Cap.nil (Cap.ite (b:=dJ [59]) Cap.take (Cap.take.andThen (Cap.iE n)))
theorem Cap.iB:Cap X.iB 0:=fun ts=>Cap.iE ts.length ts
theorem eF.iE:∀ n,eF (iE n)
 | 0=>eF.nil
 | n+1=>eF.ite (c:=fun ts=>dm ts==0||starts ts) eF.nil (eF.ite (c:=dJ [59]) eF.take (eF.take.andThen (eF.iE n)))
theorem kK(ts:List Tok):kid ts=if starts ts then(if dJ jf (bH ts).2 then(3,andThen bH gW ts) else(4,andThen bH gU ts)) else(5,iB ts):=rfl
end X
theorem bU.setKind(h:bU w rb s L tv dp B k rv ps1 dh D w1)(k2:Nat):bU w rb s L tv dp B k2 rv ps1 dh D (w1.setCell (aC B 0) (ak k2)):=by
 obtain⟨a1,nS,vs1,D1,g1,g2,g3,g4,g5,g6⟩:=h;have hk:Kp (fun q=>q=B) w1 (w1.setCell (aC B 0) (ak k2)):=Kp.setCell (Kp.refl (fun q=>q=B) w1) (p:=⟨B,0,none⟩) (fun _=>rfl) _;refine⟨a1,nS,vs1,D1,⟨g1.iW.keep hk (fun e=>g1.sep.2.2 e.symm) (fun q hq e=>(g1.uK q hq).2.1 e),⟨?_,?_⟩,g1.len,g1.each.keep hk (fun q hq e=>g1.sep.2.1 (e ▸ hq)),fun q hq=>by have:=g1.IA q hq;simpa using this,g1.sep,g1.oz,fun q hq=>?_⟩,g2,g3,g4,g5,Kp.trans g6 hk (fun i _ e=>.inr (.inl e))⟩
 ·have hb:=g1.sM.blk
  simp[World.setCell,aZ,hb]
 ·exact lu g1.sM.row (fun e=>(g1.oz B e).2.2 rfl) _
 ·obtain⟨a1,a2,a3,a4⟩:=g1.uK q hq
  exact⟨a1,a2,a3,by simpa using a4⟩
theorem bU.Lv(h:bU w rb s L tv dp B k rv ps1 dh D w1):w1.cell? (aC B 0)=some (ak k)∧w1.frozen? (aC B 0)=false:=by
 obtain⟨a1,nS,vs1,D1,g1,-⟩:=h;exact⟨g1.sM.facts.1.1,g1.sM.facts.2.1⟩
theorem bU.TV(h:bU w rb s L tv dp B k rv ps1 dh D w1)(hS:iU s L)
  (hQ:∀ w2,Hid (bU w rb s L tv dp B k rv ps1 dh D w2)→Q (.returned (.bool (X.starts dh))) w2):bB 84 #[aH rb] w1 Q:=by
 have hg:=h.good hS;have H:=aA h;have eA:[jf,jY,lF].any (fun x=>pN x dh)=X.starts dh:=by
  unfold X.starts;simp[gV hg (.inl (aS:jf∈words)),gV hg (.inl (aS:jY∈words)),gV hg (.inl (aS:lF∈words)),Bool.or_assoc]
 clear h;have key:bB 84 #[aH rb] w1 (cK (.bool (X.starts dh)) fun w2=>Hid (bU w rb s L tv dp B k rv ps1 dh D w2)):=by
  go_enter func84,ntmps84;go_wp2_with fail
  refine bU.kL (H.o) [jf,jY,lF] aT ?_;intro w2 H2;rw[eA];go_wp2_with fail
  go_ret;exact⟨rfl,H2⟩
 refine key.mono ?_;rintro e w2 ⟨rfl,H2⟩;exact hQ w2 H2
theorem bU.more(h:bU w rb s L tv dp B k rv ps1 dh D w1)
  (hQ:Q (.returned (.bool (dm dh !=0))) w1):bB 50 #[aH rb] w1 Q:=by
 obtain⟨a1,nS,vs1,D1,g1,rfl,-⟩:=h;refine(Iz rb s L tv a1 dp w1 g1.iW).mono ?_;rintro e w2 ⟨rfl,rfl⟩;exact hQ
def Fy(fn:FuncId)(F:X.R)(k2:Nat)(s:ByteArray)(L:List Tk)(dp:Nat):Prop :=
 ∀(w w1:aG) (rb:Nat) (tv:Value) (B k:Nat) (rv:Value) (ps:List Part) (ts:List X.Tok) (D:Nat→Prop),bU w rb s L tv dp B k rv ps ts D w1→ps.length+(F ts).1.length≤1073741824 →
  Calls prog fn #[aH rb,aH B] w1 fun en w'=>en=.returned (.tuple #[])∧Hid (bU w rb s L tv dp B k2 rv (ps++(F ts).1) (F ts).2 D w')
theorem WY(hS:iU s L):Fy 115 X.gW 3 s L dp:=by
 intro w w1 rb tv B k rv ps ts D h hl;obtain⟨b0,b1⟩:=h.Lv;have hg:=h.good hS;have H:=aA (h.setKind 3);obtain⟨M,hM⟩:∃ M:X.R,M=fun ts=>if dJ [97,115] ts then X.andThen X.take X.bE ts else([],ts):=⟨_,rfl⟩
 have e0:X.gW=X.andThen (X.andThen (X.want jf) (X.andThen X.bE (X.andThen (X.want [46]) X.bE))) (X.andThen M (X.want [59])):=by
  unfold X.gW;rw[hM];simp only[andThen_assoc]
 rw[e0] at hl ⊢;rw[X.fe,X.fe M] at hl;have e1:eZ [jf,gy,[46],gy] ts=X.andThen (X.want jf) (X.andThen X.bE (X.andThen (X.want [46]) X.bE)) ts :=
  oZ (.inl aS) hg (r_ ((eF.want _).good hg) (oZ (.inr aS) (eF.bE.good ((eF.want _).good hg)) (vE ((eF.want _).good (eF.bE.good ((eF.want _).good hg))))))
 generalize X.andThen (X.want jf) (X.andThen X.bE (X.andThen (X.want [46]) X.bE))=F at *;have hcp:Cap (X.andThen X.take X.bE) 1:=Cap.take.andThen Cap.bE;have HM:Hid (∀ ts,M ts=if dJ [97,115] ts then X.andThen X.take X.bE ts else([],ts)):=fun ts=>by rw[hM]
 clear h hM e0;have hz:(w1.setCell (aC B 0) (ak ((3:Nat):Int))).heap.size=w1.heap.size:=aT
 go_enter func115,ntmps115;go_wp2_with fail
 rw[show(Value.int IntKind.i64 3)=ak ((3:Nat):Int) from rfl] at *;generalize w1.setCell (aC B 0) (ak ((3:Nat):Int))=W at *;rw[← hz];refine bU.want (H.o) hS [jf,gy,[46],gy] (by simp[jf,gy]) aT (by rw[e1];omega) ?_;intro w2 H2;rw[e1] at H2;have hg2:=(H2.o).good hS;have eA:[[97,115]].any (fun x=>pN x (F ts).2)=dJ [97,115] (F ts).2:=by simp[gV hg2 (.inl (aS:[97,115]∈words))]
 go_wp2_with fail
 refine bU.kL (H2.o) [[97,115]] aT ?_;intro w3 H3;rw[eA];cases hA:dJ [97,115] (F ts).2 with
 | true =>
  have hm:M (F ts).2=X.andThen X.take X.bE (F ts).2:=by rw[HM.o,hA,aU rfl]
  have e2:eZ [[97,115],gy] (F ts).2=X.andThen X.take X.bE (F ts).2:=by
   refine qI ?_ (vE (eF.take.good hg2));unfold qY;rw[gV hg2 (.inl aS),hA,aU rfl]
  rw[hm] at hl;go_wp2_with fail
  refine bU.want (H3.o) hS [[97,115],gy] (by simp[gy]) aT (by rw[e2,ay];omega) ?_;intro w4 H4;rw[e2,← hm] at H4;rw[← hm] at hl;have e3:=jl (x:=[59]) (.inr aS) ((H4.o).good hS);go_wp2_with fail
  refine bU.want (H4.o) hS [[59]] aT aT (by rw[e3];simp only[ay];omega) ?_;intro w5 H5;rw[e3] at H5;go_wp2_with fail
  go_end0;refine⟨rfl,?_⟩;simp only[aK] at H5;exact H5
 | false =>
  have hm:M (F ts).2=([],(F ts).2):=by rw[HM.o,hA,aM aT]
  have e3:=jl (x:=[59]) (.inr aS) hg2;have hx:X.andThen F (X.andThen M (X.want [59])) ts=((F ts).1++(X.want [59] (F ts).2).1,(X.want [59] (F ts).2).2):=by
   unfold X.andThen;simp[hm]
  rw[hm] at hl;go_wp2_with fail
  refine bU.want (H3.o) hS [[59]] aT aT (by rw[e3];simp only[ay];simp at hl;omega) ?_;intro w5 H5;rw[e3] at H5;go_wp2_with fail
  go_end0;refine⟨rfl,?_⟩;rw[hx,← aK];exact H5
end
section
variable{s:ByteArray}{L:List Tk}
theorem WZ(hS:iU s L):Fy 116 X.gU 4 s L 0:=by
 intro w w1 rb tv B k rv ps ts D h hl;obtain⟨b0,b1⟩:=h.Lv;have hg:=h.good hS;have H:=aA (h.setKind 4);have HE:=aA (Bv hS 65 0 rfl);have HPa:=aA (Bt (s:=s) (L:=L) (dp:=0) hS);obtain⟨M,hM⟩:∃ M:X.R,M=fun ts=>if dJ [40] ts then X.params ts else([],ts):=⟨_,rfl⟩
 have e0:X.gU=X.andThen (X.andThen (X.want lF) X.bE) (X.andThen M (X.andThen (X.want [61]) (X.andThen (X.expr 65) (X.want [59])))):=by
  unfold X.gU;rw[hM];simp only[andThen_assoc]
 rw[e0] at hl ⊢;rw[X.fe,X.fe M,X.fe (X.want [61]),X.fe (X.expr 65)] at hl;have e1:eZ [lF,gy] ts=X.andThen (X.want lF) X.bE ts :=
  oZ (.inl aS) hg (vE ((eF.want _).good hg))
 generalize X.andThen (X.want lF) X.bE=F at *;generalize X.expr 65=E at *;have HM:Hid (∀ ts,M ts=if dJ [40] ts then X.params ts else([],ts)):=fun ts=>by rw[hM]
 clear h hM e0;have hz:(w1.setCell (aC B 0) (ak ((4:Nat):Int))).heap.size=w1.heap.size:=aT
 go_enter func116,ntmps116;go_wp2_with fail
 rw[show(Value.int IntKind.i64 4)=ak ((4:Nat):Int) from rfl] at *;generalize w1.setCell (aC B 0) (ak ((4:Nat):Int))=W at *;rw[← hz];refine bU.want (H.o) hS [lF,gy] (by simp[lF,gy]) aT (by rw[e1];omega) ?_;intro w2 H2;rw[e1] at H2;have hg2:=(H2.o).good hS;have eA:[[40]].any (fun x=>pN x (F ts).2)=dJ [40] (F ts).2:=by simp[gV hg2 (.inr (aS:[40]∈signs))]
 go_wp2_with fail
 refine bU.kL (H2.o) [[40]] aT ?_;intro w3 H3;rw[eA];cases hA:dJ [40] (F ts).2 with
 | true =>
  have hm:M (F ts).2=X.params (F ts).2:=by rw[HM.o,hA,aU rfl]
  generalize X.params=PA at *;go_wp2_with fail
  refine bU.then (H3.o) (HPa.o) trivial (by rw[← hm,ay];omega) ?_;intro w4 H4;rw[← hm] at H4;have e3:=jl (x:=[61]) (.inr aS) ((H4.o).good hS);go_wp2_with fail
  refine bU.want (H4.o) hS [[61]] aT aT (by rw[e3];simp only[ay];omega) ?_;intro w5 H5;rw[e3] at H5;go_wp2_with fail
  refine bU.then (H5.o) (HE.o) trivial (by simp only[ay];omega) ?_;intro w6 H6;have e4:=jl (x:=[59]) (.inr aS) ((H6.o).good hS);go_wp2_with fail
  refine bU.want (H6.o) hS [[59]] aT aT (by rw[e4];simp only[ay];omega) ?_;intro w7 H7;rw[e4] at H7;go_wp2_with fail
  go_end0;refine⟨rfl,?_⟩;simp only[aK] at H7;exact H7
 | false =>
  have hm:M (F ts).2=([],(F ts).2):=by rw[HM.o,hA,aM aT]
  have H4:Hid (bU w rb s L tv 0 B 4 rv (ps++(F ts).1++(M (F ts).2).1) (M (F ts).2).2 D w3):=by
   rw[hm,aL];exact H3
  clear hm H3;have e3:=jl (x:=[61]) (.inr aS) ((H4.o).good hS);go_wp2_with fail
  refine bU.want (H4.o) hS [[61]] aT aT (by rw[e3];simp only[ay];omega) ?_;intro w5 H5;rw[e3] at H5;go_wp2_with fail
  refine bU.then (H5.o) (HE.o) trivial (by simp only[ay];omega) ?_;intro w6 H6;have e4:=jl (x:=[59]) (.inr aS) ((H6.o).good hS);go_wp2_with fail
  refine bU.want (H6.o) hS [[59]] aT aT (by rw[e4];simp only[ay];omega) ?_;intro w7 H7;rw[e4] at H7;go_wp2_with fail
  go_end0;refine⟨rfl,?_⟩;simp only[aK] at H7;exact H7
theorem bU.IY{w w1:aG}{rb:Nat}{tv:Value}{dp B k:Nat}{rv:Value}{ps1:List Part}{dh:List X.Tok}{D:Nat→Prop}{fn:FuncId}{F:X.R}{k2:Nat}{Q:Ending→World→Prop}
  (h:bU w rb s L tv dp B k rv ps1 dh D w1) (hF:Fy fn F k2 s L dp) (hl:ps1.length+(F dh).1.length≤1073741824)
  (hQ:∀ w2,Hid (bU w rb s L tv dp B k2 rv (ps1++(F dh).1) (F dh).2 D w2)→Q (.returned (.tuple #[])) w2) :
  Calls prog fn #[aH rb,aH B] w1 Q:=by
 refine(hF w w1 rb tv B k rv ps1 dh D h hl).aX fun w2 H2=>?_;exact hQ w2 H2
theorem TW(hS:iU s L)(w w1:aG)(rb:Nat)(tv:Value)(B k:Nat)(rv:Value)(ps:List Part)(ts:List X.Tok)(D:Nat→Prop)(h:bU w rb s L tv 0 B k rv ps ts D w1)(hst:X.starts ts=true)(hl:ps.length+(X.kid ts).2.1.length≤1073741824) :
  bB 85 #[aH rb,aH B] w1 fun en w'=>en=.returned (.tuple #[])∧Hid (bU w rb s L tv 0 B (X.kid ts).1 rv (ps++(X.kid ts).2.1) (X.kid ts).2.2 D w'):=by
 have hg:=h.good hS;have H:=aA h;have HU:=aA (WY (s:=s) (L:=L) (dp:=0) hS);have HDf:=aA (WZ hS);have HK:Hid (X.kid ts=if dJ jf (X.bH ts).2 then(3,X.andThen X.bH X.gW ts) else(4,X.andThen X.bH X.gU ts)):=by
  show _=_;rw[kK,hst,aU rfl]
 have HO:Hid (X.bH ts=if dJ jY ts then X.take ts else([],ts)):=(rfl:_=_);have eA:[jY].any (fun x=>pN x ts)=dJ jY ts:=by simp[gV hg (.inl (aS:jY∈words))]
 clear h;generalize X.kid ts=KD at *;have YI:dJ jf (X.bH ts).2=true→ps.length+((X.bH ts).1.length+(X.gW (X.bH ts).2).1.length)≤1073741824:=fun e=>by
  have:=HK.o;rw[e,aU rfl] at this;rw[this] at hl;rw[X.fe] at hl;exact hl
 have hld:dJ jf (X.bH ts).2=false→ps.length+((X.bH ts).1.length+(X.gU (X.bH ts).2).1.length)≤1073741824:=fun e=>by
  have:=HK.o;rw[e,aM aT] at this;rw[this] at hl;rw[X.fe] at hl;exact hl
 have hlo:ps.length+(X.bH ts).1.length≤1073741824:=by
  cases e:dJ jf (X.bH ts).2 with
  | true=>have:=YI e;omega
  | false=>have:=hld e;omega
 generalize X.gW=U at *;generalize X.gU=Df at *;generalize hop:X.bH=OP at *;clear hop;go_enter func85,ntmps85;go_wp2_with fail
 refine bU.kL (H.o) [jY] aT ?_;intro w2 H2;rw[eA];cases hA:dJ jY ts with
 | true =>
  have ho:OP ts=X.take ts:=by rw[HO.o,hA,aU rfl]
  go_wp2_with fail
  refine bU.then (H2.o) (lQ s L 0 hS) (bY hA) (by rw[← ho];exact hlo) ?_;intro w3 H3;rw[← ho] at H3;have eB:[jf].any (fun x=>pN x (OP ts).2)=dJ jf (OP ts).2:=by simp[gV ((H3.o).good hS) (.inl (aS:jf∈words))]
  go_wp2_with fail
  refine bU.kL (H3.o) [jf] aT ?_;intro w4 H4;rw[eB];cases hB:dJ jf (OP ts).2 with
  | true =>
   have h9:=YI hB;go_wp2_with fail
   refine bU.IY (H4.o) (HU.o) (by rw[ay];omega) ?_;intro w5 H5;go_wp2_with fail
   go_end0;refine⟨rfl,?_⟩;have hp:=HK.o;rw[hB,aU rfl] at hp;rw[hp];rw[aK] at H5;exact H5
  | false =>
   have h9:=hld hB;go_wp2_with fail
   refine bU.IY (H4.o) (HDf.o) (by rw[ay];omega) ?_;intro w5 H5;go_wp2_with fail
   go_end0;refine⟨rfl,?_⟩;have hp:=HK.o;rw[hB,aM aT] at hp;rw[hp];rw[aK] at H5;exact H5
 | false =>
  have ho:OP ts=([],ts):=by rw[HO.o,hA,aM aT]
  have H3:Hid (bU w rb s L tv 0 B k rv (ps++(OP ts).1) (OP ts).2 D w2):=by rw[ho,aL];exact H2
  have eB:[jf].any (fun x=>pN x (OP ts).2)=dJ jf (OP ts).2:=by simp[gV ((H3.o).good hS) (.inl (aS:jf∈words))]
  go_wp2_with fail
  refine bU.kL (H3.o) [jf] aT ?_;intro w4 H4;rw[eB];cases hB:dJ jf (OP ts).2 with
  | true =>
   have h9:=YI hB;go_wp2_with fail
   refine bU.IY (H4.o) (HU.o) (by rw[ay];omega) ?_;intro w5 H5;go_wp2_with fail
   go_end0;refine⟨rfl,?_⟩;have hp:=HK.o;rw[hB,aU rfl] at hp;rw[hp];rw[aK] at H5;exact H5
  | false =>
   have h9:=hld hB;go_wp2_with fail
   refine bU.IY (H4.o) (HDf.o) (by rw[ay];omega) ?_;intro w5 H5;go_wp2_with fail
   go_end0;refine⟨rfl,?_⟩;have hp:=HK.o;rw[hB,aM aT] at hp;rw[hp];rw[aK] at H5;exact H5
theorem TY(hS:iU s L):Fy 86 X.iB 5 s L 0:=by
 intro w w1 rb tv B k rv ps ts D h hl;obtain⟨b0,b1⟩:=h.Lv;have H:=aA (h.setKind 5);have hL:=hS.len;have hz:(w1.setCell (aC B 0) (ak ((5:Nat):Int))).heap.size=w1.heap.size:=aT
 clear h;go_enter func86,ntmps86;go_wp2_with fail
 rw[show(Value.int IntKind.i64 5)=ak ((5:Nat):Int) from rfl] at *;generalize w1.setCell (aC B 0) (ak ((5:Nat):Int))=W at *;have hcj:=Cap.iB;go_loopw [4] (fun v wr=>∃(b:Bool) (acc:List Part) (dh:List X.Tok),v=.bool b∧Hid (bU w rb s L tv 0 B 5 rv (ps++acc) dh D wr)∧Hid (X.iB ts=if b then(acc,dh) else(acc++(X.iB dh).1,(X.iB dh).2))) (fun _ wr=>L.length - Yk rb wr)
 case atStart=>exact⟨false,[],ts,rfl,by rw[aL];exact H,by show _=_;simp⟩
 case round =>
  obtain⟨b,acc,dh,rfl,H3,HE⟩:=hrel;have hlen1:=(H3.o).len;cases b with
  | true =>
   go_wp2_with fail
   go_end0;refine⟨rfl,?_⟩;have hp:X.iB ts=(acc,dh):=by have:=HE.o;simpa using this
   rw[hp];exact H3
  | false =>
   have hp:X.iB ts=(acc++(X.iB dh).1,(X.iB dh).2):=by have:=HE.o;rwa[aM aT] at this
   have hla:ps.length+(acc.length+(X.iB dh).1.length)≤1073741824:=by rw[hp] at hl;simpa using hl
   have HPP:=aA hp;clear hp HE;have kI:(dm dh !=0)=!(dm dh==0):=rfl;go_wp2_with fail
   refine bU.more (H3.o) ?_;rw[kI];cases hk:(dm dh==0) with
   | true =>
    have hj:=wP (ts:=dh) (by rw[hk];rfl);go_wp2_with fail
    go_end0;refine⟨rfl,?_⟩;rw[HPP.o,hj,aL];exact H3
   | false =>
    go_wp2_with fail
    refine bU.TV (H3.o) hS ?_;intro w4 H4;cases hs:X.starts dh with
    | true =>
     have hj:=wP (ts:=dh) (by rw[hs,Bool.or_true]);go_wp2_with fail
     go_end0;refine⟨rfl,?_⟩;rw[HPP.o,hj,aL];exact H4
    | false =>
     have hj:=qZ (ts:=dh) (by rw[hk,hs];rfl);have hn:=l_ hk;have hlt:=fZ hn;have eA:[[59]].any (fun x=>pN x dh)=dJ [59] dh:=by simp[gV ((H4.o).good hS) (.inr (aS:[59]∈signs))]
     have hlb:(X.take dh).1.length≤(X.iB dh).1.length:=by
      rw[hj];split
      ·exact ax _
      ·rw[X.fe];omega
     go_wp2_with fail
     refine bU.kL (H4.o) [[59]] aT ?_;intro w5 H5;rw[eA];go_wp2_with fail
     refine bU.then (H5.o) (lQ s L 0 hS) hn (by rw[ay];omega) ?_;intro w6 H6;go_wp2_with fail
     refine⟨⟨dJ [59] dh,acc++(X.take dh).1,(X.take dh).2,rfl,by rw[← aK];exact H6,?_⟩,by rw[(H6.o).at,(H3.o).at];exact hlt⟩;show _=_;rw[HPP.o,hj];cases dJ [59] dh<;>simp[X.andThen]
theorem W_(ts:List X.Tok):(X.kid ts).2.1.length≤6+2*ts.length:=by
 rw[kK]
 split
 ·split
  ·have:=(Cap.bH.andThen Cap.gW).le ts;simpa using this
  ·have:=(Cap.bH.andThen Cap.gU).le ts;simpa using this
 ·have:=Cap.iB.le ts
  show(X.iB ts).1.length≤_;omega
theorem T9(ts:List X.Tok):(X.kid ts).2.2.length≤ts.length:=by
 rw[kK]
 split
 ·split
  ·exact(eF.bH.andThen eF.gW).le ts
  ·exact(eF.bH.andThen eF.gU).le ts
 ·exact(eF.iE ts.length).le ts
def Xa(N n:Nat):Value:=.agg #[aH N,ak n]
theorem M9{w W w3 w4:aG}{rb:Nat}{tv:Value}{D:Nat→Prop}{k:Nat}{ps:List Part}{ts:List X.Tok}(kA:Below w.heap.size w W)(hsz:W.heap.size=w.heap.size+2)(hrl:rb<w.heap.size)(hD:∀ q,D q→q<w.heap.size)(hT:∀ q,tv.ownBlock=some q→¬ D q∧q<w.heap.size)
  (h:bU W rb s L tv 0 (w.heap.size+1) k (.slice none 0 0) ps ts D w3) (PW:Kp (fun q=>q=w.heap.size) w3 w4) :
  ∃(D':Nat→Prop) (a':Nat),qA w4 rb s L tv a' 0∧aR s L a'=ts∧uJ w4 D' (.iface 127 (aH (w.heap.size+1))) (.br k ps)∧(∀ q,D q→D' q)∧(∀ q,D' q→D q∨w.heap.size≤q)∧(∀ q,D' q→q<w4.heap.size)∧On rb w w4:=by
 obtain⟨a',Yh,vs3,D3,g1,g2,g3,g4,g5,g6⟩:=h;have hz3:=g6.size;have VJ:=PW.size;have hg5:∀ g,Yh.ownBlock=some g→W.heap.size≤g:=fun g hg=>by
  rcases g5 g hg with e|e
  ·cases e
  ·exact e
 have hD3:∀ q,(D3 q∨q=w.heap.size+1∨Yh.ownBlock=some q)→D q∨w.heap.size<q:=by
  rintro q (e|e|e)
  ·rcases g4 q e with h|h
   ·exact .inl h
   ·exact .inr au
  ·exact .inr au
  ·exact .inr (by have:=hg5 q e;omega)
 refine⟨_,a',g1.iW.keep PW (fun e=>au) (fun q hq e=>by have:=(hT q hq).2;omega),g2,g1.part.keep PW (fun q hq e=>?_),fun q hq=>.inl (g3 q hq),fun q hq=>?_,fun q hq=>?_,?_⟩
 ·rcases hD3 q hq with h|h
  ·have:=hD q h;omega
  ·omega
 ·rcases hD3 q hq with h|h
  ·exact .inl h
  ·exact .inr au
 ·rcases hq with e|e|e
  ·have:=g1.IA q e;omega
  ·omega
  ·have:=(dG g1.sM.row q e).2;omega
 ·refine Kp.trans (Kp.trans (Kp.aN kA (fun q=>q=rb)) g6 (fun i hi e=>?_)) PW (fun i hi e=>au)
  rcases e with e|e|e
  ·exact e
  ·omega
  ·cases e
theorem Xb(hS:iU s L)(rb:Nat)(tv:Value)(a:Nat)(w:aG)(hr:qA w rb s L tv a 0)(D:Nat→Prop)(hD:∀ q,D q→q<w.heap.size)(hDr:¬ D rb)(hT:∀ q,tv.ownBlock=some q→¬ D q∧q<w.heap.size) :
  bB 52 #[aH rb] w fun en w'=>∃(N:Nat) (D':Nat→Prop) (a':Nat),en=.returned (Xa N ((aR s L a).length - (X.kid (aR s L a)).2.2.length))∧Hid (qA w' rb s L tv a' 0∧aR s L a'=(X.kid (aR s L a)).2.2∧uJ w' D' (.iface 127 (aH N)) (.br (X.kid (aR s L a)).1 (X.kid (aR s L a)).2.1)∧(∀ q,D q→D' q)∧(∀ q,D' q→D q∨w.heap.size≤q)∧(∀ q,D' q→q<w'.heap.size)∧On rb w w'):=by
 have hle:=hr.le;have hrl:=hr.raw.lt;have kA:Below w.heap.size w ((w.alloc (Obj.cells #[.pointer none,ak 0] 135)).alloc (Obj.cells #[ak 0,.slice none 0 0] 130)):=((aB _ w).alloc (ax _) _).alloc aT _;have hlen:(aR s L a).length=L.length - a:=by unfold aR;simp
 have hL:=hS.len;have hcap:=W_ (aR s L a);have hsz:((w.alloc (Obj.cells #[.pointer none,ak 0] 135)).alloc (Obj.cells #[ak 0,.slice none 0 0] 130)).heap.size=w.heap.size+2:=aT
 have hnew:((w.alloc (Obj.cells #[.pointer none,ak 0] 135)).alloc (Obj.cells #[ak 0,.slice none 0 0] 130)).heap[w.heap.size+1]?=some (.cells #[ak 0,.slice none 0 0] 130 (0,0)):=by
  have:=aI (w.alloc (Obj.cells #[.pointer none,ak 0] 135)) (Obj.cells #[ak 0,.slice none 0 0] 130)
  rwa[fB] at this
 have hres:((w.alloc (Obj.cells #[.pointer none,ak 0] 135)).alloc (Obj.cells #[ak 0,.slice none 0 0] 130)).heap[w.heap.size]?=some (.cells #[.pointer none,ak 0] 135 (0,0)) :=
  (eG (w.alloc _) _ (show w.heap.size<_ by simp)).trans (aI w _)
 obtain⟨⟨c0,c1,c2,c3,c4,c5,c6⟩,-⟩:=hr.raw.facts;have HJ:=aA (TY hS);have HR:=aA hr;clear hr;go_enter func52,ntmps52;go_wp2_with fail
 generalize (w.alloc (Obj.cells #[.pointer none,ak 0] 135)).alloc (Obj.cells #[ak 0,.slice none 0 0] 130)=W at *;have HW:Hid (bU W rb s L tv 0 (w.heap.size+1) 0 (.slice none 0 0) [] (aR s L a) D W):=by
  refine bU.refl (a:=a) (vs:=[]) ⟨(HR.o).below kA,⟨hnew,dK _ _ _ _⟩,rfl,Each.nil _ _,fun q hq=>?_,⟨hDr,fun hd=>?_,?_⟩,(fun g hg=>by cases hg),fun q hq=>?_⟩
  ·have:=hD q hq;omega
  ·have:=hD _ hd;omega
  ·omega
  ·obtain⟨h1,h2⟩:=hT q hq
   exact⟨h1,au,(fun e=>by cases e),au⟩
 refine bU.TV (HW.o) hS ?_;intro w2 H2;cases hst:X.starts (aR s L a) with
 | true =>
  go_wp2_with fail
  refine(TW hS W w2 rb tv (w.heap.size+1) 0 (.slice none 0 0) [] (aR s L a) D H2.o hst aQ).aX fun w3 H3=>?_;rw[bM] at H3;have hle3:=T9 (aR s L a);have HQ:Hid (∃ a3:Nat,a≤a3∧(aR s L a).length - (X.kid (aR s L a)).2.2.length=a3 - a∧w3.cell? (aC rb 2)=some (ak a3)∧a3≤L.length):=by
   obtain⟨a3,Yh,vs3,D3,g1,g2,-⟩:=H3.o;obtain⟨⟨z0,z1,z2,-⟩,-⟩:=g1.iW.raw.facts;have hl3:(aR s L a3).length=L.length - a3:=by unfold aR;simp
   have aC4:=g1.iW.le;rw[← g2] at hle3 ⊢;exact⟨a3,au,au,z2,aC4⟩
  have tT:w3.heap[w.heap.size]?=some (.cells #[.pointer none,ak 0] 135 (0,0)):=by
   obtain⟨a3,Yh,vs3,D3,g1,g2,g3,g4,g5,g6⟩:=H3.o;exact g6.heap hres (by
    rintro(e|e|e)
    ·omega
    ·omega
    ·cases e)
  obtain⟨a3,q1,q2,q3,q4⟩:=HQ.o;have r0:w3.cell? (aC w.heap.size 0)=some (.pointer none):=aj w3 _ 0 _ _ _ tT;have r1:w3.cell? (aC w.heap.size 1)=some (ak 0):=aj w3 _ 1 _ _ _ tT;have r2:w3.frozen? (aC w.heap.size 0)=false:=dO tT
  have r3:w3.frozen? (aC w.heap.size 1)=false:=dO tT
  clear HQ tT hnew hres c0 c1 c2 c3 c4 c5 c6;have HF:Hid (∃(D':Nat→Prop) (a':Nat),qA ((w3.setCell (aC w.heap.size 0) (aH (w.heap.size+1))).setCell (aC w.heap.size 1) (ak ((a3:Int) - (a:Int)))) rb s L tv a' 0∧aR s L a'=(X.kid (aR s L a)).2.2∧uJ ((w3.setCell (aC w.heap.size 0) (aH (w.heap.size+1))).setCell (aC w.heap.size 1) (ak ((a3:Int) - (a:Int)))) D' (.iface 127 (aH (w.heap.size+1))) (.br (X.kid (aR s L a)).1 (X.kid (aR s L a)).2.1)∧(∀ q,D q→D' q)∧(∀ q,D' q→D q∨w.heap.size≤q)∧(∀ q,D' q→q<((w3.setCell (aC w.heap.size 0) (aH (w.heap.size+1))).setCell (aC w.heap.size 1) (ak ((a3:Int) - (a:Int)))).heap.size)∧On rb w ((w3.setCell (aC w.heap.size 0) (aH (w.heap.size+1))).setCell (aC w.heap.size 1) (ak ((a3:Int) - (a:Int))))):=M9 kA hsz hrl hD hT H3.o (On.set (On.set (Kp.refl _ w3) 0 _) 1 _);go_wp2_with fail
  obtain⟨D',a',hF⟩:=HF.o;have e9:((a3:Int) - (a:Int))=(((aR s L a).length - (X.kid (aR s L a)).2.2.length:Nat):Int):=by rw[q2];omega
  exact aW (v:=.agg #[aH (w.heap.size+1),ak ((a3:Int) - (a:Int))]) (by simp[results,results52,go_sem,r0,r1]) rfl ⟨w.heap.size+1,D',a',by unfold Xa;rw[← e9],hF⟩
 | false =>
  go_wp2_with fail
  refine bU.IY (H2.o) (HJ.o) (by have:=Cap.iB.le (aR s L a);simp;omega) ?_;intro w3 Xc;have ek:X.kid (aR s L a)=(5,X.iB (aR s L a)):=by rw[kK,hst,aM aT]
  have H3:Hid (bU W rb s L tv 0 (w.heap.size+1) (X.kid (aR s L a)).1 (.slice none 0 0) (X.kid (aR s L a)).2.1 (X.kid (aR s L a)).2.2 D w3):=by
   rw[ek];rw[bM] at Xc;exact Xc
  clear Xc ek;have hle3:=T9 (aR s L a);have HQ:Hid (∃ a3:Nat,a≤a3∧(aR s L a).length - (X.kid (aR s L a)).2.2.length=a3 - a∧w3.cell? (aC rb 2)=some (ak a3)∧a3≤L.length):=by
   obtain⟨a3,Yh,vs3,D3,g1,g2,-⟩:=H3.o;obtain⟨⟨z0,z1,z2,-⟩,-⟩:=g1.iW.raw.facts;have hl3:(aR s L a3).length=L.length - a3:=by unfold aR;simp
   have aC4:=g1.iW.le;rw[← g2] at hle3 ⊢;exact⟨a3,au,au,z2,aC4⟩
  have tT:w3.heap[w.heap.size]?=some (.cells #[.pointer none,ak 0] 135 (0,0)):=by
   obtain⟨a3,Yh,vs3,D3,g1,g2,g3,g4,g5,g6⟩:=H3.o;exact g6.heap hres (by
    rintro(e|e|e)
    ·omega
    ·omega
    ·cases e)
  obtain⟨a3,q1,q2,q3,q4⟩:=HQ.o;have r0:w3.cell? (aC w.heap.size 0)=some (.pointer none):=aj w3 _ 0 _ _ _ tT;have r1:w3.cell? (aC w.heap.size 1)=some (ak 0):=aj w3 _ 1 _ _ _ tT;have r2:w3.frozen? (aC w.heap.size 0)=false:=dO tT
  have r3:w3.frozen? (aC w.heap.size 1)=false:=dO tT
  clear HQ tT hnew hres c0 c1 c2 c3 c4 c5 c6;have HF:Hid (∃(D':Nat→Prop) (a':Nat),qA ((w3.setCell (aC w.heap.size 0) (aH (w.heap.size+1))).setCell (aC w.heap.size 1) (ak ((a3:Int) - (a:Int)))) rb s L tv a' 0∧aR s L a'=(X.kid (aR s L a)).2.2∧uJ ((w3.setCell (aC w.heap.size 0) (aH (w.heap.size+1))).setCell (aC w.heap.size 1) (ak ((a3:Int) - (a:Int)))) D' (.iface 127 (aH (w.heap.size+1))) (.br (X.kid (aR s L a)).1 (X.kid (aR s L a)).2.1)∧(∀ q,D q→D' q)∧(∀ q,D' q→D q∨w.heap.size≤q)∧(∀ q,D' q→q<((w3.setCell (aC w.heap.size 0) (aH (w.heap.size+1))).setCell (aC w.heap.size 1) (ak ((a3:Int) - (a:Int)))).heap.size)∧On rb w ((w3.setCell (aC w.heap.size 0) (aH (w.heap.size+1))).setCell (aC w.heap.size 1) (ak ((a3:Int) - (a:Int))))):=M9 kA hsz hrl hD hT H3.o (On.set (On.set (Kp.refl _ w3) 0 _) 1 _);go_wp2_with fail
  obtain⟨D',a',hF⟩:=HF.o;have e9:((a3:Int) - (a:Int))=(((aR s L a).length - (X.kid (aR s L a)).2.2.length:Nat):Int):=by rw[q2];omega
  exact aW (v:=.agg #[aH (w.heap.size+1),ak ((a3:Int) - (a:Int))]) (by simp[results,results52,go_sem,r0,r1]) rfl ⟨w.heap.size+1,D',a',by unfold Xa;rw[← e9],hF⟩
end
end Go.Proofs.YtoohcklcppnafaaGreatDoor
