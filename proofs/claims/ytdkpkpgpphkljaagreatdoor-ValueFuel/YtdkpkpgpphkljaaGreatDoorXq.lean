/- What stands within brackets and behind words,if expressions can be read one level deeper. -/
import Derived.Test.YtdkpkpgpphkljaaGreatDoorXf
namespace Go.Proofs.YtdkpkpgpphkljaaGreatDoor
set_option maxRecDepth 100000
set_option maxHeartbeats 1000000
open Tryz
open Go.RowKit Go.Shelf
open M
section
theorem V7:∀ args w,(callFunc 147 args).run prog w=.ok (.enter 147 args) w:=enters_of func147 (by kernel_rfl) rfl
theorem LB:∀ args w,(callFunc 118 args).run prog w=.ok (.enter 118 args) w:=enters_of func118 (by kernel_rfl) rfl
theorem X.dS(f g:X.R)(ts:List X.Tok):(X.andThen f g ts).1.length=(f ts).1.length+(g (f ts).2).1.length:=by simp[X.andThen]
theorem bf.bO{w w1:World}{rb:Nat}{s:ByteArray}{L:List Tk}{tv:Value}{dp B k:Nat}{rv:Value}{ps1:List X.Part}{eF:List X.Tok}{D:Nat→Prop}{Q:Ending→World→Prop}(h:bf w rb s L tv dp B k rv ps1 eF D w1)(hS:kJ s L)
  {fn:FuncId} (hen:∀ args w,(callFunc fn args).run prog w=.ok (.enter fn args) w) {O:X.R} (hO:Reads fn O (fun _=>True) s L dp) (hsh:X.bR O) (e:ah) (he:e∈X.signs) (hl:ps1.length+(X.bO O e eF).1.length≤1073741824)
  (hQ:∀ w2,Hid (bf w rb s L tv dp B k rv (ps1++(X.bO O e eF).1) (X.bO O e eF).2 D w2)→Q (.returned (.tuple #[])) w2) :
  Calls prog 146 #[.pointer (some ⟨rb,0,none⟩),.pointer (some ⟨B,0,none⟩),.func (.func fn) #[.pointer (some ⟨rb,0,none⟩)] #[],.string (ba e)] w1 Q:=by
 have hF:=Hg s L dp hS fn hen O hO hsh e he;exact bf.aQ2 (args:=fun rb B=>#[.pointer (some ⟨rb,0,none⟩),.pointer (some ⟨B,0,none⟩),.func (.func fn) #[.pointer (some ⟨rb,0,none⟩)] #[],.string (ba e)]) h hF trivial hl hQ
section
variable{s:ByteArray}{L:List Tk}{dp:Nat}(hS:kJ s L){E:X.R}(hE:Reads 118 E (fun _=>True) s L dp)(hsh:X.bR E)
include hS hE hsh
theorem SG:Reads 197 (X.bO E [41]) (fun _=>True) s L dp:=by
 intro rb tv a B k rv vs ps D w h _ hl;have H:=bf.start h;have HE:=au hE;clear h hE;go_enter func197,ntmps197;go_wp2_with fail
 refine bf.bO (H.o) hS LB HE.o hsh [41] (by decide) hl ?_;intro w1 H1;go_wp2_with fail
 go_end0;exact⟨rfl,H1⟩
theorem SH:Reads 199 (X.bO E [93]) (fun _=>True) s L dp:=by
 intro rb tv a B k rv vs ps D w h _ hl;have H:=bf.start h;have HE:=au hE;clear h hE;go_enter func199,ntmps199;go_wp2_with fail
 refine bf.bO (H.o) hS LB HE.o hsh [93] (by decide) hl ?_;intro w1 H1;go_wp2_with fail
 go_end0;exact⟨rfl,H1⟩
omit hsh in
theorem NH:Reads 198 (X.andThen E (X.want [41])) (fun _=>True) s L dp:=by
 intro rb tv a B k rv vs ps D w h _ hl;have H:=bf.start h;have HE:=au hE;clear h hE;rw[X.dS] at hl;go_enter func198,ntmps198;go_wp2_with fail
 refine bf.then (H.o) (HE.o) trivial (by omega) ?_;intro w1 H1;have e1:X.dO [[41]] (E (bn s L a)).2=X.want [41] (E (bn s L a)).2:=by rw[X.nE,X.pK ((H1.o).good hS) (.inr (by decide))]
 go_wp2_with fail
 refine bf.want (H1.o) hS [[41]] (by simp) (by simp) (by rw[e1,ak];omega) ?_;intro w2 H2;rw[e1] at H2;go_wp2_with fail
 go_end0;exact⟨rfl,by show bf _ _ _ _ _ _ _ _ _ _ _ _ _;rw[aA] at H2;exact H2.o⟩
end
end
section
variable{x:ah}
namespace X
theorem qx{f f' g g':R}{ts:List Tok}(h1:f ts=f' ts)(h2:g (f' ts).2=g' (f' ts).2):andThen f g ts=andThen f' g' ts:=by
 unfold andThen;rw[h1,h2]
theorem h_(hs:x∈words∨x∈signs){ts:List Tok}(hg:Good ts):dO [x] ts=want x ts:=by rw[nE,pK hg hs]
theorem uQ{ts:List Tok}(hg:Good ts):dO [fF] ts=aV ts:=by rw[nE,uP hg]
theorem rW{xs:List (ah)}{g:R}{ts:List Tok}(hg:Good ts)(h:dO xs (aV ts).2=g (aV ts).2):dO (fF::xs) ts=andThen aV g ts:=qx (uP hg) h
theorem n_(hs:x∈words∨x∈signs){xs:List (ah)}{g:R}{ts:List Tok}(hg:Good ts)(h:dO xs (want x ts).2=g (want x ts).2):dO (x::xs) ts=andThen (want x) g ts:=qx (pK hg hs) h
end X
theorem AA{s:ByteArray}{L:List Tk}{dp:Nat}(hS:kJ s L):Reads 117 X.params (fun _=>True) s L dp:=by
 intro rb tv a B k rv vs ps D w h _ hl;have hg:=hS.rem a;have hn:=SF s L dp hS;have hlen:(bn s L a).length≤L.length:=(bf.refl h).len;have hL:=hS.len;have hc:=((X.Cap.want [40]).andThen (X.Cap.aV.bO [41])).le (bn s L a);rw[X.dS] at hc;have hl1:ps.length+1≤1073741824:=hl;have HH:=au h;have TH:=au hn;clear h hn hl;have e1:=X.h_ (x:=[40]) (.inr (by decide)) hg;go_enter func117,ntmps117;go_wp2_with fail
 refine(Ay rb s L tv a dp B k rv vs ps D w HH.o (by omega) 6).mono ?_;rintro e w1 ⟨rfl,H1⟩;have HO:=au (H1.o).1;have H2:=bf.start (H1.o).2;clear H1;go_wp2_with fail
 refine bf.want (H2.o) hS [[40]] (by simp) (by simp) (by rw[e1];simp;omega) ?_;intro w3 H3;rw[e1,bT] at H3;go_wp2_with fail
 refine bf.bO (H3.o) hS V7 (TH.o) X.bR.aV [41] (by decide) (by omega) ?_;intro w4 H4;go_wp2_with fail
 go_end0;exact⟨rfl,(HO.o).close H4.o⟩
section
variable{s:ByteArray}{L:List Tk}{dp:Nat}(hS:kJ s L){E:X.R}(hE:Reads 118 E (fun _=>True) s L dp)
include hS hE
theorem V8:Reads 149 (X.andThen X.aV (X.andThen (X.want [61]) (X.andThen E (X.andThen (X.want [105,110]) E)))) (fun _=>True) s L dp:=by
 intro rb tv a B k rv vs ps D w h _ hl;have H:=bf.start h;have hg:=hS.rem a;have HE:=au hE;clear h hE;have e1:X.dO [X.fF,[61]] (bn s L a)=X.andThen X.aV (X.want [61]) (bn s L a):=X.rW hg (X.h_ (.inr (by decide)) (X.bR.aV.good hg));have e0:X.andThen X.aV (X.andThen (X.want [61]) (X.andThen E (X.andThen (X.want [105,110]) E)))=X.andThen (X.andThen X.aV (X.want [61])) (X.andThen E (X.andThen (X.want [105,110]) E)):=(X.andThen_assoc _ _ _).symm;rw[e0] at hl ⊢;rw[X.dS,X.dS E,X.dS (X.want [105,110])] at hl;generalize hF:X.andThen X.aV (X.want [61])=F at *;go_enter func149,ntmps149;go_wp2_with fail
 refine bf.want (H.o) hS [X.fF,[61]] (by simp[X.fF]) (by simp) (by rw[e1];omega) ?_;intro w1 H1;rw[e1] at H1;go_wp2_with fail
 refine bf.then (H1.o) (HE.o) trivial (by rw[ak];omega) ?_;intro w2 H2;have e2:=X.h_ (x:=[105,110]) (.inl (by decide)) ((H2.o).good hS);go_wp2_with fail
 refine bf.want (H2.o) hS [[105,110]] (by simp) (by simp) (by rw[e2,ak,ak];omega) ?_;intro w3 H3;rw[e2] at H3;go_wp2_with fail
 refine bf.then (H3.o) (HE.o) trivial (by simp only[ak];omega) ?_;intro w4 H4;go_wp2_with fail
 go_end0;refine⟨rfl,?_⟩;simp only[aA] at H4;exact H4
theorem J_:Reads 150 (X.andThen E (X.andThen (X.want [116,104,101,110]) (X.andThen E (X.andThen (X.want [101,108,115,101]) E)))) (fun _=>True) s L dp:=by
 intro rb tv a B k rv vs ps D w h _ hl;have H:=bf.start h;have HE:=au hE;clear h hE;rw[X.dS,X.dS (X.want _),X.dS E,X.dS (X.want _)] at hl;go_enter func150,ntmps150;go_wp2_with fail
 refine bf.then (H.o) (HE.o) trivial (by omega) ?_;intro w1 H1;have e1:=X.h_ (x:=[116,104,101,110]) (.inl (by decide)) ((H1.o).good hS);go_wp2_with fail
 refine bf.want (H1.o) hS [[116,104,101,110]] (by simp) (by simp) (by rw[e1];simp only[ak];omega) ?_;intro w2 H2;rw[e1] at H2;go_wp2_with fail
 refine bf.then (H2.o) (HE.o) trivial (by simp only[ak];omega) ?_;intro w3 H3;have e2:=X.h_ (x:=[101,108,115,101]) (.inl (by decide)) ((H3.o).good hS);go_wp2_with fail
 refine bf.want (H3.o) hS [[101,108,115,101]] (by simp) (by simp) (by rw[e2];simp only[ak];omega) ?_;intro w4 H4;rw[e2] at H4;go_wp2_with fail
 refine bf.then (H4.o) (HE.o) trivial (by simp only[ak];omega) ?_;intro w5 H5;go_wp2_with fail
 go_end0;refine⟨rfl,?_⟩;simp only[aA] at H5;exact H5
theorem V9:Reads 151 (X.andThen X.params (X.andThen (X.want [61,62]) E)) (fun _=>True) s L dp:=by
 intro rb tv a B k rv vs ps D w h _ hl;have H:=bf.start h;have HE:=au hE;have HP:=au (AA (s:=s) (L:=L) (dp:=dp) hS);clear h hE;rw[X.dS,X.dS (X.want _)] at hl;generalize hF:X.params=F at *;go_enter func151,ntmps151;go_wp2_with fail
 refine bf.then (H.o) (HP.o) trivial (by omega) ?_;intro w1 H1;have e1:=X.h_ (x:=[61,62]) (.inr (by decide)) ((H1.o).good hS);go_wp2_with fail
 refine bf.want (H1.o) hS [[61,62]] (by simp) (by simp) (by rw[e1];simp only[ak];omega) ?_;intro w2 H2;rw[e1] at H2;go_wp2_with fail
 refine bf.then (H2.o) (HE.o) trivial (by simp only[ak];omega) ?_;intro w3 H3;go_wp2_with fail
 go_end0;refine⟨rfl,?_⟩;simp only[aA] at H3;exact H3
end
end
section
variable{s:ByteArray}{L:List Tk}{dp rb B k:Nat}{fn:FuncId}{O:X.R}{w w1:World}{tv rv:Value}{ps1:List X.Part}{eF:List X.Tok}{D:Nat→Prop}{Q:Ending→World→Prop}
theorem Ka(hS:kJ s L)(hen:∀ args w,(callFunc fn args).run prog w=.ok (.enter fn args) w)(hO:Reads fn O (fun _=>True) s L dp)
  (rb:Nat) (tv:Value) (a B k:Nat) (rv:Value) (vs:List Value) (ps:List X.Part) (p:X.Part) (D:Nat→Prop) (w:World) (h:Wk w rb s L tv a dp B k rv vs (ps++[p]) D) (hn:X.iE (bn s L a)≠none) (hl:ps.length+1≤1073741824) (hl2:1+(X.andThen X.take O (bn s L a)).1.length≤1073741824) :
  Calls prog 168 #[.pointer (some ⟨rb,0,none⟩),.pointer (some ⟨B,0,none⟩),.func (.func fn) #[.pointer (some ⟨rb,0,none⟩)] #[]] w fun en w'=>en=.returned (.tuple #[])∧Hid (bf w rb s L tv dp B k rv (ps++[.br 10 ([p]++(X.andThen X.take O (bn s L a)).1)]) (X.andThen X.take O (bn s L a)).2 D w'):=by
 rw[X.dS] at hl2;have HH:=au h;have HO:=au hO;clear h hO;go_enter func168,ntmps168;go_wp2_with fail
 refine(G_ rb s L tv a dp B k rv vs ps p D w HH.o hl 10).mono ?_;rintro e w1 ⟨N,zi,v,rfl,H1⟩;have EA:=au (H1.o).1;have H2:=bf.start (H1.o).2;clear H1;go_wp2_with fail
 refine bf.then (H2.o) (jY s L dp hS) hn (by simp;omega) ?_;intro w3 H3;go_wp2_with fail
 refine bf.then (H3.o) (HO.o) trivial (by simp;omega) ?_;intro w4 H4;go_wp2_with fail
 go_end0;refine⟨rfl,?_⟩;rw[aA] at H4;exact(EA.o).close H4.o
theorem bf.binary{p:X.Part}(h:bf w rb s L tv dp B k rv (ps1++[p]) eF D w1)(hS:kJ s L)
  {fn:FuncId} (hen:∀ args w,(callFunc fn args).run prog w=.ok (.enter fn args) w) {O:X.R} (hO:Reads fn O (fun _=>True) s L dp) (hn:X.iE eF≠none) (hl:ps1.length+1≤1073741824) (hl2:1+(X.andThen X.take O eF).1.length≤1073741824)
  (hQ:∀ w2,Hid (bf w rb s L tv dp B k rv (ps1++[.br 10 ([p]++(X.andThen X.take O eF).1)]) (X.andThen X.take O eF).2 D w2)→Q (.returned (.tuple #[])) w2) :
  Calls prog 168 #[.pointer (some ⟨rb,0,none⟩),.pointer (some ⟨B,0,none⟩),.func (.func fn) #[.pointer (some ⟨rb,0,none⟩)] #[]] w1 Q:=by
 obtain⟨a1,oI,vs1,D1,g1,rfl,g3,g4,g5,g6⟩:=h;refine(Ka hS hen hO rb tv a1 B k oI vs1 ps1 p D1 w1 g1 hn hl hl2).mono ?_;rintro e w2 ⟨rfl,H2⟩;exact hQ w2 (bf.trans g3 g4 g5 g6 H2.o)
theorem bf.NI
  (h:bf w rb s L tv dp B k rv ps1 eF D w1) {c:Nat} {ss:List (ah)} (hs:qo w c ss) (hc:c≠rb∧c≠B∧rv.ownBlock≠some c)
  (hQ:∀ w2,Hid (bf w rb s L tv dp B k rv ps1 eF D w2)→Q (.returned (.bool (ss.any (fun x=>X.pN x eF)))) w2) :
  Calls prog 89 #[.pointer (some ⟨rb,0,none⟩),.slice (some ⟨c,0,none⟩) ss.length ss.length] w1 Q:=by
 obtain⟨a1,oI,vs1,D1,g1,rfl,g3,g4,g5,g6⟩:=h;have hs1:qo w1 c ss:=⟨fun i x hx=>g6.dY (hs.cells i x hx) (by
  rintro(e|e|e)
  ·exact hc.1 e
  ·exact hc.2.1 e
  ·exact hc.2.2 e),hs.len⟩
 refine(uN rb s L tv a1 dp _ g1.iF c ss hs1).mono ?_;rintro e w2 ⟨rfl,k2⟩;exact hQ w2 ⟨a1,oI,vs1,D1,g1.below k2,rfl,g3,g4,g5,Kp.trans g6 (Kp.aI k2 (fun _=>False)) (fun _ _ h=>h.elim)⟩
theorem V_(hS:kJ s L)(hen:∀ args w,(callFunc fn args).run prog w=.ok (.enter fn args) w)(hO:Reads fn O (fun _=>True) s L dp)(hsh:X.bR O)(h1:X.eY O)
  (ss:List (ah)) (ok:List X.Tok→Bool) (hok:∀ ts,X.Good ts→ss.any (fun x=>X.pN x ts)=ok ts) (hok2:∀ ts,ok ts=true→X.iE ts≠none)
  (rb:Nat) (tv:Value) (a B k:Nat) (rv:Value) (vs:List Value) (ps:List X.Part) (D:Nat→Prop) (w:World) (h:Wk w rb s L tv a dp B k rv vs ps D) (c:Nat) (hs:qo w c ss) (hc:c≠rb∧c≠B∧rv.ownBlock≠some c) (hl:ps.length+1≤1073741824) :
  Calls prog 183 #[.pointer (some ⟨rb,0,none⟩),.pointer (some ⟨B,0,none⟩),.func (.func fn) #[.pointer (some ⟨rb,0,none⟩)] #[],.slice (some ⟨c,0,none⟩) ss.length ss.length] w fun en w'=>en=.returned (.tuple #[])∧Hid (bf w rb s L tv dp B k rv (ps++(X.row O ok (bn s L a)).1) (X.row O ok (bn s L a)).2 D w'):=by
 have H:=bf.start h;have HO:=au hO;have HS:=au hs;have HC:=au hc;have hL:=hS.len;have YN:=h1.len (bn s L a);clear h hO hs hc;go_enter func183,ntmps183;go_wp2_with fail
 refine bf.then (H.o) (HO.o) trivial (by omega) ?_;intro w1 H1;obtain⟨p0,hp0⟩:=h1 (bn s L a);rw[hp0] at H1;go_wp2_with fail
 go_loopw [] (fun wr=>∃(p:X.Part) (eF:List X.Tok),Hid (bf w rb s L tv dp B k rv (ps++[p]) eF D wr)∧Hid (X.row O ok (bn s L a)=X.Az O ok [p] eF)) (fun wr=>L.length - V6 rb wr)
 case atStart=>exact⟨p0,_,H1,by show _=_;rw[X.SA,hp0]⟩
 case round =>
  obtain⟨p,eF,H3,HE⟩:=hrel;have hg1:=(H3.o).good hS;have hlen1:=(H3.o).len;go_wp2_with fail
  refine bf.NI (H3.o) (HS.o) (HC.o) ?_;intro w4 H4;rw[hok eF hg1];cases hc2:ok eF with
  | true =>
   have hn:=hok2 eF hc2;have hcap:=(X.Cap.take.andThen (h1.cap hsh)).le eF;go_wp2_with fail
   refine bf.binary (H4.o) hS hen (HO.o) hn hl (by omega) ?_;intro w5 H5;go_wp2_with fail
   refine⟨⟨_,_,H5,?_⟩,?_⟩
   ·show _=_
    rw[HE.o,X.wz hsh hok2 hc2]
   ·rw[(H5.o).at,(H3.o).at]
    have:=X.fD hn;have:=hsh.le (X.take eF).2;show(O (X.take eF).2).2.length<_;omega
  | false =>
   have hx:X.row O ok (bn s L a)=([p],eF):=by rw[HE.o,X.wF hc2]
   go_wp2_with fail
   go_end0;refine⟨rfl,?_⟩;rw[hx];exact H4
theorem bf.row{w w1:World}{rb:Nat}{s:ByteArray}{L:List Tk}{tv:Value}{dp B k:Nat}{rv:Value}{ps1:List X.Part}{eF:List X.Tok}{D:Nat→Prop}{Q:Ending→World→Prop}(h:bf w rb s L tv dp B k rv ps1 eF D w1)(hS:kJ s L)
  {fn:FuncId} (hen:∀ args w,(callFunc fn args).run prog w=.ok (.enter fn args) w) {O:X.R} (hO:Reads fn O (fun _=>True) s L dp) (hsh:X.bR O) (h1:X.eY O)
  (ss:List (ah)) (hl1:ss.length≤1073741824) (ok:List X.Tok→Bool) (hok:∀ ts,X.Good ts→ss.any (fun x=>X.pN x ts)=ok ts) (hok2:∀ ts,ok ts=true→X.iE ts≠none) (hl:ps1.length+1≤1073741824)
  (hQ:∀ w2,Hid (bf w rb s L tv dp B k rv (ps1++(X.row O ok eF).1) (X.row O ok eF).2 D w2)→Q (.returned (.tuple #[])) w2) :
  Calls prog 183 #[.pointer (some ⟨rb,0,none⟩),.pointer (some ⟨B,0,none⟩),.func (.func fn) #[.pointer (some ⟨rb,0,none⟩)] #[],.slice (some ⟨w1.heap.size,0,none⟩) ss.length ss.length] (w1.alloc (Obj.cells (He ss) 9)) Q:=by
 obtain⟨a1,oI,vs1,D1,g1,rfl,g3,g4,g5,g6⟩:=h;have kA:Below w1.heap.size w1 (w1.alloc (Obj.cells (He ss) 9)):=(ay _ w1).alloc (aj _) _;have hbl:=g1.r_.lt;have hrl:=g1.iF.raw.lt;refine(V_ hS hen hO hsh h1 ss ok hok hok2 rb tv a1 B k oI vs1 ps1 D1 _ (g1.below kA) w1.heap.size (uO w1 ss hl1) ⟨by omega,by omega,fun e=>by have:=(dV g1.r_.row _ e).2;omega⟩ hl).mono ?_;rintro e w2 ⟨rfl,H2⟩;exact hQ w2 (bf.trans g3 g4 g5 (Kp.trans g6 (Kp.aI kA (fun _=>False)) (fun _ _ h=>h.elim)) H2.o)
end
section
variable{w w1:World}{rb B k:Nat}{tv rv:Value}{ps1:List X.Part}{eF:List X.Tok}{D:Nat→Prop}{Q:Ending→World→Prop}
def OpD(w:World)(rb:Nat)(s:ByteArray)(L:List Tk)(tv:Value)(dp B k:Nat)(rv:Value)(ps0:List X.Part)(eF:List X.Tok)(D:Nat→Prop)(kd N:Nat)(bH8:List X.Part)(w2:World):Prop :=
 ∃(D1:Nat→Prop) (zi:Value),bf w2 rb s L tv dp N kd zi bH8 eF D1 w2∧∀ V5 ts' w4 ZC,bf w2 rb s L tv ZC N kd zi V5 ts' D1 w4→bf w rb s L tv ZC B k rv (ps0++[.br kd V5]) ts' D w4
theorem bf.grow{s:ByteArray}{L:List Tk}{dp:Nat}(h:bf w rb s L tv dp B k rv ps1 eF D w1)(hl:ps1.length≤1073741824)(kd:Nat)
  (hQ:∀ N w2,Hid (OpD w rb s L tv dp B k rv ps1 eF D kd N [] w2)→Q (.returned (.pointer (some ⟨N,0,none⟩))) w2) :
  Calls prog 145 #[.pointer (some ⟨B,0,none⟩),.int .i64 kd] w1 Q:=by
 obtain⟨a1,oI,vs1,D1,g1,rfl,g3,g4,g5,g6⟩:=h;refine(Ay rb s L tv a1 dp B k oI vs1 ps1 D1 w1 g1 hl kd).mono ?_;rintro e w2 ⟨rfl,H2⟩;exact hQ _ w2 ⟨D1,_,bf.refl (H2.o).2,fun V5 ts' w4 ZC hd=>bf.trans g3 g4 g5 g6 ((H2.o).1.close hd)⟩
theorem bf.wrap{s:ByteArray}{L:List Tk}{dp:Nat}{p:X.Part}(h:bf w rb s L tv dp B k rv (ps1++[p]) eF D w1)(hl:ps1.length+1≤1073741824)(kd:Nat)
  (hQ:∀ N w2,Hid (OpD w rb s L tv dp B k rv ps1 eF D kd N [p] w2)→Q (.returned (.pointer (some ⟨N,0,none⟩))) w2) :
  Calls prog 185 #[.pointer (some ⟨B,0,none⟩),.int .i64 kd] w1 Q:=by
 obtain⟨a1,oI,vs1,D1,g1,rfl,g3,g4,g5,g6⟩:=h;refine(G_ rb s L tv a1 dp B k oI vs1 ps1 p D1 w1 g1 hl kd).mono ?_;rintro e w2 ⟨N,zi,v,rfl,H2⟩;exact hQ N w2 ⟨D1,zi,bf.refl (H2.o).2,fun V5 ts' w4 ZC hd=>bf.trans g3 g4 g5 g6 ((H2.o).1.close hd)⟩
theorem bf.nest{s:ByteArray}{L:List Tk}{dp:Nat}(h:bf w rb s L tv dp B k rv ps1 eF D w1)(hS:kJ s L)(hdp:dp≤1000)
  {fn:FuncId} (hen:∀ args w,(callFunc fn args).run prog w=.ok (.enter fn args) w) {I:X.R} (hI:Reads fn I (fun _=>True) s L (dp+1)) (hn:X.iE eF≠none) (kd:Nat) (hl:ps1.length+1≤1073741824) (hl2:(X.andThen X.take I eF).1.length≤1073741824)
  (hQ:∀ w2,Hid (bf w rb s L tv dp B k rv (ps1++(X.node kd (X.andThen X.take I) eF).1) (X.node kd (X.andThen X.take I) eF).2 D w2)→Q (.returned (.tuple #[])) w2) :
  Calls prog 148 #[.pointer (some ⟨rb,0,none⟩),.pointer (some ⟨B,0,none⟩),.int .i64 kd,.func (.func fn) #[.pointer (some ⟨rb,0,none⟩)] #[]] w1 Q:=by
 obtain⟨a1,oI,vs1,D1,g1,rfl,g3,g4,g5,g6⟩:=h;refine(Sy s L dp hS hdp fn hen I hI rb tv a1 B k oI vs1 ps1 D1 w1 g1 hn kd hl hl2).mono ?_;rintro e w2 ⟨rfl,H2⟩;exact hQ w2 (bf.trans g3 g4 g5 g6 H2.o)
theorem bf.lack{s:ByteArray}{L:List Tk}{dp:Nat}(h:bf w rb s L tv dp B k rv ps1 eF D w1)(m:ah)(hl:ps1.length≤1073741824)
  (hQ:∀ w2,Hid (bf w rb s L tv dp B k rv (ps1++[.miss m]) eF D w2)→Q (.returned (.tuple #[])) w2) :
  Calls prog 34 #[.pointer (some ⟨B,0,none⟩),.iface 326 (.string (ba m))] w1 Q:=by
 obtain⟨a1,oI,vs1,D1,g1,rfl,g3,g4,g5,g6⟩:=h;refine(wh B k oI vs1 326 (.string (ba m)) w1 g1.r_ (fun g hg=>(g1.nD g hg).2.2) (by rw[g1.len];exact hl)).mono ?_;rintro e w2 ⟨rfl,NC,b2,o2,k2⟩;refine hQ w2 (bf.trans g3 g4 g5 g6 ⟨a1,NC,_,D1,g1.added b2 o2 k2 (uq.miss m),rfl,fun _=>id,fun q hq=>.inl hq,o2,Kp.mono k2 (fun i _ e=>.inr e)⟩)
theorem bf.kind{s:ByteArray}{L:List Tk}{dp:Nat}(h:bf w rb s L tv dp B k rv ps1 eF D w1):w1.cell? ⟨rb,4,none⟩=some (.int .i64 (X.bJ eF))∧w1.cell? ⟨rb,6,none⟩=some (.int .i64 dp):=by
 obtain⟨a1,oI,vs1,D1,g1,rfl,-⟩:=h;obtain⟨⟨c0,c1,c2,c3,c4,c5,c6⟩,-⟩:=g1.iF.raw.facts;exact⟨c4,c6⟩
theorem Wh:∀ args w,(callFunc 197 args).run prog w=.ok (.enter 197 args) w:=enters_of func197 (by kernel_rfl) rfl
theorem Wi:∀ args w,(callFunc 199 args).run prog w=.ok (.enter 199 args) w:=enters_of func199 (by kernel_rfl) rfl
theorem SI:∀ args w,(callFunc 198 args).run prog w=.ok (.enter 198 args) w:=enters_of func198 (by kernel_rfl) rfl
section
variable{s:ByteArray}{L:List Tk}{dp:Nat}(hS:kJ s L)(hdp:dp≤1000){E:X.R}(hE:Reads 118 E (fun _=>True) s L (dp+1))(hsh:X.bR E)(h1:X.eY E)
include hS hdp hE hsh h1
theorem SK:Reads 196 (X.part E) (fun _=>True) s L dp:=by
 intro rb tv a B k rv vs ps D w h _ hl;have hl0:ps.length+1≤1073741824:=by rw[(X.eY.part E).len] at hl;exact hl
 have H:=bf.start h;have hg:=hS.rem a;have HG:=au (NH hS hE);have HL:=au (SH hS hE hsh);have hlen:=(H.o).len;have hL:=hS.len;have cT:=X.Cap.take.le (bn s L a);have cG:=(X.Cap.take.andThen ((h1.cap hsh).andThen (X.Cap.want [41]))).le (bn s L a);have cL:=(X.Cap.take.andThen ((h1.cap hsh).bO [93])).le (bn s L a);obtain⟨c4,c6⟩:=(H.o).kind;clear h hl hE;generalize hts:bn s L a=ts at *;have HP:Hid (X.part E ts=if X.bJ ts==5 then X.node 15 X.take ts else if X.bJ ts==6 then X.node 16 X.take ts else if X.bX [116,114,117,101] ts||X.bX [102,97,108,115,101] ts then X.node 17 X.take ts
  else if X.bJ ts==3 then X.node 18 X.take ts else if X.bX [63] ts then X.node 19 X.take ts else if X.bX [40] ts then X.node 14 (X.andThen X.take (X.andThen E (X.want [41]))) ts else if X.bX [91] ts then X.node 13 (X.andThen X.take (X.bO E [93])) ts else([.miss X.lU],ts)):=(rfl:_=_)
 have kI:∀ n:Nat,((X.bJ ts:Int)==(n:Int))=(X.bJ ts==n):=fun n=>by rw[iD];simp;omega
 have i5:((X.bJ ts:Int)==5)=(X.bJ ts==5):=kI 5;have i6:((X.bJ ts:Int)==6)=(X.bJ ts==6):=kI 6;clear kI;generalize X.part E ts=PE at *;go_enter func196,ntmps196;cases h5:(X.bJ ts==5) with
 | true =>
  rw[h5] at i5;go_wp2_with fail
  refine bf.grow (H.o) (by omega) 15 ?_;intro N w2 EA;obtain⟨D1,zi,hst,hcl⟩:=EA.o;have HST:=au hst;have BX:=au hcl;clear hst hcl EA;go_wp2_with fail
  refine bf.then (HST.o) (jY s L dp hS) (X.gq (by decide) h5) (by simp;omega) ?_;intro w3 H3;have HF:=au ((BX.o) _ _ _ _ H3.o);clear HST BX H3;go_wp2_with fail
  go_end0;refine⟨rfl,?_⟩;have hp:=HP.o;rw[h5,aL rfl] at hp;rw[hp];exact HF
 | false =>
  rw[h5] at i5;cases h6:(X.bJ ts==6) with
  | true =>
   rw[h6] at i6;go_wp2_with fail
   refine bf.grow (H.o) (by omega) 16 ?_;intro N w2 EA;obtain⟨D1,zi,hst,hcl⟩:=EA.o;have HST:=au hst;have BX:=au hcl;clear hst hcl EA;go_wp2_with fail
   refine bf.then (HST.o) (jY s L dp hS) (X.gq (by decide) h6) (by simp;omega) ?_;intro w3 H3;have HF:=au ((BX.o) _ _ _ _ H3.o);clear HST BX H3;go_wp2_with fail
   go_end0;refine⟨rfl,?_⟩;have hp:=HP.o;rw[h5,aG (by simp),h6,aL rfl] at hp;rw[hp];exact HF
  | false =>
   rw[h6] at i6;go_wp2_with fail
   have eA:[[116,114,117,101],[102,97,108,115,101]].any (fun x=>X.pN x ts)=(X.bX [116,114,117,101] ts||X.bX [102,97,108,115,101] ts):=by simp[X.fI hg (.inl (by decide:[116,114,117,101]∈words)),X.fI hg (.inl (by decide:[102,97,108,115,101]∈words))]
   refine bf.jv (H.o) [[116,114,117,101],[102,97,108,115,101]] (by simp) ?_;intro wA HA;rw[eA];clear eA c4 c6 H i5 i6;cases hA:(X.bX [116,114,117,101] ts||X.bX [102,97,108,115,101] ts) with
   | true =>
    go_wp2_with fail
    refine bf.grow (HA.o) (by omega) 17 ?_;intro N w2 EA;obtain⟨D1,zi,hst,hcl⟩:=EA.o;have HST:=au hst;have BX:=au hcl;clear hst hcl EA;go_wp2_with fail
    refine bf.then (HST.o) (jY s L dp hS) (by rcases iy.1 hA with g|g<;>exact X.aZ g) (by simp;omega) ?_;intro w3 H3;have HF:=au ((BX.o) _ _ _ _ H3.o);clear HST BX H3;go_wp2_with fail
    go_end0;refine⟨rfl,?_⟩;have hp:=HP.o;rw[h5,aG (by simp),h6,aG (by simp),hA,aL rfl] at hp;rw[hp];exact HF
   | false =>
    go_wp2_with fail
    have eB:[X.fF].any (fun x=>X.pN x ts)=(X.bJ ts==3):=by simp[X.LA hg]
    refine bf.jv (HA.o) [X.fF] (by simp) ?_;intro wB HB;rw[eB];clear eB HA;cases hB:(X.bJ ts==3) with
    | true =>
     go_wp2_with fail
     refine bf.grow (HB.o) (by omega) 18 ?_;intro N w2 EA;obtain⟨D1,zi,hst,hcl⟩:=EA.o;have HST:=au hst;have BX:=au hcl;clear hst hcl EA;go_wp2_with fail
     refine bf.then (HST.o) (jY s L dp hS) (X.gq (by decide) hB) (by simp;omega) ?_;intro w3 H3;have HF:=au ((BX.o) _ _ _ _ H3.o);clear HST BX H3;go_wp2_with fail
     go_end0;refine⟨rfl,?_⟩;have hp:=HP.o;rw[h5,aG (by simp),h6,aG (by simp),hA,aG (by simp),hB,aL rfl] at hp;rw[hp];exact HF
    | false =>
     go_wp2_with fail
     have eC:[[63]].any (fun x=>X.pN x ts)=X.bX [63] ts:=by simp[X.fI hg (.inr (by decide:[63]∈X.signs))]
     refine bf.jv (HB.o) [[63]] (by simp) ?_;intro wC HC;rw[eC];clear eC HB;cases hC:X.bX [63] ts with
     | true =>
      go_wp2_with fail
      refine bf.grow (HC.o) (by omega) 19 ?_;intro N w2 EA;obtain⟨D1,zi,hst,hcl⟩:=EA.o;have HST:=au hst;have BX:=au hcl;clear hst hcl EA;go_wp2_with fail
      refine bf.then (HST.o) (jY s L dp hS) (X.aZ hC) (by simp;omega) ?_;intro w3 H3;have HF:=au ((BX.o) _ _ _ _ H3.o);clear HST BX H3;go_wp2_with fail
      go_end0;refine⟨rfl,?_⟩;have hp:=HP.o;rw[h5,aG (by simp),h6,aG (by simp),hA,aG (by simp),hB,aG (by simp),hC,aL rfl] at hp;rw[hp];exact HF
     | false =>
      go_wp2_with fail
      have eD:[[40]].any (fun x=>X.pN x ts)=X.bX [40] ts:=by simp[X.fI hg (.inr (by decide:[40]∈X.signs))]
      refine bf.jv (HC.o) [[40]] (by simp) ?_;intro wD HD;rw[eD];clear eD HC;cases hD:X.bX [40] ts with
      | true =>
       go_wp2_with fail
       refine bf.nest (HD.o) hS hdp SI (HG.o) (X.aZ hD) 14 hl0 (by omega) ?_;intro w3 HF;clear HD;go_wp2_with fail
       go_end0;refine⟨rfl,?_⟩;have hp:=HP.o;rw[h5,aG (by simp),h6,aG (by simp),hA,aG (by simp),hB,aG (by simp),hC,aG (by simp),hD,aL rfl] at hp;rw[hp];exact HF
      | false =>
       go_wp2_with fail
       have eE:[[91]].any (fun x=>X.pN x ts)=X.bX [91] ts:=by simp[X.fI hg (.inr (by decide:[91]∈X.signs))]
       refine bf.jv (HD.o) [[91]] (by simp) ?_;intro wE HE;rw[eE];clear eE HD;cases hE:X.bX [91] ts with
       | true =>
        go_wp2_with fail
        refine bf.nest (HE.o) hS hdp Wi (HL.o) (X.aZ hE) 13 hl0 (by omega) ?_;intro w3 HF;clear HE;go_wp2_with fail
        go_end0;refine⟨rfl,?_⟩;have hp:=HP.o;rw[h5,aG (by simp),h6,aG (by simp),hA,aG (by simp),hB,aG (by simp),hC,aG (by simp),hD,aG (by simp),hE,aL rfl] at hp;rw[hp];exact HF
       | false =>
        go_wp2_with fail
        refine bf.lack (HE.o) X.lU (by omega) ?_;intro w3 HF;clear HE;go_wp2_with fail
        go_end0;refine⟨rfl,?_⟩;have hp:=HP.o;rw[h5,aG (by simp),h6,aG (by simp),hA,aG (by simp),hB,aG (by simp),hC,aG (by simp),hD,aG (by simp),hE,aG (by simp)] at hp;rw[hp];exact HF
end
end
section
theorem Wj:∀ args w,(callFunc 192 args).run prog w=.ok (.enter 192 args) w:=enters_of func192 (by kernel_rfl) rfl
theorem Kb:∀ args w,(callFunc 184 args).run prog w=.ok (.enter 184 args) w:=enters_of func184 (by kernel_rfl) rfl
theorem ZE:∀ args w,(callFunc 167 args).run prog w=.ok (.enter 167 args) w:=enters_of func167 (by kernel_rfl) rfl
theorem ZF:∀ args w,(callFunc 149 args).run prog w=.ok (.enter 149 args) w:=enters_of func149 (by kernel_rfl) rfl
theorem NJ:∀ args w,(callFunc 150 args).run prog w=.ok (.enter 150 args) w:=enters_of func150 (by kernel_rfl) rfl
theorem ZG:∀ args w,(callFunc 151 args).run prog w=.ok (.enter 151 args) w:=enters_of func151 (by kernel_rfl) rfl
section
variable{s:ByteArray}{L:List Tk}{dp:Nat}(hS:kJ s L)(hdp:dp≤1000){E:X.R}(hE:Reads 118 E (fun _=>True) s L (dp+1))(hsh:X.bR E)(h1:X.eY E)
include hS hdp hE hsh h1
theorem SL:Reads 192 (X.call E) (fun _=>True) s L dp:=by
 intro rb tv a B k rv vs ps D w h _ hl;have hl0:ps.length+1≤1073741824:=by rw[(X.eY.call E).len] at hl;exact hl
 have H:=bf.start h;have HP:=au (SK hS hdp hE hsh h1);have HA:=au (SG hS hE hsh);have hL:=hS.len;have YN:=(X.eY.part E).len (bn s L a);obtain⟨p0,hp0⟩:=X.eY.part E (bn s L a);have Du:Hid (X.call E (bn s L a)=X.rV E [p0] (X.part E (bn s L a)).2):=by
  show X.dW E _ _ _=_;rw[hp0];rfl
 clear h hl hE;generalize X.call E (bn s L a)=CE at *;go_enter func192,ntmps192;go_wp2_with fail
 refine bf.then (H.o) (HP.o) trivial (by omega) ?_;intro w1 H1;rw[hp0] at H1;go_wp2_with fail
 go_loopw [] (fun wr=>∃(p:X.Part) (eF:List X.Tok),Hid (bf w rb s L tv dp B k rv (ps++[p]) eF D wr)∧Hid (CE=X.rV E [p] eF)) (fun wr=>L.length - V6 rb wr)
 case atStart=>exact⟨p0,_,H1,Du⟩
 case round =>
  obtain⟨p,eF,H3,HE⟩:=hrel;have hg1:=(H3.o).good hS;have hlen1:=(H3.o).len;have eA:[[40]].any (fun x=>X.pN x eF)=X.bX [40] eF:=by simp[X.fI hg1 (.inr (by decide:[40]∈X.signs))]
  go_wp2_with fail
  refine bf.jv (H3.o) [[40]] (by simp) ?_;intro w4 H4;rw[eA];cases hc2:X.bX [40] eF with
  | true =>
   have hn:=X.aZ hc2;have hcap:=(X.Cap.take.andThen ((h1.cap hsh).bO [41])).le eF;go_wp2_with fail
   refine bf.wrap (H4.o) hl0 11 ?_;intro N w5 EA;obtain⟨D1,zi,hst,hcl⟩:=EA.o;have HST:=au hst;have BX:=au hcl;clear hst hcl EA;go_wp2_with fail
   refine bf.nest (HST.o) hS hdp Wh (HA.o) hn 12 (by simp) (by omega) ?_;intro w6 H6;have HF:=au ((BX.o) _ _ _ _ H6.o);go_wp2_with fail
   refine⟨⟨_,_,HF,?_⟩,?_⟩
   ·show _=_
    rw[HE.o,X.ug hsh hc2];rfl
   ·rw[(HF.o).at,(H3.o).at]
    exact X.wG hsh hn
  | false =>
   have hx:CE=([p],eF):=by rw[HE.o,X.tJ hc2]
   go_wp2_with fail
   go_end0;refine⟨rfl,?_⟩;rw[hx];exact H4
theorem Hl:Reads 184 (X.product E) (fun _=>True) s L dp:=by
 intro rb tv a B k rv vs ps D w h _ hl;have hl0:ps.length+1≤1073741824:=by rw[(X.eY.product E).len] at hl;exact hl
 have H:=bf.start h;have HC:=au (SL hS hdp hE hsh h1);clear h hl hE;go_enter func184,ntmps184;go_wp2_with fail
 refine bf.row (H.o) hS Wj (HC.o) hsh.call (X.eY.call E) [[42]] (by simp) (X.bX [42]) (fun ts hg=>by simp[X.fI hg (.inr (by decide:[42]∈X.signs))]) (fun ts h=>X.aZ h) hl0 ?_;intro w1 H1;go_wp2_with fail
 go_end0;exact⟨rfl,H1⟩
theorem Wl:Reads 167 (X.sum E) (fun _=>True) s L dp:=by
 intro rb tv a B k rv vs ps D w h _ hl;have hl0:ps.length+1≤1073741824:=by rw[(X.eY.sum E).len] at hl;exact hl
 have H:=bf.start h;have HC:=au (Hl hS hdp hE hsh h1);clear h hl hE;go_enter func167,ntmps167;go_wp2_with fail
 refine bf.row (H.o) hS Kb (HC.o) hsh.product (X.eY.product E) [[43],[45],[43,43]] (by simp) (fun ts=>X.bX [43] ts||X.bX [45] ts||X.bX [43,43] ts) (fun ts hg=>by simp[X.fI hg (.inr (by decide:[43]∈X.signs)),X.fI hg (.inr (by decide:[45]∈X.signs)),X.fI hg (.inr (by decide:[43,43]∈X.signs)),Bool.or_assoc]) (fun ts h=>by
  rcases iy.1 h with g|g
  ·rcases iy.1 g with g|g<;>exact X.aZ g
  ·exact X.aZ g) hl0 ?_
 intro w1 H1;go_wp2_with fail
 go_end0;exact⟨rfl,H1⟩
theorem AB:Reads 152 (X.comparison E) (fun _=>True) s L dp:=by
 intro rb tv a B k rv vs ps D w h _ hl;have hl0:ps.length+1≤1073741824:=by rw[(X.eY.comparison E).len] at hl;exact hl
 have H:=bf.start h;have HC:=au (Wl hS hdp hE hsh h1);have hL:=hS.len;have YN:=(X.eY.sum E).len (bn s L a);obtain⟨p0,hp0⟩:=X.eY.sum E (bn s L a);have HX:Hid (X.comparison E (bn s L a)=if X.bX [61,61] (X.sum E (bn s L a)).2||X.bX [60] (X.sum E (bn s L a)).2 then([.br 10 ((X.sum E (bn s L a)).1++(X.andThen X.take (X.sum E) (X.sum E (bn s L a)).2).1)],(X.andThen X.take (X.sum E) (X.sum E (bn s L a)).2).2) else X.sum E (bn s L a)):=(rfl:_=_);have hcp:X.Cap (X.sum E) 1:=(X.eY.sum E).cap hsh.sum;clear h hl hE;generalize X.comparison E (bn s L a)=CE at *;generalize X.sum E=SE at *;go_enter func152,ntmps152;go_wp2_with fail
 refine bf.then (H.o) (HC.o) trivial (by omega) ?_;intro w1 H1;rw[hp0] at H1;have hg1:=(H1.o).good hS;have hlen1:=(H1.o).len;have hcap:=(X.Cap.take.andThen hcp).le (SE (bn s L a)).2;have eA:[[61,61],[60]].any (fun x=>X.pN x (SE (bn s L a)).2)=(X.bX [61,61] (SE (bn s L a)).2||X.bX [60] (SE (bn s L a)).2):=by simp[X.fI hg1 (.inr (by decide:[61,61]∈X.signs)),X.fI hg1 (.inr (by decide:[60]∈X.signs))]
 go_wp2_with fail
 refine bf.jv (H1.o) [[61,61],[60]] (by simp) ?_;intro w2 H2;rw[eA];cases hc:(X.bX [61,61] (SE (bn s L a)).2||X.bX [60] (SE (bn s L a)).2) with
 | true =>
  go_wp2_with fail
  refine bf.binary (H2.o) hS ZE (HC.o) (by rcases iy.1 hc with g|g<;>exact X.aZ g) hl0 (by omega) ?_;intro w3 H3;go_wp2_with fail
  go_end0;refine⟨rfl,?_⟩;have hp:=HX.o;rw[hc,aL rfl] at hp;rw[hp,hp0];exact H3
 | false =>
  go_wp2_with fail
  go_end0;refine⟨rfl,?_⟩;have hp:=HX.o;rw[hc,aG (by simp)] at hp;rw[hp,hp0];exact H2
end
theorem AJ{s:ByteArray}{L:List Tk}(hS:kJ s L):∀(n dp:Nat),dp+n=65→Reads 118 (X.expr n) (fun _=>True) s L dp:=by
 intro n
 induction n with
 | zero =>
  intro dp hd rb tv a B k rv vs ps D w h _ hl;have H:=bf.start h;obtain⟨c4,c6⟩:=(H.o).kind;have i1:decide ((dp:Int)>64)=true:=by simp;omega
  have i2:decide (64<dp)=true:=by simp;omega
  have hl0:ps.length+1≤1073741824:=hl;clear h hl;go_enter func118,ntmps118;go_wp2_with fail
  refine bf.lack (H.o) X.lU (by omega) ?_;intro w1 H1;go_wp2_with fail
  go_end0;exact⟨rfl,H1⟩
 | succ n ih =>
  intro dp hd rb tv a B k rv vs ps D w h _ hl;have hl0:ps.length+1≤1073741824:=by rw[(X.eY.expr (n+1)).len] at hl;exact hl
  have hE:=ih (dp+1) (by omega);have hsh:=X.bR.expr n;have h1:=X.eY.expr n;have hdp:dp≤1000:=by omega
  have H:=bf.start h;have hg:=hS.rem a;have HLt:=au (V8 hS hE);have HCh:=au (J_ hS hE);have HFn:=au (V9 hS hE);have HCp:=au (AB hS hdp hE hsh h1);have hlen:=(H.o).len;have hL:=hS.len;have c1:=(X.Cap.take.andThen (X.Cap.aV.andThen ((X.Cap.want [61]).andThen ((h1.cap hsh).andThen ((X.Cap.want [105,110]).andThen (h1.cap hsh)))))).le (bn s L a);have c2:=(X.Cap.take.andThen ((h1.cap hsh).andThen ((X.Cap.want [116,104,101,110]).andThen ((h1.cap hsh).andThen ((X.Cap.want [101,108,115,101]).andThen (h1.cap hsh)))))).le (bn s L a);have c3:=(X.Cap.take.andThen (((show X.Cap X.params 1 from X.eY.cap (X.eY.node _ 6) X.bR.params)).andThen ((X.Cap.want [61,62]).andThen (h1.cap hsh)))).le (bn s L a);have c5:=(X.eY.comparison (X.expr n)).len (bn s L a);obtain⟨c4,c6⟩:=(H.o).kind;have i1:decide ((dp:Int)>64)=false:=by simp;omega
  have i2:decide (64<dp)=false:=by simp;omega
  have HX:Hid (X.expr (n+1) (bn s L a)=if X.bX [108,101,116] (bn s L a) then X.node 7 (X.andThen X.take (X.andThen X.aV (X.andThen (X.want [61]) (X.andThen (X.expr n) (X.andThen (X.want [105,110]) (X.expr n)))))) (bn s L a)
   else if X.bX [105,102] (bn s L a) then X.node 8 (X.andThen X.take (X.andThen (X.expr n) (X.andThen (X.want [116,104,101,110]) (X.andThen (X.expr n) (X.andThen (X.want [101,108,115,101]) (X.expr n)))))) (bn s L a)
   else if X.bX [102,117,110] (bn s L a) then X.node 9 (X.andThen X.take (X.andThen X.params (X.andThen (X.want [61,62]) (X.expr n)))) (bn s L a)
   else X.comparison (X.expr n) (bn s L a)):=(rfl:_=_)
  clear h hl hE ih hd;generalize X.expr (n+1) (bn s L a)=CE at *;generalize X.expr n=E at *;have eA:[[108,101,116]].any (fun x=>X.pN x (bn s L a))=X.bX [108,101,116] (bn s L a):=by simp[X.fI hg (.inl (by decide:[108,101,116]∈words))]
  have eB:[[105,102]].any (fun x=>X.pN x (bn s L a))=X.bX [105,102] (bn s L a):=by simp[X.fI hg (.inl (by decide:[105,102]∈words))]
  have eC:[[102,117,110]].any (fun x=>X.pN x (bn s L a))=X.bX [102,117,110] (bn s L a):=by simp[X.fI hg (.inl (by decide:[102,117,110]∈words))]
  generalize bn s L a=ts at *;go_enter func118,ntmps118;go_wp2_with fail
  refine bf.jv (H.o) [[108,101,116]] (by simp) ?_;intro wA HA;rw[eA];clear eA c4 c6 H i1 i2;cases hA:X.bX [108,101,116] ts with
  | true =>
   go_wp2_with fail
   refine bf.nest (HA.o) hS hdp ZF (HLt.o) (X.aZ hA) 7 hl0 (by omega) ?_;intro w1 H1;go_wp2_with fail
   go_end0;refine⟨rfl,?_⟩;have hp:=HX.o;rw[hA,aL rfl] at hp;rw[hp];exact H1
  | false =>
   go_wp2_with fail
   refine bf.jv (HA.o) [[105,102]] (by simp) ?_;intro wB HB;rw[eB];clear eB HA;cases hB:X.bX [105,102] ts with
   | true =>
    go_wp2_with fail
    refine bf.nest (HB.o) hS hdp NJ (HCh.o) (X.aZ hB) 8 hl0 (by omega) ?_;intro w1 H1;go_wp2_with fail
    go_end0;refine⟨rfl,?_⟩;have hp:=HX.o;rw[hA,aG (by simp),hB,aL rfl] at hp;rw[hp];exact H1
   | false =>
    go_wp2_with fail
    refine bf.jv (HB.o) [[102,117,110]] (by simp) ?_;intro wC HC;rw[eC];clear eC HB;cases hC:X.bX [102,117,110] ts with
    | true =>
     go_wp2_with fail
     refine bf.nest (HC.o) hS hdp ZG (HFn.o) (X.aZ hC) 9 hl0 (by omega) ?_;intro w1 H1;go_wp2_with fail
     go_end0;refine⟨rfl,?_⟩;have hp:=HX.o;rw[hA,aG (by simp),hB,aG (by simp),hC,aL rfl] at hp;rw[hp];exact H1
    | false =>
     go_wp2_with fail
     refine bf.then (HC.o) (HCp.o) trivial (by omega) ?_;intro w1 H1;go_wp2_with fail
     go_end0;refine⟨rfl,?_⟩;have hp:=HX.o;rw[hA,aG (by simp),hB,aG (by simp),hC,aG (by simp)] at hp;rw[hp];exact H1
end
section
variable{w w1:World}{rb dp B k:Nat}{s:ByteArray}{L:List Tk}{tv rv:Value}{ps1:List X.Part}{eF:List X.Tok}{D:Nat→Prop}{Q:Ending→World→Prop}
namespace X
theorem bR.bW:bR bW:=bR.ite (c:=bX jN) bR.take bR.nil
theorem bR.jr:bR jr:=(bR.want _).andThen (bR.aV.andThen ((bR.ite (c:=bX [40]) bR.params bR.nil).andThen ((bR.want _).andThen ((bR.expr 65).andThen (bR.want _)))))
theorem bR.jA:bR jA:=(bR.want _).andThen (bR.aV.andThen ((bR.want _).andThen (bR.aV.andThen ((bR.ite (c:=bX [97,115]) (bR.take.andThen bR.aV) bR.nil).andThen (bR.want _)))))
theorem Cap.jA:Cap jA 6:=((Cap.want _).andThen (Cap.aV.andThen ((Cap.want _).andThen (Cap.aV.andThen ((Cap.ite (b:=bX [97,115]) (c:=1) (Cap.take.andThen Cap.aV) (Cap.nil.mono (by omega))).andThen (Cap.want _)))))).mono (by omega)
theorem Cap.params:Cap params 1:=eY.cap (eY.node _ 6) bR.params
theorem Cap.jr:Cap jr 6:=((Cap.want _).andThen (Cap.aV.andThen ((Cap.ite (b:=bX [40]) (c:=1) Cap.params (Cap.nil.mono (by omega))).andThen ((Cap.want _).andThen (((eY.expr 65).cap (bR.expr 65)).andThen (Cap.want _)))))).mono (by omega)
theorem Cap.bW:Cap bW 0:=Cap.ite (b:=bX jN) Cap.take Cap.nil
theorem jI{ts:List Tok}(h:(bJ ts==0)=false):iE ts≠none:=by
 intro e;unfold bJ at h;rw[e] at h;simp at h
theorem Ho:∀(n:Nat) (ts:List Tok),ts.length≤n→fM n ts=fM ts.length ts:=by
 intro n
 induction n using Nat.strongRecOn with
 | _ n ih =>
  intro ts h;rcases bE ts.length n with hlt|hge
  ·cases n with
   | zero=>omega
   | succ n =>
    cases hm:ts.length with
    | zero =>
     have h0:ts=[]:=aT.1 hm;subst h0;rfl
    | succ m =>
     unfold fM;by_cases hc:(bJ ts==0||starts ts)=true
     ·rw[aL hc,aL hc]
     ·rw[aG hc,aG hc]
      have hk:(bJ ts==0)=false:=by
       cases hq:(bJ ts==0) with
       | true=>rw[hq] at hc;simp at hc
       | false=>rfl
      have hl:=fD (jI hk)
      split
      ·rfl
      ·have e1:=ih n (by omega) (take ts).2 (by omega)
       have e2:=ih m (by omega) (take ts).2 (by omega);simp only[X.andThen];rw[e1,e2]
  ·rw[show n=ts.length by omega]
def fV:R:=fun ts=>fM ts.length ts
theorem qO{ts:List Tok}(h:(bJ ts==0||starts ts)=true):fV ts=([],ts):=by
 unfold fV;cases ts.length with
 | zero=>rfl
 | succ m=>unfold fM;rw[aL h]
theorem nG{ts:List Tok}(h:(bJ ts==0||starts ts)=false):fV ts=if bX [59] ts then take ts else andThen take fV ts:=by
 have hk:(bJ ts==0)=false:=by
  cases hq:(bJ ts==0) with
  | true=>rw[hq] at h;simp at h
  | false=>rfl
 have hl:=fD (jI hk);unfold fV;obtain⟨m,hm⟩:∃ m,ts.length=m+1:=⟨ts.length - 1,by omega⟩;rw[hm]
 conv=>lhs;unfold fM
 rw[aG (by rw[h];simp)]
 split
 ·rfl
 ·simp only[X.andThen]
  rw[Ho m _ (by omega)]
theorem Cap.fM:∀ n,Cap (fM n) 0
 | 0=>Cap.nil
 | n+1=>Cap.ite (b:=fun ts=>bJ ts==0||starts ts) Cap.nil (Cap.ite (b:=bX [59]) Cap.take (Cap.take.andThen (Cap.fM n)))
theorem Cap.fV:Cap fV 0:=fun ts=>Cap.fM ts.length ts
theorem bR.fM:∀ n,bR (fM n)
 | 0=>bR.nil
 | n+1=>bR.ite (c:=fun ts=>bJ ts==0||starts ts) bR.nil (bR.ite (c:=bX [59]) bR.take (bR.take.andThen (bR.fM n)))
theorem qm(ts:List Tok):kid ts=if starts ts then(if bX iN (bW ts).2 then(3,andThen bW jA ts) else(4,andThen bW jr ts)) else(5,fV ts):=rfl
end X
theorem bf.setKind(h:bf w rb s L tv dp B k rv ps1 eF D w1)(k2:Nat):bf w rb s L tv dp B k2 rv ps1 eF D (w1.setCell ⟨B,0,none⟩ (.int .i64 k2)):=by
 obtain⟨a1,oI,vs1,D1,g1,g2,g3,g4,g5,g6⟩:=h;have hk:Kp (fun q=>q=B) w1 (w1.setCell ⟨B,0,none⟩ (.int .i64 k2)):=Kp.setCell (Kp.refl (fun q=>q=B) w1) (p:=⟨B,0,none⟩) (fun _=>rfl) _;refine⟨a1,oI,vs1,D1,⟨g1.iF.keep hk (fun e=>g1.sep.2.2 e.symm) (fun q hq e=>(g1.uw q hq).2.1 e),⟨?_,?_⟩,g1.len,g1.each.keep hk (fun q hq e=>g1.sep.2.1 (e ▸ hq)),fun q hq=>by have:=g1.G5 q hq;simpa using this,g1.sep,g1.nD,fun q hq=>?_⟩,g2,g3,g4,g5,Kp.trans g6 hk (fun i _ e=>.inr (.inl e))⟩
 ·have hb:=g1.r_.blk
  simp[World.setCell,aK,hb]
 ·exact bV g1.r_.row (fun e=>(g1.nD B e).2.2 rfl) _
 ·obtain⟨a1,a2,a3,a4⟩:=g1.uw q hq
  exact⟨a1,a2,a3,by simpa using a4⟩
theorem bf.Kc(h:bf w rb s L tv dp B k rv ps1 eF D w1):w1.cell? ⟨B,0,none⟩=some (.int .i64 k)∧w1.frozen? ⟨B,0,none⟩=false:=by
 obtain⟨a1,oI,vs1,D1,g1,-⟩:=h;exact⟨g1.r_.facts.1.1,g1.r_.facts.2.1⟩
theorem bf.SN(h:bf w rb s L tv dp B k rv ps1 eF D w1)(hS:kJ s L)
  (hQ:∀ w2,Hid (bf w rb s L tv dp B k rv ps1 eF D w2)→Q (.returned (.bool (X.starts eF))) w2):Calls prog 61 #[.pointer (some ⟨rb,0,none⟩)] w1 Q:=by
 have hg:=h.good hS;have H:=au h;have eA:[X.iN,X.jN,X.kE].any (fun x=>X.pN x eF)=X.starts eF:=by
  unfold X.starts;simp[X.fI hg (.inl (by decide:X.iN∈words)),X.fI hg (.inl (by decide:X.jN∈words)),X.fI hg (.inl (by decide:X.kE∈words)),Bool.or_assoc]
 clear h;have key:Calls prog 61 #[.pointer (some ⟨rb,0,none⟩)] w1 fun e w2=>e=.returned (.bool (X.starts eF))∧Hid (bf w rb s L tv dp B k rv ps1 eF D w2):=by
  go_enter func61,ntmps61;go_wp2_with fail
  refine bf.jv (H.o) [X.iN,X.jN,X.kE] (by simp) ?_;intro w2 H2;rw[eA];go_wp2_with fail
  go_ret;exact⟨rfl,H2⟩
 refine key.mono ?_;rintro e w2 ⟨rfl,H2⟩;exact hQ w2 H2
theorem bf.more(h:bf w rb s L tv dp B k rv ps1 eF D w1)
  (hQ:Q (.returned (.bool (X.bJ eF !=0))) w1):Calls prog 33 #[.pointer (some ⟨rb,0,none⟩)] w1 Q:=by
 obtain⟨a1,oI,vs1,D1,g1,rfl,-⟩:=h;refine(GZ rb s L tv a1 dp w1 g1.iF).mono ?_;rintro e w2 ⟨rfl,rfl⟩;exact hQ
def ED(fn:FuncId)(F:X.R)(k2:Nat)(s:ByteArray)(L:List Tk)(dp:Nat):Prop :=
 ∀(w w1:World) (rb:Nat) (tv:Value) (B k:Nat) (rv:Value) (ps:List X.Part) (ts:List X.Tok) (D:Nat→Prop),bf w rb s L tv dp B k rv ps ts D w1→ps.length+(F ts).1.length≤1073741824 →
  Calls prog fn #[.pointer (some ⟨rb,0,none⟩),.pointer (some ⟨B,0,none⟩)] w1 fun en w'=>en=.returned (.tuple #[])∧Hid (bf w rb s L tv dp B k2 rv (ps++(F ts).1) (F ts).2 D w')
theorem Wm(hS:kJ s L):ED 91 X.jA 3 s L dp:=by
 intro w w1 rb tv B k rv ps ts D h hl;obtain⟨b0,b1⟩:=h.Kc;have hg:=h.good hS;have H:=au (h.setKind 3);obtain⟨M,hM⟩:∃ M:X.R,M=fun ts=>if X.bX [97,115] ts then X.andThen X.take X.aV ts else([],ts):=⟨_,rfl⟩
 have e0:X.jA=X.andThen (X.andThen (X.want X.iN) (X.andThen X.aV (X.andThen (X.want [46]) X.aV))) (X.andThen M (X.want [59])):=by
  unfold X.jA;rw[hM];simp only[X.andThen_assoc]
 rw[e0] at hl ⊢;rw[X.dS,X.dS M] at hl;have e1:X.dO [X.iN,X.fF,[46],X.fF] ts=X.andThen (X.want X.iN) (X.andThen X.aV (X.andThen (X.want [46]) X.aV)) ts :=
  X.n_ (.inl (by decide)) hg (X.rW ((X.bR.want _).good hg) (X.n_ (.inr (by decide)) (X.bR.aV.good ((X.bR.want _).good hg)) (X.uQ ((X.bR.want _).good (X.bR.aV.good ((X.bR.want _).good hg))))))
 generalize X.andThen (X.want X.iN) (X.andThen X.aV (X.andThen (X.want [46]) X.aV))=F at *;have hcp:X.Cap (X.andThen X.take X.aV) 1:=X.Cap.take.andThen X.Cap.aV;have HM:Hid (∀ ts,M ts=if X.bX [97,115] ts then X.andThen X.take X.aV ts else([],ts)):=fun ts=>by rw[hM]
 clear h hM e0;have hz:(w1.setCell ⟨B,0,none⟩ (.int .i64 ((3:Nat):Int))).heap.size=w1.heap.size:=by simp
 go_enter func91,ntmps91;go_wp2_with fail
 rw[show(Value.int IntKind.i64 3)=.int .i64 ((3:Nat):Int) from rfl] at *;generalize w1.setCell ⟨B,0,none⟩ (.int .i64 ((3:Nat):Int))=W at *;rw[← hz];refine bf.want (H.o) hS [X.iN,X.fF,[46],X.fF] (by simp[X.iN,X.fF]) (by simp) (by rw[e1];omega) ?_;intro w2 H2;rw[e1] at H2;have hg2:=(H2.o).good hS;have eA:[[97,115]].any (fun x=>X.pN x (F ts).2)=X.bX [97,115] (F ts).2:=by simp[X.fI hg2 (.inl (by decide:[97,115]∈words))]
 go_wp2_with fail
 refine bf.jv (H2.o) [[97,115]] (by simp) ?_;intro w3 H3;rw[eA];cases hA:X.bX [97,115] (F ts).2 with
 | true =>
  have hm:M (F ts).2=X.andThen X.take X.aV (F ts).2:=by rw[HM.o,hA,aL rfl]
  have e2:X.dO [[97,115],X.fF] (F ts).2=X.andThen X.take X.aV (F ts).2:=by
   refine X.qx ?_ (X.uQ (X.bR.take.good hg2));unfold X.qN;rw[X.fI hg2 (.inl (by decide)),hA,aL rfl]
  rw[hm] at hl;go_wp2_with fail
  refine bf.want (H3.o) hS [[97,115],X.fF] (by simp[X.fF]) (by simp) (by rw[e2,ak];omega) ?_;intro w4 H4;rw[e2,← hm] at H4;rw[← hm] at hl;have e3:=X.h_ (x:=[59]) (.inr (by decide)) ((H4.o).good hS);go_wp2_with fail
  refine bf.want (H4.o) hS [[59]] (by simp) (by simp) (by rw[e3];simp only[ak];omega) ?_;intro w5 H5;rw[e3] at H5;go_wp2_with fail
  go_end0;refine⟨rfl,?_⟩;simp only[aA] at H5;exact H5
 | false =>
  have hm:M (F ts).2=([],(F ts).2):=by rw[HM.o,hA,aG (by simp)]
  have e3:=X.h_ (x:=[59]) (.inr (by decide)) hg2;have hx:X.andThen F (X.andThen M (X.want [59])) ts=((F ts).1++(X.want [59] (F ts).2).1,(X.want [59] (F ts).2).2):=by
   unfold X.andThen;simp[hm]
  rw[hm] at hl;go_wp2_with fail
  refine bf.want (H3.o) hS [[59]] (by simp) (by simp) (by rw[e3];simp only[ak];simp at hl;omega) ?_;intro w5 H5;rw[e3] at H5;go_wp2_with fail
  go_end0;refine⟨rfl,?_⟩;rw[hx,← aA];exact H5
end
section
variable{s:ByteArray}{L:List Tk}
theorem Wn(hS:kJ s L):ED 92 X.jr 4 s L 0:=by
 intro w w1 rb tv B k rv ps ts D h hl;obtain⟨b0,b1⟩:=h.Kc;have hg:=h.good hS;have H:=au (h.setKind 4);have HE:=au (AJ hS 65 0 rfl);have HPa:=au (AA (s:=s) (L:=L) (dp:=0) hS);obtain⟨M,hM⟩:∃ M:X.R,M=fun ts=>if X.bX [40] ts then X.params ts else([],ts):=⟨_,rfl⟩
 have e0:X.jr=X.andThen (X.andThen (X.want X.kE) X.aV) (X.andThen M (X.andThen (X.want [61]) (X.andThen (X.expr 65) (X.want [59])))):=by
  unfold X.jr;rw[hM];simp only[X.andThen_assoc]
 rw[e0] at hl ⊢;rw[X.dS,X.dS M,X.dS (X.want [61]),X.dS (X.expr 65)] at hl;have e1:X.dO [X.kE,X.fF] ts=X.andThen (X.want X.kE) X.aV ts :=
  X.n_ (.inl (by decide)) hg (X.uQ ((X.bR.want _).good hg))
 generalize X.andThen (X.want X.kE) X.aV=F at *;generalize X.expr 65=E at *;have HM:Hid (∀ ts,M ts=if X.bX [40] ts then X.params ts else([],ts)):=fun ts=>by rw[hM]
 clear h hM e0;have hz:(w1.setCell ⟨B,0,none⟩ (.int .i64 ((4:Nat):Int))).heap.size=w1.heap.size:=by simp
 go_enter func92,ntmps92;go_wp2_with fail
 rw[show(Value.int IntKind.i64 4)=.int .i64 ((4:Nat):Int) from rfl] at *;generalize w1.setCell ⟨B,0,none⟩ (.int .i64 ((4:Nat):Int))=W at *;rw[← hz];refine bf.want (H.o) hS [X.kE,X.fF] (by simp[X.kE,X.fF]) (by simp) (by rw[e1];omega) ?_;intro w2 H2;rw[e1] at H2;have hg2:=(H2.o).good hS;have eA:[[40]].any (fun x=>X.pN x (F ts).2)=X.bX [40] (F ts).2:=by simp[X.fI hg2 (.inr (by decide:[40]∈X.signs))]
 go_wp2_with fail
 refine bf.jv (H2.o) [[40]] (by simp) ?_;intro w3 H3;rw[eA];cases hA:X.bX [40] (F ts).2 with
 | true =>
  have hm:M (F ts).2=X.params (F ts).2:=by rw[HM.o,hA,aL rfl]
  generalize X.params=PA at *;go_wp2_with fail
  refine bf.then (H3.o) (HPa.o) trivial (by rw[← hm,ak];omega) ?_;intro w4 H4;rw[← hm] at H4;have e3:=X.h_ (x:=[61]) (.inr (by decide)) ((H4.o).good hS);go_wp2_with fail
  refine bf.want (H4.o) hS [[61]] (by simp) (by simp) (by rw[e3];simp only[ak];omega) ?_;intro w5 H5;rw[e3] at H5;go_wp2_with fail
  refine bf.then (H5.o) (HE.o) trivial (by simp only[ak];omega) ?_;intro w6 H6;have e4:=X.h_ (x:=[59]) (.inr (by decide)) ((H6.o).good hS);go_wp2_with fail
  refine bf.want (H6.o) hS [[59]] (by simp) (by simp) (by rw[e4];simp only[ak];omega) ?_;intro w7 H7;rw[e4] at H7;go_wp2_with fail
  go_end0;refine⟨rfl,?_⟩;simp only[aA] at H7;exact H7
 | false =>
  have hm:M (F ts).2=([],(F ts).2):=by rw[HM.o,hA,aG (by simp)]
  have H4:Hid (bf w rb s L tv 0 B 4 rv (ps++(F ts).1++(M (F ts).2).1) (M (F ts).2).2 D w3):=by
   rw[hm,aJ];exact H3
  clear hm H3;have e3:=X.h_ (x:=[61]) (.inr (by decide)) ((H4.o).good hS);go_wp2_with fail
  refine bf.want (H4.o) hS [[61]] (by simp) (by simp) (by rw[e3];simp only[ak];omega) ?_;intro w5 H5;rw[e3] at H5;go_wp2_with fail
  refine bf.then (H5.o) (HE.o) trivial (by simp only[ak];omega) ?_;intro w6 H6;have e4:=X.h_ (x:=[59]) (.inr (by decide)) ((H6.o).good hS);go_wp2_with fail
  refine bf.want (H6.o) hS [[59]] (by simp) (by simp) (by rw[e4];simp only[ak];omega) ?_;intro w7 H7;rw[e4] at H7;go_wp2_with fail
  go_end0;refine⟨rfl,?_⟩;simp only[aA] at H7;exact H7
theorem bf.Hq{w w1:World}{rb:Nat}{tv:Value}{dp B k:Nat}{rv:Value}{ps1:List X.Part}{eF:List X.Tok}{D:Nat→Prop}{fn:FuncId}{F:X.R}{k2:Nat}{Q:Ending→World→Prop}
  (h:bf w rb s L tv dp B k rv ps1 eF D w1) (hF:ED fn F k2 s L dp) (hl:ps1.length+(F eF).1.length≤1073741824)
  (hQ:∀ w2,Hid (bf w rb s L tv dp B k2 rv (ps1++(F eF).1) (F eF).2 D w2)→Q (.returned (.tuple #[])) w2) :
  Calls prog fn #[.pointer (some ⟨rb,0,none⟩),.pointer (some ⟨B,0,none⟩)] w1 Q:=by
 refine(hF w w1 rb tv B k rv ps1 eF D h hl).mono ?_;rintro e w2 ⟨rfl,H2⟩;exact hQ w2 H2
theorem SQ(hS:kJ s L)(w w1:World)(rb:Nat)(tv:Value)(B k:Nat)(rv:Value)(ps:List X.Part)(ts:List X.Tok)(D:Nat→Prop)(h:bf w rb s L tv 0 B k rv ps ts D w1)(hst:X.starts ts=true)(hl:ps.length+(X.kid ts).2.1.length≤1073741824) :
  Calls prog 62 #[.pointer (some ⟨rb,0,none⟩),.pointer (some ⟨B,0,none⟩)] w1 fun en w'=>en=.returned (.tuple #[])∧Hid (bf w rb s L tv 0 B (X.kid ts).1 rv (ps++(X.kid ts).2.1) (X.kid ts).2.2 D w'):=by
 have hg:=h.good hS;have H:=au h;have HU:=au (Wm (s:=s) (L:=L) (dp:=0) hS);have HDf:=au (Wn hS);have HK:Hid (X.kid ts=if X.bX X.iN (X.bW ts).2 then(3,X.andThen X.bW X.jA ts) else(4,X.andThen X.bW X.jr ts)):=by
  show _=_;rw[X.qm,hst,aL rfl]
 have HO:Hid (X.bW ts=if X.bX X.jN ts then X.take ts else([],ts)):=(rfl:_=_);have eA:[X.jN].any (fun x=>X.pN x ts)=X.bX X.jN ts:=by simp[X.fI hg (.inl (by decide:X.jN∈words))]
 clear h;generalize X.kid ts=KD at *;have hlu:X.bX X.iN (X.bW ts).2=true→ps.length+((X.bW ts).1.length+(X.jA (X.bW ts).2).1.length)≤1073741824:=fun e=>by
  have:=HK.o;rw[e,aL rfl] at this;rw[this] at hl;rw[X.dS] at hl;exact hl
 have hld:X.bX X.iN (X.bW ts).2=false→ps.length+((X.bW ts).1.length+(X.jr (X.bW ts).2).1.length)≤1073741824:=fun e=>by
  have:=HK.o;rw[e,aG (by simp)] at this;rw[this] at hl;rw[X.dS] at hl;exact hl
 have hlo:ps.length+(X.bW ts).1.length≤1073741824:=by
  cases e:X.bX X.iN (X.bW ts).2 with
  | true=>have:=hlu e;omega
  | false=>have:=hld e;omega
 generalize X.jA=U at *;generalize X.jr=Df at *;generalize hop:X.bW=OP at *;clear hop;go_enter func62,ntmps62;go_wp2_with fail
 refine bf.jv (H.o) [X.jN] (by simp) ?_;intro w2 H2;rw[eA];cases hA:X.bX X.jN ts with
 | true =>
  have ho:OP ts=X.take ts:=by rw[HO.o,hA,aL rfl]
  go_wp2_with fail
  refine bf.then (H2.o) (jY s L 0 hS) (X.aZ hA) (by rw[← ho];exact hlo) ?_;intro w3 H3;rw[← ho] at H3;have eB:[X.iN].any (fun x=>X.pN x (OP ts).2)=X.bX X.iN (OP ts).2:=by simp[X.fI ((H3.o).good hS) (.inl (by decide:X.iN∈words))]
  go_wp2_with fail
  refine bf.jv (H3.o) [X.iN] (by simp) ?_;intro w4 H4;rw[eB];cases hB:X.bX X.iN (OP ts).2 with
  | true =>
   have h9:=hlu hB;go_wp2_with fail
   refine bf.Hq (H4.o) (HU.o) (by rw[ak];omega) ?_;intro w5 H5;go_wp2_with fail
   go_end0;refine⟨rfl,?_⟩;have hp:=HK.o;rw[hB,aL rfl] at hp;rw[hp];rw[aA] at H5;exact H5
  | false =>
   have h9:=hld hB;go_wp2_with fail
   refine bf.Hq (H4.o) (HDf.o) (by rw[ak];omega) ?_;intro w5 H5;go_wp2_with fail
   go_end0;refine⟨rfl,?_⟩;have hp:=HK.o;rw[hB,aG (by simp)] at hp;rw[hp];rw[aA] at H5;exact H5
 | false =>
  have ho:OP ts=([],ts):=by rw[HO.o,hA,aG (by simp)]
  have H3:Hid (bf w rb s L tv 0 B k rv (ps++(OP ts).1) (OP ts).2 D w2):=by rw[ho,aJ];exact H2
  have eB:[X.iN].any (fun x=>X.pN x (OP ts).2)=X.bX X.iN (OP ts).2:=by simp[X.fI ((H3.o).good hS) (.inl (by decide:X.iN∈words))]
  go_wp2_with fail
  refine bf.jv (H3.o) [X.iN] (by simp) ?_;intro w4 H4;rw[eB];cases hB:X.bX X.iN (OP ts).2 with
  | true =>
   have h9:=hlu hB;go_wp2_with fail
   refine bf.Hq (H4.o) (HU.o) (by rw[ak];omega) ?_;intro w5 H5;go_wp2_with fail
   go_end0;refine⟨rfl,?_⟩;have hp:=HK.o;rw[hB,aL rfl] at hp;rw[hp];rw[aA] at H5;exact H5
  | false =>
   have h9:=hld hB;go_wp2_with fail
   refine bf.Hq (H4.o) (HDf.o) (by rw[ak];omega) ?_;intro w5 H5;go_wp2_with fail
   go_end0;refine⟨rfl,?_⟩;have hp:=HK.o;rw[hB,aG (by simp)] at hp;rw[hp];rw[aA] at H5;exact H5
theorem SS(hS:kJ s L):ED 63 X.fV 5 s L 0:=by
 intro w w1 rb tv B k rv ps ts D h hl;obtain⟨b0,b1⟩:=h.Kc;have H:=au (h.setKind 5);have hL:=hS.len;have hz:(w1.setCell ⟨B,0,none⟩ (.int .i64 ((5:Nat):Int))).heap.size=w1.heap.size:=by simp
 clear h;go_enter func63,ntmps63;go_wp2_with fail
 rw[show(Value.int IntKind.i64 5)=.int .i64 ((5:Nat):Int) from rfl] at *;generalize w1.setCell ⟨B,0,none⟩ (.int .i64 ((5:Nat):Int))=W at *;have hcj:=X.Cap.fV;go_loopw [4] (fun v wr=>∃(b:Bool) (acc:List X.Part) (eF:List X.Tok),v=.bool b∧Hid (bf w rb s L tv 0 B 5 rv (ps++acc) eF D wr)∧Hid (X.fV ts=if b then(acc,eF) else(acc++(X.fV eF).1,(X.fV eF).2))) (fun _ wr=>L.length - V6 rb wr)
 case atStart=>exact⟨false,[],ts,rfl,by rw[aJ];exact H,by show _=_;simp⟩
 case round =>
  obtain⟨b,acc,eF,rfl,H3,HE⟩:=hrel;have hlen1:=(H3.o).len;cases b with
  | true =>
   go_wp2_with fail
   go_end0;refine⟨rfl,?_⟩;have hp:X.fV ts=(acc,eF):=by have:=HE.o;simpa using this
   rw[hp];exact H3
  | false =>
   have hp:X.fV ts=(acc++(X.fV eF).1,(X.fV eF).2):=by have:=HE.o;rwa[aG (by simp)] at this
   have hla:ps.length+(acc.length+(X.fV eF).1.length)≤1073741824:=by rw[hp] at hl;simpa using hl
   have HPP:=au hp;clear hp HE;have kI:(X.bJ eF !=0)=!(X.bJ eF==0):=rfl;go_wp2_with fail
   refine bf.more (H3.o) ?_;rw[kI];cases hk:(X.bJ eF==0) with
   | true =>
    have hj:=X.qO (ts:=eF) (by rw[hk];rfl);go_wp2_with fail
    go_end0;refine⟨rfl,?_⟩;rw[HPP.o,hj,aJ];exact H3
   | false =>
    go_wp2_with fail
    refine bf.SN (H3.o) hS ?_;intro w4 H4;cases hs:X.starts eF with
    | true =>
     have hj:=X.qO (ts:=eF) (by rw[hs,Bool.or_true]);go_wp2_with fail
     go_end0;refine⟨rfl,?_⟩;rw[HPP.o,hj,aJ];exact H4
    | false =>
     have hj:=X.nG (ts:=eF) (by rw[hk,hs];rfl);have hn:=X.jI hk;have hlt:=X.fD hn;have eA:[[59]].any (fun x=>X.pN x eF)=X.bX [59] eF:=by simp[X.fI ((H4.o).good hS) (.inr (by decide:[59]∈X.signs))]
     have hlb:(X.take eF).1.length≤(X.fV eF).1.length:=by
      rw[hj];split
      ·exact aj _
      ·rw[X.dS];omega
     go_wp2_with fail
     refine bf.jv (H4.o) [[59]] (by simp) ?_;intro w5 H5;rw[eA];go_wp2_with fail
     refine bf.then (H5.o) (jY s L 0 hS) hn (by rw[ak];omega) ?_;intro w6 H6;go_wp2_with fail
     refine⟨⟨X.bX [59] eF,acc++(X.take eF).1,(X.take eF).2,rfl,by rw[← aA];exact H6,?_⟩,by rw[(H6.o).at,(H3.o).at];exact hlt⟩;show _=_;rw[HPP.o,hj];cases X.bX [59] eF<;>simp[X.andThen]
theorem Wo(ts:List X.Tok):(X.kid ts).2.1.length≤6+2*ts.length:=by
 rw[X.qm]
 split
 ·split
  ·have:=(X.Cap.bW.andThen X.Cap.jA).le ts;simpa using this
  ·have:=(X.Cap.bW.andThen X.Cap.jr).le ts;simpa using this
 ·have:=X.Cap.fV.le ts
  show(X.fV ts).1.length≤_;omega
theorem SV(ts:List X.Tok):(X.kid ts).2.2.length≤ts.length:=by
 rw[X.qm]
 split
 ·split
  ·exact(X.bR.bW.andThen X.bR.jA).le ts
  ·exact(X.bR.bW.andThen X.bR.jr).le ts
 ·exact(X.bR.fM ts.length).le ts
def Wp(N n:Nat):Value:=.agg #[.pointer (some ⟨N,0,none⟩),.int .i64 n]
theorem LD{w W w3 w4:World}{rb:Nat}{tv:Value}{D:Nat→Prop}{k:Nat}{ps:List X.Part}{ts:List X.Tok}(kA:Below w.heap.size w W)(hsz:W.heap.size=w.heap.size+2)(hrl:rb<w.heap.size)(hD:∀ q,D q→q<w.heap.size)(hT:∀ q,tv.ownBlock=some q→¬ D q∧q<w.heap.size)
  (h:bf W rb s L tv 0 (w.heap.size+1) k (.slice none 0 0) ps ts D w3) (TT:Kp (fun q=>q=w.heap.size) w3 w4) :
  ∃(D':Nat→Prop) (a':Nat),pX w4 rb s L tv a' 0∧bn s L a'=ts∧uq w4 D' (.iface 126 (.pointer (some ⟨w.heap.size+1,0,none⟩))) (.br k ps)∧(∀ q,D q→D' q)∧(∀ q,D' q→D q∨w.heap.size≤q)∧(∀ q,D' q→q<w4.heap.size)∧On rb w w4:=by
 obtain⟨a',Xi,vs3,D3,g1,g2,g3,g4,g5,g6⟩:=h;have hz3:=g6.size;have hz4:=TT.size;have hg5:∀ g,Xi.ownBlock=some g→W.heap.size≤g:=fun g hg=>by
  rcases g5 g hg with e|e
  ·cases e
  ·exact e
 have hD3:∀ q,(D3 q∨q=w.heap.size+1∨Xi.ownBlock=some q)→D q∨w.heap.size<q:=by
  rintro q (e|e|e)
  ·rcases g4 q e with h|h
   ·exact .inl h
   ·exact .inr (by omega)
  ·exact .inr (by omega)
  ·exact .inr (by have:=hg5 q e;omega)
 refine⟨_,a',g1.iF.keep TT (fun e=>by omega) (fun q hq e=>by have:=(hT q hq).2;omega),g2,g1.part.keep TT (fun q hq e=>?_),fun q hq=>.inl (g3 q hq),fun q hq=>?_,fun q hq=>?_,?_⟩
 ·rcases hD3 q hq with h|h
  ·have:=hD q h;omega
  ·omega
 ·rcases hD3 q hq with h|h
  ·exact .inl h
  ·exact .inr (by omega)
 ·rcases hq with e|e|e
  ·have:=g1.G5 q e;omega
  ·omega
  ·have:=(dV g1.r_.row q e).2;omega
 ·refine Kp.trans (Kp.trans (Kp.aI kA (fun q=>q=rb)) g6 (fun i hi e=>?_)) TT (fun i hi e=>by omega)
  rcases e with e|e|e
  ·exact e
  ·omega
  ·cases e
theorem Wq(hS:kJ s L)(rb:Nat)(tv:Value)(a:Nat)(w:World)(hr:pX w rb s L tv a 0)(D:Nat→Prop)(hD:∀ q,D q→q<w.heap.size)(hDr:¬ D rb)(hT:∀ q,tv.ownBlock=some q→¬ D q∧q<w.heap.size) :
  Calls prog 35 #[.pointer (some ⟨rb,0,none⟩)] w fun en w'=>∃(N:Nat) (D':Nat→Prop) (a':Nat),en=.returned (Wp N ((bn s L a).length - (X.kid (bn s L a)).2.2.length))∧Hid (pX w' rb s L tv a' 0∧bn s L a'=(X.kid (bn s L a)).2.2∧uq w' D' (.iface 126 (.pointer (some ⟨N,0,none⟩))) (.br (X.kid (bn s L a)).1 (X.kid (bn s L a)).2.1)∧(∀ q,D q→D' q)∧(∀ q,D' q→D q∨w.heap.size≤q)∧(∀ q,D' q→q<w'.heap.size)∧On rb w w'):=by
 have hle:=hr.le;have hrl:=hr.raw.lt;have kA:Below w.heap.size w ((w.alloc (Obj.cells #[.pointer none,.int .i64 0] 134)).alloc (Obj.cells #[.int .i64 0,.slice none 0 0] 129)):=((ay _ w).alloc (aj _) _).alloc (by simp) _;have hlen:(bn s L a).length=L.length - a:=by unfold bn;simp
 have hL:=hS.len;have hcap:=Wo (bn s L a);have hsz:((w.alloc (Obj.cells #[.pointer none,.int .i64 0] 134)).alloc (Obj.cells #[.int .i64 0,.slice none 0 0] 129)).heap.size=w.heap.size+2:=by simp
 have hnew:((w.alloc (Obj.cells #[.pointer none,.int .i64 0] 134)).alloc (Obj.cells #[.int .i64 0,.slice none 0 0] 129)).heap[w.heap.size+1]?=some (.cells #[.int .i64 0,.slice none 0 0] 129 (0,0)):=by
  have:=aB (w.alloc (Obj.cells #[.pointer none,.int .i64 0] 134)) (Obj.cells #[.int .i64 0,.slice none 0 0] 129)
  rwa[gX] at this
 have hres:((w.alloc (Obj.cells #[.pointer none,.int .i64 0] 134)).alloc (Obj.cells #[.int .i64 0,.slice none 0 0] 129)).heap[w.heap.size]?=some (.cells #[.pointer none,.int .i64 0] 134 (0,0)) :=
  (dN (w.alloc _) _ (show w.heap.size<_ by simp)).trans (aB w _)
 obtain⟨⟨c0,c1,c2,c3,c4,c5,c6⟩,-⟩:=hr.raw.facts;have HJ:=au (SS hS);have HR:=au hr;clear hr;go_enter func35,ntmps35;go_wp2_with fail
 generalize (w.alloc (Obj.cells #[.pointer none,.int .i64 0] 134)).alloc (Obj.cells #[.int .i64 0,.slice none 0 0] 129)=W at *;have HW:Hid (bf W rb s L tv 0 (w.heap.size+1) 0 (.slice none 0 0) [] (bn s L a) D W):=by
  refine bf.refl (a:=a) (vs:=[]) ⟨(HR.o).below kA,⟨hnew,bY _ _ _ _⟩,rfl,Each.nil _ _,fun q hq=>?_,⟨hDr,fun hd=>?_,?_⟩,(fun g hg=>by cases hg),fun q hq=>?_⟩
  ·have:=hD q hq;omega
  ·have:=hD _ hd;omega
  ·omega
  ·obtain⟨h1,h2⟩:=hT q hq
   exact⟨h1,by omega,(fun e=>by cases e),by omega⟩
 refine bf.SN (HW.o) hS ?_;intro w2 H2;cases hst:X.starts (bn s L a) with
 | true =>
  go_wp2_with fail
  refine(SQ hS W w2 rb tv (w.heap.size+1) 0 (.slice none 0 0) [] (bn s L a) D H2.o hst (by simp;omega)).mono ?_;rintro e w3 ⟨rfl,H3⟩;rw[bT] at H3;have hle3:=SV (bn s L a);have HQ:Hid (∃ a3:Nat,a≤a3∧(bn s L a).length - (X.kid (bn s L a)).2.2.length=a3 - a∧w3.cell? ⟨rb,2,none⟩=some (.int .i64 a3)∧a3≤L.length):=by
   obtain⟨a3,Xi,vs3,D3,g1,g2,-⟩:=H3.o;obtain⟨⟨z0,z1,z2,-⟩,-⟩:=g1.iF.raw.facts;have hl3:(bn s L a3).length=L.length - a3:=by unfold bn;simp
   have Vv:=g1.iF.le;rw[← g2] at hle3 ⊢;exact⟨a3,by omega,by omega,z2,Vv⟩
  have tK:w3.heap[w.heap.size]?=some (.cells #[.pointer none,.int .i64 0] 134 (0,0)):=by
   obtain⟨a3,Xi,vs3,D3,g1,g2,g3,g4,g5,g6⟩:=H3.o;exact g6.heap hres (by
    rintro(e|e|e)
    ·omega
    ·omega
    ·cases e)
  obtain⟨a3,q1,q2,q3,q4⟩:=HQ.o;have r0:w3.cell? ⟨w.heap.size,0,none⟩=some (.pointer none):=ai w3 _ 0 _ _ _ tK;have r1:w3.cell? ⟨w.heap.size,1,none⟩=some (.int .i64 0):=ai w3 _ 1 _ _ _ tK;have r2:w3.frozen? ⟨w.heap.size,0,none⟩=false:=by simp[World.frozen?,tK]
  have r3:w3.frozen? ⟨w.heap.size,1,none⟩=false:=by simp[World.frozen?,tK]
  clear HQ tK hnew hres c0 c1 c2 c3 c4 c5 c6;have HF:Hid (∃(D':Nat→Prop) (a':Nat),pX ((w3.setCell ⟨w.heap.size,0,none⟩ (.pointer (some ⟨w.heap.size+1,0,none⟩))).setCell ⟨w.heap.size,1,none⟩ (.int .i64 ((a3:Int) - (a:Int)))) rb s L tv a' 0∧bn s L a'=(X.kid (bn s L a)).2.2∧uq ((w3.setCell ⟨w.heap.size,0,none⟩ (.pointer (some ⟨w.heap.size+1,0,none⟩))).setCell ⟨w.heap.size,1,none⟩ (.int .i64 ((a3:Int) - (a:Int)))) D' (.iface 126 (.pointer (some ⟨w.heap.size+1,0,none⟩))) (.br (X.kid (bn s L a)).1 (X.kid (bn s L a)).2.1)∧(∀ q,D q→D' q)∧(∀ q,D' q→D q∨w.heap.size≤q)∧(∀ q,D' q→q<((w3.setCell ⟨w.heap.size,0,none⟩ (.pointer (some ⟨w.heap.size+1,0,none⟩))).setCell ⟨w.heap.size,1,none⟩ (.int .i64 ((a3:Int) - (a:Int)))).heap.size)∧On rb w ((w3.setCell ⟨w.heap.size,0,none⟩ (.pointer (some ⟨w.heap.size+1,0,none⟩))).setCell ⟨w.heap.size,1,none⟩ (.int .i64 ((a3:Int) - (a:Int))))):=LD kA hsz hrl hD hT H3.o (On.set (On.set (Kp.refl _ w3) 0 _) 1 _);go_wp2_with fail
  obtain⟨D',a',hF⟩:=HF.o;have e9:((a3:Int) - (a:Int))=(((bn s L a).length - (X.kid (bn s L a)).2.2.length:Nat):Int):=by rw[q2];omega
  exact bI (v:=.agg #[.pointer (some ⟨w.heap.size+1,0,none⟩),.int .i64 ((a3:Int) - (a:Int))]) (by simp[results,results35,go_sem,r0,r1]) rfl ⟨w.heap.size+1,D',a',by unfold Wp;rw[← e9],hF⟩
 | false =>
  go_wp2_with fail
  refine bf.Hq (H2.o) (HJ.o) (by have:=X.Cap.fV.le (bn s L a);simp;omega) ?_;intro w3 H3';have ek:X.kid (bn s L a)=(5,X.fV (bn s L a)):=by rw[X.qm,hst,aG (by simp)]
  have H3:Hid (bf W rb s L tv 0 (w.heap.size+1) (X.kid (bn s L a)).1 (.slice none 0 0) (X.kid (bn s L a)).2.1 (X.kid (bn s L a)).2.2 D w3):=by
   rw[ek];rw[bT] at H3';exact H3'
  clear H3' ek;have hle3:=SV (bn s L a);have HQ:Hid (∃ a3:Nat,a≤a3∧(bn s L a).length - (X.kid (bn s L a)).2.2.length=a3 - a∧w3.cell? ⟨rb,2,none⟩=some (.int .i64 a3)∧a3≤L.length):=by
   obtain⟨a3,Xi,vs3,D3,g1,g2,-⟩:=H3.o;obtain⟨⟨z0,z1,z2,-⟩,-⟩:=g1.iF.raw.facts;have hl3:(bn s L a3).length=L.length - a3:=by unfold bn;simp
   have Vv:=g1.iF.le;rw[← g2] at hle3 ⊢;exact⟨a3,by omega,by omega,z2,Vv⟩
  have tK:w3.heap[w.heap.size]?=some (.cells #[.pointer none,.int .i64 0] 134 (0,0)):=by
   obtain⟨a3,Xi,vs3,D3,g1,g2,g3,g4,g5,g6⟩:=H3.o;exact g6.heap hres (by
    rintro(e|e|e)
    ·omega
    ·omega
    ·cases e)
  obtain⟨a3,q1,q2,q3,q4⟩:=HQ.o;have r0:w3.cell? ⟨w.heap.size,0,none⟩=some (.pointer none):=ai w3 _ 0 _ _ _ tK;have r1:w3.cell? ⟨w.heap.size,1,none⟩=some (.int .i64 0):=ai w3 _ 1 _ _ _ tK;have r2:w3.frozen? ⟨w.heap.size,0,none⟩=false:=by simp[World.frozen?,tK]
  have r3:w3.frozen? ⟨w.heap.size,1,none⟩=false:=by simp[World.frozen?,tK]
  clear HQ tK hnew hres c0 c1 c2 c3 c4 c5 c6;have HF:Hid (∃(D':Nat→Prop) (a':Nat),pX ((w3.setCell ⟨w.heap.size,0,none⟩ (.pointer (some ⟨w.heap.size+1,0,none⟩))).setCell ⟨w.heap.size,1,none⟩ (.int .i64 ((a3:Int) - (a:Int)))) rb s L tv a' 0∧bn s L a'=(X.kid (bn s L a)).2.2∧uq ((w3.setCell ⟨w.heap.size,0,none⟩ (.pointer (some ⟨w.heap.size+1,0,none⟩))).setCell ⟨w.heap.size,1,none⟩ (.int .i64 ((a3:Int) - (a:Int)))) D' (.iface 126 (.pointer (some ⟨w.heap.size+1,0,none⟩))) (.br (X.kid (bn s L a)).1 (X.kid (bn s L a)).2.1)∧(∀ q,D q→D' q)∧(∀ q,D' q→D q∨w.heap.size≤q)∧(∀ q,D' q→q<((w3.setCell ⟨w.heap.size,0,none⟩ (.pointer (some ⟨w.heap.size+1,0,none⟩))).setCell ⟨w.heap.size,1,none⟩ (.int .i64 ((a3:Int) - (a:Int)))).heap.size)∧On rb w ((w3.setCell ⟨w.heap.size,0,none⟩ (.pointer (some ⟨w.heap.size+1,0,none⟩))).setCell ⟨w.heap.size,1,none⟩ (.int .i64 ((a3:Int) - (a:Int))))):=LD kA hsz hrl hD hT H3.o (On.set (On.set (Kp.refl _ w3) 0 _) 1 _);go_wp2_with fail
  obtain⟨D',a',hF⟩:=HF.o;have e9:((a3:Int) - (a:Int))=(((bn s L a).length - (X.kid (bn s L a)).2.2.length:Nat):Int):=by rw[q2];omega
  exact bI (v:=.agg #[.pointer (some ⟨w.heap.size+1,0,none⟩),.int .i64 ((a3:Int) - (a:Int))]) (by simp[results,results35,go_sem,r0,r1]) rfl ⟨w.heap.size+1,D',a',by unfold Wp;rw[← e9],hF⟩
end
end Go.Proofs.YtdkpkpgpphkljaaGreatDoor
