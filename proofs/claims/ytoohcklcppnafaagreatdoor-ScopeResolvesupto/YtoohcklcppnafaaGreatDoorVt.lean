import Derived.Test.YtoohcklcppnafaaGreatDoorVq
namespace Go.Proofs.YtoohcklcppnafaaGreatDoor
set_option maxRecDepth 100000
set_option maxHeartbeats 4000000
open Tryz
open Go.RowKit
open M
section
open X
variable{W0 W:aG}{D:Nat→Prop}{kb ab i b:Nat}{ps:List Part}{vs:Array Value}{ty:TypeId}
structure Bx(W0 W:aG)(D:Nat→Prop)(kb ab:Nat)(ps:List Part)(i b:Nat)(vs:Array Value)(ty:TypeId):Prop where
 rw:dR W D kb ab ps i
 kp:Kq D kb ab W0 W
 bl:W.heap[b]?=some (.cells vs ty (0,0))
 nb:W0.heap.size≤b
 l1:kb<W0.heap.size
 l2:ab<W0.heap.size
 dl:∀ q,D q→q<W0.heap.size
 tn:ty≠3
theorem Bx.go{W':aG}{ps':List Part}{i':Nat}(h:Bx W0 W D kb ab ps i b vs ty)(hr:dR W' D kb ab ps' i')(hk:Kq D kb ab W W'):Bx W0 W' D kb ab ps' i' b vs ty :=
 ⟨hr,h.kp.trans hk,hk.made h.l1 h.l2 h.nb h.bl h.tn,h.nb,h.l1,h.l2,h.dl,h.tn⟩
theorem dV(h:W.heap[b]?=some (.cells vs ty (0,0)))(k:Nat)(v:Value):(W.setCell (aC b k) v).heap[b]?=some (.cells (vs.setIfInBounds k v) ty (0,0)):=by simp[World.setCell,aZ,h]
theorem Bx.put(h:Bx W0 W D kb ab ps i b vs ty)(k:Nat)(v:Value):Bx W0 (W.setCell (aC b k) v) D kb ab ps i b (vs.setIfInBounds k v) ty:=by
 have hk:Kp (fun q=>q=b) W (W.setCell (aC b k) v):=On.set (Kp.refl _ W) k _;have h1:=h.l1;have h2:=h.l2;have h3:=h.nb;exact⟨h.rw.on hk h.bl h.tn au au (fun hd=>by have:=h.dl _ hd;omega),h.kp.set h2 h3 k v,dV h.bl k v,h3,h1,h2,h.dl,h.tn⟩
theorem Bx.dn(h:Bx W0 W D kb ab ps i b vs ty):∀ q,D q→q<W.heap.size:=fun q hq=>aJ (h.dl q hq) h.kp.size
theorem aB2{ap:List Part}{gs:Bool}{a:Nm}(h:Z_ ap i gs a):(∃ t n k qs,ap=t++n∧gs=true∧vH t k Qz qs∧zG n (i+pz t) a)∨(ap=[]∧gs=false∧a=([],0)):=by
 cases h with
 | yes t n k qs _ _ h1 h2=>exact .inl ⟨t,n,k,qs,rfl,rfl,h1,h2⟩
 | no=>exact .inr ⟨rfl,rfl,rfl⟩
inductive ng(w:aG)(lo hi:Nat):Value→It→Prop
 | use (b:Nat) (pub gs:Bool) (m n a:Nm) (hb:lo≤b∧b<hi) (h:w.heap[b]?=some (.cells #[.bool pub,.string (ba m.1),ak m.2,.string (ba n.1),ak n.2,.bool gs,.string (ba a.1),ak a.2] 176 (0,0))):ng w lo hi (.iface 121 (aH b)) (.use pub m n gs a)
 | dfn {fr tt:Int} (b:Nat) (pub:Bool) (n:Nm) (pv:Value) (ps:Option (List Nm)) (v:Value) (e:Ex) (hb:lo≤b∧b<hi) (h:w.heap[b]?=some (.cells #[.bool pub,.string (ba n.1),ak n.2,pv,v,ak fr,ak tt] 181 (0,0)))
   (hp:(ps=none∧pv=.pointer none)∨∃ ns pb,ps=some ns∧pv=aH pb∧mY w lo hi pb ns) (he:je w lo hi v e):ng w lo hi (.iface 123 (aH b)) (.dfn pub n ps e)
theorem Ti(D:Nat→Prop)(rb ab:Nat)(pb t1 n1 t2 n2 ap t3:List Part)(pub gs:Bool)(m n a:Nm)(ps:List Part)(i:Nat)(w:aG)(h:dR w D rb ab (.br 3 (pb++(t1++(n1++(t2++(n2++(ap++t3))))))::ps) i)
  (hp:PS pb pub) (h1:Gg jY t1) (hm:zG n1 (i+pz pb+pz t1) m) (h2:sj t2) (hn:zG n2 (i+pz pb+pz t1+pz n1+pz t2) n) (ha:Z_ ap (i+pz pb+pz t1+pz n1+pz t2+pz n2) gs a) (h3:Gg Qz t3)
  (hi:i+pz (pb++(t1++(n1++(t2++(n2++(ap++t3))))))≤1073741824) (hpl:(pb++(t1++(n1++(t2++(n2++(ap++t3)))))).length≤1073741824) (hDl:∀ q,D q→q<w.heap.size) :
  bB 45 #[aH rb] w fun e w'=>∃ b,e=.returned (aH b)∧Hid (ng w' w.heap.size w'.heap.size (.iface 121 (aH b)) (.use pub m n gs a)∧dR w' D rb ab ps (i+pz (pb++(t1++(n1++(t2++(n2++(ap++t3)))))))∧Kq D rb ab w w'):=by
 have hgq:=aA h.JI.br.2;obtain⟨q2,r2,zm⟩:=h2.BN;have hz:pz (pb++(t1++(n1++(t2++(n2++(ap++t3))))))=pz pb+(pz t1+(pz n1+(pz t2+(pz n2+(pz ap+pz t3))))):=by rw[bZ,bZ,bZ,bZ,bZ,bZ]
 have pF:=aA (ou D rb ab _ ps i w h (by show i+0≤_;omega) hDl);have nP:=aA hDl;have HP:=aA hp;have HM:=aA hm;have HN:=aA hn;have HA:=aA ha;have H1:=aA h1;have H3:=aA h3;have hi':=hi;have hpl':=hpl;rw[hz] at hi;simp only[ay] at hpl;clear h h1 h2 h3 hDl hn hm hp ha;go_enter func45,ntmps45;go_wp2_with fail
 refine(pF.o).mono ?_;rintro en w2 ⟨a4,a5,a6,rfl,X2⟩;have HT:Hid (aB1 w D rb ab ps _ i w2 (.slice a4 a5 a6)):=MW (X2.o) hgq.o nP.o;clear pF X2;have ug:=aA (Io D w2.heap.size ab pb t1 _ pub i _ (HT.o).inn HP.o H1.o hi' hpl' (HT.o).dl);clear hi' hpl';go_wp2_with fail
 refine(ug.o).aX fun w3 X3=>?_;have kA:Below w3.heap.size w3 (w3.alloc (.cells #[.bool pub,.string ⟨#[]⟩,ak 0,.string ⟨#[]⟩,ak 0,.bool false,.string ⟨#[]⟩,ak 0] 176)):=(aB _ w3).alloc (ax _) _;have kA':Kq D w2.heap.size ab w3 (w3.alloc (.cells #[.bool pub,.string ⟨#[]⟩,ak 0,.string ⟨#[]⟩,ak 0,.bool false,.string ⟨#[]⟩,ak 0] 176)):=Kq.aN kA (aJ (HT.o).inn.lt.2 (X3.o).kp.size);have hL:Lf (w2.alloc (.cells #[aH ab,.slice a4 a5 a6] 119)) (w3.alloc (.cells #[.bool pub,.string ⟨#[]⟩,ak 0,.string ⟨#[]⟩,ak 0,.bool false,.string ⟨#[]⟩,ak 0] 176)) D w2.heap.size ab t1 (n1++(t2++(n2++(ap++t3)))) (i+pz pb+pz t1):=by
  obtain⟨t',q',p',i',x1,x2,x3,x4⟩:=(X3.o).ex;exact⟨⟨t',q',p',i',x1,x2.below kA,x3,x4⟩,(X3.o).kp.trans kA'⟩
 have hnw:=(HT.o).inn.lt;have hs3:=(X3.o).kp.size;have Ai:=aA (hL.pass (by simp only[bZ];omega) (by simp only[ay];omega) (fun q hq=>aJ ((HT.o).dl q hq) hL.kp.size));have HBx:Hid (∀ W' ps' i',dR W' D w2.heap.size ab ps' i'→Kq D w2.heap.size ab (w3.alloc (.cells #[.bool pub,.string ⟨#[]⟩,ak 0,.string ⟨#[]⟩,ak 0,.bool false,.string ⟨#[]⟩,ak 0] 176)) W'→Bx (w2.alloc (.cells #[aH ab,.slice a4 a5 a6] 119)) W' D w2.heap.size ab ps' i' w3.heap.size #[.bool pub,.string ⟨#[]⟩,ak 0,.string ⟨#[]⟩,ak 0,.bool false,.string ⟨#[]⟩,ak 0] 176):=fun W' ps' i' hr' hk' =>
  ⟨hr',hL.kp.trans hk',hk'.made hnw.1 hnw.2 hs3 (aI w3 _) aS,hs3,hnw.1,hnw.2,(HT.o).dl,aS⟩
 clear ug kA kA' hL X3;go_wp2_with fail
 generalize w3.alloc (.cells #[.bool pub,.string ⟨#[]⟩,ak 0,.string ⟨#[]⟩,ak 0,.bool false,.string ⟨#[]⟩,ak 0] 176)=W3 at *;generalize w3.heap.size=b at *;refine(Ai.o).mono ?_;rintro en w4 ⟨_,_,_,_,_,_,rfl,X4⟩;have B4:=aA ((HBx.o) _ _ _ (X4.o).1 (X4.o).2);clear Ai HBx X4;have Gq:=aA (ow D w2.heap.size ab n1 m _ _ w4 (B4.o).rw HM.o (by simp only[bZ];omega) (by simp only[ay];omega) (B4.o).dn);go_wp2_with fail
 refine(Gq.o).aX fun w5 X5=>?_;have B5:=aA ((B4.o).go (X5.o).1 (X5.o).2);clear Gq X5 B4;have hb5:=(B5.o).bl;have c5:=aj w5 _ 1 _ _ _ hb5;have d5:=aj w5 _ 2 _ _ _ hb5;have f5:w5.frozen? (aC b 1)=false:=dO hb5
 have g5:w5.frozen? (aC b 2)=false:=dO hb5
 have N5:Hid (Bx (w2.alloc (.cells #[aH ab,.slice a4 a5 a6] 119)) ((w5.setCell (aC b 1) (.string (ba m.1))).setCell (aC b 2) (ak m.2)) D w2.heap.size ab _ _ b #[.bool pub,.string (ba m.1),ak m.2,.string ⟨#[]⟩,ak 0,.bool false,.string ⟨#[]⟩,ak 0] 176):=((B5.o).put 1 (.string (ba m.1))).put 2 (ak m.2);clear hb5 B5;go_wp2_with fail
 clear c5 d5 f5 g5;generalize (w5.setCell (aC b 1) (.string (ba m.1))).setCell (aC b 2) (ak m.2)=W5 at *;have Ec:=aA (iN D w2.heap.size ab t2 q2 r2 _ _ W5 (N5.o).rw zm (by simp only[bZ];omega) (by simp only[ay];omega) (N5.o).dn);refine(Ec.o).mono ?_;rintro en w6 ⟨_,_,_,rfl,X6⟩;have B6:=aA ((N5.o).go (X6.o).1 (X6.o).2);clear Ec X6 N5;have Gl:=aA (ow D w2.heap.size ab n2 n _ _ w6 (B6.o).rw HN.o (by simp only[bZ];omega) (by simp only[ay];omega) (B6.o).dn);go_wp2_with fail
 refine(Gl.o).aX fun w7 X7=>?_;have B7:=aA ((B6.o).go (X7.o).1 (X7.o).2);clear Gl X7 B6;have Js:=(B7.o).bl;have c7:=aj w7 _ 3 _ _ _ Js;have d7:=aj w7 _ 4 _ _ _ Js;have f7:w7.frozen? (aC b 3)=false:=dO Js
 have g7:w7.frozen? (aC b 4)=false:=dO Js
 have N7:Hid (Bx (w2.alloc (.cells #[aH ab,.slice a4 a5 a6] 119)) ((w7.setCell (aC b 3) (.string (ba n.1))).setCell (aC b 4) (ak n.2)) D w2.heap.size ab _ _ b #[.bool pub,.string (ba m.1),ak m.2,.string (ba n.1),ak n.2,.bool false,.string ⟨#[]⟩,ak 0] 176):=((B7.o).put 3 (.string (ba n.1))).put 4 (ak n.2);clear Js B7;go_wp2_with fail
 clear c7 d7 f7 g7;generalize (w7.setCell (aC b 3) (.string (ba n.1))).setCell (aC b 4) (ak n.2)=W7 at *;have ha:=aB2 HA.o;clear HA;rcases ha with ⟨t,n',k,qs',eap,egs,hT,hn'⟩|⟨eap,egs,ea⟩
 ·obtain⟨q3,r3,hT3⟩:=(H3.o).y_.BN
  have hr7:=(N7.o).rw;have hpa:pz ap=pz t+pz n':=by rw[eap,bZ]
  have hla:ap.length=t.length+n'.length:=by rw[eap,ay]
  rw[eap,aK] at hr7;have HC8:=aA (Im D w2.heap.size ab k Qz t qs' (n'++t3) _ W7 hr7 hT (by simp only[bZ];omega) (by simp only[ay];omega) (N7.o).dn);have HN':=aA hn';clear hr7 hn';refine(HC8.o).aX fun w8 X8=>?_;have B8:=aA ((N7.o).go (X8.o).1 (X8.o).2);clear HC8 X8 N7;have P6:=(B8.o).bl;have c8:=aj w8 _ 5 _ _ _ P6;have f8:w8.frozen? (aC b 5)=false:=dO P6
  have N8:Hid (Bx (w2.alloc (.cells #[aH ab,.slice a4 a5 a6] 119)) (w8.setCell (aC b 5) (.bool true)) D w2.heap.size ab _ _ b #[.bool pub,.string (ba m.1),ak m.2,.string (ba n.1),ak n.2,.bool true,.string ⟨#[]⟩,ak 0] 176):=(B8.o).put 5 (.bool true);have k8:(w8.setCell (aC b 5) (.bool true)).cell? (aC b 5)=some (.bool true):=aj _ _ 5 _ _ _ (N8.o).bl;clear P6 B8;have HC9:=aA (ow D w2.heap.size ab n' a _ _ _ (N8.o).rw HN'.o (by simp only[bZ];omega) (by simp only[ay];omega) (N8.o).dn);go_wp2_with fail
  clear c8 f8 k8;generalize w8.setCell (aC b 5) (.bool true)=W8 at *;refine(HC9.o).aX fun w9 X9=>?_;have B9:=aA ((N8.o).go (X9.o).1 (X9.o).2);clear HC9 X9 N8;have yR:=(B9.o).bl;have c9:=aj w9 _ 6 _ _ _ yR;have d9:=aj w9 _ 7 _ _ _ yR;have f9:w9.frozen? (aC b 6)=false:=dO yR
  have g9:w9.frozen? (aC b 7)=false:=dO yR
  have N9:Hid (Bx (w2.alloc (.cells #[aH ab,.slice a4 a5 a6] 119)) ((w9.setCell (aC b 6) (.string (ba a.1))).setCell (aC b 7) (ak a.2)) D w2.heap.size ab _ _ b #[.bool pub,.string (ba m.1),ak m.2,.string (ba n.1),ak n.2,.bool true,.string (ba a.1),ak a.2] 176):=((B9.o).put 6 (.string (ba a.1))).put 7 (ak a.2);clear yR B9;go_wp2_with fail
  clear c9 d9 f9 g9;generalize (w9.setCell (aC b 6) (.string (ba a.1))).setCell (aC b 7) (ak a.2)=W9 at *;have hr9:=(N9.o).rw;rw[← aL t3] at hr9;have Ap:=aA (iN D w2.heap.size ab t3 q3 r3 [] _ W9 hr9 hT3 (by rw[aL];omega) (by rw[aL];omega) (N9.o).dn);clear hr9;refine(Ap.o).mono ?_;rintro en P7 ⟨_,_,_,rfl,Ip⟩;have B10:=aA ((N9.o).go (Ip.o).1 (Ip.o).2);clear Ap Ip N9;have HFin:Hid (ng P7 w.heap.size P7.heap.size (.iface 121 (aH b)) (.use pub m n gs a)∧dR P7 D rb ab ps (i+pz (pb++(t1++(n1++(t2++(n2++(ap++t3)))))))∧Kq D rb ab w P7):=by
   obtain⟨z1,z2⟩:=(HT.o).o P7 [] _ (B10.o).rw (B10.o).kp;have hle:=(HT.o).le;have hsz:=(HT.o).sz;have hnb:=(B10.o).nb;rw[hz];rw[egs];refine⟨.use b pub _ m n _ ⟨au,bN (B10.o).bl⟩ (B10.o).bl,?_,z2⟩;rw[show i+(pz pb+(pz t1+(pz n1+(pz t2+(pz n2+(pz ap+pz t3))))))=i+pz pb+pz t1+pz n1+pz t2+pz n2+pz t+pz n'+pz t3 by omega];exact z1
  go_wp2_with fail
  go_ret;exact⟨b,rfl,HFin⟩
 ·have hr7:=(N7.o).rw
  have hpa:pz ap=0:=by rw[eap];rfl
  have hla:ap.length=0:=by rw[eap];rfl
  rw[eap,bM,← aL t3] at hr7;have HC8:=aA (MV D w2.heap.size ab Qz t3 [] _ W7 hr7 H3.o (by rw[aL];omega) (by rw[aL];omega) (N7.o).dn);clear hr7;refine(HC8.o).aX fun w8 X8=>?_;obtain⟨t',q',p',i',x1,x2,x3,x4⟩:=(X8.o).ex;have B8:=aA ((N7.o).go x2 (X8.o).kp);clear HC8 X8 N7 x2;have P6:=(B8.o).bl;have c8:=aj w8 _ 5 _ _ _ P6;have f8:w8.frozen? (aC b 5)=false:=dO P6
  have N8:Hid (Bx (w2.alloc (.cells #[aH ab,.slice a4 a5 a6] 119)) (w8.setCell (aC b 5) (.bool false)) D w2.heap.size ab _ _ b #[.bool pub,.string (ba m.1),ak m.2,.string (ba n.1),ak n.2,.bool false,.string ⟨#[]⟩,ak 0] 176):=(B8.o).put 5 (.bool false);have k8:(w8.setCell (aC b 5) (.bool false)).cell? (aC b 5)=some (.bool false):=aj _ _ 5 _ _ _ (N8.o).bl;clear P6 B8;have HC9:=aA (iN D w2.heap.size ab t' q' p' [] _ _ (N8.o).rw x1 (by rw[aL];omega) (by rw[aL];omega) (N8.o).dn);clear x1;go_wp2_with fail
  clear c8 f8 k8;generalize w8.setCell (aC b 5) (.bool false)=W8 at *;refine(HC9.o).mono ?_;rintro en w9 ⟨_,_,_,rfl,X9⟩;have B9:=aA ((N8.o).go (X9.o).1 (X9.o).2);clear HC9 X9 N8;have HFin:Hid (ng w9 w.heap.size w9.heap.size (.iface 121 (aH b)) (.use pub m n gs a)∧dR w9 D rb ab ps (i+pz (pb++(t1++(n1++(t2++(n2++(ap++t3)))))))∧Kq D rb ab w w9):=by
   obtain⟨z1,z2⟩:=(HT.o).o w9 [] _ (B9.o).rw (B9.o).kp;have hle:=(HT.o).le;have hsz:=(HT.o).sz;have hnb:=(B9.o).nb;rw[hz];rw[egs,ea];refine⟨.use b pub _ m n _ ⟨au,bN (B9.o).bl⟩ (B9.o).bl,?_,z2⟩;rw[show i+(pz pb+(pz t1+(pz n1+(pz t2+(pz n2+(pz ap+pz t3))))))=i'+pz t' by omega];exact z1
  go_wp2_with fail
  go_ret;exact⟨b,rfl,HFin⟩
def sG(w:aG)(lo hi:Nat)(pv:Value)(ps:Option (List Nm)):Prop:=(ps=none∧pv=.pointer none)∨∃ ns pb,ps=some ns∧pv=aH pb∧mY w lo hi pb ns
theorem sG.keep{S:Nat→Prop}{w w':aG}{lo hi:Nat}{pv:Value}{ps:Option (List Nm)}(h:sG w lo hi pv ps)(hk:Kp S w w')(hS:∀ i,lo≤i→i<hi→¬ S i):sG w' lo hi pv ps:=by
 rcases h with h|⟨ns,pb,h1,h2,h3⟩
 ·exact .inl h
 ·exact .inr ⟨ns,pb,h1,h2,h3.keep hk hS⟩
theorem sG.lD{D:Nat→Prop}{rb ab:Nat}{w w':aG}{lo hi:Nat}{pv:Value}{ps:Option (List Nm)}(h:sG w lo hi pv ps)(hk:Kq D rb ab w w')(h1:rb<lo)(h2:ab<lo):sG w' lo hi pv ps:=by
 rcases h with h|⟨ns,pb,a,b,c⟩
 ·exact .inl h
 ·exact .inr ⟨ns,pb,a,b,c.lD hk h1 h2⟩
theorem sG.wide{w:aG}{lo hi lo' hi':Nat}{pv:Value}{ps:Option (List Nm)}(h:sG w lo hi pv ps)(h1:lo'≤lo)(h2:hi≤hi'):sG w lo' hi' pv ps:=by
 rcases h with h|⟨ns,pb,a,b,c⟩
 ·exact .inl h
 ·exact .inr ⟨ns,pb,a,b,c.wide h1 h2⟩
theorem aB5{pr:List Part}{i:Nat}{ps:Option (List Nm)}(h:Prp pr i ps):(∃ qs ns,pr=[.br 6 qs]∧ps=some ns∧nU qs i ns)∨(pr=[]∧ps=none):=by
 cases h with
 | yes qs _ ns h=>exact .inl ⟨qs,ns,rfl,rfl,h⟩
 | no=>exact .inr ⟨rfl,rfl⟩
theorem Tj{t:List Part}(h:sj t):∃ qs p,OO t qs p∧((nk p:Int)==6)=false:=by
 rcases h with ⟨k,x,qs,h⟩|⟨m,rfl⟩
 ·exact⟨qs,_,h.BN,rfl⟩
 ·exact⟨[],.miss m,⟨rfl,fun q hq=>(by cases hq),rfl,rfl⟩,rfl⟩
theorem Tm{pb t:List Part}{pub:Bool}(hp:PS pb pub)(ht:Gg jY t)(ps:List Part):∃ pb' t',PS pb' pub∧Gg jY t'∧(pb++(t++ps)).dropWhile lq=pb'++(t'++ps)∧pz ((pb++(t++ps)).takeWhile lq)+pz pb'+pz t'=pz pb+pz t∧pb'.length≤pb.length∧t'.length≤t.length:=by
 cases hp with
 | yes _ k qs h1 =>
  have hd:=h1.BN.drop (t++ps);have hl:pb.length=qs.length+1:=by rw[h1.eq,ay];rfl
  exact⟨[.leaf k jY],t,.yes _ k [] ⟨rfl,fun q hq=>(by cases hq),h1.ne⟩,ht,hd.1,by rw[hd.2,Fh h1.BN],by rw[hl];show 1≤_;omega,ax _⟩
 | no =>
  rcases ht with ⟨k,x,qs,h1,h2⟩|⟨m,rfl⟩
  ·have hd:=h1.BN.drop ps
   have hl:t.length=qs.length+1:=by rw[h1.eq,ay];rfl
   exact⟨[],[.leaf k x],.no,.inl ⟨k,x,[],⟨rfl,fun q hq=>(by cases hq),h1.ne⟩,h2⟩,hd.1,by rw[bM,hd.2,Fh h1.BN];show _+0+_=0+_;omega,ax _,by rw[hl];show 1≤_;omega⟩
  ·exact⟨[],[.miss m],.no,.inr ⟨m,rfl⟩,rfl,rfl,ax _,ax _⟩
theorem Tn(D:Nat→Prop)(rb ab:Nat)(pb t1 n1 pr t2 t3:List Part)(p:Part)(pub:Bool)(n:Nm)(UW:Option (List Nm))(e:Ex)(ps:List Part)(i:Nat)(w:aG)(h:dR w D rb ab (.br 4 (pb++(t1++(n1++(pr++(t2++([p]++t3))))))::ps) i)
  (hp:PS pb pub) (h1:Gg jY t1) (hn:zG n1 (i+pz pb+pz t1) n) (hr:Prp pr (i+pz pb+pz t1+pz n1) UW) (h2:sj t2) (he:Rd p (i+pz pb+pz t1+pz n1+pz pr+pz t2) e) (h3:sj t3) (YJ:pI p) (sP:∀ qs,pr=[.br 6 qs]→qs.length≤268435456)
  (hi:i+pz (pb++(t1++(n1++(pr++(t2++([p]++t3))))))≤1073741824) (hpl:(pb++(t1++(n1++(pr++(t2++([p]++t3)))))).length≤1073741824) (hDl:∀ q,D q→q<w.heap.size) :
  bB 46 #[aH rb] w fun en w'=>∃ b,en=.returned (aH b)∧Hid (ng w' w.heap.size w'.heap.size (.iface 123 (aH b)) (.dfn pub n UW e)∧dR w' D rb ab ps (i+pz (pb++(t1++(n1++(pr++(t2++([p]++t3)))))))∧Kq D rb ab w w'):=by
 obtain⟨q2,r2,zm,hk2⟩:=Tj h2;obtain⟨q3,r3,hT3⟩:=h3.BN;have hz:pz (pb++(t1++(n1++(pr++(t2++([p]++t3))))))=pz pb+(pz t1+(pz n1+(pz pr+(pz t2+(pz [p]+pz t3))))):=by rw[bZ,bZ,bZ,bZ,bZ,bZ]
 have hl1:[p].length=1:=rfl;have pF:=aA (ou D rb ab _ ps i w h (by show i+0≤_;omega) hDl);have nP:=aA hDl;have hgq:=aA h.JI.br.2;have hlw:=h.lt;have HP:=aA hp;have HN:=aA hn;have HR:=aA hr;have HV:=aA he;have H1:=aA h1;have hi':=hi;have hpl':=hpl;rw[hz] at hi;simp only[ay] at hpl;clear h h1 h2 h3 hDl hn hp hr he;go_enter func46,ntmps46;go_wp2_with fail
 refine(pF.o).mono ?_;rintro en w2 ⟨a4,a5,a6,rfl,X2⟩;have HT:Hid (aB1 w D rb ab ps (pb++(t1++(n1++(pr++(t2++([p]++t3)))))) i w2 (.slice a4 a5 a6)):=MW (X2.o) hgq.o nP.o;clear pF X2;have Jz:=aA (lY D w2.heap.size ab _ i _ (HT.o).inn hi' hpl' (HT.o).dl);clear hi' hpl';obtain⟨pb2,t1b,hP2,aW0,hdrop,bQ0,zT,hlt2⟩:=Tm HP.o H1.o (n1++(pr++(t2++([p]++t3))));rw[hdrop] at Jz;have oU:=aA hP2;have HT1:=aA aW0;have hnw:=(HT.o).inn.lt;clear hP2 aW0 HP H1 hdrop;generalize hj0:i+pz ((pb++(t1++(n1++(pr++(t2++([p]++t3)))))).takeWhile lq)=j0 at Jz;have hjs:j0+pz pb2+pz t1b=i+pz pb+pz t1:=au
 clear hj0 bQ0;go_wp2_with fail
 refine(Jz.o).aX fun Tp X25=>?_;have hro:=(HT.o).o Tp _ _ (X25.o).1 (X25.o).2;obtain⟨vo,UU,-⟩:=hro.1.blk;have ro:=aj Tp _ 0 _ _ _ UU;obtain⟨bv2,bl2,XL,gp2,Bl,-⟩:=hro.1.Bj.ex;have po:=aj Tp _ 0 _ _ _ Bl;have bQ1:=(X25.o).2.size;have kA:Below Tp.heap.size Tp (Tp.alloc (.cells #[.bool false,.string ⟨#[]⟩,ak 0,.pointer none,.nilIface,ak j0,ak 0] 181)):=(aB _ Tp).alloc (ax _) _;have B25:Hid (Bx (w2.alloc (.cells #[aH ab,.slice a4 a5 a6] 119)) (Tp.alloc (.cells #[.bool false,.string ⟨#[]⟩,ak 0,.pointer none,.nilIface,ak j0,ak 0] 181)) D w2.heap.size ab (pb2++(t1b++(n1++(pr++(t2++([p]++t3)))))) j0 Tp.heap.size #[.bool false,.string ⟨#[]⟩,ak 0,.pointer none,.nilIface,ak j0,ak 0] 181):=⟨(X25.o).1.below kA,(X25.o).2.more kA hnw.2,aI Tp _,bQ1,hnw.1,hnw.2,(HT.o).dl,aS⟩;have ug:=aA (Io D w2.heap.size ab pb2 t1b _ pub j0 _ (B25.o).rw oU.o HT1.o (by simp only[bZ];omega) (by simp only[ay];omega) (B25.o).dn);clear hro UU Bl kA X25 Jz;go_wp2_with fail
 clear ro po;generalize Tp.alloc (.cells #[.bool false,.string ⟨#[]⟩,ak 0,.pointer none,.nilIface,ak j0,ak 0] 181)=W25 at *;generalize Tp.heap.size=b at *;refine(ug.o).aX fun w3 X3=>?_;obtain⟨t',q',p',i',x1,x2,x3,x4⟩:=(X3.o).ex;have B3:=aA ((B25.o).go x2 (X3.o).kp);have hb3:=(B3.o).bl;have c3:=aj w3 _ 0 _ _ _ hb3;have f3:w3.frozen? (aC b 0)=false:=dO hb3
 have N3:Hid (Bx (w2.alloc (.cells #[aH ab,.slice a4 a5 a6] 119)) (w3.setCell (aC b 0) (.bool pub)) D w2.heap.size ab _ _ b #[.bool pub,.string ⟨#[]⟩,ak 0,.pointer none,.nilIface,ak j0,ak 0] 181):=(B3.o).put 0 (.bool pub);have Ai:=aA (iN D w2.heap.size ab t' q' p' (n1++(pr++(t2++([p]++t3)))) i' _ (N3.o).rw x1 (by simp only[bZ];omega) (by simp only[ay];omega) (N3.o).dn);rw[x3,hjs] at Ai;clear hb3 B3 x2 X3 ug B25;go_wp2_with fail
 clear c3 f3;generalize w3.setCell (aC b 0) (.bool pub)=W3 at *;refine(Ai.o).mono ?_;rintro en w4 ⟨_,_,_,rfl,X4⟩;have B4:=aA ((N3.o).go (X4.o).1 (X4.o).2);clear Ai X4 N3;have Gq:=aA (ow D w2.heap.size ab n1 n _ _ w4 (B4.o).rw HN.o (by simp only[bZ];omega) (by simp only[ay];omega) (B4.o).dn);go_wp2_with fail
 refine(Gq.o).aX fun w5 X5=>?_;have B5:=aA ((B4.o).go (X5.o).1 (X5.o).2);clear Gq X5 B4;have hb5:=(B5.o).bl;have c5:=aj w5 _ 1 _ _ _ hb5;have d5:=aj w5 _ 2 _ _ _ hb5;have f5:w5.frozen? (aC b 1)=false:=dO hb5
 have g5:w5.frozen? (aC b 2)=false:=dO hb5
 have N5:Hid (Bx (w2.alloc (.cells #[aH ab,.slice a4 a5 a6] 119)) ((w5.setCell (aC b 1) (.string (ba n.1))).setCell (aC b 2) (ak n.2)) D w2.heap.size ab _ _ b #[.bool pub,.string (ba n.1),ak n.2,.pointer none,.nilIface,ak j0,ak 0] 181):=((B5.o).put 1 (.string (ba n.1))).put 2 (ak n.2);clear hb5 B5;go_wp2_with fail
 clear c5 d5 f5 g5;generalize (w5.setCell (aC b 1) (.string (ba n.1))).setCell (aC b 2) (ak n.2)=W5 at *;have Ec:=aA (lY D w2.heap.size ab _ _ W5 (N5.o).rw (by simp only[bZ];omega) (by simp only[ay];omega) (N5.o).dn);have hpr:=aB5 HR.o;clear HR;rcases hpr with ⟨qs,ns,epr,eso,hns⟩|⟨epr,eso⟩
 ·refine(Ec.o).mono ?_
  rintro en w6 ⟨hen,X6⟩;have hdw:(pr++(t2++([p]++t3))).dropWhile lq=Part.br 6 qs::(t2++([p]++t3))∧(pr++(t2++([p]++t3))).takeWhile lq=[]:=by rw[epr];exact vw (qs:=[]) (fun q hq=>(by cases hq)) rfl
  rw[hdw.1,hdw.2] at X6;rw[hdw.1,show decide (Part.br 6 qs::(t2++([p]++t3))≠[])=true by simp] at hen;subst hen;have B6:=aA ((N5.o).go (X6.o).1 (X6.o).2);obtain⟨v0,hb0,hn0⟩:=(X6.o).1.blk;have c1:=aj w6 _ 1 _ _ _ hb0;obtain⟨g,o,cap,kv,rfl,hD,y0,y1,y2,y3,hkk,-,hc1,hc2,-,-⟩:=hn0.head;have y0':w6.cell? (aC g o)=some (ak 6):=y0;have hi1:(0:Int)<((((t2++([p]++t3))).length+1:Nat):Int):=au
  have hi2:0<((t2++([p]++t3))).length+1:=au
  clear Ec X6 N5 hb0 hn0 hkk y0 y1 y2 y3 hdw;have OT:nU qs (i+pz pb+pz t1+pz n1+pz []) ns:=by rw[rA,Nat.add_zero];exact hns
  have hzq:pz pr=pz qs:=by rw[epr,iw]
  have hz0:pz []=0:=rfl;have hq0:=sP qs epr;have hq1:=MR hns;have Gl:=aA (yG D w2.heap.size ab qs ns _ _ w6 (B6.o).rw OT au hq0 au (B6.o).dn);clear hns OT;have hb6:=bN (B6.o).bl;go_wp2_with fail
  refine(Gl.o).mono ?_;rintro en w7 ⟨qb,rfl,X7⟩;have B7:=aA ((B6.o).go (X7.o).2.1 (X7.o).2.2);have hs7:=(X7.o).2.2.size;have Js:=(B7.o).bl;have c7:=aj w7 _ 3 _ _ _ Js;have f7:w7.frozen? (aC b 3)=false:=dO Js
  have B9:Hid (Bx (w2.alloc (.cells #[aH ab,.slice a4 a5 a6] 119)) (w7.setCell (aC b 3) (aH qb)) D w2.heap.size ab _ _ b #[.bool pub,.string (ba n.1),ak n.2,aH qb,.nilIface,ak j0,ak 0] 181):=(B7.o).put 3 (aH qb);have hk7:Kp (fun q=>q=b) w7 (w7.setCell (aC b 3) (aH qb)):=On.set (Kp.refl _ w7) 3 _;have P9:Hid (sG (w7.setCell (aC b 3) (aH qb)) w6.heap.size w7.heap.size (aH qb) UW):=.inr ⟨ns,qb,eso,rfl,(X7.o).1.keep hk7 (fun q l1 l2 e=>au)⟩;have hs9:=hk7.size;have hj:i+pz pb+pz t1+pz n1+pz []+pz qs+pz t2=(i+pz pb+pz t1+pz n1+pz pr+pz t2):=au
  clear Gl X7 B6 B7 Js hk7 c1 y0' hD hi1 hi2;have hbW:=bN (B9.o).bl;have Ap:=aA (iN D w2.heap.size ab t2 q2 r2 ([p]++t3) _ _ (B9.o).rw zm (by simp only[bZ];omega) (by simp only[ay];omega) (B9.o).dn);go_wp2_with fail
  clear c7 f7;generalize w7.setCell (aC b 3) (aH qb)=W7 at *;refine(Ap.o).mono ?_;rintro en P7 ⟨_,_,_,rfl,Ip⟩;rw[hj] at Ip;have B10:=aA ((B9.o).go (Ip.o).1 (Ip.o).2);have P10:=aA ((P9.o).lD (Ip.o).2 au au);have bQ4:=(Ip.o).2.size;clear Ap Ip B9 P9;have zV:=aA (YJ e (i+pz pb+pz t1+pz n1+pz pr+pz t2) D w2.heap.size ab t3 P7 HV.o (B10.o).rw au (B10.o).dn);go_wp2_with fail
  refine(zV.o).mono ?_;rintro en K9 ⟨v,rfl,K_⟩;obtain⟨y1,g1,hv1⟩:=(K_.o).1.iface;subst hv1;have B11:=aA ((B10.o).go (K_.o).2.1 (K_.o).2.2);have bQ5:=(K_.o).2.2.size;have La:=(B11.o).bl;have c11:=aj K9 _ 4 _ _ _ La;have f11:K9.frozen? (aC b 4)=false:=dO La
  have WG:Hid (Bx (w2.alloc (.cells #[aH ab,.slice a4 a5 a6] 119)) (K9.setCell (aC b 4) (.iface y1 (aH g1))) D w2.heap.size ab _ _ b #[.bool pub,.string (ba n.1),ak n.2,aH qb,.iface y1 (aH g1),ak j0,ak 0] 181):=(B11.o).put 4 (.iface y1 (aH g1));have Fj:Kp (fun q=>q=b) K9 (K9.setCell (aC b 4) (.iface y1 (aH g1))):=On.set (Kp.refl _ K9) 4 _;have E11:=aA ((K_.o).1.keep Fj (fun q l1 l2 e=>au));have P11:=aA (((P10.o).lD (K_.o).2.2 au au).keep Fj (fun q l1 l2 e=>au));have bQ6:=Fj.size;clear zV K_ B10 B11 La Fj P10;go_wp2_with fail
  clear c11 f11;generalize K9.setCell (aC b 4) (.iface y1 (aH g1))=W11 at *;have Lb:=(WG.o).rw;rw[← aL t3] at Lb;have zW:=aA (iN D w2.heap.size ab t3 q3 r3 [] _ W11 Lb hT3 (by rw[aL];omega) (by rw[aL];omega) (WG.o).dn);clear Lb;refine(zW.o).mono ?_;rintro en wK ⟨_,_,_,rfl,OY⟩;have Tq:=aA ((WG.o).go (OY.o).1 (OY.o).2);have hro:=(HT.o).o wK [] _ (Tq.o).rw (Tq.o).kp;obtain⟨vo,UU,-⟩:=hro.1.blk;have ro:=aj wK _ 0 _ _ _ UU;obtain⟨bv2,bl2,XL,gp2,Bl,-⟩:=hro.1.Bj.ex;have po:=aj wK _ 0 _ _ _ Bl;have xU:=(Tq.o).bl;have c12:=aj wK _ 6 _ _ _ xU;have f12:wK.frozen? (aC b 6)=false:=dO xU
  have HFin:Hid (∀ zz:Int,ng (wK.setCell (aC b 6) (ak zz)) w.heap.size (wK.setCell (aC b 6) (ak zz)).heap.size (.iface 123 (aH b)) (.dfn pub n UW e)∧dR (wK.setCell (aC b 6) (ak zz)) D rb ab ps (i+pz (pb++(t1++(n1++(pr++(t2++([p]++t3)))))))∧Kq D rb ab w (wK.setCell (aC b 6) (ak zz))):=fun zz=>by
   have hle:=(HT.o).le;have hsz:=(HT.o).sz;have hnb:=(Tq.o).nb;have bQ8:=(OY.o).2.size;have E12:=(E11.o).lD (OY.o).2 au au;have P12:=(P11.o).lD (OY.o).2 au au;have Lc:Kp (fun q=>q=b) wK (wK.setCell (aC b 6) (ak zz)):=On.set (Kp.refl _ wK) 6 _;have aB6:=dV xU 6 (ak zz);have aB7:(wK.setCell (aC b 6) (ak zz)).heap.size=wK.heap.size:=by simp[World.setCell]
   have hbl:=bN xU;have hal:=hlw.2;rw[hz,aB7];refine⟨.dfn b pub n _ UW _ e ⟨au,hbl⟩ aB6 ((P12.keep Lc (fun q l1 l2 e=>au)).wide au au) ((E12.keep Lc (fun q l1 l2 e=>au)).wide au au),?_,hro.2.set hal au 6 _⟩;rw[show i+(pz pb+(pz t1+(pz n1+(pz pr+(pz t2+(pz [p]+pz t3))))))=(i+pz pb+pz t1+pz n1+pz pr+pz t2)+pz [p]+pz t3 by omega];exact hro.1.on Lc xU aS au au (fun hd=>by have:=(nP.o) _ hd;omega)
  clear zW OY WG E11 P11 Tq hro UU Bl xU;go_wp2_with fail
  go_ret;exact⟨b,rfl,(HFin.o) _⟩
 ·refine(Ec.o).mono ?_
  rintro en w6 ⟨hen,X6⟩;have hdw:(pr++(t2++([p]++t3))).dropWhile lq=r2::([p]++t3)∧(pr++(t2++([p]++t3))).takeWhile lq=q2:=by rw[epr];exact zm.drop _
  rw[hdw.1,hdw.2] at X6;rw[hdw.1,show decide (r2::([p]++t3)≠[])=true by simp] at hen;subst hen;have B6:=aA ((N5.o).go (X6.o).1 (X6.o).2);obtain⟨v0,hb0,hn0⟩:=(X6.o).1.blk;have c1:=aj w6 _ 1 _ _ _ hb0;obtain⟨g,o,cap,kv,rfl,hD,y0,y1,y2,y3,hkk,-,hc1,hc2,-,-⟩:=hn0.head;have y0':=y0;have hi1:(0:Int)<(((([p]++t3)).length+1:Nat):Int):=au
  have hi2:0<(([p]++t3)).length+1:=au
  clear Ec X6 N5 hb0 hn0 hkk y0 y1 y2 y3 hdw;have hzq:pz pr=0:=by rw[epr];rfl
  have hz2:=Fh zm;have hl2:t2.length=q2.length+1:=by rw[zm.eq,ay];rfl
  have hl3:[r2].length=1:=rfl;have hj:i+pz pb+pz t1+pz n1+pz q2+pz [r2]=(i+pz pb+pz t1+pz n1+pz pr+pz t2):=au
  have B9:Hid (Bx (w2.alloc (.cells #[aH ab,.slice a4 a5 a6] 119)) w6 D w2.heap.size ab ([r2]++([p]++t3)) _ b #[.bool pub,.string (ba n.1),ak n.2,.pointer none,.nilIface,ak j0,ak 0] 181):=B6.o;have P9:Hid (sG w6 (b+1) (b+1) (.pointer none) UW):=.inl ⟨eso,rfl⟩;have hTr:=MU zm;clear B6;have hbW:=bN (B9.o).bl;have Ap:=aA (iN D w2.heap.size ab [r2] [] r2 ([p]++t3) _ _ (B9.o).rw hTr (by simp only[bZ];omega) (by simp only[ay];omega) (B9.o).dn);go_wp2_with fail
  clear c1 y0' hD hi1 hi2;refine(Ap.o).mono ?_;rintro en P7 ⟨_,_,_,rfl,Ip⟩;rw[hj] at Ip;have B10:=aA ((B9.o).go (Ip.o).1 (Ip.o).2);have P10:=aA ((P9.o).lD (Ip.o).2 au au);have bQ4:=(Ip.o).2.size;clear Ap Ip B9 P9;have zV:=aA (YJ e (i+pz pb+pz t1+pz n1+pz pr+pz t2) D w2.heap.size ab t3 P7 HV.o (B10.o).rw au (B10.o).dn);go_wp2_with fail
  refine(zV.o).mono ?_;rintro en K9 ⟨v,rfl,K_⟩;obtain⟨y1,g1,hv1⟩:=(K_.o).1.iface;subst hv1;have B11:=aA ((B10.o).go (K_.o).2.1 (K_.o).2.2);have bQ5:=(K_.o).2.2.size;have La:=(B11.o).bl;have c11:=aj K9 _ 4 _ _ _ La;have f11:K9.frozen? (aC b 4)=false:=dO La
  have WG:Hid (Bx (w2.alloc (.cells #[aH ab,.slice a4 a5 a6] 119)) (K9.setCell (aC b 4) (.iface y1 (aH g1))) D w2.heap.size ab _ _ b #[.bool pub,.string (ba n.1),ak n.2,.pointer none,.iface y1 (aH g1),ak j0,ak 0] 181):=(B11.o).put 4 (.iface y1 (aH g1));have Fj:Kp (fun q=>q=b) K9 (K9.setCell (aC b 4) (.iface y1 (aH g1))):=On.set (Kp.refl _ K9) 4 _;have E11:=aA ((K_.o).1.keep Fj (fun q l1 l2 e=>au));have P11:=aA (((P10.o).lD (K_.o).2.2 au au).keep Fj (fun q l1 l2 e=>au));have bQ6:=Fj.size;clear zV K_ B10 B11 La Fj P10;go_wp2_with fail
  clear c11 f11;generalize K9.setCell (aC b 4) (.iface y1 (aH g1))=W11 at *;have Lb:=(WG.o).rw;rw[← aL t3] at Lb;have zW:=aA (iN D w2.heap.size ab t3 q3 r3 [] _ W11 Lb hT3 (by rw[aL];omega) (by rw[aL];omega) (WG.o).dn);clear Lb;refine(zW.o).mono ?_;rintro en wK ⟨_,_,_,rfl,OY⟩;have Tq:=aA ((WG.o).go (OY.o).1 (OY.o).2);have hro:=(HT.o).o wK [] _ (Tq.o).rw (Tq.o).kp;obtain⟨vo,UU,-⟩:=hro.1.blk;have ro:=aj wK _ 0 _ _ _ UU;obtain⟨bv2,bl2,XL,gp2,Bl,-⟩:=hro.1.Bj.ex;have po:=aj wK _ 0 _ _ _ Bl;have xU:=(Tq.o).bl;have c12:=aj wK _ 6 _ _ _ xU;have f12:wK.frozen? (aC b 6)=false:=dO xU
  have HFin:Hid (∀ zz:Int,ng (wK.setCell (aC b 6) (ak zz)) w.heap.size (wK.setCell (aC b 6) (ak zz)).heap.size (.iface 123 (aH b)) (.dfn pub n UW e)∧dR (wK.setCell (aC b 6) (ak zz)) D rb ab ps (i+pz (pb++(t1++(n1++(pr++(t2++([p]++t3)))))))∧Kq D rb ab w (wK.setCell (aC b 6) (ak zz))):=fun zz=>by
   have hle:=(HT.o).le;have hsz:=(HT.o).sz;have hnb:=(Tq.o).nb;have bQ8:=(OY.o).2.size;have E12:=(E11.o).lD (OY.o).2 au au;have P12:=(P11.o).lD (OY.o).2 au au;have Lc:Kp (fun q=>q=b) wK (wK.setCell (aC b 6) (ak zz)):=On.set (Kp.refl _ wK) 6 _;have aB6:=dV xU 6 (ak zz);have aB7:(wK.setCell (aC b 6) (ak zz)).heap.size=wK.heap.size:=by simp[World.setCell]
   have hbl:=bN xU;have hal:=hlw.2;rw[hz,aB7];refine⟨.dfn b pub n _ UW _ e ⟨au,hbl⟩ aB6 ((P12.keep Lc (fun q l1 l2 e=>au)).wide au au) ((E12.keep Lc (fun q l1 l2 e=>au)).wide au au),?_,hro.2.set hal au 6 _⟩;rw[show i+(pz pb+(pz t1+(pz n1+(pz pr+(pz t2+(pz [p]+pz t3))))))=(i+pz pb+pz t1+pz n1+pz pr+pz t2)+pz [p]+pz t3 by omega];exact hro.1.on Lc xU aS au au (fun hd=>by have:=(nP.o) _ hd;omega)
  clear zW OY WG E11 P11 Tq hro UU Bl xU;go_wp2_with fail
  go_ret;exact⟨b,rfl,(HFin.o) _⟩
end
section
open X
variable{w wr:aG}{D:Nat→Prop}{rb ab tot kb k:Nat}{ps l:List Part}
structure Cq(w:aG)(D:Nat→Prop)(rb ab:Nat)(ps:List Part)(tot kb:Nat)(l:List Part)(k:Nat)(wr:aG):Prop where
 rw:dR wr D kb ab l k
 lv:∀ q∈l,∃ k x,q=Part.leaf k x
 o:∃ v,wr.heap[rb]?=some (.cells #[aH ab,v] 119 (0,0))∧qL wr D v ps
 new:w.heap.size≤kb
 kp:Kq D rb ab w wr
 pos:k+pz l=tot
theorem Cq.step(h:Cq w D rb ab ps tot kb l k wr){w2:aG}{l2:List Part}{k2:Nat}(hr:rb<w.heap.size)(hne:rb≠ab)(hk:Kq D kb ab wr w2)(hw:dR w2 D kb ab l2 k2)(hn:∀ q∈l2,∃ k x,q=Part.leaf k x)(hp:k2+pz l2=tot):Cq w D rb ab ps tot kb l2 k2 w2:=by
 obtain⟨v,e,hv⟩:=h.o;have n1:=h.new;exact⟨hw,hn,⟨v,hk.heap e aS au hne,hk.nds hv hw.sep.2.1 hw.sep.2.2⟩,h.new,h.kp.inner hk n1,hp⟩
theorem Cq.copy(h:Cq w D rb ab ps tot kb l k wr)(hDlt:∀ {q},D q→q<w.heap.size)(ha:ab<w.heap.size){v:Value}(hb:wr.heap[kb]?=some (.cells #[aH ab,v] 119 (0,0))):Cq w D rb ab ps tot wr.heap.size l k (wr.alloc (.cells #[aH ab,v] 119)):=by
 have kB:Below wr.heap.size wr (wr.alloc (.cells #[aH ab,v] 119)):=(aB _ wr).alloc (ax _) _;have hk:=Kp.aN kB (fun _=>False);obtain⟨v0,e0,hn0⟩:=h.o;obtain⟨v',e1,hn1⟩:=h.rw.blk;obtain rfl:v'=v:=by
  rw[hb] at e1;cases e1;rfl
 have hkl:=bN hb;have hs:=h.kp.size;refine⟨⟨⟨v',aI wr _,hn1.keep hk (fun _ _=>id)⟩,h.rw.Bj.below kB,⟨by have:=h.rw.Bj.lt;omega,?_,h.rw.sep.2.2⟩,h.rw.JI⟩,h.lv,⟨v0,hk.heap e0 id,hn0.keep hk (fun _ _=>id)⟩,hs,h.kp.more kB ha,h.pos⟩;intro hd;have:=hDlt hd;omega
theorem OZ(D:Nat→Prop)(rb ab:Nat)(qs:List Part)(ps:List Part)(i:Nat)(w:aG)(h:dR w D rb ab (.br 5 qs::ps) i)(hn:∀ q∈qs,∃ k x,q=Part.leaf k x)(hi:i+pz qs≤1073741824)(sP:qs.length≤268435456)(hDl:∀ q,D q→q<w.heap.size) :
  bB 47 #[aH rb] w (cK (.tuple #[]) fun w'=>Hid (dR w' D rb ab ps (i+pz qs)∧Kq D rb ab w w')):=by
 obtain⟨hr,ha⟩:=h.lt;have hsep:=h.sep;have hgq:=h.JI.br.2;have hgp:=h.JI.tail;have HE:=aA (ou D rb ab (.br 5 qs) ps i _ h (by show i+0≤_;omega) hDl);have nP:=aA hDl;clear h hDl;go_enter func47,ntmps47;go_wp2_with fail
 refine(HE.o).mono ?_;rintro e w2 ⟨a4,a5,a6,rfl,H2⟩;have H2':Hid (qL w2 D (.slice a4 a5 a6) qs∧dR w2 D rb ab ps i∧Kq D rb ab w w2):=H2.o;have HI0:Hid (Cq w D rb ab ps (i+pz qs) w2.heap.size qs i (w2.alloc (.cells #[aH ab,.slice a4 a5 a6] 119))):=by
  obtain⟨x1,x2,x3⟩:=H2'.o;have hs2:=x3.size;have kB:Below w2.heap.size w2 (w2.alloc (.cells #[aH ab,.slice a4 a5 a6] 119)):=(aB _ w2).alloc (ax _) _;have x2b:=x2.below kB;exact⟨⟨⟨_,aI w2 _,x1.keep (Kp.aN kB (fun _=>False)) (fun _ _=>id)⟩,x2b.Bj,⟨au,fun hd=>by have:=(nP.o) _ hd;omega,x2.sep.2.2⟩,hgq⟩,hn,x2b.blk,hs2,x3.more kB ha,rfl⟩
 clear H2 H2' HE;go_wp2_with fail
 generalize w2.alloc (.cells #[aH ab,.slice a4 a5 a6] 119)=W2 at *;go_loopw [2] (fun kv wr=>∃(kb:Nat) (l:List Part) (k:Nat),kv=aH kb∧l.length≤268435456∧Hid (Cq w D rb ab ps (i+pz qs) kb l k wr)) (fun kv wr=>WA kv wr)
 case atStart=>exact⟨w2.heap.size,qs,i,rfl,sP,HI0⟩
 case round =>
  obtain⟨kb,l,k,rfl,hll,HI⟩:=hrel;clear HI0;have hlen:WA (aH kb) wr=l.length:=(HI.o).rw.len;have hpos:=(HI.o).pos;have HDw:∀ q,D q→q<wr.heap.size:=fun q hq=>aJ ((nP.o) q hq) (HI.o).kp.size
  have HM:=aA (lY D kb ab l k wr (HI.o).rw au au HDw);clear HDw;go_wp2_with fail
  refine(HM.o).aX fun w3 H3=>?_;have hpz:pz l=pz (l.takeWhile lq)+pz (l.dropWhile lq):=by rw[← bZ,fE]
  have hdl:(l.dropWhile lq).length≤l.length:=(gD _).length_le;have HI3:Hid (Cq w D rb ab ps (i+pz qs) kb (l.dropWhile lq) (k+pz (l.takeWhile lq)) w3) :=
   (HI.o).step hr hsep.1 (H3.o).2 (H3.o).1 (fun q hq=>(HI.o).lv q ((gD _).subset hq)) au
  clear HM H3 HI;generalize l.dropWhile lq=l3 at *;generalize k+pz (l.takeWhile lq)=k3 at *;cases l3 with
  | nil =>
   have HF:Hid (dR w3 D rb ab ps (i+pz qs)∧Kq D rb ab w w3):=by
    have hp3:k3=i+pz qs:=(HI3.o).pos;exact⟨⟨(HI3.o).o,by rw[← hp3];exact(HI3.o).rw.Bj,hsep,hgp⟩,(HI3.o).kp⟩
   have hdf:decide (([]:List Part)≠[])=false:=aT
   rw[hdf];clear HI3;go_wp2_with fail
   exact bodyPost_end (results_none rfl _ _ _) rfl ⟨rfl,HF⟩
  | cons p l4 =>
   have hdt:decide (p::l4≠[])=true:=aT
   rw[hdt];clear hdt;have yH:=(HI3.o).pos;rw[gF] at yH;rw[aY] at hdl;have hln:JH p=pz [p]:=by
    obtain⟨k',x',rfl⟩:=(HI3.o).lv p aT;exact(ji k' x').symm
   have UR:=aA (lN D kb ab p l4 k3 w3 (HI3.o).rw au (fun q hq=>aJ ((nP.o) q hq) (HI3.o).kp.size));go_wp2_with fail
   refine(UR.o).mono ?_;rintro e w5 ⟨d4,d5,d6,rfl,H5⟩;have sQ:Hid (Cq w D rb ab ps (i+pz qs) kb l4 (k3+pz [p]) w5):=by
    obtain⟨-,z2,z3⟩:=H5.o;rw[hln] at z2;exact(HI3.o).step hr hsep.1 z3 z2 (fun q hq=>(HI3.o).lv q (eX _ hq)) au
   clear H5 UR HI3;obtain⟨v5,hb5,YP⟩:=(sQ.o).rw.blk;have c0:=aj w5 _ 0 _ _ _ hb5;obtain⟨f4,f6,_,_,_,_,rfl,-⟩:=YP.ex;have c1:=aj w5 _ 1 _ _ _ hb5;have Gb:=aA ((sQ.o).copy (fun {q} hq=>(nP.o) q hq) ha (v:=.slice f4 l4.length f6) hb5);clear hb5 YP sQ;go_wp2_with fail
   refine⟨⟨w5.heap.size,l4,k3+pz [p],rfl,au,Gb⟩,?_⟩;have:=(Gb.o).rw.len;rw[hlen];show Fa w5.heap.size _<_;rw[this];omega
end
section
open X
variable{D:Nat→Prop}{ab k kb tot k2:Nat}{w wr:aG}{v rv:Value}{e:It}{p:Part}{l l2:List Part}{its es acc:List It}{vs:List Value}
theorem ng.keep{S:Nat→Prop}{w w':aG}(hk:Kp S w w'){lo hi:Nat}(hS:∀ i,lo≤i→i<hi→¬ S i){v:Value}{e:It}(h:ng w lo hi v e):ng w' lo hi v e:=by
 cases h with
 | use b pub gs m n a hb h=>exact .use b pub gs m n a hb (hk.heap h (hS b hb.1 hb.2))
 | dfn b pub n pv ps v e hb h hp he=>exact .dfn b pub n pv ps v e hb (hk.heap h (hS b hb.1 hb.2)) (sG.keep hp hk hS) (he.keep hk hS)
theorem sG.rY{S:Nat→Prop}{w w':aG}{lo hi:Nat}{pv:Value}{ps:Option (List Nm)}(h:sG w lo hi pv ps)(hk:Kp S w w')(hS:∀ i,lo≤i→i<hi→S i→∃ c f,w.heap[i]?=some (.cells c 3 f)):sG w' lo hi pv ps:=by
 rcases h with h|⟨ns,pb,a,b,c⟩
 ·exact .inl h
 ·exact .inr ⟨ns,pb,a,b,c.rY hk hS⟩
theorem ng.rY{S:Nat→Prop}{w w':aG}(hk:Kp S w w'){lo hi:Nat}(hS:∀ i,lo≤i→i<hi→S i→∃ c f,w.heap[i]?=some (.cells c 3 f)){v:Value}{e:It}(h:ng w lo hi v e):ng w' lo hi v e:=by
 cases h with
 | use b pub gs m n a hb h=>exact .use b pub gs m n a hb (hk.heap h (fun e=>oF h aS (hS _ hb.1 hb.2 e)))
 | dfn b pub n pv ps v e hb h hp he=>exact .dfn b pub n pv ps v e hb (hk.heap h (fun e=>oF h aS (hS _ hb.1 hb.2 e))) (sG.rY hp hk hS) (he.rY hk hS)
theorem ng.lD{rb:Nat}{w':aG}(hk:Kq D rb ab w w'){lo hi:Nat}(h:ng w lo hi v e)(h1:rb<lo)(h2:ab<lo):ng w' lo hi v e:=h.rY hk.kp (fun _ hi _ e=>e.int h1 h2 hi)
theorem ng.wide{w:aG}{lo hi lo' hi':Nat}(q1:lo'≤lo)(q2:hi≤hi'){v:Value}{e:It}(h:ng w lo hi v e):ng w lo' hi' v e:=by
 cases h with
 | use b pub gs m n a hb h=>exact .use b pub gs m n a ⟨au,au⟩ h
 | dfn b pub n pv ps v e hb h hp he=>exact .dfn b pub n pv ps v e ⟨au,au⟩ h (sG.wide hp q1 q2) (he.wide q1 q2)
theorem aB8{i:Nat}{it:It}(h:X.BV p i it):lq p=false:=by cases h<;>rfl
theorem DC:∀(l:List Part),(∀ q∈l,lq q=true)→l.dropWhile lq=[]
 | [],_=>rfl
 | p::l,h=>by rw[kY (h p aT)];exact DC l (fun q hq=>h q (eX _ hq))
theorem O0(h:uG l k its):uG (l.dropWhile lq) (k+pz (l.takeWhile lq)) its:=by
 cases h with
 | leaves _ _ h=>rw[DC l h];exact .leaves _ _ (fun q hq=>by cases hq)
 | junk qs ps _ _ hq h =>
  have e:lq (.br 5 qs)=false:=rfl;rw[fT (by rw[e];simp),fq (by rw[e];simp)];exact .junk qs ps _ _ hq h
 | item p ps _ it its hp h =>
  have e:=aB8 hp;rw[fT (by rw[e];simp),fq (by rw[e];simp)];exact .item p ps _ it its hp h
theorem Tt(h:uG (p::l) k its)(hq:lq p=false):(∃ qs,p=.br 5 qs∧(∀ q∈qs,∃ k x,q=Part.leaf k x)∧uG l (k+pz [p]) its)∨∃ it WH,its=it::WH∧X.BV p k it∧uG l (k+pz [p]) WH:=by
 cases h with
 | leaves _ _ h=>have:=h p aT;rw[hq] at this;cases this
 | junk qs ps _ _ hl h=>exact .inl ⟨qs,rfl,hl,h⟩
 | item p ps _ it its hp h=>exact .inr ⟨it,its,rfl,hp,h⟩
theorem MI(h:uG l k its):its.length≤l.length:=by
 induction h with
 | leaves _ _ h=>exact bJ _
 | junk qs ps _ _ hq h ih=>rw[aY];omega
 | item p ps _ it its hp h ih=>rw[aY,aY];omega
structure rW(w:aG)(lo hi:Nat)(rv:Value)(es:List It):Prop where
 ex:∃(ao:Option Addr) (cap:Nat) (vs:Nat→Value),rv=.slice ao es.length cap∧es.length≤cap∧cap≤maxLen∧(∀ j,j<es.length→∃ g,ao=some ⟨g,0,none⟩∧lo≤g∧g<hi∧w.cell? (aC g j)=some (vs j)∧∃ c f,w.heap[g]?=some (.cells c 161 f))∧(∀(j:Nat) (e:It),es[j]?=some e→ng w lo hi (vs j) e)
theorem aB9:(prog.info? 161).map (fun i=>(i.zero,i.size,i.bytes))=some (some .nilIface,1,16):=bC
structure tL(w:aG)(D:Nat→Prop)(kb ab:Nat)(es:List It)(tot:Nat)(l:List Part)(k:Nat)(acc:List It)(rv:Value)(vs:List Value)(wr:aG):Prop where
 rw:dR wr D kb ab l k
 rdf:∃ es',uG l k es'∧es=acc++es'
 own:wr.ownsRow w.heap.size 161 1 rv acc.length vs
 len:vs.length=acc.length
 each:∀(j:Nat) (e:It),acc[j]?=some e→∃ v L H,vs[j]?=some v∧w.heap.size≤L∧H≤wr.heap.size∧(∀ g,rv.ownBlock=some g→¬(L≤g∧g<H))∧ng wr L H v e
 kp:Kq D kb ab w wr
 pos:k+pz l=tot
theorem tL.step(h:tL w D kb ab es tot l k acc rv vs wr){w2:aG}(hr:kb<w.heap.size)(ha:ab<w.heap.size)(hk:Kq D kb ab wr w2)(hw:dR w2 D kb ab l2 k2)(hn:∃ es',uG l2 k2 es'∧es=acc++es')(hp:k2+pz l2=tot):tL w D kb ab es tot l2 k2 acc rv vs w2:=by
 refine⟨hw,hn,hk.owns h.own aS (fun g hg=>by have:=(dG h.own g hg).1;exact⟨au,au⟩),h.len,fun j e hj=>?_,h.kp.trans hk,hp⟩;obtain⟨v,L,H,x1,x2,x3,x4,x5⟩:=h.each j e hj;exact⟨v,L,H,x1,x2,dI x3 hk.size,x4,x5.lD hk (aJ hr x2) (aJ ha x2)⟩
theorem tL.more(h:tL w D kb ab es tot l k acc rv vs wr){w5 w6:aG}(hr:kb<w.heap.size)(ha:ab<w.heap.size)(hD:∀ q,D q→q<w.heap.size)(hk:Kq D kb ab wr w5)(hw:dR w5 D kb ab l2 k2)(hE:ng w5 wr.heap.size w5.heap.size v e)(hn:∃ es',uG l2 k2 es'∧es=(acc++[e])++es')(hp:k2+pz l2=tot)(o:Obj){g cap:Nat}
  (hown:w6.ownsRow w.heap.size 161 1 (.slice (b_ g) (acc.length+1) cap) (acc.length+1) (vs++[v])) (hgrow:(w5.alloc o).grownBy w6 rv.ownBlock) (hat:rv.ownBlock=some g∨g=w5.heap.size+1) :
  tL w D kb ab es tot l2 k2 (acc++[e]) (.slice (b_ g) (acc.length+1) cap) (vs++[v]) w6:=by
 have hs5:=hk.size;have hge:=fun q hq=>(dG h.own q hq)
 have hown5:=hk.owns h.own aS (fun g hg=>by have:=(hge g hg).1;exact⟨au,au⟩);have hA:=Kp.grown (Kp.alloc (Kp.refl _ w5) o) hgrow (fun k e _=>e);have hs6:=hA.size;have hws:=h.kp.size;have hgo:∀ L H,H≤w5.heap.size→(∀ g',rv.ownBlock=some g'→¬(L≤g'∧g'<H))→∀ q,(Value.slice (b_ g) (acc.length+1) cap).ownBlock=some q→¬(L≤q∧q<H):=fun L H hH h0 q hq=>by
  simp only[Value.ownBlock,dP] at hq;subst hq;rcases hat with e|e
  ·exact h0 g e
  ·omega
 refine⟨hw.keep hA (fun e=>by have:=(hge _ e).1;omega) (fun e=>by have:=(hge _ e).1;omega) (fun q hq e=>by have:=(hge _ e).1;have:=hD q hq;omega) (fun q c f _ hc e=>by obtain⟨-,c',f',hc'⟩:=jW hown5 e;exact oF hc' aS ⟨c,f,hc⟩),hn,by rw[ay];exact hown,by rw[ay,ay,h.len];rfl,fun j e' hj=>?_,(h.kp.trans hk).over hA ha (fun i hi e=>by have:=(hge _ e).1;omega),hp⟩;by_cases hjl:j<acc.length
 ·rw[bT hjl] at hj
  obtain⟨v',L,H,x1,x2,x3,x4,x5⟩:=h.each j e' hj;exact⟨v',L,H,by rw[bT (by rw[h.len];exact hjl)];exact x1,x2,au,hgo L H au x4,(x5.lD hk (aJ hr x2) (aJ ha x2)).keep hA (fun q h1 h2 e=>x4 q e ⟨h1,h2⟩)⟩
 ·rw[bL au] at hj
  have h0:j - acc.length=0:=by
   rcases gZ (j - acc.length) with q|q
   ·exact q
   ·rw[bf aQ] at hj;cases hj
  rw[h0] at hj;obtain rfl:e=e':=by simpa using hj
  have hno:∀ q,rv.ownBlock=some q→¬(wr.heap.size≤q∧q<w5.heap.size):=fun q hq=>by have:=(hge q hq).2;omega
  exact⟨v,wr.heap.size,w5.heap.size,by rw[bL (by rw[h.len];omega),h.len,h0];rfl,hws,hs6,hgo _ _ (ax _) hno,hE.keep hA (fun q h1 h2 e=>hno q e ⟨h1,h2⟩)⟩
theorem tL.done(h:tL w D kb ab es tot [] k acc rv vs wr):rW wr w.heap.size wr.heap.size rv es∧dR wr D kb ab [] tot∧Kq D kb ab w wr:=by
 obtain⟨es',h1,h2⟩:=h.rdf;cases h1
 rw[aL] at h2;subst h2;have hp:k=tot:=h.pos;have hge:=fun q hq=>(dG h.own q hq)
 have hl:=h.len;refine⟨?_,by rw[← hp];exact h.rw,h.kp⟩;have hc:=fun g hg=>h.own.cells (g:=g) hg
 have hown:=h.own;rcases hown.2 with ⟨rfl,h0⟩|⟨g,cap,cur,rfl,-,-,hn,hm,-,-⟩
 ·have he:=bP.1 h0
  subst he;exact⟨none,0,fun _=>undef,rfl,ax _,by unfold maxLen;omega,fun j hj=>absurd hj (jE _),fun j e hj=>by simp at hj⟩
 ·refine⟨_,cap,fun j=>vs.getD j undef,rfl,hn,hm,fun j hj=>⟨g,rfl,(hge g rfl).1,(hge g rfl).2,?_,(jW hown rfl).2⟩,fun j e hj=>?_⟩
  ·have hv:vs[j]?=some (vs.getD j undef):=by
    rw[bG,aF au];rfl
   have:=hc g rfl j _ hv
   rwa[dQ,bS] at this
  ·obtain⟨v,L,H,x1,x2,x3,-,x5⟩:=h.each j e hj
   have:vs.getD j undef=v:=by rw[bG,x1];rfl
   show ng _ _ _ (vs.getD j undef) e;rw[this];exact x5.wide x2 x3
end
theorem ER(b:Nat)(pub gs:Bool)(m n a:X.Nm)(w:aG)(h:w.heap[b]?=some (.cells #[.bool pub,.string (ba m.1),ak m.2,.string (ba n.1),ak n.2,.bool gs,.string (ba a.1),ak a.2] 176 (0,0))) :
  bB 204 #[aH b] w (cK (.bool pub) fun w'=>w'=w):=by
 have c0:=aj w _ 0 _ _ _ h;clear h;go_enter func204,ntmps204;go_wp2_with fail
 go_ret;exact⟨rfl,rfl⟩
theorem ES(b:Nat)(pub:Bool)(n:X.Nm)(pv v:Value)(fr tt:Int)(w:aG)(h:w.heap[b]?=some (.cells #[.bool pub,.string (ba n.1),ak n.2,pv,v,ak fr,ak tt] 181 (0,0))) :
  bB 206 #[aH b] w (cK (.bool pub) fun w'=>w'=w):=by
 have c0:=aj w _ 0 _ _ _ h;clear h;go_enter func206,ntmps206;go_wp2_with fail
 go_ret;exact⟨rfl,rfl⟩
theorem uQ(b:Nat)(pub:Bool)(n:X.Nm)(pv v:Value)(fr tt:Int)(w:aG)(h:w.heap[b]?=some (.cells #[.bool pub,.string (ba n.1),ak n.2,pv,v,ak fr,ak tt] 181 (0,0))) :
  bB 205 #[aH b] w (cK (.agg #[.string (ba n.1),ak n.2]) fun w'=>Below w.heap.size w w'):=by
 have c1:=aj w _ 1 _ _ _ h;have c2:=aj w _ 2 _ _ _ h;have hb:=bN h;clear h;go_enter func205,ntmps205;go_wp2_with fail
 exact aW (tK rfl _ _ (b:=w.heap.size) rfl (aI w _)) rfl ⟨rfl,(aB _ w).alloc (ax _) _⟩
theorem Ch(b:Nat)(pub gs:Bool)(m n a:X.Nm)(w:aG)(h:w.heap[b]?=some (.cells #[.bool pub,.string (ba m.1),ak m.2,.string (ba n.1),ak n.2,.bool gs,.string (ba a.1),ak a.2] 176 (0,0))) :
  bB 203 #[aH b] w (cK (.agg #[.string (ba (if gs then a else n).1),ak (if gs then a else n).2]) fun w'=>Below w.heap.size w w'):=by
 have c3:=aj w _ 3 _ _ _ h;have c4:=aj w _ 4 _ _ _ h;have c5:=aj w _ 5 _ _ _ h;have c6:=aj w _ 6 _ _ _ h;have c7:=aj w _ 7 _ _ _ h;have hb:=bN h;clear h;cases gs with
 | true =>
  show Calls _ _ _ _ fun e w'=>e=.returned (.agg #[.string (ba a.1),ak a.2])∧_
  go_enter func203,ntmps203;go_wp2_with fail
  exact aW (tK rfl _ _ (b:=w.heap.size) rfl (aI w _)) rfl ⟨rfl,(aB _ w).alloc (ax _) _⟩
 | false =>
  show Calls _ _ _ _ fun e w'=>e=.returned (.agg #[.string (ba n.1),ak n.2])∧_
  go_enter func203,ntmps203;go_wp2_with fail
  exact aW (tK rfl _ _ (b:=w.heap.size) rfl (aI w _)) rfl ⟨rfl,(aB _ w).alloc (ax _) _⟩
theorem rX(x:ah)(n:Int)(w:aG) :
  bB 68 #[.agg #[.string (ba x),ak n]] w (cK (.bool x.isEmpty) fun w'=>Below w.heap.size w w'):=by
 have hx:((ba x).toList==[])=x.isEmpty:=by rw[nJ];cases x<;>rfl
 go_enter func68,ntmps68;go_wp2_with fail
 go_ret;exact⟨rfl,(aB _ w).alloc (ax _) _⟩
section
open X
structure AP(w w':aG)(lo hi:Nat)(rv:Value)(es:List Ex):Prop where
 ex:∃(ao:Option Addr) (cap:Nat) (vs:Nat→Value),rv=.slice ao es.length cap∧es.length≤cap∧cap≤maxLen∧(∀ j,j<es.length→∃ g cs d,ao=some ⟨g,0,none⟩∧w.heap.size≤g∧w'.heap[g]?=some (.cells cs 179 d)∧w'.cell? (aC g j)=some (vs j))∧(∀(j:Nat) (e:Ex),es[j]?=some e→je w lo hi (vs j) e)
 bl:Below w.heap.size w w'
theorem AP.nil(w:aG)(lo hi:Nat):AP w w lo hi (.slice none 0 0) []:=⟨⟨none,0,fun _=>undef,rfl,ax _,by unfold maxLen;omega,fun j hj=>absurd hj (jE _),fun j e hj=>by simp at hj⟩,aB _ w⟩
theorem AP.drew{w w':aG}{lo hi:Nat}{rv:Value}{es:List Ex}(h:AP w w' lo hi rv es):AP w w'.drew lo hi rv es:=⟨h.ex,h.bl.drew⟩
theorem zA{w:aG}{lo hi:Nat}{es:List Ex}{vs:List Value}(hl:vs.length=es.length)(hm:es.length≤3)(hp:∀(j:Nat) (e:Ex),es[j]?=some e→∃ v,vs[j]?=some v∧je w lo hi v e) :
  AP w (w.alloc (.cells vs.toArray 179)) lo hi (.slice (b_ w.heap.size) es.length es.length) es:=by
 refine⟨⟨_,_,fun j=>vs.getD j undef,rfl,ax _,by unfold maxLen;omega,fun j hj=>⟨w.heap.size,_,_,rfl,ax _,aI w _,?_⟩,fun j e hj=>?_⟩,(aB _ w).alloc (ax _) _⟩
 ·have:=aj (w.alloc (.cells vs.toArray 179)) w.heap.size j _ _ _ (aI w _)
  rw[this];simp[aF (show j<vs.length by omega)]
 ·obtain⟨v,x1,x2⟩:=hp j e hj
  have:vs.getD j undef=v:=by rw[bG,x1];rfl
  show je _ _ _ (vs.getD j undef) e;rw[this];exact x2
theorem Cj(b:Nat)(w:aG):bB 236 #[aH b] w (cK (.slice none 0 0) fun w'=>w'=w):=by
 go_enter func236,ntmps236;go_wp2_with fail
 go_ret;exact⟨rfl,rfl⟩
theorem xM(b:Nat)(w:aG):bB 225 #[aH b] w (cK (.slice none 0 0) fun w'=>w'=w):=by
 go_enter func225,ntmps225;go_wp2_with fail
 go_ret;exact⟨rfl,rfl⟩
theorem xL(b:Nat)(w:aG):bB 237 #[aH b] w (cK (.slice none 0 0) fun w'=>w'=w):=by
 go_enter func237,ntmps237;go_wp2_with fail
 go_ret;exact⟨rfl,rfl⟩
theorem AQ{m0 n0:Int}{z0:Bool}(b:Nat)(v:Value)(e1:Ex)(w:aG)(lo hi:Nat)(h:w.heap[b]?=some (.cells #[ak m0,ak n0,.bool z0,v] 273 (0,0)))(h1:je w lo hi v e1) :
  bB 234 #[aH b] w fun e w'=>∃ rv,e=.returned rv∧Hid (AP w w' lo hi rv [e1]):=by
 obtain⟨y1,g1,hv1⟩:=h1.iface;subst hv1;have c0:=aj w _ 3 _ _ _ h;have HF:Hid (AP w (w.alloc (.cells #[.iface y1 (aH g1)] 179)) lo hi (.slice (b_ w.heap.size) 1 1) [e1]) :=
  zA (es:=[e1]) (vs:=[.iface y1 (aH g1)]) rfl aT (fun j e hj=>by
   match j with
   | 0=>simp at hj;subst hj;exact⟨_,rfl,h1⟩
   | j+1=>simp at hj)
 clear h h1;go_enter func234,ntmps234;go_wp2_with fail
 go_ret;exact⟨_,rfl,HF⟩
end
section
variable{m0 n0:Int}{z0:Bool}
theorem yV(b:Nat)(x:ah)(v0 v1:Value)(e0 e1:X.Ex)(w:aG)(lo hi:Nat)(h:w.heap[b]?=some (.cells #[ak m0,ak n0,.bool z0,v0,.string (ba x),v1] 303 (0,0)))(h0:je w lo hi v0 e0)(h1:je w lo hi v1 e1) :
  bB 231 #[aH b] w fun e w'=>∃ rv,e=.returned rv∧Hid (AP w w' lo hi rv [e0,e1]):=by
 obtain⟨y0,g0,hv0⟩:=h0.iface;subst hv0;obtain⟨y1,g1,hv1⟩:=h1.iface;subst hv1;have c0:w.cell? (aC b 3)=some (.iface y0 (aH g0)):=aj w _ 3 _ _ _ h;have c1:w.cell? (aC b 5)=some (.iface y1 (aH g1)):=aj w _ 5 _ _ _ h;have HF:Hid (AP w (w.alloc (.cells #[.iface y0 (aH g0),.iface y1 (aH g1)] 179)) lo hi (.slice (b_ w.heap.size) 2 2) [e0,e1]) :=
  zA (es:=[e0,e1]) (vs:=[.iface y0 (aH g0),.iface y1 (aH g1)]) rfl aT (fun j e hj=>by
   match j with
   | 0=>simp at hj;subst hj;exact⟨_,rfl,h0⟩
   | 1=>simp at hj;subst hj;exact⟨_,rfl,h1⟩
   | j+2=>simp at hj)
 have hb:=bN h;clear h h0 h1;go_enter func231,ntmps231;go_wp2_with fail
 go_region_held3 (fun w'=>w'.cell? (aC b 3)=some (.iface y0 (aH g0))∧w'.cell? (aC b 5)=some (.iface y1 (aH g1)))
  (first|(with_reducible exact⟨c0,c1⟩)|(with_reducible exact⟨Lib.cell?_alloc_some _ c0,Lib.cell?_alloc_some _ c1⟩)|go_keep)
  (fail)
 go_wp2_with fail
 go_ret;exact⟨_,rfl,(HF.o).drew⟩
theorem G9(b:Nat)  (v0 v1 v2:Value)(e0 e1 e2:X.Ex)(w:aG)(lo hi:Nat)(h:w.heap[b]?=some (.cells #[ak m0,ak n0,.bool z0,v0,v1,v2] 261 (0,0)))(h0:je w lo hi v0 e0)(h1:je w lo hi v1 e1)(h2:je w lo hi v2 e2) :
  bB 229 #[aH b] w fun e w'=>∃ rv,e=.returned rv∧Hid (AP w w' lo hi rv [e0,e1,e2]):=by
 obtain⟨y0,g0,hv0⟩:=h0.iface;subst hv0;obtain⟨y1,g1,hv1⟩:=h1.iface;subst hv1;obtain⟨y2,g2,hv2⟩:=h2.iface;subst hv2;have c0:w.cell? (aC b 3)=some (.iface y0 (aH g0)):=aj w _ 3 _ _ _ h;have c1:w.cell? (aC b 4)=some (.iface y1 (aH g1)):=aj w _ 4 _ _ _ h;have c2:w.cell? (aC b 5)=some (.iface y2 (aH g2)):=aj w _ 5 _ _ _ h;have HF:Hid (AP w (w.alloc (.cells #[.iface y0 (aH g0),.iface y1 (aH g1),.iface y2 (aH g2)] 179)) lo hi (.slice (b_ w.heap.size) 3 3) [e0,e1,e2]) :=
  zA (es:=[e0,e1,e2]) (vs:=[.iface y0 (aH g0),.iface y1 (aH g1),.iface y2 (aH g2)]) rfl aT (fun j e hj=>by
   match j with
   | 0=>simp at hj;subst hj;exact⟨_,rfl,h0⟩
   | 1=>simp at hj;subst hj;exact⟨_,rfl,h1⟩
   | 2=>simp at hj;subst hj;exact⟨_,rfl,h2⟩
   | j+3=>simp at hj)
 have hb:=bN h;clear h h0 h1 h2;go_enter func229,ntmps229;go_wp2_with fail
 go_region_held3 (fun w'=>w'.cell? (aC b 3)=some (.iface y0 (aH g0))∧w'.cell? (aC b 4)=some (.iface y1 (aH g1))∧w'.cell? (aC b 5)=some (.iface y2 (aH g2)))
  (first|(with_reducible exact⟨c0,c1,c2⟩)|(with_reducible exact⟨Lib.cell?_alloc_some _ c0,Lib.cell?_alloc_some _ c1,Lib.cell?_alloc_some _ c2⟩)|go_keep)
  (fail)
 go_wp2_with fail
 go_ret;exact⟨_,rfl,(HF.o).drew⟩
end
section
open X
theorem MH(ts:List X.Tok):pz (iy ts)=(X.pb (X.file ts)).length:=by
 have:=iw 2 (iy ts);unfold pz at this ⊢;rw[← this,mM,mM,aL];rfl
theorem WI(a b:Int)(c:ByteArray)(a4:Option Addr)(a5 a6:Nat)(w:aG):(Instr.field 116 (.agg #[ak a,ak b,.string c,.slice a4 a5 a6]) 3).run prog w=.ok (.slice a4 a5 a6) w:=bC
theorem WJ(D:Nat→Prop)(rb ab:Nat)(p:Part)(ps:List Part)(it:It)(i:Nat)(w:aG)(h:dR w D rb ab (p::ps) i)(hrd:X.BV p i it)(hz:jh p≤268435456)(hi:i+pz [p]≤1073741824)(hDl:∀ q,D q→q<w.heap.size) :
  (nk p=3∧bB 45 #[aH rb] w fun e w'=>∃ b,e=.returned (aH b)∧Hid (ng w' w.heap.size w'.heap.size (.iface 121 (aH b)) it∧dR w' D rb ab ps (i+pz [p])∧Kq D rb ab w w')) ∨
  (nk p=4∧bB 46 #[aH rb] w fun e w'=>∃ b,e=.returned (aH b)∧Hid (ng w' w.heap.size w'.heap.size (.iface 123 (aH b)) it∧dR w' D rb ab ps (i+pz [p])∧Kq D rb ab w w')):=by
 cases hrd with
 | use pb t1 n1 t2 n2 ap t3 _ pub gs m n a hp h1 hm h2 hn ha h3 =>
  left
  rw[iw] at hi ⊢;rw[mq] at hz;have hl:=iH (pb++(t1++(n1++(t2++(n2++(ap++t3))))));exact⟨rfl,Ti D rb ab pb t1 n1 t2 n2 ap t3 pub gs m n a ps i w h hp h1 hm h2 hn ha h3 hi au hDl⟩
 | dfn pb t1 n1 pr t2 p t3 _ pub n UW e hp h1 hn hr h2 he h3 =>
  right
  rw[iw] at hi ⊢;rw[mq] at hz;have hl:=iH (pb++(t1++(n1++(pr++(t2++([p]++t3))))));have hp1:=gX (pb++(t1++(n1++(pr++(t2++([p]++t3)))))) p aT;refine⟨rfl,Tn D rb ab pb t1 n1 pr t2 t3 p pub n UW e ps i w h hp h1 hn hr h2 he h3 (nK _ p (ax _) au) (fun qs e=>?_) hi au hDl⟩;have hq:=gX (pb++(t1++(n1++(pr++(t2++([p]++t3)))))) (.br 6 qs) (by rw[e];simp);rw[mq] at hq;have:=iH qs;omega
theorem KH(tb:Nat)(s:ByteArray)(its:List It)(w:aG)(h:Ld w tb s)(hz:jh (X.file (xt (bs s)))≤268435456)(hb:X.pb (X.file (xt (bs s)))=bs s)(hs:s.size≤134217728)(hf:uG (iy (xt (bs s))) 0 its) :
  bB 26 #[aH tb] w fun en w'=>∃ rv,en=.returned rv∧Hid (rW w' w.heap.size w'.heap.size rv its∧Below w.heap.size w w'):=by
 have HR:Hid (∀ W,Below w.heap.size w W→bB 43 #[aH tb] W fun e w'=>∃ a4 a5 a6,e=.returned (.agg #[ak 2,ak 0,.string (ba []),.slice a4 a5 a6])∧Hid (∃ E,qL w' E (.slice a4 a5 a6) (iy (xt (bs s)))∧(∀ q,E q→W.heap.size≤q∧q<w'.heap.size)∧Below W.heap.size W w')):=fun W hW=>by
  refine(Tv tb s W (h.below hW) au hb au).mono ?_;rintro e w' ⟨nv,rfl,X1⟩;obtain⟨E,x1,x2,x3⟩:=X1.o;obtain⟨kv,rfl,x4⟩:=x1.val;obtain⟨a4,a6,_,_,_,_,rfl,-⟩:=x4.ex;exact⟨_,_,_,rfl,E,x4,x2,x3⟩
 have aR3:=WI;obtain⟨i0,hi0,hz0,hz1,hz2⟩:=dM aB9;have hlz:Hid (∀ p∈iy (xt (bs s)),jh p≤268435456):=fun p hp=>by
  have h1:=gX _ p hp;have h2:jh (X.file (xt (bs s)))=1+eT (iy (xt (bs s))):=rfl;omega
 have hll:(iy (xt (bs s))).length≤268435456:=by
  have h1:=iH (iy (xt (bs s)));have h2:jh (X.file (xt (bs s)))=1+eT (iy (xt (bs s))):=rfl;omega
 have htot:pz (iy (xt (bs s)))≤134217728:=by rw[MH,hb,eY];exact hs
 have hil:=dI (MI hf) hll;have HF:=aA hf;have hgL:Hid (Gd (iy (xt (bs s)))):=⟨CW (bs s),(Ah (xt (bs s))).2⟩;clear h hz hb hs hf;generalize iy (xt (bs s))=L at *;go_enter func26,ntmps26;go_wp2_with fail
 have kA:Below w.heap.size w (w.alloc (.cells #[ak 0,.slice none 0 0,ak 0,ak 0] 113)):=(aB _ w).alloc (ax _) _;refine((HR.o) _ kA).mono ?_;rintro en w2 ⟨a4,a5,a6,rfl,X2⟩;obtain⟨D,x1,x2,x3⟩:=X2.o;have hsA:(w.alloc (.cells #[ak 0,.slice none 0 0,ak 0,ak 0] 113)).heap.size=w.heap.size+1:=aT
 have hs2:=x3.size;have kB:Below w2.heap.size w2 (w2.alloc (.cells #[aH w.heap.size,.slice a4 a5 a6] 119)):=(aB _ w2).alloc (ax _) _;have hz0':(w2.alloc (.cells #[aH w.heap.size,.slice a4 a5 a6] 119)).heap.size=w2.heap.size+1:=aT
 have HRw:Hid (dR (w2.alloc (.cells #[aH w.heap.size,.slice a4 a5 a6] 119)) D w2.heap.size w.heap.size L 0):=by
  refine⟨⟨_,aI w2 _,x1.keep (Kp.aN kB (fun _=>False)) (fun _ _=>id)⟩,⟨.slice none 0 0,[],0,0,?_,dK _ _ _ _,ax _,fun q hq=>by cases hq⟩,⟨au,fun hd=>by have:=(x2 _ hd).2;omega,fun hd=>by have:=(x2 _ hd).1;omega⟩,hgL.o⟩;exact(Kp.aN kB (fun _=>False)).heap ((Kp.aN x3 (fun _=>False)).heap (aI w _) id) id
 have HBw:=aA <| (kA.trans (x3.mono au)).trans (kB.mono au);have nP:Hid (∀ q,D q→q<(w2.alloc (.cells #[aH w.heap.size,.slice a4 a5 a6] 119)).heap.size):=fun q hq=>by have:=(x2 q hq).2;omega
 clear HR X2 x1 x2 x3 kA kB;go_wp2_with fail
 generalize hW0:w2.alloc (.cells #[aH w.heap.size,.slice a4 a5 a6] 119)=W0 at *;generalize hkb:w2.heap.size=kb at *;generalize hab:w.heap.size=ab at *;have hr:kb<W0.heap.size:=au
 have ha:ab<W0.heap.size:=au
 have cT5:ab≤kb:=au
 clear aR3 hW0 hkb hz0' hs2 hsA;have HI0:Hid (tL W0 D kb ab its (0+pz L) L 0 [] (.slice none 0 0) [] W0):=⟨HRw.o,⟨its,HF.o,rfl⟩,dK _ _ _ _,rfl,fun j e hj=>by simp at hj,Kq.refl _ _ _ _,rfl⟩;clear HRw HF;go_loopw [4] (fun av wr=>∃(l:List Part) (k:Nat) (acc:List It) (rv:Value) (vs:List Value),rv=av∧l.length≤268435456∧Hid (∀ p∈l,jh p≤268435456)∧Hid (tL W0 D kb ab its (0+pz L) l k acc rv vs wr)) (fun _ wr=>Fa kb wr)
 case atStart=>exact⟨L,0,[],_,[],rfl,hll,hlz,HI0⟩
 case round =>
  obtain⟨l,k,acc,rv,vs,rfl,cT6,HZ,HI⟩:=hrel;clear HI0 hlz hll;have hlen:=(HI.o).rw.len;have hpos:=(HI.o).pos;have HM:=aA (lY D kb ab l k wr (HI.o).rw au au (fun q hq=>aJ ((nP.o) q hq) (HI.o).kp.size));go_wp2_with fail
  refine(HM.o).aX fun w3 H3=>?_;have hpz:pz l=pz (l.takeWhile lq)+pz (l.dropWhile lq):=by rw[← bZ,fE]
  have hdl:(l.dropWhile lq).length≤l.length:=(gD _).length_le;have HI3:Hid (tL W0 D kb ab its (0+pz L) (l.dropWhile lq) (k+pz (l.takeWhile lq)) acc rv vs w3):=by
   obtain⟨es',g1,g2⟩:=(HI.o).rdf;exact(HI.o).step hr ha (H3.o).2 (H3.o).1 ⟨es',O0 g1,g2⟩ au
  have HZd:Hid (∀ p∈l.dropWhile lq,jh p≤268435456):=fun p hp=>(HZ.o) p ((gD _).mem hp)
  have SQ:∀ p t,l.dropWhile lq=p::t→lq p=false:=fun p t e=>by
   have:=qo lq l;rw[e] at this
   simpa using this
  clear HM H3 HI HZ;generalize l.dropWhile lq=l3 at *;generalize k+pz (l.takeWhile lq)=k3 at *;cases l3 with
  | nil =>
   have HF:Hid (rW w3 ab w3.heap.size rv its∧Below ab w w3):=by
    obtain⟨z1,z2,z3⟩:=(HI3.o).done;refine⟨?_,?_⟩
    ·obtain⟨ao,cap,f,y1,y2,y3,y4,y5⟩:=z1.ex
     exact⟨ao,cap,f,y1,y2,y3,fun j hj=>by obtain⟨g,u1,u2,u3,u4⟩:=y4 j hj;exact⟨g,u1,au,u3,u4⟩,fun j e hj=>(y5 j e hj).wide au (ax _)⟩
    ·have hb0:=HBw.o
     exact⟨z3.kp.os.trans hb0.os,z3.kp.tape.trans hb0.tape,z3.kp.output.trans hb0.output,dI hb0.size z3.size,fun q hq=>(z3.kp.block q au (fun e=>by rcases e with e|e|⟨e,-⟩<;>omega)).trans (hb0.block q hq)⟩
   have hdf:decide (([]:List Part)≠[])=false:=aT
   rw[hdf];clear HI3;go_wp2_with fail
   go_ret;exact⟨rv,rfl,by rw[hab];exact HF⟩
  | cons p l4 =>
   have hdt:decide (p::l4≠[])=true:=aT
   rw[hdt];clear hdt;have hq:=SQ p l4 rfl;clear SQ;obtain⟨v,hb,hnn⟩:=(HI3.o).rw.blk;have c1:=aj w3 _ 1 _ _ _ hb;obtain⟨g,o,cap,kv,rfl,hD,y0,y1,y2,y3,hkk,-,hc1,hc2,-,-⟩:=hnn.head;have hi1:(0:Int)<((l4.length+1:Nat):Int):=au
   have hi2:0<l4.length+1:=au
   have yH:=(HI3.o).pos;rw[gF] at yH;rw[aY] at hdl;have hzp:=(HZd.o) p aT;have HZ4:Hid (∀ q∈l4,jh q≤268435456):=fun q hq=>(HZd.o) q (eX _ hq)
   have HD3:∀ q,D q→q<w3.heap.size:=fun q hq=>aJ ((nP.o) q hq) (HI3.o).kp.size
   obtain⟨es',g1,g2⟩:=(HI3.o).rdf;clear hb hnn hkk HZd y1 y2 y3;rcases Tt g1 hq with ⟨qs,rfl,hlv,hrest⟩|⟨it0,WH,e1,hrd,hrest⟩
   ·have y0':w3.cell? (aC g o)=some (ak 5):=y0
    rw[mq] at hzp;have sP:=iH qs;rw[iw] at yH;have HC:=aA (OZ D kb ab qs l4 k3 w3 (HI3.o).rw hlv au au HD3);have LV:Hid (∃ es',uG l4 (k3+pz qs) es'∧its=acc++es'):=by rw[iw] at hrest;exact⟨es',hrest,g2⟩
    clear HD3 g1 g2 hlv hrest y0;go_wp2_with fail
    refine(HC.o).aX fun w5 X5=>?_;have sQ:=aA <| (HI3.o).step hr ha (X5.o).2 (X5.o).1 LV.o au;clear HC X5 HI3 c1 y0';have hl5:=(sQ.o).rw.len;go_wp2_with fail
    exact⟨⟨l4,k3+pz qs,acc,rv,vs,rfl,au,HZ4,sQ⟩,by rw[hlen,hl5];omega⟩
   ·have LV:Hid (∃ es',uG l4 (k3+pz [p]) es'∧its=(acc++[it0])++es'):=⟨WH,hrest,by rw[g2,e1,aK];rfl⟩
    have hacc:acc.length≤268435456:=by
     have:=congrArg List.length g2;rw[ay] at this;omega
    have hio:=WJ D kb ab p l4 it0 k3 w3 (HI3.o).rw hrd hzp au HD3;clear HD3 g1 g2 hrest e1 hrd;rcases hio with ⟨hnk,ET⟩|⟨hnk,ET⟩
    ·have HC:=aA ET
     clear ET;rw[hnk] at y0;have y0':w3.cell? (aC g o)=some (ak 3):=y0;clear y0 hnk;go_wp2_with fail
     refine(HC.o).mono ?_;rintro e w5 ⟨b5,rfl,X5⟩;clear c1 y0';have hvl:=(HI3.o).len;have OD:=aA <| (X5.o).2.2.owns (HI3.o).own aS (fun g hg=>by
      have:=(dG (HI3.o).own g hg).1;exact⟨au,au⟩)
     have hs5:W0.heap.size≤w5.heap.size:=by have:=(X5.o).2.2.size;have:=(HI3.o).kp.size;omega
     go_wp2_with (at_builtin;refine wpList_append_lies _ rfl _ _ 78 rfl W0.heap.size 161 i0 _ 1 16 underlying78 hi0 hz0 hz1 hz2 rfl aS rv acc.length _ rfl ((OD.o).alloc _) ⟨w5.heap.size,0,none⟩ 1 1 [.iface 121 (aH b5)] rfl rfl (World.news_of_block (cs:=#[.iface 121 (aH b5)]) (aI w5 _)) (by simp[Value.oneCell']) au (by unfold maxLen;omega) au aQ (w5.heap.size+1) aT ?_;intro g7 Ho w7 oM jB rO KI;have P5:=aA ((HI3.o).more hr ha nP.o (X5.o).2.2 (X5.o).2.1 (X5.o).1 LV.o au _ oM jB rO);clear oM jB)
     have UN:=(P5.o).rw.len;exact⟨⟨l4,k3+pz [p],acc++[it0],_,_,rfl,au,HZ4,P5⟩,by rw[hlen,UN];omega⟩
    ·have HC:=aA ET
     clear ET;rw[hnk] at y0;have y0':w3.cell? (aC g o)=some (ak 4):=y0;clear y0 hnk;go_wp2_with fail
     refine(HC.o).mono ?_;rintro e w5 ⟨b5,rfl,X5⟩;clear c1 y0';have hvl:=(HI3.o).len;have OD:=aA <| (X5.o).2.2.owns (HI3.o).own aS (fun g hg=>by
      have:=(dG (HI3.o).own g hg).1;exact⟨au,au⟩)
     have hs5:W0.heap.size≤w5.heap.size:=by have:=(X5.o).2.2.size;have:=(HI3.o).kp.size;omega
     go_wp2_with (at_builtin;refine wpList_append_lies _ rfl _ _ 78 rfl W0.heap.size 161 i0 _ 1 16 underlying78 hi0 hz0 hz1 hz2 rfl aS rv acc.length _ rfl ((OD.o).alloc _) ⟨w5.heap.size,0,none⟩ 1 1 [.iface 123 (aH b5)] rfl rfl (World.news_of_block (cs:=#[.iface 123 (aH b5)]) (aI w5 _)) (by simp[Value.oneCell']) au (by unfold maxLen;omega) au aQ (w5.heap.size+1) aT ?_;intro g7 Ho w7 oM jB rO KI;have P5:=aA ((HI3.o).more hr ha nP.o (X5.o).2.2 (X5.o).2.1 (X5.o).1 LV.o au _ oM jB rO);clear oM jB)
     have UN:=(P5.o).rw.len;exact⟨⟨l4,k3+pz [p],acc++[it0],_,_,rfl,au,HZ4,P5⟩,by rw[hlen,UN];omega⟩
end
end Go.Proofs.YtoohcklcppnafaaGreatDoor
