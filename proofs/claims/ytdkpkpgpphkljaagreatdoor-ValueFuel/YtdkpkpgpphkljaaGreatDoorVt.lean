/- Package syntax: a use. -/
import Derived.Test.YtdkpkpgpphkljaaGreatDoorVl
namespace Go.Proofs.YtdkpkpgpphkljaaGreatDoor
set_option maxRecDepth 100000
set_option maxHeartbeats 4000000
open Tryz
open Go.RowKit
open M
section
variable{W0 W:World}{D:Nat→Prop}{kb ab i b:Nat}{ps:List X.Part}{vs:Array Value}{ty:TypeId}
structure Bx(W0 W:World)(D:Nat→Prop)(kb ab:Nat)(ps:List X.Part)(i b:Nat)(vs:Array Value)(ty:TypeId):Prop where
 rw:cO W D kb ab ps i
 kp:Kq D kb ab W0 W
 bl:W.heap[b]?=some (.cells vs ty (0,0))
 nb:W0.heap.size≤b
 l1:kb<W0.heap.size
 l2:ab<W0.heap.size
 dl:∀ q,D q→q<W0.heap.size
 tn:ty≠3
theorem Bx.go{W':World}{ps':List X.Part}{i':Nat}(h:Bx W0 W D kb ab ps i b vs ty)(hr:cO W' D kb ab ps' i')(hk:Kq D kb ab W W'):Bx W0 W' D kb ab ps' i' b vs ty :=
 ⟨hr,h.kp.trans hk,hk.made h.l1 h.l2 h.nb h.bl h.tn,h.nb,h.l1,h.l2,h.dl,h.tn⟩
theorem iU(h:W.heap[b]?=some (.cells vs ty (0,0)))(k:Nat)(v:Value):(W.setCell ⟨b,k,none⟩ v).heap[b]?=some (.cells (vs.setIfInBounds k v) ty (0,0)):=by simp[World.setCell,aK,h]
theorem Bx.put(h:Bx W0 W D kb ab ps i b vs ty)(k:Nat)(v:Value):Bx W0 (W.setCell ⟨b,k,none⟩ v) D kb ab ps i b (vs.setIfInBounds k v) ty:=by
 have hk:Kp (fun q=>q=b) W (W.setCell ⟨b,k,none⟩ v):=On.set (Kp.refl _ W) k _;have h1:=h.l1;have h2:=h.l2;have h3:=h.nb;exact⟨h.rw.on hk h.bl h.tn (by omega) (by omega) (fun hd=>by have:=h.dl _ hd;omega),h.kp.set h2 h3 k v,iU h.bl k v,h3,h1,h2,h.dl,h.tn⟩
theorem Bx.dn(h:Bx W0 W D kb ab ps i b vs ty):∀ q,D q→q<W.heap.size:=fun q hq=>aH (h.dl q hq) h.kp.size
theorem Zo{ap:List X.Part}{gs:Bool}{a:X.Nm}(h:X.Y_ ap i gs a):(∃ t n k qs,ap=t++n∧gs=true∧X.y9 t k X.Zd qs∧X.BD n (i+X.pz t) a)∨(ap=[]∧gs=false∧a=([],0)):=by
 cases h with
 | yes t n k qs _ _ h1 h2=>exact .inl ⟨t,n,k,qs,rfl,rfl,h1,h2⟩
 | no=>exact .inr ⟨rfl,rfl,rfl⟩
inductive lG(w:World)(lo hi:Nat):Value→X.It→Prop
 | use (b:Nat) (pub gs:Bool) (m n a:X.Nm) (hb:lo≤b∧b<hi) (h:w.heap[b]?=some (.cells #[.bool pub,.string (ba m.1),.int .i64 m.2,.string (ba n.1),.int .i64 n.2,.bool gs,.string (ba a.1),.int .i64 a.2] 166 (0,0))):lG w lo hi (.iface 121 (.pointer (some ⟨b,0,none⟩))) (.use pub m n gs a)
 | dfn {fr tt:Int} (b:Nat) (pub:Bool) (n:X.Nm) (pv:Value) (ps:Option (List X.Nm)) (v:Value) (e:X.Ex) (hb:lo≤b∧b<hi) (h:w.heap[b]?=some (.cells #[.bool pub,.string (ba n.1),.int .i64 n.2,pv,v,.int .i64 fr,.int .i64 tt] 74 (0,0)))
   (hp:(ps=none∧pv=.pointer none)∨∃ ns pb,ps=some ns∧pv=.pointer (some ⟨pb,0,none⟩)∧kM w lo hi pb ns) (he:gJ w lo hi v e):lG w lo hi (.iface 68 (.pointer (some ⟨b,0,none⟩))) (.dfn pub n ps e)
theorem RO(D:Nat→Prop)(rb ab:Nat)(pb t1 n1 t2 n2 ap t3:List X.Part)(pub gs:Bool)(m n a:X.Nm)(ps:List X.Part)(i:Nat)(w:World)(h:cO w D rb ab (.br 3 (pb++(t1++(n1++(t2++(n2++(ap++t3))))))::ps) i)
  (hp:X.TR pb pub) (h1:X.Lg X.jN t1) (hm:X.BD n1 (i+X.pz pb+X.pz t1) m) (h2:X.wR t2) (hn:X.BD n2 (i+X.pz pb+X.pz t1+X.pz n1+X.pz t2) n) (ha:X.Y_ ap (i+X.pz pb+X.pz t1+X.pz n1+X.pz t2+X.pz n2) gs a) (h3:X.Lg X.Zd t3)
  (hi:i+X.pz (pb++(t1++(n1++(t2++(n2++(ap++t3))))))≤1073741824) (hpl:(pb++(t1++(n1++(t2++(n2++(ap++t3)))))).length≤1073741824) (hDl:∀ q,D q→q<w.heap.size) :
  Calls prog 28 #[.pointer (some ⟨rb,0,none⟩)] w fun e w'=>∃ b,e=.returned (.pointer (some ⟨b,0,none⟩))∧Hid (lG w' w.heap.size w'.heap.size (.iface 121 (.pointer (some ⟨b,0,none⟩))) (.use pub m n gs a)∧cO w' D rb ab ps (i+X.pz (pb++(t1++(n1++(t2++(n2++(ap++t3)))))))∧Kq D rb ab w w'):=by
 have Zi:=au h.Ik.br.2;obtain⟨q2,r2,A8⟩:=h2.AR;have hz:X.pz (pb++(t1++(n1++(t2++(n2++(ap++t3))))))=X.pz pb+(X.pz t1+(X.pz n1+(X.pz t2+(X.pz n2+(X.pz ap+X.pz t3))))):=by rw[X.aY,X.aY,X.aY,X.aY,X.aY,X.aY]
 have yU:=au (nA D rb ab _ ps i w h (by show i+0≤_;omega) hDl);have mI:=au hDl;have HP:=au hp;have HM:=au hm;have HN:=au hn;have HA:=au ha;have H1:=au h1;have H3:=au h3;have hi':=hi;have hpl':=hpl;rw[hz] at hi;simp only[ak] at hpl;clear h h1 h2 h3 hDl hn hm hp ha;go_enter func28,ntmps28;go_wp2_with fail
 refine(yU.o).mono ?_;rintro en w2 ⟨a4,a5,a6,rfl,X2⟩;have HT:Hid (Zn w D rb ab ps _ i w2 (.slice a4 a5 a6)):=Ls (X2.o) Zi.o mI.o;clear yU X2;have yG:=au (GK D w2.heap.size ab pb t1 _ pub i _ (HT.o).inn HP.o H1.o hi' hpl' (HT.o).dl);clear hi' hpl';go_wp2_with fail
 refine(yG.o).mono ?_;rintro en w3 ⟨rfl,X3⟩;have kA:Below w3.heap.size w3 (w3.alloc (.cells #[.bool pub,.string ⟨#[]⟩,.int .i64 0,.string ⟨#[]⟩,.int .i64 0,.bool false,.string ⟨#[]⟩,.int .i64 0] 166)):=(ay _ w3).alloc (aj _) _;have kA':Kq D w2.heap.size ab w3 (w3.alloc (.cells #[.bool pub,.string ⟨#[]⟩,.int .i64 0,.string ⟨#[]⟩,.int .i64 0,.bool false,.string ⟨#[]⟩,.int .i64 0] 166)):=Kq.aI kA (aH (HT.o).inn.lt.2 (X3.o).kp.size);have hL:Lf (w2.alloc (.cells #[.pointer (some ⟨ab,0,none⟩),.slice a4 a5 a6] 120)) (w3.alloc (.cells #[.bool pub,.string ⟨#[]⟩,.int .i64 0,.string ⟨#[]⟩,.int .i64 0,.bool false,.string ⟨#[]⟩,.int .i64 0] 166)) D w2.heap.size ab t1 (n1++(t2++(n2++(ap++t3)))) (i+X.pz pb+X.pz t1):=by
  obtain⟨t',q',p',i',x1,x2,x3,x4⟩:=(X3.o).ex;exact⟨⟨t',q',p',i',x1,x2.below kA,x3,x4⟩,(X3.o).kp.trans kA'⟩
 have hnw:=(HT.o).inn.lt;have hs3:=(X3.o).kp.size;have Fh:=au (hL.pass (by simp only[X.aY];omega) (by simp only[ak];omega) (fun q hq=>aH ((HT.o).dl q hq) hL.kp.size));have HBx:Hid (∀ W' ps' i',cO W' D w2.heap.size ab ps' i'→Kq D w2.heap.size ab (w3.alloc (.cells #[.bool pub,.string ⟨#[]⟩,.int .i64 0,.string ⟨#[]⟩,.int .i64 0,.bool false,.string ⟨#[]⟩,.int .i64 0] 166)) W'→Bx (w2.alloc (.cells #[.pointer (some ⟨ab,0,none⟩),.slice a4 a5 a6] 120)) W' D w2.heap.size ab ps' i' w3.heap.size #[.bool pub,.string ⟨#[]⟩,.int .i64 0,.string ⟨#[]⟩,.int .i64 0,.bool false,.string ⟨#[]⟩,.int .i64 0] 166):=fun W' ps' i' hr' hk' =>
  ⟨hr',hL.kp.trans hk',hk'.made hnw.1 hnw.2 hs3 (aB w3 _) (by decide),hs3,hnw.1,hnw.2,(HT.o).dl,by decide⟩
 clear yG kA kA' hL X3;go_wp2_with fail
 generalize w3.alloc (.cells #[.bool pub,.string ⟨#[]⟩,.int .i64 0,.string ⟨#[]⟩,.int .i64 0,.bool false,.string ⟨#[]⟩,.int .i64 0] 166)=W3 at *;generalize w3.heap.size=b at *;refine(Fh.o).mono ?_;rintro en w4 ⟨_,_,_,_,_,_,rfl,X4⟩;have B4:=au ((HBx.o) _ _ _ (X4.o).1 (X4.o).2);clear Fh HBx X4;have KA:=au (nC D w2.heap.size ab n1 m _ _ w4 (B4.o).rw HM.o (by simp only[X.aY];omega) (by simp only[ak];omega) (B4.o).dn);go_wp2_with fail
 refine(KA.o).mono ?_;rintro en w5 ⟨rfl,X5⟩;have B5:=au ((B4.o).go (X5.o).1 (X5.o).2);clear KA X5 B4;have hb5:=(B5.o).bl;have c5:=ai w5 _ 1 _ _ _ hb5;have d5:=ai w5 _ 2 _ _ _ hb5;have f5:w5.frozen? ⟨b,1,none⟩=false:=by simp[World.frozen?,hb5]
 have g5:w5.frozen? ⟨b,2,none⟩=false:=by simp[World.frozen?,hb5]
 have N5:Hid (Bx (w2.alloc (.cells #[.pointer (some ⟨ab,0,none⟩),.slice a4 a5 a6] 120)) ((w5.setCell ⟨b,1,none⟩ (.string (ba m.1))).setCell ⟨b,2,none⟩ (.int .i64 m.2)) D w2.heap.size ab _ _ b #[.bool pub,.string (ba m.1),.int .i64 m.2,.string ⟨#[]⟩,.int .i64 0,.bool false,.string ⟨#[]⟩,.int .i64 0] 166):=((B5.o).put 1 (.string (ba m.1))).put 2 (.int .i64 m.2);clear hb5 B5;go_wp2_with fail
 clear c5 d5 f5 g5;generalize (w5.setCell ⟨b,1,none⟩ (.string (ba m.1))).setCell ⟨b,2,none⟩ (.int .i64 m.2)=W5 at *;have Mj:=au (gy D w2.heap.size ab t2 q2 r2 _ _ W5 (N5.o).rw A8 (by simp only[X.aY];omega) (by simp only[ak];omega) (N5.o).dn);refine(Mj.o).mono ?_;rintro en w6 ⟨_,_,_,rfl,X6⟩;have B6:=au ((N5.o).go (X6.o).1 (X6.o).2);clear Mj X6 N5;have Ky:=au (nC D w2.heap.size ab n2 n _ _ w6 (B6.o).rw HN.o (by simp only[X.aY];omega) (by simp only[ak];omega) (B6.o).dn);go_wp2_with fail
 refine(Ky.o).mono ?_;rintro en w7 ⟨rfl,X7⟩;have B7:=au ((B6.o).go (X7.o).1 (X7.o).2);clear Ky X7 B6;have VK:=(B7.o).bl;have c7:=ai w7 _ 3 _ _ _ VK;have d7:=ai w7 _ 4 _ _ _ VK;have f7:w7.frozen? ⟨b,3,none⟩=false:=by simp[World.frozen?,VK]
 have g7:w7.frozen? ⟨b,4,none⟩=false:=by simp[World.frozen?,VK]
 have N7:Hid (Bx (w2.alloc (.cells #[.pointer (some ⟨ab,0,none⟩),.slice a4 a5 a6] 120)) ((w7.setCell ⟨b,3,none⟩ (.string (ba n.1))).setCell ⟨b,4,none⟩ (.int .i64 n.2)) D w2.heap.size ab _ _ b #[.bool pub,.string (ba m.1),.int .i64 m.2,.string (ba n.1),.int .i64 n.2,.bool false,.string ⟨#[]⟩,.int .i64 0] 166):=((B7.o).put 3 (.string (ba n.1))).put 4 (.int .i64 n.2);clear VK B7;go_wp2_with fail
 clear c7 d7 f7 g7;generalize (w7.setCell ⟨b,3,none⟩ (.string (ba n.1))).setCell ⟨b,4,none⟩ (.int .i64 n.2)=W7 at *;have ha:=Zo HA.o;clear HA;rcases ha with ⟨t,n',k,qs',Zp,egs,hT,hn'⟩|⟨Zp,egs,ea⟩
 ·obtain⟨q3,r3,hT3⟩:=(H3.o).Lc.AR
  have Zq:=(N7.o).rw;have hpa:X.pz ap=X.pz t+X.pz n':=by rw[Zp,X.aY]
  have hla:ap.length=t.length+n'.length:=by rw[Zp,ak]
  rw[Zp,aA] at Zq;have HC8:=au (GJ D w2.heap.size ab k X.Zd t qs' (n'++t3) _ W7 Zq hT (by simp only[X.aY];omega) (by simp only[ak];omega) (N7.o).dn);have HN':=au hn';clear Zq hn';refine(HC8.o).mono ?_;rintro en w8 ⟨rfl,X8⟩;have B8:=au ((N7.o).go (X8.o).1 (X8.o).2);clear HC8 X8 N7;have Oq:=(B8.o).bl;have c8:=ai w8 _ 5 _ _ _ Oq;have f8:w8.frozen? ⟨b,5,none⟩=false:=by simp[World.frozen?,Oq]
  have N8:Hid (Bx (w2.alloc (.cells #[.pointer (some ⟨ab,0,none⟩),.slice a4 a5 a6] 120)) (w8.setCell ⟨b,5,none⟩ (.bool true)) D w2.heap.size ab _ _ b #[.bool pub,.string (ba m.1),.int .i64 m.2,.string (ba n.1),.int .i64 n.2,.bool true,.string ⟨#[]⟩,.int .i64 0] 166):=(B8.o).put 5 (.bool true);have k8:(w8.setCell ⟨b,5,none⟩ (.bool true)).cell? ⟨b,5,none⟩=some (.bool true):=ai _ _ 5 _ _ _ (N8.o).bl;clear Oq B8;have HC9:=au (nC D w2.heap.size ab n' a _ _ _ (N8.o).rw HN'.o (by simp only[X.aY];omega) (by simp only[ak];omega) (N8.o).dn);go_wp2_with fail
  clear c8 f8 k8;generalize w8.setCell ⟨b,5,none⟩ (.bool true)=W8 at *;refine(HC9.o).mono ?_;rintro en w9 ⟨rfl,X9⟩;have B9:=au ((N8.o).go (X9.o).1 (X9.o).2);clear HC9 X9 N8;have hb9:=(B9.o).bl;have c9:=ai w9 _ 6 _ _ _ hb9;have d9:=ai w9 _ 7 _ _ _ hb9;have f9:w9.frozen? ⟨b,6,none⟩=false:=by simp[World.frozen?,hb9]
  have g9:w9.frozen? ⟨b,7,none⟩=false:=by simp[World.frozen?,hb9]
  have N9:Hid (Bx (w2.alloc (.cells #[.pointer (some ⟨ab,0,none⟩),.slice a4 a5 a6] 120)) ((w9.setCell ⟨b,6,none⟩ (.string (ba a.1))).setCell ⟨b,7,none⟩ (.int .i64 a.2)) D w2.heap.size ab _ _ b #[.bool pub,.string (ba m.1),.int .i64 m.2,.string (ba n.1),.int .i64 n.2,.bool true,.string (ba a.1),.int .i64 a.2] 166):=((B9.o).put 6 (.string (ba a.1))).put 7 (.int .i64 a.2);clear hb9 B9;go_wp2_with fail
  clear c9 d9 f9 g9;generalize (w9.setCell ⟨b,6,none⟩ (.string (ba a.1))).setCell ⟨b,7,none⟩ (.int .i64 a.2)=W9 at *;have hr9:=(N9.o).rw;rw[← aJ t3] at hr9;have GL:=au (gy D w2.heap.size ab t3 q3 r3 [] _ W9 hr9 hT3 (by rw[aJ];omega) (by rw[aJ];omega) (N9.o).dn);clear hr9;refine(GL.o).mono ?_;rintro en VL ⟨_,_,_,rfl,GN⟩;have B10:=au ((N9.o).go (GN.o).1 (GN.o).2);clear GL GN N9;have HFin:Hid (lG VL w.heap.size VL.heap.size (.iface 121 (.pointer (some ⟨b,0,none⟩))) (.use pub m n gs a)∧cO VL D rb ab ps (i+X.pz (pb++(t1++(n1++(t2++(n2++(ap++t3)))))))∧Kq D rb ab w VL):=by
   obtain⟨z1,z2⟩:=(HT.o).o VL [] _ (B10.o).rw (B10.o).kp;have hle:=(HT.o).le;have hsz:=(HT.o).sz;have hnb:=(B10.o).nb;rw[hz];rw[egs];refine⟨.use b pub _ m n _ ⟨by omega,aP (B10.o).bl⟩ (B10.o).bl,?_,z2⟩;rw[show i+(X.pz pb+(X.pz t1+(X.pz n1+(X.pz t2+(X.pz n2+(X.pz ap+X.pz t3))))))=i+X.pz pb+X.pz t1+X.pz n1+X.pz t2+X.pz n2+X.pz t+X.pz n'+X.pz t3 by omega];exact z1
  go_wp2_with fail
  go_ret;exact⟨b,rfl,HFin⟩
 ·have Zq:=(N7.o).rw
  have hpa:X.pz ap=0:=by rw[Zp];rfl
  have hla:ap.length=0:=by rw[Zp];rfl
  rw[Zp,bT,← aJ t3] at Zq;have HC8:=au (Lr D w2.heap.size ab X.Zd t3 [] _ W7 Zq H3.o (by rw[aJ];omega) (by rw[aJ];omega) (N7.o).dn);clear Zq;refine(HC8.o).mono ?_;rintro en w8 ⟨rfl,X8⟩;obtain⟨t',q',p',i',x1,x2,x3,x4⟩:=(X8.o).ex;have B8:=au ((N7.o).go x2 (X8.o).kp);clear HC8 X8 N7 x2;have Oq:=(B8.o).bl;have c8:=ai w8 _ 5 _ _ _ Oq;have f8:w8.frozen? ⟨b,5,none⟩=false:=by simp[World.frozen?,Oq]
  have N8:Hid (Bx (w2.alloc (.cells #[.pointer (some ⟨ab,0,none⟩),.slice a4 a5 a6] 120)) (w8.setCell ⟨b,5,none⟩ (.bool false)) D w2.heap.size ab _ _ b #[.bool pub,.string (ba m.1),.int .i64 m.2,.string (ba n.1),.int .i64 n.2,.bool false,.string ⟨#[]⟩,.int .i64 0] 166):=(B8.o).put 5 (.bool false);have k8:(w8.setCell ⟨b,5,none⟩ (.bool false)).cell? ⟨b,5,none⟩=some (.bool false):=ai _ _ 5 _ _ _ (N8.o).bl;clear Oq B8;have HC9:=au (gy D w2.heap.size ab t' q' p' [] _ _ (N8.o).rw x1 (by rw[aJ];omega) (by rw[aJ];omega) (N8.o).dn);clear x1;go_wp2_with fail
  clear c8 f8 k8;generalize w8.setCell ⟨b,5,none⟩ (.bool false)=W8 at *;refine(HC9.o).mono ?_;rintro en w9 ⟨_,_,_,rfl,X9⟩;have B9:=au ((N8.o).go (X9.o).1 (X9.o).2);clear HC9 X9 N8;have HFin:Hid (lG w9 w.heap.size w9.heap.size (.iface 121 (.pointer (some ⟨b,0,none⟩))) (.use pub m n gs a)∧cO w9 D rb ab ps (i+X.pz (pb++(t1++(n1++(t2++(n2++(ap++t3)))))))∧Kq D rb ab w w9):=by
   obtain⟨z1,z2⟩:=(HT.o).o w9 [] _ (B9.o).rw (B9.o).kp;have hle:=(HT.o).le;have hsz:=(HT.o).sz;have hnb:=(B9.o).nb;rw[hz];rw[egs,ea];refine⟨.use b pub _ m n _ ⟨by omega,aP (B9.o).bl⟩ (B9.o).bl,?_,z2⟩;rw[show i+(X.pz pb+(X.pz t1+(X.pz n1+(X.pz t2+(X.pz n2+(X.pz ap+X.pz t3))))))=i'+X.pz t' by omega];exact z1
  go_wp2_with fail
  go_ret;exact⟨b,rfl,HFin⟩
def o7(w:World)(lo hi:Nat)(pv:Value)(ps:Option (List X.Nm)):Prop:=(ps=none∧pv=.pointer none)∨∃ ns pb,ps=some ns∧pv=.pointer (some ⟨pb,0,none⟩)∧kM w lo hi pb ns
theorem o7.keep{S:Nat→Prop}{w w':World}{lo hi:Nat}{pv:Value}{ps:Option (List X.Nm)}(h:o7 w lo hi pv ps)(hk:Kp S w w')(hS:∀ i,lo≤i→i<hi→¬ S i):o7 w' lo hi pv ps:=by
 rcases h with h|⟨ns,pb,h1,h2,h3⟩
 ·exact .inl h
 ·exact .inr ⟨ns,pb,h1,h2,h3.keep hk hS⟩
theorem o7.jL{D:Nat→Prop}{rb ab:Nat}{w w':World}{lo hi:Nat}{pv:Value}{ps:Option (List X.Nm)}(h:o7 w lo hi pv ps)(hk:Kq D rb ab w w')(h1:rb<lo)(h2:ab<lo):o7 w' lo hi pv ps:=by
 rcases h with h|⟨ns,pb,a,b,c⟩
 ·exact .inl h
 ·exact .inr ⟨ns,pb,a,b,c.jL hk h1 h2⟩
theorem o7.wide{w:World}{lo hi lo' hi':Nat}{pv:Value}{ps:Option (List X.Nm)}(h:o7 w lo hi pv ps)(h1:lo'≤lo)(h2:hi≤hi'):o7 w lo' hi' pv ps:=by
 rcases h with h|⟨ns,pb,a,b,c⟩
 ·exact .inl h
 ·exact .inr ⟨ns,pb,a,b,c.wide h1 h2⟩
theorem Zr{pr:List X.Part}{i:Nat}{ps:Option (List X.Nm)}(h:X.Prp pr i ps):(∃ qs ns,pr=[.br 6 qs]∧ps=some ns∧X.oN qs i ns)∨(pr=[]∧ps=none):=by
 cases h with
 | yes qs _ ns h=>exact .inl ⟨qs,ns,rfl,rfl,h⟩
 | no=>exact .inr ⟨rfl,rfl⟩
theorem RP{t:List X.Part}(h:X.wR t):∃ qs p,X.Nj t qs p∧((X.nk p:Int)==6)=false:=by
 rcases h with ⟨k,x,qs,h⟩|⟨m,rfl⟩
 ·exact⟨qs,_,h.AR,rfl⟩
 ·exact⟨[],.miss m,⟨rfl,fun q hq=>(by cases hq),rfl,rfl⟩,rfl⟩
theorem RQ{pb t:List X.Part}{pub:Bool}(hp:X.TR pb pub)(ht:X.Lg X.jN t)(ps:List X.Part):∃ pb' t',X.TR pb' pub∧X.Lg X.jN t'∧(pb++(t++ps)).dropWhile X.lq=pb'++(t'++ps)∧X.pz ((pb++(t++ps)).takeWhile X.lq)+X.pz pb'+X.pz t'=X.pz pb+X.pz t∧pb'.length≤pb.length∧t'.length≤t.length:=by
 cases hp with
 | yes _ k qs h1 =>
  have hd:=h1.AR.drop (t++ps);have hl:pb.length=qs.length+1:=by rw[h1.eq,ak];rfl
  exact⟨[.leaf k X.jN],t,.yes _ k [] ⟨rfl,fun q hq=>(by cases hq),h1.ne⟩,ht,hd.1,by rw[hd.2,X.Et h1.AR],by rw[hl];show 1≤_;omega,aj _⟩
 | no =>
  rcases ht with ⟨k,x,qs,h1,h2⟩|⟨m,rfl⟩
  ·have hd:=h1.AR.drop ps
   have hl:t.length=qs.length+1:=by rw[h1.eq,ak];rfl
   exact⟨[],[.leaf k x],.no,.inl ⟨k,x,[],⟨rfl,fun q hq=>(by cases hq),h1.ne⟩,h2⟩,hd.1,by rw[bT,hd.2,X.Et h1.AR];show _+0+_=0+_;omega,aj _,by rw[hl];show 1≤_;omega⟩
  ·exact⟨[],[.miss m],.no,.inr ⟨m,rfl⟩,rfl,rfl,aj _,aj _⟩
theorem RS(D:Nat→Prop)(rb ab:Nat)(pb t1 n1 pr t2 t3:List X.Part)(p:X.Part)(pub:Bool)(n:X.Nm)(TU:Option (List X.Nm))(e:X.Ex)(ps:List X.Part)(i:Nat)(w:World)(h:cO w D rb ab (.br 4 (pb++(t1++(n1++(pr++(t2++([p]++t3))))))::ps) i)
  (hp:X.TR pb pub) (h1:X.Lg X.jN t1) (hn:X.BD n1 (i+X.pz pb+X.pz t1) n) (hr:X.Prp pr (i+X.pz pb+X.pz t1+X.pz n1) TU) (h2:X.wR t2) (he:X.Rd p (i+X.pz pb+X.pz t1+X.pz n1+X.pz pr+X.pz t2) e) (h3:X.wR t3) (HEx:oH p) (AU:∀ qs,pr=[.br 6 qs]→qs.length≤268435456)
  (hi:i+X.pz (pb++(t1++(n1++(pr++(t2++([p]++t3))))))≤1073741824) (hpl:(pb++(t1++(n1++(pr++(t2++([p]++t3)))))).length≤1073741824) (hDl:∀ q,D q→q<w.heap.size) :
  Calls prog 29 #[.pointer (some ⟨rb,0,none⟩)] w fun en w'=>∃ b,en=.returned (.pointer (some ⟨b,0,none⟩))∧Hid (lG w' w.heap.size w'.heap.size (.iface 68 (.pointer (some ⟨b,0,none⟩))) (.dfn pub n TU e)∧cO w' D rb ab ps (i+X.pz (pb++(t1++(n1++(pr++(t2++([p]++t3)))))))∧Kq D rb ab w w'):=by
 obtain⟨q2,r2,A8,hk2⟩:=RP h2;obtain⟨q3,r3,hT3⟩:=h3.AR;have hz:X.pz (pb++(t1++(n1++(pr++(t2++([p]++t3))))))=X.pz pb+(X.pz t1+(X.pz n1+(X.pz pr+(X.pz t2+(X.pz [p]+X.pz t3))))):=by rw[X.aY,X.aY,X.aY,X.aY,X.aY,X.aY]
 have hl1:[p].length=1:=rfl;have yU:=au (nA D rb ab _ ps i w h (by show i+0≤_;omega) hDl);have mI:=au hDl;have Zi:=au h.Ik.br.2;have hlw:=h.lt;have HP:=au hp;have HN:=au hn;have HR:=au hr;have HV:=au he;have H1:=au h1;have hi':=hi;have hpl':=hpl;rw[hz] at hi;simp only[ak] at hpl;clear h h1 h2 h3 hDl hn hp hr he;go_enter func29,ntmps29;go_wp2_with fail
 refine(yU.o).mono ?_;rintro en w2 ⟨a4,a5,a6,rfl,X2⟩;have HT:Hid (Zn w D rb ab ps (pb++(t1++(n1++(pr++(t2++([p]++t3)))))) i w2 (.slice a4 a5 a6)):=Ls (X2.o) Zi.o mI.o;clear yU X2;have HM0:=au (j_ D w2.heap.size ab _ i _ (HT.o).inn hi' hpl' (HT.o).dl);clear hi' hpl';obtain⟨pb2,t1b,hP2,aP4,hdrop,bF9,cG8,hlt2⟩:=RQ HP.o H1.o (n1++(pr++(t2++([p]++t3))));rw[hdrop] at HM0;have sD:=au hP2;have HT1:=au aP4;have hnw:=(HT.o).inn.lt;clear hP2 aP4 HP H1 hdrop;generalize hj0:i+X.pz ((pb++(t1++(n1++(pr++(t2++([p]++t3)))))).takeWhile X.lq)=j0 at HM0;have hjs:j0+X.pz pb2+X.pz t1b=i+X.pz pb+X.pz t1:=by omega
 clear hj0 bF9;go_wp2_with fail
 refine(HM0.o).mono ?_;rintro en Ot ⟨rfl,X25⟩;have hro:=(HT.o).o Ot _ _ (X25.o).1 (X25.o).2;obtain⟨vo,Ii,-⟩:=hro.1.blk;have ro:=ai Ot _ 0 _ _ _ Ii;obtain⟨bv2,bl2,en2,gp2,Au,-⟩:=hro.1.Ar.ex;have po:=ai Ot _ 0 _ _ _ Au;have bG0:=(X25.o).2.size;have kA:Below Ot.heap.size Ot (Ot.alloc (.cells #[.bool false,.string ⟨#[]⟩,.int .i64 0,.pointer none,.nilIface,.int .i64 j0,.int .i64 0] 74)):=(ay _ Ot).alloc (aj _) _;have B25:Hid (Bx (w2.alloc (.cells #[.pointer (some ⟨ab,0,none⟩),.slice a4 a5 a6] 120)) (Ot.alloc (.cells #[.bool false,.string ⟨#[]⟩,.int .i64 0,.pointer none,.nilIface,.int .i64 j0,.int .i64 0] 74)) D w2.heap.size ab (pb2++(t1b++(n1++(pr++(t2++([p]++t3)))))) j0 Ot.heap.size #[.bool false,.string ⟨#[]⟩,.int .i64 0,.pointer none,.nilIface,.int .i64 j0,.int .i64 0] 74):=⟨(X25.o).1.below kA,(X25.o).2.more kA hnw.2,aB Ot _,bG0,hnw.1,hnw.2,(HT.o).dl,by decide⟩;have yG:=au (GK D w2.heap.size ab pb2 t1b _ pub j0 _ (B25.o).rw sD.o HT1.o (by simp only[X.aY];omega) (by simp only[ak];omega) (B25.o).dn);clear hro Ii Au kA X25 HM0;go_wp2_with fail
 clear ro po;generalize Ot.alloc (.cells #[.bool false,.string ⟨#[]⟩,.int .i64 0,.pointer none,.nilIface,.int .i64 j0,.int .i64 0] 74)=W25 at *;generalize Ot.heap.size=b at *;refine(yG.o).mono ?_;rintro en w3 ⟨rfl,X3⟩;obtain⟨t',q',p',i',x1,x2,x3,x4⟩:=(X3.o).ex;have B3:=au ((B25.o).go x2 (X3.o).kp);have hb3:=(B3.o).bl;have c3:=ai w3 _ 0 _ _ _ hb3;have f3:w3.frozen? ⟨b,0,none⟩=false:=by simp[World.frozen?,hb3]
 have N3:Hid (Bx (w2.alloc (.cells #[.pointer (some ⟨ab,0,none⟩),.slice a4 a5 a6] 120)) (w3.setCell ⟨b,0,none⟩ (.bool pub)) D w2.heap.size ab _ _ b #[.bool pub,.string ⟨#[]⟩,.int .i64 0,.pointer none,.nilIface,.int .i64 j0,.int .i64 0] 74):=(B3.o).put 0 (.bool pub);have Fh:=au (gy D w2.heap.size ab t' q' p' (n1++(pr++(t2++([p]++t3)))) i' _ (N3.o).rw x1 (by simp only[X.aY];omega) (by simp only[ak];omega) (N3.o).dn);rw[x3,hjs] at Fh;clear hb3 B3 x2 X3 yG B25;go_wp2_with fail
 clear c3 f3;generalize w3.setCell ⟨b,0,none⟩ (.bool pub)=W3 at *;refine(Fh.o).mono ?_;rintro en w4 ⟨_,_,_,rfl,X4⟩;have B4:=au ((N3.o).go (X4.o).1 (X4.o).2);clear Fh X4 N3;have KA:=au (nC D w2.heap.size ab n1 n _ _ w4 (B4.o).rw HN.o (by simp only[X.aY];omega) (by simp only[ak];omega) (B4.o).dn);go_wp2_with fail
 refine(KA.o).mono ?_;rintro en w5 ⟨rfl,X5⟩;have B5:=au ((B4.o).go (X5.o).1 (X5.o).2);clear KA X5 B4;have hb5:=(B5.o).bl;have c5:=ai w5 _ 1 _ _ _ hb5;have d5:=ai w5 _ 2 _ _ _ hb5;have f5:w5.frozen? ⟨b,1,none⟩=false:=by simp[World.frozen?,hb5]
 have g5:w5.frozen? ⟨b,2,none⟩=false:=by simp[World.frozen?,hb5]
 have N5:Hid (Bx (w2.alloc (.cells #[.pointer (some ⟨ab,0,none⟩),.slice a4 a5 a6] 120)) ((w5.setCell ⟨b,1,none⟩ (.string (ba n.1))).setCell ⟨b,2,none⟩ (.int .i64 n.2)) D w2.heap.size ab _ _ b #[.bool pub,.string (ba n.1),.int .i64 n.2,.pointer none,.nilIface,.int .i64 j0,.int .i64 0] 74):=((B5.o).put 1 (.string (ba n.1))).put 2 (.int .i64 n.2);clear hb5 B5;go_wp2_with fail
 clear c5 d5 f5 g5;generalize (w5.setCell ⟨b,1,none⟩ (.string (ba n.1))).setCell ⟨b,2,none⟩ (.int .i64 n.2)=W5 at *;have Mj:=au (j_ D w2.heap.size ab _ _ W5 (N5.o).rw (by simp only[X.aY];omega) (by simp only[ak];omega) (N5.o).dn);have hpr:=Zr HR.o;clear HR;rcases hpr with ⟨qs,ns,epr,eso,hns⟩|⟨epr,eso⟩
 ·refine(Mj.o).mono ?_
  rintro en w6 ⟨hen,X6⟩;have hdw:(pr++(t2++([p]++t3))).dropWhile X.lq=X.Part.br 6 qs::(t2++([p]++t3))∧(pr++(t2++([p]++t3))).takeWhile X.lq=[]:=by rw[epr];exact X.uM (qs:=[]) (fun q hq=>(by cases hq)) rfl
  rw[hdw.1,hdw.2] at X6;rw[hdw.1,show decide (X.Part.br 6 qs::(t2++([p]++t3))≠[])=true by simp] at hen;subst hen;have B6:=au ((N5.o).go (X6.o).1 (X6.o).2);obtain⟨v0,hb0,hn0⟩:=(X6.o).1.blk;have c1:=ai w6 _ 1 _ _ _ hb0;obtain⟨g,o,cap,kv,rfl,hD,y0,y1,y2,y3,hkk,-,hc1,hc2,-,-⟩:=hn0.head;have y0':w6.cell? ⟨g,o,none⟩=some (.int .i64 6):=y0;have hi1:(0:Int)<((((t2++([p]++t3))).length+1:Nat):Int):=by omega
  have hi2:0<((t2++([p]++t3))).length+1:=by omega
  clear Mj X6 N5 hb0 hn0 hkk y0 y1 y2 y3 hdw;have Nl:X.oN qs (i+X.pz pb+X.pz t1+X.pz n1+X.pz []) ns:=by rw[X.Em,Nat.add_zero];exact hns
  have hzq:X.pz pr=X.pz qs:=by rw[epr,X.eU]
  have hz0:X.pz []=0:=rfl;have hq0:=AU qs epr;have hq1:=Lj hns;have Ky:=au (yt D w2.heap.size ab qs ns _ _ w6 (B6.o).rw Nl (by omega) hq0 (by omega) (B6.o).dn);clear hns Nl;have hb6:=aP (B6.o).bl;go_wp2_with fail
  refine(Ky.o).mono ?_;rintro en w7 ⟨qb,rfl,X7⟩;have B7:=au ((B6.o).go (X7.o).2.1 (X7.o).2.2);have hs7:=(X7.o).2.2.size;have VK:=(B7.o).bl;have c7:=ai w7 _ 3 _ _ _ VK;have f7:w7.frozen? ⟨b,3,none⟩=false:=by simp[World.frozen?,VK]
  have B9:Hid (Bx (w2.alloc (.cells #[.pointer (some ⟨ab,0,none⟩),.slice a4 a5 a6] 120)) (w7.setCell ⟨b,3,none⟩ (.pointer (some ⟨qb,0,none⟩))) D w2.heap.size ab _ _ b #[.bool pub,.string (ba n.1),.int .i64 n.2,.pointer (some ⟨qb,0,none⟩),.nilIface,.int .i64 j0,.int .i64 0] 74):=(B7.o).put 3 (.pointer (some ⟨qb,0,none⟩));have hk7:Kp (fun q=>q=b) w7 (w7.setCell ⟨b,3,none⟩ (.pointer (some ⟨qb,0,none⟩))):=On.set (Kp.refl _ w7) 3 _;have P9:Hid (o7 (w7.setCell ⟨b,3,none⟩ (.pointer (some ⟨qb,0,none⟩))) w6.heap.size w7.heap.size (.pointer (some ⟨qb,0,none⟩)) TU):=.inr ⟨ns,qb,eso,rfl,(X7.o).1.keep hk7 (fun q l1 l2 e=>by omega)⟩;have hs9:=hk7.size;have hj:i+X.pz pb+X.pz t1+X.pz n1+X.pz []+X.pz qs+X.pz t2=(i+X.pz pb+X.pz t1+X.pz n1+X.pz pr+X.pz t2):=by omega
  clear Ky X7 B6 B7 VK hk7 c1 y0' hD hi1 hi2;have hbW:=aP (B9.o).bl;have GL:=au (gy D w2.heap.size ab t2 q2 r2 ([p]++t3) _ _ (B9.o).rw A8 (by simp only[X.aY];omega) (by simp only[ak];omega) (B9.o).dn);go_wp2_with fail
  clear c7 f7;generalize w7.setCell ⟨b,3,none⟩ (.pointer (some ⟨qb,0,none⟩))=W7 at *;refine(GL.o).mono ?_;rintro en VL ⟨_,_,_,rfl,GN⟩;rw[hj] at GN;have B10:=au ((B9.o).go (GN.o).1 (GN.o).2);have P10:=au ((P9.o).jL (GN.o).2 (by omega) (by omega));have bG3:=(GN.o).2.size;clear GL GN B9 P9;have RU:=au (HEx e (i+X.pz pb+X.pz t1+X.pz n1+X.pz pr+X.pz t2) D w2.heap.size ab t3 VL HV.o (B10.o).rw (by omega) (B10.o).dn);go_wp2_with fail
  refine(RU.o).mono ?_;rintro en JV ⟨v,rfl,JW⟩;obtain⟨y1,g1,hv1⟩:=(JW.o).1.iface;subst hv1;have B11:=au ((B10.o).go (JW.o).2.1 (JW.o).2.2);have bG4:=(JW.o).2.2.size;have JX:=(B11.o).bl;have c11:=ai JV _ 4 _ _ _ JX;have f11:JV.frozen? ⟨b,4,none⟩=false:=by simp[World.frozen?,JX]
  have VN:Hid (Bx (w2.alloc (.cells #[.pointer (some ⟨ab,0,none⟩),.slice a4 a5 a6] 120)) (JV.setCell ⟨b,4,none⟩ (.iface y1 (.pointer (some ⟨g1,0,none⟩)))) D w2.heap.size ab _ _ b #[.bool pub,.string (ba n.1),.int .i64 n.2,.pointer (some ⟨qb,0,none⟩),.iface y1 (.pointer (some ⟨g1,0,none⟩)),.int .i64 j0,.int .i64 0] 74):=(B11.o).put 4 (.iface y1 (.pointer (some ⟨g1,0,none⟩)));have Eu:Kp (fun q=>q=b) JV (JV.setCell ⟨b,4,none⟩ (.iface y1 (.pointer (some ⟨g1,0,none⟩)))):=On.set (Kp.refl _ JV) 4 _;have E11:=au ((JW.o).1.keep Eu (fun q l1 l2 e=>by omega));have P11:=au (((P10.o).jL (JW.o).2.2 (by omega) (by omega)).keep Eu (fun q l1 l2 e=>by omega));have bG5:=Eu.size;clear RU JW B10 B11 JX Eu P10;go_wp2_with fail
  clear c11 f11;generalize JV.setCell ⟨b,4,none⟩ (.iface y1 (.pointer (some ⟨g1,0,none⟩)))=W11 at *;have JY:=(VN.o).rw;rw[← aJ t3] at JY;have RV:=au (gy D w2.heap.size ab t3 q3 r3 [] _ W11 JY hT3 (by rw[aJ];omega) (by rw[aJ];omega) (VN.o).dn);clear JY;refine(RV.o).mono ?_;rintro en vY ⟨_,_,_,rfl,Ns⟩;have RX:=au ((VN.o).go (Ns.o).1 (Ns.o).2);have hro:=(HT.o).o vY [] _ (RX.o).rw (RX.o).kp;obtain⟨vo,Ii,-⟩:=hro.1.blk;have ro:=ai vY _ 0 _ _ _ Ii;obtain⟨bv2,bl2,en2,gp2,Au,-⟩:=hro.1.Ar.ex;have po:=ai vY _ 0 _ _ _ Au;have xL:=(RX.o).bl;have c12:=ai vY _ 6 _ _ _ xL;have f12:vY.frozen? ⟨b,6,none⟩=false:=by simp[World.frozen?,xL]
  have HFin:Hid (∀ zz:Int,lG (vY.setCell ⟨b,6,none⟩ (.int .i64 zz)) w.heap.size (vY.setCell ⟨b,6,none⟩ (.int .i64 zz)).heap.size (.iface 68 (.pointer (some ⟨b,0,none⟩))) (.dfn pub n TU e)∧cO (vY.setCell ⟨b,6,none⟩ (.int .i64 zz)) D rb ab ps (i+X.pz (pb++(t1++(n1++(pr++(t2++([p]++t3)))))))∧Kq D rb ab w (vY.setCell ⟨b,6,none⟩ (.int .i64 zz))):=fun zz=>by
   have hle:=(HT.o).le;have hsz:=(HT.o).sz;have hnb:=(RX.o).nb;have bG7:=(Ns.o).2.size;have E12:=(E11.o).jL (Ns.o).2 (by omega) (by omega);have P12:=(P11.o).jL (Ns.o).2 (by omega) (by omega);have JZ:Kp (fun q=>q=b) vY (vY.setCell ⟨b,6,none⟩ (.int .i64 zz)):=On.set (Kp.refl _ vY) 6 _;have Zt:=iU xL 6 (.int .i64 zz);have Zu:(vY.setCell ⟨b,6,none⟩ (.int .i64 zz)).heap.size=vY.heap.size:=by simp[World.setCell]
   have hbl:=aP xL;have hal:=hlw.2;rw[hz,Zu];refine⟨.dfn b pub n _ TU _ e ⟨by omega,hbl⟩ Zt ((P12.keep JZ (fun q l1 l2 e=>by omega)).wide (by omega) (by omega)) ((E12.keep JZ (fun q l1 l2 e=>by omega)).wide (by omega) (by omega)),?_,hro.2.set hal (by omega) 6 _⟩;rw[show i+(X.pz pb+(X.pz t1+(X.pz n1+(X.pz pr+(X.pz t2+(X.pz [p]+X.pz t3))))))=(i+X.pz pb+X.pz t1+X.pz n1+X.pz pr+X.pz t2)+X.pz [p]+X.pz t3 by omega];exact hro.1.on JZ xL (by decide) (by omega) (by omega) (fun hd=>by have:=(mI.o) _ hd;omega)
  clear RV Ns VN E11 P11 RX hro Ii Au xL;go_wp2_with fail
  go_ret;exact⟨b,rfl,(HFin.o) _⟩
 ·refine(Mj.o).mono ?_
  rintro en w6 ⟨hen,X6⟩;have hdw:(pr++(t2++([p]++t3))).dropWhile X.lq=r2::([p]++t3)∧(pr++(t2++([p]++t3))).takeWhile X.lq=q2:=by rw[epr];exact A8.drop _
  rw[hdw.1,hdw.2] at X6;rw[hdw.1,show decide (r2::([p]++t3)≠[])=true by simp] at hen;subst hen;have B6:=au ((N5.o).go (X6.o).1 (X6.o).2);obtain⟨v0,hb0,hn0⟩:=(X6.o).1.blk;have c1:=ai w6 _ 1 _ _ _ hb0;obtain⟨g,o,cap,kv,rfl,hD,y0,y1,y2,y3,hkk,-,hc1,hc2,-,-⟩:=hn0.head;have y0':w6.cell? ⟨g,o,none⟩=some (.int .i64 (X.nk r2:Int)):=y0;have hi1:(0:Int)<(((([p]++t3)).length+1:Nat):Int):=by omega
  have hi2:0<(([p]++t3)).length+1:=by omega
  clear Mj X6 N5 hb0 hn0 hkk y0 y1 y2 y3 hdw;have hzq:X.pz pr=0:=by rw[epr];rfl
  have hz2:=X.Et A8;have hl2:t2.length=q2.length+1:=by rw[A8.eq,ak];rfl
  have hl3:[r2].length=1:=rfl;have hj:i+X.pz pb+X.pz t1+X.pz n1+X.pz q2+X.pz [r2]=(i+X.pz pb+X.pz t1+X.pz n1+X.pz pr+X.pz t2):=by omega
  have B9:Hid (Bx (w2.alloc (.cells #[.pointer (some ⟨ab,0,none⟩),.slice a4 a5 a6] 120)) w6 D w2.heap.size ab ([r2]++([p]++t3)) _ b #[.bool pub,.string (ba n.1),.int .i64 n.2,.pointer none,.nilIface,.int .i64 j0,.int .i64 0] 74):=B6.o;have P9:Hid (o7 w6 (b+1) (b+1) (.pointer none) TU):=.inl ⟨eso,rfl⟩;have hTr:=X.Lp A8;clear B6;have hbW:=aP (B9.o).bl;have GL:=au (gy D w2.heap.size ab [r2] [] r2 ([p]++t3) _ _ (B9.o).rw hTr (by simp only[X.aY];omega) (by simp only[ak];omega) (B9.o).dn);go_wp2_with fail
  clear c1 y0' hD hi1 hi2;refine(GL.o).mono ?_;rintro en VL ⟨_,_,_,rfl,GN⟩;rw[hj] at GN;have B10:=au ((B9.o).go (GN.o).1 (GN.o).2);have P10:=au ((P9.o).jL (GN.o).2 (by omega) (by omega));have bG3:=(GN.o).2.size;clear GL GN B9 P9;have RU:=au (HEx e (i+X.pz pb+X.pz t1+X.pz n1+X.pz pr+X.pz t2) D w2.heap.size ab t3 VL HV.o (B10.o).rw (by omega) (B10.o).dn);go_wp2_with fail
  refine(RU.o).mono ?_;rintro en JV ⟨v,rfl,JW⟩;obtain⟨y1,g1,hv1⟩:=(JW.o).1.iface;subst hv1;have B11:=au ((B10.o).go (JW.o).2.1 (JW.o).2.2);have bG4:=(JW.o).2.2.size;have JX:=(B11.o).bl;have c11:=ai JV _ 4 _ _ _ JX;have f11:JV.frozen? ⟨b,4,none⟩=false:=by simp[World.frozen?,JX]
  have VN:Hid (Bx (w2.alloc (.cells #[.pointer (some ⟨ab,0,none⟩),.slice a4 a5 a6] 120)) (JV.setCell ⟨b,4,none⟩ (.iface y1 (.pointer (some ⟨g1,0,none⟩)))) D w2.heap.size ab _ _ b #[.bool pub,.string (ba n.1),.int .i64 n.2,.pointer none,.iface y1 (.pointer (some ⟨g1,0,none⟩)),.int .i64 j0,.int .i64 0] 74):=(B11.o).put 4 (.iface y1 (.pointer (some ⟨g1,0,none⟩)));have Eu:Kp (fun q=>q=b) JV (JV.setCell ⟨b,4,none⟩ (.iface y1 (.pointer (some ⟨g1,0,none⟩)))):=On.set (Kp.refl _ JV) 4 _;have E11:=au ((JW.o).1.keep Eu (fun q l1 l2 e=>by omega));have P11:=au (((P10.o).jL (JW.o).2.2 (by omega) (by omega)).keep Eu (fun q l1 l2 e=>by omega));have bG5:=Eu.size;clear RU JW B10 B11 JX Eu P10;go_wp2_with fail
  clear c11 f11;generalize JV.setCell ⟨b,4,none⟩ (.iface y1 (.pointer (some ⟨g1,0,none⟩)))=W11 at *;have JY:=(VN.o).rw;rw[← aJ t3] at JY;have RV:=au (gy D w2.heap.size ab t3 q3 r3 [] _ W11 JY hT3 (by rw[aJ];omega) (by rw[aJ];omega) (VN.o).dn);clear JY;refine(RV.o).mono ?_;rintro en vY ⟨_,_,_,rfl,Ns⟩;have RX:=au ((VN.o).go (Ns.o).1 (Ns.o).2);have hro:=(HT.o).o vY [] _ (RX.o).rw (RX.o).kp;obtain⟨vo,Ii,-⟩:=hro.1.blk;have ro:=ai vY _ 0 _ _ _ Ii;obtain⟨bv2,bl2,en2,gp2,Au,-⟩:=hro.1.Ar.ex;have po:=ai vY _ 0 _ _ _ Au;have xL:=(RX.o).bl;have c12:=ai vY _ 6 _ _ _ xL;have f12:vY.frozen? ⟨b,6,none⟩=false:=by simp[World.frozen?,xL]
  have HFin:Hid (∀ zz:Int,lG (vY.setCell ⟨b,6,none⟩ (.int .i64 zz)) w.heap.size (vY.setCell ⟨b,6,none⟩ (.int .i64 zz)).heap.size (.iface 68 (.pointer (some ⟨b,0,none⟩))) (.dfn pub n TU e)∧cO (vY.setCell ⟨b,6,none⟩ (.int .i64 zz)) D rb ab ps (i+X.pz (pb++(t1++(n1++(pr++(t2++([p]++t3)))))))∧Kq D rb ab w (vY.setCell ⟨b,6,none⟩ (.int .i64 zz))):=fun zz=>by
   have hle:=(HT.o).le;have hsz:=(HT.o).sz;have hnb:=(RX.o).nb;have bG7:=(Ns.o).2.size;have E12:=(E11.o).jL (Ns.o).2 (by omega) (by omega);have P12:=(P11.o).jL (Ns.o).2 (by omega) (by omega);have JZ:Kp (fun q=>q=b) vY (vY.setCell ⟨b,6,none⟩ (.int .i64 zz)):=On.set (Kp.refl _ vY) 6 _;have Zt:=iU xL 6 (.int .i64 zz);have Zu:(vY.setCell ⟨b,6,none⟩ (.int .i64 zz)).heap.size=vY.heap.size:=by simp[World.setCell]
   have hbl:=aP xL;have hal:=hlw.2;rw[hz,Zu];refine⟨.dfn b pub n _ TU _ e ⟨by omega,hbl⟩ Zt ((P12.keep JZ (fun q l1 l2 e=>by omega)).wide (by omega) (by omega)) ((E12.keep JZ (fun q l1 l2 e=>by omega)).wide (by omega) (by omega)),?_,hro.2.set hal (by omega) 6 _⟩;rw[show i+(X.pz pb+(X.pz t1+(X.pz n1+(X.pz pr+(X.pz t2+(X.pz [p]+X.pz t3))))))=(i+X.pz pb+X.pz t1+X.pz n1+X.pz pr+X.pz t2)+X.pz [p]+X.pz t3 by omega];exact hro.1.on JZ xL (by decide) (by omega) (by omega) (fun hd=>by have:=(mI.o) _ hd;omega)
  clear RV Ns VN E11 P11 RX hro Ii Au xL;go_wp2_with fail
  go_ret;exact⟨b,rfl,(HFin.o) _⟩
end
section
variable{w wr:World}{D:Nat→Prop}{rb ab tot kb k:Nat}{ps l:List X.Part}
structure BF(w:World)(D:Nat→Prop)(rb ab:Nat)(ps:List X.Part)(tot kb:Nat)(l:List X.Part)(k:Nat)(wr:World):Prop where
 rw:cO wr D kb ab l k
 lv:∀ q∈l,∃ k x,q=X.Part.leaf k x
 o:∃ v,wr.heap[rb]?=some (.cells #[.pointer (some ⟨ab,0,none⟩),v] 120 (0,0))∧qz wr D v ps
 new:w.heap.size≤kb
 kp:Kq D rb ab w wr
 pos:k+X.pz l=tot
theorem BF.step(h:BF w D rb ab ps tot kb l k wr){w2:World}{l2:List X.Part}{k2:Nat}(hr:rb<w.heap.size)(hne:rb≠ab)(hk:Kq D kb ab wr w2)(hw:cO w2 D kb ab l2 k2)(hn:∀ q∈l2,∃ k x,q=X.Part.leaf k x)(hp:k2+X.pz l2=tot):BF w D rb ab ps tot kb l2 k2 w2:=by
 obtain⟨v,e,hv⟩:=h.o;have n1:=h.new;exact⟨hw,hn,⟨v,hk.heap e (by decide) (by omega) hne,hk.nds hv hw.sep.2.1 hw.sep.2.2⟩,h.new,h.kp.inner hk n1,hp⟩
theorem BF.copy(h:BF w D rb ab ps tot kb l k wr)(hDlt:∀ {q},D q→q<w.heap.size)(ha:ab<w.heap.size){v:Value}(hb:wr.heap[kb]?=some (.cells #[.pointer (some ⟨ab,0,none⟩),v] 120 (0,0))):BF w D rb ab ps tot wr.heap.size l k (wr.alloc (.cells #[.pointer (some ⟨ab,0,none⟩),v] 120)):=by
 have kB:Below wr.heap.size wr (wr.alloc (.cells #[.pointer (some ⟨ab,0,none⟩),v] 120)):=(ay _ wr).alloc (aj _) _;have hk:=Kp.aI kB (fun _=>False);obtain⟨v0,e0,hn0⟩:=h.o;obtain⟨v',e1,hn1⟩:=h.rw.blk;obtain rfl:v'=v:=by
  rw[hb] at e1;cases e1;rfl
 have hkl:=aP hb;have hs:=h.kp.size;refine⟨⟨⟨v',aB wr _,hn1.keep hk (fun _ _=>id)⟩,h.rw.Ar.below kB,⟨by have:=h.rw.Ar.lt;omega,?_,h.rw.sep.2.2⟩,h.rw.Ik⟩,h.lv,⟨v0,hk.heap e0 id,hn0.keep hk (fun _ _=>id)⟩,hs,h.kp.more kB ha,h.pos⟩;intro hd;have:=hDlt hd;omega
theorem Nt(D:Nat→Prop)(rb ab:Nat)(qs:List X.Part)(ps:List X.Part)(i:Nat)(w:World)(h:cO w D rb ab (.br 5 qs::ps) i)(hn:∀ q∈qs,∃ k x,q=X.Part.leaf k x)(hi:i+X.pz qs≤1073741824)(AU:qs.length≤268435456)(hDl:∀ q,D q→q<w.heap.size) :
  Calls prog 30 #[.pointer (some ⟨rb,0,none⟩)] w fun e w'=>e=.returned (.tuple #[])∧Hid (cO w' D rb ab ps (i+X.pz qs)∧Kq D rb ab w w'):=by
 obtain⟨hr,ha⟩:=h.lt;have hsep:=h.sep;have Zi:=h.Ik.br.2;have Vd:=h.Ik.tail;have HE:=au (nA D rb ab (.br 5 qs) ps i _ h (by show i+0≤_;omega) hDl);have mI:=au hDl;clear h hDl;go_enter func30,ntmps30;go_wp2_with fail
 refine(HE.o).mono ?_;rintro e w2 ⟨a4,a5,a6,rfl,H2⟩;have H2':Hid (qz w2 D (.slice a4 a5 a6) qs∧cO w2 D rb ab ps i∧Kq D rb ab w w2):=H2.o;have HI0:Hid (BF w D rb ab ps (i+X.pz qs) w2.heap.size qs i (w2.alloc (.cells #[.pointer (some ⟨ab,0,none⟩),.slice a4 a5 a6] 120))):=by
  obtain⟨x1,x2,x3⟩:=H2'.o;have hs2:=x3.size;have kB:Below w2.heap.size w2 (w2.alloc (.cells #[.pointer (some ⟨ab,0,none⟩),.slice a4 a5 a6] 120)):=(ay _ w2).alloc (aj _) _;have x2b:=x2.below kB;exact⟨⟨⟨_,aB w2 _,x1.keep (Kp.aI kB (fun _=>False)) (fun _ _=>id)⟩,x2b.Ar,⟨by omega,fun hd=>by have:=(mI.o) _ hd;omega,x2.sep.2.2⟩,Zi⟩,hn,x2b.blk,hs2,x3.more kB ha,rfl⟩
 clear H2 H2' HE;go_wp2_with fail
 generalize w2.alloc (.cells #[.pointer (some ⟨ab,0,none⟩),.slice a4 a5 a6] 120)=W2 at *;go_loopw [2] (fun kv wr=>∃(kb:Nat) (l:List X.Part) (k:Nat),kv=.pointer (some ⟨kb,0,none⟩)∧l.length≤268435456∧Hid (BF w D rb ab ps (i+X.pz qs) kb l k wr)) (fun kv wr=>VG kv wr)
 case atStart=>exact⟨w2.heap.size,qs,i,rfl,AU,HI0⟩
 case round =>
  obtain⟨kb,l,k,rfl,hll,HI⟩:=hrel;clear HI0;have hlen:VG (.pointer (some ⟨kb,0,none⟩)) wr=l.length:=(HI.o).rw.len;have hpos:=(HI.o).pos;have HDw:∀ q,D q→q<wr.heap.size:=fun q hq=>aH ((mI.o) q hq) (HI.o).kp.size
  have HM:=au (j_ D kb ab l k wr (HI.o).rw (by omega) (by omega) HDw);clear HDw;go_wp2_with fail
  refine(HM.o).mono ?_;rintro e w3 ⟨rfl,H3⟩;have hpz:X.pz l=X.pz (l.takeWhile X.lq)+X.pz (l.dropWhile X.lq):=by rw[← X.aY,dZ]
  have hdl:(l.dropWhile X.lq).length≤l.length:=(fo _).length_le;have HI3:Hid (BF w D rb ab ps (i+X.pz qs) kb (l.dropWhile X.lq) (k+X.pz (l.takeWhile X.lq)) w3) :=
   (HI.o).step hr hsep.1 (H3.o).2 (H3.o).1 (fun q hq=>(HI.o).lv q ((fo _).subset hq)) (by omega)
  clear HM H3 HI;generalize l.dropWhile X.lq=l3 at *;generalize k+X.pz (l.takeWhile X.lq)=k3 at *;cases l3 with
  | nil =>
   have HF:Hid (cO w3 D rb ab ps (i+X.pz qs)∧Kq D rb ab w w3):=by
    have hp3:k3=i+X.pz qs:=(HI3.o).pos;exact⟨⟨(HI3.o).o,by rw[← hp3];exact(HI3.o).rw.Ar,hsep,Vd⟩,(HI3.o).kp⟩
   have hdf:decide (([]:List X.Part)≠[])=false:=by simp
   rw[hdf];clear HI3;go_wp2_with fail
   exact bodyPost_end (results_none rfl _ _ _) rfl ⟨rfl,HF⟩
  | cons p l4 =>
   have hdt:decide (p::l4≠[])=true:=by simp
   rw[hdt];clear hdt;have yu:=(HI3.o).pos;rw[X.fH] at yu;rw[aW] at hdl;have hln:X.Ij p=X.pz [p]:=by
    obtain⟨k',x',rfl⟩:=(HI3.o).lv p (by simp);exact(X.iK k' x').symm
   have Og:=au (jX D kb ab p l4 k3 w3 (HI3.o).rw (by omega) (fun q hq=>aH ((mI.o) q hq) (HI3.o).kp.size));go_wp2_with fail
   refine(Og.o).mono ?_;rintro e w5 ⟨d4,d5,d6,rfl,H5⟩;have rZ:Hid (BF w D rb ab ps (i+X.pz qs) kb l4 (k3+X.pz [p]) w5):=by
    obtain⟨-,z2,z3⟩:=H5.o;rw[hln] at z2;exact(HI3.o).step hr hsep.1 z3 z2 (fun q hq=>(HI3.o).lv q (fJ _ hq)) (by omega)
   clear H5 Og HI3;obtain⟨v5,hb5,Yb⟩:=(rZ.o).rw.blk;have c0:=ai w5 _ 0 _ _ _ hb5;obtain⟨f4,f6,_,_,_,_,rfl,-⟩:=Yb.ex;have c1:=ai w5 _ 1 _ _ _ hb5;have Ie:=au ((rZ.o).copy (fun {q} hq=>(mI.o) q hq) ha (v:=.slice f4 l4.length f6) hb5);clear hb5 Yb rZ;go_wp2_with fail
   refine⟨⟨w5.heap.size,l4,k3+X.pz [p],rfl,by omega,Ie⟩,?_⟩;have:=(Ie.o).rw.len;rw[hlen];show uo w5.heap.size _<_;rw[this];omega
end
section
variable{D:Nat→Prop}{ab k kb tot k2:Nat}{w wr:World}{v rv:Value}{e:X.It}{p:X.Part}{l l2:List X.Part}{its es acc:List X.It}{vs:List Value}
theorem lG.keep{S:Nat→Prop}{w w':World}(hk:Kp S w w'){lo hi:Nat}(hS:∀ i,lo≤i→i<hi→¬ S i){v:Value}{e:X.It}(h:lG w lo hi v e):lG w' lo hi v e:=by
 cases h with
 | use b pub gs m n a hb h=>exact .use b pub gs m n a hb (hk.heap h (hS b hb.1 hb.2))
 | dfn b pub n pv ps v e hb h hp he=>exact .dfn b pub n pv ps v e hb (hk.heap h (hS b hb.1 hb.2)) (o7.keep hp hk hS) (he.keep hk hS)
theorem o7.rR{S:Nat→Prop}{w w':World}{lo hi:Nat}{pv:Value}{ps:Option (List X.Nm)}(h:o7 w lo hi pv ps)(hk:Kp S w w')(hS:∀ i,lo≤i→i<hi→S i→∃ c f,w.heap[i]?=some (.cells c 3 f)):o7 w' lo hi pv ps:=by
 rcases h with h|⟨ns,pb,a,b,c⟩
 ·exact .inl h
 ·exact .inr ⟨ns,pb,a,b,c.rR hk hS⟩
theorem lG.rR{S:Nat→Prop}{w w':World}(hk:Kp S w w'){lo hi:Nat}(hS:∀ i,lo≤i→i<hi→S i→∃ c f,w.heap[i]?=some (.cells c 3 f)){v:Value}{e:X.It}(h:lG w lo hi v e):lG w' lo hi v e:=by
 cases h with
 | use b pub gs m n a hb h=>exact .use b pub gs m n a hb (hk.heap h (fun e=>nH h (by decide) (hS _ hb.1 hb.2 e)))
 | dfn b pub n pv ps v e hb h hp he=>exact .dfn b pub n pv ps v e hb (hk.heap h (fun e=>nH h (by decide) (hS _ hb.1 hb.2 e))) (o7.rR hp hk hS) (he.rR hk hS)
theorem lG.jL{rb:Nat}{w':World}(hk:Kq D rb ab w w'){lo hi:Nat}(h:lG w lo hi v e)(h1:rb<lo)(h2:ab<lo):lG w' lo hi v e:=h.rR hk.kp (fun _ hi _ e=>e.int h1 h2 hi)
theorem lG.wide{w:World}{lo hi lo' hi':Nat}(q1:lo'≤lo)(q2:hi≤hi'){v:Value}{e:X.It}(h:lG w lo hi v e):lG w lo' hi' v e:=by
 cases h with
 | use b pub gs m n a hb h=>exact .use b pub gs m n a ⟨by omega,by omega⟩ h
 | dfn b pub n pv ps v e hb h hp he=>exact .dfn b pub n pv ps v e ⟨by omega,by omega⟩ h (o7.wide hp q1 q2) (he.wide q1 q2)
theorem Zv{i:Nat}{it:X.It}(h:X.Jr p i it):X.lq p=false:=by cases h<;>rfl
theorem CU:∀(l:List X.Part),(∀ q∈l,X.lq q=true)→l.dropWhile X.lq=[]
 | [],_=>rfl
 | p::l,h=>by rw[jG (h p (by simp))];exact CU l (fun q hq=>h q (fJ _ hq))
theorem Nu(h:X.sI l k its):X.sI (l.dropWhile X.lq) (k+X.pz (l.takeWhile X.lq)) its:=by
 cases h with
 | leaves _ _ h=>rw[CU l h];exact .leaves _ _ (fun q hq=>by cases hq)
 | junk qs ps _ _ hq h =>
  have e:X.lq (.br 5 qs)=false:=rfl;rw[eT (by rw[e];simp),dU (by rw[e];simp)];exact .junk qs ps _ _ hq h
 | item p ps _ it its hp h =>
  have e:=Zv hp;rw[eT (by rw[e];simp),dU (by rw[e];simp)];exact .item p ps _ it its hp h
theorem RY(h:X.sI (p::l) k its)(hq:X.lq p=false):(∃ qs,p=.br 5 qs∧(∀ q∈qs,∃ k x,q=X.Part.leaf k x)∧X.sI l (k+X.pz [p]) its)∨∃ it VO,its=it::VO∧X.Jr p k it∧X.sI l (k+X.pz [p]) VO:=by
 cases h with
 | leaves _ _ h=>have:=h p (by simp);rw[hq] at this;cases this
 | junk qs ps _ _ hl h=>exact .inl ⟨qs,rfl,hl,h⟩
 | item p ps _ it its hp h=>exact .inr ⟨it,its,rfl,hp,h⟩
theorem KI(h:X.sI l k its):its.length≤l.length:=by
 induction h with
 | leaves _ _ h=>exact aX _
 | junk qs ps _ _ hq h ih=>rw[aW];omega
 | item p ps _ it its hp h ih=>rw[aW,aW];omega
structure oV(w:World)(lo hi:Nat)(rv:Value)(es:List X.It):Prop where
 ex:∃(ao:Option Addr) (cap:Nat) (vs:Nat→Value),rv=.slice ao es.length cap∧es.length≤cap∧cap≤maxLen∧(∀ j,j<es.length→∃ g,ao=some ⟨g,0,none⟩∧lo≤g∧g<hi∧w.cell? ⟨g,j,none⟩=some (vs j)∧∃ c f,w.heap[g]?=some (.cells c 64 f))∧(∀(j:Nat) (e:X.It),es[j]?=some e→lG w lo hi (vs j) e)
theorem Zw:(prog.info? 64).map (fun i=>(i.zero,i.size,i.bytes))=some (some .nilIface,1,16):=by kernel_rfl
structure rT(w:World)(D:Nat→Prop)(kb ab:Nat)(es:List X.It)(tot:Nat)(l:List X.Part)(k:Nat)(acc:List X.It)(rv:Value)(vs:List Value)(wr:World):Prop where
 rw:cO wr D kb ab l k
 rdf:∃ es',X.sI l k es'∧es=acc++es'
 own:wr.ownsRow w.heap.size 64 1 rv acc.length vs
 len:vs.length=acc.length
 each:∀(j:Nat) (e:X.It),acc[j]?=some e→∃ v L H,vs[j]?=some v∧w.heap.size≤L∧H≤wr.heap.size∧(∀ g,rv.ownBlock=some g→¬(L≤g∧g<H))∧lG wr L H v e
 kp:Kq D kb ab w wr
 pos:k+X.pz l=tot
theorem rT.step(h:rT w D kb ab es tot l k acc rv vs wr){w2:World}(hr:kb<w.heap.size)(ha:ab<w.heap.size)(hk:Kq D kb ab wr w2)(hw:cO w2 D kb ab l2 k2)(hn:∃ es',X.sI l2 k2 es'∧es=acc++es')(hp:k2+X.pz l2=tot):rT w D kb ab es tot l2 k2 acc rv vs w2:=by
 refine⟨hw,hn,hk.owns h.own (by decide) (fun g hg=>by have:=(dV h.own g hg).1;exact⟨by omega,by omega⟩),h.len,fun j e hj=>?_,h.kp.trans hk,hp⟩;obtain⟨v,L,H,x1,x2,x3,x4,x5⟩:=h.each j e hj;exact⟨v,L,H,x1,x2,bS x3 hk.size,x4,x5.jL hk (aH hr x2) (aH ha x2)⟩
theorem rT.more(h:rT w D kb ab es tot l k acc rv vs wr){w5 w6:World}(hr:kb<w.heap.size)(ha:ab<w.heap.size)(hD:∀ q,D q→q<w.heap.size)(hk:Kq D kb ab wr w5)(hw:cO w5 D kb ab l2 k2)(hE:lG w5 wr.heap.size w5.heap.size v e)(hn:∃ es',X.sI l2 k2 es'∧es=(acc++[e])++es')(hp:k2+X.pz l2=tot)(o:Obj){g cap:Nat}
  (hown:w6.ownsRow w.heap.size 64 1 (.slice (some ⟨g,0,none⟩) (acc.length+1) cap) (acc.length+1) (vs++[v])) (hgrow:(w5.alloc o).grownBy w6 rv.ownBlock) (hat:rv.ownBlock=some g∨g=w5.heap.size+1) :
  rT w D kb ab es tot l2 k2 (acc++[e]) (.slice (some ⟨g,0,none⟩) (acc.length+1) cap) (vs++[v]) w6:=by
 have hs5:=hk.size;have hge:=fun q hq=>(dV h.own q hq)
 have hown5:=hk.owns h.own (by decide) (fun g hg=>by have:=(hge g hg).1;exact⟨by omega,by omega⟩);have hA:Kp (fun q=>rv.ownBlock=some q) w5 w6:=Kp.grown (Kp.alloc (Kp.refl _ w5) o) hgrow (fun k e _=>e);have hs6:=hA.size;have hws:=h.kp.size;have hgo:∀ L H,H≤w5.heap.size→(∀ g',rv.ownBlock=some g'→¬(L≤g'∧g'<H))→∀ q,(Value.slice (some ⟨g,0,none⟩) (acc.length+1) cap).ownBlock=some q→¬(L≤q∧q<H):=fun L H hH h0 q hq=>by
  simp only[Value.ownBlock,eH] at hq;subst hq;rcases hat with e|e
  ·exact h0 g e
  ·omega
 refine⟨hw.keep hA (fun e=>by have:=(hge _ e).1;omega) (fun e=>by have:=(hge _ e).1;omega) (fun q hq e=>by have:=(hge _ e).1;have:=hD q hq;omega) (fun q c f _ hc e=>by obtain⟨-,c',f',hc'⟩:=jb hown5 e;exact nH hc' (by decide) ⟨c,f,hc⟩),hn,by rw[ak];exact hown,by rw[ak,ak,h.len];rfl,fun j e' hj=>?_,(h.kp.trans hk).over hA ha (fun i hi e=>by have:=(hge _ e).1;omega),hp⟩;by_cases hjl:j<acc.length
 ·rw[aU hjl] at hj
  obtain⟨v',L,H,x1,x2,x3,x4,x5⟩:=h.each j e' hj;exact⟨v',L,H,by rw[aU (by rw[h.len];exact hjl)];exact x1,x2,by omega,hgo L H (by omega) x4,(x5.jL hk (aH hr x2) (aH ha x2)).keep hA (fun q h1 h2 e=>x4 q e ⟨h1,h2⟩)⟩
 ·rw[aQ (by omega)] at hj
  have h0:j - acc.length=0:=by
   rcases gF (j - acc.length) with q|q
   ·exact q
   ·rw[aO (by simp;omega)] at hj;cases hj
  rw[h0] at hj;obtain rfl:e=e':=by simpa using hj
  have hno:∀ q,rv.ownBlock=some q→¬(wr.heap.size≤q∧q<w5.heap.size):=fun q hq=>by have:=(hge q hq).2;omega
  exact⟨v,wr.heap.size,w5.heap.size,by rw[aQ (by rw[h.len];omega),h.len,h0];rfl,hws,hs6,hgo _ _ (aj _) hno,hE.keep hA (fun q h1 h2 e=>hno q e ⟨h1,h2⟩)⟩
theorem rT.done(h:rT w D kb ab es tot [] k acc rv vs wr):oV wr w.heap.size wr.heap.size rv es∧cO wr D kb ab [] tot∧Kq D kb ab w wr:=by
 obtain⟨es',h1,h2⟩:=h.rdf;cases h1
 rw[aJ] at h2;subst h2;have hp:k=tot:=h.pos;have hge:=fun q hq=>(dV h.own q hq)
 have hl:=h.len;refine⟨?_,by rw[← hp];exact h.rw,h.kp⟩;have hc:=fun g hg=>h.own.cells (g:=g) hg
 have hown:=h.own;rcases hown.2 with ⟨rfl,h0⟩|⟨g,cap,cur,rfl,-,-,hn,hm,-,-⟩
 ·have he:es=[]:=aT.1 h0
  subst he;exact⟨none,0,fun _=>undef,rfl,aj _,by unfold maxLen;omega,fun j hj=>absurd hj (mF _),fun j e hj=>by simp at hj⟩
 ·refine⟨_,cap,fun j=>vs.getD j undef,rfl,hn,hm,fun j hj=>⟨g,rfl,(hge g rfl).1,(hge g rfl).2,?_,(jb hown rfl).2⟩,fun j e hj=>?_⟩
  ·have hv:vs[j]?=some (vs.getD j undef):=by
    rw[bF,aC (by omega)];rfl
   have:=hc g rfl j _ hv
   rwa[fe,cu] at this
  ·obtain⟨v,L,H,x1,x2,x3,-,x5⟩:=h.each j e hj
   have:vs.getD j undef=v:=by rw[bF,x1];rfl
   show lG _ _ _ (vs.getD j undef) e;rw[this];exact x5.wide x2 x3
theorem Dr(b:Nat)(pub gs:Bool)(m n a:X.Nm)(w:World)(h:w.heap[b]?=some (.cells #[.bool pub,.string (ba m.1),.int .i64 m.2,.string (ba n.1),.int .i64 n.2,.bool gs,.string (ba a.1),.int .i64 a.2] 166 (0,0))) :
  Calls prog 225 #[.pointer (some ⟨b,0,none⟩)] w fun e w'=>e=.returned (.bool pub)∧w'=w:=by
 have c0:=ai w _ 0 _ _ _ h;clear h;go_enter func225,ntmps225;go_wp2_with fail
 go_ret;exact⟨rfl,rfl⟩
theorem Dt(b:Nat)(pub:Bool)(n:X.Nm)(pv v:Value)(fr tt:Int)(w:World)(h:w.heap[b]?=some (.cells #[.bool pub,.string (ba n.1),.int .i64 n.2,pv,v,.int .i64 fr,.int .i64 tt] 74 (0,0))) :
  Calls prog 218 #[.pointer (some ⟨b,0,none⟩)] w fun e w'=>e=.returned (.bool pub)∧w'=w:=by
 have c0:=ai w _ 0 _ _ _ h;clear h;go_enter func218,ntmps218;go_wp2_with fail
 go_ret;exact⟨rfl,rfl⟩
theorem qh(b:Nat)(pub:Bool)(n:X.Nm)(pv v:Value)(fr tt:Int)(w:World)(h:w.heap[b]?=some (.cells #[.bool pub,.string (ba n.1),.int .i64 n.2,pv,v,.int .i64 fr,.int .i64 tt] 74 (0,0))) :
  Calls prog 217 #[.pointer (some ⟨b,0,none⟩)] w fun e w'=>e=.returned (.agg #[.string (ba n.1),.int .i64 n.2])∧Below w.heap.size w w':=by
 have c1:=ai w _ 1 _ _ _ h;have c2:=ai w _ 2 _ _ _ h;have hb:=aP h;clear h;go_enter func217,ntmps217;go_wp2_with fail
 exact bI (tF rfl _ _ (b:=w.heap.size) rfl (aB w _)) rfl ⟨rfl,(ay _ w).alloc (aj _) _⟩
theorem uD(b:Nat)(pub gs:Bool)(m n a:X.Nm)(w:World)(h:w.heap[b]?=some (.cells #[.bool pub,.string (ba m.1),.int .i64 m.2,.string (ba n.1),.int .i64 n.2,.bool gs,.string (ba a.1),.int .i64 a.2] 166 (0,0))) :
  Calls prog 224 #[.pointer (some ⟨b,0,none⟩)] w fun e w'=>e=.returned (.agg #[.string (ba (if gs then a else n).1),.int .i64 (if gs then a else n).2])∧Below w.heap.size w w':=by
 have c3:=ai w _ 3 _ _ _ h;have c4:=ai w _ 4 _ _ _ h;have c5:=ai w _ 5 _ _ _ h;have c6:=ai w _ 6 _ _ _ h;have c7:=ai w _ 7 _ _ _ h;have hb:=aP h;clear h;cases gs with
 | true =>
  show Calls _ _ _ _ fun e w'=>e=.returned (.agg #[.string (ba a.1),.int .i64 a.2])∧_
  go_enter func224,ntmps224;go_wp2_with fail
  exact bI (tF rfl _ _ (b:=w.heap.size) rfl (aB w _)) rfl ⟨rfl,(ay _ w).alloc (aj _) _⟩
 | false =>
  show Calls _ _ _ _ fun e w'=>e=.returned (.agg #[.string (ba n.1),.int .i64 n.2])∧_
  go_enter func224,ntmps224;go_wp2_with fail
  exact bI (tF rfl _ _ (b:=w.heap.size) rfl (aB w _)) rfl ⟨rfl,(ay _ w).alloc (aj _) _⟩
theorem iV(x:ah)(n:Int)(w:World) :
  Calls prog 18 #[.agg #[.string (ba x),.int .i64 n]] w fun e w'=>e=.returned (.bool x.isEmpty)∧Below w.heap.size w w':=by
 have hx:((ba x).toList==[])=x.isEmpty:=by rw[jK];cases x<;>rfl
 go_enter func18,ntmps18;go_wp2_with fail
 go_ret;exact⟨rfl,(ay _ w).alloc (aj _) _⟩
structure yR(w w':World)(lo hi:Nat)(rv:Value)(es:List X.Ex):Prop where
 ex:∃(ao:Option Addr) (cap:Nat) (vs:Nat→Value),rv=.slice ao es.length cap∧es.length≤cap∧cap≤maxLen∧(∀ j,j<es.length→∃ g cs d,ao=some ⟨g,0,none⟩∧w.heap.size≤g∧w'.heap[g]?=some (.cells cs 72 d)∧w'.cell? ⟨g,j,none⟩=some (vs j))∧(∀(j:Nat) (e:X.Ex),es[j]?=some e→gJ w lo hi (vs j) e)
 bl:Below w.heap.size w w'
theorem yR.nil(w:World)(lo hi:Nat):yR w w lo hi (.slice none 0 0) []:=⟨⟨none,0,fun _=>undef,rfl,aj _,by unfold maxLen;omega,fun j hj=>absurd hj (mF _),fun j e hj=>by simp at hj⟩,ay _ w⟩
theorem yR.drew{w w':World}{lo hi:Nat}{rv:Value}{es:List X.Ex}(h:yR w w' lo hi rv es):yR w w'.drew lo hi rv es:=⟨h.ex,h.bl.drew⟩
theorem zh{w:World}{lo hi:Nat}{es:List X.Ex}{vs:List Value}(hl:vs.length=es.length)(hm:es.length≤3)(hp:∀(j:Nat) (e:X.Ex),es[j]?=some e→∃ v,vs[j]?=some v∧gJ w lo hi v e) :
  yR w (w.alloc (.cells vs.toArray 72)) lo hi (.slice (some ⟨w.heap.size,0,none⟩) es.length es.length) es:=by
 refine⟨⟨_,_,fun j=>vs.getD j undef,rfl,aj _,by unfold maxLen;omega,fun j hj=>⟨w.heap.size,_,_,rfl,aj _,aB w _,?_⟩,fun j e hj=>?_⟩,(ay _ w).alloc (aj _) _⟩
 ·have:=ai (w.alloc (.cells vs.toArray 72)) w.heap.size j _ _ _ (aB w _)
  rw[this];simp[aC (show j<vs.length by omega)]
 ·obtain⟨v,x1,x2⟩:=hp j e hj
  have:vs.getD j undef=v:=by rw[bF,x1];rfl
  show gJ _ _ _ (vs.getD j undef) e;rw[this];exact x2
theorem Ba(b:Nat)(w:World):Calls prog 258 #[.pointer (some ⟨b,0,none⟩)] w fun e w'=>e=.returned (.slice none 0 0)∧w'=w:=by
 go_enter func258,ntmps258;go_wp2_with fail
 go_ret;exact⟨rfl,rfl⟩
theorem wZ(b:Nat)(w:World):Calls prog 257 #[.pointer (some ⟨b,0,none⟩)] w fun e w'=>e=.returned (.slice none 0 0)∧w'=w:=by
 go_enter func257,ntmps257;go_wp2_with fail
 go_ret;exact⟨rfl,rfl⟩
theorem wY(b:Nat)(w:World):Calls prog 229 #[.pointer (some ⟨b,0,none⟩)] w fun e w'=>e=.returned (.slice none 0 0)∧w'=w:=by
 go_enter func229,ntmps229;go_wp2_with fail
 go_ret;exact⟨rfl,rfl⟩
theorem zI{m0 n0:Int}{z0:Bool}(b:Nat)(v:Value)(e1:X.Ex)(w:World)(lo hi:Nat)(h:w.heap[b]?=some (.cells #[.int .i64 m0,.int .i64 n0,.bool z0,v] 256 (0,0)))(h1:gJ w lo hi v e1) :
  Calls prog 255 #[.pointer (some ⟨b,0,none⟩)] w fun e w'=>∃ rv,e=.returned rv∧Hid (yR w w' lo hi rv [e1]):=by
 obtain⟨y1,g1,hv1⟩:=h1.iface;subst hv1;have c0:=ai w _ 3 _ _ _ h;have HF:Hid (yR w (w.alloc (.cells #[.iface y1 (.pointer (some ⟨g1,0,none⟩))] 72)) lo hi (.slice (some ⟨w.heap.size,0,none⟩) 1 1) [e1]) :=
  zh (es:=[e1]) (vs:=[.iface y1 (.pointer (some ⟨g1,0,none⟩))]) rfl (by simp) (fun j e hj=>by
   match j with
   | 0=>simp at hj;subst hj;exact⟨_,rfl,h1⟩
   | j+1=>simp at hj)
 clear h h1;go_enter func255,ntmps255;go_wp2_with fail
 go_ret;exact⟨_,rfl,HF⟩
end
section
variable{m0 n0:Int}{z0:Bool}
theorem yH(b:Nat)(x:ah)(v0 v1:Value)(e0 e1:X.Ex)(w:World)(lo hi:Nat)(h:w.heap[b]?=some (.cells #[.int .i64 m0,.int .i64 n0,.bool z0,v0,.string (ba x),v1] 240 (0,0)))(h0:gJ w lo hi v0 e0)(h1:gJ w lo hi v1 e1) :
  Calls prog 238 #[.pointer (some ⟨b,0,none⟩)] w fun e w'=>∃ rv,e=.returned rv∧Hid (yR w w' lo hi rv [e0,e1]):=by
 obtain⟨y0,g0,hv0⟩:=h0.iface;subst hv0;obtain⟨y1,g1,hv1⟩:=h1.iface;subst hv1;have c0:w.cell? ⟨b,3,none⟩=some (.iface y0 (.pointer (some ⟨g0,0,none⟩))):=ai w _ 3 _ _ _ h;have c1:w.cell? ⟨b,5,none⟩=some (.iface y1 (.pointer (some ⟨g1,0,none⟩))):=ai w _ 5 _ _ _ h;have HF:Hid (yR w (w.alloc (.cells #[.iface y0 (.pointer (some ⟨g0,0,none⟩)),.iface y1 (.pointer (some ⟨g1,0,none⟩))] 72)) lo hi (.slice (some ⟨w.heap.size,0,none⟩) 2 2) [e0,e1]) :=
  zh (es:=[e0,e1]) (vs:=[.iface y0 (.pointer (some ⟨g0,0,none⟩)),.iface y1 (.pointer (some ⟨g1,0,none⟩))]) rfl (by simp) (fun j e hj=>by
   match j with
   | 0=>simp at hj;subst hj;exact⟨_,rfl,h0⟩
   | 1=>simp at hj;subst hj;exact⟨_,rfl,h1⟩
   | j+2=>simp at hj)
 have hb:=aP h;clear h h0 h1;go_enter func238,ntmps238;go_wp2_with fail
 go_region_held3 (fun w'=>w'.cell? ⟨b,3,none⟩=some (.iface y0 (.pointer (some ⟨g0,0,none⟩)))∧w'.cell? ⟨b,5,none⟩=some (.iface y1 (.pointer (some ⟨g1,0,none⟩))))
  (first|(with_reducible exact⟨c0,c1⟩)|(with_reducible exact⟨Lib.cell?_alloc_some _ c0,Lib.cell?_alloc_some _ c1⟩)|go_keep)
  (fail)
 go_wp2_with fail
 go_ret;exact⟨_,rfl,(HF.o).drew⟩
theorem Fg(b:Nat)  (v0 v1 v2:Value)(e0 e1 e2:X.Ex)(w:World)(lo hi:Nat)(h:w.heap[b]?=some (.cells #[.int .i64 m0,.int .i64 n0,.bool z0,v0,v1,v2] 275 (0,0)))(h0:gJ w lo hi v0 e0)(h1:gJ w lo hi v1 e1)(h2:gJ w lo hi v2 e2) :
  Calls prog 235 #[.pointer (some ⟨b,0,none⟩)] w fun e w'=>∃ rv,e=.returned rv∧Hid (yR w w' lo hi rv [e0,e1,e2]):=by
 obtain⟨y0,g0,hv0⟩:=h0.iface;subst hv0;obtain⟨y1,g1,hv1⟩:=h1.iface;subst hv1;obtain⟨y2,g2,hv2⟩:=h2.iface;subst hv2;have c0:w.cell? ⟨b,3,none⟩=some (.iface y0 (.pointer (some ⟨g0,0,none⟩))):=ai w _ 3 _ _ _ h;have c1:w.cell? ⟨b,4,none⟩=some (.iface y1 (.pointer (some ⟨g1,0,none⟩))):=ai w _ 4 _ _ _ h;have c2:w.cell? ⟨b,5,none⟩=some (.iface y2 (.pointer (some ⟨g2,0,none⟩))):=ai w _ 5 _ _ _ h;have HF:Hid (yR w (w.alloc (.cells #[.iface y0 (.pointer (some ⟨g0,0,none⟩)),.iface y1 (.pointer (some ⟨g1,0,none⟩)),.iface y2 (.pointer (some ⟨g2,0,none⟩))] 72)) lo hi (.slice (some ⟨w.heap.size,0,none⟩) 3 3) [e0,e1,e2]) :=
  zh (es:=[e0,e1,e2]) (vs:=[.iface y0 (.pointer (some ⟨g0,0,none⟩)),.iface y1 (.pointer (some ⟨g1,0,none⟩)),.iface y2 (.pointer (some ⟨g2,0,none⟩))]) rfl (by simp) (fun j e hj=>by
   match j with
   | 0=>simp at hj;subst hj;exact⟨_,rfl,h0⟩
   | 1=>simp at hj;subst hj;exact⟨_,rfl,h1⟩
   | 2=>simp at hj;subst hj;exact⟨_,rfl,h2⟩
   | j+3=>simp at hj)
 have hb:=aP h;clear h h0 h1 h2;go_enter func235,ntmps235;go_wp2_with fail
 go_region_held3 (fun w'=>w'.cell? ⟨b,3,none⟩=some (.iface y0 (.pointer (some ⟨g0,0,none⟩)))∧w'.cell? ⟨b,4,none⟩=some (.iface y1 (.pointer (some ⟨g1,0,none⟩)))∧w'.cell? ⟨b,5,none⟩=some (.iface y2 (.pointer (some ⟨g2,0,none⟩))))
  (first|(with_reducible exact⟨c0,c1,c2⟩)|(with_reducible exact⟨Lib.cell?_alloc_some _ c0,Lib.cell?_alloc_some _ c1,Lib.cell?_alloc_some _ c2⟩)|go_keep)
  (fail)
 go_wp2_with fail
 go_ret;exact⟨_,rfl,(HF.o).drew⟩
theorem Dy(ts:List X.Tok):X.pz (X.gV ts)=(X.pb (X.file ts)).length:=by
 have:=X.eU 2 (X.gV ts);unfold X.pz at this ⊢;rw[← this,X.nN,X.nN,aJ];rfl
theorem VP(a b:Int)(c:ByteArray)(a4:Option Addr)(a5 a6:Nat)(w:World):(Instr.field 117 (.agg #[.int .i64 a,.int .i64 b,.string c,.slice a4 a5 a6]) 3).run prog w=.ok (.slice a4 a5 a6) w:=by kernel_rfl
theorem VQ(D:Nat→Prop)(rb ab:Nat)(p:X.Part)(ps:List X.Part)(it:X.It)(i:Nat)(w:World)(h:cO w D rb ab (p::ps) i)(hrd:X.Jr p i it)(hz:X.iM p≤268435456)(hi:i+X.pz [p]≤1073741824)(hDl:∀ q,D q→q<w.heap.size) :
  (X.nk p=3∧Calls prog 28 #[.pointer (some ⟨rb,0,none⟩)] w fun e w'=>∃ b,e=.returned (.pointer (some ⟨b,0,none⟩))∧Hid (lG w' w.heap.size w'.heap.size (.iface 121 (.pointer (some ⟨b,0,none⟩))) it∧cO w' D rb ab ps (i+X.pz [p])∧Kq D rb ab w w')) ∨
  (X.nk p=4∧Calls prog 29 #[.pointer (some ⟨rb,0,none⟩)] w fun e w'=>∃ b,e=.returned (.pointer (some ⟨b,0,none⟩))∧Hid (lG w' w.heap.size w'.heap.size (.iface 68 (.pointer (some ⟨b,0,none⟩))) it∧cO w' D rb ab ps (i+X.pz [p])∧Kq D rb ab w w')):=by
 cases hrd with
 | use pb t1 n1 t2 n2 ap t3 _ pub gs m n a hp h1 hm h2 hn ha h3 =>
  left
  rw[X.eU] at hi ⊢;rw[kH] at hz;have hl:=gu (pb++(t1++(n1++(t2++(n2++(ap++t3))))));exact⟨rfl,RO D rb ab pb t1 n1 t2 n2 ap t3 pub gs m n a ps i w h hp h1 hm h2 hn ha h3 hi (by omega) hDl⟩
 | dfn pb t1 n1 pr t2 p t3 _ pub n TU e hp h1 hn hr h2 he h3 =>
  right
  rw[X.eU] at hi ⊢;rw[kH] at hz;have hl:=gu (pb++(t1++(n1++(pr++(t2++([p]++t3))))));have hp1:=fP (pb++(t1++(n1++(pr++(t2++([p]++t3)))))) p (by simp);refine⟨rfl,RS D rb ab pb t1 n1 pr t2 t3 p pub n TU e ps i w h hp h1 hn hr h2 he h3 (mh _ p (aj _) (by omega)) (fun qs e=>?_) hi (by omega) hDl⟩;have hq:=fP (pb++(t1++(n1++(pr++(t2++([p]++t3)))))) (.br 6 qs) (by rw[e];simp);rw[kH] at hq;have:=gu qs;omega
theorem zN(tb:Nat)(s:ByteArray)(its:List X.It)(w:World)(h:J2 w tb s)(hz:X.iM (X.file (X.xt (bs s)))≤268435456)(hb:X.pb (X.file (X.xt (bs s)))=bs s)(hs:s.size≤134217728)(hf:X.sI (X.gV (X.xt (bs s))) 0 its) :
  Calls prog 14 #[.pointer (some ⟨tb,0,none⟩)] w fun en w'=>∃ rv,en=.returned rv∧Hid (oV w' w.heap.size w'.heap.size rv its∧Below w.heap.size w w'):=by
 have HR:Hid (∀ W,Below w.heap.size w W→Calls prog 26 #[.pointer (some ⟨tb,0,none⟩)] W fun e w'=>∃ a4 a5 a6,e=.returned (.agg #[.int .i64 2,.int .i64 0,.string (ba []),.slice a4 a5 a6])∧Hid (∃ E,qz w' E (.slice a4 a5 a6) (X.gV (X.xt (bs s)))∧(∀ q,E q→W.heap.size≤q∧q<w'.heap.size)∧Below W.heap.size W w')):=fun W hW=>by
  refine(RZ tb s W (h.below hW) (by omega) hb (by omega)).mono ?_;rintro e w' ⟨nv,rfl,X1⟩;obtain⟨E,x1,x2,x3⟩:=X1.o;obtain⟨kv,rfl,x4⟩:=x1.val;obtain⟨a4,a6,_,_,_,_,rfl,-⟩:=x4.ex;exact⟨_,_,_,rfl,E,x4,x2,x3⟩
 have aF6:=VP;obtain⟨i0,hi0,hz0,hz1,hz2⟩:=gB Zw;have hlz:Hid (∀ p∈X.gV (X.xt (bs s)),X.iM p≤268435456):=fun p hp=>by
  have h1:=fP _ p hp;have h2:X.iM (X.file (X.xt (bs s)))=1+X.dQ (X.gV (X.xt (bs s))):=rfl;omega
 have hll:(X.gV (X.xt (bs s))).length≤268435456:=by
  have h1:=gu (X.gV (X.xt (bs s)));have h2:X.iM (X.file (X.xt (bs s)))=1+X.dQ (X.gV (X.xt (bs s))):=rfl;omega
 have htot:X.pz (X.gV (X.xt (bs s)))≤134217728:=by rw[Dy,hb,eZ];exact hs
 have hil:its.length≤268435456:=bS (KI hf) hll;have HF:=au hf;have hgL:Hid (X.Gd (X.gV (X.xt (bs s)))):=⟨X.Cx (bs s),(X.R3 (X.xt (bs s))).2⟩;clear h hz hb hs hf;generalize X.gV (X.xt (bs s))=L at *;go_enter func14,ntmps14;go_wp2_with fail
 have kA:Below w.heap.size w (w.alloc (.cells #[.int .i64 0,.slice none 0 0,.int .i64 0,.int .i64 0] 114)):=(ay _ w).alloc (aj _) _;refine((HR.o) _ kA).mono ?_;rintro en w2 ⟨a4,a5,a6,rfl,X2⟩;obtain⟨D,x1,x2,x3⟩:=X2.o;have hsA:(w.alloc (.cells #[.int .i64 0,.slice none 0 0,.int .i64 0,.int .i64 0] 114)).heap.size=w.heap.size+1:=by simp
 have hs2:=x3.size;have kB:Below w2.heap.size w2 (w2.alloc (.cells #[.pointer (some ⟨w.heap.size,0,none⟩),.slice a4 a5 a6] 120)):=(ay _ w2).alloc (aj _) _;have hz0':(w2.alloc (.cells #[.pointer (some ⟨w.heap.size,0,none⟩),.slice a4 a5 a6] 120)).heap.size=w2.heap.size+1:=by simp
 have HRw:Hid (cO (w2.alloc (.cells #[.pointer (some ⟨w.heap.size,0,none⟩),.slice a4 a5 a6] 120)) D w2.heap.size w.heap.size L 0):=by
  refine⟨⟨_,aB w2 _,x1.keep (Kp.aI kB (fun _=>False)) (fun _ _=>id)⟩,⟨.slice none 0 0,[],0,0,?_,bY _ _ _ _,aj _,fun q hq=>by cases hq⟩,⟨by omega,fun hd=>by have:=(x2 _ hd).2;omega,fun hd=>by have:=(x2 _ hd).1;omega⟩,hgL.o⟩;exact(Kp.aI kB (fun _=>False)).heap ((Kp.aI x3 (fun _=>False)).heap (aB w _) id) id
 have HBw:Hid (Below w.heap.size w (w2.alloc (.cells #[.pointer (some ⟨w.heap.size,0,none⟩),.slice a4 a5 a6] 120))):=(kA.trans (x3.mono (by omega))).trans (kB.mono (by omega));have mI:Hid (∀ q,D q→q<(w2.alloc (.cells #[.pointer (some ⟨w.heap.size,0,none⟩),.slice a4 a5 a6] 120)).heap.size):=fun q hq=>by have:=(x2 q hq).2;omega
 clear HR X2 x1 x2 x3 kA kB;go_wp2_with fail
 generalize hW0:w2.alloc (.cells #[.pointer (some ⟨w.heap.size,0,none⟩),.slice a4 a5 a6] 120)=W0 at *;generalize hkb:w2.heap.size=kb at *;generalize hab:w.heap.size=ab at *;have hr:kb<W0.heap.size:=by omega
 have ha:ab<W0.heap.size:=by omega
 have cH2:ab≤kb:=by omega
 clear aF6 hW0 hkb hz0' hs2 hsA;have HI0:Hid (rT W0 D kb ab its (0+X.pz L) L 0 [] (.slice none 0 0) [] W0):=⟨HRw.o,⟨its,HF.o,rfl⟩,bY _ _ _ _,rfl,fun j e hj=>by simp at hj,Kq.refl _ _ _ _,rfl⟩;clear HRw HF;go_loopw [4] (fun av wr=>∃(l:List X.Part) (k:Nat) (acc:List X.It) (rv:Value) (vs:List Value),rv=av∧l.length≤268435456∧Hid (∀ p∈l,X.iM p≤268435456)∧Hid (rT W0 D kb ab its (0+X.pz L) l k acc rv vs wr)) (fun _ wr=>uo kb wr)
 case atStart=>exact⟨L,0,[],_,[],rfl,hll,hlz,HI0⟩
 case round =>
  obtain⟨l,k,acc,rv,vs,rfl,cH3,HZ,HI⟩:=hrel;clear HI0 hlz hll;have hlen:uo kb wr=l.length:=(HI.o).rw.len;have hpos:=(HI.o).pos;have HM:=au (j_ D kb ab l k wr (HI.o).rw (by omega) (by omega) (fun q hq=>aH ((mI.o) q hq) (HI.o).kp.size));go_wp2_with fail
  refine(HM.o).mono ?_;rintro e w3 ⟨rfl,H3⟩;have hpz:X.pz l=X.pz (l.takeWhile X.lq)+X.pz (l.dropWhile X.lq):=by rw[← X.aY,dZ]
  have hdl:(l.dropWhile X.lq).length≤l.length:=(fo _).length_le;have HI3:Hid (rT W0 D kb ab its (0+X.pz L) (l.dropWhile X.lq) (k+X.pz (l.takeWhile X.lq)) acc rv vs w3):=by
   obtain⟨es',g1,g2⟩:=(HI.o).rdf;exact(HI.o).step hr ha (H3.o).2 (H3.o).1 ⟨es',Nu g1,g2⟩ (by omega)
  have HZd:Hid (∀ p∈l.dropWhile X.lq,X.iM p≤268435456):=fun p hp=>(HZ.o) p ((fo _).mem hp)
  have Rv:∀ p t,l.dropWhile X.lq=p::t→X.lq p=false:=fun p t e=>by
   have:=pO X.lq l;rw[e] at this
   simpa using this
  clear HM H3 HI HZ;generalize l.dropWhile X.lq=l3 at *;generalize k+X.pz (l.takeWhile X.lq)=k3 at *;cases l3 with
  | nil =>
   have HF:Hid (oV w3 ab w3.heap.size rv its∧Below ab w w3):=by
    obtain⟨z1,z2,z3⟩:=(HI3.o).done;refine⟨?_,?_⟩
    ·obtain⟨ao,cap,f,y1,y2,y3,y4,y5⟩:=z1.ex
     exact⟨ao,cap,f,y1,y2,y3,fun j hj=>by obtain⟨g,u1,u2,u3,u4⟩:=y4 j hj;exact⟨g,u1,by omega,u3,u4⟩,fun j e hj=>(y5 j e hj).wide (by omega) (aj _)⟩
    ·have hb0:=HBw.o
     exact⟨z3.kp.os.trans hb0.os,z3.kp.tape.trans hb0.tape,z3.kp.output.trans hb0.output,bS hb0.size z3.size,fun q hq=>(z3.kp.block q (by omega) (fun e=>by rcases e with e|e|⟨e,-⟩<;>omega)).trans (hb0.block q hq)⟩
   have hdf:decide (([]:List X.Part)≠[])=false:=by simp
   rw[hdf];clear HI3;go_wp2_with fail
   go_ret;exact⟨rv,rfl,by rw[hab];exact HF⟩
  | cons p l4 =>
   have hdt:decide (p::l4≠[])=true:=by simp
   rw[hdt];clear hdt;have hq:=Rv p l4 rfl;clear Rv;obtain⟨v,hb,hnn⟩:=(HI3.o).rw.blk;have c1:=ai w3 _ 1 _ _ _ hb;obtain⟨g,o,cap,kv,rfl,hD,y0,y1,y2,y3,hkk,-,hc1,hc2,-,-⟩:=hnn.head;have hi1:(0:Int)<((l4.length+1:Nat):Int):=by omega
   have hi2:0<l4.length+1:=by omega
   have yu:=(HI3.o).pos;rw[X.fH] at yu;rw[aW] at hdl;have hzp:=(HZd.o) p (by simp);have HZ4:Hid (∀ q∈l4,X.iM q≤268435456):=fun q hq=>(HZd.o) q (fJ _ hq)
   have HD3:∀ q,D q→q<w3.heap.size:=fun q hq=>aH ((mI.o) q hq) (HI3.o).kp.size
   obtain⟨es',g1,g2⟩:=(HI3.o).rdf;clear hb hnn hkk HZd y1 y2 y3;rcases RY g1 hq with ⟨qs,rfl,hlv,hrest⟩|⟨it0,VO,e1,hrd,hrest⟩
   ·have y0':w3.cell? ⟨g,o,none⟩=some (.int .i64 5):=y0
    rw[kH] at hzp;have AU:=gu qs;rw[X.eU] at yu;have HC:=au (Nt D kb ab qs l4 k3 w3 (HI3.o).rw hlv (by omega) (by omega) HD3);have Xg:Hid (∃ es',X.sI l4 (k3+X.pz qs) es'∧its=acc++es'):=by rw[X.eU] at hrest;exact⟨es',hrest,g2⟩
    clear HD3 g1 g2 hlv hrest y0;go_wp2_with fail
    refine(HC.o).mono ?_;rintro e w5 ⟨rfl,X5⟩;have rZ:Hid (rT W0 D kb ab its (0+X.pz L) l4 (k3+X.pz qs) acc rv vs w5):=(HI3.o).step hr ha (X5.o).2 (X5.o).1 Xg.o (by omega);clear HC X5 HI3 c1 y0';have hl5:uo kb w5=l4.length:=(rZ.o).rw.len;go_wp2_with fail
    exact⟨⟨l4,k3+X.pz qs,acc,rv,vs,rfl,by omega,HZ4,rZ⟩,by rw[hlen,hl5];omega⟩
   ·have Xg:Hid (∃ es',X.sI l4 (k3+X.pz [p]) es'∧its=(acc++[it0])++es'):=⟨VO,hrest,by rw[g2,e1,aA];rfl⟩
    have hacc:acc.length≤268435456:=by
     have:=congrArg List.length g2;rw[ak] at this;omega
    have hio:=VQ D kb ab p l4 it0 k3 w3 (HI3.o).rw hrd hzp (by omega) HD3;clear HD3 g1 g2 hrest e1 hrd;rcases hio with ⟨hnk,Du⟩|⟨hnk,Du⟩
    ·have HC:=au Du
     clear Du;rw[hnk] at y0;have y0':w3.cell? ⟨g,o,none⟩=some (.int .i64 3):=y0;clear y0 hnk;go_wp2_with fail
     refine(HC.o).mono ?_;rintro e w5 ⟨b5,rfl,X5⟩;clear c1 y0';have hvl:vs.length=acc.length:=(HI3.o).len;have Mt:Hid (w5.ownsRow W0.heap.size 64 1 rv acc.length vs):=(X5.o).2.2.owns (HI3.o).own (by decide) (fun g hg=>by
      have:=(dV (HI3.o).own g hg).1;exact⟨by omega,by omega⟩)
     have hs5:W0.heap.size≤w5.heap.size:=by have:=(X5.o).2.2.size;have:=(HI3.o).kp.size;omega
     go_wp2_with (at_builtin;refine wpList_append_lies _ rfl _ _ 58 rfl W0.heap.size 64 i0 _ 1 16 underlying58 hi0 hz0 hz1 hz2 rfl (by decide) rv acc.length _ rfl ((Mt.o).alloc _) ⟨w5.heap.size,0,none⟩ 1 1 [.iface 121 (.pointer (some ⟨b5,0,none⟩))] rfl rfl (World.news_of_block (cs:=#[.iface 121 (.pointer (some ⟨b5,0,none⟩))]) (aB w5 _)) (by simp[Value.oneCell']) (by omega) (by unfold maxLen;omega) (by omega) (by simp;omega) (w5.heap.size+1) (by simp) ?_;intro g7 Bg w7 lQ gH uj DC;have Oo:=au ((HI3.o).more hr ha mI.o (X5.o).2.2 (X5.o).2.1 (X5.o).1 Xg.o (by omega) _ lQ gH uj);clear lQ gH)
     have TA:uo kb w7=l4.length:=(Oo.o).rw.len;exact⟨⟨l4,k3+X.pz [p],acc++[it0],_,_,rfl,by omega,HZ4,Oo⟩,by rw[hlen,TA];omega⟩
    ·have HC:=au Du
     clear Du;rw[hnk] at y0;have y0':w3.cell? ⟨g,o,none⟩=some (.int .i64 4):=y0;clear y0 hnk;go_wp2_with fail
     refine(HC.o).mono ?_;rintro e w5 ⟨b5,rfl,X5⟩;clear c1 y0';have hvl:vs.length=acc.length:=(HI3.o).len;have Mt:Hid (w5.ownsRow W0.heap.size 64 1 rv acc.length vs):=(X5.o).2.2.owns (HI3.o).own (by decide) (fun g hg=>by
      have:=(dV (HI3.o).own g hg).1;exact⟨by omega,by omega⟩)
     have hs5:W0.heap.size≤w5.heap.size:=by have:=(X5.o).2.2.size;have:=(HI3.o).kp.size;omega
     go_wp2_with (at_builtin;refine wpList_append_lies _ rfl _ _ 58 rfl W0.heap.size 64 i0 _ 1 16 underlying58 hi0 hz0 hz1 hz2 rfl (by decide) rv acc.length _ rfl ((Mt.o).alloc _) ⟨w5.heap.size,0,none⟩ 1 1 [.iface 68 (.pointer (some ⟨b5,0,none⟩))] rfl rfl (World.news_of_block (cs:=#[.iface 68 (.pointer (some ⟨b5,0,none⟩))]) (aB w5 _)) (by simp[Value.oneCell']) (by omega) (by unfold maxLen;omega) (by omega) (by simp;omega) (w5.heap.size+1) (by simp) ?_;intro g7 Bg w7 lQ gH uj DC;have Oo:=au ((HI3.o).more hr ha mI.o (X5.o).2.2 (X5.o).2.1 (X5.o).1 Xg.o (by omega) _ lQ gH uj);clear lQ gH)
     have TA:uo kb w7=l4.length:=(Oo.o).rw.len;exact⟨⟨l4,k3+X.pz [p],acc++[it0],_,_,rfl,by omega,HZ4,Oo⟩,by rw[hlen,TA];omega⟩
end
end Go.Proofs.YtdkpkpgpphkljaaGreatDoor
