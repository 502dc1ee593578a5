/- Package syntax: a let. -/
import Derived.Test.YtdkpkpgpphkljaaGreatDoorVg
namespace Go.Proofs.YtdkpkpgpphkljaaGreatDoor
set_option maxRecDepth 100000
set_option maxHeartbeats 4000000
open Go.RowKit
open M
section
open Tryz
theorem Ry(D:Nat→Prop)(kb ab:Nat)(t1 n t2 t3:List X.Part)(p1 p2:X.Part)(nm:X.Nm)(e1 e2:X.Ex)(i:Nat)(w:World)(h:cO w D kb ab (t1++(n++(t2++([p1]++(t3++[p2]))))) i)(h1:X.wR t1)(hn:X.BD n (i+X.pz t1) nm)(h2:X.wR t2)(hv:X.Rd p1 (i+X.pz t1+X.pz n+X.pz t2) e1)(h3:X.wR t3)(hb:X.Rd p2 (i+X.pz t1+X.pz n+X.pz t2+X.pz [p1]+X.pz t3) e2)(H1:oH p1)(H2:oH p2)
  (hi:i+X.pz (t1++(n++(t2++([p1]++(t3++[p2])))))≤1073741824) (hpl:(t1++(n++(t2++([p1]++(t3++[p2]))))).length≤1073741824) (hDl:∀ q,D q→q<w.heap.size) :
  Calls prog 109 #[.pointer (some ⟨kb,0,none⟩)] w fun e w'=>∃ b,e=.returned (.pointer (some ⟨b,0,none⟩))∧Hid (gJ w' w.heap.size w'.heap.size (.iface 230 (.pointer (some ⟨b,0,none⟩))) (.iJ nm e1 e2)∧cO w' D kb ab [] (i+X.pz (t1++(n++(t2++([p1]++(t3++[p2]))))))∧Kq D kb ab w w'):=by
 obtain⟨hr,ha⟩:=h.lt;obtain⟨q1,r1,hT1⟩:=h1.AR;obtain⟨q2,r2,A8⟩:=h2.AR;obtain⟨q3,r3,hT3⟩:=h3.AR;have hz:X.pz (t1++(n++(t2++([p1]++(t3++[p2])))))=X.pz t1+(X.pz n+(X.pz t2+(X.pz [p1]+(X.pz t3+X.pz [p2])))):=by rw[X.aY,X.aY,X.aY,X.aY,X.aY]
 have yG:=au (gy D kb ab t1 q1 r1 _ i w h hT1 hi hpl hDl);have mI:Hid (∀ W:World,w.heap.size≤W.heap.size→∀ q,D q→q<W.heap.size):=fun W hW q hq=>aH (hDl q hq) hW
 have HN:=au hn;have HV:=au hv;have HB:=au hb;rw[hz] at hi;simp only[ak] at hpl;clear h h1 h2 h3 hDl hn hv hb;go_enter func109,ntmps109;go_wp2_with fail
 refine(yG.o).mono ?_;rintro e w1 ⟨_,_,_,rfl,X1⟩;have tV:=au (nC D kb ab n nm _ (i+X.pz t1) w1 (X1.o).1 HN.o (by simp only[X.aY];omega) (by simp only[ak];omega) ((mI.o) w1 (X1.o).2.size));clear yG;go_wp2_with fail
 refine(tV.o).mono ?_;rintro e w2 ⟨rfl,X2⟩;have K2:Hid (Kq D kb ab w w2):=(X1.o).2.trans (X2.o).2;have hs2:=(K2.o).size;have kA:Below w2.heap.size w2 (w2.alloc (.cells #[.int .i64 0,.int .i64 0,.bool false,.string (ba nm.1),.int .i64 nm.2,.nilIface,.nilIface] 299)):=(ay _ w2).alloc (aj _) _;have hB3:Hid ((w2.alloc (.cells #[.int .i64 0,.int .i64 0,.bool false,.string (ba nm.1),.int .i64 nm.2,.nilIface,.nilIface] 299)).heap[w2.heap.size]?=some (.cells #[.int .i64 0,.int .i64 0,.bool false,.string (ba nm.1),.int .i64 nm.2,.nilIface,.nilIface] 299 (0,0))):=aB w2 _;have K3:Hid (Kq D kb ab w (w2.alloc (.cells #[.int .i64 0,.int .i64 0,.bool false,.string (ba nm.1),.int .i64 nm.2,.nilIface,.nilIface] 299))):=(K2.o).more kA ha;have wX:=au (gy D kb ab t2 q2 r2 _ (i+X.pz t1+X.pz n) _ ((X2.o).1.below kA) A8 (by simp only[X.aY];omega) (by simp only[ak];omega) ((mI.o) _ (K3.o).size));clear tV kA X1 X2 K2;go_wp2_with fail
 generalize w2.alloc (.cells #[.int .i64 0,.int .i64 0,.bool false,.string (ba nm.1),.int .i64 nm.2,.nilIface,.nilIface] 299)=W3 at *;generalize w2.heap.size=b at *;refine(wX.o).mono ?_;rintro e w4 ⟨_,_,_,rfl,X4⟩;have K4:Hid (Kq D kb ab w w4):=(K3.o).trans (X4.o).2;have hB4:=au ((X4.o).2.made hr ha hs2 hB3.o (by decide));have Fh:=au (H1 e1 (i+X.pz t1+X.pz n+X.pz t2) D kb ab (t3++[p2]) w4 HV.o (X4.o).1 (by omega) ((mI.o) _ (K4.o).size));clear wX X4 K3 hB3;go_wp2_with fail
 refine(Fh.o).mono ?_;rintro e w5 ⟨v1,rfl,X5⟩;obtain⟨y1,g1,hv1⟩:=(X5.o).1.iface;subst hv1;have K5:Hid (Kq D kb ab w w5):=(K4.o).trans (X5.o).2.2;have EM:=(X5.o).2.2.made hr ha hs2 hB4.o (by decide);have c2:=ai w5 _ 5 _ _ _ EM;have f2:w5.frozen? ⟨b,5,none⟩=false:=by simp[World.frozen?,EM]
 have bE6:b<w4.heap.size:=aP hB4.o;have Gz:Hid (gJ (w5.setCell ⟨b,5,none⟩ (.iface y1 (.pointer (some ⟨g1,0,none⟩)))) w4.heap.size w5.heap.size (.iface y1 (.pointer (some ⟨g1,0,none⟩))) e1∧cO (w5.setCell ⟨b,5,none⟩ (.iface y1 (.pointer (some ⟨g1,0,none⟩)))) D kb ab (t3++[p2]) (i+X.pz t1+X.pz n+X.pz t2+X.pz [p1])∧(w5.setCell ⟨b,5,none⟩ (.iface y1 (.pointer (some ⟨g1,0,none⟩)))).heap[b]?=some (.cells #[.int .i64 0,.int .i64 0,.bool false,.string (ba nm.1),.int .i64 nm.2,.iface y1 (.pointer (some ⟨g1,0,none⟩)),.nilIface] 299 (0,0))∧Kq D kb ab w (w5.setCell ⟨b,5,none⟩ (.iface y1 (.pointer (some ⟨g1,0,none⟩))))∧(w5.setCell ⟨b,5,none⟩ (.iface y1 (.pointer (some ⟨g1,0,none⟩)))).heap.size=w5.heap.size):=by
  have hk:Kp (fun q=>q=b) w5 (w5.setCell ⟨b,5,none⟩ (.iface y1 (.pointer (some ⟨g1,0,none⟩)))):=On.set (Kp.refl _ w5) 5 _;refine⟨(X5.o).1.keep hk (fun i h1 h2 e=>by omega),(X5.o).2.1.on hk EM (by decide) (by omega) (by omega) (fun hd=>?_),by simp[World.setCell,aK,EM],(K5.o).set ha hs2 _ _,by simp[World.setCell]⟩;have:=(mI.o) w (aj _) _ hd;omega
 have aO9:=(X5.o).2.2.size;clear Fh X5 K4 hB4 K5;go_wp2_with fail
 generalize w5.setCell ⟨b,5,none⟩ (.iface y1 (.pointer (some ⟨g1,0,none⟩)))=W5 at *;clear EM c2 f2;have Mj:=au (gy D kb ab t3 q3 r3 [p2] (i+X.pz t1+X.pz n+X.pz t2+X.pz [p1]) W5 (Gz.o).2.1 hT3 (by simp only[X.aY];omega) (by simp only[ak];omega) ((mI.o) _ (Gz.o).2.2.2.1.size));refine(Mj.o).mono ?_;rintro e w6 ⟨_,_,_,rfl,X6⟩;have K6:Hid (Kq D kb ab w w6):=(Gz.o).2.2.2.1.trans (X6.o).2;have bE7:w4.heap.size≤w5.heap.size:=aO9;have hE6:=au ((Gz.o).1.jL (X6.o).2 (aH hr (by have:=(Gz.o).2.2.2.1.size;omega)) (aH ha (by have:=(Gz.o).2.2.2.1.size;omega)));have OZ:=au ((X6.o).2.made hr ha hs2 (Gz.o).2.2.1 (by decide));have cF8:w5.heap.size≤w6.heap.size:=by have:=(X6.o).2.size;have:=(Gz.o).2.2.2.2;omega
 have Ky:=au (H2 e2 (i+X.pz t1+X.pz n+X.pz t2+X.pz [p1]+X.pz t3) D kb ab [] w6 HB.o (X6.o).1 (by omega) ((mI.o) _ (K6.o).size));clear Mj X6 Gz;go_wp2_with fail
 refine(Ky.o).mono ?_;rintro e w7 ⟨v2,rfl,X7⟩;obtain⟨y2,g2,hv2⟩:=(X7.o).1.iface;subst hv2;have K7:Hid (Kq D kb ab w w7):=(K6.o).trans (X7.o).2.2;have RA:=(X7.o).2.2.made hr ha hs2 OZ.o (by decide);have c3:=ai w7 _ 6 _ _ _ RA;have f3:w7.frozen? ⟨b,6,none⟩=false:=by simp[World.frozen?,RA]
 have HFin:Hid (gJ (w7.setCell ⟨b,6,none⟩ (.iface y2 (.pointer (some ⟨g2,0,none⟩)))) w.heap.size (w7.setCell ⟨b,6,none⟩ (.iface y2 (.pointer (some ⟨g2,0,none⟩)))).heap.size (.iface 230 (.pointer (some ⟨b,0,none⟩))) (.iJ nm e1 e2)∧cO (w7.setCell ⟨b,6,none⟩ (.iface y2 (.pointer (some ⟨g2,0,none⟩)))) D kb ab [] (i+X.pz (t1++(n++(t2++([p1]++(t3++[p2]))))))∧Kq D kb ab w (w7.setCell ⟨b,6,none⟩ (.iface y2 (.pointer (some ⟨g2,0,none⟩))))):=by
  have hk:Kp (fun q=>q=b) w7 (w7.setCell ⟨b,6,none⟩ (.iface y2 (.pointer (some ⟨g2,0,none⟩)))):=On.set (Kp.refl _ w7) 6 _;have hsz:(w7.setCell ⟨b,6,none⟩ (.iface y2 (.pointer (some ⟨g2,0,none⟩)))).heap.size=w7.heap.size:=by simp[World.setCell]
  have cF9:=(X7.o).2.2.size;have hw4:w.heap.size≤w4.heap.size:=by omega
  have hE7:=(hE6.o).jL (X7.o).2.2 (aH hr hw4) (aH ha hw4);rw[hsz,hz];refine⟨.iJ (m:=0) (n:=0) (z:=false) b nm _ _ e1 e2 ⟨hs2,by omega⟩ (by simp[World.setCell,aK,RA]) ((hE7.keep hk (fun i h1 h2 e=>by omega)).wide hw4 (by omega)) (((X7.o).1.keep hk (fun i h1 h2 e=>by omega)).wide (by omega) (aj _)),?_,(K7.o).set ha hs2 _ _⟩;have hR:=(X7.o).2.1.on hk RA (by decide) (by omega) (by omega) (fun hd=>by have:=(mI.o) w (aj _) _ hd;omega);rw[show i+(X.pz t1+(X.pz n+(X.pz t2+(X.pz [p1]+(X.pz t3+X.pz [p2])))))=i+X.pz t1+X.pz n+X.pz t2+X.pz [p1]+X.pz t3+X.pz [p2] by omega];exact hR
 clear Ky X7 K7 RA hE6 OZ K6;go_wp2_with fail
 go_ret;exact⟨b,rfl,HFin.o⟩
theorem RB(D:Nat→Prop)(kb ab:Nat)(t1 qs t2:List X.Part)(p:X.Part)(ns:List X.Nm)(e:X.Ex)(i:Nat)(w:World)(h:cO w D kb ab (t1++([X.Part.br 6 qs]++(t2++[p]))) i)(h1:X.wR t1)(hn:X.oN qs (i+X.pz t1) ns)(h2:X.wR t2)(hb:X.Rd p (i+X.pz t1+X.pz qs+X.pz t2) e)(H1:oH p)
  (hi:i+X.pz (t1++([X.Part.br 6 qs]++(t2++[p])))≤1073741824) (hpl:(t1++([X.Part.br 6 qs]++(t2++[p]))).length≤1073741824) (AU:qs.length≤268435456) (hnl:ns.length≤268435456) (hDl:∀ q,D q→q<w.heap.size) :
  Calls prog 111 #[.pointer (some ⟨kb,0,none⟩)] w fun en w'=>∃ b,en=.returned (.pointer (some ⟨b,0,none⟩))∧Hid (gJ w' w.heap.size w'.heap.size (.iface 234 (.pointer (some ⟨b,0,none⟩))) (.fn ns e)∧cO w' D kb ab [] (i+X.pz (t1++([X.Part.br 6 qs]++(t2++[p]))))∧Kq D kb ab w w'):=by
 obtain⟨hr,ha⟩:=h.lt;obtain⟨q1,r1,hT1⟩:=h1.AR;obtain⟨q2,r2,A8⟩:=h2.AR;have hz:X.pz (t1++([X.Part.br 6 qs]++(t2++[p])))=X.pz t1+(X.pz qs+(X.pz t2+X.pz [p])):=by rw[X.aY,X.aY,X.aY,X.eU]
 have yG:=au (gy D kb ab t1 q1 r1 _ i w h hT1 hi hpl hDl);have mI:Hid (∀ W:World,w.heap.size≤W.heap.size→∀ q,D q→q<W.heap.size):=fun W hW q hq=>aH (hDl q hq) hW
 have HN:=au hn;have HB:=au hb;rw[hz] at hi;simp only[ak,dX] at hpl;clear h h1 h2 hDl hn hb;go_enter func111,ntmps111;go_wp2_with fail
 refine(yG.o).mono ?_;rintro en w1 ⟨_,_,_,rfl,X1⟩;have tV:=au (yt D kb ab qs ns (t2++[p]) (i+X.pz t1) w1 (X1.o).1 HN.o (by omega) AU hnl ((mI.o) w1 (X1.o).2.size));clear yG;go_wp2_with fail
 refine(tV.o).mono ?_;rintro en w2 ⟨pb,rfl,X2⟩;have K2:Hid (Kq D kb ab w w2):=(X1.o).2.trans (X2.o).2.2;have hs2:=(K2.o).size;have hs1:=(X1.o).2.size;have kA:Below w2.heap.size w2 (w2.alloc (.cells #[.int .i64 0,.int .i64 0,.bool false,.pointer (some ⟨pb,0,none⟩),.nilIface] 236)):=(ay _ w2).alloc (aj _) _;have hB3:Hid ((w2.alloc (.cells #[.int .i64 0,.int .i64 0,.bool false,.pointer (some ⟨pb,0,none⟩),.nilIface] 236)).heap[w2.heap.size]?=some (.cells #[.int .i64 0,.int .i64 0,.bool false,.pointer (some ⟨pb,0,none⟩),.nilIface] 236 (0,0))):=aB w2 _;have K3:Hid (Kq D kb ab w (w2.alloc (.cells #[.int .i64 0,.int .i64 0,.bool false,.pointer (some ⟨pb,0,none⟩),.nilIface] 236))):=(K2.o).more kA ha;have hP3:Hid (kM (w2.alloc (.cells #[.int .i64 0,.int .i64 0,.bool false,.pointer (some ⟨pb,0,none⟩),.nilIface] 236)) w.heap.size w2.heap.size pb ns):=((X2.o).1.wide hs1 (aj _)).keep (Kp.aI kA (fun _=>False)) (fun _ _ _=>id);have wX:=au (gy D kb ab t2 q2 r2 [p] (i+X.pz t1+X.pz qs) _ ((X2.o).2.1.below kA) A8 (by simp only[X.aY];omega) (by simp only[ak,dX];omega) ((mI.o) _ (K3.o).size));clear tV kA X1 X2 K2;go_wp2_with fail
 generalize w2.alloc (.cells #[.int .i64 0,.int .i64 0,.bool false,.pointer (some ⟨pb,0,none⟩),.nilIface] 236)=W3 at *;generalize w2.heap.size=b at *;refine(wX.o).mono ?_;rintro en w4 ⟨_,_,_,rfl,X4⟩;have K4:Hid (Kq D kb ab w w4):=(K3.o).trans (X4.o).2;have hB4:=au ((X4.o).2.made hr ha hs2 hB3.o (by decide));have hP4:=au ((hP3.o).jL (X4.o).2 (aH hr (aj _)) (aH ha (aj _)));have Fh:=au (H1 e (i+X.pz t1+X.pz qs+X.pz t2) D kb ab [] w4 HB.o (X4.o).1 (by omega) ((mI.o) _ (K4.o).size));clear wX X4 K3 hB3 hP3;go_wp2_with fail
 refine(Fh.o).mono ?_;rintro en w5 ⟨v1,rfl,X5⟩;obtain⟨y1,g1,hv1⟩:=(X5.o).1.iface;subst hv1;have K5:Hid (Kq D kb ab w w5):=(K4.o).trans (X5.o).2.2;have EM:=(X5.o).2.2.made hr ha hs2 hB4.o (by decide);have c1:=ai w5 _ 4 _ _ _ EM;have f1:w5.frozen? ⟨b,4,none⟩=false:=by simp[World.frozen?,EM]
 have bE6:b<w4.heap.size:=aP hB4.o;have HFin:Hid (gJ (w5.setCell ⟨b,4,none⟩ (.iface y1 (.pointer (some ⟨g1,0,none⟩)))) w.heap.size (w5.setCell ⟨b,4,none⟩ (.iface y1 (.pointer (some ⟨g1,0,none⟩)))).heap.size (.iface 234 (.pointer (some ⟨b,0,none⟩))) (.fn ns e)∧cO (w5.setCell ⟨b,4,none⟩ (.iface y1 (.pointer (some ⟨g1,0,none⟩)))) D kb ab [] (i+X.pz (t1++([X.Part.br 6 qs]++(t2++[p]))))∧Kq D kb ab w (w5.setCell ⟨b,4,none⟩ (.iface y1 (.pointer (some ⟨g1,0,none⟩))))):=by
  have hk:Kp (fun q=>q=b) w5 (w5.setCell ⟨b,4,none⟩ (.iface y1 (.pointer (some ⟨g1,0,none⟩)))):=On.set (Kp.refl _ w5) 4 _;have hsz:(w5.setCell ⟨b,4,none⟩ (.iface y1 (.pointer (some ⟨g1,0,none⟩)))).heap.size=w5.heap.size:=by simp[World.setCell]
  have aO9:=(X5.o).2.2.size;have hP5:=(hP4.o).jL (X5.o).2.2 (aH hr (aj _)) (aH ha (aj _));rw[hsz,hz];refine⟨.fn (m:=0) (n:=0) (z:=false) b pb ns _ e ⟨hs2,by omega⟩ (by simp[World.setCell,aK,EM]) ((hP5.keep hk (fun i h1 h2 e=>by omega)).wide (aj _) (by omega)) (((X5.o).1.keep hk (fun i h1 h2 e=>by omega)).wide (by omega) (aj _)),?_,(K5.o).set ha hs2 _ _⟩;have hR:=(X5.o).2.1.on hk EM (by decide) (by omega) (by omega) (fun hd=>by have:=(mI.o) w (aj _) _ hd;omega);rw[show i+(X.pz t1+(X.pz qs+(X.pz t2+X.pz [p])))=i+X.pz t1+X.pz qs+X.pz t2+X.pz [p] by omega];exact hR
 clear Fh X5 K4 hB4 K5 hP4 EM;go_wp2_with fail
 go_ret;exact⟨b,rfl,HFin.o⟩
theorem GA(a b:Int)(c:ByteArray)(a4:Option Addr)(a5 a6:Nat)(w:World):(Instr.field 117 (.agg #[.int .i64 a,.int .i64 b,.string c,.slice a4 a5 a6]) 2).run prog w=.ok (.string c) w:=by kernel_rfl
theorem GD(D:Nat→Prop)(kb ab:Nat)(p1 p2:X.Part)(t qs:List X.Part)(k:Nat)(x:ah)(e1 e2:X.Ex)(i:Nat)(w:World)(h:cO w D kb ab ([p1]++(t++[p2])) i)(hl:X.Rd p1 i e1)(ht:X.y9 t k x qs)(hr2:X.Rd p2 (i+X.pz [p1]+X.pz t) e2)(H1:oH p1)(H2:oH p2)
  (hi:i+X.pz ([p1]++(t++[p2]))≤1073741824) (hpl:([p1]++(t++[p2])).length≤1073741824) (hDl:∀ q,D q→q<w.heap.size) :
  Calls prog 112 #[.pointer (some ⟨kb,0,none⟩)] w fun en w'=>∃ b,en=.returned (.pointer (some ⟨b,0,none⟩))∧Hid (gJ w' w.heap.size w'.heap.size (.iface 238 (.pointer (some ⟨b,0,none⟩))) (.bin e1 x e2)∧cO w' D kb ab [] (i+X.pz ([p1]++(t++[p2])))∧Kq D kb ab w w'):=by
 obtain⟨hr,ha⟩:=h.lt;have hT:=ht.AR;have hz:X.pz ([p1]++(t++[p2]))=X.pz [p1]+(X.pz t+X.pz [p2]):=by rw[X.aY,X.aY]
 rw[hz] at hi;simp only[ak,dX] at hpl;have yG:=au (H1 e1 i D kb ab (t++[p2]) w hl h (by omega) hDl);have mI:Hid (∀ W:World,w.heap.size≤W.heap.size→∀ q,D q→q<W.heap.size):=fun W hW q hq=>aH (hDl q hq) hW
 have HB:=au hr2;have hfl:=GA;clear h hDl hl hr2 ht;go_enter func112,ntmps112;go_wp2_with fail
 refine(yG.o).mono ?_;rintro en w2 ⟨v1,rfl,X2⟩;obtain⟨y1,g1,hv1⟩:=(X2.o).1.iface;subst hv1;have hs2:=(X2.o).2.2.size;have kA:Below w2.heap.size w2 (w2.alloc (.cells #[.int .i64 0,.int .i64 0,.bool false,.iface y1 (.pointer (some ⟨g1,0,none⟩)),.string ⟨#[]⟩,.nilIface] 240)):=(ay _ w2).alloc (aj _) _;have hB3:Hid ((w2.alloc (.cells #[.int .i64 0,.int .i64 0,.bool false,.iface y1 (.pointer (some ⟨g1,0,none⟩)),.string ⟨#[]⟩,.nilIface] 240)).heap[w2.heap.size]?=some (.cells #[.int .i64 0,.int .i64 0,.bool false,.iface y1 (.pointer (some ⟨g1,0,none⟩)),.string ⟨#[]⟩,.nilIface] 240 (0,0))):=aB w2 _;have K3:Hid (Kq D kb ab w (w2.alloc (.cells #[.int .i64 0,.int .i64 0,.bool false,.iface y1 (.pointer (some ⟨g1,0,none⟩)),.string ⟨#[]⟩,.nilIface] 240))):=(X2.o).2.2.more kA ha;have YJ:Hid (gJ (w2.alloc (.cells #[.int .i64 0,.int .i64 0,.bool false,.iface y1 (.pointer (some ⟨g1,0,none⟩)),.string ⟨#[]⟩,.nilIface] 240)) w.heap.size w2.heap.size (.iface y1 (.pointer (some ⟨g1,0,none⟩))) e1):=(X2.o).1.keep (Kp.aI kA (fun _=>False)) (fun _ _ _=>id);have wX:=au (gy D kb ab t qs _ [p2] (i+X.pz [p1]) _ ((X2.o).2.1.below kA) hT (by simp only[X.aY];omega) (by simp only[ak,dX];omega) ((mI.o) _ (K3.o).size));clear yG kA X2;go_wp2_with fail
 generalize w2.alloc (.cells #[.int .i64 0,.int .i64 0,.bool false,.iface y1 (.pointer (some ⟨g1,0,none⟩)),.string ⟨#[]⟩,.nilIface] 240)=W3 at *;generalize w2.heap.size=b at *;refine(wX.o).mono ?_;rintro en w4 ⟨a4,a5,a6,rfl,X4⟩;have hB4:=(X4.o).2.made hr ha hs2 hB3.o (by decide);have c1:=ai w4 _ 4 _ _ _ hB4;have f1:w4.frozen? ⟨b,4,none⟩=false:=by simp[World.frozen?,hB4]
 have hnt:X.AQ (.leaf k x)=x:=rfl;rw[hnt];have cG1:b<w4.heap.size:=aP hB4;have Gz:Hid (gJ (w4.setCell ⟨b,4,none⟩ (.string (ba x))) w.heap.size b (.iface y1 (.pointer (some ⟨g1,0,none⟩))) e1∧cO (w4.setCell ⟨b,4,none⟩ (.string (ba x))) D kb ab [p2] (i+X.pz [p1]+X.pz t)∧(w4.setCell ⟨b,4,none⟩ (.string (ba x))).heap[b]?=some (.cells #[.int .i64 0,.int .i64 0,.bool false,.iface y1 (.pointer (some ⟨g1,0,none⟩)),.string (ba x),.nilIface] 240 (0,0))∧Kq D kb ab w (w4.setCell ⟨b,4,none⟩ (.string (ba x)))∧(w4.setCell ⟨b,4,none⟩ (.string (ba x))).heap.size=w4.heap.size):=by
  have hk:Kp (fun q=>q=b) w4 (w4.setCell ⟨b,4,none⟩ (.string (ba x))):=On.set (Kp.refl _ w4) 4 _;refine⟨((YJ.o).jL (X4.o).2 (aH hr (aj _)) (aH ha (aj _))).keep hk (fun i h1 h2 e=>by omega),(X4.o).1.on hk hB4 (by decide) (by omega) (by omega) (fun hd=>?_),by simp[World.setCell,aK,hB4],((K3.o).trans (X4.o).2).set ha hs2 _ _,by simp[World.setCell]⟩;have:=(mI.o) w (aj _) _ hd;omega
 clear wX X4 K3 hB3 YJ;go_wp2_with fail
 generalize w4.setCell ⟨b,4,none⟩ (.string (ba x))=W5 at *;clear hB4 c1 f1;have Ky:=au (H2 e2 (i+X.pz [p1]+X.pz t) D kb ab [] W5 HB.o (Gz.o).2.1 (by omega) ((mI.o) _ (Gz.o).2.2.2.1.size));refine(Ky.o).mono ?_;rintro en w7 ⟨v2,rfl,X7⟩;obtain⟨y2,g2,hv2⟩:=(X7.o).1.iface;subst hv2;have RA:=(X7.o).2.2.made hr ha hs2 (Gz.o).2.2.1 (by decide);have c2:=ai w7 _ 5 _ _ _ RA;have f2:w7.frozen? ⟨b,5,none⟩=false:=by simp[World.frozen?,RA]
 have HFin:Hid (gJ (w7.setCell ⟨b,5,none⟩ (.iface y2 (.pointer (some ⟨g2,0,none⟩)))) w.heap.size (w7.setCell ⟨b,5,none⟩ (.iface y2 (.pointer (some ⟨g2,0,none⟩)))).heap.size (.iface 238 (.pointer (some ⟨b,0,none⟩))) (.bin e1 x e2)∧cO (w7.setCell ⟨b,5,none⟩ (.iface y2 (.pointer (some ⟨g2,0,none⟩)))) D kb ab [] (i+X.pz ([p1]++(t++[p2])))∧Kq D kb ab w (w7.setCell ⟨b,5,none⟩ (.iface y2 (.pointer (some ⟨g2,0,none⟩))))):=by
  have hk:Kp (fun q=>q=b) w7 (w7.setCell ⟨b,5,none⟩ (.iface y2 (.pointer (some ⟨g2,0,none⟩)))):=On.set (Kp.refl _ w7) 5 _;have hsz:(w7.setCell ⟨b,5,none⟩ (.iface y2 (.pointer (some ⟨g2,0,none⟩)))).heap.size=w7.heap.size:=by simp[World.setCell]
  have cG2:=(X7.o).2.2.size;have hs5:=(Gz.o).2.2.2.2;have hE7:=(Gz.o).1.jL (X7.o).2.2 (aH hr (aj _)) (aH ha (aj _));rw[hsz,hz];refine⟨.bin (m:=0) (n:=0) (z:=false) b _ _ x e1 e2 ⟨hs2,by omega⟩ (by simp[World.setCell,aK,RA]) ((hE7.keep hk (fun i h1 h2 e=>by omega)).wide (aj _) (by omega)) (((X7.o).1.keep hk (fun i h1 h2 e=>by omega)).wide (by omega) (aj _)),?_,((Gz.o).2.2.2.1.trans (X7.o).2.2).set ha hs2 _ _⟩;have hR:=(X7.o).2.1.on hk RA (by decide) (by omega) (by omega) (fun hd=>by have:=(mI.o) w (aj _) _ hd;omega);rw[show i+(X.pz [p1]+(X.pz t+X.pz [p2]))=i+X.pz [p1]+X.pz t+X.pz [p2] by omega];exact hR
 clear Ky X7 RA Gz;go_wp2_with fail
 go_ret;exact⟨b,rfl,HFin.o⟩
end
section
open Tryz
variable{k kb ab tot k2:Nat}{w wr:World}{D:Nat→Prop}{rv:Value}{vs:List Value}
def X.Zj:X.Part→Bool
 | .leaf _ _=>false
 | .miss m=>m==X.lU
 | .br k _=>k !=0&&k !=1
theorem JK(p:X.Part)(a4:Option Addr)(a5 a6:Nat)(w:World) :
  Calls prog 136 #[.agg #[.int .i64 (X.nk p),.int .i64 (X.CR p),.string (ba (X.AQ p)),.slice a4 a5 a6]] w fun e w'=>e=.returned (.bool (X.Zj p))∧Below w.heap.size w w':=by
 have oM:∀ a b c,Hid (Below w.heap.size w (w.alloc (.cells #[.int .i64 a,.int .i64 b,.string c,.slice a4 a5 a6] 117))):=fun a b c=>(ay _ w).alloc (aj _) _
 have vW:=au oM;clear oM;cases p with
 | leaf k x =>
  show Calls prog 136 #[.agg #[.int .i64 0,.int .i64 k,.string (ba x),.slice a4 a5 a6]] w fun e w'=>e=.returned (.bool false)∧Below w.heap.size w w'
  go_enter func136,ntmps136;go_wp2_with fail
  go_ret;exact⟨rfl,((vW.o) _ _ _).o⟩
 | miss m =>
  by_cases hm:m=X.lU
  ·subst hm
   show Calls prog 136 #[.agg #[.int .i64 1,.int .i64 0,.string (ba X.lU),.slice a4 a5 a6]] w fun e w'=>e=.returned (.bool true)∧Below w.heap.size w w'
   have e1:((ba X.lU).toList==[101,120,112,114,101,115,115,105,111,110])=true:=by rw[jK];rfl
   go_enter func136,ntmps136;go_wp2_with fail
   go_ret;exact⟨rfl,((vW.o) _ _ _).o⟩
  ·have k3:X.Zj (.miss m)=false:=by show(m==X.lU)=false;simpa using hm
   have i4':((ba m).toList==[101,120,112,114,101,115,115,105,111,110])=false:=by rw[jK];exact k3
   rw[k3];show Calls prog 136 #[.agg #[.int .i64 1,.int .i64 0,.string (ba m),.slice a4 a5 a6]] w fun e w'=>e=.returned (.bool false)∧Below w.heap.size w w'
   go_enter func136,ntmps136;go_wp2_with fail
   go_ret;exact⟨rfl,((vW.o) _ _ _).o⟩
 | br k ps =>
  by_cases h0:k=0
  ·subst h0
   show Calls prog 136 #[.agg #[.int .i64 0,.int .i64 0,.string (ba []),.slice a4 a5 a6]] w fun e w'=>e=.returned (.bool false)∧Below w.heap.size w w'
   go_enter func136,ntmps136;go_wp2_with fail
   go_ret;exact⟨rfl,((vW.o) _ _ _).o⟩
  ·by_cases h1:k=1
   ·subst h1
    have e1:((ba []).toList==[101,120,112,114,101,115,115,105,111,110])=false:=by rw[jK];rfl
    show Calls prog 136 #[.agg #[.int .i64 1,.int .i64 0,.string (ba []),.slice a4 a5 a6]] w fun e w'=>e=.returned (.bool false)∧Below w.heap.size w w'
    go_enter func136,ntmps136;go_wp2_with fail
    go_ret;exact⟨rfl,((vW.o) _ _ _).o⟩
   ·have j0:((k:Int) !=0)=true:=by simp;omega
    have j1:((k:Int) !=1)=true:=by simp;omega
    have j0':((k:Int)==0)=false:=by simp;omega
    have j1':((k:Int)==1)=false:=by simp;omega
    have k3:X.Zj (.br k ps)=true:=by show(k !=0&&k !=1)=true;simp;omega
    rw[k3];show Calls prog 136 #[.agg #[.int .i64 k,.int .i64 0,.string (ba []),.slice a4 a5 a6]] w fun e w'=>e=.returned (.bool true)∧Below w.heap.size w w'
    go_enter func136,ntmps136;go_wp2_with fail
    go_ret;exact⟨rfl,((vW.o) _ _ _).o⟩
theorem Zk{p:X.Part}{i:Nat}{e:X.Ex}(h:X.Rd p i e):X.Zj p=true∧X.lq p=false:=by
 cases h with
 | lit k t x ps qs _ hk h=>exact⟨by show(k !=0&&k !=1)=true;simp;omega,rfl⟩
 | _=>exact⟨rfl,rfl⟩
theorem CS:∀(l:List X.Part) {k:Nat} {es:List X.Ex},X.lW l k es→X.lW (l.dropWhile X.lq) (k+X.pz (l.takeWhile X.lq)) es
 | [],k,es,h=>h
 | p::l,k,es,h=>by
  cases hq:X.lq p with
  | true =>
   obtain⟨t,x,rfl,-⟩:=X.y_ hq;rw[jG hq,jF hq,X.fH,X.iK,← fw];cases h with
   | leaf _ _ _ _ _ h=>exact CS l h
   | cons _ _ _ e es hp h=>cases hp
  | false =>
   rw[eT (by rw[hq];simp),dU (by rw[hq];simp)];exact h
theorem GH{p:X.Part}{l:List X.Part}{es:List X.Ex}(h:X.lW (p::l) k es):(X.Zj p=true∧∃ e es',es=e::es'∧X.Rd p k e∧X.lW l (k+X.pz [p]) es')∨(X.Zj p=false∧X.Ij p=X.pz [p]∧X.lW l (k+X.pz [p]) es):=by
 cases h with
 | leaf t x _ _ _ h=>exact .inr ⟨rfl,(X.iK t x).symm,by rw[X.iK];exact h⟩
 | miss m _ _ _ hm h=>exact .inr ⟨by show(m==X.lU)=false;simpa using hm,rfl,h⟩
 | cons _ _ _ e es hp h=>exact .inl ⟨(Zk hp).1,e,es,rfl,hp,h⟩
structure aP0(w:World)(lo hi:Nat)(rv:Value)(es:List X.Ex):Prop where
 ex:∃(ao:Option Addr) (cap:Nat) (vs:Nat→Value),rv=.slice ao es.length cap∧es.length≤cap∧cap≤maxLen∧(∀ j,j<es.length→∃ g,ao=some ⟨g,0,none⟩∧lo≤g∧g<hi∧w.cell? ⟨g,j,none⟩=some (vs j)∧∃ c f,w.heap[g]?=some (.cells c 72 f))∧(∀(j:Nat) (e:X.Ex),es[j]?=some e→gJ w lo hi (vs j) e)
theorem RD:(prog.info? 72).map (fun i=>(i.zero,i.size,i.bytes))=some (some .nilIface,1,16):=by kernel_rfl
structure xK(w:World)(D:Nat→Prop)(kb ab:Nat)(es:List X.Ex)(tot:Nat)(l:List X.Part)(k:Nat)(acc:List X.Ex)(rv:Value)(vs:List Value)(wr:World):Prop where
 rw:cO wr D kb ab l k
 rds:∃ es',X.lW l k es'∧es=acc++es'
 own:wr.ownsRow w.heap.size 72 1 rv acc.length vs
 len:vs.length=acc.length
 each:∀(j:Nat) (e:X.Ex),acc[j]?=some e→∃ v L H,vs[j]?=some v∧w.heap.size≤L∧H≤wr.heap.size∧(∀ g,rv.ownBlock=some g→¬(L≤g∧g<H))∧gJ wr L H v e
 kp:Kq D kb ab w wr
 pos:k+X.pz l=tot
theorem xK.step{es:List X.Ex}{l:List X.Part}{acc:List X.Ex}(h:xK w D kb ab es tot l k acc rv vs wr){w2:World}{l2:List X.Part}(hr:kb<w.heap.size)(ha:ab<w.heap.size)(hk:Kq D kb ab wr w2)(hw:cO w2 D kb ab l2 k2)(hn:∃ es',X.lW l2 k2 es'∧es=acc++es')(hp:k2+X.pz l2=tot):xK w D kb ab es tot l2 k2 acc rv vs w2:=by
 refine⟨hw,hn,hk.owns h.own (by decide) (fun g hg=>by have:=(dV h.own g hg).1;exact⟨by omega,by omega⟩),h.len,fun j e hj=>?_,h.kp.trans hk,hp⟩;obtain⟨v,L,H,x1,x2,x3,x4,x5⟩:=h.each j e hj;exact⟨v,L,H,x1,x2,bS x3 hk.size,x4,x5.jL hk (aH hr x2) (aH ha x2)⟩
theorem xK.more{es:List X.Ex}{l:List X.Part}{acc:List X.Ex}(h:xK w D kb ab es tot l k acc rv vs wr){w5 w6:World}{l2:List X.Part}(hr:kb<w.heap.size)(ha:ab<w.heap.size)(hD:∀ q,D q→q<w.heap.size)(hk:Kq D kb ab wr w5)(hw:cO w5 D kb ab l2 k2){e:X.Ex}{v:Value}(hE:gJ w5 wr.heap.size w5.heap.size v e)(hn:∃ es',X.lW l2 k2 es'∧es=(acc++[e])++es')(hp:k2+X.pz l2=tot)(o:Obj){g cap:Nat}
  (hown:w6.ownsRow w.heap.size 72 1 (.slice (some ⟨g,0,none⟩) (acc.length+1) cap) (acc.length+1) (vs++[v])) (hgrow:(w5.alloc o).grownBy w6 rv.ownBlock) (hat:rv.ownBlock=some g∨g=w5.heap.size+1) :
  xK w D kb ab es tot l2 k2 (acc++[e]) (.slice (some ⟨g,0,none⟩) (acc.length+1) cap) (vs++[v]) w6:=by
 have hs5:=hk.size;have hge:=fun q hq=>(dV h.own q hq)
 have hown5:=hk.owns h.own (by decide) (fun g hg=>by have:=(hge g hg).1;exact⟨by omega,by omega⟩);have hA:Kp (fun q=>rv.ownBlock=some q) w5 w6:=Kp.grown (Kp.alloc (Kp.refl _ w5) o) hgrow (fun k e _=>e);have hs6:=hA.size;have hws:=h.kp.size;have hgo:∀ L H,H≤w5.heap.size→(∀ g',rv.ownBlock=some g'→¬(L≤g'∧g'<H))→∀ q,(Value.slice (some ⟨g,0,none⟩) (acc.length+1) cap).ownBlock=some q→¬(L≤q∧q<H):=fun L H hH h0 q hq=>by
  simp only[Value.ownBlock,eH] at hq;subst hq;rcases hat with e|e
  ·exact h0 g e
  ·omega
 refine⟨hw.keep hA (fun e=>by have:=(hge _ e).1;omega) (fun e=>by have:=(hge _ e).1;omega) (fun q hq e=>by have:=(hge _ e).1;have:=hD q hq;omega) (fun q c f _ hc e=>by obtain⟨-,c',f',hc'⟩:=jb hown5 e;exact nH hc' (by decide) ⟨c,f,hc⟩),hn,by rw[ak];exact hown,by rw[ak,ak,h.len];rfl,fun j e' hj=>?_,(h.kp.trans hk).over hA ha (fun i hi e=>by have:=(hge _ e).1;omega),hp⟩;by_cases hjl:j<acc.length
 ·rw[aU hjl] at hj
  obtain⟨v',L,H,x1,x2,x3,x4,x5⟩:=h.each j e' hj;exact⟨v',L,H,by rw[aU (by rw[h.len];exact hjl)];exact x1,x2,by omega,hgo L H (by omega) x4,(x5.jL hk (aH hr x2) (aH ha x2)).keep hA (fun q h1 h2 e=>x4 q e ⟨h1,h2⟩)⟩
 ·rw[aQ (by omega)] at hj
  have h0:j - acc.length=0:=by
   rcases gF (j - acc.length) with q|q
   ·exact q
   ·rw[aO (by simp;omega)] at hj;cases hj
  rw[h0] at hj;obtain rfl:e=e':=by simpa using hj
  have hno:∀ q,rv.ownBlock=some q→¬(wr.heap.size≤q∧q<w5.heap.size):=fun q hq=>by have:=(hge q hq).2;omega
  exact⟨v,wr.heap.size,w5.heap.size,by rw[aQ (by rw[h.len];omega),h.len,h0];rfl,hws,hs6,hgo _ _ (aj _) hno,hE.keep hA (fun q h1 h2 e=>hno q e ⟨h1,h2⟩)⟩
theorem xK.done{es:List X.Ex}{acc:List X.Ex}(h:xK w D kb ab es tot [] k acc rv vs wr):aP0 wr w.heap.size wr.heap.size rv es∧cO wr D kb ab [] tot∧Kq D kb ab w wr:=by
 obtain⟨es',h1,h2⟩:=h.rds;cases h1
 rw[aJ] at h2;subst h2;have hp:k=tot:=h.pos;have hge:=fun q hq=>(dV h.own q hq)
 have hl:=h.len;refine⟨?_,by rw[← hp];exact h.rw,h.kp⟩;have hc:=fun g hg=>h.own.cells (g:=g) hg
 have hown:=h.own;rcases hown.2 with ⟨rfl,h0⟩|⟨g,cap,cur,rfl,-,-,hn,hm,-,-⟩
 ·have he:es=[]:=aT.1 h0
  subst he;exact⟨none,0,fun _=>undef,rfl,aj _,by unfold maxLen;omega,fun j hj=>absurd hj (mF _),fun j e hj=>by simp at hj⟩
 ·refine⟨_,cap,fun j=>vs.getD j undef,rfl,hn,hm,fun j hj=>⟨g,rfl,(hge g rfl).1,(hge g rfl).2,?_,(jb hown rfl).2⟩,fun j e hj=>?_⟩
  ·have hv:vs[j]?=some (vs.getD j undef):=by
    rw[bF,aC (by omega)];rfl
   have:=hc g rfl j _ hv
   rwa[fe,cu] at this
  ·obtain⟨v,L,H,x1,x2,x3,-,x5⟩:=h.each j e hj
   have:vs.getD j undef=v:=by rw[bF,x1];rfl
   show gJ _ _ _ (vs.getD j undef) e;rw[this];exact x5.wide x2 x3
theorem kg(D:Nat→Prop)(kb ab:Nat)(qs:List X.Part)(es:List X.Ex)(i:Nat)(w:World)(h:cO w D kb ab qs i)(hr0:X.lW qs i es)(hE:∀ p∈qs,oH p)(hi:i+X.pz qs≤1073741824)(AU:qs.length≤268435456)(hel:es.length≤268435456)(hDl:∀ q,D q→q<w.heap.size) :
  Calls prog 110 #[.pointer (some ⟨kb,0,none⟩)] w fun en w'=>∃ rv,en=.returned rv∧Hid (aP0 w' w.heap.size w'.heap.size rv es∧cO w' D kb ab [] (i+X.pz qs)∧Kq D kb ab w w'):=by
 obtain⟨i0,hi0,hz0,hz1,hz2⟩:=gB RD;obtain⟨hr,ha⟩:=h.lt;have HI0:Hid (xK w D kb ab es (i+X.pz qs) qs i [] (.slice none 0 0) [] w):=⟨h,⟨es,hr0,rfl⟩,bY _ _ _ _,rfl,fun j e hj=>by simp at hj,Kq.refl _ _ _ _,rfl⟩;have HE:=au hE;have mI:=au hDl;clear h hr0 hE hDl;go_enter func110,ntmps110;go_wp2_with fail
 go_loopw [3] (fun av wr=>∃(l:List X.Part) (k:Nat) (acc:List X.Ex) (rv:Value) (vs:List Value),rv=av∧l.length≤268435456∧Hid (∀ p∈l,oH p)∧Hid (xK w D kb ab es (i+X.pz qs) l k acc rv vs wr)) (fun _ wr=>uo kb wr)
 case atStart=>exact⟨qs,i,[],_,[],rfl,AU,HE,HI0⟩
 case round =>
  obtain⟨l,k,acc,rv,vs,rfl,hll,HEl,HI⟩:=hrel;clear HI0 HE;have hlen:uo kb wr=l.length:=(HI.o).rw.len;have hpos:=(HI.o).pos;have HM:=au (j_ D kb ab l k wr (HI.o).rw (by omega) (by omega) (fun q hq=>aH ((mI.o) q hq) (HI.o).kp.size));go_wp2_with fail
  refine(HM.o).mono ?_;rintro e w3 ⟨rfl,H3⟩;have hpz:X.pz l=X.pz (l.takeWhile X.lq)+X.pz (l.dropWhile X.lq):=by rw[← X.aY,dZ]
  have hdl:(l.dropWhile X.lq).length≤l.length:=(fo _).length_le;have HI3:Hid (xK w D kb ab es (i+X.pz qs) (l.dropWhile X.lq) (k+X.pz (l.takeWhile X.lq)) acc rv vs w3):=by
   obtain⟨es',g1,g2⟩:=(HI.o).rds;exact(HI.o).step hr ha (H3.o).2 (H3.o).1 ⟨es',CS l g1,g2⟩ (by omega)
  have HEd:Hid (∀ p∈l.dropWhile X.lq,oH p):=fun p hp=>(HEl.o) p ((fo _).mem hp)
  clear HM H3 HI HEl;generalize l.dropWhile X.lq=l3 at *;generalize k+X.pz (l.takeWhile X.lq)=k3 at *;cases l3 with
  | nil =>
   have HF:=au ((HI3.o).done);have hdf:decide (([]:List X.Part)≠[])=false:=by simp
   rw[hdf];clear HI3;go_wp2_with fail
   go_ret;exact⟨rv,rfl,HF.o⟩
  | cons p l4 =>
   have hdt:decide (p::l4≠[])=true:=by simp
   rw[hdt];clear hdt;obtain⟨v,hb,hnn⟩:=(HI3.o).rw.blk;have c1:=ai w3 _ 1 _ _ _ hb;obtain⟨g,o,cap,kv,rfl,hD,y0,y1,y2,y3,hkk,-,hc1,hc2,-,-⟩:=hnn.head;obtain⟨b4,b6,_,_,_,_,rfl,-⟩:=hkk.ex;have hi1:(0:Int)<((l4.length+1:Nat):Int):=by omega
   have hi2:0<l4.length+1:=by omega
   have yu:=(HI3.o).pos;rw[X.fH] at yu;rw[aW] at hdl;have HEp:=au ((HEd.o) p (by simp));have HE4:Hid (∀ q∈l4,oH q):=fun q hq=>(HEd.o) q (fJ _ hq)
   clear hb hnn hkk HEd;go_wp2_with fail
   refine(JK p _ _ _ w3).mono ?_;rintro e w4 ⟨rfl,k4⟩;have HI4:Hid (xK w D kb ab es (i+X.pz qs) (p::l4) k3 acc rv vs w4):=(HI3.o).step hr ha (Kq.aI k4 (aH ha (HI3.o).kp.size)) ((HI3.o).rw.below k4) (HI3.o).rds (HI3.o).pos;clear k4 HI3 c1 y0 y1 y2 y3;have HD4:∀ q,D q→q<w4.heap.size:=fun q hq=>aH ((mI.o) q hq) (HI4.o).kp.size
   cases hnq:X.Zj p with
   | false =>
    have HN:Hid (X.Ij p=X.pz [p]∧∃ es',X.lW l4 (k3+X.pz [p]) es'∧es=acc++es'):=by
     obtain⟨es',g1,g2⟩:=(HI4.o).rds;rcases GH g1 with ⟨e,-⟩|⟨-,e2,e3⟩
     ·rw[hnq] at e;cases e
     ·exact⟨e2,es',e3,g2⟩
    have hln:=(HN.o).1;have Og:=au (jX D kb ab p l4 k3 w4 (HI4.o).rw (by omega) HD4);clear HD4;go_wp2_with fail
    refine(Og.o).mono ?_;rintro e w5 ⟨d4,d5,d6,rfl,H5⟩;have rZ:Hid (xK w D kb ab es (i+X.pz qs) l4 (k3+X.pz [p]) acc rv vs w5):=by
     obtain⟨-,z2,z3⟩:=H5.o;rw[hln] at z2;exact(HI4.o).step hr ha z3 z2 (HN.o).2 (by omega)
    clear H5 Og HI4;have hl5:uo kb w5=l4.length:=(rZ.o).rw.len;go_wp2_with fail
    exact⟨⟨l4,k3+X.pz [p],acc,rv,vs,rfl,by omega,HE4,rZ⟩,by rw[hlen,hl5];omega⟩
   | true =>
    have HN:Hid (∃ e,X.Rd p k3 e∧∃ es',X.lW l4 (k3+X.pz [p]) es'∧es=(acc++[e])++es'):=by
     obtain⟨es',g1,g2⟩:=(HI4.o).rds;rcases GH g1 with ⟨-,e,es2,e1,e2,e3⟩|⟨e,-⟩
     ·exact⟨e,e2,es2,e3,by rw[g2,e1,aA];rfl⟩
     ·rw[hnq] at e;cases e
    obtain⟨e0,hrd,hes'⟩:=HN.o;have Xg:=au hes';have hacc:acc.length≤268435456:=by
     have:=congrArg List.length hes'.choose_spec.2;simp at this;omega
    have HC:=au ((HEp.o) e0 k3 D kb ab l4 w4 hrd (HI4.o).rw (by omega) HD4);clear HD4 hes' HN hrd;go_wp2_with fail
    refine(HC.o).mono ?_;rintro e w5 ⟨v5,rfl,X5⟩;obtain⟨y1,g1,hv1⟩:=(X5.o).1.iface;subst hv1;have hvl:vs.length=acc.length:=(HI4.o).len;have Mt:Hid (w5.ownsRow w.heap.size 72 1 rv acc.length vs):=(X5.o).2.2.owns (HI4.o).own (by decide) (fun g hg=>by
     have:=(dV (HI4.o).own g hg).1;exact⟨by omega,by omega⟩)
    have hs5:w.heap.size≤w5.heap.size:=by have:=(X5.o).2.2.size;have:=(HI4.o).kp.size;omega
    go_wp2_with (at_builtin;refine wpList_append_lies _ rfl _ _ 244 rfl w.heap.size 72 i0 _ 1 16 underlying244 hi0 hz0 hz1 hz2 rfl (by decide) rv acc.length _ rfl ((Mt.o).alloc _) ⟨w5.heap.size,0,none⟩ 1 1 [.iface y1 (.pointer (some ⟨g1,0,none⟩))] rfl rfl (World.news_of_block (cs:=#[.iface y1 (.pointer (some ⟨g1,0,none⟩))]) (aB w5 _)) (by simp[Value.oneCell']) (by omega) (by unfold maxLen;omega) (by omega) (by simp;omega) (w5.heap.size+1) (by simp) ?_;intro g7 Bg w7 lQ gH uj DC;have Oo:=au ((HI4.o).more hr ha mI.o (X5.o).2.2 (X5.o).2.1 (X5.o).1 Xg.o (by omega) _ lQ gH uj);clear lQ gH)
    have TA:uo kb w7=l4.length:=(Oo.o).rw.len;exact⟨⟨l4,k3+X.pz [p],acc++[e0],_,_,rfl,by omega,HE4,Oo⟩,by rw[hlen,TA];omega⟩
theorem Nn(D:Nat→Prop)(kb ab:Nat)(p:X.Part)(gs:List X.Part)(e:X.Ex)(es:List X.Ex)(i:Nat)(w:World)(h:cO w D kb ab ([p]++[X.Part.br 12 gs]) i)(hc:X.Rd p i e)(hg:X.lW gs (i+X.pz [p]) es)(H1:oH p)(HE:∀ q∈gs,oH q)
  (hi:i+X.pz ([p]++[X.Part.br 12 gs])≤1073741824) (AU:gs.length≤268435456) (hel:es.length≤268435456) (hDl:∀ q,D q→q<w.heap.size) :
  Calls prog 113 #[.pointer (some ⟨kb,0,none⟩)] w fun en w'=>∃ b,en=.returned (.pointer (some ⟨b,0,none⟩))∧Hid (gJ w' w.heap.size w'.heap.size (.iface 243 (.pointer (some ⟨b,0,none⟩))) (.call e es)∧cO w' D kb ab [] (i+X.pz ([p]++[X.Part.br 12 gs]))∧Kq D kb ab w w'):=by
 obtain⟨hr,ha⟩:=h.lt;have hgg:=h.Ik.app.br.2;have hz:X.pz ([p]++[X.Part.br 12 gs])=X.pz [p]+X.pz gs:=by rw[X.aY,X.eU]
 rw[hz] at hi;have yG:=au (H1 e i D kb ab [X.Part.br 12 gs] w hc h (by omega) hDl);have mI:Hid (∀ W:World,w.heap.size≤W.heap.size→∀ q,D q→q<W.heap.size):=fun W hW q hq=>aH (hDl q hq) hW
 have HG:=au hg;have HEs:=au HE;clear h hDl hc hg HE;go_enter func113,ntmps113;go_wp2_with fail
 refine(yG.o).mono ?_;rintro en w2 ⟨v1,rfl,X2⟩;obtain⟨y1,g1,hv1⟩:=(X2.o).1.iface;subst hv1;have hs2:=(X2.o).2.2.size;have kA:Below w2.heap.size w2 (w2.alloc (.cells #[.int .i64 0,.int .i64 0,.bool false,.iface y1 (.pointer (some ⟨g1,0,none⟩)),.slice none 0 0] 246)):=(ay _ w2).alloc (aj _) _;have hB3:Hid ((w2.alloc (.cells #[.int .i64 0,.int .i64 0,.bool false,.iface y1 (.pointer (some ⟨g1,0,none⟩)),.slice none 0 0] 246)).heap[w2.heap.size]?=some (.cells #[.int .i64 0,.int .i64 0,.bool false,.iface y1 (.pointer (some ⟨g1,0,none⟩)),.slice none 0 0] 246 (0,0))):=aB w2 _;have K3:Hid (Kq D kb ab w (w2.alloc (.cells #[.int .i64 0,.int .i64 0,.bool false,.iface y1 (.pointer (some ⟨g1,0,none⟩)),.slice none 0 0] 246))):=(X2.o).2.2.more kA ha;have YJ:Hid (gJ (w2.alloc (.cells #[.int .i64 0,.int .i64 0,.bool false,.iface y1 (.pointer (some ⟨g1,0,none⟩)),.slice none 0 0] 246)) w.heap.size w2.heap.size (.iface y1 (.pointer (some ⟨g1,0,none⟩))) e):=(X2.o).1.keep (Kp.aI kA (fun _=>False)) (fun _ _ _=>id);have wX:=au (nA D kb ab (.br 12 gs) [] (i+X.pz [p]) _ ((X2.o).2.1.below kA) (by show i+X.pz [p]+0≤_;omega) ((mI.o) _ (K3.o).size));clear yG kA X2;go_wp2_with fail
 generalize w2.alloc (.cells #[.int .i64 0,.int .i64 0,.bool false,.iface y1 (.pointer (some ⟨g1,0,none⟩)),.slice none 0 0] 246)=W3 at *;generalize w2.heap.size=b at *;refine(wX.o).mono ?_;rintro en w4 ⟨a4,a5,a6,rfl,X4⟩;have K4:Hid (Kq D kb ab w w4):=(K3.o).trans (X4.o).2.2;have hB4:=au ((X4.o).2.2.made hr ha hs2 hB3.o (by decide));have ZO:=au ((YJ.o).jL (X4.o).2.2 (aH hr (aj _)) (aH ha (aj _)));have HIn:Hid (cO (w4.alloc (.cells #[.pointer (some ⟨ab,0,none⟩),.slice a4 a5 a6] 120)) D w4.heap.size ab gs (i+X.pz [p])∧∀(w5:World) (l:List X.Part) (k:Nat),cO w5 D w4.heap.size ab l k→Kq D w4.heap.size ab (w4.alloc (.cells #[.pointer (some ⟨ab,0,none⟩),.slice a4 a5 a6] 120)) w5→cO w5 D kb ab [] k∧Kq D kb ab w4 w5):=Li (X4.o).2.1 (X4.o).1 hgg ((mI.o) _ (K4.o).size);have hbl:b<w4.heap.size:=aP hB4.o;have aO0:(w4.alloc (.cells #[.pointer (some ⟨ab,0,none⟩),.slice a4 a5 a6] 120)).heap.size=w4.heap.size+1:=by simp
 have cG5:=(K4.o).size;have KA:=au (kg D w4.heap.size ab gs es (i+X.pz [p]) _ (HIn.o).1 HG.o HEs.o (by omega) AU hel (fun q hq=>by have:=(mI.o) _ (K4.o).size q hq;omega));clear wX X4 K3 hB3 YJ;go_wp2_with fail
 have hkB:Below w4.heap.size w4 (w4.alloc (.cells #[.pointer (some ⟨ab,0,none⟩),.slice a4 a5 a6] 120)):=(ay _ w4).alloc (aj _) _;refine(KA.o).mono ?_;rintro en w6 ⟨rv,rfl,X6⟩;obtain⟨ao,cap,vs,Ut,hc1,hc2,hrr,hpp⟩:=(X6.o).1.ex;subst Ut;obtain⟨z1,z2⟩:=(HIn.o).2 w6 [] _ (X6.o).2.1 (X6.o).2.2;have OZ:=z2.made hr ha hs2 hB4.o (by decide);have c1:=ai w6 _ 4 _ _ _ OZ;have f1:w6.frozen? ⟨b,4,none⟩=false:=by simp[World.frozen?,OZ]
 have HFin:Hid (gJ (w6.setCell ⟨b,4,none⟩ (.slice ao es.length cap)) w.heap.size (w6.setCell ⟨b,4,none⟩ (.slice ao es.length cap)).heap.size (.iface 243 (.pointer (some ⟨b,0,none⟩))) (.call e es)∧cO (w6.setCell ⟨b,4,none⟩ (.slice ao es.length cap)) D kb ab [] (i+X.pz ([p]++[X.Part.br 12 gs]))∧Kq D kb ab w (w6.setCell ⟨b,4,none⟩ (.slice ao es.length cap))):=by
  have hk:Kp (fun q=>q=b) w6 (w6.setCell ⟨b,4,none⟩ (.slice ao es.length cap)):=On.set (Kp.refl _ w6) 4 _;have hsz:(w6.setCell ⟨b,4,none⟩ (.slice ao es.length cap)).heap.size=w6.heap.size:=by simp[World.setCell]
  have bE7:=z2.size;have hE6:=(ZO.o).jL z2 (aH hr (aj _)) (aH ha (aj _));rw[aO0] at hrr hpp;rw[hsz,hz];refine⟨.call (m:=0) (n:=0) (z:=false) b _ e ao cap vs es ⟨hs2,by omega⟩ (by simp[World.setCell,aK,OZ]) ⟨hc1,hc2⟩ ((hE6.keep hk (fun i h1 h2 e=>by omega)).wide (aj _) (by omega)) (fun j hj=>?_) (fun j e' hj=>?_),?_,((K4.o).trans z2).set ha hs2 _ _⟩
  ·obtain⟨g,e1,e2,e3,e4,c,f,e5⟩:=hrr j hj
   exact⟨g,e1,by omega,e3,hk.dY e4 (by simp;omega),c,f,hk.heap e5 (by omega)⟩
  ·exact((hpp j e' hj).keep hk (fun q h1 h2 e=>by omega)).wide (by omega) (aj _)
  ·have hR:=z1.on hk OZ (by decide) (by omega) (by omega) (fun hd=>by have:=(mI.o) w (aj _) _ hd;omega)
   rw[show i+(X.pz [p]+X.pz gs)=i+X.pz [p]+X.pz gs by omega];exact hR
 clear KA X6 hB4 ZO K4 OZ z1 z2 HIn hrr hpp;go_wp2_with fail
 go_ret;exact⟨b,rfl,HFin.o⟩
theorem Lj{ps:List X.Part}{i:Nat}{ns:List X.Nm}(h:X.oN ps i ns):ns.length≤ps.length:=by
 induction h with
 | nil i=>exact aj _
 | name x ps i ns h ih=>rw[aW,aW];omega
 | leaf k x ps i ns hk h ih=>rw[aW];omega
 | lack ps i ns h ih=>rw[aW,aW];omega
 | miss m ps i ns hm h ih=>rw[aW];omega
theorem j6:∀(ps:List X.Part) {i:Nat} {es:List X.Ex},X.lW ps i es→es.length≤ps.length
 | [],i,es,h=>by cases h;exact aj _
 | p::ps,i,es,h=>by
  cases h with
  | leaf _ _ _ _ _ h=>have:=j6 ps h;rw[aW];omega
  | miss _ _ _ _ _ h=>have:=j6 ps h;rw[aW];omega
  | cons _ _ _ e es _ h=>have:=j6 ps h;rw[aW,aW];omega
structure Ent(w:World)(D:Nat→Prop)(ab:Nat)(qs:List X.Part)(i:Nat)(kv:Value):Prop where
 inn:cO (w.alloc (.cells #[.pointer (some ⟨ab,0,none⟩),kv] 120)) D w.heap.size ab qs i
 o:∀(w3:World) (l:List X.Part) (k:Nat),cO w3 D w.heap.size ab l k→Kq D w.heap.size ab (w.alloc (.cells #[.pointer (some ⟨ab,0,none⟩),kv] 120)) w3→lV w3 D ab k∧Kq D ab ab w w3
 dl:∀ q,D q→q<(w.alloc (.cells #[.pointer (some ⟨ab,0,none⟩),kv] 120)).heap.size
 sz:(w.alloc (.cells #[.pointer (some ⟨ab,0,none⟩),kv] 120)).heap.size=w.heap.size+1
 lt:ab<w.heap.size
theorem pJ{w:World}{D:Nat→Prop}{ab:Nat}{qs:List X.Part}{i:Nat}{kv:Value}(hp:lV w D ab i)(hk:qz w D kv qs)(hg:X.Gd qs)(hd:¬ D ab)(hDl:∀ q,D q→q<w.heap.size):Ent w D ab qs i kv:=by
 have kB:Below w.heap.size w (w.alloc (.cells #[.pointer (some ⟨ab,0,none⟩),kv] 120)):=(ay _ w).alloc (aj _) _;exact⟨Gy hp hk hg hd hDl,fun w3 l k x y=>⟨x.Ar,(Kq.aI kB hp.lt).inner y (aj _)⟩,fun q hq=>by have:=hDl q hq;simp;omega,by simp,hp.lt⟩
theorem RF(D:Nat→Prop)(ab:Nat)(a4:Option Addr)(a5 a6:Nat)(t1 n t2 t3:List X.Part)(p1 p2:X.Part)(nm:X.Nm)(e1 e2:X.Ex)(i:Nat)(w:World)(hp:lV w D ab i)(hk:qz w D (.slice a4 a5 a6) (t1++(n++(t2++([p1]++(t3++[p2]))))))(hg:X.Gd (t1++(n++(t2++([p1]++(t3++[p2]))))))(hd:¬ D ab)(h1:X.wR t1)(hn:X.BD n (i+X.pz t1) nm)(h2:X.wR t2)(hv:X.Rd p1 (i+X.pz t1+X.pz n+X.pz t2) e1)(h3:X.wR t3)(hb:X.Rd p2 (i+X.pz t1+X.pz n+X.pz t2+X.pz [p1]+X.pz t3) e2)(H1:oH p1)(H2:oH p2)(hpl:(t1++(n++(t2++([p1]++(t3++[p2]))))).length≤268435456)(hi:i+X.pz (t1++(n++(t2++([p1]++(t3++[p2])))))≤1073741824)(hDl:∀ q,D q→q<w.heap.size) :
  Calls prog 84 #[.agg #[.pointer (some ⟨ab,0,none⟩),.slice a4 a5 a6],.int .i64 7] w fun en w'=>∃ v,en=.returned v∧Hid (gJ w' w.heap.size w'.heap.size v (.iJ nm e1 e2)∧lV w' D ab (i+X.pz (t1++(n++(t2++([p1]++(t3++[p2]))))))∧Kq D ab ab w w'):=by
 have HT:=au (pJ hp hk hg hd hDl);have hsz:=(HT.o).sz;have hal:=(HT.o).lt;have HC:=au (Ry D w.heap.size ab t1 n t2 t3 p1 p2 nm e1 e2 i _ (HT.o).inn h1 hn h2 hv h3 hb H1 H2 hi (by omega) (HT.o).dl);clear h1 hn h2 hv h3 hb;clear hp hk hg hd hDl;go_enter func84,ntmps84;go_wp2_with fail
 refine(HC.o).mono ?_;rintro en w4 ⟨b,rfl,X4⟩;have HFin:Hid (gJ w4 w.heap.size w4.heap.size (.iface 230 (.pointer (some ⟨b,0,none⟩))) (.iJ nm e1 e2)∧lV w4 D ab (i+X.pz (t1++(n++(t2++([p1]++(t3++[p2]))))))∧Kq D ab ab w w4):=by
  obtain⟨z1,z2⟩:=(HT.o).o w4 [] _ (X4.o).2.1 (X4.o).2.2;exact⟨(X4.o).1.wide (by omega) (aj _),z1,z2⟩
 clear HC X4 HT;go_wp2_with fail
 go_ret;exact⟨_,rfl,HFin⟩
theorem RG(D:Nat→Prop)(ab:Nat)(a4:Option Addr)(a5 a6:Nat)(t1 qs t2:List X.Part)(p:X.Part)(ns:List X.Nm)(e:X.Ex)(i:Nat)(w:World)(hp:lV w D ab i)(hk:qz w D (.slice a4 a5 a6) (t1++([X.Part.br 6 qs]++(t2++[p]))))(hg:X.Gd (t1++([X.Part.br 6 qs]++(t2++[p]))))(hd:¬ D ab)(h1:X.wR t1)(hn:X.oN qs (i+X.pz t1) ns)(h2:X.wR t2)(hb:X.Rd p (i+X.pz t1+X.pz qs+X.pz t2) e)(H1:oH p)(hpl:(t1++([X.Part.br 6 qs]++(t2++[p]))).length≤268435456)(AU:qs.length≤268435456)(hi:i+X.pz (t1++([X.Part.br 6 qs]++(t2++[p])))≤1073741824)(hDl:∀ q,D q→q<w.heap.size) :
  Calls prog 84 #[.agg #[.pointer (some ⟨ab,0,none⟩),.slice a4 a5 a6],.int .i64 9] w fun en w'=>∃ v,en=.returned v∧Hid (gJ w' w.heap.size w'.heap.size v (.fn ns e)∧lV w' D ab (i+X.pz (t1++([X.Part.br 6 qs]++(t2++[p]))))∧Kq D ab ab w w'):=by
 have HT:=au (pJ hp hk hg hd hDl);have hsz:=(HT.o).sz;have hal:=(HT.o).lt;have hnl:=Lj hn;have HC:=au (RB D w.heap.size ab t1 qs t2 p ns e i _ (HT.o).inn h1 hn h2 hb H1 hi (by omega) AU (by omega) (HT.o).dl);clear h1 hn h2 hb;clear hp hk hg hd hDl;go_enter func84,ntmps84;go_wp2_with fail
 refine(HC.o).mono ?_;rintro en w4 ⟨b,rfl,X4⟩;have HFin:Hid (gJ w4 w.heap.size w4.heap.size (.iface 234 (.pointer (some ⟨b,0,none⟩))) (.fn ns e)∧lV w4 D ab (i+X.pz (t1++([X.Part.br 6 qs]++(t2++[p]))))∧Kq D ab ab w w4):=by
  obtain⟨z1,z2⟩:=(HT.o).o w4 [] _ (X4.o).2.1 (X4.o).2.2;exact⟨(X4.o).1.wide (by omega) (aj _),z1,z2⟩
 clear HC X4 HT;go_wp2_with fail
 go_ret;exact⟨_,rfl,HFin⟩
theorem RH(D:Nat→Prop)(ab:Nat)(a4:Option Addr)(a5 a6:Nat)(p1 p2:X.Part)(t qs:List X.Part)(k:Nat)(x:ah)(e1 e2:X.Ex)(i:Nat)(w:World)(hp:lV w D ab i)(hk:qz w D (.slice a4 a5 a6) ([p1]++(t++[p2])))(hg:X.Gd ([p1]++(t++[p2])))(hd:¬ D ab)(hl:X.Rd p1 i e1)(ht:X.y9 t k x qs)(hr2:X.Rd p2 (i+X.pz [p1]+X.pz t) e2)(H1:oH p1)(H2:oH p2)(hpl:([p1]++(t++[p2])).length≤268435456)(hi:i+X.pz ([p1]++(t++[p2]))≤1073741824)(hDl:∀ q,D q→q<w.heap.size) :
  Calls prog 84 #[.agg #[.pointer (some ⟨ab,0,none⟩),.slice a4 a5 a6],.int .i64 10] w fun en w'=>∃ v,en=.returned v∧Hid (gJ w' w.heap.size w'.heap.size v (.bin e1 x e2)∧lV w' D ab (i+X.pz ([p1]++(t++[p2])))∧Kq D ab ab w w'):=by
 have HT:=au (pJ hp hk hg hd hDl);have hsz:=(HT.o).sz;have hal:=(HT.o).lt;have HC:=au (GD D w.heap.size ab p1 p2 t qs k x e1 e2 i _ (HT.o).inn hl ht hr2 H1 H2 hi (by omega) (HT.o).dl);clear hl ht hr2;clear hp hk hg hd hDl;go_enter func84,ntmps84;go_wp2_with fail
 refine(HC.o).mono ?_;rintro en w4 ⟨b,rfl,X4⟩;have HFin:Hid (gJ w4 w.heap.size w4.heap.size (.iface 238 (.pointer (some ⟨b,0,none⟩))) (.bin e1 x e2)∧lV w4 D ab (i+X.pz ([p1]++(t++[p2])))∧Kq D ab ab w w4):=by
  obtain⟨z1,z2⟩:=(HT.o).o w4 [] _ (X4.o).2.1 (X4.o).2.2;exact⟨(X4.o).1.wide (by omega) (aj _),z1,z2⟩
 clear HC X4 HT;go_wp2_with fail
 go_ret;exact⟨_,rfl,HFin⟩
theorem Np(D:Nat→Prop)(ab:Nat)(a4:Option Addr)(a5 a6:Nat)(p:X.Part)(gs:List X.Part)(e:X.Ex)(es:List X.Ex)(i:Nat)(w:World)(hp:lV w D ab i)(hk:qz w D (.slice a4 a5 a6) ([p]++[X.Part.br 12 gs]))(hg:X.Gd ([p]++[X.Part.br 12 gs]))(hd:¬ D ab)(hc:X.Rd p i e)(hgs:X.lW gs (i+X.pz [p]) es)(H1:oH p)(HE:∀ q∈gs,oH q)(AU:gs.length≤268435456)(hi:i+X.pz ([p]++[X.Part.br 12 gs])≤1073741824)(hDl:∀ q,D q→q<w.heap.size) :
  Calls prog 84 #[.agg #[.pointer (some ⟨ab,0,none⟩),.slice a4 a5 a6],.int .i64 11] w fun en w'=>∃ v,en=.returned v∧Hid (gJ w' w.heap.size w'.heap.size v (.call e es)∧lV w' D ab (i+X.pz ([p]++[X.Part.br 12 gs]))∧Kq D ab ab w w'):=by
 have HT:=au (pJ hp hk hg hd hDl);have hsz:=(HT.o).sz;have hal:=(HT.o).lt;have hel:=j6 gs hgs;have HC:=au (Nn D w.heap.size ab p gs e es i _ (HT.o).inn hc hgs H1 HE hi AU (by omega) (HT.o).dl);clear hc hgs HE;clear hp hk hg hd hDl;go_enter func84,ntmps84;go_wp2_with fail
 refine(HC.o).mono ?_;rintro en w4 ⟨b,rfl,X4⟩;have HFin:Hid (gJ w4 w.heap.size w4.heap.size (.iface 243 (.pointer (some ⟨b,0,none⟩))) (.call e es)∧lV w4 D ab (i+X.pz ([p]++[X.Part.br 12 gs]))∧Kq D ab ab w w4):=by
  obtain⟨z1,z2⟩:=(HT.o).o w4 [] _ (X4.o).2.1 (X4.o).2.2;exact⟨(X4.o).1.wide (by omega) (aj _),z1,z2⟩
 clear HC X4 HT;go_wp2_with fail
 go_ret;exact⟨_,rfl,HFin⟩
theorem Nq(D:Nat→Prop)(ab:Nat)(a4:Option Addr)(a5 a6:Nat)(t qs:List X.Part)(k:Nat)(x:ah)(j:Nat)(i:Nat)(w:World)(hp:lV w D ab i)(hk:qz w D (.slice a4 a5 a6) t)(hg:X.Gd t)(hd:¬ D ab)(ht:X.y9 t k x qs)(hpl:t.length≤268435456)(hi:i+X.pz t≤1073741824)(hDl:∀ q,D q→q<w.heap.size) :
  Calls prog 84 #[.agg #[.pointer (some ⟨ab,0,none⟩),.slice a4 a5 a6],.int .i64 19] w fun en w'=>∃ v,en=.returned v∧Hid (gJ w' w.heap.size w'.heap.size v (.hole j)∧lV w' D ab (i+X.pz t)∧Kq D ab ab w w'):=by
 have HT:=au (pJ hp hk hg hd hDl);have hsz:=(HT.o).sz;have hal:=(HT.o).lt;have hin:=(HT.o).inn;rw[← aJ t] at hin;have HC:=au (gy D w.heap.size ab t qs _ [] i _ hin ht.AR (by rw[aJ];exact hi) (by rw[aJ];omega) (HT.o).dl);clear ht hin;clear hp hk hg hd hDl;go_enter func84,ntmps84;go_wp2_with fail
 refine(HC.o).mono ?_;rintro en w4 ⟨f4,f5,f6,rfl,X4⟩;have K4:Hid (lV w4 D ab (i+X.pz t)∧Kq D ab ab w w4):=(HT.o).o w4 [] _ (X4.o).1 (X4.o).2;have hs4:=(K4.o).2.size;have kB:Below w4.heap.size w4 (w4.alloc (.cells #[.int .i64 0,.int .i64 0,.bool false] 282)):=(ay _ w4).alloc (aj _) _;have HFin:Hid (gJ (w4.alloc (.cells #[.int .i64 0,.int .i64 0,.bool false] 282)) w.heap.size (w4.alloc (.cells #[.int .i64 0,.int .i64 0,.bool false] 282)).heap.size (.iface 281 (.pointer (some ⟨w4.heap.size,0,none⟩))) (.hole j)∧lV (w4.alloc (.cells #[.int .i64 0,.int .i64 0,.bool false] 282)) D ab (i+X.pz t)∧Kq D ab ab w (w4.alloc (.cells #[.int .i64 0,.int .i64 0,.bool false] 282))):=⟨.hole _ j ⟨hs4,by simp⟩ (aB w4 _),(K4.o).1.below kB,(K4.o).2.more kB hal⟩;clear HC X4 HT K4 kB;go_wp2_with fail
 go_ret;exact⟨_,rfl,HFin⟩
theorem RI(D:Nat→Prop)(ab:Nat)(a4:Option Addr)(a5 a6:Nat)(t qs:List X.Part)(x:ah)(i:Nat)(w:World)(hp:lV w D ab i)(hk:qz w D (.slice a4 a5 a6) t)(hg:X.Gd t)(hd:¬ D ab)(ht:X.y9 t 3 x qs)(hpl:t.length≤268435456)(hi:i+X.pz t≤1073741824)(hDl:∀ q,D q→q<w.heap.size) :
  Calls prog 84 #[.agg #[.pointer (some ⟨ab,0,none⟩),.slice a4 a5 a6],.int .i64 18] w fun en w'=>∃ v,en=.returned v∧Hid (gJ w' w.heap.size w'.heap.size v (.var (x,i+X.pz qs))∧lV w' D ab (i+X.pz t)∧Kq D ab ab w w'):=by
 have HT:=au (pJ hp hk hg hd hDl);have hsz:=(HT.o).sz;have hal:=(HT.o).lt;have hnm:=X.BD.name t x qs i ht;have hin:=(HT.o).inn;rw[← aJ t] at hin;have HC:=au (nC D w.heap.size ab t (x,i+X.pz qs) [] i _ hin hnm (by rw[aJ];exact hi) (by rw[aJ];omega) (HT.o).dl);clear ht hin hnm;clear hp hk hg hd hDl;go_enter func84,ntmps84;go_wp2_with fail
 refine(HC.o).mono ?_;rintro en w4 ⟨rfl,X4⟩;have K4:Hid (lV w4 D ab (i+X.pz t)∧Kq D ab ab w w4):=(HT.o).o w4 [] _ (X4.o).1 (X4.o).2;have hs4:=(K4.o).2.size;have kB:Below w4.heap.size w4 (w4.alloc (.cells #[.int .i64 0,.int .i64 0,.bool false,.string (ba x),.int .i64 ((i:Int)+(X.pz qs:Int))] 280)):=(ay _ w4).alloc (aj _) _;have HFin:Hid (gJ (w4.alloc (.cells #[.int .i64 0,.int .i64 0,.bool false,.string (ba x),.int .i64 ((i:Int)+(X.pz qs:Int))] 280)) w.heap.size (w4.alloc (.cells #[.int .i64 0,.int .i64 0,.bool false,.string (ba x),.int .i64 ((i:Int)+(X.pz qs:Int))] 280)).heap.size (.iface 228 (.pointer (some ⟨w4.heap.size,0,none⟩))) (.var (x,i+X.pz qs))∧lV (w4.alloc (.cells #[.int .i64 0,.int .i64 0,.bool false,.string (ba x),.int .i64 ((i:Int)+(X.pz qs:Int))] 280)) D ab (i+X.pz t)∧Kq D ab ab w (w4.alloc (.cells #[.int .i64 0,.int .i64 0,.bool false,.string (ba x),.int .i64 ((i:Int)+(X.pz qs:Int))] 280))):=⟨.var _ _ ⟨hs4,by simp⟩ (by rw[mr];exact aB w4 _),(K4.o).1.below kB,(K4.o).2.more kB hal⟩;clear HC X4 HT K4 kB;go_wp2_with fail
 go_ret;exact⟨_,rfl,HFin⟩
theorem RJ(D:Nat→Prop)(ab:Nat)(a4:Option Addr)(a5 a6:Nat)(t qs:List X.Part)(k u:Nat)(x:ah)(i:Nat)(w:World)(hp:lV w D ab i)(hk:qz w D (.slice a4 a5 a6) t)(hg:X.Gd t)(hd:¬ D ab)(hk2:15≤k∧k≤17)(ht:X.y9 t u x qs)(hpl:t.length≤268435456)(hi:i+X.pz t≤1073741824)(hDl:∀ q,D q→q<w.heap.size) :
  Calls prog 84 #[.agg #[.pointer (some ⟨ab,0,none⟩),.slice a4 a5 a6],.int .i64 k] w fun en w'=>∃ v,en=.returned v∧Hid (gJ w' w.heap.size w'.heap.size v (.lit k x)∧lV w' D ab (i+X.pz t)∧Kq D ab ab w w'):=by
 have HT:=au (pJ hp hk hg hd hDl);have hsz:=(HT.o).sz;have hal:=(HT.o).lt;have hin:=(HT.o).inn;rw[← aJ t] at hin;have HC:=au (gy D w.heap.size ab t qs _ [] i _ hin ht.AR (by rw[aJ];exact hi) (by rw[aJ];omega) (HT.o).dl);have hfl:=GA;clear ht hin;have n1:((k:Int)==1)=false:=by simp;omega
 have n7:((k:Int)==7)=false:=by simp;omega
 have n8:((k:Int)==8)=false:=by simp;omega
 have n9:((k:Int)==9)=false:=by simp;omega
 have n10:((k:Int)==10)=false:=by simp;omega
 have n11:((k:Int)==11)=false:=by simp;omega
 have n13:((k:Int)==13)=false:=by simp;omega
 have n14:((k:Int)==14)=false:=by simp;omega
 have n18:((k:Int)==18)=false:=by simp;omega
 have n19:((k:Int)==19)=false:=by simp;omega
 clear hp hk hg hd hDl;go_enter func84,ntmps84;go_wp2_with fail
 refine(HC.o).mono ?_;rintro en w4 ⟨f4,f5,f6,rfl,X4⟩;have hnt:X.AQ (.leaf u x)=x:=rfl;rw[hnt];have K4:Hid (lV w4 D ab (i+X.pz t)∧Kq D ab ab w w4):=(HT.o).o w4 [] _ (X4.o).1 (X4.o).2;have hs4:=(K4.o).2.size;have kB:Below w4.heap.size w4 (w4.alloc (.cells #[.int .i64 0,.int .i64 0,.bool false,.int .i64 k,.string (ba x)] 284)):=(ay _ w4).alloc (aj _) _;have HFin:Hid (gJ (w4.alloc (.cells #[.int .i64 0,.int .i64 0,.bool false,.int .i64 k,.string (ba x)] 284)) w.heap.size (w4.alloc (.cells #[.int .i64 0,.int .i64 0,.bool false,.int .i64 k,.string (ba x)] 284)).heap.size (.iface 223 (.pointer (some ⟨w4.heap.size,0,none⟩))) (.lit k x)∧lV (w4.alloc (.cells #[.int .i64 0,.int .i64 0,.bool false,.int .i64 k,.string (ba x)] 284)) D ab (i+X.pz t)∧Kq D ab ab w (w4.alloc (.cells #[.int .i64 0,.int .i64 0,.bool false,.int .i64 k,.string (ba x)] 284))):=⟨.lit _ k x ⟨hs4,by simp⟩ (aB w4 _),(K4.o).1.below kB,(K4.o).2.more kB hal⟩;clear HC X4 HT K4 kB;go_wp2_with fail
 go_ret;exact⟨_,rfl,HFin⟩
theorem Nr(D:Nat→Prop)(ab:Nat)(a4:Option Addr)(a5 a6:Nat)(qs:List X.Part)(es:List X.Ex)(i:Nat)(w:World)(hp:lV w D ab i)(hk:qz w D (.slice a4 a5 a6) qs)(hg:X.Gd qs)(hd:¬ D ab)(hr0:X.lW qs i es)(HE:∀ p∈qs,oH p)(AU:qs.length≤268435456)(hi:i+X.pz qs≤1073741824)(hDl:∀ q,D q→q<w.heap.size) :
  Calls prog 84 #[.agg #[.pointer (some ⟨ab,0,none⟩),.slice a4 a5 a6],.int .i64 13] w fun en w'=>∃ v,en=.returned v∧Hid (gJ w' w.heap.size w'.heap.size v (.list es)∧lV w' D ab (i+X.pz qs)∧Kq D ab ab w w'):=by
 have HT:=au (pJ hp hk hg hd hDl);have hsz:=(HT.o).sz;have hal:=(HT.o).lt;have hel:=j6 qs hr0;have HC:=au (kg D w.heap.size ab qs es i _ (HT.o).inn hr0 HE hi AU (by omega) (HT.o).dl);clear hr0 HE;clear hp hk hg hd hDl;go_enter func84,ntmps84;go_wp2_with fail
 refine(HC.o).mono ?_;rintro en w4 ⟨rv,rfl,X4⟩;obtain⟨ao,cp,vs,Ut,hq1,hq2,hrr,hpp⟩:=(X4.o).1.ex;subst Ut;have K4:Hid (lV w4 D ab (i+X.pz qs)∧Kq D ab ab w w4):=(HT.o).o w4 [] _ (X4.o).2.1 (X4.o).2.2;have hs4:=(K4.o).2.size;have kB:Below w4.heap.size w4 (w4.alloc (.cells #[.int .i64 0,.int .i64 0,.bool false,.slice ao es.length cp] 252)):=(ay _ w4).alloc (aj _) _;have HFin:Hid (gJ (w4.alloc (.cells #[.int .i64 0,.int .i64 0,.bool false,.slice ao es.length cp] 252)) w.heap.size (w4.alloc (.cells #[.int .i64 0,.int .i64 0,.bool false,.slice ao es.length cp] 252)).heap.size (.iface 250 (.pointer (some ⟨w4.heap.size,0,none⟩))) (.list es)∧lV (w4.alloc (.cells #[.int .i64 0,.int .i64 0,.bool false,.slice ao es.length cp] 252)) D ab (i+X.pz qs)∧Kq D ab ab w (w4.alloc (.cells #[.int .i64 0,.int .i64 0,.bool false,.slice ao es.length cp] 252))):=⟨.list _ ao cp vs es ⟨hs4,by simp⟩ (aB w4 _) ⟨hq1,hq2⟩ (fun j hj=>by obtain⟨q,e1,e2,e3,e4,c,f,e5⟩:=hrr j hj;exact⟨q,e1,by omega,by simp;omega,(Kp.aI kB (fun _=>False)).dY e4 id,c,f,(Kp.aI kB (fun _=>False)).heap e5 id⟩) (fun j e' hj=>((hpp j e' hj).keep (Kp.aI kB (fun _=>False)) (fun _ _ _=>id)).wide (by omega) (by simp)),(K4.o).1.below kB,(K4.o).2.more kB hal⟩;clear HC X4 HT K4 kB hrr hpp;go_wp2_with fail
 go_ret;exact⟨_,rfl,HFin⟩
theorem JO(D:Nat→Prop)(ab:Nat)(a4:Option Addr)(a5 a6:Nat)(qs:List X.Part)(e:X.Ex)(i:Nat)(w:World)(hp:lV w D ab i)(hk:qz w D (.slice a4 a5 a6) qs)(hg:X.Gd qs)(hd:¬ D ab)(hr0:X.lW qs i [e])(HE:∀ p∈qs,oH p)(AU:qs.length≤268435456)(hi:i+X.pz qs≤1073741824)(hDl:∀ q,D q→q<w.heap.size) :
  Calls prog 84 #[.agg #[.pointer (some ⟨ab,0,none⟩),.slice a4 a5 a6],.int .i64 14] w fun en w'=>∃ v,en=.returned v∧Hid (gJ w' w.heap.size w'.heap.size v (.group e)∧lV w' D ab (i+X.pz qs)∧Kq D ab ab w w'):=by
 have HT:=au (pJ hp hk hg hd hDl);have hsz:=(HT.o).sz;have hal:=(HT.o).lt;have hel:=j6 qs hr0;have HC:=au (kg D w.heap.size ab qs [e] i _ (HT.o).inn hr0 HE hi AU (by omega) (HT.o).dl);clear hr0 HE;clear hp hk hg hd hDl;go_enter func84,ntmps84;go_wp2_with fail
 refine(HC.o).mono ?_;rintro en w4 ⟨rv,rfl,X4⟩;obtain⟨ao,cp,vs,Ut,hq1,hq2,hrr,hpp⟩:=(X4.o).1.ex;subst Ut;obtain⟨q,rfl,e2,e3,e4,-⟩:=hrr 0 (by simp);have hx:=hpp 0 e rfl;obtain⟨y1,g1,hv1⟩:=hx.iface;rw[hv1] at hx e4;have K4:Hid (lV w4 D ab (i+X.pz qs)∧Kq D ab ab w w4):=(HT.o).o w4 [] _ (X4.o).2.1 (X4.o).2.2;have hs4:=(K4.o).2.size;have kB:Below w4.heap.size w4 (w4.alloc (.cells #[.int .i64 0,.int .i64 0,.bool false,.iface y1 (.pointer (some ⟨g1,0,none⟩))] 256)):=(ay _ w4).alloc (aj _) _;have HFin:Hid (gJ (w4.alloc (.cells #[.int .i64 0,.int .i64 0,.bool false,.iface y1 (.pointer (some ⟨g1,0,none⟩))] 256)) w.heap.size (w4.alloc (.cells #[.int .i64 0,.int .i64 0,.bool false,.iface y1 (.pointer (some ⟨g1,0,none⟩))] 256)).heap.size (.iface 254 (.pointer (some ⟨w4.heap.size,0,none⟩))) (.group e)∧lV (w4.alloc (.cells #[.int .i64 0,.int .i64 0,.bool false,.iface y1 (.pointer (some ⟨g1,0,none⟩))] 256)) D ab (i+X.pz qs)∧Kq D ab ab w (w4.alloc (.cells #[.int .i64 0,.int .i64 0,.bool false,.iface y1 (.pointer (some ⟨g1,0,none⟩))] 256))):=⟨.group _ _ e ⟨hs4,by simp⟩ (aB w4 _) ((hx.keep (Kp.aI kB (fun _=>False)) (fun _ _ _=>id)).wide (by omega) (by simp)),(K4.o).1.below kB,(K4.o).2.more kB hal⟩;clear HC X4 HT K4 kB hrr hpp hx;go_wp2_with fail
 go_ret;exact⟨_,rfl,HFin⟩
theorem RL(D:Nat→Prop)(ab:Nat)(a4:Option Addr)(a5 a6:Nat)(qs:List X.Part)(e1 e2 e3:X.Ex)(i:Nat)(w:World)(hp:lV w D ab i)(hk:qz w D (.slice a4 a5 a6) qs)(hg:X.Gd qs)(hd:¬ D ab)(hr0:X.lW qs i [e1,e2,e3])(HE:∀ p∈qs,oH p)(AU:qs.length≤268435456)(hi:i+X.pz qs≤1073741824)(hDl:∀ q,D q→q<w.heap.size) :
  Calls prog 84 #[.agg #[.pointer (some ⟨ab,0,none⟩),.slice a4 a5 a6],.int .i64 8] w fun en w'=>∃ v,en=.returned v∧Hid (gJ w' w.heap.size w'.heap.size v (.ite e1 e2 e3)∧lV w' D ab (i+X.pz qs)∧Kq D ab ab w w'):=by
 have HT:=au (pJ hp hk hg hd hDl);have hsz:=(HT.o).sz;have hal:=(HT.o).lt;have hel:=j6 qs hr0;have HC:=au (kg D w.heap.size ab qs [e1,e2,e3] i _ (HT.o).inn hr0 HE hi AU (by omega) (HT.o).dl);clear hr0 HE;clear hp hk hg hd hDl;go_enter func84,ntmps84;go_wp2_with fail
 refine(HC.o).mono ?_;rintro en w4 ⟨rv,rfl,X4⟩;obtain⟨ao,cp,vs,Ut,hq1,hq2,hrr,hpp⟩:=(X4.o).1.ex;subst Ut;obtain⟨q,rfl,b2,b3,b4,-⟩:=hrr 0 (by simp);obtain⟨q',hq',-,-,b5,-⟩:=hrr 1 (by simp);obtain⟨q'',bF1,-,-,b6,-⟩:=hrr 2 (by simp);cases hq'
 cases bF1
 have hx:=hpp 0 e1 rfl;have hx2:=hpp 1 e2 rfl;have hx3:=hpp 2 e3 rfl;obtain⟨y1,g1,hv1⟩:=hx.iface;obtain⟨y2,g2,hv2⟩:=hx2.iface;obtain⟨y3,g3,hv3⟩:=hx3.iface;rw[hv1] at hx b4;rw[hv2] at hx2 b5;rw[hv3] at hx3 b6;have K4:Hid (lV w4 D ab (i+X.pz qs)∧Kq D ab ab w w4):=(HT.o).o w4 [] _ (X4.o).2.1 (X4.o).2.2;have hs4:=(K4.o).2.size;have kB:Below w4.heap.size w4 (w4.alloc (.cells #[.int .i64 0,.int .i64 0,.bool false,.iface y1 (.pointer (some ⟨g1,0,none⟩)),.iface y2 (.pointer (some ⟨g2,0,none⟩)),.iface y3 (.pointer (some ⟨g3,0,none⟩))] 275)):=(ay _ w4).alloc (aj _) _;have HFin:Hid (gJ (w4.alloc (.cells #[.int .i64 0,.int .i64 0,.bool false,.iface y1 (.pointer (some ⟨g1,0,none⟩)),.iface y2 (.pointer (some ⟨g2,0,none⟩)),.iface y3 (.pointer (some ⟨g3,0,none⟩))] 275)) w.heap.size (w4.alloc (.cells #[.int .i64 0,.int .i64 0,.bool false,.iface y1 (.pointer (some ⟨g1,0,none⟩)),.iface y2 (.pointer (some ⟨g2,0,none⟩)),.iface y3 (.pointer (some ⟨g3,0,none⟩))] 275)).heap.size (.iface 232 (.pointer (some ⟨w4.heap.size,0,none⟩))) (.ite e1 e2 e3)∧lV (w4.alloc (.cells #[.int .i64 0,.int .i64 0,.bool false,.iface y1 (.pointer (some ⟨g1,0,none⟩)),.iface y2 (.pointer (some ⟨g2,0,none⟩)),.iface y3 (.pointer (some ⟨g3,0,none⟩))] 275)) D ab (i+X.pz qs)∧Kq D ab ab w (w4.alloc (.cells #[.int .i64 0,.int .i64 0,.bool false,.iface y1 (.pointer (some ⟨g1,0,none⟩)),.iface y2 (.pointer (some ⟨g2,0,none⟩)),.iface y3 (.pointer (some ⟨g3,0,none⟩))] 275))):=⟨.ite _ _ _ _ e1 e2 e3 ⟨hs4,by simp⟩ (aB w4 _) ((hx.keep (Kp.aI kB (fun _=>False)) (fun _ _ _=>id)).wide (by omega) (by simp)) ((hx2.keep (Kp.aI kB (fun _=>False)) (fun _ _ _=>id)).wide (by omega) (by simp)) ((hx3.keep (Kp.aI kB (fun _=>False)) (fun _ _ _=>id)).wide (by omega) (by simp)),(K4.o).1.below kB,(K4.o).2.more kB hal⟩;clear HC X4 HT K4 hrr hpp hx hx2 hx3;have b4':w4.cell? ⟨q,0,none⟩=some (.iface y1 (.pointer (some ⟨g1,0,none⟩))):=b4;have b5':w4.cell? ⟨q,1,none⟩=some (.iface y2 (.pointer (some ⟨g2,0,none⟩))):=b5;have b6':w4.cell? ⟨q,2,none⟩=some (.iface y3 (.pointer (some ⟨g3,0,none⟩))):=b6;have hq4:q<w4.heap.size:=bG _ _ b4';clear b4 b5 b6;go_wp2_with fail
 go_region_held3 (fun w'=>w'.cell? ⟨q,0,none⟩=some (.iface y1 (.pointer (some ⟨g1,0,none⟩)))∧w'.cell? ⟨q,1,none⟩=some (.iface y2 (.pointer (some ⟨g2,0,none⟩)))∧w'.cell? ⟨q,2,none⟩=some (.iface y3 (.pointer (some ⟨g3,0,none⟩))))
  (first|(with_reducible exact⟨b4',b5',b6'⟩)|(with_reducible exact⟨Lib.cell?_alloc_some _ b4',Lib.cell?_alloc_some _ b5',Lib.cell?_alloc_some _ b6'⟩)|go_keep)
  (fail)
 go_wp2_with fail
 go_ret;have kD:=(ay (w4.alloc (.cells #[.int .i64 0,.int .i64 0,.bool false,.iface y1 (.pointer (some ⟨g1,0,none⟩)),.iface y2 (.pointer (some ⟨g2,0,none⟩)),.iface y3 (.pointer (some ⟨g3,0,none⟩))] 275)).heap.size (w4.alloc (.cells #[.int .i64 0,.int .i64 0,.bool false,.iface y1 (.pointer (some ⟨g1,0,none⟩)),.iface y2 (.pointer (some ⟨g2,0,none⟩)),.iface y3 (.pointer (some ⟨g3,0,none⟩))] 275))).drew;exact⟨_,rfl,((HFin.o).1.keep (Kp.aI kD (fun _=>False)) (fun _ _ _=>id)),(HFin.o).2.1.below kD,(HFin.o).2.2.more kD hal⟩
theorem Er(D:Nat→Prop)(ab:Nat)(a4:Option Addr)(a5 a6:Nat)  (i:Nat)(w:World)(hp:lV w D ab i)(hk:qz w D (.slice a4 a5 a6) [])(hg:X.Gd [])(hd:¬ D ab)  (_hi:i+X.pz []≤1073741824)(hDl:∀ q,D q→q<w.heap.size) :
  Calls prog 84 #[.agg #[.pointer (some ⟨ab,0,none⟩),.slice a4 a5 a6],.int .i64 1] w fun en w'=>∃ v,en=.returned v∧Hid (gJ w' w.heap.size w'.heap.size v .missing∧lV w' D ab (i+X.pz [])∧Kq D ab ab w w'):=by
 have HT:=au (pJ hp hk hg hd hDl);have hsz:=(HT.o).sz;have hal:=(HT.o).lt;clear hp hk hg hd hDl;go_enter func84,ntmps84;have HFin:Hid (∀ W b,W.heap.size=b→lV W D ab i∧Kq D ab ab w W→gJ (W.alloc (.cells #[.int .i64 0,.int .i64 0,.bool false] 271)) w.heap.size (W.alloc (.cells #[.int .i64 0,.int .i64 0,.bool false] 271)).heap.size (.iface 269 (.pointer (some ⟨b,0,none⟩))) .missing∧lV (W.alloc (.cells #[.int .i64 0,.int .i64 0,.bool false] 271)) D ab (i+X.pz [])∧Kq D ab ab w (W.alloc (.cells #[.int .i64 0,.int .i64 0,.bool false] 271))):=fun W b hb hK=>by
  subst hb;have hs4:=hK.2.size;have kB:Below W.heap.size W (W.alloc (.cells #[.int .i64 0,.int .i64 0,.bool false] 271)):=(ay _ W).alloc (aj _) _;exact⟨.missing _ ⟨hs4,by simp⟩ (aB W _),hK.1.below kB,hK.2.more kB hal⟩
 have K4:=au ((HT.o).o _ [] i (HT.o).inn (Kq.refl _ _ _ _));clear HT;go_wp2_with fail
 go_ret;exact⟨_,rfl,au ((HFin.o) _ _ (by simp) K4.o)⟩
end
section
open Tryz
variable{b:Nat}{W w:World}{e:X.Ex}{p:X.Part}
theorem Ll{fn:Func}{t:Tmp}(h:fn.results=#[.cell t 215])(tmps:Array Value)(W:World){a1 a2:Int}{a3:Bool}(ht:tmps[t]?.getD undef=.pointer (some ⟨b,0,none⟩))(hb:W.heap[b]?=some (.cells #[.int .i64 a1,.int .i64 a2,.bool a3] 215 (0,0))) :
  (results fn tmps).run prog W=.ok (.agg #[.int .i64 a1,.int .i64 a2,.bool a3]) W:=by
 have m0:=ai W _ 0 _ _ _ hb;have m1:=ai W _ 1 _ _ _ hb;have m2:=ai W _ 2 _ _ _ hb;simp[results,h,go_sem,ht,m0,m1,m2]
theorem GI{x0 x1 x2 y0 y1 y2:Value}{t:TypeId}(h:W.heap[b]?=some (.cells #[y0,y1,y2] t (0,0))):(((W.setCell ⟨b,0,none⟩ x0).setCell ⟨b,1,none⟩ x1).setCell ⟨b,2,none⟩ x2).heap[b]?=some (.cells #[x0,x1,x2] t (0,0)):=by
 simp[World.setCell,aK,h]
theorem Aw(h:Below w.heap.size w W)(hb:w.heap.size≤b)(x0 x1 x2:Value):Below w.heap.size w (((W.setCell ⟨b,0,none⟩ x0).setCell ⟨b,1,none⟩ x1).setCell ⟨b,2,none⟩ x2):=by
 have hk:Kp (fun q=>q=b) W (((W.setCell ⟨b,0,none⟩ x0).setCell ⟨b,1,none⟩ x1).setCell ⟨b,2,none⟩ x2):=On.set (On.set (On.set (Kp.refl _ W) 0 _) 1 _) 2 _;exact h.trans (hk.below h.size (fun k e=>by omega))
theorem JR(D:Nat→Prop)(ab i t:Nat)(gz:Int)(w:World)(h:lV w D ab i)(ht:t≤Ri ab w) :
  Calls prog 85 #[.pointer (some ⟨ab,0,none⟩),.int .i64 t,.int .i64 gz] w fun e w'=>∃(a1 a2:Int) (a3:Bool),e=.returned (.agg #[.int .i64 a1,.int .i64 a2,.bool a3])∧Below w.heap.size w w':=by
 obtain⟨bv,bl,en,gp,hp,ho,hl,-⟩:=h.ex;obtain⟨bo,bc,rfl,TG⟩:=rE ho;rw[uL hp] at ht;have hal:=aP hp;have kA:Below w.heap.size w (w.alloc (.cells #[.int .i64 0,.int .i64 0,.bool false] 215)):=(ay _ w).alloc (aj _) _;have hZ:=aB w (.cells #[.int .i64 0,.int .i64 0,.bool false] 215);have oM:=au kA;have hp1:=(Kp.aI kA (fun _=>False)).heap hp id;have ho1:=(Kp.aI kA (fun _=>False)).owns ho (fun _ _=>id);clear h hp ho kA;go_enter func85,ntmps85
 go_upto_region 1 with fail
 generalize w.alloc (.cells #[.int .i64 0,.int .i64 0,.bool false] 215)=W at *;have c1:=ai W _ 1 _ _ _ hp1;have c2:=ai W _ 2 _ _ _ hp1;have c3:=ai W _ 3 _ _ _ hp1;have e0:W.cell? ⟨w.heap.size,0,none⟩=some (.int .i64 0):=ai W _ 0 _ _ _ hZ;have e1:W.cell? ⟨w.heap.size,1,none⟩=some (.int .i64 0):=ai W _ 1 _ _ _ hZ;have e2:W.cell? ⟨w.heap.size,2,none⟩=some (.bool false):=ai W _ 2 _ _ _ hZ;have q0:=mW hZ 0;have q1:=mW hZ 1;have q2:=mW hZ 2;have HZ:=au hZ;clear hp1 hZ;by_cases he:bl.length=t
 ·subst he
  clear ho1 ht;go_wp2_with fail
  exact bI (Ll rfl _ _ (b:=w.heap.size) rfl (GI HZ.o)) rfl ⟨_,_,_,rfl,Aw oM.o (aj _) _ _ _⟩
 ·have i1:((bl.length:Int)==(t:Int))=false:=by simp;omega
  have hlt:t<bl.length:=by omega
  have hlt2:(t:Int)<(bl.length:Int):=by omega
  obtain⟨b,hb⟩:∃ b,bl[t]?=some b:=⟨_,aC hlt⟩;have Ii:∃ g,bo=some ⟨g,0,none⟩∧W.cell? ⟨g,t,none⟩=some (.int .i64 b):=by
   have hc:=fun g hg=>ho1.cells (g:=g) hg
   rcases ho1.2 with ⟨e,h0⟩|⟨g,cap,cur,e,-⟩
   ·omega
   ·injection e with e1 e2 e3
    subst e1;refine⟨g,rfl,?_⟩;have:=hc g rfl t (.int .i64 b) (by rw[mQ,hb];rfl)
    rwa[fe,cu] at this
  obtain⟨g,rfl,hcg⟩:=Ii;clear ho1 hb;go_wp2_with fail
  go_region
  go_wp2_with fail
  have kD:Below w.heap.size w W.drew:=(oM.o).trans ((ay _ W).drew.mono (oM.o).size);exact bI (Ll rfl _ _ (b:=w.heap.size) rfl (GI (show W.drew.heap[w.heap.size]?=_ from HZ.o))) rfl ⟨_,_,_,rfl,Aw kD (aj _) _ _ _⟩
theorem JU(b:Nat)(m n m' n':Int)(z z':Bool)(r:List Value)(T:TypeId)(w:World)(hb:w.heap[b]?=some (.cells (List.toArray (.int .i64 m::.int .i64 n::.bool z::r)) T (0,0))) :
  Calls prog 231 #[.pointer (some ⟨b,0,none⟩),.agg #[.int .i64 m',.int .i64 n',.bool z']] w fun e w'=>e=.returned (.tuple #[])∧Below (((w.setCell ⟨b,0,none⟩ (.int .i64 m')).setCell ⟨b,1,none⟩ (.int .i64 n')).setCell ⟨b,2,none⟩ (.bool z')).heap.size (((w.setCell ⟨b,0,none⟩ (.int .i64 m')).setCell ⟨b,1,none⟩ (.int .i64 n')).setCell ⟨b,2,none⟩ (.bool z')) w':=by
 have c0:w.cell? ⟨b,0,none⟩=some (.int .i64 m):=ai w _ 0 _ _ _ hb;have c1:w.cell? ⟨b,1,none⟩=some (.int .i64 n):=ai w _ 1 _ _ _ hb;have c2:w.cell? ⟨b,2,none⟩=some (.bool z):=ai w _ 2 _ _ _ hb;have f0:=mW hb 0;have f1:=mW hb 1;have f2:=mW hb 2;have hl:=aP hb;have hn:¬ b=w.heap.size:=by omega
 clear hb;go_enter func231,ntmps231;go_wp2_with fail
 go_end0;exact⟨rfl,(ay _ _).alloc (aj _) _⟩
def bF3(p:X.Part):Prop:=∀(e:X.Ex) (i:Nat) (D:Nat→Prop) (ab:Nat) (a4:Option Addr) (a5 a6:Nat) (w:World),X.Rd p i e→lV w D ab i→qz w D (.slice a4 a5 a6) (X.kids p)→X.Gd (X.kids p)→¬ D ab→i+X.pz [p]≤1073741824→(∀ q,D q→q<w.heap.size) →
 Calls prog 84 #[.agg #[.pointer (some ⟨ab,0,none⟩),.slice a4 a5 a6],.int .i64 (X.nk p)] w fun en w'=>∃ v,en=.returned v∧Hid (gJ w' w.heap.size w'.heap.size v e∧lV w' D ab (i+X.pz [p])∧Kq D ab ab w w')
theorem gJ.top{lo hi:Nat}{v:Value}(h:gJ w lo hi v e):∃ ty b T m n z r,v=.iface ty (.pointer (some ⟨b,0,none⟩))∧lo≤b∧b<hi∧w.heap[b]?=some (.cells (List.toArray (.int .i64 m::.int .i64 n::.bool z::r)) T (0,0))∧(T≠72∧T≠66∧T≠185)∧T≠3 ∧
  (ty=223∨ty=281∨ty=269∨ty=228∨ty=230∨ty=232∨ty=234∨ty=238∨ty=243∨ty=250∨ty=254):=by
 cases h with
 | lit b k x hb h=>exact⟨_,b,_,_,_,_,_,rfl,hb.1,hb.2,h,by decide,by decide,by simp⟩
 | hole b i hb h=>exact⟨_,b,_,_,_,_,_,rfl,hb.1,hb.2,h,by decide,by decide,by simp⟩
 | missing b hb h=>exact⟨_,b,_,_,_,_,_,rfl,hb.1,hb.2,h,by decide,by decide,by simp⟩
 | var b n hb h=>exact⟨_,b,_,_,_,_,_,rfl,hb.1,hb.2,h,by decide,by decide,by simp⟩
 | iJ b n v1 v2 e1 e2 hb h h1 h2=>exact⟨_,b,_,_,_,_,_,rfl,hb.1,hb.2,h,by decide,by decide,by simp⟩
 | ite b v1 v2 v3 e1 e2 e3 hb h h1 h2 h3=>exact⟨_,b,_,_,_,_,_,rfl,hb.1,hb.2,h,by decide,by decide,by simp⟩
 | fn b pb ns v e hb h hp h1=>exact⟨_,b,_,_,_,_,_,rfl,hb.1,hb.2,h,by decide,by decide,by simp⟩
 | bin b v1 v2 x e1 e2 hb h h1 h2=>exact⟨_,b,_,_,_,_,_,rfl,hb.1,hb.2,h,by decide,by decide,by simp⟩
 | call b v e ao cap vs es hb h hc h1 hr hp=>exact⟨_,b,_,_,_,_,_,rfl,hb.1,hb.2,h,by decide,by decide,by simp⟩
 | list b ao cap vs es hb h hc hr hp=>exact⟨_,b,_,_,_,_,_,rfl,hb.1,hb.2,h,by decide,by decide,by simp⟩
 | group b v e hb h h1=>exact⟨_,b,_,_,_,_,_,rfl,hb.1,hb.2,h,by decide,by decide,by simp⟩
theorem Zl{i:Nat}(h:X.Rd p i e):X.Ij p=0:=by cases h<;>rfl
theorem RN:X.Gd []:=by
 constructor
 ·intro t ht
  rw[X.r9] at ht;cases ht
 ·rw[X.iR]
  trivial
theorem VH{ps:List X.Part}(h:X.Gd (p::ps)):X.Gd (X.kids p):=by
 cases p with
 | leaf k x=>exact RN
 | miss m=>exact RN
 | br k qs=>exact h.br.2
theorem VI(p:X.Part)(H:bF3 p):oH p:=by
 intro e i D rb ab ps w hrd hw hi hDl;obtain⟨v0,hb0,hn0⟩:=hw.blk;have r0:=ai w _ 0 _ _ _ hb0;have r1:=ai w _ 1 _ _ _ hb0;obtain⟨g,o,cap,kv,rfl,hD,y0,y1,y2,y3,hkk,-,hc1,hc2,-,-⟩:=hn0.head;obtain⟨bv,bl,en,gp,hps,hos,-⟩:=hw.Ar.ex;obtain⟨bo,bc,rfl,TG⟩:=rE hos;have c1:=ai w _ 1 _ _ _ hps;have c3:=ai w _ 3 _ _ _ hps;have hnb:=au (uL hps);obtain⟨hrl,hal⟩:=hw.lt;have hsep:=hw.sep;have hgk:=au (VH hw.Ik);have hln:=Zl hrd;have hi1:(0:Int)<((ps.length+1:Nat):Int):=by omega
 have hi2:0<ps.length+1:=by omega
 have HW:=au hw;have mI:=au hDl;clear hb0 hn0 hkk hps hos hDl y1 y2 y3 hw;go_enter func57,ntmps57;go_wp2_with fail
 go_quiet (fail)
 have kN:Below w.heap.size w (w.drewN nq):=sG (ay _ w) nq;have kp:=Kp.aI kN (fun _=>False)
 replace r0:=kp.dY (p:=⟨rb,0,none⟩) r0 id
 replace r1:=kp.dY (p:=⟨rb,1,none⟩) r1 id
 replace y0:=kp.dY (p:=⟨g,o,none⟩) y0 id
 have HN:Hid (Below w.heap.size w (w.drewN nq)):=kN;have yU:=au (nA D rb ab p ps i (w.drewN nq) ((HW.o).below kN) (by omega) (fun q hq=>aH ((mI.o) q hq) kN.size));clear kN kp c1 c3;generalize w.drewN nq=W1 at *;go_wp2_with fail
 refine(yU.o).mono ?_;rintro en2 w2 ⟨a4,a5,a6,rfl,X2⟩;have hK2:Hid (Kq D rb ab w w2):=(Kq.aI HN.o hal).trans (X2.o).2.2;have hl2:=(hK2.o).size;have HC:=au (H e i D ab a4 a5 a6 w2 hrd (by have:=(X2.o).2.1.Ar;rw[hln] at this;exact this) (X2.o).1 hgk.o hsep.2.2 hi (fun q hq=>aH ((mI.o) q hq) hl2));have HR2:=au (X2.o).2.1;clear yU X2 r0 r1 y0 HN;go_wp2_with fail
 refine(HC.o).mono ?_;rintro en3 w3 ⟨v,rfl,X3⟩;obtain⟨ty,b,T,m,n,z,r,rfl,hb1,hb2,hbb,hT1,A8,hty⟩:=(X3.o).1.top;have hK3:Hid (Kq D rb ab w w3):=(hK2.o).trans (X3.o).2.2.wide;have Tt:cO w3 D rb ab ps (i+X.pz [p]):=(HR2.o).counted (X3.o).2.1 (X3.o).2.2;obtain⟨v3,hb3,-⟩:=Tt.blk;have r0:=ai w3 _ 0 _ _ _ hb3;have HR3:=au Tt;have HB:=au hbb;have hl3:=(hK3.o).size;have Zm:Hid (lV w3 D ab (i+X.pz [p])∧bl.length≤Ri ab w3):=⟨(X3.o).2.1,by have:=(hK3.o).le;rw[hnb.o] at this;exact this⟩;have HE3:=au (X3.o).1;clear HC HR2 hbb Tt hb3 X3;go_wp2_with fail
 refine bH (S:=fun w'=>w'.cell? ⟨rb,0,none⟩=some (.pointer (some ⟨ab,0,none⟩))) (z:=12) (by kernel_rfl) ?_;have hS:w3.drew.cell? ⟨rb,0,none⟩=some (.pointer (some ⟨ab,0,none⟩)):=r0;have hna : ∀ wx, (nilAhead 517 ty (.pointer (some ⟨b, 0, none⟩)) "amanuensis/syntax.stand").run Tryz.prog wx = .ok (some false) wx := by
  intro wx;rcases hty with rfl|rfl|rfl|rfl|rfl|rfl|rfl|rfl|rfl|rfl|rfl<;>kernel_rfl
 have hmt : ∀ wx, (method 517 ty (.pointer (some ⟨b, 0, none⟩)) "amanuensis/syntax.stand").run Tryz.prog wx = .ok (231, .pointer (some ⟨b, 0, none⟩)) wx := by
  intro wx;rcases hty with rfl|rfl|rfl|rfl|rfl|rfl|rfl|rfl|rfl|rfl|rfl<;>kernel_rfl
 iterate 7(refine ou hS ?_;simp only[Act.put,ax,aD,aF])
 (refine Es 8 hS ?_;simp only[Act.put,ax,aD,aF])
 (refine Es 9 hS ?_;simp only[Act.put,ax,aD,aF])
 (refine Es 10 hS ?_;simp only[Act.put,ax,aD,aF])
 refine bD 7 fun K hK=>?_;go_simp;refine(JR D ab (i+X.pz [p]) bl.length gp w3.drew ((Zm.o).1.below (Below.refl _ w3).drew) (Zm.o).2).mono ?_;rintro en4 w4 ⟨s1,s2,s3,rfl,k4⟩;have TT:Below w3.heap.size w3 w4:=(Below.refl _ w3).drew.trans k4;have kp4:=Kp.aI TT (fun _=>False);have r4:=kp4.dY (p:=⟨rb,0,none⟩) r0 id;dsimp only;refine hK.o _ _ (fun _=>r4) (fun hS2=>?_);clear hK K hS hS2 r0
 try simp only[Act.put,ax,aD,aF]
 refine bD 11 fun K hK=>?_;have hB4:=kp4.heap HB.o id;have XK:=au (JU b m n s1 s2 z s3 r T w4 hB4);go_simp;refine(XK.o).mono ?_;rintro en5 w5 ⟨rfl,k5⟩;have hbw:w.heap.size≤b:=bS hl2 hb1;have hs4:=TT.size;have Tv:=(HR3.o).below TT;have hK4:=(hK3.o).more TT hal;have ZO:=((HE3.o).keep kp4 (fun _ _ _=>id)).stood hB4 hT1 s1 s2 s3;have hkS:Kp (fun q=>q=b) w4 (((w4.setCell ⟨b,0,none⟩ (.int .i64 s1)).setCell ⟨b,1,none⟩ (.int .i64 s2)).setCell ⟨b,2,none⟩ (.bool s3)):=On.set (On.set (On.set (Kp.refl _ w4) 0 _) 1 _) 2 _;have hss:=k5.size;have hzz:(((w4.setCell ⟨b,0,none⟩ (.int .i64 s1)).setCell ⟨b,1,none⟩ (.int .i64 s2)).setCell ⟨b,2,none⟩ (.bool s3)).heap.size=w4.heap.size:=by simp[World.setCell]
 have hRS:=Tv.on hkS hB4 A8 (by omega) (by omega) (fun hd=>by have:=(mI.o) _ hd;omega);have hKS:Kq D rb ab w (((w4.setCell ⟨b,0,none⟩ (.int .i64 s1)).setCell ⟨b,1,none⟩ (.int .i64 s2)).setCell ⟨b,2,none⟩ (.bool s3)):=((hK4.set hal hbw 0 (.int .i64 s1)).set hal hbw 1 (.int .i64 s2)).set hal hbw 2 (.bool s3);have HFin:Hid (gJ w5 w.heap.size w5.heap.size (.iface ty (.pointer (some ⟨b,0,none⟩))) e∧cO w5 D rb ab ps (i+X.pz [p])∧Kq D rb ab w w5):=⟨((ZO.keep (Kp.aI k5 (fun _=>False)) (fun _ _ _=>id)).wide hl2 (by omega)),hRS.below k5,hKS.more k5 hal⟩;obtain⟨v5,hb5,-⟩:=(HFin.o).2.1.blk;have r5:=cell_of_row w5 _ 0 _ _ _ hb5;dsimp only;refine hK.o _ _ (fun _=>r5) (fun _=>fB ?_);clear hK K hb5 r5 hKS hRS hkS ZO hK4 Tv k5 TT kp4 r4 XK hB4 hss hzz hna hmt HB HE3 HR3 Zm hK3;go_wp2_with fail
 go_ret;exact⟨_,rfl,HFin⟩
end
theorem dH(p:X.Part):X.dQ [p]=X.iM p:=by show X.iM p+0=_;omega
theorem gu(l:List X.Part):l.length≤X.dQ l:=by
 induction l with
 | nil=>exact aj _
 | cons p l ih=>show l.length+1≤X.iM p+X.dQ l;have:=X.gQ p;omega
theorem fP(l:List X.Part)(p:X.Part)(h:p∈l):X.iM p≤X.dQ l:=by
 induction l with
 | nil=>cases h
 | cons q l ih =>
  show _≤X.iM q+X.dQ l;rcases cK.1 h with e|e
  ·rw[e];omega
  ·have:=ih e;omega
theorem kH(k:Nat)(l:List X.Part):X.iM (.br k l)=1+X.dQ l:=rfl
theorem mh:∀(n:Nat) (p:X.Part),X.iM p≤n→X.iM p≤268435456→oH p
 | 0,p,h,_=>by have:=X.gQ p;omega
 | n+1,p,h,hM=>VI p (by
  intro e i D ab a4 a5 a6 w hr hp hk hg hd hi hD;cases hr with
  | missing=>exact Er D ab a4 a5 a6 i w hp hk hg hd hi hD
  | lit k t x l qs _ hk2 ht =>
   rw[kH] at h hM;have:=gu l;rw[X.eU] at hi ⊢;exact RJ D ab a4 a5 a6 l qs k t x i w hp hk hg hd hk2 ht (by omega) hi hD
  | var x l qs _ ht =>
   rw[kH] at h hM;have:=gu l;rw[X.eU] at hi ⊢;exact RI D ab a4 a5 a6 l qs x i w hp hk hg hd ht (by omega) hi hD
  | hole t x l qs _ ht =>
   rw[kH] at h hM;have:=gu l;rw[X.eU] at hi ⊢;exact Nq D ab a4 a5 a6 l qs t x _ i w hp hk hg hd ht (by omega) hi hD
  | iJ t1 m t2 t3 p1 p2 _ nm e1 e2 h1 hn h2 hv h3 hb =>
   rw[kH] at h hM;have hl:=gu (t1++(m++(t2++([p1]++(t3++[p2])))));have q1:=fP (t1++(m++(t2++([p1]++(t3++[p2]))))) p1 (by simp);have q2:=fP (t1++(m++(t2++([p1]++(t3++[p2]))))) p2 (by simp);rw[X.eU] at hi ⊢;exact RF D ab a4 a5 a6 t1 m t2 t3 p1 p2 nm e1 e2 i w hp hk hg hd h1 hn h2 hv h3 hb (mh n p1 (by omega) (by omega)) (mh n p2 (by omega) (by omega)) (by omega) hi hD
  | ite l _ a b c hx =>
   rw[kH] at h hM;have hl:=gu l;rw[X.eU] at hi ⊢;exact RL D ab a4 a5 a6 l a b c i w hp hk hg hd hx (fun q hq=>mh n q (by have:=fP l q hq;omega) (by have:=fP l q hq;omega)) (by omega) hi hD
  | fn t1 qs t2 p _ ns e h1 hn h2 hb =>
   rw[kH] at h hM;have hl:=gu (t1++([X.Part.br 6 qs]++(t2++[p])));have q1:=fP (t1++([X.Part.br 6 qs]++(t2++[p]))) p (by simp);have q2:=fP (t1++([X.Part.br 6 qs]++(t2++[p]))) (.br 6 qs) (by simp);rw[kH] at q2;have hq:=gu qs;rw[X.eU] at hi ⊢;exact RG D ab a4 a5 a6 t1 qs t2 p ns e i w hp hk hg hd h1 hn h2 hb (mh n p (by omega) (by omega)) (by omega) (by omega) hi hD
  | bin p1 p2 t qs k x _ e1 e2 hl' ht hr2 =>
   rw[kH] at h hM;have hl:=gu ([p1]++(t++[p2]));have q1:=fP ([p1]++(t++[p2])) p1 (by simp);have q2:=fP ([p1]++(t++[p2])) p2 (by simp);rw[X.eU] at hi ⊢;exact RH D ab a4 a5 a6 p1 p2 t qs k x e1 e2 i w hp hk hg hd hl' ht hr2 (mh n p1 (by omega) (by omega)) (mh n p2 (by omega) (by omega)) (by omega) hi hD
  | call p gs _ e es hc ha =>
   rw[kH] at h hM;have q1:=fP ([p]++[X.Part.br 12 gs]) p (by simp);have q2:=fP ([p]++[X.Part.br 12 gs]) (.br 12 gs) (by simp);rw[kH] at q2;have hq:=gu gs;rw[X.eU] at hi ⊢;exact Np D ab a4 a5 a6 p gs e es i w hp hk hg hd hc ha (mh n p (by omega) (by omega)) (fun q hq=>mh n q (by have:=fP gs q hq;omega) (by have:=fP gs q hq;omega)) (by omega) hi hD
  | list l _ es hx =>
   rw[kH] at h hM;have hl:=gu l;rw[X.eU] at hi ⊢;exact Nr D ab a4 a5 a6 l es i w hp hk hg hd hx (fun q hq=>mh n q (by have:=fP l q hq;omega) (by have:=fP l q hq;omega)) (by omega) hi hD
  | group l _ e hx =>
   rw[kH] at h hM;have hl:=gu l;rw[X.eU] at hi ⊢;exact JO D ab a4 a5 a6 l e i w hp hk hg hd hx (fun q hq=>mh n q (by have:=fP l q hq;omega) (by have:=fP l q hq;omega)) (by omega) hi hD)
section
open Tryz
variable{D:Nat→Prop}{rb ab:Nat}
namespace X
theorem Lp{t qs:List Part}{p:Part}(h:Nj t qs p):Nj [p] [] p:=⟨rfl,fun q hq=>(by cases hq),h.ne,h.ln⟩
theorem Et{t qs:List Part}{p:Part}(h:Nj t qs p):pz t=pz qs+pz [p]:=by rw[h.eq,aY]
theorem VJ{s:ah}{t:List Part}(h:Lg s t):∃ qs p,Nj t qs p∧((∃ k y,p=.leaf k y∧y≠s)∨nk p≠0)∧¬(∃ k,p=.leaf k s):=by
 rcases h with ⟨k,x,qs,h1,h2⟩|⟨m,rfl⟩
 ·exact⟨qs,_,h1.AR,.inl ⟨k,x,rfl,h2⟩,fun⟨k',e⟩=>by cases e;exact h2 rfl⟩
 ·exact⟨[],.miss m,⟨rfl,fun q hq=>(by cases hq),rfl,rfl⟩,.inr (by show(1:Nat)≠0;omega),fun⟨k',e⟩=>by cases e⟩
end X
structure Lf(w w':World)(D:Nat→Prop)(rb ab:Nat)(t:List X.Part)(ps:List X.Part)(j:Nat):Prop where
 ex:∃ t' q' p' i',X.Nj t' q' p'∧cO w' D rb ab (t'++ps) i'∧i'+X.pz t'=j∧t'.length≤t.length
 kp:Kq D rb ab w w'
theorem Lr(D:Nat→Prop)(rb ab:Nat)(s:ah)(t ps:List X.Part)(i:Nat)(w:World)(h:cO w D rb ab (t++ps) i)(ht:X.Lg s t)(hi:i+X.pz (t++ps)≤1073741824)(hpl:(t++ps).length≤1073741824)(hDl:∀ q,D q→q<w.heap.size) :
  Calls prog 53 #[.pointer (some ⟨rb,0,none⟩),.string (ba s)] w fun e w'=>e=.returned (.bool false)∧Hid (Lf w w' D rb ab t ps (i+X.pz t)):=by
 obtain⟨qs,p,h1,h2,h3⟩:=X.VJ ht;refine(Gx D rb ab t qs p ps i s w h h1 (.inr h2) hi hpl hDl).mono ?_;rintro e w' ⟨-,H⟩;obtain⟨rfl,X1⟩:=H h3;refine⟨rfl,⟨[p],[],p,i+X.pz qs,X.Lp h1,(X1.o).1,by rw[X.Et h1];omega,?_⟩,(X1.o).2⟩;rw[h1.eq,ak];exact Nat.le_add_left _ _
theorem GJ(D:Nat→Prop)(rb ab:Nat)(k:Nat)(s:ah)(t qs ps:List X.Part)(i:Nat)(w:World)(h:cO w D rb ab (t++ps) i)(ht:X.y9 t k s qs)(hi:i+X.pz (t++ps)≤1073741824)(hpl:(t++ps).length≤1073741824)(hDl:∀ q,D q→q<w.heap.size) :
  Calls prog 53 #[.pointer (some ⟨rb,0,none⟩),.string (ba s)] w fun e w'=>e=.returned (.bool true)∧Hid (cO w' D rb ab ps (i+X.pz t)∧Kq D rb ab w w'):=by
 refine(Gx D rb ab t qs _ ps i s w h ht.AR (.inl ⟨k,rfl⟩) hi hpl hDl).mono ?_;rintro e w' ⟨H,-⟩;exact H ⟨k,rfl⟩
theorem GK(D:Nat→Prop)(rb ab:Nat)(pb t ps:List X.Part)(pub:Bool)(i:Nat)(w:World)(h:cO w D rb ab (pb++(t++ps)) i)(hp:X.TR pb pub)(ht:X.Lg X.jN t)(hi:i+X.pz (pb++(t++ps))≤1073741824)(hpl:(pb++(t++ps)).length≤1073741824)(hDl:∀ q,D q→q<w.heap.size) :
  Calls prog 53 #[.pointer (some ⟨rb,0,none⟩),.string (ba X.jN)] w fun e w'=>e=.returned (.bool pub)∧Hid (Lf w w' D rb ab t ps (i+X.pz pb+X.pz t)):=by
 cases hp with
 | yes _ k qs h1 =>
  refine(GJ D rb ab k X.jN pb qs (t++ps) i w h h1 hi hpl hDl).mono ?_;rintro e w' ⟨rfl,X1⟩;obtain⟨qs',p',h2⟩:=ht.Lc.AR;exact⟨rfl,⟨t,qs',p',i+X.pz pb,h2,(X1.o).1,rfl,aj _⟩,(X1.o).2⟩
 | no =>
  exact Lr D rb ab X.jN t ps i w h ht hi hpl hDl
theorem Lf.pass{w w':World}{t ps:List X.Part}{j:Nat}(h:Lf w w' D rb ab t ps j)(hj:j+X.pz ps≤1073741824)(hpl:(t++ps).length≤1073741824)(hDl:∀ q,D q→q<w'.heap.size) :
  Calls prog 54 #[.pointer (some ⟨rb,0,none⟩)] w' fun e w''=>∃ a1 a2 a3 a4 a5 a6,e=.returned (.agg #[.int .i64 a1,.int .i64 a2,.string a3,.slice a4 a5 a6])∧Hid (cO w'' D rb ab ps j∧Kq D rb ab w' w''):=by
 obtain⟨t',q',p',i',x1,x2,x3,x4⟩:=h.ex;refine(gy D rb ab t' q' p' ps i' w' x2 x1 (by rw[X.aY];omega) (by rw[ak] at *;omega) hDl).mono ?_;rintro e w'' ⟨a4,a5,a6,rfl,X1⟩;rw[x3] at X1;exact⟨_,_,_,a4,a5,a6,rfl,X1⟩
structure Zn(w:World)(D:Nat→Prop)(rb ab:Nat)(ps qs:List X.Part)(i:Nat)(w2:World)(kv:Value):Prop where
 inn:cO (w2.alloc (.cells #[.pointer (some ⟨ab,0,none⟩),kv] 120)) D w2.heap.size ab qs i
 o:∀(w3:World) (l:List X.Part) (k:Nat),cO w3 D w2.heap.size ab l k→Kq D w2.heap.size ab (w2.alloc (.cells #[.pointer (some ⟨ab,0,none⟩),kv] 120)) w3→cO w3 D rb ab ps k∧Kq D rb ab w w3
 le:w.heap.size≤w2.heap.size
 dl:∀ q,D q→q<(w2.alloc (.cells #[.pointer (some ⟨ab,0,none⟩),kv] 120)).heap.size
 sz:(w2.alloc (.cells #[.pointer (some ⟨ab,0,none⟩),kv] 120)).heap.size=w2.heap.size+1
 lJ:Below w2.heap.size w2 (w2.alloc (.cells #[.pointer (some ⟨ab,0,none⟩),kv] 120))
theorem Ls{w w2:World}{ps qs:List X.Part}{i:Nat}{kv:Value}(h:qz w2 D kv qs∧cO w2 D rb ab ps i∧Kq D rb ab w w2)(hq:X.Gd qs)(hDl:∀ q,D q→q<w.heap.size):Zn w D rb ab ps qs i w2 kv:=by
 obtain⟨h1,h2,h3⟩:=h;have hd:∀ q,D q→q<w2.heap.size:=fun q hq=>aH (hDl q hq) h3.size
 obtain⟨a,b⟩:=Li h2 h1 hq hd;refine⟨a,fun w3 l k x y=>?_,h3.size,fun q hq=>by have:=hd q hq;simp;omega,by simp,(ay _ w2).alloc (aj _) _⟩;obtain⟨c,d⟩:=b w3 l k x y;exact⟨c,h3.trans d⟩
end
end Go.Proofs.YtdkpkpgpphkljaaGreatDoor
