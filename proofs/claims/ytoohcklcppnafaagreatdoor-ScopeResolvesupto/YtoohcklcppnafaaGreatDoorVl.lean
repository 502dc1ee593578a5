import Derived.Test.YtoohcklcppnafaaGreatDoorVg
namespace Go.Proofs.YtoohcklcppnafaaGreatDoor
set_option maxRecDepth 100000
set_option maxHeartbeats 4000000
open Tryz
open Go.RowKit
open M
open X
theorem SS(D:Nat→Prop)(kb ab:Nat)(t1 n t2 t3:List Part)(p1 p2:Part)(nm:Nm)(e1 e2:Ex)(i:Nat)(w:aG)(h:dR w D kb ab (t1++(n++(t2++([p1]++(t3++[p2]))))) i)(h1:sj t1)(hn:zG n (i+pz t1) nm)(h2:sj t2)(hv:Rd p1 (i+pz t1+pz n+pz t2) e1)(h3:sj t3)(hb:Rd p2 (i+pz t1+pz n+pz t2+pz [p1]+pz t3) e2)(H1:pI p1)(H2:pI p2)
  (hi:i+pz (t1++(n++(t2++([p1]++(t3++[p2])))))≤1073741824) (hpl:(t1++(n++(t2++([p1]++(t3++[p2]))))).length≤1073741824) (hDl:∀ q,D q→q<w.heap.size) :
  bB 128 #[aH kb] w fun e w'=>∃ b,e=.returned (aH b)∧Hid (je w' w.heap.size w'.heap.size (.iface 255 (aH b)) (.kH nm e1 e2)∧dR w' D kb ab [] (i+pz (t1++(n++(t2++([p1]++(t3++[p2]))))))∧Kq D kb ab w w'):=by
 obtain⟨hr,ha⟩:=h.lt;obtain⟨q1,r1,hT1⟩:=h1.BN;obtain⟨q2,r2,zm⟩:=h2.BN;obtain⟨q3,r3,hT3⟩:=h3.BN;have hz:pz (t1++(n++(t2++([p1]++(t3++[p2])))))=pz t1+(pz n+(pz t2+(pz [p1]+(pz t3+pz [p2])))):=by rw[bZ,bZ,bZ,bZ,bZ]
 have ug:=aA (iN D kb ab t1 q1 r1 _ i w h hT1 hi hpl hDl);have nP:Hid (∀ W:aG,w.heap.size≤W.heap.size→∀ q,D q→q<W.heap.size):=fun W hW q hq=>aJ (hDl q hq) hW
 have HN:=aA hn;have HV:=aA hv;have HB:=aA hb;rw[hz] at hi;simp only[ay] at hpl;clear h h1 h2 h3 hDl hn hv hb;go_enter func128,ntmps128;go_wp2_with fail
 refine(ug.o).mono ?_;rintro e w1 ⟨_,_,_,rfl,X1⟩;have nC:=aA (ow D kb ab n nm _ (i+pz t1) w1 (X1.o).1 HN.o (by simp only[bZ];omega) (by simp only[ay];omega) ((nP.o) w1 (X1.o).2.size));clear ug;go_wp2_with fail
 refine(nC.o).aX fun w2 X2=>?_;have K2:=aA <| (X1.o).2.trans (X2.o).2;have hs2:=(K2.o).size;have kA:Below w2.heap.size w2 (w2.alloc (.cells #[ak 0,ak 0,.bool false,.string (ba nm.1),ak nm.2,.nilIface,.nilIface] 301)):=(aB _ w2).alloc (ax _) _;have hB3:Hid ((w2.alloc (.cells #[ak 0,ak 0,.bool false,.string (ba nm.1),ak nm.2,.nilIface,.nilIface] 301)).heap[w2.heap.size]?=some (.cells #[ak 0,ak 0,.bool false,.string (ba nm.1),ak nm.2,.nilIface,.nilIface] 301 (0,0))):=aI w2 _;have K3:=aA <| (K2.o).more kA ha;have uh:=aA (iN D kb ab t2 q2 r2 _ (i+pz t1+pz n) _ ((X2.o).1.below kA) zm (by simp only[bZ];omega) (by simp only[ay];omega) ((nP.o) _ (K3.o).size));clear nC kA X1 X2 K2;go_wp2_with fail
 generalize w2.alloc (.cells #[ak 0,ak 0,.bool false,.string (ba nm.1),ak nm.2,.nilIface,.nilIface] 301)=W3 at *;generalize w2.heap.size=b at *;refine(uh.o).mono ?_;rintro e w4 ⟨_,_,_,rfl,X4⟩;have K4:=aA <| (K3.o).trans (X4.o).2;have hB4:=aA ((X4.o).2.made hr ha hs2 hB3.o aS);have Ai:=aA (H1 e1 (i+pz t1+pz n+pz t2) D kb ab (t3++[p2]) w4 HV.o (X4.o).1 au ((nP.o) _ (K4.o).size));clear uh X4 K3 hB3;go_wp2_with fail
 refine(Ai.o).mono ?_;rintro e w5 ⟨v1,rfl,X5⟩;obtain⟨y1,g1,hv1⟩:=(X5.o).1.iface;subst hv1;have K5:=aA <| (K4.o).trans (X5.o).2.2;have SV:=(X5.o).2.2.made hr ha hs2 hB4.o aS;have c2:=aj w5 _ 5 _ _ _ SV;have f2:w5.frozen? (aC b 5)=false:=dO SV
 have bO6:=bN hB4.o;have Ih:Hid (je (w5.setCell (aC b 5) (.iface y1 (aH g1))) w4.heap.size w5.heap.size (.iface y1 (aH g1)) e1∧dR (w5.setCell (aC b 5) (.iface y1 (aH g1))) D kb ab (t3++[p2]) (i+pz t1+pz n+pz t2+pz [p1])∧(w5.setCell (aC b 5) (.iface y1 (aH g1))).heap[b]?=some (.cells #[ak 0,ak 0,.bool false,.string (ba nm.1),ak nm.2,.iface y1 (aH g1),.nilIface] 301 (0,0))∧Kq D kb ab w (w5.setCell (aC b 5) (.iface y1 (aH g1)))∧(w5.setCell (aC b 5) (.iface y1 (aH g1))).heap.size=w5.heap.size):=by
  have hk:Kp (fun q=>q=b) w5 (w5.setCell (aC b 5) (.iface y1 (aH g1))):=On.set (Kp.refl _ w5) 5 _;refine⟨(X5.o).1.keep hk (fun i h1 h2 e=>au),(X5.o).2.1.on hk SV aS au au (fun hd=>?_),by simp[World.setCell,aZ,SV],(K5.o).set ha hs2 _ _,by simp[World.setCell]⟩;have:=(nP.o) w (ax _) _ hd;omega
 have aV6:=(X5.o).2.2.size;clear Ai X5 K4 hB4 K5;go_wp2_with fail
 generalize w5.setCell (aC b 5) (.iface y1 (aH g1))=W5 at *;clear SV c2 f2;have Ec:=aA (iN D kb ab t3 q3 r3 [p2] (i+pz t1+pz n+pz t2+pz [p1]) W5 (Ih.o).2.1 hT3 (by simp only[bZ];omega) (by simp only[ay];omega) ((nP.o) _ (Ih.o).2.2.2.1.size));refine(Ec.o).mono ?_;rintro e w6 ⟨_,_,_,rfl,X6⟩;have K6:=aA <| (Ih.o).2.2.2.1.trans (X6.o).2;have bO7:=aV6;have hE6:=aA ((Ih.o).1.lD (X6.o).2 (aJ hr (by have:=(Ih.o).2.2.2.1.size;omega)) (aJ ha (by have:=(Ih.o).2.2.2.1.size;omega)));have RJ:=aA ((X6.o).2.made hr ha hs2 (Ih.o).2.2.1 aS);have cS0:w5.heap.size≤w6.heap.size:=by have:=(X6.o).2.size;have:=(Ih.o).2.2.2.2;omega
 have Gl:=aA (H2 e2 (i+pz t1+pz n+pz t2+pz [p1]+pz t3) D kb ab [] w6 HB.o (X6.o).1 au ((nP.o) _ (K6.o).size));clear Ec X6 Ih;go_wp2_with fail
 refine(Gl.o).mono ?_;rintro e w7 ⟨v2,rfl,X7⟩;obtain⟨y2,g2,hv2⟩:=(X7.o).1.iface;subst hv2;have K7:=aA <| (K6.o).trans (X7.o).2.2;have SX:=(X7.o).2.2.made hr ha hs2 RJ.o aS;have c3:=aj w7 _ 6 _ _ _ SX;have f3:w7.frozen? (aC b 6)=false:=dO SX
 have HFin:Hid (je (w7.setCell (aC b 6) (.iface y2 (aH g2))) w.heap.size (w7.setCell (aC b 6) (.iface y2 (aH g2))).heap.size (.iface 255 (aH b)) (.kH nm e1 e2)∧dR (w7.setCell (aC b 6) (.iface y2 (aH g2))) D kb ab [] (i+pz (t1++(n++(t2++([p1]++(t3++[p2]))))))∧Kq D kb ab w (w7.setCell (aC b 6) (.iface y2 (aH g2)))):=by
  have hk:Kp (fun q=>q=b) w7 (w7.setCell (aC b 6) (.iface y2 (aH g2))):=On.set (Kp.refl _ w7) 6 _;have hsz:(w7.setCell (aC b 6) (.iface y2 (aH g2))).heap.size=w7.heap.size:=by simp[World.setCell]
  have cS1:=(X7.o).2.2.size;have hw4:w.heap.size≤w4.heap.size:=au
  have hE7:=(hE6.o).lD (X7.o).2.2 (aJ hr hw4) (aJ ha hw4);rw[hsz,hz];refine⟨.kH (m:=0) (n:=0) (z:=false) b nm _ _ e1 e2 ⟨hs2,au⟩ (by simp[World.setCell,aZ,SX]) ((hE7.keep hk (fun i h1 h2 e=>au)).wide hw4 au) (((X7.o).1.keep hk (fun i h1 h2 e=>au)).wide au (ax _)),?_,(K7.o).set ha hs2 _ _⟩;have hR:=(X7.o).2.1.on hk SX aS au au (fun hd=>by have:=(nP.o) w (ax _) _ hd;omega);rw[show i+(pz t1+(pz n+(pz t2+(pz [p1]+(pz t3+pz [p2])))))=i+pz t1+pz n+pz t2+pz [p1]+pz t3+pz [p2] by omega];exact hR
 clear Gl X7 K7 SX hE6 RJ K6;go_wp2_with fail
 go_ret;exact⟨b,rfl,HFin.o⟩
theorem SY(D:Nat→Prop)(kb ab:Nat)(t1 qs t2:List Part)(p:Part)(ns:List Nm)(e:Ex)(i:Nat)(w:aG)(h:dR w D kb ab (t1++([Part.br 6 qs]++(t2++[p]))) i)(h1:sj t1)(hn:nU qs (i+pz t1) ns)(h2:sj t2)(hb:Rd p (i+pz t1+pz qs+pz t2) e)(H1:pI p)
  (hi:i+pz (t1++([Part.br 6 qs]++(t2++[p])))≤1073741824) (hpl:(t1++([Part.br 6 qs]++(t2++[p]))).length≤1073741824) (sP:qs.length≤268435456) (hnl:ns.length≤268435456) (hDl:∀ q,D q→q<w.heap.size) :
  bB 130 #[aH kb] w fun en w'=>∃ b,en=.returned (aH b)∧Hid (je w' w.heap.size w'.heap.size (.iface 262 (aH b)) (.fn ns e)∧dR w' D kb ab [] (i+pz (t1++([Part.br 6 qs]++(t2++[p]))))∧Kq D kb ab w w'):=by
 obtain⟨hr,ha⟩:=h.lt;obtain⟨q1,r1,hT1⟩:=h1.BN;obtain⟨q2,r2,zm⟩:=h2.BN;have hz:pz (t1++([Part.br 6 qs]++(t2++[p])))=pz t1+(pz qs+(pz t2+pz [p])):=by rw[bZ,bZ,bZ,iw]
 have ug:=aA (iN D kb ab t1 q1 r1 _ i w h hT1 hi hpl hDl);have nP:Hid (∀ W:aG,w.heap.size≤W.heap.size→∀ q,D q→q<W.heap.size):=fun W hW q hq=>aJ (hDl q hq) hW
 have HN:=aA hn;have HB:=aA hb;rw[hz] at hi;simp only[ay,bF] at hpl;clear h h1 h2 hDl hn hb;go_enter func130,ntmps130;go_wp2_with fail
 refine(ug.o).mono ?_;rintro en w1 ⟨_,_,_,rfl,X1⟩;have nC:=aA (yG D kb ab qs ns (t2++[p]) (i+pz t1) w1 (X1.o).1 HN.o au sP hnl ((nP.o) w1 (X1.o).2.size));clear ug;go_wp2_with fail
 refine(nC.o).mono ?_;rintro en w2 ⟨pb,rfl,X2⟩;have K2:=aA <| (X1.o).2.trans (X2.o).2.2;have hs2:=(K2.o).size;have hs1:=(X1.o).2.size;have kA:Below w2.heap.size w2 (w2.alloc (.cells #[ak 0,ak 0,.bool false,aH pb,.nilIface] 297)):=(aB _ w2).alloc (ax _) _;have hB3:Hid ((w2.alloc (.cells #[ak 0,ak 0,.bool false,aH pb,.nilIface] 297)).heap[w2.heap.size]?=some (.cells #[ak 0,ak 0,.bool false,aH pb,.nilIface] 297 (0,0))):=aI w2 _;have K3:=aA <| (K2.o).more kA ha;have hP3:=aA <| ((X2.o).1.wide hs1 (ax _)).keep (Kp.aN kA (fun _=>False)) (fun _ _ _=>id);have uh:=aA (iN D kb ab t2 q2 r2 [p] (i+pz t1+pz qs) _ ((X2.o).2.1.below kA) zm (by simp only[bZ];omega) (by simp only[ay,bF];omega) ((nP.o) _ (K3.o).size));clear nC kA X1 X2 K2;go_wp2_with fail
 generalize w2.alloc (.cells #[ak 0,ak 0,.bool false,aH pb,.nilIface] 297)=W3 at *;generalize w2.heap.size=b at *;refine(uh.o).mono ?_;rintro en w4 ⟨_,_,_,rfl,X4⟩;have K4:=aA <| (K3.o).trans (X4.o).2;have hB4:=aA ((X4.o).2.made hr ha hs2 hB3.o aS);have hP4:=aA ((hP3.o).lD (X4.o).2 (aJ hr (ax _)) (aJ ha (ax _)));have Ai:=aA (H1 e (i+pz t1+pz qs+pz t2) D kb ab [] w4 HB.o (X4.o).1 au ((nP.o) _ (K4.o).size));clear uh X4 K3 hB3 hP3;go_wp2_with fail
 refine(Ai.o).mono ?_;rintro en w5 ⟨v1,rfl,X5⟩;obtain⟨y1,g1,hv1⟩:=(X5.o).1.iface;subst hv1;have K5:=aA <| (K4.o).trans (X5.o).2.2;have SV:=(X5.o).2.2.made hr ha hs2 hB4.o aS;have c1:=aj w5 _ 4 _ _ _ SV;have f1:w5.frozen? (aC b 4)=false:=dO SV
 have bO6:=bN hB4.o;have HFin:Hid (je (w5.setCell (aC b 4) (.iface y1 (aH g1))) w.heap.size (w5.setCell (aC b 4) (.iface y1 (aH g1))).heap.size (.iface 262 (aH b)) (.fn ns e)∧dR (w5.setCell (aC b 4) (.iface y1 (aH g1))) D kb ab [] (i+pz (t1++([Part.br 6 qs]++(t2++[p]))))∧Kq D kb ab w (w5.setCell (aC b 4) (.iface y1 (aH g1)))):=by
  have hk:Kp (fun q=>q=b) w5 (w5.setCell (aC b 4) (.iface y1 (aH g1))):=On.set (Kp.refl _ w5) 4 _;have hsz:(w5.setCell (aC b 4) (.iface y1 (aH g1))).heap.size=w5.heap.size:=by simp[World.setCell]
  have aV6:=(X5.o).2.2.size;have hP5:=(hP4.o).lD (X5.o).2.2 (aJ hr (ax _)) (aJ ha (ax _));rw[hsz,hz];refine⟨.fn (m:=0) (n:=0) (z:=false) b pb ns _ e ⟨hs2,au⟩ (by simp[World.setCell,aZ,SV]) ((hP5.keep hk (fun i h1 h2 e=>au)).wide (ax _) au) (((X5.o).1.keep hk (fun i h1 h2 e=>au)).wide au (ax _)),?_,(K5.o).set ha hs2 _ _⟩;have hR:=(X5.o).2.1.on hk SV aS au au (fun hd=>by have:=(nP.o) w (ax _) _ hd;omega);rw[show i+(pz t1+(pz qs+(pz t2+pz [p])))=i+pz t1+pz qs+pz t2+pz [p] by omega];exact hR
 clear Ai X5 K4 hB4 K5 hP4 SV;go_wp2_with fail
 go_ret;exact⟨b,rfl,HFin.o⟩
theorem Ii(a b:Int)(c:ByteArray)(a4:Option Addr)(a5 a6:Nat)(w:aG):(Instr.field 116 (.agg #[ak a,ak b,.string c,.slice a4 a5 a6]) 2).run prog w=.ok (.string c) w:=bC
theorem Ij(D:Nat→Prop)(kb ab:Nat)(p1 p2:Part)(t qs:List Part)(k:Nat)(x:ah)(e1 e2:Ex)(i:Nat)(w:aG)(h:dR w D kb ab ([p1]++(t++[p2])) i)(hl:Rd p1 i e1)(ht:vH t k x qs)(hr2:Rd p2 (i+pz [p1]+pz t) e2)(H1:pI p1)(H2:pI p2)
  (hi:i+pz ([p1]++(t++[p2]))≤1073741824) (hpl:([p1]++(t++[p2])).length≤1073741824) (hDl:∀ q,D q→q<w.heap.size) :
  bB 131 #[aH kb] w fun en w'=>∃ b,en=.returned (aH b)∧Hid (je w' w.heap.size w'.heap.size (.iface 264 (aH b)) (.bin e1 x e2)∧dR w' D kb ab [] (i+pz ([p1]++(t++[p2])))∧Kq D kb ab w w'):=by
 obtain⟨hr,ha⟩:=h.lt;have hT:=ht.BN;have hz:pz ([p1]++(t++[p2]))=pz [p1]+(pz t+pz [p2]):=by rw[bZ,bZ]
 rw[hz] at hi;simp only[ay,bF] at hpl;have ug:=aA (H1 e1 i D kb ab (t++[p2]) w hl h au hDl);have nP:Hid (∀ W:aG,w.heap.size≤W.heap.size→∀ q,D q→q<W.heap.size):=fun W hW q hq=>aJ (hDl q hq) hW
 have HB:=aA hr2;have hfl:=Ii;clear h hDl hl hr2 ht;go_enter func131,ntmps131;go_wp2_with fail
 refine(ug.o).mono ?_;rintro en w2 ⟨v1,rfl,X2⟩;obtain⟨y1,g1,hv1⟩:=(X2.o).1.iface;subst hv1;have hs2:=(X2.o).2.2.size;have kA:Below w2.heap.size w2 (w2.alloc (.cells #[ak 0,ak 0,.bool false,.iface y1 (aH g1),.string ⟨#[]⟩,.nilIface] 303)):=(aB _ w2).alloc (ax _) _;have hB3:Hid ((w2.alloc (.cells #[ak 0,ak 0,.bool false,.iface y1 (aH g1),.string ⟨#[]⟩,.nilIface] 303)).heap[w2.heap.size]?=some (.cells #[ak 0,ak 0,.bool false,.iface y1 (aH g1),.string ⟨#[]⟩,.nilIface] 303 (0,0))):=aI w2 _;have K3:=aA <| (X2.o).2.2.more kA ha;have hE3:=aA <| (X2.o).1.keep (Kp.aN kA (fun _=>False)) (fun _ _ _=>id);have uh:=aA (iN D kb ab t qs _ [p2] (i+pz [p1]) _ ((X2.o).2.1.below kA) hT (by simp only[bZ];omega) (by simp only[ay,bF];omega) ((nP.o) _ (K3.o).size));clear ug kA X2;go_wp2_with fail
 generalize w2.alloc (.cells #[ak 0,ak 0,.bool false,.iface y1 (aH g1),.string ⟨#[]⟩,.nilIface] 303)=W3 at *;generalize w2.heap.size=b at *;refine(uh.o).mono ?_;rintro en w4 ⟨a4,a5,a6,rfl,X4⟩;have hB4:=(X4.o).2.made hr ha hs2 hB3.o aS;have c1:=aj w4 _ 4 _ _ _ hB4;have f1:w4.frozen? (aC b 4)=false:=dO hB4
 have hnt:BM (.leaf k x)=x:=rfl;rw[hnt];have cS4:=bN hB4;have Ih:Hid (je (w4.setCell (aC b 4) (.string (ba x))) w.heap.size b (.iface y1 (aH g1)) e1∧dR (w4.setCell (aC b 4) (.string (ba x))) D kb ab [p2] (i+pz [p1]+pz t)∧(w4.setCell (aC b 4) (.string (ba x))).heap[b]?=some (.cells #[ak 0,ak 0,.bool false,.iface y1 (aH g1),.string (ba x),.nilIface] 303 (0,0))∧Kq D kb ab w (w4.setCell (aC b 4) (.string (ba x)))∧(w4.setCell (aC b 4) (.string (ba x))).heap.size=w4.heap.size):=by
  have hk:Kp (fun q=>q=b) w4 (w4.setCell (aC b 4) (.string (ba x))):=On.set (Kp.refl _ w4) 4 _;refine⟨((hE3.o).lD (X4.o).2 (aJ hr (ax _)) (aJ ha (ax _))).keep hk (fun i h1 h2 e=>au),(X4.o).1.on hk hB4 aS au au (fun hd=>?_),by simp[World.setCell,aZ,hB4],((K3.o).trans (X4.o).2).set ha hs2 _ _,by simp[World.setCell]⟩;have:=(nP.o) w (ax _) _ hd;omega
 clear uh X4 K3 hB3 hE3;go_wp2_with fail
 generalize w4.setCell (aC b 4) (.string (ba x))=W5 at *;clear hB4 c1 f1;have Gl:=aA (H2 e2 (i+pz [p1]+pz t) D kb ab [] W5 HB.o (Ih.o).2.1 au ((nP.o) _ (Ih.o).2.2.2.1.size));refine(Gl.o).mono ?_;rintro en w7 ⟨v2,rfl,X7⟩;obtain⟨y2,g2,hv2⟩:=(X7.o).1.iface;subst hv2;have SX:=(X7.o).2.2.made hr ha hs2 (Ih.o).2.2.1 aS;have c2:=aj w7 _ 5 _ _ _ SX;have f2:w7.frozen? (aC b 5)=false:=dO SX
 have HFin:Hid (je (w7.setCell (aC b 5) (.iface y2 (aH g2))) w.heap.size (w7.setCell (aC b 5) (.iface y2 (aH g2))).heap.size (.iface 264 (aH b)) (.bin e1 x e2)∧dR (w7.setCell (aC b 5) (.iface y2 (aH g2))) D kb ab [] (i+pz ([p1]++(t++[p2])))∧Kq D kb ab w (w7.setCell (aC b 5) (.iface y2 (aH g2)))):=by
  have hk:Kp (fun q=>q=b) w7 (w7.setCell (aC b 5) (.iface y2 (aH g2))):=On.set (Kp.refl _ w7) 5 _;have hsz:(w7.setCell (aC b 5) (.iface y2 (aH g2))).heap.size=w7.heap.size:=by simp[World.setCell]
  have cS5:=(X7.o).2.2.size;have hs5:=(Ih.o).2.2.2.2;have hE7:=(Ih.o).1.lD (X7.o).2.2 (aJ hr (ax _)) (aJ ha (ax _));rw[hsz,hz];refine⟨.bin (m:=0) (n:=0) (z:=false) b _ _ x e1 e2 ⟨hs2,au⟩ (by simp[World.setCell,aZ,SX]) ((hE7.keep hk (fun i h1 h2 e=>au)).wide (ax _) au) (((X7.o).1.keep hk (fun i h1 h2 e=>au)).wide au (ax _)),?_,((Ih.o).2.2.2.1.trans (X7.o).2.2).set ha hs2 _ _⟩;have hR:=(X7.o).2.1.on hk SX aS au au (fun hd=>by have:=(nP.o) w (ax _) _ hd;omega);rw[show i+(pz [p1]+(pz t+pz [p2]))=i+pz [p1]+pz t+pz [p2] by omega];exact hR
 clear Gl X7 SX Ih;go_wp2_with fail
 go_ret;exact⟨b,rfl,HFin.o⟩
section
variable{p:Part}{e:Ex}{l l2:List Part}{k kb ab tot k2:Nat}{es acc:List Ex}{w wr:aG}{D:Nat→Prop}{rv:Value}{vs:List Value}
def X.exq:Part→Bool
 | .leaf _ _=>false
 | .miss m=>m==kU
 | .br k _=>k !=0&&k !=1
theorem KX(p:Part)(a4:Option Addr)(a5 a6:Nat)(w:aG) :
  bB 153 #[.agg #[ak (nk p),ak (Dw p),.string (ba (BM p)),.slice a4 a5 a6]] w (cK (.bool (X.exq p)) fun w'=>Below w.heap.size w w'):=by
 have lV:∀ a b c,Hid (Below w.heap.size w (w.alloc (.cells #[ak a,ak b,.string c,.slice a4 a5 a6] 116))):=fun a b c=>(aB _ w).alloc (ax _) _
 have wJ:=aA lV;clear lV;cases p with
 | leaf k x =>
  show bB 153 #[.agg #[ak 0,ak k,.string (ba x),.slice a4 a5 a6]] w fun e w'=>e=.returned (.bool false)∧Below w.heap.size w w'
  go_enter func153,ntmps153;go_wp2_with fail
  go_ret;exact⟨rfl,((wJ.o) _ _ _).o⟩
 | miss m =>
  by_cases hm:m=kU
  ·subst hm
   show bB 153 #[.agg #[ak 1,ak 0,.string (ba kU),.slice a4 a5 a6]] w fun e w'=>e=.returned (.bool true)∧Below w.heap.size w w'
   have e1:((ba kU).toList==[101,120,112,114,101,115,115,105,111,110])=true:=by rw[nJ];rfl
   go_enter func153,ntmps153;go_wp2_with fail
   go_ret;exact⟨rfl,((wJ.o) _ _ _).o⟩
  ·have k3:X.exq (.miss m)=false:=by show(m==kU)=false;simpa using hm
   have i4':((ba m).toList==[101,120,112,114,101,115,115,105,111,110])=false:=by rw[nJ];exact k3
   rw[k3];show bB 153 #[.agg #[ak 1,ak 0,.string (ba m),.slice a4 a5 a6]] w fun e w'=>e=.returned (.bool false)∧Below w.heap.size w w'
   go_enter func153,ntmps153;go_wp2_with fail
   go_ret;exact⟨rfl,((wJ.o) _ _ _).o⟩
 | br k ps =>
  by_cases h0:k=0
  ·subst h0
   show bB 153 #[.agg #[ak 0,ak 0,.string (ba []),.slice a4 a5 a6]] w fun e w'=>e=.returned (.bool false)∧Below w.heap.size w w'
   go_enter func153,ntmps153;go_wp2_with fail
   go_ret;exact⟨rfl,((wJ.o) _ _ _).o⟩
  ·by_cases h1:k=1
   ·subst h1
    have e1:((ba []).toList==[101,120,112,114,101,115,115,105,111,110])=false:=by rw[nJ];rfl
    show bB 153 #[.agg #[ak 1,ak 0,.string (ba []),.slice a4 a5 a6]] w fun e w'=>e=.returned (.bool false)∧Below w.heap.size w w'
    go_enter func153,ntmps153;go_wp2_with fail
    go_ret;exact⟨rfl,((wJ.o) _ _ _).o⟩
   ·have j0:((k:Int) !=0)=true:=by simp;omega
    have j1:((k:Int) !=1)=true:=aQ
    have j0':((k:Int)==0)=false:=aQ
    have j1':((k:Int)==1)=false:=aQ
    have k3:X.exq (.br k ps)=true:=by show(k !=0&&k !=1)=true;simp;omega
    rw[k3];show bB 153 #[.agg #[ak k,ak 0,.string (ba []),.slice a4 a5 a6]] w fun e w'=>e=.returned (.bool true)∧Below w.heap.size w w'
    go_enter func153,ntmps153;go_wp2_with fail
    go_ret;exact⟨rfl,((wJ.o) _ _ _).o⟩
theorem zU{i:Nat}(h:Rd p i e):X.exq p=true∧lq p=false:=by
 cases h with
 | lit k t x ps qs _ hk h=>exact⟨by show(k !=0&&k !=1)=true;simp;omega,rfl⟩
 | _=>exact⟨rfl,rfl⟩
theorem Dz:∀(l:List Part) {k:Nat} {es:List Ex},nA l k es→nA (l.dropWhile lq) (k+pz (l.takeWhile lq)) es
 | [],k,es,h=>h
 | p::l,k,es,h=>by
  cases hq:lq p with
  | true =>
   obtain⟨t,x,rfl,-⟩:=pE hq;rw[kY hq,kX hq,gF,ji,← fK];cases h with
   | leaf _ _ _ _ _ h=>exact Dz l h
   | cons _ _ _ e es hp h=>cases hp
  | false =>
   rw[fT (by rw[hq];simp),fq (by rw[hq];simp)];exact h
theorem Ik(h:nA (p::l) k es):(X.exq p=true∧∃ e es',es=e::es'∧Rd p k e∧nA l (k+pz [p]) es')∨(X.exq p=false∧JH p=pz [p]∧nA l (k+pz [p]) es):=by
 cases h with
 | leaf t x _ _ _ h=>exact .inr ⟨rfl,(ji t x).symm,by rw[ji];exact h⟩
 | miss m _ _ _ hm h=>exact .inr ⟨by show(m==kU)=false;simpa using hm,rfl,h⟩
 | cons _ _ _ e es hp h=>exact .inl ⟨(zU hp).1,e,es,rfl,hp,h⟩
structure aV7(w:aG)(lo hi:Nat)(rv:Value)(es:List Ex):Prop where
 ex:∃(ao:Option Addr) (cap:Nat) (vs:Nat→Value),rv=.slice ao es.length cap∧es.length≤cap∧cap≤maxLen∧(∀ j,j<es.length→∃ g,ao=some ⟨g,0,none⟩∧lo≤g∧g<hi∧w.cell? (aC g j)=some (vs j)∧∃ c f,w.heap[g]?=some (.cells c 179 f))∧(∀(j:Nat) (e:Ex),es[j]?=some e→je w lo hi (vs j) e)
theorem S9:(prog.info? 179).map (fun i=>(i.zero,i.size,i.bytes))=some (some .nilIface,1,16):=bC
structure yX(w:aG)(D:Nat→Prop)(kb ab:Nat)(es:List Ex)(tot:Nat)(l:List Part)(k:Nat)(acc:List Ex)(rv:Value)(vs:List Value)(wr:aG):Prop where
 rw:dR wr D kb ab l k
 Ny:∃ es',nA l k es'∧es=acc++es'
 own:wr.ownsRow w.heap.size 179 1 rv acc.length vs
 len:vs.length=acc.length
 each:∀(j:Nat) (e:Ex),acc[j]?=some e→∃ v L H,vs[j]?=some v∧w.heap.size≤L∧H≤wr.heap.size∧(∀ g,rv.ownBlock=some g→¬(L≤g∧g<H))∧je wr L H v e
 kp:Kq D kb ab w wr
 pos:k+pz l=tot
theorem yX.step(h:yX w D kb ab es tot l k acc rv vs wr){w2:aG}(hr:kb<w.heap.size)(ha:ab<w.heap.size)(hk:Kq D kb ab wr w2)(hw:dR w2 D kb ab l2 k2)(hn:∃ es',nA l2 k2 es'∧es=acc++es')(hp:k2+pz l2=tot):yX w D kb ab es tot l2 k2 acc rv vs w2:=by
 refine⟨hw,hn,hk.owns h.own aS (fun g hg=>by have:=(dG h.own g hg).1;exact⟨au,au⟩),h.len,fun j e hj=>?_,h.kp.trans hk,hp⟩;obtain⟨v,L,H,x1,x2,x3,x4,x5⟩:=h.each j e hj;exact⟨v,L,H,x1,x2,dI x3 hk.size,x4,x5.lD hk (aJ hr x2) (aJ ha x2)⟩
theorem yX.more(h:yX w D kb ab es tot l k acc rv vs wr){w5 w6:aG}(hr:kb<w.heap.size)(ha:ab<w.heap.size)(hD:∀ q,D q→q<w.heap.size)(hk:Kq D kb ab wr w5)(hw:dR w5 D kb ab l2 k2){v:Value}(hE:je w5 wr.heap.size w5.heap.size v e)(hn:∃ es',nA l2 k2 es'∧es=(acc++[e])++es')(hp:k2+pz l2=tot)(o:Obj){g cap:Nat}
  (hown:w6.ownsRow w.heap.size 179 1 (.slice (b_ g) (acc.length+1) cap) (acc.length+1) (vs++[v])) (hgrow:(w5.alloc o).grownBy w6 rv.ownBlock) (hat:rv.ownBlock=some g∨g=w5.heap.size+1) :
  yX w D kb ab es tot l2 k2 (acc++[e]) (.slice (b_ g) (acc.length+1) cap) (vs++[v]) w6:=by
 have hs5:=hk.size;have hge:=fun q hq=>(dG h.own q hq)
 have hown5:=hk.owns h.own aS (fun g hg=>by have:=(hge g hg).1;exact⟨au,au⟩);have hA:=Kp.grown (Kp.alloc (Kp.refl _ w5) o) hgrow (fun k e _=>e);have hs6:=hA.size;have hws:=h.kp.size;have hgo:∀ L H,H≤w5.heap.size→(∀ g',rv.ownBlock=some g'→¬(L≤g'∧g'<H))→∀ q,(Value.slice (b_ g) (acc.length+1) cap).ownBlock=some q→¬(L≤q∧q<H):=fun L H hH h0 q hq=>by
  simp only[Value.ownBlock,dP] at hq;subst hq;rcases hat with e|e
  ·exact h0 g e
  ·omega
 refine⟨hw.keep hA (fun e=>by have:=(hge _ e).1;omega) (fun e=>by have:=(hge _ e).1;omega) (fun q hq e=>by have:=(hge _ e).1;have:=hD q hq;omega) (fun q c f _ hc e=>by obtain⟨-,c',f',hc'⟩:=jW hown5 e;exact oF hc' aS ⟨c,f,hc⟩),hn,by rw[ay];exact hown,by rw[ay,ay,h.len];rfl,fun j e' hj=>?_,(h.kp.trans hk).over hA ha (fun i hi e=>by have:=(hge _ e).1;omega),hp⟩;by_cases hjl:j<acc.length
 ·rw[bT hjl] at hj
  obtain⟨v',L,H,x1,x2,x3,x4,x5⟩:=h.each j e' hj;exact⟨v',L,H,by rw[bT (by rw[h.len];exact hjl)];exact x1,x2,au,hgo L H au x4,(x5.lD hk (aJ hr x2) (aJ ha x2)).keep hA (fun q h1 h2 e=>x4 q e ⟨h1,h2⟩)⟩
 ·rw[bL au] at hj
  have h0:j - acc.length=0:=by
   rcases gZ (j - acc.length) with q|q
   ·exact q
   ·rw[bf aQ] at hj;cases hj
  rw[h0] at hj;obtain rfl:e=e':=by simpa using hj
  have hno:∀ q,rv.ownBlock=some q→¬(wr.heap.size≤q∧q<w5.heap.size):=fun q hq=>by have:=(hge q hq).2;omega
  exact⟨v,wr.heap.size,w5.heap.size,by rw[bL (by rw[h.len];omega),h.len,h0];rfl,hws,hs6,hgo _ _ (ax _) hno,hE.keep hA (fun q h1 h2 e=>hno q e ⟨h1,h2⟩)⟩
theorem yX.done(h:yX w D kb ab es tot [] k acc rv vs wr):aV7 wr w.heap.size wr.heap.size rv es∧dR wr D kb ab [] tot∧Kq D kb ab w wr:=by
 obtain⟨es',h1,h2⟩:=h.Ny;cases h1
 rw[aL] at h2;subst h2;have hp:k=tot:=h.pos;have hge:=fun q hq=>(dG h.own q hq)
 have hl:=h.len;refine⟨?_,by rw[← hp];exact h.rw,h.kp⟩;have hc:=fun g hg=>h.own.cells (g:=g) hg
 have hown:=h.own;rcases hown.2 with ⟨rfl,h0⟩|⟨g,cap,cur,rfl,-,-,hn,hm,-,-⟩
 ·have he:=bP.1 h0
  subst he;exact⟨none,0,fun _=>undef,rfl,ax _,by unfold maxLen;omega,fun j hj=>absurd hj (jE _),fun j e hj=>by simp at hj⟩
 ·refine⟨_,cap,fun j=>vs.getD j undef,rfl,hn,hm,fun j hj=>⟨g,rfl,(hge g rfl).1,(hge g rfl).2,?_,(jW hown rfl).2⟩,fun j e hj=>?_⟩
  ·have hv:vs[j]?=some (vs.getD j undef):=by
    rw[bG,aF au];rfl
   have:=hc g rfl j _ hv
   rwa[dQ,bS] at this
  ·obtain⟨v,L,H,x1,x2,x3,-,x5⟩:=h.each j e hj
   have:vs.getD j undef=v:=by rw[bG,x1];rfl
   show je _ _ _ (vs.getD j undef) e;rw[this];exact x5.wide x2 x3
theorem lZ(D:Nat→Prop)(kb ab:Nat)(qs:List Part)(es:List Ex)(i:Nat)(w:aG)(h:dR w D kb ab qs i)(hr0:nA qs i es)(hE:∀ p∈qs,pI p)(hi:i+pz qs≤1073741824)(sP:qs.length≤268435456)(hel:es.length≤268435456)(hDl:∀ q,D q→q<w.heap.size) :
  bB 129 #[aH kb] w fun en w'=>∃ rv,en=.returned rv∧Hid (aV7 w' w.heap.size w'.heap.size rv es∧dR w' D kb ab [] (i+pz qs)∧Kq D kb ab w w'):=by
 obtain⟨i0,hi0,hz0,hz1,hz2⟩:=dM S9;obtain⟨hr,ha⟩:=h.lt;have HI0:Hid (yX w D kb ab es (i+pz qs) qs i [] (.slice none 0 0) [] w):=⟨h,⟨es,hr0,rfl⟩,dK _ _ _ _,rfl,fun j e hj=>by simp at hj,Kq.refl _ _ _ _,rfl⟩;have HE:=aA hE;have nP:=aA hDl;clear h hr0 hE hDl;go_enter func129,ntmps129;go_wp2_with fail
 go_loopw [3] (fun av wr=>∃(l:List Part) (k:Nat) (acc:List Ex) (rv:Value) (vs:List Value),rv=av∧l.length≤268435456∧Hid (∀ p∈l,pI p)∧Hid (yX w D kb ab es (i+pz qs) l k acc rv vs wr)) (fun _ wr=>Fa kb wr)
 case atStart=>exact⟨qs,i,[],_,[],rfl,sP,HE,HI0⟩
 case round =>
  obtain⟨l,k,acc,rv,vs,rfl,hll,HEl,HI⟩:=hrel;clear HI0 HE;have hlen:=(HI.o).rw.len;have hpos:=(HI.o).pos;have HM:=aA (lY D kb ab l k wr (HI.o).rw au au (fun q hq=>aJ ((nP.o) q hq) (HI.o).kp.size));go_wp2_with fail
  refine(HM.o).aX fun w3 H3=>?_;have hpz:pz l=pz (l.takeWhile lq)+pz (l.dropWhile lq):=by rw[← bZ,fE]
  have hdl:(l.dropWhile lq).length≤l.length:=(gD _).length_le;have HI3:Hid (yX w D kb ab es (i+pz qs) (l.dropWhile lq) (k+pz (l.takeWhile lq)) acc rv vs w3):=by
   obtain⟨es',g1,g2⟩:=(HI.o).Ny;exact(HI.o).step hr ha (H3.o).2 (H3.o).1 ⟨es',Dz l g1,g2⟩ au
  have HEd:Hid (∀ p∈l.dropWhile lq,pI p):=fun p hp=>(HEl.o) p ((gD _).mem hp)
  clear HM H3 HI HEl;generalize l.dropWhile lq=l3 at *;generalize k+pz (l.takeWhile lq)=k3 at *;cases l3 with
  | nil =>
   have HF:=aA ((HI3.o).done);have hdf:decide (([]:List Part)≠[])=false:=aT
   rw[hdf];clear HI3;go_wp2_with fail
   go_ret;exact⟨rv,rfl,HF.o⟩
  | cons p l4 =>
   have hdt:decide (p::l4≠[])=true:=aT
   rw[hdt];clear hdt;obtain⟨v,hb,hnn⟩:=(HI3.o).rw.blk;have c1:=aj w3 _ 1 _ _ _ hb;obtain⟨g,o,cap,kv,rfl,hD,y0,y1,y2,y3,hkk,-,hc1,hc2,-,-⟩:=hnn.head;obtain⟨b4,b6,_,_,_,_,rfl,-⟩:=hkk.ex;have hi1:(0:Int)<((l4.length+1:Nat):Int):=au
   have hi2:0<l4.length+1:=au
   have yH:=(HI3.o).pos;rw[gF] at yH;rw[aY] at hdl;have HEp:=aA ((HEd.o) p aT);have HE4:Hid (∀ q∈l4,pI q):=fun q hq=>(HEd.o) q (eX _ hq)
   clear hb hnn hkk HEd;go_wp2_with fail
   refine(KX p _ _ _ w3).aX fun w4 k4=>?_;have HI4:=aA <| (HI3.o).step hr ha (Kq.aN k4 (aJ ha (HI3.o).kp.size)) ((HI3.o).rw.below k4) (HI3.o).Ny (HI3.o).pos;clear k4 HI3 c1 y0 y1 y2 y3;have HD4:∀ q,D q→q<w4.heap.size:=fun q hq=>aJ ((nP.o) q hq) (HI4.o).kp.size
   cases hnq:X.exq p with
   | false =>
    have HN:Hid (JH p=pz [p]∧∃ es',nA l4 (k3+pz [p]) es'∧es=acc++es'):=by
     obtain⟨es',g1,g2⟩:=(HI4.o).Ny;rcases Ik g1 with ⟨e,-⟩|⟨-,e2,e3⟩
     ·rw[hnq] at e;cases e
     ·exact⟨e2,es',e3,g2⟩
    have hln:=(HN.o).1;have UR:=aA (lN D kb ab p l4 k3 w4 (HI4.o).rw au HD4);clear HD4;go_wp2_with fail
    refine(UR.o).mono ?_;rintro e w5 ⟨d4,d5,d6,rfl,H5⟩;have sQ:Hid (yX w D kb ab es (i+pz qs) l4 (k3+pz [p]) acc rv vs w5):=by
     obtain⟨-,z2,z3⟩:=H5.o;rw[hln] at z2;exact(HI4.o).step hr ha z3 z2 (HN.o).2 au
    clear H5 UR HI4;have hl5:=(sQ.o).rw.len;go_wp2_with fail
    exact⟨⟨l4,k3+pz [p],acc,rv,vs,rfl,au,HE4,sQ⟩,by rw[hlen,hl5];omega⟩
   | true =>
    have HN:Hid (∃ e,Rd p k3 e∧∃ es',nA l4 (k3+pz [p]) es'∧es=(acc++[e])++es'):=by
     obtain⟨es',g1,g2⟩:=(HI4.o).Ny;rcases Ik g1 with ⟨-,e,es2,e1,e2,e3⟩|⟨e,-⟩
     ·exact⟨e,e2,es2,e3,by rw[g2,e1,aK];rfl⟩
     ·rw[hnq] at e;cases e
    obtain⟨e0,hrd,hes'⟩:=HN.o;have LV:=aA hes';have hacc:acc.length≤268435456:=by
     have:=congrArg List.length hes'.choose_spec.2;simp at this;omega
    have HC:=aA ((HEp.o) e0 k3 D kb ab l4 w4 hrd (HI4.o).rw au HD4);clear HD4 hes' HN hrd;go_wp2_with fail
    refine(HC.o).mono ?_;rintro e w5 ⟨v5,rfl,X5⟩;obtain⟨y1,g1,hv1⟩:=(X5.o).1.iface;subst hv1;have hvl:=(HI4.o).len;have OD:=aA <| (X5.o).2.2.owns (HI4.o).own aS (fun g hg=>by
     have:=(dG (HI4.o).own g hg).1;exact⟨au,au⟩)
    have hs5:w.heap.size≤w5.heap.size:=by have:=(X5.o).2.2.size;have:=(HI4.o).kp.size;omega
    go_wp2_with (at_builtin;refine wpList_append_lies _ rfl _ _ 257 rfl w.heap.size 179 i0 _ 1 16 underlying257 hi0 hz0 hz1 hz2 rfl aS rv acc.length _ rfl ((OD.o).alloc _) ⟨w5.heap.size,0,none⟩ 1 1 [.iface y1 (aH g1)] rfl rfl (World.news_of_block (cs:=#[.iface y1 (aH g1)]) (aI w5 _)) (by simp[Value.oneCell']) au (by unfold maxLen;omega) au aQ (w5.heap.size+1) aT ?_;intro g7 Ho w7 oM jB rO KI;have P5:=aA ((HI4.o).more hr ha nP.o (X5.o).2.2 (X5.o).2.1 (X5.o).1 LV.o au _ oM jB rO);clear oM jB)
    have UN:=(P5.o).rw.len;exact⟨⟨l4,k3+pz [p],acc++[e0],_,_,rfl,au,HE4,P5⟩,by rw[hlen,UN];omega⟩
theorem OU(D:Nat→Prop)(kb ab:Nat)(p:Part)(gs:List Part)(e:Ex)(es:List Ex)(i:Nat)(w:aG)(h:dR w D kb ab ([p]++[Part.br 12 gs]) i)(hc:Rd p i e)(hg:nA gs (i+pz [p]) es)(H1:pI p)(HE:∀ q∈gs,pI q)
  (hi:i+pz ([p]++[Part.br 12 gs])≤1073741824) (sP:gs.length≤268435456) (hel:es.length≤268435456) (hDl:∀ q,D q→q<w.heap.size) :
  bB 132 #[aH kb] w fun en w'=>∃ b,en=.returned (aH b)∧Hid (je w' w.heap.size w'.heap.size (.iface 266 (aH b)) (.call e es)∧dR w' D kb ab [] (i+pz ([p]++[Part.br 12 gs]))∧Kq D kb ab w w'):=by
 obtain⟨hr,ha⟩:=h.lt;have hgg:=h.JI.app.br.2;have hz:pz ([p]++[Part.br 12 gs])=pz [p]+pz gs:=by rw[bZ,iw]
 rw[hz] at hi;have ug:=aA (H1 e i D kb ab [Part.br 12 gs] w hc h au hDl);have nP:Hid (∀ W:aG,w.heap.size≤W.heap.size→∀ q,D q→q<W.heap.size):=fun W hW q hq=>aJ (hDl q hq) hW
 have HG:=aA hg;have HEs:=aA HE;clear h hDl hc hg HE;go_enter func132,ntmps132;go_wp2_with fail
 refine(ug.o).mono ?_;rintro en w2 ⟨v1,rfl,X2⟩;obtain⟨y1,g1,hv1⟩:=(X2.o).1.iface;subst hv1;have hs2:=(X2.o).2.2.size;have kA:Below w2.heap.size w2 (w2.alloc (.cells #[ak 0,ak 0,.bool false,.iface y1 (aH g1),.slice none 0 0] 305)):=(aB _ w2).alloc (ax _) _;have hB3:Hid ((w2.alloc (.cells #[ak 0,ak 0,.bool false,.iface y1 (aH g1),.slice none 0 0] 305)).heap[w2.heap.size]?=some (.cells #[ak 0,ak 0,.bool false,.iface y1 (aH g1),.slice none 0 0] 305 (0,0))):=aI w2 _;have K3:=aA <| (X2.o).2.2.more kA ha;have hE3:=aA <| (X2.o).1.keep (Kp.aN kA (fun _=>False)) (fun _ _ _=>id);have uh:=aA (ou D kb ab (.br 12 gs) [] (i+pz [p]) _ ((X2.o).2.1.below kA) (by show i+pz [p]+0≤_;omega) ((nP.o) _ (K3.o).size));clear ug kA X2;go_wp2_with fail
 generalize w2.alloc (.cells #[ak 0,ak 0,.bool false,.iface y1 (aH g1),.slice none 0 0] 305)=W3 at *;generalize w2.heap.size=b at *;refine(uh.o).mono ?_;rintro en w4 ⟨a4,a5,a6,rfl,X4⟩;have K4:=aA <| (K3.o).trans (X4.o).2.2;have hB4:=aA ((X4.o).2.2.made hr ha hs2 hB3.o aS);have hE4:=aA ((hE3.o).lD (X4.o).2.2 (aJ hr (ax _)) (aJ ha (ax _)));have HIn:Hid (dR (w4.alloc (.cells #[aH ab,.slice a4 a5 a6] 119)) D w4.heap.size ab gs (i+pz [p])∧∀(w5:aG) (l:List Part) (k:Nat),dR w5 D w4.heap.size ab l k→Kq D w4.heap.size ab (w4.alloc (.cells #[aH ab,.slice a4 a5 a6] 119)) w5→dR w5 D kb ab [] k∧Kq D kb ab w4 w5):=MQ (X4.o).2.1 (X4.o).1 hgg ((nP.o) _ (K4.o).size);have hbl:=bN hB4.o;have bP1:(w4.alloc (.cells #[aH ab,.slice a4 a5 a6] 119)).heap.size=w4.heap.size+1:=aT
 have cS8:=(K4.o).size;have Gq:=aA (lZ D w4.heap.size ab gs es (i+pz [p]) _ (HIn.o).1 HG.o HEs.o au sP hel (fun q hq=>by have:=(nP.o) _ (K4.o).size q hq;omega));clear uh X4 K3 hB3 hE3;go_wp2_with fail
 have hkB:Below w4.heap.size w4 (w4.alloc (.cells #[aH ab,.slice a4 a5 a6] 119)):=(aB _ w4).alloc (ax _) _;refine(Gq.o).mono ?_;rintro en w6 ⟨rv,rfl,X6⟩;obtain⟨ao,cap,vs,VZ,hc1,hc2,hrr,hpp⟩:=(X6.o).1.ex;subst VZ;obtain⟨z1,z2⟩:=(HIn.o).2 w6 [] _ (X6.o).2.1 (X6.o).2.2;have RJ:=z2.made hr ha hs2 hB4.o aS;have c1:=aj w6 _ 4 _ _ _ RJ;have f1:w6.frozen? (aC b 4)=false:=dO RJ
 have HFin:Hid (je (w6.setCell (aC b 4) (.slice ao es.length cap)) w.heap.size (w6.setCell (aC b 4) (.slice ao es.length cap)).heap.size (.iface 266 (aH b)) (.call e es)∧dR (w6.setCell (aC b 4) (.slice ao es.length cap)) D kb ab [] (i+pz ([p]++[Part.br 12 gs]))∧Kq D kb ab w (w6.setCell (aC b 4) (.slice ao es.length cap))):=by
  have hk:Kp (fun q=>q=b) w6 (w6.setCell (aC b 4) (.slice ao es.length cap)):=On.set (Kp.refl _ w6) 4 _;have hsz:(w6.setCell (aC b 4) (.slice ao es.length cap)).heap.size=w6.heap.size:=by simp[World.setCell]
  have bO7:=z2.size;have hE6:=(hE4.o).lD z2 (aJ hr (ax _)) (aJ ha (ax _));rw[bP1] at hrr hpp;rw[hsz,hz];refine⟨.call (m:=0) (n:=0) (z:=false) b _ e ao cap vs es ⟨hs2,au⟩ (by simp[World.setCell,aZ,RJ]) ⟨hc1,hc2⟩ ((hE6.keep hk (fun i h1 h2 e=>au)).wide (ax _) au) (fun j hj=>?_) (fun j e' hj=>?_),?_,((K4.o).trans z2).set ha hs2 _ _⟩
  ·obtain⟨g,e1,e2,e3,e4,c,f,e5⟩:=hrr j hj
   exact⟨g,e1,au,e3,hk.dD e4 aQ,c,f,hk.heap e5 au⟩
  ·exact((hpp j e' hj).keep hk (fun q h1 h2 e=>au)).wide au (ax _)
  ·have hR:=z1.on hk RJ aS au au (fun hd=>by have:=(nP.o) w (ax _) _ hd;omega)
   rw[show i+(pz [p]+pz gs)=i+pz [p]+pz gs by omega];exact hR
 clear Gq X6 hB4 hE4 K4 RJ z1 z2 HIn hrr hpp;go_wp2_with fail
 go_ret;exact⟨b,rfl,HFin.o⟩
end
end Go.Proofs.YtoohcklcppnafaaGreatDoor
