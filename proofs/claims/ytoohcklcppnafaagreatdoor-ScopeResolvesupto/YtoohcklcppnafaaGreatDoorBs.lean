import Derived.Test.YtoohcklcppnafaaGreatDoorBp
namespace Go.Proofs.YtoohcklcppnafaaGreatDoor
set_option maxRecDepth 100000
set_option maxHeartbeats 16000000
open Tryz
open Go.RowKit
open M
open X
section
variable{qs t1 t2:List Part}{i nc ac:Nat}{ns sl:List Nm}{v:Value}{q:Part}{e:Ex}{no ao:Option Addr}
variable{w0:aG}{K:DK}{l:List AF}{us:List X.U}{w:aG}
theorem Ga(h:nU qs i ns):ns.length≤qs.length:=by
 induction h with
 | nil i=>exact ax _
 | name x ps i ns h ih=>rw[aY,aY];omega
 | leaf k x ps i ns hk h ih=>rw[aY];omega
 | lack ps i ns h ih=>rw[aY,aY];omega
 | miss m ps i ns hm h ih=>rw[aY];omega
theorem zk(ps:List Part):ps.length≤eT ps:=by
 induction ps with
 | nil=>exact bJ _
 | cons q ps ih=>rw[eT,aY];have:=jA q;omega
theorem Ql(h:Dr w0 K l us w)(hv:lS w K.a K.b v (.br 6 qs) i)(hn:nU qs i ns)(hy:oG qs)(hl:qs.length≤1073741824) :
  bB 35 #[v] w fun e w'=>∃ pa pc,e=.returned (.slice pa ns.length pc)∧Hid (yO K w0.heap.size w' (.slice pa ns.length pc) ns∧Below w.heap.size w w'):=by
 have hbw:=dI h.st.bl h.size;have hwl:=h.wl;refine(Cv hv hbw hn hy hl).mono ?_;rintro e w' ⟨rv,rfl,H⟩;obtain⟨⟨vs,hlf,hown⟩,hb⟩:=H.o;obtain⟨pa,pc,rfl,h1,h2,-,h4⟩:=qQ hown;rw[hlf.1] at h1 ⊢;refine⟨pa,pc,rfl,⟨pa,pc,rfl,h1,h2,fun j n hj=>?_⟩,hb⟩;obtain⟨u,e1,e2⟩:=hlf.2 j n hj;obtain⟨g,cs,d,e3,e4,e5,e6⟩:=h4 j u e1;exact⟨g,u,e3,Sf.made e5 au aS,e6,e2.below hb⟩
theorem NG(h:Dr w0 K l us w)(hn:lS w K.a K.b v (.br 9 (t1++([.br 6 qs]++(t2++[q])))) i)(h1:sj t1)(h2:sj t2)(hb:Rd q (i+pz t1+pz qs+pz t2) e)(hk:su (.br 9 (t1++([.br 6 qs]++(t2++[q])))))(hz:jh (.br 9 (t1++([.br 6 qs]++(t2++[q]))))≤1073741823)(hsc:oH K w0.heap.size w no nc ao ac sl) :
  bB 33 #[v] (w.alloc (.cells #[.slice no sl.length nc,.slice ao sl.length ac] 67)) fun e w2=>∃ g rc v0 v1 v2 v3,e=.returned (.slice (b_ g) 4 rc)∧Hid (yS w0 K l us w (.br 9 (t1++([.br 6 qs]++(t2++[q])))) i no ao nc ac sl [v0,v1,v2,v3] (b_ g) rc w2∧lS w2 K.a K.b v1 (.br 6 qs) (i+pz t1)∧lS w2 K.a K.b v3 q (i+pz t1+pz qs+pz t2)):=by
 refine(rF h hn hk hz hsc).mono ?_;rintro e' w2 ⟨ro,rc,vs,rfl,-,HI⟩;have hlp:LP w2 K.a K.b vs (t1++([.br 6 qs]++(t2++[q]))) i:=(HI.o).lp;obtain⟨l1,m1,rfl,g1,JZ⟩:=hlp.app;obtain⟨v0,p0,j0,rfl,-⟩:=g1.y_ h1;obtain⟨l2,m2,rfl,g2,zT⟩:=JZ.app;obtain⟨v1,rfl,hv1⟩:=g2.one rfl;obtain⟨l3,m3,rfl,g3,J6⟩:=zT.app;obtain⟨v2,p2,j2,rfl,-⟩:=g3.y_ h2;obtain⟨v3,rfl,hv3⟩:=J6.one (zU hb).2;obtain⟨g,cs,d,rfl,-⟩:=(HI.o).row 0 v0 rfl;rw[iw] at hv3;exact⟨g,rc,v0,v1,v2,v3,rfl,HI.o,hv1,hv3⟩
theorem Qm{n:Nat}(ih:CO w0 K l n){f:Nat}{a:AF}{sc:List (List Nm)}(h:Dr w0 K l us w)(hf:l[f]?=some a)(hn:lS w K.a K.b v (.br 9 (t1++([.br 6 qs]++(t2++[q])))) i)(h1:sj t1)(hns:nU qs (i+pz t1) ns)(h2:sj t2)(hb:Rd q (i+pz t1+pz qs+pz t2) e)(hy:Cx (.br 9 (t1++([.br 6 qs]++(t2++[q])))))(hk:su (.br 9 (t1++([.br 6 qs]++(t2++[q])))))(hpn:jh (.br 9 (t1++([.br 6 qs]++(t2++[q]))))≤n+1)(hz:sl.length+jh (.br 9 (t1++([.br 6 qs]++(t2++[q]))))≤1073741823)(hsc:oH K w0.heap.size w no nc ao ac sl)(hsg:Sg sc sl)(hlim:us.length+(exU f (fH (dA l) f) sc (.fn ns e)).length≤1073741824) :
  bB 21 #[aH K.wb,ak f,v,.agg #[.slice no sl.length nc,.slice ao sl.length ac]] w fun e' w'=>e'=.returned (.tuple #[])∧Hid (Dr w0 K l (us++exU f (fH (dA l) f) sc (.fn ns e)) w'∧Dx K w0.heap.size w w'):=by
 have HC:=aA (NG h hn h1 h2 hb hk au hsc);have hpp:jh (.br 9 (t1++([.br 6 qs]++(t2++[q]))))=1+(eT t1+((1+eT qs)+(eT t2+jh q))):=by rw[jh,bR,bR,bR,gM,gM,jh]
 have hqs:=zk qs;have hnl:=Ga hns;have hbq:=(hy.kids.app.2.app.1).one.kids;have hby:=(hy.kids.app.2.app.2.app.2).one;have hko:=(iX (iX (iX hk.2).2).2).2.1;rw[exU] at hlim ⊢;rw[ay] at hlim;have Jv:Hid (∀ w2 v1,Dr w0 K l us w2→lS w2 K.a K.b v1 (.br 6 qs) (i+pz t1)→bB 35 #[v1] w2 fun e w'=>∃ pa pc,e=.returned (.slice pa ns.length pc)∧Hid (yO K w0.heap.size w' (.slice pa ns.length pc) ns∧Below w2.heap.size w2 w')):=fun w2 v1 d1 d2=>Ql d1 d2 hns hbq au
 have HBr:Hid (∀ w2 pa pc,Dr w0 K l us w2→yO K w0.heap.size w2 (.slice pa ns.length pc) ns→oH K w0.heap.size w2 no nc ao ac sl→bB 20 #[aH K.wb,ak f,.slice pa ns.length pc,.agg #[.slice no sl.length nc,.slice ao sl.length ac]] w2 fun e w'=>∃ no' ru pV rz,e=.returned (.agg #[.slice no' (sl++X.dd [] ns).length ru,.slice pV (sl++X.dd [] ns).length rz])∧Hid (Dr w0 K l (us++iL f [] ns) w'∧Dx K w0.heap.size w2 w'∧oH K w0.heap.size w' no' ru pV rz (sl++X.dd [] ns))):=fun w2 pa pc d1 d2 d3=>CG f pa no ao pc nc ac ns sl d1 d2 d3 au au
 have hdl:=zN [] ns;have YJ:Hid (∀ w2 v3 no' ru pV rz,Dr w0 K l (us++iL f [] ns) w2→lS w2 K.a K.b v3 q (i+pz t1+pz qs+pz t2)→oH K w0.heap.size w2 no' ru pV rz (sl++X.dd [] ns)→bB 21 #[aH K.wb,ak f,v3,.agg #[.slice no' (sl++X.dd [] ns).length ru,.slice pV (sl++X.dd [] ns).length rz]] w2 fun e' w'=>e'=.returned (.tuple #[])∧Hid (Dr w0 K l ((us++iL f [] ns)++exU f (fH (dA l) f) (ns::sc) e) w'∧Dx K w0.heap.size w2 w')):=fun w2 v3 no' ru pV rz d1 d2 d3=>ih (us++iL f [] ns) w2 f a q _ v3 no' pV ru rz (sl++X.dd [] ns) (ns::sc) _ d1 hf d2 (.inl ⟨e,hb,rfl⟩) hby hko au d3 (hsg.aH9 ns) (by rw[ay];omega) (by rw[ay];omega)
 obtain⟨N,aoN,Qk,kM,en,fr,tt,la,vsN,rfl,hN1,tX,hnd,-⟩:=hn.any;obtain⟨⟨n0,-⟩,-⟩:=hnd.facts;have b9:((pk (.br 9 (t1++([.br 6 qs]++(t2++[q])))):Nat):Int)=9:=rfl;rw[b9] at n0;have HS:=aA h.st;have hwb:=h.wl;generalize hP:Part.br 9 (t1++([.br 6 qs]++(t2++[q])))=P at *;generalize hsm:sl++X.dd [] ns=sm at *;clear h hf hn h1 hns h2 hb hy hk hsc hsg hnd ih hbq hby hko hpp hqs hpn hz hP;go_enter func21,ntmps21;go_wp2_with fail
 refine(HC.o).mono ?_;rintro e' w2 ⟨g,rc,v0,v1,v2,v3,rfl,HI⟩;have m0:=Kp.dD (HI.o).1.dx n0 ((HS.o).nodes _ N hN1 tX);have hrb:=(HI.o).1.rb;obtain⟨g',cs,d,e1,hg1,hgb,g1⟩:=(HI.o).1.row 1 v1 rfl;cases e1
 have zO:=aA ((Jv.o) w2 v1 (HI.o).1.dr (HI.o).2.1);have bF0:4≤rc:=hrb.1;have bF1:=hrb.2;clear HC n0 Jv hrb hgb;go_wp2_with fail
 refine(zO.o).mono ?_;rintro e' w3 ⟨pa,pc,rfl,H3⟩;have HI3:=aA <| (HI.o).1.keep hwb ((HI.o).1.dr.below (H3.o).2) (Dx.aN (H3.o).2);have b0:=aj w3 _ 0 _ _ _ (HI3.o).blk;have b1:=aj w3 _ 1 _ _ _ (HI3.o).blk;have HB3:=aA ((HBr.o) w3 pa pc (HI3.o).dr (H3.o).1 (HI3.o).sc);have Xy:=aA <| (HI.o).2.2.below (H3.o).2;clear HBr zO HI H3 m0 g1;go_wp2_with fail
 refine(HB3.o).mono ?_;rintro e' w5 ⟨no',ru,pV,rz,rfl,H5⟩;have sQ:=aA <| (HI3.o).keep hwb (H5.o).1 (H5.o).2.1;have HV5:=aA <| (Xy.o).keep (H5.o).2.1 ((HS.o).nodes _);have kA:Below w5.heap.size w5 (w5.alloc (.cells #[.slice no' sm.length ru,.slice pV sm.length rz] 67)).drew:=((aB _ w5).alloc (ax _) _).drew;have hw5:=(sQ.o).dx.size;have Ec:=aA ((YJ.o) (w5.alloc (.cells #[.slice no' sm.length ru,.slice pV sm.length rz] 67)).drew v3 no' ru pV rz ((sQ.o).dr.below kA) ((HV5.o).below kA) ((H5.o).2.2.keep (Dx.aN kA)));have Gb:=aA <| (sQ.o).keep hwb ((sQ.o).dr.below kA) (Dx.aN kA);obtain⟨g6,cs6,d6,e1,-,hgb,g3⟩:=(Gb.o).row 3 v3 rfl;cases e1
 have HX:(w5.alloc (.cells #[.slice no' sm.length ru,.slice pV sm.length rz] 67)).drew.heap[w5.heap.size]?=some (.cells #[.slice no' sm.length ru,.slice pV sm.length rz] 67 (0,0)):=aI w5 _;have JY:Hid (¬ K.Sx w0.heap.size (w5.alloc (.cells #[.slice no' sm.length ru,.slice pV sm.length rz] 67)).drew g):=mV hgb au aS;have zS:Hid (¬ K.Sx w0.heap.size (w5.alloc (.cells #[.slice no' sm.length ru,.slice pV sm.length rz] 67)).drew w5.heap.size):=mV HX au aS;have x0:=aj _ _ 0 _ _ _ HX;have x1:=aj _ _ 1 _ _ _ HX;clear YJ HB3 HI3 Xy b0 b1 H5 HV5 HX hgb;go_wp2_with fail
 refine wp_region_noPanic ?_;refine dB (S:=fun w'=>w'.cell? (aC g 3)=some v3∧w'.cell? (aC w5.heap.size 0)=some (.slice no' sm.length ru)∧w'.cell? (aC w5.heap.size 1)=some (.slice pV sm.length rz)) (z:=7) bC ?_;have hS:(w5.alloc (.cells #[.slice no' sm.length ru,.slice pV sm.length rz] 67)).drew.cell? (aC g 3)=some v3∧(w5.alloc (.cells #[.slice no' sm.length ru,.slice pV sm.length rz] 67)).drew.cell? (aC w5.heap.size 0)=some (.slice no' sm.length ru)∧(w5.alloc (.cells #[.slice no' sm.length ru,.slice pV sm.length rz] 67)).drew.cell? (aC w5.heap.size 1)=some (.slice pV sm.length rz):=⟨g3,x0,x1⟩;iterate 6(refine oQ hS ?_;simp only[Act.put,aD,aO,aP])
 refine dY (i:=6) bC rfl (fun KK hK=>?_);go_simp;refine(Ec.o).aX fun w4 H4=>?_;have p1:=Kp.dD (H4.o).2 hS.1 JY.o;have p2:=Kp.dD (H4.o).2 hS.2.1 zS.o;have p3:=Kp.dD (H4.o).2 hS.2.2 zS.o;go_simp;refine hK.o _ _ (fun _=>⟨p1,p2,p3⟩) (fun _=>iF ?_);clear hK KK hS;refine NoPanic.normal ?_;have HF:Hid (Dr w0 K l (us++(iL f [] ns++exU f (fH (dA l) f) (ns::sc) e)) w4∧Dx K w0.heap.size w w4):=by
  rw[← aK];exact⟨(H4.o).1,(Gb.o).dx.trans (H4.o).2⟩
 clear Gb sQ H4 Ec;go_wp2_with fail
 (try simp only[Exit.inBlock,Exit.then])
 refine aW (results_none rfl _ _ _) rfl ?_;exact⟨rfl,HF⟩
end
section
variable{w:aG}{a b i:Nat}{v:Value}{p:Part}
def Qu(B:Nat)(w:aG)(a b:Nat)(v:Value)(ns:List Nm):Prop:=∃ ao cap,v=.slice ao ns.length cap∧ns.length≤cap∧cap≤maxLen∧∀(j:Nat) (n:Nm),ns[j]?=some n→∃ g cs d u,ao=some ⟨g,0,none⟩∧B≤g∧w.heap[g]?=some (.cells cs 51 d)∧w.cell? (aC g j)=some u∧qx w a b u n
theorem Qu.keep{S:Nat→Prop}{B:Nat}{w w':aG}{a b:Nat}{v:Value}{ns:List Nm}(h:Qu B w a b v ns)(hk:Kp S w w')(hS:∀ q,a≤q→q<b→¬ S q)(hT:∀ q cs d,B≤q→w.heap[q]?=some (.cells cs 51 d)→¬ S q):Qu B w' a b v ns:=by
 obtain⟨ao,cap,h1,h2,h3,h4⟩:=h;refine⟨ao,cap,h1,h2,h3,fun j n hj=>?_⟩;obtain⟨g,cs,d,u,e1,e2,e3,e4,e5⟩:=h4 j n hj;have:=hT g cs d e2 e3;exact⟨g,cs,d,u,e1,e2,hk.heap e3 this,hk.dD e4 this,e5.keep hk hS⟩
def Jy(B:Nat)(w:aG)(a b:Nat)(d:DI):It→Prop
 | .use p m n gs al=>d.use=true∧d.pub=p∧qx w a b (.pointer d.name) (if gs then al else n)∧qx w a b (.pointer d.mod) m∧qx w a b (.pointer d.item) n∧d.gs=gs∧qx w a b (.pointer d.al) al
 | .dfn p n ps e=>d.use=false∧d.pub=p∧qx w a b (.pointer d.name) n∧d.mod=none∧d.item=none∧d.al=none∧Qu B w a b (.slice d.pa d.pn d.pc) (ps.getD [])∧∃ q i,lS w a b (.pointer d.body) q i∧Rd q i e∧Cx q∧su q∧i+pz [q]≤1000000∧jh q≤268435456
theorem Jy.keep{S:Nat→Prop}{B:Nat}{w w':aG}{a b:Nat}{d:DI}{it:It}(h:Jy B w a b d it)(hk:Kp S w w')(hS:∀ q,a≤q→q<b→¬ S q)(hT:∀ q cs d,B≤q→w.heap[q]?=some (.cells cs 51 d)→¬ S q):Jy B w' a b d it:=by
 cases it with
 | use p m n gs al =>
  obtain⟨h1,h2,h3,h4,h5,h6,h7⟩:=h;exact⟨h1,h2,h3.keep hk hS,h4.keep hk hS,h5.keep hk hS,h6,h7.keep hk hS⟩
 | dfn p n ps e =>
  obtain⟨h1,h2,h3,h4,h5,h6,h7,q,i,h8,h9⟩:=h;exact⟨h1,h2,h3.keep hk hS,h4,h5,h6,h7.keep hk hS hT,q,i,h8.keep hk hS,h9⟩
theorem Qp{nm:Nm}(h:lS w a b v p i)(hl:qx w a b (JO p v) nm):∃ o,qx w a b (.pointer o) nm∧bB 34 #[v] w (cK (.pointer o) fun w'=>w'=w):=by
 have hv:=h.any;obtain⟨N,_,_,_,_,_,_,_,_,rfl,-⟩:=hv;have key:∃ o,JO p (aH N)=.pointer o:=by
  unfold JO
  split
  ·exact⟨_,rfl⟩
  ·exact⟨_,rfl⟩
 obtain⟨o,ho⟩:=key;refine⟨o,by rw[← ho];exact hl,?_⟩;have:=xg h;rw[ho] at this;exact this
theorem NM(hn:lS w a b v p i)(hb:b≤w.heap.size)(hk:su p)(hz:jh p≤1073741823)(hne:∀ w2 vs,LP w2 a b vs (X.pq p) i→vs≠[])(w1:aG)(h1:Below w.heap.size w w1) :
  bB 33 #[v] w1 fun e w2=>∃ g rc vs,e=.returned (.slice (b_ g) vs.length rc)∧Hid (LP w2 a b vs (X.pq p) i∧vs.length≤rc∧rc≤maxLen∧(∃ cs d,w2.heap[g]?=some (.cells cs 51 d))∧w1.heap.size≤g∧(∀ j u,vs[j]?=some u→w2.cell? (aC g j)=some u)∧Below w1.heap.size w1 w2):=by
 have hkl:=(zR p).2.1;refine(Cw (hn.below h1) (dI hb h1.size) hk au).mono ?_;rintro e w2 ⟨rv,rfl,H2⟩;obtain⟨⟨vs,hlp,hown⟩,hb2⟩:=H2.o;obtain⟨ro,rc,rfl,g1,g2,-,g4⟩:=qQ hown;have zT:=hlp.keep (Kp.aN hb2 (fun _=>False)) (fun _ _ _=>id);have hv:=hne w2 vs zT;obtain⟨u,vs',rfl⟩:=List.exists_cons_of_ne_nil hv;obtain⟨g,cs,d,rfl,e2,e3,e4⟩:=g4 0 u rfl;refine⟨g,rc,u::vs',rfl,zT,g1,g2,⟨cs,d,e3⟩,e2,fun j u' hj=>?_,hb2⟩;obtain⟨g',cs',d',e5,-,-,e8⟩:=g4 j u' hj;cases e5
 exact e8
end
section
variable{w2 W w:aG}{xb g j a b i R:Nat}{vs:Array Value}{v:Value}{pb t1 rest t:List Part}{pub:Bool}{l:List Value}
structure xw(w2:aG)(xb:Nat)(vs:Array Value)(W:aG):Prop where
 blk:W.heap[xb]?=some (.cells vs 57 (0,0))
 kp:Kp (fun q=>q=xb) w2 W
theorem xw.set(h:xw w2 xb vs W)(j:Nat)(v:Value):xw w2 xb (vs.setIfInBounds j v) (W.setCell (aC xb j) v):=⟨dV h.blk j v,Kp.setCell (S:=fun q=>q=xb) (p:=⟨xb,j,none⟩) h.kp (fun _=>rfl) _⟩
theorem xw.below{W':aG}(h:xw w2 xb vs W)(hb:Below W.heap.size W W'):xw w2 xb vs W':=⟨(Kp.aN hb (fun _=>False)).heap h.blk id,Kp.trans h.kp (Kp.aN hb (fun _=>False)) (fun _ _ e=>e.elim)⟩
theorem xw.cell(h:xw w2 xb vs W)(hc:w2.cell? (aC g j)=some v)(hg:g≠xb):W.cell? (aC g j)=some v:=h.kp.dD hc hg
inductive Fst(w2:aG)(a b:Nat):Value→Bool→Prop
 | yes (N:Nat) (h1:a≤N) (h2:N<b) (h3:w2.cell? (aC N 0)=some (ak 0)) (h4:w2.cell? (aC N 2)=some (.string (ba jY))):Fst w2 a b (aH N) true
 | no (N:Nat) (x:ah) (h1:a≤N) (h2:N<b) (h3:w2.cell? (aC N 0)=some (ak 0)) (h4:w2.cell? (aC N 2)=some (.string (ba x))) (hx:x≠jY):Fst w2 a b (aH N) false
 | miss (N:Nat) (h1:a≤N) (h2:N<b) (h3:w2.cell? (aC N 0)=some (ak 1)):Fst w2 a b (aH N) false
theorem Qv{vs:List Value}(h:LP w2 a b vs (pb++(t1++rest)) i)(hp:PS pb pub)(h1:Gg jY t1):∃ v0 v1 vr,vs=(if pub then [v0] else [])++(v1::vr)∧Fst w2 a b (if pub then v0 else v1) pub∧LP w2 a b vr rest (i+pz pb+pz t1):=by
 obtain⟨l1,m1,rfl,g1,h'⟩:=h.app;obtain⟨l2,m2,rfl,g2,h2⟩:=h'.app;have key:∀ {v:Value} {k:Nat} {x:ah} {i':Nat},lS w2 a b v (.leaf k x) i'→¬(k=1∨k=2)→∃ N,v=aH N∧a≤N∧N<b∧w2.cell? (aC N 0)=some (ak 0)∧w2.cell? (aC N 2)=some (.string (ba x)):=fun hv hk=>by
  obtain⟨N,rv,en,tt,la,rfl,h3,h4,h5⟩:=hv.leaf hk;obtain⟨⟨c0,-,c2,-⟩,-⟩:=h5.facts;exact⟨N,rfl,h3,h4,c0,c2⟩
 have second:∃ v1,True∧l2=[v1]∧Fst w2 a b v1 false:=by
  rcases h1 with ⟨k,x,qs,ht,hx⟩|⟨m,rfl⟩
  ·obtain⟨v,rfl,hv⟩:=g2.tk1 ht
   obtain⟨N,rfl,n1,n2,n3,n4⟩:=key hv ht.ne;exact⟨_,trivial,rfl,.no N x n1 n2 n3 n4 hx⟩
  ·obtain⟨v,rfl,hv⟩:=g2.one rfl
   obtain⟨N,ao,cap,kM,en,fr,tt,la,rfl,n1,n2,hnd⟩:=hv.miss;obtain⟨⟨c0,-⟩,-⟩:=hnd.facts;exact⟨_,trivial,rfl,.miss N n1 n2 c0⟩
 obtain⟨v1,-,rfl,hf⟩:=second;cases hp with
 | yes _ k qs ht =>
  obtain⟨v,rfl,hv⟩:=g1.tk1 ht;obtain⟨N,rfl,n1,n2,n3,n4⟩:=key hv ht.ne;exact⟨_,v1,m2,rfl,.yes N n1 n2 n3 n4,h2⟩
 | no =>
  cases g1
  exact⟨v1,v1,m2,rfl,hf,h2⟩
theorem Vh(h:LP w2 a b (v::l) t i)(s:ah)(ht:Gg s t):l=[]∧∃ N,v=aH N∧a≤N∧N<b∧((w2.cell? (aC N 0)=some (ak 0)∧∃ x,x≠s∧w2.cell? (aC N 2)=some (.string (ba x)))∨w2.cell? (aC N 0)=some (ak 1)):=by
 rcases ht with ⟨k,x,qs,ht,hx⟩|⟨m,rfl⟩
 ·obtain⟨v',e,hv⟩:=h.tk1 ht
  cases e
  obtain⟨N,rv,en,tt,la,rfl,h3,h4,h5⟩:=hv.leaf ht.ne;obtain⟨⟨c0,-,c2,-⟩,-⟩:=h5.facts;exact⟨rfl,N,rfl,h3,h4,.inl ⟨c0,x,hx,c2⟩⟩
 ·obtain⟨v',e,hv⟩:=h.one rfl
  cases e
  obtain⟨N,ao,cap,kM,en,fr,tt,la,rfl,n1,n2,hnd⟩:=hv.miss;obtain⟨⟨c0,-⟩,-⟩:=hnd.facts;exact⟨rfl,N,rfl,n1,n2,.inr c0⟩
theorem Qw(h:LP w2 a b l t i)(ht:sj t):∃ v,l=[v]:=by
 obtain⟨v,p,i',e,-⟩:=h.y_ ht;exact⟨v,e⟩
theorem Gh{t:TypeId}{z0 z1 z2 z3 z4 z5 z6 z7 z8 z9 PU:Value}(h:W.heap[R]?=some (.cells #[z0,z1,z2,z3,z4,z5,z6,z7,z8,z9,PU] t (0,0)))(a0 a1 a2 a3 a4 a5 a6 a7 a8 a9 a10:Value):(((((((((((W.setCell (aC R 0) a0).setCell (aC R 1) a1).setCell (aC R 2) a2).setCell (aC R 3) a3).setCell (aC R 4) a4).setCell (aC R 5) a5).setCell (aC R 6) a6).setCell (aC R 7) a7).setCell (aC R 8) a8).setCell (aC R 9) a9).setCell (aC R 10) a10).heap[R]?=some (.cells #[a0,a1,a2,a3,a4,a5,a6,a7,a8,a9,a10] t (0,0)):=by
 have s0:=h;have s1:=dV s0 0 a0;simp only[aD,aO] at s1;have s2:=dV s1 1 a1;simp only[aD,aO,aP] at s2;have s3:=dV s2 2 a2;simp only[aD,aO,aP] at s3;have s4:=dV s3 3 a3;simp only[aD,aO,aP] at s4;have s5:=dV s4 4 a4;simp only[aD,aO,aP] at s5;have s6:=dV s5 5 a5;simp only[aD,aO,aP] at s6;have s7:=dV s6 6 a6;simp only[aD,aO,aP] at s7;have s8:=dV s7 7 a7;simp only[aD,aO,aP] at s8;have s9:=dV s8 8 a8;simp only[aD,aO,aP] at s9;have s10:=dV s9 9 a9;simp only[aD,aO,aP] at s10;have s11:=dV s10 10 a10;simp only[aD,aO,aP] at s11;exact s11
theorem zX{S:Nat→Prop}(h:Kp S w2 W)(hR:S R)(a0 a1 a2 a3 a4 a5 a6 a7 a8 a9 a10:Value):Kp S w2 (((((((((((W.setCell (aC R 0) a0).setCell (aC R 1) a1).setCell (aC R 2) a2).setCell (aC R 3) a3).setCell (aC R 4) a4).setCell (aC R 5) a5).setCell (aC R 6) a6).setCell (aC R 7) a7).setCell (aC R 8) a8).setCell (aC R 9) a9).setCell (aC R 10) a10):=by
 have k1:=Kp.setCell (S:=S) (p:=⟨R,0,none⟩) h (fun _=>hR) a0;have k2:=Kp.setCell (S:=S) (p:=⟨R,1,none⟩) k1 (fun _=>hR) a1;have k3:=Kp.setCell (S:=S) (p:=⟨R,2,none⟩) k2 (fun _=>hR) a2;have k4:=Kp.setCell (S:=S) (p:=⟨R,3,none⟩) k3 (fun _=>hR) a3;have k5:=Kp.setCell (S:=S) (p:=⟨R,4,none⟩) k4 (fun _=>hR) a4;have k6:=Kp.setCell (S:=S) (p:=⟨R,5,none⟩) k5 (fun _=>hR) a5;have k7:=Kp.setCell (S:=S) (p:=⟨R,6,none⟩) k6 (fun _=>hR) a6;have k8:=Kp.setCell (S:=S) (p:=⟨R,7,none⟩) k7 (fun _=>hR) a7;have k9:=Kp.setCell (S:=S) (p:=⟨R,8,none⟩) k8 (fun _=>hR) a8;have k10:=Kp.setCell (S:=S) (p:=⟨R,9,none⟩) k9 (fun _=>hR) a9;have k11:=Kp.setCell (S:=S) (p:=⟨R,10,none⟩) k10 (fun _=>hR) a10;exact k11
def Ee(w2:aG)(a b g j:Nat)(n:Nm):Prop:=∃ u p i,w2.cell? (aC g j)=some u∧lS w2 a b u p i∧qx w2 a b (JO p u) n
theorem Ee.call{n:Nm}(h:Ee w2 a b g j n)(hb:b≤xb)(hg:g≠xb):∃ u o,qx w2 a b (.pointer o) n∧∀ W,Kp (fun q=>q=xb) w2 W→W.cell? (aC g j)=some u∧bB 34 #[u] W (cK (.pointer o) fun w'=>w'=W):=by
 obtain⟨u,p,i,h1,h2,h3⟩:=h;have key:∃ o,JO p u=.pointer o:=by
  obtain⟨N,_,_,_,_,_,_,_,_,rfl,-⟩:=h2.any;unfold JO
  split
  ·exact⟨_,rfl⟩
  ·exact⟨_,rfl⟩
 obtain⟨o,eo⟩:=key;refine⟨u,o,by rw[← eo];exact h3,fun W hk=>⟨hk.dD h1 hg,?_⟩⟩;have:=xg (h2.keep hk (fun q h4 h5=>by show ¬ q=xb;omega));rw[eo] at this;exact this
def nR(pub:Bool):Nat:=if pub then 1 else 0
structure PtI(w w2:aG)(a b:Nat)(pub:Bool)(g nn rc:Nat)(rest:List Part)(i:Nat):Prop where
 fst:∃ N,w2.cell? (aC g 0)=some (aH N)∧Fst w2 a b (aH N) pub
 cap:nR pub+nn≤rc∧rc≤maxLen
 gl:w.heap.size+1<g∧g<w2.heap.size
 vs:∃ v1 vr,nn=vr.length+1∧LP w2 a b vr rest i∧∀ j u,(v1::vr)[j]?=some u→w2.cell? (aC g (nR pub+j))=some u
theorem zY{k:Nat}(hn:lS w a b v (.br k (pb++(t1++rest))) i)(hb:b≤w.heap.size)(hp:PS pb pub)(h1:Gg jY t1)(hk:su (.br k (pb++(t1++rest))))(hz:jh (.br k (pb++(t1++rest)))≤268435456)(w1:aG)(hb1:Below w.heap.size w w1)(hs:w1.heap.size=w.heap.size+2) :
  bB 33 #[v] w1 fun e w2=>∃ g nn rc,e=.returned (.slice (b_ g) (nR pub+nn) rc)∧nn≤268435456∧Hid (PtI w w2 a b pub g nn rc rest (i+pz pb+pz t1)∧Below w1.heap.size w1 w2):=by
 refine(NM hn hb hk au (fun w2 vs hlp e=>?_) w1 hb1).mono ?_
 ·subst e
  obtain⟨v0,v1,vr,e,-⟩:=Qv hlp hp h1;cases pub<;>simp at e
 ·rintro e w2 ⟨g,rc,vs,rfl,H⟩
  obtain⟨e1,e2,e3,⟨cs,d,e4⟩,e5,e6,e7⟩:=H.o;have hl:=e1.len;have hkl:=(zR (.br k (pb++(t1++rest)))).2.1;obtain⟨v0,v1,vr,rfl,f1,f2⟩:=Qv e1 hp h1;have hlen:((if pub then [v0] else [])++(v1::vr)).length=nR pub+(vr.length+1):=by cases pub<;>simp[nR]<;>omega
  rw[hlen] at e2 hl ⊢;obtain⟨N0,hN0⟩:∃ N,(if pub then v0 else v1)=aH N:=by
   generalize (if pub then v0 else v1)=vf at f1;cases f1<;>exact⟨_,rfl⟩
  have hrow:∀ j u,(v1::vr)[j]?=some u→w2.cell? (aC g (nR pub+j))=some u:=fun j u hj=>by
   refine e6 (nR pub+j) u ?_;cases pub with
   | true =>
    have e:nR true+j=j+1:=by simp[nR];omega
    rw[e];exact hj
   | false =>
    have e:nR false+j=j:=by simp[nR]
    rw[e];exact hj
  have h0:w2.cell? (aC g 0)=some (if pub then v0 else v1):=e6 0 _ (by cases pub<;>rfl);refine⟨g,vr.length+1,rc,rfl,au,⟨⟨N0,by rw[← hN0];exact h0,by rw[← hN0];exact f1⟩,⟨e2,e3⟩,⟨au,bN e4⟩,⟨v1,vr,rfl,f2,hrow⟩⟩,e7⟩
theorem Qx{p:Part}{gs:Bool}{m n al:Nm}(hn:lS w a b v p i)(hb:b≤w.heap.size)(hr:X.BV p i (.use pub m n gs al))(hy:Cx p)(hk:su p)(hz:jh p≤268435456) :
  bB 16 #[v] w fun e w'=>∃ d:DI,e=.returned (.agg d.arr)∧Hid (Jy w.heap.size w' a b d (.use pub m n gs al)∧Below w.heap.size w w'):=by
 cases hr with
 | use pb t1 n1 t2 n2 ap t3 _ _ _ _ _ _ hp h1 hm h2 hnm ha h3 =>
 have HPt:=aA (fun w1 h1' h2'=>zY hn hb hp h1 hk hz w1 h1' h2');obtain⟨N,aoN,Qk,kM,en,fr,tt,la,vsN,rfl,hN1,tX,hnd,-⟩:=hn.any;obtain⟨⟨k0,-⟩,-⟩:=hnd.facts;have b0:((pk (.br 3 (pb++(t1++(n1++(t2++(n2++(ap++t3))))))):Nat):Int)=3:=rfl;rw[b0] at k0;have rC:N<w.heap.size:=au
 have hyk:=hy.kids;have hB1:=hyk.app.2.app.2.app.1;have hB2:=hyk.app.2.app.2.app.2.app.2.app.1;have hB3:=hyk.app.2.app.2.app.2.app.2.app.2.app.1;have Qy:Hid (∀ w2 g nn rc,PtI w w2 a b pub g nn rc (n1++(t2++(n2++(ap++t3)))) (i+pz pb+pz t1)→5≤nn∧Ee w2 a b g (nR pub+1) m∧Ee w2 a b g (nR pub+3) n∧((gs=true∧6≤nn∧(∃ M,w2.cell? (aC g (nR pub+4))=some (aH M)∧a≤M∧M<b∧w2.cell? (aC M 0)=some (ak 0)∧w2.cell? (aC M 2)=some (.string (ba Qz)))∧Ee w2 a b g (nR pub+5) al)∨(gs=false∧al=([],0)∧∃ M,w2.cell? (aC g (nR pub+4))=some (aH M)∧a≤M∧M<b∧((w2.cell? (aC M 0)=some (ak 0)∧∃ x,x≠Qz∧w2.cell? (aC M 2)=some (.string (ba x)))∨w2.cell? (aC M 0)=some (ak 1))))):=fun w2 g nn rc hP=>by
  obtain⟨v1,vr,rfl,hlp,hrow⟩:=hP.vs;obtain⟨l1,m1,rfl,g1,JZ⟩:=hlp.app;obtain⟨u1,p1,j1,rfl,hu1,-,hf1⟩:=g1.nmp hm hB1;obtain⟨l2,m2,rfl,g2,zT⟩:=JZ.app;obtain⟨u2,p2,j2,rfl,-⟩:=g2.y_ h2;obtain⟨l3,m3,rfl,g3,J6⟩:=zT.app;obtain⟨u3,p3,j3,rfl,hu3,-,hf3⟩:=g3.nmp hnm hB2;obtain⟨l4,m4,rfl,g4,NJ⟩:=J6.app;obtain⟨u5,PV⟩:=Qw NJ h3.y_;subst PV;obtain⟨-,M5,rfl,bF9,bG0,bG1⟩:=Vh NJ Qz h3;have QA:Ee w2 a b g (nR pub+1) m:=⟨u1,p1,j1,hrow 1 u1 rfl,hu1,hf1⟩;have aK5:Ee w2 a b g (nR pub+3) n:=⟨u3,p3,j3,hrow 3 u3 rfl,hu3,hf3⟩;cases ha with
  | yes t nn' k qs _ nm ht hnn =>
   obtain⟨la,lb,rfl,ga,gb⟩:=g4.app;obtain⟨ua,rfl,hua⟩:=ga.tk1 ht;obtain⟨ub,pb',jb,rfl,hub,-,hfb⟩:=gb.nmp hnn hB3.app.2;obtain⟨M,rv,en,tt,la,rfl,h3',h4',h5'⟩:=hua.leaf ht.ne;obtain⟨⟨c0,-,c2,-⟩,-⟩:=h5'.facts;exact⟨aT,QA,aK5,.inl ⟨rfl,aT,⟨M,hrow 4 _ rfl,h3',h4',c0,c2⟩,⟨ub,pb',jb,hrow 5 ub rfl,hub,hfb⟩⟩⟩
  | no =>
   cases g4
   exact⟨aT,QA,aK5,.inr ⟨rfl,rfl,M5,hrow 4 _ rfl,bF9,bG0,bG1⟩⟩
 have XA:=aA hb;have kA:∀ o o':Obj,Below w.heap.size w ((w.alloc o).alloc o'):=fun o o'=>((aB _ w).alloc (ax _) o).alloc aT o'
 have lV:=aA kA;clear hn hy hk hz hp h1 hm h2 hnm ha h3 hnd hyk kA hB1 hB2 hB3;go_enter func16,ntmps16;go_wp2_with fail
 refine((HPt.o) _ ((lV.o) _ _) aT).mono ?_;rintro e w2 ⟨g,nn,rc,rfl,hnn,H2⟩;have HB2:=aA <| ((lV.o) _ _).trans ((H2.o).2.mono ((lV.o) _ _).size);have HX:Hid (w2.heap[w.heap.size+1]?=some (.cells #[.bool true,.bool false,aH N,.pointer none,.pointer none,.pointer none,.bool false,.pointer none,.bool false,.slice none 0 0,.pointer none] 57 (0,0))):=(Kp.aN (H2.o).2 (fun _=>False)).heap (by have:=aI (w.alloc (.cells #[.bool false,.bool false,.pointer none,.pointer none,.pointer none,.pointer none,.bool false,.pointer none,.bool false,.slice none 0 0,.pointer none] 57)) (.cells #[.bool true,.bool false,aH N,.pointer none,.pointer none,.pointer none,.bool false,.pointer none,.bool false,.slice none 0 0,.pointer none] 57);simpa using this) id;have HR:=aA <| (Kp.aN (H2.o).2 (fun _=>False)).heap ((eG _ _ aT).trans (aI w _)) id;obtain⟨YP,Qi,HU3,HU4⟩:=(Qy.o) w2 g nn rc (H2.o).1;obtain⟨N0,hc0,QB⟩:=(H2.o).1.fst;have hcap1:=(H2.o).1.cap.1;have hcap2:=(H2.o).1.cap.2;have hg1:=(H2.o).1.gl.1;have hg2:=(H2.o).1.gl.2;have J9:=aA Qi;have aK6:=aA HU3;have J_:=aA HU4;have Jz:Hid (xw w2 (w.heap.size+1) #[.bool true,.bool false,aH N,.pointer none,.pointer none,.pointer none,.bool false,.pointer none,.bool false,.slice none 0 0,.pointer none] w2):=⟨HX.o,Kp.refl _ _⟩;have hgx:g≠w.heap.size+1:=au
 have hbx:b≤w.heap.size+1:=au
 clear HPt H2 Qi HU3 HU4 Qy HX;generalize hpn:nR pub=o at *;have ho:o≤1:=by rw[← hpn];unfold nR;split<;>omega
 go_upto_region 3 with fail
 go_cut [29] (fun s29 wx=>s29=.bool pub∧wx=w2)
 case first =>
  cases QB with
  | yes _ q1 q2 q3 q4 =>
   have hsx:((ba jY).toList==[112,117,98])=true:=by rw[lU];rfl
   go_wp2_with fail
   go_meet
   case rel=>exact⟨rfl,rfl⟩
  | no _ x q1 q2 q3 q4 hx =>
   have hsx:((ba x).toList==[112,117,98])=false:=by rw[lU,eO];exact hx
   go_wp2_with fail
   go_meet
   case rel=>exact⟨rfl,rfl⟩
  | miss _ q1 q2 q3 =>
   go_wp2_with fail
   go_meet
   case rel=>exact⟨rfl,rfl⟩
 case rest =>
  obtain⟨rfl,rfl⟩:=hcut;clear QB hc0;obtain⟨w2,hw2⟩:∃ w2,w2=wc:=⟨_,rfl⟩;subst hw2
  go_upto_if 29 with fail
  go_cut [4] (fun s4 wx=>s4=.slice (some ⟨g,o,none⟩) nn (rc - o)∧Hid (xw w2 (w.heap.size+1) #[.bool true,.bool pub,aH N,.pointer none,.pointer none,.pointer none,.bool false,.pointer none,.bool false,.slice none 0 0,.pointer none] wx))
  case first =>
   cases pub with
   | false =>
    have ho0:o=0:=hpn.symm;subst ho0;go_wp2_with fail
    go_meet
    case rel=>exact⟨aT,Jz⟩
   | true =>
    have ho1:o=1:=hpn.symm;subst ho1;have l1:w2.cell? (aC (w.heap.size+1) 1)=some (.bool false):=aj w2 _ 1 _ _ _ (Jz.o).blk;have f1:w2.frozen? (aC (w.heap.size+1) 1)=false:=dO (Jz.o).blk
    have YQ:Hid (xw w2 (w.heap.size+1) #[.bool true,.bool true,aH N,.pointer none,.pointer none,.pointer none,.bool false,.pointer none,.bool false,.slice none 0 0,.pointer none] (w2.setCell (aC (w.heap.size+1) 1) (.bool true))):=(Jz.o).set 1 (.bool true);have hle1:(1:Int)≤((1+nn:Nat):Int):=au
    go_wp2_with fail
    go_meet
    case rel=>exact⟨aT,YQ⟩
  case rest =>
   obtain⟨rfl,HM⟩:=hcut;obtain⟨W,hW⟩:∃ W,W=wc:=⟨_,rfl⟩;subst hW;clear Jz;have hx0:=trivial;have l0:W.cell? (aC (w.heap.size+1) 0)=some (.bool true):=aj W _ 0 _ _ _ (HM.o).blk;have l4:W.cell? (aC (w.heap.size+1) 4)=some (.pointer none):=aj W _ 4 _ _ _ (HM.o).blk;have f4:W.frozen? (aC (w.heap.size+1) 4)=false:=dO (HM.o).blk
   obtain⟨aK7,o1,hlo1,zZ⟩:=(J9.o).call hbx hgx;have Gi:=aA hlo1;have QC:=(zZ W (HM.o).kp).1;have yu:=aA (zZ W (HM.o).kp).2;clear hlo1 zZ J9;go_wp2_with fail
   refine(yu.o).aX fun W' hW'=>?_;obtain rfl:=hW'.symm;clear yu QC
   go_upto_region 8 with fail
   have sS:Hid (xw w2 (w.heap.size+1) #[.bool true,.bool pub,aH N,.pointer none,.pointer o1,.pointer none,.bool false,.pointer none,.bool false,.slice none 0 0,.pointer none] (W.setCell (aC (w.heap.size+1) 4) (.pointer o1))):=(HM.o).set 4 (.pointer o1);generalize W.setCell (aC (w.heap.size+1) 4) (.pointer o1)=W3 at *;clear HM;have HM:=sS;clear sS;clear l4 f4;clear l0;have l5:W3.cell? (aC (w.heap.size+1) 5)=some (.pointer none):=aj W3 _ 5 _ _ _ (HM.o).blk;have f5:W3.frozen? (aC (w.heap.size+1) 5)=false:=dO (HM.o).blk
   obtain⟨cJ6,o3,hlo3,YR⟩:=(aK6.o).call hbx hgx;have QD:=aA hlo3;have bG3:=(YR W3 (HM.o).kp).1;have XB:=aA (YR W3 (HM.o).kp).2;clear hlo3 YR aK6;go_wp2_with fail
   refine(XB.o).aX fun W' hW'=>?_;obtain rfl:=hW'.symm;clear XB bG3
   go_upto_region 9 with fail
   have sS:Hid (xw w2 (w.heap.size+1) #[.bool true,.bool pub,aH N,.pointer none,.pointer o1,.pointer o3,.bool false,.pointer none,.bool false,.slice none 0 0,.pointer none] (W3.setCell (aC (w.heap.size+1) 5) (.pointer o3))):=(HM.o).set 5 (.pointer o3);generalize W3.setCell (aC (w.heap.size+1) 5) (.pointer o3)=W4 at *;clear HM;have HM:=sS;clear sS;clear l5 f5;have l5:W4.cell? (aC (w.heap.size+1) 5)=some (.pointer o3):=aj W4 _ 5 _ _ _ (HM.o).blk;have l3:W4.cell? (aC (w.heap.size+1) 3)=some (.pointer none):=aj W4 _ 3 _ _ _ (HM.o).blk;have f3:W4.frozen? (aC (w.heap.size+1) 3)=false:=dO (HM.o).blk
   go_upto_region 10 with fail
   have sS:Hid (xw w2 (w.heap.size+1) #[.bool true,.bool pub,aH N,.pointer o3,.pointer o1,.pointer o3,.bool false,.pointer none,.bool false,.slice none 0 0,.pointer none] (W4.setCell (aC (w.heap.size+1) 3) (.pointer o3))):=(HM.o).set 3 (.pointer o3);generalize W4.setCell (aC (w.heap.size+1) 3) (.pointer o3)=W5 at *;clear HM;have HM:=sS;clear sS;clear l3 l5 f3;rcases J_.o with ⟨rfl,hn6,⟨M,m1,m2,m3,m4,m5⟩,hU5⟩|⟨rfl,rfl,M,m1,m2,m3,m45⟩
   ·have aK8:=aA hU5
    have x1:=(HM.o).cell m1 hgx;have x4:=(HM.o).cell m4 au;have x5:=(HM.o).cell m5 au;have hsx:((ba Qz).toList==[97,115])=true:=by rw[lU];rfl
    clear hU5 J_ m1 m4 m5;have l6:W5.cell? (aC (w.heap.size+1) 6)=some (.bool false):=aj W5 _ 6 _ _ _ (HM.o).blk;have f6:W5.frozen? (aC (w.heap.size+1) 6)=false:=dO (HM.o).blk
    go_upto_region 12 with fail
    have sS:Hid (xw w2 (w.heap.size+1) #[.bool true,.bool pub,aH N,.pointer o3,.pointer o1,.pointer o3,.bool true,.pointer none,.bool false,.slice none 0 0,.pointer none] (W5.setCell (aC (w.heap.size+1) 6) (.bool true))):=(HM.o).set 6 (.bool true);generalize W5.setCell (aC (w.heap.size+1) 6) (.bool true)=W6 at *;clear HM;have HM:=sS;clear sS;clear l6 f6;clear x1 x4 x5 hsx;have l7:W6.cell? (aC (w.heap.size+1) 7)=some (.pointer none):=aj W6 _ 7 _ _ _ (HM.o).blk;have f7:W6.frozen? (aC (w.heap.size+1) 7)=false:=dO (HM.o).blk
    obtain⟨cJ8,o5,aK9,YS⟩:=(aK8.o).call hbx hgx;have aL0:=aA aK9;have bG4:=(YS W6 (HM.o).kp).1;have XC:=aA (YS W6 (HM.o).kp).2;clear aK9 YS aK8;go_wp2_with fail
    refine(XC.o).aX fun W' hW'=>?_;obtain rfl:=hW'.symm;clear XC bG4
    go_upto_region 13 with fail
    have sS:Hid (xw w2 (w.heap.size+1) #[.bool true,.bool pub,aH N,.pointer o3,.pointer o1,.pointer o3,.bool true,.pointer o5,.bool false,.slice none 0 0,.pointer none] (W6.setCell (aC (w.heap.size+1) 7) (.pointer o5))):=(HM.o).set 7 (.pointer o5);generalize W6.setCell (aC (w.heap.size+1) 7) (.pointer o5)=W7 at *;clear HM;have HM:=sS;clear sS;clear l7 f7;have l7:W7.cell? (aC (w.heap.size+1) 7)=some (.pointer o5):=aj W7 _ 7 _ _ _ (HM.o).blk;have l3:W7.cell? (aC (w.heap.size+1) 3)=some (.pointer o3):=aj W7 _ 3 _ _ _ (HM.o).blk;have f3:W7.frozen? (aC (w.heap.size+1) 3)=false:=dO (HM.o).blk
    go_upto_region 14 with fail
    have sS:Hid (xw w2 (w.heap.size+1) #[.bool true,.bool pub,aH N,.pointer o5,.pointer o1,.pointer o3,.bool true,.pointer o5,.bool false,.slice none 0 0,.pointer none] (W7.setCell (aC (w.heap.size+1) 3) (.pointer o5))):=(HM.o).set 3 (.pointer o5);generalize W7.setCell (aC (w.heap.size+1) 3) (.pointer o5)=W8 at *;clear HM;have HM:=sS;clear sS;clear l3 l7 f3;have l0:W8.cell? (aC (w.heap.size+1) 0)=some (.bool true):=aj W8 _ 0 _ _ _ (HM.o).blk;have l1:W8.cell? (aC (w.heap.size+1) 1)=some (.bool pub):=aj W8 _ 1 _ _ _ (HM.o).blk;have l2:W8.cell? (aC (w.heap.size+1) 2)=some (aH N):=aj W8 _ 2 _ _ _ (HM.o).blk;have l3:W8.cell? (aC (w.heap.size+1) 3)=some (.pointer o5):=aj W8 _ 3 _ _ _ (HM.o).blk;have l4:W8.cell? (aC (w.heap.size+1) 4)=some (.pointer o1):=aj W8 _ 4 _ _ _ (HM.o).blk;have l5:W8.cell? (aC (w.heap.size+1) 5)=some (.pointer o3):=aj W8 _ 5 _ _ _ (HM.o).blk;have l6:W8.cell? (aC (w.heap.size+1) 6)=some (.bool true):=aj W8 _ 6 _ _ _ (HM.o).blk;have l7:W8.cell? (aC (w.heap.size+1) 7)=some (.pointer o5):=aj W8 _ 7 _ _ _ (HM.o).blk;have l8:W8.cell? (aC (w.heap.size+1) 8)=some (.bool false):=aj W8 _ 8 _ _ _ (HM.o).blk;have l9:W8.cell? (aC (w.heap.size+1) 9)=some (.slice none 0 0):=aj W8 _ 9 _ _ _ (HM.o).blk;have l10:W8.cell? (aC (w.heap.size+1) 10)=some (.pointer none):=aj W8 _ 10 _ _ _ (HM.o).blk;have hRb:=(HM.o).kp.heap HR.o (by show ¬ w.heap.size=w.heap.size+1;omega);have r0:=aj W8 _ 0 _ _ _ hRb;have rf0:W8.frozen? (aC w.heap.size 0)=false:=dO hRb
    have r1:=aj W8 _ 1 _ _ _ hRb;have rf1:W8.frozen? (aC w.heap.size 1)=false:=dO hRb
    have r2:=aj W8 _ 2 _ _ _ hRb;have rf2:W8.frozen? (aC w.heap.size 2)=false:=dO hRb
    have r3:=aj W8 _ 3 _ _ _ hRb;have rf3:W8.frozen? (aC w.heap.size 3)=false:=dO hRb
    have r4:=aj W8 _ 4 _ _ _ hRb;have rf4:W8.frozen? (aC w.heap.size 4)=false:=dO hRb
    have r5:=aj W8 _ 5 _ _ _ hRb;have rf5:W8.frozen? (aC w.heap.size 5)=false:=dO hRb
    have r6:=aj W8 _ 6 _ _ _ hRb;have rf6:W8.frozen? (aC w.heap.size 6)=false:=dO hRb
    have r7:=aj W8 _ 7 _ _ _ hRb;have rf7:W8.frozen? (aC w.heap.size 7)=false:=dO hRb
    have r8:=aj W8 _ 8 _ _ _ hRb;have rf8:W8.frozen? (aC w.heap.size 8)=false:=dO hRb
    have r9:=aj W8 _ 9 _ _ _ hRb;have rf9:W8.frozen? (aC w.heap.size 9)=false:=dO hRb
    have r10:=aj W8 _ 10 _ _ _ hRb;have Vi:W8.frozen? (aC w.heap.size 10)=false:=dO hRb
    have zl:=aA <| zX (S:=fun q=>q=w.heap.size+1∨q=w.heap.size) (R:=w.heap.size) ((HM.o).kp.mono (fun _ _ e=>Or.inl e)) (Or.inr rfl) (.bool true) (.bool pub) (aH N) (.pointer o5) (.pointer o1) (.pointer o3) (.bool true) (.pointer o5) (.bool false) (.slice none 0 0) (.pointer none);have Vj:=aA <| Gh (R:=w.heap.size) hRb (.bool true) (.bool pub) (aH N) (.pointer o5) (.pointer o1) (.pointer o3) (.bool true) (.pointer o5) (.bool false) (.slice none 0 0) (.pointer none);clear hRb;go_wp2_with fail
    (try simp only[Exit.inBlock,Exit.then])
    refine aW (results_cell_row (p:=2) (ty:=57) rfl _ _ w.heap.size 57 _ (0,0) _ rfl Vj.o underlying57 rfl bC) rfl ?_;have hS:∀ q,a≤q→q<b→¬(q=w.heap.size+1∨q=w.heap.size):=fun q h1 h2=>by have:=XA.o;omega
    refine⟨⟨true,pub,some ⟨N,0,none⟩,o5,o1,o3,true,o5,false,none,0,0,none⟩,rfl,?_,(HB2.o).trans (Kp.below zl.o (HB2.o).size (fun q hq=>au))⟩;exact⟨rfl,rfl,(aL0.o).keep zl.o hS,(Gi.o).keep zl.o hS,(QD.o).keep zl.o hS,rfl,(aL0.o).keep zl.o hS⟩
   ·have x1:=(HM.o).cell m1 hgx
    clear J_ m1;rcases m45 with ⟨m4,x,hx,m5⟩|m4
    ·have x4:=(HM.o).cell m4 au
     have x5:=(HM.o).cell m5 au;have hsx:((ba x).toList==[97,115])=false:=by rw[lU,eO];exact hx
     clear m4 m5
     go_upto_region 14 with fail
     clear x1 x4 x5 hsx;have l0:W5.cell? (aC (w.heap.size+1) 0)=some (.bool true):=aj W5 _ 0 _ _ _ (HM.o).blk;have l1:W5.cell? (aC (w.heap.size+1) 1)=some (.bool pub):=aj W5 _ 1 _ _ _ (HM.o).blk;have l2:W5.cell? (aC (w.heap.size+1) 2)=some (aH N):=aj W5 _ 2 _ _ _ (HM.o).blk;have l3:W5.cell? (aC (w.heap.size+1) 3)=some (.pointer o3):=aj W5 _ 3 _ _ _ (HM.o).blk;have l4:W5.cell? (aC (w.heap.size+1) 4)=some (.pointer o1):=aj W5 _ 4 _ _ _ (HM.o).blk;have l5:W5.cell? (aC (w.heap.size+1) 5)=some (.pointer o3):=aj W5 _ 5 _ _ _ (HM.o).blk;have l6:W5.cell? (aC (w.heap.size+1) 6)=some (.bool false):=aj W5 _ 6 _ _ _ (HM.o).blk;have l7:W5.cell? (aC (w.heap.size+1) 7)=some (.pointer none):=aj W5 _ 7 _ _ _ (HM.o).blk;have l8:W5.cell? (aC (w.heap.size+1) 8)=some (.bool false):=aj W5 _ 8 _ _ _ (HM.o).blk;have l9:W5.cell? (aC (w.heap.size+1) 9)=some (.slice none 0 0):=aj W5 _ 9 _ _ _ (HM.o).blk;have l10:W5.cell? (aC (w.heap.size+1) 10)=some (.pointer none):=aj W5 _ 10 _ _ _ (HM.o).blk;have hRb:=(HM.o).kp.heap HR.o (by show ¬ w.heap.size=w.heap.size+1;omega);have r0:=aj W5 _ 0 _ _ _ hRb;have rf0:W5.frozen? (aC w.heap.size 0)=false:=dO hRb
     have r1:=aj W5 _ 1 _ _ _ hRb;have rf1:W5.frozen? (aC w.heap.size 1)=false:=dO hRb
     have r2:=aj W5 _ 2 _ _ _ hRb;have rf2:W5.frozen? (aC w.heap.size 2)=false:=dO hRb
     have r3:=aj W5 _ 3 _ _ _ hRb;have rf3:W5.frozen? (aC w.heap.size 3)=false:=dO hRb
     have r4:=aj W5 _ 4 _ _ _ hRb;have rf4:W5.frozen? (aC w.heap.size 4)=false:=dO hRb
     have r5:=aj W5 _ 5 _ _ _ hRb;have rf5:W5.frozen? (aC w.heap.size 5)=false:=dO hRb
     have r6:=aj W5 _ 6 _ _ _ hRb;have rf6:W5.frozen? (aC w.heap.size 6)=false:=dO hRb
     have r7:=aj W5 _ 7 _ _ _ hRb;have rf7:W5.frozen? (aC w.heap.size 7)=false:=dO hRb
     have r8:=aj W5 _ 8 _ _ _ hRb;have rf8:W5.frozen? (aC w.heap.size 8)=false:=dO hRb
     have r9:=aj W5 _ 9 _ _ _ hRb;have rf9:W5.frozen? (aC w.heap.size 9)=false:=dO hRb
     have r10:=aj W5 _ 10 _ _ _ hRb;have Vi:W5.frozen? (aC w.heap.size 10)=false:=dO hRb
     have zl:=aA <| zX (S:=fun q=>q=w.heap.size+1∨q=w.heap.size) (R:=w.heap.size) ((HM.o).kp.mono (fun _ _ e=>Or.inl e)) (Or.inr rfl) (.bool true) (.bool pub) (aH N) (.pointer o3) (.pointer o1) (.pointer o3) (.bool false) (.pointer none) (.bool false) (.slice none 0 0) (.pointer none);have Vj:=aA <| Gh (R:=w.heap.size) hRb (.bool true) (.bool pub) (aH N) (.pointer o3) (.pointer o1) (.pointer o3) (.bool false) (.pointer none) (.bool false) (.slice none 0 0) (.pointer none);clear hRb;go_wp2_with fail
     (try simp only[Exit.inBlock,Exit.then])
     refine aW (results_cell_row (p:=2) (ty:=57) rfl _ _ w.heap.size 57 _ (0,0) _ rfl Vj.o underlying57 rfl bC) rfl ?_;have hS:∀ q,a≤q→q<b→¬(q=w.heap.size+1∨q=w.heap.size):=fun q h1 h2=>by have:=XA.o;omega
     refine⟨⟨true,pub,some ⟨N,0,none⟩,o3,o1,o3,false,none,false,none,0,0,none⟩,rfl,?_,(HB2.o).trans (Kp.below zl.o (HB2.o).size (fun q hq=>au))⟩;exact⟨rfl,rfl,(QD.o).keep zl.o hS,(Gi.o).keep zl.o hS,(QD.o).keep zl.o hS,rfl,.inl ⟨rfl,rfl⟩⟩
    ·have x4:=(HM.o).cell m4 au
     clear m4
     go_upto_region 14 with fail
     clear x1 x4;have l0:W5.cell? (aC (w.heap.size+1) 0)=some (.bool true):=aj W5 _ 0 _ _ _ (HM.o).blk;have l1:W5.cell? (aC (w.heap.size+1) 1)=some (.bool pub):=aj W5 _ 1 _ _ _ (HM.o).blk;have l2:W5.cell? (aC (w.heap.size+1) 2)=some (aH N):=aj W5 _ 2 _ _ _ (HM.o).blk;have l3:W5.cell? (aC (w.heap.size+1) 3)=some (.pointer o3):=aj W5 _ 3 _ _ _ (HM.o).blk;have l4:W5.cell? (aC (w.heap.size+1) 4)=some (.pointer o1):=aj W5 _ 4 _ _ _ (HM.o).blk;have l5:W5.cell? (aC (w.heap.size+1) 5)=some (.pointer o3):=aj W5 _ 5 _ _ _ (HM.o).blk;have l6:W5.cell? (aC (w.heap.size+1) 6)=some (.bool false):=aj W5 _ 6 _ _ _ (HM.o).blk;have l7:W5.cell? (aC (w.heap.size+1) 7)=some (.pointer none):=aj W5 _ 7 _ _ _ (HM.o).blk;have l8:W5.cell? (aC (w.heap.size+1) 8)=some (.bool false):=aj W5 _ 8 _ _ _ (HM.o).blk;have l9:W5.cell? (aC (w.heap.size+1) 9)=some (.slice none 0 0):=aj W5 _ 9 _ _ _ (HM.o).blk;have l10:W5.cell? (aC (w.heap.size+1) 10)=some (.pointer none):=aj W5 _ 10 _ _ _ (HM.o).blk;have hRb:=(HM.o).kp.heap HR.o (by show ¬ w.heap.size=w.heap.size+1;omega);have r0:=aj W5 _ 0 _ _ _ hRb;have rf0:W5.frozen? (aC w.heap.size 0)=false:=dO hRb
     have r1:=aj W5 _ 1 _ _ _ hRb;have rf1:W5.frozen? (aC w.heap.size 1)=false:=dO hRb
     have r2:=aj W5 _ 2 _ _ _ hRb;have rf2:W5.frozen? (aC w.heap.size 2)=false:=dO hRb
     have r3:=aj W5 _ 3 _ _ _ hRb;have rf3:W5.frozen? (aC w.heap.size 3)=false:=dO hRb
     have r4:=aj W5 _ 4 _ _ _ hRb;have rf4:W5.frozen? (aC w.heap.size 4)=false:=dO hRb
     have r5:=aj W5 _ 5 _ _ _ hRb;have rf5:W5.frozen? (aC w.heap.size 5)=false:=dO hRb
     have r6:=aj W5 _ 6 _ _ _ hRb;have rf6:W5.frozen? (aC w.heap.size 6)=false:=dO hRb
     have r7:=aj W5 _ 7 _ _ _ hRb;have rf7:W5.frozen? (aC w.heap.size 7)=false:=dO hRb
     have r8:=aj W5 _ 8 _ _ _ hRb;have rf8:W5.frozen? (aC w.heap.size 8)=false:=dO hRb
     have r9:=aj W5 _ 9 _ _ _ hRb;have rf9:W5.frozen? (aC w.heap.size 9)=false:=dO hRb
     have r10:=aj W5 _ 10 _ _ _ hRb;have Vi:W5.frozen? (aC w.heap.size 10)=false:=dO hRb
     have zl:=aA <| zX (S:=fun q=>q=w.heap.size+1∨q=w.heap.size) (R:=w.heap.size) ((HM.o).kp.mono (fun _ _ e=>Or.inl e)) (Or.inr rfl) (.bool true) (.bool pub) (aH N) (.pointer o3) (.pointer o1) (.pointer o3) (.bool false) (.pointer none) (.bool false) (.slice none 0 0) (.pointer none);have Vj:=aA <| Gh (R:=w.heap.size) hRb (.bool true) (.bool pub) (aH N) (.pointer o3) (.pointer o1) (.pointer o3) (.bool false) (.pointer none) (.bool false) (.slice none 0 0) (.pointer none);clear hRb;go_wp2_with fail
     (try simp only[Exit.inBlock,Exit.then])
     refine aW (results_cell_row (p:=2) (ty:=57) rfl _ _ w.heap.size 57 _ (0,0) _ rfl Vj.o underlying57 rfl bC) rfl ?_;have hS:∀ q,a≤q→q<b→¬(q=w.heap.size+1∨q=w.heap.size):=fun q h1 h2=>by have:=XA.o;omega
     refine⟨⟨true,pub,some ⟨N,0,none⟩,o3,o1,o3,false,none,false,none,0,0,none⟩,rfl,?_,(HB2.o).trans (Kp.below zl.o (HB2.o).size (fun q hq=>au))⟩;exact⟨rfl,rfl,(QD.o).keep zl.o hS,(Gi.o).keep zl.o hS,(QD.o).keep zl.o hS,rfl,.inl ⟨rfl,rfl⟩⟩
theorem QE{w:aG}{a b:Nat}{v:Value}{p:Part}{i:Nat}{pub:Bool}{n:Nm}{ps:Option (List Nm)}{ex:Ex}(hn:lS w a b v p i)(hb:b≤w.heap.size)(hr:X.BV p i (.dfn pub n ps ex))(hy:Cx p)(hk:su p)(hz:jh p≤268435456)(hi:i+pz [p]≤1000000) :
  bB 16 #[v] w fun e w'=>∃ d:DI,e=.returned (.agg d.arr)∧Hid (Jy w.heap.size w' a b d (.dfn pub n ps ex)∧Below w.heap.size w w'):=by
 cases hr with
 | dfn pb t1 n1 pr t2 p t3 _ _ _ _ _ hp h1 hn1 hpr h2 he h3 =>
 have HPt:=aA (fun w1 h1' h2'=>zY hn hb hp h1 hk hz w1 h1' h2');obtain⟨N,aoN,Qk,kM,en,fr,tt,la,vsN,rfl,hN1,tX,hnd,-⟩:=hn.any;obtain⟨⟨k0,-⟩,-⟩:=hnd.facts;have b0:((pk (.br 4 (pb++(t1++(n1++(pr++(t2++([p]++t3))))))):Nat):Int)=4:=rfl;rw[b0] at k0;have rC:N<w.heap.size:=au
 have hyk:=hy.kids;have hB1:=hyk.app.2.app.2.app.1;have hB2:=hyk.app.2.app.2.app.2.app.1;have hB3:=hyk.app.2.app.2.app.2.app.2.app.2.app.1.one;have hK3:=(iX (iX (iX (iX (iX (iX hk.2).2).2).2).2).2).1.1;have hzs:jh p≤268435456∧eT pr≤268435456:=by
  rw[jh,bR,bR,bR,bR,bR,bR,gM] at hz;omega
 have hps:i+pz pb+pz t1+pz n1+pz pr+pz t2+pz [p]≤1000000:=by
  rw[iw,bZ,bZ,bZ,bZ,bZ,bZ] at hi;omega
 have Qy:Hid (∀ w2 g nn rc,PtI w w2 a b pub g nn rc (n1++(pr++(t2++([p]++t3)))) (i+pz pb+pz t1)→Ee w2 a b g (nR pub+1) n∧((∃ ns,ps=some ns∧nn=6∧(∃ M qs i',w2.cell? (aC g (nR pub+2))=some (aH M)∧a≤M∧M<b∧w2.cell? (aC M 0)=some (ak 6)∧lS w2 a b (aH M) (.br 6 qs) i'∧nU qs i' ns∧oG qs∧qs.length≤268435456)∧∃ B i',w2.cell? (aC g (nR pub+4))=some (aH B)∧lS w2 a b (aH B) p i'∧Rd p i' ex∧i'+pz [p]≤1000000)∨(ps=none∧nn=5∧(∃ M kq,w2.cell? (aC g (nR pub+2))=some (aH M)∧a≤M∧M<b∧w2.cell? (aC M 0)=some (ak ((kq:Nat):Int))∧kq≤1)∧∃ B i',w2.cell? (aC g (nR pub+3))=some (aH B)∧lS w2 a b (aH B) p i'∧Rd p i' ex∧i'+pz [p]≤1000000))):=fun w2 g nn rc hP=>by
  obtain⟨v1,vr,rfl,hlp,hrow⟩:=hP.vs;obtain⟨l1,m1,rfl,g1,JZ⟩:=hlp.app;obtain⟨u1,p1,j1,rfl,hu1,-,hf1⟩:=g1.nmp hn1 hB1;obtain⟨l2,m2,rfl,g2,zT⟩:=JZ.app;obtain⟨l3,m3,rfl,g3,J6⟩:=zT.app;obtain⟨u2,p2,j2,rfl,hu2,hk2⟩:=g3.y_ h2;obtain⟨l4,m4,rfl,g4,NJ⟩:=J6.app;obtain⟨ub,rfl,hub⟩:=g4.one (zU he).2;obtain⟨u5,PV⟩:=Qw NJ h3;subst PV;obtain⟨B,_,_,_,_,_,_,_,_,rfl,-⟩:=hub.any;have QA:Ee w2 a b g (nR pub+1) n:=⟨u1,p1,j1,hrow 1 u1 rfl,hu1,hf1⟩;cases hpr with
  | yes qs _ ns YT =>
   obtain⟨up,rfl,hup⟩:=g2.one rfl;have bG5:=hup;obtain⟨M,_,_,_,_,_,_,_,_,rfl,hM1,hM2,J7,-⟩:=hup.any;obtain⟨⟨c0,-⟩,-⟩:=J7.facts;have hqz:qs.length≤268435456:=by
    have h1:=zk qs;rw[gM,jh] at hzs;omega
   exact⟨QA,.inl ⟨ns,rfl,rfl,⟨M,qs,_,hrow 2 _ rfl,hM1,hM2,c0,bG5,YT,hB2.one.kids,hqz⟩,⟨B,_,hrow 4 _ rfl,hub,he,hps⟩⟩⟩
  | no =>
   cases g2
   obtain⟨M,_,_,_,_,_,_,_,_,rfl,hM1,hM2,J7,-⟩:=hu2.any;obtain⟨⟨c0,-⟩,-⟩:=J7.facts;exact⟨QA,.inr ⟨rfl,rfl,⟨M,pk p2,hrow 2 _ rfl,hM1,hM2,c0,hk2⟩,⟨B,_,hrow 3 _ rfl,hub,he,hps⟩⟩⟩
 have UH:=aA (And.intro hB3 (And.intro hK3 hzs.1));have XA:=aA hb;have kA:∀ o o':Obj,Below w.heap.size w ((w.alloc o).alloc o'):=fun o o'=>((aB _ w).alloc (ax _) o).alloc aT o'
 have lV:=aA kA;clear hn hy hk hz hp h1 h2 hn1 hpr h3 he hnd hyk kA hB1 hB2 hB3 hK3 hzs hps hi;go_enter func16,ntmps16;go_wp2_with fail
 refine((HPt.o) _ ((lV.o) _ _) aT).mono ?_;rintro e w2 ⟨g,nn,rc,rfl,hnn,H2⟩;have HB2:=aA <| ((lV.o) _ _).trans ((H2.o).2.mono ((lV.o) _ _).size);have HX:Hid (w2.heap[w.heap.size+1]?=some (.cells #[.bool false,.bool false,aH N,.pointer none,.pointer none,.pointer none,.bool false,.pointer none,.bool false,.slice none 0 0,.pointer none] 57 (0,0))):=(Kp.aN (H2.o).2 (fun _=>False)).heap (by have:=aI (w.alloc (.cells #[.bool false,.bool false,.pointer none,.pointer none,.pointer none,.pointer none,.bool false,.pointer none,.bool false,.slice none 0 0,.pointer none] 57)) (.cells #[.bool false,.bool false,aH N,.pointer none,.pointer none,.pointer none,.bool false,.pointer none,.bool false,.slice none 0 0,.pointer none] 57);simpa using this) id;have HR:=aA <| (Kp.aN (H2.o).2 (fun _=>False)).heap ((eG _ _ aT).trans (aI w _)) id;obtain⟨Qi,HU4⟩:=(Qy.o) w2 g nn rc (H2.o).1;have YP:5≤nn:=by rcases HU4 with ⟨ns,-,h,-⟩|⟨-,h,-⟩<;>omega
 obtain⟨N0,hc0,QB⟩:=(H2.o).1.fst;have hcap1:=(H2.o).1.cap.1;have hcap2:=(H2.o).1.cap.2;have hg1:=(H2.o).1.gl.1;have hg2:=(H2.o).1.gl.2;have J9:=aA Qi;have J_:=aA HU4;have Jz:Hid (xw w2 (w.heap.size+1) #[.bool false,.bool false,aH N,.pointer none,.pointer none,.pointer none,.bool false,.pointer none,.bool false,.slice none 0 0,.pointer none] w2):=⟨HX.o,Kp.refl _ _⟩;have hgx:g≠w.heap.size+1:=au
 have hbx:b≤w.heap.size+1:=au
 clear HPt H2 Qi HU4 Qy HX;generalize hpn:nR pub=o at *;have ho:o≤1:=by rw[← hpn];unfold nR;split<;>omega
 go_upto_region 3 with fail
 go_cut [29] (fun s29 wx=>s29=.bool pub∧wx=w2)
 case first =>
  cases QB with
  | yes _ q1 q2 q3 q4 =>
   have hsx:((ba jY).toList==[112,117,98])=true:=by rw[lU];rfl
   go_wp2_with fail
   go_meet
   case rel=>exact⟨rfl,rfl⟩
  | no _ x q1 q2 q3 q4 hx =>
   have hsx:((ba x).toList==[112,117,98])=false:=by rw[lU,eO];exact hx
   go_wp2_with fail
   go_meet
   case rel=>exact⟨rfl,rfl⟩
  | miss _ q1 q2 q3 =>
   go_wp2_with fail
   go_meet
   case rel=>exact⟨rfl,rfl⟩
 case rest =>
  obtain⟨rfl,rfl⟩:=hcut;clear QB hc0;obtain⟨w2,hw2⟩:∃ w2,w2=wc:=⟨_,rfl⟩;subst hw2
  go_upto_if 29 with fail
  go_cut [4] (fun s4 wx=>s4=.slice (some ⟨g,o,none⟩) nn (rc - o)∧Hid (xw w2 (w.heap.size+1) #[.bool false,.bool pub,aH N,.pointer none,.pointer none,.pointer none,.bool false,.pointer none,.bool false,.slice none 0 0,.pointer none] wx))
  case first =>
   cases pub with
   | false =>
    have ho0:o=0:=hpn.symm;subst ho0;go_wp2_with fail
    go_meet
    case rel=>exact⟨aT,Jz⟩
   | true =>
    have ho1:o=1:=hpn.symm;subst ho1;have l1:w2.cell? (aC (w.heap.size+1) 1)=some (.bool false):=aj w2 _ 1 _ _ _ (Jz.o).blk;have f1:w2.frozen? (aC (w.heap.size+1) 1)=false:=dO (Jz.o).blk
    have YQ:Hid (xw w2 (w.heap.size+1) #[.bool false,.bool true,aH N,.pointer none,.pointer none,.pointer none,.bool false,.pointer none,.bool false,.slice none 0 0,.pointer none] (w2.setCell (aC (w.heap.size+1) 1) (.bool true))):=(Jz.o).set 1 (.bool true);have hle1:(1:Int)≤((1+nn:Nat):Int):=au
    go_wp2_with fail
    go_meet
    case rel=>exact⟨aT,YQ⟩
  case rest =>
   obtain⟨rfl,HM⟩:=hcut;obtain⟨W,hW⟩:∃ W,W=wc:=⟨_,rfl⟩;subst hW;clear Jz;have hx0:=trivial;have l0:W.cell? (aC (w.heap.size+1) 0)=some (.bool false):=aj W _ 0 _ _ _ (HM.o).blk;rcases J_.o with ⟨ns,rfl,rfl,⟨M,qs,iq,m1,m2,m3,m4,m5,m6,m7,m8⟩,B,ib,y1,y2,y3,y4⟩|⟨rfl,rfl,⟨M,kq,m1,m2,m3,m4,m5⟩,B,ib,y1,y2,y3,y4⟩
   ·clear J_
    have YU:=aA (And.intro y2 (And.intro y3 y4));have HMn:=aA (And.intro m5 (And.intro m6 (And.intro m7 m8)));clear y2 y3 y4 m5 m6 m7 m8;have l3:W.cell? (aC (w.heap.size+1) 3)=some (.pointer none):=aj W _ 3 _ _ _ (HM.o).blk;have f3:W.frozen? (aC (w.heap.size+1) 3)=false:=dO (HM.o).blk
    obtain⟨aK7,o1,hlo1,zZ⟩:=(J9.o).call hbx hgx;have Gi:=aA hlo1;have QC:=(zZ W (HM.o).kp).1;have yu:=aA (zZ W (HM.o).kp).2;clear hlo1 zZ J9;go_wp2_with fail
    refine(yu.o).aX fun W' hW'=>?_;obtain rfl:=hW'.symm;clear yu QC
    go_upto_region 16 with fail
    have sS:Hid (xw w2 (w.heap.size+1) #[.bool false,.bool pub,aH N,.pointer o1,.pointer none,.pointer none,.bool false,.pointer none,.bool false,.slice none 0 0,.pointer none] (W.setCell (aC (w.heap.size+1) 3) (.pointer o1))):=(HM.o).set 3 (.pointer o1);generalize W.setCell (aC (w.heap.size+1) 3) (.pointer o1)=W3 at *;clear HM;have HM:=sS;clear sS;clear l3 f3;clear l0;have x1:=(HM.o).cell m1 hgx;have x4:=(HM.o).cell m4 au;have l8:W3.cell? (aC (w.heap.size+1) 8)=some (.bool false):=aj W3 _ 8 _ _ _ (HM.o).blk;have f8:W3.frozen? (aC (w.heap.size+1) 8)=false:=dO (HM.o).blk
    go_upto_region 18 with fail
    have sS:Hid (xw w2 (w.heap.size+1) #[.bool false,.bool pub,aH N,.pointer o1,.pointer none,.pointer none,.bool false,.pointer none,.bool true,.slice none 0 0,.pointer none] (W3.setCell (aC (w.heap.size+1) 8) (.bool true))):=(HM.o).set 8 (.bool true);generalize W3.setCell (aC (w.heap.size+1) 8) (.bool true)=W4 at *;clear HM;have HM:=sS;clear sS;clear l8 f8;clear x1 x4;have x1:=(HM.o).cell m1 hgx;have cJ9:=bN (HM.o).blk;have hSb:∀ q,a≤q→q<b→¬ q=w.heap.size+1:=fun q h1 h2=>by have:=XA.o;omega
    have LV:=aA (Cv ((HMn.o).1.keep (HM.o).kp hSb) (by have:=XA.o;omega) (HMn.o).2.1 (HMn.o).2.2.1 (by have:=(HMn.o).2.2.2;omega));go_wp2_with fail
    refine(LV.o).mono ?_;rintro e W5 ⟨rv5,rfl,H5⟩;obtain⟨⟨vs5,Vk,hown5⟩,hb5⟩:=H5.o;obtain⟨pa,pc,rfl,YV,YW,-,h54⟩:=qQ hown5;rw[Vk.1] at YV;have eL:(Value.slice pa vs5.length pc)=.slice pa ns.length pc:=by rw[Vk.1]
    have XD:Hid (Qu w.heap.size W5 a b (.slice pa ns.length pc) ns):=⟨pa,pc,rfl,YV,YW,fun j n' hj=>by
     obtain⟨u',e1,e2⟩:=Vk.2 j n' hj;obtain⟨g',cs',d',e3,e4,e5,e6⟩:=h54 j u' e1;exact⟨g',cs',d',u',e3,au,e5,e6,e2.below hb5⟩⟩
    have kw5:=Kp.trans (HM.o).kp (Kp.aN hb5 (fun _=>False)) (fun _ _ e=>e.elim);have XE:Hid (xw W5 (w.heap.size+1) #[.bool false,.bool pub,aH N,.pointer o1,.pointer none,.pointer none,.bool false,.pointer none,.bool true,.slice none 0 0,.pointer none] W5):=⟨((HM.o).below hb5).blk,Kp.refl _ _⟩;have aL2:=aA <| (HB2.o).trans (Kp.below kw5 (HB2.o).size (fun q hq=>au));have LY:=aA <| kw5.heap HR.o (by show ¬ w.heap.size=w.heap.size+1;omega);have HL5:=aA <| (Gi.o).keep kw5 hSb;have hy1:=kw5.dD y1 hgx;have HY5:Hid (lS W5 a b (aH B) p ib∧Rd p ib ex∧ib+pz [p]≤1000000):=⟨(YU.o).1.keep kw5 hSb,(YU.o).2⟩;have bG7:Hid (∀ q cs dd,w.heap.size≤q→W5.heap[q]?=some (.cells cs 51 dd)→¬(q=w.heap.size+1∨q=w.heap.size)):=fun q cs dd h1 h2 h3=>by
     rcases h3 with rfl|rfl
     ·exact fO h2 (XE.o).blk aS
     ·exact fO h2 LY.o aS
    clear HM HB2 HR Gi YU H5 hb5 hown5 Vk kw5 LV HMn x1 y1 m1 m4 h54 YV YW;obtain⟨w2',bG8⟩:∃ w2',w2'=w2:=⟨_,rfl⟩;subst bG8;have HM:=XE;have HB2:=aL2;have HR:=LY;clear XE aL2 LY;rw[eL];clear eL;have l9:W5.cell? (aC (w.heap.size+1) 9)=some (.slice none 0 0):=aj W5 _ 9 _ _ _ (HM.o).blk;have f9:W5.frozen? (aC (w.heap.size+1) 9)=false:=dO (HM.o).blk
    go_upto_region 19 with fail
    have sS:Hid (xw W5 (w.heap.size+1) #[.bool false,.bool pub,aH N,.pointer o1,.pointer none,.pointer none,.bool false,.pointer none,.bool true,.slice pa ns.length pc,.pointer none] (W5.setCell (aC (w.heap.size+1) 9) (.slice pa ns.length pc))):=(HM.o).set 9 (.slice pa ns.length pc);generalize W5.setCell (aC (w.heap.size+1) 9) (.slice pa ns.length pc)=W6 at *;clear HM;have HM:=sS;clear sS;clear l9 f9;have hy2:=(HM.o).cell hy1 hgx;clear hy1;have l10:W6.cell? (aC (w.heap.size+1) 10)=some (.pointer none):=aj W6 _ 10 _ _ _ (HM.o).blk;have f10:W6.frozen? (aC (w.heap.size+1) 10)=false:=dO (HM.o).blk
    go_upto_region 20 with fail
    have sS:Hid (xw W5 (w.heap.size+1) #[.bool false,.bool pub,aH N,.pointer o1,.pointer none,.pointer none,.bool false,.pointer none,.bool true,.slice pa ns.length pc,aH B] (W6.setCell (aC (w.heap.size+1) 10) (aH B))):=(HM.o).set 10 (aH B);generalize W6.setCell (aC (w.heap.size+1) 10) (aH B)=W9 at *;clear HM;have HM:=sS;clear sS;clear l10 f10;have l0:W9.cell? (aC (w.heap.size+1) 0)=some (.bool false):=aj W9 _ 0 _ _ _ (HM.o).blk;have l1:W9.cell? (aC (w.heap.size+1) 1)=some (.bool pub):=aj W9 _ 1 _ _ _ (HM.o).blk;have l2:W9.cell? (aC (w.heap.size+1) 2)=some (aH N):=aj W9 _ 2 _ _ _ (HM.o).blk;have l3:W9.cell? (aC (w.heap.size+1) 3)=some (.pointer o1):=aj W9 _ 3 _ _ _ (HM.o).blk;have l4:W9.cell? (aC (w.heap.size+1) 4)=some (.pointer none):=aj W9 _ 4 _ _ _ (HM.o).blk;have l5:W9.cell? (aC (w.heap.size+1) 5)=some (.pointer none):=aj W9 _ 5 _ _ _ (HM.o).blk;have l6:W9.cell? (aC (w.heap.size+1) 6)=some (.bool false):=aj W9 _ 6 _ _ _ (HM.o).blk;have l7:W9.cell? (aC (w.heap.size+1) 7)=some (.pointer none):=aj W9 _ 7 _ _ _ (HM.o).blk;have l8:W9.cell? (aC (w.heap.size+1) 8)=some (.bool true):=aj W9 _ 8 _ _ _ (HM.o).blk;have l9:W9.cell? (aC (w.heap.size+1) 9)=some (.slice pa ns.length pc):=aj W9 _ 9 _ _ _ (HM.o).blk;have l10:W9.cell? (aC (w.heap.size+1) 10)=some (aH B):=aj W9 _ 10 _ _ _ (HM.o).blk;have hRb:=(HM.o).kp.heap HR.o (by show ¬ w.heap.size=w.heap.size+1;omega);have r0:=aj W9 _ 0 _ _ _ hRb;have rf0:W9.frozen? (aC w.heap.size 0)=false:=dO hRb
    have r1:=aj W9 _ 1 _ _ _ hRb;have rf1:W9.frozen? (aC w.heap.size 1)=false:=dO hRb
    have r2:=aj W9 _ 2 _ _ _ hRb;have rf2:W9.frozen? (aC w.heap.size 2)=false:=dO hRb
    have r3:=aj W9 _ 3 _ _ _ hRb;have rf3:W9.frozen? (aC w.heap.size 3)=false:=dO hRb
    have r4:=aj W9 _ 4 _ _ _ hRb;have rf4:W9.frozen? (aC w.heap.size 4)=false:=dO hRb
    have r5:=aj W9 _ 5 _ _ _ hRb;have rf5:W9.frozen? (aC w.heap.size 5)=false:=dO hRb
    have r6:=aj W9 _ 6 _ _ _ hRb;have rf6:W9.frozen? (aC w.heap.size 6)=false:=dO hRb
    have r7:=aj W9 _ 7 _ _ _ hRb;have rf7:W9.frozen? (aC w.heap.size 7)=false:=dO hRb
    have r8:=aj W9 _ 8 _ _ _ hRb;have rf8:W9.frozen? (aC w.heap.size 8)=false:=dO hRb
    have r9:=aj W9 _ 9 _ _ _ hRb;have rf9:W9.frozen? (aC w.heap.size 9)=false:=dO hRb
    have r10:=aj W9 _ 10 _ _ _ hRb;have Vi:W9.frozen? (aC w.heap.size 10)=false:=dO hRb
    have zl:=aA <| zX (S:=fun q=>q=w.heap.size+1∨q=w.heap.size) (R:=w.heap.size) ((HM.o).kp.mono (fun _ _ e=>Or.inl e)) (Or.inr rfl) (.bool false) (.bool pub) (aH N) (.pointer o1) (.pointer none) (.pointer none) (.bool false) (.pointer none) (.bool true) (.slice pa ns.length pc) (aH B);have Vj:=aA <| Gh (R:=w.heap.size) hRb (.bool false) (.bool pub) (aH N) (.pointer o1) (.pointer none) (.pointer none) (.bool false) (.pointer none) (.bool true) (.slice pa ns.length pc) (aH B);clear hRb;go_wp2_with fail
    (try simp only[Exit.inBlock,Exit.then])
    refine aW (results_cell_row (p:=2) (ty:=57) rfl _ _ w.heap.size 57 _ (0,0) _ rfl Vj.o underlying57 rfl bC) rfl ?_;have hS:∀ q,a≤q→q<b→¬(q=w.heap.size+1∨q=w.heap.size):=fun q h1 h2=>by have:=XA.o;omega
    refine⟨⟨false,pub,some ⟨N,0,none⟩,o1,none,none,false,none,true,pa,ns.length,pc,some ⟨B,0,none⟩⟩,rfl,?_,(HB2.o).trans (Kp.below zl.o (HB2.o).size (fun q hq=>au))⟩;exact⟨rfl,rfl,(HL5.o).keep zl.o hS,rfl,rfl,rfl,(XD.o).keep zl.o hS bG7.o,p,ib,(HY5.o).1.keep zl.o hS,(HY5.o).2.1,(UH.o).1,(UH.o).2.1,(HY5.o).2.2,(UH.o).2.2⟩
   ·clear J_
    have YU:=aA (And.intro y2 (And.intro y3 y4));clear y2 y3 y4;have l3:W.cell? (aC (w.heap.size+1) 3)=some (.pointer none):=aj W _ 3 _ _ _ (HM.o).blk;have f3:W.frozen? (aC (w.heap.size+1) 3)=false:=dO (HM.o).blk
    obtain⟨aK7,o1,hlo1,zZ⟩:=(J9.o).call hbx hgx;have Gi:=aA hlo1;have QC:=(zZ W (HM.o).kp).1;have yu:=aA (zZ W (HM.o).kp).2;clear hlo1 zZ J9;go_wp2_with fail
    refine(yu.o).aX fun W' hW'=>?_;obtain rfl:=hW'.symm;clear yu QC
    go_upto_region 16 with fail
    have sS:Hid (xw w2 (w.heap.size+1) #[.bool false,.bool pub,aH N,.pointer o1,.pointer none,.pointer none,.bool false,.pointer none,.bool false,.slice none 0 0,.pointer none] (W.setCell (aC (w.heap.size+1) 3) (.pointer o1))):=(HM.o).set 3 (.pointer o1);generalize W.setCell (aC (w.heap.size+1) 3) (.pointer o1)=W3 at *;clear HM;have HM:=sS;clear sS;clear l3 f3;clear l0;have x1:=(HM.o).cell m1 hgx;have x4:=(HM.o).cell m4 au;have x5:(((kq:Nat):Int)==6)=false:=aQ
    have x6:=(HM.o).cell y1 hgx;clear y1 m1 m4;have l10:W3.cell? (aC (w.heap.size+1) 10)=some (.pointer none):=aj W3 _ 10 _ _ _ (HM.o).blk;have f10:W3.frozen? (aC (w.heap.size+1) 10)=false:=dO (HM.o).blk
    go_upto_region 20 with fail
    have sS:Hid (xw w2 (w.heap.size+1) #[.bool false,.bool pub,aH N,.pointer o1,.pointer none,.pointer none,.bool false,.pointer none,.bool false,.slice none 0 0,aH B] (W3.setCell (aC (w.heap.size+1) 10) (aH B))):=(HM.o).set 10 (aH B);generalize W3.setCell (aC (w.heap.size+1) 10) (aH B)=W9 at *;clear HM;have HM:=sS;clear sS;clear l10 f10;have l0:W9.cell? (aC (w.heap.size+1) 0)=some (.bool false):=aj W9 _ 0 _ _ _ (HM.o).blk;have l1:W9.cell? (aC (w.heap.size+1) 1)=some (.bool pub):=aj W9 _ 1 _ _ _ (HM.o).blk;have l2:W9.cell? (aC (w.heap.size+1) 2)=some (aH N):=aj W9 _ 2 _ _ _ (HM.o).blk;have l3:W9.cell? (aC (w.heap.size+1) 3)=some (.pointer o1):=aj W9 _ 3 _ _ _ (HM.o).blk;have l4:W9.cell? (aC (w.heap.size+1) 4)=some (.pointer none):=aj W9 _ 4 _ _ _ (HM.o).blk;have l5:W9.cell? (aC (w.heap.size+1) 5)=some (.pointer none):=aj W9 _ 5 _ _ _ (HM.o).blk;have l6:W9.cell? (aC (w.heap.size+1) 6)=some (.bool false):=aj W9 _ 6 _ _ _ (HM.o).blk;have l7:W9.cell? (aC (w.heap.size+1) 7)=some (.pointer none):=aj W9 _ 7 _ _ _ (HM.o).blk;have l8:W9.cell? (aC (w.heap.size+1) 8)=some (.bool false):=aj W9 _ 8 _ _ _ (HM.o).blk;have l9:W9.cell? (aC (w.heap.size+1) 9)=some (.slice none 0 0):=aj W9 _ 9 _ _ _ (HM.o).blk;have l10:W9.cell? (aC (w.heap.size+1) 10)=some (aH B):=aj W9 _ 10 _ _ _ (HM.o).blk;have hRb:=(HM.o).kp.heap HR.o (by show ¬ w.heap.size=w.heap.size+1;omega);have r0:=aj W9 _ 0 _ _ _ hRb;have rf0:W9.frozen? (aC w.heap.size 0)=false:=dO hRb
    have r1:=aj W9 _ 1 _ _ _ hRb;have rf1:W9.frozen? (aC w.heap.size 1)=false:=dO hRb
    have r2:=aj W9 _ 2 _ _ _ hRb;have rf2:W9.frozen? (aC w.heap.size 2)=false:=dO hRb
    have r3:=aj W9 _ 3 _ _ _ hRb;have rf3:W9.frozen? (aC w.heap.size 3)=false:=dO hRb
    have r4:=aj W9 _ 4 _ _ _ hRb;have rf4:W9.frozen? (aC w.heap.size 4)=false:=dO hRb
    have r5:=aj W9 _ 5 _ _ _ hRb;have rf5:W9.frozen? (aC w.heap.size 5)=false:=dO hRb
    have r6:=aj W9 _ 6 _ _ _ hRb;have rf6:W9.frozen? (aC w.heap.size 6)=false:=dO hRb
    have r7:=aj W9 _ 7 _ _ _ hRb;have rf7:W9.frozen? (aC w.heap.size 7)=false:=dO hRb
    have r8:=aj W9 _ 8 _ _ _ hRb;have rf8:W9.frozen? (aC w.heap.size 8)=false:=dO hRb
    have r9:=aj W9 _ 9 _ _ _ hRb;have rf9:W9.frozen? (aC w.heap.size 9)=false:=dO hRb
    have r10:=aj W9 _ 10 _ _ _ hRb;have Vi:W9.frozen? (aC w.heap.size 10)=false:=dO hRb
    have zl:=aA <| zX (S:=fun q=>q=w.heap.size+1∨q=w.heap.size) (R:=w.heap.size) ((HM.o).kp.mono (fun _ _ e=>Or.inl e)) (Or.inr rfl) (.bool false) (.bool pub) (aH N) (.pointer o1) (.pointer none) (.pointer none) (.bool false) (.pointer none) (.bool false) (.slice none 0 0) (aH B);have Vj:=aA <| Gh (R:=w.heap.size) hRb (.bool false) (.bool pub) (aH N) (.pointer o1) (.pointer none) (.pointer none) (.bool false) (.pointer none) (.bool false) (.slice none 0 0) (aH B);clear hRb;go_wp2_with fail
    (try simp only[Exit.inBlock,Exit.then])
    refine aW (results_cell_row (p:=2) (ty:=57) rfl _ _ w.heap.size 57 _ (0,0) _ rfl Vj.o underlying57 rfl bC) rfl ?_;have hS:∀ q,a≤q→q<b→¬(q=w.heap.size+1∨q=w.heap.size):=fun q h1 h2=>by have:=XA.o;omega
    refine⟨⟨false,pub,some ⟨N,0,none⟩,o1,none,none,false,none,false,none,0,0,some ⟨B,0,none⟩⟩,rfl,?_,(HB2.o).trans (Kp.below zl.o (HB2.o).size (fun q hq=>au))⟩;exact⟨rfl,rfl,(Gi.o).keep zl.o hS,rfl,rfl,rfl,⟨none,0,rfl,ax _,by unfold maxLen;omega,fun j n h=>by simp at h⟩,p,ib,(YU.o).1.keep zl.o hS,(YU.o).2.1,(UH.o).1,(UH.o).2.1,(YU.o).2.2,(UH.o).2.2⟩
end
end Go.Proofs.YtoohcklcppnafaaGreatDoor
