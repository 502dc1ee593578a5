import Derived.Test.YtoohcklcppnafaaGreatDoorBs
namespace Go.Proofs.YtoohcklcppnafaaGreatDoor
set_option maxRecDepth 100000
set_option maxHeartbeats 16000000
open Go.RowKit
open M
open X
section
open Tryz
variable{v:Value}{P p1 p2:Part}{i i1 i2 nc ac:Nat}{nm:Nm}{e1 e2:Ex}{no ao:Option Addr}{sl:List Nm}
variable{w0:aG}{K:DK}{l:List AF}{us:List X.U}{w:aG}
theorem Qo{w:aG}{g j:Nat}(h:w.cell? (aC g j)=some v):g<w.heap.size:=by
 rcases cu g w.heap.size with h1|h1
 ·exact h1
 ·simp[World.cell?,ni h1] at h
structure Xz(P:Part)(i:Nat)(nm:Nm)(p1 p2:Part)(i1 i2:Nat)(e1 e2:Ex):Prop where
 ex:∃ t1 n t2 t3,P=.br 7 (t1++(n++(t2++([p1]++(t3++[p2])))))∧sj t1∧zG n (i+pz t1) nm∧sj t2∧sj t3∧oG n∧i1=i+pz t1+pz n+pz t2∧i2=i+pz t1+pz n+pz t2+pz [p1]+pz t3
 r1:Rd p1 i1 e1
 r2:Rd p2 i2 e2
 b1:Cx p1
 b2:Cx p2
 k0:su P
 k1:su p1
 k2:su p2
 sz:jh p1+jh p2+1≤jh P
 kd:pk P=7
theorem NI(h:Dr w0 K l us w)(hn:lS w K.a K.b v P i)(hL:Xz P i nm p1 p2 i1 i2 e1 e2)(hz:jh P≤1073741823)(hsc:oH K w0.heap.size w no nc ao ac sl) :
  bB 33 #[v] (w.alloc (.cells #[.slice no sl.length nc,.slice ao sl.length ac] 67)) fun e w2=>∃ g rc v0 v1 v2 v3 v4 v5,e=.returned (.slice (b_ g) 6 rc)∧Hid (yS w0 K l us w P i no ao nc ac sl [v0,v1,v2,v3,v4,v5] (b_ g) rc w2∧(∃ o,qx w2 K.a K.b (.pointer o) nm∧bB 34 #[v1] w2 (cK (.pointer o) fun w'=>w'=w2))∧lS w2 K.a K.b v3 p1 i1∧lS w2 K.a K.b v5 p2 i2):=by
 obtain⟨t1,n,t2,t3,rfl,h1,hnm,h2,h3,hby,rfl,rfl⟩:=hL.ex;refine(rF h hn hL.k0 hz hsc).mono ?_;rintro e' w2 ⟨ro,rc,vs,rfl,-,HI⟩;have hlp:LP w2 K.a K.b vs (t1++(n++(t2++([p1]++(t3++[p2]))))) i:=(HI.o).lp;obtain⟨l1,m1,rfl,g1,JZ⟩:=hlp.app;obtain⟨v0,p0,j0,rfl,-⟩:=g1.y_ h1;obtain⟨l2,m2,rfl,g2,zT⟩:=JZ.app;obtain⟨v1,pn,jn,rfl,hv1,-,hlf⟩:=g2.nmp hnm hby
 obtain⟨l3,m3,rfl,g3,J6⟩:=zT.app;obtain⟨v2,p2',j2,rfl,-⟩:=g3.y_ h2;obtain⟨l4,m4,rfl,g4,NJ⟩:=J6.app;obtain⟨v3,rfl,hv3⟩:=g4.one (zU hL.r1).2;obtain⟨l5,m5,rfl,g5,bF2⟩:=NJ.app;obtain⟨v4,p4,j4,rfl,-⟩:=g5.y_ h3;obtain⟨v5,rfl,hv5⟩:=bF2.one (zU hL.r2).2;obtain⟨g,cs,d,rfl,-⟩:=(HI.o).row 0 v0 rfl;exact⟨g,rc,v0,v1,v2,v3,v4,v5,rfl,HI.o,Qp hv1 hlf,hv3,hv5⟩
theorem yS.turn{vM:List X.U}{p:Part}{vs:List Value}{ro:Option Addr}{rc:Nat}{wr wx:aG}{B9:Nat}(h:yS w0 K l us w p i no ao nc ac sl vs ro rc wr)(hd:Dr w0 K l vM wx)(hk:Kp (fun q=>B9≤q) wr wx)(hw0:w0.heap.size≤B9)(hww:w.heap.size<B9)(hg:∀ g,ro=some ⟨g,0,none⟩→g<B9)(hno:∀ g,no=some ⟨g,0,none⟩→0<sl.length→g<B9)(hao:∀ g,ao=some ⟨g,0,none⟩→0<sl.length→g<B9):yS w0 K l vM w p i no ao nc ac sl vs ro rc wx:=by
 have hsf:∀ g,g<B9→Sf K w0.heap.size wr g→Sf K w0.heap.size wx g:=fun g hg hs=>⟨aJ hs.1 hk.size,fun h2=>by
  rcases h2 with h2|⟨h2,cs,d,hu⟩
  ·exact hs.2 (.inl h2)
  ·refine hs.2 (.inr ⟨h2,cs,d,?_⟩)
   rw[← hk.block g hs.1 (by show ¬ B9≤g;omega)];exact hu⟩
 refine⟨hd,Kp.trans h.dx hk (fun q h1 h2=>au),⟨h.sc.nb,h.sc.ab,fun j n hj=>?_,fun j n hj=>?_⟩,hk.heap h.blk (by show ¬ B9≤w.heap.size;omega),h.lp.keep hk (fun q h1 h2 h3=>by have:=hd.st.bl;omega),h.rb,fun j u hj=>?_⟩
 ·obtain⟨g,e1,e2,e3⟩:=h.sc.nr j n hj
  have hgl:=hno g e1 (by have:=lt_of_some hj;omega);exact⟨g,e1,hsf g hgl e2,hk.dD e3 (by show ¬ B9≤g;omega)⟩
 ·obtain⟨g,e1,e2,e3⟩:=h.sc.ar j n hj
  have hgl:=hao g e1 (by have:=lt_of_some hj;omega);exact⟨g,e1,hsf g hgl e2,hk.dD e3 (by show ¬ B9≤g;omega)⟩
 ·obtain⟨g,cs,d,e1,e2,e3,e4⟩:=h.row j u hj
  have hgl:=hg g e1;exact⟨g,cs,d,e1,e2,hk.heap e3 (by show ¬ B9≤g;omega),hk.dD e4 (by show ¬ B9≤g;omega)⟩
theorem Qn{n:Nat}(ih:CO w0 K l n){f:Nat}{a:AF}{sc:List (List Nm)}(h:Dr w0 K l us w)(hf:l[f]?=some a)(hn:lS w K.a K.b v P i)(hL:Xz P i nm p1 p2 i1 i2 e1 e2)(hpn:jh P≤n+1)(hz:sl.length+jh P≤1073741823)(hsc:oH K w0.heap.size w no nc ao ac sl)(hsg:Sg sc sl)(hlim:us.length+(exU f (fH (dA l) f) sc (.kH nm e1 e2)).length≤1073741824) :
  bB 21 #[aH K.wb,ak f,v,.agg #[.slice no sl.length nc,.slice ao sl.length ac]] w (cK (.tuple #[]) fun w'=>Hid (Dr w0 K l (us++exU f (fH (dA l) f) sc (.kH nm e1 e2)) w'∧Dx K w0.heap.size w w')):=by
 have HC:=aA (NI h hn hL au hsc);have hsz:=hL.sz;rw[exU] at hlim ⊢;rw[ay,ay] at hlim;have Jw:Hid (∀ w2 v3,Dr w0 K l (us++jd f nm 2 0) w2→lS w2 K.a K.b v3 p1 i1→oH K w0.heap.size w2 no nc ao ac sl→bB 21 #[aH K.wb,ak f,v3,.agg #[.slice no sl.length nc,.slice ao sl.length ac]] w2 (cK (.tuple #[]) fun w'=>Hid (Dr w0 K l ((us++jd f nm 2 0)++exU f (fH (dA l) f) sc e1) w'∧Dx K w0.heap.size w2 w'))):=fun w2 v3 d1 d2 d3=>ih (us++jd f nm 2 0) w2 f a p1 i1 v3 no ao nc ac sl sc _ d1 hf d2 (.inl ⟨e1,hL.r1,rfl⟩) hL.b1 hL.k1 au d3 hsg au (by rw[ay];omega)
 have HE2:Hid (∀ w2 v5 no' ru pV rz sm,Dr w0 K l ((us++jd f nm 2 0)++exU f (fH (dA l) f) sc e1) w2→lS w2 K.a K.b v5 p2 i2→oH K w0.heap.size w2 no' ru pV rz sm→sm=sl++(if nm.1=[] then [] else [nm])→bB 21 #[aH K.wb,ak f,v5,.agg #[.slice no' sm.length ru,.slice pV sm.length rz]] w2 (cK (.tuple #[]) fun w'=>Hid (Dr w0 K l (((us++jd f nm 2 0)++exU f (fH (dA l) f) sc e1)++exU f (fH (dA l) f) ([nm]::sc) e2) w'∧Dx K w0.heap.size w2 w'))):=fun w2 v5 no' ru pV rz sm d1 d2 d3 d4=>ih _ w2 f a p2 i2 v5 no' pV ru rz sm ([nm]::sc) _ d1 hf d2 (.inl ⟨e2,hL.r2,rfl⟩) hL.b2 hL.k2 au d3 (by
   rw[d4];by_cases h0:nm.1=[]
   ·rw[aU h0,aL];exact hsg.miss h0
   ·rw[aM h0];exact hsg.kH nm) (by rw[d4,ay];have:=jA p1;split<;>simp<;>omega) (by rw[ay,ay];omega)
 have HFin:Hid (∀ W,Dr w0 K l (((us++jd f nm 2 0)++exU f (fH (dA l) f) sc e1)++exU f (fH (dA l) f) ([nm]::sc) e2) W→Dr w0 K l (us++(jd f nm 2 0++(exU f (fH (dA l) f) sc e1++exU f (fH (dA l) f) ([nm]::sc) e2))) W):=fun W h=>by rw[← aK,← aK];exact h
 have hol:(jd f nm 2 0).length≤1:=by unfold jd X.f_;split<;>simp
 have FX:us.length+(jd f nm 2 0).length≤1073741824:=au
 obtain⟨N,aoN,Qk,kM,en,fr,tt,la,vsN,rfl,hN1,tX,hnd,-⟩:=hn.any;obtain⟨⟨n0,-⟩,-⟩:=hnd.facts;rw[hL.kd] at n0;have HS:=aA h.st;have hwb:=h.wl;have hw0:=h.size;have cH6:=h.st.wl;have hsl:sl.length≤1073741824:=au
 have hsl2:sl.length+1≤1073741823:=by have:=jA p1;omega
 clear h hf hn hsc hsg hnd ih hL hlim hpn hz;generalize exU f (fH (dA l) f) sc e1=U1 at *;generalize exU f (fH (dA l) f) ([nm]::sc) e2=U2 at *;go_enter func21,ntmps21;go_wp2_with fail
 refine(HC.o).mono ?_;rintro e' w2 ⟨g,rc,v0,v1,v2,v3,v4,v5,rfl,HI⟩;have m0:=Kp.dD (HI.o).1.dx n0 ((HS.o).nodes _ N hN1 tX);have bF0:6≤rc:=(HI.o).1.rb.1;have bF1:=(HI.o).1.rb.2;obtain⟨g',cs1,d1,ee1,hg1,-,g1⟩:=(HI.o).1.row 1 v1 rfl;cases ee1
 obtain⟨o,hlf,hcn⟩:=(HI.o).2.1;have HLf:=aA hlf;have HCn:=aA hcn;clear HC n0 hlf hcn;go_wp2_with fail
 refine(HCn.o).mono ?_;rintro e' w2' ⟨rfl,rfl⟩;have c0:=aj w2' _ 0 _ _ _ (HI.o).1.blk;have c1:=aj w2' _ 1 _ _ _ (HI.o).1.blk;have Js:=bN (HI.o).1.blk;have F5:Hid (0<sl.length→∃ g,no=some ⟨g,0,none⟩∧g<w2'.heap.size∧∀ j u,(rD sl)[j]?=some u→w2'.cell? (aC g j)=some u):=fun h=>by
  obtain⟨g,e1,e2,-⟩:=(HI.o).1.sc.nr 0 sl[0] (aF h);refine⟨g,e1,e2.1,fun j u hu=>?_⟩;unfold rD at hu;rw[iI] at hu;cases hj:sl[j]? with
  | none=>rw[hj] at hu;cases hu
  | some n =>
   rw[hj] at hu;obtain⟨g',F6,-,e3'⟩:=(HI.o).1.sc.nr j n hj;rw[e1] at F6;cases F6
   rw[e3'];exact hu
 have F7:Hid (0<sl.length→∃ g,ao=some ⟨g,0,none⟩∧g<w2'.heap.size∧∀ j u,(rE sl)[j]?=some u→w2'.cell? (aC g j)=some u):=fun h=>by
  obtain⟨g,e1,e2,-⟩:=(HI.o).1.sc.ar 0 sl[0] (aF h);refine⟨g,e1,e2.1,fun j u hu=>?_⟩;unfold rE at hu;rw[iI] at hu;cases hj:sl[j]? with
  | none=>rw[hj] at hu;cases hu
  | some n =>
   rw[hj] at hu;obtain⟨g',F6,-,e3'⟩:=(HI.o).1.sc.ar j n hj;rw[e1] at F6;cases F6
   rw[e3'];exact hu
 have Vd:Hid (g<w2'.heap.size∧(∀ g,no=some ⟨g,0,none⟩→0<sl.length→g<w2'.heap.size)∧(∀ g,ao=some ⟨g,0,none⟩→0<sl.length→g<w2'.heap.size)):=by
  refine⟨Qo g1,fun g hg h0=>?_,fun g hg h0=>?_⟩
  ·obtain⟨g',e1,e2,-⟩:=(HI.o).1.sc.nr 0 sl[0] (aF h0)
   rw[hg] at e1;cases e1;exact e2.1
  ·obtain⟨g',e1,e2,-⟩:=(HI.o).1.sc.ar 0 sl[0] (aF h0)
   rw[hg] at e1;cases e1;exact e2.1
 clear HCn g1;go_wp2_with fail
 refine wp_region_any bC ?_;have D_:Hid (Below w2'.heap.size w2' w2'.drew):=(aB _ w2').drew;refine CF (Inv:=fun d a w'=>d.size=11∧∃ x0 x1 x2 x3 x4 x5 x6 x7 x8 x9,a={ tmps:=#[aH K.wb,ak f,aH N,.agg #[.slice no sl.length nc,.slice ao sl.length ac],undef,undef,undef,aH w.heap.size,.slice (b_ g) 6 rc,.pointer o,x9,undef,undef,undef,aH N,.slice (b_ g) 6 rc,aH N,aH N,aH N,ak 7,.bool false,undef,undef,undef,undef,undef,aH N,aH N,aH N,ak 7,.bool true,.slice (b_ g) 6 rc,.pointer (some ⟨g,1,none⟩),v1,.pointer o,x0,x1,x2,x3,x4,x5,x6,x7,x8,undef,undef,undef,undef,undef,undef,undef,undef,undef,undef,undef,undef,undef,undef,undef,undef,undef,undef,undef,undef,undef,undef,undef,undef,undef,undef,undef,undef,undef,undef,undef,undef,undef,undef,undef,undef,undef,undef,undef,undef,undef,undef,undef,undef,undef,undef,undef,undef,undef,undef,undef,undef,undef,undef,undef,undef,undef,undef,undef,undef,undef,undef,undef,undef,undef,undef,undef,undef,undef,undef,undef,undef,undef,undef,undef,undef,undef,undef,undef,undef,undef,undef,undef,undef,undef,undef,undef,undef,undef,undef],defers:=[] }∧Hid (qy w2'.heap.size w.heap.size no nc ao ac sl (fun i=>d.getD i false=true) x0 x1 x2 x3 x4 x5 x6 x7 x8 x9 w')∧Hid (Below w2'.heap.size w2' w')) ?_ ?_ _ _ _ _ ?_ ?_;rotate_left;rotate_left
 ·decide
 ·exact⟨rfl,undef,undef,undef,undef,undef,undef,undef,undef,undef,undef,rfl,⟨fun h=>by simp at h,fun h=>by simp at h,fun h=>by simp at h,fun h=>by simp at h,fun h=>by simp at h,fun h=>by simp at h,fun h=>by simp at h,fun h=>by simp at h,fun h=>by simp at h,fun h=>by simp at h,fun h=>by simp at h,fun h=>by simp at h,fun h=>by simp at h⟩,D_⟩
 ·intro d a w' j hj hI KK hK
  obtain⟨hds,x0,x1,x2,x3,x4,x5,x6,x7,x8,x9,rfl,HC,HB⟩:=hI;have hl:=F3 hj;have hbw:=(HB.o).size;have hun:=(nQ.1 hj).1;have mU:Hid (∀(a':Act) (W:aG) (x0 x1 x2 x3 x4 x5 x6 x7 x8 x9:Value),a'={ tmps:=#[aH K.wb,ak f,aH N,.agg #[.slice no sl.length nc,.slice ao sl.length ac],undef,undef,undef,aH w.heap.size,.slice (b_ g) 6 rc,.pointer o,x9,undef,undef,undef,aH N,.slice (b_ g) 6 rc,aH N,aH N,aH N,ak 7,.bool false,undef,undef,undef,undef,undef,aH N,aH N,aH N,ak 7,.bool true,.slice (b_ g) 6 rc,.pointer (some ⟨g,1,none⟩),v1,.pointer o,x0,x1,x2,x3,x4,x5,x6,x7,x8,undef,undef,undef,undef,undef,undef,undef,undef,undef,undef,undef,undef,undef,undef,undef,undef,undef,undef,undef,undef,undef,undef,undef,undef,undef,undef,undef,undef,undef,undef,undef,undef,undef,undef,undef,undef,undef,undef,undef,undef,undef,undef,undef,undef,undef,undef,undef,undef,undef,undef,undef,undef,undef,undef,undef,undef,undef,undef,undef,undef,undef,undef,undef,undef,undef,undef,undef,undef,undef,undef,undef,undef,undef,undef,undef,undef,undef,undef,undef,undef,undef,undef,undef,undef,undef,undef,undef,undef,undef,undef],defers:=[] }→qy w2'.heap.size w.heap.size no nc ao ac sl (fun i=>d.getD i false=true∨i=j) x0 x1 x2 x3 x4 x5 x6 x7 x8 x9 W→Below w2'.heap.size w2' W→KK a' W):=fun a' W x0 x1 x2 x3 x4 x5 x6 x7 x8 x9 h1 h2 h3=>hK.o a' W ⟨by simpa using hds,x0,x1,x2,x3,x4,x5,x6,x7,x8,x9,h1,h2.iff (fun i hi=>by rw[F4];constructor;(rintro(h|⟨h,-⟩);exact .inl h;exact .inr h);(rintro(h|h);exact .inl h;exact .inr ⟨h,au⟩)),h3⟩
  have HJ:Hid (¬ d.getD j false=true):=fun e=>by
   rw[jg] at e hun;cases hx:d[j]? with
   | none=>rw[hx] at e;cases e
   | some b=>rw[hx] at e hun;simp at e hun;rw[hun] at e;cases e
  have kF:∀ o:Obj,Kp (fun _=>False) w' (w'.alloc o):=fun o=>(Kp.refl _ w').alloc o
  have yQ:=aA kF;have YA:Hid (∀ o:Obj,Below w2'.heap.size w2' (w'.alloc o)):=fun o=>(HB.o).alloc hbw o
  clear hK hun kF;by_cases hj0:j=0
  ·subst hj0
   refine wpOp_step rfl (fun K' hK'=>?_);go_simp;refine hK' _ _ ((mU.o) _ _ _ x1 x2 x3 x4 x5 x6 x7 x8 x9 rfl (((HC.o).keep ((yQ.o) _)).s0 ?_) ((YA.o) _));exact World.ownsRow_lit w' #[] 0 hbw (by unfold maxLen;omega) rfl
  by_cases hj1:j=1
  ·subst hj1
   refine wpOp_step rfl (fun K' hK'=>?_);go_simp;exact hK' _ _ ((mU.o) _ _ x0 _ x2 x3 x4 x5 x6 x7 x8 x9 rfl ((HC.o).s1) HB.o)
  by_cases hj5:j=5
  ·subst hj5
   refine wpOp_step rfl (fun K' hK'=>?_);go_simp;exact hK' _ _ ((mU.o) _ _ x0 x1 x2 x3 x4 _ x6 x7 x8 x9 rfl ((HC.o).s5) HB.o)
  by_cases hj2:j=2
  ·subst hj2
   obtain rfl:=(HC.o).i1 (gQ hj (i:=1) bC);have c0':=iY HB.o Js c0;refine wpOp_step rfl (fun K' hK'=>?_);go_simp;exact hK' _ _ ((mU.o) _ _ x0 _ _ x3 x4 x5 x6 x7 x8 x9 rfl ((HC.o).s2) HB.o)
  by_cases hj6:j=6
  ·subst hj6
   obtain rfl:=(HC.o).i5 (gQ hj (i:=5) bC);have c1':=iY HB.o Js c1;refine wpOp_step rfl (fun K' hK'=>?_);go_simp;exact hK' _ _ ((mU.o) _ _ x0 x1 x2 x3 x4 _ _ x7 x8 x9 rfl ((HC.o).s6) HB.o)
  by_cases hj4:j=4
  ·subst hj4
   refine wpOp_step rfl (fun K' hK'=>?_);go_simp;refine hK' _ _ ((mU.o) _ _ x0 x1 x2 x3 _ x5 x6 x7 x8 x9 rfl (((HC.o).keep ((yQ.o) _)).s4 ?_) ((YA.o) _));exact World.ownsRow_lit w' #[] 0 hbw (by unfold maxLen;omega) rfl
  by_cases hj9:j=9
  ·subst hj9
   refine wpOp_step rfl (fun K' hK'=>?_);go_simp;exact hK' _ _ ((mU.o) _ _ x0 x1 x2 x3 x4 x5 x6 x7 x8 _ rfl (((HC.o).keep ((yQ.o) _)).s9 hbw (aI w' _) HJ.o) ((YA.o) _))
  by_cases hj8:j=8
  ·subst hj8
   have h3:=gQ hj (i:=3) bC;have h7:=gQ hj (i:=7) bC;obtain⟨⟨so,sc,e3⟩,-⟩:=(HC.o).i3 h3;obtain⟨⟨Ns,zi,e7⟩,-⟩:=(HC.o).i7 h7;subst e3 e7;refine wpOp_step rfl (fun K' hK'=>?_);go_simp;exact hK' _ _ ((mU.o) _ _ x0 x1 x2 _ x4 x5 x6 _ _ x9 rfl ((HC.o).s8 h3 h7) HB.o)
  by_cases bF4:j=10
  ·subst bF4
   have h8:=gQ hj (i:=8) bC;have h9:=gQ hj (i:=9) bC;have h37:=(HC.o).j8 h8;obtain⟨⟨so,sc,e3⟩,-⟩:=(HC.o).i3 h37.1;obtain⟨⟨Ns,zi,e7⟩,-⟩:=(HC.o).i7 h37.2;obtain⟨b9,e9,Nt,yR⟩:=(HC.o).i9 h9 HJ.o;have e8:=(HC.o).i8 h8;subst e3 e7 e9 e8;have z0:=aj w' _ 0 _ _ _ yR;have z1:=aj w' _ 1 _ _ _ yR;have f0:w'.frozen? (aC b9 0)=false:=dO yR
   have f1:w'.frozen? (aC b9 1)=false:=dO yR
   refine wpOp_step rfl (fun K' hK'=>?_);go_simp;refine hK' _ _ ((mU.o) _ _ x0 x1 x2 _ x4 x5 x6 _ _ _ rfl ((HC.o).s10 h8 h9 Nt (Kp.setCell (S:=fun q=>q=b9) (p:=⟨b9,1,none⟩) (Kp.setCell (S:=fun q=>q=b9) (p:=⟨b9,0,none⟩) (Kp.refl _ w') (fun _=>rfl) _) (fun _=>rfl) _) yR ?_) ?_)
   ·exact dV (dV yR 0 _) 1 _
   ·exact(HB.o).trans (Kp.below (S:=fun q=>q=b9) (Kp.setCell (S:=fun q=>q=b9) (p:=⟨b9,1,none⟩) (Kp.setCell (S:=fun q=>q=b9) (p:=⟨b9,0,none⟩) (Kp.refl _ w') (fun _=>rfl) _) (fun _=>rfl) _) hbw (fun k e=>by rw[e];exact Nt))
  by_cases hj3:j=3
  ·subst hj3
   have hr:=gQ hj (i:=0) bC;have hs:=gQ hj (i:=2) bC;obtain⟨⟨g,eg⟩,hown⟩:=(HC.o).i0 hr HJ.o;have es:=(HC.o).i2 hs;subst eg es;obtain⟨i0,hi0,hz0,hz1,hz2⟩:=dM infoSt;rcases gZ sl.length with hz|hpos
   ·obtain rfl:=bP.1 hz
    have HR:=aA (run_append_nothing (P:=prog) w' 64 64 64 9 i0 underlying64 hi0 (b_ g) 0 0 (ax _) (.slice no 0 nc) (Qc _ no nc));refine wpOp_step rfl (fun K' hK'=>?_);refine kP (by rfl) _ _ 64 64 (by rfl) (by rfl) (.slice (b_ g) 0 0) (.slice no 0 nc) (by rfl) (by rfl) HR.o ?_;refine hK' _ _ ((mU.o) _ _ _ x1 _ _ x4 x5 x6 x7 x8 x9 rfl ((HC.o).s3 hr HJ.o (Kp.refl _ w') hown) HB.o)
   ·obtain⟨gs,rfl,hgs,hcs⟩:=(F5.o) hpos
    have hge:=dG hown;refine wpOp_step rfl (fun K' hK'=>?_);refine step_append_lies _ (by rfl) _ _ _ (by rfl) w2'.heap.size 9 i0 _ 1 16 underlying64 hi0 hz0 hz1 hz2 rfl au (.slice (b_ g) 0 0) 0 [] (by rfl) hown ⟨gs,0,none⟩ sl.length nc (rD sl) (by rfl) (by unfold rD;rw[cB,Nat.mul_one]) (fun j u hu=>by rw[dQ,bS];exact iY HB.o hgs (hcs j u hu)) (fun u hu=>by unfold rD at hu;obtain⟨n,-,rfl⟩:=fU.1 hu;rfl) hpos (by unfold maxLen;omega) au hbw w'.heap.size rfl ?_;intro g5 cap5 w5 hown5 aV gI jm;rw[bM,bS] at hown5;have hk5:=(Kp.refl _ w').grown aV (fun q e _=>e);rw[bS];refine hK' _ _ ((mU.o) _ _ _ x1 _ _ x4 x5 x6 x7 x8 x9 rfl ((HC.o).s3 hr HJ.o hk5 hown5) ((HB.o).grown aV hbw (fun q hq=>(hge q hq).1)))
  by_cases hj7:j=7
  ·subst hj7
   have hr:=gQ hj (i:=4) bC;have hs:=gQ hj (i:=6) bC;obtain⟨⟨g,eg⟩,hown⟩:=(HC.o).i4 hr HJ.o;have es:=(HC.o).i6 hs;subst eg es;obtain⟨i0,hi0,hz0,hz1,hz2⟩:=dM D9;rcases gZ sl.length with hz|hpos
   ·obtain rfl:=bP.1 hz
    have HR:=aA (run_append_nothing (P:=prog) w' 65 65 65 3 i0 underlying65 hi0 (b_ g) 0 0 (ax _) (.slice ao 0 ac) (Qd _ ao ac));refine wpOp_step rfl (fun K' hK'=>?_);refine kP (by rfl) _ _ 65 65 (by rfl) (by rfl) (.slice (b_ g) 0 0) (.slice ao 0 ac) (by rfl) (by rfl) HR.o ?_;refine hK' _ _ ((mU.o) _ _ x0 x1 x2 x3 _ x5 _ _ x8 x9 rfl ((HC.o).s7 hr HJ.o (Kp.refl _ w') hown) HB.o)
   ·obtain⟨gs,rfl,hgs,hcs⟩:=(F7.o) hpos
    have hge:=dG hown;refine wpOp_step rfl (fun K' hK'=>?_);refine step_append_lies _ (by rfl) _ _ _ (by rfl) w2'.heap.size 3 i0 _ 1 8 underlying65 hi0 hz0 hz1 hz2 rfl au (.slice (b_ g) 0 0) 0 [] (by rfl) hown ⟨gs,0,none⟩ sl.length ac (rE sl) (by rfl) (by unfold rE;rw[cB,Nat.mul_one]) (fun j u hu=>by rw[dQ,bS];exact iY HB.o hgs (hcs j u hu)) (fun u hu=>by unfold rE at hu;obtain⟨n,-,rfl⟩:=fU.1 hu;rfl) hpos (by unfold maxLen;omega) au hbw w'.heap.size rfl ?_;intro g5 cap5 w5 hown5 aV gI jm;rw[bM,bS] at hown5;have hk5:=(Kp.refl _ w').grown aV (fun q e _=>e);rw[bS];refine hK' _ _ ((mU.o) _ _ x0 x1 x2 x3 _ x5 _ _ x8 x9 rfl ((HC.o).s7 hr HJ.o hk5 hown5) ((HB.o).grown aV hbw (fun q hq=>(hge q hq).1)))
  exfalso;have cI3:j<11:=hl;omega
 ·intro d a w' hr hI
  obtain⟨hds,x0,x1,x2,x3,x4,x5,x6,x7,x8,x9,rfl,HC,HB⟩:=hI;have hall:=Qe hds hr bC;obtain⟨⟨so,sc,e3⟩,ho3⟩:=(HC.o).i3 (hall 3 aS);obtain⟨⟨Ns,zi,e7⟩,ho7⟩:=(HC.o).i7 (hall 7 aS);obtain⟨b9,e9,Nt,yR⟩:=(HC.o).i10 (hall 10 aS);subst e3 e7 e9;have HO3:=aA ho3;have Qf:=aA ho7;have HB9:=aA yR;clear hall hr hds HC ho3 ho7 yR;have kB:=HB.o;have HIB:=aA <| (HI.o).1.keep hwb ((HI.o).1.dr.below kB) (Dx.aN kB);have Ve:Hid (yP w' w2'.heap.size b9 (.slice so sl.length sc) (.slice Ns sl.length zi) sl sl):=⟨HB9.o,HO3.o,Qf.o⟩;have Vf:=aA <| (HI.o).2.2.1.below kB;have Vg:=aA <| (HI.o).2.2.2.below kB;have hlf:=(HLf.o).below kB;have aJ8:=Js;generalize cI4:w2'.heap.size=B9 at Ve Nt aJ8 Vd;clear HO3 Qf HB9 HB D_ F5 F7 c0 c1 kB HI HLf m0;rcases hlf with ⟨hn0,hv0⟩|⟨hn0,N2,tN,rvN,atN,enN,ttN,laN,hv0,hM1,hM2,-,J7⟩
  ·cases hv0
   have eU:us++jd f nm 2 0=us:=by unfold jd X.f_;rw[aU hn0,aL]
   have Gf:Hid (yS w0 K l (us++jd f nm 2 0) w P i no ao nc ac sl [v0,v1,v2,v3,v4,v5] (b_ g) rc w'):=by rw[eU];exact HIB
   have YK:Hid (sl=sl++(if nm.1=[] then [] else [nm])):=by show _=_;rw[aU hn0,aL]
   have LX:=Ve;have Xy:=Vf;have HV5:=Vg;clear HIB Ve Vf Vg eU;obtain⟨sm,hsm⟩:∃ sm,sm=sl:=⟨sl,rfl⟩;have aJ9:Hid (sm=sl++(if nm.1=[] then [] else [nm])):=by rw[hsm];exact YK
   have aK0:Hid (yP w' B9 b9 (.slice so sm.length sc) (.slice Ns sm.length zi) sm sm):=by rw[hsm];exact LX
   clear LX;have LX:=aK0;clear aK0;clear YK;have YK:=aJ9;clear aJ9 hsm;generalize cI5:so=BF at LX;generalize cI6:sc=BG at LX;generalize cI7:Ns=uF at LX;generalize cI8:zi=BH at LX;have U9:=bN (LX.o).blk;obtain⟨g3',cs3,dd3,ee3,hg3,Qq,g3⟩:=(Gf.o).row 3 v3 rfl;cases ee3
   have b0:=aj w' _ 0 _ _ _ (Gf.o).blk;have b1:=aj w' _ 1 _ _ _ (Gf.o).blk;have J8:Below w'.heap.size w' w'.drew:=(aB _ w').drew;have zV:=aA ((Jw.o) w'.drew v3 ((Gf.o).dr.below J8) ((Xy.o).below J8) ((Gf.o).sc.keep (Dx.aN J8)));have JY:Hid (¬ K.Sx w0.heap.size w'.drew g):=mV (w:=w'.drew) Qq au aS;have zS:Hid (¬ K.Sx w0.heap.size w'.drew w.heap.size):=mV (w:=w'.drew) (Gf.o).blk au aS;clear Qq;go_wp2_with fail
   refine wp_region_noPanic ?_;refine dB (S:=fun w'=>w'.cell? (aC g 3)=some v3∧w'.cell? (aC w.heap.size 0)=some (.slice no sl.length nc)∧w'.cell? (aC w.heap.size 1)=some (.slice ao sl.length ac)) (z:=7) bC ?_;have hS:w'.drew.cell? (aC g 3)=some v3∧w'.drew.cell? (aC w.heap.size 0)=some (.slice no sl.length nc)∧w'.drew.cell? (aC w.heap.size 1)=some (.slice ao sl.length ac):=⟨g3,b0,b1⟩;iterate 6(refine oQ hS ?_;simp only[Act.put,aD,aO,aP])
   refine dY (i:=6) bC rfl (fun KK hK=>?_);go_simp;refine(zV.o).aX fun w4 H4=>?_;have YL:=Kp.dD (H4.o).2 hS.1 JY.o;have YM:=Kp.dD (H4.o).2 hS.2.1 zS.o;have Qr:=Kp.dD (H4.o).2 hS.2.2 zS.o;go_simp;refine hK.o _ _ (fun _=>⟨YL,YM,Qr⟩) (fun _=>iF ?_);clear hK KK hS;refine NoPanic.normal ?_;have tZ:=(Dx.aN ((aB _ w').drew)).trans (H4.o).2;have HI4:=aA <| (Gf.o).keep hwb (H4.o).1 tZ;have vN:=aA <| (LX.o).dx tZ ⟨au,au⟩;have NK:=aA <| (HV5.o).keep tZ ((HS.o).nodes _);obtain⟨g5',cs5,dd5,ee5,hg5,Qs,g5⟩:=(HI4.o).row 5 v5 rfl;cases ee5
   have y0:=aj w4 _ 0 _ _ _ (vN.o).blk;have y1:=aj w4 _ 1 _ _ _ (vN.o).blk;have Ed:Below w4.heap.size w4 w4.drew:=(aB _ w4).drew;have zW:=aA ((HE2.o) w4.drew v5 BF BG uF BH sm ((HI4.o).dr.below Ed) ((NK.o).below Ed) (((vN.o).below Ed).sc au) YK.o);have YN:Hid (¬ K.Sx w0.heap.size w4.drew g):=mV (w:=w4.drew) Qs au aS;have Qt:Hid (¬ K.Sx w0.heap.size w4.drew b9):=mV (w:=w4.drew) (vN.o).blk au aS;clear H4 Gf LX HV5 Xy zV Qs b0 b1 g3;go_wp2_with fail
   refine wp_region_noPanic ?_;refine dB (S:=fun w'=>w'.cell? (aC g 5)=some v5∧w'.cell? (aC b9 0)=some (.slice BF sm.length BG)∧w'.cell? (aC b9 1)=some (.slice uF sm.length BH)) (z:=7) bC ?_;have hS:w4.drew.cell? (aC g 5)=some v5∧w4.drew.cell? (aC b9 0)=some (.slice BF sm.length BG)∧w4.drew.cell? (aC b9 1)=some (.slice uF sm.length BH):=⟨g5,y0,y1⟩;iterate 6(refine oQ hS ?_;simp only[Act.put,aD,aO,aP])
   refine dY (i:=6) bC rfl (fun KK hK=>?_);go_simp;refine(zW.o).aX fun w6 H6=>?_;have YL:=Kp.dD (H6.o).2 hS.1 YN.o;have YM:=Kp.dD (H6.o).2 hS.2.1 Qt.o;have Qr:=Kp.dD (H6.o).2 hS.2.2 Qt.o;go_simp;refine hK.o _ _ (fun _=>⟨YL,YM,Qr⟩) (fun _=>iF ?_);clear hK KK hS;refine NoPanic.normal ?_;have HF:Hid (Dr w0 K l (us++(jd f nm 2 0++(U1++U2))) w6∧Dx K w0.heap.size w w6):=⟨(HFin.o) w6 (H6.o).1,(HI4.o).dx.trans ((Dx.aN Ed).trans (H6.o).2)⟩;clear H6 zW HI4 vN y0 y1 g5;go_wp2_with fail
   (try simp only[Exit.inBlock,Exit.then])
   refine aW (results_none rfl _ _ _) rfl ?_;exact⟨rfl,HF⟩
  ·cases hv0
   obtain⟨⟨-,-,t2,-,-,-,t6,-⟩,-⟩:=J7.facts;have rC:=bN J7;have eU:us++jd f nm 2 0=us++[⟨f,nm.2,2,f,nm.2,0⟩]:=by unfold jd X.f_;rw[aM hn0]
   have hl1:us.length+1≤1073741824:=by
    have:=congrArg List.length eU;rw[ay,ay] at this;have e1:([⟨f,nm.2,2,f,nm.2,0⟩]:List X.U).length=1:=rfl;omega
   have bF7:Below w'.heap.size w' w'.drew:=(aB _ w').drew;have HC:=aA (mD f nm.2 2 (f:Int) (nm.2:Int) 0 ((HIB.o).dr.below bF7) hl1);have F9:Hid (¬ K.Sx w0.heap.size w'.drew N2):=(HS.o).nodes _ N2 hM1 hM2;have hNb:=aJ hM2 (HS.o).bl;clear J7;go_wp2_with fail
   refine wp_region_noPanic ?_;refine dB (S:=fun w'=>w'.cell? (aC N2 6)=some (ak nm.2)) (z:=13) bC ?_;have hS:w'.drew.cell? (aC N2 6)=some (ak nm.2):=t6;iterate 12(refine oQ hS ?_;simp only[Act.put,aD,aO,aP])
   refine dY (i:=12) bC rfl (fun KK hK=>?_);go_simp;refine(HC.o).aX fun w4 H4=>?_;have p6:=Kp.dD (H4.o).2 hS F9.o;go_simp;refine hK.o _ _ (fun _=>p6) (fun _=>iF ?_);clear hK KK hS;refine NoPanic.normal ?_;have tZ:=(Dx.aN ((aB _ w').drew)).trans (H4.o).2;have HI4:Hid (yS w0 K l (us++jd f nm 2 0) w P i no ao nc ac sl [v0,v1,v2,v3,v4,v5] (b_ g) rc w4):=(HIB.o).keep hwb (by rw[eU];exact(H4.o).1) tZ;have Jt:=aA <| (Ve.o).dx tZ ⟨au,au⟩;have aK1:=aA <| (Vf.o).keep tZ ((HS.o).nodes _);have NK:=aA <| (Vg.o).keep tZ ((HS.o).nodes _);have s2:=Kp.dD tZ t2 ((HS.o).nodes _ N2 hM1 hM2);have s6:=Kp.dD tZ t6 ((HS.o).nodes _ N2 hM1 hM2);have z0:=aj w4 _ 0 _ _ _ (Jt.o).blk;have z1:=aj w4 _ 1 _ _ _ (Jt.o).blk;have zf0:w4.frozen? (aC b9 0)=false:=dO (Jt.o).blk
   have U9:=bN (Jt.o).blk;have BU:Hid (∀ q,(Value.slice so sl.length sc).ownBlock=some q→B9≤q∧q≠b9):=fun q hq=>⟨(dG (Jt.o).nr q hq).1,fun e=>by obtain⟨_,_,h1⟩:=eH (Jt.o).nr hq;rw[e] at h1;exact fO h1 (Jt.o).blk aS⟩
   obtain⟨i0,hi0,hz0,hz1,hz2⟩:=dM infoSt;have hmb:(sl.length+1)*16≤140737488355328:=au
   have Qg:B9≤w4.heap.size:=au
   have HZ:=aA Qg;have hN4:=aJ hNb (dI hw0 (HI4.o).dx.size);have hNB:N2<B9:=au
   clear H4 HC HIB Ve Vf Vg eU t2 t6 Qg tZ;go_wp2_with fail
   refine wp_region_noPanic ?_;refine dB (S:=fun w'=>w'.cell? (aC b9 0)=some (.slice so sl.length sc)∧w'.cell? (aC N2 2)=some (.string (ba nm.1))) (z:=9) bC ?_;have hS:w4.drew.cell? (aC b9 0)=some (.slice so sl.length sc)∧w4.drew.cell? (aC N2 2)=some (.string (ba nm.1)):=⟨z0,s2⟩;iterate 6(refine ny hS ?_;simp only[Act.put,aD,aO,aP])
   refine dY (i:=6) bC rfl (fun KK hK=>?_);go_simp;refine hK.o _ _ (fun _=>by first|go_keep|(dsimp only;go_keep)) (fun hS2=>?_);clear hS hK KK;have hS:=hS2 aS;clear hS2;refine dY (i:=7) bC rfl (fun KK hK=>?_);refine step_append_lies _ (by rfl) _ _ _ (by rfl) B9 9 i0 _ 1 16 underlying64 hi0 hz0 hz1 hz2 rfl au (.slice so sl.length sc) sl.length _ (by rfl) ((((Jt.o).nr).alloc _).drew) ⟨w4.heap.size,0,none⟩ 1 1 [.string (ba nm.1)] (by rfl) (by rfl) (World.news_of_block (cs:=#[.string (ba nm.1)]) (t:=9) (fr:=(0,0)) (heap_alloc_new w4 _)) (by simp[Value.oneCell']) au (by unfold maxLen;omega) hmb (by have:=HZ.o;simp;omega) (w4.heap.size+1) aT ?_;intro g5 cap5 w5 hown5 aV gI jm;have nb:=BU.o;have y0:=(aV.cell_far ⟨b9,0,none⟩ aQ (fun e=>(nb _ e.symm).2 rfl)).trans hS.1;have y2:=(aV.cell_far ⟨N2,2,none⟩ aQ (fun e=>by have h1:B9≤N2:=(nb _ e.symm).1;omega)).trans hS.2;have x2:=(aV.frozen_far ⟨b9,0,none⟩ aQ (fun e=>(nb _ e.symm).2 rfl)).trans ((World.frozen?_alloc_old _ _ ⟨b9,0,none⟩ aQ).trans zf0);show KK (Act.put _ (some 66) _) w5;refine hK.o _ _ (fun _=>⟨y0,y2⟩) (fun hS2=>?_);clear hS hK KK;have hS:=hS2 aS;clear hS2;simp only[Act.put,List.setIfInBounds_toArray,List.set_cons_zero,List.set_cons_succ];refine dY (i:=8) bC rfl (fun KK hK=>?_);go_simp;refine hK.o _ _ (fun _=>hS) (fun _=>?_);clear hK KK;refine dY (i:=9) bC rfl (fun KK hK=>?_);go_simp;refine hK.o _ _ (fun h=>absurd rfl h) (fun _=>iF ?_);clear hK KK;refine NoPanic.normal ?_;obtain⟨U_,Xt⟩:=yP.name Jt.o ((((Below.refl _ w4).alloc (Nat.le_refl _) (.cells #[.string (ba nm.1)] 9)).drew:Below w4.heap.size w4 (w4.alloc (.cells #[.string (ba nm.1)] 9)).drew)) (n:=nm) hown5 aV;have z61:=cell_of_row _ _ 1 _ _ _ U_.blk;have zf6:(w5.setCell (aC b9 0) (.slice (b_ g5) (sl.length+1) cap5)).frozen? (aC b9 1)=false:=dO U_.blk
   have s66:=Xt.dD s6 (fun hs=>by rcases hs with hs|hs;(have:N2=b9:=hs;omega);(have h1:B9≤N2:=((BU.o) _ hs).1;omega));have BI:=aA U_;have LW:=aA Xt;clear U_ Xt hown5 aV gI jm y0 y2 x2 hS nb s2 s6 z0 z1 zf0;generalize w5.setCell (aC b9 0) (.slice (b_ g5) (sl.length+1) cap5)=W6 at *;have bE6:=bN (BI.o).blk;have hN6:=aJ hN4 (LW.o).size;have vL:Hid (∀ q,(Value.slice Ns sl.length zi).ownBlock=some q→B9≤q∧q≠b9):=fun q hq=>⟨(dG (BI.o).ar q hq).1,fun e=>by obtain⟨_,_,h1⟩:=eH (BI.o).ar hq;rw[e] at h1;exact fO h1 (BI.o).blk aS⟩
   obtain⟨j0,hj0,hy0,hy1,hy2⟩:=dM D9;have YD:(sl.length+1)*8≤140737488355328:=au
   have HZ6:=aA <| dI HZ.o (LW.o).size;go_wp2_with fail
   refine wp_region_noPanic ?_;refine dB (S:=fun w'=>w'.cell? (aC b9 1)=some (.slice Ns sl.length zi)∧w'.cell? (aC N2 6)=some (ak (nm.2:Int))) (z:=9) bC ?_;have hS:W6.drew.cell? (aC b9 1)=some (.slice Ns sl.length zi)∧W6.drew.cell? (aC N2 6)=some (ak (nm.2:Int)):=⟨z61,s66⟩;iterate 6(refine ny hS ?_;simp only[Act.put,aD,aO,aP])
   refine dY (i:=6) bC rfl (fun KK hK=>?_);go_simp;refine hK.o _ _ (fun _=>by first|go_keep|(dsimp only;go_keep)) (fun hS2=>?_);clear hS hK KK;have hS:=hS2 aS;clear hS2;refine dY (i:=7) bC rfl (fun KK hK=>?_);refine step_append_lies _ (by rfl) _ _ _ (by rfl) B9 3 j0 _ 1 8 underlying65 hj0 hy0 hy1 hy2 rfl au (.slice Ns sl.length zi) sl.length _ (by rfl) ((((BI.o).ar).alloc _).drew) ⟨W6.heap.size,0,none⟩ 1 1 [ak (nm.2:Int)] (by rfl) (by rfl) (World.news_of_block (cs:=#[ak (nm.2:Int)]) (t:=3) (fr:=(0,0)) (heap_alloc_new W6 _)) (by simp[Value.oneCell']) au (by unfold maxLen;omega) YD (by have:=HZ6.o;simp;omega) (W6.heap.size+1) aT ?_;intro g5 cap5 w5 hown5 aV gI jm;have nb:=vL.o;have y0:=(aV.cell_far ⟨b9,1,none⟩ aQ (fun e=>(nb _ e.symm).2 rfl)).trans hS.1;have y2:=(aV.cell_far ⟨N2,6,none⟩ aQ (fun e=>by have h1:B9≤N2:=(nb _ e.symm).1;omega)).trans hS.2;have x2:=(aV.frozen_far ⟨b9,1,none⟩ aQ (fun e=>(nb _ e.symm).2 rfl)).trans ((World.frozen?_alloc_old _ _ ⟨b9,1,none⟩ aQ).trans zf6);show KK (Act.put _ (some 75) _) w5;refine hK.o _ _ (fun _=>⟨y0,y2⟩) (fun hS2=>?_);clear hS hK KK;have hS:=hS2 aS;clear hS2;simp only[Act.put,List.setIfInBounds_toArray,List.set_cons_zero,List.set_cons_succ];refine dY (i:=8) bC rfl (fun KK hK=>?_);go_simp;refine hK.o _ _ (fun _=>hS) (fun _=>?_);clear hK KK;refine dY (i:=9) bC rfl (fun KK hK=>?_);go_simp;refine hK.o _ _ (fun h=>absurd rfl h) (fun _=>iF ?_);clear hK KK;refine NoPanic.normal ?_;obtain⟨hO7,YE⟩:=yP.at BI.o ((((Below.refl _ W6).alloc (Nat.le_refl _) (.cells #[ak (nm.2:Int)] 3)).drew:Below W6.heap.size W6 (W6.alloc (.cells #[ak (nm.2:Int)] 3)).drew)) (n:=nm) hown5 aV;have Qf:=aA hO7;have YF:=aA YE;clear hO7 YE hown5 aV gI jm y0 y2 x2 hS nb s66 z61 zf6;generalize w5.setCell (aC b9 1) (.slice (b_ g5) (sl.length+1) cap5)=W7 at *;have Ju:Kp (fun q=>B9≤q) w4 W7:=Kp.trans ((LW.o).mono (fun q _ h=>by rcases h with rfl|h;(exact Nt);(exact((BU.o) q h).1))) ((YF.o).mono (fun q _ h=>by rcases h with rfl|h;(exact Nt);(exact((vL.o) q h).1))) (fun _ _ h=>h);have d6:=(HI4.o).dr.other LW.o (fun q hq=>⟨by rcases hq with rfl|hq;(omega);(have:=((BU.o) q hq).1;omega),fun⟨cs,d,hu⟩=>by
    rcases hq with rfl|hq
    ·exact fO (Jt.o).blk hu aS
    ·obtain⟨_,_,h1⟩:=eH (Jt.o).nr hq
     exact fO h1 hu aS⟩)
   have d7:=d6.other YF.o (fun q hq=>⟨by rcases hq with rfl|hq;(omega);(have:=((vL.o) q hq).1;omega),fun⟨cs,d,hu⟩=>by
    rcases hq with rfl|hq
    ·exact fO (BI.o).blk hu aS
    ·obtain⟨_,_,h1⟩:=eH (BI.o).ar hq
     exact fO h1 hu aS⟩)
   have Gf:=aA <| (HI4.o).turn d7 Ju au aJ8 (fun g' e=>by cases e;exact(Vd.o).1) (Vd.o).2.1 (Vd.o).2.2;have Xy:=aA <| (aK1.o).keep Ju (fun q h1 h2 h3=>by have:=(HS.o).bl;omega);have HV5:=aA <| (NK.o).keep Ju (fun q h1 h2 h3=>by have:=(HS.o).bl;omega);have YO:Hid (∃ BF BG uF BH,yP W7 B9 b9 (.slice BF (sl++[nm]).length BG) (.slice uF (sl++[nm]).length BH) (sl++[nm]) (sl++[nm])):=by
    rw[ay];exact⟨_,_,_,_,Qf.o⟩
   have YK:Hid (sl++[nm]=sl++(if nm.1=[] then [] else [nm])):=by show _=_;rw[aM hn0]
   generalize hsm:sl++[nm]=sm at YO YK;clear hsm;obtain⟨BF,BG,uF,BH,aK3⟩:=YO.o;have LX:=aA aK3;clear YO aK3 d6 d7 Ju LW YF BI Qf Jt HI4 aK1 NK;have U9:=bN (LX.o).blk;obtain⟨g3',cs3,dd3,ee3,hg3,Qq,g3⟩:=(Gf.o).row 3 v3 rfl;cases ee3
   have b0:=aj W7 _ 0 _ _ _ (Gf.o).blk;have b1:=aj W7 _ 1 _ _ _ (Gf.o).blk;have J8:Below W7.heap.size W7 W7.drew:=(aB _ W7).drew;have zV:=aA ((Jw.o) W7.drew v3 ((Gf.o).dr.below J8) ((Xy.o).below J8) ((Gf.o).sc.keep (Dx.aN J8)));have JY:Hid (¬ K.Sx w0.heap.size W7.drew g):=mV (w:=W7.drew) Qq au aS;have zS:Hid (¬ K.Sx w0.heap.size W7.drew w.heap.size):=mV (w:=W7.drew) (Gf.o).blk au aS;clear Qq;go_wp2_with fail
   refine wp_region_noPanic ?_;refine dB (S:=fun w'=>w'.cell? (aC g 3)=some v3∧w'.cell? (aC w.heap.size 0)=some (.slice no sl.length nc)∧w'.cell? (aC w.heap.size 1)=some (.slice ao sl.length ac)) (z:=7) bC ?_;have hS:W7.drew.cell? (aC g 3)=some v3∧W7.drew.cell? (aC w.heap.size 0)=some (.slice no sl.length nc)∧W7.drew.cell? (aC w.heap.size 1)=some (.slice ao sl.length ac):=⟨g3,b0,b1⟩;iterate 6(refine oQ hS ?_;simp only[Act.put,aD,aO,aP])
   refine dY (i:=6) bC rfl (fun KK hK=>?_);go_simp;refine(zV.o).aX fun w4 H4=>?_;have YL:=Kp.dD (H4.o).2 hS.1 JY.o;have YM:=Kp.dD (H4.o).2 hS.2.1 zS.o;have Qr:=Kp.dD (H4.o).2 hS.2.2 zS.o;go_simp;refine hK.o _ _ (fun _=>⟨YL,YM,Qr⟩) (fun _=>iF ?_);clear hK KK hS;refine NoPanic.normal ?_;have tZ:=(Dx.aN ((aB _ W7).drew)).trans (H4.o).2;have HI4:=aA <| (Gf.o).keep hwb (H4.o).1 tZ;have vN:=aA <| (LX.o).dx tZ ⟨au,au⟩;have NK:=aA <| (HV5.o).keep tZ ((HS.o).nodes _);obtain⟨g5',cs5,dd5,ee5,hg5,Qs,g5⟩:=(HI4.o).row 5 v5 rfl;cases ee5
   have y0:=aj w4 _ 0 _ _ _ (vN.o).blk;have y1:=aj w4 _ 1 _ _ _ (vN.o).blk;have Ed:Below w4.heap.size w4 w4.drew:=(aB _ w4).drew;have zW:=aA ((HE2.o) w4.drew v5 BF BG uF BH sm ((HI4.o).dr.below Ed) ((NK.o).below Ed) (((vN.o).below Ed).sc au) YK.o);have YN:Hid (¬ K.Sx w0.heap.size w4.drew g):=mV (w:=w4.drew) Qs au aS;have Qt:Hid (¬ K.Sx w0.heap.size w4.drew b9):=mV (w:=w4.drew) (vN.o).blk au aS;clear H4 Gf LX HV5 Xy zV Qs b0 b1 g3;go_wp2_with fail
   refine wp_region_noPanic ?_;refine dB (S:=fun w'=>w'.cell? (aC g 5)=some v5∧w'.cell? (aC b9 0)=some (.slice BF sm.length BG)∧w'.cell? (aC b9 1)=some (.slice uF sm.length BH)) (z:=7) bC ?_;have hS:w4.drew.cell? (aC g 5)=some v5∧w4.drew.cell? (aC b9 0)=some (.slice BF sm.length BG)∧w4.drew.cell? (aC b9 1)=some (.slice uF sm.length BH):=⟨g5,y0,y1⟩;iterate 6(refine oQ hS ?_;simp only[Act.put,aD,aO,aP])
   refine dY (i:=6) bC rfl (fun KK hK=>?_);go_simp;refine(zW.o).aX fun w6 H6=>?_;have YL:=Kp.dD (H6.o).2 hS.1 YN.o;have YM:=Kp.dD (H6.o).2 hS.2.1 Qt.o;have Qr:=Kp.dD (H6.o).2 hS.2.2 Qt.o;go_simp;refine hK.o _ _ (fun _=>⟨YL,YM,Qr⟩) (fun _=>iF ?_);clear hK KK hS;refine NoPanic.normal ?_;have HF:Hid (Dr w0 K l (us++(jd f nm 2 0++(U1++U2))) w6∧Dx K w0.heap.size w w6):=⟨(HFin.o) w6 (H6.o).1,(HI4.o).dx.trans ((Dx.aN Ed).trans (H6.o).2)⟩;clear H6 zW HI4 vN y0 y1 g5;go_wp2_with fail
   (try simp only[Exit.inBlock,Exit.then])
   refine aW (results_none rfl _ _ _) rfl ?_;exact⟨rfl,HF⟩
end
section
variable{w0:aG}{K:DK}{l:List AF}
theorem NH{n:Nat}(ih:CO w0 K l n):CO w0 K l (n+1):=by
 intro us w f a p i v no ao nc ac sl sc U h hf hn hwk hy hk hpn hsc hsg hz hlim;by_cases h7:pk p=7
 ·rcases hwk with ⟨e,hr,rfl⟩|⟨gs,es,rfl,-⟩
  ·cases hr with
   | kH t1 n1 t2 t3 p1 p2 _ nm e1 e2 h1 hn1 h2 hv h3 hb =>
    have hyk:=hy.kids;have hkk:=hk.2;refine Qn ih h hf hn ⟨⟨t1,n1,t2,t3,rfl,h1,hn1,h2,h3,hyk.app.2.app.1,rfl,rfl⟩,hv,hb,hyk.app.2.app.2.app.2.app.1.one,hyk.app.2.app.2.app.2.app.2.app.2.one,hk,(iX (iX (iX (iX hkk).2).2).2).1.1,(iX (iX (iX (iX (iX hkk).2).2).2).2).2.1,?_,rfl⟩ hpn hz hsc hsg hlim;rw[jh,bR,bR,bR,bR,bR,gM,gM];omega
   | lit k t x ps qs _ hk' h=>exact absurd h7 (by show k≠7;omega)
   | missing=>exact absurd h7 (by show 1≠7;omega)
   | var=>exact absurd h7 (by show 18≠7;omega)
   | hole=>exact absurd h7 (by show 19≠7;omega)
   | ite=>exact absurd h7 (by show 8≠7;omega)
   | fn=>exact absurd h7 (by show 9≠7;omega)
   | bin=>exact absurd h7 (by show 10≠7;omega)
   | call=>exact absurd h7 (by show 11≠7;omega)
   | list=>exact absurd h7 (by show 13≠7;omega)
   | group=>exact absurd h7 (by show 14≠7;omega)
  ·exact absurd h7 (by show 12≠7;omega)
 by_cases h9:pk p=9
 ·rcases hwk with ⟨e,hr,rfl⟩|⟨gs,es,rfl,-⟩
  ·cases hr with
   | fn t1 qs t2 p _ ns e h1 hns h2 hb=>exact Qm ih h hf hn h1 hns h2 hb hy hk hpn hz hsc hsg hlim
   | lit k t x ps qs _ hk' h=>exact absurd h9 (by show k≠9;omega)
   | missing=>exact absurd h9 (by show 1≠9;omega)
   | var=>exact absurd h9 (by show 18≠9;omega)
   | hole=>exact absurd h9 (by show 19≠9;omega)
   | ite=>exact absurd h9 (by show 8≠9;omega)
   | kH=>exact absurd h9 (by show 7≠9;omega)
   | bin=>exact absurd h9 (by show 10≠9;omega)
   | call=>exact absurd h9 (by show 11≠9;omega)
   | list=>exact absurd h9 (by show 13≠9;omega)
   | group=>exact absurd h9 (by show 14≠9;omega)
  ·exact absurd h9 (by show 12≠9;omega)
 by_cases h18:pk p=18
 ·rcases hwk with ⟨e,hr,rfl⟩|⟨gs,es,rfl,-⟩
  ·cases hr with
   | var x ps qs _ ht =>
    have hx:x≠[]:=by
     have:=hy.kids;rw[ht.eq] at this;exact this.app.2.one.leaf
    have FX:(exU f (fH (dA l) f) sc (.var (x,i+pz qs))).length=1:=by rw[exU,X.f_,aM hx];rfl
    exact Qj h hf hn ht hy hk hz hsc hsg au
   | lit k t x ps qs _ hk' h=>exact absurd h18 (by show k≠18;omega)
   | missing=>exact absurd h18 (by show 1≠18;omega)
   | kH=>exact absurd h18 (by show 7≠18;omega)
   | hole=>exact absurd h18 (by show 19≠18;omega)
   | ite=>exact absurd h18 (by show 8≠18;omega)
   | fn=>exact absurd h18 (by show 9≠18;omega)
   | bin=>exact absurd h18 (by show 10≠18;omega)
   | call=>exact absurd h18 (by show 11≠18;omega)
   | list=>exact absurd h18 (by show 13≠18;omega)
   | group=>exact absurd h18 (by show 14≠18;omega)
  ·exact absurd h18 (by show 12≠18;omega)
 exact ND ih h hf hn hwk h7 h9 h18 hy hk hpn hz hsc hsg hlim
theorem Gc:∀ n,CO w0 K l n
 | 0=>by
  intro us w f a p i v no ao nc ac sl sc U h hf hn hwk hy hk hpn;have:=jA p;omega
 | n+1=>NH (Gc n)
end
end Go.Proofs.YtoohcklcppnafaaGreatDoor
