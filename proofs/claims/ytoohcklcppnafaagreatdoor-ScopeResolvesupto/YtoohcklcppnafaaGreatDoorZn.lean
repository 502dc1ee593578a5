import Derived.Test.YtoohcklcppnafaaGreatDoorZk
import Derived.Test.YtoohcklcppnafaaGreatDoorZo
import Derived.Test.YtoohcklcppnafaaGreatDoorFh
namespace Go.Proofs.YtoohcklcppnafaaGreatDoor
set_option maxRecDepth 100000
set_option maxHeartbeats 4000000
open Tryz
open Go.RowKit
open M
open X
theorem kV.ready{w w1:aG}{rb:Nat}{s:ByteArray}{L:List Tk}{tv:Value}{dp lo B k:Nat}{rv:Value}{ps1:List Part}{dh:List X.Tok}(h:kV w rb s L tv dp lo B k rv ps1 dh w1):∃ a nS vs1 Lo1 Hi1,vG w1 rb s L tv a dp lo B k nS vs1 ps1 Lo1 Hi1∧dh=aR s L a∧(∀ ps2 M4 w2,kV w1 rb s L tv dp lo B k nS ps2 M4 w2→kV w rb s L tv dp lo B k rv ps2 M4 w2):=by
 obtain⟨a',rv',vs',BO,BP,g1,g2,g3,g4⟩:=h;exact⟨a',rv',vs',BO,BP,g1,g2.symm,fun ps2 M4 w2 h=>kV.trans g3 g4 h⟩
theorem NP(s:ByteArray)(w:aG)(hs:s.size≤134217728) :
  bB 15 #[.string s] w fun e w'=>∃ N lo hi,e=.returned (aH N)∧Hid (nu w' lo hi (aH N) (X.put (X.file (xt (bs s))) 0)∧w.heap.size≤lo∧Below w.heap.size w w'):=by
 obtain⟨i0,hi0,hz0,hz1,hz2⟩:=dM qM;have hS:=Lx s au (by have:=IZ s;omega);have hl2:=hS.len;have hll:(xt (bs s)).length≤s.size:=by
  have:=sZ _ 0 (bs s) (ax _);rw[eY] at this;unfold xt;rw[cB];exact this
 have aY1:Hid (DX (X.file (xt (bs s)))):=Xo _ _ (ax _) (by have:=AU (xt (bs s));omega) (Ah _);have hpb:(X.pb (X.file (xt (bs s)))).length=s.size:=by rw[vg,RZ,eY]
 have aY2:Hid (X.file (xt (bs s))=.br 2 (iy (xt (bs s)))):=(rfl:_=_);have aY3:=aA (uO s w au);have HXT:Hid (xt (bs s)=aR s (toks 0 (bs s)) 0):=by show _=_;unfold xt aR;rw[List.drop_zero]
 generalize toks 0 (bs s)=L at *;clear hll;go_enter func15,ntmps15;go_wp2_with fail
 refine(aY3.o).mono ?_;rintro e w2 ⟨tv,rfl,hown,k2⟩;have HT2:=aA (yt.zP hown);have HTB:Hid (∀ q,tv.ownBlock=some q→q<w2.heap.size):=fun q e=>(dG hown q e).2
 have mU:=aA k2;have hsz:=k2.size;clear hown k2 aY3;obtain⟨ao,cap,rfl,hc1,hc2,-⟩:=HT2.o;have HD0:Hid (kV ((w2.alloc (.cells #[.string s,.slice ao L.length cap,ak 0,ak 0,.bool false] 92)).alloc (gH 2 0 [] (.slice none 0 0) 0 0 0 0 false)) w2.heap.size s L (.slice ao L.length cap) 0 (w2.heap.size+1) (w2.heap.size+1) 2 (.slice none 0 0) [] (aR s L 0) ((w2.alloc (.cells #[.string s,.slice ao L.length cap,ak 0,ak 0,.bool false] 92)).alloc (gH 2 0 [] (.slice none 0 0) 0 0 0 0 false))):=by
  have kR:Below w2.heap.size w2 (w2.alloc (.cells #[.string s,.slice ao L.length cap,ak 0,ak 0,.bool false] 92)):=(aB _ w2).alloc (ax _) _;have hr:xZ (w2.alloc (.cells #[.string s,.slice ao L.length cap,ak 0,ak 0,.bool false] 92)) w2.heap.size s L (.slice ao L.length cap) 0 0:=⟨⟨false,aI w2 _⟩,(HT2.o).below kR,bJ _,fun q e=>by have:=(HTB.o) q e;exact⟨au,aQ⟩⟩;have:=hr.new 2;rw[fB] at this;exact this
 have Ux:Hid (Below w.heap.size w ((w2.alloc (.cells #[.string s,.slice ao L.length cap,ak 0,ak 0,.bool false] 92)).alloc (gH 2 0 [] (.slice none 0 0) 0 0 0 0 false))):=((mU.o).alloc hsz _).alloc aQ _;rw[← HXT.o] at HD0;clear HT2 HTB mU;go_wp2_with fail
 refine((HD0.o).kindOf hS).aX fun w3 H3=>?_;have hx0:=(H3.o).aX8;clear HD0;generalize hts:xt (bs s)=yh at *;have HTS:=aA hts;clear hts;generalize (w2.alloc (.cells #[.string s,.slice ao L.length cap,ak 0,ak 0,.bool false] 92)).alloc (gH 2 0 [] (.slice none 0 0) 0 0 0 0 false)=W0 at *;generalize w2.heap.size=rb at *;go_wp2_with fail
 go_loopw [6] (fun v wr=>∃(ps:List Part) (dh:List X.Tok),v=ak (dm dh)∧ps.length+dh.length≤L.length∧Hid (kV W0 rb s L (.slice ao L.length cap) 0 (rb+1) (rb+1) 2 (.slice none 0 0) ps dh wr)∧Hid (iy yh=ps++iy dh)) (fun _ wr=>L.length - JJ rb wr)
 case atStart=>exact⟨[],yh,rfl,by simpa using hx0,H3,(by show _=_;rw[bM])⟩
 case round =>
  clear H3;obtain⟨ps,dh,rfl,hpl,HD,HE⟩:=hrel;have hat:=(HD.o).at
  cases hk:((dm dh:Int)==0) with
  | false =>
   have e0:=(nb _ 0).symm.trans hk;have n0:((dm dh:Int) !=0)=true:=by simp[bne,hk]
   have n1:¬(dm dh:Int)=0:=by simpa using hk
   obtain⟨a,rv,vs,Lo,Hi,hw,LG,htr⟩:=(HD.o).ready;have HW:=aA hw;have HTr:=aA htr;have Va:=aA (PG s L hS rb _ a wr hw.iW (by rw[← LG];exact e0));rw[← LG] at Va;have cW5:=Bh e0;have HE2:Hid (iy yh=(ps++[.br (X.kid dh).1 (X.kid dh).2.1])++iy (X.kid dh).2.2):=by
    show _=_;rw[HE.o,xR e0,aK];rfl
   clear hw htr LG HD HE;go_wp2_with fail
   refine(Va.o).mono ?_;rintro e w4 ⟨N,rfl,HG⟩;clear Va;obtain⟨b3,f3,hbl,hlo,HN,HV,HO⟩:=(HW.o).mg HG.o;have hvb:vs.length≤1073741823:=by rw[HV.o];omega
   go_wp2_with (at_builtin;refine wpList_append_lies _ rfl _ _ 35 rfl (rb+1) 51 i0 _ 1 8 underlying35 hi0 hz0 hz1 hz2 rfl aS rv vs.length _ rfl ((HO.o).alloc _) ⟨w4.heap.size,0,none⟩ 1 1 [aH N] rfl rfl (World.news_of_block (cs:=#[aH N]) (aI w4 _)) (by simp[Value.oneCell']) au (by unfold maxLen;omega) au aQ (w4.heap.size+1) aT ?_;intro g cap5 w5 hown5 aV gI jm;have x1:=(aV.cell_far ⟨rb+1,3,none⟩ aQ (HN.o)).trans (yg hbl b3);have x2:=(aV.frozen_far ⟨rb+1,3,none⟩ aQ (HN.o)).trans ((bD _ _ ⟨rb+1,3,none⟩ aQ).trans f3);have HX:=aA ((HTr.o) _ _ _ ((HW.o).take HG.o aV hown5 gI));clear hown5 aV)
   refine((HX.o).kindOf hS).aX fun w6 H6=>?_;have bT7:=(H6.o).at
   have cW6:=(H6.o).aX8;clear HX HW HTr HG;go_wp2_with fail
   refine⟨⟨_,_,rfl,?_,H6,HE2⟩,by rw[hat,bT7];omega⟩;rw[ay,bF];omega
  | true =>
   obtain⟨wb,hwb⟩:∃ wb,wb=wr:=⟨_,rfl⟩;subst hwb;have e0:=(nb _ 0).symm.trans hk;have n0:((dm dh:Int) !=0)=false:=by simp[bne,hk]
   have n1:(dm dh:Int)=0:=by simpa using hk
   obtain⟨a,rv,vs,Lo,Hi,hw,LG,htr⟩:=(HD.o).ready;have ha:=hw.iW.le;have HI0:Hid (Ja wb rb s L (.slice ao L.length cap) a 0 (rb+1) (rb+1) 2 rv ps 0 wb):=⟨rv,vs,Lo,Hi,by simpa using hw,fun g hg=>.inl hg,Kp.refl _ _⟩;have hpa:ps.length+(L.length - a)≤L.length:=by
    rw[LG] at hpl;unfold aR at hpl;rw[cB,bV] at hpl;exact hpl
   have HFin:Hid (∀ w9,Ja wb rb s L (.slice ao L.length cap) a 0 (rb+1) (rb+1) 2 rv ps (L.length - a) w9→nu w9 (rb+1) w9.heap.size (aH (rb+1)) (X.raw (X.file yh))∧Below w.heap.size w w9):=fun w9 h9=>by
    obtain⟨rv9,vs9,Lo9,Hi9,g1,g2,g3⟩:=h9.ex;have hd9:=htr _ _ w9 ⟨_,rv9,vs9,Lo9,Hi9,g1,rfl,g2,g3⟩;have hl9:ps++((L.drop a).take (L.length - a)).map (fun t=>lf (uI (bs s) t))=iy yh:=by
     rw[HE.o,Bg e0,LG];unfold aR;rw[ku (by rw[bV];omega),List.map_map];rfl
    rw[hl9] at hd9;obtain⟨a9,rv8,vs8,Lo8,Hi8,k1,k2,k3,k4⟩:=hd9;refine⟨by rw[aY2.o];exact k1.nd.done,(Ux.o).trans (Kp.below k4 (by have:=(Ux.o).size;omega) (fun q e=>?_))⟩;rcases e with e|e|e
    ·omega
    ·omega
    ·cases e
   clear hw htr LG HD HE hpl hat hk Ux;have hsb:w.heap.size≤rb+1:=au
   have hS':=hS;clear hS;generalize rb+1=B at *;have HF2:=aA hS'.fit;have hl1:=hS'.size;have HF:=aA HF2.o;clear HF2 hS';go_wp2_with fail
   clear n0 n1 e0;go_loopw [] (fun wr=>∃ j:Nat,a+j≤L.length∧Hid (Ja wb rb s L (.slice ao L.length cap) a 0 B B 2 rv ps j wr)) (fun wr=>L.length - JJ rb wr)
   case atStart=>exact⟨0,au,HI0⟩
   case round =>
    obtain⟨j,hj,HI⟩:=hrel;clear HI0;obtain⟨uL,vF,Loj,Hij,g1,g2,g3⟩:=(HI.o).ex;have HW:=aA g1;have HG:=aA g2;have HK:=aA g3;clear g1 g2 g3 HI;obtain⟨I,hI⟩:∃ I,a+j=I:=⟨_,rfl⟩;rw[hI] at HW;obtain⟨c,hr⟩:=(HW.o).iW.raw;have HR:=aA hr;obtain⟨⟨c0,c1,c2,c3⟩,⟨f2,f3,f4⟩,-⟩:=hr.facts;have hrl:=bN hr;have hat:=(HW.o).iW.at
    clear hr;by_cases hlt:I<L.length
    case neg =>
     obtain rfl:j=L.length - a:=au
     have hfin:Hid (Ja wb rb s L (.slice ao L.length cap) a 0 B B 2 rv ps (L.length - a) wr):=by
      refine⟨uL,vF,Loj,Hij,?_,HG.o,HK.o⟩;rw[show a+(L.length - a)=I by omega];exact HW.o
     have i1:decide (I<L.length)=false:=aQ
     have i2:decide ((I:Int)<(L.length:Int))=false:=aQ
     clear HW HG HK hat
     go_wp2_with fail
     go_quiet (fail)
     have Yo:Hid (Ja wb rb s L (.slice ao L.length cap) a 0 B B 2 rv ps (L.length - a) (wr.drewN nq)):=by
      obtain⟨r1,r2,r3,r4,r5,r6,r7⟩:=(hfin.o).ex;exact⟨r1,r2,r3,r4,r5.below (iQ (aB _ wr) nq),r6,Kp.trans r7 (Kp.aN (iQ (aB _ wr) nq) (fun _=>False)) (fun _ _ e=>e.elim)⟩
     have HZ:=aA ((HFin.o) _ Yo.o);have HC:=aA ((aY1.o) B (wr.drewN nq).heap.size (aH B) 0 _ (HZ.o).1 (by rw[hpb];omega));clear hfin Yo HFin aY1 c0 c1 c2 c3 f2 f3 f4;generalize wr.drewN nq=W9 at *;go_wp2_with fail
     refine(HC.o).aX fun P7 H10=>?_;have HZ2:Hid (nu P7 B W9.heap.size (aH B) (X.put (X.file yh) 0)∧w.heap.size≤B∧Below w.heap.size w P7):=⟨(H10.o).1,au,(HZ.o).2.trans (Kp.below (H10.o).2 (HZ.o).2.size (fun q e=>au))⟩;clear H10 HZ HC;go_wp2_with fail
     go_ret;exact⟨_,_,_,rfl,by rw[HTS.o];exact HZ2⟩
    have i1:decide ((I:Int)<(L.length:Int))=true:=aQ
    have i2:decide (I<L.length)=true:=aQ
    go_wp2_with fail
    go_quiet (fail)
    go_wp2_with fail
    have HW2:=aA ((HW.o).below (iQ (aB _ wr) nq));have mU:=aA <| Kp.trans HK.o (Kp.aN (iQ (aB _ wr) nq) (fun _=>False)) (fun _ _ e=>e.elim);have aD2:=hat
    clear HW HK HR hat c0 c1 c2 c3 f2 f3 f4 hrl;generalize hWq:wr.drewN nq=W at *;clear hWq;have hIL:=hlt;obtain⟨b',o',t,rfl,ht,q1,q2,q3⟩:=(HW2.o).iW.row.get (aB _ W) hIL;obtain⟨c,hr⟩:=(HW2.o).iW.raw;obtain⟨⟨c0,c1,c2,c3⟩,⟨f2,f3,f4⟩,-⟩:=hr.facts;have hrl:=bN hr;have hbl:b'<W.heap.size:=dU _ _ q1;have hi1:(0:Int)≤(I:Int):=bO _;have hi2:(I:Int)<(L.length:Int):=au
    clear hr
    go_region_held3 (fun w'=>w'.cell? (aC rb 1)=some (.slice (some ⟨b',o',none⟩) L.length cap)∧w'.cell? (aC rb 2)=some (ak (I:Int))∧w'.cell? (aC b' (o'+I*3))=some (ak t.kind)∧w'.cell? (aC b' (o'+I*3+1))=some (ak t.pos)∧w'.cell? (aC b' (o'+I*3+2))=some (ak t.len))
     (go_keep)
     (fail)
    go_wp2_with fail
    have kT:Below W.heap.size W (W.alloc (.cells #[ak t.kind,ak t.pos,ak t.len] 87)).drew:=((aB _ W).alloc (ax _) _).drew;have HW3:=aA ((HW2.o).below kT);have HKT:=aA kT;have hblk:(W.alloc (.cells #[ak t.kind,ak t.pos,ak t.len] 87)).drew.heap[W.heap.size]?=some (.cells #[ak t.kind,ak t.pos,ak t.len] 87 (0,0)):=aI W _;have hz3:(W.alloc (.cells #[ak t.kind,ak t.pos,ak t.len] 87)).drew.heap.size=W.heap.size+1:=aT
    clear kT q1 q2 q3 c0 c1 c2 c3 f2 f3 f4 hrl;generalize (W.alloc (.cells #[ak t.kind,ak t.pos,ak t.len] 87)).drew=W2 at *;have t0:W2.cell? (aC W.heap.size 0)=some (ak t.kind):=aj W2 _ 0 _ _ _ hblk;have t1:W2.cell? (aC W.heap.size 1)=some (ak t.pos):=aj W2 _ 1 _ _ _ hblk;have t2:W2.cell? (aC W.heap.size 2)=some (ak t.len):=aj W2 _ 2 _ _ _ hblk;obtain⟨c,hr⟩:=(HW3.o).iW.raw;obtain⟨⟨c0,c1,c2,c3⟩,⟨f2,f3,f4⟩,-⟩:=hr.facts;obtain⟨b0,b3,g0,g3⟩:=(HW3.o).nd.facts;have hrl:=bN hr;have hBl:=(HW2.o).nd.lt;obtain⟨p1,p2,p3⟩:=(HF.o) t (dF ht);have j1:(t.pos:Int)≤(t.pos:Int)+(t.len:Int):=au
    have j2:(t.pos:Int)+(t.len:Int)≤(s.size:Int):=au
    have j3:t.pos≤s.size:=au
    have j4:(0:Int)≤(t.pos:Int):=bO _;have hwr:IntKind.i64.wrap ((t.pos:Int)+(t.len:Int))=(t.pos:Int)+(t.len:Int):=by rw[IntKind.wrap_i64];omega
    have hne:=(HW3.o).nd.ne;have hown:=dG (HW2.o).nd.row;have n1:some W.heap.size≠uL.ownBlock:=fun e=>by have:=(hown _ e.symm).2;omega
    have n2:some rb≠uL.ownBlock:=fun e=>by have:=(hown _ e.symm).1;have:=(HW2.o).Pt;omega
    have n3:some B≠uL.ownBlock:=fun e=>hne e.symm
    have hvl:vF.length≤1073741824:=by
     have:=(HW3.o).nd.pq.len;rw[this,ay,cB,dX,bV];omega
    clear hr hblk hown hne;have hTl:W.heap.size<W2.heap.size:=au
    have hrB:¬ rb=B:=by have:=(HW2.o).Pt;have:=(HW2.o).nd.ge;omega
    have hTB:¬ W.heap.size=B:=au
    have aD4:B<W2.heap.size:=au
    have HZ3:=aA hz3;clear hz3;have N1:=aA n1;have N2:=aA n2;have N3:=aA n3;clear n1 n2 n3;refine wp_region_noPanic ?_;refine dB (S:=fun w'=>w'.cell? (aC B 3)=some uL∧w'.cell? (aC W.heap.size 0)=some (ak t.kind)∧w'.cell? (aC W.heap.size 1)=some (ak t.pos)∧w'.cell? (aC W.heap.size 2)=some (ak t.len)) (z:=22) bC ?_;have hS:W2.drew.cell? (aC B 3)=some uL∧W2.drew.cell? (aC W.heap.size 0)=some (ak t.kind)∧W2.drew.cell? (aC W.heap.size 1)=some (ak t.pos)∧W2.drew.cell? (aC W.heap.size 2)=some (ak t.len):=⟨b3,t0,t1,t2⟩;iterate 17(refine ny hS ?_;simp only[Act.put,aD,aO,aP])
    refine fw 17 fun K hK=>?_;go_simp;refine hK.o _ _ (fun _=>by first|go_keep|(dsimp only;go_keep)) (fun hS2=>?_);clear hS hK K;have hS:=hS2 aS;clear hS2;refine fw 18 fun K hK=>?_;go_simp;refine hK.o _ _ (fun _=>by first|go_keep|(dsimp only;go_keep)) (fun hS2=>?_);clear hS hK K;have hS:=hS2 aS;clear hS2;refine fw 19 fun K hK=>?_;refine step_append_lies _ (by rfl) _ _ _ (by rfl) B 51 i0 _ 1 8 underlying35 hi0 hz0 hz1 hz2 rfl au uL vF.length _ (by rfl) ((((HW3.o).nd.row.alloc _).alloc _).drew)
        ⟨W2.heap.size+1,0,none⟩ 1 1 [aH W2.heap.size] (by rfl) (by rfl) (World.news_of_block (cs:=#[aH W2.heap.size]) (t:=51) (fr:=(0,0)) (at_new (W2.alloc _) _ (fB W2 _))) (by simp[Value.oneCell'])
        au (by unfold maxLen;omega) au (by have:=HZ3.o;have:=(HW2.o).Pt;have:=(HW2.o).nd.ge;simp;omega) (W2.heap.size+2) aT ?_
    intro g cap5 w5 hown5 aV gI jm;have y1:=(aV.cell_far ⟨W.heap.size,0,none⟩ (by have:=HZ3.o;simp;omega) (N1.o)).trans (FH hTl t0);have y2:=(aV.cell_far ⟨W.heap.size,1,none⟩ (by have:=HZ3.o;simp;omega) (N1.o)).trans (FH hTl t1);have y3:=(aV.cell_far ⟨W.heap.size,2,none⟩ (by have:=HZ3.o;simp;omega) (N1.o)).trans (FH hTl t2);have x1:=(aV.cell_far ⟨B,3,none⟩ (by have:=HZ3.o;simp;omega) (N3.o)).trans (FH aD4 b3);have x2:=(aV.frozen_far ⟨B,3,none⟩ (by have:=HZ3.o;simp;omega) (N3.o)).trans ((bD _ _ ⟨B,3,none⟩ (by have:=HZ3.o;simp;omega)).trans ((bD _ _ ⟨B,3,none⟩ (by have:=HZ3.o;simp;omega)).trans g3));show K (Act.put _ (some 74) _) w5;refine hK.o _ _ (fun _=>⟨x1,y1,y2,y3⟩) (fun hS2=>?_);clear hS hK K;have hS:=hS2 aS;clear hS2;simp only[Act.put,aD,aO,aP];refine fw 20 fun K hK=>?_;go_simp;refine hK.o _ _ (fun _=>hS) (fun _=>?_);clear hK K;refine fw 21 fun K hK=>?_;go_simp;refine hK.o _ _ (fun _=>hS) (fun _=>?_);clear hK K;refine fw 22 fun K hK=>?_;go_simp;refine hK.o _ _ (fun h=>absurd rfl h) (fun _=>iF ?_);clear hK K;refine NoPanic.normal ?_;clear y1 y2 y3 x1 x2 hS;have HP:Hid (kV W2 rb s L (.slice (some ⟨b',o',none⟩) L.length cap) 0 B B 2 uL (ps++((L.drop a).take (j+1)).map (fun t=>lf (uI (bs s) t))) (aR s L I) (w5.setCell (aC B 3) (.slice (b_ g) (vF.length+1) cap5))):=by
     have kN:∀ o1 o2:Obj,Below W2.heap.size W2 ((W2.alloc o1).alloc o2).drew:=fun o1 o2=>(((aB _ W2).alloc (ax _) o1).alloc aT o2).drew
     have hx:s.extract t.pos ((t.pos:Int)+(t.len:Int)).toNat=ba (((bs s).drop t.pos).take t.len):=by
      apply iD;rw[rV,xH,oP];congr 1;omega
     have hblk2:((W2.alloc (Obj.cells #[Value.int IntKind.i64 0,Value.int IntKind.i64 t.kind,Value.string (s.extract t.pos ((t.pos:Int)+(t.len:Int)).toNat),Value.slice none 0 0,Value.int IntKind.i64 0,Value.int IntKind.i64 0,Value.int IntKind.i64 0,Value.int IntKind.i64 0,Value.bool false] 55)).alloc
      (Obj.cells #[aH W2.heap.size] 51)).drew.heap[W2.heap.size]?=some (gH 0 t.kind (((bs s).drop t.pos).take t.len) (.slice none 0 0) 0 0 0 0 false):=by
      rw[hx];exact(eG _ _ aT).trans (aI W2 _)
     have hd:=(HW3.o).put (On.aN rb (kN _ _)) ((HW3.o).iW.below (kN _ _)) (nu.leaf hblk2) (ax _) aT aV hown5 (gI.imp id (fun e=>by rw[e];simp));have hl:(ps++((L.drop a).take j).map (fun t=>lf (uI (bs s) t)))++[Part.leaf t.kind (((bs s).drop t.pos).take t.len)]=ps++((L.drop a).take (j+1)).map (fun t=>lf (uI (bs s) t)):=by
      rw[aK,List.take_add_one,g_,hI,ht];simp[lf,uI]
     rw[hl] at hd;exact hd
    have yQ:=aA <| Kp.trans mU.o (Kp.aN HKT.o (fun _=>False)) (fun _ _ e=>e.elim);clear hown5 aV gI jm b0 b3 g0 g3 c0 c1 c2 c3 f2 f3 f4 t0 t1 t2 HZ3 N1 N2 N3 HW3 HKT;generalize w5.setCell (aC B 3) (.slice (b_ g) (vF.length+1) cap5)=W6 at *;obtain⟨a6,rv6,vs6,Lo6,Hi6,m1,m2,m3,m4⟩:=HP.o;have ha6:a6=I:=by
     have h1:=congrArg List.length m2;have h2:=m1.iW.le;unfold aR at h1;rw[cB,cB,bV,bV] at h1;omega
    subst ha6;have HW6:=aA m1;have w_:=aA m3;have vN:=aA m4;clear m1 m2 m3 m4 HP;obtain⟨c,hr⟩:=(HW6.o).iW.raw;obtain⟨⟨c0,c1,c2,c3⟩,⟨f2,f3,f4⟩,-⟩:=hr.facts;have bT1:=bN hr;have BL:=aA hr;clear hr;go_wp2_with fail
    have hon:On rb W6 (W6.setCell (aC rb 2) (ak ((a6+1:Nat):Int))):=On.set (Kp.refl _ W6) 2 _;have hrd:=(HW6.o).iW.moved hon ((BL.o).set2 _) au;refine⟨⟨j+1,au,rv6,vs6,Lo6,Hi6,?_,?_,?_⟩,?_⟩
    ·rw[show a+(j+1)=a6+1 by omega]
     exact(HW6.o).moved hon hrd
    ·intro q hq
     have hz:=(yQ.o).size;rcases(w_.o) q hq with e|e
     ·exact(HG.o) q e
     ·exact .inr au
    ·refine Kp.trans (Kp.trans yQ.o vN.o (fun i hi e=>?_)) hon (fun i _ e=>.inl e)
     rcases e with e|e|e
     ·exact .inl e
     ·exact .inr (.inl e)
     ·rcases(HG.o) i e with e|e
      ·exact .inr (.inr e)
      ·omega
    ·have h1:=hrd.at
     rw[aD2];show L.length - JJ rb (W6.setCell (aC rb 2) (ak ((a6+1:Nat):Int)))<_;rw[h1];omega
end Go.Proofs.YtoohcklcppnafaaGreatDoor
