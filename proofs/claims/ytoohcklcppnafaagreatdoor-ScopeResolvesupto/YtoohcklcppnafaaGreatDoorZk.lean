import Derived.Test.YtoohcklcppnafaaGreatDoorZg
import Derived.Test.YtoohcklcppnafaaGreatDoorYd
namespace Go.Proofs.YtoohcklcppnafaaGreatDoor
set_option maxRecDepth 100000
set_option maxHeartbeats 4000000
open Tryz
open Go.RowKit
open M
open X
theorem Je(s:ByteArray)(L:List Tk)(dp:Nat)(hS:iU s L)(E:X.R)(hE:nM 97 E (fun _=>True) s L dp)(hC:Cap E 1)(uT:eF E):qK 98 (fun r=>#[r,ak 3]) (X.call E) s L dp:=by
 intro rb tv a w h;have HO:=aA (Pz s L dp hS E hE hC uT rb tv a w h);clear h;go_enter func98,ntmps98;go_wp2_with fail
 refine(HO.o).mono ?_;rintro e w1 ⟨N,p,rfl,HP,HG⟩;go_wp2_with fail
 go_ret;exact⟨N,p,rfl,HP,HG⟩
theorem ql.begin{w wr:aG}{rb:Nat}{s:ByteArray}{L:List Tk}{tv:Value}{dp N:Nat}{p:Part}{dh:List X.Tok}(hr:rb<w.heap.size)(ht:∀ q,tv.ownBlock=some q→q<w.heap.size)(h:ql w rb s L tv dp p dh N wr)(k:Nat) :
  kV ((wr.alloc (.cells #[aH N] 51)).alloc (gH k 0 [] (.slice (b_ wr.heap.size) 1 1) 0 0 0 0 false)) rb s L tv dp w.heap.size (wr.heap.size+1) k (.slice (b_ wr.heap.size) 1 1) [p] dh ((wr.alloc (.cells #[aH N] 51)).alloc (gH k 0 [] (.slice (b_ wr.heap.size) 1 1) 0 0 0 0 false)) ∧
  On rb w ((wr.alloc (.cells #[aH N] 51)).alloc (gH k 0 [] (.slice (b_ wr.heap.size) 1 1) 0 0 0 0 false))∧w.heap.size≤wr.heap.size:=by
 obtain⟨a1,g1,rfl,g3,g4⟩:=h;have kB:Below wr.heap.size wr ((wr.alloc (.cells #[aH N] 51)).alloc (gH k 0 [] (.slice (b_ wr.heap.size) 1 1) 0 0 0 0 false)):=((aB _ wr).alloc (ax _) _).alloc aT _;exact⟨kV.refl ⟨g1.below kB,Mk.one g3 (ax _),hr,ht⟩,g4.to (On.aN rb kB),g4.size⟩
theorem Jf(s:ByteArray)(L:List Tk)(dp:Nat)(hS:iU s L)(E:X.R)(hO:qK 98 (fun r=>#[r,ak 3]) (X.call E) s L dp)(uT:eF (X.call E)):qK 98 (fun r=>#[r,ak 2]) (X.product E) s L dp:=by
 intro rb tv a w h;obtain⟨i0,hi0,hz0,hz1,hz2⟩:=dM qM;have hl2:=hS.len;have hrl:=h.lt;have Ym:Hid (∀ q,tv.ownBlock=some q→q<w.heap.size):=fun q e=>(h.own q e).2
 have HO:=aA (hO rb tv a w h);have hal:(aR s L a).length≤L.length:=by unfold aR;rw[cB,bV];omega
 clear h;go_enter func98,ntmps98;go_wp2_with fail
 refine(HO.o).mono ?_;rintro e w1 ⟨N,p,rfl,HP,HG⟩;have wX:Hid ((X.product E) (aR s L a)=Br (X.call E) (dJ [42]) [p] ((X.call E) (aR s L a)).2):=by
  show X.row (X.call E) (dJ [42]) (aR s L a)=_;rw[Lp,HP.o]
 have hle0:=uT.le (aR s L a);generalize hr1:((X.call E) (aR s L a)).2=yh at *;clear HO HP hr1;go_wp2_with fail
 go_loopw [6] (fun v wr=>∃(N:Nat) (p:Part) (dh:List X.Tok),v=aH N∧dh.length≤L.length∧Hid (ql w rb s L tv dp p dh N wr)∧Hid ((X.product E) (aR s L a)=Br (X.call E) (dJ [42]) [p] dh)) (fun _ wr=>L.length - JJ rb wr)
 case atStart=>exact⟨N,p,yh,rfl,au,HG,wX⟩
 case round =>
  clear HG wX;obtain⟨N,p,dh,rfl,htl,Dy,HEq⟩:=hrel;have hat:=(Dy.o).at
  go_wp2_with fail
  refine((Dy.o).is hS [42]).aX fun v1 Xm=>?_;clear Dy;cases ha:dJ [42] dh with
  | false =>
   have pF:=aA <| (HEq.o).trans (Fw ha);go_wp2_with fail
   go_ret;exact⟨N,p,rfl,(by rw[pF.o];rfl),(by rw[pF.o];exact Xm)⟩
  | true =>
   have pF:=aA ((HEq.o).trans (tQ uT (fun _ hc=>bY hc) (p:=[p]) (ts:=dh) ha));have hnx:=bY ha;have htk:=fZ hnx;have Ut:=take_len dh;obtain⟨HB1,HB2,HB3⟩:=((Xm.o).begin hrl Ym.o 10:_);have HD0:=aA HB1;have yZ:=aA HB2;clear HB1 HB2 Xm HEq;go_wp2_with fail
   refine((HD0.o).go (gT s L dp hS) (by simp only[bF];omega)).aX fun w4 H4=>?_;obtain⟨a4,PZ,Jg,Lo4,Hi4,m1,m2,m3,m4⟩:=H4.o;have Jh:=aA m1;have w_:=aA m3;have vN:=aA m4;have HL:=aA (hO rb tv a4 w4 m1.iW);rw[m2] at HL;clear m1 m2 m3 m4 H4 HD0;go_wp2_with fail
   refine(HL.o).mono ?_;rintro e w5 ⟨N2,p2,rfl,oU,vv⟩;have hsl:=uT.le (X.take dh).2;obtain⟨b3,f3,hbl,hlo,HN,HV,lT⟩:=(Jh.o).mg vv.o;have hvb:Jg.length≤1073741823:=by rw[HV.o,ay,bF];omega
   clear HL;go_wp2_with (at_builtin;refine wpList_append_lies _ rfl _ _ 35 rfl w.heap.size 51 i0 _ 1 8 underlying35 hi0 hz0 hz1 hz2 rfl aS PZ Jg.length _ rfl ((lT.o).alloc _) ⟨w5.heap.size,0,none⟩ 1 1 [aH N2] rfl rfl (World.news_of_block (cs:=#[aH N2]) (aI w5 _)) (by simp[Value.oneCell']) au (by unfold maxLen;omega) au aQ (w5.heap.size+1) aT ?_;intro g cap5 w6 hown5 aV gI jm;have x1:=(aV.cell_far ⟨v1.heap.size+1,3,none⟩ aQ (HN.o)).trans (yg hbl b3);have x2:=(aV.frozen_far ⟨v1.heap.size+1,3,none⟩ aQ (HN.o)).trans ((bD _ _ ⟨v1.heap.size+1,3,none⟩ aQ).trans f3);have HX:=aA ((Jh.o).take vv.o aV hown5 gI);clear hown5 aV)
   have Ji:=aA ((kV.trans w_.o vN.o HX.o).closed yZ.o (fun g hg=>by simp only[Value.ownBlock,dP] at hg;omega));have FK:=(Ji.o).at
   refine⟨⟨_,_,_,rfl,au,Ji,?_⟩,by rw[hat,FK];omega⟩;have h1:=pF.o;rw[show(X.andThen X.take (X.call E) dh).1=(X.take dh).1++[p2] by show _++_=_;rw[oU.o],← aK] at h1;exact h1
theorem Jj(s:ByteArray)(L:List Tk)(dp:Nat)(hS:iU s L)(E:X.R)(hO:qK 98 (fun r=>#[r,ak 2]) (X.product E) s L dp)(uT:eF (X.product E)):qK 98 (fun r=>#[r,ak 1]) (X.sum E) s L dp:=by
 intro rb tv a w h;obtain⟨i0,hi0,hz0,hz1,hz2⟩:=dM qM;have hl2:=hS.len;have hrl:=h.lt;have Ym:Hid (∀ q,tv.ownBlock=some q→q<w.heap.size):=fun q e=>(h.own q e).2
 have HO:=aA (hO rb tv a w h);have hal:(aR s L a).length≤L.length:=by unfold aR;rw[cB,bV];omega
 clear h;go_enter func98,ntmps98;go_wp2_with fail
 refine(HO.o).mono ?_;rintro e w1 ⟨N,p,rfl,HP,HG⟩;have wX:Hid ((X.sum E) (aR s L a)=Br (X.product E) (fun ts=>dJ [43] ts||dJ [45] ts||dJ [43,43] ts) [p] ((X.product E) (aR s L a)).2):=by
  show X.row (X.product E) (fun ts=>dJ [43] ts||dJ [45] ts||dJ [43,43] ts) (aR s L a)=_;rw[Lp,HP.o]
 have hle0:=uT.le (aR s L a);generalize hr1:((X.product E) (aR s L a)).2=yh at *;clear HO HP hr1;go_wp2_with fail
 go_loopw [6] (fun v wr=>∃(N:Nat) (p:Part) (dh:List X.Tok),v=aH N∧dh.length≤L.length∧Hid (ql w rb s L tv dp p dh N wr)∧Hid ((X.sum E) (aR s L a)=Br (X.product E) (fun ts=>dJ [43] ts||dJ [45] ts||dJ [43,43] ts) [p] dh)) (fun _ wr=>L.length - JJ rb wr)
 case atStart=>exact⟨N,p,yh,rfl,au,HG,wX⟩
 case round =>
  clear HG wX;obtain⟨N,p,dh,rfl,htl,Dy,HEq⟩:=hrel;have hat:=(Dy.o).at
  go_wp2_with fail
  refine((Dy.o).is hS [43]).aX fun v1 Xm=>?_;clear Dy;go_wp2_with fail
  refine((Xm.o).is hS [45]).aX fun v2 HG2=>?_;clear Xm;go_wp2_with fail
  refine((HG2.o).is hS [43,43]).aX fun v3 MP=>?_;clear HG2;cases ha:dJ [43] dh with
  | true =>
   have pF:=aA ((HEq.o).trans (tQ uT (fun _ hc=>by
     rcases(iP _ _).mp hc with h|h
     ·rcases(iP _ _).mp h with h|h<;>exact bY h
     ·exact bY h) (p:=[p]) (ts:=dh) (show((dJ [43] dh||dJ [45] dh||dJ [43,43] dh):Bool)=true by rw[ha];rfl)))
   have hnx:=bY ha;have htk:=fZ hnx;have Ut:=take_len dh;obtain⟨HB1,HB2,HB3⟩:=((MP.o).begin hrl Ym.o 10:_);have HD0:=aA HB1;have yZ:=aA HB2;clear HB1 HB2 MP HEq;go_wp2_with fail
   refine((HD0.o).go (gT s L dp hS) (by simp only[bF];omega)).aX fun w4 H4=>?_;obtain⟨a4,PZ,Jg,Lo4,Hi4,m1,m2,m3,m4⟩:=H4.o;have Jh:=aA m1;have w_:=aA m3;have vN:=aA m4;have HL:=aA (hO rb tv a4 w4 m1.iW);rw[m2] at HL;clear m1 m2 m3 m4 H4 HD0;go_wp2_with fail
   refine(HL.o).mono ?_;rintro e w5 ⟨N2,p2,rfl,oU,vv⟩;have hsl:=uT.le (X.take dh).2;obtain⟨b3,f3,hbl,hlo,HN,HV,lT⟩:=(Jh.o).mg vv.o;have hvb:Jg.length≤1073741823:=by rw[HV.o,ay,bF];omega
   clear HL;go_wp2_with (at_builtin;refine wpList_append_lies _ rfl _ _ 35 rfl w.heap.size 51 i0 _ 1 8 underlying35 hi0 hz0 hz1 hz2 rfl aS PZ Jg.length _ rfl ((lT.o).alloc _) ⟨w5.heap.size,0,none⟩ 1 1 [aH N2] rfl rfl (World.news_of_block (cs:=#[aH N2]) (aI w5 _)) (by simp[Value.oneCell']) au (by unfold maxLen;omega) au aQ (w5.heap.size+1) aT ?_;intro g cap5 w6 hown5 aV gI jm;have x1:=(aV.cell_far ⟨v3.heap.size+1,3,none⟩ aQ (HN.o)).trans (yg hbl b3);have x2:=(aV.frozen_far ⟨v3.heap.size+1,3,none⟩ aQ (HN.o)).trans ((bD _ _ ⟨v3.heap.size+1,3,none⟩ aQ).trans f3);have HX:=aA ((Jh.o).take vv.o aV hown5 gI);clear hown5 aV)
   have Ji:=aA ((kV.trans w_.o vN.o HX.o).closed yZ.o (fun g hg=>by simp only[Value.ownBlock,dP] at hg;omega));have FK:=(Ji.o).at
   refine⟨⟨_,_,_,rfl,au,Ji,?_⟩,by rw[hat,FK];omega⟩;have h1:=pF.o;rw[show(X.andThen X.take (X.product E) dh).1=(X.take dh).1++[p2] by show _++_=_;rw[oU.o],← aK] at h1;exact h1
  | false =>
   cases hb:dJ [45] dh with
   | true =>
    have pF:=aA ((HEq.o).trans (tQ uT (fun _ hc=>by
      rcases(iP _ _).mp hc with h|h
      ·rcases(iP _ _).mp h with h|h<;>exact bY h
      ·exact bY h) (p:=[p]) (ts:=dh) (show((dJ [43] dh||dJ [45] dh||dJ [43,43] dh):Bool)=true by rw[ha,hb];rfl)))
    have hnx:=bY hb;have htk:=fZ hnx;have Ut:=take_len dh;obtain⟨HB1,HB2,HB3⟩:=((MP.o).begin hrl Ym.o 10:_);have HD0:=aA HB1;have yZ:=aA HB2;clear HB1 HB2 MP HEq;go_wp2_with fail
    refine((HD0.o).go (gT s L dp hS) (by simp only[bF];omega)).aX fun w4 H4=>?_;obtain⟨a4,PZ,Jg,Lo4,Hi4,m1,m2,m3,m4⟩:=H4.o;have Jh:=aA m1;have w_:=aA m3;have vN:=aA m4;have HL:=aA (hO rb tv a4 w4 m1.iW);rw[m2] at HL;clear m1 m2 m3 m4 H4 HD0;go_wp2_with fail
    refine(HL.o).mono ?_;rintro e w5 ⟨N2,p2,rfl,oU,vv⟩;have hsl:=uT.le (X.take dh).2;obtain⟨b3,f3,hbl,hlo,HN,HV,lT⟩:=(Jh.o).mg vv.o;have hvb:Jg.length≤1073741823:=by rw[HV.o,ay,bF];omega
    clear HL;go_wp2_with (at_builtin;refine wpList_append_lies _ rfl _ _ 35 rfl w.heap.size 51 i0 _ 1 8 underlying35 hi0 hz0 hz1 hz2 rfl aS PZ Jg.length _ rfl ((lT.o).alloc _) ⟨w5.heap.size,0,none⟩ 1 1 [aH N2] rfl rfl (World.news_of_block (cs:=#[aH N2]) (aI w5 _)) (by simp[Value.oneCell']) au (by unfold maxLen;omega) au aQ (w5.heap.size+1) aT ?_;intro g cap5 w6 hown5 aV gI jm;have x1:=(aV.cell_far ⟨v3.heap.size+1,3,none⟩ aQ (HN.o)).trans (yg hbl b3);have x2:=(aV.frozen_far ⟨v3.heap.size+1,3,none⟩ aQ (HN.o)).trans ((bD _ _ ⟨v3.heap.size+1,3,none⟩ aQ).trans f3);have HX:=aA ((Jh.o).take vv.o aV hown5 gI);clear hown5 aV)
    have Ji:=aA ((kV.trans w_.o vN.o HX.o).closed yZ.o (fun g hg=>by simp only[Value.ownBlock,dP] at hg;omega));have FK:=(Ji.o).at
    refine⟨⟨_,_,_,rfl,au,Ji,?_⟩,by rw[hat,FK];omega⟩;have h1:=pF.o;rw[show(X.andThen X.take (X.product E) dh).1=(X.take dh).1++[p2] by show _++_=_;rw[oU.o],← aK] at h1;exact h1
   | false =>
    cases hc:dJ [43,43] dh with
    | true =>
     have pF:=aA ((HEq.o).trans (tQ uT (fun _ hc=>by
       rcases(iP _ _).mp hc with h|h
       ·rcases(iP _ _).mp h with h|h<;>exact bY h
       ·exact bY h) (p:=[p]) (ts:=dh) (show((dJ [43] dh||dJ [45] dh||dJ [43,43] dh):Bool)=true by rw[ha,hb,hc];rfl)))
     have hnx:=bY hc;have htk:=fZ hnx;have Ut:=take_len dh;obtain⟨HB1,HB2,HB3⟩:=((MP.o).begin hrl Ym.o 10:_);have HD0:=aA HB1;have yZ:=aA HB2;clear HB1 HB2 MP HEq;go_wp2_with fail
     refine((HD0.o).go (gT s L dp hS) (by simp only[bF];omega)).aX fun w4 H4=>?_;obtain⟨a4,PZ,Jg,Lo4,Hi4,m1,m2,m3,m4⟩:=H4.o;have Jh:=aA m1;have w_:=aA m3;have vN:=aA m4;have HL:=aA (hO rb tv a4 w4 m1.iW);rw[m2] at HL;clear m1 m2 m3 m4 H4 HD0;go_wp2_with fail
     refine(HL.o).mono ?_;rintro e w5 ⟨N2,p2,rfl,oU,vv⟩;have hsl:=uT.le (X.take dh).2;obtain⟨b3,f3,hbl,hlo,HN,HV,lT⟩:=(Jh.o).mg vv.o;have hvb:Jg.length≤1073741823:=by rw[HV.o,ay,bF];omega
     clear HL;go_wp2_with (at_builtin;refine wpList_append_lies _ rfl _ _ 35 rfl w.heap.size 51 i0 _ 1 8 underlying35 hi0 hz0 hz1 hz2 rfl aS PZ Jg.length _ rfl ((lT.o).alloc _) ⟨w5.heap.size,0,none⟩ 1 1 [aH N2] rfl rfl (World.news_of_block (cs:=#[aH N2]) (aI w5 _)) (by simp[Value.oneCell']) au (by unfold maxLen;omega) au aQ (w5.heap.size+1) aT ?_;intro g cap5 w6 hown5 aV gI jm;have x1:=(aV.cell_far ⟨v3.heap.size+1,3,none⟩ aQ (HN.o)).trans (yg hbl b3);have x2:=(aV.frozen_far ⟨v3.heap.size+1,3,none⟩ aQ (HN.o)).trans ((bD _ _ ⟨v3.heap.size+1,3,none⟩ aQ).trans f3);have HX:=aA ((Jh.o).take vv.o aV hown5 gI);clear hown5 aV)
     have Ji:=aA ((kV.trans w_.o vN.o HX.o).closed yZ.o (fun g hg=>by simp only[Value.ownBlock,dP] at hg;omega));have FK:=(Ji.o).at
     refine⟨⟨_,_,_,rfl,au,Ji,?_⟩,by rw[hat,FK];omega⟩;have h1:=pF.o;rw[show(X.andThen X.take (X.product E) dh).1=(X.take dh).1++[p2] by show _++_=_;rw[oU.o],← aK] at h1;exact h1
    | false =>
     have pF:=aA <| (HEq.o).trans (Fw (by simp only[ha,hb,hc,Bool.or_self]));go_wp2_with fail
     go_ret;exact⟨N,p,rfl,(by rw[pF.o];rfl),(by rw[pF.o];exact MP)⟩
theorem Jk(s:ByteArray)(L:List Tk)(dp:Nat)(hS:iU s L)(E:X.R)(hO:qK 98 (fun r=>#[r,ak 1]) (X.sum E) s L dp)(uT:eF (X.sum E)):qK 98 (fun r=>#[r,ak 0]) (X.comparison E) s L dp:=by
 intro rb tv a w h;obtain⟨i0,hi0,hz0,hz1,hz2⟩:=dM qM;have hl2:=hS.len;have hrl:=h.lt;have Ym:Hid (∀ q,tv.ownBlock=some q→q<w.heap.size):=fun q e=>(h.own q e).2
 have HO:=aA (hO rb tv a w h);have hal:(aR s L a).length≤L.length:=by unfold aR;rw[cB,bV];omega
 clear h;go_enter func98,ntmps98;go_wp2_with fail
 refine(HO.o).mono ?_;rintro e w1 ⟨N,p,rfl,HP,HG⟩;have wX:Hid ((X.sum E) (aR s L a)=([p],((X.sum E) (aR s L a)).2)):=by
  show _=_;rw[← HP.o]
 have hle0:=uT.le (aR s L a);generalize hr1:((X.sum E) (aR s L a)).2=yh at *;clear HO HP hr1;go_wp2_with fail
 go_loopw [6] (fun v wr=>∃(N:Nat) (p:Part) (dh:List X.Tok),v=aH N∧dh.length≤L.length∧Hid (ql w rb s L tv dp p dh N wr)∧Hid ((X.sum E) (aR s L a)=([p],dh))) (fun _ wr=>L.length - JJ rb wr)
 case atStart=>exact⟨N,p,yh,rfl,au,HG,wX⟩
 case round =>
  clear HG wX;obtain⟨N,p,dh,rfl,htl,Dy,HEq⟩:=hrel;have hat:=(Dy.o).at
  go_wp2_with fail
  refine((Dy.o).is hS [61,61]).aX fun v1 Xm=>?_;clear Dy;go_wp2_with fail
  refine((Xm.o).is hS [60]).aX fun v2 HG2=>?_;clear Xm;cases ha:dJ [61,61] dh with
  | true =>
   have pF:Hid ((X.comparison E) (aR s L a)=([.br 10 ([p]++((X.take dh).1++((X.sum E) (X.take dh).2).1))],((X.sum E) (X.take dh).2).2)):=by
    have e0:=HEq.o;show _=_;rw[nL (by rw[e0];exact(show((dJ [61,61] dh||dJ [60] dh):Bool)=true by rw[ha];rfl)),e0]
   have hnx:=bY ha;have htk:=fZ hnx;have Ut:=take_len dh;obtain⟨HB1,HB2,HB3⟩:=((HG2.o).begin hrl Ym.o 10:_);have HD0:=aA HB1;have yZ:=aA HB2;clear HB1 HB2 HG2 HEq;go_wp2_with fail
   refine((HD0.o).go (gT s L dp hS) (by simp only[bF];omega)).aX fun w4 H4=>?_;obtain⟨a4,PZ,Jg,Lo4,Hi4,m1,m2,m3,m4⟩:=H4.o;have Jh:=aA m1;have w_:=aA m3;have vN:=aA m4;have HL:=aA (hO rb tv a4 w4 m1.iW);rw[m2] at HL;clear m1 m2 m3 m4 H4 HD0;go_wp2_with fail
   refine(HL.o).mono ?_;rintro e w5 ⟨N2,p2,rfl,oU,vv⟩;have hsl:=uT.le (X.take dh).2;obtain⟨b3,f3,hbl,hlo,HN,HV,lT⟩:=(Jh.o).mg vv.o;have hvb:Jg.length≤1073741823:=by rw[HV.o,ay,bF];omega
   clear HL;go_wp2_with (at_builtin;refine wpList_append_lies _ rfl _ _ 35 rfl w.heap.size 51 i0 _ 1 8 underlying35 hi0 hz0 hz1 hz2 rfl aS PZ Jg.length _ rfl ((lT.o).alloc _) ⟨w5.heap.size,0,none⟩ 1 1 [aH N2] rfl rfl (World.news_of_block (cs:=#[aH N2]) (aI w5 _)) (by simp[Value.oneCell']) au (by unfold maxLen;omega) au aQ (w5.heap.size+1) aT ?_;intro g cap5 w6 hown5 aV gI jm;have x1:=(aV.cell_far ⟨v2.heap.size+1,3,none⟩ aQ (HN.o)).trans (yg hbl b3);have x2:=(aV.frozen_far ⟨v2.heap.size+1,3,none⟩ aQ (HN.o)).trans ((bD _ _ ⟨v2.heap.size+1,3,none⟩ aQ).trans f3);have HX:=aA ((Jh.o).take vv.o aV hown5 gI);clear hown5 aV)
   have Ji:=aA ((kV.trans w_.o vN.o HX.o).closed yZ.o (fun g hg=>by simp only[Value.ownBlock,dP] at hg;omega));have FK:=(Ji.o).at
   go_ret;exact⟨_,.br 10 ([p]++(X.take dh).1++[p2]),rfl,(by show(X.comparison E (aR s L a)).1=_;rw[pF.o,oU.o,← aK]),(by rw[pF.o];exact Ji)⟩
  | false =>
   cases hb:dJ [60] dh with
   | true =>
    have pF:Hid ((X.comparison E) (aR s L a)=([.br 10 ([p]++((X.take dh).1++((X.sum E) (X.take dh).2).1))],((X.sum E) (X.take dh).2).2)):=by
     have e0:=HEq.o;show _=_;rw[nL (by rw[e0];exact(show((dJ [61,61] dh||dJ [60] dh):Bool)=true by rw[ha,hb];rfl)),e0]
    have hnx:=bY hb;have htk:=fZ hnx;have Ut:=take_len dh;obtain⟨HB1,HB2,HB3⟩:=((HG2.o).begin hrl Ym.o 10:_);have HD0:=aA HB1;have yZ:=aA HB2;clear HB1 HB2 HG2 HEq;go_wp2_with fail
    refine((HD0.o).go (gT s L dp hS) (by simp only[bF];omega)).aX fun w4 H4=>?_;obtain⟨a4,PZ,Jg,Lo4,Hi4,m1,m2,m3,m4⟩:=H4.o;have Jh:=aA m1;have w_:=aA m3;have vN:=aA m4;have HL:=aA (hO rb tv a4 w4 m1.iW);rw[m2] at HL;clear m1 m2 m3 m4 H4 HD0;go_wp2_with fail
    refine(HL.o).mono ?_;rintro e w5 ⟨N2,p2,rfl,oU,vv⟩;have hsl:=uT.le (X.take dh).2;obtain⟨b3,f3,hbl,hlo,HN,HV,lT⟩:=(Jh.o).mg vv.o;have hvb:Jg.length≤1073741823:=by rw[HV.o,ay,bF];omega
    clear HL;go_wp2_with (at_builtin;refine wpList_append_lies _ rfl _ _ 35 rfl w.heap.size 51 i0 _ 1 8 underlying35 hi0 hz0 hz1 hz2 rfl aS PZ Jg.length _ rfl ((lT.o).alloc _) ⟨w5.heap.size,0,none⟩ 1 1 [aH N2] rfl rfl (World.news_of_block (cs:=#[aH N2]) (aI w5 _)) (by simp[Value.oneCell']) au (by unfold maxLen;omega) au aQ (w5.heap.size+1) aT ?_;intro g cap5 w6 hown5 aV gI jm;have x1:=(aV.cell_far ⟨v2.heap.size+1,3,none⟩ aQ (HN.o)).trans (yg hbl b3);have x2:=(aV.frozen_far ⟨v2.heap.size+1,3,none⟩ aQ (HN.o)).trans ((bD _ _ ⟨v2.heap.size+1,3,none⟩ aQ).trans f3);have HX:=aA ((Jh.o).take vv.o aV hown5 gI);clear hown5 aV)
    have Ji:=aA ((kV.trans w_.o vN.o HX.o).closed yZ.o (fun g hg=>by simp only[Value.ownBlock,dP] at hg;omega));have FK:=(Ji.o).at
    go_ret;exact⟨_,.br 10 ([p]++(X.take dh).1++[p2]),rfl,(by show(X.comparison E (aR s L a)).1=_;rw[pF.o,oU.o,← aK]),(by rw[pF.o];exact Ji)⟩
   | false =>
    have pF:Hid ((X.comparison E) (aR s L a)=([p],dh)):=by
     show _=_;rw[qJ (by rw[HEq.o];simp only[ha,hb,Bool.or_self]),HEq.o]
    go_wp2_with fail
    go_ret;exact⟨N,p,rfl,(by rw[pF.o];rfl),(by rw[pF.o];exact HG2)⟩
section
variable{rb a dp lo B k:Nat}{s:ByteArray}{L:List Tk}{tv rv:Value}{vs:List Value}{ps:List Part}{Lo Hi:Nat→Nat}
theorem vG.cut{w:aG}(h:vG w rb s L tv a dp lo B k rv vs ps Lo Hi)(y:Bool):vG (w.setCell (aC rb 4) (.bool y)) rb s L tv a dp lo B k rv vs ps Lo Hi:=by
 obtain⟨c,hr⟩:=h.iW.raw;have hon:On rb w (w.setCell (aC rb 4) (.bool y)):=On.set (Kp.refl _ w) 4 _;exact h.moved hon (h.iW.moved hon (hr.wH y) h.iW.le)
theorem vG.Uu{w w5:aG}{g cap H:Nat}(h:vG w rb s L tv a dp lo B k rv vs ps Lo Hi)(x:ah)(hH:w.heap.size=H)
  (hgrow:((w.alloc (gH 1 0 x (.slice none 0 0) 0 0 0 0 false)).alloc (.cells #[aH H] 51)).grownBy w5 rv.ownBlock) (hown:w5.ownsRow lo 51 1 (.slice (b_ g) (vs.length+1) cap) (vs.length+1) (vs++[aH H])) (hat:rv.ownBlock=some g∨g=H+2) :
  kV w rb s L tv dp lo B k rv (ps++[.miss x]) (aR s L a) (w5.setCell (aC B 3) (.slice (b_ g) (vs.length+1) cap)):=by
 subst hH;exact h.missed x hgrow hown hat
theorem LC(s:ByteArray)(L:List Tk)(hS:iU s L):nM 66 (X.expr 0) (fun _=>True) s L 65:=by
 intro rb tv a lo B k rv vs ps Lo Hi w h _ hl;obtain⟨i0,hi0,hz0,hz1,hz2⟩:=dM qM;have HW:=aA h;have JU:Hid (P8 w rb s L tv a 65 w):=⟨h.iW,aB _ _⟩;have hl':ps.length≤1073741823:=by have:(X.expr 0 (aR s L a)).1.length=1:=rfl;omega
 clear h hl;go_enter func66,ntmps66;go_wp2_with fail
 refine((JU.o).is hS [108,101,116]).aX fun w1 HR1=>?_;go_wp2_with fail
 refine((HR1.o).is hS [105,102]).aX fun w2 HR2=>?_;go_wp2_with fail
 refine((HR2.o).is hS [102,117,110]).aX fun w3 HR3=>?_;have HW3:=aA ((HW.o).below (HR3.o).2);have qz:=aA (On.aN rb (HR3.o).2);clear JU HR1 HR2 HR3;obtain⟨c,hr⟩:=(HW3.o).iW.raw;obtain⟨⟨c0,c1,c2,c3⟩,⟨f2,f3,f4⟩,c4⟩:=hr.facts;have hrl:=bN hr;have HC:=aA ((HW3.o).cut true);have yZ:Hid (On rb w (w3.setCell (aC rb 4) (.bool true))):=On.set qz.o 4 _;obtain⟨b3,fb3,hbl,hlo,HN,HV⟩:=(HW3.o).FI;have hrB:¬ B=rb:=by have:=(HW3.o).Pt;have:=(HW3.o).nd.ge;omega
 have hvb:vs.length≤1073741823:=by rw[HV.o];omega
 have hsz:(w3.setCell (aC rb 4) (.bool true)).heap.size=w3.heap.size:=aT
 clear hr;go_wp2_with (at_builtin;refine wpList_append_lies _ rfl _ _ 35 rfl lo 51 i0 _ 1 8 underlying35 hi0 hz0 hz1 hz2 rfl aS rv vs.length _ rfl (((HC.o).nd.row.alloc _).alloc _) ⟨w3.heap.size+1,0,none⟩ 1 1 [aH w3.heap.size] rfl rfl (World.news_of_block (cs:=#[aH w3.heap.size]) (at_new ((w3.setCell (aC rb 4) (.bool true)).alloc _) _ aT)) (by simp[Value.oneCell']) au (by unfold maxLen;omega) au aQ (w3.heap.size+2) aT ?_;intro g cap5 w5 hown5 aV gI jm;have x1:=(aV.cell_far ⟨B,3,none⟩ aQ (HN.o)).trans (Un aQ (Um hrB b3));have x2:=(aV.frozen_far ⟨B,3,none⟩ aQ (HN.o)).trans ((bD _ _ ⟨B,3,none⟩ aQ).trans ((bD _ _ ⟨B,3,none⟩ aQ).trans (HC.o).nd.facts.2.2.2));have HX:=aA ((HC.o).Uu kU hsz aV hown5 gI);clear hown5 aV)
 exact aW (results_none rfl _ _ _) rfl ⟨rfl,kV.trans (fun _ hg=>.inl hg) (Kp.mono yZ.o (fun i _ e=>.inl e)) HX.o⟩
theorem LD(s:ByteArray)(L:List Tk)(m dp:Nat)(hd:dp≤64)(hS:iU s L)(hP:nM 97 (X.expr m) (fun _=>True) s L dp):nM 66 (X.expr (m+1)) (fun _=>True) s L dp:=by
 intro rb tv a lo B k rv vs ps Lo Hi w h _ hl;obtain⟨i0,hi0,hz0,hz1,hz2⟩:=dM qM;have hl2:=hS.len;have hC:=(fP.expr m).cap (eF.expr m);have uT:=eF.expr m;have HW:=aA h;have JU:Hid (P8 w rb s L tv a dp w):=⟨h.iW,aB _ _⟩;have hl':ps.length≤1073741823:=by have:=(fP.expr (m+1)).len (aR s L a);omega
 clear h hl;go_enter func66,ntmps66;go_wp2_with fail
 refine((JU.o).is hS [108,101,116]).aX fun w1 HR1=>?_;go_wp2_with fail
 refine((HR1.o).is hS [105,102]).aX fun w2 HR2=>?_;go_wp2_with fail
 refine((HR2.o).is hS [102,117,110]).aX fun w3 HR3=>?_;clear JU HR1 HR2;obtain⟨c,hr⟩:=(HR3.o).1.raw;obtain⟨⟨c0,c1,c2,c3⟩,⟨f2,f3,f4⟩,c4⟩:=hr.facts;have hdi:¬(64:Int)<(dp:Int):=au
 clear hr;cases hlet:dJ [108,101,116] (aR s L a) with
 | true =>
  have O_:Hid (X.expr (m+1) (aR s L a)=X.node 7 (X.andThen X.take (X.andThen X.bE (X.andThen (X.want [61]) (X.andThen (X.expr m) (X.andThen (X.want [105,110]) (X.expr m)))))) (aR s L a)):=by
   show _=_;simp only[X.expr,hlet,iK]
  have FJ:=aA ((HR3.o).1.new 7);have yZ:=aA (On.aN rb (HR3.o).2);have sH:=aA (qG s L a 1);go_wp2_with fail
  refine((FJ.o).go (gT s L dp hS) ((sH.o).le Cap.take hl2 au)).aX fun x0 J0=>?_;have G0:=aA ((sH.o).then Cap.take);clear FJ sH;go_wp2_with fail
  refine((J0.o).go (ko s L dp hS) ((G0.o).le Cap.bE hl2 au)).aX fun x1 J1=>?_;have G1:=aA ((G0.o).then Cap.bE);clear J0 G0;go_wp2_with fail
  refine((J1.o).want hS [61] ((G1.o).le (Cap.want [61]) hl2 au)).aX fun x2 J2=>?_;have G2:=aA ((G1.o).then (Cap.want [61]));clear J1 G1;go_wp2_with fail
  refine((J2.o).go hP ((G2.o).le hC hl2 au)).aX fun x3 J3=>?_;have G3:=aA ((G2.o).then hC);clear J2 G2;go_wp2_with fail
  refine((J3.o).want hS [105,110] ((G3.o).le (Cap.want [105,110]) hl2 au)).aX fun x4 J4=>?_;have G4:=aA ((G3.o).then (Cap.want [105,110]));clear J3 G3;go_wp2_with fail
  refine((J4.o).go hP ((G4.o).le hC hl2 au)).aX fun w4 J5=>?_;have G5:=aA ((G4.o).then hC);clear J4 G4;have HG:Hid (ql w rb s L tv dp (.br 7 ((X.andThen X.take (X.andThen X.bE (X.andThen (X.want [61]) (X.andThen (X.expr m) (X.andThen (X.want [105,110]) (X.expr m)))))) (aR s L a)).1) ((X.andThen X.take (X.andThen X.bE (X.andThen (X.want [61]) (X.andThen (X.expr m) (X.andThen (X.want [105,110]) (X.expr m)))))) (aR s L a)).2 w3.heap.size w4):=by
   have:=J5.o;simp only[bM,aK] at this;exact(this.closed (On.aN rb ((aB _ w3).alloc (ax _) _)) (fun g hg=>by cases hg)).since yZ.o
  have HP:Hid (X.expr (m+1) (aR s L a)=([.br 7 ((X.andThen X.take (X.andThen X.bE (X.andThen (X.want [61]) (X.andThen (X.expr m) (X.andThen (X.want [105,110]) (X.expr m)))))) (aR s L a)).1],((X.andThen X.take (X.andThen X.bE (X.andThen (X.want [61]) (X.andThen (X.expr m) (X.andThen (X.want [105,110]) (X.expr m)))))) (aR s L a)).2)):=O_.o;clear J5 G5 O_;generalize (X.andThen X.take (X.andThen X.bE (X.andThen (X.want [61]) (X.andThen (X.expr m) (X.andThen (X.want [105,110]) (X.expr m)))))) (aR s L a)=rr at *;obtain⟨b3,f3,hbl,hlo,HN,HV,HO⟩:=(HW.o).mg HG.o;have hvb:vs.length≤1073741823:=by rw[HV.o];omega
  go_wp2_with (at_builtin;refine wpList_append_lies _ rfl _ _ 35 rfl lo 51 i0 _ 1 8 underlying35 hi0 hz0 hz1 hz2 rfl aS rv vs.length _ rfl ((HO.o).alloc _) ⟨w4.heap.size,0,none⟩ 1 1 [aH w3.heap.size] rfl rfl (World.news_of_block (cs:=#[aH w3.heap.size]) (aI w4 _)) (by simp[Value.oneCell']) au (by unfold maxLen;omega) au aQ (w4.heap.size+1) aT ?_;intro g cap5 w5 hown5 aV gI jm;have x1:=(aV.cell_far ⟨B,3,none⟩ aQ (HN.o)).trans (yg hbl b3);have x2:=(aV.frozen_far ⟨B,3,none⟩ aQ (HN.o)).trans ((bD _ _ ⟨B,3,none⟩ aQ).trans f3);have HX:=aA ((HW.o).take HG.o aV hown5 gI);clear hown5 aV)
  go_end0;exact⟨rfl,by rw[HP.o];exact HX.o⟩
 | false =>
  cases hif:dJ [105,102] (aR s L a) with
  | true =>
   have O_:Hid (X.expr (m+1) (aR s L a)=X.node 8 (X.andThen X.take (X.andThen (X.expr m) (X.andThen (X.want [116,104,101,110]) (X.andThen (X.expr m) (X.andThen (X.want [101,108,115,101]) (X.expr m)))))) (aR s L a)):=by
    show _=_;simp only[X.expr,hlet,hif,iK,dw,gY]
   have FJ:=aA ((HR3.o).1.new 8);have yZ:=aA (On.aN rb (HR3.o).2);have sH:=aA (qG s L a 1);go_wp2_with fail
   refine((FJ.o).go (gT s L dp hS) ((sH.o).le Cap.take hl2 au)).aX fun x0 J0=>?_;have G0:=aA ((sH.o).then Cap.take);clear FJ sH;go_wp2_with fail
   refine((J0.o).go hP ((G0.o).le hC hl2 au)).aX fun x1 J1=>?_;have G1:=aA ((G0.o).then hC);clear J0 G0;go_wp2_with fail
   refine((J1.o).want hS [116,104,101,110] ((G1.o).le (Cap.want [116,104,101,110]) hl2 au)).aX fun x2 J2=>?_;have G2:=aA ((G1.o).then (Cap.want [116,104,101,110]));clear J1 G1;go_wp2_with fail
   refine((J2.o).go hP ((G2.o).le hC hl2 au)).aX fun x3 J3=>?_;have G3:=aA ((G2.o).then hC);clear J2 G2;go_wp2_with fail
   refine((J3.o).want hS [101,108,115,101] ((G3.o).le (Cap.want [101,108,115,101]) hl2 au)).aX fun x4 J4=>?_;have G4:=aA ((G3.o).then (Cap.want [101,108,115,101]));clear J3 G3;go_wp2_with fail
   refine((J4.o).go hP ((G4.o).le hC hl2 au)).aX fun w4 J5=>?_;have G5:=aA ((G4.o).then hC);clear J4 G4;have HG:Hid (ql w rb s L tv dp (.br 8 ((X.andThen X.take (X.andThen (X.expr m) (X.andThen (X.want [116,104,101,110]) (X.andThen (X.expr m) (X.andThen (X.want [101,108,115,101]) (X.expr m)))))) (aR s L a)).1) ((X.andThen X.take (X.andThen (X.expr m) (X.andThen (X.want [116,104,101,110]) (X.andThen (X.expr m) (X.andThen (X.want [101,108,115,101]) (X.expr m)))))) (aR s L a)).2 w3.heap.size w4):=by
    have:=J5.o;simp only[bM,aK] at this;exact(this.closed (On.aN rb ((aB _ w3).alloc (ax _) _)) (fun g hg=>by cases hg)).since yZ.o
   have HP:Hid (X.expr (m+1) (aR s L a)=([.br 8 ((X.andThen X.take (X.andThen (X.expr m) (X.andThen (X.want [116,104,101,110]) (X.andThen (X.expr m) (X.andThen (X.want [101,108,115,101]) (X.expr m)))))) (aR s L a)).1],((X.andThen X.take (X.andThen (X.expr m) (X.andThen (X.want [116,104,101,110]) (X.andThen (X.expr m) (X.andThen (X.want [101,108,115,101]) (X.expr m)))))) (aR s L a)).2)):=O_.o;clear J5 G5 O_;generalize (X.andThen X.take (X.andThen (X.expr m) (X.andThen (X.want [116,104,101,110]) (X.andThen (X.expr m) (X.andThen (X.want [101,108,115,101]) (X.expr m)))))) (aR s L a)=rr at *;obtain⟨b3,f3,hbl,hlo,HN,HV,HO⟩:=(HW.o).mg HG.o;have hvb:vs.length≤1073741823:=by rw[HV.o];omega
   go_wp2_with (at_builtin;refine wpList_append_lies _ rfl _ _ 35 rfl lo 51 i0 _ 1 8 underlying35 hi0 hz0 hz1 hz2 rfl aS rv vs.length _ rfl ((HO.o).alloc _) ⟨w4.heap.size,0,none⟩ 1 1 [aH w3.heap.size] rfl rfl (World.news_of_block (cs:=#[aH w3.heap.size]) (aI w4 _)) (by simp[Value.oneCell']) au (by unfold maxLen;omega) au aQ (w4.heap.size+1) aT ?_;intro g cap5 w5 hown5 aV gI jm;have x1:=(aV.cell_far ⟨B,3,none⟩ aQ (HN.o)).trans (yg hbl b3);have x2:=(aV.frozen_far ⟨B,3,none⟩ aQ (HN.o)).trans ((bD _ _ ⟨B,3,none⟩ aQ).trans f3);have HX:=aA ((HW.o).take HG.o aV hown5 gI);clear hown5 aV)
   go_end0;exact⟨rfl,by rw[HP.o];exact HX.o⟩
  | false =>
   cases hfun:dJ [102,117,110] (aR s L a) with
   | true =>
    have O_:Hid (X.expr (m+1) (aR s L a)=X.node 9 (X.andThen X.take (X.andThen X.params (X.andThen (X.want [61,62]) (X.expr m)))) (aR s L a)):=by
     show _=_;simp only[X.expr,hlet,hif,hfun,iK,dw,gY]
    have FJ:=aA ((HR3.o).1.new 9);have yZ:=aA (On.aN rb (HR3.o).2);have sH:=aA (qG s L a 1);go_wp2_with fail
    refine((FJ.o).go (gT s L dp hS) ((sH.o).le Cap.take hl2 au)).aX fun x0 J0=>?_;have G0:=aA ((sH.o).then Cap.take);clear FJ sH;go_wp2_with fail
    refine((J0.o).go (tV s L dp hS) ((G0.o).le Cap.params hl2 au)).aX fun x1 J1=>?_;have G1:=aA ((G0.o).then Cap.params);clear J0 G0;go_wp2_with fail
    refine((J1.o).want hS [61,62] ((G1.o).le (Cap.want [61,62]) hl2 au)).aX fun x2 J2=>?_;have G2:=aA ((G1.o).then (Cap.want [61,62]));clear J1 G1;go_wp2_with fail
    refine((J2.o).go hP ((G2.o).le hC hl2 au)).aX fun w4 J3=>?_;have G3:=aA ((G2.o).then hC);clear J2 G2;have HG:Hid (ql w rb s L tv dp (.br 9 ((X.andThen X.take (X.andThen X.params (X.andThen (X.want [61,62]) (X.expr m)))) (aR s L a)).1) ((X.andThen X.take (X.andThen X.params (X.andThen (X.want [61,62]) (X.expr m)))) (aR s L a)).2 w3.heap.size w4):=by
     have:=J3.o;simp only[bM,aK] at this;exact(this.closed (On.aN rb ((aB _ w3).alloc (ax _) _)) (fun g hg=>by cases hg)).since yZ.o
    have HP:Hid (X.expr (m+1) (aR s L a)=([.br 9 ((X.andThen X.take (X.andThen X.params (X.andThen (X.want [61,62]) (X.expr m)))) (aR s L a)).1],((X.andThen X.take (X.andThen X.params (X.andThen (X.want [61,62]) (X.expr m)))) (aR s L a)).2)):=O_.o;clear J3 G3 O_;generalize (X.andThen X.take (X.andThen X.params (X.andThen (X.want [61,62]) (X.expr m)))) (aR s L a)=rr at *;obtain⟨b3,f3,hbl,hlo,HN,HV,HO⟩:=(HW.o).mg HG.o;have hvb:vs.length≤1073741823:=by rw[HV.o];omega
    go_wp2_with (at_builtin;refine wpList_append_lies _ rfl _ _ 35 rfl lo 51 i0 _ 1 8 underlying35 hi0 hz0 hz1 hz2 rfl aS rv vs.length _ rfl ((HO.o).alloc _) ⟨w4.heap.size,0,none⟩ 1 1 [aH w3.heap.size] rfl rfl (World.news_of_block (cs:=#[aH w3.heap.size]) (aI w4 _)) (by simp[Value.oneCell']) au (by unfold maxLen;omega) au aQ (w4.heap.size+1) aT ?_;intro g cap5 w5 hown5 aV gI jm;have x1:=(aV.cell_far ⟨B,3,none⟩ aQ (HN.o)).trans (yg hbl b3);have x2:=(aV.frozen_far ⟨B,3,none⟩ aQ (HN.o)).trans ((bD _ _ ⟨B,3,none⟩ aQ).trans f3);have HX:=aA ((HW.o).take HG.o aV hown5 gI);clear hown5 aV)
    go_end0;exact⟨rfl,by rw[HP.o];exact HX.o⟩
   | false =>
    have O_:Hid (X.expr (m+1) (aR s L a)=X.comparison (X.expr m) (aR s L a)):=by
     show _=_;simp only[X.expr,hlet,hif,hfun,dw,gY]
    have kA:Below w3.heap.size w3 (w3.alloc (gH 0 0 [] (.slice none 0 0) 0 0 0 0 false)):=(aB _ w3).alloc (ax _) _;have yZ:=aA (On.aN rb ((HR3.o).2.trans (kA.mono (HR3.o).2.size)));have HL:=aA (Jk s L dp hS (X.expr m) (Jj s L dp hS (X.expr m) (Jf s L dp hS (X.expr m) (Je s L dp hS (X.expr m) hP hC uT) uT.call) uT.product) uT.sum rb tv a _ ((HR3.o).1.below kA));clear kA;go_wp2_with fail
    refine(HL.o).mono ?_;rintro e w4 ⟨N,p,rfl,HP4,HG4⟩;have HG:=aA ((HG4.o).since yZ.o);have HP:Hid (X.expr (m+1) (aR s L a)=([p],(X.comparison (X.expr m) (aR s L a)).2)):=by
     show _=_;rw[O_.o,← HP4.o]
    clear HL HG4 HP4 O_;generalize (X.comparison (X.expr m) (aR s L a)).2=Yn at *;obtain⟨b3,f3,hbl,hlo,HN,HV,HO⟩:=(HW.o).mg HG.o;have hvb:vs.length≤1073741823:=by rw[HV.o];omega
    go_wp2_with (at_builtin;refine wpList_append_lies _ rfl _ _ 35 rfl lo 51 i0 _ 1 8 underlying35 hi0 hz0 hz1 hz2 rfl aS rv vs.length _ rfl ((HO.o).alloc _) ⟨w4.heap.size,0,none⟩ 1 1 [aH N] rfl rfl (World.news_of_block (cs:=#[aH N]) (aI w4 _)) (by simp[Value.oneCell']) au (by unfold maxLen;omega) au aQ (w4.heap.size+1) aT ?_;intro g cap5 w5 hown5 aV gI jm;have x1:=(aV.cell_far ⟨B,3,none⟩ aQ (HN.o)).trans (yg hbl b3);have x2:=(aV.frozen_far ⟨B,3,none⟩ aQ (HN.o)).trans ((bD _ _ ⟨B,3,none⟩ aQ).trans f3);have HX:=aA ((HW.o).take HG.o aV hown5 gI);clear hown5 aV)
    go_end0;exact⟨rfl,by rw[HP.o];exact HX.o⟩
theorem PD(s:ByteArray)(L:List Tk)(hS:iU s L)(m:Nat):∀ dp,dp+m=65→nM 66 (X.expr m) (fun _=>True) s L dp:=by
 induction m with
 | zero=>intro dp h;obtain rfl:dp=65:=(au);exact LC s L hS
 | succ m ih=>intro dp h;exact LD s L m dp au hS (Py s L dp (X.expr m) (ih (dp+1) au) au)
end
section
variable{w w1:aG}{rb dp lo B k:Nat}{s:ByteArray}{L:List Tk}{tv rv:Value}{ps1:List Part}{dh ts:List X.Tok}
theorem Jl(rb:Nat)(s:ByteArray)(L:List Tk)(tv:Value)(a dp:Nat)(w:aG)(hS:iU s L)(h:xZ w rb s L tv a dp) :
  bB 60 #[aH rb] w (cK (.bool (X.starts (aR s L a))) fun w'=>Below w.heap.size w w'):=by
 have JU:Hid (P8 w rb s L tv a dp w):=⟨h,aB _ _⟩;have HE:Hid (X.starts (aR s L a)=(dJ [117,115,101] (aR s L a)||dJ [112,117,98] (aR s L a)||dJ [100,101,102] (aR s L a))):=(rfl:_=_);clear h;go_enter func60,ntmps60;go_wp2_with fail
 refine((JU.o).is hS [117,115,101]).aX fun w1 HR1=>?_;go_wp2_with fail
 refine((HR1.o).is hS [112,117,98]).aX fun w2 HR2=>?_;go_wp2_with fail
 refine((HR2.o).is hS [100,101,102]).aX fun w3 HR3=>?_;clear JU HR1 HR2;cases h1:dJ [117,115,101] (aR s L a) with
 | true =>
  rw[h1] at HE;go_wp2_with fail
  go_ret;exact⟨jQ (by rw[HE.o];rfl),(HR3.o).2⟩
 | false =>
  cases h2:dJ [112,117,98] (aR s L a) with
  | true =>
   rw[h1,h2] at HE;go_wp2_with fail
   go_ret;exact⟨jQ (by rw[HE.o];rfl),(HR3.o).2⟩
  | false =>
   rw[h1,h2] at HE;go_wp2_with fail
   go_ret;exact⟨jQ (by rw[HE.o];rfl),(HR3.o).2⟩
theorem kV.starts{w w1:aG}{rb:Nat}{s:ByteArray}{L:List Tk}{tv:Value}{dp lo B k:Nat}{rv:Value}{ps1:List Part}{dh:List X.Tok}(h:kV w rb s L tv dp lo B k rv ps1 dh w1)(hS:iU s L) :
  bB 60 #[aH rb] w1 (cK (.bool (X.starts dh)) fun w2=>Hid (kV w rb s L tv dp lo B k rv ps1 dh w2)):=by
 have h0:=h;obtain⟨a',rv',vs',BO,BP,g1,rfl,g3,g4⟩:=h;exact(Jl rb s L tv a' dp w1 hS g1.iW).mono (fun _ _ h=>⟨h.1,h0.next h.2⟩)
theorem kV.kindOf(h:kV w rb s L tv dp lo B k rv ps1 dh w1)(hS:iU s L) :
  bB 30 #[aH rb] w1 (cK (ak (dm dh)) fun w2=>Hid (kV w rb s L tv dp lo B k rv ps1 dh w2)):=by
 have h0:=h;obtain⟨a',rv',vs',BO,BP,g1,rfl,g3,g4⟩:=h;exact(yc rb s L tv a' dp w1 hS g1.iW).mono (fun _ _ h=>⟨h.1,h0.next h.2⟩)
theorem kV.FL(h:kV w rb s L tv dp lo B k rv ps1 dh w1)(k2:Nat):kV w rb s L tv dp lo B k2 rv ps1 dh (w1.setCell (aC B 0) (ak (k2:Int))):=by
 obtain⟨a',rv',vs',BO,BP,g1,g2,g3,g4⟩:=h;have hon:Kp (fun q=>q=B) w1 (w1.setCell (aC B 0) (ak (k2:Int))):=On.set (Kp.refl _ w1) 0 _;have hrl:=g1.Pt;have hge:=g1.nd.ge;refine⟨a',rv',vs',BO,BP,⟨g1.iW.keep hon au (fun q e e'=>by have:=g1.tlt q e;omega),⟨?_,?_,?_,hge,g1.nd.ne⟩,hrl,g1.tlt⟩,g2,g3,Kp.trans g4 hon (fun i _ e=>.inr (.inl e))⟩
 ·have hb:=g1.nd.blk
  unfold gH at hb ⊢;simp[World.setCell,aZ,hb]
 ·exact lu g1.nd.row (fun e=>g1.nd.ne e) _
 ·exact g1.nd.pq.keep hon (fun i hi q e1 e2 e=>by subst e;exact(g1.nd.pq.sep i hi).2.2.2.1 ⟨e1,e2⟩)
theorem kV.Ng(h:kV w rb s L tv dp lo B k rv ps1 dh w1):w1.cell? (aC B 0)=some (ak k)∧w1.frozen? (aC B 0)=false:=by
 obtain⟨a',rv',vs',BO,BP,g1,g2,g3,g4⟩:=h;exact⟨g1.nd.facts.1,g1.nd.facts.2.2.1⟩
theorem kV.deep{w w1:aG}{rb:Nat}{s:ByteArray}{L:List Tk}{tv:Value}{dp lo B k:Nat}{rv:Value}{ps1:List Part}{dh:List X.Tok}(h:kV w rb s L tv dp lo B k rv ps1 dh w1)(y:Nat):kV w rb s L tv y lo B k rv ps1 dh (w1.setCell (aC rb 3) (ak (y:Int))):=by
 obtain⟨a',rv',vs',BO,BP,g1,g2,g3,g4⟩:=h;have hon:On rb w1 (w1.setCell (aC rb 3) (ak (y:Int))):=On.set (Kp.refl _ w1) 3 _;exact⟨a',rv',vs',BO,BP,g1.deep y,g2,g3,Kp.trans g4 hon (fun i _ e=>.inl e)⟩
theorem kV.Xn(h:kV w rb s L tv dp lo B k rv ps1 dh w1):w1.cell? (aC rb 3)=some (ak dp)∧w1.frozen? (aC rb 3)=false:=by
 obtain⟨a',rv',vs',BO,BP,g1,g2,g3,g4⟩:=h;obtain⟨c,hr⟩:=g1.iW.raw;exact⟨hr.facts.1.2.2.2,hr.facts.2.1.2.1⟩
theorem qm(h:dJ [112,117,98] ts=true):X.bH ts=X.take ts:=aU h
theorem rq(h:dJ [112,117,98] ts=false):X.bH ts=([],ts):=aM (fun e=>by rw[show dJ jY ts=false from h] at e;cases e)
theorem PG(s:ByteArray)(L:List Tk)(hS:iU s L)(rb:Nat)(tv:Value)(a:Nat)(w:aG)(h:xZ w rb s L tv a 0)(hk:(dm (aR s L a)==0)=false) :
  bB 31 #[aH rb] w fun e w'=>∃ N,e=.returned (aH N)∧Hid (ql w rb s L tv 0 (.br (X.kid (aR s L a)).1 (X.kid (aR s L a)).2.1) (X.kid (aR s L a)).2.2 N w'):=by
 have hl2:=hS.len;have kA:On rb w (w.alloc (gH 5 0 [] (.slice none 0 0) 0 0 0 0 false)):=On.aN rb ((aB _ w).alloc (ax _) _);have FJ:=aA (h.new 5);have sH:=aA (qG s L a 1);have hX:=PD s L hS 65 0 rfl;have Uv:=(fP.expr 65).cap (eF.expr 65);clear h;go_enter func31,ntmps31;go_wp2_with fail
 refine((FJ.o).starts hS).aX fun w1 H1=>?_;clear FJ;cases hst:X.starts (aR s L a) with
 | false =>
  clear hX Uv;have D6:Hid (X.kid (aR s L a)=(5,X.iB (aR s L a))):=by
   show _=_;rw[kK,aM (by rw[hst];simp)]
  go_wp2_with fail
  go_loopw [] (fun wr=>∃(acc:List Part) (dh:List X.Tok),Hid (DV L acc dh 1)∧(dm dh==0)=false∧X.starts dh=false∧Hid (kV (w.alloc (gH 5 0 [] (.slice none 0 0) 0 0 0 0 false)) rb s L tv 0 w.heap.size w.heap.size 5 (.slice none 0 0) acc dh wr)∧Hid (X.iB (aR s L a)=(acc++(X.iB dh).1,(X.iB dh).2))) (fun wr=>L.length - JJ rb wr)
  case atStart=>exact⟨[],_,sH,hk,hst,H1,(by show _=_;simp)⟩
  case round =>
   obtain⟨acc,dh,HF,hk1,hs1,HJ,HE⟩:=hrel;clear sH H1 hk hst;have hat:=(HJ.o).at
   have hnx:=l_ hk1;have htk:=fZ hnx;have HJy:=aA (qZ (ts:=dh) (by rw[hk1,hs1];rfl));clear hk1 hs1;go_wp2_with fail
   refine((HJ.o).is hS [59]).aX fun w2 H2=>?_;clear HJ;go_wp2_with fail
   refine((H2.o).go (gT s L 0 hS) ((HF.o).le Cap.take hl2 au)).aX fun w3 H3=>?_;have yT:=aA ((HF.o).then Cap.take);clear H2 HF;go_wp2_with fail
   refine((H3.o).kindOf hS).aX fun w4 H4=>?_;clear H3;go_wp2_with fail
   refine((H4.o).starts hS).aX fun w5 H5=>?_;clear H4;cases hov:dJ [59] dh with
   | true =>
    have HG:Hid (ql w rb s L tv 0 (.br 5 (X.iB (aR s L a)).1) (X.iB (aR s L a)).2 w.heap.size w5):=by
     rw[HE.o,HJy.o,aU hov];exact(H5.o).closed kA (fun g hg=>by cases hg)
    clear H5;go_wp2_with fail
    go_ret;exact⟨_,rfl,by rw[D6.o];exact HG⟩
   | false =>
    have HJ2:Hid (X.iB dh=((X.take dh).1++(X.iB (X.take dh).2).1,(X.iB (X.take dh).2).2)):=by
     show _=_;rw[HJy.o,aM (by rw[hov];simp)];rfl
    clear HJy;generalize X.take dh=r1 at *;cases hs2:X.starts r1.2 with
    | true =>
     have HG:Hid (ql w rb s L tv 0 (.br 5 (X.iB (aR s L a)).1) (X.iB (aR s L a)).2 w.heap.size w5):=by
      rw[HE.o,HJ2.o,wP (ts:=r1.2) (by rw[hs2];simp),aL];exact(H5.o).closed kA (fun g hg=>by cases hg)
     clear H5;go_wp2_with fail
     go_ret;exact⟨_,rfl,by rw[D6.o];exact HG⟩
    | false =>
     cases hk2:((dm r1.2:Int)==0) with
     | true =>
      have e0:=(nb _ 0).symm.trans hk2;have HG:Hid (ql w rb s L tv 0 (.br 5 (X.iB (aR s L a)).1) (X.iB (aR s L a)).2 w.heap.size w5):=by
       rw[HE.o,HJ2.o,wP (ts:=r1.2) (by rw[e0];rfl),aL];exact(H5.o).closed kA (fun g hg=>by cases hg)
      clear H5;go_wp2_with fail
      go_ret;exact⟨_,rfl,by rw[D6.o];exact HG⟩
     | false =>
      have e0:=(nb _ 0).symm.trans hk2;have gI:=(H5.o).at
      have HE2:Hid (X.iB (aR s L a)=((acc++r1.1)++(X.iB r1.2).1,(X.iB r1.2).2)):=by
       show _=_;rw[HE.o,HJ2.o,aK]
      go_wp2_with fail
      exact⟨⟨acc++r1.1,r1.2,yT,e0,hs2,H5,HE2⟩,by rw[hat,gI];omega⟩
 | true =>
  obtain⟨d3,df3⟩:=(H1.o).Xn;have HD:=aA ((H1.o).deep 0);clear H1 hk;go_wp2_with fail
  refine((HD.o).is hS [112,117,98]).aX fun w2 H2=>?_;clear HD d3 df3;cases Cr:dJ [112,117,98] (aR s L a) with
  | true =>
   go_wp2_with fail
   refine((H2.o).go (gT s L 0 hS) ((sH.o).le Cap.take hl2 au)).aX fun w3 H3=>?_;have yT:=aA ((sH.o).then Cap.take);rw[bM] at H3 yT;clear H2 sH;have hO2:(X.bH (aR s L a)).2=(X.take (aR s L a)).2:=by rw[qm Cr]
   go_wp2_with fail
   refine((H3.o).is hS [117,115,101]).aX fun w4 H4=>?_;clear H3;obtain⟨q0,qf⟩:=(H4.o).Ng;cases hu:dJ [117,115,101] (X.take (aR s L a)).2 with
   | true =>
    have hu':dJ jf (X.bH (aR s L a)).2=true:=by rw[hO2];exact hu
    have H5:=aA ((H4.o).FL 3);clear H4 hX Uv;go_wp2_with fail
    refine((H5.o).want hS [117,115,101] ((yT.o).le (Cap.want [117,115,101]) hl2 au)).aX fun j0 J0=>?_;have LF:=aA ((yT.o).then (Cap.want [117,115,101]));clear H5 yT q0 qf;go_wp2_with fail
    refine((J0.o).go (ko s L 0 hS) ((LF.o).le Cap.bE hl2 au)).aX fun j1 J1=>?_;have Ct:=aA ((LF.o).then Cap.bE);clear J0 LF;go_wp2_with fail
    refine((J1.o).want hS [46] ((Ct.o).le (Cap.want [46]) hl2 au)).aX fun j2 J2=>?_;have JF2:=aA ((Ct.o).then (Cap.want [46]));clear J1 Ct;go_wp2_with fail
    refine((J2.o).go (ko s L 0 hS) ((JF2.o).le Cap.bE hl2 au)).aX fun j3 J3=>?_;have PI:=aA ((JF2.o).then Cap.bE);clear J2 JF2;go_wp2_with fail
    generalize Bw:(X.bE (X.want [46] (X.bE (X.want [117,115,101] (X.take (aR s L a)).2).2).2).2).2=Yn at *;refine((J3.o).is hS [97,115]).aX fun y0 Y0=>?_;clear J3;cases has:dJ [97,115] Yn with
    | true =>
     go_wp2_with fail
     refine((Y0.o).go (gT s L 0 hS) ((PI.o).le Cap.take hl2 au)).aX fun k0 K0=>?_;have y8:=aA ((PI.o).then Cap.take);clear Y0 PI;go_wp2_with fail
     refine((K0.o).go (ko s L 0 hS) ((y8.o).le Cap.bE hl2 au)).aX fun k1 K1=>?_;have Bz:=aA ((y8.o).then Cap.bE);clear K0 y8;go_wp2_with fail
     refine((K1.o).want hS [59] ((Bz.o).le (Cap.want [59]) hl2 au)).aX fun k2 K2=>?_;have Uw:=aA ((Bz.o).then (Cap.want [59]));clear K1 Bz;have HE:Hid (X.andThen X.bH X.gW (aR s L a)=((X.andThen X.bH X.gW (aR s L a)).1,(X.andThen X.bH X.gW (aR s L a)).2)):=(rfl:_=_);have HG:Hid (ql w rb s L tv 0 (.br 3 (X.andThen X.bH X.gW (aR s L a)).1) (X.andThen X.bH X.gW (aR s L a)).2 w.heap.size k2):=by
      have hd:=K2.o;have e1:=qm Cr;rw[show X.andThen X.bH X.gW (aR s L a)=((X.bH (aR s L a)).1++(X.gW (X.bH (aR s L a)).2).1,(X.gW (X.bH (aR s L a)).2).2) from rfl,e1];unfold X.gW;simp only[X.andThen,jf,Bw,has,iK,aK] at hd ⊢;exact hd.closed kA (fun g hg=>by cases hg)
     clear K2;go_wp2_with fail
     go_ret;exact⟨_,rfl,by rw[kK,aU hst,aU hu'];exact HG⟩
    | false =>
     go_wp2_with fail
     refine((Y0.o).want hS [59] ((PI.o).le (Cap.want [59]) hl2 au)).aX fun k0 K0=>?_;have y8:=aA ((PI.o).then (Cap.want [59]));clear Y0 PI;have HE:Hid (X.andThen X.bH X.gW (aR s L a)=((X.andThen X.bH X.gW (aR s L a)).1,(X.andThen X.bH X.gW (aR s L a)).2)):=(rfl:_=_);have HG:Hid (ql w rb s L tv 0 (.br 3 (X.andThen X.bH X.gW (aR s L a)).1) (X.andThen X.bH X.gW (aR s L a)).2 w.heap.size k0):=by
      have hd:=K0.o;have e1:=qm Cr;rw[show X.andThen X.bH X.gW (aR s L a)=((X.bH (aR s L a)).1++(X.gW (X.bH (aR s L a)).2).1,(X.gW (X.bH (aR s L a)).2).2) from rfl,e1];unfold X.gW;simp only[X.andThen,jf,Bw,has,dw,gY,bM,aK] at hd ⊢;exact hd.closed kA (fun g hg=>by cases hg)
     clear K0;go_wp2_with fail
     go_ret;exact⟨_,rfl,by rw[kK,aU hst,aU hu'];exact HG⟩
   | false =>
    have hu':dJ jf (X.bH (aR s L a)).2=false:=by rw[hO2];exact hu
    have H5:=aA ((H4.o).FL 4);clear H4;go_wp2_with fail
    refine((H5.o).want hS [100,101,102] ((yT.o).le (Cap.want [100,101,102]) hl2 au)).aX fun j0 J0=>?_;have LF:=aA ((yT.o).then (Cap.want [100,101,102]));clear H5 yT q0 qf;go_wp2_with fail
    refine((J0.o).go (ko s L 0 hS) ((LF.o).le Cap.bE hl2 au)).aX fun j1 J1=>?_;have Ct:=aA ((LF.o).then Cap.bE);clear J0 LF;go_wp2_with fail
    generalize Bw:(X.bE (X.want [100,101,102] (X.take (aR s L a)).2).2).2=Yn at *;refine((J1.o).is hS [40]).aX fun y0 Y0=>?_;clear J1;cases has:dJ [40] Yn with
    | true =>
     go_wp2_with fail
     refine((Y0.o).go (tV s L 0 hS) ((Ct.o).le Cap.params hl2 au)).aX fun k0 K0=>?_;have y8:=aA ((Ct.o).then Cap.params);clear Y0 Ct;go_wp2_with fail
     refine((K0.o).want hS [61] ((y8.o).le (Cap.want [61]) hl2 au)).aX fun k1 K1=>?_;have Bz:=aA ((y8.o).then (Cap.want [61]));clear K0 y8;go_wp2_with fail
     refine((K1.o).go hX ((Bz.o).le Uv hl2 au)).aX fun k2 K2=>?_;have Uw:=aA ((Bz.o).then Uv);clear K1 Bz;go_wp2_with fail
     refine((K2.o).want hS [59] ((Uw.o).le (Cap.want [59]) hl2 au)).aX fun k3 K3=>?_;have KF3:=aA ((Uw.o).then (Cap.want [59]));clear K2 Uw;have HE:Hid (X.andThen X.bH X.gU (aR s L a)=((X.andThen X.bH X.gU (aR s L a)).1,(X.andThen X.bH X.gU (aR s L a)).2)):=(rfl:_=_);have HG:Hid (ql w rb s L tv 0 (.br 4 (X.andThen X.bH X.gU (aR s L a)).1) (X.andThen X.bH X.gU (aR s L a)).2 w.heap.size k3):=by
      have hd:=K3.o;have e1:=qm Cr;rw[show X.andThen X.bH X.gU (aR s L a)=((X.bH (aR s L a)).1++(X.gU (X.bH (aR s L a)).2).1,(X.gU (X.bH (aR s L a)).2).2) from rfl,e1];unfold X.gU;simp only[X.andThen,lF,Bw,has,iK,aK] at hd ⊢;exact hd.closed kA (fun g hg=>by cases hg)
     clear K3;go_wp2_with fail
     go_ret;exact⟨_,rfl,by rw[kK,aU hst,aM (by rw[hu'];simp)];exact HG⟩
    | false =>
     go_wp2_with fail
     refine((Y0.o).want hS [61] ((Ct.o).le (Cap.want [61]) hl2 au)).aX fun k0 K0=>?_;have y8:=aA ((Ct.o).then (Cap.want [61]));clear Y0 Ct;go_wp2_with fail
     refine((K0.o).go hX ((y8.o).le Uv hl2 au)).aX fun k1 K1=>?_;have Bz:=aA ((y8.o).then Uv);clear K0 y8;go_wp2_with fail
     refine((K1.o).want hS [59] ((Bz.o).le (Cap.want [59]) hl2 au)).aX fun k2 K2=>?_;have Uw:=aA ((Bz.o).then (Cap.want [59]));clear K1 Bz;have HE:Hid (X.andThen X.bH X.gU (aR s L a)=((X.andThen X.bH X.gU (aR s L a)).1,(X.andThen X.bH X.gU (aR s L a)).2)):=(rfl:_=_);have HG:Hid (ql w rb s L tv 0 (.br 4 (X.andThen X.bH X.gU (aR s L a)).1) (X.andThen X.bH X.gU (aR s L a)).2 w.heap.size k2):=by
      have hd:=K2.o;have e1:=qm Cr;rw[show X.andThen X.bH X.gU (aR s L a)=((X.bH (aR s L a)).1++(X.gU (X.bH (aR s L a)).2).1,(X.gU (X.bH (aR s L a)).2).2) from rfl,e1];unfold X.gU;simp only[X.andThen,lF,Bw,has,dw,gY,bM,aK] at hd ⊢;exact hd.closed kA (fun g hg=>by cases hg)
     clear K2;go_wp2_with fail
     go_ret;exact⟨_,rfl,by rw[kK,aU hst,aM (by rw[hu'];simp)];exact HG⟩
  | false =>
   have H3:=aA H2.o;have yT:=aA sH.o;clear H2 sH;have hO2:(X.bH (aR s L a)).2=(aR s L a):=by rw[rq Cr]
   go_wp2_with fail
   refine((H3.o).is hS [117,115,101]).aX fun w4 H4=>?_;clear H3;obtain⟨q0,qf⟩:=(H4.o).Ng;cases hu:dJ [117,115,101] (aR s L a) with
   | true =>
    have hu':dJ jf (X.bH (aR s L a)).2=true:=by rw[hO2];exact hu
    have H5:=aA ((H4.o).FL 3);clear H4 hX Uv;go_wp2_with fail
    refine((H5.o).want hS [117,115,101] ((yT.o).le (Cap.want [117,115,101]) hl2 au)).aX fun j0 J0=>?_;have LF:=aA ((yT.o).then (Cap.want [117,115,101]));clear H5 yT q0 qf;go_wp2_with fail
    refine((J0.o).go (ko s L 0 hS) ((LF.o).le Cap.bE hl2 au)).aX fun j1 J1=>?_;have Ct:=aA ((LF.o).then Cap.bE);clear J0 LF;go_wp2_with fail
    refine((J1.o).want hS [46] ((Ct.o).le (Cap.want [46]) hl2 au)).aX fun j2 J2=>?_;have JF2:=aA ((Ct.o).then (Cap.want [46]));clear J1 Ct;go_wp2_with fail
    refine((J2.o).go (ko s L 0 hS) ((JF2.o).le Cap.bE hl2 au)).aX fun j3 J3=>?_;have PI:=aA ((JF2.o).then Cap.bE);clear J2 JF2;go_wp2_with fail
    generalize Bw:(X.bE (X.want [46] (X.bE (X.want [117,115,101] (aR s L a)).2).2).2).2=Yn at *;refine((J3.o).is hS [97,115]).aX fun y0 Y0=>?_;clear J3;cases has:dJ [97,115] Yn with
    | true =>
     go_wp2_with fail
     refine((Y0.o).go (gT s L 0 hS) ((PI.o).le Cap.take hl2 au)).aX fun k0 K0=>?_;have y8:=aA ((PI.o).then Cap.take);clear Y0 PI;go_wp2_with fail
     refine((K0.o).go (ko s L 0 hS) ((y8.o).le Cap.bE hl2 au)).aX fun k1 K1=>?_;have Bz:=aA ((y8.o).then Cap.bE);clear K0 y8;go_wp2_with fail
     refine((K1.o).want hS [59] ((Bz.o).le (Cap.want [59]) hl2 au)).aX fun k2 K2=>?_;have Uw:=aA ((Bz.o).then (Cap.want [59]));clear K1 Bz;have HE:Hid (X.andThen X.bH X.gW (aR s L a)=((X.andThen X.bH X.gW (aR s L a)).1,(X.andThen X.bH X.gW (aR s L a)).2)):=(rfl:_=_);have HG:Hid (ql w rb s L tv 0 (.br 3 (X.andThen X.bH X.gW (aR s L a)).1) (X.andThen X.bH X.gW (aR s L a)).2 w.heap.size k2):=by
      have hd:=K2.o;have e1:=rq Cr;rw[show X.andThen X.bH X.gW (aR s L a)=((X.bH (aR s L a)).1++(X.gW (X.bH (aR s L a)).2).1,(X.gW (X.bH (aR s L a)).2).2) from rfl,e1];unfold X.gW;simp only[X.andThen,bM,jf,Bw,has,iK,aK] at hd ⊢;exact hd.closed kA (fun g hg=>by cases hg)
     clear K2;go_wp2_with fail
     go_ret;exact⟨_,rfl,by rw[kK,aU hst,aU hu'];exact HG⟩
    | false =>
     go_wp2_with fail
     refine((Y0.o).want hS [59] ((PI.o).le (Cap.want [59]) hl2 au)).aX fun k0 K0=>?_;have y8:=aA ((PI.o).then (Cap.want [59]));clear Y0 PI;have HE:Hid (X.andThen X.bH X.gW (aR s L a)=((X.andThen X.bH X.gW (aR s L a)).1,(X.andThen X.bH X.gW (aR s L a)).2)):=(rfl:_=_);have HG:Hid (ql w rb s L tv 0 (.br 3 (X.andThen X.bH X.gW (aR s L a)).1) (X.andThen X.bH X.gW (aR s L a)).2 w.heap.size k0):=by
      have hd:=K0.o;have e1:=rq Cr;rw[show X.andThen X.bH X.gW (aR s L a)=((X.bH (aR s L a)).1++(X.gW (X.bH (aR s L a)).2).1,(X.gW (X.bH (aR s L a)).2).2) from rfl,e1];unfold X.gW;simp only[X.andThen,jf,Bw,has,dw,gY,bM,aK] at hd ⊢;exact hd.closed kA (fun g hg=>by cases hg)
     clear K0;go_wp2_with fail
     go_ret;exact⟨_,rfl,by rw[kK,aU hst,aU hu'];exact HG⟩
   | false =>
    have hu':dJ jf (X.bH (aR s L a)).2=false:=by rw[hO2];exact hu
    have H5:=aA ((H4.o).FL 4);clear H4;go_wp2_with fail
    refine((H5.o).want hS [100,101,102] ((yT.o).le (Cap.want [100,101,102]) hl2 au)).aX fun j0 J0=>?_;have LF:=aA ((yT.o).then (Cap.want [100,101,102]));clear H5 yT q0 qf;go_wp2_with fail
    refine((J0.o).go (ko s L 0 hS) ((LF.o).le Cap.bE hl2 au)).aX fun j1 J1=>?_;have Ct:=aA ((LF.o).then Cap.bE);clear J0 LF;go_wp2_with fail
    generalize Bw:(X.bE (X.want [100,101,102] (aR s L a)).2).2=Yn at *;refine((J1.o).is hS [40]).aX fun y0 Y0=>?_;clear J1;cases has:dJ [40] Yn with
    | true =>
     go_wp2_with fail
     refine((Y0.o).go (tV s L 0 hS) ((Ct.o).le Cap.params hl2 au)).aX fun k0 K0=>?_;have y8:=aA ((Ct.o).then Cap.params);clear Y0 Ct;go_wp2_with fail
     refine((K0.o).want hS [61] ((y8.o).le (Cap.want [61]) hl2 au)).aX fun k1 K1=>?_;have Bz:=aA ((y8.o).then (Cap.want [61]));clear K0 y8;go_wp2_with fail
     refine((K1.o).go hX ((Bz.o).le Uv hl2 au)).aX fun k2 K2=>?_;have Uw:=aA ((Bz.o).then Uv);clear K1 Bz;go_wp2_with fail
     refine((K2.o).want hS [59] ((Uw.o).le (Cap.want [59]) hl2 au)).aX fun k3 K3=>?_;have KF3:=aA ((Uw.o).then (Cap.want [59]));clear K2 Uw;have HE:Hid (X.andThen X.bH X.gU (aR s L a)=((X.andThen X.bH X.gU (aR s L a)).1,(X.andThen X.bH X.gU (aR s L a)).2)):=(rfl:_=_);have HG:Hid (ql w rb s L tv 0 (.br 4 (X.andThen X.bH X.gU (aR s L a)).1) (X.andThen X.bH X.gU (aR s L a)).2 w.heap.size k3):=by
      have hd:=K3.o;have e1:=rq Cr;rw[show X.andThen X.bH X.gU (aR s L a)=((X.bH (aR s L a)).1++(X.gU (X.bH (aR s L a)).2).1,(X.gU (X.bH (aR s L a)).2).2) from rfl,e1];unfold X.gU;simp only[X.andThen,bM,lF,Bw,has,iK,aK] at hd ⊢;exact hd.closed kA (fun g hg=>by cases hg)
     clear K3;go_wp2_with fail
     go_ret;exact⟨_,rfl,by rw[kK,aU hst,aM (by rw[hu'];simp)];exact HG⟩
    | false =>
     go_wp2_with fail
     refine((Y0.o).want hS [61] ((Ct.o).le (Cap.want [61]) hl2 au)).aX fun k0 K0=>?_;have y8:=aA ((Ct.o).then (Cap.want [61]));clear Y0 Ct;go_wp2_with fail
     refine((K0.o).go hX ((y8.o).le Uv hl2 au)).aX fun k1 K1=>?_;have Bz:=aA ((y8.o).then Uv);clear K0 y8;go_wp2_with fail
     refine((K1.o).want hS [59] ((Bz.o).le (Cap.want [59]) hl2 au)).aX fun k2 K2=>?_;have Uw:=aA ((Bz.o).then (Cap.want [59]));clear K1 Bz;have HE:Hid (X.andThen X.bH X.gU (aR s L a)=((X.andThen X.bH X.gU (aR s L a)).1,(X.andThen X.bH X.gU (aR s L a)).2)):=(rfl:_=_);have HG:Hid (ql w rb s L tv 0 (.br 4 (X.andThen X.bH X.gU (aR s L a)).1) (X.andThen X.bH X.gU (aR s L a)).2 w.heap.size k2):=by
      have hd:=K2.o;have e1:=rq Cr;rw[show X.andThen X.bH X.gU (aR s L a)=((X.bH (aR s L a)).1++(X.gU (X.bH (aR s L a)).2).1,(X.gU (X.bH (aR s L a)).2).2) from rfl,e1];unfold X.gU;simp only[X.andThen,lF,Bw,has,dw,gY,bM,aK] at hd ⊢;exact hd.closed kA (fun g hg=>by cases hg)
     clear K2;go_wp2_with fail
     go_ret;exact⟨_,rfl,by rw[kK,aU hst,aM (by rw[hu'];simp)];exact HG⟩
end
end Go.Proofs.YtoohcklcppnafaaGreatDoor
