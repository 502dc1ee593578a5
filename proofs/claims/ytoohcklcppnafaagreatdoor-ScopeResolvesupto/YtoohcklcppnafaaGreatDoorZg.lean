import Derived.Test.YtoohcklcppnafaaGreatDoorZw
import Derived.Test.YtoohcklcppnafaaGreatDoorXq
namespace Go.Proofs.YtoohcklcppnafaaGreatDoor
set_option maxRecDepth 100000
set_option maxHeartbeats 1000000
open Tryz
open Go.RowKit
open M
open X
section
variable{L:List Tk}{ps acc:List Part}{ts yh dh:List X.Tok}{c d:Nat}{F O:X.R}{x:ah}
def DV(L:List Tk)(ps:List Part)(ts:List X.Tok)(c:Nat):Prop:=ps.length+2*ts.length≤c+2*L.length
theorem DV.then(h:DV L ps ts c)(hF:Cap F d):DV L (ps++(F ts).1) (F ts).2 (c+d):=by
 have:=hF ts;unfold DV at *;rw[ay];omega
theorem DV.le(h:DV L ps ts c)(hF:Cap F d)(hL:L.length≤268435456)(hc:c+d≤1000):ps.length+(F ts).1.length≤1073741824:=by
 have:=hF ts;unfold DV at h;omega
theorem DV.take{L:List Tk}{ps:List Part}{ts:List X.Tok}{c:Nat}(h:DV L ps ts (c+1))(hn:pQ ts≠none):DV L (ps++(X.take ts).1) (X.take ts).2 c:=by
 have h1:=take_len ts;have h2:=fZ hn;unfold DV at *;rw[ay];omega
theorem DV.mono(h:DV L ps ts c)(hd:c≤d):DV L ps ts d:=by unfold DV at *;omega
theorem qG(s:ByteArray)(L:List Tk)(a c:Nat):DV L [] (aR s L a) c:=by
 unfold DV aR;rw[cB,bV];simp;omega
theorem Jb(hO:eF O)(he:X.andThen O (X.jC O) yh=(acc++(X.jC O dh).1,(X.jC O dh).2))(hy:dJ [44] dh=true) :
  X.andThen O (X.jC O) yh=((acc++(X.take dh).1++(O (X.take dh).2).1)++(X.jC O (O (X.take dh).2).2).1,(X.jC O (O (X.take dh).2).2).2):=by
 rw[he,IK hO hy];simp only[X.andThen,aK]
theorem Jc(he:X.andThen O (X.jC O) yh=(acc++(X.jC O dh).1,(X.jC O dh).2))(hy:dJ [44] dh=false) :
  X.andThen O (X.jC O) yh=(acc,dh):=by
 rw[he,M6 hy,aL]
theorem wR(hn:dJ x yh=false)(he:X.andThen O (X.jC O) yh=(acc,dh)):X.dz O x yh=(acc++(X.want x dh).1,(X.want x dh).2):=by
 rw[qj,aM (by rw[hn];simp)];have h1:=congrArg Prod.fst he;have h2:=congrArg Prod.snd he;simp only[X.andThen] at h1 h2 ⊢;rw[h2,← h1,aK]
theorem wS(hn:dJ x yh=true):X.dz O x yh=X.want x yh:=by
 rw[qj,aU hn]
theorem tV(s:ByteArray)(L:List Tk)(dp:Nat)(hS:iU s L):nM 65 X.params (fun _=>True) s L dp:=by
 intro rb tv a lo B k rv vs ps Lo Hi w h _ hl;obtain⟨i0,hi0,hz0,hz1,hz2⟩:=dM qM;have hl2:=hS.len;have HW:=aA h;have FJ:=aA (h.iW.new 6);have kA:On rb w (w.alloc (gH 6 0 [] (.slice none 0 0) 0 0 0 0 false)):=On.aN rb ((aB _ w).alloc (ax _) _);have sH:=aA (qG s L a 0);have hl':ps.length≤1073741823:=by have:(X.params (aR s L a)).1.length=1:=rfl;omega
 have HFin:Hid (∀(zC:List Part) (ts':List X.Tok) (w4:aG),X.andThen (X.want [40]) (X.dz X.bE [41]) (aR s L a)=(zC,ts')→kV (w.alloc (gH 6 0 [] (.slice none 0 0) 0 0 0 0 false)) rb s L tv dp w.heap.size w.heap.size 6 (.slice none 0 0) zC ts' w4→X.params (aR s L a)=([.br 6 zC],ts')∧ql w rb s L tv dp (.br 6 zC) ts' w.heap.size w4):=fun zC ts' w4 e hd=>⟨by unfold X.params X.node;rw[e],hd.closed kA (fun g hg=>by cases hg)⟩
 clear h hl kA;go_enter func65,ntmps65;go_wp2_with fail
 refine((FJ.o).want hS [40] ((sH.o).le (Cap.want [40]) hl2 au)).aX fun w1 H1=>?_;have Px:=aA ((sH.o).then (Cap.want [40]));rw[bM] at H1 Px;generalize hr1:X.want [40] (aR s L a)=r1 at *;have HR1:=aA hr1;clear hr1 FJ sH;go_wp2_with fail
 refine((H1.o).is hS [41]).aX fun w2 H2=>?_;clear H1;cases hsh:dJ [41] r1.2 with
 | true =>
  go_wp2_with fail
  refine((H2.o).want hS [41] ((Px.o).le (Cap.want [41]) hl2 au)).aX fun w4 H4=>?_;have HE:Hid (X.andThen (X.want [40]) (X.dz X.bE [41]) (aR s L a)=(r1.1++(X.want [41] r1.2).1,(X.want [41] r1.2).2)):=by
   show _=_;unfold X.andThen;rw[HR1.o,wS hsh]
  clear Px HR1 H2 hsh;obtain⟨hp,Dy⟩:=(HFin.o) _ _ w4 (HE.o) (H4.o);have HP:=aA hp;have HG:=aA Dy;clear Dy hp HFin;obtain⟨b3,f3,hbl,hlo,HN,HV,HO⟩:=(HW.o).mg HG.o;have hvb:vs.length≤1073741823:=by rw[HV.o];omega
  go_wp2_with (at_builtin;refine wpList_append_lies _ rfl _ _ 35 rfl lo 51 i0 _ 1 8 underlying35 hi0 hz0 hz1 hz2 rfl aS rv vs.length _ rfl ((HO.o).alloc _) ⟨w4.heap.size,0,none⟩ 1 1 [aH w.heap.size] rfl rfl (World.news_of_block (cs:=#[aH w.heap.size]) (aI w4 _)) (by simp[Value.oneCell']) au (by unfold maxLen;omega) au aQ (w4.heap.size+1) aT ?_;intro g cap5 w5 hown5 aV gI jm;have x1:=(aV.cell_far ⟨B,3,none⟩ aQ (HN.o)).trans (yg hbl b3);have x2:=(aV.frozen_far ⟨B,3,none⟩ aQ (HN.o)).trans ((bD _ _ ⟨B,3,none⟩ aQ).trans f3);have HX:=aA ((HW.o).take HG.o aV hown5 gI);clear hown5 aV)
  go_end0;exact⟨rfl,by rw[HP.o];exact HX.o⟩
 | false =>
  have Jd:=aA (fun acc dh=>wR (O:=X.bE) (x:=[41]) (yh:=r1.2) (acc:=acc) (dh:=dh) hsh);clear hsh;go_wp2_with fail
  refine((H2.o).go (ko s L dp hS) ((Px.o).le Cap.bE hl2 au)).aX fun w3 H3=>?_;have yT:=aA ((Px.o).then Cap.bE);have wX:Hid (X.andThen X.bE (X.jC X.bE) r1.2=((X.bE r1.2).1++(X.jC X.bE (X.bE r1.2).2).1,(X.jC X.bE (X.bE r1.2).2).2)):=(rfl:_=_);clear H2 Px;generalize X.bE r1.2=r2 at *;go_wp2_with fail
  refine((H3.o).is hS [44]).aX fun w3' Xc=>?_;clear H3;go_wp2_with fail
  go_loopw [6] (fun v wr=>∃(acc:List Part) (dh:List X.Tok),v=.bool (dJ [44] dh)∧Hid (DV L (r1.1++acc) dh 2)∧Hid (kV (w.alloc (gH 6 0 [] (.slice none 0 0) 0 0 0 0 false)) rb s L tv dp w.heap.size w.heap.size 6 (.slice none 0 0) (r1.1++acc) dh wr)∧Hid (X.andThen X.bE (X.jC X.bE) r1.2=(acc++(X.jC X.bE dh).1,(X.jC X.bE dh).2))) (fun _ wr=>L.length - JJ rb wr)
  case atStart=>exact⟨r2.1,r2.2,rfl,yT,Xc,wX⟩
  case round =>
   obtain⟨acc,dh,rfl,Uo,HJ,Xl⟩:=hrel;clear yT Xc wX;have hat:=(HJ.o).at
   cases hmore:dJ [44] dh with
   | false =>
    have pF:=aA (Jc Xl.o hmore);go_wp2_with fail
    refine((HJ.o).want hS [41] ((Uo.o).le (Cap.want [41]) hl2 au)).aX fun w4 H4=>?_;have HE:Hid (X.andThen (X.want [40]) (X.dz X.bE [41]) (aR s L a)=(r1.1++acc++(X.want [41] dh).1,(X.want [41] dh).2)):=by
     show _=_;unfold X.andThen;rw[HR1.o,(Jd.o) _ _ pF.o,aK]
    clear Uo HJ Xl pF HR1 Jd hat
    obtain⟨hp,Dy⟩:=(HFin.o) _ _ w4 (HE.o) (H4.o);have HP:=aA hp;have HG:=aA Dy;clear Dy hp HFin;obtain⟨b3,f3,hbl,hlo,HN,HV,HO⟩:=(HW.o).mg HG.o;have hvb:vs.length≤1073741823:=by rw[HV.o];omega
    go_wp2_with (at_builtin;refine wpList_append_lies _ rfl _ _ 35 rfl lo 51 i0 _ 1 8 underlying35 hi0 hz0 hz1 hz2 rfl aS rv vs.length _ rfl ((HO.o).alloc _) ⟨w4.heap.size,0,none⟩ 1 1 [aH w.heap.size] rfl rfl (World.news_of_block (cs:=#[aH w.heap.size]) (aI w4 _)) (by simp[Value.oneCell']) au (by unfold maxLen;omega) au aQ (w4.heap.size+1) aT ?_;intro g cap5 w5 hown5 aV gI jm;have x1:=(aV.cell_far ⟨B,3,none⟩ aQ (HN.o)).trans (yg hbl b3);have x2:=(aV.frozen_far ⟨B,3,none⟩ aQ (HN.o)).trans ((bD _ _ ⟨B,3,none⟩ aQ).trans f3);have HX:=aA ((HW.o).take HG.o aV hown5 gI);clear hown5 aV)
    go_end0;exact⟨rfl,by rw[HP.o];exact HX.o⟩
   | true =>
    have pF:=aA (Jb eF.bE Xl.o hmore);have hnx:=bY hmore;go_wp2_with fail
    refine((HJ.o).go (gT s L dp hS) ((Uo.o).le Cap.take hl2 au)).aX fun w5 H5=>?_;have HF5:=aA ((Uo.o).take hnx);have hlt:=fZ hnx;clear HJ Uo Xl hmore hnx;generalize X.take dh=r3 at *;go_wp2_with fail
    refine((H5.o).go (ko s L dp hS) ((HF5.o).le Cap.bE hl2 au)).aX fun w6 H6=>?_;have YZ:=aA ((HF5.o).then Cap.bE);have hle:=eF.bE.le r3.2;clear H5 HF5;generalize X.bE r3.2=r4 at *;go_wp2_with fail
    refine((H6.o).is hS [44]).aX fun w7 H7=>?_;have rO:=(H7.o).at
    clear H6;rw[aK,aK] at H7 YZ;go_wp2_with fail
    refine⟨⟨acc++(r3.1++r4.1),r4.2,rfl,YZ,H7,?_⟩,by rw[hat,rO];omega⟩;have:=pF.o;rw[aK acc] at this;exact this
theorem DW(s:ByteArray)(L:List Tk)(dp:Nat)(hS:iU s L)(E:X.R)(hE:nM 97 E (fun _=>True) s L dp)(hC:Cap E 1)(uT:eF E)(kd:Nat)(x:ah):qK 139 (fun r=>#[r,ak kd,.string (ba x)]) (X.node kd (X.andThen X.take (X.dz E x))) s L dp:=by
 intro rb tv a w h;have hl2:=hS.len;have FJ:=aA (h.new kd);have kA:On rb w (w.alloc (gH kd 0 [] (.slice none 0 0) 0 0 0 0 false)):=On.aN rb ((aB _ w).alloc (ax _) _);have sH:=aA (qG s L a 1);have HFin:Hid (∀(zC:List Part) (ts':List X.Tok) (w4:aG),X.andThen X.take (X.dz E x) (aR s L a)=(zC,ts')→kV (w.alloc (gH kd 0 [] (.slice none 0 0) 0 0 0 0 false)) rb s L tv dp w.heap.size w.heap.size kd (.slice none 0 0) zC ts' w4→(X.node kd (X.andThen X.take (X.dz E x)) (aR s L a)).1=[.br kd zC]∧ql w rb s L tv dp (.br kd zC) (X.node kd (X.andThen X.take (X.dz E x)) (aR s L a)).2 w.heap.size w4):=fun zC ts' w4 e hd=>⟨by unfold X.node;rw[e],by unfold X.node;rw[e];exact hd.closed kA (fun g hg=>by cases hg)⟩
 clear h kA;go_enter func139,ntmps139;go_wp2_with fail
 refine((FJ.o).go (gT s L dp hS) ((sH.o).le Cap.take hl2 au)).aX fun w1 H1=>?_;have Px:=aA ((sH.o).then Cap.take);rw[bM] at H1 Px;generalize hr1:X.take (aR s L a)=r1 at *;have HR1:=aA hr1;clear hr1 FJ sH;go_wp2_with fail
 refine((H1.o).is hS x).aX fun w2 H2=>?_;clear H1;cases hsh:dJ x r1.2 with
 | true =>
  go_wp2_with fail
  refine((H2.o).want hS x ((Px.o).le (Cap.want x) hl2 au)).aX fun w4 H4=>?_;have HE:Hid (X.andThen X.take (X.dz E x) (aR s L a)=(r1.1++(X.want x r1.2).1,(X.want x r1.2).2)):=by
   show _=_;unfold X.andThen;rw[HR1.o,wS hsh]
  clear Px HR1 H2 hsh;go_wp2_with fail
  go_ret;exact⟨_,_,rfl,(HFin.o _ _ w4 HE.o H4.o).1,(HFin.o _ _ w4 HE.o H4.o).2⟩
 | false =>
  have Jd:=aA (fun acc dh=>wR (O:=E) (x:=x) (yh:=r1.2) (acc:=acc) (dh:=dh) hsh);clear hsh;go_wp2_with fail
  refine((H2.o).go hE ((Px.o).le hC hl2 au)).aX fun w3 H3=>?_;have yT:=aA ((Px.o).then hC);have wX:Hid (X.andThen E (X.jC E) r1.2=((E r1.2).1++(X.jC E (E r1.2).2).1,(X.jC E (E r1.2).2).2)):=(rfl:_=_);clear H2 Px;generalize E r1.2=r2 at *;go_wp2_with fail
  refine((H3.o).is hS [44]).aX fun w3' Xc=>?_;clear H3;go_wp2_with fail
  go_loopw [9] (fun v wr=>∃(acc:List Part) (dh:List X.Tok),v=.bool (dJ [44] dh)∧Hid (DV L (r1.1++acc) dh 2)∧Hid (kV (w.alloc (gH kd 0 [] (.slice none 0 0) 0 0 0 0 false)) rb s L tv dp w.heap.size w.heap.size kd (.slice none 0 0) (r1.1++acc) dh wr)∧Hid (X.andThen E (X.jC E) r1.2=(acc++(X.jC E dh).1,(X.jC E dh).2))) (fun _ wr=>L.length - JJ rb wr)
  case atStart=>exact⟨r2.1,r2.2,rfl,(yT.o).mono au,Xc,wX⟩
  case round =>
   obtain⟨acc,dh,rfl,Uo,HJ,Xl⟩:=hrel;clear yT Xc wX;have hat:=(HJ.o).at
   cases hmore:dJ [44] dh with
   | false =>
    have pF:=aA (Jc Xl.o hmore);go_wp2_with fail
    refine((HJ.o).want hS x ((Uo.o).le (Cap.want x) hl2 au)).aX fun w4 H4=>?_;have HE:Hid (X.andThen X.take (X.dz E x) (aR s L a)=(r1.1++acc++(X.want x dh).1,(X.want x dh).2)):=by
     show _=_;unfold X.andThen;rw[HR1.o,(Jd.o) _ _ pF.o,aK]
    clear Uo HJ Xl pF HR1 Jd hat
    go_wp2_with fail
    go_ret;exact⟨_,_,rfl,(HFin.o _ _ w4 HE.o H4.o).1,(HFin.o _ _ w4 HE.o H4.o).2⟩
   | true =>
    have pF:=aA (Jb uT Xl.o hmore);have hnx:=bY hmore;go_wp2_with fail
    refine((HJ.o).go (gT s L dp hS) ((Uo.o).le Cap.take hl2 au)).aX fun w5 H5=>?_;have HF5:=aA ((Uo.o).take hnx);have hlt:=fZ hnx;clear HJ Uo Xl hmore hnx;generalize X.take dh=r3 at *;go_wp2_with fail
    refine((H5.o).go hE ((HF5.o).le hC hl2 au)).aX fun w6 H6=>?_;have YZ:=aA ((HF5.o).then hC);have hle:=uT.le r3.2;clear H5 HF5;generalize E r3.2=r4 at *;go_wp2_with fail
    refine((H6.o).is hS [44]).aX fun w7 H7=>?_;have rO:=(H7.o).at
    clear H6;rw[aK,aK] at H7 YZ;go_wp2_with fail
    refine⟨⟨acc++(r3.1++r4.1),r4.2,rfl,YZ,H7,?_⟩,by rw[hat,rO];omega⟩;have:=pF.o;rw[aK acc] at this;exact this
theorem vG.deep{w:aG}{rb:Nat}{s:ByteArray}{L:List Tk}{tv:Value}{a dp lo B k:Nat}{rv:Value}{vs:List Value}{ps:List Part}{Lo Hi:Nat→Nat}(h:vG w rb s L tv a dp lo B k rv vs ps Lo Hi)(y:Nat):vG (w.setCell (aC rb 3) (ak (y:Int))) rb s L tv a y lo B k rv vs ps Lo Hi:=by
 obtain⟨c,hr⟩:=h.iW.raw;have hon:On rb w (w.setCell (aC rb 3) (ak (y:Int))):=On.set (Kp.refl _ w) 3 _;exact h.moved hon (h.iW.moved hon (hr.EZ (y:Int)) h.iW.le)
theorem Py(s:ByteArray)(L:List Tk)(dp:Nat)(E:X.R)(hE:nM 66 E (fun _=>True) s L (dp+1))(hd:dp≤100):nM 97 E (fun _=>True) s L dp:=by
 intro rb tv a lo B k rv vs ps Lo Hi w h _ hl;obtain⟨c,hr⟩:=h.iW.raw;obtain⟨⟨c0,c1,c2,c3⟩,⟨f2,f3,f4⟩,-⟩:=hr.facts;have HC:=aA (hE rb tv a lo B k rv vs ps Lo Hi _ (h.deep (dp+1)) trivial hl);have hon:On rb w (w.setCell (aC rb 3) (ak ((dp+1:Nat):Int))):=On.set (Kp.refl _ w) 3 _;have yZ:=aA hon;rw[j_] at HC yZ;clear h hr hon;go_enter func97,ntmps97;go_wp2_with fail
 refine(HC.o).aX fun w1 H1=>?_;obtain⟨a1,nS,vs1,Lo1,Hi1,g1,g2,g3,g4⟩:=H1.o;have HW1:=aA g1;have HG2:=aA g2;have MP:=aA g3;have HG4:=aA g4;clear g1 g2 g3 g4 H1 c0 c1 c2 c3 f2 f3 f4 HC;obtain⟨c,hr⟩:=(HW1.o).iW.raw;obtain⟨⟨c0,c1,c2,c3⟩,⟨f2,f3,f4⟩,-⟩:=hr.facts;clear hr;go_wp2_with fail
 go_end0;refine⟨rfl,a1,nS,vs1,Lo1,Hi1,(HW1.o).deep dp,HG2.o,fun g hg=>?_,?_⟩
 ·rcases(MP.o) g hg with e|e
  ·exact .inl e
  ·exact .inr (by have:=(yZ.o).size;omega)
 ·have bT4:On rb w1 (w1.setCell (aC rb 3) (ak (dp:Int))):=On.set (Kp.refl _ w1) 3 _
  exact Kp.trans (Kp.trans (Kp.mono yZ.o (fun i _ e=>.inl e)) HG4.o (fun i _ e=>e)) bT4 (fun i _ e=>.inl e)
end
section
variable{w w1:aG}{rb a dp:Nat}{s:ByteArray}{L:List Tk}{tv:Value}
def P8(w:aG)(rb:Nat)(s:ByteArray)(L:List Tk)(tv:Value)(a dp:Nat)(w1:aG):Prop:=xZ w1 rb s L tv a dp∧Below w.heap.size w w1
theorem P8.is(h:P8 w rb s L tv a dp w1)(hS:iU s L)(x:ah) :
  bB 61 #[aH rb,.string (ba x)] w1 (cK (.bool (dJ x (aR s L a))) fun w2=>Hid (P8 w rb s L tv a dp w2)):=
 (zF rb s L tv a dp x w1 hS h.1).mono (fun _ _ h2=>⟨h2.1,h.1.below h2.2,h.2.trans (h2.2.mono h.2.size)⟩)
theorem P8.kind(h:P8 w rb s L tv a dp w1)(hS:iU s L) :
  bB 30 #[aH rb] w1 (cK (ak (dm (aR s L a))) fun w2=>Hid (P8 w rb s L tv a dp w2)):=
 (yc rb s L tv a dp w1 hS h.1).mono (fun _ _ h2=>⟨h2.1,h.1.below h2.2,h.2.trans (h2.2.mono h.2.size)⟩)
theorem ql.since{w2:aG}{N:Nat}{p:Part}{dh:List X.Tok}(h:ql w1 rb s L tv dp p dh N w2)(hk:On rb w w1):ql w rb s L tv dp p dh N w2:=by
 obtain⟨a',g1,g2,g3,g4⟩:=h;exact⟨a',g1,g2,g3.wide hk.size (ax _),hk.to g4⟩
theorem Uq{x:ah}{ts:List X.Tok}(h:dJ x ts=true):dm ts=4∨dm ts=7:=by
 unfold dJ at h;unfold dm;cases hn:pQ ts with
 | none=>rw[hn] at h;cases h
 | some t =>
  rw[hn] at h;simp only[Bool.and_eq_true,iP,beq_iff_eq] at h ⊢;exact h.1
theorem P8.simple(h:P8 w rb s L tv a dp w1)(hS:iU s L)(kd:Nat) :
  bB 62 #[aH rb,aH w1.heap.size] (w1.alloc (gH kd 0 [] (.slice none 0 0) 0 0 0 0 false)) fun en w2=>en=.returned (.tuple #[])∧Hid (ql w rb s L tv dp (.br kd (X.take (aR s L a)).1) (X.take (aR s L a)).2 w1.heap.size w2):=by
 refine((h.1.new kd).go (gT s L dp hS) ((qG s L a 0).le Cap.take hS.len au)).aX fun w2 H=>?_;have H:=H.o;rw[bM] at H;exact⟨rfl,(H.closed (On.aN rb ((aB _ w1).alloc (ax _) _)) (fun g hg=>by cases hg)).since (On.aN rb h.2)⟩
theorem nb(n k:Nat):((n:Int)==((k:Nat):Int))=(n==k):=by rw[gq];simp;omega
theorem Ur(s:ByteArray)(L:List Tk)(dp:Nat)(hS:iU s L)(E:X.R)(hE:nM 97 E (fun _=>True) s L dp)(hC:Cap E 1)(uT:eF E):qK 138 (fun r=>#[r]) (X.part E) s L dp:=by
 intro rb tv a w h;have hl2:=hS.len;have JU:Hid (P8 w rb s L tv a dp w):=⟨h,aB _ _⟩;clear h;go_enter func138,ntmps138;go_wp2_with fail
 refine((JU.o).kind hS).aX fun w1 HR1=>?_;clear JU;go_wp2_with fail
 refine((HR1.o).is hS [116,114,117,101]).aX fun w2 HR2=>?_;clear HR1;go_wp2_with fail
 refine((HR2.o).is hS [102,97,108,115,101]).aX fun w3 HR3=>?_;clear HR2;go_wp2_with fail
 refine((HR3.o).is hS [63]).aX fun w4 HR4=>?_;clear HR3;go_wp2_with fail
 refine((HR4.o).is hS [40]).aX fun w5 LY=>?_;clear HR4;go_wp2_with fail
 refine((LY.o).is hS [91]).aX fun w6 BL=>?_;clear LY;have Xw:=aA (show ∀ x,dJ x (aR s L a)=true→dm (aR s L a)=4∨dm (aR s L a)=7 from fun x hx=>Uq hx);cases k5:((dm (aR s L a):Int)==5) with
 | true =>
  have e5:=(nb _ 5).symm.trans k5;have HEq:Hid (X.part E (aR s L a)=([.br 15 (X.take (aR s L a)).1],(X.take (aR s L a)).2)):=by
   show _=_;unfold X.part X.node;simp only[e5,iK]
  go_wp2_with fail
  refine((BL.o).simple hS 15).aX fun w7 H7=>?_;go_wp2_with fail
  go_ret;exact⟨_,_,rfl,(by show(X.part E (aR s L a)).1=_;rw[HEq.o]),(by rw[HEq.o];exact H7)⟩
 | false =>
  have e5:=(nb _ 5).symm.trans k5;cases k6:((dm (aR s L a):Int)==6) with
  | true =>
   have e6:=(nb _ 6).symm.trans k6;have HEq:Hid (X.part E (aR s L a)=([.br 16 (X.take (aR s L a)).1],(X.take (aR s L a)).2)):=by
    show _=_;unfold X.part X.node;simp only[e5,e6,iK,dw,gY]
   go_wp2_with fail
   refine((BL.o).simple hS 16).aX fun w7 H7=>?_;go_wp2_with fail
   go_ret;exact⟨_,_,rfl,(by show(X.part E (aR s L a)).1=_;rw[HEq.o]),(by rw[HEq.o];exact H7)⟩
  | false =>
   have e6:=(nb _ 6).symm.trans k6;cases k3:((dm (aR s L a):Int)==3) with
   | true =>
    have e3:=(nb _ 3).symm.trans k3;have n3:dm (aR s L a)=3:=by simpa using e3
    have y0:dJ [116,114,117,101] (aR s L a)=false:=by
     cases hx:dJ [116,114,117,101] (aR s L a) with
     | false=>rfl
     | true=>rcases(Xw.o) _ hx with e|e<;>omega
    have y1:dJ [102,97,108,115,101] (aR s L a)=false:=by
     cases hx:dJ [102,97,108,115,101] (aR s L a) with
     | false=>rfl
     | true=>rcases(Xw.o) _ hx with e|e<;>omega
    have HY0:=aA y0;have HY1:=aA y1;clear y0 y1 n3;have HEq:Hid (X.part E (aR s L a)=([.br 18 (X.take (aR s L a)).1],(X.take (aR s L a)).2)):=by
     show _=_;unfold X.part X.node;simp only[e5,e6,HY0.o,HY1.o,e3,Bool.or_self,iK,dw,gY]
    go_wp2_with fail
    refine((BL.o).simple hS 18).aX fun w7 H7=>?_;go_wp2_with fail
    go_ret;exact⟨_,_,rfl,(by show(X.part E (aR s L a)).1=_;rw[HEq.o]),(by rw[HEq.o];exact H7)⟩
   | false =>
    have e3:=(nb _ 3).symm.trans k3;cases hy:dJ [116,114,117,101] (aR s L a) with
    | true =>
     have HEq:Hid (X.part E (aR s L a)=([.br 17 (X.take (aR s L a)).1],(X.take (aR s L a)).2)):=by
      show _=_;unfold X.part X.node;simp only[e5,e6,hy,Bool.true_or,iK,dw,gY]
     go_wp2_with fail
     refine((BL.o).simple hS 17).aX fun w7 H7=>?_;go_wp2_with fail
     go_ret;exact⟨_,_,rfl,(by show(X.part E (aR s L a)).1=_;rw[HEq.o]),(by rw[HEq.o];exact H7)⟩
    | false =>
     cases hn:dJ [102,97,108,115,101] (aR s L a) with
     | true =>
      have HEq:Hid (X.part E (aR s L a)=([.br 17 (X.take (aR s L a)).1],(X.take (aR s L a)).2)):=by
       show _=_;unfold X.part X.node;simp only[e5,e6,hy,hn,Bool.or_true,iK,dw,gY]
      go_wp2_with fail
      refine((BL.o).simple hS 17).aX fun w7 H7=>?_;go_wp2_with fail
      go_ret;exact⟨_,_,rfl,(by show(X.part E (aR s L a)).1=_;rw[HEq.o]),(by rw[HEq.o];exact H7)⟩
     | false =>
      cases hq:dJ [63] (aR s L a) with
      | true =>
       have HEq:Hid (X.part E (aR s L a)=([.br 19 (X.take (aR s L a)).1],(X.take (aR s L a)).2)):=by
        show _=_;unfold X.part X.node;simp only[e5,e6,hy,hn,hq,e3,Bool.or_self,iK,dw,gY]
       go_wp2_with fail
       refine((BL.o).simple hS 19).aX fun w7 H7=>?_;go_wp2_with fail
       go_ret;exact⟨_,_,rfl,(by show(X.part E (aR s L a)).1=_;rw[HEq.o]),(by rw[HEq.o];exact H7)⟩
      | false =>
       cases hg:dJ [40] (aR s L a) with
       | true =>
        have HEq:Hid (X.part E (aR s L a)=X.node 14 (X.andThen X.take (X.andThen E (X.want [41]))) (aR s L a)):=by
         show _=_;unfold X.part;simp only[e5,e6,hy,hn,hq,hg,e3,Bool.or_self,iK,dw,gY]
        have Zh:=aA (On.aN rb (BL.o).2);have FJ:=aA ((BL.o).1.new 14);have sH:=aA (qG s L a 1);go_wp2_with fail
        refine((FJ.o).go (gT s L dp hS) ((sH.o).le Cap.take hl2 au)).aX fun w7 H7=>?_;have HF7:=aA ((sH.o).then Cap.take);go_wp2_with fail
        refine((H7.o).go hE ((HF7.o).le hC hl2 au)).aX fun w8 H8=>?_;have HF8:=aA ((HF7.o).then hC);go_wp2_with fail
        refine((H8.o).want hS [41] ((HF8.o).le (Cap.want [41]) hl2 au)).aX fun w9 H9=>?_;have HG:Hid (ql w rb s L tv dp (.br 14 (X.andThen X.take (X.andThen E (X.want [41])) (aR s L a)).1) (X.andThen X.take (X.andThen E (X.want [41])) (aR s L a)).2 w6.heap.size w9):=by
         have:=H9.o;rw[bM,aK] at this;exact(this.closed (On.aN rb ((aB _ w6).alloc (ax _) _)) (fun g hg=>by cases hg)).since Zh.o
        clear H7 H8 H9 HF7 HF8;go_wp2_with fail
        go_ret;exact⟨_,_,rfl,(by show(X.part E (aR s L a)).1=_;rw[HEq.o];rfl),(by rw[HEq.o];exact HG)⟩
       | false =>
        cases hll:dJ [91] (aR s L a) with
        | true =>
         have HEq:Hid (X.part E (aR s L a)=X.node 13 (X.andThen X.take (X.dz E [93])) (aR s L a)):=by
          show _=_;unfold X.part;simp only[e5,e6,hy,hn,hq,hg,hll,e3,Bool.or_self,iK,dw,gY]
         have Zh:=aA (On.aN rb (BL.o).2);have Us:=aA (DW s L dp hS E hE hC uT 13 [93] rb tv a w6 (BL.o).1);go_wp2_with fail
         refine(Us.o).mono ?_;rintro e w7 ⟨N,p,rfl,HP7,HG7⟩;go_wp2_with fail
         go_ret;exact⟨N,p,rfl,(by show(X.part E (aR s L a)).1=_;rw[HEq.o];exact HP7.o),(by rw[HEq.o];exact(HG7.o).since Zh.o)⟩
        | false =>
         have HEq:Hid (X.part E (aR s L a)=([.miss kU],(aR s L a))):=by
          show _=_;unfold X.part;simp only[e5,e6,hy,hn,hq,hg,hll,e3,Bool.or_self,dw,gY]
         have Zh:=aA (On.aN rb (BL.o).2);have kA:Below w6.heap.size w6 (w6.alloc (gH 1 0 kU (.slice none 0 0) 0 0 0 0 false)):=(aB _ w6).alloc (ax _) _;have HG:Hid (ql w rb s L tv dp (.miss kU) (aR s L a) w6.heap.size (w6.alloc (gH 1 0 kU (.slice none 0 0) 0 0 0 0 false))) :=
          ql.since ⟨a,(BL.o).1.below kA,rfl,(nu.miss (aI w6 _)).wide (ax _) aT,On.aN rb kA⟩ Zh.o
         go_wp2_with fail
         go_ret;exact⟨_,_,rfl,(by show(X.part E (aR s L a)).1=_;rw[HEq.o]),(by rw[HEq.o];exact HG)⟩
end
section
variable{w:aG}{k N1 N2:Nat}{p1 p2:Part}
theorem Mk.one{l u N:Nat}{p:Part}(h:nu w l u (aH N) (X.raw p))(hu:u≤w.heap.size) :
  Mk ((w.alloc (.cells #[aH N] 51)).alloc (gH k 0 [] (.slice (b_ w.heap.size) 1 1) 0 0 0 0 false)) l (w.heap.size+1) k (.slice (b_ w.heap.size) 1 1) [aH N] [p] (fun _=>l) (fun _=>u):=by
 have YI:=h.lt;have kB:Below w.heap.size w ((w.alloc (.cells #[aH N] 51)).alloc (gH k 0 [] (.slice (b_ w.heap.size) 1 1) 0 0 0 0 false)):=((aB _ w).alloc (ax _) _).alloc aT _;refine⟨at_new _ _ (fB w _),⟨rfl,.inr ⟨w.heap.size,1,#[aH N],rfl,au,(eG _ _ aT).trans (aI w _),ax _,by unfold maxLen;omega,rfl,rfl⟩⟩,⟨rfl,fun i hi=>?_,fun i q hq=>?_⟩,au,by simp[Value.ownBlock]⟩
 ·simp only[bF] at hi
  refine⟨ax _,au,aQ,au,fun g hg=>?_,fun j h1 h2=>?_⟩
  ·simp only[Value.ownBlock,dP] at hg
   omega
  ·simp only[bF] at h2;omega
 ·have hi:i=0:=by
   rcases gZ i with g|g
   ·exact g
   ·rw[bf aQ] at hq;cases hq
  subst hi;obtain rfl:p=q:=by simpa using hq
  exact⟨_,rfl,h.kept kB⟩
theorem Mk.two{l1 u1 l2 u2:Nat}(h1:nu w l1 u1 (aH N1) (X.raw p1))(h2:nu w l2 u2 (aH N2) (X.raw p2))(hu:u1≤l2)(hu2:u2≤w.heap.size) :
  Mk ((w.alloc (.cells #[aH N1,aH N2] 51)).alloc (gH k 0 [] (.slice (b_ w.heap.size) 2 2) 0 0 0 0 false)) l1 (w.heap.size+1) k (.slice (b_ w.heap.size) 2 2) [aH N1,aH N2] [p1,p2] (fun i=>if i=0 then l1 else l2) (fun i=>if i=0 then u1 else u2):=by
 have cV6:=h1.lt;have cV7:=h2.lt;have kB:Below w.heap.size w ((w.alloc (.cells #[aH N1,aH N2] 51)).alloc (gH k 0 [] (.slice (b_ w.heap.size) 2 2) 0 0 0 0 false)):=((aB _ w).alloc (ax _) _).alloc aT _;refine⟨at_new _ _ (fB w _),⟨rfl,.inr ⟨w.heap.size,2,#[aH N1,aH N2],rfl,au,(eG _ _ aT).trans (aI w _),ax _,by unfold maxLen;omega,rfl,rfl⟩⟩,⟨rfl,fun i hi=>?_,fun i q hq=>?_⟩,au,by simp[Value.ownBlock]⟩
 ·simp only[aY,List.length_nil] at hi
  have hc:i=0∨i=1:=au
  rcases hc with rfl|rfl
  ·refine⟨aT,aQ,aQ,aQ,fun g hg=>?_,fun j e1 e2=>?_⟩
   ·simp only[Value.ownBlock,dP] at hg
    simp;omega
   ·simp only[aY,List.length_nil] at e2
    have:j=1:=au
    subst this;simp;omega
  ·refine⟨aQ,aQ,aQ,aQ,fun g hg=>?_,fun j e1 e2=>?_⟩
   ·simp only[Value.ownBlock,dP] at hg
    simp;omega
   ·simp only[aY,List.length_nil] at e2;omega
 ·have hc:i=0∨i=1:=by
   have:i<2:=by
    rcases cu i 2 with g|g
    ·exact g
    ·rw[bf aQ] at hq;cases hq
   omega
  rcases hc with rfl|rfl
  ·obtain rfl:p1=q:=by simpa using hq
   exact⟨_,rfl,h1.kept kB⟩
  ·obtain rfl:p2=q:=by simpa using hq
   exact⟨_,rfl,h2.kept kB⟩
theorem ql.pair{w1 w5:aG}{rb:Nat}{s:ByteArray}{L:List Tk}{tv:Value}{dp:Nat}{dh M4:List X.Tok}(hr:rb<w.heap.size)(h1:ql w rb s L tv dp p1 dh N1 w1)(h2:ql w1 rb s L tv dp p2 M4 N2 w5) :
  ql w rb s L tv dp (.br k [p1,p2]) M4 (w5.heap.size+1) ((w5.alloc (.cells #[aH N1,aH N2] 51)).alloc (gH k 0 [] (.slice (b_ w5.heap.size) 2 2) 0 0 0 0 false)):=by
 obtain⟨a1,g1,g2,g3,g4⟩:=h1;obtain⟨a2,k1,k2,k3,k4⟩:=h2;have kB:Below w5.heap.size w5 ((w5.alloc (.cells #[aH N1,aH N2] 51)).alloc (gH k 0 [] (.slice (b_ w5.heap.size) 2 2) 0 0 0 0 false)):=((aB _ w5).alloc (ax _) _).alloc aT _;have hm:=(Mk.two (k:=k) (g3.keep k4 (fun i e1 _ e=>au)) k3 (ax _) (ax _)).done;exact⟨a2,k1.below kB,k2,hm,(g4.to k4).to (On.aN rb kB)⟩
theorem Pz(s:ByteArray)(L:List Tk)(dp:Nat)(hS:iU s L)(E:X.R)(hE:nM 97 E (fun _=>True) s L dp)(hC:Cap E 1)(uT:eF E):qK 119 (fun r=>#[r]) (X.call E) s L dp:=by
 intro rb tv a w h;have hrl:=h.lt;have HO:=aA (Ur s L dp hS E hE hC uT rb tv a w h);clear h;go_enter func119,ntmps119;go_wp2_with fail
 refine(HO.o).mono ?_;rintro e w1 ⟨N,p,rfl,HP,HG⟩;have wX:Hid (X.call E (aR s L a)=uR E [p] (X.part E (aR s L a)).2):=by
  show _=_;unfold X.call uR;rw[HP.o]
 generalize hr1:(X.part E (aR s L a)).2=yh at *;clear HO HP hr1;go_wp2_with fail
 refine((HG.o).is hS [40]).aX fun w2 HG2=>?_;clear HG;go_wp2_with fail
 go_loopw [3,4] (fun v o wr=>∃(N:Nat) (p:Part) (dh:List X.Tok),v=aH N∧o=.bool (dJ [40] dh)∧Hid (ql w rb s L tv dp p dh N wr)∧Hid (X.call E (aR s L a)=uR E [p] dh)) (fun _ _ wr=>L.length - JJ rb wr)
 case atStart=>exact⟨N,p,yh,rfl,rfl,HG2,wX⟩
 case round =>
  clear HG2 wX;obtain⟨N,p,dh,rfl,rfl,HG,HEq⟩:=hrel;have hat:=(HG.o).at
  cases hmore:dJ [40] dh with
  | false =>
   have pF:=aA <| (HEq.o).trans (IQ hmore);go_wp2_with fail
   go_ret;exact⟨N,p,rfl,(by rw[pF.o];rfl),(by rw[pF.o];exact HG)⟩
  | true =>
   have pF:=aA ((HEq.o).trans (DL uT hmore));have hlt:=zD uT (bY hmore);have hargs:(X.node 12 (X.andThen X.take (X.dz E [41])))=X.args E:=rfl;obtain⟨a1,g1,g2,g3,g4⟩:=HG.o;have Us:=aA (DW s L dp hS E hE hC uT 12 [41] rb tv a1 wr g1);rw[g2,hargs] at Us;clear g1 g2 g3 g4 hmore HEq hargs;go_wp2_with fail
   refine(Us.o).mono ?_;rintro e w5 ⟨N2,p2,rfl,oU,vv⟩;rw[oU.o] at pF;clear Us oU;generalize (X.args E dh).2=M4 at *;have HG6:=aA (ql.pair (k:=11) hrl HG.o vv.o);clear HG vv;go_wp2_with fail
   refine((HG6.o).is hS [40]).aX fun w7 HG7=>?_;have rO:=(HG7.o).at
   clear HG6;go_wp2_with fail
   exact⟨⟨_,.br 11 [p,p2],M4,rfl,rfl,HG7,pF⟩,by rw[hat,rO];omega⟩
end
end Go.Proofs.YtoohcklcppnafaaGreatDoor
