/- The text that stands for one. -/
import Derived.Test.YtdkpkpgpphkljaaGreatDoorQa
import Derived.Test.YtdkpkpgpphkljaaGreatDoorUb
namespace Go.Proofs.YtdkpkpgpphkljaaGreatDoor
set_option maxRecDepth 100000
set_option maxHeartbeats 16000000
open Tryz
open Go.RowKit
open M
theorem Tz.below{B:Nat}{w w':World}(h:Tz w)(hb:Below B w w')(hB:8≤B):Tz w':=by
 unfold Tz at h ⊢;rw[hb.cell (p:=⟨7,15,none⟩) (by show 7<B;omega)];exact h
theorem Tz.lt{w:World}(h:Tz w):8≤w.heap.size:=bG w ⟨7,15,none⟩ h
theorem aN4{a a':ByteArray}(h:a=a'):Ending.returned (.string a)=.returned (.string a'):=by rw[h]
theorem MN(t:ByteArray)(w:World)(hT:kP w)(hZ:Tz w)(hs:t.size≤1073741824) :
  Calls prog 42 #[.string t] w fun e w'=>e=.returned (.string (ba (34::qt (bs t)++[34])))∧Below w.heap.size w w':=by
 have h7:=hZ.lt;go_enter func42,ntmps42;go_wp2_with fail
 refine(Tryz.Builder_WriteByte_k w.heap.size w.heap.size [] (34) _ (x_ w) (by simp) (by simp)).mono ?_;rintro e w1 ⟨rfl,b1,k1,o1⟩;have B1:=au (((ay _ w).alloc (aj _) (.cells #[.pointer none,.slice none 0 0] 98)).trans k1);have z1:=(B1.o).size;have zb:w.heap.size<w1.heap.size:=by have:=k1.size;simp at this;omega
 have hT1:=hT.below B1.o;have HB1:=au b1;clear b1 k1 o1;go_wp2_with fail
 refine(oG t 0 _ hT1 (aX _) (by omega)).mono ?_;rintro e w2 ⟨rfl,r2,k2⟩;have hI0:Gn w.heap.size w.heap.size w1.heap.size t 0 [34] w w2:=by
  refine⟨r2,.inr ?_,by omega,z1,by omega,aj _,(B1.o).trans (k2.mono z1)⟩;exact rD (HB1.o) (Kp.aI k2 (fun _=>False)) id (fun _ _ _ h=>h.elim)
 have HI0:=au hI0;clear hI0 r2 k2;generalize w1.heap.size=rb at *;go_wp2_with fail
 go_loopw [5] (fun _ wr=>∃(q:Nat) (out:ah),Hid (Gn w.heap.size w.heap.size rb t q out w wr∧34::qt (bs t)=out++qt ((bs t).drop q))) (fun _ wr=>t.size - Vn rb wr)
 case atStart=>exact⟨0,[34],⟨HI0.o,rfl⟩⟩
 case round =>
  obtain⟨q,out,HI⟩:=hrel;have hq:=(HI.o).1.iF.le;have hra:=(HI.o).1.iF.at_;have TQ:=au hra;have hun:out.length≤6*t.size+1:=by
   have h1:=congrArg List.length (HI.o).2;rw[ak,aW] at h1;have h3:=Ql (bs t);rw[eZ] at h3;omega
  obtain⟨⟨c0,c1,c2,c3⟩,-⟩:=(HI.o).1.iF.raw.facts;clear hra;have HI1:=au (HI.o).1;by_cases hlt:q<t.size
  case neg =>
   have hqe:q=t.size:=by omega
   have HQ:Hid ((bs t).drop q=[]):=by show _=_;rw[hqe,← eZ];simp
   rw[HQ.o,mU] at c2;clear hqe;go_wp2_with fail
   refine(Tryz.Builder_WriteByte_k w.heap.size w.heap.size (Lib.byteCells out) 34 _ (HI1.o).Gp (by rw[Lib.byteCells_length];omega) (HI1.o).size).mono ?_;rintro e w3 ⟨rfl,b3,k3,o3⟩;have HI3:=au ((HI1.o).wrote (new:=[34]) b3 k3 o3);clear b3 k3 o3;go_wp2_with fail
   refine(Tryz.Builder_String_any_k w.heap.size w.heap.size (out++[34]) _ (HI3.o).Gp (HI3.o).size).mono ?_;rintro e w4 ⟨rfl,-,k4,-⟩;have B4:=au ((HI3.o).below.trans k4);clear k4;go_wp2_with fail
   go_ret;refine⟨aN4 ?_,B4.o⟩;have e1:=(HI.o).2;rw[HQ.o] at e1;show(⟨(out++[34]).toArray⟩:ByteArray)=_;rw[show(34::(qt (bs t)++[34]):ah)=out++[34] by rw[← dx,e1];simp[qt]];rfl
  have hne:(cc ((bs t).drop q) !=-1)=true:=by
   have:=jg hlt;simp only[bne_iff_ne,ne_eq,rP];exact this
  have hpos:0≤cc ((bs t).drop q):=by rw[oo (jg hlt)];omega
  have hz1:=iZ (jg hlt);have hz2:=ja (s:=t) (p:=q) hq;have hz4:=zk ((bs t).drop q);by_cases g10:cc ((bs t).drop q)=10
  ·have hq1:=Ah (c:=10) (by omega) g10
   rw[dB,show qb (UInt8.ofNat 10)=[92,110] by decide] at hq1;have HQ:=au hq1.1;have Z1:=au hq1.2;rw[g10] at c2;clear hq1;go_wp2_with fail
   refine(Tryz.Builder_WriteString_k w.heap.size w.heap.size (Lib.byteCells out) ⟨#[92,110]⟩ _ (HI1.o).Gp (by rw[Lib.byteCells_length];show out.length+2≤_;omega) (HI1.o).size).mono ?_;rintro e w3 ⟨rfl,b3,k3,o3⟩;rw[Lib.strCells_eq] at b3;have HI3:=au ((HI1.o).wrote b3 k3 o3);clear b3 k3 o3;go_wp2_with fail
   refine(dJ rb t q _ (HI3.o).iF).mono ?_;rintro e w4 ⟨rfl,r4,k4⟩;have HI4:=au ((HI3.o).moved r4 k4);clear r4 k4;go_wp2_with fail
   go_roundw
   case rel =>
    refine⟨_,_,HI4.o,?_⟩;rw[(HI.o).2,HQ.o,aA];rw[Z1.o]
   case measure=>rw[(HI4.o).iF.at_,TQ.o];omega
  by_cases g9:cc ((bs t).drop q)=9
  ·have hq1:=Ah (c:=9) (by omega) g9
   rw[dB,show qb (UInt8.ofNat 9)=[92,116] by decide] at hq1;have HQ:=au hq1.1;have Z1:=au hq1.2;rw[g9] at c2;clear hq1;go_wp2_with fail
   refine(Tryz.Builder_WriteString_k w.heap.size w.heap.size (Lib.byteCells out) ⟨#[92,116]⟩ _ (HI1.o).Gp (by rw[Lib.byteCells_length];show out.length+2≤_;omega) (HI1.o).size).mono ?_;rintro e w3 ⟨rfl,b3,k3,o3⟩;rw[Lib.strCells_eq] at b3;have HI3:=au ((HI1.o).wrote b3 k3 o3);clear b3 k3 o3;go_wp2_with fail
   refine(dJ rb t q _ (HI3.o).iF).mono ?_;rintro e w4 ⟨rfl,r4,k4⟩;have HI4:=au ((HI3.o).moved r4 k4);clear r4 k4;go_wp2_with fail
   go_roundw
   case rel =>
    refine⟨_,_,HI4.o,?_⟩;rw[(HI.o).2,HQ.o,aA];rw[Z1.o]
   case measure=>rw[(HI4.o).iF.at_,TQ.o];omega
  by_cases Kk:cc ((bs t).drop q)=34
  ·have hq1:=Ah (c:=34) (by omega) Kk
   rw[dB,show qb (UInt8.ofNat 34)=[92,34] by decide] at hq1;have HQ:=au hq1.1;have Z1:=au hq1.2;rw[Kk] at c2;have eb:(t.extract q (q+sz ((bs t).drop q))).data.toList=[34]:=by
    rw[show(t.extract q (q+sz ((bs t).drop q))).data.toList=bs (t.extract q (q+sz ((bs t).drop q))) from rfl,qf,nS,je,hq1.2];have h5:=((Oy (t:=(bs t).drop q) (c:=34) (by omega)).1 Kk);cases hd:(bs t).drop q with
    | nil=>exact absurd hd h5.1
    | cons x u =>
     rw[hd] at h5;have hx:x=34:=by rw[← UInt8.toNat_inj];exact h5.2
     rw[hx];rfl
   have EB:=au eb;have JA:(t.extract q (q+sz ((bs t).drop q))).size=sz ((bs t).drop q):=by rw[← eZ,qf,bM,bL,eZ];omega
   clear hq1 eb;go_wp2_with fail
   refine(Tryz.Builder_WriteByte_k w.heap.size w.heap.size (Lib.byteCells out) 92 _ (HI1.o).Gp (by rw[Lib.byteCells_length];omega) (HI1.o).size).mono ?_;rintro e w3 ⟨rfl,b3,k3,o3⟩;have HI3:=au ((HI1.o).wrote (new:=[92]) b3 k3 o3);clear b3 k3 o3;go_wp2_with fail
   refine(uf rb t q _ (HI3.o).iF).mono ?_;rintro e w4 ⟨rfl,m4,rfl⟩;have HI4:=au ((HI3.o).drewN m4);go_wp2_with fail
   refine(Tryz.Builder_WriteString_k w.heap.size w.heap.size (Lib.byteCells (out++[92])) (t.extract q (q+sz ((bs t).drop q))) _ (HI4.o).Gp (by rw[Lib.byteCells_length,JA,ak];simp;omega) (HI4.o).size).mono ?_;rintro e w5 ⟨rfl,b5,k5,o5⟩;rw[Lib.strCells_eq,EB.o] at b5;have rZ:=au ((HI4.o).wrote b5 k5 o5);clear b5 k5 o5;go_wp2_with fail
   refine(dJ rb t q _ (rZ.o).iF).mono ?_;rintro e w6 ⟨rfl,r6,k6⟩;have Ie:=au ((rZ.o).moved r6 k6);clear r6 k6;go_wp2_with fail
   go_roundw
   case rel =>
    refine⟨_,_,Ie.o,?_⟩;rw[(HI.o).2,HQ.o,aA];rw[Z1.o];simp
   case measure=>rw[(Ie.o).iF.at_,TQ.o];omega
  by_cases LP:cc ((bs t).drop q)=92
  ·have hq1:=Ah (c:=92) (by omega) LP
   rw[dB,show qb (UInt8.ofNat 92)=[92,92] by decide] at hq1;have HQ:=au hq1.1;have Z1:=au hq1.2;rw[LP] at c2;have eb:(t.extract q (q+sz ((bs t).drop q))).data.toList=[92]:=by
    rw[show(t.extract q (q+sz ((bs t).drop q))).data.toList=bs (t.extract q (q+sz ((bs t).drop q))) from rfl,qf,nS,je,hq1.2];have h5:=((Oy (t:=(bs t).drop q) (c:=92) (by omega)).1 LP);cases hd:(bs t).drop q with
    | nil=>exact absurd hd h5.1
    | cons x u =>
     rw[hd] at h5;have hx:x=92:=by rw[← UInt8.toNat_inj];exact h5.2
     rw[hx];rfl
   have EB:=au eb;have JA:(t.extract q (q+sz ((bs t).drop q))).size=sz ((bs t).drop q):=by rw[← eZ,qf,bM,bL,eZ];omega
   clear hq1 eb;go_wp2_with fail
   refine(Tryz.Builder_WriteByte_k w.heap.size w.heap.size (Lib.byteCells out) 92 _ (HI1.o).Gp (by rw[Lib.byteCells_length];omega) (HI1.o).size).mono ?_;rintro e w3 ⟨rfl,b3,k3,o3⟩;have HI3:=au ((HI1.o).wrote (new:=[92]) b3 k3 o3);clear b3 k3 o3;go_wp2_with fail
   refine(uf rb t q _ (HI3.o).iF).mono ?_;rintro e w4 ⟨rfl,m4,rfl⟩;have HI4:=au ((HI3.o).drewN m4);go_wp2_with fail
   refine(Tryz.Builder_WriteString_k w.heap.size w.heap.size (Lib.byteCells (out++[92])) (t.extract q (q+sz ((bs t).drop q))) _ (HI4.o).Gp (by rw[Lib.byteCells_length,JA,ak];simp;omega) (HI4.o).size).mono ?_;rintro e w5 ⟨rfl,b5,k5,o5⟩;rw[Lib.strCells_eq,EB.o] at b5;have rZ:=au ((HI4.o).wrote b5 k5 o5);clear b5 k5 o5;go_wp2_with fail
   refine(dJ rb t q _ (rZ.o).iF).mono ?_;rintro e w6 ⟨rfl,r6,k6⟩;have Ie:=au ((rZ.o).moved r6 k6);clear r6 k6;go_wp2_with fail
   go_roundw
   case rel =>
    refine⟨_,_,Ie.o,?_⟩;rw[(HI.o).2,HQ.o,aA];rw[Z1.o];simp
   case measure=>rw[(Ie.o).iF.at_,TQ.o];omega
  by_cases hodd:cc ((bs t).drop q)<32∨cc ((bs t).drop q)=127
  ·obtain⟨c,hc⟩:∃ c:Nat,cc ((bs t).drop q)=(c:Int):=⟨(cc ((bs t).drop q)).toNat,by omega⟩
   have hO:Odd c:=by unfold Odd;omega
   have WS:c<128:=by omega
   have hq1:=Ah (c:=c) WS hc;have eq:qb (UInt8.ofNat c)=[92,117,123]++hx c++[125]:=by
    have hcn:(UInt8.ofNat c).toNat=c:=by simp;omega
    unfold qb;rw[hcn,aG (by omega),aG (by omega),aG (by omega),aL (by omega)]
   rw[dB,eq] at hq1;have HQ:=au hq1.1;have Z1:=au hq1.2;have hxl:=Q8 c;have b10:((c:Int)==10)=false:=by simp;omega
   have b9:((c:Int)==9)=false:=by simp;omega
   have b34:((c:Int)==34)=false:=by simp;omega
   have b92:((c:Int)==92)=false:=by simp;omega
   have hbs:(ba (hx c)).size≤2:=by rw[iW];exact hxl
   have hs1:¬ 9223372036854775807<3+(ba (hx c)).size:=by omega
   have hs2:¬ 9223372036854775807<3+(ba (hx c)).size+1:=by omega
   have hvar:(c:Int)<32∨(¬(c:Int)<32∧c=127):=by omega
   rw[hc] at c2 hne;clear hq1 eq g10 g9 Kk LP hodd hc hpos;rcases hvar with hv|⟨hv,rfl⟩
   ·go_wp2_with fail
    refine(zQ c hO _ (hZ.below (HI1.o).below h7)).mono ?_;rintro e w3 ⟨rfl,k3⟩;have HI3:Hid (Gn w.heap.size w.heap.size rb t q out w w3):=by
     have h:=HI1.o;exact⟨h.iF.below k3,mg h.Gp (Kp.aI k3 (fun _=>False)) id (fun _ _ _ h=>h.elim),h.ne,h.brb,h.old,h.base,h.below.trans (k3.mono h.size)⟩
    clear k3;go_wp2_with fail
    refine(Tryz.Builder_WriteString_k w.heap.size w.heap.size (Lib.byteCells out) _ _ (HI3.o).Gp (by rw[Lib.byteCells_length];simp only[ByteArray.size_append];show out.length+(3+(ba (hx c)).size+1)≤_;omega) (HI3.o).size).mono ?_;rintro e w4 ⟨rfl,b4,k4,o4⟩;rw[Lib.strCells_eq] at b4;have eb:((⟨#[92,117,123]⟩:ByteArray)++ba (hx c)++⟨#[125]⟩).data.toList=[92,117,123]++hx c++[125]:=by
     show bs _=_;rw[tY,tY,kQ];rfl
    rw[eb] at b4;have HI4:=au ((HI3.o).wrote b4 k4 o4);clear b4 k4 o4 eb;go_wp2_with fail
    refine(dJ rb t q _ (HI4.o).iF).mono ?_;rintro e w5 ⟨rfl,r5,k5⟩;have rZ:=au ((HI4.o).moved r5 k5);clear r5 k5;go_wp2_with fail
    go_roundw
    case rel =>
     refine⟨_,_,rZ.o,?_⟩;rw[(HI.o).2,HQ.o,aA];rw[Z1.o];simp only[aA]
    case measure=>rw[(rZ.o).iF.at_,TQ.o];omega
   ·go_wp2_with fail
    refine(zQ 127 hO _ (hZ.below (HI1.o).below h7)).mono ?_;rintro e w3 ⟨rfl,k3⟩;have HI3:Hid (Gn w.heap.size w.heap.size rb t q out w w3):=by
     have h:=HI1.o;exact⟨h.iF.below k3,mg h.Gp (Kp.aI k3 (fun _=>False)) id (fun _ _ _ h=>h.elim),h.ne,h.brb,h.old,h.base,h.below.trans (k3.mono h.size)⟩
    clear k3;go_wp2_with fail
    refine(Tryz.Builder_WriteString_k w.heap.size w.heap.size (Lib.byteCells out) _ _ (HI3.o).Gp (by rw[Lib.byteCells_length];simp only[ByteArray.size_append];show out.length+(3+(ba (hx 127)).size+1)≤_;omega) (HI3.o).size).mono ?_;rintro e w4 ⟨rfl,b4,k4,o4⟩;rw[Lib.strCells_eq] at b4;have eb:((⟨#[92,117,123]⟩:ByteArray)++ba (hx 127)++⟨#[125]⟩).data.toList=[92,117,123]++hx 127++[125]:=by
     show bs _=_;rw[tY,tY,kQ];rfl
    rw[eb] at b4;have HI4:=au ((HI3.o).wrote b4 k4 o4);clear b4 k4 o4 eb;go_wp2_with fail
    refine(dJ rb t q _ (HI4.o).iF).mono ?_;rintro e w5 ⟨rfl,r5,k5⟩;have rZ:=au ((HI4.o).moved r5 k5);clear r5 k5;go_wp2_with fail
    go_roundw
    case rel =>
     refine⟨_,_,rZ.o,?_⟩;rw[(HI.o).2,HQ.o,aA];rw[Z1.o];simp only[aA]
    case measure=>rw[(rZ.o).iF.at_,TQ.o];omega
  ·have h3:cc ((bs t).drop q)≠34:=Kk
   have HQ:=au (Vm (jg hlt) Kk LP (fun e=>hodd (.inl e)) (fun e=>hodd (.inr e)));rw[fG] at HQ;have b10:(cc ((bs t).drop q)==10)=false:=by simpa using g10
   have b9:(cc ((bs t).drop q)==9)=false:=by simpa using g9
   have b34:(cc ((bs t).drop q)==34)=false:=by simpa using Kk
   have b92:(cc ((bs t).drop q)==92)=false:=by simpa using LP
   have cE8:(cc ((bs t).drop q)==127)=false:=by simp;omega
   have hv:¬ cc ((bs t).drop q)<32:=by omega
   have eb:(t.extract q (q+sz ((bs t).drop q))).data.toList=((bs t).drop q).take (sz ((bs t).drop q)):=by
    rw[show(t.extract q (q+sz ((bs t).drop q))).data.toList=bs (t.extract q (q+sz ((bs t).drop q))) from rfl,qf,nS,je]
   have EB:=au eb;have JA:(t.extract q (q+sz ((bs t).drop q))).size=sz ((bs t).drop q):=by rw[← eZ,qf,bM,bL,eZ];omega
   clear g10 g9 Kk LP hodd eb h3;go_wp2_with fail
   refine(uf rb t q _ (HI1.o).iF).mono ?_;rintro e w4 ⟨rfl,m4,rfl⟩;have HI4:=au ((HI1.o).drewN m4);go_wp2_with fail
   refine(Tryz.Builder_WriteString_k w.heap.size w.heap.size (Lib.byteCells out) (t.extract q (q+sz ((bs t).drop q))) _ (HI4.o).Gp (by rw[Lib.byteCells_length,JA];omega) (HI4.o).size).mono ?_;rintro e w5 ⟨rfl,b5,k5,o5⟩;rw[Lib.strCells_eq,EB.o] at b5;have rZ:=au ((HI4.o).wrote b5 k5 o5);clear b5 k5 o5;go_wp2_with fail
   refine(dJ rb t q _ (rZ.o).iF).mono ?_;rintro e w6 ⟨rfl,r6,k6⟩;have Ie:=au ((rZ.o).moved r6 k6);clear r6 k6;go_wp2_with fail
   go_roundw
   case rel =>
    refine⟨_,_,Ie.o,?_⟩;rw[(HI.o).2,HQ.o,aA]
   case measure=>rw[(Ie.o).iF.at_,TQ.o];omega
end Go.Proofs.YtdkpkpgpphkljaaGreatDoor
