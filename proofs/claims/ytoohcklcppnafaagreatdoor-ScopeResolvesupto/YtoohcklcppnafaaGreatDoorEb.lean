import Derived.Test.YtoohcklcppnafaaGreatDoorDa
import Derived.Test.YtoohcklcppnafaaGreatDoorGa
namespace Go.Proofs.YtoohcklcppnafaaGreatDoor
set_option maxRecDepth 100000
set_option maxHeartbeats 8000000
open Tryz
open Go.RowKit
open M
section
variable{s:ByteArray}{k a b:Nat}
theorem GN(h:hasB s k a b=true):cc ((bs s).drop k)=(a:Int)∧cc ((bs s).drop (k+1))=(b:Int):=by
 unfold hasB at h;exact of_decide_eq_true h
theorem Mj(h:hasB s k a b=false):¬(cc ((bs s).drop k)=(a:Int)∧cc ((bs s).drop (k+1))=(b:Int)):=by
 unfold hasB at h;exact of_decide_eq_false h
theorem um(h1:cc ((bs s).drop k)=(a:Int))(h2:cc ((bs s).drop (k+1))=(b:Int)):hasB s k a b=true:=by
 unfold hasB;exact mJ ⟨h1,h2⟩
theorem vT{c:Int}(h:cc ((bs s).drop k)=c)(hc:c≠-1):k<s.size:=by
 rcases cu k s.size with h'|h'
 ·exact h'
 ·rw[show(bs s).drop k=[] by rw[List.drop_eq_nil_iff,eY];exact h',lC] at h;exact absurd h.symm hc
theorem Q6{a a':Int}{c c':Bool}(h:a=a')(k:c=c'):Ending.returned (.tuple #[ak a,.bool c])=.returned (.tuple #[ak a',.bool c']):=by rw[h,k]
theorem qE{l:ah}(h:sz (l.drop k)=1):nx (l.drop k)=l.drop (k+1):=by unfold nx;rw[h,cZ]
theorem vU(s:ByteArray)(k:Nat)(w:aG)(hk:k<s.size)(hs:s.size≤1073741824) :
  bB 90 #[.string s,ak k,.int .u8 123,.int .u8 45] w (cK (.bool (hasB s k 123 45)) fun w'=>w'=w):=rJ s k 123 45 w hk hs au au
theorem vV(s:ByteArray)(k:Nat)(w:aG)(hk:k<s.size)(hs:s.size≤1073741824) :
  bB 90 #[.string s,ak k,.int .u8 45,.int .u8 125] w (cK (.bool (hasB s k 45 125)) fun w'=>w'=w):=rJ s k 45 125 w hk hs au au
structure Zk(s:ByteArray)(p k D:Nat):Prop where
 pos:1≤D
 kind:(nest 1 ((bs s).drop (p+2))).1=(nest D ((bs s).drop k)).1
 len:p+2+(nest 1 ((bs s).drop (p+2))).2=k+(nest D ((bs s).drop k)).2
theorem BZ(s:ByteArray)(p:Nat)(w:aG)(hs:s.size≤1073741824)(h1:cc ((bs s).drop p)=123)(h2:cc ((bs s).drop (p+1))=45) :
  bB 91 #[.string s,ak p] w (cK (.tuple #[ak ((p+(2+(nest 1 ((bs s).drop (p+2))).2):Nat):Int),.bool (decide ((nest 1 ((bs s).drop (p+2))).1=2))]) fun w'=>w'=w):=by
 have hp1:=vT h2 au;have H0:=aA (And.intro h1 h2);clear h1 h2;go_enter func91,ntmps91;go_wp2_with fail
 go_loop [1,6] (fun i d=>∃ k D:Nat,i=ak k∧d=ak D∧k≤s.size∧D≤k∧((D=0∧k=p)∨Hid (Zk s p k D))) (fun i _=>s.size - (intOf i).toNat)
 case atStart=>exact⟨p,0,rfl,rfl,au,au,.inl ⟨rfl,rfl⟩⟩
 case round =>
  obtain⟨k,D,rfl,rfl,hk,hD,hI⟩:=hrel;by_cases hlt:k<s.size
  ·cases ho:hasB s k 123 45
   ·rcases hI with ⟨rfl,rfl⟩|HI
    ·exact absurd (um (H0.o).1 (H0.o).2) (by rw[ho];simp)
    have hp:=(HI.o).pos;cases hsh:hasB s k 45 125
    ·have HN:=aA (NS (d:=D) (iJ hlt) (by rw[cZ];exact Mj ho) (by rw[cZ];exact Mj hsh))
     go_wp2_with fail
     refine(vU s k _ hlt hs).cO ?_;go_wp2_with fail
     refine(vV s k _ hlt hs).cO ?_;go_wp2_with fail
     go_round
     case rel =>
      obtain⟨a1,a2,a3⟩:=HI.o;rw[HN.o,cZ] at a2 a3;exact⟨k+1,D,by go_num,rfl,au,au,.inr ⟨a1,a2,by rw[a3];simp only;omega⟩⟩
     case measure=>simp[intOf];omega
    ·obtain⟨g1,g2⟩:=GN hsh
     have z1:sz ((bs s).drop k)=1:=fI au au;have z2:sz ((bs s).drop (k+1))=1:=fI au au;have e1:=qE z1;have e2:=qE z2;have hk2:=vT g2 au;by_cases hd1:D≤1
     ·have HN:=aA (xC (deep:=D) g1 (by rw[e1];exact g2) hd1)
      have hD1:D=1:=au
      subst hD1;clear g1 g2 e1 e2 z1 z2;go_wp2_with fail
      refine(vU s k _ hlt hs).cO ?_;go_wp2_with fail
      refine(vV s k _ hlt hs).cO ?_;go_wp2_with fail
      go_ret2;obtain⟨a1,a2,a3⟩:=HI.o;rw[HN.o] at a2 a3;exact⟨Q6 (by simp only at a3;omega) (by rw[a2];rfl),rfl⟩
     ·have HN:=aA (xD (deep:=D) g1 (by rw[e1];exact g2) hd1)
      rw[e1,e2,show k+1+1=k+2 from rfl] at HN;have hDb:((D:Int) - 1==0)=false:=aQ
      clear g1 g2 e1 e2 z1 z2;go_wp2_with fail
      refine(vU s k _ hlt hs).cO ?_;go_wp2_with fail
      refine(vV s k _ hlt hs).cO ?_;go_wp2_with fail
      go_round
      case rel =>
       obtain⟨a1,a2,a3⟩:=HI.o;rw[HN.o] at a2 a3;exact⟨k+2,D - 1,by go_num,by go_num,au,au,.inr ⟨au,a2,by rw[a3];simp only;omega⟩⟩
      case measure=>simp[intOf];omega
   ·obtain⟨g1,g2⟩:=GN ho
    have z1:sz ((bs s).drop k)=1:=fI au au;have z2:sz ((bs s).drop (k+1))=1:=fI au au;have e1:=qE z1;have e2:=qE z2;have hk2:=vT g2 au;have HN:=aA (xB (deep:=D) g1 (by rw[e1];exact g2));rw[e1,e2,show k+1+1=k+2 from rfl] at HN;clear g1 g2 e1 e2 z1 z2;go_wp2_with fail
    refine(vU s k _ hlt hs).cO ?_;go_wp2_with fail
    refine(vV s k _ hlt hs).cO ?_;go_wp2_with fail
    go_round
    case rel =>
     refine⟨k+2,D+1,by go_num,by go_num,au,au,.inr ?_⟩;rcases hI with ⟨rfl,rfl⟩|HI
     ·exact⟨au,rfl,rfl⟩
     ·obtain⟨a1,a2,a3⟩:=HI.o
      rw[HN.o] at a2 a3;exact⟨au,a2,by rw[a3];simp only;omega⟩
    case measure=>simp[intOf];omega
  ·rcases hI with ⟨rfl,rfl⟩|HI
   ·omega
   have hke:k=s.size:=au
   have HE:Hid ((bs s).drop k=[]):=by show _=_;rw[List.drop_eq_nil_iff,eY];omega
   go_wp2_with fail
   go_ret2;obtain⟨a1,a2,a3⟩:=HI.o;rw[HE.o,vR] at a2 a3;exact⟨Q6 (by simp only at a3;omega) (by rw[a2];rfl),rfl⟩
def esc(u:ah):Int × Nat:=if (taken u).2.1 then((taken u).1,1+(taken u).2.2) else(0,0)
theorem rM{a a' b b':Int}(h:a=a')(k:b=b'):Ending.returned (.tuple #[ak a,ak b])=.returned (.tuple #[ak a',ak b']):=by rw[h,k]
theorem yx{u:ah}(h1:cc u≠110)(h2:cc u≠116)(h3:cc u≠34)(h4:cc u≠92)(h5:cc u≠117):esc u=(0,0):=by
 have:(taken u).2.1=false:=by
  unfold taken;by_cases h:cc u=-1∨cc u=10
  ·rw[aU h]
  ·rw[aM h,aM h1,aM h2,aM au,aM h5]
 unfold esc;rw[this];rfl
theorem XM{s:ByteArray}{p j:Nat}{C:Int}(h1:cc ((bs s).drop (p+1))=117)(h2:cc ((bs s).drop (p+2))=123)(h3:jF 6 0 ((bs s).drop (p+3))=(C,j)) :
  esc ((bs s).drop (p+1))=if j=0∨cc ((bs s).drop (p+3+j))≠125 then(0,0) else if Lib.validRune C then(C,j+4) else(0,0):=by
 have z1:sz ((bs s).drop (p+1))=1:=fI au au;have z2:sz ((bs s).drop (p+2))=1:=fI au au;have e1:nx ((bs s).drop (p+1))=(bs s).drop (p+2):=qE z1;have e2:nx ((bs s).drop (p+2))=(bs s).drop (p+3):=qE z2;have et:taken ((bs s).drop (p+1))=((code ((bs s).drop (p+2))).1,(code ((bs s).drop (p+2))).2.1,1+(code ((bs s).drop (p+2))).2.2):=by
  unfold taken;rw[aM au,aM au,aM au,aM au,aU h1,e1]
 have ec:code ((bs s).drop (p+2))=if j=0∨cc ((bs s).drop (p+3+j))≠125 then(0,false,1+j) else(C,Lib.validRune C,2+j):=by
  unfold code;rw[aU h2,e2,h3];simp only[cZ]
 unfold esc;rw[et,ec];by_cases g:j=0∨cc ((bs s).drop (p+3+j))≠125
 ·rw[aU g,aU g];rfl
 ·rw[aM g,aM g]
  simp only;cases Lib.validRune C
  ·rfl
  ·simp only[iK,kE,true_and];omega
theorem Q7{s:ByteArray}{p:Nat}(h1:cc ((bs s).drop (p+1))=117)(h2:cc ((bs s).drop (p+2))≠123):esc ((bs s).drop (p+1))=(0,0):=by
 have z1:sz ((bs s).drop (p+1))=1:=fI au au;have e1:nx ((bs s).drop (p+1))=(bs s).drop (p+2):=qE z1;have ec:code ((bs s).drop (p+2))=(0,false,0):=by unfold code;rw[aM h2]
 have et:taken ((bs s).drop (p+1))=(0,false,1):=by
  unfold taken;rw[aM au,aM au,aM au,aM au,aU h1,e1,ec];rfl
 unfold esc;rw[et];rfl
theorem Q8{s:ByteArray}{k:Nat}(h:k<s.size):hexOf ((s[k]'h).toNat:Int)=hexOf (cc ((bs s).drop k)):=by
 by_cases h1:(s[k]'h).toNat<128
 ·rw[(Mh h h1).1]
 ·have h2:=Mi h au
  have e1:hexOf (cc ((bs s).drop k))=-1:=by
   rcases Int.lt_or_le (hexOf (cc ((bs s).drop k))) 0 with g|g
   ·have:=(qU (cc ((bs s).drop k))).1;omega
   ·have:=lJ g;omega
  have e2:hexOf ((s[k]'h).toNat:Int)=-1:=by
   rcases Int.lt_or_le (hexOf ((s[k]'h).toNat:Int)) 0 with g|g
   ·have:=(qU ((s[k]'h).toNat:Int)).1;omega
   ·have:=lJ g;omega
  rw[e1,e2]
structure CX(s:ByteArray)(p j:Nat)(C:Int):Prop where
 lo:0≤C
 hi:C<((16 ^ j:Nat):Int)
 eq:jF 6 0 ((bs s).drop p)=((jF (6 - j) C ((bs s).drop (p+j))).1,j+(jF (6 - j) C ((bs s).drop (p+j))).2)
theorem CX.stop{s:ByteArray}{p j:Nat}{C:Int}(h:CX s p j C)(hj:j≤6)(hx:¬(j<6∧0≤hexOf (cc ((bs s).drop (p+j))))):jF 6 0 ((bs s).drop p)=(C,j):=by
 rw[h.eq];by_cases h6:j<6
 ·obtain⟨m,hm⟩:∃ m,6 - j=m+1:=⟨5 - j,au⟩
  rw[hm];unfold jF;rw[aM (fun h=>hx ⟨h6,h⟩)];rfl
 ·have:6 - j=0:=by omega
  rw[this];rfl
theorem CX.next{s:ByteArray}{p j:Nat}{C:Int}(h:CX s p j C)(hj:j<6)(hx:0≤hexOf (cc ((bs s).drop (p+j)))):CX s p (j+1) (C*16+hexOf (cc ((bs s).drop (p+j)))):=by
 have hh:=qU (cc ((bs s).drop (p+j)));have h0:=h.lo;refine⟨au,Q9 h.hi hh.2,?_⟩;rw[h.eq];obtain⟨m,hm⟩:∃ m,6 - j=m+1:=⟨5 - j,au⟩;have hm2:6 - (j+1)=m:=au
 have ha:=lJ hx;have z1:sz ((bs s).drop (p+j))=1:=fI au au;rw[hm,hm2,show p+(j+1)=p+j+1 from rfl]
 conv=>lhs;unfold jF
 rw[aU hx,gK,z1];simp only[kE];exact⟨trivial,au⟩
theorem Ao(s:ByteArray)(p:Nat)(w:aG)(hs:s.size≤1073741824)(hp:p<s.size) :
  bB 118 #[.string s,ak p] w (cK (.tuple #[ak (esc ((bs s).drop (p+1))).1,ak (esc ((bs s).drop (p+1))).2]) fun w'=>w'=w):=by
 by_cases h1:p+1<s.size
 case neg =>
  have i1:(s.size:Int)≤(p:Int)+1:=au
  have HE:Hid (esc ((bs s).drop (p+1))=(0,0)):=by
   show _=_;rw[show(bs s).drop (p+1)=[] by rw[List.drop_eq_nil_iff,eY];omega];exact yx (by rw[lC];omega) (by rw[lC];omega) (by rw[lC];omega) (by rw[lC];omega) (by rw[lC];omega)
  go_enter func118,ntmps118;go_wp2_with fail
  go_ret2;rw[HE.o];exact⟨rfl,rfl⟩
 have i1:(p:Int)+1<(s.size:Int):=au
 by_cases u_:(s[p+1]'h1).toNat=110
 ·have HE:Hid (esc ((bs s).drop (p+1))=(10,2)):=by
   show _=_;have e:cc ((bs s).drop (p+1))=110:=(gN h1 (c:=110) au).2 u_;have et:taken ((bs s).drop (p+1))=(10,true,1):=by unfold taken;rw[aM au,aU e]
   unfold esc;rw[et];rfl
  have gi:((s[p+1]'h1).toNat:Int)=110:=au
  have gu:(s[p+1]'h1)=110:=by rw[← UInt8.toNat_inj];exact u_
  go_enter func118,ntmps118;go_wp2_with fail
  go_ret2;rw[HE.o];exact⟨rfl,rfl⟩
 by_cases vW:(s[p+1]'h1).toNat=116
 ·have HE:Hid (esc ((bs s).drop (p+1))=(9,2)):=by
   show _=_;have e:cc ((bs s).drop (p+1))=116:=(gN h1 (c:=116) au).2 vW;have et:taken ((bs s).drop (p+1))=(9,true,1):=by unfold taken;rw[aM au,aM au,aU e]
   unfold esc;rw[et];rfl
  have gi:((s[p+1]'h1).toNat:Int)=116:=au
  have gu:(s[p+1]'h1)=116:=by rw[← UInt8.toNat_inj];exact vW
  go_enter func118,ntmps118;go_wp2_with fail
  go_ret2;rw[HE.o];exact⟨rfl,rfl⟩
 by_cases GQ:(s[p+1]'h1).toNat=34
 ·have HE:Hid (esc ((bs s).drop (p+1))=(34,2)):=by
   show _=_;have e:cc ((bs s).drop (p+1))=34:=(gN h1 (c:=34) au).2 GQ;have et:taken ((bs s).drop (p+1))=(34,true,1):=by unfold taken;rw[aM au,aM au,aM au,aU (.inl e),e]
   unfold esc;rw[et];rfl
  have gi:((s[p+1]'h1).toNat:Int)=34:=au
  have gu:(s[p+1]'h1)=34:=by rw[← UInt8.toNat_inj];exact GQ
  go_enter func118,ntmps118;go_wp2_with fail
  go_ret2;rw[HE.o];exact⟨rfl,rfl⟩
 by_cases JB:(s[p+1]'h1).toNat=92
 ·have HE:Hid (esc ((bs s).drop (p+1))=(92,2)):=by
   show _=_;have e:cc ((bs s).drop (p+1))=92:=(gN h1 (c:=92) au).2 JB;have et:taken ((bs s).drop (p+1))=(92,true,1):=by unfold taken;rw[aM au,aM au,aM au,aU (.inr e),e]
   unfold esc;rw[et];rfl
  have gi:((s[p+1]'h1).toNat:Int)=92:=au
  have gu:(s[p+1]'h1)=92:=by rw[← UInt8.toNat_inj];exact JB
  go_enter func118,ntmps118;go_wp2_with fail
  go_ret2;rw[HE.o];exact⟨rfl,rfl⟩
 have b110:(((s[p+1]'h1).toNat:Int)==110)=false:=aQ
 have bI5:(((s[p+1]'h1).toNat:Int)==116)=false:=aQ
 have b34:(((s[p+1]'h1).toNat:Int)==34)=false:=aQ
 have b92:(((s[p+1]'h1).toNat:Int)==92)=false:=aQ
 by_cases B_:(s[p+1]'h1).toNat=117
 case neg =>
  have aN9:(((s[p+1]'h1).toNat:Int) !=117)=true:=aQ
  have HE:Hid (esc ((bs s).drop (p+1))=(0,0)):=by
   show _=_;exact yx (fun e=>u_ ((gN h1 (c:=110) au).1 e)) (fun e=>vW ((gN h1 (c:=116) au).1 e)) (fun e=>GQ ((gN h1 (c:=34) au).1 e)) (fun e=>JB ((gN h1 (c:=92) au).1 e)) (fun e=>B_ ((gN h1 (c:=117) au).1 e))
  clear u_ vW GQ JB B_;go_enter func118,ntmps118;go_wp2_with fail
  go_ret2;rw[HE.o];exact⟨rfl,rfl⟩
 have hu:cc ((bs s).drop (p+1))=117:=(gN h1 (c:=117) au).2 B_;have aN9:(((s[p+1]'h1).toNat:Int) !=117)=false:=aQ
 clear u_ vW GQ JB B_;have HU:=aA hu;clear hu;by_cases h2:p+2<s.size
 case neg =>
  have i2:decide ((s.size:Int)≤(p:Int)+2)=true:=aQ
  have HE:Hid (esc ((bs s).drop (p+1))=(0,0)):=by
   show _=_;refine Q7 HU.o ?_;rw[show(bs s).drop (p+2)=[] by rw[List.drop_eq_nil_iff,eY];omega,lC];omega
  go_enter func118,ntmps118;go_wp2_with fail
  go_ret2;rw[HE.o];exact⟨rfl,rfl⟩
 have i2:(p:Int)+2<(s.size:Int):=au
 have i2':decide ((s.size:Int)≤(p:Int)+2)=false:=aQ
 by_cases VH:(s[p+2]'h2).toNat=123
 case neg =>
  have bI7:(((s[p+2]'h2).toNat:Int) !=123)=true:=aQ
  have HE:Hid (esc ((bs s).drop (p+1))=(0,0)):=by
   show _=_;exact Q7 HU.o (fun e=>VH ((gN h2 (c:=123) au).1 e))
  clear VH;go_enter func118,ntmps118;go_wp2_with fail
  go_ret2;rw[HE.o];exact⟨rfl,rfl⟩
 have H2:Hid (cc ((bs s).drop (p+2))=(123:Int)):=(gN h2 (c:=123) au).2 VH;have bI7:(((s[p+2]'h2).toNat:Int) !=123)=false:=aQ
 clear VH;go_enter func118,ntmps118;go_wp2_with fail
 go_loop [7,8] (fun i c=>∃(j:Nat) (C:Int),j≤6∧i=ak ((p+3+j:Nat):Int)∧c=ak C∧p+3+j≤s.size∧Hid (CX s (p+3) j C)) (fun i _=>p+9 - (intOf i).toNat)
 case atStart=>exact⟨0,0,au,by go_num,rfl,au,⟨au,aS,aT⟩⟩
 case round =>
  obtain⟨j,C,hj,rfl,rfl,hle,HI⟩:=hrel;obtain⟨k,hk⟩:∃ k,k=p+3+j:=⟨_,rfl⟩;rw[← hk] at hle;rw[← hk];have hlo:=(HI.o).lo;have hhi:=Ml hj (HI.o).hi;have HK:=aA hk;have hk3:(k:Int)=(p:Int)+3+(j:Int):=au
  have qz:=aA hk3;clear hk hk3;by_cases hk1:k<s.size
  case neg =>
   have hke:k=s.size:=au
   have HS:=aA ((HI.o).stop hj (fun hx=>by
    have e:=vT (s:=s) (k:=p+3+j) (c:=cc ((bs s).drop (p+3+j))) rfl (fun e=>by have h9:=hx.2;rw[e] at h9;exact absurd h9 aS);have:=HK.o;omega))
   have HE:Hid (esc ((bs s).drop (p+1))=(0,0)):=by
    show _=_;rw[XM HU.o H2.o HS.o,aU]
    right
    rw[show(bs s).drop (p+3+j)=[] by rw[List.drop_eq_nil_iff,eY];have:=HK.o;omega,lC];omega
   have i5:decide ((s.size:Int)≤(k:Int))=true:=aQ
   by_cases hj0:j=0
   ·have i4:((k:Int)==(p:Int)+3)=true:=by have:=qz.o;simp;omega
    clear hke;go_wp2_with fail
    go_ret2;rw[HE.o];exact⟨rfl,rfl⟩
   ·have i4:((k:Int)==(p:Int)+3)=false:=by have:=qz.o;simp;omega
    clear hke;go_wp2_with fail
    go_ret2;rw[HE.o];exact⟨rfl,rfl⟩
  have i3:(k:Int)<(s.size:Int):=au
  have i5:decide ((s.size:Int)≤(k:Int))=false:=aQ
  have hxb:=Q8 hk1;have hcc:cc ((bs s).drop (p+3+j))=cc ((bs s).drop k):=by rw[HK.o]
  have hhx:=qU ((s[k]'hk1).toNat:Int);have HXB:=aA hxb;have HCC:=aA hcc;clear hxb hcc;by_cases hx:j<6∧0≤hexOf ((s[k]'hk1).toNat:Int)
  ·obtain⟨hj6,hx0⟩:=hx
   have i4:(k:Int)<(p:Int)+9:=by have:=qz.o;omega
   have hC5:=XO (au:j≤5) (HI.o).hi;go_wp2_with ((go_at_call 137;refine(kQ _ _ (by have:=(s[k]'hk1).toNat_lt;omega)).cO ?_))
   go_round
   case rel =>
    have hn:=(HI.o).next hj6 (by rw[HCC.o,← HXB.o];exact hx0);rw[HCC.o,← HXB.o] at hn;have h3:=qz.o;have hkk:=HK.o;exact⟨j+1,_,au,by rw[show((p+3+(j+1):Nat):Int)=(k:Int)+1 by omega],rfl,au,hn⟩
   case measure=>have h3:=qz.o;simp[intOf];omega
  have HS:=aA ((HI.o).stop hj (fun h=>hx ⟨h.1,by rw[HXB.o,← HCC.o];exact h.2⟩));have wX:=aA (XM HU.o H2.o HS.o);by_cases hj0:j=0
  ·have i4:((k:Int)==(p:Int)+3)=true:=by have:=qz.o;simp;omega
   have i6:(k:Int)<(p:Int)+9:=by have:=qz.o;omega
   have hx0:hexOf ((s[k]'hk1).toNat:Int)<0:=by
    rcases Int.lt_or_le (hexOf ((s[k]'hk1).toNat:Int)) 0 with g|g
    ·exact g
    ·exact absurd ⟨au,g⟩ hx
   have HE:Hid (esc ((bs s).drop (p+1))=(0,0)):=by show _=_;rw[wX.o,aU (.inl hj0)]
   clear hx;go_wp2_with ((go_at_call 137;refine(kQ _ _ (by have:=(s[k]'hk1).toNat_lt;omega)).cO ?_))
   go_ret2;rw[HE.o];exact⟨rfl,rfl⟩
  have i4:((k:Int)==(p:Int)+3)=false:=by have:=qz.o;simp;omega
  have hvar:(j=6∧¬(k:Int)<(p:Int)+9)∨(j<6∧(k:Int)<(p:Int)+9∧hexOf ((s[k]'hk1).toNat:Int)<0):=by
   have h3:=qz.o;rcases Int.lt_or_le (hexOf ((s[k]'hk1).toNat:Int)) 0 with g|g
   ·by_cases h6:j<6
    ·exact .inr ⟨h6,au,g⟩
    ·exact .inl ⟨au,au⟩
   ·by_cases h6:j<6
    ·exact absurd ⟨h6,g⟩ hx
    ·exact .inl ⟨au,au⟩
  clear hx;by_cases yU:(s[k]'hk1).toNat=125
  case neg =>
   have bI8:(((s[k]'hk1).toNat:Int) !=125)=true:=aQ
   have HE:Hid (esc ((bs s).drop (p+1))=(0,0)):=by
    show _=_;rw[wX.o,aU]
    right;rw[HCC.o];exact fun e=>yU ((gN hk1 (c:=125) au).1 e)
   clear yU;rcases hvar with ⟨hv1,hv2⟩|⟨hv1,hv2,hv3⟩
   ·skip
    clear hj0 hv1;go_wp2_with ((go_at_call 137;refine(kQ _ _ (by have:=(s[k]'hk1).toNat_lt;omega)).cO ?_))
    go_ret2;rw[HE.o];exact⟨rfl,rfl⟩
   ·skip
    clear hj0 hv1;go_wp2_with ((go_at_call 137;refine(kQ _ _ (by have:=(s[k]'hk1).toNat_lt;omega)).cO ?_))
    go_ret2;rw[HE.o];exact⟨rfl,rfl⟩
  have bI8:(((s[k]'hk1).toNat:Int) !=125)=false:=aQ
  have HN:Hid (¬(j=0∨cc ((bs s).drop (p+3+j))≠125)):=by
   have e1:cc ((bs s).drop k)=125:=(gN hk1 (c:=125) au).2 yU;show ¬ _;rw[HCC.o,e1];simp[hj0]
  clear yU;by_cases hb1:C≤1114111
  case neg =>
   have j1:decide ((1114111:Int)<C)=true:=aQ
   have HE:Hid (esc ((bs s).drop (p+1))=(0,0)):=by
    show _=_;rw[wX.o,aM HN.o,aM];unfold Lib.validRune;simp;omega
   clear hb1;rcases hvar with ⟨hv1,hv2⟩|⟨hv1,hv2,hv3⟩
   ·skip
    clear hj0 hv1;go_wp2_with ((go_at_call 137;refine(kQ _ _ (by have:=(s[k]'hk1).toNat_lt;omega)).cO ?_))
    go_ret2;rw[HE.o];exact⟨rfl,rfl⟩
   ·skip
    clear hj0 hv1;go_wp2_with ((go_at_call 137;refine(kQ _ _ (by have:=(s[k]'hk1).toNat_lt;omega)).cO ?_))
    go_ret2;rw[HE.o];exact⟨rfl,rfl⟩
  have j1:decide ((1114111:Int)<C)=false:=aQ
  by_cases hb2:55296≤C
  ·have j2:decide ((55296:Int)≤C)=true:=by simpa using hb2
   by_cases hb3:C≤57343
   ·have j3:decide (C≤(57343:Int))=true:=by simpa using hb3
    have HE:Hid (esc ((bs s).drop (p+1))=(0,0)):=by
     show _=_;rw[wX.o,aM HN.o,aM];unfold Lib.validRune;simp;omega
    rcases hvar with ⟨hv1,hv2⟩|⟨hv1,hv2,hv3⟩
    ·skip
     clear hj0 hv1;go_wp2_with ((go_at_call 137;refine(kQ _ _ (by have:=(s[k]'hk1).toNat_lt;omega)).cO ?_))
     go_ret2;rw[HE.o];exact⟨rfl,rfl⟩
    ·skip
     clear hj0 hv1;go_wp2_with ((go_at_call 137;refine(kQ _ _ (by have:=(s[k]'hk1).toNat_lt;omega)).cO ?_))
     go_ret2;rw[HE.o];exact⟨rfl,rfl⟩
   ·have j3:decide (C≤(57343:Int))=false:=by simpa using hb3
    have HE:Hid (esc ((bs s).drop (p+1))=(C,j+4)):=by
     show _=_;rw[wX.o,aM HN.o,aU];unfold Lib.validRune;simp;omega
    rcases hvar with ⟨hv1,hv2⟩|⟨hv1,hv2,hv3⟩
    ·skip
     clear hj0 hv1;go_wp2_with ((go_at_call 137;refine(kQ _ _ (by have:=(s[k]'hk1).toNat_lt;omega)).cO ?_))
     go_ret2;rw[HE.o];exact⟨rM rfl (by have:=qz.o;simp only;omega),rfl⟩
    ·skip
     clear hj0 hv1;go_wp2_with ((go_at_call 137;refine(kQ _ _ (by have:=(s[k]'hk1).toNat_lt;omega)).cO ?_))
     go_ret2;rw[HE.o];exact⟨rM rfl (by have:=qz.o;simp only;omega),rfl⟩
  ·have j2:decide ((55296:Int)≤C)=false:=by simpa using hb2
   have HE:Hid (esc ((bs s).drop (p+1))=(C,j+4)):=by
    show _=_;rw[wX.o,aM HN.o,aU];unfold Lib.validRune;simp;omega
   rcases hvar with ⟨hv1,hv2⟩|⟨hv1,hv2,hv3⟩
   ·skip
    clear hj0 hv1;go_wp2_with ((go_at_call 137;refine(kQ _ _ (by have:=(s[k]'hk1).toNat_lt;omega)).cO ?_))
    go_ret2;rw[HE.o];exact⟨rM rfl (by have:=qz.o;simp only;omega),rfl⟩
   ·skip
    clear hj0 hv1;go_wp2_with ((go_at_call 137;refine(kQ _ _ (by have:=(s[k]'hk1).toNat_lt;omega)).cO ?_))
    go_ret2;rw[HE.o];exact⟨rM rfl (by have:=qz.o;simp only;omega),rfl⟩
theorem fF(s:ByteArray)(k:Nat)(w:aG)(h:k<s.size) :
  bB 88 #[.string (s.extract k s.size)] w (cK (.tuple #[ak (cc ((bs s).drop k)),ak (sz ((bs s).drop k))]) fun w'=>w'=w):=by
 have h0:0<(s.extract k s.size).size:=by rw[← eY,uo,bV,eY];omega
 have:=Gw (s.extract k s.size) w h0;rw[uo,← rH (iJ h)] at this;exact this
structure InQ(s:ByteArray)(p k K:Nat):Prop where
 kind:(quo 6 ((bs s).drop (p+1))).1=(quo K ((bs s).drop k)).1
 len:p+1+(quo 6 ((bs s).drop (p+1))).2=k+(quo K ((bs s).drop k)).2
theorem Ca(s:ByteArray)(p:Nat)(w:aG)(hs:s.size≤1073741824)(hp:p<s.size) :
  bB 93 #[.string s,ak p] w (cK (.tuple #[ak ((p+(1+(quo 6 ((bs s).drop (p+1))).2):Nat):Int),ak (quo 6 ((bs s).drop (p+1))).1]) fun w'=>w'=w):=by
 go_enter func93,ntmps93;go_wp2_with fail
 go_loop [1,6] (fun i d=>∃ k K:Nat,i=ak k∧d=ak K∧k≤s.size∧Hid (InQ s p k K)) (fun i _=>s.size - (intOf i).toNat)
 case atStart=>exact⟨p+1,6,by go_num,rfl,au,⟨rfl,rfl⟩⟩
 case round =>
  obtain⟨k,K,rfl,rfl,hk,HI⟩:=hrel;by_cases hk1:k<s.size
  case neg =>
   have HE:=aA (qD (kind:=K) (t:=(bs s).drop k) (.inl (qC.2 (by rw[List.drop_eq_nil_iff,eY];omega))));go_wp2_with fail
   go_ret2;obtain⟨a1,a2⟩:=HI.o;rw[HE.o] at a1 a2;exact⟨rM (by simp only at a2;omega) (by rw[a1];rfl),rfl⟩
  have i1:(k:Int)<(s.size:Int):=au
  by_cases g10:(s[k]'hk1).toNat=10
  ·have b10:(((s[k]'hk1).toNat:Int) !=10)=false:=by simp;omega
   have HE:=aA (qD (kind:=K) (t:=(bs s).drop k) (.inr ((gN hk1 (c:=10) au).2 g10)));clear g10;go_wp2_with fail
   go_ret2;obtain⟨a1,a2⟩:=HI.o;rw[HE.o] at a1 a2;exact⟨rM (by simp only at a2;omega) (by rw[a1];rfl),rfl⟩
  have b10:(((s[k]'hk1).toNat:Int) !=10)=true:=aQ
  by_cases GQ:(s[k]'hk1).toNat=34
  ·have b34:(((s[k]'hk1).toNat:Int)==34)=true:=by simp;omega
   have HE:=aA (Am (kind:=K) (t:=(bs s).drop k) ((gN hk1 (c:=34) au).2 GQ));clear g10 GQ;go_wp2_with fail
   go_ret2;obtain⟨a1,a2⟩:=HI.o;rw[HE.o] at a1 a2;exact⟨rM (by simp only at a2;omega) (by rw[a1]),rfl⟩
  have b34:(((s[k]'hk1).toNat:Int)==34)=false:=aQ
  by_cases JB:(s[k]'hk1).toNat=92
  ·have b92:(((s[k]'hk1).toNat:Int)==92)=true:=by simp;omega
   have aO1:cc ((bs s).drop k)=92:=(gN hk1 (c:=92) au).2 JB;have z1:sz ((bs s).drop k)=1:=fI au au;have HN:=aA (xA (kind:=K) aO1);rw[qE z1,cZ] at HN;have HL:=aA (Gu ((bs s).drop (k+1)));clear g10 GQ JB z1 aO1;cases hok:(taken ((bs s).drop (k+1))).2.1
   ·have HO:=aA hok
    have HE:Hid (esc ((bs s).drop (k+1))=(0,0)):=by show _=_;unfold esc;rw[hok];rfl
    clear hok;go_wp2_with fail
    refine(Ao s k _ hs hk1).cO ?_;rw[HE.o];rw[HO.o] at HN;by_cases hk2:k+1<s.size
    case neg =>
     have i2:decide ((s.size:Int)≤(k:Int)+1)=true:=aQ
     have HT:Hid ((bs s).drop (k+1)=[]):=by show _=_;rw[List.drop_eq_nil_iff,eY];omega
     go_wp2_with fail
     go_ret2;obtain⟨a1,a2⟩:=HI.o;rw[HN.o] at a1 a2;have ht:(taken ((bs s).drop (k+1))).2.2=0:=by rw[HT.o];rfl
     have hq:quo (if false=true then K else 8) ((bs s).drop (k+1+(taken ((bs s).drop (k+1))).2.2))=(8,0):=by
      refine qD (.inl (qC.2 ?_));rw[List.drop_eq_nil_iff,eY];omega
     rw[hq] at a1 a2;rw[ht] at a2;exact⟨rM (by simp only at a2;omega) (by rw[a1];rfl),rfl⟩
    have i2:decide ((s.size:Int)≤(k:Int)+1)=false:=aQ
    have i3:(k:Int)+1<(s.size:Int):=au
    by_cases VI:(s[k+1]'hk2).toNat=10
    ·have bI9:(((s[k+1]'hk2).toNat:Int)==10)=true:=by simp;omega
     have aO2:cc ((bs s).drop (k+1))=10:=(gN hk2 (c:=10) au).2 VI;have Ap:=aA aO2;clear VI aO2;go_wp2_with fail
     go_ret2;obtain⟨a1,a2⟩:=HI.o;rw[HN.o] at a1 a2;have ht:(taken ((bs s).drop (k+1))).2.2=0:=by unfold taken;rw[aU (.inr Ap.o)]
     rw[ht] at a1 a2;have hq:quo (if false=true then K else 8) ((bs s).drop (k+1+0))=(8,0):=qD (.inr Ap.o);rw[hq] at a1 a2;exact⟨rM (by simp only at a2;omega) (by rw[a1];rfl),rfl⟩
    ·have bI9:(((s[k+1]'hk2).toNat:Int)==10)=false:=by simp;omega
     have hw:=NT (u:=(bs s).drop (k+1)) (fun e=>iJ hk2 (qC.1 e)) (fun e=>VI ((gN hk2 (c:=10) au).1 e)) HO.o;rw[gK,cZ] at hw;have HW:=aA hw;have HZ:=aA (jV (s:=s) (p:=k+1) au);have VJ:=uY ((bs s).drop (k+1));clear VI hw;have i4:(k:Int)+1≤(s.size:Int):=au
     have i5:(0:Int)≤(k:Int)+1:=au
     go_wp2_with fail
     refine(fF s (k+1) _ hk2).cO ?_;go_wp2_with fail
     go_round
     case rel =>
      obtain⟨a1,a2⟩:=HI.o;obtain⟨c1,c2⟩:=HW.o;rw[HN.o] at a1 a2;simp only[dw,gY] at a1 a2;exact⟨k+1+sz ((bs s).drop (k+1)),8,by go_num,rfl,HZ.o,⟨by rw[a1,c1],by rw[a2];omega⟩⟩
     case measure=>simp[intOf];omega
   ·have HO:=aA hok
    have HE:Hid (esc ((bs s).drop (k+1))=((taken ((bs s).drop (k+1))).1,1+(taken ((bs s).drop (k+1))).2.2)):=by show _=_;unfold esc;rw[hok];rfl
    clear hok;have hl:=HL.o;rw[bV,eY] at hl;go_wp2_with fail
    refine(Ao s k _ hs hk1).cO ?_;rw[HE.o];rw[HO.o] at HN;simp only;have hpos:(0:Int)<((1+(taken ((bs s).drop (k+1))).2.2:Nat):Int):=au
    obtain⟨m,hm⟩:∃ m,1+(taken ((bs s).drop (k+1))).2.2=m:=⟨_,rfl⟩;have HM:=aA hm;rw[hm] at hpos ⊢;have hm2:k+m≤s.size:=au
    clear hm hl;go_wp2_with fail
    go_round
    case rel =>
     obtain⟨a1,a2⟩:=HI.o;have hm:=HM.o;rw[HN.o] at a1 a2;simp only[iK] at a1 a2;have e:k+1+(taken ((bs s).drop (k+1))).2.2=k+m:=au
     rw[e] at a1 a2;exact⟨k+m,K,by go_num,rfl,hm2,⟨a1,by rw[a2];omega⟩⟩
    case measure=>simp[intOf];omega
  ·have b92:(((s[k]'hk1).toNat:Int)==92)=false:=by simp;omega
   have HN:=aA (Ep (kind:=K) (t:=(bs s).drop k) (fun e=>iJ hk1 (qC.1 e)) (fun e=>g10 ((gN hk1 (c:=10) au).1 e)) (fun e=>GQ ((gN hk1 (c:=34) au).1 e)) (fun e=>JB ((gN hk1 (c:=92) au).1 e)));rw[gK] at HN;have HZ:=aA (jV (s:=s) (p:=k) au);have VJ:=uY ((bs s).drop k);have hz1:=jH (iJ hk1);clear g10 GQ JB;go_wp2_with fail
   refine(fF s k _ hk1).cO ?_;go_wp2_with fail
   go_round
   case rel =>
    obtain⟨a1,a2⟩:=HI.o;rw[HN.o] at a1 a2;exact⟨k+sz ((bs s).drop k),K,by go_num,rfl,HZ.o,⟨a1,by rw[a2];simp only;omega⟩⟩
   case measure=>simp[intOf];omega
end
end Go.Proofs.YtoohcklcppnafaaGreatDoor
