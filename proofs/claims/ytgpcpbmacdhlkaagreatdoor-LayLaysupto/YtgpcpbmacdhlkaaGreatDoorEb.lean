/- The document's own remarks within remarks. -/
import Derived.Test.YtgpcpbmacdhlkaaGreatDoorDa
import Derived.Test.YtgpcpbmacdhlkaaGreatDoorGa
namespace Go.Proofs.YtgpcpbmacdhlkaaGreatDoor
open Go.RowKit
open M
theorem hasB_yes {s:ByteArray} {k a b:Nat} (h:hasB s k a b=true):cc ((bs s).drop k)=(a:Int)∧cc ((bs s).drop (k+1))=(b:Int):=by
 unfold hasB at h;exact of_decide_eq_true h
theorem hasB_no {s:ByteArray} {k a b:Nat} (h:hasB s k a b=false):¬(cc ((bs s).drop k)=(a:Int)∧cc ((bs s).drop (k+1))=(b:Int)):=by
 unfold hasB at h;exact of_decide_eq_false h
theorem hasB_of {s:ByteArray} {k a b:Nat} (h1:cc ((bs s).drop k)=(a:Int)) (h2:cc ((bs s).drop (k+1))=(b:Int)):hasB s k a b=true:=by
 unfold hasB;exact decide_eq_true ⟨h1,h2⟩
theorem lt_of_cc {s:ByteArray} {k:Nat} {c:Int} (h:cc ((bs s).drop k)=c) (hc:c≠-1):k<s.size:=by
 rcases Nat.lt_or_ge k s.size with h'|h'
 ·exact h'
 ·rw [show (bs s).drop k=[] by rw [List.drop_eq_nil_iff,bs_len];exact h',cc_nil] at h;exact absurd h.symm hc
theorem ret_ib {a a':Int} {c c':Bool} (h:a=a') (k:c=c'):Ending.returned (.tuple #[.int .i64 a,.bool c])=.returned (.tuple #[.int .i64 a',.bool c']):=by rw [h,k]
theorem nx_at {l:List UInt8} {k:Nat} (h:sz (l.drop k)=1):nx (l.drop k)=l.drop (k+1):=by unfold nx;rw [h,List.drop_drop]
theorem has_open (s:ByteArray) (k:Nat) (w:World) (hk:k<s.size) (hs:s.size≤1073741824) :
  Calls Tryz.prog 93 #[.string s,.int .i64 k,.int .u8 123,.int .u8 45] w fun e w'=>e=.returned (.bool (hasB s k 123 45))∧w'=w:=has_any s k 123 45 w hk hs (by omega) (by omega)
theorem has_shut (s:ByteArray) (k:Nat) (w:World) (hk:k<s.size) (hs:s.size≤1073741824) :
  Calls Tryz.prog 93 #[.string s,.int .i64 k,.int .u8 45,.int .u8 125] w fun e w'=>e=.returned (.bool (hasB s k 45 125))∧w'=w:=has_any s k 45 125 w hk hs (by omega) (by omega)
structure InNest (s:ByteArray) (p k D:Nat):Prop where
 pos:1≤D
 kind:(nest 1 ((bs s).drop (p+2))).1=(nest D ((bs s).drop k)).1
 len:p+2+(nest 1 ((bs s).drop (p+2))).2=k+(nest D ((bs s).drop k)).2
set_option maxRecDepth 100000 in
set_option maxHeartbeats 4000000 in
theorem refNested_any (s:ByteArray) (p:Nat) (w:World) (hs:s.size≤1073741824) (h1:cc ((bs s).drop p)=123) (h2:cc ((bs s).drop (p+1))=45) :
  Calls Tryz.prog 94 #[.string s,.int .i64 p] w fun e w'=>e=.returned (.tuple #[.int .i64 ((p+(2+(nest 1 ((bs s).drop (p+2))).2):Nat):Int),.bool (decide ((nest 1 ((bs s).drop (p+2))).1=2))])∧w'=w:=by
 have hp1:p+1<s.size:=lt_of_cc h2 (by omega)
 have H0:=hide (And.intro h1 h2)
 clear h1 h2
 go_enter Tryz.func94,Tryz.ntmps94
 go_wp2_with fail
 go_loop [1,6] (fun i d=>∃ k D:Nat,i=.int .i64 k∧d=.int .i64 D∧k≤s.size∧D≤k∧((D=0∧k=p)∨Hid (InNest s p k D))) (fun i _=>s.size - (intOf i).toNat)
 case atStart=>exact ⟨p,0,rfl,rfl,by omega,by omega,.inl ⟨rfl,rfl⟩⟩
 case round =>
  obtain ⟨k,D,rfl,rfl,hk,hD,hI⟩:=hrel
  by_cases hlt:k<s.size
  ·cases ho:hasB s k 123 45
   ·rcases hI with ⟨rfl,rfl⟩|HI
    ·exact absurd (hasB_of (H0.out).1 (H0.out).2) (by rw [ho];simp)
    have hp:=(HI.out).pos
    cases hsh:hasB s k 45 125
    ·have HN:=hide (nest_step (d:=D) (drop_ne hlt) (by rw [List.drop_drop];exact hasB_no ho) (by rw [List.drop_drop];exact hasB_no hsh))
     go_wp2_with fail
     refine (has_open s k _ hlt hs).mono ?_
     rintro e w' ⟨rfl,rfl⟩
     go_wp2_with fail
     refine (has_shut s k _ hlt hs).mono ?_
     rintro e w' ⟨rfl,rfl⟩
     go_wp2_with fail
     go_round
     case rel =>
      obtain ⟨a1,a2,a3⟩:=HI.out
      rw [HN.out,List.drop_drop] at a2 a3
      exact ⟨k+1,D,by go_num,rfl,by omega,by omega,.inr ⟨a1,a2,by rw [a3];simp only;omega⟩⟩
     case measure=>simp [intOf];omega
    ·obtain ⟨g1,g2⟩:=hasB_yes hsh
     have z1:sz ((bs s).drop k)=1:=sz_cc (by omega) (by omega)
     have z2:sz ((bs s).drop (k+1))=1:=sz_cc (by omega) (by omega)
     have e1:=nx_at z1
     have e2:=nx_at z2
     have hk2:k+1<s.size:=lt_of_cc g2 (by omega)
     by_cases hd1:D≤1
     ·have HN:=hide (nest_last (deep:=D) g1 (by rw [e1];exact g2) hd1)
      have hD1:D=1:=by omega
      subst hD1
      clear g1 g2 e1 e2 z1 z2
      go_wp2_with fail
      refine (has_open s k _ hlt hs).mono ?_
      rintro e w' ⟨rfl,rfl⟩
      go_wp2_with fail
      refine (has_shut s k _ hlt hs).mono ?_
      rintro e w' ⟨rfl,rfl⟩
      go_wp2_with fail
      go_ret2
      obtain ⟨a1,a2,a3⟩:=HI.out
      rw [HN.out] at a2 a3
      exact ⟨ret_ib (by simp only at a3;omega) (by rw [a2];rfl),rfl⟩
     ·have HN:=hide (nest_shut (deep:=D) g1 (by rw [e1];exact g2) hd1)
      rw [e1,e2,show k+1+1=k+2 from rfl] at HN
      have hDb:((D:Int) - 1==0)=false:=by simp;omega
      clear g1 g2 e1 e2 z1 z2
      go_wp2_with fail
      refine (has_open s k _ hlt hs).mono ?_
      rintro e w' ⟨rfl,rfl⟩
      go_wp2_with fail
      refine (has_shut s k _ hlt hs).mono ?_
      rintro e w' ⟨rfl,rfl⟩
      go_wp2_with fail
      go_round
      case rel =>
       obtain ⟨a1,a2,a3⟩:=HI.out
       rw [HN.out] at a2 a3
       exact ⟨k+2,D - 1,by go_num,by go_num,by omega,by omega,.inr ⟨by omega,a2,by rw [a3];simp only;omega⟩⟩
      case measure=>simp [intOf];omega
   ·obtain ⟨g1,g2⟩:=hasB_yes ho
    have z1:sz ((bs s).drop k)=1:=sz_cc (by omega) (by omega)
    have z2:sz ((bs s).drop (k+1))=1:=sz_cc (by omega) (by omega)
    have e1:=nx_at z1
    have e2:=nx_at z2
    have hk2:k+1<s.size:=lt_of_cc g2 (by omega)
    have HN:=hide (nest_open (deep:=D) g1 (by rw [e1];exact g2))
    rw [e1,e2,show k+1+1=k+2 from rfl] at HN
    clear g1 g2 e1 e2 z1 z2
    go_wp2_with fail
    refine (has_open s k _ hlt hs).mono ?_
    rintro e w' ⟨rfl,rfl⟩
    go_wp2_with fail
    refine (has_shut s k _ hlt hs).mono ?_
    rintro e w' ⟨rfl,rfl⟩
    go_wp2_with fail
    go_round
    case rel =>
     refine ⟨k+2,D+1,by go_num,by go_num,by omega,by omega,.inr ?_⟩
     rcases hI with ⟨rfl,rfl⟩|HI
     ·exact ⟨by omega,rfl,rfl⟩
     ·obtain ⟨a1,a2,a3⟩:=HI.out
      rw [HN.out] at a2 a3
      exact ⟨by omega,a2,by rw [a3];simp only;omega⟩
    case measure=>simp [intOf];omega
  ·rcases hI with ⟨rfl,rfl⟩|HI
   ·omega
   have hke:k=s.size:=by omega
   have HE:Hid ((bs s).drop k=[]):=by show _=_;rw [List.drop_eq_nil_iff,bs_len];omega
   go_wp2_with fail
   go_ret2
   obtain ⟨a1,a2,a3⟩:=HI.out
   rw [HE.out,nest_end] at a2 a3
   exact ⟨ret_ib (by simp only at a3;omega) (by rw [a2];rfl),rfl⟩
end Go.Proofs.YtgpcpbmacdhlkaaGreatDoor
/- The document's own reading of what a \ takes. -/
namespace Go.Proofs.YtgpcpbmacdhlkaaGreatDoor
open Go.RowKit
open M
def esc (u:List UInt8):Int × Nat:=if (taken u).2.1 then ((taken u).1,1+(taken u).2.2) else (0,0)
theorem ret_ii {a a' b b':Int} (h:a=a') (k:b=b'):Ending.returned (.tuple #[.int .i64 a,.int .i64 b])=.returned (.tuple #[.int .i64 a',.int .i64 b']):=by rw [h,k]
theorem taken_plain {u:List UInt8} (h1:cc u≠110) (h2:cc u≠116) (h3:cc u≠34) (h4:cc u≠92) (h5:cc u≠117):esc u=(0,0):=by
 have:(taken u).2.1=false:=by
  unfold taken
  by_cases h:cc u=-1∨cc u=10
  ·rw [if_pos h]
  ·rw [if_neg h,if_neg h1,if_neg h2,if_neg (by omega),if_neg h5]
 unfold esc;rw [this];rfl
theorem esc_u {s:ByteArray} {p j:Nat} {C:Int} (h1:cc ((bs s).drop (p+1))=117) (h2:cc ((bs s).drop (p+2))=123) (h3:hexs 6 0 ((bs s).drop (p+3))=(C,j)) :
  esc ((bs s).drop (p+1))=if j=0∨cc ((bs s).drop (p+3+j))≠125 then (0,0) else if Lib.validRune C then (C,j+4) else (0,0):=by
 have z1:sz ((bs s).drop (p+1))=1:=sz_cc (by omega) (by omega)
 have z2:sz ((bs s).drop (p+2))=1:=sz_cc (by omega) (by omega)
 have e1:nx ((bs s).drop (p+1))=(bs s).drop (p+2):=nx_at z1
 have e2:nx ((bs s).drop (p+2))=(bs s).drop (p+3):=nx_at z2
 have et:taken ((bs s).drop (p+1))=((code ((bs s).drop (p+2))).1,(code ((bs s).drop (p+2))).2.1,1+(code ((bs s).drop (p+2))).2.2):=by
  unfold taken;rw [if_neg (by omega),if_neg (by omega),if_neg (by omega),if_neg (by omega),if_pos h1,e1]
 have ec:code ((bs s).drop (p+2))=if j=0∨cc ((bs s).drop (p+3+j))≠125 then (0,false,1+j) else (C,Lib.validRune C,2+j):=by
  unfold code;rw [if_pos h2,e2,h3];simp only [List.drop_drop]
 unfold esc
 rw [et,ec]
 by_cases g:j=0∨cc ((bs s).drop (p+3+j))≠125
 ·rw [if_pos g,if_pos g];rfl
 ·rw [if_neg g,if_neg g]
  simp only
  cases Lib.validRune C
  ·rfl
  ·simp only [if_true,Prod.mk.injEq,true_and];omega
theorem esc_u0 {s:ByteArray} {p:Nat} (h1:cc ((bs s).drop (p+1))=117) (h2:cc ((bs s).drop (p+2))≠123):esc ((bs s).drop (p+1))=(0,0):=by
 have z1:sz ((bs s).drop (p+1))=1:=sz_cc (by omega) (by omega)
 have e1:nx ((bs s).drop (p+1))=(bs s).drop (p+2):=nx_at z1
 have ec:code ((bs s).drop (p+2))=(0,false,0):=by unfold code;rw [if_neg h2]
 have et:taken ((bs s).drop (p+1))=(0,false,1):=by
  unfold taken;rw [if_neg (by omega),if_neg (by omega),if_neg (by omega),if_neg (by omega),if_pos h1,e1,ec];rfl
 unfold esc;rw [et];rfl
theorem hex_byte {s:ByteArray} {k:Nat} (h:k<s.size):hexOf ((s[k]'h).toNat:Int)=hexOf (cc ((bs s).drop k)):=by
 by_cases h1:(s[k]'h).toNat<128
 ·rw [(byte_lo h h1).1]
 ·have h2:=byte_hi h (by omega)
  have e1:hexOf (cc ((bs s).drop k))=-1:=by
   rcases Int.lt_or_le (hexOf (cc ((bs s).drop k))) 0 with g|g
   ·have:=(hexOf_lt (cc ((bs s).drop k))).1;omega
   ·have:=hexOf_ascii g;omega
  have e2:hexOf ((s[k]'h).toNat:Int)=-1:=by
   rcases Int.lt_or_le (hexOf ((s[k]'h).toNat:Int)) 0 with g|g
   ·have:=(hexOf_lt ((s[k]'h).toNat:Int)).1;omega
   ·have:=hexOf_ascii g;omega
  rw [e1,e2]
structure InEsc (s:ByteArray) (p j:Nat) (C:Int):Prop where
 lo:0≤C
 hi:C<((16 ^ j:Nat):Int)
 eq:hexs 6 0 ((bs s).drop p)=((hexs (6 - j) C ((bs s).drop (p+j))).1,j+(hexs (6 - j) C ((bs s).drop (p+j))).2)
theorem InEsc.stop {s:ByteArray} {p j:Nat} {C:Int} (h:InEsc s p j C) (hj:j≤6) (hx:¬(j<6∧0≤hexOf (cc ((bs s).drop (p+j))))):hexs 6 0 ((bs s).drop p)=(C,j):=by
 rw [h.eq]
 by_cases h6:j<6
 ·obtain ⟨m,hm⟩:∃ m,6 - j=m+1:=⟨5 - j,by omega⟩
  rw [hm];unfold hexs;rw [if_neg (fun h=>hx ⟨h6,h⟩)];rfl
 ·have:6 - j=0:=by omega
  rw [this];rfl
theorem InEsc.next {s:ByteArray} {p j:Nat} {C:Int} (h:InEsc s p j C) (hj:j<6) (hx:0≤hexOf (cc ((bs s).drop (p+j)))):InEsc s p (j+1) (C*16+hexOf (cc ((bs s).drop (p+j)))):=by
 have hh:=hexOf_lt (cc ((bs s).drop (p+j)))
 have h0:=h.lo
 refine ⟨by omega,pow16' h.hi hh.2,?_⟩
 rw [h.eq]
 obtain ⟨m,hm⟩:∃ m,6 - j=m+1:=⟨5 - j,by omega⟩
 have hm2:6 - (j+1)=m:=by omega
 have ha:=hexOf_ascii hx
 have z1:sz ((bs s).drop (p+j))=1:=sz_cc (by omega) (by omega)
 rw [hm,hm2,show p+(j+1)=p+j+1 from rfl]
 conv=>lhs;unfold hexs
 rw [if_pos hx,nx_drop,z1]
 simp only [Prod.mk.injEq]
 exact ⟨trivial,by omega⟩
end Go.Proofs.YtgpcpbmacdhlkaaGreatDoor
/- The document's own reading of what a \ takes: its answer. -/
namespace Go.Proofs.YtgpcpbmacdhlkaaGreatDoor
open Go.RowKit
open M
set_option maxRecDepth 100000 in
set_option maxHeartbeats 8000000 in
theorem escape_any (s:ByteArray) (p:Nat) (w:World) (hs:s.size≤1073741824) (hp:p<s.size) :
  Calls Tryz.prog 122 #[.string s,.int .i64 p] w fun e w'=>e=.returned (.tuple #[.int .i64 (esc ((bs s).drop (p+1))).1,.int .i64 (esc ((bs s).drop (p+1))).2])∧w'=w:=by
 by_cases h1:p+1<s.size
 case neg =>
  have i1:(s.size:Int)≤(p:Int)+1:=by omega
  have HE:Hid (esc ((bs s).drop (p+1))=(0,0)):=by
   show _=_
   rw [show (bs s).drop (p+1)=[] by rw [List.drop_eq_nil_iff,bs_len];omega]
   exact taken_plain (by rw [cc_nil];omega) (by rw [cc_nil];omega) (by rw [cc_nil];omega) (by rw [cc_nil];omega) (by rw [cc_nil];omega)
  go_enter Tryz.func122,Tryz.ntmps122
  go_wp2_with fail
  go_ret2
  rw [HE.out]
  exact ⟨rfl,rfl⟩
 have i1:(p:Int)+1<(s.size:Int):=by omega
 by_cases g110:(s[p+1]'h1).toNat=110
 ·have HE:Hid (esc ((bs s).drop (p+1))=(10,2)):=by
   show _=_
   have e:cc ((bs s).drop (p+1))=110:=(byte_cc h1 (c:=110) (by omega)).2 g110
   have et:taken ((bs s).drop (p+1))=(10,true,1):=by unfold taken;rw [if_neg (by omega),if_pos e]
   unfold esc;rw [et];rfl
  have gi:((s[p+1]'h1).toNat:Int)=110:=by omega
  have gu:(s[p+1]'h1)=110:=by rw [← UInt8.toNat_inj];exact g110
  go_enter Tryz.func122,Tryz.ntmps122
  go_wp2_with fail
  go_ret2
  rw [HE.out]
  exact ⟨rfl,rfl⟩
 by_cases g116:(s[p+1]'h1).toNat=116
 ·have HE:Hid (esc ((bs s).drop (p+1))=(9,2)):=by
   show _=_
   have e:cc ((bs s).drop (p+1))=116:=(byte_cc h1 (c:=116) (by omega)).2 g116
   have et:taken ((bs s).drop (p+1))=(9,true,1):=by unfold taken;rw [if_neg (by omega),if_neg (by omega),if_pos e]
   unfold esc;rw [et];rfl
  have gi:((s[p+1]'h1).toNat:Int)=116:=by omega
  have gu:(s[p+1]'h1)=116:=by rw [← UInt8.toNat_inj];exact g116
  go_enter Tryz.func122,Tryz.ntmps122
  go_wp2_with fail
  go_ret2
  rw [HE.out]
  exact ⟨rfl,rfl⟩
 by_cases g34:(s[p+1]'h1).toNat=34
 ·have HE:Hid (esc ((bs s).drop (p+1))=(34,2)):=by
   show _=_
   have e:cc ((bs s).drop (p+1))=34:=(byte_cc h1 (c:=34) (by omega)).2 g34
   have et:taken ((bs s).drop (p+1))=(34,true,1):=by unfold taken;rw [if_neg (by omega),if_neg (by omega),if_neg (by omega),if_pos (.inl e),e]
   unfold esc;rw [et];rfl
  have gi:((s[p+1]'h1).toNat:Int)=34:=by omega
  have gu:(s[p+1]'h1)=34:=by rw [← UInt8.toNat_inj];exact g34
  go_enter Tryz.func122,Tryz.ntmps122
  go_wp2_with fail
  go_ret2
  rw [HE.out]
  exact ⟨rfl,rfl⟩
 by_cases g92:(s[p+1]'h1).toNat=92
 ·have HE:Hid (esc ((bs s).drop (p+1))=(92,2)):=by
   show _=_
   have e:cc ((bs s).drop (p+1))=92:=(byte_cc h1 (c:=92) (by omega)).2 g92
   have et:taken ((bs s).drop (p+1))=(92,true,1):=by unfold taken;rw [if_neg (by omega),if_neg (by omega),if_neg (by omega),if_pos (.inr e),e]
   unfold esc;rw [et];rfl
  have gi:((s[p+1]'h1).toNat:Int)=92:=by omega
  have gu:(s[p+1]'h1)=92:=by rw [← UInt8.toNat_inj];exact g92
  go_enter Tryz.func122,Tryz.ntmps122
  go_wp2_with fail
  go_ret2
  rw [HE.out]
  exact ⟨rfl,rfl⟩
 have b110:(((s[p+1]'h1).toNat:Int)==110)=false:=by simp;omega
 have b116:(((s[p+1]'h1).toNat:Int)==116)=false:=by simp;omega
 have b34:(((s[p+1]'h1).toNat:Int)==34)=false:=by simp;omega
 have b92:(((s[p+1]'h1).toNat:Int)==92)=false:=by simp;omega
 by_cases g117:(s[p+1]'h1).toNat=117
 case neg =>
  have b117:(((s[p+1]'h1).toNat:Int) !=117)=true:=by simp;omega
  have HE:Hid (esc ((bs s).drop (p+1))=(0,0)):=by
   show _=_
   exact taken_plain (fun e=>g110 ((byte_cc h1 (c:=110) (by omega)).1 e)) (fun e=>g116 ((byte_cc h1 (c:=116) (by omega)).1 e)) (fun e=>g34 ((byte_cc h1 (c:=34) (by omega)).1 e)) (fun e=>g92 ((byte_cc h1 (c:=92) (by omega)).1 e)) (fun e=>g117 ((byte_cc h1 (c:=117) (by omega)).1 e))
  clear g110 g116 g34 g92 g117
  go_enter Tryz.func122,Tryz.ntmps122
  go_wp2_with fail
  go_ret2
  rw [HE.out]
  exact ⟨rfl,rfl⟩
 have hu:cc ((bs s).drop (p+1))=117:=(byte_cc h1 (c:=117) (by omega)).2 g117
 have b117:(((s[p+1]'h1).toNat:Int) !=117)=false:=by simp;omega
 clear g110 g116 g34 g92 g117
 have HU:=hide hu
 clear hu
 by_cases h2:p+2<s.size
 case neg =>
  have i2:decide ((s.size:Int)≤(p:Int)+2)=true:=by simp;omega
  have HE:Hid (esc ((bs s).drop (p+1))=(0,0)):=by
   show _=_
   refine esc_u0 HU.out ?_
   rw [show (bs s).drop (p+2)=[] by rw [List.drop_eq_nil_iff,bs_len];omega,cc_nil];omega
  go_enter Tryz.func122,Tryz.ntmps122
  go_wp2_with fail
  go_ret2
  rw [HE.out]
  exact ⟨rfl,rfl⟩
 have i2:(p:Int)+2<(s.size:Int):=by omega
 have i2':decide ((s.size:Int)≤(p:Int)+2)=false:=by simp;omega
 by_cases g123:(s[p+2]'h2).toNat=123
 case neg =>
  have b123:(((s[p+2]'h2).toNat:Int) !=123)=true:=by simp;omega
  have HE:Hid (esc ((bs s).drop (p+1))=(0,0)):=by
   show _=_
   exact esc_u0 HU.out (fun e=>g123 ((byte_cc h2 (c:=123) (by omega)).1 e))
  clear g123
  go_enter Tryz.func122,Tryz.ntmps122
  go_wp2_with fail
  go_ret2
  rw [HE.out]
  exact ⟨rfl,rfl⟩
 have H2:Hid (cc ((bs s).drop (p+2))=(123:Int)):=(byte_cc h2 (c:=123) (by omega)).2 g123
 have b123:(((s[p+2]'h2).toNat:Int) !=123)=false:=by simp;omega
 clear g123
 go_enter Tryz.func122,Tryz.ntmps122
 go_wp2_with fail
 go_loop [7,8] (fun i c=>∃ (j:Nat) (C:Int),j≤6∧i=.int .i64 ((p+3+j:Nat):Int)∧c=.int .i64 C∧p+3+j≤s.size∧Hid (InEsc s (p+3) j C)) (fun i _=>p+9 - (intOf i).toNat)
 case atStart=>exact ⟨0,0,by omega,by go_num,rfl,by omega,⟨by omega,by decide,by simp⟩⟩
 case round =>
  obtain ⟨j,C,hj,rfl,rfl,hle,HI⟩:=hrel
  obtain ⟨k,hk⟩:∃ k,k=p+3+j:=⟨_,rfl⟩
  rw [← hk] at hle
  rw [← hk]
  have hlo:=(HI.out).lo
  have hhi:=pow16'' hj (HI.out).hi
  have HK:=hide hk
  have hk3:(k:Int)=(p:Int)+3+(j:Int):=by omega
  have HK3:=hide hk3
  clear hk hk3
  by_cases hk1:k<s.size
  case neg =>
   have hke:k=s.size:=by omega
   have HS:=hide ((HI.out).stop hj (fun hx=>by
    have e:=lt_of_cc (s:=s) (k:=p+3+j) (c:=cc ((bs s).drop (p+3+j))) rfl (fun e=>by have h9:=hx.2;rw [e] at h9;exact absurd h9 (by decide))
    have:=HK.out;omega))
   have HE:Hid (esc ((bs s).drop (p+1))=(0,0)):=by
    show _=_
    rw [esc_u HU.out H2.out HS.out,if_pos]
    right
    rw [show (bs s).drop (p+3+j)=[] by rw [List.drop_eq_nil_iff,bs_len];have:=HK.out;omega,cc_nil];omega
   have i5:decide ((s.size:Int)≤(k:Int))=true:=by simp;omega
   by_cases hj0:j=0
   ·have i4:((k:Int)==(p:Int)+3)=true:=by have:=HK3.out;simp;omega
    clear hke
    go_wp2_with fail
    go_ret2
    rw [HE.out]
    exact ⟨rfl,rfl⟩
   ·have i4:((k:Int)==(p:Int)+3)=false:=by have:=HK3.out;simp;omega
    clear hke
    go_wp2_with fail
    go_ret2
    rw [HE.out]
    exact ⟨rfl,rfl⟩
  have i3:(k:Int)<(s.size:Int):=by omega
  have i5:decide ((s.size:Int)≤(k:Int))=false:=by simp;omega
  have hxb:=hex_byte hk1
  have hcc:cc ((bs s).drop (p+3+j))=cc ((bs s).drop k):=by rw [HK.out]
  have hhx:=hexOf_lt ((s[k]'hk1).toNat:Int)
  have HXB:=hide hxb
  have HCC:=hide hcc
  clear hxb hcc
  by_cases hx:j<6∧0≤hexOf ((s[k]'hk1).toNat:Int)
  ·obtain ⟨hj6,hx0⟩:=hx
   have i4:(k:Int)<(p:Int)+9:=by have:=HK3.out;omega
   have hC5:=pow16 (by omega:j≤5) (HI.out).hi
   go_wp2_with ((go_at_call 135;refine (hexa_any _ _ (by have:=(s[k]'hk1).toNat_lt;omega)).mono ?_;rintro e w' ⟨rfl,rfl⟩))
   go_round
   case rel =>
    have hn:=(HI.out).next hj6 (by rw [HCC.out,← HXB.out];exact hx0)
    rw [HCC.out,← HXB.out] at hn
    have h3:=HK3.out
    have hkk:=HK.out
    exact ⟨j+1,_,by omega,by rw [show ((p+3+(j+1):Nat):Int)=(k:Int)+1 by omega],rfl,by omega,hn⟩
   case measure=>have h3:=HK3.out;simp [intOf];omega
  have HS:=hide ((HI.out).stop hj (fun h=>hx ⟨h.1,by rw [HXB.out,← HCC.out];exact h.2⟩))
  have HE0:=hide (esc_u HU.out H2.out HS.out)
  by_cases hj0:j=0
  ·have i4:((k:Int)==(p:Int)+3)=true:=by have:=HK3.out;simp;omega
   have i6:(k:Int)<(p:Int)+9:=by have:=HK3.out;omega
   have hx0:hexOf ((s[k]'hk1).toNat:Int)<0:=by
    rcases Int.lt_or_le (hexOf ((s[k]'hk1).toNat:Int)) 0 with g|g
    ·exact g
    ·exact absurd ⟨by omega,g⟩ hx
   have HE:Hid (esc ((bs s).drop (p+1))=(0,0)):=by show _=_;rw [HE0.out,if_pos (.inl hj0)]
   clear hx
   go_wp2_with ((go_at_call 135;refine (hexa_any _ _ (by have:=(s[k]'hk1).toNat_lt;omega)).mono ?_;rintro e w' ⟨rfl,rfl⟩))
   go_ret2
   rw [HE.out]
   exact ⟨rfl,rfl⟩
  have i4:((k:Int)==(p:Int)+3)=false:=by have:=HK3.out;simp;omega
  have hvar:(j=6∧¬(k:Int)<(p:Int)+9)∨(j<6∧(k:Int)<(p:Int)+9∧hexOf ((s[k]'hk1).toNat:Int)<0):=by
   have h3:=HK3.out
   rcases Int.lt_or_le (hexOf ((s[k]'hk1).toNat:Int)) 0 with g|g
   ·by_cases h6:j<6
    ·exact .inr ⟨h6,by omega,g⟩
    ·exact .inl ⟨by omega,by omega⟩
   ·by_cases h6:j<6
    ·exact absurd ⟨h6,g⟩ hx
    ·exact .inl ⟨by omega,by omega⟩
  clear hx
  by_cases h125:(s[k]'hk1).toNat=125
  case neg =>
   have b125:(((s[k]'hk1).toNat:Int) !=125)=true:=by simp;omega
   have HE:Hid (esc ((bs s).drop (p+1))=(0,0)):=by
    show _=_
    rw [HE0.out,if_pos]
    right;rw [HCC.out];exact fun e=>h125 ((byte_cc hk1 (c:=125) (by omega)).1 e)
   clear h125
   rcases hvar with ⟨hv1,hv2⟩|⟨hv1,hv2,hv3⟩
   ·skip
    clear hj0 hv1
    go_wp2_with ((go_at_call 135;refine (hexa_any _ _ (by have:=(s[k]'hk1).toNat_lt;omega)).mono ?_;rintro e w' ⟨rfl,rfl⟩))
    go_ret2
    rw [HE.out]
    exact ⟨rfl,rfl⟩
   ·skip
    clear hj0 hv1
    go_wp2_with ((go_at_call 135;refine (hexa_any _ _ (by have:=(s[k]'hk1).toNat_lt;omega)).mono ?_;rintro e w' ⟨rfl,rfl⟩))
    go_ret2
    rw [HE.out]
    exact ⟨rfl,rfl⟩
  have b125:(((s[k]'hk1).toNat:Int) !=125)=false:=by simp;omega
  have HN:Hid (¬(j=0∨cc ((bs s).drop (p+3+j))≠125)):=by
   have e1:cc ((bs s).drop k)=125:=(byte_cc hk1 (c:=125) (by omega)).2 h125
   show ¬ _
   rw [HCC.out,e1];simp [hj0]
  clear h125
  by_cases hb1:C≤1114111
  case neg =>
   have j1:decide ((1114111:Int)<C)=true:=by simp;omega
   have HE:Hid (esc ((bs s).drop (p+1))=(0,0)):=by
    show _=_
    rw [HE0.out,if_neg HN.out,if_neg]
    unfold Lib.validRune;simp;omega
   clear hb1
   rcases hvar with ⟨hv1,hv2⟩|⟨hv1,hv2,hv3⟩
   ·skip
    clear hj0 hv1
    go_wp2_with ((go_at_call 135;refine (hexa_any _ _ (by have:=(s[k]'hk1).toNat_lt;omega)).mono ?_;rintro e w' ⟨rfl,rfl⟩))
    go_ret2
    rw [HE.out]
    exact ⟨rfl,rfl⟩
   ·skip
    clear hj0 hv1
    go_wp2_with ((go_at_call 135;refine (hexa_any _ _ (by have:=(s[k]'hk1).toNat_lt;omega)).mono ?_;rintro e w' ⟨rfl,rfl⟩))
    go_ret2
    rw [HE.out]
    exact ⟨rfl,rfl⟩
  have j1:decide ((1114111:Int)<C)=false:=by simp;omega
  by_cases hb2:55296≤C
  ·have j2:decide ((55296:Int)≤C)=true:=by simpa using hb2
   by_cases hb3:C≤57343
   ·have j3:decide (C≤(57343:Int))=true:=by simpa using hb3
    have HE:Hid (esc ((bs s).drop (p+1))=(0,0)):=by
     show _=_
     rw [HE0.out,if_neg HN.out,if_neg]
     unfold Lib.validRune;simp;omega
    rcases hvar with ⟨hv1,hv2⟩|⟨hv1,hv2,hv3⟩
    ·skip
     clear hj0 hv1
     go_wp2_with ((go_at_call 135;refine (hexa_any _ _ (by have:=(s[k]'hk1).toNat_lt;omega)).mono ?_;rintro e w' ⟨rfl,rfl⟩))
     go_ret2
     rw [HE.out]
     exact ⟨rfl,rfl⟩
    ·skip
     clear hj0 hv1
     go_wp2_with ((go_at_call 135;refine (hexa_any _ _ (by have:=(s[k]'hk1).toNat_lt;omega)).mono ?_;rintro e w' ⟨rfl,rfl⟩))
     go_ret2
     rw [HE.out]
     exact ⟨rfl,rfl⟩
   ·have j3:decide (C≤(57343:Int))=false:=by simpa using hb3
    have HE:Hid (esc ((bs s).drop (p+1))=(C,j+4)):=by
     show _=_
     rw [HE0.out,if_neg HN.out,if_pos]
     unfold Lib.validRune;simp;omega
    rcases hvar with ⟨hv1,hv2⟩|⟨hv1,hv2,hv3⟩
    ·skip
     clear hj0 hv1
     go_wp2_with ((go_at_call 135;refine (hexa_any _ _ (by have:=(s[k]'hk1).toNat_lt;omega)).mono ?_;rintro e w' ⟨rfl,rfl⟩))
     go_ret2
     rw [HE.out]
     exact ⟨ret_ii rfl (by have:=HK3.out;simp only;omega),rfl⟩
    ·skip
     clear hj0 hv1
     go_wp2_with ((go_at_call 135;refine (hexa_any _ _ (by have:=(s[k]'hk1).toNat_lt;omega)).mono ?_;rintro e w' ⟨rfl,rfl⟩))
     go_ret2
     rw [HE.out]
     exact ⟨ret_ii rfl (by have:=HK3.out;simp only;omega),rfl⟩
  ·have j2:decide ((55296:Int)≤C)=false:=by simpa using hb2
   have HE:Hid (esc ((bs s).drop (p+1))=(C,j+4)):=by
    show _=_
    rw [HE0.out,if_neg HN.out,if_pos]
    unfold Lib.validRune;simp;omega
   rcases hvar with ⟨hv1,hv2⟩|⟨hv1,hv2,hv3⟩
   ·skip
    clear hj0 hv1
    go_wp2_with ((go_at_call 135;refine (hexa_any _ _ (by have:=(s[k]'hk1).toNat_lt;omega)).mono ?_;rintro e w' ⟨rfl,rfl⟩))
    go_ret2
    rw [HE.out]
    exact ⟨ret_ii rfl (by have:=HK3.out;simp only;omega),rfl⟩
   ·skip
    clear hj0 hv1
    go_wp2_with ((go_at_call 135;refine (hexa_any _ _ (by have:=(s[k]'hk1).toNat_lt;omega)).mono ?_;rintro e w' ⟨rfl,rfl⟩))
    go_ret2
    rw [HE.out]
    exact ⟨ret_ii rfl (by have:=HK3.out;simp only;omega),rfl⟩
end Go.Proofs.YtgpcpbmacdhlkaaGreatDoor
/- The document's own texts between quotes. -/
namespace Go.Proofs.YtgpcpbmacdhlkaaGreatDoor
open Go.RowKit
open M
theorem refRune_at (s:ByteArray) (k:Nat) (w:World) (h:k<s.size) :
  Calls Tryz.prog 48 #[.string (s.extract k s.size)] w fun e w'=>e=.returned (.tuple #[.int .i64 (cc ((bs s).drop k)),.int .i64 (sz ((bs s).drop k))])∧w'=w:=by
 have h0:0<(s.extract k s.size).size:=by rw [← bs_len,bs_drop,List.length_drop,bs_len];omega
 have:=refRune_any (s.extract k s.size) w h0
 rw [bs_drop,← cc_some (drop_ne h)] at this
 exact this
structure InQ (s:ByteArray) (p k K:Nat):Prop where
 kind:(quo 6 ((bs s).drop (p+1))).1=(quo K ((bs s).drop k)).1
 len:p+1+(quo 6 ((bs s).drop (p+1))).2=k+(quo K ((bs s).drop k)).2
set_option maxRecDepth 100000 in
set_option maxHeartbeats 8000000 in
theorem refQuoted_any (s:ByteArray) (p:Nat) (w:World) (hs:s.size≤1073741824) (hp:p<s.size) :
  Calls Tryz.prog 96 #[.string s,.int .i64 p] w fun e w'=>e=.returned (.tuple #[.int .i64 ((p+(1+(quo 6 ((bs s).drop (p+1))).2):Nat):Int),.int .i64 (quo 6 ((bs s).drop (p+1))).1])∧w'=w:=by
 go_enter Tryz.func96,Tryz.ntmps96
 go_wp2_with fail
 go_loop [1,6] (fun i d=>∃ k K:Nat,i=.int .i64 k∧d=.int .i64 K∧k≤s.size∧Hid (InQ s p k K)) (fun i _=>s.size - (intOf i).toNat)
 case atStart=>exact ⟨p+1,6,by go_num,rfl,by omega,⟨rfl,rfl⟩⟩
 case round =>
  obtain ⟨k,K,rfl,rfl,hk,HI⟩:=hrel
  by_cases hk1:k<s.size
  case neg =>
   have HE:=hide (quo_end (kind:=K) (t:=(bs s).drop k) (.inl (cc_ne.2 (by rw [List.drop_eq_nil_iff,bs_len];omega))))
   go_wp2_with fail
   go_ret2
   obtain ⟨a1,a2⟩:=HI.out
   rw [HE.out] at a1 a2
   exact ⟨ret_ii (by simp only at a2;omega) (by rw [a1];rfl),rfl⟩
  have i1:(k:Int)<(s.size:Int):=by omega
  by_cases g10:(s[k]'hk1).toNat=10
  ·have b10:(((s[k]'hk1).toNat:Int) !=10)=false:=by simp;omega
   have HE:=hide (quo_end (kind:=K) (t:=(bs s).drop k) (.inr ((byte_cc hk1 (c:=10) (by omega)).2 g10)))
   clear g10
   go_wp2_with fail
   go_ret2
   obtain ⟨a1,a2⟩:=HI.out
   rw [HE.out] at a1 a2
   exact ⟨ret_ii (by simp only at a2;omega) (by rw [a1];rfl),rfl⟩
  have b10:(((s[k]'hk1).toNat:Int) !=10)=true:=by simp;omega
  by_cases g34:(s[k]'hk1).toNat=34
  ·have b34:(((s[k]'hk1).toNat:Int)==34)=true:=by simp;omega
   have HE:=hide (quo_shut (kind:=K) (t:=(bs s).drop k) ((byte_cc hk1 (c:=34) (by omega)).2 g34))
   clear g10 g34
   go_wp2_with fail
   go_ret2
   obtain ⟨a1,a2⟩:=HI.out
   rw [HE.out] at a1 a2
   exact ⟨ret_ii (by simp only at a2;omega) (by rw [a1]),rfl⟩
  have b34:(((s[k]'hk1).toNat:Int)==34)=false:=by simp;omega
  by_cases g92:(s[k]'hk1).toNat=92
  ·have b92:(((s[k]'hk1).toNat:Int)==92)=true:=by simp;omega
   have hc92:cc ((bs s).drop k)=92:=(byte_cc hk1 (c:=92) (by omega)).2 g92
   have z1:sz ((bs s).drop k)=1:=sz_cc (by omega) (by omega)
   have HN:=hide (quo_slash (kind:=K) hc92)
   rw [nx_at z1,List.drop_drop] at HN
   have HL:=hide (taken_le ((bs s).drop (k+1)))
   clear g10 g34 g92 z1 hc92
   cases hok:(taken ((bs s).drop (k+1))).2.1
   ·have HO:=hide hok
    have HE:Hid (esc ((bs s).drop (k+1))=(0,0)):=by show _=_;unfold esc;rw [hok];rfl
    clear hok
    go_wp2_with fail
    refine (escape_any s k _ hs hk1).mono ?_
    rintro e w' ⟨rfl,rfl⟩
    rw [HE.out]
    rw [HO.out] at HN
    by_cases hk2:k+1<s.size
    case neg =>
     have i2:decide ((s.size:Int)≤(k:Int)+1)=true:=by simp;omega
     have HT:Hid ((bs s).drop (k+1)=[]):=by show _=_;rw [List.drop_eq_nil_iff,bs_len];omega
     go_wp2_with fail
     go_ret2
     obtain ⟨a1,a2⟩:=HI.out
     rw [HN.out] at a1 a2
     have ht:(taken ((bs s).drop (k+1))).2.2=0:=by rw [HT.out];rfl
     have hq:quo (if false=true then K else 8) ((bs s).drop (k+1+(taken ((bs s).drop (k+1))).2.2))=(8,0):=by
      refine quo_end (.inl (cc_ne.2 ?_));rw [List.drop_eq_nil_iff,bs_len];omega
     rw [hq] at a1 a2
     rw [ht] at a2
     exact ⟨ret_ii (by simp only at a2;omega) (by rw [a1];rfl),rfl⟩
    have i2:decide ((s.size:Int)≤(k:Int)+1)=false:=by simp;omega
    have i3:(k:Int)+1<(s.size:Int):=by omega
    by_cases g10':(s[k+1]'hk2).toNat=10
    ·have b10':(((s[k+1]'hk2).toNat:Int)==10)=true:=by simp;omega
     have hc10:cc ((bs s).drop (k+1))=10:=(byte_cc hk2 (c:=10) (by omega)).2 g10'
     have HC10:=hide hc10
     clear g10' hc10
     go_wp2_with fail
     go_ret2
     obtain ⟨a1,a2⟩:=HI.out
     rw [HN.out] at a1 a2
     have ht:(taken ((bs s).drop (k+1))).2.2=0:=by unfold taken;rw [if_pos (.inr HC10.out)]
     rw [ht] at a1 a2
     have hq:quo (if false=true then K else 8) ((bs s).drop (k+1+0))=(8,0):=quo_end (.inr HC10.out)
     rw [hq] at a1 a2
     exact ⟨ret_ii (by simp only at a2;omega) (by rw [a1];rfl),rfl⟩
    ·have b10':(((s[k+1]'hk2).toNat:Int)==10)=false:=by simp;omega
     have hw:=quo_wrong (u:=(bs s).drop (k+1)) (fun e=>drop_ne hk2 (cc_ne.1 e)) (fun e=>g10' ((byte_cc hk2 (c:=10) (by omega)).1 e)) HO.out
     rw [nx_drop,List.drop_drop] at hw
     have HW:=hide hw
     have HZ:=hide (sz_drop_le (s:=s) (p:=k+1) (by omega))
     have hz4:=sz_le4 ((bs s).drop (k+1))
     clear g10' hw
     have i4:(k:Int)+1≤(s.size:Int):=by omega
     have i5:(0:Int)≤(k:Int)+1:=by omega
     go_wp2_with fail
     refine (refRune_at s (k+1) _ hk2).mono ?_
     rintro e w'' ⟨rfl,rfl⟩
     go_wp2_with fail
     go_round
     case rel =>
      obtain ⟨a1,a2⟩:=HI.out
      obtain ⟨c1,c2⟩:=HW.out
      rw [HN.out] at a1 a2
      simp only [Bool.false_eq_true,if_false] at a1 a2
      exact ⟨k+1+sz ((bs s).drop (k+1)),8,by go_num,rfl,HZ.out,⟨by rw [a1,c1],by rw [a2];omega⟩⟩
     case measure=>simp [intOf];omega
   ·have HO:=hide hok
    have HE:Hid (esc ((bs s).drop (k+1))=((taken ((bs s).drop (k+1))).1,1+(taken ((bs s).drop (k+1))).2.2)):=by show _=_;unfold esc;rw [hok];rfl
    clear hok
    have hl:=HL.out
    rw [List.length_drop,bs_len] at hl
    go_wp2_with fail
    refine (escape_any s k _ hs hk1).mono ?_
    rintro e w' ⟨rfl,rfl⟩
    rw [HE.out]
    rw [HO.out] at HN
    simp only
    have hpos:(0:Int)<((1+(taken ((bs s).drop (k+1))).2.2:Nat):Int):=by omega
    obtain ⟨m,hm⟩:∃ m,1+(taken ((bs s).drop (k+1))).2.2=m:=⟨_,rfl⟩
    have HM:=hide hm
    rw [hm] at hpos ⊢
    have hm2:k+m≤s.size:=by omega
    clear hm hl
    go_wp2_with fail
    go_round
    case rel =>
     obtain ⟨a1,a2⟩:=HI.out
     have hm:=HM.out
     rw [HN.out] at a1 a2
     simp only [if_true] at a1 a2
     have e:k+1+(taken ((bs s).drop (k+1))).2.2=k+m:=by omega
     rw [e] at a1 a2
     exact ⟨k+m,K,by go_num,rfl,hm2,⟨a1,by rw [a2];omega⟩⟩
    case measure=>simp [intOf];omega
  ·have b92:(((s[k]'hk1).toNat:Int)==92)=false:=by simp;omega
   have HN:=hide (quo_on (kind:=K) (t:=(bs s).drop k) (fun e=>drop_ne hk1 (cc_ne.1 e)) (fun e=>g10 ((byte_cc hk1 (c:=10) (by omega)).1 e)) (fun e=>g34 ((byte_cc hk1 (c:=34) (by omega)).1 e)) (fun e=>g92 ((byte_cc hk1 (c:=92) (by omega)).1 e)))
   rw [nx_drop] at HN
   have HZ:=hide (sz_drop_le (s:=s) (p:=k) (by omega))
   have hz4:=sz_le4 ((bs s).drop k)
   have hz1:=sz_pos (drop_ne hk1)
   clear g10 g34 g92
   go_wp2_with fail
   refine (refRune_at s k _ hk1).mono ?_
   rintro e w'' ⟨rfl,rfl⟩
   go_wp2_with fail
   go_round
   case rel =>
    obtain ⟨a1,a2⟩:=HI.out
    rw [HN.out] at a1 a2
    exact ⟨k+sz ((bs s).drop k),K,by go_num,rfl,HZ.out,⟨a1,by rw [a2];simp only;omega⟩⟩
   case measure=>simp [intOf];omega
end Go.Proofs.YtgpcpbmacdhlkaaGreatDoor
