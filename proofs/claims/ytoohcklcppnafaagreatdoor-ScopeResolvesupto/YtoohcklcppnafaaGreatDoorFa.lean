import Derived.Test.YtoohcklcppnafaaGreatDoorEb
namespace Go.Proofs.YtoohcklcppnafaaGreatDoor
set_option maxRecDepth 100000
set_option maxHeartbeats 8000000
open Tryz
open Go.RowKit
open M
section
variable{s:ByteArray}
theorem gB{P:Int→Bool}{k c:Nat}(h:k<s.size)(hc:c<128)(hx:(s[k]'h).toNat=c)(hP:P (c:Int)=true):skip P ((bs s).drop k)=1+skip P ((bs s).drop (k+1)):=by
 have e:=(gN h hc).2 hx;have z:sz ((bs s).drop k)=1:=fI au au;rw[jI (iJ h) (by rw[e];exact hP),qE z,z]
theorem zn{k:Nat}(h:k<s.size)(h1:(s[k]'h).toNat≠9)(h2:(s[k]'h).toNat≠10)(h3:(s[k]'h).toNat≠13)(h4:(s[k]'h).toNat≠32):isSp (cc ((bs s).drop k))=false:=by
 unfold isSp;rw[fV];rintro(e|e|e|e)
 ·exact h4 ((gN h (c:=32) au).1 e)
 ·exact h2 ((gN h (c:=10) au).1 e)
 ·exact h1 ((gN h (c:=9) au).1 e)
 ·exact h3 ((gN h (c:=13) au).1 e)
theorem jk{a a' b b' c c':Int}(h1:a=a')(h2:b=b')(h3:c=c'):Ending.returned (.agg #[ak a,ak b,ak c])=.returned (.agg #[ak a',ak b',ak c']):=by rw[h1,h2,h3]
theorem NW(s:ByteArray)(p:Nat)(w:aG)(hs:s.size≤1073741824)(hp:p<s.size)(hc:isSp (cc ((bs s).drop p))=true) :
  bB 54 #[.string s,ak p] w (cK (.agg #[ak 1,ak p,ak (skip isSp ((bs s).drop p):Nat)]) fun w'=>Below w.heap.size w w'):=by
 have hc':cc ((bs s).drop p)=9∨cc ((bs s).drop p)=10∨cc ((bs s).drop p)=13∨cc ((bs s).drop p)=32:=by
  unfold isSp at hc;simp only[nY] at hc;omega
 clear hc;obtain⟨c,hcc⟩:∃ c,cc ((bs s).drop p)=c:=⟨_,rfl⟩;rw[hcc] at hc';rcases hc' with rfl|rfl|rfl|rfl
 ·have HC:=aA hcc
  go_enter func54,ntmps54;go_wp2_with fail
  refine(fF s p _ hp).cO ?_;rw[HC.o];clear hcc;go_wp2_with fail
  refine(dZ _ _).cO ?_;go_wp2_with fail
  go_loop [8] (fun i=>∃ k:Nat,i=ak k∧p≤k∧k≤s.size∧Hid (p+skip isSp ((bs s).drop p)=k+skip isSp ((bs s).drop k))) (fun i=>s.size - (intOf i).toNat)
  case atStart=>exact⟨p,rfl,ax _,au,rfl⟩
  case round =>
   obtain⟨k,rfl,hpk,hk,HI⟩:=hrel;by_cases hk1:k<s.size
   case neg =>
    have HE:Hid ((bs s).drop k=[]):=by show _=_;rw[List.drop_eq_nil_iff,eY];omega
    go_wp2_with fail
    refine aW (v:=.agg #[ak 1,ak p,ak ((k:Int) - (p:Int))]) (by simp[results,results54,go_sem]) rfl ⟨jk rfl rfl ?_,(aB _ _).alloc (ax _) _⟩;have h:=HI.o;rw[HE.o,lI] at h;omega
   have i1:(k:Int)<(s.size:Int):=au
   by_cases g9:(s[k]'hk1).toNat=9
   ·have HN:=aA (gB (P:=isSp) hk1 (au:9<128) g9 aS)
    have gu:(s[k]'hk1)=9:=by rw[← UInt8.toNat_inj];exact g9
    go_wp2_with fail
    go_round
    case rel=>have h:=HI.o;rw[HN.o] at h;exact⟨k+1,by go_num,au,au,by show _=_;omega⟩
    case measure=>simp[intOf];omega
   by_cases g10:(s[k]'hk1).toNat=10
   ·have HN:=aA (gB (P:=isSp) hk1 (au:10<128) g10 aS)
    have gu:(s[k]'hk1)=10:=by rw[← UInt8.toNat_inj];exact g10
    go_wp2_with fail
    go_round
    case rel=>have h:=HI.o;rw[HN.o] at h;exact⟨k+1,by go_num,au,au,by show _=_;omega⟩
    case measure=>simp[intOf];omega
   by_cases g13:(s[k]'hk1).toNat=13
   ·have HN:=aA (gB (P:=isSp) hk1 (au:13<128) g13 aS)
    have gu:(s[k]'hk1)=13:=by rw[← UInt8.toNat_inj];exact g13
    go_wp2_with fail
    go_round
    case rel=>have h:=HI.o;rw[HN.o] at h;exact⟨k+1,by go_num,au,au,by show _=_;omega⟩
    case measure=>simp[intOf];omega
   by_cases ED:(s[k]'hk1).toNat=32
   ·have HN:=aA (gB (P:=isSp) hk1 (au:32<128) ED aS)
    have gu:(s[k]'hk1)=32:=by rw[← UInt8.toNat_inj];exact ED
    go_wp2_with fail
    go_round
    case rel=>have h:=HI.o;rw[HN.o] at h;exact⟨k+1,by go_num,au,au,by show _=_;omega⟩
    case measure=>simp[intOf];omega
   have HN:=aA (lW (zn hk1 g9 g10 g13 ED));have b9:(((s[k]'hk1).toNat:Int)==9)=false:=aQ
   have b10:(((s[k]'hk1).toNat:Int)==10)=false:=aQ
   have b13:(((s[k]'hk1).toNat:Int)==13)=false:=aQ
   have b32:(((s[k]'hk1).toNat:Int)==32)=false:=aQ
   clear g9 g10 g13 ED;go_wp2_with fail
   refine aW (v:=.agg #[ak 1,ak p,ak ((k:Int) - (p:Int))]) (by simp[results,results54,go_sem]) rfl ⟨jk rfl rfl ?_,(aB _ _).alloc (ax _) _⟩;have h:=HI.o;rw[HN.o] at h;omega
 ·have HC:=aA hcc
  go_enter func54,ntmps54;go_wp2_with fail
  refine(fF s p _ hp).cO ?_;rw[HC.o];clear hcc;go_wp2_with fail
  refine(dZ _ _).cO ?_;go_wp2_with fail
  go_loop [8] (fun i=>∃ k:Nat,i=ak k∧p≤k∧k≤s.size∧Hid (p+skip isSp ((bs s).drop p)=k+skip isSp ((bs s).drop k))) (fun i=>s.size - (intOf i).toNat)
  case atStart=>exact⟨p,rfl,ax _,au,rfl⟩
  case round =>
   obtain⟨k,rfl,hpk,hk,HI⟩:=hrel;by_cases hk1:k<s.size
   case neg =>
    have HE:Hid ((bs s).drop k=[]):=by show _=_;rw[List.drop_eq_nil_iff,eY];omega
    go_wp2_with fail
    refine aW (v:=.agg #[ak 1,ak p,ak ((k:Int) - (p:Int))]) (by simp[results,results54,go_sem]) rfl ⟨jk rfl rfl ?_,(aB _ _).alloc (ax _) _⟩;have h:=HI.o;rw[HE.o,lI] at h;omega
   have i1:(k:Int)<(s.size:Int):=au
   by_cases g9:(s[k]'hk1).toNat=9
   ·have HN:=aA (gB (P:=isSp) hk1 (au:9<128) g9 aS)
    have gu:(s[k]'hk1)=9:=by rw[← UInt8.toNat_inj];exact g9
    go_wp2_with fail
    go_round
    case rel=>have h:=HI.o;rw[HN.o] at h;exact⟨k+1,by go_num,au,au,by show _=_;omega⟩
    case measure=>simp[intOf];omega
   by_cases g10:(s[k]'hk1).toNat=10
   ·have HN:=aA (gB (P:=isSp) hk1 (au:10<128) g10 aS)
    have gu:(s[k]'hk1)=10:=by rw[← UInt8.toNat_inj];exact g10
    go_wp2_with fail
    go_round
    case rel=>have h:=HI.o;rw[HN.o] at h;exact⟨k+1,by go_num,au,au,by show _=_;omega⟩
    case measure=>simp[intOf];omega
   by_cases g13:(s[k]'hk1).toNat=13
   ·have HN:=aA (gB (P:=isSp) hk1 (au:13<128) g13 aS)
    have gu:(s[k]'hk1)=13:=by rw[← UInt8.toNat_inj];exact g13
    go_wp2_with fail
    go_round
    case rel=>have h:=HI.o;rw[HN.o] at h;exact⟨k+1,by go_num,au,au,by show _=_;omega⟩
    case measure=>simp[intOf];omega
   by_cases ED:(s[k]'hk1).toNat=32
   ·have HN:=aA (gB (P:=isSp) hk1 (au:32<128) ED aS)
    have gu:(s[k]'hk1)=32:=by rw[← UInt8.toNat_inj];exact ED
    go_wp2_with fail
    go_round
    case rel=>have h:=HI.o;rw[HN.o] at h;exact⟨k+1,by go_num,au,au,by show _=_;omega⟩
    case measure=>simp[intOf];omega
   have HN:=aA (lW (zn hk1 g9 g10 g13 ED));have b9:(((s[k]'hk1).toNat:Int)==9)=false:=aQ
   have b10:(((s[k]'hk1).toNat:Int)==10)=false:=aQ
   have b13:(((s[k]'hk1).toNat:Int)==13)=false:=aQ
   have b32:(((s[k]'hk1).toNat:Int)==32)=false:=aQ
   clear g9 g10 g13 ED;go_wp2_with fail
   refine aW (v:=.agg #[ak 1,ak p,ak ((k:Int) - (p:Int))]) (by simp[results,results54,go_sem]) rfl ⟨jk rfl rfl ?_,(aB _ _).alloc (ax _) _⟩;have h:=HI.o;rw[HN.o] at h;omega
 ·have HC:=aA hcc
  go_enter func54,ntmps54;go_wp2_with fail
  refine(fF s p _ hp).cO ?_;rw[HC.o];clear hcc;go_wp2_with fail
  refine(dZ _ _).cO ?_;go_wp2_with fail
  go_loop [8] (fun i=>∃ k:Nat,i=ak k∧p≤k∧k≤s.size∧Hid (p+skip isSp ((bs s).drop p)=k+skip isSp ((bs s).drop k))) (fun i=>s.size - (intOf i).toNat)
  case atStart=>exact⟨p,rfl,ax _,au,rfl⟩
  case round =>
   obtain⟨k,rfl,hpk,hk,HI⟩:=hrel;by_cases hk1:k<s.size
   case neg =>
    have HE:Hid ((bs s).drop k=[]):=by show _=_;rw[List.drop_eq_nil_iff,eY];omega
    go_wp2_with fail
    refine aW (v:=.agg #[ak 1,ak p,ak ((k:Int) - (p:Int))]) (by simp[results,results54,go_sem]) rfl ⟨jk rfl rfl ?_,(aB _ _).alloc (ax _) _⟩;have h:=HI.o;rw[HE.o,lI] at h;omega
   have i1:(k:Int)<(s.size:Int):=au
   by_cases g9:(s[k]'hk1).toNat=9
   ·have HN:=aA (gB (P:=isSp) hk1 (au:9<128) g9 aS)
    have gu:(s[k]'hk1)=9:=by rw[← UInt8.toNat_inj];exact g9
    go_wp2_with fail
    go_round
    case rel=>have h:=HI.o;rw[HN.o] at h;exact⟨k+1,by go_num,au,au,by show _=_;omega⟩
    case measure=>simp[intOf];omega
   by_cases g10:(s[k]'hk1).toNat=10
   ·have HN:=aA (gB (P:=isSp) hk1 (au:10<128) g10 aS)
    have gu:(s[k]'hk1)=10:=by rw[← UInt8.toNat_inj];exact g10
    go_wp2_with fail
    go_round
    case rel=>have h:=HI.o;rw[HN.o] at h;exact⟨k+1,by go_num,au,au,by show _=_;omega⟩
    case measure=>simp[intOf];omega
   by_cases g13:(s[k]'hk1).toNat=13
   ·have HN:=aA (gB (P:=isSp) hk1 (au:13<128) g13 aS)
    have gu:(s[k]'hk1)=13:=by rw[← UInt8.toNat_inj];exact g13
    go_wp2_with fail
    go_round
    case rel=>have h:=HI.o;rw[HN.o] at h;exact⟨k+1,by go_num,au,au,by show _=_;omega⟩
    case measure=>simp[intOf];omega
   by_cases ED:(s[k]'hk1).toNat=32
   ·have HN:=aA (gB (P:=isSp) hk1 (au:32<128) ED aS)
    have gu:(s[k]'hk1)=32:=by rw[← UInt8.toNat_inj];exact ED
    go_wp2_with fail
    go_round
    case rel=>have h:=HI.o;rw[HN.o] at h;exact⟨k+1,by go_num,au,au,by show _=_;omega⟩
    case measure=>simp[intOf];omega
   have HN:=aA (lW (zn hk1 g9 g10 g13 ED));have b9:(((s[k]'hk1).toNat:Int)==9)=false:=aQ
   have b10:(((s[k]'hk1).toNat:Int)==10)=false:=aQ
   have b13:(((s[k]'hk1).toNat:Int)==13)=false:=aQ
   have b32:(((s[k]'hk1).toNat:Int)==32)=false:=aQ
   clear g9 g10 g13 ED;go_wp2_with fail
   refine aW (v:=.agg #[ak 1,ak p,ak ((k:Int) - (p:Int))]) (by simp[results,results54,go_sem]) rfl ⟨jk rfl rfl ?_,(aB _ _).alloc (ax _) _⟩;have h:=HI.o;rw[HN.o] at h;omega
 ·have HC:=aA hcc
  go_enter func54,ntmps54;go_wp2_with fail
  refine(fF s p _ hp).cO ?_;rw[HC.o];clear hcc;go_wp2_with fail
  refine(dZ _ _).cO ?_;go_wp2_with fail
  go_loop [8] (fun i=>∃ k:Nat,i=ak k∧p≤k∧k≤s.size∧Hid (p+skip isSp ((bs s).drop p)=k+skip isSp ((bs s).drop k))) (fun i=>s.size - (intOf i).toNat)
  case atStart=>exact⟨p,rfl,ax _,au,rfl⟩
  case round =>
   obtain⟨k,rfl,hpk,hk,HI⟩:=hrel;by_cases hk1:k<s.size
   case neg =>
    have HE:Hid ((bs s).drop k=[]):=by show _=_;rw[List.drop_eq_nil_iff,eY];omega
    go_wp2_with fail
    refine aW (v:=.agg #[ak 1,ak p,ak ((k:Int) - (p:Int))]) (by simp[results,results54,go_sem]) rfl ⟨jk rfl rfl ?_,(aB _ _).alloc (ax _) _⟩;have h:=HI.o;rw[HE.o,lI] at h;omega
   have i1:(k:Int)<(s.size:Int):=au
   by_cases g9:(s[k]'hk1).toNat=9
   ·have HN:=aA (gB (P:=isSp) hk1 (au:9<128) g9 aS)
    have gu:(s[k]'hk1)=9:=by rw[← UInt8.toNat_inj];exact g9
    go_wp2_with fail
    go_round
    case rel=>have h:=HI.o;rw[HN.o] at h;exact⟨k+1,by go_num,au,au,by show _=_;omega⟩
    case measure=>simp[intOf];omega
   by_cases g10:(s[k]'hk1).toNat=10
   ·have HN:=aA (gB (P:=isSp) hk1 (au:10<128) g10 aS)
    have gu:(s[k]'hk1)=10:=by rw[← UInt8.toNat_inj];exact g10
    go_wp2_with fail
    go_round
    case rel=>have h:=HI.o;rw[HN.o] at h;exact⟨k+1,by go_num,au,au,by show _=_;omega⟩
    case measure=>simp[intOf];omega
   by_cases g13:(s[k]'hk1).toNat=13
   ·have HN:=aA (gB (P:=isSp) hk1 (au:13<128) g13 aS)
    have gu:(s[k]'hk1)=13:=by rw[← UInt8.toNat_inj];exact g13
    go_wp2_with fail
    go_round
    case rel=>have h:=HI.o;rw[HN.o] at h;exact⟨k+1,by go_num,au,au,by show _=_;omega⟩
    case measure=>simp[intOf];omega
   by_cases ED:(s[k]'hk1).toNat=32
   ·have HN:=aA (gB (P:=isSp) hk1 (au:32<128) ED aS)
    have gu:(s[k]'hk1)=32:=by rw[← UInt8.toNat_inj];exact ED
    go_wp2_with fail
    go_round
    case rel=>have h:=HI.o;rw[HN.o] at h;exact⟨k+1,by go_num,au,au,by show _=_;omega⟩
    case measure=>simp[intOf];omega
   have HN:=aA (lW (zn hk1 g9 g10 g13 ED));have b9:(((s[k]'hk1).toNat:Int)==9)=false:=aQ
   have b10:(((s[k]'hk1).toNat:Int)==10)=false:=aQ
   have b13:(((s[k]'hk1).toNat:Int)==13)=false:=aQ
   have b32:(((s[k]'hk1).toNat:Int)==32)=false:=aQ
   clear g9 g10 g13 ED;go_wp2_with fail
   refine aW (v:=.agg #[ak 1,ak p,ak ((k:Int) - (p:Int))]) (by simp[results,results54,go_sem]) rfl ⟨jk rfl rfl ?_,(aB _ _).alloc (ax _) _⟩;have h:=HI.o;rw[HN.o] at h;omega
end
section
variable{s:ByteArray}{k a b:Nat}
theorem jR(s:ByteArray)(k:Nat)(w:aG)(hk:k<s.size)(hs:s.size≤1073741824) :
  bB 90 #[.string s,ak k,.int .u8 45,.int .u8 45] w (cK (.bool (hasB s k 45 45)) fun w'=>w'=w):=rJ s k 45 45 w hk hs au au
theorem jJ(s:ByteArray)(k:Nat)(w:aG)(hk:k<s.size)(hs:s.size≤1073741824) :
  bB 90 #[.string s,ak k,.int .u8 123,.int .u8 45] w (cK (.bool (hasB s k 123 45)) fun w'=>w'=w):=rJ s k 123 45 w hk hs au au
theorem nZ(s:ByteArray)(k:Nat)(w:aG)(hk:k<s.size)(hs:s.size≤1073741824) :
  bB 90 #[.string s,ak k,.int .u8 61,.int .u8 62] w (cK (.bool (hasB s k 61 62)) fun w'=>w'=w):=rJ s k 61 62 w hk hs au au
theorem n_(s:ByteArray)(k:Nat)(w:aG)(hk:k<s.size)(hs:s.size≤1073741824) :
  bB 90 #[.string s,ak k,.int .u8 61,.int .u8 61] w (cK (.bool (hasB s k 61 61)) fun w'=>w'=w):=rJ s k 61 61 w hk hs au au
theorem oh(s:ByteArray)(k:Nat)(w:aG)(hk:k<s.size)(hs:s.size≤1073741824) :
  bB 90 #[.string s,ak k,.int .u8 43,.int .u8 43] w (cK (.bool (hasB s k 43 43)) fun w'=>w'=w):=rJ s k 43 43 w hk hs au au
theorem jK(h:cc ((bs s).drop k)≠(a:Int)):hasB s k a b=false:=by
 unfold hasB;exact decide_eq_false (fun e=>h e.1)
theorem NY(h:cc ((bs s).drop (k+1))≠(b:Int)):hasB s k a b=false:=by
 unfold hasB;exact decide_eq_false (fun e=>h e.2)
theorem NZ(h:k<s.size)(hx:(s[k]'h).toNat≠10):ln ((bs s).drop k)=1+ln ((bs s).drop (k+1)):=by
 have e:((bs s).drop k).getD 0 0=s[k]'h:=by
  rw[bG,g_,Nat.add_zero,← bG,mO s k h]
 rw[Kg (iJ h) (by rw[e];exact hx),cZ]
theorem Ri(h:k<s.size)(hx:(s[k]'h).toNat=10):ln ((bs s).drop k)=0:=by
 have e:((bs s).drop k).getD 0 0=s[k]'h:=by
  rw[bG,g_,Nat.add_zero,← bG,mO s k h]
 exact XK (by rw[e];exact hx)
theorem Rj(s:ByteArray)(p:Nat)(w:aG)(hs:s.size≤1073741824)(hp:p<s.size)(hc:cc ((bs s).drop p)=45)(hc1:cc ((bs s).drop (p+1))=45) :
  bB 54 #[.string s,ak p] w (cK (.agg #[ak 2,ak p,ak (ln ((bs s).drop p):Nat)]) fun w'=>Below w.heap.size w w'):=by
 have HC:=aA hc;have hh:hasB s p 45 45=true:=um hc hc1;go_enter func54,ntmps54;go_wp2_with fail
 refine(fF s p _ hp).cO ?_;rw[HC.o];clear hc;go_wp2_with fail
 refine(dZ _ _).cO ?_;go_wp2_with fail
 refine(jR s p _ hp hs).cO ?_;go_wp2_with fail
 go_loop [8] (fun i=>∃ k:Nat,i=ak k∧p≤k∧k≤s.size∧Hid (p+ln ((bs s).drop p)=k+ln ((bs s).drop k))) (fun i=>s.size - (intOf i).toNat)
 case atStart=>exact⟨p,rfl,ax _,au,rfl⟩
 case round =>
  obtain⟨k,rfl,hpk,hk,HI⟩:=hrel;by_cases hk1:k<s.size
  case neg =>
   have HE:Hid ((bs s).drop k=[]):=by show _=_;rw[List.drop_eq_nil_iff,eY];omega
   go_wp2_with fail
   refine aW (v:=.agg #[ak 2,ak p,ak ((k:Int) - (p:Int))]) (by simp[results,results54,go_sem]) rfl ⟨jk rfl rfl ?_,(aB _ _).alloc (ax _) _⟩;have h:=HI.o;rw[HE.o,Ke] at h;omega
  have i1:(k:Int)<(s.size:Int):=au
  by_cases g10:(s[k]'hk1).toNat=10
  ·have HN:=aA (Ri hk1 g10)
   have b10:(((s[k]'hk1).toNat:Int) !=10)=false:=aQ
   clear g10;go_wp2_with fail
   refine aW (v:=.agg #[ak 2,ak p,ak ((k:Int) - (p:Int))]) (by simp[results,results54,go_sem]) rfl ⟨jk rfl rfl ?_,(aB _ _).alloc (ax _) _⟩;have h:=HI.o;rw[HN.o] at h;omega
  ·have HN:=aA (NZ hk1 g10)
   have b10:(((s[k]'hk1).toNat:Int) !=10)=true:=aQ
   clear g10;go_wp2_with fail
   go_round
   case rel=>have h:=HI.o;rw[HN.o] at h;exact⟨k+1,by go_num,au,au,by show _=_;omega⟩
   case measure=>simp[intOf];omega
theorem Rk(s:ByteArray)(p:Nat)(w:aG)(hs:s.size≤1073741824)(hp:p<s.size)(hc:cc ((bs s).drop p)=123)(hc1:cc ((bs s).drop (p+1))=45) :
  bB 54 #[.string s,ak p] w (cK (.agg #[ak ((nest 1 ((bs s).drop (p+2))).1:Nat),ak p,ak (2+(nest 1 ((bs s).drop (p+2))).2:Nat)]) fun w'=>Below w.heap.size w w'):=by
 have HC:=aA hc;have ug:=aA hc1;have hh:hasB s p 123 45=true:=um hc hc1;have hh0:hasB s p 45 45=false:=jK (by rw[hc];omega);have hkd:=(Er _ 1 ((bs s).drop (p+2)) (ax _)).2;have hlen:=(Er _ 1 ((bs s).drop (p+2)) (ax _)).1;rw[bV,eY] at hlen;go_enter func54,ntmps54;go_wp2_with fail
 refine(fF s p _ hp).cO ?_;rw[HC.o];clear hc;go_wp2_with fail
 refine(dZ _ _).cO ?_;go_wp2_with fail
 refine(jR s p _ hp hs).cO ?_;go_wp2_with fail
 refine(jJ s p _ hp hs).cO ?_;go_wp2_with fail
 refine(BZ s p _ hs HC.o ug.o).cO ?_;obtain⟨N,hN⟩:∃ N,(nest 1 ((bs s).drop (p+2))).2=N:=⟨_,rfl⟩;rw[hN] at hlen ⊢;obtain⟨E,hE⟩:∃ E,p+(2+N)=E:=⟨_,rfl⟩;rw[hE];have HE:=aA hE;have hpE:p≤E∧E≤2147483648:=au
 obtain⟨bJ3,bJ4⟩:=hpE;have HN:=aA hN;clear hE hN;rcases hkd with hkd|hkd
 ·have hd:decide ((nest 1 ((bs s).drop (p+2))).1=2)=false:=by rw[hkd];rfl
  rw[hd];have HD:=aA hkd;clear hkd hd;go_wp2_with fail
  refine aW (v:=.agg #[ak 8,ak p,ak ((E:Int) - (p:Int))]) (by simp[results,results54,go_sem]) rfl ⟨jk (by rw[HD.o];rfl) rfl (by have:=HE.o;have:=HN.o;omega),(aB _ _).alloc (ax _) _⟩
 ·have hd:decide ((nest 1 ((bs s).drop (p+2))).1=2)=true:=by rw[hkd];rfl
  rw[hd];have HD:=aA hkd;clear hkd hd;go_wp2_with fail
  refine aW (v:=.agg #[ak 2,ak p,ak ((E:Int) - (p:Int))]) (by simp[results,results54,go_sem]) rfl ⟨jk (by rw[HD.o];rfl) rfl (by have:=HE.o;have:=HN.o;omega),(aB _ _).alloc (ax _) _⟩
theorem N_(s:ByteArray)(p:Nat)(w:aG)(hs:s.size≤1073741824)(hp:p<s.size)(hc:cc ((bs s).drop p)=34) :
  bB 54 #[.string s,ak p] w (cK (.agg #[ak ((quo 6 ((bs s).drop (p+1))).1:Nat),ak p,ak (1+(quo 6 ((bs s).drop (p+1))).2:Nat)]) fun w'=>Below w.heap.size w w'):=by
 have HC:=aA hc;have hh:hasB s p 123 45=false:=jK (by rw[hc];omega);have hh0:hasB s p 45 45=false:=jK (by rw[hc];omega);have hlt:isLt 34=false:=aS
 have hlen:=(QY _ 6 ((bs s).drop (p+1)) (ax _)).1;rw[bV,eY] at hlen;go_enter func54,ntmps54;go_wp2_with fail
 refine(fF s p _ hp).cO ?_;rw[HC.o];clear hc;go_wp2_with fail
 refine(dZ _ _).cO ?_;go_wp2_with fail
 refine(jR s p _ hp hs).cO ?_;go_wp2_with fail
 refine(jJ s p _ hp hs).cO ?_;go_wp2_with fail
 refine(Ca s p _ hs hp).cO ?_;obtain⟨N,hN⟩:∃ N,(quo 6 ((bs s).drop (p+1))).2=N:=⟨_,rfl⟩;rw[hN] at hlen ⊢;obtain⟨E,hE⟩:∃ E,p+(1+N)=E:=⟨_,rfl⟩;rw[hE];have HE:=aA hE;have hpE:p≤E∧E≤2147483648:=au
 obtain⟨bJ3,bJ4⟩:=hpE;have HN:=aA hN;clear hE hN;go_wp2_with fail
 refine aW (v:=.agg #[ak (quo 6 ((bs s).drop (p+1))).1,ak p,ak ((E:Int) - (p:Int))]) (by simp[results,results54,go_sem]) rfl ⟨jk rfl rfl (by have:=HE.o;have:=HN.o;omega),(aB _ _).alloc (ax _) _⟩
theorem Ob(s:ByteArray)(p:Nat)(w:aG)(hs:s.size≤1073741824)(hp:p<s.size)(hc:cc ((bs s).drop p)=61)(hc1:cc ((bs s).drop (p+1))=62) :
  bB 54 #[.string s,ak p] w (cK (.agg #[ak 7,ak p,ak (2:Nat)]) fun w'=>Below w.heap.size w w'):=by
 have HC:=aA hc;have hh:hasB s p 123 45=false:=jK (by rw[hc];omega);have hh0:hasB s p 45 45=false:=jK (by rw[hc];omega);have hlt:isLt 61=false:=aS
 have h1:hasB s p 61 62=true:=um hc hc1;go_enter func54,ntmps54;go_wp2_with fail
 refine(fF s p _ hp).cO ?_;rw[HC.o];clear hc;go_wp2_with fail
 refine(dZ _ _).cO ?_;go_wp2_with fail
 refine(jR s p _ hp hs).cO ?_;go_wp2_with fail
 refine(jJ s p _ hp hs).cO ?_;go_wp2_with fail
 refine(nZ s p _ hp hs).cO ?_;go_wp2_with fail
 refine(n_ s p _ hp hs).cO ?_;go_wp2_with fail
 refine(oh s p _ hp hs).cO ?_;go_wp2_with fail
 exact aW (v:=.agg #[ak 7,ak p,ak 2]) (by simp[results,results54,go_sem]) rfl ⟨rfl,(aB _ _).alloc (ax _) _⟩
theorem Oc(s:ByteArray)(p:Nat)(w:aG)(hs:s.size≤1073741824)(hp:p<s.size)(hc:cc ((bs s).drop p)=61)(hc1:cc ((bs s).drop (p+1))=61) :
  bB 54 #[.string s,ak p] w (cK (.agg #[ak 7,ak p,ak (2:Nat)]) fun w'=>Below w.heap.size w w'):=by
 have HC:=aA hc;have hh:hasB s p 123 45=false:=jK (by rw[hc];omega);have hh0:hasB s p 45 45=false:=jK (by rw[hc];omega);have hlt:isLt 61=false:=aS
 have h1:hasB s p 61 62=false:=NY (by rw[hc1];omega);have h2:hasB s p 61 61=true:=um hc hc1;go_enter func54,ntmps54;go_wp2_with fail
 refine(fF s p _ hp).cO ?_;rw[HC.o];clear hc;go_wp2_with fail
 refine(dZ _ _).cO ?_;go_wp2_with fail
 refine(jR s p _ hp hs).cO ?_;go_wp2_with fail
 refine(jJ s p _ hp hs).cO ?_;go_wp2_with fail
 refine(nZ s p _ hp hs).cO ?_;go_wp2_with fail
 refine(n_ s p _ hp hs).cO ?_;go_wp2_with fail
 refine(oh s p _ hp hs).cO ?_;go_wp2_with fail
 exact aW (v:=.agg #[ak 7,ak p,ak 2]) (by simp[results,results54,go_sem]) rfl ⟨rfl,(aB _ _).alloc (ax _) _⟩
theorem Od(s:ByteArray)(p:Nat)(w:aG)(hs:s.size≤1073741824)(hp:p<s.size)(hc:cc ((bs s).drop p)=43)(hc1:cc ((bs s).drop (p+1))=43) :
  bB 54 #[.string s,ak p] w (cK (.agg #[ak 7,ak p,ak (2:Nat)]) fun w'=>Below w.heap.size w w'):=by
 have HC:=aA hc;have hh:hasB s p 123 45=false:=jK (by rw[hc];omega);have hh0:hasB s p 45 45=false:=jK (by rw[hc];omega);have hlt:isLt 43=false:=aS
 have h1:hasB s p 61 62=false:=jK (by rw[hc];omega);have h2:hasB s p 61 61=false:=jK (by rw[hc];omega);have h3:hasB s p 43 43=true:=um hc hc1;go_enter func54,ntmps54;go_wp2_with fail
 refine(fF s p _ hp).cO ?_;rw[HC.o];clear hc;go_wp2_with fail
 refine(dZ _ _).cO ?_;go_wp2_with fail
 refine(jR s p _ hp hs).cO ?_;go_wp2_with fail
 refine(jJ s p _ hp hs).cO ?_;go_wp2_with fail
 refine(nZ s p _ hp hs).cO ?_;go_wp2_with fail
 refine(n_ s p _ hp hs).cO ?_;go_wp2_with fail
 refine(oh s p _ hp hs).cO ?_;go_wp2_with fail
 exact aW (v:=.agg #[ak 7,ak p,ak 2]) (by simp[results,results54,go_sem]) rfl ⟨rfl,(aB _ _).alloc (ax _) _⟩
end
section
variable{s:ByteArray}{k:Nat}
def dk(n:Nat):Nat:=if 18<n then 8 else 5
theorem Kl(h:k<s.size)(h1:48≤(s[k]'h).toNat)(h2:(s[k]'h).toNat≤57):skip iR ((bs s).drop k)=1+skip iR ((bs s).drop (k+1)) :=
 gB h (au:(s[k]'h).toNat<128) rfl (by unfold iR;rw[decide_eq_true_iff];omega)
theorem CY(h:k<s.size)(h1:¬(48≤(s[k]'h).toNat∧(s[k]'h).toNat≤57)):skip iR ((bs s).drop k)=0:=by
 refine lW ?_;unfold iR;rw[fV];intro e;by_cases h2:(s[k]'h).toNat<128
 ·have:=(Mh h h2).1;omega
 ·have:=Mi h au;omega
theorem Oa(s:ByteArray)(p:Nat)(w:aG)(hs:s.size≤1073741824)(hp:p<s.size)(hc1:48≤cc ((bs s).drop p))(hc2:cc ((bs s).drop p)≤57) :
  bB 54 #[.string s,ak p] w (cK (.agg #[ak (dk (skip iR ((bs s).drop p)):Nat),ak p,ak (skip iR ((bs s).drop p):Nat)]) fun w'=>Below w.heap.size w w'):=by
 have b9:(cc ((bs s).drop p)==9)=false:=aQ
 have b10:(cc ((bs s).drop p)==10)=false:=aQ
 have b13:(cc ((bs s).drop p)==13)=false:=aQ
 have b32:(cc ((bs s).drop p)==32)=false:=aQ
 have hh:hasB s p 123 45=false:=jK au;have hh0:hasB s p 45 45=false:=jK au;have hlt:isLt (cc ((bs s).drop p))=false:=by unfold isLt;rw[fV];omega
 go_enter func54,ntmps54;go_wp2_with fail
 refine(fF s p _ hp).cO ?_;go_wp2_with fail
 refine(dZ _ _).cO ?_;go_wp2_with fail
 refine(jR s p _ hp hs).cO ?_;go_wp2_with fail
 refine(jJ s p _ hp hs).cO ?_;go_wp2_with fail
 go_loop [8] (fun i=>∃ k:Nat,i=ak k∧p≤k∧k≤s.size∧Hid (p+skip iR ((bs s).drop p)=k+skip iR ((bs s).drop k))) (fun i=>s.size - (intOf i).toNat)
 case atStart=>exact⟨p,rfl,ax _,au,rfl⟩
 case round =>
  obtain⟨k,rfl,hpk,hk,HI⟩:=hrel;by_cases hk1:k<s.size
  case neg =>
   have HT:Hid (p+skip iR ((bs s).drop p)=k):=by
    show _=_;have h:=HI.o;rw[show(bs s).drop k=[] by rw[List.drop_eq_nil_iff,eY];omega,lI] at h;exact h
   by_cases h18:(18:Int)<(k:Int) - (p:Int)
   ·go_wp2_with fail
    refine aW (v:=.agg #[ak 8,ak p,ak ((k:Int) - (p:Int))]) (by simp[results,results54,go_sem]) rfl ⟨jk (by unfold dk;rw[aU (by have h:=HT.o;omega)];rfl) rfl ?_,(aB _ _).alloc (ax _) _⟩;have h:=HT.o;omega
   ·go_wp2_with fail
    refine aW (v:=.agg #[ak 5,ak p,ak ((k:Int) - (p:Int))]) (by simp[results,results54,go_sem]) rfl ⟨jk (by unfold dk;rw[aM (by have h:=HT.o;omega)];rfl) rfl ?_,(aB _ _).alloc (ax _) _⟩;have h:=HT.o;omega
  have i1:(k:Int)<(s.size:Int):=au
  by_cases g1:48≤(s[k]'hk1).toNat
  ·have j1:decide ((48:Int)≤((s[k]'hk1).toNat:Int))=true:=by simp;omega
   by_cases g2:(s[k]'hk1).toNat≤57
   ·have j2:decide (((s[k]'hk1).toNat:Int)≤57)=true:=by simp;omega
    have HN:=aA (Kl hk1 g1 g2);clear g1 g2;go_wp2_with fail
    go_round
    case rel=>have h:=HI.o;rw[HN.o] at h;exact⟨k+1,by go_num,au,au,by show _=_;omega⟩
    case measure=>simp[intOf];omega
   ·have j2:decide (((s[k]'hk1).toNat:Int)≤57)=false:=by simp;omega
    have HT:Hid (p+skip iR ((bs s).drop p)=k):=by show _=_;have h:=HI.o;rw[CY hk1 au] at h;exact h
    clear g1 g2;by_cases h18:(18:Int)<(k:Int) - (p:Int)
    ·go_wp2_with fail
     refine aW (v:=.agg #[ak 8,ak p,ak ((k:Int) - (p:Int))]) (by simp[results,results54,go_sem]) rfl ⟨jk (by unfold dk;rw[aU (by have h:=HT.o;omega)];rfl) rfl ?_,(aB _ _).alloc (ax _) _⟩;have h:=HT.o;omega
    ·go_wp2_with fail
     refine aW (v:=.agg #[ak 5,ak p,ak ((k:Int) - (p:Int))]) (by simp[results,results54,go_sem]) rfl ⟨jk (by unfold dk;rw[aM (by have h:=HT.o;omega)];rfl) rfl ?_,(aB _ _).alloc (ax _) _⟩;have h:=HT.o;omega
  ·have j1:decide ((48:Int)≤((s[k]'hk1).toNat:Int))=false:=by simp;omega
   have HT:Hid (p+skip iR ((bs s).drop p)=k):=by show _=_;have h:=HI.o;rw[CY hk1 au] at h;exact h
   clear g1;by_cases h18:(18:Int)<(k:Int) - (p:Int)
   ·go_wp2_with fail
    refine aW (v:=.agg #[ak 8,ak p,ak ((k:Int) - (p:Int))]) (by simp[results,results54,go_sem]) rfl ⟨jk (by unfold dk;rw[aU (by have h:=HT.o;omega)];rfl) rfl ?_,(aB _ _).alloc (ax _) _⟩;have h:=HT.o;omega
   ·go_wp2_with fail
    refine aW (v:=.agg #[ak 5,ak p,ak ((k:Int) - (p:Int))]) (by simp[results,results54,go_sem]) rfl ⟨jk (by unfold dk;rw[aM (by have h:=HT.o;omega)];rfl) rfl ?_,(aB _ _).alloc (ax _) _⟩;have h:=HT.o;omega
def tC:List Int:=[40,41,91,93,44,59,61,60,43,45,42,46,63]
theorem EF:∀ k:Fin 13,(((⟨#[40,41,91,93,44,59,61,60,43,45,42,46,63]⟩:ByteArray)[k.val]'k.isLt).toNat:Int)=tC[k.val]'k.isLt:=aS
theorem Zp:∀ k:Fin 13,0≤tC[k.val]'k.isLt∧tC[k.val]'k.isLt≤100:=aS
theorem vX(k:Fin 13):wrap64 (tC[k.val]'k.isLt)=tC[k.val]'k.isLt:=by
 have:=Zp k;simp only[wrap64];omega
theorem Rm{c:Int}{k:Nat}(h:k<13)(hc:tC[k]'h=c):oI c=true:=by
 unfold oI;refine mJ ?_;show c∈tC;rw[← hc];exact List.getElem_mem _
theorem XP{c:Int}(h:∀(k:Nat) (h:k<13),tC[k]'h≠c):oI c=false:=by
 unfold oI;refine decide_eq_false ?_;show ¬ c∈tC;intro hm;obtain⟨k,hk,e⟩:=pO hm;exact h k hk e
theorem Rn(s:ByteArray)(p:Nat)(w:aG)(hs:s.size≤1073741824)(hp:p<s.size)(hsp:isSp (cc ((bs s).drop p))=false)(hlt:isLt (cc ((bs s).drop p))=false)(hdg:iR (cc ((bs s).drop p))=false)(hq:cc ((bs s).drop p)≠34)(hsg:oI (cc ((bs s).drop p))=true)(hh:hasB s p 123 45=false)(hh0:hasB s p 45 45=false)(h1:hasB s p 61 62=false)(h2:hasB s p 61 61=false)(h3:hasB s p 43 43=false) :
  bB 54 #[.string s,ak p] w (cK (.agg #[ak 7,ak p,ak (1:Nat)]) fun w'=>Below w.heap.size w w'):=by
 have Zq:¬(cc ((bs s).drop p)=32∨cc ((bs s).drop p)=10∨cc ((bs s).drop p)=9∨cc ((bs s).drop p)=13):=by unfold isSp at hsp;exact of_decide_eq_false hsp
 have Zr:¬(48≤cc ((bs s).drop p)∧cc ((bs s).drop p)≤57):=by unfold iR at hdg;exact of_decide_eq_false hdg
 have b9:(cc ((bs s).drop p)==9)=false:=aQ
 have b10:(cc ((bs s).drop p)==10)=false:=aQ
 have b13:(cc ((bs s).drop p)==13)=false:=aQ
 have b32:(cc ((bs s).drop p)==32)=false:=aQ
 have b34:(cc ((bs s).drop p)==34)=false:=by simpa using hq
 have hdd:decide (48≤cc ((bs s).drop p))=false∨(decide (48≤cc ((bs s).drop p))=true∧decide (cc ((bs s).drop p)≤57)=false):=by
  by_cases g:48≤cc ((bs s).drop p)
  ·exact .inr ⟨by simpa using g,aQ⟩
  ·exact .inl (by simpa using g)
 have HSG:=aA hsg;clear Zq Zr hq hsp hdg hsg;have VJ:=uY ((bs s).drop p);rcases hdd with j1|⟨j1,j2⟩
 ·skip
  go_enter func54,ntmps54;go_wp2_with fail
  refine(fF s p _ hp).cO ?_;go_wp2_with fail
  refine(dZ _ _).cO ?_;go_wp2_with fail
  refine(jR s p _ hp hs).cO ?_;go_wp2_with fail
  refine(jJ s p _ hp hs).cO ?_;go_wp2_with fail
  refine(nZ s p _ hp hs).cO ?_;go_wp2_with fail
  refine(n_ s p _ hp hs).cO ?_;go_wp2_with fail
  refine(oh s p _ hp hs).cO ?_;go_wp2_with fail
  go_loop [23] (fun i=>∃ k:Nat,i=ak k∧k≤13∧Hid (∀(m:Nat) (h:m<13),m<k→tC[m]'h≠cc ((bs s).drop p))) (fun i=>13 - (intOf i).toNat)
  case atStart=>exact⟨0,rfl,au,fun m _ h=>au⟩
  case round =>
   obtain⟨k,rfl,hk,HI⟩:=hrel;by_cases hk1:k<13
   ·have i1:(k:Int)<13:=by omega
    have hsz:k<(⟨#[40,41,91,93,44,59,61,60,43,45,42,46,63]⟩:ByteArray).size:=hk1;have hv:(((⟨#[40,41,91,93,44,59,61,60,43,45,42,46,63]⟩:ByteArray)[k]'hsz).toNat:Int)=tC[k]'hk1:=EF ⟨k,hk1⟩;have hwr:wrap64 (tC[k]'hk1)=tC[k]'hk1:=vX ⟨k,hk1⟩;by_cases he:tC[k]'hk1=cc ((bs s).drop p)
    ·have hb:(cc ((bs s).drop p)==wrap64 (tC[k]'hk1))=true:=by rw[hwr,he];simp
     clear hwr he;go_wp2_with fail
     exact aW (v:=.agg #[ak 7,ak p,ak 1]) (by simp[results,results54,go_sem]) rfl ⟨rfl,(aB _ _).alloc (ax _) _⟩
    ·have hb:(cc ((bs s).drop p)==wrap64 (tC[k]'hk1))=false:=by rw[hwr];simp;exact fun e=>he e.symm
     clear hwr;have Zt:=aA he;clear he;go_wp2_with fail
     go_round
     case rel =>
      refine⟨k+1,by go_num,au,fun m h hm=>?_⟩;by_cases hmk:m<k
      ·exact HI.o m h hmk
      ·have:m=k:=by omega
       subst this;exact Zt.o
     case measure=>simp[intOf];omega
   ·exact absurd (XP (fun m h=>HI.o m h au)) (by rw[HSG.o];simp)
 ·skip
  go_enter func54,ntmps54;go_wp2_with fail
  refine(fF s p _ hp).cO ?_;go_wp2_with fail
  refine(dZ _ _).cO ?_;go_wp2_with fail
  refine(jR s p _ hp hs).cO ?_;go_wp2_with fail
  refine(jJ s p _ hp hs).cO ?_;go_wp2_with fail
  refine(nZ s p _ hp hs).cO ?_;go_wp2_with fail
  refine(n_ s p _ hp hs).cO ?_;go_wp2_with fail
  refine(oh s p _ hp hs).cO ?_;go_wp2_with fail
  go_loop [23] (fun i=>∃ k:Nat,i=ak k∧k≤13∧Hid (∀(m:Nat) (h:m<13),m<k→tC[m]'h≠cc ((bs s).drop p))) (fun i=>13 - (intOf i).toNat)
  case atStart=>exact⟨0,rfl,au,fun m _ h=>au⟩
  case round =>
   obtain⟨k,rfl,hk,HI⟩:=hrel;by_cases hk1:k<13
   ·have i1:(k:Int)<13:=by omega
    have hsz:k<(⟨#[40,41,91,93,44,59,61,60,43,45,42,46,63]⟩:ByteArray).size:=hk1;have hv:(((⟨#[40,41,91,93,44,59,61,60,43,45,42,46,63]⟩:ByteArray)[k]'hsz).toNat:Int)=tC[k]'hk1:=EF ⟨k,hk1⟩;have hwr:wrap64 (tC[k]'hk1)=tC[k]'hk1:=vX ⟨k,hk1⟩;by_cases he:tC[k]'hk1=cc ((bs s).drop p)
    ·have hb:(cc ((bs s).drop p)==wrap64 (tC[k]'hk1))=true:=by rw[hwr,he];simp
     clear hwr he;go_wp2_with fail
     exact aW (v:=.agg #[ak 7,ak p,ak 1]) (by simp[results,results54,go_sem]) rfl ⟨rfl,(aB _ _).alloc (ax _) _⟩
    ·have hb:(cc ((bs s).drop p)==wrap64 (tC[k]'hk1))=false:=by rw[hwr];simp;exact fun e=>he e.symm
     clear hwr;have Zt:=aA he;clear he;go_wp2_with fail
     go_round
     case rel =>
      refine⟨k+1,by go_num,au,fun m h hm=>?_⟩;by_cases hmk:m<k
      ·exact HI.o m h hmk
      ·have:m=k:=by omega
       subst this;exact Zt.o
     case measure=>simp[intOf];omega
   ·exact absurd (XP (fun m h=>HI.o m h au)) (by rw[HSG.o];simp)
theorem VO(s:ByteArray)(p:Nat)(w:aG)(hs:s.size≤1073741824)(hp:p<s.size)(hsp:isSp (cc ((bs s).drop p))=false)(hlt:isLt (cc ((bs s).drop p))=false)(hdg:iR (cc ((bs s).drop p))=false)(hq:cc ((bs s).drop p)≠34)(hsg:oI (cc ((bs s).drop p))=false)(hh:hasB s p 123 45=false)(hh0:hasB s p 45 45=false)(h1:hasB s p 61 62=false)(h2:hasB s p 61 61=false)(h3:hasB s p 43 43=false) :
  bB 54 #[.string s,ak p] w (cK (.agg #[ak 8,ak p,ak (sz ((bs s).drop p):Nat)]) fun w'=>Below w.heap.size w w'):=by
 have Zq:¬(cc ((bs s).drop p)=32∨cc ((bs s).drop p)=10∨cc ((bs s).drop p)=9∨cc ((bs s).drop p)=13):=by unfold isSp at hsp;exact of_decide_eq_false hsp
 have Zr:¬(48≤cc ((bs s).drop p)∧cc ((bs s).drop p)≤57):=by unfold iR at hdg;exact of_decide_eq_false hdg
 have b9:(cc ((bs s).drop p)==9)=false:=aQ
 have b10:(cc ((bs s).drop p)==10)=false:=aQ
 have b13:(cc ((bs s).drop p)==13)=false:=aQ
 have b32:(cc ((bs s).drop p)==32)=false:=aQ
 have b34:(cc ((bs s).drop p)==34)=false:=by simpa using hq
 have hdd:decide (48≤cc ((bs s).drop p))=false∨(decide (48≤cc ((bs s).drop p))=true∧decide (cc ((bs s).drop p)≤57)=false):=by
  by_cases g:48≤cc ((bs s).drop p)
  ·exact .inr ⟨by simpa using g,aQ⟩
  ·exact .inl (by simpa using g)
 have HSG:=aA hsg;clear Zq Zr hq hsp hdg hsg;have VJ:=uY ((bs s).drop p);rcases hdd with j1|⟨j1,j2⟩
 ·skip
  go_enter func54,ntmps54;go_wp2_with fail
  refine(fF s p _ hp).cO ?_;go_wp2_with fail
  refine(dZ _ _).cO ?_;go_wp2_with fail
  refine(jR s p _ hp hs).cO ?_;go_wp2_with fail
  refine(jJ s p _ hp hs).cO ?_;go_wp2_with fail
  refine(nZ s p _ hp hs).cO ?_;go_wp2_with fail
  refine(n_ s p _ hp hs).cO ?_;go_wp2_with fail
  refine(oh s p _ hp hs).cO ?_;go_wp2_with fail
  go_loop [23] (fun i=>∃ k:Nat,i=ak k∧k≤13∧Hid (∀(m:Nat) (h:m<13),m<k→tC[m]'h≠cc ((bs s).drop p))) (fun i=>13 - (intOf i).toNat)
  case atStart=>exact⟨0,rfl,au,fun m _ h=>au⟩
  case round =>
   obtain⟨k,rfl,hk,HI⟩:=hrel;by_cases hk1:k<13
   ·have i1:(k:Int)<13:=by omega
    have hsz:k<(⟨#[40,41,91,93,44,59,61,60,43,45,42,46,63]⟩:ByteArray).size:=hk1;have hv:(((⟨#[40,41,91,93,44,59,61,60,43,45,42,46,63]⟩:ByteArray)[k]'hsz).toNat:Int)=tC[k]'hk1:=EF ⟨k,hk1⟩;have hwr:wrap64 (tC[k]'hk1)=tC[k]'hk1:=vX ⟨k,hk1⟩;by_cases he:tC[k]'hk1=cc ((bs s).drop p)
    ·exact absurd (Rm hk1 he) (by rw[HSG.o];simp)
    ·have hb:(cc ((bs s).drop p)==wrap64 (tC[k]'hk1))=false:=by rw[hwr];simp;exact fun e=>he e.symm
     clear hwr;have Zt:=aA he;clear he;go_wp2_with fail
     go_round
     case rel =>
      refine⟨k+1,by go_num,au,fun m h hm=>?_⟩;by_cases hmk:m<k
      ·exact HI.o m h hmk
      ·have:m=k:=by omega
       subst this;exact Zt.o
     case measure=>simp[intOf];omega
   ·go_wp2_with fail
    exact aW (v:=.agg #[ak 8,ak p,ak (sz ((bs s).drop p))]) (by simp[results,results54,go_sem]) rfl ⟨rfl,(aB _ _).alloc (ax _) _⟩
 ·skip
  go_enter func54,ntmps54;go_wp2_with fail
  refine(fF s p _ hp).cO ?_;go_wp2_with fail
  refine(dZ _ _).cO ?_;go_wp2_with fail
  refine(jR s p _ hp hs).cO ?_;go_wp2_with fail
  refine(jJ s p _ hp hs).cO ?_;go_wp2_with fail
  refine(nZ s p _ hp hs).cO ?_;go_wp2_with fail
  refine(n_ s p _ hp hs).cO ?_;go_wp2_with fail
  refine(oh s p _ hp hs).cO ?_;go_wp2_with fail
  go_loop [23] (fun i=>∃ k:Nat,i=ak k∧k≤13∧Hid (∀(m:Nat) (h:m<13),m<k→tC[m]'h≠cc ((bs s).drop p))) (fun i=>13 - (intOf i).toNat)
  case atStart=>exact⟨0,rfl,au,fun m _ h=>au⟩
  case round =>
   obtain⟨k,rfl,hk,HI⟩:=hrel;by_cases hk1:k<13
   ·have i1:(k:Int)<13:=by omega
    have hsz:k<(⟨#[40,41,91,93,44,59,61,60,43,45,42,46,63]⟩:ByteArray).size:=hk1;have hv:(((⟨#[40,41,91,93,44,59,61,60,43,45,42,46,63]⟩:ByteArray)[k]'hsz).toNat:Int)=tC[k]'hk1:=EF ⟨k,hk1⟩;have hwr:wrap64 (tC[k]'hk1)=tC[k]'hk1:=vX ⟨k,hk1⟩;by_cases he:tC[k]'hk1=cc ((bs s).drop p)
    ·exact absurd (Rm hk1 he) (by rw[HSG.o];simp)
    ·have hb:(cc ((bs s).drop p)==wrap64 (tC[k]'hk1))=false:=by rw[hwr];simp;exact fun e=>he e.symm
     clear hwr;have Zt:=aA he;clear he;go_wp2_with fail
     go_round
     case rel =>
      refine⟨k+1,by go_num,au,fun m h hm=>?_⟩;by_cases hmk:m<k
      ·exact HI.o m h hmk
      ·have:m=k:=by omega
       subst this;exact Zt.o
     case measure=>simp[intOf];omega
   ·go_wp2_with fail
    exact aW (v:=.agg #[ak 8,ak p,ak (sz ((bs s).drop p))]) (by simp[results,results54,go_sem]) rfl ⟨rfl,(aB _ _).alloc (ax _) _⟩
end
end Go.Proofs.YtoohcklcppnafaaGreatDoor
