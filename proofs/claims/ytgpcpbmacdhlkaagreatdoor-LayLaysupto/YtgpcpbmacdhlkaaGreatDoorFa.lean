/- The document's own tokens: spaces,and remarks up to the end of a line. -/
import Derived.Test.YtgpcpbmacdhlkaaGreatDoorEb
namespace Go.Proofs.YtgpcpbmacdhlkaaGreatDoor
open Go.RowKit
open M
theorem skip_at_yes {P:Int→Bool} {s:ByteArray} {k c:Nat} (h:k<s.size) (hc:c<128) (hx:(s[k]'h).toNat=c) (hP:P (c:Int)=true):skip P ((bs s).drop k)=1+skip P ((bs s).drop (k+1)):=by
 have e:cc ((bs s).drop k)=(c:Int):=(byte_cc h hc).2 hx
 have z:sz ((bs s).drop k)=1:=sz_cc (by omega) (by omega)
 rw [skip_yes (drop_ne h) (by rw [e];exact hP),nx_at z,z]
theorem isSp_no {s:ByteArray} {k:Nat} (h:k<s.size) (h1:(s[k]'h).toNat≠9) (h2:(s[k]'h).toNat≠10) (h3:(s[k]'h).toNat≠13) (h4:(s[k]'h).toNat≠32):isSp (cc ((bs s).drop k))=false:=by
 unfold isSp;rw [decide_eq_false_iff_not]
 rintro (e|e|e|e)
 ·exact h4 ((byte_cc h (c:=32) (by omega)).1 e)
 ·exact h2 ((byte_cc h (c:=10) (by omega)).1 e)
 ·exact h1 ((byte_cc h (c:=9) (by omega)).1 e)
 ·exact h3 ((byte_cc h (c:=13) (by omega)).1 e)
theorem ret_tk {a a' b b' c c':Int} (h1:a=a') (h2:b=b') (h3:c=c'):Ending.returned (.agg #[.int .i64 a,.int .i64 b,.int .i64 c])=.returned (.agg #[.int .i64 a',.int .i64 b',.int .i64 c']):=by rw [h1,h2,h3]
set_option maxRecDepth 100000 in
set_option maxHeartbeats 8000000 in
theorem one_space (s:ByteArray) (p:Nat) (w:World) (hs:s.size≤1073741824) (hp:p<s.size) (hc:isSp (cc ((bs s).drop p))=true) :
  Calls Tryz.prog 65 #[.string s,.int .i64 p] w fun e w'=>e=.returned (.agg #[.int .i64 1,.int .i64 p,.int .i64 (skip isSp ((bs s).drop p):Nat)])∧Below w.heap.size w w':=by
 have hc':cc ((bs s).drop p)=9∨cc ((bs s).drop p)=10∨cc ((bs s).drop p)=13∨cc ((bs s).drop p)=32:=by
  unfold isSp at hc;simp only [decide_eq_true_eq] at hc;omega
 clear hc
 obtain ⟨c,hcc⟩:∃ c,cc ((bs s).drop p)=c:=⟨_,rfl⟩
 rw [hcc] at hc'
 rcases hc' with rfl|rfl|rfl|rfl
 ·have HC:=hide hcc
  go_enter Tryz.func65,Tryz.ntmps65
  go_wp2_with fail
  refine (refRune_at s p _ hp).mono ?_
  rintro e w' ⟨rfl,rfl⟩
  rw [HC.out]
  clear hcc
  go_wp2_with fail
  refine (refLetter_any _ _).mono ?_
  rintro e w' ⟨rfl,rfl⟩
  go_wp2_with fail
  go_loop [8] (fun i=>∃ k:Nat,i=.int .i64 k∧p≤k∧k≤s.size∧Hid (p+skip isSp ((bs s).drop p)=k+skip isSp ((bs s).drop k))) (fun i=>s.size - (intOf i).toNat)
  case atStart=>exact ⟨p,rfl,Nat.le_refl _,by omega,rfl⟩
  case round =>
   obtain ⟨k,rfl,hpk,hk,HI⟩:=hrel
   by_cases hk1:k<s.size
   case neg =>
    have HE:Hid ((bs s).drop k=[]):=by show _=_;rw [List.drop_eq_nil_iff,bs_len];omega
    go_wp2_with fail
    refine bodyPost_ret (v:=.agg #[.int .i64 1,.int .i64 p,.int .i64 ((k:Int) - (p:Int))]) (by simp [results,Tryz.results65,go_sem]) rfl ⟨ret_tk rfl rfl ?_,(Below.refl _ _).alloc (Nat.le_refl _) _⟩
    have h:=HI.out
    rw [HE.out,skip_nil] at h
    omega
   have i1:(k:Int)<(s.size:Int):=by omega
   by_cases g9:(s[k]'hk1).toNat=9
   ·have HN:=hide (skip_at_yes (P:=isSp) hk1 (by omega:9<128) g9 (by decide))
    have gu:(s[k]'hk1)=9:=by rw [← UInt8.toNat_inj];exact g9
    go_wp2_with fail
    go_round
    case rel=>have h:=HI.out;rw [HN.out] at h;exact ⟨k+1,by go_num,by omega,by omega,by show _=_;omega⟩
    case measure=>simp [intOf];omega
   by_cases g10:(s[k]'hk1).toNat=10
   ·have HN:=hide (skip_at_yes (P:=isSp) hk1 (by omega:10<128) g10 (by decide))
    have gu:(s[k]'hk1)=10:=by rw [← UInt8.toNat_inj];exact g10
    go_wp2_with fail
    go_round
    case rel=>have h:=HI.out;rw [HN.out] at h;exact ⟨k+1,by go_num,by omega,by omega,by show _=_;omega⟩
    case measure=>simp [intOf];omega
   by_cases g13:(s[k]'hk1).toNat=13
   ·have HN:=hide (skip_at_yes (P:=isSp) hk1 (by omega:13<128) g13 (by decide))
    have gu:(s[k]'hk1)=13:=by rw [← UInt8.toNat_inj];exact g13
    go_wp2_with fail
    go_round
    case rel=>have h:=HI.out;rw [HN.out] at h;exact ⟨k+1,by go_num,by omega,by omega,by show _=_;omega⟩
    case measure=>simp [intOf];omega
   by_cases g32:(s[k]'hk1).toNat=32
   ·have HN:=hide (skip_at_yes (P:=isSp) hk1 (by omega:32<128) g32 (by decide))
    have gu:(s[k]'hk1)=32:=by rw [← UInt8.toNat_inj];exact g32
    go_wp2_with fail
    go_round
    case rel=>have h:=HI.out;rw [HN.out] at h;exact ⟨k+1,by go_num,by omega,by omega,by show _=_;omega⟩
    case measure=>simp [intOf];omega
   have HN:=hide (skip_no (isSp_no hk1 g9 g10 g13 g32))
   have b9:(((s[k]'hk1).toNat:Int)==9)=false:=by simp;omega
   have b10:(((s[k]'hk1).toNat:Int)==10)=false:=by simp;omega
   have b13:(((s[k]'hk1).toNat:Int)==13)=false:=by simp;omega
   have b32:(((s[k]'hk1).toNat:Int)==32)=false:=by simp;omega
   clear g9 g10 g13 g32
   go_wp2_with fail
   refine bodyPost_ret (v:=.agg #[.int .i64 1,.int .i64 p,.int .i64 ((k:Int) - (p:Int))]) (by simp [results,Tryz.results65,go_sem]) rfl ⟨ret_tk rfl rfl ?_,(Below.refl _ _).alloc (Nat.le_refl _) _⟩
   have h:=HI.out
   rw [HN.out] at h
   omega
 ·have HC:=hide hcc
  go_enter Tryz.func65,Tryz.ntmps65
  go_wp2_with fail
  refine (refRune_at s p _ hp).mono ?_
  rintro e w' ⟨rfl,rfl⟩
  rw [HC.out]
  clear hcc
  go_wp2_with fail
  refine (refLetter_any _ _).mono ?_
  rintro e w' ⟨rfl,rfl⟩
  go_wp2_with fail
  go_loop [8] (fun i=>∃ k:Nat,i=.int .i64 k∧p≤k∧k≤s.size∧Hid (p+skip isSp ((bs s).drop p)=k+skip isSp ((bs s).drop k))) (fun i=>s.size - (intOf i).toNat)
  case atStart=>exact ⟨p,rfl,Nat.le_refl _,by omega,rfl⟩
  case round =>
   obtain ⟨k,rfl,hpk,hk,HI⟩:=hrel
   by_cases hk1:k<s.size
   case neg =>
    have HE:Hid ((bs s).drop k=[]):=by show _=_;rw [List.drop_eq_nil_iff,bs_len];omega
    go_wp2_with fail
    refine bodyPost_ret (v:=.agg #[.int .i64 1,.int .i64 p,.int .i64 ((k:Int) - (p:Int))]) (by simp [results,Tryz.results65,go_sem]) rfl ⟨ret_tk rfl rfl ?_,(Below.refl _ _).alloc (Nat.le_refl _) _⟩
    have h:=HI.out
    rw [HE.out,skip_nil] at h
    omega
   have i1:(k:Int)<(s.size:Int):=by omega
   by_cases g9:(s[k]'hk1).toNat=9
   ·have HN:=hide (skip_at_yes (P:=isSp) hk1 (by omega:9<128) g9 (by decide))
    have gu:(s[k]'hk1)=9:=by rw [← UInt8.toNat_inj];exact g9
    go_wp2_with fail
    go_round
    case rel=>have h:=HI.out;rw [HN.out] at h;exact ⟨k+1,by go_num,by omega,by omega,by show _=_;omega⟩
    case measure=>simp [intOf];omega
   by_cases g10:(s[k]'hk1).toNat=10
   ·have HN:=hide (skip_at_yes (P:=isSp) hk1 (by omega:10<128) g10 (by decide))
    have gu:(s[k]'hk1)=10:=by rw [← UInt8.toNat_inj];exact g10
    go_wp2_with fail
    go_round
    case rel=>have h:=HI.out;rw [HN.out] at h;exact ⟨k+1,by go_num,by omega,by omega,by show _=_;omega⟩
    case measure=>simp [intOf];omega
   by_cases g13:(s[k]'hk1).toNat=13
   ·have HN:=hide (skip_at_yes (P:=isSp) hk1 (by omega:13<128) g13 (by decide))
    have gu:(s[k]'hk1)=13:=by rw [← UInt8.toNat_inj];exact g13
    go_wp2_with fail
    go_round
    case rel=>have h:=HI.out;rw [HN.out] at h;exact ⟨k+1,by go_num,by omega,by omega,by show _=_;omega⟩
    case measure=>simp [intOf];omega
   by_cases g32:(s[k]'hk1).toNat=32
   ·have HN:=hide (skip_at_yes (P:=isSp) hk1 (by omega:32<128) g32 (by decide))
    have gu:(s[k]'hk1)=32:=by rw [← UInt8.toNat_inj];exact g32
    go_wp2_with fail
    go_round
    case rel=>have h:=HI.out;rw [HN.out] at h;exact ⟨k+1,by go_num,by omega,by omega,by show _=_;omega⟩
    case measure=>simp [intOf];omega
   have HN:=hide (skip_no (isSp_no hk1 g9 g10 g13 g32))
   have b9:(((s[k]'hk1).toNat:Int)==9)=false:=by simp;omega
   have b10:(((s[k]'hk1).toNat:Int)==10)=false:=by simp;omega
   have b13:(((s[k]'hk1).toNat:Int)==13)=false:=by simp;omega
   have b32:(((s[k]'hk1).toNat:Int)==32)=false:=by simp;omega
   clear g9 g10 g13 g32
   go_wp2_with fail
   refine bodyPost_ret (v:=.agg #[.int .i64 1,.int .i64 p,.int .i64 ((k:Int) - (p:Int))]) (by simp [results,Tryz.results65,go_sem]) rfl ⟨ret_tk rfl rfl ?_,(Below.refl _ _).alloc (Nat.le_refl _) _⟩
   have h:=HI.out
   rw [HN.out] at h
   omega
 ·have HC:=hide hcc
  go_enter Tryz.func65,Tryz.ntmps65
  go_wp2_with fail
  refine (refRune_at s p _ hp).mono ?_
  rintro e w' ⟨rfl,rfl⟩
  rw [HC.out]
  clear hcc
  go_wp2_with fail
  refine (refLetter_any _ _).mono ?_
  rintro e w' ⟨rfl,rfl⟩
  go_wp2_with fail
  go_loop [8] (fun i=>∃ k:Nat,i=.int .i64 k∧p≤k∧k≤s.size∧Hid (p+skip isSp ((bs s).drop p)=k+skip isSp ((bs s).drop k))) (fun i=>s.size - (intOf i).toNat)
  case atStart=>exact ⟨p,rfl,Nat.le_refl _,by omega,rfl⟩
  case round =>
   obtain ⟨k,rfl,hpk,hk,HI⟩:=hrel
   by_cases hk1:k<s.size
   case neg =>
    have HE:Hid ((bs s).drop k=[]):=by show _=_;rw [List.drop_eq_nil_iff,bs_len];omega
    go_wp2_with fail
    refine bodyPost_ret (v:=.agg #[.int .i64 1,.int .i64 p,.int .i64 ((k:Int) - (p:Int))]) (by simp [results,Tryz.results65,go_sem]) rfl ⟨ret_tk rfl rfl ?_,(Below.refl _ _).alloc (Nat.le_refl _) _⟩
    have h:=HI.out
    rw [HE.out,skip_nil] at h
    omega
   have i1:(k:Int)<(s.size:Int):=by omega
   by_cases g9:(s[k]'hk1).toNat=9
   ·have HN:=hide (skip_at_yes (P:=isSp) hk1 (by omega:9<128) g9 (by decide))
    have gu:(s[k]'hk1)=9:=by rw [← UInt8.toNat_inj];exact g9
    go_wp2_with fail
    go_round
    case rel=>have h:=HI.out;rw [HN.out] at h;exact ⟨k+1,by go_num,by omega,by omega,by show _=_;omega⟩
    case measure=>simp [intOf];omega
   by_cases g10:(s[k]'hk1).toNat=10
   ·have HN:=hide (skip_at_yes (P:=isSp) hk1 (by omega:10<128) g10 (by decide))
    have gu:(s[k]'hk1)=10:=by rw [← UInt8.toNat_inj];exact g10
    go_wp2_with fail
    go_round
    case rel=>have h:=HI.out;rw [HN.out] at h;exact ⟨k+1,by go_num,by omega,by omega,by show _=_;omega⟩
    case measure=>simp [intOf];omega
   by_cases g13:(s[k]'hk1).toNat=13
   ·have HN:=hide (skip_at_yes (P:=isSp) hk1 (by omega:13<128) g13 (by decide))
    have gu:(s[k]'hk1)=13:=by rw [← UInt8.toNat_inj];exact g13
    go_wp2_with fail
    go_round
    case rel=>have h:=HI.out;rw [HN.out] at h;exact ⟨k+1,by go_num,by omega,by omega,by show _=_;omega⟩
    case measure=>simp [intOf];omega
   by_cases g32:(s[k]'hk1).toNat=32
   ·have HN:=hide (skip_at_yes (P:=isSp) hk1 (by omega:32<128) g32 (by decide))
    have gu:(s[k]'hk1)=32:=by rw [← UInt8.toNat_inj];exact g32
    go_wp2_with fail
    go_round
    case rel=>have h:=HI.out;rw [HN.out] at h;exact ⟨k+1,by go_num,by omega,by omega,by show _=_;omega⟩
    case measure=>simp [intOf];omega
   have HN:=hide (skip_no (isSp_no hk1 g9 g10 g13 g32))
   have b9:(((s[k]'hk1).toNat:Int)==9)=false:=by simp;omega
   have b10:(((s[k]'hk1).toNat:Int)==10)=false:=by simp;omega
   have b13:(((s[k]'hk1).toNat:Int)==13)=false:=by simp;omega
   have b32:(((s[k]'hk1).toNat:Int)==32)=false:=by simp;omega
   clear g9 g10 g13 g32
   go_wp2_with fail
   refine bodyPost_ret (v:=.agg #[.int .i64 1,.int .i64 p,.int .i64 ((k:Int) - (p:Int))]) (by simp [results,Tryz.results65,go_sem]) rfl ⟨ret_tk rfl rfl ?_,(Below.refl _ _).alloc (Nat.le_refl _) _⟩
   have h:=HI.out
   rw [HN.out] at h
   omega
 ·have HC:=hide hcc
  go_enter Tryz.func65,Tryz.ntmps65
  go_wp2_with fail
  refine (refRune_at s p _ hp).mono ?_
  rintro e w' ⟨rfl,rfl⟩
  rw [HC.out]
  clear hcc
  go_wp2_with fail
  refine (refLetter_any _ _).mono ?_
  rintro e w' ⟨rfl,rfl⟩
  go_wp2_with fail
  go_loop [8] (fun i=>∃ k:Nat,i=.int .i64 k∧p≤k∧k≤s.size∧Hid (p+skip isSp ((bs s).drop p)=k+skip isSp ((bs s).drop k))) (fun i=>s.size - (intOf i).toNat)
  case atStart=>exact ⟨p,rfl,Nat.le_refl _,by omega,rfl⟩
  case round =>
   obtain ⟨k,rfl,hpk,hk,HI⟩:=hrel
   by_cases hk1:k<s.size
   case neg =>
    have HE:Hid ((bs s).drop k=[]):=by show _=_;rw [List.drop_eq_nil_iff,bs_len];omega
    go_wp2_with fail
    refine bodyPost_ret (v:=.agg #[.int .i64 1,.int .i64 p,.int .i64 ((k:Int) - (p:Int))]) (by simp [results,Tryz.results65,go_sem]) rfl ⟨ret_tk rfl rfl ?_,(Below.refl _ _).alloc (Nat.le_refl _) _⟩
    have h:=HI.out
    rw [HE.out,skip_nil] at h
    omega
   have i1:(k:Int)<(s.size:Int):=by omega
   by_cases g9:(s[k]'hk1).toNat=9
   ·have HN:=hide (skip_at_yes (P:=isSp) hk1 (by omega:9<128) g9 (by decide))
    have gu:(s[k]'hk1)=9:=by rw [← UInt8.toNat_inj];exact g9
    go_wp2_with fail
    go_round
    case rel=>have h:=HI.out;rw [HN.out] at h;exact ⟨k+1,by go_num,by omega,by omega,by show _=_;omega⟩
    case measure=>simp [intOf];omega
   by_cases g10:(s[k]'hk1).toNat=10
   ·have HN:=hide (skip_at_yes (P:=isSp) hk1 (by omega:10<128) g10 (by decide))
    have gu:(s[k]'hk1)=10:=by rw [← UInt8.toNat_inj];exact g10
    go_wp2_with fail
    go_round
    case rel=>have h:=HI.out;rw [HN.out] at h;exact ⟨k+1,by go_num,by omega,by omega,by show _=_;omega⟩
    case measure=>simp [intOf];omega
   by_cases g13:(s[k]'hk1).toNat=13
   ·have HN:=hide (skip_at_yes (P:=isSp) hk1 (by omega:13<128) g13 (by decide))
    have gu:(s[k]'hk1)=13:=by rw [← UInt8.toNat_inj];exact g13
    go_wp2_with fail
    go_round
    case rel=>have h:=HI.out;rw [HN.out] at h;exact ⟨k+1,by go_num,by omega,by omega,by show _=_;omega⟩
    case measure=>simp [intOf];omega
   by_cases g32:(s[k]'hk1).toNat=32
   ·have HN:=hide (skip_at_yes (P:=isSp) hk1 (by omega:32<128) g32 (by decide))
    have gu:(s[k]'hk1)=32:=by rw [← UInt8.toNat_inj];exact g32
    go_wp2_with fail
    go_round
    case rel=>have h:=HI.out;rw [HN.out] at h;exact ⟨k+1,by go_num,by omega,by omega,by show _=_;omega⟩
    case measure=>simp [intOf];omega
   have HN:=hide (skip_no (isSp_no hk1 g9 g10 g13 g32))
   have b9:(((s[k]'hk1).toNat:Int)==9)=false:=by simp;omega
   have b10:(((s[k]'hk1).toNat:Int)==10)=false:=by simp;omega
   have b13:(((s[k]'hk1).toNat:Int)==13)=false:=by simp;omega
   have b32:(((s[k]'hk1).toNat:Int)==32)=false:=by simp;omega
   clear g9 g10 g13 g32
   go_wp2_with fail
   refine bodyPost_ret (v:=.agg #[.int .i64 1,.int .i64 p,.int .i64 ((k:Int) - (p:Int))]) (by simp [results,Tryz.results65,go_sem]) rfl ⟨ret_tk rfl rfl ?_,(Below.refl _ _).alloc (Nat.le_refl _) _⟩
   have h:=HI.out
   rw [HN.out] at h
   omega
end Go.Proofs.YtgpcpbmacdhlkaaGreatDoor
/- The document's own tokens: remarks. -/
namespace Go.Proofs.YtgpcpbmacdhlkaaGreatDoor
open Go.RowKit
open M
theorem has_45_45 (s:ByteArray) (k:Nat) (w:World) (hk:k<s.size) (hs:s.size≤1073741824) :
  Calls Tryz.prog 93 #[.string s,.int .i64 k,.int .u8 45,.int .u8 45] w fun e w'=>e=.returned (.bool (hasB s k 45 45))∧w'=w:=has_any s k 45 45 w hk hs (by omega) (by omega)
theorem has_123_45 (s:ByteArray) (k:Nat) (w:World) (hk:k<s.size) (hs:s.size≤1073741824) :
  Calls Tryz.prog 93 #[.string s,.int .i64 k,.int .u8 123,.int .u8 45] w fun e w'=>e=.returned (.bool (hasB s k 123 45))∧w'=w:=has_any s k 123 45 w hk hs (by omega) (by omega)
theorem has_61_62 (s:ByteArray) (k:Nat) (w:World) (hk:k<s.size) (hs:s.size≤1073741824) :
  Calls Tryz.prog 93 #[.string s,.int .i64 k,.int .u8 61,.int .u8 62] w fun e w'=>e=.returned (.bool (hasB s k 61 62))∧w'=w:=has_any s k 61 62 w hk hs (by omega) (by omega)
theorem has_61_61 (s:ByteArray) (k:Nat) (w:World) (hk:k<s.size) (hs:s.size≤1073741824) :
  Calls Tryz.prog 93 #[.string s,.int .i64 k,.int .u8 61,.int .u8 61] w fun e w'=>e=.returned (.bool (hasB s k 61 61))∧w'=w:=has_any s k 61 61 w hk hs (by omega) (by omega)
theorem has_43_43 (s:ByteArray) (k:Nat) (w:World) (hk:k<s.size) (hs:s.size≤1073741824) :
  Calls Tryz.prog 93 #[.string s,.int .i64 k,.int .u8 43,.int .u8 43] w fun e w'=>e=.returned (.bool (hasB s k 43 43))∧w'=w:=has_any s k 43 43 w hk hs (by omega) (by omega)
theorem hasB_not {s:ByteArray} {k a b:Nat} (h:cc ((bs s).drop k)≠(a:Int)):hasB s k a b=false:=by
 unfold hasB;exact decide_eq_false (fun e=>h e.1)
theorem hasB_not2 {s:ByteArray} {k a b:Nat} (h:cc ((bs s).drop (k+1))≠(b:Int)):hasB s k a b=false:=by
 unfold hasB;exact decide_eq_false (fun e=>h e.2)
theorem ln_at_yes {s:ByteArray} {k:Nat} (h:k<s.size) (hx:(s[k]'h).toNat≠10):ln ((bs s).drop k)=1+ln ((bs s).drop (k+1)):=by
 have e:((bs s).drop k).getD 0 0=s[k]'h:=by
  rw [List.getD_eq_getElem?_getD,List.getElem?_drop,Nat.add_zero,← List.getD_eq_getElem?_getD,getD_bs s k h]
 rw [ln_yes (drop_ne h) (by rw [e];exact hx),List.drop_drop]
theorem ln_at_no {s:ByteArray} {k:Nat} (h:k<s.size) (hx:(s[k]'h).toNat=10):ln ((bs s).drop k)=0:=by
 have e:((bs s).drop k).getD 0 0=s[k]'h:=by
  rw [List.getD_eq_getElem?_getD,List.getElem?_drop,Nat.add_zero,← List.getD_eq_getElem?_getD,getD_bs s k h]
 exact ln_no (by rw [e];exact hx)
set_option maxRecDepth 100000 in
set_option maxHeartbeats 8000000 in
theorem one_line (s:ByteArray) (p:Nat) (w:World) (hs:s.size≤1073741824) (hp:p<s.size) (hc:cc ((bs s).drop p)=45) (hc1:cc ((bs s).drop (p+1))=45) :
  Calls Tryz.prog 65 #[.string s,.int .i64 p] w fun e w'=>e=.returned (.agg #[.int .i64 2,.int .i64 p,.int .i64 (ln ((bs s).drop p):Nat)])∧Below w.heap.size w w':=by
 have HC:=hide hc
 have hh:hasB s p 45 45=true:=hasB_of hc hc1
 go_enter Tryz.func65,Tryz.ntmps65
 go_wp2_with fail
 refine (refRune_at s p _ hp).mono ?_
 rintro e w' ⟨rfl,rfl⟩
 rw [HC.out]
 clear hc
 go_wp2_with fail
 refine (refLetter_any _ _).mono ?_
 rintro e w' ⟨rfl,rfl⟩
 go_wp2_with fail
 refine (has_45_45 s p _ hp hs).mono ?_
 rintro e w' ⟨rfl,rfl⟩
 go_wp2_with fail
 go_loop [8] (fun i=>∃ k:Nat,i=.int .i64 k∧p≤k∧k≤s.size∧Hid (p+ln ((bs s).drop p)=k+ln ((bs s).drop k))) (fun i=>s.size - (intOf i).toNat)
 case atStart=>exact ⟨p,rfl,Nat.le_refl _,by omega,rfl⟩
 case round =>
  obtain ⟨k,rfl,hpk,hk,HI⟩:=hrel
  by_cases hk1:k<s.size
  case neg =>
   have HE:Hid ((bs s).drop k=[]):=by show _=_;rw [List.drop_eq_nil_iff,bs_len];omega
   go_wp2_with fail
   refine bodyPost_ret (v:=.agg #[.int .i64 2,.int .i64 p,.int .i64 ((k:Int) - (p:Int))]) (by simp [results,Tryz.results65,go_sem]) rfl ⟨ret_tk rfl rfl ?_,(Below.refl _ _).alloc (Nat.le_refl _) _⟩
   have h:=HI.out
   rw [HE.out,ln_nil] at h
   omega
  have i1:(k:Int)<(s.size:Int):=by omega
  by_cases g10:(s[k]'hk1).toNat=10
  ·have HN:=hide (ln_at_no hk1 g10)
   have b10:(((s[k]'hk1).toNat:Int) !=10)=false:=by simp;omega
   clear g10
   go_wp2_with fail
   refine bodyPost_ret (v:=.agg #[.int .i64 2,.int .i64 p,.int .i64 ((k:Int) - (p:Int))]) (by simp [results,Tryz.results65,go_sem]) rfl ⟨ret_tk rfl rfl ?_,(Below.refl _ _).alloc (Nat.le_refl _) _⟩
   have h:=HI.out
   rw [HN.out] at h
   omega
  ·have HN:=hide (ln_at_yes hk1 g10)
   have b10:(((s[k]'hk1).toNat:Int) !=10)=true:=by simp;omega
   clear g10
   go_wp2_with fail
   go_round
   case rel=>have h:=HI.out;rw [HN.out] at h;exact ⟨k+1,by go_num,by omega,by omega,by show _=_;omega⟩
   case measure=>simp [intOf];omega
set_option maxRecDepth 100000 in
set_option maxHeartbeats 8000000 in
theorem one_open (s:ByteArray) (p:Nat) (w:World) (hs:s.size≤1073741824) (hp:p<s.size) (hc:cc ((bs s).drop p)=123) (hc1:cc ((bs s).drop (p+1))=45) :
  Calls Tryz.prog 65 #[.string s,.int .i64 p] w fun e w'=>e=.returned (.agg #[.int .i64 ((nest 1 ((bs s).drop (p+2))).1:Nat),.int .i64 p,.int .i64 (2+(nest 1 ((bs s).drop (p+2))).2:Nat)])∧Below w.heap.size w w':=by
 have HC:=hide hc
 have HC1:=hide hc1
 have hh:hasB s p 123 45=true:=hasB_of hc hc1
 have hh0:hasB s p 45 45=false:=hasB_not (by rw [hc];omega)
 have hkd:=(nest_le _ 1 ((bs s).drop (p+2)) (Nat.le_refl _)).2
 have hlen:=(nest_le _ 1 ((bs s).drop (p+2)) (Nat.le_refl _)).1
 rw [List.length_drop,bs_len] at hlen
 go_enter Tryz.func65,Tryz.ntmps65
 go_wp2_with fail
 refine (refRune_at s p _ hp).mono ?_
 rintro e w' ⟨rfl,rfl⟩
 rw [HC.out]
 clear hc
 go_wp2_with fail
 refine (refLetter_any _ _).mono ?_
 rintro e w' ⟨rfl,rfl⟩
 go_wp2_with fail
 refine (has_45_45 s p _ hp hs).mono ?_
 rintro e w' ⟨rfl,rfl⟩
 go_wp2_with fail
 refine (has_123_45 s p _ hp hs).mono ?_
 rintro e w' ⟨rfl,rfl⟩
 go_wp2_with fail
 refine (refNested_any s p _ hs HC.out HC1.out).mono ?_
 rintro e w' ⟨rfl,rfl⟩
 obtain ⟨N,hN⟩:∃ N,(nest 1 ((bs s).drop (p+2))).2=N:=⟨_,rfl⟩
 rw [hN] at hlen ⊢
 obtain ⟨E,hE⟩:∃ E,p+(2+N)=E:=⟨_,rfl⟩
 rw [hE]
 have HE:=hide hE
 have hpE:p≤E∧E≤2147483648:=by omega
 obtain ⟨hpE1,hpE2⟩:=hpE
 have HN:=hide hN
 clear hE hN
 rcases hkd with hkd|hkd
 ·have hd:decide ((nest 1 ((bs s).drop (p+2))).1=2)=false:=by rw [hkd];rfl
  rw [hd]
  have HD:=hide hkd
  clear hkd hd
  go_wp2_with fail
  refine bodyPost_ret (v:=.agg #[.int .i64 8,.int .i64 p,.int .i64 ((E:Int) - (p:Int))]) (by simp [results,Tryz.results65,go_sem]) rfl ⟨ret_tk (by rw [HD.out];rfl) rfl (by have:=HE.out;have:=HN.out;omega),(Below.refl _ _).alloc (Nat.le_refl _) _⟩
 ·have hd:decide ((nest 1 ((bs s).drop (p+2))).1=2)=true:=by rw [hkd];rfl
  rw [hd]
  have HD:=hide hkd
  clear hkd hd
  go_wp2_with fail
  refine bodyPost_ret (v:=.agg #[.int .i64 2,.int .i64 p,.int .i64 ((E:Int) - (p:Int))]) (by simp [results,Tryz.results65,go_sem]) rfl ⟨ret_tk (by rw [HD.out];rfl) rfl (by have:=HE.out;have:=HN.out;omega),(Below.refl _ _).alloc (Nat.le_refl _) _⟩
set_option maxRecDepth 100000 in
set_option maxHeartbeats 8000000 in
theorem one_quote (s:ByteArray) (p:Nat) (w:World) (hs:s.size≤1073741824) (hp:p<s.size) (hc:cc ((bs s).drop p)=34) :
  Calls Tryz.prog 65 #[.string s,.int .i64 p] w fun e w'=>e=.returned (.agg #[.int .i64 ((quo 6 ((bs s).drop (p+1))).1:Nat),.int .i64 p,.int .i64 (1+(quo 6 ((bs s).drop (p+1))).2:Nat)])∧Below w.heap.size w w':=by
 have HC:=hide hc
 have hh:hasB s p 123 45=false:=hasB_not (by rw [hc];omega)
 have hh0:hasB s p 45 45=false:=hasB_not (by rw [hc];omega)
 have hlt:isLt 34=false:=by decide
 have hlen:=(quo_le _ 6 ((bs s).drop (p+1)) (Nat.le_refl _)).1
 rw [List.length_drop,bs_len] at hlen
 go_enter Tryz.func65,Tryz.ntmps65
 go_wp2_with fail
 refine (refRune_at s p _ hp).mono ?_
 rintro e w' ⟨rfl,rfl⟩
 rw [HC.out]
 clear hc
 go_wp2_with fail
 refine (refLetter_any _ _).mono ?_
 rintro e w' ⟨rfl,rfl⟩
 go_wp2_with fail
 refine (has_45_45 s p _ hp hs).mono ?_
 rintro e w' ⟨rfl,rfl⟩
 go_wp2_with fail
 refine (has_123_45 s p _ hp hs).mono ?_
 rintro e w' ⟨rfl,rfl⟩
 go_wp2_with fail
 refine (refQuoted_any s p _ hs hp).mono ?_
 rintro e w' ⟨rfl,rfl⟩
 obtain ⟨N,hN⟩:∃ N,(quo 6 ((bs s).drop (p+1))).2=N:=⟨_,rfl⟩
 rw [hN] at hlen ⊢
 obtain ⟨E,hE⟩:∃ E,p+(1+N)=E:=⟨_,rfl⟩
 rw [hE]
 have HE:=hide hE
 have hpE:p≤E∧E≤2147483648:=by omega
 obtain ⟨hpE1,hpE2⟩:=hpE
 have HN:=hide hN
 clear hE hN
 go_wp2_with fail
 refine bodyPost_ret (v:=.agg #[.int .i64 (quo 6 ((bs s).drop (p+1))).1,.int .i64 p,.int .i64 ((E:Int) - (p:Int))]) (by simp [results,Tryz.results65,go_sem]) rfl ⟨ret_tk rfl rfl (by have:=HE.out;have:=HN.out;omega),(Below.refl _ _).alloc (Nat.le_refl _) _⟩
end Go.Proofs.YtgpcpbmacdhlkaaGreatDoor
/- The document's own tokens: signs,and what is bad. -/
namespace Go.Proofs.YtgpcpbmacdhlkaaGreatDoor
open Go.RowKit
open M
set_option maxRecDepth 100000 in
set_option maxHeartbeats 8000000 in
theorem one_61_62 (s:ByteArray) (p:Nat) (w:World) (hs:s.size≤1073741824) (hp:p<s.size) (hc:cc ((bs s).drop p)=61) (hc1:cc ((bs s).drop (p+1))=62) :
  Calls Tryz.prog 65 #[.string s,.int .i64 p] w fun e w'=>e=.returned (.agg #[.int .i64 7,.int .i64 p,.int .i64 (2:Nat)])∧Below w.heap.size w w':=by
 have HC:=hide hc
 have hh:hasB s p 123 45=false:=hasB_not (by rw [hc];omega)
 have hh0:hasB s p 45 45=false:=hasB_not (by rw [hc];omega)
 have hlt:isLt 61=false:=by decide
 have h1:hasB s p 61 62=true:=hasB_of hc hc1
 go_enter Tryz.func65,Tryz.ntmps65
 go_wp2_with fail
 refine (refRune_at s p _ hp).mono ?_
 rintro e w' ⟨rfl,rfl⟩
 rw [HC.out]
 clear hc
 go_wp2_with fail
 refine (refLetter_any _ _).mono ?_
 rintro e w' ⟨rfl,rfl⟩
 go_wp2_with fail
 refine (has_45_45 s p _ hp hs).mono ?_
 rintro e w' ⟨rfl,rfl⟩
 go_wp2_with fail
 refine (has_123_45 s p _ hp hs).mono ?_
 rintro e w' ⟨rfl,rfl⟩
 go_wp2_with fail
 refine (has_61_62 s p _ hp hs).mono ?_
 rintro e w' ⟨rfl,rfl⟩
 go_wp2_with fail
 refine (has_61_61 s p _ hp hs).mono ?_
 rintro e w' ⟨rfl,rfl⟩
 go_wp2_with fail
 refine (has_43_43 s p _ hp hs).mono ?_
 rintro e w' ⟨rfl,rfl⟩
 go_wp2_with fail
 exact bodyPost_ret (v:=.agg #[.int .i64 7,.int .i64 p,.int .i64 2]) (by simp [results,Tryz.results65,go_sem]) rfl ⟨rfl,(Below.refl _ _).alloc (Nat.le_refl _) _⟩
set_option maxRecDepth 100000 in
set_option maxHeartbeats 8000000 in
theorem one_61_61 (s:ByteArray) (p:Nat) (w:World) (hs:s.size≤1073741824) (hp:p<s.size) (hc:cc ((bs s).drop p)=61) (hc1:cc ((bs s).drop (p+1))=61) :
  Calls Tryz.prog 65 #[.string s,.int .i64 p] w fun e w'=>e=.returned (.agg #[.int .i64 7,.int .i64 p,.int .i64 (2:Nat)])∧Below w.heap.size w w':=by
 have HC:=hide hc
 have hh:hasB s p 123 45=false:=hasB_not (by rw [hc];omega)
 have hh0:hasB s p 45 45=false:=hasB_not (by rw [hc];omega)
 have hlt:isLt 61=false:=by decide
 have h1:hasB s p 61 62=false:=hasB_not2 (by rw [hc1];omega)
 have h2:hasB s p 61 61=true:=hasB_of hc hc1
 go_enter Tryz.func65,Tryz.ntmps65
 go_wp2_with fail
 refine (refRune_at s p _ hp).mono ?_
 rintro e w' ⟨rfl,rfl⟩
 rw [HC.out]
 clear hc
 go_wp2_with fail
 refine (refLetter_any _ _).mono ?_
 rintro e w' ⟨rfl,rfl⟩
 go_wp2_with fail
 refine (has_45_45 s p _ hp hs).mono ?_
 rintro e w' ⟨rfl,rfl⟩
 go_wp2_with fail
 refine (has_123_45 s p _ hp hs).mono ?_
 rintro e w' ⟨rfl,rfl⟩
 go_wp2_with fail
 refine (has_61_62 s p _ hp hs).mono ?_
 rintro e w' ⟨rfl,rfl⟩
 go_wp2_with fail
 refine (has_61_61 s p _ hp hs).mono ?_
 rintro e w' ⟨rfl,rfl⟩
 go_wp2_with fail
 refine (has_43_43 s p _ hp hs).mono ?_
 rintro e w' ⟨rfl,rfl⟩
 go_wp2_with fail
 exact bodyPost_ret (v:=.agg #[.int .i64 7,.int .i64 p,.int .i64 2]) (by simp [results,Tryz.results65,go_sem]) rfl ⟨rfl,(Below.refl _ _).alloc (Nat.le_refl _) _⟩
set_option maxRecDepth 100000 in
set_option maxHeartbeats 8000000 in
theorem one_43_43 (s:ByteArray) (p:Nat) (w:World) (hs:s.size≤1073741824) (hp:p<s.size) (hc:cc ((bs s).drop p)=43) (hc1:cc ((bs s).drop (p+1))=43) :
  Calls Tryz.prog 65 #[.string s,.int .i64 p] w fun e w'=>e=.returned (.agg #[.int .i64 7,.int .i64 p,.int .i64 (2:Nat)])∧Below w.heap.size w w':=by
 have HC:=hide hc
 have hh:hasB s p 123 45=false:=hasB_not (by rw [hc];omega)
 have hh0:hasB s p 45 45=false:=hasB_not (by rw [hc];omega)
 have hlt:isLt 43=false:=by decide
 have h1:hasB s p 61 62=false:=hasB_not (by rw [hc];omega)
 have h2:hasB s p 61 61=false:=hasB_not (by rw [hc];omega)
 have h3:hasB s p 43 43=true:=hasB_of hc hc1
 go_enter Tryz.func65,Tryz.ntmps65
 go_wp2_with fail
 refine (refRune_at s p _ hp).mono ?_
 rintro e w' ⟨rfl,rfl⟩
 rw [HC.out]
 clear hc
 go_wp2_with fail
 refine (refLetter_any _ _).mono ?_
 rintro e w' ⟨rfl,rfl⟩
 go_wp2_with fail
 refine (has_45_45 s p _ hp hs).mono ?_
 rintro e w' ⟨rfl,rfl⟩
 go_wp2_with fail
 refine (has_123_45 s p _ hp hs).mono ?_
 rintro e w' ⟨rfl,rfl⟩
 go_wp2_with fail
 refine (has_61_62 s p _ hp hs).mono ?_
 rintro e w' ⟨rfl,rfl⟩
 go_wp2_with fail
 refine (has_61_61 s p _ hp hs).mono ?_
 rintro e w' ⟨rfl,rfl⟩
 go_wp2_with fail
 refine (has_43_43 s p _ hp hs).mono ?_
 rintro e w' ⟨rfl,rfl⟩
 go_wp2_with fail
 exact bodyPost_ret (v:=.agg #[.int .i64 7,.int .i64 p,.int .i64 2]) (by simp [results,Tryz.results65,go_sem]) rfl ⟨rfl,(Below.refl _ _).alloc (Nat.le_refl _) _⟩
end Go.Proofs.YtgpcpbmacdhlkaaGreatDoor
/- The document's own tokens: numbers. -/
namespace Go.Proofs.YtgpcpbmacdhlkaaGreatDoor
open Go.RowKit
open M
def dk (n:Nat):Nat:=if 18<n then 8 else 5
theorem dig_at_yes {s:ByteArray} {k:Nat} (h:k<s.size) (h1:48≤(s[k]'h).toNat) (h2:(s[k]'h).toNat≤57):skip isDg ((bs s).drop k)=1+skip isDg ((bs s).drop (k+1)) :=
 skip_at_yes h (by omega:(s[k]'h).toNat<128) rfl (by unfold isDg;rw [decide_eq_true_iff];omega)
theorem dig_at_no {s:ByteArray} {k:Nat} (h:k<s.size) (h1:¬(48≤(s[k]'h).toNat∧(s[k]'h).toNat≤57)):skip isDg ((bs s).drop k)=0:=by
 refine skip_no ?_
 unfold isDg;rw [decide_eq_false_iff_not]
 intro e
 by_cases h2:(s[k]'h).toNat<128
 ·have:=(byte_lo h h2).1;omega
 ·have:=byte_hi h (by omega);omega
set_option maxRecDepth 100000 in
set_option maxHeartbeats 8000000 in
theorem one_digit (s:ByteArray) (p:Nat) (w:World) (hs:s.size≤1073741824) (hp:p<s.size) (hc1:48≤cc ((bs s).drop p)) (hc2:cc ((bs s).drop p)≤57) :
  Calls Tryz.prog 65 #[.string s,.int .i64 p] w fun e w'=>e=.returned (.agg #[.int .i64 (dk (skip isDg ((bs s).drop p)):Nat),.int .i64 p,.int .i64 (skip isDg ((bs s).drop p):Nat)])∧Below w.heap.size w w':=by
 have b9:(cc ((bs s).drop p)==9)=false:=by simp;omega
 have b10:(cc ((bs s).drop p)==10)=false:=by simp;omega
 have b13:(cc ((bs s).drop p)==13)=false:=by simp;omega
 have b32:(cc ((bs s).drop p)==32)=false:=by simp;omega
 have hh:hasB s p 123 45=false:=hasB_not (by omega)
 have hh0:hasB s p 45 45=false:=hasB_not (by omega)
 have hlt:isLt (cc ((bs s).drop p))=false:=by unfold isLt;rw [decide_eq_false_iff_not];omega
 go_enter Tryz.func65,Tryz.ntmps65
 go_wp2_with fail
 refine (refRune_at s p _ hp).mono ?_
 rintro e w' ⟨rfl,rfl⟩
 go_wp2_with fail
 refine (refLetter_any _ _).mono ?_
 rintro e w' ⟨rfl,rfl⟩
 go_wp2_with fail
 refine (has_45_45 s p _ hp hs).mono ?_
 rintro e w' ⟨rfl,rfl⟩
 go_wp2_with fail
 refine (has_123_45 s p _ hp hs).mono ?_
 rintro e w' ⟨rfl,rfl⟩
 go_wp2_with fail
 go_loop [8] (fun i=>∃ k:Nat,i=.int .i64 k∧p≤k∧k≤s.size∧Hid (p+skip isDg ((bs s).drop p)=k+skip isDg ((bs s).drop k))) (fun i=>s.size - (intOf i).toNat)
 case atStart=>exact ⟨p,rfl,Nat.le_refl _,by omega,rfl⟩
 case round =>
  obtain ⟨k,rfl,hpk,hk,HI⟩:=hrel
  by_cases hk1:k<s.size
  case neg =>
   have HT:Hid (p+skip isDg ((bs s).drop p)=k):=by
    show _=_
    have h:=HI.out
    rw [show (bs s).drop k=[] by rw [List.drop_eq_nil_iff,bs_len];omega,skip_nil] at h
    exact h
   by_cases h18:(18:Int)<(k:Int) - (p:Int)
   ·go_wp2_with fail
    refine bodyPost_ret (v:=.agg #[.int .i64 8,.int .i64 p,.int .i64 ((k:Int) - (p:Int))]) (by simp [results,Tryz.results65,go_sem]) rfl ⟨ret_tk (by unfold dk;rw [if_pos (by have h:=HT.out;omega)];rfl) rfl ?_,(Below.refl _ _).alloc (Nat.le_refl _) _⟩
    have h:=HT.out
    omega
   ·go_wp2_with fail
    refine bodyPost_ret (v:=.agg #[.int .i64 5,.int .i64 p,.int .i64 ((k:Int) - (p:Int))]) (by simp [results,Tryz.results65,go_sem]) rfl ⟨ret_tk (by unfold dk;rw [if_neg (by have h:=HT.out;omega)];rfl) rfl ?_,(Below.refl _ _).alloc (Nat.le_refl _) _⟩
    have h:=HT.out
    omega
  have i1:(k:Int)<(s.size:Int):=by omega
  by_cases g1:48≤(s[k]'hk1).toNat
  ·have j1:decide ((48:Int)≤((s[k]'hk1).toNat:Int))=true:=by simp;omega
   by_cases g2:(s[k]'hk1).toNat≤57
   ·have j2:decide (((s[k]'hk1).toNat:Int)≤57)=true:=by simp;omega
    have HN:=hide (dig_at_yes hk1 g1 g2)
    clear g1 g2
    go_wp2_with fail
    go_round
    case rel=>have h:=HI.out;rw [HN.out] at h;exact ⟨k+1,by go_num,by omega,by omega,by show _=_;omega⟩
    case measure=>simp [intOf];omega
   ·have j2:decide (((s[k]'hk1).toNat:Int)≤57)=false:=by simp;omega
    have HT:Hid (p+skip isDg ((bs s).drop p)=k):=by show _=_;have h:=HI.out;rw [dig_at_no hk1 (by omega)] at h;exact h
    clear g1 g2
    by_cases h18:(18:Int)<(k:Int) - (p:Int)
    ·go_wp2_with fail
     refine bodyPost_ret (v:=.agg #[.int .i64 8,.int .i64 p,.int .i64 ((k:Int) - (p:Int))]) (by simp [results,Tryz.results65,go_sem]) rfl ⟨ret_tk (by unfold dk;rw [if_pos (by have h:=HT.out;omega)];rfl) rfl ?_,(Below.refl _ _).alloc (Nat.le_refl _) _⟩
     have h:=HT.out
     omega
    ·go_wp2_with fail
     refine bodyPost_ret (v:=.agg #[.int .i64 5,.int .i64 p,.int .i64 ((k:Int) - (p:Int))]) (by simp [results,Tryz.results65,go_sem]) rfl ⟨ret_tk (by unfold dk;rw [if_neg (by have h:=HT.out;omega)];rfl) rfl ?_,(Below.refl _ _).alloc (Nat.le_refl _) _⟩
     have h:=HT.out
     omega
  ·have j1:decide ((48:Int)≤((s[k]'hk1).toNat:Int))=false:=by simp;omega
   have HT:Hid (p+skip isDg ((bs s).drop p)=k):=by show _=_;have h:=HI.out;rw [dig_at_no hk1 (by omega)] at h;exact h
   clear g1
   by_cases h18:(18:Int)<(k:Int) - (p:Int)
   ·go_wp2_with fail
    refine bodyPost_ret (v:=.agg #[.int .i64 8,.int .i64 p,.int .i64 ((k:Int) - (p:Int))]) (by simp [results,Tryz.results65,go_sem]) rfl ⟨ret_tk (by unfold dk;rw [if_pos (by have h:=HT.out;omega)];rfl) rfl ?_,(Below.refl _ _).alloc (Nat.le_refl _) _⟩
    have h:=HT.out
    omega
   ·go_wp2_with fail
    refine bodyPost_ret (v:=.agg #[.int .i64 5,.int .i64 p,.int .i64 ((k:Int) - (p:Int))]) (by simp [results,Tryz.results65,go_sem]) rfl ⟨ret_tk (by unfold dk;rw [if_neg (by have h:=HT.out;omega)];rfl) rfl ?_,(Below.refl _ _).alloc (Nat.le_refl _) _⟩
    have h:=HT.out
    omega
end Go.Proofs.YtgpcpbmacdhlkaaGreatDoor
/- The document's own tokens: signs of one character,and what is bad. -/
namespace Go.Proofs.YtgpcpbmacdhlkaaGreatDoor
open Go.RowKit
open M
def sgl:List Int:=[40,41,91,93,44,59,61,60,43,45,42,46,63]
theorem sgl_at:∀ k:Fin 13,(((⟨#[40,41,91,93,44,59,61,60,43,45,42,46,63]⟩:ByteArray)[k.val]'k.isLt).toNat:Int)=sgl[k.val]'k.isLt:=by decide
theorem sgl_le:∀ k:Fin 13,0≤sgl[k.val]'k.isLt∧sgl[k.val]'k.isLt≤100:=by decide
theorem sgl_wrap (k:Fin 13):wrap64 (sgl[k.val]'k.isLt)=sgl[k.val]'k.isLt:=by
 have:=sgl_le k
 simp only [wrap64];omega
theorem sg_yes {c:Int} {k:Nat} (h:k<13) (hc:sgl[k]'h=c):isSg c=true:=by
 unfold isSg;refine decide_eq_true ?_
 show c∈sgl
 rw [← hc];exact List.getElem_mem _
theorem sg_no {c:Int} (h:∀ (k:Nat) (h:k<13),sgl[k]'h≠c):isSg c=false:=by
 unfold isSg;refine decide_eq_false ?_
 show ¬ c∈sgl
 intro hm
 obtain ⟨k,hk,e⟩:=List.getElem_of_mem hm
 exact h k hk e
set_option maxRecDepth 100000 in
set_option maxHeartbeats 8000000 in
theorem one_sign (s:ByteArray) (p:Nat) (w:World) (hs:s.size≤1073741824) (hp:p<s.size) (hsp:isSp (cc ((bs s).drop p))=false) (hlt:isLt (cc ((bs s).drop p))=false) (hdg:isDg (cc ((bs s).drop p))=false) (hq:cc ((bs s).drop p)≠34) (hsg:isSg (cc ((bs s).drop p))=true) (hh:hasB s p 123 45=false) (hh0:hasB s p 45 45=false) (h1:hasB s p 61 62=false) (h2:hasB s p 61 61=false) (h3:hasB s p 43 43=false) :
  Calls Tryz.prog 65 #[.string s,.int .i64 p] w fun e w'=>e=.returned (.agg #[.int .i64 7,.int .i64 p,.int .i64 (1:Nat)])∧Below w.heap.size w w':=by
 have hsp':¬(cc ((bs s).drop p)=32∨cc ((bs s).drop p)=10∨cc ((bs s).drop p)=9∨cc ((bs s).drop p)=13):=by unfold isSp at hsp;exact of_decide_eq_false hsp
 have hdg':¬(48≤cc ((bs s).drop p)∧cc ((bs s).drop p)≤57):=by unfold isDg at hdg;exact of_decide_eq_false hdg
 have b9:(cc ((bs s).drop p)==9)=false:=by simp;omega
 have b10:(cc ((bs s).drop p)==10)=false:=by simp;omega
 have b13:(cc ((bs s).drop p)==13)=false:=by simp;omega
 have b32:(cc ((bs s).drop p)==32)=false:=by simp;omega
 have b34:(cc ((bs s).drop p)==34)=false:=by simpa using hq
 have hdd:decide (48≤cc ((bs s).drop p))=false∨(decide (48≤cc ((bs s).drop p))=true∧decide (cc ((bs s).drop p)≤57)=false):=by
  by_cases g:48≤cc ((bs s).drop p)
  ·exact .inr ⟨by simpa using g,by simp;omega⟩
  ·exact .inl (by simpa using g)
 have HSG:=hide hsg
 clear hsp' hdg' hq hsp hdg hsg
 have hz4:=sz_le4 ((bs s).drop p)
 rcases hdd with j1|⟨j1,j2⟩
 ·skip
  go_enter Tryz.func65,Tryz.ntmps65
  go_wp2_with fail
  refine (refRune_at s p _ hp).mono ?_
  rintro e w' ⟨rfl,rfl⟩
  go_wp2_with fail
  refine (refLetter_any _ _).mono ?_
  rintro e w' ⟨rfl,rfl⟩
  go_wp2_with fail
  refine (has_45_45 s p _ hp hs).mono ?_
  rintro e w' ⟨rfl,rfl⟩
  go_wp2_with fail
  refine (has_123_45 s p _ hp hs).mono ?_
  rintro e w' ⟨rfl,rfl⟩
  go_wp2_with fail
  refine (has_61_62 s p _ hp hs).mono ?_
  rintro e w' ⟨rfl,rfl⟩
  go_wp2_with fail
  refine (has_61_61 s p _ hp hs).mono ?_
  rintro e w' ⟨rfl,rfl⟩
  go_wp2_with fail
  refine (has_43_43 s p _ hp hs).mono ?_
  rintro e w' ⟨rfl,rfl⟩
  go_wp2_with fail
  go_loop [23] (fun i=>∃ k:Nat,i=.int .i64 k∧k≤13∧Hid (∀ (m:Nat) (h:m<13),m<k→sgl[m]'h≠cc ((bs s).drop p))) (fun i=>13 - (intOf i).toNat)
  case atStart=>exact ⟨0,rfl,by omega,fun m _ h=>by omega⟩
  case round =>
   obtain ⟨k,rfl,hk,HI⟩:=hrel
   by_cases hk1:k<13
   ·have i1:(k:Int)<13:=by omega
    have hsz:k<(⟨#[40,41,91,93,44,59,61,60,43,45,42,46,63]⟩:ByteArray).size:=hk1
    have hv:(((⟨#[40,41,91,93,44,59,61,60,43,45,42,46,63]⟩:ByteArray)[k]'hsz).toNat:Int)=sgl[k]'hk1:=sgl_at ⟨k,hk1⟩
    have hwr:wrap64 (sgl[k]'hk1)=sgl[k]'hk1:=sgl_wrap ⟨k,hk1⟩
    by_cases he:sgl[k]'hk1=cc ((bs s).drop p)
    ·have hb:(cc ((bs s).drop p)==wrap64 (sgl[k]'hk1))=true:=by rw [hwr,he];simp
     clear hwr he
     go_wp2_with fail
     exact bodyPost_ret (v:=.agg #[.int .i64 7,.int .i64 p,.int .i64 1]) (by simp [results,Tryz.results65,go_sem]) rfl ⟨rfl,(Below.refl _ _).alloc (Nat.le_refl _) _⟩
    ·have hb:(cc ((bs s).drop p)==wrap64 (sgl[k]'hk1))=false:=by rw [hwr];simp;exact fun e=>he e.symm
     clear hwr
     have HEE:=hide he
     clear he
     go_wp2_with fail
     go_round
     case rel =>
      refine ⟨k+1,by go_num,by omega,fun m h hm=>?_⟩
      by_cases hmk:m<k
      ·exact HI.out m h hmk
      ·have:m=k:=by omega
       subst this;exact HEE.out
     case measure=>simp [intOf];omega
   ·exact absurd (sg_no (fun m h=>HI.out m h (by omega))) (by rw [HSG.out];simp)
 ·skip
  go_enter Tryz.func65,Tryz.ntmps65
  go_wp2_with fail
  refine (refRune_at s p _ hp).mono ?_
  rintro e w' ⟨rfl,rfl⟩
  go_wp2_with fail
  refine (refLetter_any _ _).mono ?_
  rintro e w' ⟨rfl,rfl⟩
  go_wp2_with fail
  refine (has_45_45 s p _ hp hs).mono ?_
  rintro e w' ⟨rfl,rfl⟩
  go_wp2_with fail
  refine (has_123_45 s p _ hp hs).mono ?_
  rintro e w' ⟨rfl,rfl⟩
  go_wp2_with fail
  refine (has_61_62 s p _ hp hs).mono ?_
  rintro e w' ⟨rfl,rfl⟩
  go_wp2_with fail
  refine (has_61_61 s p _ hp hs).mono ?_
  rintro e w' ⟨rfl,rfl⟩
  go_wp2_with fail
  refine (has_43_43 s p _ hp hs).mono ?_
  rintro e w' ⟨rfl,rfl⟩
  go_wp2_with fail
  go_loop [23] (fun i=>∃ k:Nat,i=.int .i64 k∧k≤13∧Hid (∀ (m:Nat) (h:m<13),m<k→sgl[m]'h≠cc ((bs s).drop p))) (fun i=>13 - (intOf i).toNat)
  case atStart=>exact ⟨0,rfl,by omega,fun m _ h=>by omega⟩
  case round =>
   obtain ⟨k,rfl,hk,HI⟩:=hrel
   by_cases hk1:k<13
   ·have i1:(k:Int)<13:=by omega
    have hsz:k<(⟨#[40,41,91,93,44,59,61,60,43,45,42,46,63]⟩:ByteArray).size:=hk1
    have hv:(((⟨#[40,41,91,93,44,59,61,60,43,45,42,46,63]⟩:ByteArray)[k]'hsz).toNat:Int)=sgl[k]'hk1:=sgl_at ⟨k,hk1⟩
    have hwr:wrap64 (sgl[k]'hk1)=sgl[k]'hk1:=sgl_wrap ⟨k,hk1⟩
    by_cases he:sgl[k]'hk1=cc ((bs s).drop p)
    ·have hb:(cc ((bs s).drop p)==wrap64 (sgl[k]'hk1))=true:=by rw [hwr,he];simp
     clear hwr he
     go_wp2_with fail
     exact bodyPost_ret (v:=.agg #[.int .i64 7,.int .i64 p,.int .i64 1]) (by simp [results,Tryz.results65,go_sem]) rfl ⟨rfl,(Below.refl _ _).alloc (Nat.le_refl _) _⟩
    ·have hb:(cc ((bs s).drop p)==wrap64 (sgl[k]'hk1))=false:=by rw [hwr];simp;exact fun e=>he e.symm
     clear hwr
     have HEE:=hide he
     clear he
     go_wp2_with fail
     go_round
     case rel =>
      refine ⟨k+1,by go_num,by omega,fun m h hm=>?_⟩
      by_cases hmk:m<k
      ·exact HI.out m h hmk
      ·have:m=k:=by omega
       subst this;exact HEE.out
     case measure=>simp [intOf];omega
   ·exact absurd (sg_no (fun m h=>HI.out m h (by omega))) (by rw [HSG.out];simp)
set_option maxRecDepth 100000 in
set_option maxHeartbeats 8000000 in
theorem one_bad (s:ByteArray) (p:Nat) (w:World) (hs:s.size≤1073741824) (hp:p<s.size) (hsp:isSp (cc ((bs s).drop p))=false) (hlt:isLt (cc ((bs s).drop p))=false) (hdg:isDg (cc ((bs s).drop p))=false) (hq:cc ((bs s).drop p)≠34) (hsg:isSg (cc ((bs s).drop p))=false) (hh:hasB s p 123 45=false) (hh0:hasB s p 45 45=false) (h1:hasB s p 61 62=false) (h2:hasB s p 61 61=false) (h3:hasB s p 43 43=false) :
  Calls Tryz.prog 65 #[.string s,.int .i64 p] w fun e w'=>e=.returned (.agg #[.int .i64 8,.int .i64 p,.int .i64 (sz ((bs s).drop p):Nat)])∧Below w.heap.size w w':=by
 have hsp':¬(cc ((bs s).drop p)=32∨cc ((bs s).drop p)=10∨cc ((bs s).drop p)=9∨cc ((bs s).drop p)=13):=by unfold isSp at hsp;exact of_decide_eq_false hsp
 have hdg':¬(48≤cc ((bs s).drop p)∧cc ((bs s).drop p)≤57):=by unfold isDg at hdg;exact of_decide_eq_false hdg
 have b9:(cc ((bs s).drop p)==9)=false:=by simp;omega
 have b10:(cc ((bs s).drop p)==10)=false:=by simp;omega
 have b13:(cc ((bs s).drop p)==13)=false:=by simp;omega
 have b32:(cc ((bs s).drop p)==32)=false:=by simp;omega
 have b34:(cc ((bs s).drop p)==34)=false:=by simpa using hq
 have hdd:decide (48≤cc ((bs s).drop p))=false∨(decide (48≤cc ((bs s).drop p))=true∧decide (cc ((bs s).drop p)≤57)=false):=by
  by_cases g:48≤cc ((bs s).drop p)
  ·exact .inr ⟨by simpa using g,by simp;omega⟩
  ·exact .inl (by simpa using g)
 have HSG:=hide hsg
 clear hsp' hdg' hq hsp hdg hsg
 have hz4:=sz_le4 ((bs s).drop p)
 rcases hdd with j1|⟨j1,j2⟩
 ·skip
  go_enter Tryz.func65,Tryz.ntmps65
  go_wp2_with fail
  refine (refRune_at s p _ hp).mono ?_
  rintro e w' ⟨rfl,rfl⟩
  go_wp2_with fail
  refine (refLetter_any _ _).mono ?_
  rintro e w' ⟨rfl,rfl⟩
  go_wp2_with fail
  refine (has_45_45 s p _ hp hs).mono ?_
  rintro e w' ⟨rfl,rfl⟩
  go_wp2_with fail
  refine (has_123_45 s p _ hp hs).mono ?_
  rintro e w' ⟨rfl,rfl⟩
  go_wp2_with fail
  refine (has_61_62 s p _ hp hs).mono ?_
  rintro e w' ⟨rfl,rfl⟩
  go_wp2_with fail
  refine (has_61_61 s p _ hp hs).mono ?_
  rintro e w' ⟨rfl,rfl⟩
  go_wp2_with fail
  refine (has_43_43 s p _ hp hs).mono ?_
  rintro e w' ⟨rfl,rfl⟩
  go_wp2_with fail
  go_loop [23] (fun i=>∃ k:Nat,i=.int .i64 k∧k≤13∧Hid (∀ (m:Nat) (h:m<13),m<k→sgl[m]'h≠cc ((bs s).drop p))) (fun i=>13 - (intOf i).toNat)
  case atStart=>exact ⟨0,rfl,by omega,fun m _ h=>by omega⟩
  case round =>
   obtain ⟨k,rfl,hk,HI⟩:=hrel
   by_cases hk1:k<13
   ·have i1:(k:Int)<13:=by omega
    have hsz:k<(⟨#[40,41,91,93,44,59,61,60,43,45,42,46,63]⟩:ByteArray).size:=hk1
    have hv:(((⟨#[40,41,91,93,44,59,61,60,43,45,42,46,63]⟩:ByteArray)[k]'hsz).toNat:Int)=sgl[k]'hk1:=sgl_at ⟨k,hk1⟩
    have hwr:wrap64 (sgl[k]'hk1)=sgl[k]'hk1:=sgl_wrap ⟨k,hk1⟩
    by_cases he:sgl[k]'hk1=cc ((bs s).drop p)
    ·exact absurd (sg_yes hk1 he) (by rw [HSG.out];simp)
    ·have hb:(cc ((bs s).drop p)==wrap64 (sgl[k]'hk1))=false:=by rw [hwr];simp;exact fun e=>he e.symm
     clear hwr
     have HEE:=hide he
     clear he
     go_wp2_with fail
     go_round
     case rel =>
      refine ⟨k+1,by go_num,by omega,fun m h hm=>?_⟩
      by_cases hmk:m<k
      ·exact HI.out m h hmk
      ·have:m=k:=by omega
       subst this;exact HEE.out
     case measure=>simp [intOf];omega
   ·go_wp2_with fail
    exact bodyPost_ret (v:=.agg #[.int .i64 8,.int .i64 p,.int .i64 (sz ((bs s).drop p))]) (by simp [results,Tryz.results65,go_sem]) rfl ⟨rfl,(Below.refl _ _).alloc (Nat.le_refl _) _⟩
 ·skip
  go_enter Tryz.func65,Tryz.ntmps65
  go_wp2_with fail
  refine (refRune_at s p _ hp).mono ?_
  rintro e w' ⟨rfl,rfl⟩
  go_wp2_with fail
  refine (refLetter_any _ _).mono ?_
  rintro e w' ⟨rfl,rfl⟩
  go_wp2_with fail
  refine (has_45_45 s p _ hp hs).mono ?_
  rintro e w' ⟨rfl,rfl⟩
  go_wp2_with fail
  refine (has_123_45 s p _ hp hs).mono ?_
  rintro e w' ⟨rfl,rfl⟩
  go_wp2_with fail
  refine (has_61_62 s p _ hp hs).mono ?_
  rintro e w' ⟨rfl,rfl⟩
  go_wp2_with fail
  refine (has_61_61 s p _ hp hs).mono ?_
  rintro e w' ⟨rfl,rfl⟩
  go_wp2_with fail
  refine (has_43_43 s p _ hp hs).mono ?_
  rintro e w' ⟨rfl,rfl⟩
  go_wp2_with fail
  go_loop [23] (fun i=>∃ k:Nat,i=.int .i64 k∧k≤13∧Hid (∀ (m:Nat) (h:m<13),m<k→sgl[m]'h≠cc ((bs s).drop p))) (fun i=>13 - (intOf i).toNat)
  case atStart=>exact ⟨0,rfl,by omega,fun m _ h=>by omega⟩
  case round =>
   obtain ⟨k,rfl,hk,HI⟩:=hrel
   by_cases hk1:k<13
   ·have i1:(k:Int)<13:=by omega
    have hsz:k<(⟨#[40,41,91,93,44,59,61,60,43,45,42,46,63]⟩:ByteArray).size:=hk1
    have hv:(((⟨#[40,41,91,93,44,59,61,60,43,45,42,46,63]⟩:ByteArray)[k]'hsz).toNat:Int)=sgl[k]'hk1:=sgl_at ⟨k,hk1⟩
    have hwr:wrap64 (sgl[k]'hk1)=sgl[k]'hk1:=sgl_wrap ⟨k,hk1⟩
    by_cases he:sgl[k]'hk1=cc ((bs s).drop p)
    ·exact absurd (sg_yes hk1 he) (by rw [HSG.out];simp)
    ·have hb:(cc ((bs s).drop p)==wrap64 (sgl[k]'hk1))=false:=by rw [hwr];simp;exact fun e=>he e.symm
     clear hwr
     have HEE:=hide he
     clear he
     go_wp2_with fail
     go_round
     case rel =>
      refine ⟨k+1,by go_num,by omega,fun m h hm=>?_⟩
      by_cases hmk:m<k
      ·exact HI.out m h hmk
      ·have:m=k:=by omega
       subst this;exact HEE.out
     case measure=>simp [intOf];omega
   ·go_wp2_with fail
    exact bodyPost_ret (v:=.agg #[.int .i64 8,.int .i64 p,.int .i64 (sz ((bs s).drop p))]) (by simp [results,Tryz.results65,go_sem]) rfl ⟨rfl,(Below.refl _ _).alloc (Nat.le_refl _) _⟩
end Go.Proofs.YtgpcpbmacdhlkaaGreatDoor
