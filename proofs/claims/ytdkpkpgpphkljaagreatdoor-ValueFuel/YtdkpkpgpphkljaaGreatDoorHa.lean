/- strings.ContainsRune of the signs of one character. -/
import Derived.Test.YtdkpkpgpphkljaaGreatDoorGa
namespace Go.Proofs.YtdkpkpgpphkljaaGreatDoor
set_option maxRecDepth 100000
set_option maxHeartbeats 4000000
open Tryz
open Go.RowKit
open M
theorem indexByte_none(c:UInt8):∀ l:ah,(∀ x∈l,x≠c)→Lib.indexByte l c=-1
 | [],_=>rfl
 | x::l,h=>by
  have h1:=h x (by simp);have h2:=indexByte_none c l (fun y hy=>h y (by simp[hy]));simp[Lib.indexByte,h1,h2]
def Asc(s:ByteArray):Prop:=∀(k:Nat) (h:k<s.size),(s[k]'h).toNat<128
theorem AY(c:Int)(s:ByteArray)(w:World)(h1:128≤c)(h2:c≠65533)(hv:Lib.validRune c=false) :
  Calls prog 166 #[.string s,.int .i32 c] w fun e w'=>e=.returned (.int .i64 (-1))∧Below w.heap.size w w':=by
 have b1:decide (c<128)=false:=by simpa using h1
 have b2:(c==65533)=false:=by simpa using h2
 have b3:0≤c:=by omega
 clear h2;go_enter func166,ntmps166;go_wp2_with ((go_at_call 180;refine(utf8_ValidRune _ _).mono ?_;rintro e w' ⟨rfl,rfl⟩))
 go_ret;exact⟨rfl,ay _ _⟩
theorem AZ(c:Int)(s:ByteArray)(ha:Asc s)(hs:s.size≤1000)(w:World)(h1:128≤c)(h2:c≠65533)(hv:Lib.validRune c=true) :
  Calls prog 166 #[.string s,.int .i32 c] w fun e w'=>e=.returned (.int .i64 (-1))∧Below w.heap.size w w':=by
 have b1:decide (c<128)=false:=by simpa using h1
 have b2:(c==65533)=false:=by simpa using h2
 have b3:0≤c:=by omega
 clear h2;have hv':Utf8.valid c=true:=by
  simp only[Lib.validRune,qU] at hv;simp only[Utf8.valid,gU,Bool.and_eq_true,qU];omega
 obtain⟨hE2,ZO,hEl⟩:=encode_facts c hv' h1;clear hv';have i1:(0:Int)≤((Utf8.encode c).size:Int) - 1:=by omega
 have i2:((Utf8.encode c).size:Int) - 1<((Utf8.encode c).size:Int):=by omega
 have hl:=hEl (by omega);go_enter func166,ntmps166;go_wp2_with ((go_at_call 180;refine(utf8_ValidRune _ _).mono ?_;rintro e w' ⟨rfl,rfl⟩))
 go_step3
 go_wp2_with fail
 go_loopw [9] (fun i wr=>i=.int .i64 (((Utf8.encode c).size:Int) - 1)∧Below w'.heap.size w' wr) (fun _ _=>0)
 case atStart=>exact⟨rfl,ay _ _⟩
 case round =>
  obtain⟨rfl,hB⟩:=hrel;by_cases hlt:((Utf8.encode c).size:Int) - 1<(s.size:Int)
  ·go_wp2_with fail
   go_step3
   go_wp2_with fail
   obtain⟨m,hm⟩:∃ m,(Utf8.encode c).size=m+1:=⟨(Utf8.encode c).size - 1,by omega⟩;have em:((Utf8.encode c).size:Int) - 1=(m:Int):=by omega
   have m1:m<s.size:=by omega
   have m2:m<(Utf8.encode c).size:=by omega
   have m3:(s[m]'m1).toNat<128:=ha m m1;have m4:128≤((Utf8.encode c)[m]'m2).toNat:=by
    have e1:(Utf8.encode c).size - 1=m:=by omega
    simp only[e1] at hl;exact hl
   have m5:(((s[m]'m1).toNat:Int)==(((Utf8.encode c)[m]'m2).toNat:Int))=false:=by simp;omega
   rw[em];have HM:=au hm;clear hEl hl i1 i2 hlt em hm m3;go_quiet (fail)
   go_wp2_with fail
   obtain⟨n,hn⟩:∃ n,n=m+1:=⟨_,rfl⟩;have m6:n≤s.size:=by omega
   have hw:IntKind.i64.wrap ((m:Int)+1)=(n:Int):=by rw[wrap_small _ (by omega) (by omega)];omega
   have hix:Lib.indexByte (s.extract n s.size).data.toList (((Utf8.encode c)[m]'m2).toNat:Int).toNat.toUInt8=-1:=by
    refine indexByte_none _ _ (fun x hx e=>?_);have hx2:x∈bs s:=by
     have hb:(s.extract n s.size).data.toList=(bs s).drop n:=yO s n;rw[hb] at hx;exact List.mem_of_mem_drop hx
    obtain⟨k,hk,hke⟩:=oL hx2;rw[eZ] at hk;have h9:=ha k hk;have h10:(bs s)[k]'(by rw[eZ];exact hk)=s[k]'hk:=rfl;rw[h10] at hke;rw[hke,e] at h9;simp at h9;omega
   have HN:=au hn;clear hn;have hB2:=sG hB nq;clear hB;generalize wr.drewN nq=w3 at hB2 ⊢;go_quiet ((go_at_call 179;exact Calls.quiet_of_same (strings_IndexByte _ _ _)))
   simp only[hix];clear hix;go_wp2_with fail
   rw[iC];go_wp2_with fail
   rw[iC];go_ret;exact⟨rfl,sG hB2 _⟩
  ·go_wp2_with fail
   go_ret;exact⟨rfl,hB⟩
theorem A7(s:ByteArray)(ha:Asc s)(w:World) :
  Calls prog 166 #[.string s,.int .i32 65533] w fun e w'=>e=.returned (.int .i64 (-1))∧Below w.heap.size w w':=by
 go_enter func166,ntmps166;go_wp2_with ((go_at_call 180;refine(utf8_ValidRune _ _).mono ?_;rintro e w' ⟨rfl,rfl⟩))
 go_loopw [5] (fun n w'=>∃(pos:Nat),w'=w.iter s pos∧pos≤s.size) (fun _ w'=>s.size - w'.iterPos w.heap.size)
 case atStart=>exact⟨0,rfl,aX _⟩
 case round =>
  obtain⟨pos,rfl,hb⟩:=hrel;by_cases hp:pos<s.size
  ·have hasc:=ha pos hp
   have hnx:∀ ty,(Instr.next (.pointer (some ⟨w.heap.size,0,none⟩)) true ty).run prog (w.iter s pos)=_:=fun ty=>run_next_ascii w s pos ty hp hasc
   have hne:(((s[pos]'hp).toNat:Int)==65533)=false:=by simp;omega
   go_wp2_with fail
   go_roundw
   case rel=>exact⟨pos+1,rfl,by omega⟩
   case measure=>simp;omega
  ·have hnx:∀ ty,(Instr.next (.pointer (some ⟨w.heap.size,0,none⟩)) true ty).run prog (w.iter s pos)=_:=fun ty=>run_next_end w s pos ty hp
   go_wp2_with fail
   go_ret;exact⟨rfl,((ay _ _).alloc (aj _) _)⟩
theorem BN:Asc ⟨#[40,41,91,93,44,59,61,60,43,45,42,46,63]⟩:=by
 have:∀ k:Fin 13,((⟨#[40,41,91,93,44,59,61,60,43,45,42,46,63]⟩:ByteArray)[k.val]'k.isLt).toNat<128:=by decide
 exact fun k h=>this ⟨k,h⟩
theorem Iq:∀ n:Fin 128,decide (0≤Lib.indexByte [40,41,91,93,44,59,61,60,43,45,42,46,63] (UInt8.ofNat n.val))=qZ (n.val:Int):=by decide
theorem Ue{c:Int}(h:128≤c):qZ c=false:=by
 unfold qZ;rw[lg];simp;omega
theorem Dn(c:Int)(w:World)(h1:128≤c) :
  Calls prog 166 #[.string ⟨#[40,41,91,93,44,59,61,60,43,45,42,46,63]⟩,.int .i32 c] w fun e w'=>e=.returned (.int .i64 (-1))∧Below w.heap.size w w':=by
 by_cases h2:c=65533
 ·subst h2;exact A7 _ BN w
 ·cases hv:Lib.validRune c
  ·exact AY c _ w h1 h2 hv
  ·exact AZ c _ BN (by decide) w h1 h2 hv
theorem oq(c:Int)(w:World)(h0:0≤c) :
  Calls prog 143 #[.string ⟨#[40,41,91,93,44,59,61,60,43,45,42,46,63]⟩,.int .i32 c] w fun e w'=>e=.returned (.bool (qZ c))∧Below w.heap.size w w':=by
 by_cases h1:c<128
 ·refine(strings_ContainsRune_ascii _ c w h0 h1).mono ?_
  rintro e w' ⟨rfl,rfl⟩;obtain⟨n,rfl⟩:∃ n:Nat,c=(n:Int):=⟨c.toNat,by omega⟩;exact⟨ve (Iq ⟨n,by omega⟩),ay _ _⟩
 ·rw[Ue (by omega)]
  go_enter func143,ntmps143;go_wp2_with ((go_at_call 166;refine(Dn c _ (by omega)).mono ?_;rintro e w1 ⟨rfl,hb⟩))
  go_ret;exact⟨rfl,hb⟩
section
variable{s:ByteArray}
theorem nZ{l:ah}(h:¬ s=⟨l.toArray⟩):(s.toList==l)=false:=by
 rw[gN,dF];exact fun e=>h (jJ (by rw[show bs s=l from e];simp[bs]))
theorem jD(h:bs s∈words):p8 (bs s)=true:=by unfold p8;exact qQ h
theorem VR(h:bs s∉words):p8 (bs s)=false:=by unfold p8;exact decide_eq_false h
theorem EU(s:ByteArray)(w:World):Calls prog 144 #[.string s] w fun e w'=>e=.returned (.bool (p8 (bs s)))∧w'=w:=by
 by_cases h0:s=⟨#[117,115,101]⟩
 ·subst h0
  rw[jD (by decide)];go_enter func144,ntmps144;go_wp2
  go_ret;exact⟨rfl,rfl⟩
 by_cases h1:s=⟨#[97,115]⟩
 ·subst h1
  rw[jD (by decide)];go_enter func144,ntmps144;go_wp2
  go_ret;exact⟨rfl,rfl⟩
 by_cases h2:s=⟨#[112,117,98]⟩
 ·subst h2
  rw[jD (by decide)];go_enter func144,ntmps144;go_wp2
  go_ret;exact⟨rfl,rfl⟩
 by_cases h3:s=⟨#[100,101,102]⟩
 ·subst h3
  rw[jD (by decide)];go_enter func144,ntmps144;go_wp2
  go_ret;exact⟨rfl,rfl⟩
 by_cases h4:s=⟨#[108,101,116]⟩
 ·subst h4
  rw[jD (by decide)];go_enter func144,ntmps144;go_wp2
  go_ret;exact⟨rfl,rfl⟩
 by_cases h5:s=⟨#[105,110]⟩
 ·subst h5
  rw[jD (by decide)];go_enter func144,ntmps144;go_wp2
  go_ret;exact⟨rfl,rfl⟩
 by_cases h6:s=⟨#[105,102]⟩
 ·subst h6
  rw[jD (by decide)];go_enter func144,ntmps144;go_wp2
  go_ret;exact⟨rfl,rfl⟩
 by_cases h7:s=⟨#[116,104,101,110]⟩
 ·subst h7
  rw[jD (by decide)];go_enter func144,ntmps144;go_wp2
  go_ret;exact⟨rfl,rfl⟩
 by_cases h8:s=⟨#[101,108,115,101]⟩
 ·subst h8
  rw[jD (by decide)];go_enter func144,ntmps144;go_wp2
  go_ret;exact⟨rfl,rfl⟩
 by_cases h9:s=⟨#[102,117,110]⟩
 ·subst h9
  rw[jD (by decide)];go_enter func144,ntmps144;go_wp2
  go_ret;exact⟨rfl,rfl⟩
 by_cases h10:s=⟨#[116,114,117,101]⟩
 ·subst h10
  rw[jD (by decide)];go_enter func144,ntmps144;go_wp2
  go_ret;exact⟨rfl,rfl⟩
 by_cases h11:s=⟨#[102,97,108,115,101]⟩
 ·subst h11
  rw[jD (by decide)];go_enter func144,ntmps144;go_wp2
  go_ret;exact⟨rfl,rfl⟩
 have HN:Hid (p8 (bs s)=false):=by
  refine VR (fun h=>?_);simp only[words,cK,kZ,or_false] at h;rcases h with h|h|h|h|h|h|h|h|h|h|h|h
  ·exact h0 (jJ h)
  ·exact h1 (jJ h)
  ·exact h2 (jJ h)
  ·exact h3 (jJ h)
  ·exact h4 (jJ h)
  ·exact h5 (jJ h)
  ·exact h6 (jJ h)
  ·exact h7 (jJ h)
  ·exact h8 (jJ h)
  ·exact h9 (jJ h)
  ·exact h10 (jJ h)
  ·exact h11 (jJ h)
 have b0:(s.toList==[117,115,101])=false:=nZ h0;have b1:(s.toList==[97,115])=false:=nZ h1;have b2:(s.toList==[112,117,98])=false:=nZ h2;have b3:(s.toList==[100,101,102])=false:=nZ h3;have b4:(s.toList==[108,101,116])=false:=nZ h4;have b5:(s.toList==[105,110])=false:=nZ h5;have b6:(s.toList==[105,102])=false:=nZ h6;have b7:(s.toList==[116,104,101,110])=false:=nZ h7;have b8:(s.toList==[101,108,115,101])=false:=nZ h8;have b9:(s.toList==[102,117,110])=false:=nZ h9;have b10:(s.toList==[116,114,117,101])=false:=nZ h10;have b11:(s.toList==[102,97,108,115,101])=false:=nZ h11;clear h0 h1 h2 h3 h4 h5 h6 h7 h8 h9 h10 h11;go_enter func144,ntmps144;go_wp2
 go_ret;exact⟨ve HN.o.symm,rfl⟩
end
section
variable{t:ah}
theorem WB(h:isSp (cc t)=true):t≠[]:=by rintro rfl;rw[mU] at h;revert h;decide
theorem WC(h:jw (cc t)=true):t≠[]:=by rintro rfl;rw[mU] at h;revert h;decide
theorem Kl(h:pR (cc t)=true):t≠[]:=by rintro rfl;rw[mU] at h;revert h;decide
def JS(b:Nat)(s:ByteArray)(p:Nat)(c0:Int)(w:World)(P:Int→Bool)(T L:Nat)(l n:Nat)(a':Act)(w':World):Prop :=
 ∃(q:Nat) (u5 u6 u7 u8 u9 Da Db Dc Dh Di Dj u16 Dk u65 u66 u67 u68 u69 u70 u71:Value),a'={ tmps:=#[.pointer (some ⟨b,0,none⟩),undef,.int .i64 0,.int .i64 (p:Int),.int .i32 c0,u5,u6,u7,u8,u9,Da,Db,Dc,Dh,Di,Dj,u16,Dk,undef,undef,undef,undef,undef,undef,undef,undef,undef,undef,undef,undef,undef,undef,undef,undef,undef,undef,undef,undef,undef,undef,undef,undef,undef,undef,undef,undef,undef,undef,undef,undef,undef,undef,undef,undef,undef,undef,undef,undef,undef,undef,undef,undef,undef,undef,undef,u65,u66,u67,u68,u69,u70,u71,undef,undef,undef,undef,undef,undef,undef,undef,undef,undef,undef,undef,undef,undef,undef,undef,undef,undef,undef,undef,undef,undef,undef,undef,undef,undef,undef,undef,undef,undef,undef,undef,undef,undef,undef,undef,undef,undef,undef,undef,undef,undef,undef,undef,undef,undef,undef,undef,undef,undef,undef,undef,undef],defers:=[] }∧lu w' b s q∧On b w w'∧p≤q∧p+T=q+skip P ((bs s).drop q)∧l=L∧n=s.size - q
theorem Ir(b:Nat)(s:ByteArray)(p:Nat)(w:World)(h:lu w b s p)(hp:p<s.size)(hc:isSp (cc ((bs s).drop p))=true) :
  Calls prog 114 #[.pointer (some ⟨b,0,none⟩)] w fun e w'=>e=.returned (.int .i64 1)∧lu w' b s (p+(sz ((bs s).drop p)+skip isSp (nx ((bs s).drop p))))∧On b w w':=by
 obtain⟨⟨c0,c1,c2,c3⟩,f0,f1,f2,f3⟩:=h.raw.facts;have hs:=h.big;have HZ:=au (iZ (jg hp));go_enter func114,ntmps114;go_wp2_with fail
 refine kL (JS b s p (cc ((bs s).drop p)) w isSp (sz ((bs s).drop p)+skip isSp (nx ((bs s).drop p))) 0) ?_ ?_
 ·go_wp2_with fail
  go_quiet (fail)
  go_wp2_with (first|(go_at_call 73;refine(dJ b s p _ (h.drewN _)).mono ?_;rintro e w1 ⟨rfl,r1,k1⟩)|(go_at_call 137;refine(dK _ _).mono ?_;rintro e w' ⟨rfl,rfl⟩)|(go_at_call 138;refine(dw _ _).mono ?_;rintro e w' ⟨rfl,rfl⟩)|(go_at_call 139;refine(bZ _ _).mono ?_;rintro e w' ⟨rfl,rfl⟩))
  go_step3
  have:=HZ.o;exact⟨s.size - (p+sz ((bs s).drop p)),p+sz ((bs s).drop p),_,_,_,_,_,_,_,_,_,_,_,_,_,_,_,_,_,_,_,_,rfl,r1,(On.drewN b w nq).to k1,by omega,by rw[fG];omega,rfl,rfl⟩
 ·rintro l n a' w' ⟨q,u5,u6,u7,u8,u9,Da,Db,Dc,Dh,Di,Dj,u16,Dk,u65,u66,u67,u68,u69,u70,u71,rfl,hr,hk,hpq,hT,rfl,rfl⟩
  refine⟨_,rfl,?_⟩;have hq:=hr.le;clear c0 c1 c2 c3 f0 f1 f2 f3;obtain⟨⟨c0,c1,c2,c3⟩,f0,f1,f2,f3⟩:=hr.raw.facts;have sD:=au (dJ b s q w' hr);have HH:=au (And.intro hr (And.intro hk hT));clear hr hk hT;cases hx:isSp (cc ((bs s).drop q))
  ·have HN:=au (uV (p:=isSp) hx)
   go_wp2_with (first|(go_at_call 73;refine(sD.o).mono ?_;rintro e w1 ⟨rfl,r1,k1⟩)|(go_at_call 137;refine(dK _ _).mono ?_;rintro e w' ⟨rfl,rfl⟩)|(go_at_call 138;refine(dw _ _).mono ?_;rintro e w' ⟨rfl,rfl⟩)|(go_at_call 139;refine(bZ _ _).mono ?_;rintro e w' ⟨rfl,rfl⟩))
   simp only[kr];go_ret;obtain⟨hr,hk,hT⟩:=HH.o;rw[HN.o] at hT;refine⟨rfl,?_,hk⟩;rw[hT];exact hr
  ·have HN:=au (oU (p:=isSp) (t:=(bs s).drop q) (WB hx) hx)
   have HZ2:=au (iZ (l:=(bs s).drop q) (WB hx));go_wp2_with (first|(go_at_call 73;refine(sD.o).mono ?_;rintro e w1 ⟨rfl,r1,k1⟩)|(go_at_call 137;refine(dK _ _).mono ?_;rintro e w' ⟨rfl,rfl⟩)|(go_at_call 138;refine(dw _ _).mono ?_;rintro e w' ⟨rfl,rfl⟩)|(go_at_call 139;refine(bZ _ _).mono ?_;rintro e w' ⟨rfl,rfl⟩))
   go_step3
   obtain⟨hr,hk,hT⟩:=HH.o;rw[HN.o,fG (bs s) q] at hT;have:=HZ2.o;have hz:=r1.le;exact⟨s.size - (q+sz ((bs s).drop q)),by omega,q+sz ((bs s).drop q),_,_,_,_,_,_,_,_,_,_,_,_,_,_,_,_,_,_,_,_,rfl,r1,hk.to k1,by omega,by omega,rfl,rfl⟩
def JD(b:Nat)(s:ByteArray)(p:Nat)(c0:Int)(w:World)(P:Int→Bool)(T L:Nat)(l n:Nat)(a':Act)(w':World):Prop :=
 ∃(q:Nat) (u5 u6 u7 u8 u9 Da Db Dc Dh Di Dj u16 Dk Ib Ic u20 u21 u22 u23 u97 u98 u99 aD0 aD1 aD2 aD3:Value),a'={ tmps:=#[.pointer (some ⟨b,0,none⟩),undef,.int .i64 0,.int .i64 (p:Int),.int .i32 c0,u5,u6,u7,u8,u9,Da,Db,Dc,Dh,Di,Dj,u16,Dk,Ib,Ic,u20,u21,u22,u23,undef,undef,undef,undef,undef,undef,undef,undef,undef,undef,undef,undef,undef,undef,undef,undef,undef,undef,undef,undef,undef,undef,undef,undef,undef,undef,undef,undef,undef,undef,undef,undef,undef,undef,undef,undef,undef,undef,undef,undef,undef,undef,undef,undef,undef,undef,undef,undef,undef,undef,undef,undef,undef,undef,undef,undef,undef,undef,undef,undef,undef,undef,undef,undef,undef,undef,undef,undef,undef,undef,undef,undef,undef,u97,u98,u99,aD0,aD1,aD2,aD3,undef,undef,undef,undef,undef,undef,undef,undef,undef,undef,undef,undef,undef,undef,undef,undef,undef,undef,undef,undef,undef],defers:=[] }∧lu w' b s q∧On b w w'∧p≤q∧p+T=q+skip P ((bs s).drop q)∧l=L∧n=s.size - q
theorem Iu(b:Nat)(s:ByteArray)(p:Nat)(w:World)(h:lu w b s p)(hp:p<s.size)(h1:isSp (cc ((bs s).drop p))=false)(h2:isLt (cc ((bs s).drop p))=false)(hc:jw (cc ((bs s).drop p))=true) :
  Calls prog 114 #[.pointer (some ⟨b,0,none⟩)] w fun e w'=>e=.returned (.int .i64 (if 18<sz ((bs s).drop p)+skip jw (nx ((bs s).drop p)) then 8 else 5:Nat))∧lu w' b s (p+(sz ((bs s).drop p)+skip jw (nx ((bs s).drop p))))∧On b w w':=by
 obtain⟨⟨c0,c1,c2,c3⟩,f0,f1,f2,f3⟩:=h.raw.facts;have hs:=h.big;have HZ:=au (iZ (jg hp));go_enter func114,ntmps114;go_wp2_with fail
 refine kL (JD b s p (cc ((bs s).drop p)) w jw (sz ((bs s).drop p)+skip jw (nx ((bs s).drop p))) 2) ?_ ?_
 ·go_wp2_with fail
  go_quiet (fail)
  go_wp2_with (first|(go_at_call 73;refine(dJ b s p _ (h.drewN _)).mono ?_;rintro e w1 ⟨rfl,r1,k1⟩)|(go_at_call 137;refine(dK _ _).mono ?_;rintro e w' ⟨rfl,rfl⟩)|(go_at_call 138;refine(dw _ _).mono ?_;rintro e w' ⟨rfl,rfl⟩)|(go_at_call 139;refine(bZ _ _).mono ?_;rintro e w' ⟨rfl,rfl⟩))
  go_step3
  have:=HZ.o;exact⟨s.size - (p+sz ((bs s).drop p)),p+sz ((bs s).drop p),_,_,_,_,_,_,_,_,_,_,_,_,_,_,_,_,_,_,_,_,_,_,_,_,_,_,rfl,r1,(On.drewN b w nq).to k1,by omega,by rw[fG];omega,rfl,rfl⟩
 ·rintro l n a' w' ⟨q,u5,u6,u7,u8,u9,Da,Db,Dc,Dh,Di,Dj,u16,Dk,Ib,Ic,u20,u21,u22,u23,u97,u98,u99,aD0,aD1,aD2,aD3,rfl,hr,hk,hpq,hT,rfl,rfl⟩
  refine⟨_,rfl,?_⟩;have hq:=hr.le;clear c0 c1 c2 c3 f0 f1 f2 f3;obtain⟨⟨c0,c1,c2,c3⟩,f0,f1,f2,f3⟩:=hr.raw.facts;have sD:=au (dJ b s q w' hr);have HH:=au (And.intro hr (And.intro hk hT));clear hr hk hT;cases hx:jw (cc ((bs s).drop q))
  ·have HN:=au (uV (p:=jw) hx)
   have A8:=(HH.o).2.2;rw[HN.o] at A8;by_cases h18:(18:Int)<(q:Int) - (p:Int)
   ·go_wp2_with (first|(go_at_call 73;refine(sD.o).mono ?_;rintro e w1 ⟨rfl,r1,k1⟩)|(go_at_call 137;refine(dK _ _).mono ?_;rintro e w' ⟨rfl,rfl⟩)|(go_at_call 138;refine(dw _ _).mono ?_;rintro e w' ⟨rfl,rfl⟩)|(go_at_call 139;refine(bZ _ _).mono ?_;rintro e w' ⟨rfl,rfl⟩))
    simp only[kr];go_ret;obtain⟨hr,hk,hT⟩:=HH.o;refine⟨uI (a:=8) (by rw[aL (by omega)];rfl),?_,hk⟩;rw[A8];exact hr
   ·go_wp2_with (first|(go_at_call 73;refine(sD.o).mono ?_;rintro e w1 ⟨rfl,r1,k1⟩)|(go_at_call 137;refine(dK _ _).mono ?_;rintro e w' ⟨rfl,rfl⟩)|(go_at_call 138;refine(dw _ _).mono ?_;rintro e w' ⟨rfl,rfl⟩)|(go_at_call 139;refine(bZ _ _).mono ?_;rintro e w' ⟨rfl,rfl⟩))
    simp only[kr];go_ret;obtain⟨hr,hk,hT⟩:=HH.o;refine⟨uI (a:=5) (by rw[aG (by omega)];rfl),?_,hk⟩;rw[A8];exact hr
  ·have HN:=au (oU (p:=jw) (t:=(bs s).drop q) (WC hx) hx)
   have HZ2:=au (iZ (l:=(bs s).drop q) (WC hx));go_wp2_with (first|(go_at_call 73;refine(sD.o).mono ?_;rintro e w1 ⟨rfl,r1,k1⟩)|(go_at_call 137;refine(dK _ _).mono ?_;rintro e w' ⟨rfl,rfl⟩)|(go_at_call 138;refine(dw _ _).mono ?_;rintro e w' ⟨rfl,rfl⟩)|(go_at_call 139;refine(bZ _ _).mono ?_;rintro e w' ⟨rfl,rfl⟩))
   go_step3
   obtain⟨hr,hk,hT⟩:=HH.o;rw[HN.o,fG (bs s) q] at hT;have:=HZ2.o;have hz:=r1.le;exact⟨s.size - (q+sz ((bs s).drop q)),by omega,q+sz ((bs s).drop q),_,_,_,_,_,_,_,_,_,_,_,_,_,_,_,_,_,_,_,_,_,_,_,_,_,_,rfl,r1,hk.to k1,by omega,by omega,rfl,rfl⟩
def JL(b:Nat)(s:ByteArray)(p:Nat)(c0:Int)(w:World)(P:Int→Bool)(T L:Nat)(l n:Nat)(a':Act)(w':World):Prop :=
 ∃(q:Nat) (u5 u6 u7 u8 u9 Da Db Dc Dh Di Dj u16 Dk Ib Ic u20 u21 u22 u23 u24 u25 u26 u29 u30 u31 u32 u33 u34 u35 u36 u37 u38 u43 u44 u45 u46 u47 u48 u49 u50 u51 u52 aD6 aD7 aD8 aD9 aE0 aE1 aE2 aE3 u119 aE4 aE5 aE6 aE7 u124:Value),a'={ tmps:=#[.pointer (some ⟨b,0,none⟩),undef,.int .i64 0,.int .i64 (p:Int),.int .i32 c0,u5,u6,u7,u8,u9,Da,Db,Dc,Dh,Di,Dj,u16,Dk,Ib,Ic,u20,u21,u22,u23,u24,u25,u26,undef,undef,u29,u30,u31,u32,u33,u34,u35,u36,u37,u38,undef,undef,undef,undef,u43,u44,u45,u46,u47,u48,u49,u50,u51,u52,undef,undef,undef,undef,undef,undef,undef,undef,undef,undef,undef,undef,undef,undef,undef,undef,undef,undef,undef,undef,undef,undef,undef,undef,undef,undef,undef,undef,undef,undef,undef,undef,undef,undef,undef,undef,undef,undef,undef,undef,undef,undef,undef,undef,undef,undef,undef,undef,undef,undef,undef,undef,undef,undef,undef,undef,undef,undef,aD6,aD7,aD8,aD9,aE0,aE1,aE2,aE3,u119,aE4,aE5,aE6,aE7,u124],defers:=[] }∧lu w' b s q∧On b w w'∧p≤q∧p+T=q+skip P ((bs s).drop q)∧l=L∧n=s.size - q
theorem LU(b:Nat)(s:ByteArray)(p:Nat)(w:World)(h:lu w b s p)(hp:p<s.size)(hc:cc ((bs s).drop p)=45)(hc1:cc ((bs s).drop (p+1))=45) :
  Calls prog 114 #[.pointer (some ⟨b,0,none⟩)] w fun e w'=>e=.returned (.int .i64 2)∧lu w' b s (p+(1+skip uT ((bs s).drop (p+1))))∧On b w w':=by
 obtain⟨⟨c0,c1,c2,c3⟩,f0,f1,f2,f3⟩:=h.raw.facts;have hs:=h.big;have z1:sz ((bs s).drop p)=1:=gP (by omega) (by omega);have eN:nx ((bs s).drop p)=(bs s).drop (p+1):=by rw[fG,z1]
 have HP:=au (fun w2 (h':lu w2 b s p)=>dJ b s p w2 h');rw[z1] at HP;have EN:=au eN;have Z1:=au z1;have hsp:isSp (cc ((bs s).drop p))=false:=by rw[hc];decide
 have hlt:isLt (cc ((bs s).drop p))=false:=by rw[hc];decide
 have hdg:jw (cc ((bs s).drop p))=false:=by rw[hc];decide
 rw[hc] at hsp hlt hdg c2;clear z1 eN;go_enter func114,ntmps114;go_wp2_with fail
 refine kL (JL b s p 45 w uT (1+skip uT ((bs s).drop (p+1))) 3) ?_ ?_
 ·go_wp2_with fail
  go_quiet (fail)
  go_wp2_with (first|(go_at_call 73;refine(HP.o _ (h.drewN _)).mono ?_;rintro e w1 ⟨rfl,r1,k1⟩;obtain⟨⟨d0,d1,d2,d3⟩,-⟩:=r1.raw.facts;rw[hc1] at d2)|(go_at_call 137;refine(dK _ _).mono ?_;rintro e w' ⟨rfl,rfl⟩)|(go_at_call 138;refine(dw _ _).mono ?_;rintro e w' ⟨rfl,rfl⟩)|(go_at_call 139;refine(bZ _ _).mono ?_;rintro e w' ⟨rfl,rfl⟩))
  go_step3
  exact⟨s.size - (p+1),p+1,_,_,_,_,_,_,_,_,_,_,_,_,_,_,_,_,_,_,_,_,_,_,_,_,_,_,_,_,_,_,_,_,_,_,_,_,_,_,_,_,_,_,_,_,_,_,_,_,_,_,_,_,_,_,_,_,rfl,r1,(On.drewN b w nq).to k1,by omega,by omega,rfl,rfl⟩
 ·rintro l n a' w' ⟨q,u5,u6,u7,u8,u9,Da,Db,Dc,Dh,Di,Dj,u16,Dk,Ib,Ic,u20,u21,u22,u23,u24,u25,u26,u29,u30,u31,u32,u33,u34,u35,u36,u37,u38,u43,u44,u45,u46,u47,u48,u49,u50,u51,u52,aD6,aD7,aD8,aD9,aE0,aE1,aE2,aE3,u119,aE4,aE5,aE6,aE7,u124,rfl,hr,hk,hpq,hT,rfl,rfl⟩
  refine⟨_,rfl,?_⟩;have hq:=hr.le;clear c0 c1 c2 c3 f0 f1 f2 f3;obtain⟨⟨c0,c1,c2,c3⟩,f0,f1,f2,f3⟩:=hr.raw.facts;have sD:=au (dJ b s q w' hr);have HH:=au (And.intro hr (And.intro hk hT));clear hr hk hT;by_cases g1:cc ((bs s).drop q)=10
  ·have HN:=au (uV (p:=uT) (t:=(bs s).drop q) (by rw[g1];rfl))
   rw[g1] at c2;go_wp2_with (first|(go_at_call 73;refine(sD.o).mono ?_;rintro e w1 ⟨rfl,r1,k1⟩)|(go_at_call 137;refine(dK _ _).mono ?_;rintro e w' ⟨rfl,rfl⟩)|(go_at_call 138;refine(dw _ _).mono ?_;rintro e w' ⟨rfl,rfl⟩)|(go_at_call 139;refine(bZ _ _).mono ?_;rintro e w' ⟨rfl,rfl⟩))
   simp only[kr];go_ret;obtain⟨hr,hk,hT⟩:=HH.o;rw[HN.o] at hT;refine⟨rfl,?_,hk⟩;rw[hT];exact hr
  by_cases g2:cc ((bs s).drop q)=-1
  ·have HN:=au (zm uT)
   have HE:=au (rP.1 g2);rw[g2] at c2;clear g1 g2;go_wp2_with (first|(go_at_call 73;refine(sD.o).mono ?_;rintro e w1 ⟨rfl,r1,k1⟩)|(go_at_call 137;refine(dK _ _).mono ?_;rintro e w' ⟨rfl,rfl⟩)|(go_at_call 138;refine(dw _ _).mono ?_;rintro e w' ⟨rfl,rfl⟩)|(go_at_call 139;refine(bZ _ _).mono ?_;rintro e w' ⟨rfl,rfl⟩))
   simp only[kr];go_ret;obtain⟨hr,hk,hT⟩:=HH.o;rw[HE.o,HN.o] at hT;refine⟨rfl,?_,hk⟩;rw[hT];exact hr
  have hx:uT (cc ((bs s).drop q))=true:=by simp[uT,g1]
  have hne:(bs s).drop q≠[]:=fun e=>g2 (rP.2 e)
  have b1:(cc ((bs s).drop q) !=10)=true:=by simpa using g1
  have b2:(cc ((bs s).drop q) !=-1)=true:=by simpa using g2
  clear g1 g2;have HN:=au (oU (p:=uT) (t:=(bs s).drop q) hne hx);have HZ2:=au (iZ (l:=(bs s).drop q) hne);go_wp2_with (first|(go_at_call 73;refine(sD.o).mono ?_;rintro e w1 ⟨rfl,r1,k1⟩)|(go_at_call 137;refine(dK _ _).mono ?_;rintro e w' ⟨rfl,rfl⟩)|(go_at_call 138;refine(dw _ _).mono ?_;rintro e w' ⟨rfl,rfl⟩)|(go_at_call 139;refine(bZ _ _).mono ?_;rintro e w' ⟨rfl,rfl⟩))
  go_step3
  obtain⟨hr,hk,hT⟩:=HH.o;rw[HN.o,fG (bs s) q] at hT;have:=HZ2.o;have hz:=r1.le;exact⟨s.size - (q+sz ((bs s).drop q)),by omega,q+sz ((bs s).drop q),_,_,_,_,_,_,_,_,_,_,_,_,_,_,_,_,_,_,_,_,_,_,_,_,_,_,_,_,_,_,_,_,_,_,_,_,_,_,_,_,_,_,_,_,_,_,_,_,_,_,_,_,_,_,_,_,rfl,r1,hk.to k1,by omega,by omega,rfl,rfl⟩
def JM(b:Nat)(s:ByteArray)(p:Nat)(c0:Int)(w:World)(P:Int→Bool)(T L:Nat)(l n:Nat)(a':Act)(w':World):Prop :=
 ∃(q:Nat) (u5 u6 u7 u8 u9 Da Db Dc Dh Di Dj u16 Dk Ib Ic u20 u72 u73 u74 u75 u76 u77 u78 u79 u80 u81 u82 u83 u84 u85:Value),a'={ tmps:=#[.pointer (some ⟨b,0,none⟩),undef,.int .i64 0,.int .i64 (p:Int),.int .i32 c0,u5,u6,u7,u8,u9,Da,Db,Dc,Dh,Di,Dj,u16,Dk,Ib,Ic,u20,undef,undef,undef,undef,undef,undef,undef,undef,undef,undef,undef,undef,undef,undef,undef,undef,undef,undef,undef,undef,undef,undef,undef,undef,undef,undef,undef,undef,undef,undef,undef,undef,undef,undef,undef,undef,undef,undef,undef,undef,undef,undef,undef,undef,undef,undef,undef,undef,undef,undef,undef,u72,u73,u74,u75,u76,u77,u78,u79,u80,u81,u82,u83,u84,u85,undef,undef,undef,undef,undef,undef,undef,undef,undef,undef,undef,undef,undef,undef,undef,undef,undef,undef,undef,undef,undef,undef,undef,undef,undef,undef,undef,undef,undef,undef,undef,undef,undef,undef,undef,undef,undef,undef,undef],defers:=[] }∧lu w' b s q∧On b w w'∧p≤q∧p+T=q+skip P ((bs s).drop q)∧l=L∧n=s.size - q
theorem LQ(b:Nat)(s:ByteArray)(p:Nat)(w:World)(h:lu w b s p)(hp:p<s.size)(h1:isSp (cc ((bs s).drop p))=false)(hc:isLt (cc ((bs s).drop p))=true) :
  Calls prog 114 #[.pointer (some ⟨b,0,none⟩)] w fun e w'=>e=.returned (.int .i64 (if p8 (((bs s).drop p).take (sz ((bs s).drop p)+skip pR (nx ((bs s).drop p)))) then 4 else 3:Nat))∧lu w' b s (p+(sz ((bs s).drop p)+skip pR (nx ((bs s).drop p))))∧On b w w':=by
 obtain⟨⟨c0,c1,c2,c3⟩,f0,f1,f2,f3⟩:=h.raw.facts;have hs:=h.big;have HZ:=au (iZ (jg hp));go_enter func114,ntmps114;go_wp2_with fail
 refine kL (JM b s p (cc ((bs s).drop p)) w pR (sz ((bs s).drop p)+skip pR (nx ((bs s).drop p))) 1) ?_ ?_
 ·go_wp2_with fail
  go_quiet (fail)
  go_wp2_with (first|(go_at_call 73;refine(dJ b s p _ (h.drewN _)).mono ?_;rintro e w1 ⟨rfl,r1,k1⟩)|(go_at_call 137;refine(dK _ _).mono ?_;rintro e w' ⟨rfl,rfl⟩)|(go_at_call 138;refine(dw _ _).mono ?_;rintro e w' ⟨rfl,rfl⟩)|(go_at_call 139;refine(bZ _ _).mono ?_;rintro e w' ⟨rfl,rfl⟩))
  go_step3
  have:=HZ.o;exact⟨s.size - (p+sz ((bs s).drop p)),p+sz ((bs s).drop p),_,_,_,_,_,_,_,_,_,_,_,_,_,_,_,_,_,_,_,_,_,_,_,_,_,_,_,_,_,_,rfl,r1,(On.drewN b w nq).to k1,by omega,by rw[fG];omega,rfl,rfl⟩
 ·rintro l n a' w' ⟨q,u5,u6,u7,u8,u9,Da,Db,Dc,Dh,Di,Dj,u16,Dk,Ib,Ic,u20,u72,u73,u74,u75,u76,u77,u78,u79,u80,u81,u82,u83,u84,u85,rfl,hr,hk,hpq,hT,rfl,rfl⟩
  refine⟨_,rfl,?_⟩;have hq:=hr.le;clear c0 c1 c2 c3 f0 f1 f2 f3;obtain⟨⟨c0,c1,c2,c3⟩,f0,f1,f2,f3⟩:=hr.raw.facts;have sD:=au (dJ b s q w' hr);have HH:=au (And.intro hr (And.intro hk hT));clear hr hk hT;have hnm:pR (cc ((bs s).drop q))=(isLt (cc ((bs s).drop q))||jw (cc ((bs s).drop q))):=rfl;cases hl:isLt (cc ((bs s).drop q))
  ·cases hd:jw (cc ((bs s).drop q))
   ·have hx:pR (cc ((bs s).drop q))=false:=by rw[hnm,hl,hd];rfl
    have HN:=au (uV (p:=pR) hx);have A8:=(HH.o).2.2;rw[HN.o] at A8;have hw:p8 (((bs s).drop p).take (sz ((bs s).drop p)+skip pR (nx ((bs s).drop p))))=p8 (bs (s.extract p q)):=by
     rw[qf,nS,show q - p=sz ((bs s).drop p)+skip pR (nx ((bs s).drop p)) by omega]
    have HW:=au hw;clear hw hnm hx;have HT2:=au A8;clear A8;cases hwd:p8 (bs (s.extract p q))
    ·have HV:=au hwd
     go_wp2_with (first|(go_at_call 73;refine(sD.o).mono ?_;rintro e w1 ⟨rfl,r1,k1⟩)|(go_at_call 137;refine(dK _ _).mono ?_;rintro e w' ⟨rfl,rfl⟩)|(go_at_call 138;refine(dw _ _).mono ?_;rintro e w' ⟨rfl,rfl⟩)|(go_at_call 139;refine(bZ _ _).mono ?_;rintro e w' ⟨rfl,rfl⟩))
     go_quiet ((go_at_call 144;exact Calls.quiet_of_same (EU _ _)))
     simp only[hwd];go_wp2_with fail
     simp only[kr];go_ret;obtain⟨hr,hk,hT⟩:=HH.o;refine⟨uI (a:=3) (by rw[HW.o,HV.o];rfl),?_,hk.to (On.drewN b _ nq)⟩;rw[HT2.o];exact hr.drewN _
    ·have HV:=au hwd
     go_wp2_with (first|(go_at_call 73;refine(sD.o).mono ?_;rintro e w1 ⟨rfl,r1,k1⟩)|(go_at_call 137;refine(dK _ _).mono ?_;rintro e w' ⟨rfl,rfl⟩)|(go_at_call 138;refine(dw _ _).mono ?_;rintro e w' ⟨rfl,rfl⟩)|(go_at_call 139;refine(bZ _ _).mono ?_;rintro e w' ⟨rfl,rfl⟩))
     go_quiet ((go_at_call 144;exact Calls.quiet_of_same (EU _ _)))
     simp only[hwd];go_wp2_with fail
     simp only[kr];go_ret;obtain⟨hr,hk,hT⟩:=HH.o;refine⟨uI (a:=4) (by rw[HW.o,HV.o];rfl),?_,hk.to (On.drewN b _ nq)⟩;rw[HT2.o];exact hr.drewN _
   ·have hx:pR (cc ((bs s).drop q))=true:=by rw[hnm,hl,hd];rfl
    clear hnm;have HN:=au (oU (p:=pR) (t:=(bs s).drop q) (Kl hx) hx);have HZ2:=au (iZ (l:=(bs s).drop q) (Kl hx));go_wp2_with (first|(go_at_call 73;refine(sD.o).mono ?_;rintro e w1 ⟨rfl,r1,k1⟩)|(go_at_call 137;refine(dK _ _).mono ?_;rintro e w' ⟨rfl,rfl⟩)|(go_at_call 138;refine(dw _ _).mono ?_;rintro e w' ⟨rfl,rfl⟩)|(go_at_call 139;refine(bZ _ _).mono ?_;rintro e w' ⟨rfl,rfl⟩))
    go_step3
    obtain⟨hr,hk,hT⟩:=HH.o;rw[HN.o,fG (bs s) q] at hT;have:=HZ2.o;have hz:=r1.le;exact⟨s.size - (q+sz ((bs s).drop q)),by omega,q+sz ((bs s).drop q),_,_,_,_,_,_,_,_,_,_,_,_,_,_,_,_,_,_,_,_,_,_,_,_,_,_,_,_,_,_,rfl,r1,hk.to k1,by omega,by omega,rfl,rfl⟩
  ·have hx:pR (cc ((bs s).drop q))=true:=by rw[hnm,hl];rfl
   clear hnm;have HN:=au (oU (p:=pR) (t:=(bs s).drop q) (Kl hx) hx);have HZ2:=au (iZ (l:=(bs s).drop q) (Kl hx));go_wp2_with (first|(go_at_call 73;refine(sD.o).mono ?_;rintro e w1 ⟨rfl,r1,k1⟩)|(go_at_call 137;refine(dK _ _).mono ?_;rintro e w' ⟨rfl,rfl⟩)|(go_at_call 138;refine(dw _ _).mono ?_;rintro e w' ⟨rfl,rfl⟩)|(go_at_call 139;refine(bZ _ _).mono ?_;rintro e w' ⟨rfl,rfl⟩))
   go_step3
   obtain⟨hr,hk,hT⟩:=HH.o;rw[HN.o,fG (bs s) q] at hT;have:=HZ2.o;have hz:=r1.le;exact⟨s.size - (q+sz ((bs s).drop q)),by omega,q+sz ((bs s).drop q),_,_,_,_,_,_,_,_,_,_,_,_,_,_,_,_,_,_,_,_,_,_,_,_,_,_,_,_,_,_,rfl,r1,hk.to k1,by omega,by omega,rfl,rfl⟩
theorem lu.below{w w':World}{b:Nat}{s:ByteArray}{p:Nat}(h:lu w b s p)(hb:Below w.heap.size w w'):lu w' b s p:=⟨h.raw.below hb,h.tabs.below hb,h.old,h.le,h.big⟩
theorem Iw(b:Nat)(s:ByteArray)(p:Nat)(w:World)(h:lu w b s p)(hc:cc ((bs s).drop p)=34) :
  Calls prog 114 #[.pointer (some ⟨b,0,none⟩)] w fun e w'=>e=.returned (.int .i64 (quo 6 (nx ((bs s).drop p))).1)∧lu w' b s (p+(1+(quo 6 (nx ((bs s).drop p))).2))∧On b w w':=by
 obtain⟨⟨c0,c1,c2,c3⟩,f0,f1,f2,f3⟩:=h.raw.facts;have hs:=h.big;have z1:sz ((bs s).drop p)=1:=gP (by omega) (by omega);rw[fG,z1];have Z1:=au z1;have hsp:isSp 34=false:=by decide
 have hlt:isLt 34=false:=by decide
 have hdg:jw 34=false:=by decide
 rw[hc] at c2;clear z1;go_enter func114,ntmps114;go_wp2_with fail
 go_step3
 go_wp2_with fail
 go_quiet (fail)
 go_wp2_with (first|(go_at_call 73;refine(dJ b s p _ (h.drewN _)).mono ?_;rintro e w1 ⟨rfl,r1,k1⟩;obtain⟨⟨d0,d1,d2,d3⟩,-⟩:=r1.raw.facts;rw[Z1.o] at r1)|(go_at_call 137;refine(dK _ _).mono ?_;rintro e w' ⟨rfl,rfl⟩)|(go_at_call 138;refine(dw _ _).mono ?_;rintro e w' ⟨rfl,rfl⟩)|(go_at_call 139;refine(bZ _ _).mono ?_;rintro e w' ⟨rfl,rfl⟩)|(go_at_call 142;refine(jS _ _ _).mono ?_;rintro e w' ⟨rfl,rfl⟩)|(go_at_call 140;refine(Ip b s (p+1) _ r1).mono ?_;rintro e w2 ⟨rfl,r2,k2⟩))
 rw[iC];go_ret;exact⟨rfl,by rw[← fw];exact r2,((On.drewN b w nq).to k1).to k2⟩
theorem LV(b:Nat)(s:ByteArray)(p:Nat)(w:World)(h:lu w b s p)(hc:cc ((bs s).drop p)=123)(hc1:cc ((bs s).drop (p+1))=45) :
  Calls prog 114 #[.pointer (some ⟨b,0,none⟩)] w fun e w'=>e=.returned (.int .i64 (nest 1 ((bs s).drop (p+2))).1)∧lu w' b s (p+(2+(nest 1 ((bs s).drop (p+2))).2))∧On b w w':=by
 obtain⟨⟨c0,c1,c2,c3⟩,f0,f1,f2,f3⟩:=h.raw.facts;have hs:=h.big;have z1:sz ((bs s).drop p)=1:=gP (by omega) (by omega);have z2:sz ((bs s).drop (p+1))=1:=gP (by omega) (by omega);have HP:=au (fun w2 (h':lu w2 b s p)=>dJ b s p w2 h');have Km:=au (fun w2 (h':lu w2 b s (p+1))=>dJ b s (p+1) w2 h');rw[z1] at HP;rw[z2] at Km;have yG:=au hc1;have hsp:isSp 123=false:=by decide
 have hlt:isLt 123=false:=by decide
 have hdg:jw 123=false:=by decide
 rw[hc] at c2;clear z1 z2 hc1;go_enter func114,ntmps114;go_wp2_with fail
 go_step3
 go_wp2_with fail
 go_quiet (fail)
 go_wp2_with fail
 refine((HP.o) _ (h.drewN _)).mono ?_;rintro e w1 ⟨rfl,r1,k1⟩;obtain⟨⟨d0,d1,d2,d3⟩,-⟩:=r1.raw.facts;rw[yG.o] at d2;go_wp2_with (first|(go_at_call 137;refine(dK _ _).mono ?_;rintro e w' ⟨rfl,rfl⟩)|(go_at_call 138;refine(dw _ _).mono ?_;rintro e w' ⟨rfl,rfl⟩)|(go_at_call 139;refine(bZ _ _).mono ?_;rintro e w' ⟨rfl,rfl⟩)|(go_at_call 142;refine(jS _ _ _).mono ?_;rintro e w' ⟨rfl,rfl⟩)|(go_at_call 73;refine((Km.o) _ r1).mono ?_;rintro e w2 ⟨rfl,r2,k2⟩)|(go_at_call 141;refine(Im b s (p+2) _ r2).mono ?_;rintro e w3 ⟨rfl,r3,k3⟩))
 rw[iC];go_ret;exact⟨rfl,by rw[← fw];exact r3,(((On.drewN b w nq).to k1).to k2).to k3⟩
theorem LW(b:Nat)(s:ByteArray)(p:Nat)(w:World)(h:lu w b s p)(hpr:uU (cc ((bs s).drop p)) (cc ((bs s).drop (p+1)))=true)(hc:cc ((bs s).drop p)=61∨cc ((bs s).drop p)=43) :
  Calls prog 114 #[.pointer (some ⟨b,0,none⟩)] w fun e w'=>e=.returned (.int .i64 7)∧lu w' b s (p+2)∧On b w w':=by
 obtain⟨⟨c0,c1,c2,c3⟩,f0,f1,f2,f3⟩:=h.raw.facts;have hs:=h.big;have z1:sz ((bs s).drop p)=1:=gP (by omega) (by omega);have z2:sz ((bs s).drop (p+1))=1:=by
  unfold uU at hpr;simp only[qU] at hpr;exact gP (by omega) (by omega)
 have HP:=au (fun w2 (h':lu w2 b s p)=>dJ b s p w2 h');have Km:=au (fun w2 (h':lu w2 b s (p+1))=>dJ b s (p+1) w2 h');rw[z1] at HP;rw[z2] at Km;clear z1 z2;rcases hc with hc|hc
 ·rw[hc] at c2 hpr
  have hsp:isSp 61=false:=by decide
  have hlt:isLt 61=false:=by decide
  have hdg:jw 61=false:=by decide
  go_enter func114,ntmps114;go_wp2_with fail
  go_step3
  go_wp2_with fail
  go_quiet (fail)
  go_wp2_with fail
  refine((HP.o) _ (h.drewN _)).mono ?_;rintro e w1 ⟨rfl,r1,k1⟩;obtain⟨⟨d0,d1,d2,d3⟩,-⟩:=r1.raw.facts;go_wp2_with (first|(go_at_call 137;refine(dK _ _).mono ?_;rintro e w' ⟨rfl,rfl⟩)|(go_at_call 138;refine(dw _ _).mono ?_;rintro e w' ⟨rfl,rfl⟩)|(go_at_call 139;refine(bZ _ _).mono ?_;rintro e w' ⟨rfl,rfl⟩)|(go_at_call 142;refine(jS _ _ _).mono ?_;rintro e w' ⟨rfl,rfl⟩)|(go_at_call 73;refine((Km.o) _ r1).mono ?_;rintro e w2 ⟨rfl,r2,k2⟩))
  rw[iC];go_ret;exact⟨rfl,r2,((On.drewN b w nq).to k1).to k2⟩
 ·rw[hc] at c2 hpr
  have hsp:isSp 43=false:=by decide
  have hlt:isLt 43=false:=by decide
  have hdg:jw 43=false:=by decide
  go_enter func114,ntmps114;go_wp2_with fail
  go_step3
  go_wp2_with fail
  go_quiet (fail)
  go_wp2_with fail
  refine((HP.o) _ (h.drewN _)).mono ?_;rintro e w1 ⟨rfl,r1,k1⟩;obtain⟨⟨d0,d1,d2,d3⟩,-⟩:=r1.raw.facts;go_wp2_with (first|(go_at_call 137;refine(dK _ _).mono ?_;rintro e w' ⟨rfl,rfl⟩)|(go_at_call 138;refine(dw _ _).mono ?_;rintro e w' ⟨rfl,rfl⟩)|(go_at_call 139;refine(bZ _ _).mono ?_;rintro e w' ⟨rfl,rfl⟩)|(go_at_call 142;refine(jS _ _ _).mono ?_;rintro e w' ⟨rfl,rfl⟩)|(go_at_call 73;refine((Km.o) _ r1).mono ?_;rintro e w2 ⟨rfl,r2,k2⟩))
  rw[iC];go_ret;exact⟨rfl,r2,((On.drewN b w nq).to k1).to k2⟩
theorem Iy(b:Nat)(s:ByteArray)(p:Nat)(w:World)(h:lu w b s p)(hp:p<s.size)(hsp:isSp (cc ((bs s).drop p))=false)(hlt:isLt (cc ((bs s).drop p))=false)(hdg:jw (cc ((bs s).drop p))=false)
  (hq:cc ((bs s).drop p)≠34) (h1:¬(cc ((bs s).drop p)=123∧cc (nx ((bs s).drop p))=45)) (h2:¬(cc ((bs s).drop p)=45∧cc (nx ((bs s).drop p))=45)) (hpr:uU (cc ((bs s).drop p)) (cc (nx ((bs s).drop p)))=false) :
  Calls prog 114 #[.pointer (some ⟨b,0,none⟩)] w fun e w'=>e=.returned (.int .i64 (if qZ (cc ((bs s).drop p)) then 7 else 8:Nat))∧lu w' b s (p+sz ((bs s).drop p))∧On b w w':=by
 obtain⟨⟨c0,c1,c2,c3⟩,f0,f1,f2,f3⟩:=h.raw.facts;have hs:=h.big;have hpos:0≤cc ((bs s).drop p):=by rw[oo (jg hp)];omega
 have bq:(cc ((bs s).drop p)==34)=false:=by simpa using hq
 rw[fG] at h1 h2 hpr;by_cases g1:cc ((bs s).drop p)=123
 ·have hn:(cc ((bs s).drop (p+sz ((bs s).drop p)))==45)=false:=by
   have:¬ cc ((bs s).drop (p+sz ((bs s).drop p)))=45:=fun e=>h1 ⟨g1,e⟩
   simpa using this
  have hsg:qZ 123=false:=by decide
  rw[g1] at c2 hsp hlt hdg bq hpr;rw[g1,hsg];clear h1 h2 hq;go_enter func114,ntmps114;go_wp2_with fail
  go_step3
  go_wp2_with fail
  go_quiet (fail)
  go_wp2_with (first|(go_at_call 73;refine(dJ b s p _ (h.drewN _)).mono ?_;rintro e w1 ⟨rfl,r1,k1⟩;obtain⟨⟨d0,d1,d2,d3⟩,-⟩:=r1.raw.facts)|(go_at_call 137;refine(dK _ _).mono ?_;rintro e w' ⟨rfl,rfl⟩)|(go_at_call 138;refine(dw _ _).mono ?_;rintro e w' ⟨rfl,rfl⟩)|(go_at_call 139;refine(bZ _ _).mono ?_;rintro e w' ⟨rfl,rfl⟩)|(go_at_call 142;refine(jS _ _ _).mono ?_;rintro e w' ⟨rfl,rfl⟩)|(go_at_call 143;refine(oq _ _ (by omega)).mono ?_;rintro e w2 ⟨rfl,k2⟩))
  rw[iC];go_ret;exact⟨rfl,r1.below k2,((On.drewN b w nq).to k1).to (On.aI b k2)⟩
 by_cases g2:cc ((bs s).drop p)=45
 ·have hn:(cc ((bs s).drop (p+sz ((bs s).drop p)))==45)=false:=by
   have:¬ cc ((bs s).drop (p+sz ((bs s).drop p)))=45:=fun e=>h2 ⟨g2,e⟩
   simpa using this
  have hsg:qZ 45=true:=by decide
  rw[g2] at c2 hsp hlt hdg bq hpr;rw[g2,hsg];clear h1 h2 hq g1;go_enter func114,ntmps114;go_wp2_with fail
  go_step3
  go_wp2_with fail
  go_quiet (fail)
  go_wp2_with (first|(go_at_call 73;refine(dJ b s p _ (h.drewN _)).mono ?_;rintro e w1 ⟨rfl,r1,k1⟩;obtain⟨⟨d0,d1,d2,d3⟩,-⟩:=r1.raw.facts)|(go_at_call 137;refine(dK _ _).mono ?_;rintro e w' ⟨rfl,rfl⟩)|(go_at_call 138;refine(dw _ _).mono ?_;rintro e w' ⟨rfl,rfl⟩)|(go_at_call 139;refine(bZ _ _).mono ?_;rintro e w' ⟨rfl,rfl⟩)|(go_at_call 142;refine(jS _ _ _).mono ?_;rintro e w' ⟨rfl,rfl⟩)|(go_at_call 143;refine(oq _ _ (by omega)).mono ?_;rintro e w2 ⟨rfl,k2⟩))
  rw[iC];go_ret;exact⟨rfl,r1.below k2,((On.drewN b w nq).to k1).to (On.aI b k2)⟩
 ·have b1:(cc ((bs s).drop p)==123)=false:=by simpa using g1
  have b2:(cc ((bs s).drop p)==45)=false:=by simpa using g2
  clear h1 h2 hq g1 g2;cases hsg:qZ (cc ((bs s).drop p))
  ·go_enter func114,ntmps114
   go_wp2_with fail
   go_step3
   go_wp2_with fail
   go_quiet (fail)
   go_wp2_with (first|(go_at_call 73;refine(dJ b s p _ (h.drewN _)).mono ?_;rintro e w1 ⟨rfl,r1,k1⟩;obtain⟨⟨d0,d1,d2,d3⟩,-⟩:=r1.raw.facts)|(go_at_call 137;refine(dK _ _).mono ?_;rintro e w' ⟨rfl,rfl⟩)|(go_at_call 138;refine(dw _ _).mono ?_;rintro e w' ⟨rfl,rfl⟩)|(go_at_call 139;refine(bZ _ _).mono ?_;rintro e w' ⟨rfl,rfl⟩)|(go_at_call 142;refine(jS _ _ _).mono ?_;rintro e w' ⟨rfl,rfl⟩)|(go_at_call 143;refine(oq _ _ (by omega)).mono ?_;rintro e w2 ⟨rfl,k2⟩))
   rw[iC];go_ret;exact⟨rfl,r1.below k2,((On.drewN b w nq).to k1).to (On.aI b k2)⟩
  ·go_enter func114,ntmps114
   go_wp2_with fail
   go_step3
   go_wp2_with fail
   go_quiet (fail)
   go_wp2_with (first|(go_at_call 73;refine(dJ b s p _ (h.drewN _)).mono ?_;rintro e w1 ⟨rfl,r1,k1⟩;obtain⟨⟨d0,d1,d2,d3⟩,-⟩:=r1.raw.facts)|(go_at_call 137;refine(dK _ _).mono ?_;rintro e w' ⟨rfl,rfl⟩)|(go_at_call 138;refine(dw _ _).mono ?_;rintro e w' ⟨rfl,rfl⟩)|(go_at_call 139;refine(bZ _ _).mono ?_;rintro e w' ⟨rfl,rfl⟩)|(go_at_call 142;refine(jS _ _ _).mono ?_;rintro e w' ⟨rfl,rfl⟩)|(go_at_call 143;refine(oq _ _ (by omega)).mono ?_;rintro e w2 ⟨rfl,k2⟩))
   rw[iC];go_ret;exact⟨rfl,r1.below k2,((On.drewN b w nq).to k1).to (On.aI b k2)⟩
theorem OD(b:Nat)(s:ByteArray)(p:Nat)(w:World)(h:lu w b s p)(hp:p<s.size) :
  Calls prog 114 #[.pointer (some ⟨b,0,none⟩)] w fun e w'=>e=.returned (.int .i64 (tok ((bs s).drop p)).1)∧lu w' b s (p+(tok ((bs s).drop p)).2)∧On b w w':=by
 cases h1:isSp (cc ((bs s).drop p))
 case true =>
  rw[show tok ((bs s).drop p)=(1,sz ((bs s).drop p)+skip isSp (nx ((bs s).drop p))) by unfold tok;rw[h1];rfl];exact Ir b s p w h hp h1
 cases h2:isLt (cc ((bs s).drop p))
 case true =>
  rw[show tok ((bs s).drop p)=(if p8 (((bs s).drop p).take (sz ((bs s).drop p)+skip pR (nx ((bs s).drop p)))) then 4 else 3,sz ((bs s).drop p)+skip pR (nx ((bs s).drop p))) by unfold tok;rw[h1,h2];rfl];exact LQ b s p w h hp h1 h2
 cases h3:jw (cc ((bs s).drop p))
 case true =>
  rw[show tok ((bs s).drop p)=(if 18<sz ((bs s).drop p)+skip jw (nx ((bs s).drop p)) then 8 else 5,sz ((bs s).drop p)+skip jw (nx ((bs s).drop p))) by unfold tok;rw[h1,h2,h3];rfl];exact Iu b s p w h hp h1 h2 h3
 by_cases h4:cc ((bs s).drop p)=34
 ·rw[show tok ((bs s).drop p)=((quo 6 (nx ((bs s).drop p))).1,1+(quo 6 (nx ((bs s).drop p))).2) by unfold tok;rw[h1,h2,h3,aG (by simp),aG (by simp),aG (by simp),aL h4]]
  exact Iw b s p w h h4
 by_cases h5:cc ((bs s).drop p)=123∧cc (nx ((bs s).drop p))=45
 ·have z1:sz ((bs s).drop p)=1:=gP (by omega) (by omega)
  have e1:nx ((bs s).drop p)=(bs s).drop (p+1):=by rw[fG,z1]
  have z2:sz ((bs s).drop (p+1))=1:=by rw[← e1];exact gP (by omega) (by omega)
  have e2:nx (nx ((bs s).drop p))=(bs s).drop (p+2):=by rw[e1,fG,z2]
  rw[show tok ((bs s).drop p)=((nest 1 ((bs s).drop (p+2))).1,2+(nest 1 ((bs s).drop (p+2))).2) by unfold tok;rw[h1,h2,h3,aG (by simp),aG (by simp),aG (by simp),aG h4,aL h5,e2]];exact LV b s p w h h5.1 (by rw[← e1];exact h5.2)
 by_cases h6:cc ((bs s).drop p)=45∧cc (nx ((bs s).drop p))=45
 ·have z1:sz ((bs s).drop p)=1:=gP (by omega) (by omega)
  have e1:nx ((bs s).drop p)=(bs s).drop (p+1):=by rw[fG,z1]
  rw[show tok ((bs s).drop p)=(2,1+skip uT ((bs s).drop (p+1))) by unfold tok;rw[h1,h2,h3,aG (by simp),aG (by simp),aG (by simp),aG h4,aG h5,aL h6,e1]];exact LU b s p w h hp h6.1 (by rw[← e1];exact h6.2)
 cases h7:uU (cc ((bs s).drop p)) (cc (nx ((bs s).drop p)))
 case true =>
  have h8:cc ((bs s).drop p)=61∨cc ((bs s).drop p)=43:=by
   have:=h7;unfold uU at this;simp only[qU] at this;omega
  have z1:sz ((bs s).drop p)=1:=gP (by omega) (by omega);have e1:nx ((bs s).drop p)=(bs s).drop (p+1):=by rw[fG,z1]
  rw[show tok ((bs s).drop p)=(7,2) by unfold tok;rw[h1,h2,h3,aG (by simp),aG (by simp),aG (by simp),aG h4,aG h5,aG h6,aL h7]];exact LW b s p w h (by rw[← e1];exact h7) h8
 have key:=Iy b s p w h hp h1 h2 h3 h4 h5 h6 h7;have hpos:0≤cc ((bs s).drop p):=by rw[oo (jg hp)];omega
 cases h8:qZ (cc ((bs s).drop p))
 case true =>
  have z1:sz ((bs s).drop p)=1:=by
   have:=h8;unfold qZ at this;simp only[qU,cK,kZ,or_false] at this;exact gP (by omega) (by omega)
  rw[show tok ((bs s).drop p)=(7,1) by unfold tok;rw[h1,h2,h3,aG (by simp),aG (by simp),aG (by simp),aG h4,aG h5,aG h6,aG (by rw[h7];simp),aL h8]];rw[h8,z1] at key;exact key
 case false =>
  rw[show tok ((bs s).drop p)=(8,sz ((bs s).drop p)) by unfold tok;rw[h1,h2,h3,aG (by simp),aG (by simp),aG (by simp),aG h4,aG h5,aG h6,aG (by rw[h7];simp),aG (by rw[h8];simp)]];rw[h8] at key;exact key
theorem EW{s:ByteArray}{p:Nat}(h:p<s.size):p+(tok ((bs s).drop p)).2≤s.size:=by
 have:=(iY (jg h)).2.2.2;simp[eZ] at this;omega
theorem lu.keep{S:Nat→Prop}{w w':World}{b:Nat}{s:ByteArray}{p:Nat}(h:lu w b s p)(hk:Kp S w w')(hn:¬ S b)(h7:∀ k,k<4→¬ S k):lu w' b s p:=⟨h.raw.keep hk hn,h.tabs.keep hk h7,h.old,h.le,h.big⟩
theorem On.Iz{b:Nat}{a w:World}(h:On b a w){n:Nat}(hn:a.heap.size≤n)(i:Nat)(v:Value):On b a (w.setCell ⟨n,i,none⟩ v):=Kp.setCell h (p:=⟨n,i,none⟩) (fun hl=>by have:n<a.heap.size:=hl;omega) v
def IA(w:World)(b:Nat)(x0 x1 x2:Value):Prop:=w.heap[b]?=some (.cells #[x0,x1,x2] 203 (0,0))
theorem IA.new(w:World)(x0 x1 x2:Value):IA (w.alloc (.cells #[x0,x1,x2] 203)) w.heap.size x0 x1 x2:=by
 show(w.heap.push _)[w.heap.size]?=_;simp
theorem IA.facts{w:World}{b:Nat}{x0 x1 x2:Value}(h:IA w b x0 x1 x2) :
  (w.cell? ⟨b,0,none⟩=some x0∧w.cell? ⟨b,1,none⟩=some x1∧w.cell? ⟨b,2,none⟩=some x2) ∧
  (w.frozen? ⟨b,0,none⟩=false∧w.frozen? ⟨b,1,none⟩=false∧w.frozen? ⟨b,2,none⟩=false):=by
 unfold IA at h;refine⟨⟨?_,?_,?_⟩,?_,?_,?_⟩<;>simp[World.cell?,World.frozen?,h]
theorem BO(b:Nat)(s:ByteArray)(p:Nat)(w:World)(h:lu w b s p)(hp:p<s.size) :
  Calls prog 86 #[.pointer (some ⟨b,0,none⟩)] w fun e w'=>e=.returned (.agg #[.int .i64 (tok ((bs s).drop p)).1,.int .i64 p,.int .i64 (tok ((bs s).drop p)).2])∧lu w' b s (p+(tok ((bs s).drop p)).2)∧On b w w':=by
 have hs:=h.big;have HT:=au (EW hp);have h':lu (w.alloc (.cells #[.int .i64 0,.int .i64 0,.int .i64 0] 203)) b s p:=h.below ((ay _ _).alloc (aj _) _);have hbl:b<w.heap.size:=h.raw.lt;obtain⟨⟨c0,c1,c2,c3⟩,f0,f1,f2,f3⟩:=h.raw.facts;go_enter func86,ntmps86;go_wp2_with fail
 refine(OD b s p _ h' hp).mono ?_;rintro e w1 ⟨rfl,r1,k1⟩;obtain⟨⟨d0,d1,d2,d3⟩,-⟩:=r1.raw.facts;have g0:IA w1 w.heap.size (.int .i64 0) (.int .i64 0) (.int .i64 0):=Kp.heap k1 (IA.new w _ _ _) (by omega);obtain⟨⟨x0,x1,x2⟩,y0,y1,y2⟩:=g0.facts;have R1:=au r1;have K1:=au k1;clear r1 k1 g0;have hT:=HT.o;have e1:((p+(tok ((bs s).drop p)).2:Nat):Int) - (p:Int)=((tok ((bs s).drop p)).2:Int):=by omega
 go_wp2_with fail
 have e2:(p:Int)+((tok ((bs s).drop p)).2:Int) - (p:Int)=((tok ((bs s).drop p)).2:Int):=by omega
 rw[e2];have k0:On b w w1:=Kp.trans (Kp.alloc (Kp.refl _ w) _) K1.o (fun _ _ e=>e);have h7:=h.tabs.2;have q1:Kp (fun k=>k=w.heap.size) w1 (((w1.setCell ⟨w.heap.size,0,none⟩ (.int .i64 (tok ((bs s).drop p)).1)).setCell ⟨w.heap.size,1,none⟩ (.int .i64 p)).setCell ⟨w.heap.size,2,none⟩ (.int .i64 (tok ((bs s).drop p)).2)) :=
  ((On.set (Kp.refl _ w1) 0 _).set 1 _).set 2 _
 exact bI (v:=.agg #[.int .i64 (tok ((bs s).drop p)).1,.int .i64 p,.int .i64 (tok ((bs s).drop p)).2]) (by simp[results,results86,go_sem,x0,x1,x2]) rfl
  ⟨rfl,(R1.o).keep q1 (by omega) (fun k hk=>by omega),((k0.Iz (aj _) 0 _).Iz (aj _) 1 _).Iz (aj _) 2 _⟩
def nX(l:ah)(kind:Nat):Bool:=decide (l≠[]∧M.tok l=(kind,l.length))
theorem Y8{W:World}{b:Nat}{c:Array Value}{t:TypeId}(h:W.heap[b]?=some (.cells c t (0,0)))(k:Nat):W.frozen? ⟨b,k,none⟩=false:=by simp[World.frozen?,h]
def firstT(s:ByteArray):Nat × Nat:=if s.size=0 then(0,0) else M.tok (bs s)
theorem tT(s:ByteArray)(w:World)(hT:kP w)(hs:s.size≤1073741824) :
  Calls prog 79 #[.string s] w fun e w'=>e=.returned (.agg #[.int .i64 (firstT s).1,.int .i64 0,.int .i64 (firstT s).2])∧Below w.heap.size w w':=by
 have k0:Below w.heap.size w (w.alloc (.cells #[.int .i64 0,.int .i64 0,.int .i64 0] 203)):=(ay _ w).alloc (aj _) _;have hN:=aB w (.cells #[.int .i64 0,.int .i64 0,.int .i64 0] 203);by_cases h0:s.size=0
 ·obtain rfl:s=⟨#[]⟩:=jJ (by rw[← aT.1 (by rw[eZ];exact h0:(bs s).length=0)];rfl)
  have e:firstT ⟨#[]⟩=(0,0):=aL h0;rw[e];have a0:=ai _ _ 0 _ _ _ hN;have a1:=ai _ _ 1 _ _ _ hN;have a2:=ai _ _ 2 _ _ _ hN;go_enter func79,ntmps79;go_wp2_with fail
  exact bI (by simp[results,results79,go_sem]) rfl ⟨rfl,k0⟩
 ·have hne:bs s≠[]:=by intro e;have:=congrArg List.length e;rw[eZ] at this;exact h0 this
  have hb:(s.toList==[])=false:=by rw[gN,dF];exact hne
  have hbn:(s.toList !=[])=true:=by rw[bne,hb];rfl
  have hp:0<s.size:=by omega
  have hT1:kP (w.alloc (.cells #[.int .i64 0,.int .i64 0,.int .i64 0] 203)):=hT.below k0;have h7:=hT1.2;have HE:Hid (firstT s=M.tok (bs s)):=aG h0;have HN:=au hN;have TK:=au k0;have hz:(w.alloc (.cells #[.int .i64 0,.int .i64 0,.int .i64 0] 203)).heap.size=w.heap.size+1:=by simp
  clear hN k0;go_enter func79,ntmps79;go_wp2_with fail
  refine(oG s 0 _ hT1 (aX _) (by omega)).mono ?_;rintro e w1 ⟨rfl,r1,k1⟩;have z1:=k1.size;have K1:=au ((TK.o).trans (k1.mono (TK.o).size));have hN1:w1.heap[w.heap.size]?=some (.cells #[.int .i64 0,.int .i64 0,.int .i64 0] 203 (0,0)):=by
   rw[k1.block w.heap.size (by rw[hz];omega)];exact HN.o
  have U9:=au hN1;rw[hz] at r1 z1;rw[hz];clear k1 hN1;go_wp2_with fail
  refine(BO (w.heap.size+1) s 0 _ r1 hp).mono ?_;rintro e w2 ⟨rfl,r2,k2⟩;have K2:=au ((K1.o).trans (On.below k2 (B:=w.heap.size) (by omega) (by omega)));have NZ:=k2.heap U9.o (fun e=>by omega);clear k2 r2;rw[List.drop_zero,← HE.o];have a0:=ai _ _ 0 _ _ _ NZ;have a1:=ai _ _ 1 _ _ _ NZ;have a2:=ai _ _ 2 _ _ _ NZ;have b0:=Y8 NZ 0;have b1:=Y8 NZ 1;have b2:=Y8 NZ 2;have Fe:(((w2.setCell ⟨w.heap.size,0,none⟩ (.int .i64 (firstT s).1)).setCell ⟨w.heap.size,1,none⟩ (.int .i64 0)).setCell ⟨w.heap.size,2,none⟩ (.int .i64 (firstT s).2)).heap[w.heap.size]?=some (.cells #[.int .i64 (firstT s).1,.int .i64 0,.int .i64 (firstT s).2] 203 (0,0)):=by
   simp[World.setCell,aK,NZ]
  have K3:Hid (Below w.heap.size w (((w2.setCell ⟨w.heap.size,0,none⟩ (.int .i64 (firstT s).1)).setCell ⟨w.heap.size,1,none⟩ (.int .i64 0)).setCell ⟨w.heap.size,2,none⟩ (.int .i64 (firstT s).2))):=(((K2.o).setCell (p:=⟨w.heap.size,0,none⟩) (aj _) _).setCell (p:=⟨w.heap.size,1,none⟩) (aj _) _).setCell (p:=⟨w.heap.size,2,none⟩) (aj _) _;have XU:=au Fe;clear NZ Fe;go_wp2_with fail
  clear a0 a1 a2 b0 b1 b2;generalize (((w2.setCell ⟨w.heap.size,0,none⟩ (.int .i64 (firstT s).1)).setCell ⟨w.heap.size,1,none⟩ (.int .i64 0)).setCell ⟨w.heap.size,2,none⟩ (.int .i64 (firstT s).2))=w3 at *;have a0:=ai _ _ 0 _ _ _ XU.o;have a1:=ai _ _ 1 _ _ _ XU.o;have a2:=ai _ _ 2 _ _ _ XU.o;exact bI (by simp[results,results79,go_sem,a0,a1,a2]) rfl ⟨rfl,K3.o⟩
theorem xG(s:ByteArray)(kind:Nat)(w:World)(hT:kP w)(hs:s.size≤1073741824)(hk:0<kind) :
  Calls prog 45 #[.string s,.int .i64 kind] w fun e w'=>e=.returned (.bool (nX (bs s) kind))∧Below w.heap.size w w':=by
 have HA:Hid (nX (bs s) kind=decide ((firstT s).1=kind∧(firstT s).2=s.size)):=by
  show _=_;unfold nX firstT;by_cases h0:s.size=0
  ·have hn:bs s=[]:=aT.1 (by rw[eZ];exact h0)
   rw[aL h0,decide_eq_false (fun h=>h.1 hn),eq_comm,lg];simp only;omega
  ·have hne:bs s≠[]:=by intro e;have:=congrArg List.length e;rw[eZ] at this;exact h0 this
   rw[aG h0,eZ,iD];simp[hne,Prod.ext_iff]
 go_enter func45,ntmps45;go_wp2_with fail
 refine(tT s _ hT hs).mono ?_;rintro e w2 ⟨rfl,k2⟩;have K2:=au k2;clear k2;generalize firstT s=T at *;go_wp2_with fail
 all_goals
  go_ret;refine⟨ve ?_,K2.o⟩;rw[HA.o]
  first
   | (rw[eq_comm,decide_eq_true_iff];omega)
   | (rw[eq_comm,lg];omega)
   | (rw[eq_comm,decide_eq_true_iff];simp_all;omega)
   | (rw[eq_comm,lg];simp_all;omega)
theorem Fj(s:ByteArray)(w:World)(hT:kP w)(hs:s.size≤1073741824) :
  Calls prog 23 #[.string s] w fun e w'=>e=.returned (.bool (decide (s.size≤40)&&nX (bs s) 3))∧Below w.heap.size w w':=by
 by_cases h:s.size≤40
 ·have i1:decide ((s.size:Int)≤40)=true:=by simp;omega
  rw[qQ h,Bool.true_and];go_enter func23,ntmps23;go_wp2_with fail
  refine(xG s 3 _ hT hs (by omega)).mono ?_;rintro e w1 ⟨rfl,k1⟩;go_wp2_with fail
  go_ret;exact⟨rfl,k1⟩
 ·have i1:decide ((s.size:Int)≤40)=false:=by simp;omega
  rw[decide_eq_false h,Bool.false_and];go_enter func23,ntmps23;go_wp2_with fail
  go_ret;exact⟨rfl,ay _ _⟩
end
end Go.Proofs.YtdkpkpgpphkljaaGreatDoor
