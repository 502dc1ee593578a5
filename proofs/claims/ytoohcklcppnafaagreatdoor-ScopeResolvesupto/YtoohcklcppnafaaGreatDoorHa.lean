import Derived.Test.YtoohcklcppnafaaGreatDoorGa
namespace Go.Proofs.YtoohcklcppnafaaGreatDoor
set_option maxRecDepth 1000000
set_option maxHeartbeats 4000000
open Tryz
open Go.RowKit
open M
theorem indexByte_none(c:UInt8):∀ l:ah,(∀ x∈l,x≠c)→Lib.indexByte l c=-1
 | [],_=>rfl
 | x::l,h=>by
  have h1:=h x aT;have h2:=indexByte_none c l (fun y hy=>h y (by simp[hy]));simp[Lib.indexByte,h1,h2]
def Asc(s:ByteArray):Prop:=∀(k:Nat) (h:k<s.size),(s[k]'h).toNat<128
theorem Cc(c:Int)(s:ByteArray)(w:aG)(h1:128≤c)(h2:c≠65533)(hv:Lib.validRune c=false) :
  bB 164 #[.string s,.int .i32 c] w (cK (ak (-1)) fun w'=>Below w.heap.size w w'):=by
 have b1:decide (c<128)=false:=by simpa using h1
 have b2:(c==65533)=false:=by simpa using h2
 have b3:0≤c:=au
 clear h2;go_enter func164,ntmps164;go_wp2_with ((go_at_call 170;refine(utf8_ValidRune _ _).mono ?_;rintro e w' ⟨rfl,rfl⟩))
 go_ret;exact⟨rfl,aB _ _⟩
theorem Ce(c:Int)(s:ByteArray)(ha:Asc s)(hs:s.size≤1000)(w:aG)(h1:128≤c)(h2:c≠65533)(hv:Lib.validRune c=true) :
  bB 164 #[.string s,.int .i32 c] w (cK (ak (-1)) fun w'=>Below w.heap.size w w'):=by
 have b1:decide (c<128)=false:=by simpa using h1
 have b2:(c==65533)=false:=by simpa using h2
 have b3:0≤c:=au
 clear h2;have hv':Utf8.valid c=true:=by
  simp only[Lib.validRune,nY] at hv;simp only[Utf8.valid,iP,Bool.and_eq_true,nY];omega
 obtain⟨hE2,hE4,hEl⟩:=encode_facts c hv' h1;clear hv';have i1:(0:Int)≤((Utf8.encode c).size:Int) - 1:=au
 have i2:((Utf8.encode c).size:Int) - 1<((Utf8.encode c).size:Int):=au
 have hl:=hEl au;go_enter func164,ntmps164;go_wp2_with ((go_at_call 170;refine(utf8_ValidRune _ _).mono ?_;rintro e w' ⟨rfl,rfl⟩))
 go_step3
 go_wp2_with fail
 go_loopw [9] (fun i wr=>i=ak (((Utf8.encode c).size:Int) - 1)∧Below w'.heap.size w' wr) (fun _ _=>0)
 case atStart=>exact⟨rfl,aB _ _⟩
 case round =>
  obtain⟨rfl,hB⟩:=hrel;by_cases hlt:((Utf8.encode c).size:Int) - 1<(s.size:Int)
  ·go_wp2_with fail
   go_step3
   go_wp2_with fail
   obtain⟨m,hm⟩:∃ m,(Utf8.encode c).size=m+1:=⟨(Utf8.encode c).size - 1,au⟩;have em:((Utf8.encode c).size:Int) - 1=(m:Int):=au
   have m1:m<s.size:=au
   have m2:m<(Utf8.encode c).size:=au
   have m3:=ha m m1;have m4:128≤((Utf8.encode c)[m]'m2).toNat:=by
    have e1:(Utf8.encode c).size - 1=m:=au
    simp only[e1] at hl;exact hl
   have m5:(((s[m]'m1).toNat:Int)==(((Utf8.encode c)[m]'m2).toNat:Int))=false:=aQ
   rw[em];have HM:=aA hm;clear hEl hl i1 i2 hlt em hm m3;go_quiet (fail)
   go_wp2_with fail
   obtain⟨n,hn⟩:∃ n,n=m+1:=⟨_,rfl⟩;have m6:n≤s.size:=au
   have hw:IntKind.i64.wrap ((m:Int)+1)=(n:Int):=by rw[wrap_small _ au au];omega
   have hix:Lib.indexByte (s.extract n s.size).data.toList (((Utf8.encode c)[m]'m2).toNat:Int).toNat.toUInt8=-1:=by
    refine indexByte_none _ _ (fun x hx e=>?_);have hx2:x∈bs s:=by
     have hb:(s.extract n s.size).data.toList=(bs s).drop n:=uo s n;rw[hb] at hx;exact List.mem_of_mem_drop hx
    obtain⟨k,hk,hke⟩:=pO hx2;rw[eY] at hk;have h9:=ha k hk;have h10:(bs s)[k]'(by rw[eY];exact hk)=s[k]'hk:=rfl;rw[h10] at hke;rw[hke,e] at h9;simp at h9;omega
   have HN:=aA hn;clear hn;have hB2:=iQ hB nq;clear hB;generalize wr.drewN nq=w3 at hB2 ⊢;go_quiet ((go_at_call 169;exact Calls.quiet_of_same (strings_IndexByte _ _ _)))
   simp only[hix];clear hix;go_wp2_with fail
   rw[jD];go_wp2_with fail
   rw[jD];go_ret;exact⟨rfl,iQ hB2 _⟩
  ·go_wp2_with fail
   go_ret;exact⟨rfl,hB⟩
theorem Cg(s:ByteArray)(ha:Asc s)(w:aG) :
  bB 164 #[.string s,.int .i32 65533] w (cK (ak (-1)) fun w'=>Below w.heap.size w w'):=by
 go_enter func164,ntmps164;go_wp2_with ((go_at_call 170;refine(utf8_ValidRune _ _).mono ?_;rintro e w' ⟨rfl,rfl⟩))
 go_loopw [5] (fun n w'=>∃(pos:Nat),w'=w.iter s pos∧pos≤s.size) (fun _ w'=>s.size - w'.iterPos w.heap.size)
 case atStart=>exact⟨0,rfl,bJ _⟩
 case round =>
  obtain⟨pos,rfl,hb⟩:=hrel;by_cases hp:pos<s.size
  ·have hasc:=ha pos hp
   have hnx:∀ ty,(Instr.next (aH w.heap.size) true ty).run prog (w.iter s pos)=_:=fun ty=>run_next_ascii w s pos ty hp hasc
   have hne:(((s[pos]'hp).toNat:Int)==65533)=false:=aQ
   go_wp2_with fail
   go_roundw
   case rel=>exact⟨pos+1,rfl,au⟩
   case measure=>simp;omega
  ·have hnx:∀ ty,(Instr.next (aH w.heap.size) true ty).run prog (w.iter s pos)=_:=fun ty=>run_next_end w s pos ty hp
   go_wp2_with fail
   go_ret;exact⟨rfl,((aB _ _).alloc (ax _) _)⟩
theorem C_:Asc ⟨#[40,41,91,93,44,59,61,60,43,45,42,46,63]⟩:=by
 have:∀ k:Fin 13,((⟨#[40,41,91,93,44,59,61,60,43,45,42,46,63]⟩:ByteArray)[k.val]'k.isLt).toNat<128:=aS
 exact fun k h=>this ⟨k,h⟩
theorem Ko:∀ n:Fin 128,decide (0≤Lib.indexByte [40,41,91,93,44,59,61,60,43,45,42,46,63] (UInt8.ofNat n.val))=oI (n.val:Int):=aS
theorem VQ{c:Int}(h:128≤c):oI c=false:=by
 unfold oI;rw[fV];simp;omega
theorem EO(c:Int)(w:aG)(h1:128≤c) :
  bB 164 #[.string ⟨#[40,41,91,93,44,59,61,60,43,45,42,46,63]⟩,.int .i32 c] w (cK (ak (-1)) fun w'=>Below w.heap.size w w'):=by
 by_cases h2:c=65533
 ·subst h2;exact Cg _ C_ w
 ·cases hv:Lib.validRune c
  ·exact Cc c _ w h1 h2 hv
  ·exact Ce c _ C_ aS w h1 h2 hv
theorem pG(c:Int)(w:aG)(h0:0≤c) :
  bB 148 #[.string ⟨#[40,41,91,93,44,59,61,60,43,45,42,46,63]⟩,.int .i32 c] w (cK (.bool (oI c)) fun w'=>Below w.heap.size w w'):=by
 by_cases h1:c<128
 ·refine(strings_ContainsRune_ascii _ c w h0 h1).mono ?_
  rintro e w' ⟨rfl,rfl⟩;obtain⟨n,rfl⟩:∃ n:Nat,c=(n:Int):=⟨c.toNat,au⟩;exact⟨jQ (Ko ⟨n,au⟩),aB _ _⟩
 ·rw[VQ au]
  go_enter func148,ntmps148;go_wp2_with ((go_at_call 164;refine(EO c _ au).mono ?_;rintro e w1 ⟨rfl,hb⟩))
  go_ret;exact⟨rfl,hb⟩
section
variable{s:ByteArray}
theorem oW{l:ah}(h:¬ s=⟨l.toArray⟩):(s.toList==l)=false:=by
 rw[jw,eO];exact fun e=>h (iD (by rw[show bs s=l from e];simp[bs]))
theorem gP(h:bs s∈words):mh (bs s)=true:=by unfold mh;exact mJ h
theorem Mq(h:bs s∉words):mh (bs s)=false:=by unfold mh;exact decide_eq_false h
theorem GR(s:ByteArray)(w:aG):bB 149 #[.string s] w (cK (.bool (mh (bs s))) fun w'=>w'=w):=by
 by_cases h0:s=⟨#[117,115,101]⟩
 ·subst h0
  rw[gP aS];go_enter func149,ntmps149;go_wp2
  go_ret;exact⟨rfl,rfl⟩
 by_cases h1:s=⟨#[97,115]⟩
 ·subst h1
  rw[gP aS];go_enter func149,ntmps149;go_wp2
  go_ret;exact⟨rfl,rfl⟩
 by_cases h2:s=⟨#[112,117,98]⟩
 ·subst h2
  rw[gP aS];go_enter func149,ntmps149;go_wp2
  go_ret;exact⟨rfl,rfl⟩
 by_cases h3:s=⟨#[100,101,102]⟩
 ·subst h3
  rw[gP aS];go_enter func149,ntmps149;go_wp2
  go_ret;exact⟨rfl,rfl⟩
 by_cases h4:s=⟨#[108,101,116]⟩
 ·subst h4
  rw[gP aS];go_enter func149,ntmps149;go_wp2
  go_ret;exact⟨rfl,rfl⟩
 by_cases h5:s=⟨#[105,110]⟩
 ·subst h5
  rw[gP aS];go_enter func149,ntmps149;go_wp2
  go_ret;exact⟨rfl,rfl⟩
 by_cases h6:s=⟨#[105,102]⟩
 ·subst h6
  rw[gP aS];go_enter func149,ntmps149;go_wp2
  go_ret;exact⟨rfl,rfl⟩
 by_cases h7:s=⟨#[116,104,101,110]⟩
 ·subst h7
  rw[gP aS];go_enter func149,ntmps149;go_wp2
  go_ret;exact⟨rfl,rfl⟩
 by_cases h8:s=⟨#[101,108,115,101]⟩
 ·subst h8
  rw[gP aS];go_enter func149,ntmps149;go_wp2
  go_ret;exact⟨rfl,rfl⟩
 by_cases h9:s=⟨#[102,117,110]⟩
 ·subst h9
  rw[gP aS];go_enter func149,ntmps149;go_wp2
  go_ret;exact⟨rfl,rfl⟩
 by_cases h10:s=⟨#[116,114,117,101]⟩
 ·subst h10
  rw[gP aS];go_enter func149,ntmps149;go_wp2
  go_ret;exact⟨rfl,rfl⟩
 by_cases h11:s=⟨#[102,97,108,115,101]⟩
 ·subst h11
  rw[gP aS];go_enter func149,ntmps149;go_wp2
  go_ret;exact⟨rfl,rfl⟩
 have HN:Hid (mh (bs s)=false):=by
  refine Mq (fun h=>?_);simp only[words,fJ,o7,or_false] at h;rcases h with h|h|h|h|h|h|h|h|h|h|h|h
  ·exact h0 (iD h)
  ·exact h1 (iD h)
  ·exact h2 (iD h)
  ·exact h3 (iD h)
  ·exact h4 (iD h)
  ·exact h5 (iD h)
  ·exact h6 (iD h)
  ·exact h7 (iD h)
  ·exact h8 (iD h)
  ·exact h9 (iD h)
  ·exact h10 (iD h)
  ·exact h11 (iD h)
 have b0:=oW h0;have b1:=oW h1;have b2:=oW h2;have b3:=oW h3;have b4:=oW h4;have b5:=oW h5;have b6:=oW h6;have b7:=oW h7;have b8:=oW h8;have b9:=oW h9;have b10:=oW h10;have b11:=oW h11;clear h0 h1 h2 h3 h4 h5 h6 h7 h8 h9 h10 h11;go_enter func149,ntmps149;go_wp2
 go_ret;exact⟨jQ HN.o.symm,rfl⟩
end
section
variable{t:ah}
theorem XQ(h:isSp (cc t)=true):t≠[]:=by rintro rfl;rw[lC] at h;revert h;decide
theorem XR(h:iR (cc t)=true):t≠[]:=by rintro rfl;rw[lC] at h;revert h;decide
theorem Ms(h:jT (cc t)=true):t≠[]:=by rintro rfl;rw[lC] at h;revert h;decide
def JS(b:Nat)(s:ByteArray)(p:Nat)(c0:Int)(w:aG)(P:Int→Bool)(T L:Nat)(l n:Nat)(a':Act)(w':aG):Prop :=
 ∃(q:Nat) (u5 u6 u7 u8 u9 EG EH EI EJ EK EL u16 EM u65 u66 u67 u68 u69 u70 u71:Value),a'={ tmps:=#[aH b,undef,ak 0,ak (p:Int),.int .i32 c0,u5,u6,u7,u8,u9,EG,EH,EI,EJ,EK,EL,u16,EM,undef,undef,undef,undef,undef,undef,undef,undef,undef,undef,undef,undef,undef,undef,undef,undef,undef,undef,undef,undef,undef,undef,undef,undef,undef,undef,undef,undef,undef,undef,undef,undef,undef,undef,undef,undef,undef,undef,undef,undef,undef,undef,undef,undef,undef,undef,undef,u65,u66,u67,u68,u69,u70,u71,undef,undef,undef,undef,undef,undef,undef,undef,undef,undef,undef,undef,undef,undef,undef,undef,undef,undef,undef,undef,undef,undef,undef,undef,undef,undef,undef,undef,undef,undef,undef,undef,undef,undef,undef,undef,undef,undef,undef,undef,undef,undef,undef,undef,undef,undef,undef,undef,undef,undef,undef,undef,undef],defers:=[] }∧nW w' b s q∧On b w w'∧p≤q∧p+T=q+skip P ((bs s).drop q)∧l=L∧n=s.size - q
theorem Kr(b:Nat)(s:ByteArray)(p:Nat)(w:aG)(h:nW w b s p)(hp:p<s.size)(hc:isSp (cc ((bs s).drop p))=true) :
  bB 121 #[aH b] w (cK (ak 1) fun w'=>nW w' b s (p+(sz ((bs s).drop p)+skip isSp (nx ((bs s).drop p))))∧On b w w'):=by
 obtain⟨⟨c0,c1,c2,c3⟩,f0,f1,f2,f3⟩:=h.raw.facts;have hs:=h.big;have HZ:=aA (jH (iJ hp));go_enter func121,ntmps121;go_wp2_with fail
 refine mG (JS b s p (cc ((bs s).drop p)) w isSp (sz ((bs s).drop p)+skip isSp (nx ((bs s).drop p))) 0) ?_ ?_
 ·go_wp2_with fail
  go_quiet (fail)
  go_wp2_with (first|(go_at_call 141;refine(fQ b s p _ (h.drewN _)).aX ?_;rintro w1 ⟨r1,k1⟩)|(go_at_call 142;refine(d_ _ _).cO ?_)|(go_at_call 143;refine(dW _ _).cO ?_)|(go_at_call 144;refine(dN _ _).cO ?_))
  go_step3
  have:=HZ.o;exact⟨s.size - (p+sz ((bs s).drop p)),p+sz ((bs s).drop p),_,_,_,_,_,_,_,_,_,_,_,_,_,_,_,_,_,_,_,_,rfl,r1,(On.drewN b w nq).to k1,au,by rw[gK];omega,rfl,rfl⟩
 ·rintro l n a' w' ⟨q,u5,u6,u7,u8,u9,EG,EH,EI,EJ,EK,EL,u16,EM,u65,u66,u67,u68,u69,u70,u71,rfl,hr,hk,hpq,hT,rfl,rfl⟩
  refine⟨_,rfl,?_⟩;have hq:=hr.le;clear c0 c1 c2 c3 f0 f1 f2 f3;obtain⟨⟨c0,c1,c2,c3⟩,f0,f1,f2,f3⟩:=hr.raw.facts;have oU:=aA (fQ b s q w' hr);have HH:=aA (And.intro hr (And.intro hk hT));clear hr hk hT;cases hx:isSp (cc ((bs s).drop q))
  ·have HN:=aA (lW (p:=isSp) hx)
   go_wp2_with (first|(go_at_call 141;refine(oU.o).aX ?_;rintro w1 ⟨r1,k1⟩)|(go_at_call 142;refine(d_ _ _).cO ?_)|(go_at_call 143;refine(dW _ _).cO ?_)|(go_at_call 144;refine(dN _ _).cO ?_))
   simp only[mo];go_ret;obtain⟨hr,hk,hT⟩:=HH.o;rw[HN.o] at hT;refine⟨rfl,?_,hk⟩;rw[hT];exact hr
  ·have HN:=aA (jI (p:=isSp) (t:=(bs s).drop q) (XQ hx) hx)
   have HZ2:=aA (jH (l:=(bs s).drop q) (XQ hx));go_wp2_with (first|(go_at_call 141;refine(oU.o).aX ?_;rintro w1 ⟨r1,k1⟩)|(go_at_call 142;refine(d_ _ _).cO ?_)|(go_at_call 143;refine(dW _ _).cO ?_)|(go_at_call 144;refine(dN _ _).cO ?_))
   go_step3
   obtain⟨hr,hk,hT⟩:=HH.o;rw[HN.o,gK (bs s) q] at hT;have:=HZ2.o;have hz:=r1.le;exact⟨s.size - (q+sz ((bs s).drop q)),au,q+sz ((bs s).drop q),_,_,_,_,_,_,_,_,_,_,_,_,_,_,_,_,_,_,_,_,rfl,r1,hk.to k1,au,au,rfl,rfl⟩
def JD(b:Nat)(s:ByteArray)(p:Nat)(c0:Int)(w:aG)(P:Int→Bool)(T L:Nat)(l n:Nat)(a':Act)(w':aG):Prop :=
 ∃(q:Nat) (u5 u6 u7 u8 u9 EG EH EI EJ EK EL u16 EM JC JE u20 u21 u22 u23 u97 u98 u99 aO6 aO7 aO8 aO9:Value),a'={ tmps:=#[aH b,undef,ak 0,ak (p:Int),.int .i32 c0,u5,u6,u7,u8,u9,EG,EH,EI,EJ,EK,EL,u16,EM,JC,JE,u20,u21,u22,u23,undef,undef,undef,undef,undef,undef,undef,undef,undef,undef,undef,undef,undef,undef,undef,undef,undef,undef,undef,undef,undef,undef,undef,undef,undef,undef,undef,undef,undef,undef,undef,undef,undef,undef,undef,undef,undef,undef,undef,undef,undef,undef,undef,undef,undef,undef,undef,undef,undef,undef,undef,undef,undef,undef,undef,undef,undef,undef,undef,undef,undef,undef,undef,undef,undef,undef,undef,undef,undef,undef,undef,undef,undef,u97,u98,u99,aO6,aO7,aO8,aO9,undef,undef,undef,undef,undef,undef,undef,undef,undef,undef,undef,undef,undef,undef,undef,undef,undef,undef,undef,undef,undef],defers:=[] }∧nW w' b s q∧On b w w'∧p≤q∧p+T=q+skip P ((bs s).drop q)∧l=L∧n=s.size - q
theorem Kt(b:Nat)(s:ByteArray)(p:Nat)(w:aG)(h:nW w b s p)(hp:p<s.size)(h1:isSp (cc ((bs s).drop p))=false)(h2:isLt (cc ((bs s).drop p))=false)(hc:iR (cc ((bs s).drop p))=true) :
  bB 121 #[aH b] w (cK (ak (if 18<sz ((bs s).drop p)+skip iR (nx ((bs s).drop p)) then 8 else 5:Nat)) fun w'=>nW w' b s (p+(sz ((bs s).drop p)+skip iR (nx ((bs s).drop p))))∧On b w w'):=by
 obtain⟨⟨c0,c1,c2,c3⟩,f0,f1,f2,f3⟩:=h.raw.facts;have hs:=h.big;have HZ:=aA (jH (iJ hp));go_enter func121,ntmps121;go_wp2_with fail
 refine mG (JD b s p (cc ((bs s).drop p)) w iR (sz ((bs s).drop p)+skip iR (nx ((bs s).drop p))) 2) ?_ ?_
 ·go_wp2_with fail
  go_quiet (fail)
  go_wp2_with (first|(go_at_call 141;refine(fQ b s p _ (h.drewN _)).aX ?_;rintro w1 ⟨r1,k1⟩)|(go_at_call 142;refine(d_ _ _).cO ?_)|(go_at_call 143;refine(dW _ _).cO ?_)|(go_at_call 144;refine(dN _ _).cO ?_))
  go_step3
  have:=HZ.o;exact⟨s.size - (p+sz ((bs s).drop p)),p+sz ((bs s).drop p),_,_,_,_,_,_,_,_,_,_,_,_,_,_,_,_,_,_,_,_,_,_,_,_,_,_,rfl,r1,(On.drewN b w nq).to k1,au,by rw[gK];omega,rfl,rfl⟩
 ·rintro l n a' w' ⟨q,u5,u6,u7,u8,u9,EG,EH,EI,EJ,EK,EL,u16,EM,JC,JE,u20,u21,u22,u23,u97,u98,u99,aO6,aO7,aO8,aO9,rfl,hr,hk,hpq,hT,rfl,rfl⟩
  refine⟨_,rfl,?_⟩;have hq:=hr.le;clear c0 c1 c2 c3 f0 f1 f2 f3;obtain⟨⟨c0,c1,c2,c3⟩,f0,f1,f2,f3⟩:=hr.raw.facts;have oU:=aA (fQ b s q w' hr);have HH:=aA (And.intro hr (And.intro hk hT));clear hr hk hT;cases hx:iR (cc ((bs s).drop q))
  ·have HN:=aA (lW (p:=iR) hx)
   have zm:=(HH.o).2.2;rw[HN.o] at zm;by_cases h18:(18:Int)<(q:Int) - (p:Int)
   ·go_wp2_with (first|(go_at_call 141;refine(oU.o).aX ?_;rintro w1 ⟨r1,k1⟩)|(go_at_call 142;refine(d_ _ _).cO ?_)|(go_at_call 143;refine(dW _ _).cO ?_)|(go_at_call 144;refine(dN _ _).cO ?_))
    simp only[mo];go_ret;obtain⟨hr,hk,hT⟩:=HH.o;refine⟨uH (a:=8) (by rw[aU au];rfl),?_,hk⟩;rw[zm];exact hr
   ·go_wp2_with (first|(go_at_call 141;refine(oU.o).aX ?_;rintro w1 ⟨r1,k1⟩)|(go_at_call 142;refine(d_ _ _).cO ?_)|(go_at_call 143;refine(dW _ _).cO ?_)|(go_at_call 144;refine(dN _ _).cO ?_))
    simp only[mo];go_ret;obtain⟨hr,hk,hT⟩:=HH.o;refine⟨uH (a:=5) (by rw[aM au];rfl),?_,hk⟩;rw[zm];exact hr
  ·have HN:=aA (jI (p:=iR) (t:=(bs s).drop q) (XR hx) hx)
   have HZ2:=aA (jH (l:=(bs s).drop q) (XR hx));go_wp2_with (first|(go_at_call 141;refine(oU.o).aX ?_;rintro w1 ⟨r1,k1⟩)|(go_at_call 142;refine(d_ _ _).cO ?_)|(go_at_call 143;refine(dW _ _).cO ?_)|(go_at_call 144;refine(dN _ _).cO ?_))
   go_step3
   obtain⟨hr,hk,hT⟩:=HH.o;rw[HN.o,gK (bs s) q] at hT;have:=HZ2.o;have hz:=r1.le;exact⟨s.size - (q+sz ((bs s).drop q)),au,q+sz ((bs s).drop q),_,_,_,_,_,_,_,_,_,_,_,_,_,_,_,_,_,_,_,_,_,_,_,_,_,_,rfl,r1,hk.to k1,au,au,rfl,rfl⟩
def JL(b:Nat)(s:ByteArray)(p:Nat)(c0:Int)(w:aG)(P:Int→Bool)(T L:Nat)(l n:Nat)(a':Act)(w':aG):Prop :=
 ∃(q:Nat) (u5 u6 u7 u8 u9 EG EH EI EJ EK EL u16 EM JC JE u20 u21 u22 u23 u24 u25 u26 u29 u30 u31 u32 u33 u34 u35 u36 u37 u38 u43 u44 u45 u46 u47 u48 u49 u50 u51 u52 aP2 aP3 aP4 aP5 aP6 aP7 aP8 aP9 u119 aQ0 aQ1 aQ2 aQ3 u124:Value),a'={ tmps:=#[aH b,undef,ak 0,ak (p:Int),.int .i32 c0,u5,u6,u7,u8,u9,EG,EH,EI,EJ,EK,EL,u16,EM,JC,JE,u20,u21,u22,u23,u24,u25,u26,undef,undef,u29,u30,u31,u32,u33,u34,u35,u36,u37,u38,undef,undef,undef,undef,u43,u44,u45,u46,u47,u48,u49,u50,u51,u52,undef,undef,undef,undef,undef,undef,undef,undef,undef,undef,undef,undef,undef,undef,undef,undef,undef,undef,undef,undef,undef,undef,undef,undef,undef,undef,undef,undef,undef,undef,undef,undef,undef,undef,undef,undef,undef,undef,undef,undef,undef,undef,undef,undef,undef,undef,undef,undef,undef,undef,undef,undef,undef,undef,undef,undef,undef,undef,aP2,aP3,aP4,aP5,aP6,aP7,aP8,aP9,u119,aQ0,aQ1,aQ2,aQ3,u124],defers:=[] }∧nW w' b s q∧On b w w'∧p≤q∧p+T=q+skip P ((bs s).drop q)∧l=L∧n=s.size - q
theorem Og(b:Nat)(s:ByteArray)(p:Nat)(w:aG)(h:nW w b s p)(hp:p<s.size)(hc:cc ((bs s).drop p)=45)(hc1:cc ((bs s).drop (p+1))=45) :
  bB 121 #[aH b] w (cK (ak 2) fun w'=>nW w' b s (p+(1+skip sD ((bs s).drop (p+1))))∧On b w w'):=by
 obtain⟨⟨c0,c1,c2,c3⟩,f0,f1,f2,f3⟩:=h.raw.facts;have hs:=h.big;have z1:sz ((bs s).drop p)=1:=fI au au;have eN:nx ((bs s).drop p)=(bs s).drop (p+1):=by rw[gK,z1]
 have HP:=aA (fun w2 (h':nW w2 b s p)=>fQ b s p w2 h');rw[z1] at HP;have EN:=aA eN;have Z1:=aA z1;have hsp:isSp (cc ((bs s).drop p))=false:=by rw[hc];decide
 have hlt:isLt (cc ((bs s).drop p))=false:=by rw[hc];decide
 have hdg:iR (cc ((bs s).drop p))=false:=by rw[hc];decide
 rw[hc] at hsp hlt hdg c2;clear z1 eN;go_enter func121,ntmps121;go_wp2_with fail
 refine mG (JL b s p 45 w sD (1+skip sD ((bs s).drop (p+1))) 3) ?_ ?_
 ·go_wp2_with fail
  go_quiet (fail)
  go_wp2_with (first|(go_at_call 141;refine(HP.o _ (h.drewN _)).aX ?_;rintro w1 ⟨r1,k1⟩;obtain⟨⟨d0,d1,d2,d3⟩,-⟩:=r1.raw.facts;rw[hc1] at d2)|(go_at_call 142;refine(d_ _ _).cO ?_)|(go_at_call 143;refine(dW _ _).cO ?_)|(go_at_call 144;refine(dN _ _).cO ?_))
  go_step3
  exact⟨s.size - (p+1),p+1,_,_,_,_,_,_,_,_,_,_,_,_,_,_,_,_,_,_,_,_,_,_,_,_,_,_,_,_,_,_,_,_,_,_,_,_,_,_,_,_,_,_,_,_,_,_,_,_,_,_,_,_,_,_,_,_,rfl,r1,(On.drewN b w nq).to k1,au,au,rfl,rfl⟩
 ·rintro l n a' w' ⟨q,u5,u6,u7,u8,u9,EG,EH,EI,EJ,EK,EL,u16,EM,JC,JE,u20,u21,u22,u23,u24,u25,u26,u29,u30,u31,u32,u33,u34,u35,u36,u37,u38,u43,u44,u45,u46,u47,u48,u49,u50,u51,u52,aP2,aP3,aP4,aP5,aP6,aP7,aP8,aP9,u119,aQ0,aQ1,aQ2,aQ3,u124,rfl,hr,hk,hpq,hT,rfl,rfl⟩
  refine⟨_,rfl,?_⟩;have hq:=hr.le;clear c0 c1 c2 c3 f0 f1 f2 f3;obtain⟨⟨c0,c1,c2,c3⟩,f0,f1,f2,f3⟩:=hr.raw.facts;have oU:=aA (fQ b s q w' hr);have HH:=aA (And.intro hr (And.intro hk hT));clear hr hk hT;by_cases g1:cc ((bs s).drop q)=10
  ·have HN:=aA (lW (p:=sD) (t:=(bs s).drop q) (by rw[g1];rfl))
   rw[g1] at c2;go_wp2_with (first|(go_at_call 141;refine(oU.o).aX ?_;rintro w1 ⟨r1,k1⟩)|(go_at_call 142;refine(d_ _ _).cO ?_)|(go_at_call 143;refine(dW _ _).cO ?_)|(go_at_call 144;refine(dN _ _).cO ?_))
   simp only[mo];go_ret;obtain⟨hr,hk,hT⟩:=HH.o;rw[HN.o] at hT;refine⟨rfl,?_,hk⟩;rw[hT];exact hr
  by_cases g2:cc ((bs s).drop q)=-1
  ·have HN:=aA (lI sD)
   have HE:=aA (qC.1 g2);rw[g2] at c2;clear g1 g2;go_wp2_with (first|(go_at_call 141;refine(oU.o).aX ?_;rintro w1 ⟨r1,k1⟩)|(go_at_call 142;refine(d_ _ _).cO ?_)|(go_at_call 143;refine(dW _ _).cO ?_)|(go_at_call 144;refine(dN _ _).cO ?_))
   simp only[mo];go_ret;obtain⟨hr,hk,hT⟩:=HH.o;rw[HE.o,HN.o] at hT;refine⟨rfl,?_,hk⟩;rw[hT];exact hr
  have hx:sD (cc ((bs s).drop q))=true:=by simp[sD,g1]
  have hne:(bs s).drop q≠[]:=fun e=>g2 (qC.2 e)
  have b1:(cc ((bs s).drop q) !=10)=true:=by simpa using g1
  have b2:(cc ((bs s).drop q) !=-1)=true:=by simpa using g2
  clear g1 g2;have HN:=aA (jI (p:=sD) (t:=(bs s).drop q) hne hx);have HZ2:=aA (jH (l:=(bs s).drop q) hne);go_wp2_with (first|(go_at_call 141;refine(oU.o).aX ?_;rintro w1 ⟨r1,k1⟩)|(go_at_call 142;refine(d_ _ _).cO ?_)|(go_at_call 143;refine(dW _ _).cO ?_)|(go_at_call 144;refine(dN _ _).cO ?_))
  go_step3
  obtain⟨hr,hk,hT⟩:=HH.o;rw[HN.o,gK (bs s) q] at hT;have:=HZ2.o;have hz:=r1.le;exact⟨s.size - (q+sz ((bs s).drop q)),au,q+sz ((bs s).drop q),_,_,_,_,_,_,_,_,_,_,_,_,_,_,_,_,_,_,_,_,_,_,_,_,_,_,_,_,_,_,_,_,_,_,_,_,_,_,_,_,_,_,_,_,_,_,_,_,_,_,_,_,_,_,_,_,rfl,r1,hk.to k1,au,au,rfl,rfl⟩
def JM(b:Nat)(s:ByteArray)(p:Nat)(c0:Int)(w:aG)(P:Int→Bool)(T L:Nat)(l n:Nat)(a':Act)(w':aG):Prop :=
 ∃(q:Nat) (u5 u6 u7 u8 u9 EG EH EI EJ EK EL u16 EM JC JE u20 u72 u73 u74 u75 u76 u77 u78 u79 u80 u81 u82 u83 u84 u85:Value),a'={ tmps:=#[aH b,undef,ak 0,ak (p:Int),.int .i32 c0,u5,u6,u7,u8,u9,EG,EH,EI,EJ,EK,EL,u16,EM,JC,JE,u20,undef,undef,undef,undef,undef,undef,undef,undef,undef,undef,undef,undef,undef,undef,undef,undef,undef,undef,undef,undef,undef,undef,undef,undef,undef,undef,undef,undef,undef,undef,undef,undef,undef,undef,undef,undef,undef,undef,undef,undef,undef,undef,undef,undef,undef,undef,undef,undef,undef,undef,undef,u72,u73,u74,u75,u76,u77,u78,u79,u80,u81,u82,u83,u84,u85,undef,undef,undef,undef,undef,undef,undef,undef,undef,undef,undef,undef,undef,undef,undef,undef,undef,undef,undef,undef,undef,undef,undef,undef,undef,undef,undef,undef,undef,undef,undef,undef,undef,undef,undef,undef,undef,undef,undef],defers:=[] }∧nW w' b s q∧On b w w'∧p≤q∧p+T=q+skip P ((bs s).drop q)∧l=L∧n=s.size - q
theorem Oe(b:Nat)(s:ByteArray)(p:Nat)(w:aG)(h:nW w b s p)(hp:p<s.size)(h1:isSp (cc ((bs s).drop p))=false)(hc:isLt (cc ((bs s).drop p))=true) :
  bB 121 #[aH b] w (cK (ak (if mh (((bs s).drop p).take (sz ((bs s).drop p)+skip jT (nx ((bs s).drop p)))) then 4 else 3:Nat)) fun w'=>nW w' b s (p+(sz ((bs s).drop p)+skip jT (nx ((bs s).drop p))))∧On b w w'):=by
 obtain⟨⟨c0,c1,c2,c3⟩,f0,f1,f2,f3⟩:=h.raw.facts;have hs:=h.big;have HZ:=aA (jH (iJ hp));go_enter func121,ntmps121;go_wp2_with fail
 refine mG (JM b s p (cc ((bs s).drop p)) w jT (sz ((bs s).drop p)+skip jT (nx ((bs s).drop p))) 1) ?_ ?_
 ·go_wp2_with fail
  go_quiet (fail)
  go_wp2_with (first|(go_at_call 141;refine(fQ b s p _ (h.drewN _)).aX ?_;rintro w1 ⟨r1,k1⟩)|(go_at_call 142;refine(d_ _ _).cO ?_)|(go_at_call 143;refine(dW _ _).cO ?_)|(go_at_call 144;refine(dN _ _).cO ?_))
  go_step3
  have:=HZ.o;exact⟨s.size - (p+sz ((bs s).drop p)),p+sz ((bs s).drop p),_,_,_,_,_,_,_,_,_,_,_,_,_,_,_,_,_,_,_,_,_,_,_,_,_,_,_,_,_,_,rfl,r1,(On.drewN b w nq).to k1,au,by rw[gK];omega,rfl,rfl⟩
 ·rintro l n a' w' ⟨q,u5,u6,u7,u8,u9,EG,EH,EI,EJ,EK,EL,u16,EM,JC,JE,u20,u72,u73,u74,u75,u76,u77,u78,u79,u80,u81,u82,u83,u84,u85,rfl,hr,hk,hpq,hT,rfl,rfl⟩
  refine⟨_,rfl,?_⟩;have hq:=hr.le;clear c0 c1 c2 c3 f0 f1 f2 f3;obtain⟨⟨c0,c1,c2,c3⟩,f0,f1,f2,f3⟩:=hr.raw.facts;have oU:=aA (fQ b s q w' hr);have HH:=aA (And.intro hr (And.intro hk hT));clear hr hk hT;have hnm:jT (cc ((bs s).drop q))=(isLt (cc ((bs s).drop q))||iR (cc ((bs s).drop q))):=rfl;cases hl:isLt (cc ((bs s).drop q))
  ·cases hd:iR (cc ((bs s).drop q))
   ·have hx:jT (cc ((bs s).drop q))=false:=by rw[hnm,hl,hd];rfl
    have HN:=aA (lW (p:=jT) hx);have zm:=(HH.o).2.2;rw[HN.o] at zm;have hw:mh (((bs s).drop p).take (sz ((bs s).drop p)+skip jT (nx ((bs s).drop p))))=mh (bs (s.extract p q)):=by
     rw[xH,oP,show q - p=sz ((bs s).drop p)+skip jT (nx ((bs s).drop p)) by omega]
    have HW:=aA hw;clear hw hnm hx;have HT2:=aA zm;clear zm;cases hwd:mh (bs (s.extract p q))
    ·have HV:=aA hwd
     go_wp2_with (first|(go_at_call 141;refine(oU.o).aX ?_;rintro w1 ⟨r1,k1⟩)|(go_at_call 142;refine(d_ _ _).cO ?_)|(go_at_call 143;refine(dW _ _).cO ?_)|(go_at_call 144;refine(dN _ _).cO ?_))
     go_quiet ((go_at_call 149;exact Calls.quiet_of_same (GR _ _)))
     simp only[hwd];go_wp2_with fail
     simp only[mo];go_ret;obtain⟨hr,hk,hT⟩:=HH.o;refine⟨uH (a:=3) (by rw[HW.o,HV.o];rfl),?_,hk.to (On.drewN b _ nq)⟩;rw[HT2.o];exact hr.drewN _
    ·have HV:=aA hwd
     go_wp2_with (first|(go_at_call 141;refine(oU.o).aX ?_;rintro w1 ⟨r1,k1⟩)|(go_at_call 142;refine(d_ _ _).cO ?_)|(go_at_call 143;refine(dW _ _).cO ?_)|(go_at_call 144;refine(dN _ _).cO ?_))
     go_quiet ((go_at_call 149;exact Calls.quiet_of_same (GR _ _)))
     simp only[hwd];go_wp2_with fail
     simp only[mo];go_ret;obtain⟨hr,hk,hT⟩:=HH.o;refine⟨uH (a:=4) (by rw[HW.o,HV.o];rfl),?_,hk.to (On.drewN b _ nq)⟩;rw[HT2.o];exact hr.drewN _
   ·have hx:jT (cc ((bs s).drop q))=true:=by rw[hnm,hl,hd];rfl
    clear hnm;have HN:=aA (jI (p:=jT) (t:=(bs s).drop q) (Ms hx) hx);have HZ2:=aA (jH (l:=(bs s).drop q) (Ms hx));go_wp2_with (first|(go_at_call 141;refine(oU.o).aX ?_;rintro w1 ⟨r1,k1⟩)|(go_at_call 142;refine(d_ _ _).cO ?_)|(go_at_call 143;refine(dW _ _).cO ?_)|(go_at_call 144;refine(dN _ _).cO ?_))
    go_step3
    obtain⟨hr,hk,hT⟩:=HH.o;rw[HN.o,gK (bs s) q] at hT;have:=HZ2.o;have hz:=r1.le;exact⟨s.size - (q+sz ((bs s).drop q)),au,q+sz ((bs s).drop q),_,_,_,_,_,_,_,_,_,_,_,_,_,_,_,_,_,_,_,_,_,_,_,_,_,_,_,_,_,_,rfl,r1,hk.to k1,au,au,rfl,rfl⟩
  ·have hx:jT (cc ((bs s).drop q))=true:=by rw[hnm,hl];rfl
   clear hnm;have HN:=aA (jI (p:=jT) (t:=(bs s).drop q) (Ms hx) hx);have HZ2:=aA (jH (l:=(bs s).drop q) (Ms hx));go_wp2_with (first|(go_at_call 141;refine(oU.o).aX ?_;rintro w1 ⟨r1,k1⟩)|(go_at_call 142;refine(d_ _ _).cO ?_)|(go_at_call 143;refine(dW _ _).cO ?_)|(go_at_call 144;refine(dN _ _).cO ?_))
   go_step3
   obtain⟨hr,hk,hT⟩:=HH.o;rw[HN.o,gK (bs s) q] at hT;have:=HZ2.o;have hz:=r1.le;exact⟨s.size - (q+sz ((bs s).drop q)),au,q+sz ((bs s).drop q),_,_,_,_,_,_,_,_,_,_,_,_,_,_,_,_,_,_,_,_,_,_,_,_,_,_,_,_,_,_,rfl,r1,hk.to k1,au,au,rfl,rfl⟩
theorem nW.below{w w':aG}{b:Nat}{s:ByteArray}{p:Nat}(h:nW w b s p)(hb:Below w.heap.size w w'):nW w' b s p:=⟨h.raw.below hb,h.tabs.below hb,h.old,h.le,h.big⟩
theorem Ku(b:Nat)(s:ByteArray)(p:Nat)(w:aG)(h:nW w b s p)(hc:cc ((bs s).drop p)=34) :
  bB 121 #[aH b] w (cK (ak (quo 6 (nx ((bs s).drop p))).1) fun w'=>nW w' b s (p+(1+(quo 6 (nx ((bs s).drop p))).2))∧On b w w'):=by
 obtain⟨⟨c0,c1,c2,c3⟩,f0,f1,f2,f3⟩:=h.raw.facts;have hs:=h.big;have z1:sz ((bs s).drop p)=1:=fI au au;rw[gK,z1];have Z1:=aA z1;have hsp:isSp 34=false:=aS
 have hlt:isLt 34=false:=aS
 have hdg:iR 34=false:=aS
 rw[hc] at c2;clear z1;go_enter func121,ntmps121;go_wp2_with fail
 go_step3
 go_wp2_with fail
 go_quiet (fail)
 go_wp2_with (first|(go_at_call 141;refine(fQ b s p _ (h.drewN _)).aX ?_;rintro w1 ⟨r1,k1⟩;obtain⟨⟨d0,d1,d2,d3⟩,-⟩:=r1.raw.facts;rw[Z1.o] at r1)|(go_at_call 142;refine(d_ _ _).cO ?_)|(go_at_call 143;refine(dW _ _).cO ?_)|(go_at_call 144;refine(dN _ _).cO ?_)|(go_at_call 147;refine(lK _ _ _).cO ?_)|(go_at_call 145;refine(Kn b s (p+1) _ r1).aX ?_;rintro w2 ⟨r2,k2⟩))
 rw[jD];go_ret;exact⟨rfl,by rw[← fK];exact r2,((On.drewN b w nq).to k1).to k2⟩
theorem Oh(b:Nat)(s:ByteArray)(p:Nat)(w:aG)(h:nW w b s p)(hc:cc ((bs s).drop p)=123)(hc1:cc ((bs s).drop (p+1))=45) :
  bB 121 #[aH b] w (cK (ak (nest 1 ((bs s).drop (p+2))).1) fun w'=>nW w' b s (p+(2+(nest 1 ((bs s).drop (p+2))).2))∧On b w w'):=by
 obtain⟨⟨c0,c1,c2,c3⟩,f0,f1,f2,f3⟩:=h.raw.facts;have hs:=h.big;have z1:sz ((bs s).drop p)=1:=fI au au;have z2:sz ((bs s).drop (p+1))=1:=fI au au;have HP:=aA (fun w2 (h':nW w2 b s p)=>fQ b s p w2 h');have Rp:=aA (fun w2 (h':nW w2 b s (p+1))=>fQ b s (p+1) w2 h');rw[z1] at HP;rw[z2] at Rp;have ug:=aA hc1;have hsp:isSp 123=false:=aS
 have hlt:isLt 123=false:=aS
 have hdg:iR 123=false:=aS
 rw[hc] at c2;clear z1 z2 hc1;go_enter func121,ntmps121;go_wp2_with fail
 go_step3
 go_wp2_with fail
 go_quiet (fail)
 go_wp2_with fail
 refine((HP.o) _ (h.drewN _)).aX ?_;rintro w1 ⟨r1,k1⟩;obtain⟨⟨d0,d1,d2,d3⟩,-⟩:=r1.raw.facts;rw[ug.o] at d2;go_wp2_with (first|(go_at_call 142;refine(d_ _ _).cO ?_)|(go_at_call 143;refine(dW _ _).cO ?_)|(go_at_call 144;refine(dN _ _).cO ?_)|(go_at_call 147;refine(lK _ _ _).cO ?_)|(go_at_call 141;refine((Rp.o) _ r1).aX ?_;rintro w2 ⟨r2,k2⟩)|(go_at_call 146;refine(Km b s (p+2) _ r2).aX ?_;rintro w3 ⟨r3,k3⟩))
 rw[jD];go_ret;exact⟨rfl,by rw[← fK];exact r3,(((On.drewN b w nq).to k1).to k2).to k3⟩
theorem Oi(b:Nat)(s:ByteArray)(p:Nat)(w:aG)(h:nW w b s p)(hpr:sW (cc ((bs s).drop p)) (cc ((bs s).drop (p+1)))=true)(hc:cc ((bs s).drop p)=61∨cc ((bs s).drop p)=43) :
  bB 121 #[aH b] w (cK (ak 7) fun w'=>nW w' b s (p+2)∧On b w w'):=by
 obtain⟨⟨c0,c1,c2,c3⟩,f0,f1,f2,f3⟩:=h.raw.facts;have hs:=h.big;have z1:sz ((bs s).drop p)=1:=fI au au;have z2:sz ((bs s).drop (p+1))=1:=by
  unfold sW at hpr;simp only[nY] at hpr;exact fI au au
 have HP:=aA (fun w2 (h':nW w2 b s p)=>fQ b s p w2 h');have Rp:=aA (fun w2 (h':nW w2 b s (p+1))=>fQ b s (p+1) w2 h');rw[z1] at HP;rw[z2] at Rp;clear z1 z2;rcases hc with hc|hc
 ·rw[hc] at c2 hpr
  have hsp:isSp 61=false:=aS
  have hlt:isLt 61=false:=aS
  have hdg:iR 61=false:=aS
  go_enter func121,ntmps121;go_wp2_with fail
  go_step3
  go_wp2_with fail
  go_quiet (fail)
  go_wp2_with fail
  refine((HP.o) _ (h.drewN _)).aX ?_;rintro w1 ⟨r1,k1⟩;obtain⟨⟨d0,d1,d2,d3⟩,-⟩:=r1.raw.facts;go_wp2_with (first|(go_at_call 142;refine(d_ _ _).cO ?_)|(go_at_call 143;refine(dW _ _).cO ?_)|(go_at_call 144;refine(dN _ _).cO ?_)|(go_at_call 147;refine(lK _ _ _).cO ?_)|(go_at_call 141;refine((Rp.o) _ r1).aX ?_;rintro w2 ⟨r2,k2⟩))
  rw[jD];go_ret;exact⟨rfl,r2,((On.drewN b w nq).to k1).to k2⟩
 ·rw[hc] at c2 hpr
  have hsp:isSp 43=false:=aS
  have hlt:isLt 43=false:=aS
  have hdg:iR 43=false:=aS
  go_enter func121,ntmps121;go_wp2_with fail
  go_step3
  go_wp2_with fail
  go_quiet (fail)
  go_wp2_with fail
  refine((HP.o) _ (h.drewN _)).aX ?_;rintro w1 ⟨r1,k1⟩;obtain⟨⟨d0,d1,d2,d3⟩,-⟩:=r1.raw.facts;go_wp2_with (first|(go_at_call 142;refine(d_ _ _).cO ?_)|(go_at_call 143;refine(dW _ _).cO ?_)|(go_at_call 144;refine(dN _ _).cO ?_)|(go_at_call 147;refine(lK _ _ _).cO ?_)|(go_at_call 141;refine((Rp.o) _ r1).aX ?_;rintro w2 ⟨r2,k2⟩))
  rw[jD];go_ret;exact⟨rfl,r2,((On.drewN b w nq).to k1).to k2⟩
theorem Kv(b:Nat)(s:ByteArray)(p:Nat)(w:aG)(h:nW w b s p)(hp:p<s.size)(hsp:isSp (cc ((bs s).drop p))=false)(hlt:isLt (cc ((bs s).drop p))=false)(hdg:iR (cc ((bs s).drop p))=false)
  (hq:cc ((bs s).drop p)≠34) (h1:¬(cc ((bs s).drop p)=123∧cc (nx ((bs s).drop p))=45)) (h2:¬(cc ((bs s).drop p)=45∧cc (nx ((bs s).drop p))=45)) (hpr:sW (cc ((bs s).drop p)) (cc (nx ((bs s).drop p)))=false) :
  bB 121 #[aH b] w (cK (ak (if oI (cc ((bs s).drop p)) then 7 else 8:Nat)) fun w'=>nW w' b s (p+sz ((bs s).drop p))∧On b w w'):=by
 obtain⟨⟨c0,c1,c2,c3⟩,f0,f1,f2,f3⟩:=h.raw.facts;have hs:=h.big;have hpos:0≤cc ((bs s).drop p):=by rw[rH (iJ hp)];omega
 have bq:(cc ((bs s).drop p)==34)=false:=by simpa using hq
 rw[gK] at h1 h2 hpr;by_cases g1:cc ((bs s).drop p)=123
 ·have hn:(cc ((bs s).drop (p+sz ((bs s).drop p)))==45)=false:=by
   have:¬ cc ((bs s).drop (p+sz ((bs s).drop p)))=45:=fun e=>h1 ⟨g1,e⟩
   simpa using this
  have hsg:oI 123=false:=aS
  rw[g1] at c2 hsp hlt hdg bq hpr;rw[g1,hsg];clear h1 h2 hq;go_enter func121,ntmps121;go_wp2_with fail
  go_step3
  go_wp2_with fail
  go_quiet (fail)
  go_wp2_with (first|(go_at_call 141;refine(fQ b s p _ (h.drewN _)).aX ?_;rintro w1 ⟨r1,k1⟩;obtain⟨⟨d0,d1,d2,d3⟩,-⟩:=r1.raw.facts)|(go_at_call 142;refine(d_ _ _).cO ?_)|(go_at_call 143;refine(dW _ _).cO ?_)|(go_at_call 144;refine(dN _ _).cO ?_)|(go_at_call 147;refine(lK _ _ _).cO ?_)|(go_at_call 148;refine(pG _ _ au).aX fun w2 k2=>?_))
  rw[jD];go_ret;exact⟨rfl,r1.below k2,((On.drewN b w nq).to k1).to (On.aN b k2)⟩
 by_cases g2:cc ((bs s).drop p)=45
 ·have hn:(cc ((bs s).drop (p+sz ((bs s).drop p)))==45)=false:=by
   have:¬ cc ((bs s).drop (p+sz ((bs s).drop p)))=45:=fun e=>h2 ⟨g2,e⟩
   simpa using this
  have hsg:oI 45=true:=aS
  rw[g2] at c2 hsp hlt hdg bq hpr;rw[g2,hsg];clear h1 h2 hq g1;go_enter func121,ntmps121;go_wp2_with fail
  go_step3
  go_wp2_with fail
  go_quiet (fail)
  go_wp2_with (first|(go_at_call 141;refine(fQ b s p _ (h.drewN _)).aX ?_;rintro w1 ⟨r1,k1⟩;obtain⟨⟨d0,d1,d2,d3⟩,-⟩:=r1.raw.facts)|(go_at_call 142;refine(d_ _ _).cO ?_)|(go_at_call 143;refine(dW _ _).cO ?_)|(go_at_call 144;refine(dN _ _).cO ?_)|(go_at_call 147;refine(lK _ _ _).cO ?_)|(go_at_call 148;refine(pG _ _ au).aX fun w2 k2=>?_))
  rw[jD];go_ret;exact⟨rfl,r1.below k2,((On.drewN b w nq).to k1).to (On.aN b k2)⟩
 ·have b1:(cc ((bs s).drop p)==123)=false:=by simpa using g1
  have b2:(cc ((bs s).drop p)==45)=false:=by simpa using g2
  clear h1 h2 hq g1 g2;cases hsg:oI (cc ((bs s).drop p))
  ·go_enter func121,ntmps121
   go_wp2_with fail
   go_step3
   go_wp2_with fail
   go_quiet (fail)
   go_wp2_with (first|(go_at_call 141;refine(fQ b s p _ (h.drewN _)).aX ?_;rintro w1 ⟨r1,k1⟩;obtain⟨⟨d0,d1,d2,d3⟩,-⟩:=r1.raw.facts)|(go_at_call 142;refine(d_ _ _).cO ?_)|(go_at_call 143;refine(dW _ _).cO ?_)|(go_at_call 144;refine(dN _ _).cO ?_)|(go_at_call 147;refine(lK _ _ _).cO ?_)|(go_at_call 148;refine(pG _ _ au).aX fun w2 k2=>?_))
   rw[jD];go_ret;exact⟨rfl,r1.below k2,((On.drewN b w nq).to k1).to (On.aN b k2)⟩
  ·go_enter func121,ntmps121
   go_wp2_with fail
   go_step3
   go_wp2_with fail
   go_quiet (fail)
   go_wp2_with (first|(go_at_call 141;refine(fQ b s p _ (h.drewN _)).aX ?_;rintro w1 ⟨r1,k1⟩;obtain⟨⟨d0,d1,d2,d3⟩,-⟩:=r1.raw.facts)|(go_at_call 142;refine(d_ _ _).cO ?_)|(go_at_call 143;refine(dW _ _).cO ?_)|(go_at_call 144;refine(dN _ _).cO ?_)|(go_at_call 147;refine(lK _ _ _).cO ?_)|(go_at_call 148;refine(pG _ _ au).aX fun w2 k2=>?_))
   rw[jD];go_ret;exact⟨rfl,r1.below k2,((On.drewN b w nq).to k1).to (On.aN b k2)⟩
theorem Rq(b:Nat)(s:ByteArray)(p:Nat)(w:aG)(h:nW w b s p)(hp:p<s.size) :
  bB 121 #[aH b] w (cK (ak (tok ((bs s).drop p)).1) fun w'=>nW w' b s (p+(tok ((bs s).drop p)).2)∧On b w w'):=by
 cases h1:isSp (cc ((bs s).drop p))
 case true =>
  rw[show tok ((bs s).drop p)=(1,sz ((bs s).drop p)+skip isSp (nx ((bs s).drop p))) by unfold tok;rw[h1];rfl];exact Kr b s p w h hp h1
 cases h2:isLt (cc ((bs s).drop p))
 case true =>
  rw[show tok ((bs s).drop p)=(if mh (((bs s).drop p).take (sz ((bs s).drop p)+skip jT (nx ((bs s).drop p)))) then 4 else 3,sz ((bs s).drop p)+skip jT (nx ((bs s).drop p))) by unfold tok;rw[h1,h2];rfl];exact Oe b s p w h hp h1 h2
 cases h3:iR (cc ((bs s).drop p))
 case true =>
  rw[show tok ((bs s).drop p)=(if 18<sz ((bs s).drop p)+skip iR (nx ((bs s).drop p)) then 8 else 5,sz ((bs s).drop p)+skip iR (nx ((bs s).drop p))) by unfold tok;rw[h1,h2,h3];rfl];exact Kt b s p w h hp h1 h2 h3
 by_cases h4:cc ((bs s).drop p)=34
 ·rw[show tok ((bs s).drop p)=((quo 6 (nx ((bs s).drop p))).1,1+(quo 6 (nx ((bs s).drop p))).2) by unfold tok;rw[h1,h2,h3,aM aT,aM aT,aM aT,aU h4]]
  exact Ku b s p w h h4
 by_cases h5:cc ((bs s).drop p)=123∧cc (nx ((bs s).drop p))=45
 ·have z1:sz ((bs s).drop p)=1:=fI au au
  have e1:nx ((bs s).drop p)=(bs s).drop (p+1):=by rw[gK,z1]
  have z2:sz ((bs s).drop (p+1))=1:=by rw[← e1];exact fI au au
  have e2:nx (nx ((bs s).drop p))=(bs s).drop (p+2):=by rw[e1,gK,z2]
  rw[show tok ((bs s).drop p)=((nest 1 ((bs s).drop (p+2))).1,2+(nest 1 ((bs s).drop (p+2))).2) by unfold tok;rw[h1,h2,h3,aM aT,aM aT,aM aT,aM h4,aU h5,e2]];exact Oh b s p w h h5.1 (by rw[← e1];exact h5.2)
 by_cases h6:cc ((bs s).drop p)=45∧cc (nx ((bs s).drop p))=45
 ·have z1:sz ((bs s).drop p)=1:=fI au au
  have e1:nx ((bs s).drop p)=(bs s).drop (p+1):=by rw[gK,z1]
  rw[show tok ((bs s).drop p)=(2,1+skip sD ((bs s).drop (p+1))) by unfold tok;rw[h1,h2,h3,aM aT,aM aT,aM aT,aM h4,aM h5,aU h6,e1]];exact Og b s p w h hp h6.1 (by rw[← e1];exact h6.2)
 cases h7:sW (cc ((bs s).drop p)) (cc (nx ((bs s).drop p)))
 case true =>
  have h8:cc ((bs s).drop p)=61∨cc ((bs s).drop p)=43:=by
   have:=h7;unfold sW at this;simp only[nY] at this;omega
  have z1:sz ((bs s).drop p)=1:=fI au au;have e1:nx ((bs s).drop p)=(bs s).drop (p+1):=by rw[gK,z1]
  rw[show tok ((bs s).drop p)=(7,2) by unfold tok;rw[h1,h2,h3,aM aT,aM aT,aM aT,aM h4,aM h5,aM h6,aU h7]];exact Oi b s p w h (by rw[← e1];exact h7) h8
 have key:=Kv b s p w h hp h1 h2 h3 h4 h5 h6 h7;have hpos:0≤cc ((bs s).drop p):=by rw[rH (iJ hp)];omega
 cases h8:oI (cc ((bs s).drop p))
 case true =>
  have z1:sz ((bs s).drop p)=1:=by
   have:=h8;unfold oI at this;simp only[nY,fJ,o7,or_false] at this;exact fI au au
  rw[show tok ((bs s).drop p)=(7,1) by unfold tok;rw[h1,h2,h3,aM aT,aM aT,aM aT,aM h4,aM h5,aM h6,aM (by rw[h7];simp),aU h8]];rw[h8,z1] at key;exact key
 case false =>
  rw[show tok ((bs s).drop p)=(8,sz ((bs s).drop p)) by unfold tok;rw[h1,h2,h3,aM aT,aM aT,aM aT,aM h4,aM h5,aM h6,aM (by rw[h7];simp),aM (by rw[h8];simp)]];rw[h8] at key;exact key
theorem yA{s:ByteArray}{p:Nat}(h:p<s.size):p+(tok ((bs s).drop p)).2≤s.size:=by
 have:=(jG (iJ h)).2.2.2;simp[eY] at this;omega
theorem nW.keep{S:Nat→Prop}{w w':aG}{b:Nat}{s:ByteArray}{p:Nat}(h:nW w b s p)(hk:Kp S w w')(hn:¬ S b)(h7:∀ k,k<3→¬ S k):nW w' b s p:=⟨h.raw.keep hk hn,h.tabs.keep hk h7,h.old,h.le,h.big⟩
theorem On.Kw{b:Nat}{a w:aG}(h:On b a w){n:Nat}(hn:a.heap.size≤n)(i:Nat)(v:Value):On b a (w.setCell (aC n i) v):=Kp.setCell h (p:=⟨n,i,none⟩) (fun hl=>by have:n<a.heap.size:=hl;omega) v
def Ky(w:aG)(b:Nat)(x0 x1 x2:Value):Prop:=w.heap[b]?=some (.cells #[x0,x1,x2] 155 (0,0))
theorem Ky.new(w:aG)(x0 x1 x2:Value):Ky (w.alloc (.cells #[x0,x1,x2] 155)) w.heap.size x0 x1 x2:=by
 show(w.heap.push _)[w.heap.size]?=_;simp
theorem Ky.facts{w:aG}{b:Nat}{x0 x1 x2:Value}(h:Ky w b x0 x1 x2) :
  (w.cell? (aC b 0)=some x0∧w.cell? (aC b 1)=some x1∧w.cell? (aC b 2)=some x2) ∧
  (w.frozen? (aC b 0)=false∧w.frozen? (aC b 1)=false∧w.frozen? (aC b 2)=false):=by
 unfold Ky at h;refine⟨⟨?_,?_,?_⟩,?_,?_,?_⟩<;>simp[World.cell?,World.frozen?,h]
theorem Da(b:Nat)(s:ByteArray)(p:Nat)(w:aG)(h:nW w b s p)(hp:p<s.size) :
  bB 100 #[aH b] w (cK (.agg #[ak (tok ((bs s).drop p)).1,ak p,ak (tok ((bs s).drop p)).2]) fun w'=>nW w' b s (p+(tok ((bs s).drop p)).2)∧On b w w'):=by
 have hs:=h.big;have HT:=aA (yA hp);have h':nW (w.alloc (.cells #[ak 0,ak 0,ak 0] 155)) b s p:=h.below ((aB _ _).alloc (ax _) _);have hbl:=h.raw.lt;obtain⟨⟨c0,c1,c2,c3⟩,f0,f1,f2,f3⟩:=h.raw.facts;go_enter func100,ntmps100;go_wp2_with fail
 refine(Rq b s p _ h' hp).aX ?_;rintro w1 ⟨r1,k1⟩;obtain⟨⟨d0,d1,d2,d3⟩,-⟩:=r1.raw.facts;have g0:Ky w1 w.heap.size (ak 0) (ak 0) (ak 0):=Kp.heap k1 (Ky.new w _ _ _) au;obtain⟨⟨x0,x1,x2⟩,y0,y1,y2⟩:=g0.facts;have R1:=aA r1;have K1:=aA k1;clear r1 k1 g0;have hT:=HT.o;have e1:((p+(tok ((bs s).drop p)).2:Nat):Int) - (p:Int)=((tok ((bs s).drop p)).2:Int):=au
 go_wp2_with fail
 have e2:(p:Int)+((tok ((bs s).drop p)).2:Int) - (p:Int)=((tok ((bs s).drop p)).2:Int):=au
 rw[e2];have k0:On b w w1:=Kp.trans (Kp.alloc (Kp.refl _ w) _) K1.o (fun _ _ e=>e);have h7:=h.tabs.2;have q1:Kp (fun k=>k=w.heap.size) w1 (((w1.setCell (aC w.heap.size 0) (ak (tok ((bs s).drop p)).1)).setCell (aC w.heap.size 1) (ak p)).setCell (aC w.heap.size 2) (ak (tok ((bs s).drop p)).2)) :=
  ((On.set (Kp.refl _ w1) 0 _).set 1 _).set 2 _
 exact aW (v:=.agg #[ak (tok ((bs s).drop p)).1,ak p,ak (tok ((bs s).drop p)).2]) (by simp[results,results100,go_sem,x0,x1,x2]) rfl
  ⟨rfl,(R1.o).keep q1 au (fun k hk=>au),((k0.Kw (ax _) 0 _).Kw (ax _) 1 _).Kw (ax _) 2 _⟩
def lH(l:ah)(kind:Nat):Bool:=decide (l≠[]∧M.tok l=(kind,l.length))
theorem Z6{W:aG}{b:Nat}{c:Array Value}{t:TypeId}(h:W.heap[b]?=some (.cells c t (0,0)))(k:Nat):W.frozen? (aC b k)=false:=dO h
def firstT(s:ByteArray):Nat × Nat:=if s.size=0 then(0,0) else M.tok (bs s)
theorem uy(s:ByteArray)(w:aG)(hT:nE w)(hs:s.size≤1073741824) :
  bB 67 #[.string s] w (cK (.agg #[ak (firstT s).1,ak 0,ak (firstT s).2]) fun w'=>Below w.heap.size w w'):=by
 have k0:Below w.heap.size w (w.alloc (.cells #[ak 0,ak 0,ak 0] 155)):=(aB _ w).alloc (ax _) _;have hN:=aI w (.cells #[ak 0,ak 0,ak 0] 155);by_cases h0:s.size=0
 ·obtain rfl:s=⟨#[]⟩:=iD (by rw[← bP.1 (by rw[eY];exact h0:(bs s).length=0)];rfl)
  have e:firstT ⟨#[]⟩=(0,0):=aU h0;rw[e];have a0:=aj _ _ 0 _ _ _ hN;have a1:=aj _ _ 1 _ _ _ hN;have a2:=aj _ _ 2 _ _ _ hN;go_enter func67,ntmps67;go_wp2_with fail
  exact aW (by simp[results,results67,go_sem]) rfl ⟨rfl,k0⟩
 ·have hne:bs s≠[]:=by intro e;have:=congrArg List.length e;rw[eY] at this;exact h0 this
  have hb:(s.toList==[])=false:=by rw[jw,eO];exact hne
  have hbn:(s.toList !=[])=true:=by rw[bne,hb];rfl
  have hp:0<s.size:=au
  have hT1:=hT.below k0;have h7:=hT1.2;have HE:Hid (firstT s=M.tok (bs s)):=aM h0;have HN:=aA hN;have Xw:=aA k0;have hz:(w.alloc (.cells #[ak 0,ak 0,ak 0] 155)).heap.size=w.heap.size+1:=aT
  clear hN k0;go_enter func67,ntmps67;go_wp2_with fail
  refine(v_ s 0 _ hT1 (bJ _) au).aX ?_;rintro w1 ⟨r1,k1⟩;have z1:=k1.size;have K1:=aA ((Xw.o).trans (k1.mono (Xw.o).size));have hN1:w1.heap[w.heap.size]?=some (.cells #[ak 0,ak 0,ak 0] 155 (0,0)):=by
   rw[k1.block w.heap.size (by rw[hz];omega)];exact HN.o
  have Z7:=aA hN1;rw[hz] at r1 z1;rw[hz];clear k1 hN1;go_wp2_with fail
  refine(Da (w.heap.size+1) s 0 _ r1 hp).aX ?_;rintro w2 ⟨r2,k2⟩;have K2:=aA ((K1.o).trans (On.below k2 (B:=w.heap.size) au au));have tX:=k2.heap Z7.o (fun e=>au);clear k2 r2;rw[List.drop_zero,← HE.o];have a0:=aj _ _ 0 _ _ _ tX;have a1:=aj _ _ 1 _ _ _ tX;have a2:=aj _ _ 2 _ _ _ tX;have b0:=Z6 tX 0;have b1:=Z6 tX 1;have b2:=Z6 tX 2;have G8:(((w2.setCell (aC w.heap.size 0) (ak (firstT s).1)).setCell (aC w.heap.size 1) (ak 0)).setCell (aC w.heap.size 2) (ak (firstT s).2)).heap[w.heap.size]?=some (.cells #[ak (firstT s).1,ak 0,ak (firstT s).2] 155 (0,0)):=by
   simp[World.setCell,aZ,tX]
  have K3:Hid (Below w.heap.size w (((w2.setCell (aC w.heap.size 0) (ak (firstT s).1)).setCell (aC w.heap.size 1) (ak 0)).setCell (aC w.heap.size 2) (ak (firstT s).2))):=(((K2.o).setCell (p:=⟨w.heap.size,0,none⟩) (ax _) _).setCell (p:=⟨w.heap.size,1,none⟩) (ax _) _).setCell (p:=⟨w.heap.size,2,none⟩) (ax _) _;have Ei:=aA G8;clear tX G8;go_wp2_with fail
  clear a0 a1 a2 b0 b1 b2;generalize (((w2.setCell (aC w.heap.size 0) (ak (firstT s).1)).setCell (aC w.heap.size 1) (ak 0)).setCell (aC w.heap.size 2) (ak (firstT s).2))=w3 at *;have a0:=aj _ _ 0 _ _ _ Ei.o;have a1:=aj _ _ 1 _ _ _ Ei.o;have a2:=aj _ _ 2 _ _ _ Ei.o;exact aW (by simp[results,results67,go_sem,a0,a1,a2]) rfl ⟨rfl,K3.o⟩
theorem OE(s:ByteArray)(kind:Nat)(w:aG)(hT:nE w)(hs:s.size≤1073741824)(hk:0<kind) :
  bB 40 #[.string s,ak kind] w (cK (.bool (lH (bs s) kind)) fun w'=>Below w.heap.size w w'):=by
 have HA:Hid (lH (bs s) kind=decide ((firstT s).1=kind∧(firstT s).2=s.size)):=by
  show _=_;unfold lH firstT;by_cases h0:s.size=0
  ·have hn:=bP.1 (by rw[eY];exact h0)
   rw[aU h0,decide_eq_false (fun h=>h.1 hn),eq_comm,fV];simp only;omega
  ·have hne:bs s≠[]:=by intro e;have:=congrArg List.length e;rw[eY] at this;exact h0 this
   rw[aM h0,eY,gq];simp[hne,Prod.ext_iff]
 go_enter func40,ntmps40;go_wp2_with fail
 refine(uy s _ hT hs).aX fun w2 k2=>?_;have K2:=aA k2;clear k2;generalize firstT s=T at *;go_wp2_with fail
 all_goals
  go_ret;refine⟨jQ ?_,K2.o⟩;rw[HA.o]
  first
   | (rw[eq_comm,decide_eq_true_iff];omega)
   | (rw[eq_comm,fV];omega)
   | (rw[eq_comm,decide_eq_true_iff];simp_all;omega)
   | (rw[eq_comm,fV];simp_all;omega)
theorem G_(s:ByteArray)(w:aG)(hT:nE w)(hs:s.size≤1073741824) :
  bB 23 #[.string s] w (cK (.bool (decide (s.size≤40)&&lH (bs s) 3)) fun w'=>Below w.heap.size w w'):=by
 by_cases h:s.size≤40
 ·have i1:decide ((s.size:Int)≤40)=true:=by simp;omega
  rw[mJ h,Bool.true_and];go_enter func23,ntmps23;go_wp2_with fail
  refine(OE s 3 _ hT hs au).aX fun w1 k1=>?_;go_wp2_with fail
  go_ret;exact⟨rfl,k1⟩
 ·have i1:decide ((s.size:Int)≤40)=false:=by simp;omega
  rw[decide_eq_false h,Bool.false_and];go_enter func23,ntmps23;go_wp2_with fail
  go_ret;exact⟨rfl,aB _ _⟩
end
end Go.Proofs.YtoohcklcppnafaaGreatDoor
