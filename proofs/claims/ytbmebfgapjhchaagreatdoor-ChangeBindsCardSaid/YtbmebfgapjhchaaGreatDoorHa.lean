/- strings.ContainsRune of the signs of one character. -/
import Derived.Test.YtbmebfgapjhchaaGreatDoorGa
import Derived.Laws.RangeString
import Derived.Laws.Runes
import Derived.Lib.Bytealg
namespace Go.Proofs.YtbmebfgapjhchaaGreatDoor
open Go.RowKit
open M
theorem indexByte_none (c:UInt8):∀ l:List UInt8,(∀ x∈l,x≠c)→Lib.indexByte l c=-1
 | [],_=>rfl
 | x::l,h=>by
  have h1:=h x (by simp)
  have h2:=indexByte_none c l (fun y hy=>h y (by simp [hy]))
  simp [Lib.indexByte,h1,h2]
def Asc (s:ByteArray):Prop:=∀ (k:Nat) (h:k<s.size),(s[k]'h).toNat<128
set_option maxHeartbeats 4000000 in
set_option maxRecDepth 1000000 in
theorem indexRune_bad (c:Int) (s:ByteArray) (w:World) (h1:128≤c) (h2:c≠65533) (hv:Lib.validRune c=false) :
  Calls Tryz.prog 134 #[.string s,.int .i32 c] w fun e w'=>e=.returned (.int .i64 (-1))∧Below w.heap.size w w':=by
 have b1:decide (c<128)=false:=by simpa using h1
 have b2:(c==65533)=false:=by simpa using h2
 have b3:0≤c:=by omega
 clear h2
 go_enter Tryz.func134,Tryz.ntmps134
 go_wp2_with ((go_at_call 149;refine (Tryz.utf8_ValidRune _ _).mono ?_;rintro e w' ⟨rfl,rfl⟩))
 go_ret
 exact ⟨rfl,Below.refl _ _⟩
set_option maxHeartbeats 4000000 in
set_option maxRecDepth 1000000 in
theorem indexRune_fit (c:Int) (s:ByteArray) (ha:Asc s) (hs:s.size≤1000) (w:World) (h1:128≤c) (h2:c≠65533) (hv:Lib.validRune c=true) :
  Calls Tryz.prog 134 #[.string s,.int .i32 c] w fun e w'=>e=.returned (.int .i64 (-1))∧Below w.heap.size w w':=by
 have b1:decide (c<128)=false:=by simpa using h1
 have b2:(c==65533)=false:=by simpa using h2
 have b3:0≤c:=by omega
 clear h2
 have hv':Utf8.valid c=true:=by
  simp only [Lib.validRune,decide_eq_true_eq] at hv
  simp only [Utf8.valid,Bool.or_eq_true,Bool.and_eq_true,decide_eq_true_eq];omega
 obtain ⟨hE2,hE4,hEl⟩:=encode_facts c hv' h1
 clear hv'
 have i1:(0:Int)≤((Utf8.encode c).size:Int) - 1:=by omega
 have i2:((Utf8.encode c).size:Int) - 1<((Utf8.encode c).size:Int):=by omega
 have hl:=hEl (by omega)
 go_enter Tryz.func134,Tryz.ntmps134
 go_wp2_with ((go_at_call 149;refine (Tryz.utf8_ValidRune _ _).mono ?_;rintro e w' ⟨rfl,rfl⟩))
 go_step3
 go_wp2_with fail
 go_loopw [9] (fun i wr=>i=.int .i64 (((Utf8.encode c).size:Int) - 1)∧Below w'.heap.size w' wr) (fun _ _=>0)
 case atStart=>exact ⟨rfl,Below.refl _ _⟩
 case round =>
  obtain ⟨rfl,hB⟩:=hrel
  by_cases hlt:((Utf8.encode c).size:Int) - 1<(s.size:Int)
  ·go_wp2_with fail
   go_step3
   go_wp2_with fail
   obtain ⟨m,hm⟩:∃ m,(Utf8.encode c).size=m+1:=⟨(Utf8.encode c).size - 1,by omega⟩
   have em:((Utf8.encode c).size:Int) - 1=(m:Int):=by omega
   have m1:m<s.size:=by omega
   have m2:m<(Utf8.encode c).size:=by omega
   have m3:(s[m]'m1).toNat<128:=ha m m1
   have m4:128≤((Utf8.encode c)[m]'m2).toNat:=by
    have e1:(Utf8.encode c).size - 1=m:=by omega
    simp only [e1] at hl;exact hl
   have m5:(((s[m]'m1).toNat:Int)==(((Utf8.encode c)[m]'m2).toNat:Int))=false:=by simp;omega
   rw [em]
   have HM:=hide hm
   clear hEl hl i1 i2 hlt em hm m3
   go_quiet (fail)
   go_wp2_with fail
   obtain ⟨n,hn⟩:∃ n,n=m+1:=⟨_,rfl⟩
   have m6:n≤s.size:=by omega
   have hw:IntKind.i64.wrap ((m:Int)+1)=(n:Int):=by rw [wrap_small _ (by omega) (by omega)];omega
   have hix:Lib.indexByte (s.extract n s.size).data.toList (((Utf8.encode c)[m]'m2).toNat:Int).toNat.toUInt8=-1:=by
    refine indexByte_none _ _ (fun x hx e=>?_)
    have hx2:x∈bs s:=by
     have hb:(s.extract n s.size).data.toList=(bs s).drop n:=bs_drop s n
     rw [hb] at hx;exact List.mem_of_mem_drop hx
    obtain ⟨k,hk,hke⟩:=List.getElem_of_mem hx2
    rw [bs_len] at hk
    have h9:=ha k hk
    have h10:(bs s)[k]'(by rw [bs_len];exact hk)=s[k]'hk:=rfl
    rw [h10] at hke
    rw [hke,e] at h9
    simp at h9
    omega
   have HN:=hide hn
   clear hn
   have hB2:=belowN hB nq
   clear hB
   generalize wr.drewN nq=w3 at hB2 ⊢
   go_quiet ((go_at_call 148;exact Calls.quiet_of_same (Tryz.strings_IndexByte _ _ _)))
   simp only [hix]
   clear hix
   go_wp2_with fail
   rw [Exit.noGoto_ret]
   go_wp2_with fail
   rw [Exit.noGoto_ret]
   go_ret
   exact ⟨rfl,belowN hB2 _⟩
  ·go_wp2_with fail
   go_ret
   exact ⟨rfl,hB⟩
set_option maxHeartbeats 4000000 in
set_option maxRecDepth 1000000 in
theorem indexRune_err (s:ByteArray) (ha:Asc s) (w:World) :
  Calls Tryz.prog 134 #[.string s,.int .i32 65533] w fun e w'=>e=.returned (.int .i64 (-1))∧Below w.heap.size w w':=by
 go_enter Tryz.func134,Tryz.ntmps134
 go_wp2_with ((go_at_call 149;refine (Tryz.utf8_ValidRune _ _).mono ?_;rintro e w' ⟨rfl,rfl⟩))
 go_loopw [5] (fun n w'=>∃ (pos:Nat),w'=w.iter s pos∧pos≤s.size) (fun _ w'=>s.size - w'.iterPos w.heap.size)
 case atStart=>exact ⟨0,rfl,Nat.zero_le _⟩
 case round =>
  obtain ⟨pos,rfl,hb⟩:=hrel
  by_cases hp:pos<s.size
  ·have hasc:=ha pos hp
   have hnx:∀ ty,(Instr.next (.pointer (some ⟨w.heap.size,0,none⟩)) true ty).run Tryz.prog (w.iter s pos)=_:=fun ty=>run_next_ascii w s pos ty hp hasc
   have hne:(((s[pos]'hp).toNat:Int)==65533)=false:=by simp;omega
   go_wp2_with fail
   go_roundw
   case rel=>exact ⟨pos+1,rfl,by omega⟩
   case measure=>simp;omega
  ·have hnx:∀ ty,(Instr.next (.pointer (some ⟨w.heap.size,0,none⟩)) true ty).run Tryz.prog (w.iter s pos)=_:=fun ty=>run_next_end w s pos ty hp
   go_wp2_with fail
   go_ret
   exact ⟨rfl,((Below.refl _ _).alloc (Nat.le_refl _) _)⟩
theorem asc_signs:Asc ⟨#[40,41,91,93,44,59,61,60,43,45,42,46,63]⟩:=by
 have:∀ k:Fin 13,((⟨#[40,41,91,93,44,59,61,60,43,45,42,46,63]⟩:ByteArray)[k.val]'k.isLt).toNat<128:=by decide
 exact fun k h=>this ⟨k,h⟩
set_option maxRecDepth 100000 in
theorem sign_ascii:∀ n:Fin 128,decide (0≤Lib.indexByte [40,41,91,93,44,59,61,60,43,45,42,46,63] (UInt8.ofNat n.val))=isSg (n.val:Int):=by decide
theorem isSg_hi {c:Int} (h:128≤c):isSg c=false:=by
 unfold isSg;rw [decide_eq_false_iff_not];simp;omega
theorem indexRune_hi (c:Int) (w:World) (h1:128≤c) :
  Calls Tryz.prog 134 #[.string ⟨#[40,41,91,93,44,59,61,60,43,45,42,46,63]⟩,.int .i32 c] w fun e w'=>e=.returned (.int .i64 (-1))∧Below w.heap.size w w':=by
 by_cases h2:c=65533
 ·subst h2;exact indexRune_err _ asc_signs w
 ·cases hv:Lib.validRune c
  ·exact indexRune_bad c _ w h1 h2 hv
  ·exact indexRune_fit c _ asc_signs (by decide) w h1 h2 hv
set_option maxHeartbeats 4000000 in
theorem contains_any (c:Int) (w:World) (h0:0≤c) :
  Calls Tryz.prog 113 #[.string ⟨#[40,41,91,93,44,59,61,60,43,45,42,46,63]⟩,.int .i32 c] w fun e w'=>e=.returned (.bool (isSg c))∧Below w.heap.size w w':=by
 by_cases h1:c<128
 ·refine (Tryz.strings_ContainsRune_ascii _ c w h0 h1).mono ?_
  rintro e w' ⟨rfl,rfl⟩
  obtain ⟨n,rfl⟩:∃ n:Nat,c=(n:Int):=⟨c.toNat,by omega⟩
  exact ⟨retb (sign_ascii ⟨n,by omega⟩),Below.refl _ _⟩
 ·rw [isSg_hi (by omega)]
  go_enter Tryz.func113,Tryz.ntmps113
  go_wp2_with ((go_at_call 134;refine (indexRune_hi c _ (by omega)).mono ?_;rintro e w1 ⟨rfl,hb⟩))
  go_ret
  exact ⟨rfl,hb⟩
end Go.Proofs.YtbmebfgapjhchaaGreatDoor
/- Is a text a word of the language? -/
namespace Go.Proofs.YtbmebfgapjhchaaGreatDoor
open Go.RowKit
open M
theorem str_ne {s:ByteArray} {l:List UInt8} (h:¬ s=⟨l.toArray⟩):(s.toList==l)=false:=by
 rw [ByteArray.toList_eq,beq_eq_false_iff_ne]
 exact fun e=>h (bs_inj (by rw [show bs s=l from e];simp [bs]))
theorem word_yes {s:ByteArray} (h:bs s∈words):wordB (bs s)=true:=by unfold wordB;exact decide_eq_true h
theorem word_no {s:ByteArray} (h:bs s∉words):wordB (bs s)=false:=by unfold wordB;exact decide_eq_false h
set_option maxHeartbeats 4000000 in
theorem word_any (s:ByteArray) (w:World):Calls Tryz.prog 114 #[.string s] w fun e w'=>e=.returned (.bool (wordB (bs s)))∧w'=w:=by
 by_cases h0:s=⟨#[117,115,101]⟩
 ·subst h0
  rw [word_yes (by decide)]
  go_enter Tryz.func114,Tryz.ntmps114
  go_wp2
  go_ret
  exact ⟨rfl,rfl⟩
 by_cases h1:s=⟨#[97,115]⟩
 ·subst h1
  rw [word_yes (by decide)]
  go_enter Tryz.func114,Tryz.ntmps114
  go_wp2
  go_ret
  exact ⟨rfl,rfl⟩
 by_cases h2:s=⟨#[112,117,98]⟩
 ·subst h2
  rw [word_yes (by decide)]
  go_enter Tryz.func114,Tryz.ntmps114
  go_wp2
  go_ret
  exact ⟨rfl,rfl⟩
 by_cases h3:s=⟨#[100,101,102]⟩
 ·subst h3
  rw [word_yes (by decide)]
  go_enter Tryz.func114,Tryz.ntmps114
  go_wp2
  go_ret
  exact ⟨rfl,rfl⟩
 by_cases h4:s=⟨#[108,101,116]⟩
 ·subst h4
  rw [word_yes (by decide)]
  go_enter Tryz.func114,Tryz.ntmps114
  go_wp2
  go_ret
  exact ⟨rfl,rfl⟩
 by_cases h5:s=⟨#[105,110]⟩
 ·subst h5
  rw [word_yes (by decide)]
  go_enter Tryz.func114,Tryz.ntmps114
  go_wp2
  go_ret
  exact ⟨rfl,rfl⟩
 by_cases h6:s=⟨#[105,102]⟩
 ·subst h6
  rw [word_yes (by decide)]
  go_enter Tryz.func114,Tryz.ntmps114
  go_wp2
  go_ret
  exact ⟨rfl,rfl⟩
 by_cases h7:s=⟨#[116,104,101,110]⟩
 ·subst h7
  rw [word_yes (by decide)]
  go_enter Tryz.func114,Tryz.ntmps114
  go_wp2
  go_ret
  exact ⟨rfl,rfl⟩
 by_cases h8:s=⟨#[101,108,115,101]⟩
 ·subst h8
  rw [word_yes (by decide)]
  go_enter Tryz.func114,Tryz.ntmps114
  go_wp2
  go_ret
  exact ⟨rfl,rfl⟩
 by_cases h9:s=⟨#[102,117,110]⟩
 ·subst h9
  rw [word_yes (by decide)]
  go_enter Tryz.func114,Tryz.ntmps114
  go_wp2
  go_ret
  exact ⟨rfl,rfl⟩
 by_cases h10:s=⟨#[116,114,117,101]⟩
 ·subst h10
  rw [word_yes (by decide)]
  go_enter Tryz.func114,Tryz.ntmps114
  go_wp2
  go_ret
  exact ⟨rfl,rfl⟩
 by_cases h11:s=⟨#[102,97,108,115,101]⟩
 ·subst h11
  rw [word_yes (by decide)]
  go_enter Tryz.func114,Tryz.ntmps114
  go_wp2
  go_ret
  exact ⟨rfl,rfl⟩
 have HN:Hid (wordB (bs s)=false):=by
  refine word_no (fun h=>?_)
  simp only [words,List.mem_cons,List.not_mem_nil,or_false] at h
  rcases h with h|h|h|h|h|h|h|h|h|h|h|h
  ·exact h0 (bs_inj h)
  ·exact h1 (bs_inj h)
  ·exact h2 (bs_inj h)
  ·exact h3 (bs_inj h)
  ·exact h4 (bs_inj h)
  ·exact h5 (bs_inj h)
  ·exact h6 (bs_inj h)
  ·exact h7 (bs_inj h)
  ·exact h8 (bs_inj h)
  ·exact h9 (bs_inj h)
  ·exact h10 (bs_inj h)
  ·exact h11 (bs_inj h)
 have b0:(s.toList==[117,115,101])=false:=str_ne h0
 have b1:(s.toList==[97,115])=false:=str_ne h1
 have b2:(s.toList==[112,117,98])=false:=str_ne h2
 have b3:(s.toList==[100,101,102])=false:=str_ne h3
 have b4:(s.toList==[108,101,116])=false:=str_ne h4
 have b5:(s.toList==[105,110])=false:=str_ne h5
 have b6:(s.toList==[105,102])=false:=str_ne h6
 have b7:(s.toList==[116,104,101,110])=false:=str_ne h7
 have b8:(s.toList==[101,108,115,101])=false:=str_ne h8
 have b9:(s.toList==[102,117,110])=false:=str_ne h9
 have b10:(s.toList==[116,114,117,101])=false:=str_ne h10
 have b11:(s.toList==[102,97,108,115,101])=false:=str_ne h11
 clear h0 h1 h2 h3 h4 h5 h6 h7 h8 h9 h10 h11
 go_enter Tryz.func114,Tryz.ntmps114
 go_wp2
 go_ret
 exact ⟨retb HN.out.symm,rfl⟩
end Go.Proofs.YtbmebfgapjhchaaGreatDoor
/- What kind of token begins where a reader is: spaces. -/
namespace Go.Proofs.YtbmebfgapjhchaaGreatDoor
open Go.RowKit
open M
theorem ne_sp {t:List UInt8} (h:isSp (cc t)=true):t≠[]:=by rintro rfl;rw [cc_nil] at h;revert h;decide
theorem ne_dg {t:List UInt8} (h:isDg (cc t)=true):t≠[]:=by rintro rfl;rw [cc_nil] at h;revert h;decide
theorem ne_nm {t:List UInt8} (h:isNm (cc t)=true):t≠[]:=by rintro rfl;rw [cc_nil] at h;revert h;decide
def JS (b:Nat) (s:ByteArray) (p:Nat) (c0:Int) (w:World) (P:Int→Bool) (T L:Nat) (l n:Nat) (a':Act) (w':World):Prop :=
 ∃ (q:Nat) (u5 u6 u7 u8 u9 u10 u11 u12 u13 u14 u15 u16 u17 u65 u66 u67 u68 u69 u70 u71:Value),a'={ tmps:=#[.pointer (some ⟨b,0,none⟩),undef,.int .i64 0,.int .i64 (p:Int),.int .i32 c0,u5,u6,u7,u8,u9,u10,u11,u12,u13,u14,u15,u16,u17,undef,undef,undef,undef,undef,undef,undef,undef,undef,undef,undef,undef,undef,undef,undef,undef,undef,undef,undef,undef,undef,undef,undef,undef,undef,undef,undef,undef,undef,undef,undef,undef,undef,undef,undef,undef,undef,undef,undef,undef,undef,undef,undef,undef,undef,undef,undef,u65,u66,u67,u68,u69,u70,u71,undef,undef,undef,undef,undef,undef,undef,undef,undef,undef,undef,undef,undef,undef,undef,undef,undef,undef,undef,undef,undef,undef,undef,undef,undef,undef,undef,undef,undef,undef,undef,undef,undef,undef,undef,undef,undef,undef,undef,undef,undef,undef,undef,undef,undef,undef,undef,undef,undef,undef,undef,undef,undef],defers:=[] }∧Rdr w' b s q∧On b w w'∧p≤q∧p+T=q+skip P ((bs s).drop q)∧l=L∧n=s.size - q
set_option maxHeartbeats 4000000 in
theorem kind_space (b:Nat) (s:ByteArray) (p:Nat) (w:World) (h:Rdr w b s p) (hp:p<s.size) (hc:isSp (cc ((bs s).drop p))=true) :
  Calls Tryz.prog 84 #[.pointer (some ⟨b,0,none⟩)] w fun e w'=>e=.returned (.int .i64 1)∧Rdr w' b s (p+(sz ((bs s).drop p)+skip isSp (nx ((bs s).drop p))))∧On b w w':=by
 obtain ⟨⟨c0,c1,c2,c3⟩,f0,f1,f2,f3⟩:=h.raw.facts
 have hs:=h.big
 have HZ:=hide (sz_pos (drop_ne hp))
 go_enter Tryz.func84,Tryz.ntmps84
 go_wp2_with fail
 refine wp_scope_many (JS b s p (cc ((bs s).drop p)) w isSp (sz ((bs s).drop p)+skip isSp (nx ((bs s).drop p))) 0) ?_ ?_
 ·go_wp2_with fail
  go_quiet (fail)
  go_wp2_with (first|(go_at_call 106;refine (pass_any b s p _ (h.drewN _)).mono ?_;rintro e w1 ⟨rfl,r1,k1⟩)|(go_at_call 107;refine (isSpace_any _ _).mono ?_;rintro e w' ⟨rfl,rfl⟩)|(go_at_call 108;refine (isLetter_any _ _).mono ?_;rintro e w' ⟨rfl,rfl⟩)|(go_at_call 109;refine (isDigit_any _ _).mono ?_;rintro e w' ⟨rfl,rfl⟩))
  go_step3
  have:=HZ.out
  exact ⟨s.size - (p+sz ((bs s).drop p)),p+sz ((bs s).drop p),_,_,_,_,_,_,_,_,_,_,_,_,_,_,_,_,_,_,_,_,rfl,r1,(On.drewN b w nq).to k1,by omega,by rw [nx_drop];omega,rfl,rfl⟩
 ·rintro l n a' w' ⟨q,u5,u6,u7,u8,u9,u10,u11,u12,u13,u14,u15,u16,u17,u65,u66,u67,u68,u69,u70,u71,rfl,hr,hk,hpq,hT,rfl,rfl⟩
  refine ⟨_,rfl,?_⟩
  have hq:=hr.le
  clear c0 c1 c2 c3 f0 f1 f2 f3
  obtain ⟨⟨c0,c1,c2,c3⟩,f0,f1,f2,f3⟩:=hr.raw.facts
  have HP2:=hide (pass_any b s q w' hr)
  have HH:=hide (And.intro hr (And.intro hk hT))
  clear hr hk hT
  cases hx:isSp (cc ((bs s).drop q))
  ·have HN:=hide (skip_no (p:=isSp) hx)
   go_wp2_with (first|(go_at_call 106;refine (HP2.out).mono ?_;rintro e w1 ⟨rfl,r1,k1⟩)|(go_at_call 107;refine (isSpace_any _ _).mono ?_;rintro e w' ⟨rfl,rfl⟩)|(go_at_call 108;refine (isLetter_any _ _).mono ?_;rintro e w' ⟨rfl,rfl⟩)|(go_at_call 109;refine (isDigit_any _ _).mono ?_;rintro e w' ⟨rfl,rfl⟩))
   simp only [Jumps]
   go_ret
   obtain ⟨hr,hk,hT⟩:=HH.out
   rw [HN.out] at hT
   refine ⟨rfl,?_,hk⟩
   rw [hT];exact hr
  ·have HN:=hide (skip_yes (p:=isSp) (t:=(bs s).drop q) (ne_sp hx) hx)
   have HZ2:=hide (sz_pos (l:=(bs s).drop q) (ne_sp hx))
   go_wp2_with (first|(go_at_call 106;refine (HP2.out).mono ?_;rintro e w1 ⟨rfl,r1,k1⟩)|(go_at_call 107;refine (isSpace_any _ _).mono ?_;rintro e w' ⟨rfl,rfl⟩)|(go_at_call 108;refine (isLetter_any _ _).mono ?_;rintro e w' ⟨rfl,rfl⟩)|(go_at_call 109;refine (isDigit_any _ _).mono ?_;rintro e w' ⟨rfl,rfl⟩))
   go_step3
   obtain ⟨hr,hk,hT⟩:=HH.out
   rw [HN.out,nx_drop (bs s) q] at hT
   have:=HZ2.out
   have hz:=r1.le
   exact ⟨s.size - (q+sz ((bs s).drop q)),by omega,q+sz ((bs s).drop q),_,_,_,_,_,_,_,_,_,_,_,_,_,_,_,_,_,_,_,_,rfl,r1,hk.to k1,by omega,by omega,rfl,rfl⟩
end Go.Proofs.YtbmebfgapjhchaaGreatDoor
/- What kind of token begins where a reader is: numbers. -/
namespace Go.Proofs.YtbmebfgapjhchaaGreatDoor
open Go.RowKit
open M
def JD (b:Nat) (s:ByteArray) (p:Nat) (c0:Int) (w:World) (P:Int→Bool) (T L:Nat) (l n:Nat) (a':Act) (w':World):Prop :=
 ∃ (q:Nat) (u5 u6 u7 u8 u9 u10 u11 u12 u13 u14 u15 u16 u17 u18 u19 u20 u21 u22 u23 u97 u98 u99 u100 u101 u102 u103:Value),a'={ tmps:=#[.pointer (some ⟨b,0,none⟩),undef,.int .i64 0,.int .i64 (p:Int),.int .i32 c0,u5,u6,u7,u8,u9,u10,u11,u12,u13,u14,u15,u16,u17,u18,u19,u20,u21,u22,u23,undef,undef,undef,undef,undef,undef,undef,undef,undef,undef,undef,undef,undef,undef,undef,undef,undef,undef,undef,undef,undef,undef,undef,undef,undef,undef,undef,undef,undef,undef,undef,undef,undef,undef,undef,undef,undef,undef,undef,undef,undef,undef,undef,undef,undef,undef,undef,undef,undef,undef,undef,undef,undef,undef,undef,undef,undef,undef,undef,undef,undef,undef,undef,undef,undef,undef,undef,undef,undef,undef,undef,undef,undef,u97,u98,u99,u100,u101,u102,u103,undef,undef,undef,undef,undef,undef,undef,undef,undef,undef,undef,undef,undef,undef,undef,undef,undef,undef,undef,undef,undef],defers:=[] }∧Rdr w' b s q∧On b w w'∧p≤q∧p+T=q+skip P ((bs s).drop q)∧l=L∧n=s.size - q
set_option maxHeartbeats 4000000 in
theorem kind_digit (b:Nat) (s:ByteArray) (p:Nat) (w:World) (h:Rdr w b s p) (hp:p<s.size) (h1:isSp (cc ((bs s).drop p))=false) (h2:isLt (cc ((bs s).drop p))=false) (hc:isDg (cc ((bs s).drop p))=true) :
  Calls Tryz.prog 84 #[.pointer (some ⟨b,0,none⟩)] w fun e w'=>e=.returned (.int .i64 (if 18<sz ((bs s).drop p)+skip isDg (nx ((bs s).drop p)) then 8 else 5:Nat))∧Rdr w' b s (p+(sz ((bs s).drop p)+skip isDg (nx ((bs s).drop p))))∧On b w w':=by
 obtain ⟨⟨c0,c1,c2,c3⟩,f0,f1,f2,f3⟩:=h.raw.facts
 have hs:=h.big
 have HZ:=hide (sz_pos (drop_ne hp))
 go_enter Tryz.func84,Tryz.ntmps84
 go_wp2_with fail
 refine wp_scope_many (JD b s p (cc ((bs s).drop p)) w isDg (sz ((bs s).drop p)+skip isDg (nx ((bs s).drop p))) 2) ?_ ?_
 ·go_wp2_with fail
  go_quiet (fail)
  go_wp2_with (first|(go_at_call 106;refine (pass_any b s p _ (h.drewN _)).mono ?_;rintro e w1 ⟨rfl,r1,k1⟩)|(go_at_call 107;refine (isSpace_any _ _).mono ?_;rintro e w' ⟨rfl,rfl⟩)|(go_at_call 108;refine (isLetter_any _ _).mono ?_;rintro e w' ⟨rfl,rfl⟩)|(go_at_call 109;refine (isDigit_any _ _).mono ?_;rintro e w' ⟨rfl,rfl⟩))
  go_step3
  have:=HZ.out
  exact ⟨s.size - (p+sz ((bs s).drop p)),p+sz ((bs s).drop p),_,_,_,_,_,_,_,_,_,_,_,_,_,_,_,_,_,_,_,_,_,_,_,_,_,_,rfl,r1,(On.drewN b w nq).to k1,by omega,by rw [nx_drop];omega,rfl,rfl⟩
 ·rintro l n a' w' ⟨q,u5,u6,u7,u8,u9,u10,u11,u12,u13,u14,u15,u16,u17,u18,u19,u20,u21,u22,u23,u97,u98,u99,u100,u101,u102,u103,rfl,hr,hk,hpq,hT,rfl,rfl⟩
  refine ⟨_,rfl,?_⟩
  have hq:=hr.le
  clear c0 c1 c2 c3 f0 f1 f2 f3
  obtain ⟨⟨c0,c1,c2,c3⟩,f0,f1,f2,f3⟩:=hr.raw.facts
  have HP2:=hide (pass_any b s q w' hr)
  have HH:=hide (And.intro hr (And.intro hk hT))
  clear hr hk hT
  cases hx:isDg (cc ((bs s).drop q))
  ·have HN:=hide (skip_no (p:=isDg) hx)
   have hT2:=(HH.out).2.2
   rw [HN.out] at hT2
   by_cases h18:(18:Int)<(q:Int) - (p:Int)
   ·go_wp2_with (first|(go_at_call 106;refine (HP2.out).mono ?_;rintro e w1 ⟨rfl,r1,k1⟩)|(go_at_call 107;refine (isSpace_any _ _).mono ?_;rintro e w' ⟨rfl,rfl⟩)|(go_at_call 108;refine (isLetter_any _ _).mono ?_;rintro e w' ⟨rfl,rfl⟩)|(go_at_call 109;refine (isDigit_any _ _).mono ?_;rintro e w' ⟨rfl,rfl⟩))
    simp only [Jumps]
    go_ret
    obtain ⟨hr,hk,hT⟩:=HH.out
    refine ⟨reti (a:=8) (by rw [if_pos (by omega)];rfl),?_,hk⟩
    rw [hT2];exact hr
   ·go_wp2_with (first|(go_at_call 106;refine (HP2.out).mono ?_;rintro e w1 ⟨rfl,r1,k1⟩)|(go_at_call 107;refine (isSpace_any _ _).mono ?_;rintro e w' ⟨rfl,rfl⟩)|(go_at_call 108;refine (isLetter_any _ _).mono ?_;rintro e w' ⟨rfl,rfl⟩)|(go_at_call 109;refine (isDigit_any _ _).mono ?_;rintro e w' ⟨rfl,rfl⟩))
    simp only [Jumps]
    go_ret
    obtain ⟨hr,hk,hT⟩:=HH.out
    refine ⟨reti (a:=5) (by rw [if_neg (by omega)];rfl),?_,hk⟩
    rw [hT2];exact hr
  ·have HN:=hide (skip_yes (p:=isDg) (t:=(bs s).drop q) (ne_dg hx) hx)
   have HZ2:=hide (sz_pos (l:=(bs s).drop q) (ne_dg hx))
   go_wp2_with (first|(go_at_call 106;refine (HP2.out).mono ?_;rintro e w1 ⟨rfl,r1,k1⟩)|(go_at_call 107;refine (isSpace_any _ _).mono ?_;rintro e w' ⟨rfl,rfl⟩)|(go_at_call 108;refine (isLetter_any _ _).mono ?_;rintro e w' ⟨rfl,rfl⟩)|(go_at_call 109;refine (isDigit_any _ _).mono ?_;rintro e w' ⟨rfl,rfl⟩))
   go_step3
   obtain ⟨hr,hk,hT⟩:=HH.out
   rw [HN.out,nx_drop (bs s) q] at hT
   have:=HZ2.out
   have hz:=r1.le
   exact ⟨s.size - (q+sz ((bs s).drop q)),by omega,q+sz ((bs s).drop q),_,_,_,_,_,_,_,_,_,_,_,_,_,_,_,_,_,_,_,_,_,_,_,_,_,_,rfl,r1,hk.to k1,by omega,by omega,rfl,rfl⟩
end Go.Proofs.YtbmebfgapjhchaaGreatDoor
/- What kind of token begins where a reader is: remarks up to the end of a line. -/
namespace Go.Proofs.YtbmebfgapjhchaaGreatDoor
open Go.RowKit
open M
def JL (b:Nat) (s:ByteArray) (p:Nat) (c0:Int) (w:World) (P:Int→Bool) (T L:Nat) (l n:Nat) (a':Act) (w':World):Prop :=
 ∃ (q:Nat) (u5 u6 u7 u8 u9 u10 u11 u12 u13 u14 u15 u16 u17 u18 u19 u20 u21 u22 u23 u24 u25 u26 u29 u30 u31 u32 u33 u34 u35 u36 u37 u38 u43 u44 u45 u46 u47 u48 u49 u50 u51 u52 u111 u112 u113 u114 u115 u116 u117 u118 u119 u120 u121 u122 u123 u124:Value),a'={ tmps:=#[.pointer (some ⟨b,0,none⟩),undef,.int .i64 0,.int .i64 (p:Int),.int .i32 c0,u5,u6,u7,u8,u9,u10,u11,u12,u13,u14,u15,u16,u17,u18,u19,u20,u21,u22,u23,u24,u25,u26,undef,undef,u29,u30,u31,u32,u33,u34,u35,u36,u37,u38,undef,undef,undef,undef,u43,u44,u45,u46,u47,u48,u49,u50,u51,u52,undef,undef,undef,undef,undef,undef,undef,undef,undef,undef,undef,undef,undef,undef,undef,undef,undef,undef,undef,undef,undef,undef,undef,undef,undef,undef,undef,undef,undef,undef,undef,undef,undef,undef,undef,undef,undef,undef,undef,undef,undef,undef,undef,undef,undef,undef,undef,undef,undef,undef,undef,undef,undef,undef,undef,undef,undef,undef,u111,u112,u113,u114,u115,u116,u117,u118,u119,u120,u121,u122,u123,u124],defers:=[] }∧Rdr w' b s q∧On b w w'∧p≤q∧p+T=q+skip P ((bs s).drop q)∧l=L∧n=s.size - q
set_option maxHeartbeats 4000000 in
theorem kind_line (b:Nat) (s:ByteArray) (p:Nat) (w:World) (h:Rdr w b s p) (hp:p<s.size) (hc:cc ((bs s).drop p)=45) (hc1:cc ((bs s).drop (p+1))=45) :
  Calls Tryz.prog 84 #[.pointer (some ⟨b,0,none⟩)] w fun e w'=>e=.returned (.int .i64 2)∧Rdr w' b s (p+(1+skip isLn ((bs s).drop (p+1))))∧On b w w':=by
 obtain ⟨⟨c0,c1,c2,c3⟩,f0,f1,f2,f3⟩:=h.raw.facts
 have hs:=h.big
 have z1:sz ((bs s).drop p)=1:=sz_cc (by omega) (by omega)
 have eN:nx ((bs s).drop p)=(bs s).drop (p+1):=by rw [nx_drop,z1]
 have HP:=hide (fun w2 (h':Rdr w2 b s p)=>pass_any b s p w2 h')
 rw [z1] at HP
 have EN:=hide eN
 have Z1:=hide z1
 have hsp:isSp (cc ((bs s).drop p))=false:=by rw [hc];decide
 have hlt:isLt (cc ((bs s).drop p))=false:=by rw [hc];decide
 have hdg:isDg (cc ((bs s).drop p))=false:=by rw [hc];decide
 rw [hc] at hsp hlt hdg c2
 clear z1 eN
 go_enter Tryz.func84,Tryz.ntmps84
 go_wp2_with fail
 refine wp_scope_many (JL b s p 45 w isLn (1+skip isLn ((bs s).drop (p+1))) 3) ?_ ?_
 ·go_wp2_with fail
  go_quiet (fail)
  go_wp2_with (first|(go_at_call 106;refine (HP.out _ (h.drewN _)).mono ?_;rintro e w1 ⟨rfl,r1,k1⟩;obtain ⟨⟨d0,d1,d2,d3⟩,-⟩:=r1.raw.facts;rw [hc1] at d2)|(go_at_call 107;refine (isSpace_any _ _).mono ?_;rintro e w' ⟨rfl,rfl⟩)|(go_at_call 108;refine (isLetter_any _ _).mono ?_;rintro e w' ⟨rfl,rfl⟩)|(go_at_call 109;refine (isDigit_any _ _).mono ?_;rintro e w' ⟨rfl,rfl⟩))
  go_step3
  exact ⟨s.size - (p+1),p+1,_,_,_,_,_,_,_,_,_,_,_,_,_,_,_,_,_,_,_,_,_,_,_,_,_,_,_,_,_,_,_,_,_,_,_,_,_,_,_,_,_,_,_,_,_,_,_,_,_,_,_,_,_,_,_,_,rfl,r1,(On.drewN b w nq).to k1,by omega,by omega,rfl,rfl⟩
 ·rintro l n a' w' ⟨q,u5,u6,u7,u8,u9,u10,u11,u12,u13,u14,u15,u16,u17,u18,u19,u20,u21,u22,u23,u24,u25,u26,u29,u30,u31,u32,u33,u34,u35,u36,u37,u38,u43,u44,u45,u46,u47,u48,u49,u50,u51,u52,u111,u112,u113,u114,u115,u116,u117,u118,u119,u120,u121,u122,u123,u124,rfl,hr,hk,hpq,hT,rfl,rfl⟩
  refine ⟨_,rfl,?_⟩
  have hq:=hr.le
  clear c0 c1 c2 c3 f0 f1 f2 f3
  obtain ⟨⟨c0,c1,c2,c3⟩,f0,f1,f2,f3⟩:=hr.raw.facts
  have HP2:=hide (pass_any b s q w' hr)
  have HH:=hide (And.intro hr (And.intro hk hT))
  clear hr hk hT
  by_cases g1:cc ((bs s).drop q)=10
  ·have HN:=hide (skip_no (p:=isLn) (t:=(bs s).drop q) (by rw [g1];rfl))
   rw [g1] at c2
   go_wp2_with (first|(go_at_call 106;refine (HP2.out).mono ?_;rintro e w1 ⟨rfl,r1,k1⟩)|(go_at_call 107;refine (isSpace_any _ _).mono ?_;rintro e w' ⟨rfl,rfl⟩)|(go_at_call 108;refine (isLetter_any _ _).mono ?_;rintro e w' ⟨rfl,rfl⟩)|(go_at_call 109;refine (isDigit_any _ _).mono ?_;rintro e w' ⟨rfl,rfl⟩))
   simp only [Jumps]
   go_ret
   obtain ⟨hr,hk,hT⟩:=HH.out
   rw [HN.out] at hT
   refine ⟨rfl,?_,hk⟩
   rw [hT];exact hr
  by_cases g2:cc ((bs s).drop q)=-1
  ·have HN:=hide (skip_nil isLn)
   have HE:=hide (cc_ne.1 g2)
   rw [g2] at c2
   clear g1 g2
   go_wp2_with (first|(go_at_call 106;refine (HP2.out).mono ?_;rintro e w1 ⟨rfl,r1,k1⟩)|(go_at_call 107;refine (isSpace_any _ _).mono ?_;rintro e w' ⟨rfl,rfl⟩)|(go_at_call 108;refine (isLetter_any _ _).mono ?_;rintro e w' ⟨rfl,rfl⟩)|(go_at_call 109;refine (isDigit_any _ _).mono ?_;rintro e w' ⟨rfl,rfl⟩))
   simp only [Jumps]
   go_ret
   obtain ⟨hr,hk,hT⟩:=HH.out
   rw [HE.out,HN.out] at hT
   refine ⟨rfl,?_,hk⟩
   rw [hT];exact hr
  have hx:isLn (cc ((bs s).drop q))=true:=by simp [isLn,g1]
  have hne:(bs s).drop q≠[]:=fun e=>g2 (cc_ne.2 e)
  have b1:(cc ((bs s).drop q) !=10)=true:=by simpa using g1
  have b2:(cc ((bs s).drop q) !=-1)=true:=by simpa using g2
  clear g1 g2
  have HN:=hide (skip_yes (p:=isLn) (t:=(bs s).drop q) hne hx)
  have HZ2:=hide (sz_pos (l:=(bs s).drop q) hne)
  go_wp2_with (first|(go_at_call 106;refine (HP2.out).mono ?_;rintro e w1 ⟨rfl,r1,k1⟩)|(go_at_call 107;refine (isSpace_any _ _).mono ?_;rintro e w' ⟨rfl,rfl⟩)|(go_at_call 108;refine (isLetter_any _ _).mono ?_;rintro e w' ⟨rfl,rfl⟩)|(go_at_call 109;refine (isDigit_any _ _).mono ?_;rintro e w' ⟨rfl,rfl⟩))
  go_step3
  obtain ⟨hr,hk,hT⟩:=HH.out
  rw [HN.out,nx_drop (bs s) q] at hT
  have:=HZ2.out
  have hz:=r1.le
  exact ⟨s.size - (q+sz ((bs s).drop q)),by omega,q+sz ((bs s).drop q),_,_,_,_,_,_,_,_,_,_,_,_,_,_,_,_,_,_,_,_,_,_,_,_,_,_,_,_,_,_,_,_,_,_,_,_,_,_,_,_,_,_,_,_,_,_,_,_,_,_,_,_,_,_,_,_,rfl,r1,hk.to k1,by omega,by omega,rfl,rfl⟩
end Go.Proofs.YtbmebfgapjhchaaGreatDoor
/- What kind of token begins where a reader is: names and words. -/
namespace Go.Proofs.YtbmebfgapjhchaaGreatDoor
open Go.RowKit
open M
def JM (b:Nat) (s:ByteArray) (p:Nat) (c0:Int) (w:World) (P:Int→Bool) (T L:Nat) (l n:Nat) (a':Act) (w':World):Prop :=
 ∃ (q:Nat) (u5 u6 u7 u8 u9 u10 u11 u12 u13 u14 u15 u16 u17 u18 u19 u20 u72 u73 u74 u75 u76 u77 u78 u79 u80 u81 u82 u83 u84 u85:Value),a'={ tmps:=#[.pointer (some ⟨b,0,none⟩),undef,.int .i64 0,.int .i64 (p:Int),.int .i32 c0,u5,u6,u7,u8,u9,u10,u11,u12,u13,u14,u15,u16,u17,u18,u19,u20,undef,undef,undef,undef,undef,undef,undef,undef,undef,undef,undef,undef,undef,undef,undef,undef,undef,undef,undef,undef,undef,undef,undef,undef,undef,undef,undef,undef,undef,undef,undef,undef,undef,undef,undef,undef,undef,undef,undef,undef,undef,undef,undef,undef,undef,undef,undef,undef,undef,undef,undef,u72,u73,u74,u75,u76,u77,u78,u79,u80,u81,u82,u83,u84,u85,undef,undef,undef,undef,undef,undef,undef,undef,undef,undef,undef,undef,undef,undef,undef,undef,undef,undef,undef,undef,undef,undef,undef,undef,undef,undef,undef,undef,undef,undef,undef,undef,undef,undef,undef,undef,undef,undef,undef],defers:=[] }∧Rdr w' b s q∧On b w w'∧p≤q∧p+T=q+skip P ((bs s).drop q)∧l=L∧n=s.size - q
set_option maxHeartbeats 4000000 in
theorem kind_name (b:Nat) (s:ByteArray) (p:Nat) (w:World) (h:Rdr w b s p) (hp:p<s.size) (h1:isSp (cc ((bs s).drop p))=false) (hc:isLt (cc ((bs s).drop p))=true) :
  Calls Tryz.prog 84 #[.pointer (some ⟨b,0,none⟩)] w fun e w'=>e=.returned (.int .i64 (if wordB (((bs s).drop p).take (sz ((bs s).drop p)+skip isNm (nx ((bs s).drop p)))) then 4 else 3:Nat))∧Rdr w' b s (p+(sz ((bs s).drop p)+skip isNm (nx ((bs s).drop p))))∧On b w w':=by
 obtain ⟨⟨c0,c1,c2,c3⟩,f0,f1,f2,f3⟩:=h.raw.facts
 have hs:=h.big
 have HZ:=hide (sz_pos (drop_ne hp))
 go_enter Tryz.func84,Tryz.ntmps84
 go_wp2_with fail
 refine wp_scope_many (JM b s p (cc ((bs s).drop p)) w isNm (sz ((bs s).drop p)+skip isNm (nx ((bs s).drop p))) 1) ?_ ?_
 ·go_wp2_with fail
  go_quiet (fail)
  go_wp2_with (first|(go_at_call 106;refine (pass_any b s p _ (h.drewN _)).mono ?_;rintro e w1 ⟨rfl,r1,k1⟩)|(go_at_call 107;refine (isSpace_any _ _).mono ?_;rintro e w' ⟨rfl,rfl⟩)|(go_at_call 108;refine (isLetter_any _ _).mono ?_;rintro e w' ⟨rfl,rfl⟩)|(go_at_call 109;refine (isDigit_any _ _).mono ?_;rintro e w' ⟨rfl,rfl⟩))
  go_step3
  have:=HZ.out
  exact ⟨s.size - (p+sz ((bs s).drop p)),p+sz ((bs s).drop p),_,_,_,_,_,_,_,_,_,_,_,_,_,_,_,_,_,_,_,_,_,_,_,_,_,_,_,_,_,_,rfl,r1,(On.drewN b w nq).to k1,by omega,by rw [nx_drop];omega,rfl,rfl⟩
 ·rintro l n a' w' ⟨q,u5,u6,u7,u8,u9,u10,u11,u12,u13,u14,u15,u16,u17,u18,u19,u20,u72,u73,u74,u75,u76,u77,u78,u79,u80,u81,u82,u83,u84,u85,rfl,hr,hk,hpq,hT,rfl,rfl⟩
  refine ⟨_,rfl,?_⟩
  have hq:=hr.le
  clear c0 c1 c2 c3 f0 f1 f2 f3
  obtain ⟨⟨c0,c1,c2,c3⟩,f0,f1,f2,f3⟩:=hr.raw.facts
  have HP2:=hide (pass_any b s q w' hr)
  have HH:=hide (And.intro hr (And.intro hk hT))
  clear hr hk hT
  have hnm:isNm (cc ((bs s).drop q))=(isLt (cc ((bs s).drop q))||isDg (cc ((bs s).drop q))):=rfl
  cases hl:isLt (cc ((bs s).drop q))
  ·cases hd:isDg (cc ((bs s).drop q))
   ·have hx:isNm (cc ((bs s).drop q))=false:=by rw [hnm,hl,hd];rfl
    have HN:=hide (skip_no (p:=isNm) hx)
    have hT2:=(HH.out).2.2
    rw [HN.out] at hT2
    have hw:wordB (((bs s).drop p).take (sz ((bs s).drop p)+skip isNm (nx ((bs s).drop p))))=wordB (bs (s.extract p q)):=by
     rw [bs_cut,List.drop_take,show q - p=sz ((bs s).drop p)+skip isNm (nx ((bs s).drop p)) by omega]
    have HW:=hide hw
    clear hw hnm hx
    have HT2:=hide hT2
    clear hT2
    cases hwd:wordB (bs (s.extract p q))
    ·have HV:=hide hwd
     go_wp2_with (first|(go_at_call 106;refine (HP2.out).mono ?_;rintro e w1 ⟨rfl,r1,k1⟩)|(go_at_call 107;refine (isSpace_any _ _).mono ?_;rintro e w' ⟨rfl,rfl⟩)|(go_at_call 108;refine (isLetter_any _ _).mono ?_;rintro e w' ⟨rfl,rfl⟩)|(go_at_call 109;refine (isDigit_any _ _).mono ?_;rintro e w' ⟨rfl,rfl⟩))
     go_quiet ((go_at_call 114;exact Calls.quiet_of_same (word_any _ _)))
     simp only [hwd]
     go_wp2_with fail
     simp only [Jumps]
     go_ret
     obtain ⟨hr,hk,hT⟩:=HH.out
     refine ⟨reti (a:=3) (by rw [HW.out,HV.out];rfl),?_,hk.to (On.drewN b _ nq)⟩
     rw [HT2.out];exact hr.drewN _
    ·have HV:=hide hwd
     go_wp2_with (first|(go_at_call 106;refine (HP2.out).mono ?_;rintro e w1 ⟨rfl,r1,k1⟩)|(go_at_call 107;refine (isSpace_any _ _).mono ?_;rintro e w' ⟨rfl,rfl⟩)|(go_at_call 108;refine (isLetter_any _ _).mono ?_;rintro e w' ⟨rfl,rfl⟩)|(go_at_call 109;refine (isDigit_any _ _).mono ?_;rintro e w' ⟨rfl,rfl⟩))
     go_quiet ((go_at_call 114;exact Calls.quiet_of_same (word_any _ _)))
     simp only [hwd]
     go_wp2_with fail
     simp only [Jumps]
     go_ret
     obtain ⟨hr,hk,hT⟩:=HH.out
     refine ⟨reti (a:=4) (by rw [HW.out,HV.out];rfl),?_,hk.to (On.drewN b _ nq)⟩
     rw [HT2.out];exact hr.drewN _
   ·have hx:isNm (cc ((bs s).drop q))=true:=by rw [hnm,hl,hd];rfl
    clear hnm
    have HN:=hide (skip_yes (p:=isNm) (t:=(bs s).drop q) (ne_nm hx) hx)
    have HZ2:=hide (sz_pos (l:=(bs s).drop q) (ne_nm hx))
    go_wp2_with (first|(go_at_call 106;refine (HP2.out).mono ?_;rintro e w1 ⟨rfl,r1,k1⟩)|(go_at_call 107;refine (isSpace_any _ _).mono ?_;rintro e w' ⟨rfl,rfl⟩)|(go_at_call 108;refine (isLetter_any _ _).mono ?_;rintro e w' ⟨rfl,rfl⟩)|(go_at_call 109;refine (isDigit_any _ _).mono ?_;rintro e w' ⟨rfl,rfl⟩))
    go_step3
    obtain ⟨hr,hk,hT⟩:=HH.out
    rw [HN.out,nx_drop (bs s) q] at hT
    have:=HZ2.out
    have hz:=r1.le
    exact ⟨s.size - (q+sz ((bs s).drop q)),by omega,q+sz ((bs s).drop q),_,_,_,_,_,_,_,_,_,_,_,_,_,_,_,_,_,_,_,_,_,_,_,_,_,_,_,_,_,_,rfl,r1,hk.to k1,by omega,by omega,rfl,rfl⟩
  ·have hx:isNm (cc ((bs s).drop q))=true:=by rw [hnm,hl];rfl
   clear hnm
   have HN:=hide (skip_yes (p:=isNm) (t:=(bs s).drop q) (ne_nm hx) hx)
   have HZ2:=hide (sz_pos (l:=(bs s).drop q) (ne_nm hx))
   go_wp2_with (first|(go_at_call 106;refine (HP2.out).mono ?_;rintro e w1 ⟨rfl,r1,k1⟩)|(go_at_call 107;refine (isSpace_any _ _).mono ?_;rintro e w' ⟨rfl,rfl⟩)|(go_at_call 108;refine (isLetter_any _ _).mono ?_;rintro e w' ⟨rfl,rfl⟩)|(go_at_call 109;refine (isDigit_any _ _).mono ?_;rintro e w' ⟨rfl,rfl⟩))
   go_step3
   obtain ⟨hr,hk,hT⟩:=HH.out
   rw [HN.out,nx_drop (bs s) q] at hT
   have:=HZ2.out
   have hz:=r1.le
   exact ⟨s.size - (q+sz ((bs s).drop q)),by omega,q+sz ((bs s).drop q),_,_,_,_,_,_,_,_,_,_,_,_,_,_,_,_,_,_,_,_,_,_,_,_,_,_,_,_,_,_,rfl,r1,hk.to k1,by omega,by omega,rfl,rfl⟩
end Go.Proofs.YtbmebfgapjhchaaGreatDoor
/- What kind of token begins where a reader is: the others. -/
namespace Go.Proofs.YtbmebfgapjhchaaGreatDoor
open Go.RowKit
open M
theorem Rdr.below {w w':World} {b:Nat} {s:ByteArray} {p:Nat} (h:Rdr w b s p) (hb:Below w.heap.size w w'):Rdr w' b s p:=⟨h.raw.below hb,h.tabs.below hb,h.old,h.le,h.big⟩
set_option maxHeartbeats 4000000 in
theorem kind_quote (b:Nat) (s:ByteArray) (p:Nat) (w:World) (h:Rdr w b s p) (hc:cc ((bs s).drop p)=34) :
  Calls Tryz.prog 84 #[.pointer (some ⟨b,0,none⟩)] w fun e w'=>e=.returned (.int .i64 (quo 6 (nx ((bs s).drop p))).1)∧Rdr w' b s (p+(1+(quo 6 (nx ((bs s).drop p))).2))∧On b w w':=by
 obtain ⟨⟨c0,c1,c2,c3⟩,f0,f1,f2,f3⟩:=h.raw.facts
 have hs:=h.big
 have z1:sz ((bs s).drop p)=1:=sz_cc (by omega) (by omega)
 rw [nx_drop,z1]
 have Z1:=hide z1
 have hsp:isSp 34=false:=by decide
 have hlt:isLt 34=false:=by decide
 have hdg:isDg 34=false:=by decide
 rw [hc] at c2
 clear z1
 go_enter Tryz.func84,Tryz.ntmps84
 go_wp2_with fail
 go_step3
 go_wp2_with fail
 go_quiet (fail)
 go_wp2_with (first|(go_at_call 106;refine (pass_any b s p _ (h.drewN _)).mono ?_;rintro e w1 ⟨rfl,r1,k1⟩;obtain ⟨⟨d0,d1,d2,d3⟩,-⟩:=r1.raw.facts;rw [Z1.out] at r1)|(go_at_call 107;refine (isSpace_any _ _).mono ?_;rintro e w' ⟨rfl,rfl⟩)|(go_at_call 108;refine (isLetter_any _ _).mono ?_;rintro e w' ⟨rfl,rfl⟩)|(go_at_call 109;refine (isDigit_any _ _).mono ?_;rintro e w' ⟨rfl,rfl⟩)|(go_at_call 112;refine (isPair_any _ _ _).mono ?_;rintro e w' ⟨rfl,rfl⟩)|(go_at_call 110;refine (quoted_any b s (p+1) _ r1).mono ?_;rintro e w2 ⟨rfl,r2,k2⟩))
 rw [Exit.noGoto_ret]
 go_ret
 exact ⟨rfl,by rw [← Nat.add_assoc];exact r2,((On.drewN b w nq).to k1).to k2⟩
set_option maxHeartbeats 4000000 in
theorem kind_nest (b:Nat) (s:ByteArray) (p:Nat) (w:World) (h:Rdr w b s p) (hc:cc ((bs s).drop p)=123) (hc1:cc ((bs s).drop (p+1))=45) :
  Calls Tryz.prog 84 #[.pointer (some ⟨b,0,none⟩)] w fun e w'=>e=.returned (.int .i64 (nest 1 ((bs s).drop (p+2))).1)∧Rdr w' b s (p+(2+(nest 1 ((bs s).drop (p+2))).2))∧On b w w':=by
 obtain ⟨⟨c0,c1,c2,c3⟩,f0,f1,f2,f3⟩:=h.raw.facts
 have hs:=h.big
 have z1:sz ((bs s).drop p)=1:=sz_cc (by omega) (by omega)
 have z2:sz ((bs s).drop (p+1))=1:=sz_cc (by omega) (by omega)
 have HP:=hide (fun w2 (h':Rdr w2 b s p)=>pass_any b s p w2 h')
 have HP1:=hide (fun w2 (h':Rdr w2 b s (p+1))=>pass_any b s (p+1) w2 h')
 rw [z1] at HP
 rw [z2] at HP1
 have HC1:=hide hc1
 have hsp:isSp 123=false:=by decide
 have hlt:isLt 123=false:=by decide
 have hdg:isDg 123=false:=by decide
 rw [hc] at c2
 clear z1 z2 hc1
 go_enter Tryz.func84,Tryz.ntmps84
 go_wp2_with fail
 go_step3
 go_wp2_with fail
 go_quiet (fail)
 go_wp2_with fail
 refine ((HP.out) _ (h.drewN _)).mono ?_
 rintro e w1 ⟨rfl,r1,k1⟩
 obtain ⟨⟨d0,d1,d2,d3⟩,-⟩:=r1.raw.facts
 rw [HC1.out] at d2
 go_wp2_with (first|(go_at_call 107;refine (isSpace_any _ _).mono ?_;rintro e w' ⟨rfl,rfl⟩)|(go_at_call 108;refine (isLetter_any _ _).mono ?_;rintro e w' ⟨rfl,rfl⟩)|(go_at_call 109;refine (isDigit_any _ _).mono ?_;rintro e w' ⟨rfl,rfl⟩)|(go_at_call 112;refine (isPair_any _ _ _).mono ?_;rintro e w' ⟨rfl,rfl⟩)|(go_at_call 106;refine ((HP1.out) _ r1).mono ?_;rintro e w2 ⟨rfl,r2,k2⟩)|(go_at_call 111;refine (nested_any b s (p+2) _ r2).mono ?_;rintro e w3 ⟨rfl,r3,k3⟩))
 rw [Exit.noGoto_ret]
 go_ret
 exact ⟨rfl,by rw [← Nat.add_assoc];exact r3,(((On.drewN b w nq).to k1).to k2).to k3⟩
set_option maxHeartbeats 4000000 in
theorem kind_pair (b:Nat) (s:ByteArray) (p:Nat) (w:World) (h:Rdr w b s p) (hpr:isPr (cc ((bs s).drop p)) (cc ((bs s).drop (p+1)))=true) (hc:cc ((bs s).drop p)=61∨cc ((bs s).drop p)=43) :
  Calls Tryz.prog 84 #[.pointer (some ⟨b,0,none⟩)] w fun e w'=>e=.returned (.int .i64 7)∧Rdr w' b s (p+2)∧On b w w':=by
 obtain ⟨⟨c0,c1,c2,c3⟩,f0,f1,f2,f3⟩:=h.raw.facts
 have hs:=h.big
 have z1:sz ((bs s).drop p)=1:=sz_cc (by omega) (by omega)
 have z2:sz ((bs s).drop (p+1))=1:=by
  unfold isPr at hpr;simp only [decide_eq_true_eq] at hpr
  exact sz_cc (by omega) (by omega)
 have HP:=hide (fun w2 (h':Rdr w2 b s p)=>pass_any b s p w2 h')
 have HP1:=hide (fun w2 (h':Rdr w2 b s (p+1))=>pass_any b s (p+1) w2 h')
 rw [z1] at HP
 rw [z2] at HP1
 clear z1 z2
 rcases hc with hc|hc
 ·rw [hc] at c2 hpr
  have hsp:isSp 61=false:=by decide
  have hlt:isLt 61=false:=by decide
  have hdg:isDg 61=false:=by decide
  go_enter Tryz.func84,Tryz.ntmps84
  go_wp2_with fail
  go_step3
  go_wp2_with fail
  go_quiet (fail)
  go_wp2_with fail
  refine ((HP.out) _ (h.drewN _)).mono ?_
  rintro e w1 ⟨rfl,r1,k1⟩
  obtain ⟨⟨d0,d1,d2,d3⟩,-⟩:=r1.raw.facts
  go_wp2_with (first|(go_at_call 107;refine (isSpace_any _ _).mono ?_;rintro e w' ⟨rfl,rfl⟩)|(go_at_call 108;refine (isLetter_any _ _).mono ?_;rintro e w' ⟨rfl,rfl⟩)|(go_at_call 109;refine (isDigit_any _ _).mono ?_;rintro e w' ⟨rfl,rfl⟩)|(go_at_call 112;refine (isPair_any _ _ _).mono ?_;rintro e w' ⟨rfl,rfl⟩)|(go_at_call 106;refine ((HP1.out) _ r1).mono ?_;rintro e w2 ⟨rfl,r2,k2⟩))
  rw [Exit.noGoto_ret]
  go_ret
  exact ⟨rfl,r2,((On.drewN b w nq).to k1).to k2⟩
 ·rw [hc] at c2 hpr
  have hsp:isSp 43=false:=by decide
  have hlt:isLt 43=false:=by decide
  have hdg:isDg 43=false:=by decide
  go_enter Tryz.func84,Tryz.ntmps84
  go_wp2_with fail
  go_step3
  go_wp2_with fail
  go_quiet (fail)
  go_wp2_with fail
  refine ((HP.out) _ (h.drewN _)).mono ?_
  rintro e w1 ⟨rfl,r1,k1⟩
  obtain ⟨⟨d0,d1,d2,d3⟩,-⟩:=r1.raw.facts
  go_wp2_with (first|(go_at_call 107;refine (isSpace_any _ _).mono ?_;rintro e w' ⟨rfl,rfl⟩)|(go_at_call 108;refine (isLetter_any _ _).mono ?_;rintro e w' ⟨rfl,rfl⟩)|(go_at_call 109;refine (isDigit_any _ _).mono ?_;rintro e w' ⟨rfl,rfl⟩)|(go_at_call 112;refine (isPair_any _ _ _).mono ?_;rintro e w' ⟨rfl,rfl⟩)|(go_at_call 106;refine ((HP1.out) _ r1).mono ?_;rintro e w2 ⟨rfl,r2,k2⟩))
  rw [Exit.noGoto_ret]
  go_ret
  exact ⟨rfl,r2,((On.drewN b w nq).to k1).to k2⟩
set_option maxHeartbeats 4000000 in
theorem kind_short (b:Nat) (s:ByteArray) (p:Nat) (w:World) (h:Rdr w b s p) (hp:p<s.size) (hsp:isSp (cc ((bs s).drop p))=false) (hlt:isLt (cc ((bs s).drop p))=false) (hdg:isDg (cc ((bs s).drop p))=false)
  (hq:cc ((bs s).drop p)≠34) (h1:¬(cc ((bs s).drop p)=123∧cc (nx ((bs s).drop p))=45)) (h2:¬(cc ((bs s).drop p)=45∧cc (nx ((bs s).drop p))=45)) (hpr:isPr (cc ((bs s).drop p)) (cc (nx ((bs s).drop p)))=false) :
  Calls Tryz.prog 84 #[.pointer (some ⟨b,0,none⟩)] w fun e w'=>e=.returned (.int .i64 (if isSg (cc ((bs s).drop p)) then 7 else 8:Nat))∧Rdr w' b s (p+sz ((bs s).drop p))∧On b w w':=by
 obtain ⟨⟨c0,c1,c2,c3⟩,f0,f1,f2,f3⟩:=h.raw.facts
 have hs:=h.big
 have hpos:0≤cc ((bs s).drop p):=by rw [cc_some (drop_ne hp)];omega
 have bq:(cc ((bs s).drop p)==34)=false:=by simpa using hq
 rw [nx_drop] at h1 h2 hpr
 by_cases g1:cc ((bs s).drop p)=123
 ·have hn:(cc ((bs s).drop (p+sz ((bs s).drop p)))==45)=false:=by
   have:¬ cc ((bs s).drop (p+sz ((bs s).drop p)))=45:=fun e=>h1 ⟨g1,e⟩
   simpa using this
  have hsg:isSg 123=false:=by decide
  rw [g1] at c2 hsp hlt hdg bq hpr
  rw [g1,hsg]
  clear h1 h2 hq
  go_enter Tryz.func84,Tryz.ntmps84
  go_wp2_with fail
  go_step3
  go_wp2_with fail
  go_quiet (fail)
  go_wp2_with (first|(go_at_call 106;refine (pass_any b s p _ (h.drewN _)).mono ?_;rintro e w1 ⟨rfl,r1,k1⟩;obtain ⟨⟨d0,d1,d2,d3⟩,-⟩:=r1.raw.facts)|(go_at_call 107;refine (isSpace_any _ _).mono ?_;rintro e w' ⟨rfl,rfl⟩)|(go_at_call 108;refine (isLetter_any _ _).mono ?_;rintro e w' ⟨rfl,rfl⟩)|(go_at_call 109;refine (isDigit_any _ _).mono ?_;rintro e w' ⟨rfl,rfl⟩)|(go_at_call 112;refine (isPair_any _ _ _).mono ?_;rintro e w' ⟨rfl,rfl⟩)|(go_at_call 113;refine (contains_any _ _ (by omega)).mono ?_;rintro e w2 ⟨rfl,k2⟩))
  rw [Exit.noGoto_ret]
  go_ret
  exact ⟨rfl,r1.below k2,((On.drewN b w nq).to k1).to (On.ofBelow b k2)⟩
 by_cases g2:cc ((bs s).drop p)=45
 ·have hn:(cc ((bs s).drop (p+sz ((bs s).drop p)))==45)=false:=by
   have:¬ cc ((bs s).drop (p+sz ((bs s).drop p)))=45:=fun e=>h2 ⟨g2,e⟩
   simpa using this
  have hsg:isSg 45=true:=by decide
  rw [g2] at c2 hsp hlt hdg bq hpr
  rw [g2,hsg]
  clear h1 h2 hq g1
  go_enter Tryz.func84,Tryz.ntmps84
  go_wp2_with fail
  go_step3
  go_wp2_with fail
  go_quiet (fail)
  go_wp2_with (first|(go_at_call 106;refine (pass_any b s p _ (h.drewN _)).mono ?_;rintro e w1 ⟨rfl,r1,k1⟩;obtain ⟨⟨d0,d1,d2,d3⟩,-⟩:=r1.raw.facts)|(go_at_call 107;refine (isSpace_any _ _).mono ?_;rintro e w' ⟨rfl,rfl⟩)|(go_at_call 108;refine (isLetter_any _ _).mono ?_;rintro e w' ⟨rfl,rfl⟩)|(go_at_call 109;refine (isDigit_any _ _).mono ?_;rintro e w' ⟨rfl,rfl⟩)|(go_at_call 112;refine (isPair_any _ _ _).mono ?_;rintro e w' ⟨rfl,rfl⟩)|(go_at_call 113;refine (contains_any _ _ (by omega)).mono ?_;rintro e w2 ⟨rfl,k2⟩))
  rw [Exit.noGoto_ret]
  go_ret
  exact ⟨rfl,r1.below k2,((On.drewN b w nq).to k1).to (On.ofBelow b k2)⟩
 ·have b1:(cc ((bs s).drop p)==123)=false:=by simpa using g1
  have b2:(cc ((bs s).drop p)==45)=false:=by simpa using g2
  clear h1 h2 hq g1 g2
  cases hsg:isSg (cc ((bs s).drop p))
  ·go_enter Tryz.func84,Tryz.ntmps84
   go_wp2_with fail
   go_step3
   go_wp2_with fail
   go_quiet (fail)
   go_wp2_with (first|(go_at_call 106;refine (pass_any b s p _ (h.drewN _)).mono ?_;rintro e w1 ⟨rfl,r1,k1⟩;obtain ⟨⟨d0,d1,d2,d3⟩,-⟩:=r1.raw.facts)|(go_at_call 107;refine (isSpace_any _ _).mono ?_;rintro e w' ⟨rfl,rfl⟩)|(go_at_call 108;refine (isLetter_any _ _).mono ?_;rintro e w' ⟨rfl,rfl⟩)|(go_at_call 109;refine (isDigit_any _ _).mono ?_;rintro e w' ⟨rfl,rfl⟩)|(go_at_call 112;refine (isPair_any _ _ _).mono ?_;rintro e w' ⟨rfl,rfl⟩)|(go_at_call 113;refine (contains_any _ _ (by omega)).mono ?_;rintro e w2 ⟨rfl,k2⟩))
   rw [Exit.noGoto_ret]
   go_ret
   exact ⟨rfl,r1.below k2,((On.drewN b w nq).to k1).to (On.ofBelow b k2)⟩
  ·go_enter Tryz.func84,Tryz.ntmps84
   go_wp2_with fail
   go_step3
   go_wp2_with fail
   go_quiet (fail)
   go_wp2_with (first|(go_at_call 106;refine (pass_any b s p _ (h.drewN _)).mono ?_;rintro e w1 ⟨rfl,r1,k1⟩;obtain ⟨⟨d0,d1,d2,d3⟩,-⟩:=r1.raw.facts)|(go_at_call 107;refine (isSpace_any _ _).mono ?_;rintro e w' ⟨rfl,rfl⟩)|(go_at_call 108;refine (isLetter_any _ _).mono ?_;rintro e w' ⟨rfl,rfl⟩)|(go_at_call 109;refine (isDigit_any _ _).mono ?_;rintro e w' ⟨rfl,rfl⟩)|(go_at_call 112;refine (isPair_any _ _ _).mono ?_;rintro e w' ⟨rfl,rfl⟩)|(go_at_call 113;refine (contains_any _ _ (by omega)).mono ?_;rintro e w2 ⟨rfl,k2⟩))
   rw [Exit.noGoto_ret]
   go_ret
   exact ⟨rfl,r1.below k2,((On.drewN b w nq).to k1).to (On.ofBelow b k2)⟩
end Go.Proofs.YtbmebfgapjhchaaGreatDoor
/- The token that begins where a reader is. -/
namespace Go.Proofs.YtbmebfgapjhchaaGreatDoor
open Go.RowKit
open M
theorem kind_any (b:Nat) (s:ByteArray) (p:Nat) (w:World) (h:Rdr w b s p) (hp:p<s.size) :
  Calls Tryz.prog 84 #[.pointer (some ⟨b,0,none⟩)] w fun e w'=>e=.returned (.int .i64 (tok ((bs s).drop p)).1)∧Rdr w' b s (p+(tok ((bs s).drop p)).2)∧On b w w':=by
 cases h1:isSp (cc ((bs s).drop p))
 case true =>
  rw [show tok ((bs s).drop p)=(1,sz ((bs s).drop p)+skip isSp (nx ((bs s).drop p))) by unfold tok;rw [h1];rfl]
  exact kind_space b s p w h hp h1
 cases h2:isLt (cc ((bs s).drop p))
 case true =>
  rw [show tok ((bs s).drop p)=(if wordB (((bs s).drop p).take (sz ((bs s).drop p)+skip isNm (nx ((bs s).drop p)))) then 4 else 3,sz ((bs s).drop p)+skip isNm (nx ((bs s).drop p))) by unfold tok;rw [h1,h2];rfl]
  exact kind_name b s p w h hp h1 h2
 cases h3:isDg (cc ((bs s).drop p))
 case true =>
  rw [show tok ((bs s).drop p)=(if 18<sz ((bs s).drop p)+skip isDg (nx ((bs s).drop p)) then 8 else 5,sz ((bs s).drop p)+skip isDg (nx ((bs s).drop p))) by unfold tok;rw [h1,h2,h3];rfl]
  exact kind_digit b s p w h hp h1 h2 h3
 by_cases h4:cc ((bs s).drop p)=34
 ·rw [show tok ((bs s).drop p)=((quo 6 (nx ((bs s).drop p))).1,1+(quo 6 (nx ((bs s).drop p))).2) by unfold tok;rw [h1,h2,h3,if_neg (by simp),if_neg (by simp),if_neg (by simp),if_pos h4]]
  exact kind_quote b s p w h h4
 by_cases h5:cc ((bs s).drop p)=123∧cc (nx ((bs s).drop p))=45
 ·have z1:sz ((bs s).drop p)=1:=sz_cc (by omega) (by omega)
  have e1:nx ((bs s).drop p)=(bs s).drop (p+1):=by rw [nx_drop,z1]
  have z2:sz ((bs s).drop (p+1))=1:=by rw [← e1];exact sz_cc (by omega) (by omega)
  have e2:nx (nx ((bs s).drop p))=(bs s).drop (p+2):=by rw [e1,nx_drop,z2]
  rw [show tok ((bs s).drop p)=((nest 1 ((bs s).drop (p+2))).1,2+(nest 1 ((bs s).drop (p+2))).2) by unfold tok;rw [h1,h2,h3,if_neg (by simp),if_neg (by simp),if_neg (by simp),if_neg h4,if_pos h5,e2]]
  exact kind_nest b s p w h h5.1 (by rw [← e1];exact h5.2)
 by_cases h6:cc ((bs s).drop p)=45∧cc (nx ((bs s).drop p))=45
 ·have z1:sz ((bs s).drop p)=1:=sz_cc (by omega) (by omega)
  have e1:nx ((bs s).drop p)=(bs s).drop (p+1):=by rw [nx_drop,z1]
  rw [show tok ((bs s).drop p)=(2,1+skip isLn ((bs s).drop (p+1))) by unfold tok;rw [h1,h2,h3,if_neg (by simp),if_neg (by simp),if_neg (by simp),if_neg h4,if_neg h5,if_pos h6,e1]]
  exact kind_line b s p w h hp h6.1 (by rw [← e1];exact h6.2)
 cases h7:isPr (cc ((bs s).drop p)) (cc (nx ((bs s).drop p)))
 case true =>
  have h8:cc ((bs s).drop p)=61∨cc ((bs s).drop p)=43:=by
   have:=h7;unfold isPr at this;simp only [decide_eq_true_eq] at this;omega
  have z1:sz ((bs s).drop p)=1:=sz_cc (by omega) (by omega)
  have e1:nx ((bs s).drop p)=(bs s).drop (p+1):=by rw [nx_drop,z1]
  rw [show tok ((bs s).drop p)=(7,2) by unfold tok;rw [h1,h2,h3,if_neg (by simp),if_neg (by simp),if_neg (by simp),if_neg h4,if_neg h5,if_neg h6,if_pos h7]]
  exact kind_pair b s p w h (by rw [← e1];exact h7) h8
 have key:=kind_short b s p w h hp h1 h2 h3 h4 h5 h6 h7
 have hpos:0≤cc ((bs s).drop p):=by rw [cc_some (drop_ne hp)];omega
 cases h8:isSg (cc ((bs s).drop p))
 case true =>
  have z1:sz ((bs s).drop p)=1:=by
   have:=h8;unfold isSg at this;simp only [decide_eq_true_eq,List.mem_cons,List.not_mem_nil,or_false] at this
   exact sz_cc (by omega) (by omega)
  rw [show tok ((bs s).drop p)=(7,1) by unfold tok;rw [h1,h2,h3,if_neg (by simp),if_neg (by simp),if_neg (by simp),if_neg h4,if_neg h5,if_neg h6,if_neg (by rw [h7];simp),if_pos h8]]
  rw [h8,z1] at key
  exact key
 case false =>
  rw [show tok ((bs s).drop p)=(8,sz ((bs s).drop p)) by unfold tok;rw [h1,h2,h3,if_neg (by simp),if_neg (by simp),if_neg (by simp),if_neg h4,if_neg h5,if_neg h6,if_neg (by rw [h7];simp),if_neg (by rw [h8];simp)]]
  rw [h8] at key
  exact key
theorem tok_drop_le {s:ByteArray} {p:Nat} (h:p<s.size):p+(tok ((bs s).drop p)).2≤s.size:=by
 have:=(tok_bounds (drop_ne h)).2.2.2;simp [bs_len] at this;omega
theorem Rdr.keep {S:Nat→Prop} {w w':World} {b:Nat} {s:ByteArray} {p:Nat} (h:Rdr w b s p) (hk:Kp S w w') (hn:¬ S b) (h7:∀ k,k<3→¬ S k):Rdr w' b s p:=⟨h.raw.keep hk hn,h.tabs.keep hk h7,h.old,h.le,h.big⟩
theorem On.newset {b:Nat} {a w:World} (h:On b a w) {n:Nat} (hn:a.heap.size≤n) (i:Nat) (v:Value):On b a (w.setCell ⟨n,i,none⟩ v):=Kp.setCell h (p:=⟨n,i,none⟩) (fun hl=>by have:n<a.heap.size:=hl;omega) v
def Blk3 (w:World) (b:Nat) (x0 x1 x2:Value):Prop:=w.heap[b]?=some (.cells #[x0,x1,x2] 99 (0,0))
theorem Blk3.new (w:World) (x0 x1 x2:Value):Blk3 (w.alloc (.cells #[x0,x1,x2] 99)) w.heap.size x0 x1 x2:=by
 show (w.heap.push _)[w.heap.size]?=_
 simp
theorem Blk3.facts {w:World} {b:Nat} {x0 x1 x2:Value} (h:Blk3 w b x0 x1 x2) :
  (w.cell? ⟨b,0,none⟩=some x0∧w.cell? ⟨b,1,none⟩=some x1∧w.cell? ⟨b,2,none⟩=some x2) ∧
  (w.frozen? ⟨b,0,none⟩=false∧w.frozen? ⟨b,1,none⟩=false∧w.frozen? ⟨b,2,none⟩=false):=by
 unfold Blk3 at h
 refine ⟨⟨?_,?_,?_⟩,?_,?_,?_⟩<;>simp [World.cell?,World.frozen?,h]
set_option maxHeartbeats 4000000 in
theorem token_any (b:Nat) (s:ByteArray) (p:Nat) (w:World) (h:Rdr w b s p) (hp:p<s.size) :
  Calls Tryz.prog 57 #[.pointer (some ⟨b,0,none⟩)] w fun e w'=>e=.returned (.agg #[.int .i64 (tok ((bs s).drop p)).1,.int .i64 p,.int .i64 (tok ((bs s).drop p)).2])∧Rdr w' b s (p+(tok ((bs s).drop p)).2)∧On b w w':=by
 have hs:=h.big
 have HT:=hide (tok_drop_le hp)
 have h':Rdr (w.alloc (.cells #[.int .i64 0,.int .i64 0,.int .i64 0] 99)) b s p:=h.below ((Below.refl _ _).alloc (Nat.le_refl _) _)
 have hbl:b<w.heap.size:=h.raw.lt
 obtain ⟨⟨c0,c1,c2,c3⟩,f0,f1,f2,f3⟩:=h.raw.facts
 go_enter Tryz.func57,Tryz.ntmps57
 go_wp2_with fail
 refine (kind_any b s p _ h' hp).mono ?_
 rintro e w1 ⟨rfl,r1,k1⟩
 obtain ⟨⟨d0,d1,d2,d3⟩,-⟩:=r1.raw.facts
 have g0:Blk3 w1 w.heap.size (.int .i64 0) (.int .i64 0) (.int .i64 0):=Kp.heap k1 (Blk3.new w _ _ _) (by omega)
 obtain ⟨⟨x0,x1,x2⟩,y0,y1,y2⟩:=g0.facts
 have R1:=hide r1
 have K1:=hide k1
 clear r1 k1 g0
 have hT:=HT.out
 have e1:((p+(tok ((bs s).drop p)).2:Nat):Int) - (p:Int)=((tok ((bs s).drop p)).2:Int):=by omega
 go_wp2_with fail
 have e2:(p:Int)+((tok ((bs s).drop p)).2:Int) - (p:Int)=((tok ((bs s).drop p)).2:Int):=by omega
 rw [e2]
 have k0:On b w w1:=Kp.trans (Kp.alloc (Kp.refl _ w) _) K1.out (fun _ _ e=>e)
 have h7:=h.tabs.2
 have q1:Kp (fun k=>k=w.heap.size) w1 (((w1.setCell ⟨w.heap.size,0,none⟩ (.int .i64 (tok ((bs s).drop p)).1)).setCell ⟨w.heap.size,1,none⟩ (.int .i64 p)).setCell ⟨w.heap.size,2,none⟩ (.int .i64 (tok ((bs s).drop p)).2)) :=
  ((On.set (Kp.refl _ w1) 0 _).set 1 _).set 2 _
 exact bodyPost_ret (v:=.agg #[.int .i64 (tok ((bs s).drop p)).1,.int .i64 p,.int .i64 (tok ((bs s).drop p)).2]) (by simp [results,Tryz.results57,go_sem,x0,x1,x2]) rfl
  ⟨rfl,(R1.out).keep q1 (by omega) (fun k hk=>by omega),((k0.newset (Nat.le_refl _) 0 _).newset (Nat.le_refl _) 1 _).newset (Nat.le_refl _) 2 _⟩
end Go.Proofs.YtbmebfgapjhchaaGreatDoor
/- Is a text one token alone? Is it a name? -/
namespace Go.Proofs.YtbmebfgapjhchaaGreatDoor
open Go.RowKit
open M
def aloneB (l:List UInt8) (kind:Nat):Bool:=decide (l≠[]∧M.tok l=(kind,l.length))
theorem frzN {W:World} {b:Nat} {c:Array Value} {t:TypeId} (h:W.heap[b]?=some (.cells c t (0,0))) (k:Nat):W.frozen? ⟨b,k,none⟩=false:=by simp [World.frozen?,h]
def firstT (s:ByteArray):Nat × Nat:=if s.size=0 then (0,0) else M.tok (bs s)
set_option maxRecDepth 100000 in
set_option maxHeartbeats 4000000 in
theorem first_any (s:ByteArray) (w:World) (hT:Tabs w) (hs:s.size≤1073741824) :
  Calls Tryz.prog 38 #[.string s] w fun e w'=>e=.returned (.agg #[.int .i64 (firstT s).1,.int .i64 0,.int .i64 (firstT s).2])∧Below w.heap.size w w':=by
 have k0:Below w.heap.size w (w.alloc (.cells #[.int .i64 0,.int .i64 0,.int .i64 0] 99)):=(Below.refl _ w).alloc (Nat.le_refl _) _
 have hN:=heap_alloc_new w (.cells #[.int .i64 0,.int .i64 0,.int .i64 0] 99)
 by_cases h0:s.size=0
 ·obtain rfl:s=⟨#[]⟩:=bs_inj (by rw [← List.length_eq_zero_iff.1 (by rw [bs_len];exact h0:(bs s).length=0)];rfl)
  have e:firstT ⟨#[]⟩=(0,0):=if_pos h0
  rw [e]
  have a0:=cell_of_row _ _ 0 _ _ _ hN
  have a1:=cell_of_row _ _ 1 _ _ _ hN
  have a2:=cell_of_row _ _ 2 _ _ _ hN
  go_enter Tryz.func38,Tryz.ntmps38
  go_wp2_with fail
  exact bodyPost_ret (by simp [results,Tryz.results38,go_sem]) rfl ⟨rfl,k0⟩
 ·have hne:bs s≠[]:=by intro e;have:=congrArg List.length e;rw [bs_len] at this;exact h0 this
  have hb:(s.toList==[])=false:=by rw [ByteArray.toList_eq,beq_eq_false_iff_ne];exact hne
  have hbn:(s.toList !=[])=true:=by rw [bne,hb];rfl
  have hp:0<s.size:=by omega
  have hT1:Tabs (w.alloc (.cells #[.int .i64 0,.int .i64 0,.int .i64 0] 99)):=hT.below k0
  have h7:=hT1.2
  have HE:Hid (firstT s=M.tok (bs s)):=if_neg h0
  have HN:=hide hN
  have HK0:=hide k0
  have hz:(w.alloc (.cells #[.int .i64 0,.int .i64 0,.int .i64 0] 99)).heap.size=w.heap.size+1:=by simp
  clear hN k0
  go_enter Tryz.func38,Tryz.ntmps38
  go_wp2_with fail
  refine (readFrom_any s 0 _ hT1 (Nat.zero_le _) (by omega)).mono ?_
  rintro e w1 ⟨rfl,r1,k1⟩
  have z1:=k1.size
  have K1:=hide ((HK0.out).trans (k1.mono (HK0.out).size))
  have hN1:w1.heap[w.heap.size]?=some (.cells #[.int .i64 0,.int .i64 0,.int .i64 0] 99 (0,0)):=by
   rw [k1.block w.heap.size (by rw [hz];omega)];exact HN.out
  have HN1:=hide hN1
  rw [hz] at r1 z1
  rw [hz]
  clear k1 hN1
  go_wp2_with fail
  refine (token_any (w.heap.size+1) s 0 _ r1 hp).mono ?_
  rintro e w2 ⟨rfl,r2,k2⟩
  have K2:=hide ((K1.out).trans (On.below k2 (B:=w.heap.size) (by omega) (by omega)))
  have hN2:=k2.heap HN1.out (fun e=>by omega)
  clear k2 r2
  rw [List.drop_zero,← HE.out]
  have a0:=cell_of_row _ _ 0 _ _ _ hN2
  have a1:=cell_of_row _ _ 1 _ _ _ hN2
  have a2:=cell_of_row _ _ 2 _ _ _ hN2
  have b0:=frzN hN2 0
  have b1:=frzN hN2 1
  have b2:=frzN hN2 2
  have hN3:(((w2.setCell ⟨w.heap.size,0,none⟩ (.int .i64 (firstT s).1)).setCell ⟨w.heap.size,1,none⟩ (.int .i64 0)).setCell ⟨w.heap.size,2,none⟩ (.int .i64 (firstT s).2)).heap[w.heap.size]?=some (.cells #[.int .i64 (firstT s).1,.int .i64 0,.int .i64 (firstT s).2] 99 (0,0)):=by
   simp [World.setCell,Array.getElem?_modify,hN2]
  have K3:Hid (Below w.heap.size w (((w2.setCell ⟨w.heap.size,0,none⟩ (.int .i64 (firstT s).1)).setCell ⟨w.heap.size,1,none⟩ (.int .i64 0)).setCell ⟨w.heap.size,2,none⟩ (.int .i64 (firstT s).2))):=(((K2.out).setCell (p:=⟨w.heap.size,0,none⟩) (Nat.le_refl _) _).setCell (p:=⟨w.heap.size,1,none⟩) (Nat.le_refl _) _).setCell (p:=⟨w.heap.size,2,none⟩) (Nat.le_refl _) _
  have HN3:=hide hN3
  clear hN2 hN3
  go_wp2_with fail
  clear a0 a1 a2 b0 b1 b2
  generalize (((w2.setCell ⟨w.heap.size,0,none⟩ (.int .i64 (firstT s).1)).setCell ⟨w.heap.size,1,none⟩ (.int .i64 0)).setCell ⟨w.heap.size,2,none⟩ (.int .i64 (firstT s).2))=w3 at *
  have a0:=cell_of_row _ _ 0 _ _ _ HN3.out
  have a1:=cell_of_row _ _ 1 _ _ _ HN3.out
  have a2:=cell_of_row _ _ 2 _ _ _ HN3.out
  exact bodyPost_ret (by simp [results,Tryz.results38,go_sem,a0,a1,a2]) rfl ⟨rfl,K3.out⟩
set_option maxRecDepth 100000 in
set_option maxHeartbeats 4000000 in
theorem alone_any (s:ByteArray) (kind:Nat) (w:World) (hT:Tabs w) (hs:s.size≤1073741824) (hk:0<kind) :
  Calls Tryz.prog 20 #[.string s,.int .i64 kind] w fun e w'=>e=.returned (.bool (aloneB (bs s) kind))∧Below w.heap.size w w':=by
 have HA:Hid (aloneB (bs s) kind=decide ((firstT s).1=kind∧(firstT s).2=s.size)):=by
  show _=_
  unfold aloneB firstT
  by_cases h0:s.size=0
  ·have hn:bs s=[]:=List.length_eq_zero_iff.1 (by rw [bs_len];exact h0)
   rw [if_pos h0,decide_eq_false (fun h=>h.1 hn),eq_comm,decide_eq_false_iff_not]
   simp only
   omega
  ·have hne:bs s≠[]:=by intro e;have:=congrArg List.length e;rw [bs_len] at this;exact h0 this
   rw [if_neg h0,bs_len,Bool.eq_iff_iff];simp [hne,Prod.ext_iff]
 go_enter Tryz.func20,Tryz.ntmps20
 go_wp2_with fail
 refine (first_any s _ hT hs).mono ?_
 rintro e w2 ⟨rfl,k2⟩
 have K2:=hide k2
 clear k2
 generalize firstT s=T at *
 go_wp2_with fail
 all_goals
  go_ret
  refine ⟨retb ?_,K2.out⟩
  rw [HA.out]
  first
   | (rw [eq_comm,decide_eq_true_iff];omega)
   | (rw [eq_comm,decide_eq_false_iff_not];omega)
   | (rw [eq_comm,decide_eq_true_iff];simp_all;omega)
   | (rw [eq_comm,decide_eq_false_iff_not];simp_all;omega)
set_option maxHeartbeats 4000000 in
theorem lexname_any (s:ByteArray) (w:World) (hT:Tabs w) (hs:s.size≤1073741824) :
  Calls Tryz.prog 10 #[.string s] w fun e w'=>e=.returned (.bool (decide (s.size≤40)&&aloneB (bs s) 3))∧Below w.heap.size w w':=by
 by_cases h:s.size≤40
 ·have i1:decide ((s.size:Int)≤40)=true:=by simp;omega
  rw [decide_eq_true h,Bool.true_and]
  go_enter Tryz.func10,Tryz.ntmps10
  go_wp2_with fail
  refine (alone_any s 3 _ hT hs (by omega)).mono ?_
  rintro e w1 ⟨rfl,k1⟩
  go_wp2_with fail
  go_ret
  exact ⟨rfl,k1⟩
 ·have i1:decide ((s.size:Int)≤40)=false:=by simp;omega
  rw [decide_eq_false h,Bool.false_and]
  go_enter Tryz.func10,Tryz.ntmps10
  go_wp2_with fail
  go_ret
  exact ⟨rfl,Below.refl _ _⟩
end Go.Proofs.YtbmebfgapjhchaaGreatDoor
/- Package scope: the text of a name;the name at a place. -/
namespace Go.Proofs.YtbmebfgapjhchaaGreatDoor
open Go.RowKit
open M
theorem firstT_le (s:ByteArray):(firstT s).2≤s.size:=by
 unfold firstT
 split
 ·exact Nat.zero_le _
 ·next h =>
  have:=(tok_bounds (t:=bs s) (fun e=>h (by rw [← bs_len,e];rfl))).2.2.2
  rw [bs_len] at this
  exact this
def txtAt (s:ByteArray) (a:Nat):ByteArray:=s.extract a (a+(firstT (s.extract a s.size)).2)
theorem ext_size (s:ByteArray) (a b:Nat) (h:b≤s.size):(s.extract a b).size=b - a:=by
 rw [← bs_len,bs_cut,List.length_drop,List.length_take,bs_len];omega
theorem txtAt_size (s:ByteArray) (a:Nat) (ha:a≤s.size):(txtAt s a).size=(firstT (s.extract a s.size)).2∧a+(txtAt s a).size≤s.size:=by
 have h1:=firstT_le (s.extract a s.size)
 rw [ext_size s a s.size (Nat.le_refl _)] at h1
 have h2:(txtAt s a).size=(firstT (s.extract a s.size)).2:=by
  unfold txtAt
  rw [ext_size _ _ _ (by omega)];omega
 exact ⟨h2,by omega⟩
set_option maxRecDepth 100000 in
set_option maxHeartbeats 4000000 in
theorem scText_any (s:ByteArray) (a:Nat) (w:World) (hT:Tabs w) (ha:a≤s.size) (hs:s.size≤1073741824) :
  Calls Tryz.prog 37 #[.string s,.int .i64 a] w fun e w'=>e=.returned (.string (txtAt s a))∧Below w.heap.size w w':=by
 have h1:=firstT_le (s.extract a s.size)
 have h2:=ext_size s a s.size (Nat.le_refl _)
 have HC:=hide (first_any (s.extract a s.size) w hT (by omega))
 have HE:Hid (txtAt s a=s.extract a (a+(firstT (s.extract a s.size)).2)):=rfl
 rw [h2] at h1
 generalize (firstT (s.extract a s.size)).2=n at *
 generalize (firstT (s.extract a s.size)).1=k at *
 have i1:(a:Int)≤(s.size:Int):=by omega
 obtain ⟨m,hm⟩:∃ m,a+n=m:=⟨_,rfl⟩
 rw [hm] at HE
 have i2:(m:Int)≤(s.size:Int):=by omega
 have i3:(a:Int)+(n:Int)=(m:Int):=by omega
 have i4:(a:Int)≤(m:Int):=by omega
 have HM:=hide hm
 clear hm
 have HF:=hide h2
 have q9:∀ W:World,(Instr.field 99 (.agg #[.int .i64 k,.int .i64 0,.int .i64 n]) 2).run Tryz.prog W=.ok (.int .i64 n) W:=fun W=>by kernel_rfl
 clear h2 hT
 go_enter Tryz.func37,Tryz.ntmps37
 go_wp2_with fail
 refine (HC.out).mono ?_
 rintro e w1 ⟨rfl,B1⟩
 have HB:=hide B1
 clear HC B1
 go_wp2_with fail
 go_ret
 exact ⟨by rw [HE.out];rfl,HB.out⟩
end Go.Proofs.YtbmebfgapjhchaaGreatDoor
/- Package colour: sort.Search,the search that halves. -/
namespace Go.Proofs.YtbmebfgapjhchaaGreatDoor
open Go.RowKit
open M
def srch (P:Nat→Bool):Nat→Nat→Nat→Nat
 | 0,i,_=>i
 | k+1,i,j=>if i<j then (if P ((i+j) / 2) then srch P k i ((i+j) / 2) else srch P k ((i+j) / 2+1) j) else i
theorem srch_le (P:Nat→Bool):∀ (k i j:Nat),i≤j→i≤srch P k i j∧srch P k i j≤j
 | 0,i,j,h=>⟨Nat.le_refl _,h⟩
 | k+1,i,j,h=>by
  rw [srch]
  by_cases hij:i<j
  ·rw [if_pos hij]
   by_cases hp:P ((i+j) / 2)=true
   ·rw [if_pos hp]
    have:=srch_le P k i ((i+j) / 2) (by omega)
    omega
   ·rw [if_neg hp]
    have:=srch_le P k ((i+j) / 2+1) j (by omega)
    omega
  ·rw [if_neg hij];omega
theorem srch_same (P:Nat→Bool):∀ (k k' i j:Nat),j - i≤k→j - i≤k'→srch P k i j=srch P k' i j
 | 0,0,_,_,_,_=>rfl
 | 0,k'+1,i,j,h,_=>by rw [srch,srch,if_neg (by omega)]
 | k+1,0,i,j,_,h=>by rw [srch,srch,if_neg (by omega)]
 | k+1,k'+1,i,j,h,h'=>by
  rw [srch,srch]
  by_cases hij:i<j
  ·rw [if_pos hij,if_pos hij,srch_same P k k' i _ (by omega) (by omega),srch_same P k k' _ j (by omega) (by omega)]
  ·rw [if_neg hij,if_neg hij]
set_option maxRecDepth 100000 in
set_option maxHeartbeats 4000000 in
theorem search_any (n x y z:Nat) (P:Nat→Bool) (w:World) (hn:n≤1073741824) (hf:∀ (i:Nat) (W:World),i<n→Below w.heap.size w W→Calls Tryz.prog 55 #[.int .i64 i,.pointer (some ⟨x,0,none⟩),.pointer (some ⟨y,0,none⟩),.pointer (some ⟨z,0,none⟩)] W fun e w'=>e=.returned (.bool (P i))∧Below W.heap.size W w') :
  Calls Tryz.prog 40 #[.int .i64 n,.func (.func 55) #[] #[.pointer (some ⟨x,0,none⟩),.pointer (some ⟨y,0,none⟩),.pointer (some ⟨z,0,none⟩)]] w fun e w'=>e=.returned (.int .i64 (srch P n 0 n:Nat))∧Below w.heap.size w w':=by
 have HF:=hide hf
 clear hf
 go_enter Tryz.func40,Tryz.ntmps40
 go_wp2_with fail
 go_loopw [5,6] (fun a b wr=>∃ i j:Nat,a=.int .i64 i∧b=.int .i64 j∧i≤j∧j≤n∧Hid (∀ k,j - i≤k→srch P n 0 n=srch P k i j)∧Hid (Below w.heap.size w wr)) (fun a b _=>(intOf b).toNat - (intOf a).toNat)
 case atStart=>exact ⟨0,n,rfl,rfl,Nat.zero_le _,Nat.le_refl _,fun k hk=>srch_same P n k 0 n (by omega) hk,Below.refl _ w⟩
 case round =>
  obtain ⟨i,j,rfl,rfl,hij,hjn,HS,HB⟩:=hrel
  by_cases h:i<j
  ·have h1:(i:Int)<(j:Int):=by omega
   have h2:(i:Int)+(j:Int)≤9223372036854775807:=by omega
   have h3:((i:Int)+(j:Int)) / 2=(((i+j) / 2:Nat):Int):=by omega
   have hC:=(HF.out) ((i+j) / 2) wr (by omega) HB.out
   have hm1:(i+j) / 2<j:=by omega
   have hm2:i≤(i+j) / 2:=by omega
   have HS2:Hid (∀ k,j - i≤k+1→srch P n 0 n=if P ((i+j) / 2)=true then srch P k i ((i+j) / 2) else srch P k ((i+j) / 2+1) j):=fun k hk=>by
    rw [(HS.out) (k+1) hk,srch,if_pos h]
   generalize (i+j) / 2=m at *
   have HC:=hide hC
   clear hC HS
   go_wp2_with fail
   refine (HC.out).mono ?_
   rintro e w2 ⟨rfl,B2⟩
   have HB2:Hid (Below w.heap.size w w2):=(HB.out).trans (B2.mono (HB.out).size)
   clear HC B2 HB
   cases hp:P m with
   | true =>
    rw [hp] at HS2
    have HS3:Hid (∀ k,m - i≤k→srch P n 0 n=srch P k i m):=fun k hk=>by
     have:=(HS2.out) (k+(j - i)) (by omega)
     rw [if_pos rfl] at this
     rw [this]
     exact srch_same P _ _ i m (by omega) hk
    clear HS2
    go_wp2_with fail
    exact ⟨⟨i,m,rfl,by simp,hm2,by omega,HS3,HB2⟩,by simp [intOf];omega⟩
   | false =>
    rw [hp] at HS2
    have HS3:Hid (∀ k,j - (m+1)≤k→srch P n 0 n=srch P k (m+1) j):=fun k hk=>by
     have:=(HS2.out) (k+(j - i)) (by omega)
     rw [if_neg (by simp)] at this
     rw [this]
     exact srch_same P _ _ (m+1) j (by omega) hk
    clear HS2
    go_wp2_with fail
    exact ⟨⟨m+1,j,by simp,rfl,by omega,hjn,HS3,HB2⟩,by simp [intOf];omega⟩
  ·obtain rfl:i=j:=by omega
   have hd:¬(i:Int)<(i:Int):=by omega
   have HE:Hid (srch P n 0 n=i):=by
    have:=(HS.out) 0 (by omega)
    rw [srch] at this
    exact this
   clear HS
   go_wp2_with fail
   go_ret
   exact ⟨by rw [HE.out];rfl,HB.out⟩
end Go.Proofs.YtbmebfgapjhchaaGreatDoor
/- Package change: where a place comes by an edit. -/
namespace Go.Proofs.YtbmebfgapjhchaaGreatDoor
open Go.RowKit
open M
def past2 (L:List Rw) (a:Int) (i:Nat):Bool:=match L[i]? with|some r=>decide (a≤r.f)|none=>false
def mvN (L:List Rw) (a:Int):Nat:=srch (past2 L a) L.length 0 L.length
theorem mvN_le (L:List Rw) (a:Int):mvN L a≤L.length:=(srch_le _ _ _ _ (Nat.zero_le _)).2
def mvI (L:List Rw) (g a:Int):Int:=a+(mvN L a:Int)*g
set_option maxRecDepth 100000 in
set_option maxHeartbeats 4000000 in
theorem moved1_any (v:Value) (L:List Rw) (a:Int) (i x y:Nat) (w:World) (hi:i<L.length) (h:IsL w v L) (hx:w.cell? ⟨x,0,none⟩=some v) (hy:w.cell? ⟨y,0,none⟩=some (.int .i64 a)) :
  Calls Tryz.prog 41 #[.int .i64 i,.pointer (some ⟨x,0,none⟩),.pointer (some ⟨y,0,none⟩)] w fun e w'=>e=.returned (.bool (past2 L a i))∧Below w.heap.size w w':=by
 have h':=h
 obtain ⟨ao,cap,rfl,-⟩:=h'
 obtain ⟨b,o,r,rfl,hr,c0,c1,c2,hb⟩:=h.get (Below.refl _ w) hi
 have hi1:(i:Int)<(L.length:Int):=by omega
 have hp:past2 L a i=decide (a≤r.f):=by unfold past2;rw [hr]
 have HK:=hide (fun k=>belowN (Below.refl w.heap.size w) k)
 rw [hp]
 clear hp hr h
 go_enter Tryz.func41,Tryz.ntmps41
 go_wp2_with fail
 go_quiet (fail)
 go_wp2_with fail
 go_ret
 exact ⟨rfl,(HK.out) _⟩
set_option maxRecDepth 100000 in
set_option maxHeartbeats 4000000 in
theorem search2_any (n x y:Nat) (P:Nat→Bool) (w:World) (hn:n≤1073741824) (hf:∀ (i:Nat) (W:World),i<n→Below w.heap.size w W→Calls Tryz.prog 41 #[.int .i64 i,.pointer (some ⟨x,0,none⟩),.pointer (some ⟨y,0,none⟩)] W fun e w'=>e=.returned (.bool (P i))∧Below W.heap.size W w') :
  Calls Tryz.prog 40 #[.int .i64 n,.func (.func 41) #[] #[.pointer (some ⟨x,0,none⟩),.pointer (some ⟨y,0,none⟩)]] w fun e w'=>e=.returned (.int .i64 (srch P n 0 n:Nat))∧Below w.heap.size w w':=by
 have HF:=hide hf
 clear hf
 go_enter Tryz.func40,Tryz.ntmps40
 go_wp2_with fail
 go_loopw [5,6] (fun a b wr=>∃ i j:Nat,a=.int .i64 i∧b=.int .i64 j∧i≤j∧j≤n∧Hid (∀ k,j - i≤k→srch P n 0 n=srch P k i j)∧Hid (Below w.heap.size w wr)) (fun a b _=>(intOf b).toNat - (intOf a).toNat)
 case atStart=>exact ⟨0,n,rfl,rfl,Nat.zero_le _,Nat.le_refl _,fun k hk=>srch_same P n k 0 n (by omega) hk,Below.refl _ w⟩
 case round =>
  obtain ⟨i,j,rfl,rfl,hij,hjn,HS,HB⟩:=hrel
  by_cases h:i<j
  ·have h1:(i:Int)<(j:Int):=by omega
   have h2:(i:Int)+(j:Int)≤9223372036854775807:=by omega
   have h3:((i:Int)+(j:Int)) / 2=(((i+j) / 2:Nat):Int):=by omega
   have hC:=(HF.out) ((i+j) / 2) wr (by omega) HB.out
   have hm1:(i+j) / 2<j:=by omega
   have hm2:i≤(i+j) / 2:=by omega
   have HS2:Hid (∀ k,j - i≤k+1→srch P n 0 n=if P ((i+j) / 2)=true then srch P k i ((i+j) / 2) else srch P k ((i+j) / 2+1) j):=fun k hk=>by
    rw [(HS.out) (k+1) hk,srch,if_pos h]
   generalize (i+j) / 2=m at *
   have HC:=hide hC
   clear hC HS
   go_wp2_with fail
   refine (HC.out).mono ?_
   rintro e w2 ⟨rfl,B2⟩
   have HB2:Hid (Below w.heap.size w w2):=(HB.out).trans (B2.mono (HB.out).size)
   clear HC B2 HB
   cases hp:P m with
   | true =>
    rw [hp] at HS2
    have HS3:Hid (∀ k,m - i≤k→srch P n 0 n=srch P k i m):=fun k hk=>by
     have:=(HS2.out) (k+(j - i)) (by omega)
     rw [if_pos rfl] at this
     rw [this]
     exact srch_same P _ _ i m (by omega) hk
    clear HS2
    go_wp2_with fail
    exact ⟨⟨i,m,rfl,by simp,hm2,by omega,HS3,HB2⟩,by simp [intOf];omega⟩
   | false =>
    rw [hp] at HS2
    have HS3:Hid (∀ k,j - (m+1)≤k→srch P n 0 n=srch P k (m+1) j):=fun k hk=>by
     have:=(HS2.out) (k+(j - i)) (by omega)
     rw [if_neg (by simp)] at this
     rw [this]
     exact srch_same P _ _ (m+1) j (by omega) hk
    clear HS2
    go_wp2_with fail
    exact ⟨⟨m+1,j,by simp,rfl,by omega,hjn,HS3,HB2⟩,by simp [intOf];omega⟩
  ·obtain rfl:i=j:=by omega
   have hd:¬(i:Int)<(i:Int):=by omega
   have HE:Hid (srch P n 0 n=i):=by
    have:=(HS.out) 0 (by omega)
    rw [srch] at this
    exact this
   clear HS
   go_wp2_with fail
   go_ret
   exact ⟨by rw [HE.out];rfl,HB.out⟩
set_option maxRecDepth 100000 in
set_option maxHeartbeats 4000000 in
theorem moved_any (v:Value) (L:List Rw) (g a:Int) (w:World) (h:IsL w v L) (hl:L.length≤1048576) (hg:-1048576≤g∧g≤1048576) (ha:0≤a∧a≤1073741824) :
  Calls Tryz.prog 26 #[v,.int .i64 g,.int .i64 a] w fun e w'=>e=.returned (.int .i64 (mvI L g a))∧Below w.heap.size w w':=by
 have kW:Below w.heap.size w ((w.alloc (.cells #[v] 40)).alloc (.cells #[.int .i64 a] 3)):=((Below.refl _ w).alloc (Nat.le_refl _) _).alloc (by simp) _
 have x0:((w.alloc (.cells #[v] 40)).alloc (.cells #[.int .i64 a] 3)).cell? ⟨w.heap.size,0,none⟩=some v:=Lib.cell?_alloc_some _ (cell_of_row _ _ 0 _ _ _ (heap_alloc_new _ _))
 have y0:((w.alloc (.cells #[v] 40)).alloc (.cells #[.int .i64 a] 3)).cell? ⟨w.heap.size+1,0,none⟩=some (.int .i64 a):=by have:=cell_of_row _ _ 0 _ _ _ (heap_alloc_new (w.alloc (.cells #[v] 40)) (.cells #[.int .i64 a] 3));simp
 have hsz:((w.alloc (.cells #[v] 40)).alloc (.cells #[.int .i64 a] 3)).heap.size=w.heap.size+2:=by simp
 have HC:Hid (Calls Tryz.prog 40 #[.int .i64 L.length,.func (.func 41) #[] #[.pointer (some ⟨w.heap.size,0,none⟩),.pointer (some ⟨w.heap.size+1,0,none⟩)]] ((w.alloc (.cells #[v] 40)).alloc (.cells #[.int .i64 a] 3)) fun e w'=>e=.returned (.int .i64 (mvN L a:Nat))∧Below ((w.alloc (.cells #[v] 40)).alloc (.cells #[.int .i64 a] 3)).heap.size ((w.alloc (.cells #[v] 40)).alloc (.cells #[.int .i64 a] 3)) w') :=
  search2_any L.length _ _ (past2 L a) _ (by omega) (fun i W' hi hb=>moved1_any v L a i _ _ W' hi ((h.below kW).below hb) ((hb.cell (p:=⟨w.heap.size,0,none⟩) (by rw [hsz];simp)).trans x0) ((hb.cell (p:=⟨w.heap.size+1,0,none⟩) (by rw [hsz];simp)).trans y0))
 have hle:=mvN_le L a
 have HE:Hid (mvI L g a=a+(mvN L a:Int)*g):=rfl
 have hm:-1099511627776≤(mvN L a:Int)*g∧(mvN L a:Int)*g≤1099511627776:=by
  have h0:(0:Int)≤(mvN L a:Int):=Int.natCast_nonneg _
  have h1:(mvN L a:Int)≤1048576:=by omega
  constructor
  ·have:=Int.mul_le_mul_of_nonneg_left hg.1 h0
   have:=Int.mul_le_mul_of_nonneg_right h1 (show (0:Int)≤1048576 by omega)
   omega
  ·have:=Int.mul_le_mul_of_nonneg_left hg.2 h0
   have:=Int.mul_le_mul_of_nonneg_right h1 (show (0:Int)≤1048576 by omega)
   omega
 obtain ⟨ao,cap,rfl,hcl,-⟩:=h
 generalize mvN L a=n at *
 generalize hq:(n:Int)*g=q at *
 have i1:IntKind.i64.wrap q=q:=IntWalk.i64_in _ (by omega)
 have i2:-9223372036854775808≤a+q∧a+q≤9223372036854775807:=by omega
 have HKW:=hide kW
 clear kW
 go_enter Tryz.func26,Tryz.ntmps26
 go_wp2_with fail
 refine (HC.out).mono ?_
 rintro e w2 ⟨rfl,B2⟩
 have HB2:Hid (Below w.heap.size w w2):=(HKW.out).trans (B2.mono (HKW.out).size)
 have y2:=(B2.cell (p:=⟨w.heap.size+1,0,none⟩) (by rw [hsz];simp)).trans y0
 clear HC B2 x0 y0 HKW hsz
 go_wp2_with fail
 go_ret
 exact ⟨by rw [HE.out];rfl,HB2.out⟩
end Go.Proofs.YtbmebfgapjhchaaGreatDoor
