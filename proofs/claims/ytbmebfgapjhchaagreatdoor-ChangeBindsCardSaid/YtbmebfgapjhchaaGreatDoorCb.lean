/- Plain mathematics of tokens: what begins a list of bytes,character by character. -/
import Derived.Test.YtbmebfgapjhchaaGreatDoorCa
import Derived.Lib.Small
namespace Go.Proofs.YtbmebfgapjhchaaGreatDoor
namespace M
def cc (t:List UInt8):Int:=if t=[] then -1 else (ch t:Int)
def nx (t:List UInt8):List UInt8:=t.drop (sz t)
theorem nx_len (t:List UInt8):(nx t).length+sz t=t.length:=by
 have:=sz_le t
 unfold nx;simp;omega
theorem nx_lt {t:List UInt8} (h:t≠[]):(nx t).length<t.length:=by
 have:=sz_pos h;have:=nx_len t;omega
theorem cc_nil:cc []=-1:=by simp [cc]
theorem cc_some {t:List UInt8} (h:t≠[]):cc t=(ch t:Int):=by simp [cc,h]
theorem cc_ne {t:List UInt8}:cc t=-1↔t=[]:=by
 unfold cc;split<;>simp_all
theorem ne_of_cc {t:List UInt8} {c:Int} (h:cc t=c) (hc:c≠-1):t≠[]:=fun e=>hc (by rw [← h,e,cc_nil])
theorem ch_ascii {t:List UInt8} (h:t≠[]) (h1:ch t<128):sz t=1∧ch t=(t.getD 0 0).toNat:=by
 by_cases hm:1<sz t
 ·have:=(multi hm).2.2.1;omega
 ·have hs:sz t=1:=by have:=sz_pos h;omega
  have:=head_cases h hs
  exact ⟨hs,by omega⟩
theorem sz_cc {t:List UInt8} (h0:0≤cc t) (h1:cc t<128):sz t=1:=by
 have hne:t≠[]:=fun e=>by rw [e,cc_nil] at h0;omega
 rw [cc_some hne] at h1
 exact (ch_ascii hne (by omega)).1
theorem sz_pos_cc {t:List UInt8} (h:cc t≠-1):1≤sz t:=sz_pos (fun e=>h (cc_ne.2 e))
def isSp (c:Int):Bool:=decide (c=32∨c=10∨c=9∨c=13)
def isDg (c:Int):Bool:=decide (48≤c∧c≤57)
def isLt (c:Int):Bool:=decide ((97≤c∧c≤122)∨(65≤c∧c≤90)∨c=95∨(192≤c∧c≤591∧c≠215∧c≠247)∨(880≤c∧c≤1279))
def isNm (c:Int):Bool:=isLt c||isDg c
def isLn (c:Int):Bool:=decide (c≠10)
def isPr (a b:Int):Bool:=decide ((a=61∧(b=62∨b=61))∨(a=43∧b=43))
def isSg (a:Int):Bool:=decide (a∈([40,41,91,93,44,59,61,60,43,45,42,46,63]:List Int))
def skip (p:Int→Bool) (t:List UInt8):Nat :=
 if _h:t=[] then 0 else if p (cc t) then sz t+skip p (nx t) else 0
termination_by t.length
decreasing_by exact nx_lt _h
theorem skip_nil (p:Int→Bool):skip p []=0:=by rw [skip];simp
theorem skip_yes {p:Int→Bool} {t:List UInt8} (h:t≠[]) (hp:p (cc t)=true):skip p t=sz t+skip p (nx t):=by rw [skip];simp [h,hp]
theorem skip_no {p:Int→Bool} {t:List UInt8} (hp:p (cc t)=false):skip p t=0:=by rw [skip];simp [hp]
theorem skip_le (p:Int→Bool) (n:Nat):∀ t:List UInt8,t.length≤n→skip p t≤t.length:=by
 induction n with
 | zero=>intro t h;have:t=[]:=List.eq_nil_of_length_eq_zero (by omega);subst this;simp [skip_nil]
 | succ n ih =>
  intro t h
  by_cases h0:t=[]
  ·subst h0;simp [skip_nil]
  by_cases hp:p (cc t)=true
  ·rw [skip_yes h0 hp]
   have h1:=nx_len t
   have h2:=sz_pos h0
   have:=ih (nx t) (by omega)
   omega
  ·rw [skip_no (by simpa using hp)];omega
theorem skip_len (p:Int→Bool) (t:List UInt8):skip p t≤t.length:=skip_le p _ t (Nat.le_refl _)
def hexOf (c:Int):Int:=if 48≤c∧c≤57 then c - 48 else if 97≤c∧c≤102 then c - 87 else if 65≤c∧c≤70 then c - 55 else -1
theorem hexOf_lt (c:Int):-1≤hexOf c∧hexOf c<16:=by unfold hexOf;repeat' split<;>omega
theorem hexOf_ascii {c:Int} (h:0≤hexOf c):48≤c∧c≤102:=by unfold hexOf at h;repeat' split at h<;>omega
def hexs:Nat→Int→List UInt8→Int × Nat
 | 0,code,_=>(code,0)
 | n+1,code,t=>if 0≤hexOf (cc t) then ((hexs n (code*16+hexOf (cc t)) (nx t)).1,(hexs n (code*16+hexOf (cc t)) (nx t)).2+1) else (code,0)
theorem hexs_le (n:Nat):∀ (code:Int) (t:List UInt8),(hexs n code t).2≤n∧(hexs n code t).2≤t.length:=by
 induction n with
 | zero=>intro code t;simp [hexs]
 | succ n ih =>
  intro code t
  unfold hexs
  split
  ·rename_i h
   have:=ih (code*16+hexOf (cc t)) (nx t)
   have h1:=hexOf_ascii h
   have h2:=sz_cc (t:=t) (by omega) (by omega)
   have h3:=nx_len t
   simp only;omega
  ·simp
def code (t:List UInt8):Int × Bool × Nat :=
 if cc t=123 then
  if (hexs 6 0 (nx t)).2=0∨cc ((nx t).drop (hexs 6 0 (nx t)).2)≠125 then (0,false,1+(hexs 6 0 (nx t)).2)
  else ((hexs 6 0 (nx t)).1,Lib.validRune (hexs 6 0 (nx t)).1,2+(hexs 6 0 (nx t)).2)
 else (0,false,0)
theorem code_le (t:List UInt8):(code t).2.2≤t.length:=by
 unfold code
 split
 ·rename_i h
  have h2:=sz_cc (t:=t) (by omega) (by omega)
  have h3:=nx_len t
  have h4:=(hexs_le 6 0 (nx t)).2
  split
  ·simp only;omega
  ·rename_i h5
   simp only [not_or,Classical.not_not] at h5
   have h6:=ne_of_cc h5.2 (by omega)
   have h7:=List.length_pos_iff.2 h6
   simp at h7
   simp only;omega
 ·simp
def taken (t:List UInt8):Int × Bool × Nat :=
 if cc t=-1∨cc t=10 then (0,false,0)
 else if cc t=110 then (10,true,1)
 else if cc t=116 then (9,true,1)
 else if cc t=34∨cc t=92 then (cc t,true,1)
 else if cc t=117 then ((code (nx t)).1,(code (nx t)).2.1,1+(code (nx t)).2.2)
 else (0,false,sz t)
theorem taken_le (t:List UInt8):(taken t).2.2≤t.length:=by
 have h1:=nx_len t
 have h3:=sz_le t
 unfold taken
 split
 ·simp
 ·rename_i h
  have hp:=sz_pos_cc (t:=t) (fun e=>h (.inl e))
  repeat' split
  all_goals (try (simp only;omega))
  have h2:=sz_cc (t:=t) (by omega) (by omega)
  have:=code_le (nx t)
  simp only;omega
def quo (kind:Nat) (t:List UInt8):Nat × Nat :=
 if _h:t=[] then (8,0) else if cc t=10 then (8,0) else if cc t=34 then (kind,1)
 else if cc t=92 then
  ((quo (if (taken (nx t)).2.1 then kind else 8) ((nx t).drop (taken (nx t)).2.2)).1,1+(taken (nx t)).2.2+(quo (if (taken (nx t)).2.1 then kind else 8) ((nx t).drop (taken (nx t)).2.2)).2)
 else ((quo kind (nx t)).1,sz t+(quo kind (nx t)).2)
termination_by t.length
decreasing_by
 all_goals (have:=nx_lt _h;first|exact this|(simp;omega))
theorem quo_end {kind:Nat} {t:List UInt8} (h:cc t=-1∨cc t=10):quo kind t=(8,0):=by
 rcases h with h|h
 ·have:=cc_ne.1 h;subst this;rw [quo];simp
 ·have:=ne_of_cc h (by omega);rw [quo];simp [this,h]
theorem quo_shut {kind:Nat} {t:List UInt8} (h:cc t=34):quo kind t=(kind,1):=by
 have:=ne_of_cc h (by omega);rw [quo];simp [this,h]
theorem quo_slash {kind:Nat} {t:List UInt8} (h:cc t=92):quo kind t=((quo (if (taken (nx t)).2.1 then kind else 8) ((nx t).drop (taken (nx t)).2.2)).1,1+(taken (nx t)).2.2+(quo (if (taken (nx t)).2.1 then kind else 8) ((nx t).drop (taken (nx t)).2.2)).2):=by
 have:=ne_of_cc h (by omega);rw [quo];simp [this,h]
theorem quo_on {kind:Nat} {t:List UInt8} (h0:cc t≠-1) (h1:cc t≠10) (h2:cc t≠34) (h3:cc t≠92):quo kind t=((quo kind (nx t)).1,sz t+(quo kind (nx t)).2):=by
 have:t≠[]:=fun e=>h0 (cc_ne.2 e)
 conv=>lhs;rw [quo]
 simp [this,h1,h2,h3]
theorem quo_le (n:Nat):∀ (kind:Nat) (t:List UInt8),t.length≤n→(quo kind t).2≤t.length∧((quo kind t).1=8∨(quo kind t).1=kind):=by
 induction n with
 | zero=>intro k t h;have:t=[]:=List.eq_nil_of_length_eq_zero (by omega);subst this;rw [quo_end (.inl cc_nil)];simp
 | succ n ih =>
  intro kind t h
  by_cases h0:cc t=-1∨cc t=10
  ·rw [quo_end h0];simp
  have hne:t≠[]:=fun e=>h0 (.inl (cc_ne.2 e))
  have h1:=nx_len t
  have h2:=sz_pos hne
  by_cases h3:cc t=34
  ·rw [quo_shut h3];have:=sz_le t;exact ⟨by simp only;omega,.inr rfl⟩
  by_cases h4:cc t=92
  ·rw [quo_slash h4]
   have h5:=taken_le (nx t)
   have h6:=ih (if (taken (nx t)).2.1 then kind else 8) ((nx t).drop (taken (nx t)).2.2) (by simp;omega)
   simp only [List.length_drop] at h6
   refine ⟨by simp only;omega,?_⟩
   rcases h6.2 with h7|h7
   ·exact .inl h7
   ·simp only [h7];split<;>simp
  ·rw [quo_on (fun e=>h0 (.inl e)) (fun e=>h0 (.inr e)) h3 h4]
   have h6:=ih kind (nx t) (by omega)
   exact ⟨by simp only;omega,h6.2⟩
def nest (deep:Nat) (t:List UInt8):Nat × Nat :=
 if _h:t=[] then (8,0)
 else if cc t=123 then
  if cc (nx t)=45 then ((nest (deep+1) (nx (nx t))).1,2+(nest (deep+1) (nx (nx t))).2) else ((nest deep (nx t)).1,1+(nest deep (nx t)).2)
 else if cc t=45 then
  if cc (nx t)=125 then (if deep≤1 then (2,2) else ((nest (deep - 1) (nx (nx t))).1,2+(nest (deep - 1) (nx (nx t))).2)) else ((nest deep (nx t)).1,1+(nest deep (nx t)).2)
 else ((nest deep (nx t)).1,sz t+(nest deep (nx t)).2)
termination_by t.length
decreasing_by
 all_goals (have h1:=nx_lt _h;have h2:=nx_len (nx t);omega)
theorem nest_end (deep:Nat):nest deep []=(8,0):=by rw [nest];simp
theorem nest_open {deep:Nat} {t:List UInt8} (h:cc t=123) (h2:cc (nx t)=45):nest deep t=((nest (deep+1) (nx (nx t))).1,2+(nest (deep+1) (nx (nx t))).2):=by
 have:=ne_of_cc h (by omega);conv=>lhs;rw [nest]
 simp [this,h,h2]
theorem nest_brace {deep:Nat} {t:List UInt8} (h:cc t=123) (h2:cc (nx t)≠45):nest deep t=((nest deep (nx t)).1,1+(nest deep (nx t)).2):=by
 have:=ne_of_cc h (by omega);conv=>lhs;rw [nest]
 simp [this,h,h2]
theorem nest_last {deep:Nat} {t:List UInt8} (h:cc t=45) (h2:cc (nx t)=125) (hd:deep≤1):nest deep t=(2,2):=by
 have:=ne_of_cc h (by omega);conv=>lhs;rw [nest]
 simp [this,h,h2,hd]
theorem nest_shut {deep:Nat} {t:List UInt8} (h:cc t=45) (h2:cc (nx t)=125) (hd:¬ deep≤1):nest deep t=((nest (deep - 1) (nx (nx t))).1,2+(nest (deep - 1) (nx (nx t))).2):=by
 have:=ne_of_cc h (by omega);conv=>lhs;rw [nest]
 simp [this,h,h2,hd]
theorem nest_dash {deep:Nat} {t:List UInt8} (h:cc t=45) (h2:cc (nx t)≠125):nest deep t=((nest deep (nx t)).1,1+(nest deep (nx t)).2):=by
 have:=ne_of_cc h (by omega);conv=>lhs;rw [nest]
 simp [this,h,h2]
theorem nest_on {deep:Nat} {t:List UInt8} (h0:cc t≠-1) (h:cc t≠123) (h2:cc t≠45):nest deep t=((nest deep (nx t)).1,sz t+(nest deep (nx t)).2):=by
 have:t≠[]:=fun e=>h0 (cc_ne.2 e)
 conv=>lhs;rw [nest]
 simp [this,h,h2]
theorem nest_le (n:Nat):∀ (deep:Nat) (t:List UInt8),t.length≤n→(nest deep t).2≤t.length∧((nest deep t).1=8∨(nest deep t).1=2):=by
 induction n with
 | zero=>intro k t h;have:t=[]:=List.eq_nil_of_length_eq_zero (by omega);subst this;rw [nest_end];simp
 | succ n ih =>
  intro deep t h
  by_cases h0:cc t=-1
  ·have:=cc_ne.1 h0;subst this;rw [nest_end];simp
  have h1:=nx_len t
  have h2:=sz_pos_cc h0
  have h1':=nx_len (nx t)
  by_cases h3:cc t=123
  ·have z1:=sz_cc (t:=t) (by omega) (by omega)
   by_cases h4:cc (nx t)=45
   ·have z2:=sz_cc (t:=nx t) (by omega) (by omega)
    rw [nest_open h3 h4]
    have:=ih (deep+1) (nx (nx t)) (by omega)
    exact ⟨by simp only;omega,this.2⟩
   ·rw [nest_brace h3 h4]
    have:=ih deep (nx t) (by omega)
    exact ⟨by simp only;omega,this.2⟩
  by_cases h3':cc t=45
  ·have z1:=sz_cc (t:=t) (by omega) (by omega)
   by_cases h4:cc (nx t)=125
   ·have z2:=sz_cc (t:=nx t) (by omega) (by omega)
    by_cases hd:deep≤1
    ·rw [nest_last h3' h4 hd];exact ⟨by simp only;omega,.inr rfl⟩
    ·rw [nest_shut h3' h4 hd]
     have:=ih (deep - 1) (nx (nx t)) (by omega)
     exact ⟨by simp only;omega,this.2⟩
   ·rw [nest_dash h3' h4]
    have:=ih deep (nx t) (by omega)
    exact ⟨by simp only;omega,this.2⟩
  ·rw [nest_on h0 h3 h3']
   have:=ih deep (nx t) (by omega)
   exact ⟨by simp only;omega,this.2⟩
def words:List (List UInt8):=[[117,115,101],[97,115],[112,117,98],[100,101,102],[108,101,116],[105,110],[105,102],[116,104,101,110],[101,108,115,101],[102,117,110],[116,114,117,101],[102,97,108,115,101]]
def wordB (l:List UInt8):Bool:=decide (l∈words)
def tok (t:List UInt8):Nat × Nat :=
 if isSp (cc t) then (1,sz t+skip isSp (nx t))
 else if isLt (cc t) then (if wordB (t.take (sz t+skip isNm (nx t))) then 4 else 3,sz t+skip isNm (nx t))
 else if isDg (cc t) then (if 18<sz t+skip isDg (nx t) then 8 else 5,sz t+skip isDg (nx t))
 else if cc t=34 then ((quo 6 (nx t)).1,1+(quo 6 (nx t)).2)
 else if cc t=123∧cc (nx t)=45 then ((nest 1 (nx (nx t))).1,2+(nest 1 (nx (nx t))).2)
 else if cc t=45∧cc (nx t)=45 then (2,1+skip isLn (nx t))
 else if isPr (cc t) (cc (nx t)) then (7,2)
 else if isSg (cc t) then (7,1)
 else (8,sz t)
theorem tok_bounds {t:List UInt8} (h:t≠[]):1≤(tok t).1∧(tok t).1≤8∧1≤(tok t).2∧(tok t).2≤t.length:=by
 have h1:=sz_pos h
 have h2:=nx_len t
 have h3:=skip_len isSp (nx t)
 have h4:=skip_len isNm (nx t)
 have h5:=skip_len isDg (nx t)
 have h6:=skip_len isLn (nx t)
 have h7:=quo_le _ 6 (nx t) (Nat.le_refl _)
 have h8:=nest_le _ 1 (nx (nx t)) (Nat.le_refl _)
 have h9:=nx_len (nx t)
 unfold tok
 repeat' split
 all_goals (try (simp only;omega))
 ·rename_i hc
  have z2:=sz_cc (t:=nx t) (by omega) (by omega)
  simp only;omega
 ·rename_i hc
  have z2:=sz_cc (t:=nx t) (by unfold isPr at hc;simp at hc;omega) (by unfold isPr at hc;simp at hc;omega)
  simp only;omega
structure Tk where
 kind:Nat
 pos:Nat
 len:Nat
def toks (at_:Nat) (t:List UInt8):List Tk :=
 if _h:t=[] then [] else ⟨(tok t).1,at_,(tok t).2⟩::toks (at_+(tok t).2) (t.drop (tok t).2)
termination_by t.length
decreasing_by
 have:=tok_bounds _h
 simp;omega
theorem toks_nil (a:Nat):toks a []=[]:=by rw [toks];simp
theorem toks_cons {a:Nat} {t:List UInt8} (h:t≠[]):toks a t=⟨(tok t).1,a,(tok t).2⟩::toks (a+(tok t).2) (t.drop (tok t).2):=by
 conv=>lhs;rw [toks]
 simp [h]
theorem toks_len (n:Nat):∀ (a:Nat) (t:List UInt8),t.length≤n→(toks a t).length≤t.length:=by
 induction n with
 | zero=>intro a t h;have:t=[]:=List.eq_nil_of_length_eq_zero (by omega);subst this;simp [toks_nil]
 | succ n ih =>
  intro a t h
  by_cases h0:t=[]
  ·subst h0;simp [toks_nil]
  rw [toks_cons h0]
  have:=tok_bounds h0
  have:=ih (a+(tok t).2) (t.drop (tok t).2) (by simp;omega)
  simp at this ⊢;omega
end M
end Go.Proofs.YtbmebfgapjhchaaGreatDoor
/- Plain mathematics of tokens: the same,byte by byte. -/
namespace Go.Proofs.YtbmebfgapjhchaaGreatDoor
namespace M
theorem cc_lo {t:List UInt8} (h:t≠[]) (h1:(t.getD 0 0).toNat<128):cc t=((t.getD 0 0).toNat:Int)∧sz t=1∧nx t=t.drop 1:=by
 have hs:=sz_ascii h h1
 have:=head_cases h hs
 refine ⟨?_,hs,by unfold nx;rw [hs]⟩
 rw [cc_some h]
 congr 1
 omega
end M
end Go.Proofs.YtbmebfgapjhchaaGreatDoor
/- Plain mathematics: a token hangs on its own bytes and on four behind it. -/
namespace Go.Proofs.YtbmebfgapjhchaaGreatDoor
namespace M
open Go.Lib (decodeN)
end M
end Go.Proofs.YtbmebfgapjhchaaGreatDoor
/- Plain mathematics: the tokens of a text in which a piece is replaced. -/
namespace Go.Proofs.YtbmebfgapjhchaaGreatDoor
namespace M
theorem toks_ge (n:Nat):∀ (p:Nat) (t:List UInt8),t.length≤n→∀ k∈toks p t,p≤k.pos∧k.pos+k.len≤p+t.length∧1≤k.len:=by
 induction n with
 | zero =>
  intro p t h k hk
  have:t=[]:=List.length_eq_zero_iff.1 (by omega)
  subst this;rw [toks_nil] at hk;cases hk
 | succ n ih =>
  intro p t h k hk
  by_cases h0:t=[]
  ·subst h0;rw [toks_nil] at hk;cases hk
  ·have hb:=tok_bounds h0
   rw [toks_cons h0] at hk
   rcases List.mem_cons.1 hk with rfl|hk
   ·simp only;omega
   ·have:=ih _ _ (by rw [List.length_drop];omega) k hk
    rw [List.length_drop] at this;omega
end M
end Go.Proofs.YtbmebfgapjhchaaGreatDoor
/- Plain mathematics: what stays ahead;all tokens of a text in which a piece is replaced. -/
namespace Go.Proofs.YtbmebfgapjhchaaGreatDoor
namespace M
end M
end Go.Proofs.YtbmebfgapjhchaaGreatDoor
