/- Plain mathematics: the tokens of a text as a tree is read from them. -/
import Derived.Test.YtbmebfgapjhchaaGreatDoorKa
import Derived.Test.YtbmebfgapjhchaaGreatDoorCb
namespace Go.Proofs.YtbmebfgapjhchaaGreatDoor
namespace X
open M
def tkx (l:List UInt8) (t:Tk):Tok:=(t.kind,(l.drop t.pos).take t.len)
def xt (l:List UInt8):List Tok:=(toks 0 l).map (tkx l)
theorem xt_go (l:List UInt8) (n:Nat):∀ p,(l.drop p).length≤n→tb ((toks p (l.drop p)).map (tkx l))=l.drop p:=by
 induction n with
 | zero =>
  intro p h
  have:l.drop p=[]:=List.length_eq_zero_iff.1 (by omega)
  rw [this,toks_nil];rfl
 | succ n ih =>
  intro p h
  by_cases h0:l.drop p=[]
  ·rw [h0,toks_nil];rfl
  ·have hb:=tok_bounds h0
   have hp:=List.length_pos_iff.2 h0
   rw [toks_cons h0,List.map_cons,List.drop_drop]
   have:=ih (p+(tok (l.drop p)).2) (by rw [List.length_drop] at h hp ⊢;omega)
   show (l.drop p).take (tok (l.drop p)).2++tb ((toks (p+(tok (l.drop p)).2) (l.drop (p+(tok (l.drop p)).2))).map (tkx l))=_
   rw [this]
   rw [← List.drop_drop,List.take_append_drop]
theorem xt_tb (l:List UInt8):tb (xt l)=l:=by
 have:=xt_go l _ 0 (Nat.le_refl _)
 rw [List.drop_zero] at this
 exact this
def signs:List (List UInt8):=[[40],[41],[91],[93],[44],[59],[61],[60],[43],[45],[42],[46],[63],[61,62],[61,61],[43,43]]
def Fits (t:Tok):Prop:=(t.2∈words→t.1=4)∧(t.2=sName→t.1=3)∧(t.2∈signs→t.1=7)∧1≤t.1∧t.1≤8∧t.2≠[]
theorem head_take {t:List UInt8} {n:Nat} {b:UInt8} {x:List UInt8} (h:t.take n=b::x):t≠[]∧t.getD 0 0=b:=by
 cases t with
 | nil=>simp at h
 | cons a t =>
  cases n with
  | zero=>simp at h
  | succ n =>
   rw [List.take_succ_cons] at h
   injection h with h1 h2
   exact ⟨by simp,by simpa using h1⟩
theorem letter_kind {t:List UInt8} {b:UInt8} {x:List UInt8} (h:t.take (tok t).2=b::x) (hb:97≤b.toNat∧b.toNat≤122):(tok t).1=if wordB (b::x) then 4 else 3:=by
 obtain ⟨h0,h1⟩:=head_take h
 obtain ⟨c1,c2,c3⟩:=cc_lo h0 (by rw [h1];omega)
 rw [h1] at c1
 have e1:isSp (cc t)=false:=by unfold isSp;rw [c1];simp;omega
 have e2:isLt (cc t)=true:=by unfold isLt;rw [c1];simp;omega
 have e3:tok t=(if wordB (t.take (sz t+skip isNm (nx t))) then 4 else 3,sz t+skip isNm (nx t)):=by
  unfold tok;rw [if_neg (by rw [e1];simp),if_pos e2]
 have e4:(tok t).2=sz t+skip isNm (nx t):=by rw [e3]
 rw [e4] at h
 rw [e3,h]
theorem sign_kind {t:List UInt8} {b:UInt8} {x:List UInt8} (h:t.take (tok t).2=b::x) (hb:isSg (b.toNat:Int)=true) (hx:b.toNat=45→x=[]):(tok t).1=7:=by
 obtain ⟨h0,h1⟩:=head_take h
 have hb':b.toNat<128:=by unfold isSg at hb;simp at hb;omega
 obtain ⟨c1,c2,c3⟩:=cc_lo h0 (by rw [h1];omega)
 rw [h1] at c1
 have e1:isSp (cc t)=false:=by unfold isSp;rw [c1];unfold isSg at hb;simp at hb ⊢;omega
 have e2:isLt (cc t)=false:=by unfold isLt;rw [c1];unfold isSg at hb;simp at hb ⊢;omega
 have e3:isDg (cc t)=false:=by unfold isDg;rw [c1];unfold isSg at hb;simp at hb ⊢;omega
 have e4:¬ cc t=34:=by rw [c1];unfold isSg at hb;simp at hb;omega
 have e5:¬(cc t=123∧cc (nx t)=45):=by rw [c1];unfold isSg at hb;simp at hb;omega
 have e7:isSg (cc t)=true:=by rw [c1];exact hb
 have e8:tok t=if cc t=45∧cc (nx t)=45 then (2,1+skip isLn (nx t)) else if isPr (cc t) (cc (nx t)) then (7,2) else (7,1):=by
  unfold tok
  rw [if_neg (by rw [e1];simp),if_neg (by rw [e2];simp),if_neg (by rw [e3];simp),if_neg e4,if_neg e5,if_pos e7]
 by_cases e6:cc t=45∧cc (nx t)=45
 ·exfalso
  rw [if_pos e6] at e8
  have hx0:=hx (by rw [c1] at e6;omega)
  have hn:nx t≠[]:=ne_of_cc e6.2 (by decide)
  have:1≤skip isLn (nx t):=by
   rw [skip_yes hn (by unfold isLn;rw [e6.2];decide)]
   have:=sz_pos hn;omega
  have hl:=congrArg List.length h
  rw [e8,hx0,List.length_take] at hl
  have hb2:=(tok_bounds h0).2.2.2
  rw [e8] at hb2
  simp only [List.length_singleton] at hl
  simp only at hb2
  omega
 ·rw [if_neg e6] at e8
  rw [e8];split<;>rfl
theorem fits_tok {t:List UInt8} (h0:t≠[]):Fits ((tok t).1,t.take (tok t).2):=by
 have hb:=tok_bounds h0
 refine ⟨?_,?_,?_,hb.1,hb.2.1,?_⟩
 ·intro h
  simp only [words,List.mem_cons,List.not_mem_nil,or_false] at h
  rcases h with h|h|h|h|h|h|h|h|h|h|h|h<;>(rw [letter_kind h (by decide)];rfl)
 ·intro h
  show (tok t).1=3
  rw [letter_kind (b:=110) (x:=[97,109,101]) h (by decide)];rfl
 ·intro h
  simp only [signs,List.mem_cons,List.not_mem_nil,or_false] at h
  rcases h with h|h|h|h|h|h|h|h|h|h|h|h|h|h|h|h<;>exact sign_kind h (by decide) (by decide)
 ·intro h
  have h2:(t.take (tok t).2).length=0:=congrArg List.length h
  rw [List.length_take] at h2
  have:=List.length_pos_iff.2 h0
  omega
theorem fits_go (l:List UInt8) (n:Nat):∀ p,(l.drop p).length≤n→∀ t∈(toks p (l.drop p)).map (tkx l),Fits t:=by
 induction n with
 | zero =>
  intro p h t ht
  have:l.drop p=[]:=List.length_eq_zero_iff.1 (by omega)
  rw [this,toks_nil] at ht;cases ht
 | succ n ih =>
  intro p h t ht
  by_cases h0:l.drop p=[]
  ·rw [h0,toks_nil] at ht;cases ht
  ·have hb:=tok_bounds h0
   have hp:=List.length_pos_iff.2 h0
   rw [toks_cons h0,List.map_cons,List.drop_drop] at ht
   rcases List.mem_cons.1 ht with rfl|ht
   ·exact fits_tok h0
   ·exact ih (p+(tok (l.drop p)).2) (by rw [List.length_drop] at h hp ⊢;omega) t ht
theorem xt_fits (l:List UInt8):∀ t∈xt l,Fits t:=by
 have:=fits_go l _ 0 (Nat.le_refl _)
 rw [List.drop_zero] at this
 exact this
def wordN (ts:List Tok):List UInt8:=match nxt ts with|some t=>t.2|none=>[]
def pN (s:List UInt8) (ts:List Tok):Bool:=s==wordN ts||(s==sName&&kindN ts==3)
def Good (ts:List Tok):Prop:=∀ t∈ts,Fits t
theorem nxt_mem {ts:List Tok} {t:Tok} (h:nxt ts=some t):t∈ts:=by
 unfold nxt at h
 exact (List.dropWhile_sublist _).subset (List.mem_of_mem_head? (by rw [h];rfl))
theorem pN_sign {s:List UInt8} {ts:List Tok} (hg:Good ts) (hs:s∈words∨s∈signs):pN s ts=isN s ts:=by
 have hn:(s==sName)=false:=by
  rw [beq_eq_false_iff_ne];rintro rfl
  rcases hs with h|h<;>revert h<;>decide
 have hne:s≠[]:=by
  rintro rfl
  rcases hs with h|h<;>revert h<;>decide
 unfold pN wordN isN
 rw [hn,Bool.false_and,Bool.or_false]
 cases h:nxt ts with
 | none=>simp only;rw [beq_eq_false_iff_ne];exact hne
 | some t =>
  simp only
  obtain ⟨f1,-,f3,-⟩:=hg t (nxt_mem h)
  by_cases e:s=t.2
  ·subst e
   have:(t.1==4||t.1==7)=true:=by
    rcases hs with h|h
    ·rw [f1 h];rfl
    ·rw [f3 h];rfl
   rw [this];simp
  ·have e1:(s==t.2)=false:=beq_eq_false_iff_ne.2 e
   have e2:(t.2==s)=false:=beq_eq_false_iff_ne.2 (fun h=>e h.symm)
   rw [e1,e2,Bool.and_false]
theorem pN_name {ts:List Tok} (hg:Good ts):pN sName ts=(kindN ts==3):=by
 unfold pN wordN kindN
 cases h:nxt ts with
 | none=>rfl
 | some t =>
  simp only
  obtain ⟨-,f2,-⟩:=hg t (nxt_mem h)
  by_cases e:sName=t.2
  ·rw [f2 e.symm];simp
  ·rw [beq_eq_false_iff_ne.2 e];simp
end X
end Go.Proofs.YtbmebfgapjhchaaGreatDoor
