/- Plain mathematics: the tokens of a text as a tree is read from them. -/
import Derived.Test.YtgpcpbmacdhlkaaGreatDoorKa
import Derived.Test.YtgpcpbmacdhlkaaGreatDoorCb
namespace Go.Proofs.YtgpcpbmacdhlkaaGreatDoor
namespace X
open M
def tkx (l:List UInt8) (t:Tk):Tok:=(t.kind,(l.drop t.pos).take t.len)
def xt (l:List UInt8):List Tok:=(toks 0 l).map (tkx l)
theorem xt_go (l:List UInt8) (n:Nat):∀ p,(l.drop p).length≤n→tb ((toks p (l.drop p)).map (tkx l))=l.drop p:=by
 induction n with
 | zero =>
  intro p h
  have:l.drop p=[]:=List.length_eq_zero_iff.1 (by omega)
  rw [this,toks_nil];rfl
 | succ n ih =>
  intro p h
  by_cases h0:l.drop p=[]
  ·rw [h0,toks_nil];rfl
  ·have hb:=tok_bounds h0
   have hp:=List.length_pos_iff.2 h0
   rw [toks_cons h0,List.map_cons,List.drop_drop]
   have:=ih (p+(tok (l.drop p)).2) (by rw [List.length_drop] at h hp ⊢;omega)
   show (l.drop p).take (tok (l.drop p)).2++tb ((toks (p+(tok (l.drop p)).2) (l.drop (p+(tok (l.drop p)).2))).map (tkx l))=_
   rw [this]
   rw [← List.drop_drop,List.take_append_drop]
theorem xt_tb (l:List UInt8):tb (xt l)=l:=by
 have:=xt_go l _ 0 (Nat.le_refl _)
 rw [List.drop_zero] at this
 exact this
def signs:List (List UInt8):=[[40],[41],[91],[93],[44],[59],[61],[60],[43],[45],[42],[46],[63],[61,62],[61,61],[43,43]]
def Fits (t:Tok):Prop:=(t.2∈words→t.1=4)∧(t.2=sName→t.1=3)∧(t.2∈signs→t.1=7)∧1≤t.1∧t.1≤8∧t.2≠[]
theorem head_take {t:List UInt8} {n:Nat} {b:UInt8} {x:List UInt8} (h:t.take n=b::x):t≠[]∧t.getD 0 0=b:=by
 cases t with
 | nil=>simp at h
 | cons a t =>
  cases n with
  | zero=>simp at h
  | succ n =>
   rw [List.take_succ_cons] at h
   injection h with h1 h2
   exact ⟨by simp,by simpa using h1⟩
theorem letter_kind {t:List UInt8} {b:UInt8} {x:List UInt8} (h:t.take (tok t).2=b::x) (hb:97≤b.toNat∧b.toNat≤122):(tok t).1=if wordB (b::x) then 4 else 3:=by
 obtain ⟨h0,h1⟩:=head_take h
 obtain ⟨c1,c2,c3⟩:=cc_lo h0 (by rw [h1];omega)
 rw [h1] at c1
 have e1:isSp (cc t)=false:=by unfold isSp;rw [c1];simp;omega
 have e2:isLt (cc t)=true:=by unfold isLt;rw [c1];simp;omega
 have e3:tok t=(if wordB (t.take (sz t+skip isNm (nx t))) then 4 else 3,sz t+skip isNm (nx t)):=by
  unfold tok;rw [if_neg (by rw [e1];simp),if_pos e2]
 have e4:(tok t).2=sz t+skip isNm (nx t):=by rw [e3]
 rw [e4] at h
 rw [e3,h]
theorem sign_kind {t:List UInt8} {b:UInt8} {x:List UInt8} (h:t.take (tok t).2=b::x) (hb:isSg (b.toNat:Int)=true) (hx:b.toNat=45→x=[]):(tok t).1=7:=by
 obtain ⟨h0,h1⟩:=head_take h
 have hb':b.toNat<128:=by unfold isSg at hb;simp at hb;omega
 obtain ⟨c1,c2,c3⟩:=cc_lo h0 (by rw [h1];omega)
 rw [h1] at c1
 have e1:isSp (cc t)=false:=by unfold isSp;rw [c1];unfold isSg at hb;simp at hb ⊢;omega
 have e2:isLt (cc t)=false:=by unfold isLt;rw [c1];unfold isSg at hb;simp at hb ⊢;omega
 have e3:isDg (cc t)=false:=by unfold isDg;rw [c1];unfold isSg at hb;simp at hb ⊢;omega
 have e4:¬ cc t=34:=by rw [c1];unfold isSg at hb;simp at hb;omega
 have e5:¬(cc t=123∧cc (nx t)=45):=by rw [c1];unfold isSg at hb;simp at hb;omega
 have e7:isSg (cc t)=true:=by rw [c1];exact hb
 have e8:tok t=if cc t=45∧cc (nx t)=45 then (2,1+skip isLn (nx t)) else if isPr (cc t) (cc (nx t)) then (7,2) else (7,1):=by
  unfold tok
  rw [if_neg (by rw [e1];simp),if_neg (by rw [e2];simp),if_neg (by rw [e3];simp),if_neg e4,if_neg e5,if_pos e7]
 by_cases e6:cc t=45∧cc (nx t)=45
 ·exfalso
  rw [if_pos e6] at e8
  have hx0:=hx (by rw [c1] at e6;omega)
  have hn:nx t≠[]:=ne_of_cc e6.2 (by decide)
  have:1≤skip isLn (nx t):=by
   rw [skip_yes hn (by unfold isLn;rw [e6.2];decide)]
   have:=sz_pos hn;omega
  have hl:=congrArg List.length h
  rw [e8,hx0,List.length_take] at hl
  have hb2:=(tok_bounds h0).2.2.2
  rw [e8] at hb2
  simp only [List.length_singleton] at hl
  simp only at hb2
  omega
 ·rw [if_neg e6] at e8
  rw [e8];split<;>rfl
theorem fits_tok {t:List UInt8} (h0:t≠[]):Fits ((tok t).1,t.take (tok t).2):=by
 have hb:=tok_bounds h0
 refine ⟨?_,?_,?_,hb.1,hb.2.1,?_⟩
 ·intro h
  simp only [words,List.mem_cons,List.not_mem_nil,or_false] at h
  rcases h with h|h|h|h|h|h|h|h|h|h|h|h<;>(rw [letter_kind h (by decide)];rfl)
 ·intro h
  show (tok t).1=3
  rw [letter_kind (b:=110) (x:=[97,109,101]) h (by decide)];rfl
 ·intro h
  simp only [signs,List.mem_cons,List.not_mem_nil,or_false] at h
  rcases h with h|h|h|h|h|h|h|h|h|h|h|h|h|h|h|h<;>exact sign_kind h (by decide) (by decide)
 ·intro h
  have h2:(t.take (tok t).2).length=0:=congrArg List.length h
  rw [List.length_take] at h2
  have:=List.length_pos_iff.2 h0
  omega
theorem fits_go (l:List UInt8) (n:Nat):∀ p,(l.drop p).length≤n→∀ t∈(toks p (l.drop p)).map (tkx l),Fits t:=by
 induction n with
 | zero =>
  intro p h t ht
  have:l.drop p=[]:=List.length_eq_zero_iff.1 (by omega)
  rw [this,toks_nil] at ht;cases ht
 | succ n ih =>
  intro p h t ht
  by_cases h0:l.drop p=[]
  ·rw [h0,toks_nil] at ht;cases ht
  ·have hb:=tok_bounds h0
   have hp:=List.length_pos_iff.2 h0
   rw [toks_cons h0,List.map_cons,List.drop_drop] at ht
   rcases List.mem_cons.1 ht with rfl|ht
   ·exact fits_tok h0
   ·exact ih (p+(tok (l.drop p)).2) (by rw [List.length_drop] at h hp ⊢;omega) t ht
theorem xt_fits (l:List UInt8):∀ t∈xt l,Fits t:=by
 have:=fits_go l _ 0 (Nat.le_refl _)
 rw [List.drop_zero] at this
 exact this
def wordN (ts:List Tok):List UInt8:=match nxt ts with|some t=>t.2|none=>[]
def pN (s:List UInt8) (ts:List Tok):Bool:=s==wordN ts||(s==sName&&kindN ts==3)
def Good (ts:List Tok):Prop:=∀ t∈ts,Fits t
theorem nxt_mem {ts:List Tok} {t:Tok} (h:nxt ts=some t):t∈ts:=by
 unfold nxt at h
 exact (List.dropWhile_sublist _).subset (List.mem_of_mem_head? (by rw [h];rfl))
theorem pN_sign {s:List UInt8} {ts:List Tok} (hg:Good ts) (hs:s∈words∨s∈signs):pN s ts=isN s ts:=by
 have hn:(s==sName)=false:=by
  rw [beq_eq_false_iff_ne];rintro rfl
  rcases hs with h|h<;>revert h<;>decide
 have hne:s≠[]:=by
  rintro rfl
  rcases hs with h|h<;>revert h<;>decide
 unfold pN wordN isN
 rw [hn,Bool.false_and,Bool.or_false]
 cases h:nxt ts with
 | none=>simp only;rw [beq_eq_false_iff_ne];exact hne
 | some t =>
  simp only
  obtain ⟨f1,-,f3,-⟩:=hg t (nxt_mem h)
  by_cases e:s=t.2
  ·subst e
   have:(t.1==4||t.1==7)=true:=by
    rcases hs with h|h
    ·rw [f1 h];rfl
    ·rw [f3 h];rfl
   rw [this];simp
  ·have e1:(s==t.2)=false:=beq_eq_false_iff_ne.2 e
   have e2:(t.2==s)=false:=beq_eq_false_iff_ne.2 (fun h=>e h.symm)
   rw [e1,e2,Bool.and_false]
theorem pN_name {ts:List Tok} (hg:Good ts):pN sName ts=(kindN ts==3):=by
 unfold pN wordN kindN
 cases h:nxt ts with
 | none=>rfl
 | some t =>
  simp only
  obtain ⟨-,f2,-⟩:=hg t (nxt_mem h)
  by_cases e:sName=t.2
  ·rw [f2 e.symm];simp
  ·rw [beq_eq_false_iff_ne.2 e];simp
end X
end Go.Proofs.YtgpcpbmacdhlkaaGreatDoor
/- Plain mathematics: the tokens of a text,spaces aside;what they are if tokens are written one behind the other. -/
namespace Go.Proofs.YtgpcpbmacdhlkaaGreatDoor
namespace X
open M
theorem xt_nil:xt []=[]:=by unfold xt;rw [toks_nil];rfl
theorem xt_at (n:Nat):∀ (t:List UInt8) (a p:Nat),(t.drop (a+p)).length≤n→(toks (a+p) (t.drop (a+p))).map (tkx t)=(toks p (t.drop (a+p))).map (tkx (t.drop a)):=by
 induction n with
 | zero =>
  intro t a p h
  have:t.drop (a+p)=[]:=List.length_eq_zero_iff.1 (by omega)
  rw [this,toks_nil,toks_nil];rfl
 | succ n ih =>
  intro t a p h
  by_cases h0:t.drop (a+p)=[]
  ·rw [h0,toks_nil,toks_nil];rfl
  ·have hb:=tok_bounds h0
   have hp:=List.length_pos_iff.2 h0
   rw [toks_cons h0,toks_cons h0,List.map_cons,List.map_cons,List.drop_drop]
   have:=ih t a (p+(tok (t.drop (a+p))).2) (by rw [List.length_drop] at h hp ⊢;omega)
   rw [← Nat.add_assoc] at this
   rw [this]
   congr 1
   unfold tkx
   simp only [List.drop_drop]
theorem xt_cons {t:List UInt8} (h:t≠[]):xt t=((tok t).1,t.take (tok t).2)::xt (t.drop (tok t).2):=by
 unfold xt
 rw [toks_cons h,List.map_cons]
 have:=xt_at _ t (tok t).2 0 (Nat.le_refl _)
 rw [Nat.add_zero] at this
 rw [Nat.zero_add,this]
 rfl
end X
end Go.Proofs.YtgpcpbmacdhlkaaGreatDoor
/- Plain mathematics: the layout of a tree. -/
namespace Go.Proofs.YtgpcpbmacdhlkaaGreatDoor
namespace X
open M
def quietP:Part→Bool
 | .leaf k _=>k==1||k==2
 | _=>false
def pts (ps:List Part):List Part:=ps.filter (fun p=>!quietP p)
theorem pts_append (a b:List Part):pts (a++b)=pts a++pts b:=List.filter_append ..
abbrev Lf:=Tok × Bool
mutual
def fl (g:Bool):Part→List Lf
 | .leaf k x=>if k=1∨k=2 then [] else [((k,x),g&&x==[40])]
 | .miss _=>[]
 | .br k ps=>fls (k==14) ps
def fls (g:Bool):List Part→List Lf
 | []=>[]
 | p::ps=>fl g p++fls g ps
end
theorem fls_append (g:Bool) (l r:List Part):fls g (l++r)=fls g l++fls g r:=by
 induction l with
 | nil=>rfl
 | cons p l ih=>rw [List.cons_append,fls,ih,fls,List.append_assoc]
def tight (b a:Lf):Bool:=b.1.2==[40]||b.1.2==[91]||b.1.2==[46]||a.1.2==[46]||a.1.2==[41]||a.1.2==[93]||a.1.2==[44]||a.1.2==[59]||(a.1.2==[40]&&!a.2)
def flt:List Lf→List UInt8
 | []=>[]
 | [a]=>a.1.2
 | b::a::l=>b.1.2++((if tight b a then [] else [32])++flt (a::l))
def flat (ps:List Part):List UInt8:=flt (fls false ps)
def chars (t:List UInt8):Nat:=if _h:t=[] then 0 else 1+chars (nx t)
termination_by t.length
decreasing_by exact nx_lt _h
def line (n:Nat) (s:List UInt8):List UInt8:=List.replicate n 32++(s++[10])
def sElse:List UInt8:=[101,108,115,101]
def kidsOf:Part→List Part
 | .br _ ps=>ps
 | _=>[]
def kindOf:Part→Nat
 | .leaf _ _=>0
 | .miss _=>1
 | .br k _=>k
def textOf:Part→List UInt8
 | .leaf _ x=>x
 | .miss m=>m
 | .br _ _=>[]
def many (E:Part→List UInt8→List UInt8):List Part→List UInt8
 | []=>[]
 | [_]=>[]
 | [p,_]=>E p []
 | p::_::q::l=>E p [44]++many E (q::l)
def nil1:Part:=.miss []
def bracket (E:Part→List UInt8→List UInt8) (n:Nat) (whole first:List UInt8) (l:List Part) (e:List UInt8):List UInt8 :=
 if l.length=2 then whole else line n first++(many E (l.drop 1)++line n (textOf (l.getD (l.length - 1) nil1)++e))
def ex:Nat→Nat→Part→List UInt8→List UInt8
 | 0,n,x,e=>line n (flat [x]++e)
 | f+1,n,x,e =>
  if n+chars (flat [x])+1≤80 then line n (flat [x]++e)
  else if kindOf x=7 then line n (flat ((pts (kidsOf x)).take 5))++ex f n ((pts (kidsOf x)).getD 5 nil1) e
  else if kindOf x=8 then line n (flat ((pts (kidsOf x)).take 3))++(ex f (n+2) ((pts (kidsOf x)).getD 3 nil1) []++(line n sElse++ex f (n+2) ((pts (kidsOf x)).getD 5 nil1) e))
  else if kindOf x=9 then line n (flat ((pts (kidsOf x)).take 3))++ex f (n+2) ((pts (kidsOf x)).getD 3 nil1) e
  else if kindOf x=10 then ex f n ((pts (kidsOf x)).getD 0 nil1) []++(line n (textOf ((pts (kidsOf x)).getD 1 nil1))++ex f (n+2) ((pts (kidsOf x)).getD 2 nil1) e)
  else if kindOf x=11 then bracket (ex f (n+2)) n (line n (flat [x]++e)) (flat [(pts (kidsOf x)).getD 0 nil1]++[40]) (pts (kidsOf ((pts (kidsOf x)).getD 1 nil1))) e
  else if kindOf x=13 then bracket (ex f (n+2)) n (line n (flat [x]++e)) [91] (pts (kidsOf x)) e
  else if kindOf x=14 then bracket (ex f (n+2)) n (line n (flat [x]++e)) [40] (pts (kidsOf x)) e
  else line n (flat [x]++e)
def lou (t:Tok):Bool:=!(t.1==1||t.1==2)
def nt (p:Part):List Tok:=(pl p).filter lou
def nts' (ps:List Part):List Tok:=(pls ps).filter lou
theorem nts_append (l r:List Part):nts' (l++r)=nts' l++nts' r:=by unfold nts';rw [pls_append,List.filter_append]
theorem nts_one (p:Part):nts' [p]=nt p:=by unfold nts' nt;rw [pls,pls,List.append_nil]
theorem nts_cons (p:Part) (ps:List Part):nts' (p::ps)=nt p++nts' ps:=by rw [← nts_one,← nts_append];rfl
theorem nts_nil:nts' []=[]:=rfl
mutual
theorem fl_fst (g:Bool):∀ p:Part,(fl g p).map (·.1)=nt p
 | .leaf k x=>by
  unfold fl nt
  rw [pl]
  by_cases h:k=1∨k=2
  ·rw [if_pos h,List.filter_cons_of_neg (by simp [lou];omega)];rfl
  ·rw [if_neg h,List.filter_cons_of_pos (by simp [lou];omega)];rfl
 | .miss _=>by unfold fl nt;rw [pl];rfl
 | .br k ps=>by
  have:=fls_fst (k==14) ps
  unfold fl nt;rw [pl];exact this
theorem fls_fst (g:Bool):∀ ps:List Part,(fls g ps).map (·.1)=nts' ps
 | []=>rfl
 | p::ps=>by rw [fls,List.map_append,fl_fst g p,fls_fst g ps,nts_cons]
end
theorem flt_head (a:Lf) (l:List Lf):∃ s,flt (a::l)=a.1.2++s:=by
 cases l with
 | nil=>exact ⟨[],by rw [flt,List.append_nil]⟩
 | cons b l=>exact ⟨_,rfl⟩
end X
end Go.Proofs.YtgpcpbmacdhlkaaGreatDoor
/- Plain mathematics: the lines of an expression are read as what it is made of. -/
namespace Go.Proofs.YtgpcpbmacdhlkaaGreatDoor
namespace X
open M
mutual
inductive Sh:Part→Prop
 | tok (k:Nat) (t:Tok) (ps:List Part) (hk:15≤k∧k≤19) (h:pts ps=[lf t]):Sh (.br k ps)
 | lett (ps:List Part) (a b c d:Tok) (p q:Part) (h:pts ps=[lf a,lf b,lf c,p,lf d,q]) (hp:Sh p) (hq:Sh q):Sh (.br 7 ps)
 | ite (ps:List Part) (a b c:Tok) (p q s:Part) (h:pts ps=[lf a,p,lf b,q,lf c,s]) (hc:c.2=sElse) (hp:Sh p) (hq:Sh q) (hs:Sh s):Sh (.br 8 ps)
 | fn (ps:List Part) (a b:Tok) (qs:List Part) (p:Part) (h:pts ps=[lf a,.br 6 qs,lf b,p]) (hp:Sh p):Sh (.br 9 ps)
 | bin (ps:List Part) (p:Part) (a:Tok) (q:Part) (h:pts ps=[p,lf a,q]) (hp:Sh p) (hq:Sh q):Sh (.br 10 ps)
 | call (ps:List Part) (p:Part) (qs:List Part) (h:pts ps=[p,.br 12 qs]) (hp:Sh p) (hb:ShB [40] [41] (pts qs)):Sh (.br 11 ps)
 | list (ps:List Part) (hb:ShB [91] [93] (pts ps)):Sh (.br 13 ps)
 | group (ps:List Part) (a:Tok) (p:Part) (b:Tok) (h:pts ps=[lf a,p,lf b]) (ha:a.2=[40]) (hb:b.2=[41]) (hp:Sh p):Sh (.br 14 ps)
inductive ShB:List UInt8→List UInt8→List Part→Prop
 | none (o c:List UInt8) (a b:Tok) (ha:a.2=o) (hb:b.2=c):ShB o c [lf a,lf b]
 | some (o c:List UInt8) (a:Tok) (l:List Part) (ha:a.2=o) (h:ShA c l):ShB o c (lf a::l)
inductive ShA:List UInt8→List Part→Prop
 | last (c:List UInt8) (p:Part) (b:Tok) (hp:Sh p) (hb:b.2=c):ShA c [p,lf b]
 | more (c:List UInt8) (p:Part) (b:Tok) (q:Part) (l:List Part) (hp:Sh p) (hb:b.2=[44]) (h:ShA c (q::l)):ShA c (p::lf b::q::l)
end
theorem nt_lf (t:Tok):nt (lf t)=if lou t then [t] else []:=by
 unfold nt lf
 rw [pl]
 show List.filter lou [t]=_
 cases h:lou t with
 | true=>rw [List.filter_cons_of_pos h,if_pos rfl];rfl
 | false=>rw [List.filter_cons_of_neg (by simp [h]),if_neg (by simp)];rfl
theorem pts_lou {ps:List Part} {t:Tok} (h:lf t∈pts ps):lou t=true:=by
 have:=(List.mem_filter.1 h).2
 unfold lou
 simpa [quietP,lf] using this
theorem nt_lf' {ps:List Part} {t:Tok} (h:lf t∈pts ps):nt (lf t)=[t]:=by rw [nt_lf,if_pos (pts_lou h)]
theorem nts_pts (ps:List Part):nts' ps=nts' (pts ps):=by
 induction ps with
 | nil=>rfl
 | cons p ps ih =>
  unfold pts
  cases hq:quietP p with
  | true =>
   rw [List.filter_cons_of_neg (by simp [hq]),nts_cons,ih]
   cases p with
   | leaf k x =>
    have:nt (.leaf k x)=[]:=by
     have e:(.leaf k x:Part)=lf (k,x):=rfl
     rw [e,nt_lf,if_neg]
     unfold lou;unfold quietP at hq;simp only at hq ⊢;rw [hq];simp
    rw [this];rfl
   | miss m=>cases hq
   | br k qs=>cases hq
  | false=>rw [List.filter_cons_of_pos (by simp [hq]),nts_cons,nts_cons,ih];rfl
theorem nt_br (k:Nat) (ps:List Part):nt (.br k ps)=nts' (pts ps):=by
 rw [← nts_pts];unfold nt nts';rw [pl]
end X
end Go.Proofs.YtgpcpbmacdhlkaaGreatDoor
/- Plain mathematics: the lines of an expression are read as what it is made of: all of them. -/
namespace Go.Proofs.YtgpcpbmacdhlkaaGreatDoor
namespace X
open M
theorem mem_pts {ps:List Part} {l:List Part} (h:pts ps=l) {t:Tok} (ht:lf t∈l):lou t=true:=pts_lou (ps:=ps) (by rw [h];exact ht)
end X
end Go.Proofs.YtgpcpbmacdhlkaaGreatDoor
/- Plain mathematics: a flat text token by token,and lines that are pieces of it. -/
namespace Go.Proofs.YtgpcpbmacdhlkaaGreatDoor
open M
namespace X
def sep (b a:Lf):List UInt8:=if tight b a then [] else [32]
def gap (L:List Lf) (a:Lf):List UInt8:=match L.getLast? with
 | none=>[]
 | some b=>sep b a
theorem gap_cons (b c:Lf) (l:List Lf) (a:Lf):gap (b::c::l) a=gap (c::l) a:=by unfold gap;rw [List.getLast?_cons_cons]
theorem flt_app:∀ (A:List Lf) (m:Lf) (M:List Lf),flt (A++m::M)=flt A++(gap A m++flt (m::M))
 | [],m,M=>rfl
 | [b],m,M=>rfl
 | b::c::A,m,M=>by
  have ih:=flt_app (c::A) m M
  rw [gap_cons]
  show b.1.2++((if tight b c then [] else [32])++flt (c::(A++m::M)))=(b.1.2++((if tight b c then [] else [32])++flt (c::A)))++_
  rw [show c::(A++m::M)=(c::A)++m::M from rfl,ih,List.append_assoc,List.append_assoc]
theorem flt_snoc (A:List Lf) (a:Lf):flt (A++[a])=flt A++(gap A a++a.1.2):=flt_app A a []
theorem flt_pre (A B:List Lf):∃ r,flt (A++B)=flt A++r:=by
 cases B with
 | nil=>exact ⟨[],by rw [List.append_nil,List.append_nil]⟩
 | cons m M=>exact ⟨_,flt_app A m M⟩
def extsF (pre:List Lf):List Lf→List (Nat × Nat)
 | []=>[]
 | a::l=>((flt pre).length+(gap pre a).length,(flt (pre++[a])).length)::extsF (pre++[a]) l
def exts (L:List Lf):List (Nat × Nat):=extsF [] L
theorem extsF_append:∀ (A B pre:List Lf),extsF pre (A++B)=extsF pre A++extsF (pre++A) B
 | [],B,pre=>by rw [List.append_nil];rfl
 | a::A,B,pre=>by
  rw [List.cons_append,extsF,extsF_append A B (pre++[a]),extsF,List.append_assoc];rfl
theorem extsF_len:∀ (A pre:List Lf),(extsF pre A).length=A.length
 | [],pre=>rfl
 | a::A,pre=>by rw [extsF,List.length_cons,extsF_len A,List.length_cons]
theorem exts_len (L:List Lf):(exts L).length=L.length:=extsF_len L []
theorem exts_snoc (L:List Lf) (a:Lf):exts (L++[a])=exts L++[((flt L).length+(gap L a).length,(flt (L++[a])).length)]:=by
 unfold exts
 rw [extsF_append];rfl
theorem exts_at (A:List Lf) (a:Lf) (B:List Lf):(exts (A++a::B))[A.length]?=some ((flt A).length+(gap A a).length,(flt (A++[a])).length):=by
 unfold exts
 rw [extsF_append,List.getElem?_append_right (by rw [extsF_len];exact Nat.le_refl _),extsF_len,Nat.sub_self];rfl
def Ats (L:List Lf) (i:Nat) (M:List Lf):Prop:=∃ A B,L=A++(M++B)∧A.length=i
theorem Ats.left {L:List Lf} {i:Nat} {M N:List Lf} (h:Ats L i (M++N)):Ats L i M:=by
 obtain ⟨A,B,e,h⟩:=h
 exact ⟨A,N++B,by rw [e,List.append_assoc],h⟩
theorem Ats.right {L:List Lf} {i:Nat} {M N:List Lf} (h:Ats L i (M++N)):Ats L (i+M.length) N:=by
 obtain ⟨A,B,e,h⟩:=h
 exact ⟨A++M,B,by rw [e,List.append_assoc,List.append_assoc],by rw [List.length_append,h]⟩
theorem Ats.le {L:List Lf} {i:Nat} {M:List Lf} (h:Ats L i M):i+M.length≤L.length:=by
 obtain ⟨A,B,e,h⟩:=h
 rw [e,List.length_append,List.length_append];omega
theorem Ats.seg {L:List Lf} {i:Nat} {M:List Lf} (h:Ats L i M):(L.take (i+M.length)).drop i=M:=by
 obtain ⟨A,B,e,rfl⟩:=h
 rw [e,← List.append_assoc,List.take_left' (by rw [List.length_append]),List.drop_left' rfl]
theorem Ats.all (L:List Lf):Ats L 0 L:=⟨[],[],by simp,rfl⟩
theorem Ats.next {L:List Lf} {i:Nat} {M:List Lf} (h:Ats L i M) {a:Lf} (ha:L[i+M.length]?=some a):Ats L i (M++[a]):=by
 obtain ⟨A,B,e,rfl⟩:=h
 rw [e,← List.append_assoc,List.getElem?_append_right (by rw [List.length_append];exact Nat.le_refl _),List.length_append,Nat.sub_self] at ha
 cases B with
 | nil=>cases ha
 | cons b B =>
  obtain rfl:b=a:=by simpa using ha
  exact ⟨A,B,by rw [e];simp,rfl⟩
theorem Ats.get {L:List Lf} {i:Nat} {a:Lf} {M:List Lf} (h:Ats L i (a::M)):L[i]?=some a:=by
 obtain ⟨A,B,e,rfl⟩:=h
 rw [e,List.getElem?_append_right (Nat.le_refl _),Nat.sub_self];rfl
theorem piece_at {L:List Lf} {i:Nat} {M:List Lf} (h:Ats L i M) (hM:M≠[]):∃ a b c d,(exts L)[i]?=some (a,b)∧(exts L)[i+M.length - 1]?=some (c,d)∧a≤d∧d≤(flt L).length∧((flt L).take d).drop a=flt M∧a+(flt M).length=d:=by
 obtain ⟨A,B,e,rfl⟩:=h
 subst e
 cases M with
 | nil=>exact absurd rfl hM
 | cons m M =>
  have h1:=exts_at A m (M++B)
  obtain ⟨N,z,hz⟩:∃ N z,m::M=N++[z]:=⟨(m::M).dropLast,(m::M).getLast (by simp),(List.dropLast_concat_getLast (by simp)).symm⟩
  have hl:(m::M).length=N.length+1:=by rw [hz,List.length_append,List.length_singleton]
  have h2:=exts_at (A++N) z B
  have e1:(A++N)++z::B=A++(m::M++B):=by rw [hz];simp
  have e2:(A++N)++[z]=A++m::M:=by rw [hz];simp
  rw [e1,e2,List.length_append] at h2
  have e3:A++m::(M++B)=A++(m::M++B):=rfl
  rw [e3] at h1
  have e4:=flt_app A m M
  obtain ⟨r,hr⟩:=flt_pre (A++m::M) B
  rw [List.append_assoc] at hr
  refine ⟨_,_,_,_,h1,by rw [hl];exact h2,?_,?_,?_,?_⟩
  ·rw [e4,List.length_append,List.length_append];omega
  ·rw [hr,List.length_append];omega
  ·rw [hr,List.take_left' rfl,e4,← List.append_assoc,List.drop_left' (by rw [List.length_append])]
  ·rw [e4,List.length_append,List.length_append];omega
abbrev Lne:=Nat × Nat × Nat
def rend (L:List Lf) (l:Lne):List UInt8:=line l.1 (flt ((L.take l.2.2).drop l.2.1))
def rends (L:List Lf) (ls:List Lne):List UInt8:=ls.flatMap (rend L)
theorem rends_append (L:List Lf) (a b:List Lne):rends L (a++b)=rends L a++rends L b:=List.flatMap_append ..
theorem rends_one (L:List Lf) (l:Lne):rends L [l]=rend L l:=by unfold rends;rw [List.flatMap_cons,List.flatMap_nil,List.append_nil]
theorem rend_at {L:List Lf} {i:Nat} {M:List Lf} (h:Ats L i M) {n j:Nat} (hj:j=i+M.length):rend L (n,i,j)=line n (flt M):=by
 unfold rend
 rw [hj]
 show line n (flt ((L.take (i+M.length)).drop i))=_
 rw [h.seg]
def cl:List Lne→List Lne
 | []=>[]
 | [l]=>[(l.1,l.2.1,l.2.2+1)]
 | l::m::ls=>l::cl (m::ls)
theorem cl_append:∀ (a b:List Lne),b≠[]→cl (a++b)=a++cl b
 | [],b,_=>rfl
 | [x],b,h=>by
  cases b with
  | nil=>exact absurd rfl h
  | cons y b=>rfl
 | x::y::a,b,h=>by
  have:=cl_append (y::a) b h
  show x::cl ((y::a)++b)=_
  rw [this];rfl
theorem cl_len:∀ ls:List Lne,(cl ls).length=ls.length
 | []=>rfl
 | [_]=>rfl
 | l::m::ls=>by show (cl (m::ls)).length+1=_;rw [cl_len (m::ls)];rfl
theorem cl_last (ls:List Lne) (n a b:Nat):cl (ls++[(n,a,b)])=ls++[(n,a,b+1)]:=cl_append ls _ (by simp)
theorem tight_end {b a:Lf} (h:a.1.2=[44]∨a.1.2=[59]∨a.1.2=[41]∨a.1.2=[93]):tight b a=true:=by
 unfold tight
 rcases h with h|h|h|h<;>simp [h]
theorem flt_end {A:List Lf} {a:Lf} (h:a.1.2=[44]∨a.1.2=[59]∨a.1.2=[41]∨a.1.2=[93]):flt (A++[a])=flt A++a.1.2:=by
 rw [flt_snoc]
 have:gap A a=[]:=by
  unfold gap
  cases A.getLast? with
  | none=>rfl
  | some b=>show sep b a=[];unfold sep;rw [if_pos (tight_end h)]
 rw [this];rfl
end X
end Go.Proofs.YtgpcpbmacdhlkaaGreatDoor
/- Plain mathematics: lines that lay out some leaves,one behind the other. -/
namespace Go.Proofs.YtgpcpbmacdhlkaaGreatDoor
open M
namespace X
structure RG (L:List Lf) (i k:Nat) (ls:List Lne) (T:List UInt8):Prop where
 len:ls.length≤k
 inr:∀ l∈ls,l.1≤522∧l.2.1<l.2.2∧l.2.2≤i+k
 one:rends L ls=T
structure SG (L:List Lf) (i k:Nat) (ls:List Lne) (F:List UInt8→List UInt8):Prop where
 ne:ls≠[]
 rg:RG L i k ls (F [])
 cls:∀ a:Lf,L[i+k]?=some a→(a.1.2=[44]∨a.1.2=[59])→rends L (cl ls)=F a.1.2
theorem RG.nil (L:List Lf) (i:Nat):RG L i 0 [] []:=⟨Nat.le_refl _,fun _ h=>by simp at h,rfl⟩
theorem RG.app {L:List Lf} {i k1 k2:Nat} {l1 l2:List Lne} {T1 T2:List UInt8} (h1:RG L i k1 l1 T1) (h2:RG L (i+k1) k2 l2 T2):RG L i (k1+k2) (l1++l2) (T1++T2):=by
 refine ⟨by rw [List.length_append];have:=h1.len;have:=h2.len;omega,fun l hl=>?_,by rw [rends_append,h1.one,h2.one]⟩
 rcases List.mem_append.1 hl with h|h
 ·have:=h1.inr l h;omega
 ·have:=h2.inr l h;omega
theorem RG.then {L:List Lf} {i k1 k2:Nat} {l1 l2:List Lne} {T:List UInt8} {F:List UInt8→List UInt8} (h1:RG L i k1 l1 T) (h2:SG L (i+k1) k2 l2 F):SG L i (k1+k2) (l1++l2) (fun e=>T++F e):=by
 refine ⟨fun e=>h2.ne (List.append_eq_nil_iff.1 e).2,h1.app h2.rg,fun a ha hc=>?_⟩
 rw [cl_append _ _ h2.ne,rends_append,h1.one,h2.cls a (by rw [Nat.add_assoc];exact ha) hc]
theorem cl_mem:∀ (ls:List Lne),∀ l∈cl ls,l∈ls∨∃ m∈ls,l=(m.1,m.2.1,m.2.2+1)
 | [],l,h=>by simp [cl] at h
 | [m],l,h=>by
  have:l=(m.1,m.2.1,m.2.2+1):=by simpa [cl] using h
  exact .inr ⟨m,by simp,this⟩
 | a::m::ls,l,h=>by
  have h':l=a∨l∈cl (m::ls):=by simpa [cl] using h
  rcases h' with rfl|h'
  ·exact .inl (by simp)
  ·rcases cl_mem (m::ls) l h' with g|⟨x,hx,e⟩
   ·exact .inl (List.mem_cons_of_mem _ g)
   ·exact .inr ⟨x,List.mem_cons_of_mem _ hx,e⟩
theorem SG.close {L:List Lf} {i k:Nat} {ls:List Lne} {F:List UInt8→List UInt8} (h:SG L i k ls F) {a:Lf} (ha:L[i+k]?=some a) (hc:a.1.2=[44]∨a.1.2=[59]):RG L i (k+1) (cl ls) (F a.1.2):=by
 refine ⟨by rw [cl_len];have:=h.rg.len;omega,fun l hl=>?_,h.cls a ha hc⟩
 rcases cl_mem ls l hl with g|⟨m,hm,rfl⟩
 ·have:=h.rg.inr l g;omega
 ·have:=h.rg.inr m hm
  show m.1≤522∧m.2.1<m.2.2+1∧m.2.2+1≤i+(k+1)
  omega
theorem SG.of {L:List Lf} {i k k':Nat} {ls ls':List Lne} {F F':List UInt8→List UInt8} (h:SG L i k ls F) (hk:k=k') (hl:ls=ls') (hX:∀ e,F e=F' e):SG L i k' ls' F':=by
 subst hk hl
 have:F=F':=funext hX
 subst this
 exact h
theorem SG.line {L:List Lf} {i n j:Nat} {M:List Lf} (h:Ats L i M) (hM:M≠[]) (hn:n≤522) (hj:j=i+M.length):SG L i M.length [(n,i,j)] (fun e=>X.line n (flt M++e)):=by
 have hl:=List.length_pos_iff.2 hM
 refine ⟨by simp,⟨by rw [List.length_singleton];exact hl,fun l hl=>?_,?_⟩,fun a ha hc=>?_⟩
 ·obtain rfl:=List.mem_singleton.1 hl
  show n≤522∧i<j∧j≤i+M.length
  omega
 ·rw [rends_one,rend_at h hj,List.append_nil]
 ·have h2:=h.next ha
  show rends L [(n,i,j+1)]=_
  rw [rends_one,rend_at h2 (by rw [List.length_append,List.length_singleton,hj];omega),flt_end (by rcases hc with e|e<;>simp [e])]
theorem fl_len (g:Bool) (p:Part):(fl g p).length=(nt p).length:=by rw [← fl_fst g p,List.length_map]
theorem fls_len (g:Bool) (ps:List Part):(fls g ps).length=(nts' ps).length:=by rw [← fls_fst g ps,List.length_map]
theorem fls_one (g:Bool) (p:Part):fls g [p]=fl g p:=by rw [fls,fls,List.append_nil]
theorem flat_one (p:Part):flat [p]=flt (fl false p):=by unfold flat;rw [fls_one]
theorem fl_br (g:Bool) (k:Nat) (ps:List Part):fl g (.br k ps)=fls (k==14) ps:=by rw [fl]
theorem Sh.fl {p:Part} (h:Sh p) (g:Bool):fl g p=X.fl false p:=by
 obtain ⟨k,ps,rfl⟩:∃ k ps,p=.br k ps:=by cases h<;>exact ⟨_,_,rfl⟩
 rw [fl_br,fl_br]
theorem fls_pts (g:Bool) (ps:List Part):fls g ps=fls g (pts ps):=by
 induction ps with
 | nil=>rfl
 | cons p ps ih =>
  unfold pts
  cases hq:quietP p with
  | true =>
   rw [List.filter_cons_of_neg (by simp [hq]),fls,ih]
   cases p with
   | leaf k x =>
    have hk:k=1∨k=2:=by simpa [quietP] using hq
    rw [X.fl,if_pos hk];rfl
   | miss m=>cases hq
   | br k qs=>cases hq
  | false=>rw [List.filter_cons_of_pos (by simp [hq]),fls,fls,ih];rfl
theorem fl_lf {t:Tok} (h:lou t=true) (g:Bool):fl g (lf t)=[(t,g&&t.2==[40])]:=by
 have:¬(t.1=1∨t.1=2):=by simpa [lou] using h
 show (if t.1=1∨t.1=2 then [] else _)=_
 rw [if_neg this]
theorem SG.whole {L:List Lf} {i n j:Nat} {p:Part} {F:List UInt8→List UInt8} (h:Ats L i (fl false p)) (hp:nt p≠[]) (hn:n≤522) (hj:j=i+(nt p).length) (hX:∀ e,F e=X.line n (flat [p]++e)):SG L i (nt p).length [(n,i,j)] F:=by
 have:=fl_len false p
 refine (SG.line h (fun e=>hp ?_) hn (by rw [this];exact hj)).of this rfl (fun e=>by rw [hX,flat_one])
 rw [e] at this
 exact List.length_eq_zero_iff.1 this.symm
theorem RG.first {L:List Lf} {i n j:Nat} {M:List Lf} (h:Ats L i M) (hM:M≠[]) (hn:n≤522) (hj:j=i+M.length):RG L i M.length [(n,i,j)] (X.line n (flt M)):=by
 have:=(SG.line h hM hn hj).rg
 rw [List.append_nil] at this
 exact this
end X
end Go.Proofs.YtgpcpbmacdhlkaaGreatDoor
