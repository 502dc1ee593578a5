/- Plain mathematics of tokens: what begins a list of bytes,character by character. -/
import Derived.Test.YtdkpkpgpphkljaaGreatDoorCa
import Derived.Lib.Small
namespace Go.Proofs.YtdkpkpgpphkljaaGreatDoor
section
variable{t:ah}{c:Int}{kind deep:Nat}
namespace M
def cc(t:ah):Int:=if t=[] then -1 else(ch t:Int)
def nx(t:ah):ah:=t.drop (sz t)
theorem mR(t:ah):(nx t).length+sz t=t.length:=by
 have:=zl t;unfold nx;simp;omega
theorem BG(h:t≠[]):(nx t).length<t.length:=by
 have:=iZ h;have:=mR t;omega
theorem mU:cc []=-1:=by simp[cc]
theorem oo(h:t≠[]):cc t=(ch t:Int):=by simp[cc,h]
theorem rP:cc t=-1↔t=[]:=by
 unfold cc;split<;>simp_all
theorem jR(h:cc t=c)(hc:c≠-1):t≠[]:=fun e=>hc (by rw[← h,e,mU])
theorem Ov(h:t≠[])(h1:ch t<128):sz t=1∧ch t=(t.getD 0 0).toNat:=by
 by_cases hm:1<sz t
 ·have:=(multi hm).2.2.1;omega
 ·have hs:sz t=1:=by have:=iZ h;omega
  have:=oQ h hs;exact⟨hs,by omega⟩
theorem gP(h0:0≤cc t)(h1:cc t<128):sz t=1:=by
 have hne:t≠[]:=fun e=>by rw[e,mU] at h0;omega
 rw[oo hne] at h1;exact(Ov hne (by omega)).1
theorem aC6(t:ah):-1≤cc t∧cc t≤1114111:=by
 by_cases h:t=[]
 ·rw[h,mU];omega
 ·rw[oo h]
  by_cases hm:1<sz t
  ·have:=(multi hm).2.2;omega
  ·have:=oQ h (by have:=iZ h;omega)
   have:=toNat_lt (t.getD 0 0);omega
theorem tO(h:cc t≠-1):1≤sz t:=iZ (fun e=>h (rP.2 e))
def isSp(c:Int):Bool:=decide (c=32∨c=10∨c=9∨c=13)
def jw(c:Int):Bool:=decide (48≤c∧c≤57)
def isLt(c:Int):Bool:=decide ((97≤c∧c≤122)∨(65≤c∧c≤90)∨c=95∨(192≤c∧c≤591∧c≠215∧c≠247)∨(880≤c∧c≤1279))
def pR(c:Int):Bool:=isLt c||jw c
def uT(c:Int):Bool:=decide (c≠10)
def uU(a b:Int):Bool:=decide ((a=61∧(b=62∨b=61))∨(a=43∧b=43))
def qZ(a:Int):Bool:=decide (a∈([40,41,91,93,44,59,61,60,43,45,42,46,63]:List Int))
def skip(p:Int→Bool)(t:ah):Nat :=
 if _h:t=[] then 0 else if p (cc t) then sz t+skip p (nx t) else 0
termination_by t.length
decreasing_by exact BG _h
theorem zm(p:Int→Bool):skip p []=0:=by rw[skip];simp
theorem oU{p:Int→Bool}(h:t≠[])(hp:p (cc t)=true):skip p t=sz t+skip p (nx t):=by rw[skip];simp[h,hp]
theorem uV{p:Int→Bool}(hp:p (cc t)=false):skip p t=0:=by rw[skip];simp[hp]
theorem TY(p:Int→Bool)(n:Nat):∀ t:ah,t.length≤n→skip p t≤t.length:=by
 induction n with
 | zero=>intro t h;have:t=[]:=dL (by omega);subst this;simp[zm]
 | succ n ih =>
  intro t h;by_cases h0:t=[]
  ·subst h0;simp[zm]
  by_cases hp:p (cc t)=true
  ·rw[oU h0 hp]
   have h1:=mR t;have h2:=iZ h0;have:=ih (nx t) (by omega);omega
  ·rw[uV (by simpa using hp)];omega
theorem uW(p:Int→Bool)(t:ah):skip p t≤t.length:=TY p _ t (aj _)
def hexOf(c:Int):Int:=if 48≤c∧c≤57 then c - 48 else if 97≤c∧c≤102 then c - 87 else if 65≤c∧c≤70 then c - 55 else -1
theorem zn(c:Int):-1≤hexOf c∧hexOf c<16:=by unfold hexOf;repeat' split<;>omega
theorem su(h:0≤hexOf c):48≤c∧c≤102:=by unfold hexOf at h;repeat' split at h<;>omega
def lF:Nat→Int→ah→Int × Nat
 | 0,code,_=>(code,0)
 | n+1,code,t=>if 0≤hexOf (cc t) then((lF n (code*16+hexOf (cc t)) (nx t)).1,(lF n (code*16+hexOf (cc t)) (nx t)).2+1) else(code,0)
theorem T9(n:Nat):∀(code:Int) (t:ah),(lF n code t).2≤n∧(lF n code t).2≤t.length:=by
 induction n with
 | zero=>intro code t;simp[lF]
 | succ n ih =>
  intro code t;unfold lF
  split
  ·rename_i h
   have:=ih (code*16+hexOf (cc t)) (nx t);have h1:=su h;have h2:=gP (t:=t) (by omega) (by omega);have h3:=mR t;simp only;omega
  ·simp
def code(t:ah):Int × Bool × Nat :=
 if cc t=123 then
  if (lF 6 0 (nx t)).2=0∨cc ((nx t).drop (lF 6 0 (nx t)).2)≠125 then(0,false,1+(lF 6 0 (nx t)).2)
  else((lF 6 0 (nx t)).1,Lib.validRune (lF 6 0 (nx t)).1,2+(lF 6 0 (nx t)).2)
 else(0,false,0)
theorem T_(t:ah):(code t).2.2≤t.length:=by
 unfold code
 split
 ·rename_i h
  have h2:=gP (t:=t) (by omega) (by omega);have h3:=mR t;have h4:=(T9 6 0 (nx t)).2
  split
  ·simp only;omega
  ·rename_i h5
   simp only[not_or,Classical.not_not] at h5;have h6:=jR h5.2 (by omega);have h7:=gM.2 h6;simp at h7;simp only;omega
 ·simp
def taken(t:ah):Int × Bool × Nat :=
 if cc t=-1∨cc t=10 then(0,false,0)
 else if cc t=110 then(10,true,1)
 else if cc t=116 then(9,true,1)
 else if cc t=34∨cc t=92 then(cc t,true,1)
 else if cc t=117 then((code (nx t)).1,(code (nx t)).2.1,1+(code (nx t)).2.2)
 else(0,false,sz t)
theorem EP(t:ah):(taken t).2.2≤t.length:=by
 have h1:=mR t;have h3:=zl t;unfold taken
 split
 ·simp
 ·rename_i h
  have hp:=tO (t:=t) (fun e=>h (.inl e))
  repeat' split
  all_goals (try(simp only;omega))
  have h2:=gP (t:=t) (by omega) (by omega);have:=T_ (nx t);simp only;omega
def quo(kind:Nat)(t:ah):Nat × Nat :=
 if _h:t=[] then(8,0) else if cc t=10 then(8,0) else if cc t=34 then(kind,1)
 else if cc t=92 then
  ((quo (if (taken (nx t)).2.1 then kind else 8) ((nx t).drop (taken (nx t)).2.2)).1,1+(taken (nx t)).2.2+(quo (if (taken (nx t)).2.1 then kind else 8) ((nx t).drop (taken (nx t)).2.2)).2)
 else((quo kind (nx t)).1,sz t+(quo kind (nx t)).2)
termination_by t.length
decreasing_by
 all_goals (have:=BG _h;first|exact this|(simp;omega))
theorem uX(h:cc t=-1∨cc t=10):quo kind t=(8,0):=by
 rcases h with h|h
 ·have:=rP.1 h;subst this;rw[quo];simp
 ·have:=jR h (by omega);rw[quo];simp[this,h]
theorem ER(h:cc t=34):quo kind t=(kind,1):=by
 have:=jR h (by omega);rw[quo];simp[this,h]
theorem BH(h:cc t=92):quo kind t=((quo (if (taken (nx t)).2.1 then kind else 8) ((nx t).drop (taken (nx t)).2.2)).1,1+(taken (nx t)).2.2+(quo (if (taken (nx t)).2.1 then kind else 8) ((nx t).drop (taken (nx t)).2.2)).2):=by
 have:=jR h (by omega);rw[quo];simp[this,h]
theorem Ow(h0:cc t≠-1)(h1:cc t≠10)(h2:cc t≠34)(h3:cc t≠92):quo kind t=((quo kind (nx t)).1,sz t+(quo kind (nx t)).2):=by
 have:t≠[]:=fun e=>h0 (rP.2 e)
 conv=>lhs;rw[quo]
 simp[this,h1,h2,h3]
theorem Xo(n:Nat):∀(kind:Nat) (t:ah),t.length≤n→(quo kind t).2≤t.length∧((quo kind t).1=8∨(quo kind t).1=kind):=by
 induction n with
 | zero=>intro k t h;have:t=[]:=dL (by omega);subst this;rw[uX (.inl mU)];simp
 | succ n ih =>
  intro kind t h;by_cases h0:cc t=-1∨cc t=10
  ·rw[uX h0];simp
  have hne:t≠[]:=fun e=>h0 (.inl (rP.2 e))
  have h1:=mR t;have h2:=iZ hne;by_cases h3:cc t=34
  ·rw[ER h3];have:=zl t;exact⟨by simp only;omega,.inr rfl⟩
  by_cases h4:cc t=92
  ·rw[BH h4]
   have h5:=EP (nx t);have h6:=ih (if (taken (nx t)).2.1 then kind else 8) ((nx t).drop (taken (nx t)).2.2) (by simp;omega);simp only[bM] at h6;refine⟨by simp only;omega,?_⟩;rcases h6.2 with h7|h7
   ·exact .inl h7
   ·simp only[h7];split<;>simp
  ·rw[Ow (fun e=>h0 (.inl e)) (fun e=>h0 (.inr e)) h3 h4]
   have h6:=ih kind (nx t) (by omega);exact⟨by simp only;omega,h6.2⟩
def nest(deep:Nat)(t:ah):Nat × Nat :=
 if _h:t=[] then(8,0)
 else if cc t=123 then
  if cc (nx t)=45 then((nest (deep+1) (nx (nx t))).1,2+(nest (deep+1) (nx (nx t))).2) else((nest deep (nx t)).1,1+(nest deep (nx t)).2)
 else if cc t=45 then
  if cc (nx t)=125 then(if deep≤1 then(2,2) else((nest (deep - 1) (nx (nx t))).1,2+(nest (deep - 1) (nx (nx t))).2)) else((nest deep (nx t)).1,1+(nest deep (nx t)).2)
 else((nest deep (nx t)).1,sz t+(nest deep (nx t)).2)
termination_by t.length
decreasing_by
 all_goals (have h1:=BG _h;have h2:=mR (nx t);omega)
theorem zo(deep:Nat):nest deep []=(8,0):=by rw[nest];simp
theorem BI(h:cc t=123)(h2:cc (nx t)=45):nest deep t=((nest (deep+1) (nx (nx t))).1,2+(nest (deep+1) (nx (nx t))).2):=by
 have:=jR h (by omega);conv=>lhs;rw[nest]
 simp[this,h,h2]
theorem zq(h:cc t=123)(h2:cc (nx t)≠45):nest deep t=((nest deep (nx t)).1,1+(nest deep (nx t)).2):=by
 have:=jR h (by omega);conv=>lhs;rw[nest]
 simp[this,h,h2]
theorem BJ(h:cc t=45)(h2:cc (nx t)=125)(hd:deep≤1):nest deep t=(2,2):=by
 have:=jR h (by omega);conv=>lhs;rw[nest]
 simp[this,h,h2,hd]
theorem BK(h:cc t=45)(h2:cc (nx t)=125)(hd:¬ deep≤1):nest deep t=((nest (deep - 1) (nx (nx t))).1,2+(nest (deep - 1) (nx (nx t))).2):=by
 have:=jR h (by omega);conv=>lhs;rw[nest]
 simp[this,h,h2,hd]
theorem BL(h:cc t=45)(h2:cc (nx t)≠125):nest deep t=((nest deep (nx t)).1,1+(nest deep (nx t)).2):=by
 have:=jR h (by omega);conv=>lhs;rw[nest]
 simp[this,h,h2]
theorem Kh(h0:cc t≠-1)(h:cc t≠123)(h2:cc t≠45):nest deep t=((nest deep (nx t)).1,sz t+(nest deep (nx t)).2):=by
 have:t≠[]:=fun e=>h0 (rP.2 e)
 conv=>lhs;rw[nest]
 simp[this,h,h2]
theorem Ki(n:Nat):∀(deep:Nat) (t:ah),t.length≤n→(nest deep t).2≤t.length∧((nest deep t).1=8∨(nest deep t).1=2):=by
 induction n with
 | zero=>intro k t h;have:t=[]:=dL (by omega);subst this;rw[zo];simp
 | succ n ih =>
  intro deep t h;by_cases h0:cc t=-1
  ·have:=rP.1 h0;subst this;rw[zo];simp
  have h1:=mR t;have h2:=tO h0;have h1':=mR (nx t);by_cases h3:cc t=123
  ·have z1:=gP (t:=t) (by omega) (by omega)
   by_cases h4:cc (nx t)=45
   ·have z2:=gP (t:=nx t) (by omega) (by omega)
    rw[BI h3 h4];have:=ih (deep+1) (nx (nx t)) (by omega);exact⟨by simp only;omega,this.2⟩
   ·rw[zq h3 h4]
    have:=ih deep (nx t) (by omega);exact⟨by simp only;omega,this.2⟩
  by_cases h3':cc t=45
  ·have z1:=gP (t:=t) (by omega) (by omega)
   by_cases h4:cc (nx t)=125
   ·have z2:=gP (t:=nx t) (by omega) (by omega)
    by_cases hd:deep≤1
    ·rw[BJ h3' h4 hd];exact⟨by simp only;omega,.inr rfl⟩
    ·rw[BK h3' h4 hd]
     have:=ih (deep - 1) (nx (nx t)) (by omega);exact⟨by simp only;omega,this.2⟩
   ·rw[BL h3' h4]
    have:=ih deep (nx t) (by omega);exact⟨by simp only;omega,this.2⟩
  ·rw[Kh h0 h3 h3']
   have:=ih deep (nx t) (by omega);exact⟨by simp only;omega,this.2⟩
def words:List (ah):=[[117,115,101],[97,115],[112,117,98],[100,101,102],[108,101,116],[105,110],[105,102],[116,104,101,110],[101,108,115,101],[102,117,110],[116,114,117,101],[102,97,108,115,101]]
def p8(l:ah):Bool:=decide (l∈words)
def tok(t:ah):Nat × Nat :=
 if isSp (cc t) then(1,sz t+skip isSp (nx t))
 else if isLt (cc t) then(if p8 (t.take (sz t+skip pR (nx t))) then 4 else 3,sz t+skip pR (nx t))
 else if jw (cc t) then(if 18<sz t+skip jw (nx t) then 8 else 5,sz t+skip jw (nx t))
 else if cc t=34 then((quo 6 (nx t)).1,1+(quo 6 (nx t)).2)
 else if cc t=123∧cc (nx t)=45 then((nest 1 (nx (nx t))).1,2+(nest 1 (nx (nx t))).2)
 else if cc t=45∧cc (nx t)=45 then(2,1+skip uT (nx t))
 else if uU (cc t) (cc (nx t)) then(7,2)
 else if qZ (cc t) then(7,1)
 else(8,sz t)
theorem iY(h:t≠[]):1≤(tok t).1∧(tok t).1≤8∧1≤(tok t).2∧(tok t).2≤t.length:=by
 have h1:=iZ h;have h2:=mR t;have h3:=uW isSp (nx t);have h4:=uW pR (nx t);have h5:=uW jw (nx t);have h6:=uW uT (nx t);have h7:=Xo _ 6 (nx t) (aj _);have h8:=Ki _ 1 (nx (nx t)) (aj _);have h9:=mR (nx t);unfold tok
 repeat' split
 all_goals (try(simp only;omega))
 ·rename_i hc
  have z2:=gP (t:=nx t) (by omega) (by omega);simp only;omega
 ·rename_i hc
  have z2:=gP (t:=nx t) (by unfold uU at hc;simp at hc;omega) (by unfold uU at hc;simp at hc;omega);simp only;omega
structure Tk where
 kind:Nat
 pos:Nat
 len:Nat
def toks(at_:Nat)(t:ah):List Tk :=
 if _h:t=[] then [] else⟨(tok t).1,at_,(tok t).2⟩::toks (at_+(tok t).2) (t.drop (tok t).2)
termination_by t.length
decreasing_by
 have:=iY _h;simp;omega
theorem lZ(a:Nat):toks a []=[]:=by rw[toks];simp
theorem qA{a:Nat}(h:t≠[]):toks a t=⟨(tok t).1,a,(tok t).2⟩::toks (a+(tok t).2) (t.drop (tok t).2):=by
 conv=>lhs;rw[toks]
 simp[h]
theorem sw(n:Nat):∀(a:Nat) (t:ah),t.length≤n→(toks a t).length≤t.length:=by
 induction n with
 | zero=>intro a t h;have:t=[]:=dL (by omega);subst this;simp[lZ]
 | succ n ih =>
  intro a t h;by_cases h0:t=[]
  ·subst h0;simp[lZ]
  rw[qA h0];have:=iY h0;have:=ih (a+(tok t).2) (t.drop (tok t).2) (by simp;omega);simp at this ⊢;omega
end M
end
section
variable{t:ah}
namespace M
theorem Ox(h:t≠[])(h1:(t.getD 0 0).toNat<128):cc t=((t.getD 0 0).toNat:Int)∧sz t=1∧nx t=t.drop 1:=by
 have hs:=Ou h h1;have:=oQ h hs;refine⟨?_,hs,by unfold nx;rw[hs]⟩;rw[oo h];congr 1;omega
theorem aC7(h:t≠[])(h1:128≤(t.getD 0 0).toNat):128≤cc t:=by
 rw[oo h];by_cases hm:1<sz t
 ·have:=(multi hm).2.2.1;omega
 ·have:=oQ h (by have:=iZ h;omega);omega
theorem Oy{c:Nat}(hc:c<128):cc t=(c:Int)↔t≠[]∧(t.getD 0 0).toNat=c:=by
 by_cases h:t=[]
 ·subst h;rw[mU];simp
 by_cases h1:(t.getD 0 0).toNat<128
 ·rw[(Ox h h1).1];simp only[ne_eq,h,not_false_eq_true,true_and];omega
 ·have:=aC7 h (by omega)
  constructor
  ·intro e;omega
  ·rintro⟨_,e⟩;omega
end M
end
section
namespace M
open Go.Lib (decodeN)
end M
end
namespace M
theorem TW(n:Nat):∀(p:Nat) (t:ah),t.length≤n→∀ k∈toks p t,p≤k.pos∧k.pos+k.len≤p+t.length∧1≤k.len:=by
 induction n with
 | zero =>
  intro p t h k hk;have:t=[]:=aT.1 (by omega);subst this;rw[lZ] at hk;cases hk
 | succ n ih =>
  intro p t h k hk;by_cases h0:t=[]
  ·subst h0;rw[lZ] at hk;cases hk
  ·have hb:=iY h0
   rw[qA h0] at hk;rcases cK.1 hk with rfl|hk
   ·simp only;omega
   ·have:=ih _ _ (by rw[bM];omega) k hk
    rw[bM] at this;omega
end M
namespace M
end M
section
variable{t x:ah}
namespace X
open M
def CW(l:ah)(t:Tk):Tok:=(t.kind,(l.drop t.pos).take t.len)
def xt(l:ah):List Tok:=(toks 0 l).map (CW l)
theorem aP9(l:ah)(n:Nat):∀ p,(l.drop p).length≤n→tb ((toks p (l.drop p)).map (CW l))=l.drop p:=by
 induction n with
 | zero =>
  intro p h;have:l.drop p=[]:=aT.1 (by omega);rw[this,lZ];rfl
 | succ n ih =>
  intro p h;by_cases h0:l.drop p=[]
  ·rw[h0,lZ];rfl
  ·have hb:=iY h0
   have hp:=gM.2 h0;rw[qA h0,fQ,dB];have:=ih (p+(tok (l.drop p)).2) (by rw[bM] at h hp ⊢;omega);show(l.drop p).take (tok (l.drop p)).2++tb ((toks (p+(tok (l.drop p)).2) (l.drop (p+(tok (l.drop p)).2))).map (CW l))=_;rw[this];rw[← dB,dA]
theorem KF(l:ah):tb (xt l)=l:=by
 have:=aP9 l _ 0 (aj _);rw[List.drop_zero] at this;exact this
def signs:List (ah):=[[40],[41],[91],[93],[44],[59],[61],[60],[43],[45],[42],[46],[63],[61,62],[61,61],[43,43]]
def Fits(t:Tok):Prop:=(t.2∈words→t.1=4)∧(t.2=fF→t.1=3)∧(t.2∈signs→t.1=7)∧1≤t.1∧t.1≤8∧t.2≠[]
theorem head_take{n:Nat}{b:UInt8}(h:t.take n=b::x):t≠[]∧t.getD 0 0=b:=by
 cases t with
 | nil=>simp at h
 | cons a t =>
  cases n with
  | zero=>simp at h
  | succ n =>
   rw[List.take_succ_cons] at h;injection h with h1 h2;exact⟨by simp,by simpa using h1⟩
theorem yx{b:UInt8}(h:t.take (tok t).2=b::x)(hb:97≤b.toNat∧b.toNat≤122):(tok t).1=if p8 (b::x) then 4 else 3:=by
 obtain⟨h0,h1⟩:=head_take h;obtain⟨c1,c2,c3⟩:=Ox h0 (by rw[h1];omega);rw[h1] at c1;have e1:isSp (cc t)=false:=by unfold isSp;rw[c1];simp;omega
 have e2:isLt (cc t)=true:=by unfold isLt;rw[c1];simp;omega
 have e3:tok t=(if p8 (t.take (sz t+skip pR (nx t))) then 4 else 3,sz t+skip pR (nx t)):=by
  unfold tok;rw[aG (by rw[e1];simp),aL e2]
 have e4:(tok t).2=sz t+skip pR (nx t):=by rw[e3]
 rw[e4] at h;rw[e3,h]
theorem Nz{b:UInt8}(h:t.take (tok t).2=b::x)(hb:qZ (b.toNat:Int)=true)(hx:b.toNat=45→x=[]):(tok t).1=7:=by
 obtain⟨h0,h1⟩:=head_take h;have hb':b.toNat<128:=by unfold qZ at hb;simp at hb;omega
 obtain⟨c1,c2,c3⟩:=Ox h0 (by rw[h1];omega);rw[h1] at c1;have e1:isSp (cc t)=false:=by unfold isSp;rw[c1];unfold qZ at hb;simp at hb ⊢;omega
 have e2:isLt (cc t)=false:=by unfold isLt;rw[c1];unfold qZ at hb;simp at hb ⊢;omega
 have e3:jw (cc t)=false:=by unfold jw;rw[c1];unfold qZ at hb;simp at hb ⊢;omega
 have e4:¬ cc t=34:=by rw[c1];unfold qZ at hb;simp at hb;omega
 have e5:¬(cc t=123∧cc (nx t)=45):=by rw[c1];unfold qZ at hb;simp at hb;omega
 have e7:qZ (cc t)=true:=by rw[c1];exact hb
 have e8:tok t=if cc t=45∧cc (nx t)=45 then(2,1+skip uT (nx t)) else if uU (cc t) (cc (nx t)) then(7,2) else(7,1):=by
  unfold tok;rw[aG (by rw[e1];simp),aG (by rw[e2];simp),aG (by rw[e3];simp),aG e4,aG e5,aL e7]
 by_cases e6:cc t=45∧cc (nx t)=45
 ·exfalso
  rw[aL e6] at e8;have hx0:=hx (by rw[c1] at e6;omega);have hn:nx t≠[]:=jR e6.2 (by decide);have:1≤skip uT (nx t):=by
   rw[oU hn (by unfold uT;rw[e6.2];decide)];have:=iZ hn;omega
  have hl:=congrArg List.length h;rw[e8,hx0,bL] at hl;have hb2:=(iY h0).2.2.2;rw[e8] at hb2;simp only[dX] at hl;simp only at hb2;omega
 ·rw[aG e6] at e8
  rw[e8];split<;>rfl
theorem Sd(h0:t≠[]):Fits ((tok t).1,t.take (tok t).2):=by
 have hb:=iY h0;refine⟨?_,?_,?_,hb.1,hb.2.1,?_⟩
 ·intro h
  simp only[words,cK,kZ,or_false] at h;rcases h with h|h|h|h|h|h|h|h|h|h|h|h<;>(rw[yx h (by decide)];rfl)
 ·intro h
  show(tok t).1=3;rw[yx (b:=110) (x:=[97,109,101]) h (by decide)];rfl
 ·intro h
  simp only[signs,cK,kZ,or_false] at h;rcases h with h|h|h|h|h|h|h|h|h|h|h|h|h|h|h|h<;>exact Nz h (by decide) (by decide)
 ·intro h
  have h2:(t.take (tok t).2).length=0:=congrArg List.length h;rw[bL] at h2;have:=gM.2 h0;omega
theorem VX(l:ah)(n:Nat):∀ p,(l.drop p).length≤n→∀ t∈(toks p (l.drop p)).map (CW l),Fits t:=by
 induction n with
 | zero =>
  intro p h t ht;have:l.drop p=[]:=aT.1 (by omega);rw[this,lZ] at ht;cases ht
 | succ n ih =>
  intro p h t ht;by_cases h0:l.drop p=[]
  ·rw[h0,lZ] at ht;cases ht
  ·have hb:=iY h0
   have hp:=gM.2 h0;rw[qA h0,fQ,dB] at ht;rcases cK.1 ht with rfl|ht
   ·exact Sd h0
   ·exact ih (p+(tok (l.drop p)).2) (by rw[bM] at h hp ⊢;omega) t ht
theorem yS(l:ah):∀ t∈xt l,Fits t:=by
 have:=VX l _ 0 (aj _);rw[List.drop_zero] at this;exact this
def rU(ts:List Tok):ah:=match iE ts with|some t=>t.2|none=>[]
def pN(s:ah)(ts:List Tok):Bool:=s==rU ts||(s==fF&&bJ ts==3)
def Good(ts:List Tok):Prop:=∀ t∈ts,Fits t
theorem Lx{ts:List Tok}{t:Tok}(h:iE ts=some t):t∈ts:=by
 unfold iE at h;exact(fo _).subset (List.mem_of_mem_head? (by rw[h];rfl))
theorem fI{s:ah}{ts:List Tok}(hg:Good ts)(hs:s∈words∨s∈signs):pN s ts=bX s ts:=by
 have hn:(s==fF)=false:=by
  rw[dF];rintro rfl;rcases hs with h|h<;>revert h<;>decide
 have hne:s≠[]:=by
  rintro rfl;rcases hs with h|h<;>revert h<;>decide
 unfold pN rU bX;rw[hn,Bool.false_and,Bool.or_false];cases h:iE ts with
 | none=>simp only;rw[dF];exact hne
 | some t =>
  simp only;obtain⟨f1,-,f3,-⟩:=hg t (Lx h);by_cases e:s=t.2
  ·subst e
   have:(t.1==4||t.1==7)=true:=by
    rcases hs with h|h
    ·rw[f1 h];rfl
    ·rw[f3 h];rfl
   rw[this];simp
  ·have e1:(s==t.2)=false:=dF.2 e
   have e2:(t.2==s)=false:=dF.2 (fun h=>e h.symm);rw[e1,e2,Bool.and_false]
theorem LA{ts:List Tok}(hg:Good ts):pN fF ts=(bJ ts==3):=by
 unfold pN rU bJ;cases h:iE ts with
 | none=>rfl
 | some t =>
  simp only;obtain⟨-,f2,-⟩:=hg t (Lx h);by_cases e:fF=t.2
  ·rw[f2 e.symm];simp
  ·rw[dF.2 e];simp
end X
end
end Go.Proofs.YtdkpkpgpphkljaaGreatDoor
