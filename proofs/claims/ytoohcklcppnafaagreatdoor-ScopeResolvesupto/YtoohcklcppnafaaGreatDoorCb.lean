import Derived.Test.YtoohcklcppnafaaGreatDoorCa
import Derived.Lib.Small
namespace Go.Proofs.YtoohcklcppnafaaGreatDoor
section
variable{t:ah}{c:Int}{kind deep:Nat}
namespace M
def cc(t:ah):Int:=if t=[] then -1 else(ch t:Int)
def nx(t:ah):ah:=t.drop (sz t)
theorem pX(t:ah):(nx t).length+sz t=t.length:=by
 have:=Ak t;unfold nx;simp;omega
theorem Mf(h:t≠[]):(nx t).length<t.length:=by
 have:=jH h;have:=pX t;omega
theorem lC:cc []=-1:=by simp[cc]
theorem rH(h:t≠[]):cc t=(ch t:Int):=by simp[cc,h]
theorem qC:cc t=-1↔t=[]:=by
 unfold cc;split<;>simp_all
theorem mF(h:cc t=c)(hc:c≠-1):t≠[]:=fun e=>hc (by rw[← h,e,lC])
theorem QX(h:t≠[])(h1:ch t<128):sz t=1∧ch t=(t.getD 0 0).toNat:=by
 by_cases hm:1<sz t
 ·have:=(multi hm).2.2.1;omega
 ·have hs:sz t=1:=by have:=jH h;omega
  have:=rG h hs;exact⟨hs,au⟩
theorem fI(h0:0≤cc t)(h1:cc t<128):sz t=1:=by
 have hne:t≠[]:=fun e=>by rw[e,lC] at h0;omega
 rw[rH hne] at h1;exact(QX hne au).1
theorem uj(h:cc t≠-1):1≤sz t:=jH (fun e=>h (qC.2 e))
def isSp(c:Int):Bool:=decide (c=32∨c=10∨c=9∨c=13)
def iR(c:Int):Bool:=decide (48≤c∧c≤57)
def isLt(c:Int):Bool:=decide ((97≤c∧c≤122)∨(65≤c∧c≤90)∨c=95∨(192≤c∧c≤591∧c≠215∧c≠247)∨(880≤c∧c≤1279))
def jT(c:Int):Bool:=isLt c||iR c
def sD(c:Int):Bool:=decide (c≠10)
def sW(a b:Int):Bool:=decide ((a=61∧(b=62∨b=61))∨(a=43∧b=43))
def oI(a:Int):Bool:=decide (a∈([40,41,91,93,44,59,61,60,43,45,42,46,63]:List Int))
def skip(p:Int→Bool)(t:ah):Nat :=
 if _h:t=[] then 0 else if p (cc t) then sz t+skip p (nx t) else 0
termination_by t.length
decreasing_by exact Mf _h
theorem lI(p:Int→Bool):skip p []=0:=by rw[skip];simp
theorem jI{p:Int→Bool}(h:t≠[])(hp:p (cc t)=true):skip p t=sz t+skip p (nx t):=by rw[skip];simp[h,hp]
theorem lW{p:Int→Bool}(hp:p (cc t)=false):skip p t=0:=by rw[skip];simp[hp]
theorem Vs(p:Int→Bool)(n:Nat):∀ t:ah,t.length≤n→skip p t≤t.length:=by
 induction n with
 | zero=>intro t h;have:t=[]:=jU au;subst this;simp[lI]
 | succ n ih =>
  intro t h;by_cases h0:t=[]
  ·subst h0;simp[lI]
  by_cases hp:p (cc t)=true
  ·rw[jI h0 hp]
   have h1:=pX t;have h2:=jH h0;have:=ih (nx t) au;omega
  ·rw[lW (by simpa using hp)];omega
theorem vQ(p:Int→Bool)(t:ah):skip p t≤t.length:=Vs p _ t (ax _)
def hexOf(c:Int):Int:=if 48≤c∧c≤57 then c - 48 else if 97≤c∧c≤102 then c - 87 else if 65≤c∧c≤70 then c - 55 else -1
theorem qU(c:Int):-1≤hexOf c∧hexOf c<16:=by unfold hexOf;repeat' split<;>omega
theorem lJ(h:0≤hexOf c):48≤c∧c≤102:=by unfold hexOf at h;repeat' split at h<;>omega
def jF:Nat→Int→ah→Int × Nat
 | 0,code,_=>(code,0)
 | n+1,code,t=>if 0≤hexOf (cc t) then((jF n (code*16+hexOf (cc t)) (nx t)).1,(jF n (code*16+hexOf (cc t)) (nx t)).2+1) else(code,0)
theorem Vt(n:Nat):∀(code:Int) (t:ah),(jF n code t).2≤n∧(jF n code t).2≤t.length:=by
 induction n with
 | zero=>intro code t;simp[jF]
 | succ n ih =>
  intro code t;unfold jF
  split
  ·rename_i h
   have:=ih (code*16+hexOf (cc t)) (nx t);have h1:=lJ h;have h2:=fI (t:=t) au au;have h3:=pX t;simp only;omega
  ·simp
def code(t:ah):Int × Bool × Nat :=
 if cc t=123 then
  if (jF 6 0 (nx t)).2=0∨cc ((nx t).drop (jF 6 0 (nx t)).2)≠125 then(0,false,1+(jF 6 0 (nx t)).2)
  else((jF 6 0 (nx t)).1,Lib.validRune (jF 6 0 (nx t)).1,2+(jF 6 0 (nx t)).2)
 else(0,false,0)
theorem Vu(t:ah):(code t).2.2≤t.length:=by
 unfold code
 split
 ·rename_i h
  have h2:=fI (t:=t) au au;have h3:=pX t;have h4:=(Vt 6 0 (nx t)).2
  split
  ·simp only;omega
  ·rename_i h5
   simp only[not_or,Classical.not_not] at h5;have h6:=mF h5.2 au;have h7:=mr.2 h6;simp at h7;simp only;omega
 ·simp
def taken(t:ah):Int × Bool × Nat :=
 if cc t=-1∨cc t=10 then(0,false,0)
 else if cc t=110 then(10,true,1)
 else if cc t=116 then(9,true,1)
 else if cc t=34∨cc t=92 then(cc t,true,1)
 else if cc t=117 then((code (nx t)).1,(code (nx t)).2.1,1+(code (nx t)).2.2)
 else(0,false,sz t)
theorem Gu(t:ah):(taken t).2.2≤t.length:=by
 have h1:=pX t;have h3:=Ak t;unfold taken
 split
 ·simp
 ·rename_i h
  have hp:=uj (t:=t) (fun e=>h (.inl e))
  repeat' split
  all_goals (try(simp only;omega))
  have h2:=fI (t:=t) au au;have:=Vu (nx t);simp only;omega
def quo(kind:Nat)(t:ah):Nat × Nat :=
 if _h:t=[] then(8,0) else if cc t=10 then(8,0) else if cc t=34 then(kind,1)
 else if cc t=92 then
  ((quo (if (taken (nx t)).2.1 then kind else 8) ((nx t).drop (taken (nx t)).2.2)).1,1+(taken (nx t)).2.2+(quo (if (taken (nx t)).2.1 then kind else 8) ((nx t).drop (taken (nx t)).2.2)).2)
 else((quo kind (nx t)).1,sz t+(quo kind (nx t)).2)
termination_by t.length
decreasing_by
 all_goals (have:=Mf _h;first|exact this|(simp;omega))
theorem qD(h:cc t=-1∨cc t=10):quo kind t=(8,0):=by
 rcases h with h|h
 ·have:=qC.1 h;subst this;rw[quo];simp
 ·have:=mF h au;rw[quo];simp[this,h]
theorem Am(h:cc t=34):quo kind t=(kind,1):=by
 have:=mF h au;rw[quo];simp[this,h]
theorem xA(h:cc t=92):quo kind t=((quo (if (taken (nx t)).2.1 then kind else 8) ((nx t).drop (taken (nx t)).2.2)).1,1+(taken (nx t)).2.2+(quo (if (taken (nx t)).2.1 then kind else 8) ((nx t).drop (taken (nx t)).2.2)).2):=by
 have:=mF h au;rw[quo];simp[this,h]
theorem Ep(h0:cc t≠-1)(h1:cc t≠10)(h2:cc t≠34)(h3:cc t≠92):quo kind t=((quo kind (nx t)).1,sz t+(quo kind (nx t)).2):=by
 have:t≠[]:=fun e=>h0 (qC.2 e)
 conv=>lhs;rw[quo]
 simp[this,h1,h2,h3]
theorem QY(n:Nat):∀(kind:Nat) (t:ah),t.length≤n→(quo kind t).2≤t.length∧((quo kind t).1=8∨(quo kind t).1=kind):=by
 induction n with
 | zero=>intro k t h;have:t=[]:=jU au;subst this;rw[qD (.inl lC)];simp
 | succ n ih =>
  intro kind t h;by_cases h0:cc t=-1∨cc t=10
  ·rw[qD h0];simp
  have hne:t≠[]:=fun e=>h0 (.inl (qC.2 e))
  have h1:=pX t;have h2:=jH hne;by_cases h3:cc t=34
  ·rw[Am h3];have:=Ak t;exact⟨by simp only;omega,.inr rfl⟩
  by_cases h4:cc t=92
  ·rw[xA h4]
   have h5:=Gu (nx t);have h6:=ih (if (taken (nx t)).2.1 then kind else 8) ((nx t).drop (taken (nx t)).2.2) aQ;simp only[bV] at h6;refine⟨by simp only;omega,?_⟩;rcases h6.2 with h7|h7
   ·exact .inl h7
   ·simp only[h7];split<;>simp
  ·rw[Ep (fun e=>h0 (.inl e)) (fun e=>h0 (.inr e)) h3 h4]
   have h6:=ih kind (nx t) au;exact⟨by simp only;omega,h6.2⟩
def nest(deep:Nat)(t:ah):Nat × Nat :=
 if _h:t=[] then(8,0)
 else if cc t=123 then
  if cc (nx t)=45 then((nest (deep+1) (nx (nx t))).1,2+(nest (deep+1) (nx (nx t))).2) else((nest deep (nx t)).1,1+(nest deep (nx t)).2)
 else if cc t=45 then
  if cc (nx t)=125 then(if deep≤1 then(2,2) else((nest (deep - 1) (nx (nx t))).1,2+(nest (deep - 1) (nx (nx t))).2)) else((nest deep (nx t)).1,1+(nest deep (nx t)).2)
 else((nest deep (nx t)).1,sz t+(nest deep (nx t)).2)
termination_by t.length
decreasing_by
 all_goals (have h1:=Mf _h;have h2:=pX (nx t);omega)
theorem vR(deep:Nat):nest deep []=(8,0):=by rw[nest];simp
theorem xB(h:cc t=123)(h2:cc (nx t)=45):nest deep t=((nest (deep+1) (nx (nx t))).1,2+(nest (deep+1) (nx (nx t))).2):=by
 have:=mF h au;conv=>lhs;rw[nest]
 simp[this,h,h2]
theorem uZ(h:cc t=123)(h2:cc (nx t)≠45):nest deep t=((nest deep (nx t)).1,1+(nest deep (nx t)).2):=by
 have:=mF h au;conv=>lhs;rw[nest]
 simp[this,h,h2]
theorem xC(h:cc t=45)(h2:cc (nx t)=125)(hd:deep≤1):nest deep t=(2,2):=by
 have:=mF h au;conv=>lhs;rw[nest]
 simp[this,h,h2,hd]
theorem xD(h:cc t=45)(h2:cc (nx t)=125)(hd:¬ deep≤1):nest deep t=((nest (deep - 1) (nx (nx t))).1,2+(nest (deep - 1) (nx (nx t))).2):=by
 have:=mF h au;conv=>lhs;rw[nest]
 simp[this,h,h2,hd]
theorem xE(h:cc t=45)(h2:cc (nx t)≠125):nest deep t=((nest deep (nx t)).1,1+(nest deep (nx t)).2):=by
 have:=mF h au;conv=>lhs;rw[nest]
 simp[this,h,h2]
theorem vS(h0:cc t≠-1)(h:cc t≠123)(h2:cc t≠45):nest deep t=((nest deep (nx t)).1,sz t+(nest deep (nx t)).2):=by
 have:t≠[]:=fun e=>h0 (qC.2 e)
 conv=>lhs;rw[nest]
 simp[this,h,h2]
theorem Er(n:Nat):∀(deep:Nat) (t:ah),t.length≤n→(nest deep t).2≤t.length∧((nest deep t).1=8∨(nest deep t).1=2):=by
 induction n with
 | zero=>intro k t h;have:t=[]:=jU au;subst this;rw[vR];simp
 | succ n ih =>
  intro deep t h;by_cases h0:cc t=-1
  ·have:=qC.1 h0;subst this;rw[vR];simp
  have h1:=pX t;have h2:=uj h0;have h1':=pX (nx t);by_cases h3:cc t=123
  ·have z1:=fI (t:=t) au au
   by_cases h4:cc (nx t)=45
   ·have z2:=fI (t:=nx t) au au
    rw[xB h3 h4];have:=ih (deep+1) (nx (nx t)) au;exact⟨by simp only;omega,this.2⟩
   ·rw[uZ h3 h4]
    have:=ih deep (nx t) au;exact⟨by simp only;omega,this.2⟩
  by_cases h3':cc t=45
  ·have z1:=fI (t:=t) au au
   by_cases h4:cc (nx t)=125
   ·have z2:=fI (t:=nx t) au au
    by_cases hd:deep≤1
    ·rw[xC h3' h4 hd];exact⟨by simp only;omega,.inr rfl⟩
    ·rw[xD h3' h4 hd]
     have:=ih (deep - 1) (nx (nx t)) au;exact⟨by simp only;omega,this.2⟩
   ·rw[xE h3' h4]
    have:=ih deep (nx t) au;exact⟨by simp only;omega,this.2⟩
  ·rw[vS h0 h3 h3']
   have:=ih deep (nx t) au;exact⟨by simp only;omega,this.2⟩
def words:List (ah):=[[117,115,101],[97,115],[112,117,98],[100,101,102],[108,101,116],[105,110],[105,102],[116,104,101,110],[101,108,115,101],[102,117,110],[116,114,117,101],[102,97,108,115,101]]
def mh(l:ah):Bool:=decide (l∈words)
def tok(t:ah):Nat × Nat :=
 if isSp (cc t) then(1,sz t+skip isSp (nx t))
 else if isLt (cc t) then(if mh (t.take (sz t+skip jT (nx t))) then 4 else 3,sz t+skip jT (nx t))
 else if iR (cc t) then(if 18<sz t+skip iR (nx t) then 8 else 5,sz t+skip iR (nx t))
 else if cc t=34 then((quo 6 (nx t)).1,1+(quo 6 (nx t)).2)
 else if cc t=123∧cc (nx t)=45 then((nest 1 (nx (nx t))).1,2+(nest 1 (nx (nx t))).2)
 else if cc t=45∧cc (nx t)=45 then(2,1+skip sD (nx t))
 else if sW (cc t) (cc (nx t)) then(7,2)
 else if oI (cc t) then(7,1)
 else(8,sz t)
theorem jG(h:t≠[]):1≤(tok t).1∧(tok t).1≤8∧1≤(tok t).2∧(tok t).2≤t.length:=by
 have h1:=jH h;have h2:=pX t;have h3:=vQ isSp (nx t);have h4:=vQ jT (nx t);have h5:=vQ iR (nx t);have h6:=vQ sD (nx t);have h7:=QY _ 6 (nx t) (ax _);have h8:=Er _ 1 (nx (nx t)) (ax _);have h9:=pX (nx t);unfold tok
 repeat' split
 all_goals (try(simp only;omega))
 ·rename_i hc
  have z2:=fI (t:=nx t) au au;simp only;omega
 ·rename_i hc
  have z2:=fI (t:=nx t) (by unfold sW at hc;simp at hc;omega) (by unfold sW at hc;simp at hc;omega);simp only;omega
structure Tk where
 kind:Nat
 pos:Nat
 len:Nat
def toks(at_:Nat)(t:ah):List Tk :=
 if _h:t=[] then [] else⟨(tok t).1,at_,(tok t).2⟩::toks (at_+(tok t).2) (t.drop (tok t).2)
termination_by t.length
decreasing_by
 have:=jG _h;simp;omega
theorem jS(a:Nat):toks a []=[]:=by rw[toks];simp
theorem kZ{a:Nat}(h:t≠[]):toks a t=⟨(tok t).1,a,(tok t).2⟩::toks (a+(tok t).2) (t.drop (tok t).2):=by
 conv=>lhs;rw[toks]
 simp[h]
theorem sZ(n:Nat):∀(a:Nat) (t:ah),t.length≤n→(toks a t).length≤t.length:=by
 induction n with
 | zero=>intro a t h;have:t=[]:=jU au;subst this;simp[jS]
 | succ n ih =>
  intro a t h;by_cases h0:t=[]
  ·subst h0;simp[jS]
  rw[kZ h0];have:=jG h0;have:=ih (a+(tok t).2) (t.drop (tok t).2) aQ;simp at this ⊢;omega
end M
end
section
namespace M
open Go.Lib (decodeN)
end M
end
namespace M
theorem UZ(n:Nat):∀(p:Nat) (t:ah),t.length≤n→∀ k∈toks p t,p≤k.pos∧k.pos+k.len≤p+t.length∧1≤k.len:=by
 induction n with
 | zero =>
  intro p t h k hk;have:t=[]:=bP.1 au;subst this;rw[jS] at hk;cases hk
 | succ n ih =>
  intro p t h k hk;by_cases h0:t=[]
  ·subst h0;rw[jS] at hk;cases hk
  ·have hb:=jG h0
   rw[kZ h0] at hk;rcases fJ.1 hk with rfl|hk
   ·simp only;omega
   ·have:=ih _ _ (by rw[bV];omega) k hk
    rw[bV] at this;omega
end M
namespace M
end M
section
variable{t u:ah}
namespace M
theorem Gv(h:t≠[])(h1:(t.getD 0 0).toNat<128):cc t=((t.getD 0 0).toNat:Int)∧sz t=1∧nx t=t.drop 1:=by
 have hs:=QW h h1;have:=rG h hs;refine⟨?_,hs,by unfold nx;rw[hs]⟩;rw[rH h];congr 1;omega
theorem Mg(h:t≠[])(h1:128≤(t.getD 0 0).toNat):128≤cc t:=by
 rw[rH h];by_cases hm:1<sz t
 ·have:=(multi hm).2.2.1;omega
 ·have:=rG h (by have:=jH h;omega);omega
theorem QZ{c:Nat}(hc:c<128):cc t=(c:Int)↔t≠[]∧(t.getD 0 0).toNat=c:=by
 by_cases h:t=[]
 ·subst h;rw[lC];simp
 by_cases h1:(t.getD 0 0).toNat<128
 ·rw[(Gv h h1).1];simp only[ne_eq,h,not_false_eq_true,true_and];omega
 ·have:=Mg h au
  constructor
  ·intro e;omega
  ·rintro⟨_,e⟩;omega
theorem Zj(h:sz t=1):nx t=t.drop 1:=by unfold nx;rw[h]
theorem XJ(h:1<sz t):∀ i,i<sz t - 1→128≤((t.drop 1).getD i 0).toNat∧((t.drop 1).getD i 0).toNat<192:=by
 intro i hi;have:=(multi h).2.1 (i+1) au au
 simpa[Nat.add_comm] using this
theorem Vv(h:u≠[])(h1:128≤(u.getD 0 0).toNat)(h2:(u.getD 0 0).toNat<192):sz u=1:=by
 by_cases hm:1<sz u
 ·have:=(multi hm).1;omega
 ·have:=jH h;omega
def ln(t:ah):Nat:=(t.takeWhile (fun x=>x !=10)).length
theorem Ke:ln []=0:=rfl
theorem XK(h:(t.getD 0 0).toNat=10):ln t=0:=by
 cases t with
 | nil=>rfl
 | cons x u =>
  have hx:x=10:=by simpa [← UInt8.toNat_inj] using h
  subst hx;simp[ln]
theorem Kg(h0:t≠[])(h:(t.getD 0 0).toNat≠10):ln t=1+ln (t.drop 1):=by
 cases t with
 | nil=>exact absurd rfl h0
 | cons x u =>
  have hx:(x !=10)=true:=by
   rw[bne_iff_ne];intro e;exact h (by subst e;rfl)
  simp[ln,hx];omega
theorem Q0(j:Nat):∀ u:ah,j≤u.length→(∀ i,i<j→128≤(u.getD i 0).toNat)→ln u=j+ln (u.drop j):=by
 induction j with
 | zero=>intro u _ _;simp
 | succ j ih =>
  intro u hl h;have hne:u≠[]:=by intro e;subst e;simp at hl
  rw[Kg hne (by have:=h 0 au;omega),ih (u.drop 1) aQ (fun i hi=>by have:=h (i+1) au;simpa[Nat.add_comm] using this),cZ];rw[show 1+j=j+1 by omega];omega
theorem Vw(n:Nat):∀ t:ah,t.length≤n→skip sD t=ln t:=by
 induction n with
 | zero=>intro t h;have:t=[]:=jU au;subst this;rw[lI,Ke]
 | succ n ih =>
  intro t h;by_cases h0:t=[]
  ·subst h0;rw[lI,Ke]
  by_cases h10:(t.getD 0 0).toNat=10
  ·rw[XK h10,lW]
   have:=(QZ (t:=t) (c:=10) au).2 ⟨h0,h10⟩;rw[this];rfl
  ·have hc:sD (cc t)=true:=by
    unfold sD;simp only[ne_eq,decide_not,Bool.not_eq_true',fV];intro e;exact h10 ((QZ (t:=t) (c:=10) au).1 e).2
   have hz:=Ak t;have hp:=jH h0;rw[jI h0 hc,ih (nx t) (by have:=Mf h0;omega)];rw[Kg h0 h10];unfold nx;by_cases hm:1<sz t
   ·rw[Q0 (sz t - 1) (t.drop 1) aQ (fun i hi=>(XJ hm i hi).1),cZ,show 1+(sz t - 1)=sz t by omega];omega
   ·rw[show sz t=1 by omega]
theorem Kh(d j:Nat):∀ u:ah,j≤u.length→(∀ i,i<j→128≤(u.getD i 0).toNat∧(u.getD i 0).toNat<192)→nest d u=((nest d (u.drop j)).1,j+(nest d (u.drop j)).2):=by
 induction j with
 | zero=>intro u _ _;simp
 | succ j ih =>
  intro u hl h;have hne:u≠[]:=by intro e;subst e;simp at hl
  have h0:=h 0 au;have hz:=Vv hne h0.1 h0.2;have hc:=Mg hne h0.1;rw[vS au au au,show nx u=u.drop 1 by unfold nx;rw[hz],hz];rw[ih (u.drop 1) aQ (fun i hi=>by have:=h (i+1) au;simpa[Nat.add_comm] using this),cZ,show 1+j=j+1 by omega];simp only[kE,true_and];omega
theorem NS{d:Nat}(h0:t≠[])(h1:¬(cc t=123∧cc (t.drop 1)=45))(h2:¬(cc t=45∧cc (t.drop 1)=125)):nest d t=((nest d (t.drop 1)).1,1+(nest d (t.drop 1)).2):=by
 by_cases hlo:(t.getD 0 0).toNat<128
 ·obtain⟨e1,e2,e3⟩:=Gv h0 hlo
  by_cases a:cc t=123
  ·rw[uZ a (by rw[e3];exact fun e=>h1 ⟨a,e⟩),e3]
  by_cases b:cc t=45
  ·rw[xE b (by rw[e3];exact fun e=>h2 ⟨b,e⟩),e3]
  ·rw[vS au a b,e3,e2]
 ·have hc:=Mg h0 au
  have hz:=Ak t;have hp:=jH h0;rw[vS au au au];unfold nx;by_cases hm:1<sz t
  ·rw[Kh d (sz t - 1) (t.drop 1) aQ (fun i hi=>XJ hm i hi),cZ,show 1+(sz t - 1)=sz t by omega]
   simp only[kE,true_and];omega
  ·rw[show sz t=1 by omega]
theorem Es{k:Nat}(h0:0≤cc t)(h1:cc t<128)(h2:cc t≠10)(h3:cc t≠34)(h4:cc t≠92):quo k t=((quo k (t.drop 1)).1,1+(quo k (t.drop 1)).2):=by
 have hz:=fI h0 h1;rw[Ep au h2 h3 h4,show nx t=t.drop 1 by unfold nx;rw[hz],hz]
theorem Q5(k n:Nat):∀(c:Int) (u:ah),quo k u=((quo k (u.drop (jF n c u).2)).1,(jF n c u).2+(quo k (u.drop (jF n c u).2)).2):=by
 induction n with
 | zero=>intro c u;simp[jF]
 | succ n ih =>
  intro c u;by_cases h:0≤hexOf (cc u)
  ·have ha:=lJ h
   have hz:=fI (t:=u) au au;have e:jF (n+1) c u=((jF n (c*16+hexOf (cc u)) (nx u)).1,(jF n (c*16+hexOf (cc u)) (nx u)).2+1):=by
    conv=>lhs;unfold jF
    rw[aU h]
   have en:nx u=u.drop 1:=by unfold nx;rw[hz]
   have h92:cc u≠92:=by intro e';rw[e'] at h;revert h;decide
   rw[e,Es au au au au h92,ih (c*16+hexOf (cc u)) (u.drop 1),cZ,en];simp only[Nat.add_comm 1,kE];exact⟨trivial,au⟩
  ·have e:jF (n+1) c u=(c,0):=by
    conv=>lhs;unfold jF
    rw[aM h]
   rw[e];simp
theorem NT(h0:cc u≠-1)(h10:cc u≠10)(hno:(taken u).2.1=false) :
  (quo 8 (u.drop (taken u).2.2)).1=(quo 8 (nx u)).1∧(taken u).2.2+(quo 8 (u.drop (taken u).2.2)).2=sz u+(quo 8 (nx u)).2:=by
 by_cases a:cc u=110
 ·exfalso;revert hno;unfold taken;rw[aM au,aU a];simp
 by_cases b:cc u=116
 ·exfalso;revert hno;unfold taken;rw[aM au,aM a,aU b];simp
 by_cases c:cc u=34∨cc u=92
 ·exfalso;revert hno;unfold taken;rw[aM au,aM a,aM b,aU c];simp
 by_cases d:cc u=117
 ·have e:taken u=((code (nx u)).1,(code (nx u)).2.1,1+(code (nx u)).2.2):=by
   unfold taken;rw[aM au,aM a,aM b,aM c,aU d]
  have hz:=fI (t:=u) au au;have en:nx u=u.drop 1:=by unfold nx;rw[hz]
  rw[e] at hno ⊢;simp only at hno ⊢;rw[hz,← cZ,← en];have key:quo 8 (nx u)=((quo 8 ((nx u).drop (code (nx u)).2.2)).1,(code (nx u)).2.2+(quo 8 ((nx u).drop (code (nx u)).2.2)).2):=by
   by_cases g:cc (nx u)=123
   ·have hz2:=fI (t:=nx u) au au
    have XL:=Zj hz2;have h1:=Es (k:=8) (t:=nx u) au au au au au;rw[← XL] at h1;have h2:=Q5 8 6 0 (nx (nx u));by_cases g2:(jF 6 0 (nx (nx u))).2=0∨cc ((nx (nx u)).drop (jF 6 0 (nx (nx u))).2)≠125
    ·have ec:code (nx u)=(0,false,1+(jF 6 0 (nx (nx u))).2):=by unfold code;rw[aU g,aU g2]
     rw[ec];simp only;rw[← cZ,← XL,h1,h2];simp only[kE];exact⟨trivial,au⟩
    ·have ec:code (nx u)=((jF 6 0 (nx (nx u))).1,Lib.validRune (jF 6 0 (nx (nx u))).1,2+(jF 6 0 (nx (nx u))).2):=by unfold code;rw[aU g,aM g2]
     rw[ec];simp only;simp only[not_or,Classical.not_not] at g2;have h3:=Es (k:=8) (t:=(nx (nx u)).drop (jF 6 0 (nx (nx u))).2) au au au au au;rw[h1,h2,h3,cZ];have e5:∀ N,(nx u).drop (2+N)=(nx (nx u)).drop (N+1):=fun N=>by
      rw[XL,cZ,show 1+(N+1)=2+N by omega]
     rw[e5];simp only[kE];exact⟨trivial,au⟩
   ·have ec:code (nx u)=(0,false,0):=by unfold code;rw[aM g]
    rw[ec];simp
  rw[key];exact⟨rfl,by simp only;omega⟩
 ·have e:taken u=(0,false,sz u):=by
   unfold taken;rw[aM au,aM a,aM b,aM c,aM d]
  rw[e];exact⟨rfl,rfl⟩
end M
end
section
variable{t x:ah}
namespace X
open M
def uI(l:ah)(t:Tk):Tok:=(t.kind,(l.drop t.pos).take t.len)
def xt(l:ah):List Tok:=(toks 0 l).map (uI l)
theorem aW4(l:ah)(n:Nat):∀ p,(l.drop p).length≤n→tb ((toks p (l.drop p)).map (uI l))=l.drop p:=by
 induction n with
 | zero =>
  intro p h;have:l.drop p=[]:=bP.1 au;rw[this,jS];rfl
 | succ n ih =>
  intro p h;by_cases h0:l.drop p=[]
  ·rw[h0,jS];rfl
  ·have hb:=jG h0
   have hp:=mr.2 h0;rw[kZ h0,iO,cZ];have:=ih (p+(tok (l.drop p)).2) (by rw[bV] at h hp ⊢;omega);show(l.drop p).take (tok (l.drop p)).2++tb ((toks (p+(tok (l.drop p)).2) (l.drop (p+(tok (l.drop p)).2))).map (uI l))=_;rw[this];rw[← cZ,fD]
theorem RZ(l:ah):tb (xt l)=l:=by
 have:=aW4 l _ 0 (ax _);rw[List.drop_zero] at this;exact this
def signs:List (ah):=[[40],[41],[91],[93],[44],[59],[61],[60],[43],[45],[42],[46],[63],[61,62],[61,61],[43,43]]
def Fits(t:Tok):Prop:=(t.2∈words→t.1=4)∧(t.2=gy→t.1=3)∧(t.2∈signs→t.1=7)∧1≤t.1∧t.1≤8∧t.2≠[]
theorem head_take{n:Nat}{b:UInt8}(h:t.take n=b::x):t≠[]∧t.getD 0 0=b:=by
 cases t with
 | nil=>simp at h
 | cons a t =>
  cases n with
  | zero=>simp at h
  | succ n =>
   rw[List.take_succ_cons] at h;injection h with h1 h2;exact⟨aT,by simpa using h1⟩
theorem yI{b:UInt8}(h:t.take (tok t).2=b::x)(hb:97≤b.toNat∧b.toNat≤122):(tok t).1=if mh (b::x) then 4 else 3:=by
 obtain⟨h0,h1⟩:=head_take h;obtain⟨c1,c2,c3⟩:=Gv h0 (by rw[h1];omega);rw[h1] at c1;have e1:isSp (cc t)=false:=by unfold isSp;rw[c1];simp;omega
 have e2:isLt (cc t)=true:=by unfold isLt;rw[c1];simp;omega
 have e3:tok t=(if mh (t.take (sz t+skip jT (nx t))) then 4 else 3,sz t+skip jT (nx t)):=by
  unfold tok;rw[aM (by rw[e1];simp),aU e2]
 have e4:(tok t).2=sz t+skip jT (nx t):=by rw[e3]
 rw[e4] at h;rw[e3,h]
theorem O5{b:UInt8}(h:t.take (tok t).2=b::x)(hb:oI (b.toNat:Int)=true)(hx:b.toNat=45→x=[]):(tok t).1=7:=by
 obtain⟨h0,h1⟩:=head_take h;have hb':b.toNat<128:=by unfold oI at hb;simp at hb;omega
 obtain⟨c1,c2,c3⟩:=Gv h0 (by rw[h1];omega);rw[h1] at c1;have e1:isSp (cc t)=false:=by unfold isSp;rw[c1];unfold oI at hb;simp at hb ⊢;omega
 have e2:isLt (cc t)=false:=by unfold isLt;rw[c1];unfold oI at hb;simp at hb ⊢;omega
 have e3:iR (cc t)=false:=by unfold iR;rw[c1];unfold oI at hb;simp at hb ⊢;omega
 have e4:¬ cc t=34:=by rw[c1];unfold oI at hb;simp at hb;omega
 have e5:¬(cc t=123∧cc (nx t)=45):=by rw[c1];unfold oI at hb;simp at hb;omega
 have e7:oI (cc t)=true:=by rw[c1];exact hb
 have e8:tok t=if cc t=45∧cc (nx t)=45 then(2,1+skip sD (nx t)) else if sW (cc t) (cc (nx t)) then(7,2) else(7,1):=by
  unfold tok;rw[aM (by rw[e1];simp),aM (by rw[e2];simp),aM (by rw[e3];simp),aM e4,aM e5,aU e7]
 by_cases e6:cc t=45∧cc (nx t)=45
 ·exfalso
  rw[aU e6] at e8;have hx0:=hx (by rw[c1] at e6;omega);have hn:=mF e6.2 aS;have:1≤skip sD (nx t):=by
   rw[jI hn (by unfold sD;rw[e6.2];decide)];have:=jH hn;omega
  have hl:=congrArg List.length h;rw[e8,hx0,dX] at hl;have hb2:=(jG h0).2.2.2;rw[e8] at hb2;simp only[bF] at hl;simp only at hb2;omega
 ·rw[aM e6] at e8
  rw[e8];split<;>rfl
theorem TB(h0:t≠[]):Fits ((tok t).1,t.take (tok t).2):=by
 have hb:=jG h0;refine⟨?_,?_,?_,hb.1,hb.2.1,?_⟩
 ·intro h
  simp only[words,fJ,o7,or_false] at h;rcases h with h|h|h|h|h|h|h|h|h|h|h|h<;>(rw[yI h aS];rfl)
 ·intro h
  show(tok t).1=3;rw[yI (b:=110) (x:=[97,109,101]) h aS];rfl
 ·intro h
  simp only[signs,fJ,o7,or_false] at h;rcases h with h|h|h|h|h|h|h|h|h|h|h|h|h|h|h|h<;>exact O5 h aS aS
 ·intro h
  have h2:(t.take (tok t).2).length=0:=congrArg List.length h;rw[dX] at h2;have:=mr.2 h0;omega
theorem WL(l:ah)(n:Nat):∀ p,(l.drop p).length≤n→∀ t∈(toks p (l.drop p)).map (uI l),Fits t:=by
 induction n with
 | zero =>
  intro p h t ht;have:l.drop p=[]:=bP.1 au;rw[this,jS] at ht;cases ht
 | succ n ih =>
  intro p h t ht;by_cases h0:l.drop p=[]
  ·rw[h0,jS] at ht;cases ht
  ·have hb:=jG h0
   have hp:=mr.2 h0;rw[kZ h0,iO,cZ] at ht;rcases fJ.1 ht with rfl|ht
   ·exact TB h0
   ·exact ih (p+(tok (l.drop p)).2) (by rw[bV] at h hp ⊢;omega) t ht
theorem zw(l:ah):∀ t∈xt l,Fits t:=by
 have:=WL l _ 0 (ax _);rw[List.drop_zero] at this;exact this
def rZ(ts:List Tok):ah:=match pQ ts with|some t=>t.2|none=>[]
def pN(s:ah)(ts:List Tok):Bool:=s==rZ ts||(s==gy&&dm ts==3)
def Good(ts:List Tok):Prop:=∀ t∈ts,Fits t
theorem MZ{ts:List Tok}{t:Tok}(h:pQ ts=some t):t∈ts:=by
 unfold pQ at h;exact(gD _).subset (List.mem_of_mem_head? (by rw[h];rfl))
theorem gV{s:ah}{ts:List Tok}(hg:Good ts)(hs:s∈words∨s∈signs):pN s ts=dJ s ts:=by
 have hn:(s==gy)=false:=by
  rw[eO];rintro rfl;rcases hs with h|h<;>revert h<;>decide
 have hne:s≠[]:=by
  rintro rfl;rcases hs with h|h<;>revert h<;>decide
 unfold pN rZ dJ;rw[hn,Bool.false_and,Bool.or_false];cases h:pQ ts with
 | none=>simp only;rw[eO];exact hne
 | some t =>
  simp only;obtain⟨f1,-,f3,-⟩:=hg t (MZ h);by_cases e:s=t.2
  ·subst e
   have:(t.1==4||t.1==7)=true:=by
    rcases hs with h|h
    ·rw[f1 h];rfl
    ·rw[f3 h];rfl
   rw[this];simp
  ·have e1:=eO.2 e
   have e2:=eO.2 (fun h=>e h.symm);rw[e1,e2,Bool.and_false]
theorem M0{ts:List Tok}(hg:Good ts):pN gy ts=(dm ts==3):=by
 unfold pN rZ dm;cases h:pQ ts with
 | none=>rfl
 | some t =>
  simp only;obtain⟨-,f2,-⟩:=hg t (MZ h);by_cases e:gy=t.2
  ·rw[f2 e.symm];simp
  ·rw[eO.2 e];simp
end X
end
end Go.Proofs.YtoohcklcppnafaaGreatDoor
