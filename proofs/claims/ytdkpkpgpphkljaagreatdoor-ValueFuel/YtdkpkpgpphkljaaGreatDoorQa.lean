/- Plain mathematics of quoting. -/
import Derived.Test.YtdkpkpgpphkljaaGreatDoorCd
import Derived.Test.YtdkpkpgpphkljaaGreatDoorMa
namespace Go.Proofs.YtdkpkpgpphkljaaGreatDoor
open M
variable{t:ah}
def qb(x:UInt8):ah:=if x.toNat=10 then [92,110] else if x.toNat=9 then [92,116] else if x.toNat=34∨x.toNat=92 then [92,x] else if x.toNat<32∨x.toNat=127 then [92,117,123]++hx x.toNat++[125] else [x]
def qt(l:ah):ah:=l.flatMap qb
theorem Q8(c:Nat):(hx c).length≤2:=by unfold hx;split<;>simp
theorem Za(x:UInt8):(qb x).length≤6:=by
 unfold qb;have:=Q8 x.toNat
 repeat' split
 all_goals (simp;try omega)
theorem Ql(l:ah):(qt l).length≤6*l.length:=by
 induction l with
 | nil=>simp[qt]
 | cons x l ih =>
  have:=Za x;unfold qt at ih ⊢;rw[f_,ak,aW];omega
theorem Ag{x:UInt8}(h1:x.toNat≠10)(h2:x.toNat≠9)(h3:x.toNat≠34)(h4:x.toNat≠92)(h5:¬ x.toNat<32)(h6:x.toNat≠127):qb x=[x]:=by
 unfold qb;rw[aG h1,aG h2,aG (by omega),aG (by omega)]
theorem Gj:∀ l:ah,(∀ x∈l,qb x=[x])→qt l=l
 | [],_=>rfl
 | x::l,h=>by
  have e:=Gj l (fun y hy=>h y (by simp[hy]));unfold qt at e ⊢;rw[f_,h x (by simp),e];rfl
theorem M_(a b:ah):qt (a++b)=qt a++qt b:=by unfold qt;exact iA
theorem Vm(h0:t≠[])(h3:cc t≠34)(h4:cc t≠92)(h5:¬ cc t<32)(h6:cc t≠127):qt t=t.take (sz t)++qt (nx t):=by
 conv=>lhs;rw[← dA (sz t) t,M_]
 unfold nx;congr 1;refine Gj _ (fun x hx=>?_);obtain⟨i,hi,rfl⟩:=oL hx;rw[bL] at hi;rw[List.getElem_take];have hl:=zl t;have e:∀(j:Nat) (hj:j<t.length),t.getD j 0=t[j]'hj:=fun j hj=>by rw[bF,aC hj];rfl
 by_cases hm:1<sz t
 ·have hM:=multi hm
  have hge:128≤(t[i]'(by omega)).toNat:=by
   rcases gF i with rfl|hi0
   ·have:=hM.1;rw[e 0 (by omega)] at this;omega
   ·have:=(hM.2.1 i hi0 (by omega)).1;rw[e i (by omega)] at this;exact this
  exact Ag (by omega) (by omega) (by omega) (by omega) (by omega) (by omega)
 ·have hs:sz t=1:=by have:=iZ h0;omega
  obtain rfl:i=0:=by omega
  have hc:=oQ h0 hs;rw[e 0 (by omega)] at hc;rw[oo h0] at h3 h4 h5 h6;rcases hc with ⟨_,hc⟩|⟨hc,_⟩
  ·exact Ag (by omega) (by omega) (by omega) (by omega) (by omega) (by omega)
  ·exact Ag (by omega) (by omega) (by omega) (by omega) (by omega) (by omega)
theorem Ah{c:Nat}(hc:c<128)(h:cc t=(c:Int)):qt t=qb (UInt8.ofNat c)++qt (t.drop 1)∧sz t=1:=by
 have h1:=(Oy hc).1 h;have hz:sz t=1:=gP (by omega) (by omega);cases t with
 | nil=>exact absurd rfl h1.1
 | cons x u =>
  have hx:x=UInt8.ofNat c:=by
   rw[← UInt8.toNat_inj];have:=h1.2;simp at this ⊢;omega
  refine⟨?_,hz⟩;unfold qt;rw[f_,hx];rfl
end Go.Proofs.YtdkpkpgpphkljaaGreatDoor
