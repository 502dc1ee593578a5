/- Plain mathematics of texts that stand for texts. -/
import Derived.Test.YtdkpkpgpphkljaaGreatDoorCb
import Derived.Lib.RuneBytes
namespace Go.Proofs.YtdkpkpgpphkljaaGreatDoor
variable{t:ah}
namespace M
def Ia(t:ah):ah :=
 if _h:t=[] then [] else if cc t=92 then Lib.encodeRune (taken (nx t)).1++Ia ((nx t).drop (taken (nx t)).2.2) else t.take (sz t)++Ia (nx t)
termination_by t.length
decreasing_by
 all_goals (have:=BG _h;first|exact this|(simp;omega))
theorem uY:Ia []=[]:=by rw[Ia];simp
theorem C_(h:cc t=92):Ia t=Lib.encodeRune (taken (nx t)).1++Ia ((nx t).drop (taken (nx t)).2.2):=by
 have:=jR h (by omega)
 conv=>lhs;rw[Ia]
 simp[this,h]
theorem Il(h0:t≠[])(h:cc t≠92):Ia t=t.take (sz t)++Ia (nx t):=by
 conv=>lhs;rw[Ia]
 simp[h0,h]
theorem Kj(r:Int):(Lib.encodeRune r).length≤4:=by
 have:=Lib.encodeRuneZ_length r;simp only[Lib.encodeRune,eG];omega
theorem Ua(n:Nat):∀ t:ah,t.length≤n→(Ia t).length≤4*t.length:=by
 induction n with
 | zero=>intro t h;have:t=[]:=dL (by omega);subst this;simp[uY]
 | succ n ih =>
  intro t h;by_cases h0:t=[]
  ·subst h0;simp[uY]
  have h1:=BG h0;have h2:=mR t;by_cases hc:cc t=92
  ·rw[C_ hc,ak]
   have h3:=Kj (taken (nx t)).1;have h4:=ih ((nx t).drop (taken (nx t)).2.2) (by simp;omega);simp only[bM] at h4;omega
  ·rw[Il h0 hc,ak]
   have h4:=ih (nx t) (by omega);have h5:(t.take (sz t)).length≤sz t:=List.length_take_le _ _;omega
theorem Ub(n:Nat):∀(k:Nat) (c:Int) (t:ah),0≤c→c<((16 ^ k:Nat):Int)→0≤(lF n c t).1∧(lF n c t).1<((16 ^ (k+n):Nat):Int):=by
 induction n with
 | zero=>intro k c t h0 h1;simp[lF];exact⟨h0,by simpa using h1⟩
 | succ n ih =>
  intro k c t h0 h1;have hh:=zn (cc t);unfold lF
  split
  ·have:=ih (k+1) (c*16+hexOf (cc t)) (nx t) (by omega) (by rw[Nat.pow_succ];omega)
   rw[show k+1+n=k+(n+1) by omega] at this;exact this
  ·have:16 ^ k≤16 ^ (k+(n+1)):=Nat.pow_le_pow_right (by omega) (by omega)
   exact⟨h0,by simp only;omega⟩
theorem Oz(t:ah):0≤(taken t).1∧(taken t).1≤16777215:=by
 have hc:=aC6 t;unfold taken;by_cases h:cc t=-1∨cc t=10
 ·rw[aL h];simp
 rw[aG h]
 repeat' split
 all_goals (try(simp only;omega))
 simp only;have hx:=Ub 6 0 0 (nx (nx t)) (by omega) (by decide);have h16:((16 ^ (0+6):Nat):Int)=16777216:=by decide
 unfold code
 repeat' split
 all_goals (simp only;omega)
end M
end Go.Proofs.YtdkpkpgpphkljaaGreatDoor
