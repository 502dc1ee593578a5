import Derived.Test.YtoohcklcppnafaaGreatDoorA
import Derived.Lib.DecodeN
namespace Go.Proofs.YtoohcklcppnafaaGreatDoor
variable{l:ah}
namespace M
open Go.Lib (decodeN)
def dec(l:ah):Nat × Nat :=
 if l.length=0 then(65533,0) else decodeN l.length (l.getD 0 0).toNat (l.getD 1 0).toNat (l.getD 2 0).toNat (l.getD 3 0).toNat
def sz(l:ah):Nat:=(dec l).2
def ch(l:ah):Nat:=(dec l).1
theorem Zi:sz []=0:=rfl
theorem uX(n a b c d:Nat)(hn:0<n):1≤(decodeN n a b c d).2∧(decodeN n a b c d).2≤4∧(decodeN n a b c d).2≤n:=by
 unfold decodeN
 repeat' split
 all_goals (simp only;omega)
theorem jH(h:l≠[]):1≤sz l:=by
 have:0<l.length:=mr.2 h;simp only[sz,dec,aM (au:¬ l.length=0)];exact(uX _ _ _ _ _ this).1
theorem uY(l:ah):sz l≤4:=by
 unfold sz dec
 split
 ·simp
 ·exact(uX _ _ _ _ _ au).2.1
theorem Ak(l:ah):sz l≤l.length:=by
 unfold sz dec
 split
 ·simp
 ·exact(uX _ _ _ _ _ au).2.2
theorem BX(n a b c d:Nat)(ha:a<256)(hb:b<256)(hc:c<256)(hd:d<256)(h:1<(decodeN n a b c d).2) :
  192≤a∧(128≤b∧b<192)∧(2<(decodeN n a b c d).2→128≤c∧c<192)∧(3<(decodeN n a b c d).2→128≤d∧d<192)∧128≤(decodeN n a b c d).1∧(decodeN n a b c d).1≤1114111:=by
 revert h;unfold decodeN
 repeat' split
 all_goals (simp only;intro h;refine⟨?_,?_,?_,?_,?_,?_⟩<;>omega)
theorem Gt(n a b c d:Nat)(h:(decodeN n a b c d).2=1):(a<128∧(decodeN n a b c d).1=a)∨(128≤a∧(decodeN n a b c d).1=65533):=by
 revert h;unfold decodeN
 repeat' split
 all_goals (intro h;dsimp only at h ⊢;first|(left;constructor<;>omega)|(right;constructor<;>omega)|omega)
theorem toNat_lt(x:UInt8):x.toNat<256:=x.toNat_lt
theorem rG(h:l≠[])(h1:sz l=1):((l.getD 0 0).toNat<128∧ch l=(l.getD 0 0).toNat)∨(128≤(l.getD 0 0).toNat∧ch l=65533):=by
 have hne:¬ l.length=0:=by have:=mr.2 h;omega
 unfold sz dec at h1;unfold ch dec;rw[aM hne] at h1 ⊢;exact Gt _ _ _ _ _ h1
theorem multi(h:1<sz l):192≤(l.getD 0 0).toNat∧(∀ i,1≤i→i<sz l→128≤(l.getD i 0).toNat∧(l.getD i 0).toNat<192)∧128≤ch l∧ch l≤1114111:=by
 have hl:=Ak l;have h4:=uY l;have hne:¬ l.length=0:=au
 unfold sz dec at h h4 hl ⊢;unfold ch dec;rw[aM hne] at h h4 hl ⊢;obtain⟨a,b,c,d,e,f⟩:=BX _ _ _ _ _ (toNat_lt _) (toNat_lt _) (toNat_lt _) (toNat_lt _) h;refine⟨a,fun i hi hi2=>?_,e,f⟩;have h5:i=1∨i=2∨i=3:=au
 rcases h5 with rfl|rfl|rfl
 ·exact b
 ·exact c hi2
 ·exact d hi2
theorem bI4(h:l≠[]):ch l=10↔(l.getD 0 0).toNat=10:=by
 by_cases hm:1<sz l
 ·have:=multi hm;omega
 ·have p:=rG h (by have:=jH h;omega)
  omega
theorem QW(h:l≠[])(h1:(l.getD 0 0).toNat<128):sz l=1:=by
 by_cases hm:1<sz l
 ·have:=multi hm;omega
 ·have:=jH h;omega
end M
end Go.Proofs.YtoohcklcppnafaaGreatDoor
