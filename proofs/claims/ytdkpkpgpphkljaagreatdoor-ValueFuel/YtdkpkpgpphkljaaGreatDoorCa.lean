/- Plain mathematics of characters in a list of bytes: how a list is taken apart. -/
import Derived.Test.YtdkpkpgpphkljaaGreatDoorA
import Derived.Lib.DecodeN
namespace Go.Proofs.YtdkpkpgpphkljaaGreatDoor
variable{l:ah}
namespace M
open Go.Lib (decodeN)
def dec(l:ah):Nat × Nat :=
 if l.length=0 then(65533,0) else decodeN l.length (l.getD 0 0).toNat (l.getD 1 0).toNat (l.getD 2 0).toNat (l.getD 3 0).toNat
def sz(l:ah):Nat:=(dec l).2
def ch(l:ah):Nat:=(dec l).1
theorem Xn:sz []=0:=rfl
theorem uG(n a b c d:Nat)(hn:0<n):1≤(decodeN n a b c d).2∧(decodeN n a b c d).2≤4∧(decodeN n a b c d).2≤n:=by
 unfold decodeN
 repeat' split
 all_goals (simp only;omega)
theorem iZ(h:l≠[]):1≤sz l:=by
 have:0<l.length:=gM.2 h;simp only[sz,dec,aG (by omega:¬ l.length=0)];exact(uG _ _ _ _ _ this).1
theorem zk(l:ah):sz l≤4:=by
 unfold sz dec
 split
 ·simp
 ·exact(uG _ _ _ _ _ (by omega)).2.1
theorem zl(l:ah):sz l≤l.length:=by
 unfold sz dec
 split
 ·simp
 ·exact(uG _ _ _ _ _ (by omega)).2.2
theorem AV(n a b c d:Nat)(ha:a<256)(hb:b<256)(hc:c<256)(hd:d<256)(h:1<(decodeN n a b c d).2) :
  192≤a∧(128≤b∧b<192)∧(2<(decodeN n a b c d).2→128≤c∧c<192)∧(3<(decodeN n a b c d).2→128≤d∧d<192)∧128≤(decodeN n a b c d).1∧(decodeN n a b c d).1≤1114111:=by
 revert h;unfold decodeN
 repeat' split
 all_goals (simp only;intro h;refine⟨?_,?_,?_,?_,?_,?_⟩<;>omega)
theorem EO(n a b c d:Nat)(h:(decodeN n a b c d).2=1):(a<128∧(decodeN n a b c d).1=a)∨(128≤a∧(decodeN n a b c d).1=65533):=by
 revert h;unfold decodeN
 repeat' split
 all_goals (intro h;dsimp only at h ⊢;first|(left;constructor<;>omega)|(right;constructor<;>omega)|omega)
theorem toNat_lt(x:UInt8):x.toNat<256:=x.toNat_lt
theorem oQ(h:l≠[])(h1:sz l=1):((l.getD 0 0).toNat<128∧ch l=(l.getD 0 0).toNat)∨(128≤(l.getD 0 0).toNat∧ch l=65533):=by
 have hne:¬ l.length=0:=by have:=gM.2 h;omega
 unfold sz dec at h1;unfold ch dec;rw[aG hne] at h1 ⊢;exact EO _ _ _ _ _ h1
theorem multi(h:1<sz l):192≤(l.getD 0 0).toNat∧(∀ i,1≤i→i<sz l→128≤(l.getD i 0).toNat∧(l.getD i 0).toNat<192)∧128≤ch l∧ch l≤1114111:=by
 have hl:=zl l;have h4:=zk l;have hne:¬ l.length=0:=by omega
 unfold sz dec at h h4 hl ⊢;unfold ch dec;rw[aG hne] at h h4 hl ⊢;obtain⟨a,b,c,d,e,f⟩:=AV _ _ _ _ _ (toNat_lt _) (toNat_lt _) (toNat_lt _) (toNat_lt _) h;refine⟨a,fun i hi hi2=>?_,e,f⟩;have h5:i=1∨i=2∨i=3:=by omega
 rcases h5 with rfl|rfl|rfl
 ·exact b
 ·exact c hi2
 ·exact d hi2
theorem Ou(h:l≠[])(h1:(l.getD 0 0).toNat<128):sz l=1:=by
 by_cases hm:1<sz l
 ·have:=multi hm;omega
 ·have:=iZ h;omega
end M
end Go.Proofs.YtdkpkpgpphkljaaGreatDoor
