import Derived.Test.YtoohcklcppnafaaGreatDoorCb
import Derived.WalkSpells
namespace Go.Proofs.YtoohcklcppnafaaGreatDoor
set_option maxHeartbeats 1000000
open Tryz
open Go.RowKit
open M
theorem jQ{a b:Bool}(h:a=b):Ending.returned (.bool a)=.returned (.bool b):=by rw[h]
theorem uH{k:IntKind}{a b:Int}(h:a=b):Ending.returned (.int k a)=.returned (.int k b):=by rw[h]
theorem d_(c:Int)(w:aG):bB 142 #[.int .i32 c] w (cK (.bool (isSp c)) fun w'=>w'=w):=by
 by_cases h1:c=32
 ·subst h1
  go_enter func142,ntmps142;go_wp2
  go_ret;exact⟨rfl,rfl⟩
 by_cases h2:c=10
 ·subst h2
  go_enter func142,ntmps142;go_wp2
  go_ret;exact⟨rfl,rfl⟩
 by_cases h3:c=9
 ·subst h3
  go_enter func142,ntmps142;go_wp2
  go_ret;exact⟨rfl,rfl⟩
 have b1:(c==32)=false:=by simpa using h1
 have b2:(c==10)=false:=by simpa using h2
 have b3:(c==9)=false:=by simpa using h3
 have HH:Hid (isSp c=(c==13)):=by show isSp c=_;unfold isSp;rw[gq];simp[h1,h2,h3]
 clear h1 h2 h3;go_enter func142,ntmps142;go_wp2
 go_ret;exact⟨jQ HH.o.symm,rfl⟩
theorem dN(c:Int)(w:aG):bB 144 #[.int .i32 c] w (cK (.bool (iR c)) fun w'=>w'=w):=by
 by_cases h1:48≤c
 ·have HH:Hid (iR c=decide (c≤57)):=by show iR c=_;unfold iR;simp[h1]
  have b1:decide (48≤c)=true:=by simpa using h1
  go_enter func144,ntmps144;go_wp2
  go_ret;exact⟨jQ HH.o.symm,rfl⟩
 ·have HH:Hid (iR c=false):=by show iR c=_;unfold iR;simp;omega
  have b1:decide (48≤c)=false:=by simpa using h1
  go_enter func144,ntmps144;go_wp2
  go_ret;exact⟨jQ HH.o.symm,rfl⟩
theorem dW(c:Int)(w:aG):bB 143 #[.int .i32 c] w (cK (.bool (isLt c)) fun w'=>w'=w):=by
 have HH:Hid (isLt c=decide ((97≤c∧c≤122)∨(65≤c∧c≤90)∨c=95∨(192≤c∧c≤591∧c≠215∧c≠247)∨(880≤c∧c≤1279))):=rfl;by_cases h1:97≤c
 all_goals by_cases h2:65≤c
 all_goals by_cases h3:192≤c
 all_goals by_cases h4:c≤591
 all_goals by_cases h5:880≤c
 all_goals (try omega)
 all_goals
  go_enter func143,ntmps143;go_wp2
 all_goals
  go_ret;refine⟨jQ ?_,rfl⟩;rw[HH.o]
  first
   | rfl
   | (symm;rw[decide_eq_true_iff];simp at *;omega)
   | (symm;rw[fV];simp at *;omega)
   | (rw[gq];simp at *;omega)
theorem lK(a b:Int)(w:aG):bB 147 #[.int .i32 a,.int .i32 b] w (cK (.bool (sW a b)) fun w'=>w'=w):=by
 have HH:Hid (sW a b=decide ((a=61∧(b=62∨b=61))∨(a=43∧b=43))):=rfl;by_cases h1:a=61
 ·subst h1
  by_cases h2:b=62
  ·subst h2
   go_enter func147,ntmps147;go_wp2
   go_ret;exact⟨rfl,rfl⟩
  ·have b2:(b==62)=false:=by simpa using h2
   have HH2:Hid (sW 61 b=(b==61)):=by rw[HH.o];show _=_;rw[gq];simp[h2]
   clear h2;go_enter func147,ntmps147;go_wp2
   go_ret;exact⟨jQ HH2.o.symm,rfl⟩
 by_cases h2:a=43
 ·subst h2
  have HH2:Hid (sW 43 b=(b==43)):=by rw[HH.o];show _=_;rw[gq];simp
  go_enter func147,ntmps147;go_wp2
  go_ret;exact⟨jQ HH2.o.symm,rfl⟩
 ·have b1:(a==61)=false:=by simpa using h1
  have b2:(a==43)=false:=by simpa using h2
  have HH2:Hid (sW a b=false):=by rw[HH.o];show _=_;simp[h1,h2]
  clear h1 h2;go_enter func147,ntmps147;go_wp2
  go_ret;exact⟨jQ HH2.o.symm,rfl⟩
theorem qW(c:Int)(w:aG):bB 176 #[.int .i32 c] w (cK (.int .i32 (hexOf c)) fun w'=>w'=w):=by
 have HH:Hid (hexOf c=if 48≤c∧c≤57 then c - 48 else if 97≤c∧c≤102 then c - 87 else if 65≤c∧c≤70 then c - 55 else -1):=rfl;by_cases hd:iR c=true
 ·have hd':48≤c∧c≤57:=by simpa [iR] using hd
  go_enter func176,ntmps176;go_wp2_with (go_at_call 144;refine(dN _ _).cO ?_)
  go_ret;exact⟨uH (by rw[HH.o,aU hd']),rfl⟩
 ·have hd':¬(48≤c∧c≤57):=by simpa [iR] using hd
  have hf:iR c=false:=by simpa using hd
  clear hd;have HD:=aA hd';clear hd';by_cases h1:97≤c
  ·by_cases h2:c≤102
   ·go_enter func176,ntmps176
    go_wp2_with (go_at_call 144;refine(dN _ _).cO ?_)
    go_ret;exact⟨uH (by rw[HH.o,aM HD.o,aU ⟨h1,h2⟩];omega),rfl⟩
   ·have h3:¬ c≤70:=by omega
    have h4:65≤c:=au
    go_enter func176,ntmps176;go_wp2_with (go_at_call 144;refine(dN _ _).cO ?_)
    go_ret;exact⟨uH (by rw[HH.o,aM HD.o,aM au,aM au]),rfl⟩
  ·by_cases h3:65≤c
   ·by_cases h4:c≤70
    ·go_enter func176,ntmps176
     go_wp2_with (go_at_call 144;refine(dN _ _).cO ?_)
     go_ret;exact⟨uH (by rw[HH.o,aM HD.o,aM au,aU ⟨h3,h4⟩];omega),rfl⟩
    ·go_enter func176,ntmps176
     go_wp2_with (go_at_call 144;refine(dN _ _).cO ?_)
     go_ret;exact⟨uH (by rw[HH.o,aM HD.o,aM au,aM au]),rfl⟩
   ·go_enter func176,ntmps176
    go_wp2_with (go_at_call 144;refine(dN _ _).cO ?_)
    go_ret;exact⟨uH (by rw[HH.o,aM HD.o,aM au,aM au]),rfl⟩
end Go.Proofs.YtoohcklcppnafaaGreatDoor
