/- Small questions of characters,as package lex asks them. -/
import Derived.Test.YtdkpkpgpphkljaaGreatDoorProg
import Derived.Test.YtdkpkpgpphkljaaGreatDoorCb
import Derived.WalkSpells
namespace Go.Proofs.YtdkpkpgpphkljaaGreatDoor
set_option maxHeartbeats 1000000
open Tryz
open Go.RowKit
open M
theorem ve{a b:Bool}(h:a=b):Ending.returned (.bool a)=.returned (.bool b):=by rw[h]
theorem uI{k:IntKind}{a b:Int}(h:a=b):Ending.returned (.int k a)=.returned (.int k b):=by rw[h]
theorem dK(c:Int)(w:World):Calls prog 137 #[.int .i32 c] w fun e w'=>e=.returned (.bool (isSp c))∧w'=w:=by
 by_cases h1:c=32
 ·subst h1
  go_enter func137,ntmps137;go_wp2
  go_ret;exact⟨rfl,rfl⟩
 by_cases h2:c=10
 ·subst h2
  go_enter func137,ntmps137;go_wp2
  go_ret;exact⟨rfl,rfl⟩
 by_cases h3:c=9
 ·subst h3
  go_enter func137,ntmps137;go_wp2
  go_ret;exact⟨rfl,rfl⟩
 have b1:(c==32)=false:=by simpa using h1
 have b2:(c==10)=false:=by simpa using h2
 have b3:(c==9)=false:=by simpa using h3
 have HH:Hid (isSp c=(c==13)):=by show isSp c=_;unfold isSp;rw[iD];simp[h1,h2,h3]
 clear h1 h2 h3;go_enter func137,ntmps137;go_wp2
 go_ret;exact⟨ve HH.o.symm,rfl⟩
theorem bZ(c:Int)(w:World):Calls prog 139 #[.int .i32 c] w fun e w'=>e=.returned (.bool (jw c))∧w'=w:=by
 by_cases h1:48≤c
 ·have HH:Hid (jw c=decide (c≤57)):=by show jw c=_;unfold jw;simp[h1]
  have b1:decide (48≤c)=true:=by simpa using h1
  go_enter func139,ntmps139;go_wp2
  go_ret;exact⟨ve HH.o.symm,rfl⟩
 ·have HH:Hid (jw c=false):=by show jw c=_;unfold jw;simp;omega
  have b1:decide (48≤c)=false:=by simpa using h1
  go_enter func139,ntmps139;go_wp2
  go_ret;exact⟨ve HH.o.symm,rfl⟩
theorem dw(c:Int)(w:World):Calls prog 138 #[.int .i32 c] w fun e w'=>e=.returned (.bool (isLt c))∧w'=w:=by
 have HH:Hid (isLt c=decide ((97≤c∧c≤122)∨(65≤c∧c≤90)∨c=95∨(192≤c∧c≤591∧c≠215∧c≠247)∨(880≤c∧c≤1279))):=rfl;by_cases h1:97≤c
 all_goals by_cases h2:65≤c
 all_goals by_cases h3:192≤c
 all_goals by_cases h4:c≤591
 all_goals by_cases h5:880≤c
 all_goals (try omega)
 all_goals
  go_enter func138,ntmps138;go_wp2
 all_goals
  go_ret;refine⟨ve ?_,rfl⟩;rw[HH.o]
  first
   | rfl
   | (symm;rw[decide_eq_true_iff];simp at *;omega)
   | (symm;rw[lg];simp at *;omega)
   | (rw[iD];simp at *;omega)
theorem jS(a b:Int)(w:World):Calls prog 142 #[.int .i32 a,.int .i32 b] w fun e w'=>e=.returned (.bool (uU a b))∧w'=w:=by
 have HH:Hid (uU a b=decide ((a=61∧(b=62∨b=61))∨(a=43∧b=43))):=rfl;by_cases h1:a=61
 ·subst h1
  by_cases h2:b=62
  ·subst h2
   go_enter func142,ntmps142;go_wp2
   go_ret;exact⟨rfl,rfl⟩
  ·have b2:(b==62)=false:=by simpa using h2
   have HH2:Hid (uU 61 b=(b==61)):=by rw[HH.o];show _=_;rw[iD];simp[h2]
   clear h2;go_enter func142,ntmps142;go_wp2
   go_ret;exact⟨ve HH2.o.symm,rfl⟩
 by_cases h2:a=43
 ·subst h2
  have HH2:Hid (uU 43 b=(b==43)):=by rw[HH.o];show _=_;rw[iD];simp
  go_enter func142,ntmps142;go_wp2
  go_ret;exact⟨ve HH2.o.symm,rfl⟩
 ·have b1:(a==61)=false:=by simpa using h1
  have b2:(a==43)=false:=by simpa using h2
  have HH2:Hid (uU a b=false):=by rw[HH.o];show _=_;simp[h1,h2]
  clear h1 h2;go_enter func142,ntmps142;go_wp2
  go_ret;exact⟨ve HH2.o.symm,rfl⟩
theorem qB(c:Int)(w:World):Calls prog 189 #[.int .i32 c] w fun e w'=>e=.returned (.int .i32 (hexOf c))∧w'=w:=by
 have HH:Hid (hexOf c=if 48≤c∧c≤57 then c - 48 else if 97≤c∧c≤102 then c - 87 else if 65≤c∧c≤70 then c - 55 else -1):=rfl;by_cases hd:jw c=true
 ·have hd':48≤c∧c≤57:=by simpa [jw] using hd
  go_enter func189,ntmps189;go_wp2_with (go_at_call 139;refine(bZ _ _).mono ?_;rintro e w' ⟨rfl,rfl⟩)
  go_ret;exact⟨uI (by rw[HH.o,aL hd']),rfl⟩
 ·have hd':¬(48≤c∧c≤57):=by simpa [jw] using hd
  have hf:jw c=false:=by simpa using hd
  clear hd;have HD:=au hd';clear hd';by_cases h1:97≤c
  ·by_cases h2:c≤102
   ·go_enter func189,ntmps189
    go_wp2_with (go_at_call 139;refine(bZ _ _).mono ?_;rintro e w' ⟨rfl,rfl⟩)
    go_ret;exact⟨uI (by rw[HH.o,aG HD.o,aL ⟨h1,h2⟩];omega),rfl⟩
   ·have h3:¬ c≤70:=by omega
    have h4:65≤c:=by omega
    go_enter func189,ntmps189;go_wp2_with (go_at_call 139;refine(bZ _ _).mono ?_;rintro e w' ⟨rfl,rfl⟩)
    go_ret;exact⟨uI (by rw[HH.o,aG HD.o,aG (by omega),aG (by omega)]),rfl⟩
  ·by_cases h3:65≤c
   ·by_cases h4:c≤70
    ·go_enter func189,ntmps189
     go_wp2_with (go_at_call 139;refine(bZ _ _).mono ?_;rintro e w' ⟨rfl,rfl⟩)
     go_ret;exact⟨uI (by rw[HH.o,aG HD.o,aG (by omega),aL ⟨h3,h4⟩];omega),rfl⟩
    ·go_enter func189,ntmps189
     go_wp2_with (go_at_call 139;refine(bZ _ _).mono ?_;rintro e w' ⟨rfl,rfl⟩)
     go_ret;exact⟨uI (by rw[HH.o,aG HD.o,aG (by omega),aG (by omega)]),rfl⟩
   ·go_enter func189,ntmps189
    go_wp2_with (go_at_call 139;refine(bZ _ _).mono ?_;rintro e w' ⟨rfl,rfl⟩)
    go_ret;exact⟨uI (by rw[HH.o,aG HD.o,aG (by omega),aG (by omega)]),rfl⟩
end Go.Proofs.YtdkpkpgpphkljaaGreatDoor
