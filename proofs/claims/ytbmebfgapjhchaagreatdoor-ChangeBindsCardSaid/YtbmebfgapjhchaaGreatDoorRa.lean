/- Small questions of characters,as package lex asks them. -/
import Derived.Test.YtbmebfgapjhchaaGreatDoorProg
import Derived.Test.YtbmebfgapjhchaaGreatDoorCb
import Derived.Test.YtbmebfgapjhchaaGreatDoorKa
import Derived.WalkKit
import Derived.WalkSpells
namespace Go.Proofs.YtbmebfgapjhchaaGreatDoor
open Go.RowKit
open M
theorem retb {a b:Bool} (h:a=b):Ending.returned (.bool a)=.returned (.bool b):=by rw [h]
theorem reti {k:IntKind} {a b:Int} (h:a=b):Ending.returned (.int k a)=.returned (.int k b):=by rw [h]
set_option maxHeartbeats 400000 in
theorem isSpace_any (c:Int) (w:World):Calls Tryz.prog 107 #[.int .i32 c] w fun e w'=>e=.returned (.bool (isSp c))∧w'=w:=by
 by_cases h1:c=32
 ·subst h1
  go_enter Tryz.func107,Tryz.ntmps107
  go_wp2
  go_ret
  exact ⟨rfl,rfl⟩
 by_cases h2:c=10
 ·subst h2
  go_enter Tryz.func107,Tryz.ntmps107
  go_wp2
  go_ret
  exact ⟨rfl,rfl⟩
 by_cases h3:c=9
 ·subst h3
  go_enter Tryz.func107,Tryz.ntmps107
  go_wp2
  go_ret
  exact ⟨rfl,rfl⟩
 have b1:(c==32)=false:=by simpa using h1
 have b2:(c==10)=false:=by simpa using h2
 have b3:(c==9)=false:=by simpa using h3
 have HH:Hid (isSp c=(c==13)):=by show isSp c=_;unfold isSp;rw [Bool.eq_iff_iff];simp [h1,h2,h3]
 clear h1 h2 h3
 go_enter Tryz.func107,Tryz.ntmps107
 go_wp2
 go_ret
 exact ⟨retb HH.out.symm,rfl⟩
set_option maxHeartbeats 400000 in
theorem isDigit_any (c:Int) (w:World):Calls Tryz.prog 109 #[.int .i32 c] w fun e w'=>e=.returned (.bool (isDg c))∧w'=w:=by
 by_cases h1:48≤c
 ·have HH:Hid (isDg c=decide (c≤57)):=by show isDg c=_;unfold isDg;simp [h1]
  have b1:decide (48≤c)=true:=by simpa using h1
  go_enter Tryz.func109,Tryz.ntmps109
  go_wp2
  go_ret
  exact ⟨retb HH.out.symm,rfl⟩
 ·have HH:Hid (isDg c=false):=by show isDg c=_;unfold isDg;simp;omega
  have b1:decide (48≤c)=false:=by simpa using h1
  go_enter Tryz.func109,Tryz.ntmps109
  go_wp2
  go_ret
  exact ⟨retb HH.out.symm,rfl⟩
set_option maxHeartbeats 1000000 in
theorem isLetter_any (c:Int) (w:World):Calls Tryz.prog 108 #[.int .i32 c] w fun e w'=>e=.returned (.bool (isLt c))∧w'=w:=by
 have HH:Hid (isLt c=decide ((97≤c∧c≤122)∨(65≤c∧c≤90)∨c=95∨(192≤c∧c≤591∧c≠215∧c≠247)∨(880≤c∧c≤1279))):=rfl
 by_cases h1:97≤c
 all_goals by_cases h2:65≤c
 all_goals by_cases h3:192≤c
 all_goals by_cases h4:c≤591
 all_goals by_cases h5:880≤c
 all_goals (try omega)
 all_goals
  go_enter Tryz.func108,Tryz.ntmps108
  go_wp2
 all_goals
  go_ret
  refine ⟨retb ?_,rfl⟩
  rw [HH.out]
  first
   | rfl
   | (symm;rw [decide_eq_true_iff];simp at *;omega)
   | (symm;rw [decide_eq_false_iff_not];simp at *;omega)
   | (rw [Bool.eq_iff_iff];simp at *;omega)
set_option maxHeartbeats 1000000 in
theorem isPair_any (a b:Int) (w:World):Calls Tryz.prog 112 #[.int .i32 a,.int .i32 b] w fun e w'=>e=.returned (.bool (isPr a b))∧w'=w:=by
 have HH:Hid (isPr a b=decide ((a=61∧(b=62∨b=61))∨(a=43∧b=43))):=rfl
 by_cases h1:a=61
 ·subst h1
  by_cases h2:b=62
  ·subst h2
   go_enter Tryz.func112,Tryz.ntmps112
   go_wp2
   go_ret
   exact ⟨rfl,rfl⟩
  ·have b2:(b==62)=false:=by simpa using h2
   have HH2:Hid (isPr 61 b=(b==61)):=by rw [HH.out];show _=_;rw [Bool.eq_iff_iff];simp [h2]
   clear h2
   go_enter Tryz.func112,Tryz.ntmps112
   go_wp2
   go_ret
   exact ⟨retb HH2.out.symm,rfl⟩
 by_cases h2:a=43
 ·subst h2
  have HH2:Hid (isPr 43 b=(b==43)):=by rw [HH.out];show _=_;rw [Bool.eq_iff_iff];simp
  go_enter Tryz.func112,Tryz.ntmps112
  go_wp2
  go_ret
  exact ⟨retb HH2.out.symm,rfl⟩
 ·have b1:(a==61)=false:=by simpa using h1
  have b2:(a==43)=false:=by simpa using h2
  have HH2:Hid (isPr a b=false):=by rw [HH.out];show _=_;simp [h1,h2]
  clear h1 h2
  go_enter Tryz.func112,Tryz.ntmps112
  go_wp2
  go_ret
  exact ⟨retb HH2.out.symm,rfl⟩
set_option maxHeartbeats 1000000 in
theorem hexOf_any (c:Int) (w:World):Calls Tryz.prog 155 #[.int .i32 c] w fun e w'=>e=.returned (.int .i32 (hexOf c))∧w'=w:=by
 have HH:Hid (hexOf c=if 48≤c∧c≤57 then c - 48 else if 97≤c∧c≤102 then c - 87 else if 65≤c∧c≤70 then c - 55 else -1):=rfl
 by_cases hd:isDg c=true
 ·have hd':48≤c∧c≤57:=by simpa [isDg] using hd
  go_enter Tryz.func155,Tryz.ntmps155
  go_wp2_with (go_at_call 109;refine (isDigit_any _ _).mono ?_;rintro e w' ⟨rfl,rfl⟩)
  go_ret
  exact ⟨reti (by rw [HH.out,if_pos hd']),rfl⟩
 ·have hd':¬(48≤c∧c≤57):=by simpa [isDg] using hd
  have hf:isDg c=false:=by simpa using hd
  clear hd
  have HD:=hide hd'
  clear hd'
  by_cases h1:97≤c
  ·by_cases h2:c≤102
   ·go_enter Tryz.func155,Tryz.ntmps155
    go_wp2_with (go_at_call 109;refine (isDigit_any _ _).mono ?_;rintro e w' ⟨rfl,rfl⟩)
    go_ret
    exact ⟨reti (by rw [HH.out,if_neg HD.out,if_pos ⟨h1,h2⟩];omega),rfl⟩
   ·have h3:¬ c≤70:=by omega
    have h4:65≤c:=by omega
    go_enter Tryz.func155,Tryz.ntmps155
    go_wp2_with (go_at_call 109;refine (isDigit_any _ _).mono ?_;rintro e w' ⟨rfl,rfl⟩)
    go_ret
    exact ⟨reti (by rw [HH.out,if_neg HD.out,if_neg (by omega),if_neg (by omega)]),rfl⟩
  ·by_cases h3:65≤c
   ·by_cases h4:c≤70
    ·go_enter Tryz.func155,Tryz.ntmps155
     go_wp2_with (go_at_call 109;refine (isDigit_any _ _).mono ?_;rintro e w' ⟨rfl,rfl⟩)
     go_ret
     exact ⟨reti (by rw [HH.out,if_neg HD.out,if_neg (by omega),if_pos ⟨h3,h4⟩];omega),rfl⟩
    ·go_enter Tryz.func155,Tryz.ntmps155
     go_wp2_with (go_at_call 109;refine (isDigit_any _ _).mono ?_;rintro e w' ⟨rfl,rfl⟩)
     go_ret
     exact ⟨reti (by rw [HH.out,if_neg HD.out,if_neg (by omega),if_neg (by omega)]),rfl⟩
   ·go_enter Tryz.func155,Tryz.ntmps155
    go_wp2_with (go_at_call 109;refine (isDigit_any _ _).mono ?_;rintro e w' ⟨rfl,rfl⟩)
    go_ret
    exact ⟨reti (by rw [HH.out,if_neg HD.out,if_neg (by omega),if_neg (by omega)]),rfl⟩
end Go.Proofs.YtbmebfgapjhchaaGreatDoor
