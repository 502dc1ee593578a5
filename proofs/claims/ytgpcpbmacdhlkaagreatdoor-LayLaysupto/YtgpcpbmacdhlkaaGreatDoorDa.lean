/- What the document's own function Rune answers. -/
import Derived.Handy
import Derived.Test.YtgpcpbmacdhlkaaGreatDoorRb
import Derived.Test.YtgpcpbmacdhlkaaGreatDoorCb
namespace Go.Proofs.YtgpcpbmacdhlkaaGreatDoor
open Go.RowKit
open M
theorem ret2 {n a b c d:Nat} {v k:Int} (h1:((Lib.decodeN n a b c d).1:Int)=v) (h2:((Lib.decodeN n a b c d).2:Int)=k) :
  Ending.returned (.tuple #[.int .i64 v,.int .i64 k])=.returned (.tuple #[.int .i64 ((Lib.decodeN n a b c d).1:Int),.int .i64 ((Lib.decodeN n a b c d).2:Int)]):=by rw [h1,h2]
set_option maxRecDepth 100000 in
set_option maxHeartbeats 4000000 in
theorem rune_c1 (s:ByteArray) (w:World) (h0:0<s.size) (b c d:Nat) (A:UInt8) (a0:s[0]'(by omega)=A) (hA:(A.toNat:Int)<128) :
  Calls Tryz.prog 48 #[.string s] w fun e w'=>e=.returned (.tuple #[.int .i64 ((Lib.decodeN s.size A.toNat b c d).1:Int),.int .i64 ((Lib.decodeN s.size A.toNat b c d).2:Int)])∧w'=w:=by
 have z0:¬ s.size=0:=by omega
 have z1:(0:Int)<(s.size:Int):=by omega
 have z6:¬ s=ByteArray.empty:=by intro e;subst e;simp at h0
 have b0:(A.toNat:Int)<256:=by have:=A.toNat_lt;omega
 go_enter Tryz.func48,Tryz.ntmps48
 go_wp2
 all_goals
  go_ret2
  refine ⟨ret2 ?_ ?_,rfl⟩
  all_goals
   unfold Lib.decodeN
   repeat' split
   all_goals (first|(exfalso;omega)|(simp only;done)|(simp only;omega))
set_option maxRecDepth 100000 in
set_option maxHeartbeats 4000000 in
theorem rune_lo (s:ByteArray) (w:World) (h0:0<s.size) (b c d:Nat) (A:UInt8) (a0:s[0]'(by omega)=A) (hA:(128:Int)≤A.toNat) (hA2:(A.toNat:Int)<194) :
  Calls Tryz.prog 48 #[.string s] w fun e w'=>e=.returned (.tuple #[.int .i64 ((Lib.decodeN s.size A.toNat b c d).1:Int),.int .i64 ((Lib.decodeN s.size A.toNat b c d).2:Int)])∧w'=w:=by
 have z0:¬ s.size=0:=by omega
 have z1:(0:Int)<(s.size:Int):=by omega
 have z6:¬ s=ByteArray.empty:=by intro e;subst e;simp at h0
 have b0:(A.toNat:Int)<256:=by have:=A.toNat_lt;omega
 go_enter Tryz.func48,Tryz.ntmps48
 go_wp2
 all_goals
  go_ret2
  refine ⟨ret2 ?_ ?_,rfl⟩
  all_goals
   unfold Lib.decodeN
   repeat' split
   all_goals (first|(exfalso;omega)|(simp only;done)|(simp only;omega))
set_option maxRecDepth 100000 in
set_option maxHeartbeats 4000000 in
theorem rune_hi (s:ByteArray) (w:World) (h0:0<s.size) (b c d:Nat) (A:UInt8) (a0:s[0]'(by omega)=A) (hA:(244:Int)<A.toNat) :
  Calls Tryz.prog 48 #[.string s] w fun e w'=>e=.returned (.tuple #[.int .i64 ((Lib.decodeN s.size A.toNat b c d).1:Int),.int .i64 ((Lib.decodeN s.size A.toNat b c d).2:Int)])∧w'=w:=by
 have z0:¬ s.size=0:=by omega
 have z1:(0:Int)<(s.size:Int):=by omega
 have z6:¬ s=ByteArray.empty:=by intro e;subst e;simp at h0
 have b0:(A.toNat:Int)<256:=by have:=A.toNat_lt;omega
 go_enter Tryz.func48,Tryz.ntmps48
 go_wp2
 all_goals
  go_ret2
  refine ⟨ret2 ?_ ?_,rfl⟩
  all_goals
   unfold Lib.decodeN
   repeat' split
   all_goals (first|(exfalso;omega)|(simp only;done)|(simp only;omega))
set_option maxRecDepth 100000 in
set_option maxHeartbeats 4000000 in
theorem rune_s2 (s:ByteArray) (w:World) (h0:0<s.size) (b c d:Nat) (A:UInt8) (a0:s[0]'(by omega)=A) (hA:(194:Int)≤A.toNat) (hA2:(A.toNat:Int)≤223) (hs:s.size<2) :
  Calls Tryz.prog 48 #[.string s] w fun e w'=>e=.returned (.tuple #[.int .i64 ((Lib.decodeN s.size A.toNat b c d).1:Int),.int .i64 ((Lib.decodeN s.size A.toNat b c d).2:Int)])∧w'=w:=by
 have z0:¬ s.size=0:=by omega
 have z1:(0:Int)<(s.size:Int):=by omega
 have z6:¬ s=ByteArray.empty:=by intro e;subst e;simp at h0
 have b0:(A.toNat:Int)<256:=by have:=A.toNat_lt;omega
 have z4:(s.size:Int)<2:=by omega
 go_enter Tryz.func48,Tryz.ntmps48
 go_wp2
 all_goals
  go_ret2
  refine ⟨ret2 ?_ ?_,rfl⟩
  all_goals
   unfold Lib.decodeN
   repeat' split
   all_goals (first|(exfalso;omega)|(simp only;done)|(simp only;omega))
set_option maxRecDepth 100000 in
set_option maxHeartbeats 4000000 in
theorem rune_s3 (s:ByteArray) (w:World) (h0:0<s.size) (b c d:Nat) (A:UInt8) (a0:s[0]'(by omega)=A) (hA:(224:Int)≤A.toNat) (hA2:(A.toNat:Int)≤239) (hs:s.size<3) :
  Calls Tryz.prog 48 #[.string s] w fun e w'=>e=.returned (.tuple #[.int .i64 ((Lib.decodeN s.size A.toNat b c d).1:Int),.int .i64 ((Lib.decodeN s.size A.toNat b c d).2:Int)])∧w'=w:=by
 have z0:¬ s.size=0:=by omega
 have z1:(0:Int)<(s.size:Int):=by omega
 have z6:¬ s=ByteArray.empty:=by intro e;subst e;simp at h0
 have b0:(A.toNat:Int)<256:=by have:=A.toNat_lt;omega
 have z4:(s.size:Int)<3:=by omega
 go_enter Tryz.func48,Tryz.ntmps48
 go_wp2
 all_goals
  go_ret2
  refine ⟨ret2 ?_ ?_,rfl⟩
  all_goals
   unfold Lib.decodeN
   repeat' split
   all_goals (first|(exfalso;omega)|(simp only;done)|(simp only;omega))
set_option maxRecDepth 100000 in
set_option maxHeartbeats 4000000 in
theorem rune_s4 (s:ByteArray) (w:World) (h0:0<s.size) (b c d:Nat) (A:UInt8) (a0:s[0]'(by omega)=A) (hA:(240:Int)≤A.toNat) (hA2:(A.toNat:Int)≤244) (hs:s.size<4) :
  Calls Tryz.prog 48 #[.string s] w fun e w'=>e=.returned (.tuple #[.int .i64 ((Lib.decodeN s.size A.toNat b c d).1:Int),.int .i64 ((Lib.decodeN s.size A.toNat b c d).2:Int)])∧w'=w:=by
 have z0:¬ s.size=0:=by omega
 have z1:(0:Int)<(s.size:Int):=by omega
 have z6:¬ s=ByteArray.empty:=by intro e;subst e;simp at h0
 have b0:(A.toNat:Int)<256:=by have:=A.toNat_lt;omega
 have z4:(s.size:Int)<4:=by omega
 go_enter Tryz.func48,Tryz.ntmps48
 go_wp2
 all_goals
  go_ret2
  refine ⟨ret2 ?_ ?_,rfl⟩
  all_goals
   unfold Lib.decodeN
   repeat' split
   all_goals (first|(exfalso;omega)|(simp only;done)|(simp only;omega))
set_option maxRecDepth 100000 in
set_option maxHeartbeats 4000000 in
theorem rune_l2 (s:ByteArray) (w:World) (h0:0<s.size) (c d:Nat) (A:UInt8) (a0:s[0]'(by omega)=A) (hA:(194:Int)≤A.toNat) (hA2:(A.toNat:Int)≤223) (hs:2≤s.size) (B:UInt8) (a1:s[1]'(by omega)=B) :
  Calls Tryz.prog 48 #[.string s] w fun e w'=>e=.returned (.tuple #[.int .i64 ((Lib.decodeN s.size A.toNat B.toNat c d).1:Int),.int .i64 ((Lib.decodeN s.size A.toNat B.toNat c d).2:Int)])∧w'=w:=by
 have z0:¬ s.size=0:=by omega
 have z1:(0:Int)<(s.size:Int):=by omega
 have z6:¬ s=ByteArray.empty:=by intro e;subst e;simp at h0
 have b0:(A.toNat:Int)<256:=by have:=A.toNat_lt;omega
 have z4:¬(s.size:Int)<2:=by omega
 have z2:(1:Int)<(s.size:Int):=by omega
 have b1:(B.toNat:Int)<256:=by have:=B.toNat_lt;omega
 go_enter Tryz.func48,Tryz.ntmps48
 go_wp2
 go_rounds 3
 all_goals
  go_ret2
  refine ⟨ret2 ?_ ?_,rfl⟩
  all_goals
   unfold Lib.decodeN
   repeat' split
   all_goals (first|(exfalso;omega)|(simp only;done)|(simp only;omega))
end Go.Proofs.YtgpcpbmacdhlkaaGreatDoor
/- What the document's own function Rune answers,of three bytes. -/
namespace Go.Proofs.YtgpcpbmacdhlkaaGreatDoor
open Go.RowKit
open M
set_option maxRecDepth 100000 in
set_option maxHeartbeats 4000000 in
theorem rune_l3 (s:ByteArray) (w:World) (h0:0<s.size) (d:Nat) (A:UInt8) (a0:s[0]'(by omega)=A) (hA:(224:Int)≤A.toNat) (hA2:(A.toNat:Int)≤239) (hs:3≤s.size) (B C:UInt8) (a1:s[1]'(by omega)=B) (a2:s[2]'(by omega)=C) :
  Calls Tryz.prog 48 #[.string s] w fun e w'=>e=.returned (.tuple #[.int .i64 ((Lib.decodeN s.size A.toNat B.toNat C.toNat d).1:Int),.int .i64 ((Lib.decodeN s.size A.toNat B.toNat C.toNat d).2:Int)])∧w'=w:=by
 have z0:¬ s.size=0:=by omega
 have z1:(0:Int)<(s.size:Int):=by omega
 have z6:¬ s=ByteArray.empty:=by intro e;subst e;simp at h0
 have b0:(A.toNat:Int)<256:=by have:=A.toNat_lt;omega
 have z4:¬(s.size:Int)<3:=by omega
 have z3:(2:Int)<(s.size:Int):=by omega
 have b2:(C.toNat:Int)<256:=by have:=C.toNat_lt;omega
 have z2:(1:Int)<(s.size:Int):=by omega
 have b1:(B.toNat:Int)<256:=by have:=B.toNat_lt;omega
 go_enter Tryz.func48,Tryz.ntmps48
 go_wp2
 go_rounds 4
 all_goals
  go_ret2
  refine ⟨ret2 ?_ ?_,rfl⟩
  all_goals
   unfold Lib.decodeN
   repeat' split
   all_goals (first|(exfalso;omega)|(simp only;done)|(simp only;omega))
end Go.Proofs.YtgpcpbmacdhlkaaGreatDoor
/- What the document's own function Rune answers,of four bytes. -/
namespace Go.Proofs.YtgpcpbmacdhlkaaGreatDoor
open Go.RowKit
open M
set_option maxRecDepth 100000 in
set_option maxHeartbeats 4000000 in
theorem rune_l4 (s:ByteArray) (w:World) (h0:0<s.size) (A:UInt8) (a0:s[0]'(by omega)=A) (hA:(240:Int)≤A.toNat) (hA2:(A.toNat:Int)≤244) (hs:4≤s.size) (B C D:UInt8) (a1:s[1]'(by omega)=B) (a2:s[2]'(by omega)=C) (a3:s[3]'(by omega)=D) :
  Calls Tryz.prog 48 #[.string s] w fun e w'=>e=.returned (.tuple #[.int .i64 ((Lib.decodeN s.size A.toNat B.toNat C.toNat D.toNat).1:Int),.int .i64 ((Lib.decodeN s.size A.toNat B.toNat C.toNat D.toNat).2:Int)])∧w'=w:=by
 have z0:¬ s.size=0:=by omega
 have z1:(0:Int)<(s.size:Int):=by omega
 have z6:¬ s=ByteArray.empty:=by intro e;subst e;simp at h0
 have b0:(A.toNat:Int)<256:=by have:=A.toNat_lt;omega
 have z4:¬(s.size:Int)<4:=by omega
 have z5:(3:Int)<(s.size:Int):=by omega
 have b3:(D.toNat:Int)<256:=by have:=D.toNat_lt;omega
 have z3:(2:Int)<(s.size:Int):=by omega
 have b2:(C.toNat:Int)<256:=by have:=C.toNat_lt;omega
 have z2:(1:Int)<(s.size:Int):=by omega
 have b1:(B.toNat:Int)<256:=by have:=B.toNat_lt;omega
 go_enter Tryz.func48,Tryz.ntmps48
 go_wp2
 go_rounds 5
 all_goals
  go_ret2
  refine ⟨ret2 ?_ ?_,rfl⟩
  all_goals
   unfold Lib.decodeN
   repeat' split
   all_goals (first|(exfalso;omega)|(simp only;done)|(simp only;omega))
end Go.Proofs.YtgpcpbmacdhlkaaGreatDoor
/- What the document's own function Rune answers,of any text. -/
namespace Go.Proofs.YtgpcpbmacdhlkaaGreatDoor
open Go.RowKit
open M
theorem getD_bs (s:ByteArray) (k:Nat) (h:k<s.size):(bs s).getD k 0=s[k]'h:=by
 unfold bs
 rw [List.getD_eq_getElem?_getD,List.getElem?_eq_getElem (by simpa using h)]
 rfl
theorem refRune_any (s:ByteArray) (w:World) (h:0<s.size) :
  Calls Tryz.prog 48 #[.string s] w fun e w'=>e=.returned (.tuple #[.int .i64 (ch (bs s)),.int .i64 (sz (bs s))])∧w'=w:=by
 have hl:=bs_len s
 have hd:dec (bs s)=Lib.decodeN s.size ((bs s).getD 0 0).toNat ((bs s).getD 1 0).toNat ((bs s).getD 2 0).toNat ((bs s).getD 3 0).toNat:=by
  unfold dec;rw [if_neg (by omega),hl]
 unfold ch sz
 rw [hd,getD_bs s 0 h]
 have hA:=(s[0]'h).toNat_lt
 by_cases c1:(s[0]'h).toNat<128
 ·exact rune_c1 s w h _ _ _ _ rfl (by omega)
 by_cases c2:(s[0]'h).toNat<194
 ·exact rune_lo s w h _ _ _ _ rfl (by omega) (by omega)
 by_cases c3:(s[0]'h).toNat≤223
 ·by_cases h2:s.size<2
  ·exact rune_s2 s w h _ _ _ _ rfl (by omega) (by omega) h2
  ·rw [getD_bs s 1 (by omega)]
   exact rune_l2 s w h _ _ _ rfl (by omega) (by omega) (by omega) _ rfl
 by_cases c4:(s[0]'h).toNat≤239
 ·by_cases h2:s.size<3
  ·exact rune_s3 s w h _ _ _ _ rfl (by omega) (by omega) h2
  ·rw [getD_bs s 1 (by omega),getD_bs s 2 (by omega)]
   exact rune_l3 s w h _ _ rfl (by omega) (by omega) (by omega) _ _ rfl rfl
 by_cases c5:(s[0]'h).toNat≤244
 ·by_cases h2:s.size<4
  ·exact rune_s4 s w h _ _ _ _ rfl (by omega) (by omega) h2
  ·rw [getD_bs s 1 (by omega),getD_bs s 2 (by omega),getD_bs s 3 (by omega)]
   exact rune_l4 s w h _ rfl (by omega) (by omega) (by omega) _ _ _ rfl rfl rfl
 ·exact rune_hi s w h _ _ _ _ rfl (by omega)
end Go.Proofs.YtgpcpbmacdhlkaaGreatDoor
/- The document's own small questions: a letter,two bytes,a digit of sixteen. -/
namespace Go.Proofs.YtgpcpbmacdhlkaaGreatDoor
open Go.RowKit
open M
set_option maxHeartbeats 4000000 in
theorem refLetter_0 (c:Int) (w:World) (h2:c≤64):Calls Tryz.prog 92 #[.int .i64 c] w fun e w'=>e=.returned (.bool (isLt c))∧w'=w:=by
 have HH:Hid (isLt c=false):=by show _=_;unfold isLt;simp;omega
 have g0:decide (((97:Int))≤c)=false:=by simp;omega
 have g1:decide (((65:Int))≤c)=false:=by simp;omega
 have g2:decide (((192:Int))≤c)=false:=by simp;omega
 have g3:decide (((880:Int))≤c)=false:=by simp;omega
 have g4:decide (((1024:Int))≤c)=false:=by simp;omega
 have g5:decide (c≤(122:Int))=true:=by simp;omega
 have g6:decide (c≤(90:Int))=true:=by simp;omega
 have g7:decide (c≤(591:Int))=true:=by simp;omega
 have g8:decide (c≤(1023:Int))=true:=by simp;omega
 have g9:decide (c≤(1279:Int))=true:=by simp;omega
 have q1:(c==95)=false:=by simp;omega
 have q2:(c !=215)=true:=by simp;omega
 have q3:(c !=247)=true:=by simp;omega
 go_enter Tryz.func92,Tryz.ntmps92
 go_wp2
 go_ret
 exact ⟨retb HH.out.symm,rfl⟩
set_option maxHeartbeats 4000000 in
theorem refLetter_1 (c:Int) (w:World) (h1:65≤c) (h2:c≤90):Calls Tryz.prog 92 #[.int .i64 c] w fun e w'=>e=.returned (.bool (isLt c))∧w'=w:=by
 have HH:Hid (isLt c=true):=by show _=_;unfold isLt;simp;omega
 have g0:decide (((97:Int))≤c)=false:=by simp;omega
 have g1:decide (((65:Int))≤c)=true:=by simp;omega
 have g2:decide (((192:Int))≤c)=false:=by simp;omega
 have g3:decide (((880:Int))≤c)=false:=by simp;omega
 have g4:decide (((1024:Int))≤c)=false:=by simp;omega
 have g5:decide (c≤(122:Int))=true:=by simp;omega
 have g6:decide (c≤(90:Int))=true:=by simp;omega
 have g7:decide (c≤(591:Int))=true:=by simp;omega
 have g8:decide (c≤(1023:Int))=true:=by simp;omega
 have g9:decide (c≤(1279:Int))=true:=by simp;omega
 have q1:(c==95)=false:=by simp;omega
 have q2:(c !=215)=true:=by simp;omega
 have q3:(c !=247)=true:=by simp;omega
 go_enter Tryz.func92,Tryz.ntmps92
 go_wp2
 go_ret
 exact ⟨retb HH.out.symm,rfl⟩
set_option maxHeartbeats 4000000 in
theorem refLetter_2 (c:Int) (w:World) (h1:91≤c) (h2:c≤94):Calls Tryz.prog 92 #[.int .i64 c] w fun e w'=>e=.returned (.bool (isLt c))∧w'=w:=by
 have HH:Hid (isLt c=false):=by show _=_;unfold isLt;simp;omega
 have g0:decide (((97:Int))≤c)=false:=by simp;omega
 have g1:decide (((65:Int))≤c)=true:=by simp;omega
 have g2:decide (((192:Int))≤c)=false:=by simp;omega
 have g3:decide (((880:Int))≤c)=false:=by simp;omega
 have g4:decide (((1024:Int))≤c)=false:=by simp;omega
 have g5:decide (c≤(122:Int))=true:=by simp;omega
 have g6:decide (c≤(90:Int))=false:=by simp;omega
 have g7:decide (c≤(591:Int))=true:=by simp;omega
 have g8:decide (c≤(1023:Int))=true:=by simp;omega
 have g9:decide (c≤(1279:Int))=true:=by simp;omega
 have q1:(c==95)=false:=by simp;omega
 have q2:(c !=215)=true:=by simp;omega
 have q3:(c !=247)=true:=by simp;omega
 go_enter Tryz.func92,Tryz.ntmps92
 go_wp2
 go_ret
 exact ⟨retb HH.out.symm,rfl⟩
set_option maxHeartbeats 4000000 in
theorem refLetter_3 (c:Int) (w:World) (h1:95≤c) (h2:c≤95):Calls Tryz.prog 92 #[.int .i64 c] w fun e w'=>e=.returned (.bool (isLt c))∧w'=w:=by
 have HH:Hid (isLt c=true):=by show _=_;unfold isLt;simp;omega
 have g0:decide (((97:Int))≤c)=false:=by simp;omega
 have g1:decide (((65:Int))≤c)=true:=by simp;omega
 have g2:decide (((192:Int))≤c)=false:=by simp;omega
 have g3:decide (((880:Int))≤c)=false:=by simp;omega
 have g4:decide (((1024:Int))≤c)=false:=by simp;omega
 have g5:decide (c≤(122:Int))=true:=by simp;omega
 have g6:decide (c≤(90:Int))=false:=by simp;omega
 have g7:decide (c≤(591:Int))=true:=by simp;omega
 have g8:decide (c≤(1023:Int))=true:=by simp;omega
 have g9:decide (c≤(1279:Int))=true:=by simp;omega
 have q1:(c==95)=true:=by simp;omega
 have q2:(c !=215)=true:=by simp;omega
 have q3:(c !=247)=true:=by simp;omega
 go_enter Tryz.func92,Tryz.ntmps92
 go_wp2
 go_ret
 exact ⟨retb HH.out.symm,rfl⟩
set_option maxHeartbeats 4000000 in
theorem refLetter_4 (c:Int) (w:World) (h1:96≤c) (h2:c≤96):Calls Tryz.prog 92 #[.int .i64 c] w fun e w'=>e=.returned (.bool (isLt c))∧w'=w:=by
 have HH:Hid (isLt c=false):=by show _=_;unfold isLt;simp;omega
 have g0:decide (((97:Int))≤c)=false:=by simp;omega
 have g1:decide (((65:Int))≤c)=true:=by simp;omega
 have g2:decide (((192:Int))≤c)=false:=by simp;omega
 have g3:decide (((880:Int))≤c)=false:=by simp;omega
 have g4:decide (((1024:Int))≤c)=false:=by simp;omega
 have g5:decide (c≤(122:Int))=true:=by simp;omega
 have g6:decide (c≤(90:Int))=false:=by simp;omega
 have g7:decide (c≤(591:Int))=true:=by simp;omega
 have g8:decide (c≤(1023:Int))=true:=by simp;omega
 have g9:decide (c≤(1279:Int))=true:=by simp;omega
 have q1:(c==95)=false:=by simp;omega
 have q2:(c !=215)=true:=by simp;omega
 have q3:(c !=247)=true:=by simp;omega
 go_enter Tryz.func92,Tryz.ntmps92
 go_wp2
 go_ret
 exact ⟨retb HH.out.symm,rfl⟩
set_option maxHeartbeats 4000000 in
theorem refLetter_5 (c:Int) (w:World) (h1:97≤c) (h2:c≤122):Calls Tryz.prog 92 #[.int .i64 c] w fun e w'=>e=.returned (.bool (isLt c))∧w'=w:=by
 have HH:Hid (isLt c=true):=by show _=_;unfold isLt;simp;omega
 have g0:decide (((97:Int))≤c)=true:=by simp;omega
 have g1:decide (((65:Int))≤c)=true:=by simp;omega
 have g2:decide (((192:Int))≤c)=false:=by simp;omega
 have g3:decide (((880:Int))≤c)=false:=by simp;omega
 have g4:decide (((1024:Int))≤c)=false:=by simp;omega
 have g5:decide (c≤(122:Int))=true:=by simp;omega
 have g6:decide (c≤(90:Int))=false:=by simp;omega
 have g7:decide (c≤(591:Int))=true:=by simp;omega
 have g8:decide (c≤(1023:Int))=true:=by simp;omega
 have g9:decide (c≤(1279:Int))=true:=by simp;omega
 have q1:(c==95)=false:=by simp;omega
 have q2:(c !=215)=true:=by simp;omega
 have q3:(c !=247)=true:=by simp;omega
 go_enter Tryz.func92,Tryz.ntmps92
 go_wp2
 go_ret
 exact ⟨retb HH.out.symm,rfl⟩
set_option maxHeartbeats 4000000 in
theorem refLetter_6 (c:Int) (w:World) (h1:123≤c) (h2:c≤191):Calls Tryz.prog 92 #[.int .i64 c] w fun e w'=>e=.returned (.bool (isLt c))∧w'=w:=by
 have HH:Hid (isLt c=false):=by show _=_;unfold isLt;simp;omega
 have g0:decide (((97:Int))≤c)=true:=by simp;omega
 have g1:decide (((65:Int))≤c)=true:=by simp;omega
 have g2:decide (((192:Int))≤c)=false:=by simp;omega
 have g3:decide (((880:Int))≤c)=false:=by simp;omega
 have g4:decide (((1024:Int))≤c)=false:=by simp;omega
 have g5:decide (c≤(122:Int))=false:=by simp;omega
 have g6:decide (c≤(90:Int))=false:=by simp;omega
 have g7:decide (c≤(591:Int))=true:=by simp;omega
 have g8:decide (c≤(1023:Int))=true:=by simp;omega
 have g9:decide (c≤(1279:Int))=true:=by simp;omega
 have q1:(c==95)=false:=by simp;omega
 have q2:(c !=215)=true:=by simp;omega
 have q3:(c !=247)=true:=by simp;omega
 go_enter Tryz.func92,Tryz.ntmps92
 go_wp2
 go_ret
 exact ⟨retb HH.out.symm,rfl⟩
set_option maxHeartbeats 4000000 in
theorem refLetter_7 (c:Int) (w:World) (h1:192≤c) (h2:c≤214):Calls Tryz.prog 92 #[.int .i64 c] w fun e w'=>e=.returned (.bool (isLt c))∧w'=w:=by
 have HH:Hid (isLt c=true):=by show _=_;unfold isLt;simp;omega
 have g0:decide (((97:Int))≤c)=true:=by simp;omega
 have g1:decide (((65:Int))≤c)=true:=by simp;omega
 have g2:decide (((192:Int))≤c)=true:=by simp;omega
 have g3:decide (((880:Int))≤c)=false:=by simp;omega
 have g4:decide (((1024:Int))≤c)=false:=by simp;omega
 have g5:decide (c≤(122:Int))=false:=by simp;omega
 have g6:decide (c≤(90:Int))=false:=by simp;omega
 have g7:decide (c≤(591:Int))=true:=by simp;omega
 have g8:decide (c≤(1023:Int))=true:=by simp;omega
 have g9:decide (c≤(1279:Int))=true:=by simp;omega
 have q1:(c==95)=false:=by simp;omega
 have q2:(c !=215)=true:=by simp;omega
 have q3:(c !=247)=true:=by simp;omega
 go_enter Tryz.func92,Tryz.ntmps92
 go_wp2
 go_ret
 exact ⟨retb HH.out.symm,rfl⟩
set_option maxHeartbeats 4000000 in
theorem refLetter_8 (c:Int) (w:World) (h1:215≤c) (h2:c≤215):Calls Tryz.prog 92 #[.int .i64 c] w fun e w'=>e=.returned (.bool (isLt c))∧w'=w:=by
 have HH:Hid (isLt c=false):=by show _=_;unfold isLt;simp;omega
 have g0:decide (((97:Int))≤c)=true:=by simp;omega
 have g1:decide (((65:Int))≤c)=true:=by simp;omega
 have g2:decide (((192:Int))≤c)=true:=by simp;omega
 have g3:decide (((880:Int))≤c)=false:=by simp;omega
 have g4:decide (((1024:Int))≤c)=false:=by simp;omega
 have g5:decide (c≤(122:Int))=false:=by simp;omega
 have g6:decide (c≤(90:Int))=false:=by simp;omega
 have g7:decide (c≤(591:Int))=true:=by simp;omega
 have g8:decide (c≤(1023:Int))=true:=by simp;omega
 have g9:decide (c≤(1279:Int))=true:=by simp;omega
 have q1:(c==95)=false:=by simp;omega
 have q2:(c !=215)=false:=by simp;omega
 have q3:(c !=247)=true:=by simp;omega
 go_enter Tryz.func92,Tryz.ntmps92
 go_wp2
 go_ret
 exact ⟨retb HH.out.symm,rfl⟩
set_option maxHeartbeats 4000000 in
theorem refLetter_9 (c:Int) (w:World) (h1:216≤c) (h2:c≤246):Calls Tryz.prog 92 #[.int .i64 c] w fun e w'=>e=.returned (.bool (isLt c))∧w'=w:=by
 have HH:Hid (isLt c=true):=by show _=_;unfold isLt;simp;omega
 have g0:decide (((97:Int))≤c)=true:=by simp;omega
 have g1:decide (((65:Int))≤c)=true:=by simp;omega
 have g2:decide (((192:Int))≤c)=true:=by simp;omega
 have g3:decide (((880:Int))≤c)=false:=by simp;omega
 have g4:decide (((1024:Int))≤c)=false:=by simp;omega
 have g5:decide (c≤(122:Int))=false:=by simp;omega
 have g6:decide (c≤(90:Int))=false:=by simp;omega
 have g7:decide (c≤(591:Int))=true:=by simp;omega
 have g8:decide (c≤(1023:Int))=true:=by simp;omega
 have g9:decide (c≤(1279:Int))=true:=by simp;omega
 have q1:(c==95)=false:=by simp;omega
 have q2:(c !=215)=true:=by simp;omega
 have q3:(c !=247)=true:=by simp;omega
 go_enter Tryz.func92,Tryz.ntmps92
 go_wp2
 go_ret
 exact ⟨retb HH.out.symm,rfl⟩
set_option maxHeartbeats 4000000 in
theorem refLetter_10 (c:Int) (w:World) (h1:247≤c) (h2:c≤247):Calls Tryz.prog 92 #[.int .i64 c] w fun e w'=>e=.returned (.bool (isLt c))∧w'=w:=by
 have HH:Hid (isLt c=false):=by show _=_;unfold isLt;simp;omega
 have g0:decide (((97:Int))≤c)=true:=by simp;omega
 have g1:decide (((65:Int))≤c)=true:=by simp;omega
 have g2:decide (((192:Int))≤c)=true:=by simp;omega
 have g3:decide (((880:Int))≤c)=false:=by simp;omega
 have g4:decide (((1024:Int))≤c)=false:=by simp;omega
 have g5:decide (c≤(122:Int))=false:=by simp;omega
 have g6:decide (c≤(90:Int))=false:=by simp;omega
 have g7:decide (c≤(591:Int))=true:=by simp;omega
 have g8:decide (c≤(1023:Int))=true:=by simp;omega
 have g9:decide (c≤(1279:Int))=true:=by simp;omega
 have q1:(c==95)=false:=by simp;omega
 have q2:(c !=215)=true:=by simp;omega
 have q3:(c !=247)=false:=by simp;omega
 go_enter Tryz.func92,Tryz.ntmps92
 go_wp2
 go_ret
 exact ⟨retb HH.out.symm,rfl⟩
set_option maxHeartbeats 4000000 in
theorem refLetter_11 (c:Int) (w:World) (h1:248≤c) (h2:c≤591):Calls Tryz.prog 92 #[.int .i64 c] w fun e w'=>e=.returned (.bool (isLt c))∧w'=w:=by
 have HH:Hid (isLt c=true):=by show _=_;unfold isLt;simp;omega
 have g0:decide (((97:Int))≤c)=true:=by simp;omega
 have g1:decide (((65:Int))≤c)=true:=by simp;omega
 have g2:decide (((192:Int))≤c)=true:=by simp;omega
 have g3:decide (((880:Int))≤c)=false:=by simp;omega
 have g4:decide (((1024:Int))≤c)=false:=by simp;omega
 have g5:decide (c≤(122:Int))=false:=by simp;omega
 have g6:decide (c≤(90:Int))=false:=by simp;omega
 have g7:decide (c≤(591:Int))=true:=by simp;omega
 have g8:decide (c≤(1023:Int))=true:=by simp;omega
 have g9:decide (c≤(1279:Int))=true:=by simp;omega
 have q1:(c==95)=false:=by simp;omega
 have q2:(c !=215)=true:=by simp;omega
 have q3:(c !=247)=true:=by simp;omega
 go_enter Tryz.func92,Tryz.ntmps92
 go_wp2
 go_ret
 exact ⟨retb HH.out.symm,rfl⟩
set_option maxHeartbeats 4000000 in
theorem refLetter_12 (c:Int) (w:World) (h1:592≤c) (h2:c≤879):Calls Tryz.prog 92 #[.int .i64 c] w fun e w'=>e=.returned (.bool (isLt c))∧w'=w:=by
 have HH:Hid (isLt c=false):=by show _=_;unfold isLt;simp;omega
 have g0:decide (((97:Int))≤c)=true:=by simp;omega
 have g1:decide (((65:Int))≤c)=true:=by simp;omega
 have g2:decide (((192:Int))≤c)=true:=by simp;omega
 have g3:decide (((880:Int))≤c)=false:=by simp;omega
 have g4:decide (((1024:Int))≤c)=false:=by simp;omega
 have g5:decide (c≤(122:Int))=false:=by simp;omega
 have g6:decide (c≤(90:Int))=false:=by simp;omega
 have g7:decide (c≤(591:Int))=false:=by simp;omega
 have g8:decide (c≤(1023:Int))=true:=by simp;omega
 have g9:decide (c≤(1279:Int))=true:=by simp;omega
 have q1:(c==95)=false:=by simp;omega
 have q2:(c !=215)=true:=by simp;omega
 have q3:(c !=247)=true:=by simp;omega
 go_enter Tryz.func92,Tryz.ntmps92
 go_wp2
 go_ret
 exact ⟨retb HH.out.symm,rfl⟩
set_option maxHeartbeats 4000000 in
theorem refLetter_13 (c:Int) (w:World) (h1:880≤c) (h2:c≤1023):Calls Tryz.prog 92 #[.int .i64 c] w fun e w'=>e=.returned (.bool (isLt c))∧w'=w:=by
 have HH:Hid (isLt c=true):=by show _=_;unfold isLt;simp;omega
 have g0:decide (((97:Int))≤c)=true:=by simp;omega
 have g1:decide (((65:Int))≤c)=true:=by simp;omega
 have g2:decide (((192:Int))≤c)=true:=by simp;omega
 have g3:decide (((880:Int))≤c)=true:=by simp;omega
 have g4:decide (((1024:Int))≤c)=false:=by simp;omega
 have g5:decide (c≤(122:Int))=false:=by simp;omega
 have g6:decide (c≤(90:Int))=false:=by simp;omega
 have g7:decide (c≤(591:Int))=false:=by simp;omega
 have g8:decide (c≤(1023:Int))=true:=by simp;omega
 have g9:decide (c≤(1279:Int))=true:=by simp;omega
 have q1:(c==95)=false:=by simp;omega
 have q2:(c !=215)=true:=by simp;omega
 have q3:(c !=247)=true:=by simp;omega
 go_enter Tryz.func92,Tryz.ntmps92
 go_wp2
 go_ret
 exact ⟨retb HH.out.symm,rfl⟩
set_option maxHeartbeats 4000000 in
theorem refLetter_14 (c:Int) (w:World) (h1:1024≤c) (h2:c≤1279):Calls Tryz.prog 92 #[.int .i64 c] w fun e w'=>e=.returned (.bool (isLt c))∧w'=w:=by
 have HH:Hid (isLt c=true):=by show _=_;unfold isLt;simp;omega
 have g0:decide (((97:Int))≤c)=true:=by simp;omega
 have g1:decide (((65:Int))≤c)=true:=by simp;omega
 have g2:decide (((192:Int))≤c)=true:=by simp;omega
 have g3:decide (((880:Int))≤c)=true:=by simp;omega
 have g4:decide (((1024:Int))≤c)=true:=by simp;omega
 have g5:decide (c≤(122:Int))=false:=by simp;omega
 have g6:decide (c≤(90:Int))=false:=by simp;omega
 have g7:decide (c≤(591:Int))=false:=by simp;omega
 have g8:decide (c≤(1023:Int))=false:=by simp;omega
 have g9:decide (c≤(1279:Int))=true:=by simp;omega
 have q1:(c==95)=false:=by simp;omega
 have q2:(c !=215)=true:=by simp;omega
 have q3:(c !=247)=true:=by simp;omega
 go_enter Tryz.func92,Tryz.ntmps92
 go_wp2
 go_ret
 exact ⟨retb HH.out.symm,rfl⟩
set_option maxHeartbeats 4000000 in
theorem refLetter_15 (c:Int) (w:World) (h1:1280≤c):Calls Tryz.prog 92 #[.int .i64 c] w fun e w'=>e=.returned (.bool (isLt c))∧w'=w:=by
 have HH:Hid (isLt c=false):=by show _=_;unfold isLt;simp;omega
 have g0:decide (((97:Int))≤c)=true:=by simp;omega
 have g1:decide (((65:Int))≤c)=true:=by simp;omega
 have g2:decide (((192:Int))≤c)=true:=by simp;omega
 have g3:decide (((880:Int))≤c)=true:=by simp;omega
 have g4:decide (((1024:Int))≤c)=true:=by simp;omega
 have g5:decide (c≤(122:Int))=false:=by simp;omega
 have g6:decide (c≤(90:Int))=false:=by simp;omega
 have g7:decide (c≤(591:Int))=false:=by simp;omega
 have g8:decide (c≤(1023:Int))=false:=by simp;omega
 have g9:decide (c≤(1279:Int))=false:=by simp;omega
 have q1:(c==95)=false:=by simp;omega
 have q2:(c !=215)=true:=by simp;omega
 have q3:(c !=247)=true:=by simp;omega
 go_enter Tryz.func92,Tryz.ntmps92
 go_wp2
 go_ret
 exact ⟨retb HH.out.symm,rfl⟩
theorem refLetter_any (c:Int) (w:World):Calls Tryz.prog 92 #[.int .i64 c] w fun e w'=>e=.returned (.bool (isLt c))∧w'=w:=by
 by_cases k0:c≤64
 ·exact refLetter_0 c w k0
 by_cases k1:c≤90
 ·exact refLetter_1 c w (by omega) k1
 by_cases k2:c≤94
 ·exact refLetter_2 c w (by omega) k2
 by_cases k3:c≤95
 ·exact refLetter_3 c w (by omega) k3
 by_cases k4:c≤96
 ·exact refLetter_4 c w (by omega) k4
 by_cases k5:c≤122
 ·exact refLetter_5 c w (by omega) k5
 by_cases k6:c≤191
 ·exact refLetter_6 c w (by omega) k6
 by_cases k7:c≤214
 ·exact refLetter_7 c w (by omega) k7
 by_cases k8:c≤215
 ·exact refLetter_8 c w (by omega) k8
 by_cases k9:c≤246
 ·exact refLetter_9 c w (by omega) k9
 by_cases k10:c≤247
 ·exact refLetter_10 c w (by omega) k10
 by_cases k11:c≤591
 ·exact refLetter_11 c w (by omega) k11
 by_cases k12:c≤879
 ·exact refLetter_12 c w (by omega) k12
 by_cases k13:c≤1023
 ·exact refLetter_13 c w (by omega) k13
 by_cases k14:c≤1279
 ·exact refLetter_14 c w (by omega) k14
 exact refLetter_15 c w (by omega)
theorem byte_cc {s:ByteArray} {k:Nat} (h:k<s.size) {c:Nat} (hc:c<128):cc ((bs s).drop k)=(c:Int)↔(s[k]'h).toNat=c:=by
 have e:((bs s).drop k).getD 0 0=s[k]'h:=by
  rw [List.getD_eq_getElem?_getD,List.getElem?_drop,Nat.add_zero,← List.getD_eq_getElem?_getD,getD_bs s k h]
 rw [cc_is hc,e]
 exact ⟨fun x=>x.2,fun x=>⟨drop_ne h,x⟩⟩
theorem byte_lo {s:ByteArray} {k:Nat} (h:k<s.size) (h1:(s[k]'h).toNat<128):cc ((bs s).drop k)=((s[k]'h).toNat:Int)∧sz ((bs s).drop k)=1:=by
 have e:((bs s).drop k).getD 0 0=s[k]'h:=by
  rw [List.getD_eq_getElem?_getD,List.getElem?_drop,Nat.add_zero,← List.getD_eq_getElem?_getD,getD_bs s k h]
 have:=cc_lo (drop_ne h) (by rw [e];exact h1)
 rw [e] at this
 exact ⟨this.1,this.2.1⟩
theorem byte_hi {s:ByteArray} {k:Nat} (h:k<s.size) (h1:128≤(s[k]'h).toNat):128≤cc ((bs s).drop k):=by
 have e:((bs s).drop k).getD 0 0=s[k]'h:=by
  rw [List.getD_eq_getElem?_getD,List.getElem?_drop,Nat.add_zero,← List.getD_eq_getElem?_getD,getD_bs s k h]
 exact cc_hi (drop_ne h) (by rw [e];exact h1)
def hasB (s:ByteArray) (k a b:Nat):Bool:=decide (cc ((bs s).drop k)=(a:Int)∧cc ((bs s).drop (k+1))=(b:Int))
set_option maxHeartbeats 4000000 in
theorem has_any (s:ByteArray) (k a b:Nat) (w:World) (hk:k<s.size) (hs:s.size≤1073741824) (ha:a<128) (hb:b<128) :
  Calls Tryz.prog 93 #[.string s,.int .i64 k,.int .u8 a,.int .u8 b] w fun e w'=>e=.returned (.bool (hasB s k a b))∧w'=w:=by
 by_cases h1:k+1<s.size
 ·have i1:(k:Int)+1<(s.size:Int):=by omega
  have e2:cc ((bs s).drop (k+1))=(b:Int)↔(s[k+1]'h1).toNat=b:=byte_cc h1 hb
  have e1:cc ((bs s).drop k)=(a:Int)↔(s[k]'hk).toNat=a:=byte_cc hk ha
  by_cases h2:(s[k]'hk).toNat=a
  ·have i2:(((s[k]'hk).toNat:Int)==(a:Int))=true:=by simp [h2]
   have HH:Hid (hasB s k a b=decide ((s[k+1]'h1).toNat=b)):=by show _=_;unfold hasB;rw [Bool.eq_iff_iff];simp [e1,e2,h2]
   clear e1 e2 h2
   go_enter Tryz.func93,Tryz.ntmps93
   go_wp2
   go_ret
   refine ⟨retb ?_,rfl⟩
   rw [HH.out,Bool.eq_iff_iff];simp;omega
  ·have i2:(((s[k]'hk).toNat:Int)==(a:Int))=false:=by simp;omega
   have HH:Hid (hasB s k a b=false):=by show _=_;unfold hasB;simp [e1,h2]
   clear e1 e2 h2
   go_enter Tryz.func93,Tryz.ntmps93
   go_wp2
   go_ret
   exact ⟨retb HH.out.symm,rfl⟩
 ·have i1:¬(k:Int)+1<(s.size:Int):=by omega
  have HH:Hid (hasB s k a b=false):=by
   show _=_;unfold hasB;rw [decide_eq_false_iff_not]
   rintro ⟨-,h⟩
   have:(bs s).drop (k+1)=[]:=by rw [List.drop_eq_nil_iff,bs_len];omega
   rw [this,cc_nil] at h;omega
  have i2:decide ((k:Int)+1<(s.size:Int))=false:=by simpa using i1
  go_enter Tryz.func93,Tryz.ntmps93
  go_wp2
  go_ret
  exact ⟨retb HH.out.symm,rfl⟩
set_option maxHeartbeats 4000000 in
theorem hexa_any (c:Nat) (w:World) (hc:c<256):Calls Tryz.prog 135 #[.int .u8 c] w fun e w'=>e=.returned (.int .i64 (hexOf c))∧w'=w:=by
 have HH:Hid (hexOf (c:Int)=if 48≤(c:Int)∧(c:Int)≤57 then (c:Int) - 48 else if 97≤(c:Int)∧(c:Int)≤102 then (c:Int) - 87 else if 65≤(c:Int)∧(c:Int)≤70 then (c:Int) - 55 else -1):=rfl
 by_cases h1:48≤(c:Int)
 all_goals by_cases h2:97≤(c:Int)
 all_goals by_cases h3:65≤(c:Int)
 all_goals (try omega)
 all_goals
  go_enter Tryz.func135,Tryz.ntmps135
  go_wp2
 all_goals
  go_ret
  refine ⟨reti ?_,rfl⟩
  rw [HH.out]
  repeat' split
  all_goals omega
end Go.Proofs.YtgpcpbmacdhlkaaGreatDoor
