import Derived.Handy
import Derived.Test.YtoohcklcppnafaaGreatDoorRb
namespace Go.Proofs.YtoohcklcppnafaaGreatDoor
set_option maxRecDepth 100000
set_option maxHeartbeats 4000000
open Tryz
open Go.RowKit
open M
theorem Et{n a b c d:Nat}{v k:Int}(h1:((Lib.decodeN n a b c d).1:Int)=v)(h2:((Lib.decodeN n a b c d).2:Int)=k) :
  Ending.returned (.tuple #[ak v,ak k])=.returned (.tuple #[ak ((Lib.decodeN n a b c d).1:Int),ak ((Lib.decodeN n a b c d).2:Int)]):=by rw[h1,h2]
theorem Vx(s:ByteArray)(w:aG)(h0:0<s.size)(b c d:Nat)(A:UInt8)(a0:s[0]'(au)=A)(hA:(A.toNat:Int)<128) :
  bB 88 #[.string s] w (cK (.tuple #[ak ((Lib.decodeN s.size A.toNat b c d).1:Int),ak ((Lib.decodeN s.size A.toNat b c d).2:Int)]) fun w'=>w'=w):=by
 have z0:¬ s.size=0:=au
 have z1:(0:Int)<(s.size:Int):=au
 have z6:¬ s=ByteArray.empty:=by intro e;subst e;simp at h0
 have b0:(A.toNat:Int)<256:=by have:=A.toNat_lt;omega
 go_enter func88,ntmps88;go_wp2
 all_goals
  go_ret2;refine⟨Et ?_ ?_,rfl⟩
  all_goals
   unfold Lib.decodeN
   repeat' split
   all_goals (first|(exfalso;omega)|(simp only;done)|(simp only;omega))
theorem Vy(s:ByteArray)(w:aG)(h0:0<s.size)(b c d:Nat)(A:UInt8)(a0:s[0]'(au)=A)(hA:(128:Int)≤A.toNat)(hA2:(A.toNat:Int)<194) :
  bB 88 #[.string s] w (cK (.tuple #[ak ((Lib.decodeN s.size A.toNat b c d).1:Int),ak ((Lib.decodeN s.size A.toNat b c d).2:Int)]) fun w'=>w'=w):=by
 have z0:¬ s.size=0:=au
 have z1:(0:Int)<(s.size:Int):=au
 have z6:¬ s=ByteArray.empty:=by intro e;subst e;simp at h0
 have b0:(A.toNat:Int)<256:=by have:=A.toNat_lt;omega
 go_enter func88,ntmps88;go_wp2
 all_goals
  go_ret2;refine⟨Et ?_ ?_,rfl⟩
  all_goals
   unfold Lib.decodeN
   repeat' split
   all_goals (first|(exfalso;omega)|(simp only;done)|(simp only;omega))
theorem Vz(s:ByteArray)(w:aG)(h0:0<s.size)(b c d:Nat)(A:UInt8)(a0:s[0]'(au)=A)(hA:(244:Int)<A.toNat) :
  bB 88 #[.string s] w (cK (.tuple #[ak ((Lib.decodeN s.size A.toNat b c d).1:Int),ak ((Lib.decodeN s.size A.toNat b c d).2:Int)]) fun w'=>w'=w):=by
 have z0:¬ s.size=0:=au
 have z1:(0:Int)<(s.size:Int):=au
 have z6:¬ s=ByteArray.empty:=by intro e;subst e;simp at h0
 have b0:(A.toNat:Int)<256:=by have:=A.toNat_lt;omega
 go_enter func88,ntmps88;go_wp2
 all_goals
  go_ret2;refine⟨Et ?_ ?_,rfl⟩
  all_goals
   unfold Lib.decodeN
   repeat' split
   all_goals (first|(exfalso;omega)|(simp only;done)|(simp only;omega))
theorem VA(s:ByteArray)(w:aG)(h0:0<s.size)(b c d:Nat)(A:UInt8)(a0:s[0]'(au)=A)(hA:(194:Int)≤A.toNat)(hA2:(A.toNat:Int)≤223)(hs:s.size<2) :
  bB 88 #[.string s] w (cK (.tuple #[ak ((Lib.decodeN s.size A.toNat b c d).1:Int),ak ((Lib.decodeN s.size A.toNat b c d).2:Int)]) fun w'=>w'=w):=by
 have z0:¬ s.size=0:=au
 have z1:(0:Int)<(s.size:Int):=au
 have z6:¬ s=ByteArray.empty:=by intro e;subst e;simp at h0
 have b0:(A.toNat:Int)<256:=by have:=A.toNat_lt;omega
 have z4:(s.size:Int)<2:=au
 go_enter func88,ntmps88;go_wp2
 all_goals
  go_ret2;refine⟨Et ?_ ?_,rfl⟩
  all_goals
   unfold Lib.decodeN
   repeat' split
   all_goals (first|(exfalso;omega)|(simp only;done)|(simp only;omega))
theorem VB(s:ByteArray)(w:aG)(h0:0<s.size)(b c d:Nat)(A:UInt8)(a0:s[0]'(au)=A)(hA:(224:Int)≤A.toNat)(hA2:(A.toNat:Int)≤239)(hs:s.size<3) :
  bB 88 #[.string s] w (cK (.tuple #[ak ((Lib.decodeN s.size A.toNat b c d).1:Int),ak ((Lib.decodeN s.size A.toNat b c d).2:Int)]) fun w'=>w'=w):=by
 have z0:¬ s.size=0:=au
 have z1:(0:Int)<(s.size:Int):=au
 have z6:¬ s=ByteArray.empty:=by intro e;subst e;simp at h0
 have b0:(A.toNat:Int)<256:=by have:=A.toNat_lt;omega
 have z4:(s.size:Int)<3:=au
 go_enter func88,ntmps88;go_wp2
 all_goals
  go_ret2;refine⟨Et ?_ ?_,rfl⟩
  all_goals
   unfold Lib.decodeN
   repeat' split
   all_goals (first|(exfalso;omega)|(simp only;done)|(simp only;omega))
theorem VD(s:ByteArray)(w:aG)(h0:0<s.size)(b c d:Nat)(A:UInt8)(a0:s[0]'(au)=A)(hA:(240:Int)≤A.toNat)(hA2:(A.toNat:Int)≤244)(hs:s.size<4) :
  bB 88 #[.string s] w (cK (.tuple #[ak ((Lib.decodeN s.size A.toNat b c d).1:Int),ak ((Lib.decodeN s.size A.toNat b c d).2:Int)]) fun w'=>w'=w):=by
 have z0:¬ s.size=0:=au
 have z1:(0:Int)<(s.size:Int):=au
 have z6:¬ s=ByteArray.empty:=by intro e;subst e;simp at h0
 have b0:(A.toNat:Int)<256:=by have:=A.toNat_lt;omega
 have z4:(s.size:Int)<4:=au
 go_enter func88,ntmps88;go_wp2
 all_goals
  go_ret2;refine⟨Et ?_ ?_,rfl⟩
  all_goals
   unfold Lib.decodeN
   repeat' split
   all_goals (first|(exfalso;omega)|(simp only;done)|(simp only;omega))
theorem VE(s:ByteArray)(w:aG)(h0:0<s.size)(c d:Nat)(A:UInt8)(a0:s[0]'(au)=A)(hA:(194:Int)≤A.toNat)(hA2:(A.toNat:Int)≤223)(hs:2≤s.size)(B:UInt8)(a1:s[1]'(au)=B) :
  bB 88 #[.string s] w (cK (.tuple #[ak ((Lib.decodeN s.size A.toNat B.toNat c d).1:Int),ak ((Lib.decodeN s.size A.toNat B.toNat c d).2:Int)]) fun w'=>w'=w):=by
 have z0:¬ s.size=0:=au
 have z1:(0:Int)<(s.size:Int):=au
 have z6:¬ s=ByteArray.empty:=by intro e;subst e;simp at h0
 have b0:(A.toNat:Int)<256:=by have:=A.toNat_lt;omega
 have z4:¬(s.size:Int)<2:=au
 have z2:(1:Int)<(s.size:Int):=au
 have b1:(B.toNat:Int)<256:=by have:=B.toNat_lt;omega
 go_enter func88,ntmps88;go_wp2
 go_rounds 3
 all_goals
  go_ret2;refine⟨Et ?_ ?_,rfl⟩
  all_goals
   unfold Lib.decodeN
   repeat' split
   all_goals (first|(exfalso;omega)|(simp only;done)|(simp only;omega))
theorem VF(s:ByteArray)(w:aG)(h0:0<s.size)(d:Nat)(A:UInt8)(a0:s[0]'(au)=A)(hA:(224:Int)≤A.toNat)(hA2:(A.toNat:Int)≤239)(hs:3≤s.size)(B C:UInt8)(a1:s[1]'(au)=B)(a2:s[2]'(au)=C) :
  bB 88 #[.string s] w (cK (.tuple #[ak ((Lib.decodeN s.size A.toNat B.toNat C.toNat d).1:Int),ak ((Lib.decodeN s.size A.toNat B.toNat C.toNat d).2:Int)]) fun w'=>w'=w):=by
 have z0:¬ s.size=0:=au
 have z1:(0:Int)<(s.size:Int):=au
 have z6:¬ s=ByteArray.empty:=by intro e;subst e;simp at h0
 have b0:(A.toNat:Int)<256:=by have:=A.toNat_lt;omega
 have z4:¬(s.size:Int)<3:=au
 have z3:(2:Int)<(s.size:Int):=au
 have b2:(C.toNat:Int)<256:=by have:=C.toNat_lt;omega
 have z2:(1:Int)<(s.size:Int):=au
 have b1:(B.toNat:Int)<256:=by have:=B.toNat_lt;omega
 go_enter func88,ntmps88;go_wp2
 go_rounds 4
 all_goals
  go_ret2;refine⟨Et ?_ ?_,rfl⟩
  all_goals
   unfold Lib.decodeN
   repeat' split
   all_goals (first|(exfalso;omega)|(simp only;done)|(simp only;omega))
theorem VG(s:ByteArray)(w:aG)(h0:0<s.size)(A:UInt8)(a0:s[0]'(au)=A)(hA:(240:Int)≤A.toNat)(hA2:(A.toNat:Int)≤244)(hs:4≤s.size)(B C D:UInt8)(a1:s[1]'(au)=B)(a2:s[2]'(au)=C)(a3:s[3]'(au)=D) :
  bB 88 #[.string s] w (cK (.tuple #[ak ((Lib.decodeN s.size A.toNat B.toNat C.toNat D.toNat).1:Int),ak ((Lib.decodeN s.size A.toNat B.toNat C.toNat D.toNat).2:Int)]) fun w'=>w'=w):=by
 have z0:¬ s.size=0:=au
 have z1:(0:Int)<(s.size:Int):=au
 have z6:¬ s=ByteArray.empty:=by intro e;subst e;simp at h0
 have b0:(A.toNat:Int)<256:=by have:=A.toNat_lt;omega
 have z4:¬(s.size:Int)<4:=au
 have z5:(3:Int)<(s.size:Int):=au
 have b3:(D.toNat:Int)<256:=by have:=D.toNat_lt;omega
 have z3:(2:Int)<(s.size:Int):=au
 have b2:(C.toNat:Int)<256:=by have:=C.toNat_lt;omega
 have z2:(1:Int)<(s.size:Int):=au
 have b1:(B.toNat:Int)<256:=by have:=B.toNat_lt;omega
 go_enter func88,ntmps88;go_wp2
 go_rounds 5
 all_goals
  go_ret2;refine⟨Et ?_ ?_,rfl⟩
  all_goals
   unfold Lib.decodeN
   repeat' split
   all_goals (first|(exfalso;omega)|(simp only;done)|(simp only;omega))
theorem mO(s:ByteArray)(k:Nat)(h:k<s.size):(bs s).getD k 0=s[k]'h:=by
 unfold bs;rw[bG,aF (by simpa using h)];rfl
theorem Gw(s:ByteArray)(w:aG)(h:0<s.size) :
  bB 88 #[.string s] w (cK (.tuple #[ak (ch (bs s)),ak (sz (bs s))]) fun w'=>w'=w):=by
 have hl:=eY s;have hd:dec (bs s)=Lib.decodeN s.size ((bs s).getD 0 0).toNat ((bs s).getD 1 0).toNat ((bs s).getD 2 0).toNat ((bs s).getD 3 0).toNat:=by
  unfold dec;rw[aM au,hl]
 unfold ch sz;rw[hd,mO s 0 h];have hA:=(s[0]'h).toNat_lt;by_cases c1:(s[0]'h).toNat<128
 ·exact Vx s w h _ _ _ _ rfl au
 by_cases c2:(s[0]'h).toNat<194
 ·exact Vy s w h _ _ _ _ rfl au au
 by_cases c3:(s[0]'h).toNat≤223
 ·by_cases h2:s.size<2
  ·exact VA s w h _ _ _ _ rfl au au h2
  ·rw[mO s 1 au]
   exact VE s w h _ _ _ rfl au au au _ rfl
 by_cases c4:(s[0]'h).toNat≤239
 ·by_cases h2:s.size<3
  ·exact VB s w h _ _ _ _ rfl au au h2
  ·rw[mO s 1 au,mO s 2 au]
   exact VF s w h _ _ rfl au au au _ _ rfl rfl
 by_cases c5:(s[0]'h).toNat≤244
 ·by_cases h2:s.size<4
  ·exact VD s w h _ _ _ _ rfl au au h2
  ·rw[mO s 1 au,mO s 2 au,mO s 3 au]
   exact VG s w h _ rfl au au au _ _ _ rfl rfl rfl
 ·exact Vz s w h _ _ _ _ rfl au
section
variable{s:ByteArray}{k:Nat}
theorem Gx(c:Int)(w:aG)(h2:c≤64):bB 89 #[ak c] w (cK (.bool (isLt c)) fun w'=>w'=w):=by
 have HH:Hid (isLt c=false):=by show _=_;unfold isLt;simp;omega
 have g0:decide (((97:Int))≤c)=false:=aQ
 have g1:decide (((65:Int))≤c)=false:=aQ
 have g2:decide (((192:Int))≤c)=false:=aQ
 have g3:decide (((880:Int))≤c)=false:=aQ
 have g4:decide (((1024:Int))≤c)=false:=aQ
 have g5:decide (c≤(122:Int))=true:=aQ
 have g6:decide (c≤(90:Int))=true:=aQ
 have g7:decide (c≤(591:Int))=true:=aQ
 have g8:decide (c≤(1023:Int))=true:=aQ
 have g9:decide (c≤(1279:Int))=true:=aQ
 have q1:(c==95)=false:=aQ
 have q2:(c !=215)=true:=aQ
 have q3:(c !=247)=true:=aQ
 go_enter func89,ntmps89;go_wp2
 go_ret;exact⟨jQ HH.o.symm,rfl⟩
theorem Gy(c:Int)(w:aG)(h1:65≤c)(h2:c≤90):bB 89 #[ak c] w (cK (.bool (isLt c)) fun w'=>w'=w):=by
 have HH:Hid (isLt c=true):=by show _=_;unfold isLt;simp;omega
 have g0:decide (((97:Int))≤c)=false:=aQ
 have g1:decide (((65:Int))≤c)=true:=aQ
 have g2:decide (((192:Int))≤c)=false:=aQ
 have g3:decide (((880:Int))≤c)=false:=aQ
 have g4:decide (((1024:Int))≤c)=false:=aQ
 have g5:decide (c≤(122:Int))=true:=aQ
 have g6:decide (c≤(90:Int))=true:=aQ
 have g7:decide (c≤(591:Int))=true:=aQ
 have g8:decide (c≤(1023:Int))=true:=aQ
 have g9:decide (c≤(1279:Int))=true:=aQ
 have q1:(c==95)=false:=aQ
 have q2:(c !=215)=true:=aQ
 have q3:(c !=247)=true:=aQ
 go_enter func89,ntmps89;go_wp2
 go_ret;exact⟨jQ HH.o.symm,rfl⟩
theorem Gz(c:Int)(w:aG)(h1:91≤c)(h2:c≤94):bB 89 #[ak c] w (cK (.bool (isLt c)) fun w'=>w'=w):=by
 have HH:Hid (isLt c=false):=by show _=_;unfold isLt;simp;omega
 have g0:decide (((97:Int))≤c)=false:=aQ
 have g1:decide (((65:Int))≤c)=true:=aQ
 have g2:decide (((192:Int))≤c)=false:=aQ
 have g3:decide (((880:Int))≤c)=false:=aQ
 have g4:decide (((1024:Int))≤c)=false:=aQ
 have g5:decide (c≤(122:Int))=true:=aQ
 have g6:decide (c≤(90:Int))=false:=aQ
 have g7:decide (c≤(591:Int))=true:=aQ
 have g8:decide (c≤(1023:Int))=true:=aQ
 have g9:decide (c≤(1279:Int))=true:=aQ
 have q1:(c==95)=false:=aQ
 have q2:(c !=215)=true:=aQ
 have q3:(c !=247)=true:=aQ
 go_enter func89,ntmps89;go_wp2
 go_ret;exact⟨jQ HH.o.symm,rfl⟩
theorem GA(c:Int)(w:aG)(h1:95≤c)(h2:c≤95):bB 89 #[ak c] w (cK (.bool (isLt c)) fun w'=>w'=w):=by
 have HH:Hid (isLt c=true):=by show _=_;unfold isLt;simp;omega
 have g0:decide (((97:Int))≤c)=false:=aQ
 have g1:decide (((65:Int))≤c)=true:=aQ
 have g2:decide (((192:Int))≤c)=false:=aQ
 have g3:decide (((880:Int))≤c)=false:=aQ
 have g4:decide (((1024:Int))≤c)=false:=aQ
 have g5:decide (c≤(122:Int))=true:=aQ
 have g6:decide (c≤(90:Int))=false:=aQ
 have g7:decide (c≤(591:Int))=true:=aQ
 have g8:decide (c≤(1023:Int))=true:=aQ
 have g9:decide (c≤(1279:Int))=true:=aQ
 have q1:(c==95)=true:=aQ
 have q2:(c !=215)=true:=aQ
 have q3:(c !=247)=true:=aQ
 go_enter func89,ntmps89;go_wp2
 go_ret;exact⟨jQ HH.o.symm,rfl⟩
theorem GD(c:Int)(w:aG)(h1:96≤c)(h2:c≤96):bB 89 #[ak c] w (cK (.bool (isLt c)) fun w'=>w'=w):=by
 have HH:Hid (isLt c=false):=by show _=_;unfold isLt;simp;omega
 have g0:decide (((97:Int))≤c)=false:=aQ
 have g1:decide (((65:Int))≤c)=true:=aQ
 have g2:decide (((192:Int))≤c)=false:=aQ
 have g3:decide (((880:Int))≤c)=false:=aQ
 have g4:decide (((1024:Int))≤c)=false:=aQ
 have g5:decide (c≤(122:Int))=true:=aQ
 have g6:decide (c≤(90:Int))=false:=aQ
 have g7:decide (c≤(591:Int))=true:=aQ
 have g8:decide (c≤(1023:Int))=true:=aQ
 have g9:decide (c≤(1279:Int))=true:=aQ
 have q1:(c==95)=false:=aQ
 have q2:(c !=215)=true:=aQ
 have q3:(c !=247)=true:=aQ
 go_enter func89,ntmps89;go_wp2
 go_ret;exact⟨jQ HH.o.symm,rfl⟩
theorem GH(c:Int)(w:aG)(h1:97≤c)(h2:c≤122):bB 89 #[ak c] w (cK (.bool (isLt c)) fun w'=>w'=w):=by
 have HH:Hid (isLt c=true):=by show _=_;unfold isLt;simp;omega
 have g0:decide (((97:Int))≤c)=true:=aQ
 have g1:decide (((65:Int))≤c)=true:=aQ
 have g2:decide (((192:Int))≤c)=false:=aQ
 have g3:decide (((880:Int))≤c)=false:=aQ
 have g4:decide (((1024:Int))≤c)=false:=aQ
 have g5:decide (c≤(122:Int))=true:=aQ
 have g6:decide (c≤(90:Int))=false:=aQ
 have g7:decide (c≤(591:Int))=true:=aQ
 have g8:decide (c≤(1023:Int))=true:=aQ
 have g9:decide (c≤(1279:Int))=true:=aQ
 have q1:(c==95)=false:=aQ
 have q2:(c !=215)=true:=aQ
 have q3:(c !=247)=true:=aQ
 go_enter func89,ntmps89;go_wp2
 go_ret;exact⟨jQ HH.o.symm,rfl⟩
theorem GI(c:Int)(w:aG)(h1:123≤c)(h2:c≤191):bB 89 #[ak c] w (cK (.bool (isLt c)) fun w'=>w'=w):=by
 have HH:Hid (isLt c=false):=by show _=_;unfold isLt;simp;omega
 have g0:decide (((97:Int))≤c)=true:=aQ
 have g1:decide (((65:Int))≤c)=true:=aQ
 have g2:decide (((192:Int))≤c)=false:=aQ
 have g3:decide (((880:Int))≤c)=false:=aQ
 have g4:decide (((1024:Int))≤c)=false:=aQ
 have g5:decide (c≤(122:Int))=false:=aQ
 have g6:decide (c≤(90:Int))=false:=aQ
 have g7:decide (c≤(591:Int))=true:=aQ
 have g8:decide (c≤(1023:Int))=true:=aQ
 have g9:decide (c≤(1279:Int))=true:=aQ
 have q1:(c==95)=false:=aQ
 have q2:(c !=215)=true:=aQ
 have q3:(c !=247)=true:=aQ
 go_enter func89,ntmps89;go_wp2
 go_ret;exact⟨jQ HH.o.symm,rfl⟩
theorem GJ(c:Int)(w:aG)(h1:192≤c)(h2:c≤214):bB 89 #[ak c] w (cK (.bool (isLt c)) fun w'=>w'=w):=by
 have HH:Hid (isLt c=true):=by show _=_;unfold isLt;simp;omega
 have g0:decide (((97:Int))≤c)=true:=aQ
 have g1:decide (((65:Int))≤c)=true:=aQ
 have g2:decide (((192:Int))≤c)=true:=aQ
 have g3:decide (((880:Int))≤c)=false:=aQ
 have g4:decide (((1024:Int))≤c)=false:=aQ
 have g5:decide (c≤(122:Int))=false:=aQ
 have g6:decide (c≤(90:Int))=false:=aQ
 have g7:decide (c≤(591:Int))=true:=aQ
 have g8:decide (c≤(1023:Int))=true:=aQ
 have g9:decide (c≤(1279:Int))=true:=aQ
 have q1:(c==95)=false:=aQ
 have q2:(c !=215)=true:=aQ
 have q3:(c !=247)=true:=aQ
 go_enter func89,ntmps89;go_wp2
 go_ret;exact⟨jQ HH.o.symm,rfl⟩
theorem GK(c:Int)(w:aG)(h1:215≤c)(h2:c≤215):bB 89 #[ak c] w (cK (.bool (isLt c)) fun w'=>w'=w):=by
 have HH:Hid (isLt c=false):=by show _=_;unfold isLt;simp;omega
 have g0:decide (((97:Int))≤c)=true:=aQ
 have g1:decide (((65:Int))≤c)=true:=aQ
 have g2:decide (((192:Int))≤c)=true:=aQ
 have g3:decide (((880:Int))≤c)=false:=aQ
 have g4:decide (((1024:Int))≤c)=false:=aQ
 have g5:decide (c≤(122:Int))=false:=aQ
 have g6:decide (c≤(90:Int))=false:=aQ
 have g7:decide (c≤(591:Int))=true:=aQ
 have g8:decide (c≤(1023:Int))=true:=aQ
 have g9:decide (c≤(1279:Int))=true:=aQ
 have q1:(c==95)=false:=aQ
 have q2:(c !=215)=false:=aQ
 have q3:(c !=247)=true:=aQ
 go_enter func89,ntmps89;go_wp2
 go_ret;exact⟨jQ HH.o.symm,rfl⟩
theorem GL(c:Int)(w:aG)(h1:216≤c)(h2:c≤246):bB 89 #[ak c] w (cK (.bool (isLt c)) fun w'=>w'=w):=by
 have HH:Hid (isLt c=true):=by show _=_;unfold isLt;simp;omega
 have g0:decide (((97:Int))≤c)=true:=aQ
 have g1:decide (((65:Int))≤c)=true:=aQ
 have g2:decide (((192:Int))≤c)=true:=aQ
 have g3:decide (((880:Int))≤c)=false:=aQ
 have g4:decide (((1024:Int))≤c)=false:=aQ
 have g5:decide (c≤(122:Int))=false:=aQ
 have g6:decide (c≤(90:Int))=false:=aQ
 have g7:decide (c≤(591:Int))=true:=aQ
 have g8:decide (c≤(1023:Int))=true:=aQ
 have g9:decide (c≤(1279:Int))=true:=aQ
 have q1:(c==95)=false:=aQ
 have q2:(c !=215)=true:=aQ
 have q3:(c !=247)=true:=aQ
 go_enter func89,ntmps89;go_wp2
 go_ret;exact⟨jQ HH.o.symm,rfl⟩
theorem Eu(c:Int)(w:aG)(h1:247≤c)(h2:c≤247):bB 89 #[ak c] w (cK (.bool (isLt c)) fun w'=>w'=w):=by
 have HH:Hid (isLt c=false):=by show _=_;unfold isLt;simp;omega
 have g0:decide (((97:Int))≤c)=true:=aQ
 have g1:decide (((65:Int))≤c)=true:=aQ
 have g2:decide (((192:Int))≤c)=true:=aQ
 have g3:decide (((880:Int))≤c)=false:=aQ
 have g4:decide (((1024:Int))≤c)=false:=aQ
 have g5:decide (c≤(122:Int))=false:=aQ
 have g6:decide (c≤(90:Int))=false:=aQ
 have g7:decide (c≤(591:Int))=true:=aQ
 have g8:decide (c≤(1023:Int))=true:=aQ
 have g9:decide (c≤(1279:Int))=true:=aQ
 have q1:(c==95)=false:=aQ
 have q2:(c !=215)=true:=aQ
 have q3:(c !=247)=false:=aQ
 go_enter func89,ntmps89;go_wp2
 go_ret;exact⟨jQ HH.o.symm,rfl⟩
theorem Ev(c:Int)(w:aG)(h1:248≤c)(h2:c≤591):bB 89 #[ak c] w (cK (.bool (isLt c)) fun w'=>w'=w):=by
 have HH:Hid (isLt c=true):=by show _=_;unfold isLt;simp;omega
 have g0:decide (((97:Int))≤c)=true:=aQ
 have g1:decide (((65:Int))≤c)=true:=aQ
 have g2:decide (((192:Int))≤c)=true:=aQ
 have g3:decide (((880:Int))≤c)=false:=aQ
 have g4:decide (((1024:Int))≤c)=false:=aQ
 have g5:decide (c≤(122:Int))=false:=aQ
 have g6:decide (c≤(90:Int))=false:=aQ
 have g7:decide (c≤(591:Int))=true:=aQ
 have g8:decide (c≤(1023:Int))=true:=aQ
 have g9:decide (c≤(1279:Int))=true:=aQ
 have q1:(c==95)=false:=aQ
 have q2:(c !=215)=true:=aQ
 have q3:(c !=247)=true:=aQ
 go_enter func89,ntmps89;go_wp2
 go_ret;exact⟨jQ HH.o.symm,rfl⟩
theorem Ew(c:Int)(w:aG)(h1:592≤c)(h2:c≤879):bB 89 #[ak c] w (cK (.bool (isLt c)) fun w'=>w'=w):=by
 have HH:Hid (isLt c=false):=by show _=_;unfold isLt;simp;omega
 have g0:decide (((97:Int))≤c)=true:=aQ
 have g1:decide (((65:Int))≤c)=true:=aQ
 have g2:decide (((192:Int))≤c)=true:=aQ
 have g3:decide (((880:Int))≤c)=false:=aQ
 have g4:decide (((1024:Int))≤c)=false:=aQ
 have g5:decide (c≤(122:Int))=false:=aQ
 have g6:decide (c≤(90:Int))=false:=aQ
 have g7:decide (c≤(591:Int))=false:=aQ
 have g8:decide (c≤(1023:Int))=true:=aQ
 have g9:decide (c≤(1279:Int))=true:=aQ
 have q1:(c==95)=false:=aQ
 have q2:(c !=215)=true:=aQ
 have q3:(c !=247)=true:=aQ
 go_enter func89,ntmps89;go_wp2
 go_ret;exact⟨jQ HH.o.symm,rfl⟩
theorem Ey(c:Int)(w:aG)(h1:880≤c)(h2:c≤1023):bB 89 #[ak c] w (cK (.bool (isLt c)) fun w'=>w'=w):=by
 have HH:Hid (isLt c=true):=by show _=_;unfold isLt;simp;omega
 have g0:decide (((97:Int))≤c)=true:=aQ
 have g1:decide (((65:Int))≤c)=true:=aQ
 have g2:decide (((192:Int))≤c)=true:=aQ
 have g3:decide (((880:Int))≤c)=true:=aQ
 have g4:decide (((1024:Int))≤c)=false:=aQ
 have g5:decide (c≤(122:Int))=false:=aQ
 have g6:decide (c≤(90:Int))=false:=aQ
 have g7:decide (c≤(591:Int))=false:=aQ
 have g8:decide (c≤(1023:Int))=true:=aQ
 have g9:decide (c≤(1279:Int))=true:=aQ
 have q1:(c==95)=false:=aQ
 have q2:(c !=215)=true:=aQ
 have q3:(c !=247)=true:=aQ
 go_enter func89,ntmps89;go_wp2
 go_ret;exact⟨jQ HH.o.symm,rfl⟩
theorem Ez(c:Int)(w:aG)(h1:1024≤c)(h2:c≤1279):bB 89 #[ak c] w (cK (.bool (isLt c)) fun w'=>w'=w):=by
 have HH:Hid (isLt c=true):=by show _=_;unfold isLt;simp;omega
 have g0:decide (((97:Int))≤c)=true:=aQ
 have g1:decide (((65:Int))≤c)=true:=aQ
 have g2:decide (((192:Int))≤c)=true:=aQ
 have g3:decide (((880:Int))≤c)=true:=aQ
 have g4:decide (((1024:Int))≤c)=true:=aQ
 have g5:decide (c≤(122:Int))=false:=aQ
 have g6:decide (c≤(90:Int))=false:=aQ
 have g7:decide (c≤(591:Int))=false:=aQ
 have g8:decide (c≤(1023:Int))=false:=aQ
 have g9:decide (c≤(1279:Int))=true:=aQ
 have q1:(c==95)=false:=aQ
 have q2:(c !=215)=true:=aQ
 have q3:(c !=247)=true:=aQ
 go_enter func89,ntmps89;go_wp2
 go_ret;exact⟨jQ HH.o.symm,rfl⟩
theorem EA(c:Int)(w:aG)(h1:1280≤c):bB 89 #[ak c] w (cK (.bool (isLt c)) fun w'=>w'=w):=by
 have HH:Hid (isLt c=false):=by show _=_;unfold isLt;simp;omega
 have g0:decide (((97:Int))≤c)=true:=aQ
 have g1:decide (((65:Int))≤c)=true:=aQ
 have g2:decide (((192:Int))≤c)=true:=aQ
 have g3:decide (((880:Int))≤c)=true:=aQ
 have g4:decide (((1024:Int))≤c)=true:=aQ
 have g5:decide (c≤(122:Int))=false:=aQ
 have g6:decide (c≤(90:Int))=false:=aQ
 have g7:decide (c≤(591:Int))=false:=aQ
 have g8:decide (c≤(1023:Int))=false:=aQ
 have g9:decide (c≤(1279:Int))=false:=aQ
 have q1:(c==95)=false:=aQ
 have q2:(c !=215)=true:=aQ
 have q3:(c !=247)=true:=aQ
 go_enter func89,ntmps89;go_wp2
 go_ret;exact⟨jQ HH.o.symm,rfl⟩
theorem dZ(c:Int)(w:aG):bB 89 #[ak c] w (cK (.bool (isLt c)) fun w'=>w'=w):=by
 by_cases k0:c≤64
 ·exact Gx c w k0
 by_cases k1:c≤90
 ·exact Gy c w au k1
 by_cases k2:c≤94
 ·exact Gz c w au k2
 by_cases k3:c≤95
 ·exact GA c w au k3
 by_cases k4:c≤96
 ·exact GD c w au k4
 by_cases k5:c≤122
 ·exact GH c w au k5
 by_cases k6:c≤191
 ·exact GI c w au k6
 by_cases k7:c≤214
 ·exact GJ c w au k7
 by_cases k8:c≤215
 ·exact GK c w au k8
 by_cases k9:c≤246
 ·exact GL c w au k9
 by_cases k10:c≤247
 ·exact Eu c w au k10
 by_cases k11:c≤591
 ·exact Ev c w au k11
 by_cases k12:c≤879
 ·exact Ew c w au k12
 by_cases k13:c≤1023
 ·exact Ey c w au k13
 by_cases k14:c≤1279
 ·exact Ez c w au k14
 exact EA c w au
theorem gN(h:k<s.size){c:Nat}(hc:c<128):cc ((bs s).drop k)=(c:Int)↔(s[k]'h).toNat=c:=by
 have e:((bs s).drop k).getD 0 0=s[k]'h:=by
  rw[bG,g_,Nat.add_zero,← bG,mO s k h]
 rw[QZ hc,e];exact⟨fun x=>x.2,fun x=>⟨iJ h,x⟩⟩
theorem Mh(h:k<s.size)(h1:(s[k]'h).toNat<128):cc ((bs s).drop k)=((s[k]'h).toNat:Int)∧sz ((bs s).drop k)=1:=by
 have e:((bs s).drop k).getD 0 0=s[k]'h:=by
  rw[bG,g_,Nat.add_zero,← bG,mO s k h]
 have:=Gv (iJ h) (by rw[e];exact h1);rw[e] at this;exact⟨this.1,this.2.1⟩
theorem Mi(h:k<s.size)(h1:128≤(s[k]'h).toNat):128≤cc ((bs s).drop k):=by
 have e:((bs s).drop k).getD 0 0=s[k]'h:=by
  rw[bG,g_,Nat.add_zero,← bG,mO s k h]
 exact Mg (iJ h) (by rw[e];exact h1)
def hasB(s:ByteArray)(k a b:Nat):Bool:=decide (cc ((bs s).drop k)=(a:Int)∧cc ((bs s).drop (k+1))=(b:Int))
theorem rJ(s:ByteArray)(k a b:Nat)(w:aG)(hk:k<s.size)(hs:s.size≤1073741824)(ha:a<128)(hb:b<128) :
  bB 90 #[.string s,ak k,.int .u8 a,.int .u8 b] w (cK (.bool (hasB s k a b)) fun w'=>w'=w):=by
 by_cases h1:k+1<s.size
 ·have i1:(k:Int)+1<(s.size:Int):=by omega
  have e2:=gN h1 hb;have e1:=gN hk ha;by_cases h2:(s[k]'hk).toNat=a
  ·have i2:(((s[k]'hk).toNat:Int)==(a:Int))=true:=by simp[h2]
   have HH:Hid (hasB s k a b=decide ((s[k+1]'h1).toNat=b)):=by show _=_;unfold hasB;rw[gq];simp[e1,e2,h2]
   clear e1 e2 h2;go_enter func90,ntmps90;go_wp2
   go_ret;refine⟨jQ ?_,rfl⟩;rw[HH.o,gq];simp;omega
  ·have i2:(((s[k]'hk).toNat:Int)==(a:Int))=false:=by simp;omega
   have HH:Hid (hasB s k a b=false):=by show _=_;unfold hasB;simp[e1,h2]
   clear e1 e2 h2;go_enter func90,ntmps90;go_wp2
   go_ret;exact⟨jQ HH.o.symm,rfl⟩
 ·have i1:¬(k:Int)+1<(s.size:Int):=by omega
  have HH:Hid (hasB s k a b=false):=by
   show _=_;unfold hasB;rw[fV];rintro⟨-,h⟩;have:(bs s).drop (k+1)=[]:=by rw[List.drop_eq_nil_iff,eY];omega
   rw[this,lC] at h;omega
  have i2:decide ((k:Int)+1<(s.size:Int))=false:=by simpa using i1
  go_enter func90,ntmps90;go_wp2
  go_ret;exact⟨jQ HH.o.symm,rfl⟩
theorem kQ(c:Nat)(w:aG)(hc:c<256):bB 137 #[.int .u8 c] w (cK (ak (hexOf c)) fun w'=>w'=w):=by
 have HH:Hid (hexOf (c:Int)=if 48≤(c:Int)∧(c:Int)≤57 then(c:Int) - 48 else if 97≤(c:Int)∧(c:Int)≤102 then(c:Int) - 87 else if 65≤(c:Int)∧(c:Int)≤70 then(c:Int) - 55 else -1):=rfl;by_cases h1:48≤(c:Int)
 all_goals by_cases h2:97≤(c:Int)
 all_goals by_cases h3:65≤(c:Int)
 all_goals (try omega)
 all_goals
  go_enter func137,ntmps137;go_wp2
 all_goals
  go_ret;refine⟨uH ?_,rfl⟩;rw[HH.o]
  repeat' split
  all_goals omega
end
end Go.Proofs.YtoohcklcppnafaaGreatDoor
