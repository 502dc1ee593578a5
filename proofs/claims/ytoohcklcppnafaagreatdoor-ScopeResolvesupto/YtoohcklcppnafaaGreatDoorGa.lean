import Derived.Test.YtoohcklcppnafaaGreatDoorRb
namespace Go.Proofs.YtoohcklcppnafaaGreatDoor
set_option maxHeartbeats 4000000
open Go.RowKit
open M
section
variable{P:Program}{a:Act}{w:aG}{Q:Exit→Act→World→Prop}
def mo(J:Nat→Act→World→Prop)(Q:Exit→Act→World→Prop):Exit→Act→World→Prop
 | .goto l,a,w=>J l a w
 | e,a,w=>Q e a w
theorem mG{c:Code}(J:Nat→Nat→Act→World→Prop)
  (first:c.wp P (mo (fun l a w=>∃ n,J l n a w) Q) a w)
  (pass:∀ l n a w,J l n a w→∃ rest,findLabel c l=some rest∧rest.wp P (mo (fun l' a' w'=>∃ n',n'<n∧J l' n' a' w') Q) a w):(Code.scope c).wp P Q a w:=by
 intro b k cs;have key:∀ n l a w,J l n a w→∃ e a' w',Q e a' w'∧∀ rest,findLabel c l=some rest→Arrives P (lone (b.at a (.code rest::.inScope c::k)) cs w) b k cs e a' w':=by
  intro n
  induction n using Nat.strongRecOn with
  | _ n ih =>
   intro l a w hJ;obtain⟨rest,hf,hp⟩:=pass l n a w hJ;obtain⟨e,a₁,w₁,hq,harr⟩:=hp b (.inScope c::k) cs;cases e with
   | normal=>exact⟨.normal,a₁,w₁,hq,fun r hr=>by rw[hf] at hr;cases hr;exact Steps.trans harr (.one step_inScope)⟩
   | exit id=>exact⟨.exit id,a₁,w₁,hq,fun r hr=>by rw[hf] at hr;cases hr;exact fun k' hk=>harr k' (by simp[exitTo,hk])⟩
   | goto l' =>
    obtain⟨n',hlt,hJ'⟩:=hq;obtain⟨e₂,a₂,w₂,hq₂,harr₂⟩:=ih n' hlt l' a₁ w₁ hJ';obtain⟨rest',hf',_⟩:=pass l' n' a₁ w₁ hJ';have hg:gotoIn l' (.inScope c::k)=some (.code rest'::.inScope c::k):=by simp[gotoIn,hf']
    exact⟨e₂,a₂,w₂,hq₂,fun r hr=>by rw[hf] at hr;cases hr;exact .of_steps (harr _ hg) (harr₂ rest' hf')⟩
   | ret=>exact⟨_,a₁,w₁,hq,fun r hr=>by rw[hf] at hr;cases hr;exact harr⟩
   | panic ch=>exact⟨_,a₁,w₁,hq,fun r hr=>by rw[hf] at hr;cases hr;exact harr⟩
   | outgrown=>exact⟨_,a₁,w₁,hq,fun r hr=>by rw[hf] at hr;cases hr;exact harr⟩
 obtain⟨e,a₁,w₁,hq,harr⟩:=first b (.inScope c::k) cs;cases e with
 | normal=>exact⟨.normal,a₁,w₁,hq,.head step_scope (Steps.trans harr (.one step_inScope))⟩
 | exit id=>exact⟨.exit id,a₁,w₁,hq,fun k' hk=>.head step_scope (harr k' (by simp[exitTo,hk]))⟩
 | goto l' =>
  obtain⟨n,hJ'⟩:=hq;obtain⟨rest',hf',_⟩:=pass l' n a₁ w₁ hJ';obtain⟨e₂,a₂,w₂,hq₂,harr₂⟩:=key n l' a₁ w₁ hJ';have hg:gotoIn l' (.inScope c::k)=some (.code rest'::.inScope c::k):=by simp[gotoIn,hf']
  exact⟨e₂,a₂,w₂,hq₂,.of_steps (.head step_scope (harr _ hg)) (harr₂ rest' hf')⟩
 | ret=>exact⟨_,a₁,w₁,hq,.of_steps (.one step_scope) harr⟩
 | panic ch=>exact⟨_,a₁,w₁,hq,.of_steps (.one step_scope) harr⟩
 | outgrown=>exact⟨_,a₁,w₁,hq,.of_steps (.one step_scope) harr⟩
theorem mo.imp{J J':Nat→Act→World→Prop}(h:∀ l a w,J l a w→J' l a w):∀(e:Exit) (a:Act) (w:aG),mo J Q e a w→mo J' Q e a w:=fun e a w x=>by
 cases e<;>first|exact h _ _ _ x|exact x
theorem uP{c Ro:Code}(J:Nat→Nat→Act→World→Prop)(L:Nat)(hf:findLabel c L=some (Code.seq .skip Ro))
  (inside:∀ n a w,J L n a w→Ro.wp P (mo (fun l' a' w'=>∃ n',n'<n∧J l' n' a' w') Q) a w)
  (others:∀ l n a w,l≠L→J l n a w→∃ rest,findLabel c l=some rest∧rest.wp P (mo (fun l' a' w'=>∃ n',n'<n∧J l' n' a' w') Q) a w)
  (first:(∀ n a w,J L n a w→Ro.wp P (mo (fun l a w=>∃ n,J l n a w) Q) a w)→c.wp P (mo (fun l a w=>∃ n,J l n a w) Q) a w):(Code.scope c).wp P Q a w:=by
 refine mG J (first fun n a w h=>Code.wp_mono (mo.imp fun l a w ⟨n',_,h'⟩=>⟨n',h'⟩) (inside n a w h)) ?_;intro l n a w h;by_cases hl:l=L
 ·subst hl;exact⟨_,hf,wp_seq (wp_skip (inside n a w h))⟩
 ·exact others l n a w hl h
end
section
open Tryz
def JN(b:Nat)(s:ByteArray)(p:Nat)(w:aG)(l n:Nat)(a':Act)(w':aG):Prop :=
 ∃(d q:Nat) (u4 u5 u6 u7 u8 u9 EG EH EI EJ EK EL u16 EM JC JE u20 u21 u22 u23 u24 u25 u26 u27 u28 u29 u30 u31 u32 u33 u34 u35 u36 u37 u38 u39:Value),a'={ tmps:=#[aH b,undef,ak 0,ak (d:Int),u4,u5,u6,u7,u8,u9,EG,EH,EI,EJ,EK,EL,u16,EM,JC,JE,u20,u21,u22,u23,u24,u25,u26,u27,u28,u29,u30,u31,u32,u33,u34,u35,u36,u37,u38,u39],defers:=[] }∧nW w' b s q∧On b w w'∧1≤d∧d≤q+1 ∧
  (nest 1 ((bs s).drop p)).1=(nest d ((bs s).drop q)).1∧p+(nest 1 ((bs s).drop p)).2=q+(nest d ((bs s).drop q)).2 ∧
  ((l=2∧n=2*(s.size - q)+1)∨(l=0∧n=2*(s.size - q)∧cc ((bs s).drop q)=123)∨(l=1∧n=2*(s.size - q)∧cc ((bs s).drop q)=45))
theorem Km(b:Nat)(s:ByteArray)(p:Nat)(w:aG)(h:nW w b s p) :
  bB 146 #[aH b] w (cK (ak (nest 1 ((bs s).drop p)).1) fun w'=>nW w' b s (p+(nest 1 ((bs s).drop p)).2)∧On b w w'):=by
 go_enter func146,ntmps146;go_wp2_with fail
 refine uP (JN b s p w) 2 rfl ?_ ?_ ?_
 ·rintro n a' w' ⟨d,q,u4,u5,u6,u7,u8,u9,EG,EH,EI,EJ,EK,EL,u16,EM,JC,JE,u20,u21,u22,u23,u24,u25,u26,u27,u28,u29,u30,u31,u32,u33,u34,u35,u36,u37,u38,u39,rfl,hr,hk,hd,hd2,e1,e2,hl⟩
  obtain⟨rfl⟩:n=2*(s.size - q)+1:=au
  clear hl;have hs:=hr.big;have hq:=hr.le;obtain⟨⟨c0,c1,c2,c3⟩,f0,f1,f2,f3⟩:=hr.raw.facts;have HH:=aA (And.intro hr (And.intro hk (And.intro e1 e2)));clear hr hk e1 e2;by_cases g0:cc ((bs s).drop q)=-1
  ·have HE:=aA <| qC.1 g0
   rw[g0] at c2;clear g0;go_wp2_with fail
   simp only[mo];go_ret;obtain⟨hr,hk,e1,e2⟩:=HH.o;rw[HE.o,vR] at e1 e2;refine⟨uH (a:=8) (by rw[e1];rfl),?_,hk⟩;rw[e2];exact hr
  by_cases g1:cc ((bs s).drop q)=123
  ·have G1:=aA g1
   rw[g1] at c2;clear g0 g1;go_wp2_with fail
   go_step3
   obtain⟨hr,hk,e1,e2⟩:=HH.o;exact⟨2*(s.size - q),au,d,q,_,_,_,_,_,_,_,_,_,_,_,_,_,_,_,_,_,_,_,_,_,_,_,_,_,_,_,_,_,_,_,_,_,_,_,_,rfl,hr,hk,hd,hd2,e1,e2,.inr (.inl ⟨rfl,rfl,G1.o⟩)⟩
  by_cases g2:cc ((bs s).drop q)=45
  ·have G2:=aA g2
   rw[g2] at c2;clear g0 g1 g2;go_wp2_with fail
   go_step3
   obtain⟨hr,hk,e1,e2⟩:=HH.o;exact⟨2*(s.size - q),au,d,q,_,_,_,_,_,_,_,_,_,_,_,_,_,_,_,_,_,_,_,_,_,_,_,_,_,_,_,_,_,_,_,_,_,_,_,_,rfl,hr,hk,hd,hd2,e1,e2,.inr (.inr ⟨rfl,rfl,G2.o⟩)⟩
  ·have b0:(cc ((bs s).drop q)==-1)=false:=by simpa using g0
   have b1:(cc ((bs s).drop q)==123)=false:=by simpa using g1
   have b2:(cc ((bs s).drop q)==45)=false:=by simpa using g2
   have HN:=aA (vS (deep:=d) g0 g1 g2);have HP:=aA (uj g0);clear g0 g1 g2;go_wp2_with fail
   refine(fQ b s q _ (by exact(HH.o).1)).aX ?_;rintro w2 ⟨r2,k2⟩;go_wp2_with fail
   go_step3
   obtain⟨hr,hk,e1,e2⟩:=HH.o;rw[HN.o] at e1 e2;have:=HP.o;have hz:=r2.le;rw[gK] at e1 e2;exact⟨2*(s.size - (q+sz ((bs s).drop q)))+1,au,d,_,_,_,_,_,_,_,_,_,_,_,_,_,_,_,_,_,_,_,_,_,_,_,_,_,_,_,_,_,_,_,_,_,_,_,_,_,rfl,r2,hk.to k2,hd,au,e1,by rw[e2];simp only;omega,.inl ⟨rfl,rfl⟩⟩
 ·rintro l n a' w' hne ⟨d,q,u4,u5,u6,u7,u8,u9,EG,EH,EI,EJ,EK,EL,u16,EM,JC,JE,u20,u21,u22,u23,u24,u25,u26,u27,u28,u29,u30,u31,u32,u33,u34,u35,u36,u37,u38,u39,rfl,hr,hk,hd,hd2,e1,e2,hl⟩
  have hs:=hr.big;have hq:=hr.le;obtain⟨⟨c0,c1,c2,c3⟩,f0,f1,f2,f3⟩:=hr.raw.facts;have HH:=aA (And.intro hr (And.intro hk (And.intro e1 e2)));clear hr hk e1 e2;rcases hl with ⟨rfl,_⟩|⟨rfl,rfl,hc⟩|⟨rfl,rfl,hc⟩
  ·exact absurd rfl hne
  ·refine⟨_,rfl,?_⟩
   have z1:sz ((bs s).drop q)=1:=fI au au;have HP:=aA (fQ b s q w' (HH.o).1);have HC:=aA hc;have Z1:=aA z1;have hq1:q+1≤s.size:=by have:=jV hq;omega
   rw[z1] at HP;clear hc z1 c0 c1 c2 c3 f0 f1 f2 f3;go_wp2_with fail
   refine(HP.o).aX ?_;rintro w2 ⟨r2,k2⟩;obtain⟨⟨c0,c1,c2,c3⟩,f0,f1,f2,f3⟩:=r2.raw.facts;have eN:nx ((bs s).drop q)=(bs s).drop (q+1):=by rw[gK,Z1.o]
   have EN:=aA eN;have R2:=aA (And.intro r2 k2);clear r2 k2 eN;by_cases g:cc ((bs s).drop (q+1))=45
   ·have G:=aA g
    have z2:sz ((bs s).drop (q+1))=1:=fI au au;have oU:=aA (fQ b s (q+1) w2 (R2.o).1);have Z2:=aA z2;have hq2:q+1+1≤s.size:=by have:=jV hq1;omega
    rw[z2] at oU;rw[g] at c2;clear g z2;go_wp2_with fail
    refine(oU.o).aX ?_;rintro w3 ⟨r3,k3⟩;go_wp2_with fail
    go_step3
    obtain⟨hr,hk,e1,e2⟩:=HH.o;have h1:cc (nx ((bs s).drop q))=45:=by rw[EN.o];exact G.o
    have eN2:nx (nx ((bs s).drop q))=(bs s).drop (q+1+1):=by rw[EN.o,gK,Z2.o]
    rw[xB HC.o h1,eN2] at e1 e2;exact⟨2*(s.size - (q+1+1))+1,au,d+1,q+1+1,_,_,_,_,_,_,_,_,_,_,_,_,_,_,_,_,_,_,_,_,_,_,_,_,_,_,_,_,_,_,_,_,_,_,_,_,rfl,r3,(hk.to (R2.o).2).to k3,au,au,e1,by rw[e2];simp only;omega,.inl ⟨rfl,rfl⟩⟩
   ·have G:=aA g
    have bg:(cc ((bs s).drop (q+1))==45)=false:=by simpa using g
    clear g;go_wp2_with fail
    go_step3
    obtain⟨hr,hk,e1,e2⟩:=HH.o;have h1:cc (nx ((bs s).drop q))≠45:=by rw[EN.o];exact G.o
    rw[uZ HC.o h1,EN.o] at e1 e2;exact⟨2*(s.size - (q+1))+1,au,d,q+1,_,_,_,_,_,_,_,_,_,_,_,_,_,_,_,_,_,_,_,_,_,_,_,_,_,_,_,_,_,_,_,_,_,_,_,_,rfl,(R2.o).1,hk.to (R2.o).2,au,au,e1,by rw[e2];simp only;omega,.inl ⟨rfl,rfl⟩⟩
  ·refine⟨_,rfl,?_⟩
   have z1:sz ((bs s).drop q)=1:=fI au au;have HP:=aA (fQ b s q w' (HH.o).1);have HC:=aA hc;have Z1:=aA z1;have hq1:q+1≤s.size:=by have:=jV hq;omega
   rw[z1] at HP;clear hc z1 c0 c1 c2 c3 f0 f1 f2 f3;go_wp2_with fail
   refine(HP.o).aX ?_;rintro w2 ⟨r2,k2⟩;obtain⟨⟨c0,c1,c2,c3⟩,f0,f1,f2,f3⟩:=r2.raw.facts;have eN:nx ((bs s).drop q)=(bs s).drop (q+1):=by rw[gK,Z1.o]
   have EN:=aA eN;have R2:=aA (And.intro r2 k2);clear r2 k2 eN;by_cases g:cc ((bs s).drop (q+1))=125
   ·have G:=aA g
    have z2:sz ((bs s).drop (q+1))=1:=fI au au;have oU:=aA (fQ b s (q+1) w2 (R2.o).1);have Z2:=aA z2;have hq2:q+1+1≤s.size:=by have:=jV hq1;omega
    have h1:cc (nx ((bs s).drop q))=125:=by rw[EN.o];exact g
    have H1:=aA h1;rw[z2] at oU;rw[g] at c2;clear g z2 h1;by_cases hd1:d≤1
    ·have hd':¬(0:Int)<(d:Int) - 1:=by omega
     go_wp2_with fail
     refine(oU.o).aX ?_;rintro w3 ⟨r3,k3⟩;go_wp2_with fail
     simp only[mo];go_ret;obtain⟨hr,hk,e1,e2⟩:=HH.o;rw[xC HC.o H1.o hd1] at e1 e2;refine⟨uH (a:=2) (by rw[e1];rfl),?_,(hk.to (R2.o).2).to k3⟩;rw[e2];exact r3
    ·have hd':(0:Int)<(d:Int) - 1:=by omega
     go_wp2_with fail
     refine(oU.o).aX ?_;rintro w3 ⟨r3,k3⟩;go_wp2_with fail
     go_step3
     obtain⟨hr,hk,e1,e2⟩:=HH.o;have eN2:nx (nx ((bs s).drop q))=(bs s).drop (q+1+1):=by rw[EN.o,gK,Z2.o]
     rw[xD HC.o H1.o hd1,eN2] at e1 e2;have ed:((d:Int) - 1)=((d - 1:Nat):Int):=au
     rw[ed];exact⟨2*(s.size - (q+1+1))+1,au,d - 1,q+1+1,_,_,_,_,_,_,_,_,_,_,_,_,_,_,_,_,_,_,_,_,_,_,_,_,_,_,_,_,_,_,_,_,_,_,_,_,rfl,r3,(hk.to (R2.o).2).to k3,au,au,e1,by rw[e2];simp only;omega,.inl ⟨rfl,rfl⟩⟩
   ·have G:=aA g
    have bg:(cc ((bs s).drop (q+1))==125)=false:=by simpa using g
    clear g;go_wp2_with fail
    go_step3
    obtain⟨hr,hk,e1,e2⟩:=HH.o;have h1:cc (nx ((bs s).drop q))≠125:=by rw[EN.o];exact G.o
    rw[xE HC.o h1,EN.o] at e1 e2;exact⟨2*(s.size - (q+1))+1,au,d,q+1,_,_,_,_,_,_,_,_,_,_,_,_,_,_,_,_,_,_,_,_,_,_,_,_,_,_,_,_,_,_,_,_,_,_,_,_,rfl,(R2.o).1,hk.to (R2.o).2,au,au,e1,by rw[e2];simp only;omega,.inl ⟨rfl,rfl⟩⟩
 ·intro hin
  go_wp2_with fail
  go_step3
  rename_i hK
  have hJ:JN b s p w 2 (2*(s.size - p)+1) { tmps:=#[aH b,undef,ak 0,ak 1,undef,undef,undef,undef,undef,undef,undef,undef,undef,undef,undef,undef,undef,undef,undef,undef,undef,undef,undef,undef,undef,undef,undef,undef,undef,undef,undef,undef,undef,undef,undef,undef,undef,undef,undef,undef],defers:=[] } w:=⟨1,p,undef,undef,undef,undef,undef,undef,undef,undef,undef,undef,undef,undef,undef,undef,undef,undef,undef,undef,undef,undef,undef,undef,undef,undef,undef,undef,undef,undef,undef,undef,undef,undef,undef,undef,undef,undef,rfl,h,Kp.refl _ _,ax _,au,rfl,rfl,.inl ⟨rfl,rfl⟩⟩;have hh:=hin _ _ _ hJ;exact hK _ _ hh
end
section
open Tryz
variable{k b p:Nat}{C:Int}{s:ByteArray}{w wr:aG}
def intOf:Value→Int|.int _ q=>q|_=>0
theorem XO(hk:k≤5)(hC:C<((16 ^ k:Nat):Int)):C≤1048575:=by
 have h1:16 ^ k≤16 ^ 5:=Nat.pow_le_pow_right au hk;have h2:(16:Nat) ^ 5=1048576:=aS
 omega
theorem Q9{h:Int}(hC:C<((16 ^ k:Nat):Int))(hh:h<16):C*16+h<((16 ^ (k+1):Nat):Int):=by
 rw[Nat.pow_succ];omega
theorem Ml(hk:k≤6)(hC:C<((16 ^ k:Nat):Int)):C≤16777215:=by
 have h1:16 ^ k≤16 ^ 6:=Nat.pow_le_pow_right au hk;have h2:(16:Nat) ^ 6=16777216:=aS
 omega
structure C8(b:Nat)(s:ByteArray)(p:Nat)(w:aG)(k:Nat)(C:Int)(wr:aG):Prop where
 iW:nW wr b s (p+k)
 on:On b w wr
 lo:0≤C
 hi:C<((16 ^ k:Nat):Int)
 eq:jF 6 0 ((bs s).drop p)=((jF (6 - k) C ((bs s).drop (p+k))).1,k+(jF (6 - k) C ((bs s).drop (p+k))).2)
theorem C8.stop(h:C8 b s p w k C wr)(hk:k≤6)(hx:¬(k<6∧0≤hexOf (cc ((bs s).drop (p+k))))):jF 6 0 ((bs s).drop p)=(C,k):=by
 rw[h.eq];by_cases h6:k<6
 ·obtain⟨m,hm⟩:∃ m,6 - k=m+1:=⟨5 - k,au⟩
  rw[hm];unfold jF;rw[aM (fun h=>hx ⟨h6,h⟩)];rfl
 ·have:6 - k=0:=by omega
  rw[this];rfl
theorem C8.next{w2:aG}(h:C8 b s p w k C wr)(hk:k<6)(hx:0≤hexOf (cc ((bs s).drop (p+k))))(hr:nW w2 b s (p+k+1))(ho:On b wr w2):C8 b s p w (k+1) (C*16+hexOf (cc ((bs s).drop (p+k)))) w2:=by
 have hh:=qU (cc ((bs s).drop (p+k)));have h0:=h.lo;refine⟨hr,h.on.to ho,au,Q9 h.hi hh.2,?_⟩;rw[h.eq];obtain⟨m,hm⟩:∃ m,6 - k=m+1:=⟨5 - k,au⟩;have hm2:6 - (k+1)=m:=au
 have ha:=lJ hx;have z1:sz ((bs s).drop (p+k))=1:=fI au au;rw[hm,hm2,show p+(k+1)=p+k+1 from rfl]
 conv=>lhs;unfold jF
 rw[aU hx,gK,z1];simp only[kE];exact⟨trivial,au⟩
theorem Cb(b:Nat)(s:ByteArray)(p:Nat)(w:aG)(h:nW w b s p) :
  bB 168 #[aH b] w (cK (.tuple #[.int .i32 (code ((bs s).drop p)).1,.bool (code ((bs s).drop p)).2.1]) fun w'=>nW w' b s (p+(code ((bs s).drop p)).2.2)∧On b w w'):=by
 have hs:=h.big;have hq:=h.le;obtain⟨⟨c0,c1,c2,c3⟩,f0,f1,f2,f3⟩:=h.raw.facts;by_cases g0:cc ((bs s).drop p)=123
 ·have z1:sz ((bs s).drop p)=1:=fI au au
  have hq1:p+1≤s.size:=by have:=jV hq;omega
  have HP:=aA (fQ b s p w h);have eN:nx ((bs s).drop p)=(bs s).drop (p+1):=by rw[gK,z1]
  have HC:Hid (code ((bs s).drop p)=if (jF 6 0 ((bs s).drop (p+1))).2=0∨cc (((bs s).drop (p+1)).drop (jF 6 0 ((bs s).drop (p+1))).2)≠125 then(0,false,1+(jF 6 0 ((bs s).drop (p+1))).2)
    else((jF 6 0 ((bs s).drop (p+1))).1,Lib.validRune (jF 6 0 ((bs s).drop (p+1))).1,2+(jF 6 0 ((bs s).drop (p+1))).2)):=by
   show _=_;unfold code;rw[aU g0,eN]
  rw[z1] at HP;rw[g0] at c2;clear g0 z1 eN;go_enter func168,ntmps168;go_wp2_with fail
  refine(HP.o).aX ?_;rintro w1 ⟨r1,k1⟩;clear c0 c1 c2 c3 f0 f1 f2 f3;go_wp2_with fail
  go_loopw [4,5] (fun c i wr=>∃(k:Nat) (C:Int),k≤6∧i=ak k∧c=.int .i32 C∧Hid (C8 b s (p+1) w1 k C wr)) (fun _ i _=>6 - (intOf i).toNat)
  case atStart=>exact⟨0,0,au,rfl,rfl,⟨r1,Kp.refl _ _,au,aS,aT⟩⟩
  case round =>
   obtain⟨k,C,hk,rfl,rfl,HI⟩:=hrel;obtain⟨⟨c0,c1,c2,c3⟩,f0,f1,f2,f3⟩:=(HI.o).iW.raw.facts;have hhx:=qU (cc ((bs s).drop (p+1+k)));have hlo:=(HI.o).lo;have hhi:=Ml hk (HI.o).hi;by_cases hx:k<6∧0≤hexOf (cc ((bs s).drop (p+1+k)))
   ·have h5:=XO (au:k≤5) (HI.o).hi
    have HX:=aA hx;obtain⟨Zv,hx0⟩:=hx;have z2:sz ((bs s).drop (p+1+k))=1:=by have:=lJ hx0;exact fI au au
    have oU:=aA (fQ b s (p+1+k) _ (HI.o).iW);rw[z2] at oU;clear z2;have cN0:(k:Int)<6:=au
    go_wp2_with (first|(go_at_call 176;refine(qW _ _).cO ?_)|(go_at_call 141;refine(oU.o).aX ?_;rintro w2 ⟨r2,k2⟩))
    go_roundw
    case rel=>exact⟨k+1,_,au,by go_num,rfl,(HI.o).next Zv (HX.o).2 r2 k2⟩
    case measure=>simp[intOf];omega
   ·have HS:=aA ((HI.o).stop hk hx)
    have hc2:cc (((bs s).drop (p+1)).drop k)=cc ((bs s).drop (p+1+k)):=by rw[cZ]
    have hvr:Hid (code ((bs s).drop p)=if k=0∨cc ((bs s).drop (p+1+k))≠125 then(0,false,1+k) else(C,Lib.validRune C,2+k)):=by
     show _=_;rw[HC.o,HS.o];simp only;rw[hc2]
    clear hc2;have HX:=aA hx;by_cases hk0:k=0
    ·subst hk0
     have hx':¬ 0≤hexOf (cc ((bs s).drop (p+1+0))):=fun h=>hx ⟨au,h⟩
     clear hx;have hx2:decide (0≤hexOf (cc ((bs s).drop (p+1+0))))=false:=by simpa using hx'
     clear hx';go_wp2_with (first|(go_at_call 176;refine(qW _ _).cO ?_))
     go_ret2;rw[hvr.o,aU aT];exact⟨rfl,(HI.o).iW,k1.to (HI.o).on⟩
    have hkb:((k:Int)==0)=false:=by simpa using hk0
    by_cases yU:cc ((bs s).drop (p+1+k))=125
    ·have HN:Hid (¬(k=0∨cc ((bs s).drop (p+1+k))≠125)):=by show ¬ _;simp[hk0,yU]
     have z2:sz ((bs s).drop (p+1+k))=1:=fI au au;have oU:=aA (fQ b s (p+1+k) _ (HI.o).iW);have hx5:hexOf (cc ((bs s).drop (p+1+k)))=-1:=by rw[yU];decide
     rw[yU] at c2 hx5;rw[z2] at oU;clear z2 hx hk0 yU hhx;by_cases Zv:k<6
     all_goals
      go_wp2_with (first|(go_at_call 176;refine(qW _ _).cO ?_)|(go_at_call 141;refine(oU.o).aX ?_;rintro w2 ⟨r2,k2⟩)|(go_at_call 170;refine(utf8_ValidRune _ _).cO ?_))
      go_ret2;rw[hvr.o,aM HN.o];refine⟨rfl,?_,(k1.to (HI.o).on).to k2⟩;rw[show p+(2+k)=p+1+k+1 by omega];exact r2
    ·have HN:Hid (k=0∨cc ((bs s).drop (p+1+k))≠125):=.inr yU
     have h1b:(cc ((bs s).drop (p+1+k))==125)=false:=by simpa using yU
     clear hk0 yU;by_cases Zv:k<6
     ·have hx':¬ 0≤hexOf (cc ((bs s).drop (p+1+k))):=fun h=>hx ⟨Zv,h⟩
      have hx2:decide (0≤hexOf (cc ((bs s).drop (p+1+k))))=false:=by simpa using hx'
      clear hx hx';go_wp2_with (first|(go_at_call 176;refine(qW _ _).cO ?_))
      go_ret2;rw[hvr.o,aU HN.o];refine⟨rfl,?_,k1.to (HI.o).on⟩;rw[show p+(1+k)=p+1+k by omega];exact(HI.o).iW
     ·clear hx
      go_wp2_with (first|(go_at_call 176;refine(qW _ _).cO ?_))
      go_ret2;rw[hvr.o,aU HN.o];refine⟨rfl,?_,k1.to (HI.o).on⟩;rw[show p+(1+k)=p+1+k by omega];exact(HI.o).iW
 ·have b0:(cc ((bs s).drop p)==123)=false:=by simpa using g0
  have HC:Hid (code ((bs s).drop p)=(0,false,0)):=by show _=_;unfold code;rw[aM g0]
  clear g0;go_enter func168,ntmps168;go_wp2_with fail
  go_ret2;rw[HC.o];exact⟨rfl,h,Kp.refl _ _⟩
theorem C9(b:Nat)(s:ByteArray)(p:Nat)(w:aG)(h:nW w b s p) :
  bB 163 #[aH b] w (cK (.tuple #[.int .i32 (taken ((bs s).drop p)).1,.bool (taken ((bs s).drop p)).2.1]) fun w'=>nW w' b s (p+(taken ((bs s).drop p)).2.2)∧On b w w'):=by
 have hs:=h.big;have hq:=h.le;obtain⟨⟨c0,c1,c2,c3⟩,f0,f1,f2,f3⟩:=h.raw.facts;by_cases gm:cc ((bs s).drop p)=-1
 ·have HT:Hid (taken ((bs s).drop p)=(0,false,0)):=by show _=_;unfold taken;rw[aU (by simp[gm])]
  rw[gm] at c2;go_enter func163,ntmps163;go_wp2_with fail
  go_ret2;rw[HT.o];exact⟨rfl,h,Kp.refl _ _⟩
 by_cases g10:cc ((bs s).drop p)=10
 ·have HT:Hid (taken ((bs s).drop p)=(0,false,0)):=by show _=_;unfold taken;rw[aU (by simp[g10])]
  rw[g10] at c2;go_enter func163,ntmps163;go_wp2_with fail
  go_ret2;rw[HT.o];exact⟨rfl,h,Kp.refl _ _⟩
 have HP:=aA (fQ b s p w h);by_cases u_:cc ((bs s).drop p)=110
 ·have HT:Hid (taken ((bs s).drop p)=(10,true,1)):=by show _=_;unfold taken;rw[aM au,aU u_]
  have z1:sz ((bs s).drop p)=1:=fI au au;rw[z1] at HP;rw[u_] at c2;clear z1;go_enter func163,ntmps163;go_wp2_with ((go_at_call 141;refine(HP.o).aX ?_;rintro w1 ⟨r1,k1⟩))
  go_ret2;rw[HT.o];exact⟨rfl,r1,k1⟩
 by_cases vW:cc ((bs s).drop p)=116
 ·have HT:Hid (taken ((bs s).drop p)=(9,true,1)):=by show _=_;unfold taken;rw[aM au,aM u_,aU vW]
  have z1:sz ((bs s).drop p)=1:=fI au au;rw[z1] at HP;rw[vW] at c2;clear z1;go_enter func163,ntmps163;go_wp2_with ((go_at_call 141;refine(HP.o).aX ?_;rintro w1 ⟨r1,k1⟩))
  go_ret2;rw[HT.o];exact⟨rfl,r1,k1⟩
 by_cases GQ:cc ((bs s).drop p)=34
 ·have HT:Hid (taken ((bs s).drop p)=(34,true,1)):=by show _=_;unfold taken;rw[aM au,aM u_,aM vW,aU (.inl GQ),GQ]
  have z1:sz ((bs s).drop p)=1:=fI au au;rw[z1] at HP;rw[GQ] at c2;clear z1;go_enter func163,ntmps163;go_wp2_with ((go_at_call 141;refine(HP.o).aX ?_;rintro w1 ⟨r1,k1⟩))
  go_ret2;rw[HT.o];exact⟨rfl,r1,k1⟩
 by_cases JB:cc ((bs s).drop p)=92
 ·have HT:Hid (taken ((bs s).drop p)=(92,true,1)):=by show _=_;unfold taken;rw[aM au,aM u_,aM vW,aU (.inr JB),JB]
  have z1:sz ((bs s).drop p)=1:=fI au au;rw[z1] at HP;rw[JB] at c2;clear z1;go_enter func163,ntmps163;go_wp2_with ((go_at_call 141;refine(HP.o).aX ?_;rintro w1 ⟨r1,k1⟩))
  go_ret2;rw[HT.o];exact⟨rfl,r1,k1⟩
 by_cases B_:cc ((bs s).drop p)=117
 ·have z1:sz ((bs s).drop p)=1:=fI au au
  have HT:Hid (taken ((bs s).drop p)=((code ((bs s).drop (p+1))).1,(code ((bs s).drop (p+1))).2.1,1+(code ((bs s).drop (p+1))).2.2)):=by
   show _=_;unfold taken;rw[aM au,aM u_,aM vW,aM au,aU B_,gK,z1]
  rw[z1] at HP;rw[B_] at c2;clear z1;go_enter func163,ntmps163;go_wp2_with (first|(go_at_call 141;refine(HP.o).aX ?_;rintro w1 ⟨r1,k1⟩)|(go_at_call 168;refine(Cb b s (p+1) _ r1).aX ?_;rintro w2 ⟨r2,k2⟩))
  go_ret2;rw[HT.o];refine⟨rfl,?_,k1.to k2⟩;rw[show p+(1+(code ((bs s).drop (p+1))).2.2)=p+1+(code ((bs s).drop (p+1))).2.2 by omega];exact r2
 ·have HT:Hid (taken ((bs s).drop p)=(0,false,sz ((bs s).drop p))):=by
   show _=_;unfold taken;rw[aM au,aM u_,aM vW,aM au,aM B_]
  have bm:(cc ((bs s).drop p)==-1)=false:=by simpa using gm
  have b10:(cc ((bs s).drop p)==10)=false:=by simpa using g10
  have b110:(cc ((bs s).drop p)==110)=false:=by simpa using u_
  have bI5:(cc ((bs s).drop p)==116)=false:=by simpa using vW
  have b34:(cc ((bs s).drop p)==34)=false:=by simpa using GQ
  have b92:(cc ((bs s).drop p)==92)=false:=by simpa using JB
  have aN9:(cc ((bs s).drop p)==117)=false:=by simpa using B_
  clear gm g10 u_ vW GQ JB B_;go_enter func163,ntmps163;go_wp2_with ((go_at_call 141;refine(HP.o).aX ?_;rintro w1 ⟨r1,k1⟩))
  go_ret2;rw[HT.o];exact⟨rfl,r1,k1⟩
def JQ(b:Nat)(s:ByteArray)(p:Nat)(w:aG)(L0 L1:Nat)(l n:Nat)(a':Act)(w':aG):Prop :=
 ∃(d q:Nat) (u4 u5 u6 u7 u8 u9 EG EH EI EJ EK EL u16 EM JC JE u20 u21 u22 u23 u24 u25 u26 u27 u28 u29 u30:Value),a'={ tmps:=#[aH b,undef,ak 0,ak (d:Int),u4,u5,u6,u7,u8,u9,EG,EH,EI,EJ,EK,EL,u16,EM,JC,JE,u20,u21,u22,u23,u24,u25,u26,u27,u28,u29,u30],defers:=[] }∧nW w' b s q∧On b w w'∧d≤8 ∧
  (quo 6 ((bs s).drop p)).1=(quo d ((bs s).drop q)).1∧p+(quo 6 ((bs s).drop p)).2=q+(quo d ((bs s).drop q)).2 ∧
  ((l=L0∧n=2*(s.size - q)+1)∨(l=L1∧n=2*(s.size - q)∧cc ((bs s).drop q)=92))
theorem Kn(b:Nat)(s:ByteArray)(p:Nat)(w:aG)(h:nW w b s p) :
  bB 145 #[aH b] w (cK (ak (quo 6 ((bs s).drop p)).1) fun w'=>nW w' b s (p+(quo 6 ((bs s).drop p)).2)∧On b w w'):=by
 go_enter func145,ntmps145;go_wp2_with fail
 refine uP (JQ b s p w 1 0) 1 rfl ?_ ?_ ?_
 ·rintro n a' w' ⟨d,q,u4,u5,u6,u7,u8,u9,EG,EH,EI,EJ,EK,EL,u16,EM,JC,JE,u20,u21,u22,u23,u24,u25,u26,u27,u28,u29,u30,rfl,hr,hk,hd,e1,e2,hl⟩
  obtain⟨rfl⟩:n=2*(s.size - q)+1:=au
  clear hl;have hs:=hr.big;have hq:=hr.le;obtain⟨⟨c0,c1,c2,c3⟩,f0,f1,f2,f3⟩:=hr.raw.facts;have HH:=aA (And.intro hr (And.intro hk (And.intro e1 e2)));clear hr hk e1 e2;by_cases g0:cc ((bs s).drop q)=-1
  ·have HE:=aA (qD (kind:=d) (.inl g0))
   rw[g0] at c2;clear g0;go_wp2_with fail
   simp only[mo];go_ret;obtain⟨hr,hk,e1,e2⟩:=HH.o;rw[HE.o] at e1 e2;refine⟨uH (a:=8) (by rw[e1];rfl),?_,hk⟩;rw[e2];exact hr
  by_cases g1:cc ((bs s).drop q)=10
  ·have HE:=aA (qD (kind:=d) (.inr g1))
   rw[g1] at c2;clear g0 g1;go_wp2_with fail
   simp only[mo];go_ret;obtain⟨hr,hk,e1,e2⟩:=HH.o;rw[HE.o] at e1 e2;refine⟨uH (a:=8) (by rw[e1];rfl),?_,hk⟩;rw[e2];exact hr
  have HP:=aA (fQ b s q w' (HH.o).1);by_cases g2:cc ((bs s).drop q)=34
  ·have HE:=aA (Am (kind:=d) g2)
   have z1:sz ((bs s).drop q)=1:=fI au au;rw[z1] at HP;rw[g2] at c2;clear g0 g1 g2 z1;go_wp2_with ((go_at_call 141;refine(HP.o).aX ?_;rintro w1 ⟨r1,k1⟩))
   simp only[mo];go_ret;obtain⟨hr,hk,e1,e2⟩:=HH.o;rw[HE.o] at e1 e2;refine⟨uH (a:=(d:Int)) (by rw[e1]),?_,hk.to k1⟩;rw[e2];exact r1
  by_cases g3:cc ((bs s).drop q)=92
  ·have G3:=aA g3
   rw[g3] at c2;clear g0 g1 g2 g3;go_wp2_with fail
   go_step3
   obtain⟨hr,hk,e1,e2⟩:=HH.o;exact⟨2*(s.size - q),au,d,q,_,_,_,_,_,_,_,_,_,_,_,_,_,_,_,_,_,_,_,_,_,_,_,_,_,_,_,rfl,hr,hk,hd,e1,e2,.inr ⟨rfl,rfl,G3.o⟩⟩
  ·have b0:(cc ((bs s).drop q)==-1)=false:=by simpa using g0
   have b1:(cc ((bs s).drop q)==10)=false:=by simpa using g1
   have b2:(cc ((bs s).drop q)==34)=false:=by simpa using g2
   have b3:(cc ((bs s).drop q)==92)=false:=by simpa using g3
   have HN:=aA (Ep (kind:=d) g0 g1 g2 g3);have HZ:=aA (uj g0);clear g0 g1 g2 g3;go_wp2_with ((go_at_call 141;refine(HP.o).aX ?_;rintro w1 ⟨r1,k1⟩))
   go_step3
   obtain⟨hr,hk,e1,e2⟩:=HH.o;rw[HN.o] at e1 e2;have:=HZ.o;have hz:=r1.le;rw[gK] at e1 e2;exact⟨2*(s.size - (q+sz ((bs s).drop q)))+1,au,d,_,_,_,_,_,_,_,_,_,_,_,_,_,_,_,_,_,_,_,_,_,_,_,_,_,_,_,_,rfl,r1,hk.to k1,hd,e1,by rw[e2];simp only;omega,.inl ⟨rfl,rfl⟩⟩
 ·rintro l n a' w' hne ⟨d,q,u4,u5,u6,u7,u8,u9,EG,EH,EI,EJ,EK,EL,u16,EM,JC,JE,u20,u21,u22,u23,u24,u25,u26,u27,u28,u29,u30,rfl,hr,hk,hd,e1,e2,hl⟩
  have hs:=hr.big;have hq:=hr.le;have HH:=aA (And.intro hr (And.intro hk (And.intro e1 e2)));clear hr hk e1 e2;rcases hl with ⟨rfl,_⟩|⟨rfl,rfl,hc⟩
  ·exact absurd rfl hne
  ·refine⟨_,rfl,?_⟩
   have z1:sz ((bs s).drop q)=1:=fI au au;have HP:=aA (fQ b s q w' (HH.o).1);have hq1:q+1≤s.size:=by have:=jV hq;omega
   have HN:=aA (xA (kind:=d) hc);rw[z1] at HP;rw[gK,z1,cZ] at HN;clear hc z1;cases hok:(taken ((bs s).drop (q+1))).2.1
   ·have HO:=aA hok
    go_wp2_with (first|(go_at_call 141;refine(HP.o).aX ?_;rintro w1 ⟨r1,k1⟩)|(go_at_call 163;refine(C9 b s (q+1) _ r1).aX ?_;rintro w2 ⟨r2,k2⟩))
    go_step3
    obtain⟨hr,hk,e1,e2⟩:=HH.o;rw[HN.o,HO.o] at e1 e2;have hz:=r2.le;exact⟨2*(s.size - (q+1+(taken ((bs s).drop (q+1))).2.2))+1,au,8,q+1+(taken ((bs s).drop (q+1))).2.2,_,_,_,_,_,_,_,_,_,_,_,_,_,_,_,_,_,_,_,_,_,_,_,_,_,_,_,rfl,r2,(hk.to k1).to k2,au,e1,by rw[e2];simp only[dw,gY];omega,.inl ⟨rfl,rfl⟩⟩
   ·have HO:=aA hok
    go_wp2_with (first|(go_at_call 141;refine(HP.o).aX ?_;rintro w1 ⟨r1,k1⟩)|(go_at_call 163;refine(C9 b s (q+1) _ r1).aX ?_;rintro w2 ⟨r2,k2⟩))
    go_step3
    obtain⟨hr,hk,e1,e2⟩:=HH.o;rw[HN.o,HO.o] at e1 e2;have hz:=r2.le;exact⟨2*(s.size - (q+1+(taken ((bs s).drop (q+1))).2.2))+1,au,d,q+1+(taken ((bs s).drop (q+1))).2.2,_,_,_,_,_,_,_,_,_,_,_,_,_,_,_,_,_,_,_,_,_,_,_,_,_,_,_,rfl,r2,(hk.to k1).to k2,hd,e1,by rw[e2];simp only[iK];omega,.inl ⟨rfl,rfl⟩⟩
 ·intro hin
  go_wp2_with fail
  go_step3
  rename_i hK
  have hJ:JQ b s p w 1 0 1 (2*(s.size - p)+1) { tmps:=#[aH b,undef,ak 0,ak 6,undef,undef,undef,undef,undef,undef,undef,undef,undef,undef,undef,undef,undef,undef,undef,undef,undef,undef,undef,undef,undef,undef,undef,undef,undef,undef,undef],defers:=[] } w:=⟨6,p,undef,undef,undef,undef,undef,undef,undef,undef,undef,undef,undef,undef,undef,undef,undef,undef,undef,undef,undef,undef,undef,undef,undef,undef,undef,undef,undef,rfl,h,Kp.refl _ _,au,rfl,rfl,.inl ⟨rfl,rfl⟩⟩;have hh:=hin _ _ _ hJ;exact hK _ _ hh
end
end Go.Proofs.YtoohcklcppnafaaGreatDoor
