/- Scopes with several labels;a remark within remarks is gone through. -/
import Derived.Test.YtdkpkpgpphkljaaGreatDoorRb
namespace Go.Proofs.YtdkpkpgpphkljaaGreatDoor
set_option maxHeartbeats 4000000
open Go.RowKit
open M
section
variable{P:Program}{a:Act}{w:World}{Q:Exit→Act→World→Prop}
def kr(J:Nat→Act→World→Prop)(Q:Exit→Act→World→Prop):Exit→Act→World→Prop
 | .goto l,a,w=>J l a w
 | e,a,w=>Q e a w
theorem kL{c:Code}(J:Nat→Nat→Act→World→Prop)
  (first:c.wp P (kr (fun l a w=>∃ n,J l n a w) Q) a w)
  (pass:∀ l n a w,J l n a w→∃ rest,findLabel c l=some rest∧rest.wp P (kr (fun l' a' w'=>∃ n',n'<n∧J l' n' a' w') Q) a w):(Code.scope c).wp P Q a w:=by
 intro b k cs;have key:∀ n l a w,J l n a w→∃ e a' w',Q e a' w'∧∀ rest,findLabel c l=some rest→Arrives P (lone (b.at a (.code rest::.inScope c::k)) cs w) b k cs e a' w':=by
  intro n
  induction n using Nat.strongRecOn with
  | _ n ih =>
   intro l a w hJ;obtain⟨rest,hf,hp⟩:=pass l n a w hJ;obtain⟨e,a₁,w₁,hq,harr⟩:=hp b (.inScope c::k) cs;cases e with
   | normal=>exact⟨.normal,a₁,w₁,hq,fun r hr=>by rw[hf] at hr;cases hr;exact Steps.trans harr (.one step_inScope)⟩
   | exit id=>exact⟨.exit id,a₁,w₁,hq,fun r hr=>by rw[hf] at hr;cases hr;exact fun k' hk=>harr k' (by simp[exitTo,hk])⟩
   | goto l' =>
    obtain⟨n',hlt,hJ'⟩:=hq;obtain⟨e₂,a₂,w₂,hq₂,harr₂⟩:=ih n' hlt l' a₁ w₁ hJ';obtain⟨rest',hf',_⟩:=pass l' n' a₁ w₁ hJ';have hg:gotoIn l' (.inScope c::k)=some (.code rest'::.inScope c::k):=by simp[gotoIn,hf']
    exact⟨e₂,a₂,w₂,hq₂,fun r hr=>by rw[hf] at hr;cases hr;exact .of_steps (harr _ hg) (harr₂ rest' hf')⟩
   | ret=>exact⟨_,a₁,w₁,hq,fun r hr=>by rw[hf] at hr;cases hr;exact harr⟩
   | panic ch=>exact⟨_,a₁,w₁,hq,fun r hr=>by rw[hf] at hr;cases hr;exact harr⟩
   | outgrown=>exact⟨_,a₁,w₁,hq,fun r hr=>by rw[hf] at hr;cases hr;exact harr⟩
 obtain⟨e,a₁,w₁,hq,harr⟩:=first b (.inScope c::k) cs;cases e with
 | normal=>exact⟨.normal,a₁,w₁,hq,.head step_scope (Steps.trans harr (.one step_inScope))⟩
 | exit id=>exact⟨.exit id,a₁,w₁,hq,fun k' hk=>.head step_scope (harr k' (by simp[exitTo,hk]))⟩
 | goto l' =>
  obtain⟨n,hJ'⟩:=hq;obtain⟨rest',hf',_⟩:=pass l' n a₁ w₁ hJ';obtain⟨e₂,a₂,w₂,hq₂,harr₂⟩:=key n l' a₁ w₁ hJ';have hg:gotoIn l' (.inScope c::k)=some (.code rest'::.inScope c::k):=by simp[gotoIn,hf']
  exact⟨e₂,a₂,w₂,hq₂,.of_steps (.head step_scope (harr _ hg)) (harr₂ rest' hf')⟩
 | ret=>exact⟨_,a₁,w₁,hq,.of_steps (.one step_scope) harr⟩
 | panic ch=>exact⟨_,a₁,w₁,hq,.of_steps (.one step_scope) harr⟩
 | outgrown=>exact⟨_,a₁,w₁,hq,.of_steps (.one step_scope) harr⟩
theorem kr.imp{J J':Nat→Act→World→Prop}(h:∀ l a w,J l a w→J' l a w):∀(e:Exit) (a:Act) (w:World),kr J Q e a w→kr J' Q e a w:=fun e a w x=>by
 cases e<;>first|exact h _ _ _ x|exact x
theorem uz{c OB:Code}(J:Nat→Nat→Act→World→Prop)(L:Nat)(hf:findLabel c L=some (Code.seq .skip OB))
  (inside:∀ n a w,J L n a w→OB.wp P (kr (fun l' a' w'=>∃ n',n'<n∧J l' n' a' w') Q) a w)
  (others:∀ l n a w,l≠L→J l n a w→∃ rest,findLabel c l=some rest∧rest.wp P (kr (fun l' a' w'=>∃ n',n'<n∧J l' n' a' w') Q) a w)
  (first:(∀ n a w,J L n a w→OB.wp P (kr (fun l a w=>∃ n,J l n a w) Q) a w)→c.wp P (kr (fun l a w=>∃ n,J l n a w) Q) a w):(Code.scope c).wp P Q a w:=by
 refine kL J (first fun n a w h=>Code.wp_mono (kr.imp fun l a w ⟨n',_,h'⟩=>⟨n',h'⟩) (inside n a w h)) ?_;intro l n a w h;by_cases hl:l=L
 ·subst hl;exact⟨_,hf,wp_seq (wp_skip (inside n a w h))⟩
 ·exact others l n a w hl h
end
section
open Tryz
def JN(b:Nat)(s:ByteArray)(p:Nat)(w:World)(l n:Nat)(a':Act)(w':World):Prop :=
 ∃(d q:Nat) (u4 u5 u6 u7 u8 u9 Da Db Dc Dh Di Dj u16 Dk Ib Ic u20 u21 u22 u23 u24 u25 u26 u27 u28 u29 u30 u31 u32 u33 u34 u35 u36 u37 u38 u39:Value),a'={ tmps:=#[.pointer (some ⟨b,0,none⟩),undef,.int .i64 0,.int .i64 (d:Int),u4,u5,u6,u7,u8,u9,Da,Db,Dc,Dh,Di,Dj,u16,Dk,Ib,Ic,u20,u21,u22,u23,u24,u25,u26,u27,u28,u29,u30,u31,u32,u33,u34,u35,u36,u37,u38,u39],defers:=[] }∧lu w' b s q∧On b w w'∧1≤d∧d≤q+1 ∧
  (nest 1 ((bs s).drop p)).1=(nest d ((bs s).drop q)).1∧p+(nest 1 ((bs s).drop p)).2=q+(nest d ((bs s).drop q)).2 ∧
  ((l=2∧n=2*(s.size - q)+1)∨(l=0∧n=2*(s.size - q)∧cc ((bs s).drop q)=123)∨(l=1∧n=2*(s.size - q)∧cc ((bs s).drop q)=45))
theorem Im(b:Nat)(s:ByteArray)(p:Nat)(w:World)(h:lu w b s p) :
  Calls prog 141 #[.pointer (some ⟨b,0,none⟩)] w fun e w'=>e=.returned (.int .i64 (nest 1 ((bs s).drop p)).1)∧lu w' b s (p+(nest 1 ((bs s).drop p)).2)∧On b w w':=by
 go_enter func141,ntmps141;go_wp2_with fail
 refine uz (JN b s p w) 2 rfl ?_ ?_ ?_
 ·rintro n a' w' ⟨d,q,u4,u5,u6,u7,u8,u9,Da,Db,Dc,Dh,Di,Dj,u16,Dk,Ib,Ic,u20,u21,u22,u23,u24,u25,u26,u27,u28,u29,u30,u31,u32,u33,u34,u35,u36,u37,u38,u39,rfl,hr,hk,hd,hd2,e1,e2,hl⟩
  obtain⟨rfl⟩:n=2*(s.size - q)+1:=by omega
  clear hl;have hs:=hr.big;have hq:=hr.le;obtain⟨⟨c0,c1,c2,c3⟩,f0,f1,f2,f3⟩:=hr.raw.facts;have HH:=au (And.intro hr (And.intro hk (And.intro e1 e2)));clear hr hk e1 e2;by_cases g0:cc ((bs s).drop q)=-1
  ·have HE:Hid ((bs s).drop q=[]):=rP.1 g0
   rw[g0] at c2;clear g0;go_wp2_with fail
   simp only[kr];go_ret;obtain⟨hr,hk,e1,e2⟩:=HH.o;rw[HE.o,zo] at e1 e2;refine⟨uI (a:=8) (by rw[e1];rfl),?_,hk⟩;rw[e2];exact hr
  by_cases g1:cc ((bs s).drop q)=123
  ·have G1:=au g1
   rw[g1] at c2;clear g0 g1;go_wp2_with fail
   go_step3
   obtain⟨hr,hk,e1,e2⟩:=HH.o;exact⟨2*(s.size - q),by omega,d,q,_,_,_,_,_,_,_,_,_,_,_,_,_,_,_,_,_,_,_,_,_,_,_,_,_,_,_,_,_,_,_,_,_,_,_,_,rfl,hr,hk,hd,hd2,e1,e2,.inr (.inl ⟨rfl,rfl,G1.o⟩)⟩
  by_cases g2:cc ((bs s).drop q)=45
  ·have G2:=au g2
   rw[g2] at c2;clear g0 g1 g2;go_wp2_with fail
   go_step3
   obtain⟨hr,hk,e1,e2⟩:=HH.o;exact⟨2*(s.size - q),by omega,d,q,_,_,_,_,_,_,_,_,_,_,_,_,_,_,_,_,_,_,_,_,_,_,_,_,_,_,_,_,_,_,_,_,_,_,_,_,rfl,hr,hk,hd,hd2,e1,e2,.inr (.inr ⟨rfl,rfl,G2.o⟩)⟩
  ·have b0:(cc ((bs s).drop q)==-1)=false:=by simpa using g0
   have b1:(cc ((bs s).drop q)==123)=false:=by simpa using g1
   have b2:(cc ((bs s).drop q)==45)=false:=by simpa using g2
   have HN:=au (Kh (deep:=d) g0 g1 g2);have HP:=au (tO g0);clear g0 g1 g2;go_wp2_with fail
   refine(dJ b s q _ (by exact(HH.o).1)).mono ?_;rintro e w2 ⟨rfl,r2,k2⟩;go_wp2_with fail
   go_step3
   obtain⟨hr,hk,e1,e2⟩:=HH.o;rw[HN.o] at e1 e2;have:=HP.o;have hz:=r2.le;rw[fG] at e1 e2;exact⟨2*(s.size - (q+sz ((bs s).drop q)))+1,by omega,d,_,_,_,_,_,_,_,_,_,_,_,_,_,_,_,_,_,_,_,_,_,_,_,_,_,_,_,_,_,_,_,_,_,_,_,_,_,rfl,r2,hk.to k2,hd,by omega,e1,by rw[e2];simp only;omega,.inl ⟨rfl,rfl⟩⟩
 ·rintro l n a' w' hne ⟨d,q,u4,u5,u6,u7,u8,u9,Da,Db,Dc,Dh,Di,Dj,u16,Dk,Ib,Ic,u20,u21,u22,u23,u24,u25,u26,u27,u28,u29,u30,u31,u32,u33,u34,u35,u36,u37,u38,u39,rfl,hr,hk,hd,hd2,e1,e2,hl⟩
  have hs:=hr.big;have hq:=hr.le;obtain⟨⟨c0,c1,c2,c3⟩,f0,f1,f2,f3⟩:=hr.raw.facts;have HH:=au (And.intro hr (And.intro hk (And.intro e1 e2)));clear hr hk e1 e2;rcases hl with ⟨rfl,_⟩|⟨rfl,rfl,hc⟩|⟨rfl,rfl,hc⟩
  ·exact absurd rfl hne
  ·refine⟨_,rfl,?_⟩
   have z1:sz ((bs s).drop q)=1:=gP (by omega) (by omega);have HP:=au (dJ b s q w' (HH.o).1);have HC:=au hc;have Z1:=au z1;have hq1:q+1≤s.size:=by have:=ja hq;omega
   rw[z1] at HP;clear hc z1 c0 c1 c2 c3 f0 f1 f2 f3;go_wp2_with fail
   refine(HP.o).mono ?_;rintro e w2 ⟨rfl,r2,k2⟩;obtain⟨⟨c0,c1,c2,c3⟩,f0,f1,f2,f3⟩:=r2.raw.facts;have eN:nx ((bs s).drop q)=(bs s).drop (q+1):=by rw[fG,Z1.o]
   have EN:=au eN;have R2:=au (And.intro r2 k2);clear r2 k2 eN;by_cases g:cc ((bs s).drop (q+1))=45
   ·have G:=au g
    have z2:sz ((bs s).drop (q+1))=1:=gP (by omega) (by omega);have sD:=au (dJ b s (q+1) w2 (R2.o).1);have Z2:=au z2;have hq2:q+1+1≤s.size:=by have:=ja hq1;omega
    rw[z2] at sD;rw[g] at c2;clear g z2;go_wp2_with fail
    refine(sD.o).mono ?_;rintro e w3 ⟨rfl,r3,k3⟩;go_wp2_with fail
    go_step3
    obtain⟨hr,hk,e1,e2⟩:=HH.o;have h1:cc (nx ((bs s).drop q))=45:=by rw[EN.o];exact G.o
    have eN2:nx (nx ((bs s).drop q))=(bs s).drop (q+1+1):=by rw[EN.o,fG,Z2.o]
    rw[BI HC.o h1,eN2] at e1 e2;exact⟨2*(s.size - (q+1+1))+1,by omega,d+1,q+1+1,_,_,_,_,_,_,_,_,_,_,_,_,_,_,_,_,_,_,_,_,_,_,_,_,_,_,_,_,_,_,_,_,_,_,_,_,rfl,r3,(hk.to (R2.o).2).to k3,by omega,by omega,e1,by rw[e2];simp only;omega,.inl ⟨rfl,rfl⟩⟩
   ·have G:=au g
    have bg:(cc ((bs s).drop (q+1))==45)=false:=by simpa using g
    clear g;go_wp2_with fail
    go_step3
    obtain⟨hr,hk,e1,e2⟩:=HH.o;have h1:cc (nx ((bs s).drop q))≠45:=by rw[EN.o];exact G.o
    rw[zq HC.o h1,EN.o] at e1 e2;exact⟨2*(s.size - (q+1))+1,by omega,d,q+1,_,_,_,_,_,_,_,_,_,_,_,_,_,_,_,_,_,_,_,_,_,_,_,_,_,_,_,_,_,_,_,_,_,_,_,_,rfl,(R2.o).1,hk.to (R2.o).2,by omega,by omega,e1,by rw[e2];simp only;omega,.inl ⟨rfl,rfl⟩⟩
  ·refine⟨_,rfl,?_⟩
   have z1:sz ((bs s).drop q)=1:=gP (by omega) (by omega);have HP:=au (dJ b s q w' (HH.o).1);have HC:=au hc;have Z1:=au z1;have hq1:q+1≤s.size:=by have:=ja hq;omega
   rw[z1] at HP;clear hc z1 c0 c1 c2 c3 f0 f1 f2 f3;go_wp2_with fail
   refine(HP.o).mono ?_;rintro e w2 ⟨rfl,r2,k2⟩;obtain⟨⟨c0,c1,c2,c3⟩,f0,f1,f2,f3⟩:=r2.raw.facts;have eN:nx ((bs s).drop q)=(bs s).drop (q+1):=by rw[fG,Z1.o]
   have EN:=au eN;have R2:=au (And.intro r2 k2);clear r2 k2 eN;by_cases g:cc ((bs s).drop (q+1))=125
   ·have G:=au g
    have z2:sz ((bs s).drop (q+1))=1:=gP (by omega) (by omega);have sD:=au (dJ b s (q+1) w2 (R2.o).1);have Z2:=au z2;have hq2:q+1+1≤s.size:=by have:=ja hq1;omega
    have h1:cc (nx ((bs s).drop q))=125:=by rw[EN.o];exact g
    have H1:=au h1;rw[z2] at sD;rw[g] at c2;clear g z2 h1;by_cases hd1:d≤1
    ·have hd':¬(0:Int)<(d:Int) - 1:=by omega
     go_wp2_with fail
     refine(sD.o).mono ?_;rintro e w3 ⟨rfl,r3,k3⟩;go_wp2_with fail
     simp only[kr];go_ret;obtain⟨hr,hk,e1,e2⟩:=HH.o;rw[BJ HC.o H1.o hd1] at e1 e2;refine⟨uI (a:=2) (by rw[e1];rfl),?_,(hk.to (R2.o).2).to k3⟩;rw[e2];exact r3
    ·have hd':(0:Int)<(d:Int) - 1:=by omega
     go_wp2_with fail
     refine(sD.o).mono ?_;rintro e w3 ⟨rfl,r3,k3⟩;go_wp2_with fail
     go_step3
     obtain⟨hr,hk,e1,e2⟩:=HH.o;have eN2:nx (nx ((bs s).drop q))=(bs s).drop (q+1+1):=by rw[EN.o,fG,Z2.o]
     rw[BK HC.o H1.o hd1,eN2] at e1 e2;have ed:((d:Int) - 1)=((d - 1:Nat):Int):=by omega
     rw[ed];exact⟨2*(s.size - (q+1+1))+1,by omega,d - 1,q+1+1,_,_,_,_,_,_,_,_,_,_,_,_,_,_,_,_,_,_,_,_,_,_,_,_,_,_,_,_,_,_,_,_,_,_,_,_,rfl,r3,(hk.to (R2.o).2).to k3,by omega,by omega,e1,by rw[e2];simp only;omega,.inl ⟨rfl,rfl⟩⟩
   ·have G:=au g
    have bg:(cc ((bs s).drop (q+1))==125)=false:=by simpa using g
    clear g;go_wp2_with fail
    go_step3
    obtain⟨hr,hk,e1,e2⟩:=HH.o;have h1:cc (nx ((bs s).drop q))≠125:=by rw[EN.o];exact G.o
    rw[BL HC.o h1,EN.o] at e1 e2;exact⟨2*(s.size - (q+1))+1,by omega,d,q+1,_,_,_,_,_,_,_,_,_,_,_,_,_,_,_,_,_,_,_,_,_,_,_,_,_,_,_,_,_,_,_,_,_,_,_,_,rfl,(R2.o).1,hk.to (R2.o).2,by omega,by omega,e1,by rw[e2];simp only;omega,.inl ⟨rfl,rfl⟩⟩
 ·intro hin
  go_wp2_with fail
  go_step3
  rename_i hK
  have hJ:JN b s p w 2 (2*(s.size - p)+1) { tmps:=#[.pointer (some ⟨b,0,none⟩),undef,.int .i64 0,.int .i64 1,undef,undef,undef,undef,undef,undef,undef,undef,undef,undef,undef,undef,undef,undef,undef,undef,undef,undef,undef,undef,undef,undef,undef,undef,undef,undef,undef,undef,undef,undef,undef,undef,undef,undef,undef,undef],defers:=[] } w:=⟨1,p,undef,undef,undef,undef,undef,undef,undef,undef,undef,undef,undef,undef,undef,undef,undef,undef,undef,undef,undef,undef,undef,undef,undef,undef,undef,undef,undef,undef,undef,undef,undef,undef,undef,undef,undef,undef,rfl,h,Kp.refl _ _,aj _,by omega,rfl,rfl,.inl ⟨rfl,rfl⟩⟩;have hh:=hin _ _ _ hJ;exact hK _ _ hh
end
section
open Tryz
variable{k b p:Nat}{C:Int}{s:ByteArray}{w wr:World}
def intOf:Value→Int|.int _ q=>q|_=>0
theorem aC8(hk:k≤5)(hC:C<((16 ^ k:Nat):Int)):C≤1048575:=by
 have h1:16 ^ k≤16 ^ 5:=Nat.pow_le_pow_right (by omega) hk;have h2:(16:Nat) ^ 5=1048576:=by decide
 omega
theorem Xp{h:Int}(hC:C<((16 ^ k:Nat):Int))(hh:h<16):C*16+h<((16 ^ (k+1):Nat):Int):=by
 rw[Nat.pow_succ];omega
theorem Ud(hk:k≤6)(hC:C<((16 ^ k:Nat):Int)):C≤16777215:=by
 have h1:16 ^ k≤16 ^ 6:=Nat.pow_le_pow_right (by omega) hk;have h2:(16:Nat) ^ 6=16777216:=by decide
 omega
structure BM(b:Nat)(s:ByteArray)(p:Nat)(w:World)(k:Nat)(C:Int)(wr:World):Prop where
 iF:lu wr b s (p+k)
 on:On b w wr
 lo:0≤C
 hi:C<((16 ^ k:Nat):Int)
 eq:lF 6 0 ((bs s).drop p)=((lF (6 - k) C ((bs s).drop (p+k))).1,k+(lF (6 - k) C ((bs s).drop (p+k))).2)
theorem BM.stop(h:BM b s p w k C wr)(hk:k≤6)(hx:¬(k<6∧0≤hexOf (cc ((bs s).drop (p+k))))):lF 6 0 ((bs s).drop p)=(C,k):=by
 rw[h.eq];by_cases h6:k<6
 ·obtain⟨m,hm⟩:∃ m,6 - k=m+1:=⟨5 - k,by omega⟩
  rw[hm];unfold lF;rw[aG (fun h=>hx ⟨h6,h⟩)];rfl
 ·have:6 - k=0:=by omega
  rw[this];rfl
theorem BM.next{w2:World}(h:BM b s p w k C wr)(hk:k<6)(hx:0≤hexOf (cc ((bs s).drop (p+k))))(hr:lu w2 b s (p+k+1))(ho:On b wr w2):BM b s p w (k+1) (C*16+hexOf (cc ((bs s).drop (p+k)))) w2:=by
 have hh:=zn (cc ((bs s).drop (p+k)));have h0:=h.lo;refine⟨hr,h.on.to ho,by omega,Xp h.hi hh.2,?_⟩;rw[h.eq];obtain⟨m,hm⟩:∃ m,6 - k=m+1:=⟨5 - k,by omega⟩;have hm2:6 - (k+1)=m:=by omega
 have ha:=su hx;have z1:sz ((bs s).drop (p+k))=1:=gP (by omega) (by omega);rw[hm,hm2,show p+(k+1)=p+k+1 from rfl]
 conv=>lhs;unfold lF
 rw[aL hx,fG,z1];simp only[dG];exact⟨trivial,by omega⟩
theorem AX(b:Nat)(s:ByteArray)(p:Nat)(w:World)(h:lu w b s p) :
  Calls prog 174 #[.pointer (some ⟨b,0,none⟩)] w fun e w'=>e=.returned (.tuple #[.int .i32 (code ((bs s).drop p)).1,.bool (code ((bs s).drop p)).2.1])∧lu w' b s (p+(code ((bs s).drop p)).2.2)∧On b w w':=by
 have hs:=h.big;have hq:=h.le;obtain⟨⟨c0,c1,c2,c3⟩,f0,f1,f2,f3⟩:=h.raw.facts;by_cases g0:cc ((bs s).drop p)=123
 ·have z1:sz ((bs s).drop p)=1:=gP (by omega) (by omega)
  have hq1:p+1≤s.size:=by have:=ja hq;omega
  have HP:=au (dJ b s p w h);have eN:nx ((bs s).drop p)=(bs s).drop (p+1):=by rw[fG,z1]
  have HC:Hid (code ((bs s).drop p)=if (lF 6 0 ((bs s).drop (p+1))).2=0∨cc (((bs s).drop (p+1)).drop (lF 6 0 ((bs s).drop (p+1))).2)≠125 then(0,false,1+(lF 6 0 ((bs s).drop (p+1))).2)
    else((lF 6 0 ((bs s).drop (p+1))).1,Lib.validRune (lF 6 0 ((bs s).drop (p+1))).1,2+(lF 6 0 ((bs s).drop (p+1))).2)):=by
   show _=_;unfold code;rw[aL g0,eN]
  rw[z1] at HP;rw[g0] at c2;clear g0 z1 eN;go_enter func174,ntmps174;go_wp2_with fail
  refine(HP.o).mono ?_;rintro e w1 ⟨rfl,r1,k1⟩;clear c0 c1 c2 c3 f0 f1 f2 f3;go_wp2_with fail
  go_loopw [4,5] (fun c i wr=>∃(k:Nat) (C:Int),k≤6∧i=.int .i64 k∧c=.int .i32 C∧Hid (BM b s (p+1) w1 k C wr)) (fun _ i _=>6 - (intOf i).toNat)
  case atStart=>exact⟨0,0,by omega,rfl,rfl,⟨r1,Kp.refl _ _,by omega,by decide,by simp⟩⟩
  case round =>
   obtain⟨k,C,hk,rfl,rfl,HI⟩:=hrel;obtain⟨⟨c0,c1,c2,c3⟩,f0,f1,f2,f3⟩:=(HI.o).iF.raw.facts;have hhx:=zn (cc ((bs s).drop (p+1+k)));have hlo:=(HI.o).lo;have hhi:=Ud hk (HI.o).hi;by_cases hx:k<6∧0≤hexOf (cc ((bs s).drop (p+1+k)))
   ·have h5:=aC8 (by omega:k≤5) (HI.o).hi
    have HX:=au hx;obtain⟨Xq,hx0⟩:=hx;have z2:sz ((bs s).drop (p+1+k))=1:=by have:=su hx0;exact gP (by omega) (by omega)
    have sD:=au (dJ b s (p+1+k) _ (HI.o).iF);rw[z2] at sD;clear z2;have bV2:(k:Int)<6:=by omega
    go_wp2_with (first|(go_at_call 189;refine(qB _ _).mono ?_;rintro e w' ⟨rfl,rfl⟩)|(go_at_call 73;refine(sD.o).mono ?_;rintro e w2 ⟨rfl,r2,k2⟩))
    go_roundw
    case rel=>exact⟨k+1,_,by omega,by go_num,rfl,(HI.o).next Xq (HX.o).2 r2 k2⟩
    case measure=>simp[intOf];omega
   ·have HS:=au ((HI.o).stop hk hx)
    have hc2:cc (((bs s).drop (p+1)).drop k)=cc ((bs s).drop (p+1+k)):=by rw[dB]
    have hvr:Hid (code ((bs s).drop p)=if k=0∨cc ((bs s).drop (p+1+k))≠125 then(0,false,1+k) else(C,Lib.validRune C,2+k)):=by
     show _=_;rw[HC.o,HS.o];simp only;rw[hc2]
    clear hc2;have HX:=au hx;by_cases hk0:k=0
    ·subst hk0
     have hx':¬ 0≤hexOf (cc ((bs s).drop (p+1+0))):=fun h=>hx ⟨by omega,h⟩
     clear hx;have hx2:decide (0≤hexOf (cc ((bs s).drop (p+1+0))))=false:=by simpa using hx'
     clear hx';go_wp2_with (first|(go_at_call 189;refine(qB _ _).mono ?_;rintro e w' ⟨rfl,rfl⟩))
     go_ret2;rw[hvr.o,aL (by simp)];exact⟨rfl,(HI.o).iF,k1.to (HI.o).on⟩
    have hkb:((k:Int)==0)=false:=by simpa using hk0
    by_cases Io:cc ((bs s).drop (p+1+k))=125
    ·have HN:Hid (¬(k=0∨cc ((bs s).drop (p+1+k))≠125)):=by show ¬ _;simp[hk0,Io]
     have z2:sz ((bs s).drop (p+1+k))=1:=gP (by omega) (by omega);have sD:=au (dJ b s (p+1+k) _ (HI.o).iF);have hx5:hexOf (cc ((bs s).drop (p+1+k)))=-1:=by rw[Io];decide
     rw[Io] at c2 hx5;rw[z2] at sD;clear z2 hx hk0 Io hhx;by_cases Xq:k<6
     all_goals
      go_wp2_with (first|(go_at_call 189;refine(qB _ _).mono ?_;rintro e w' ⟨rfl,rfl⟩)|(go_at_call 73;refine(sD.o).mono ?_;rintro e w2 ⟨rfl,r2,k2⟩)|(go_at_call 180;refine(utf8_ValidRune _ _).mono ?_;rintro e w' ⟨rfl,rfl⟩))
      go_ret2;rw[hvr.o,aG HN.o];refine⟨rfl,?_,(k1.to (HI.o).on).to k2⟩;rw[show p+(2+k)=p+1+k+1 by omega];exact r2
    ·have HN:Hid (k=0∨cc ((bs s).drop (p+1+k))≠125):=.inr Io
     have h1b:(cc ((bs s).drop (p+1+k))==125)=false:=by simpa using Io
     clear hk0 Io;by_cases Xq:k<6
     ·have hx':¬ 0≤hexOf (cc ((bs s).drop (p+1+k))):=fun h=>hx ⟨Xq,h⟩
      have hx2:decide (0≤hexOf (cc ((bs s).drop (p+1+k))))=false:=by simpa using hx'
      clear hx hx';go_wp2_with (first|(go_at_call 189;refine(qB _ _).mono ?_;rintro e w' ⟨rfl,rfl⟩))
      go_ret2;rw[hvr.o,aL HN.o];refine⟨rfl,?_,k1.to (HI.o).on⟩;rw[show p+(1+k)=p+1+k by omega];exact(HI.o).iF
     ·clear hx
      go_wp2_with (first|(go_at_call 189;refine(qB _ _).mono ?_;rintro e w' ⟨rfl,rfl⟩))
      go_ret2;rw[hvr.o,aL HN.o];refine⟨rfl,?_,k1.to (HI.o).on⟩;rw[show p+(1+k)=p+1+k by omega];exact(HI.o).iF
 ·have b0:(cc ((bs s).drop p)==123)=false:=by simpa using g0
  have HC:Hid (code ((bs s).drop p)=(0,false,0)):=by show _=_;unfold code;rw[aG g0]
  clear g0;go_enter func174,ntmps174;go_wp2_with fail
  go_ret2;rw[HC.o];exact⟨rfl,h,Kp.refl _ _⟩
theorem wS(b:Nat)(s:ByteArray)(p:Nat)(w:World)(h:lu w b s p) :
  Calls prog 155 #[.pointer (some ⟨b,0,none⟩)] w fun e w'=>e=.returned (.tuple #[.int .i32 (taken ((bs s).drop p)).1,.bool (taken ((bs s).drop p)).2.1])∧lu w' b s (p+(taken ((bs s).drop p)).2.2)∧On b w w':=by
 have hs:=h.big;have hq:=h.le;obtain⟨⟨c0,c1,c2,c3⟩,f0,f1,f2,f3⟩:=h.raw.facts;by_cases gm:cc ((bs s).drop p)=-1
 ·have HT:Hid (taken ((bs s).drop p)=(0,false,0)):=by show _=_;unfold taken;rw[aL (by simp[gm])]
  rw[gm] at c2;go_enter func155,ntmps155;go_wp2_with fail
  go_ret2;rw[HT.o];exact⟨rfl,h,Kp.refl _ _⟩
 by_cases g10:cc ((bs s).drop p)=10
 ·have HT:Hid (taken ((bs s).drop p)=(0,false,0)):=by show _=_;unfold taken;rw[aL (by simp[g10])]
  rw[g10] at c2;go_enter func155,ntmps155;go_wp2_with fail
  go_ret2;rw[HT.o];exact⟨rfl,h,Kp.refl _ _⟩
 have HP:=au (dJ b s p w h);by_cases Dl:cc ((bs s).drop p)=110
 ·have HT:Hid (taken ((bs s).drop p)=(10,true,1)):=by show _=_;unfold taken;rw[aG (by omega),aL Dl]
  have z1:sz ((bs s).drop p)=1:=gP (by omega) (by omega);rw[z1] at HP;rw[Dl] at c2;clear z1;go_enter func155,ntmps155;go_wp2_with ((go_at_call 73;refine(HP.o).mono ?_;rintro e w1 ⟨rfl,r1,k1⟩))
  go_ret2;rw[HT.o];exact⟨rfl,r1,k1⟩
 by_cases ES:cc ((bs s).drop p)=116
 ·have HT:Hid (taken ((bs s).drop p)=(9,true,1)):=by show _=_;unfold taken;rw[aG (by omega),aG Dl,aL ES]
  have z1:sz ((bs s).drop p)=1:=gP (by omega) (by omega);rw[z1] at HP;rw[ES] at c2;clear z1;go_enter func155,ntmps155;go_wp2_with ((go_at_call 73;refine(HP.o).mono ?_;rintro e w1 ⟨rfl,r1,k1⟩))
  go_ret2;rw[HT.o];exact⟨rfl,r1,k1⟩
 by_cases Kk:cc ((bs s).drop p)=34
 ·have HT:Hid (taken ((bs s).drop p)=(34,true,1)):=by show _=_;unfold taken;rw[aG (by omega),aG Dl,aG ES,aL (.inl Kk),Kk]
  have z1:sz ((bs s).drop p)=1:=gP (by omega) (by omega);rw[z1] at HP;rw[Kk] at c2;clear z1;go_enter func155,ntmps155;go_wp2_with ((go_at_call 73;refine(HP.o).mono ?_;rintro e w1 ⟨rfl,r1,k1⟩))
  go_ret2;rw[HT.o];exact⟨rfl,r1,k1⟩
 by_cases LP:cc ((bs s).drop p)=92
 ·have HT:Hid (taken ((bs s).drop p)=(92,true,1)):=by show _=_;unfold taken;rw[aG (by omega),aG Dl,aG ES,aL (.inr LP),LP]
  have z1:sz ((bs s).drop p)=1:=gP (by omega) (by omega);rw[z1] at HP;rw[LP] at c2;clear z1;go_enter func155,ntmps155;go_wp2_with ((go_at_call 73;refine(HP.o).mono ?_;rintro e w1 ⟨rfl,r1,k1⟩))
  go_ret2;rw[HT.o];exact⟨rfl,r1,k1⟩
 by_cases OC:cc ((bs s).drop p)=117
 ·have z1:sz ((bs s).drop p)=1:=gP (by omega) (by omega)
  have HT:Hid (taken ((bs s).drop p)=((code ((bs s).drop (p+1))).1,(code ((bs s).drop (p+1))).2.1,1+(code ((bs s).drop (p+1))).2.2)):=by
   show _=_;unfold taken;rw[aG (by omega),aG Dl,aG ES,aG (by omega),aL OC,fG,z1]
  rw[z1] at HP;rw[OC] at c2;clear z1;go_enter func155,ntmps155;go_wp2_with (first|(go_at_call 73;refine(HP.o).mono ?_;rintro e w1 ⟨rfl,r1,k1⟩)|(go_at_call 174;refine(AX b s (p+1) _ r1).mono ?_;rintro e w2 ⟨rfl,r2,k2⟩))
  go_ret2;rw[HT.o];refine⟨rfl,?_,k1.to k2⟩;rw[show p+(1+(code ((bs s).drop (p+1))).2.2)=p+1+(code ((bs s).drop (p+1))).2.2 by omega];exact r2
 ·have HT:Hid (taken ((bs s).drop p)=(0,false,sz ((bs s).drop p))):=by
   show _=_;unfold taken;rw[aG (by omega),aG Dl,aG ES,aG (by omega),aG OC]
  have bm:(cc ((bs s).drop p)==-1)=false:=by simpa using gm
  have b10:(cc ((bs s).drop p)==10)=false:=by simpa using g10
  have b110:(cc ((bs s).drop p)==110)=false:=by simpa using Dl
  have bV3:(cc ((bs s).drop p)==116)=false:=by simpa using ES
  have b34:(cc ((bs s).drop p)==34)=false:=by simpa using Kk
  have b92:(cc ((bs s).drop p)==92)=false:=by simpa using LP
  have bV4:(cc ((bs s).drop p)==117)=false:=by simpa using OC
  clear gm g10 Dl ES Kk LP OC;go_enter func155,ntmps155;go_wp2_with ((go_at_call 73;refine(HP.o).mono ?_;rintro e w1 ⟨rfl,r1,k1⟩))
  go_ret2;rw[HT.o];exact⟨rfl,r1,k1⟩
def JQ(b:Nat)(s:ByteArray)(p:Nat)(w:World)(L0 L1:Nat)(l n:Nat)(a':Act)(w':World):Prop :=
 ∃(d q:Nat) (u4 u5 u6 u7 u8 u9 Da Db Dc Dh Di Dj u16 Dk Ib Ic u20 u21 u22 u23 u24 u25 u26 u27 u28 u29 u30:Value),a'={ tmps:=#[.pointer (some ⟨b,0,none⟩),undef,.int .i64 0,.int .i64 (d:Int),u4,u5,u6,u7,u8,u9,Da,Db,Dc,Dh,Di,Dj,u16,Dk,Ib,Ic,u20,u21,u22,u23,u24,u25,u26,u27,u28,u29,u30],defers:=[] }∧lu w' b s q∧On b w w'∧d≤8 ∧
  (quo 6 ((bs s).drop p)).1=(quo d ((bs s).drop q)).1∧p+(quo 6 ((bs s).drop p)).2=q+(quo d ((bs s).drop q)).2 ∧
  ((l=L0∧n=2*(s.size - q)+1)∨(l=L1∧n=2*(s.size - q)∧cc ((bs s).drop q)=92))
theorem Ip(b:Nat)(s:ByteArray)(p:Nat)(w:World)(h:lu w b s p) :
  Calls prog 140 #[.pointer (some ⟨b,0,none⟩)] w fun e w'=>e=.returned (.int .i64 (quo 6 ((bs s).drop p)).1)∧lu w' b s (p+(quo 6 ((bs s).drop p)).2)∧On b w w':=by
 go_enter func140,ntmps140;go_wp2_with fail
 refine uz (JQ b s p w 1 0) 1 rfl ?_ ?_ ?_
 ·rintro n a' w' ⟨d,q,u4,u5,u6,u7,u8,u9,Da,Db,Dc,Dh,Di,Dj,u16,Dk,Ib,Ic,u20,u21,u22,u23,u24,u25,u26,u27,u28,u29,u30,rfl,hr,hk,hd,e1,e2,hl⟩
  obtain⟨rfl⟩:n=2*(s.size - q)+1:=by omega
  clear hl;have hs:=hr.big;have hq:=hr.le;obtain⟨⟨c0,c1,c2,c3⟩,f0,f1,f2,f3⟩:=hr.raw.facts;have HH:=au (And.intro hr (And.intro hk (And.intro e1 e2)));clear hr hk e1 e2;by_cases g0:cc ((bs s).drop q)=-1
  ·have HE:=au (uX (kind:=d) (.inl g0))
   rw[g0] at c2;clear g0;go_wp2_with fail
   simp only[kr];go_ret;obtain⟨hr,hk,e1,e2⟩:=HH.o;rw[HE.o] at e1 e2;refine⟨uI (a:=8) (by rw[e1];rfl),?_,hk⟩;rw[e2];exact hr
  by_cases g1:cc ((bs s).drop q)=10
  ·have HE:=au (uX (kind:=d) (.inr g1))
   rw[g1] at c2;clear g0 g1;go_wp2_with fail
   simp only[kr];go_ret;obtain⟨hr,hk,e1,e2⟩:=HH.o;rw[HE.o] at e1 e2;refine⟨uI (a:=8) (by rw[e1];rfl),?_,hk⟩;rw[e2];exact hr
  have HP:=au (dJ b s q w' (HH.o).1);by_cases g2:cc ((bs s).drop q)=34
  ·have HE:=au (ER (kind:=d) g2)
   have z1:sz ((bs s).drop q)=1:=gP (by omega) (by omega);rw[z1] at HP;rw[g2] at c2;clear g0 g1 g2 z1;go_wp2_with ((go_at_call 73;refine(HP.o).mono ?_;rintro e w1 ⟨rfl,r1,k1⟩))
   simp only[kr];go_ret;obtain⟨hr,hk,e1,e2⟩:=HH.o;rw[HE.o] at e1 e2;refine⟨uI (a:=(d:Int)) (by rw[e1]),?_,hk.to k1⟩;rw[e2];exact r1
  by_cases g3:cc ((bs s).drop q)=92
  ·have G3:=au g3
   rw[g3] at c2;clear g0 g1 g2 g3;go_wp2_with fail
   go_step3
   obtain⟨hr,hk,e1,e2⟩:=HH.o;exact⟨2*(s.size - q),by omega,d,q,_,_,_,_,_,_,_,_,_,_,_,_,_,_,_,_,_,_,_,_,_,_,_,_,_,_,_,rfl,hr,hk,hd,e1,e2,.inr ⟨rfl,rfl,G3.o⟩⟩
  ·have b0:(cc ((bs s).drop q)==-1)=false:=by simpa using g0
   have b1:(cc ((bs s).drop q)==10)=false:=by simpa using g1
   have b2:(cc ((bs s).drop q)==34)=false:=by simpa using g2
   have b3:(cc ((bs s).drop q)==92)=false:=by simpa using g3
   have HN:=au (Ow (kind:=d) g0 g1 g2 g3);have HZ:=au (tO g0);clear g0 g1 g2 g3;go_wp2_with ((go_at_call 73;refine(HP.o).mono ?_;rintro e w1 ⟨rfl,r1,k1⟩))
   go_step3
   obtain⟨hr,hk,e1,e2⟩:=HH.o;rw[HN.o] at e1 e2;have:=HZ.o;have hz:=r1.le;rw[fG] at e1 e2;exact⟨2*(s.size - (q+sz ((bs s).drop q)))+1,by omega,d,_,_,_,_,_,_,_,_,_,_,_,_,_,_,_,_,_,_,_,_,_,_,_,_,_,_,_,_,rfl,r1,hk.to k1,hd,e1,by rw[e2];simp only;omega,.inl ⟨rfl,rfl⟩⟩
 ·rintro l n a' w' hne ⟨d,q,u4,u5,u6,u7,u8,u9,Da,Db,Dc,Dh,Di,Dj,u16,Dk,Ib,Ic,u20,u21,u22,u23,u24,u25,u26,u27,u28,u29,u30,rfl,hr,hk,hd,e1,e2,hl⟩
  have hs:=hr.big;have hq:=hr.le;have HH:=au (And.intro hr (And.intro hk (And.intro e1 e2)));clear hr hk e1 e2;rcases hl with ⟨rfl,_⟩|⟨rfl,rfl,hc⟩
  ·exact absurd rfl hne
  ·refine⟨_,rfl,?_⟩
   have z1:sz ((bs s).drop q)=1:=gP (by omega) (by omega);have HP:=au (dJ b s q w' (HH.o).1);have hq1:q+1≤s.size:=by have:=ja hq;omega
   have HN:=au (BH (kind:=d) hc);rw[z1] at HP;rw[fG,z1,dB] at HN;clear hc z1;cases hok:(taken ((bs s).drop (q+1))).2.1
   ·have HO:=au hok
    go_wp2_with (first|(go_at_call 73;refine(HP.o).mono ?_;rintro e w1 ⟨rfl,r1,k1⟩)|(go_at_call 155;refine(wS b s (q+1) _ r1).mono ?_;rintro e w2 ⟨rfl,r2,k2⟩))
    go_step3
    obtain⟨hr,hk,e1,e2⟩:=HH.o;rw[HN.o,HO.o] at e1 e2;have hz:=r2.le;exact⟨2*(s.size - (q+1+(taken ((bs s).drop (q+1))).2.2))+1,by omega,8,q+1+(taken ((bs s).drop (q+1))).2.2,_,_,_,_,_,_,_,_,_,_,_,_,_,_,_,_,_,_,_,_,_,_,_,_,_,_,_,rfl,r2,(hk.to k1).to k2,by omega,e1,by rw[e2];simp only[eO,nR];omega,.inl ⟨rfl,rfl⟩⟩
   ·have HO:=au hok
    go_wp2_with (first|(go_at_call 73;refine(HP.o).mono ?_;rintro e w1 ⟨rfl,r1,k1⟩)|(go_at_call 155;refine(wS b s (q+1) _ r1).mono ?_;rintro e w2 ⟨rfl,r2,k2⟩))
    go_step3
    obtain⟨hr,hk,e1,e2⟩:=HH.o;rw[HN.o,HO.o] at e1 e2;have hz:=r2.le;exact⟨2*(s.size - (q+1+(taken ((bs s).drop (q+1))).2.2))+1,by omega,d,q+1+(taken ((bs s).drop (q+1))).2.2,_,_,_,_,_,_,_,_,_,_,_,_,_,_,_,_,_,_,_,_,_,_,_,_,_,_,_,rfl,r2,(hk.to k1).to k2,hd,e1,by rw[e2];simp only[sj];omega,.inl ⟨rfl,rfl⟩⟩
 ·intro hin
  go_wp2_with fail
  go_step3
  rename_i hK
  have hJ:JQ b s p w 1 0 1 (2*(s.size - p)+1) { tmps:=#[.pointer (some ⟨b,0,none⟩),undef,.int .i64 0,.int .i64 6,undef,undef,undef,undef,undef,undef,undef,undef,undef,undef,undef,undef,undef,undef,undef,undef,undef,undef,undef,undef,undef,undef,undef,undef,undef,undef,undef],defers:=[] } w:=⟨6,p,undef,undef,undef,undef,undef,undef,undef,undef,undef,undef,undef,undef,undef,undef,undef,undef,undef,undef,undef,undef,undef,undef,undef,undef,undef,undef,undef,rfl,h,Kp.refl _ _,by omega,rfl,rfl,.inl ⟨rfl,rfl⟩⟩;have hh:=hin _ _ _ hJ;exact hK _ _ hh
end
end Go.Proofs.YtdkpkpgpphkljaaGreatDoor
