/- Scopes with several labels;a remark within remarks is gone through. -/
import Derived.Test.YtbmebfgapjhchaaGreatDoorRb
import Derived.WalkMore
import Derived.ScopeJumps
namespace Go.Proofs.YtbmebfgapjhchaaGreatDoor
open Go.RowKit
open M
def Jumps (J:Nat→Act→World→Prop) (Q:Exit→Act→World→Prop):Exit→Act→World→Prop
 | .goto l,a,w=>J l a w
 | e,a,w=>Q e a w
theorem wp_scope_many {P:Program} {a:Act} {w:World} {Q:Exit→Act→World→Prop} {c:Code} (J:Nat→Nat→Act→World→Prop)
  (first:c.wp P (Jumps (fun l a w=>∃ n,J l n a w) Q) a w)
  (pass:∀ l n a w,J l n a w→∃ rest,findLabel c l=some rest∧rest.wp P (Jumps (fun l' a' w'=>∃ n',n'<n∧J l' n' a' w') Q) a w):(Code.scope c).wp P Q a w:=by
 intro b k cs
 have key:∀ n l a w,J l n a w→∃ e a' w',Q e a' w'∧∀ rest,findLabel c l=some rest→Arrives P (lone (b.at a (.code rest::.inScope c::k)) cs w) b k cs e a' w':=by
  intro n
  induction n using Nat.strongRecOn with
  | _ n ih =>
   intro l a w hJ
   obtain ⟨rest,hf,hp⟩:=pass l n a w hJ
   obtain ⟨e,a₁,w₁,hq,harr⟩:=hp b (.inScope c::k) cs
   cases e with
   | normal=>exact ⟨.normal,a₁,w₁,hq,fun r hr=>by rw [hf] at hr;cases hr;exact Steps.trans harr (.one step_inScope)⟩
   | exit id=>exact ⟨.exit id,a₁,w₁,hq,fun r hr=>by rw [hf] at hr;cases hr;exact fun k' hk=>harr k' (by simp [exitTo,hk])⟩
   | goto l' =>
    obtain ⟨n',hlt,hJ'⟩:=hq
    obtain ⟨e₂,a₂,w₂,hq₂,harr₂⟩:=ih n' hlt l' a₁ w₁ hJ'
    obtain ⟨rest',hf',_⟩:=pass l' n' a₁ w₁ hJ'
    have hg:gotoIn l' (.inScope c::k)=some (.code rest'::.inScope c::k):=by simp [gotoIn,hf']
    exact ⟨e₂,a₂,w₂,hq₂,fun r hr=>by rw [hf] at hr;cases hr;exact .of_steps (harr _ hg) (harr₂ rest' hf')⟩
   | ret=>exact ⟨_,a₁,w₁,hq,fun r hr=>by rw [hf] at hr;cases hr;exact harr⟩
   | panic ch=>exact ⟨_,a₁,w₁,hq,fun r hr=>by rw [hf] at hr;cases hr;exact harr⟩
   | outgrown=>exact ⟨_,a₁,w₁,hq,fun r hr=>by rw [hf] at hr;cases hr;exact harr⟩
 obtain ⟨e,a₁,w₁,hq,harr⟩:=first b (.inScope c::k) cs
 cases e with
 | normal=>exact ⟨.normal,a₁,w₁,hq,.head step_scope (Steps.trans harr (.one step_inScope))⟩
 | exit id=>exact ⟨.exit id,a₁,w₁,hq,fun k' hk=>.head step_scope (harr k' (by simp [exitTo,hk]))⟩
 | goto l' =>
  obtain ⟨n,hJ'⟩:=hq
  obtain ⟨rest',hf',_⟩:=pass l' n a₁ w₁ hJ'
  obtain ⟨e₂,a₂,w₂,hq₂,harr₂⟩:=key n l' a₁ w₁ hJ'
  have hg:gotoIn l' (.inScope c::k)=some (.code rest'::.inScope c::k):=by simp [gotoIn,hf']
  exact ⟨e₂,a₂,w₂,hq₂,.of_steps (.head step_scope (harr _ hg)) (harr₂ rest' hf')⟩
 | ret=>exact ⟨_,a₁,w₁,hq,.of_steps (.one step_scope) harr⟩
 | panic ch=>exact ⟨_,a₁,w₁,hq,.of_steps (.one step_scope) harr⟩
 | outgrown=>exact ⟨_,a₁,w₁,hq,.of_steps (.one step_scope) harr⟩
theorem Jumps.imp {J J':Nat→Act→World→Prop} {Q:Exit→Act→World→Prop} (h:∀ l a w,J l a w→J' l a w):∀ (e:Exit) (a:Act) (w:World),Jumps J Q e a w→Jumps J' Q e a w:=fun e a w x=>by
 cases e<;>first|exact h _ _ _ x|exact x
theorem wp_scope_from {P:Program} {a:Act} {w:World} {Q:Exit→Act→World→Prop} {c rest0:Code} (J:Nat→Nat→Act→World→Prop) (L:Nat) (hf:findLabel c L=some (Code.seq .skip rest0))
  (inside:∀ n a w,J L n a w→rest0.wp P (Jumps (fun l' a' w'=>∃ n',n'<n∧J l' n' a' w') Q) a w)
  (others:∀ l n a w,l≠L→J l n a w→∃ rest,findLabel c l=some rest∧rest.wp P (Jumps (fun l' a' w'=>∃ n',n'<n∧J l' n' a' w') Q) a w)
  (first:(∀ n a w,J L n a w→rest0.wp P (Jumps (fun l a w=>∃ n,J l n a w) Q) a w)→c.wp P (Jumps (fun l a w=>∃ n,J l n a w) Q) a w):(Code.scope c).wp P Q a w:=by
 refine wp_scope_many J (first fun n a w h=>Code.wp_mono (Jumps.imp fun l a w ⟨n',_,h'⟩=>⟨n',h'⟩) (inside n a w h)) ?_
 intro l n a w h
 by_cases hl:l=L
 ·subst hl;exact ⟨_,hf,wp_seq (wp_skip (inside n a w h))⟩
 ·exact others l n a w hl h
end Go.Proofs.YtbmebfgapjhchaaGreatDoor
/- Remarks within remarks. -/
namespace Go.Proofs.YtbmebfgapjhchaaGreatDoor
open Go.RowKit
open M
def JN (b:Nat) (s:ByteArray) (p:Nat) (w:World) (l n:Nat) (a':Act) (w':World):Prop :=
 ∃ (d q:Nat) (u4 u5 u6 u7 u8 u9 u10 u11 u12 u13 u14 u15 u16 u17 u18 u19 u20 u21 u22 u23 u24 u25 u26 u27 u28 u29 u30 u31 u32 u33 u34 u35 u36 u37 u38 u39:Value),a'={ tmps:=#[.pointer (some ⟨b,0,none⟩),undef,.int .i64 0,.int .i64 (d:Int),u4,u5,u6,u7,u8,u9,u10,u11,u12,u13,u14,u15,u16,u17,u18,u19,u20,u21,u22,u23,u24,u25,u26,u27,u28,u29,u30,u31,u32,u33,u34,u35,u36,u37,u38,u39],defers:=[] }∧Rdr w' b s q∧On b w w'∧1≤d∧d≤q+1 ∧
  (nest 1 ((bs s).drop p)).1=(nest d ((bs s).drop q)).1∧p+(nest 1 ((bs s).drop p)).2=q+(nest d ((bs s).drop q)).2 ∧
  ((l=2∧n=2*(s.size - q)+1)∨(l=0∧n=2*(s.size - q)∧cc ((bs s).drop q)=123)∨(l=1∧n=2*(s.size - q)∧cc ((bs s).drop q)=45))
set_option maxHeartbeats 4000000 in
theorem nested_any (b:Nat) (s:ByteArray) (p:Nat) (w:World) (h:Rdr w b s p) :
  Calls Tryz.prog 111 #[.pointer (some ⟨b,0,none⟩)] w fun e w'=>e=.returned (.int .i64 (nest 1 ((bs s).drop p)).1)∧Rdr w' b s (p+(nest 1 ((bs s).drop p)).2)∧On b w w':=by
 go_enter Tryz.func111,Tryz.ntmps111
 go_wp2_with fail
 refine wp_scope_from (JN b s p w) 2 rfl ?_ ?_ ?_
 ·rintro n a' w' ⟨d,q,u4,u5,u6,u7,u8,u9,u10,u11,u12,u13,u14,u15,u16,u17,u18,u19,u20,u21,u22,u23,u24,u25,u26,u27,u28,u29,u30,u31,u32,u33,u34,u35,u36,u37,u38,u39,rfl,hr,hk,hd,hd2,e1,e2,hl⟩
  obtain ⟨rfl⟩:n=2*(s.size - q)+1:=by omega
  clear hl
  have hs:=hr.big
  have hq:=hr.le
  obtain ⟨⟨c0,c1,c2,c3⟩,f0,f1,f2,f3⟩:=hr.raw.facts
  have HH:=hide (And.intro hr (And.intro hk (And.intro e1 e2)))
  clear hr hk e1 e2
  by_cases g0:cc ((bs s).drop q)=-1
  ·have HE:Hid ((bs s).drop q=[]):=cc_ne.1 g0
   rw [g0] at c2
   clear g0
   go_wp2_with fail
   simp only [Jumps]
   go_ret
   obtain ⟨hr,hk,e1,e2⟩:=HH.out
   rw [HE.out,nest_end] at e1 e2
   refine ⟨reti (a:=8) (by rw [e1];rfl),?_,hk⟩
   rw [e2];exact hr
  by_cases g1:cc ((bs s).drop q)=123
  ·have G1:=hide g1
   rw [g1] at c2
   clear g0 g1
   go_wp2_with fail
   go_step3
   obtain ⟨hr,hk,e1,e2⟩:=HH.out
   exact ⟨2*(s.size - q),by omega,d,q,_,_,_,_,_,_,_,_,_,_,_,_,_,_,_,_,_,_,_,_,_,_,_,_,_,_,_,_,_,_,_,_,_,_,_,_,rfl,hr,hk,hd,hd2,e1,e2,.inr (.inl ⟨rfl,rfl,G1.out⟩)⟩
  by_cases g2:cc ((bs s).drop q)=45
  ·have G2:=hide g2
   rw [g2] at c2
   clear g0 g1 g2
   go_wp2_with fail
   go_step3
   obtain ⟨hr,hk,e1,e2⟩:=HH.out
   exact ⟨2*(s.size - q),by omega,d,q,_,_,_,_,_,_,_,_,_,_,_,_,_,_,_,_,_,_,_,_,_,_,_,_,_,_,_,_,_,_,_,_,_,_,_,_,rfl,hr,hk,hd,hd2,e1,e2,.inr (.inr ⟨rfl,rfl,G2.out⟩)⟩
  ·have b0:(cc ((bs s).drop q)==-1)=false:=by simpa using g0
   have b1:(cc ((bs s).drop q)==123)=false:=by simpa using g1
   have b2:(cc ((bs s).drop q)==45)=false:=by simpa using g2
   have HN:=hide (nest_on (deep:=d) g0 g1 g2)
   have HP:=hide (sz_pos_cc g0)
   clear g0 g1 g2
   go_wp2_with fail
   refine (pass_any b s q _ (by exact (HH.out).1)).mono ?_
   rintro e w2 ⟨rfl,r2,k2⟩
   go_wp2_with fail
   go_step3
   obtain ⟨hr,hk,e1,e2⟩:=HH.out
   rw [HN.out] at e1 e2
   have:=HP.out
   have hz:=r2.le
   rw [nx_drop] at e1 e2
   exact ⟨2*(s.size - (q+sz ((bs s).drop q)))+1,by omega,d,_,_,_,_,_,_,_,_,_,_,_,_,_,_,_,_,_,_,_,_,_,_,_,_,_,_,_,_,_,_,_,_,_,_,_,_,_,rfl,r2,hk.to k2,hd,by omega,e1,by rw [e2];simp only;omega,.inl ⟨rfl,rfl⟩⟩
 ·rintro l n a' w' hne ⟨d,q,u4,u5,u6,u7,u8,u9,u10,u11,u12,u13,u14,u15,u16,u17,u18,u19,u20,u21,u22,u23,u24,u25,u26,u27,u28,u29,u30,u31,u32,u33,u34,u35,u36,u37,u38,u39,rfl,hr,hk,hd,hd2,e1,e2,hl⟩
  have hs:=hr.big
  have hq:=hr.le
  obtain ⟨⟨c0,c1,c2,c3⟩,f0,f1,f2,f3⟩:=hr.raw.facts
  have HH:=hide (And.intro hr (And.intro hk (And.intro e1 e2)))
  clear hr hk e1 e2
  rcases hl with ⟨rfl,_⟩|⟨rfl,rfl,hc⟩|⟨rfl,rfl,hc⟩
  ·exact absurd rfl hne
  ·refine ⟨_,rfl,?_⟩
   have z1:sz ((bs s).drop q)=1:=sz_cc (by omega) (by omega)
   have HP:=hide (pass_any b s q w' (HH.out).1)
   have HC:=hide hc
   have Z1:=hide z1
   have hq1:q+1≤s.size:=by have:=sz_drop_le hq;omega
   rw [z1] at HP
   clear hc z1 c0 c1 c2 c3 f0 f1 f2 f3
   go_wp2_with fail
   refine (HP.out).mono ?_
   rintro e w2 ⟨rfl,r2,k2⟩
   obtain ⟨⟨c0,c1,c2,c3⟩,f0,f1,f2,f3⟩:=r2.raw.facts
   have eN:nx ((bs s).drop q)=(bs s).drop (q+1):=by rw [nx_drop,Z1.out]
   have EN:=hide eN
   have R2:=hide (And.intro r2 k2)
   clear r2 k2 eN
   by_cases g:cc ((bs s).drop (q+1))=45
   ·have G:=hide g
    have z2:sz ((bs s).drop (q+1))=1:=sz_cc (by omega) (by omega)
    have HP2:=hide (pass_any b s (q+1) w2 (R2.out).1)
    have Z2:=hide z2
    have hq2:q+1+1≤s.size:=by have:=sz_drop_le hq1;omega
    rw [z2] at HP2
    rw [g] at c2
    clear g z2
    go_wp2_with fail
    refine (HP2.out).mono ?_
    rintro e w3 ⟨rfl,r3,k3⟩
    go_wp2_with fail
    go_step3
    obtain ⟨hr,hk,e1,e2⟩:=HH.out
    have h1:cc (nx ((bs s).drop q))=45:=by rw [EN.out];exact G.out
    have eN2:nx (nx ((bs s).drop q))=(bs s).drop (q+1+1):=by rw [EN.out,nx_drop,Z2.out]
    rw [nest_open HC.out h1,eN2] at e1 e2
    exact ⟨2*(s.size - (q+1+1))+1,by omega,d+1,q+1+1,_,_,_,_,_,_,_,_,_,_,_,_,_,_,_,_,_,_,_,_,_,_,_,_,_,_,_,_,_,_,_,_,_,_,_,_,rfl,r3,(hk.to (R2.out).2).to k3,by omega,by omega,e1,by rw [e2];simp only;omega,.inl ⟨rfl,rfl⟩⟩
   ·have G:=hide g
    have bg:(cc ((bs s).drop (q+1))==45)=false:=by simpa using g
    clear g
    go_wp2_with fail
    go_step3
    obtain ⟨hr,hk,e1,e2⟩:=HH.out
    have h1:cc (nx ((bs s).drop q))≠45:=by rw [EN.out];exact G.out
    rw [nest_brace HC.out h1,EN.out] at e1 e2
    exact ⟨2*(s.size - (q+1))+1,by omega,d,q+1,_,_,_,_,_,_,_,_,_,_,_,_,_,_,_,_,_,_,_,_,_,_,_,_,_,_,_,_,_,_,_,_,_,_,_,_,rfl,(R2.out).1,hk.to (R2.out).2,by omega,by omega,e1,by rw [e2];simp only;omega,.inl ⟨rfl,rfl⟩⟩
  ·refine ⟨_,rfl,?_⟩
   have z1:sz ((bs s).drop q)=1:=sz_cc (by omega) (by omega)
   have HP:=hide (pass_any b s q w' (HH.out).1)
   have HC:=hide hc
   have Z1:=hide z1
   have hq1:q+1≤s.size:=by have:=sz_drop_le hq;omega
   rw [z1] at HP
   clear hc z1 c0 c1 c2 c3 f0 f1 f2 f3
   go_wp2_with fail
   refine (HP.out).mono ?_
   rintro e w2 ⟨rfl,r2,k2⟩
   obtain ⟨⟨c0,c1,c2,c3⟩,f0,f1,f2,f3⟩:=r2.raw.facts
   have eN:nx ((bs s).drop q)=(bs s).drop (q+1):=by rw [nx_drop,Z1.out]
   have EN:=hide eN
   have R2:=hide (And.intro r2 k2)
   clear r2 k2 eN
   by_cases g:cc ((bs s).drop (q+1))=125
   ·have G:=hide g
    have z2:sz ((bs s).drop (q+1))=1:=sz_cc (by omega) (by omega)
    have HP2:=hide (pass_any b s (q+1) w2 (R2.out).1)
    have Z2:=hide z2
    have hq2:q+1+1≤s.size:=by have:=sz_drop_le hq1;omega
    have h1:cc (nx ((bs s).drop q))=125:=by rw [EN.out];exact g
    have H1:=hide h1
    rw [z2] at HP2
    rw [g] at c2
    clear g z2 h1
    by_cases hd1:d≤1
    ·have hd':¬(0:Int)<(d:Int) - 1:=by omega
     go_wp2_with fail
     refine (HP2.out).mono ?_
     rintro e w3 ⟨rfl,r3,k3⟩
     go_wp2_with fail
     simp only [Jumps]
     go_ret
     obtain ⟨hr,hk,e1,e2⟩:=HH.out
     rw [nest_last HC.out H1.out hd1] at e1 e2
     refine ⟨reti (a:=2) (by rw [e1];rfl),?_,(hk.to (R2.out).2).to k3⟩
     rw [e2];exact r3
    ·have hd':(0:Int)<(d:Int) - 1:=by omega
     go_wp2_with fail
     refine (HP2.out).mono ?_
     rintro e w3 ⟨rfl,r3,k3⟩
     go_wp2_with fail
     go_step3
     obtain ⟨hr,hk,e1,e2⟩:=HH.out
     have eN2:nx (nx ((bs s).drop q))=(bs s).drop (q+1+1):=by rw [EN.out,nx_drop,Z2.out]
     rw [nest_shut HC.out H1.out hd1,eN2] at e1 e2
     have ed:((d:Int) - 1)=((d - 1:Nat):Int):=by omega
     rw [ed]
     exact ⟨2*(s.size - (q+1+1))+1,by omega,d - 1,q+1+1,_,_,_,_,_,_,_,_,_,_,_,_,_,_,_,_,_,_,_,_,_,_,_,_,_,_,_,_,_,_,_,_,_,_,_,_,rfl,r3,(hk.to (R2.out).2).to k3,by omega,by omega,e1,by rw [e2];simp only;omega,.inl ⟨rfl,rfl⟩⟩
   ·have G:=hide g
    have bg:(cc ((bs s).drop (q+1))==125)=false:=by simpa using g
    clear g
    go_wp2_with fail
    go_step3
    obtain ⟨hr,hk,e1,e2⟩:=HH.out
    have h1:cc (nx ((bs s).drop q))≠125:=by rw [EN.out];exact G.out
    rw [nest_dash HC.out h1,EN.out] at e1 e2
    exact ⟨2*(s.size - (q+1))+1,by omega,d,q+1,_,_,_,_,_,_,_,_,_,_,_,_,_,_,_,_,_,_,_,_,_,_,_,_,_,_,_,_,_,_,_,_,_,_,_,_,rfl,(R2.out).1,hk.to (R2.out).2,by omega,by omega,e1,by rw [e2];simp only;omega,.inl ⟨rfl,rfl⟩⟩
 ·intro hin
  go_wp2_with fail
  go_step3
  rename_i hK
  have hJ:JN b s p w 2 (2*(s.size - p)+1) { tmps:=#[.pointer (some ⟨b,0,none⟩),undef,.int .i64 0,.int .i64 1,undef,undef,undef,undef,undef,undef,undef,undef,undef,undef,undef,undef,undef,undef,undef,undef,undef,undef,undef,undef,undef,undef,undef,undef,undef,undef,undef,undef,undef,undef,undef,undef,undef,undef,undef,undef],defers:=[] } w:=⟨1,p,undef,undef,undef,undef,undef,undef,undef,undef,undef,undef,undef,undef,undef,undef,undef,undef,undef,undef,undef,undef,undef,undef,undef,undef,undef,undef,undef,undef,undef,undef,undef,undef,undef,undef,undef,undef,rfl,h,Kp.refl _ _,Nat.le_refl _,by omega,rfl,rfl,.inl ⟨rfl,rfl⟩⟩
  have hh:=hin _ _ _ hJ
  exact hK _ _ hh
end Go.Proofs.YtbmebfgapjhchaaGreatDoor
/- What a \ takes: a code point in digits of sixteen. -/
namespace Go.Proofs.YtbmebfgapjhchaaGreatDoor
open Go.RowKit
open M
def intOf:Value→Int|.int _ q=>q|_=>0
theorem pow16 {k:Nat} (hk:k≤5) {C:Int} (hC:C<((16 ^ k:Nat):Int)):C≤1048575:=by
 have h1:16 ^ k≤16 ^ 5:=Nat.pow_le_pow_right (by omega) hk
 have h2:(16:Nat) ^ 5=1048576:=by decide
 omega
theorem pow16' {k:Nat} {C h:Int} (hC:C<((16 ^ k:Nat):Int)) (hh:h<16):C*16+h<((16 ^ (k+1):Nat):Int):=by
 rw [Nat.pow_succ];omega
theorem pow16'' {k:Nat} (hk:k≤6) {C:Int} (hC:C<((16 ^ k:Nat):Int)):C≤16777215:=by
 have h1:16 ^ k≤16 ^ 6:=Nat.pow_le_pow_right (by omega) hk
 have h2:(16:Nat) ^ 6=16777216:=by decide
 omega
structure InHex (b:Nat) (s:ByteArray) (p:Nat) (w:World) (k:Nat) (C:Int) (wr:World):Prop where
 rdr:Rdr wr b s (p+k)
 on:On b w wr
 lo:0≤C
 hi:C<((16 ^ k:Nat):Int)
 eq:hexs 6 0 ((bs s).drop p)=((hexs (6 - k) C ((bs s).drop (p+k))).1,k+(hexs (6 - k) C ((bs s).drop (p+k))).2)
theorem InHex.stop {b:Nat} {s:ByteArray} {p:Nat} {w:World} {k:Nat} {C:Int} {wr:World} (h:InHex b s p w k C wr) (hk:k≤6) (hx:¬(k<6∧0≤hexOf (cc ((bs s).drop (p+k))))):hexs 6 0 ((bs s).drop p)=(C,k):=by
 rw [h.eq]
 by_cases h6:k<6
 ·obtain ⟨m,hm⟩:∃ m,6 - k=m+1:=⟨5 - k,by omega⟩
  rw [hm];unfold hexs;rw [if_neg (fun h=>hx ⟨h6,h⟩)];rfl
 ·have:6 - k=0:=by omega
  rw [this];rfl
theorem InHex.next {b:Nat} {s:ByteArray} {p:Nat} {w:World} {k:Nat} {C:Int} {wr w2:World} (h:InHex b s p w k C wr) (hk:k<6) (hx:0≤hexOf (cc ((bs s).drop (p+k)))) (hr:Rdr w2 b s (p+k+1)) (ho:On b wr w2):InHex b s p w (k+1) (C*16+hexOf (cc ((bs s).drop (p+k)))) w2:=by
 have hh:=hexOf_lt (cc ((bs s).drop (p+k)))
 have h0:=h.lo
 refine ⟨hr,h.on.to ho,by omega,pow16' h.hi hh.2,?_⟩
 rw [h.eq]
 obtain ⟨m,hm⟩:∃ m,6 - k=m+1:=⟨5 - k,by omega⟩
 have hm2:6 - (k+1)=m:=by omega
 have ha:=hexOf_ascii hx
 have z1:sz ((bs s).drop (p+k))=1:=sz_cc (by omega) (by omega)
 rw [hm,hm2,show p+(k+1)=p+k+1 from rfl]
 conv=>lhs;unfold hexs
 rw [if_pos hx,nx_drop,z1]
 simp only [Prod.mk.injEq]
 exact ⟨trivial,by omega⟩
set_option maxHeartbeats 4000000 in
theorem codePoint_any (b:Nat) (s:ByteArray) (p:Nat) (w:World) (h:Rdr w b s p) :
  Calls Tryz.prog 147 #[.pointer (some ⟨b,0,none⟩)] w fun e w'=>e=.returned (.tuple #[.int .i32 (code ((bs s).drop p)).1,.bool (code ((bs s).drop p)).2.1])∧Rdr w' b s (p+(code ((bs s).drop p)).2.2)∧On b w w':=by
 have hs:=h.big
 have hq:=h.le
 obtain ⟨⟨c0,c1,c2,c3⟩,f0,f1,f2,f3⟩:=h.raw.facts
 by_cases g0:cc ((bs s).drop p)=123
 ·have z1:sz ((bs s).drop p)=1:=sz_cc (by omega) (by omega)
  have hq1:p+1≤s.size:=by have:=sz_drop_le hq;omega
  have HP:=hide (pass_any b s p w h)
  have eN:nx ((bs s).drop p)=(bs s).drop (p+1):=by rw [nx_drop,z1]
  have HC:Hid (code ((bs s).drop p)=if (hexs 6 0 ((bs s).drop (p+1))).2=0∨cc (((bs s).drop (p+1)).drop (hexs 6 0 ((bs s).drop (p+1))).2)≠125 then (0,false,1+(hexs 6 0 ((bs s).drop (p+1))).2)
    else ((hexs 6 0 ((bs s).drop (p+1))).1,Lib.validRune (hexs 6 0 ((bs s).drop (p+1))).1,2+(hexs 6 0 ((bs s).drop (p+1))).2)):=by
   show _=_
   unfold code;rw [if_pos g0,eN]
  rw [z1] at HP
  rw [g0] at c2
  clear g0 z1 eN
  go_enter Tryz.func147,Tryz.ntmps147
  go_wp2_with fail
  refine (HP.out).mono ?_
  rintro e w1 ⟨rfl,r1,k1⟩
  clear c0 c1 c2 c3 f0 f1 f2 f3
  go_wp2_with fail
  go_loopw [4,5] (fun c i wr=>∃ (k:Nat) (C:Int),k≤6∧i=.int .i64 k∧c=.int .i32 C∧Hid (InHex b s (p+1) w1 k C wr)) (fun _ i _=>6 - (intOf i).toNat)
  case atStart=>exact ⟨0,0,by omega,rfl,rfl,⟨r1,Kp.refl _ _,by omega,by decide,by simp⟩⟩
  case round =>
   obtain ⟨k,C,hk,rfl,rfl,HI⟩:=hrel
   obtain ⟨⟨c0,c1,c2,c3⟩,f0,f1,f2,f3⟩:=(HI.out).rdr.raw.facts
   have hhx:=hexOf_lt (cc ((bs s).drop (p+1+k)))
   have hlo:=(HI.out).lo
   have hhi:=pow16'' hk (HI.out).hi
   by_cases hx:k<6∧0≤hexOf (cc ((bs s).drop (p+1+k)))
   ·have h5:=pow16 (by omega:k≤5) (HI.out).hi
    have HX:=hide hx
    obtain ⟨hk6,hx0⟩:=hx
    have z2:sz ((bs s).drop (p+1+k))=1:=by have:=hexOf_ascii hx0;exact sz_cc (by omega) (by omega)
    have HP2:=hide (pass_any b s (p+1+k) _ (HI.out).rdr)
    rw [z2] at HP2
    clear z2
    have hk6':(k:Int)<6:=by omega
    go_wp2_with (first|(go_at_call 155;refine (hexOf_any _ _).mono ?_;rintro e w' ⟨rfl,rfl⟩)|(go_at_call 106;refine (HP2.out).mono ?_;rintro e w2 ⟨rfl,r2,k2⟩))
    go_roundw
    case rel=>exact ⟨k+1,_,by omega,by go_num,rfl,(HI.out).next hk6 (HX.out).2 r2 k2⟩
    case measure=>simp [intOf];omega
   ·have HS:=hide ((HI.out).stop hk hx)
    have hc2:cc (((bs s).drop (p+1)).drop k)=cc ((bs s).drop (p+1+k)):=by rw [List.drop_drop]
    have hvr:Hid (code ((bs s).drop p)=if k=0∨cc ((bs s).drop (p+1+k))≠125 then (0,false,1+k) else (C,Lib.validRune C,2+k)):=by
     show _=_
     rw [HC.out,HS.out];simp only;rw [hc2]
    clear hc2
    have HX:=hide hx
    by_cases hk0:k=0
    ·subst hk0
     have hx':¬ 0≤hexOf (cc ((bs s).drop (p+1+0))):=fun h=>hx ⟨by omega,h⟩
     clear hx
     have hx2:decide (0≤hexOf (cc ((bs s).drop (p+1+0))))=false:=by simpa using hx'
     clear hx'
     go_wp2_with (first|(go_at_call 155;refine (hexOf_any _ _).mono ?_;rintro e w' ⟨rfl,rfl⟩))
     go_ret2
     rw [hvr.out,if_pos (by simp)]
     exact ⟨rfl,(HI.out).rdr,k1.to (HI.out).on⟩
    have hkb:((k:Int)==0)=false:=by simpa using hk0
    by_cases h125:cc ((bs s).drop (p+1+k))=125
    ·have HN:Hid (¬(k=0∨cc ((bs s).drop (p+1+k))≠125)):=by show ¬ _;simp [hk0,h125]
     have z2:sz ((bs s).drop (p+1+k))=1:=sz_cc (by omega) (by omega)
     have HP2:=hide (pass_any b s (p+1+k) _ (HI.out).rdr)
     have hx5:hexOf (cc ((bs s).drop (p+1+k)))=-1:=by rw [h125];decide
     rw [h125] at c2 hx5
     rw [z2] at HP2
     clear z2 hx hk0 h125 hhx
     by_cases hk6:k<6
     all_goals
      go_wp2_with (first|(go_at_call 155;refine (hexOf_any _ _).mono ?_;rintro e w' ⟨rfl,rfl⟩)|(go_at_call 106;refine (HP2.out).mono ?_;rintro e w2 ⟨rfl,r2,k2⟩)|(go_at_call 149;refine (Tryz.utf8_ValidRune _ _).mono ?_;rintro e w' ⟨rfl,rfl⟩))
      go_ret2
      rw [hvr.out,if_neg HN.out]
      refine ⟨rfl,?_,(k1.to (HI.out).on).to k2⟩
      rw [show p+(2+k)=p+1+k+1 by omega]
      exact r2
    ·have HN:Hid (k=0∨cc ((bs s).drop (p+1+k))≠125):=.inr h125
     have h1b:(cc ((bs s).drop (p+1+k))==125)=false:=by simpa using h125
     clear hk0 h125
     by_cases hk6:k<6
     ·have hx':¬ 0≤hexOf (cc ((bs s).drop (p+1+k))):=fun h=>hx ⟨hk6,h⟩
      have hx2:decide (0≤hexOf (cc ((bs s).drop (p+1+k))))=false:=by simpa using hx'
      clear hx hx'
      go_wp2_with (first|(go_at_call 155;refine (hexOf_any _ _).mono ?_;rintro e w' ⟨rfl,rfl⟩))
      go_ret2
      rw [hvr.out,if_pos HN.out]
      refine ⟨rfl,?_,k1.to (HI.out).on⟩
      rw [show p+(1+k)=p+1+k by omega]
      exact (HI.out).rdr
     ·clear hx
      go_wp2_with (first|(go_at_call 155;refine (hexOf_any _ _).mono ?_;rintro e w' ⟨rfl,rfl⟩))
      go_ret2
      rw [hvr.out,if_pos HN.out]
      refine ⟨rfl,?_,k1.to (HI.out).on⟩
      rw [show p+(1+k)=p+1+k by omega]
      exact (HI.out).rdr
 ·have b0:(cc ((bs s).drop p)==123)=false:=by simpa using g0
  have HC:Hid (code ((bs s).drop p)=(0,false,0)):=by show _=_;unfold code;rw [if_neg g0]
  clear g0
  go_enter Tryz.func147,Tryz.ntmps147
  go_wp2_with fail
  go_ret2
  rw [HC.out]
  exact ⟨rfl,h,Kp.refl _ _⟩
end Go.Proofs.YtbmebfgapjhchaaGreatDoor
/- What a \ takes. -/
namespace Go.Proofs.YtbmebfgapjhchaaGreatDoor
open Go.RowKit
open M
set_option maxHeartbeats 4000000 in
theorem taken_any (b:Nat) (s:ByteArray) (p:Nat) (w:World) (h:Rdr w b s p) :
  Calls Tryz.prog 133 #[.pointer (some ⟨b,0,none⟩)] w fun e w'=>e=.returned (.tuple #[.int .i32 (taken ((bs s).drop p)).1,.bool (taken ((bs s).drop p)).2.1])∧Rdr w' b s (p+(taken ((bs s).drop p)).2.2)∧On b w w':=by
 have hs:=h.big
 have hq:=h.le
 obtain ⟨⟨c0,c1,c2,c3⟩,f0,f1,f2,f3⟩:=h.raw.facts
 by_cases gm:cc ((bs s).drop p)=-1
 ·have HT:Hid (taken ((bs s).drop p)=(0,false,0)):=by show _=_;unfold taken;rw [if_pos (by simp [gm])]
  rw [gm] at c2
  go_enter Tryz.func133,Tryz.ntmps133
  go_wp2_with fail
  go_ret2
  rw [HT.out]
  exact ⟨rfl,h,Kp.refl _ _⟩
 by_cases g10:cc ((bs s).drop p)=10
 ·have HT:Hid (taken ((bs s).drop p)=(0,false,0)):=by show _=_;unfold taken;rw [if_pos (by simp [g10])]
  rw [g10] at c2
  go_enter Tryz.func133,Tryz.ntmps133
  go_wp2_with fail
  go_ret2
  rw [HT.out]
  exact ⟨rfl,h,Kp.refl _ _⟩
 have HP:=hide (pass_any b s p w h)
 by_cases g110:cc ((bs s).drop p)=110
 ·have HT:Hid (taken ((bs s).drop p)=(10,true,1)):=by show _=_;unfold taken;rw [if_neg (by omega),if_pos g110]
  have z1:sz ((bs s).drop p)=1:=sz_cc (by omega) (by omega)
  rw [z1] at HP
  rw [g110] at c2
  clear z1
  go_enter Tryz.func133,Tryz.ntmps133
  go_wp2_with ((go_at_call 106;refine (HP.out).mono ?_;rintro e w1 ⟨rfl,r1,k1⟩))
  go_ret2
  rw [HT.out]
  exact ⟨rfl,r1,k1⟩
 by_cases g116:cc ((bs s).drop p)=116
 ·have HT:Hid (taken ((bs s).drop p)=(9,true,1)):=by show _=_;unfold taken;rw [if_neg (by omega),if_neg g110,if_pos g116]
  have z1:sz ((bs s).drop p)=1:=sz_cc (by omega) (by omega)
  rw [z1] at HP
  rw [g116] at c2
  clear z1
  go_enter Tryz.func133,Tryz.ntmps133
  go_wp2_with ((go_at_call 106;refine (HP.out).mono ?_;rintro e w1 ⟨rfl,r1,k1⟩))
  go_ret2
  rw [HT.out]
  exact ⟨rfl,r1,k1⟩
 by_cases g34:cc ((bs s).drop p)=34
 ·have HT:Hid (taken ((bs s).drop p)=(34,true,1)):=by show _=_;unfold taken;rw [if_neg (by omega),if_neg g110,if_neg g116,if_pos (.inl g34),g34]
  have z1:sz ((bs s).drop p)=1:=sz_cc (by omega) (by omega)
  rw [z1] at HP
  rw [g34] at c2
  clear z1
  go_enter Tryz.func133,Tryz.ntmps133
  go_wp2_with ((go_at_call 106;refine (HP.out).mono ?_;rintro e w1 ⟨rfl,r1,k1⟩))
  go_ret2
  rw [HT.out]
  exact ⟨rfl,r1,k1⟩
 by_cases g92:cc ((bs s).drop p)=92
 ·have HT:Hid (taken ((bs s).drop p)=(92,true,1)):=by show _=_;unfold taken;rw [if_neg (by omega),if_neg g110,if_neg g116,if_pos (.inr g92),g92]
  have z1:sz ((bs s).drop p)=1:=sz_cc (by omega) (by omega)
  rw [z1] at HP
  rw [g92] at c2
  clear z1
  go_enter Tryz.func133,Tryz.ntmps133
  go_wp2_with ((go_at_call 106;refine (HP.out).mono ?_;rintro e w1 ⟨rfl,r1,k1⟩))
  go_ret2
  rw [HT.out]
  exact ⟨rfl,r1,k1⟩
 by_cases g117:cc ((bs s).drop p)=117
 ·have z1:sz ((bs s).drop p)=1:=sz_cc (by omega) (by omega)
  have HT:Hid (taken ((bs s).drop p)=((code ((bs s).drop (p+1))).1,(code ((bs s).drop (p+1))).2.1,1+(code ((bs s).drop (p+1))).2.2)):=by
   show _=_
   unfold taken;rw [if_neg (by omega),if_neg g110,if_neg g116,if_neg (by omega),if_pos g117,nx_drop,z1]
  rw [z1] at HP
  rw [g117] at c2
  clear z1
  go_enter Tryz.func133,Tryz.ntmps133
  go_wp2_with (first|(go_at_call 106;refine (HP.out).mono ?_;rintro e w1 ⟨rfl,r1,k1⟩)|(go_at_call 147;refine (codePoint_any b s (p+1) _ r1).mono ?_;rintro e w2 ⟨rfl,r2,k2⟩))
  go_ret2
  rw [HT.out]
  refine ⟨rfl,?_,k1.to k2⟩
  rw [show p+(1+(code ((bs s).drop (p+1))).2.2)=p+1+(code ((bs s).drop (p+1))).2.2 by omega]
  exact r2
 ·have HT:Hid (taken ((bs s).drop p)=(0,false,sz ((bs s).drop p))):=by
   show _=_
   unfold taken;rw [if_neg (by omega),if_neg g110,if_neg g116,if_neg (by omega),if_neg g117]
  have bm:(cc ((bs s).drop p)==-1)=false:=by simpa using gm
  have b10:(cc ((bs s).drop p)==10)=false:=by simpa using g10
  have b110:(cc ((bs s).drop p)==110)=false:=by simpa using g110
  have b116:(cc ((bs s).drop p)==116)=false:=by simpa using g116
  have b34:(cc ((bs s).drop p)==34)=false:=by simpa using g34
  have b92:(cc ((bs s).drop p)==92)=false:=by simpa using g92
  have b117:(cc ((bs s).drop p)==117)=false:=by simpa using g117
  clear gm g10 g110 g116 g34 g92 g117
  go_enter Tryz.func133,Tryz.ntmps133
  go_wp2_with ((go_at_call 106;refine (HP.out).mono ?_;rintro e w1 ⟨rfl,r1,k1⟩))
  go_ret2
  rw [HT.out]
  exact ⟨rfl,r1,k1⟩
def JQ (b:Nat) (s:ByteArray) (p:Nat) (w:World) (L0 L1:Nat) (l n:Nat) (a':Act) (w':World):Prop :=
 ∃ (d q:Nat) (u4 u5 u6 u7 u8 u9 u10 u11 u12 u13 u14 u15 u16 u17 u18 u19 u20 u21 u22 u23 u24 u25 u26 u27 u28 u29 u30:Value),a'={ tmps:=#[.pointer (some ⟨b,0,none⟩),undef,.int .i64 0,.int .i64 (d:Int),u4,u5,u6,u7,u8,u9,u10,u11,u12,u13,u14,u15,u16,u17,u18,u19,u20,u21,u22,u23,u24,u25,u26,u27,u28,u29,u30],defers:=[] }∧Rdr w' b s q∧On b w w'∧d≤8 ∧
  (quo 6 ((bs s).drop p)).1=(quo d ((bs s).drop q)).1∧p+(quo 6 ((bs s).drop p)).2=q+(quo d ((bs s).drop q)).2 ∧
  ((l=L0∧n=2*(s.size - q)+1)∨(l=L1∧n=2*(s.size - q)∧cc ((bs s).drop q)=92))
set_option maxHeartbeats 4000000 in
theorem quoted_any (b:Nat) (s:ByteArray) (p:Nat) (w:World) (h:Rdr w b s p) :
  Calls Tryz.prog 110 #[.pointer (some ⟨b,0,none⟩)] w fun e w'=>e=.returned (.int .i64 (quo 6 ((bs s).drop p)).1)∧Rdr w' b s (p+(quo 6 ((bs s).drop p)).2)∧On b w w':=by
 go_enter Tryz.func110,Tryz.ntmps110
 go_wp2_with fail
 refine wp_scope_from (JQ b s p w 1 0) 1 rfl ?_ ?_ ?_
 ·rintro n a' w' ⟨d,q,u4,u5,u6,u7,u8,u9,u10,u11,u12,u13,u14,u15,u16,u17,u18,u19,u20,u21,u22,u23,u24,u25,u26,u27,u28,u29,u30,rfl,hr,hk,hd,e1,e2,hl⟩
  obtain ⟨rfl⟩:n=2*(s.size - q)+1:=by omega
  clear hl
  have hs:=hr.big
  have hq:=hr.le
  obtain ⟨⟨c0,c1,c2,c3⟩,f0,f1,f2,f3⟩:=hr.raw.facts
  have HH:=hide (And.intro hr (And.intro hk (And.intro e1 e2)))
  clear hr hk e1 e2
  by_cases g0:cc ((bs s).drop q)=-1
  ·have HE:=hide (quo_end (kind:=d) (.inl g0))
   rw [g0] at c2
   clear g0
   go_wp2_with fail
   simp only [Jumps]
   go_ret
   obtain ⟨hr,hk,e1,e2⟩:=HH.out
   rw [HE.out] at e1 e2
   refine ⟨reti (a:=8) (by rw [e1];rfl),?_,hk⟩
   rw [e2];exact hr
  by_cases g1:cc ((bs s).drop q)=10
  ·have HE:=hide (quo_end (kind:=d) (.inr g1))
   rw [g1] at c2
   clear g0 g1
   go_wp2_with fail
   simp only [Jumps]
   go_ret
   obtain ⟨hr,hk,e1,e2⟩:=HH.out
   rw [HE.out] at e1 e2
   refine ⟨reti (a:=8) (by rw [e1];rfl),?_,hk⟩
   rw [e2];exact hr
  have HP:=hide (pass_any b s q w' (HH.out).1)
  by_cases g2:cc ((bs s).drop q)=34
  ·have HE:=hide (quo_shut (kind:=d) g2)
   have z1:sz ((bs s).drop q)=1:=sz_cc (by omega) (by omega)
   rw [z1] at HP
   rw [g2] at c2
   clear g0 g1 g2 z1
   go_wp2_with ((go_at_call 106;refine (HP.out).mono ?_;rintro e w1 ⟨rfl,r1,k1⟩))
   simp only [Jumps]
   go_ret
   obtain ⟨hr,hk,e1,e2⟩:=HH.out
   rw [HE.out] at e1 e2
   refine ⟨reti (a:=(d:Int)) (by rw [e1]),?_,hk.to k1⟩
   rw [e2];exact r1
  by_cases g3:cc ((bs s).drop q)=92
  ·have G3:=hide g3
   rw [g3] at c2
   clear g0 g1 g2 g3
   go_wp2_with fail
   go_step3
   obtain ⟨hr,hk,e1,e2⟩:=HH.out
   exact ⟨2*(s.size - q),by omega,d,q,_,_,_,_,_,_,_,_,_,_,_,_,_,_,_,_,_,_,_,_,_,_,_,_,_,_,_,rfl,hr,hk,hd,e1,e2,.inr ⟨rfl,rfl,G3.out⟩⟩
  ·have b0:(cc ((bs s).drop q)==-1)=false:=by simpa using g0
   have b1:(cc ((bs s).drop q)==10)=false:=by simpa using g1
   have b2:(cc ((bs s).drop q)==34)=false:=by simpa using g2
   have b3:(cc ((bs s).drop q)==92)=false:=by simpa using g3
   have HN:=hide (quo_on (kind:=d) g0 g1 g2 g3)
   have HZ:=hide (sz_pos_cc g0)
   clear g0 g1 g2 g3
   go_wp2_with ((go_at_call 106;refine (HP.out).mono ?_;rintro e w1 ⟨rfl,r1,k1⟩))
   go_step3
   obtain ⟨hr,hk,e1,e2⟩:=HH.out
   rw [HN.out] at e1 e2
   have:=HZ.out
   have hz:=r1.le
   rw [nx_drop] at e1 e2
   exact ⟨2*(s.size - (q+sz ((bs s).drop q)))+1,by omega,d,_,_,_,_,_,_,_,_,_,_,_,_,_,_,_,_,_,_,_,_,_,_,_,_,_,_,_,_,rfl,r1,hk.to k1,hd,e1,by rw [e2];simp only;omega,.inl ⟨rfl,rfl⟩⟩
 ·rintro l n a' w' hne ⟨d,q,u4,u5,u6,u7,u8,u9,u10,u11,u12,u13,u14,u15,u16,u17,u18,u19,u20,u21,u22,u23,u24,u25,u26,u27,u28,u29,u30,rfl,hr,hk,hd,e1,e2,hl⟩
  have hs:=hr.big
  have hq:=hr.le
  have HH:=hide (And.intro hr (And.intro hk (And.intro e1 e2)))
  clear hr hk e1 e2
  rcases hl with ⟨rfl,_⟩|⟨rfl,rfl,hc⟩
  ·exact absurd rfl hne
  ·refine ⟨_,rfl,?_⟩
   have z1:sz ((bs s).drop q)=1:=sz_cc (by omega) (by omega)
   have HP:=hide (pass_any b s q w' (HH.out).1)
   have hq1:q+1≤s.size:=by have:=sz_drop_le hq;omega
   have HN:=hide (quo_slash (kind:=d) hc)
   rw [z1] at HP
   rw [nx_drop,z1,List.drop_drop] at HN
   clear hc z1
   cases hok:(taken ((bs s).drop (q+1))).2.1
   ·have HO:=hide hok
    go_wp2_with (first|(go_at_call 106;refine (HP.out).mono ?_;rintro e w1 ⟨rfl,r1,k1⟩)|(go_at_call 133;refine (taken_any b s (q+1) _ r1).mono ?_;rintro e w2 ⟨rfl,r2,k2⟩))
    go_step3
    obtain ⟨hr,hk,e1,e2⟩:=HH.out
    rw [HN.out,HO.out] at e1 e2
    have hz:=r2.le
    exact ⟨2*(s.size - (q+1+(taken ((bs s).drop (q+1))).2.2))+1,by omega,8,q+1+(taken ((bs s).drop (q+1))).2.2,_,_,_,_,_,_,_,_,_,_,_,_,_,_,_,_,_,_,_,_,_,_,_,_,_,_,_,rfl,r2,(hk.to k1).to k2,by omega,e1,by rw [e2];simp only [Bool.false_eq_true,if_false];omega,.inl ⟨rfl,rfl⟩⟩
   ·have HO:=hide hok
    go_wp2_with (first|(go_at_call 106;refine (HP.out).mono ?_;rintro e w1 ⟨rfl,r1,k1⟩)|(go_at_call 133;refine (taken_any b s (q+1) _ r1).mono ?_;rintro e w2 ⟨rfl,r2,k2⟩))
    go_step3
    obtain ⟨hr,hk,e1,e2⟩:=HH.out
    rw [HN.out,HO.out] at e1 e2
    have hz:=r2.le
    exact ⟨2*(s.size - (q+1+(taken ((bs s).drop (q+1))).2.2))+1,by omega,d,q+1+(taken ((bs s).drop (q+1))).2.2,_,_,_,_,_,_,_,_,_,_,_,_,_,_,_,_,_,_,_,_,_,_,_,_,_,_,_,rfl,r2,(hk.to k1).to k2,hd,e1,by rw [e2];simp only [if_true];omega,.inl ⟨rfl,rfl⟩⟩
 ·intro hin
  go_wp2_with fail
  go_step3
  rename_i hK
  have hJ:JQ b s p w 1 0 1 (2*(s.size - p)+1) { tmps:=#[.pointer (some ⟨b,0,none⟩),undef,.int .i64 0,.int .i64 6,undef,undef,undef,undef,undef,undef,undef,undef,undef,undef,undef,undef,undef,undef,undef,undef,undef,undef,undef,undef,undef,undef,undef,undef,undef,undef,undef],defers:=[] } w:=⟨6,p,undef,undef,undef,undef,undef,undef,undef,undef,undef,undef,undef,undef,undef,undef,undef,undef,undef,undef,undef,undef,undef,undef,undef,undef,undef,undef,undef,rfl,h,Kp.refl _ _,by omega,rfl,rfl,.inl ⟨rfl,rfl⟩⟩
  have hh:=hin _ _ _ hJ
  exact hK _ _ hh
end Go.Proofs.YtbmebfgapjhchaaGreatDoor
