/- Package value: what a sign makes of two numbers. -/
import Derived.Test.YtdkpkpgpphkljaaGreatDoorMvv
namespace Go.Proofs.YtdkpkpgpphkljaaGreatDoor
set_option maxRecDepth 100000
set_option maxHeartbeats 4000000
open Go.RowKit
section
open Tryz
open E (St Bo V Fr Ms Rs uJ Cc)
variable{β:Nat}
section
variable{w w':World}{O:Nat→Prop}{T:Int × Int→Nat}{u v:Value}{l r:V}
def Bz(x:ah):V→V→Except Nat V
 | .int a,.int b=>if x=[60] then .ok (.mH (decide (a<b))) else match uJ x a b with
  | some n=>.ok (.int n)
  | none=>.error 10
 | _,_=>.error 10
theorem Yp(x:ah)(h:∀ n,l≠.int n):Bz x l r=.error 10:=by
 cases l<;>first|rfl|exact absurd rfl (h _)
theorem Yq(x:ah)(n:Int)(h:∀ n,r≠.int n):Bz x (.int n) r=.error 10:=by
 cases r<;>first|rfl|exact absurd rfl (h _)
theorem Jc(n:Int):-9223372036854775808≤Cc n∧Cc n≤9223372036854775807:=by
 unfold Cc;rw[IntWalk.i64_left];unfold wrap64;omega
theorem UM{x:ah}{a b n:Int}(h:uJ x a b=some n):-9223372036854775808≤n∧n≤9223372036854775807:=by
 unfold uJ at h
 split at h
 ·split at h
  ·cases h;exact Jc _
  ·cases h
 ·split at h
  ·split at h
   ·cases h;exact Jc _
   ·cases h
  ·split at h
   ·cases h;omega
   ·split at h
    ·cases h;exact Jc _
    ·cases h
theorem Ec(x:ah)(hl:mP β w O T u l)(hr:mP β w O T v r) :
  Calls prog 243 #[.string (ba x),u,v] w fun e w'=>w'=w∧P8 β w' O T (Bz x l r) e:=by
 rcases hl.asI with ⟨a,rfl,rfl,ha⟩|⟨hA,hn⟩
 ·have hA:=xw a
  rcases hr.asI with ⟨b,rfl,rfl,hb⟩|⟨hB,hn⟩
  ·have hB:=xw b
   clear hl hr ha hb;by_cases hs:x=[60]
   ·have hq:((ba x).toList==[60])=true:=by rw[Oc,hs];rfl
    have HE:Hid (Bz x (.int a) (.int b)=.ok (.mH (decide (a<b)))):=aL hs;clear hs;generalize ba x=s at *;go_enter func243,ntmps243;go_wp2_with fail
    go_ret2;rw[HE.o];exact⟨rfl,_,rfl,.mH _⟩
   ·have hq:((ba x).toList==[60])=false:=by rw[Oc];exact jQ hs
    have HK:=au (Jb (w:=w) x a b);have HE:Hid (Bz x (.int a) (.int b)=match uJ x a b with|some n=>.ok (.int n)|none=>.error 10):=aG hs;clear hs;generalize ba x=s at *;go_enter func243,ntmps243;go_wp2_with fail
    refine(HK.o).mono ?_;rintro e w2 ⟨rfl,n,d,rfl,h3,h4⟩;cases d with
    | true =>
     have H3:=au (h3 rfl);clear h3 h4 HK;go_wp2_with fail
     go_ret2;rw[HE.o,H3.o];exact⟨rfl,_,rfl,.int n (UM H3.o)⟩
    | false =>
     have H3:=au (h4 rfl);clear h3 h4 HK;go_wp2_with fail
     go_ret2;rw[HE.o,H3.o];exact⟨rfl,rfl⟩
  ·have HE:=au (Yq (r:=r) x a hn)
   clear hl hr ha hn;go_enter func243,ntmps243;go_wp2_with fail
   go_ret2;rw[HE.o];exact⟨rfl,rfl⟩
 ·have HE:=au (Yp (r:=r) x hn)
  rcases hr.asI with ⟨b,rfl,rfl,hb⟩|⟨hB,-⟩
  ·have hB:=xw b
   clear hl hr hn hb;go_enter func243,ntmps243;go_wp2_with fail
   go_ret2;rw[HE.o];exact⟨rfl,rfl⟩
  ·clear hl hr hn
   go_enter func243,ntmps243;go_wp2_with fail
   go_ret2;rw[HE.o];exact⟨rfl,rfl⟩
end
end
section
open Tryz
open E (St Bo V Fr Ms Rs)
variable{β:Nat}
section
variable{w w':World}{O:Nat→Prop}{T:Int × Int→Nat}{u v:Value}{l r:V}
theorem mP.asB(h:mP β w O T u l):(∃ b,l=.mH b∧u=.iface 4 (.bool b))∨((∀ w,(Instr.typeAssert u 40 4 true).run prog w=.ok (.tuple #[.bool false,.bool false]) w)∧∀ x,l≠.mH x):=by
 cases h with
 | int n hn=>exact .inr ⟨PO n,fun _ e=>by cases e⟩
 | mH b=>exact .inl ⟨b,rfl,rfl⟩
 | txt b x h=>exact .inr ⟨xA b,fun _ e=>by cases e⟩
 | list ao cap l vs hc hr hp=>exact .inr ⟨D8 ao _ cap,fun _ e=>by cases e⟩
 | fn fb bb a b env h ho hb he=>exact .inr ⟨KR fb,fun _ e=>by cases e⟩
def SmR(β:Nat)(O:Nat→Prop)(T:Int × Int→Nat)(mb:Nat)(w:World)(m:Ms)(r:E.Br)(e:Ending)(w':World):Prop:=match r with
 | (.ok b,f)=>e=.returned (.tuple #[.bool b,.int .i64 0])∧∃ O',Kv β O O' w w'∧fE β w' O' T mb { m with fu:=f }
 | (.error k,f)=>e=.returned (.tuple #[.bool false,.int .i64 k])∧k≠0∧∃ O',Kv β O O' w w'∧fE β w' O' T mb { m with fu:=f }
def SC(β:Nat)(x:V):Prop:=∀(w:World) (O:Nat→Prop) (T:Int × Int→Nat) (mb:Nat) (m:Ms) (u v:Value) (y:V),fE β w O T mb m→mP β w O T u x→mP β w O T v y→Calls prog 241 #[.pointer (some ⟨mb,0,none⟩),u,v] w fun e w'=>SmR β O T mb w m (E.same x y m.fu) e w'
theorem P_(n:Int):SC β (.int n):=by
 intro w O T mb m u v y hM hu hv;cases hu with
 | int _ hn' =>
  have hAI:=xw n;have HM:=au hM;rcases hv.asI with ⟨c,rfl,rfl,hc⟩|⟨hB,hn⟩
  ·have hB:=xw c
   clear hM hv hn' hc;go_enter func241,ntmps241;go_wp2_with fail
   go_ret2;exact⟨rfl,O,Kv.refl _ _,HM.o⟩
  ·have HE:Hid (E.same (.int n) y m.fu=(.error 10,m.fu)):=by
    show _=_;cases y<;>first|rfl|exact absurd rfl (hn _)
   clear hM hv hn hn';go_enter func241,ntmps241;go_wp2_with fail
   go_ret2;rw[HE.o];exact⟨rfl,by decide,O,Kv.refl _ _,HM.o⟩
theorem Qa(b:Bool):SC β (.mH b):=by
 intro w O T mb m u v y hM hu hv;cases hu with
 | mH _ =>
  have hAI:=IZ b;have hAB:=D7 b;have HM:=au hM;rcases hv.asB with ⟨c,rfl,rfl⟩|⟨hB,hn⟩
  ·have hB:=D7 c
   clear hM hv;go_enter func241,ntmps241;go_wp2_with fail
   go_ret2;exact⟨rfl,O,Kv.refl _ _,HM.o⟩
  ·have HE:Hid (E.same (.mH b) y m.fu=(.error 10,m.fu)):=by
    show _=_;cases y<;>first|rfl|exact absurd rfl (hn _)
   clear hM hv hn;go_enter func241,ntmps241;go_wp2_with fail
   go_ret2;rw[HE.o];exact⟨rfl,by decide,O,Kv.refl _ _,HM.o⟩
theorem UN(b:Bo)(env:List (List V)):SC β (.fn b env):=by
 intro w O T mb m u v y hM hu hv;cases hu with
 | fn fb bb a _ _ h ho hb he =>
  have HM:=au hM;have hA1:=PS fb;have hA2:=KR fb;have hA3:=PU fb;have hA4:=PV fb;clear hM hv h ho hb he;go_enter func241,ntmps241;go_wp2_with fail
  go_ret2;exact⟨rfl,by decide,O,Kv.refl _ _,HM.o⟩
end
end
section
open Tryz
open E (St Bo V Fr Ms Rs)
variable{β:Nat}
section
variable{w w':World}{O:Nat→Prop}{T:Int × Int→Nat}{mb:Nat}{m:Ms}
theorem bab(x y:ah):((ba x).toList==(ba y).toList)=(x==y):=by rw[gN,gN];rfl
theorem Qb(a b n:Nat)(x y:ah)(hM:fE β w O T mb m)(hx:ku β w a x)(hy:ku β w b y)(ex:x.length=n)(ey:y.length=n) :
  Calls prog 241 #[.pointer (some ⟨mb,0,none⟩),.iface 84 (.pointer (some ⟨a,0,none⟩)),.iface 84 (.pointer (some ⟨b,0,none⟩))] w fun e w'=>SmR β O T mb w m (.ok (x==y),m.fu) e w':=by
 have hA1:=zV a;have hA2:=xA a;have hA3:=rz a;have hB:=rz b;have c0:=hx.c0;have d0:=hy.c0;rw[ex] at c0;rw[ey] at d0;have HEX:=au ex;have HEY:=au ey;have kd:Kv β O O w w.drew:=Kv.aI (ay _ w).drew;have HM:=au (hM.below (ay _ w).drew);have HX:=au (kd.wd _ _ hx);have HY:=au (kd.wd _ _ hy);have HK:=au kd;have HS1:=au (vG HM.o HX.o);clear hM hx hy ex ey kd;go_enter func241,ntmps241;go_wp2_with fail
 refine bH (S:=fun w'=>w'.cell? ⟨a,0,none⟩=some (.int .i64 n)∧w'.cell? ⟨b,0,none⟩=some (.int .i64 n)) (z:=23) (by kernel_rfl) ?_;have hS:w.drew.cell? ⟨a,0,none⟩=some (.int .i64 n)∧w.drew.cell? ⟨b,0,none⟩=some (.int .i64 n):=⟨c0,d0⟩;iterate 14(refine lS hS ?_;simp only[Act.put,ax,aD,aF])
 refine j5 15 hS ?_;simp only[Act.put,List.setIfInBounds_toArray,List.set_cons_zero,List.set_cons_succ];refine j5 16 hS ?_;simp only[Act.put,List.setIfInBounds_toArray,List.set_cons_zero,List.set_cons_succ];refine j5 17 hS ?_;simp only[Act.put,List.setIfInBounds_toArray,List.set_cons_zero,List.set_cons_succ];refine j5 18 hS ?_;simp only[Act.put,List.setIfInBounds_toArray,List.set_cons_zero,List.set_cons_succ];refine bD 14 fun K hK=>?_;go_simp;refine(HS1.o).mono ?_;rintro e w2 ⟨rfl,k2,h2⟩;have hx2:=k2.wd _ _ HX.o;have hy2:=k2.wd _ _ HY.o;have c2:=hx2.c0;have d2:=hy2.c0;rw[HEX.o] at c2;rw[HEY.o] at d2;have HS2:=au (vG h2 hy2);have HX2:=au hx2;have HY2:=au hy2;have mZ:=au ((HK.o).trans k2);dsimp only;refine hK.o _ _ (fun _=>⟨c2,d2⟩) (fun _=>?_);clear hK K hx2 hy2 k2 h2 HS1 hS c0 d0 c2 d2;refine bD 19 fun K hK=>?_;go_simp;refine(HS2.o).mono ?_;rintro e w3 ⟨rfl,k3,h3⟩;have hx3:=k3.wd _ _ HX2.o;have hy3:=k3.wd _ _ HY2.o;have c3:=hx3.c0;have d3:=hy3.c0;rw[HEX.o] at c3;rw[HEY.o] at d3;have qi:=au ((mZ.o).trans k3);have wW:=au h3;dsimp only;have hS:w3.cell? ⟨a,0,none⟩=some (.int .i64 n)∧w3.cell? ⟨b,0,none⟩=some (.int .i64 n):=⟨c3,d3⟩;refine hK.o _ _ (fun _=>hS) (fun _=>?_);clear hK K hx3 hy3 k3 h3 HS2 c3 d3;have HBB:=au (bab x y);generalize ba x=s at *;generalize ba y=t at *;refine bD 20 fun K hK=>?_;go_simp;refine hK.o _ _ (fun _=>hS) (fun _=>?_);clear hK K;refine bD 21 fun K hK=>?_;go_simp;refine hK.o _ _ (fun _=>hS) (fun _=>?_);clear hK K;refine bD 22 fun K hK=>?_;go_simp;refine hK.o _ _ (fun _=>hS) (fun _=>?_);clear hK K;refine bD 23 fun K hK=>?_;go_simp;refine hK.o _ _ (fun _=>hS) (fun _=>fB ?_);clear hK K hS;go_wp2_with fail
 go_ret2;rw[← HBB.o];exact⟨rfl,O,qi.o,wW.o⟩
theorem Qc(a b:Nat)(x y:ah)(hM:fE β w O T mb m)(hx:ku β w a x)(hy:ku β w b y)(hne:x.length≠y.length) :
  Calls prog 241 #[.pointer (some ⟨mb,0,none⟩),.iface 84 (.pointer (some ⟨a,0,none⟩)),.iface 84 (.pointer (some ⟨b,0,none⟩))] w fun e w'=>SmR β O T mb w m (.ok (x==y),m.fu) e w':=by
 have hA1:=zV a;have hA2:=xA a;have hA3:=rz a;have hB:=rz b;have c0:=hx.c0;have d0:=hy.c0;have HE:Hid ((x==y)=false):=jQ (fun e=>hne (by rw[e]));have hq:((x.length:Int)==(y.length:Int))=false:=jQ (by omega);have kd:Kv β O O w w.drew:=Kv.aI (ay _ w).drew;have HM:=au (hM.below (ay _ w).drew);have HK:=au kd;clear hM hx hy kd hne;generalize (x.length:Int)=n at *;generalize (y.length:Int)=k at *;go_enter func241,ntmps241;go_wp2_with fail
 refine bH (S:=fun w'=>w'.cell? ⟨a,0,none⟩=some (.int .i64 n)∧w'.cell? ⟨b,0,none⟩=some (.int .i64 k)) (z:=23) (by kernel_rfl) ?_;have hS:w.drew.cell? ⟨a,0,none⟩=some (.int .i64 n)∧w.drew.cell? ⟨b,0,none⟩=some (.int .i64 k):=⟨c0,d0⟩;iterate 8(refine lS hS ?_;simp only[Act.put,ax,aD,aF])
 refine vF (v:=.bool false) rfl rfl (by kernel_rfl) (by kernel_rfl) (by kernel_rfl) (by kernel_rfl) (by kernel_rfl) (fun _ _ _ h=>h) (Or.inl ⟨by rfl,fun wx hSw=>by go_simp⟩) hS ?_;simp only[Act.put,ax,aD,aF];iterate 1(refine lS hS ?_;simp only[Act.put,ax,aD,aF])
 iterate 11(refine vF (v:=undef) rfl rfl (by kernel_rfl) (by kernel_rfl) (by kernel_rfl) (by kernel_rfl) (by kernel_rfl) (fun _ _ _ h=>h) (Or.inr ⟨by rfl,rfl⟩) hS ?_;simp only[Act.put,ax,aD,aF])
 refine bD 21 fun K hK=>?_;go_simp;refine hK.o _ _ (fun _=>hS) (fun _=>?_);clear hK K;refine bD 22 fun K hK=>?_;go_simp;refine hK.o _ _ (fun _=>hS) (fun _=>?_);clear hK K;refine bD 23 fun K hK=>?_;go_simp;refine hK.o _ _ (fun _=>hS) (fun _=>fB ?_);clear hK K hS;go_wp2_with fail
 go_ret2;rw[HE.o];exact⟨rfl,O,HK.o,HM.o⟩
theorem Qd(x:ah):SC β (.txt x):=by
 intro w O T mb m u v y hM hu hv;cases hu with
 | txt a _ hx =>
  rcases hv.asW with ⟨b,y,rfl,rfl,hy⟩|⟨hB,hn⟩
  ·by_cases e:x.length=y.length
   ·exact Qb a b x.length x y hM hx hy rfl e.symm
   ·exact Qc a b x y hM hx hy e
  ·have HE:Hid (E.same (.txt x) y m.fu=(.error 10,m.fu)):=by
    show _=_;cases y<;>first|rfl|exact absurd rfl (hn _)
   have HM:=au hM;have hA1:=zV a;have hA2:=xA a;have hA3:=rz a;clear hM hv hn hx;go_enter func241,ntmps241;go_wp2_with fail
   go_ret2;rw[HE.o];exact⟨rfl,by decide,O,Kv.refl _ _,HM.o⟩
end
end
section
open Tryz
open E (St Bo V Fr Ms Rs)
variable{β:Nat}
section
variable{w w':World}{O:Nat→Prop}{T:Int × Int→Nat}{mb:Nat}{m:Ms}
theorem mP.iface{u:Value}{x:V}(h:mP β w O T u x):∃ ty y,u=.iface ty y:=by cases h<;>exact⟨_,_,rfl⟩
theorem mP.at{ao:Option Addr}{n cap:Nat}{l:List V}(h:mP β w O T (.iface 148 (.slice ao n cap)) (.list l)){i:Nat}{x:V}(hi:l[i]?=some x):∃ g ty y,ao=some ⟨g,0,none⟩∧w.cell? ⟨g,i,none⟩=some (.iface ty y)∧mP β w O T (.iface ty y) x∧∀ O' w',Kv β O O' w w'→w'.cell? ⟨g,i,none⟩=some (.iface ty y):=by
 cases h with
 | list _ _ _ vs hc hr hp =>
  obtain⟨g,c,f,e,-,-,h3⟩:=hr i (dP.1 hi).1;have h4:=hp i x hi;obtain⟨ty,y,e2⟩:=h4.iface;rw[e2] at h3 h4;refine⟨g,ty,y,e,h3,h4,fun O' w' hk=>?_⟩;obtain⟨g',c',f',e',-,-,h5⟩:=(hr.keep hk (by decide)) i (dP.1 hi).1;rw[e] at e';cases e'
  rw[h5,e2]
theorem mP.bA5{ao:Option Addr}{n cap:Nat}{x:V}(h:mP β w O T (.iface 148 (.slice ao n cap)) x):n≤9223372036854775807:=by
 cases h with
 | list _ _ _ vs hc hr hp=>have h1:=hc.1;have h2:=hc.2;unfold maxLen at h2;omega
def spS(r:E.Br)(a b:List V):E.Br:=match r with
 | (.ok true,f')=>E.kR a b f'
 | x=>x
theorem Jd(x y:V)(a b:List V)(f:Nat)(hf:f≠0):E.kR (x::a) (y::b) f=spS (E.same x y (f - 1)) a b:=by
 rw[E.kR,aG hf];rfl
def spR(a b:List V)(f:Nat):E.Br:=if a.length=b.length then E.kR a b f else(.ok false,f)
theorem Je(a b:List V)(HS:∀ x,x∈a→SC β x)(ao bo:Option Addr)(cap cap2:Nat)(hM:fE β w O T mb m)(hu:mP β w O T (.iface 148 (.slice ao a.length cap)) (.list a))(hv:mP β w O T (.iface 148 (.slice bo b.length cap2)) (.list b)) :
  Calls prog 245 #[.pointer (some ⟨mb,0,none⟩),.slice ao a.length cap,.slice bo b.length cap2] w fun e w'=>SmR β O T mb w m (spR a b m.fu) e w':=by
 by_cases hl:a.length=b.length
 case neg =>
  have HE:Hid (spR a b m.fu=(.ok false,m.fu)):=aG hl;have HM:=au hM;have hq:((a.length:Int) !=(b.length:Int))=true:=by rw[bne_iff_ne];omega
  have hq2:((a.length:Int)==(b.length:Int))=false:=jQ (by omega);clear hM hu hv HS hl;generalize a.length=n at *;generalize b.length=k at *;go_enter func245,ntmps245;go_wp2_with fail
  go_ret2;rw[HE.o];exact⟨rfl,O,Kv.refl _ _,HM.o⟩
 case pos =>
  have HE:Hid (spR a b m.fu=E.kR a b m.fu):=aL hl;have HM:Hid (∃ O' f,Kv β O O' w w∧fE β w O' T mb { m with fu:=f }∧E.kR a b m.fu=E.kR (a.drop 0) (b.drop 0) f):=⟨O,m.fu,Kv.refl _ _,hM,rfl⟩;have HU:=au hu;have HV:=au hv;have HSS:=au HS;obtain⟨n,hn⟩:∃ n,a.length=n:=⟨_,rfl⟩;have hn2:b.length=n:=by omega
  have HN:=au hn;have Jf:=au hn2;rw[hn] at HU ⊢;rw[hn2] at HV ⊢;have hn9:n≤9223372036854775807:=(HU.o).bA5;clear hM hu hv HS hl hn hn2;go_enter func245,ntmps245;go_wp2_with fail
  go_loopw [19] (fun iv wr=>∃ i:Nat,iv=.int .i64 i∧i≤n∧Hid (∃ O' f,Kv β O O' w wr∧fE β wr O' T mb { m with fu:=f }∧E.kR a b m.fu=E.kR (a.drop i) (b.drop i) f)) (fun iv _=>n - (intOf iv).toNat)
  case atStart=>exact⟨0,rfl,aX _,HM⟩
  case round =>
   obtain⟨i,rfl,hi,HI⟩:=hrel;by_cases hlt2:i<n
   case pos =>
    have i1:decide (i<n)=true:=by simp;omega
    have i2:decide ((i:Int)<(n:Int))=true:=by simp;omega
    obtain⟨O1,f,k1,h1,heq⟩:=HI.o;have hla:=HN.o;have hlb:=Jf.o;rw[bP (by omega:i<a.length),bP (by omega:i<b.length)] at heq;have ga:a[i]?=some (a[i]'(by omega)):=aC (by omega);have gb:b[i]?=some (b[i]'(by omega)):=aC (by omega);have HSX:=au (HSS.o _ (List.getElem_mem (by omega:i<a.length)));generalize a[i]'(by omega)=xa at *;generalize b[i]'(by omega)=xb at *;have HQ:=au heq;have HGA:=au ga;have HGB:=au gb;have HB:=au (Ci h1);have wP:=au k1;have HM1:=au h1;clear heq ga gb hla hlb k1 h1 HI;go_wp2_with fail
    refine(HB.o).mono ?_;rintro e w2 (⟨hf,rfl,rfl⟩|⟨hf,rfl,H2⟩)
    ·have HF:Hid (f=0):=hf
     clear hf HB;go_wp2_with fail
     go_ret2;have hm1:=HM1.o;rw[HF.o] at hm1;rw[HE.o,HQ.o,HF.o];exact⟨rfl,by decide,O1,wP.o,hm1⟩
    ·obtain⟨O2,k2,h2⟩:=H2.o
     have hf':f≠0:=hf;have k02:=(wP.o).trans k2;have kd:Kv β O2 O2 w2 w2.drew:=Kv.aI (ay _ w2).drew;have Yr:=k02.trans kd;obtain⟨g,ty,y,rfl,ca,va,fa⟩:=((HU.o).keep Yr).at HGA.o;obtain⟨g2,UO,y2,rfl,cb,vb,fb⟩:=((HV.o).keep Yr).at HGB.o;have HX:Hid (Calls prog 241 #[.pointer (some ⟨mb,0,none⟩),.iface ty y,.iface UO y2] w2.drew fun e w'=>SmR β O2 T mb w2.drew { m with fu:=f - 1 } (E.same xa xb (f - 1)) e w'):=HSX.o _ O2 T mb _ _ _ xb (h2.below (ay _ w2).drew) va vb;have HFA:=au fa;have HFB:=au fb;have ca':w2.cell? ⟨g,i,none⟩=some (.iface ty y):=ca;have cb':w2.cell? ⟨g2,i,none⟩=some (.iface UO y2):=cb;have qi:=au Yr;have HQ2:Hid (E.kR a b m.fu=spS (E.same xa xb (f - 1)) (a.drop (i+1)) (b.drop (i+1))):=(HQ.o).trans (Jd _ _ _ _ _ hf');have HF:=au hf';have j0:(0:Int)≤(i:Int):=bU _;have j1:(i:Int)<(n:Int):=by omega
     clear hf hf' k02 kd Yr va vb h2 k2 H2 HB HQ ca cb fa fb;go_wp2_with fail
     refine bH (S:=fun w'=>w'.cell? ⟨g,i,none⟩=some (.iface ty y)∧w'.cell? ⟨g2,i,none⟩=some (.iface UO y2)) (z:=14) (by kernel_rfl) ?_;have hS:w2.drew.cell? ⟨g,i,none⟩=some (.iface ty y)∧w2.drew.cell? ⟨g2,i,none⟩=some (.iface UO y2):=⟨ca',cb'⟩;iterate 9(refine lS hS ?_;simp only[Act.put,ax,aD,aF])
     refine bD 9 fun K hK=>?_;go_simp;refine(HX.o).mono ?_;intro e w3 hD;clear hS ca' cb' HX;generalize E.same xa xb (f - 1)=rr at *;obtain⟨res,f'⟩:=rr;cases res with
     | error k =>
      obtain⟨rfl,hk0,O3,k3,h3⟩:=hD;have N_:Hid (fE β w3 O3 T mb { m with fu:=f' }):=h3;have rY:=au ((qi.o).trans k3);have TK:=au hk0;have hS:w3.cell? ⟨g,i,none⟩=some (.iface ty y)∧w3.cell? ⟨g2,i,none⟩=some (.iface UO y2):=⟨HFA.o _ _ k3,HFB.o _ _ k3⟩;dsimp only;refine hK.o _ _ (fun _=>hS) (fun _=>?_);clear hK K;clear k3 hk0 h3;refine bD 10 fun K hK=>?_;go_simp;refine hK.o _ _ (fun _=>hS) (fun _=>?_);clear hK K;iterate 2(refine lS hS ?_;simp only[Act.put,List.setIfInBounds_toArray,List.set_cons_zero,List.set_cons_succ])
      refine bD 13 fun K hK=>?_;go_simp;refine hK.o _ _ (fun _=>hS) (fun _=>?_);clear hK K;refine bD 14 fun K hK=>?_;go_simp;refine hK.o _ _ (fun _=>hS) (fun _=>fB ?_);clear hK K hS;go_wp2_with fail
      go_ret2;rw[HE.o,HQ2.o];exact⟨rfl,TK.o,O3,rY.o,N_.o⟩
     | ok d =>
      obtain⟨rfl,O3,k3,h3⟩:=hD;have rY:=au ((qi.o).trans k3);have N_:Hid (fE β w3 O3 T mb { m with fu:=f' }):=h3;have hS:w3.cell? ⟨g,i,none⟩=some (.iface ty y)∧w3.cell? ⟨g2,i,none⟩=some (.iface UO y2):=⟨HFA.o _ _ k3,HFB.o _ _ k3⟩;dsimp only;refine hK.o _ _ (fun _=>hS) (fun _=>?_);clear hK K;clear k3 h3;cases d with
      | false =>
       refine bD 10 fun K hK=>?_;go_simp;refine hK.o _ _ (fun _=>hS) (fun _=>?_);clear hK K;iterate 2(refine lS hS ?_;simp only[Act.put,ax,aD,aF])
       refine bD 13 fun K hK=>?_;go_simp;refine hK.o _ _ (fun _=>hS) (fun _=>?_);clear hK K;refine bD 14 fun K hK=>?_;go_simp;refine hK.o _ _ (fun _=>hS) (fun _=>fB ?_);clear hK K hS;go_wp2_with fail
       go_ret2;rw[HE.o,HQ2.o];exact⟨rfl,O3,rY.o,N_.o⟩
      | true =>
       refine bD 10 fun K hK=>?_;go_simp;refine hK.o _ _ (fun _=>hS) (fun _=>?_);clear hK K;iterate 2(refine lS hS ?_;simp only[Act.put,ax,aD,aF])
       refine bD 13 fun K hK=>?_;go_simp;refine hK.o _ _ (fun _=>hS) (fun _=>?_);clear hK K;refine bD 14 fun K hK=>?_;go_simp;refine hK.o _ _ (fun _=>hS) (fun _=>fB ?_);clear hK K hS;go_wp2_with fail
       exact⟨⟨i+1,by go_num,by omega,O3,f',rY.o,N_.o,HQ2.o⟩,by simp only[intOf];omega⟩
   case neg =>
    obtain rfl:i=n:=by omega
    have i1:decide (i<i)=false:=by simp
    have i2:decide ((i:Int)<(i:Int))=false:=by simp
    have HZ:Hid (∃ O' f,Kv β O O' w wr∧fE β wr O' T mb { m with fu:=f }∧spR a b m.fu=(.ok true,f)):=by
     obtain⟨O1,f,k1,h1,heq⟩:=HI.o;refine⟨O1,f,k1,h1,?_⟩;rw[HE.o,heq,iw (by have:=HN.o;omega),iw (by have:=Jf.o;omega)];rfl
    clear HI;go_wp2_with fail
    go_ret2;obtain⟨O1,f,k1,h1,h2⟩:=HZ.o;rw[h2];exact⟨rfl,O1,k1,h1⟩
end
end
section
open Tryz
open E (St Bo V Fr Ms Rs)
variable{β:Nat}
section
variable{w w':World}{O:Nat→Prop}{T:Int × Int→Nat}{mb:Nat}{m:Ms}
theorem MI(h:fE β w O T mb m)(hl:m.fr.vs.length<1073741823) :
  Calls prog 66 #[.pointer (some ⟨mb,0,none⟩),.nilIface] w fun e w'=>e=.returned (.tuple #[])∧Hid (∃ O',Kv β O O' w w'∧True):=by
 obtain⟨i0,hi0,hz0,hz1,hz2⟩:=gB DW;obtain⟨cs,sv,nv,ev,vv,bv,bc,ro,h⟩:=h;obtain⟨vc,hrow,pE⟩:=h.fr.vs.ex;have c3:=h.cell h.c3;have f3:=h.vB 3;have hml:=h.lt;have hmv:∀ g,vv.ownBlock=some g→g≠mb:=fun g hg e=>by
  subst e;obtain⟨c2,h2⟩:=eX hrow hg;exact d_ h2 h.blk (by decide)
 have H:=au h;have HR:=au hrow;have HV:=au pE;have HG:=au hmv;generalize hn:m.fr.vs.length=n at *;clear h hrow pE hmv;go_enter func66,ntmps66;go_wp2_with (at_builtin;refine wpList_append_lies _ rfl _ _ 80 rfl 0 40 i0 _ 1 16 underlying80 hi0 hz0 hz1 hz2 rfl (by decide) vv n _ rfl ((HR.o).alloc _) ⟨w.heap.size,0,none⟩ 1 1 [.nilIface] rfl rfl (World.news_of_block (cs:=#[.nilIface]) (aB w _)) (by simp[Value.oneCell']) (by omega) (by unfold maxLen;omega) (by omega) (aX _) (w.heap.size+1) (by simp) ?_;intro g cap5 w5 hown5 cB nW A9;have x1:w5.cell? ⟨mb,3,none⟩=some vv:=(cB.cell_far ⟨mb,3,none⟩ (by simp;omega) (fun e=>(HG.o) mb e.symm rfl)).trans (Lib.cell?_alloc_some _ c3);have x2:w5.frozen? ⟨mb,3,none⟩=false:=(cB.frozen_far ⟨mb,3,none⟩ (by simp;omega) (fun e=>(HG.o) mb e.symm rfl)).trans ((bN _ _ ⟨mb,3,none⟩ (uS hml)).trans f3);have Bp:=au hown5;have tZ:=au cB;clear hown5 cB)
 go_end0;have h:=H.o;have hk1:Kp (Sm mb vv) w w5:=Kp.grown (Kp.alloc (Kp.refl _ w) _) tZ.o (fun k e _=>.inr e);have hk:Kp (Sm mb vv) w (w5.setCell ⟨mb,3,none⟩ (.slice (some ⟨g,0,none⟩) (n+1) cap5)):=Kp.setCell hk1 (p:=⟨mb,3,none⟩) (fun _=>.inl rfl) _;exact⟨rfl,O,h.kv hk (fun _ _ e=>e),trivial⟩
theorem mP.asL{u:Value}{l:V}(h:mP β w O T u l):(∃ ao cap b,l=.list b∧u=.iface 148 (.slice ao b.length cap))∨((∀ w,(Instr.typeAssert u 40 148 true).run prog w=.ok (.tuple #[.slice none 0 0,.bool false]) w)∧∀ x,l≠.list x):=by
 cases h with
 | int n hn=>exact .inr ⟨Yd n,fun _ e=>by cases e⟩
 | mH b=>exact .inr ⟨Yg b,fun _ e=>by cases e⟩
 | txt b x h=>exact .inr ⟨Yi b,fun _ e=>by cases e⟩
 | list ao cap l vs hc hr hp=>exact .inl ⟨ao,cap,l,rfl,rfl⟩
 | fn fb bb a b env h ho hb he=>exact .inr ⟨PV fb,fun _ e=>by cases e⟩
theorem mP.lst{u:Value}{a:List V}(h:mP β w O T u (.list a)):∃ ao cap,u=.iface 148 (.slice ao a.length cap):=by
 cases h with
 | list ao cap _ vs hc hr hp=>exact⟨ao,cap,rfl⟩
theorem MJ(a:List V)(HS:∀ x,x∈a→SC β x):SC β (.list a):=by
 intro w O T mb m u v y hM hu hv;obtain⟨ao,cap,rfl⟩:=hu.lst;have hA1:=I4 ao a.length cap;have hA2:=D8 ao a.length cap;have hA3:=I5 ao a.length cap;have hA4:=I6 ao a.length cap;rcases hv.asL with ⟨bo,cap2,b,rfl,rfl⟩|⟨hB,hn⟩
 ·have hB:=I6 bo b.length cap2
  have HX:=au (Je a b HS ao bo cap cap2 hM hu hv);have HE:Hid (E.same (.list a) (.list b) m.fu=spR a b m.fu):=by show _=_;rw[E.same];rfl
  clear hM hu hv HS;generalize a.length=n at *;generalize b.length=k at *;go_enter func241,ntmps241;go_wp2_with fail
  refine(HX.o).mono ?_;intro e w2 hD;obtain⟨rr,hr⟩:∃ rr,spR a b m.fu=rr:=⟨_,rfl⟩;rw[hr] at hD;have HR:=au ((HE.o).trans hr);clear HX HE hr;obtain⟨res,f⟩:=rr;cases res with
  | ok d =>
   obtain⟨rfl,h1⟩:=hD;have H1:=au h1;clear h1;go_wp2_with fail
   go_ret2;rw[HR.o];exact⟨rfl,H1.o⟩
  | error k =>
   obtain⟨rfl,h1⟩:=hD;have H1:=au h1;clear h1;go_wp2_with fail
   go_ret2;rw[HR.o];exact⟨rfl,H1.o⟩
 ·have HM:=au hM
  have HE:Hid (E.same (.list a) y m.fu=(.error 10,m.fu)):=by
   show _=_;cases y<;>first|rfl|(rw[E.same];done)|exact absurd rfl (hn _)|simp[E.same]
  clear hM hu hv hn HS;generalize a.length=n at *;go_enter func241,ntmps241;go_wp2_with fail
  go_ret2;rw[HE.o];exact⟨rfl,by decide,O,Kv.refl _ _,HM.o⟩
theorem FO(x:V):SC β x:=match x with
 | .int n=>P_ n
 | .mH b=>Qa b
 | .txt x=>Qd x
 | .fn b env=>UN b env
 | .list a=>MJ a (fun y _hy=>FO y)
termination_by SizeOf.sizeOf x
decreasing_by
 have:=List.sizeOf_lt_of_mem _hy;simp only[V.list.sizeOf_spec];omega
end
end
section
open Tryz
open E (St Bo V Fr Ms Rs)
variable{x:Except Nat V}{e:Ending}
variable{β:Nat}
section
variable{w w':World}{O:Nat→Prop}{T:Int × Int→Nat}{mb:Nat}{m:Ms}{u v:Value}{l r:V}
def CmR(β:Nat)(O:Nat→Prop)(T:Int × Int→Nat)(mb:Nat)(w:World)(m:Ms)(c:E.Cr)(e:Ending)(w':World):Prop:=match c with
 | (.ok x,f)=>∃ ty z,e=.returned (.tuple #[.iface ty z,.int .i64 0])∧∃ O',Kv β O O' w w'∧fE β w' O' T mb { m with fu:=f }∧mP β w' O' T (.iface ty z) x
 | (.error k,f)=>∃ y,e=.returned (.tuple #[y,.int .i64 k])∧k≠0∧(y=.nilIface∨y=.iface 4 (.bool false))∧∃ O',Kv β O O' w w'∧fE β w' O' T mb { m with fu:=f }
theorem CmR.of(hb:Below w.heap.size w w')(hM:fE β w O T mb m)(hk:∀ k,x=.error k→k≠0)(h:P8 β w' O T x e):CmR β O T mb w m (x,m.fu) e w':=by
 cases x with
 | ok x =>
  obtain⟨y,rfl,h1⟩:=h;obtain⟨ty,z,rfl⟩:=h1.iface;exact⟨ty,z,rfl,O,Kv.aI hb,hM.below hb,h1⟩
 | error k=>exact⟨_,h,hk k rfl,.inl rfl,O,Kv.aI hb,hM.below hb⟩
theorem Qe(l r:V)(k:Nat)(h:vH l r=.error k):k≠0:=by
 unfold vH at h
 split at h
 ·split at h<;>cases h;decide
 ·cases h;decide
theorem UQ(x:ah)(l r:V)(k:Nat)(h:Bz x l r=.error k):k≠0:=by
 unfold Bz at h
 split at h
 ·split at h
  ·cases h
  ·split at h<;>cases h;decide
 ·cases h;decide
theorem P8.form(h:P8 β w' O T x e):∃ y k,e=.returned (.tuple #[y,k]):=by
 cases x with
 | ok x=>obtain⟨y,rfl,-⟩:=h;exact⟨_,_,rfl⟩
 | error k=>exact⟨_,_,h⟩
theorem UR(x:ah)(f:Nat)(h:x=[61,61]):E.comb x l r f=(match E.same l r f with|(.ok b,f')=>(.ok (.mH b),f')|(.error e,f')=>(.error e,f')):=aL h
theorem MK(x:ah)(f:Nat)(h:x=[43,43]):E.comb x l r f=(vH l r,f):=by
 unfold E.comb;rw[aG (by rw[h];decide),aL h];cases l with
 | txt a =>
  cases r with
  | txt b=>by_cases e:20000<a.length+b.length<;>simp[vH,e]
  | _=>rfl
 | _=>rfl
theorem Qf(x:ah)(f:Nat)(h1:x≠[61,61])(h2:x≠[43,43]):E.comb x l r f=(Bz x l r,f):=by
 unfold E.comb;rw[aG h1,aG h2];cases l with
 | int a =>
  cases r with
  | int b =>
   by_cases e:x=[60]
   ·simp[Bz,e]
   ·cases e2:E.uJ x a b<;>simp[Bz,e,e2]
  | _=>rfl
 | _=>rfl
theorem Ed(x:ah)(hM:fE β w O T mb m)(hl:mP β w O T u l)(hr:mP β w O T v r) :
  Calls prog 240 #[.pointer (some ⟨mb,0,none⟩),.string (ba x),u,v] w fun e w'=>CmR β O T mb w m (E.comb x l r m.fu) e w':=by
 by_cases h1:x=[61,61]
 ·have hq:((ba x).toList==[61,61])=true:=by rw[Oc,h1];rfl
  have HE:=au (UR (l:=l) (r:=r) x m.fu h1);have HX:=au (FO l w O T mb m u v r hM hl hr);clear h1 hM hl hr;generalize ba x=s at *;go_enter func240,ntmps240;go_wp2_with fail
  refine(HX.o).mono ?_;intro e w2 hD;obtain⟨rr,hr⟩:∃ rr,E.same l r m.fu=rr:=⟨_,rfl⟩;rw[hr] at hD;have HE2:=HE.o;rw[hr] at HE2;have HR:=au HE2;clear HX HE hr HE2;obtain⟨res,f⟩:=rr;cases res with
  | ok d =>
   obtain⟨rfl,h1⟩:=hD;have H1:=au h1;clear h1;go_wp2_with fail
   go_ret2;rw[HR.o];obtain⟨O',k1,k2⟩:=H1.o;exact⟨_,_,rfl,O',k1,k2,.mH d⟩
  | error k =>
   obtain⟨rfl,h1⟩:=hD;have H1:=au h1;clear h1;go_wp2_with fail
   go_ret2;rw[HR.o];obtain⟨h0,O',k1,k2⟩:=H1.o;exact⟨_,rfl,h0,.inr rfl,O',k1,k2⟩
 ·by_cases h2:x=[43,43]
  ·have hq:((ba x).toList==[61,61])=false:=by rw[Oc,h2];rfl
   have hq2:((ba x).toList==[43,43])=true:=by rw[Oc,h2];rfl
   have HE:=au (MK (l:=l) (r:=r) x m.fu h2);have HX:=au (Ja hl hr);have HM:=au hM;clear h1 h2 hM hl hr;generalize ba x=s at *;go_enter func240,ntmps240;go_wp2_with fail
   refine(HX.o).mono ?_;rintro e w2 ⟨hb,hD⟩;have HC:=au (CmR.of hb HM.o (Qe l r) hD);obtain⟨y,k,rfl⟩:=hD.form;clear hD HX hb;go_wp2_with fail
   go_ret2;rw[HE.o];exact HC.o
  ·have hq:((ba x).toList==[61,61])=false:=by rw[Oc];exact jQ h1
   have hq2:((ba x).toList==[43,43])=false:=by rw[Oc];exact jQ h2
   have HE:=au (Qf (l:=l) (r:=r) x m.fu h1 h2);have HX:=au (Ec x hl hr);have HM:=au hM;clear h1 h2 hM hl hr;generalize ba x=s at *;go_enter func240,ntmps240;go_wp2_with fail
   refine(HX.o).mono ?_;rintro e w2 ⟨rfl,hD⟩;have HC:=au (CmR.of (ay _ _) HM.o (UQ x l r) hD);obtain⟨y,k,rfl⟩:=hD.form;clear hD HX;go_wp2_with fail
   go_ret2;rw[HE.o];exact HC.o
end
end
section
open Tryz
open E (St Bo V Fr Ms Rs)
variable{β:Nat}
section
variable{w w':World}{O:Nat→Prop}{T:Int × Int→Nat}{mb:Nat}{m:Ms}
def aK3(m:Ms)(l:List V)(c:E.Cr):Rs:=match c with
 | (.ok v,f)=>.on { m with fr:={ m.fr with vs:=l++[v] },fu:=f }
 | (.error e,_)=>.err e
theorem z8(x:ah)(l:List V)(a b:V)(h:fE β w O T mb m)(hv:m.fr.vs=l++[a]++[b])(hl:l.length<1073741822) :
  Calls prog 239 #[.agg #[.string (ba x)],.pointer (some ⟨mb,0,none⟩)] w fun e w'=>Bq β O T mb w (aK3 m l (E.comb x a b m.fu)) e w':=by
 have hba:=bQ w (.cells #[.string (ba x)] 242);have hbx:(w.alloc (.cells #[.string (ba x)] 242)).heap[w.heap.size]?=some (.cells #[.string (ba x)] 242 (0,0)):=aB w _;have hno:¬ O w.heap.size:=h.new (aj _);have Km:=au (qJ (l++[a]) b (h.below hba) hv (by simp;omega));have HBX:=au hbx;have HA:=au hba;clear h hv hbx hba;go_enter func239,ntmps239;go_wp2_with fail
 generalize w.alloc (.cells #[.string (ba x)] 242)=w1 at *;refine(Km.o).mono ?_;rintro e w2 ⟨vb,rfl,H2⟩;obtain⟨O2,k2,h2,b2⟩:=H2.o;have sD:=au (qJ l a h2 rfl (by omega));have HB2:=au b2;have mZ:=au ((Kv.aI HA.o).trans k2);have HX2:=au (k2.heap HBX.o hno (by decide));have bA6:=k2.own HBX.o hno;clear k2 h2 b2 H2 Km;go_wp2_with fail
 refine(sD.o).mono ?_;rintro e w3 ⟨va,rfl,H3⟩;obtain⟨O3,k3,h3,a3⟩:=H3.o;have hx3:=k3.heap HX2.o bA6 (by decide);have c3:=ai w3 _ 0 _ _ _ hx3;have HC:=au (Ed x h3 a3 ((HB2.o).keep k3));have qi:=au ((mZ.o).trans k3);clear k3 h3 a3 H3 sD hx3 HX2 HB2;obtain⟨cr,hcr⟩:∃ cr,E.comb x a b m.fu=cr:=⟨_,rfl⟩;have HCR:=au hcr;have tV:Hid (Calls prog 240 #[.pointer (some ⟨mb,0,none⟩),.string (ba x),va,vb] w3 fun e w'=>CmR β O3 T mb w3 { m with fr:={ m.fr with vs:=l } } cr e w'):=by
  rw[← hcr];exact HC.o
 clear HC hcr;generalize ba x=s at *;go_wp2_with fail
 refine(tV.o).mono ?_;intro e w4 hD;clear tV c3;obtain⟨res,f⟩:=cr;cases res with
 | ok z =>
  obtain⟨ty,y,rfl,O4,k4,h4,v4⟩:=hD;have HP:=au (mY (.iface ty y) z h4 v4 (by show l.length<_;omega));have rY:=au ((qi.o).trans k4);clear k4 h4 v4;go_wp2_with fail
  refine(HP.o).mono ?_;rintro e w5 ⟨rfl,H5⟩;clear HP;go_wp2_with fail
  go_ret;rw[HCR.o];obtain⟨O5,k5,h5⟩:=H5.o;exact⟨rfl,O5,(rY.o).trans k5,h5⟩
 | error k =>
  obtain⟨y,rfl,hk0,hy,O4,k4,h4⟩:=hD;have rY:=au ((qi.o).trans k4);have TK:=au hk0;rcases hy with rfl|rfl
  ·have HP:=au (MI h4 (by show l.length<_;omega))
   clear k4 h4 hk0;go_wp2_with fail
   refine(HP.o).mono ?_;rintro e w5 ⟨rfl,H5⟩;clear HP;go_wp2_with fail
   go_ret;rw[HCR.o];obtain⟨O5,k5,-⟩:=H5.o;exact⟨rfl,TK.o,O5,(rY.o).trans k5⟩
  ·have HP:=au (mY (.iface 4 (.bool false)) (.mH false) h4 (.mH false) (by show l.length<_;omega))
   clear k4 h4 hk0;go_wp2_with fail
   refine(HP.o).mono ?_;rintro e w5 ⟨rfl,H5⟩;clear HP;go_wp2_with fail
   go_ret;rw[HCR.o];obtain⟨O5,k5,-⟩:=H5.o;exact⟨rfl,TK.o,O5,(rY.o).trans k5⟩
end
end
section
open Tryz
open E (St Bo V Fr Ms Rs)
variable{β:Nat}
section
variable{w w':World}{O:Nat→Prop}{T:Int × Int→Nat}{mb:Nat}{m:Ms}{D:Int × Int→Nat × List St}
def DoA (β : Nat) (w : World) (O : Nat → Prop) (T : Int × Int → Nat) (mb : Nat) (r : Rs) (u : Value) : Prop := ∃ ty v Qg, u = .iface ty v ∧ (∀ wx, (nilAhead 517 ty v "amanuensis/value.do").run Tryz.prog wx = .ok (some false) wx) ∧ (∀ wx, (method 517 ty v "amanuensis/value.do").run Tryz.prog wx = .ok (Qg, v) wx) ∧ (∀ wx, (callFunc Qg #[v, .pointer (some ⟨mb, 0, none⟩)]).run Tryz.prog wx = .ok (.enter Qg #[v, .pointer (some ⟨mb, 0, none⟩)]) wx) ∧ Calls Tryz.prog Qg #[v, .pointer (some ⟨mb, 0, none⟩)] w fun e w' => Bq β O T mb w r e w'
theorem yV{x:V}(h:E.push m x≠.bad):∃ m',E.push m x=.on m':=by
 unfold E.push at h ⊢
 split
 ·exact⟨_,rfl⟩
 ·next g=>rw[aG g] at h;exact absurd rfl h
theorem vI{x:V}(h:E.push m x≠.bad):E.push m x=.on { m with fr:={ m.fr with vs:=m.fr.vs++[x] } }:=by
 unfold E.push at h ⊢
 split
 ·rfl
 ·next g=>rw[aG g] at h;exact absurd rfl h
theorem vJ{b:Bo}{env:List (List V)}(h:E.enter D m b env≠.bad):(m.bk.length<1073741823∧(E.g_ D b).2.length≤1073741824)∧E.enter D m b env=Bw m (E.g_ D b).2 env:=by
 unfold E.enter at h ⊢
 split
 ·next g=>exact⟨by omega,rfl⟩
 ·next g=>rw[aG g] at h;exact absurd rfl h
theorem ru{l:List V}{x:V}(h:l[l.length - 1]?=some x):l=l.take (l.length - 1)++[x]:=by
 obtain⟨h1,h2⟩:=dP.1 h;have h3:l.drop (l.length - 1)=[x]:=by
  rw[bP h1,h2,iw (by omega)]
 rw[← h3,dA]
theorem Yt{u:Value}{s:St}(hct:CT β w O T D)(h:fE β w O T mb m)(hs:jP β w O T u s)(hl:m.fr.vs.length<1073741823)(hb:E.act D m s≠.bad):DoA β w O T mb (E.act D m s) u:=by
 cases hs with
 | int n hn=>exact⟨_,_,232,rfl,fun _=>by kernel_rfl,fun _=>by kernel_rfl,fun _=>by kernel_rfl,lD _ _ h (.int n hn) (yV hb)⟩
 | mH b=>exact⟨_,_,232,rfl,fun _=>by kernel_rfl,fun _=>by kernel_rfl,fun _=>by kernel_rfl,lD _ _ h (.mH b) (yV hb)⟩
 | txt b x hx=>exact⟨_,_,232,rfl,fun _=>by kernel_rfl,fun _=>by kernel_rfl,fun _=>by kernel_rfl,lD _ _ h (.txt b x hx) (yV hb)⟩
 | Ih d b h1 ho hd=>exact⟨_,_,232,rfl,fun _=>by kernel_rfl,fun _=>by kernel_rfl,fun _=>by kernel_rfl,lD _ _ h (.fn b (T d) (.pointer none) (.d d) [] h1 ho ⟨rfl,hd⟩ .nil) (yV hb)⟩
 | loc up ix hu =>
  have hb':=hb;simp only[E.act] at hb';cases h1:m.fr.env[up]? with
  | none=>rw[h1] at hb';exact absurd rfl hb'
  | some b =>
   rw[h1] at hb';cases h2:b[ix]? with
   | none=>simp only[h2] at hb';exact absurd rfl hb'
   | some x =>
    simp only[h2] at hb';have e:E.act D m (.loc up ix)=.on { m with fr:={ m.fr with vs:=m.fr.vs++[x] } }:=by
     simp only[E.act,h1,h2];exact vI hb'
    rw[e];exact⟨_,_,259,rfl,fun _=>by kernel_rfl,fun _=>by kernel_rfl,fun _=>by kernel_rfl,Ea up ix b x h h1 h2 hl hu⟩
 | stk=>exact⟨_,_,256,rfl,fun _=>by kernel_rfl,fun _=>by kernel_rfl,fun _=>by kernel_rfl,D6⟩
 | vis d hd =>
  obtain⟨⟨e1,e2⟩,e3⟩:=vJ hb;exact⟨_,_,220,rfl,fun _=>by kernel_rfl,fun _=>by kernel_rfl,fun _=>by kernel_rfl,by
   have:=D_ (T d) (D d).1 (D d).2 h (hct d hd) e2 e1;rw[show E.act D m (.vis d)=Bw m (D d).2 [] from e3];exact this⟩
 | enc n b c ao cap vs h1 ho hn hc hr hp =>
  have e:=vI hb;rw[show E.act D m (.enc n c)=_ from e];exact⟨_,_,237,rfl,fun _=>by kernel_rfl,fun _=>by kernel_rfl,fun _=>by kernel_rfl,zY b n c h ⟨⟨_,h1,⟨ao,cap,vs,rfl,hc.1,hc.2,hr,hp⟩⟩,ho,hn⟩ hl⟩
 | EK n hn =>
  have hb':=hb;simp only[E.act] at hb';by_cases g:n≤m.fr.vs.length
  ·rw[aL g] at hb'
   have e:E.act D m (.EK n)=.on { m with fr:={ m.fr with vs:=m.fr.vs.take (m.fr.vs.length - n)++[.list (m.fr.vs.drop (m.fr.vs.length - n))] } }:=by
    simp only[E.act,aL g];exact vI hb'
   rw[e];exact⟨_,_,254,rfl,fun _=>by kernel_rfl,fun _=>by kernel_rfl,fun _=>by kernel_rfl,Bu _ _ n h (dA _ _).symm (by rw[bM];omega) hl⟩
  ·rw[aG g] at hb';exact absurd rfl hb'
 | DL x =>
  have hb':=hb;simp only[E.act] at hb';cases h1:m.fr.vs[m.fr.vs.length - 2]? with
  | none=>simp only[h1] at hb';exact absurd rfl hb'
  | some a =>
   cases h2:m.fr.vs[m.fr.vs.length - 1]? with
   | none=>simp only[h1,h2] at hb';exact absurd rfl hb'
   | some b =>
    simp only[h1,h2] at hb';by_cases g:m.fr.vs.length<2
    ·rw[aL g] at hb';exact absurd rfl hb'
    ·rw[aG g] at hb'
     have hv:m.fr.vs=m.fr.vs.take (m.fr.vs.length - 2)++[a]++[b]:=by
      obtain⟨q1,q2⟩:=dP.1 h1;obtain⟨q3,q4⟩:=dP.1 h2;have q5:m.fr.vs.drop (m.fr.vs.length - 2)=[a,b]:=by
       rw[bP q1,q2,show m.fr.vs.length - 2+1=m.fr.vs.length - 1 by omega,bP q3,q4,iw (by omega)]
      rw[aA,show [a]++[b]=[a,b] from rfl,← q5,dA]
     have e:E.act D m (.DL x)=aK3 m (m.fr.vs.take (m.fr.vs.length - 2)) (E.comb x a b m.fu):=by
      simp only[E.act,h1,h2,aG g];generalize E.comb x a b m.fu=cr at hb' ⊢;obtain⟨res,f⟩:=cr;cases res with
      | ok z=>exact vI hb'
      | error k=>rfl
     rw[e];exact⟨_,_,239,rfl,fun _=>by kernel_rfl,fun _=>by kernel_rfl,fun _=>by kernel_rfl,z8 x _ a b h hv (by rw[bL];omega)⟩
 | DR n hn =>
  have hb':=hb;simp only[E.act] at hb';by_cases g:m.fr.vs.length<n+1
  ·rw[aL g] at hb';exact absurd rfl hb'
  ·rw[aG g] at hb'
   cases h1:m.fr.vs[m.fr.vs.length - n - 1]? with
   | none=>simp only[h1] at hb';exact absurd rfl hb'
   | some u =>
    simp only[h1] at hb';obtain⟨q1,q2⟩:=dP.1 h1;have hv:m.fr.vs=m.fr.vs.take (m.fr.vs.length - n - 1)++[u]++m.fr.vs.drop (m.fr.vs.length - n):=by
     have q5:m.fr.vs.drop (m.fr.vs.length - n - 1)=u::m.fr.vs.drop (m.fr.vs.length - n):=by
      rw[bP q1,q2,show m.fr.vs.length - n - 1+1=m.fr.vs.length - n by omega]
     rw[aA,List.singleton_append,← q5,dA]
    have hxl:(m.fr.vs.drop (m.fr.vs.length - n)).length=n:=by rw[bM];omega
    have e:E.act D m (.DR n)=PZ D m (m.fr.vs.take (m.fr.vs.length - n - 1)) (m.fr.vs.drop (m.fr.vs.length - n)) u:=by
     simp only[E.act,aG g,h1];cases u with
     | fn b en =>
      simp only[PZ,hxl];by_cases g2:(E.g_ D b).1=n
      ·simp only[aL g2] at hb' ⊢
       exact(vJ hb').2
      ·simp only[aG g2]
     | _=>rfl
    rw[e];exact⟨_,_,251,rfl,fun _=>by kernel_rfl,fun _=>by kernel_rfl,fun _=>by kernel_rfl,FM D _ u _ n h hv hxl hl hct (fun b en eu hn1=>by
     subst eu;simp only[aL hn1] at hb';exact⟨(vJ hb').1.2,(vJ hb').1.1⟩)⟩
 | bnd =>
  have hb':=hb;simp only[E.act] at hb';by_cases g:m.fr.vs.length<1
  ·rw[aL g] at hb';exact absurd rfl hb'
  ·have h1:m.fr.vs[m.fr.vs.length - 1]?=some (m.fr.vs[m.fr.vs.length - 1]'(by omega)):=aC _
   generalize m.fr.vs[m.fr.vs.length - 1]'(by omega)=x at h1;have h2:=ru h1;have h3:m.fr.vs.drop (m.fr.vs.length - 1)=[x]:=List.append_cancel_left ((dA _ _).trans h2);have e:E.act D m .bnd=.on { m with fr:={ m.fr with vs:=m.fr.vs.take (m.fr.vs.length - 1),env:=[x]::m.fr.env } }:=by
    simp only[E.act,aG g,h3]
   rw[e];exact⟨_,_,260,rfl,fun _=>by kernel_rfl,fun _=>by kernel_rfl,fun _=>by kernel_rfl,FL _ x h h2 hl⟩
 | DT =>
  have hb':=hb;simp only[E.act] at hb';cases h1:m.fr.env with
  | nil=>simp only[h1] at hb';exact absurd rfl hb'
  | cons b env =>
   have e:E.act D m .DT=.on { m with fr:={ m.fr with env:=env } }:=by simp only[E.act,h1]
   rw[e];exact⟨_,_,261,rfl,fun _=>by kernel_rfl,fun _=>by kernel_rfl,fun _=>by kernel_rfl,Bt b env h h1⟩
 | wQ t ht =>
  have hb':=hb;simp only[E.act] at hb';cases h1:m.fr.vs[m.fr.vs.length - 1]? with
  | none=>simp only[h1] at hb';exact absurd rfl hb'
  | some x =>
   have e:E.act D m (.wQ t)=aJ3 m (m.fr.vs.take (m.fr.vs.length - 1)) t x:=by
    simp only[E.act,h1];cases x<;>rfl
   rw[e];exact⟨_,_,262,rfl,fun _=>by kernel_rfl,fun _=>by kernel_rfl,fun _=>by kernel_rfl,Bv _ x t h (ru h1) (by rw[bL];omega) ht⟩
 | Bh t ht=>exact⟨_,_,263,rfl,fun _=>by kernel_rfl,fun _=>by kernel_rfl,fun _=>by kernel_rfl,FD t h ht⟩
end
end
section
open E (St Bo V Fr Ms Rs)
variable{β:Nat}
section
variable{D:Int × Int→Nat × List St}{T:Int × Int→Nat}{mb:Nat}{O:Nat→Prop}{w w' w2:World}{r:Except Nat V}{n k:Nat}
def GoR(β:Nat)(O:Nat→Prop)(T:Int × Int→Nat)(mb:Nat)(w:World)(r:Except Nat V)(e:Ending)(w':World):Prop:=match r with
 | .ok v=>e=.returned (.int .i64 0)∧∃ O' m' l,Kv β O O' w w'∧fE β w' O' T mb m'∧m'.fr.vs=l++[v]∧l.length<1073741823
 | .error k=>e=.returned (.int .i64 k)∧k≠0∧∃ O',Kv β O O' w w'
def yX(β:Nat)(D:Int × Int→Nat × List St)(O:Nat→Prop)(T:Int × Int→Nat)(mb:Nat)(w:World)(r:Except Nat V)(n:Nat)(w':World):Prop:=∃ O' m',Kv β O O' w w'∧fE β w' O' T mb m'∧CT β w' O' T D∧Lm m'∧E.End D m' r n
theorem least{P:Nat→Prop}(h:∃ n,P n):∃ n,P n∧∀ k,P k→n≤k:=by
 obtain⟨n,h⟩:=h
 induction n using Nat.strongRecOn with
 | _ n ih =>
  by_cases g:∃ k,k<n∧P k
  ·obtain⟨k,hk,hp⟩:=g
   exact ih k hk hp
  ·exact⟨n,h,fun k hk=>Nat.le_of_not_lt fun e=>g ⟨k,e,hk⟩⟩
open Classical in
noncomputable def gm(β:Nat)(D:Int × Int→Nat × List St)(O:Nat→Prop)(T:Int × Int→Nat)(mb:Nat)(w:World)(r:Except Nat V)(w':World):Nat:=if h:∃ n,yX β D O T mb w r n w' then(least h).choose else 0
theorem Qh(h:yX β D O T mb w r n w'):gm β D O T mb w r w'≤n:=by
 unfold gm;rw[dif_pos ⟨n,h⟩];exact(least (P:=fun n=>yX β D O T mb w r n w') ⟨n,h⟩).choose_spec.2 n h
theorem WX(h:yX β D O T mb w r n w'):yX β D O T mb w r (gm β D O T mb w r w') w':=by
 unfold gm;rw[dif_pos ⟨n,h⟩];exact(least (P:=fun n=>yX β D O T mb w r n w') ⟨n,h⟩).choose_spec.1
theorem yX.step{O':Nat→Prop}{m m':Ms}(k1:Kv β O O' w w')(hc:CT β w' O' T D)(hL:Lm m)(hE:E.End D m r n)(hi:E.it D m=.on m'){O2:Nat→Prop}(k2:Kv β O' O2 w' w2)(h2:fE β w2 O2 T mb m'):∃ j,n=j+1∧yX β D O T mb w r j w2:=by
 cases hE with
 | fin _ v h=>rw[hi] at h;cases h
 | err _ e h=>rw[hi] at h;cases h
 | on _ m2 _ j h hk =>
  rw[hi] at h;cases h
  exact⟨j,rfl,O2,m',k1.trans k2,h2,hc.keep k2,aK4 hL hi,hk⟩
theorem yX.bad{m:Ms}(hE:E.End D m r n):E.it D m≠.bad:=by
 cases hE with
 | fin _ v h=>rw[h];intro e;cases e
 | err _ e h=>rw[h];intro e;cases e
 | on _ m2 _ j h hk=>rw[h];intro e;cases e
end
end
section
open Tryz
open E (St Bo V Fr Ms Rs)
variable{β:Nat}
section
variable{D:Int × Int→Nat × List St}{T:Int × Int→Nat}{mb:Nat}{O:Nat→Prop}{w w' w2:World}{r:Except Nat V}{n k:Nat}{m:Ms}
theorem yX.open(h:yX β D O T mb w r n w'):∃ O' m ao cap vs bo FE,Kv β O O' w w'∧fE β w' O' T mb m∧CT β w' O' T D∧Lm m∧E.End D m r n ∧
  w'.cell? ⟨mb,0,none⟩=some (.slice ao m.fr.c.length cap)∧w'.cell? ⟨mb,1,none⟩=some (.int .i64 m.fr.nx)∧w'.cell? ⟨mb,4,none⟩=some (.slice bo m.bk.length FE)∧w'.frozen? ⟨mb,1,none⟩=false ∧
  m.fr.c.length≤1073741824∧m.fr.nx≤1073741824∧m.bk.length≤1073741824∧m.fr.c.length≤cap∧cap≤maxLen∧mb<w'.heap.size∧¬ O' w'.heap.size∧Rr w' O' 143 ao m.fr.c.length vs∧(∀(j:Nat) (s:St),m.fr.c[j]?=some s→jP β w' O' T (vs j) s):=by
 obtain⟨O',m,h1,h2,h3,h4,h5⟩:=h;have h2':=h2;obtain⟨cs,sv,nv,ev,vv,bv,bc,ro,hx⟩:=h2';obtain⟨ao,cap,vs,rfl,q1,q2,q3,q4⟩:=hx.fr.cd.ex;obtain⟨bo,FE,rfl⟩:=zW hx.row;have hn:=hx.fr.nx;subst hn;exact⟨O',m,ao,cap,vs,bo,FE,h1,h2,h3,h4,h5,hx.cell hx.c0,hx.cell hx.c1,hx.cell hx.c4,hx.vB 1,hx.fr.cl,hx.fr.nl,hx.bl,q1,q2,hx.lt,h2.new (aj _),q3,q4⟩
theorem End.Yv{v:V}(hE:E.End D m r n)(h:E.it D m=.fin v):r=.ok v:=by
 cases hE with
 | fin _ v' h'=>rw[h] at h';cases h';rfl
 | err _ e h'=>rw[h] at h';cases h'
 | on _ m2 _ j h' hk=>rw[h] at h';cases h'
theorem End.Yw{e:Nat}(hE:E.End D m r n)(h:E.it D m=.err e):r=.error e:=by
 cases hE with
 | fin _ v' h'=>rw[h] at h';cases h'
 | err _ e' h'=>rw[h] at h';cases h';rfl
 | on _ m2 _ j h' hk=>rw[h] at h';cases h'
theorem UU{s:St}(h:m.fr.c[m.fr.nx]?=some s):E.it D m=E.act D { m with fr:={ m.fr with nx:=m.fr.nx+1 } } s:=by
 unfold E.it;rw[h]
theorem UW(h:m.fr.c.length≤m.fr.nx)(hb:m.bk=[])(hn:E.it D m≠.bad):∃ l v,m.fr.vs=l++[v]∧E.it D m=.fin v:=by
 have h0:m.fr.c[m.fr.nx]?=none:=aO h;cases hv:m.fr.vs[m.fr.vs.length - 1]? with
 | none=>exact absurd (by unfold E.it;simp only[h0,hv]) hn
 | some v=>exact⟨_,v,ru hv,by unfold E.it;simp only[h0,hv,hb,List.getLast?_nil]⟩
theorem UX(h:m.fr.c.length≤m.fr.nx)(hb:m.bk≠[])(hn:E.it D m≠.bad):∃ l v bk fr,m.fr.vs=l++[v]∧m.bk=bk++[fr]∧E.it D m=.on ⟨{ fr with vs:=fr.vs++[v] },bk,m.fu⟩:=by
 have h0:m.fr.c[m.fr.nx]?=none:=aO h;have hbk:m.bk=m.bk.dropLast++[m.bk.getLast hb]:=(List.dropLast_concat_getLast hb).symm;cases hv:m.fr.vs[m.fr.vs.length - 1]? with
 | none=>exact absurd (by unfold E.it;simp only[h0,hv]) hn
 | some v =>
  have hi:E.it D m=E.push ⟨m.bk.getLast hb,m.bk.dropLast,m.fu⟩ v:=by
   unfold E.it;simp only[h0,hv,List.getLast?_eq_some_getLast hb]
  refine⟨_,v,_,_,ru hv,hbk,?_⟩;rw[hi] at hn ⊢;exact vI hn
theorem fE.aK5(h:fE β w O T mb m)(nx:Nat)(hn:nx+1≤1073741824):∃ O',Kv β O O' w (w.setCell ⟨mb,1,none⟩ (.int .i64 ((nx:Int)+1)))∧fE β (w.setCell ⟨mb,1,none⟩ (.int .i64 ((nx:Int)+1))) O' T mb { m with fr:={ m.fr with nx:=nx+1 } }∧(w.setCell ⟨mb,1,none⟩ (.int .i64 ((nx:Int)+1))).cell? ⟨mb,1,none⟩=some (.int .i64 ((nx:Int)+1))∧∀ v,w.cell? ⟨mb,0,none⟩=some v→(w.setCell ⟨mb,1,none⟩ (.int .i64 ((nx:Int)+1))).cell? ⟨mb,0,none⟩=some v:=by
 obtain⟨cs,sv,nv,ev,vv,bv,bc,ro,hx⟩:=h;obtain⟨O',k1,k2⟩:=hx.DY (nx+1) hn;have e:((nx+1:Nat):Int)=(nx:Int)+1:=by omega
 rw[e] at k1 k2;have hcsz:=hx.sz;refine⟨O',k1,k2,?_,fun v hv=>?_⟩
 ·simp[World.setCell,World.cell?,aK,hx.blk,hcsz]
 ·simpa [World.setCell,World.cell?,aK,hx.blk,hcsz] using hv
theorem Bq.or{rs:Rs}{e:Ending}(h:Bq β O T mb w rs e w'):(∃ m',rs=.on m'∧e=.returned (.int .i64 0)∧Hid (∃ O',Kv β O O' w w'∧fE β w' O' T mb m'))∨∃ k:Nat,rs=.err k∧e=.returned (.int .i64 k)∧Hid (k≠0∧∃ O',Kv β O O' w w'):=by
 cases rs with
 | on m'=>exact .inl ⟨m',rfl,h.1,h.2⟩
 | err k=>exact .inr ⟨k,rfl,h.1,h.2⟩
 | fin v=>exact h.elim
 | bad=>exact h.elim
theorem Qi(h:fE β w O T mb m)(hct:CT β w O T D)(hL:Lm m)(hE:E.End D m r n) :
  Calls prog 19 #[.pointer (some ⟨mb,0,none⟩)] w fun e w'=>Hid (GoR β O T mb w r e w'):=by
 have HI:Hid (yX β D O T mb w r n w):=⟨O,m,Kv.refl O w,h,hct,hL,hE⟩;clear h hct hL hE;go_enter func19,ntmps19;go_wp2_with fail
 go_loopw [2] (fun rv wr=>rv=.int .i64 0∧Hid (∃ n,yX β D O T mb w r n wr)) (fun _ wr=>gm β D O T mb w r wr)
 case atStart=>exact⟨rfl,n,HI.o⟩
 case round =>
  obtain⟨rfl,H1⟩:=hrel;clear HI;have HG:Hid (∃ n,n≤gm β D O T mb w r wr∧yX β D O T mb w r n wr):=by
   obtain⟨n,hn⟩:=H1.o;exact⟨_,aj _,WX hn⟩
  clear H1;generalize hgm:gm β D O T mb w r wr=G at *;have HGM:=au hgm;clear hgm;go_wp2_with fail
  go_loopw [2] (fun rv wr=>rv=.int .i64 0∧Hid (∃ n,n≤G∧yX β D O T mb w r n wr)) (fun _ wr=>gm β D O T mb w r wr)
  case atStart=>exact⟨rfl,HG.o⟩
  case round =>
   obtain⟨rfl,H1⟩:=hrel;clear HG;obtain⟨n0,hn0,hg0⟩:=H1.o;have aK6:gm β D O T mb w r wr≤G:=bS (Qh hg0) hn0;have hg1:=WX hg0;clear hn0 hg0 H1;generalize hgn:gm β D O T mb w r wr=n1 at *;obtain⟨O1,m1,ao,cap,vs,bo,FE,k1,k2,k3,k4,k5,c0,c1,c4,f1,l1,l2,l3,l4,l5,l6,l7,hR,hS1⟩:=yX.open hg1;have HK:=au k1;have HM:=au k2;have HC:=au k3;have HL:=au k4;have HE:=au k5;have HGN:=au hgn;have aK7:=au aK6;unfold maxLen at l5;clear k1 k2 k3 k4 k5 hgn aK6;by_cases hlt:m1.fr.nx<m1.fr.c.length
   ·have p1:decide (m1.fr.nx<m1.fr.c.length)=true:=by simpa using hlt
    have hB:∀ q,Below wr.heap.size wr (wr.drewN q):=fun q=>⟨rfl,rfl,rfl,aj _,fun _ _=>rfl⟩
    have HB:=au hB;have HRR:=au hR;have HSS:=au hS1;have Od:=au hlt;clear hR hS1 hB hlt;generalize hbl:m1.bk.length=bl at *;generalize hnx:m1.fr.nx=nx at *;generalize hcl:m1.fr.c.length=cl at *;have HNX:=au hnx;have BX:=au hcl;clear hnx hcl hbl;go_wp2_with fail
    go_quiet (fail)
    go_wp2_with fail
    obtain⟨O2,q1,q2,q3,q4⟩:=((HM.o).below ((HB.o) nq)).aK5 nx (by have:=Od.o;omega);have x0:=q4 _ (show(wr.drewN nq).cell? ⟨mb,0,none⟩=some (.slice ao cl cap) from c0);obtain⟨g,gc,gf,rfl,g1,g2,g3⟩:=(HRR.o) nx Od.o;have KT:Kv β O1 O2 wr _:=(Kv.aI ((HB.o) nq)).trans q1;have x2:=KT.cell g2 g1 (by decide) g3;obtain⟨s,hs⟩:∃ s,m1.fr.c[nx]?=some s:=⟨m1.fr.c[nx]'(by rw[BX.o];exact Od.o),aC _⟩;have ist:=((HSS.o) nx s hs).keep KT;have hit:=UU (D:=D) (m:=m1) (s:=s) (by rw[HNX.o];exact hs);rw[HNX.o] at hit;have mZ:=au KT;have HM2:=au q2;have tV:=au ((HC.o).keep KT);clear q1 q2 q4 KT c0 c1 c4 f1 g1 g2 g3 hs HRR HSS hg1;generalize (wr.drewN nq).setCell ⟨mb,1,none⟩ (.int .i64 ((nx:Int)+1))=W at *;have hBW:Below W.heap.size W W.drew:=(ay _ W).drew;have HBW:=au hBW;have hdo:=Yt (D:=D) ((tV.o).keep (Kv.aI hBW)) ((HM2.o).below hBW) (ist.keep (Kv.aI hBW)) (HL.o).1 (by rw[← hit];exact yX.bad HE.o);obtain⟨ty,v,Qg,hu,hna,hmt,hcf,hcall⟩:=hdo;rw[hu] at x2;have HIt:=au hit;have HD:=au hcall;clear hit hcall ist hu hBW;have j0:(0:Int)≤(nx:Int):=bU _;have j1:(nx:Int)<(cl:Int):=by have:=Od.o;omega
    have hwr:IntKind.i64.wrap (nx:Int)=nx:=by rw[IntKind.wrap_i64];omega
    refine Co (S:=fun w'=>w'.cell? ⟨mb,0,none⟩=some (.slice (some ⟨g,0,none⟩) cl cap)∧w'.cell? ⟨mb,1,none⟩=some (.int .i64 ((nx:Int)+1))∧w'.cell? ⟨g,nx,none⟩=some (.iface ty v)) (Z:=fun j=>decide (14≤j)) (by kernel_rfl) ?_;have hS:W.drew.cell? ⟨mb,0,none⟩=some (.slice (some ⟨g,0,none⟩) cl cap)∧W.drew.cell? ⟨mb,1,none⟩=some (.int .i64 ((nx:Int)+1))∧W.drew.cell? ⟨g,nx,none⟩=some (.iface ty v):=⟨x0,q3,x2⟩;iterate 14(refine UY (v:=?_) rfl rfl (by kernel_rfl) (by kernel_rfl) (by kernel_rfl) (by kernel_rfl) (by kernel_rfl) (fun _ _ _ h=>h) (Or.inl ⟨by rfl,?_⟩) hS ?_;rotate_left;(· (intro wx hSw;(try dsimp only at hSw);go_simp;try(with_reducible rfl)));simp only[Act.put,List.setIfInBounds_toArray,List.set_cons_zero,List.set_cons_succ])
    refine t_ (i:=14) (by kernel_rfl) rfl (fun K hK=>?_);go_simp;refine(HD.o).mono ?_;rintro e w4 H4;rcases H4.or with ⟨m',q5,rfl,H5⟩|⟨k,q5,rfl,H5⟩
    ·obtain⟨O5,k6,k7⟩:=H5.o
     obtain⟨j,hj,hgj⟩:=yX.step HK.o HC.o HL.o HE.o ((HIt.o).trans q5) ((((mZ.o).trans (Kv.aI HBW.o))).trans k6) k7;have XO:=Qh hgj;have hmm:=aK7.o;have HFin:=au hgj;dsimp only;refine hK.o _ _ (fun h=>absurd h (by decide)) (fun _=>?_);clear hK K hS x0 q3 x2 H4 H5 q5 k6 k7 hgj hna hmt hcf;refine t_ (i:=15) (by kernel_rfl) rfl (fun K hK=>?_);go_simp;refine hK.o _ _ (fun h=>absurd h (by decide)) (fun _=>Ee (by kernel_rfl) ?_);clear hK K;go_wp2_with fail
     exact⟨⟨rfl,j,by omega,HFin.o⟩,by omega⟩
    ·have hk0:((k:Int) !=0)=true:=by have:=(H5.o).1;simp;exact this
     dsimp only;refine hK.o _ _ (fun h=>absurd h (by decide)) (fun _=>?_);clear hK K hS x0 q3 x2 H4 hna hmt hcf;have HQ:=au q5;clear q5;refine t_ (i:=15) (by kernel_rfl) rfl (fun K hK=>?_);go_simp;refine hK.o _ _ (fun h=>absurd h (by decide)) (fun _=>Ee (by kernel_rfl) ?_);clear hK K;go_wp2_with fail
     go_ret;obtain⟨h5,O5,k6⟩:=H5.o;rw[End.Yw HE.o ((HIt.o).trans HQ.o)];exact⟨rfl,h5,O5,(((HK.o).trans (mZ.o)).trans (Kv.aI HBW.o)).trans k6⟩
   ·have hle:m1.fr.c.length≤m1.fr.nx:=by omega
    have p1:decide (m1.fr.nx<m1.fr.c.length)=false:=by simp;omega
    clear hR hS1;by_cases hbk:m1.bk=[]
    ·obtain⟨l,v,e1,e2⟩:=UW hle hbk (yX.bad HE.o)
     have HR:Hid (r=.ok v):=End.Yv HE.o e2;have HV:=au e1;have p2:((m1.bk.length:Int)==0)=true:=by simp[hbk]
     clear e1 e2 hbk hlt hle;generalize m1.bk.length=bl at *;generalize m1.fr.nx=nx at *;generalize m1.fr.c.length=cl at *;go_wp2_with fail
     go_quiet (fail)
     go_wp2_with fail
     go_ret;rw[HR.o];have hB:Below wr.heap.size wr (wr.drewN nq):=⟨rfl,rfl,rfl,aj _,fun _ _=>rfl⟩;have e1:m1.fr.vs.length=l.length+1:=by rw[HV.o,ak];rfl
     exact⟨rfl,O1,m1,l,(HK.o).trans (Kv.aI hB),(HM.o).below hB,HV.o,by have:=(HL.o).1;omega⟩
    ·obtain⟨l,v,bk,fr,e1,e2,e3⟩:=UX hle hbk (yX.bad HE.o)
     have p2:((m1.bk.length:Int)==0)=false:=by simp[hbk]
     have e4:m1.fr.vs.length=l.length+1:=by rw[e1,ak];rfl
     have Og:Hid (∀ W,Below wr.heap.size wr W→_):=fun W hB=>I7 l v bk fr ((HM.o).below hB) e1 (by have:=(HL.o).1;omega) e2 ((HL.o).2 fr (by rw[e2];simp))
     have HIt:=au e3;clear e1 e2 e3 e4 hbk hlt hle;generalize m1.bk.length=bl at *;generalize m1.fr.nx=nx at *;generalize m1.fr.c.length=cl at *;go_wp2_with fail
     go_quiet (fail)
     go_wp2_with fail
     have hB:Below wr.heap.size wr (wr.drewN nq):=⟨rfl,rfl,rfl,aj _,fun _ _=>rfl⟩;refine((Og.o) _ hB).mono ?_;rintro e w3 ⟨rfl,H3⟩;obtain⟨O3,k6,k7⟩:=H3.o;obtain⟨j,hj,hgj⟩:=yX.step HK.o HC.o HL.o HE.o HIt.o ((Kv.aI hB).trans k6) k7;have XO:=Qh hgj;have hmm:=aK7.o;have HFin:=au hgj;clear H3 k6 k7 hgj;go_wp2_with fail
     exact⟨⟨rfl,j,HFin.o⟩,by omega⟩
end
end
section
open Tryz
open E (St Bo V Fr Ms Rs)
variable{β:Nat}
section
variable{D:Int × Int→Nat × List St}{T:Int × Int→Nat}{w w':World}{r:Except Nat V}{n:Nat}
def bA8(β:Nat)(T:Int × Int→Nat)(w:World)(r:Except Nat V)(e:Ending)(w':World):Prop:=match r with
 | .ok v=>∃ u,e=.returned (.tuple #[u,.int .i64 0])∧∃ O',mP β w' O' T u v∧Kv β (fun _=>False) O' w w'
 | .error k=>e=.returned (.tuple #[.nilIface,.int .i64 k])∧k≠0∧∃ O',Kv β (fun _=>False) O' w w'
def TL(T:Int × Int→Nat)(w:World)(d:Int × Int)(fu:Nat):World:=((w.alloc (.cells #[.slice (some ⟨w.heap.size+1,0,none⟩) 1 1,.int .i64 0,.pointer none,.slice none 0 0,.slice none 0 0,.int .i64 fu,.pointer none,.pointer none,.pointer none,.pointer none,.pointer none,.pointer none,.pointer none,.pointer none,.pointer none,.pointer none,.pointer none,.pointer none,.pointer none,.pointer none,.pointer none,.pointer none,.int .i64 0] 89)).alloc (.cells #[.iface 91 (.agg #[.pointer (some ⟨T d,0,none⟩)])] 143))
theorem aK8(d:Int × Int)(fu:Nat)(hd:T d≠0)(hf:fu≤1000000):Kv β (fun _=>False) (fun q=>q=w.heap.size) w (TL T w d fu)∧fE β (TL T w d fu) (fun q=>q=w.heap.size) T w.heap.size ⟨⟨[.vis d],0,[],[]⟩,[],fu⟩:=by
 have hB:Below w.heap.size w (TL T w d fu):=((ay _ w).alloc (aj _) _).alloc (by simp) _;have hs1:∀(x:World) (o:Obj),(x.alloc o).heap.size=x.heap.size+1:=fun x o=>by simp
 have hm:(TL T w d fu).heap[w.heap.size]?=some (.cells #[.slice (some ⟨w.heap.size+1,0,none⟩) 1 1,.int .i64 0,.pointer none,.slice none 0 0,.slice none 0 0,.int .i64 fu,.pointer none,.pointer none,.pointer none,.pointer none,.pointer none,.pointer none,.pointer none,.pointer none,.pointer none,.pointer none,.pointer none,.pointer none,.pointer none,.pointer none,.pointer none,.pointer none,.int .i64 0] 89 (0,0)):=by
  unfold TL;rw[dN _ _ (by rw[hs1];omega)];exact aB w _
 have hg:(TL T w d fu).heap[w.heap.size+1]?=some (.cells #[.iface 91 (.agg #[.pointer (some ⟨T d,0,none⟩)])] 143 (0,0)):=by
  unfold TL;have:=aB (w.alloc (.cells #[.slice (some ⟨w.heap.size+1,0,none⟩) 1 1,.int .i64 0,.pointer none,.slice none 0 0,.slice none 0 0,.int .i64 fu,.pointer none,.pointer none,.pointer none,.pointer none,.pointer none,.pointer none,.pointer none,.pointer none,.pointer none,.pointer none,.pointer none,.pointer none,.pointer none,.pointer none,.pointer none,.pointer none,.int .i64 0] 89)) (.cells #[.iface 91 (.agg #[.pointer (some ⟨T d,0,none⟩)])] 143);rw[hs1] at this;exact this
 refine⟨⟨Kp.aI hB _,(Kv.aI (O:=fun _=>False) hB).wd,fun q hq e=>by omega⟩,?_⟩;generalize TL T w d fu=W at *;refine⟨_,_,_,_,_,_,[],fun _=>.pointer none,⟨hm,rfl,rfl,rfl,rfl,rfl,rfl,rfl,fun i hi=>⟨.pointer none,?_,.inl rfl⟩,⟨0,rfl,(by decide),fun i j hi hj _=>?_⟩,⟨⟨some ⟨w.heap.size+1,0,none⟩,1,fun _=>.iface 91 (.agg #[.pointer (some ⟨T d,0,none⟩)]),rfl,aj _,(by unfold maxLen;omega),fun j hj=>⟨w.heap.size+1,_,_,rfl,(by omega),hg,?_⟩,fun j s hs=>?_⟩,rfl,.nil,⟨⟨[],⟨rfl,.inl ⟨rfl,rfl⟩⟩,fun j x hx=>(by cases hx)⟩,fun g hg=>(by cases hg)⟩,(by show 1≤_;omega),(by show 0≤_;omega)⟩,⟨rfl,.inl ⟨rfl,rfl⟩⟩,fun j f hf=>(by cases hf),rfl,fun g hg=>(by cases hg),fun q hq=>?_,fun j g hj=>(by cases hj),fun i j g _ hj=>(by cases hj),(by show fu≤_;omega),(by show 0≤_;omega)⟩⟩
 ·have:i=0∨i=1∨i=2∨i=3∨i=4∨i=5∨i=6∨i=7∨i=8∨i=9∨i=10∨i=11∨i=12∨i=13∨i=14∨i=15:=by omega
  rcases this with rfl|rfl|rfl|rfl|rfl|rfl|rfl|rfl|rfl|rfl|rfl|rfl|rfl|rfl|rfl|rfl<;>rfl
 ·have:i=0∨i=1∨i=2∨i=3∨i=4∨i=5∨i=6∨i=7∨i=8∨i=9∨i=10∨i=11∨i=12∨i=13∨i=14∨i=15:=by omega
  rcases this with rfl|rfl|rfl|rfl|rfl|rfl|rfl|rfl|rfl|rfl|rfl|rfl|rfl|rfl|rfl|rfl<;>rfl
 ·obtain rfl:j=0:=by change j<1 at hj;omega
  simp[World.cell?,hg]
 ·cases j with
  | zero=>cases hs;exact .vis d hd
  | succ j=>cases hs
 ·subst hq
  exact⟨_,_,_,hm,.inl rfl⟩
theorem UZ(d:Int × Int)(fu:Nat)(hd:T d≠0)(hf:fu≤1000000)(hct:CT β w (fun _=>False) T D)(hE:E.End D ⟨⟨[.vis d],0,[],[]⟩,[],fu⟩ r n) :
  Calls prog 9 #[.pointer (some ⟨T d,0,none⟩),.int .i64 fu] w fun e w'=>Hid (bA8 β T w r e w'):=by
 have HC:=au hct;have HE:=au hE;have HD:=au hd;clear hct hE hd;go_enter func9,ntmps9;go_wp2_with fail
 have hN:=aK8 (β:=β) (w:=w) d fu HD.o hf;have TK:=au hN.1;have hlm:Lm ⟨⟨[.vis d],0,[],[]⟩,[],fu⟩:=⟨by show 0<_;omega,fun f hf=>by cases hf⟩;have HG:=au (Qi hN.2 ((HC.o).keep hN.1) hlm HE.o);clear hN hlm;change Calls _ _ _ (TL T w d fu) _;generalize TL T w d fu=W at *;refine(HG.o).mono ?_;rintro e w2 H2;have h2:=H2.o;cases r with
 | ok v =>
  obtain⟨rfl,O2,m2,l,k1,k2,k3,k4⟩:=h2;have HP:=au (qJ l v k2 k3 k4);have HK:=au k1;clear k1 k2 k3 k4 H2 HG;go_wp2_with fail
  refine(HP.o).mono ?_;rintro e w3 ⟨u,rfl,H3⟩;go_wp2_with fail
  go_ret2;obtain⟨O3,k1,k2,k3⟩:=H3.o;exact⟨u,rfl,O3,k3,((TK.o).trans HK.o).trans k1⟩
 | error k =>
  obtain⟨rfl,hk,O2,k1⟩:=h2;have hk0:((k:Int) !=0)=true:=by simp;exact hk
  have HK:=au k1;have HKK:=au hk;clear k1 H2 HG hk;go_wp2_with fail
  go_ret2;exact⟨rfl,HKK.o,O2,(TK.o).trans HK.o⟩
end
end
end Go.Proofs.YtdkpkpgpphkljaaGreatDoor
