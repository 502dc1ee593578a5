/- Package value: what literals are. -/
import Derived.Test.YtdkpkpgpphkljaaGreatDoorMwq
import Derived.Test.YtdkpkpgpphkljaaGreatDoorMwp
import Derived.Test.YtdkpkpgpphkljaaGreatDoorWoz
namespace Go.Proofs.YtdkpkpgpphkljaaGreatDoor
set_option maxRecDepth 100000
set_option maxHeartbeats 1000000
open Tryz
open Go.RowKit
open M
section
open E (V St)
theorem m_{n:Int}(h:n=0∨n=10∨n=9∨n=34∨n=92):(Lib.encodeRune n).length=1:=by
 rcases h with rfl|rfl|rfl|rfl|rfl<;>rfl
theorem MQ(t:ah):(Lib.encodeRune (taken t).1).length≤1+(taken t).2.2:=by
 unfold taken
 split
 ·rw[m_ (.inl rfl)];omega
 split
 ·rw[m_ (.inr (.inl rfl))];omega
 split
 ·rw[m_ (.inr (.inr (.inl rfl)))];omega
 split
 ·next h=>rw[m_ (by show cc t=0∨_;omega)];omega
 split
 ·unfold code
  split
  ·split
   ·rw[m_ (.inl rfl)];omega
   ·next h =>
    have:=Kj (lF 6 0 (nx (nx t))).1;simp only[not_or] at h;show(Lib.encodeRune (lF 6 0 (nx (nx t))).1).length≤1+(1+(2+(lF 6 0 (nx (nx t))).2));omega
  ·rw[m_ (.inl rfl)];omega
 ·rw[m_ (.inl rfl)];omega
theorem Qo{k:Nat}{t:ah}(h:(quo k t).1=6):t≠[]:=by
 rintro rfl;rw[uX (.inl mU)] at h;cases h
theorem Qp{l:ah}(h:M.tok l=(6,l.length)):quo 6 (l.drop 1)=(6,l.length - 1)∧2≤l.length:=by
 by_cases h0:cc l=34
 ·have z:=gP (t:=l) (by omega) (by omega)
  have hn:nx l=l.drop 1:=by unfold nx;rw[z]
  unfold M.tok at h;rw[h0,aG (by decide),aG (by decide),aG (by decide),aL rfl,hn] at h;have h1:(quo 6 (l.drop 1)).1=6:=congrArg Prod.fst h;have h2:1+(quo 6 (l.drop 1)).2=l.length:=congrArg Prod.snd h;have h3:=gM.2 (Qo h1);simp at h3;exact⟨Prod.ext h1 (by simp only;omega),by omega⟩
 ·exfalso
  have h8:=(Ki _ 1 (nx (nx l)) (aj _)).2;have h1:(M.tok l).1=6:=by rw[h]
  unfold M.tok at h1
  repeat' split at h1
  all_goals (first|(simp only at h1;omega)|omega)
theorem Qq(n:Nat):∀ t:ah,t.length≤n→(Ia t).length≤t.length:=by
 induction n with
 | zero=>intro t h;have:t=[]:=dL (by omega);subst this;simp[uY]
 | succ n ih =>
  intro t h;by_cases h0:t=[]
  ·subst h0;simp[uY]
  have h1:=BG h0;have h2:=mR t;by_cases hc:cc t=92
  ·rw[C_ hc,ak]
   have h3:=MQ (nx t);have h4:=ih ((nx t).drop (taken (nx t)).2.2) (by simp;omega);have h5:=EP (nx t);simp only[bM] at h4;omega
  ·rw[Il h0 hc,ak]
   have h4:=ih (nx t) (by omega);have h5:(t.take (sz t)).length≤sz t:=List.length_take_le _ _;have h6:=zl t;omega
def uK(x:ah):Int:=match Lib.atoiAll x with
 | .ok v=>v
 | .«syntax»=>0
 | .range=>Lib.atoiSat x
theorem U3(x:ah):-9223372036854775808≤uK x∧uK x≤9223372036854775807:=by
 unfold uK
 split
 ·next v h=>exact Lib.atoiAll_bounds h
 ·omega
 ·exact Lib.atoiSat_bounds x
def Ev(w:World)(g:Nat):Prop:=∃ ev,w.cell? ⟨g,0,none⟩=some ev∧(ev=.nilIface∨∃ te pe,ev=.iface te pe)
theorem Ev.below{w w':World}{g:Nat}(h:Ev w g)(hb:Below w.heap.size w w'):Ev w' g:=by
 obtain⟨ev,h1,h2⟩:=h;exact⟨ev,(aN (a:=⟨g,0,none⟩) (hb.block g (bG w ⟨g,0,none⟩ h1))).trans h1,h2⟩
def Gm(w:World):Prop:=Gl w∧Ev w 4∧Ev w 5
theorem Gm.below{w w':World}(h:Gm w)(hb:Below w.heap.size w w'):Gm w':=⟨h.1.below hb,h.2.1.below hb,h.2.2.below hb⟩
theorem vL(x:ah):(ba x).data.toList=x:=rfl
theorem MR(x:ah)(hx:x.length≤1073741824)(w:World)(h:Gm w) :
  Calls prog 119 #[.string (ba x)] w fun e w'=>∃ er,e=.returned (.tuple #[.int .i64 (uK x),er])∧Below w.heap.size w w':=by
 cases ha:Lib.atoiAll x with
 | ok v =>
  have hn:uK x=v:=by unfold uK;rw[ha]
  refine(Any.strconv_Atoi_ok Eg (ba x) (by rw[iW];omega) v (by rw[vL];exact ha) w).mono ?_;rintro e w' ⟨rfl,h2⟩;refine⟨_,by rw[hn],?_⟩;rcases h2 with rfl|⟨t,rfl⟩
  ·exact ay _ _
  ·exact Lib.bytesWorld_below _ _ _
 | «syntax» =>
  have hn:uK x=0:=by unfold uK;rw[ha]
  obtain⟨ev,h1,h2⟩:=h.2.1;refine(Any.strconv_Atoi_syntax Eg (ba x) (by rw[iW];omega) (by rw[vL];exact ha) ev w h1 h2).mono ?_;rintro e w' ⟨N,rfl,-,-,k⟩;exact⟨_,by rw[hn],k⟩
 | range =>
  have hn:uK x=Lib.atoiSat x:=by unfold uK;rw[ha]
  obtain⟨ev,h1,h2⟩:=h.2.2;refine(Any.strconv_Atoi_range Eg (ba x) (by rw[iW];omega) (by rw[vL];exact ha) ev w h1 h2).mono ?_;rintro e w' ⟨N,rfl,-,-,k⟩;exact⟨_,by rw[hn,vL],k⟩
def Eh(x:ah):ah:=if nX x 6 then Ia ((x.take (x.length - 1)).drop 1) else []
theorem U4(x:ah):(Eh x).length≤x.length:=by
 unfold Eh
 split
 ·have:=Qq _ ((x.take (x.length - 1)).drop 1) (aj _)
  rw[bM,bL] at this;omega
 ·simp
theorem Qr(x:ah)(hx:x.length≤1073741824)(w:World)(h:Gm w) :
  Calls prog 120 #[.string (ba x)] w fun e w'=>∃ b,e=.returned (.tuple #[.string (ba (Eh x)),.bool b])∧Below w.heap.size w w':=by
 cases ha:nX x 6 with
 | true =>
  have h6:M.tok x=(6,x.length):=by unfold nX at ha;exact(of_decide_eq_true ha).2
  refine(FT (ba x) w h.1.1 (by rw[iW];omega) (by rw[kQ];exact ha) (by rw[iW];exact(Qp h6).2)).mono ?_;rintro e w' ⟨rfl,k⟩;refine⟨true,?_,k⟩;rw[kQ,iW];unfold Eh;rw[ha];rfl
 | false =>
  refine(Jl (ba x) w h.1.1 (by rw[iW];omega) (by rw[kQ];exact ha)).mono ?_;rintro e w' ⟨rfl,k⟩;refine⟨false,?_,k⟩;unfold Eh;rw[ha];rfl
end
section
open E (V St Kn rq)
variable{k:Kn}
variable{β:Nat}
section
variable{w:World}{T:Int × Int→Nat}
structure Yy(k:Kn):Prop where
 nu:k.nu=uK
 un:k.un=Eh
def bB0(β:Nat)(T:Int × Int→Nat)(w:World)(s:St)(u:Value)(w':World):Prop:=Below w.heap.size w w'∧∀ O,(∀ q,O q→q<w.heap.size)→jP β w' O T (.iface 227 (.agg #[u])) s
theorem Qs(hk:Yy k)(x:ah):rq k 15 x=.int (uK x):=by unfold rq;rw[aL rfl,hk.nu]
theorem Qt(hk:Yy k)(x:ah):rq k 16 x=.txt (Eh x):=by unfold rq;rw[aG (by decide),aL rfl,hk.un]
theorem Qu{d:Nat}(h1:d≠15)(h2:d≠16)(x:ah):rq k d x=.mH (x==[116,114,117,101]):=by unfold rq;rw[aG h1,aG h2]
theorem FU(hk:Yy k){m n:Int}{z:Bool}(b d:Nat)(x:ah)(h:w.heap[b]?=some (.cells #[.int .i64 m,.int .i64 n,.bool z,.int .i64 d,.string (ba x)] 284 (0,0)))(hx:x.length≤20000)(hg:Gm w)(hβ:β≤w.heap.size) :
  Calls prog 94 #[.pointer (some ⟨b,0,none⟩)] w fun e w'=>∃ ty y,e=.returned (.iface ty y)∧Hid (bB0 β T w (rq k d x) (.iface ty y) w'):=by
 have c3:=ai w _ 3 _ _ _ h;have c4:=ai w _ 4 _ _ _ h;by_cases h1:d=15
 ·subst h1
  rw[Qs hk];have HA:=au (MR x (by omega) w hg);clear h hg;go_enter func94,ntmps94;go_wp2_with fail
  refine(HA.o).mono ?_;rintro e w1 ⟨er,rfl,k1⟩;have HK:=au k1;clear k1;go_wp2_with fail
  go_ret;exact⟨_,_,rfl,HK.o,fun O _=>.int _ (U3 x)⟩
 ·by_cases h2:d=16
  ·subst h2
   rw[Qt hk];have HA:=au (Qr x (by omega) w hg);clear h hg h1;go_enter func94,ntmps94;go_wp2_with fail
   refine(HA.o).mono ?_;rintro e w1 ⟨er,rfl,k1⟩;have HK:=au k1;have HP:=au (Ck (w:=w1) (Eh x) (by have:=U4 x;omega) (bS hβ k1.size));clear k1;go_wp2_with fail
   refine(HP.o).mono ?_;rintro e w2 ⟨b2,rfl,q1,q2,q3⟩;have HQ2:=au q2;have WW:=au q3;clear q1 q2 q3;go_wp2_with fail
   go_ret;exact⟨_,_,rfl,(HK.o).trans ((WW.o).mono (HK.o).size),fun O _=>.txt _ _ HQ2.o⟩
  ·rw[Qu h1 h2]
   have p1:((d:Int)==15)=false:=by simp;omega
   have p2:((d:Int)==16)=false:=by simp;omega
   have HB:Hid (((ba x).toList==[116,114,117,101])=(x==[116,114,117,101])):=by
    show _=_;rw[gN];rfl
   clear h hg h1 h2;go_enter func94,ntmps94;go_wp2_with fail
   go_ret;refine⟨_,_,rfl,ay _ _,fun O _=>?_⟩;rw[HB.o];exact .mH _
end
end
end Go.Proofs.YtdkpkpgpphkljaaGreatDoor
