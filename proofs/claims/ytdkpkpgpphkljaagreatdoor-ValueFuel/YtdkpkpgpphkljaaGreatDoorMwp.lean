/- Package value: a value is written. -/
import Derived.Test.YtdkpkpgpphkljaaGreatDoorMwo
import Derived.Lib.ItoaLen
namespace Go.Proofs.YtdkpkpgpphkljaaGreatDoor
set_option maxRecDepth 100000
set_option maxHeartbeats 1000000
open Tryz
open Go.RowKit
open M
open E (V)
variable{β:Nat}
def Gl(w:World):Prop:=kP w∧Tz w∧Tb w
theorem Gl.below{w w':World}(h:Gl w)(hb:Below w.heap.size w w'):Gl w':=⟨h.1.below hb,h.2.1.below hb h.2.1.lt,h.2.2.below hb⟩
def VC(β:Nat)(x:V):Prop:=∀(w0 w:World) (B:Nat) (o:ah) (O:Nat→Prop) (T:Int × Int→Nat) (u:Value),Gl w0→mP β w0 O T u x→yI w0 w B o →
 Calls prog 21 #[.pointer (some ⟨B,0,none⟩),u] w fun e w'=>Hid (WrR w0 B (wV x o) e w')
def LC(β:Nat)(l:List V):Prop:=∀(w0 w:World) (B:Nat) (o:ah) (O:Nat→Prop) (T:Int × Int→Nat) (ao:Option Addr) (cap:Nat) (vs:Nat→Value),Gl w0→(l.length≤cap∧cap≤maxLen)→Rr w0 O 40 ao l.length vs→(∀(j:Nat) (x:V),l[j]?=some x→mP β w0 O T (vs j) x)→yI w0 w B o →
 Calls prog 44 #[.pointer (some ⟨B,0,none⟩),.slice ao l.length cap] w fun e w'=>Hid (WrR w0 B (wV (.list l) o) e w')
theorem yI.bA9{w0 w:World}{B:Nat}{l:ah}(h:yI w0 w B l)(hg:Gl w0):Gl w:=hg.below h.2.2.1
theorem Jj(x:V)(hl:∀ l,x=.list l→LC β l):VC β x:=by
 intro w0 w B o O T u hg hu hw;have HG:=au (hw.bA9 hg);have hb:=hw.2.2.1;cases hu with
 | int n hn =>
  have HN:=au (ML n hn.1 hn.2 w (HG.o).2.2);have HW:=au hw;have h1:=xw n;have hil:Hid ((Lib.itoa n).length≤21):=Lib.itoa_length_le n hn.1 hn.2;clear hw hb hl hn;go_enter func21,ntmps21;go_wp2_with fail
  refine(HN.o).mono ?_;rintro e w1 ⟨rfl,k1⟩;have HA:=au (pF (Lib.itoa n) ((HW.o).below k1) (by have:=hil.o;omega));go_wp2_with fail
  refine(HA.o).mono ?_;rintro e w2 H2;obtain⟨b,rfl⟩:∃ b,e=.returned (.bool b):=by rcases(H2.o).or with ⟨_,_,h,_⟩|⟨_,h,_⟩<;>exact⟨_,h⟩
  go_wp2_with fail
  go_ret;exact H2.o
 | mH b =>
  have HN:=au (Jh b w);have HA:=au (pF (U1 b) hw (by unfold U1;split<;>simp));have h1:=IZ b;have h2:=D7 b;clear hw hb hl;go_enter func21,ntmps21;go_wp2_with fail
  refine(HN.o).mono ?_;rintro e w1 ⟨rfl,rfl⟩;go_wp2_with fail
  refine(HA.o).mono ?_;rintro e w2 H2;obtain⟨b,rfl⟩:∃ b,e=.returned (.bool b):=by rcases(H2.o).or with ⟨_,_,h,_⟩|⟨_,h,_⟩<;>exact⟨_,h⟩
  go_wp2_with fail
  go_ret;exact H2.o
 | txt b x hx =>
  have hx':=hx.keep (fun q c hq=>(hb.block q (aP hq)).trans hq);have HN:=au (sU hx');have HW:=au hw;have HZ:=au hx.le;have h1:=zV b;have h2:=xA b;have h3:=rz b;clear hw hb hl hx hx';go_enter func21,ntmps21;go_wp2_with fail
  refine(HN.o).mono ?_;rintro e w1 ⟨rfl,k1⟩;have HGq:=au ((HG.o).below k1);have HQ:=au (MN (ba x) w1 (HGq.o).1 (HGq.o).2.1 (by rw[iW];have:=HZ.o;omega));have HW1:=au ((HW.o).below k1);clear k1 HN;go_wp2_with fail
  refine(HQ.o).mono ?_;rintro e w2 ⟨rfl,k2⟩;have HA:=au (pF (34::qt (bs (ba x))++[34]) ((HW1.o).below k2) (by
   rw[kQ];have h1:=Ql x;have h2:=HZ.o;simp;omega))
  rw[kQ] at HA ⊢;clear k2 HQ;go_wp2_with fail
  refine(HA.o).mono ?_;rintro e w2 H2;obtain⟨b,rfl⟩:∃ b,e=.returned (.bool b):=by rcases(H2.o).or with ⟨_,_,h,_⟩|⟨_,h,_⟩<;>exact⟨_,h⟩
  go_wp2_with fail
  go_ret;exact H2.o
 | list ao cap l vs hc hr hp =>
  have HN:=au (hl l rfl w0 w B o O T ao cap vs hg hc hr hp hw);have h1:=I4 ao l.length cap;have h2:=D8 ao l.length cap;have h3:=I5 ao l.length cap;have h4:=I6 ao l.length cap;clear hw hb hl hc hr hp;generalize l.length=n at *;go_enter func21,ntmps21;go_wp2_with fail
  refine(HN.o).mono ?_;rintro e w2 H2;obtain⟨b,rfl⟩:∃ b,e=.returned (.bool b):=by rcases(H2.o).or with ⟨_,_,h,_⟩|⟨_,h,_⟩<;>exact⟨_,h⟩
  go_wp2_with fail
  go_ret;exact H2.o
 | fn fb bb a b env h ho hb2 he =>
  have HA:=au (pF [102,117,110] hw (by simp));have h1:=PS fb;have h2:=KR fb;have h3:=PU fb;have h4:=PV fb;clear hw hb hl h ho hb2 he;go_enter func21,ntmps21;go_wp2_with fail
  refine(HA.o).mono ?_;rintro e w2 H2;obtain⟨b,rfl⟩:∃ b,e=.returned (.bool b):=by rcases(H2.o).or with ⟨_,_,h,_⟩|⟨_,h,_⟩<;>exact⟨_,h⟩
  go_wp2_with fail
  go_ret;exact H2.o
theorem MO(l:List V)(hv:∀ x,x∈l→VC β x):LC β l:=by
 intro w0 w B o O T ao cap vs hg hc hr hp hw;have HA:=au (pF [91] hw (by simp));have HV:=au hv;have HG:=au hg;have HR:=au hr;have HP:=au hp;obtain⟨hc1,hc2⟩:=hc;unfold maxLen at hc2;have HLn:Hid (l.length=l.length):=rfl;clear hv hg hr hp hw;generalize hn:l.length=n at *;have HN:=au hn;clear hn HLn;go_enter func44,ntmps44;go_wp2_with fail
 refine(HA.o).mono ?_;rintro e w1 H1;rcases(H1.o).or with ⟨o1,q1,rfl,k1⟩|⟨q1,rfl,k1⟩
 ·have HO:=au q1
  clear q1 H1 HA;go_wp2_with fail
  go_loopw [12] (fun iv wr=>∃ i:Nat,iv=.int .i64 i∧i≤n∧Hid (∃ o',yI w0 wr B o'∧KW true l o1=KW (decide (i=0)) (l.drop i) o')) (fun iv _=>n - (intOf iv).toNat)
  case atStart=>exact⟨0,rfl,aX _,o1,k1.o,rfl⟩
  case round =>
   obtain⟨i,rfl,hi,HI⟩:=hrel;clear k1;by_cases hlt:i<n
   case pos =>
    have i1:decide (i<n)=true:=by simp;omega
    have i2:decide ((i:Int)<(n:Int))=true:=by simp;omega
    have j0:(0:Int)≤(i:Int):=bU _;have j1:(i:Int)<(n:Int):=by omega
    obtain⟨o',k2,heq⟩:=HI.o;have hln:=HN.o;have hgv:l[i]?=some (l[i]'(by omega)):=aC (by omega);rw[bP (by omega:i<l.length)] at heq;generalize l[i]'(by omega)=v at hgv heq;obtain⟨g,gc,gf,rfl,g1,g2,g3⟩:=(HR.o) i (by omega);have hcell:wr.cell? ⟨g,i,none⟩=some (vs i):=(aN (a:=⟨g,i,none⟩) (k2.2.2.1.block g (aP g2))).trans g3;obtain⟨ty,y,hu⟩:∃ ty y,vs i=.iface ty y:=by
     have:=(HP.o) i v hgv;generalize vs i=u at *;cases this<;>exact⟨_,_,rfl⟩
    rw[hu] at hcell;have mZ:=au k2;clear k2 g1 g2 g3 HI hln;by_cases h0:i=0
    ·have p0:decide ((0:Int)<(i:Int))=false:=by simp;omega
     have p1:decide (0<i)=false:=by simp;omega
     have HD:decide (i=0)=true:=by simp;exact h0
     rw[HD] at heq;clear HD h0;have Yx:=au ((HV.o) v (dh hgv) w0 wr B o' O T (.iface ty y) HG.o (by rw[← hu];exact(HP.o) i v hgv) mZ.o);go_wp2_with fail
     refine(Yx.o).mono ?_;rintro e w5 H5;rcases(H5.o).or with ⟨o2,q5,rfl,k5⟩|⟨q5,rfl,k5⟩
     ·have U2:Hid (KW true l o1=KW (decide (i+1=0)) (l.drop (i+1)) o2):=by
       show _=_;rw[heq,KW];simp only[sj,q5];rfl
      clear q5 H5 Yx heq;go_wp2_with fail
      exact⟨⟨i+1,by simp,by omega,o2,k5.o,U2.o⟩,by simp[intOf];omega⟩
     ·have U2:Hid (wV (.list l) o=none):=by
       show _=_;rw[wV,HO.o];simp only;rw[heq,KW];simp only[sj,q5]
      clear q5 H5 Yx heq;go_wp2_with fail
      go_ret;rw[U2.o];exact⟨rfl,k5.o⟩
    ·have p0:decide ((0:Int)<(i:Int))=true:=by simp;omega
     have p1:decide (0<i)=true:=by simp;omega
     have HD:decide (i=0)=false:=by simp;exact h0
     rw[HD] at heq;have HA2:=au (pF [44,32] mZ.o (by simp));go_wp2_with fail
     refine(HA2.o).mono ?_;rintro e w4 H4;rcases(H4.o).or with ⟨o3,q4,rfl,k4⟩|⟨q4,rfl,k4⟩
     ·clear H4 HA2
      have Yx:=au ((HV.o) v (dh hgv) w0 w4 B o3 O T (.iface ty y) HG.o (by rw[← hu];exact(HP.o) i v hgv) k4.o);go_wp2_with fail
      refine(Yx.o).mono ?_;rintro e w5 H5;rcases(H5.o).or with ⟨o2,q5,rfl,k5⟩|⟨q5,rfl,k5⟩
      ·have U2:Hid (KW true l o1=KW (decide (i+1=0)) (l.drop (i+1)) o2):=by
        show _=_;rw[heq,KW];simp only[eO,nR,q4,q5];rfl
       clear q5 H5 Yx heq;go_wp2_with fail
       exact⟨⟨i+1,by simp,by omega,o2,k5.o,U2.o⟩,by simp[intOf];omega⟩
      ·have U2:Hid (wV (.list l) o=none):=by
        show _=_;rw[wV,HO.o];simp only;rw[heq,KW];simp only[eO,nR,q4,q5]
       clear q5 H5 Yx heq;go_wp2_with fail
       go_ret;rw[U2.o];exact⟨rfl,k5.o⟩
     ·have U2:Hid (wV (.list l) o=none):=by
       show _=_;rw[wV,HO.o];simp only;rw[heq,KW];simp only[eO,nR,q4]
      clear q4 H4 HA2 heq;go_wp2_with fail
      go_ret;rw[U2.o];exact⟨rfl,k4.o⟩
   case neg =>
    have i1:decide (i<n)=false:=by simp;omega
    have i2:decide ((i:Int)<(n:Int))=false:=by simp;omega
    obtain⟨o',k2,heq⟩:=HI.o;have hln:=HN.o;rw[iw (by omega),KW] at heq;have HE:Hid (wV (.list l) o=z_ o' [93]):=by
     show _=_;rw[wV,HO.o];simp only;rw[heq]
    have HA2:=au (pF [93] k2 (by simp));clear heq k2 HI hln;go_wp2_with fail
    refine(HA2.o).mono ?_;rintro e w4 H4;obtain⟨b,rfl⟩:∃ b,e=.returned (.bool b):=by rcases(H4.o).or with ⟨_,_,h,_⟩|⟨_,h,_⟩<;>exact⟨_,h⟩
    go_wp2_with fail
    go_ret;rw[HE.o];exact H4.o
 ·have HO:Hid (wV (.list l) o=none):=by show _=_;rw[wV,q1]
  clear q1 H1 HA;go_wp2_with fail
  go_ret;rw[HO.o];exact⟨rfl,k1.o⟩
theorem Qm:∀(n:Nat) (x:V),SizeOf.sizeOf x≤n→VC β x
 | 0,x,h=>by cases x<;>simp at h
 | n+1,x,h=>Jj x (fun l e=>MO l (fun y hy=>Qm n y (by
  subst e;have h1:=List.sizeOf_lt_of_mem hy;simp at h;omega)))
def TxR(w:World)(x:V)(e:Ending)(w':World):Prop:=match wV x [] with
 | some o=>e=.returned (.tuple #[.string (ba o),.bool true])∧Below w.heap.size w w'
 | none=>e=.returned (.tuple #[.string (ba []),.bool false])∧Below w.heap.size w w'
theorem MP{w:World}{O:Nat→Prop}{T:Int × Int→Nat}{u:Value}{x:V}(hg:Gl w)(hu:mP β w O T u x) :
  Calls prog 10 #[u] w fun e w'=>Hid (TxR w x e w'):=by
 have hba:Below w.heap.size w (w.alloc (.cells #[.pointer none,.slice none 0 0] 100)):=(ay _ w).alloc (aj _) _;have hW:yI w (w.alloc (.cells #[.pointer none,.slice none 0 0] 100)) w.heap.size []:=⟨⟨.pointer none,.slice none 0 0,⟨aB w _,.inl rfl,⟨rfl,.inl ⟨rfl,rfl⟩⟩,fun _=>rfl⟩⟩,aj _,hba,by simp⟩;have HV:=au (Qm _ x (aj _) w _ _ [] O T u hg hu hW);obtain⟨ty,y,rfl⟩:∃ ty y,u=.iface ty y:=by cases hu<;>exact⟨_,_,rfl⟩
 clear hW hba hu hg;go_enter func10,ntmps10;go_wp2_with fail
 refine(HV.o).mono ?_;rintro e w2 H2;rcases(H2.o).or with ⟨o,q1,rfl,k1⟩|⟨q1,rfl,k1⟩
 ·obtain⟨⟨p,bv,b1⟩,b2,b3,b4⟩:=k1.o
  have HS:=au (FQ Ji _ _ p bv w2 b1);have HB1:=au b1;have HB3:=au b3;have HQ:=au q1;clear b1 b2 b3 b4 k1 q1 H2 HV;go_wp2_with fail
  refine(HS.o).mono ?_;rintro e w3 ⟨rfl,z3,k3⟩;have qi:=au k3;have HZ3:=au z3;clear k3 z3;go_wp2_with fail
  go_ret2;unfold TxR;rw[HQ.o];exact⟨rfl,(HB3.o).trans ((qi.o).below (HB3.o).size (fun k hk=>(yY (HB1.o).row hk).1))⟩
 ·have HQ:=au q1
  clear q1 H2 HV;go_wp2_with fail
  go_ret2;unfold TxR;rw[HQ.o];exact⟨rfl,k1.o⟩
end Go.Proofs.YtdkpkpgpphkljaaGreatDoor
