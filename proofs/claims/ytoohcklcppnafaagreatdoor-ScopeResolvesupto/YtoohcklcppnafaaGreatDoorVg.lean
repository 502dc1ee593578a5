import Derived.Test.YtoohcklcppnafaaGreatDoorVc2
namespace Go.Proofs.YtoohcklcppnafaaGreatDoor
set_option maxRecDepth 100000
set_option maxHeartbeats 4000000
open Tryz
open Go.RowKit
open M
open X
theorem SH(a b:Int)(c:ByteArray)(a4:Option Addr)(a5 a6:Nat)(w:aG):(Instr.field 116 (.agg #[.int .i64 a,.int .i64 b,.string c,.slice a4 a5 a6]) 3).run prog w=.ok (.slice a4 a5 a6) w:=bC
theorem ou(D:Nat→Prop)(rb ab:Nat)(p:Part)(ps:List Part)(i:Nat)(w:aG)(h:dR w D rb ab (p::ps) i)(hi:i+JH p≤1073741824)(hDl:∀ q,D q→q<w.heap.size) :
  bB 75 #[.pointer (some ⟨rb,0,none⟩)] w fun e w'=>∃ a4 a5 a6,e=.returned (.agg #[.pointer (some ⟨ab,0,none⟩),.slice a4 a5 a6])∧Hid (qL w' D (.slice a4 a5 a6) (X.kids p)∧dR w' D rb ab ps (i+JH p)∧Kq D rb ab w w'):=by
 obtain⟨hr,ha⟩:=h.lt;have hsep:=h.sep;have kA:Below w.heap.size w (w.alloc (.cells #[.pointer none,.slice none 0 0] 119)):=(aB _ w).alloc (ax _) _;have HZ:Hid ((w.alloc (.cells #[.pointer none,.slice none 0 0] 119)).heap[w.heap.size]?=some (.cells #[.pointer none,.slice none 0 0] 119 (0,0))):=aI w _;have hR1:=h.below kA;have HR1:=aA hR1;obtain⟨v,hb,-⟩:=hR1.blk;have c0:=aj _ _ 0 _ _ _ hb;have lV:=aA kA;have hsz:(w.alloc (.cells #[.pointer none,.slice none 0 0] 119)).heap.size=w.heap.size+1:=aT
 clear h kA hR1 hb;go_enter func75,ntmps75;go_wp2_with fail
 generalize w.alloc (.cells #[.pointer none,.slice none 0 0] 119)=W1 at *;have c0':W1.cell? ⟨rb,0,none⟩=some (.pointer (some ⟨ab,0,none⟩)):=c0;have z0:W1.cell? ⟨w.heap.size,0,none⟩=some (.pointer none):=aj _ _ 0 _ _ _ HZ.o;have z1:W1.cell? ⟨w.heap.size,1,none⟩=some (.slice none 0 0):=aj _ _ 1 _ _ _ HZ.o;clear c0;have HL:Hid (∀ W,Below W1.heap.size W1 W→bB 74 #[.pointer (some ⟨rb,0,none⟩)] W fun e w'=>∃ a4 a5 a6,e=.returned (.agg #[.int .i64 (nk p),.int .i64 (Dw p),.string (ba (BM p)),.slice a4 a5 a6])∧Hid (qL w' D (.slice a4 a5 a6) (X.kids p)∧dR w' D rb ab ps (i+JH p)∧Kq D rb ab W w')):=fun W hW=>lN D rb ab p ps i W ((HR1.o).below hW) hi (fun q hq=>by have:=hDl q hq;have:=hW.size;omega)
 have HF:Hid (∀ w2 a4 a5 a6,qL w2 D (.slice a4 a5 a6) (X.kids p)∧dR w2 D rb ab ps (i+JH p)∧Kq D rb ab W1.drew w2→w2.cell? ⟨rb,0,none⟩=some (.pointer (some ⟨ab,0,none⟩))∧w2.heap[w.heap.size]?=some (.cells #[.pointer none,.slice none 0 0] 119 (0,0))∧Kq D rb ab w w2):=fun w2 a4 a5 a6 hx=>by
  obtain⟨v,e,-⟩:=hx.2.1.blk;have hk1:=(Kq.aN ((aB _ W1).drew) au).trans hx.2.2;exact⟨aj _ _ 0 _ _ _ e,hk1.new hr ha HZ.o aS,(Kq.aN lV.o ha).trans hk1⟩
 have hnr:¬ rb=w.heap.size:=au
 have hfl:=SH
 go_region_held3 (fun w'=>w'.cell? ⟨rb,0,none⟩=some (.pointer (some ⟨ab,0,none⟩)))
  (first|(with_reducible exact c0')|(with_reducible exact KK)|(with_reducible exact KK2)|go_keep)
  ((go_at_call 74;refine((HL.o) _ ?_).mono ?_;exact(aB _ W1).drew;rintro e w2 ⟨a4,a5,a6,rfl,H2⟩;obtain⟨KK,hz2,bO1⟩:=(HF.o) w2 a4 a5 a6 H2.o;have y0:w2.cell? ⟨w.heap.size,0,none⟩=some (.pointer none):=aj _ _ 0 _ _ _ hz2;have y1:w2.cell? ⟨w.heap.size,1,none⟩=some (.slice none 0 0):=aj _ _ 1 _ _ _ hz2;have q0:w2.frozen? ⟨w.heap.size,0,none⟩=false:=(dO hz2);have q1:w2.frozen? ⟨w.heap.size,1,none⟩=false:=(dO hz2);have HZ2:=aA hz2;have mU:=aA bO1;have KK2:∀ x y,((w2.setCell ⟨w.heap.size,0,none⟩ x).setCell ⟨w.heap.size,1,none⟩ y).cell? ⟨rb,0,none⟩=some (.pointer (some ⟨ab,0,none⟩)):=fun x y=>(by rw[bD2 _ _ _ _ aT,bD2 _ _ _ _ aT];exact KK)))
 clear y0 y1 q0 q1 KK KK2 z0 z1 c0';go_wp2_with fail
 refine aW (Wz rfl _ _ (b:=w.heap.size) rfl (Ic HZ2.o)) rfl ⟨a4,a5,a6,rfl,?_⟩;obtain⟨x1,x2,x3⟩:=H2.o;have hk4:Kp (fun q=>q=w.heap.size) w2 ((w2.setCell ⟨w.heap.size,0,none⟩ (.pointer (some ⟨ab,0,none⟩))).setCell ⟨w.heap.size,1,none⟩ (.slice a4 a5 a6)):=On.set (On.set (Kp.refl _ w2) 0 _) 1 _;have hD':∀ q,D q→¬ q=w.heap.size:=fun q hq e=>by have:=hDl q hq;omega
 exact⟨x1.keep hk4 hD',x2.on hk4 HZ2.o aS au au (fun hd=>hD' _ hd rfl),Kq.set2 mU.o ha (ax _) _ _⟩
theorem ow(D:Nat→Prop)(rb ab:Nat)(n:List Part)(nm:Nm)(ps:List Part)(i:Nat)(w:aG)(h:dR w D rb ab (n++ps) i)(hn:zG n i nm)(hi:i+pz (n++ps)≤1073741824)(hpl:(n++ps).length≤1073741824)(hDl:∀ q,D q→q<w.heap.size) :
  bB 78 #[.pointer (some ⟨rb,0,none⟩)] w (cK (.agg #[.string (ba nm.1),.int .i64 nm.2]) fun w'=>Hid (dR w' D rb ab ps (i+pz n)∧Kq D rb ab w w')):=by
 obtain⟨hr,ha⟩:=h.lt;have key:∃ qs p,OO n qs p∧((nk p=0∧nm.1=BM p∧nm.2=i+pz qs)∨(nk p=1∧nm=([],0))):=by
  cases hn with
  | name _ x qs _ h=>exact⟨qs,_,h.BN,.inl ⟨rfl,rfl,rfl⟩⟩
  | miss _=>exact⟨[],.miss gy,⟨rfl,fun q hq=>(by cases hq),rfl,rfl⟩,.inr ⟨rfl,rfl⟩⟩
 obtain⟨qs,p,ht,hcs⟩:=key;have kA:Below w.heap.size w (w.alloc (.cells #[.string ⟨#[]⟩,.int .i64 0] 163)):=(aB _ w).alloc (ax _) _;have HZ:Hid ((w.alloc (.cells #[.string ⟨#[]⟩,.int .i64 0] 163)).heap[w.heap.size]?=some (.cells #[.string ⟨#[]⟩,.int .i64 0] 163 (0,0))):=aI w _;have HM:=aA (lY D rb ab (n++ps) i _ (h.below kA) hi hpl (fun q hq=>aJ (hDl q hq) kA.size));have hd:=ht.drop ps;rw[hd.1,hd.2] at HM;have lV:=aA kA;have hpz:pz n=pz qs+pz [p]:=by rw[ht.eq,bZ]
 have hln:=ht.ln;rw[bZ] at hi;clear h kA hd hn;go_enter func78,ntmps78;go_wp2_with fail
 refine(HM.o).aX fun w2 H2=>?_;have SG:∀ q,D q→q<w2.heap.size:=fun q hq=>aJ (hDl q hq) (dI (lV.o).size (H2.o).2.size)
 have HZ2:Hid (w2.heap[w.heap.size]?=_):=(H2.o).2.new hr ha HZ.o aS;have mU:=aA <| (Kq.aN lV.o ha).trans (H2.o).2;obtain⟨v,hb,-⟩:=(H2.o).1.blk;have c0:=aj _ _ 0 _ _ _ hb;obtain⟨bv2,bl2,XL,gp2,Bl,-⟩:=(H2.o).1.Bj.ex;have d0:=aj _ _ 0 _ _ _ Bl;have HL:=aA (lN D rb ab p ps (i+pz qs) w2 (H2.o).1 au SG);have hw2:w.heap.size+1≤w2.heap.size:=by have:=(H2.o).2.size;simp at this;omega
 clear HM lV H2 HZ hb Bl;go_wp2_with fail
 refine(HL.o).mono ?_;rintro e w3 ⟨a4,a5,a6,rfl,H3⟩;have hZ3:=(H3.o).2.2.new hr ha HZ2.o aS;have HZ3:=aA hZ3;have qz:=aA <| (mU.o).trans (H3.o).2.2;have HR3:=aA (H3.o).2.1;have hw3:w.heap.size+1≤w3.heap.size:=by have:=(H3.o).2.2.size;omega
 have e0:w3.cell? ⟨w.heap.size,0,none⟩=some (.string ⟨#[]⟩):=aj w3 _ 0 _ _ _ hZ3;have e1:w3.cell? ⟨w.heap.size,1,none⟩=some (.int .i64 0):=aj w3 _ 1 _ _ _ hZ3;have q0:w3.frozen? ⟨w.heap.size,0,none⟩=false:=dO hZ3
 have q1:w3.frozen? ⟨w.heap.size,1,none⟩=false:=dO hZ3
 have e0':∀ o,(w3.alloc o).cell? ⟨w.heap.size,0,none⟩=some (.string ⟨#[]⟩):=fun o=>Lib.cell?_alloc_some _ e0
 have F6:∀ o,(w3.alloc o).cell? ⟨w.heap.size,1,none⟩=some (.int .i64 0):=fun o=>Lib.cell?_alloc_some _ e1
 have q0':∀ o,(w3.alloc o).frozen? ⟨w.heap.size,0,none⟩=false:=fun o=>(bD _ _ ⟨w.heap.size,0,none⟩ aQ).trans q0
 have q1':∀ o,(w3.alloc o).frozen? ⟨w.heap.size,1,none⟩=false:=fun o=>(bD _ _ ⟨w.heap.size,1,none⟩ aQ).trans q1
 clear HL mU HZ2 H3 hZ3 c0 d0 e0 e1 q0 q1;have HFin:Hid (∀(o:Obj) (x y:Value),dR (((w3.alloc o).setCell ⟨w.heap.size,0,none⟩ x).setCell ⟨w.heap.size,1,none⟩ y) D rb ab ps (i+pz n)∧Kq D rb ab w (((w3.alloc o).setCell ⟨w.heap.size,0,none⟩ x).setCell ⟨w.heap.size,1,none⟩ y)∧(((w3.alloc o).setCell ⟨w.heap.size,0,none⟩ x).setCell ⟨w.heap.size,1,none⟩ y).heap[w.heap.size]?=some (.cells #[x,y] 163 (0,0))):=fun o x y=>by
  have kB:Below w3.heap.size w3 (w3.alloc o):=(aB _ w3).alloc (ax _) _;have hk4:Kp (fun q=>q=w.heap.size) (w3.alloc o) (((w3.alloc o).setCell ⟨w.heap.size,0,none⟩ x).setCell ⟨w.heap.size,1,none⟩ y):=On.set (On.set (Kp.refl _ _) 0 _) 1 _;have hR:=((HR3.o).below kB).on hk4 ((eG w3 o au).trans HZ3.o) aS au au (fun hd=>by have:=hDl _ hd;omega);rw[hln] at hR;refine⟨by rw[hpz,← fK];exact hR,Kq.set2 ((qz.o).more kB ha) ha (ax _) _ _,Ic ((eG w3 o au).trans HZ3.o)⟩
 rcases hcs with ⟨h0,h1,h2⟩|⟨h0,h1⟩
 ·have iz:((nk p:Int)==0)=true:=by rw[h0];rfl
  have H1:=aA h1;have H2:=aA h2;clear h1 h2;rw[h0];go_wp2_with fail
  obtain⟨z1,z2,z3⟩:=(HFin.o) (.cells #[.int .i64 0,.int .i64 (Dw p),.string (ba (BM p)),.slice a4 a5 a6] 116) (.string (ba (BM p))) (.int .i64 ((i:Int)+(pz qs:Int)));refine aW (tK rfl _ _ (b:=w.heap.size) rfl z3) rfl ⟨by rw[H1.o,H2.o,j_],z1,z2⟩
 ·have iz:((nk p:Int)==0)=false:=by rw[h0];rfl
  have H1:=aA h1;clear h1;rw[h0];go_wp2_with fail
  obtain⟨z1,z2,z3⟩:=(HFin.o) (.cells #[.int .i64 1,.int .i64 (Dw p),.string (ba (BM p)),.slice a4 a5 a6] 116) (.string ⟨#[]⟩) (.int .i64 0);refine aW (tK rfl _ _ (b:=w.heap.size) rfl z3) rfl ⟨by rw[H1.o];rfl,z1,z2⟩
theorem nJ(z:ah):(ba z).toList=z:=by rw[jw];exact rV z
theorem Ye{x y:ah}(h:x≠y):((ba x).toList !=(ba y).toList)=true∧((ba x).toList==(ba y).toList)=false∧¬(ba x).toList=(ba y).toList∧¬ ba x=ba y:=by
 rw[nJ,nJ];exact⟨by simpa using h,by simpa using h,h,fun e=>h (by rw[← nJ x,← nJ y,e])⟩
theorem Ie(D:Nat→Prop)(rb ab:Nat)(t qs:List Part)(p:Part)(ps:List Part)(i:Nat)(x:ah)(w:aG)(h:dR w D rb ab (t++ps) i)(ht:OO t qs p)(hp:(∃ k,p=.leaf k x)∨(∃ k y,p=.leaf k y∧y≠x)∨nk p≠0)(hi:i+pz (t++ps)≤1073741824)(hpl:(t++ps).length≤1073741824)(hDl:∀ q,D q→q<w.heap.size) :
  bB 76 #[aH rb,.string (ba x)] w fun e w'=>((∃ k,p=.leaf k x)→e=.returned (.bool true)∧Hid (dR w' D rb ab ps (i+pz t)∧Kq D rb ab w w'))∧(¬(∃ k,p=.leaf k x)→e=.returned (.bool false)∧Hid (dR w' D rb ab (p::ps) (i+pz qs)∧Kq D rb ab w w')):=by
 have HM:=aA (lY D rb ab (t++ps) i w h hi hpl hDl);have hd:=ht.drop ps;rw[hd.1,hd.2] at HM;have hpz:pz t=pz qs+pz [p]:=by rw[ht.eq,bZ]
 have hln:=ht.ln;rw[bZ] at hi;clear h hd;go_enter func76,ntmps76;go_wp2_with fail
 refine(HM.o).aX fun w2 H2=>?_;have hdt:decide (p::ps≠[])=true:=aT
 rw[hdt];have SG:∀ q,D q→q<w2.heap.size:=fun q hq=>aJ (hDl q hq) (H2.o).2.size
 obtain⟨v,hb,hn⟩:=(H2.o).1.blk;have c1:=aj _ _ 1 _ _ _ hb;obtain⟨g,o,cap,kv,rfl,hD,y0,y1,y2,y3,hkk,-,hc1,hc2,-,-⟩:=hn.head;have hi1:(0:Int)<((ps.length+1:Nat):Int):=au
 have hi2:0<ps.length+1:=au
 have HL:=aA (lN D rb ab p ps (i+pz qs) w2 (H2.o).1 au SG);have HR2:=aA (H2.o);clear HM H2 hb hn hkk hdt y1 y3;rcases hp with ⟨k,rfl⟩|⟨k,y,rfl,hne⟩|hne
 ·have iz:((nk (.leaf k x):Int) !=0)=false:=rfl
  have y0':w2.cell? (aC g o)=some (ak 0):=y0;have y2':w2.cell? (aC g (o+2))=some (.string (ba x)):=y2;have i3:((ba x).toList !=(ba x).toList)=false:=aT
  clear y0 y2;go_wp2_with fail
  refine(HL.o).mono ?_;rintro e w3 ⟨a4,a5,a6,rfl,H3⟩;have HR3:Hid (dR w3 D rb ab ps (i+pz t)∧Kq D rb ab w w3):=by
   obtain⟨-,z2,z3⟩:=H3.o;rw[hln] at z2;rw[hpz,← fK];exact⟨z2,(HR2.o).2.trans z3⟩
  clear H3 HL y0' y2' c1;go_wp2_with fail
  go_ret;exact⟨fun _=>⟨rfl,HR3⟩,fun e=>absurd ⟨k,rfl⟩ e⟩
 ·have y0':w2.cell? (aC g o)=some (ak 0):=y0
  have y2':w2.cell? (aC g (o+2))=some (.string (ba y)):=y2;obtain⟨i3,i4,i5,i6⟩:=Ye hne;clear y0 y2;go_wp2_with fail
  go_ret;exact⟨fun⟨k',e⟩=>by cases e;exact absurd rfl hne,fun _=>⟨rfl,HR2.o⟩⟩
 ·have iz:((nk p:Int) !=0)=true:=by simp;omega
  go_wp2_with fail
  go_ret;exact⟨fun⟨k',e⟩=>by subst e;exact absurd rfl hne,fun _=>⟨rfl,HR2.o⟩⟩
section
variable{S D:Nat→Prop}{w w' wr:aG}{lo hi pb rb ab k tot kb:Nat}{ns acc:List Nm}{rv:Value}{l ps:List Part}
def X.nmq:Part→Bool
 | .leaf k _=>k==3
 | .miss m=>m==gy
 | .br _ _=>false
theorem KW(p:Part)(a4:Option Addr)(a5 a6:Nat)(w:aG) :
  bB 108 #[.agg #[ak (nk p),ak (Dw p),.string (ba (BM p)),.slice a4 a5 a6]] w (cK (.bool (X.nmq p)) fun w'=>Below w.heap.size w w'):=by
 have lV:∀ a b c,Hid (Below w.heap.size w (w.alloc (.cells #[ak a,ak b,.string c,.slice a4 a5 a6] 116))):=fun a b c=>(aB _ w).alloc (ax _) _
 have wJ:=aA lV;clear lV;cases p with
 | leaf k x =>
  by_cases h3:k=3
  ·subst h3
   show bB 108 #[.agg #[ak 0,ak 3,.string (ba x),.slice a4 a5 a6]] w fun e w'=>e=.returned (.bool true)∧Below w.heap.size w w'
   go_enter func108,ntmps108;go_wp2_with fail
   go_ret;exact⟨rfl,((wJ.o) _ _ _).o⟩
  ·have j3:((k:Int)==3)=false:=by simp;omega
   have k3:X.nmq (.leaf k x)=false:=by show(k==3)=false;simp;omega
   rw[k3];show bB 108 #[.agg #[ak 0,ak k,.string (ba x),.slice a4 a5 a6]] w fun e w'=>e=.returned (.bool false)∧Below w.heap.size w w'
   go_enter func108,ntmps108;go_wp2_with fail
   go_ret;exact⟨rfl,((wJ.o) _ _ _).o⟩
 | miss m =>
  by_cases hm:m=gy
  ·subst hm
   show bB 108 #[.agg #[ak 1,ak 0,.string (ba gy),.slice a4 a5 a6]] w fun e w'=>e=.returned (.bool true)∧Below w.heap.size w w'
   have e1:((ba gy).toList==[110,97,109,101])=true:=by rw[nJ];rfl
   go_enter func108,ntmps108;go_wp2_with fail
   go_ret;exact⟨rfl,((wJ.o) _ _ _).o⟩
  ·obtain⟨i3,i4,i5,i6⟩:=Ye hm
   have k3:X.nmq (.miss m)=false:=by show(m==gy)=false;simpa using hm
   have i4':((ba m).toList==[110,97,109,101])=false:=by rw[nJ];exact k3
   rw[k3];show bB 108 #[.agg #[ak 1,ak 0,.string (ba m),.slice a4 a5 a6]] w fun e w'=>e=.returned (.bool false)∧Below w.heap.size w w'
   go_enter func108,ntmps108;go_wp2_with fail
   go_ret;exact⟨rfl,((wJ.o) _ _ _).o⟩
 | br k ps =>
  by_cases h0:k=0
  ·subst h0
   show bB 108 #[.agg #[ak 0,ak 0,.string (ba []),.slice a4 a5 a6]] w fun e w'=>e=.returned (.bool false)∧Below w.heap.size w w'
   go_enter func108,ntmps108;go_wp2_with fail
   go_ret;exact⟨rfl,((wJ.o) _ _ _).o⟩
  ·by_cases h1:k=1
   ·subst h1
    have e1:((ba []).toList==[110,97,109,101])=false:=by rw[nJ];rfl
    show bB 108 #[.agg #[ak 1,ak 0,.string (ba []),.slice a4 a5 a6]] w fun e w'=>e=.returned (.bool false)∧Below w.heap.size w w'
    go_enter func108,ntmps108;go_wp2_with fail
    go_ret;exact⟨rfl,((wJ.o) _ _ _).o⟩
   ·have j0:((k:Int)==0)=false:=by simp;omega
    have j1:((k:Int)==1)=false:=aQ
    show bB 108 #[.agg #[ak k,ak 0,.string (ba []),.slice a4 a5 a6]] w fun e w'=>e=.returned (.bool false)∧Below w.heap.size w w'
    go_enter func108,ntmps108;go_wp2_with fail
    go_ret;exact⟨rfl,((wJ.o) _ _ _).o⟩
def SI(ns:List Nm):List Value:=ns.flatMap fun n=>[.string (ba n.1),ak n.2]
theorem SK(ns:List Nm)(n:Nm):SI (ns++[n])=SI ns++[.string (ba n.1),ak n.2]:=by unfold SI;rw[pK];rfl
theorem Fb:∀ {ns:List Nm} {j:Nat} {n:Nm},ns[j]?=some n→(SI ns)[j*2]?=some (.string (ba n.1))∧(SI ns)[j*2+1]?=some (ak n.2)
 | [],j,n,h=>by simp at h
 | a::ns,0,n,h=>by cases h;exact⟨rfl,rfl⟩
 | a::ns,j+1,n,h=>by
  have:=Fb (ns:=ns) (j:=j) (n:=n) (by simpa using h);have e:SI (a::ns)=[.string (ba a.1),ak a.2]++SI ns:=rfl;rw[e,show(j+1)*2=j*2+2 by omega,show j*2+2+1=j*2+1+2 by omega];exact this
structure mY(w:aG)(lo hi pb:Nat)(ns:List Nm):Prop where
 bd:lo≤pb∧pb<hi
 ex:∃ ao cap,w.heap[pb]?=some (.cells #[.slice ao ns.length cap] 231 (0,0))∧ns.length≤cap∧cap≤maxLen∧∀(j:Nat) (n:Nm),ns[j]?=some n→∃ g,ao=some ⟨g,0,none⟩∧lo≤g∧g<hi∧w.cell? (aC g (j*2))=some (.string (ba n.1))∧w.cell? (aC g (j*2+1))=some (ak n.2)∧∃ c f,w.heap[g]?=some (.cells c 163 f)
theorem mY.rY(hk:Kp S w w')(h:mY w lo hi pb ns)(hS:∀ i,lo≤i→i<hi→S i→∃ c f,w.heap[i]?=some (.cells c 3 f)):mY w' lo hi pb ns:=by
 obtain⟨ao,cap,h1,h2,h3,h4⟩:=h.ex;refine⟨h.bd,ao,cap,hk.heap h1 (fun e=>oF h1 aS (hS _ h.bd.1 h.bd.2 e)),h2,h3,fun j n hj=>?_⟩;obtain⟨g,e1,e2,e3,e4,e5,c,f,e6⟩:=h4 j n hj;have hg:¬ S g:=fun e=>oF e6 aS (hS g e2 e3 e)
 exact⟨g,e1,e2,e3,hk.dD e4 hg,hk.dD e5 hg,c,f,hk.heap e6 hg⟩
theorem mY.keep(hk:Kp S w w')(h:mY w lo hi pb ns)(hS:∀ i,lo≤i→i<hi→¬ S i):mY w' lo hi pb ns:=h.rY hk (fun i h1 h2 e=>absurd e (hS i h1 h2))
theorem mY.lD(hk:Kq D rb ab w w')(h:mY w lo hi pb ns)(h1:rb<lo)(h2:ab<lo):mY w' lo hi pb ns:=h.rY hk.kp (fun _ hi _ e=>e.int h1 h2 hi)
theorem SL(hb:w.heap[pb]?=some (.cells #[rv] 231 (0,0)))(ho:w.ownsRow lo 163 2 rv ns.length (SI ns))(hlo:lo≤pb):mY w lo w.heap.size pb ns:=by
 have hg:=dG ho;have hc:=fun g hg=>ho.cells (g:=g) hg
 rcases ho.2 with ⟨rfl,h0⟩|⟨g,cap,cur,rfl,-,-,hn,hm,-,-⟩
 ·have hns:=bP.1 h0
  subst hns;exact⟨⟨hlo,bN hb⟩,none,0,hb,ax _,by unfold maxLen;omega,fun j n hj=>by simp at hj⟩
 ·refine⟨⟨hlo,bN hb⟩,_,cap,hb,hn,hm,fun j n hj=>⟨g,rfl,(hg g rfl).1,(hg g rfl).2,?_,?_,(jW ho rfl).2⟩⟩
  ·have:=hc g rfl _ _ (Fb hj).1
   rwa[dQ,bS] at this
  ·have:=hc g rfl _ _ (Fb hj).2
   rwa[dQ,bS] at this
theorem OQ(h:nU l k ns):nU (l.dropWhile lq) (k+pz (l.takeWhile lq)) ns:=by
 induction h with
 | nil i=>exact .nil _
 | name x ps i ns h ih =>
  rw[fT (by simp[lq]),fq (by simp[lq])];exact .name x ps i ns h
 | leaf k x ps i ns hk h ih =>
  cases hq:lq (.leaf k x) with
  | true =>
   rw[kY hq,kX hq,gF,ji,← fK];exact ih
  | false =>
   rw[fT (by rw[hq];simp),fq (by rw[hq];simp)];exact .leaf k x ps i ns hk h
 | lack ps i ns h ih =>
  rw[fT (by simp[lq]),fq (by simp[lq])];exact .lack ps i ns h
 | miss m ps i ns hm h ih =>
  rw[fT (by simp[lq]),fq (by simp[lq])];exact .miss m ps i ns hm h
theorem SN{p:Part}(h:nU (p::l) k ns)(hq:lq p=false):(X.nmq p=true∧∃ nm ns',ns=nm::ns'∧zG [p] k nm∧nU l (k+pz [p]) ns')∨(X.nmq p=false∧JH p=pz [p]∧nU l (k+pz [p]) ns):=by
 cases h with
 | name x _ _ ns h =>
  refine .inl ⟨rfl,_,ns,rfl,?_,by rw[ji];exact h⟩;have:=zG.name [.leaf 3 x] x [] k ⟨rfl,fun q hq=>(by cases hq),au⟩;rw[rA] at this;exact this
 | leaf k2 x _ _ _ hk h=>exact .inr ⟨by show(k2==3)=false;simpa using hk,(ji k2 x).symm,by rw[ji];exact h⟩
 | lack _ _ ns h=>exact .inl ⟨rfl,_,ns,rfl,.miss k,h⟩
 | miss m _ _ _ hm h=>exact .inr ⟨by show(m==gy)=false;simpa using hm,rfl,h⟩
structure xS(w:aG)(D:Nat→Prop)(rb ab pb:Nat)(ps:List Part)(ns:List Nm)(tot:Nat)(kb:Nat)(l:List Part)(k:Nat)(acc:List Nm)(rv:Value)(wr:aG):Prop where
 rw:dR wr D kb ab l k
 nms:∃ ns',nU l k ns'∧ns=acc++ns'
 o:∃ v,wr.heap[rb]?=some (.cells #[aH ab,v] 119 (0,0))∧qL wr D v ps
 par:wr.heap[pb]?=some (.cells #[rv] 231 (0,0))
 own:wr.ownsRow w.heap.size 163 2 rv acc.length (SI acc)
 new:w.heap.size≤kb∧w.heap.size≤pb∧kb≠pb∧(∀ g,rv.ownBlock=some g→g≠kb∧g≠pb)
 kp:Kq D rb ab w wr
 pos:k+pz l=tot
theorem xS.step(h:xS w D rb ab pb ps ns tot kb l k acc rv wr){w2:aG}{l2:List Part}{k2:Nat}(hr:rb<w.heap.size)(ha:ab<w.heap.size)(hne:rb≠ab)(hk:Kq D kb ab wr w2)(hw:dR w2 D kb ab l2 k2)(hn:∃ ns',nU l2 k2 ns'∧ns=acc++ns')(hp:k2+pz l2=tot):xS w D rb ab pb ps ns tot kb l2 k2 acc rv w2:=by
 obtain⟨v,e,hv⟩:=h.o;obtain⟨n1,n2,n3,n4⟩:=h.new;refine⟨hw,hn,⟨v,hk.heap e aS au hne,hk.nds hv hw.sep.2.1 hw.sep.2.2⟩,hk.heap h.par aS au au,hk.owns h.own aS (fun g hg=>⟨(n4 g hg).1,?_⟩),h.new,h.kp.inner hk n1,hp⟩;have:=(dG h.own g hg).1;omega
theorem xS.copy(h:xS w D rb ab pb ps ns tot kb l k acc rv wr)(hDlt:∀ {q},D q→q<w.heap.size)(ha:ab<w.heap.size){v:Value}(hb:wr.heap[kb]?=some (.cells #[aH ab,v] 119 (0,0))):xS w D rb ab pb ps ns tot wr.heap.size l k acc rv (wr.alloc (.cells #[aH ab,v] 119)):=by
 have kB:Below wr.heap.size wr (wr.alloc (.cells #[aH ab,v] 119)):=(aB _ wr).alloc (ax _) _;have hk:=Kp.aN kB (fun _=>False);obtain⟨v0,e0,hn0⟩:=h.o;obtain⟨v',e1,hn1⟩:=h.rw.blk;obtain rfl:v'=v:=by
  rw[hb] at e1;cases e1;rfl
 have hpl:=bN h.par;have hkl:=bN hb;have hs:=h.kp.size;refine⟨⟨⟨v',aI wr _,hn1.keep hk (fun _ _=>id)⟩,h.rw.Bj.below kB,⟨by have:=h.rw.Bj.lt;omega,?_,h.rw.sep.2.2⟩,h.rw.JI⟩,h.nms,⟨v0,hk.heap e0 id,hn0.keep hk (fun _ _=>id)⟩,hk.heap h.par id,hk.owns h.own (fun _ _=>id),⟨hs,h.new.2.1,au,fun g hg=>⟨?_,(h.new.2.2.2 g hg).2⟩⟩,h.kp.more kB ha,h.pos⟩
 ·intro hd
  have:=hDlt hd;omega
 ·have:=(dG h.own g hg).2;omega
theorem aA4:(prog.info? 163).map (fun i=>(i.zero,i.size,i.bytes))=some (some (.agg #[.string ⟨#[]⟩,ak 0]),2,24):=bC
def WA(v:Value)(w:aG):Nat:=match v with|.pointer (some a)=>Fa a.block w|_=>0
theorem xS.named{w:aG}{D:Nat→Prop}{rb ab pb:Nat}{ps:List Part}{ns:List Nm}{tot kb:Nat}{l:List Part}{k:Nat}{acc:List Nm}{rv:Value}{wr:aG}(h:xS w D rb ab pb ps ns tot kb l k acc rv wr){w5:aG}{l2:List Part}{k2:Nat}(hr:rb<w.heap.size)(ha:ab<w.heap.size)(hD:∀ q,D q→q<w.heap.size)(hne:rb≠ab)(hk:Kq D kb ab wr w5)(hw:dR w5 D kb ab l2 k2){nm:Nm}(hn:∃ ns',nU l2 k2 ns'∧ns=(acc++[nm])++ns')(hp:k2+pz l2=tot)(o:Obj){g cap:Nat}{w6:aG}
  (hown:w6.ownsRow w.heap.size 163 2 (.slice (b_ g) (acc.length+1) cap) (acc.length+1) (SI acc++[.string (ba nm.1),ak nm.2])) (hgrow:(w5.alloc o).grownBy w6 rv.ownBlock) (hat:rv.ownBlock=some g∨g=w5.heap.size+1) :
  xS w D rb ab pb ps ns tot kb l2 k2 (acc++[nm]) (.slice (b_ g) (acc.length+1) cap) (w6.setCell (aC pb 0) (.slice (b_ g) (acc.length+1) cap)):=by
 obtain⟨v,e,hv⟩:=h.o;obtain⟨n1,n2,n3,n4⟩:=h.new;have hge:=fun q hq=>(dG h.own q hq)
 have hpl:=bN h.par;have hkl:=h.rw.lt.1;have hs5:=hk.size;have Yf:=hk.heap h.par aS (fun e=>n3 e.symm) au;have hown5:=hk.owns h.own aS (fun q hq=>⟨(n4 q hq).1,by have:=(hge q hq).1;omega⟩);have hA:Kp (fun q=>rv.ownBlock=some q∨q=pb) w5 w6:=Kp.grown (Kp.alloc (Kp.refl _ w5) o) hgrow (fun k e _=>.inl e);have hB:Kp (fun q=>rv.ownBlock=some q∨q=pb) w5 (w6.setCell (aC pb 0) (.slice (b_ g) (acc.length+1) cap)):=Kp.setCell (p:=⟨pb,0,none⟩) hA (fun _=>.inr rfl) _;have UM:∀ q,q<w.heap.size→¬(rv.ownBlock=some q∨q=pb):=fun q hq e=>by
  rcases e with e|e
  ·have:=(hge q e).1;omega
  ·omega
 have hgp:g≠pb∧g≠kb:=by
  rcases hat with e|e
  ·exact⟨(n4 g e).2,(n4 g e).1⟩
  ·exact⟨au,au⟩
 have aV3:=(hgrow.block pb aQ (fun e=>(n4 pb e.symm).2 rfl)).trans ((eG w5 o au).trans Yf);refine⟨hw.keep hB (fun e=>?_) (UM ab ha) (fun q hq=>UM q (hD q hq)) (fun q c f _ hc e=>?_),hn,⟨v,hB.heap (hk.heap e aS au hne) (UM rb hr),(hk.nds hv hw.sep.2.1 hw.sep.2.2).keep hB (fun q hq=>UM q (hD q hq))⟩,?_,?_,⟨n1,n2,n3,fun q hq=>?_⟩,(h.kp.inner hk n1).over hB ha UM,hp⟩
 ·rcases e with e|e
  ·exact(n4 kb e).1 rfl
  ·exact n3 e
 ·rcases e with e|e
  ·obtain⟨-,c',f',hc'⟩:=jW hown5 e
   exact oF hc' aS ⟨c,f,hc⟩
  ·subst e
   exact oF Yf aS ⟨c,f,hc⟩
 ·simp[World.setCell,aZ,aV3]
 ·rw[SK,ay]
  exact lu hown (by simp[Value.ownBlock];exact hgp.1) _
 ·simp only[Value.ownBlock,dP] at hq
  subst hq;exact⟨hgp.2,hgp.1⟩
theorem yG(D:Nat→Prop)(rb ab:Nat)(qs:List Part)(ns:List Nm)(ps:List Part)(i:Nat)(w:aG)(h:dR w D rb ab (.br 6 qs::ps) i)(hn:nU qs i ns)(hi:i+pz qs≤1073741824)(sP:qs.length≤268435456)(hnl:ns.length≤268435456)(hDl:∀ q,D q→q<w.heap.size) :
  bB 79 #[aH rb] w fun e w'=>∃ pb,e=.returned (aH pb)∧Hid (mY w' w.heap.size w'.heap.size pb ns∧dR w' D rb ab ps (i+pz qs)∧Kq D rb ab w w'):=by
 obtain⟨i0,hi0,hz0,hz1,hz2⟩:=dM aA4;obtain⟨hr,ha⟩:=h.lt;have hsep:=h.sep;have hgq:=h.JI.br.2;have hgp:=h.JI.tail;have kA:Below w.heap.size w (w.alloc (.cells #[.slice none 0 0] 231)):=(aB _ w).alloc (ax _) _;have Rp:Hid ((w.alloc (.cells #[.slice none 0 0] 231)).heap[w.heap.size]?=some (.cells #[.slice none 0 0] 231 (0,0))):=aI w _;have HE:=aA (ou D rb ab (.br 6 qs) ps i _ (h.below kA) (by show i+0≤_;omega) (fun q hq=>aJ (hDl q hq) kA.size));have lV:=aA kA;have nP:=aA hDl;have hsz:(w.alloc (.cells #[.slice none 0 0] 231)).heap.size=w.heap.size+1:=aT
 clear h kA hDl;go_enter func79,ntmps79;go_wp2_with fail
 generalize w.alloc (.cells #[.slice none 0 0] 231)=W1 at *;refine(HE.o).mono ?_;rintro e w2 ⟨a4,a5,a6,rfl,H2⟩;have H2':Hid (qL w2 D (.slice a4 a5 a6) qs∧dR w2 D rb ab ps i∧Kq D rb ab W1 w2):=H2.o;have hz2':w.heap.size+1≤w2.heap.size:=by have:=(H2'.o).2.2.size;omega
 have HI0:Hid (xS w D rb ab w.heap.size ps ns (i+pz qs) w2.heap.size qs i [] (.slice none 0 0) (w2.alloc (.cells #[aH ab,.slice a4 a5 a6] 119))):=by
  obtain⟨x1,x2,x3⟩:=H2'.o;have kB:Below w2.heap.size w2 (w2.alloc (.cells #[aH ab,.slice a4 a5 a6] 119)):=(aB _ w2).alloc (ax _) _;have x2b:=x2.below kB;refine⟨⟨⟨_,aI w2 _,x1.keep (Kp.aN kB (fun _=>False)) (fun _ _=>id)⟩,x2b.Bj,⟨au,fun hd=>by have:=(nP.o) _ hd;omega,x2.sep.2.2⟩,hgq⟩,⟨ns,hn,rfl⟩,x2b.blk,?_,dK _ _ _ _,⟨au,ax _,au,fun g hg=>by cases hg⟩,?_,rfl⟩
  ·exact(eG w2 _ au).trans (x3.new hr ha Rp.o aS)
  ·exact((Kq.aN lV.o ha).trans x3).more kB ha
 clear H2 H2' HE Rp lV;go_wp2_with fail
 generalize w2.alloc (.cells #[aH ab,.slice a4 a5 a6] 119)=W2 at *;go_loopw [4] (fun kv wr=>∃(kb:Nat) (l:List Part) (k:Nat) (acc:List Nm) (rv:Value),kv=aH kb∧l.length≤268435456∧Hid (xS w D rb ab w.heap.size ps ns (i+pz qs) kb l k acc rv wr)) (fun kv wr=>WA kv wr)
 case atStart=>exact⟨w2.heap.size,qs,i,[],_,rfl,sP,HI0⟩
 case round =>
  obtain⟨kb,l,k,acc,rv,rfl,hll,HI⟩:=hrel;clear HI0;have hlen:WA (aH kb) wr=l.length:=(HI.o).rw.len;have hpos:=(HI.o).pos;have HDw:∀ q,D q→q<wr.heap.size:=fun q hq=>aJ ((nP.o) q hq) (HI.o).kp.size
  have HM:=aA (lY D kb ab l k wr (HI.o).rw au au HDw);clear HDw;go_wp2_with fail
  refine(HM.o).aX fun w3 H3=>?_;have hpz:pz l=pz (l.takeWhile lq)+pz (l.dropWhile lq):=by rw[← bZ,fE]
  have hdl:(l.dropWhile lq).length≤l.length:=(gD _).length_le;have HI3:Hid (xS w D rb ab w.heap.size ps ns (i+pz qs) kb (l.dropWhile lq) (k+pz (l.takeWhile lq)) acc rv w3):=by
   obtain⟨ns',g1,g2⟩:=(HI.o).nms;exact(HI.o).step hr ha hsep.1 (H3.o).2 (H3.o).1 ⟨ns',OQ g1,g2⟩ au
  have SQ:∀ p t,l.dropWhile lq=p::t→lq p=false:=fun p t e=>by
   have:=qo lq l;rw[e] at this
   simpa using this
  clear HM H3 HI;generalize l.dropWhile lq=l3 at *;generalize k+pz (l.takeWhile lq)=k3 at *;cases l3 with
  | nil =>
   have HF:Hid (mY w3 w.heap.size w3.heap.size w.heap.size ns∧dR w3 D rb ab ps (i+pz qs)∧Kq D rb ab w w3):=by
    obtain⟨ns',g1,g2⟩:=(HI3.o).nms;cases g1
    rw[aL] at g2;subst g2;have hp3:k3=i+pz qs:=(HI3.o).pos;refine⟨SL (HI3.o).par (HI3.o).own (ax _),⟨(HI3.o).o,by rw[← hp3];exact(HI3.o).rw.Bj,hsep,hgp⟩,(HI3.o).kp⟩
   have hdf:decide (([]:List Part)≠[])=false:=aT
   rw[hdf];clear HI3;go_wp2_with fail
   go_ret;exact⟨_,rfl,HF⟩
  | cons p l4 =>
   have hdt:decide (p::l4≠[])=true:=aT
   rw[hdt];clear hdt;have hq:=SQ p l4 rfl;clear SQ;obtain⟨v,hb,hnn⟩:=(HI3.o).rw.blk;have c1:=aj w3 _ 1 _ _ _ hb;obtain⟨g,o,cap,kv,rfl,hD,y0,y1,y2,y3,hkk,-,hc1,hc2,-,-⟩:=hnn.head;obtain⟨b4,b6,_,_,_,_,rfl,-⟩:=hkk.ex;have hi1:(0:Int)<((l4.length+1:Nat):Int):=au
   have hi2:0<l4.length+1:=au
   have yH:=(HI3.o).pos;rw[gF] at yH;rw[aY] at hdl;have HHd:=aA (fun ns' h=>SN (p:=p) (l:=l4) (k:=k3) (ns:=ns') h hq);clear hb hnn hkk;go_wp2_with fail
   refine(KW p _ _ _ w3).aX fun w4 k4=>?_;have HI4:=aA <| (HI3.o).step hr ha hsep.1 (Kq.aN k4 (aJ ha (HI3.o).kp.size)) ((HI3.o).rw.below k4) (HI3.o).nms (HI3.o).pos;clear k4 HI3 c1 y0 y1 y2 y3;cases hnq:X.nmq p with
   | false =>
    have HN:Hid (JH p=pz [p]∧∃ ns',nU l4 (k3+pz [p]) ns'∧ns=acc++ns'):=by
     obtain⟨ns',g1,g2⟩:=(HI4.o).nms;rcases(HHd.o) ns' g1 with ⟨e,-⟩|⟨-,e2,e3⟩
     ·rw[hnq] at e;cases e
     ·exact⟨e2,ns',e3,g2⟩
    have hln:=(HN.o).1;have UR:=aA (lN D kb ab p l4 k3 w4 (HI4.o).rw au (fun q hq=>aJ ((nP.o) q hq) (HI4.o).kp.size));go_wp2_with fail
    refine(UR.o).mono ?_;rintro e w5 ⟨d4,d5,d6,rfl,H5⟩;have sQ:Hid (xS w D rb ab w.heap.size ps ns (i+pz qs) kb l4 (k3+pz [p]) acc rv w5):=by
     obtain⟨-,z2,z3⟩:=H5.o;rw[hln] at z2;exact(HI4.o).step hr ha hsep.1 z3 z2 (HN.o).2 au
    clear H5 UR HI4;obtain⟨v5,hb5,YP⟩:=(sQ.o).rw.blk;have c0:=aj w5 _ 0 _ _ _ hb5;obtain⟨f4,f6,_,_,_,_,rfl,-⟩:=YP.ex;have c1:=aj w5 _ 1 _ _ _ hb5;have Gb:=aA ((sQ.o).copy (fun {q} hq=>(nP.o) q hq) ha (v:=.slice f4 l4.length f6) hb5);clear hb5 YP sQ;go_wp2_with fail
    refine⟨⟨w5.heap.size,l4,k3+pz [p],acc,rv,rfl,au,Gb⟩,?_⟩;have:=(Gb.o).rw.len;rw[hlen];show Fa w5.heap.size _<_;rw[this];omega
   | true =>
    have HN:Hid (∃ nm,zG [p] k3 nm∧∃ ns',nU l4 (k3+pz [p]) ns'∧ns=(acc++[nm])++ns'):=by
     obtain⟨ns',g1,g2⟩:=(HI4.o).nms;rcases(HHd.o) ns' g1 with ⟨-,nm,ns2,e1,e2,e3⟩|⟨e,-⟩
     ·exact⟨nm,e2,ns2,e3,by rw[g2,e1,aK];rfl⟩
     ·rw[hnq] at e;cases e
    obtain⟨nm,hnm,OT⟩:=HN.o;have LV:=aA OT;have hp0:w4.cell? (aC w.heap.size 0)=some rv:=aj w4 _ 0 _ _ _ (HI4.o).par;have hpf:w4.frozen? (aC w.heap.size 0)=false:=by have:=(HI4.o).par;simp[World.frozen?,this]
    have Jv:=aA (ow D kb ab [p] nm l4 k3 w4.drew ((HI4.o).rw.below ((aB _ w4).drew)) hnm (by rw[bZ];omega) aQ (fun q hq=>aJ ((nP.o) q hq) (HI4.o).kp.size));have hacc:acc.length≤268435456:=by
     have:=congrArg List.length OT.choose_spec.2;simp at this;omega
    have HAf:Hid (∀ w5,dR w5 D kb ab l4 (k3+pz [p])∧Kq D kb ab w4.drew w5→w5.cell? (aC w.heap.size 0)=some rv∧w5.frozen? (aC w.heap.size 0)=false∧Kq D kb ab w4 w5∧w5.ownsRow w.heap.size 163 2 rv acc.length (SI acc)∧w.heap.size<w5.heap.size∧(∀ q,rv.ownBlock=some q→q≠w.heap.size)):=fun w5 hx=>by
     have hkd:=(Kq.aN ((aB _ w4).drew) (aJ ha (HI4.o).kp.size)).trans hx.2;obtain⟨n1,n2,n3,n4⟩:=(HI4.o).new;have hpar:=hkd.heap (HI4.o).par aS (fun e=>n3 e.symm) au;refine⟨aj w5 _ 0 _ _ _ hpar,dO hpar,hkd,hkd.owns (HI4.o).own aS (fun g hg=>⟨(n4 g hg).1,?_⟩),bN hpar,fun q hq=>(n4 q hq).2⟩;have:=(dG (HI4.o).own g hg).1;omega
    clear hnm OT HHd HN;go_wp2_with fail
    refine wp_region_noPanic ?_;refine dB (S:=fun w'=>w'.cell? (aC w.heap.size 0)=some rv) (z:=10) bC ?_;have hS:w4.drew.cell? (aC w.heap.size 0)=some rv:=hp0;iterate 5(refine ny hS ?_;simp only[Act.put,aD,aO,aP])
    refine fw 5 fun K hK=>?_;go_simp;refine(Jv.o).aX fun w5 H5=>?_;obtain⟨g0,g1,g2,g3,g4,g5⟩:=(HAf.o) w5 H5.o;have HG2:=aA g2;have MP:=aA g3;have vv:=aA g5;have g6:=g5;clear g2 g3 g5 HAf Jv;dsimp only;refine hK.o _ _ (fun _=>g0) (fun hS2=>?_);clear hS hK K hS2;have hS:=g0
    try simp only[Act.put,aD,aO,aP]
    refine fw 6 fun K hK=>?_;go_simp;refine hK.o _ _ (fun _=>Lib.cell?_alloc_some _ g0) (fun hS2=>?_);clear hS hK K hS2;have hS:=fun o=>Lib.cell?_alloc_some (W:=w5) o g0
    refine fw 7 fun K hK=>?_;refine step_append_lies _ (by rfl) _ _ _ (by rfl) w.heap.size 163 i0 _ 2 24 underlying229 hi0 hz0 hz1 hz2 rfl au rv acc.length _ (by rfl) ((MP.o).alloc _)
      ⟨w5.heap.size,0,none⟩ 1 1 [.string (ba nm.1),ak nm.2] (by rfl) (by rfl) (World.news_of_block (cs:=#[.string (ba nm.1),ak nm.2]) (aI w5 _)) (by simp[Value.oneCell'])
      au (by unfold maxLen;omega) au aQ (w5.heap.size+1) aT ?_
    intro g7 Ho w7 oM jB rO KI;have x1:=(jB.cell_far ⟨w.heap.size,0,none⟩ aQ (fun e=>(vv.o) _ e.symm rfl)).trans (hS _);have x2:=(jB.frozen_far ⟨w.heap.size,0,none⟩ aQ (fun e=>(vv.o) _ e.symm rfl)).trans ((bD _ _ ⟨w.heap.size,0,none⟩ aQ).trans g1);have P5:=aA ((HI4.o).named hr ha nP.o hsep.1 HG2.o (H5.o).1 LV.o au _ oM jB rO);clear oM jB;show K (Act.put _ (some 22) _) w7;refine hK.o _ _ (fun _=>x1) (fun hS2=>?_);clear hS hK K hS2;have hS:=x1;simp only[Act.put,aD,aO,aP];refine fw 8 fun K hK=>?_;go_simp;refine hK.o _ _ (fun _=>hS) (fun _=>?_);clear hK K;refine fw 9 fun K hK=>?_;go_simp;refine hK.o _ _ (fun _=>hS) (fun _=>?_);clear hK K;refine fw 10 fun K hK=>?_;go_simp;refine hK.o _ _ (fun h=>absurd rfl h) (fun _=>iF ?_);clear hK K;refine NoPanic.normal ?_;clear x1 x2 hS g0 g1;generalize w7.setCell (aC w.heap.size 0) (.slice (b_ g7) (acc.length+1) Ho)=w8 at *;obtain⟨v8,P6,hn8⟩:=(P5.o).rw.blk;have c0:=aj w8 _ 0 _ _ _ P6;obtain⟨f4,f6,_,_,_,_,rfl,-⟩:=hn8.ex;have c1:=aj w8 _ 1 _ _ _ P6;have HI9:=aA ((P5.o).copy (fun {q} hq=>(nP.o) q hq) ha (v:=.slice f4 l4.length f6) P6);clear P6 hn8 P5;go_wp2_with fail
    refine⟨⟨w8.heap.size,l4,k3+pz [p],acc++[nm],_,rfl,au,HI9⟩,?_⟩;have:=(HI9.o).rw.len;rw[hlen];show Fa w8.heap.size _<_;rw[this];omega
end
section
variable{w w':aG}{lo hi rb ab b i:Nat}{v kv:Value}{e:Ex}{D:Nat→Prop}{T:TypeId}
inductive je(w:aG)(lo hi:Nat):Value→Ex→Prop
 | lit {m n:Int} {z:Bool} (b k:Nat) (x:ah) (hb:lo≤b∧b<hi) (h:w.heap[b]?=some (.cells #[ak m,ak n,.bool z,ak k,.string (ba x)] 281 (0,0))):je w lo hi (.iface 279 (aH b)) (.lit k x)
 | hole {m n:Int} {z:Bool} (b i:Nat) (hb:lo≤b∧b<hi) (h:w.heap[b]?=some (.cells #[ak m,ak n,.bool z] 278 (0,0))):je w lo hi (.iface 277 (aH b)) (.hole i)
 | missing {m n:Int} {z:Bool} (b:Nat) (hb:lo≤b∧b<hi) (h:w.heap[b]?=some (.cells #[ak m,ak n,.bool z] 254 (0,0))):je w lo hi (.iface 252 (aH b)) .missing
 | var {m n:Int} {z:Bool} (b:Nat) (nm:Nm) (hb:lo≤b∧b<hi) (h:w.heap[b]?=some (.cells #[ak m,ak n,.bool z,.string (ba nm.1),ak nm.2] 276 (0,0))):je w lo hi (.iface 274 (aH b)) (.var nm)
 | kH {m n:Int} {z:Bool} (b:Nat) (nm:Nm) (v1 v2:Value) (e1 e2:Ex) (hb:lo≤b∧b<hi) (h:w.heap[b]?=some (.cells #[ak m,ak n,.bool z,.string (ba nm.1),ak nm.2,v1,v2] 301 (0,0))) (h1:je w lo hi v1 e1) (h2:je w lo hi v2 e2):je w lo hi (.iface 255 (aH b)) (.kH nm e1 e2)
 | ite {m n:Int} {z:Bool} (b:Nat) (v1 v2 v3:Value) (e1 e2 e3:Ex) (hb:lo≤b∧b<hi) (h:w.heap[b]?=some (.cells #[ak m,ak n,.bool z,v1,v2,v3] 261 (0,0))) (h1:je w lo hi v1 e1) (h2:je w lo hi v2 e2) (h3:je w lo hi v3 e3):je w lo hi (.iface 259 (aH b)) (.ite e1 e2 e3)
 | fn {m n:Int} {z:Bool} (b pb:Nat) (ns:List Nm) (v:Value) (e:Ex) (hb:lo≤b∧b<hi) (h:w.heap[b]?=some (.cells #[ak m,ak n,.bool z,aH pb,v] 297 (0,0))) (hp:mY w lo hi pb ns) (h1:je w lo hi v e):je w lo hi (.iface 262 (aH b)) (.fn ns e)
 | bin {m n:Int} {z:Bool} (b:Nat) (v1 v2:Value) (x:ah) (e1 e2:Ex) (hb:lo≤b∧b<hi) (h:w.heap[b]?=some (.cells #[ak m,ak n,.bool z,v1,.string (ba x),v2] 303 (0,0))) (h1:je w lo hi v1 e1) (h2:je w lo hi v2 e2):je w lo hi (.iface 264 (aH b)) (.bin e1 x e2)
 | call {m n:Int} {z:Bool} (b:Nat) (v:Value) (e:Ex) (ao:Option Addr) (cap:Nat) (vs:Nat→Value) (es:List Ex) (hb:lo≤b∧b<hi) (h:w.heap[b]?=some (.cells #[ak m,ak n,.bool z,v,.slice ao es.length cap] 305 (0,0))) (hc:es.length≤cap∧cap≤maxLen) (h1:je w lo hi v e)
   (hr:∀ j,j<es.length→∃ g,ao=some ⟨g,0,none⟩∧lo≤g∧g<hi∧w.cell? (aC g j)=some (vs j)∧∃ c f,w.heap[g]?=some (.cells c 179 f)) (hp:∀(j:Nat) (e:Ex),es[j]?=some e→je w lo hi (vs j) e):je w lo hi (.iface 266 (aH b)) (.call e es)
 | list {m n:Int} {z:Bool} (b:Nat) (ao:Option Addr) (cap:Nat) (vs:Nat→Value) (es:List Ex) (hb:lo≤b∧b<hi) (h:w.heap[b]?=some (.cells #[ak m,ak n,.bool z,.slice ao es.length cap] 270 (0,0))) (hc:es.length≤cap∧cap≤maxLen)
   (hr:∀ j,j<es.length→∃ g,ao=some ⟨g,0,none⟩∧lo≤g∧g<hi∧w.cell? (aC g j)=some (vs j)∧∃ c f,w.heap[g]?=some (.cells c 179 f)) (hp:∀(j:Nat) (e:Ex),es[j]?=some e→je w lo hi (vs j) e):je w lo hi (.iface 268 (aH b)) (.list es)
 | group {m n:Int} {z:Bool} (b:Nat) (v:Value) (e:Ex) (hb:lo≤b∧b<hi) (h:w.heap[b]?=some (.cells #[ak m,ak n,.bool z,v] 273 (0,0))) (h1:je w lo hi v e):je w lo hi (.iface 271 (aH b)) (.group e)
theorem je.rY{S:Nat→Prop}{w w':aG}(hk:Kp S w w'){lo hi:Nat}(hS:∀ i,lo≤i→i<hi→S i→∃ c f,w.heap[i]?=some (.cells c 3 f)){v:Value}{e:Ex}(h:je w lo hi v e):je w' lo hi v e:=by
 have hp:∀ {b:Nat} {c:Array Value} {T:TypeId} {f:Nat × Nat},lo≤b∧b<hi→w.heap[b]?=some (.cells c T f)→T≠3→¬ S b:=fun hb h hT e=>oF h hT (hS _ hb.1 hb.2 e)
 have hq:∀ {b:Nat} {c:Array Value} {T:TypeId} {f:Nat × Nat},lo≤b∧b<hi→w.heap[b]?=some (.cells c T f)→T≠3→w'.heap[b]?=some (.cells c T f):=fun hb h hT=>hk.heap h (hp hb h hT)
 induction h with
 | lit b k x hb h=>exact .lit b k x hb (hq hb h aS)
 | hole b i hb h=>exact .hole b i hb (hq hb h aS)
 | missing b hb h=>exact .missing b hb (hq hb h aS)
 | var b n hb h=>exact .var b n hb (hq hb h aS)
 | kH b n v1 v2 e1 e2 hb h h1 h2 i1 i2=>exact .kH b n v1 v2 e1 e2 hb (hq hb h aS) i1 i2
 | ite b v1 v2 v3 e1 e2 e3 hb h h1 h2 h3 i1 i2 i3=>exact .ite b v1 v2 v3 e1 e2 e3 hb (hq hb h aS) i1 i2 i3
 | fn b pb ns v e hb h hp h1 i1=>exact .fn b pb ns v e hb (hq hb h aS) (hp.rY hk hS) i1
 | bin b v1 v2 x e1 e2 hb h h1 h2 i1 i2=>exact .bin b v1 v2 x e1 e2 hb (hq hb h aS) i1 i2
 | call b v e ao cap vs es hb h hc h1 hr hp' i1 ip=>exact .call b v e ao cap vs es hb (hq hb h aS) hc i1 (fun j hj=>by obtain⟨g,x1,x2,x3,x4,c,f,x5⟩:=hr j hj;exact⟨g,x1,x2,x3,hk.dD x4 (hp ⟨x2,x3⟩ x5 aS),c,f,hq ⟨x2,x3⟩ x5 aS⟩) ip
 | list b ao cap vs es hb h hc hr hp' ip=>exact .list b ao cap vs es hb (hq hb h aS) hc (fun j hj=>by obtain⟨g,x1,x2,x3,x4,c,f,x5⟩:=hr j hj;exact⟨g,x1,x2,x3,hk.dD x4 (hp ⟨x2,x3⟩ x5 aS),c,f,hq ⟨x2,x3⟩ x5 aS⟩) ip
 | group b v e hb h h1 i1=>exact .group b v e hb (hq hb h aS) i1
theorem je.keep{S:Nat→Prop}(hk:Kp S w w')(hS:∀ i,lo≤i→i<hi→¬ S i)(h:je w lo hi v e):je w' lo hi v e:=h.rY hk (fun i h1 h2 e=>absurd e (hS i h1 h2))
theorem je.lD(hk:Kq D rb ab w w')(h:je w lo hi v e)(h1:rb<lo)(h2:ab<lo):je w' lo hi v e:=h.rY hk.kp (fun _ hi _ e=>e.int h1 h2 hi)
theorem qg{q:Nat}{m n m' n':Int}{z z':Bool}{r:List Value}(h:w.heap[q]?=some (.cells (List.toArray (ak m::ak n::.bool z::r)) T (0,0))):∃ m2 n2 z2,(((w.setCell (aC b 0) (ak m')).setCell (aC b 1) (ak n')).setCell (aC b 2) (.bool z')).heap[q]?=some (.cells (List.toArray (ak m2::ak n2::.bool z2::r)) T (0,0)):=by
 by_cases e:q=b
 ·subst e
  exact⟨m',n',z',by simp[World.setCell,aZ,h]⟩
 ·exact⟨m,n,z,by rw[zy e,zy e,zy e];exact h⟩
theorem je.stood{c:Array Value}{f:Nat × Nat}(hb:w.heap[b]?=some (.cells c T f))(hT:T≠179∧T≠163∧T≠231)(m' n':Int)(z':Bool)(h:je w lo hi v e):je (((w.setCell (aC b 0) (ak m')).setCell (aC b 1) (ak n')).setCell (aC b 2) (.bool z')) lo hi v e:=by
 have hk:Kp (fun q=>q=b) w (((w.setCell (aC b 0) (ak m')).setCell (aC b 1) (ak n')).setCell (aC b 2) (.bool z')):=On.set (On.set (On.set (Kp.refl _ w) 0 _) 1 _) 2 _;have ht:∀ {g:Nat} {c':Array Value} {T':TypeId} {f':Nat × Nat},w.heap[g]?=some (.cells c' T' f')→T≠T'→¬ g=b:=fun h hne e=>by
  subst e;rw[hb] at h;injection h with h;injection h with h1 h2;exact hne h2
 have hr':∀ {g j:Nat} {u:Value} {c':Array Value} {f':Nat × Nat},w.cell? (aC g j)=some u→w.heap[g]?=some (.cells c' 179 f')→(((w.setCell (aC b 0) (ak m')).setCell (aC b 1) (ak n')).setCell (aC b 2) (.bool z')).cell? (aC g j)=some u∧∃ c f,(((w.setCell (aC b 0) (ak m')).setCell (aC b 1) (ak n')).setCell (aC b 2) (.bool z')).heap[g]?=some (.cells c 179 f):=fun h1 h2=>⟨hk.dD h1 (ht h2 hT.1),_,_,hk.heap h2 (ht h2 hT.1)⟩
 induction h with
 | lit q k x hq h=>obtain⟨_,_,_,h'⟩:=qg h;exact .lit q k x hq h'
 | hole q i hq h=>obtain⟨_,_,_,h'⟩:=qg h;exact .hole q i hq h'
 | missing q hq h=>obtain⟨_,_,_,h'⟩:=qg h;exact .missing q hq h'
 | var q n hq h=>obtain⟨_,_,_,h'⟩:=qg h;exact .var q n hq h'
 | kH q n v1 v2 e1 e2 hq h h1 h2 i1 i2=>obtain⟨_,_,_,h'⟩:=qg h;exact .kH q n v1 v2 e1 e2 hq h' i1 i2
 | ite q v1 v2 v3 e1 e2 e3 hq h h1 h2 h3 i1 i2 i3=>obtain⟨_,_,_,h'⟩:=qg h;exact .ite q v1 v2 v3 e1 e2 e3 hq h' i1 i2 i3
 | fn q pb ns v e hq h hp h1 i1 =>
  obtain⟨_,_,_,h'⟩:=qg h;refine .fn q pb ns v e hq h' ?_ i1;obtain⟨ao,cap,x1,x2,x3,x4⟩:=hp.ex;refine⟨hp.bd,ao,cap,hk.heap x1 (ht x1 hT.2.2),x2,x3,fun j n hj=>?_⟩;obtain⟨g,y1,y2,y3,y4,y5,c',f',y6⟩:=x4 j n hj;exact⟨g,y1,y2,y3,hk.dD y4 (ht y6 hT.2.1),hk.dD y5 (ht y6 hT.2.1),c',f',hk.heap y6 (ht y6 hT.2.1)⟩
 | bin q v1 v2 x e1 e2 hq h h1 h2 i1 i2=>obtain⟨_,_,_,h'⟩:=qg h;exact .bin q v1 v2 x e1 e2 hq h' i1 i2
 | call q v e ao cap vs es hq h hc h1 hr hp i1 ip =>
  obtain⟨_,_,_,h'⟩:=qg h;exact .call q v e ao cap vs es hq h' hc i1 (fun j hj=>by obtain⟨g,x1,x2,x3,x4,c,f,x5⟩:=hr j hj;exact⟨g,x1,x2,x3,hr' x4 x5⟩) ip
 | list q ao cap vs es hq h hc hr hp ip =>
  obtain⟨_,_,_,h'⟩:=qg h;exact .list q ao cap vs es hq h' hc (fun j hj=>by obtain⟨g,x1,x2,x3,x4,c,f,x5⟩:=hr j hj;exact⟨g,x1,x2,x3,hr' x4 x5⟩) ip
 | group q v e hq h h1 i1=>obtain⟨_,_,_,h'⟩:=qg h;exact .group q v e hq h' i1
theorem mY.wide{lo' hi' pb:Nat}{ns:List Nm}(h:mY w lo hi pb ns)(h1:lo'≤lo)(h2:hi≤hi'):mY w lo' hi' pb ns:=by
 obtain⟨ao,cap,x1,x2,x3,x4⟩:=h.ex;have:=h.bd;exact⟨⟨au,au⟩,ao,cap,x1,x2,x3,fun j n hj=>by obtain⟨g,e1,e2,e3,e4⟩:=x4 j n hj;exact⟨g,e1,au,au,e4⟩⟩
theorem je.wide{w:aG}{lo hi lo' hi':Nat}(q1:lo'≤lo)(q2:hi≤hi'){v:Value}{e:Ex}(h:je w lo hi v e):je w lo' hi' v e:=by
 induction h with
 | lit b k x hb h=>exact .lit b k x ⟨au,au⟩ h
 | hole b i hb h=>exact .hole b i ⟨au,au⟩ h
 | missing b hb h=>exact .missing b ⟨au,au⟩ h
 | var b n hb h=>exact .var b n ⟨au,au⟩ h
 | kH b n v1 v2 e1 e2 hb h h1 h2 i1 i2=>exact .kH b n v1 v2 e1 e2 ⟨au,au⟩ h i1 i2
 | ite b v1 v2 v3 e1 e2 e3 hb h h1 h2 h3 i1 i2 i3=>exact .ite b v1 v2 v3 e1 e2 e3 ⟨au,au⟩ h i1 i2 i3
 | fn b pb ns v e hb h hp h1 i1=>exact .fn b pb ns v e ⟨au,au⟩ h (hp.wide q1 q2) i1
 | bin b v1 v2 x e1 e2 hb h h1 h2 i1 i2=>exact .bin b v1 v2 x e1 e2 ⟨au,au⟩ h i1 i2
 | call b v e ao cap vs es hb h hc h1 hr hp i1 ip=>exact .call b v e ao cap vs es ⟨au,au⟩ h hc i1 (fun j hj=>by obtain⟨g,x1,x2,x3,x4⟩:=hr j hj;exact⟨g,x1,au,au,x4⟩) ip
 | list b ao cap vs es hb h hc hr hp ip=>exact .list b ao cap vs es ⟨au,au⟩ h hc (fun j hj=>by obtain⟨g,x1,x2,x3,x4⟩:=hr j hj;exact⟨g,x1,au,au,x4⟩) ip
 | group b v e hb h h1 i1=>exact .group b v e ⟨au,au⟩ h i1
theorem je.iface{w:aG}{lo hi:Nat}{v:Value}{e:Ex}(h:je w lo hi v e):∃ ty b,v=.iface ty (aH b):=by
 cases h<;>exact⟨_,_,rfl⟩
theorem Ig{qs:List Part}(hp:oq w D ab i)(hk:qL w D kv qs)(hq:Gd qs)(hd:¬ D ab)(hDl:∀ q,D q→q<w.heap.size) :
  dR (w.alloc (.cells #[aH ab,kv] 119)) D w.heap.size ab qs i:=by
 have kB:Below w.heap.size w (w.alloc (.cells #[aH ab,kv] 119)):=(aB _ w).alloc (ax _) _;have:=hp.lt;exact⟨⟨kv,aI w _,hk.keep (Kp.aN kB (fun _=>False)) (fun _ _=>id)⟩,hp.below kB,⟨au,fun h=>by have:=hDl _ h;omega,hd⟩,hq⟩
theorem MQ{w2:aG}{ps qs:List Part}(h:dR w2 D rb ab ps i)(hk:qL w2 D kv qs)(hq:Gd qs)(hDl:∀ q,D q→q<w2.heap.size) :
  dR (w2.alloc (.cells #[aH ab,kv] 119)) D w2.heap.size ab qs i∧∀(w3:aG) (l:List Part) (k:Nat),dR w3 D w2.heap.size ab l k→Kq D w2.heap.size ab (w2.alloc (.cells #[aH ab,kv] 119)) w3→dR w3 D rb ab ps k∧Kq D rb ab w2 w3:=by
 have kB:Below w2.heap.size w2 (w2.alloc (.cells #[aH ab,kv] 119)):=(aB _ w2).alloc (ax _) _;obtain⟨hrl,hal⟩:=h.lt;exact⟨Ig h.Bj hk hq h.sep.2.2 hDl,fun w3 l k hw hkp=>⟨(h.below kB).other hkp hw au,(Kq.aN kB hal).inner hkp (ax _)⟩⟩
def pI(p:Part):Prop:=∀(e:Ex) (i:Nat) (D:Nat→Prop) (rb ab:Nat) (ps:List Part) (w:aG),Rd p i e→dR w D rb ab (p::ps) i→i+pz [p]≤1073741824→(∀ q,D q→q<w.heap.size) →
 bB 80 #[aH rb] w fun en w'=>∃ v,en=.returned v∧Hid (je w' w.heap.size w'.heap.size v e∧dR w' D rb ab ps (i+pz [p])∧Kq D rb ab w w')
end
end Go.Proofs.YtoohcklcppnafaaGreatDoor
