/- Package syntax: the kids of a node,a name. -/
import Derived.Test.YtdkpkpgpphkljaaGreatDoorVc2
namespace Go.Proofs.YtdkpkpgpphkljaaGreatDoor
set_option maxRecDepth 100000
set_option maxHeartbeats 4000000
open Tryz
open Go.RowKit
open M
theorem Rn(a b:Int)(c:ByteArray)(a4:Option Addr)(a5 a6:Nat)(w:World):(Instr.field 117 (.agg #[.int .i64 a,.int .i64 b,.string c,.slice a4 a5 a6]) 3).run prog w=.ok (.slice a4 a5 a6) w:=by kernel_rfl
theorem nA(D:Nat→Prop)(rb ab:Nat)(p:X.Part)(ps:List X.Part)(i:Nat)(w:World)(h:cO w D rb ab (p::ps) i)(hi:i+X.Ij p≤1073741824)(hDl:∀ q,D q→q<w.heap.size) :
  Calls prog 52 #[.pointer (some ⟨rb,0,none⟩)] w fun e w'=>∃ a4 a5 a6,e=.returned (.agg #[.pointer (some ⟨ab,0,none⟩),.slice a4 a5 a6])∧Hid (qz w' D (.slice a4 a5 a6) (X.kids p)∧cO w' D rb ab ps (i+X.Ij p)∧Kq D rb ab w w'):=by
 obtain⟨hr,ha⟩:=h.lt;have hsep:=h.sep;have kA:Below w.heap.size w (w.alloc (.cells #[.pointer none,.slice none 0 0] 120)):=(ay _ w).alloc (aj _) _;have HZ:Hid ((w.alloc (.cells #[.pointer none,.slice none 0 0] 120)).heap[w.heap.size]?=some (.cells #[.pointer none,.slice none 0 0] 120 (0,0))):=aB w _;have hR1:=h.below kA;have HR1:=au hR1;obtain⟨v,hb,-⟩:=hR1.blk;have c0:=ai _ _ 0 _ _ _ hb;have oM:=au kA;have hsz:(w.alloc (.cells #[.pointer none,.slice none 0 0] 120)).heap.size=w.heap.size+1:=by simp
 clear h kA hR1 hb;go_enter func52,ntmps52;go_wp2_with fail
 generalize w.alloc (.cells #[.pointer none,.slice none 0 0] 120)=W1 at *;have c0':W1.cell? ⟨rb,0,none⟩=some (.pointer (some ⟨ab,0,none⟩)):=c0;have z0:W1.cell? ⟨w.heap.size,0,none⟩=some (.pointer none):=ai _ _ 0 _ _ _ HZ.o;have z1:W1.cell? ⟨w.heap.size,1,none⟩=some (.slice none 0 0):=ai _ _ 1 _ _ _ HZ.o;clear c0;have HL:Hid (∀ W,Below W1.heap.size W1 W→Calls prog 51 #[.pointer (some ⟨rb,0,none⟩)] W fun e w'=>∃ a4 a5 a6,e=.returned (.agg #[.int .i64 (X.nk p),.int .i64 (X.CR p),.string (ba (X.AQ p)),.slice a4 a5 a6])∧Hid (qz w' D (.slice a4 a5 a6) (X.kids p)∧cO w' D rb ab ps (i+X.Ij p)∧Kq D rb ab W w')):=fun W hW=>jX D rb ab p ps i W ((HR1.o).below hW) hi (fun q hq=>by have:=hDl q hq;have:=hW.size;omega)
 have HF:Hid (∀ w2 a4 a5 a6,qz w2 D (.slice a4 a5 a6) (X.kids p)∧cO w2 D rb ab ps (i+X.Ij p)∧Kq D rb ab W1.drew w2→w2.cell? ⟨rb,0,none⟩=some (.pointer (some ⟨ab,0,none⟩))∧w2.heap[w.heap.size]?=some (.cells #[.pointer none,.slice none 0 0] 120 (0,0))∧Kq D rb ab w w2):=fun w2 a4 a5 a6 hx=>by
  obtain⟨v,e,-⟩:=hx.2.1.blk;have hk1:Kq D rb ab W1 w2:=(Kq.aI ((ay _ W1).drew) (by omega)).trans hx.2.2;exact⟨ai _ _ 0 _ _ _ e,hk1.new hr ha HZ.o (by decide),(Kq.aI oM.o ha).trans hk1⟩
 have hnr:¬ rb=w.heap.size:=by omega
 have hfl:=Rn
 go_region_held3 (fun w'=>w'.cell? ⟨rb,0,none⟩=some (.pointer (some ⟨ab,0,none⟩)))
  (first|(with_reducible exact c0')|(with_reducible exact KK)|(with_reducible exact KK2)|go_keep)
  ((go_at_call 51;refine((HL.o) _ ?_).mono ?_;exact(ay _ W1).drew;rintro e w2 ⟨a4,a5,a6,rfl,H2⟩;obtain⟨KK,hz2,bE1⟩:=(HF.o) w2 a4 a5 a6 H2.o;have y0:w2.cell? ⟨w.heap.size,0,none⟩=some (.pointer none):=ai _ _ 0 _ _ _ hz2;have y1:w2.cell? ⟨w.heap.size,1,none⟩=some (.slice none 0 0):=ai _ _ 1 _ _ _ hz2;have q0:w2.frozen? ⟨w.heap.size,0,none⟩=false:=(by simp[World.frozen?,hz2]);have q1:w2.frozen? ⟨w.heap.size,1,none⟩=false:=(by simp[World.frozen?,hz2]);have HZ2:=au hz2;have mZ:=au bE1;have KK2:∀ x y,((w2.setCell ⟨w.heap.size,0,none⟩ x).setCell ⟨w.heap.size,1,none⟩ y).cell? ⟨rb,0,none⟩=some (.pointer (some ⟨ab,0,none⟩)):=fun x y=>(by rw[iH _ _ _ _ (by simp),iH _ _ _ _ (by simp)];exact KK)))
 clear y0 y1 q0 q1 KK KK2 z0 z1 c0';go_wp2_with fail
 refine bI (VF rfl _ _ (b:=w.heap.size) rfl (nM HZ2.o)) rfl ⟨a4,a5,a6,rfl,?_⟩;obtain⟨x1,x2,x3⟩:=H2.o;have hk4:Kp (fun q=>q=w.heap.size) w2 ((w2.setCell ⟨w.heap.size,0,none⟩ (.pointer (some ⟨ab,0,none⟩))).setCell ⟨w.heap.size,1,none⟩ (.slice a4 a5 a6)):=On.set (On.set (Kp.refl _ w2) 0 _) 1 _;have hD':∀ q,D q→¬ q=w.heap.size:=fun q hq e=>by have:=hDl q hq;omega
 exact⟨x1.keep hk4 hD',x2.on hk4 HZ2.o (by decide) (by omega) (by omega) (fun hd=>hD' _ hd rfl),Kq.set2 mZ.o ha (aj _) _ _⟩
theorem nC(D:Nat→Prop)(rb ab:Nat)(n:List X.Part)(nm:X.Nm)(ps:List X.Part)(i:Nat)(w:World)(h:cO w D rb ab (n++ps) i)(hn:X.BD n i nm)(hi:i+X.pz (n++ps)≤1073741824)(hpl:(n++ps).length≤1073741824)(hDl:∀ q,D q→q<w.heap.size) :
  Calls prog 55 #[.pointer (some ⟨rb,0,none⟩)] w fun e w'=>e=.returned (.agg #[.string (ba nm.1),.int .i64 nm.2])∧Hid (cO w' D rb ab ps (i+X.pz n)∧Kq D rb ab w w'):=by
 obtain⟨hr,ha⟩:=h.lt;have key:∃ qs p,X.Nj n qs p∧((X.nk p=0∧nm.1=X.AQ p∧nm.2=i+X.pz qs)∨(X.nk p=1∧nm=([],0))):=by
  cases hn with
  | name _ x qs _ h=>exact⟨qs,_,h.AR,.inl ⟨rfl,rfl,rfl⟩⟩
  | miss _=>exact⟨[],.miss X.fF,⟨rfl,fun q hq=>(by cases hq),rfl,rfl⟩,.inr ⟨rfl,rfl⟩⟩
 obtain⟨qs,p,ht,hcs⟩:=key;have kA:Below w.heap.size w (w.alloc (.cells #[.string ⟨#[]⟩,.int .i64 0] 66)):=(ay _ w).alloc (aj _) _;have HZ:Hid ((w.alloc (.cells #[.string ⟨#[]⟩,.int .i64 0] 66)).heap[w.heap.size]?=some (.cells #[.string ⟨#[]⟩,.int .i64 0] 66 (0,0))):=aB w _;have HM:=au (j_ D rb ab (n++ps) i _ (h.below kA) hi hpl (fun q hq=>aH (hDl q hq) kA.size));have hd:=ht.drop ps;rw[hd.1,hd.2] at HM;have oM:=au kA;have hpz:X.pz n=X.pz qs+X.pz [p]:=by rw[ht.eq,X.aY]
 have hln:=ht.ln;rw[X.aY] at hi;clear h kA hd hn;go_enter func55,ntmps55;go_wp2_with fail
 refine(HM.o).mono ?_;rintro e w2 ⟨rfl,H2⟩;have Rm:∀ q,D q→q<w2.heap.size:=fun q hq=>aH (hDl q hq) (bS (oM.o).size (H2.o).2.size)
 have HZ2:Hid (w2.heap[w.heap.size]?=_):=(H2.o).2.new hr ha HZ.o (by decide);have mZ:Hid (Kq D rb ab w w2):=(Kq.aI oM.o ha).trans (H2.o).2;obtain⟨v,hb,-⟩:=(H2.o).1.blk;have c0:=ai _ _ 0 _ _ _ hb;obtain⟨bv2,bl2,en2,gp2,Au,-⟩:=(H2.o).1.Ar.ex;have d0:=ai _ _ 0 _ _ _ Au;have HL:=au (jX D rb ab p ps (i+X.pz qs) w2 (H2.o).1 (by omega) Rm);have hw2:w.heap.size+1≤w2.heap.size:=by have:=(H2.o).2.size;simp at this;omega
 clear HM oM H2 HZ hb Au;go_wp2_with fail
 refine(HL.o).mono ?_;rintro e w3 ⟨a4,a5,a6,rfl,H3⟩;have hZ3:=(H3.o).2.2.new hr ha HZ2.o (by decide);have HZ3:=au hZ3;have qi:Hid (Kq D rb ab w w3):=(mZ.o).trans (H3.o).2.2;have HR3:=au (H3.o).2.1;have hw3:w.heap.size+1≤w3.heap.size:=by have:=(H3.o).2.2.size;omega
 have e0:w3.cell? ⟨w.heap.size,0,none⟩=some (.string ⟨#[]⟩):=ai w3 _ 0 _ _ _ hZ3;have e1:w3.cell? ⟨w.heap.size,1,none⟩=some (.int .i64 0):=ai w3 _ 1 _ _ _ hZ3;have q0:w3.frozen? ⟨w.heap.size,0,none⟩=false:=by simp[World.frozen?,hZ3]
 have q1:w3.frozen? ⟨w.heap.size,1,none⟩=false:=by simp[World.frozen?,hZ3]
 have e0':∀ o,(w3.alloc o).cell? ⟨w.heap.size,0,none⟩=some (.string ⟨#[]⟩):=fun o=>Lib.cell?_alloc_some _ e0
 have ZR:∀ o,(w3.alloc o).cell? ⟨w.heap.size,1,none⟩=some (.int .i64 0):=fun o=>Lib.cell?_alloc_some _ e1
 have q0':∀ o,(w3.alloc o).frozen? ⟨w.heap.size,0,none⟩=false:=fun o=>(bN _ _ ⟨w.heap.size,0,none⟩ (by simp;omega)).trans q0
 have q1':∀ o,(w3.alloc o).frozen? ⟨w.heap.size,1,none⟩=false:=fun o=>(bN _ _ ⟨w.heap.size,1,none⟩ (by simp;omega)).trans q1
 clear HL mZ HZ2 H3 hZ3 c0 d0 e0 e1 q0 q1;have HFin:Hid (∀(o:Obj) (x y:Value),cO (((w3.alloc o).setCell ⟨w.heap.size,0,none⟩ x).setCell ⟨w.heap.size,1,none⟩ y) D rb ab ps (i+X.pz n)∧Kq D rb ab w (((w3.alloc o).setCell ⟨w.heap.size,0,none⟩ x).setCell ⟨w.heap.size,1,none⟩ y)∧(((w3.alloc o).setCell ⟨w.heap.size,0,none⟩ x).setCell ⟨w.heap.size,1,none⟩ y).heap[w.heap.size]?=some (.cells #[x,y] 66 (0,0))):=fun o x y=>by
  have kB:Below w3.heap.size w3 (w3.alloc o):=(ay _ w3).alloc (aj _) _;have hk4:Kp (fun q=>q=w.heap.size) (w3.alloc o) (((w3.alloc o).setCell ⟨w.heap.size,0,none⟩ x).setCell ⟨w.heap.size,1,none⟩ y):=On.set (On.set (Kp.refl _ _) 0 _) 1 _;have hR:=((HR3.o).below kB).on hk4 ((dN w3 o (by omega)).trans HZ3.o) (by decide) (by omega) (by omega) (fun hd=>by have:=hDl _ hd;omega);rw[hln] at hR;refine⟨by rw[hpz,← fw];exact hR,Kq.set2 ((qi.o).more kB ha) ha (aj _) _ _,nM ((dN w3 o (by omega)).trans HZ3.o)⟩
 rcases hcs with ⟨h0,h1,h2⟩|⟨h0,h1⟩
 ·have iz:((X.nk p:Int)==0)=true:=by rw[h0];rfl
  have H1:=au h1;have H2:=au h2;clear h1 h2;rw[h0];go_wp2_with fail
  obtain⟨z1,z2,z3⟩:=(HFin.o) (.cells #[.int .i64 0,.int .i64 (X.CR p),.string (ba (X.AQ p)),.slice a4 a5 a6] 117) (.string (ba (X.AQ p))) (.int .i64 ((i:Int)+(X.pz qs:Int)));refine bI (tF rfl _ _ (b:=w.heap.size) rfl z3) rfl ⟨by rw[H1.o,H2.o,mr],z1,z2⟩
 ·have iz:((X.nk p:Int)==0)=false:=by rw[h0];rfl
  have H1:=au h1;clear h1;rw[h0];go_wp2_with fail
  obtain⟨z1,z2,z3⟩:=(HFin.o) (.cells #[.int .i64 1,.int .i64 (X.CR p),.string (ba (X.AQ p)),.slice a4 a5 a6] 117) (.string ⟨#[]⟩) (.int .i64 0);refine bI (tF rfl _ _ (b:=w.heap.size) rfl z3) rfl ⟨by rw[H1.o];rfl,z1,z2⟩
theorem jK(z:ah):(ba z).toList=z:=by rw[gN];exact kQ z
theorem Xe{x y:ah}(h:x≠y):((ba x).toList !=(ba y).toList)=true∧((ba x).toList==(ba y).toList)=false∧¬(ba x).toList=(ba y).toList∧¬ ba x=ba y:=by
 rw[jK,jK];exact⟨by simpa using h,by simpa using h,h,fun e=>h (by rw[← jK x,← jK y,e])⟩
theorem Gx(D:Nat→Prop)(rb ab:Nat)(t qs:List X.Part)(p:X.Part)(ps:List X.Part)(i:Nat)(x:ah)(w:World)(h:cO w D rb ab (t++ps) i)(ht:X.Nj t qs p)(hp:(∃ k,p=.leaf k x)∨(∃ k y,p=.leaf k y∧y≠x)∨X.nk p≠0)(hi:i+X.pz (t++ps)≤1073741824)(hpl:(t++ps).length≤1073741824)(hDl:∀ q,D q→q<w.heap.size) :
  Calls prog 53 #[.pointer (some ⟨rb,0,none⟩),.string (ba x)] w fun e w'=>((∃ k,p=.leaf k x)→e=.returned (.bool true)∧Hid (cO w' D rb ab ps (i+X.pz t)∧Kq D rb ab w w'))∧(¬(∃ k,p=.leaf k x)→e=.returned (.bool false)∧Hid (cO w' D rb ab (p::ps) (i+X.pz qs)∧Kq D rb ab w w')):=by
 have HM:=au (j_ D rb ab (t++ps) i w h hi hpl hDl);have hd:=ht.drop ps;rw[hd.1,hd.2] at HM;have hpz:X.pz t=X.pz qs+X.pz [p]:=by rw[ht.eq,X.aY]
 have hln:=ht.ln;rw[X.aY] at hi;clear h hd;go_enter func53,ntmps53;go_wp2_with fail
 refine(HM.o).mono ?_;rintro e w2 ⟨rfl,H2⟩;have hdt:decide (p::ps≠[])=true:=by simp
 rw[hdt];have Rm:∀ q,D q→q<w2.heap.size:=fun q hq=>aH (hDl q hq) (H2.o).2.size
 obtain⟨v,hb,hn⟩:=(H2.o).1.blk;have c1:=ai _ _ 1 _ _ _ hb;obtain⟨g,o,cap,kv,rfl,hD,y0,y1,y2,y3,hkk,-,hc1,hc2,-,-⟩:=hn.head;have hi1:(0:Int)<((ps.length+1:Nat):Int):=by omega
 have hi2:0<ps.length+1:=by omega
 have HL:=au (jX D rb ab p ps (i+X.pz qs) w2 (H2.o).1 (by omega) Rm);have HR2:=au (H2.o);clear HM H2 hb hn hkk hdt y1 y3;rcases hp with ⟨k,rfl⟩|⟨k,y,rfl,hne⟩|hne
 ·have iz:((X.nk (.leaf k x):Int) !=0)=false:=rfl
  have y0':w2.cell? ⟨g,o,none⟩=some (.int .i64 0):=y0;have y2':w2.cell? ⟨g,o+2,none⟩=some (.string (ba x)):=y2;have i3:((ba x).toList !=(ba x).toList)=false:=by simp
  clear y0 y2;go_wp2_with fail
  refine(HL.o).mono ?_;rintro e w3 ⟨a4,a5,a6,rfl,H3⟩;have HR3:Hid (cO w3 D rb ab ps (i+X.pz t)∧Kq D rb ab w w3):=by
   obtain⟨-,z2,z3⟩:=H3.o;rw[hln] at z2;rw[hpz,← fw];exact⟨z2,(HR2.o).2.trans z3⟩
  clear H3 HL y0' y2' c1;go_wp2_with fail
  go_ret;exact⟨fun _=>⟨rfl,HR3⟩,fun e=>absurd ⟨k,rfl⟩ e⟩
 ·have y0':w2.cell? ⟨g,o,none⟩=some (.int .i64 0):=y0
  have y2':w2.cell? ⟨g,o+2,none⟩=some (.string (ba y)):=y2;obtain⟨i3,i4,i5,i6⟩:=Xe hne;clear y0 y2;go_wp2_with fail
  go_ret;exact⟨fun⟨k',e⟩=>by cases e;exact absurd rfl hne,fun _=>⟨rfl,HR2.o⟩⟩
 ·have iz:((X.nk p:Int) !=0)=true:=by simp;omega
  go_wp2_with fail
  go_ret;exact⟨fun⟨k',e⟩=>by subst e;exact absurd rfl hne,fun _=>⟨rfl,HR2.o⟩⟩
section
variable{S D:Nat→Prop}{w w' wr:World}{lo hi pb rb ab k tot kb:Nat}{rv:Value}
def X.nmq:X.Part→Bool
 | .leaf k _=>k==3
 | .miss m=>m==X.fF
 | .br _ _=>false
theorem JJ(p:X.Part)(a4:Option Addr)(a5 a6:Nat)(w:World) :
  Calls prog 83 #[.agg #[.int .i64 (X.nk p),.int .i64 (X.CR p),.string (ba (X.AQ p)),.slice a4 a5 a6]] w fun e w'=>e=.returned (.bool (X.nmq p))∧Below w.heap.size w w':=by
 have oM:∀ a b c,Hid (Below w.heap.size w (w.alloc (.cells #[.int .i64 a,.int .i64 b,.string c,.slice a4 a5 a6] 117))):=fun a b c=>(ay _ w).alloc (aj _) _
 have vW:=au oM;clear oM;cases p with
 | leaf k x =>
  by_cases h3:k=3
  ·subst h3
   show Calls prog 83 #[.agg #[.int .i64 0,.int .i64 3,.string (ba x),.slice a4 a5 a6]] w fun e w'=>e=.returned (.bool true)∧Below w.heap.size w w'
   go_enter func83,ntmps83;go_wp2_with fail
   go_ret;exact⟨rfl,((vW.o) _ _ _).o⟩
  ·have j3:((k:Int)==3)=false:=by simp;omega
   have k3:X.nmq (.leaf k x)=false:=by show(k==3)=false;simp;omega
   rw[k3];show Calls prog 83 #[.agg #[.int .i64 0,.int .i64 k,.string (ba x),.slice a4 a5 a6]] w fun e w'=>e=.returned (.bool false)∧Below w.heap.size w w'
   go_enter func83,ntmps83;go_wp2_with fail
   go_ret;exact⟨rfl,((vW.o) _ _ _).o⟩
 | miss m =>
  by_cases hm:m=X.fF
  ·subst hm
   show Calls prog 83 #[.agg #[.int .i64 1,.int .i64 0,.string (ba X.fF),.slice a4 a5 a6]] w fun e w'=>e=.returned (.bool true)∧Below w.heap.size w w'
   have e1:((ba X.fF).toList==[110,97,109,101])=true:=by rw[jK];rfl
   go_enter func83,ntmps83;go_wp2_with fail
   go_ret;exact⟨rfl,((vW.o) _ _ _).o⟩
  ·obtain⟨i3,i4,i5,i6⟩:=Xe hm
   have k3:X.nmq (.miss m)=false:=by show(m==X.fF)=false;simpa using hm
   have i4':((ba m).toList==[110,97,109,101])=false:=by rw[jK];exact k3
   rw[k3];show Calls prog 83 #[.agg #[.int .i64 1,.int .i64 0,.string (ba m),.slice a4 a5 a6]] w fun e w'=>e=.returned (.bool false)∧Below w.heap.size w w'
   go_enter func83,ntmps83;go_wp2_with fail
   go_ret;exact⟨rfl,((vW.o) _ _ _).o⟩
 | br k ps =>
  by_cases h0:k=0
  ·subst h0
   show Calls prog 83 #[.agg #[.int .i64 0,.int .i64 0,.string (ba []),.slice a4 a5 a6]] w fun e w'=>e=.returned (.bool false)∧Below w.heap.size w w'
   go_enter func83,ntmps83;go_wp2_with fail
   go_ret;exact⟨rfl,((vW.o) _ _ _).o⟩
  ·by_cases h1:k=1
   ·subst h1
    have e1:((ba []).toList==[110,97,109,101])=false:=by rw[jK];rfl
    show Calls prog 83 #[.agg #[.int .i64 1,.int .i64 0,.string (ba []),.slice a4 a5 a6]] w fun e w'=>e=.returned (.bool false)∧Below w.heap.size w w'
    go_enter func83,ntmps83;go_wp2_with fail
    go_ret;exact⟨rfl,((vW.o) _ _ _).o⟩
   ·have j0:((k:Int)==0)=false:=by simp;omega
    have j1:((k:Int)==1)=false:=by simp;omega
    show Calls prog 83 #[.agg #[.int .i64 k,.int .i64 0,.string (ba []),.slice a4 a5 a6]] w fun e w'=>e=.returned (.bool false)∧Below w.heap.size w w'
    go_enter func83,ntmps83;go_wp2_with fail
    go_ret;exact⟨rfl,((vW.o) _ _ _).o⟩
def Ro(ns:List X.Nm):List Value:=ns.flatMap fun n=>[.string (ba n.1),.int .i64 n.2]
theorem Rq(ns:List X.Nm)(n:X.Nm):Ro (ns++[n])=Ro ns++[.string (ba n.1),.int .i64 n.2]:=by unfold Ro;rw[iA];rfl
theorem Ep:∀ {ns:List X.Nm} {j:Nat} {n:X.Nm},ns[j]?=some n→(Ro ns)[j*2]?=some (.string (ba n.1))∧(Ro ns)[j*2+1]?=some (.int .i64 n.2)
 | [],j,n,h=>by simp at h
 | a::ns,0,n,h=>by cases h;exact⟨rfl,rfl⟩
 | a::ns,j+1,n,h=>by
  have:=Ep (ns:=ns) (j:=j) (n:=n) (by simpa using h);have e:Ro (a::ns)=[.string (ba a.1),.int .i64 a.2]++Ro ns:=rfl;rw[e,show(j+1)*2=j*2+2 by omega,show j*2+2+1=j*2+1+2 by omega];exact this
structure kM(w:World)(lo hi pb:Nat)(ns:List X.Nm):Prop where
 bd:lo≤pb∧pb<hi
 ex:∃ ao cap,w.heap[pb]?=some (.cells #[.slice ao ns.length cap] 185 (0,0))∧ns.length≤cap∧cap≤maxLen∧∀(j:Nat) (n:X.Nm),ns[j]?=some n→∃ g,ao=some ⟨g,0,none⟩∧lo≤g∧g<hi∧w.cell? ⟨g,j*2,none⟩=some (.string (ba n.1))∧w.cell? ⟨g,j*2+1,none⟩=some (.int .i64 n.2)∧∃ c f,w.heap[g]?=some (.cells c 66 f)
theorem kM.rR(hk:Kp S w w'){ns:List X.Nm}(h:kM w lo hi pb ns)(hS:∀ i,lo≤i→i<hi→S i→∃ c f,w.heap[i]?=some (.cells c 3 f)):kM w' lo hi pb ns:=by
 obtain⟨ao,cap,h1,h2,h3,h4⟩:=h.ex;refine⟨h.bd,ao,cap,hk.heap h1 (fun e=>nH h1 (by decide) (hS _ h.bd.1 h.bd.2 e)),h2,h3,fun j n hj=>?_⟩;obtain⟨g,e1,e2,e3,e4,e5,c,f,e6⟩:=h4 j n hj;have hg:¬ S g:=fun e=>nH e6 (by decide) (hS g e2 e3 e)
 exact⟨g,e1,e2,e3,hk.dY e4 hg,hk.dY e5 hg,c,f,hk.heap e6 hg⟩
theorem kM.keep(hk:Kp S w w'){ns:List X.Nm}(h:kM w lo hi pb ns)(hS:∀ i,lo≤i→i<hi→¬ S i):kM w' lo hi pb ns:=h.rR hk (fun i h1 h2 e=>absurd e (hS i h1 h2))
theorem kM.jL(hk:Kq D rb ab w w'){ns:List X.Nm}(h:kM w lo hi pb ns)(h1:rb<lo)(h2:ab<lo):kM w' lo hi pb ns:=h.rR hk.kp (fun _ hi _ e=>e.int h1 h2 hi)
theorem Rt{ns:List X.Nm}(hb:w.heap[pb]?=some (.cells #[rv] 185 (0,0)))(ho:w.ownsRow lo 66 2 rv ns.length (Ro ns))(hlo:lo≤pb):kM w lo w.heap.size pb ns:=by
 have hg:=dV ho;have hc:=fun g hg=>ho.cells (g:=g) hg
 rcases ho.2 with ⟨rfl,h0⟩|⟨g,cap,cur,rfl,-,-,hn,hm,-,-⟩
 ·have hns:ns=[]:=aT.1 h0
  subst hns;exact⟨⟨hlo,aP hb⟩,none,0,hb,aj _,by unfold maxLen;omega,fun j n hj=>by simp at hj⟩
 ·refine⟨⟨hlo,aP hb⟩,_,cap,hb,hn,hm,fun j n hj=>⟨g,rfl,(hg g rfl).1,(hg g rfl).2,?_,?_,(jb ho rfl).2⟩⟩
  ·have:=hc g rfl _ _ (Ep hj).1
   rwa[fe,cu] at this
  ·have:=hc g rfl _ _ (Ep hj).2
   rwa[fe,cu] at this
theorem Nk{l:List X.Part}{ns:List X.Nm}(h:X.oN l k ns):X.oN (l.dropWhile X.lq) (k+X.pz (l.takeWhile X.lq)) ns:=by
 induction h with
 | nil i=>exact .nil _
 | name x ps i ns h ih =>
  rw[eT (by simp[X.lq]),dU (by simp[X.lq])];exact .name x ps i ns h
 | leaf k x ps i ns hk h ih =>
  cases hq:X.lq (.leaf k x) with
  | true =>
   rw[jG hq,jF hq,X.fH,X.iK,← fw];exact ih
  | false =>
   rw[eT (by rw[hq];simp),dU (by rw[hq];simp)];exact .leaf k x ps i ns hk h
 | lack ps i ns h ih =>
  rw[eT (by simp[X.lq]),dU (by simp[X.lq])];exact .lack ps i ns h
 | miss m ps i ns hm h ih =>
  rw[eT (by simp[X.lq]),dU (by simp[X.lq])];exact .miss m ps i ns hm h
theorem Ru{p:X.Part}{l:List X.Part}{ns:List X.Nm}(h:X.oN (p::l) k ns)(hq:X.lq p=false):(X.nmq p=true∧∃ nm ns',ns=nm::ns'∧X.BD [p] k nm∧X.oN l (k+X.pz [p]) ns')∨(X.nmq p=false∧X.Ij p=X.pz [p]∧X.oN l (k+X.pz [p]) ns):=by
 cases h with
 | name x _ _ ns h =>
  refine .inl ⟨rfl,_,ns,rfl,?_,by rw[X.iK];exact h⟩;have:=X.BD.name [.leaf 3 x] x [] k ⟨rfl,fun q hq=>(by cases hq),by omega⟩;rw[X.Em] at this;exact this
 | leaf k2 x _ _ _ hk h=>exact .inr ⟨by show(k2==3)=false;simpa using hk,(X.iK k2 x).symm,by rw[X.iK];exact h⟩
 | lack _ _ ns h=>exact .inl ⟨rfl,_,ns,rfl,.miss k,h⟩
 | miss m _ _ _ hm h=>exact .inr ⟨by show(m==X.fF)=false;simpa using hm,rfl,h⟩
structure vX(w:World)(D:Nat→Prop)(rb ab pb:Nat)(ps:List X.Part)(ns:List X.Nm)(tot:Nat)(kb:Nat)(l:List X.Part)(k:Nat)(acc:List X.Nm)(rv:Value)(wr:World):Prop where
 rw:cO wr D kb ab l k
 nms:∃ ns',X.oN l k ns'∧ns=acc++ns'
 o:∃ v,wr.heap[rb]?=some (.cells #[.pointer (some ⟨ab,0,none⟩),v] 120 (0,0))∧qz wr D v ps
 par:wr.heap[pb]?=some (.cells #[rv] 185 (0,0))
 own:wr.ownsRow w.heap.size 66 2 rv acc.length (Ro acc)
 new:w.heap.size≤kb∧w.heap.size≤pb∧kb≠pb∧(∀ g,rv.ownBlock=some g→g≠kb∧g≠pb)
 kp:Kq D rb ab w wr
 pos:k+X.pz l=tot
theorem vX.step{ps:List X.Part}{ns:List X.Nm}{l:List X.Part}{acc:List X.Nm}(h:vX w D rb ab pb ps ns tot kb l k acc rv wr){w2:World}{l2:List X.Part}{k2:Nat}(hr:rb<w.heap.size)(ha:ab<w.heap.size)(hne:rb≠ab)(hk:Kq D kb ab wr w2)(hw:cO w2 D kb ab l2 k2)(hn:∃ ns',X.oN l2 k2 ns'∧ns=acc++ns')(hp:k2+X.pz l2=tot):vX w D rb ab pb ps ns tot kb l2 k2 acc rv w2:=by
 obtain⟨v,e,hv⟩:=h.o;obtain⟨n1,n2,n3,n4⟩:=h.new;refine⟨hw,hn,⟨v,hk.heap e (by decide) (by omega) hne,hk.nds hv hw.sep.2.1 hw.sep.2.2⟩,hk.heap h.par (by decide) (by omega) (by omega),hk.owns h.own (by decide) (fun g hg=>⟨(n4 g hg).1,?_⟩),h.new,h.kp.inner hk n1,hp⟩;have:=(dV h.own g hg).1;omega
theorem vX.copy{ps:List X.Part}{ns:List X.Nm}{l:List X.Part}{acc:List X.Nm}(h:vX w D rb ab pb ps ns tot kb l k acc rv wr)(hDlt:∀ {q},D q→q<w.heap.size)(ha:ab<w.heap.size){v:Value}(hb:wr.heap[kb]?=some (.cells #[.pointer (some ⟨ab,0,none⟩),v] 120 (0,0))):vX w D rb ab pb ps ns tot wr.heap.size l k acc rv (wr.alloc (.cells #[.pointer (some ⟨ab,0,none⟩),v] 120)):=by
 have kB:Below wr.heap.size wr (wr.alloc (.cells #[.pointer (some ⟨ab,0,none⟩),v] 120)):=(ay _ wr).alloc (aj _) _;have hk:=Kp.aI kB (fun _=>False);obtain⟨v0,e0,hn0⟩:=h.o;obtain⟨v',e1,hn1⟩:=h.rw.blk;obtain rfl:v'=v:=by
  rw[hb] at e1;cases e1;rfl
 have hpl:=aP h.par;have hkl:=aP hb;have hs:=h.kp.size;refine⟨⟨⟨v',aB wr _,hn1.keep hk (fun _ _=>id)⟩,h.rw.Ar.below kB,⟨by have:=h.rw.Ar.lt;omega,?_,h.rw.sep.2.2⟩,h.rw.Ik⟩,h.nms,⟨v0,hk.heap e0 id,hn0.keep hk (fun _ _=>id)⟩,hk.heap h.par id,hk.owns h.own (fun _ _=>id),⟨hs,h.new.2.1,by omega,fun g hg=>⟨?_,(h.new.2.2.2 g hg).2⟩⟩,h.kp.more kB ha,h.pos⟩
 ·intro hd
  have:=hDlt hd;omega
 ·have:=(dV h.own g hg).2;omega
theorem Zh:(prog.info? 66).map (fun i=>(i.zero,i.size,i.bytes))=some (some (.agg #[.string ⟨#[]⟩,.int .i64 0]),2,24):=by kernel_rfl
def VG(v:Value)(w:World):Nat:=match v with|.pointer (some a)=>uo a.block w|_=>0
theorem vX.named{w:World}{D:Nat→Prop}{rb ab pb:Nat}{ps:List X.Part}{ns:List X.Nm}{tot kb:Nat}{l:List X.Part}{k:Nat}{acc:List X.Nm}{rv:Value}{wr:World}(h:vX w D rb ab pb ps ns tot kb l k acc rv wr){w5:World}{l2:List X.Part}{k2:Nat}(hr:rb<w.heap.size)(ha:ab<w.heap.size)(hD:∀ q,D q→q<w.heap.size)(hne:rb≠ab)(hk:Kq D kb ab wr w5)(hw:cO w5 D kb ab l2 k2){nm:X.Nm}(hn:∃ ns',X.oN l2 k2 ns'∧ns=(acc++[nm])++ns')(hp:k2+X.pz l2=tot)(o:Obj){g cap:Nat}{w6:World}
  (hown:w6.ownsRow w.heap.size 66 2 (.slice (some ⟨g,0,none⟩) (acc.length+1) cap) (acc.length+1) (Ro acc++[.string (ba nm.1),.int .i64 nm.2])) (hgrow:(w5.alloc o).grownBy w6 rv.ownBlock) (hat:rv.ownBlock=some g∨g=w5.heap.size+1) :
  vX w D rb ab pb ps ns tot kb l2 k2 (acc++[nm]) (.slice (some ⟨g,0,none⟩) (acc.length+1) cap) (w6.setCell ⟨pb,0,none⟩ (.slice (some ⟨g,0,none⟩) (acc.length+1) cap)):=by
 obtain⟨v,e,hv⟩:=h.o;obtain⟨n1,n2,n3,n4⟩:=h.new;have hge:=fun q hq=>(dV h.own q hq)
 have hpl:=aP h.par;have hkl:=h.rw.lt.1;have hs5:=hk.size;have Xf:=hk.heap h.par (by decide) (fun e=>n3 e.symm) (by omega);have hown5:=hk.owns h.own (by decide) (fun q hq=>⟨(n4 q hq).1,by have:=(hge q hq).1;omega⟩);have hA:Kp (fun q=>rv.ownBlock=some q∨q=pb) w5 w6:=Kp.grown (Kp.alloc (Kp.refl _ w5) o) hgrow (fun k e _=>.inl e);have hB:Kp (fun q=>rv.ownBlock=some q∨q=pb) w5 (w6.setCell ⟨pb,0,none⟩ (.slice (some ⟨g,0,none⟩) (acc.length+1) cap)):=Kp.setCell (p:=⟨pb,0,none⟩) hA (fun _=>.inr rfl) _;have Tw:∀ q,q<w.heap.size→¬(rv.ownBlock=some q∨q=pb):=fun q hq e=>by
  rcases e with e|e
  ·have:=(hge q e).1;omega
  ·omega
 have Vd:g≠pb∧g≠kb:=by
  rcases hat with e|e
  ·exact⟨(n4 g e).2,(n4 g e).1⟩
  ·exact⟨by omega,by omega⟩
 have aO6:w6.heap[pb]?=some (.cells #[rv] 185 (0,0)):=(hgrow.block pb (by simp;omega) (fun e=>(n4 pb e.symm).2 rfl)).trans ((dN w5 o (by omega)).trans Xf);refine⟨hw.keep hB (fun e=>?_) (Tw ab ha) (fun q hq=>Tw q (hD q hq)) (fun q c f _ hc e=>?_),hn,⟨v,hB.heap (hk.heap e (by decide) (by omega) hne) (Tw rb hr),(hk.nds hv hw.sep.2.1 hw.sep.2.2).keep hB (fun q hq=>Tw q (hD q hq))⟩,?_,?_,⟨n1,n2,n3,fun q hq=>?_⟩,(h.kp.inner hk n1).over hB ha Tw,hp⟩
 ·rcases e with e|e
  ·exact(n4 kb e).1 rfl
  ·exact n3 e
 ·rcases e with e|e
  ·obtain⟨-,c',f',hc'⟩:=jb hown5 e
   exact nH hc' (by decide) ⟨c,f,hc⟩
  ·subst e
   exact nH Xf (by decide) ⟨c,f,hc⟩
 ·simp[World.setCell,aK,aO6]
 ·rw[Rq,ak]
  exact bV hown (by simp[Value.ownBlock];exact Vd.1) _
 ·simp only[Value.ownBlock,eH] at hq
  subst hq;exact⟨Vd.2,Vd.1⟩
theorem yt(D:Nat→Prop)(rb ab:Nat)(qs:List X.Part)(ns:List X.Nm)(ps:List X.Part)(i:Nat)(w:World)(h:cO w D rb ab (.br 6 qs::ps) i)(hn:X.oN qs i ns)(hi:i+X.pz qs≤1073741824)(AU:qs.length≤268435456)(hnl:ns.length≤268435456)(hDl:∀ q,D q→q<w.heap.size) :
  Calls prog 56 #[.pointer (some ⟨rb,0,none⟩)] w fun e w'=>∃ pb,e=.returned (.pointer (some ⟨pb,0,none⟩))∧Hid (kM w' w.heap.size w'.heap.size pb ns∧cO w' D rb ab ps (i+X.pz qs)∧Kq D rb ab w w'):=by
 obtain⟨i0,hi0,hz0,hz1,hz2⟩:=gB Zh;obtain⟨hr,ha⟩:=h.lt;have hsep:=h.sep;have Zi:=h.Ik.br.2;have Vd:=h.Ik.tail;have kA:Below w.heap.size w (w.alloc (.cells #[.slice none 0 0] 185)):=(ay _ w).alloc (aj _) _;have Km:Hid ((w.alloc (.cells #[.slice none 0 0] 185)).heap[w.heap.size]?=some (.cells #[.slice none 0 0] 185 (0,0))):=aB w _;have HE:=au (nA D rb ab (.br 6 qs) ps i _ (h.below kA) (by show i+0≤_;omega) (fun q hq=>aH (hDl q hq) kA.size));have oM:=au kA;have mI:=au hDl;have hsz:(w.alloc (.cells #[.slice none 0 0] 185)).heap.size=w.heap.size+1:=by simp
 clear h kA hDl;go_enter func56,ntmps56;go_wp2_with fail
 generalize w.alloc (.cells #[.slice none 0 0] 185)=W1 at *;refine(HE.o).mono ?_;rintro e w2 ⟨a4,a5,a6,rfl,H2⟩;have H2':Hid (qz w2 D (.slice a4 a5 a6) qs∧cO w2 D rb ab ps i∧Kq D rb ab W1 w2):=H2.o;have hz2':w.heap.size+1≤w2.heap.size:=by have:=(H2'.o).2.2.size;omega
 have HI0:Hid (vX w D rb ab w.heap.size ps ns (i+X.pz qs) w2.heap.size qs i [] (.slice none 0 0) (w2.alloc (.cells #[.pointer (some ⟨ab,0,none⟩),.slice a4 a5 a6] 120))):=by
  obtain⟨x1,x2,x3⟩:=H2'.o;have kB:Below w2.heap.size w2 (w2.alloc (.cells #[.pointer (some ⟨ab,0,none⟩),.slice a4 a5 a6] 120)):=(ay _ w2).alloc (aj _) _;have x2b:=x2.below kB;refine⟨⟨⟨_,aB w2 _,x1.keep (Kp.aI kB (fun _=>False)) (fun _ _=>id)⟩,x2b.Ar,⟨by omega,fun hd=>by have:=(mI.o) _ hd;omega,x2.sep.2.2⟩,Zi⟩,⟨ns,hn,rfl⟩,x2b.blk,?_,bY _ _ _ _,⟨by omega,aj _,by omega,fun g hg=>by cases hg⟩,?_,rfl⟩
  ·exact(dN w2 _ (by omega)).trans (x3.new hr ha Km.o (by decide))
  ·exact((Kq.aI oM.o ha).trans x3).more kB ha
 clear H2 H2' HE Km oM;go_wp2_with fail
 generalize w2.alloc (.cells #[.pointer (some ⟨ab,0,none⟩),.slice a4 a5 a6] 120)=W2 at *;go_loopw [4] (fun kv wr=>∃(kb:Nat) (l:List X.Part) (k:Nat) (acc:List X.Nm) (rv:Value),kv=.pointer (some ⟨kb,0,none⟩)∧l.length≤268435456∧Hid (vX w D rb ab w.heap.size ps ns (i+X.pz qs) kb l k acc rv wr)) (fun kv wr=>VG kv wr)
 case atStart=>exact⟨w2.heap.size,qs,i,[],_,rfl,AU,HI0⟩
 case round =>
  obtain⟨kb,l,k,acc,rv,rfl,hll,HI⟩:=hrel;clear HI0;have hlen:VG (.pointer (some ⟨kb,0,none⟩)) wr=l.length:=(HI.o).rw.len;have hpos:=(HI.o).pos;have HDw:∀ q,D q→q<wr.heap.size:=fun q hq=>aH ((mI.o) q hq) (HI.o).kp.size
  have HM:=au (j_ D kb ab l k wr (HI.o).rw (by omega) (by omega) HDw);clear HDw;go_wp2_with fail
  refine(HM.o).mono ?_;rintro e w3 ⟨rfl,H3⟩;have hpz:X.pz l=X.pz (l.takeWhile X.lq)+X.pz (l.dropWhile X.lq):=by rw[← X.aY,dZ]
  have hdl:(l.dropWhile X.lq).length≤l.length:=(fo _).length_le;have HI3:Hid (vX w D rb ab w.heap.size ps ns (i+X.pz qs) kb (l.dropWhile X.lq) (k+X.pz (l.takeWhile X.lq)) acc rv w3):=by
   obtain⟨ns',g1,g2⟩:=(HI.o).nms;exact(HI.o).step hr ha hsep.1 (H3.o).2 (H3.o).1 ⟨ns',Nk g1,g2⟩ (by omega)
  have Rv:∀ p t,l.dropWhile X.lq=p::t→X.lq p=false:=fun p t e=>by
   have:=pO X.lq l;rw[e] at this
   simpa using this
  clear HM H3 HI;generalize l.dropWhile X.lq=l3 at *;generalize k+X.pz (l.takeWhile X.lq)=k3 at *;cases l3 with
  | nil =>
   have HF:Hid (kM w3 w.heap.size w3.heap.size w.heap.size ns∧cO w3 D rb ab ps (i+X.pz qs)∧Kq D rb ab w w3):=by
    obtain⟨ns',g1,g2⟩:=(HI3.o).nms;cases g1
    rw[aJ] at g2;subst g2;have hp3:k3=i+X.pz qs:=(HI3.o).pos;refine⟨Rt (HI3.o).par (HI3.o).own (aj _),⟨(HI3.o).o,by rw[← hp3];exact(HI3.o).rw.Ar,hsep,Vd⟩,(HI3.o).kp⟩
   have hdf:decide (([]:List X.Part)≠[])=false:=by simp
   rw[hdf];clear HI3;go_wp2_with fail
   go_ret;exact⟨_,rfl,HF⟩
  | cons p l4 =>
   have hdt:decide (p::l4≠[])=true:=by simp
   rw[hdt];clear hdt;have hq:=Rv p l4 rfl;clear Rv;obtain⟨v,hb,hnn⟩:=(HI3.o).rw.blk;have c1:=ai w3 _ 1 _ _ _ hb;obtain⟨g,o,cap,kv,rfl,hD,y0,y1,y2,y3,hkk,-,hc1,hc2,-,-⟩:=hnn.head;obtain⟨b4,b6,_,_,_,_,rfl,-⟩:=hkk.ex;have hi1:(0:Int)<((l4.length+1:Nat):Int):=by omega
   have hi2:0<l4.length+1:=by omega
   have yu:=(HI3.o).pos;rw[X.fH] at yu;rw[aW] at hdl;have HHd:=au (fun ns' h=>Ru (p:=p) (l:=l4) (k:=k3) (ns:=ns') h hq);clear hb hnn hkk;go_wp2_with fail
   refine(JJ p _ _ _ w3).mono ?_;rintro e w4 ⟨rfl,k4⟩;have HI4:Hid (vX w D rb ab w.heap.size ps ns (i+X.pz qs) kb (p::l4) k3 acc rv w4):=(HI3.o).step hr ha hsep.1 (Kq.aI k4 (aH ha (HI3.o).kp.size)) ((HI3.o).rw.below k4) (HI3.o).nms (HI3.o).pos;clear k4 HI3 c1 y0 y1 y2 y3;cases hnq:X.nmq p with
   | false =>
    have HN:Hid (X.Ij p=X.pz [p]∧∃ ns',X.oN l4 (k3+X.pz [p]) ns'∧ns=acc++ns'):=by
     obtain⟨ns',g1,g2⟩:=(HI4.o).nms;rcases(HHd.o) ns' g1 with ⟨e,-⟩|⟨-,e2,e3⟩
     ·rw[hnq] at e;cases e
     ·exact⟨e2,ns',e3,g2⟩
    have hln:=(HN.o).1;have Og:=au (jX D kb ab p l4 k3 w4 (HI4.o).rw (by omega) (fun q hq=>aH ((mI.o) q hq) (HI4.o).kp.size));go_wp2_with fail
    refine(Og.o).mono ?_;rintro e w5 ⟨d4,d5,d6,rfl,H5⟩;have rZ:Hid (vX w D rb ab w.heap.size ps ns (i+X.pz qs) kb l4 (k3+X.pz [p]) acc rv w5):=by
     obtain⟨-,z2,z3⟩:=H5.o;rw[hln] at z2;exact(HI4.o).step hr ha hsep.1 z3 z2 (HN.o).2 (by omega)
    clear H5 Og HI4;obtain⟨v5,hb5,Yb⟩:=(rZ.o).rw.blk;have c0:=ai w5 _ 0 _ _ _ hb5;obtain⟨f4,f6,_,_,_,_,rfl,-⟩:=Yb.ex;have c1:=ai w5 _ 1 _ _ _ hb5;have Ie:=au ((rZ.o).copy (fun {q} hq=>(mI.o) q hq) ha (v:=.slice f4 l4.length f6) hb5);clear hb5 Yb rZ;go_wp2_with fail
    refine⟨⟨w5.heap.size,l4,k3+X.pz [p],acc,rv,rfl,by omega,Ie⟩,?_⟩;have:=(Ie.o).rw.len;rw[hlen];show uo w5.heap.size _<_;rw[this];omega
   | true =>
    have HN:Hid (∃ nm,X.BD [p] k3 nm∧∃ ns',X.oN l4 (k3+X.pz [p]) ns'∧ns=(acc++[nm])++ns'):=by
     obtain⟨ns',g1,g2⟩:=(HI4.o).nms;rcases(HHd.o) ns' g1 with ⟨-,nm,ns2,e1,e2,e3⟩|⟨e,-⟩
     ·exact⟨nm,e2,ns2,e3,by rw[g2,e1,aA];rfl⟩
     ·rw[hnq] at e;cases e
    obtain⟨nm,hnm,Nl⟩:=HN.o;have Xg:=au Nl;have hp0:w4.cell? ⟨w.heap.size,0,none⟩=some rv:=ai w4 _ 0 _ _ _ (HI4.o).par;have hpf:w4.frozen? ⟨w.heap.size,0,none⟩=false:=by have:=(HI4.o).par;simp[World.frozen?,this]
    have TH:=au (nC D kb ab [p] nm l4 k3 w4.drew ((HI4.o).rw.below ((ay _ w4).drew)) hnm (by rw[X.aY];omega) (by simp;omega) (fun q hq=>aH ((mI.o) q hq) (HI4.o).kp.size));have hacc:acc.length≤268435456:=by
     have:=congrArg List.length Nl.choose_spec.2;simp at this;omega
    have HAf:Hid (∀ w5,cO w5 D kb ab l4 (k3+X.pz [p])∧Kq D kb ab w4.drew w5→w5.cell? ⟨w.heap.size,0,none⟩=some rv∧w5.frozen? ⟨w.heap.size,0,none⟩=false∧Kq D kb ab w4 w5∧w5.ownsRow w.heap.size 66 2 rv acc.length (Ro acc)∧w.heap.size<w5.heap.size∧(∀ q,rv.ownBlock=some q→q≠w.heap.size)):=fun w5 hx=>by
     have hkd:Kq D kb ab w4 w5:=(Kq.aI ((ay _ w4).drew) (aH ha (HI4.o).kp.size)).trans hx.2;obtain⟨n1,n2,n3,n4⟩:=(HI4.o).new;have hpar:=hkd.heap (HI4.o).par (by decide) (fun e=>n3 e.symm) (by omega);refine⟨ai w5 _ 0 _ _ _ hpar,by simp[World.frozen?,hpar],hkd,hkd.owns (HI4.o).own (by decide) (fun g hg=>⟨(n4 g hg).1,?_⟩),aP hpar,fun q hq=>(n4 q hq).2⟩;have:=(dV (HI4.o).own g hg).1;omega
    clear hnm Nl HHd HN;go_wp2_with fail
    refine wp_region_noPanic ?_;refine bH (S:=fun w'=>w'.cell? ⟨w.heap.size,0,none⟩=some rv) (z:=10) (by kernel_rfl) ?_;have hS:w4.drew.cell? ⟨w.heap.size,0,none⟩=some rv:=hp0;iterate 5(refine qD hS ?_;simp only[Act.put,ax,aD,aF])
    refine bD 5 fun K hK=>?_;go_simp;refine(TH.o).mono ?_;rintro e w5 ⟨rfl,H5⟩;obtain⟨g0,g1,g2,g3,g4,g5⟩:=(HAf.o) w5 H5.o;have HG2:=au g2;have HG3:=au g3;have tZ:=au g5;have g6:=g5;clear g2 g3 g5 HAf TH;dsimp only;refine hK.o _ _ (fun _=>g0) (fun hS2=>?_);clear hS hK K hS2;have hS:w5.cell? ⟨w.heap.size,0,none⟩=some rv:=g0
    try simp only[Act.put,ax,aD,aF]
    refine bD 6 fun K hK=>?_;go_simp;refine hK.o _ _ (fun _=>Lib.cell?_alloc_some _ g0) (fun hS2=>?_);clear hS hK K hS2;have hS:=fun o=>Lib.cell?_alloc_some (W:=w5) o g0
    refine bD 7 fun K hK=>?_;refine step_append_lies _ (by rfl) _ _ _ (by rfl) w.heap.size 66 i0 _ 2 24 underlying183 hi0 hz0 hz1 hz2 rfl (by omega) rv acc.length _ (by rfl) ((HG3.o).alloc _)
      ⟨w5.heap.size,0,none⟩ 1 1 [.string (ba nm.1),.int .i64 nm.2] (by rfl) (by rfl) (World.news_of_block (cs:=#[.string (ba nm.1),.int .i64 nm.2]) (aB w5 _)) (by simp[Value.oneCell'])
      (by omega) (by unfold maxLen;omega) (by omega) (by simp;omega) (w5.heap.size+1) (by simp) ?_
    intro g7 Bg w7 lQ gH uj DC;have x1:w7.cell? ⟨w.heap.size,0,none⟩=some rv:=(gH.cell_far ⟨w.heap.size,0,none⟩ (by simp;omega) (fun e=>(tZ.o) _ e.symm rfl)).trans (hS _);have x2:w7.frozen? ⟨w.heap.size,0,none⟩=false:=(gH.frozen_far ⟨w.heap.size,0,none⟩ (by simp;omega) (fun e=>(tZ.o) _ e.symm rfl)).trans ((bN _ _ ⟨w.heap.size,0,none⟩ (by simp;omega)).trans g1);have Oo:=au ((HI4.o).named hr ha mI.o hsep.1 HG2.o (H5.o).1 Xg.o (by omega) _ lQ gH uj);clear lQ gH;show K (Act.put _ (some 22) _) w7;refine hK.o _ _ (fun _=>x1) (fun hS2=>?_);clear hS hK K hS2;have hS:w7.cell? ⟨w.heap.size,0,none⟩=some rv:=x1;simp only[Act.put,ax,aD,aF];refine bD 8 fun K hK=>?_;go_simp;refine hK.o _ _ (fun _=>hS) (fun _=>?_);clear hK K;refine bD 9 fun K hK=>?_;go_simp;refine hK.o _ _ (fun _=>hS) (fun _=>?_);clear hK K;refine bD 10 fun K hK=>?_;go_simp;refine hK.o _ _ (fun h=>absurd rfl h) (fun _=>fB ?_);clear hK K;refine NoPanic.normal ?_;clear x1 x2 hS g0 g1;generalize w7.setCell ⟨w.heap.size,0,none⟩ (.slice (some ⟨g7,0,none⟩) (acc.length+1) Bg)=w8 at *;obtain⟨v8,Oq,hn8⟩:=(Oo.o).rw.blk;have c0:=ai w8 _ 0 _ _ _ Oq;obtain⟨f4,f6,_,_,_,_,rfl,-⟩:=hn8.ex;have c1:=ai w8 _ 1 _ _ _ Oq;have HI9:=au ((Oo.o).copy (fun {q} hq=>(mI.o) q hq) ha (v:=.slice f4 l4.length f6) Oq);clear Oq hn8 Oo;go_wp2_with fail
    refine⟨⟨w8.heap.size,l4,k3+X.pz [p],acc++[nm],_,rfl,by omega,HI9⟩,?_⟩;have:=(HI9.o).rw.len;rw[hlen];show uo w8.heap.size _<_;rw[this];omega
end
section
variable{w w':World}{lo hi rb ab b i:Nat}{v kv:Value}{e:X.Ex}{D:Nat→Prop}{T:TypeId}
inductive gJ(w:World)(lo hi:Nat):Value→X.Ex→Prop
 | lit {m n:Int} {z:Bool} (b k:Nat) (x:ah) (hb:lo≤b∧b<hi) (h:w.heap[b]?=some (.cells #[.int .i64 m,.int .i64 n,.bool z,.int .i64 k,.string (ba x)] 284 (0,0))):gJ w lo hi (.iface 223 (.pointer (some ⟨b,0,none⟩))) (.lit k x)
 | hole {m n:Int} {z:Bool} (b i:Nat) (hb:lo≤b∧b<hi) (h:w.heap[b]?=some (.cells #[.int .i64 m,.int .i64 n,.bool z] 282 (0,0))):gJ w lo hi (.iface 281 (.pointer (some ⟨b,0,none⟩))) (.hole i)
 | missing {m n:Int} {z:Bool} (b:Nat) (hb:lo≤b∧b<hi) (h:w.heap[b]?=some (.cells #[.int .i64 m,.int .i64 n,.bool z] 271 (0,0))):gJ w lo hi (.iface 269 (.pointer (some ⟨b,0,none⟩))) .missing
 | var {m n:Int} {z:Bool} (b:Nat) (nm:X.Nm) (hb:lo≤b∧b<hi) (h:w.heap[b]?=some (.cells #[.int .i64 m,.int .i64 n,.bool z,.string (ba nm.1),.int .i64 nm.2] 280 (0,0))):gJ w lo hi (.iface 228 (.pointer (some ⟨b,0,none⟩))) (.var nm)
 | iJ {m n:Int} {z:Bool} (b:Nat) (nm:X.Nm) (v1 v2:Value) (e1 e2:X.Ex) (hb:lo≤b∧b<hi) (h:w.heap[b]?=some (.cells #[.int .i64 m,.int .i64 n,.bool z,.string (ba nm.1),.int .i64 nm.2,v1,v2] 299 (0,0))) (h1:gJ w lo hi v1 e1) (h2:gJ w lo hi v2 e2):gJ w lo hi (.iface 230 (.pointer (some ⟨b,0,none⟩))) (.iJ nm e1 e2)
 | ite {m n:Int} {z:Bool} (b:Nat) (v1 v2 v3:Value) (e1 e2 e3:X.Ex) (hb:lo≤b∧b<hi) (h:w.heap[b]?=some (.cells #[.int .i64 m,.int .i64 n,.bool z,v1,v2,v3] 275 (0,0))) (h1:gJ w lo hi v1 e1) (h2:gJ w lo hi v2 e2) (h3:gJ w lo hi v3 e3):gJ w lo hi (.iface 232 (.pointer (some ⟨b,0,none⟩))) (.ite e1 e2 e3)
 | fn {m n:Int} {z:Bool} (b pb:Nat) (ns:List X.Nm) (v:Value) (e:X.Ex) (hb:lo≤b∧b<hi) (h:w.heap[b]?=some (.cells #[.int .i64 m,.int .i64 n,.bool z,.pointer (some ⟨pb,0,none⟩),v] 236 (0,0))) (hp:kM w lo hi pb ns) (h1:gJ w lo hi v e):gJ w lo hi (.iface 234 (.pointer (some ⟨b,0,none⟩))) (.fn ns e)
 | bin {m n:Int} {z:Bool} (b:Nat) (v1 v2:Value) (x:ah) (e1 e2:X.Ex) (hb:lo≤b∧b<hi) (h:w.heap[b]?=some (.cells #[.int .i64 m,.int .i64 n,.bool z,v1,.string (ba x),v2] 240 (0,0))) (h1:gJ w lo hi v1 e1) (h2:gJ w lo hi v2 e2):gJ w lo hi (.iface 238 (.pointer (some ⟨b,0,none⟩))) (.bin e1 x e2)
 | call {m n:Int} {z:Bool} (b:Nat) (v:Value) (e:X.Ex) (ao:Option Addr) (cap:Nat) (vs:Nat→Value) (es:List X.Ex) (hb:lo≤b∧b<hi) (h:w.heap[b]?=some (.cells #[.int .i64 m,.int .i64 n,.bool z,v,.slice ao es.length cap] 246 (0,0))) (hc:es.length≤cap∧cap≤maxLen) (h1:gJ w lo hi v e)
   (hr:∀ j,j<es.length→∃ g,ao=some ⟨g,0,none⟩∧lo≤g∧g<hi∧w.cell? ⟨g,j,none⟩=some (vs j)∧∃ c f,w.heap[g]?=some (.cells c 72 f)) (hp:∀(j:Nat) (e:X.Ex),es[j]?=some e→gJ w lo hi (vs j) e):gJ w lo hi (.iface 243 (.pointer (some ⟨b,0,none⟩))) (.call e es)
 | list {m n:Int} {z:Bool} (b:Nat) (ao:Option Addr) (cap:Nat) (vs:Nat→Value) (es:List X.Ex) (hb:lo≤b∧b<hi) (h:w.heap[b]?=some (.cells #[.int .i64 m,.int .i64 n,.bool z,.slice ao es.length cap] 252 (0,0))) (hc:es.length≤cap∧cap≤maxLen)
   (hr:∀ j,j<es.length→∃ g,ao=some ⟨g,0,none⟩∧lo≤g∧g<hi∧w.cell? ⟨g,j,none⟩=some (vs j)∧∃ c f,w.heap[g]?=some (.cells c 72 f)) (hp:∀(j:Nat) (e:X.Ex),es[j]?=some e→gJ w lo hi (vs j) e):gJ w lo hi (.iface 250 (.pointer (some ⟨b,0,none⟩))) (.list es)
 | group {m n:Int} {z:Bool} (b:Nat) (v:Value) (e:X.Ex) (hb:lo≤b∧b<hi) (h:w.heap[b]?=some (.cells #[.int .i64 m,.int .i64 n,.bool z,v] 256 (0,0))) (h1:gJ w lo hi v e):gJ w lo hi (.iface 254 (.pointer (some ⟨b,0,none⟩))) (.group e)
theorem gJ.rR{S:Nat→Prop}{w w':World}(hk:Kp S w w'){lo hi:Nat}(hS:∀ i,lo≤i→i<hi→S i→∃ c f,w.heap[i]?=some (.cells c 3 f)){v:Value}{e:X.Ex}(h:gJ w lo hi v e):gJ w' lo hi v e:=by
 have hp:∀ {b:Nat} {c:Array Value} {T:TypeId} {f:Nat × Nat},lo≤b∧b<hi→w.heap[b]?=some (.cells c T f)→T≠3→¬ S b:=fun hb h hT e=>nH h hT (hS _ hb.1 hb.2 e)
 have hq:∀ {b:Nat} {c:Array Value} {T:TypeId} {f:Nat × Nat},lo≤b∧b<hi→w.heap[b]?=some (.cells c T f)→T≠3→w'.heap[b]?=some (.cells c T f):=fun hb h hT=>hk.heap h (hp hb h hT)
 induction h with
 | lit b k x hb h=>exact .lit b k x hb (hq hb h (by decide))
 | hole b i hb h=>exact .hole b i hb (hq hb h (by decide))
 | missing b hb h=>exact .missing b hb (hq hb h (by decide))
 | var b n hb h=>exact .var b n hb (hq hb h (by decide))
 | iJ b n v1 v2 e1 e2 hb h h1 h2 i1 i2=>exact .iJ b n v1 v2 e1 e2 hb (hq hb h (by decide)) i1 i2
 | ite b v1 v2 v3 e1 e2 e3 hb h h1 h2 h3 i1 i2 i3=>exact .ite b v1 v2 v3 e1 e2 e3 hb (hq hb h (by decide)) i1 i2 i3
 | fn b pb ns v e hb h hp h1 i1=>exact .fn b pb ns v e hb (hq hb h (by decide)) (hp.rR hk hS) i1
 | bin b v1 v2 x e1 e2 hb h h1 h2 i1 i2=>exact .bin b v1 v2 x e1 e2 hb (hq hb h (by decide)) i1 i2
 | call b v e ao cap vs es hb h hc h1 hr hp' i1 ip=>exact .call b v e ao cap vs es hb (hq hb h (by decide)) hc i1 (fun j hj=>by obtain⟨g,x1,x2,x3,x4,c,f,x5⟩:=hr j hj;exact⟨g,x1,x2,x3,hk.dY x4 (hp ⟨x2,x3⟩ x5 (by decide)),c,f,hq ⟨x2,x3⟩ x5 (by decide)⟩) ip
 | list b ao cap vs es hb h hc hr hp' ip=>exact .list b ao cap vs es hb (hq hb h (by decide)) hc (fun j hj=>by obtain⟨g,x1,x2,x3,x4,c,f,x5⟩:=hr j hj;exact⟨g,x1,x2,x3,hk.dY x4 (hp ⟨x2,x3⟩ x5 (by decide)),c,f,hq ⟨x2,x3⟩ x5 (by decide)⟩) ip
 | group b v e hb h h1 i1=>exact .group b v e hb (hq hb h (by decide)) i1
theorem gJ.keep{S:Nat→Prop}(hk:Kp S w w')(hS:∀ i,lo≤i→i<hi→¬ S i)(h:gJ w lo hi v e):gJ w' lo hi v e:=h.rR hk (fun i h1 h2 e=>absurd e (hS i h1 h2))
theorem gJ.jL(hk:Kq D rb ab w w')(h:gJ w lo hi v e)(h1:rb<lo)(h2:ab<lo):gJ w' lo hi v e:=h.rR hk.kp (fun _ hi _ e=>e.int h1 h2 hi)
theorem pI{q:Nat}{m n m' n':Int}{z z':Bool}{r:List Value}(h:w.heap[q]?=some (.cells (List.toArray (.int .i64 m::.int .i64 n::.bool z::r)) T (0,0))):∃ m2 n2 z2,(((w.setCell ⟨b,0,none⟩ (.int .i64 m')).setCell ⟨b,1,none⟩ (.int .i64 n')).setCell ⟨b,2,none⟩ (.bool z')).heap[q]?=some (.cells (List.toArray (.int .i64 m2::.int .i64 n2::.bool z2::r)) T (0,0)):=by
 by_cases e:q=b
 ·subst e
  exact⟨m',n',z',by simp[World.setCell,aK,h]⟩
 ·exact⟨m,n,z,by rw[zf e,zf e,zf e];exact h⟩
theorem gJ.stood{c:Array Value}{f:Nat × Nat}(hb:w.heap[b]?=some (.cells c T f))(hT:T≠72∧T≠66∧T≠185)(m' n':Int)(z':Bool)(h:gJ w lo hi v e):gJ (((w.setCell ⟨b,0,none⟩ (.int .i64 m')).setCell ⟨b,1,none⟩ (.int .i64 n')).setCell ⟨b,2,none⟩ (.bool z')) lo hi v e:=by
 have hk:Kp (fun q=>q=b) w (((w.setCell ⟨b,0,none⟩ (.int .i64 m')).setCell ⟨b,1,none⟩ (.int .i64 n')).setCell ⟨b,2,none⟩ (.bool z')):=On.set (On.set (On.set (Kp.refl _ w) 0 _) 1 _) 2 _;have ht:∀ {g:Nat} {c':Array Value} {T':TypeId} {f':Nat × Nat},w.heap[g]?=some (.cells c' T' f')→T≠T'→¬ g=b:=fun h hne e=>by
  subst e;rw[hb] at h;injection h with h;injection h with h1 h2;exact hne h2
 have hr':∀ {g j:Nat} {u:Value} {c':Array Value} {f':Nat × Nat},w.cell? ⟨g,j,none⟩=some u→w.heap[g]?=some (.cells c' 72 f')→(((w.setCell ⟨b,0,none⟩ (.int .i64 m')).setCell ⟨b,1,none⟩ (.int .i64 n')).setCell ⟨b,2,none⟩ (.bool z')).cell? ⟨g,j,none⟩=some u∧∃ c f,(((w.setCell ⟨b,0,none⟩ (.int .i64 m')).setCell ⟨b,1,none⟩ (.int .i64 n')).setCell ⟨b,2,none⟩ (.bool z')).heap[g]?=some (.cells c 72 f):=fun h1 h2=>⟨hk.dY h1 (ht h2 hT.1),_,_,hk.heap h2 (ht h2 hT.1)⟩
 induction h with
 | lit q k x hq h=>obtain⟨_,_,_,h'⟩:=pI h;exact .lit q k x hq h'
 | hole q i hq h=>obtain⟨_,_,_,h'⟩:=pI h;exact .hole q i hq h'
 | missing q hq h=>obtain⟨_,_,_,h'⟩:=pI h;exact .missing q hq h'
 | var q n hq h=>obtain⟨_,_,_,h'⟩:=pI h;exact .var q n hq h'
 | iJ q n v1 v2 e1 e2 hq h h1 h2 i1 i2=>obtain⟨_,_,_,h'⟩:=pI h;exact .iJ q n v1 v2 e1 e2 hq h' i1 i2
 | ite q v1 v2 v3 e1 e2 e3 hq h h1 h2 h3 i1 i2 i3=>obtain⟨_,_,_,h'⟩:=pI h;exact .ite q v1 v2 v3 e1 e2 e3 hq h' i1 i2 i3
 | fn q pb ns v e hq h hp h1 i1 =>
  obtain⟨_,_,_,h'⟩:=pI h;refine .fn q pb ns v e hq h' ?_ i1;obtain⟨ao,cap,x1,x2,x3,x4⟩:=hp.ex;refine⟨hp.bd,ao,cap,hk.heap x1 (ht x1 hT.2.2),x2,x3,fun j n hj=>?_⟩;obtain⟨g,y1,y2,y3,y4,y5,c',f',y6⟩:=x4 j n hj;exact⟨g,y1,y2,y3,hk.dY y4 (ht y6 hT.2.1),hk.dY y5 (ht y6 hT.2.1),c',f',hk.heap y6 (ht y6 hT.2.1)⟩
 | bin q v1 v2 x e1 e2 hq h h1 h2 i1 i2=>obtain⟨_,_,_,h'⟩:=pI h;exact .bin q v1 v2 x e1 e2 hq h' i1 i2
 | call q v e ao cap vs es hq h hc h1 hr hp i1 ip =>
  obtain⟨_,_,_,h'⟩:=pI h;exact .call q v e ao cap vs es hq h' hc i1 (fun j hj=>by obtain⟨g,x1,x2,x3,x4,c,f,x5⟩:=hr j hj;exact⟨g,x1,x2,x3,hr' x4 x5⟩) ip
 | list q ao cap vs es hq h hc hr hp ip =>
  obtain⟨_,_,_,h'⟩:=pI h;exact .list q ao cap vs es hq h' hc (fun j hj=>by obtain⟨g,x1,x2,x3,x4,c,f,x5⟩:=hr j hj;exact⟨g,x1,x2,x3,hr' x4 x5⟩) ip
 | group q v e hq h h1 i1=>obtain⟨_,_,_,h'⟩:=pI h;exact .group q v e hq h' i1
theorem kM.wide{lo' hi' pb:Nat}{ns:List X.Nm}(h:kM w lo hi pb ns)(h1:lo'≤lo)(h2:hi≤hi'):kM w lo' hi' pb ns:=by
 obtain⟨ao,cap,x1,x2,x3,x4⟩:=h.ex;have:=h.bd;exact⟨⟨by omega,by omega⟩,ao,cap,x1,x2,x3,fun j n hj=>by obtain⟨g,e1,e2,e3,e4⟩:=x4 j n hj;exact⟨g,e1,by omega,by omega,e4⟩⟩
theorem gJ.wide{w:World}{lo hi lo' hi':Nat}(q1:lo'≤lo)(q2:hi≤hi'){v:Value}{e:X.Ex}(h:gJ w lo hi v e):gJ w lo' hi' v e:=by
 induction h with
 | lit b k x hb h=>exact .lit b k x ⟨by omega,by omega⟩ h
 | hole b i hb h=>exact .hole b i ⟨by omega,by omega⟩ h
 | missing b hb h=>exact .missing b ⟨by omega,by omega⟩ h
 | var b n hb h=>exact .var b n ⟨by omega,by omega⟩ h
 | iJ b n v1 v2 e1 e2 hb h h1 h2 i1 i2=>exact .iJ b n v1 v2 e1 e2 ⟨by omega,by omega⟩ h i1 i2
 | ite b v1 v2 v3 e1 e2 e3 hb h h1 h2 h3 i1 i2 i3=>exact .ite b v1 v2 v3 e1 e2 e3 ⟨by omega,by omega⟩ h i1 i2 i3
 | fn b pb ns v e hb h hp h1 i1=>exact .fn b pb ns v e ⟨by omega,by omega⟩ h (hp.wide q1 q2) i1
 | bin b v1 v2 x e1 e2 hb h h1 h2 i1 i2=>exact .bin b v1 v2 x e1 e2 ⟨by omega,by omega⟩ h i1 i2
 | call b v e ao cap vs es hb h hc h1 hr hp i1 ip=>exact .call b v e ao cap vs es ⟨by omega,by omega⟩ h hc i1 (fun j hj=>by obtain⟨g,x1,x2,x3,x4⟩:=hr j hj;exact⟨g,x1,by omega,by omega,x4⟩) ip
 | list b ao cap vs es hb h hc hr hp ip=>exact .list b ao cap vs es ⟨by omega,by omega⟩ h hc (fun j hj=>by obtain⟨g,x1,x2,x3,x4⟩:=hr j hj;exact⟨g,x1,by omega,by omega,x4⟩) ip
 | group b v e hb h h1 i1=>exact .group b v e ⟨by omega,by omega⟩ h i1
theorem gJ.iface{w:World}{lo hi:Nat}{v:Value}{e:X.Ex}(h:gJ w lo hi v e):∃ ty b,v=.iface ty (.pointer (some ⟨b,0,none⟩)):=by
 cases h<;>exact⟨_,_,rfl⟩
theorem Gy{qs:List X.Part}(hp:lV w D ab i)(hk:qz w D kv qs)(hq:X.Gd qs)(hd:¬ D ab)(hDl:∀ q,D q→q<w.heap.size) :
  cO (w.alloc (.cells #[.pointer (some ⟨ab,0,none⟩),kv] 120)) D w.heap.size ab qs i:=by
 have kB:Below w.heap.size w (w.alloc (.cells #[.pointer (some ⟨ab,0,none⟩),kv] 120)):=(ay _ w).alloc (aj _) _;have:=hp.lt;exact⟨⟨kv,aB w _,hk.keep (Kp.aI kB (fun _=>False)) (fun _ _=>id)⟩,hp.below kB,⟨by omega,fun h=>by have:=hDl _ h;omega,hd⟩,hq⟩
theorem Li{w2:World}{ps qs:List X.Part}(h:cO w2 D rb ab ps i)(hk:qz w2 D kv qs)(hq:X.Gd qs)(hDl:∀ q,D q→q<w2.heap.size) :
  cO (w2.alloc (.cells #[.pointer (some ⟨ab,0,none⟩),kv] 120)) D w2.heap.size ab qs i∧∀(w3:World) (l:List X.Part) (k:Nat),cO w3 D w2.heap.size ab l k→Kq D w2.heap.size ab (w2.alloc (.cells #[.pointer (some ⟨ab,0,none⟩),kv] 120)) w3→cO w3 D rb ab ps k∧Kq D rb ab w2 w3:=by
 have kB:Below w2.heap.size w2 (w2.alloc (.cells #[.pointer (some ⟨ab,0,none⟩),kv] 120)):=(ay _ w2).alloc (aj _) _;obtain⟨hrl,hal⟩:=h.lt;exact⟨Gy h.Ar hk hq h.sep.2.2 hDl,fun w3 l k hw hkp=>⟨(h.below kB).other hkp hw (by omega),(Kq.aI kB hal).inner hkp (aj _)⟩⟩
def oH(p:X.Part):Prop:=∀(e:X.Ex) (i:Nat) (D:Nat→Prop) (rb ab:Nat) (ps:List X.Part) (w:World),X.Rd p i e→cO w D rb ab (p::ps) i→i+X.pz [p]≤1073741824→(∀ q,D q→q<w.heap.size) →
 Calls prog 57 #[.pointer (some ⟨rb,0,none⟩)] w fun en w'=>∃ v,en=.returned v∧Hid (gJ w' w.heap.size w'.heap.size v e∧cO w' D rb ab ps (i+X.pz [p])∧Kq D rb ab w w')
end
end Go.Proofs.YtdkpkpgpphkljaaGreatDoor
