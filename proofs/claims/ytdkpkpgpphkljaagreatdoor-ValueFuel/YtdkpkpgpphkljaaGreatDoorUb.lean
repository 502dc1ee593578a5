/- What a text stands for. -/
import Derived.Test.YtdkpkpgpphkljaaGreatDoorCd
import Derived.Test.YtdkpkpgpphkljaaGreatDoorTa
namespace Go.Proofs.YtdkpkpgpphkljaaGreatDoor
set_option maxRecDepth 100000
set_option maxHeartbeats 8000000
open Tryz
open Go.RowKit
open M
variable{w w0 w':World}{s:ByteArray}{B bb rb q:Nat}
def Vn(b:Nat)(w:World):Nat:=match w.cell? ⟨b,1,none⟩ with|some (.int _ q)=>q.toNat|_=>0
theorem lu.at_{b:Nat}{p:Nat}(h:lu w b s p):Vn b w=p:=by
 unfold Vn;rw[h.raw.facts.1.2.1];simp
structure Gn(B bb rb:Nat)(s:ByteArray)(q:Nat)(out:ah)(w0 w:World):Prop where
 iF:lu w rb s q
 Gp:Lib.IsBuilderF 98 5 B bb (Lib.byteCells out) w
 ne:rb≠bb
 brb:B≤rb
 old:4≤B
 base:B≤w0.heap.size
 below:Below B w0 w
theorem Gn.size{B bb rb:Nat}{s:ByteArray}{q:Nat}{out:ah}{w0 w:World}(h:Gn B bb rb s q out w0 w):B≤w.heap.size:=bS h.base h.below.size
theorem Gn.moved{q':Nat}{out:ah}(h:Gn B bb rb s q out w0 w)(hr:lu w' rb s q')(hk:On rb w w'):Gn B bb rb s q' out w0 w':=by
 refine⟨hr,mg h.Gp hk (fun e=>h.ne e.symm) (fun k c fz e=>?_),h.ne,h.brb,h.old,h.base,h.below.trans (hk.below h.size h.brb)⟩;subst e;rw[h.iF.raw];intro e;cases e
theorem Gn.wrote{out new:ah}(h:Gn B bb rb s q out w0 w)(hb:Lib.BuilderAtF 98 5 B bb (.pointer (some ⟨bb,0,none⟩)) (Lib.byteCells out++Lib.byteCells new) w')(hB:Below B w w')(ho:Lib.OthersKept 5 (some bb) w w'):Gn B bb rb s q (out++new) w0 w':=by
 refine⟨h.iF.others hB ho h.ne h.old,.inr ?_,h.ne,h.brb,h.old,h.base,h.below.trans hB⟩;rw[Lib.byteCells_append];exact hb
theorem Gn.drewN{B bb rb:Nat}{s:ByteArray}{q:Nat}{out:ah}{w0 w:World}(h:Gn B bb rb s q out w0 w)(n:Nat):Gn B bb rb s q out w0 (w.drewN n) :=
 h.moved (h.iF.drewN n) (On.drewN rb w n)
theorem Jl(s:ByteArray)(w:World)(hT:kP w)(hs:s.size≤1073741824)(ha:nX (bs s) 6=false) :
  Calls prog 120 #[.string s] w fun e w'=>e=.returned (.tuple #[.string ⟨#[]⟩,.bool false])∧Below w.heap.size w w':=by
 go_enter func120,ntmps120;go_wp2_with fail
 refine(xG s 6 _ hT hs (by omega)).mono ?_;rintro e w1 ⟨rfl,k1⟩;rw[ha];go_wp2_with fail
 go_ret2;exact⟨rfl,k1⟩
theorem Zb{a a':ByteArray}{c:Bool}(h:a=a'):Ending.returned (.tuple #[.string a,.bool c])=.returned (.tuple #[.string a',.bool c]):=by rw[h]
theorem FT(s:ByteArray)(w:World)(hT:kP w)(hs:s.size≤1073741824)(ha:nX (bs s) 6=true)(h2:2≤s.size) :
  Calls prog 120 #[.string s] w fun e w'=>e=.returned (.tuple #[.string (ba (Ia (((bs s).take (s.size - 1)).drop 1))),.bool true])∧Below w.heap.size w w':=by
 have h4:=hT.2;go_enter func120,ntmps120;go_wp2_with fail
 refine(xG s 6 _ hT hs (by omega)).mono ?_;rintro e w1 ⟨rfl,k1⟩;rw[ha];have z1:=k1.size;have hT1:=hT.below k1;have K1:=au k1;obtain⟨n,hn⟩:∃ n,s.size=n+1:=⟨s.size - 1,by omega⟩;have en:(s.size:Int) - 1=(n:Int):=by omega
 have hn1:n≤s.size:=by omega
 have hE:(bs s).take (s.size - 1)=bs (s.extract 0 n):=by rw[DI,hn];rfl
 have hL:(s.extract 0 n).size=n:=by rw[← eZ,DI,bL,eZ];omega
 have HE:=au (And.intro hE hL);have HN:=au hn;clear k1 hE hn;have hsi:(1:Int)≤(s.size:Int):=by omega
 go_wp2_with fail
 refine(oG (s.extract 0 n) 1 _ (hT1.alloc _) (by rw[hL];have:=HN.o;omega) (by rw[hL];omega)).mono ?_;rintro e w2 ⟨rfl,r2,k2⟩;have z2:=k2.size;simp only[gX] at z2 r2 ⊢;have hI0:Gn w1.heap.size w1.heap.size (w1.heap.size+1) (s.extract 0 n) 1 [] w1 w2:=by
  refine⟨r2,?_,by omega,by omega,by omega,aj _,((ay _ w1).alloc (aj _) _).trans (k2.mono (by simp))⟩;exact mg (x_ w1) (Kp.aI k2 (fun _=>False)) id (fun _ _ _ h=>h.elim)
 have HI0:=au hI0;clear hI0 r2 k2;generalize s.extract 0 n=t at *;go_wp2_with fail
 go_loopw [6,7] (fun _ _ wr=>∃(q:Nat) (out:ah),Hid (Gn w1.heap.size w1.heap.size (w1.heap.size+1) t q out w1 wr∧Ia ((bs t).drop 1)=out++Ia ((bs t).drop q))) (fun _ _ wr=>t.size - Vn (w1.heap.size+1) wr)
 case atStart=>exact⟨1,[],⟨HI0.o,rfl⟩⟩
 case round =>
  obtain⟨q,out,HI⟩:=hrel;have hq:=(HI.o).1.iF.le;have hbig:=(HI.o).1.iF.big;have hra:=(HI.o).1.iF.at_;have TQ:=au hra;have hun:out.length≤4*t.size:=by
   have h1:=congrArg List.length (HI.o).2;rw[ak] at h1;have h3:=Ua _ ((bs t).drop 1) (aj _);rw[bM,eZ] at h3;omega
  obtain⟨⟨c0,c1,c2,c3⟩,-⟩:=(HI.o).1.iF.raw.facts;clear hra;by_cases hlt:q<t.size
  ·have hne:(cc ((bs t).drop q) !=-1)=true:=by
    have:=jg hlt;simp only[bne_iff_ne,ne_eq,rP];exact this
   have hz1:=iZ (jg hlt);have hz2:=ja (s:=t) (p:=q) hq;by_cases h92:cc ((bs t).drop q)=92
   ·have Jf:=au (C_ h92)
    have z1:sz ((bs t).drop q)=1:=gP (by omega) (by omega);rw[fG,z1,dB] at Jf;have HP:=au (dJ (w1.heap.size+1) t q _ (HI.o).1.iF);rw[z1] at HP;have hbd:=Oz ((bs t).drop (q+1));rw[h92] at c2;clear z1;go_wp2_with fail
    refine(HP.o).mono ?_;rintro e w3 ⟨rfl,r3,k3⟩;have HI3:=au ((HI.o).1.moved r3 k3);clear k3;go_wp2_with fail
    refine(wS (w1.heap.size+1) t (q+1) _ r3).mono ?_;rintro e w4 ⟨rfl,r4,k4⟩;have HI4:=au ((HI3.o).moved r4 k4);have Vv:=r4.le;clear k4 r3 r4;go_wp2_with fail
    refine(Tryz.Builder_WriteRune_k w1.heap.size w1.heap.size (Lib.byteCells out) _ (by omega) (by omega) _ (HI4.o).Gp (by rw[Lib.byteCells_length];omega) (HI4.o).size).mono ?_;rintro e w5 ⟨rfl,b5,k5,o5⟩;rw[← Lib.byteCells_encodeRune] at b5;have rZ:=au ((HI4.o).wrote b5 k5 o5);clear b5 k5 o5;go_wp2_with fail
    go_roundw
    case rel =>
     refine⟨q+1+(taken ((bs t).drop (q+1))).2.2,out++Lib.encodeRune (taken ((bs t).drop (q+1))).1,rZ.o,?_⟩;rw[(HI.o).2,Jf.o,aA]
    case measure=>rw[(rZ.o).iF.at_,TQ.o];omega
   ·have Jf:=au (Il (jg hlt) h92)
    rw[fG] at Jf;have cE9:(cc ((bs t).drop q) !=92)=true:=by simpa using h92
    clear h92;go_wp2_with fail
    refine(uf (w1.heap.size+1) t q _ (HI.o).1.iF).mono ?_;rintro e w3 ⟨rfl,m3,rfl⟩;have HI3:=au ((HI.o).1.drewN m3);have JA:(t.extract q (q+sz ((bs t).drop q))).size=sz ((bs t).drop q):=by rw[← eZ,qf,bM,bL,eZ];omega
    have aO0:=zk ((bs t).drop q);go_wp2_with fail
    refine(Tryz.Builder_WriteString_k w1.heap.size w1.heap.size (Lib.byteCells out) (t.extract q (q+sz ((bs t).drop q))) _ (HI3.o).Gp (by rw[Lib.byteCells_length,JA];omega) (HI3.o).size).mono ?_;rintro e w4 ⟨rfl,b4,k4,o4⟩;rw[Lib.strCells_eq] at b4;have HI4:=au ((HI3.o).wrote b4 k4 o4);clear b4 k4 o4;have eb:(t.extract q (q+sz ((bs t).drop q))).data.toList=((bs t).drop q).take (sz ((bs t).drop q)):=by
     rw[show(t.extract q (q+sz ((bs t).drop q))).data.toList=bs (t.extract q (q+sz ((bs t).drop q))) from rfl,qf,nS,je]
    have EB:=au eb;clear eb;go_wp2_with fail
    refine(dJ (w1.heap.size+1) t q _ (HI4.o).iF).mono ?_;rintro e w5 ⟨rfl,r5,k5⟩;have rZ:=au ((HI4.o).moved r5 k5);clear r5 k5;go_wp2_with fail
    go_roundw
    case rel =>
     refine⟨q+sz ((bs t).drop q),_,rZ.o,?_⟩;rw[(HI.o).2,Jf.o,aA,EB.o]
    case measure=>rw[(rZ.o).iF.at_,TQ.o];omega
  ·have hqe:q=t.size:=by omega
   have HQ:Hid ((bs t).drop q=[]):=by show _=_;rw[hqe,← eZ];simp
   rw[HQ.o,mU] at c2;clear hqe;go_wp2_with fail
   refine(Tryz.Builder_String_any_k w1.heap.size w1.heap.size out _ (HI.o).1.Gp (HI.o).1.size).mono ?_;rintro e w3 ⟨rfl,-,k3,-⟩;have B3:=au ((K1.o).trans (((HI.o).1.below.trans k3).mono z1));clear k3;go_wp2_with fail
   go_ret2;refine⟨Zb ?_,B3.o⟩;have e1:=(HI.o).2;rw[HQ.o,uY,aJ] at e1;show(⟨out.toArray⟩:ByteArray)=_;rw[(HE.o).1,e1];rfl
end Go.Proofs.YtdkpkpgpphkljaaGreatDoor
