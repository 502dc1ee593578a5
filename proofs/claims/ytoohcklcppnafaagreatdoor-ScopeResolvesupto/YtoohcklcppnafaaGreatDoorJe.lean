import Derived.Test.YtoohcklcppnafaaGreatDoorJa
namespace Go.Proofs.YtoohcklcppnafaaGreatDoor
set_option maxRecDepth 100000
set_option maxHeartbeats 8000000
open Tryz
open Go.RowKit
open M
section
open X
variable{it:It}
variable{w0:aG}{L:Lay}{fs:List Fl}{M:Mem}{us:List X.U}{w:aG}
theorem vY(n:Nm)(s:Nat)(er:Nat)(h:Run w0 L fs M us w)(hlim:us.length+(jd L.tf n s er).length≤1073741824) :
  bB 105 #[aH L.tb,.agg #[.string (ba n.1),ak n.2],ak s,ak er] w (cK (.tuple #[]) fun w'=>Hid (Run w0 L fs M (us++jd L.tf n s er) w'∧Kx L fs.length w0.heap.size w w')):=by
 have kA:Below w.heap.size w (w.alloc (.cells #[.string (ba n.1),ak n.2] 163)).drew:=((aB _ w).alloc (ax _) _).drew;have hN:=aI w (.cells #[.string (ba n.1),ak n.2] 163);have n0:(w.alloc (.cells #[.string (ba n.1),ak n.2] 163)).cell? (aC w.heap.size 0)=some (.string (ba n.1)):=aj _ _ 0 _ _ _ hN;have n1:(w.alloc (.cells #[.string (ba n.1),ak n.2] 163)).cell? (aC w.heap.size 1)=some (ak n.2):=aj _ _ 1 _ _ _ hN;obtain⟨nv,-,t1,-⟩:=(h.alloc (.cells #[.string (ba n.1),ak n.2] 163)).cells;have HC:=aA (oJ n s L.tf n.2 er (h.below kA) hlim);have HK:=aA kA;have HS:=aA h.st.lt;have hsz:=h.size;have HN:=aA hN;clear kA h hlim hN;go_enter func105,ntmps105;go_wp2_with fail
 refine dB (S:=fun w'=>w'.cell? (aC L.tb 1)=some (ak L.tf)∧w'.cell? (aC w.heap.size 0)=some (.string (ba n.1))∧w'.cell? (aC w.heap.size 1)=some (ak n.2)) (z:=12) bC ?_;have hS:(w.alloc (.cells #[.string (ba n.1),ak n.2] 163)).drew.cell? (aC L.tb 1)=some (ak L.tf)∧(w.alloc (.cells #[.string (ba n.1),ak n.2] 163)).drew.cell? (aC w.heap.size 0)=some (.string (ba n.1))∧(w.alloc (.cells #[.string (ba n.1),ak n.2] 163)).drew.cell? (aC w.heap.size 1)=some (ak n.2):=⟨t1,n0,n1⟩;iterate 11(refine oQ hS ?_;simp only[Act.put,aD,aO,aP])
 refine fw 11 fun K hK=>?_;go_simp;refine(HC.o).aX fun w2 H2=>?_;have HF:Hid (Run w0 L fs M (us++jd L.tf n s er) w2∧Kx L fs.length w0.heap.size w w2):=⟨(H2.o).1,(Kx.aN HK.o).trans (H2.o).2⟩;have tX:=(H2.o).2.made HS.o HN.o hsz (fun cs d e=>by cases e);obtain⟨nv2,-,u1,-⟩:=(H2.o).1.cells;have m0:=cell_of_row w2 _ 0 _ _ _ tX;have m1:=cell_of_row w2 _ 1 _ _ _ tX;dsimp only;refine hK.o _ _ (fun _=>⟨u1,m0,m1⟩) (fun _=>iF ?_);clear hK K hS HC HK H2 tX m0 m1 u1 n0 n1 t1 HN;go_wp2_with fail
 go_end0;exact⟨rfl,HF⟩
theorem nH(x:ah)(n:Int)(w:aG)(b:Bool)(hb:x.isEmpty=b) :
  bB 68 #[.agg #[.string (ba x),ak n]] w (cK (.bool b) fun w'=>Below w.heap.size w w'):=by
 subst hb;exact rX x n w
theorem Db{w:aG}{lo hi:Nat}{v:Value}(h:ng w lo hi v it):∃ b,(v=.iface 121 (aH b)∧bB 203 #[aH b] w (cK (.agg #[.string (ba (called it).1),ak (called it).2]) fun w'=>Below w.heap.size w w'))∨(v=.iface 123 (aH b)∧bB 205 #[aH b] w (cK (.agg #[.string (ba (called it).1),ak (called it).2]) fun w'=>Below w.heap.size w w')):=by
 cases h with
 | use b pub gs m n a hb h=>exact⟨b,.inl ⟨rfl,Ch b pub gs m n a w h⟩⟩
 | dfn b pub n pv ps v e hb h hp he=>exact⟨b,.inr ⟨rfl,uQ b pub n pv v _ _ w h⟩⟩
theorem GV(h:X.PX 268435456 it):EP 268435456 (called it):=by
 cases it with
 | use p m n gs a =>
  show EP _ (if gs then a else n);cases gs
  ·exact h.2.1
  ·exact h.2.2
 | dfn p n ps b=>exact h.1
theorem Ol{l:List It}{k:Nat}(hk:l[k]?=some it)(hn:(called it).1≠[]):∃ j,iV l (called it).1=some j:=by
 unfold iV;rw[aM hn];cases hf:l.findIdx? (fun it'=>(called it').1==(called it).1) with
 | some j=>exact⟨j,rfl⟩
 | none =>
  have:=List.findIdx?_eq_none_iff.1 hf it (dF hk);simp at this
theorem GX(i k:Nat)(it:It)(hk:(bI fs i)[k]?=some it)(h:Run w0 L fs M us w) :
  bB 125 #[aH (L.fb i),ak k] w (cK (.bool (gJ (bI fs i) k (called it).1==5)) fun w'=>Below w.heap.size w w'):=by
 obtain⟨hil,hkl⟩:=mQ hk;obtain⟨g,cap,v,lo,hi,e1,e2,e3,e4,e5,-,-⟩:=h.item hil hk;have hf:=h.file hil;rw[e1] at hf;have f0:=aj w _ 0 _ _ _ hf;have f1:=aj w _ 1 _ _ _ hf;have hfl:=bN hf;obtain⟨kk,hmp⟩:=h.named hil;obtain⟨ba1,ba2⟩:=GV (h.PX hk);have Zy:=h.st.il i;obtain⟨b,hcase⟩:=Db e5;have hi1:(k:Int)<((bI fs i).length:Int):=au
 have HM:=aA hmp;have hnm:=Ol hk;have hj:∀ j,iV (bI fs i) (called it).1=some j→j<268435456:=fun j hj=>by
  obtain⟨it',hit,-⟩:=xI hj;have:=(mQ hit).2;omega
 generalize hnn:called it=nn at *;generalize hA:(gJ (bI fs i) k nn.1==5)=A;have HA:=aA hA;have hlen:nn.1.length≤maxLen:=by unfold maxLen;omega
 clear hmp hnn hA h e5 hf e1;have key:∀ w2:aG,Below w.heap.size w w2→Mp w2 (L.nb i) kk (iV (bI fs i)):=fun w2 hb=>(HM.o).below hb
 have HKEY:=aA key;clear key;rcases hcase with ⟨rfl,hc⟩|⟨rfl,hc⟩
 all_goals
  have HC:=aA hc;clear hc;go_enter func125,ntmps125;go_wp2_with fail
  refine(HC.o).aX fun w2 B2=>?_;have g1:=iY B2 hfl f1;have kC:Below w.heap.size w (w2.alloc (.cells #[.string (ba nn.1),ak nn.2] 163)):=B2.alloc B2.size _;have hN:(w2.alloc (.cells #[.string (ba nn.1),ak nn.2] 163)).heap[w2.heap.size]?=some (.cells #[.string (ba nn.1),ak nn.2] 163 (0,0)):=aI w2 _;have HB2:=aA B2;have Zz:=aA kC;have hsz:w2.heap.size<(w2.alloc (.cells #[.string (ba nn.1),ak nn.2] 163)).heap.size:=aT
  clear kC B2 HC;have N0:=aj _ _ 0 _ _ _ hN;have N1:=aj _ _ 1 _ _ _ hN;have g1':=Lib.cell?_alloc_some (.cells #[.string (ba nn.1),ak nn.2] 163) g1;have hw2:=aJ hfl (HB2.o).size;have hw3:L.fb i<(w2.alloc (.cells #[.string (ba nn.1),ak nn.2] 163)).heap.size:=aQ
  clear hN;by_cases hn:nn.1=[]
  ·have e1:nn.1.isEmpty=true:=by rw[hn];rfl
   have HA2:Hid (A=false):=by rw[← HA.o];unfold gJ;rw[aU (.inl hn)];exact aA rfl
   clear HA hn;go_wp2_with fail
   generalize w2.alloc (.cells #[.string (ba nn.1),ak nn.2] 163)=w3 at *;refine wp_region_noPanic ?_;refine dB (S:=fun w'=>w'.cell? (aC w2.heap.size 0)=some (.string (ba nn.1))∧w'.cell? (aC w2.heap.size 1)=some (ak nn.2)) (z:=14) bC ?_;have hS:w3.drew.cell? (aC w2.heap.size 0)=some (.string (ba nn.1))∧w3.drew.cell? (aC w2.heap.size 1)=some (ak nn.2):=⟨N0,N1⟩;refine Ru 0 hS ?_
   simp only[Act.put,aD,aO,aP];refine fw 1 fun K hK=>?_;go_simp;refine(nH nn.1 nn.2 _ true e1).aX fun w4 B4=>?_;have N0':=iY B4 hsz N0;have N1':=iY B4 hsz N1;go_simp;refine hK.o _ _ (fun _=>⟨N0',N1'⟩) (fun hS2=>?_);clear hS hK K;have hS:=hS2 aS;clear hS2;iterate 2(refine ny hS ?_;simp only[Act.put,aD,aO,aP])
   refine kg (i:=4) (dn:=18) (v:=undef) rfl rfl bC bC bC bC (fun _ _ _ h=>h) (Or.inr ⟨by rfl,rfl⟩) hS ?_;simp only[Act.put,aD,aO,aP];refine kg (i:=5) (dn:=19) (v:=undef) rfl rfl bC bC bC bC (fun _ _ _ h=>h) (Or.inr ⟨by rfl,rfl⟩) hS ?_;simp only[Act.put,aD,aO,aP];refine kg (i:=6) (dn:=20) (v:=undef) rfl rfl bC bC bC bC (fun _ _ _ h=>h) (Or.inr ⟨by rfl,rfl⟩) hS ?_;simp only[Act.put,aD,aO,aP];refine kg (i:=7) (dn:=21) (v:=undef) rfl rfl bC bC bC bC (fun _ _ _ h=>h) (Or.inr ⟨by rfl,rfl⟩) hS ?_;simp only[Act.put,aD,aO,aP];refine kg (i:=8) (dn:=22) (v:=undef) rfl rfl bC bC bC bC (fun _ _ _ h=>h) (Or.inr ⟨by rfl,rfl⟩) hS ?_;simp only[Act.put,aD,aO,aP];refine kg (i:=9) (dn:=23) (v:=undef) rfl rfl bC bC bC bC (fun _ _ _ h=>h) (Or.inr ⟨by rfl,rfl⟩) hS ?_;simp only[Act.put,aD,aO,aP];refine kg (i:=10) (dn:=24) (v:=undef) rfl rfl bC bC bC bC (fun _ _ _ h=>h) (Or.inr ⟨by rfl,rfl⟩) hS ?_;simp only[Act.put,aD,aO,aP];refine kg (i:=11) (dn:=25) (v:=undef) rfl rfl bC bC bC bC (fun _ _ _ h=>h) (Or.inr ⟨by rfl,rfl⟩) hS ?_;simp only[Act.put,aD,aO,aP];refine kg (i:=12) (dn:=26) (v:=undef) rfl rfl bC bC bC bC (fun _ _ _ h=>h) (Or.inr ⟨by rfl,rfl⟩) hS ?_;simp only[Act.put,aD,aO,aP];refine Ru 13 hS ?_
   simp only[Act.put,aD,aO,aP];refine fw 14 fun K hK=>?_;go_simp;refine hK.o _ _ (fun h=>absurd rfl h) (fun _=>iF ?_);clear hK K hS;refine NoPanic.normal ?_;have HF:=aA <| ((Zz.o).drew).trans (B4.mono ((Zz.o).size));clear B4 N0 N1 N0' N1';go_wp2_with fail
   go_ret;exact⟨by rw[HA2.o];rfl,HF.o⟩
  ·have e1:nn.1.isEmpty=false:=by cases hx:nn.1 with|nil=>exact absurd hx hn|cons a l=>rfl
   obtain⟨j,hj2⟩:=hnm hn;have hjl:=hj j hj2;have XD:Hid (∀ w2:aG,Below w.heap.size w w2→(Instr.lookup 73 (.map (some (L.nb i))) (.string (ba nn.1)) false).run prog w2=.ok (ak j) w2):=fun w2 hb=>by
    have:=((HKEY.o) w2 hb).Zx hlen;rw[hj2] at this;exact this
   have HA2:Hid (A=!((j:Int)==k)):=by
    rw[← HA.o];unfold gJ;rw[hj2];by_cases hjk:j=k
    ·subst hjk
     rw[aU (.inr rfl)];exact aA aT
    ·rw[aM (fun e=>by rcases e with e|e;exact hn e;exact hjk (bQ e))]
     have:((j:Int)==k)=false:=aQ
     rw[this];exact aA rfl
   clear HA hn hj2 hnm hj;go_wp2_with fail
   have hR3:=(XD.o) _ (Zz.o).drew;generalize w2.alloc (.cells #[.string (ba nn.1),ak nn.2] 163)=w3 at *
   go_region_held3 (fun w'=>w'.cell? (aC w2.heap.size 0)=some (.string (ba nn.1))∧w'.cell? (aC w2.heap.size 1)=some (ak nn.2)∧w'.cell? (aC (L.fb i) 1)=some (.map (some (L.nb i)))∧(Instr.lookup 73 (.map (some (L.nb i))) (.string (ba nn.1)) false).run prog w'=.ok (ak j) w')
    (first|(with_reducible exact⟨N0,N1,g1',hR3⟩)|(with_reducible exact⟨N0',N1',g1'',UL⟩)|go_keep)
    ((go_at_call 68;refine(nH nn.1 nn.2 _ false e1).aX fun w4 B4=>?_;have N0':=iY B4 hsz N0;have N1':=iY B4 hsz N1;have g1'':=iY B4 hw3 g1';have UL:=(XD.o) w4 (((Zz.o).drew).trans (B4.mono ((Zz.o).size)))))
   have HF:=aA <| ((Zz.o).drew).trans (B4.mono ((Zz.o).size));clear B4 N0 N1 N0' N1' g1' g1'' hR3 UL;go_wp2_with fail
   go_ret;exact⟨by rw[HA2.o];rfl,HF.o⟩
end
section
open X
variable{w0:aG}{L:Lay}{fs:List Fl}{M:Mem}{us:List X.U}{w:aG}
theorem Ar(i k:Nat)(it:It)(hk:(bI fs i)[k]?=some it)(h:Run w0 L fs M us w)(b:Bool)(hb:(gJ (bI fs i) k (called it).1==5)=b) :
  bB 125 #[aH (L.fb i),ak k] w (cK (.bool b) fun w'=>Below w.heap.size w w'):=by
 subst hb;exact GX i k it hk h
theorem Au(k:Nat)(it:It)(hk:(bI fs L.tf)[k]?=some it)(h:Run w0 L fs M us w) :
  bB 103 #[aH L.tb,ak k] w (cK (ak (gJ (bI fs L.tf) k (called it).1)) fun w'=>Below w.heap.size w w'):=by
 obtain⟨hil,hkl⟩:=mQ hk;have hn16:=h.st.n;obtain⟨nv,t0,t1,-⟩:=h.cells;obtain⟨-,c1⟩:=h.VR;obtain⟨g,cap,e1,e2,e3,e4⟩:=h.files hil;rw[e1] at c1;have hi1:(L.tf:Int)<(fs.length:Int):=au
 have htl:L.tb<w.heap.size:=dU w ⟨L.tb,0,none⟩ t0;have hwl:L.wb<w.heap.size:=dU w ⟨L.wb,1,none⟩ c1;have hgl:g<w.heap.size:=dU w ⟨g,L.tf,none⟩ e4;have Xr:gJ (bI fs L.tf) k (called it).1=5∨gJ (bI fs L.tf) k (called it).1=0:=by
  unfold gJ
  split
  ·exact .inr rfl
  ·exact .inl rfl
 have kD:Below w.heap.size w w.drew:=(aB _ w).drew;rcases Xr with ht|ht
 ·have HC:=aA (Ar L.tf k it hk (h.below kD) true (by rw[ht];rfl))
  clear h kD;rw[ht];go_enter func103,ntmps103;go_wp2_with fail
  refine dB (S:=fun w'=>w'.cell? (aC L.tb 0)=some (aH L.wb)∧w'.cell? (aC L.tb 1)=some (ak L.tf)∧w'.cell? (aC L.wb 1)=some (.slice (b_ g) fs.length cap)∧w'.cell? (aC g L.tf)=some (aH (L.fb L.tf))) (z:=15) bC ?_;have hS:w.drew.cell? (aC L.tb 0)=some (aH L.wb)∧w.drew.cell? (aC L.tb 1)=some (ak L.tf)∧w.drew.cell? (aC L.wb 1)=some (.slice (b_ g) fs.length cap)∧w.drew.cell? (aC g L.tf)=some (aH (L.fb L.tf)):=⟨t0,t1,c1,e4⟩;iterate 14(refine oQ hS ?_;simp only[Act.put,aD,aO,aP])
  refine fw 14 fun K hK=>?_;go_simp;refine(HC.o).aX fun w4 B4=>?_;dsimp only;refine hK.o _ _ (fun _=>⟨iY B4 htl hS.1,iY B4 htl hS.2.1,iY B4 hwl hS.2.2.1,iY B4 hgl hS.2.2.2⟩) (fun _=>iF ?_);have HF:Hid (Below w.heap.size w w4):=(Below.refl _ w).drew.trans B4;clear hK K hS B4 t0 t1 c1 e4 HC;go_wp2_with fail
  go_ret;exact⟨rfl,HF.o⟩
 ·have HC:=aA (Ar L.tf k it hk (h.below kD) false (by rw[ht];rfl))
  clear h kD;rw[ht];go_enter func103,ntmps103;go_wp2_with fail
  refine dB (S:=fun w'=>w'.cell? (aC L.tb 0)=some (aH L.wb)∧w'.cell? (aC L.tb 1)=some (ak L.tf)∧w'.cell? (aC L.wb 1)=some (.slice (b_ g) fs.length cap)∧w'.cell? (aC g L.tf)=some (aH (L.fb L.tf))) (z:=15) bC ?_;have hS:w.drew.cell? (aC L.tb 0)=some (aH L.wb)∧w.drew.cell? (aC L.tb 1)=some (ak L.tf)∧w.drew.cell? (aC L.wb 1)=some (.slice (b_ g) fs.length cap)∧w.drew.cell? (aC g L.tf)=some (aH (L.fb L.tf)):=⟨t0,t1,c1,e4⟩;iterate 14(refine oQ hS ?_;simp only[Act.put,aD,aO,aP])
  refine fw 14 fun K hK=>?_;go_simp;refine(HC.o).aX fun w4 B4=>?_;dsimp only;refine hK.o _ _ (fun _=>⟨iY B4 htl hS.1,iY B4 htl hS.2.1,iY B4 hwl hS.2.2.1,iY B4 hgl hS.2.2.2⟩) (fun _=>iF ?_);have HF:Hid (Below w.heap.size w w4):=(Below.refl _ w).drew.trans B4;clear hK K hS B4 t0 t1 c1 e4 HC;go_wp2_with fail
  go_ret;exact⟨rfl,HF.o⟩
theorem GY(n:Nm)(FN:EP 268435456 n)(h:Run w0 L fs M us w)(hlim:us.length+(X.f_ L.tf n 3 (match m_ fs n.1 with|some f'=>(f',-1,0)|none=>(-1,-1,4))).length≤1073741824) :
  bB 101 #[aH L.tb,.agg #[.string (ba n.1),ak n.2]] w (cK (.tuple #[]) fun w'=>Hid (Run w0 L fs M (us++X.f_ L.tf n 3 (match m_ fs n.1 with|some f'=>(f',-1,0)|none=>(-1,-1,4))) w'∧Kx L fs.length w0.heap.size w w')):=by
 have kA:Below w.heap.size w (w.alloc (.cells #[.string (ba n.1),ak n.2] 163)):=(aB _ w).alloc (ax _) _;have h1:=h.below kA;have hN:=aI w (.cells #[.string (ba n.1),ak n.2] 163);obtain⟨k1,k2⟩:=FN;have hlen:n.1.length≤maxLen:=by unfold maxLen;omega
 have HS:=aA h.st.lt;have hsz:=h.size;have lV:=aA kA;clear kA h;cases hm:m_ fs n.1 with
 | some f' =>
  rw[hm] at hlim;go_enter func101,ntmps101;go_wp2_with fail
  generalize w.alloc (.cells #[.string (ba n.1),ak n.2] 163)=W at *;have n0:=aj W _ 0 _ _ _ hN;have n1:=aj W _ 1 _ _ _ hN;have rC:=bN hN;obtain⟨nv,t0,-⟩:=h1.cells;obtain⟨c0,-⟩:=h1.VR;have h1d:=h1.below ((aB _ W).drew);obtain⟨kk,hmp⟩:=h1d.mods;have hrun:=hmp.oV hlen;rw[hm] at hrun;have hrun':(Instr.lookup 73 (.map (some L.mb)) (.string (ba n.1)) true).run prog W.drew=.ok (.tuple #[ak f',.bool true]) W.drew:=hrun;have HR:=aA h1;clear hmp hrun h1 h1d hN
  go_region_held3 (fun w'=>w'.cell? (aC L.tb 0)=some (aH L.wb)∧w'.cell? (aC w.heap.size 0)=some (.string (ba n.1))∧w'.cell? (aC L.wb 0)=some (.map (some L.mb))∧(Instr.lookup 73 (.map (some L.mb)) (.string (ba n.1)) true).run prog w'=.ok (.tuple #[ak f',.bool true]) w')
   (first|(with_reducible exact⟨t0,n0,c0,hrun'⟩)|go_keep)
   (fail)
  clear hrun';have HC:=aA (oJ n 3 f' (-1) 0 ((HR.o).below ((aB _ W).drew)) hlim);go_wp2_with fail
  refine(HC.o).aX fun w4 H4=>?_;have HF:Hid (Run w0 L fs M (us++X.f_ L.tf n 3 (f',-1,0)) w4∧Kx L fs.length w0.heap.size w w4):=⟨(H4.o).1,(Kx.aN (lV.o).drew).trans (H4.o).2⟩;clear HC H4 t0 n0 n1 c0;go_wp2_with fail
  go_end0;exact⟨rfl,HF⟩
 | none =>
  rw[hm] at hlim;go_enter func101,ntmps101;go_wp2_with fail
  generalize w.alloc (.cells #[.string (ba n.1),ak n.2] 163)=W at *;have n0:=aj W _ 0 _ _ _ hN;have n1:=aj W _ 1 _ _ _ hN;have rC:=bN hN;obtain⟨nv,t0,-⟩:=h1.cells;obtain⟨c0,-⟩:=h1.VR;have h1d:=h1.below ((aB _ W).drew);obtain⟨kk,hmp⟩:=h1d.mods;have hrun:=hmp.oV hlen;rw[hm] at hrun;have hrun':(Instr.lookup 73 (.map (some L.mb)) (.string (ba n.1)) true).run prog W.drew=.ok (.tuple #[ak 0,.bool false]) W.drew:=hrun;have HR:=aA h1;clear hmp hrun h1 h1d hN
  go_region_held3 (fun w'=>w'.cell? (aC L.tb 0)=some (aH L.wb)∧w'.cell? (aC w.heap.size 0)=some (.string (ba n.1))∧w'.cell? (aC L.wb 0)=some (.map (some L.mb))∧(Instr.lookup 73 (.map (some L.mb)) (.string (ba n.1)) true).run prog w'=.ok (.tuple #[ak 0,.bool false]) w')
   (first|(with_reducible exact⟨t0,n0,c0,hrun'⟩)|go_keep)
   (fail)
  clear hrun';go_wp2_with fail
  generalize hWd:W.drew=Wd at *;have hKW:Below w.heap.size w Wd:=by rw[← hWd];exact(lV.o).drew
  have HR2:Hid (Run w0 L fs M us Wd):=by rw[← hWd];exact(HR.o).below ((aB _ W).drew)
  have n0':Wd.cell? (aC w.heap.size 0)=some (.string (ba n.1)):=by rw[← hWd];exact n0
  have n1':Wd.cell? (aC w.heap.size 1)=some (ak n.2):=by rw[← hWd];exact n1
  have D8:w.heap.size<Wd.heap.size:=by rw[← hWd];exact rC
  clear hWd t0 n0 n1 c0;refine dB (S:=fun w'=>w'.cell? (aC w.heap.size 0)=some (.string (ba n.1))∧w'.cell? (aC w.heap.size 1)=some (ak n.2)) (z:=3) bC ?_;have hS:Wd.drew.cell? (aC w.heap.size 0)=some (.string (ba n.1))∧Wd.drew.cell? (aC w.heap.size 1)=some (ak n.2):=⟨n0',n1'⟩;iterate 2(refine ny hS ?_;simp only[Act.put,aD,aO,aP])
  refine fw 2 fun K hK=>?_;go_simp;refine(tF _).aX fun w3 B3=>?_;have HR3:=aA <| (HR2.o).below (((aB _ Wd).drew).trans B3);have qz:=aA <| hKW.trans ((((aB _ Wd).drew).trans B3).mono hKW.size);go_simp;refine hK.o _ _ (fun _=>⟨iY B3 D8 hS.1,iY B3 D8 hS.2⟩) (fun hS2=>?_);clear hS hK K;have hS:=hS2 aS;clear hS2;refine fw 3 fun K hK=>?_;go_simp;refine(oJ n 3 (-1) (-1) 4 HR3.o hlim).aX fun w4 H4=>?_;go_simp;refine hK.o _ _ (fun h=>absurd rfl h) (fun _=>iF ?_);clear hK K hS;have HF:Hid (Run w0 L fs M (us++X.f_ L.tf n 3 (-1,-1,4)) w4∧Kx L fs.length w0.heap.size w w4):=⟨(H4.o).1,(Kx.aN qz.o).trans (H4.o).2⟩;clear H4;go_wp2_with fail
  go_end0;exact⟨rfl,HF⟩
end
section
open X
variable{j n B lo hi m b:Nat}{w':aG}{ao:Option Addr}{ns:List Nm}{v:Value}{sc:List (List Nm)}
namespace X
theorem AJ(f:Nat)(r:List Nm):∀(l seen:List Nm),iL f seen (l++r)=iL f seen l++iL f (seen++l) r
 | [],seen=>by rw[bM,iL,bM,aL]
 | a::l,seen=>by
  rw[fM,iL,iL,AJ f r l,aK,aK];rfl
theorem qO(f:Nat)(n:Nm)(l seen:List Nm):iL f seen (l++[n])=iL f seen l++jd f n 1 (if (seen++l).any (fun m=>m.1==n.1) then 5 else 0):=by
 rw[AJ,iL,iL,aL]
theorem xu(f:Nat)(ns:List Nm)(j:Nat):(iL f [] (ns.take j)).length≤(iL f [] ns).length:=by
 have:=AJ f (ns.drop j) (ns.take j) [];rw[fD] at this;rw[this,ay];omega
theorem lg{α:Type}{l:List α}{n:α}(h:l[j]?=some n):l.take (j+1)=l.take j++[n]:=by
 rw[List.take_add_one,h];rfl
theorem AL(l:List Nm)(n:Nm)(x:ah):first (l++[n]) x=match first l x with|some i=>some i|none=>if n.1=x then some n.2 else none:=by
 unfold first;rw[List.find?_append];cases h:l.find? (fun m=>m.1==x) with
 | some m=>simp
 | none =>
  by_cases e:n.1=x
  ·simp[e]
  ·simp[e]
theorem uy(l:List Nm)(x:ah):l.any (fun m=>m.1==x)=(first l x).isSome:=by
 unfold first;rw[Option.isSome_map];exact gq.2 (by rw[o9,List.find?_isSome])
end X
structure Av(L:Lay)(n B lo hi:Nat):Prop where
 top:hi≤B
 av:∀ q,lo≤q→q<hi→¬ L.S n q
theorem Av.sx{L:Lay}(h:Av L n B lo hi)(w:aG):∀ q,lo≤q→q<hi→¬ L.Sx n B w q:=fun q h1 h2 hs=>by
 rcases hs with hs|hs
 ·exact h.av q h1 h2 hs
 ·have:=h.top;omega
theorem yC{w:aG}{ops:Array Oper}{o:Oper}{a:Act}{K:Act→World→Prop}{Q:Exit→Act→World→Prop}{E:Prop}(hg:o.guard=none)(m x v:Operand)(hop:o.op=Op.mapUpdate 73 m x v)(b n:Nat)(g:ah→Option Nat)
  (hm:a.eval m=.map (some b)) (h:Mp w b n g) (hn:n<maxLen) (k:ah) (hk:k.length≤maxLen) (i:Nat) (hi:i≤9223372036854775807) (hx:a.eval x=.string (ba k)) (hv:a.eval v=ak i)
  (hK:∀ w',Mp w' b (n+1) (upd g k i)→Kp (fun q=>q=b) w w'→K (a.put o.dst undef) w') :
  if Region.wanted o (yielded ops a.tmps)=true then Oper.wp prog o a w K Q else E:=by
 have hw:Region.wanted o (yielded ops a.tmps)=true:=by simp[Region.wanted,hg]
 rw[aU hw];obtain⟨w',hrun,r1,r2⟩:=h.zq hn hk hi;unfold Oper.wp;simp[execOp,hop,hm,hx,hv,hrun,Result.andThen];exact hK w' r1 r2
def Ot(w:aG)(lo hi:Nat)(ao:Option Addr)(ns:List Nm):Prop:=∀(j:Nat) (n:Nm),ns[j]?=some n→∃ g,ao=some ⟨g,0,none⟩∧lo≤g∧g<hi∧w.cell? (aC g (j*2))=some (.string (ba n.1))∧w.cell? (aC g (j*2+1))=some (ak n.2)
theorem Ot.keep{S:Nat→Prop}{w:aG}(h:Ot w lo hi ao ns)(hk:Kp S w w')(hS:∀ i,lo≤i→i<hi→¬ S i):Ot w' lo hi ao ns:=fun j n hj=>by
 obtain⟨g,e1,e2,e3,e4,e5⟩:=h j n hj;exact⟨g,e1,e2,e3,hk.dD e4 (hS g e2 e3),hk.dD e5 (hS g e2 e3)⟩
inductive Out(w:aG)(m:Nat):Value→Prop
 | nil:Out w m (.pointer none)
 | cons (b m':Nat) (v:Value) (hb:b≠m) (hm:m'≠m) (h:w.heap[b]?=some (.cells #[.map (some m'),v] 299 (0,0))) (ho:Out w m v):Out w m (aH b)
theorem jN.lt{B:Nat}{w:aG}{v:Value}{sc:List (List Nm)}{m:Nat}(h:jN w B v sc)(hm:w.heap.size≤m):Out w m v:=by
 induction h with
 | nil=>exact .nil
 | cons b m' k ns v sc hB hm' h hp ho ih=>exact .cons b m' v (by have:=bN h;omega) (by have:=hp.lt;omega) h ih
theorem Out.keep{L:Lay}{w:aG}(h:Out w m v)(hk:Kx L n B w w')(hS:∀ q,L.S n q→q<B)(hbk:jN w B v sc):Out w' m v:=by
 induction h generalizing sc with
 | nil=>exact .nil
 | cons b m' v hb hm h ho ih =>
  cases hbk with
  | cons _ m2 k ns v2 sc hB hm' h' hp ho' =>
   rw[h] at h';cases h'
   exact .cons b m' v hb hm (hk.made hS h hB (fun cs d e=>by cases e)) (ih ho')
theorem ZC(n:Int)(w:aG):(Instr.makeMap 73 (some (ak n))).run prog w=.ok (.map (some w.heap.size)) (w.alloc (.map #[] 0)):=by
 simp[Instr.makeMap,run_underlying underlying73,asInt,go_sem]
structure InP(w:aG)(w0:aG)(L:Lay)(fs:List Fl)(M:Mem)(us:List X.U)(lo hi:Nat)(ao:Option Addr)(ns:List Nm)(bv:Value)(sc:List (List Nm))(b m j:Nat)(wr:aG):Prop where
 run:Run w0 L fs M (us++iL L.tf [] (ns.take j)) wr
 kx:Kx L fs.length w0.heap.size w wr
 par:Ot wr lo hi ao ns
 bl:wr.heap[b]?=some (.cells #[.map (some m),bv] 299 (0,0))
 mp:Mp wr m j (X.first (ns.take j))
 bk:jN wr w0.heap.size bv sc
 ot:Out wr m bv
variable{w0:aG}{L:Lay}{fs:List Fl}{M:Mem}{us:List X.U}{w:aG}
theorem Mp.kx{w:aG}{k:Nat}{g:ah→Option Nat}(h:Mp w b k g)(hk:Kx L n B w w')(hS:∀ q,L.S n q→q<B)(hB:B≤b):Mp w' b k g:=by
 obtain⟨es,clock,hb⟩:=h.obj;exact h.keep hk (fun hs=>by
  rcases hs with hs|⟨-,cs,d,hu⟩
  ·have:=hS b hs;omega
  ·rw[hb] at hu;cases hu)
theorem Run.map(h:Run w0 L fs M us w){w':aG}{m:Nat}(hk:Kp (fun q=>q=m) w w')(hm:w0.heap.size≤m)(ho:∃ es clock,w.heap[m]?=some (.map es clock)):Run w0 L fs M us w':=by
 obtain⟨es,clock,hob⟩:=ho;refine⟨h.st,h.kp.trans hk (fun i hi e=>au),?_,fun i hi=>?_,h.lim⟩
 ·obtain⟨nv,h1,h2⟩:=h.tl
  refine⟨nv,hk.heap h1 (fun e=>by have:=h.st.wl;omega),hk.owns h2 (fun q hq e=>?_)⟩;rcases h2.2 with ⟨rfl,-⟩|⟨g',cap',cur,rfl,hge,hgg,-⟩
  ·cases hq
  ·cases hq
   have e':g'=m:=e;rw[e',hob] at hgg;cases hgg
 ·obtain⟨arr,x1,x2⟩:=h.fd i hi
  exact⟨arr,hk.heap x1 (fun e=>by have:=(h.st.gl i hi).1;omega),x2⟩
theorem Out.map{w:aG}(h:Out w m v)(hk:Kp (fun q=>q=m) w w'):Out w' m v:=by
 induction h with
 | nil=>exact .nil
 | cons b m' v hb hm h ho ih=>exact .cons b m' v hb hm (hk.heap h hb) ih
theorem jN.map{w:aG}(hk:Kp (fun q=>q=m) w w')(h:jN w B v sc)(ho:Out w m v):jN w' B v sc:=by
 induction h with
 | nil=>exact .nil
 | cons b m' k ns v sc hB hm' h hp ho' ih =>
  cases ho with
  | cons _ m2 v2 hb hm h' hoo =>
   rw[h] at h';cases h'
   exact .cons b m' k ns v sc hB hm' (hk.heap h hb) (hp.keep hk hm) (ih hoo)
theorem InP.step{bv:Value}{wr w2:aG}(h:InP w w0 L fs M us lo hi ao ns bv sc b m j wr)(hv:Av L fs.length w0.heap.size lo hi)(h2:w0.heap.size≤b)(h3:w0.heap.size≤m){YX:List X.U}(hr:Run w0 L fs M YX w2)(hk:Kx L fs.length w0.heap.size wr w2) :
  Kx L fs.length w0.heap.size w w2∧Ot w2 lo hi ao ns∧w2.heap[b]?=some (.cells #[.map (some m),bv] 299 (0,0))∧Mp w2 m j (X.first (ns.take j))∧jN w2 w0.heap.size bv sc∧Out w2 m bv:=by
 have hS:=hr.st.lt;exact⟨h.kx.trans hk,h.par.keep hk (hv.sx wr),hk.made hS h.bl h2 (fun cs d e=>by cases e),h.mp.kx hk hS h3,h.bk.keep hk hS,h.ot.keep hk hS h.bk⟩
theorem yD(lo hi pb:Nat)(ns:List Nm)(bv:Value)(sc:List (List Nm))(hv:Av L fs.length w0.heap.size lo hi)(hp:mY w lo hi pb ns)(FN:∀ n∈ns,EP 268435456 n)(h:Run w0 L fs M us w)(hbk:jN w w0.heap.size bv sc)(hlim:us.length+(iL L.tf [] ns).length≤1073741824) :
  bB 127 #[aH L.tb,aH pb,bv] w fun e w'=>∃ b,e=.returned (aH b)∧Hid (Run w0 L fs M (us++iL L.tf [] ns) w'∧Kx L fs.length w0.heap.size w w'∧jN w' w0.heap.size (aH b) (ns::sc)):=by
 have hmm:=ZC;have h0:=h.size;have hbv:∃ pa,bv=.pointer pa:=by cases hbk<;>exact⟨_,rfl⟩
 obtain⟨pa,rfl⟩:=hbv;have kA:Below w.heap.size w ((w.alloc (.map #[] 0)).alloc (.cells #[.map (some w.heap.size),.pointer pa] 299)):=((aB _ w).alloc (ax _) _).alloc aT _;obtain⟨ao,cap,hpb,hc1,hc2,hcs⟩:=hp.ex;have hcs':Ot w lo hi ao ns:=fun j n hj=>by obtain⟨g,u1,u2,u3,u4,u5,-⟩:=hcs j n hj;exact⟨g,u1,u2,u3,u4,u5⟩
 have HI0:Hid (InP w w0 L fs M us lo hi ao ns (.pointer pa) sc (w.heap.size+1) w.heap.size 0 ((w.alloc (.map #[] 0)).alloc (.cells #[.map (some w.heap.size),.pointer pa] 299))):=by
  refine⟨?_,Kx.aN kA,hcs'.keep (Kp.aN kA (fun _=>False)) (fun _ _ _=>id),?_,?_,hbk.UK kA,(hbk.lt au).keep (Kx.aN (L:=L) (n:=fs.length) (B:=w0.heap.size) kA) h.st.lt hbk⟩
  ·rw[jr,iL,aL];exact h.below kA
  ·have:=aI (w.alloc (.map #[] 0)) (.cells #[.map (some w.heap.size),.pointer pa] 299)
   simpa using this
  ·have:=(Mp.made w).below ((aB _ _).alloc (ax _) (.cells #[.map (some w.heap.size),.pointer pa] 299))
   exact Mp.congr (g:=fun _=>none) this (fun _=>rfl)
 have hpl:=bN hpb;have p00:=aj w _ 0 _ _ _ hpb;have p0:=iY kA hpl p00;have hcap:ns.length≤9223372036854775807:=by unfold maxLen at hc2;omega
 have HV:=aA hv;have HB:=aA FN;clear kA hpb hcs hcs' hp h hbk hv FN;go_enter func127,ntmps127;go_wp2_with fail
 generalize (w.alloc (.map #[] 0)).alloc (.cells #[.map (some w.heap.size),.pointer pa] 299)=W at *;go_loopw [29] (fun v wr=>∃ j:Nat,v=ak j∧j≤ns.length∧Hid (InP w w0 L fs M us lo hi ao ns (.pointer pa) sc (w.heap.size+1) w.heap.size j wr)) (fun v _=>ns.length - (intOf v).toNat)
 case atStart=>exact⟨0,rfl,bJ _,HI0⟩
 case round =>
  obtain⟨j,rfl,hj,HI⟩:=hrel;clear HI0;by_cases hjl:j<ns.length
  ·obtain⟨n,hn⟩:∃ n,ns[j]?=some n:=⟨ns[j],aF hjl⟩
   obtain⟨g,e1,e2,e3,e4,e5⟩:=(HI.o).par j n hn;subst e1;obtain⟨nB1,nB2⟩:=(HB.o) n (dF hn);have hlen:n.1.length≤maxLen:=by unfold maxLen;omega
   have hi1:(j:Int)<(ns.length:Int):=au
   have kW:Below wr.heap.size wr (wr.alloc (.cells #[.string (ba n.1),ak n.2] 163)):=(aB _ wr).alloc (ax _) _;have Dh:=aA kW;have R1:=(HI.o).run.below kW;have aR8:=(HI.o).run.size;have hwr2:=bN (HI.o).bl;have b0:=iY kW au (aj wr _ 0 _ _ _ (HI.o).bl);have hN0:=aA (aI wr (.cells #[.string (ba n.1),ak n.2] 163));have n0:=aj _ _ 0 _ _ _ hN0.o;have n1:=aj _ _ 1 _ _ _ hN0.o;have hrun:=((HI.o).mp.below (kW.drew)).oV hlen;clear kW;cases hfn:X.first (ns.take j) n.1 with
   | some i =>
    rw[hfn] at hrun;have hrun':(Instr.lookup 73 (.map (some w.heap.size)) (.string (ba n.1)) true).run prog (wr.alloc (.cells #[.string (ba n.1),ak n.2] 163)).drew=.ok (.tuple #[ak (i:Nat),.bool true]) (wr.alloc (.cells #[.string (ba n.1),ak n.2] 163)).drew:=hrun;have hany:(if ([]++ns.take j).any (fun m=>m.1==n.1) then 5 else 0)=5:=by rw[bM,X.uy,hfn];rfl
    have HU:Hid (us++iL L.tf [] (ns.take (j+1))=(us++iL L.tf [] (ns.take j))++jd L.tf n 1 5):=by
     rw[lg hn,qO,hany,aK];exact aA rfl
    have hl2:(us++iL L.tf [] (ns.take j)).length+(jd L.tf n 1 5).length≤1073741824:=by
     have e1:=congrArg List.length HU.o;have e2:=xu L.tf ns (j+1);rw[ay,ay] at e1;omega
    have HC:=aA (vY n 1 5 (R1.below ((aB _ _).drew)) hl2);clear hrun R1 hl2 hany;go_wp2_with fail
    generalize hW1:wr.alloc (.cells #[.string (ba n.1),ak n.2] 163)=W1 at *
    go_region_held3 (fun w'=>w'.cell? (aC (w.heap.size+1) 0)=some (.map (some w.heap.size))∧w'.cell? (aC wr.heap.size 0)=some (.string (ba n.1))∧(Instr.lookup 73 (.map (some w.heap.size)) (.string (ba n.1)) true).run prog w'=.ok (.tuple #[ak (i:Nat),.bool true]) w')
     (first|(with_reducible exact⟨b0,n0,hrun'⟩)|go_keep)
     (fail)
    clear hrun';have n0d:W1.drew.cell? (aC wr.heap.size 0)=some (.string (ba n.1)):=n0;have n1d:W1.drew.cell? (aC wr.heap.size 1)=some (ak n.2):=n1;go_wp2_with fail
    refine(HC.o).aX fun w2 H2=>?_;have hk2:=(Kx.aN ((Dh.o).drew)).trans (H2.o).2;obtain⟨y1,y2,y4,y5,y6,y7⟩:=(HI.o).step HV.o au au (H2.o).1 hk2;have Ou:=(H2.o).2.made (H2.o).1.st.lt hN0.o aR8 (fun cs d e=>by cases e);clear HC n0d n1d n0 n1 b0 Dh;have HI2:Hid (InP w w0 L fs M us lo hi (b_ g) ns (.pointer pa) sc (w.heap.size+1) w.heap.size (j+1) w2):=by
     refine⟨by rw[HU.o];exact(H2.o).1,y1,y2,y4,?_,y6,y7⟩;obtain⟨D,o1,o2⟩:=y5;refine Mp.congr (g:=X.first (ns.take j)) ⟨D,o1.mono au,o2⟩ (fun x=>?_);rw[lg hn,AL];cases hx:X.first (ns.take j) x with
     | some i=>rfl
     | none =>
      by_cases e:n.1=x
      ·rw[e,hx] at hfn;cases hfn
      ·simp[e]
    clear y1 y2 y4 y5 y6 y7 Ou hk2 H2 HI;go_wp2_with fail
    exact⟨⟨j+1,aT,au,HI2⟩,by simp[intOf];omega⟩
   | none =>
    rw[hfn] at hrun;have hrun':(Instr.lookup 73 (.map (some w.heap.size)) (.string (ba n.1)) true).run prog (wr.alloc (.cells #[.string (ba n.1),ak n.2] 163)).drew=.ok (.tuple #[ak 0,.bool false]) (wr.alloc (.cells #[.string (ba n.1),ak n.2] 163)).drew:=hrun;have hany:(if ([]++ns.take j).any (fun m=>m.1==n.1) then 5 else 0)=0:=by rw[bM,X.uy,hfn];rfl
    have HU:Hid (us++iL L.tf [] (ns.take (j+1))=(us++iL L.tf [] (ns.take j))++jd L.tf n 1 0):=by
     rw[lg hn,qO,hany,aK];exact aA rfl
    have hl2:(us++iL L.tf [] (ns.take j)).length+(jd L.tf n 1 0).length≤1073741824:=by
     have e1:=congrArg List.length HU.o;have e2:=xu L.tf ns (j+1);rw[ay,ay] at e1;omega
    have HC:=aA (vY n 1 0 (R1.below ((aB _ _).drew)) hl2);clear hrun R1 hl2 hany;go_wp2_with fail
    generalize hW1:wr.alloc (.cells #[.string (ba n.1),ak n.2] 163)=W1 at *
    go_region_held3 (fun w'=>w'.cell? (aC (w.heap.size+1) 0)=some (.map (some w.heap.size))∧w'.cell? (aC wr.heap.size 0)=some (.string (ba n.1))∧(Instr.lookup 73 (.map (some w.heap.size)) (.string (ba n.1)) true).run prog w'=.ok (.tuple #[ak 0,.bool false]) w')
     (first|(with_reducible exact⟨b0,n0,hrun'⟩)|go_keep)
     (fail)
    clear hrun';have n0d:W1.drew.cell? (aC wr.heap.size 0)=some (.string (ba n.1)):=n0;have n1d:W1.drew.cell? (aC wr.heap.size 1)=some (ak n.2):=n1;go_wp2_with fail
    refine(HC.o).aX fun w2 H2=>?_;have hk2:=(Kx.aN ((Dh.o).drew)).trans (H2.o).2;obtain⟨y1,y2,y4,y5,y6,y7⟩:=(HI.o).step HV.o au au (H2.o).1 hk2;have Ou:=(H2.o).2.made (H2.o).1.st.lt hN0.o aR8 (fun cs d e=>by cases e);clear HC n0d n1d n0 n1 b0 Dh;have b0':=aj w2 _ 0 _ _ _ y4;have q0:=aj w2 _ 0 _ _ _ Ou;have q1:=aj w2 _ 1 _ _ _ Ou;have cO0:=bN y4;have cO1:=bN Ou;have HR2:=aA (H2.o).1;have Y1:=aA y1;have Y2:=aA y2;have Y4:=aA y4;have Y5:=aA y5;have Y6:=aA y6;have Y7:=aA y7;clear y1 y2 y4 y5 y6 y7 Ou hk2 H2 HI;go_wp2_with fail
    have hne1:¬(w.heap.size+1=w.heap.size):=au
    have XE:=aA <| (Y5.o).below ((aB _ w2).drew);have hjm:j<maxLen:=by unfold maxLen;omega
    have hn2:n.2≤9223372036854775807:=au
    have hne2:¬(wr.heap.size=w.heap.size):=by have:=hwr2;omega
    refine dB (S:=fun w'=>w'.cell? (aC (w.heap.size+1) 0)=some (.map (some w.heap.size))∧w'.cell? (aC wr.heap.size 0)=some (.string (ba n.1))∧w'.cell? (aC wr.heap.size 1)=some (ak n.2)) (z:=8) bC ?_;have hS:w2.drew.cell? (aC (w.heap.size+1) 0)=some (.map (some w.heap.size))∧w2.drew.cell? (aC wr.heap.size 0)=some (.string (ba n.1))∧w2.drew.cell? (aC wr.heap.size 1)=some (ak n.2):=⟨b0',q0,q1⟩;iterate 8(refine ny hS ?_;simp only[Act.put,aD,aO,aP])
    refine fw 8 fun K hK=>?_;refine yC (by rfl) _ _ _ (by rfl) w.heap.size j (X.first (ns.take j)) (by rfl) XE.o hjm n.1 hlen n.2 hn2 (by rfl) (by rfl) ?_;intro w5 aR9 hk5;refine hK.o _ _ (fun h=>absurd rfl h) (fun _=>iF ?_);clear hK K hS;have HI2:Hid (InP w w0 L fs M us lo hi (b_ g) ns (.pointer pa) sc (w.heap.size+1) w.heap.size (j+1) w5):=by
     have bK4:w0.heap.size≤w.heap.size:=au
     have Ov:=((Kp.refl _ w2).drew).trans hk5 (fun _ _ e=>e);have hav:∀ i,lo≤i→i<hi→¬(i=w.heap.size):=fun i _ hi' e=>by have:=(HV.o).top;omega
     have hr5:Run w0 L fs M (us++iL L.tf [] (ns.take (j+1))) w5:=by
      rw[HU.o];exact(HR2.o).map Ov bK4 (Y5.o).obj
     have VT:Kx L fs.length w0.heap.size w w5:=Kp.trans Y1.o Ov (fun i hi' e=>au);refine⟨hr5,VT,(Y2.o).keep Ov hav,Ov.heap Y4.o au,?_,(Y6.o).map Ov Y7.o,(Y7.o).map Ov⟩;refine aR9.congr (fun x=>?_);rw[lg hn,AL];unfold upd;by_cases e:x=n.1
     ·subst e
      rw[aU rfl,hfn];simp
     ·rw[aM e]
      cases hx:X.first (ns.take j) x with
      | some i=>rfl
      | none=>simp[Ne.symm e]
    clear aR9 hk5 b0' q0 q1 Y1 Y2 Y4 Y5 Y6 Y7 HR2;go_wp2_with fail
    exact⟨⟨j+1,aT,au,HI2⟩,by simp[intOf];omega⟩
  ·obtain rfl:j=ns.length:=by omega
   have hd1:¬(ns.length:Int)<(ns.length:Int):=au
   have HF:Hid (Run w0 L fs M (us++iL L.tf [] ns) wr∧Kx L fs.length w0.heap.size w wr∧jN wr w0.heap.size (aH (w.heap.size+1)) (ns::sc)):=by
    have hin:=HI.o;have e1:=hin.run;have e2:=hin.mp;rw[fC] at e1 e2;exact⟨e1,hin.kx,.cons _ _ _ ns _ sc au au hin.bl e2 hin.bk⟩
   clear HI;go_wp2_with fail
   go_ret;exact⟨_,rfl,HF⟩
end
structure AF where
 n:ByteArray
 t:ByteArray
def sw(w:aG)(B:Nat)(ao:Option Addr)(l:List AF):Prop:=∀(j:Nat) (a:AF),l[j]?=some a→∃ b o,ao=some ⟨b,o,none⟩∧b<B∧w.cell? (aC b (o+j*2))=some (.string a.n)∧w.cell? (aC b (o+j*2+1))=some (.string a.t)
theorem sw.below{w w':aG}{B:Nat}{ao:Option Addr}{l:List AF}(h:sw w B ao l)(hk:Below B w w'):sw w' B ao l:=fun j a hj=>by
 obtain⟨b,o,e1,e2,e3,e4⟩:=h j a hj;exact⟨b,o,e1,e2,(hk.cell (p:=⟨b,o+j*2,none⟩) e2).trans e3,(hk.cell (p:=⟨b,o+j*2+1,none⟩) e2).trans e4⟩
def pR(s:ByteArray):Bool:=decide (s.size≤40)&&lH (bs s) 3
def Ac:List AF→List (ah)→Nat
 | [],_=>0
 | a::l,seen=>if pR a.n then(if bs a.n∈seen then 5 else Ac l (seen++[bs a.n])) else 4
def pW(l:List AF):Nat:=if 16<l.length then 12 else if l.any (fun a=>decide (20000<a.t.size)) then 12 else Ac l []
def aT5(r:Nat):Value:=if r=0 then .nilIface else .iface 49 (ak r)
theorem MF(s:ByteArray)(w:aG)(hT:nE w)(b:Bool)(hb:pR s=b):bB 23 #[.string s] w (cK (.bool b) fun w'=>Below w.heap.size w w'):=by
 subst hb;by_cases h:s.size≤40
 ·exact G_ s w hT au
 ·have i1:decide ((s.size:Int)≤40)=false:=by simp;omega
  unfold pR;rw[decide_eq_false h,Bool.false_and];go_enter func23,ntmps23;go_wp2_with fail
  go_ret;exact⟨rfl,aB _ _⟩
def mR(l:List AF)(x:ah):Option Nat:=l.findIdx? (fun a=>bs a.n==x)
theorem Dk{l:List AF}{j:Nat}{a:AF}(h:l[j]?=some a)(x:ah):mR (l.take (j+1)) x=match mR (l.take j) x with|some i=>some i|none=>if bs a.n=x then some j else none:=by
 have hj:j<l.length:=by
  rcases cu j l.length with g|g
  ·exact g
  ·rw[bf g] at h;cases h
 unfold mR;rw[X.lg h,List.findIdx?_append];cases hf:(l.take j).findIdx? (fun a=>bs a.n==x) with
 | some i=>simp
 | none =>
  by_cases e:bs a.n=x
  ·simp[wW,e]
   omega
  ·have e2:(bs a.n==x)=false:=by simpa using e
   simp[wW,e2,e]
theorem qN(l:List AF)(x:ah):(mR l x).isSome=true↔x∈l.map (fun a=>bs a.n):=by
 unfold mR;rw[List.findIdx?_isSome,o9,fU];constructor
 ·rintro⟨a,h1,h2⟩;exact⟨a,h1,by simpa using h2⟩
 ·rintro⟨a,h1,h2⟩;exact⟨a,h1,by simpa using h2⟩
def sU(l:List AF)(j r:Nat):Prop:=Ac (l.drop j) ((l.take j).map (fun a=>bs a.n))=r
theorem sU.next{l:List AF}{j r:Nat}{a:AF}(h:sU l j r)(ha:l[j]?=some a):(pR a.n=false∧r=4)∨(pR a.n=true∧((∃ i,mR (l.take j) (bs a.n)=some i)∧r=5∨(mR (l.take j) (bs a.n)=none∧sU l (j+1) r))):=by
 unfold sU at h ⊢;have hd:l.drop j=a::l.drop (j+1):=by
  have hj:j<l.length:=by
   rcases cu j l.length with g|g
   ·exact g
   ·rw[bf g] at ha;cases ha
  rw[dS hj];rw[aF hj] at ha;rw[bQ ha]
 rw[hd,Ac] at h;cases hn:pR a.n with
 | false=>rw[hn] at h;left;exact⟨rfl,by simpa using h.symm⟩
 | true =>
  rw[hn,aU rfl] at h
  right
  refine⟨rfl,?_⟩;cases hi:mR (l.take j) (bs a.n) with
  | some i =>
   left
   have:bs a.n∈(l.take j).map (fun a=>bs a.n):=(qN _ _).1 (by rw[hi];rfl);rw[aU this] at h;exact⟨⟨i,rfl⟩,h.symm⟩
  | none =>
   right
   have:¬ bs a.n∈(l.take j).map (fun a=>bs a.n):=fun hm=>by
    have:=(qN _ _).2 hm;rw[hi] at this;cases this
   rw[aM this] at h;refine⟨rfl,?_⟩;rw[X.lg ha,nN];exact h
theorem Dl(ao:Option Addr)(cap:Nat)(l:List AF)(w:aG)(hT:nE w)(h:sw w w.heap.size ao l)(hl:l.length≤cap)(hc:cap≤maxLen) :
  bB 10 #[.slice ao l.length cap] w (cK (aT5 (pW l)) fun w'=>Below w.heap.size w w'):=by
 have hmm:∀(t:TypeId) (w:aG),(Instr.makeMap t none).run prog w=.ok (.map (some w.heap.size)) (w.alloc (.map #[] 0)):=fun _ _=>rfl
 have HL:=aA h;have HT:=aA hT;have hcap:l.length≤9223372036854775807:=by unfold maxLen at hc;omega
 by_cases h16:16<l.length
 ·have e1:pW l=12:=aU h16
  rw[e1];have d1:((l.length:Int)>16):=au
  have d2:(16:Int)<(l.length:Int):=au
  clear h hT;go_enter func10,ntmps10;go_wp2_with fail
  go_ret;exact⟨rfl,aB _ w⟩
 ·have d1:¬(16:Int)<(l.length:Int):=by omega
  generalize hR:pW l=r;have HR:Hid ((if l.any (fun a=>decide (20000<a.t.size)) then 12 else Ac l [])=r):=by
   rw[← hR];exact(aM h16).symm
  clear h hT hR;go_enter func10,ntmps10;go_wp2_with fail
  go_loopw [16] (fun v wr=>∃ j:Nat,v=ak j∧j≤l.length∧Hid ((l.take j).any (fun a=>decide (20000<a.t.size))=false)∧Hid (Below w.heap.size w wr)) (fun v _=>l.length - (intOf v).toNat)
  case atStart=>exact⟨0,rfl,bJ _,aA rfl,aB _ w⟩
  case round =>
   obtain⟨j,rfl,hj,HA,HB⟩:=hrel;by_cases hjl:j<l.length
   ·obtain⟨a,ha⟩:∃ a,l[j]?=some a:=⟨l[j],aF hjl⟩
    obtain⟨b,o,e1,e2,e3,e4⟩:=(HL.o).below HB.o j a ha;subst e1;have hi1:(j:Int)<(l.length:Int):=au
    have hbl:=aJ e2 (HB.o).size;by_cases hq:20000<a.t.size
    ·have hq2:(20000:Int)<(a.t.size:Int):=by omega
     have HF:Hid (r=12):=by
      rw[← HR.o];have:l.any (fun a=>decide (20000<a.t.size))=true:=o9.2 ⟨a,dF ha,by simpa using hq⟩;rw[this];exact aA rfl
     have HB2:Hid (Below w.heap.size w (wr.alloc (.cells #[.string a.n,.string a.t] 46))):=(HB.o).alloc (HB.o).size _;clear HA HB HR;go_wp2_with fail
     go_ret;exact⟨by rw[HF.o];rfl,HB2.o⟩
    ·have hq2:¬(20000:Int)<(a.t.size:Int):=by omega
     have HA2:Hid ((l.take (j+1)).any (fun a=>decide (20000<a.t.size))=false):=by
      rw[X.lg ha,List.any_append,HA.o];exact aA (by simpa using hq)
     have HB2:Hid (Below w.heap.size w (wr.alloc (.cells #[.string a.n,.string a.t] 46))):=(HB.o).alloc (HB.o).size _;clear HA HB;go_wp2_with fail
     exact⟨⟨j+1,aT,au,HA2,HB2⟩,by simp[intOf];omega⟩
   ·obtain rfl:j=l.length:=by omega
    have hd1:¬(l.length:Int)<(l.length:Int):=au
    have HR2:Hid (sU l 0 r):=by
     have h1:=HA.o;rw[fC] at h1;have h2:=HR.o;rw[h1] at h2;exact h2
    clear HA HR;go_wp2_with fail
    have HI0:Hid (Below w.heap.size w (wr.alloc (.map #[] 0))∧Mp (wr.alloc (.map #[] 0)) wr.heap.size 0 (mR (l.take 0))):=⟨(HB.o).alloc (HB.o).size _,(Mp.made wr).congr (fun x=>by rw[jr];rfl)⟩;have hwm:=(HB.o).size;clear HB hmm;generalize wr.heap.size=m at *;generalize wr.alloc (.map #[] 0)=W0 at *;go_loopw [29] (fun v wr2=>∃ j:Nat,v=ak j∧j≤l.length∧Hid (sU l j r)∧Hid (Below w.heap.size w wr2∧Mp wr2 m j (mR (l.take j)))) (fun v _=>l.length - (intOf v).toNat)
    case atStart=>exact⟨0,rfl,bJ _,HR2,HI0⟩
    case round =>
     obtain⟨j,rfl,hj,HR3,HI⟩:=hrel;clear HI0 HR2;by_cases hjl:j<l.length
     ·obtain⟨a,ha⟩:∃ a,l[j]?=some a:=⟨l[j],aF hjl⟩
      obtain⟨b,o,e1,e2,e3,e4⟩:=(HL.o).below (HI.o).1 j a ha;subst e1;have hi1:(j:Int)<(l.length:Int):=au
      have hcs:=(HR3.o).next ha;have kF:Below w.heap.size w (wr.alloc (.cells #[.string a.n,.string a.t] 46)):=(HI.o).1.alloc (HI.o).1.size _;have YB:=(HT.o).below kF;have KE:=aI wr (.cells #[.string a.n,.string a.t] 46);have cQ4:(wr.alloc (.cells #[.string a.n,.string a.t] 46)).heap.size=wr.heap.size+1:=aT
      have n0:=aj _ _ 0 _ _ _ KE;have aT6:=(HI.o).2.below ((aB _ wr).alloc (ax _) (.cells #[.string a.n,.string a.t] 46));have yQ:=aA kF;have YQ:=aA aT6;have sH:=aA KE;clear kF aT6 HI KE;rcases hcs with ⟨hn,hr⟩|⟨hn,hcs⟩
      ·have HC:=aA (MF a.n _ YB false hn)
       have HRr:=aA hr;clear YB hn hr YQ;go_wp2_with fail
       refine(HC.o).aX fun w3 B3=>?_;have HF:=aA <| (yQ.o).trans (B3.mono (yQ.o).size);clear B3 HC n0;go_wp2_with fail
       go_ret;exact⟨by rw[HRr.o];rfl,HF.o⟩
      ·have HC:=aA (MF a.n _ YB true hn)
       have hlen:(bs a.n).length≤maxLen:=by
        unfold pR at hn;rw[eY];unfold maxLen;have:a.n.size≤40:=by simp at hn;exact hn.1
        omega
       have HCS:=aA hcs;clear YB hn hcs;go_wp2_with fail
       refine(HC.o).aX fun w3 B3=>?_;have hm3:=(YQ.o).below B3;have hrun:=hm3.oV hlen;rw[uN] at hrun;have n03:=iY B3 au n0;have qz:=aA <| (yQ.o).trans (B3.mono (yQ.o).size);have w_:=aA hm3;clear HC B3 hm3 YQ yQ sH n0;rcases HCS.o with ⟨⟨i,hi⟩,hr⟩|⟨hi,hr⟩
       ·rw[hi] at hrun
        have hrun':(Instr.lookup 73 (.map (some m)) (.string a.n) true).run prog w3=.ok (.tuple #[ak (i:Nat),.bool true]) w3:=hrun;have HRr:=aA hr;clear hrun hi hr HCS w_;go_wp2_with fail
        go_ret;exact⟨by rw[HRr.o];rfl,(qz.o)⟩
       ·rw[hi] at hrun
        have hrun':(Instr.lookup 73 (.map (some m)) (.string a.n) true).run prog w3=.ok (.tuple #[ak 0,.bool false]) w3:=hrun;have HRr:=aA hr;have HI3:=aA hi;have hjm:j<maxLen:=by unfold maxLen;omega
        obtain⟨w4,hp1,hp2,hp3⟩:=(w_.o).zq hjm hlen (i:=j) au;rw[uN] at hp1;have HI4:Hid (Below w.heap.size w w4∧Mp w4 m (j+1) (mR (l.take (j+1)))):=by
         refine⟨(qz.o).trans (hp3.below (qz.o).size (fun q e=>au)),hp2.congr (fun x=>?_)⟩;rw[Dk ha];unfold upd;by_cases e:x=bs a.n
         ·subst e
          rw[aU rfl,HI3.o];show _=if _ then _ else _
          rw[aU rfl]
         ·rw[aM e]
          cases hx:mR (l.take j) x with
          | some i=>rfl
          | none =>
           show _=if _ then _ else _
           rw[aM (fun e2=>e e2.symm)]
        clear hrun hi hr HCS w_ hp2 hp3 qz;go_wp2_with fail
        exact⟨⟨j+1,aT,au,HRr,HI4⟩,by simp[intOf];omega⟩
     ·obtain rfl:j=l.length:=by omega
      have hd2:¬(l.length:Int)<(l.length:Int):=au
      have HF:Hid (r=0∧Below w.heap.size w wr):=by
       have h1:=HR3.o;unfold sU at h1;rw[List.drop_length,Ac] at h1;exact⟨h1.symm,(HI.o).1⟩
      clear HI HR3;go_wp2_with fail
      go_ret;exact⟨by rw[(HF.o).1];rfl,(HF.o).2⟩
end Go.Proofs.YtoohcklcppnafaaGreatDoor
