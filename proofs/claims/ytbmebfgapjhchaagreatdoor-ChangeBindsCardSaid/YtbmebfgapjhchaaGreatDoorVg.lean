/- Package syntax: the kids of a node,a name. -/
import Derived.Test.YtbmebfgapjhchaaGreatDoorVc2
namespace Go.Proofs.YtbmebfgapjhchaaGreatDoor
open Go.RowKit
open M
theorem fld_kids (a b:Int) (c:ByteArray) (a4:Option Addr) (a5 a6:Nat) (w:World):(Instr.field 120 (.agg #[.int .i64 a,.int .i64 b,.string c,.slice a4 a5 a6]) 3).run Tryz.prog w=.ok (.slice a4 a5 a6) w:=by kernel_rfl
set_option maxRecDepth 100000 in
set_option maxHeartbeats 2000000 in
theorem wenter_any (D:Nat→Prop) (rb ab:Nat) (p:X.Part) (ps:List X.Part) (i:Nat) (w:World) (h:IsRw w D rb ab (p::ps) i) (hi:i+X.nln p≤1073741824) (hDl:∀ q,D q→q<w.heap.size) :
  Calls Tryz.prog 70 #[.pointer (some ⟨rb,0,none⟩)] w fun e w'=>∃ a4 a5 a6,e=.returned (.agg #[.pointer (some ⟨ab,0,none⟩),.slice a4 a5 a6])∧Hid (NdS w' D (.slice a4 a5 a6) (X.kids p)∧IsRw w' D rb ab ps (i+X.nln p)∧Kq D rb ab w w'):=by
 obtain ⟨hr,ha⟩:=h.lt
 have hsep:=h.sep
 have kA:Below w.heap.size w (w.alloc (.cells #[.pointer none,.slice none 0 0] 123)):=(Below.refl _ w).alloc (Nat.le_refl _) _
 have HZ:Hid ((w.alloc (.cells #[.pointer none,.slice none 0 0] 123)).heap[w.heap.size]?=some (.cells #[.pointer none,.slice none 0 0] 123 (0,0))):=heap_alloc_new w _
 have hR1:=h.below kA
 have HR1:=hide hR1
 obtain ⟨v,hb,-⟩:=hR1.blk
 have c0:=cell_of_row _ _ 0 _ _ _ hb
 have HKA:=hide kA
 have hsz:(w.alloc (.cells #[.pointer none,.slice none 0 0] 123)).heap.size=w.heap.size+1:=by simp
 clear h kA hR1 hb
 go_enter Tryz.func70,Tryz.ntmps70
 go_wp2_with fail
 generalize w.alloc (.cells #[.pointer none,.slice none 0 0] 123)=W1 at *
 have c0':W1.cell? ⟨rb,0,none⟩=some (.pointer (some ⟨ab,0,none⟩)):=c0
 have z0:W1.cell? ⟨w.heap.size,0,none⟩=some (.pointer none):=cell_of_row _ _ 0 _ _ _ HZ.out
 have z1:W1.cell? ⟨w.heap.size,1,none⟩=some (.slice none 0 0):=cell_of_row _ _ 1 _ _ _ HZ.out
 clear c0
 have HL:Hid (∀ W,Below W1.heap.size W1 W→Calls Tryz.prog 69 #[.pointer (some ⟨rb,0,none⟩)] W fun e w'=>∃ a4 a5 a6,e=.returned (.agg #[.int .i64 (X.nk p),.int .i64 (X.ntk p),.string (ba (X.ntx p)),.slice a4 a5 a6])∧Hid (NdS w' D (.slice a4 a5 a6) (X.kids p)∧IsRw w' D rb ab ps (i+X.nln p)∧Kq D rb ab W w')):=fun W hW=>wleave_any D rb ab p ps i W ((HR1.out).below hW) hi (fun q hq=>by have:=hDl q hq;have:=hW.size;omega)
 have HF:Hid (∀ w2 a4 a5 a6,NdS w2 D (.slice a4 a5 a6) (X.kids p)∧IsRw w2 D rb ab ps (i+X.nln p)∧Kq D rb ab W1.drew w2→w2.cell? ⟨rb,0,none⟩=some (.pointer (some ⟨ab,0,none⟩))∧w2.heap[w.heap.size]?=some (.cells #[.pointer none,.slice none 0 0] 123 (0,0))∧Kq D rb ab w w2):=fun w2 a4 a5 a6 hx=>by
  obtain ⟨v,e,-⟩:=hx.2.1.blk
  have hk1:Kq D rb ab W1 w2:=(Kq.ofBelow ((Below.refl _ W1).drew) (by omega)).trans hx.2.2
  exact ⟨cell_of_row _ _ 0 _ _ _ e,hk1.new hr ha HZ.out (by decide),(Kq.ofBelow HKA.out ha).trans hk1⟩
 have hnr:¬ rb=w.heap.size:=by omega
 have hfl:=fld_kids
 go_region_held3 (fun w'=>w'.cell? ⟨rb,0,none⟩=some (.pointer (some ⟨ab,0,none⟩)))
  (first|(with_reducible exact c0')|(with_reducible exact KK)|(with_reducible exact KK2)|go_keep)
  ((go_at_call 69;refine ((HL.out) _ ?_).mono ?_;exact (Below.refl _ W1).drew;rintro e w2 ⟨a4,a5,a6,rfl,H2⟩;obtain ⟨KK,hz2,hkp2⟩:=(HF.out) w2 a4 a5 a6 H2.out;have y0:w2.cell? ⟨w.heap.size,0,none⟩=some (.pointer none):=cell_of_row _ _ 0 _ _ _ hz2;have y1:w2.cell? ⟨w.heap.size,1,none⟩=some (.slice none 0 0):=cell_of_row _ _ 1 _ _ _ hz2;have q0:w2.frozen? ⟨w.heap.size,0,none⟩=false:=(by simp [World.frozen?,hz2]);have q1:w2.frozen? ⟨w.heap.size,1,none⟩=false:=(by simp [World.frozen?,hz2]);have HZ2:=hide hz2;have HK2:=hide hkp2;have KK2:∀ x y,((w2.setCell ⟨w.heap.size,0,none⟩ x).setCell ⟨w.heap.size,1,none⟩ y).cell? ⟨rb,0,none⟩=some (.pointer (some ⟨ab,0,none⟩)):=fun x y=>(by rw [World.cell?_setCell_other _ _ _ _ (by simp),World.cell?_setCell_other _ _ _ _ (by simp)];exact KK)))
 clear y0 y1 q0 q1 KK KK2 z0 z1 c0'
 go_wp2_with fail
 refine bodyPost_ret (res_row rfl _ _ (b:=w.heap.size) rfl (set2_own HZ2.out)) rfl ⟨a4,a5,a6,rfl,?_⟩
 obtain ⟨x1,x2,x3⟩:=H2.out
 have hk4:Kp (fun q=>q=w.heap.size) w2 ((w2.setCell ⟨w.heap.size,0,none⟩ (.pointer (some ⟨ab,0,none⟩))).setCell ⟨w.heap.size,1,none⟩ (.slice a4 a5 a6)):=On.set (On.set (Kp.refl _ w2) 0 _) 1 _
 have hD':∀ q,D q→¬ q=w.heap.size:=fun q hq e=>by have:=hDl q hq;omega
 exact ⟨x1.keep hk4 hD',x2.on hk4 HZ2.out (by decide) (by omega) (by omega) (fun hd=>hD' _ hd rfl),Kq.set2 HK2.out ha (Nat.le_refl _) _ _⟩
set_option maxRecDepth 100000 in
set_option maxHeartbeats 2000000 in
theorem wname_any (D:Nat→Prop) (rb ab:Nat) (n:List X.Part) (nm:X.Nm) (ps:List X.Part) (i:Nat) (w:World) (h:IsRw w D rb ab (n++ps) i) (hn:X.Nmp n i nm) (hi:i+X.pz (n++ps)≤1073741824) (hpl:(n++ps).length≤1073741824) (hDl:∀ q,D q→q<w.heap.size) :
  Calls Tryz.prog 73 #[.pointer (some ⟨rb,0,none⟩)] w fun e w'=>e=.returned (.agg #[.string (ba nm.1),.int .i64 nm.2])∧Hid (IsRw w' D rb ab ps (i+X.pz n)∧Kq D rb ab w w'):=by
 obtain ⟨hr,ha⟩:=h.lt
 have key:∃ qs p,X.Tk0 n qs p∧((X.nk p=0∧nm.1=X.ntx p∧nm.2=i+X.pz qs)∨(X.nk p=1∧nm=([],0))):=by
  cases hn with
  | name _ x qs _ h=>exact ⟨qs,_,h.tk0,.inl ⟨rfl,rfl,rfl⟩⟩
  | miss _=>exact ⟨[],.miss X.sName,⟨rfl,fun q hq=>(by cases hq),rfl,rfl⟩,.inr ⟨rfl,rfl⟩⟩
 obtain ⟨qs,p,ht,hcs⟩:=key
 have kA:Below w.heap.size w (w.alloc (.cells #[.string ⟨#[]⟩,.int .i64 0] 165)):=(Below.refl _ w).alloc (Nat.le_refl _) _
 have HZ:Hid ((w.alloc (.cells #[.string ⟨#[]⟩,.int .i64 0] 165)).heap[w.heap.size]?=some (.cells #[.string ⟨#[]⟩,.int .i64 0] 165 (0,0))):=heap_alloc_new w _
 have HM:=hide (wmore_any D rb ab (n++ps) i _ (h.below kA) hi hpl (fun q hq=>Nat.lt_of_lt_of_le (hDl q hq) kA.size))
 have hd:=ht.drop ps
 rw [hd.1,hd.2] at HM
 have HKA:=hide kA
 have hpz:X.pz n=X.pz qs+X.pz [p]:=by rw [ht.eq,X.pz_app]
 have hln:=ht.ln
 rw [X.pz_app] at hi
 clear h kA hd hn
 go_enter Tryz.func73,Tryz.ntmps73
 go_wp2_with fail
 refine (HM.out).mono ?_
 rintro e w2 ⟨rfl,H2⟩
 have HDl2:∀ q,D q→q<w2.heap.size:=fun q hq=>Nat.lt_of_lt_of_le (hDl q hq) (Nat.le_trans (HKA.out).size (H2.out).2.size)
 have HZ2:Hid (w2.heap[w.heap.size]?=_):=(H2.out).2.new hr ha HZ.out (by decide)
 have HK2:Hid (Kq D rb ab w w2):=(Kq.ofBelow HKA.out ha).trans (H2.out).2
 obtain ⟨v,hb,-⟩:=(H2.out).1.blk
 have c0:=cell_of_row _ _ 0 _ _ _ hb
 obtain ⟨bv2,bl2,en2,gp2,hps2,-⟩:=(H2.out).1.psd.ex
 have d0:=cell_of_row _ _ 0 _ _ _ hps2
 have HL:=hide (wleave_any D rb ab p ps (i+X.pz qs) w2 (H2.out).1 (by omega) HDl2)
 have hw2:w.heap.size+1≤w2.heap.size:=by have:=(H2.out).2.size;simp at this;omega
 clear HM HKA H2 HZ hb hps2
 go_wp2_with fail
 refine (HL.out).mono ?_
 rintro e w3 ⟨a4,a5,a6,rfl,H3⟩
 have hZ3:=(H3.out).2.2.new hr ha HZ2.out (by decide)
 have HZ3:=hide hZ3
 have HK3:Hid (Kq D rb ab w w3):=(HK2.out).trans (H3.out).2.2
 have HR3:=hide (H3.out).2.1
 have hw3:w.heap.size+1≤w3.heap.size:=by have:=(H3.out).2.2.size;omega
 have e0:w3.cell? ⟨w.heap.size,0,none⟩=some (.string ⟨#[]⟩):=cell_of_row w3 _ 0 _ _ _ hZ3
 have e1:w3.cell? ⟨w.heap.size,1,none⟩=some (.int .i64 0):=cell_of_row w3 _ 1 _ _ _ hZ3
 have q0:w3.frozen? ⟨w.heap.size,0,none⟩=false:=by simp [World.frozen?,hZ3]
 have q1:w3.frozen? ⟨w.heap.size,1,none⟩=false:=by simp [World.frozen?,hZ3]
 have e0':∀ o,(w3.alloc o).cell? ⟨w.heap.size,0,none⟩=some (.string ⟨#[]⟩):=fun o=>Lib.cell?_alloc_some _ e0
 have e1':∀ o,(w3.alloc o).cell? ⟨w.heap.size,1,none⟩=some (.int .i64 0):=fun o=>Lib.cell?_alloc_some _ e1
 have q0':∀ o,(w3.alloc o).frozen? ⟨w.heap.size,0,none⟩=false:=fun o=>(World.frozen?_alloc_old _ _ ⟨w.heap.size,0,none⟩ (by simp;omega)).trans q0
 have q1':∀ o,(w3.alloc o).frozen? ⟨w.heap.size,1,none⟩=false:=fun o=>(World.frozen?_alloc_old _ _ ⟨w.heap.size,1,none⟩ (by simp;omega)).trans q1
 clear HL HK2 HZ2 H3 hZ3 c0 d0 e0 e1 q0 q1
 have HFin:Hid (∀ (o:Obj) (x y:Value),IsRw (((w3.alloc o).setCell ⟨w.heap.size,0,none⟩ x).setCell ⟨w.heap.size,1,none⟩ y) D rb ab ps (i+X.pz n)∧Kq D rb ab w (((w3.alloc o).setCell ⟨w.heap.size,0,none⟩ x).setCell ⟨w.heap.size,1,none⟩ y)∧(((w3.alloc o).setCell ⟨w.heap.size,0,none⟩ x).setCell ⟨w.heap.size,1,none⟩ y).heap[w.heap.size]?=some (.cells #[x,y] 165 (0,0))):=fun o x y=>by
  have kB:Below w3.heap.size w3 (w3.alloc o):=(Below.refl _ w3).alloc (Nat.le_refl _) _
  have hk4:Kp (fun q=>q=w.heap.size) (w3.alloc o) (((w3.alloc o).setCell ⟨w.heap.size,0,none⟩ x).setCell ⟨w.heap.size,1,none⟩ y):=On.set (On.set (Kp.refl _ _) 0 _) 1 _
  have hR:=((HR3.out).below kB).on hk4 ((heap_alloc_old w3 o (by omega)).trans HZ3.out) (by decide) (by omega) (by omega) (fun hd=>by have:=hDl _ hd;omega)
  rw [hln] at hR
  refine ⟨by rw [hpz,← Nat.add_assoc];exact hR,Kq.set2 ((HK3.out).more kB ha) ha (Nat.le_refl _) _ _,set2_own ((heap_alloc_old w3 o (by omega)).trans HZ3.out)⟩
 rcases hcs with ⟨h0,h1,h2⟩|⟨h0,h1⟩
 ·have iz:((X.nk p:Int)==0)=true:=by rw [h0];rfl
  have H1:=hide h1
  have H2:=hide h2
  clear h1 h2
  rw [h0]
  go_wp2_with fail
  obtain ⟨z1,z2,z3⟩:=(HFin.out) (.cells #[.int .i64 0,.int .i64 (X.ntk p),.string (ba (X.ntx p)),.slice a4 a5 a6] 120) (.string (ba (X.ntx p))) (.int .i64 ((i:Int)+(X.pz qs:Int)))
  refine bodyPost_ret (res_name rfl _ _ (b:=w.heap.size) rfl z3) rfl ⟨by rw [H1.out,H2.out,Int.natCast_add],z1,z2⟩
 ·have iz:((X.nk p:Int)==0)=false:=by rw [h0];rfl
  have H1:=hide h1
  clear h1
  rw [h0]
  go_wp2_with fail
  obtain ⟨z1,z2,z3⟩:=(HFin.out) (.cells #[.int .i64 1,.int .i64 (X.ntk p),.string (ba (X.ntx p)),.slice a4 a5 a6] 120) (.string ⟨#[]⟩) (.int .i64 0)
  refine bodyPost_ret (res_name rfl _ _ (b:=w.heap.size) rfl z3) rfl ⟨by rw [H1.out];rfl,z1,z2⟩
end Go.Proofs.YtbmebfgapjhchaaGreatDoor
/- Package syntax: a word,if it is there;the names of an NParams. -/
namespace Go.Proofs.YtbmebfgapjhchaaGreatDoor
open Go.RowKit
open M
theorem ba_list (z:List UInt8):(ba z).toList=z:=by rw [ByteArray.toList_eq];exact bs_ba z
theorem ba_ne {x y:List UInt8} (h:x≠y):((ba x).toList !=(ba y).toList)=true∧((ba x).toList==(ba y).toList)=false∧¬(ba x).toList=(ba y).toList∧¬ ba x=ba y:=by
 rw [ba_list,ba_list]
 exact ⟨by simpa using h,by simpa using h,h,fun e=>h (by rw [← ba_list x,← ba_list y,e])⟩
set_option maxRecDepth 100000 in
set_option maxHeartbeats 2000000 in
theorem whas_any (D:Nat→Prop) (rb ab:Nat) (t qs:List X.Part) (p:X.Part) (ps:List X.Part) (i:Nat) (x:List UInt8) (w:World) (h:IsRw w D rb ab (t++ps) i) (ht:X.Tk0 t qs p) (hp:(∃ k,p=.leaf k x)∨(∃ k y,p=.leaf k y∧y≠x)∨X.nk p≠0) (hi:i+X.pz (t++ps)≤1073741824) (hpl:(t++ps).length≤1073741824) (hDl:∀ q,D q→q<w.heap.size) :
  Calls Tryz.prog 71 #[.pointer (some ⟨rb,0,none⟩),.string (ba x)] w fun e w'=>((∃ k,p=.leaf k x)→e=.returned (.bool true)∧Hid (IsRw w' D rb ab ps (i+X.pz t)∧Kq D rb ab w w'))∧(¬(∃ k,p=.leaf k x)→e=.returned (.bool false)∧Hid (IsRw w' D rb ab (p::ps) (i+X.pz qs)∧Kq D rb ab w w')):=by
 have HM:=hide (wmore_any D rb ab (t++ps) i w h hi hpl hDl)
 have hd:=ht.drop ps
 rw [hd.1,hd.2] at HM
 have hpz:X.pz t=X.pz qs+X.pz [p]:=by rw [ht.eq,X.pz_app]
 have hln:=ht.ln
 rw [X.pz_app] at hi
 clear h hd
 go_enter Tryz.func71,Tryz.ntmps71
 go_wp2_with fail
 refine (HM.out).mono ?_
 rintro e w2 ⟨rfl,H2⟩
 have hdt:decide (p::ps≠[])=true:=by simp
 rw [hdt]
 have HDl2:∀ q,D q→q<w2.heap.size:=fun q hq=>Nat.lt_of_lt_of_le (hDl q hq) (H2.out).2.size
 obtain ⟨v,hb,hn⟩:=(H2.out).1.blk
 have c1:=cell_of_row _ _ 1 _ _ _ hb
 obtain ⟨g,o,cap,kv,rfl,hD,y0,y1,y2,y3,hkk,-,hc1,hc2,-,-⟩:=hn.head
 have hi1:(0:Int)<((ps.length+1:Nat):Int):=by omega
 have hi2:0<ps.length+1:=by omega
 have HL:=hide (wleave_any D rb ab p ps (i+X.pz qs) w2 (H2.out).1 (by omega) HDl2)
 have HR2:=hide (H2.out)
 clear HM H2 hb hn hkk hdt y1 y3
 rcases hp with ⟨k,rfl⟩|⟨k,y,rfl,hne⟩|hne
 ·have iz:((X.nk (.leaf k x):Int) !=0)=false:=rfl
  have y0':w2.cell? ⟨g,o,none⟩=some (.int .i64 0):=y0
  have y2':w2.cell? ⟨g,o+2,none⟩=some (.string (ba x)):=y2
  have i3:((ba x).toList !=(ba x).toList)=false:=by simp
  clear y0 y2
  go_wp2_with fail
  refine (HL.out).mono ?_
  rintro e w3 ⟨a4,a5,a6,rfl,H3⟩
  have HR3:Hid (IsRw w3 D rb ab ps (i+X.pz t)∧Kq D rb ab w w3):=by
   obtain ⟨-,z2,z3⟩:=H3.out
   rw [hln] at z2
   rw [hpz,← Nat.add_assoc]
   exact ⟨z2,(HR2.out).2.trans z3⟩
  clear H3 HL y0' y2' c1
  go_wp2_with fail
  go_ret
  exact ⟨fun _=>⟨rfl,HR3⟩,fun e=>absurd ⟨k,rfl⟩ e⟩
 ·have y0':w2.cell? ⟨g,o,none⟩=some (.int .i64 0):=y0
  have y2':w2.cell? ⟨g,o+2,none⟩=some (.string (ba y)):=y2
  obtain ⟨i3,i4,i5,i6⟩:=ba_ne hne
  clear y0 y2
  go_wp2_with fail
  go_ret
  exact ⟨fun ⟨k',e⟩=>by cases e;exact absurd rfl hne,fun _=>⟨rfl,HR2.out⟩⟩
 ·have iz:((X.nk p:Int) !=0)=true:=by simp;omega
  go_wp2_with fail
  go_ret
  exact ⟨fun ⟨k',e⟩=>by subst e;exact absurd rfl hne,fun _=>⟨rfl,HR2.out⟩⟩
end Go.Proofs.YtbmebfgapjhchaaGreatDoor
/- Package syntax: the names of an NParams. -/
namespace Go.Proofs.YtbmebfgapjhchaaGreatDoor
open Go.RowKit
open M
def X.nmq:X.Part→Bool
 | .leaf k _=>k==3
 | .miss m=>m==X.sName
 | .br _ _=>false
set_option maxRecDepth 100000 in
set_option maxHeartbeats 1000000 in
theorem syName_any (p:X.Part) (a4:Option Addr) (a5 a6:Nat) (w:World) :
  Calls Tryz.prog 96 #[.agg #[.int .i64 (X.nk p),.int .i64 (X.ntk p),.string (ba (X.ntx p)),.slice a4 a5 a6]] w fun e w'=>e=.returned (.bool (X.nmq p))∧Below w.heap.size w w':=by
 have HKA:∀ a b c,Hid (Below w.heap.size w (w.alloc (.cells #[.int .i64 a,.int .i64 b,.string c,.slice a4 a5 a6] 120))):=fun a b c=>(Below.refl _ w).alloc (Nat.le_refl _) _
 have HKA':=hide HKA
 clear HKA
 cases p with
 | leaf k x =>
  by_cases h3:k=3
  ·subst h3
   show Calls Tryz.prog 96 #[.agg #[.int .i64 0,.int .i64 3,.string (ba x),.slice a4 a5 a6]] w fun e w'=>e=.returned (.bool true)∧Below w.heap.size w w'
   go_enter Tryz.func96,Tryz.ntmps96
   go_wp2_with fail
   go_ret
   exact ⟨rfl,((HKA'.out) _ _ _).out⟩
  ·have j3:((k:Int)==3)=false:=by simp;omega
   have k3:X.nmq (.leaf k x)=false:=by show (k==3)=false;simp;omega
   rw [k3]
   show Calls Tryz.prog 96 #[.agg #[.int .i64 0,.int .i64 k,.string (ba x),.slice a4 a5 a6]] w fun e w'=>e=.returned (.bool false)∧Below w.heap.size w w'
   go_enter Tryz.func96,Tryz.ntmps96
   go_wp2_with fail
   go_ret
   exact ⟨rfl,((HKA'.out) _ _ _).out⟩
 | miss m =>
  by_cases hm:m=X.sName
  ·subst hm
   show Calls Tryz.prog 96 #[.agg #[.int .i64 1,.int .i64 0,.string (ba X.sName),.slice a4 a5 a6]] w fun e w'=>e=.returned (.bool true)∧Below w.heap.size w w'
   have e1:((ba X.sName).toList==[110,97,109,101])=true:=by rw [ba_list];rfl
   go_enter Tryz.func96,Tryz.ntmps96
   go_wp2_with fail
   go_ret
   exact ⟨rfl,((HKA'.out) _ _ _).out⟩
  ·obtain ⟨i3,i4,i5,i6⟩:=ba_ne hm
   have k3:X.nmq (.miss m)=false:=by show (m==X.sName)=false;simpa using hm
   have i4':((ba m).toList==[110,97,109,101])=false:=by rw [ba_list];exact k3
   rw [k3]
   show Calls Tryz.prog 96 #[.agg #[.int .i64 1,.int .i64 0,.string (ba m),.slice a4 a5 a6]] w fun e w'=>e=.returned (.bool false)∧Below w.heap.size w w'
   go_enter Tryz.func96,Tryz.ntmps96
   go_wp2_with fail
   go_ret
   exact ⟨rfl,((HKA'.out) _ _ _).out⟩
 | br k ps =>
  by_cases h0:k=0
  ·subst h0
   show Calls Tryz.prog 96 #[.agg #[.int .i64 0,.int .i64 0,.string (ba []),.slice a4 a5 a6]] w fun e w'=>e=.returned (.bool false)∧Below w.heap.size w w'
   go_enter Tryz.func96,Tryz.ntmps96
   go_wp2_with fail
   go_ret
   exact ⟨rfl,((HKA'.out) _ _ _).out⟩
  ·by_cases h1:k=1
   ·subst h1
    have e1:((ba []).toList==[110,97,109,101])=false:=by rw [ba_list];rfl
    show Calls Tryz.prog 96 #[.agg #[.int .i64 1,.int .i64 0,.string (ba []),.slice a4 a5 a6]] w fun e w'=>e=.returned (.bool false)∧Below w.heap.size w w'
    go_enter Tryz.func96,Tryz.ntmps96
    go_wp2_with fail
    go_ret
    exact ⟨rfl,((HKA'.out) _ _ _).out⟩
   ·have j0:((k:Int)==0)=false:=by simp;omega
    have j1:((k:Int)==1)=false:=by simp;omega
    show Calls Tryz.prog 96 #[.agg #[.int .i64 k,.int .i64 0,.string (ba []),.slice a4 a5 a6]] w fun e w'=>e=.returned (.bool false)∧Below w.heap.size w w'
    go_enter Tryz.func96,Tryz.ntmps96
    go_wp2_with fail
    go_ret
    exact ⟨rfl,((HKA'.out) _ _ _).out⟩
def nmv (ns:List X.Nm):List Value:=ns.flatMap fun n=>[.string (ba n.1),.int .i64 n.2]
theorem nmv_snoc (ns:List X.Nm) (n:X.Nm):nmv (ns++[n])=nmv ns++[.string (ba n.1),.int .i64 n.2]:=by unfold nmv;rw [List.flatMap_append];rfl
theorem nmv_get:∀ {ns:List X.Nm} {j:Nat} {n:X.Nm},ns[j]?=some n→(nmv ns)[j*2]?=some (.string (ba n.1))∧(nmv ns)[j*2+1]?=some (.int .i64 n.2)
 | [],j,n,h=>by simp at h
 | a::ns,0,n,h=>by cases h;exact ⟨rfl,rfl⟩
 | a::ns,j+1,n,h=>by
  have:=nmv_get (ns:=ns) (j:=j) (n:=n) (by simpa using h)
  have e:nmv (a::ns)=[.string (ba a.1),.int .i64 a.2]++nmv ns:=rfl
  rw [e,show (j+1)*2=j*2+2 by omega,show j*2+2+1=j*2+1+2 by omega]
  exact this
structure IsPar (w:World) (lo hi pb:Nat) (ns:List X.Nm):Prop where
 bd:lo≤pb∧pb<hi
 ex:∃ ao cap,w.heap[pb]?=some (.cells #[.slice ao ns.length cap] 214 (0,0))∧ns.length≤cap∧cap≤maxLen∧∀ (j:Nat) (n:X.Nm),ns[j]?=some n→∃ g,ao=some ⟨g,0,none⟩∧lo≤g∧g<hi∧w.cell? ⟨g,j*2,none⟩=some (.string (ba n.1))∧w.cell? ⟨g,j*2+1,none⟩=some (.int .i64 n.2)∧∃ c f,w.heap[g]?=some (.cells c 165 f)
theorem IsPar.keepi {S:Nat→Prop} {w w':World} (hk:Kp S w w') {lo hi pb:Nat} {ns:List X.Nm} (h:IsPar w lo hi pb ns) (hS:∀ i,lo≤i→i<hi→S i→∃ c f,w.heap[i]?=some (.cells c 3 f)):IsPar w' lo hi pb ns:=by
 obtain ⟨ao,cap,h1,h2,h3,h4⟩:=h.ex
 refine ⟨h.bd,ao,cap,hk.heap h1 (fun e=>not_int h1 (by decide) (hS _ h.bd.1 h.bd.2 e)),h2,h3,fun j n hj=>?_⟩
 obtain ⟨g,e1,e2,e3,e4,e5,c,f,e6⟩:=h4 j n hj
 have hg:¬ S g:=fun e=>not_int e6 (by decide) (hS g e2 e3 e)
 exact ⟨g,e1,e2,e3,hk.cellv e4 hg,hk.cellv e5 hg,c,f,hk.heap e6 hg⟩
theorem IsPar.keep {S:Nat→Prop} {w w':World} (hk:Kp S w w') {lo hi pb:Nat} {ns:List X.Nm} (h:IsPar w lo hi pb ns) (hS:∀ i,lo≤i→i<hi→¬ S i):IsPar w' lo hi pb ns:=h.keepi hk (fun i h1 h2 e=>absurd e (hS i h1 h2))
theorem IsPar.keepq {D:Nat→Prop} {rb ab:Nat} {w w':World} (hk:Kq D rb ab w w') {lo hi pb:Nat} {ns:List X.Nm} (h:IsPar w lo hi pb ns) (h1:rb<lo) (h2:ab<lo):IsPar w' lo hi pb ns:=h.keepi hk.kp (fun _ hi _ e=>e.int h1 h2 hi)
theorem isPar_of {w:World} {lo pb:Nat} {rv:Value} {ns:List X.Nm} (hb:w.heap[pb]?=some (.cells #[rv] 214 (0,0))) (ho:w.ownsRow lo 165 2 rv ns.length (nmv ns)) (hlo:lo≤pb):IsPar w lo w.heap.size pb ns:=by
 have hg:=owns_ge ho
 have hc:=fun g hg=>ho.cells (g:=g) hg
 rcases ho.2 with ⟨rfl,h0⟩|⟨g,cap,cur,rfl,-,-,hn,hm,-,-⟩
 ·have hns:ns=[]:=List.length_eq_zero_iff.1 h0
  subst hns
  exact ⟨⟨hlo,heap_lt hb⟩,none,0,hb,Nat.le_refl _,by unfold maxLen;omega,fun j n hj=>by simp at hj⟩
 ·refine ⟨⟨hlo,heap_lt hb⟩,_,cap,hb,hn,hm,fun j n hj=>⟨g,rfl,(hg g rfl).1,(hg g rfl).2,?_,?_,(owns_typed ho rfl).2⟩⟩
  ·have:=hc g rfl _ _ (nmv_get hj).1
   rwa [Addr.add_lit,Nat.zero_add] at this
  ·have:=hc g rfl _ _ (nmv_get hj).2
   rwa [Addr.add_lit,Nat.zero_add] at this
theorem nms_quiet {l:List X.Part} {k:Nat} {ns:List X.Nm} (h:X.Nms l k ns):X.Nms (l.dropWhile X.lq) (k+X.pz (l.takeWhile X.lq)) ns:=by
 induction h with
 | nil i=>exact .nil _
 | name x ps i ns h ih =>
  rw [List.dropWhile_cons_of_neg (by simp [X.lq]),List.takeWhile_cons_of_neg (by simp [X.lq])]
  exact .name x ps i ns h
 | leaf k x ps i ns hk h ih =>
  cases hq:X.lq (.leaf k x) with
  | true =>
   rw [List.dropWhile_cons_of_pos hq,List.takeWhile_cons_of_pos hq,X.pz_cons,X.pz_leaf,← Nat.add_assoc]
   exact ih
  | false =>
   rw [List.dropWhile_cons_of_neg (by rw [hq];simp),List.takeWhile_cons_of_neg (by rw [hq];simp)]
   exact .leaf k x ps i ns hk h
 | lack ps i ns h ih =>
  rw [List.dropWhile_cons_of_neg (by simp [X.lq]),List.takeWhile_cons_of_neg (by simp [X.lq])]
  exact .lack ps i ns h
 | miss m ps i ns hm h ih =>
  rw [List.dropWhile_cons_of_neg (by simp [X.lq]),List.takeWhile_cons_of_neg (by simp [X.lq])]
  exact .miss m ps i ns hm h
theorem nms_head {p:X.Part} {l:List X.Part} {k:Nat} {ns:List X.Nm} (h:X.Nms (p::l) k ns) (hq:X.lq p=false):(X.nmq p=true∧∃ nm ns',ns=nm::ns'∧X.Nmp [p] k nm∧X.Nms l (k+X.pz [p]) ns')∨(X.nmq p=false∧X.nln p=X.pz [p]∧X.Nms l (k+X.pz [p]) ns):=by
 cases h with
 | name x _ _ ns h =>
  refine .inl ⟨rfl,_,ns,rfl,?_,by rw [X.pz_leaf];exact h⟩
  have:=X.Nmp.name [.leaf 3 x] x [] k ⟨rfl,fun q hq=>(by cases hq),by omega⟩
  rw [X.pz_nil] at this
  exact this
 | leaf k2 x _ _ _ hk h=>exact .inr ⟨by show (k2==3)=false;simpa using hk,(X.pz_leaf k2 x).symm,by rw [X.pz_leaf];exact h⟩
 | lack _ _ ns h=>exact .inl ⟨rfl,_,ns,rfl,.miss k,h⟩
 | miss m _ _ _ hm h=>exact .inr ⟨by show (m==X.sName)=false;simpa using hm,rfl,h⟩
structure InPr (w:World) (D:Nat→Prop) (rb ab pb:Nat) (ps:List X.Part) (ns:List X.Nm) (tot:Nat) (kb:Nat) (l:List X.Part) (k:Nat) (acc:List X.Nm) (rv:Value) (wr:World):Prop where
 rw:IsRw wr D kb ab l k
 nms:∃ ns',X.Nms l k ns'∧ns=acc++ns'
 out:∃ v,wr.heap[rb]?=some (.cells #[.pointer (some ⟨ab,0,none⟩),v] 123 (0,0))∧NdS wr D v ps
 par:wr.heap[pb]?=some (.cells #[rv] 214 (0,0))
 own:wr.ownsRow w.heap.size 165 2 rv acc.length (nmv acc)
 new:w.heap.size≤kb∧w.heap.size≤pb∧kb≠pb∧(∀ g,rv.ownBlock=some g→g≠kb∧g≠pb)
 kp:Kq D rb ab w wr
 pos:k+X.pz l=tot
theorem InPr.step {w:World} {D:Nat→Prop} {rb ab pb:Nat} {ps:List X.Part} {ns:List X.Nm} {tot kb:Nat} {l:List X.Part} {k:Nat} {acc:List X.Nm} {rv:Value} {wr:World} (h:InPr w D rb ab pb ps ns tot kb l k acc rv wr) {w2:World} {l2:List X.Part} {k2:Nat} (hr:rb<w.heap.size) (ha:ab<w.heap.size) (hne:rb≠ab) (hk:Kq D kb ab wr w2) (hw:IsRw w2 D kb ab l2 k2) (hn:∃ ns',X.Nms l2 k2 ns'∧ns=acc++ns') (hp:k2+X.pz l2=tot):InPr w D rb ab pb ps ns tot kb l2 k2 acc rv w2:=by
 obtain ⟨v,e,hv⟩:=h.out
 obtain ⟨n1,n2,n3,n4⟩:=h.new
 refine ⟨hw,hn,⟨v,hk.heap e (by decide) (by omega) hne,hk.nds hv hw.sep.2.1 hw.sep.2.2⟩,hk.heap h.par (by decide) (by omega) (by omega),hk.owns h.own (by decide) (fun g hg=>⟨(n4 g hg).1,?_⟩),h.new,h.kp.inner hk n1,hp⟩
 have:=(owns_ge h.own g hg).1
 omega
theorem InPr.copy {w:World} {D:Nat→Prop} {rb ab pb:Nat} {ps:List X.Part} {ns:List X.Nm} {tot kb:Nat} {l:List X.Part} {k:Nat} {acc:List X.Nm} {rv:Value} {wr:World} (h:InPr w D rb ab pb ps ns tot kb l k acc rv wr) (hDlt:∀ {q},D q→q<w.heap.size) (ha:ab<w.heap.size) {v:Value} (hb:wr.heap[kb]?=some (.cells #[.pointer (some ⟨ab,0,none⟩),v] 123 (0,0))):InPr w D rb ab pb ps ns tot wr.heap.size l k acc rv (wr.alloc (.cells #[.pointer (some ⟨ab,0,none⟩),v] 123)):=by
 have kB:Below wr.heap.size wr (wr.alloc (.cells #[.pointer (some ⟨ab,0,none⟩),v] 123)):=(Below.refl _ wr).alloc (Nat.le_refl _) _
 have hk:=Kp.ofBelow kB (fun _=>False)
 obtain ⟨v0,e0,hn0⟩:=h.out
 obtain ⟨v',e1,hn1⟩:=h.rw.blk
 obtain rfl:v'=v:=by
  rw [hb] at e1
  cases e1;rfl
 have hpl:=heap_lt h.par
 have hkl:=heap_lt hb
 have hs:=h.kp.size
 refine ⟨⟨⟨v',heap_alloc_new wr _,hn1.keep hk (fun _ _=>id)⟩,h.rw.psd.below kB,⟨by have:=h.rw.psd.lt;omega,?_,h.rw.sep.2.2⟩,h.rw.byt⟩,h.nms,⟨v0,hk.heap e0 id,hn0.keep hk (fun _ _=>id)⟩,hk.heap h.par id,hk.owns h.own (fun _ _=>id),⟨hs,h.new.2.1,by omega,fun g hg=>⟨?_,(h.new.2.2.2 g hg).2⟩⟩,h.kp.more kB ha,h.pos⟩
 ·intro hd
  have:=hDlt hd
  omega
 ·have:=(owns_ge h.own g hg).2;omega
end Go.Proofs.YtbmebfgapjhchaaGreatDoor
/- Package syntax: the names of an NParams: the walk. -/
namespace Go.Proofs.YtbmebfgapjhchaaGreatDoor
open Go.RowKit
open M
theorem infoNm:(Tryz.prog.info? 165).map (fun i=>(i.zero,i.size,i.bytes))=some (some (.agg #[.string ⟨#[]⟩,.int .i64 0]),2,24):=by kernel_rfl
def lenP (v:Value) (w:World):Nat:=match v with|.pointer (some a)=>lenR a.block w|_=>0
theorem InPr.named {w:World} {D:Nat→Prop} {rb ab pb:Nat} {ps:List X.Part} {ns:List X.Nm} {tot kb:Nat} {l:List X.Part} {k:Nat} {acc:List X.Nm} {rv:Value} {wr:World} (h:InPr w D rb ab pb ps ns tot kb l k acc rv wr) {w5:World} {l2:List X.Part} {k2:Nat} (hr:rb<w.heap.size) (ha:ab<w.heap.size) (hD:∀ q,D q→q<w.heap.size) (hne:rb≠ab) (hk:Kq D kb ab wr w5) (hw:IsRw w5 D kb ab l2 k2) {nm:X.Nm} (hn:∃ ns',X.Nms l2 k2 ns'∧ns=(acc++[nm])++ns') (hp:k2+X.pz l2=tot) (o:Obj) {g cap:Nat} {w6:World}
  (hown:w6.ownsRow w.heap.size 165 2 (.slice (some ⟨g,0,none⟩) (acc.length+1) cap) (acc.length+1) (nmv acc++[.string (ba nm.1),.int .i64 nm.2])) (hgrow:(w5.alloc o).grownBy w6 rv.ownBlock) (hat:rv.ownBlock=some g∨g=w5.heap.size+1) :
  InPr w D rb ab pb ps ns tot kb l2 k2 (acc++[nm]) (.slice (some ⟨g,0,none⟩) (acc.length+1) cap) (w6.setCell ⟨pb,0,none⟩ (.slice (some ⟨g,0,none⟩) (acc.length+1) cap)):=by
 obtain ⟨v,e,hv⟩:=h.out
 obtain ⟨n1,n2,n3,n4⟩:=h.new
 have hge:=fun q hq=>(owns_ge h.own q hq)
 have hpl:=heap_lt h.par
 have hkl:=h.rw.lt.1
 have hs5:=hk.size
 have hpar5:=hk.heap h.par (by decide) (fun e=>n3 e.symm) (by omega)
 have hown5:=hk.owns h.own (by decide) (fun q hq=>⟨(n4 q hq).1,by have:=(hge q hq).1;omega⟩)
 have hA:Kp (fun q=>rv.ownBlock=some q∨q=pb) w5 w6:=Kp.grown (Kp.alloc (Kp.refl _ w5) o) hgrow (fun k e _=>.inl e)
 have hB:Kp (fun q=>rv.ownBlock=some q∨q=pb) w5 (w6.setCell ⟨pb,0,none⟩ (.slice (some ⟨g,0,none⟩) (acc.length+1) cap)):=Kp.setCell (p:=⟨pb,0,none⟩) hA (fun _=>.inr rfl) _
 have hnS:∀ q,q<w.heap.size→¬(rv.ownBlock=some q∨q=pb):=fun q hq e=>by
  rcases e with e|e
  ·have:=(hge q e).1;omega
  ·omega
 have hgp:g≠pb∧g≠kb:=by
  rcases hat with e|e
  ·exact ⟨(n4 g e).2,(n4 g e).1⟩
  ·exact ⟨by omega,by omega⟩
 have hpar6:w6.heap[pb]?=some (.cells #[rv] 214 (0,0)):=(hgrow.block pb (by simp;omega) (fun e=>(n4 pb e.symm).2 rfl)).trans ((heap_alloc_old w5 o (by omega)).trans hpar5)
 refine ⟨hw.keep hB (fun e=>?_) (hnS ab ha) (fun q hq=>hnS q (hD q hq)) (fun q c f _ hc e=>?_),hn,⟨v,hB.heap (hk.heap e (by decide) (by omega) hne) (hnS rb hr),(hk.nds hv hw.sep.2.1 hw.sep.2.2).keep hB (fun q hq=>hnS q (hD q hq))⟩,?_,?_,⟨n1,n2,n3,fun q hq=>?_⟩,(h.kp.inner hk n1).over hB ha hnS,hp⟩
 ·rcases e with e|e
  ·exact (n4 kb e).1 rfl
  ·exact n3 e
 ·rcases e with e|e
  ·obtain ⟨-,c',f',hc'⟩:=owns_typed hown5 e
   exact not_int hc' (by decide) ⟨c,f,hc⟩
  ·subst e
   exact not_int hpar5 (by decide) ⟨c,f,hc⟩
 ·simp [World.setCell,Array.getElem?_modify,hpar6]
 ·rw [nmv_snoc,List.length_append]
  exact ownsRow_setCell_other hown (by simp [Value.ownBlock];exact hgp.1) _
 ·simp only [Value.ownBlock,Option.some.injEq] at hq
  subst hq
  exact ⟨hgp.2,hgp.1⟩
set_option maxRecDepth 100000 in
set_option maxHeartbeats 4000000 in
theorem wparams_any (D:Nat→Prop) (rb ab:Nat) (qs:List X.Part) (ns:List X.Nm) (ps:List X.Part) (i:Nat) (w:World) (h:IsRw w D rb ab (.br 6 qs::ps) i) (hn:X.Nms qs i ns) (hi:i+X.pz qs≤1073741824) (hql:qs.length≤268435456) (hnl:ns.length≤268435456) (hDl:∀ q,D q→q<w.heap.size) :
  Calls Tryz.prog 74 #[.pointer (some ⟨rb,0,none⟩)] w fun e w'=>∃ pb,e=.returned (.pointer (some ⟨pb,0,none⟩))∧Hid (IsPar w' w.heap.size w'.heap.size pb ns∧IsRw w' D rb ab ps (i+X.pz qs)∧Kq D rb ab w w'):=by
 obtain ⟨i0,hi0,hz0,hz1,hz2⟩:=info_parts infoNm
 obtain ⟨hr,ha⟩:=h.lt
 have hsep:=h.sep
 have hgq:=h.byt.br.2
 have hgp:=h.byt.tail
 have kA:Below w.heap.size w (w.alloc (.cells #[.slice none 0 0] 214)):=(Below.refl _ w).alloc (Nat.le_refl _) _
 have HP1:Hid ((w.alloc (.cells #[.slice none 0 0] 214)).heap[w.heap.size]?=some (.cells #[.slice none 0 0] 214 (0,0))):=heap_alloc_new w _
 have HE:=hide (wenter_any D rb ab (.br 6 qs) ps i _ (h.below kA) (by show i+0≤_;omega) (fun q hq=>Nat.lt_of_lt_of_le (hDl q hq) kA.size))
 have HKA:=hide kA
 have HDl:=hide hDl
 have hsz:(w.alloc (.cells #[.slice none 0 0] 214)).heap.size=w.heap.size+1:=by simp
 clear h kA hDl
 go_enter Tryz.func74,Tryz.ntmps74
 go_wp2_with fail
 generalize w.alloc (.cells #[.slice none 0 0] 214)=W1 at *
 refine (HE.out).mono ?_
 rintro e w2 ⟨a4,a5,a6,rfl,H2⟩
 have H2':Hid (NdS w2 D (.slice a4 a5 a6) qs∧IsRw w2 D rb ab ps i∧Kq D rb ab W1 w2):=H2.out
 have hz2':w.heap.size+1≤w2.heap.size:=by have:=(H2'.out).2.2.size;omega
 have HI0:Hid (InPr w D rb ab w.heap.size ps ns (i+X.pz qs) w2.heap.size qs i [] (.slice none 0 0) (w2.alloc (.cells #[.pointer (some ⟨ab,0,none⟩),.slice a4 a5 a6] 123))):=by
  obtain ⟨x1,x2,x3⟩:=H2'.out
  have kB:Below w2.heap.size w2 (w2.alloc (.cells #[.pointer (some ⟨ab,0,none⟩),.slice a4 a5 a6] 123)):=(Below.refl _ w2).alloc (Nat.le_refl _) _
  have x2b:=x2.below kB
  refine ⟨⟨⟨_,heap_alloc_new w2 _,x1.keep (Kp.ofBelow kB (fun _=>False)) (fun _ _=>id)⟩,x2b.psd,⟨by omega,fun hd=>by have:=(HDl.out) _ hd;omega,x2.sep.2.2⟩,hgq⟩,⟨ns,hn,rfl⟩,x2b.blk,?_,World.ownsRow_nil _ _ _ _,⟨by omega,Nat.le_refl _,by omega,fun g hg=>by cases hg⟩,?_,rfl⟩
  ·exact (heap_alloc_old w2 _ (by omega)).trans (x3.new hr ha HP1.out (by decide))
  ·exact ((Kq.ofBelow HKA.out ha).trans x3).more kB ha
 clear H2 H2' HE HP1 HKA
 go_wp2_with fail
 generalize w2.alloc (.cells #[.pointer (some ⟨ab,0,none⟩),.slice a4 a5 a6] 123)=W2 at *
 go_loopw [4] (fun kv wr=>∃ (kb:Nat) (l:List X.Part) (k:Nat) (acc:List X.Nm) (rv:Value),kv=.pointer (some ⟨kb,0,none⟩)∧l.length≤268435456∧Hid (InPr w D rb ab w.heap.size ps ns (i+X.pz qs) kb l k acc rv wr)) (fun kv wr=>lenP kv wr)
 case atStart=>exact ⟨w2.heap.size,qs,i,[],_,rfl,hql,HI0⟩
 case round =>
  obtain ⟨kb,l,k,acc,rv,rfl,hll,HI⟩:=hrel
  clear HI0
  have hlen:lenP (.pointer (some ⟨kb,0,none⟩)) wr=l.length:=(HI.out).rw.len
  have hpos:=(HI.out).pos
  have HDw:∀ q,D q→q<wr.heap.size:=fun q hq=>Nat.lt_of_lt_of_le ((HDl.out) q hq) (HI.out).kp.size
  have HM:=hide (wmore_any D kb ab l k wr (HI.out).rw (by omega) (by omega) HDw)
  clear HDw
  go_wp2_with fail
  refine (HM.out).mono ?_
  rintro e w3 ⟨rfl,H3⟩
  have hpz:X.pz l=X.pz (l.takeWhile X.lq)+X.pz (l.dropWhile X.lq):=by rw [← X.pz_app,List.takeWhile_append_dropWhile]
  have hdl:(l.dropWhile X.lq).length≤l.length:=(List.dropWhile_sublist _).length_le
  have HI3:Hid (InPr w D rb ab w.heap.size ps ns (i+X.pz qs) kb (l.dropWhile X.lq) (k+X.pz (l.takeWhile X.lq)) acc rv w3):=by
   obtain ⟨ns',g1,g2⟩:=(HI.out).nms
   exact (HI.out).step hr ha hsep.1 (H3.out).2 (H3.out).1 ⟨ns',nms_quiet g1,g2⟩ (by omega)
  have hql':∀ p t,l.dropWhile X.lq=p::t→X.lq p=false:=fun p t e=>by
   have:=List.head?_dropWhile_not X.lq l
   rw [e] at this
   simpa using this
  clear HM H3 HI
  generalize l.dropWhile X.lq=l3 at *
  generalize k+X.pz (l.takeWhile X.lq)=k3 at *
  cases l3 with
  | nil =>
   have HF:Hid (IsPar w3 w.heap.size w3.heap.size w.heap.size ns∧IsRw w3 D rb ab ps (i+X.pz qs)∧Kq D rb ab w w3):=by
    obtain ⟨ns',g1,g2⟩:=(HI3.out).nms
    cases g1
    rw [List.append_nil] at g2
    subst g2
    have hp3:k3=i+X.pz qs:=(HI3.out).pos
    refine ⟨isPar_of (HI3.out).par (HI3.out).own (Nat.le_refl _),⟨(HI3.out).out,by rw [← hp3];exact (HI3.out).rw.psd,hsep,hgp⟩,(HI3.out).kp⟩
   have hdf:decide (([]:List X.Part)≠[])=false:=by simp
   rw [hdf]
   clear HI3
   go_wp2_with fail
   go_ret
   exact ⟨_,rfl,HF⟩
  | cons p l4 =>
   have hdt:decide (p::l4≠[])=true:=by simp
   rw [hdt]
   clear hdt
   have hq:=hql' p l4 rfl
   clear hql'
   obtain ⟨v,hb,hnn⟩:=(HI3.out).rw.blk
   have c1:=cell_of_row w3 _ 1 _ _ _ hb
   obtain ⟨g,o,cap,kv,rfl,hD,y0,y1,y2,y3,hkk,-,hc1,hc2,-,-⟩:=hnn.head
   obtain ⟨b4,b6,_,_,_,_,rfl,-⟩:=hkk.ex
   have hi1:(0:Int)<((l4.length+1:Nat):Int):=by omega
   have hi2:0<l4.length+1:=by omega
   have hpos3:=(HI3.out).pos
   rw [X.pz_cons] at hpos3
   rw [List.length_cons] at hdl
   have HHd:=hide (fun ns' h=>nms_head (p:=p) (l:=l4) (k:=k3) (ns:=ns') h hq)
   clear hb hnn hkk
   go_wp2_with fail
   refine (syName_any p _ _ _ w3).mono ?_
   rintro e w4 ⟨rfl,k4⟩
   have HI4:Hid (InPr w D rb ab w.heap.size ps ns (i+X.pz qs) kb (p::l4) k3 acc rv w4):=(HI3.out).step hr ha hsep.1 (Kq.ofBelow k4 (Nat.lt_of_lt_of_le ha (HI3.out).kp.size)) ((HI3.out).rw.below k4) (HI3.out).nms (HI3.out).pos
   clear k4 HI3 c1 y0 y1 y2 y3
   cases hnq:X.nmq p with
   | false =>
    have HN:Hid (X.nln p=X.pz [p]∧∃ ns',X.Nms l4 (k3+X.pz [p]) ns'∧ns=acc++ns'):=by
     obtain ⟨ns',g1,g2⟩:=(HI4.out).nms
     rcases (HHd.out) ns' g1 with ⟨e,-⟩|⟨-,e2,e3⟩
     ·rw [hnq] at e;cases e
     ·exact ⟨e2,ns',e3,g2⟩
    have hln:=(HN.out).1
    have HLv:=hide (wleave_any D kb ab p l4 k3 w4 (HI4.out).rw (by omega) (fun q hq=>Nat.lt_of_lt_of_le ((HDl.out) q hq) (HI4.out).kp.size))
    go_wp2_with fail
    refine (HLv.out).mono ?_
    rintro e w5 ⟨d4,d5,d6,rfl,H5⟩
    have HI5:Hid (InPr w D rb ab w.heap.size ps ns (i+X.pz qs) kb l4 (k3+X.pz [p]) acc rv w5):=by
     obtain ⟨-,z2,z3⟩:=H5.out
     rw [hln] at z2
     exact (HI4.out).step hr ha hsep.1 z3 z2 (HN.out).2 (by omega)
    clear H5 HLv HI4
    obtain ⟨v5,hb5,hn5⟩:=(HI5.out).rw.blk
    have c0:=cell_of_row w5 _ 0 _ _ _ hb5
    obtain ⟨f4,f6,_,_,_,_,rfl,-⟩:=hn5.ex
    have c1:=cell_of_row w5 _ 1 _ _ _ hb5
    have HI6:=hide ((HI5.out).copy (fun {q} hq=>(HDl.out) q hq) ha (v:=.slice f4 l4.length f6) hb5)
    clear hb5 hn5 HI5
    go_wp2_with fail
    refine ⟨⟨w5.heap.size,l4,k3+X.pz [p],acc,rv,rfl,by omega,HI6⟩,?_⟩
    have:=(HI6.out).rw.len
    rw [hlen]
    show lenR w5.heap.size _<_
    rw [this];omega
   | true =>
    have HN:Hid (∃ nm,X.Nmp [p] k3 nm∧∃ ns',X.Nms l4 (k3+X.pz [p]) ns'∧ns=(acc++[nm])++ns'):=by
     obtain ⟨ns',g1,g2⟩:=(HI4.out).nms
     rcases (HHd.out) ns' g1 with ⟨-,nm,ns2,e1,e2,e3⟩|⟨e,-⟩
     ·exact ⟨nm,e2,ns2,e3,by rw [g2,e1,List.append_assoc];rfl⟩
     ·rw [hnq] at e;cases e
    obtain ⟨nm,hnm,hns'⟩:=HN.out
    have HNs:=hide hns'
    have hp0:w4.cell? ⟨w.heap.size,0,none⟩=some rv:=cell_of_row w4 _ 0 _ _ _ (HI4.out).par
    have hpf:w4.frozen? ⟨w.heap.size,0,none⟩=false:=by have:=(HI4.out).par;simp [World.frozen?,this]
    have HNm:=hide (wname_any D kb ab [p] nm l4 k3 w4.drew ((HI4.out).rw.below ((Below.refl _ w4).drew)) hnm (by rw [X.pz_app];omega) (by simp;omega) (fun q hq=>Nat.lt_of_lt_of_le ((HDl.out) q hq) (HI4.out).kp.size))
    have hacc:acc.length≤268435456:=by
     have:=congrArg List.length hns'.choose_spec.2
     simp at this;omega
    have HAf:Hid (∀ w5,IsRw w5 D kb ab l4 (k3+X.pz [p])∧Kq D kb ab w4.drew w5→w5.cell? ⟨w.heap.size,0,none⟩=some rv∧w5.frozen? ⟨w.heap.size,0,none⟩=false∧Kq D kb ab w4 w5∧w5.ownsRow w.heap.size 165 2 rv acc.length (nmv acc)∧w.heap.size<w5.heap.size∧(∀ q,rv.ownBlock=some q→q≠w.heap.size)):=fun w5 hx=>by
     have hkd:Kq D kb ab w4 w5:=(Kq.ofBelow ((Below.refl _ w4).drew) (Nat.lt_of_lt_of_le ha (HI4.out).kp.size)).trans hx.2
     obtain ⟨n1,n2,n3,n4⟩:=(HI4.out).new
     have hpar:=hkd.heap (HI4.out).par (by decide) (fun e=>n3 e.symm) (by omega)
     refine ⟨cell_of_row w5 _ 0 _ _ _ hpar,by simp [World.frozen?,hpar],hkd,hkd.owns (HI4.out).own (by decide) (fun g hg=>⟨(n4 g hg).1,?_⟩),heap_lt hpar,fun q hq=>(n4 q hq).2⟩
     have:=(owns_ge (HI4.out).own g hg).1
     omega
    clear hnm hns' HHd HN
    go_wp2_with fail
    refine wp_region_noPanic ?_
    refine wpTo_start (S:=fun w'=>w'.cell? ⟨w.heap.size,0,none⟩=some rv) (z:=10) (by kernel_rfl) ?_
    have hS:w4.drew.cell? ⟨w.heap.size,0,none⟩=some rv:=hp0
    iterate 5 (refine wpTo_nx0 (v:=?_) rfl rfl (by kernel_rfl) (by kernel_rfl) (by kernel_rfl) (by kernel_rfl) (fun _ _ _ h=>h) (Or.inl ⟨by rfl,?_⟩) hS ?_;rotate_left;(· (intro wx hSw;(try dsimp only at hSw);go_simp;try (with_reducible rfl)));simp only [Act.put,List.setIfInBounds_toArray,List.set_cons_zero,List.set_cons_succ])
    refine wpTo_one (i:=5) (by kernel_rfl) rfl (fun K hK=>?_)
    go_simp
    refine (HNm.out).mono ?_
    rintro e w5 ⟨rfl,H5⟩
    obtain ⟨g0,g1,g2,g3,g4,g5⟩:=(HAf.out) w5 H5.out
    have HG2:=hide g2
    have HG3:=hide g3
    have HG5:=hide g5
    have g6:=g5
    clear g2 g3 g5 HAf HNm
    dsimp only
    refine hK.out _ _ (fun _=>g0) (fun hS2=>?_)
    clear hS hK K hS2
    have hS:w5.cell? ⟨w.heap.size,0,none⟩=some rv:=g0
    try simp only [Act.put,List.setIfInBounds_toArray,List.set_cons_zero,List.set_cons_succ]
    refine wpTo_one (i:=6) (by kernel_rfl) rfl (fun K hK=>?_)
    go_simp
    refine hK.out _ _ (fun _=>Lib.cell?_alloc_some _ g0) (fun hS2=>?_)
    clear hS hK K hS2
    have hS:=fun o=>Lib.cell?_alloc_some (W:=w5) o g0
    refine wpTo_one (i:=7) (by kernel_rfl) rfl (fun K hK=>?_)
    refine step_append_lies _ (by rfl) _ _ _ (by rfl) w.heap.size 165 i0 _ 2 24 Tryz.underlying212 hi0 hz0 hz1 hz2 rfl (by omega) rv acc.length _ (by rfl) ((HG3.out).alloc _)
      ⟨w5.heap.size,0,none⟩ 1 1 [.string (ba nm.1),.int .i64 nm.2] (by rfl) (by rfl) (World.news_of_block (cs:=#[.string (ba nm.1),.int .i64 nm.2]) (heap_alloc_new w5 _)) (by simp [Value.oneCell'])
      (by omega) (by unfold maxLen;omega) (by omega) (by simp;omega) (w5.heap.size+1) (by simp) ?_
    intro g7 cap7 w7 hown7 hgrow7 hat7 hlt7
    have x1:w7.cell? ⟨w.heap.size,0,none⟩=some rv:=(hgrow7.cell_far ⟨w.heap.size,0,none⟩ (by simp;omega) (fun e=>(HG5.out) _ e.symm rfl)).trans (hS _)
    have x2:w7.frozen? ⟨w.heap.size,0,none⟩=false:=(hgrow7.frozen_far ⟨w.heap.size,0,none⟩ (by simp;omega) (fun e=>(HG5.out) _ e.symm rfl)).trans ((World.frozen?_alloc_old _ _ ⟨w.heap.size,0,none⟩ (by simp;omega)).trans g1)
    have HI7:=hide ((HI4.out).named hr ha HDl.out hsep.1 HG2.out (H5.out).1 HNs.out (by omega) _ hown7 hgrow7 hat7)
    clear hown7 hgrow7
    show K (Act.put _ (some 22) _) w7
    refine hK.out _ _ (fun _=>x1) (fun hS2=>?_)
    clear hS hK K hS2
    have hS:w7.cell? ⟨w.heap.size,0,none⟩=some rv:=x1
    simp only [Act.put,List.setIfInBounds_toArray,List.set_cons_zero,List.set_cons_succ]
    refine wpTo_one (i:=8) (by kernel_rfl) rfl (fun K hK=>?_)
    go_simp
    refine hK.out _ _ (fun _=>hS) (fun _=>?_)
    clear hK K
    refine wpTo_one (i:=9) (by kernel_rfl) rfl (fun K hK=>?_)
    go_simp
    refine hK.out _ _ (fun _=>hS) (fun _=>?_)
    clear hK K
    refine wpTo_one (i:=10) (by kernel_rfl) rfl (fun K hK=>?_)
    go_simp
    refine hK.out _ _ (fun h=>absurd rfl h) (fun _=>wpTo_end (by kernel_rfl) ?_)
    clear hK K
    refine NoPanic.normal ?_
    clear x1 x2 hS g0 g1
    generalize w7.setCell ⟨w.heap.size,0,none⟩ (.slice (some ⟨g7,0,none⟩) (acc.length+1) cap7)=w8 at *
    obtain ⟨v8,hb8,hn8⟩:=(HI7.out).rw.blk
    have c0:=cell_of_row w8 _ 0 _ _ _ hb8
    obtain ⟨f4,f6,_,_,_,_,rfl,-⟩:=hn8.ex
    have c1:=cell_of_row w8 _ 1 _ _ _ hb8
    have HI9:=hide ((HI7.out).copy (fun {q} hq=>(HDl.out) q hq) ha (v:=.slice f4 l4.length f6) hb8)
    clear hb8 hn8 HI7
    go_wp2_with fail
    refine ⟨⟨w8.heap.size,l4,k3+X.pz [p],acc++[nm],_,rfl,by omega,HI9⟩,?_⟩
    have:=(HI9.out).rw.len
    rw [hlen]
    show lenR w8.heap.size _<_
    rw [this];omega
end Go.Proofs.YtbmebfgapjhchaaGreatDoor
/- Package syntax: expressions in memory. -/
namespace Go.Proofs.YtbmebfgapjhchaaGreatDoor
open Go.RowKit
open M
inductive IsE (w:World) (lo hi:Nat):Value→X.Ex→Prop
 | lit {m n:Int} {z:Bool} (b k:Nat) (x:List UInt8) (hb:lo≤b∧b<hi) (h:w.heap[b]?=some (.cells #[.int .i64 m,.int .i64 n,.bool z,.int .i64 k,.string (ba x)] 269 (0,0))):IsE w lo hi (.iface 267 (.pointer (some ⟨b,0,none⟩))) (.lit k x)
 | hole {m n:Int} {z:Bool} (b i:Nat) (hb:lo≤b∧b<hi) (h:w.heap[b]?=some (.cells #[.int .i64 m,.int .i64 n,.bool z] 266 (0,0))):IsE w lo hi (.iface 265 (.pointer (some ⟨b,0,none⟩))) (.hole i)
 | missing {m n:Int} {z:Bool} (b:Nat) (hb:lo≤b∧b<hi) (h:w.heap[b]?=some (.cells #[.int .i64 m,.int .i64 n,.bool z] 242 (0,0))):IsE w lo hi (.iface 240 (.pointer (some ⟨b,0,none⟩))) .missing
 | var {m n:Int} {z:Bool} (b:Nat) (nm:X.Nm) (hb:lo≤b∧b<hi) (h:w.heap[b]?=some (.cells #[.int .i64 m,.int .i64 n,.bool z,.string (ba nm.1),.int .i64 nm.2] 264 (0,0))):IsE w lo hi (.iface 262 (.pointer (some ⟨b,0,none⟩))) (.var nm)
 | lett {m n:Int} {z:Bool} (b:Nat) (nm:X.Nm) (v1 v2:Value) (e1 e2:X.Ex) (hb:lo≤b∧b<hi) (h:w.heap[b]?=some (.cells #[.int .i64 m,.int .i64 n,.bool z,.string (ba nm.1),.int .i64 nm.2,v1,v2] 285 (0,0))) (h1:IsE w lo hi v1 e1) (h2:IsE w lo hi v2 e2):IsE w lo hi (.iface 243 (.pointer (some ⟨b,0,none⟩))) (.lett nm e1 e2)
 | ite {m n:Int} {z:Bool} (b:Nat) (v1 v2 v3:Value) (e1 e2 e3:X.Ex) (hb:lo≤b∧b<hi) (h:w.heap[b]?=some (.cells #[.int .i64 m,.int .i64 n,.bool z,v1,v2,v3] 249 (0,0))) (h1:IsE w lo hi v1 e1) (h2:IsE w lo hi v2 e2) (h3:IsE w lo hi v3 e3):IsE w lo hi (.iface 247 (.pointer (some ⟨b,0,none⟩))) (.ite e1 e2 e3)
 | fn {m n:Int} {z:Bool} (b pb:Nat) (ns:List X.Nm) (v:Value) (e:X.Ex) (hb:lo≤b∧b<hi) (h:w.heap[b]?=some (.cells #[.int .i64 m,.int .i64 n,.bool z,.pointer (some ⟨pb,0,none⟩),v] 281 (0,0))) (hp:IsPar w lo hi pb ns) (h1:IsE w lo hi v e):IsE w lo hi (.iface 250 (.pointer (some ⟨b,0,none⟩))) (.fn ns e)
 | bin {m n:Int} {z:Bool} (b:Nat) (v1 v2:Value) (x:List UInt8) (e1 e2:X.Ex) (hb:lo≤b∧b<hi) (h:w.heap[b]?=some (.cells #[.int .i64 m,.int .i64 n,.bool z,v1,.string (ba x),v2] 287 (0,0))) (h1:IsE w lo hi v1 e1) (h2:IsE w lo hi v2 e2):IsE w lo hi (.iface 252 (.pointer (some ⟨b,0,none⟩))) (.bin e1 x e2)
 | call {m n:Int} {z:Bool} (b:Nat) (v:Value) (e:X.Ex) (ao:Option Addr) (cap:Nat) (vs:Nat→Value) (es:List X.Ex) (hb:lo≤b∧b<hi) (h:w.heap[b]?=some (.cells #[.int .i64 m,.int .i64 n,.bool z,v,.slice ao es.length cap] 289 (0,0))) (hc:es.length≤cap∧cap≤maxLen) (h1:IsE w lo hi v e)
   (hr:∀ j,j<es.length→∃ g,ao=some ⟨g,0,none⟩∧lo≤g∧g<hi∧w.cell? ⟨g,j,none⟩=some (vs j)∧∃ c f,w.heap[g]?=some (.cells c 180 f)) (hp:∀ (j:Nat) (e:X.Ex),es[j]?=some e→IsE w lo hi (vs j) e):IsE w lo hi (.iface 254 (.pointer (some ⟨b,0,none⟩))) (.call e es)
 | list {m n:Int} {z:Bool} (b:Nat) (ao:Option Addr) (cap:Nat) (vs:Nat→Value) (es:List X.Ex) (hb:lo≤b∧b<hi) (h:w.heap[b]?=some (.cells #[.int .i64 m,.int .i64 n,.bool z,.slice ao es.length cap] 258 (0,0))) (hc:es.length≤cap∧cap≤maxLen)
   (hr:∀ j,j<es.length→∃ g,ao=some ⟨g,0,none⟩∧lo≤g∧g<hi∧w.cell? ⟨g,j,none⟩=some (vs j)∧∃ c f,w.heap[g]?=some (.cells c 180 f)) (hp:∀ (j:Nat) (e:X.Ex),es[j]?=some e→IsE w lo hi (vs j) e):IsE w lo hi (.iface 256 (.pointer (some ⟨b,0,none⟩))) (.list es)
 | group {m n:Int} {z:Bool} (b:Nat) (v:Value) (e:X.Ex) (hb:lo≤b∧b<hi) (h:w.heap[b]?=some (.cells #[.int .i64 m,.int .i64 n,.bool z,v] 261 (0,0))) (h1:IsE w lo hi v e):IsE w lo hi (.iface 259 (.pointer (some ⟨b,0,none⟩))) (.group e)
theorem IsE.keepi {S:Nat→Prop} {w w':World} (hk:Kp S w w') {lo hi:Nat} (hS:∀ i,lo≤i→i<hi→S i→∃ c f,w.heap[i]?=some (.cells c 3 f)) {v:Value} {e:X.Ex} (h:IsE w lo hi v e):IsE w' lo hi v e:=by
 have hp:∀ {b:Nat} {c:Array Value} {T:TypeId} {f:Nat × Nat},lo≤b∧b<hi→w.heap[b]?=some (.cells c T f)→T≠3→¬ S b:=fun hb h hT e=>not_int h hT (hS _ hb.1 hb.2 e)
 have hq:∀ {b:Nat} {c:Array Value} {T:TypeId} {f:Nat × Nat},lo≤b∧b<hi→w.heap[b]?=some (.cells c T f)→T≠3→w'.heap[b]?=some (.cells c T f):=fun hb h hT=>hk.heap h (hp hb h hT)
 induction h with
 | lit b k x hb h=>exact .lit b k x hb (hq hb h (by decide))
 | hole b i hb h=>exact .hole b i hb (hq hb h (by decide))
 | missing b hb h=>exact .missing b hb (hq hb h (by decide))
 | var b n hb h=>exact .var b n hb (hq hb h (by decide))
 | lett b n v1 v2 e1 e2 hb h h1 h2 i1 i2=>exact .lett b n v1 v2 e1 e2 hb (hq hb h (by decide)) i1 i2
 | ite b v1 v2 v3 e1 e2 e3 hb h h1 h2 h3 i1 i2 i3=>exact .ite b v1 v2 v3 e1 e2 e3 hb (hq hb h (by decide)) i1 i2 i3
 | fn b pb ns v e hb h hp h1 i1=>exact .fn b pb ns v e hb (hq hb h (by decide)) (hp.keepi hk hS) i1
 | bin b v1 v2 x e1 e2 hb h h1 h2 i1 i2=>exact .bin b v1 v2 x e1 e2 hb (hq hb h (by decide)) i1 i2
 | call b v e ao cap vs es hb h hc h1 hr hp' i1 ip=>exact .call b v e ao cap vs es hb (hq hb h (by decide)) hc i1 (fun j hj=>by obtain ⟨g,x1,x2,x3,x4,c,f,x5⟩:=hr j hj;exact ⟨g,x1,x2,x3,hk.cellv x4 (hp ⟨x2,x3⟩ x5 (by decide)),c,f,hq ⟨x2,x3⟩ x5 (by decide)⟩) ip
 | list b ao cap vs es hb h hc hr hp' ip=>exact .list b ao cap vs es hb (hq hb h (by decide)) hc (fun j hj=>by obtain ⟨g,x1,x2,x3,x4,c,f,x5⟩:=hr j hj;exact ⟨g,x1,x2,x3,hk.cellv x4 (hp ⟨x2,x3⟩ x5 (by decide)),c,f,hq ⟨x2,x3⟩ x5 (by decide)⟩) ip
 | group b v e hb h h1 i1=>exact .group b v e hb (hq hb h (by decide)) i1
theorem IsE.keep {S:Nat→Prop} {w w':World} (hk:Kp S w w') {lo hi:Nat} (hS:∀ i,lo≤i→i<hi→¬ S i) {v:Value} {e:X.Ex} (h:IsE w lo hi v e):IsE w' lo hi v e:=h.keepi hk (fun i h1 h2 e=>absurd e (hS i h1 h2))
theorem IsE.keepq {D:Nat→Prop} {rb ab:Nat} {w w':World} (hk:Kq D rb ab w w') {lo hi:Nat} {v:Value} {e:X.Ex} (h:IsE w lo hi v e) (h1:rb<lo) (h2:ab<lo):IsE w' lo hi v e:=h.keepi hk.kp (fun _ hi _ e=>e.int h1 h2 hi)
theorem stood3 {w:World} {b q:Nat} {T:TypeId} {m n m' n':Int} {z z':Bool} {r:List Value} (h:w.heap[q]?=some (.cells (List.toArray (.int .i64 m::.int .i64 n::.bool z::r)) T (0,0))):∃ m2 n2 z2,(((w.setCell ⟨b,0,none⟩ (.int .i64 m')).setCell ⟨b,1,none⟩ (.int .i64 n')).setCell ⟨b,2,none⟩ (.bool z')).heap[q]?=some (.cells (List.toArray (.int .i64 m2::.int .i64 n2::.bool z2::r)) T (0,0)):=by
 by_cases e:q=b
 ·subst e
  exact ⟨m',n',z',by simp [World.setCell,Array.getElem?_modify,h]⟩
 ·exact ⟨m,n,z,by rw [set_far e,set_far e,set_far e];exact h⟩
theorem IsE.stood {w:World} {lo hi b:Nat} {c:Array Value} {T:TypeId} {f:Nat × Nat} (hb:w.heap[b]?=some (.cells c T f)) (hT:T≠180∧T≠165∧T≠214) (m' n':Int) (z':Bool) {v:Value} {e:X.Ex} (h:IsE w lo hi v e):IsE (((w.setCell ⟨b,0,none⟩ (.int .i64 m')).setCell ⟨b,1,none⟩ (.int .i64 n')).setCell ⟨b,2,none⟩ (.bool z')) lo hi v e:=by
 have hk:Kp (fun q=>q=b) w (((w.setCell ⟨b,0,none⟩ (.int .i64 m')).setCell ⟨b,1,none⟩ (.int .i64 n')).setCell ⟨b,2,none⟩ (.bool z')):=On.set (On.set (On.set (Kp.refl _ w) 0 _) 1 _) 2 _
 have ht:∀ {g:Nat} {c':Array Value} {T':TypeId} {f':Nat × Nat},w.heap[g]?=some (.cells c' T' f')→T≠T'→¬ g=b:=fun h hne e=>by
  subst e
  rw [hb] at h
  injection h with h
  injection h with h1 h2
  exact hne h2
 have hr':∀ {g j:Nat} {u:Value} {c':Array Value} {f':Nat × Nat},w.cell? ⟨g,j,none⟩=some u→w.heap[g]?=some (.cells c' 180 f')→(((w.setCell ⟨b,0,none⟩ (.int .i64 m')).setCell ⟨b,1,none⟩ (.int .i64 n')).setCell ⟨b,2,none⟩ (.bool z')).cell? ⟨g,j,none⟩=some u∧∃ c f,(((w.setCell ⟨b,0,none⟩ (.int .i64 m')).setCell ⟨b,1,none⟩ (.int .i64 n')).setCell ⟨b,2,none⟩ (.bool z')).heap[g]?=some (.cells c 180 f):=fun h1 h2=>⟨hk.cellv h1 (ht h2 hT.1),_,_,hk.heap h2 (ht h2 hT.1)⟩
 induction h with
 | lit q k x hq h=>obtain ⟨_,_,_,h'⟩:=stood3 h;exact .lit q k x hq h'
 | hole q i hq h=>obtain ⟨_,_,_,h'⟩:=stood3 h;exact .hole q i hq h'
 | missing q hq h=>obtain ⟨_,_,_,h'⟩:=stood3 h;exact .missing q hq h'
 | var q n hq h=>obtain ⟨_,_,_,h'⟩:=stood3 h;exact .var q n hq h'
 | lett q n v1 v2 e1 e2 hq h h1 h2 i1 i2=>obtain ⟨_,_,_,h'⟩:=stood3 h;exact .lett q n v1 v2 e1 e2 hq h' i1 i2
 | ite q v1 v2 v3 e1 e2 e3 hq h h1 h2 h3 i1 i2 i3=>obtain ⟨_,_,_,h'⟩:=stood3 h;exact .ite q v1 v2 v3 e1 e2 e3 hq h' i1 i2 i3
 | fn q pb ns v e hq h hp h1 i1 =>
  obtain ⟨_,_,_,h'⟩:=stood3 h
  refine .fn q pb ns v e hq h' ?_ i1
  obtain ⟨ao,cap,x1,x2,x3,x4⟩:=hp.ex
  refine ⟨hp.bd,ao,cap,hk.heap x1 (ht x1 hT.2.2),x2,x3,fun j n hj=>?_⟩
  obtain ⟨g,y1,y2,y3,y4,y5,c',f',y6⟩:=x4 j n hj
  exact ⟨g,y1,y2,y3,hk.cellv y4 (ht y6 hT.2.1),hk.cellv y5 (ht y6 hT.2.1),c',f',hk.heap y6 (ht y6 hT.2.1)⟩
 | bin q v1 v2 x e1 e2 hq h h1 h2 i1 i2=>obtain ⟨_,_,_,h'⟩:=stood3 h;exact .bin q v1 v2 x e1 e2 hq h' i1 i2
 | call q v e ao cap vs es hq h hc h1 hr hp i1 ip =>
  obtain ⟨_,_,_,h'⟩:=stood3 h
  exact .call q v e ao cap vs es hq h' hc i1 (fun j hj=>by obtain ⟨g,x1,x2,x3,x4,c,f,x5⟩:=hr j hj;exact ⟨g,x1,x2,x3,hr' x4 x5⟩) ip
 | list q ao cap vs es hq h hc hr hp ip =>
  obtain ⟨_,_,_,h'⟩:=stood3 h
  exact .list q ao cap vs es hq h' hc (fun j hj=>by obtain ⟨g,x1,x2,x3,x4,c,f,x5⟩:=hr j hj;exact ⟨g,x1,x2,x3,hr' x4 x5⟩) ip
 | group q v e hq h h1 i1=>obtain ⟨_,_,_,h'⟩:=stood3 h;exact .group q v e hq h' i1
theorem IsPar.wide {w:World} {lo hi lo' hi' pb:Nat} {ns:List X.Nm} (h:IsPar w lo hi pb ns) (h1:lo'≤lo) (h2:hi≤hi'):IsPar w lo' hi' pb ns:=by
 obtain ⟨ao,cap,x1,x2,x3,x4⟩:=h.ex
 have:=h.bd
 exact ⟨⟨by omega,by omega⟩,ao,cap,x1,x2,x3,fun j n hj=>by obtain ⟨g,e1,e2,e3,e4⟩:=x4 j n hj;exact ⟨g,e1,by omega,by omega,e4⟩⟩
theorem IsE.wide {w:World} {lo hi lo' hi':Nat} (q1:lo'≤lo) (q2:hi≤hi') {v:Value} {e:X.Ex} (h:IsE w lo hi v e):IsE w lo' hi' v e:=by
 induction h with
 | lit b k x hb h=>exact .lit b k x ⟨by omega,by omega⟩ h
 | hole b i hb h=>exact .hole b i ⟨by omega,by omega⟩ h
 | missing b hb h=>exact .missing b ⟨by omega,by omega⟩ h
 | var b n hb h=>exact .var b n ⟨by omega,by omega⟩ h
 | lett b n v1 v2 e1 e2 hb h h1 h2 i1 i2=>exact .lett b n v1 v2 e1 e2 ⟨by omega,by omega⟩ h i1 i2
 | ite b v1 v2 v3 e1 e2 e3 hb h h1 h2 h3 i1 i2 i3=>exact .ite b v1 v2 v3 e1 e2 e3 ⟨by omega,by omega⟩ h i1 i2 i3
 | fn b pb ns v e hb h hp h1 i1=>exact .fn b pb ns v e ⟨by omega,by omega⟩ h (hp.wide q1 q2) i1
 | bin b v1 v2 x e1 e2 hb h h1 h2 i1 i2=>exact .bin b v1 v2 x e1 e2 ⟨by omega,by omega⟩ h i1 i2
 | call b v e ao cap vs es hb h hc h1 hr hp i1 ip=>exact .call b v e ao cap vs es ⟨by omega,by omega⟩ h hc i1 (fun j hj=>by obtain ⟨g,x1,x2,x3,x4⟩:=hr j hj;exact ⟨g,x1,by omega,by omega,x4⟩) ip
 | list b ao cap vs es hb h hc hr hp ip=>exact .list b ao cap vs es ⟨by omega,by omega⟩ h hc (fun j hj=>by obtain ⟨g,x1,x2,x3,x4⟩:=hr j hj;exact ⟨g,x1,by omega,by omega,x4⟩) ip
 | group b v e hb h h1 i1=>exact .group b v e ⟨by omega,by omega⟩ h i1
theorem IsE.iface {w:World} {lo hi:Nat} {v:Value} {e:X.Ex} (h:IsE w lo hi v e):∃ ty b,v=.iface ty (.pointer (some ⟨b,0,none⟩)):=by
 cases h<;>exact ⟨_,_,rfl⟩
theorem rw_inner {w:World} {D:Nat→Prop} {ab:Nat} {qs:List X.Part} {i:Nat} {kv:Value} (hp:Psd w D ab i) (hk:NdS w D kv qs) (hq:X.Gd qs) (hd:¬ D ab) (hDl:∀ q,D q→q<w.heap.size) :
  IsRw (w.alloc (.cells #[.pointer (some ⟨ab,0,none⟩),kv] 123)) D w.heap.size ab qs i:=by
 have kB:Below w.heap.size w (w.alloc (.cells #[.pointer (some ⟨ab,0,none⟩),kv] 123)):=(Below.refl _ w).alloc (Nat.le_refl _) _
 have:=hp.lt
 exact ⟨⟨kv,heap_alloc_new w _,hk.keep (Kp.ofBelow kB (fun _=>False)) (fun _ _=>id)⟩,hp.below kB,⟨by omega,fun h=>by have:=hDl _ h;omega,hd⟩,hq⟩
theorem rw_both {w2:World} {D:Nat→Prop} {rb ab:Nat} {ps qs:List X.Part} {i:Nat} {kv:Value} (h:IsRw w2 D rb ab ps i) (hk:NdS w2 D kv qs) (hq:X.Gd qs) (hDl:∀ q,D q→q<w2.heap.size) :
  IsRw (w2.alloc (.cells #[.pointer (some ⟨ab,0,none⟩),kv] 123)) D w2.heap.size ab qs i∧∀ (w3:World) (l:List X.Part) (k:Nat),IsRw w3 D w2.heap.size ab l k→Kq D w2.heap.size ab (w2.alloc (.cells #[.pointer (some ⟨ab,0,none⟩),kv] 123)) w3→IsRw w3 D rb ab ps k∧Kq D rb ab w2 w3:=by
 have kB:Below w2.heap.size w2 (w2.alloc (.cells #[.pointer (some ⟨ab,0,none⟩),kv] 123)):=(Below.refl _ w2).alloc (Nat.le_refl _) _
 obtain ⟨hrl,hal⟩:=h.lt
 exact ⟨rw_inner h.psd hk hq h.sep.2.2 hDl,fun w3 l k hw hkp=>⟨(h.below kB).other hkp hw (by omega),(Kq.ofBelow kB hal).inner hkp (Nat.le_refl _)⟩⟩
def ExOk (p:X.Part):Prop:=∀ (e:X.Ex) (i:Nat) (D:Nat→Prop) (rb ab:Nat) (ps:List X.Part) (w:World),X.Rd p i e→IsRw w D rb ab (p::ps) i→i+X.pz [p]≤1073741824→(∀ q,D q→q<w.heap.size) →
 Calls Tryz.prog 75 #[.pointer (some ⟨rb,0,none⟩)] w fun en w'=>∃ v,en=.returned v∧Hid (IsE w' w.heap.size w'.heap.size v e∧IsRw w' D rb ab ps (i+X.pz [p])∧Kq D rb ab w w')
end Go.Proofs.YtbmebfgapjhchaaGreatDoor
