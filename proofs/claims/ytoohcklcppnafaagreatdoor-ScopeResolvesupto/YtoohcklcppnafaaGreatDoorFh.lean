import Derived.Test.YtoohcklcppnafaaGreatDoorFc
import Derived.Test.YtoohcklcppnafaaGreatDoorTa
namespace Go.Proofs.YtoohcklcppnafaaGreatDoor
set_option maxRecDepth 100000
set_option maxHeartbeats 4000000
open Tryz
open Go.RowKit
open M
theorem Zu:(prog.info? 87).map (fun i=>(i.zero,i.size,i.bytes))=some (some (.agg #[ak 0,ak 0,ak 0]),3,24):=bC
theorem uO(s:ByteArray)(w:aG)(hs:s.size≤1073741824) :
  bB 28 #[.string s] w fun e w'=>∃ v,e=.returned v∧w'.ownsRow w.heap.size 87 3 v (toks 0 (bs s)).length ((toks 0 (bs s)).flatMap uq)∧Below w.heap.size w w':=by
 obtain⟨i0,hi0,hz0,hz1,hz2⟩:=dM Zu;go_enter func28,ntmps28;go_wp2_with fail
 go_loopw [3,4] (fun v i wr=>∃(L0:List Tk) (q:Nat),i=ak q∧q≤s.size∧L0.length≤q∧Hid (wr.ownsRow w.heap.size 87 3 v L0.length (L0.flatMap uq))∧Hid (toks 0 (bs s)=L0++toks q ((bs s).drop q))∧Below w.heap.size w wr) (fun _ i _=>s.size - (intOf i).toNat)
 case atStart=>exact⟨[],0,rfl,au,aT,dK _ _ _ _,(aT:toks 0 (bs s)=[]++toks 0 ((bs s).drop 0)),aB _ _⟩
 case round =>
  obtain⟨L0,q,rfl,hq,hl0,HO,HE,hB⟩:=hrel;by_cases hlt:q<s.size
  ·have hsz:=hB.size
   go_wp2_with fail
   refine(VP s q _ hs hlt).aX fun w2 k2=>?_;have hsz2:=k2.size;have hown2:w2.ownsRow w.heap.size 87 3 u3 L0.length (L0.flatMap uq):=Kp.owns (S:=fun _=>False) (Kp.aN k2 _) HO.o (fun _ _=>id);have Md:=aA hown2;have hB2:Below w.heap.size w w2:=hB.trans (k2.mono hsz);have HB2:=aA hB2;have htl:=yA hlt;have hbd:=jG (iJ hlt);clear hown2 hB2 k2;obtain⟨T,hT⟩:∃ T,M.tok ((bs s).drop q)=T:=⟨_,rfl⟩;have HT:=aA hT;rw[hT] at htl hbd ⊢;clear hT;go_wp2_with (at_builtin;refine wpList_append_lies _ rfl _ _ 84 rfl w.heap.size 87 i0 _ 3 24 underlying84 hi0 hz0 hz1 hz2 rfl aS u3 L0.length _ rfl (((Md.o).alloc _).alloc _) ⟨w2.heap.size+1,0,none⟩ 1 1 (uq ⟨T.1,q,T.2⟩) rfl rfl (World.news_of_block (cs:=#[ak T.1,ak q,ak T.2]) (by have:=aI (w2.alloc (.cells #[ak T.1,ak q,ak T.2] 87)) (.cells #[ak T.1,ak q,ak T.2] 87);simpa using this)) (by simp[Value.oneCell',uq]) au (by unfold maxLen;omega) au aQ (w2.heap.size+2) aT ?_;intro g cap w5 hown5 aV gI jm;have kW:Kp (fun k=>u3.ownBlock=some k) ((w2.alloc (.cells #[ak T.1,ak q,ak T.2] 87)).alloc (.cells #[ak T.1,ak q,ak T.2] 87)) w5:=Kp.grown (Kp.refl _ _) aV (fun k e _=>e);have g5:qV w5 w2.heap.size (ak T.1) (ak q) (ak T.2):=Kp.heap kW (Kp.heap (Kp.alloc (Kp.refl (fun _=>False) (w2.alloc (.cells #[ak T.1,ak q,ak T.2] 87))) _) (qV.new w2 _ _ _) id) (fun e=>by have:=(dG Md.o _ e).2;omega);obtain⟨⟨-,-,c5⟩,-⟩:=g5.facts)
   have hge:=dG Md.o;refine⟨⟨L0++[⟨T.1,q,T.2⟩],q+T.2,by go_num,htl,by rw[ay];simp only[bF];omega,?_,?_,?_⟩,by simp[intOf];omega⟩
   ·show w5.ownsRow _ _ _ _ _ _
    rw[CZ,ay];exact hown5
   ·show _=_
    rw[HE.o,kZ (iJ hlt),cZ,HT.o];simp
   ·have k3:Kp (fun k=>u3.ownBlock=some k) w2 w5:=Kp.trans (Kp.alloc (Kp.alloc (Kp.refl _ w2) _) _) kW (fun _ _ e=>e)
    exact(HB2.o).trans (k3.below au (fun k e=>(hge k e).1))
  ·have hqe:q=s.size:=by omega
   have HEN:Hid ((bs s).drop q=[]):=by show _=_;rw[hqe,← eY];simp
   go_wp2_with fail
   go_ret;have e1:toks 0 (bs s)=L0:=by have:=HE.o;rw[HEN.o,jS,aL] at this;exact this
   rw[e1];exact⟨_,rfl,HO.o,hB⟩
section
variable{l:ah}{k:Nat}
theorem Nv{a:Nat}{t:ah}:toks a t=[]↔t=[]:=by
 constructor
 ·intro h
  by_cases h0:t=[]
  ·exact h0
  ·rw[kZ h0] at h;cases h
 ·rintro rfl;exact jS a
theorem JW:lH l k=true↔toks 0 l=[⟨k,0,l.length⟩]:=by
 unfold lH;rw[decide_eq_true_iff];constructor
 ·rintro⟨h0,h1⟩
  rw[kZ h0,h1];simp only[List.drop_length,jS]
 ·intro h
  have h0:l≠[]:=by rintro rfl;rw[jS] at h;cases h
  refine⟨h0,?_⟩;rw[kZ h0] at h;injection h with h1 _;injection h1 with a b c;exact Prod.ext a c
theorem Nw(h:lH l k=false):(toks 0 l).length≠1∨∃ t,toks 0 l=[t]∧t.kind≠k:=by
 by_cases h1:(toks 0 l).length=1
 ·right
  have h0:l≠[]:=by rintro rfl;rw[jS] at h1;cases h1
  rw[kZ h0] at h1 ⊢;have h2:toks (0+(M.tok l).2) (l.drop (M.tok l).2)=[]:=by simpa using h1
  have h3:=Nv.1 h2;have hb:=jG h0;have h4:(M.tok l).2=l.length:=by have:=congrArg List.length h3;simp at this;omega
  refine⟨_,by rw[h2],?_⟩;simp only;intro e;have:lH l k=true:=by unfold lH;exact mJ ⟨h0,Prod.ext e h4⟩
  rw[h] at this;cases this
 ·exact .inl h1
theorem F_(s:ByteArray)(w:aG)(hs:s.size≤1073741824) :
  bB 13 #[.string s] w (cK (.bool (decide (s.size≤40)&&lH (bs s) 3)) fun w'=>Below w.heap.size w w'):=by
 go_enter func13,ntmps13;go_wp2_with fail
 refine(uO s _ hs).mono ?_;rintro e w1 ⟨v,rfl,hown,k1⟩;have hT:=yt.zP hown;have H1:=aA hT;have K1:=aA k1;clear k1 hown;by_cases h40:s.size≤40
 case neg =>
  have i1:decide ((s.size:Int)≤40)=false:=aQ
  have HD:Hid ((decide (s.size≤40)&&lH (bs s) 3)=false):=by show _=_;rw[decide_eq_false h40];rfl
  clear hT;go_wp2_with fail
  go_ret;exact⟨jQ HD.o.symm,K1.o⟩
 have i1:decide ((s.size:Int)≤40)=true:=aQ
 cases ha:lH (bs s) 3
 ·have HD:Hid ((decide (s.size≤40)&&lH (bs s) 3)=false):=by show _=_;rw[ha,Bool.and_false]
  rcases Nw ha with hl|⟨t,ht,hk⟩
  ·obtain⟨ao,cap,rfl,hc1,hc2,-⟩:=hT
   have i2:(((toks 0 (bs s)).length:Int)==1)=false:=aQ
   clear ha hl;go_wp2_with fail
   go_ret;exact⟨jQ HD.o.symm,K1.o⟩
  ·rw[ht] at hT H1
   obtain⟨ao,cap,rfl,hc1,hc2,-⟩:=hT;obtain⟨b,o,t',rfl,ht',q1,q2,q3⟩:=(H1.o).get (aB _ w1) (k:=0) aT;obtain rfl:t=t':=by simpa using ht'
   simp only[Nat.zero_mul,Nat.add_zero] at q1 q2 q3;have i3:((t.kind:Int)==3)=false:=aQ
   clear ha ht hk ht';go_wp2_with fail
   go_ret;exact⟨jQ HD.o.symm,K1.o⟩
 ·have HD:Hid ((decide (s.size≤40)&&lH (bs s) 3)=true):=by show _=_;rw[ha,mJ h40];rfl
  have ht:=JW.1 ha;rw[ht] at hT H1;obtain⟨ao,cap,rfl,hc1,hc2,-⟩:=hT;obtain⟨b,o,t',rfl,ht',q1,q2,q3⟩:=(H1.o).get (aB _ w1) (k:=0) aT;obtain rfl:(⟨3,0,(bs s).length⟩:Tk)=t':=by simpa using ht'
  simp only[Nat.zero_mul,Nat.add_zero] at q1 q2 q3;clear ha ht ht';go_wp2_with fail
  go_ret;exact⟨jQ HD.o.symm,K1.o⟩
end
end Go.Proofs.YtoohcklcppnafaaGreatDoor
