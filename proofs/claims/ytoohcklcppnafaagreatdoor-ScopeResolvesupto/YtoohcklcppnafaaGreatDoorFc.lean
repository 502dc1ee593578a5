import Derived.Test.YtoohcklcppnafaaGreatDoorEg
import Derived.Test.YtoohcklcppnafaaGreatDoorFa
namespace Go.Proofs.YtoohcklcppnafaaGreatDoor
set_option maxRecDepth 100000
set_option maxHeartbeats 8000000
open Tryz
open Go.RowKit
open M
def wk(l:ah):Nat:=if mh l then 4 else 3
def qV(w:aG)(b:Nat)(x0 x1 x2:Value):Prop:=w.heap[b]?=some (.cells #[x0,x1,x2] 87 (0,0))
theorem qV.new(w:aG)(x0 x1 x2:Value):qV (w.alloc (.cells #[x0,x1,x2] 87)) w.heap.size x0 x1 x2:=by
 show(w.heap.push _)[w.heap.size]?=_;simp
theorem qV.facts{w:aG}{b:Nat}{x0 x1 x2:Value}(h:qV w b x0 x1 x2) :
  (w.cell? (aC b 0)=some x0∧w.cell? (aC b 1)=some x1∧w.cell? (aC b 2)=some x2) ∧
  (w.frozen? (aC b 0)=false∧w.frozen? (aC b 1)=false∧w.frozen? (aC b 2)=false):=by
 unfold qV at h;refine⟨⟨?_,?_,?_⟩,?_,?_,?_⟩<;>simp[World.cell?,World.frozen?,h]
theorem Kk{t:ah}(h:t≠[])(hl:isLt (cc t)=true):skip jT t=sz t+skip jT (nx t):=jI h (by unfold jT;rw[hl];rfl)
theorem Rl(s:ByteArray)(p:Nat)(w:aG)(hs:s.size≤1073741824)(hp:p<s.size)(hlt:isLt (cc ((bs s).drop p))=true) :
  bB 54 #[.string s,ak p] w (cK (.agg #[ak (wk (((bs s).drop p).take (skip jT ((bs s).drop p))):Nat),ak p,ak (skip jT ((bs s).drop p):Nat)]) fun w'=>Below w.heap.size w w'):=by
 have b9:(cc ((bs s).drop p)==9)=false:=by simp;intro e;rw[e] at hlt;revert hlt;decide
 have b10:(cc ((bs s).drop p)==10)=false:=by simp;intro e;rw[e] at hlt;revert hlt;decide
 have b13:(cc ((bs s).drop p)==13)=false:=by simp;intro e;rw[e] at hlt;revert hlt;decide
 have b32:(cc ((bs s).drop p)==32)=false:=by simp;intro e;rw[e] at hlt;revert hlt;decide
 have hh:hasB s p 123 45=false:=jK (fun e=>by rw[e] at hlt;revert hlt;decide);have hh0:hasB s p 45 45=false:=jK (fun e=>by rw[e] at hlt;revert hlt;decide);go_enter func54,ntmps54;go_wp2_with fail
 refine(fF s p _ hp).cO ?_;go_wp2_with fail
 refine(dZ _ _).cO ?_;go_wp2_with fail
 refine(jR s p _ hp hs).cO ?_;go_wp2_with fail
 refine(jJ s p _ hp hs).cO ?_;go_wp2_with fail
 rename_i w'
 go_loop [8] (fun i=>∃ k:Nat,i=ak k∧p≤k∧k≤s.size∧Hid (p+skip jT ((bs s).drop p)=k+skip jT ((bs s).drop k))) (fun i=>s.size - (intOf i).toNat)
 case atStart=>exact⟨p,rfl,ax _,au,rfl⟩
 case round =>
  obtain⟨k,rfl,hpk,hk,HI⟩:=hrel;have fin:Hid (skip jT ((bs s).drop k)=0→mh (((bs s).drop p).take (skip jT ((bs s).drop p)))=mh (bs (s.extract p k))∧((k:Int) - (p:Int))=((skip jT ((bs s).drop p):Nat):Int)):=by
   show _→_;intro h0;have h:=HI.o;rw[h0] at h;refine⟨?_,au⟩;rw[xH,oP,show k - p=skip jT ((bs s).drop p) by omega]
  by_cases hk1:k<s.size
  case neg =>
   have HE:Hid (skip jT ((bs s).drop k)=0):=by show _=_;rw[show(bs s).drop k=[] by rw[List.drop_eq_nil_iff,eY];omega,lI]
   go_wp2_with fail
   refine(tu _ _).aX fun w2 k2=>?_;obtain⟨hw,hlen⟩:=(fin.o) HE.o;have HW:=aA hw;have HLEN:=aA hlen;have g0:qV w2 w.heap.size (ak 0) (ak 0) (ak 0):=Kp.heap (S:=fun _=>False) (Kp.aN k2 _) (qV.new w _ _ _) id;obtain⟨⟨x0,x1,x2⟩,y0,y1,y2⟩:=g0.facts;have BB:=((aB _ w).alloc (ax _) _).trans (k2.mono aT);have HB:=aA BB;clear BB k2 g0 hw hlen;generalize hwd:mh (bs (s.extract p k))=wb;have HV:=aA hwd;clear hwd;cases wb
   ·go_wp2_with fail
    exact aW (v:=.agg #[ak 3,ak p,ak ((k:Int) - (p:Int))]) (by simp[results,results54,go_sem,x0,x1,x2]) rfl ⟨jk (by unfold wk;rw[HW.o,HV.o];rfl) rfl HLEN.o,(((HB.o).setCell (p:=⟨w.heap.size,0,none⟩) (ax _) _).setCell (p:=⟨w.heap.size,1,none⟩) (ax _) _).setCell (p:=⟨w.heap.size,2,none⟩) (ax _) _⟩
   ·go_wp2_with fail
    exact aW (v:=.agg #[ak 4,ak p,ak ((k:Int) - (p:Int))]) (by simp[results,results54,go_sem,x0,x1,x2]) rfl ⟨jk (by unfold wk;rw[HW.o,HV.o];rfl) rfl HLEN.o,(((HB.o).setCell (p:=⟨w.heap.size,0,none⟩) (ax _) _).setCell (p:=⟨w.heap.size,1,none⟩) (ax _) _).setCell (p:=⟨w.heap.size,2,none⟩) (ax _) _⟩
  have i1:(k:Int)<(s.size:Int):=au
  have VJ:=uY ((bs s).drop k);have HZ:=aA (jV (s:=s) (p:=k) au);have hz1:=jH (iJ hk1);cases hl:isLt (cc ((bs s).drop k))
  ·by_cases h48:cc ((bs s).drop k)<48
   ·have HE:Hid (skip jT ((bs s).drop k)=0):=lW (by unfold jT iR;rw[hl];simp;omega)
    have j48:decide (cc ((bs s).drop k)<48)=true:=by simpa using h48
    go_wp2_with fail
    refine(fF s k _ hk1).cO ?_;go_wp2_with fail
    refine(dZ _ _).cO ?_;go_wp2_with fail
    refine(tu _ _).aX fun w2 k2=>?_;obtain⟨hw,hlen⟩:=(fin.o) HE.o;have HW:=aA hw;have HLEN:=aA hlen;have g0:qV w2 w.heap.size (ak 0) (ak 0) (ak 0):=Kp.heap (S:=fun _=>False) (Kp.aN k2 _) (qV.new w _ _ _) id;obtain⟨⟨x0,x1,x2⟩,y0,y1,y2⟩:=g0.facts;have BB:=((aB _ w).alloc (ax _) _).trans (k2.mono aT);have HB:=aA BB;clear BB k2 g0 hw hlen;generalize hwd:mh (bs (s.extract p k))=wb;have HV:=aA hwd;clear hwd;cases wb
    ·go_wp2_with fail
     exact aW (v:=.agg #[ak 3,ak p,ak ((k:Int) - (p:Int))]) (by simp[results,results54,go_sem,x0,x1,x2]) rfl ⟨jk (by unfold wk;rw[HW.o,HV.o];rfl) rfl HLEN.o,(((HB.o).setCell (p:=⟨w.heap.size,0,none⟩) (ax _) _).setCell (p:=⟨w.heap.size,1,none⟩) (ax _) _).setCell (p:=⟨w.heap.size,2,none⟩) (ax _) _⟩
    ·go_wp2_with fail
     exact aW (v:=.agg #[ak 4,ak p,ak ((k:Int) - (p:Int))]) (by simp[results,results54,go_sem,x0,x1,x2]) rfl ⟨jk (by unfold wk;rw[HW.o,HV.o];rfl) rfl HLEN.o,(((HB.o).setCell (p:=⟨w.heap.size,0,none⟩) (ax _) _).setCell (p:=⟨w.heap.size,1,none⟩) (ax _) _).setCell (p:=⟨w.heap.size,2,none⟩) (ax _) _⟩
   ·have j48:decide (cc ((bs s).drop k)<48)=false:=by simpa using h48
    by_cases h57:57<cc ((bs s).drop k)
    ·have HE:Hid (skip jT ((bs s).drop k)=0):=lW (by unfold jT iR;rw[hl];simp;omega)
     have j57:decide (57<cc ((bs s).drop k))=true:=by simpa using h57
     go_wp2_with fail
     refine(fF s k _ hk1).cO ?_;go_wp2_with fail
     refine(dZ _ _).cO ?_;go_wp2_with fail
     refine(tu _ _).aX fun w2 k2=>?_;obtain⟨hw,hlen⟩:=(fin.o) HE.o;have HW:=aA hw;have HLEN:=aA hlen;have g0:qV w2 w.heap.size (ak 0) (ak 0) (ak 0):=Kp.heap (S:=fun _=>False) (Kp.aN k2 _) (qV.new w _ _ _) id;obtain⟨⟨x0,x1,x2⟩,y0,y1,y2⟩:=g0.facts;have BB:=((aB _ w).alloc (ax _) _).trans (k2.mono aT);have HB:=aA BB;clear BB k2 g0 hw hlen;generalize hwd:mh (bs (s.extract p k))=wb;have HV:=aA hwd;clear hwd;cases wb
     ·go_wp2_with fail
      exact aW (v:=.agg #[ak 3,ak p,ak ((k:Int) - (p:Int))]) (by simp[results,results54,go_sem,x0,x1,x2]) rfl ⟨jk (by unfold wk;rw[HW.o,HV.o];rfl) rfl HLEN.o,(((HB.o).setCell (p:=⟨w.heap.size,0,none⟩) (ax _) _).setCell (p:=⟨w.heap.size,1,none⟩) (ax _) _).setCell (p:=⟨w.heap.size,2,none⟩) (ax _) _⟩
     ·go_wp2_with fail
      exact aW (v:=.agg #[ak 4,ak p,ak ((k:Int) - (p:Int))]) (by simp[results,results54,go_sem,x0,x1,x2]) rfl ⟨jk (by unfold wk;rw[HW.o,HV.o];rfl) rfl HLEN.o,(((HB.o).setCell (p:=⟨w.heap.size,0,none⟩) (ax _) _).setCell (p:=⟨w.heap.size,1,none⟩) (ax _) _).setCell (p:=⟨w.heap.size,2,none⟩) (ax _) _⟩
    ·have j57:decide (57<cc ((bs s).drop k))=false:=by simpa using h57
     have HN:=aA (jI (p:=jT) (iJ hk1) (by unfold jT iR;rw[hl];simp;omega));go_wp2_with fail
     refine(fF s k _ hk1).cO ?_;go_wp2_with fail
     refine(dZ _ _).cO ?_;go_wp2_with fail
     go_round
     case rel=>have h:=HI.o;rw[HN.o,gK (bs s) k] at h;exact⟨k+sz ((bs s).drop k),by go_num,au,HZ.o,by show _=_;omega⟩
     case measure=>simp[intOf];omega
  ·have HN:=aA (jI (p:=jT) (iJ hk1) (by unfold jT;rw[hl];rfl))
   go_wp2_with fail
   refine(fF s k _ hk1).cO ?_;go_wp2_with fail
   refine(dZ _ _).cO ?_;go_wp2_with fail
   go_round
   case rel=>have h:=HI.o;rw[HN.o,gK (bs s) k] at h;exact⟨k+sz ((bs s).drop k),by go_num,au,HZ.o,by show _=_;omega⟩
   case measure=>simp[intOf];omega
theorem VP(s:ByteArray)(p:Nat)(w:aG)(hs:s.size≤1073741824)(hp:p<s.size) :
  bB 54 #[.string s,ak p] w (cK (.agg #[ak (tok ((bs s).drop p)).1,ak p,ak (tok ((bs s).drop p)).2]) fun w'=>Below w.heap.size w w'):=by
 have hne:=iJ hp;cases h1:isSp (cc ((bs s).drop p))
 case true =>
  rw[show tok ((bs s).drop p)=(1,sz ((bs s).drop p)+skip isSp (nx ((bs s).drop p))) by unfold M.tok;rw[h1];rfl];have:=NW s p w hs hp h1;rw[jI hne h1] at this;exact this
 cases h2:isLt (cc ((bs s).drop p))
 case true =>
  rw[show tok ((bs s).drop p)=(wk (((bs s).drop p).take (sz ((bs s).drop p)+skip jT (nx ((bs s).drop p)))),sz ((bs s).drop p)+skip jT (nx ((bs s).drop p))) by unfold M.tok wk;rw[h1,h2];rfl];have:=Rl s p w hs hp h2;rw[Kk hne h2] at this;exact this
 cases h3:iR (cc ((bs s).drop p))
 case true =>
  rw[show tok ((bs s).drop p)=(dk (sz ((bs s).drop p)+skip iR (nx ((bs s).drop p))),sz ((bs s).drop p)+skip iR (nx ((bs s).drop p))) by unfold M.tok dk;rw[h1,h2,h3];rfl];have h3':48≤cc ((bs s).drop p)∧cc ((bs s).drop p)≤57:=by unfold iR at h3;exact of_decide_eq_true h3
  have:=Oa s p w hs hp h3'.1 h3'.2;rw[jI hne h3] at this;exact this
 by_cases h4:cc ((bs s).drop p)=34
 ·have z1:sz ((bs s).drop p)=1:=fI au au
  rw[show tok ((bs s).drop p)=((quo 6 ((bs s).drop (p+1))).1,1+(quo 6 ((bs s).drop (p+1))).2) by unfold M.tok;rw[h1,h2,h3,aM aT,aM aT,aM aT,aU h4,qE z1]];exact N_ s p w hs hp h4
 by_cases h5:cc ((bs s).drop p)=123∧cc (nx ((bs s).drop p))=45
 ·have z1:sz ((bs s).drop p)=1:=fI au au
  have e1:=qE z1;have YW:cc ((bs s).drop (p+1))=45:=by rw[← e1];exact h5.2
  have z2:sz ((bs s).drop (p+1))=1:=fI au au;have e2:nx (nx ((bs s).drop p))=(bs s).drop (p+2):=by rw[e1,qE z2]
  rw[show tok ((bs s).drop p)=((nest 1 ((bs s).drop (p+2))).1,2+(nest 1 ((bs s).drop (p+2))).2) by unfold M.tok;rw[h1,h2,h3,aM aT,aM aT,aM aT,aM h4,aU h5,e2]];exact Rk s p w hs hp h5.1 YW
 by_cases h6:cc ((bs s).drop p)=45∧cc (nx ((bs s).drop p))=45
 ·have z1:sz ((bs s).drop p)=1:=fI au au
  have e1:=qE z1;rw[show tok ((bs s).drop p)=(2,1+skip sD (nx ((bs s).drop p))) by unfold M.tok;rw[h1,h2,h3,aM aT,aM aT,aM aT,aM h4,aM h5,aU h6]];have:=Rj s p w hs hp h6.1 (by rw[← e1];exact h6.2);rw[← Vw _ _ (ax _),jI hne (by rw[h6.1];decide),z1] at this;exact this
 have n1:∀ b,sz ((bs s).drop p)=1→(cc ((bs s).drop (p+1))=b↔cc (nx ((bs s).drop p))=b):=fun b z=>by rw[qE z]
 have hh:hasB s p 123 45=false:=by
  unfold hasB;refine decide_eq_false (fun e=>h5 ⟨e.1,?_⟩);exact(n1 _ (fI au au)).1 e.2
 have hh0:hasB s p 45 45=false:=by
  unfold hasB;refine decide_eq_false (fun e=>h6 ⟨e.1,?_⟩);exact(n1 _ (fI au au)).1 e.2
 cases h7:sW (cc ((bs s).drop p)) (cc (nx ((bs s).drop p)))
 case true =>
  rw[show tok ((bs s).drop p)=(7,2) by unfold M.tok;rw[h1,h2,h3,aM aT,aM aT,aM aT,aM h4,aM h5,aM h6,aU h7]];have h8:=h7;unfold sW at h8;have h9:=of_decide_eq_true h8;have z1:sz ((bs s).drop p)=1:=fI au au;rcases h9 with ⟨a,b|b⟩|⟨a,b⟩
  ·exact Ob s p w hs hp a ((n1 _ z1).2 b)
  ·exact Oc s p w hs hp a ((n1 _ z1).2 b)
  ·exact Od s p w hs hp a ((n1 _ z1).2 b)
 have h7':¬((cc ((bs s).drop p)=61∧(cc (nx ((bs s).drop p))=62∨cc (nx ((bs s).drop p))=61))∨(cc ((bs s).drop p)=43∧cc (nx ((bs s).drop p))=43)):=by unfold sW at h7;exact of_decide_eq_false h7
 have p1:hasB s p 61 62=false:=by
  unfold hasB;refine decide_eq_false (fun e=>h7' (.inl ⟨e.1,.inl ?_⟩));exact(n1 _ (fI au au)).1 e.2
 have p2:hasB s p 61 61=false:=by
  unfold hasB;refine decide_eq_false (fun e=>h7' (.inl ⟨e.1,.inr ?_⟩));exact(n1 _ (fI au au)).1 e.2
 have p3:hasB s p 43 43=false:=by
  unfold hasB;refine decide_eq_false (fun e=>h7' (.inr ⟨e.1,?_⟩));exact(n1 _ (fI au au)).1 e.2
 cases h8:oI (cc ((bs s).drop p))
 case true =>
  rw[show tok ((bs s).drop p)=(7,1) by unfold M.tok;rw[h1,h2,h3,aM aT,aM aT,aM aT,aM h4,aM h5,aM h6,aM (by rw[h7];simp),aU h8]];exact Rn s p w hs hp h1 h2 h3 h4 h8 hh hh0 p1 p2 p3
 case false =>
  rw[show tok ((bs s).drop p)=(8,sz ((bs s).drop p)) by unfold M.tok;rw[h1,h2,h3,aM aT,aM aT,aM aT,aM h4,aM h5,aM h6,aM (by rw[h7];simp),aM (by rw[h8];simp)]];exact VO s p w hs hp h1 h2 h3 h4 h8 hh hh0 p1 p2 p3
end Go.Proofs.YtoohcklcppnafaaGreatDoor
