/- Plain mathematics: what is wrong in a tree,as the document tells it. -/
import Derived.Test.YtgpcpbmacdhlkaaGreatDoorZr
import Derived.Test.YtgpcpbmacdhlkaaGreatDoorYd
import Derived.Deep.RegionHeld3
namespace Go.Proofs.YtgpcpbmacdhlkaaGreatDoor
open M
namespace X
mutual
def nq:Q→List Nt
 | .mk k t _ qs i en fr tt _=>(if k=0∧t=8 then [(i,en,3)] else [])++((if k=1 then [(i,i,9)] else [])++((if k=5 then [(fr,tt,3)] else [])++nqs qs))
def nqs:List Q→List Nt
 | []=>[]
 | q::qs=>nq q++nqs qs
end
theorem puts_fr:∀ (ps:List Part) (i f t:Int) (l:Bool),0≤f→(puts ps i f t l).2.2.1=f
 | [],i,f,t,l,_=>by rw [puts]
 | p::ps,i,f,t,l,h=>by
  rw [puts]
  show (puts ps _ _ _ _).2.2.1=f
  rw [if_neg (by omega)];exact puts_fr ps _ _ _ _ h
theorem junk_fr:∀ (ps:List Part) (i:Nat) (t:Int) (l:Bool),(∀ p∈ps,lv p=true)→(∃ p∈ps,∃ k x,p=.leaf k x∧¬(k=1∨k=2))→(puts ps i (-1) t l).2.2.1=((i+qlen ps:Nat):Int)
 | [],i,t,l,_,h=>by obtain ⟨p,hp,-⟩:=h;cases hp
 | p::ps,i,t,l,h1,h2=>by
  have hp:=h1 p (List.mem_cons_self ..)
  cases p with
  | miss m=>cases hp
  | br k qs=>cases hp
  | leaf k x =>
   rw [puts]
   show (puts ps _ _ _ _).2.2.1=_
   rw [if_pos (by omega:(-1:Int)<0),put_en,qlen]
   by_cases hk:k=1∨k=2
   ·have e1:(put (.leaf k x) i).fr=-1:=by rw [put];show (if k=1∨k=2 then (-1:Int) else i)=-1;rw [if_pos hk]
    rw [e1,if_pos hk]
    have h3:∃ p∈ps,∃ k x,p=.leaf k x∧¬(k=1∨k=2):=by
     obtain ⟨p,hp,k',x',e,hn⟩:=h2
     rcases List.mem_cons.1 hp with h|h
     ·rw [h] at e;injection e with e3 e4;subst e3;exact absurd hk hn
     ·exact ⟨p,h,k',x',e,hn⟩
    have:=junk_fr ps (i+(pb (.leaf k x)).length) (if (put (.leaf k x) ↑i).tt>t then (put (.leaf k x) ↑i).tt else t) (l||(put (.leaf k x) ↑i).la) (fun q hq=>h1 q (List.mem_cons_of_mem _ hq)) h3
    rw [Int.natCast_add] at this
    rw [this,pb];omega
   ·have e1:(put (.leaf k x) i).fr=i:=by rw [put];show (if k=1∨k=2 then (-1:Int) else i)=i;rw [if_neg hk]
    rw [e1,if_neg hk,puts_fr _ _ _ _ _ (by omega)];rfl
theorem junk_tt:∀ (ps:List Part) (i:Nat) (f t:Int) (l:Bool),(∀ p∈ps,lv p=true)→(∃ m k x,ps=m++[.leaf k x]∧¬(k=1∨k=2))→t≤i→(puts ps i f t l).2.2.2.1=((i+(psb ps).length:Nat):Int)
 | [],i,f,t,l,_,h,_=>by obtain ⟨m,k,x,e,-⟩:=h;simp at e
 | p::ps,i,f,t,l,h1,h2,h3=>by
  have hp:=h1 p (List.mem_cons_self ..)
  cases p with
  | miss m=>cases hp
  | br k qs=>cases hp
  | leaf k x =>
   rw [puts]
   show (puts ps _ _ _ _).2.2.2.1=_
   rw [put_en,psb,pb,List.length_append]
   have e1:(put (.leaf k x) i).tt=if k=1∨k=2 then -1 else (i:Int)+x.length:=by rw [put];rfl
   rw [e1]
   obtain ⟨m,k',x',e,hn⟩:=h2
   cases m with
   | nil =>
    simp only [List.nil_append,List.cons.injEq] at e
    obtain ⟨e2,rfl⟩:=e
    injection e2 with e3 e4
    subst e3
    subst e4
    rw [puts,if_neg hn]
    show (if (i:Int)+x.length>t then (i:Int)+x.length else t)=_
    simp only [psb,List.length_nil]
    split<;>omega
   | cons q m =>
    simp only [List.cons_append,List.cons.injEq] at e
    have:=junk_tt ps (i+x.length) (if f<0 then (put (.leaf k x) ↑i).fr else f) (if (if k=1∨k=2 then (-1:Int) else (i:Int)+x.length)>t then (if k=1∨k=2 then -1 else (i:Int)+x.length) else t) (l||(put (.leaf k x) ↑i).la) (fun q hq=>h1 q (List.mem_cons_of_mem _ hq)) ⟨m,k',x',e.2,hn⟩ (by split<;>(try split)<;>omega)
    rw [Int.natCast_add] at this
    rw [this];omega
mutual
theorem nq_put:∀ (p:Part) (i:Nat),kok p→jok p→nq (put p i)=nts p i
 | .leaf k x,i,_,_=>by
  rw [put,nq,nts,nqs]
  by_cases h:k=8
  ·simp [h]
  ·simp [h]
 | .miss m,i,_,_=>by rw [put,nq,nts,nqs];simp
 | .br k ps,i,hk,hj=>by
  rw [kok] at hk
  rw [jok] at hj
  rw [put,nq,nts,nqs_puts ps i _ _ _ hk.2 hj.2]
  have h0:¬(k=0∧(0:Nat)=8):=by omega
  rw [if_neg h0,List.nil_append]
  rw [if_neg hj.1.1,List.nil_append]
  by_cases h5:k=5
  ·rw [if_pos h5,if_pos h5]
   obtain ⟨j1,j2⟩:=hj.1.2 h5
   obtain ⟨m,k',x',e,hn⟩:=j2
   rw [junk_fr ps i _ _ j1 ⟨_,by rw [e];simp,k',x',rfl,hn⟩,junk_tt ps i _ _ _ j1 ⟨m,k',x',e,hn⟩ (by omega)]
  ·rw [if_neg h5,if_neg h5]
theorem nqs_puts:∀ (ps:List Part) (i:Nat) (f t:Int) (l:Bool),koks ps→joks ps→nqs (puts ps i f t l).1=ntss ps i
 | [],i,f,t,l,_,_=>by rw [puts,nqs,ntss]
 | p::ps,i,f,t,l,hk,hj=>by
  rw [koks] at hk
  rw [joks] at hj
  rw [puts,ntss]
  show nqs (put p i::(puts ps _ _ _ _).1)=_
  rw [nqs,nq_put p i hk.1 hj.1,put_en]
  have:=nqs_puts ps (i+(pb p).length) (if f<0 then (put p ↑i).fr else f) (if (put p ↑i).tt>t then (put p ↑i).tt else t) (l||(put p ↑i).la) hk.2 hj.2
  rw [Int.natCast_add] at this
  rw [this]
end
end X
end Go.Proofs.YtgpcpbmacdhlkaaGreatDoor
/- What is wrong in a node,as the document tells it. -/
namespace Go.Proofs.YtgpcpbmacdhlkaaGreatDoor
open Go.RowKit
open M
namespace X
mutual
def qsz:Q→Nat
 | .mk _ _ _ qs _ _ _ _ _=>1+qssz qs
def qssz:List Q→Nat
 | []=>0
 | q::qs=>qsz q+qssz qs
end
theorem qsz_pos (q:Q):1≤qsz q:=by cases q with|mk=>rw [qsz];omega
theorem qssz_append (l r:List Q):qssz (l++r)=qssz l+qssz r:=by
 induction l with
 | nil=>simp [qssz]
 | cons p l ih=>rw [List.cons_append,qssz,ih,qssz];omega
theorem qssz_len:∀ qs:List Q,qs.length≤qssz qs
 | []=>Nat.zero_le _
 | q::qs=>by have:=qssz_len qs;have:=qsz_pos q;rw [qssz,List.length_cons];omega
theorem qssz_take {qs:List Q} {j:Nat} {q:Q} (h:qs[j]?=some q):qssz (qs.take j)+qsz q≤qssz qs:=by
 have hl:j<qs.length:=lt_of_some h
 have hd:qs.drop j=q::qs.drop (j+1):=by
  rw [List.drop_eq_getElem_cons hl];congr 1
  exact Option.some.inj ((List.getElem?_eq_getElem hl).symm.trans h)
 have e:qssz qs=qssz (qs.take j)+qssz (qs.drop j):=by rw [← qssz_append,List.take_append_drop]
 rw [e,hd,qssz];omega
theorem nqs_append (l r:List Q):nqs (l++r)=nqs l++nqs r:=by
 induction l with
 | nil=>simp [nqs]
 | cons p l ih=>rw [List.cons_append,nqs,ih,nqs,List.append_assoc]
theorem nqs_take {qs:List Q} {j:Nat} {q:Q} (h:qs[j]?=some q):nqs (qs.take (j+1))=nqs (qs.take j)++nq q:=by
 rw [List.take_add_one,h,nqs_append];show _++nqs [q]=_;rw [nqs,nqs,List.append_nil]
mutual
theorem nq_len:∀ q:Q,(nq q).length≤qsz q
 | .mk k t x qs i en fr tt la=>by
  rw [nq,qsz,List.length_append,List.length_append,List.length_append]
  have:=nqs_len qs
  by_cases h0:k=0∧t=8
  ·rw [if_pos h0,if_neg (by omega),if_neg (by omega)];simp;omega
  ·rw [if_neg h0]
   by_cases h1:k=1
   ·rw [if_pos h1,if_neg (by omega)];simp;omega
   ·rw [if_neg h1]
    by_cases h5:k=5
    ·rw [if_pos h5];simp;omega
    ·rw [if_neg h5];simp;omega
theorem nqs_len:∀ qs:List Q,(nqs qs).length≤qssz qs
 | []=>by rw [nqs,qssz];simp
 | q::qs=>by
  rw [nqs,qssz,List.length_append]
  have:=nq_len q
  have:=nqs_len qs
  omega
end
mutual
theorem qsz_put:∀ (p:Part) (i:Int),qsz (put p i)=psz p
 | .leaf k x,i=>by rw [put,qsz,qssz,psz]
 | .miss m,i=>by rw [put,qsz,qssz,psz]
 | .br k ps,i=>by rw [put,qsz,psz,qssz_puts]
theorem qssz_puts:∀ (ps:List Part) (i f t:Int) (l:Bool),qssz (puts ps i f t l).1=pssz ps
 | [],i,f,t,l=>by rw [puts,qssz,pssz]
 | p::ps,i,f,t,l=>by
  rw [puts]
  show qssz (put p i::(puts ps _ _ _ _).1)=_
  rw [qssz,qsz_put p,qssz_puts ps,pssz]
end
end X
theorem infoMm:(Tryz.prog.info? 117).map (fun i=>(i.zero,i.size,i.bytes))=some (some (.agg #[.int .i64 0,.int .i64 0,.int .i64 0]),3,24):=by kernel_rfl
def IsMs (w:World) (base:Nat) (rv:Value) (ns:List X.Nt):Prop:=w.ownsRow base 117 3 rv ns.length (nvs ns)
def DNQ (q:X.Q):Prop:=∀ (w:World) (lo hi:Nat) (v:Value) (base:Nat) (rv:Value) (ns:List X.Nt),IsM w lo hi v q→hi≤base→IsMs w base rv ns→base≤w.heap.size→ns.length+X.qsz q≤1073741823 →
 Calls Tryz.prog 20 #[v,rv] w fun e w'=>∃ rv',e=.returned rv'∧Hid (IsMs w' base rv' (ns++X.nq q)∧Below base w w')
structure InDn (w:World) (base:Nat) (ns1:List X.Nt) (qs:List X.Q) (j:Nat) (rvj:Value) (wr:World):Prop where
 row:IsMs wr base rvj (ns1++X.nqs (qs.take j))
 bel:Below base w wr
set_option maxRecDepth 100000 in
set_option maxHeartbeats 4000000 in
theorem dn_node (k t:Nat) (x:List UInt8) (qs:List X.Q) (at0 en fr tt:Int) (la:Bool) (ih:∀ (j:Nat) (q:X.Q),qs[j]?=some q→DNQ q):DNQ (.mk k t x qs at0 en fr tt la):=by
 intro w lo hi v base rv ns h hib hns hb hn
 obtain ⟨i0,hi0,hz0,hz1,hz2⟩:=info_parts infoMm
 rw [X.qsz] at hn
 have hql:=X.qssz_len qs
 cases h with
 | mk _ _ N _ _ _ _ _ _ _ _ _ ao cap vs L H hN hbk hc hr hs hp =>
 have hNb:N<base:=by omega
 have HND:Hid (Nd w N k t x (.slice ao qs.length cap) at0 en fr tt la):=hbk
 have HNS:=hide hns
 have HCall:Hid (∀ j,j<qs.length→∃ q,qs[j]?=some q∧∀ (W:World) (rv:Value) (ns:List X.Nt),Below base w W→IsMs W base rv ns→base≤W.heap.size→ns.length+X.qsz q≤1073741823→Calls Tryz.prog 20 #[vs j,rv] W fun e w'=>∃ rv',e=.returned rv'∧Hid (IsMs w' base rv' (ns++X.nq q)∧Below base W w')):=fun j hj=>by
  have hqj:qs[j]?=some qs[j]:=List.getElem?_eq_getElem hj
  refine ⟨_,hqj,fun W rv ns hk h1 h2 h3=>?_⟩
  obtain ⟨s1,s2,s3,-⟩:=hs j hj
  exact ih j _ hqj W (L j) (H j) (vs j) base rv ns ((hp j _ hqj).keep (Kp.ofBelowB hk (S:=fun q=>base≤q) (fun _ h _=>h)) (fun q a1 a2 e=>by omega)) (by omega) h1 h2 h3
 have HRow:Hid (∀ j,j<qs.length→∃ g,ao=some ⟨g,0,none⟩∧g<base∧w.cell? ⟨g,j,none⟩=some (vs j)):=fun j hj=>by obtain ⟨g,e1,e2,e3,e4,e5,e6⟩:=hr j hj;exact ⟨g,e1,by omega,e6⟩
 have hcap:=hc.1
 clear hbk hc hr hs hp ih hns
 obtain ⟨⟨c0,c1,c2,c3,c4,c5,c6,c7,c8⟩,-⟩:=(HND.out).facts
 have hEnd:X.nqs (qs.take qs.length)=X.nqs qs:=by rw [List.take_length]
 have HEnd:=hide hEnd
 clear hEnd
 cases k0:((k:Int)==0) with
 | true =>
  have n0:k=0:=by have:(k:Int)=0:=(by simpa using k0);omega
  have k1:((k:Int)==1)=false:=by rw [n0];rfl
  have k5:((k:Int)==5)=false:=by rw [n0];rfl
  cases t8:((t:Int)==8) with
  | true =>
   have n8:t=8:=by have:(t:Int)=8:=(by simpa using t8);omega
   have HQ:Hid (X.nq (.mk k t x qs at0 en fr tt la)=[(at0,en,3)]++X.nqs qs):=by
    show _=_
    rw [X.nq,if_pos ⟨n0,n8⟩,if_neg (by omega),if_neg (by omega),List.nil_append,List.nil_append]
   clear n8 n0
   go_enter Tryz.func20,Tryz.ntmps20
   go_wp2_with fail
   go_region_held3 (fun w'=>w'.cell? ⟨N,4,none⟩=some (.int .i64 at0)∧w'.cell? ⟨N,5,none⟩=some (.int .i64 en))
    (first|(with_reducible exact ⟨y0,y1⟩)|go_keep)
    ((refine step_append_lies _ (by rfl) _ _ _ (by rfl) base 117 i0 _ 3 24 Tryz.underlying54 hi0 hz0 hz1 hz2 rfl (by omega) rv ns.length _ (by rfl) (((HNS.out:w.ownsRow _ _ _ _ _ _).alloc _).drew) ⟨w.heap.size,0,none⟩ 1 1 (nv (at0,en,3)) (by rfl) (by rfl) (World.news_of_block (cs:=#[.int .i64 at0,.int .i64 en,.int .i64 3]) (t:=117) (fr:=(0,0)) (heap_alloc_new w _)) (by simp [Value.oneCell',nv]) (by omega) (by unfold maxLen;omega) (by omega) (by simp;omega) (w.heap.size+1) (by simp) ?_;intro g0 cap5 w5 hown5 hgrow5 hat5 hlt5;have HO:=hide hown5;have HB5:Hid (Below base w w5):=(((Below.refl _ w).alloc hb _).drew).grown hgrow5 (by simp;omega) (fun q hq=>(owns_ge HNS.out q hq).1);have y0:=keepUnder hNb HB5.out c4;have y1:=keepUnder hNb HB5.out c5;clear hown5 hgrow5))
   have HI0:Hid (InDn w base (ns++[(at0,en,3)]) qs 0 (.slice (some ⟨g0,0,none⟩) (ns.length+1) cap5) w5):=by
    refine ⟨?_,HB5.out⟩
    show w5.ownsRow _ _ _ _ _ _
    rw [List.take_zero,X.nqs,List.append_nil,List.length_append,nvs_append,nvs_one];exact HO.out
   have e0:=keepUnder hNb HB5.out c0
   have e1:=keepUnder hNb HB5.out c1
   clear HO HB5
   go_wp2_with fail
   clear e0 e1
   go_loopw [1,5] (fun a v wr=>∃ (j:Nat) (rvj:Value),a=rvj∧v=.int .i64 j∧j≤qs.length∧Hid (InDn w base (ns++[(at0,en,3)]) qs j rvj wr)) (fun _ v _=>qs.length - (intOf v).toNat)
   case atStart=>exact ⟨0,_,rfl,rfl,Nat.zero_le _,HI0⟩
   case round =>
    clear HI0
    obtain ⟨j,rvj,rfl,rfl,hj,HI⟩:=hrel
    have d3:=keepUnder hNb (HI.out).bel c3
    by_cases hlt:j<qs.length
    case neg =>
     obtain rfl:j=qs.length:=by omega
     have i1:decide (qs.length<qs.length)=false:=by simp
     have i2:decide ((qs.length:Int)<(qs.length:Int))=false:=by simp
     have HF:Hid (IsMs wr base u1 (ns++X.nq (.mk k t x qs at0 en fr tt la))∧Below base w wr):=by
      refine ⟨?_,(HI.out).bel⟩
      rw [HQ.out,← List.append_assoc,← HEnd.out];first|exact (HI.out).row|(rw [List.append_nil];exact (HI.out).row)
     clear c0 c1 c2 c3 c4 c5 c6 c7 c8
     go_wp2_with fail
     go_ret
     exact ⟨_,rfl,HF⟩
    have i1:decide (j<qs.length)=true:=by simp;omega
    have i2:decide ((j:Int)<(qs.length:Int))=true:=by simp;omega
    obtain ⟨q,hqj,hcall⟩:=(HCall.out) j hlt
    obtain ⟨g,rfl,hgb,hcell⟩:=(HRow.out) j hlt
    have p0:=keepUnder hgb (HI.out).bel hcell
    have hi1:(0:Int)≤(j:Int):=Int.natCast_nonneg _
    have hi2:(j:Int)<(qs.length:Int):=by omega
    have HC:Hid (Calls Tryz.prog 20 #[vs j,u1] wr fun e w'=>∃ rv',e=.returned rv'∧Hid (IsMs w' base rv' (((ns++[(at0,en,3)])++X.nqs (qs.take j))++X.nq q)∧Below base wr w')):=by
     have h2:=X.qssz_take hqj
     have h3:=X.nqs_len (qs.take j)
     exact hcall wr u1 _ (HI.out).bel (HI.out).row (Nat.le_trans hb (HI.out).bel.size) (by rw [List.length_append,List.length_append,List.length_singleton];omega)
    have HQJ:=hide hqj
    clear hcall hcell hqj c0 c1 c2 c3 c4 c5 c6 c7 c8
    go_wp2_with fail
    refine (HC.out).mono ?_
    rintro e w2 ⟨rv2,rfl,H2⟩
    have HN:Hid (InDn w base (ns++[(at0,en,3)]) qs (j+1) rv2 w2):=by
     refine ⟨?_,(HI.out).bel.trans (H2.out).2⟩
     rw [X.nqs_take HQJ.out,← List.append_assoc];exact (H2.out).1
    clear HC H2
    go_wp2_with fail
    exact ⟨⟨j+1,rv2,rfl,by go_num,by omega,HN⟩,by simp only [intOf];omega⟩
  | false =>
   have n8:¬ t=8:=by intro e;subst e;cases t8
   have HQ:Hid (X.nq (.mk k t x qs at0 en fr tt la)=[]++X.nqs qs):=by
    show _=_
    rw [X.nq,if_neg (by omega),if_neg (by omega),if_neg (by omega),List.nil_append,List.nil_append]
   clear n8 n0
   have HI0:Hid (InDn w base ns qs 0 rv w):=⟨by simpa [X.nqs] using HNS.out,Below.refl _ _⟩
   go_enter Tryz.func20,Tryz.ntmps20
   go_wp2_with fail
   go_loopw [1,5] (fun a v wr=>∃ (j:Nat) (rvj:Value),a=rvj∧v=.int .i64 j∧j≤qs.length∧Hid (InDn w base ns qs j rvj wr)) (fun _ v _=>qs.length - (intOf v).toNat)
   case atStart=>exact ⟨0,_,rfl,rfl,Nat.zero_le _,HI0⟩
   case round =>
    clear HI0
    obtain ⟨j,rvj,rfl,rfl,hj,HI⟩:=hrel
    have d3:=keepUnder hNb (HI.out).bel c3
    by_cases hlt:j<qs.length
    case neg =>
     obtain rfl:j=qs.length:=by omega
     have i1:decide (qs.length<qs.length)=false:=by simp
     have i2:decide ((qs.length:Int)<(qs.length:Int))=false:=by simp
     have HF:Hid (IsMs wr base u1 (ns++X.nq (.mk k t x qs at0 en fr tt la))∧Below base w wr):=by
      refine ⟨?_,(HI.out).bel⟩
      rw [HQ.out,← List.append_assoc,← HEnd.out];first|exact (HI.out).row|(rw [List.append_nil];exact (HI.out).row)
     clear c0 c1 c2 c3 c4 c5 c6 c7 c8
     go_wp2_with fail
     go_ret
     exact ⟨_,rfl,HF⟩
    have i1:decide (j<qs.length)=true:=by simp;omega
    have i2:decide ((j:Int)<(qs.length:Int))=true:=by simp;omega
    obtain ⟨q,hqj,hcall⟩:=(HCall.out) j hlt
    obtain ⟨g,rfl,hgb,hcell⟩:=(HRow.out) j hlt
    have p0:=keepUnder hgb (HI.out).bel hcell
    have hi1:(0:Int)≤(j:Int):=Int.natCast_nonneg _
    have hi2:(j:Int)<(qs.length:Int):=by omega
    have HC:Hid (Calls Tryz.prog 20 #[vs j,u1] wr fun e w'=>∃ rv',e=.returned rv'∧Hid (IsMs w' base rv' ((ns++X.nqs (qs.take j))++X.nq q)∧Below base wr w')):=by
     have h2:=X.qssz_take hqj
     have h3:=X.nqs_len (qs.take j)
     exact hcall wr u1 _ (HI.out).bel (HI.out).row (Nat.le_trans hb (HI.out).bel.size) (by rw [List.length_append];omega)
    have HQJ:=hide hqj
    clear hcall hcell hqj c0 c1 c2 c3 c4 c5 c6 c7 c8
    go_wp2_with fail
    refine (HC.out).mono ?_
    rintro e w2 ⟨rv2,rfl,H2⟩
    have HN:Hid (InDn w base ns qs (j+1) rv2 w2):=by
     refine ⟨?_,(HI.out).bel.trans (H2.out).2⟩
     rw [X.nqs_take HQJ.out,← List.append_assoc];exact (H2.out).1
    clear HC H2
    go_wp2_with fail
    exact ⟨⟨j+1,rv2,rfl,by go_num,by omega,HN⟩,by simp only [intOf];omega⟩
 | false =>
  have n0:¬ k=0:=by intro e;subst e;cases k0
  cases k1:((k:Int)==1) with
  | true =>
   have n1:k=1:=by have:(k:Int)=1:=(by simpa using k1);omega
   have k5:((k:Int)==5)=false:=by rw [n1];rfl
   have HQ:Hid (X.nq (.mk k t x qs at0 en fr tt la)=[(at0,at0,9)]++X.nqs qs):=by
    show _=_
    rw [X.nq,if_neg (by omega),if_pos n1,if_neg (by omega),List.nil_append,List.nil_append]
   clear n1 n0
   go_enter Tryz.func20,Tryz.ntmps20
   go_wp2_with fail
   go_region_held3 (fun w'=>w'.cell? ⟨N,4,none⟩=some (.int .i64 at0))
    (first|(with_reducible exact y0)|go_keep)
    ((refine step_append_lies _ (by rfl) _ _ _ (by rfl) base 117 i0 _ 3 24 Tryz.underlying54 hi0 hz0 hz1 hz2 rfl (by omega) rv ns.length _ (by rfl) (((HNS.out:w.ownsRow _ _ _ _ _ _).alloc _).drew) ⟨w.heap.size,0,none⟩ 1 1 (nv (at0,at0,9)) (by rfl) (by rfl) (World.news_of_block (cs:=#[.int .i64 at0,.int .i64 at0,.int .i64 9]) (t:=117) (fr:=(0,0)) (heap_alloc_new w _)) (by simp [Value.oneCell',nv]) (by omega) (by unfold maxLen;omega) (by omega) (by simp;omega) (w.heap.size+1) (by simp) ?_;intro g0 cap5 w5 hown5 hgrow5 hat5 hlt5;have HO:=hide hown5;have HB5:Hid (Below base w w5):=(((Below.refl _ w).alloc hb _).drew).grown hgrow5 (by simp;omega) (fun q hq=>(owns_ge HNS.out q hq).1);have y0:=keepUnder hNb HB5.out c4;clear hown5 hgrow5))
   have HI0:Hid (InDn w base (ns++[(at0,at0,9)]) qs 0 (.slice (some ⟨g0,0,none⟩) (ns.length+1) cap5) w5):=by
    refine ⟨?_,HB5.out⟩
    show w5.ownsRow _ _ _ _ _ _
    rw [List.take_zero,X.nqs,List.append_nil,List.length_append,nvs_append,nvs_one];exact HO.out
   have e0:=keepUnder hNb HB5.out c0
   have e1:=keepUnder hNb HB5.out c1
   clear HO HB5
   go_wp2_with fail
   clear e0 e1
   go_loopw [1,5] (fun a v wr=>∃ (j:Nat) (rvj:Value),a=rvj∧v=.int .i64 j∧j≤qs.length∧Hid (InDn w base (ns++[(at0,at0,9)]) qs j rvj wr)) (fun _ v _=>qs.length - (intOf v).toNat)
   case atStart=>exact ⟨0,_,rfl,rfl,Nat.zero_le _,HI0⟩
   case round =>
    clear HI0
    obtain ⟨j,rvj,rfl,rfl,hj,HI⟩:=hrel
    have d3:=keepUnder hNb (HI.out).bel c3
    by_cases hlt:j<qs.length
    case neg =>
     obtain rfl:j=qs.length:=by omega
     have i1:decide (qs.length<qs.length)=false:=by simp
     have i2:decide ((qs.length:Int)<(qs.length:Int))=false:=by simp
     have HF:Hid (IsMs wr base u1 (ns++X.nq (.mk k t x qs at0 en fr tt la))∧Below base w wr):=by
      refine ⟨?_,(HI.out).bel⟩
      rw [HQ.out,← List.append_assoc,← HEnd.out];first|exact (HI.out).row|(rw [List.append_nil];exact (HI.out).row)
     clear c0 c1 c2 c3 c4 c5 c6 c7 c8
     go_wp2_with fail
     go_ret
     exact ⟨_,rfl,HF⟩
    have i1:decide (j<qs.length)=true:=by simp;omega
    have i2:decide ((j:Int)<(qs.length:Int))=true:=by simp;omega
    obtain ⟨q,hqj,hcall⟩:=(HCall.out) j hlt
    obtain ⟨g,rfl,hgb,hcell⟩:=(HRow.out) j hlt
    have p0:=keepUnder hgb (HI.out).bel hcell
    have hi1:(0:Int)≤(j:Int):=Int.natCast_nonneg _
    have hi2:(j:Int)<(qs.length:Int):=by omega
    have HC:Hid (Calls Tryz.prog 20 #[vs j,u1] wr fun e w'=>∃ rv',e=.returned rv'∧Hid (IsMs w' base rv' (((ns++[(at0,at0,9)])++X.nqs (qs.take j))++X.nq q)∧Below base wr w')):=by
     have h2:=X.qssz_take hqj
     have h3:=X.nqs_len (qs.take j)
     exact hcall wr u1 _ (HI.out).bel (HI.out).row (Nat.le_trans hb (HI.out).bel.size) (by rw [List.length_append,List.length_append,List.length_singleton];omega)
    have HQJ:=hide hqj
    clear hcall hcell hqj c0 c1 c2 c3 c4 c5 c6 c7 c8
    go_wp2_with fail
    refine (HC.out).mono ?_
    rintro e w2 ⟨rv2,rfl,H2⟩
    have HN:Hid (InDn w base (ns++[(at0,at0,9)]) qs (j+1) rv2 w2):=by
     refine ⟨?_,(HI.out).bel.trans (H2.out).2⟩
     rw [X.nqs_take HQJ.out,← List.append_assoc];exact (H2.out).1
    clear HC H2
    go_wp2_with fail
    exact ⟨⟨j+1,rv2,rfl,by go_num,by omega,HN⟩,by simp only [intOf];omega⟩
  | false =>
   have n1:¬ k=1:=by intro e;subst e;cases k1
   cases k5:((k:Int)==5) with
   | true =>
    have n5:k=5:=by have:(k:Int)=5:=(by simpa using k5);omega
    have HQ:Hid (X.nq (.mk k t x qs at0 en fr tt la)=[(fr,tt,3)]++X.nqs qs):=by
     show _=_
     rw [X.nq,if_neg (by omega),if_neg (by omega),if_pos n5,List.nil_append,List.nil_append]
    clear n1 n0 n5
    go_enter Tryz.func20,Tryz.ntmps20
    go_wp2_with fail
    go_region_held3 (fun w'=>w'.cell? ⟨N,6,none⟩=some (.int .i64 fr)∧w'.cell? ⟨N,7,none⟩=some (.int .i64 tt))
     (first|(with_reducible exact ⟨y0,y1⟩)|go_keep)
     ((refine step_append_lies _ (by rfl) _ _ _ (by rfl) base 117 i0 _ 3 24 Tryz.underlying54 hi0 hz0 hz1 hz2 rfl (by omega) rv ns.length _ (by rfl) (((HNS.out:w.ownsRow _ _ _ _ _ _).alloc _).drew) ⟨w.heap.size,0,none⟩ 1 1 (nv (fr,tt,3)) (by rfl) (by rfl) (World.news_of_block (cs:=#[.int .i64 fr,.int .i64 tt,.int .i64 3]) (t:=117) (fr:=(0,0)) (heap_alloc_new w _)) (by simp [Value.oneCell',nv]) (by omega) (by unfold maxLen;omega) (by omega) (by simp;omega) (w.heap.size+1) (by simp) ?_;intro g0 cap5 w5 hown5 hgrow5 hat5 hlt5;have HO:=hide hown5;have HB5:Hid (Below base w w5):=(((Below.refl _ w).alloc hb _).drew).grown hgrow5 (by simp;omega) (fun q hq=>(owns_ge HNS.out q hq).1);have y0:=keepUnder hNb HB5.out c6;have y1:=keepUnder hNb HB5.out c7;clear hown5 hgrow5))
    have HI0:Hid (InDn w base (ns++[(fr,tt,3)]) qs 0 (.slice (some ⟨g0,0,none⟩) (ns.length+1) cap5) w5):=by
     refine ⟨?_,HB5.out⟩
     show w5.ownsRow _ _ _ _ _ _
     rw [List.take_zero,X.nqs,List.append_nil,List.length_append,nvs_append,nvs_one];exact HO.out
    have e0:=keepUnder hNb HB5.out c0
    have e1:=keepUnder hNb HB5.out c1
    clear HO HB5
    go_wp2_with fail
    clear e0 e1
    go_loopw [1,5] (fun a v wr=>∃ (j:Nat) (rvj:Value),a=rvj∧v=.int .i64 j∧j≤qs.length∧Hid (InDn w base (ns++[(fr,tt,3)]) qs j rvj wr)) (fun _ v _=>qs.length - (intOf v).toNat)
    case atStart=>exact ⟨0,_,rfl,rfl,Nat.zero_le _,HI0⟩
    case round =>
     clear HI0
     obtain ⟨j,rvj,rfl,rfl,hj,HI⟩:=hrel
     have d3:=keepUnder hNb (HI.out).bel c3
     by_cases hlt:j<qs.length
     case neg =>
      obtain rfl:j=qs.length:=by omega
      have i1:decide (qs.length<qs.length)=false:=by simp
      have i2:decide ((qs.length:Int)<(qs.length:Int))=false:=by simp
      have HF:Hid (IsMs wr base u1 (ns++X.nq (.mk k t x qs at0 en fr tt la))∧Below base w wr):=by
       refine ⟨?_,(HI.out).bel⟩
       rw [HQ.out,← List.append_assoc,← HEnd.out];first|exact (HI.out).row|(rw [List.append_nil];exact (HI.out).row)
      clear c0 c1 c2 c3 c4 c5 c6 c7 c8
      go_wp2_with fail
      go_ret
      exact ⟨_,rfl,HF⟩
     have i1:decide (j<qs.length)=true:=by simp;omega
     have i2:decide ((j:Int)<(qs.length:Int))=true:=by simp;omega
     obtain ⟨q,hqj,hcall⟩:=(HCall.out) j hlt
     obtain ⟨g,rfl,hgb,hcell⟩:=(HRow.out) j hlt
     have p0:=keepUnder hgb (HI.out).bel hcell
     have hi1:(0:Int)≤(j:Int):=Int.natCast_nonneg _
     have hi2:(j:Int)<(qs.length:Int):=by omega
     have HC:Hid (Calls Tryz.prog 20 #[vs j,u1] wr fun e w'=>∃ rv',e=.returned rv'∧Hid (IsMs w' base rv' (((ns++[(fr,tt,3)])++X.nqs (qs.take j))++X.nq q)∧Below base wr w')):=by
      have h2:=X.qssz_take hqj
      have h3:=X.nqs_len (qs.take j)
      exact hcall wr u1 _ (HI.out).bel (HI.out).row (Nat.le_trans hb (HI.out).bel.size) (by rw [List.length_append,List.length_append,List.length_singleton];omega)
     have HQJ:=hide hqj
     clear hcall hcell hqj c0 c1 c2 c3 c4 c5 c6 c7 c8
     go_wp2_with fail
     refine (HC.out).mono ?_
     rintro e w2 ⟨rv2,rfl,H2⟩
     have HN:Hid (InDn w base (ns++[(fr,tt,3)]) qs (j+1) rv2 w2):=by
      refine ⟨?_,(HI.out).bel.trans (H2.out).2⟩
      rw [X.nqs_take HQJ.out,← List.append_assoc];exact (H2.out).1
     clear HC H2
     go_wp2_with fail
     exact ⟨⟨j+1,rv2,rfl,by go_num,by omega,HN⟩,by simp only [intOf];omega⟩
   | false =>
    have n5:¬ k=5:=by intro e;subst e;cases k5
    have HQ:Hid (X.nq (.mk k t x qs at0 en fr tt la)=[]++X.nqs qs):=by
     show _=_
     rw [X.nq,if_neg (by omega),if_neg (by omega),if_neg (by omega),List.nil_append,List.nil_append]
    clear n1 n0 n5
    have HI0:Hid (InDn w base ns qs 0 rv w):=⟨by simpa [X.nqs] using HNS.out,Below.refl _ _⟩
    go_enter Tryz.func20,Tryz.ntmps20
    go_wp2_with fail
    go_loopw [1,5] (fun a v wr=>∃ (j:Nat) (rvj:Value),a=rvj∧v=.int .i64 j∧j≤qs.length∧Hid (InDn w base ns qs j rvj wr)) (fun _ v _=>qs.length - (intOf v).toNat)
    case atStart=>exact ⟨0,_,rfl,rfl,Nat.zero_le _,HI0⟩
    case round =>
     clear HI0
     obtain ⟨j,rvj,rfl,rfl,hj,HI⟩:=hrel
     have d3:=keepUnder hNb (HI.out).bel c3
     by_cases hlt:j<qs.length
     case neg =>
      obtain rfl:j=qs.length:=by omega
      have i1:decide (qs.length<qs.length)=false:=by simp
      have i2:decide ((qs.length:Int)<(qs.length:Int))=false:=by simp
      have HF:Hid (IsMs wr base u1 (ns++X.nq (.mk k t x qs at0 en fr tt la))∧Below base w wr):=by
       refine ⟨?_,(HI.out).bel⟩
       rw [HQ.out,← List.append_assoc,← HEnd.out];first|exact (HI.out).row|(rw [List.append_nil];exact (HI.out).row)
      clear c0 c1 c2 c3 c4 c5 c6 c7 c8
      go_wp2_with fail
      go_ret
      exact ⟨_,rfl,HF⟩
     have i1:decide (j<qs.length)=true:=by simp;omega
     have i2:decide ((j:Int)<(qs.length:Int))=true:=by simp;omega
     obtain ⟨q,hqj,hcall⟩:=(HCall.out) j hlt
     obtain ⟨g,rfl,hgb,hcell⟩:=(HRow.out) j hlt
     have p0:=keepUnder hgb (HI.out).bel hcell
     have hi1:(0:Int)≤(j:Int):=Int.natCast_nonneg _
     have hi2:(j:Int)<(qs.length:Int):=by omega
     have HC:Hid (Calls Tryz.prog 20 #[vs j,u1] wr fun e w'=>∃ rv',e=.returned rv'∧Hid (IsMs w' base rv' ((ns++X.nqs (qs.take j))++X.nq q)∧Below base wr w')):=by
      have h2:=X.qssz_take hqj
      have h3:=X.nqs_len (qs.take j)
      exact hcall wr u1 _ (HI.out).bel (HI.out).row (Nat.le_trans hb (HI.out).bel.size) (by rw [List.length_append];omega)
     have HQJ:=hide hqj
     clear hcall hcell hqj c0 c1 c2 c3 c4 c5 c6 c7 c8
     go_wp2_with fail
     refine (HC.out).mono ?_
     rintro e w2 ⟨rv2,rfl,H2⟩
     have HN:Hid (InDn w base ns qs (j+1) rv2 w2):=by
      refine ⟨?_,(HI.out).bel.trans (H2.out).2⟩
      rw [X.nqs_take HQJ.out,← List.append_assoc];exact (H2.out).1
     clear HC H2
     go_wp2_with fail
     exact ⟨⟨j+1,rv2,rfl,by go_num,by omega,HN⟩,by simp only [intOf];omega⟩
theorem dn_any:∀ (n:Nat) (q:X.Q),X.qsz q≤n→DNQ q:=by
 intro n
 induction n with
 | zero=>intro q h;have:=X.qsz_pos q;omega
 | succ n ih =>
  intro q hn
  cases q with
  | mk k t x qs at0 en fr tt la =>
   rw [X.qsz] at hn
   exact dn_node k t x qs at0 en fr tt la (fun j q hq=>by
    have:=X.qssz_take hq
    exact ih q (by omega))
end Go.Proofs.YtgpcpbmacdhlkaaGreatDoor
