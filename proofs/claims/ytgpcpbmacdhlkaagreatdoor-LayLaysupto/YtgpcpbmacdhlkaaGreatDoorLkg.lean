/- A node in one line;the parts of a node in a row. -/
import Derived.Test.YtgpcpbmacdhlkaaGreatDoorLkd
import Derived.Test.YtgpcpbmacdhlkaaGreatDoorLkb
namespace Go.Proofs.YtgpcpbmacdhlkaaGreatDoor
open Go.RowKit
open M
structure Fine (p:X.Part):Prop where
 kok:X.kok p
 psz:X.psz p≤67108864
 wt:X.wt 522 (X.nt p)≤1073740000
theorem X.sumL_wt (L:List X.Lf):X.sumL (L.map X.thin)≤X.wt 522 (L.map (·.1)):=by
 induction L with
 | nil=>exact Nat.le_refl _
 | cons l L ih =>
  rw [List.map_cons,List.map_cons,X.sumL,X.wt]
  have:(X.thin l).1=l.1.2:=rfl
  rw [this];omega
theorem X.sum_nts (ps:List X.Part):X.sumL (X.ldss false false ps)≤X.wt 522 (X.nts' ps):=by
 have:=X.sumL_wt (X.fls false ps)
 rw [X.fls_thin,X.fls_fst] at this
 exact this
theorem X.len_wt (l:List X.Tok):l.length≤X.wt 522 l:=by
 induction l with
 | nil=>exact Nat.le_refl _
 | cons t l ih=>rw [List.length_cons,X.wt];omega
theorem X.ldss_nts (ps:List X.Part):(X.ldss false false ps).length=(X.nts' ps).length:=by
 rw [← X.fls_thin,← X.fls_fst false,List.length_map,List.length_map]
theorem nts_psz:∀ ps:List X.Part,(X.nts' ps).length≤X.pssz ps:=fun ps=>by
 rw [← X.ldss_nts];exact X.ldss_len false false ps
set_option maxRecDepth 100000 in
set_option maxHeartbeats 4000000 in
theorem yone_any (p:X.Part) (hp:Fine p) (w:World) (a b:Nat) (v:Value) (i:Nat) (h:NdP w a b v p i) (hb:b≤w.heap.size) :
  Calls Tryz.prog 22 #[v] w fun e w'=>e=.returned (.string (ba (X.flat [p])))∧Below w.heap.size w w':=by
 obtain ⟨N,ao,cap,at0,en,fr,tt,la,vs,rfl,hN1,hN2,-⟩:=h.any
 have kA:Below w.heap.size w (w.alloc (.cells #[.pointer (some ⟨N,0,none⟩)] 52)):=(Below.refl _ w).alloc (Nat.le_refl _) _
 have hR:Rwd (w.alloc (.cells #[.pointer (some ⟨N,0,none⟩)] 52)) a b (.slice (some ⟨w.heap.size,0,none⟩) 1 1) [p] [.pointer (some ⟨N,0,none⟩)]:=by
  refine ⟨⟨_,1,rfl,Nat.le_refl _,by unfold maxLen;omega,fun j hj=>⟨_,rfl,fun x hx=>?_⟩⟩,rfl,fun j q hq=>?_⟩
  ·have:j=0:=by simp at hj;omega
   subst this
   have e:Value.pointer (some ⟨N,0,none⟩)=x:=by simpa using hx
   rw [cell_of_row _ _ 0 _ _ _ (heap_alloc_new w (.cells #[.pointer (some ⟨N,0,none⟩)] 52)),← e];rfl
  ·cases j with
   | zero =>
    have:p=q:=by simpa using hq
    subst this
    exact ⟨_,i,rfl,h.keep (Kp.ofBelow kA (fun _=>False)) (fun _ _ _=>id)⟩
   | succ j=>simp at hq
 have h1:=X.sum_nts [p]
 have h2:=X.ldss_nts [p]
 have h3:=X.len_wt (X.nts' [p])
 have h4:=nts_psz [p]
 rw [X.nts_one] at h1 h2 h3 h4
 have h5:X.pssz [p]=X.psz p:=by rw [X.pssz,X.pssz];omega
 have hw:=hp.wt
 have hz:=hp.psz
 have HC:=hide (yflat_any [p] _ a b _ _ hR (by simp;omega) (by simp) (fun q hq=>by
  obtain rfl:=List.mem_singleton.1 hq
  exact ⟨hp.kok,by omega⟩) (by omega) (by omega))
 have KA:=hide kA
 clear h hR kA h1 h2 h3 h4 h5
 go_enter Tryz.func22,Tryz.ntmps22
 go_wp2_with fail
 refine (HC.out).mono ?_
 rintro e w2 ⟨rfl,k2⟩
 have HF:=hide ((KA.out).trans (k2.mono (KA.out).size))
 clear k2
 go_wp2_with fail
 go_ret
 exact ⟨rfl,HF.out⟩
theorem lq_quiet (p:X.Part):X.lq p=X.quietP p:=by cases p<;>rfl
theorem LP.at {w:World} {a b:Nat} {l:List Value} {ps:List X.Part} {i:Nat} (h:LP w a b l ps i):l.length=(X.pts ps).length∧∀ (j:Nat) (q:X.Part),(X.pts ps)[j]?=some q→∃ v k,l[j]?=some v∧NdP w a b v q k:=by
 induction h with
 | nil i=>exact ⟨rfl,fun j q hq=>by simp [X.pts] at hq⟩
 | quiet q l ps i hq h ih =>
  have e:X.pts (q::ps)=X.pts ps:=by unfold X.pts;rw [List.filter_cons_of_neg (by rw [← lq_quiet,hq];decide)]
  rw [e];exact ih
 | cons v p l ps i hq hv h ih =>
  have e:X.pts (p::ps)=p::X.pts ps:=by unfold X.pts;rw [List.filter_cons_of_pos (by rw [← lq_quiet,hq];decide)]
  rw [e]
  refine ⟨by rw [List.length_cons,List.length_cons,ih.1],fun j q hj=>?_⟩
  cases j with
  | zero =>
   have:p=q:=by simpa using hj
   subst this
   exact ⟨v,i,rfl,hv⟩
  | succ j=>exact ih.2 j q (by simpa using hj)
end Go.Proofs.YtgpcpbmacdhlkaaGreatDoor
/- The document's lines of an expression: what fits in one line. -/
namespace Go.Proofs.YtgpcpbmacdhlkaaGreatDoor
open Go.RowKit
open M
def EC (p:X.Part):Prop:=∀ (f n:Nat) (e:List UInt8) (w:World) (a b:Nat) (v:Value) (i:Nat),NdP w a b v p i→b≤w.heap.size→(X.nt p).length≤f→n+X.dp p≤522→e.length≤10 →
 Calls Tryz.prog 26 #[.int .i64 n,v,.string (ba e)] w fun r w'=>r=.returned (.string (ba (X.ex f n p e)))∧Below w.heap.size w w'
theorem flat_fine {p:X.Part} (hp:Fine p):(X.flat [p]).length≤1073740000:=by
 have h1:=X.flat_le (M:=522) (ps:=[p])
 rw [X.nts_one] at h1
 have:=hp.wt
 omega
theorem ex_one {f n:Nat} {p:X.Part} {e:List UInt8} (h:n+X.chars (X.flat [p])+1≤80):X.ex f n p e=X.line n (X.flat [p]++e):=by
 cases f with
 | zero=>rw [X.ex]
 | succ f=>unfold X.ex;rw [if_pos h]
set_option maxRecDepth 100000 in
set_option maxHeartbeats 4000000 in
theorem expr_fit (p:X.Part) (hp:Fine p) (f n:Nat) (e:List UInt8) (w:World) (a b:Nat) (v:Value) (i:Nat) (h:NdP w a b v p i) (hb:b≤w.heap.size) (hn:n≤522) (he:e.length≤10) (hw:n+X.chars (X.flat [p])+1≤80) :
  Calls Tryz.prog 26 #[.int .i64 n,v,.string (ba e)] w fun r w'=>r=.returned (.string (ba (X.ex f n p e)))∧Below w.heap.size w w':=by
 rw [ex_one hw]
 have hS:=flat_fine hp
 have HO:=hide (yone_any p hp w a b v i h hb)
 have hSz:=ba_size (X.flat [p])
 have hez:=ba_size e
 have HCh:=hide (fun W=>ychars_any (ba (X.flat [p])) W (by omega))
 rw [bs_ba] at HCh
 have HLi:=hide (fun W=>yline_any n (X.flat [p]++e) W (by omega) (by rw [List.length_append];omega))
 rw [← ba_app] at HLi
 have hlc:=X.chars_le _ (X.flat [p]) (Nat.le_refl _)
 generalize X.line n (X.flat [p]++e)=R at *
 generalize X.chars (X.flat [p])=c at *
 generalize ba (X.flat [p])=S at *
 generalize ba e=E at *
 have hz1:¬ 9223372036854775807<S.size+E.size:=by omega
 have i1:decide ((n:Int)+(c:Int)+1≤80)=true:=decide_eq_true (by omega)
 have i2:(n:Int)+(c:Int)+1≤80:=by omega
 clear h
 go_enter Tryz.func26,Tryz.ntmps26
 go_wp2_with fail
 refine (HO.out).mono ?_
 rintro r w1 ⟨rfl,k1⟩
 have K1:=hide k1
 clear k1
 go_wp2_with fail
 refine ((HCh.out) w1).mono ?_
 rintro r w2 ⟨rfl,rfl⟩
 go_wp2_with fail
 refine ((HLi.out) w2).mono ?_
 rintro r w3 ⟨rfl,rfl⟩
 go_wp2_with fail
 go_ret
 exact ⟨rfl,K1.out⟩
end Go.Proofs.YtgpcpbmacdhlkaaGreatDoor
/- The document's lines of an expression: a let. -/
namespace Go.Proofs.YtgpcpbmacdhlkaaGreatDoor
open Go.RowKit
open M
theorem Rwd.cut {w w2:World} {a b:Nat} {l:List Value} {ps:List X.Part} {i:Nat} (h:LP w a b l ps i) (hB:Below w.heap.size w w2) {ao:Option Addr} {cap:Nat} (hV:IsV w2 (.slice ao l.length cap) l) (m:Nat) (hm:m≤l.length):Rwd w2 a b (.slice ao m cap) ((X.pts ps).take m) (l.take m):=by
 obtain ⟨h1,h2⟩:=h.at
 have hml:(l.take m).length=m:=by rw [List.length_take];omega
 refine ⟨?_,by rw [hml,List.length_take];omega,fun j q hj=>?_⟩
 ·obtain ⟨ao',cap',e,c1,c2,c3⟩:=hV
  injection e with e1 e2 e3
  subst e1 e3
  refine ⟨_,_,by rw [hml],by omega,c2,fun j hj=>?_⟩
  rw [hml] at hj
  obtain ⟨g,e4,c4⟩:=c3 j (by omega)
  refine ⟨g,e4,fun x hx=>c4 x ?_⟩
  rw [List.getElem?_take_of_lt hj] at hx
  exact hx
 ·have hjm:j<m:=by
   rcases Nat.lt_or_ge j m with g|g
   ·exact g
   ·rw [List.getElem?_eq_none (by rw [List.length_take];omega)] at hj;cases hj
  rw [List.getElem?_take_of_lt hjm] at hj
  obtain ⟨v,k,e1,e2⟩:=h2 j q hj
  exact ⟨v,k,by rw [List.getElem?_take_of_lt hjm];exact e1,e2.keep (Kp.ofBelow hB (fun _=>False)) (fun _ _ _=>id)⟩
theorem Fine.part {k:Nat} {ps:List X.Part} (h:Fine (.br k ps)) {q:X.Part} (hq:q∈X.pts ps):Fine q:=by
 have hm:q∈ps:=(List.mem_filter.1 hq).1
 obtain ⟨j,hj⟩:=List.getElem?_of_mem hm
 have hk:=h.kok
 have hz:=h.psz
 have hw:=h.wt
 rw [X.kok] at hk
 rw [X.psz] at hz
 have h1:=X.pssz_mem ps j q hj
 refine ⟨X.koks_mem ps j q hk.2 hj,by omega,?_⟩
 rw [X.nt_br] at hw
 obtain ⟨x,y,e⟩:=List.append_of_mem hq
 rw [e,X.nts_append,X.nts_cons,X.wt_append,X.wt_append] at hw
 omega
theorem Fine.parts {k:Nat} {ps:List X.Part} (h:Fine (.br k ps)):X.wt 522 (X.nts' (X.pts ps))≤1073740000∧(X.pts ps).length≤67108864∧ps.length≤67108864:=by
 have hw:=h.wt
 have hz:=h.psz
 rw [X.nt_br] at hw
 rw [X.psz] at hz
 have h1:=X.pssz_len ps
 have h2:(X.pts ps).length≤ps.length:=by unfold X.pts;exact List.length_filter_le _ _
 exact ⟨hw,by omega,by omega⟩
theorem flat_cut {k:Nat} {ps:List X.Part} (hp:Fine (.br k ps)) {w w2:World} {a b:Nat} {l:List Value} {i:Nat} (h:LP w a b l ps i) (hb:b≤w.heap.size) (hB:Below w.heap.size w w2) {ao:Option Addr} {cap:Nat} (hV:IsV w2 (.slice ao l.length cap) l) (m:Nat) (hm:m≤l.length) :
  Calls Tryz.prog 25 #[.slice ao m cap] w2 (fun e w'=>e=.returned (.string (ba (X.flat ((X.pts ps).take m))))∧Below w2.heap.size w2 w')∧(X.flat ((X.pts ps).take m)).length≤X.wt 522 (X.nts' ((X.pts ps).take m))∧X.wt 522 (X.nts' ((X.pts ps).take m))≤1073740000:=by
 obtain ⟨w1,w3,-⟩:=hp.parts
 have hsp:X.wt 522 (X.nts' ((X.pts ps).take m))≤X.wt 522 (X.nts' (X.pts ps)):=by
  conv=>rhs;rw [← List.take_append_drop m (X.pts ps)]
  rw [X.nts_append,X.wt_append];omega
 refine ⟨?_,X.flat_le,by omega⟩
 have h1:=X.sum_nts ((X.pts ps).take m)
 have h2:=X.ldss_nts ((X.pts ps).take m)
 have h3:=X.ldss_len false false ((X.pts ps).take m)
 have h4:X.pssz ((X.pts ps).take m)≤X.psz (.br k ps):=by
  have e1:∀ qs:List X.Part,X.pssz (X.pts qs)≤X.pssz qs:=by
   intro qs
   induction qs with
   | nil=>exact Nat.le_refl _
   | cons q qs ih =>
    unfold X.pts at *
    rw [X.pssz]
    cases hq:X.quietP q with
    | true=>rw [List.filter_cons_of_neg (by simp [hq])];omega
    | false=>rw [List.filter_cons_of_pos (by simp [hq]),X.pssz];omega
  have e2:∀ (qs:List X.Part) (m:Nat),X.pssz (qs.take m)≤X.pssz qs:=by
   intro qs
   induction qs with
   | nil=>intro m;simp [X.pssz]
   | cons q qs ih =>
    intro m
    cases m with
    | zero=>rw [List.take_zero,X.pssz];omega
    | succ m=>rw [List.take_succ_cons,X.pssz,X.pssz];have:=ih m;omega
  have:=e1 ps
  have:=e2 (X.pts ps) m
  rw [X.psz];omega
 have hz:=hp.psz
 exact yflat_any _ _ a b _ w2 (Rwd.cut h hB hV m hm) (Nat.le_trans hb hB.size) (by rw [List.length_take];omega) (fun q hq=>by
  have:=hp.part ((List.take_sublist _ _).subset hq)
  exact ⟨this.kok,by have:=this.psz;omega⟩) (by omega) (by omega)
end Go.Proofs.YtgpcpbmacdhlkaaGreatDoor
/- What stands in brackets: the document's loop,as mathematics. -/
namespace Go.Proofs.YtgpcpbmacdhlkaaGreatDoor
open Go.RowKit
open M
structure Bk (E:X.Part→List UInt8→List UInt8) (c:List UInt8) (ml:List X.Part) (t:Nat) (pre:List UInt8):Prop where
 eq:pre++X.many E (ml.drop (2*t))=X.many E ml
 le:2*t≤ml.length
 rest:2*t=ml.length∨X.ShA c (ml.drop (2*t))
theorem Bk.start {E:X.Part→List UInt8→List UInt8} {c:List UInt8} {ml:List X.Part} (h:X.ShA c ml):Bk E c ml 0 []:=⟨rfl,Nat.zero_le _,.inr h⟩
theorem many_nil (E:X.Part→List UInt8→List UInt8):X.many E []=[]:=rfl
theorem Bk.step {E:X.Part→List UInt8→List UInt8} {c:List UInt8} {ml:List X.Part} {t:Nat} {pre:List UInt8} (h:Bk E c ml t pre) (hl:2*t<ml.length):∃ q,ml[2*t]?=some q∧X.Sh q∧((2*t+2=ml.length∧Bk E c ml (t+1) (pre++E q []))∨(2*t+2<ml.length∧Bk E c ml (t+1) (pre++E q [44]))):=by
 rcases h.rest with h0|h0
 ·omega
 have hd:∀ j,(ml.drop (2*t))[j]?=ml[2*t+j]?:=fun j=>List.getElem?_drop
 have hlen:(ml.drop (2*t)).length=ml.length - 2*t:=List.length_drop
 have heq:=h.eq
 generalize hR:ml.drop (2*t)=rest at *
 cases h0 with
 | last _ p b hp hb =>
  have h1:=hd 0
  simp at hlen
  have hdrop:ml.drop (2*(t+1))=[]:=List.drop_of_length_le (by omega)
  refine ⟨p,by simpa using h1.symm,hp,.inl ⟨by omega,⟨?_,by omega,.inl (by omega)⟩⟩⟩
  rw [hdrop,many_nil,List.append_nil]
  exact heq
 | more _ p b q m hp hb h2 =>
  have h1:=hd 0
  simp at hlen
  have hdrop:ml.drop (2*(t+1))=q::m:=by
   rw [show 2*(t+1)=2*t+2 by omega,← List.drop_drop,hR];rfl
  refine ⟨p,by simpa using h1.symm,hp,.inr ⟨by omega,⟨?_,by omega,.inr (by rw [hdrop];exact h2)⟩⟩⟩
  rw [hdrop,List.append_assoc]
  exact heq
theorem Bk.done {E:X.Part→List UInt8→List UInt8} {c:List UInt8} {ml:List X.Part} {t:Nat} {pre:List UInt8} (h:Bk E c ml t pre) (hl:¬ 2*t<ml.length):2*t=ml.length∧pre=X.many E ml:=by
 have h1:2*t=ml.length:=by have:=h.le;omega
 have h2:=h.eq
 rw [List.drop_of_length_le (by omega),many_nil,List.append_nil] at h2
 exact ⟨h1,h2⟩
theorem Bk.len {E:X.Part→List UInt8→List UInt8} {c:List UInt8} {ml:List X.Part} {t:Nat} {pre:List UInt8} (h:Bk E c ml t pre):pre.length≤(X.many E ml).length:=by
 rw [← h.eq,List.length_append];omega
theorem ShA_last:∀ (f:Nat) {c:List UInt8} {l:List X.Part},l.length≤f→X.ShA c l→∃ b:X.Tok,l[l.length - 1]?=some (X.lf b)∧b.2=c
 | 0,_,l,h,ha=>by cases ha<;>simp at h
 | f+1,_,l,h,ha=>by
  cases ha with
  | last _ p b hp hb=>exact ⟨b,rfl,hb⟩
  | more _ p b q m hp hb h2 =>
   obtain ⟨x,e1,e2⟩:=ShA_last f (by simp at h ⊢;omega) h2
   refine ⟨x,?_,e2⟩
   simp only [List.length_cons,Nat.add_sub_cancel] at e1 ⊢
   rw [List.getElem?_cons_succ,List.getElem?_cons_succ]
   exact e1
end Go.Proofs.YtgpcpbmacdhlkaaGreatDoor
/- The document's lines of an expression: a fun. -/
namespace Go.Proofs.YtgpcpbmacdhlkaaGreatDoor
open Go.RowKit
open M
set_option maxRecDepth 100000 in
set_option maxHeartbeats 4000000 in
theorem expr_fn (ps:List X.Part) (ta tb:X.Tok) (qs:List X.Part) (p:X.Part) (hsp:X.pts ps=[X.lf ta,.br 6 qs,X.lf tb,p]) (hsh:X.Sh (.br 9 ps)) (hq:X.Sh p) (hp:Fine (.br 9 ps)) (ih:EC p):EC (.br 9 ps):=by
 intro f n e w a b v i h hb hfu hd he
 by_cases hW:n+X.chars (X.flat [.br 9 ps])+1≤80
 ·exact expr_fit _ hp f n e w a b v i h hb (by omega) he hW
 have hne:X.nt (.br 9 ps)≠[]:=hsh.ne
 obtain ⟨f',rfl⟩:∃ f',f=f'+1:=⟨f - 1,by have:=List.length_pos_iff.2 hne;omega⟩
 have hex:X.ex (f'+1) n (.br 9 ps) e=X.line n (X.flat [X.lf ta,.br 6 qs,X.lf tb])++X.ex f' (n+2) p e:=by
  conv=>lhs;unfold X.ex
  rw [if_neg hW,show X.kindOf (.br 9 ps)=9 from rfl,if_neg (by decide),if_neg (by decide),if_pos rfl,show X.kidsOf (.br 9 ps)=ps from rfl,hsp]
  rfl
 rw [hex]
 have hS:=flat_fine hp
 obtain ⟨N,ao0,cap0,at0,en,fr,tt,la,vs0,rfl,hN1,hN2,hnd,-⟩:=h.any
 obtain ⟨⟨c0,-⟩,-⟩:=hnd.facts
 have b0:((pk (.br 9 ps):Nat):Int)=9:=rfl
 rw [b0] at c0
 have HO:=hide (yone_any _ hp w a b _ i h hb)
 have hSz:=ba_size (X.flat [.br 9 ps])
 have hez:=ba_size e
 have HCh:=hide (fun W=>ychars_any (ba (X.flat [.br 9 ps])) W (by omega))
 rw [bs_ba] at HCh
 have HLi:=hide (fun W=>yline_any n (X.flat [.br 9 ps]++e) W (by omega) (by rw [List.length_append];omega))
 rw [← ba_app] at HLi
 have hlc:=X.chars_le _ (X.flat [.br 9 ps]) (Nat.le_refl _)
 have HH:=hide h
 have HP:=hide hp
 have hpl:=hp.parts
 clear hex hne hnd h
 generalize X.line n (X.flat [.br 9 ps]++e)=R at *
 generalize X.chars (X.flat [.br 9 ps])=c at *
 generalize ba (X.flat [.br 9 ps])=S at *
 generalize hE:ba e=E at *
 have hz1:¬ 9223372036854775807<S.size+E.size:=by omega
 have i1:decide ((n:Int)+(c:Int)+1≤80)=false:=decide_eq_false (by omega)
 have i2:¬(n:Int)+(c:Int)+1≤80:=by omega
 have i3:(80:Int)<(n:Int)+(c:Int)+1:=by omega
 have C0:=hide c0
 clear c0 b0 hp
 go_enter Tryz.func26,Tryz.ntmps26
 go_wp2_with fail
 refine (HO.out).mono ?_
 rintro r w1 ⟨rfl,k1⟩
 have K1:=hide k1
 have HH1:=hide ((HH.out).below k1)
 have hw1:=k1.size
 have d0:=kcb k1 (by omega) C0.out
 clear k1 HO HH C0
 go_wp2_with fail
 refine ((HCh.out) w1).mono ?_
 rintro r wa ⟨rfl,rfl⟩
 go_wp2_with fail
 refine ((HLi.out) wa).mono ?_
 rintro r wb ⟨rfl,rfl⟩
 clear HCh HLi
 go_wp2_with fail
 refine (parts_any HH1.out (by omega) (HP.out).kok (by show ps.length≤_;omega)).mono ?_
 rintro r w2 ⟨rv,rfl,X2⟩
 obtain ⟨⟨l,hlp,hown⟩,k2⟩:=X2.out
 replace hlp:LP _ a b l ps i:=hlp
 have hat:=hlp.at
 rw [hsp] at hat
 have hll:l.length=4:=hat.1
 have HV:=hide (IsV.ofOwns hown)
 have HLP:=hide hlp
 have K2:=hide k2
 have d0':=kcb k2 (by omega) d0
 have hw2:=k2.size
 obtain ⟨ro,rc,rfl,hrc,hrm,-⟩:=(HV.out)
 have HAT:=hide hat.2
 clear X2 hlp hown k2 hat d0
 obtain ⟨v3,k3,e3,n3⟩:=(HAT.out) 3 p rfl
 have hc3:∀ W,Below w2.heap.size w2 W→∃ g,ro=some ⟨g,0,none⟩∧W.cell? ⟨g,3,none⟩=some v3:=fun W hB=>by
  obtain ⟨g,e1,e2⟩:=(HV.out).get hB rfl (by omega:3<l.length)
  have:l[3]'(by omega)=v3:=Option.some.inj ((List.getElem?_eq_getElem (by omega)).symm.trans e3)
  rw [this] at e2
  exact ⟨g,e1,e2⟩
 have HC3:=hide hc3
 have HN3:=hide n3
 clear hc3 n3 e3
 obtain ⟨hF,hFl,hFw⟩:=flat_cut HP.out HLP.out (by omega) K2.out HV.out 3 (by omega)
 rw [hsp] at hF hFl hFw
 simp only [List.take_succ_cons,List.take_zero] at hF hFl hFw
 have HF:=hide hF
 have hd3:n+2+X.dp p≤522:=by
  have:=X.dp_pts (k:=9) (by decide) hsp (p:=p) (by simp)
  rw [if_pos (by decide)] at this
  omega
 have hql3:=X.ex_len (M:=522) f' (n+2) p e hq hd3
 have hfq3:=(HP.out).part (q:=p) (by rw [hsp];simp)
 have hqw3:=hfq3.wt
 have hcnt3:(X.nt p).length≤f':=by
  have h1:(X.nt (.br 9 ps)).length=(X.nt (X.lf ta)).length+(X.nt (.br 6 qs)).length+(X.nt (X.lf tb)).length+(X.nt p).length:=by
   rw [X.nt_br,hsp];simp only [X.nts_cons,X.nts_nil,List.length_append,List.length_nil,Nat.add_zero];try omega
  have h2:(X.nt (X.lf ta)).length=1:=by rw [X.nt_lf,if_pos (X.mem_pts hsp (by simp))];rfl
  omega
 have HIH3:=hide (fun W (h1:NdP W a b v3 p k3) (h2:b≤W.heap.size)=>by
  have:=ih f' (n+2) e W a b v3 k3 h1 h2 hcnt3 hd3 he
  rw [show ((n+2:Nat):Int)=(n:Int)+2 by omega] at this
  rw [hE] at this
  exact this)
 have HL2:=hide (fun W=>yline_any n (X.flat [X.lf ta,.br 6 qs,X.lf tb]) W (by omega) (by omega))
 have hR1:(ba (X.line n (X.flat [X.lf ta,.br 6 qs,X.lf tb]))).size≤2147483647:=by rw [ba_size,X.line_len];omega
 have hR2:(ba (X.ex f' (n+2) p e)).size≤2147483647:=by rw [ba_size];omega
 have HRES:=hide (ba_app (X.line n (X.flat [X.lf ta,.br 6 qs,X.lf tb])) (X.ex f' (n+2) p e))
 clear hF hFl hFw hql3 hfq3 hqw3 hcnt3 hd3 ih
 obtain ⟨g,rfl,z5⟩:=(HC3.out) w2 (Below.refl _ _)
 generalize ba (X.line n (X.flat [X.lf ta,.br 6 qs,X.lf tb]))=R1 at *
 generalize ba (X.ex f' (n+2) p e)=R2 at *
 have hz2:¬ 9223372036854775807<R1.size+R2.size:=by omega
 have i5:(3:Int)≤(rc:Int):=by omega
 have i6:(3:Int)<(l.length:Int):=by omega
 rw [hll]
 clear z5
 go_wp2_with fail
 refine (HF.out).mono ?_
 rintro r w3 ⟨rfl,k3⟩
 obtain ⟨g',eg,z5⟩:=(HC3.out) w3 k3
 injection eg with eg
 injection eg with eg
 subst eg
 have K3:=hide k3
 have hw3:=k3.size
 clear k3
 go_wp2_with fail
 refine ((HL2.out) w3).mono ?_
 rintro r wc ⟨rfl,rfl⟩
 go_wp2_with fail
 have k13:Below wb.heap.size wb wc:=(K2.out).trans ((K3.out).mono hw2)
 refine ((HIH3.out) wc ((HN3.out).below k13) (by omega)).mono ?_
 rintro r w4 ⟨rfl,k4⟩
 have HEND:Hid (Below w.heap.size w w4):=((K1.out).trans (k13.mono hw1)).trans (k4.mono (by omega))
 clear k4 k13
 go_wp2_with fail
 go_ret
 exact ⟨by rw [HRES.out];rfl,HEND.out⟩
end Go.Proofs.YtgpcpbmacdhlkaaGreatDoor
/- The document's lines of an expression: a let. -/
namespace Go.Proofs.YtgpcpbmacdhlkaaGreatDoor
open Go.RowKit
open M
set_option maxRecDepth 100000 in
set_option maxHeartbeats 4000000 in
theorem expr_lett (ps:List X.Part) (ta tb tc td:X.Tok) (p q:X.Part) (hsp:X.pts ps=[X.lf ta,X.lf tb,X.lf tc,p,X.lf td,q]) (hsh:X.Sh (.br 7 ps)) (hq:X.Sh q) (hp:Fine (.br 7 ps)) (ih:EC q):EC (.br 7 ps):=by
 intro f n e w a b v i h hb hfu hd he
 by_cases hW:n+X.chars (X.flat [.br 7 ps])+1≤80
 ·exact expr_fit _ hp f n e w a b v i h hb (by omega) he hW
 have hne:X.nt (.br 7 ps)≠[]:=hsh.ne
 obtain ⟨f',rfl⟩:∃ f',f=f'+1:=⟨f - 1,by have:=List.length_pos_iff.2 hne;omega⟩
 have hex:X.ex (f'+1) n (.br 7 ps) e=X.line n (X.flat [X.lf ta,X.lf tb,X.lf tc,p,X.lf td])++X.ex f' n q e:=by
  conv=>lhs;unfold X.ex
  rw [if_neg hW,show X.kindOf (.br 7 ps)=7 from rfl,if_pos rfl,show X.kidsOf (.br 7 ps)=ps from rfl,hsp]
  rfl
 rw [hex]
 have hS:=flat_fine hp
 obtain ⟨N,ao0,cap0,at0,en,fr,tt,la,vs0,rfl,hN1,hN2,hnd,-⟩:=h.any
 obtain ⟨⟨c0,-⟩,-⟩:=hnd.facts
 have b0:((pk (.br 7 ps):Nat):Int)=7:=rfl
 rw [b0] at c0
 have HO:=hide (yone_any _ hp w a b _ i h hb)
 have hSz:=ba_size (X.flat [.br 7 ps])
 have hez:=ba_size e
 have HCh:=hide (fun W=>ychars_any (ba (X.flat [.br 7 ps])) W (by omega))
 rw [bs_ba] at HCh
 have HLi:=hide (fun W=>yline_any n (X.flat [.br 7 ps]++e) W (by omega) (by rw [List.length_append];omega))
 rw [← ba_app] at HLi
 have hlc:=X.chars_le _ (X.flat [.br 7 ps]) (Nat.le_refl _)
 have HH:=hide h
 have HP:=hide hp
 have hpl:=hp.parts
 clear hex hne hnd h
 generalize X.line n (X.flat [.br 7 ps]++e)=R at *
 generalize X.chars (X.flat [.br 7 ps])=c at *
 generalize ba (X.flat [.br 7 ps])=S at *
 generalize hE:ba e=E at *
 have hz1:¬ 9223372036854775807<S.size+E.size:=by omega
 have i1:decide ((n:Int)+(c:Int)+1≤80)=false:=decide_eq_false (by omega)
 have i2:¬(n:Int)+(c:Int)+1≤80:=by omega
 have i3:(80:Int)<(n:Int)+(c:Int)+1:=by omega
 have C0:=hide c0
 clear c0 b0 hp
 go_enter Tryz.func26,Tryz.ntmps26
 go_wp2_with fail
 refine (HO.out).mono ?_
 rintro r w1 ⟨rfl,k1⟩
 have K1:=hide k1
 have HH1:=hide ((HH.out).below k1)
 have hw1:=k1.size
 have d0:=kcb k1 (by omega) C0.out
 clear k1 HO HH C0
 go_wp2_with fail
 refine ((HCh.out) w1).mono ?_
 rintro r wa ⟨rfl,rfl⟩
 go_wp2_with fail
 refine ((HLi.out) wa).mono ?_
 rintro r wb ⟨rfl,rfl⟩
 clear HCh HLi
 go_wp2_with fail
 refine (parts_any HH1.out (by omega) (HP.out).kok (by show ps.length≤_;omega)).mono ?_
 rintro r w2 ⟨rv,rfl,X2⟩
 obtain ⟨⟨l,hlp,hown⟩,k2⟩:=X2.out
 replace hlp:LP _ a b l ps i:=hlp
 have hat:=hlp.at
 rw [hsp] at hat
 have hll:l.length=6:=hat.1
 have HV:=hide (IsV.ofOwns hown)
 have HLP:=hide hlp
 have K2:=hide k2
 have d0':=kcb k2 (by omega) d0
 have hw2:=k2.size
 obtain ⟨ro,rc,rfl,hrc,hrm,-⟩:=(HV.out)
 have HAT:=hide hat.2
 clear X2 hlp hown k2 hat d0
 obtain ⟨v5,k5,e5,n5⟩:=(HAT.out) 5 q rfl
 have hc5:∀ W,Below w2.heap.size w2 W→∃ g,ro=some ⟨g,0,none⟩∧W.cell? ⟨g,5,none⟩=some v5:=fun W hB=>by
  obtain ⟨g,e1,e2⟩:=(HV.out).get hB rfl (by omega:5<l.length)
  have:l[5]'(by omega)=v5:=Option.some.inj ((List.getElem?_eq_getElem (by omega)).symm.trans e5)
  rw [this] at e2
  exact ⟨g,e1,e2⟩
 obtain ⟨hF,hFl,hFw⟩:=flat_cut HP.out HLP.out (by omega) K2.out HV.out 5 (by omega)
 rw [hsp] at hF hFl hFw
 simp only [List.take_succ_cons,List.take_zero] at hF hFl hFw
 have HF:=hide hF
 have hql:=X.ex_len (M:=522) f' n q e hq (by
  have:=X.dp_pts (k:=7) (by decide) hsp (p:=q) (by simp)
  rw [if_neg (by decide)] at this
  omega)
 have hfq:=(HP.out).part (q:=q) (by rw [hsp];simp)
 have hqw:=hfq.wt
 have hql2:(X.nt q).length≤f':=by
  have h1:(X.nt (.br 7 ps)).length=(X.nts' [X.lf ta,X.lf tb,X.lf tc,p,X.lf td]).length+(X.nt q).length:=by
   rw [X.nt_br,hsp,show [X.lf ta,X.lf tb,X.lf tc,p,X.lf td,q]=[X.lf ta,X.lf tb,X.lf tc,p,X.lf td]++[q] from rfl,X.nts_append,X.nts_one,List.length_append]
  have h2:0<(X.nts' [X.lf ta,X.lf tb,X.lf tc,p,X.lf td]).length:=by
   rw [X.nts_cons,X.nt_lf,if_pos (X.mem_pts hsp (by simp)),List.length_append];simp;omega
  omega
 have hdq:n+X.dp q≤522:=by
  have:=X.dp_pts (k:=7) (by decide) hsp (p:=q) (by simp)
  rw [if_neg (by decide)] at this
  omega
 have HIH:=hide (fun W h1 h2=>ih f' n e W a b v5 k5 h1 h2 hql2 hdq he)
 rw [hE] at HIH
 have HL2:=hide (fun W=>yline_any n (X.flat [X.lf ta,X.lf tb,X.lf tc,p,X.lf td]) W (by omega) (by omega))
 have hR1:(ba (X.line n (X.flat [X.lf ta,X.lf tb,X.lf tc,p,X.lf td]))).size≤2147483647:=by rw [ba_size,X.line_len];omega
 have hR2:(ba (X.ex f' n q e)).size≤2147483647:=by rw [ba_size];omega
 have HRES:=hide (ba_app (X.line n (X.flat [X.lf ta,X.lf tb,X.lf tc,p,X.lf td])) (X.ex f' n q e))
 have HN5:=hide n5
 have HC5:=hide hc5
 clear hF hFl hFw hql hfq hqw hql2 hdq ih n5 hc5 e5
 obtain ⟨g,rfl,z5⟩:=(HC5.out) w2 (Below.refl _ _)
 generalize ba (X.line n (X.flat [X.lf ta,X.lf tb,X.lf tc,p,X.lf td]))=R1 at *
 generalize ba (X.ex f' n q e)=R2 at *
 have hz2:¬ 9223372036854775807<R1.size+R2.size:=by omega
 have i5:(5:Int)≤(rc:Int):=by omega
 have i6:(5:Int)<(l.length:Int):=by omega
 rw [hll]
 clear z5
 go_wp2_with fail
 refine (HF.out).mono ?_
 rintro r w3 ⟨rfl,k3⟩
 obtain ⟨g',eg,z5⟩:=(HC5.out) w3 k3
 injection eg with eg
 injection eg with eg
 subst eg
 have K3:=hide k3
 have hw3:=k3.size
 clear k3
 go_wp2_with fail
 refine ((HL2.out) w3).mono ?_
 rintro r wc ⟨rfl,rfl⟩
 go_wp2_with fail
 have k13:Below wb.heap.size wb wc:=(K2.out).trans ((K3.out).mono hw2)
 refine ((HIH.out) wc ((HN5.out).below k13) (by omega)).mono ?_
 rintro r w4 ⟨rfl,k4⟩
 have HEND:Hid (Below w.heap.size w w4):=((K1.out).trans (k13.mono hw1)).trans (k4.mono (by omega))
 clear k4 k13
 go_wp2_with fail
 go_ret
 exact ⟨by rw [HRES.out];rfl,HEND.out⟩
end Go.Proofs.YtgpcpbmacdhlkaaGreatDoor
/- The document's lines of an expression: two with a sign between them. -/
namespace Go.Proofs.YtgpcpbmacdhlkaaGreatDoor
open Go.RowKit
open M
set_option maxRecDepth 100000 in
set_option maxHeartbeats 4000000 in
theorem expr_bin (ps:List X.Part) (p:X.Part) (ta:X.Tok) (q:X.Part) (hsp:X.pts ps=[p,X.lf ta,q]) (hsh:X.Sh (.br 10 ps)) (hq:X.Sh p) (hs:X.Sh q) (hp:Fine (.br 10 ps)) (ih:EC p) (ih2:EC q):EC (.br 10 ps):=by
 intro f n e w a b v i h hb hfu hd he
 by_cases hW:n+X.chars (X.flat [.br 10 ps])+1≤80
 ·exact expr_fit _ hp f n e w a b v i h hb (by omega) he hW
 have hne:X.nt (.br 10 ps)≠[]:=hsh.ne
 obtain ⟨f',rfl⟩:∃ f',f=f'+1:=⟨f - 1,by have:=List.length_pos_iff.2 hne;omega⟩
 have hex:X.ex (f'+1) n (.br 10 ps) e=X.ex f' n p []++(X.line n ta.2++X.ex f' (n+2) q e):=by
  conv=>lhs;unfold X.ex
  rw [if_neg hW,show X.kindOf (.br 10 ps)=10 from rfl,if_neg (by decide),if_neg (by decide),if_neg (by decide),if_pos rfl,show X.kidsOf (.br 10 ps)=ps from rfl,hsp]
  rfl
 rw [hex]
 have hS:=flat_fine hp
 obtain ⟨N,ao0,cap0,at0,en,fr,tt,la,vs0,rfl,hN1,hN2,hnd,-⟩:=h.any
 obtain ⟨⟨c0,-⟩,-⟩:=hnd.facts
 have b0:((pk (.br 10 ps):Nat):Int)=10:=rfl
 rw [b0] at c0
 have HO:=hide (yone_any _ hp w a b _ i h hb)
 have hSz:=ba_size (X.flat [.br 10 ps])
 have hez:=ba_size e
 have HCh:=hide (fun W=>ychars_any (ba (X.flat [.br 10 ps])) W (by omega))
 rw [bs_ba] at HCh
 have HLi:=hide (fun W=>yline_any n (X.flat [.br 10 ps]++e) W (by omega) (by rw [List.length_append];omega))
 rw [← ba_app] at HLi
 have hlc:=X.chars_le _ (X.flat [.br 10 ps]) (Nat.le_refl _)
 have HH:=hide h
 have HP:=hide hp
 have hpl:=hp.parts
 clear hex hne hnd h
 generalize X.line n (X.flat [.br 10 ps]++e)=R at *
 generalize X.chars (X.flat [.br 10 ps])=c at *
 generalize ba (X.flat [.br 10 ps])=S at *
 generalize hE:ba e=E at *
 have hz1:¬ 9223372036854775807<S.size+E.size:=by omega
 have i1:decide ((n:Int)+(c:Int)+1≤80)=false:=decide_eq_false (by omega)
 have i2:¬(n:Int)+(c:Int)+1≤80:=by omega
 have i3:(80:Int)<(n:Int)+(c:Int)+1:=by omega
 have C0:=hide c0
 clear c0 b0 hp
 go_enter Tryz.func26,Tryz.ntmps26
 go_wp2_with fail
 refine (HO.out).mono ?_
 rintro r w1 ⟨rfl,k1⟩
 have K1:=hide k1
 have HH1:=hide ((HH.out).below k1)
 have hw1:=k1.size
 have d0:=kcb k1 (by omega) C0.out
 clear k1 HO HH C0
 go_wp2_with fail
 refine ((HCh.out) w1).mono ?_
 rintro r wa ⟨rfl,rfl⟩
 go_wp2_with fail
 refine ((HLi.out) wa).mono ?_
 rintro r wb ⟨rfl,rfl⟩
 clear HCh HLi
 go_wp2_with fail
 refine (parts_any HH1.out (by omega) (HP.out).kok (by show ps.length≤_;omega)).mono ?_
 rintro r w2 ⟨rv,rfl,X2⟩
 obtain ⟨⟨l,hlp,hown⟩,k2⟩:=X2.out
 replace hlp:LP _ a b l ps i:=hlp
 have hat:=hlp.at
 rw [hsp] at hat
 have hll:l.length=3:=hat.1
 have HV:=hide (IsV.ofOwns hown)
 have HLP:=hide hlp
 have K2:=hide k2
 have d0':=kcb k2 (by omega) d0
 have hw2:=k2.size
 obtain ⟨ro,rc,rfl,hrc,hrm,-⟩:=(HV.out)
 have HAT:=hide hat.2
 clear X2 hlp hown k2 hat d0
 obtain ⟨v0,k0,e0,n0⟩:=(HAT.out) 0 p rfl
 have hc0:∀ W,Below w2.heap.size w2 W→∃ g,ro=some ⟨g,0,none⟩∧W.cell? ⟨g,0,none⟩=some v0:=fun W hB=>by
  obtain ⟨g,eA,eB⟩:=(HV.out).get hB rfl (by omega:0<l.length)
  have:l[0]'(by omega)=v0:=Option.some.inj ((List.getElem?_eq_getElem (by omega)).symm.trans e0)
  rw [this] at eB
  exact ⟨g,eA,eB⟩
 have HC0:=hide hc0
 have HN0:=hide n0
 clear hc0 n0 e0
 obtain ⟨v1,k1,e1,n1⟩:=(HAT.out) 1 (X.lf ta) rfl
 have hc1:∀ W,Below w2.heap.size w2 W→∃ g,ro=some ⟨g,0,none⟩∧W.cell? ⟨g,1,none⟩=some v1:=fun W hB=>by
  obtain ⟨g,eA,eB⟩:=(HV.out).get hB rfl (by omega:1<l.length)
  have:l[1]'(by omega)=v1:=Option.some.inj ((List.getElem?_eq_getElem (by omega)).symm.trans e1)
  rw [this] at eB
  exact ⟨g,eA,eB⟩
 have HC1:=hide hc1
 have HN1:=hide n1
 clear hc1 n1 e1
 obtain ⟨v2,k2,e2,n2⟩:=(HAT.out) 2 q rfl
 have hc2:∀ W,Below w2.heap.size w2 W→∃ g,ro=some ⟨g,0,none⟩∧W.cell? ⟨g,2,none⟩=some v2:=fun W hB=>by
  obtain ⟨g,eA,eB⟩:=(HV.out).get hB rfl (by omega:2<l.length)
  have:l[2]'(by omega)=v2:=Option.some.inj ((List.getElem?_eq_getElem (by omega)).symm.trans e2)
  rw [this] at eB
  exact ⟨g,eA,eB⟩
 have HC2:=hide hc2
 have HN2:=hide n2
 clear hc2 n2 e2
 have hd0:n+X.dp p≤522:=by
  have hx:=X.dpb_pts hsp
  have hy:X.dp (.br 10 ps)=X.dpb ps:=by rw [X.dp,if_pos rfl]
  omega
 have hql0:=X.ex_len (M:=522) f' (n) p [] hq hd0
 have hfq0:=(HP.out).part (q:=p) (by rw [hsp];simp)
 have hqw0:=hfq0.wt
 have hcnt0:(X.nt p).length≤f':=by
  have h1:(X.nt (.br 10 ps)).length=(X.nt p).length+(X.nt (X.lf ta)).length+(X.nt q).length:=by
   rw [X.nt_br,hsp];simp only [X.nts_cons,X.nts_nil,List.length_append,List.length_nil,Nat.add_zero];try omega
  have h2:(X.nt (X.lf ta)).length=1:=by rw [X.nt_lf,if_pos (X.mem_pts hsp (by simp))];rfl
  omega
 have HIH0:=hide (fun W (h1:NdP W a b v0 p k0) (h2:b≤W.heap.size)=>by
  have:=ih f' (n) [] W a b v0 k0 h1 h2 hcnt0 hd0 (by simp)
  exact this)
 have hd2:n+2+X.dp q≤522:=by
  have hx:=X.dpb_pts hsp
  have hy:X.dp (.br 10 ps)=X.dpb ps:=by rw [X.dp,if_pos rfl]
  have hz9:=X.dps_mem (p:=q) (ps:=[X.lf ta,q]) (by simp)
  omega
 have hql2:=X.ex_len (M:=522) f' (n+2) q e hs hd2
 have hfq2:=(HP.out).part (q:=q) (by rw [hsp];simp)
 have hqw2:=hfq2.wt
 have hcnt2:(X.nt q).length≤f':=by
  have h1:(X.nt (.br 10 ps)).length=(X.nt p).length+(X.nt (X.lf ta)).length+(X.nt q).length:=by
   rw [X.nt_br,hsp];simp only [X.nts_cons,X.nts_nil,List.length_append,List.length_nil,Nat.add_zero];try omega
  have h2:(X.nt (X.lf ta)).length=1:=by rw [X.nt_lf,if_pos (X.mem_pts hsp (by simp))];rfl
  omega
 have HIH2:=hide (fun W (h1:NdP W a b v2 q k2) (h2:b≤W.heap.size)=>by
  have:=ih2 f' (n+2) e W a b v2 k2 h1 h2 hcnt2 hd2 he
  rw [show ((n+2:Nat):Int)=(n:Int)+2 by omega] at this
  rw [hE] at this
  exact this)
 have hfa:=(HP.out).part (q:=X.lf ta) (by rw [hsp];simp)
 have haw:=hfa.wt
 rw [X.nt_lf,if_pos (X.mem_pts hsp (by simp)),X.wt_one] at haw
 obtain ⟨N1,ao1,cap1,at1,en1,fr1,tt1,la1,vs1,rfl,hM1,hM2,hnd1,-⟩:=(HN1.out).any
 obtain ⟨⟨-,-,x2,-⟩,-⟩:=hnd1.facts
 replace x2:wb.cell? ⟨N1,2,none⟩=some (.string (ba ta.2)):=x2
 have HX2:=hide x2
 have HL2:=hide (fun W=>yline_any n ta.2 W (by omega) (by omega))
 have hR1:(ba (X.ex f' n p [])).size≤2147483647:=by rw [ba_size];simp only [List.length_nil] at hql0;omega
 have hR2:(ba (X.line n ta.2)).size≤2147483647:=by rw [ba_size,X.line_len];omega
 have hR3:(ba (X.ex f' (n+2) q e)).size≤2147483647:=by rw [ba_size];omega
 have HRES:Hid (ba (X.ex f' n p [])++ba (X.line n ta.2)++ba (X.ex f' (n+2) q e)=ba (X.ex f' n p []++(X.line n ta.2++X.ex f' (n+2) q e))):=by
  show _=_
  rw [ba_app,ba_app,List.append_assoc]
 clear hql0 hfq0 hqw0 hcnt0 hd0 hql2 hfq2 hqw2 hcnt2 hd2 hfa haw ih ih2 x2 hnd1
 obtain ⟨g,rfl,z0⟩:=(HC0.out) w2 (Below.refl _ _)
 generalize ba (X.ex f' n p [])=R1 at *
 generalize ba (X.line n ta.2)=R2 at *
 generalize ba (X.ex f' (n+2) q e)=R3 at *
 have hz2:¬ 9223372036854775807<R1.size+R2.size:=by omega
 have hz3:¬ 9223372036854775807<(R1++R2).size+R3.size:=by rw [ByteArray.size_append];omega
 have hz5:¬ 9223372036854775807<R1.size+R2.size+R3.size:=by omega
 rw [hll]
 go_wp2_with fail
 refine ((HIH0.out) w2 ((HN0.out).below K2.out) (by omega)).mono ?_
 rintro r w3 ⟨rfl,k3⟩
 obtain ⟨g',eg,z1⟩:=(HC1.out) w3 k3
 injection eg with eg
 injection eg with eg
 subst eg
 have k13:Below wb.heap.size wb w3:=(K2.out).trans (k3.mono hw2)
 have x2:=kcb k13 (by omega) HX2.out
 have K3:=hide k3
 have hw3:=k3.size
 have K13:=hide k13
 clear k3 k13 z0
 go_wp2_with fail
 refine ((HL2.out) w3).mono ?_
 rintro r wc ⟨rfl,rfl⟩
 obtain ⟨g',eg,z2⟩:=(HC2.out) wc K3.out
 injection eg with eg
 injection eg with eg
 subst eg
 go_wp2_with fail
 refine ((HIH2.out) wc ((HN2.out).below K13.out) (by omega)).mono ?_
 rintro r w4 ⟨rfl,k4⟩
 have HEND:Hid (Below w.heap.size w w4):=((K1.out).trans ((K13.out).mono hw1)).trans (k4.mono (by omega))
 clear k4
 go_wp2_with fail
 go_ret
 exact ⟨by rw [HRES.out];rfl,HEND.out⟩
end Go.Proofs.YtgpcpbmacdhlkaaGreatDoor
/- The document's lines of an expression: an if. -/
namespace Go.Proofs.YtgpcpbmacdhlkaaGreatDoor
open Go.RowKit
open M
set_option maxRecDepth 100000 in
set_option maxHeartbeats 4000000 in
theorem expr_ite (ps:List X.Part) (ta tb tc:X.Tok) (p q s:X.Part) (hsp:X.pts ps=[X.lf ta,p,X.lf tb,q,X.lf tc,s]) (hsh:X.Sh (.br 8 ps)) (hq:X.Sh q) (hs:X.Sh s) (hp:Fine (.br 8 ps)) (ih:EC q) (ih2:EC s):EC (.br 8 ps):=by
 intro f n e w a b v i h hb hfu hd he
 by_cases hW:n+X.chars (X.flat [.br 8 ps])+1≤80
 ·exact expr_fit _ hp f n e w a b v i h hb (by omega) he hW
 have hne:X.nt (.br 8 ps)≠[]:=hsh.ne
 obtain ⟨f',rfl⟩:∃ f',f=f'+1:=⟨f - 1,by have:=List.length_pos_iff.2 hne;omega⟩
 have hex:X.ex (f'+1) n (.br 8 ps) e=X.line n (X.flat [X.lf ta,p,X.lf tb])++(X.ex f' (n+2) q []++(X.line n X.sElse++X.ex f' (n+2) s e)):=by
  conv=>lhs;unfold X.ex
  rw [if_neg hW,show X.kindOf (.br 8 ps)=8 from rfl,if_neg (by decide),if_pos rfl,show X.kidsOf (.br 8 ps)=ps from rfl,hsp]
  rfl
 rw [hex]
 have hS:=flat_fine hp
 obtain ⟨N,ao0,cap0,at0,en,fr,tt,la,vs0,rfl,hN1,hN2,hnd,-⟩:=h.any
 obtain ⟨⟨c0,-⟩,-⟩:=hnd.facts
 have b0:((pk (.br 8 ps):Nat):Int)=8:=rfl
 rw [b0] at c0
 have HO:=hide (yone_any _ hp w a b _ i h hb)
 have hSz:=ba_size (X.flat [.br 8 ps])
 have hez:=ba_size e
 have HCh:=hide (fun W=>ychars_any (ba (X.flat [.br 8 ps])) W (by omega))
 rw [bs_ba] at HCh
 have HLi:=hide (fun W=>yline_any n (X.flat [.br 8 ps]++e) W (by omega) (by rw [List.length_append];omega))
 rw [← ba_app] at HLi
 have hlc:=X.chars_le _ (X.flat [.br 8 ps]) (Nat.le_refl _)
 have HH:=hide h
 have HP:=hide hp
 have hpl:=hp.parts
 clear hex hne hnd h
 generalize X.line n (X.flat [.br 8 ps]++e)=R at *
 generalize X.chars (X.flat [.br 8 ps])=c at *
 generalize ba (X.flat [.br 8 ps])=S at *
 generalize hE:ba e=E at *
 have hz1:¬ 9223372036854775807<S.size+E.size:=by omega
 have i1:decide ((n:Int)+(c:Int)+1≤80)=false:=decide_eq_false (by omega)
 have i2:¬(n:Int)+(c:Int)+1≤80:=by omega
 have i3:(80:Int)<(n:Int)+(c:Int)+1:=by omega
 have C0:=hide c0
 clear c0 b0 hp
 go_enter Tryz.func26,Tryz.ntmps26
 go_wp2_with fail
 refine (HO.out).mono ?_
 rintro r w1 ⟨rfl,k1⟩
 have K1:=hide k1
 have HH1:=hide ((HH.out).below k1)
 have hw1:=k1.size
 have d0:=kcb k1 (by omega) C0.out
 clear k1 HO HH C0
 go_wp2_with fail
 refine ((HCh.out) w1).mono ?_
 rintro r wa ⟨rfl,rfl⟩
 go_wp2_with fail
 refine ((HLi.out) wa).mono ?_
 rintro r wb ⟨rfl,rfl⟩
 clear HCh HLi
 go_wp2_with fail
 refine (parts_any HH1.out (by omega) (HP.out).kok (by show ps.length≤_;omega)).mono ?_
 rintro r w2 ⟨rv,rfl,X2⟩
 obtain ⟨⟨l,hlp,hown⟩,k2⟩:=X2.out
 replace hlp:LP _ a b l ps i:=hlp
 have hat:=hlp.at
 rw [hsp] at hat
 have hll:l.length=6:=hat.1
 have HV:=hide (IsV.ofOwns hown)
 have HLP:=hide hlp
 have K2:=hide k2
 have d0':=kcb k2 (by omega) d0
 have hw2:=k2.size
 obtain ⟨ro,rc,rfl,hrc,hrm,-⟩:=(HV.out)
 have HAT:=hide hat.2
 clear X2 hlp hown k2 hat d0
 obtain ⟨v3,k3,e3,n3⟩:=(HAT.out) 3 q rfl
 have hc3:∀ W,Below w2.heap.size w2 W→∃ g,ro=some ⟨g,0,none⟩∧W.cell? ⟨g,3,none⟩=some v3:=fun W hB=>by
  obtain ⟨g,e1,e2⟩:=(HV.out).get hB rfl (by omega:3<l.length)
  have:l[3]'(by omega)=v3:=Option.some.inj ((List.getElem?_eq_getElem (by omega)).symm.trans e3)
  rw [this] at e2
  exact ⟨g,e1,e2⟩
 have HC3:=hide hc3
 have HN3:=hide n3
 clear hc3 n3 e3
 obtain ⟨v5,k5,e5,n5⟩:=(HAT.out) 5 s rfl
 have hc5:∀ W,Below w2.heap.size w2 W→∃ g,ro=some ⟨g,0,none⟩∧W.cell? ⟨g,5,none⟩=some v5:=fun W hB=>by
  obtain ⟨g,e1,e2⟩:=(HV.out).get hB rfl (by omega:5<l.length)
  have:l[5]'(by omega)=v5:=Option.some.inj ((List.getElem?_eq_getElem (by omega)).symm.trans e5)
  rw [this] at e2
  exact ⟨g,e1,e2⟩
 have HC5:=hide hc5
 have HN5:=hide n5
 clear hc5 n5 e5
 obtain ⟨hF,hFl,hFw⟩:=flat_cut HP.out HLP.out (by omega) K2.out HV.out 3 (by omega)
 rw [hsp] at hF hFl hFw
 simp only [List.take_succ_cons,List.take_zero] at hF hFl hFw
 have HF:=hide hF
 have hd3:n+2+X.dp q≤522:=by
  have:=X.dp_pts (k:=8) (by decide) hsp (p:=q) (by simp)
  rw [if_pos (by decide)] at this
  omega
 have hql3:=X.ex_len (M:=522) f' (n+2) q [] hq hd3
 have hfq3:=(HP.out).part (q:=q) (by rw [hsp];simp)
 have hqw3:=hfq3.wt
 have hcnt3:(X.nt q).length≤f':=by
  have h1:(X.nt (.br 8 ps)).length=(X.nt (X.lf ta)).length+(X.nt p).length+(X.nt (X.lf tb)).length+(X.nt q).length+(X.nt (X.lf tc)).length+(X.nt s).length:=by
   rw [X.nt_br,hsp];simp only [X.nts_cons,X.nts_nil,List.length_append,List.length_nil,Nat.add_zero];try omega
  have h2:(X.nt (X.lf ta)).length=1:=by rw [X.nt_lf,if_pos (X.mem_pts hsp (by simp))];rfl
  omega
 have HIH3:=hide (fun W (h1:NdP W a b v3 q k3) (h2:b≤W.heap.size)=>by
  have:=ih f' (n+2) [] W a b v3 k3 h1 h2 hcnt3 hd3 (by simp)
  rw [show ((n+2:Nat):Int)=(n:Int)+2 by omega] at this
  exact this)
 have hd5:n+2+X.dp s≤522:=by
  have:=X.dp_pts (k:=8) (by decide) hsp (p:=s) (by simp)
  rw [if_pos (by decide)] at this
  omega
 have hql5:=X.ex_len (M:=522) f' (n+2) s e hs hd5
 have hfq5:=(HP.out).part (q:=s) (by rw [hsp];simp)
 have hqw5:=hfq5.wt
 have hcnt5:(X.nt s).length≤f':=by
  have h1:(X.nt (.br 8 ps)).length=(X.nt (X.lf ta)).length+(X.nt p).length+(X.nt (X.lf tb)).length+(X.nt q).length+(X.nt (X.lf tc)).length+(X.nt s).length:=by
   rw [X.nt_br,hsp];simp only [X.nts_cons,X.nts_nil,List.length_append,List.length_nil,Nat.add_zero];try omega
  have h2:(X.nt (X.lf ta)).length=1:=by rw [X.nt_lf,if_pos (X.mem_pts hsp (by simp))];rfl
  omega
 have HIH5:=hide (fun W (h1:NdP W a b v5 s k5) (h2:b≤W.heap.size)=>by
  have:=ih2 f' (n+2) e W a b v5 k5 h1 h2 hcnt5 hd5 he
  rw [show ((n+2:Nat):Int)=(n:Int)+2 by omega] at this
  rw [hE] at this
  exact this)
 have HL2:=hide (fun W=>yline_any n (X.flat [X.lf ta,p,X.lf tb]) W (by omega) (by omega))
 have HL3:Hid (∀ W,Calls Tryz.prog 49 #[.int .i64 n,.string ⟨#[101,108,115,101]⟩] W fun r w'=>r=.returned (.string (ba (X.line n X.sElse)))∧w'=W):=fun W=>yline_any n X.sElse W (by omega) (by decide)
 have hR1:(ba (X.line n (X.flat [X.lf ta,p,X.lf tb]))).size≤2147483647:=by rw [ba_size,X.line_len];omega
 have hR2:(ba (X.ex f' (n+2) q [])).size≤2147483647:=by rw [ba_size];simp only [List.length_nil] at hql3;omega
 have hR3:(ba (X.line n X.sElse)).size≤2147483647:=by rw [ba_size,X.line_len];show n+4+1≤_;omega
 have hR4:(ba (X.ex f' (n+2) s e)).size≤2147483647:=by rw [ba_size];omega
 have HRES:Hid (ba (X.line n (X.flat [X.lf ta,p,X.lf tb]))++ba (X.ex f' (n+2) q [])++ba (X.line n X.sElse)++ba (X.ex f' (n+2) s e)=ba (X.line n (X.flat [X.lf ta,p,X.lf tb])++(X.ex f' (n+2) q []++(X.line n X.sElse++X.ex f' (n+2) s e)))):=by
  show _=_
  rw [ba_app,ba_app,ba_app,List.append_assoc,List.append_assoc]
 clear hF hFl hFw hql3 hfq3 hqw3 hcnt3 hd3 hql5 hfq5 hqw5 hcnt5 hd5 ih ih2
 obtain ⟨g,rfl,z5⟩:=(HC3.out) w2 (Below.refl _ _)
 generalize ba (X.line n (X.flat [X.lf ta,p,X.lf tb]))=R1 at *
 generalize ba (X.ex f' (n+2) q [])=R2 at *
 generalize ba (X.line n X.sElse)=R3 at *
 generalize ba (X.ex f' (n+2) s e)=R4 at *
 have hz2:¬ 9223372036854775807<R1.size+R2.size:=by omega
 have hz3:¬ 9223372036854775807<(R1++R2).size+R3.size:=by rw [ByteArray.size_append];omega
 have hz4:¬ 9223372036854775807<(R1++R2++R3).size+R4.size:=by rw [ByteArray.size_append,ByteArray.size_append];omega
 have hz5:¬ 9223372036854775807<R1.size+R2.size+R3.size:=by omega
 have hz6:¬ 9223372036854775807<R1.size+R2.size+R3.size+R4.size:=by omega
 have i5:(3:Int)≤(rc:Int):=by omega
 have i6:(3:Int)<(l.length:Int):=by omega
 have i7:(5:Int)<(l.length:Int):=by omega
 rw [hll]
 clear z5
 go_wp2_with fail
 refine (HF.out).mono ?_
 rintro r w3 ⟨rfl,k3⟩
 obtain ⟨g',eg,z3⟩:=(HC3.out) w3 k3
 injection eg with eg
 injection eg with eg
 subst eg
 have K3:=hide k3
 have hw3:=k3.size
 clear k3
 go_wp2_with fail
 refine ((HL2.out) w3).mono ?_
 rintro r wc ⟨rfl,rfl⟩
 go_wp2_with fail
 have k13:Below wb.heap.size wb wc:=(K2.out).trans ((K3.out).mono hw2)
 refine ((HIH3.out) wc ((HN3.out).below k13) (by omega)).mono ?_
 rintro r w4 ⟨rfl,k4⟩
 obtain ⟨g',eg,z5⟩:=(HC5.out) w4 ((K3.out).trans (k4.mono hw3))
 injection eg with eg
 injection eg with eg
 subst eg
 have K4:=hide k4
 have hw4:=k4.size
 have K14:=hide (k13.trans (k4.mono k13.size))
 clear k4 k13 z3
 go_wp2_with fail
 refine ((HL3.out) w4).mono ?_
 rintro r wd ⟨rfl,rfl⟩
 go_wp2_with fail
 refine ((HIH5.out) wd ((HN5.out).below K14.out) (by omega)).mono ?_
 rintro r w5 ⟨rfl,k5'⟩
 have HEND:Hid (Below w.heap.size w w5):=((K1.out).trans ((K14.out).mono hw1)).trans (k5'.mono (by omega))
 clear k5' K14
 go_wp2_with fail
 go_ret
 exact ⟨by rw [HRES.out];rfl,HEND.out⟩
end Go.Proofs.YtgpcpbmacdhlkaaGreatDoor
/- The document's lines of an expression: what stands in brackets. -/
namespace Go.Proofs.YtgpcpbmacdhlkaaGreatDoor
open Go.RowKit
open M
set_option maxRecDepth 100000 in
set_option maxHeartbeats 4000000 in
theorem expr_list (ps:List X.Part) (ta:X.Tok) (ml:List X.Part) (hsp:X.pts ps=X.lf ta::ml) (hA:X.ShA [93] ml) (hsh:X.Sh (.br 13 ps)) (hp:Fine (.br 13 ps)) (ih:∀ q∈ml,X.Sh q→EC q):EC (.br 13 ps):=by
 intro f n e w a b v i h hb hfu hd he
 by_cases hW:n+X.chars (X.flat [.br 13 ps])+1≤80
 ·exact expr_fit _ hp f n e w a b v i h hb (by omega) he hW
 have hne:X.nt (.br 13 ps)≠[]:=hsh.ne
 obtain ⟨f',rfl⟩:∃ f',f=f'+1:=⟨f - 1,by have:=List.length_pos_iff.2 hne;omega⟩
 have hex:X.ex (f'+1) n (.br 13 ps) e=X.bracket (X.ex f' (n+2)) n (X.line n (X.flat [.br 13 ps]++e)) [91] (X.lf ta::ml) e:=by
  conv=>lhs;unfold X.ex
  rw [if_neg hW,show X.kindOf (.br 13 ps)=13 from rfl,if_neg (by decide),if_neg (by decide),if_neg (by decide),if_neg (by decide),if_neg (by decide),if_pos rfl,show X.kidsOf (.br 13 ps)=ps from rfl,hsp]
  all_goals rfl
 rw [hex]
 have hS:=flat_fine hp
 obtain ⟨N,ao0,cap0,at0,en,fr,tt,la,vs0,rfl,hN1,hN2,hnd,-⟩:=h.any
 obtain ⟨⟨c0,-⟩,-⟩:=hnd.facts
 have b0:((pk (.br 13 ps):Nat):Int)=13:=rfl
 rw [b0] at c0
 have HO:=hide (yone_any _ hp w a b _ i h hb)
 have hSz:=ba_size (X.flat [.br 13 ps])
 have hez:=ba_size e
 have HCh:=hide (fun W=>ychars_any (ba (X.flat [.br 13 ps])) W (by omega))
 rw [bs_ba] at HCh
 have HLi:=hide (fun W=>yline_any n (X.flat [.br 13 ps]++e) W (by omega) (by rw [List.length_append];omega))
 rw [← ba_app] at HLi
 have hlc:=X.chars_le _ (X.flat [.br 13 ps]) (Nat.le_refl _)
 have HH:=hide h
 have HP:=hide hp
 have hpl:=hp.parts
 clear hex hne hnd h
 generalize X.line n (X.flat [.br 13 ps]++e)=R at *
 generalize X.chars (X.flat [.br 13 ps])=c at *
 generalize ba (X.flat [.br 13 ps])=S at *
 generalize hE:ba e=E at *
 have hz1:¬ 9223372036854775807<S.size+E.size:=by omega
 have i1:decide ((n:Int)+(c:Int)+1≤80)=false:=decide_eq_false (by omega)
 have i2:¬(n:Int)+(c:Int)+1≤80:=by omega
 have i3:(80:Int)<(n:Int)+(c:Int)+1:=by omega
 have C0:=hide c0
 clear c0 b0 hp
 go_enter Tryz.func26,Tryz.ntmps26
 go_wp2_with fail
 refine (HO.out).mono ?_
 rintro r w1 ⟨rfl,k1⟩
 have K1:=hide k1
 have HH1:=hide ((HH.out).below k1)
 have hw1:=k1.size
 have d0:=kcb k1 (by omega) C0.out
 clear k1 HO HH C0
 go_wp2_with fail
 refine ((HCh.out) w1).mono ?_
 rintro r wa ⟨rfl,rfl⟩
 go_wp2_with fail
 refine ((HLi.out) wa).mono ?_
 rintro r wb ⟨rfl,rfl⟩
 clear HCh HLi
 go_wp2_with fail
 refine (parts_any HH1.out (by omega) (HP.out).kok (by show ps.length≤_;omega)).mono ?_
 rintro r w2 ⟨rv,rfl,X2⟩
 obtain ⟨⟨l,hlp,hown⟩,k2⟩:=X2.out
 replace hlp:LP _ a b l ps i:=hlp
 have hat:=hlp.at
 rw [hsp] at hat
 have hll:l.length=ml.length+1:=hat.1
 have HV:=hide (IsV.ofOwns hown)
 have HLP:=hide hlp
 have K2:=hide k2
 have d0':=kcb k2 (by omega) d0
 have hw2:=k2.size
 obtain ⟨ro,rc,rfl,hrc,hrm,-⟩:=(HV.out)
 have HAT:=hide hat.2
 clear X2 hlp hown k2 hat d0
 have hPL:=hsp
 have hml2:2≤ml.length:=by cases hA<;>simp
 have hdx:∀ q∈ml,n+2+X.dp q≤522:=fun q hq=>by
  have:=X.dp_pts (k:=13) (by decide) hsp (p:=q) (List.mem_cons_of_mem _ hq)
  rw [if_pos (by decide)] at this
  omega
 have hcnt:∀ q∈ml,(X.nt q).length≤f':=fun q hq=>by
  have h1:X.nt (.br 13 ps)=X.nt (X.lf ta)++X.nts' ml:=by rw [X.nt_br,hsp,X.nts_cons]
  have h2:(X.nt (X.lf ta)).length=1:=by rw [X.nt_lf,if_pos (X.mem_pts hsp (by simp))];rfl
  obtain ⟨x,y,ey⟩:=List.append_of_mem hq
  rw [ey,X.nts_append,X.nts_cons] at h1
  have h3:=congrArg List.length h1
  simp only [List.length_append] at h3
  omega
 have hbr:X.bracket (X.ex f' (n+2)) n R [91] (X.lf ta::ml) e=X.line n [91]++(X.many (X.ex f' (n+2)) ml++X.line n ([93]++e)):=by
  unfold X.bracket
  rw [if_neg (by simp only [List.length_cons];omega)]
  obtain ⟨tz,ez1,ez2⟩:=ShA_last _ (Nat.le_refl _) hA
  have ez3:X.textOf ((X.lf ta::ml).getD ((X.lf ta::ml).length - 1) X.nil1)=[93]:=by
   obtain ⟨x,hx⟩:∃ x,ml.length=x+1:=⟨ml.length - 1,by omega⟩
   rw [List.getD_eq_getElem?_getD]
   simp only [List.length_cons,Nat.add_sub_cancel]
   rw [hx,List.getElem?_cons_succ]
   rw [hx,Nat.add_sub_cancel] at ez1
   rw [ez1]
   exact ez2
  rw [ez3]
  rfl
 have HBR:=hide hbr
 have HKid:Hid (∀ (j:Nat) (q:X.Part),ml[j]?=some q→∃ v,(∀ W,Below w2.heap.size w2 W→∃ g,ro=some ⟨g,0,none⟩∧W.cell? ⟨g,j+1,none⟩=some v)∧(∃ k,NdP wb a b v q k)):=fun j q hj=>by
  obtain ⟨v,k,e1,n1⟩:=(HAT.out) (j+1) q (by rw [List.getElem?_cons_succ];exact hj)
  have hjl:j+1<l.length:=by
   rcases Nat.lt_or_ge (j+1) l.length with g|g
   ·exact g
   ·rw [List.getElem?_eq_none g] at e1;cases e1
  refine ⟨v,fun W hB=>?_,k,n1⟩
  obtain ⟨g,eA,eB⟩:=(HV.out).get hB rfl hjl
  have:l[j+1]=v:=Option.some.inj ((List.getElem?_eq_getElem hjl).symm.trans e1)
  rw [this] at eB
  exact ⟨g,eA,eB⟩
 obtain ⟨tz,hz8,hzc⟩:=ShA_last _ (Nat.le_refl _) hA
 have hmany:(X.many (X.ex f' (n+2)) ml).length≤1073741823:=by
  have:=(X.many_len (n:=n) (X.ex_len (M:=522) f' (n+2)) (by omega) [] _ (Nat.le_refl _) hA (fun x hx=>by
   have:=hdx x hx
   omega) (fun t ht=>X.pts_lou (ps:=ps) (by rw [hPL];exact List.mem_cons_of_mem _ ht))).2
  have hwl:X.wt 522 (X.nts' ml)≤1073740000:=by
   have:=hpl.1
   rw [hPL,X.nts_cons,X.wt_append] at this
   omega
  simp only [List.length_nil] at this
  omega
 have HIH:Hid (∀ (q:X.Part) (e':List UInt8) (W:World) (v:Value) (k:Nat),q∈ml→X.Sh q→e'.length≤10→NdP W a b v q k→b≤W.heap.size→Calls Tryz.prog 26 #[.int .i64 ((n:Int)+2),v,.string (ba e')] W fun r w'=>r=.returned (.string (ba (X.ex f' (n+2) q e')))∧Below W.heap.size W w'):=fun q e' W v k hq hs he' h1 h2=>by
  have:=ih q hq hs f' (n+2) e' W a b v k h1 h2 (hcnt q hq) (by have:=hdx q hq;omega) he'
  rw [show ((n+2:Nat):Int)=(n:Int)+2 by omega] at this
  exact this
 have HLf:=hide (fun W=>yline_any n [91] W (by omega) (by simp only [List.length_cons,List.length_nil];omega))
 have hFz:(ba (X.line n [91])).size≤1073750000:=by rw [ba_size,X.line_len];simp only [List.length_cons,List.length_nil];omega
 have HLz:=hide (fun W=>yline_any n ([93]++e) W (by omega) (by rw [List.length_append];simp only [List.length_cons,List.length_nil];omega))
 rw [← ba_app,hE] at HLz
 have hZz:(ba (X.line n ([93]++e))).size≤1073750000:=by rw [ba_size,X.line_len,List.length_append];simp only [List.length_cons,List.length_nil];omega
 have HBk0:=hide (Bk.start (E:=X.ex f' (n+2)) hA)
 have HA:=hide hA
 have HZ8:=hide hz8
 clear hbr ih hcnt hdx hz8
 obtain ⟨g,rfl,-⟩:∃ g,ro=some ⟨g,0,none⟩∧True:=by
  obtain ⟨q0,hq0⟩:∃ q0,ml[0]?=some q0:=⟨_,List.getElem?_eq_getElem (by omega)⟩
  obtain ⟨v0,hv0,-⟩:=(HKid.out) 0 q0 hq0
  obtain ⟨g,e1,-⟩:=hv0 w2 (Below.refl _ _)
  exact ⟨g,e1,trivial⟩
 have j0:(((ml.length+1:Nat):Int)==2)=false:=by simp;omega
 have hmlb:ml.length≤67108864:=by
  have:=hpl.2.1
  rw [hPL,List.length_cons] at this
  omega
 have j1:IntKind.i64.wrap (((ml.length+1:Nat):Int) - 1)=(ml.length:Int):=by rw [IntKind.wrap_i64];omega
 rw [hll]
 go_wp2_with fail
 refine ((HLf.out) w2).mono ?_
 rintro r wc ⟨rfl,rfl⟩
 generalize hRF:ba (X.line n [91])=RF at *
 go_wp2_with fail
 go_loopw [28,29] (fun a v wr=>∃ (t:Nat) (pre:List UInt8) (O:ByteArray),Hid (Bk (X.ex f' (n+2)) [93] ml t pre)∧Hid (O=RF++ba pre)∧a=.string O∧v=.int .i64 ((1+2*t:Nat):Int)∧Hid (Below wc.heap.size wc wr)) (fun _ v _=>ml.length+2 - (intOf v).toNat)
 case atStart=>exact ⟨0,[],RF,HBk0,bs_inj (by rw [bs_app,bs_ba,List.append_nil]),rfl,rfl,Below.refl _ _⟩
 case round =>
  obtain ⟨t,pre,O,HB,HO,rfl,rfl,KL⟩:=hrel
  have hBle:=(HB.out).le
  have hBlen:=(HB.out).len
  have hOz:O.size≤2147500000:=by rw [HO.out,ByteArray.size_append,ba_size];omega
  have hwl:=(KL.out).size
  by_cases hlt:2*t<ml.length
  ·obtain ⟨q,hq,hs,hcase⟩:=(HB.out).step hlt
   have hqm:q∈ml:=List.mem_of_getElem? hq
   obtain ⟨v,hcell,k,hnd⟩:=(HKid.out) (2*t) q hq
   obtain ⟨g',eg,z⟩:=hcell wr KL.out
   injection eg with eg
   injection eg with eg
   subst eg
   rw [Nat.add_comm (2*t) 1] at z
   have K13:Hid (Below wb.heap.size wb wr):=(K2.out).trans ((KL.out).mono hw2)
   have hw13:=(K13.out).size
   have m1:decide (((1+2*t:Nat):Int)<(ml.length:Int))=true:=decide_eq_true (by omega)
   have m1b:((1+2*t:Nat):Int)<(ml.length:Int):=by omega
   have m2:(0:Int)≤((1+2*t:Nat):Int):=Int.natCast_nonneg _
   have m2b:((1+2*t:Nat):Int)<((ml.length+1:Nat):Int):=by omega
   have m6:IntKind.i64.wrap (((1+2*t:Nat):Int)+2)=((1+2*t:Nat):Int)+2:=by rw [IntKind.wrap_i64];omega
   rcases hcase with ⟨hc1,hbn⟩|⟨hc1,hbn⟩
   all_goals have HBn:=hide hbn
   all_goals clear hbn
   ·have m3:decide (((ml.length+1:Nat):Int)≤((1+2*t:Nat):Int)+2)=true:=decide_eq_true (by omega)
    have m4:((ml.length+1:Nat):Int)≤((1+2*t:Nat):Int)+2:=by omega
    have HE9:=hide ((HIH.out) q [] wr v k hqm hs (by decide) (hnd.below K13.out) (by omega))
    have hXz:(ba (X.ex f' (n+2) q [])).size≤2147483647:=by
     have:=(HBn.out).len
     rw [List.length_append] at this
     rw [ba_size];omega
    have HON:Hid (O++ba (X.ex f' (n+2) q [])=RF++ba (pre++X.ex f' (n+2) q [])):=by
     show _=_
     rw [HO.out,← ba_app]
     exact bs_inj (by simp only [bs_app,List.append_assoc])
    generalize ba (X.ex f' (n+2) q [])=RX at *
    have m5:¬ 9223372036854775807<O.size+RX.size:=by omega
    clear HO HB hcell hnd
    go_wp2_with fail
    refine (HE9.out).mono ?_
    rintro r w9 ⟨rfl,k9⟩
    have HK9:Hid (Below wc.heap.size wc w9):=(KL.out).trans (k9.mono hwl)
    clear k9 HE9
    go_wp2_with fail
    exact ⟨⟨t+1,_,_,HBn,HON,rfl,by go_num,HK9⟩,by simp only [intOf];omega⟩
   ·have m3:decide (((ml.length+1:Nat):Int)≤((1+2*t:Nat):Int)+2)=false:=decide_eq_false (by omega)
    have m4:¬((ml.length+1:Nat):Int)≤((1+2*t:Nat):Int)+2:=by omega
    have HE9:=hide ((HIH.out) q [44] wr v k hqm hs (by decide) (hnd.below K13.out) (by omega))
    have hXz:(ba (X.ex f' (n+2) q [44])).size≤2147483647:=by
     have:=(HBn.out).len
     rw [List.length_append] at this
     rw [ba_size];omega
    have HON:Hid (O++ba (X.ex f' (n+2) q [44])=RF++ba (pre++X.ex f' (n+2) q [44])):=by
     show _=_
     rw [HO.out,← ba_app]
     exact bs_inj (by simp only [bs_app,List.append_assoc])
    generalize ba (X.ex f' (n+2) q [44])=RX at *
    have m5:¬ 9223372036854775807<O.size+RX.size:=by omega
    clear HO HB hcell hnd
    go_wp2_with fail
    refine (HE9.out).mono ?_
    rintro r w9 ⟨rfl,k9⟩
    have HK9:Hid (Below wc.heap.size wc w9):=(KL.out).trans (k9.mono hwl)
    clear k9 HE9
    go_wp2_with fail
    exact ⟨⟨t+1,_,_,HBn,HON,rfl,by go_num,HK9⟩,by simp only [intOf];omega⟩
  ·obtain ⟨hd1,hd2⟩:=(HB.out).done hlt
   have m1:decide (((1+2*t:Nat):Int)<(ml.length:Int))=false:=decide_eq_false (by omega)
   have m1b:¬((1+2*t:Nat):Int)<(ml.length:Int):=by omega
   obtain ⟨v,hcell,k,hnd⟩:=(HKid.out) (ml.length - 1) (X.lf tz) HZ8.out
   obtain ⟨g',eg,z⟩:=hcell wr KL.out
   injection eg with eg
   injection eg with eg
   subst eg
   rw [show ml.length - 1+1=ml.length by omega] at z
   have K13:Hid (Below wb.heap.size wb wr):=(K2.out).trans ((KL.out).mono hw2)
   obtain ⟨N1,ao1,cap1,at1,en1,fr1,tt1,la1,vs1,rfl,hM1,hM2,hnd1,-⟩:=hnd.any
   obtain ⟨⟨-,-,x2,-⟩,-⟩:=hnd1.facts
   replace x2:wb.cell? ⟨N1,2,none⟩=some (.string (ba tz.2)):=x2
   rw [hzc] at x2
   have y2:=kcb K13.out (by omega) x2
   have m2:(0:Int)≤(ml.length:Int):=Int.natCast_nonneg _
   have m2b:(ml.length:Int)<((ml.length+1:Nat):Int):=by omega
   have hCz:(ba [93]).size=1:=rfl
   have HRES:Hid (O++ba (X.line n ([93]++e))=ba (X.bracket (X.ex f' (n+2)) n R [91] (X.lf ta::ml) e)):=by
    show _=_
    rw [HBR.out,HO.out,hd2,← hRF,ba_app,ba_app,List.append_assoc]
   have HLz9:=hide ((HLz.out) wr)
   generalize ba (X.line n ([93]++e))=RZ at *
   generalize ba [93]=CB at *
   have m5:¬ 9223372036854775807<CB.size+E.size:=by omega
   have m7:¬ 9223372036854775807<O.size+RZ.size:=by omega
   clear HO HB hcell hnd hnd1 x2 HBR HIH HKid HLz
   go_wp2_with fail
   refine (HLz9.out).mono ?_
   rintro r w9 ⟨rfl,rfl⟩
   have HEND:Hid (Below w.heap.size w w9):=(K1.out).trans ((K13.out).mono hw1)
   go_wp2_with fail
   go_ret
   exact ⟨by rw [HRES.out];rfl,HEND.out⟩
end Go.Proofs.YtgpcpbmacdhlkaaGreatDoor
/- The document's lines of an expression: a group. -/
namespace Go.Proofs.YtgpcpbmacdhlkaaGreatDoor
open Go.RowKit
open M
set_option maxRecDepth 100000 in
set_option maxHeartbeats 4000000 in
theorem expr_group (ps:List X.Part) (ta:X.Tok) (ml:List X.Part) (hsp:X.pts ps=X.lf ta::ml) (hA:X.ShA [41] ml) (hsh:X.Sh (.br 14 ps)) (hp:Fine (.br 14 ps)) (ih:∀ q∈ml,X.Sh q→EC q):EC (.br 14 ps):=by
 intro f n e w a b v i h hb hfu hd he
 by_cases hW:n+X.chars (X.flat [.br 14 ps])+1≤80
 ·exact expr_fit _ hp f n e w a b v i h hb (by omega) he hW
 have hne:X.nt (.br 14 ps)≠[]:=hsh.ne
 obtain ⟨f',rfl⟩:∃ f',f=f'+1:=⟨f - 1,by have:=List.length_pos_iff.2 hne;omega⟩
 have hex:X.ex (f'+1) n (.br 14 ps) e=X.bracket (X.ex f' (n+2)) n (X.line n (X.flat [.br 14 ps]++e)) [40] (X.lf ta::ml) e:=by
  conv=>lhs;unfold X.ex
  rw [if_neg hW,show X.kindOf (.br 14 ps)=14 from rfl,if_neg (by decide),if_neg (by decide),if_neg (by decide),if_neg (by decide),if_neg (by decide),if_neg (by decide),if_pos rfl,show X.kidsOf (.br 14 ps)=ps from rfl,hsp]
  all_goals rfl
 rw [hex]
 have hS:=flat_fine hp
 obtain ⟨N,ao0,cap0,at0,en,fr,tt,la,vs0,rfl,hN1,hN2,hnd,-⟩:=h.any
 obtain ⟨⟨c0,-⟩,-⟩:=hnd.facts
 have b0:((pk (.br 14 ps):Nat):Int)=14:=rfl
 rw [b0] at c0
 have HO:=hide (yone_any _ hp w a b _ i h hb)
 have hSz:=ba_size (X.flat [.br 14 ps])
 have hez:=ba_size e
 have HCh:=hide (fun W=>ychars_any (ba (X.flat [.br 14 ps])) W (by omega))
 rw [bs_ba] at HCh
 have HLi:=hide (fun W=>yline_any n (X.flat [.br 14 ps]++e) W (by omega) (by rw [List.length_append];omega))
 rw [← ba_app] at HLi
 have hlc:=X.chars_le _ (X.flat [.br 14 ps]) (Nat.le_refl _)
 have HH:=hide h
 have HP:=hide hp
 have hpl:=hp.parts
 clear hex hne hnd h
 generalize X.line n (X.flat [.br 14 ps]++e)=R at *
 generalize X.chars (X.flat [.br 14 ps])=c at *
 generalize ba (X.flat [.br 14 ps])=S at *
 generalize hE:ba e=E at *
 have hz1:¬ 9223372036854775807<S.size+E.size:=by omega
 have i1:decide ((n:Int)+(c:Int)+1≤80)=false:=decide_eq_false (by omega)
 have i2:¬(n:Int)+(c:Int)+1≤80:=by omega
 have i3:(80:Int)<(n:Int)+(c:Int)+1:=by omega
 have C0:=hide c0
 clear c0 b0 hp
 go_enter Tryz.func26,Tryz.ntmps26
 go_wp2_with fail
 refine (HO.out).mono ?_
 rintro r w1 ⟨rfl,k1⟩
 have K1:=hide k1
 have HH1:=hide ((HH.out).below k1)
 have hw1:=k1.size
 have d0:=kcb k1 (by omega) C0.out
 clear k1 HO HH C0
 go_wp2_with fail
 refine ((HCh.out) w1).mono ?_
 rintro r wa ⟨rfl,rfl⟩
 go_wp2_with fail
 refine ((HLi.out) wa).mono ?_
 rintro r wb ⟨rfl,rfl⟩
 clear HCh HLi
 go_wp2_with fail
 refine (parts_any HH1.out (by omega) (HP.out).kok (by show ps.length≤_;omega)).mono ?_
 rintro r w2 ⟨rv,rfl,X2⟩
 obtain ⟨⟨l,hlp,hown⟩,k2⟩:=X2.out
 replace hlp:LP _ a b l ps i:=hlp
 have hat:=hlp.at
 rw [hsp] at hat
 have hll:l.length=ml.length+1:=hat.1
 have HV:=hide (IsV.ofOwns hown)
 have HLP:=hide hlp
 have K2:=hide k2
 have d0':=kcb k2 (by omega) d0
 have hw2:=k2.size
 obtain ⟨ro,rc,rfl,hrc,hrm,-⟩:=(HV.out)
 have HAT:=hide hat.2
 clear X2 hlp hown k2 hat d0
 have hPL:=hsp
 have hml2:2≤ml.length:=by cases hA<;>simp
 have hdx:∀ q∈ml,n+2+X.dp q≤522:=fun q hq=>by
  have:=X.dp_pts (k:=14) (by decide) hsp (p:=q) (List.mem_cons_of_mem _ hq)
  rw [if_pos (by decide)] at this
  omega
 have hcnt:∀ q∈ml,(X.nt q).length≤f':=fun q hq=>by
  have h1:X.nt (.br 14 ps)=X.nt (X.lf ta)++X.nts' ml:=by rw [X.nt_br,hsp,X.nts_cons]
  have h2:(X.nt (X.lf ta)).length=1:=by rw [X.nt_lf,if_pos (X.mem_pts hsp (by simp))];rfl
  obtain ⟨x,y,ey⟩:=List.append_of_mem hq
  rw [ey,X.nts_append,X.nts_cons] at h1
  have h3:=congrArg List.length h1
  simp only [List.length_append] at h3
  omega
 have hbr:X.bracket (X.ex f' (n+2)) n R [40] (X.lf ta::ml) e=X.line n [40]++(X.many (X.ex f' (n+2)) ml++X.line n ([41]++e)):=by
  unfold X.bracket
  rw [if_neg (by simp only [List.length_cons];omega)]
  obtain ⟨tz,ez1,ez2⟩:=ShA_last _ (Nat.le_refl _) hA
  have ez3:X.textOf ((X.lf ta::ml).getD ((X.lf ta::ml).length - 1) X.nil1)=[41]:=by
   obtain ⟨x,hx⟩:∃ x,ml.length=x+1:=⟨ml.length - 1,by omega⟩
   rw [List.getD_eq_getElem?_getD]
   simp only [List.length_cons,Nat.add_sub_cancel]
   rw [hx,List.getElem?_cons_succ]
   rw [hx,Nat.add_sub_cancel] at ez1
   rw [ez1]
   exact ez2
  rw [ez3]
  rfl
 have HBR:=hide hbr
 have HKid:Hid (∀ (j:Nat) (q:X.Part),ml[j]?=some q→∃ v,(∀ W,Below w2.heap.size w2 W→∃ g,ro=some ⟨g,0,none⟩∧W.cell? ⟨g,j+1,none⟩=some v)∧(∃ k,NdP wb a b v q k)):=fun j q hj=>by
  obtain ⟨v,k,e1,n1⟩:=(HAT.out) (j+1) q (by rw [List.getElem?_cons_succ];exact hj)
  have hjl:j+1<l.length:=by
   rcases Nat.lt_or_ge (j+1) l.length with g|g
   ·exact g
   ·rw [List.getElem?_eq_none g] at e1;cases e1
  refine ⟨v,fun W hB=>?_,k,n1⟩
  obtain ⟨g,eA,eB⟩:=(HV.out).get hB rfl hjl
  have:l[j+1]=v:=Option.some.inj ((List.getElem?_eq_getElem hjl).symm.trans e1)
  rw [this] at eB
  exact ⟨g,eA,eB⟩
 obtain ⟨tz,hz8,hzc⟩:=ShA_last _ (Nat.le_refl _) hA
 have hmany:(X.many (X.ex f' (n+2)) ml).length≤1073741823:=by
  have:=(X.many_len (n:=n) (X.ex_len (M:=522) f' (n+2)) (by omega) [] _ (Nat.le_refl _) hA (fun x hx=>by
   have:=hdx x hx
   omega) (fun t ht=>X.pts_lou (ps:=ps) (by rw [hPL];exact List.mem_cons_of_mem _ ht))).2
  have hwl:X.wt 522 (X.nts' ml)≤1073740000:=by
   have:=hpl.1
   rw [hPL,X.nts_cons,X.wt_append] at this
   omega
  simp only [List.length_nil] at this
  omega
 have HIH:Hid (∀ (q:X.Part) (e':List UInt8) (W:World) (v:Value) (k:Nat),q∈ml→X.Sh q→e'.length≤10→NdP W a b v q k→b≤W.heap.size→Calls Tryz.prog 26 #[.int .i64 ((n:Int)+2),v,.string (ba e')] W fun r w'=>r=.returned (.string (ba (X.ex f' (n+2) q e')))∧Below W.heap.size W w'):=fun q e' W v k hq hs he' h1 h2=>by
  have:=ih q hq hs f' (n+2) e' W a b v k h1 h2 (hcnt q hq) (by have:=hdx q hq;omega) he'
  rw [show ((n+2:Nat):Int)=(n:Int)+2 by omega] at this
  exact this
 have HLf:=hide (fun W=>yline_any n [40] W (by omega) (by simp only [List.length_cons,List.length_nil];omega))
 have hFz:(ba (X.line n [40])).size≤1073750000:=by rw [ba_size,X.line_len];simp only [List.length_cons,List.length_nil];omega
 have HLz:=hide (fun W=>yline_any n ([41]++e) W (by omega) (by rw [List.length_append];simp only [List.length_cons,List.length_nil];omega))
 rw [← ba_app,hE] at HLz
 have hZz:(ba (X.line n ([41]++e))).size≤1073750000:=by rw [ba_size,X.line_len,List.length_append];simp only [List.length_cons,List.length_nil];omega
 have HBk0:=hide (Bk.start (E:=X.ex f' (n+2)) hA)
 have HA:=hide hA
 have HZ8:=hide hz8
 clear hbr ih hcnt hdx hz8
 obtain ⟨g,rfl,-⟩:∃ g,ro=some ⟨g,0,none⟩∧True:=by
  obtain ⟨q0,hq0⟩:∃ q0,ml[0]?=some q0:=⟨_,List.getElem?_eq_getElem (by omega)⟩
  obtain ⟨v0,hv0,-⟩:=(HKid.out) 0 q0 hq0
  obtain ⟨g,e1,-⟩:=hv0 w2 (Below.refl _ _)
  exact ⟨g,e1,trivial⟩
 have j0:(((ml.length+1:Nat):Int)==2)=false:=by simp;omega
 have hmlb:ml.length≤67108864:=by
  have:=hpl.2.1
  rw [hPL,List.length_cons] at this
  omega
 have j1:IntKind.i64.wrap (((ml.length+1:Nat):Int) - 1)=(ml.length:Int):=by rw [IntKind.wrap_i64];omega
 rw [hll]
 go_wp2_with fail
 refine ((HLf.out) w2).mono ?_
 rintro r wc ⟨rfl,rfl⟩
 generalize hRF:ba (X.line n [40])=RF at *
 go_wp2_with fail
 go_loopw [28,29] (fun a v wr=>∃ (t:Nat) (pre:List UInt8) (O:ByteArray),Hid (Bk (X.ex f' (n+2)) [41] ml t pre)∧Hid (O=RF++ba pre)∧a=.string O∧v=.int .i64 ((1+2*t:Nat):Int)∧Hid (Below wc.heap.size wc wr)) (fun _ v _=>ml.length+2 - (intOf v).toNat)
 case atStart=>exact ⟨0,[],RF,HBk0,bs_inj (by rw [bs_app,bs_ba,List.append_nil]),rfl,rfl,Below.refl _ _⟩
 case round =>
  obtain ⟨t,pre,O,HB,HO,rfl,rfl,KL⟩:=hrel
  have hBle:=(HB.out).le
  have hBlen:=(HB.out).len
  have hOz:O.size≤2147500000:=by rw [HO.out,ByteArray.size_append,ba_size];omega
  have hwl:=(KL.out).size
  by_cases hlt:2*t<ml.length
  ·obtain ⟨q,hq,hs,hcase⟩:=(HB.out).step hlt
   have hqm:q∈ml:=List.mem_of_getElem? hq
   obtain ⟨v,hcell,k,hnd⟩:=(HKid.out) (2*t) q hq
   obtain ⟨g',eg,z⟩:=hcell wr KL.out
   injection eg with eg
   injection eg with eg
   subst eg
   rw [Nat.add_comm (2*t) 1] at z
   have K13:Hid (Below wb.heap.size wb wr):=(K2.out).trans ((KL.out).mono hw2)
   have hw13:=(K13.out).size
   have m1:decide (((1+2*t:Nat):Int)<(ml.length:Int))=true:=decide_eq_true (by omega)
   have m1b:((1+2*t:Nat):Int)<(ml.length:Int):=by omega
   have m2:(0:Int)≤((1+2*t:Nat):Int):=Int.natCast_nonneg _
   have m2b:((1+2*t:Nat):Int)<((ml.length+1:Nat):Int):=by omega
   have m6:IntKind.i64.wrap (((1+2*t:Nat):Int)+2)=((1+2*t:Nat):Int)+2:=by rw [IntKind.wrap_i64];omega
   rcases hcase with ⟨hc1,hbn⟩|⟨hc1,hbn⟩
   all_goals have HBn:=hide hbn
   all_goals clear hbn
   ·have m3:decide (((ml.length+1:Nat):Int)≤((1+2*t:Nat):Int)+2)=true:=decide_eq_true (by omega)
    have m4:((ml.length+1:Nat):Int)≤((1+2*t:Nat):Int)+2:=by omega
    have HE9:=hide ((HIH.out) q [] wr v k hqm hs (by decide) (hnd.below K13.out) (by omega))
    have hXz:(ba (X.ex f' (n+2) q [])).size≤2147483647:=by
     have:=(HBn.out).len
     rw [List.length_append] at this
     rw [ba_size];omega
    have HON:Hid (O++ba (X.ex f' (n+2) q [])=RF++ba (pre++X.ex f' (n+2) q [])):=by
     show _=_
     rw [HO.out,← ba_app]
     exact bs_inj (by simp only [bs_app,List.append_assoc])
    generalize ba (X.ex f' (n+2) q [])=RX at *
    have m5:¬ 9223372036854775807<O.size+RX.size:=by omega
    clear HO HB hcell hnd
    go_wp2_with fail
    refine (HE9.out).mono ?_
    rintro r w9 ⟨rfl,k9⟩
    have HK9:Hid (Below wc.heap.size wc w9):=(KL.out).trans (k9.mono hwl)
    clear k9 HE9
    go_wp2_with fail
    exact ⟨⟨t+1,_,_,HBn,HON,rfl,by go_num,HK9⟩,by simp only [intOf];omega⟩
   ·have m3:decide (((ml.length+1:Nat):Int)≤((1+2*t:Nat):Int)+2)=false:=decide_eq_false (by omega)
    have m4:¬((ml.length+1:Nat):Int)≤((1+2*t:Nat):Int)+2:=by omega
    have HE9:=hide ((HIH.out) q [44] wr v k hqm hs (by decide) (hnd.below K13.out) (by omega))
    have hXz:(ba (X.ex f' (n+2) q [44])).size≤2147483647:=by
     have:=(HBn.out).len
     rw [List.length_append] at this
     rw [ba_size];omega
    have HON:Hid (O++ba (X.ex f' (n+2) q [44])=RF++ba (pre++X.ex f' (n+2) q [44])):=by
     show _=_
     rw [HO.out,← ba_app]
     exact bs_inj (by simp only [bs_app,List.append_assoc])
    generalize ba (X.ex f' (n+2) q [44])=RX at *
    have m5:¬ 9223372036854775807<O.size+RX.size:=by omega
    clear HO HB hcell hnd
    go_wp2_with fail
    refine (HE9.out).mono ?_
    rintro r w9 ⟨rfl,k9⟩
    have HK9:Hid (Below wc.heap.size wc w9):=(KL.out).trans (k9.mono hwl)
    clear k9 HE9
    go_wp2_with fail
    exact ⟨⟨t+1,_,_,HBn,HON,rfl,by go_num,HK9⟩,by simp only [intOf];omega⟩
  ·obtain ⟨hd1,hd2⟩:=(HB.out).done hlt
   have m1:decide (((1+2*t:Nat):Int)<(ml.length:Int))=false:=decide_eq_false (by omega)
   have m1b:¬((1+2*t:Nat):Int)<(ml.length:Int):=by omega
   obtain ⟨v,hcell,k,hnd⟩:=(HKid.out) (ml.length - 1) (X.lf tz) HZ8.out
   obtain ⟨g',eg,z⟩:=hcell wr KL.out
   injection eg with eg
   injection eg with eg
   subst eg
   rw [show ml.length - 1+1=ml.length by omega] at z
   have K13:Hid (Below wb.heap.size wb wr):=(K2.out).trans ((KL.out).mono hw2)
   obtain ⟨N1,ao1,cap1,at1,en1,fr1,tt1,la1,vs1,rfl,hM1,hM2,hnd1,-⟩:=hnd.any
   obtain ⟨⟨-,-,x2,-⟩,-⟩:=hnd1.facts
   replace x2:wb.cell? ⟨N1,2,none⟩=some (.string (ba tz.2)):=x2
   rw [hzc] at x2
   have y2:=kcb K13.out (by omega) x2
   have m2:(0:Int)≤(ml.length:Int):=Int.natCast_nonneg _
   have m2b:(ml.length:Int)<((ml.length+1:Nat):Int):=by omega
   have hCz:(ba [41]).size=1:=rfl
   have HRES:Hid (O++ba (X.line n ([41]++e))=ba (X.bracket (X.ex f' (n+2)) n R [40] (X.lf ta::ml) e)):=by
    show _=_
    rw [HBR.out,HO.out,hd2,← hRF,ba_app,ba_app,List.append_assoc]
   have HLz9:=hide ((HLz.out) wr)
   generalize ba (X.line n ([41]++e))=RZ at *
   generalize ba [41]=CB at *
   have m5:¬ 9223372036854775807<CB.size+E.size:=by omega
   have m7:¬ 9223372036854775807<O.size+RZ.size:=by omega
   clear HO HB hcell hnd hnd1 x2 HBR HIH HKid HLz
   go_wp2_with fail
   refine (HLz9.out).mono ?_
   rintro r w9 ⟨rfl,rfl⟩
   have HEND:Hid (Below w.heap.size w w9):=(K1.out).trans ((K13.out).mono hw1)
   go_wp2_with fail
   go_ret
   exact ⟨by rw [HRES.out];rfl,HEND.out⟩
end Go.Proofs.YtgpcpbmacdhlkaaGreatDoor
