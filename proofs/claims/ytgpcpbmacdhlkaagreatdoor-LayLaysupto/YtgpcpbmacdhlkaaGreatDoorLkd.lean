/- The document's leaves of a node that is no leaf. -/
import Derived.Test.YtgpcpbmacdhlkaaGreatDoorZr
import Derived.Test.YtgpcpbmacdhlkaaGreatDoorZw
import Derived.Test.YtgpcpbmacdhlkaaGreatDoorTa
namespace Go.Proofs.YtgpcpbmacdhlkaaGreatDoor
open Go.RowKit
open M
set_option maxRecDepth 100000 in
set_option maxHeartbeats 4000000 in
theorem leaves_node (r:Bool) (p:X.Part) (hk:pk p≠0) (hlds:∀ g,X.lds r g p=X.ldss r (pk p==14) (X.kds p)) (hl:(X.kds p).length≤268435456) (ih:∀ (j:Nat) (q:X.Part),(X.kds p)[j]?=some q→LQ r q):LQ r p:=by
 intro w a b v i g base rv L h hib hL hb hn
 obtain ⟨N,ao,cap,at0,en,fr,tt,la,vs,rfl,hN1,hN2,hnd,hc,hcm,hrow,hkid⟩:=h.any
 obtain ⟨⟨c0,c1,c2,c3,-⟩,-⟩:=hnd.facts
 rw [hlds g] at hn
 have HLD:=hide (hlds g)
 have hk0:((pk p:Int)==0)=false:=by simp;omega
 have hkg:((pk p:Int)==14)=(pk p==14):=by
  by_cases h2:pk p=14
  ·rw [h2];rfl
  ·have h3:¬((pk p:Int)=14):=by omega
   rw [beq_false_of_ne h2,beq_false_of_ne h3]
 have HKG:=hide hkg
 clear hkg hlds
 generalize pk p=kk at *
 generalize X.kds p=ps at *
 have HC:Hid (∀ j,j<ps.length→∃ q g',ps[j]?=some q∧ao=some ⟨g',0,none⟩∧g'<base∧w.cell? ⟨g',j,none⟩=some (vs j)∧∀ (W:World) (rvj:Value) (M:List LfD) (gg:Bool),Below base w W→IsLd W base rvj M→M.length+(X.lds r gg q).length≤268435456→Calls Tryz.prog 21 #[vs j,.bool r,.bool gg,rvj] W fun e w'=>∃ rv',e=.returned rv'∧Hid (IsLd w' base rv' (M++X.lds r gg q)∧Below base W w')):=fun j hj=>by
  have hq:ps[j]?=some ps[j]:=List.getElem?_eq_getElem hj
  obtain ⟨g',e1,e2,e3,e4⟩:=hrow j hj
  refine ⟨ps[j],g',hq,e1,by omega,e4,fun W rvj M gg hB hI hle=>?_⟩
  exact ih j _ hq W a b (vs j) _ gg base rvj M ((hkid j _ hq).keep (Kp.ofBelowB hB (S:=fun q=>base≤q) (fun _ h _=>h)) (fun q h1 h2 (h3:base≤q)=>by omega)) hib hI (Nat.le_trans hb hB.size) hle
 have HI0:Hid (InL w base (L++X.ldss r (kk==14) (ps.take 0)) rv w):=⟨by rw [List.take_zero,X.ldss,List.append_nil];exact hL,Below.refl _ _⟩
 have hNb:N<base:=by omega
 have C0:=hide c0
 have C3:=hide c3
 clear h hL hnd hrow hkid ih c1 c2
 go_enter Tryz.func21,Tryz.ntmps21
 go_wp2_with fail
 clear c0 c3
 go_loopw [3,10] (fun a v wr=>∃ (j:Nat) (rvj:Value),a=rvj∧v=.int .i64 j∧j≤ps.length∧Hid (InL w base (L++X.ldss r (kk==14) (ps.take j)) rvj wr)) (fun _ v _=>ps.length - (intOf v).toNat)
 case atStart=>exact ⟨0,_,rfl,rfl,Nat.zero_le _,HI0⟩
 case round =>
  clear HI0
  obtain ⟨j,rvj,rfl,rfl,hj,HI⟩:=hrel
  have d0:=undr hNb (HI.out).bel C0.out
  have d3:=undr hNb (HI.out).bel C3.out
  by_cases hlt:j<ps.length
  case neg =>
   obtain rfl:j=ps.length:=by omega
   have i1:decide (ps.length<ps.length)=false:=by simp
   have i2:decide ((ps.length:Int)<(ps.length:Int))=false:=by simp
   have HF:Hid (IsLd wr base u3 (L++X.lds r g p)∧Below base w wr):=by
    have h:=(HI.out).row
    rw [List.take_length] at h
    rw [HLD.out]
    exact ⟨h,(HI.out).bel⟩
   go_wp2_with fail
   go_ret
   exact ⟨_,rfl,HF⟩
  have i1:decide (j<ps.length)=true:=by simp;omega
  have i2:decide ((j:Int)<(ps.length:Int))=true:=by simp;omega
  have hi1:(0:Int)≤(j:Int):=Int.natCast_nonneg _
  have hi2:(j:Int)<(ps.length:Int):=by omega
  obtain ⟨q,g',hq,rfl,hgb,hcell,hcall⟩:=(HC.out) j hlt
  have p0:=undr hgb (HI.out).bel hcell
  have hmem:=X.ldss_mem r (kk==14) hq
  have hst:=X.ldss_take r (kk==14) hq
  have HCall:=hide (fun W (hB:Below base wr W) (hI:IsLd W base u3 (L++X.ldss r (kk==14) (ps.take j)))=>hcall W u3 _ ((kk:Int)==14) ((HI.out).bel.trans hB) hI (by rw [HKG.out,List.length_append];omega))
  clear hcall hcell hmem
  go_wp2_with fail
  refine wp_region_noPanic ?_
  refine wpTo_start (S:=fun w'=>w'.cell? ⟨N,0,none⟩=some (.int .i64 kk)∧w'.cell? ⟨N,3,none⟩=some (.slice (some ⟨g',0,none⟩) ps.length cap)∧w'.cell? ⟨g',j,none⟩=some (vs j)) (z:=16) (by kernel_rfl) ?_
  have hS:wr.drew.cell? ⟨N,0,none⟩=some (.int .i64 kk)∧wr.drew.cell? ⟨N,3,none⟩=some (.slice (some ⟨g',0,none⟩) ps.length cap)∧wr.drew.cell? ⟨g',j,none⟩=some (vs j):=⟨d0,d3,p0⟩
  iterate 14 (refine wpTo_nx (v:=?_) rfl rfl (by kernel_rfl) (by decide) (by kernel_rfl) (by kernel_rfl) (fun _ _ _ h=>h) (Or.inl ⟨by rfl,?_⟩) hS ?_;rotate_left;(· (intro wx hSw;(try dsimp only at hSw);go_simp;try (with_reducible rfl)));simp only [Act.put,List.setIfInBounds_toArray,List.set_cons_zero,List.set_cons_succ])
  refine wpTo_one (i:=14) (by kernel_rfl) rfl (fun K hK=>?_)
  go_simp
  refine ((HCall.out) _ ((Below.refl _ wr).drew) ((HI.out).row.drew)).mono ?_
  rintro e w2 ⟨rv2,rfl,H2⟩
  have y0:=undr hNb (H2.out).2 hS.1
  have y1:=undr hNb (H2.out).2 hS.2.1
  have y2:=undr hgb (H2.out).2 hS.2.2
  go_simp
  refine hK.out _ _ (fun _=>⟨y0,y1,y2⟩) (fun hS2=>?_)
  clear hS hK K
  have hS:=hS2 (by decide)
  clear hS2
  refine wpTo_one (i:=15) (by kernel_rfl) rfl (fun K hK=>?_)
  go_simp
  refine hK.out _ _ (fun _=>hS) (fun _=>wpTo_end (by kernel_rfl) ?_)
  clear hK K hS
  refine NoPanic.normal ?_
  have HN:Hid (InL w base (L++X.ldss r (kk==14) (ps.take (j+1))) rv2 w2):=by
   refine ⟨?_,(HI.out).bel.trans (((Below.refl _ wr).drew).trans (H2.out).2)⟩
   have h:=(H2.out).1
   rw [HKG.out] at h
   rw [hst,← List.append_assoc];exact h
  clear HCall H2 HI y0 y1 y2
  go_wp2_with fail
  exact ⟨⟨j+1,_,rfl,by go_num,by omega,HN⟩,by simp only [intOf];omega⟩
end Go.Proofs.YtgpcpbmacdhlkaaGreatDoor
/- The document's flat texts. -/
namespace Go.Proofs.YtgpcpbmacdhlkaaGreatDoor
open Go.RowKit
open M
theorem yleaves_any (r:Bool):∀ (n:Nat) (p:X.Part),X.psz p≤n→X.psz p≤268435456→X.kok p→LQ r p:=by
 intro n
 induction n with
 | zero=>intro p h;have:=X.psz_pos p;omega
 | succ n ih =>
  intro p hn hz hk
  cases p with
  | leaf k x=>exact leaves_leaf r k x
  | miss m=>exact leaves_node r (.miss m) (by simp [pk]) (fun g=>by rw [X.lds];rfl) (by simp [X.kds]) (fun j q hq=>by simp [X.kds] at hq)
  | br k ps =>
   rw [X.psz] at hn hz
   rw [X.kok] at hk
   have hl:=X.pssz_len ps
   refine leaves_node r (.br k ps) hk.1 (fun g=>by rw [X.lds];rfl) (by show ps.length≤_;omega) (fun j q hq=>?_)
   have hm:=X.pssz_mem ps j q hq
   exact ih q (by omega) (by omega) (X.koks_mem ps j q hk.2 hq)
theorem ldv_get:∀ (L:List LfD) (i:Nat) (l:LfD) (c:Nat),L[i]?=some l→c<9→(L.flatMap ldv)[i*9+c]?=(ldv l)[c]?
 | [],i,l,c,h,_=>by simp at h
 | m::L,0,l,c,h,hc=>by
  have:m=l:=by simpa using h
  subst this
  rw [List.flatMap_cons,Nat.zero_mul,Nat.zero_add,List.getElem?_append_left (by simpa [ldv] using hc)]
 | m::L,i+1,l,c,h,hc=>by
  have h1:L[i]?=some l:=by simpa using h
  rw [List.flatMap_cons,List.getElem?_append_right (by simp [ldv];omega)]
  have e:(i+1)*9+c - (ldv m).length=i*9+c:=by simp [ldv];omega
  rw [e];exact ldv_get L i l c h1 hc
theorem IsLd.get {w:World} {base:Nat} {rv:Value} {L:List LfD} (h:IsLd w base rv L):∃ ao cap,rv=.slice ao L.length cap∧L.length≤cap∧cap≤maxLen∧∀ (i:Nat) (l:LfD),L[i]?=some l→∃ g,ao=some ⟨g,0,none⟩∧w.cell? ⟨g,i*9+1,none⟩=some (.int .i64 (lgt l.2))∧w.cell? ⟨g,i*9+2,none⟩=some (.string (ba l.1)):=by
 have hc:=fun g hg=>World.ownsRow.cells (g:=g) h hg
 rcases h.2 with ⟨rfl,h0⟩|⟨g,cap,cur,rfl,hb,hg,hn,hm,hs,ht⟩
 ·exact ⟨none,0,by rw [h0],by omega,by unfold maxLen;omega,fun i l hl=>by rw [List.length_eq_zero_iff.1 h0] at hl;simp at hl⟩
 ·refine ⟨_,cap,rfl,hn,hm,fun i l hl=>⟨g,rfl,?_,?_⟩⟩
  ·have ad:∀ n,(⟨g,0,none⟩:Addr).add n=⟨g,0+n,none⟩:=by intro n;unfold Addr.add;split<;>simp_all
   have:=hc g rfl (i*9+1) _ ((ldv_get L i l 1 hl (by omega)).trans rfl)
   rw [ad,Nat.zero_add] at this;exact this
  ·have ad:∀ n,(⟨g,0,none⟩:Addr).add n=⟨g,0+n,none⟩:=by intro n;unfold Addr.add;split<;>simp_all
   have:=hc g rfl (i*9+2) _ ((ldv_get L i l 2 hl (by omega)).trans rfl)
   rw [ad,Nat.zero_add] at this;exact this
namespace X
def sumL:List LfD→Nat
 | []=>0
 | l::L=>(l.1.length+1)+sumL L
theorem flD_len:∀ L:List LfD,(flD L).length≤sumL L
 | []=>Nat.le_refl _
 | [a]=>by rw [flD,sumL,sumL];omega
 | b::a::l=>by
  have:=flD_len (a::l)
  rw [flD,sumL,List.length_append,List.length_append]
  have:(if tgt b a then ([]:List UInt8) else [32]).length≤1:=by split<;>simp
  omega
theorem sumL_take:∀ (L:List LfD) (k:Nat),sumL (L.take k)≤sumL L
 | [],k=>by simp [sumL]
 | l::L,0=>by simp [sumL]
 | l::L,k+1=>by
  have:=sumL_take L k
  rw [List.take_succ_cons,sumL,sumL];omega
theorem sumL_mem:∀ (L:List LfD) (k:Nat) (l:LfD),L[k]?=some l→l.1.length≤sumL L
 | [],k,l,h=>by simp at h
 | m::L,0,l,h=>by
  have:m=l:=by simpa using h
  subst this;rw [sumL];omega
 | m::L,k+1,l,h=>by
  have:=sumL_mem L k l (by simpa using h)
  rw [sumL];omega
end X
end Go.Proofs.YtgpcpbmacdhlkaaGreatDoor
/- The document's flat texts: the walk. -/
namespace Go.Proofs.YtgpcpbmacdhlkaaGreatDoor
open Go.RowKit
open M
structure Rwd (w:World) (a b:Nat) (lv:Value) (ps:List X.Part) (vs:List Value):Prop where
 row:IsV w lv vs
 len:vs.length=ps.length
 nd:∀ (j:Nat) (p:X.Part),ps[j]?=some p→∃ v i,vs[j]?=some v∧NdP w a b v p i
structure InF (w:World) (L:List LfD) (rvj:Value) (wr:World):Prop where
 row:IsLd wr w.heap.size rvj L
 bel:Below w.heap.size w wr
set_option maxRecDepth 100000 in
set_option maxHeartbeats 4000000 in
theorem yflat_any (ps:List X.Part) (vs:List Value) (a b:Nat) (lv:Value) (w:World) (h:Rwd w a b lv ps vs) (hb:b≤w.heap.size) (hpl:ps.length≤1073741823) (hk:∀ p∈ps,X.kok p∧X.psz p≤268435456) (hn:(X.ldss false false ps).length≤268435456) (hs:X.sumL (X.ldss false false ps)≤4294967296) :
  Calls Tryz.prog 25 #[lv] w fun e w'=>e=.returned (.string (ba (X.flat ps)))∧Below w.heap.size w w':=by
 have HR:=hide h
 obtain ⟨ao,cap,rfl,hc,hcm,-⟩:=h.row
 have hlen:=h.len
 rw [hlen] at hc ⊢
 have HC:Hid (∀ j,j<ps.length→∃ p g v,ps[j]?=some p∧ao=some ⟨g,0,none⟩∧(∀ W,Below w.heap.size w W→W.cell? ⟨g,j,none⟩=some v)∧∀ (W:World) (rvj:Value) (M:List LfD),Below w.heap.size w W→IsLd W w.heap.size rvj M→M.length+(X.lds false false p).length≤268435456→Calls Tryz.prog 21 #[v,.bool false,.bool false,rvj] W fun e w'=>∃ rv',e=.returned rv'∧Hid (IsLd w' w.heap.size rv' (M++X.lds false false p)∧Below w.heap.size W w')):=fun j hj=>by
  have hq:ps[j]?=some ps[j]:=List.getElem?_eq_getElem hj
  obtain ⟨v,i,hv,hnd⟩:=(HR.out).nd j _ hq
  have hjv:j<vs.length:=by rw [(HR.out).len];exact hj
  obtain ⟨g,e1,-⟩:=(HR.out).row.get (Below.refl _ w) rfl hjv
  have hvj:vs[j]=v:=Option.some.inj ((List.getElem?_eq_getElem hjv).symm.trans hv)
  refine ⟨ps[j],g,v,hq,e1,fun W hB=>?_,fun W rvj M hB hI hle=>?_⟩
  ·obtain ⟨g2,f1,f2⟩:=(HR.out).row.get hB rfl hjv
   rw [e1] at f1
   injection f1 with f1
   injection f1 with f1
   subst f1
   rw [hvj] at f2;exact f2
  ·have hkp:=hk ps[j] (List.getElem_mem hj)
   exact yleaves_any false _ _ (Nat.le_refl _) hkp.2 hkp.1 W a b v i false w.heap.size rvj M (hnd.keep (Kp.ofBelow hB (fun _=>False)) (fun _ _ _=>id)) hb hI hB.size hle
 have HI0:Hid (InF w (X.ldss false false (ps.take 0)) (.slice none 0 0) w):=⟨World.ownsRow_nil _ _ _ _,Below.refl _ _⟩
 have HS:=hide hs
 have HN:=hide hn
 clear h hlen hk hs hn
 go_enter Tryz.func25,Tryz.ntmps25
 go_wp2_with fail
 go_loopw [3,4] (fun a v wr=>∃ (j:Nat) (rvj:Value),a=rvj∧v=.int .i64 j∧j≤ps.length∧Hid (InF w (X.ldss false false (ps.take j)) rvj wr)) (fun _ v _=>ps.length - (intOf v).toNat)
 case atStart=>exact ⟨0,_,rfl,rfl,Nat.zero_le _,HI0⟩
 case round =>
  clear HI0
  obtain ⟨j,rvj,rfl,rfl,hj,HI⟩:=hrel
  by_cases hlt:j<ps.length
  ·have i1:decide (j<ps.length)=true:=by simp;omega
   have i2:decide ((j:Int)<(ps.length:Int))=true:=by simp;omega
   have hi1:(0:Int)≤(j:Int):=Int.natCast_nonneg _
   have hi2:(j:Int)<(ps.length:Int):=by omega
   obtain ⟨p,g,v,hq,rfl,hcell,hcall⟩:=(HC.out) j hlt
   have p0:=hcell wr (HI.out).bel
   have hmem:=X.ldss_mem false false hq
   have hst:=X.ldss_take false false hq
   have HCall:=hide (hcall wr u3 _ (HI.out).bel (HI.out).row (by have:=HN.out;omega))
   clear hcall hcell hmem
   go_wp2_with fail
   refine (HCall.out).mono ?_
   rintro e w2 ⟨rv2,rfl,H2⟩
   have HNx:Hid (InF w (X.ldss false false (ps.take (j+1))) rv2 w2):=by
    refine ⟨?_,(HI.out).bel.trans (H2.out).2⟩
    rw [hst];exact (H2.out).1
   clear HCall H2 HI
   go_wp2_with fail
   exact ⟨⟨j+1,_,rfl,by go_num,by omega,HNx⟩,by simp only [intOf];omega⟩
  ·obtain rfl:j=ps.length:=by omega
   have i1:decide (ps.length<ps.length)=false:=by simp
   have i2:decide ((ps.length:Int)<(ps.length:Int))=false:=by simp
   have HRow:Hid (IsLd wr w.heap.size u3 (X.ldss false false ps)):=by
    have h:=(HI.out).row
    rw [List.take_length] at h
    exact h
   have HB:=hide (HI.out).bel
   have HFL:=hide (X.flat_ldss ps)
   clear HI HC
   generalize X.ldss false false ps=L at *
   obtain ⟨tao,tc,rfl,htc,htm,hget⟩:=(HRow.out).get
   have HG:=hide hget
   clear hget HRow
   have hLn:=HN.out
   go_wp2_with fail
   go_loopw [5,6] (fun a v wx=>∃ (m:Nat) (A:ByteArray),m≤L.length∧A=ba (X.flD (L.take m))∧a=.string A∧v=.int .i64 m∧wx=wr) (fun _ v _=>L.length - (intOf v).toNat)
   case atStart=>exact ⟨0,⟨#[]⟩,Nat.zero_le _,by rw [List.take_zero];rfl,rfl,rfl,rfl⟩
   case round =>
    obtain ⟨m,A,hm,hA,rfl,rfl,rfl⟩:=hrel
    have hAz:A.size≤4294967296:=by
     rw [hA,ba_size]
     have h1:=X.flD_len (L.take m)
     have h2:=X.sumL_take L m
     have h3:=HS.out
     omega
    by_cases hml:m<L.length
    ·obtain ⟨la,ha⟩:∃ la,L[m]?=some la:=⟨_,List.getElem?_eq_getElem hml⟩
     obtain ⟨g,rfl,q1,q2⟩:=(HG.out) m la ha
     have i3:decide ((m:Int)<(L.length:Int))=true:=by simp;omega
     have hi2:(m:Int)<(L.length:Int):=by omega
     have hi1:(0:Int)≤(m:Int):=Int.natCast_nonneg _
     have hTz:(ba la.1).size≤4294967296:=by
      rw [ba_size]
      have h1:=X.sumL_mem L m la ha
      have h2:=HS.out
      omega
     cases m with
     | zero =>
      have HNx:Hid (A++ba la.1=ba (X.flD (L.take 1))):=by
       show _=_
       rw [hA,List.take_zero,ba_app,X.flD_one ha];rfl
      generalize ba la.1=T at *
      have hz1:¬ 9223372036854775807<A.size+T.size:=by omega
      clear hA ha
      go_wp2_with fail
      exact ⟨⟨1,_,by omega,HNx.out,rfl,by go_num,trivial⟩,by simp only [intOf];omega⟩
     | succ m' =>
      obtain ⟨lb,hlb⟩:∃ lb,L[m']?=some lb:=⟨_,List.getElem?_eq_getElem (by omega)⟩
      obtain ⟨g2,eg,r1,r2⟩:=(HG.out) m' lb hlb
      injection eg with eg
      injection eg with eg
      subst eg
      have hnext:∀ t,X.tgt lb la=t→(if t then A++ba la.1 else A++⟨#[32]⟩++ba la.1)=ba (X.flD (L.take (m'+2))):=fun t ht=>by
       rw [X.flD_take hlb ha,ht,hA]
       cases t with
       | true=>rw [if_pos rfl,if_pos rfl,List.nil_append,ba_app]
       | false=>rw [if_neg (by simp),if_neg (by simp),show (⟨#[32]⟩:ByteArray)=ba [32] from rfl,ba_app,ba_app,List.append_assoc]
      have i5:IntKind.i64.wrap (((m'+1:Nat):Int) - 1)=(m':Int):=by rw [IntKind.wrap_i64];omega
      have i6:decide ((0:Int)<((m'+1:Nat):Int))=true:=decide_eq_true (by omega)
      have i7:(m':Int)<(L.length:Int):=by omega
      have i8:(0:Int)≤(m':Int):=Int.natCast_nonneg _
      have hz0:¬ 9223372036854775807<A.size+1:=by omega
      generalize hT:ba la.1=T at *
      generalize hB:ba lb.1=B at *
      have hz1:¬ 9223372036854775807<A.size+T.size:=by omega
      have hz2:¬ 9223372036854775807<(A++⟨#[32]⟩).size+T.size:=by rw [ByteArray.size_append];show ¬ _<A.size+1+T.size;omega
      have hz3:¬ 9223372036854775807<A.size+1+T.size:=by omega
      clear hA ha hlb
      cases f0:(lb.1==[40]) with
      | true =>
       have c0:(B.toList==[40])=true:=by rw [← hB,ba_toList];exact f0
       have hg:X.tgt lb la=true:=by unfold X.tgt;simp [f0]
       have HNx:=hide (hnext true hg)
       clear hnext hg f0
       simp only [if_true] at HNx
       go_wp2_with fail
       exact ⟨⟨m'+2,_,by omega,HNx.out,rfl,by go_num,trivial⟩,by simp only [intOf];omega⟩
      | false =>
       have c0:(B.toList==[40])=false:=by rw [← hB,ba_toList];exact f0
       cases f1:(lb.1==[91]) with
       | true =>
        have c1:(B.toList==[91])=true:=by rw [← hB,ba_toList];exact f1
        have hg:X.tgt lb la=true:=by unfold X.tgt;simp [f0,f1]
        have HNx:=hide (hnext true hg)
        clear hnext hg f0 f1
        simp only [if_true] at HNx
        go_wp2_with fail
        exact ⟨⟨m'+2,_,by omega,HNx.out,rfl,by go_num,trivial⟩,by simp only [intOf];omega⟩
       | false =>
        have c1:(B.toList==[91])=false:=by rw [← hB,ba_toList];exact f1
        cases f2:(lb.1==[46]) with
        | true =>
         have c2:(B.toList==[46])=true:=by rw [← hB,ba_toList];exact f2
         have hg:X.tgt lb la=true:=by unfold X.tgt;simp [f0,f1,f2]
         have HNx:=hide (hnext true hg)
         clear hnext hg f0 f1 f2
         simp only [if_true] at HNx
         go_wp2_with fail
         exact ⟨⟨m'+2,_,by omega,HNx.out,rfl,by go_num,trivial⟩,by simp only [intOf];omega⟩
        | false =>
         have c2:(B.toList==[46])=false:=by rw [← hB,ba_toList];exact f2
         cases f3:(la.1==[46]) with
         | true =>
          have c3:(T.toList==[46])=true:=by rw [← hT,ba_toList];exact f3
          have hg:X.tgt lb la=true:=by unfold X.tgt;simp [f0,f1,f2,f3]
          have HNx:=hide (hnext true hg)
          clear hnext hg f0 f1 f2 f3
          simp only [if_true] at HNx
          go_wp2_with fail
          exact ⟨⟨m'+2,_,by omega,HNx.out,rfl,by go_num,trivial⟩,by simp only [intOf];omega⟩
         | false =>
          have c3:(T.toList==[46])=false:=by rw [← hT,ba_toList];exact f3
          cases f4:(la.1==[41]) with
          | true =>
           have c4:(T.toList==[41])=true:=by rw [← hT,ba_toList];exact f4
           have hg:X.tgt lb la=true:=by unfold X.tgt;simp [f0,f1,f2,f3,f4]
           have HNx:=hide (hnext true hg)
           clear hnext hg f0 f1 f2 f3 f4
           simp only [if_true] at HNx
           go_wp2_with fail
           exact ⟨⟨m'+2,_,by omega,HNx.out,rfl,by go_num,trivial⟩,by simp only [intOf];omega⟩
          | false =>
           have c4:(T.toList==[41])=false:=by rw [← hT,ba_toList];exact f4
           cases f5:(la.1==[93]) with
           | true =>
            have c5:(T.toList==[93])=true:=by rw [← hT,ba_toList];exact f5
            have hg:X.tgt lb la=true:=by unfold X.tgt;simp [f0,f1,f2,f3,f4,f5]
            have HNx:=hide (hnext true hg)
            clear hnext hg f0 f1 f2 f3 f4 f5
            simp only [if_true] at HNx
            go_wp2_with fail
            exact ⟨⟨m'+2,_,by omega,HNx.out,rfl,by go_num,trivial⟩,by simp only [intOf];omega⟩
           | false =>
            have c5:(T.toList==[93])=false:=by rw [← hT,ba_toList];exact f5
            cases f6:(la.1==[44]) with
            | true =>
             have c6:(T.toList==[44])=true:=by rw [← hT,ba_toList];exact f6
             have hg:X.tgt lb la=true:=by unfold X.tgt;simp [f0,f1,f2,f3,f4,f5,f6]
             have HNx:=hide (hnext true hg)
             clear hnext hg f0 f1 f2 f3 f4 f5 f6
             simp only [if_true] at HNx
             go_wp2_with fail
             exact ⟨⟨m'+2,_,by omega,HNx.out,rfl,by go_num,trivial⟩,by simp only [intOf];omega⟩
            | false =>
             have c6:(T.toList==[44])=false:=by rw [← hT,ba_toList];exact f6
             cases f7:(la.1==[59]) with
             | true =>
              have c7:(T.toList==[59])=true:=by rw [← hT,ba_toList];exact f7
              have hg:X.tgt lb la=true:=by unfold X.tgt;simp [f0,f1,f2,f3,f4,f5,f6,f7]
              have HNx:=hide (hnext true hg)
              clear hnext hg f0 f1 f2 f3 f4 f5 f6 f7
              simp only [if_true] at HNx
              go_wp2_with fail
              exact ⟨⟨m'+2,_,by omega,HNx.out,rfl,by go_num,trivial⟩,by simp only [intOf];omega⟩
             | false =>
              have c7:(T.toList==[59])=false:=by rw [← hT,ba_toList];exact f7
              cases f8:(la.1==[40]) with
              | false =>
               have c8:(T.toList==[40])=false:=by rw [← hT,ba_toList];exact f8
               have hg:X.tgt lb la=false:=by unfold X.tgt;simp [f0,f1,f2,f3,f4,f5,f6,f7,f8]
               have HNx:=hide (hnext false hg)
               clear hnext hg f0 f1 f2 f3 f4 f5 f6 f7 f8
               simp only [Bool.false_eq_true,if_false] at HNx
               go_wp2_with fail
               exact ⟨⟨m'+2,_,by omega,HNx.out,rfl,by go_num,trivial⟩,by simp only [intOf];omega⟩
              | true =>
               have c8:(T.toList==[40])=true:=by rw [← hT,ba_toList];exact f8
               cases f9:la.2 with
               | true =>
                rw [f9] at q1
                have q1':lgt true=99:=rfl
                rw [q1'] at q1
                have hg:X.tgt lb la=false:=by unfold X.tgt;simp [f0,f1,f2,f3,f4,f5,f6,f7,f8,f9]
                have HNx:=hide (hnext false hg)
                clear hnext hg f0 f1 f2 f3 f4 f5 f6 f7 f8 f9
                simp only [Bool.false_eq_true,if_false] at HNx
                go_wp2_with fail
                exact ⟨⟨m'+2,_,by omega,HNx.out,rfl,by go_num,trivial⟩,by simp only [intOf];omega⟩
               | false =>
                rw [f9] at q1
                have q1':lgt false=0:=rfl
                rw [q1'] at q1
                have hg:X.tgt lb la=true:=by unfold X.tgt;simp [f0,f1,f2,f3,f4,f5,f6,f7,f8,f9]
                have HNx:=hide (hnext true hg)
                clear hnext hg f0 f1 f2 f3 f4 f5 f6 f7 f8 f9
                simp only [if_true] at HNx
                go_wp2_with fail
                exact ⟨⟨m'+2,_,by omega,HNx.out,rfl,by go_num,trivial⟩,by simp only [intOf];omega⟩
    ·obtain rfl:m=L.length:=by omega
     have i3:decide ((L.length:Int)<(L.length:Int))=false:=by simp
     have HE:Hid (A=ba (X.flat ps)):=by
      show _=_
      rw [hA,List.take_length,HFL.out]
     clear hA
     go_wp2_with fail
     go_ret
     exact ⟨by rw [HE.out];rfl,HB.out⟩
end Go.Proofs.YtgpcpbmacdhlkaaGreatDoor
