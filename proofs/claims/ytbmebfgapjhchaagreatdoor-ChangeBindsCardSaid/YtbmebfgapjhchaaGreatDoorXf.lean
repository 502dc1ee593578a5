/- Parts of a tree in memory. -/
import Derived.Test.YtbmebfgapjhchaaGreatDoorXc
import Derived.Test.YtbmebfgapjhchaaGreatDoorKa
import Derived.Laws.AppendOwn
import Derived.Laws.OwnMore
import Derived.Deep.AppendLies
namespace Go.Proofs.YtbmebfgapjhchaaGreatDoor
open Go.RowKit
open M
inductive IsP (w:World) (D:Nat→Prop):Value→X.Part→Prop
 | leaf (k:Nat) (x:List UInt8):IsP w D (.iface 224 (.agg #[.int .i64 k,.int .i64 x.length])) (.leaf k x)
 | miss (m:List UInt8):IsP w D (.iface 290 (.string (ba m))) (.miss m)
 | br (k N cap:Nat) (ao:Option Addr) (vs:Nat→Value) (ps:List X.Part) (hN:D N)
   (hb:w.heap[N]?=some (.cells #[.int .i64 k,.slice ao ps.length cap] 133 (0,0))) (hc:ps.length≤cap∧cap≤maxLen)
   (hr:∀ i,i<ps.length→∃ g,ao=some ⟨g,0,none⟩∧D g∧w.cell? ⟨g,i,none⟩=some (vs i))
   (hp:∀ (i:Nat) (p:X.Part),ps[i]?=some p→IsP w D (vs i) p):IsP w D (.iface 130 (.pointer (some ⟨N,0,none⟩))) (.br k ps)
 | kid (N n:Nat) (p:X.Part) (hn:n=(X.pl p).length) (h:IsP w D (.iface 130 (.pointer (some ⟨N,0,none⟩))) p):IsP w D (.iface 138 (.agg #[.pointer (some ⟨N,0,none⟩),.int .i64 n])) p
theorem IsP.mono {w:World} {D D':Nat→Prop} (hD:∀ q,D q→D' q) {v:Value} {p:X.Part} (h:IsP w D v p):IsP w D' v p:=by
 induction h with
 | leaf k x=>exact .leaf k x
 | miss m=>exact .miss m
 | br k N cap ao vs ps hN hb hc hr hp ih =>
  exact .br k N cap ao vs ps (hD _ hN) hb hc (fun i hi=>by obtain ⟨g,h1,h2,h3⟩:=hr i hi;exact ⟨g,h1,hD _ h2,h3⟩) ih
 | kid N n p hn h ih=>exact .kid N n p hn ih
theorem IsP.keep {S:Nat→Prop} {w w':World} {D:Nat→Prop} (hk:Kp S w w') (hD:∀ q,D q→¬ S q) {v:Value} {p:X.Part} (h:IsP w D v p):IsP w' D v p:=by
 induction h with
 | leaf k x=>exact .leaf k x
 | miss m=>exact .miss m
 | br k N cap ao vs ps hN hb hc hr hp ih =>
  exact .br k N cap ao vs ps hN (hk.heap hb (hD _ hN)) hc (fun i hi=>by obtain ⟨g,h1,h2,h3⟩:=hr i hi;exact ⟨g,h1,h2,hk.cellv h3 (hD _ h2)⟩) ih
 | kid N n p hn h ih=>exact .kid N n p hn ih
def Each (w:World) (D:Nat→Prop) (vs:List Value) (ps:List X.Part):Prop:=∀ (i:Nat) (p:X.Part),ps[i]?=some p→∃ v,vs[i]?=some v∧IsP w D v p
theorem Each.mono {w:World} {D D':Nat→Prop} (hD:∀ q,D q→D' q) {vs:List Value} {ps:List X.Part} (h:Each w D vs ps):Each w D' vs ps :=
 fun i p hp=>by obtain ⟨v,h1,h2⟩:=h i p hp;exact ⟨v,h1,h2.mono hD⟩
theorem Each.keep {S:Nat→Prop} {w w':World} {D:Nat→Prop} (hk:Kp S w w') (hD:∀ q,D q→¬ S q) {vs:List Value} {ps:List X.Part} (h:Each w D vs ps):Each w' D vs ps :=
 fun i p hp=>by obtain ⟨v,h1,h2⟩:=h i p hp;exact ⟨v,h1,h2.keep hk hD⟩
theorem Each.nil (w:World) (D:Nat→Prop):Each w D [] []:=fun i p hp=>by simp at hp
theorem Each.snoc {w:World} {D:Nat→Prop} {vs:List Value} {ps:List X.Part} (h:Each w D vs ps) (hl:vs.length=ps.length) {v:Value} {p:X.Part} (hp:IsP w D v p):Each w D (vs++[v]) (ps++[p]):=by
 intro i q hq
 by_cases hi:i<ps.length
 ·rw [List.getElem?_append_left hi] at hq
  obtain ⟨u,h1,h2⟩:=h i q hq
  exact ⟨u,by rw [List.getElem?_append_left (by omega)];exact h1,h2⟩
 ·rw [List.getElem?_append_right (by omega)] at hq
  have h0:i - ps.length=0:=by
   rcases Nat.eq_zero_or_pos (i - ps.length) with g|g
   ·exact g
   ·rw [List.getElem?_eq_none (by simp;omega)] at hq;cases hq
  rw [h0] at hq
  obtain rfl:p=q:=by simpa using hq
  exact ⟨v,by rw [List.getElem?_append_right (by omega),hl,h0];rfl,hp⟩
structure Bran (w:World) (B:Nat) (k:Nat) (rv:Value) (vs:List Value):Prop where
 blk:w.heap[B]?=some (.cells #[.int .i64 k,rv] 133 (0,0))
 row:w.ownsRow 0 193 1 rv vs.length vs
theorem Bran.lt {w:World} {B k:Nat} {rv:Value} {vs:List Value} (h:Bran w B k rv vs):B<w.heap.size:=heap_lt h.blk
theorem Bran.keep {S:Nat→Prop} {w w':World} {B k:Nat} {rv:Value} {vs:List Value} (h:Bran w B k rv vs) (hk:Kp S w w') (hB:¬ S B) (hg:∀ g,rv.ownBlock=some g→¬ S g):Bran w' B k rv vs :=
 ⟨hk.heap h.blk hB,hk.owns h.row hg⟩
theorem Bran.facts {w:World} {B k:Nat} {rv:Value} {vs:List Value} (h:Bran w B k rv vs) :
  (w.cell? ⟨B,0,none⟩=some (.int .i64 k)∧w.cell? ⟨B,1,none⟩=some rv)∧(w.frozen? ⟨B,0,none⟩=false∧w.frozen? ⟨B,1,none⟩=false):=by
 have h:=h.blk
 refine ⟨⟨?_,?_⟩,?_,?_⟩<;>simp [World.cell?,World.frozen?,h]
theorem infoP:(Tryz.prog.info? 193).map (fun i=>(i.zero,i.size,i.bytes))=some (some .nilIface,1,16):=by kernel_rfl
def Sb (B:Nat) (rv:Value) (q:Nat):Prop:=q=B∨rv.ownBlock=some q
set_option maxRecDepth 100000 in
set_option maxHeartbeats 4000000 in
theorem add_any (B k:Nat) (rv:Value) (vs:List Value) (ty:TypeId) (x:Value) (w:World) (h:Bran w B k rv vs) (hg:∀ g,rv.ownBlock=some g→g≠B) (hl:vs.length≤1073741824) :
  Calls Tryz.prog 52 #[.pointer (some ⟨B,0,none⟩),.iface ty x] w fun e w'=>e=.returned (.tuple #[])∧∃ rv',Bran w' B k rv' (vs++[.iface ty x])∧(∀ g,rv'.ownBlock=some g→rv.ownBlock=some g∨w.heap.size≤g)∧Kp (Sb B rv) w w':=by
 obtain ⟨i0,hi0,hz0,hz1,hz2⟩:=info_parts infoP
 obtain ⟨⟨c0,c1⟩,f0,f1⟩:=h.facts
 have HB:=hide h
 have hbl:=h.lt
 have HG:=hide hg
 clear h hg
 go_enter Tryz.func52,Tryz.ntmps52
 go_wp2_with (at_builtin;refine wpList_append_lies _ rfl _ _ 131 rfl 0 193 i0 _ 1 16 Tryz.underlying131 hi0 hz0 hz1 hz2 rfl (by decide) rv vs.length _ rfl ((HB.out).row.alloc _) ⟨w.heap.size,0,none⟩ 1 1 [.iface ty x] rfl rfl (World.news_of_block (cs:=#[.iface ty x]) (heap_alloc_new w _)) (by simp [Value.oneCell']) (by omega) (by unfold maxLen;omega) (by omega) (Nat.zero_le _) (w.heap.size+1) (by simp) ?_;intro g cap5 w5 hown5 hgrow5 hat5 hlt5;have x1:w5.cell? ⟨B,1,none⟩=some rv:=(hgrow5.cell_far ⟨B,1,none⟩ (by simp;omega) (fun e=>(HG.out) B e.symm rfl)).trans (Lib.cell?_alloc_some _ c1);have x2:w5.frozen? ⟨B,1,none⟩=false:=(hgrow5.frozen_far ⟨B,1,none⟩ (by simp;omega) (fun e=>(HG.out) B e.symm rfl)).trans ((World.frozen?_alloc_old _ _ ⟨B,1,none⟩ (Nat.ne_of_lt hbl)).trans f1);have HW5:=hide hown5;have HG5:=hide hgrow5;clear hown5 hgrow5)
 go_end0
 have hk1:Kp (Sb B rv) w w5:=Kp.grown (Kp.alloc (Kp.refl _ w) _) HG5.out (fun k e _=>.inr e)
 have hk:Kp (Sb B rv) w (w5.setCell ⟨B,1,none⟩ (.slice (some ⟨g,0,none⟩) (vs.length+1) cap5)):=Kp.setCell hk1 (p:=⟨B,1,none⟩) (fun _=>.inl rfl) _
 have hgB:g≠B:=by
  rcases hat5 with e|e
  ·exact (HG.out) g e
  ·omega
 refine ⟨rfl,.slice (some ⟨g,0,none⟩) (vs.length+1) cap5,⟨?_,?_⟩,?_,hk⟩
 ·have h5:w5.heap[B]?=some (.cells #[.int .i64 k,rv] 133 (0,0)):=(HG5.out).block B (by simp;omega) (fun e=>(HG.out) B e.symm rfl) |>.trans ((heap_alloc_old w _ hbl).trans (HB.out).blk)
  simp [World.setCell,Array.getElem?_modify,h5]
 ·rw [List.length_append]
  exact ownsRow_setCell_other HW5.out (by simp [Value.ownBlock];omega) _
 ·intro q hq
  simp only [Value.ownBlock,Option.some.injEq] at hq
  subst hq
  rcases hat5 with e|e
  ·exact .inl e
  ·exact .inr (by omega)
end Go.Proofs.YtbmebfgapjhchaaGreatDoor
/- A reader at work on a branch;tokens become leaves. -/
namespace Go.Proofs.YtbmebfgapjhchaaGreatDoor
open Go.RowKit
open M
structure Wk (w:World) (rb:Nat) (s:ByteArray) (L:List Tk) (tv:Value) (a dp B k:Nat) (rv:Value) (vs:List Value) (ps:List X.Part) (D:Nat→Prop):Prop where
 rdr:RdrT w rb s L tv a dp
 bra:Bran w B k rv vs
 len:vs.length=ps.length
 each:Each w D vs ps
 dlt:∀ q,D q→q<w.heap.size
 sep:¬ D rb∧¬ D B∧B≠rb
 sepG:∀ g,rv.ownBlock=some g→¬ D g∧g≠rb∧g≠B
 sepT:∀ q,tv.ownBlock=some q→¬ D q∧q≠B∧rv.ownBlock≠some q∧q<w.heap.size
def Sr (rb B:Nat) (rv:Value) (q:Nat):Prop:=q=rb∨Sb B rv q
def Done (w:World) (rb:Nat) (s:ByteArray) (L:List Tk) (tv:Value) (dp B k:Nat) (rv:Value) (ps':List X.Part) (ts':List X.Tok) (D:Nat→Prop) (w':World):Prop :=
 ∃ a' rv' vs' D',Wk w' rb s L tv a' dp B k rv' vs' ps' D'∧remT s L a'=ts'∧(∀ q,D q→D' q)∧(∀ q,D' q→D q∨w.heap.size≤q)∧(∀ g,rv'.ownBlock=some g→rv.ownBlock=some g∨w.heap.size≤g)∧Kp (Sr rb B rv) w w'
def DoneV (w:World) (rb:Nat) (s:ByteArray) (L:List Tk) (tv:Value) (dp B k:Nat) (rv:Value) (vs:List Value) (ps':List X.Part) (ts':List X.Tok) (D:Nat→Prop) (w':World):Prop :=
 ∃ a' rv' us,Wk w' rb s L tv a' dp B k rv' (vs++us) ps' D∧remT s L a'=ts'∧(∀ g,rv'.ownBlock=some g→rv.ownBlock=some g∨w.heap.size≤g)∧Kp (Sr rb B rv) w w'
theorem DoneV.done {w:World} {rb:Nat} {s:ByteArray} {L:List Tk} {tv:Value} {dp B k:Nat} {rv:Value} {vs:List Value} {ps':List X.Part} {ts':List X.Tok} {D:Nat→Prop} {w':World} (h:DoneV w rb s L tv dp B k rv vs ps' ts' D w'):Done w rb s L tv dp B k rv ps' ts' D w':=by
 obtain ⟨a',rv',us,h1,h2,h3,h4⟩:=h
 exact ⟨a',rv',_,D,h1,h2,fun _=>id,fun _=>.inl,h3,h4⟩
theorem Wk.keep {S:Nat→Prop} {w w':World} {rb:Nat} {s:ByteArray} {L:List Tk} {tv:Value} {a dp B k:Nat} {rv:Value} {vs:List Value} {ps:List X.Part} {D:Nat→Prop} (h:Wk w rb s L tv a dp B k rv vs ps D) (hk:Kp S w w')
  (h1:¬ S rb) (h2:¬ S B) (h3:∀ g,rv.ownBlock=some g→¬ S g) (h4:∀ q,D q→¬ S q) (h5:∀ q,tv.ownBlock=some q→¬ S q):Wk w' rb s L tv a dp B k rv vs ps D :=
 ⟨h.rdr.keep hk h1 h5,h.bra.keep hk h2 h3,h.len,h.each.keep hk h4,fun q hq=>Nat.lt_of_lt_of_le (h.dlt q hq) hk.size,h.sep,h.sepG,fun q hq=>by obtain ⟨a1,a2,a3,a4⟩:=h.sepT q hq;exact ⟨a1,a2,a3,Nat.lt_of_lt_of_le a4 hk.size⟩⟩
theorem Wk.below {w w':World} {rb:Nat} {s:ByteArray} {L:List Tk} {tv:Value} {a dp B k:Nat} {rv:Value} {vs:List Value} {ps:List X.Part} {D:Nat→Prop} (h:Wk w rb s L tv a dp B k rv vs ps D) (hk:Below w.heap.size w w'):Wk w' rb s L tv a dp B k rv vs ps D :=
 h.keep (Kp.ofBelow hk (fun _=>False)) id id (fun _ _=>id) (fun _ _=>id) (fun _ _=>id)
theorem Wk.added {w w':World} {rb:Nat} {s:ByteArray} {L:List Tk} {tv:Value} {a dp B k:Nat} {rv rv' v:Value} {vs:List Value} {ps:List X.Part} {p:X.Part} {D:Nat→Prop} (h:Wk w rb s L tv a dp B k rv vs ps D)
  (hb:Bran w' B k rv' (vs++[v])) (hr:∀ g,rv'.ownBlock=some g→rv.ownBlock=some g∨w.heap.size≤g) (hk:Kp (Sb B rv) w w') (hp:IsP w' D v p):Wk w' rb s L tv a dp B k rv' (vs++[v]) (ps++[p]) D:=by
 have hD:∀ q,D q→¬ Sb B rv q:=by
  intro q hq e
  rcases e with rfl|e
  ·exact h.sep.2.1 hq
  ·exact (h.sepG q e).1 hq
 have hbl:=h.bra.lt
 have hrl:=h.rdr.raw.lt
 refine ⟨h.rdr.keep hk ?_ ?_,hb,by rw [List.length_append,List.length_append,h.len];rfl,(h.each.keep hk hD).snoc h.len hp,fun q hq=>Nat.lt_of_lt_of_le (h.dlt q hq) hk.size,h.sep,?_,?_⟩
 ·rintro (e|e)
  ·exact h.sep.2.2 e.symm
  ·exact (h.sepG rb e).2.1 rfl
 ·intro q hq e
  obtain ⟨a1,a2,a3,a4⟩:=h.sepT q hq
  rcases e with e|e
  ·exact a2 e
  ·exact a3 e
 ·intro g hg
  rcases hr g hg with e|e
  ·exact h.sepG g e
  ·exact ⟨fun hd=>by have:=h.dlt g hd;omega,by omega,by omega⟩
 ·intro q hq
  obtain ⟨a1,a2,a3,a4⟩:=h.sepT q hq
  refine ⟨a1,a2,fun e=>?_,Nat.lt_of_lt_of_le a4 hk.size⟩
  rcases hr q e with e|e
  ·exact a3 e
  ·omega
theorem Wk.moved {w w':World} {rb:Nat} {s:ByteArray} {L:List Tk} {tv:Value} {a dp B k:Nat} {rv:Value} {vs:List Value} {ps:List X.Part} {D:Nat→Prop} (h:Wk w rb s L tv a dp B k rv vs ps D) (hk:On rb w w') {a' dp':Nat} (hr:RdrT w' rb s L tv a' dp'):Wk w' rb s L tv a' dp' B k rv vs ps D:=by
 refine ⟨hr,h.bra.keep hk h.sep.2.2 (fun g hg e=>(h.sepG g hg).2.1 e),h.len,h.each.keep hk (fun q hq e=>?_),fun q hq=>Nat.lt_of_lt_of_le (h.dlt q hq) hk.size,h.sep,h.sepG,fun q hq=>?_⟩
 ·subst e;exact h.sep.1 hq
 ·obtain ⟨a1,a2,a3,a4⟩:=h.sepT q hq
  exact ⟨a1,a2,a3,Nat.lt_of_lt_of_le a4 hk.size⟩
structure InLv (w:World) (rb:Nat) (s:ByteArray) (L:List Tk) (tv:Value) (a dp B k:Nat) (rv:Value) (vs:List Value) (ps:List X.Part) (D:Nat→Prop) (j:Nat) (rvj:Value) (vsj:List Value) (wr:World):Prop where
 wk:Wk wr rb s L tv a dp B k rvj vsj (ps++((L.drop a).take j).map (fun t=>X.lf (X.tkx (bs s) t))) D
 own:∀ g,rvj.ownBlock=some g→rv.ownBlock=some g∨w.heap.size≤g
 kp:Kp (Sb B rv) w wr
 pre:∃ us,vsj=vs++us
theorem InLv.done {w wr w':World} {rb:Nat} {s:ByteArray} {L:List Tk} {tv:Value} {a dp B k:Nat} {rv:Value} {vs:List Value} {ps:List X.Part} {D:Nat→Prop} {j:Nat} {rvj:Value} {vsj:List Value} (h:InLv w rb s L tv a dp B k rv vs ps D j rvj vsj wr) {e:Nat} (hj:j=e - a) (hr:RdrT w' rb s L tv e dp) (hk:On rb wr w') :
  DoneV w rb s L tv dp B k rv vs (ps++((L.drop a).take (e - a)).map (fun t=>X.lf (X.tkx (bs s) t))) (remT s L e) D w':=by
 subst hj
 obtain ⟨us,rfl⟩:=h.pre
 refine ⟨e,rvj,us,h.wk.moved hk hr,rfl,h.own,?_⟩
 refine Kp.trans (Kp.mono h.kp (fun i _ e=>.inr e)) hk (fun i hi e=>.inl e)
theorem IsT.cut {w:World} {ao:Option Addr} {n cap:Nat} {L:List Tk} (h:IsT w (.slice ao n cap) L) {a e:Nat} (h1:a≤e) (h2:e≤L.length):IsT w (.slice (ao.map (fun x=>x.add (a*3))) (e - a) (cap - a)) ((L.drop a).take (e - a)):=by
 obtain ⟨ao',cap',e',g1,g2,g3⟩:=h
 injection e' with e1 e2 e3
 subst e1;subst e3
 have hl:((L.drop a).take (e - a)).length=e - a:=by rw [List.length_take,List.length_drop];omega
 refine ⟨_,cap - a,by rw [hl],by rw [hl];omega,by omega,fun i hi=>?_⟩
 rw [hl] at hi
 obtain ⟨b,o,rfl,ha⟩:=g3 (a+i) (by omega)
 refine ⟨b,o+a*3,by rw [Option.map_some,Addr.add_lit],fun t ht=>?_⟩
 rw [List.getElem?_take_of_lt (by omega),List.getElem?_drop] at ht
 have:=ha t ht
 rw [show o+(a+i)*3=o+a*3+i*3 by omega] at this
 exact this
theorem own_add (ao:Option Addr) (x n n' c c':Nat):(Value.slice (ao.map (fun y=>y.add x)) n c).ownBlock=(Value.slice ao n' c').ownBlock:=by
 cases ao with
 | none=>rfl
 | some y=>simp only [Option.map_some,Value.ownBlock];unfold Addr.add;split<;>rfl
theorem Kp.chain {w w1 w2:World} {B:Nat} {rv rv1:Value} (h1:Kp (Sb B rv) w w1) (hr:∀ g,rv1.ownBlock=some g→rv.ownBlock=some g∨w.heap.size≤g) (h2:Kp (Sb B rv1) w1 w2):Kp (Sb B rv) w w2 :=
 Kp.trans h1 h2 (fun i hi e=>by
  rcases e with e|e
  ·exact .inl e
  ·rcases hr i e with e|e
   ·exact .inr e
   ·omega)
theorem lf_part (w:World) (D:Nat→Prop) {s:ByteArray} {t:Tk} (h:t.pos+t.len≤s.size):IsP w D (.iface 224 (.agg #[.int .i64 t.kind,.int .i64 t.len])) (X.lf (X.tkx (bs s) t)):=by
 have:(((bs s).drop t.pos).take t.len).length=t.len:=by rw [List.length_take,List.length_drop,bs_len];omega
 have h2:=IsP.leaf (w:=w) (D:=D) t.kind (((bs s).drop t.pos).take t.len)
 rw [this] at h2
 exact h2
set_option maxRecDepth 100000 in
set_option maxHeartbeats 4000000 in
theorem leavesV_any (rb:Nat) (s:ByteArray) (L:List Tk) (tv:Value) (a dp B k:Nat) (rv:Value) (vs:List Value) (ps:List X.Part) (D:Nat→Prop) (w:World) (hS:TokS s L) (h:Wk w rb s L tv a dp B k rv vs ps D) (e:Nat) (h1:a≤e) (h2:e≤L.length) (hr:ps.length+(e - a)≤1073741824) :
  Calls Tryz.prog 82 #[.pointer (some ⟨rb,0,none⟩),.pointer (some ⟨B,0,none⟩),.int .i64 e] w fun en w'=>en=.returned (.tuple #[])∧Hid (DoneV w rb s L tv dp B k rv vs (ps++((L.drop a).take (e - a)).map (fun t=>X.lf (X.tkx (bs s) t))) (remT s L e) D w'):=by
 obtain ⟨⟨c0,c1,c2,c3,c4,c5,c6⟩,-⟩:=h.rdr.raw.facts
 have HK:=hide h
 have hl1:=hS.size
 have hl2:=hS.len
 have hal:=h.rdr.le
 obtain ⟨ao,cap,rfl,hc1,hc2,-⟩:=h.rdr.row
 clear h
 have j1:(a:Int)≤(e:Int):=by omega
 have j2:(e:Int)≤(cap:Int):=by omega
 have j3:e≤cap:=by omega
 go_enter Tryz.func82,Tryz.ntmps82
 go_wp2_with fail
 have HI0:Hid (InLv w rb s L (.slice ao L.length cap) a dp B k rv vs ps D 0 rv vs w):=⟨by simpa using HK.out,fun g hg=>.inl hg,Kp.refl _ _,[],(List.append_nil _).symm⟩
 by_cases hca:cap=a
 ·have hea:e=a:=by omega
  subst hea
  go_quiet (fail)
  go_wp2_with fail
  refine wp_loop_rounds 1 ?_
  rw [rounds_succ]
  have HI1:Hid (InLv w rb s L (.slice ao L.length cap) e dp B k rv vs ps D 0 rv vs (w.drewN nq)):=⟨(HI0.out).wk.below (belowN (Below.refl _ w) nq),fun g hg=>.inl hg,Kp.mono (On.drewN B w nq) (fun i _ e=>.inl e),[],(List.append_nil _).symm⟩
  clear HI0
  generalize w.drewN nq=W at *
  clear c0 c1 c2 c3 c4 c5 c6
  obtain ⟨⟨c0,c1,c2,c3,c4,c5,c6⟩,f0,f1,f2,f3,f4,f5,f6⟩:=(HI1.out).wk.rdr.raw.facts
  go_wp2_with fail
  refine (tlook_any rb s _ L (.slice ao L.length cap) e dp _ _ _ hS ((HI1.out).wk.rdr.raw.set2 (e:Int)) ((HI1.out).wk.rdr.row.keep (On.set (Kp.refl _ W) 2 _) (fun k hk=>(HI1.out).wk.rdr.own k hk)) h2 (HI1.out).wk.rdr.own).mono ?_
  rintro e' w2 ⟨rfl,r2,k2⟩
  go_wp2_with fail
  go_end0
  exact ⟨rfl,(HI1.out).done (by omega) r2 (On.to (On.set (Kp.refl _ W) 2 _) k2)⟩
 ·go_quiet (fail)
  go_wp2_with fail
  have HC:Hid (IsT w (.slice (ao.map (fun x=>x.add (a*3))) (e - a) (cap - a)) ((L.drop a).take (e - a))):=((HK.out).rdr.row).cut h1 h2
  have hob:=own_add ao (a*3) (e - a) L.length (cap - a) cap
  have hll:((L.drop a).take (e - a)).length=e - a:=by rw [List.length_take,List.length_drop];omega
  generalize hsv:ao.map (fun x=>x.add (a*3))=ao2 at *
  clear hsv
  go_loopw [19] (fun v wr=>∃ (j:Nat) (rvj:Value) (vsj:List Value),v=.int .i64 j∧j≤e - a∧Hid (InLv w rb s L (.slice ao L.length cap) a dp B k rv vs ps D j rvj vsj wr)) (fun v _=>e - a - (intOf v).toNat)
  case atStart =>
   exact ⟨0,rv,vs,rfl,Nat.zero_le _,⟨(HI0.out).wk.below (belowN (Below.refl _ w) nq),fun g hg=>.inl hg,Kp.mono (On.drewN B w nq) (fun i _ e=>.inl e),[],(List.append_nil _).symm⟩⟩
  case round =>
   obtain ⟨j,rvj,vsj,rfl,hj,HI⟩:=hrel
   clear c0 c1 c2 c3 c4 c5 c6
   by_cases hlt:j<e - a
   case neg =>
    have i1:decide (j<e - a)=false:=by simp;omega
    have i2:decide ((j:Int)<((e - a:Nat):Int))=false:=by simp;omega
    obtain ⟨⟨c0,c1,c2,c3,c4,c5,c6⟩,f0,f1,f2,f3,f4,f5,f6⟩:=(HI.out).wk.rdr.raw.facts
    go_wp2_with fail
    refine (tlook_any rb s _ L (.slice ao L.length cap) e dp _ _ _ hS ((HI.out).wk.rdr.raw.set2 (e:Int)) ((HI.out).wk.rdr.row.keep (On.set (Kp.refl _ wr) 2 _) (fun k hk=>(HI.out).wk.rdr.own k hk)) h2 (HI.out).wk.rdr.own).mono ?_
    rintro e' w2 ⟨rfl,r2,k2⟩
    go_wp2_with fail
    go_end0
    exact ⟨rfl,(HI.out).done (by omega) r2 (On.to (On.set (Kp.refl _ wr) 2 _) k2)⟩
   have hkeep:IsT wr (.slice ao2 (e - a) (cap - a)) ((L.drop a).take (e - a)):=(HC.out).keep (HI.out).kp (fun q hq h=>by
    obtain ⟨a1,a2,a3,a4⟩:=(HK.out).sepT q (hob ▸ hq)
    rcases h with h|h
    ·exact a2 h
    ·exact a3 h)
   obtain ⟨b',o',t,rfl,ht,q1,q2,q3⟩:=hkeep.get (Below.refl _ wr) (by rw [hll];exact hlt)
   have htL:L[a+j]?=some t:=by
    rw [List.getElem?_take_of_lt (by omega),List.getElem?_drop] at ht;exact ht
   have hfit:=(hS.fit t (List.mem_of_getElem? htL)).1
   have i1:decide (j<e - a)=true:=by simp;omega
   have i2:decide ((j:Int)<((e - a:Nat):Int))=true:=by simp;omega
   have hlj:vsj.length≤1073741824:=by
    rw [(HI.out).wk.len,List.length_append,List.length_map,List.length_take];omega
   clear hkeep
   go_wp2_with fail
   have kA:Below wr.heap.size wr (wr.alloc (Obj.cells #[Value.int IntKind.i64 t.kind,Value.int IntKind.i64 t.pos,Value.int IntKind.i64 t.len] 99)):=(Below.refl _ wr).alloc (Nat.le_refl _) _
   have hWA:=(HI.out).wk.below kA
   have HWA:=hide hWA
   refine (add_any B k rvj vsj 224 _ _ hWA.bra (fun g hg=>(hWA.sepG g hg).2.2) hlj).mono ?_
   rintro e' w2 ⟨rfl,rv2,b2,o2,k2⟩
   clear hWA
   have HN:Hid (InLv w rb s L (.slice ao L.length cap) a dp B k rv vs ps D (j+1) rv2 (vsj++[.iface 224 (.agg #[.int .i64 t.kind,.int .i64 t.len])]) w2):=by
    have hw:=(HWA.out).added b2 o2 k2 (lf_part w2 D (s:=s) (t:=t) hfit)
    have hl:(ps++((L.drop a).take j).map (fun t=>X.lf (X.tkx (bs s) t)))++[X.lf (X.tkx (bs s) t)]=ps++((L.drop a).take (j+1)).map (fun t=>X.lf (X.tkx (bs s) t)):=by
     rw [List.append_assoc,List.take_add_one,List.getElem?_drop,htL];simp
    rw [hl] at hw
    have hz:=(HI.out).kp.size
    obtain ⟨us,hus⟩:=(HI.out).pre
    refine ⟨hw,fun g hg=>?_,Kp.chain (Kp.alloc (HI.out).kp _) (HI.out).own k2,us++[_],by rw [hus,List.append_assoc]⟩
    rcases o2 g hg with e|e
    ·exact (HI.out).own g e
    ·exact .inr (by simp at e;omega)
   clear b2 o2 k2 HWA kA ht htL q1 q2 q3
   go_wp2_with fail
   exact ⟨⟨j+1,rv2,_,by go_num,by omega,HN⟩,by simp only [intOf];omega⟩
theorem leaves_any (rb:Nat) (s:ByteArray) (L:List Tk) (tv:Value) (a dp B k:Nat) (rv:Value) (vs:List Value) (ps:List X.Part) (D:Nat→Prop) (w:World) (hS:TokS s L) (h:Wk w rb s L tv a dp B k rv vs ps D) (e:Nat) (h1:a≤e) (h2:e≤L.length) (hr:ps.length+(e - a)≤1073741824) :
  Calls Tryz.prog 82 #[.pointer (some ⟨rb,0,none⟩),.pointer (some ⟨B,0,none⟩),.int .i64 e] w fun en w'=>en=.returned (.tuple #[])∧Hid (Done w rb s L tv dp B k rv (ps++((L.drop a).take (e - a)).map (fun t=>X.lf (X.tkx (bs s) t))) (remT s L e) D w') :=
 (leavesV_any rb s L tv a dp B k rv vs ps D w hS h e h1 h2 hr).mono fun _ _ hh=>⟨hh.1,(hh.2.out).done⟩
end Go.Proofs.YtbmebfgapjhchaaGreatDoor
/- What is next is taken;some things are wanted. -/
namespace Go.Proofs.YtbmebfgapjhchaaGreatDoor
open Go.RowKit
open M
theorem take_rem {s:ByteArray} {L:List Tk} {a:Nat}:X.take (remT s L a)=(((L.drop a).take (nxI L a+1 - a)).map (fun t=>X.lf (X.tkx (bs s) t)),remT s L (nxI L a+1)):=by
 unfold X.take
 rw [rem_take,rem_drop]
 have e1:nxI L a+1 - a=((L.drop a).takeWhile qk).length+1:=by unfold nxI;omega
 have e2:(L.drop a).take ((L.drop a).takeWhile qk).length=(L.drop a).takeWhile qk:=(List.prefix_iff_eq_take.1 (List.takeWhile_prefix _)).symm
 rw [e1,List.take_add,e2,List.drop_drop]
 refine Prod.ext ?_ ?_
 ·show List.map X.lf _=_
  unfold remT nxI
  rw [← List.map_take,← List.map_append,List.map_map];rfl
 ·show List.drop 1 _=_
  unfold remT
  rw [← List.map_drop,List.drop_drop]
theorem has_next {s:ByteArray} {L:List Tk} {a:Nat} (h:X.nxt (remT s L a)≠none):nxI L a<L.length:=by
 rw [nxt_rem] at h
 rcases Nat.lt_or_ge (nxI L a) L.length with g|g
 ·exact g
 ·rw [List.getElem?_eq_none g] at h;exact absurd rfl h
theorem Done.trans {w w1 w2:World} {rb:Nat} {s:ByteArray} {L:List Tk} {tv:Value} {dp B k:Nat} {rv rv1:Value} {ps2:List X.Part} {ts2:List X.Tok} {D D1:Nat→Prop}
  (hD:∀ q,D q→D1 q) (hN:∀ q,D1 q→D q∨w.heap.size≤q) (hr:∀ g,rv1.ownBlock=some g→rv.ownBlock=some g∨w.heap.size≤g) (hk:Kp (Sr rb B rv) w w1) (h:Done w1 rb s L tv dp B k rv1 ps2 ts2 D1 w2):Done w rb s L tv dp B k rv ps2 ts2 D w2:=by
 obtain ⟨a',rv',vs',D',h1,h2,h3,h4,h5,h6⟩:=h
 have hz:=hk.size
 refine ⟨a',rv',vs',D',h1,h2,fun q hq=>h3 q (hD q hq),fun q hq=>?_,fun g hg=>?_,Kp.trans hk h6 (fun i hi e=>?_)⟩
 ·rcases h4 q hq with e|e
  ·exact hN q e
  ·exact .inr (by omega)
 ·rcases h5 g hg with e|e
  ·exact hr g e
  ·exact .inr (by omega)
 ·rcases e with e|e|e
  ·exact .inl e
  ·exact .inr (.inl e)
  ·rcases hr i e with e|e
   ·exact .inr (.inr e)
   ·omega
def Reads (fn:FuncId) (F:X.R) (ok:List X.Tok→Prop) (s:ByteArray) (L:List Tk) (dp:Nat):Prop :=
 ∀ (rb:Nat) (tv:Value) (a B k:Nat) (rv:Value) (vs:List Value) (ps:List X.Part) (D:Nat→Prop) (w:World),Wk w rb s L tv a dp B k rv vs ps D→ok (remT s L a)→ps.length+(F (remT s L a)).1.length≤1073741824 →
  Calls Tryz.prog fn #[.pointer (some ⟨rb,0,none⟩),.pointer (some ⟨B,0,none⟩)] w fun en w'=>en=.returned (.tuple #[])∧Hid (Done w rb s L tv dp B k rv (ps++(F (remT s L a)).1) (F (remT s L a)).2 D w')
set_option maxRecDepth 100000 in
set_option maxHeartbeats 4000000 in
theorem take_any (s:ByteArray) (L:List Tk) (dp:Nat) (hS:TokS s L):Reads 102 X.take (fun ts=>X.nxt ts≠none) s L dp:=by
 intro rb tv a B k rv vs ps D w h hn hl
 have hlt:=has_next hn
 have ha:=nxI_ge L a
 rw [take_rem] at hl ⊢
 simp only [List.length_map,List.length_take,List.length_drop] at hl
 obtain ⟨⟨c0,c1,c2,c3,c4,c5,c6⟩,-⟩:=h.rdr.raw.facts
 have hl2:=hS.len
 have HC:=hide (leaves_any rb s L tv a dp B k rv vs ps D w hS h (nxI L a+1) (by omega) (by omega) (by omega))
 rw [Int.natCast_add] at HC
 clear h hn
 go_enter Tryz.func102,Tryz.ntmps102
 go_wp2_with fail
 refine (HC.out).mono ?_
 rintro e w1 ⟨rfl,H1⟩
 go_wp2_with fail
 go_end0
 exact ⟨rfl,H1⟩
set_option maxRecDepth 100000 in
set_option maxHeartbeats 4000000 in
theorem restV_any (s:ByteArray) (L:List Tk) (dp:Nat) (hS:TokS s L) (rb:Nat) (tv:Value) (a B k:Nat) (rv:Value) (vs:List Value) (ps:List X.Part) (D:Nat→Prop) (w:World) (h:Wk w rb s L tv a dp B k rv vs ps D) (hl:ps.length+((remT s L a).map X.lf).length≤1073741824) :
  Calls Tryz.prog 54 #[.pointer (some ⟨rb,0,none⟩),.pointer (some ⟨B,0,none⟩)] w fun en w'=>en=.returned (.tuple #[])∧Hid (DoneV w rb s L tv dp B k rv vs (ps++(remT s L a).map X.lf) [] D w'):=by
 have ha:=h.rdr.le
 have e1:(remT s L a).map X.lf=((L.drop a).take (L.length - a)).map (fun t=>X.lf (X.tkx (bs s) t)):=by
  unfold remT
  rw [List.map_map,List.take_of_length_le (by rw [List.length_drop];omega)];rfl
 have e2:remT s L L.length=[]:=by unfold remT;simp
 simp only [e1,List.length_map,List.length_take,List.length_drop] at hl ⊢
 obtain ⟨⟨c0,c1,c2,c3,c4,c5,c6⟩,-⟩:=h.rdr.raw.facts
 have hl2:=hS.len
 have HC:=hide (leavesV_any rb s L tv a dp B k rv vs ps D w hS h L.length ha (Nat.le_refl _) (by omega))
 rw [e2] at HC
 obtain ⟨ao,cap,rfl,hc1,hc2,-⟩:=h.rdr.row
 clear h e1 e2
 go_enter Tryz.func54,Tryz.ntmps54
 go_wp2_with fail
 refine (HC.out).mono ?_
 rintro e w1 ⟨rfl,H1⟩
 go_wp2_with fail
 go_end0
 exact ⟨rfl,H1⟩
theorem rest_any (s:ByteArray) (L:List Tk) (dp:Nat) (hS:TokS s L):Reads 54 (fun ts=>(ts.map X.lf,[])) (fun _=>True) s L dp:=by
 intro rb tv a B k rv vs ps D w h _ hl
 exact (restV_any s L dp hS rb tv a B k rv vs ps D w h hl).mono fun _ _ hh=>⟨hh.1,(hh.2.out).done⟩
end Go.Proofs.YtbmebfgapjhchaaGreatDoor
/- Some things are wanted,one behind the other. -/
namespace Go.Proofs.YtbmebfgapjhchaaGreatDoor
open Go.RowKit
open M
namespace X
theorem andThen_assoc (f g h:R):andThen (andThen f g) h=andThen f (andThen g h):=by
 funext ts;simp [andThen]
def nilR:R:=fun ts=>([],ts)
theorem nil_andThen (f:R):andThen nilR f=f:=by funext ts;simp [andThen,nilR]
theorem andThen_nil (f:R):andThen f nilR=f:=by funext ts;simp [andThen,nilR]
def wantP (x:List UInt8):R:=fun ts=>if pN x ts then take ts else ([.miss x],ts)
def wantsP:List (List UInt8)→R
 | []=>nilR
 | x::xs=>andThen (wantP x) (wantsP xs)
theorem wantsP_append:∀ (l r:List (List UInt8)),wantsP (l++r)=andThen (wantsP l) (wantsP r)
 | [],r=>(nil_andThen _).symm
 | x::l,r=>by rw [List.cons_append,wantsP,wantsP_append l r,wantsP,andThen_assoc]
theorem wantsP_le (ss:List (List UInt8)) (j:Nat) (ts:List Tok):(wantsP (ss.take j) ts).1.length≤(wantsP ss ts).1.length:=by
 have:wantsP ss=andThen (wantsP (ss.take j)) (wantsP (ss.drop j)):=by rw [← wantsP_append,List.take_append_drop]
 rw [this];simp [andThen]
theorem wantsP_snoc {ss:List (List UInt8)} {j:Nat} {x:List UInt8} (h:ss[j]?=some x) (ts:List Tok):wantsP (ss.take (j+1)) ts=((wantsP (ss.take j) ts).1++(wantP x (wantsP (ss.take j) ts).2).1,(wantP x (wantsP (ss.take j) ts).2).2):=by
 rw [List.take_add_one,h,wantsP_append]
 show andThen _ (wantsP [x]) ts=_
 rw [wantsP,wantsP,andThen_nil];rfl
theorem pN_next {x:List UInt8} {ts:List Tok} (hx:x≠[]) (h:pN x ts=true):nxt ts≠none:=by
 intro e
 unfold pN wordN kindN at h
 rw [e] at h
 simp [hx] at h
end X
theorem strRow_one (w:World) (x:List UInt8):StrRow (w.alloc (Obj.cells #[Value.string (ba x)] 9)) w.heap.size [x]:=by
 refine ⟨fun i z hz=>?_,by simp⟩
 rcases Nat.eq_zero_or_pos i with rfl|g
 ·obtain rfl:x=z:=by simpa using hz
  rw [cell_of_row _ _ 0 _ _ _ (heap_alloc_new w _)];rfl
 ·rw [List.getElem?_eq_none (by simp;omega)] at hz;cases hz
theorem Done.refl {w:World} {rb:Nat} {s:ByteArray} {L:List Tk} {tv:Value} {a dp B k:Nat} {rv:Value} {vs:List Value} {ps:List X.Part} {D:Nat→Prop} (h:Wk w rb s L tv a dp B k rv vs ps D):Done w rb s L tv dp B k rv ps (remT s L a) D w :=
 ⟨a,rv,vs,D,h,rfl,fun _=>id,fun _ hq=>.inl hq,fun _ hg=>.inl hg,Kp.refl _ _⟩
set_option maxRecDepth 100000 in
set_option maxHeartbeats 4000000 in
theorem want_any (s:ByteArray) (L:List Tk) (dp:Nat) (hS:TokS s L) (rb:Nat) (tv:Value) (a B k:Nat) (rv:Value) (vs:List Value) (ps:List X.Part) (D:Nat→Prop) (w:World) (h:Wk w rb s L tv a dp B k rv vs ps D)
  (c:Nat) (ss:List (List UInt8)) (hs:StrRow w c ss) (hx:∀ x∈ss,x≠[]) (hc:c≠rb∧c≠B∧rv.ownBlock≠some c∧c<w.heap.size) (hl:ps.length+(X.wantsP ss (remT s L a)).1.length≤1073741824) :
  Calls Tryz.prog 129 #[.pointer (some ⟨rb,0,none⟩),.pointer (some ⟨B,0,none⟩),.slice (some ⟨c,0,none⟩) ss.length ss.length] w fun en w'=>en=.returned (.tuple #[])∧Hid (Done w rb s L tv dp B k rv (ps++(X.wantsP ss (remT s L a)).1) (X.wantsP ss (remT s L a)).2 D w'):=by
 have HS:=hide hs
 have HX:=hide hx
 have hln:=hs.len
 have HD0:Hid (Done w rb s L tv dp B k rv (ps++(X.wantsP (ss.take 0) (remT s L a)).1) (X.wantsP (ss.take 0) (remT s L a)).2 D w):=by
  show Done _ _ _ _ _ _ _ _ _ _ _ _ _
  simp only [List.take_zero,X.wantsP,X.nilR,List.append_nil]
  exact Done.refl h
 clear h hs hx
 go_enter Tryz.func129,Tryz.ntmps129
 go_wp2_with fail
 obtain ⟨hc1,hc2,hc3,hc4⟩:=hc
 have HC3:=hide hc3
 clear hc3
 go_loopw [10] (fun v wr=>∃ j:Nat,v=.int .i64 j∧j≤ss.length∧Hid (Done w rb s L tv dp B k rv (ps++(X.wantsP (ss.take j) (remT s L a)).1) (X.wantsP (ss.take j) (remT s L a)).2 D wr)) (fun v _=>ss.length - (intOf v).toNat)
 case atStart=>exact ⟨0,rfl,Nat.zero_le _,HD0⟩
 case round =>
  obtain ⟨j,rfl,hj,HJ⟩:=hrel
  clear HD0
  by_cases hlt:j<ss.length
  case neg =>
   have hje:j=ss.length:=by omega
   subst hje
   rw [List.take_length] at HJ
   have i1:decide (ss.length<ss.length)=false:=by simp
   have i2:decide ((ss.length:Int)<(ss.length:Int))=false:=by simp
   go_wp2_with fail
   go_end0
   exact ⟨rfl,HJ⟩
  obtain ⟨x,hxj⟩:∃ x,ss[j]?=some x:=⟨ss[j],List.getElem?_eq_getElem hlt⟩
  have hxn:x≠[]:=(HX.out) x (List.mem_of_getElem? hxj)
  have i1:decide (j<ss.length)=true:=by simp;omega
  have i2:decide ((j:Int)<(ss.length:Int))=true:=by simp;omega
  obtain ⟨a',rv',vs',D',g1,g2,g3,g4,g5,g6⟩:=HJ.out
  have y0:wr.cell? ⟨c,j,none⟩=some (.string (ba x)):=g6.cellv ((HS.out).cells j x hxj) (by
   rintro (e|e|e)
   ·exact hc1 e
   ·exact hc2 e
   ·exact (HC3.out) e)
  have HW:=hide g1
  have HG3:=hide g3
  have HG4:=hide g4
  have HG5:=hide g5
  have HG6:=hide g6
  have HT:=hide g2
  have HSN:=hide (X.wantsP_snoc hxj (remT s L a))
  have hle:=X.wantsP_le ss (j+1) (remT s L a)
  clear g1 g2 g3 g4 g5 g6 HJ hxj
  go_wp2_with fail
  have kA:Below wr.heap.size wr (wr.alloc (Obj.cells #[Value.string (ba x)] 9)):=(Below.refl _ wr).alloc (Nat.le_refl _) _
  have hrow:=strRow_one wr x
  have HWA:=hide ((HW.out).below kA)
  have HKA:=hide kA
  refine (isNext_any rb s L tv a' dp _ (HWA.out).rdr wr.heap.size [x] hrow).mono ?_
  rintro e w2 ⟨rfl,k2⟩
  have HW2:=hide ((HWA.out).below k2)
  have hk2:Below wr.heap.size wr w2:=(HKA.out).trans (k2.mono (by simp))
  have HK2:=hide hk2
  have e0:[x].any (fun x=>X.pN x (remT s L a'))=X.pN x (remT s L a'):=by simp
  rw [e0]
  clear e0 kA hrow k2 hk2 HWA HKA
  have HDK:Hid (Kp (Sr rb B rv) w w2):=Kp.trans (HG6.out) (Kp.ofBelow (HK2.out) (fun _=>False)) (fun _ _ h=>h.elim)
  cases hp:X.pN x (remT s L a') with
  | true =>
   have e1:X.wantP x (X.wantsP (ss.take j) (remT s L a)).2=X.take (remT s L a'):=by
    rw [← HT.out];unfold X.wantP;rw [if_pos hp]
   rw [e1] at HSN
   rw [HSN.out,List.length_append] at hle
   go_wp2_with fail
   refine (take_any s L dp hS rb tv a' B k rv' vs' _ D' w2 (HW2.out) (X.pN_next hxn hp) (by rw [List.length_append];omega)).mono ?_
   rintro e w3 ⟨rfl,H3⟩
   have HJ:Hid (Done w rb s L tv dp B k rv (ps++(X.wantsP (ss.take (j+1)) (remT s L a)).1) (X.wantsP (ss.take (j+1)) (remT s L a)).2 D w3):=by
    rw [HSN.out,← List.append_assoc]
    exact Done.trans HG3.out HG4.out HG5.out HDK.out H3.out
   clear H3 HSN e1
   go_wp2_with fail
   exact ⟨⟨j+1,by go_num,by omega,HJ⟩,by simp only [intOf];omega⟩
  | false =>
   have e1:X.wantP x (X.wantsP (ss.take j) (remT s L a)).2=([.miss x],remT s L a'):=by
    rw [← HT.out];unfold X.wantP;rw [if_neg (by rw [hp];simp)]
   rw [e1] at HSN
   rw [HSN.out,List.length_append] at hle
   have hvl:vs'.length≤1073741824:=by rw [(HW2.out).len,List.length_append];omega
   go_wp2_with fail
   refine (add_any B k rv' vs' 290 (.string (ba x)) w2 (HW2.out).bra (fun g hg=>((HW2.out).sepG g hg).2.2) hvl).mono ?_
   rintro e w3 ⟨rfl,rv3,b3,o3,k3⟩
   have HJ:Hid (Done w rb s L tv dp B k rv (ps++(X.wantsP (ss.take (j+1)) (remT s L a)).1) (X.wantsP (ss.take (j+1)) (remT s L a)).2 D w3):=by
    rw [HSN.out,← List.append_assoc]
    have hw:=(HW2.out).added b3 o3 k3 (IsP.miss x)
    exact Done.trans HG3.out HG4.out HG5.out HDK.out ⟨a',rv3,_,D',hw,rfl,fun _=>id,fun _ hq=>.inl hq,o3,Kp.mono k3 (fun i _ e=>.inr e)⟩
   clear b3 o3 k3 HSN e1
   go_wp2_with fail
   exact ⟨⟨j+1,by go_num,by omega,HJ⟩,by simp only [intOf];omega⟩
end Go.Proofs.YtbmebfgapjhchaaGreatDoor
/- A branch within a branch. -/
namespace Go.Proofs.YtbmebfgapjhchaaGreatDoor
open Go.RowKit
open M
theorem Wk.part {w:World} {rb:Nat} {s:ByteArray} {L:List Tk} {tv:Value} {a dp N k:Nat} {rv:Value} {vs:List Value} {ps:List X.Part} {D:Nat→Prop} (h:Wk w rb s L tv a dp N k rv vs ps D) :
  IsP w (fun q=>D q∨q=N∨rv.ownBlock=some q) (.iface 130 (.pointer (some ⟨N,0,none⟩))) (.br k ps):=by
 have hm:∀ q,D q→(D q∨q=N∨rv.ownBlock=some q):=fun q hq=>.inl hq
 obtain ⟨hb,hr⟩:=h.bra
 have hl:=h.len
 rcases hr.2 with ⟨rfl,h0⟩|⟨g,cap,cur,rfl,-,hg,hn,hmx,hsz,ht⟩
 ·have hp:ps=[]:=List.length_eq_zero_iff.1 (by omega)
  subst hp
  exact .br k N 0 none (fun _=>undef) [] (.inr (.inl rfl)) hb ⟨Nat.le_refl _,by unfold maxLen;omega⟩ (fun i hi=>by simp at hi) (fun i p hp=>by simp at hp)
 ·rw [hl] at hb hn
  refine .br k N cap (some ⟨g,0,none⟩) (fun i=>vs.getD i undef) ps (.inr (.inl rfl)) hb ⟨hn,hmx⟩ (fun i hi=>⟨g,rfl,.inr (.inr rfl),?_⟩) (fun i p hp=>?_)
  ·have hv:vs[i]?=some (vs.getD i undef):=by
    rw [List.getD_eq_getElem?_getD,List.getElem?_eq_getElem (by omega)];rfl
   have:=hr.cells (g:=g) rfl i _ hv
   rwa [Addr.add_lit,Nat.zero_add] at this
  ·obtain ⟨v,h1,h2⟩:=h.each i p hp
   have:vs.getD i undef=v:=by rw [List.getD_eq_getElem?_getD,h1];rfl
   rw [this]
   exact h2.mono hm
theorem child_close {w w1 w4:World} {rb:Nat} {s:ByteArray} {L:List Tk} {tv:Value} {a0 dp0 dp B k:Nat} {rv rv1:Value} {vs vs1:List Value} {ps ps1:List X.Part} {D:Nat→Prop} {N kd:Nat} {rvn:Value} {cps:List X.Part} {ts':List X.Tok}
  (h0:Wk w rb s L tv a0 dp0 B k rv vs ps D) (hb1:Bran w1 B k rv1 (vs1++[.iface 130 (.pointer (some ⟨N,0,none⟩))])) (hl1:vs1.length=ps1.length) (he1:Each w1 D vs1 ps1) (hr1:∀ g,rv1.ownBlock=some g→rv.ownBlock=some g∨(w.heap.size≤g∧g≠N))
  (hk1:Kp (Sr rb B rv) w w1) (hN:w.heap.size≤N) (hN1:N<w1.heap.size) (hrn:∀ g,rvn.ownBlock=some g→w.heap.size≤g∧rv1.ownBlock≠some g) (hd:Done w1 rb s L tv dp N kd rvn cps ts' D w4):Done w rb s L tv dp B k rv (ps1++[.br kd cps]) ts' D w4:=by
 obtain ⟨a4,rvN,vsN,DN,wkN,ht,d1,d2,d3,kN⟩:=hd
 have hbl:=h0.bra.lt
 have hrl:=h0.rdr.raw.lt
 have hz1:=hk1.size
 have hz4:=kN.size
 have hNw:=wkN.bra.lt
 have hrow1:=hb1.row
 have hg1:∀ g,rv1.ownBlock=some g→g<w1.heap.size:=fun g hg=>(owns_ge hrow1 g hg).2
 have hg0:∀ g,rv.ownBlock=some g→g<w.heap.size:=fun g hg=>(owns_ge h0.bra.row g hg).2
 have hgN:∀ g,rvN.ownBlock=some g→g<w4.heap.size∧w.heap.size≤g∧rv1.ownBlock≠some g:=by
  intro g hg
  refine ⟨(owns_ge wkN.bra.row g hg).2,?_⟩
  rcases d3 g hg with e|e
  ·exact hrn g e
  ·exact ⟨by omega,fun e'=>by have:=hg1 g e';omega⟩
 have hS1:∀ q,D q→¬ Sr rb N rvn q:=by
  rintro q hq (e|e|e)
  ·subst e;exact h0.sep.1 hq
  ·have:=h0.dlt q hq;omega
  ·have:=(hrn q e).1;have:=h0.dlt q hq;omega
 refine ⟨a4,rv1,vs1++[.iface 130 (.pointer (some ⟨N,0,none⟩))],fun q=>DN q∨q=N∨rvN.ownBlock=some q,?_,ht,fun q hq=>.inl (d1 q hq),?_,?_,?_⟩
 ·refine ⟨wkN.rdr,?_,by rw [List.length_append,List.length_append,hl1];rfl,?_,?_,⟨?_,?_,h0.sep.2.2⟩,?_,?_⟩
  ·refine hb1.keep kN ?_ ?_
   ·rintro (e|e|e)
    ·exact h0.sep.2.2 e
    ·omega
    ·have:=(hrn B e).1;omega
   ·rintro g hg (e|e|e)
    ·rcases hr1 g hg with h|h
     ·exact (h0.sepG g h).2.1 e
     ·omega
    ·rcases hr1 g hg with h|h
     ·have:=hg0 g h;omega
     ·omega
    ·exact (hrn g e).2 hg
  ·exact ((he1.keep kN hS1).mono (fun q hq=>.inl (d1 q hq))).snoc hl1 wkN.part
  ·rintro q (e|e|e)
   ·exact wkN.dlt q e
   ·omega
   ·exact (hgN q e).1
  ·rintro (e|e|e)
   ·exact wkN.sep.1 e
   ·exact wkN.sep.2.2 e.symm
   ·exact (wkN.sepG rb e).2.1 rfl
  ·rintro (e|e|e)
   ·rcases d2 B e with h|h
    ·exact h0.sep.2.1 h
    ·omega
   ·omega
   ·have:=(hgN B e).2.1;omega
  ·intro g hg
   have hlt:=hg1 g hg
   refine ⟨?_,?_,?_⟩
   ·rintro (e|e|e)
    ·rcases d2 g e with h|h
     ·rcases hr1 g hg with h'|h'
      ·exact (h0.sepG g h').1 h
      ·have:=h0.dlt g h;omega
     ·omega
    ·rcases hr1 g hg with h|h
     ·have:=hg0 g h;omega
     ·omega
    ·exact (hgN g e).2.2 hg
   ·rcases hr1 g hg with h|h
    ·exact (h0.sepG g h).2.1
    ·omega
   ·rcases hr1 g hg with h|h
    ·exact (h0.sepG g h).2.2
    ·omega
  ·intro q hq
   obtain ⟨a1,a2,a3,a4⟩:=h0.sepT q hq
   refine ⟨?_,a2,?_,by omega⟩
   ·rintro (e|e|e)
    ·rcases d2 q e with h|h
     ·exact a1 h
     ·omega
    ·omega
    ·have:=(hgN q e).2.1;omega
   ·intro e
    rcases hr1 q e with h|h
    ·exact a3 h
    ·omega
 ·rintro q (e|e|e)
  ·rcases d2 q e with h|h
   ·exact .inl h
   ·exact .inr (by omega)
  ·exact .inr (by omega)
  ·exact .inr (by have:=(hgN q e).2.1;omega)
 ·intro g hg
  rcases hr1 g hg with h|h
  ·exact .inl h
  ·exact .inr (by omega)
 ·refine Kp.trans hk1 kN (fun i hi e=>?_)
  rcases e with e|e|e
  ·exact .inl e
  ·omega
  ·have:=(hrn i e).1;omega
def Opn (w:World) (rb:Nat) (s:ByteArray) (L:List Tk) (tv:Value) (B k:Nat) (rv:Value) (ps1:List X.Part) (D:Nat→Prop) (N:Nat) (rvn:Value) (w1:World):Prop :=
 ∃ (a0 dp0:Nat) (vs:List Value) (ps:List X.Part) (rv1:Value) (vs1:List Value),Wk w rb s L tv a0 dp0 B k rv vs ps D∧Bran w1 B k rv1 (vs1++[.iface 130 (.pointer (some ⟨N,0,none⟩))])∧vs1.length=ps1.length∧Each w1 D vs1 ps1 ∧
  (∀ g,rv1.ownBlock=some g→rv.ownBlock=some g∨(w.heap.size≤g∧g≠N))∧Kp (Sr rb B rv) w w1∧w.heap.size≤N∧N<w1.heap.size∧(∀ g,rvn.ownBlock=some g→w.heap.size≤g∧rv1.ownBlock≠some g)
theorem Opn.close {w w1 w4:World} {rb:Nat} {s:ByteArray} {L:List Tk} {tv:Value} {dp B k:Nat} {rv:Value} {ps1:List X.Part} {D:Nat→Prop} {N kd:Nat} {rvn:Value} {cps:List X.Part} {ts':List X.Tok}
  (h:Opn w rb s L tv B k rv ps1 D N rvn w1) (hd:Done w1 rb s L tv dp N kd rvn cps ts' D w4):Done w rb s L tv dp B k rv (ps1++[.br kd cps]) ts' D w4:=by
 obtain ⟨a0,dp0,vs,ps,rv1,vs1,g1,g2,g3,g4,g5,g6,g7,g8,g9⟩:=h
 exact child_close g1 g2 g3 g4 g5 g6 g7 g8 g9 hd
theorem Opn.moved {w w1 w2:World} {rb:Nat} {s:ByteArray} {L:List Tk} {tv:Value} {B k:Nat} {rv:Value} {ps1:List X.Part} {D:Nat→Prop} {N:Nat} {rvn:Value} (h:Opn w rb s L tv B k rv ps1 D N rvn w1) (hk:On rb w1 w2):Opn w rb s L tv B k rv ps1 D N rvn w2:=by
 obtain ⟨a0,dp0,vs,ps,rv1,vs1,g1,g2,g3,g4,g5,g6,g7,g8,g9⟩:=h
 have hrl:=g1.rdr.raw.lt
 refine ⟨a0,dp0,vs,ps,rv1,vs1,g1,g2.keep hk g1.sep.2.2 (fun g hg e=>?_),g3,g4.keep hk (fun q hq e=>?_),g5,Kp.trans g6 hk (fun i _ e=>.inl e),g7,Nat.lt_of_lt_of_le g8 hk.size,g9⟩
 ·rcases g5 g hg with h|h
  ·exact (g1.sepG g h).2.1 e
  ·omega
 ·subst e;exact g1.sep.1 hq
set_option maxRecDepth 100000 in
set_option maxHeartbeats 4000000 in
theorem grow_any (rb:Nat) (s:ByteArray) (L:List Tk) (tv:Value) (a dp B k:Nat) (rv:Value) (vs:List Value) (ps:List X.Part) (D:Nat→Prop) (w:World) (h:Wk w rb s L tv a dp B k rv vs ps D) (hl:ps.length≤1073741824) (kd:Nat) :
  Calls Tryz.prog 139 #[.pointer (some ⟨B,0,none⟩),.int .i64 kd] w fun e w'=>e=.returned (.pointer (some ⟨w.heap.size,0,none⟩))∧Hid (Opn w rb s L tv B k rv ps D w.heap.size (.slice none 0 0) w'∧Wk w' rb s L tv a dp w.heap.size kd (.slice none 0 0) [] [] D):=by
 have HK:=hide h
 have hlv:vs.length≤1073741824:=by rw [h.len];exact hl
 have kA:Below w.heap.size w (w.alloc (Obj.cells #[.int .i64 kd,.slice none 0 0] 133)):=(Below.refl _ w).alloc (Nat.le_refl _) _
 have HKA:=hide kA
 have HWA:=hide (h.below kA)
 clear h kA
 go_enter Tryz.func139,Tryz.ntmps139
 go_wp2_with fail
 refine (add_any B k rv vs 130 (.pointer (some ⟨w.heap.size,0,none⟩)) _ (HWA.out).bra (fun g hg=>((HWA.out).sepG g hg).2.2) hlv).mono ?_
 rintro e w2 ⟨rfl,rv2,b2,o2,k2⟩
 have HR:Hid (Opn w rb s L tv B k rv ps D w.heap.size (.slice none 0 0) w2∧Wk w2 rb s L tv a dp w.heap.size kd (.slice none 0 0) [] [] D):=by
  have hbl:=(HK.out).bra.lt
  have hrl:=(HK.out).rdr.raw.lt
  have hz:=k2.size
  rw [World.size_alloc] at hz
  have hD:∀ q,D q→¬ Sb B rv q:=by
   rintro q hq (e|e)
   ·subst e;exact (HK.out).sep.2.1 hq
   ·exact ((HK.out).sepG q e).1 hq
  have hgl:∀ g,rv.ownBlock=some g→g<w.heap.size:=fun g hg=>(owns_ge (HK.out).bra.row g hg).2
  have hnew:(w.alloc (Obj.cells #[.int .i64 kd,.slice none 0 0] 133)).heap[w.heap.size]?=_:=heap_alloc_new w _
  have hnS:¬ Sb B rv w.heap.size:=by
   rintro (e|e)
   ·omega
   ·have:=hgl _ e;omega
  refine ⟨⟨a,dp,vs,ps,rv2,vs,HK.out,b2,(HK.out).len,((HWA.out).each.keep k2 hD),fun g hg=>?_,?_,Nat.le_refl _,by omega,fun g hg=>by cases hg⟩,?_⟩
  ·rcases o2 g hg with e|e
   ·exact .inl e
   ·rw [World.size_alloc] at e
    exact .inr ⟨by omega,by omega⟩
  ·exact Kp.trans (Kp.ofBelow (HKA.out) (Sr rb B rv)) k2 (fun i _ e=>.inr e)
  ·refine ⟨(HWA.out).rdr.keep k2 ?_ ?_,⟨k2.heap hnew hnS,World.ownsRow_nil _ _ _ _⟩,rfl,Each.nil _ _,fun q hq=>by have:=(HK.out).dlt q hq;omega,⟨(HK.out).sep.1,fun hd=>by have:=(HK.out).dlt _ hd;omega,by omega⟩,(fun g hg=>by cases hg),fun q hq=>?_⟩
   ·rintro (e|e)
    ·exact (HK.out).sep.2.2 e.symm
    ·exact ((HK.out).sepG rb e).2.1 rfl
   ·intro q hq e
    obtain ⟨a1,a2,a3,a4⟩:=(HK.out).sepT q hq
    rcases e with e|e
    ·exact a2 e
    ·exact a3 e
   ·obtain ⟨a1,a2,a3,a4⟩:=(HK.out).sepT q hq
    exact ⟨a1,by omega,(fun e=>by cases e),by omega⟩
 clear b2 o2 k2
 go_wp2_with fail
 go_ret
 exact ⟨rfl,HR⟩
end Go.Proofs.YtbmebfgapjhchaaGreatDoor
/- The last part of a branch goes into a new one. -/
namespace Go.Proofs.YtbmebfgapjhchaaGreatDoor
open Go.RowKit
open M
theorem IsP.iface {w:World} {D:Nat→Prop} {v:Value} {p:X.Part} (h:IsP w D v p):∃ ty x,v=.iface ty x:=by
 cases h with
 | leaf k x=>exact ⟨_,_,rfl⟩
 | miss m=>exact ⟨_,_,rfl⟩
 | br k N cap ao vs ps hN hb hc hr hp=>exact ⟨_,_,rfl⟩
 | kid N n p hn h=>exact ⟨_,_,rfl⟩
theorem Wk.last {w:World} {rb:Nat} {s:ByteArray} {L:List Tk} {tv:Value} {a dp B k:Nat} {rv:Value} {vs:List Value} {ps:List X.Part} {p:X.Part} {D:Nat→Prop} (h:Wk w rb s L tv a dp B k rv vs (ps++[p]) D) :
  ∃ vs0 ty x,vs=vs0++[.iface ty x]∧vs0.length=ps.length∧Each w D vs0 ps∧IsP w D (.iface ty x) p:=by
 have hl:=h.len
 rw [List.length_append,List.length_singleton] at hl
 obtain ⟨v,h1,h2⟩:=h.each ps.length p (by rw [List.getElem?_append_right (Nat.le_refl _),Nat.sub_self];rfl)
 obtain ⟨ty,x,rfl⟩:=h2.iface
 have e:vs=vs.take ps.length++[.iface ty x]:=by
  conv=>lhs;rw [← List.take_append_drop ps.length vs]
  congr 1
  rw [List.drop_eq_getElem_cons (by omega),List.drop_eq_nil_iff.2 (by omega)]
  congr 1
  exact Option.some.inj ((List.getElem?_eq_getElem (by omega)).symm.trans h1)
 refine ⟨vs.take ps.length,ty,x,e,by rw [List.length_take];omega,fun i q hq=>?_,h2⟩
 have hi:i<ps.length:=by
  rcases Nat.lt_or_ge i ps.length with g|g
  ·exact g
  ·rw [List.getElem?_eq_none g] at hq;cases hq
 obtain ⟨u,h3,h4⟩:=h.each i q (by rw [List.getElem?_append_left hi];exact hq)
 exact ⟨u,by rw [List.getElem?_take_of_lt hi];exact h3,h4⟩
set_option maxRecDepth 100000 in
set_option maxHeartbeats 4000000 in
theorem wrap_any (rb:Nat) (s:ByteArray) (L:List Tk) (tv:Value) (a dp B k:Nat) (rv:Value) (vs:List Value) (ps:List X.Part) (p:X.Part) (D:Nat→Prop) (w:World) (h:Wk w rb s L tv a dp B k rv vs (ps++[p]) D) (hl:ps.length+1≤1073741824) (kd:Nat) :
  Calls Tryz.prog 159 #[.pointer (some ⟨B,0,none⟩),.int .i64 kd] w fun e w'=>∃ N rvn v,e=.returned (.pointer (some ⟨N,0,none⟩))∧Hid (Opn w rb s L tv B k rv ps D N rvn w'∧Wk w' rb s L tv a dp N kd rvn [v] [p] D):=by
 have HK:=hide h
 obtain ⟨vs0,ty,x,rfl,hl0,he0,hp0⟩:=h.last
 obtain ⟨⟨c0,c1⟩,f0,f1⟩:=h.bra.facts
 obtain ⟨g,cap,rfl,-,hgl⟩:=h.bra.row.form (by simp)
 have hlen:(vs0++[Value.iface ty x]).length=ps.length+1:=by simp [hl0]
 rw [hlen] at c1
 have x1:w.cell? ⟨g,ps.length,none⟩=some (.iface ty x):=by
  have:=h.bra.row.cells (g:=g) rfl ps.length (.iface ty x) (by rw [List.getElem?_append_right (by omega),hl0,Nat.sub_self];rfl)
  rwa [Addr.add_lit,Nat.zero_add] at this
 have x2:w.frozen? ⟨g,ps.length,none⟩=false:=h.bra.row.frozenAt _
 have HE0:=hide he0
 have HP0:=hide hp0
 have hbl:=h.bra.lt
 have hgB:=(h.sepG g rfl).2.2
 clear h he0 hp0
 go_enter Tryz.func159,Tryz.ntmps159
 go_wp2_with fail
 go_ret
 refine ⟨w.heap.size+1,.slice (some ⟨w.heap.size,0,none⟩) 1 1,.iface ty x,rfl,?_⟩
 have h:=HK.out
 have hrl:=h.rdr.raw.lt
 have k0:Kp (fun q=>q=g) w (w.setCell ⟨g,ps.length,none⟩ (.iface 130 (.pointer (some ⟨w.heap.size+1,0,none⟩)))):=Kp.setCell (Kp.refl (fun q=>q=g) w) (p:=⟨g,ps.length,none⟩) (fun _=>rfl) _
 have hset:=(h.bra.row.stored ps.length (.iface 130 (.pointer (some ⟨w.heap.size+1,0,none⟩)))).1
 have hse:(vs0++[Value.iface ty x]).set ps.length (.iface 130 (.pointer (some ⟨w.heap.size+1,0,none⟩)))=vs0++[.iface 130 (.pointer (some ⟨w.heap.size+1,0,none⟩))]:=by
  rw [List.set_append_right _ _ (by omega),hl0,Nat.sub_self];rfl
 rw [hse] at hset
 have hs0:(w.setCell ⟨g,ps.length,none⟩ (.iface 130 (.pointer (some ⟨w.heap.size+1,0,none⟩)))).heap.size=w.heap.size:=by simp
 generalize w.setCell ⟨g,ps.length,none⟩ (.iface 130 (.pointer (some ⟨w.heap.size+1,0,none⟩)))=W0 at *
 have k2:Kp (fun q=>q=g) w ((W0.alloc (Obj.cells #[Value.iface ty x] 193)).alloc (Obj.cells #[Value.int IntKind.i64 kd,Value.slice (some ⟨w.heap.size,0,none⟩) 1 1] 133)):=Kp.alloc (Kp.alloc k0 _) _
 have hr1:((W0.alloc (Obj.cells #[Value.iface ty x] 193)).alloc (Obj.cells #[Value.int IntKind.i64 kd,Value.slice (some ⟨w.heap.size,0,none⟩) 1 1] 133)).heap[w.heap.size]?=some (.cells #[.iface ty x] 193 (0,0)):=by
  rw [← hs0]
  exact (heap_alloc_old (W0.alloc _) _ (show W0.heap.size<_ by simp)).trans (heap_alloc_new W0 _)
 have hr2:((W0.alloc (Obj.cells #[Value.iface ty x] 193)).alloc (Obj.cells #[Value.int IntKind.i64 kd,Value.slice (some ⟨w.heap.size,0,none⟩) 1 1] 133)).heap[w.heap.size+1]?=some (.cells #[.int .i64 kd,.slice (some ⟨w.heap.size,0,none⟩) 1 1] 133 (0,0)):=by
  have:=heap_alloc_new (W0.alloc (Obj.cells #[Value.iface ty x] 193)) (Obj.cells #[Value.int IntKind.i64 kd,Value.slice (some ⟨w.heap.size,0,none⟩) 1 1] 133)
  rwa [World.size_alloc,hs0] at this
 have hown:=(hset.alloc (Obj.cells #[Value.iface ty x] 193)).alloc (Obj.cells #[Value.int IntKind.i64 kd,Value.slice (some ⟨w.heap.size,0,none⟩) 1 1] 133)
 have hsz:((W0.alloc (Obj.cells #[Value.iface ty x] 193)).alloc (Obj.cells #[Value.int IntKind.i64 kd,Value.slice (some ⟨w.heap.size,0,none⟩) 1 1] 133)).heap.size=w.heap.size+2:=by simp [hs0]
 generalize (W0.alloc (Obj.cells #[Value.iface ty x] 193)).alloc (Obj.cells #[Value.int IntKind.i64 kd,Value.slice (some ⟨w.heap.size,0,none⟩) 1 1] 133)=W at *
 have hDg:∀ q,D q→¬(q=g):=fun q hq e=>(h.sepG g rfl).1 (e ▸ hq)
 refine ⟨⟨a,dp,_,_,_,vs0,h,⟨k2.heap h.bra.blk (fun e=>hgB e.symm),?_⟩,hl0,(HE0.out).keep k2 hDg,fun q hq=>.inl hq,Kp.mono k2 (fun i _ e=>.inr (.inr (by rw [e];rfl))),by omega,by omega,fun q hq=>?_⟩,?_⟩
 ·have e:(vs0++[Value.iface 130 (.pointer (some ⟨w.heap.size+1,0,none⟩))]).length=(vs0++[Value.iface ty x]).length:=by simp
  rw [e];exact hown
 ·simp only [Value.ownBlock,Option.some.injEq] at hq ⊢
  subst hq
  exact ⟨Nat.le_refl _,fun e=>by have e2:g=w.heap.size:=Option.some.inj e;omega⟩
 ·refine ⟨h.rdr.keep k2 (fun e=>(h.sepG g rfl).2.1 e.symm) (fun q hq e=>(h.sepT q hq).2.2.1 (by rw [e];rfl)),⟨hr2,⟨by simp,.inr ⟨w.heap.size,1,#[.iface ty x],rfl,Nat.zero_le _,hr1,Nat.le_refl _,by unfold maxLen;omega,rfl,rfl⟩⟩⟩,rfl,?_,fun q hq=>by have:=h.dlt q hq;omega,⟨h.sep.1,fun hd=>by have:=h.dlt _ hd;omega,by omega⟩,fun q hq=>?_,fun q hq=>?_⟩
  ·have:=(Each.nil W D).snoc rfl ((HP0.out).keep k2 hDg)
   exact this
  ·simp only [Value.ownBlock,Option.some.injEq] at hq
   subst hq
   exact ⟨fun hd=>by have:=h.dlt _ hd;omega,by omega,by omega⟩
  ·obtain ⟨a1,a2,a3,a4⟩:=h.sepT q hq
   exact ⟨a1,by omega,(fun e=>by simp only [Value.ownBlock,Option.some.injEq] at e;omega),by omega⟩
end Go.Proofs.YtbmebfgapjhchaaGreatDoor
/- One level deeper. -/
namespace Go.Proofs.YtbmebfgapjhchaaGreatDoor
open Go.RowKit
open M
theorem RdrT.deep {w:World} {rb:Nat} {s:ByteArray} {L:List Tk} {tv:Value} {a dp:Nat} (h:RdrT w rb s L tv a dp) (d2:Nat):RdrT (w.setCell ⟨rb,6,none⟩ (.int .i64 d2)) rb s L tv a d2 :=
 ⟨h.raw.set6 _,h.row.keep (On.set (Kp.refl _ w) 6 _) (fun k hk e=>h.own k hk e),h.le,h.own⟩
theorem Done.deep {w w4:World} {rb:Nat} {s:ByteArray} {L:List Tk} {tv:Value} {dp B k:Nat} {rv:Value} {ps:List X.Part} {ts:List X.Tok} {D:Nat→Prop} (h:Done w rb s L tv dp B k rv ps ts D w4) (d2:Nat):Done w rb s L tv d2 B k rv ps ts D (w4.setCell ⟨rb,6,none⟩ (.int .i64 d2)):=by
 obtain ⟨a',rv',vs',D',h1,h2,h3,h4,h5,h6⟩:=h
 have hOn:On rb w4 (w4.setCell ⟨rb,6,none⟩ (.int .i64 d2)):=On.set (Kp.refl _ w4) 6 _
 exact ⟨a',rv',vs',D',h1.moved hOn (h1.rdr.deep d2),h2,h3,h4,h5,Kp.trans h6 hOn (fun i _ e=>.inl e)⟩
theorem Done.then {w w1:World} {rb:Nat} {s:ByteArray} {L:List Tk} {tv:Value} {dp B k:Nat} {rv:Value} {ps1:List X.Part} {ts1:List X.Tok} {D:Nat→Prop} {fn:FuncId} {F:X.R} {ok:List X.Tok→Prop} {Q:Ending→World→Prop}
  (h:Done w rb s L tv dp B k rv ps1 ts1 D w1) (hF:Reads fn F ok s L dp) (hok:ok ts1) (hl:ps1.length+(F ts1).1.length≤1073741824)
  (hQ:∀ w2,Hid (Done w rb s L tv dp B k rv (ps1++(F ts1).1) (F ts1).2 D w2)→Q (.returned (.tuple #[])) w2) :
  Calls Tryz.prog fn #[.pointer (some ⟨rb,0,none⟩),.pointer (some ⟨B,0,none⟩)] w1 Q:=by
 obtain ⟨a1,rv1,vs1,D1,g1,rfl,g3,g4,g5,g6⟩:=h
 refine (hF rb tv a1 B k rv1 vs1 ps1 D1 w1 g1 hok hl).mono ?_
 rintro e w2 ⟨rfl,H2⟩
 exact hQ w2 (Done.trans g3 g4 g5 g6 H2.out)
set_option maxRecDepth 100000 in
set_option maxHeartbeats 4000000 in
theorem nest_any (s:ByteArray) (L:List Tk) (dp:Nat) (hS:TokS s L) (hdp:dp≤1000) (fn:FuncId) (hen:∀ args w,(callFunc fn args).run Tryz.prog w=.ok (.enter fn args) w) (I:X.R) (hI:Reads fn I (fun _=>True) s L (dp+1))
  (rb:Nat) (tv:Value) (a B k:Nat) (rv:Value) (vs:List Value) (ps:List X.Part) (D:Nat→Prop) (w:World) (h:Wk w rb s L tv a dp B k rv vs ps D) (hn:X.nxt (remT s L a)≠none) (kd:Nat) (hl:ps.length+1≤1073741824) (hl2:(X.andThen X.take I (remT s L a)).1.length≤1073741824) :
  Calls Tryz.prog 142 #[.pointer (some ⟨rb,0,none⟩),.pointer (some ⟨B,0,none⟩),.int .i64 kd,.func (.func fn) #[.pointer (some ⟨rb,0,none⟩)] #[]] w fun en w'=>en=.returned (.tuple #[])∧Hid (Done w rb s L tv dp B k rv (ps++(X.node kd (X.andThen X.take I) (remT s L a)).1) (X.node kd (X.andThen X.take I) (remT s L a)).2 D w'):=by
 have hlA:(X.take (remT s L a)).1.length+(I (X.take (remT s L a)).2).1.length≤1073741824:=by
  have:(X.andThen X.take I (remT s L a)).1.length=(X.take (remT s L a)).1.length+(I (X.take (remT s L a)).2).1.length:=by simp [X.andThen]
  omega
 clear hl2
 have HH:=hide h
 clear h
 go_enter Tryz.func142,Tryz.ntmps142
 go_wp2_with fail
 refine (grow_any rb s L tv a dp B k rv vs ps D w HH.out (by omega) kd).mono ?_
 rintro e w1 ⟨rfl,H1⟩
 obtain ⟨⟨c0,c1,c2,c3,c4,c5,c6⟩,f0,f1,f2,f3,f4,f5,f6⟩:=(H1.out).2.rdr.raw.facts
 go_wp2_with fail
 have hOn:On rb w1 (w1.setCell ⟨rb,6,none⟩ (.int .i64 ((dp:Int)+1))):=On.set (Kp.refl _ w1) 6 _
 have HO2:=hide ((H1.out).1.moved hOn)
 have HW2:Hid (Wk (w1.setCell ⟨rb,6,none⟩ (.int .i64 ((dp:Int)+1))) rb s L tv a (dp+1) w.heap.size kd (.slice none 0 0) [] [] D):=(H1.out).2.moved hOn (by have:=(H1.out).2.rdr.deep (dp+1);rw [Int.natCast_add] at this;exact this)
 clear c0 c1 c2 c3 c4 c5 c6 f0 f1 f2 f3 f4 f5 f6 hOn H1
 generalize w1.setCell ⟨rb,6,none⟩ (.int .i64 ((dp:Int)+1))=W2 at *
 refine (take_any s L (dp+1) hS rb tv a w.heap.size kd (.slice none 0 0) [] [] D W2 HW2.out hn (by simp;omega)).mono ?_
 rintro e w3 ⟨rfl,H3⟩
 rw [List.nil_append] at H3
 go_wp2_with fail
 refine Done.then (H3.out) hI trivial (by omega) ?_
 intro w4 H4
 have HD:Hid (∃ a4:Nat,RawT w4 rb s tv a4 (nxI L a4) (X.kindN (remT s L a4)) (ba (X.wordN (remT s L a4))) ((dp+1:Nat):Int)):=by
  obtain ⟨a4,_,_,_,g1,_⟩:=H4.out
  exact ⟨a4,g1.rdr.raw⟩
 obtain ⟨a4,hraw⟩:=HD.out
 obtain ⟨⟨c0,c1,c2,c3,c4,c5,c6⟩,f0,f1,f2,f3,f4,f5,f6⟩:=hraw.facts
 rw [Int.natCast_add] at c6
 have HC:Hid (Done w rb s L tv dp B k rv (ps++(X.node kd (X.andThen X.take I) (remT s L a)).1) (X.node kd (X.andThen X.take I) (remT s L a)).2 D (w4.setCell ⟨rb,6,none⟩ (.int .i64 dp))):=(HO2.out).close (H4.out.deep dp)
 clear H4 H3 HD hraw HO2 HW2
 go_wp2_with fail
 go_end0
 exact ⟨rfl,by simpa using HC⟩
end Go.Proofs.YtbmebfgapjhchaaGreatDoor
/- Steps of a reader,one behind the other. -/
namespace Go.Proofs.YtbmebfgapjhchaaGreatDoor
open Go.RowKit
open M
def strA (ss:List (List UInt8)):Array Value:=(ss.map (fun x=>Value.string (ba x))).toArray
theorem strRow_all (w:World) (ss:List (List UInt8)) (hl:ss.length≤1073741824):StrRow (w.alloc (Obj.cells (strA ss) 9)) w.heap.size ss:=by
 refine ⟨fun i z hz=>?_,hl⟩
 rw [cell_of_row _ _ i _ _ _ (heap_alloc_new w _)]
 unfold strA
 simp [hz]
theorem Done.isNext {w w1:World} {rb:Nat} {s:ByteArray} {L:List Tk} {tv:Value} {dp B k:Nat} {rv:Value} {ps1:List X.Part} {ts1:List X.Tok} {D:Nat→Prop} {Q:Ending→World→Prop}
  (h:Done w rb s L tv dp B k rv ps1 ts1 D w1) (ss:List (List UInt8)) (hl:ss.length≤1073741824)
  (hQ:∀ w2,Hid (Done w rb s L tv dp B k rv ps1 ts1 D w2)→Q (.returned (.bool (ss.any (fun x=>X.pN x ts1)))) w2) :
  Calls Tryz.prog 101 #[.pointer (some ⟨rb,0,none⟩),.slice (some ⟨w1.heap.size,0,none⟩) ss.length ss.length] (w1.alloc (Obj.cells (strA ss) 9)) Q:=by
 obtain ⟨a1,rv1,vs1,D1,g1,rfl,g3,g4,g5,g6⟩:=h
 have kA:Below w1.heap.size w1 (w1.alloc (Obj.cells (strA ss) 9)):=(Below.refl _ w1).alloc (Nat.le_refl _) _
 refine (isNext_any rb s L tv a1 dp _ (g1.below kA).rdr w1.heap.size ss (strRow_all w1 ss hl)).mono ?_
 rintro e w2 ⟨rfl,k2⟩
 have hk:Below w1.heap.size w1 w2:=kA.trans (k2.mono (by simp))
 exact hQ w2 ⟨a1,rv1,vs1,D1,g1.below hk,rfl,g3,g4,g5,Kp.trans g6 (Kp.ofBelow hk (fun _=>False)) (fun _ _ h=>h.elim)⟩
theorem Done.want {w w1:World} {rb:Nat} {s:ByteArray} {L:List Tk} {tv:Value} {dp B k:Nat} {rv:Value} {ps1:List X.Part} {ts1:List X.Tok} {D:Nat→Prop} {Q:Ending→World→Prop}
  (h:Done w rb s L tv dp B k rv ps1 ts1 D w1) (hS:TokS s L) (ss:List (List UInt8)) (hx:∀ x∈ss,x≠[]) (hl1:ss.length≤1073741824) (hl:ps1.length+(X.wantsP ss ts1).1.length≤1073741824)
  (hQ:∀ w2,Hid (Done w rb s L tv dp B k rv (ps1++(X.wantsP ss ts1).1) (X.wantsP ss ts1).2 D w2)→Q (.returned (.tuple #[])) w2) :
  Calls Tryz.prog 129 #[.pointer (some ⟨rb,0,none⟩),.pointer (some ⟨B,0,none⟩),.slice (some ⟨w1.heap.size,0,none⟩) ss.length ss.length] (w1.alloc (Obj.cells (strA ss) 9)) Q:=by
 obtain ⟨a1,rv1,vs1,D1,g1,rfl,g3,g4,g5,g6⟩:=h
 have kA:Below w1.heap.size w1 (w1.alloc (Obj.cells (strA ss) 9)):=(Below.refl _ w1).alloc (Nat.le_refl _) _
 have hbl:=g1.bra.lt
 have hrl:=g1.rdr.raw.lt
 refine (want_any s L dp hS rb tv a1 B k rv1 vs1 ps1 D1 _ (g1.below kA) w1.heap.size ss (strRow_all w1 ss hl1) hx ⟨by omega,by omega,fun e=>by have:=(owns_ge g1.bra.row _ e).2;omega,by simp⟩ hl).mono ?_
 rintro e w2 ⟨rfl,H2⟩
 refine hQ w2 (Done.trans g3 g4 g5 (Kp.trans g6 (Kp.ofBelow kA (fun _=>False)) (fun _ _ h=>h.elim)) ?_)
 obtain ⟨a2,rv2,vs2,D2,f1,f2,f3,f4,f5,f6⟩:=H2.out
 refine ⟨a2,rv2,vs2,D2,f1,f2,f3,fun q hq=>?_,fun g hg=>?_,f6⟩
 ·exact f4 q hq
 ·exact f5 g hg
theorem Done.start {w:World} {rb:Nat} {s:ByteArray} {L:List Tk} {tv:Value} {a dp B k:Nat} {rv:Value} {vs:List Value} {ps:List X.Part} {D:Nat→Prop} (h:Wk w rb s L tv a dp B k rv vs ps D):Hid (Done w rb s L tv dp B k rv ps (remT s L a) D w):=Done.refl h
theorem Done.good {w w1:World} {rb:Nat} {s:ByteArray} {L:List Tk} {tv:Value} {dp B k:Nat} {rv:Value} {ps1:List X.Part} {ts1:List X.Tok} {D:Nat→Prop} (h:Done w rb s L tv dp B k rv ps1 ts1 D w1) (hS:TokS s L):X.Good ts1:=by
 obtain ⟨a1,rv1,vs1,D1,g1,rfl,-⟩:=h
 exact hS.rem a1
end Go.Proofs.YtbmebfgapjhchaaGreatDoor
