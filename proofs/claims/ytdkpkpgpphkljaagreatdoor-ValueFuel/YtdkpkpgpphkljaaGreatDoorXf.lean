/- Parts of a tree in memory. -/
import Derived.Test.YtdkpkpgpphkljaaGreatDoorTa
namespace Go.Proofs.YtdkpkpgpphkljaaGreatDoor
set_option maxRecDepth 100000
set_option maxHeartbeats 4000000
open M
section
open Tryz
open Go.RowKit
variable{w w':World}{D S:Nat→Prop}{v rv:Value}{p:X.Part}{vs:List Value}{B k:Nat}
inductive uq(w:World)(D:Nat→Prop):Value→X.Part→Prop
 | leaf (k:Nat) (x:ah):uq w D (.iface 222 (.agg #[.int .i64 k,.int .i64 x.length])) (.leaf k x)
 | miss (m:ah):uq w D (.iface 326 (.string (ba m))) (.miss m)
 | br (k N cap:Nat) (ao:Option Addr) (vs:Nat→Value) (ps:List X.Part) (hN:D N)
   (hb:w.heap[N]?=some (.cells #[.int .i64 k,.slice ao ps.length cap] 129 (0,0))) (hc:ps.length≤cap∧cap≤maxLen)
   (hr:∀ i,i<ps.length→∃ g,ao=some ⟨g,0,none⟩∧D g∧w.cell? ⟨g,i,none⟩=some (vs i))
   (hp:∀(i:Nat) (p:X.Part),ps[i]?=some p→uq w D (vs i) p):uq w D (.iface 126 (.pointer (some ⟨N,0,none⟩))) (.br k ps)
 | kid (N n:Nat) (p:X.Part) (hn:n=(X.pl p).length) (h:uq w D (.iface 126 (.pointer (some ⟨N,0,none⟩))) p):uq w D (.iface 134 (.agg #[.pointer (some ⟨N,0,none⟩),.int .i64 n])) p
theorem uq.mono{D':Nat→Prop}(hD:∀ q,D q→D' q)(h:uq w D v p):uq w D' v p:=by
 induction h with
 | leaf k x=>exact .leaf k x
 | miss m=>exact .miss m
 | br k N cap ao vs ps hN hb hc hr hp ih =>
  exact .br k N cap ao vs ps (hD _ hN) hb hc (fun i hi=>by obtain⟨g,h1,h2,h3⟩:=hr i hi;exact⟨g,h1,hD _ h2,h3⟩) ih
 | kid N n p hn h ih=>exact .kid N n p hn ih
theorem uq.keep(hk:Kp S w w')(hD:∀ q,D q→¬ S q)(h:uq w D v p):uq w' D v p:=by
 induction h with
 | leaf k x=>exact .leaf k x
 | miss m=>exact .miss m
 | br k N cap ao vs ps hN hb hc hr hp ih =>
  exact .br k N cap ao vs ps hN (hk.heap hb (hD _ hN)) hc (fun i hi=>by obtain⟨g,h1,h2,h3⟩:=hr i hi;exact⟨g,h1,h2,hk.dY h3 (hD _ h2)⟩) ih
 | kid N n p hn h ih=>exact .kid N n p hn ih
def Each(w:World)(D:Nat→Prop)(vs:List Value)(ps:List X.Part):Prop:=∀(i:Nat) (p:X.Part),ps[i]?=some p→∃ v,vs[i]?=some v∧uq w D v p
theorem Each.mono{w:World}{D D':Nat→Prop}(hD:∀ q,D q→D' q){vs:List Value}{ps:List X.Part}(h:Each w D vs ps):Each w D' vs ps :=
 fun i p hp=>by obtain⟨v,h1,h2⟩:=h i p hp;exact⟨v,h1,h2.mono hD⟩
theorem Each.keep{S:Nat→Prop}{w w':World}{D:Nat→Prop}(hk:Kp S w w')(hD:∀ q,D q→¬ S q){vs:List Value}{ps:List X.Part}(h:Each w D vs ps):Each w' D vs ps :=
 fun i p hp=>by obtain⟨v,h1,h2⟩:=h i p hp;exact⟨v,h1,h2.keep hk hD⟩
theorem Each.nil(w:World)(D:Nat→Prop):Each w D [] []:=fun i p hp=>by simp at hp
theorem Each.snoc{ps:List X.Part}(h:Each w D vs ps)(hl:vs.length=ps.length)(hp:uq w D v p):Each w D (vs++[v]) (ps++[p]):=by
 intro i q hq;by_cases hi:i<ps.length
 ·rw[aU hi] at hq
  obtain⟨u,h1,h2⟩:=h i q hq;exact⟨u,by rw[aU (by omega)];exact h1,h2⟩
 ·rw[aQ (by omega)] at hq
  have h0:i - ps.length=0:=by
   rcases gF (i - ps.length) with g|g
   ·exact g
   ·rw[aO (by simp;omega)] at hq;cases hq
  rw[h0] at hq;obtain rfl:p=q:=by simpa using hq
  exact⟨v,by rw[aQ (by omega),hl,h0];rfl,hp⟩
structure xO(w:World)(B:Nat)(k:Nat)(rv:Value)(vs:List Value):Prop where
 blk:w.heap[B]?=some (.cells #[.int .i64 k,rv] 129 (0,0))
 row:w.ownsRow 0 177 1 rv vs.length vs
theorem xO.lt(h:xO w B k rv vs):B<w.heap.size:=aP h.blk
theorem xO.keep(h:xO w B k rv vs)(hk:Kp S w w')(hB:¬ S B)(hg:∀ g,rv.ownBlock=some g→¬ S g):xO w' B k rv vs :=
 ⟨hk.heap h.blk hB,hk.owns h.row hg⟩
theorem xO.facts(h:xO w B k rv vs) :
  (w.cell? ⟨B,0,none⟩=some (.int .i64 k)∧w.cell? ⟨B,1,none⟩=some rv)∧(w.frozen? ⟨B,0,none⟩=false∧w.frozen? ⟨B,1,none⟩=false):=by
 have h:=h.blk;refine⟨⟨?_,?_⟩,?_,?_⟩<;>simp[World.cell?,World.frozen?,h]
theorem aQ0:(prog.info? 177).map (fun i=>(i.zero,i.size,i.bytes))=some (some .nilIface,1,16):=by kernel_rfl
def Sb(B:Nat)(rv:Value)(q:Nat):Prop:=q=B∨rv.ownBlock=some q
theorem wh(B k:Nat)(rv:Value)(vs:List Value)(ty:TypeId)(x:Value)(w:World)(h:xO w B k rv vs)(hg:∀ g,rv.ownBlock=some g→g≠B)(hl:vs.length≤1073741824) :
  Calls prog 34 #[.pointer (some ⟨B,0,none⟩),.iface ty x] w fun e w'=>e=.returned (.tuple #[])∧∃ rv',xO w' B k rv' (vs++[.iface ty x])∧(∀ g,rv'.ownBlock=some g→rv.ownBlock=some g∨w.heap.size≤g)∧Kp (Sb B rv) w w':=by
 obtain⟨i0,hi0,hz0,hz1,hz2⟩:=gB aQ0;obtain⟨⟨c0,c1⟩,f0,f1⟩:=h.facts;have HB:=au h;have hbl:=h.lt;have HG:=au hg;clear h hg;go_enter func34,ntmps34;go_wp2_with (at_builtin;refine wpList_append_lies _ rfl _ _ 127 rfl 0 177 i0 _ 1 16 underlying127 hi0 hz0 hz1 hz2 rfl (by decide) rv vs.length _ rfl ((HB.o).row.alloc _) ⟨w.heap.size,0,none⟩ 1 1 [.iface ty x] rfl rfl (World.news_of_block (cs:=#[.iface ty x]) (aB w _)) (by simp[Value.oneCell']) (by omega) (by unfold maxLen;omega) (by omega) (aX _) (w.heap.size+1) (by simp) ?_;intro g cap5 w5 hown5 cB nW A9;have x1:w5.cell? ⟨B,1,none⟩=some rv:=(cB.cell_far ⟨B,1,none⟩ (by simp;omega) (fun e=>(HG.o) B e.symm rfl)).trans (Lib.cell?_alloc_some _ c1);have x2:w5.frozen? ⟨B,1,none⟩=false:=(cB.frozen_far ⟨B,1,none⟩ (by simp;omega) (fun e=>(HG.o) B e.symm rfl)).trans ((bN _ _ ⟨B,1,none⟩ (uS hbl)).trans f1);have Bp:=au hown5;have tZ:=au cB;clear hown5 cB)
 go_end0;have hk1:Kp (Sb B rv) w w5:=Kp.grown (Kp.alloc (Kp.refl _ w) _) tZ.o (fun k e _=>.inr e);have hk:Kp (Sb B rv) w (w5.setCell ⟨B,1,none⟩ (.slice (some ⟨g,0,none⟩) (vs.length+1) cap5)):=Kp.setCell hk1 (p:=⟨B,1,none⟩) (fun _=>.inl rfl) _;have hgB:g≠B:=by
  rcases nW with e|e
  ·exact(HG.o) g e
  ·omega
 refine⟨rfl,.slice (some ⟨g,0,none⟩) (vs.length+1) cap5,⟨?_,?_⟩,?_,hk⟩
 ·have h5:w5.heap[B]?=some (.cells #[.int .i64 k,rv] 129 (0,0)):=(tZ.o).block B (by simp;omega) (fun e=>(HG.o) B e.symm rfl) |>.trans ((dN w _ hbl).trans (HB.o).blk)
  simp[World.setCell,aK,h5]
 ·rw[ak]
  exact bV Bp.o (by simp[Value.ownBlock];omega) _
 ·intro q hq
  simp only[Value.ownBlock,eH] at hq;subst hq;rcases nW with e|e
  ·exact .inl e
  ·exact .inr (by omega)
end
section
open Tryz
open Go.RowKit
variable{w w':World}{rb dp B k a e:Nat}{s:ByteArray}{L:List Tk}{tv rv:Value}{vs:List Value}{D:Nat→Prop}{ps:List X.Part}
structure Wk(w:World)(rb:Nat)(s:ByteArray)(L:List Tk)(tv:Value)(a dp B k:Nat)(rv:Value)(vs:List Value)(ps:List X.Part)(D:Nat→Prop):Prop where
 iF:pX w rb s L tv a dp
 r_:xO w B k rv vs
 len:vs.length=ps.length
 each:Each w D vs ps
 G5:∀ q,D q→q<w.heap.size
 sep:¬ D rb∧¬ D B∧B≠rb
 nD:∀ g,rv.ownBlock=some g→¬ D g∧g≠rb∧g≠B
 uw:∀ q,tv.ownBlock=some q→¬ D q∧q≠B∧rv.ownBlock≠some q∧q<w.heap.size
def Sr(rb B:Nat)(rv:Value)(q:Nat):Prop:=q=rb∨Sb B rv q
def bf(w:World)(rb:Nat)(s:ByteArray)(L:List Tk)(tv:Value)(dp B k:Nat)(rv:Value)(ps':List X.Part)(ts':List X.Tok)(D:Nat→Prop)(w':World):Prop :=
 ∃ a' rv' vs' D',Wk w' rb s L tv a' dp B k rv' vs' ps' D'∧bn s L a'=ts'∧(∀ q,D q→D' q)∧(∀ q,D' q→D q∨w.heap.size≤q)∧(∀ g,rv'.ownBlock=some g→rv.ownBlock=some g∨w.heap.size≤g)∧Kp (Sr rb B rv) w w'
def G6(w:World)(rb:Nat)(s:ByteArray)(L:List Tk)(tv:Value)(dp B k:Nat)(rv:Value)(vs:List Value)(ps':List X.Part)(ts':List X.Tok)(D:Nat→Prop)(w':World):Prop :=
 ∃ a' rv' us,Wk w' rb s L tv a' dp B k rv' (vs++us) ps' D∧bn s L a'=ts'∧(∀ g,rv'.ownBlock=some g→rv.ownBlock=some g∨w.heap.size≤g)∧Kp (Sr rb B rv) w w'
theorem G6.done{ps':List X.Part}{ts':List X.Tok}(h:G6 w rb s L tv dp B k rv vs ps' ts' D w'):bf w rb s L tv dp B k rv ps' ts' D w':=by
 obtain⟨a',rv',us,h1,h2,h3,h4⟩:=h;exact⟨a',rv',_,D,h1,h2,fun _=>id,fun _=>.inl,h3,h4⟩
theorem Wk.keep{S:Nat→Prop}{w w':World}{rb:Nat}{s:ByteArray}{L:List Tk}{tv:Value}{a dp B k:Nat}{rv:Value}{vs:List Value}{ps:List X.Part}{D:Nat→Prop}(h:Wk w rb s L tv a dp B k rv vs ps D)(hk:Kp S w w')
  (h1:¬ S rb) (h2:¬ S B) (h3:∀ g,rv.ownBlock=some g→¬ S g) (h4:∀ q,D q→¬ S q) (h5:∀ q,tv.ownBlock=some q→¬ S q):Wk w' rb s L tv a dp B k rv vs ps D :=
 ⟨h.iF.keep hk h1 h5,h.r_.keep hk h2 h3,h.len,h.each.keep hk h4,fun q hq=>aH (h.G5 q hq) hk.size,h.sep,h.nD,fun q hq=>by obtain⟨a1,a2,a3,a4⟩:=h.uw q hq;exact⟨a1,a2,a3,aH a4 hk.size⟩⟩
theorem Wk.below(h:Wk w rb s L tv a dp B k rv vs ps D)(hk:Below w.heap.size w w'):Wk w' rb s L tv a dp B k rv vs ps D :=
 h.keep (Kp.aI hk (fun _=>False)) id id (fun _ _=>id) (fun _ _=>id) (fun _ _=>id)
theorem Wk.added{rv' v:Value}{p:X.Part}(h:Wk w rb s L tv a dp B k rv vs ps D)
  (hb:xO w' B k rv' (vs++[v])) (hr:∀ g,rv'.ownBlock=some g→rv.ownBlock=some g∨w.heap.size≤g) (hk:Kp (Sb B rv) w w') (hp:uq w' D v p):Wk w' rb s L tv a dp B k rv' (vs++[v]) (ps++[p]) D:=by
 have hD:∀ q,D q→¬ Sb B rv q:=by
  intro q hq e;rcases e with rfl|e
  ·exact h.sep.2.1 hq
  ·exact(h.nD q e).1 hq
 have hbl:=h.r_.lt;have hrl:=h.iF.raw.lt;refine⟨h.iF.keep hk ?_ ?_,hb,by rw[ak,ak,h.len];rfl,(h.each.keep hk hD).snoc h.len hp,fun q hq=>aH (h.G5 q hq) hk.size,h.sep,?_,?_⟩
 ·rintro(e|e)
  ·exact h.sep.2.2 e.symm
  ·exact(h.nD rb e).2.1 rfl
 ·intro q hq e
  obtain⟨a1,a2,a3,a4⟩:=h.uw q hq;rcases e with e|e
  ·exact a2 e
  ·exact a3 e
 ·intro g hg
  rcases hr g hg with e|e
  ·exact h.nD g e
  ·exact⟨fun hd=>by have:=h.G5 g hd;omega,by omega,by omega⟩
 ·intro q hq
  obtain⟨a1,a2,a3,a4⟩:=h.uw q hq;refine⟨a1,a2,fun e=>?_,aH a4 hk.size⟩;rcases hr q e with e|e
  ·exact a3 e
  ·omega
theorem Wk.moved(h:Wk w rb s L tv a dp B k rv vs ps D)(hk:On rb w w'){a' ZC:Nat}(hr:pX w' rb s L tv a' ZC):Wk w' rb s L tv a' ZC B k rv vs ps D:=by
 refine⟨hr,h.r_.keep hk h.sep.2.2 (fun g hg e=>(h.nD g hg).2.1 e),h.len,h.each.keep hk (fun q hq e=>?_),fun q hq=>aH (h.G5 q hq) hk.size,h.sep,h.nD,fun q hq=>?_⟩
 ·subst e;exact h.sep.1 hq
 ·obtain⟨a1,a2,a3,a4⟩:=h.uw q hq
  exact⟨a1,a2,a3,aH a4 hk.size⟩
structure NA(w:World)(rb:Nat)(s:ByteArray)(L:List Tk)(tv:Value)(a dp B k:Nat)(rv:Value)(vs:List Value)(ps:List X.Part)(D:Nat→Prop)(j:Nat)(VY:Value)(TV:List Value)(wr:World):Prop where
 wk:Wk wr rb s L tv a dp B k VY TV (ps++((L.drop a).take j).map (fun t=>X.lf (X.CW (bs s) t))) D
 own:∀ g,VY.ownBlock=some g→rv.ownBlock=some g∨w.heap.size≤g
 kp:Kp (Sb B rv) w wr
 pre:∃ us,TV=vs++us
theorem NA.done{wr:World}{j:Nat}{VY:Value}{TV:List Value}(h:NA w rb s L tv a dp B k rv vs ps D j VY TV wr)(hj:j=e - a)(hr:pX w' rb s L tv e dp)(hk:On rb wr w') :
  G6 w rb s L tv dp B k rv vs (ps++((L.drop a).take (e - a)).map (fun t=>X.lf (X.CW (bs s) t))) (bn s L e) D w':=by
 subst hj;obtain⟨us,rfl⟩:=h.pre;refine⟨e,VY,us,h.wk.moved hk hr,rfl,h.own,?_⟩;refine Kp.trans (Kp.mono h.kp (fun i _ e=>.inr e)) hk (fun i hi e=>.inl e)
theorem yJ.cut{ao:Option Addr}{n cap:Nat}(h:yJ w (.slice ao n cap) L)(h1:a≤e)(h2:e≤L.length):yJ w (.slice (ao.map (fun x=>x.add (a*3))) (e - a) (cap - a)) ((L.drop a).take (e - a)):=by
 obtain⟨ao',cap',e',g1,g2,g3⟩:=h;injection e' with e1 e2 e3;subst e1;subst e3;have hl:((L.drop a).take (e - a)).length=e - a:=by rw[bL,bM];omega
 refine⟨_,cap - a,by rw[hl],by rw[hl];omega,by omega,fun i hi=>?_⟩;rw[hl] at hi;obtain⟨b,o,rfl,ha⟩:=g3 (a+i) (by omega);refine⟨b,o+a*3,by rw[mE,fe],fun t ht=>?_⟩;rw[yM (by omega),pY] at ht;have:=ha t ht;rw[show o+(a+i)*3=o+a*3+i*3 by omega] at this;exact this
theorem VZ(ao:Option Addr)(x n n' c c':Nat):(Value.slice (ao.map (fun y=>y.add x)) n c).ownBlock=(Value.slice ao n' c').ownBlock:=by
 cases ao with
 | none=>rfl
 | some y=>simp only[mE,Value.ownBlock];unfold Addr.add;split<;>rfl
theorem Kp.chain{w1 w2:World}{oI:Value}(h1:Kp (Sb B rv) w w1)(hr:∀ g,oI.ownBlock=some g→rv.ownBlock=some g∨w.heap.size≤g)(h2:Kp (Sb B oI) w1 w2):Kp (Sb B rv) w w2 :=
 Kp.trans h1 h2 (fun i hi e=>by
  rcases e with e|e
  ·exact .inl e
  ·rcases hr i e with e|e
   ·exact .inr e
   ·omega)
theorem V3(w:World)(D:Nat→Prop){t:Tk}(h:t.pos+t.len≤s.size):uq w D (.iface 222 (.agg #[.int .i64 t.kind,.int .i64 t.len])) (X.lf (X.CW (bs s) t)):=by
 have:(((bs s).drop t.pos).take t.len).length=t.len:=by rw[bL,bM,eZ];omega
 have h2:=uq.leaf (w:=w) (D:=D) t.kind (((bs s).drop t.pos).take t.len);rw[this] at h2;exact h2
theorem yB(rb:Nat)(s:ByteArray)(L:List Tk)(tv:Value)(a dp B k:Nat)(rv:Value)(vs:List Value)(ps:List X.Part)(D:Nat→Prop)(w:World)(hS:kJ s L)(h:Wk w rb s L tv a dp B k rv vs ps D)(e:Nat)(h1:a≤e)(h2:e≤L.length)(hr:ps.length+(e - a)≤1073741824) :
  Calls prog 64 #[.pointer (some ⟨rb,0,none⟩),.pointer (some ⟨B,0,none⟩),.int .i64 e] w fun en w'=>en=.returned (.tuple #[])∧Hid (G6 w rb s L tv dp B k rv vs (ps++((L.drop a).take (e - a)).map (fun t=>X.lf (X.CW (bs s) t))) (bn s L e) D w'):=by
 obtain⟨⟨c0,c1,c2,c3,c4,c5,c6⟩,-⟩:=h.iF.raw.facts;have HK:=au h;have hl1:=hS.size;have hl2:=hS.len;have hal:=h.iF.le;obtain⟨ao,cap,rfl,hc1,hc2,-⟩:=h.iF.row;clear h;have j1:(a:Int)≤(e:Int):=by omega
 have j2:(e:Int)≤(cap:Int):=by omega
 have j3:e≤cap:=by omega
 go_enter func64,ntmps64;go_wp2_with fail
 have HI0:Hid (NA w rb s L (.slice ao L.length cap) a dp B k rv vs ps D 0 rv vs w):=⟨by simpa using HK.o,fun g hg=>.inl hg,Kp.refl _ _,[],(aJ _).symm⟩;by_cases hca:cap=a
 ·have hea:e=a:=by omega
  subst hea;go_quiet (fail)
  go_wp2_with fail
  refine wp_loop_rounds 1 ?_;rw[rounds_succ];have HI1:Hid (NA w rb s L (.slice ao L.length cap) e dp B k rv vs ps D 0 rv vs (w.drewN nq)):=⟨(HI0.o).wk.below (sG (ay _ w) nq),fun g hg=>.inl hg,Kp.mono (On.drewN B w nq) (fun i _ e=>.inl e),[],(aJ _).symm⟩;clear HI0;generalize w.drewN nq=W at *;clear c0 c1 c2 c3 c4 c5 c6;obtain⟨⟨c0,c1,c2,c3,c4,c5,c6⟩,f0,f1,f2,f3,f4,f5,f6⟩:=(HI1.o).wk.iF.raw.facts;go_wp2_with fail
  refine(xM rb s _ L (.slice ao L.length cap) e dp _ _ _ hS ((HI1.o).wk.iF.raw.set2 (e:Int)) ((HI1.o).wk.iF.row.keep (On.set (Kp.refl _ W) 2 _) (fun k hk=>(HI1.o).wk.iF.own k hk)) h2 (HI1.o).wk.iF.own).mono ?_;rintro e' w2 ⟨rfl,r2,k2⟩;go_wp2_with fail
  go_end0;exact⟨rfl,(HI1.o).done (by omega) r2 (On.to (On.set (Kp.refl _ W) 2 _) k2)⟩
 ·go_quiet (fail)
  go_wp2_with fail
  have HC:Hid (yJ w (.slice (ao.map (fun x=>x.add (a*3))) (e - a) (cap - a)) ((L.drop a).take (e - a))):=((HK.o).iF.row).cut h1 h2;have hob:=VZ ao (a*3) (e - a) L.length (cap - a) cap;have hll:((L.drop a).take (e - a)).length=e - a:=by rw[bL,bM];omega
  generalize hsv:ao.map (fun x=>x.add (a*3))=KU at *;clear hsv;go_loopw [19] (fun v wr=>∃(j:Nat) (VY:Value) (TV:List Value),v=.int .i64 j∧j≤e - a∧Hid (NA w rb s L (.slice ao L.length cap) a dp B k rv vs ps D j VY TV wr)) (fun v _=>e - a - (intOf v).toNat)
  case atStart =>
   exact⟨0,rv,vs,rfl,aX _,⟨(HI0.o).wk.below (sG (ay _ w) nq),fun g hg=>.inl hg,Kp.mono (On.drewN B w nq) (fun i _ e=>.inl e),[],(aJ _).symm⟩⟩
  case round =>
   obtain⟨j,VY,TV,rfl,hj,HI⟩:=hrel;clear c0 c1 c2 c3 c4 c5 c6;by_cases hlt:j<e - a
   case neg =>
    have i1:decide (j<e - a)=false:=by simp;omega
    have i2:decide ((j:Int)<((e - a:Nat):Int))=false:=by simp;omega
    obtain⟨⟨c0,c1,c2,c3,c4,c5,c6⟩,f0,f1,f2,f3,f4,f5,f6⟩:=(HI.o).wk.iF.raw.facts;go_wp2_with fail
    refine(xM rb s _ L (.slice ao L.length cap) e dp _ _ _ hS ((HI.o).wk.iF.raw.set2 (e:Int)) ((HI.o).wk.iF.row.keep (On.set (Kp.refl _ wr) 2 _) (fun k hk=>(HI.o).wk.iF.own k hk)) h2 (HI.o).wk.iF.own).mono ?_;rintro e' w2 ⟨rfl,r2,k2⟩;go_wp2_with fail
    go_end0;exact⟨rfl,(HI.o).done (by omega) r2 (On.to (On.set (Kp.refl _ wr) 2 _) k2)⟩
   have hkeep:yJ wr (.slice KU (e - a) (cap - a)) ((L.drop a).take (e - a)):=(HC.o).keep (HI.o).kp (fun q hq h=>by
    obtain⟨a1,a2,a3,a4⟩:=(HK.o).uw q (hob ▸ hq);rcases h with h|h
    ·exact a2 h
    ·exact a3 h)
   obtain⟨b',o',t,rfl,ht,q1,q2,q3⟩:=hkeep.get (ay _ wr) (by rw[hll];exact hlt);have htL:L[a+j]?=some t:=by
    rw[yM (by omega),pY] at ht;exact ht
   have hfit:=(hS.fit t (dh htL)).1;have i1:decide (j<e - a)=true:=by simp;omega
   have i2:decide ((j:Int)<((e - a:Nat):Int))=true:=by simp;omega
   have hlj:TV.length≤1073741824:=by
    rw[(HI.o).wk.len,ak,eG,bL];omega
   clear hkeep;go_wp2_with fail
   have kA:Below wr.heap.size wr (wr.alloc (Obj.cells #[Value.int IntKind.i64 t.kind,Value.int IntKind.i64 t.pos,Value.int IntKind.i64 t.len] 203)):=(ay _ wr).alloc (aj _) _;have hWA:=(HI.o).wk.below kA;have Sk:=au hWA;refine(wh B k VY TV 222 _ _ hWA.r_ (fun g hg=>(hWA.nD g hg).2.2) hlj).mono ?_;rintro e' w2 ⟨rfl,NC,b2,o2,k2⟩;clear hWA;have HN:Hid (NA w rb s L (.slice ao L.length cap) a dp B k rv vs ps D (j+1) NC (TV++[.iface 222 (.agg #[.int .i64 t.kind,.int .i64 t.len])]) w2):=by
    have hw:=(Sk.o).added b2 o2 k2 (V3 w2 D (s:=s) (t:=t) hfit);have hl:(ps++((L.drop a).take j).map (fun t=>X.lf (X.CW (bs s) t)))++[X.lf (X.CW (bs s) t)]=ps++((L.drop a).take (j+1)).map (fun t=>X.lf (X.CW (bs s) t)):=by
     rw[aA,List.take_add_one,pY,htL];simp
    rw[hl] at hw;have hz:=(HI.o).kp.size;obtain⟨us,AP⟩:=(HI.o).pre;refine⟨hw,fun g hg=>?_,Kp.chain (Kp.alloc (HI.o).kp _) (HI.o).own k2,us++[_],by rw[AP,aA]⟩;rcases o2 g hg with e|e
    ·exact(HI.o).own g e
    ·exact .inr (by simp at e;omega)
   clear b2 o2 k2 Sk kA ht htL q1 q2 q3;go_wp2_with fail
   exact⟨⟨j+1,NC,_,by go_num,by omega,HN⟩,by simp only[intOf];omega⟩
theorem J6(rb:Nat)(s:ByteArray)(L:List Tk)(tv:Value)(a dp B k:Nat)(rv:Value)(vs:List Value)(ps:List X.Part)(D:Nat→Prop)(w:World)(hS:kJ s L)(h:Wk w rb s L tv a dp B k rv vs ps D)(e:Nat)(h1:a≤e)(h2:e≤L.length)(hr:ps.length+(e - a)≤1073741824) :
  Calls prog 64 #[.pointer (some ⟨rb,0,none⟩),.pointer (some ⟨B,0,none⟩),.int .i64 e] w fun en w'=>en=.returned (.tuple #[])∧Hid (bf w rb s L tv dp B k rv (ps++((L.drop a).take (e - a)).map (fun t=>X.lf (X.CW (bs s) t))) (bn s L e) D w') :=
 (yB rb s L tv a dp B k rv vs ps D w hS h e h1 h2 hr).mono fun _ _ hh=>⟨hh.1,(hh.2.o).done⟩
end
section
open Tryz
open Go.RowKit
variable{s:ByteArray}{L:List Tk}{a:Nat}
theorem Sl:X.take (bn s L a)=(((L.drop a).take (qY L a+1 - a)).map (fun t=>X.lf (X.CW (bs s) t)),bn s L (qY L a+1)):=by
 unfold X.take;rw[Sg,GY];have e1:qY L a+1 - a=((L.drop a).takeWhile qk).length+1:=by unfold qY;omega
 have e2:(L.drop a).take ((L.drop a).takeWhile qk).length=(L.drop a).takeWhile qk:=(List.prefix_iff_eq_take.1 (List.takeWhile_prefix _)).symm;rw[e1,List.take_add,e2,dB];refine Prod.ext ?_ ?_
 ·show List.map X.lf _=_
  unfold bn qY;rw[← List.map_take,← pQ,List.map_map];rfl
 ·show List.drop 1 _=_
  unfold bn;rw[← List.map_drop,dB]
theorem Sn(h:X.iE (bn s L a)≠none):qY L a<L.length:=by
 rw[Ey] at h;rcases bE (qY L a) L.length with g|g
 ·exact g
 ·rw[aO g] at h;exact absurd rfl h
theorem bf.trans{w w1 w2:World}{rb:Nat}{s:ByteArray}{L:List Tk}{tv:Value}{dp B k:Nat}{rv oI:Value}{ps2:List X.Part}{ts2:List X.Tok}{D D1:Nat→Prop}
  (hD:∀ q,D q→D1 q) (hN:∀ q,D1 q→D q∨w.heap.size≤q) (hr:∀ g,oI.ownBlock=some g→rv.ownBlock=some g∨w.heap.size≤g) (hk:Kp (Sr rb B rv) w w1) (h:bf w1 rb s L tv dp B k oI ps2 ts2 D1 w2):bf w rb s L tv dp B k rv ps2 ts2 D w2:=by
 obtain⟨a',rv',vs',D',h1,h2,h3,h4,h5,h6⟩:=h;have hz:=hk.size;refine⟨a',rv',vs',D',h1,h2,fun q hq=>h3 q (hD q hq),fun q hq=>?_,fun g hg=>?_,Kp.trans hk h6 (fun i hi e=>?_)⟩
 ·rcases h4 q hq with e|e
  ·exact hN q e
  ·exact .inr (by omega)
 ·rcases h5 g hg with e|e
  ·exact hr g e
  ·exact .inr (by omega)
 ·rcases e with e|e|e
  ·exact .inl e
  ·exact .inr (.inl e)
  ·rcases hr i e with e|e
   ·exact .inr (.inr e)
   ·omega
def Reads(fn:FuncId)(F:X.R)(ok:List X.Tok→Prop)(s:ByteArray)(L:List Tk)(dp:Nat):Prop :=
 ∀(rb:Nat) (tv:Value) (a B k:Nat) (rv:Value) (vs:List Value) (ps:List X.Part) (D:Nat→Prop) (w:World),Wk w rb s L tv a dp B k rv vs ps D→ok (bn s L a)→ps.length+(F (bn s L a)).1.length≤1073741824 →
  Calls prog fn #[.pointer (some ⟨rb,0,none⟩),.pointer (some ⟨B,0,none⟩)] w fun en w'=>en=.returned (.tuple #[])∧Hid (bf w rb s L tv dp B k rv (ps++(F (bn s L a)).1) (F (bn s L a)).2 D w')
theorem jY(s:ByteArray)(L:List Tk)(dp:Nat)(hS:kJ s L):Reads 90 X.take (fun ts=>X.iE ts≠none) s L dp:=by
 intro rb tv a B k rv vs ps D w h hn hl;have hlt:=Sn hn;have ha:=ZA L a;rw[Sl] at hl ⊢;simp only[eG,bL,bM] at hl;obtain⟨⟨c0,c1,c2,c3,c4,c5,c6⟩,-⟩:=h.iF.raw.facts;have hl2:=hS.len;have HC:=au (J6 rb s L tv a dp B k rv vs ps D w hS h (qY L a+1) (by omega) (by omega) (by omega));rw[mr] at HC;clear h hn;go_enter func90,ntmps90;go_wp2_with fail
 refine(HC.o).mono ?_;rintro e w1 ⟨rfl,H1⟩;go_wp2_with fail
 go_end0;exact⟨rfl,H1⟩
theorem ND(s:ByteArray)(L:List Tk)(dp:Nat)(hS:kJ s L)(rb:Nat)(tv:Value)(a B k:Nat)(rv:Value)(vs:List Value)(ps:List X.Part)(D:Nat→Prop)(w:World)(h:Wk w rb s L tv a dp B k rv vs ps D)(hl:ps.length+((bn s L a).map X.lf).length≤1073741824) :
  Calls prog 36 #[.pointer (some ⟨rb,0,none⟩),.pointer (some ⟨B,0,none⟩)] w fun en w'=>en=.returned (.tuple #[])∧Hid (G6 w rb s L tv dp B k rv vs (ps++(bn s L a).map X.lf) [] D w'):=by
 have ha:=h.iF.le;have e1:(bn s L a).map X.lf=((L.drop a).take (L.length - a)).map (fun t=>X.lf (X.CW (bs s) t)):=by
  unfold bn;rw[List.map_map,lY (by rw[bM];omega)];rfl
 have e2:bn s L L.length=[]:=by unfold bn;simp
 simp only[e1,eG,bL,bM] at hl ⊢;obtain⟨⟨c0,c1,c2,c3,c4,c5,c6⟩,-⟩:=h.iF.raw.facts;have hl2:=hS.len;have HC:=au (yB rb s L tv a dp B k rv vs ps D w hS h L.length ha (aj _) (by omega));rw[e2] at HC;obtain⟨ao,cap,rfl,hc1,hc2,-⟩:=h.iF.row;clear h e1 e2;go_enter func36,ntmps36;go_wp2_with fail
 refine(HC.o).mono ?_;rintro e w1 ⟨rfl,H1⟩;go_wp2_with fail
 go_end0;exact⟨rfl,H1⟩
theorem Sq(s:ByteArray)(L:List Tk)(dp:Nat)(hS:kJ s L):Reads 36 (fun ts=>(ts.map X.lf,[])) (fun _=>True) s L dp:=by
 intro rb tv a B k rv vs ps D w h _ hl;exact(ND s L dp hS rb tv a B k rv vs ps D w h hl).mono fun _ _ hh=>⟨hh.1,(hh.2.o).done⟩
end
section
open Tryz
open Go.RowKit
variable{x:ah}
namespace X
theorem andThen_assoc(f g h:R):andThen (andThen f g) h=andThen f (andThen g h):=by
 funext ts;simp[andThen]
def Ez:R:=fun ts=>([],ts)
theorem G7(f:R):andThen Ez f=f:=by funext ts;simp[andThen,Ez]
theorem yC(f:R):andThen f Ez=f:=by funext ts;simp[andThen,Ez]
def qN(x:ah):R:=fun ts=>if pN x ts then take ts else([.miss x],ts)
def dO:List (ah)→R
 | []=>Ez
 | x::xs=>andThen (qN x) (dO xs)
theorem qw:∀(l r:List (ah)),dO (l++r)=andThen (dO l) (dO r)
 | [],r=>(G7 _).symm
 | x::l,r=>by rw[dx,dO,qw l r,dO,andThen_assoc]
theorem NG(ss:List (ah))(j:Nat)(ts:List Tok):(dO (ss.take j) ts).1.length≤(dO ss ts).1.length:=by
 have:dO ss=andThen (dO (ss.take j)) (dO (ss.drop j)):=by rw[← qw,dA]
 rw[this];simp[andThen]
theorem G8{ss:List (ah)}{j:Nat}(h:ss[j]?=some x)(ts:List Tok):dO (ss.take (j+1)) ts=((dO (ss.take j) ts).1++(qN x (dO (ss.take j) ts).2).1,(qN x (dO (ss.take j) ts).2).2):=by
 rw[List.take_add_one,h,qw];show andThen _ (dO [x]) ts=_;rw[dO,dO,yC];rfl
theorem V4{ts:List Tok}(hx:x≠[])(h:pN x ts=true):iE ts≠none:=by
 intro e;unfold pN rU bJ at h;rw[e] at h;simp[hx] at h
end X
theorem J7(w:World)(x:ah):qo (w.alloc (Obj.cells #[Value.string (ba x)] 9)) w.heap.size [x]:=by
 refine⟨fun i z hz=>?_,by simp⟩;rcases gF i with rfl|g
 ·obtain rfl:x=z:=by simpa using hz
  rw[ai _ _ 0 _ _ _ (aB w _)];rfl
 ·rw[aO (by simp;omega)] at hz;cases hz
theorem bf.refl{w:World}{rb:Nat}{s:ByteArray}{L:List Tk}{tv:Value}{a dp B k:Nat}{rv:Value}{vs:List Value}{ps:List X.Part}{D:Nat→Prop}(h:Wk w rb s L tv a dp B k rv vs ps D):bf w rb s L tv dp B k rv ps (bn s L a) D w :=
 ⟨a,rv,vs,D,h,rfl,fun _=>id,fun _ hq=>.inl hq,fun _ hg=>.inl hg,Kp.refl _ _⟩
theorem Sv(s:ByteArray)(L:List Tk)(dp:Nat)(hS:kJ s L)(rb:Nat)(tv:Value)(a B k:Nat)(rv:Value)(vs:List Value)(ps:List X.Part)(D:Nat→Prop)(w:World)(h:Wk w rb s L tv a dp B k rv vs ps D)
  (c:Nat) (ss:List (ah)) (hs:qo w c ss) (hx:∀ x∈ss,x≠[]) (hc:c≠rb∧c≠B∧rv.ownBlock≠some c∧c<w.heap.size) (hl:ps.length+(X.dO ss (bn s L a)).1.length≤1073741824) :
  Calls prog 116 #[.pointer (some ⟨rb,0,none⟩),.pointer (some ⟨B,0,none⟩),.slice (some ⟨c,0,none⟩) ss.length ss.length] w fun en w'=>en=.returned (.tuple #[])∧Hid (bf w rb s L tv dp B k rv (ps++(X.dO ss (bn s L a)).1) (X.dO ss (bn s L a)).2 D w'):=by
 have HS:=au hs;have HX:=au hx;have hln:=hs.len;have HD0:Hid (bf w rb s L tv dp B k rv (ps++(X.dO (ss.take 0) (bn s L a)).1) (X.dO (ss.take 0) (bn s L a)).2 D w):=by
  show bf _ _ _ _ _ _ _ _ _ _ _ _ _;simp only[nT,X.dO,X.Ez,aJ];exact bf.refl h
 clear h hs hx;go_enter func116,ntmps116;go_wp2_with fail
 obtain⟨hc1,hc2,hc3,hc4⟩:=hc;have wX:=au hc3;clear hc3;go_loopw [10] (fun v wr=>∃ j:Nat,v=.int .i64 j∧j≤ss.length∧Hid (bf w rb s L tv dp B k rv (ps++(X.dO (ss.take j) (bn s L a)).1) (X.dO (ss.take j) (bn s L a)).2 D wr)) (fun v _=>ss.length - (intOf v).toNat)
 case atStart=>exact⟨0,rfl,aX _,HD0⟩
 case round =>
  obtain⟨j,rfl,hj,HJ⟩:=hrel;clear HD0;by_cases hlt:j<ss.length
  case neg =>
   have hje:j=ss.length:=by omega
   subst hje;rw[kY] at HJ;have i1:decide (ss.length<ss.length)=false:=by simp
   have i2:decide ((ss.length:Int)<(ss.length:Int))=false:=by simp
   go_wp2_with fail
   go_end0;exact⟨rfl,HJ⟩
  obtain⟨x,hxj⟩:∃ x,ss[j]?=some x:=⟨ss[j],aC hlt⟩;have hxn:x≠[]:=(HX.o) x (dh hxj);have i1:decide (j<ss.length)=true:=by simp;omega
  have i2:decide ((j:Int)<(ss.length:Int))=true:=by simp;omega
  obtain⟨a',rv',vs',D',g1,g2,g3,g4,g5,g6⟩:=HJ.o;have y0:wr.cell? ⟨c,j,none⟩=some (.string (ba x)):=g6.dY ((HS.o).cells j x hxj) (by
   rintro(e|e|e)
   ·exact hc1 e
   ·exact hc2 e
   ·exact(wX.o) e)
  have HW:=au g1;have HG3:=au g3;have HG4:=au g4;have tZ:=au g5;have YH:=au g6;have HT:=au g2;have Xh:=au (X.G8 hxj (bn s L a));have hle:=X.NG ss (j+1) (bn s L a);clear g1 g2 g3 g4 g5 g6 HJ hxj;go_wp2_with fail
  have kA:Below wr.heap.size wr (wr.alloc (Obj.cells #[Value.string (ba x)] 9)):=(ay _ wr).alloc (aj _) _;have hrow:=J7 wr x;have Sk:=au ((HW.o).below kA);have oM:=au kA;refine(uN rb s L tv a' dp _ (Sk.o).iF wr.heap.size [x] hrow).mono ?_;rintro e w2 ⟨rfl,k2⟩;have HW2:=au ((Sk.o).below k2);have hk2:Below wr.heap.size wr w2:=(oM.o).trans (k2.mono (by simp));have mZ:=au hk2;have e0:[x].any (fun x=>X.pN x (bn s L a'))=X.pN x (bn s L a'):=by simp
  rw[e0];clear e0 kA hrow k2 hk2 Sk oM;have HDK:Hid (Kp (Sr rb B rv) w w2):=Kp.trans (YH.o) (Kp.aI (mZ.o) (fun _=>False)) (fun _ _ h=>h.elim);cases hp:X.pN x (bn s L a') with
  | true =>
   have e1:X.qN x (X.dO (ss.take j) (bn s L a)).2=X.take (bn s L a'):=by
    rw[← HT.o];unfold X.qN;rw[aL hp]
   rw[e1] at Xh;rw[Xh.o,ak] at hle;go_wp2_with fail
   refine(jY s L dp hS rb tv a' B k rv' vs' _ D' w2 (HW2.o) (X.V4 hxn hp) (by rw[ak];omega)).mono ?_;rintro e w3 ⟨rfl,H3⟩;have HJ:Hid (bf w rb s L tv dp B k rv (ps++(X.dO (ss.take (j+1)) (bn s L a)).1) (X.dO (ss.take (j+1)) (bn s L a)).2 D w3):=by
    rw[Xh.o,← aA];exact bf.trans HG3.o HG4.o tZ.o HDK.o H3.o
   clear H3 Xh e1;go_wp2_with fail
   exact⟨⟨j+1,by go_num,by omega,HJ⟩,by simp only[intOf];omega⟩
  | false =>
   have e1:X.qN x (X.dO (ss.take j) (bn s L a)).2=([.miss x],bn s L a'):=by
    rw[← HT.o];unfold X.qN;rw[aG (by rw[hp];simp)]
   rw[e1] at Xh;rw[Xh.o,ak] at hle;have hvl:vs'.length≤1073741824:=by rw[(HW2.o).len,ak];omega
   go_wp2_with fail
   refine(wh B k rv' vs' 326 (.string (ba x)) w2 (HW2.o).r_ (fun g hg=>((HW2.o).nD g hg).2.2) hvl).mono ?_;rintro e w3 ⟨rfl,Xi,b3,o3,k3⟩;have HJ:Hid (bf w rb s L tv dp B k rv (ps++(X.dO (ss.take (j+1)) (bn s L a)).1) (X.dO (ss.take (j+1)) (bn s L a)).2 D w3):=by
    rw[Xh.o,← aA];have hw:=(HW2.o).added b3 o3 k3 (uq.miss x);exact bf.trans HG3.o HG4.o tZ.o HDK.o ⟨a',Xi,_,D',hw,rfl,fun _=>id,fun _ hq=>.inl hq,o3,Kp.mono k3 (fun i _ e=>.inr e)⟩
   clear b3 o3 k3 Xh e1;go_wp2_with fail
   exact⟨⟨j+1,by go_num,by omega,HJ⟩,by simp only[intOf];omega⟩
end
section
open Tryz
open Go.RowKit
variable{w w1 w4:World}{rb dp N k B kd:Nat}{s:ByteArray}{L:List Tk}{tv rv zi:Value}{ps ps1 V5:List X.Part}{D:Nat→Prop}{ts':List X.Tok}
theorem Wk.part{a:Nat}{vs:List Value}(h:Wk w rb s L tv a dp N k rv vs ps D) :
  uq w (fun q=>D q∨q=N∨rv.ownBlock=some q) (.iface 126 (.pointer (some ⟨N,0,none⟩))) (.br k ps):=by
 have hm:∀ q,D q→(D q∨q=N∨rv.ownBlock=some q):=fun q hq=>.inl hq
 obtain⟨hb,hr⟩:=h.r_;have hl:=h.len;rcases hr.2 with ⟨rfl,h0⟩|⟨g,cap,cur,rfl,-,hg,hn,hmx,hsz,ht⟩
 ·have hp:ps=[]:=aT.1 (by omega)
  subst hp;exact .br k N 0 none (fun _=>undef) [] (.inr (.inl rfl)) hb ⟨aj _,by unfold maxLen;omega⟩ (fun i hi=>by simp at hi) (fun i p hp=>by simp at hp)
 ·rw[hl] at hb hn
  refine .br k N cap (some ⟨g,0,none⟩) (fun i=>vs.getD i undef) ps (.inr (.inl rfl)) hb ⟨hn,hmx⟩ (fun i hi=>⟨g,rfl,.inr (.inr rfl),?_⟩) (fun i p hp=>?_)
  ·have hv:vs[i]?=some (vs.getD i undef):=by
    rw[bF,aC (by omega)];rfl
   have:=hr.cells (g:=g) rfl i _ hv
   rwa[fe,cu] at this
  ·obtain⟨v,h1,h2⟩:=h.each i p hp
   have:vs.getD i undef=v:=by rw[bF,h1];rfl
   rw[this];exact h2.mono hm
theorem G9{a0 dp0:Nat}{oI:Value}{vs vs1:List Value}
  (h0:Wk w rb s L tv a0 dp0 B k rv vs ps D) (hb1:xO w1 B k oI (vs1++[.iface 126 (.pointer (some ⟨N,0,none⟩))])) (hl1:vs1.length=ps1.length) (he1:Each w1 D vs1 ps1) (hr1:∀ g,oI.ownBlock=some g→rv.ownBlock=some g∨(w.heap.size≤g∧g≠N))
  (hk1:Kp (Sr rb B rv) w w1) (hN:w.heap.size≤N) (hN1:N<w1.heap.size) (hrn:∀ g,zi.ownBlock=some g→w.heap.size≤g∧oI.ownBlock≠some g) (hd:bf w1 rb s L tv dp N kd zi V5 ts' D w4):bf w rb s L tv dp B k rv (ps1++[.br kd V5]) ts' D w4:=by
 obtain⟨a4,rvN,vsN,DN,Xj,ht,d1,d2,d3,kN⟩:=hd;have hbl:=h0.r_.lt;have hrl:=h0.iF.raw.lt;have hz1:=hk1.size;have hz4:=kN.size;have hNw:=Xj.r_.lt;have aQ1:=hb1.row;have hg1:∀ g,oI.ownBlock=some g→g<w1.heap.size:=fun g hg=>(dV aQ1 g hg).2
 have hg0:∀ g,rv.ownBlock=some g→g<w.heap.size:=fun g hg=>(dV h0.r_.row g hg).2
 have hgN:∀ g,rvN.ownBlock=some g→g<w4.heap.size∧w.heap.size≤g∧oI.ownBlock≠some g:=by
  intro g hg;refine⟨(dV Xj.r_.row g hg).2,?_⟩;rcases d3 g hg with e|e
  ·exact hrn g e
  ·exact⟨by omega,fun e'=>by have:=hg1 g e';omega⟩
 have hS1:∀ q,D q→¬ Sr rb N zi q:=by
  rintro q hq (e|e|e)
  ·subst e;exact h0.sep.1 hq
  ·have:=h0.G5 q hq;omega
  ·have:=(hrn q e).1;have:=h0.G5 q hq;omega
 refine⟨a4,oI,vs1++[.iface 126 (.pointer (some ⟨N,0,none⟩))],fun q=>DN q∨q=N∨rvN.ownBlock=some q,?_,ht,fun q hq=>.inl (d1 q hq),?_,?_,?_⟩
 ·refine⟨Xj.iF,?_,by rw[ak,ak,hl1];rfl,?_,?_,⟨?_,?_,h0.sep.2.2⟩,?_,?_⟩
  ·refine hb1.keep kN ?_ ?_
   ·rintro(e|e|e)
    ·exact h0.sep.2.2 e
    ·omega
    ·have:=(hrn B e).1;omega
   ·rintro g hg (e|e|e)
    ·rcases hr1 g hg with h|h
     ·exact(h0.nD g h).2.1 e
     ·omega
    ·rcases hr1 g hg with h|h
     ·have:=hg0 g h;omega
     ·omega
    ·exact(hrn g e).2 hg
  ·exact((he1.keep kN hS1).mono (fun q hq=>.inl (d1 q hq))).snoc hl1 Xj.part
  ·rintro q (e|e|e)
   ·exact Xj.G5 q e
   ·omega
   ·exact(hgN q e).1
  ·rintro(e|e|e)
   ·exact Xj.sep.1 e
   ·exact Xj.sep.2.2 e.symm
   ·exact(Xj.nD rb e).2.1 rfl
  ·rintro(e|e|e)
   ·rcases d2 B e with h|h
    ·exact h0.sep.2.1 h
    ·omega
   ·omega
   ·have:=(hgN B e).2.1;omega
  ·intro g hg
   have hlt:=hg1 g hg;refine⟨?_,?_,?_⟩
   ·rintro(e|e|e)
    ·rcases d2 g e with h|h
     ·rcases hr1 g hg with h'|h'
      ·exact(h0.nD g h').1 h
      ·have:=h0.G5 g h;omega
     ·omega
    ·rcases hr1 g hg with h|h
     ·have:=hg0 g h;omega
     ·omega
    ·exact(hgN g e).2.2 hg
   ·rcases hr1 g hg with h|h
    ·exact(h0.nD g h).2.1
    ·omega
   ·rcases hr1 g hg with h|h
    ·exact(h0.nD g h).2.2
    ·omega
  ·intro q hq
   obtain⟨a1,a2,a3,a4⟩:=h0.uw q hq;refine⟨?_,a2,?_,by omega⟩
   ·rintro(e|e|e)
    ·rcases d2 q e with h|h
     ·exact a1 h
     ·omega
    ·omega
    ·have:=(hgN q e).2.1;omega
   ·intro e
    rcases hr1 q e with h|h
    ·exact a3 h
    ·omega
 ·rintro q (e|e|e)
  ·rcases d2 q e with h|h
   ·exact .inl h
   ·exact .inr (by omega)
  ·exact .inr (by omega)
  ·exact .inr (by have:=(hgN q e).2.1;omega)
 ·intro g hg
  rcases hr1 g hg with h|h
  ·exact .inl h
  ·exact .inr (by omega)
 ·refine Kp.trans hk1 kN (fun i hi e=>?_)
  rcases e with e|e|e
  ·exact .inl e
  ·omega
  ·have:=(hrn i e).1;omega
def Xk(w:World)(rb:Nat)(s:ByteArray)(L:List Tk)(tv:Value)(B k:Nat)(rv:Value)(ps1:List X.Part)(D:Nat→Prop)(N:Nat)(zi:Value)(w1:World):Prop :=
 ∃(a0 dp0:Nat) (vs:List Value) (ps:List X.Part) (oI:Value) (vs1:List Value),Wk w rb s L tv a0 dp0 B k rv vs ps D∧xO w1 B k oI (vs1++[.iface 126 (.pointer (some ⟨N,0,none⟩))])∧vs1.length=ps1.length∧Each w1 D vs1 ps1 ∧
  (∀ g,oI.ownBlock=some g→rv.ownBlock=some g∨(w.heap.size≤g∧g≠N))∧Kp (Sr rb B rv) w w1∧w.heap.size≤N∧N<w1.heap.size∧(∀ g,zi.ownBlock=some g→w.heap.size≤g∧oI.ownBlock≠some g)
theorem Xk.close
  (h:Xk w rb s L tv B k rv ps1 D N zi w1) (hd:bf w1 rb s L tv dp N kd zi V5 ts' D w4):bf w rb s L tv dp B k rv (ps1++[.br kd V5]) ts' D w4:=by
 obtain⟨a0,dp0,vs,ps,oI,vs1,g1,g2,g3,g4,g5,g6,g7,g8,g9⟩:=h;exact G9 g1 g2 g3 g4 g5 g6 g7 g8 g9 hd
theorem Xk.moved{w2:World}(h:Xk w rb s L tv B k rv ps1 D N zi w1)(hk:On rb w1 w2):Xk w rb s L tv B k rv ps1 D N zi w2:=by
 obtain⟨a0,dp0,vs,ps,oI,vs1,g1,g2,g3,g4,g5,g6,g7,g8,g9⟩:=h;have hrl:=g1.iF.raw.lt;refine⟨a0,dp0,vs,ps,oI,vs1,g1,g2.keep hk g1.sep.2.2 (fun g hg e=>?_),g3,g4.keep hk (fun q hq e=>?_),g5,Kp.trans g6 hk (fun i _ e=>.inl e),g7,aH g8 hk.size,g9⟩
 ·rcases g5 g hg with h|h
  ·exact(g1.nD g h).2.1 e
  ·omega
 ·subst e;exact g1.sep.1 hq
theorem Ay(rb:Nat)(s:ByteArray)(L:List Tk)(tv:Value)(a dp B k:Nat)(rv:Value)(vs:List Value)(ps:List X.Part)(D:Nat→Prop)(w:World)(h:Wk w rb s L tv a dp B k rv vs ps D)(hl:ps.length≤1073741824)(kd:Nat) :
  Calls prog 145 #[.pointer (some ⟨B,0,none⟩),.int .i64 kd] w fun e w'=>e=.returned (.pointer (some ⟨w.heap.size,0,none⟩))∧Hid (Xk w rb s L tv B k rv ps D w.heap.size (.slice none 0 0) w'∧Wk w' rb s L tv a dp w.heap.size kd (.slice none 0 0) [] [] D):=by
 have HK:=au h;have hlv:vs.length≤1073741824:=by rw[h.len];exact hl
 have kA:Below w.heap.size w (w.alloc (Obj.cells #[.int .i64 kd,.slice none 0 0] 129)):=(ay _ w).alloc (aj _) _;have oM:=au kA;have Sk:=au (h.below kA);clear h kA;go_enter func145,ntmps145;go_wp2_with fail
 refine(wh B k rv vs 126 (.pointer (some ⟨w.heap.size,0,none⟩)) _ (Sk.o).r_ (fun g hg=>((Sk.o).nD g hg).2.2) hlv).mono ?_;rintro e w2 ⟨rfl,NC,b2,o2,k2⟩;have HR:Hid (Xk w rb s L tv B k rv ps D w.heap.size (.slice none 0 0) w2∧Wk w2 rb s L tv a dp w.heap.size kd (.slice none 0 0) [] [] D):=by
  have hbl:=(HK.o).r_.lt;have hrl:=(HK.o).iF.raw.lt;have hz:=k2.size;rw[gX] at hz;have hD:∀ q,D q→¬ Sb B rv q:=by
   rintro q hq (e|e)
   ·subst e;exact(HK.o).sep.2.1 hq
   ·exact((HK.o).nD q e).1 hq
  have hgl:∀ g,rv.ownBlock=some g→g<w.heap.size:=fun g hg=>(dV (HK.o).r_.row g hg).2
  have hnew:(w.alloc (Obj.cells #[.int .i64 kd,.slice none 0 0] 129)).heap[w.heap.size]?=_:=aB w _;have Tw:¬ Sb B rv w.heap.size:=by
   rintro(e|e)
   ·omega
   ·have:=hgl _ e;omega
  refine⟨⟨a,dp,vs,ps,NC,vs,HK.o,b2,(HK.o).len,((Sk.o).each.keep k2 hD),fun g hg=>?_,?_,aj _,by omega,fun g hg=>by cases hg⟩,?_⟩
  ·rcases o2 g hg with e|e
   ·exact .inl e
   ·rw[gX] at e
    exact .inr ⟨by omega,by omega⟩
  ·exact Kp.trans (Kp.aI (oM.o) (Sr rb B rv)) k2 (fun i _ e=>.inr e)
  ·refine⟨(Sk.o).iF.keep k2 ?_ ?_,⟨k2.heap hnew Tw,bY _ _ _ _⟩,rfl,Each.nil _ _,fun q hq=>by have:=(HK.o).G5 q hq;omega,⟨(HK.o).sep.1,fun hd=>by have:=(HK.o).G5 _ hd;omega,by omega⟩,(fun g hg=>by cases hg),fun q hq=>?_⟩
   ·rintro(e|e)
    ·exact(HK.o).sep.2.2 e.symm
    ·exact((HK.o).nD rb e).2.1 rfl
   ·intro q hq e
    obtain⟨a1,a2,a3,a4⟩:=(HK.o).uw q hq;rcases e with e|e
    ·exact a2 e
    ·exact a3 e
   ·obtain⟨a1,a2,a3,a4⟩:=(HK.o).uw q hq
    exact⟨a1,by omega,(fun e=>by cases e),by omega⟩
 clear b2 o2 k2;go_wp2_with fail
 go_ret;exact⟨rfl,HR⟩
theorem uq.iface{w:World}{D:Nat→Prop}{v:Value}{p:X.Part}(h:uq w D v p):∃ ty x,v=.iface ty x:=by
 cases h with
 | leaf k x=>exact⟨_,_,rfl⟩
 | miss m=>exact⟨_,_,rfl⟩
 | br k N cap ao vs ps hN hb hc hr hp=>exact⟨_,_,rfl⟩
 | kid N n p hn h=>exact⟨_,_,rfl⟩
theorem Wk.last{w:World}{rb:Nat}{s:ByteArray}{L:List Tk}{tv:Value}{a dp B k:Nat}{rv:Value}{vs:List Value}{ps:List X.Part}{p:X.Part}{D:Nat→Prop}(h:Wk w rb s L tv a dp B k rv vs (ps++[p]) D) :
  ∃ Ra ty x,vs=Ra++[.iface ty x]∧Ra.length=ps.length∧Each w D Ra ps∧uq w D (.iface ty x) p:=by
 have hl:=h.len;rw[ak,dX] at hl;obtain⟨v,h1,h2⟩:=h.each ps.length p (by rw[aQ (aj _),uR];rfl);obtain⟨ty,x,rfl⟩:=h2.iface;have e:vs=vs.take ps.length++[.iface ty x]:=by
  conv=>lhs;rw[← dA ps.length vs]
  congr 1;rw[bP (by omega),List.drop_eq_nil_iff.2 (by omega)];congr 1;exact bK ((aC (by omega)).symm.trans h1)
 refine⟨vs.take ps.length,ty,x,e,by rw[bL];omega,fun i q hq=>?_,h2⟩;have hi:i<ps.length:=by
  rcases bE i ps.length with g|g
  ·exact g
  ·rw[aO g] at hq;cases hq
 obtain⟨u,h3,h4⟩:=h.each i q (by rw[aU hi];exact hq);exact⟨u,by rw[yM hi];exact h3,h4⟩
theorem G_(rb:Nat)(s:ByteArray)(L:List Tk)(tv:Value)(a dp B k:Nat)(rv:Value)(vs:List Value)(ps:List X.Part)(p:X.Part)(D:Nat→Prop)(w:World)(h:Wk w rb s L tv a dp B k rv vs (ps++[p]) D)(hl:ps.length+1≤1073741824)(kd:Nat) :
  Calls prog 185 #[.pointer (some ⟨B,0,none⟩),.int .i64 kd] w fun e w'=>∃ N zi v,e=.returned (.pointer (some ⟨N,0,none⟩))∧Hid (Xk w rb s L tv B k rv ps D N zi w'∧Wk w' rb s L tv a dp N kd zi [v] [p] D):=by
 have HK:=au h;obtain⟨Ra,ty,x,rfl,hl0,he0,hp0⟩:=h.last;obtain⟨⟨c0,c1⟩,f0,f1⟩:=h.r_.facts;obtain⟨g,cap,rfl,-,hgl⟩:=h.r_.row.form (by simp);have hlen:(Ra++[Value.iface ty x]).length=ps.length+1:=by simp[hl0]
 rw[hlen] at c1;have x1:w.cell? ⟨g,ps.length,none⟩=some (.iface ty x):=by
  have:=h.r_.row.cells (g:=g) rfl ps.length (.iface ty x) (by rw[aQ (by omega),hl0,uR];rfl)
  rwa[fe,cu] at this
 have x2:w.frozen? ⟨g,ps.length,none⟩=false:=h.r_.row.frozenAt _;have HE0:=au he0;have HP0:=au hp0;have hbl:=h.r_.lt;have hgB:=(h.nD g rfl).2.2;clear h he0 hp0;go_enter func185,ntmps185;go_wp2_with fail
 go_ret;refine⟨w.heap.size+1,.slice (some ⟨w.heap.size,0,none⟩) 1 1,.iface ty x,rfl,?_⟩;have h:=HK.o;have hrl:=h.iF.raw.lt;have k0:Kp (fun q=>q=g) w (w.setCell ⟨g,ps.length,none⟩ (.iface 126 (.pointer (some ⟨w.heap.size+1,0,none⟩)))):=Kp.setCell (Kp.refl (fun q=>q=g) w) (p:=⟨g,ps.length,none⟩) (fun _=>rfl) _;have hset:=(h.r_.row.stored ps.length (.iface 126 (.pointer (some ⟨w.heap.size+1,0,none⟩)))).1;have hse:(Ra++[Value.iface ty x]).set ps.length (.iface 126 (.pointer (some ⟨w.heap.size+1,0,none⟩)))=Ra++[.iface 126 (.pointer (some ⟨w.heap.size+1,0,none⟩))]:=by
  rw[List.set_append_right _ _ (by omega),hl0,uR];rfl
 rw[hse] at hset;have hs0:(w.setCell ⟨g,ps.length,none⟩ (.iface 126 (.pointer (some ⟨w.heap.size+1,0,none⟩)))).heap.size=w.heap.size:=by simp
 generalize w.setCell ⟨g,ps.length,none⟩ (.iface 126 (.pointer (some ⟨w.heap.size+1,0,none⟩)))=W0 at *;have k2:Kp (fun q=>q=g) w ((W0.alloc (Obj.cells #[Value.iface ty x] 177)).alloc (Obj.cells #[Value.int IntKind.i64 kd,Value.slice (some ⟨w.heap.size,0,none⟩) 1 1] 129)):=Kp.alloc (Kp.alloc k0 _) _;have hr1:((W0.alloc (Obj.cells #[Value.iface ty x] 177)).alloc (Obj.cells #[Value.int IntKind.i64 kd,Value.slice (some ⟨w.heap.size,0,none⟩) 1 1] 129)).heap[w.heap.size]?=some (.cells #[.iface ty x] 177 (0,0)):=by
  rw[← hs0];exact(dN (W0.alloc _) _ (show W0.heap.size<_ by simp)).trans (aB W0 _)
 have hr2:((W0.alloc (Obj.cells #[Value.iface ty x] 177)).alloc (Obj.cells #[Value.int IntKind.i64 kd,Value.slice (some ⟨w.heap.size,0,none⟩) 1 1] 129)).heap[w.heap.size+1]?=some (.cells #[.int .i64 kd,.slice (some ⟨w.heap.size,0,none⟩) 1 1] 129 (0,0)):=by
  have:=aB (W0.alloc (Obj.cells #[Value.iface ty x] 177)) (Obj.cells #[Value.int IntKind.i64 kd,Value.slice (some ⟨w.heap.size,0,none⟩) 1 1] 129)
  rwa[gX,hs0] at this
 have hown:=(hset.alloc (Obj.cells #[Value.iface ty x] 177)).alloc (Obj.cells #[Value.int IntKind.i64 kd,Value.slice (some ⟨w.heap.size,0,none⟩) 1 1] 129);have hsz:((W0.alloc (Obj.cells #[Value.iface ty x] 177)).alloc (Obj.cells #[Value.int IntKind.i64 kd,Value.slice (some ⟨w.heap.size,0,none⟩) 1 1] 129)).heap.size=w.heap.size+2:=by simp[hs0]
 generalize (W0.alloc (Obj.cells #[Value.iface ty x] 177)).alloc (Obj.cells #[Value.int IntKind.i64 kd,Value.slice (some ⟨w.heap.size,0,none⟩) 1 1] 129)=W at *;have hDg:∀ q,D q→¬(q=g):=fun q hq e=>(h.nD g rfl).1 (e ▸ hq)
 refine⟨⟨a,dp,_,_,_,Ra,h,⟨k2.heap h.r_.blk (fun e=>hgB e.symm),?_⟩,hl0,(HE0.o).keep k2 hDg,fun q hq=>.inl hq,Kp.mono k2 (fun i _ e=>.inr (.inr (by rw[e];rfl))),by omega,by omega,fun q hq=>?_⟩,?_⟩
 ·have e:(Ra++[Value.iface 126 (.pointer (some ⟨w.heap.size+1,0,none⟩))]).length=(Ra++[Value.iface ty x]).length:=by simp
  rw[e];exact hown
 ·simp only[Value.ownBlock,eH] at hq ⊢
  subst hq;exact⟨aj _,fun e=>by have e2:g=w.heap.size:=bK e;omega⟩
 ·refine⟨h.iF.keep k2 (fun e=>(h.nD g rfl).2.1 e.symm) (fun q hq e=>(h.uw q hq).2.2.1 (by rw[e];rfl)),⟨hr2,⟨by simp,.inr ⟨w.heap.size,1,#[.iface ty x],rfl,aX _,hr1,aj _,by unfold maxLen;omega,rfl,rfl⟩⟩⟩,rfl,?_,fun q hq=>by have:=h.G5 q hq;omega,⟨h.sep.1,fun hd=>by have:=h.G5 _ hd;omega,by omega⟩,fun q hq=>?_,fun q hq=>?_⟩
  ·have:=(Each.nil W D).snoc rfl ((HP0.o).keep k2 hDg)
   exact this
  ·simp only[Value.ownBlock,eH] at hq
   subst hq;exact⟨fun hd=>by have:=h.G5 _ hd;omega,by omega,by omega⟩
  ·obtain⟨a1,a2,a3,a4⟩:=h.uw q hq
   exact⟨a1,by omega,(fun e=>by simp only[Value.ownBlock,eH] at e;omega),by omega⟩
end
section
open Tryz
open Go.RowKit
variable{rb dp:Nat}{s:ByteArray}{L:List Tk}{tv:Value}
theorem pX.deep{w:World}{a:Nat}(h:pX w rb s L tv a dp)(d2:Nat):pX (w.setCell ⟨rb,6,none⟩ (.int .i64 d2)) rb s L tv a d2 :=
 ⟨h.raw.bH5 _,h.row.keep (On.set (Kp.refl _ w) 6 _) (fun k hk e=>h.own k hk e),h.le,h.own⟩
theorem bf.deep{w w4:World}{rb:Nat}{s:ByteArray}{L:List Tk}{tv:Value}{dp B k:Nat}{rv:Value}{ps:List X.Part}{ts:List X.Tok}{D:Nat→Prop}(h:bf w rb s L tv dp B k rv ps ts D w4)(d2:Nat):bf w rb s L tv d2 B k rv ps ts D (w4.setCell ⟨rb,6,none⟩ (.int .i64 d2)):=by
 obtain⟨a',rv',vs',D',h1,h2,h3,h4,h5,h6⟩:=h;have CY:On rb w4 (w4.setCell ⟨rb,6,none⟩ (.int .i64 d2)):=On.set (Kp.refl _ w4) 6 _;exact⟨a',rv',vs',D',h1.moved CY (h1.iF.deep d2),h2,h3,h4,h5,Kp.trans h6 CY (fun i _ e=>.inl e)⟩
theorem bf.then{w w1:World}{B k:Nat}{rv:Value}{ps1:List X.Part}{eF:List X.Tok}{D:Nat→Prop}{fn:FuncId}{F:X.R}{ok:List X.Tok→Prop}{Q:Ending→World→Prop}
  (h:bf w rb s L tv dp B k rv ps1 eF D w1) (hF:Reads fn F ok s L dp) (hok:ok eF) (hl:ps1.length+(F eF).1.length≤1073741824)
  (hQ:∀ w2,Hid (bf w rb s L tv dp B k rv (ps1++(F eF).1) (F eF).2 D w2)→Q (.returned (.tuple #[])) w2) :
  Calls prog fn #[.pointer (some ⟨rb,0,none⟩),.pointer (some ⟨B,0,none⟩)] w1 Q:=by
 obtain⟨a1,oI,vs1,D1,g1,rfl,g3,g4,g5,g6⟩:=h;refine(hF rb tv a1 B k oI vs1 ps1 D1 w1 g1 hok hl).mono ?_;rintro e w2 ⟨rfl,H2⟩;exact hQ w2 (bf.trans g3 g4 g5 g6 H2.o)
theorem Sy(s:ByteArray)(L:List Tk)(dp:Nat)(hS:kJ s L)(hdp:dp≤1000)(fn:FuncId)(hen:∀ args w,(callFunc fn args).run prog w=.ok (.enter fn args) w)(I:X.R)(hI:Reads fn I (fun _=>True) s L (dp+1))
  (rb:Nat) (tv:Value) (a B k:Nat) (rv:Value) (vs:List Value) (ps:List X.Part) (D:Nat→Prop) (w:World) (h:Wk w rb s L tv a dp B k rv vs ps D) (hn:X.iE (bn s L a)≠none) (kd:Nat) (hl:ps.length+1≤1073741824) (hl2:(X.andThen X.take I (bn s L a)).1.length≤1073741824) :
  Calls prog 148 #[.pointer (some ⟨rb,0,none⟩),.pointer (some ⟨B,0,none⟩),.int .i64 kd,.func (.func fn) #[.pointer (some ⟨rb,0,none⟩)] #[]] w fun en w'=>en=.returned (.tuple #[])∧Hid (bf w rb s L tv dp B k rv (ps++(X.node kd (X.andThen X.take I) (bn s L a)).1) (X.node kd (X.andThen X.take I) (bn s L a)).2 D w'):=by
 have hlA:(X.take (bn s L a)).1.length+(I (X.take (bn s L a)).2).1.length≤1073741824:=by
  have:(X.andThen X.take I (bn s L a)).1.length=(X.take (bn s L a)).1.length+(I (X.take (bn s L a)).2).1.length:=by simp[X.andThen]
  omega
 clear hl2;have HH:=au h;clear h;go_enter func148,ntmps148;go_wp2_with fail
 refine(Ay rb s L tv a dp B k rv vs ps D w HH.o (by omega) kd).mono ?_;rintro e w1 ⟨rfl,H1⟩;obtain⟨⟨c0,c1,c2,c3,c4,c5,c6⟩,f0,f1,f2,f3,f4,f5,f6⟩:=(H1.o).2.iF.raw.facts;go_wp2_with fail
 have CY:On rb w1 (w1.setCell ⟨rb,6,none⟩ (.int .i64 ((dp:Int)+1))):=On.set (Kp.refl _ w1) 6 _;have OW:=au ((H1.o).1.moved CY);have HW2:Hid (Wk (w1.setCell ⟨rb,6,none⟩ (.int .i64 ((dp:Int)+1))) rb s L tv a (dp+1) w.heap.size kd (.slice none 0 0) [] [] D):=(H1.o).2.moved CY (by have:=(H1.o).2.iF.deep (dp+1);rw[mr] at this;exact this);clear c0 c1 c2 c3 c4 c5 c6 f0 f1 f2 f3 f4 f5 f6 CY H1;generalize w1.setCell ⟨rb,6,none⟩ (.int .i64 ((dp:Int)+1))=W2 at *;refine(jY s L (dp+1) hS rb tv a w.heap.size kd (.slice none 0 0) [] [] D W2 HW2.o hn (by simp;omega)).mono ?_;rintro e w3 ⟨rfl,H3⟩;rw[bT] at H3;go_wp2_with fail
 refine bf.then (H3.o) hI trivial (by omega) ?_;intro w4 H4;have HD:Hid (∃ a4:Nat,jl w4 rb s tv a4 (qY L a4) (X.bJ (bn s L a4)) (ba (X.rU (bn s L a4))) ((dp+1:Nat):Int)):=by
  obtain⟨a4,_,_,_,g1,_⟩:=H4.o;exact⟨a4,g1.iF.raw⟩
 obtain⟨a4,hraw⟩:=HD.o;obtain⟨⟨c0,c1,c2,c3,c4,c5,c6⟩,f0,f1,f2,f3,f4,f5,f6⟩:=hraw.facts;rw[mr] at c6;have HC:Hid (bf w rb s L tv dp B k rv (ps++(X.node kd (X.andThen X.take I) (bn s L a)).1) (X.node kd (X.andThen X.take I) (bn s L a)).2 D (w4.setCell ⟨rb,6,none⟩ (.int .i64 dp))):=(OW.o).close (H4.o.deep dp);clear H4 H3 HD hraw OW HW2;go_wp2_with fail
 go_end0;exact⟨rfl,by simpa using HC⟩
end
section
open Tryz
open Go.RowKit
variable{w w1:World}{rb dp B k:Nat}{s:ByteArray}{L:List Tk}{tv rv:Value}{ps1:List X.Part}{eF:List X.Tok}{D:Nat→Prop}{Q:Ending→World→Prop}
def He(ss:List (ah)):Array Value:=(ss.map (fun x=>Value.string (ba x))).toArray
theorem uO(w:World)(ss:List (ah))(hl:ss.length≤1073741824):qo (w.alloc (Obj.cells (He ss) 9)) w.heap.size ss:=by
 refine⟨fun i z hz=>?_,hl⟩;rw[ai _ _ i _ _ _ (aB w _)];unfold He;simp[hz]
theorem bf.jv
  (h:bf w rb s L tv dp B k rv ps1 eF D w1) (ss:List (ah)) (hl:ss.length≤1073741824)
  (hQ:∀ w2,Hid (bf w rb s L tv dp B k rv ps1 eF D w2)→Q (.returned (.bool (ss.any (fun x=>X.pN x eF)))) w2) :
  Calls prog 89 #[.pointer (some ⟨rb,0,none⟩),.slice (some ⟨w1.heap.size,0,none⟩) ss.length ss.length] (w1.alloc (Obj.cells (He ss) 9)) Q:=by
 obtain⟨a1,oI,vs1,D1,g1,rfl,g3,g4,g5,g6⟩:=h;have kA:Below w1.heap.size w1 (w1.alloc (Obj.cells (He ss) 9)):=(ay _ w1).alloc (aj _) _;refine(uN rb s L tv a1 dp _ (g1.below kA).iF w1.heap.size ss (uO w1 ss hl)).mono ?_;rintro e w2 ⟨rfl,k2⟩;have hk:Below w1.heap.size w1 w2:=kA.trans (k2.mono (by simp));exact hQ w2 ⟨a1,oI,vs1,D1,g1.below hk,rfl,g3,g4,g5,Kp.trans g6 (Kp.aI hk (fun _=>False)) (fun _ _ h=>h.elim)⟩
theorem bf.want
  (h:bf w rb s L tv dp B k rv ps1 eF D w1) (hS:kJ s L) (ss:List (ah)) (hx:∀ x∈ss,x≠[]) (hl1:ss.length≤1073741824) (hl:ps1.length+(X.dO ss eF).1.length≤1073741824)
  (hQ:∀ w2,Hid (bf w rb s L tv dp B k rv (ps1++(X.dO ss eF).1) (X.dO ss eF).2 D w2)→Q (.returned (.tuple #[])) w2) :
  Calls prog 116 #[.pointer (some ⟨rb,0,none⟩),.pointer (some ⟨B,0,none⟩),.slice (some ⟨w1.heap.size,0,none⟩) ss.length ss.length] (w1.alloc (Obj.cells (He ss) 9)) Q:=by
 obtain⟨a1,oI,vs1,D1,g1,rfl,g3,g4,g5,g6⟩:=h;have kA:Below w1.heap.size w1 (w1.alloc (Obj.cells (He ss) 9)):=(ay _ w1).alloc (aj _) _;have hbl:=g1.r_.lt;have hrl:=g1.iF.raw.lt;refine(Sv s L dp hS rb tv a1 B k oI vs1 ps1 D1 _ (g1.below kA) w1.heap.size ss (uO w1 ss hl1) hx ⟨by omega,by omega,fun e=>by have:=(dV g1.r_.row _ e).2;omega,by simp⟩ hl).mono ?_;rintro e w2 ⟨rfl,H2⟩;refine hQ w2 (bf.trans g3 g4 g5 (Kp.trans g6 (Kp.aI kA (fun _=>False)) (fun _ _ h=>h.elim)) ?_);obtain⟨a2,NC,vs2,D2,f1,f2,f3,f4,f5,f6⟩:=H2.o;refine⟨a2,NC,vs2,D2,f1,f2,f3,fun q hq=>?_,fun g hg=>?_,f6⟩
 ·exact f4 q hq
 ·exact f5 g hg
theorem bf.start{a:Nat}{vs:List Value}{ps:List X.Part}(h:Wk w rb s L tv a dp B k rv vs ps D):Hid (bf w rb s L tv dp B k rv ps (bn s L a) D w):=bf.refl h
theorem bf.good(h:bf w rb s L tv dp B k rv ps1 eF D w1)(hS:kJ s L):X.Good eF:=by
 obtain⟨a1,oI,vs1,D1,g1,rfl,-⟩:=h;exact hS.rem a1
end
section
variable{x:ah}
namespace X
def bR(f:R):Prop:=∀ ts,∃ n,(f ts).2=ts.drop n
theorem bR.le{f:R}(h:bR f)(ts:List Tok):(f ts).2.length≤ts.length:=by
 obtain⟨n,e⟩:=h ts;rw[e,bM];omega
theorem bR.good{f:R}(h:bR f){ts:List Tok}(hg:Good ts):Good (f ts).2:=by
 obtain⟨n,e⟩:=h ts;rw[e];exact fun t ht=>hg t ((List.drop_sublist _ _).subset ht)
theorem bR.nil:bR Ez:=fun _=>⟨0,rfl⟩
theorem bR.andThen{f g:R}(hf:bR f)(hg:bR g):bR (andThen f g):=by
 intro ts;obtain⟨n,e⟩:=hf ts;obtain⟨m,e'⟩:=hg (f ts).2;exact⟨n+m,by show(g (f ts).2).2=_;rw[e',e,dB]⟩
theorem bR.node{f:R}(hf:bR f)(k:Nat):bR (node k f):=hf
theorem bR.ite{f g:R}{c:List Tok→Bool}(hf:bR f)(hg:bR g):bR (fun ts=>if c ts then f ts else g ts):=by
 intro ts;show ∃ n,(if c ts then f ts else g ts).2=_
 split
 ·exact hf ts
 ·exact hg ts
theorem bR.miss(m:ah):bR (fun ts=>([.miss m],ts)):=fun _=>⟨0,rfl⟩
theorem yL(p:Tok→Bool)(l:List Tok):∃ n,l.dropWhile p=l.drop n:=⟨_,dropWhile_drop p l⟩
theorem bR.take:bR take:=by
 intro ts;obtain⟨n,e⟩:=yL quiet ts;exact⟨n+1,by show(ts.dropWhile quiet).drop 1=_;rw[e,dB]⟩
theorem fD{ts:List Tok}(h:iE ts≠none):(take ts).2.length<ts.length:=by
 have h1:(ts.dropWhile quiet).length≤ts.length:=(fo _).length_le;have h2:0<(ts.dropWhile quiet).length:=by
  rcases gF (ts.dropWhile quiet).length with g|g
  ·exfalso;apply h;unfold iE;rw[aT.1 g];rfl
  ·exact g
 show((ts.dropWhile quiet).drop 1).length<_;rw[bM];omega
theorem bR.want(x:ah):bR (want x):=bR.ite (c:=bX x) bR.take (bR.miss x)
theorem bR.aV:bR aV:=bR.ite (c:=fun ts=>bJ ts==3) bR.take (bR.miss fF)
theorem aZ{ts:List Tok}(h:bX x ts=true):iE ts≠none:=by
 intro e;unfold bX at h;rw[e] at h;cases h
theorem gq{k:Nat}{ts:List Tok}(hk:k≠0)(h:(bJ ts==k)=true):iE ts≠none:=by
 intro e;unfold bJ at h;rw[e] at h;simp at h;omega
theorem pK{ts:List Tok}(hg:Good ts)(hs:x∈words∨x∈signs):qN x ts=want x ts:=by
 unfold qN want;rw[fI hg hs]
theorem uP{ts:List Tok}(hg:Good ts):qN fF ts=aV ts:=by
 unfold qN aV;rw[LA hg]
theorem nE(x:ah):dO [x]=qN x:=by rw[dO,dO,yC]
theorem J8{one:R}(hO:bR one):∀(n:Nat) (ts:List Tok),ts.length≤n→fO one n ts=fO one ts.length ts:=by
 intro n
 induction n using Nat.strongRecOn with
 | _ n ih =>
  intro ts h;rcases bE ts.length n with hlt|hge
  ·cases n with
   | zero=>omega
   | succ n =>
    cases hm:ts.length with
    | zero =>
     have h0:ts=[]:=aT.1 hm;subst h0;rfl
    | succ m =>
     unfold fO;by_cases hc:bX [44] ts=true
     ·rw[aL hc,aL hc]
      have hl:=fD (aZ hc);have hl2:=hO.le (take ts).2;have e1:=ih n (by omega) (one (take ts).2).2 (by omega);have e2:=ih m (by omega) (one (take ts).2).2 (by omega);show(_,_)=(_,_);simp only[X.andThen];rw[e1,e2]
     ·rw[aG hc,aG hc]
  ·rw[show n=ts.length by omega]
def jd(one:R):R:=fun ts=>fO one ts.length ts
theorem wo{one:R}(hO:bR one){ts:List Tok}(h:bX [44] ts=true):jd one ts=andThen take (andThen one (jd one)) ts:=by
 have hl:=fD (aZ h);have hl2:=hO.le (take ts).2;unfold jd;obtain⟨m,hm⟩:∃ m,ts.length=m+1:=⟨ts.length - 1,by omega⟩;rw[hm]
 conv=>lhs;unfold fO
 rw[aL h];simp only[X.andThen];rw[J8 hO m _ (by omega)]
theorem wu{one:R}{ts:List Tok}(h:bX [44] ts=false):jd one ts=([],ts):=by
 unfold jd;cases ts.length with
 | zero=>rfl
 | succ m=>unfold fO;rw[aG (by rw[h];simp)]
theorem bR.fO{one:R}(h:bR one):∀ n,bR (fO one n)
 | 0=>bR.nil
 | n+1=>bR.ite (c:=bX [44]) (bR.take.andThen (h.andThen (bR.fO h n))) bR.nil
theorem bR.jd{one:R}(h:bR one):bR (jd one):=fun ts=>bR.fO h ts.length ts
theorem rG(one:R)(e:ah)(ts:List Tok):bO one e ts=if bX e ts then want e ts else andThen one (andThen (jd one) (want e)) ts:=rfl
theorem bR.bO{one:R}(h:bR one)(e:ah):bR (bO one e):=bR.ite (c:=bX e) (bR.want e) (h.andThen (h.jd.andThen (bR.want e)))
theorem bR.params:bR params:=((bR.want _).andThen (bR.aV.bO _)).node 6
theorem J9{one:R}{ok:List Tok→Bool}(hO:bR one)(hok:∀ ts,ok ts=true→iE ts≠none):∀(n:Nat) (p:List Part) (ts:List Tok),ts.length≤n→fK one ok n p ts=fK one ok ts.length p ts:=by
 intro n
 induction n using Nat.strongRecOn with
 | _ n ih =>
  intro p ts h;rcases bE ts.length n with hlt|hge
  ·cases n with
   | zero=>omega
   | succ n =>
    by_cases hc:ok ts=true
    ·have hl:=fD (hok ts hc)
     have hl2:=hO.le (take ts).2;obtain⟨m,hm⟩:∃ m,ts.length=m+1:=⟨ts.length - 1,by omega⟩;rw[hm];unfold fK;rw[aL hc,aL hc,ih n (by omega) _ _ (by show(one (take ts).2).2.length≤_;omega),ih m (by omega) _ _ (by show(one (take ts).2).2.length≤_;omega)]
    ·have e:∀ m,fK one ok (m+1) p ts=(p,ts):=fun m=>by unfold fK;rw[aG hc]
     rw[e n];cases hm:ts.length with
     | zero=>rfl
     | succ m=>rw[e m]
  ·rw[show n=ts.length by omega]
def Az(one:R)(ok:List Tok→Bool)(p:List Part):R:=fun ts=>fK one ok ts.length p ts
theorem wz{one:R}{ok:List Tok→Bool}(hO:bR one)(hok:∀ ts,ok ts=true→iE ts≠none){p:List Part}{ts:List Tok}(h:ok ts=true):Az one ok p ts=Az one ok [.br 10 (p++(andThen take one ts).1)] (andThen take one ts).2:=by
 have hl:=fD (hok ts h);have hl2:=hO.le (take ts).2;unfold Az;obtain⟨m,hm⟩:∃ m,ts.length=m+1:=⟨ts.length - 1,by omega⟩;rw[hm]
 conv=>lhs;unfold fK
 rw[aL h,J9 hO hok m _ _ (by show(one (take ts).2).2.length≤_;omega)]
theorem wF{one:R}{ok:List Tok→Bool}{p:List Part}{ts:List Tok}(h:ok ts=false):Az one ok p ts=(p,ts):=by
 unfold Az;cases ts.length with
 | zero=>rfl
 | succ m=>unfold fK;rw[aG (by rw[h];simp)]
theorem SA(one:R)(ok:List Tok→Bool)(ts:List Tok):row one ok ts=Az one ok (one ts).1 (one ts).2:=rfl
theorem bR.fK{one:R}{ok:List Tok→Bool}(h:bR one):∀(n:Nat) (p:List Part),bR (fK one ok n p)
 | 0,_=>fun _=>⟨0,rfl⟩
 | n+1,p=>by
  intro ts;unfold X.fK
  split
  ·obtain⟨m,e⟩:=(bR.take.andThen h) ts
   obtain⟨m',e'⟩:=bR.fK (ok:=ok) h n [.br 10 (p++(X.andThen X.take one ts).1)] (X.andThen X.take one ts).2;exact⟨m+m',by rw[e',e,dB]⟩
  ·exact⟨0,rfl⟩
theorem bR.row{one:R}{ok:List Tok→Bool}(h:bR one):bR (row one ok):=by
 intro ts;obtain⟨m,e⟩:=h ts;obtain⟨m',e'⟩:=bR.fK (ok:=ok) h (one ts).2.length (one ts).1 (one ts).2;exact⟨m+m',by show(X.fK _ _ _ _ _).2=_;rw[e',e,dB]⟩
theorem bR.args{E:R}(h:bR E):bR (args E):=(bR.take.andThen (h.bO _)).node 12
theorem wG{E:R}(h:bR E){ts:List Tok}(hn:iE ts≠none):(args E ts).2.length<ts.length:=by
 have h1:=fD hn;have h2:=(h.bO [41]).le (take ts).2;show(bO E [41] (take ts).2).2.length<_;omega
theorem Hf{E:R}(hE:bR E):∀(n:Nat) (p:List Part) (ts:List Tok),ts.length≤n→dW E n p ts=dW E ts.length p ts:=by
 intro n
 induction n using Nat.strongRecOn with
 | _ n ih =>
  intro p ts h;rcases bE ts.length n with hlt|hge
  ·cases n with
   | zero=>omega
   | succ n =>
    by_cases hc:bX [40] ts=true
    ·have hl:=wG hE (aZ hc)
     obtain⟨m,hm⟩:∃ m,ts.length=m+1:=⟨ts.length - 1,by omega⟩;rw[hm];unfold dW;rw[aL hc,aL hc,ih n (by omega) _ _ (by omega),ih m (by omega) _ _ (by omega)]
    ·have e:∀ m,dW E (m+1) p ts=(p,ts):=fun m=>by unfold dW;rw[aG hc]
     rw[e n];cases hm:ts.length with
     | zero=>rfl
     | succ m=>rw[e m]
  ·rw[show n=ts.length by omega]
def rV(E:R)(p:List Part):R:=fun ts=>dW E ts.length p ts
theorem ug{E:R}(hE:bR E){p:List Part}{ts:List Tok}(h:bX [40] ts=true):rV E p ts=rV E [.br 11 (p++(args E ts).1)] (args E ts).2:=by
 have hl:=wG hE (aZ h);unfold rV;obtain⟨m,hm⟩:∃ m,ts.length=m+1:=⟨ts.length - 1,by omega⟩;rw[hm]
 conv=>lhs;unfold dW
 rw[aL h,Hf hE m _ _ (by omega)]
theorem tJ{E:R}{p:List Part}{ts:List Tok}(h:bX [40] ts=false):rV E p ts=(p,ts):=by
 unfold rV;cases ts.length with
 | zero=>rfl
 | succ m=>unfold dW;rw[aG (by rw[h];simp)]
theorem bR.dW{E:R}(h:bR E):∀(n:Nat) (p:List Part),bR (dW E n p)
 | 0,_=>fun _=>⟨0,rfl⟩
 | n+1,p=>by
  intro ts;unfold X.dW
  split
  ·obtain⟨m,e⟩:=h.args ts
   obtain⟨m',e'⟩:=bR.dW h n [.br 11 (p++(X.args E ts).1)] (X.args E ts).2;exact⟨m+m',by rw[e',e,dB]⟩
  ·exact⟨0,rfl⟩
theorem bR.part{E:R}(h:bR E):bR (part E) :=
 bR.ite (c:=fun ts=>bJ ts==5) (bR.take.node _) <|
 bR.ite (c:=fun ts=>bJ ts==6) (bR.take.node _) <|
 bR.ite (c:=fun ts=>bX [116,114,117,101] ts||bX [102,97,108,115,101] ts) (bR.take.node _) <|
 bR.ite (c:=fun ts=>bJ ts==3) (bR.take.node _) <|
 bR.ite (c:=bX [63]) (bR.take.node _) <|
 bR.ite (c:=bX [40]) ((bR.take.andThen (h.andThen (bR.want _))).node _) <|
 bR.ite (c:=bX [91]) ((bR.take.andThen (h.bO _)).node _) (bR.miss _)
theorem bR.call{E:R}(h:bR E):bR (call E):=by
 intro ts;obtain⟨m,e⟩:=h.part ts;obtain⟨m',e'⟩:=bR.dW h (X.part E ts).2.length (X.part E ts).1 (X.part E ts).2;exact⟨m+m',by show(X.dW _ _ _ _).2=_;rw[e',e,dB]⟩
theorem bR.product{E:R}(h:bR E):bR (product E):=h.call.row
theorem bR.sum{E:R}(h:bR E):bR (sum E):=h.product.row
theorem bR.comparison{E:R}(h:bR E):bR (comparison E):=by
 intro ts;by_cases hc:(bX [61,61] (X.sum E ts).2||bX [60] (X.sum E ts).2)=true
 ·have e3:(X.comparison E ts).2=(X.andThen X.take (X.sum E) (X.sum E ts).2).2:=by unfold X.comparison;rw[aL hc]
  obtain⟨m,e⟩:=h.sum ts;obtain⟨m',e'⟩:=(bR.take.andThen h.sum) (X.sum E ts).2;refine⟨m+m',?_⟩;rw[e3,e',e,dB]
 ·have e3:X.comparison E ts=X.sum E ts:=by unfold X.comparison;rw[aG hc]
  rw[e3];exact h.sum ts
theorem bR.expr:∀ n,bR (expr n)
 | 0=>bR.miss _
 | n+1 =>
  have h:=bR.expr n
  bR.ite (c:=bX [108,101,116]) ((bR.take.andThen (bR.aV.andThen ((bR.want _).andThen (h.andThen ((bR.want _).andThen h))))).node _) <|
  bR.ite (c:=bX [105,102]) ((bR.take.andThen (h.andThen ((bR.want _).andThen (h.andThen ((bR.want _).andThen h))))).node _) <|
  bR.ite (c:=bX [102,117,110]) ((bR.take.andThen (bR.params.andThen ((bR.want _).andThen h))).node _) h.comparison
end X
namespace X
def Cap(f:R)(c:Nat):Prop:=∀ ts,(f ts).1.length+2*(f ts).2.length≤c+2*ts.length
theorem Cap.le{f:R}{c:Nat}(h:Cap f c)(ts:List Tok):(f ts).1.length≤c+2*ts.length:=by have:=h ts;omega
theorem Cap.mono{f:R}{c d:Nat}(h:Cap f c)(hd:c≤d):Cap f d:=fun ts=>by have:=h ts;omega
theorem Cap.nil:Cap Ez 0:=fun ts=>by show 0+_≤_;simp[Ez]
theorem Cap.andThen{f g:R}{c d:Nat}(hf:Cap f c)(hg:Cap g d):Cap (andThen f g) (c+d):=by
 intro ts;have h1:=hf ts;have h2:=hg (f ts).2;show((f ts).1++(g (f ts).2).1).length+2*(g (f ts).2).2.length≤_;rw[ak];omega
theorem Cap.ite{f g:R}{c:Nat}{b:List Tok→Bool}(hf:Cap f c)(hg:Cap g c):Cap (fun ts=>if b ts then f ts else g ts) c:=by
 intro ts;show(if b ts then f ts else g ts).1.length+2*(if b ts then f ts else g ts).2.length≤_
 split
 ·exact hf ts
 ·exact hg ts
theorem Cap.miss(m:ah):Cap (fun ts=>([.miss m],ts)) 1:=fun ts=>by show 1+_≤_;simp
theorem take_len(ts:List Tok):(take ts).1.length+(take ts).2.length=ts.length:=by
 show(List.map lf (ts.takeWhile quiet++(ts.dropWhile quiet).take 1)).length+((ts.dropWhile quiet).drop 1).length=_;have h:=congrArg List.length (dZ (p:=quiet) (l:=ts));rw[ak] at h;rw[eG,ak,bL,bM];omega
theorem Cap.take:Cap take 0:=fun ts=>by have:=take_len ts;omega
theorem Cap.want(x:ah):Cap (want x) 1:=Cap.ite (b:=bX x) (Cap.take.mono (by omega)) (Cap.miss x)
theorem Cap.aV:Cap aV 1:=Cap.ite (b:=fun ts=>bJ ts==3) (Cap.take.mono (by omega)) (Cap.miss fF)
theorem Cap.fO{one:R}(h:Cap one 1):∀ n,Cap (fO one n) 0
 | 0=>Cap.nil
 | n+1=>by
  intro ts;unfold X.fO;by_cases hc:bX [44] ts=true
  ·rw[aL hc]
   have h1:=fD (aZ hc);have h2:=take_len ts;have h3:=(h.andThen (Cap.fO h n)) (X.take ts).2;show((X.take ts).1++(X.andThen one (X.fO one n) (X.take ts).2).1).length+2*(X.andThen one (X.fO one n) (X.take ts).2).2.length≤_;rw[ak];omega
  ·rw[aG hc];simp
theorem Cap.jd{one:R}(h:Cap one 1):Cap (jd one) 0:=fun ts=>Cap.fO h ts.length ts
theorem Cap.bO{one:R}(h:Cap one 1)(e:ah):Cap (bO one e) 2:=Cap.ite (b:=bX e) ((Cap.want e).mono (by omega)) (h.andThen (h.jd.andThen (Cap.want e)))
def eY(f:R):Prop:=∀ ts,∃ p,(f ts).1=[p]
theorem eY.node(f:R)(k:Nat):eY (node k f):=fun ts=>⟨.br k (f ts).1,rfl⟩
theorem eY.miss(m:ah):eY (fun ts=>([.miss m],ts)):=fun _=>⟨_,rfl⟩
theorem eY.ite{f g:R}{b:List Tok→Bool}(hf:eY f)(hg:eY g):eY (fun ts=>if b ts then f ts else g ts):=by
 intro ts;show ∃ p,(if b ts then f ts else g ts).1=[p]
 split
 ·exact hf ts
 ·exact hg ts
theorem eY.fK{one:R}{ok:List Tok→Bool}:∀(n:Nat) (p:Part) (ts:List Tok),∃ q,(fK one ok n [p] ts).1=[q]
 | 0,p,_=>⟨p,rfl⟩
 | n+1,p,ts=>by
  unfold X.fK
  split
  ·exact eY.fK n _ _
  ·exact⟨p,rfl⟩
theorem eY.row{one:R}{ok:List Tok→Bool}(h:eY one):eY (row one ok):=by
 intro ts;obtain⟨p,e⟩:=h ts;show ∃ q,(X.fK one ok (one ts).2.length (one ts).1 (one ts).2).1=[q];rw[e];exact eY.fK _ _ _
theorem eY.dW{E:R}:∀(n:Nat) (p:Part) (ts:List Tok),∃ q,(dW E n [p] ts).1=[q]
 | 0,p,_=>⟨p,rfl⟩
 | n+1,p,ts=>by
  unfold X.dW
  split
  ·exact eY.dW n _ _
  ·exact⟨p,rfl⟩
theorem eY.part(E:R):eY (part E) :=
 eY.ite (b:=fun ts=>bJ ts==5) (eY.node _ _) <|
 eY.ite (b:=fun ts=>bJ ts==6) (eY.node _ _) <|
 eY.ite (b:=fun ts=>bX [116,114,117,101] ts||bX [102,97,108,115,101] ts) (eY.node _ _) <|
 eY.ite (b:=fun ts=>bJ ts==3) (eY.node _ _) <|
 eY.ite (b:=bX [63]) (eY.node _ _) <|
 eY.ite (b:=bX [40]) (eY.node _ _) <|
 eY.ite (b:=bX [91]) (eY.node _ _) (eY.miss _)
theorem eY.call(E:R):eY (call E):=by
 intro ts;obtain⟨p,e⟩:=eY.part E ts;show ∃ q,(X.dW E (X.part E ts).2.length (X.part E ts).1 (X.part E ts).2).1=[q];rw[e];exact eY.dW _ _ _
theorem eY.product(E:R):eY (product E):=(eY.call E).row
theorem eY.sum(E:R):eY (sum E):=(eY.product E).row
theorem eY.comparison(E:R):eY (comparison E):=by
 intro ts;by_cases hc:(bX [61,61] (X.sum E ts).2||bX [60] (X.sum E ts).2)=true
 ·unfold X.comparison;rw[aL hc];exact⟨_,rfl⟩
 ·unfold X.comparison;rw[aG hc];exact eY.sum E ts
theorem eY.expr:∀ n,eY (expr n)
 | 0=>eY.miss _
 | _+1=>eY.ite (b:=bX [108,101,116]) (eY.node _ _) <| eY.ite (b:=bX [105,102]) (eY.node _ _) <| eY.ite (b:=bX [102,117,110]) (eY.node _ _) (eY.comparison _)
theorem eY.cap{f:R}(h:eY f)(hs:bR f):Cap f 1:=by
 intro ts;obtain⟨p,e⟩:=h ts;have:=hs.le ts;rw[e];simp;omega
theorem eY.len{f:R}(h:eY f)(ts:List Tok):(f ts).1.length=1:=by obtain⟨p,e⟩:=h ts;rw[e];rfl
end X
end
section
open Tryz
open Go.RowKit
variable{w w1:World}{rb dp B k:Nat}{s:ByteArray}{L:List Tk}{tv rv:Value}{ps1:List X.Part}{eF:List X.Tok}{D:Nat→Prop}
def V6(rb:Nat)(w:World):Nat:=match w.cell? ⟨rb,2,none⟩ with|some (.int _ a)=>a.toNat|_=>0
theorem bf.at(h:bf w rb s L tv dp B k rv ps1 eF D w1):L.length - V6 rb w1=eF.length:=by
 obtain⟨a1,oI,vs1,D1,g1,rfl,-⟩:=h;obtain⟨⟨c0,c1,c2,-⟩,-⟩:=g1.iF.raw.facts;have:V6 rb w1=a1:=by unfold V6;rw[c2];rfl
 rw[this];unfold bn;simp
theorem bf.len(h:bf w rb s L tv dp B k rv ps1 eF D w1):eF.length≤L.length:=by
 obtain⟨a1,oI,vs1,D1,g1,rfl,-⟩:=h;unfold bn;simp
def SB(fn:FuncId)(args:Nat→Nat→Array Value)(F:X.R)(ok:List X.Tok→Prop)(s:ByteArray)(L:List Tk)(dp:Nat):Prop :=
 ∀(rb:Nat) (tv:Value) (a B k:Nat) (rv:Value) (vs:List Value) (ps:List X.Part) (D:Nat→Prop) (w:World),Wk w rb s L tv a dp B k rv vs ps D→ok (bn s L a)→ps.length+(F (bn s L a)).1.length≤1073741824 →
  Calls prog fn (args rb B) w fun en w'=>en=.returned (.tuple #[])∧Hid (bf w rb s L tv dp B k rv (ps++(F (bn s L a)).1) (F (bn s L a)).2 D w')
theorem bf.aQ2{fn:FuncId}{args:Nat→Nat→Array Value}{F:X.R}{ok:List X.Tok→Prop}{Q:Ending→World→Prop}
  (h:bf w rb s L tv dp B k rv ps1 eF D w1) (hF:SB fn args F ok s L dp) (hok:ok eF) (hl:ps1.length+(F eF).1.length≤1073741824)
  (hQ:∀ w2,Hid (bf w rb s L tv dp B k rv (ps1++(F eF).1) (F eF).2 D w2)→Q (.returned (.tuple #[])) w2) :
  Calls prog fn (args rb B) w1 Q:=by
 obtain⟨a1,oI,vs1,D1,g1,rfl,g3,g4,g5,g6⟩:=h;refine(hF rb tv a1 B k oI vs1 ps1 D1 w1 g1 hok hl).mono ?_;rintro e w2 ⟨rfl,H2⟩;exact hQ w2 (bf.trans g3 g4 g5 g6 H2.o)
theorem SF(s:ByteArray)(L:List Tk)(dp:Nat)(hS:kJ s L):Reads 147 X.aV (fun _=>True) s L dp:=by
 intro rb tv a B k rv vs ps D w h _ hl;have H:=bf.start h;have hg:=hS.rem a;have e1:X.dO [X.fF] (bn s L a)=X.aV (bn s L a):=by rw[X.nE,X.uP hg]
 rw[← e1] at hl ⊢;clear h e1;go_enter func147,ntmps147;go_wp2_with fail
 refine bf.want (H.o) hS [X.fF] (by simp[X.fF]) (by simp) hl ?_;intro w1 H1;go_wp2_with fail
 go_end0;exact⟨rfl,H1⟩
theorem Hg(s:ByteArray)(L:List Tk)(dp:Nat)(hS:kJ s L)(fn:FuncId)(hen:∀ args w,(callFunc fn args).run prog w=.ok (.enter fn args) w)(O:X.R)(hO:Reads fn O (fun _=>True) s L dp)(hsh:X.bR O)(e:ah)(he:e∈X.signs) :
  SB 146 (fun rb B=>#[.pointer (some ⟨rb,0,none⟩),.pointer (some ⟨B,0,none⟩),.func (.func fn) #[.pointer (some ⟨rb,0,none⟩)] #[],.string (ba e)]) (X.bO O e) (fun _=>True) s L dp:=by
 intro rb tv a B k rv vs ps D w h _ hl;have H:=bf.start h;have hg:=hS.rem a;have aQ3:e≠[]:=by rintro rfl;revert he;decide
 have HO:=au hO;rw[X.rG] at hl;clear h hO;have e1:[e].any (fun x=>X.pN x (bn s L a))=X.bX e (bn s L a):=by simp[X.fI hg (.inr he)]
 go_enter func146,ntmps146;go_wp2_with fail
 refine bf.jv (H.o) [e] (by simp) ?_;intro w1 H1;rw[e1];clear e1 H;cases hc:X.bX e (bn s L a) with
 | true =>
  rw[hc] at hl;simp only[sj] at hl;have e2:X.dO [e] (bn s L a)=X.want e (bn s L a):=by rw[X.nE,X.pK hg (.inr he)]
  rw[← e2] at hl;go_wp2_with fail
  refine bf.want (H1.o) hS [e] (by simpa using aQ3) (by simp) hl ?_;intro w2 H2;go_wp2_with fail
  go_end0;refine⟨rfl,?_⟩;rw[X.rG,hc,aL rfl,← e2];exact H2
 | false =>
  rw[hc] at hl;simp only[eO,nR] at hl;have hlA:ps.length+((O (bn s L a)).1.length+((X.jd O (O (bn s L a)).2).1.length+(X.want e (X.jd O (O (bn s L a)).2).2).1.length))≤1073741824:=by
   simp only[X.andThen,ak] at hl;omega
  go_wp2_with fail
  refine bf.then (H1.o) (HO.o) trivial (by omega) ?_;intro w2 H2;go_wp2_with fail
  go_loopw [] (fun wr=>∃(acc:List X.Part) (eF:List X.Tok),Hid (bf w rb s L tv dp B k rv (ps++acc) eF D wr)∧Hid (X.andThen O (X.jd O) (bn s L a)=(acc++(X.jd O eF).1,(X.jd O eF).2))) (fun wr=>L.length - V6 rb wr)
  case atStart=>exact⟨_,_,H2,(rfl:_=_)⟩
  case round =>
   obtain⟨acc,eF,H3,HE⟩:=hrel;have hg1:=(H3.o).good hS;have hlB:acc.length+(X.jd O eF).1.length=(O (bn s L a)).1.length+(X.jd O (O (bn s L a)).2).1.length:=by
    have:=congrArg (fun z=>z.1.length) HE.o;simp only[X.andThen,ak] at this;omega
   have e3:[[44]].any (fun x=>X.pN x eF)=X.bX [44] eF:=by simp[X.fI hg1 (.inr (by decide:[44]∈X.signs))]
   go_wp2_with fail
   refine bf.jv (H3.o) [[44]] (by simp) ?_;intro w4 H4;rw[e3];cases hc2:X.bX [44] eF with
   | true =>
    have hs:=X.wo hsh hc2;have hlC:(X.jd O eF).1.length=(X.take eF).1.length+((O (X.take eF).2).1.length+(X.jd O (O (X.take eF).2).2).1.length):=by
     rw[hs];simp only[X.andThen,ak]
    go_wp2_with fail
    refine bf.then (H4.o) (jY s L dp hS) (X.aZ hc2) (by rw[ak];omega) ?_;intro w5 H5;go_wp2_with fail
    refine bf.then (H5.o) (HO.o) trivial (by rw[ak,ak];omega) ?_;intro w6 H6;go_wp2_with fail
    refine⟨⟨acc++(X.take eF).1++(O (X.take eF).2).1,(O (X.take eF).2).2,?_,?_⟩,?_⟩
    ·have:ps++(acc++(X.take eF).1++(O (X.take eF).2).1)=ps++acc++(X.take eF).1++(O (X.take eF).2).1:=by simp
     rw[this];exact H6
    ·show _=_
     rw[HE.o,hs];simp[X.andThen]
    ·rw[(H6.o).at,(H3.o).at]
     have:=X.fD (X.aZ hc2);have:=hsh.le (X.take eF).2;omega
   | false =>
    have hs:=X.wu (one:=O) hc2;have hx:X.andThen O (X.jd O) (bn s L a)=(acc,eF):=by rw[HE.o,hs];simp
    have e4:X.dO [e] eF=X.want e eF:=by rw[X.nE,X.pK hg1 (.inr he)]
    have hx1:(X.jd O (O (bn s L a)).2).2=eF:=congrArg Prod.snd hx;have hx2:(O (bn s L a)).1++(X.jd O (O (bn s L a)).2).1=acc:=congrArg Prod.fst hx;rw[hx1] at hlA;go_wp2_with fail
    refine bf.want (H4.o) hS [e] (by simpa using aQ3) (by simp) (by rw[e4,ak,← hx2,ak];omega) ?_;intro w5 H5;go_wp2_with fail
    go_end0;refine⟨rfl,?_⟩;rw[X.rG,hc,aG (by simp)];have e5:X.andThen O (X.andThen (X.jd O) (X.want e)) (bn s L a)=(acc++(X.want e eF).1,(X.want e eF).2):=by
     rw[← X.andThen_assoc];show((X.andThen O (X.jd O) (bn s L a)).1++_,_)=_;simp only[hx]
    rw[e5,← aA,← e4];exact H5
end
end Go.Proofs.YtdkpkpgpphkljaaGreatDoor
