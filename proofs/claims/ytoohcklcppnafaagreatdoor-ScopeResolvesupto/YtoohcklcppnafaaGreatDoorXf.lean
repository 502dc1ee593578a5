import Derived.Test.YtoohcklcppnafaaGreatDoorTa
namespace Go.Proofs.YtoohcklcppnafaaGreatDoor
set_option maxRecDepth 100000
set_option maxHeartbeats 4000000
open M
open X
section
open Tryz
open Go.RowKit
variable{w w':aG}{D S:Nat→Prop}{v rv:Value}{p:Part}{vs:List Value}{B k:Nat}
inductive uJ(w:aG)(D:Nat→Prop):Value→Part→Prop
 | leaf (k:Nat) (x:ah):uJ w D (.iface 243 (.agg #[ak k,ak x.length])) (.leaf k x)
 | miss (m:ah):uJ w D (.iface 306 (.string (ba m))) (.miss m)
 | br (k N cap:Nat) (ao:Option Addr) (vs:Nat→Value) (ps:List Part) (hN:D N)
   (hb:w.heap[N]?=some (.cells #[ak k,.slice ao ps.length cap] 130 (0,0))) (hc:ps.length≤cap∧cap≤maxLen)
   (hr:∀ i,i<ps.length→∃ g,ao=some ⟨g,0,none⟩∧D g∧w.cell? (aC g i)=some (vs i))
   (hp:∀(i:Nat) (p:Part),ps[i]?=some p→uJ w D (vs i) p):uJ w D (.iface 127 (aH N)) (.br k ps)
 | kid (N n:Nat) (p:Part) (hn:n=(pl p).length) (h:uJ w D (.iface 127 (aH N)) p):uJ w D (.iface 135 (.agg #[aH N,ak n])) p
theorem uJ.mono{D':Nat→Prop}(hD:∀ q,D q→D' q)(h:uJ w D v p):uJ w D' v p:=by
 induction h with
 | leaf k x=>exact .leaf k x
 | miss m=>exact .miss m
 | br k N cap ao vs ps hN hb hc hr hp ih =>
  exact .br k N cap ao vs ps (hD _ hN) hb hc (fun i hi=>by obtain⟨g,h1,h2,h3⟩:=hr i hi;exact⟨g,h1,hD _ h2,h3⟩) ih
 | kid N n p hn h ih=>exact .kid N n p hn ih
theorem uJ.keep(hk:Kp S w w')(hD:∀ q,D q→¬ S q)(h:uJ w D v p):uJ w' D v p:=by
 induction h with
 | leaf k x=>exact .leaf k x
 | miss m=>exact .miss m
 | br k N cap ao vs ps hN hb hc hr hp ih =>
  exact .br k N cap ao vs ps hN (hk.heap hb (hD _ hN)) hc (fun i hi=>by obtain⟨g,h1,h2,h3⟩:=hr i hi;exact⟨g,h1,h2,hk.dD h3 (hD _ h2)⟩) ih
 | kid N n p hn h ih=>exact .kid N n p hn ih
def Each(w:aG)(D:Nat→Prop)(vs:List Value)(ps:List Part):Prop:=∀(i:Nat) (p:Part),ps[i]?=some p→∃ v,vs[i]?=some v∧uJ w D v p
theorem Each.mono{w:aG}{D D':Nat→Prop}(hD:∀ q,D q→D' q){vs:List Value}{ps:List Part}(h:Each w D vs ps):Each w D' vs ps :=
 fun i p hp=>by obtain⟨v,h1,h2⟩:=h i p hp;exact⟨v,h1,h2.mono hD⟩
theorem Each.keep{S:Nat→Prop}{w w':aG}{D:Nat→Prop}(hk:Kp S w w')(hD:∀ q,D q→¬ S q){vs:List Value}{ps:List Part}(h:Each w D vs ps):Each w' D vs ps :=
 fun i p hp=>by obtain⟨v,h1,h2⟩:=h i p hp;exact⟨v,h1,h2.keep hk hD⟩
theorem Each.nil(w:aG)(D:Nat→Prop):Each w D [] []:=fun i p hp=>by simp at hp
theorem Each.snoc{ps:List Part}(h:Each w D vs ps)(hl:vs.length=ps.length)(hp:uJ w D v p):Each w D (vs++[v]) (ps++[p]):=by
 intro i q hq;by_cases hi:i<ps.length
 ·rw[bT hi] at hq
  obtain⟨u,h1,h2⟩:=h i q hq;exact⟨u,by rw[bT au];exact h1,h2⟩
 ·rw[bL au] at hq
  have h0:i - ps.length=0:=by
   rcases gZ (i - ps.length) with g|g
   ·exact g
   ·rw[bf aQ] at hq;cases hq
  rw[h0] at hq;obtain rfl:p=q:=by simpa using hq
  exact⟨v,by rw[bL au,hl,h0];rfl,hp⟩
structure xW(w:aG)(B:Nat)(k:Nat)(rv:Value)(vs:List Value):Prop where
 blk:w.heap[B]?=some (.cells #[ak k,rv] 130 (0,0))
 row:w.ownsRow 0 192 1 rv vs.length vs
theorem xW.lt(h:xW w B k rv vs):B<w.heap.size:=bN h.blk
theorem xW.keep(h:xW w B k rv vs)(hk:Kp S w w')(hB:¬ S B)(hg:∀ g,rv.ownBlock=some g→¬ S g):xW w' B k rv vs :=
 ⟨hk.heap h.blk hB,hk.owns h.row hg⟩
theorem xW.facts(h:xW w B k rv vs) :
  (w.cell? (aC B 0)=some (ak k)∧w.cell? (aC B 1)=some rv)∧(w.frozen? (aC B 0)=false∧w.frozen? (aC B 1)=false):=by
 have h:=h.blk;refine⟨⟨?_,?_⟩,?_,?_⟩<;>simp[World.cell?,World.frozen?,h]
theorem aW5:(prog.info? 192).map (fun i=>(i.zero,i.size,i.bytes))=some (some .nilIface,1,16):=bC
def Sb(B:Nat)(rv:Value)(q:Nat):Prop:=q=B∨rv.ownBlock=some q
theorem wO(B k:Nat)(rv:Value)(vs:List Value)(ty:TypeId)(x:Value)(w:aG)(h:xW w B k rv vs)(hg:∀ g,rv.ownBlock=some g→g≠B)(hl:vs.length≤1073741824) :
  bB 51 #[aH B,.iface ty x] w (cK (.tuple #[]) fun w'=>∃ rv',xW w' B k rv' (vs++[.iface ty x])∧(∀ g,rv'.ownBlock=some g→rv.ownBlock=some g∨w.heap.size≤g)∧Kp (Sb B rv) w w'):=by
 obtain⟨i0,hi0,hz0,hz1,hz2⟩:=dM aW5;obtain⟨⟨c0,c1⟩,f0,f1⟩:=h.facts;have HB:=aA h;have hbl:=h.lt;have HG:=aA hg;clear h hg;go_enter func51,ntmps51;go_wp2_with (at_builtin;refine wpList_append_lies _ rfl _ _ 128 rfl 0 192 i0 _ 1 16 underlying128 hi0 hz0 hz1 hz2 rfl aS rv vs.length _ rfl ((HB.o).row.alloc _) ⟨w.heap.size,0,none⟩ 1 1 [.iface ty x] rfl rfl (World.news_of_block (cs:=#[.iface ty x]) (aI w _)) (by simp[Value.oneCell']) au (by unfold maxLen;omega) au (bJ _) (w.heap.size+1) aT ?_;intro g cap5 w5 hown5 aV gI jm;have x1:=(aV.cell_far ⟨B,1,none⟩ aQ (fun e=>(HG.o) B e.symm rfl)).trans (Lib.cell?_alloc_some _ c1);have x2:=(aV.frozen_far ⟨B,1,none⟩ aQ (fun e=>(HG.o) B e.symm rfl)).trans ((bD _ _ ⟨B,1,none⟩ (Nat.ne_of_lt hbl)).trans f1);have Jr:=aA hown5;have vv:=aA aV;clear hown5 aV)
 go_end0;have hk1:Kp (Sb B rv) w w5:=Kp.grown (Kp.alloc (Kp.refl _ w) _) vv.o (fun k e _=>.inr e);have hk:Kp (Sb B rv) w (w5.setCell (aC B 1) (.slice (b_ g) (vs.length+1) cap5)):=Kp.setCell hk1 (p:=⟨B,1,none⟩) (fun _=>.inl rfl) _;have hgB:g≠B:=by
  rcases gI with e|e
  ·exact(HG.o) g e
  ·omega
 refine⟨rfl,.slice (b_ g) (vs.length+1) cap5,⟨?_,?_⟩,?_,hk⟩
 ·have h5:=(vv.o).block B aQ (fun e=>(HG.o) B e.symm rfl) |>.trans ((eG w _ hbl).trans (HB.o).blk)
  simp[World.setCell,aZ,h5]
 ·rw[ay]
  exact lu Jr.o (by simp[Value.ownBlock];omega) _
 ·intro q hq
  simp only[Value.ownBlock,dP] at hq;subst hq;rcases gI with e|e
  ·exact .inl e
  ·exact .inr au
end
section
open Tryz
open Go.RowKit
variable{w w':aG}{rb dp B k a e:Nat}{s:ByteArray}{L:List Tk}{tv rv:Value}{vs:List Value}{D:Nat→Prop}{ps:List Part}
structure Wk(w:aG)(rb:Nat)(s:ByteArray)(L:List Tk)(tv:Value)(a dp B k:Nat)(rv:Value)(vs:List Value)(ps:List Part)(D:Nat→Prop):Prop where
 iW:qA w rb s L tv a dp
 sM:xW w B k rv vs
 len:vs.length=ps.length
 each:Each w D vs ps
 IA:∀ q,D q→q<w.heap.size
 sep:¬ D rb∧¬ D B∧B≠rb
 oz:∀ g,rv.ownBlock=some g→¬ D g∧g≠rb∧g≠B
 uK:∀ q,tv.ownBlock=some q→¬ D q∧q≠B∧rv.ownBlock≠some q∧q<w.heap.size
def Sr(rb B:Nat)(rv:Value)(q:Nat):Prop:=q=rb∨Sb B rv q
def bU(w:aG)(rb:Nat)(s:ByteArray)(L:List Tk)(tv:Value)(dp B k:Nat)(rv:Value)(ps':List Part)(ts':List X.Tok)(D:Nat→Prop)(w':aG):Prop :=
 ∃ a' rv' vs' D',Wk w' rb s L tv a' dp B k rv' vs' ps' D'∧aR s L a'=ts'∧(∀ q,D q→D' q)∧(∀ q,D' q→D q∨w.heap.size≤q)∧(∀ g,rv'.ownBlock=some g→rv.ownBlock=some g∨w.heap.size≤g)∧Kp (Sr rb B rv) w w'
def IB(w:aG)(rb:Nat)(s:ByteArray)(L:List Tk)(tv:Value)(dp B k:Nat)(rv:Value)(vs:List Value)(ps':List Part)(ts':List X.Tok)(D:Nat→Prop)(w':aG):Prop :=
 ∃ a' rv' us,Wk w' rb s L tv a' dp B k rv' (vs++us) ps' D∧aR s L a'=ts'∧(∀ g,rv'.ownBlock=some g→rv.ownBlock=some g∨w.heap.size≤g)∧Kp (Sr rb B rv) w w'
theorem IB.done{ps':List Part}{ts':List X.Tok}(h:IB w rb s L tv dp B k rv vs ps' ts' D w'):bU w rb s L tv dp B k rv ps' ts' D w':=by
 obtain⟨a',rv',us,h1,h2,h3,h4⟩:=h;exact⟨a',rv',_,D,h1,h2,fun _=>id,fun _=>.inl,h3,h4⟩
theorem Wk.keep{S:Nat→Prop}{w w':aG}{rb:Nat}{s:ByteArray}{L:List Tk}{tv:Value}{a dp B k:Nat}{rv:Value}{vs:List Value}{ps:List Part}{D:Nat→Prop}(h:Wk w rb s L tv a dp B k rv vs ps D)(hk:Kp S w w')
  (h1:¬ S rb) (h2:¬ S B) (h3:∀ g,rv.ownBlock=some g→¬ S g) (h4:∀ q,D q→¬ S q) (h5:∀ q,tv.ownBlock=some q→¬ S q):Wk w' rb s L tv a dp B k rv vs ps D :=
 ⟨h.iW.keep hk h1 h5,h.sM.keep hk h2 h3,h.len,h.each.keep hk h4,fun q hq=>aJ (h.IA q hq) hk.size,h.sep,h.oz,fun q hq=>by obtain⟨a1,a2,a3,a4⟩:=h.uK q hq;exact⟨a1,a2,a3,aJ a4 hk.size⟩⟩
theorem Wk.below(h:Wk w rb s L tv a dp B k rv vs ps D)(hk:Below w.heap.size w w'):Wk w' rb s L tv a dp B k rv vs ps D :=
 h.keep (Kp.aN hk (fun _=>False)) id id (fun _ _=>id) (fun _ _=>id) (fun _ _=>id)
theorem Wk.added{rv' v:Value}{p:Part}(h:Wk w rb s L tv a dp B k rv vs ps D)
  (hb:xW w' B k rv' (vs++[v])) (hr:∀ g,rv'.ownBlock=some g→rv.ownBlock=some g∨w.heap.size≤g) (hk:Kp (Sb B rv) w w') (hp:uJ w' D v p):Wk w' rb s L tv a dp B k rv' (vs++[v]) (ps++[p]) D:=by
 have hD:∀ q,D q→¬ Sb B rv q:=by
  intro q hq e;rcases e with rfl|e
  ·exact h.sep.2.1 hq
  ·exact(h.oz q e).1 hq
 have hbl:=h.sM.lt;have hrl:=h.iW.raw.lt;refine⟨h.iW.keep hk ?_ ?_,hb,by rw[ay,ay,h.len];rfl,(h.each.keep hk hD).snoc h.len hp,fun q hq=>aJ (h.IA q hq) hk.size,h.sep,?_,?_⟩
 ·rintro(e|e)
  ·exact h.sep.2.2 e.symm
  ·exact(h.oz rb e).2.1 rfl
 ·intro q hq e
  obtain⟨a1,a2,a3,a4⟩:=h.uK q hq;rcases e with e|e
  ·exact a2 e
  ·exact a3 e
 ·intro g hg
  rcases hr g hg with e|e
  ·exact h.oz g e
  ·exact⟨fun hd=>by have:=h.IA g hd;omega,au,au⟩
 ·intro q hq
  obtain⟨a1,a2,a3,a4⟩:=h.uK q hq;refine⟨a1,a2,fun e=>?_,aJ a4 hk.size⟩;rcases hr q e with e|e
  ·exact a3 e
  ·omega
theorem Wk.moved(h:Wk w rb s L tv a dp B k rv vs ps D)(hk:On rb w w'){a' Lh:Nat}(hr:qA w' rb s L tv a' Lh):Wk w' rb s L tv a' Lh B k rv vs ps D:=by
 refine⟨hr,h.sM.keep hk h.sep.2.2 (fun g hg e=>(h.oz g hg).2.1 e),h.len,h.each.keep hk (fun q hq e=>?_),fun q hq=>aJ (h.IA q hq) hk.size,h.sep,h.oz,fun q hq=>?_⟩
 ·subst e;exact h.sep.1 hq
 ·obtain⟨a1,a2,a3,a4⟩:=h.uK q hq
  exact⟨a1,a2,a3,aJ a4 hk.size⟩
structure O6(w:aG)(rb:Nat)(s:ByteArray)(L:List Tk)(tv:Value)(a dp B k:Nat)(rv:Value)(vs:List Value)(ps:List Part)(D:Nat→Prop)(j:Nat)(uL:Value)(vF:List Value)(wr:aG):Prop where
 wk:Wk wr rb s L tv a dp B k uL vF (ps++((L.drop a).take j).map (fun t=>lf (uI (bs s) t))) D
 own:∀ g,uL.ownBlock=some g→rv.ownBlock=some g∨w.heap.size≤g
 kp:Kp (Sb B rv) w wr
 pre:∃ us,vF=vs++us
theorem O6.done{wr:aG}{j:Nat}{uL:Value}{vF:List Value}(h:O6 w rb s L tv a dp B k rv vs ps D j uL vF wr)(hj:j=e - a)(hr:qA w' rb s L tv e dp)(hk:On rb wr w') :
  IB w rb s L tv dp B k rv vs (ps++((L.drop a).take (e - a)).map (fun t=>lf (uI (bs s) t))) (aR s L e) D w':=by
 subst hj;obtain⟨us,rfl⟩:=h.pre;refine⟨e,uL,us,h.wk.moved hk hr,rfl,h.own,?_⟩;refine Kp.trans (Kp.mono h.kp (fun i _ e=>.inr e)) hk (fun i hi e=>.inl e)
theorem yt.cut{ao:Option Addr}{n cap:Nat}(h:yt w (.slice ao n cap) L)(h1:a≤e)(h2:e≤L.length):yt w (.slice (ao.map (fun x=>x.add (a*3))) (e - a) (cap - a)) ((L.drop a).take (e - a)):=by
 obtain⟨pV,cap',e',g1,g2,g3⟩:=h;injection e' with e1 e2 e3;subst e1;subst e3;have hl:((L.drop a).take (e - a)).length=e - a:=by rw[dX,bV];omega
 refine⟨_,cap - a,by rw[hl],by rw[hl];omega,au,fun i hi=>?_⟩;rw[hl] at hi;obtain⟨b,o,rfl,ha⟩:=g3 (a+i) au;refine⟨b,o+a*3,by rw[aE2,dQ],fun t ht=>?_⟩;rw[qw au,g_] at ht;have:=ha t ht;rw[show o+(a+i)*3=o+a*3+i*3 by omega] at this;exact this
theorem WM(ao:Option Addr)(x n n' c c':Nat):(Value.slice (ao.map (fun y=>y.add x)) n c).ownBlock=(Value.slice ao n' c').ownBlock:=by
 cases ao with
 | none=>rfl
 | some y=>simp only[aE2,Value.ownBlock];unfold Addr.add;split<;>rfl
theorem Kp.chain{w1 w2:aG}{nS:Value}(h1:Kp (Sb B rv) w w1)(hr:∀ g,nS.ownBlock=some g→rv.ownBlock=some g∨w.heap.size≤g)(h2:Kp (Sb B nS) w1 w2):Kp (Sb B rv) w w2 :=
 Kp.trans h1 h2 (fun i hi e=>by
  rcases e with e|e
  ·exact .inl e
  ·rcases hr i e with e|e
   ·exact .inr e
   ·omega)
theorem WN(w:aG)(D:Nat→Prop){t:Tk}(h:t.pos+t.len≤s.size):uJ w D (.iface 243 (.agg #[ak t.kind,ak t.len])) (lf (uI (bs s) t)):=by
 have:(((bs s).drop t.pos).take t.len).length=t.len:=by rw[dX,bV,eY];omega
 have h2:=uJ.leaf (w:=w) (D:=D) t.kind (((bs s).drop t.pos).take t.len);rw[this] at h2;exact h2
theorem yK(rb:Nat)(s:ByteArray)(L:List Tk)(tv:Value)(a dp B k:Nat)(rv:Value)(vs:List Value)(ps:List Part)(D:Nat→Prop)(w:aG)(hS:iU s L)(h:Wk w rb s L tv a dp B k rv vs ps D)(e:Nat)(h1:a≤e)(h2:e≤L.length)(hr:ps.length+(e - a)≤1073741824) :
  bB 87 #[aH rb,aH B,ak e] w fun en w'=>en=.returned (.tuple #[])∧Hid (IB w rb s L tv dp B k rv vs (ps++((L.drop a).take (e - a)).map (fun t=>lf (uI (bs s) t))) (aR s L e) D w'):=by
 obtain⟨⟨c0,c1,c2,c3,c4,c5,c6⟩,-⟩:=h.iW.raw.facts;have HK:=aA h;have hl1:=hS.size;have hl2:=hS.len;have hal:=h.iW.le;obtain⟨ao,cap,rfl,hc1,hc2,-⟩:=h.iW.row;clear h;have j1:(a:Int)≤(e:Int):=au
 have j2:(e:Int)≤(cap:Int):=au
 have j3:e≤cap:=au
 go_enter func87,ntmps87;go_wp2_with fail
 have HI0:Hid (O6 w rb s L (.slice ao L.length cap) a dp B k rv vs ps D 0 rv vs w):=⟨by simpa using HK.o,fun g hg=>.inl hg,Kp.refl _ _,[],(aL _).symm⟩;by_cases hca:cap=a
 ·have hea:e=a:=by omega
  subst hea;go_quiet (fail)
  go_wp2_with fail
  refine wp_loop_rounds 1 ?_;rw[rounds_succ];have HI1:Hid (O6 w rb s L (.slice ao L.length cap) e dp B k rv vs ps D 0 rv vs (w.drewN nq)):=⟨(HI0.o).wk.below (iQ (aB _ w) nq),fun g hg=>.inl hg,Kp.mono (On.drewN B w nq) (fun i _ e=>.inl e),[],(aL _).symm⟩;clear HI0;generalize w.drewN nq=W at *;clear c0 c1 c2 c3 c4 c5 c6;obtain⟨⟨c0,c1,c2,c3,c4,c5,c6⟩,f0,f1,f2,f3,f4,f5,f6⟩:=(HI1.o).wk.iW.raw.facts;go_wp2_with fail
  refine(xV rb s _ L (.slice ao L.length cap) e dp _ _ _ hS ((HI1.o).wk.iW.raw.set2 (e:Int)) ((HI1.o).wk.iW.row.keep (On.set (Kp.refl _ W) 2 _) (fun k hk=>(HI1.o).wk.iW.own k hk)) h2 (HI1.o).wk.iW.own).aX ?_;rintro w2 ⟨r2,k2⟩;go_wp2_with fail
  go_end0;exact⟨rfl,(HI1.o).done au r2 (On.to (On.set (Kp.refl _ W) 2 _) k2)⟩
 ·go_quiet (fail)
  go_wp2_with fail
  have HC:=aA <| ((HK.o).iW.row).cut h1 h2;have hob:=WM ao (a*3) (e - a) L.length (cap - a) cap;have hll:((L.drop a).take (e - a)).length=e - a:=by rw[dX,bV];omega
  generalize hsv:ao.map (fun x=>x.add (a*3))=uF at *;clear hsv;go_loopw [19] (fun v wr=>∃(j:Nat) (uL:Value) (vF:List Value),v=ak j∧j≤e - a∧Hid (O6 w rb s L (.slice ao L.length cap) a dp B k rv vs ps D j uL vF wr)) (fun v _=>e - a - (intOf v).toNat)
  case atStart =>
   exact⟨0,rv,vs,rfl,bJ _,⟨(HI0.o).wk.below (iQ (aB _ w) nq),fun g hg=>.inl hg,Kp.mono (On.drewN B w nq) (fun i _ e=>.inl e),[],(aL _).symm⟩⟩
  case round =>
   obtain⟨j,uL,vF,rfl,hj,HI⟩:=hrel;clear c0 c1 c2 c3 c4 c5 c6;by_cases hlt:j<e - a
   case neg =>
    have i1:decide (j<e - a)=false:=aQ
    have i2:decide ((j:Int)<((e - a:Nat):Int))=false:=aQ
    obtain⟨⟨c0,c1,c2,c3,c4,c5,c6⟩,f0,f1,f2,f3,f4,f5,f6⟩:=(HI.o).wk.iW.raw.facts;go_wp2_with fail
    refine(xV rb s _ L (.slice ao L.length cap) e dp _ _ _ hS ((HI.o).wk.iW.raw.set2 (e:Int)) ((HI.o).wk.iW.row.keep (On.set (Kp.refl _ wr) 2 _) (fun k hk=>(HI.o).wk.iW.own k hk)) h2 (HI.o).wk.iW.own).aX ?_;rintro w2 ⟨r2,k2⟩;go_wp2_with fail
    go_end0;exact⟨rfl,(HI.o).done au r2 (On.to (On.set (Kp.refl _ wr) 2 _) k2)⟩
   have hkeep:=(HC.o).keep (HI.o).kp (fun q hq h=>by
    obtain⟨a1,a2,a3,a4⟩:=(HK.o).uK q (hob ▸ hq);rcases h with h|h
    ·exact a2 h
    ·exact a3 h)
   obtain⟨b',o',t,rfl,ht,q1,q2,q3⟩:=hkeep.get (aB _ wr) (by rw[hll];exact hlt);have htL:L[a+j]?=some t:=by
    rw[qw au,g_] at ht;exact ht
   have hfit:=(hS.fit t (dF htL)).1;have i1:decide (j<e - a)=true:=aQ
   have i2:decide ((j:Int)<((e - a:Nat):Int))=true:=aQ
   have hlj:vF.length≤1073741824:=by
    rw[(HI.o).wk.len,ay,cB,dX];omega
   clear hkeep;go_wp2_with fail
   have kA:Below wr.heap.size wr (wr.alloc (Obj.cells #[Value.int IntKind.i64 t.kind,Value.int IntKind.i64 t.pos,Value.int IntKind.i64 t.len] 155)):=(aB _ wr).alloc (ax _) _;have hWA:=(HI.o).wk.below kA;have TH:=aA hWA;refine(wO B k uL vF 243 _ _ hWA.sM (fun g hg=>(hWA.oz g hg).2.2) hlj).aX ?_;rintro w2 ⟨O7,b2,o2,k2⟩;clear hWA;have HN:Hid (O6 w rb s L (.slice ao L.length cap) a dp B k rv vs ps D (j+1) O7 (vF++[.iface 243 (.agg #[ak t.kind,ak t.len])]) w2):=by
    have hw:=(TH.o).added b2 o2 k2 (WN w2 D (s:=s) (t:=t) hfit);have hl:(ps++((L.drop a).take j).map (fun t=>lf (uI (bs s) t)))++[lf (uI (bs s) t)]=ps++((L.drop a).take (j+1)).map (fun t=>lf (uI (bs s) t)):=by
     rw[aK,List.take_add_one,g_,htL];simp
    rw[hl] at hw;have hz:=(HI.o).kp.size;obtain⟨us,CV⟩:=(HI.o).pre;refine⟨hw,fun g hg=>?_,Kp.chain (Kp.alloc (HI.o).kp _) (HI.o).own k2,us++[_],by rw[CV,aK]⟩;rcases o2 g hg with e|e
    ·exact(HI.o).own g e
    ·exact .inr (by simp at e;omega)
   clear b2 o2 k2 TH kA ht htL q1 q2 q3;go_wp2_with fail
   exact⟨⟨j+1,O7,_,by go_num,au,HN⟩,by simp only[intOf];omega⟩
theorem Li(rb:Nat)(s:ByteArray)(L:List Tk)(tv:Value)(a dp B k:Nat)(rv:Value)(vs:List Value)(ps:List Part)(D:Nat→Prop)(w:aG)(hS:iU s L)(h:Wk w rb s L tv a dp B k rv vs ps D)(e:Nat)(h1:a≤e)(h2:e≤L.length)(hr:ps.length+(e - a)≤1073741824) :
  bB 87 #[aH rb,aH B,ak e] w fun en w'=>en=.returned (.tuple #[])∧Hid (bU w rb s L tv dp B k rv (ps++((L.drop a).take (e - a)).map (fun t=>lf (uI (bs s) t))) (aR s L e) D w') :=
 (yK rb s L tv a dp B k rv vs ps D w hS h e h1 h2 hr).mono fun _ _ hh=>⟨hh.1,(hh.2.o).done⟩
end
section
open Tryz
open Go.RowKit
variable{s:ByteArray}{L:List Tk}{a:Nat}
theorem Bp:X.take (aR s L a)=(((L.drop a).take (jO L a+1 - a)).map (fun t=>lf (uI (bs s) t)),aR s L (jO L a+1)):=by
 unfold X.take;rw[TD,Iw];have e1:jO L a+1 - a=((L.drop a).takeWhile qk).length+1:=by unfold jO;omega
 have e2:(L.drop a).take ((L.drop a).takeWhile qk).length=(L.drop a).takeWhile qk:=(List.prefix_iff_eq_take.1 (List.takeWhile_prefix _)).symm;rw[e1,List.take_add,e2,cZ];refine Prod.ext ?_ ?_
 ·show List.map lf _=_
  unfold aR jO;rw[← List.map_take,← nN,List.map_map];rfl
 ·show List.drop 1 _=_
  unfold aR;rw[← List.map_drop,cZ]
theorem TI(h:pQ (aR s L a)≠none):jO L a<L.length:=by
 rw[zB] at h;rcases cu (jO L a) L.length with g|g
 ·exact g
 ·rw[bf g] at h;exact absurd rfl h
theorem bU.trans{w w1 w2:aG}{rb:Nat}{s:ByteArray}{L:List Tk}{tv:Value}{dp B k:Nat}{rv nS:Value}{ps2:List Part}{M4:List X.Tok}{D D1:Nat→Prop}
  (hD:∀ q,D q→D1 q) (hN:∀ q,D1 q→D q∨w.heap.size≤q) (hr:∀ g,nS.ownBlock=some g→rv.ownBlock=some g∨w.heap.size≤g) (hk:Kp (Sr rb B rv) w w1) (h:bU w1 rb s L tv dp B k nS ps2 M4 D1 w2):bU w rb s L tv dp B k rv ps2 M4 D w2:=by
 obtain⟨a',rv',vs',D',h1,h2,h3,h4,h5,h6⟩:=h;have hz:=hk.size;refine⟨a',rv',vs',D',h1,h2,fun q hq=>h3 q (hD q hq),fun q hq=>?_,fun g hg=>?_,Kp.trans hk h6 (fun i hi e=>?_)⟩
 ·rcases h4 q hq with e|e
  ·exact hN q e
  ·exact .inr au
 ·rcases h5 g hg with e|e
  ·exact hr g e
  ·exact .inr au
 ·rcases e with e|e|e
  ·exact .inl e
  ·exact .inr (.inl e)
  ·rcases hr i e with e|e
   ·exact .inr (.inr e)
   ·omega
def Reads(fn:FuncId)(F:X.R)(ok:List X.Tok→Prop)(s:ByteArray)(L:List Tk)(dp:Nat):Prop :=
 ∀(rb:Nat) (tv:Value) (a B k:Nat) (rv:Value) (vs:List Value) (ps:List Part) (D:Nat→Prop) (w:aG),Wk w rb s L tv a dp B k rv vs ps D→ok (aR s L a)→ps.length+(F (aR s L a)).1.length≤1073741824 →
  Calls prog fn #[aH rb,aH B] w fun en w'=>en=.returned (.tuple #[])∧Hid (bU w rb s L tv dp B k rv (ps++(F (aR s L a)).1) (F (aR s L a)).2 D w')
theorem lQ(s:ByteArray)(L:List Tk)(dp:Nat)(hS:iU s L):Reads 114 X.take (fun ts=>pQ ts≠none) s L dp:=by
 intro rb tv a B k rv vs ps D w h hn hl;have hlt:=TI hn;have ha:=TG L a;rw[Bp] at hl ⊢;simp only[cB,dX,bV] at hl;obtain⟨⟨c0,c1,c2,c3,c4,c5,c6⟩,-⟩:=h.iW.raw.facts;have hl2:=hS.len;have HC:=aA (Li rb s L tv a dp B k rv vs ps D w hS h (jO L a+1) au au au);rw[j_] at HC;clear h hn;go_enter func114,ntmps114;go_wp2_with fail
 refine(HC.o).aX fun w1 H1=>?_;go_wp2_with fail
 go_end0;exact⟨rfl,H1⟩
theorem O8(s:ByteArray)(L:List Tk)(dp:Nat)(hS:iU s L)(rb:Nat)(tv:Value)(a B k:Nat)(rv:Value)(vs:List Value)(ps:List Part)(D:Nat→Prop)(w:aG)(h:Wk w rb s L tv a dp B k rv vs ps D)(hl:ps.length+((aR s L a).map lf).length≤1073741824) :
  bB 53 #[aH rb,aH B] w fun en w'=>en=.returned (.tuple #[])∧Hid (IB w rb s L tv dp B k rv vs (ps++(aR s L a).map lf) [] D w'):=by
 have ha:=h.iW.le;have e1:(aR s L a).map lf=((L.drop a).take (L.length - a)).map (fun t=>lf (uI (bs s) t)):=by
  unfold aR;rw[List.map_map,ku (by rw[bV];omega)];rfl
 have e2:aR s L L.length=[]:=by unfold aR;simp
 simp only[e1,cB,dX,bV] at hl ⊢;obtain⟨⟨c0,c1,c2,c3,c4,c5,c6⟩,-⟩:=h.iW.raw.facts;have hl2:=hS.len;have HC:=aA (yK rb s L tv a dp B k rv vs ps D w hS h L.length ha (ax _) au);rw[e2] at HC;obtain⟨ao,cap,rfl,hc1,hc2,-⟩:=h.iW.row;clear h e1 e2;go_enter func53,ntmps53;go_wp2_with fail
 refine(HC.o).aX fun w1 H1=>?_;go_wp2_with fail
 go_end0;exact⟨rfl,H1⟩
theorem TJ(s:ByteArray)(L:List Tk)(dp:Nat)(hS:iU s L):Reads 53 (fun ts=>(ts.map lf,[])) (fun _=>True) s L dp:=by
 intro rb tv a B k rv vs ps D w h _ hl;exact(O8 s L dp hS rb tv a B k rv vs ps D w h hl).mono fun _ _ hh=>⟨hh.1,(hh.2.o).done⟩
end
section
open Tryz
open Go.RowKit
variable{x:ah}
namespace X
theorem andThen_assoc(f g h:R):andThen (andThen f g) h=andThen f (andThen g h):=by
 funext ts;simp[andThen]
def Fv:R:=fun ts=>([],ts)
theorem IC(f:R):andThen Fv f=f:=by funext ts;simp[andThen,Fv]
theorem yL(f:R):andThen f Fv=f:=by funext ts;simp[andThen,Fv]
def qY(x:ah):R:=fun ts=>if pN x ts then take ts else([.miss x],ts)
def eZ:List (ah)→R
 | []=>Fv
 | x::xs=>andThen (qY x) (eZ xs)
theorem qH:∀(l r:List (ah)),eZ (l++r)=andThen (eZ l) (eZ r)
 | [],r=>(IC _).symm
 | x::l,r=>by rw[fM,eZ,qH l r,eZ,andThen_assoc]
theorem O9(ss:List (ah))(j:Nat)(ts:List Tok):(eZ (ss.take j) ts).1.length≤(eZ ss ts).1.length:=by
 have:eZ ss=andThen (eZ (ss.take j)) (eZ (ss.drop j)):=by rw[← qH,fD]
 rw[this];simp[andThen]
theorem IE{ss:List (ah)}{j:Nat}(h:ss[j]?=some x)(ts:List Tok):eZ (ss.take (j+1)) ts=((eZ (ss.take j) ts).1++(qY x (eZ (ss.take j) ts).2).1,(qY x (eZ (ss.take j) ts).2).2):=by
 rw[List.take_add_one,h,qH];show andThen _ (eZ [x]) ts=_;rw[eZ,eZ,yL];rfl
theorem WO{ts:List Tok}(hx:x≠[])(h:pN x ts=true):pQ ts≠none:=by
 intro e;unfold pN rZ dm at h;rw[e] at h;simp[hx] at h
end X
theorem Lj(w:aG)(x:ah):vz (w.alloc (Obj.cells #[Value.string (ba x)] 9)) w.heap.size [x]:=by
 refine⟨fun i z hz=>?_,aT⟩;rcases gZ i with rfl|g
 ·obtain rfl:x=z:=by simpa using hz
  rw[aj _ _ 0 _ _ _ (aI w _)];rfl
 ·rw[bf aQ] at hz;cases hz
theorem bU.refl{w:aG}{rb:Nat}{s:ByteArray}{L:List Tk}{tv:Value}{a dp B k:Nat}{rv:Value}{vs:List Value}{ps:List Part}{D:Nat→Prop}(h:Wk w rb s L tv a dp B k rv vs ps D):bU w rb s L tv dp B k rv ps (aR s L a) D w :=
 ⟨a,rv,vs,D,h,rfl,fun _=>id,fun _ hq=>.inl hq,fun _ hg=>.inl hg,Kp.refl _ _⟩
theorem TK(s:ByteArray)(L:List Tk)(dp:Nat)(hS:iU s L)(rb:Nat)(tv:Value)(a B k:Nat)(rv:Value)(vs:List Value)(ps:List Part)(D:Nat→Prop)(w:aG)(h:Wk w rb s L tv a dp B k rv vs ps D)
  (c:Nat) (ss:List (ah)) (hs:vz w c ss) (hx:∀ x∈ss,x≠[]) (hc:c≠rb∧c≠B∧rv.ownBlock≠some c∧c<w.heap.size) (hl:ps.length+(eZ ss (aR s L a)).1.length≤1073741824) :
  bB 134 #[aH rb,aH B,.slice (b_ c) ss.length ss.length] w fun en w'=>en=.returned (.tuple #[])∧Hid (bU w rb s L tv dp B k rv (ps++(eZ ss (aR s L a)).1) (eZ ss (aR s L a)).2 D w'):=by
 have HS:=aA hs;have HX:=aA hx;have hln:=hs.len;have HD0:Hid (bU w rb s L tv dp B k rv (ps++(eZ (ss.take 0) (aR s L a)).1) (eZ (ss.take 0) (aR s L a)).2 D w):=by
  show bU _ _ _ _ _ _ _ _ _ _ _ _ _;simp only[jr,eZ,Fv,aL];exact bU.refl h
 clear h hs hx;go_enter func134,ntmps134;go_wp2_with fail
 obtain⟨hc1,hc2,hc3,hc4⟩:=hc;have uh:=aA hc3;clear hc3;go_loopw [10] (fun v wr=>∃ j:Nat,v=ak j∧j≤ss.length∧Hid (bU w rb s L tv dp B k rv (ps++(eZ (ss.take j) (aR s L a)).1) (eZ (ss.take j) (aR s L a)).2 D wr)) (fun v _=>ss.length - (intOf v).toNat)
 case atStart=>exact⟨0,rfl,bJ _,HD0⟩
 case round =>
  obtain⟨j,rfl,hj,HJ⟩:=hrel;clear HD0;by_cases hlt:j<ss.length
  case neg =>
   have hje:j=ss.length:=au
   subst hje;rw[fC] at HJ;have i1:decide (ss.length<ss.length)=false:=aT
   have i2:decide ((ss.length:Int)<(ss.length:Int))=false:=aT
   go_wp2_with fail
   go_end0;exact⟨rfl,HJ⟩
  obtain⟨x,hxj⟩:∃ x,ss[j]?=some x:=⟨ss[j],aF hlt⟩;have hxn:=(HX.o) x (dF hxj);have i1:decide (j<ss.length)=true:=aQ
  have i2:decide ((j:Int)<(ss.length:Int))=true:=aQ
  obtain⟨a',rv',vs',D',g1,g2,g3,g4,g5,g6⟩:=HJ.o;have y0:=g6.dD ((HS.o).cells j x hxj) (by
   rintro(e|e|e)
   ·exact hc1 e
   ·exact hc2 e
   ·exact(uh.o) e)
  have HW:=aA g1;have MP:=aA g3;have HG4:=aA g4;have vv:=aA g5;have HG6:=aA g6;have HT:=aA g2;have F9:=aA (IE hxj (aR s L a));have hle:=O9 ss (j+1) (aR s L a);clear g1 g2 g3 g4 g5 g6 HJ hxj;go_wp2_with fail
  have kA:Below wr.heap.size wr (wr.alloc (Obj.cells #[Value.string (ba x)] 9)):=(aB _ wr).alloc (ax _) _;have hrow:=Lj wr x;have TH:=aA ((HW.o).below kA);have lV:=aA kA;refine(vB rb s L tv a' dp _ (TH.o).iW wr.heap.size [x] hrow).aX fun w2 k2=>?_;have HW2:=aA ((TH.o).below k2);have hk2:=(lV.o).trans (k2.mono aT);have mU:=aA hk2;have e0:[x].any (fun x=>pN x (aR s L a'))=pN x (aR s L a'):=aT
  rw[e0];clear e0 kA hrow k2 hk2 TH lV;have HDK:=aA <| Kp.trans (HG6.o) (Kp.aN (mU.o) (fun _=>False)) (fun _ _ h=>h.elim);cases hp:pN x (aR s L a') with
  | true =>
   have e1:qY x (eZ (ss.take j) (aR s L a)).2=X.take (aR s L a'):=by
    rw[← HT.o];unfold qY;rw[aU hp]
   rw[e1] at F9;rw[F9.o,ay] at hle;go_wp2_with fail
   refine(lQ s L dp hS rb tv a' B k rv' vs' _ D' w2 (HW2.o) (WO hxn hp) (by rw[ay];omega)).aX fun w3 H3=>?_;have HJ:Hid (bU w rb s L tv dp B k rv (ps++(eZ (ss.take (j+1)) (aR s L a)).1) (eZ (ss.take (j+1)) (aR s L a)).2 D w3):=by
    rw[F9.o,← aK];exact bU.trans MP.o HG4.o vv.o HDK.o H3.o
   clear H3 F9 e1;go_wp2_with fail
   exact⟨⟨j+1,by go_num,au,HJ⟩,by simp only[intOf];omega⟩
  | false =>
   have e1:qY x (eZ (ss.take j) (aR s L a)).2=([.miss x],aR s L a'):=by
    rw[← HT.o];unfold qY;rw[aM (by rw[hp];simp)]
   rw[e1] at F9;rw[F9.o,ay] at hle;have hvl:vs'.length≤1073741824:=by rw[(HW2.o).len,ay];omega
   go_wp2_with fail
   refine(wO B k rv' vs' 306 (.string (ba x)) w2 (HW2.o).sM (fun g hg=>((HW2.o).oz g hg).2.2) hvl).aX ?_;rintro w3 ⟨Yh,b3,o3,k3⟩;have HJ:Hid (bU w rb s L tv dp B k rv (ps++(eZ (ss.take (j+1)) (aR s L a)).1) (eZ (ss.take (j+1)) (aR s L a)).2 D w3):=by
    rw[F9.o,← aK];have hw:=(HW2.o).added b3 o3 k3 (uJ.miss x);exact bU.trans MP.o HG4.o vv.o HDK.o ⟨a',Yh,_,D',hw,rfl,fun _=>id,fun _ hq=>.inl hq,o3,Kp.mono k3 (fun i _ e=>.inr e)⟩
   clear b3 o3 k3 F9 e1;go_wp2_with fail
   exact⟨⟨j+1,by go_num,au,HJ⟩,by simp only[intOf];omega⟩
end
section
open Tryz
open Go.RowKit
variable{w w1 w4:aG}{rb dp N k B kd:Nat}{s:ByteArray}{L:List Tk}{tv rv xX:Value}{ps ps1 zC:List Part}{D:Nat→Prop}{ts':List X.Tok}
theorem Wk.part{a:Nat}{vs:List Value}(h:Wk w rb s L tv a dp N k rv vs ps D) :
  uJ w (fun q=>D q∨q=N∨rv.ownBlock=some q) (.iface 127 (aH N)) (.br k ps):=by
 have hm:∀ q,D q→(D q∨q=N∨rv.ownBlock=some q):=fun q hq=>.inl hq
 obtain⟨hb,hr⟩:=h.sM;have hl:=h.len;rcases hr.2 with ⟨rfl,h0⟩|⟨g,cap,cur,rfl,-,hg,hn,hmx,hsz,ht⟩
 ·have hp:ps=[]:=bP.1 au
  subst hp;exact .br k N 0 none (fun _=>undef) [] (.inr (.inl rfl)) hb ⟨ax _,by unfold maxLen;omega⟩ (fun i hi=>by simp at hi) (fun i p hp=>by simp at hp)
 ·rw[hl] at hb hn
  refine .br k N cap (b_ g) (fun i=>vs.getD i undef) ps (.inr (.inl rfl)) hb ⟨hn,hmx⟩ (fun i hi=>⟨g,rfl,.inr (.inr rfl),?_⟩) (fun i p hp=>?_)
  ·have hv:vs[i]?=some (vs.getD i undef):=by
    rw[bG,aF au];rfl
   have:=hr.cells (g:=g) rfl i _ hv
   rwa[dQ,bS] at this
  ·obtain⟨v,h1,h2⟩:=h.each i p hp
   have:vs.getD i undef=v:=by rw[bG,h1];rfl
   rw[this];exact h2.mono hm
theorem IG{a0 dp0:Nat}{nS:Value}{vs vs1:List Value}
  (h0:Wk w rb s L tv a0 dp0 B k rv vs ps D) (hb1:xW w1 B k nS (vs1++[.iface 127 (aH N)])) (hl1:vs1.length=ps1.length) (he1:Each w1 D vs1 ps1) (hr1:∀ g,nS.ownBlock=some g→rv.ownBlock=some g∨(w.heap.size≤g∧g≠N))
  (hk1:Kp (Sr rb B rv) w w1) (hN:w.heap.size≤N) (hN1:N<w1.heap.size) (hrn:∀ g,xX.ownBlock=some g→w.heap.size≤g∧nS.ownBlock≠some g) (hd:bU w1 rb s L tv dp N kd xX zC ts' D w4):bU w rb s L tv dp B k rv (ps1++[.br kd zC]) ts' D w4:=by
 obtain⟨a4,rvN,vsN,DN,Yi,ht,d1,d2,d3,kN⟩:=hd;have hbl:=h0.sM.lt;have hrl:=h0.iW.raw.lt;have hz1:=hk1.size;have VJ:=kN.size;have hNw:=Yi.sM.lt;have aW6:=hb1.row;have hg1:∀ g,nS.ownBlock=some g→g<w1.heap.size:=fun g hg=>(dG aW6 g hg).2
 have hg0:∀ g,rv.ownBlock=some g→g<w.heap.size:=fun g hg=>(dG h0.sM.row g hg).2
 have hgN:∀ g,rvN.ownBlock=some g→g<w4.heap.size∧w.heap.size≤g∧nS.ownBlock≠some g:=by
  intro g hg;refine⟨(dG Yi.sM.row g hg).2,?_⟩;rcases d3 g hg with e|e
  ·exact hrn g e
  ·exact⟨au,fun e'=>by have:=hg1 g e';omega⟩
 have hS1:∀ q,D q→¬ Sr rb N xX q:=by
  rintro q hq (e|e|e)
  ·subst e;exact h0.sep.1 hq
  ·have:=h0.IA q hq;omega
  ·have:=(hrn q e).1;have:=h0.IA q hq;omega
 refine⟨a4,nS,vs1++[.iface 127 (aH N)],fun q=>DN q∨q=N∨rvN.ownBlock=some q,?_,ht,fun q hq=>.inl (d1 q hq),?_,?_,?_⟩
 ·refine⟨Yi.iW,?_,by rw[ay,ay,hl1];rfl,?_,?_,⟨?_,?_,h0.sep.2.2⟩,?_,?_⟩
  ·refine hb1.keep kN ?_ ?_
   ·rintro(e|e|e)
    ·exact h0.sep.2.2 e
    ·omega
    ·have:=(hrn B e).1;omega
   ·rintro g hg (e|e|e)
    ·rcases hr1 g hg with h|h
     ·exact(h0.oz g h).2.1 e
     ·omega
    ·rcases hr1 g hg with h|h
     ·have:=hg0 g h;omega
     ·omega
    ·exact(hrn g e).2 hg
  ·exact((he1.keep kN hS1).mono (fun q hq=>.inl (d1 q hq))).snoc hl1 Yi.part
  ·rintro q (e|e|e)
   ·exact Yi.IA q e
   ·omega
   ·exact(hgN q e).1
  ·rintro(e|e|e)
   ·exact Yi.sep.1 e
   ·exact Yi.sep.2.2 e.symm
   ·exact(Yi.oz rb e).2.1 rfl
  ·rintro(e|e|e)
   ·rcases d2 B e with h|h
    ·exact h0.sep.2.1 h
    ·omega
   ·omega
   ·have:=(hgN B e).2.1;omega
  ·intro g hg
   have hlt:=hg1 g hg;refine⟨?_,?_,?_⟩
   ·rintro(e|e|e)
    ·rcases d2 g e with h|h
     ·rcases hr1 g hg with h'|h'
      ·exact(h0.oz g h').1 h
      ·have:=h0.IA g h;omega
     ·omega
    ·rcases hr1 g hg with h|h
     ·have:=hg0 g h;omega
     ·omega
    ·exact(hgN g e).2.2 hg
   ·rcases hr1 g hg with h|h
    ·exact(h0.oz g h).2.1
    ·omega
   ·rcases hr1 g hg with h|h
    ·exact(h0.oz g h).2.2
    ·omega
  ·intro q hq
   obtain⟨a1,a2,a3,a4⟩:=h0.uK q hq;refine⟨?_,a2,?_,au⟩
   ·rintro(e|e|e)
    ·rcases d2 q e with h|h
     ·exact a1 h
     ·omega
    ·omega
    ·have:=(hgN q e).2.1;omega
   ·intro e
    rcases hr1 q e with h|h
    ·exact a3 h
    ·omega
 ·rintro q (e|e|e)
  ·rcases d2 q e with h|h
   ·exact .inl h
   ·exact .inr au
  ·exact .inr au
  ·exact .inr (by have:=(hgN q e).2.1;omega)
 ·intro g hg
  rcases hr1 g hg with h|h
  ·exact .inl h
  ·exact .inr au
 ·refine Kp.trans hk1 kN (fun i hi e=>?_)
  rcases e with e|e|e
  ·exact .inl e
  ·omega
  ·have:=(hrn i e).1;omega
def Yj(w:aG)(rb:Nat)(s:ByteArray)(L:List Tk)(tv:Value)(B k:Nat)(rv:Value)(ps1:List Part)(D:Nat→Prop)(N:Nat)(xX:Value)(w1:aG):Prop :=
 ∃(a0 dp0:Nat) (vs:List Value) (ps:List Part) (nS:Value) (vs1:List Value),Wk w rb s L tv a0 dp0 B k rv vs ps D∧xW w1 B k nS (vs1++[.iface 127 (aH N)])∧vs1.length=ps1.length∧Each w1 D vs1 ps1 ∧
  (∀ g,nS.ownBlock=some g→rv.ownBlock=some g∨(w.heap.size≤g∧g≠N))∧Kp (Sr rb B rv) w w1∧w.heap.size≤N∧N<w1.heap.size∧(∀ g,xX.ownBlock=some g→w.heap.size≤g∧nS.ownBlock≠some g)
theorem Yj.close
  (h:Yj w rb s L tv B k rv ps1 D N xX w1) (hd:bU w1 rb s L tv dp N kd xX zC ts' D w4):bU w rb s L tv dp B k rv (ps1++[.br kd zC]) ts' D w4:=by
 obtain⟨a0,dp0,vs,ps,nS,vs1,g1,g2,g3,g4,g5,g6,g7,g8,g9⟩:=h;exact IG g1 g2 g3 g4 g5 g6 g7 g8 g9 hd
theorem Yj.moved{w2:aG}(h:Yj w rb s L tv B k rv ps1 D N xX w1)(hk:On rb w1 w2):Yj w rb s L tv B k rv ps1 D N xX w2:=by
 obtain⟨a0,dp0,vs,ps,nS,vs1,g1,g2,g3,g4,g5,g6,g7,g8,g9⟩:=h;have hrl:=g1.iW.raw.lt;refine⟨a0,dp0,vs,ps,nS,vs1,g1,g2.keep hk g1.sep.2.2 (fun g hg e=>?_),g3,g4.keep hk (fun q hq e=>?_),g5,Kp.trans g6 hk (fun i _ e=>.inl e),g7,aJ g8 hk.size,g9⟩
 ·rcases g5 g hg with h|h
  ·exact(g1.oz g h).2.1 e
  ·omega
 ·subst e;exact g1.sep.1 hq
theorem Bq(rb:Nat)(s:ByteArray)(L:List Tk)(tv:Value)(a dp B k:Nat)(rv:Value)(vs:List Value)(ps:List Part)(D:Nat→Prop)(w:aG)(h:Wk w rb s L tv a dp B k rv vs ps D)(hl:ps.length≤1073741824)(kd:Nat) :
  bB 154 #[aH B,ak kd] w (cK (aH w.heap.size) fun w'=>Hid (Yj w rb s L tv B k rv ps D w.heap.size (.slice none 0 0) w'∧Wk w' rb s L tv a dp w.heap.size kd (.slice none 0 0) [] [] D)):=by
 have HK:=aA h;have hlv:vs.length≤1073741824:=by rw[h.len];exact hl
 have kA:Below w.heap.size w (w.alloc (Obj.cells #[ak kd,.slice none 0 0] 130)):=(aB _ w).alloc (ax _) _;have lV:=aA kA;have TH:=aA (h.below kA);clear h kA;go_enter func154,ntmps154;go_wp2_with fail
 refine(wO B k rv vs 127 (aH w.heap.size) _ (TH.o).sM (fun g hg=>((TH.o).oz g hg).2.2) hlv).aX ?_;rintro w2 ⟨O7,b2,o2,k2⟩;have HR:Hid (Yj w rb s L tv B k rv ps D w.heap.size (.slice none 0 0) w2∧Wk w2 rb s L tv a dp w.heap.size kd (.slice none 0 0) [] [] D):=by
  have hbl:=(HK.o).sM.lt;have hrl:=(HK.o).iW.raw.lt;have hz:=k2.size;rw[fB] at hz;have hD:∀ q,D q→¬ Sb B rv q:=by
   rintro q hq (e|e)
   ·subst e;exact(HK.o).sep.2.1 hq
   ·exact((HK.o).oz q e).1 hq
  have hgl:∀ g,rv.ownBlock=some g→g<w.heap.size:=fun g hg=>(dG (HK.o).sM.row g hg).2
  have hnew:(w.alloc (Obj.cells #[ak kd,.slice none 0 0] 130)).heap[w.heap.size]?=_:=aI w _;have UM:¬ Sb B rv w.heap.size:=by
   rintro(e|e)
   ·omega
   ·have:=hgl _ e;omega
  refine⟨⟨a,dp,vs,ps,O7,vs,HK.o,b2,(HK.o).len,((TH.o).each.keep k2 hD),fun g hg=>?_,?_,ax _,au,fun g hg=>by cases hg⟩,?_⟩
  ·rcases o2 g hg with e|e
   ·exact .inl e
   ·rw[fB] at e
    exact .inr ⟨au,au⟩
  ·exact Kp.trans (Kp.aN (lV.o) (Sr rb B rv)) k2 (fun i _ e=>.inr e)
  ·refine⟨(TH.o).iW.keep k2 ?_ ?_,⟨k2.heap hnew UM,dK _ _ _ _⟩,rfl,Each.nil _ _,fun q hq=>by have:=(HK.o).IA q hq;omega,⟨(HK.o).sep.1,fun hd=>by have:=(HK.o).IA _ hd;omega,au⟩,(fun g hg=>by cases hg),fun q hq=>?_⟩
   ·rintro(e|e)
    ·exact(HK.o).sep.2.2 e.symm
    ·exact((HK.o).oz rb e).2.1 rfl
   ·intro q hq e
    obtain⟨a1,a2,a3,a4⟩:=(HK.o).uK q hq;rcases e with e|e
    ·exact a2 e
    ·exact a3 e
   ·obtain⟨a1,a2,a3,a4⟩:=(HK.o).uK q hq
    exact⟨a1,au,(fun e=>by cases e),au⟩
 clear b2 o2 k2;go_wp2_with fail
 go_ret;exact⟨rfl,HR⟩
theorem uJ.iface{w:aG}{D:Nat→Prop}{v:Value}{p:Part}(h:uJ w D v p):∃ ty x,v=.iface ty x:=by
 cases h with
 | leaf k x=>exact⟨_,_,rfl⟩
 | miss m=>exact⟨_,_,rfl⟩
 | br k N cap ao vs ps hN hb hc hr hp=>exact⟨_,_,rfl⟩
 | kid N n p hn h=>exact⟨_,_,rfl⟩
theorem Wk.last{w:aG}{rb:Nat}{s:ByteArray}{L:List Tk}{tv:Value}{a dp B k:Nat}{rv:Value}{vs:List Value}{ps:List Part}{p:Part}{D:Nat→Prop}(h:Wk w rb s L tv a dp B k rv vs (ps++[p]) D) :
  ∃ Sk ty x,vs=Sk++[.iface ty x]∧Sk.length=ps.length∧Each w D Sk ps∧uJ w D (.iface ty x) p:=by
 have hl:=h.len;rw[ay,bF] at hl;obtain⟨v,h1,h2⟩:=h.each ps.length p (by rw[bL (ax _),iZ];rfl);obtain⟨ty,x,rfl⟩:=h2.iface;have e:vs=vs.take ps.length++[.iface ty x]:=by
  conv=>lhs;rw[← fD ps.length vs]
  congr 1;rw[dS au,List.drop_eq_nil_iff.2 au];congr 1;exact bQ ((aF au).symm.trans h1)
 refine⟨vs.take ps.length,ty,x,e,by rw[dX];omega,fun i q hq=>?_,h2⟩;have hi:i<ps.length:=by
  rcases cu i ps.length with g|g
  ·exact g
  ·rw[bf g] at hq;cases hq
 obtain⟨u,h3,h4⟩:=h.each i q (by rw[bT hi];exact hq);exact⟨u,by rw[qw hi];exact h3,h4⟩
theorem II(rb:Nat)(s:ByteArray)(L:List Tk)(tv:Value)(a dp B k:Nat)(rv:Value)(vs:List Value)(ps:List Part)(p:Part)(D:Nat→Prop)(w:aG)(h:Wk w rb s L tv a dp B k rv vs (ps++[p]) D)(hl:ps.length+1≤1073741824)(kd:Nat) :
  bB 175 #[aH B,ak kd] w fun e w'=>∃ N xX v,e=.returned (aH N)∧Hid (Yj w rb s L tv B k rv ps D N xX w'∧Wk w' rb s L tv a dp N kd xX [v] [p] D):=by
 have HK:=aA h;obtain⟨Sk,ty,x,rfl,hl0,he0,hp0⟩:=h.last;obtain⟨⟨c0,c1⟩,f0,f1⟩:=h.sM.facts;obtain⟨g,cap,rfl,-,hgl⟩:=h.sM.row.form aT;have hlen:(Sk++[Value.iface ty x]).length=ps.length+1:=by simp[hl0]
 rw[hlen] at c1;have x1:w.cell? (aC g ps.length)=some (.iface ty x):=by
  have:=h.sM.row.cells (g:=g) rfl ps.length (.iface ty x) (by rw[bL au,hl0,iZ];rfl)
  rwa[dQ,bS] at this
 have x2:w.frozen? (aC g ps.length)=false:=h.sM.row.frozenAt _;have wX:=aA he0;have O_:=aA hp0;have hbl:=h.sM.lt;have hgB:=(h.oz g rfl).2.2;clear h he0 hp0;go_enter func175,ntmps175;go_wp2_with fail
 go_ret;refine⟨w.heap.size+1,.slice (b_ w.heap.size) 1 1,.iface ty x,rfl,?_⟩;have h:=HK.o;have hrl:=h.iW.raw.lt;have k0:Kp (fun q=>q=g) w (w.setCell (aC g ps.length) (.iface 127 (aH (w.heap.size+1)))):=Kp.setCell (Kp.refl (fun q=>q=g) w) (p:=⟨g,ps.length,none⟩) (fun _=>rfl) _;have hset:=(h.sM.row.stored ps.length (.iface 127 (aH (w.heap.size+1)))).1;have hse:(Sk++[Value.iface ty x]).set ps.length (.iface 127 (aH (w.heap.size+1)))=Sk++[.iface 127 (aH (w.heap.size+1))]:=by
  rw[List.set_append_right _ _ au,hl0,iZ];rfl
 rw[hse] at hset;have hs0:(w.setCell (aC g ps.length) (.iface 127 (aH (w.heap.size+1)))).heap.size=w.heap.size:=aT
 generalize w.setCell (aC g ps.length) (.iface 127 (aH (w.heap.size+1)))=W0 at *;have k2:Kp (fun q=>q=g) w ((W0.alloc (Obj.cells #[Value.iface ty x] 192)).alloc (Obj.cells #[Value.int IntKind.i64 kd,Value.slice (b_ w.heap.size) 1 1] 130)):=Kp.alloc (Kp.alloc k0 _) _;have hr1:((W0.alloc (Obj.cells #[Value.iface ty x] 192)).alloc (Obj.cells #[Value.int IntKind.i64 kd,Value.slice (b_ w.heap.size) 1 1] 130)).heap[w.heap.size]?=some (.cells #[.iface ty x] 192 (0,0)):=by
  rw[← hs0];exact(eG (W0.alloc _) _ (show W0.heap.size<_ by simp)).trans (aI W0 _)
 have hr2:((W0.alloc (Obj.cells #[Value.iface ty x] 192)).alloc (Obj.cells #[Value.int IntKind.i64 kd,Value.slice (b_ w.heap.size) 1 1] 130)).heap[w.heap.size+1]?=some (.cells #[ak kd,.slice (b_ w.heap.size) 1 1] 130 (0,0)):=by
  have:=aI (W0.alloc (Obj.cells #[Value.iface ty x] 192)) (Obj.cells #[Value.int IntKind.i64 kd,Value.slice (b_ w.heap.size) 1 1] 130)
  rwa[fB,hs0] at this
 have hown:=(hset.alloc (Obj.cells #[Value.iface ty x] 192)).alloc (Obj.cells #[Value.int IntKind.i64 kd,Value.slice (b_ w.heap.size) 1 1] 130);have hsz:((W0.alloc (Obj.cells #[Value.iface ty x] 192)).alloc (Obj.cells #[Value.int IntKind.i64 kd,Value.slice (b_ w.heap.size) 1 1] 130)).heap.size=w.heap.size+2:=by simp[hs0]
 generalize (W0.alloc (Obj.cells #[Value.iface ty x] 192)).alloc (Obj.cells #[Value.int IntKind.i64 kd,Value.slice (b_ w.heap.size) 1 1] 130)=W at *;have hDg:∀ q,D q→¬(q=g):=fun q hq e=>(h.oz g rfl).1 (e ▸ hq)
 refine⟨⟨a,dp,_,_,_,Sk,h,⟨k2.heap h.sM.blk (fun e=>hgB e.symm),?_⟩,hl0,(wX.o).keep k2 hDg,fun q hq=>.inl hq,Kp.mono k2 (fun i _ e=>.inr (.inr (by rw[e];rfl))),au,au,fun q hq=>?_⟩,?_⟩
 ·have e:(Sk++[Value.iface 127 (aH (w.heap.size+1))]).length=(Sk++[Value.iface ty x]).length:=by simp
  rw[e];exact hown
 ·simp only[Value.ownBlock,dP] at hq ⊢
  subst hq;exact⟨ax _,fun e=>by have e2:=bQ e;omega⟩
 ·refine⟨h.iW.keep k2 (fun e=>(h.oz g rfl).2.1 e.symm) (fun q hq e=>(h.uK q hq).2.2.1 (by rw[e];rfl)),⟨hr2,⟨aT,.inr ⟨w.heap.size,1,#[.iface ty x],rfl,bJ _,hr1,ax _,by unfold maxLen;omega,rfl,rfl⟩⟩⟩,rfl,?_,fun q hq=>by have:=h.IA q hq;omega,⟨h.sep.1,fun hd=>by have:=h.IA _ hd;omega,au⟩,fun q hq=>?_,fun q hq=>?_⟩
  ·have:=(Each.nil W D).snoc rfl ((O_.o).keep k2 hDg)
   exact this
  ·simp only[Value.ownBlock,dP] at hq
   subst hq;exact⟨fun hd=>by have:=h.IA _ hd;omega,au,au⟩
  ·obtain⟨a1,a2,a3,a4⟩:=h.uK q hq
   exact⟨a1,au,(fun e=>by simp only[Value.ownBlock,dP] at e;omega),au⟩
end
section
open Tryz
open Go.RowKit
variable{rb dp:Nat}{s:ByteArray}{L:List Tk}{tv:Value}
theorem qA.deep{w:aG}{a:Nat}(h:qA w rb s L tv a dp)(d2:Nat):qA (w.setCell (aC rb 6) (ak d2)) rb s L tv a d2 :=
 ⟨h.raw.Fq _,h.row.keep (On.set (Kp.refl _ w) 6 _) (fun k hk e=>h.own k hk e),h.le,h.own⟩
theorem bU.deep{w w4:aG}{rb:Nat}{s:ByteArray}{L:List Tk}{tv:Value}{dp B k:Nat}{rv:Value}{ps:List Part}{ts:List X.Tok}{D:Nat→Prop}(h:bU w rb s L tv dp B k rv ps ts D w4)(d2:Nat):bU w rb s L tv d2 B k rv ps ts D (w4.setCell (aC rb 6) (ak d2)):=by
 obtain⟨a',rv',vs',D',h1,h2,h3,h4,h5,h6⟩:=h;have DJ:On rb w4 (w4.setCell (aC rb 6) (ak d2)):=On.set (Kp.refl _ w4) 6 _;exact⟨a',rv',vs',D',h1.moved DJ (h1.iW.deep d2),h2,h3,h4,h5,Kp.trans h6 DJ (fun i _ e=>.inl e)⟩
theorem bU.then{w w1:aG}{B k:Nat}{rv:Value}{ps1:List Part}{dh:List X.Tok}{D:Nat→Prop}{fn:FuncId}{F:X.R}{ok:List X.Tok→Prop}{Q:Ending→World→Prop}
  (h:bU w rb s L tv dp B k rv ps1 dh D w1) (hF:Reads fn F ok s L dp) (hok:ok dh) (hl:ps1.length+(F dh).1.length≤1073741824)
  (hQ:∀ w2,Hid (bU w rb s L tv dp B k rv (ps1++(F dh).1) (F dh).2 D w2)→Q (.returned (.tuple #[])) w2) :
  Calls prog fn #[aH rb,aH B] w1 Q:=by
 obtain⟨a1,nS,vs1,D1,g1,rfl,g3,g4,g5,g6⟩:=h;refine(hF rb tv a1 B k nS vs1 ps1 D1 w1 g1 hok hl).aX fun w2 H2=>?_;exact hQ w2 (bU.trans g3 g4 g5 g6 H2.o)
theorem TL(s:ByteArray)(L:List Tk)(dp:Nat)(hS:iU s L)(hdp:dp≤1000)(fn:FuncId)(hen:∀ args w,(callFunc fn args).run prog w=.ok (.enter fn args) w)(I:X.R)(hI:Reads fn I (fun _=>True) s L (dp+1))
  (rb:Nat) (tv:Value) (a B k:Nat) (rv:Value) (vs:List Value) (ps:List Part) (D:Nat→Prop) (w:aG) (h:Wk w rb s L tv a dp B k rv vs ps D) (hn:pQ (aR s L a)≠none) (kd:Nat) (hl:ps.length+1≤1073741824) (hl2:(X.andThen X.take I (aR s L a)).1.length≤1073741824) :
  bB 157 #[aH rb,aH B,ak kd,.func (.func fn) #[aH rb] #[]] w fun en w'=>en=.returned (.tuple #[])∧Hid (bU w rb s L tv dp B k rv (ps++(X.node kd (X.andThen X.take I) (aR s L a)).1) (X.node kd (X.andThen X.take I) (aR s L a)).2 D w'):=by
 have hlA:(X.take (aR s L a)).1.length+(I (X.take (aR s L a)).2).1.length≤1073741824:=by
  have:(X.andThen X.take I (aR s L a)).1.length=(X.take (aR s L a)).1.length+(I (X.take (aR s L a)).2).1.length:=by simp[X.andThen]
  omega
 clear hl2;have HH:=aA h;clear h;go_enter func157,ntmps157;go_wp2_with fail
 refine(Bq rb s L tv a dp B k rv vs ps D w HH.o au kd).aX fun w1 H1=>?_;obtain⟨⟨c0,c1,c2,c3,c4,c5,c6⟩,f0,f1,f2,f3,f4,f5,f6⟩:=(H1.o).2.iW.raw.facts;go_wp2_with fail
 have DJ:On rb w1 (w1.setCell (aC rb 6) (ak ((dp:Int)+1))):=On.set (Kp.refl _ w1) 6 _;have Md:=aA ((H1.o).1.moved DJ);have HW2:=aA <| (H1.o).2.moved DJ (by have:=(H1.o).2.iW.deep (dp+1);rw[j_] at this;exact this);clear c0 c1 c2 c3 c4 c5 c6 f0 f1 f2 f3 f4 f5 f6 DJ H1;generalize w1.setCell (aC rb 6) (ak ((dp:Int)+1))=W2 at *;refine(lQ s L (dp+1) hS rb tv a w.heap.size kd (.slice none 0 0) [] [] D W2 HW2.o hn aQ).aX fun w3 H3=>?_;rw[bM] at H3;go_wp2_with fail
 refine bU.then (H3.o) hI trivial au ?_;intro w4 H4;have HD:Hid (∃ a4:Nat,kr w4 rb s tv a4 (jO L a4) (dm (aR s L a4)) (ba (rZ (aR s L a4))) ((dp+1:Nat):Int)):=by
  obtain⟨a4,_,_,_,g1,_⟩:=H4.o;exact⟨a4,g1.iW.raw⟩
 obtain⟨a4,hraw⟩:=HD.o;obtain⟨⟨c0,c1,c2,c3,c4,c5,c6⟩,f0,f1,f2,f3,f4,f5,f6⟩:=hraw.facts;rw[j_] at c6;have HC:Hid (bU w rb s L tv dp B k rv (ps++(X.node kd (X.andThen X.take I) (aR s L a)).1) (X.node kd (X.andThen X.take I) (aR s L a)).2 D (w4.setCell (aC rb 6) (ak dp))):=(Md.o).close (H4.o.deep dp);clear H4 H3 HD hraw Md HW2;go_wp2_with fail
 go_end0;exact⟨rfl,by simpa using HC⟩
end
section
open Tryz
open Go.RowKit
variable{w w1:aG}{rb dp B k:Nat}{s:ByteArray}{L:List Tk}{tv rv:Value}{ps1:List Part}{dh:List X.Tok}{D:Nat→Prop}{Q:Ending→World→Prop}
def IJ(ss:List (ah)):Array Value:=(ss.map (fun x=>Value.string (ba x))).toArray
theorem vC(w:aG)(ss:List (ah))(hl:ss.length≤1073741824):vz (w.alloc (Obj.cells (IJ ss) 9)) w.heap.size ss:=by
 refine⟨fun i z hz=>?_,hl⟩;rw[aj _ _ i _ _ _ (aI w _)];unfold IJ;simp[hz]
theorem bU.kL
  (h:bU w rb s L tv dp B k rv ps1 dh D w1) (ss:List (ah)) (hl:ss.length≤1073741824)
  (hQ:∀ w2,Hid (bU w rb s L tv dp B k rv ps1 dh D w2)→Q (.returned (.bool (ss.any (fun x=>pN x dh)))) w2) :
  bB 113 #[aH rb,.slice (b_ w1.heap.size) ss.length ss.length] (w1.alloc (Obj.cells (IJ ss) 9)) Q:=by
 obtain⟨a1,nS,vs1,D1,g1,rfl,g3,g4,g5,g6⟩:=h;have kA:Below w1.heap.size w1 (w1.alloc (Obj.cells (IJ ss) 9)):=(aB _ w1).alloc (ax _) _;refine(vB rb s L tv a1 dp _ (g1.below kA).iW w1.heap.size ss (vC w1 ss hl)).aX fun w2 k2=>?_;have hk:=kA.trans (k2.mono aT);exact hQ w2 ⟨a1,nS,vs1,D1,g1.below hk,rfl,g3,g4,g5,Kp.trans g6 (Kp.aN hk (fun _=>False)) (fun _ _ h=>h.elim)⟩
theorem bU.want
  (h:bU w rb s L tv dp B k rv ps1 dh D w1) (hS:iU s L) (ss:List (ah)) (hx:∀ x∈ss,x≠[]) (hl1:ss.length≤1073741824) (hl:ps1.length+(eZ ss dh).1.length≤1073741824)
  (hQ:∀ w2,Hid (bU w rb s L tv dp B k rv (ps1++(eZ ss dh).1) (eZ ss dh).2 D w2)→Q (.returned (.tuple #[])) w2) :
  bB 134 #[aH rb,aH B,.slice (b_ w1.heap.size) ss.length ss.length] (w1.alloc (Obj.cells (IJ ss) 9)) Q:=by
 obtain⟨a1,nS,vs1,D1,g1,rfl,g3,g4,g5,g6⟩:=h;have kA:Below w1.heap.size w1 (w1.alloc (Obj.cells (IJ ss) 9)):=(aB _ w1).alloc (ax _) _;have hbl:=g1.sM.lt;have hrl:=g1.iW.raw.lt;refine(TK s L dp hS rb tv a1 B k nS vs1 ps1 D1 _ (g1.below kA) w1.heap.size ss (vC w1 ss hl1) hx ⟨au,au,fun e=>by have:=(dG g1.sM.row _ e).2;omega,aT⟩ hl).aX fun w2 H2=>?_;refine hQ w2 (bU.trans g3 g4 g5 (Kp.trans g6 (Kp.aN kA (fun _=>False)) (fun _ _ h=>h.elim)) ?_);obtain⟨a2,O7,vs2,D2,f1,f2,f3,f4,f5,f6⟩:=H2.o;refine⟨a2,O7,vs2,D2,f1,f2,f3,fun q hq=>?_,fun g hg=>?_,f6⟩
 ·exact f4 q hq
 ·exact f5 g hg
theorem bU.start{a:Nat}{vs:List Value}{ps:List Part}(h:Wk w rb s L tv a dp B k rv vs ps D):Hid (bU w rb s L tv dp B k rv ps (aR s L a) D w):=bU.refl h
theorem bU.good(h:bU w rb s L tv dp B k rv ps1 dh D w1)(hS:iU s L):X.Good dh:=by
 obtain⟨a1,nS,vs1,D1,g1,rfl,-⟩:=h;exact hS.rem a1
end
section
variable{x:ah}
namespace X
def eF(f:R):Prop:=∀ ts,∃ n,(f ts).2=ts.drop n
theorem eF.le{f:R}(h:eF f)(ts:List Tok):(f ts).2.length≤ts.length:=by
 obtain⟨n,e⟩:=h ts;rw[e,bV];omega
theorem eF.good{f:R}(h:eF f){ts:List Tok}(hg:Good ts):Good (f ts).2:=by
 obtain⟨n,e⟩:=h ts;rw[e];exact fun t ht=>hg t ((List.drop_sublist _ _).subset ht)
theorem eF.nil:eF Fv:=fun _=>⟨0,rfl⟩
theorem eF.andThen{f g:R}(hf:eF f)(hg:eF g):eF (X.andThen f g):=by
 intro ts;obtain⟨n,e⟩:=hf ts;obtain⟨m,e'⟩:=hg (f ts).2;exact⟨n+m,by show(g (f ts).2).2=_;rw[e',e,cZ]⟩
theorem eF.node{f:R}(hf:eF f)(k:Nat):eF (node k f):=hf
theorem eF.ite{f g:R}{c:List Tok→Bool}(hf:eF f)(hg:eF g):eF (fun ts=>if c ts then f ts else g ts):=by
 intro ts;show ∃ n,(if c ts then f ts else g ts).2=_
 split
 ·exact hf ts
 ·exact hg ts
theorem eF.miss(m:ah):eF (fun ts=>([.miss m],ts)):=fun _=>⟨0,rfl⟩
theorem yY(p:Tok→Bool)(l:List Tok):∃ n,l.dropWhile p=l.drop n:=⟨_,dropWhile_drop p l⟩
theorem eF.take:eF X.take:=by
 intro ts;obtain⟨n,e⟩:=yY quiet ts;exact⟨n+1,by show(ts.dropWhile quiet).drop 1=_;rw[e,cZ]⟩
theorem fZ{ts:List Tok}(h:pQ ts≠none):(take ts).2.length<ts.length:=by
 have h1:(ts.dropWhile quiet).length≤ts.length:=(gD _).length_le;have h2:0<(ts.dropWhile quiet).length:=by
  rcases gZ (ts.dropWhile quiet).length with g|g
  ·exfalso;apply h;unfold pQ;rw[bP.1 g];rfl
  ·exact g
 show((ts.dropWhile quiet).drop 1).length<_;rw[bV];omega
theorem eF.want(x:ah):eF (X.want x):=eF.ite (c:=dJ x) eF.take (eF.miss x)
theorem eF.bE:eF X.bE:=eF.ite (c:=fun ts=>dm ts==3) eF.take (eF.miss gy)
theorem bY{ts:List Tok}(h:dJ x ts=true):pQ ts≠none:=by
 intro e;unfold dJ at h;rw[e] at h;cases h
theorem jM{k:Nat}{ts:List Tok}(hk:k≠0)(h:(dm ts==k)=true):pQ ts≠none:=by
 intro e;unfold dm at h;rw[e] at h;simp at h;omega
theorem qi{ts:List Tok}(hg:Good ts)(hs:x∈words∨x∈signs):qY x ts=want x ts:=by
 unfold qY want;rw[gV hg hs]
theorem vD{ts:List Tok}(hg:Good ts):qY gy ts=bE ts:=by
 unfold qY bE;rw[M0 hg]
theorem oC(x:ah):eZ [x]=qY x:=by rw[eZ,eZ,yL]
theorem Ll{one:R}(hO:eF one):∀(n:Nat) (ts:List Tok),ts.length≤n→iA one n ts=iA one ts.length ts:=by
 intro n
 induction n using Nat.strongRecOn with
 | _ n ih =>
  intro ts h;rcases cu ts.length n with hlt|hge
  ·cases n with
   | zero=>omega
   | succ n =>
    cases hm:ts.length with
    | zero =>
     have h0:=bP.1 hm;subst h0;rfl
    | succ m =>
     unfold iA;by_cases hc:dJ [44] ts=true
     ·rw[aU hc,aU hc]
      have hl:=fZ (bY hc);have hl2:=hO.le (take ts).2;have e1:=ih n au (one (take ts).2).2 au;have e2:=ih m au (one (take ts).2).2 au;show(_,_)=(_,_);simp only[andThen];rw[e1,e2]
     ·rw[aM hc,aM hc]
  ·rw[show n=ts.length by omega]
def jC(one:R):R:=fun ts=>iA one ts.length ts
theorem IK{one:R}(hO:eF one){ts:List Tok}(h:dJ [44] ts=true):jC one ts=andThen take (andThen one (jC one)) ts:=by
 have hl:=fZ (bY h);have hl2:=hO.le (take ts).2;unfold jC;obtain⟨m,hm⟩:∃ m,ts.length=m+1:=⟨ts.length - 1,au⟩;rw[hm]
 conv=>lhs;unfold iA
 rw[aU h];simp only[andThen];rw[Ll hO m _ au]
theorem M6{one:R}{ts:List Tok}(h:dJ [44] ts=false):jC one ts=([],ts):=by
 unfold jC;cases ts.length with
 | zero=>rfl
 | succ m=>unfold iA;rw[aM (by rw[h];simp)]
theorem eF.iA{one:R}(h:eF one):∀ n,eF (iA one n)
 | 0=>eF.nil
 | n+1=>eF.ite (c:=dJ [44]) (eF.take.andThen (h.andThen (eF.iA h n))) eF.nil
theorem eF.jC{one:R}(h:eF one):eF (X.jC one):=fun ts=>eF.iA h ts.length ts
theorem qj(one:R)(e:ah)(ts:List Tok):dz one e ts=if dJ e ts then want e ts else andThen one (andThen (jC one) (want e)) ts:=rfl
theorem eF.dz{one:R}(h:eF one)(e:ah):eF (X.dz one e):=eF.ite (c:=dJ e) (eF.want e) (h.andThen (h.jC.andThen (eF.want e)))
theorem eF.params:eF X.params:=((eF.want _).andThen (eF.bE.dz _)).node 6
theorem Lm{one:R}{ok:List Tok→Bool}(hO:eF one)(hok:∀ ts,ok ts=true→pQ ts≠none):∀(n:Nat) (p:List Part) (ts:List Tok),ts.length≤n→iG one ok n p ts=iG one ok ts.length p ts:=by
 intro n
 induction n using Nat.strongRecOn with
 | _ n ih =>
  intro p ts h;rcases cu ts.length n with hlt|hge
  ·cases n with
   | zero=>omega
   | succ n =>
    by_cases hc:ok ts=true
    ·have hl:=fZ (hok ts hc)
     have hl2:=hO.le (take ts).2;obtain⟨m,hm⟩:∃ m,ts.length=m+1:=⟨ts.length - 1,au⟩;rw[hm];unfold iG;rw[aU hc,aU hc,ih n au _ _ (by show(one (take ts).2).2.length≤_;omega),ih m au _ _ (by show(one (take ts).2).2.length≤_;omega)]
    ·have e:∀ m,iG one ok (m+1) p ts=(p,ts):=fun m=>by unfold iG;rw[aM hc]
     rw[e n];cases hm:ts.length with
     | zero=>rfl
     | succ m=>rw[e m]
  ·rw[show n=ts.length by omega]
def Br(one:R)(ok:List Tok→Bool)(p:List Part):R:=fun ts=>iG one ok ts.length p ts
theorem tQ{one:R}{ok:List Tok→Bool}(hO:eF one)(hok:∀ ts,ok ts=true→pQ ts≠none){p:List Part}{ts:List Tok}(h:ok ts=true):Br one ok p ts=Br one ok [.br 10 (p++(andThen take one ts).1)] (andThen take one ts).2:=by
 have hl:=fZ (hok ts h);have hl2:=hO.le (take ts).2;unfold Br;obtain⟨m,hm⟩:∃ m,ts.length=m+1:=⟨ts.length - 1,au⟩;rw[hm]
 conv=>lhs;unfold iG
 rw[aU h,Lm hO hok m _ _ (by show(one (take ts).2).2.length≤_;omega)]
theorem Fw{one:R}{ok:List Tok→Bool}{p:List Part}{ts:List Tok}(h:ok ts=false):Br one ok p ts=(p,ts):=by
 unfold Br;cases ts.length with
 | zero=>rfl
 | succ m=>unfold iG;rw[aM (by rw[h];simp)]
theorem Lp(one:R)(ok:List Tok→Bool)(ts:List Tok):row one ok ts=Br one ok (one ts).1 (one ts).2:=rfl
theorem eF.iG{one:R}{ok:List Tok→Bool}(h:eF one):∀(n:Nat) (p:List Part),eF (iG one ok n p)
 | 0,_=>fun _=>⟨0,rfl⟩
 | n+1,p=>by
  intro ts;unfold X.iG
  split
  ·obtain⟨m,e⟩:=(eF.take.andThen h) ts
   obtain⟨m',e'⟩:=eF.iG (ok:=ok) h n [.br 10 (p++(X.andThen X.take one ts).1)] (X.andThen X.take one ts).2;exact⟨m+m',by rw[e',e,cZ]⟩
  ·exact⟨0,rfl⟩
theorem eF.row{one:R}{ok:List Tok→Bool}(h:eF one):eF (row one ok):=by
 intro ts;obtain⟨m,e⟩:=h ts;obtain⟨m',e'⟩:=eF.iG (ok:=ok) h (one ts).2.length (one ts).1 (one ts).2;exact⟨m+m',by show(X.iG _ _ _ _ _).2=_;rw[e',e,cZ]⟩
theorem eF.args{E:R}(h:eF E):eF (args E):=(eF.take.andThen (h.dz _)).node 12
theorem zD{E:R}(h:eF E){ts:List Tok}(hn:pQ ts≠none):(args E ts).2.length<ts.length:=by
 have h1:=fZ hn;have h2:=(h.dz [41]).le (take ts).2;show(dz E [41] (take ts).2).2.length<_;omega
theorem IL{E:R}(hE:eF E):∀(n:Nat) (p:List Part) (ts:List Tok),ts.length≤n→fG E n p ts=fG E ts.length p ts:=by
 intro n
 induction n using Nat.strongRecOn with
 | _ n ih =>
  intro p ts h;rcases cu ts.length n with hlt|hge
  ·cases n with
   | zero=>omega
   | succ n =>
    by_cases hc:dJ [40] ts=true
    ·have hl:=zD hE (bY hc)
     obtain⟨m,hm⟩:∃ m,ts.length=m+1:=⟨ts.length - 1,au⟩;rw[hm];unfold fG;rw[aU hc,aU hc,ih n au _ _ au,ih m au _ _ au]
    ·have e:∀ m,fG E (m+1) p ts=(p,ts):=fun m=>by unfold fG;rw[aM hc]
     rw[e n];cases hm:ts.length with
     | zero=>rfl
     | succ m=>rw[e m]
  ·rw[show n=ts.length by omega]
def uR(E:R)(p:List Part):R:=fun ts=>fG E ts.length p ts
theorem DL{E:R}(hE:eF E){p:List Part}{ts:List Tok}(h:dJ [40] ts=true):uR E p ts=uR E [.br 11 (p++(args E ts).1)] (args E ts).2:=by
 have hl:=zD hE (bY h);unfold uR;obtain⟨m,hm⟩:∃ m,ts.length=m+1:=⟨ts.length - 1,au⟩;rw[hm]
 conv=>lhs;unfold fG
 rw[aU h,IL hE m _ _ au]
theorem IQ{E:R}{p:List Part}{ts:List Tok}(h:dJ [40] ts=false):uR E p ts=(p,ts):=by
 unfold uR;cases ts.length with
 | zero=>rfl
 | succ m=>unfold fG;rw[aM (by rw[h];simp)]
theorem eF.fG{E:R}(h:eF E):∀(n:Nat) (p:List Part),eF (X.fG E n p)
 | 0,_=>fun _=>⟨0,rfl⟩
 | n+1,p=>by
  intro ts;unfold X.fG
  split
  ·obtain⟨m,e⟩:=h.args ts
   obtain⟨m',e'⟩:=eF.fG h n [.br 11 (p++(X.args E ts).1)] (X.args E ts).2;exact⟨m+m',by rw[e',e,cZ]⟩
  ·exact⟨0,rfl⟩
theorem eF.part{E:R}(h:eF E):eF (part E) :=
 eF.ite (c:=fun ts=>dm ts==5) (eF.take.node _) <|
 eF.ite (c:=fun ts=>dm ts==6) (eF.take.node _) <|
 eF.ite (c:=fun ts=>dJ [116,114,117,101] ts||dJ [102,97,108,115,101] ts) (eF.take.node _) <|
 eF.ite (c:=fun ts=>dm ts==3) (eF.take.node _) <|
 eF.ite (c:=dJ [63]) (eF.take.node _) <|
 eF.ite (c:=dJ [40]) ((eF.take.andThen (h.andThen (eF.want _))).node _) <|
 eF.ite (c:=dJ [91]) ((eF.take.andThen (h.dz _)).node _) (eF.miss _)
theorem eF.call{E:R}(h:eF E):eF (call E):=by
 intro ts;obtain⟨m,e⟩:=h.part ts;obtain⟨m',e'⟩:=eF.fG h (X.part E ts).2.length (X.part E ts).1 (X.part E ts).2;exact⟨m+m',by show(X.fG _ _ _ _).2=_;rw[e',e,cZ]⟩
theorem eF.product{E:R}(h:eF E):eF (X.product E):=h.call.row
theorem eF.sum{E:R}(h:eF E):eF (X.sum E):=h.product.row
theorem eF.comparison{E:R}(h:eF E):eF (X.comparison E):=by
 intro ts;by_cases hc:(dJ [61,61] (X.sum E ts).2||dJ [60] (X.sum E ts).2)=true
 ·have e3:(X.comparison E ts).2=(X.andThen X.take (X.sum E) (X.sum E ts).2).2:=by unfold X.comparison;rw[aU hc]
  obtain⟨m,e⟩:=h.sum ts;obtain⟨m',e'⟩:=(eF.take.andThen h.sum) (X.sum E ts).2;refine⟨m+m',?_⟩;rw[e3,e',e,cZ]
 ·have e3:X.comparison E ts=X.sum E ts:=by unfold X.comparison;rw[aM hc]
  rw[e3];exact h.sum ts
theorem eF.expr:∀ n,eF (X.expr n)
 | 0=>eF.miss _
 | n+1 =>
  have h:=eF.expr n
  eF.ite (c:=dJ [108,101,116]) ((eF.take.andThen (eF.bE.andThen ((eF.want _).andThen (h.andThen ((eF.want _).andThen h))))).node _) <|
  eF.ite (c:=dJ [105,102]) ((eF.take.andThen (h.andThen ((eF.want _).andThen (h.andThen ((eF.want _).andThen h))))).node _) <|
  eF.ite (c:=dJ [102,117,110]) ((eF.take.andThen (eF.params.andThen ((eF.want _).andThen h))).node _) h.comparison
end X
end
end Go.Proofs.YtoohcklcppnafaaGreatDoor
