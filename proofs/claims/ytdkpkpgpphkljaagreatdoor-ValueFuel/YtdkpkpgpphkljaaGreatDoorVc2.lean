/- Package syntax: what stands ahead of a row is counted in a block of its own;a row;what a reader may turn. -/
import Derived.Test.YtdkpkpgpphkljaaGreatDoorVb
import Derived.Test.YtdkpkpgpphkljaaGreatDoorWzw
import Derived.Deep.CutBlock
namespace Go.Proofs.YtdkpkpgpphkljaaGreatDoor
set_option maxRecDepth 100000
set_option maxHeartbeats 4000000
open Go.RowKit
open M
section
variable{w w' W W':World}{B k n ab b rb kb i:Nat}{T:TypeId}{v:Value}{xs:List Value}{c:Array Value}{f:Nat × Nat}{S D:Nat→Prop}{ps:List X.Part}
def Ri(ab:Nat)(w:World):Nat:=match w.cell? ⟨ab,1,none⟩ with|some (.slice _ n _)=>n|_=>0
structure lV(w:World)(D:Nat→Prop)(ab i:Nat):Prop where
 ex:∃(bv:Value) (bl:List Int) (en gp:Int),w.heap[ab]?=some (.cells #[.int .i64 i,bv,.int .i64 en,.int .i64 gp] 114 (0,0))∧w.ownsRow (ab+1) 3 1 bv bl.length (bl.map (Value.int .i64))∧bl.length≤i∧∀ q,bv.ownBlock=some q→¬ D q
theorem rE(h:w.ownsRow B T k v n xs):∃ o c,v=.slice o n c∧n≤maxLen:=by
 rcases h.2 with ⟨rfl,rfl⟩|⟨g,cap,cur,rfl,-,-,h1,h2,-⟩
 ·exact⟨none,0,rfl,aX _⟩
 ·exact⟨_,cap,rfl,by omega⟩
theorem jb(h:w.ownsRow B T k v n xs){q:Nat}(hq:v.ownBlock=some q):B≤q∧∃ c f,w.heap[q]?=some (.cells c T f):=by
 rcases h.2 with ⟨rfl,-⟩|⟨g,cap,cur,rfl,hge,hg,-⟩
 ·cases hq
 ·obtain rfl:g=q:=by simpa [Value.ownBlock] using hq
  exact⟨hge,cur,_,hg⟩
theorem uL{a b c:Value}{o:Option Addr}{m:Nat}{t:TypeId}(h:w.heap[ab]?=some (.cells #[a,.slice o n m,b,c] t f)):Ri ab w=n:=by
 unfold Ri;rw[ai w _ 1 _ _ _ h];rfl
def Sw(w:World)(D:Nat→Prop)(rb ab q:Nat):Prop:=q=rb∨q=ab∨(ab<q∧¬ D q∧∃ c f,w.heap[q]?=some (.cells c 3 f))
structure Kq(D:Nat→Prop)(rb ab:Nat)(w w':World):Prop where
 kp:Kp (Sw w D rb ab) w w'
 le:Ri ab w≤Ri ab w'
theorem Kq.size{D:Nat→Prop}{rb ab:Nat}{w w':World}(h:Kq D rb ab w w'):w.heap.size≤w'.heap.size:=h.kp.size
theorem Kq.refl(D:Nat→Prop)(rb ab:Nat)(w:World):Kq D rb ab w w:=⟨Kp.refl _ _,aj _⟩
theorem Kq.trans{D:Nat→Prop}{rb ab:Nat}{w w1 w2:World}(h:Kq D rb ab w w1)(k:Kq D rb ab w1 w2):Kq D rb ab w w2 :=
 ⟨Kp.trans h.kp k.kp (fun q hq e=>by
  rcases e with e|e|⟨e,e1,c,f,hc⟩
  ·exact .inl e
  ·exact .inr (.inl e)
  ·by_cases hs:Sw w D rb ab q
   ·exact hs
   ·exact .inr (.inr ⟨e,e1,c,f,by rw[← h.kp.block q hq hs];exact hc⟩)),bS h.le k.le⟩
theorem Eo(k:Kp S w w')(ha:ab<w.heap.size)(h:¬ S ab):Ri ab w'=Ri ab w:=by
 unfold Ri;rw[k.cell (p:=⟨ab,1,none⟩) ha h]
theorem Kq.PK(k:Kp S w w')(ha:ab<w.heap.size)(h:∀ q,q<w.heap.size→¬ S q):Kq D rb ab w w':=⟨k.mono (fun q hq e=>absurd e (h q hq)),Nat.le_of_eq (Eo k ha (h _ ha)).symm⟩
theorem Kq.aI{D:Nat→Prop}{rb ab:Nat}{w w':World}(k:Below w.heap.size w w')(ha:ab<w.heap.size):Kq D rb ab w w':=Kq.PK (Kp.aI k (fun _=>False)) ha (fun _ _=>id)
theorem Kq.set{D:Nat→Prop}{rb ab:Nat}{w W:World}(h:Kq D rb ab w W)(ha:ab<w.heap.size){b:Nat}(hb:w.heap.size≤b)(k:Nat)(v:Value):Kq D rb ab w (W.setCell ⟨b,k,none⟩ v) :=
 ⟨Kp.setCell (p:=⟨b,k,none⟩) h.kp (fun e=>absurd e (by simpa using hb)) v,by
  refine bS h.le (Nat.le_of_eq (Eo (S:=fun q=>q=b) (On.set (Kp.refl _ W) k v) (aH ha h.size) ?_).symm);omega⟩
theorem Kq.inner(h:Kq D rb ab w W)(k:Kq D kb ab W W')(hk:w.heap.size≤kb):Kq D rb ab w W' :=
 ⟨Kp.trans h.kp k.kp (fun q hq e=>by
  rcases e with e|e|⟨e,e1,c,f,hc⟩
  ·omega
  ·exact .inr (.inl e)
  ·by_cases hs:Sw w D rb ab q
   ·exact hs
   ·exact .inr (.inr ⟨e,e1,c,f,by rw[← h.kp.block q hq hs];exact hc⟩)),bS h.le k.le⟩
theorem Rj(h:w.heap[b]?=some (.cells c T f))(hT:T≠3)(h1:b≠rb)(h2:b≠ab):¬ Sw w D rb ab b:=fun e=>by
 rcases e with e|e|⟨-,-,c',f',e⟩
 ·exact h1 e
 ·exact h2 e
 ·rw[h] at e
  injection e with e;injection e with e1 e2;exact hT e2
theorem Kq.heap{D:Nat→Prop}{rb ab:Nat}{w w':World}(k:Kq D rb ab w w'){b:Nat}{c:Array Value}{T:TypeId}{f:Nat × Nat}(h:w.heap[b]?=some (.cells c T f))(hT:T≠3)(h1:b≠rb)(h2:b≠ab):w'.heap[b]?=some (.cells c T f):=k.kp.heap h (Rj h hT h1 h2)
theorem Kq.owns{D:Nat→Prop}{rb ab:Nat}{w w':World}(k:Kq D rb ab w w'){B:Nat}{T:TypeId}{m:Nat}{v:Value}{n:Nat}{xs:List Value}(h:w.ownsRow B T m v n xs)(hT:T≠3)(h1:∀ g,v.ownBlock=some g→g≠rb∧g≠ab):w'.ownsRow B T m v n xs :=
 k.kp.owns h (fun q hq=>by
  obtain⟨-,c,f,hc⟩:=jb h hq;exact Rj hc hT (h1 q hq).1 (h1 q hq).2)
theorem Kq.nds(k:Kq D rb ab w w')(h:qz w D v ps)(h1:¬ D rb)(h2:¬ D ab):qz w' D v ps:=h.keep k.kp (fun q hq e=>by
 rcases e with e|e|⟨-,e,-⟩
 ·exact h1 (e ▸ hq)
 ·exact h2 (e ▸ hq)
 ·exact e hq)
theorem lV.keep(h:lV w D ab i)(k:Kp S w w')(h1:¬ S ab)(h2:∀ q c f,ab<q→w.heap[q]?=some (.cells c 3 f)→¬ S q):lV w' D ab i:=by
 obtain⟨bv,bl,en,gp,hb,ho,hn,hd⟩:=h.ex;refine⟨bv,bl,en,gp,k.heap hb h1,k.owns ho (fun q hq=>?_),hn,hd⟩;obtain⟨hge,c,f,hc⟩:=jb ho hq;exact h2 q c f (by omega) hc
theorem lV.below(h:lV w D ab i)(k:Below w.heap.size w w'):lV w' D ab i:=h.keep (Kp.aI k (fun _=>False)) id (fun _ _ _ _ _=>id)
theorem lV.lt(h:lV w D ab i):ab<w.heap.size:=by
 obtain⟨bv,bl,en,gp,hb,-⟩:=h.ex;exact aP hb
structure cO(w:World)(D:Nat→Prop)(rb ab:Nat)(ps:List X.Part)(i:Nat):Prop where
 blk:∃ v,w.heap[rb]?=some (.cells #[.pointer (some ⟨ab,0,none⟩),v] 120 (0,0))∧qz w D v ps
 Ar:lV w D ab i
 sep:rb≠ab∧¬ D rb∧¬ D ab
 Ik:X.Gd ps
theorem cO.lt{w:World}{D:Nat→Prop}{rb ab:Nat}{ps:List X.Part}{i:Nat}(h:cO w D rb ab ps i):rb<w.heap.size∧ab<w.heap.size:=by
 obtain⟨v,e,-⟩:=h.blk;exact⟨aP e,h.Ar.lt⟩
theorem cO.keep{S:Nat→Prop}{w w':World}{D:Nat→Prop}{rb ab:Nat}{ps:List X.Part}{i:Nat}(h:cO w D rb ab ps i)(hk:Kp S w w')(h1:¬ S rb)(h2:¬ S ab)(hD:∀ q,D q→¬ S q)(hI:∀ q c f,ab<q→w.heap[q]?=some (.cells c 3 f)→¬ S q):cO w' D rb ab ps i:=by
 obtain⟨v,e,hn⟩:=h.blk;exact⟨⟨v,hk.heap e h1,hn.keep hk hD⟩,h.Ar.keep hk h2 hI,h.sep,h.Ik⟩
theorem cO.below(h:cO w D rb ab ps i)(hk:Below w.heap.size w w'):cO w' D rb ab ps i:=h.keep (Kp.aI hk (fun _=>False)) id id (fun _ _=>id) (fun _ _ _ _ _=>id)
theorem cO.on(h:cO w D rb ab ps i)(hk:Kp (fun q=>q=b) w w')(hb:w.heap[b]?=some (.cells c T f))(hT:T≠3)(h1:rb≠b)(h2:ab≠b)(hD:¬ D b):cO w' D rb ab ps i :=
 h.keep hk h1 h2 (fun q hq e=>hD (e ▸ hq)) (fun q c' f' _ e e'=>by
  subst e';rw[hb] at e;injection e with e;injection e with e1 e2;exact hT e2)
theorem cO.other{qs:List X.Part}{j:Nat}(h:cO w D rb ab ps i)(k:Kq D kb ab w w')(hk:cO w' D kb ab qs j)(hn:rb≠kb):cO w' D rb ab ps j:=by
 obtain⟨v,e,hv⟩:=h.blk;exact⟨⟨v,k.heap e (by decide) hn h.sep.1,k.nds hv hk.sep.2.1 hk.sep.2.2⟩,hk.Ar,h.sep,h.Ik⟩
theorem Kq.new(hk:Kq D rb ab W W')(h1:rb<w.heap.size)(h2:ab<w.heap.size)(h:W.heap[w.heap.size]?=some (.cells c T f))(hT:T≠3):W'.heap[w.heap.size]?=some (.cells c T f):=hk.heap h hT (by omega) (by omega)
theorem Kq.made(hk:Kq D rb ab W W')(h1:rb<w.heap.size)(h2:ab<w.heap.size)(hb:w.heap.size≤b)(h:W.heap[b]?=some (.cells c T f))(hT:T≠3):W'.heap[b]?=some (.cells c T f):=hk.heap h hT (by omega) (by omega)
theorem Kq.more(h:Kq D rb ab w W)(k:Below W.heap.size W W')(ha:ab<w.heap.size):Kq D rb ab w W':=h.trans (Kq.aI k (aH ha h.size))
theorem Kq.over(h:Kq D rb ab w W)(k:Kp S W W')(ha:ab<w.heap.size)(hS:∀ q,q<w.heap.size→¬ S q):Kq D rb ab w W':=⟨Kp.trans h.kp k (fun q hq e=>absurd e (hS q hq)),bS h.le (Nat.le_of_eq (Eo k (aH ha h.size) (hS _ ha)).symm)⟩
theorem nH(h:w.heap[b]?=some (.cells c T f))(hT:T≠3):¬ ∃ c' f',w.heap[b]?=some (.cells c' 3 f'):=fun⟨c',f',e⟩=>by
 rw[h] at e;injection e with e;injection e with e1 e2;exact hT e2
theorem Sw.int{lo:Nat}(h1:rb<lo)(h2:ab<lo)(hi:lo≤i)(h:Sw w D rb ab i):∃ c f,w.heap[i]?=some (.cells c 3 f):=by
 rcases h with e|e|⟨-,-,e⟩
 ·omega
 ·omega
 ·exact e
theorem Kq.wide(h:Kq D ab ab w w'):Kq D rb ab w w':=⟨h.kp.mono (fun q _ e=>by
 rcases e with e|e|e
 ·exact .inr (.inl e)
 ·exact .inr (.inl e)
 ·exact .inr (.inr e)),h.le⟩
theorem Kq.set2(h:Kq D rb ab w W)(ha:ab<w.heap.size)(hb:w.heap.size≤b)(x0 x1:Value):Kq D rb ab w ((W.setCell ⟨b,0,none⟩ x0).setCell ⟨b,1,none⟩ x1):=(h.set ha hb 0 x0).set ha hb 1 x1
theorem Kq.Ni(h:Kq D rb ab w W)(ha:ab<w.heap.size)(hb:w.heap.size≤b)(x0 x1 x2 x3:Value):Kq D rb ab w ((((W.setCell ⟨b,0,none⟩ x0).setCell ⟨b,1,none⟩ x1).setCell ⟨b,2,none⟩ x2).setCell ⟨b,3,none⟩ x3):=(((h.set ha hb 0 x0).set ha hb 1 x1).set ha hb 2 x2).set ha hb 3 x3
end
section
open Tryz
variable{W:World}{b:Nat}
theorem aO3:(prog.info? 3).map (fun i=>(i.zero,i.size,i.bytes))=some (some (.int .i64 0),1,8):=by kernel_rfl
theorem aO4{f:Option TypeInfo}{z:Value}{n m:Nat}(h:f.map (fun i=>(i.zero,i.size,i.bytes))=some (some z,n,m)):∃ i,f=some i∧i.zero=some z∧i.size=n∧i.bytes=m:=by
 cases f with
 | none=>cases h
 | some i =>
  simp only[mE,eH,dG] at h;exact⟨i,rfl,h.1,h.2.1,h.2.2⟩
theorem Zg{vs:Array Value}{ty:TypeId}(h:W.heap[b]?=some (.cells vs ty (0,0)))(k:Nat)(v:Value):(W.setCell ⟨b,k,none⟩ v).heap[b]?=some (.cells (vs.setIfInBounds k v) ty (0,0)):=by simp[World.setCell,aK,h]
theorem mW{c:Array Value}{t:TypeId}(h:W.heap[b]?=some (.cells c t (0,0)))(k:Nat):W.frozen? ⟨b,k,none⟩=false:=by simp[World.frozen?,h]
theorem Xc{z:Nat}(h:(z==10)=true):z=10:=by simpa using h
theorem JG(ab i tk:Nat)(x:ByteArray)(a4:Option Addr)(a5 a6:Nat)(w:World)(D:Nat→Prop)(h:lV w D ab i)(hi:i+x.size≤1073741824)(hx:0<x.size)(hDl:∀ q,D q→q<w.heap.size) :
  Calls prog 82 #[.pointer (some ⟨ab,0,none⟩),.agg #[.int .i64 0,.int .i64 tk,.string x,.slice a4 a5 a6]] w fun e w'=>e=.returned (.tuple #[])∧Hid (lV w' D ab (i+x.size)∧Kq D ab ab w w'):=by
 obtain⟨bv,bl,en,gp,hb,ho,hn,hbD⟩:=h.ex;clear h;obtain⟨bo,bc,hbv,-⟩:=rE ho;have hn0:Hid (Ri ab w=bl.length):=by
  rw[hbv] at hb;exact uL hb
 have HBv:=au hbv;clear hbv;generalize hxs:bl.map (Value.int .i64)=xs at *;generalize hnn:bl.length=n at *;have HXs:=au hxs;have HNn:=au hnn;clear hxs hnn;have HBD:=au hbD;have mI:=au hDl;clear hbD hDl;have k0:Below w.heap.size w (w.alloc (.cells #[.int .i64 0,.int .i64 tk,.string x,.slice a4 a5 a6] 117)):=(ay _ w).alloc (aj _) _;have hN:=aB w (.cells #[.int .i64 0,.int .i64 tk,.string x,.slice a4 a5 a6] 117);have q0:=Kp.aI k0 (fun _=>False);have hb0:=q0.heap hb id;have ho0:=q0.owns ho (fun _ _=>id);have hal:=aP hb;have K0:=au (Kp.aI k0 (Sw w D ab ab));clear k0 q0;go_enter func82,ntmps82
 go_upto_region 1 with fail
 generalize hW:w.alloc (.cells #[.int .i64 0,.int .i64 tk,.string x,.slice a4 a5 a6] 117)=w1 at *;generalize hB:w.heap.size=B at hN ⊢;have c0:=ai w1 _ 0 _ _ _ hb0;have n2:=ai w1 _ 2 _ _ _ hN;have f0:=mW hb0 0;go_wp2_with fail
 refine Co (S:=fun w'=>w'.cell? ⟨ab,0,none⟩=some (.int .i64 i)∧w'.cell? ⟨B,2,none⟩=some (.string x)) (Z:=fun j=>j==10) (by kernel_rfl) ?_;have hS:w1.drew.cell? ⟨ab,0,none⟩=some (.int .i64 i)∧w1.drew.cell? ⟨B,2,none⟩=some (.string x):=⟨c0,n2⟩;have hb1:w1.drew.heap[ab]?=some (.cells #[.int .i64 i,bv,.int .i64 en,.int .i64 gp] 114 (0,0)):=hb0;have hN1:w1.drew.heap[B]?=some (.cells #[.int .i64 0,.int .i64 tk,.string x,.slice a4 a5 a6] 117 (0,0)):=hN;have ho1:w1.drew.ownsRow (ab+1) 3 1 bv n xs:=ho0.drew;have K1:=au ((K0.o).drew);clear c0 n2 f0 hb0 hN ho0 K0 hW;generalize w1.drew=w2 at *;have f0:=mW hb1 0;refine nO (i:=0) (dn:=9) (v:=?_) rfl rfl (by kernel_rfl) (fun z hz=>by obtain rfl:=Xc hz;kernel_rfl) (by kernel_rfl) (by kernel_rfl) (fun _ _ _ h=>h) (Or.inl ⟨by rfl,?_⟩) hS ?_;rotate_left
 ·(intro wx hSw;(try dsimp only at hSw);obtain⟨JH,JI⟩:=hSw;go_simp;try(with_reducible rfl))
 simp only[Act.put,ax,aD,aF];refine nO (i:=1) (dn:=10) (v:=?_) rfl rfl (by kernel_rfl) (fun z hz=>by obtain rfl:=Xc hz;kernel_rfl) (by kernel_rfl) (by kernel_rfl) (fun _ _ _ h=>h) (Or.inl ⟨by rfl,?_⟩) hS ?_;rotate_left
 ·(intro wx hSw;(try dsimp only at hSw);obtain⟨JH,JI⟩:=hSw;go_simp;try(with_reducible rfl))
 simp only[Act.put,ax,aD,aF];refine nO (i:=2) (dn:=11) (v:=?_) rfl rfl (by kernel_rfl) (fun z hz=>by obtain rfl:=Xc hz;kernel_rfl) (by kernel_rfl) (by kernel_rfl) (fun _ _ _ h=>h) (Or.inl ⟨by rfl,?_⟩) hS ?_;rotate_left
 ·(intro wx hSw;(try dsimp only at hSw);obtain⟨JH,JI⟩:=hSw;go_simp;try(with_reducible rfl))
 simp only[Act.put,ax,aD,aF];refine nO (i:=3) (dn:=12) (v:=?_) rfl rfl (by kernel_rfl) (fun z hz=>by obtain rfl:=Xc hz;kernel_rfl) (by kernel_rfl) (by kernel_rfl) (fun _ _ _ h=>h) (Or.inl ⟨by rfl,?_⟩) hS ?_;rotate_left
 ·(intro wx hSw;(try dsimp only at hSw);obtain⟨JH,JI⟩:=hSw;go_simp;try(with_reducible rfl))
 simp only[Act.put,ax,aD,aF];refine nO (i:=4) (dn:=13) (v:=?_) rfl rfl (by kernel_rfl) (fun z hz=>by obtain rfl:=Xc hz;kernel_rfl) (by kernel_rfl) (by kernel_rfl) (fun _ _ _ h=>h) (Or.inl ⟨by rfl,?_⟩) hS ?_;rotate_left
 ·(intro wx hSw;(try dsimp only at hSw);obtain⟨JH,JI⟩:=hSw;go_simp;try(with_reducible rfl))
 simp only[Act.put,ax,aD,aF];refine nO (i:=5) (dn:=14) (v:=?_) rfl rfl (by kernel_rfl) (fun z hz=>by obtain rfl:=Xc hz;kernel_rfl) (by kernel_rfl) (by kernel_rfl) (fun _ _ _ h=>h) (Or.inl ⟨by rfl,?_⟩) hS ?_;rotate_left
 ·(intro wx hSw;(try dsimp only at hSw);obtain⟨JH,JI⟩:=hSw;go_simp;try(with_reducible rfl))
 simp only[Act.put,ax,aD,aF];refine nO (i:=6) (dn:=15) (v:=?_) rfl rfl (by kernel_rfl) (fun z hz=>by obtain rfl:=Xc hz;kernel_rfl) (by kernel_rfl) (by kernel_rfl) (fun _ _ _ h=>h) (Or.inl ⟨by rfl,?_⟩) hS ?_;rotate_left
 ·(intro wx hSw;(try dsimp only at hSw);obtain⟨JH,JI⟩:=hSw;go_simp;try(with_reducible rfl))
 simp only[Act.put,ax,aD,aF];refine nO (i:=7) (dn:=16) (v:=?_) rfl rfl (by kernel_rfl) (fun z hz=>by obtain rfl:=Xc hz;kernel_rfl) (by kernel_rfl) (by kernel_rfl) (fun _ _ _ h=>h) (Or.inl ⟨by rfl,?_⟩) hS ?_;rotate_left
 ·(intro wx hSw;(try dsimp only at hSw);obtain⟨JH,JI⟩:=hSw;go_simp;try(with_reducible rfl))
 simp only[Act.put,ax,aD,aF];refine t_ (i:=8) (by kernel_rfl) rfl (fun K' hK'=>?_);go_simp;refine hK'.o _ _ (fun _=>hS) (fun _=>?_);clear hK' K';refine t_ (i:=9) (by kernel_rfl) rfl (fun K' hK'=>?_);go_simp;refine hK'.o _ _ (fun _=>hS) (fun _=>?_);clear hK' K';refine t_ (i:=10) (by kernel_rfl) rfl (fun K' hK'=>?_);go_simp;refine hK'.o _ _ (fun h=>absurd h (by decide)) (fun _=>Ee (by kernel_rfl) ?_);clear hK' K';have hwr:IntKind.i64.wrap ((i:Int)+(x.size:Int))=((i+x.size:Nat):Int):=by
  rw[IntKind.wrap_i64];omega
 rw[hwr];have hBa:¬ ab=B:=by omega
 have kS:Kp (fun q=>q=ab) w2 (w2.setCell ⟨ab,0,none⟩ (.int .i64 ((i+x.size:Nat):Int))):=Kp.setCell (S:=fun q=>q=ab) (p:=⟨ab,0,none⟩) (Kp.refl _ w2) (fun _=>rfl) _;have hb3:=Zg hb1 0 (.int .i64 ((i+x.size:Nat):Int));have Fe:=kS.heap hN1 (fun e=>hBa e.symm);have hag:∀ q,bv.ownBlock=some q→q≠ab:=fun q hq e=>by
  rcases ho1.2 with ⟨rfl,-⟩|⟨g,cap,cur,rfl,hge,-⟩
  ·cases hq
  ·obtain rfl:g=q:=by simpa [Value.ownBlock] using hq
   omega
 have ho3:=kS.owns ho1 (fun q hq e=>hag q hq e);have K3:=au (Kp.trans (K1.o) kS (fun q _ e=>.inl e));clear kS hb1 hN1 ho1 K1 hwr f0 hS hb ho;generalize w2.setCell ⟨ab,0,none⟩ (.int .i64 ((i+x.size:Nat):Int))=w3 at *;have aO5:w3.heap[ab]?=some (.cells #[.int .i64 ((i+x.size:Nat):Int),bv,.int .i64 en,.int .i64 gp] 114 (0,0)):=by simpa using hb3
 clear hb3;have m0:=ai w3 _ 0 _ _ _ Fe;have m1:=ai w3 _ 1 _ _ _ Fe;have m2:=ai w3 _ 2 _ _ _ Fe;have m3:=ai w3 _ 3 _ _ _ Fe;go_wp2_with fail
 refine(tC 0 tk x a4 a5 a6 _).mono ?_;rintro e w4 ⟨rfl,k4⟩;have q4:=Kp.aI k4 (fun _=>False);have hb4:=q4.heap aO5 id;have ho4:=q4.owns ho3 (fun _ _=>id);have K4:=au (Kp.trans (K3.o) q4 (fun _ _ e=>e.elim));have hs4:=(K4.o).size;clear m0 m1 m2 m3 q4 k4 aO5 ho3 K3 Fe;by_cases hq:(tk==1||tk==2)=true
 ·rw[show((0:Nat)==0&&(tk==1||tk==2))=true by rw[hq];rfl]
  clear hq;go_wp2_with fail
  go_end0;have hq4:Ri ab w4=n:=by
   rw[HBv.o] at hb4;exact uL hb4
  refine⟨rfl,⟨bv,bl,en,gp,hb4,by rw[HXs.o,HNn.o];exact ho4,by have:=HNn.o;omega,HBD.o⟩,K4.o,?_⟩;have h1:=hn0.o;omega
 ·rw[show((0:Nat)==0&&(tk==1||tk==2))=false by simpa using hq]
  clear hq;have c1:=ai w4 _ 1 _ _ _ hb4;obtain⟨ii,hii,hi0,hi1,hi2⟩:=aO4 aO3;have hab:ab+1≤w4.heap.size:=by omega
  have HO4:=au ho4;go_wp2_with (at_builtin;refine wpList_append_lies _ rfl _ _ 112 rfl (ab+1) 3 ii _ 1 8 underlying112 hii hi0 hi1 hi2 rfl (by decide) bv n _ rfl ((HO4.o).alloc _) ⟨w4.heap.size,0,none⟩ 1 1 [.int .i64 i] rfl rfl (World.news_of_block (cs:=#[.int .i64 i]) (aB w4 _)) (by simp[Value.oneCell']) (by omega) (by unfold maxLen;omega) (by omega) (by simp;omega) (w4.heap.size+1) (by simp) ?_;intro g5 cap5 w5 hown5 cB nW A9;have Mt:=au hown5;have tZ:=au cB;have Mi:=au nW;have kG:Kp (fun q=>bv.ownBlock=some q) w4 w5:=Kp.grown (Kp.alloc (Kp.refl _ w4) _) cB (fun q e _=>e);have hb5:=kG.heap hb4 (fun e=>hag ab e rfl);have r0:=ai w5 _ 0 _ _ _ hb5;have r1:=ai w5 _ 1 _ _ _ hb5;have r2:=ai w5 _ 2 _ _ _ hb5;have f1:=mW hb5 1;have f2:=mW hb5 2;have KG:=au kG;have TN:=au hb5;clear hown5 cB nW A9 kG hb5)
  have hown:∀ q,bv.ownBlock=some q→ab<q∧∃ c f,w4.heap[q]?=some (.cells c 3 f):=fun q hq=>by
   rcases(HO4.o).2 with ⟨rfl,-⟩|⟨g,cap,cur,rfl,hge,hg,-⟩
   ·cases hq
   ·obtain rfl:g=q:=by simpa [Value.ownBlock] using hq
    exact⟨by omega,cur,_,hg⟩
  have hga:g5≠ab:=fun e=>(Mi.o).elim (fun h=>hag g5 h e) (fun h=>by omega)
  have kF:Kp (fun q=>q=ab) w5 ((w5.setCell ⟨ab,1,none⟩ (.slice (some ⟨g5,0,none⟩) (n+1) cap5)).setCell ⟨ab,2,none⟩ (.int .i64 ((i+x.size:Nat):Int))):=Kp.setCell (S:=fun q=>q=ab) (p:=⟨ab,2,none⟩) (Kp.setCell (S:=fun q=>q=ab) (p:=⟨ab,1,none⟩) (Kp.refl _ w5) (fun _=>rfl) _) (fun _=>rfl) _;have HF:Hid (lV ((w5.setCell ⟨ab,1,none⟩ (.slice (some ⟨g5,0,none⟩) (n+1) cap5)).setCell ⟨ab,2,none⟩ (.int .i64 ((i+x.size:Nat):Int))) D ab (i+x.size)∧Kq D ab ab w ((w5.setCell ⟨ab,1,none⟩ (.slice (some ⟨g5,0,none⟩) (n+1) cap5)).setCell ⟨ab,2,none⟩ (.int .i64 ((i+x.size:Nat):Int)))):=by
   have hbF:((w5.setCell ⟨ab,1,none⟩ (.slice (some ⟨g5,0,none⟩) (n+1) cap5)).setCell ⟨ab,2,none⟩ (.int .i64 ((i+x.size:Nat):Int))).heap[ab]?=some (.cells #[.int .i64 ((i+x.size:Nat):Int),.slice (some ⟨g5,0,none⟩) (n+1) cap5,.int .i64 ((i+x.size:Nat):Int),.int .i64 gp] 114 (0,0)):=by
    have:=Zg (Zg TN.o 1 (.slice (some ⟨g5,0,none⟩) (n+1) cap5)) 2 (.int .i64 ((i+x.size:Nat):Int))
    simpa using this
   show lV _ _ _ _∧Kq _ _ _ _ _;have hnn:=HNn.o;have hxs:=HXs.o;refine⟨⟨Value.slice (some ⟨g5,0,none⟩) (n+1) cap5,bl++[(i:Int)],((i+x.size:Nat):Int),gp,hbF,?_,by rw[ak,hnn];show n+1≤_;omega,fun q hq hd=>?_⟩,?_,?_⟩
   ·rw[ak,pQ,hnn,hxs]
    exact kF.owns Mt.o (fun q hq e=>hga (by have h1:some g5=some q:=hq;injection h1 with h1;have:q=ab:=e;omega))
   ·have h1:some g5=some q:=hq
    injection h1 with h1;subst h1;rcases Mi.o with h2|h2
    ·exact(HBD.o) _ h2 hd
    ·have:=(mI.o) _ hd
     omega
   ·refine Kp.trans K4.o (Kp.trans (S:=Sw w4 D ab ab) (Kp.mono KG.o (fun q _ e=>.inr (.inr ⟨(hown q e).1,(HBD.o) q e,(hown q e).2⟩))) kF (fun q _ e=>.inl e)) (fun q hq e=>?_)
    rcases e with e|e|⟨e,e1,c,f,hc⟩
    ·exact .inl e
    ·exact .inr (.inl e)
    ·by_cases hs:Sw w D ab ab q
     ·exact hs
     ·exact .inr (.inr ⟨e,e1,c,f,by rw[← (K4.o).block q hq hs];exact hc⟩)
   ·rw[uL hbF]
    have h1:=hn0.o;omega
  clear hb4 ho4 HO4 Mt tZ Mi KG TN kF K4 hown;rw[mr] at HF;go_end0;exact⟨rfl,HF.o⟩
end
section
open Tryz
variable{b rb ab i:Nat}{W w:World}{D:Nat→Prop}{p:X.Part}{ps:List X.Part}{nv:Value}
theorem vV{fn:Func}{t:Tmp}(h:fn.results=#[.cell t 117])(tmps:Array Value)(W:World){a1 a2:Int}{a3:ByteArray}{a4:Option Addr}{a5 a6:Nat}(ht:tmps[t]?.getD undef=.pointer (some ⟨b,0,none⟩))(hb:W.heap[b]?=some (.cells #[.int .i64 a1,.int .i64 a2,.string a3,.slice a4 a5 a6] 117 (0,0))) :
  (results fn tmps).run prog W=.ok (.agg #[.int .i64 a1,.int .i64 a2,.string a3,.slice a4 a5 a6]) W:=by
 have m0:=ai W _ 0 _ _ _ hb;have m1:=ai W _ 1 _ _ _ hb;have m2:=ai W _ 2 _ _ _ hb;have m3:=ai W _ 3 _ _ _ hb;simp[results,h,go_sem,ht,m0,m1,m2,m3]
theorem iI{x0 x1 x2 x3 y0 y1 y2 y3:Value}{t:TypeId}(h:W.heap[b]?=some (.cells #[y0,y1,y2,y3] t (0,0))):((((W.setCell ⟨b,0,none⟩ x0).setCell ⟨b,1,none⟩ x1).setCell ⟨b,2,none⟩ x2).setCell ⟨b,3,none⟩ x3).heap[b]?=some (.cells #[x0,x1,x2,x3] t (0,0)):=by
 simp[World.setCell,aK,h]
theorem zf{k q:Nat}{v:Value}(hq:q≠b):(W.setCell ⟨b,k,none⟩ v).heap[q]?=W.heap[q]?:=by
 simp[World.setCell,aK,hq.symm]
theorem cO.cut(h:cO w D rb ab (p::ps) i)(hn:qz w D nv ps):cO (w.setCell ⟨rb,1,none⟩ nv) D rb ab ps i∧Kq D rb ab w (w.setCell ⟨rb,1,none⟩ nv):=by
 obtain⟨v,hb,-⟩:=h.blk;have hk:Kp (fun q=>q=rb) w (w.setCell ⟨rb,1,none⟩ nv):=On.set (Kp.refl _ w) 1 _;have hp:lV (w.setCell ⟨rb,1,none⟩ nv) D ab i:=h.Ar.keep hk (fun e=>h.sep.1 e.symm) (fun q c f _ e e'=>by subst e';exact nH hb (by decide) ⟨c,f,e⟩);refine⟨⟨⟨nv,?_,hn.keep hk (fun q hq e=>h.sep.2.1 (e ▸ hq))⟩,hp,h.sep,h.Ik.tail⟩,hk.mono (fun q _ e=>.inl e),Nat.le_of_eq (Eo hk h.lt.2 (fun e=>h.sep.1 e.symm)).symm⟩;simp[World.setCell,aK,hb]
theorem cO.gap(h:cO w D rb ab ps i)(z:Int):cO (w.setCell ⟨ab,3,none⟩ (.int .i64 z)) D rb ab ps i∧Kq D rb ab w (w.setCell ⟨ab,3,none⟩ (.int .i64 z)):=by
 obtain⟨v,hb,hn⟩:=h.blk;obtain⟨bv,bl,en,gp,hp,ho,hl,hd⟩:=h.Ar.ex;obtain⟨o,c,rfl,-⟩:=rE ho;have hk:Kp (fun q=>q=ab) w (w.setCell ⟨ab,3,none⟩ (.int .i64 z)):=On.set (Kp.refl _ w) 3 _;have hp2:(w.setCell ⟨ab,3,none⟩ (.int .i64 z)).heap[ab]?=some (.cells #[.int .i64 i,.slice o bl.length c,.int .i64 en,.int .i64 z] 114 (0,0)):=by simp[World.setCell,aK,hp]
 refine⟨⟨⟨v,hk.heap hb h.sep.1,hn.keep hk (fun q hq e=>h.sep.2.2 (e ▸ hq))⟩,⟨_,bl,en,z,hp2,hk.owns ho (fun q hq e=>?_),hl,hd⟩,h.sep,h.Ik⟩,hk.mono (fun q _ e=>.inr (.inl e)),?_⟩
 ·have:=(jb ho hq).1
  have:q=ab:=e;omega
 ·rw[uL hp,uL hp2]
  exact aj _
theorem cO.counted{w':World}{j:Nat}(h:cO w D rb ab ps i)(hp:lV w' D ab j)(hk:Kq D ab ab w w'):cO w' D rb ab ps j:=by
 obtain⟨v,hb,hn⟩:=h.blk;exact⟨⟨v,hk.heap hb (by decide) h.sep.1 h.sep.1,hk.nds hn h.sep.2.2 h.sep.2.2⟩,hp,h.sep,h.Ik⟩
theorem VD(h:X.Gd (p::ps)):(∃ k x,p=.leaf k x∧0<x.length)∨(X.nk p≠0∧X.Ij p=0):=by
 cases p with
 | leaf k x=>exact .inl ⟨k,x,rfl,h.leaf⟩
 | miss m=>exact .inr ⟨by show(1:Nat)≠0;omega,rfl⟩
 | br k qs=>exact .inr ⟨h.br.1,rfl⟩
theorem VE(h:cO w D rb ab (p::ps) i)(hn:qz w D nv ps)(zc kc:Array Value) :
  ∃ W3,W3=((w.setCell ⟨rb,1,none⟩ nv).alloc (.cells zc 117)).alloc (.cells kc 117)∧W3.heap[w.heap.size]?=some (.cells zc 117 (0,0))∧W3.heap[w.heap.size+1]?=some (.cells kc 117 (0,0))∧cO W3 D rb ab ps i∧Kq D rb ab w W3:=by
 obtain⟨h1,h2⟩:=h.cut hn;have hs:(w.setCell ⟨rb,1,none⟩ nv).heap.size=w.heap.size:=by simp[World.setCell]
 have hal:=h.lt.2;generalize w.setCell ⟨rb,1,none⟩ nv=W at *;have kA:Below W.heap.size W ((W.alloc (.cells zc 117)).alloc (.cells kc 117)):=((ay _ W).alloc (aj _) _).alloc (by simp) _;have n1:=aB W (.cells zc 117);have n2:=aB (W.alloc (.cells zc 117)) (.cells kc 117);have n3:=(dN (W.alloc (.cells zc 117)) (.cells kc 117) (show W.heap.size<_ by simp)).trans n1;rw[gX,hs] at n2;rw[hs] at n3;exact⟨_,rfl,n3,n2,h1.below kA,h2.more kA hal⟩
theorem jX(D:Nat→Prop)(rb ab:Nat)(p:X.Part)(ps:List X.Part)(i:Nat)(w:World)(h:cO w D rb ab (p::ps) i)(hi:i+X.Ij p≤1073741824)(hDl:∀ q,D q→q<w.heap.size) :
  Calls prog 51 #[.pointer (some ⟨rb,0,none⟩)] w fun e w'=>∃ a4 a5 a6,e=.returned (.agg #[.int .i64 (X.nk p),.int .i64 (X.CR p),.string (ba (X.AQ p)),.slice a4 a5 a6])∧Hid (qz w' D (.slice a4 a5 a6) (X.kids p)∧cO w' D rb ab ps (i+X.Ij p)∧Kq D rb ab w w'):=by
 obtain⟨v,hb,hn⟩:=h.blk;obtain⟨g,o,cap,kv,rfl,hD,y0,y1,y2,y3,hk,-,hc1,hc2,hn1,hn2⟩:=hn.head;obtain⟨a4,a6,_,_,_,_,rfl,-⟩:=hk.ex;have HK:=au hk;have U9:=au hn1;have Jf:=au hn2;have HR:=au h;have hsep:=h.sep;obtain⟨hrl,hal⟩:=h.lt;have c1:=ai w _ 1 _ _ _ hb;have f1:w.frozen? ⟨rb,1,none⟩=false:=by simp[World.frozen?,hb]
 have hgl:g<w.heap.size:=bG _ _ y0;have hkind:=au (VD h.Ik);clear h hb hn hk hn1 hn2;have key:∃ o' n' c',Hid (qz w D (.slice (some ⟨g,o',none⟩) n' c') ps)∧((cap=1∧o'=o∧n'=0∧c'=0∧ps.length=0)∨(cap≠1∧o'=o+4∧n'=ps.length∧c'=cap - 1)):=by
  by_cases e:cap=1
  ·obtain⟨q1,q2⟩:=(Jf.o) e
   exact⟨o,0,0,q1,.inl ⟨e,rfl,rfl,rfl,by rw[q2];rfl⟩⟩
  ·exact⟨o+4,ps.length,cap - 1,(U9.o) e,.inr ⟨e,rfl,rfl,rfl⟩⟩
 obtain⟨o',n',c',HN,hcs⟩:=key;clear U9 Jf;have HFin:Hid (∀(W4:World) (j:Nat),W4.heap[w.heap.size]?=some (.cells #[.int .i64 0,.int .i64 0,.string ⟨#[]⟩,.slice none 0 0] 117 (0,0))→cO W4 D rb ab ps j→Kq D rb ab w W4→∀ x0 x1 x2 x3:Value,qz ((((W4.setCell ⟨w.heap.size,0,none⟩ x0).setCell ⟨w.heap.size,1,none⟩ x1).setCell ⟨w.heap.size,2,none⟩ x2).setCell ⟨w.heap.size,3,none⟩ x3) D (.slice a4 (X.kids p).length a6) (X.kids p)∧cO ((((W4.setCell ⟨w.heap.size,0,none⟩ x0).setCell ⟨w.heap.size,1,none⟩ x1).setCell ⟨w.heap.size,2,none⟩ x2).setCell ⟨w.heap.size,3,none⟩ x3) D rb ab ps j∧Kq D rb ab w ((((W4.setCell ⟨w.heap.size,0,none⟩ x0).setCell ⟨w.heap.size,1,none⟩ x1).setCell ⟨w.heap.size,2,none⟩ x2).setCell ⟨w.heap.size,3,none⟩ x3)):=fun W4 j hz hr hk x0 x1 x2 x3=>by
  have hk4:Kp (fun q=>q=w.heap.size) W4 ((((W4.setCell ⟨w.heap.size,0,none⟩ x0).setCell ⟨w.heap.size,1,none⟩ x1).setCell ⟨w.heap.size,2,none⟩ x2).setCell ⟨w.heap.size,3,none⟩ x3):=On.set (On.set (On.set (On.set (Kp.refl _ W4) 0 _) 1 _) 2 _) 3 _;exact⟨(hk.nds HK.o hsep.2.1 hsep.2.2).keep hk4 (fun q hq e=>by have:=hDl q hq;omega),hr.on hk4 hz (by decide) (by omega) (by omega) (fun hd=>by have:=hDl _ hd;omega),Kq.Ni hk hal (aj _) _ _ _ _⟩
 rcases hcs with ⟨rfl,rfl,rfl,rfl,cF0⟩|⟨hne,rfl,rfl,rfl⟩
 all_goals
  go_enter func51,ntmps51
  go_upto_region 3 with fail
  obtain⟨W3,hW3,hZ,hK,hR,Zf⟩:=VE HR.o HN.o #[.int .i64 0,.int .i64 0,.string ⟨#[]⟩,.slice none 0 0] #[.int .i64 (X.nk p),.int .i64 (X.CR p),.string (ba (X.AQ p)),.slice a4 (X.kids p).length a6];rw[← hW3];clear hW3 HR HN y0 y1 y2 y3 c1 f1 HK;rcases hkind.o with ⟨k,x,rfl,hx⟩|⟨hz,hln⟩
  ·have k0:W3.cell? ⟨w.heap.size+1,0,none⟩=some (.int .i64 0):=ai W3 _ 0 _ _ _ hK
   have k1:W3.cell? ⟨w.heap.size+1,1,none⟩=some (.int .i64 k):=ai W3 _ 1 _ _ _ hK;have k2:W3.cell? ⟨w.heap.size+1,2,none⟩=some (.string (ba x)):=ai W3 _ 2 _ _ _ hK;have k3:W3.cell? ⟨w.heap.size+1,3,none⟩=some (.slice a4 0 a6):=ai W3 _ 3 _ _ _ hK;obtain⟨rv,hbr,-⟩:=hR.blk;have r0:=ai W3 _ 0 _ _ _ hbr;have HZ:=au hZ;have qi:=au hK;have HR3:=au hR;have WW:=au Zf;clear hZ hK hR Zf hbr hkind;go_wp2_with fail
   refine bH (S:=fun w'=>w'.cell? ⟨rb,0,none⟩=some (.pointer (some ⟨ab,0,none⟩))∧w'.cell? ⟨w.heap.size+1,0,none⟩=some (.int .i64 0)∧w'.cell? ⟨w.heap.size+1,1,none⟩=some (.int .i64 k)∧w'.cell? ⟨w.heap.size+1,2,none⟩=some (.string (ba x))∧w'.cell? ⟨w.heap.size+1,3,none⟩=some (.slice a4 0 a6)) (z:=6) (by kernel_rfl) ?_;have hS:=(⟨r0,k0,k1,k2,k3⟩:W3.drew.cell? ⟨rb,0,none⟩=some (.pointer (some ⟨ab,0,none⟩))∧W3.drew.cell? ⟨w.heap.size+1,0,none⟩=some (.int .i64 0)∧W3.drew.cell? ⟨w.heap.size+1,1,none⟩=some (.int .i64 k)∧W3.drew.cell? ⟨w.heap.size+1,2,none⟩=some (.string (ba x))∧W3.drew.cell? ⟨w.heap.size+1,3,none⟩=some (.slice a4 0 a6));iterate 5(refine rC (v:=?_) rfl rfl (by kernel_rfl) (by decide) (by kernel_rfl) (by kernel_rfl) (fun _ _ _ h=>h) (Or.inl ⟨by rfl,?_⟩) hS ?_;rotate_left;(· (intro wx hSw;(try dsimp only at hSw);obtain⟨hw0,hw1,hw2,hw3,hw4⟩:=hSw;go_simp;try(with_reducible rfl)));simp only[Act.put,List.setIfInBounds_toArray,List.set_cons_zero,List.set_cons_succ])
   refine bD 5 fun K hK=>?_;go_simp;have hsz:(ba x).size=x.length:=iW x;have kD:Below W3.heap.size W3 W3.drew:=(Below.refl _ W3).drew;refine(JG ab i k (ba x) a4 0 a6 W3.drew D ((HR3.o).below kD).Ar (by rw[hsz];exact hi) (by omega) (fun q hq=>Nat.lt_of_lt_of_le (hDl q hq) (WW.o).size)).mono ?_;rintro e W4 ⟨rfl,X4⟩;have hs3:=(WW.o).size;have Tv:=(((HR3.o).below kD).counted (X4.o).1 (X4.o).2);have hQ4:=((WW.o).more kD hal).trans (X4.o).2.wide;have Rk:=(X4.o).2.heap (b:=w.heap.size) HZ.o (by decide) (by omega) (by omega);have hK4:=(X4.o).2.heap (b:=w.heap.size+1) qi.o (by decide) (by omega) (by omega);rw[hsz] at Tv;have HG:=au ((HFin.o) W4 _ Rk Tv hQ4 (.int .i64 0) (.int .i64 k) (.string (ba x)) (.slice a4 0 a6));clear r0 k0 k1 k2 k3;have k0:W4.cell? ⟨w.heap.size+1,0,none⟩=some (.int .i64 0):=cell_of_row W4 _ 0 _ _ _ hK4;have k1:W4.cell? ⟨w.heap.size+1,1,none⟩=some (.int .i64 k):=cell_of_row W4 _ 1 _ _ _ hK4;have k2:W4.cell? ⟨w.heap.size+1,2,none⟩=some (.string (ba x)):=cell_of_row W4 _ 2 _ _ _ hK4;have k3:W4.cell? ⟨w.heap.size+1,3,none⟩=some (.slice a4 0 a6):=cell_of_row W4 _ 3 _ _ _ hK4;have e0:=cell_of_row W4 _ 0 _ _ _ Rk;have e1:=cell_of_row W4 _ 1 _ _ _ Rk;have e2:=cell_of_row W4 _ 2 _ _ _ Rk;have e3:=cell_of_row W4 _ 3 _ _ _ Rk;have q0:=mW Rk 0;have q1:=mW Rk 1;have q2:=mW Rk 2;have q3:=mW Rk 3;have HZ4:=au Rk;obtain⟨rv4,aO2,-⟩:=Tv.blk;have r4:=cell_of_row W4 _ 0 _ _ _ aO2;dsimp only;refine hK.o _ _ (fun _=>⟨r4,k0,k1,k2,k3⟩) (fun _=>fB ?_);clear hK K hS aO2 r4;clear Rk hK4 Tv hQ4 X4 HZ qi HR3 WW HFin;go_wp2_with fail
   exact bI (vV rfl _ _ (b:=w.heap.size) (a5:=0) rfl (iI HZ4.o)) rfl ⟨a4,0,a6,rfl,HG.o⟩
  ·have k0:W3.cell? ⟨w.heap.size+1,0,none⟩=some (.int .i64 (X.nk p)):=ai W3 _ 0 _ _ _ hK
   have k1:W3.cell? ⟨w.heap.size+1,1,none⟩=some (.int .i64 (X.CR p)):=ai W3 _ 1 _ _ _ hK;have k2:W3.cell? ⟨w.heap.size+1,2,none⟩=some (.string (ba (X.AQ p))):=ai W3 _ 2 _ _ _ hK;have k3:W3.cell? ⟨w.heap.size+1,3,none⟩=some (.slice a4 (X.kids p).length a6):=ai W3 _ 3 _ _ _ hK;have e0:=ai W3 _ 0 _ _ _ hZ;have e1:=ai W3 _ 1 _ _ _ hZ;have e2:=ai W3 _ 2 _ _ _ hZ;have e3:=ai W3 _ 3 _ _ _ hZ;have q0:=mW hZ 0;have q1:=mW hZ 1;have q2:=mW hZ 2;have q3:=mW hZ 3;have iz:((X.nk p:Int)==0)=false:=by simp;omega
   have hs3:=Zf.size;have HG0:=au ((HFin.o) W3 i hZ hR Zf (.int .i64 (X.nk p)) (.int .i64 (X.CR p)) (.string (ba (X.AQ p))) (.slice a4 (X.kids p).length a6));have HZ:=au hZ;by_cases h1:X.nk p=1∨X.nk p=19
   ·obtain⟨rv,hbr,-⟩:=hR.blk
    have r0:=ai W3 _ 0 _ _ _ hbr;obtain⟨bv,bl,en,gp,hps,-⟩:=hR.Ar.ex;have d3:=ai W3 _ 3 _ _ _ hps;have fd:=mW hps 3;have HGp:Hid (∀ zz:Int,((W3.setCell ⟨ab,3,none⟩ (.int .i64 zz)).heap[w.heap.size]?=some (.cells #[.int .i64 0,.int .i64 0,.string ⟨#[]⟩,.slice none 0 0] 117 (0,0)))∧_):=fun zz=>by
     obtain⟨z1,z2⟩:=hR.gap zz;have hz4:=(zf (W:=W3) (b:=ab) (k:=3) (v:=.int .i64 zz) (q:=w.heap.size) (by omega)).trans hZ;exact⟨hz4,(HFin.o) _ i hz4 z1 (Zf.trans z2) (.int .i64 (X.nk p)) (.int .i64 (X.CR p)) (.string (ba (X.AQ p))) (.slice a4 (X.kids p).length a6)⟩
    have cF2:¬ ab=w.heap.size:=by omega
    have cF3:¬ ab=w.heap.size+1:=by omega
    clear hZ hK hR Zf hbr hps HFin HG0;rcases h1 with h1|h1
    all_goals
     have i1:((X.nk p:Int)==1)=decide (X.nk p=1):=by rw[h1];rfl
     rw[h1] at k0 iz ⊢;go_wp2_with fail
     have hg:=(HGp.o) (wrap64 (gp+1));rw[h1] at hg;refine bI (vV rfl _ _ (b:=w.heap.size) (a5:=(X.kids p).length) rfl (iI hg.1)) rfl ⟨a4,(X.kids p).length,a6,by rw[h1];rfl,?_⟩;rw[hln];exact hg.2
   ·have i1:((X.nk p:Int)==1)=false:=by simp;omega
    have i2:((X.nk p:Int)==19)=false:=by simp;omega
    clear hZ hK hR Zf HFin;go_wp2_with fail
    exact bI (vV rfl _ _ (b:=w.heap.size) (a5:=(X.kids p).length) rfl (iI HZ.o)) rfl ⟨a4,(X.kids p).length,a6,rfl,by rw[hln];exact HG0.o⟩
def uo(rb:Nat)(w:World):Nat:=match w.cell? ⟨rb,1,none⟩ with|some (.slice _ n _)=>n|_=>0
theorem cO.len{w:World}{D:Nat→Prop}{rb ab:Nat}{ps:List X.Part}{i:Nat}(h:cO w D rb ab ps i):uo rb w=ps.length:=by
 obtain⟨v,e,hn⟩:=h.blk;obtain⟨ao,cap,_,_,_,_,rfl,-⟩:=hn.ex;unfold uo;rw[ai w _ 1 _ _ _ e];rfl
theorem Rl{p:X.Part}(h:X.lq p=true):X.Ij p=X.pz [p]:=by
 obtain⟨k,x,rfl,-⟩:=X.y_ h;show x.length=_;unfold X.pz;rw[X.nN,X.pb,X.nN,aJ]
theorem j_(D:Nat→Prop)(rb ab:Nat)(ps:List X.Part)(i:Nat)(w:World)(h:cO w D rb ab ps i)(hi:i+X.pz ps≤1073741824)(hpl:ps.length≤1073741824)(hDl:∀ q,D q→q<w.heap.size) :
  Calls prog 27 #[.pointer (some ⟨rb,0,none⟩)] w fun e w'=>e=.returned (.bool (decide (ps.dropWhile X.lq≠[])))∧Hid (cO w' D rb ab (ps.dropWhile X.lq) (i+X.pz (ps.takeWhile X.lq))∧Kq D rb ab w w'):=by
 have ha:=h.lt.2;have H0:=au h;clear h;go_enter func27,ntmps27;go_wp2_with fail
 go_loopw [] (fun wr=>∃(l:List X.Part) (k:Nat),Hid (cO wr D rb ab l k∧Kq D rb ab w wr)∧k+X.pz l≤1073741824∧l.length≤1073741824∧Hid (ps.dropWhile X.lq=l.dropWhile X.lq∧i+X.pz (ps.takeWhile X.lq)=k+X.pz (l.takeWhile X.lq))) (fun wr=>uo rb wr)
 case atStart=>exact⟨ps,i,⟨H0.o,Kq.refl _ _ _ _⟩,hi,hpl,⟨rfl,rfl⟩⟩
 case round =>
  obtain⟨l,k,HI,hk,hll,HE⟩:=hrel;have hlen:=(HI.o).1.len;obtain⟨v,hb,hn⟩:=(HI.o).1.blk;have c0:=ai wr _ 0 _ _ _ hb;have c1:=ai wr _ 1 _ _ _ hb;have mI:Hid (∀ q,D q→q<wr.heap.size):=fun q hq=>aH (hDl q hq) (HI.o).2.size
  cases l with
  | nil =>
   obtain⟨ao,cap,_,_,_,_,rfl,-⟩:=hn.ex;have HF:Hid (decide (ps.dropWhile X.lq≠[])=false∧cO wr D rb ab (ps.dropWhile X.lq) (i+X.pz (ps.takeWhile X.lq))∧Kq D rb ab w wr):=by
    obtain⟨e1,e2⟩:=HE.o;have ZR:ps.dropWhile X.lq=[]:=e1;have e2':i+X.pz (ps.takeWhile X.lq)=k:=e2;rw[ZR,e2'];exact⟨by simp,HI.o⟩
   clear hb hn HE;go_wp2_with fail
   go_ret;exact⟨by rw[(HF.o).1];rfl,(HF.o).2⟩
  | cons p l =>
   obtain⟨g,o,cap,kv,rfl,hD,y0,y1,y2,y3,hkk,-,hc1,hc2,-,-⟩:=hn.head;obtain⟨a4,a6,_,_,_,_,rfl,-⟩:=hkk.ex;have i1:decide (0<l.length+1)=true:=by simp
   have i2:decide (((l.length+1:Nat):Int)>0)=true:=qQ (by omega);have i3:decide ((0:Int)<(l.length:Int)+1)=true:=qQ (by omega);have hi1:(0:Int)<((l.length+1:Nat):Int):=by omega
   have hi2:0<l.length+1:=by omega
   rw[X.fH] at hk;rw[aW] at hll;cases hq:X.lq p with
   | true =>
    have hl:=Xd p;rw[hq] at hl;have HE2:Hid (ps.dropWhile X.lq=l.dropWhile X.lq∧i+X.pz (ps.takeWhile X.lq)=k+X.pz [p]+X.pz (l.takeWhile X.lq)):=by
     obtain⟨e1,e2⟩:=HE.o;rw[jG hq] at e1;rw[jF hq,X.fH] at e2;exact⟨e1,by omega⟩
    have hnl:=Rl hq;have Og:Hid (∀ W,Below wr.heap.size wr W→Calls prog 51 #[.pointer (some ⟨rb,0,none⟩)] W fun e w'=>∃ a4 a5 a6,e=.returned (.agg #[.int .i64 (X.nk p),.int .i64 (X.CR p),.string (ba (X.AQ p)),.slice a4 a5 a6])∧Hid (qz w' D (.slice a4 a5 a6) (X.kids p)∧cO w' D rb ab l (k+X.Ij p)∧Kq D rb ab W w')):=fun W hW=>jX D rb ab p l k W ((HI.o).1.below hW) (by rw[hnl];omega) (fun q hq'=>aH ((mI.o) q hq') hW.size)
    clear hb hn hkk HE;go_wp2_with fail
    refine(tC _ _ _ _ _ _ wr).mono ?_;rintro e w2 ⟨rfl,k2⟩;rw[hl];have mZ:=au k2;clear k2 hl;go_wp2_with fail
    refine((Og.o) w2 mZ.o).mono ?_;rintro e w3 ⟨b4,b5,b6,rfl,H3⟩;have HR3:Hid (cO w3 D rb ab l (k+X.pz [p])∧Kq D rb ab w w3):=by
     obtain⟨-,z2,z3⟩:=H3.o;rw[hnl] at z2;exact⟨z2,((HI.o).2.more mZ.o ha).trans z3⟩
    clear H3;have hl3:=(HR3.o).1.len;go_wp2_with fail
    exact⟨⟨l,k+X.pz [p],HR3,by omega,by omega,HE2⟩,by rw[hlen,hl3];simp⟩
   | false =>
    have hl:=Xd p;rw[hq] at hl;have HF:Hid (decide (ps.dropWhile X.lq≠[])=true∧∀ W,Below wr.heap.size wr W→cO W D rb ab (ps.dropWhile X.lq) (i+X.pz (ps.takeWhile X.lq))∧Kq D rb ab w W):=by
     obtain⟨e1,e2⟩:=HE.o;rw[eT (by rw[hq];simp)] at e1;rw[dU (by rw[hq];simp)] at e2;have e2':i+X.pz (ps.takeWhile X.lq)=k:=e2;rw[e1,e2'];exact⟨by simp,fun W hW=>⟨(HI.o).1.below hW,(HI.o).2.more hW ha⟩⟩
    clear hb hn hkk HE;go_wp2_with fail
    refine(tC _ _ _ _ _ _ wr).mono ?_;rintro e w2 ⟨rfl,k2⟩;rw[hl];have d1:=(Kp.aI k2 (fun _=>False)).dY c1 id;have mZ:=au k2;clear k2 hl;go_wp2_with fail
    go_ret;exact⟨by rw[(HF.o).1];rfl,(HF.o).2 _ mZ.o⟩
end
section
open Tryz
variable{fn:Func}{t:Tmp}{b:Nat}
namespace X
structure Nj(t qs:List Part)(p:Part):Prop where
 eq:t=qs++[p]
 qu:∀ q∈qs,lq q=true
 ne:lq p=false
 ln:Ij p=pz [p]
theorem y9.AR{t:List Part}{k:Nat}{x:ah}{qs:List Part}(h:y9 t k x qs):Nj t qs (.leaf k x):=⟨h.eq,h.qu,by have:=h.ne;show(k==1||k==2)=false;simp;omega,(iK k x).symm⟩
theorem wR.AR{t:List Part}(h:wR t):∃ qs p,Nj t qs p:=by
 rcases h with ⟨k,x,qs,h⟩|⟨m,rfl⟩
 ·exact⟨qs,_,h.AR⟩
 ·exact⟨[],.miss m,rfl,fun q hq=>(by cases hq),rfl,rfl⟩
theorem uM:∀ {qs:List Part} {p:Part} {ps:List Part},(∀ q∈qs,lq q=true)→lq p=false→(qs++p::ps).dropWhile lq=p::ps∧(qs++p::ps).takeWhile lq=qs
 | [],p,ps,_,hp=>⟨by rw[bT,eT (by rw[hp];simp)],by rw[bT,dU (by rw[hp];simp)]⟩
 | q::qs,p,ps,h,hp=>by
  have hq:=h q (by simp);obtain⟨h1,h2⟩:=uM (ps:=ps) (fun q' hq'=>h q' (fJ _ hq')) hp;rw[dx,jG hq,jF hq,h1,h2];exact⟨rfl,rfl⟩
theorem Nj.drop{t qs:List Part}{p:Part}(h:Nj t qs p)(ps:List Part):(t++ps).dropWhile lq=p::ps∧(t++ps).takeWhile lq=qs:=by
 rw[h.eq,aA];exact uM h.qu h.ne
end X
theorem gy(D:Nat→Prop)(rb ab:Nat)(t qs:List X.Part)(p:X.Part)(ps:List X.Part)(i:Nat)(w:World)(h:cO w D rb ab (t++ps) i)(ht:X.Nj t qs p)(hi:i+X.pz (t++ps)≤1073741824)(hpl:(t++ps).length≤1073741824)(hDl:∀ q,D q→q<w.heap.size) :
  Calls prog 54 #[.pointer (some ⟨rb,0,none⟩)] w fun e w'=>∃ a4 a5 a6,e=.returned (.agg #[.int .i64 (X.nk p),.int .i64 (X.CR p),.string (ba (X.AQ p)),.slice a4 a5 a6])∧Hid (cO w' D rb ab ps (i+X.pz t)∧Kq D rb ab w w'):=by
 obtain⟨hr,ha⟩:=h.lt;have kA:Below w.heap.size w (w.alloc (.cells #[.int .i64 0,.int .i64 0,.string ⟨#[]⟩,.slice none 0 0] 117)):=(ay _ w).alloc (aj _) _;have HZ:Hid ((w.alloc (.cells #[.int .i64 0,.int .i64 0,.string ⟨#[]⟩,.slice none 0 0] 117)).heap[w.heap.size]?=some (.cells #[.int .i64 0,.int .i64 0,.string ⟨#[]⟩,.slice none 0 0] 117 (0,0))):=aB w _;have HM:=au (j_ D rb ab (t++ps) i _ (h.below kA) hi hpl (fun q hq=>aH (hDl q hq) kA.size));have hd:=ht.drop ps;rw[hd.1,hd.2] at HM;have oM:=au kA;have hpz:X.pz t=X.pz qs+X.pz [p]:=by rw[ht.eq,X.aY]
 have hln:=ht.ln;rw[X.aY] at hi;clear h kA hd;go_enter func54,ntmps54;go_wp2_with fail
 refine(HM.o).mono ?_;rintro e w2 ⟨rfl,H2⟩;have Rm:∀ q,D q→q<w2.heap.size:=fun q hq=>aH (hDl q hq) (bS (oM.o).size (H2.o).2.size)
 have HZ2:Hid (w2.heap[w.heap.size]?=_):=(H2.o).2.new hr ha HZ.o (by decide);have mZ:Hid (Kq D rb ab w w2):=(Kq.aI oM.o ha).trans (H2.o).2;have HL:=au (jX D rb ab p ps (i+X.pz qs) w2 (H2.o).1 (by omega) Rm);clear HM oM H2 HZ;go_wp2_with fail
 refine(HL.o).mono ?_;rintro e w3 ⟨a4,a5,a6,rfl,H3⟩;have hZ3:=(H3.o).2.2.new hr ha HZ2.o (by decide);have HZ3:=au hZ3;have qi:Hid (Kq D rb ab w w3):=(mZ.o).trans (H3.o).2.2;have HR3:=au (H3.o).2.1;have e0:=ai w3 _ 0 _ _ _ hZ3;have e1:=ai w3 _ 1 _ _ _ hZ3;have e2:=ai w3 _ 2 _ _ _ hZ3;have e3:=ai w3 _ 3 _ _ _ hZ3;have q0:w3.frozen? ⟨w.heap.size,0,none⟩=false:=by simp[World.frozen?,hZ3]
 have q1:w3.frozen? ⟨w.heap.size,1,none⟩=false:=by simp[World.frozen?,hZ3]
 have q2:w3.frozen? ⟨w.heap.size,2,none⟩=false:=by simp[World.frozen?,hZ3]
 have q3:w3.frozen? ⟨w.heap.size,3,none⟩=false:=by simp[World.frozen?,hZ3]
 clear HL mZ HZ2 H3 hZ3;go_wp2_with fail
 refine bI (vV rfl _ _ (b:=w.heap.size) rfl (iI HZ3.o)) rfl ⟨a4,a5,a6,rfl,?_⟩;have hkf:=Kq.Ni qi.o ha (aj _) (.int .i64 (X.nk p)) (.int .i64 (X.CR p)) (.string (ba (X.AQ p))) (.slice a4 a5 a6);have hk4:Kp (fun q=>q=w.heap.size) w3 ((((w3.setCell ⟨w.heap.size,0,none⟩ (.int .i64 (X.nk p))).setCell ⟨w.heap.size,1,none⟩ (.int .i64 (X.CR p))).setCell ⟨w.heap.size,2,none⟩ (.string (ba (X.AQ p)))).setCell ⟨w.heap.size,3,none⟩ (.slice a4 a5 a6)):=On.set (On.set (On.set (On.set (Kp.refl _ w3) 0 _) 1 _) 2 _) 3 _;refine⟨?_,hkf⟩;have hR:=(HR3.o).on hk4 HZ3.o (by decide) (by omega) (by omega) (fun hd=>by have:=hDl _ hd;omega);rw[hln] at hR;rw[hpz,← fw];exact hR
theorem VF(h:fn.results=#[.cell t 120])(tmps:Array Value)(W:World){a1:Option Addr}{a4:Option Addr}{a5 a6:Nat}(ht:tmps[t]?.getD undef=.pointer (some ⟨b,0,none⟩))(hb:W.heap[b]?=some (.cells #[.pointer a1,.slice a4 a5 a6] 120 (0,0))) :
  (results fn tmps).run prog W=.ok (.agg #[.pointer a1,.slice a4 a5 a6]) W:=by
 have m0:=ai W _ 0 _ _ _ hb;have m1:=ai W _ 1 _ _ _ hb;simp[results,h,go_sem,ht,m0,m1]
theorem tF(h:fn.results=#[.cell t 66])(tmps:Array Value)(W:World){x:ByteArray}{n:Int}(ht:tmps[t]?.getD undef=.pointer (some ⟨b,0,none⟩))(hb:W.heap[b]?=some (.cells #[.string x,.int .i64 n] 66 (0,0))) :
  (results fn tmps).run prog W=.ok (.agg #[.string x,.int .i64 n]) W:=by
 have m0:=ai W _ 0 _ _ _ hb;have m1:=ai W _ 1 _ _ _ hb;simp[results,h,go_sem,ht,m0,m1]
theorem nM{W:World}{x0 x1 y0 y1:Value}{t:TypeId}(h:W.heap[b]?=some (.cells #[y0,y1] t (0,0))):((W.setCell ⟨b,0,none⟩ x0).setCell ⟨b,1,none⟩ x1).heap[b]?=some (.cells #[x0,x1] t (0,0)):=by
 simp[World.setCell,aK,h]
end
end Go.Proofs.YtdkpkpgpphkljaaGreatDoor
