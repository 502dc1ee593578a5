import Derived.Test.YtoohcklcppnafaaGreatDoorVb
import Derived.Test.YtoohcklcppnafaaGreatDoorWzw
import Derived.Deep.CutBlock
namespace Go.Proofs.YtoohcklcppnafaaGreatDoor
set_option maxRecDepth 100000
set_option maxHeartbeats 4000000
open Go.RowKit
open M
section
open X
variable{w w' W W':aG}{B k n ab b rb kb i:Nat}{T:TypeId}{v:Value}{xs:List Value}{c:Array Value}{f:Nat × Nat}{S D:Nat→Prop}{ps:List Part}
def SA(ab:Nat)(w:aG):Nat:=match w.cell? (aC ab 1) with|some (.slice _ n _)=>n|_=>0
structure oq(w:aG)(D:Nat→Prop)(ab i:Nat):Prop where
 ex:∃(bv:Value) (bl:List Int) (en gp:Int),w.heap[ab]?=some (.cells #[ak i,bv,ak en,ak gp] 113 (0,0))∧w.ownsRow (ab+1) 3 1 bv bl.length (bl.map (Value.int .i64))∧bl.length≤i∧∀ q,bv.ownBlock=some q→¬ D q
theorem rP(h:w.ownsRow B T k v n xs):∃ o c,v=.slice o n c∧n≤maxLen:=by
 rcases h.2 with ⟨rfl,rfl⟩|⟨g,cap,cur,rfl,-,-,h1,h2,-⟩
 ·exact⟨none,0,rfl,bJ _⟩
 ·exact⟨_,cap,rfl,au⟩
theorem jW(h:w.ownsRow B T k v n xs){q:Nat}(hq:v.ownBlock=some q):B≤q∧∃ c f,w.heap[q]?=some (.cells c T f):=by
 rcases h.2 with ⟨rfl,-⟩|⟨g,cap,cur,rfl,hge,hg,-⟩
 ·cases hq
 ·obtain rfl:g=q:=by simpa [Value.ownBlock] using hq
  exact⟨hge,cur,_,hg⟩
theorem vk{a b c:Value}{o:Option Addr}{m:Nat}{t:TypeId}(h:w.heap[ab]?=some (.cells #[a,.slice o n m,b,c] t f)):SA ab w=n:=by
 unfold SA;rw[aj w _ 1 _ _ _ h];rfl
def Sw(w:aG)(D:Nat→Prop)(rb ab q:Nat):Prop:=q=rb∨q=ab∨(ab<q∧¬ D q∧∃ c f,w.heap[q]?=some (.cells c 3 f))
structure Kq(D:Nat→Prop)(rb ab:Nat)(w w':aG):Prop where
 kp:Kp (Sw w D rb ab) w w'
 le:SA ab w≤SA ab w'
theorem Kq.size{D:Nat→Prop}{rb ab:Nat}{w w':aG}(h:Kq D rb ab w w'):w.heap.size≤w'.heap.size:=h.kp.size
theorem Kq.refl(D:Nat→Prop)(rb ab:Nat)(w:aG):Kq D rb ab w w:=⟨Kp.refl _ _,ax _⟩
theorem Kq.trans{D:Nat→Prop}{rb ab:Nat}{w w1 w2:aG}(h:Kq D rb ab w w1)(k:Kq D rb ab w1 w2):Kq D rb ab w w2 :=
 ⟨Kp.trans h.kp k.kp (fun q hq e=>by
  rcases e with e|e|⟨e,e1,c,f,hc⟩
  ·exact .inl e
  ·exact .inr (.inl e)
  ·by_cases hs:Sw w D rb ab q
   ·exact hs
   ·exact .inr (.inr ⟨e,e1,c,f,by rw[← h.kp.block q hq hs];exact hc⟩)),dI h.le k.le⟩
theorem E9(k:Kp S w w')(ha:ab<w.heap.size)(h:¬ S ab):SA ab w'=SA ab w:=by
 unfold SA;rw[k.cell (p:=⟨ab,1,none⟩) ha h]
theorem Kq.bN5(k:Kp S w w')(ha:ab<w.heap.size)(h:∀ q,q<w.heap.size→¬ S q):Kq D rb ab w w':=⟨k.mono (fun q hq e=>absurd e (h q hq)),Nat.le_of_eq (E9 k ha (h _ ha)).symm⟩
theorem Kq.aN{D:Nat→Prop}{rb ab:Nat}{w w':aG}(k:Below w.heap.size w w')(ha:ab<w.heap.size):Kq D rb ab w w':=Kq.bN5 (Kp.aN k (fun _=>False)) ha (fun _ _=>id)
theorem Kq.set{D:Nat→Prop}{rb ab:Nat}{w W:aG}(h:Kq D rb ab w W)(ha:ab<w.heap.size){b:Nat}(hb:w.heap.size≤b)(k:Nat)(v:Value):Kq D rb ab w (W.setCell (aC b k) v) :=
 ⟨Kp.setCell (p:=⟨b,k,none⟩) h.kp (fun e=>absurd e (by simpa using hb)) v,by
  refine dI h.le (Nat.le_of_eq (E9 (S:=fun q=>q=b) (On.set (Kp.refl _ W) k v) (aJ ha h.size) ?_).symm);omega⟩
theorem Kq.inner(h:Kq D rb ab w W)(k:Kq D kb ab W W')(hk:w.heap.size≤kb):Kq D rb ab w W' :=
 ⟨Kp.trans h.kp k.kp (fun q hq e=>by
  rcases e with e|e|⟨e,e1,c,f,hc⟩
  ·omega
  ·exact .inr (.inl e)
  ·by_cases hs:Sw w D rb ab q
   ·exact hs
   ·exact .inr (.inr ⟨e,e1,c,f,by rw[← h.kp.block q hq hs];exact hc⟩)),dI h.le k.le⟩
theorem SB(h:w.heap[b]?=some (.cells c T f))(hT:T≠3)(h1:b≠rb)(h2:b≠ab):¬ Sw w D rb ab b:=fun e=>by
 rcases e with e|e|⟨-,-,c',f',e⟩
 ·exact h1 e
 ·exact h2 e
 ·rw[h] at e
  injection e with e;injection e with e1 e2;exact hT e2
theorem Kq.heap{D:Nat→Prop}{rb ab:Nat}{w w':aG}(k:Kq D rb ab w w'){b:Nat}{c:Array Value}{T:TypeId}{f:Nat × Nat}(h:w.heap[b]?=some (.cells c T f))(hT:T≠3)(h1:b≠rb)(h2:b≠ab):w'.heap[b]?=some (.cells c T f):=k.kp.heap h (SB h hT h1 h2)
theorem Kq.owns{D:Nat→Prop}{rb ab:Nat}{w w':aG}(k:Kq D rb ab w w'){B:Nat}{T:TypeId}{m:Nat}{v:Value}{n:Nat}{xs:List Value}(h:w.ownsRow B T m v n xs)(hT:T≠3)(h1:∀ g,v.ownBlock=some g→g≠rb∧g≠ab):w'.ownsRow B T m v n xs :=
 k.kp.owns h (fun q hq=>by
  obtain⟨-,c,f,hc⟩:=jW h hq;exact SB hc hT (h1 q hq).1 (h1 q hq).2)
theorem Kq.nds(k:Kq D rb ab w w')(h:qL w D v ps)(h1:¬ D rb)(h2:¬ D ab):qL w' D v ps:=h.keep k.kp (fun q hq e=>by
 rcases e with e|e|⟨-,e,-⟩
 ·exact h1 (e ▸ hq)
 ·exact h2 (e ▸ hq)
 ·exact e hq)
theorem oq.keep(h:oq w D ab i)(k:Kp S w w')(h1:¬ S ab)(h2:∀ q c f,ab<q→w.heap[q]?=some (.cells c 3 f)→¬ S q):oq w' D ab i:=by
 obtain⟨bv,bl,en,gp,hb,ho,hn,hd⟩:=h.ex;refine⟨bv,bl,en,gp,k.heap hb h1,k.owns ho (fun q hq=>?_),hn,hd⟩;obtain⟨hge,c,f,hc⟩:=jW ho hq;exact h2 q c f au hc
theorem oq.below(h:oq w D ab i)(k:Below w.heap.size w w'):oq w' D ab i:=h.keep (Kp.aN k (fun _=>False)) id (fun _ _ _ _ _=>id)
theorem oq.lt(h:oq w D ab i):ab<w.heap.size:=by
 obtain⟨bv,bl,en,gp,hb,-⟩:=h.ex;exact bN hb
structure dR(w:aG)(D:Nat→Prop)(rb ab:Nat)(ps:List Part)(i:Nat):Prop where
 blk:∃ v,w.heap[rb]?=some (.cells #[aH ab,v] 119 (0,0))∧qL w D v ps
 Bj:oq w D ab i
 sep:rb≠ab∧¬ D rb∧¬ D ab
 JI:Gd ps
theorem dR.lt{w:aG}{D:Nat→Prop}{rb ab:Nat}{ps:List Part}{i:Nat}(h:dR w D rb ab ps i):rb<w.heap.size∧ab<w.heap.size:=by
 obtain⟨v,e,-⟩:=h.blk;exact⟨bN e,h.Bj.lt⟩
theorem dR.keep{S:Nat→Prop}{w w':aG}{D:Nat→Prop}{rb ab:Nat}{ps:List Part}{i:Nat}(h:dR w D rb ab ps i)(hk:Kp S w w')(h1:¬ S rb)(h2:¬ S ab)(hD:∀ q,D q→¬ S q)(hI:∀ q c f,ab<q→w.heap[q]?=some (.cells c 3 f)→¬ S q):dR w' D rb ab ps i:=by
 obtain⟨v,e,hn⟩:=h.blk;exact⟨⟨v,hk.heap e h1,hn.keep hk hD⟩,h.Bj.keep hk h2 hI,h.sep,h.JI⟩
theorem dR.below(h:dR w D rb ab ps i)(hk:Below w.heap.size w w'):dR w' D rb ab ps i:=h.keep (Kp.aN hk (fun _=>False)) id id (fun _ _=>id) (fun _ _ _ _ _=>id)
theorem dR.on(h:dR w D rb ab ps i)(hk:Kp (fun q=>q=b) w w')(hb:w.heap[b]?=some (.cells c T f))(hT:T≠3)(h1:rb≠b)(h2:ab≠b)(hD:¬ D b):dR w' D rb ab ps i :=
 h.keep hk h1 h2 (fun q hq e=>hD (e ▸ hq)) (fun q c' f' _ e e'=>by
  subst e';rw[hb] at e;injection e with e;injection e with e1 e2;exact hT e2)
theorem dR.other{qs:List Part}{j:Nat}(h:dR w D rb ab ps i)(k:Kq D kb ab w w')(hk:dR w' D kb ab qs j)(hn:rb≠kb):dR w' D rb ab ps j:=by
 obtain⟨v,e,hv⟩:=h.blk;exact⟨⟨v,k.heap e aS hn h.sep.1,k.nds hv hk.sep.2.1 hk.sep.2.2⟩,hk.Bj,h.sep,h.JI⟩
theorem Kq.new(hk:Kq D rb ab W W')(h1:rb<w.heap.size)(h2:ab<w.heap.size)(h:W.heap[w.heap.size]?=some (.cells c T f))(hT:T≠3):W'.heap[w.heap.size]?=some (.cells c T f):=hk.heap h hT au au
theorem Kq.made(hk:Kq D rb ab W W')(h1:rb<w.heap.size)(h2:ab<w.heap.size)(hb:w.heap.size≤b)(h:W.heap[b]?=some (.cells c T f))(hT:T≠3):W'.heap[b]?=some (.cells c T f):=hk.heap h hT au au
theorem Kq.more(h:Kq D rb ab w W)(k:Below W.heap.size W W')(ha:ab<w.heap.size):Kq D rb ab w W':=h.trans (Kq.aN k (aJ ha h.size))
theorem Kq.over(h:Kq D rb ab w W)(k:Kp S W W')(ha:ab<w.heap.size)(hS:∀ q,q<w.heap.size→¬ S q):Kq D rb ab w W':=⟨Kp.trans h.kp k (fun q hq e=>absurd e (hS q hq)),dI h.le (Nat.le_of_eq (E9 k (aJ ha h.size) (hS _ ha)).symm)⟩
theorem oF(h:w.heap[b]?=some (.cells c T f))(hT:T≠3):¬ ∃ c' f',w.heap[b]?=some (.cells c' 3 f'):=fun⟨c',f',e⟩=>by
 rw[h] at e;injection e with e;injection e with e1 e2;exact hT e2
theorem Sw.int{lo:Nat}(h1:rb<lo)(h2:ab<lo)(hi:lo≤i)(h:Sw w D rb ab i):∃ c f,w.heap[i]?=some (.cells c 3 f):=by
 rcases h with e|e|⟨-,-,e⟩
 ·omega
 ·omega
 ·exact e
theorem Kq.wide(h:Kq D ab ab w w'):Kq D rb ab w w':=⟨h.kp.mono (fun q _ e=>by
 rcases e with e|e|e
 ·exact .inr (.inl e)
 ·exact .inr (.inl e)
 ·exact .inr (.inr e)),h.le⟩
theorem Kq.set2(h:Kq D rb ab w W)(ha:ab<w.heap.size)(hb:w.heap.size≤b)(x0 x1:Value):Kq D rb ab w ((W.setCell (aC b 0) x0).setCell (aC b 1) x1):=(h.set ha hb 0 x0).set ha hb 1 x1
theorem Kq.wH(h:Kq D rb ab w W)(ha:ab<w.heap.size)(hb:w.heap.size≤b)(x0 x1 x2 x3:Value):Kq D rb ab w ((((W.setCell (aC b 0) x0).setCell (aC b 1) x1).setCell (aC b 2) x2).setCell (aC b 3) x3):=(((h.set ha hb 0 x0).set ha hb 1 x1).set ha hb 2 x2).set ha hb 3 x3
end
section
open Tryz
variable{W:aG}{b:Nat}
theorem aV0:(prog.info? 3).map (fun i=>(i.zero,i.size,i.bytes))=some (some (ak 0),1,8):=bC
theorem aV1{f:Option TypeInfo}{z:Value}{n m:Nat}(h:f.map (fun i=>(i.zero,i.size,i.bytes))=some (some z,n,m)):∃ i,f=some i∧i.zero=some z∧i.size=n∧i.bytes=m:=by
 cases f with
 | none=>cases h
 | some i =>
  simp only[aE2,dP,kE] at h;exact⟨i,rfl,h.1,h.2.1,h.2.2⟩
theorem aA3{vs:Array Value}{ty:TypeId}(h:W.heap[b]?=some (.cells vs ty (0,0)))(k:Nat)(v:Value):(W.setCell (aC b k) v).heap[b]?=some (.cells (vs.setIfInBounds k v) ty (0,0)):=by simp[World.setCell,aZ,h]
theorem oo{c:Array Value}{t:TypeId}(h:W.heap[b]?=some (.cells c t (0,0)))(k:Nat):W.frozen? (aC b k)=false:=dO h
theorem PU{z:Nat}(h:(z==10)=true):z=10:=by simpa using h
theorem KT(ab i tk:Nat)(x:ByteArray)(a4:Option Addr)(a5 a6:Nat)(w:aG)(D:Nat→Prop)(h:oq w D ab i)(hi:i+x.size≤1073741824)(hx:0<x.size)(hDl:∀ q,D q→q<w.heap.size) :
  bB 107 #[aH ab,.agg #[ak 0,ak tk,.string x,.slice a4 a5 a6]] w (cK (.tuple #[]) fun w'=>Hid (oq w' D ab (i+x.size)∧Kq D ab ab w w')):=by
 obtain⟨bv,bl,en,gp,hb,ho,hn,hbD⟩:=h.ex;clear h;obtain⟨bo,bc,hbv,-⟩:=rP ho;have hn0:Hid (SA ab w=bl.length):=by
  rw[hbv] at hb;exact vk hb
 have HBv:=aA hbv;clear hbv;generalize hxs:bl.map (Value.int .i64)=xs at *;generalize hnn:bl.length=n at *;have HXs:=aA hxs;have HNn:=aA hnn;clear hxs hnn;have HBD:=aA hbD;have nP:=aA hDl;clear hbD hDl;have k0:Below w.heap.size w (w.alloc (.cells #[ak 0,ak tk,.string x,.slice a4 a5 a6] 116)):=(aB _ w).alloc (ax _) _;have hN:=aI w (.cells #[ak 0,ak tk,.string x,.slice a4 a5 a6] 116);have q0:=Kp.aN k0 (fun _=>False);have hb0:=q0.heap hb id;have ho0:=q0.owns ho (fun _ _=>id);have hal:=bN hb;have K0:=aA (Kp.aN k0 (Sw w D ab ab));clear k0 q0;go_enter func107,ntmps107
 go_upto_region 1 with fail
 generalize hW:w.alloc (.cells #[ak 0,ak tk,.string x,.slice a4 a5 a6] 116)=w1 at *;generalize hB:w.heap.size=B at hN ⊢;have c0:=aj w1 _ 0 _ _ _ hb0;have n2:=aj w1 _ 2 _ _ _ hN;have f0:=oo hb0 0;go_wp2_with fail
 refine OM (S:=fun w'=>w'.cell? (aC ab 0)=some (ak i)∧w'.cell? (aC B 2)=some (.string x)) (Z:=fun j=>j==10) bC ?_;have hS:w1.drew.cell? (aC ab 0)=some (ak i)∧w1.drew.cell? (aC B 2)=some (.string x):=⟨c0,n2⟩;have hb1:w1.drew.heap[ab]?=some (.cells #[ak i,bv,ak en,ak gp] 113 (0,0)):=hb0;have hN1:w1.drew.heap[B]?=some (.cells #[ak 0,ak tk,.string x,.slice a4 a5 a6] 116 (0,0)):=hN;have ho1:=ho0.drew;have K1:=aA ((K0.o).drew);clear c0 n2 f0 hb0 hN ho0 K0 hW;generalize w1.drew=w2 at *;have f0:=oo hb1 0;refine oN (i:=0) (dn:=9) (v:=?_) rfl rfl bC (fun z hz=>by obtain rfl:=PU hz;kernel_rfl) bC bC (fun _ _ _ h=>h) (Or.inl ⟨by rfl,?_⟩) hS ?_;rotate_left
 ·(intro wx hSw;(try dsimp only at hSw);obtain⟨KU,KV⟩:=hSw;go_simp;try(with_reducible rfl))
 simp only[Act.put,aD,aO,aP];refine oN (i:=1) (dn:=10) (v:=?_) rfl rfl bC (fun z hz=>by obtain rfl:=PU hz;kernel_rfl) bC bC (fun _ _ _ h=>h) (Or.inl ⟨by rfl,?_⟩) hS ?_;rotate_left
 ·(intro wx hSw;(try dsimp only at hSw);obtain⟨KU,KV⟩:=hSw;go_simp;try(with_reducible rfl))
 simp only[Act.put,aD,aO,aP];refine oN (i:=2) (dn:=11) (v:=?_) rfl rfl bC (fun z hz=>by obtain rfl:=PU hz;kernel_rfl) bC bC (fun _ _ _ h=>h) (Or.inl ⟨by rfl,?_⟩) hS ?_;rotate_left
 ·(intro wx hSw;(try dsimp only at hSw);obtain⟨KU,KV⟩:=hSw;go_simp;try(with_reducible rfl))
 simp only[Act.put,aD,aO,aP];refine oN (i:=3) (dn:=12) (v:=?_) rfl rfl bC (fun z hz=>by obtain rfl:=PU hz;kernel_rfl) bC bC (fun _ _ _ h=>h) (Or.inl ⟨by rfl,?_⟩) hS ?_;rotate_left
 ·(intro wx hSw;(try dsimp only at hSw);obtain⟨KU,KV⟩:=hSw;go_simp;try(with_reducible rfl))
 simp only[Act.put,aD,aO,aP];refine oN (i:=4) (dn:=13) (v:=?_) rfl rfl bC (fun z hz=>by obtain rfl:=PU hz;kernel_rfl) bC bC (fun _ _ _ h=>h) (Or.inl ⟨by rfl,?_⟩) hS ?_;rotate_left
 ·(intro wx hSw;(try dsimp only at hSw);obtain⟨KU,KV⟩:=hSw;go_simp;try(with_reducible rfl))
 simp only[Act.put,aD,aO,aP];refine oN (i:=5) (dn:=14) (v:=?_) rfl rfl bC (fun z hz=>by obtain rfl:=PU hz;kernel_rfl) bC bC (fun _ _ _ h=>h) (Or.inl ⟨by rfl,?_⟩) hS ?_;rotate_left
 ·(intro wx hSw;(try dsimp only at hSw);obtain⟨KU,KV⟩:=hSw;go_simp;try(with_reducible rfl))
 simp only[Act.put,aD,aO,aP];refine oN (i:=6) (dn:=15) (v:=?_) rfl rfl bC (fun z hz=>by obtain rfl:=PU hz;kernel_rfl) bC bC (fun _ _ _ h=>h) (Or.inl ⟨by rfl,?_⟩) hS ?_;rotate_left
 ·(intro wx hSw;(try dsimp only at hSw);obtain⟨KU,KV⟩:=hSw;go_simp;try(with_reducible rfl))
 simp only[Act.put,aD,aO,aP];refine oN (i:=7) (dn:=16) (v:=?_) rfl rfl bC (fun z hz=>by obtain rfl:=PU hz;kernel_rfl) bC bC (fun _ _ _ h=>h) (Or.inl ⟨by rfl,?_⟩) hS ?_;rotate_left
 ·(intro wx hSw;(try dsimp only at hSw);obtain⟨KU,KV⟩:=hSw;go_simp;try(with_reducible rfl))
 simp only[Act.put,aD,aO,aP];refine E_ (i:=8) bC rfl (fun K' hK'=>?_);go_simp;refine hK'.o _ _ (fun _=>hS) (fun _=>?_);clear hK' K';refine E_ (i:=9) bC rfl (fun K' hK'=>?_);go_simp;refine hK'.o _ _ (fun _=>hS) (fun _=>?_);clear hK' K';refine E_ (i:=10) bC rfl (fun K' hK'=>?_);go_simp;refine hK'.o _ _ (fun h=>absurd h aS) (fun _=>Wy bC ?_);clear hK' K';have hwr:IntKind.i64.wrap ((i:Int)+(x.size:Int))=((i+x.size:Nat):Int):=by
  rw[IntKind.wrap_i64];omega
 rw[hwr];have hBa:¬ ab=B:=au
 have kS:Kp (fun q=>q=ab) w2 (w2.setCell (aC ab 0) (ak ((i+x.size:Nat):Int))):=Kp.setCell (S:=fun q=>q=ab) (p:=⟨ab,0,none⟩) (Kp.refl _ w2) (fun _=>rfl) _;have hb3:=aA3 hb1 0 (ak ((i+x.size:Nat):Int));have G8:=kS.heap hN1 (fun e=>hBa e.symm);have hag:∀ q,bv.ownBlock=some q→q≠ab:=fun q hq e=>by
  rcases ho1.2 with ⟨rfl,-⟩|⟨g,cap,cur,rfl,hge,-⟩
  ·cases hq
  ·obtain rfl:g=q:=by simpa [Value.ownBlock] using hq
   omega
 have ho3:=kS.owns ho1 (fun q hq e=>hag q hq e);have K3:=aA (Kp.trans (K1.o) kS (fun q _ e=>.inl e));clear kS hb1 hN1 ho1 K1 hwr f0 hS hb ho;generalize w2.setCell (aC ab 0) (ak ((i+x.size:Nat):Int))=w3 at *;have aV2:w3.heap[ab]?=some (.cells #[ak ((i+x.size:Nat):Int),bv,ak en,ak gp] 113 (0,0)):=by simpa using hb3
 clear hb3;have m0:=aj w3 _ 0 _ _ _ G8;have m1:=aj w3 _ 1 _ _ _ G8;have m2:=aj w3 _ 2 _ _ _ G8;have m3:=aj w3 _ 3 _ _ _ G8;go_wp2_with fail
 refine(tJ 0 tk x a4 a5 a6 _).aX fun w4 k4=>?_;have q4:=Kp.aN k4 (fun _=>False);have hb4:=q4.heap aV2 id;have ho4:=q4.owns ho3 (fun _ _=>id);have K4:=aA (Kp.trans (K3.o) q4 (fun _ _ e=>e.elim));have hs4:=(K4.o).size;clear m0 m1 m2 m3 q4 k4 aV2 ho3 K3 G8;by_cases hq:(tk==1||tk==2)=true
 ·rw[show((0:Nat)==0&&(tk==1||tk==2))=true by rw[hq];rfl]
  clear hq;go_wp2_with fail
  go_end0;have hq4:SA ab w4=n:=by
   rw[HBv.o] at hb4;exact vk hb4
  refine⟨rfl,⟨bv,bl,en,gp,hb4,by rw[HXs.o,HNn.o];exact ho4,by have:=HNn.o;omega,HBD.o⟩,K4.o,?_⟩;have h1:=hn0.o;omega
 ·rw[show((0:Nat)==0&&(tk==1||tk==2))=false by simpa using hq]
  clear hq;have c1:=aj w4 _ 1 _ _ _ hb4;obtain⟨ii,hii,hi0,hi1,hi2⟩:=aV1 aV0;have hab:ab+1≤w4.heap.size:=au
  have HO4:=aA ho4;go_wp2_with (at_builtin;refine wpList_append_lies _ rfl _ _ 65 rfl (ab+1) 3 ii _ 1 8 underlying65 hii hi0 hi1 hi2 rfl aS bv n _ rfl ((HO4.o).alloc _) ⟨w4.heap.size,0,none⟩ 1 1 [ak i] rfl rfl (World.news_of_block (cs:=#[ak i]) (aI w4 _)) (by simp[Value.oneCell']) au (by unfold maxLen;omega) au aQ (w4.heap.size+1) aT ?_;intro g5 cap5 w5 hown5 aV gI jm;have OD:=aA hown5;have vv:=aA aV;have OA:=aA gI;have kG:=Kp.grown (Kp.alloc (Kp.refl _ w4) _) aV (fun q e _=>e);have hb5:=kG.heap hb4 (fun e=>hag ab e rfl);have r0:=aj w5 _ 0 _ _ _ hb5;have r1:=aj w5 _ 1 _ _ _ hb5;have r2:=aj w5 _ 2 _ _ _ hb5;have f1:=oo hb5 1;have f2:=oo hb5 2;have KG:=aA kG;have FW:=aA hb5;clear hown5 aV gI jm kG hb5)
  have hown:∀ q,bv.ownBlock=some q→ab<q∧∃ c f,w4.heap[q]?=some (.cells c 3 f):=fun q hq=>by
   rcases(HO4.o).2 with ⟨rfl,-⟩|⟨g,cap,cur,rfl,hge,hg,-⟩
   ·cases hq
   ·obtain rfl:g=q:=by simpa [Value.ownBlock] using hq
    exact⟨au,cur,_,hg⟩
  have hga:g5≠ab:=fun e=>(OA.o).elim (fun h=>hag g5 h e) (fun h=>au)
  have kF:Kp (fun q=>q=ab) w5 ((w5.setCell (aC ab 1) (.slice (b_ g5) (n+1) cap5)).setCell (aC ab 2) (ak ((i+x.size:Nat):Int))):=Kp.setCell (S:=fun q=>q=ab) (p:=⟨ab,2,none⟩) (Kp.setCell (S:=fun q=>q=ab) (p:=⟨ab,1,none⟩) (Kp.refl _ w5) (fun _=>rfl) _) (fun _=>rfl) _;have HF:Hid (oq ((w5.setCell (aC ab 1) (.slice (b_ g5) (n+1) cap5)).setCell (aC ab 2) (ak ((i+x.size:Nat):Int))) D ab (i+x.size)∧Kq D ab ab w ((w5.setCell (aC ab 1) (.slice (b_ g5) (n+1) cap5)).setCell (aC ab 2) (ak ((i+x.size:Nat):Int)))):=by
   have hbF:((w5.setCell (aC ab 1) (.slice (b_ g5) (n+1) cap5)).setCell (aC ab 2) (ak ((i+x.size:Nat):Int))).heap[ab]?=some (.cells #[ak ((i+x.size:Nat):Int),.slice (b_ g5) (n+1) cap5,ak ((i+x.size:Nat):Int),ak gp] 113 (0,0)):=by
    have:=aA3 (aA3 FW.o 1 (.slice (b_ g5) (n+1) cap5)) 2 (ak ((i+x.size:Nat):Int))
    simpa using this
   show oq _ _ _ _∧Kq _ _ _ _ _;have hnn:=HNn.o;have hxs:=HXs.o;refine⟨⟨Value.slice (b_ g5) (n+1) cap5,bl++[(i:Int)],((i+x.size:Nat):Int),gp,hbF,?_,by rw[ay,hnn];show n+1≤_;omega,fun q hq hd=>?_⟩,?_,?_⟩
   ·rw[ay,nN,hnn,hxs]
    exact kF.owns OD.o (fun q hq e=>hga (by have h1:some g5=some q:=hq;injection h1 with h1;have:q=ab:=e;omega))
   ·have h1:some g5=some q:=hq
    injection h1 with h1;subst h1;rcases OA.o with h2|h2
    ·exact(HBD.o) _ h2 hd
    ·have:=(nP.o) _ hd
     omega
   ·refine Kp.trans K4.o (Kp.trans (S:=Sw w4 D ab ab) (Kp.mono KG.o (fun q _ e=>.inr (.inr ⟨(hown q e).1,(HBD.o) q e,(hown q e).2⟩))) kF (fun q _ e=>.inl e)) (fun q hq e=>?_)
    rcases e with e|e|⟨e,e1,c,f,hc⟩
    ·exact .inl e
    ·exact .inr (.inl e)
    ·by_cases hs:Sw w D ab ab q
     ·exact hs
     ·exact .inr (.inr ⟨e,e1,c,f,by rw[← (K4.o).block q hq hs];exact hc⟩)
   ·rw[vk hbF]
    have h1:=hn0.o;omega
  clear hb4 ho4 HO4 OD vv OA KG FW kF K4 hown;rw[j_] at HF;go_end0;exact⟨rfl,HF.o⟩
end
section
open Tryz
open X
variable{b rb ab i:Nat}{W w:aG}{D:Nat→Prop}{p:Part}{ps:List Part}{nv:Value}
theorem wI{fn:Func}{t:Tmp}(h:fn.results=#[.cell t 116])(tmps:Array Value)(W:aG){a1 a2:Int}{a3:ByteArray}{a4:Option Addr}{a5 a6:Nat}(ht:tmps[t]?.getD undef=aH b)(hb:W.heap[b]?=some (.cells #[ak a1,ak a2,.string a3,.slice a4 a5 a6] 116 (0,0))) :
  (results fn tmps).run prog W=.ok (.agg #[ak a1,ak a2,.string a3,.slice a4 a5 a6]) W:=by
 have m0:=aj W _ 0 _ _ _ hb;have m1:=aj W _ 1 _ _ _ hb;have m2:=aj W _ 2 _ _ _ hb;have m3:=aj W _ 3 _ _ _ hb;simp[results,h,go_sem,ht,m0,m1,m2,m3]
theorem jL{x0 x1 x2 x3 y0 y1 y2 y3:Value}{t:TypeId}(h:W.heap[b]?=some (.cells #[y0,y1,y2,y3] t (0,0))):((((W.setCell (aC b 0) x0).setCell (aC b 1) x1).setCell (aC b 2) x2).setCell (aC b 3) x3).heap[b]?=some (.cells #[x0,x1,x2,x3] t (0,0)):=by
 simp[World.setCell,aZ,h]
theorem zy{k q:Nat}{v:Value}(hq:q≠b):(W.setCell (aC b k) v).heap[q]?=W.heap[q]?:=by
 simp[World.setCell,aZ,hq.symm]
theorem dR.cut(h:dR w D rb ab (p::ps) i)(hn:qL w D nv ps):dR (w.setCell (aC rb 1) nv) D rb ab ps i∧Kq D rb ab w (w.setCell (aC rb 1) nv):=by
 obtain⟨v,hb,-⟩:=h.blk;have hk:Kp (fun q=>q=rb) w (w.setCell (aC rb 1) nv):=On.set (Kp.refl _ w) 1 _;have hp:=h.Bj.keep hk (fun e=>h.sep.1 e.symm) (fun q c f _ e e'=>by subst e';exact oF hb aS ⟨c,f,e⟩);refine⟨⟨⟨nv,?_,hn.keep hk (fun q hq e=>h.sep.2.1 (e ▸ hq))⟩,hp,h.sep,h.JI.tail⟩,hk.mono (fun q _ e=>.inl e),Nat.le_of_eq (E9 hk h.lt.2 (fun e=>h.sep.1 e.symm)).symm⟩;simp[World.setCell,aZ,hb]
theorem dR.gap(h:dR w D rb ab ps i)(z:Int):dR (w.setCell (aC ab 3) (ak z)) D rb ab ps i∧Kq D rb ab w (w.setCell (aC ab 3) (ak z)):=by
 obtain⟨v,hb,hn⟩:=h.blk;obtain⟨bv,bl,en,gp,hp,ho,hl,hd⟩:=h.Bj.ex;obtain⟨o,c,rfl,-⟩:=rP ho;have hk:Kp (fun q=>q=ab) w (w.setCell (aC ab 3) (ak z)):=On.set (Kp.refl _ w) 3 _;have hp2:(w.setCell (aC ab 3) (ak z)).heap[ab]?=some (.cells #[ak i,.slice o bl.length c,ak en,ak z] 113 (0,0)):=by simp[World.setCell,aZ,hp]
 refine⟨⟨⟨v,hk.heap hb h.sep.1,hn.keep hk (fun q hq e=>h.sep.2.2 (e ▸ hq))⟩,⟨_,bl,en,z,hp2,hk.owns ho (fun q hq e=>?_),hl,hd⟩,h.sep,h.JI⟩,hk.mono (fun q _ e=>.inr (.inl e)),?_⟩
 ·have:=(jW ho hq).1
  have:q=ab:=e;omega
 ·rw[vk hp,vk hp2]
  exact ax _
theorem dR.counted{w':aG}{j:Nat}(h:dR w D rb ab ps i)(hp:oq w' D ab j)(hk:Kq D ab ab w w'):dR w' D rb ab ps j:=by
 obtain⟨v,hb,hn⟩:=h.blk;exact⟨⟨v,hk.heap hb aS h.sep.1 h.sep.1,hk.nds hn h.sep.2.2 h.sep.2.2⟩,hp,h.sep,h.JI⟩
theorem Ww(h:Gd (p::ps)):(∃ k x,p=.leaf k x∧0<x.length)∨(nk p≠0∧JH p=0):=by
 cases p with
 | leaf k x=>exact .inl ⟨k,x,rfl,h.leaf⟩
 | miss m=>exact .inr ⟨by show(1:Nat)≠0;omega,rfl⟩
 | br k qs=>exact .inr ⟨h.br.1,rfl⟩
theorem Wx(h:dR w D rb ab (p::ps) i)(hn:qL w D nv ps)(zc kc:Array Value) :
  ∃ W3,W3=((w.setCell (aC rb 1) nv).alloc (.cells zc 116)).alloc (.cells kc 116)∧W3.heap[w.heap.size]?=some (.cells zc 116 (0,0))∧W3.heap[w.heap.size+1]?=some (.cells kc 116 (0,0))∧dR W3 D rb ab ps i∧Kq D rb ab w W3:=by
 obtain⟨h1,h2⟩:=h.cut hn;have hs:(w.setCell (aC rb 1) nv).heap.size=w.heap.size:=by simp[World.setCell]
 have hal:=h.lt.2;generalize w.setCell (aC rb 1) nv=W at *;have kA:Below W.heap.size W ((W.alloc (.cells zc 116)).alloc (.cells kc 116)):=((aB _ W).alloc (ax _) _).alloc aT _;have n1:=aI W (.cells zc 116);have n2:=aI (W.alloc (.cells zc 116)) (.cells kc 116);have n3:=(eG (W.alloc (.cells zc 116)) (.cells kc 116) (show W.heap.size<_ by simp)).trans n1;rw[fB,hs] at n2;rw[hs] at n3;exact⟨_,rfl,n3,n2,h1.below kA,h2.more kA hal⟩
theorem lN(D:Nat→Prop)(rb ab:Nat)(p:Part)(ps:List Part)(i:Nat)(w:aG)(h:dR w D rb ab (p::ps) i)(hi:i+JH p≤1073741824)(hDl:∀ q,D q→q<w.heap.size) :
  bB 74 #[aH rb] w fun e w'=>∃ a4 a5 a6,e=.returned (.agg #[ak (nk p),ak (Dw p),.string (ba (BM p)),.slice a4 a5 a6])∧Hid (qL w' D (.slice a4 a5 a6) (X.kids p)∧dR w' D rb ab ps (i+JH p)∧Kq D rb ab w w'):=by
 obtain⟨v,hb,hn⟩:=h.blk;obtain⟨g,o,cap,kv,rfl,hD,y0,y1,y2,y3,hk,-,hc1,hc2,hn1,hn2⟩:=hn.head;obtain⟨a4,a6,_,_,_,_,rfl,-⟩:=hk.ex;have HK:=aA hk;have Z7:=aA hn1;have zO:=aA hn2;have HR:=aA h;have hsep:=h.sep;obtain⟨hrl,hal⟩:=h.lt;have c1:=aj w _ 1 _ _ _ hb;have f1:w.frozen? (aC rb 1)=false:=dO hb
 have hgl:g<w.heap.size:=dU _ _ y0;have hkind:=aA (Ww h.JI);clear h hb hn hk hn1 hn2;have key:∃ o' n' c',Hid (qL w D (.slice (some ⟨g,o',none⟩) n' c') ps)∧((cap=1∧o'=o∧n'=0∧c'=0∧ps.length=0)∨(cap≠1∧o'=o+4∧n'=ps.length∧c'=cap - 1)):=by
  by_cases e:cap=1
  ·obtain⟨q1,q2⟩:=(zO.o) e
   exact⟨o,0,0,q1,.inl ⟨e,rfl,rfl,rfl,by rw[q2];rfl⟩⟩
  ·exact⟨o+4,ps.length,cap - 1,(Z7.o) e,.inr ⟨e,rfl,rfl,rfl⟩⟩
 obtain⟨o',n',c',HN,hcs⟩:=key;clear Z7 zO;have HFin:Hid (∀(W4:aG) (j:Nat),W4.heap[w.heap.size]?=some (.cells #[ak 0,ak 0,.string ⟨#[]⟩,.slice none 0 0] 116 (0,0))→dR W4 D rb ab ps j→Kq D rb ab w W4→∀ x0 x1 x2 x3:Value,qL ((((W4.setCell (aC w.heap.size 0) x0).setCell (aC w.heap.size 1) x1).setCell (aC w.heap.size 2) x2).setCell (aC w.heap.size 3) x3) D (.slice a4 (X.kids p).length a6) (X.kids p)∧dR ((((W4.setCell (aC w.heap.size 0) x0).setCell (aC w.heap.size 1) x1).setCell (aC w.heap.size 2) x2).setCell (aC w.heap.size 3) x3) D rb ab ps j∧Kq D rb ab w ((((W4.setCell (aC w.heap.size 0) x0).setCell (aC w.heap.size 1) x1).setCell (aC w.heap.size 2) x2).setCell (aC w.heap.size 3) x3)):=fun W4 j hz hr hk x0 x1 x2 x3=>by
  have hk4:Kp (fun q=>q=w.heap.size) W4 ((((W4.setCell (aC w.heap.size 0) x0).setCell (aC w.heap.size 1) x1).setCell (aC w.heap.size 2) x2).setCell (aC w.heap.size 3) x3):=On.set (On.set (On.set (On.set (Kp.refl _ W4) 0 _) 1 _) 2 _) 3 _;exact⟨(hk.nds HK.o hsep.2.1 hsep.2.2).keep hk4 (fun q hq e=>by have:=hDl q hq;omega),hr.on hk4 hz aS au au (fun hd=>by have:=hDl _ hd;omega),Kq.wH hk hal (ax _) _ _ _ _⟩
 rcases hcs with ⟨rfl,rfl,rfl,rfl,cR2⟩|⟨hne,rfl,rfl,rfl⟩
 all_goals
  go_enter func74,ntmps74
  go_upto_region 3 with fail
  obtain⟨W3,hW3,hZ,hK,hR,hKq⟩:=Wx HR.o HN.o #[ak 0,ak 0,.string ⟨#[]⟩,.slice none 0 0] #[ak (nk p),ak (Dw p),.string (ba (BM p)),.slice a4 (X.kids p).length a6];rw[← hW3];clear hW3 HR HN y0 y1 y2 y3 c1 f1 HK;rcases hkind.o with ⟨k,x,rfl,hx⟩|⟨hz,hln⟩
  ·have k0:W3.cell? (aC (w.heap.size+1) 0)=some (ak 0):=aj W3 _ 0 _ _ _ hK
   have k1:W3.cell? (aC (w.heap.size+1) 1)=some (ak k):=aj W3 _ 1 _ _ _ hK;have k2:W3.cell? (aC (w.heap.size+1) 2)=some (.string (ba x)):=aj W3 _ 2 _ _ _ hK;have k3:W3.cell? (aC (w.heap.size+1) 3)=some (.slice a4 0 a6):=aj W3 _ 3 _ _ _ hK;obtain⟨rv,hbr,-⟩:=hR.blk;have r0:=aj W3 _ 0 _ _ _ hbr;have HZ:=aA hZ;have qz:=aA hK;have HR3:=aA hR;have HQ3:=aA hKq;clear hZ hK hR hKq hbr hkind;go_wp2_with fail
   refine dB (S:=fun w'=>w'.cell? (aC rb 0)=some (aH ab)∧w'.cell? (aC (w.heap.size+1) 0)=some (ak 0)∧w'.cell? (aC (w.heap.size+1) 1)=some (ak k)∧w'.cell? (aC (w.heap.size+1) 2)=some (.string (ba x))∧w'.cell? (aC (w.heap.size+1) 3)=some (.slice a4 0 a6)) (z:=6) bC ?_;have hS:=(⟨r0,k0,k1,k2,k3⟩:W3.drew.cell? (aC rb 0)=some (aH ab)∧W3.drew.cell? (aC (w.heap.size+1) 0)=some (ak 0)∧W3.drew.cell? (aC (w.heap.size+1) 1)=some (ak k)∧W3.drew.cell? (aC (w.heap.size+1) 2)=some (.string (ba x))∧W3.drew.cell? (aC (w.heap.size+1) 3)=some (.slice a4 0 a6));iterate 5(refine MO (v:=?_) rfl rfl bC aS bC bC (fun _ _ _ h=>h) (Or.inl ⟨by rfl,?_⟩) hS ?_;rotate_left;(· (intro wx hSw;(try dsimp only at hSw);obtain⟨hw0,hw1,hw2,hw3,hw4⟩:=hSw;go_simp;try(with_reducible rfl)));simp only[Act.put,List.setIfInBounds_toArray,List.set_cons_zero,List.set_cons_succ])
   refine fw 5 fun K hK=>?_;go_simp;have hsz:=zo x;have kD:Below W3.heap.size W3 W3.drew:=(Below.refl _ W3).drew;refine(KT ab i k (ba x) a4 0 a6 W3.drew D ((HR3.o).below kD).Bj (by rw[hsz];exact hi) au (fun q hq=>Nat.lt_of_lt_of_le (hDl q hq) (HQ3.o).size)).aX fun W4 X4=>?_;have hs3:=(HQ3.o).size;have UL:=(((HR3.o).below kD).counted (X4.o).1 (X4.o).2);have hQ4:=((HQ3.o).more kD hal).trans (X4.o).2.wide;have SC:=(X4.o).2.heap (b:=w.heap.size) HZ.o aS au au;have hK4:=(X4.o).2.heap (b:=w.heap.size+1) qz.o aS au au;rw[hsz] at UL;have HG:=aA ((HFin.o) W4 _ SC UL hQ4 (ak 0) (ak k) (.string (ba x)) (.slice a4 0 a6));clear r0 k0 k1 k2 k3;have k0:W4.cell? (aC (w.heap.size+1) 0)=some (ak 0):=cell_of_row W4 _ 0 _ _ _ hK4;have k1:W4.cell? (aC (w.heap.size+1) 1)=some (ak k):=cell_of_row W4 _ 1 _ _ _ hK4;have k2:W4.cell? (aC (w.heap.size+1) 2)=some (.string (ba x)):=cell_of_row W4 _ 2 _ _ _ hK4;have k3:W4.cell? (aC (w.heap.size+1) 3)=some (.slice a4 0 a6):=cell_of_row W4 _ 3 _ _ _ hK4;have e0:=cell_of_row W4 _ 0 _ _ _ SC;have e1:=cell_of_row W4 _ 1 _ _ _ SC;have e2:=cell_of_row W4 _ 2 _ _ _ SC;have e3:=cell_of_row W4 _ 3 _ _ _ SC;have q0:=oo SC 0;have q1:=oo SC 1;have q2:=oo SC 2;have q3:=oo SC 3;have HZ4:=aA SC;obtain⟨PZ,aU9,-⟩:=UL.blk;have r4:=cell_of_row W4 _ 0 _ _ _ aU9;dsimp only;refine hK.o _ _ (fun _=>⟨r4,k0,k1,k2,k3⟩) (fun _=>iF ?_);clear hK K hS aU9 r4;clear SC hK4 UL hQ4 X4 HZ qz HR3 HQ3 HFin;go_wp2_with fail
   exact aW (wI rfl _ _ (b:=w.heap.size) (a5:=0) rfl (jL HZ4.o)) rfl ⟨a4,0,a6,rfl,HG.o⟩
  ·have k0:W3.cell? (aC (w.heap.size+1) 0)=some (ak (nk p)):=aj W3 _ 0 _ _ _ hK
   have k1:W3.cell? (aC (w.heap.size+1) 1)=some (ak (Dw p)):=aj W3 _ 1 _ _ _ hK;have k2:W3.cell? (aC (w.heap.size+1) 2)=some (.string (ba (BM p))):=aj W3 _ 2 _ _ _ hK;have k3:W3.cell? (aC (w.heap.size+1) 3)=some (.slice a4 (X.kids p).length a6):=aj W3 _ 3 _ _ _ hK;have e0:=aj W3 _ 0 _ _ _ hZ;have e1:=aj W3 _ 1 _ _ _ hZ;have e2:=aj W3 _ 2 _ _ _ hZ;have e3:=aj W3 _ 3 _ _ _ hZ;have q0:=oo hZ 0;have q1:=oo hZ 1;have q2:=oo hZ 2;have q3:=oo hZ 3;have iz:((nk p:Int)==0)=false:=aQ
   have hs3:=hKq.size;have Dy:=aA ((HFin.o) W3 i hZ hR hKq (ak (nk p)) (ak (Dw p)) (.string (ba (BM p))) (.slice a4 (X.kids p).length a6));have HZ:=aA hZ;by_cases h1:nk p=1∨nk p=19
   ·obtain⟨rv,hbr,-⟩:=hR.blk
    have r0:=aj W3 _ 0 _ _ _ hbr;obtain⟨bv,bl,en,gp,hps,-⟩:=hR.Bj.ex;have d3:=aj W3 _ 3 _ _ _ hps;have fd:=oo hps 3;have HGp:Hid (∀ zz:Int,((W3.setCell (aC ab 3) (ak zz)).heap[w.heap.size]?=some (.cells #[ak 0,ak 0,.string ⟨#[]⟩,.slice none 0 0] 116 (0,0)))∧_):=fun zz=>by
     obtain⟨z1,z2⟩:=hR.gap zz;have VJ:=(zy (W:=W3) (b:=ab) (k:=3) (v:=ak zz) (q:=w.heap.size) au).trans hZ;exact⟨VJ,(HFin.o) _ i VJ z1 (hKq.trans z2) (ak (nk p)) (ak (Dw p)) (.string (ba (BM p))) (.slice a4 (X.kids p).length a6)⟩
    have cR4:¬ ab=w.heap.size:=au
    have cR5:¬ ab=w.heap.size+1:=au
    clear hZ hK hR hKq hbr hps HFin Dy;rcases h1 with h1|h1
    all_goals
     have i1:((nk p:Int)==1)=decide (nk p=1):=by rw[h1];rfl
     rw[h1] at k0 iz ⊢;go_wp2_with fail
     have hg:=(HGp.o) (wrap64 (gp+1));rw[h1] at hg;refine aW (wI rfl _ _ (b:=w.heap.size) (a5:=(X.kids p).length) rfl (jL hg.1)) rfl ⟨a4,(X.kids p).length,a6,by rw[h1];rfl,?_⟩;rw[hln];exact hg.2
   ·have i1:((nk p:Int)==1)=false:=by simp;omega
    have i2:((nk p:Int)==19)=false:=aQ
    clear hZ hK hR hKq HFin;go_wp2_with fail
    exact aW (wI rfl _ _ (b:=w.heap.size) (a5:=(X.kids p).length) rfl (jL HZ.o)) rfl ⟨a4,(X.kids p).length,a6,rfl,by rw[hln];exact Dy.o⟩
def Fa(rb:Nat)(w:aG):Nat:=match w.cell? (aC rb 1) with|some (.slice _ n _)=>n|_=>0
theorem dR.len{w:aG}{D:Nat→Prop}{rb ab:Nat}{ps:List Part}{i:Nat}(h:dR w D rb ab ps i):Fa rb w=ps.length:=by
 obtain⟨v,e,hn⟩:=h.blk;obtain⟨ao,cap,_,_,_,_,rfl,-⟩:=hn.ex;unfold Fa;rw[aj w _ 1 _ _ _ e];rfl
theorem SF{p:Part}(h:lq p=true):JH p=pz [p]:=by
 obtain⟨k,x,rfl,-⟩:=pE h;show x.length=_;unfold pz;rw[mM,X.pb,mM,aL]
theorem lY(D:Nat→Prop)(rb ab:Nat)(ps:List Part)(i:Nat)(w:aG)(h:dR w D rb ab ps i)(hi:i+pz ps≤1073741824)(hpl:ps.length≤1073741824)(hDl:∀ q,D q→q<w.heap.size) :
  bB 44 #[aH rb] w (cK (.bool (decide (ps.dropWhile lq≠[]))) fun w'=>Hid (dR w' D rb ab (ps.dropWhile lq) (i+pz (ps.takeWhile lq))∧Kq D rb ab w w')):=by
 have ha:=h.lt.2;have H0:=aA h;clear h;go_enter func44,ntmps44;go_wp2_with fail
 go_loopw [] (fun wr=>∃(l:List Part) (k:Nat),Hid (dR wr D rb ab l k∧Kq D rb ab w wr)∧k+pz l≤1073741824∧l.length≤1073741824∧Hid (ps.dropWhile lq=l.dropWhile lq∧i+pz (ps.takeWhile lq)=k+pz (l.takeWhile lq))) (fun wr=>Fa rb wr)
 case atStart=>exact⟨ps,i,⟨H0.o,Kq.refl _ _ _ _⟩,hi,hpl,⟨rfl,rfl⟩⟩
 case round =>
  obtain⟨l,k,HI,hk,hll,HE⟩:=hrel;have hlen:=(HI.o).1.len;obtain⟨v,hb,hn⟩:=(HI.o).1.blk;have c0:=aj wr _ 0 _ _ _ hb;have c1:=aj wr _ 1 _ _ _ hb;have nP:Hid (∀ q,D q→q<wr.heap.size):=fun q hq=>aJ (hDl q hq) (HI.o).2.size
  cases l with
  | nil =>
   obtain⟨ao,cap,_,_,_,_,rfl,-⟩:=hn.ex;have HF:Hid (decide (ps.dropWhile lq≠[])=false∧dR wr D rb ab (ps.dropWhile lq) (i+pz (ps.takeWhile lq))∧Kq D rb ab w wr):=by
    obtain⟨e1,e2⟩:=HE.o;have F6:ps.dropWhile lq=[]:=e1;have e2':i+pz (ps.takeWhile lq)=k:=e2;rw[F6,e2'];exact⟨aT,HI.o⟩
   clear hb hn HE;go_wp2_with fail
   go_ret;exact⟨by rw[(HF.o).1];rfl,(HF.o).2⟩
  | cons p l =>
   obtain⟨g,o,cap,kv,rfl,hD,y0,y1,y2,y3,hkk,-,hc1,hc2,-,-⟩:=hn.head;obtain⟨a4,a6,_,_,_,_,rfl,-⟩:=hkk.ex;have i1:decide (0<l.length+1)=true:=aT
   have i2:decide (((l.length+1:Nat):Int)>0)=true:=mJ au;have i3:decide ((0:Int)<(l.length:Int)+1)=true:=mJ au;have hi1:(0:Int)<((l.length+1:Nat):Int):=au
   have hi2:0<l.length+1:=au
   rw[gF] at hk;rw[aY] at hll;cases hq:lq p with
   | true =>
    have hl:=Yd p;rw[hq] at hl;have HE2:Hid (ps.dropWhile lq=l.dropWhile lq∧i+pz (ps.takeWhile lq)=k+pz [p]+pz (l.takeWhile lq)):=by
     obtain⟨e1,e2⟩:=HE.o;rw[kY hq] at e1;rw[kX hq,gF] at e2;exact⟨e1,au⟩
    have hnl:=SF hq;have UR:Hid (∀ W,Below wr.heap.size wr W→bB 74 #[aH rb] W fun e w'=>∃ a4 a5 a6,e=.returned (.agg #[ak (nk p),ak (Dw p),.string (ba (BM p)),.slice a4 a5 a6])∧Hid (qL w' D (.slice a4 a5 a6) (X.kids p)∧dR w' D rb ab l (k+JH p)∧Kq D rb ab W w')):=fun W hW=>lN D rb ab p l k W ((HI.o).1.below hW) (by rw[hnl];omega) (fun q hq'=>aJ ((nP.o) q hq') hW.size)
    clear hb hn hkk HE;go_wp2_with fail
    refine(tJ _ _ _ _ _ _ wr).aX fun w2 k2=>?_;rw[hl];have mU:=aA k2;clear k2 hl;go_wp2_with fail
    refine((UR.o) w2 mU.o).mono ?_;rintro e w3 ⟨b4,b5,b6,rfl,H3⟩;have HR3:Hid (dR w3 D rb ab l (k+pz [p])∧Kq D rb ab w w3):=by
     obtain⟨-,z2,z3⟩:=H3.o;rw[hnl] at z2;exact⟨z2,((HI.o).2.more mU.o ha).trans z3⟩
    clear H3;have hl3:=(HR3.o).1.len;go_wp2_with fail
    exact⟨⟨l,k+pz [p],HR3,au,au,HE2⟩,by rw[hlen,hl3];simp⟩
   | false =>
    have hl:=Yd p;rw[hq] at hl;have HF:Hid (decide (ps.dropWhile lq≠[])=true∧∀ W,Below wr.heap.size wr W→dR W D rb ab (ps.dropWhile lq) (i+pz (ps.takeWhile lq))∧Kq D rb ab w W):=by
     obtain⟨e1,e2⟩:=HE.o;rw[fT (by rw[hq];simp)] at e1;rw[fq (by rw[hq];simp)] at e2;have e2':i+pz (ps.takeWhile lq)=k:=e2;rw[e1,e2'];exact⟨aT,fun W hW=>⟨(HI.o).1.below hW,(HI.o).2.more hW ha⟩⟩
    clear hb hn hkk HE;go_wp2_with fail
    refine(tJ _ _ _ _ _ _ wr).aX fun w2 k2=>?_;rw[hl];have d1:=(Kp.aN k2 (fun _=>False)).dD c1 id;have mU:=aA k2;clear k2 hl;go_wp2_with fail
    go_ret;exact⟨by rw[(HF.o).1];rfl,(HF.o).2 _ mU.o⟩
end
section
open Tryz
open X
variable{fn:Func}{t:Tmp}{b:Nat}
namespace X
structure OO(t qs:List Part)(p:Part):Prop where
 eq:t=qs++[p]
 qu:∀ q∈qs,lq q=true
 ne:lq p=false
 ln:JH p=pz [p]
theorem vH.BN{t:List Part}{k:Nat}{x:ah}{qs:List Part}(h:vH t k x qs):OO t qs (.leaf k x):=⟨h.eq,h.qu,by have:=h.ne;show(k==1||k==2)=false;simp;omega,(ji k x).symm⟩
theorem sj.BN{t:List Part}(h:sj t):∃ qs p,OO t qs p:=by
 rcases h with ⟨k,x,qs,h⟩|⟨m,rfl⟩
 ·exact⟨qs,_,h.BN⟩
 ·exact⟨[],.miss m,rfl,fun q hq=>(by cases hq),rfl,rfl⟩
theorem vw:∀ {qs:List Part} {p:Part} {ps:List Part},(∀ q∈qs,lq q=true)→lq p=false→(qs++p::ps).dropWhile lq=p::ps∧(qs++p::ps).takeWhile lq=qs
 | [],p,ps,_,hp=>⟨by rw[bM,fT (by rw[hp];simp)],by rw[bM,fq (by rw[hp];simp)]⟩
 | q::qs,p,ps,h,hp=>by
  have hq:=h q aT;obtain⟨h1,h2⟩:=vw (ps:=ps) (fun q' hq'=>h q' (eX _ hq')) hp;rw[fM,kY hq,kX hq,h1,h2];exact⟨rfl,rfl⟩
theorem OO.drop{t qs:List Part}{p:Part}(h:OO t qs p)(ps:List Part):(t++ps).dropWhile lq=p::ps∧(t++ps).takeWhile lq=qs:=by
 rw[h.eq,aK];exact vw h.qu h.ne
end X
theorem iN(D:Nat→Prop)(rb ab:Nat)(t qs:List Part)(p:Part)(ps:List Part)(i:Nat)(w:aG)(h:dR w D rb ab (t++ps) i)(ht:OO t qs p)(hi:i+pz (t++ps)≤1073741824)(hpl:(t++ps).length≤1073741824)(hDl:∀ q,D q→q<w.heap.size) :
  bB 77 #[aH rb] w fun e w'=>∃ a4 a5 a6,e=.returned (.agg #[ak (nk p),ak (Dw p),.string (ba (BM p)),.slice a4 a5 a6])∧Hid (dR w' D rb ab ps (i+pz t)∧Kq D rb ab w w'):=by
 obtain⟨hr,ha⟩:=h.lt;have kA:Below w.heap.size w (w.alloc (.cells #[ak 0,ak 0,.string ⟨#[]⟩,.slice none 0 0] 116)):=(aB _ w).alloc (ax _) _;have HZ:Hid ((w.alloc (.cells #[ak 0,ak 0,.string ⟨#[]⟩,.slice none 0 0] 116)).heap[w.heap.size]?=some (.cells #[ak 0,ak 0,.string ⟨#[]⟩,.slice none 0 0] 116 (0,0))):=aI w _;have HM:=aA (lY D rb ab (t++ps) i _ (h.below kA) hi hpl (fun q hq=>aJ (hDl q hq) kA.size));have hd:=ht.drop ps;rw[hd.1,hd.2] at HM;have lV:=aA kA;have hpz:pz t=pz qs+pz [p]:=by rw[ht.eq,bZ]
 have hln:=ht.ln;rw[bZ] at hi;clear h kA hd;go_enter func77,ntmps77;go_wp2_with fail
 refine(HM.o).aX fun w2 H2=>?_;have SG:∀ q,D q→q<w2.heap.size:=fun q hq=>aJ (hDl q hq) (dI (lV.o).size (H2.o).2.size)
 have HZ2:Hid (w2.heap[w.heap.size]?=_):=(H2.o).2.new hr ha HZ.o aS;have mU:=aA <| (Kq.aN lV.o ha).trans (H2.o).2;have HL:=aA (lN D rb ab p ps (i+pz qs) w2 (H2.o).1 au SG);clear HM lV H2 HZ;go_wp2_with fail
 refine(HL.o).mono ?_;rintro e w3 ⟨a4,a5,a6,rfl,H3⟩;have hZ3:=(H3.o).2.2.new hr ha HZ2.o aS;have HZ3:=aA hZ3;have qz:=aA <| (mU.o).trans (H3.o).2.2;have HR3:=aA (H3.o).2.1;have e0:=aj w3 _ 0 _ _ _ hZ3;have e1:=aj w3 _ 1 _ _ _ hZ3;have e2:=aj w3 _ 2 _ _ _ hZ3;have e3:=aj w3 _ 3 _ _ _ hZ3;have q0:w3.frozen? (aC w.heap.size 0)=false:=dO hZ3
 have q1:w3.frozen? (aC w.heap.size 1)=false:=dO hZ3
 have q2:w3.frozen? (aC w.heap.size 2)=false:=dO hZ3
 have q3:w3.frozen? (aC w.heap.size 3)=false:=dO hZ3
 clear HL mU HZ2 H3 hZ3;go_wp2_with fail
 refine aW (wI rfl _ _ (b:=w.heap.size) rfl (jL HZ3.o)) rfl ⟨a4,a5,a6,rfl,?_⟩;have hkf:=Kq.wH qz.o ha (ax _) (ak (nk p)) (ak (Dw p)) (.string (ba (BM p))) (.slice a4 a5 a6);have hk4:Kp (fun q=>q=w.heap.size) w3 ((((w3.setCell (aC w.heap.size 0) (ak (nk p))).setCell (aC w.heap.size 1) (ak (Dw p))).setCell (aC w.heap.size 2) (.string (ba (BM p)))).setCell (aC w.heap.size 3) (.slice a4 a5 a6)):=On.set (On.set (On.set (On.set (Kp.refl _ w3) 0 _) 1 _) 2 _) 3 _;refine⟨?_,hkf⟩;have hR:=(HR3.o).on hk4 HZ3.o aS au au (fun hd=>by have:=hDl _ hd;omega);rw[hln] at hR;rw[hpz,← fK];exact hR
theorem Wz(h:fn.results=#[.cell t 119])(tmps:Array Value)(W:aG){a1:Option Addr}{a4:Option Addr}{a5 a6:Nat}(ht:tmps[t]?.getD undef=aH b)(hb:W.heap[b]?=some (.cells #[.pointer a1,.slice a4 a5 a6] 119 (0,0))) :
  (results fn tmps).run prog W=.ok (.agg #[.pointer a1,.slice a4 a5 a6]) W:=by
 have m0:=aj W _ 0 _ _ _ hb;have m1:=aj W _ 1 _ _ _ hb;simp[results,h,go_sem,ht,m0,m1]
theorem tK(h:fn.results=#[.cell t 163])(tmps:Array Value)(W:aG){x:ByteArray}{n:Int}(ht:tmps[t]?.getD undef=aH b)(hb:W.heap[b]?=some (.cells #[.string x,ak n] 163 (0,0))) :
  (results fn tmps).run prog W=.ok (.agg #[.string x,ak n]) W:=by
 have m0:=aj W _ 0 _ _ _ hb;have m1:=aj W _ 1 _ _ _ hb;simp[results,h,go_sem,ht,m0,m1]
theorem Ic{W:aG}{x0 x1 y0 y1:Value}{t:TypeId}(h:W.heap[b]?=some (.cells #[y0,y1] t (0,0))):((W.setCell (aC b 0) x0).setCell (aC b 1) x1).heap[b]?=some (.cells #[x0,x1] t (0,0)):=by
 simp[World.setCell,aZ,h]
end
end Go.Proofs.YtoohcklcppnafaaGreatDoor
