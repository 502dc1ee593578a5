/- Package syntax: what stands ahead of a row is counted in a block of its own;a row;what a reader may turn. -/
import Derived.Test.YtbmebfgapjhchaaGreatDoorVa
import Derived.Test.YtbmebfgapjhchaaGreatDoorWzw
import Derived.Deep.AppendLies
import Derived.Deep.CutBlock
import Derived.Deep.DeepCutAuto
import Derived.Deep.RegionHeld3
namespace Go.Proofs.YtbmebfgapjhchaaGreatDoor
open Go.RowKit
open M
def nbg (ab:Nat) (w:World):Nat:=match w.cell? ⟨ab,1,none⟩ with|some (.slice _ n _)=>n|_=>0
structure Psd (w:World) (D:Nat→Prop) (ab i:Nat):Prop where
 ex:∃ (bv:Value) (bl:List Int) (en gp:Int),w.heap[ab]?=some (.cells #[.int .i64 i,bv,.int .i64 en,.int .i64 gp] 117 (0,0))∧w.ownsRow (ab+1) 3 1 bv bl.length (bl.map (Value.int .i64))∧bl.length≤i∧∀ q,bv.ownBlock=some q→¬ D q
theorem owns_slice {w:World} {B:Nat} {T:TypeId} {k:Nat} {v:Value} {n:Nat} {xs:List Value} (h:w.ownsRow B T k v n xs):∃ o c,v=.slice o n c∧n≤maxLen:=by
 rcases h.2 with ⟨rfl,rfl⟩|⟨g,cap,cur,rfl,-,-,h1,h2,-⟩
 ·exact ⟨none,0,rfl,Nat.zero_le _⟩
 ·exact ⟨_,cap,rfl,by omega⟩
theorem owns_typed {w:World} {B:Nat} {T:TypeId} {k:Nat} {v:Value} {n:Nat} {xs:List Value} (h:w.ownsRow B T k v n xs) {q:Nat} (hq:v.ownBlock=some q):B≤q∧∃ c f,w.heap[q]?=some (.cells c T f):=by
 rcases h.2 with ⟨rfl,-⟩|⟨g,cap,cur,rfl,hge,hg,-⟩
 ·cases hq
 ·obtain rfl:g=q:=by simpa [Value.ownBlock] using hq
  exact ⟨hge,cur,_,hg⟩
theorem nbg_of {w:World} {ab:Nat} {a b c:Value} {o:Option Addr} {n m:Nat} {t:TypeId} {f:Nat × Nat} (h:w.heap[ab]?=some (.cells #[a,.slice o n m,b,c] t f)):nbg ab w=n:=by
 unfold nbg
 rw [cell_of_row w _ 1 _ _ _ h];rfl
def Sw (w:World) (D:Nat→Prop) (rb ab q:Nat):Prop:=q=rb∨q=ab∨(ab<q∧¬ D q∧∃ c f,w.heap[q]?=some (.cells c 3 f))
structure Kq (D:Nat→Prop) (rb ab:Nat) (w w':World):Prop where
 kp:Kp (Sw w D rb ab) w w'
 le:nbg ab w≤nbg ab w'
theorem Kq.size {D:Nat→Prop} {rb ab:Nat} {w w':World} (h:Kq D rb ab w w'):w.heap.size≤w'.heap.size:=h.kp.size
theorem Kq.refl (D:Nat→Prop) (rb ab:Nat) (w:World):Kq D rb ab w w:=⟨Kp.refl _ _,Nat.le_refl _⟩
theorem Kq.trans {D:Nat→Prop} {rb ab:Nat} {w w1 w2:World} (h:Kq D rb ab w w1) (k:Kq D rb ab w1 w2):Kq D rb ab w w2 :=
 ⟨Kp.trans h.kp k.kp (fun q hq e=>by
  rcases e with e|e|⟨e,e1,c,f,hc⟩
  ·exact .inl e
  ·exact .inr (.inl e)
  ·by_cases hs:Sw w D rb ab q
   ·exact hs
   ·exact .inr (.inr ⟨e,e1,c,f,by rw [← h.kp.block q hq hs];exact hc⟩)),Nat.le_trans h.le k.le⟩
theorem nbg_kp {S:Nat→Prop} {w w':World} {ab:Nat} (k:Kp S w w') (ha:ab<w.heap.size) (h:¬ S ab):nbg ab w'=nbg ab w:=by
 unfold nbg
 rw [k.cell (p:=⟨ab,1,none⟩) ha h]
theorem Kq.ofKp {S:Nat→Prop} {D:Nat→Prop} {rb ab:Nat} {w w':World} (k:Kp S w w') (ha:ab<w.heap.size) (h:∀ q,q<w.heap.size→¬ S q):Kq D rb ab w w':=⟨k.mono (fun q hq e=>absurd e (h q hq)),Nat.le_of_eq (nbg_kp k ha (h _ ha)).symm⟩
theorem Kq.ofBelow {D:Nat→Prop} {rb ab:Nat} {w w':World} (k:Below w.heap.size w w') (ha:ab<w.heap.size):Kq D rb ab w w':=Kq.ofKp (Kp.ofBelow k (fun _=>False)) ha (fun _ _=>id)
theorem Kq.set {D:Nat→Prop} {rb ab:Nat} {w W:World} (h:Kq D rb ab w W) (ha:ab<w.heap.size) {b:Nat} (hb:w.heap.size≤b) (k:Nat) (v:Value):Kq D rb ab w (W.setCell ⟨b,k,none⟩ v) :=
 ⟨Kp.setCell (p:=⟨b,k,none⟩) h.kp (fun e=>absurd e (by simpa using hb)) v,by
  refine Nat.le_trans h.le (Nat.le_of_eq (nbg_kp (S:=fun q=>q=b) (On.set (Kp.refl _ W) k v) (Nat.lt_of_lt_of_le ha h.size) ?_).symm)
  omega⟩
theorem Kq.inner {D:Nat→Prop} {rb kb ab:Nat} {w W W':World} (h:Kq D rb ab w W) (k:Kq D kb ab W W') (hk:w.heap.size≤kb):Kq D rb ab w W' :=
 ⟨Kp.trans h.kp k.kp (fun q hq e=>by
  rcases e with e|e|⟨e,e1,c,f,hc⟩
  ·omega
  ·exact .inr (.inl e)
  ·by_cases hs:Sw w D rb ab q
   ·exact hs
   ·exact .inr (.inr ⟨e,e1,c,f,by rw [← h.kp.block q hq hs];exact hc⟩)),Nat.le_trans h.le k.le⟩
theorem sw_not {w:World} {D:Nat→Prop} {rb ab b:Nat} {c:Array Value} {T:TypeId} {f:Nat × Nat} (h:w.heap[b]?=some (.cells c T f)) (hT:T≠3) (h1:b≠rb) (h2:b≠ab):¬ Sw w D rb ab b:=fun e=>by
 rcases e with e|e|⟨-,-,c',f',e⟩
 ·exact h1 e
 ·exact h2 e
 ·rw [h] at e
  injection e with e
  injection e with e1 e2
  exact hT e2
theorem Kq.heap {D:Nat→Prop} {rb ab:Nat} {w w':World} (k:Kq D rb ab w w') {b:Nat} {c:Array Value} {T:TypeId} {f:Nat × Nat} (h:w.heap[b]?=some (.cells c T f)) (hT:T≠3) (h1:b≠rb) (h2:b≠ab):w'.heap[b]?=some (.cells c T f):=k.kp.heap h (sw_not h hT h1 h2)
theorem Kq.owns {D:Nat→Prop} {rb ab:Nat} {w w':World} (k:Kq D rb ab w w') {B:Nat} {T:TypeId} {m:Nat} {v:Value} {n:Nat} {xs:List Value} (h:w.ownsRow B T m v n xs) (hT:T≠3) (h1:∀ g,v.ownBlock=some g→g≠rb∧g≠ab):w'.ownsRow B T m v n xs :=
 k.kp.owns h (fun q hq=>by
  obtain ⟨-,c,f,hc⟩:=owns_typed h hq
  exact sw_not hc hT (h1 q hq).1 (h1 q hq).2)
theorem Kq.nds {D:Nat→Prop} {rb ab:Nat} {w w':World} (k:Kq D rb ab w w') {v:Value} {ps:List X.Part} (h:NdS w D v ps) (h1:¬ D rb) (h2:¬ D ab):NdS w' D v ps:=h.keep k.kp (fun q hq e=>by
 rcases e with e|e|⟨-,e,-⟩
 ·exact h1 (e ▸ hq)
 ·exact h2 (e ▸ hq)
 ·exact e hq)
theorem Psd.keep {S:Nat→Prop} {w w':World} {D:Nat→Prop} {ab i:Nat} (h:Psd w D ab i) (k:Kp S w w') (h1:¬ S ab) (h2:∀ q c f,ab<q→w.heap[q]?=some (.cells c 3 f)→¬ S q):Psd w' D ab i:=by
 obtain ⟨bv,bl,en,gp,hb,ho,hn,hd⟩:=h.ex
 refine ⟨bv,bl,en,gp,k.heap hb h1,k.owns ho (fun q hq=>?_),hn,hd⟩
 obtain ⟨hge,c,f,hc⟩:=owns_typed ho hq
 exact h2 q c f (by omega) hc
theorem Psd.below {w w':World} {D:Nat→Prop} {ab i:Nat} (h:Psd w D ab i) (k:Below w.heap.size w w'):Psd w' D ab i:=h.keep (Kp.ofBelow k (fun _=>False)) id (fun _ _ _ _ _=>id)
theorem Psd.lt {w:World} {D:Nat→Prop} {ab i:Nat} (h:Psd w D ab i):ab<w.heap.size:=by
 obtain ⟨bv,bl,en,gp,hb,-⟩:=h.ex
 exact heap_lt hb
structure IsRw (w:World) (D:Nat→Prop) (rb ab:Nat) (ps:List X.Part) (i:Nat):Prop where
 blk:∃ v,w.heap[rb]?=some (.cells #[.pointer (some ⟨ab,0,none⟩),v] 123 (0,0))∧NdS w D v ps
 psd:Psd w D ab i
 sep:rb≠ab∧¬ D rb∧¬ D ab
 byt:X.Gd ps
theorem IsRw.lt {w:World} {D:Nat→Prop} {rb ab:Nat} {ps:List X.Part} {i:Nat} (h:IsRw w D rb ab ps i):rb<w.heap.size∧ab<w.heap.size:=by
 obtain ⟨v,e,-⟩:=h.blk
 exact ⟨heap_lt e,h.psd.lt⟩
theorem IsRw.keep {S:Nat→Prop} {w w':World} {D:Nat→Prop} {rb ab:Nat} {ps:List X.Part} {i:Nat} (h:IsRw w D rb ab ps i) (hk:Kp S w w') (h1:¬ S rb) (h2:¬ S ab) (hD:∀ q,D q→¬ S q) (hI:∀ q c f,ab<q→w.heap[q]?=some (.cells c 3 f)→¬ S q):IsRw w' D rb ab ps i:=by
 obtain ⟨v,e,hn⟩:=h.blk
 exact ⟨⟨v,hk.heap e h1,hn.keep hk hD⟩,h.psd.keep hk h2 hI,h.sep,h.byt⟩
theorem IsRw.below {w w':World} {D:Nat→Prop} {rb ab:Nat} {ps:List X.Part} {i:Nat} (h:IsRw w D rb ab ps i) (hk:Below w.heap.size w w'):IsRw w' D rb ab ps i:=h.keep (Kp.ofBelow hk (fun _=>False)) id id (fun _ _=>id) (fun _ _ _ _ _=>id)
theorem IsRw.on {w w':World} {D:Nat→Prop} {rb ab:Nat} {ps:List X.Part} {i:Nat} (h:IsRw w D rb ab ps i) {b:Nat} (hk:Kp (fun q=>q=b) w w') {c:Array Value} {T:TypeId} {f:Nat × Nat} (hb:w.heap[b]?=some (.cells c T f)) (hT:T≠3) (h1:rb≠b) (h2:ab≠b) (hD:¬ D b):IsRw w' D rb ab ps i :=
 h.keep hk h1 h2 (fun q hq e=>hD (e ▸ hq)) (fun q c' f' _ e e'=>by
  subst e'
  rw [hb] at e
  injection e with e
  injection e with e1 e2
  exact hT e2)
theorem IsRw.other {w w':World} {D:Nat→Prop} {rb kb ab:Nat} {ps qs:List X.Part} {i j:Nat} (h:IsRw w D rb ab ps i) (k:Kq D kb ab w w') (hk:IsRw w' D kb ab qs j) (hn:rb≠kb):IsRw w' D rb ab ps j:=by
 obtain ⟨v,e,hv⟩:=h.blk
 exact ⟨⟨v,k.heap e (by decide) hn h.sep.1,k.nds hv hk.sep.2.1 hk.sep.2.2⟩,hk.psd,h.sep,h.byt⟩
theorem Kq.new {D:Nat→Prop} {w W W':World} {rb ab:Nat} (hk:Kq D rb ab W W') (h1:rb<w.heap.size) (h2:ab<w.heap.size) {c:Array Value} {T:TypeId} {f:Nat × Nat} (h:W.heap[w.heap.size]?=some (.cells c T f)) (hT:T≠3):W'.heap[w.heap.size]?=some (.cells c T f):=hk.heap h hT (by omega) (by omega)
theorem Kq.made {D:Nat→Prop} {w W W':World} {rb ab:Nat} (hk:Kq D rb ab W W') (h1:rb<w.heap.size) (h2:ab<w.heap.size) {b:Nat} (hb:w.heap.size≤b) {c:Array Value} {T:TypeId} {f:Nat × Nat} (h:W.heap[b]?=some (.cells c T f)) (hT:T≠3):W'.heap[b]?=some (.cells c T f):=hk.heap h hT (by omega) (by omega)
theorem Kq.more {D:Nat→Prop} {rb ab:Nat} {w W W':World} (h:Kq D rb ab w W) (k:Below W.heap.size W W') (ha:ab<w.heap.size):Kq D rb ab w W':=h.trans (Kq.ofBelow k (Nat.lt_of_lt_of_le ha h.size))
theorem Kq.over {S:Nat→Prop} {D:Nat→Prop} {rb ab:Nat} {w W W':World} (h:Kq D rb ab w W) (k:Kp S W W') (ha:ab<w.heap.size) (hS:∀ q,q<w.heap.size→¬ S q):Kq D rb ab w W':=⟨Kp.trans h.kp k (fun q hq e=>absurd e (hS q hq)),Nat.le_trans h.le (Nat.le_of_eq (nbg_kp k (Nat.lt_of_lt_of_le ha h.size) (hS _ ha)).symm)⟩
theorem not_int {w:World} {b:Nat} {c:Array Value} {T:TypeId} {f:Nat × Nat} (h:w.heap[b]?=some (.cells c T f)) (hT:T≠3):¬ ∃ c' f',w.heap[b]?=some (.cells c' 3 f'):=fun ⟨c',f',e⟩=>by
 rw [h] at e
 injection e with e
 injection e with e1 e2
 exact hT e2
theorem Sw.int {w:World} {D:Nat→Prop} {rb ab lo:Nat} (h1:rb<lo) (h2:ab<lo) {i:Nat} (hi:lo≤i) (h:Sw w D rb ab i):∃ c f,w.heap[i]?=some (.cells c 3 f):=by
 rcases h with e|e|⟨-,-,e⟩
 ·omega
 ·omega
 ·exact e
theorem Kq.wide {D:Nat→Prop} {rb ab:Nat} {w w':World} (h:Kq D ab ab w w'):Kq D rb ab w w':=⟨h.kp.mono (fun q _ e=>by
 rcases e with e|e|e
 ·exact .inr (.inl e)
 ·exact .inr (.inl e)
 ·exact .inr (.inr e)),h.le⟩
theorem Kq.set2 {D:Nat→Prop} {rb ab:Nat} {w W:World} (h:Kq D rb ab w W) (ha:ab<w.heap.size) {b:Nat} (hb:w.heap.size≤b) (x0 x1:Value):Kq D rb ab w ((W.setCell ⟨b,0,none⟩ x0).setCell ⟨b,1,none⟩ x1):=(h.set ha hb 0 x0).set ha hb 1 x1
theorem Kq.set4 {D:Nat→Prop} {rb ab:Nat} {w W:World} (h:Kq D rb ab w W) (ha:ab<w.heap.size) {b:Nat} (hb:w.heap.size≤b) (x0 x1 x2 x3:Value):Kq D rb ab w ((((W.setCell ⟨b,0,none⟩ x0).setCell ⟨b,1,none⟩ x1).setCell ⟨b,2,none⟩ x2).setCell ⟨b,3,none⟩ x3):=(((h.set ha hb 0 x0).set ha hb 1 x1).set ha hb 2 x2).set ha hb 3 x3
end Go.Proofs.YtbmebfgapjhchaaGreatDoor
/- Package syntax,at the code since bcf6f60: a token is counted. -/
namespace Go.Proofs.YtbmebfgapjhchaaGreatDoor
open Go.RowKit
open M
theorem infoI:(Tryz.prog.info? 3).map (fun i=>(i.zero,i.size,i.bytes))=some (some (.int .i64 0),1,8):=by kernel_rfl
theorem infoF {f:Option TypeInfo} {z:Value} {n m:Nat} (h:f.map (fun i=>(i.zero,i.size,i.bytes))=some (some z,n,m)):∃ i,f=some i∧i.zero=some z∧i.size=n∧i.bytes=m:=by
 cases f with
 | none=>cases h
 | some i =>
  simp only [Option.map_some,Option.some.injEq,Prod.mk.injEq] at h
  exact ⟨i,rfl,h.1,h.2.1,h.2.2⟩
theorem setB {W:World} {b:Nat} {vs:Array Value} {ty:TypeId} (h:W.heap[b]?=some (.cells vs ty (0,0))) (k:Nat) (v:Value):(W.setCell ⟨b,k,none⟩ v).heap[b]?=some (.cells (vs.setIfInBounds k v) ty (0,0)):=by simp [World.setCell,Array.getElem?_modify,h]
theorem frzB {W:World} {b:Nat} {c:Array Value} {t:TypeId} (h:W.heap[b]?=some (.cells c t (0,0))) (k:Nat):W.frozen? ⟨b,k,none⟩=false:=by simp [World.frozen?,h]
theorem z10 {z:Nat} (h:(z==10)=true):z=10:=by simpa using h
set_option maxRecDepth 100000 in
set_option maxHeartbeats 4000000 in
theorem pcount_any (ab i tk:Nat) (x:ByteArray) (a4:Option Addr) (a5 a6:Nat) (w:World) (D:Nat→Prop) (h:Psd w D ab i) (hi:i+x.size≤1073741824) (hx:0<x.size) (hDl:∀ q,D q→q<w.heap.size) :
  Calls Tryz.prog 95 #[.pointer (some ⟨ab,0,none⟩),.agg #[.int .i64 0,.int .i64 tk,.string x,.slice a4 a5 a6]] w fun e w'=>e=.returned (.tuple #[])∧Hid (Psd w' D ab (i+x.size)∧Kq D ab ab w w'):=by
 obtain ⟨bv,bl,en,gp,hb,ho,hn,hbD⟩:=h.ex
 clear h
 obtain ⟨bo,bc,hbv,-⟩:=owns_slice ho
 have hn0:Hid (nbg ab w=bl.length):=by
  rw [hbv] at hb
  exact nbg_of hb
 have HBv:=hide hbv
 clear hbv
 generalize hxs:bl.map (Value.int .i64)=xs at *
 generalize hnn:bl.length=n at *
 have HXs:=hide hxs
 have HNn:=hide hnn
 clear hxs hnn
 have HBD:=hide hbD
 have HDl:=hide hDl
 clear hbD hDl
 have k0:Below w.heap.size w (w.alloc (.cells #[.int .i64 0,.int .i64 tk,.string x,.slice a4 a5 a6] 120)):=(Below.refl _ w).alloc (Nat.le_refl _) _
 have hN:=heap_alloc_new w (.cells #[.int .i64 0,.int .i64 tk,.string x,.slice a4 a5 a6] 120)
 have q0:=Kp.ofBelow k0 (fun _=>False)
 have hb0:=q0.heap hb id
 have ho0:=q0.owns ho (fun _ _=>id)
 have hal:=heap_lt hb
 have K0:=hide (Kp.ofBelow k0 (Sw w D ab ab))
 clear k0 q0
 go_enter Tryz.func95,Tryz.ntmps95
 go_upto_region 1 with fail
 generalize hW:w.alloc (.cells #[.int .i64 0,.int .i64 tk,.string x,.slice a4 a5 a6] 120)=w1 at *
 generalize hB:w.heap.size=B at hN ⊢
 have c0:=cell_of_row w1 _ 0 _ _ _ hb0
 have n2:=cell_of_row w1 _ 2 _ _ _ hN
 have f0:=frzB hb0 0
 go_wp2_with fail
 refine wpZ_start (S:=fun w'=>w'.cell? ⟨ab,0,none⟩=some (.int .i64 i)∧w'.cell? ⟨B,2,none⟩=some (.string x)) (Z:=fun j=>j==10) (by kernel_rfl) ?_
 have hS:w1.drew.cell? ⟨ab,0,none⟩=some (.int .i64 i)∧w1.drew.cell? ⟨B,2,none⟩=some (.string x):=⟨c0,n2⟩
 have hb1:w1.drew.heap[ab]?=some (.cells #[.int .i64 i,bv,.int .i64 en,.int .i64 gp] 117 (0,0)):=hb0
 have hN1:w1.drew.heap[B]?=some (.cells #[.int .i64 0,.int .i64 tk,.string x,.slice a4 a5 a6] 120 (0,0)):=hN
 have ho1:w1.drew.ownsRow (ab+1) 3 1 bv n xs:=ho0.drew
 have K1:=hide ((K0.out).drew)
 clear c0 n2 f0 hb0 hN ho0 K0 hW
 generalize w1.drew=w2 at *
 have f0:=frzB hb1 0
 refine wpZ_take (i:=0) (dn:=9) (v:=?_) rfl rfl (by kernel_rfl) (fun z hz=>by obtain rfl:=z10 hz;kernel_rfl) (by kernel_rfl) (by kernel_rfl) (fun _ _ _ h=>h) (Or.inl ⟨by rfl,?_⟩) hS ?_
 rotate_left
 ·(intro wx hSw;(try dsimp only at hSw);obtain ⟨hSw1,hSw2⟩:=hSw;go_simp;try (with_reducible rfl))
 simp only [Act.put,List.setIfInBounds_toArray,List.set_cons_zero,List.set_cons_succ]
 refine wpZ_take (i:=1) (dn:=10) (v:=?_) rfl rfl (by kernel_rfl) (fun z hz=>by obtain rfl:=z10 hz;kernel_rfl) (by kernel_rfl) (by kernel_rfl) (fun _ _ _ h=>h) (Or.inl ⟨by rfl,?_⟩) hS ?_
 rotate_left
 ·(intro wx hSw;(try dsimp only at hSw);obtain ⟨hSw1,hSw2⟩:=hSw;go_simp;try (with_reducible rfl))
 simp only [Act.put,List.setIfInBounds_toArray,List.set_cons_zero,List.set_cons_succ]
 refine wpZ_take (i:=2) (dn:=11) (v:=?_) rfl rfl (by kernel_rfl) (fun z hz=>by obtain rfl:=z10 hz;kernel_rfl) (by kernel_rfl) (by kernel_rfl) (fun _ _ _ h=>h) (Or.inl ⟨by rfl,?_⟩) hS ?_
 rotate_left
 ·(intro wx hSw;(try dsimp only at hSw);obtain ⟨hSw1,hSw2⟩:=hSw;go_simp;try (with_reducible rfl))
 simp only [Act.put,List.setIfInBounds_toArray,List.set_cons_zero,List.set_cons_succ]
 refine wpZ_take (i:=3) (dn:=12) (v:=?_) rfl rfl (by kernel_rfl) (fun z hz=>by obtain rfl:=z10 hz;kernel_rfl) (by kernel_rfl) (by kernel_rfl) (fun _ _ _ h=>h) (Or.inl ⟨by rfl,?_⟩) hS ?_
 rotate_left
 ·(intro wx hSw;(try dsimp only at hSw);obtain ⟨hSw1,hSw2⟩:=hSw;go_simp;try (with_reducible rfl))
 simp only [Act.put,List.setIfInBounds_toArray,List.set_cons_zero,List.set_cons_succ]
 refine wpZ_take (i:=4) (dn:=13) (v:=?_) rfl rfl (by kernel_rfl) (fun z hz=>by obtain rfl:=z10 hz;kernel_rfl) (by kernel_rfl) (by kernel_rfl) (fun _ _ _ h=>h) (Or.inl ⟨by rfl,?_⟩) hS ?_
 rotate_left
 ·(intro wx hSw;(try dsimp only at hSw);obtain ⟨hSw1,hSw2⟩:=hSw;go_simp;try (with_reducible rfl))
 simp only [Act.put,List.setIfInBounds_toArray,List.set_cons_zero,List.set_cons_succ]
 refine wpZ_take (i:=5) (dn:=14) (v:=?_) rfl rfl (by kernel_rfl) (fun z hz=>by obtain rfl:=z10 hz;kernel_rfl) (by kernel_rfl) (by kernel_rfl) (fun _ _ _ h=>h) (Or.inl ⟨by rfl,?_⟩) hS ?_
 rotate_left
 ·(intro wx hSw;(try dsimp only at hSw);obtain ⟨hSw1,hSw2⟩:=hSw;go_simp;try (with_reducible rfl))
 simp only [Act.put,List.setIfInBounds_toArray,List.set_cons_zero,List.set_cons_succ]
 refine wpZ_take (i:=6) (dn:=15) (v:=?_) rfl rfl (by kernel_rfl) (fun z hz=>by obtain rfl:=z10 hz;kernel_rfl) (by kernel_rfl) (by kernel_rfl) (fun _ _ _ h=>h) (Or.inl ⟨by rfl,?_⟩) hS ?_
 rotate_left
 ·(intro wx hSw;(try dsimp only at hSw);obtain ⟨hSw1,hSw2⟩:=hSw;go_simp;try (with_reducible rfl))
 simp only [Act.put,List.setIfInBounds_toArray,List.set_cons_zero,List.set_cons_succ]
 refine wpZ_take (i:=7) (dn:=16) (v:=?_) rfl rfl (by kernel_rfl) (fun z hz=>by obtain rfl:=z10 hz;kernel_rfl) (by kernel_rfl) (by kernel_rfl) (fun _ _ _ h=>h) (Or.inl ⟨by rfl,?_⟩) hS ?_
 rotate_left
 ·(intro wx hSw;(try dsimp only at hSw);obtain ⟨hSw1,hSw2⟩:=hSw;go_simp;try (with_reducible rfl))
 simp only [Act.put,List.setIfInBounds_toArray,List.set_cons_zero,List.set_cons_succ]
 refine wpZ_one (i:=8) (by kernel_rfl) rfl (fun K' hK'=>?_)
 go_simp
 refine hK'.out _ _ (fun _=>hS) (fun _=>?_)
 clear hK' K'
 refine wpZ_one (i:=9) (by kernel_rfl) rfl (fun K' hK'=>?_)
 go_simp
 refine hK'.out _ _ (fun _=>hS) (fun _=>?_)
 clear hK' K'
 refine wpZ_one (i:=10) (by kernel_rfl) rfl (fun K' hK'=>?_)
 go_simp
 refine hK'.out _ _ (fun h=>absurd h (by decide)) (fun _=>wpZ_end (by kernel_rfl) ?_)
 clear hK' K'
 have hwr:IntKind.i64.wrap ((i:Int)+(x.size:Int))=((i+x.size:Nat):Int):=by
  rw [IntKind.wrap_i64];omega
 rw [hwr]
 have hBa:¬ ab=B:=by omega
 have kS:Kp (fun q=>q=ab) w2 (w2.setCell ⟨ab,0,none⟩ (.int .i64 ((i+x.size:Nat):Int))):=Kp.setCell (S:=fun q=>q=ab) (p:=⟨ab,0,none⟩) (Kp.refl _ w2) (fun _=>rfl) _
 have hb3:=setB hb1 0 (.int .i64 ((i+x.size:Nat):Int))
 have hN3:=kS.heap hN1 (fun e=>hBa e.symm)
 have hag:∀ q,bv.ownBlock=some q→q≠ab:=fun q hq e=>by
  rcases ho1.2 with ⟨rfl,-⟩|⟨g,cap,cur,rfl,hge,-⟩
  ·cases hq
  ·obtain rfl:g=q:=by simpa [Value.ownBlock] using hq
   omega
 have ho3:=kS.owns ho1 (fun q hq e=>hag q hq e)
 have K3:=hide (Kp.trans (K1.out) kS (fun q _ e=>.inl e))
 clear kS hb1 hN1 ho1 K1 hwr f0 hS hb ho
 generalize w2.setCell ⟨ab,0,none⟩ (.int .i64 ((i+x.size:Nat):Int))=w3 at *
 have hb3':w3.heap[ab]?=some (.cells #[.int .i64 ((i+x.size:Nat):Int),bv,.int .i64 en,.int .i64 gp] 117 (0,0)):=by simpa using hb3
 clear hb3
 have m0:=cell_of_row w3 _ 0 _ _ _ hN3
 have m1:=cell_of_row w3 _ 1 _ _ _ hN3
 have m2:=cell_of_row w3 _ 2 _ _ _ hN3
 have m3:=cell_of_row w3 _ 3 _ _ _ hN3
 go_wp2_with fail
 refine (syQuiet_any 0 tk x a4 a5 a6 _).mono ?_
 rintro e w4 ⟨rfl,k4⟩
 have q4:=Kp.ofBelow k4 (fun _=>False)
 have hb4:=q4.heap hb3' id
 have ho4:=q4.owns ho3 (fun _ _=>id)
 have K4:=hide (Kp.trans (K3.out) q4 (fun _ _ e=>e.elim))
 have hs4:=(K4.out).size
 clear m0 m1 m2 m3 q4 k4 hb3' ho3 K3 hN3
 by_cases hq:(tk==1||tk==2)=true
 ·rw [show ((0:Nat)==0&&(tk==1||tk==2))=true by rw [hq];rfl]
  clear hq
  go_wp2_with fail
  go_end0
  have hq4:nbg ab w4=n:=by
   rw [HBv.out] at hb4
   exact nbg_of hb4
  refine ⟨rfl,⟨bv,bl,en,gp,hb4,by rw [HXs.out,HNn.out];exact ho4,by have:=HNn.out;omega,HBD.out⟩,K4.out,?_⟩
  have h1:=hn0.out
  omega
 ·rw [show ((0:Nat)==0&&(tk==1||tk==2))=false by simpa using hq]
  clear hq
  have c1:=cell_of_row w4 _ 1 _ _ _ hb4
  obtain ⟨ii,hii,hi0,hi1,hi2⟩:=infoF infoI
  have hab:ab+1≤w4.heap.size:=by omega
  have HO4:=hide ho4
  go_wp2_with (at_builtin;refine wpList_append_lies _ rfl _ _ 115 rfl (ab+1) 3 ii _ 1 8 Tryz.underlying115 hii hi0 hi1 hi2 rfl (by decide) bv n _ rfl ((HO4.out).alloc _) ⟨w4.heap.size,0,none⟩ 1 1 [.int .i64 i] rfl rfl (World.news_of_block (cs:=#[.int .i64 i]) (heap_alloc_new w4 _)) (by simp [Value.oneCell']) (by omega) (by unfold maxLen;omega) (by omega) (by simp;omega) (w4.heap.size+1) (by simp) ?_;intro g5 cap5 w5 hown5 hgrow5 hat5 hlt5;have HO5:=hide hown5;have HG5:=hide hgrow5;have HA5:=hide hat5;have kG:Kp (fun q=>bv.ownBlock=some q) w4 w5:=Kp.grown (Kp.alloc (Kp.refl _ w4) _) hgrow5 (fun q e _=>e);have hb5:=kG.heap hb4 (fun e=>hag ab e rfl);have r0:=cell_of_row w5 _ 0 _ _ _ hb5;have r1:=cell_of_row w5 _ 1 _ _ _ hb5;have r2:=cell_of_row w5 _ 2 _ _ _ hb5;have f1:=frzB hb5 1;have f2:=frzB hb5 2;have KG:=hide kG;have HB5:=hide hb5;clear hown5 hgrow5 hat5 hlt5 kG hb5)
  have hown:∀ q,bv.ownBlock=some q→ab<q∧∃ c f,w4.heap[q]?=some (.cells c 3 f):=fun q hq=>by
   rcases (HO4.out).2 with ⟨rfl,-⟩|⟨g,cap,cur,rfl,hge,hg,-⟩
   ·cases hq
   ·obtain rfl:g=q:=by simpa [Value.ownBlock] using hq
    exact ⟨by omega,cur,_,hg⟩
  have hga:g5≠ab:=fun e=>(HA5.out).elim (fun h=>hag g5 h e) (fun h=>by omega)
  have kF:Kp (fun q=>q=ab) w5 ((w5.setCell ⟨ab,1,none⟩ (.slice (some ⟨g5,0,none⟩) (n+1) cap5)).setCell ⟨ab,2,none⟩ (.int .i64 ((i+x.size:Nat):Int))):=Kp.setCell (S:=fun q=>q=ab) (p:=⟨ab,2,none⟩) (Kp.setCell (S:=fun q=>q=ab) (p:=⟨ab,1,none⟩) (Kp.refl _ w5) (fun _=>rfl) _) (fun _=>rfl) _
  have HF:Hid (Psd ((w5.setCell ⟨ab,1,none⟩ (.slice (some ⟨g5,0,none⟩) (n+1) cap5)).setCell ⟨ab,2,none⟩ (.int .i64 ((i+x.size:Nat):Int))) D ab (i+x.size)∧Kq D ab ab w ((w5.setCell ⟨ab,1,none⟩ (.slice (some ⟨g5,0,none⟩) (n+1) cap5)).setCell ⟨ab,2,none⟩ (.int .i64 ((i+x.size:Nat):Int)))):=by
   have hbF:((w5.setCell ⟨ab,1,none⟩ (.slice (some ⟨g5,0,none⟩) (n+1) cap5)).setCell ⟨ab,2,none⟩ (.int .i64 ((i+x.size:Nat):Int))).heap[ab]?=some (.cells #[.int .i64 ((i+x.size:Nat):Int),.slice (some ⟨g5,0,none⟩) (n+1) cap5,.int .i64 ((i+x.size:Nat):Int),.int .i64 gp] 117 (0,0)):=by
    have:=setB (setB HB5.out 1 (.slice (some ⟨g5,0,none⟩) (n+1) cap5)) 2 (.int .i64 ((i+x.size:Nat):Int))
    simpa using this
   show Psd _ _ _ _∧Kq _ _ _ _ _
   have hnn:=HNn.out
   have hxs:=HXs.out
   refine ⟨⟨Value.slice (some ⟨g5,0,none⟩) (n+1) cap5,bl++[(i:Int)],((i+x.size:Nat):Int),gp,hbF,?_,by rw [List.length_append,hnn];show n+1≤_;omega,fun q hq hd=>?_⟩,?_,?_⟩
   ·rw [List.length_append,List.map_append,hnn,hxs]
    exact kF.owns HO5.out (fun q hq e=>hga (by have h1:some g5=some q:=hq;injection h1 with h1;have:q=ab:=e;omega))
   ·have h1:some g5=some q:=hq
    injection h1 with h1
    subst h1
    rcases HA5.out with h2|h2
    ·exact (HBD.out) _ h2 hd
    ·have:=(HDl.out) _ hd
     omega
   ·refine Kp.trans K4.out (Kp.trans (S:=Sw w4 D ab ab) (Kp.mono KG.out (fun q _ e=>.inr (.inr ⟨(hown q e).1,(HBD.out) q e,(hown q e).2⟩))) kF (fun q _ e=>.inl e)) (fun q hq e=>?_)
    rcases e with e|e|⟨e,e1,c,f,hc⟩
    ·exact .inl e
    ·exact .inr (.inl e)
    ·by_cases hs:Sw w D ab ab q
     ·exact hs
     ·exact .inr (.inr ⟨e,e1,c,f,by rw [← (K4.out).block q hq hs];exact hc⟩)
   ·rw [nbg_of hbF]
    have h1:=hn0.out
    omega
  clear hb4 ho4 HO4 HO5 HG5 HA5 KG HB5 kF K4 hown
  rw [Int.natCast_add] at HF
  go_end0
  exact ⟨rfl,HF.out⟩
end Go.Proofs.YtbmebfgapjhchaaGreatDoor
/- Package syntax: a row is gone through. -/
namespace Go.Proofs.YtbmebfgapjhchaaGreatDoor
open Go.RowKit
open M
theorem res_node {fn:Func} {t:Tmp} (h:fn.results=#[.cell t 120]) (tmps:Array Value) (W:World) {b:Nat} {a1 a2:Int} {a3:ByteArray} {a4:Option Addr} {a5 a6:Nat} (ht:tmps[t]?.getD undef=.pointer (some ⟨b,0,none⟩)) (hb:W.heap[b]?=some (.cells #[.int .i64 a1,.int .i64 a2,.string a3,.slice a4 a5 a6] 120 (0,0))) :
  (results fn tmps).run Tryz.prog W=.ok (.agg #[.int .i64 a1,.int .i64 a2,.string a3,.slice a4 a5 a6]) W:=by
 have m0:=cell_of_row W _ 0 _ _ _ hb
 have m1:=cell_of_row W _ 1 _ _ _ hb
 have m2:=cell_of_row W _ 2 _ _ _ hb
 have m3:=cell_of_row W _ 3 _ _ _ hb
 simp [results,h,go_sem,ht,m0,m1,m2,m3]
theorem set4_own {W:World} {b:Nat} {x0 x1 x2 x3 y0 y1 y2 y3:Value} {t:TypeId} (h:W.heap[b]?=some (.cells #[y0,y1,y2,y3] t (0,0))):((((W.setCell ⟨b,0,none⟩ x0).setCell ⟨b,1,none⟩ x1).setCell ⟨b,2,none⟩ x2).setCell ⟨b,3,none⟩ x3).heap[b]?=some (.cells #[x0,x1,x2,x3] t (0,0)):=by
 simp [World.setCell,Array.getElem?_modify,h]
theorem set_far {W:World} {b k q:Nat} {v:Value} (hq:q≠b):(W.setCell ⟨b,k,none⟩ v).heap[q]?=W.heap[q]?:=by
 simp [World.setCell,Array.getElem?_modify,hq.symm]
theorem IsRw.cut {w:World} {D:Nat→Prop} {rb ab:Nat} {p:X.Part} {ps:List X.Part} {i:Nat} (h:IsRw w D rb ab (p::ps) i) {nv:Value} (hn:NdS w D nv ps):IsRw (w.setCell ⟨rb,1,none⟩ nv) D rb ab ps i∧Kq D rb ab w (w.setCell ⟨rb,1,none⟩ nv):=by
 obtain ⟨v,hb,-⟩:=h.blk
 have hk:Kp (fun q=>q=rb) w (w.setCell ⟨rb,1,none⟩ nv):=On.set (Kp.refl _ w) 1 _
 have hp:Psd (w.setCell ⟨rb,1,none⟩ nv) D ab i:=h.psd.keep hk (fun e=>h.sep.1 e.symm) (fun q c f _ e e'=>by subst e';exact not_int hb (by decide) ⟨c,f,e⟩)
 refine ⟨⟨⟨nv,?_,hn.keep hk (fun q hq e=>h.sep.2.1 (e ▸ hq))⟩,hp,h.sep,h.byt.tail⟩,hk.mono (fun q _ e=>.inl e),Nat.le_of_eq (nbg_kp hk h.lt.2 (fun e=>h.sep.1 e.symm)).symm⟩
 simp [World.setCell,Array.getElem?_modify,hb]
theorem IsRw.gap {w:World} {D:Nat→Prop} {rb ab:Nat} {ps:List X.Part} {i:Nat} (h:IsRw w D rb ab ps i) (z:Int):IsRw (w.setCell ⟨ab,3,none⟩ (.int .i64 z)) D rb ab ps i∧Kq D rb ab w (w.setCell ⟨ab,3,none⟩ (.int .i64 z)):=by
 obtain ⟨v,hb,hn⟩:=h.blk
 obtain ⟨bv,bl,en,gp,hp,ho,hl,hd⟩:=h.psd.ex
 obtain ⟨o,c,rfl,-⟩:=owns_slice ho
 have hk:Kp (fun q=>q=ab) w (w.setCell ⟨ab,3,none⟩ (.int .i64 z)):=On.set (Kp.refl _ w) 3 _
 have hp2:(w.setCell ⟨ab,3,none⟩ (.int .i64 z)).heap[ab]?=some (.cells #[.int .i64 i,.slice o bl.length c,.int .i64 en,.int .i64 z] 117 (0,0)):=by simp [World.setCell,Array.getElem?_modify,hp]
 refine ⟨⟨⟨v,hk.heap hb h.sep.1,hn.keep hk (fun q hq e=>h.sep.2.2 (e ▸ hq))⟩,⟨_,bl,en,z,hp2,hk.owns ho (fun q hq e=>?_),hl,hd⟩,h.sep,h.byt⟩,hk.mono (fun q _ e=>.inr (.inl e)),?_⟩
 ·have:=(owns_typed ho hq).1
  have:q=ab:=e
  omega
 ·rw [nbg_of hp,nbg_of hp2]
  exact Nat.le_refl _
theorem IsRw.counted {w w':World} {D:Nat→Prop} {rb ab:Nat} {ps:List X.Part} {i j:Nat} (h:IsRw w D rb ab ps i) (hp:Psd w' D ab j) (hk:Kq D ab ab w w'):IsRw w' D rb ab ps j:=by
 obtain ⟨v,hb,hn⟩:=h.blk
 exact ⟨⟨v,hk.heap hb (by decide) h.sep.1 h.sep.1,hk.nds hn h.sep.2.2 h.sep.2.2⟩,hp,h.sep,h.byt⟩
theorem gd_kind {p:X.Part} {ps:List X.Part} (h:X.Gd (p::ps)):(∃ k x,p=.leaf k x∧0<x.length)∨(X.nk p≠0∧X.nln p=0):=by
 cases p with
 | leaf k x=>exact .inl ⟨k,x,rfl,h.leaf⟩
 | miss m=>exact .inr ⟨by show (1:Nat)≠0;omega,rfl⟩
 | br k qs=>exact .inr ⟨h.br.1,rfl⟩
theorem leave_w {w:World} {D:Nat→Prop} {rb ab:Nat} {p:X.Part} {ps:List X.Part} {i:Nat} (h:IsRw w D rb ab (p::ps) i) {nv:Value} (hn:NdS w D nv ps) (zc kc:Array Value) :
  ∃ W3,W3=((w.setCell ⟨rb,1,none⟩ nv).alloc (.cells zc 120)).alloc (.cells kc 120)∧W3.heap[w.heap.size]?=some (.cells zc 120 (0,0))∧W3.heap[w.heap.size+1]?=some (.cells kc 120 (0,0))∧IsRw W3 D rb ab ps i∧Kq D rb ab w W3:=by
 obtain ⟨h1,h2⟩:=h.cut hn
 have hs:(w.setCell ⟨rb,1,none⟩ nv).heap.size=w.heap.size:=by simp [World.setCell]
 have hal:=h.lt.2
 generalize w.setCell ⟨rb,1,none⟩ nv=W at *
 have kA:Below W.heap.size W ((W.alloc (.cells zc 120)).alloc (.cells kc 120)):=((Below.refl _ W).alloc (Nat.le_refl _) _).alloc (by simp) _
 have n1:=heap_alloc_new W (.cells zc 120)
 have n2:=heap_alloc_new (W.alloc (.cells zc 120)) (.cells kc 120)
 have n3:=(heap_alloc_old (W.alloc (.cells zc 120)) (.cells kc 120) (show W.heap.size<_ by simp)).trans n1
 rw [World.size_alloc,hs] at n2
 rw [hs] at n3
 exact ⟨_,rfl,n3,n2,h1.below kA,h2.more kA hal⟩
set_option maxRecDepth 100000 in
set_option maxHeartbeats 4000000 in
theorem wleave_any (D:Nat→Prop) (rb ab:Nat) (p:X.Part) (ps:List X.Part) (i:Nat) (w:World) (h:IsRw w D rb ab (p::ps) i) (hi:i+X.nln p≤1073741824) (hDl:∀ q,D q→q<w.heap.size) :
  Calls Tryz.prog 69 #[.pointer (some ⟨rb,0,none⟩)] w fun e w'=>∃ a4 a5 a6,e=.returned (.agg #[.int .i64 (X.nk p),.int .i64 (X.ntk p),.string (ba (X.ntx p)),.slice a4 a5 a6])∧Hid (NdS w' D (.slice a4 a5 a6) (X.kids p)∧IsRw w' D rb ab ps (i+X.nln p)∧Kq D rb ab w w'):=by
 obtain ⟨v,hb,hn⟩:=h.blk
 obtain ⟨g,o,cap,kv,rfl,hD,y0,y1,y2,y3,hk,-,hc1,hc2,hn1,hn2⟩:=hn.head
 obtain ⟨a4,a6,_,_,_,_,rfl,-⟩:=hk.ex
 have HK:=hide hk
 have HN1:=hide hn1
 have HN2:=hide hn2
 have HR:=hide h
 have hsep:=h.sep
 obtain ⟨hrl,hal⟩:=h.lt
 have c1:=cell_of_row w _ 1 _ _ _ hb
 have f1:w.frozen? ⟨rb,1,none⟩=false:=by simp [World.frozen?,hb]
 have hgl:g<w.heap.size:=World.block_lt_of_cell? _ _ y0
 have hkind:=hide (gd_kind h.byt)
 clear h hb hn hk hn1 hn2
 have key:∃ o' n' c',Hid (NdS w D (.slice (some ⟨g,o',none⟩) n' c') ps)∧((cap=1∧o'=o∧n'=0∧c'=0∧ps.length=0)∨(cap≠1∧o'=o+4∧n'=ps.length∧c'=cap - 1)):=by
  by_cases e:cap=1
  ·obtain ⟨q1,q2⟩:=(HN2.out) e
   exact ⟨o,0,0,q1,.inl ⟨e,rfl,rfl,rfl,by rw [q2];rfl⟩⟩
  ·exact ⟨o+4,ps.length,cap - 1,(HN1.out) e,.inr ⟨e,rfl,rfl,rfl⟩⟩
 obtain ⟨o',n',c',HN,hcs⟩:=key
 clear HN1 HN2
 have HFin:Hid (∀ (W4:World) (j:Nat),W4.heap[w.heap.size]?=some (.cells #[.int .i64 0,.int .i64 0,.string ⟨#[]⟩,.slice none 0 0] 120 (0,0))→IsRw W4 D rb ab ps j→Kq D rb ab w W4→∀ x0 x1 x2 x3:Value,NdS ((((W4.setCell ⟨w.heap.size,0,none⟩ x0).setCell ⟨w.heap.size,1,none⟩ x1).setCell ⟨w.heap.size,2,none⟩ x2).setCell ⟨w.heap.size,3,none⟩ x3) D (.slice a4 (X.kids p).length a6) (X.kids p)∧IsRw ((((W4.setCell ⟨w.heap.size,0,none⟩ x0).setCell ⟨w.heap.size,1,none⟩ x1).setCell ⟨w.heap.size,2,none⟩ x2).setCell ⟨w.heap.size,3,none⟩ x3) D rb ab ps j∧Kq D rb ab w ((((W4.setCell ⟨w.heap.size,0,none⟩ x0).setCell ⟨w.heap.size,1,none⟩ x1).setCell ⟨w.heap.size,2,none⟩ x2).setCell ⟨w.heap.size,3,none⟩ x3)):=fun W4 j hz hr hk x0 x1 x2 x3=>by
  have hk4:Kp (fun q=>q=w.heap.size) W4 ((((W4.setCell ⟨w.heap.size,0,none⟩ x0).setCell ⟨w.heap.size,1,none⟩ x1).setCell ⟨w.heap.size,2,none⟩ x2).setCell ⟨w.heap.size,3,none⟩ x3):=On.set (On.set (On.set (On.set (Kp.refl _ W4) 0 _) 1 _) 2 _) 3 _
  exact ⟨(hk.nds HK.out hsep.2.1 hsep.2.2).keep hk4 (fun q hq e=>by have:=hDl q hq;omega),hr.on hk4 hz (by decide) (by omega) (by omega) (fun hd=>by have:=hDl _ hd;omega),Kq.set4 hk hal (Nat.le_refl _) _ _ _ _⟩
 rcases hcs with ⟨rfl,rfl,rfl,rfl,hps0⟩|⟨hne,rfl,rfl,rfl⟩
 all_goals
  go_enter Tryz.func69,Tryz.ntmps69
  go_upto_region 3 with fail
  obtain ⟨W3,hW3,hZ,hK,hR,hKq⟩:=leave_w HR.out HN.out #[.int .i64 0,.int .i64 0,.string ⟨#[]⟩,.slice none 0 0] #[.int .i64 (X.nk p),.int .i64 (X.ntk p),.string (ba (X.ntx p)),.slice a4 (X.kids p).length a6]
  rw [← hW3]
  clear hW3 HR HN y0 y1 y2 y3 c1 f1 HK
  rcases hkind.out with ⟨k,x,rfl,hx⟩|⟨hz,hln⟩
  ·have k0:W3.cell? ⟨w.heap.size+1,0,none⟩=some (.int .i64 0):=cell_of_row W3 _ 0 _ _ _ hK
   have k1:W3.cell? ⟨w.heap.size+1,1,none⟩=some (.int .i64 k):=cell_of_row W3 _ 1 _ _ _ hK
   have k2:W3.cell? ⟨w.heap.size+1,2,none⟩=some (.string (ba x)):=cell_of_row W3 _ 2 _ _ _ hK
   have k3:W3.cell? ⟨w.heap.size+1,3,none⟩=some (.slice a4 0 a6):=cell_of_row W3 _ 3 _ _ _ hK
   obtain ⟨rv,hbr,-⟩:=hR.blk
   have r0:=cell_of_row W3 _ 0 _ _ _ hbr
   have HZ:=hide hZ
   have HK3:=hide hK
   have HR3:=hide hR
   have HQ3:=hide hKq
   clear hZ hK hR hKq hbr hkind
   go_wp2_with fail
   refine wpTo_start (S:=fun w'=>w'.cell? ⟨rb,0,none⟩=some (.pointer (some ⟨ab,0,none⟩))∧w'.cell? ⟨w.heap.size+1,0,none⟩=some (.int .i64 0)∧w'.cell? ⟨w.heap.size+1,1,none⟩=some (.int .i64 k)∧w'.cell? ⟨w.heap.size+1,2,none⟩=some (.string (ba x))∧w'.cell? ⟨w.heap.size+1,3,none⟩=some (.slice a4 0 a6)) (z:=6) (by kernel_rfl) ?_
   have hS:=(⟨r0,k0,k1,k2,k3⟩:W3.drew.cell? ⟨rb,0,none⟩=some (.pointer (some ⟨ab,0,none⟩))∧W3.drew.cell? ⟨w.heap.size+1,0,none⟩=some (.int .i64 0)∧W3.drew.cell? ⟨w.heap.size+1,1,none⟩=some (.int .i64 k)∧W3.drew.cell? ⟨w.heap.size+1,2,none⟩=some (.string (ba x))∧W3.drew.cell? ⟨w.heap.size+1,3,none⟩=some (.slice a4 0 a6))
   iterate 5 (refine wpTo_nx (v:=?_) rfl rfl (by kernel_rfl) (by decide) (by kernel_rfl) (by kernel_rfl) (fun _ _ _ h=>h) (Or.inl ⟨by rfl,?_⟩) hS ?_;rotate_left;(· (intro wx hSw;(try dsimp only at hSw);obtain ⟨hw0,hw1,hw2,hw3,hw4⟩:=hSw;go_simp;try (with_reducible rfl)));simp only [Act.put,List.setIfInBounds_toArray,List.set_cons_zero,List.set_cons_succ])
   refine wpTo_one (i:=5) (by kernel_rfl) rfl (fun K hK=>?_)
   go_simp
   have hsz:(ba x).size=x.length:=ba_size x
   have kD:Below W3.heap.size W3 W3.drew:=(Below.refl _ W3).drew
   refine (pcount_any ab i k (ba x) a4 0 a6 W3.drew D ((HR3.out).below kD).psd (by rw [hsz];exact hi) (by omega) (fun q hq=>Nat.lt_of_lt_of_le (hDl q hq) (HQ3.out).size)).mono ?_
   rintro e W4 ⟨rfl,X4⟩
   have hs3:=(HQ3.out).size
   have hR4:=(((HR3.out).below kD).counted (X4.out).1 (X4.out).2)
   have hQ4:=((HQ3.out).more kD hal).trans (X4.out).2.wide
   have hZ4:=(X4.out).2.heap (b:=w.heap.size) HZ.out (by decide) (by omega) (by omega)
   have hK4:=(X4.out).2.heap (b:=w.heap.size+1) HK3.out (by decide) (by omega) (by omega)
   rw [hsz] at hR4
   have HG:=hide ((HFin.out) W4 _ hZ4 hR4 hQ4 (.int .i64 0) (.int .i64 k) (.string (ba x)) (.slice a4 0 a6))
   clear r0 k0 k1 k2 k3
   have k0:W4.cell? ⟨w.heap.size+1,0,none⟩=some (.int .i64 0):=cell_of_row W4 _ 0 _ _ _ hK4
   have k1:W4.cell? ⟨w.heap.size+1,1,none⟩=some (.int .i64 k):=cell_of_row W4 _ 1 _ _ _ hK4
   have k2:W4.cell? ⟨w.heap.size+1,2,none⟩=some (.string (ba x)):=cell_of_row W4 _ 2 _ _ _ hK4
   have k3:W4.cell? ⟨w.heap.size+1,3,none⟩=some (.slice a4 0 a6):=cell_of_row W4 _ 3 _ _ _ hK4
   have e0:=cell_of_row W4 _ 0 _ _ _ hZ4
   have e1:=cell_of_row W4 _ 1 _ _ _ hZ4
   have e2:=cell_of_row W4 _ 2 _ _ _ hZ4
   have e3:=cell_of_row W4 _ 3 _ _ _ hZ4
   have q0:=frzB hZ4 0
   have q1:=frzB hZ4 1
   have q2:=frzB hZ4 2
   have q3:=frzB hZ4 3
   have HZ4:=hide hZ4
   obtain ⟨rv4,hbr4,-⟩:=hR4.blk
   have r4:=cell_of_row W4 _ 0 _ _ _ hbr4
   dsimp only
   refine hK.out _ _ (fun _=>⟨r4,k0,k1,k2,k3⟩) (fun _=>wpTo_end (by kernel_rfl) ?_)
   clear hK K hS hbr4 r4
   clear hZ4 hK4 hR4 hQ4 X4 HZ HK3 HR3 HQ3 HFin
   go_wp2_with fail
   exact bodyPost_ret (res_node rfl _ _ (b:=w.heap.size) (a5:=0) rfl (set4_own HZ4.out)) rfl ⟨a4,0,a6,rfl,HG.out⟩
  ·have k0:W3.cell? ⟨w.heap.size+1,0,none⟩=some (.int .i64 (X.nk p)):=cell_of_row W3 _ 0 _ _ _ hK
   have k1:W3.cell? ⟨w.heap.size+1,1,none⟩=some (.int .i64 (X.ntk p)):=cell_of_row W3 _ 1 _ _ _ hK
   have k2:W3.cell? ⟨w.heap.size+1,2,none⟩=some (.string (ba (X.ntx p))):=cell_of_row W3 _ 2 _ _ _ hK
   have k3:W3.cell? ⟨w.heap.size+1,3,none⟩=some (.slice a4 (X.kids p).length a6):=cell_of_row W3 _ 3 _ _ _ hK
   have e0:=cell_of_row W3 _ 0 _ _ _ hZ
   have e1:=cell_of_row W3 _ 1 _ _ _ hZ
   have e2:=cell_of_row W3 _ 2 _ _ _ hZ
   have e3:=cell_of_row W3 _ 3 _ _ _ hZ
   have q0:=frzB hZ 0
   have q1:=frzB hZ 1
   have q2:=frzB hZ 2
   have q3:=frzB hZ 3
   have iz:((X.nk p:Int)==0)=false:=by simp;omega
   have hs3:=hKq.size
   have HG0:=hide ((HFin.out) W3 i hZ hR hKq (.int .i64 (X.nk p)) (.int .i64 (X.ntk p)) (.string (ba (X.ntx p))) (.slice a4 (X.kids p).length a6))
   have HZ:=hide hZ
   by_cases h1:X.nk p=1∨X.nk p=19
   ·obtain ⟨rv,hbr,-⟩:=hR.blk
    have r0:=cell_of_row W3 _ 0 _ _ _ hbr
    obtain ⟨bv,bl,en,gp,hps,-⟩:=hR.psd.ex
    have d3:=cell_of_row W3 _ 3 _ _ _ hps
    have fd:=frzB hps 3
    have HGp:Hid (∀ zz:Int,((W3.setCell ⟨ab,3,none⟩ (.int .i64 zz)).heap[w.heap.size]?=some (.cells #[.int .i64 0,.int .i64 0,.string ⟨#[]⟩,.slice none 0 0] 120 (0,0)))∧_):=fun zz=>by
     obtain ⟨z1,z2⟩:=hR.gap zz
     have hz4:=(set_far (W:=W3) (b:=ab) (k:=3) (v:=.int .i64 zz) (q:=w.heap.size) (by omega)).trans hZ
     exact ⟨hz4,(HFin.out) _ i hz4 z1 (hKq.trans z2) (.int .i64 (X.nk p)) (.int .i64 (X.ntk p)) (.string (ba (X.ntx p))) (.slice a4 (X.kids p).length a6)⟩
    have hab1:¬ ab=w.heap.size:=by omega
    have hab2:¬ ab=w.heap.size+1:=by omega
    clear hZ hK hR hKq hbr hps HFin HG0
    rcases h1 with h1|h1
    all_goals
     have i1:((X.nk p:Int)==1)=decide (X.nk p=1):=by rw [h1];rfl
     rw [h1] at k0 iz ⊢
     go_wp2_with fail
     have hg:=(HGp.out) (wrap64 (gp+1))
     rw [h1] at hg
     refine bodyPost_ret (res_node rfl _ _ (b:=w.heap.size) (a5:=(X.kids p).length) rfl (set4_own hg.1)) rfl ⟨a4,(X.kids p).length,a6,by rw [h1];rfl,?_⟩
     rw [hln]
     exact hg.2
   ·have i1:((X.nk p:Int)==1)=false:=by simp;omega
    have i2:((X.nk p:Int)==19)=false:=by simp;omega
    clear hZ hK hR hKq HFin
    go_wp2_with fail
    exact bodyPost_ret (res_node rfl _ _ (b:=w.heap.size) (a5:=(X.kids p).length) rfl (set4_own HZ.out)) rfl ⟨a4,(X.kids p).length,a6,rfl,by rw [hln];exact HG0.out⟩
end Go.Proofs.YtbmebfgapjhchaaGreatDoor
/- Package syntax: what is quiet is passed;a token,a name. -/
namespace Go.Proofs.YtbmebfgapjhchaaGreatDoor
open Go.RowKit
open M
def lenR (rb:Nat) (w:World):Nat:=match w.cell? ⟨rb,1,none⟩ with|some (.slice _ n _)=>n|_=>0
theorem IsRw.len {w:World} {D:Nat→Prop} {rb ab:Nat} {ps:List X.Part} {i:Nat} (h:IsRw w D rb ab ps i):lenR rb w=ps.length:=by
 obtain ⟨v,e,hn⟩:=h.blk
 obtain ⟨ao,cap,_,_,_,_,rfl,-⟩:=hn.ex
 unfold lenR
 rw [cell_of_row w _ 1 _ _ _ e];rfl
theorem pz_quiet {p:X.Part} (h:X.lq p=true):X.nln p=X.pz [p]:=by
 obtain ⟨k,x,rfl,-⟩:=X.lq_leaf h
 show x.length=_
 unfold X.pz
 rw [X.psb,X.pb,X.psb,List.append_nil]
set_option maxRecDepth 100000 in
set_option maxHeartbeats 2000000 in
theorem wmore_any (D:Nat→Prop) (rb ab:Nat) (ps:List X.Part) (i:Nat) (w:World) (h:IsRw w D rb ab ps i) (hi:i+X.pz ps≤1073741824) (hpl:ps.length≤1073741824) (hDl:∀ q,D q→q<w.heap.size) :
  Calls Tryz.prog 45 #[.pointer (some ⟨rb,0,none⟩)] w fun e w'=>e=.returned (.bool (decide (ps.dropWhile X.lq≠[])))∧Hid (IsRw w' D rb ab (ps.dropWhile X.lq) (i+X.pz (ps.takeWhile X.lq))∧Kq D rb ab w w'):=by
 have ha:=h.lt.2
 have H0:=hide h
 clear h
 go_enter Tryz.func45,Tryz.ntmps45
 go_wp2_with fail
 go_loopw [] (fun wr=>∃ (l:List X.Part) (k:Nat),Hid (IsRw wr D rb ab l k∧Kq D rb ab w wr)∧k+X.pz l≤1073741824∧l.length≤1073741824∧Hid (ps.dropWhile X.lq=l.dropWhile X.lq∧i+X.pz (ps.takeWhile X.lq)=k+X.pz (l.takeWhile X.lq))) (fun wr=>lenR rb wr)
 case atStart=>exact ⟨ps,i,⟨H0.out,Kq.refl _ _ _ _⟩,hi,hpl,⟨rfl,rfl⟩⟩
 case round =>
  obtain ⟨l,k,HI,hk,hll,HE⟩:=hrel
  have hlen:=(HI.out).1.len
  obtain ⟨v,hb,hn⟩:=(HI.out).1.blk
  have c0:=cell_of_row wr _ 0 _ _ _ hb
  have c1:=cell_of_row wr _ 1 _ _ _ hb
  have HDl:Hid (∀ q,D q→q<wr.heap.size):=fun q hq=>Nat.lt_of_lt_of_le (hDl q hq) (HI.out).2.size
  cases l with
  | nil =>
   obtain ⟨ao,cap,_,_,_,_,rfl,-⟩:=hn.ex
   have HF:Hid (decide (ps.dropWhile X.lq≠[])=false∧IsRw wr D rb ab (ps.dropWhile X.lq) (i+X.pz (ps.takeWhile X.lq))∧Kq D rb ab w wr):=by
    obtain ⟨e1,e2⟩:=HE.out
    have e1':ps.dropWhile X.lq=[]:=e1
    have e2':i+X.pz (ps.takeWhile X.lq)=k:=e2
    rw [e1',e2']
    exact ⟨by simp,HI.out⟩
   clear hb hn HE
   go_wp2_with fail
   go_ret
   exact ⟨by rw [(HF.out).1];rfl,(HF.out).2⟩
  | cons p l =>
   obtain ⟨g,o,cap,kv,rfl,hD,y0,y1,y2,y3,hkk,-,hc1,hc2,-,-⟩:=hn.head
   obtain ⟨a4,a6,_,_,_,_,rfl,-⟩:=hkk.ex
   have i1:decide (0<l.length+1)=true:=by simp
   have i2:decide (((l.length+1:Nat):Int)>0)=true:=decide_eq_true (by omega)
   have i3:decide ((0:Int)<(l.length:Int)+1)=true:=decide_eq_true (by omega)
   have hi1:(0:Int)<((l.length+1:Nat):Int):=by omega
   have hi2:0<l.length+1:=by omega
   rw [X.pz_cons] at hk
   rw [List.length_cons] at hll
   cases hq:X.lq p with
   | true =>
    have hl:=lq_eq p
    rw [hq] at hl
    have HE2:Hid (ps.dropWhile X.lq=l.dropWhile X.lq∧i+X.pz (ps.takeWhile X.lq)=k+X.pz [p]+X.pz (l.takeWhile X.lq)):=by
     obtain ⟨e1,e2⟩:=HE.out
     rw [List.dropWhile_cons_of_pos hq] at e1
     rw [List.takeWhile_cons_of_pos hq,X.pz_cons] at e2
     exact ⟨e1,by omega⟩
    have hnl:=pz_quiet hq
    have HLv:Hid (∀ W,Below wr.heap.size wr W→Calls Tryz.prog 69 #[.pointer (some ⟨rb,0,none⟩)] W fun e w'=>∃ a4 a5 a6,e=.returned (.agg #[.int .i64 (X.nk p),.int .i64 (X.ntk p),.string (ba (X.ntx p)),.slice a4 a5 a6])∧Hid (NdS w' D (.slice a4 a5 a6) (X.kids p)∧IsRw w' D rb ab l (k+X.nln p)∧Kq D rb ab W w')):=fun W hW=>wleave_any D rb ab p l k W ((HI.out).1.below hW) (by rw [hnl];omega) (fun q hq'=>Nat.lt_of_lt_of_le ((HDl.out) q hq') hW.size)
    clear hb hn hkk HE
    go_wp2_with fail
    refine (syQuiet_any _ _ _ _ _ _ wr).mono ?_
    rintro e w2 ⟨rfl,k2⟩
    rw [hl]
    have HK2:=hide k2
    clear k2 hl
    go_wp2_with fail
    refine ((HLv.out) w2 HK2.out).mono ?_
    rintro e w3 ⟨b4,b5,b6,rfl,H3⟩
    have HR3:Hid (IsRw w3 D rb ab l (k+X.pz [p])∧Kq D rb ab w w3):=by
     obtain ⟨-,z2,z3⟩:=H3.out
     rw [hnl] at z2
     exact ⟨z2,((HI.out).2.more HK2.out ha).trans z3⟩
    clear H3
    have hl3:=(HR3.out).1.len
    go_wp2_with fail
    exact ⟨⟨l,k+X.pz [p],HR3,by omega,by omega,HE2⟩,by rw [hlen,hl3];simp⟩
   | false =>
    have hl:=lq_eq p
    rw [hq] at hl
    have HF:Hid (decide (ps.dropWhile X.lq≠[])=true∧∀ W,Below wr.heap.size wr W→IsRw W D rb ab (ps.dropWhile X.lq) (i+X.pz (ps.takeWhile X.lq))∧Kq D rb ab w W):=by
     obtain ⟨e1,e2⟩:=HE.out
     rw [List.dropWhile_cons_of_neg (by rw [hq];simp)] at e1
     rw [List.takeWhile_cons_of_neg (by rw [hq];simp)] at e2
     have e2':i+X.pz (ps.takeWhile X.lq)=k:=e2
     rw [e1,e2']
     exact ⟨by simp,fun W hW=>⟨(HI.out).1.below hW,(HI.out).2.more hW ha⟩⟩
    clear hb hn hkk HE
    go_wp2_with fail
    refine (syQuiet_any _ _ _ _ _ _ wr).mono ?_
    rintro e w2 ⟨rfl,k2⟩
    rw [hl]
    have d1:=(Kp.ofBelow k2 (fun _=>False)).cellv c1 id
    have HK2:=hide k2
    clear k2 hl
    go_wp2_with fail
    go_ret
    exact ⟨by rw [(HF.out).1];rfl,(HF.out).2 _ HK2.out⟩
end Go.Proofs.YtbmebfgapjhchaaGreatDoor
/- Package syntax: a token,the kids of a node,a name. -/
namespace Go.Proofs.YtbmebfgapjhchaaGreatDoor
open Go.RowKit
open M
namespace X
structure Tk0 (t qs:List Part) (p:Part):Prop where
 eq:t=qs++[p]
 qu:∀ q∈qs,lq q=true
 ne:lq p=false
 ln:nln p=pz [p]
theorem Tk1.tk0 {t:List Part} {k:Nat} {x:List UInt8} {qs:List Part} (h:Tk1 t k x qs):Tk0 t qs (.leaf k x):=⟨h.eq,h.qu,by have:=h.ne;show (k==1||k==2)=false;simp;omega,(pz_leaf k x).symm⟩
theorem Tkp.tk0 {t:List Part} (h:Tkp t):∃ qs p,Tk0 t qs p:=by
 rcases h with ⟨k,x,qs,h⟩|⟨m,rfl⟩
 ·exact ⟨qs,_,h.tk0⟩
 ·exact ⟨[],.miss m,rfl,fun q hq=>(by cases hq),rfl,rfl⟩
theorem drop_quiet:∀ {qs:List Part} {p:Part} {ps:List Part},(∀ q∈qs,lq q=true)→lq p=false→(qs++p::ps).dropWhile lq=p::ps∧(qs++p::ps).takeWhile lq=qs
 | [],p,ps,_,hp=>⟨by rw [List.nil_append,List.dropWhile_cons_of_neg (by rw [hp];simp)],by rw [List.nil_append,List.takeWhile_cons_of_neg (by rw [hp];simp)]⟩
 | q::qs,p,ps,h,hp=>by
  have hq:=h q (by simp)
  obtain ⟨h1,h2⟩:=drop_quiet (ps:=ps) (fun q' hq'=>h q' (List.mem_cons_of_mem _ hq')) hp
  rw [List.cons_append,List.dropWhile_cons_of_pos hq,List.takeWhile_cons_of_pos hq,h1,h2]
  exact ⟨rfl,rfl⟩
theorem Tk0.drop {t qs:List Part} {p:Part} (h:Tk0 t qs p) (ps:List Part):(t++ps).dropWhile lq=p::ps∧(t++ps).takeWhile lq=qs:=by
 rw [h.eq,List.append_assoc];exact drop_quiet h.qu h.ne
end X
set_option maxRecDepth 100000 in
set_option maxHeartbeats 2000000 in
theorem wpass_any (D:Nat→Prop) (rb ab:Nat) (t qs:List X.Part) (p:X.Part) (ps:List X.Part) (i:Nat) (w:World) (h:IsRw w D rb ab (t++ps) i) (ht:X.Tk0 t qs p) (hi:i+X.pz (t++ps)≤1073741824) (hpl:(t++ps).length≤1073741824) (hDl:∀ q,D q→q<w.heap.size) :
  Calls Tryz.prog 72 #[.pointer (some ⟨rb,0,none⟩)] w fun e w'=>∃ a4 a5 a6,e=.returned (.agg #[.int .i64 (X.nk p),.int .i64 (X.ntk p),.string (ba (X.ntx p)),.slice a4 a5 a6])∧Hid (IsRw w' D rb ab ps (i+X.pz t)∧Kq D rb ab w w'):=by
 obtain ⟨hr,ha⟩:=h.lt
 have kA:Below w.heap.size w (w.alloc (.cells #[.int .i64 0,.int .i64 0,.string ⟨#[]⟩,.slice none 0 0] 120)):=(Below.refl _ w).alloc (Nat.le_refl _) _
 have HZ:Hid ((w.alloc (.cells #[.int .i64 0,.int .i64 0,.string ⟨#[]⟩,.slice none 0 0] 120)).heap[w.heap.size]?=some (.cells #[.int .i64 0,.int .i64 0,.string ⟨#[]⟩,.slice none 0 0] 120 (0,0))):=heap_alloc_new w _
 have HM:=hide (wmore_any D rb ab (t++ps) i _ (h.below kA) hi hpl (fun q hq=>Nat.lt_of_lt_of_le (hDl q hq) kA.size))
 have hd:=ht.drop ps
 rw [hd.1,hd.2] at HM
 have HKA:=hide kA
 have hpz:X.pz t=X.pz qs+X.pz [p]:=by rw [ht.eq,X.pz_app]
 have hln:=ht.ln
 rw [X.pz_app] at hi
 clear h kA hd
 go_enter Tryz.func72,Tryz.ntmps72
 go_wp2_with fail
 refine (HM.out).mono ?_
 rintro e w2 ⟨rfl,H2⟩
 have HDl2:∀ q,D q→q<w2.heap.size:=fun q hq=>Nat.lt_of_lt_of_le (hDl q hq) (Nat.le_trans (HKA.out).size (H2.out).2.size)
 have HZ2:Hid (w2.heap[w.heap.size]?=_):=(H2.out).2.new hr ha HZ.out (by decide)
 have HK2:Hid (Kq D rb ab w w2):=(Kq.ofBelow HKA.out ha).trans (H2.out).2
 have HL:=hide (wleave_any D rb ab p ps (i+X.pz qs) w2 (H2.out).1 (by omega) HDl2)
 clear HM HKA H2 HZ
 go_wp2_with fail
 refine (HL.out).mono ?_
 rintro e w3 ⟨a4,a5,a6,rfl,H3⟩
 have hZ3:=(H3.out).2.2.new hr ha HZ2.out (by decide)
 have HZ3:=hide hZ3
 have HK3:Hid (Kq D rb ab w w3):=(HK2.out).trans (H3.out).2.2
 have HR3:=hide (H3.out).2.1
 have e0:=cell_of_row w3 _ 0 _ _ _ hZ3
 have e1:=cell_of_row w3 _ 1 _ _ _ hZ3
 have e2:=cell_of_row w3 _ 2 _ _ _ hZ3
 have e3:=cell_of_row w3 _ 3 _ _ _ hZ3
 have q0:w3.frozen? ⟨w.heap.size,0,none⟩=false:=by simp [World.frozen?,hZ3]
 have q1:w3.frozen? ⟨w.heap.size,1,none⟩=false:=by simp [World.frozen?,hZ3]
 have q2:w3.frozen? ⟨w.heap.size,2,none⟩=false:=by simp [World.frozen?,hZ3]
 have q3:w3.frozen? ⟨w.heap.size,3,none⟩=false:=by simp [World.frozen?,hZ3]
 clear HL HK2 HZ2 H3 hZ3
 go_wp2_with fail
 refine bodyPost_ret (res_node rfl _ _ (b:=w.heap.size) rfl (set4_own HZ3.out)) rfl ⟨a4,a5,a6,rfl,?_⟩
 have hkf:=Kq.set4 HK3.out ha (Nat.le_refl _) (.int .i64 (X.nk p)) (.int .i64 (X.ntk p)) (.string (ba (X.ntx p))) (.slice a4 a5 a6)
 have hk4:Kp (fun q=>q=w.heap.size) w3 ((((w3.setCell ⟨w.heap.size,0,none⟩ (.int .i64 (X.nk p))).setCell ⟨w.heap.size,1,none⟩ (.int .i64 (X.ntk p))).setCell ⟨w.heap.size,2,none⟩ (.string (ba (X.ntx p)))).setCell ⟨w.heap.size,3,none⟩ (.slice a4 a5 a6)):=On.set (On.set (On.set (On.set (Kp.refl _ w3) 0 _) 1 _) 2 _) 3 _
 refine ⟨?_,hkf⟩
 have hR:=(HR3.out).on hk4 HZ3.out (by decide) (by omega) (by omega) (fun hd=>by have:=hDl _ hd;omega)
 rw [hln] at hR
 rw [hpz,← Nat.add_assoc]
 exact hR
theorem res_row {fn:Func} {t:Tmp} (h:fn.results=#[.cell t 123]) (tmps:Array Value) (W:World) {b:Nat} {a1:Option Addr} {a4:Option Addr} {a5 a6:Nat} (ht:tmps[t]?.getD undef=.pointer (some ⟨b,0,none⟩)) (hb:W.heap[b]?=some (.cells #[.pointer a1,.slice a4 a5 a6] 123 (0,0))) :
  (results fn tmps).run Tryz.prog W=.ok (.agg #[.pointer a1,.slice a4 a5 a6]) W:=by
 have m0:=cell_of_row W _ 0 _ _ _ hb
 have m1:=cell_of_row W _ 1 _ _ _ hb
 simp [results,h,go_sem,ht,m0,m1]
theorem res_name {fn:Func} {t:Tmp} (h:fn.results=#[.cell t 165]) (tmps:Array Value) (W:World) {b:Nat} {x:ByteArray} {n:Int} (ht:tmps[t]?.getD undef=.pointer (some ⟨b,0,none⟩)) (hb:W.heap[b]?=some (.cells #[.string x,.int .i64 n] 165 (0,0))) :
  (results fn tmps).run Tryz.prog W=.ok (.agg #[.string x,.int .i64 n]) W:=by
 have m0:=cell_of_row W _ 0 _ _ _ hb
 have m1:=cell_of_row W _ 1 _ _ _ hb
 simp [results,h,go_sem,ht,m0,m1]
theorem set2_own {W:World} {b:Nat} {x0 x1 y0 y1:Value} {t:TypeId} (h:W.heap[b]?=some (.cells #[y0,y1] t (0,0))):((W.setCell ⟨b,0,none⟩ x0).setCell ⟨b,1,none⟩ x1).heap[b]?=some (.cells #[x0,x1] t (0,0)):=by
 simp [World.setCell,Array.getElem?_modify,h]
end Go.Proofs.YtbmebfgapjhchaaGreatDoor
