/- Package scope: maps of texts to numbers in memory. -/
import Derived.Test.YtbmebfgapjhchaaGreatDoorPb
import Derived.Test.YtbmebfgapjhchaaGreatDoorVyd
import Derived.Maps.OwnSet
import Derived.Deep.QuietTactic
import Derived.Test.YtbmebfgapjhchaaGreatDoorWzw
namespace Go.Proofs.YtbmebfgapjhchaaGreatDoor
open Go.RowKit
open M
open Go.Maps (Keyed)
theorem keyS:Keyed Tryz.prog 9:=Go.Maps.string_keyed Tryz.underlying9
theorem zeroI (w:World):(zeroValue 3).run Tryz.prog w=.ok (.int .i64 0) w:=by kernel_rfl
def Mp (w:World) (b n:Nat) (g:List UInt8→Option Nat):Prop :=
 ∃ D:DataW Unit,w.ownsMap Tryz.prog 9 (plainElem Tryz.prog 3) b n D∧∀ x:List UInt8,Maps.has D (.string x)=(g x).isSome∧∀ i,g x=some i→D.atKey (.string x) (.lit (.int .i64 0))=.lit (.int .i64 i)
theorem Mp.lt {w:World} {b n:Nat} {g:List UInt8→Option Nat} (h:Mp w b n g):b<w.heap.size:=by
 obtain ⟨D,h1,-⟩:=h
 exact h1.lt
theorem Mp.made (w:World):Mp (w.alloc (.map #[] 0)) w.heap.size 0 (fun _=>none) :=
 ⟨.map [],World.ownsMap_made w _ _ _,fun x=>⟨rfl,fun i h=>by cases h⟩⟩
theorem Mp.keep {S:Nat→Prop} {w w':World} {b n:Nat} {g:List UInt8→Option Nat} (h:Mp w b n g) (hk:Kp S w w') (hn:¬ S b):Mp w' b n g:=by
 obtain ⟨D,⟨es,clock,hb,r⟩,h2⟩:=h
 exact ⟨D,⟨es,clock,hk.heap hb hn,r⟩,h2⟩
theorem Mp.below {w w':World} {b n:Nat} {g:List UInt8→Option Nat} (h:Mp w b n g) (hk:Below w.heap.size w w'):Mp w' b n g:=h.keep (Kp.ofBelow hk (fun _=>False)) id
theorem Mp.obj {w:World} {b n:Nat} {g:List UInt8→Option Nat} (h:Mp w b n g):∃ es clock,w.heap[b]?=some (.map es clock):=by
 obtain ⟨D,⟨es,clock,hb,r⟩,h2⟩:=h
 exact ⟨es,clock,hb⟩
theorem Mp.congr {w:World} {b n:Nat} {g g':List UInt8→Option Nat} (h:Mp w b n g) (e:∀ x,g x=g' x):Mp w b n g':=by
 have:g=g':=funext e
 rw [← this];exact h
theorem ba_key {k:List UInt8} (hk:k.length≤maxLen):keyOf Tryz.prog 9 (.string (ba k))=some (.string k):=by
 have:=Go.WideMaps.keyOf_string_mk Tryz.underlying9 (s:=ba k) (by rw [ba_size];exact hk)
 rw [this]
 simp [ba]
theorem Mp.run_ok {w:World} {b n:Nat} {g:List UInt8→Option Nat} (h:Mp w b n g) {k:List UInt8} (hk:k.length≤maxLen) :
  (Instr.lookup 85 (.map (some b)) (.string (ba k)) true).run Tryz.prog w=.ok (.tuple #[.int .i64 (((g k).getD 0:Nat):Int),.bool (g k).isSome]) w:=by
 obtain ⟨D,h1,h2⟩:=h
 obtain ⟨v,ps,hr,hv⟩:=h1.look_ok keyS Tryz.underlying85 (zeroI w) (plainElem_int Tryz.underlying3 (by decide)) (ba_key hk)
 obtain ⟨c,rfl,hc,-⟩:=plainElem_int_inv Tryz.underlying3 hv
 have hc1:D.atKey (.string k) (.lit (.int .i64 0))=.lit (.int .i64 c):=congrArg Prod.fst hc
 rw [hr,(h2 k).1]
 cases hg:g k with
 | none =>
  have:=Maps.atKey_of_not_has (D:=D) (k:=.string k) (by rw [(h2 k).1,hg];rfl) (.lit (.int .i64 0))
  rw [this] at hc1
  cases hc1
  rfl
 | some i =>
  rw [(h2 k).2 i hg] at hc1
  cases hc1
  rfl
theorem Mp.run_no {w:World} {b n:Nat} {g:List UInt8→Option Nat} (h:Mp w b n g) {k:List UInt8} (hk:k.length≤maxLen) :
  (Instr.lookup 85 (.map (some b)) (.string (ba k)) false).run Tryz.prog w=.ok (.int .i64 (((g k).getD 0:Nat):Int)) w:=by
 obtain ⟨D,h1,h2⟩:=h
 obtain ⟨c,hr,hc1,-⟩:=h1.lookup_int keyS Tryz.underlying85 Tryz.underlying3 (zeroI w) (ba_key hk)
 rw [hr]
 cases hg:g k with
 | none =>
  have:=Maps.atKey_of_not_has (D:=D) (k:=.string k) (by rw [(h2 k).1,hg];rfl) (.lit (.int .i64 0))
  rw [this] at hc1
  cases hc1
  rfl
 | some i =>
  rw [(h2 k).2 i hg] at hc1
  cases hc1
  rfl
def upd (g:List UInt8→Option Nat) (k:List UInt8) (i:Nat):List UInt8→Option Nat:=fun x=>if x=k then some i else g x
theorem Mp.run_put {w:World} {b n:Nat} {g:List UInt8→Option Nat} (h:Mp w b n g) (hn:n<maxLen) {k:List UInt8} (hk:k.length≤maxLen) {i:Nat} (hi:i≤9223372036854775807) :
  ∃ w',(Instr.mapUpdate 85 (.map (some b)) (.string (ba k)) (.int .i64 i)).run Tryz.prog w=.ok () w'∧Mp w' b (n+1) (upd g k i)∧Kp (fun q=>q=b) w w':=by
 obtain ⟨D,h1,h2⟩:=h
 obtain ⟨w',hr,ho,hg⟩:=h1.update keyS Tryz.underlying85 hn (ba_key hk) (plainElem_int Tryz.underlying3 (a:=(i:Int)) (WalkArith.wf_i64 (by omega)))
 refine ⟨w',hr,⟨_,ho,fun x=>?_⟩,(Kp.refl _ w).grown hg (fun q e _=>by cases e;rfl)⟩
 unfold upd
 by_cases hx:x=k
 ·subst hx
  rw [if_pos rfl]
  exact ⟨Maps.has_put_same h1.isMap (k:=.string x) (show WideAt.IsKeyLit (.string x) from trivial) _,fun j hj=>by cases hj;exact Maps.atKey_put_same h1.isMap (k:=.string x) (show WideAt.IsKeyLit (.string x) from trivial) _ _⟩
 ·rw [if_neg hx]
  have hne:(Lit.string x)≠.string k:=fun e=>hx (by cases e;rfl)
  refine ⟨by rw [Maps.has_put_other hne];exact (h2 x).1,fun j hj=>?_⟩
  rw [Maps.atKey_put_other hne]
  exact (h2 x).2 j hj
end Go.Proofs.YtbmebfgapjhchaaGreatDoor
/- Package scope: a workspace in memory. -/
namespace Go.Proofs.YtbmebfgapjhchaaGreatDoor
open Go.RowKit
open M
structure Lay where
 wb:Nat
 tb:Nat
 tf:Nat
 mb:Nat
 fv:Value
 fb:Nat→Nat
 nb:Nat→Nat
 iv:Nat→Value
 gb:Nat→Nat
def Lay.S (L:Lay) (n:Nat) (q:Nat):Prop:=q=L.tb∨∃ i,i<n∧q=L.gb i
structure St (w:World) (L:Lay) (fs:List X.Fl):Prop where
 n:fs.length≤16
 ws:w.heap[L.wb]?=some (.cells #[.map (some L.mb),L.fv] 107 (0,0))∧¬ L.S fs.length L.wb
 mp:∃ k,Mp w L.mb k (X.modI fs)
 ms:¬ L.S fs.length L.mb
 fl:∃ ao cap,L.fv=.slice ao fs.length cap∧fs.length≤cap∧cap≤maxLen∧∀ i,i<fs.length→∃ g,ao=some ⟨g,0,none⟩∧¬ L.S fs.length g∧w.cell? ⟨g,i,none⟩=some (.pointer (some ⟨L.fb i,0,none⟩))
 fi:∀ i,i<fs.length→w.heap[L.fb i]?=some (.cells #[L.iv i,.map (some (L.nb i)),.slice (some ⟨L.gb i,0,none⟩) (X.itemsOf fs i).length (X.itemsOf fs i).length] 161 (0,0))∧¬ L.S fs.length (L.fb i)
 nm:∀ i,i<fs.length→(∃ k,Mp w (L.nb i) k (X.topI (X.itemsOf fs i)))∧¬ L.S fs.length (L.nb i)
 its:∀ i,i<fs.length→∃ lo hi,IsIts w lo hi (L.iv i) (X.itemsOf fs i)∧hi≤w.heap.size∧∀ q,lo≤q→q<hi→¬ L.S fs.length q
 bd:∀ i it,it∈X.itemsOf fs i→X.itB 268435456 it
 il:∀ i,(X.itemsOf fs i).length≤268435456
 wl:L.tb<w.heap.size
 gl:∀ i,i<fs.length→L.gb i<w.heap.size∧L.gb i≠L.tb∧∀ j,j<fs.length→L.gb i=L.gb j→i=j
def uv (u:X.U):List Value:=[.int .i64 u.f,.int .i64 u.i,.int .i64 u.s,.int .i64 u.tf,.int .i64 u.tt,.int .i64 u.e]
def uvs (us:List X.U):List Value:=us.flatMap uv
theorem uvs_app (a b:List X.U):uvs (a++b)=uvs a++uvs b:=List.flatMap_append
theorem uvs_one (u:X.U):uvs [u]=uv u:=by show uv u++[]=_;rw [List.append_nil]
abbrev Mem:=Nat→Nat→Nat × X.An
structure Run (w0:World) (L:Lay) (fs:List X.Fl) (M:Mem) (us:List X.U) (w:World):Prop where
 st:St w0 L fs
 kp:Kp (L.S fs.length) w0 w
 tl:∃ nv,w.heap[L.tb]?=some (.cells #[.pointer (some ⟨L.wb,0,none⟩),.int .i64 L.tf,nv] 112 (0,0))∧w.ownsRow w0.heap.size 36 6 nv us.length (uvs us)
 fd:∀ i,i<fs.length→∃ arr,w.heap[L.gb i]?=some (.cells arr 205 (0,0))∧arr.size=(X.itemsOf fs i).length*4∧∀ k,k<(X.itemsOf fs i).length →
  arr[k*4]?=some (.int .i64 (M i k).1)∧arr[k*4+1]?=some (.int .i64 (M i k).2.1)∧arr[k*4+2]?=some (.int .i64 (M i k).2.2.1)∧arr[k*4+3]?=some (.int .i64 (M i k).2.2.2)
 lim:us.length≤1073741824
def UseB (w:World) (q:Nat):Prop:=∃ cs d,w.heap[q]?=some (.cells cs 36 d)
def Lay.Sx (L:Lay) (n B:Nat) (w:World) (q:Nat):Prop:=L.S n q∨(B≤q∧UseB w q)
def Kx (L:Lay) (n B:Nat) (w w':World):Prop:=Kp (L.Sx n B w) w w'
theorem Kx.refl (L:Lay) (n B:Nat) (w:World):Kx L n B w w:=Kp.refl _ w
theorem Kx.trans {L:Lay} {n B:Nat} {a b c:World} (h1:Kx L n B a b) (h2:Kx L n B b c):Kx L n B a c:=by
 refine Kp.trans h1 h2 (fun i hi hs=>?_)
 rcases hs with hs|⟨hB,cs,d,hu⟩
 ·exact .inl hs
 ·rcases Classical.em (L.Sx n B a i) with g|g
  ·exact g
  ·exact .inr ⟨hB,cs,d,by rw [← Kp.block h1 i hi g];exact hu⟩
theorem Kx.ofBelow {L:Lay} {n B:Nat} {w w':World} (h:Below w.heap.size w w'):Kx L n B w w':=Kp.ofBelow h _
theorem Kx.alloc {L:Lay} {n B:Nat} {a w:World} (h:Kx L n B a w) (o:Obj):Kx L n B a (w.alloc o):=Kp.alloc h o
theorem Kx.drew {L:Lay} {n B:Nat} {a w:World} (h:Kx L n B a w):Kx L n B a w.drew:=Kp.drew h
theorem Kx.st {L:Lay} {n:Nat} {w0 w w':World} (h:Kx L n w0.heap.size w w') (hk:Kp (L.S n) w0 w):Kp (L.S n) w0 w':=by
 refine Kp.trans hk h (fun i hi hs=>?_)
 rcases hs with hs|⟨hB,-⟩
 ·exact hs
 ·omega
theorem Kx.made {L:Lay} {n B:Nat} {w w':World} (h:Kx L n B w w') (hS:∀ q,L.S n q→q<B) {b:Nat} {o:Obj} (hb:w.heap[b]?=some o) (hB:B≤b) (ho:∀ cs d,o≠.cells cs 36 d):w'.heap[b]?=some o :=
 Kp.heap h hb (fun hs=>by
  rcases hs with hs|⟨-,cs,d,hu⟩
  ·have:=hS b hs;omega
  ·rw [hb] at hu;exact ho cs d (Option.some.inj hu))
theorem St.lt {w:World} {L:Lay} {fs:List X.Fl} (h:St w L fs):∀ q,L.S fs.length q→q<w.heap.size:=by
 intro q hq
 rcases hq with rfl|⟨i,hi,rfl⟩
 ·exact h.wl
 ·exact (h.gl i hi).1
variable {w0:World} {L:Lay} {fs:List X.Fl} {M:Mem} {us:List X.U} {w:World}
theorem Run.size (h:Run w0 L fs M us w):w0.heap.size≤w.heap.size:=h.kp.size
theorem Run.below (h:Run w0 L fs M us w) {w':World} (hb:Below w.heap.size w w'):Run w0 L fs M us w':=by
 have hk:=Kp.ofBelow hb (fun _=>False)
 refine ⟨h.st,h.kp.trans hk (fun _ _=>False.elim),?_,?_,h.lim⟩
 ·obtain ⟨nv,h1,h2⟩:=h.tl
  exact ⟨nv,hk.heap h1 id,hk.owns h2 (fun _ _=>id)⟩
 ·intro i hi
  obtain ⟨arr,h1,h2⟩:=h.fd i hi
  exact ⟨arr,hk.heap h1 id,h2⟩
theorem Run.alloc (h:Run w0 L fs M us w) (o:Obj):Run w0 L fs M us (w.alloc o):=h.below ((Below.refl _ w).alloc (Nat.le_refl _) o)
theorem Run.mods (h:Run w0 L fs M us w):∃ k,Mp w L.mb k (X.modI fs):=by
 obtain ⟨k,hm⟩:=h.st.mp
 exact ⟨k,hm.keep h.kp h.st.ms⟩
theorem Run.named (h:Run w0 L fs M us w) {i:Nat} (hi:i<fs.length):∃ k,Mp w (L.nb i) k (X.topI (X.itemsOf fs i)):=by
 obtain ⟨⟨k,hm⟩,hs⟩:=h.st.nm i hi
 exact ⟨k,hm.keep h.kp hs⟩
theorem Run.file (h:Run w0 L fs M us w) {i:Nat} (hi:i<fs.length):w.heap[L.fb i]?=some (.cells #[L.iv i,.map (some (L.nb i)),.slice (some ⟨L.gb i,0,none⟩) (X.itemsOf fs i).length (X.itemsOf fs i).length] 161 (0,0)):=by
 obtain ⟨hm,hs⟩:=h.st.fi i hi
 exact h.kp.heap hm hs
theorem Run.files (h:Run w0 L fs M us w) {i:Nat} (hi:i<fs.length):∃ g cap,L.fv=.slice (some ⟨g,0,none⟩) fs.length cap∧fs.length≤cap∧cap≤maxLen∧w.cell? ⟨g,i,none⟩=some (.pointer (some ⟨L.fb i,0,none⟩)):=by
 obtain ⟨ao,cap,h1,h2,h3,h4⟩:=h.st.fl
 obtain ⟨g,rfl,hs,hc⟩:=h4 i hi
 exact ⟨g,cap,h1,h2,h3,h.kp.cellv hc hs⟩
theorem Run.its (h:Run w0 L fs M us w) {i:Nat} (hi:i<fs.length):∃ lo hi,IsIts w lo hi (L.iv i) (X.itemsOf fs i)∧hi≤w0.heap.size∧∀ q,lo≤q→q<hi→¬ L.S fs.length q:=by
 obtain ⟨lo,hi,h1,h2,h3⟩:=h.st.its i hi
 obtain ⟨ao,cap,vs,e,c1,c2,c3,c4⟩:=h1.ex
 exact ⟨lo,hi,⟨ao,cap,vs,e,c1,c2,fun j hj=>by obtain ⟨g,x1,x2,x3,x4,c,f,x5⟩:=c3 j hj;exact ⟨g,x1,x2,x3,h.kp.cellv x4 (h3 g x2 x3),c,f,h.kp.heap x5 (h3 g x2 x3)⟩,fun j e hj=>(c4 j e hj).keep h.kp h3⟩,h2,h3⟩
theorem Run.item (h:Run w0 L fs M us w) {i k:Nat} {it:X.It} (hi:i<fs.length) (hk:(X.itemsOf fs i)[k]?=some it):∃ g cap v lo hi,L.iv i=.slice (some ⟨g,0,none⟩) (X.itemsOf fs i).length cap∧(X.itemsOf fs i).length≤cap∧cap≤maxLen∧w.cell? ⟨g,k,none⟩=some v∧IsIt w lo hi v it∧hi≤w0.heap.size∧∀ q,lo≤q→q<hi→¬ L.S fs.length q:=by
 obtain ⟨lo,hi',h1,h2,h3⟩:=h.its hi
 obtain ⟨ao,cap,vs,e,c1,c2,c3,c4⟩:=h1.ex
 have hkl:k<(X.itemsOf fs i).length:=by
  rcases Nat.lt_or_ge k (X.itemsOf fs i).length with g|g
  ·exact g
  ·rw [List.getElem?_eq_none g] at hk;cases hk
 obtain ⟨g,rfl,-,-,x4,-⟩:=c3 k hkl
 exact ⟨g,cap,vs k,lo,hi',e,c1,c2,x4,c4 k it hk,h2,h3⟩
theorem Run.wsp (h:Run w0 L fs M us w):w.cell? ⟨L.wb,0,none⟩=some (.map (some L.mb))∧w.cell? ⟨L.wb,1,none⟩=some L.fv:=by
 have h1:=h.kp.heap h.st.ws.1 h.st.ws.2
 exact ⟨cell_of_row w _ 0 _ _ _ h1,cell_of_row w _ 1 _ _ _ h1⟩
theorem Run.cells (h:Run w0 L fs M us w):∃ nv,w.cell? ⟨L.tb,0,none⟩=some (.pointer (some ⟨L.wb,0,none⟩))∧w.cell? ⟨L.tb,1,none⟩=some (.int .i64 L.tf)∧w.cell? ⟨L.tb,2,none⟩=some nv∧w.frozen? ⟨L.tb,2,none⟩=false∧w.ownsRow w0.heap.size 36 6 nv us.length (uvs us):=by
 obtain ⟨nv,h1,h2⟩:=h.tl
 exact ⟨nv,cell_of_row w _ 0 _ _ _ h1,cell_of_row w _ 1 _ _ _ h1,cell_of_row w _ 2 _ _ _ h1,frozen_of_row w _ 2 _ _ h1,h2⟩
theorem item_lt {i k:Nat} {it:X.It} (hk:(X.itemsOf fs i)[k]?=some it):i<fs.length∧k<(X.itemsOf fs i).length:=by
 refine ⟨X.itemsOf_lt hk,?_⟩
 rcases Nat.lt_or_ge k (X.itemsOf fs i).length with g|g
 ·exact g
 ·rw [List.getElem?_eq_none g] at hk;cases hk
theorem Run.itB (h:Run w0 L fs M us w) {i k:Nat} {it:X.It} (hk:(X.itemsOf fs i)[k]?=some it):X.itB 268435456 it:=h.st.bd i it (List.mem_of_getElem? hk)
end Go.Proofs.YtbmebfgapjhchaaGreatDoor
/- Package scope: nowhere,wrong,find. -/
namespace Go.Proofs.YtbmebfgapjhchaaGreatDoor
open Go.RowKit
open M
theorem res_place {fn:Func} {t:Tmp} (h:fn.results=#[.cell t 203]) (tmps:Array Value) (W:World) {b:Nat} {x n:Int} (ht:tmps[t]?.getD undef=.pointer (some ⟨b,0,none⟩)) (hb:W.heap[b]?=some (.cells #[.int .i64 x,.int .i64 n] 203 (0,0))) :
  (results fn tmps).run Tryz.prog W=.ok (.agg #[.int .i64 x,.int .i64 n]) W:=by
 have m0:=cell_of_row W _ 0 _ _ _ hb
 have m1:=cell_of_row W _ 1 _ _ _ hb
 simp [results,h,go_sem,ht,m0,m1]
theorem res_ans {fn:Func} {t:Tmp} (h:fn.results=#[.cell t 205]) (tmps:Array Value) (W:World) {b:Nat} {x1 x2 x3 x4:Int} (ht:tmps[t]?.getD undef=.pointer (some ⟨b,0,none⟩)) (hb:W.heap[b]?=some (.cells #[.int .i64 x1,.int .i64 x2,.int .i64 x3,.int .i64 x4] 205 (0,0))) :
  (results fn tmps).run Tryz.prog W=.ok (.agg #[.int .i64 x1,.int .i64 x2,.int .i64 x3,.int .i64 x4]) W:=by
 have m0:=cell_of_row W _ 0 _ _ _ hb
 have m1:=cell_of_row W _ 1 _ _ _ hb
 have m2:=cell_of_row W _ 2 _ _ _ hb
 have m3:=cell_of_row W _ 3 _ _ _ hb
 simp [results,h,go_sem,ht,m0,m1,m2,m3]
theorem kset4 {S:Nat→Prop} {w W:World} (hk:Kp S w W) {b:Nat} (hb:w.heap.size≤b) (x0 x1 x2 x3:Value):Kp S w ((((W.setCell ⟨b,0,none⟩ x0).setCell ⟨b,1,none⟩ x1).setCell ⟨b,2,none⟩ x2).setCell ⟨b,3,none⟩ x3) :=
 Kp.setCell (p:=⟨b,3,none⟩) (Kp.setCell (p:=⟨b,2,none⟩) (Kp.setCell (p:=⟨b,1,none⟩) (Kp.setCell (p:=⟨b,0,none⟩) hk (fun h=>absurd h (by simpa using hb)) _) (fun h=>absurd h (by simpa using hb)) _) (fun h=>absurd h (by simpa using hb)) _) (fun h=>absurd h (by simpa using hb)) _
theorem nowhere_any (w:World):Calls Tryz.prog 117 #[] w fun e w'=>e=.returned (.agg #[.int .i64 (-1),.int .i64 (-1)])∧Below w.heap.size w w':=by
 go_enter Tryz.func117,Tryz.ntmps117
 go_wp2_with fail
 exact bodyPost_ret (res_place rfl _ _ (b:=w.heap.size) rfl (heap_alloc_new w _)) rfl ⟨rfl,(Below.refl _ w).alloc (Nat.le_refl _) _⟩
set_option maxRecDepth 100000 in
theorem wrong_any (er:Nat) (w:World):Calls Tryz.prog 118 #[.int .i64 er] w fun e w'=>e=.returned (.agg #[.int .i64 2,.int .i64 (-1),.int .i64 (-1),.int .i64 er])∧Below w.heap.size w w':=by
 go_enter Tryz.func118,Tryz.ntmps118
 go_wp2_with fail
 refine (nowhere_any _).mono ?_
 rintro e w2 ⟨rfl,H2⟩
 have HB:Hid (Kp (fun _=>False) w w2):=(Kp.refl _ w).alloc _ |>.trans (Kp.ofBelow H2 (fun _=>False)) (fun _ _=>id)
 have HH:w2.heap[w.heap.size]?=some (.cells #[.int .i64 0,.int .i64 0,.int .i64 0,.int .i64 0] 205 (0,0)):=(Kp.ofBelow H2 (fun _=>False)).heap (heap_alloc_new w _) id
 clear H2
 have c0:=cell_of_row w2 _ 0 _ _ _ HH
 have c1:=cell_of_row w2 _ 1 _ _ _ HH
 have c2:=cell_of_row w2 _ 2 _ _ _ HH
 have c3:=cell_of_row w2 _ 3 _ _ _ HH
 have z0:=frozen_of_row w2 _ 0 _ _ HH
 have z1:=frozen_of_row w2 _ 1 _ _ HH
 have z2:=frozen_of_row w2 _ 2 _ _ HH
 have z3:=frozen_of_row w2 _ 3 _ _ HH
 have HHH:=hide HH
 clear HH
 go_wp2_with fail
 exact bodyPost_ret (res_ans rfl _ _ (b:=w.heap.size) rfl (set4_own HHH.out)) rfl ⟨rfl,(kset4 HB.out (Nat.le_refl _) _ _ _ _).below (Nat.le_refl _) (fun _=>False.elim)⟩
inductive IsBk (w:World) (B:Nat):Value→List (List X.Nm)→Prop
 | nil:IsBk w B (.pointer none) []
 | cons (b m k:Nat) (ns:List X.Nm) (v:Value) (sc:List (List X.Nm)) (hB:B≤b) (hm:B≤m) (h:w.heap[b]?=some (.cells #[.map (some m),v] 283 (0,0))) (hp:Mp w m k (X.first ns)) (ho:IsBk w B v sc):IsBk w B (.pointer (some ⟨b,0,none⟩)) (ns::sc)
theorem IsBk.keep {L:Lay} {n B:Nat} {w w':World} (hk:Kx L n B w w') (hS:∀ q,L.S n q→q<B) {v:Value} {sc:List (List X.Nm)} (h:IsBk w B v sc):IsBk w' B v sc:=by
 induction h with
 | nil=>exact .nil
 | cons b m k ns v sc hB hm h hp ho ih =>
  refine .cons b m k ns v sc hB hm (hk.made hS h hB (fun cs d e=>by cases e)) ?_ ih
  obtain ⟨es,clock,hb⟩:=hp.obj
  exact hp.keep hk (fun hs=>by
   rcases hs with hs|⟨-,cs,d,hu⟩
   ·have:=hS m hs;omega
   ·rw [hb] at hu;cases hu)
theorem IsBk.blw {B:Nat} {w w':World} (hk:Below w.heap.size w w') {v:Value} {sc:List (List X.Nm)} (h:IsBk w B v sc):IsBk w' B v sc:=by
 induction h with
 | nil=>exact .nil
 | cons b m k ns v sc hB hm h hp ho ih=>exact .cons b m k ns v sc hB hm ((Kp.ofBelow hk (fun _=>False)).heap h id) (hp.below hk) ih
theorem IsBk.len {w:World} {B:Nat} {v:Value} {sc sc':List (List X.Nm)} (h:IsBk w B v sc) (h':IsBk w B v sc'):sc.length=sc'.length:=by
 induction h generalizing sc' with
 | nil=>cases h' with|nil=>rfl
 | cons b m k ns v sc hB hm h hp ho ih =>
  cases h' with
  | cons _ m' k' ns' v' sc' _ _ h2 hp2 ho2 =>
   rw [h] at h2
   cases h2
   rw [List.length_cons,List.length_cons,ih ho2]
noncomputable def bkLen (w:World) (B:Nat) (v:Value):Nat:=open Classical in if h:∃ sc,IsBk w B v sc then (Classical.choose h).length else 0
theorem bkLen_eq {w:World} {B:Nat} {v:Value} {sc:List (List X.Nm)} (h:IsBk w B v sc):bkLen w B v=sc.length:=by
 unfold bkLen
 rw [dif_pos ⟨sc,h⟩]
 exact IsBk.len (Classical.choose_spec (⟨sc,h⟩:∃ sc,IsBk w B v sc)) h
set_option maxRecDepth 100000 in
theorem find_any (B:Nat) (bv:Value) (sc:List (List X.Nm)) (x:List UInt8) (w:World) (h:IsBk w B bv sc) (hx:x.length≤maxLen) :
  Calls Tryz.prog 152 #[bv,.string (ba x)] w fun e w'=>e=.returned (.tuple #[.int .i64 (((X.sight sc x).getD 0:Nat):Int),.bool (X.sight sc x).isSome])∧w'=w:=by
 have HB:=hide h
 clear h
 generalize hA:X.sight sc x=A
 have HQ:=hide hA
 clear hA
 go_enter Tryz.func152,Tryz.ntmps152
 go_wp2_with fail
 go_loopw [0] (fun av wr=>∃ sc',wr=w∧Hid (IsBk w B av sc')∧Hid (X.sight sc' x=A)) (fun av _=>bkLen w B av)
 case atStart=>exact ⟨sc,rfl,HB,HQ⟩
 case round =>
  obtain ⟨sc',rfl,HI,HS⟩:=hrel
  clear HB HQ
  have hlen:=bkLen_eq HI.out
  have hcs:(u0=.pointer none∧sc'=[])∨∃ b m k ns v sc2,u0=.pointer (some ⟨b,0,none⟩)∧sc'=ns::sc2∧wr.heap[b]?=some (.cells #[.map (some m),v] 283 (0,0))∧Mp wr m k (X.first ns)∧IsBk wr B v sc2:=by
   cases HI.out with
   | nil=>exact .inl ⟨rfl,rfl⟩
   | cons b m k ns v sc hB hm h hp ho=>exact .inr ⟨b,m,k,ns,v,sc,rfl,rfl,h,hp,ho⟩
  rcases hcs with ⟨rfl,rfl⟩|⟨b,m,k,ns,v,sc2,rfl,rfl,hb,hp,ho⟩
  ·go_wp2_with fail
   go_ret2
   refine ⟨?_,rfl⟩
   rw [← HS.out]
   rfl
  ·have c0:=cell_of_row wr _ 0 _ _ _ hb
   have c1:=cell_of_row wr _ 1 _ _ _ hb
   have hrun:=hp.run_ok hx
   have hl2:=bkLen_eq ho
   have HO:=hide ho
   cases hf:X.first ns x with
   | some i =>
    rw [hf] at hrun
    have hrun':(Instr.lookup 85 (.map (some m)) (.string (ba x)) true).run Tryz.prog wr=.ok (.tuple #[.int .i64 (i:Nat),.bool true]) wr:=hrun
    have HS2:Hid (A=some i):=by rw [← HS.out,X.sight,hf];exact hide rfl
    clear hrun hp ho HI HS hb hf hlen hl2 HO
    go_wp2_with fail
    go_ret2
    refine ⟨?_,rfl⟩
    rw [HS2.out]
    rfl
   | none =>
    rw [hf] at hrun
    have hrun':(Instr.lookup 85 (.map (some m)) (.string (ba x)) true).run Tryz.prog wr=.ok (.tuple #[.int .i64 0,.bool false]) wr:=hrun
    have HS2:Hid (X.sight sc2 x=A):=by rw [← HS.out];rw [X.sight,hf];exact hide rfl
    clear hrun hp ho HI HS hb hf
    go_wp2_with fail
    exact ⟨⟨sc2,trivial,HO,HS2⟩,by rw [hlen,hl2];simp⟩
end Go.Proofs.YtbmebfgapjhchaaGreatDoor
/- Package scope: a name is told. -/
namespace Go.Proofs.YtbmebfgapjhchaaGreatDoor
open Go.RowKit
open M
theorem infoU:(Tryz.prog.info? 36).map (fun i=>(i.zero,i.size,i.bytes))=some (some (.agg #[.int .i64 0,.int .i64 0,.int .i64 0,.int .i64 0,.int .i64 0,.int .i64 0]),6,48):=by kernel_rfl
variable {w0:World} {L:Lay} {fs:List X.Fl} {M:Mem} {us:List X.U} {w:World}
theorem Run.told (h:Run w0 L fs M us w) {w3 w5:World} (hb:Below w.heap.size w w3) {nv:Value} (hnv:w.cell? ⟨L.tb,2,none⟩=some nv) (u:X.U) {g cap:Nat} (hown:w5.ownsRow w0.heap.size 36 6 (.slice (some ⟨g,0,none⟩) (us.length+1) cap) (us.length+1) (uvs us++uv u)) (hgrow:w3.grownBy w5 nv.ownBlock) (hlim:us.length+1≤1073741824) :
  Run w0 L fs M (us++[u]) (w5.setCell ⟨L.tb,2,none⟩ (.slice (some ⟨g,0,none⟩) (us.length+1) cap))∧Kx L fs.length w0.heap.size w (w5.setCell ⟨L.tb,2,none⟩ (.slice (some ⟨g,0,none⟩) (us.length+1) cap)):=by
 have h3:=h.below hb
 obtain ⟨nv',hw,hown0⟩:=h.tl
 have e0:=cell_of_row w _ 2 _ _ _ hw
 rw [hnv] at e0
 obtain rfl:nv=nv':=Option.some.inj e0
 have hsz:=h.size
 have hS:=h.st.lt
 have hnb:∀ q,nv.ownBlock=some q→w0.heap.size≤q∧UseB w q:=by
  intro q hq
  refine ⟨(owns_ge hown0 q hq).1,?_⟩
  rcases hown0.2 with ⟨rfl,-⟩|⟨g',cap',cur,rfl,hge,hgg,-⟩
  ·cases hq
  ·cases hq
   exact ⟨_,_,hgg⟩
 have k35:Kp (fun q=>nv.ownBlock=some q) w3 w5:=(Kp.refl _ w3).grown hgrow (fun q e _=>e)
 have hwb3:L.tb<w3.heap.size:=Nat.lt_of_lt_of_le h.st.wl h3.size
 have hwb5:w5.heap[L.tb]?=some (.cells #[.pointer (some ⟨L.wb,0,none⟩),.int .i64 L.tf,nv] 112 (0,0)):=by
  refine k35.heap ((Kp.ofBelow hb (fun _=>False)).heap hw id) (fun e=>?_)
  have:=(hnb _ e).1
  have:=h.st.wl
  omega
 have k56:Kp (fun q=>q=L.tb) w5 (w5.setCell ⟨L.tb,2,none⟩ (.slice (some ⟨g,0,none⟩) (us.length+1) cap)):=Kp.setCell (S:=fun q=>q=L.tb) (p:=⟨L.tb,2,none⟩) (Kp.refl _ w5) (fun _=>rfl) _
 have kx:Kx L fs.length w0.heap.size w (w5.setCell ⟨L.tb,2,none⟩ (.slice (some ⟨g,0,none⟩) (us.length+1) cap)):=by
  refine Kp.trans (Kp.trans (Kp.ofBelow hb _) k35 (fun i hi e=>.inr (hnb i e))) k56 (fun i hi e=>.inl (.inl e))
 refine ⟨⟨h.st,kx.st h.kp,⟨_,(set_cells hwb5 2 _),?_⟩,fun i hi=>?_,?_⟩,kx⟩
 ·have e:(us++[u]).length=us.length+1:=by simp
  rw [e,uvs_app,uvs_one]
  refine k56.owns hown (fun q hq e=>?_)
  have:=(owns_ge hown q hq).1
  have:=h.st.wl
  omega
 ·obtain ⟨arr,x1,x2,x3⟩:=h.fd i hi
  have hgi:=h.st.gl i hi
  refine ⟨arr,k56.heap (k35.heap ((Kp.ofBelow hb (fun _=>False)).heap x1 id) (fun e=>?_)) hgi.2.1,x2,x3⟩
  have:=(hnb _ e).1
  omega
 ·rw [List.length_append];simpa using hlim
set_option maxRecDepth 100000 in
set_option maxHeartbeats 4000000 in
theorem tadd_any (n:X.Nm) (s:Nat) (tf tt:Int) (er:Nat) (h:Run w0 L fs M us w) (hlim:us.length+(X.tellU L.tf n s (tf,tt,er)).length≤1073741824) :
  Calls Tryz.prog 92 #[.pointer (some ⟨L.tb,0,none⟩),.agg #[.string (ba n.1),.int .i64 n.2],.int .i64 s,.agg #[.int .i64 tf,.int .i64 tt],.int .i64 er] w fun e w'=>e=.returned (.tuple #[])∧Hid (Run w0 L fs M (us++X.tellU L.tf n s (tf,tt,er)) w'∧Kx L fs.length w0.heap.size w w'):=by
 have HR:=hide h
 obtain ⟨i0,hi0,hz0,hz1,hz2⟩:=info_parts infoU
 have HT:Hid (X.tellU L.tf n s (tf,tt,er)=if n.1=[] then [] else [⟨L.tf,n.2,s,tf,tt,er⟩]):=hide rfl
 generalize X.tellU L.tf n s (tf,tt,er)=tl at *
 clear h
 go_enter Tryz.func92,Tryz.ntmps92
 go_wp2_with fail
 have kA:Below w.heap.size w ((w.alloc (.cells #[.string (ba n.1),.int .i64 n.2] 165)).alloc (.cells #[.int .i64 tf,.int .i64 tt] 203)):=((Below.refl _ w).alloc (Nat.le_refl _) _).alloc (by simp) _
 refine (nameMissing_any n.1 n.2 _).mono ?_
 rintro e w2 ⟨rfl,B2⟩
 have kB:Below w.heap.size w w2:=kA.trans (B2.mono (by simp;omega))
 have hN:w2.heap[w.heap.size]?=some (.cells #[.string (ba n.1),.int .i64 n.2] 165 (0,0)):=(Kp.ofBelow B2 (fun _=>False)).heap ((heap_alloc_old _ _ (by simp)).trans (heap_alloc_new w _)) id
 have hP:w2.heap[w.heap.size+1]?=some (.cells #[.int .i64 tf,.int .i64 tt] 203 (0,0)):=(Kp.ofBelow B2 (fun _=>False)).heap (by have:=heap_alloc_new (w.alloc (.cells #[.string (ba n.1),.int .i64 n.2] 165)) (.cells #[.int .i64 tf,.int .i64 tt] 203);simpa using this) id
 have HB:=hide kB
 clear kA kB B2
 by_cases hn:n.1=[]
 ·have e1:n.1.isEmpty=true:=by rw [hn];rfl
  rw [if_pos hn] at HT
  have HF:Hid (Run w0 L fs M (us++tl) w2∧Kx L fs.length w0.heap.size w w2):=by rw [HT.out,List.append_nil];exact ⟨(HR.out).below HB.out,Kx.ofBelow HB.out⟩
  clear HT hN hP hlim
  rw [e1]
  go_wp2_with fail
  go_end0
  exact ⟨rfl,HF⟩
 ·have e1:n.1.isEmpty=false:=by cases hx:n.1 with|nil=>exact absurd hx hn|cons a l=>rfl
  rw [if_neg hn] at HT
  have n1:=cell_of_row w2 _ 1 _ _ _ hN
  have p0:=cell_of_row w2 _ 0 _ _ _ hP
  have p1:=cell_of_row w2 _ 1 _ _ _ hP
  have hPl:=heap_lt hP
  have R2:=(HR.out).below HB.out
  obtain ⟨nv,-,t1,b2,f2,hown⟩:=R2.cells
  have hwl:L.tb<w2.heap.size:=Nat.lt_of_lt_of_le R2.st.wl R2.size
  have hwb:L.tb<w0.heap.size:=R2.st.wl
  have hw0:w0.heap.size≤w.heap.size:=(HR.out).size
  have hnb:∀ q,nv.ownBlock=some q→w0.heap.size≤q∧q≠w.heap.size∧q≠w.heap.size+1:=by
   intro q hq
   obtain ⟨hge,c,f,hc⟩:=owns_typed hown hq
   refine ⟨hge,fun e=>?_,fun e=>?_⟩
   ·rw [e,hN] at hc;cases hc
   ·rw [e,hP] at hc;cases hc
  have HNB:=hide hnb
  have HO:=hide hown
  have HR2:=hide R2
  have htl:tl.length=1:=by rw [HT.out];rfl
  rw [htl] at hlim
  have hul:us.length≤1073741824:=by omega
  have hul2:(us.length+1)*48≤140737488355328:=by omega
  clear htl hnb hown R2 hN hP
  rw [e1]
  have HZ:Hid (w.heap.size+1<w2.heap.size):=hPl
  have HZ0:=hide hw0
  clear hw0
  go_wp2_with fail
  refine wpTo_start (S:=fun w'=>w'.cell? ⟨L.tb,1,none⟩=some (.int .i64 L.tf)∧w'.cell? ⟨w.heap.size,1,none⟩=some (.int .i64 n.2)∧w'.cell? ⟨w.heap.size+1,0,none⟩=some (.int .i64 tf)∧w'.cell? ⟨w.heap.size+1,1,none⟩=some (.int .i64 tt)∧w'.cell? ⟨L.tb,2,none⟩=some nv) (z:=22) (by kernel_rfl) ?_
  have hS:w2.drew.cell? ⟨L.tb,1,none⟩=some (.int .i64 L.tf)∧w2.drew.cell? ⟨w.heap.size,1,none⟩=some (.int .i64 n.2)∧w2.drew.cell? ⟨w.heap.size+1,0,none⟩=some (.int .i64 tf)∧w2.drew.cell? ⟨w.heap.size+1,1,none⟩=some (.int .i64 tt)∧w2.drew.cell? ⟨L.tb,2,none⟩=some nv:=⟨t1,n1,p0,p1,b2⟩
  iterate 18 (refine wpTo_nx0 (v:=?_) rfl rfl (by kernel_rfl) (by kernel_rfl) (by kernel_rfl) (by kernel_rfl) (fun _ _ _ h=>h) (Or.inl ⟨by rfl,?_⟩) hS ?_;rotate_left;(· (intro wx hSw;(try dsimp only at hSw);go_simp;try (with_reducible rfl)));simp only [Act.put,List.setIfInBounds_toArray,List.set_cons_zero,List.set_cons_succ])
  refine wpTo_one (i:=18) (by kernel_rfl) rfl (fun K hK=>?_)
  go_simp
  refine hK.out _ _ (fun _=>by first|go_keep|(dsimp only;go_keep)) (fun hS2=>?_)
  clear hS hK K
  have hS:=hS2 (by decide)
  clear hS2
  refine wpTo_one (i:=19) (by kernel_rfl) rfl (fun K hK=>?_)
  refine step_append_lies _ (by rfl) _ _ _ (by rfl) w0.heap.size 36 i0 _ 6 48 Tryz.underlying31 hi0 hz0 hz1 hz2 rfl (by omega) nv us.length _ (by rfl) (((HO.out:w2.ownsRow _ _ _ _ _ _).alloc _).drew)
   ⟨w2.heap.size,0,none⟩ 1 1 (uv ⟨L.tf,n.2,s,tf,tt,er⟩) (by rfl) (by rfl) (World.news_of_block (cs:=#[.int .i64 L.tf,.int .i64 n.2,.int .i64 s,.int .i64 tf,.int .i64 tt,.int .i64 er]) (t:=36) (fr:=(0,0)) (heap_alloc_new w2 _)) (by simp [Value.oneCell',uv])
   (by omega) (by unfold maxLen;omega) hul2 (by have:=HZ0.out;have:=HZ.out;simp;omega) (w2.heap.size+1) (by simp) ?_
  intro g cap5 w5 hown5 hgrow5 hat5 hlt5
  have nb:=HNB.out
  have hz:=HZ.out
  have hwn:some L.tb≠nv.ownBlock:=fun e=>by have:=(nb _ e.symm).1;omega
  have y1:=(hgrow5.cell_far ⟨L.tb,1,none⟩ (by simp;omega) hwn).trans hS.1
  have y2:=(hgrow5.cell_far ⟨w.heap.size,1,none⟩ (by simp;omega) (fun e=>(nb _ e.symm).2.1 rfl)).trans hS.2.1
  have y3:=(hgrow5.cell_far ⟨w.heap.size+1,0,none⟩ (by simp;omega) (fun e=>(nb _ e.symm).2.2 rfl)).trans hS.2.2.1
  have y4:=(hgrow5.cell_far ⟨w.heap.size+1,1,none⟩ (by simp;omega) (fun e=>(nb _ e.symm).2.2 rfl)).trans hS.2.2.2.1
  have y5:w5.cell? ⟨L.tb,2,none⟩=some nv:=(hgrow5.cell_far ⟨L.tb,2,none⟩ (by simp;omega) hwn).trans hS.2.2.2.2
  have x2:w5.frozen? ⟨L.tb,2,none⟩=false:=(hgrow5.frozen_far ⟨L.tb,2,none⟩ (by simp;omega) hwn).trans ((World.frozen?_alloc_old _ _ ⟨L.tb,2,none⟩ (by simp;omega)).trans f2)
  show K (Act.put _ (some 32) _) w5
  refine hK.out _ _ (fun _=>⟨y1,y2,y3,y4,y5⟩) (fun hS2=>?_)
  clear hS hK K
  have hS:=hS2 (by decide)
  clear hS2
  simp only [Act.put,List.setIfInBounds_toArray,List.set_cons_zero,List.set_cons_succ]
  refine wpTo_one (i:=20) (by kernel_rfl) rfl (fun K hK=>?_)
  go_simp
  refine hK.out _ _ (fun _=>hS) (fun _=>?_)
  clear hK K
  refine wpTo_one (i:=21) (by kernel_rfl) rfl (fun K hK=>?_)
  go_simp
  refine hK.out _ _ (fun _=>hS) (fun _=>?_)
  clear hK K
  refine wpTo_one (i:=22) (by kernel_rfl) rfl (fun K hK=>?_)
  go_simp
  refine hK.out _ _ (fun h=>absurd rfl h) (fun _=>wpTo_end (by kernel_rfl) ?_)
  clear hK K
  have HF:Hid (Run w0 L fs M (us++tl) (w5.setCell ⟨L.tb,2,none⟩ (.slice (some ⟨g,0,none⟩) (us.length+1) cap5))∧Kx L fs.length w0.heap.size w (w5.setCell ⟨L.tb,2,none⟩ (.slice (some ⟨g,0,none⟩) (us.length+1) cap5))):=by
   have hb3:Below w2.heap.size w2 (w2.alloc (.cells #[.int .i64 L.tf,.int .i64 n.2,.int .i64 s,.int .i64 tf,.int .i64 tt,.int .i64 er] 36)).drew:=((Below.refl _ w2).alloc (Nat.le_refl _) _).drew
   have:=Run.told HR2.out hb3 b2 ⟨L.tf,n.2,s,tf,tt,er⟩ hown5 hgrow5 (by omega)
   rw [HT.out]
   exact ⟨this.1,(Kx.ofBelow HB.out).trans this.2⟩
  clear y1 y2 y3 y4 y5 x2 hS hown5 hgrow5 hat5 nb
  go_wp2_with fail
  go_end0
  exact ⟨rfl,HF⟩
end Go.Proofs.YtbmebfgapjhchaaGreatDoor
/- Package scope: what is remembered of uses. -/
namespace Go.Proofs.YtbmebfgapjhchaaGreatDoor
open Go.RowKit
open M
theorem arr_set4 (arr:Array Value) (k n:Nat) (hn:arr.size=n*4) (hk:k<n) (x0 x1 x2 x3:Value) (k':Nat) (hk':k'<n) :
  let A:=(((arr.setIfInBounds (k*4) x0).setIfInBounds (k*4+1) x1).setIfInBounds (k*4+2) x2).setIfInBounds (k*4+3) x3
  A.size=n*4∧A[k'*4]?=(if k'=k then some x0 else arr[k'*4]?)∧A[k'*4+1]?=(if k'=k then some x1 else arr[k'*4+1]?)∧A[k'*4+2]?=(if k'=k then some x2 else arr[k'*4+2]?)∧A[k'*4+3]?=(if k'=k then some x3 else arr[k'*4+3]?):=by
 intro A
 refine ⟨by simp [A,hn],?_,?_,?_,?_⟩
 all_goals
  simp only [A,Array.getElem?_setIfInBounds,Array.size_setIfInBounds,hn]
  by_cases e:k'=k
  ·subst e
   simp
   omega
  ·rw [if_neg e]
   repeat (rw [if_neg (by omega)])
theorem arr_set1 (arr:Array Value) (k n:Nat) (hn:arr.size=n*4) (hk:k<n) (x0:Value) (k':Nat) :
  let A:=arr.setIfInBounds (k*4) x0
  A.size=n*4∧A[k'*4]?=(if k'=k then some x0 else arr[k'*4]?)∧A[k'*4+1]?=arr[k'*4+1]?∧A[k'*4+2]?=arr[k'*4+2]?∧A[k'*4+3]?=arr[k'*4+3]?:=by
 intro A
 refine ⟨by simp [A,hn],?_,?_,?_,?_⟩
 ·simp only [A,Array.getElem?_setIfInBounds,hn]
  by_cases e:k'=k
  ·subst e
   simp
   omega
  ·rw [if_neg e,if_neg (by omega)]
 all_goals
  simp only [A,Array.getElem?_setIfInBounds,hn]
  rw [if_neg (by omega)]
def setM (M:Mem) (i k:Nat) (v:Nat × X.An):Mem:=fun i' k'=>if i'=i∧k'=k then v else M i' k'
theorem setM_same (M:Mem) (i k:Nat) (v:Nat × X.An):setM M i k v i k=v:=if_pos ⟨rfl,rfl⟩
theorem setM_other (M:Mem) (i k:Nat) (v:Nat × X.An) {i' k':Nat} (h:¬(i'=i∧k'=k)):setM M i k v i' k'=M i' k':=if_neg h
def MOk (fs:List X.Fl) (M:Mem):Prop:=∀ i k,(M i k).1≤2∧((M i k).1=2→X.EvA fs i k (M i k).2)
def cnt (fs:List X.Fl) (M:Mem):Nat:=((X.useP fs).filter (fun p=>(M p.1 p.2).1==0)).length
theorem filter_less {α:Type} (p q:α→Bool) (hq:∀ x,q x=true→p x=true) {a:α} (ha:p a=true) (hb:q a=false):∀ l:List α,a∈l→(l.filter q).length<(l.filter p).length
 | [],h=>by cases h
 | x::l,h=>by
  have hle:∀ l:List α,(l.filter q).length≤(l.filter p).length:=fun l=>by
   induction l with
   | nil=>exact Nat.le_refl _
   | cons y l ih =>
    rw [List.filter_cons,List.filter_cons]
    cases hy:q y with
    | true=>rw [hq y hy];simpa using ih
    | false=>cases p y<;>simp<;>omega
  rw [List.filter_cons,List.filter_cons]
  rcases List.mem_cons.1 h with rfl|g
  ·rw [ha,hb]
   have:=hle l
   simp;omega
  ·have:=filter_less p q hq ha hb l g
   cases hy:q x with
   | true=>rw [hq x hy];simpa using this
   | false=>cases p x<;>simp<;>omega
theorem cnt_less {fs:List X.Fl} {M:Mem} {i k:Nat} (hm:(i,k)∈X.useP fs) (h0:(M i k).1=0) {v:Nat × X.An} (hv:v.1≠0):cnt fs (setM M i k v)<cnt fs M:=by
 refine filter_less _ _ (fun x hx=>?_) (a:=(i,k)) (by simpa using h0) (by rw [setM_same];simpa using hv) _ hm
 by_cases e:x.1=i∧x.2=k
 ·obtain ⟨e1,e2⟩:=e
  rw [e1,e2,setM_same] at hx
  simp at hx
  exact absurd hx hv
 ·rw [setM_other M i k v e] at hx;exact hx
variable {w0:World} {L:Lay} {fs:List X.Fl} {M:Mem} {us:List X.U} {w:World}
theorem Run.turn (h:Run w0 L fs M us w) {i:Nat} (hi:i<fs.length) {w':World} {arr:Array Value} (hk:Kp (fun q=>q=L.gb i) w w') (hb:w'.heap[L.gb i]?=some (.cells arr 205 (0,0))) {M':Mem} (hs:arr.size=(X.itemsOf fs i).length*4)
  (hM:∀ k,k<(X.itemsOf fs i).length→arr[k*4]?=some (.int .i64 (M' i k).1)∧arr[k*4+1]?=some (.int .i64 (M' i k).2.1)∧arr[k*4+2]?=some (.int .i64 (M' i k).2.2.1)∧arr[k*4+3]?=some (.int .i64 (M' i k).2.2.2))
  (ho:∀ j k,j≠i→M' j k=M j k):Run w0 L fs M' us w'∧Kx L fs.length w0.heap.size w w':=by
 have kx:Kx L fs.length w0.heap.size w w':=hk.mono (fun q _ e=>.inl (.inr ⟨i,hi,e⟩))
 refine ⟨⟨h.st,kx.st h.kp,?_,fun j hj=>?_,h.lim⟩,kx⟩
 ·obtain ⟨nv,h1,h2⟩:=h.tl
  have hg:=h.st.gl i hi
  refine ⟨nv,hk.heap h1 (fun e=>hg.2.1 e.symm),hk.owns h2 (fun q hq e=>?_)⟩
  have:=(owns_ge h2 q hq).1
  omega
 ·by_cases e:j=i
  ·subst e
   exact ⟨arr,hb,hs,hM⟩
  ·obtain ⟨a2,x1,x2,x3⟩:=h.fd j hj
   refine ⟨a2,hk.heap x1 (fun e'=>e ((h.st.gl j hj).2.2 i hi e')),x2,fun k hk=>?_⟩
   rw [ho j k e]
   exact x3 k hk
theorem Run.ask (h:Run w0 L fs M us w) {i k:Nat} (hi:i<fs.length) (hk:k<(X.itemsOf fs i).length):Run w0 L fs (setM M i k (1,(M i k).2)) us (w.setCell ⟨L.gb i,k*4,none⟩ (.int .i64 1))∧Kx L fs.length w0.heap.size w (w.setCell ⟨L.gb i,k*4,none⟩ (.int .i64 1)):=by
 obtain ⟨arr,x1,x2,x3⟩:=h.fd i hi
 refine h.turn hi (arr:=arr.setIfInBounds (k*4) (.int .i64 1)) (Kp.setCell (S:=fun q=>q=L.gb i) (p:=⟨L.gb i,k*4,none⟩) (Kp.refl _ w) (fun _=>rfl) _) (set_cells x1 _ _) (by simp [x2]) (fun k' hk'=>?_) (fun j k' hj=>setM_other M i k _ (fun e=>hj e.1))
 obtain ⟨-,y0,y1,y2,y3⟩:=arr_set1 arr k _ x2 hk (.int .i64 1) k'
 obtain ⟨z0,z1,z2,z3⟩:=x3 k' hk'
 rw [y0,y1,y2,y3]
 by_cases e:k'=k
 ·subst e
  rw [setM_same,if_pos rfl]
  exact ⟨rfl,z1,z2,z3⟩
 ·rw [setM_other M i k _ (fun e'=>e e'.2),if_neg e]
  exact ⟨z0,z1,z2,z3⟩
theorem Run.know (h:Run w0 L fs M us w) {i k:Nat} (hi:i<fs.length) (hk:k<(X.itemsOf fs i).length) (tf tt:Int) (er:Nat) :
  Run w0 L fs (setM M i k (2,(tf,tt,er))) us ((((w.setCell ⟨L.gb i,k*4,none⟩ (.int .i64 2)).setCell ⟨L.gb i,k*4+1,none⟩ (.int .i64 tf)).setCell ⟨L.gb i,k*4+2,none⟩ (.int .i64 tt)).setCell ⟨L.gb i,k*4+3,none⟩ (.int .i64 er)) ∧
  Kx L fs.length w0.heap.size w ((((w.setCell ⟨L.gb i,k*4,none⟩ (.int .i64 2)).setCell ⟨L.gb i,k*4+1,none⟩ (.int .i64 tf)).setCell ⟨L.gb i,k*4+2,none⟩ (.int .i64 tt)).setCell ⟨L.gb i,k*4+3,none⟩ (.int .i64 er)):=by
 obtain ⟨arr,x1,x2,x3⟩:=h.fd i hi
 have hkp:∀ (o:Nat) (v:Value) (W:World),Kp (fun q=>q=L.gb i) w W→Kp (fun q=>q=L.gb i) w (W.setCell ⟨L.gb i,o,none⟩ v):=fun o v W hW=>Kp.setCell (S:=fun q=>q=L.gb i) (p:=⟨L.gb i,o,none⟩) hW (fun _=>rfl) v
 refine h.turn hi (hkp _ _ _ (hkp _ _ _ (hkp _ _ _ (hkp _ _ _ (Kp.refl _ w))))) (set_cells (set_cells (set_cells (set_cells x1 _ _) _ _) _ _) _ _) (by simp [x2]) (fun k' hk'=>?_) (fun j k' hj=>setM_other M i k _ (fun e=>hj e.1))
 obtain ⟨-,y0,y1,y2,y3⟩:=arr_set4 arr k _ x2 hk (.int .i64 2) (.int .i64 tf) (.int .i64 tt) (.int .i64 er) k' hk'
 obtain ⟨z0,z1,z2,z3⟩:=x3 k' hk'
 rw [y0,y1,y2,y3]
 by_cases e:k'=k
 ·subst e
  rw [setM_same,if_pos rfl,if_pos rfl,if_pos rfl,if_pos rfl]
  exact ⟨rfl,rfl,rfl,rfl⟩
 ·rw [setM_other M i k _ (fun e'=>e e'.2),if_neg e,if_neg e,if_neg e,if_neg e]
  exact ⟨z0,z1,z2,z3⟩
theorem Run.ans (h:Run w0 L fs M us w) {i k:Nat} (hi:i<fs.length) (hk:k<(X.itemsOf fs i).length) :
  (w.cell? ⟨L.gb i,k*4,none⟩=some (.int .i64 (M i k).1)∧w.cell? ⟨L.gb i,k*4+1,none⟩=some (.int .i64 (M i k).2.1)∧w.cell? ⟨L.gb i,k*4+2,none⟩=some (.int .i64 (M i k).2.2.1)∧w.cell? ⟨L.gb i,k*4+3,none⟩=some (.int .i64 (M i k).2.2.2)) ∧
  ∀ o,w.frozen? ⟨L.gb i,o,none⟩=false:=by
 obtain ⟨arr,x1,x2,x3⟩:=h.fd i hi
 obtain ⟨z0,z1,z2,z3⟩:=x3 k hk
 have hc:∀ o,w.cell? ⟨L.gb i,o,none⟩=arr[o]?:=fun o=>cell_of_row w _ o _ _ _ x1
 exact ⟨⟨(hc _).trans z0,(hc _).trans z1,(hc _).trans z2,(hc _).trans z3⟩,fun o=>frozen_of_row w _ o _ _ x1⟩
theorem St.item {w:World} (h:St w L fs) {i k:Nat} {it:X.It} (hi:i<fs.length) (hk:(X.itemsOf fs i)[k]?=some it):∃ g cap v lo hi,L.iv i=.slice (some ⟨g,0,none⟩) (X.itemsOf fs i).length cap∧(X.itemsOf fs i).length≤cap∧cap≤maxLen∧w.cell? ⟨g,k,none⟩=some v∧¬ L.S fs.length g∧IsIt w lo hi v it∧hi≤w.heap.size∧∀ q,lo≤q→q<hi→¬ L.S fs.length q:=by
 obtain ⟨lo,hi',h1,h2,h3⟩:=h.its i hi
 obtain ⟨ao,cap,vs,e,c1,c2,c3,c4⟩:=h1.ex
 obtain ⟨g,rfl,x2,x3,x4,-⟩:=c3 k (item_lt hk).2
 exact ⟨g,cap,vs k,lo,hi',e,c1,c2,x4,h3 g x2 x3,c4 k it hk,h2,h3⟩
end Go.Proofs.YtbmebfgapjhchaaGreatDoor
