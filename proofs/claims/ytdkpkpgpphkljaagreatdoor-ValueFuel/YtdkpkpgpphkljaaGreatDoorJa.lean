/- Package scope: maps of texts to numbers in memory. -/
import Derived.Test.YtdkpkpgpphkljaaGreatDoorVyd
namespace Go.Proofs.YtdkpkpgpphkljaaGreatDoor
set_option maxRecDepth 100000
set_option maxHeartbeats 8000000
open Go.RowKit
open M
section
open Tryz
open Go.Maps (Keyed)
variable{w w':World}{b n:Nat}{g:ah→Option Nat}{k:ah}
theorem Xr:Keyed prog 9:=Go.Maps.string_keyed underlying9
theorem WE(w:World):(zeroValue 3).run prog w=.ok (.int .i64 0) w:=by kernel_rfl
def Mp(w:World)(b n:Nat)(g:ah→Option Nat):Prop :=
 ∃ D:DataW Unit,w.ownsMap prog 9 (plainElem prog 3) b n D∧∀ x:ah,Maps.has D (.string x)=(g x).isSome∧∀ i,g x=some i→D.atKey (.string x) (.lit (.int .i64 0))=.lit (.int .i64 i)
theorem Mp.lt{w:World}{b n:Nat}{g:ah→Option Nat}(h:Mp w b n g):b<w.heap.size:=by
 obtain⟨D,h1,-⟩:=h;exact h1.lt
theorem Mp.made(w:World):Mp (w.alloc (.map #[] 0)) w.heap.size 0 (fun _=>none) :=
 ⟨.map [],World.ownsMap_made w _ _ _,fun x=>⟨rfl,fun i h=>by cases h⟩⟩
theorem Mp.keep{S:Nat→Prop}(h:Mp w b n g)(hk:Kp S w w')(hn:¬ S b):Mp w' b n g:=by
 obtain⟨D,⟨es,clock,hb,r⟩,h2⟩:=h;exact⟨D,⟨es,clock,hk.heap hb hn,r⟩,h2⟩
theorem Mp.below(h:Mp w b n g)(hk:Below w.heap.size w w'):Mp w' b n g:=h.keep (Kp.aI hk (fun _=>False)) id
theorem Mp.obj(h:Mp w b n g):∃ es clock,w.heap[b]?=some (.map es clock):=by
 obtain⟨D,⟨es,clock,hb,r⟩,h2⟩:=h;exact⟨es,clock,hb⟩
theorem Mp.congr{g':ah→Option Nat}(h:Mp w b n g)(e:∀ x,g x=g' x):Mp w b n g':=by
 have:g=g':=funext e;rw[← this];exact h
theorem IB(hk:k.length≤maxLen):keyOf prog 9 (.string (ba k))=some (.string k):=by
 have:=Go.WideMaps.keyOf_string_mk underlying9 (s:=ba k) (by rw[iW];exact hk);rw[this];simp[ba]
theorem Mp.nV(h:Mp w b n g)(hk:k.length≤maxLen) :
  (Instr.lookup 103 (.map (some b)) (.string (ba k)) true).run prog w=.ok (.tuple #[.int .i64 (((g k).getD 0:Nat):Int),.bool (g k).isSome]) w:=by
 obtain⟨D,h1,h2⟩:=h;obtain⟨v,ps,hr,hv⟩:=h1.look_ok Xr underlying103 (WE w) (plainElem_int underlying3 (by decide)) (IB hk);obtain⟨c,rfl,hc,-⟩:=plainElem_int_inv underlying3 hv;have hc1:D.atKey (.string k) (.lit (.int .i64 0))=.lit (.int .i64 c):=congrArg Prod.fst hc;rw[hr,(h2 k).1];cases hg:g k with
 | none =>
  have:=Maps.atKey_of_not_has (D:=D) (k:=.string k) (by rw[(h2 k).1,hg];rfl) (.lit (.int .i64 0));rw[this] at hc1;cases hc1
  rfl
 | some i =>
  rw[(h2 k).2 i hg] at hc1;cases hc1
  rfl
theorem Mp.Xt(h:Mp w b n g)(hk:k.length≤maxLen) :
  (Instr.lookup 103 (.map (some b)) (.string (ba k)) false).run prog w=.ok (.int .i64 (((g k).getD 0:Nat):Int)) w:=by
 obtain⟨D,h1,h2⟩:=h;obtain⟨c,hr,hc1,-⟩:=h1.lookup_int Xr underlying103 underlying3 (WE w) (IB hk);rw[hr];cases hg:g k with
 | none =>
  have:=Maps.atKey_of_not_has (D:=D) (k:=.string k) (by rw[(h2 k).1,hg];rfl) (.lit (.int .i64 0));rw[this] at hc1;cases hc1
  rfl
 | some i =>
  rw[(h2 k).2 i hg] at hc1;cases hc1
  rfl
def upd(g:ah→Option Nat)(k:ah)(i:Nat):ah→Option Nat:=fun x=>if x=k then some i else g x
theorem Mp.yP(h:Mp w b n g)(hn:n<maxLen)(hk:k.length≤maxLen){i:Nat}(hi:i≤9223372036854775807) :
  ∃ w',(Instr.mapUpdate 103 (.map (some b)) (.string (ba k)) (.int .i64 i)).run prog w=.ok () w'∧Mp w' b (n+1) (upd g k i)∧Kp (fun q=>q=b) w w':=by
 obtain⟨D,h1,h2⟩:=h;obtain⟨w',hr,ho,hg⟩:=h1.update Xr underlying103 hn (IB hk) (plainElem_int underlying3 (a:=(i:Int)) (WalkArith.wf_i64 (by omega)));refine⟨w',hr,⟨_,ho,fun x=>?_⟩,(Kp.refl _ w).grown hg (fun q e _=>by cases e;rfl)⟩;unfold upd;by_cases hx:x=k
 ·subst hx
  rw[aL rfl];exact⟨Maps.has_put_same h1.isMap (k:=.string x) (show WideAt.IsKeyLit (.string x) from trivial) _,fun j hj=>by cases hj;exact Maps.atKey_put_same h1.isMap (k:=.string x) (show WideAt.IsKeyLit (.string x) from trivial) _ _⟩
 ·rw[aG hx]
  have hne:(Lit.string x)≠.string k:=fun e=>hx (by cases e;rfl)
  refine⟨by rw[Maps.has_put_other hne];exact(h2 x).1,fun j hj=>?_⟩;rw[Maps.atKey_put_other hne];exact(h2 x).2 j hj
end
section
variable{n i k:Nat}{w':World}{it:X.It}
structure Lay where
 wb:Nat
 tb:Nat
 tf:Nat
 mb:Nat
 fv:Value
 fb:Nat→Nat
 nb:Nat→Nat
 iv:Nat→Value
 gb:Nat→Nat
def Lay.S(L:Lay)(n:Nat)(q:Nat):Prop:=q=L.tb∨∃ i,i<n∧q=L.gb i
structure St(w:World)(L:Lay)(fs:List X.Fl):Prop where
 n:fs.length≤16
 ws:w.heap[L.wb]?=some (.cells #[.map (some L.mb),L.fv] 154 (0,0))∧¬ L.S fs.length L.wb
 mp:∃ k,Mp w L.mb k (X.qC fs)
 ms:¬ L.S fs.length L.mb
 fl:∃ ao cap,L.fv=.slice ao fs.length cap∧fs.length≤cap∧cap≤maxLen∧∀ i,i<fs.length→∃ g,ao=some ⟨g,0,none⟩∧¬ L.S fs.length g∧w.cell? ⟨g,i,none⟩=some (.pointer (some ⟨L.fb i,0,none⟩))
 fi:∀ i,i<fs.length→w.heap[L.fb i]?=some (.cells #[L.iv i,.map (some (L.nb i)),.slice (some ⟨L.gb i,0,none⟩) (X.aM fs i).length (X.aM fs i).length] 207 (0,0))∧¬ L.S fs.length (L.fb i)
 nm:∀ i,i<fs.length→(∃ k,Mp w (L.nb i) k (X.jo (X.aM fs i)))∧¬ L.S fs.length (L.nb i)
 its:∀ i,i<fs.length→∃ lo hi,oV w lo hi (L.iv i) (X.aM fs i)∧hi≤w.heap.size∧∀ q,lo≤q→q<hi→¬ L.S fs.length q
 bd:∀ i it,it∈X.aM fs i→X.NW 268435456 it
 il:∀ i,(X.aM fs i).length≤268435456
 wl:L.tb<w.heap.size
 gl:∀ i,i<fs.length→L.gb i<w.heap.size∧L.gb i≠L.tb∧∀ j,j<fs.length→L.gb i=L.gb j→i=j
def uv(u:X.U):List Value:=[.int .i64 u.f,.int .i64 u.i,.int .i64 u.s,.int .i64 u.tf,.int .i64 u.tt,.int .i64 u.e]
def BP(us:List X.U):List Value:=us.flatMap uv
theorem Uf(a b:List X.U):BP (a++b)=BP a++BP b:=iA
theorem Ug(u:X.U):BP [u]=uv u:=by show uv u++[]=_;rw[aJ]
abbrev Mem:=Nat→Nat→Nat × X.An
structure Run(w0:World)(L:Lay)(fs:List X.Fl)(M:Mem)(us:List X.U)(w:World):Prop where
 st:St w0 L fs
 kp:Kp (L.S fs.length) w0 w
 tl:∃ nv,w.heap[L.tb]?=some (.cells #[.pointer (some ⟨L.wb,0,none⟩),.int .i64 L.tf,nv] 159 (0,0))∧w.ownsRow w0.heap.size 55 6 nv us.length (BP us)
 fd:∀ i,i<fs.length→∃ arr,w.heap[L.gb i]?=some (.cells arr 263 (0,0))∧arr.size=(X.aM fs i).length*4∧∀ k,k<(X.aM fs i).length →
  arr[k*4]?=some (.int .i64 (M i k).1)∧arr[k*4+1]?=some (.int .i64 (M i k).2.1)∧arr[k*4+2]?=some (.int .i64 (M i k).2.2.1)∧arr[k*4+3]?=some (.int .i64 (M i k).2.2.2)
 lim:us.length≤1073741824
def aE8(w:World)(q:Nat):Prop:=∃ cs d,w.heap[q]?=some (.cells cs 55 d)
def Lay.Sx(L:Lay)(n B:Nat)(w:World)(q:Nat):Prop:=L.S n q∨(B≤q∧aE8 w q)
def Kx(L:Lay)(n B:Nat)(w w':World):Prop:=Kp (L.Sx n B w) w w'
theorem Kx.refl(L:Lay)(n B:Nat)(w:World):Kx L n B w w:=Kp.refl _ w
theorem Kx.trans{L:Lay}{n B:Nat}{a b c:World}(h1:Kx L n B a b)(h2:Kx L n B b c):Kx L n B a c:=by
 refine Kp.trans h1 h2 (fun i hi hs=>?_);rcases hs with hs|⟨hB,cs,d,hu⟩
 ·exact .inl hs
 ·rcases Classical.em (L.Sx n B a i) with g|g
  ·exact g
  ·exact .inr ⟨hB,cs,d,by rw[← Kp.block h1 i hi g];exact hu⟩
theorem Kx.aI{L:Lay}{n B:Nat}{w w':World}(h:Below w.heap.size w w'):Kx L n B w w':=Kp.aI h _
theorem Kx.alloc{L:Lay}{n B:Nat}{a w:World}(h:Kx L n B a w)(o:Obj):Kx L n B a (w.alloc o):=Kp.alloc h o
theorem Kx.drew{L:Lay}{n B:Nat}{a w:World}(h:Kx L n B a w):Kx L n B a w.drew:=Kp.drew h
theorem Kx.st{L:Lay}{w0 w:World}(h:Kx L n w0.heap.size w w')(hk:Kp (L.S n) w0 w):Kp (L.S n) w0 w':=by
 refine Kp.trans hk h (fun i hi hs=>?_);rcases hs with hs|⟨hB,-⟩
 ·exact hs
 ·omega
theorem Kx.made{L:Lay}{B:Nat}{w:World}(h:Kx L n B w w')(hS:∀ q,L.S n q→q<B){b:Nat}{o:Obj}(hb:w.heap[b]?=some o)(hB:B≤b)(ho:∀ cs d,o≠.cells cs 55 d):w'.heap[b]?=some o :=
 Kp.heap h hb (fun hs=>by
  rcases hs with hs|⟨-,cs,d,hu⟩
  ·have:=hS b hs;omega
  ·rw[hb] at hu;exact ho cs d (bK hu))
theorem St.lt{w:World}{L:Lay}{fs:List X.Fl}(h:St w L fs):∀ q,L.S fs.length q→q<w.heap.size:=by
 intro q hq;rcases hq with rfl|⟨i,hi,rfl⟩
 ·exact h.wl
 ·exact(h.gl i hi).1
variable{w0:World}{L:Lay}{fs:List X.Fl}{M:Mem}{us:List X.U}{w:World}
theorem Run.size(h:Run w0 L fs M us w):w0.heap.size≤w.heap.size:=h.kp.size
theorem Run.below(h:Run w0 L fs M us w)(hb:Below w.heap.size w w'):Run w0 L fs M us w':=by
 have hk:=Kp.aI hb (fun _=>False);refine⟨h.st,h.kp.trans hk (fun _ _=>False.elim),?_,?_,h.lim⟩
 ·obtain⟨nv,h1,h2⟩:=h.tl
  exact⟨nv,hk.heap h1 id,hk.owns h2 (fun _ _=>id)⟩
 ·intro i hi
  obtain⟨arr,h1,h2⟩:=h.fd i hi;exact⟨arr,hk.heap h1 id,h2⟩
theorem Run.alloc(h:Run w0 L fs M us w)(o:Obj):Run w0 L fs M us (w.alloc o):=h.below ((ay _ w).alloc (aj _) o)
theorem Run.mods(h:Run w0 L fs M us w):∃ k,Mp w L.mb k (X.qC fs):=by
 obtain⟨k,hm⟩:=h.st.mp;exact⟨k,hm.keep h.kp h.st.ms⟩
theorem Run.named(h:Run w0 L fs M us w)(hi:i<fs.length):∃ k,Mp w (L.nb i) k (X.jo (X.aM fs i)):=by
 obtain⟨⟨k,hm⟩,hs⟩:=h.st.nm i hi;exact⟨k,hm.keep h.kp hs⟩
theorem Run.file(h:Run w0 L fs M us w)(hi:i<fs.length):w.heap[L.fb i]?=some (.cells #[L.iv i,.map (some (L.nb i)),.slice (some ⟨L.gb i,0,none⟩) (X.aM fs i).length (X.aM fs i).length] 207 (0,0)):=by
 obtain⟨hm,hs⟩:=h.st.fi i hi;exact h.kp.heap hm hs
theorem Run.files(h:Run w0 L fs M us w)(hi:i<fs.length):∃ g cap,L.fv=.slice (some ⟨g,0,none⟩) fs.length cap∧fs.length≤cap∧cap≤maxLen∧w.cell? ⟨g,i,none⟩=some (.pointer (some ⟨L.fb i,0,none⟩)):=by
 obtain⟨ao,cap,h1,h2,h3,h4⟩:=h.st.fl;obtain⟨g,rfl,hs,hc⟩:=h4 i hi;exact⟨g,cap,h1,h2,h3,h.kp.dY hc hs⟩
theorem Run.its(h:Run w0 L fs M us w){i:Nat}(hi:i<fs.length):∃ lo hi,oV w lo hi (L.iv i) (X.aM fs i)∧hi≤w0.heap.size∧∀ q,lo≤q→q<hi→¬ L.S fs.length q:=by
 obtain⟨lo,hi,h1,h2,h3⟩:=h.st.its i hi;obtain⟨ao,cap,vs,e,c1,c2,c3,c4⟩:=h1.ex;exact⟨lo,hi,⟨ao,cap,vs,e,c1,c2,fun j hj=>by obtain⟨g,x1,x2,x3,x4,c,f,x5⟩:=c3 j hj;exact⟨g,x1,x2,x3,h.kp.dY x4 (h3 g x2 x3),c,f,h.kp.heap x5 (h3 g x2 x3)⟩,fun j e hj=>(c4 j e hj).keep h.kp h3⟩,h2,h3⟩
theorem Run.item(h:Run w0 L fs M us w)(hi:i<fs.length)(hk:(X.aM fs i)[k]?=some it):∃ g cap v lo hi,L.iv i=.slice (some ⟨g,0,none⟩) (X.aM fs i).length cap∧(X.aM fs i).length≤cap∧cap≤maxLen∧w.cell? ⟨g,k,none⟩=some v∧lG w lo hi v it∧hi≤w0.heap.size∧∀ q,lo≤q→q<hi→¬ L.S fs.length q:=by
 obtain⟨lo,hi',h1,h2,h3⟩:=h.its hi;obtain⟨ao,cap,vs,e,c1,c2,c3,c4⟩:=h1.ex;have hkl:k<(X.aM fs i).length:=by
  rcases bE k (X.aM fs i).length with g|g
  ·exact g
  ·rw[aO g] at hk;cases hk
 obtain⟨g,rfl,-,-,x4,-⟩:=c3 k hkl;exact⟨g,cap,vs k,lo,hi',e,c1,c2,x4,c4 k it hk,h2,h3⟩
theorem Run.Uh(h:Run w0 L fs M us w):w.cell? ⟨L.wb,0,none⟩=some (.map (some L.mb))∧w.cell? ⟨L.wb,1,none⟩=some L.fv:=by
 have h1:=h.kp.heap h.st.ws.1 h.st.ws.2;exact⟨ai w _ 0 _ _ _ h1,ai w _ 1 _ _ _ h1⟩
theorem Run.cells(h:Run w0 L fs M us w):∃ nv,w.cell? ⟨L.tb,0,none⟩=some (.pointer (some ⟨L.wb,0,none⟩))∧w.cell? ⟨L.tb,1,none⟩=some (.int .i64 L.tf)∧w.cell? ⟨L.tb,2,none⟩=some nv∧w.frozen? ⟨L.tb,2,none⟩=false∧w.ownsRow w0.heap.size 55 6 nv us.length (BP us):=by
 obtain⟨nv,h1,h2⟩:=h.tl;exact⟨nv,ai w _ 0 _ _ _ h1,ai w _ 1 _ _ _ h1,ai w _ 2 _ _ _ h1,bB w _ 2 _ _ h1,h2⟩
theorem lC(hk:(X.aM fs i)[k]?=some it):i<fs.length∧k<(X.aM fs i).length:=by
 refine⟨X.q8 hk,?_⟩;rcases bE k (X.aM fs i).length with g|g
 ·exact g
 ·rw[aO g] at hk;cases hk
theorem Run.NW(h:Run w0 L fs M us w){i k:Nat}{it:X.It}(hk:(X.aM fs i)[k]?=some it):X.NW 268435456 it:=h.st.bd i it (dh hk)
end
section
open Tryz
variable{fn:Func}{t:Tmp}{b B:Nat}{w:World}{v:Value}{sc:List (List X.Nm)}
theorem LX(h:fn.results=#[.cell t 261])(tmps:Array Value)(W:World){x n:Int}(ht:tmps[t]?.getD undef=.pointer (some ⟨b,0,none⟩))(hb:W.heap[b]?=some (.cells #[.int .i64 x,.int .i64 n] 261 (0,0))) :
  (results fn tmps).run prog W=.ok (.agg #[.int .i64 x,.int .i64 n]) W:=by
 have m0:=ai W _ 0 _ _ _ hb;have m1:=ai W _ 1 _ _ _ hb;simp[results,h,go_sem,ht,m0,m1]
theorem l8(h:fn.results=#[.cell t 263])(tmps:Array Value)(W:World){x1 x2 x3 x4:Int}(ht:tmps[t]?.getD undef=.pointer (some ⟨b,0,none⟩))(hb:W.heap[b]?=some (.cells #[.int .i64 x1,.int .i64 x2,.int .i64 x3,.int .i64 x4] 263 (0,0))) :
  (results fn tmps).run prog W=.ok (.agg #[.int .i64 x1,.int .i64 x2,.int .i64 x3,.int .i64 x4]) W:=by
 have m0:=ai W _ 0 _ _ _ hb;have m1:=ai W _ 1 _ _ _ hb;have m2:=ai W _ 2 _ _ _ hb;have m3:=ai W _ 3 _ _ _ hb;simp[results,h,go_sem,ht,m0,m1,m2,m3]
theorem aE9{S:Nat→Prop}{W:World}(hk:Kp S w W)(hb:w.heap.size≤b)(x0 x1 x2 x3:Value):Kp S w ((((W.setCell ⟨b,0,none⟩ x0).setCell ⟨b,1,none⟩ x1).setCell ⟨b,2,none⟩ x2).setCell ⟨b,3,none⟩ x3) :=
 Kp.setCell (p:=⟨b,3,none⟩) (Kp.setCell (p:=⟨b,2,none⟩) (Kp.setCell (p:=⟨b,1,none⟩) (Kp.setCell (p:=⟨b,0,none⟩) hk (fun h=>absurd h (by simpa using hb)) _) (fun h=>absurd h (by simpa using hb)) _) (fun h=>absurd h (by simpa using hb)) _) (fun h=>absurd h (by simpa using hb)) _
theorem sH(w:World):Calls prog 130 #[] w fun e w'=>e=.returned (.agg #[.int .i64 (-1),.int .i64 (-1)])∧Below w.heap.size w w':=by
 go_enter func130,ntmps130;go_wp2_with fail
 exact bI (LX rfl _ _ (b:=w.heap.size) rfl (aB w _)) rfl ⟨rfl,(ay _ w).alloc (aj _) _⟩
theorem tQ(er:Nat)(w:World):Calls prog 131 #[.int .i64 er] w fun e w'=>e=.returned (.agg #[.int .i64 2,.int .i64 (-1),.int .i64 (-1),.int .i64 er])∧Below w.heap.size w w':=by
 go_enter func131,ntmps131;go_wp2_with fail
 refine(sH _).mono ?_;rintro e w2 ⟨rfl,H2⟩;have HB:Hid (Kp (fun _=>False) w w2):=(Kp.refl _ w).alloc _ |>.trans (Kp.aI H2 (fun _=>False)) (fun _ _=>id);have HH:w2.heap[w.heap.size]?=some (.cells #[.int .i64 0,.int .i64 0,.int .i64 0,.int .i64 0] 263 (0,0)):=(Kp.aI H2 (fun _=>False)).heap (aB w _) id;clear H2;have c0:=ai w2 _ 0 _ _ _ HH;have c1:=ai w2 _ 1 _ _ _ HH;have c2:=ai w2 _ 2 _ _ _ HH;have c3:=ai w2 _ 3 _ _ _ HH;have z0:=bB w2 _ 0 _ _ HH;have z1:=bB w2 _ 1 _ _ HH;have z2:=bB w2 _ 2 _ _ HH;have z3:=bB w2 _ 3 _ _ HH;have HHH:=au HH;clear HH;go_wp2_with fail
 exact bI (l8 rfl _ _ (b:=w.heap.size) rfl (iI HHH.o)) rfl ⟨rfl,(aE9 HB.o (aj _) _ _ _ _).below (aj _) (fun _=>False.elim)⟩
inductive iL(w:World)(B:Nat):Value→List (List X.Nm)→Prop
 | nil:iL w B (.pointer none) []
 | cons (b m k:Nat) (ns:List X.Nm) (v:Value) (sc:List (List X.Nm)) (hB:B≤b) (hm:B≤m) (h:w.heap[b]?=some (.cells #[.map (some m),v] 347 (0,0))) (hp:Mp w m k (X.first ns)) (ho:iL w B v sc):iL w B (.pointer (some ⟨b,0,none⟩)) (ns::sc)
theorem iL.keep{L:Lay}{n B:Nat}{w w':World}(hk:Kx L n B w w')(hS:∀ q,L.S n q→q<B){v:Value}{sc:List (List X.Nm)}(h:iL w B v sc):iL w' B v sc:=by
 induction h with
 | nil=>exact .nil
 | cons b m k ns v sc hB hm h hp ho ih =>
  refine .cons b m k ns v sc hB hm (hk.made hS h hB (fun cs d e=>by cases e)) ?_ ih;obtain⟨es,clock,hb⟩:=hp.obj;exact hp.keep hk (fun hs=>by
   rcases hs with hs|⟨-,cs,d,hu⟩
   ·have:=hS m hs;omega
   ·rw[hb] at hu;cases hu)
theorem iL.LY{w':World}(hk:Below w.heap.size w w')(h:iL w B v sc):iL w' B v sc:=by
 induction h with
 | nil=>exact .nil
 | cons b m k ns v sc hB hm h hp ho ih=>exact .cons b m k ns v sc hB hm ((Kp.aI hk (fun _=>False)).heap h id) (hp.below hk) ih
theorem iL.len{Tp:List (List X.Nm)}(h:iL w B v sc)(h':iL w B v Tp):sc.length=Tp.length:=by
 induction h generalizing Tp with
 | nil=>cases h' with|nil=>rfl
 | cons b m k ns v sc hB hm h hp ho ih =>
  cases h' with
  | cons _ m' k' ns' v' Tp _ _ h2 hp2 ho2 =>
   rw[h] at h2;cases h2
   rw[aW,aW,ih ho2]
noncomputable def OE(w:World)(B:Nat)(v:Value):Nat:=open Classical in if h:∃ sc,iL w B v sc then(Classical.choose h).length else 0
theorem EX(h:iL w B v sc):OE w B v=sc.length:=by
 unfold OE;rw[dif_pos ⟨sc,h⟩];exact iL.len (Classical.choose_spec (⟨sc,h⟩:∃ sc,iL w B v sc)) h
theorem OG(B:Nat)(bv:Value)(sc:List (List X.Nm))(x:ah)(w:World)(h:iL w B bv sc)(hx:x.length≤maxLen) :
  Calls prog 178 #[bv,.string (ba x)] w fun e w'=>e=.returned (.tuple #[.int .i64 (((X.sight sc x).getD 0:Nat):Int),.bool (X.sight sc x).isSome])∧w'=w:=by
 have HB:=au h;clear h;generalize hA:X.sight sc x=A;have HQ:=au hA;clear hA;go_enter func178,ntmps178;go_wp2_with fail
 go_loopw [0] (fun av wr=>∃ Tp,wr=w∧Hid (iL w B av Tp)∧Hid (X.sight Tp x=A)) (fun av _=>OE w B av)
 case atStart=>exact⟨sc,rfl,HB,HQ⟩
 case round =>
  obtain⟨Tp,rfl,HI,HS⟩:=hrel;clear HB HQ;have hlen:=EX HI.o;have hcs:(u0=.pointer none∧Tp=[])∨∃ b m k ns v sc2,u0=.pointer (some ⟨b,0,none⟩)∧Tp=ns::sc2∧wr.heap[b]?=some (.cells #[.map (some m),v] 347 (0,0))∧Mp wr m k (X.first ns)∧iL wr B v sc2:=by
   cases HI.o with
   | nil=>exact .inl ⟨rfl,rfl⟩
   | cons b m k ns v sc hB hm h hp ho=>exact .inr ⟨b,m,k,ns,v,sc,rfl,rfl,h,hp,ho⟩
  rcases hcs with ⟨rfl,rfl⟩|⟨b,m,k,ns,v,sc2,rfl,rfl,hb,hp,ho⟩
  ·go_wp2_with fail
   go_ret2;refine⟨?_,rfl⟩;rw[← HS.o];rfl
  ·have c0:=ai wr _ 0 _ _ _ hb
   have c1:=ai wr _ 1 _ _ _ hb;have hrun:=hp.nV hx;have hl2:=EX ho;have HO:=au ho;cases hf:X.first ns x with
   | some i =>
    rw[hf] at hrun;have hrun':(Instr.lookup 103 (.map (some m)) (.string (ba x)) true).run prog wr=.ok (.tuple #[.int .i64 (i:Nat),.bool true]) wr:=hrun;have HS2:Hid (A=some i):=by rw[← HS.o,X.sight,hf];exact au rfl
    clear hrun hp ho HI HS hb hf hlen hl2 HO;go_wp2_with fail
    go_ret2;refine⟨?_,rfl⟩;rw[HS2.o];rfl
   | none =>
    rw[hf] at hrun;have hrun':(Instr.lookup 103 (.map (some m)) (.string (ba x)) true).run prog wr=.ok (.tuple #[.int .i64 0,.bool false]) wr:=hrun;have HS2:Hid (X.sight sc2 x=A):=by rw[← HS.o];rw[X.sight,hf];exact au rfl
    clear hrun hp ho HI HS hb hf;go_wp2_with fail
    exact⟨⟨sc2,trivial,HO,HS2⟩,by rw[hlen,hl2];simp⟩
end
section
open Tryz
theorem aF1:(prog.info? 55).map (fun i=>(i.zero,i.size,i.bytes))=some (some (.agg #[.int .i64 0,.int .i64 0,.int .i64 0,.int .i64 0,.int .i64 0,.int .i64 0]),6,48):=by kernel_rfl
variable{w0:World}{L:Lay}{fs:List X.Fl}{M:Mem}{us:List X.U}{w:World}
theorem Run.told(h:Run w0 L fs M us w){w3 w5:World}(hb:Below w.heap.size w w3){nv:Value}(Ui:w.cell? ⟨L.tb,2,none⟩=some nv)(u:X.U){g cap:Nat}(hown:w5.ownsRow w0.heap.size 55 6 (.slice (some ⟨g,0,none⟩) (us.length+1) cap) (us.length+1) (BP us++uv u))(hgrow:w3.grownBy w5 nv.ownBlock)(hlim:us.length+1≤1073741824) :
  Run w0 L fs M (us++[u]) (w5.setCell ⟨L.tb,2,none⟩ (.slice (some ⟨g,0,none⟩) (us.length+1) cap))∧Kx L fs.length w0.heap.size w (w5.setCell ⟨L.tb,2,none⟩ (.slice (some ⟨g,0,none⟩) (us.length+1) cap)):=by
 have h3:=h.below hb;obtain⟨EY,hw,hown0⟩:=h.tl;have e0:=ai w _ 2 _ _ _ hw;rw[Ui] at e0;obtain rfl:nv=EY:=bK e0;have hsz:=h.size;have hS:=h.st.lt;have hnb:∀ q,nv.ownBlock=some q→w0.heap.size≤q∧aE8 w q:=by
  intro q hq;refine⟨(dV hown0 q hq).1,?_⟩;rcases hown0.2 with ⟨rfl,-⟩|⟨g',cap',cur,rfl,hge,hgg,-⟩
  ·cases hq
  ·cases hq
   exact⟨_,_,hgg⟩
 have ZP:Kp (fun q=>nv.ownBlock=some q) w3 w5:=(Kp.refl _ w3).grown hgrow (fun q e _=>e);have bV5:L.tb<w3.heap.size:=aH h.st.wl h3.size;have aV6:w5.heap[L.tb]?=some (.cells #[.pointer (some ⟨L.wb,0,none⟩),.int .i64 L.tf,nv] 159 (0,0)):=by
  refine ZP.heap ((Kp.aI hb (fun _=>False)).heap hw id) (fun e=>?_);have:=(hnb _ e).1;have:=h.st.wl;omega
 have Tq:Kp (fun q=>q=L.tb) w5 (w5.setCell ⟨L.tb,2,none⟩ (.slice (some ⟨g,0,none⟩) (us.length+1) cap)):=Kp.setCell (S:=fun q=>q=L.tb) (p:=⟨L.tb,2,none⟩) (Kp.refl _ w5) (fun _=>rfl) _;have kx:Kx L fs.length w0.heap.size w (w5.setCell ⟨L.tb,2,none⟩ (.slice (some ⟨g,0,none⟩) (us.length+1) cap)):=by
  refine Kp.trans (Kp.trans (Kp.aI hb _) ZP (fun i hi e=>.inr (hnb i e))) Tq (fun i hi e=>.inl (.inl e))
 refine⟨⟨h.st,kx.st h.kp,⟨_,(iU aV6 2 _),?_⟩,fun i hi=>?_,?_⟩,kx⟩
 ·have e:(us++[u]).length=us.length+1:=by simp
  rw[e,Uf,Ug];refine Tq.owns hown (fun q hq e=>?_);have:=(dV hown q hq).1;have:=h.st.wl;omega
 ·obtain⟨arr,x1,x2,x3⟩:=h.fd i hi
  have hgi:=h.st.gl i hi;refine⟨arr,Tq.heap (ZP.heap ((Kp.aI hb (fun _=>False)).heap x1 id) (fun e=>?_)) hgi.2.1,x2,x3⟩;have:=(hnb _ e).1;omega
 ·rw[ak];simpa using hlim
theorem nI(n:X.Nm)(s:Nat)(tf tt:Int)(er:Nat)(h:Run w0 L fs M us w)(hlim:us.length+(X.gZ L.tf n s (tf,tt,er)).length≤1073741824) :
  Calls prog 106 #[.pointer (some ⟨L.tb,0,none⟩),.agg #[.string (ba n.1),.int .i64 n.2],.int .i64 s,.agg #[.int .i64 tf,.int .i64 tt],.int .i64 er] w fun e w'=>e=.returned (.tuple #[])∧Hid (Run w0 L fs M (us++X.gZ L.tf n s (tf,tt,er)) w'∧Kx L fs.length w0.heap.size w w'):=by
 have HR:=au h;obtain⟨i0,hi0,hz0,hz1,hz2⟩:=gB aF1;have HT:Hid (X.gZ L.tf n s (tf,tt,er)=if n.1=[] then [] else [⟨L.tf,n.2,s,tf,tt,er⟩]):=au rfl;generalize X.gZ L.tf n s (tf,tt,er)=tl at *;clear h;go_enter func106,ntmps106;go_wp2_with fail
 have kA:Below w.heap.size w ((w.alloc (.cells #[.string (ba n.1),.int .i64 n.2] 66)).alloc (.cells #[.int .i64 tf,.int .i64 tt] 261)):=((ay _ w).alloc (aj _) _).alloc (by simp) _;refine(iV n.1 n.2 _).mono ?_;rintro e w2 ⟨rfl,B2⟩;have kB:Below w.heap.size w w2:=kA.trans (B2.mono (by simp;omega));have hN:w2.heap[w.heap.size]?=some (.cells #[.string (ba n.1),.int .i64 n.2] 66 (0,0)):=(Kp.aI B2 (fun _=>False)).heap ((dN _ _ (by simp)).trans (aB w _)) id;have hP:w2.heap[w.heap.size+1]?=some (.cells #[.int .i64 tf,.int .i64 tt] 261 (0,0)):=(Kp.aI B2 (fun _=>False)).heap (by have:=aB (w.alloc (.cells #[.string (ba n.1),.int .i64 n.2] 66)) (.cells #[.int .i64 tf,.int .i64 tt] 261);simpa using this) id;have HB:=au kB;clear kA kB B2;by_cases hn:n.1=[]
 ·have e1:n.1.isEmpty=true:=by rw[hn];rfl
  rw[aL hn] at HT;have HF:Hid (Run w0 L fs M (us++tl) w2∧Kx L fs.length w0.heap.size w w2):=by rw[HT.o,aJ];exact⟨(HR.o).below HB.o,Kx.aI HB.o⟩
  clear HT hN hP hlim;rw[e1];go_wp2_with fail
  go_end0;exact⟨rfl,HF⟩
 ·have e1:n.1.isEmpty=false:=by cases hx:n.1 with|nil=>exact absurd hx hn|cons a l=>rfl
  rw[aG hn] at HT;have n1:=ai w2 _ 1 _ _ _ hN;have p0:=ai w2 _ 0 _ _ _ hP;have p1:=ai w2 _ 1 _ _ _ hP;have hPl:=aP hP;have R2:=(HR.o).below HB.o;obtain⟨nv,-,t1,b2,f2,hown⟩:=R2.cells;have hwl:L.tb<w2.heap.size:=aH R2.st.wl R2.size;have hwb:L.tb<w0.heap.size:=R2.st.wl;have hw0:w0.heap.size≤w.heap.size:=(HR.o).size;have hnb:∀ q,nv.ownBlock=some q→w0.heap.size≤q∧q≠w.heap.size∧q≠w.heap.size+1:=by
   intro q hq;obtain⟨hge,c,f,hc⟩:=jb hown hq;refine⟨hge,fun e=>?_,fun e=>?_⟩
   ·rw[e,hN] at hc;cases hc
   ·rw[e,hP] at hc;cases hc
  have HNB:=au hnb;have HO:=au hown;have HR2:=au R2;have htl:tl.length=1:=by rw[HT.o];rfl
  rw[htl] at hlim;have NY:us.length≤1073741824:=by omega
  have aV7:(us.length+1)*48≤140737488355328:=by omega
  clear htl hnb hown R2 hN hP;rw[e1];have HZ:Hid (w.heap.size+1<w2.heap.size):=hPl;have HZ0:=au hw0;clear hw0;go_wp2_with fail
  refine bH (S:=fun w'=>w'.cell? ⟨L.tb,1,none⟩=some (.int .i64 L.tf)∧w'.cell? ⟨w.heap.size,1,none⟩=some (.int .i64 n.2)∧w'.cell? ⟨w.heap.size+1,0,none⟩=some (.int .i64 tf)∧w'.cell? ⟨w.heap.size+1,1,none⟩=some (.int .i64 tt)∧w'.cell? ⟨L.tb,2,none⟩=some nv) (z:=22) (by kernel_rfl) ?_;have hS:w2.drew.cell? ⟨L.tb,1,none⟩=some (.int .i64 L.tf)∧w2.drew.cell? ⟨w.heap.size,1,none⟩=some (.int .i64 n.2)∧w2.drew.cell? ⟨w.heap.size+1,0,none⟩=some (.int .i64 tf)∧w2.drew.cell? ⟨w.heap.size+1,1,none⟩=some (.int .i64 tt)∧w2.drew.cell? ⟨L.tb,2,none⟩=some nv:=⟨t1,n1,p0,p1,b2⟩;iterate 18(refine qD hS ?_;simp only[Act.put,ax,aD,aF])
  refine bD 18 fun K hK=>?_;go_simp;refine hK.o _ _ (fun _=>by first|go_keep|(dsimp only;go_keep)) (fun hS2=>?_);clear hS hK K;have hS:=hS2 (by decide);clear hS2;refine bD 19 fun K hK=>?_;refine step_append_lies _ (by rfl) _ _ _ (by rfl) w0.heap.size 55 i0 _ 6 48 underlying31 hi0 hz0 hz1 hz2 rfl (by omega) nv us.length _ (by rfl) (((HO.o:w2.ownsRow _ _ _ _ _ _).alloc _).drew)
   ⟨w2.heap.size,0,none⟩ 1 1 (uv ⟨L.tf,n.2,s,tf,tt,er⟩) (by rfl) (by rfl) (World.news_of_block (cs:=#[.int .i64 L.tf,.int .i64 n.2,.int .i64 s,.int .i64 tf,.int .i64 tt,.int .i64 er]) (t:=55) (fr:=(0,0)) (aB w2 _)) (by simp[Value.oneCell',uv])
   (by omega) (by unfold maxLen;omega) aV7 (by have:=HZ0.o;have:=HZ.o;simp;omega) (w2.heap.size+1) (by simp) ?_
  intro g cap5 w5 hown5 cB nW A9;have nb:=HNB.o;have hz:=HZ.o;have hwn:some L.tb≠nv.ownBlock:=fun e=>by have:=(nb _ e.symm).1;omega
  have y1:=(cB.cell_far ⟨L.tb,1,none⟩ (by simp;omega) hwn).trans hS.1;have y2:=(cB.cell_far ⟨w.heap.size,1,none⟩ (by simp;omega) (fun e=>(nb _ e.symm).2.1 rfl)).trans hS.2.1;have y3:=(cB.cell_far ⟨w.heap.size+1,0,none⟩ (by simp;omega) (fun e=>(nb _ e.symm).2.2 rfl)).trans hS.2.2.1;have y4:=(cB.cell_far ⟨w.heap.size+1,1,none⟩ (by simp;omega) (fun e=>(nb _ e.symm).2.2 rfl)).trans hS.2.2.2.1;have y5:w5.cell? ⟨L.tb,2,none⟩=some nv:=(cB.cell_far ⟨L.tb,2,none⟩ (by simp;omega) hwn).trans hS.2.2.2.2;have x2:w5.frozen? ⟨L.tb,2,none⟩=false:=(cB.frozen_far ⟨L.tb,2,none⟩ (by simp;omega) hwn).trans ((bN _ _ ⟨L.tb,2,none⟩ (by simp;omega)).trans f2);show K (Act.put _ (some 32) _) w5;refine hK.o _ _ (fun _=>⟨y1,y2,y3,y4,y5⟩) (fun hS2=>?_);clear hS hK K;have hS:=hS2 (by decide);clear hS2;simp only[Act.put,ax,aD,aF];refine bD 20 fun K hK=>?_;go_simp;refine hK.o _ _ (fun _=>hS) (fun _=>?_);clear hK K;refine bD 21 fun K hK=>?_;go_simp;refine hK.o _ _ (fun _=>hS) (fun _=>?_);clear hK K;refine bD 22 fun K hK=>?_;go_simp;refine hK.o _ _ (fun h=>absurd rfl h) (fun _=>fB ?_);clear hK K;have HF:Hid (Run w0 L fs M (us++tl) (w5.setCell ⟨L.tb,2,none⟩ (.slice (some ⟨g,0,none⟩) (us.length+1) cap5))∧Kx L fs.length w0.heap.size w (w5.setCell ⟨L.tb,2,none⟩ (.slice (some ⟨g,0,none⟩) (us.length+1) cap5))):=by
   have hb3:Below w2.heap.size w2 (w2.alloc (.cells #[.int .i64 L.tf,.int .i64 n.2,.int .i64 s,.int .i64 tf,.int .i64 tt,.int .i64 er] 55)).drew:=((ay _ w2).alloc (aj _) _).drew;have:=Run.told HR2.o hb3 b2 ⟨L.tf,n.2,s,tf,tt,er⟩ hown5 cB (by omega);rw[HT.o];exact⟨this.1,(Kx.aI HB.o).trans this.2⟩
  clear y1 y2 y3 y4 y5 x2 hS hown5 cB nW nb;go_wp2_with fail
  go_end0;exact⟨rfl,HF⟩
end
section
variable{i k:Nat}
theorem OI(arr:Array Value)(k n:Nat)(hn:arr.size=n*4)(hk:k<n)(x0 x1 x2 x3:Value)(k':Nat)(hk':k'<n) :
  let A:=(((arr.setIfInBounds (k*4) x0).setIfInBounds (k*4+1) x1).setIfInBounds (k*4+2) x2).setIfInBounds (k*4+3) x3
  A.size=n*4∧A[k'*4]?=(if k'=k then some x0 else arr[k'*4]?)∧A[k'*4+1]?=(if k'=k then some x1 else arr[k'*4+1]?)∧A[k'*4+2]?=(if k'=k then some x2 else arr[k'*4+2]?)∧A[k'*4+3]?=(if k'=k then some x3 else arr[k'*4+3]?):=by
 intro A;refine⟨by simp[A,hn],?_,?_,?_,?_⟩
 all_goals
  simp only[A,mG,dM,hn];by_cases e:k'=k
  ·subst e
   simp;omega
  ·rw[aG e]
   repeat(rw[aG (by omega)])
theorem OJ(arr:Array Value)(k n:Nat)(hn:arr.size=n*4)(hk:k<n)(x0:Value)(k':Nat) :
  let A:=arr.setIfInBounds (k*4) x0
  A.size=n*4∧A[k'*4]?=(if k'=k then some x0 else arr[k'*4]?)∧A[k'*4+1]?=arr[k'*4+1]?∧A[k'*4+2]?=arr[k'*4+2]?∧A[k'*4+3]?=arr[k'*4+3]?:=by
 intro A;refine⟨by simp[A,hn],?_,?_,?_,?_⟩
 ·simp only[A,mG,hn]
  by_cases e:k'=k
  ·subst e
   simp;omega
  ·rw[aG e,aG (by omega)]
 all_goals
  simp only[A,mG,hn];rw[aG (by omega)]
def zx(M:Mem)(i k:Nat)(v:Nat × X.An):Mem:=fun i' k'=>if i'=i∧k'=k then v else M i' k'
theorem lN(M:Mem)(i k:Nat)(v:Nat × X.An):zx M i k v i k=v:=aL ⟨rfl,rfl⟩
theorem jc(M:Mem)(i k:Nat)(v:Nat × X.An){i' k':Nat}(h:¬(i'=i∧k'=k)):zx M i k v i' k'=M i' k':=aG h
def p9(fs:List X.Fl)(M:Mem):Prop:=∀ i k,(M i k).1≤2∧((M i k).1=2→X.EvA fs i k (M i k).2)
def cnt(fs:List X.Fl)(M:Mem):Nat:=((X.OL fs).filter (fun p=>(M p.1 p.2).1==0)).length
theorem xR{α:Type}(p q:α→Bool)(hq:∀ x,q x=true→p x=true){a:α}(ha:p a=true)(hb:q a=false):∀ l:List α,a∈l→(l.filter q).length<(l.filter p).length
 | [],h=>by cases h
 | x::l,h=>by
  have hle:∀ l:List α,(l.filter q).length≤(l.filter p).length:=fun l=>by
   induction l with
   | nil=>exact aj _
   | cons y l ih =>
    rw[oh,oh];cases hy:q y with
    | true=>rw[hq y hy];simpa using ih
    | false=>cases p y<;>simp<;>omega
  rw[oh,oh];rcases cK.1 h with rfl|g
  ·rw[ha,hb]
   have:=hle l;simp;omega
  ·have:=xR p q hq ha hb l g
   cases hy:q x with
   | true=>rw[hq x hy];simpa using this
   | false=>cases p x<;>simp<;>omega
theorem E_{fs:List X.Fl}{M:Mem}(hm:(i,k)∈X.OL fs)(h0:(M i k).1=0){v:Nat × X.An}(hv:v.1≠0):cnt fs (zx M i k v)<cnt fs M:=by
 refine xR _ _ (fun x hx=>?_) (a:=(i,k)) (by simpa using h0) (by rw[lN];simpa using hv) _ hm;by_cases e:x.1=i∧x.2=k
 ·obtain⟨e1,e2⟩:=e
  rw[e1,e2,lN] at hx;simp at hx;exact absurd hx hv
 ·rw[jc M i k v e] at hx;exact hx
variable{w0:World}{L:Lay}{fs:List X.Fl}{M:Mem}{us:List X.U}{w:World}
theorem Run.turn(h:Run w0 L fs M us w)(hi:i<fs.length){w':World}{arr:Array Value}(hk:Kp (fun q=>q=L.gb i) w w')(hb:w'.heap[L.gb i]?=some (.cells arr 263 (0,0))){M':Mem}(hs:arr.size=(X.aM fs i).length*4)
  (hM:∀ k,k<(X.aM fs i).length→arr[k*4]?=some (.int .i64 (M' i k).1)∧arr[k*4+1]?=some (.int .i64 (M' i k).2.1)∧arr[k*4+2]?=some (.int .i64 (M' i k).2.2.1)∧arr[k*4+3]?=some (.int .i64 (M' i k).2.2.2))
  (ho:∀ j k,j≠i→M' j k=M j k):Run w0 L fs M' us w'∧Kx L fs.length w0.heap.size w w':=by
 have kx:Kx L fs.length w0.heap.size w w':=hk.mono (fun q _ e=>.inl (.inr ⟨i,hi,e⟩));refine⟨⟨h.st,kx.st h.kp,?_,fun j hj=>?_,h.lim⟩,kx⟩
 ·obtain⟨nv,h1,h2⟩:=h.tl
  have hg:=h.st.gl i hi;refine⟨nv,hk.heap h1 (fun e=>hg.2.1 e.symm),hk.owns h2 (fun q hq e=>?_)⟩;have:=(dV h2 q hq).1;omega
 ·by_cases e:j=i
  ·subst e
   exact⟨arr,hb,hs,hM⟩
  ·obtain⟨a2,x1,x2,x3⟩:=h.fd j hj
   refine⟨a2,hk.heap x1 (fun e'=>e ((h.st.gl j hj).2.2 i hi e')),x2,fun k hk=>?_⟩;rw[ho j k e];exact x3 k hk
theorem Run.ask(h:Run w0 L fs M us w)(hi:i<fs.length)(hk:k<(X.aM fs i).length):Run w0 L fs (zx M i k (1,(M i k).2)) us (w.setCell ⟨L.gb i,k*4,none⟩ (.int .i64 1))∧Kx L fs.length w0.heap.size w (w.setCell ⟨L.gb i,k*4,none⟩ (.int .i64 1)):=by
 obtain⟨arr,x1,x2,x3⟩:=h.fd i hi;refine h.turn hi (arr:=arr.setIfInBounds (k*4) (.int .i64 1)) (Kp.setCell (S:=fun q=>q=L.gb i) (p:=⟨L.gb i,k*4,none⟩) (Kp.refl _ w) (fun _=>rfl) _) (iU x1 _ _) (by simp[x2]) (fun k' hk'=>?_) (fun j k' hj=>jc M i k _ (fun e=>hj e.1));obtain⟨-,y0,y1,y2,y3⟩:=OJ arr k _ x2 hk (.int .i64 1) k';obtain⟨z0,z1,z2,z3⟩:=x3 k' hk';rw[y0,y1,y2,y3];by_cases e:k'=k
 ·subst e
  rw[lN,aL rfl];exact⟨rfl,z1,z2,z3⟩
 ·rw[jc M i k _ (fun e'=>e e'.2),aG e]
  exact⟨z0,z1,z2,z3⟩
theorem Run.know(h:Run w0 L fs M us w)(hi:i<fs.length)(hk:k<(X.aM fs i).length)(tf tt:Int)(er:Nat) :
  Run w0 L fs (zx M i k (2,(tf,tt,er))) us ((((w.setCell ⟨L.gb i,k*4,none⟩ (.int .i64 2)).setCell ⟨L.gb i,k*4+1,none⟩ (.int .i64 tf)).setCell ⟨L.gb i,k*4+2,none⟩ (.int .i64 tt)).setCell ⟨L.gb i,k*4+3,none⟩ (.int .i64 er)) ∧
  Kx L fs.length w0.heap.size w ((((w.setCell ⟨L.gb i,k*4,none⟩ (.int .i64 2)).setCell ⟨L.gb i,k*4+1,none⟩ (.int .i64 tf)).setCell ⟨L.gb i,k*4+2,none⟩ (.int .i64 tt)).setCell ⟨L.gb i,k*4+3,none⟩ (.int .i64 er)):=by
 obtain⟨arr,x1,x2,x3⟩:=h.fd i hi;have hkp:∀(o:Nat) (v:Value) (W:World),Kp (fun q=>q=L.gb i) w W→Kp (fun q=>q=L.gb i) w (W.setCell ⟨L.gb i,o,none⟩ v):=fun o v W hW=>Kp.setCell (S:=fun q=>q=L.gb i) (p:=⟨L.gb i,o,none⟩) hW (fun _=>rfl) v
 refine h.turn hi (hkp _ _ _ (hkp _ _ _ (hkp _ _ _ (hkp _ _ _ (Kp.refl _ w))))) (iU (iU (iU (iU x1 _ _) _ _) _ _) _ _) (by simp[x2]) (fun k' hk'=>?_) (fun j k' hj=>jc M i k _ (fun e=>hj e.1));obtain⟨-,y0,y1,y2,y3⟩:=OI arr k _ x2 hk (.int .i64 2) (.int .i64 tf) (.int .i64 tt) (.int .i64 er) k' hk';obtain⟨z0,z1,z2,z3⟩:=x3 k' hk';rw[y0,y1,y2,y3];by_cases e:k'=k
 ·subst e
  rw[lN,aL rfl,aL rfl,aL rfl,aL rfl];exact⟨rfl,rfl,rfl,rfl⟩
 ·rw[jc M i k _ (fun e'=>e e'.2),aG e,aG e,aG e,aG e]
  exact⟨z0,z1,z2,z3⟩
theorem Run.ans(h:Run w0 L fs M us w)(hi:i<fs.length)(hk:k<(X.aM fs i).length) :
  (w.cell? ⟨L.gb i,k*4,none⟩=some (.int .i64 (M i k).1)∧w.cell? ⟨L.gb i,k*4+1,none⟩=some (.int .i64 (M i k).2.1)∧w.cell? ⟨L.gb i,k*4+2,none⟩=some (.int .i64 (M i k).2.2.1)∧w.cell? ⟨L.gb i,k*4+3,none⟩=some (.int .i64 (M i k).2.2.2)) ∧
  ∀ o,w.frozen? ⟨L.gb i,o,none⟩=false:=by
 obtain⟨arr,x1,x2,x3⟩:=h.fd i hi;obtain⟨z0,z1,z2,z3⟩:=x3 k hk;have hc:∀ o,w.cell? ⟨L.gb i,o,none⟩=arr[o]?:=fun o=>ai w _ o _ _ _ x1
 exact⟨⟨(hc _).trans z0,(hc _).trans z1,(hc _).trans z2,(hc _).trans z3⟩,fun o=>bB w _ o _ _ x1⟩
theorem St.item{w:World}(h:St w L fs){it:X.It}(hi:i<fs.length)(hk:(X.aM fs i)[k]?=some it):∃ g cap v lo hi,L.iv i=.slice (some ⟨g,0,none⟩) (X.aM fs i).length cap∧(X.aM fs i).length≤cap∧cap≤maxLen∧w.cell? ⟨g,k,none⟩=some v∧¬ L.S fs.length g∧lG w lo hi v it∧hi≤w.heap.size∧∀ q,lo≤q→q<hi→¬ L.S fs.length q:=by
 obtain⟨lo,hi',h1,h2,h3⟩:=h.its i hi;obtain⟨ao,cap,vs,e,c1,c2,c3,c4⟩:=h1.ex;obtain⟨g,rfl,x2,x3,x4,-⟩:=c3 k (lC hk).2;exact⟨g,cap,vs k,lo,hi',e,c1,c2,x4,h3 g x2 x3,c4 k it hk,h2,h3⟩
end
section
open Tryz
variable{it:X.It}
variable{w0:World}{L:Lay}{fs:List X.Fl}{M:Mem}{us:List X.U}{w:World}
theorem vg(n:X.Nm)(s:Nat)(er:Nat)(h:Run w0 L fs M us w)(hlim:us.length+(X.qg L.tf n s er).length≤1073741824) :
  Calls prog 107 #[.pointer (some ⟨L.tb,0,none⟩),.agg #[.string (ba n.1),.int .i64 n.2],.int .i64 s,.int .i64 er] w fun e w'=>e=.returned (.tuple #[])∧Hid (Run w0 L fs M (us++X.qg L.tf n s er) w'∧Kx L fs.length w0.heap.size w w'):=by
 have kA:Below w.heap.size w (w.alloc (.cells #[.string (ba n.1),.int .i64 n.2] 66)).drew:=((ay _ w).alloc (aj _) _).drew;have hN:=aB w (.cells #[.string (ba n.1),.int .i64 n.2] 66);have n0:(w.alloc (.cells #[.string (ba n.1),.int .i64 n.2] 66)).cell? ⟨w.heap.size,0,none⟩=some (.string (ba n.1)):=ai _ _ 0 _ _ _ hN;have n1:(w.alloc (.cells #[.string (ba n.1),.int .i64 n.2] 66)).cell? ⟨w.heap.size,1,none⟩=some (.int .i64 n.2):=ai _ _ 1 _ _ _ hN;obtain⟨nv,-,t1,-⟩:=(h.alloc (.cells #[.string (ba n.1),.int .i64 n.2] 66)).cells;have HC:=au (nI n s L.tf n.2 er (h.below kA) hlim);have HK:=au kA;have HS:=au h.st.lt;have hsz:=h.size;have HN:=au hN;clear kA h hlim hN;go_enter func107,ntmps107;go_wp2_with fail
 refine bH (S:=fun w'=>w'.cell? ⟨L.tb,1,none⟩=some (.int .i64 L.tf)∧w'.cell? ⟨w.heap.size,0,none⟩=some (.string (ba n.1))∧w'.cell? ⟨w.heap.size,1,none⟩=some (.int .i64 n.2)) (z:=12) (by kernel_rfl) ?_;have hS:(w.alloc (.cells #[.string (ba n.1),.int .i64 n.2] 66)).drew.cell? ⟨L.tb,1,none⟩=some (.int .i64 L.tf)∧(w.alloc (.cells #[.string (ba n.1),.int .i64 n.2] 66)).drew.cell? ⟨w.heap.size,0,none⟩=some (.string (ba n.1))∧(w.alloc (.cells #[.string (ba n.1),.int .i64 n.2] 66)).drew.cell? ⟨w.heap.size,1,none⟩=some (.int .i64 n.2):=⟨t1,n0,n1⟩;iterate 11(refine ou hS ?_;simp only[Act.put,ax,aD,aF])
 refine bD 11 fun K hK=>?_;go_simp;refine(HC.o).mono ?_;rintro e w2 ⟨rfl,H2⟩;have HF:Hid (Run w0 L fs M (us++X.qg L.tf n s er) w2∧Kx L fs.length w0.heap.size w w2):=⟨(H2.o).1,(Kx.aI HK.o).trans (H2.o).2⟩;have NZ:=(H2.o).2.made HS.o HN.o hsz (fun cs d e=>by cases e);obtain⟨nv2,-,u1,-⟩:=(H2.o).1.cells;have m0:=cell_of_row w2 _ 0 _ _ _ NZ;have m1:=cell_of_row w2 _ 1 _ _ _ NZ;dsimp only;refine hK.o _ _ (fun _=>⟨u1,m0,m1⟩) (fun _=>fB ?_);clear hK K hS HC HK H2 NZ m0 m1 u1 n0 n1 t1 HN;go_wp2_with fail
 go_end0;exact⟨rfl,HF⟩
theorem l9(x:ah)(n:Int)(w:World)(b:Bool)(hb:x.isEmpty=b) :
  Calls prog 18 #[.agg #[.string (ba x),.int .i64 n]] w fun e w'=>e=.returned (.bool b)∧Below w.heap.size w w':=by
 subst hb;exact iV x n w
theorem BQ{w:World}{lo hi:Nat}{v:Value}(h:lG w lo hi v it):∃ b,(v=.iface 121 (.pointer (some ⟨b,0,none⟩))∧Calls prog 224 #[.pointer (some ⟨b,0,none⟩)] w fun e w'=>e=.returned (.agg #[.string (ba (X.called it).1),.int .i64 (X.called it).2])∧Below w.heap.size w w')∨(v=.iface 68 (.pointer (some ⟨b,0,none⟩))∧Calls prog 217 #[.pointer (some ⟨b,0,none⟩)] w fun e w'=>e=.returned (.agg #[.string (ba (X.called it).1),.int .i64 (X.called it).2])∧Below w.heap.size w w'):=by
 cases h with
 | use b pub gs m n a hb h=>exact⟨b,.inl ⟨rfl,uD b pub gs m n a w h⟩⟩
 | dfn b pub n pv ps v e hb h hp he=>exact⟨b,.inr ⟨rfl,qh b pub n pv v _ _ w h⟩⟩
theorem EZ(h:X.NW 268435456 it):X.Dp 268435456 (X.called it):=by
 cases it with
 | use p m n gs a =>
  show X.Dp _ (if gs then a else n);cases gs
  ·exact h.2.1
  ·exact h.2.2
 | dfn p n ps b=>exact h.1
theorem LZ{l:List X.It}{k:Nat}(hk:l[k]?=some it)(hn:(X.called it).1≠[]):∃ j,X.jo l (X.called it).1=some j:=by
 unfold X.jo;rw[aG hn];cases hf:l.findIdx? (fun it'=>(X.called it').1==(X.called it).1) with
 | some j=>exact⟨j,rfl⟩
 | none =>
  have:=List.findIdx?_eq_none_iff.1 hf it (dh hk);simp at this
theorem E8(i k:Nat)(it:X.It)(hk:(X.aM fs i)[k]?=some it)(h:Run w0 L fs M us w) :
  Calls prog 133 #[.pointer (some ⟨L.fb i,0,none⟩),.int .i64 k] w fun e w'=>e=.returned (.bool (X.lH (X.aM fs i) k (X.called it).1==5))∧Below w.heap.size w w':=by
 obtain⟨hil,hkl⟩:=lC hk;obtain⟨g,cap,v,lo,hi,e1,e2,e3,e4,e5,-,-⟩:=h.item hil hk;have hf:=h.file hil;rw[e1] at hf;have f0:=ai w _ 0 _ _ _ hf;have f1:=ai w _ 1 _ _ _ hf;have hfl:=aP hf;obtain⟨kk,hmp⟩:=h.named hil;obtain⟨ba1,ba2⟩:=EZ (h.NW hk);have Xv:(X.aM fs i).length≤268435456:=h.st.il i;obtain⟨b,hcase⟩:=BQ e5;have hi1:(k:Int)<((X.aM fs i).length:Int):=by omega
 have HM:=au hmp;have hnm:(X.called it).1≠[]→∃ j,X.jo (X.aM fs i) (X.called it).1=some j:=LZ hk;have hj:∀ j,X.jo (X.aM fs i) (X.called it).1=some j→j<268435456:=fun j hj=>by
  obtain⟨it',hit,-⟩:=X.qE hj;have:=(lC hit).2;omega
 generalize hnn:X.called it=nn at *;generalize hA:(X.lH (X.aM fs i) k nn.1==5)=A;have HA:=au hA;have hlen:nn.1.length≤maxLen:=by unfold maxLen;omega
 clear hmp hnn hA h e5 hf e1;have key:∀ w2:World,Below w.heap.size w w2→Mp w2 (L.nb i) kk (X.jo (X.aM fs i)):=fun w2 hb=>(HM.o).below hb
 have HKEY:=au key;clear key;rcases hcase with ⟨rfl,hc⟩|⟨rfl,hc⟩
 all_goals
  have HC:=au hc;clear hc;go_enter func133,ntmps133;go_wp2_with fail
  refine(HC.o).mono ?_;rintro e w2 ⟨rfl,B2⟩;have g1:=pU B2 hfl f1;have kC:Below w.heap.size w (w2.alloc (.cells #[.string (ba nn.1),.int .i64 nn.2] 66)):=B2.alloc B2.size _;have hN:(w2.alloc (.cells #[.string (ba nn.1),.int .i64 nn.2] 66)).heap[w2.heap.size]?=some (.cells #[.string (ba nn.1),.int .i64 nn.2] 66 (0,0)):=aB w2 _;have HB2:=au B2;have Xw:=au kC;have hsz:w2.heap.size<(w2.alloc (.cells #[.string (ba nn.1),.int .i64 nn.2] 66)).heap.size:=by simp
  clear kC B2 HC;have N0:=ai _ _ 0 _ _ _ hN;have N1:=ai _ _ 1 _ _ _ hN;have g1':=Lib.cell?_alloc_some (.cells #[.string (ba nn.1),.int .i64 nn.2] 66) g1;have hw2:L.fb i<w2.heap.size:=aH hfl (HB2.o).size;have hw3:L.fb i<(w2.alloc (.cells #[.string (ba nn.1),.int .i64 nn.2] 66)).heap.size:=by simp;omega
  clear hN;by_cases hn:nn.1=[]
  ·have e1:nn.1.isEmpty=true:=by rw[hn];rfl
   have HA2:Hid (A=false):=by rw[← HA.o];unfold X.lH;rw[aL (.inl hn)];exact au rfl
   clear HA hn;go_wp2_with fail
   generalize w2.alloc (.cells #[.string (ba nn.1),.int .i64 nn.2] 66)=w3 at *;refine wp_region_noPanic ?_;refine bH (S:=fun w'=>w'.cell? ⟨w2.heap.size,0,none⟩=some (.string (ba nn.1))∧w'.cell? ⟨w2.heap.size,1,none⟩=some (.int .i64 nn.2)) (z:=14) (by kernel_rfl) ?_;have hS:w3.drew.cell? ⟨w2.heap.size,0,none⟩=some (.string (ba nn.1))∧w3.drew.cell? ⟨w2.heap.size,1,none⟩=some (.int .i64 nn.2):=⟨N0,N1⟩;refine OH 0 hS ?_
   simp only[Act.put,ax,aD,aF];refine bD 1 fun K hK=>?_;go_simp;refine(l9 nn.1 nn.2 _ true e1).mono ?_;rintro e w4 ⟨rfl,B4⟩;have N0':=pU B4 hsz N0;have N1':=pU B4 hsz N1;go_simp;refine hK.o _ _ (fun _=>⟨N0',N1'⟩) (fun hS2=>?_);clear hS hK K;have hS:=hS2 (by decide);clear hS2;iterate 2(refine qD hS ?_;simp only[Act.put,ax,aD,aF])
   refine jh (i:=4) (dn:=18) (v:=undef) rfl rfl (by kernel_rfl) (by kernel_rfl) (by kernel_rfl) (by kernel_rfl) (fun _ _ _ h=>h) (Or.inr ⟨by rfl,rfl⟩) hS ?_;simp only[Act.put,ax,aD,aF];refine jh (i:=5) (dn:=19) (v:=undef) rfl rfl (by kernel_rfl) (by kernel_rfl) (by kernel_rfl) (by kernel_rfl) (fun _ _ _ h=>h) (Or.inr ⟨by rfl,rfl⟩) hS ?_;simp only[Act.put,ax,aD,aF];refine jh (i:=6) (dn:=20) (v:=undef) rfl rfl (by kernel_rfl) (by kernel_rfl) (by kernel_rfl) (by kernel_rfl) (fun _ _ _ h=>h) (Or.inr ⟨by rfl,rfl⟩) hS ?_;simp only[Act.put,ax,aD,aF];refine jh (i:=7) (dn:=21) (v:=undef) rfl rfl (by kernel_rfl) (by kernel_rfl) (by kernel_rfl) (by kernel_rfl) (fun _ _ _ h=>h) (Or.inr ⟨by rfl,rfl⟩) hS ?_;simp only[Act.put,ax,aD,aF];refine jh (i:=8) (dn:=22) (v:=undef) rfl rfl (by kernel_rfl) (by kernel_rfl) (by kernel_rfl) (by kernel_rfl) (fun _ _ _ h=>h) (Or.inr ⟨by rfl,rfl⟩) hS ?_;simp only[Act.put,ax,aD,aF];refine jh (i:=9) (dn:=23) (v:=undef) rfl rfl (by kernel_rfl) (by kernel_rfl) (by kernel_rfl) (by kernel_rfl) (fun _ _ _ h=>h) (Or.inr ⟨by rfl,rfl⟩) hS ?_;simp only[Act.put,ax,aD,aF];refine jh (i:=10) (dn:=24) (v:=undef) rfl rfl (by kernel_rfl) (by kernel_rfl) (by kernel_rfl) (by kernel_rfl) (fun _ _ _ h=>h) (Or.inr ⟨by rfl,rfl⟩) hS ?_;simp only[Act.put,ax,aD,aF];refine jh (i:=11) (dn:=25) (v:=undef) rfl rfl (by kernel_rfl) (by kernel_rfl) (by kernel_rfl) (by kernel_rfl) (fun _ _ _ h=>h) (Or.inr ⟨by rfl,rfl⟩) hS ?_;simp only[Act.put,ax,aD,aF];refine jh (i:=12) (dn:=26) (v:=undef) rfl rfl (by kernel_rfl) (by kernel_rfl) (by kernel_rfl) (by kernel_rfl) (fun _ _ _ h=>h) (Or.inr ⟨by rfl,rfl⟩) hS ?_;simp only[Act.put,ax,aD,aF];refine OH 13 hS ?_
   simp only[Act.put,ax,aD,aF];refine bD 14 fun K hK=>?_;go_simp;refine hK.o _ _ (fun h=>absurd rfl h) (fun _=>fB ?_);clear hK K hS;refine NoPanic.normal ?_;have HF:Hid (Below w.heap.size w w4):=((Xw.o).drew).trans (B4.mono ((Xw.o).size));clear B4 N0 N1 N0' N1';go_wp2_with fail
   go_ret;exact⟨by rw[HA2.o];rfl,HF.o⟩
  ·have e1:nn.1.isEmpty=false:=by cases hx:nn.1 with|nil=>exact absurd hx hn|cons a l=>rfl
   obtain⟨j,hj2⟩:=hnm hn;have hjl:=hj j hj2;have HRn:Hid (∀ w2:World,Below w.heap.size w w2→(Instr.lookup 103 (.map (some (L.nb i))) (.string (ba nn.1)) false).run prog w2=.ok (.int .i64 j) w2):=fun w2 hb=>by
    have:=((HKEY.o) w2 hb).Xt hlen;rw[hj2] at this;exact this
   have HA2:Hid (A=!((j:Int)==k)):=by
    rw[← HA.o];unfold X.lH;rw[hj2];by_cases hjk:j=k
    ·subst hjk
     rw[aL (.inr rfl)];exact au (by simp)
    ·rw[aG (fun e=>by rcases e with e|e;exact hn e;exact hjk (bK e))]
     have:((j:Int)==k)=false:=by simp;omega
     rw[this];exact au rfl
   clear HA hn hj2 hnm hj;go_wp2_with fail
   have Tt:=(HRn.o) _ (Xw.o).drew;generalize w2.alloc (.cells #[.string (ba nn.1),.int .i64 nn.2] 66)=w3 at *
   go_region_held3 (fun w'=>w'.cell? ⟨w2.heap.size,0,none⟩=some (.string (ba nn.1))∧w'.cell? ⟨w2.heap.size,1,none⟩=some (.int .i64 nn.2)∧w'.cell? ⟨L.fb i,1,none⟩=some (.map (some (L.nb i)))∧(Instr.lookup 103 (.map (some (L.nb i))) (.string (ba nn.1)) false).run prog w'=.ok (.int .i64 j) w')
    (first|(with_reducible exact⟨N0,N1,g1',Tt⟩)|(with_reducible exact⟨N0',N1',g1'',Tv⟩)|go_keep)
    ((go_at_call 18;refine(l9 nn.1 nn.2 _ false e1).mono ?_;rintro e w4 ⟨rfl,B4⟩;have N0':=pU B4 hsz N0;have N1':=pU B4 hsz N1;have g1'':=pU B4 hw3 g1';have Tv:=(HRn.o) w4 (((Xw.o).drew).trans (B4.mono ((Xw.o).size)))))
   have HF:Hid (Below w.heap.size w w4):=((Xw.o).drew).trans (B4.mono ((Xw.o).size));clear B4 N0 N1 N0' N1' g1' g1'' Tt Tv;go_wp2_with fail
   go_ret;exact⟨by rw[HA2.o];rfl,HF.o⟩
end
section
open Tryz
variable{w0:World}{L:Lay}{fs:List X.Fl}{M:Mem}{us:List X.U}{w:World}
theorem zu(i k:Nat)(it:X.It)(hk:(X.aM fs i)[k]?=some it)(h:Run w0 L fs M us w)(b:Bool)(hb:(X.lH (X.aM fs i) k (X.called it).1==5)=b) :
  Calls prog 133 #[.pointer (some ⟨L.fb i,0,none⟩),.int .i64 k] w fun e w'=>e=.returned (.bool b)∧Below w.heap.size w w':=by
 subst hb;exact E8 i k it hk h
theorem zw(k:Nat)(it:X.It)(hk:(X.aM fs L.tf)[k]?=some it)(h:Run w0 L fs M us w) :
  Calls prog 105 #[.pointer (some ⟨L.tb,0,none⟩),.int .i64 k] w fun e w'=>e=.returned (.int .i64 (X.lH (X.aM fs L.tf) k (X.called it).1))∧Below w.heap.size w w':=by
 obtain⟨hil,hkl⟩:=lC hk;have hn16:=h.st.n;obtain⟨nv,t0,t1,-⟩:=h.cells;obtain⟨-,c1⟩:=h.Uh;obtain⟨g,cap,e1,e2,e3,e4⟩:=h.files hil;rw[e1] at c1;have hi1:(L.tf:Int)<(fs.length:Int):=by omega
 have htl:L.tb<w.heap.size:=bG w ⟨L.tb,0,none⟩ t0;have hwl:L.wb<w.heap.size:=bG w ⟨L.wb,1,none⟩ c1;have hgl:g<w.heap.size:=bG w ⟨g,L.tf,none⟩ e4;have htw:X.lH (X.aM fs L.tf) k (X.called it).1=5∨X.lH (X.aM fs L.tf) k (X.called it).1=0:=by
  unfold X.lH
  split
  ·exact .inr rfl
  ·exact .inl rfl
 have kD:Below w.heap.size w w.drew:=(ay _ w).drew;rcases htw with ht|ht
 ·have HC:=au (zu L.tf k it hk (h.below kD) true (by rw[ht];rfl))
  clear h kD;rw[ht];go_enter func105,ntmps105;go_wp2_with fail
  refine bH (S:=fun w'=>w'.cell? ⟨L.tb,0,none⟩=some (.pointer (some ⟨L.wb,0,none⟩))∧w'.cell? ⟨L.tb,1,none⟩=some (.int .i64 L.tf)∧w'.cell? ⟨L.wb,1,none⟩=some (.slice (some ⟨g,0,none⟩) fs.length cap)∧w'.cell? ⟨g,L.tf,none⟩=some (.pointer (some ⟨L.fb L.tf,0,none⟩))) (z:=15) (by kernel_rfl) ?_;have hS:w.drew.cell? ⟨L.tb,0,none⟩=some (.pointer (some ⟨L.wb,0,none⟩))∧w.drew.cell? ⟨L.tb,1,none⟩=some (.int .i64 L.tf)∧w.drew.cell? ⟨L.wb,1,none⟩=some (.slice (some ⟨g,0,none⟩) fs.length cap)∧w.drew.cell? ⟨g,L.tf,none⟩=some (.pointer (some ⟨L.fb L.tf,0,none⟩)):=⟨t0,t1,c1,e4⟩;iterate 14(refine ou hS ?_;simp only[Act.put,ax,aD,aF])
  refine bD 14 fun K hK=>?_;go_simp;refine(HC.o).mono ?_;rintro e w4 ⟨rfl,B4⟩;dsimp only;refine hK.o _ _ (fun _=>⟨pU B4 htl hS.1,pU B4 htl hS.2.1,pU B4 hwl hS.2.2.1,pU B4 hgl hS.2.2.2⟩) (fun _=>fB ?_);have HF:Hid (Below w.heap.size w w4):=(Below.refl _ w).drew.trans B4;clear hK K hS B4 t0 t1 c1 e4 HC;go_wp2_with fail
  go_ret;exact⟨rfl,HF.o⟩
 ·have HC:=au (zu L.tf k it hk (h.below kD) false (by rw[ht];rfl))
  clear h kD;rw[ht];go_enter func105,ntmps105;go_wp2_with fail
  refine bH (S:=fun w'=>w'.cell? ⟨L.tb,0,none⟩=some (.pointer (some ⟨L.wb,0,none⟩))∧w'.cell? ⟨L.tb,1,none⟩=some (.int .i64 L.tf)∧w'.cell? ⟨L.wb,1,none⟩=some (.slice (some ⟨g,0,none⟩) fs.length cap)∧w'.cell? ⟨g,L.tf,none⟩=some (.pointer (some ⟨L.fb L.tf,0,none⟩))) (z:=15) (by kernel_rfl) ?_;have hS:w.drew.cell? ⟨L.tb,0,none⟩=some (.pointer (some ⟨L.wb,0,none⟩))∧w.drew.cell? ⟨L.tb,1,none⟩=some (.int .i64 L.tf)∧w.drew.cell? ⟨L.wb,1,none⟩=some (.slice (some ⟨g,0,none⟩) fs.length cap)∧w.drew.cell? ⟨g,L.tf,none⟩=some (.pointer (some ⟨L.fb L.tf,0,none⟩)):=⟨t0,t1,c1,e4⟩;iterate 14(refine ou hS ?_;simp only[Act.put,ax,aD,aF])
  refine bD 14 fun K hK=>?_;go_simp;refine(HC.o).mono ?_;rintro e w4 ⟨rfl,B4⟩;dsimp only;refine hK.o _ _ (fun _=>⟨pU B4 htl hS.1,pU B4 htl hS.2.1,pU B4 hwl hS.2.2.1,pU B4 hgl hS.2.2.2⟩) (fun _=>fB ?_);have HF:Hid (Below w.heap.size w w4):=(Below.refl _ w).drew.trans B4;clear hK K hS B4 t0 t1 c1 e4 HC;go_wp2_with fail
  go_ret;exact⟨rfl,HF.o⟩
theorem E9(n:X.Nm)(Dq:X.Dp 268435456 n)(h:Run w0 L fs M us w)(hlim:us.length+(X.gZ L.tf n 3 (match X.qC fs n.1 with|some f'=>(f',-1,0)|none=>(-1,-1,4))).length≤1073741824) :
  Calls prog 103 #[.pointer (some ⟨L.tb,0,none⟩),.agg #[.string (ba n.1),.int .i64 n.2]] w fun e w'=>e=.returned (.tuple #[])∧Hid (Run w0 L fs M (us++X.gZ L.tf n 3 (match X.qC fs n.1 with|some f'=>(f',-1,0)|none=>(-1,-1,4))) w'∧Kx L fs.length w0.heap.size w w'):=by
 have kA:Below w.heap.size w (w.alloc (.cells #[.string (ba n.1),.int .i64 n.2] 66)):=(ay _ w).alloc (aj _) _;have h1:=h.below kA;have hN:=aB w (.cells #[.string (ba n.1),.int .i64 n.2] 66);obtain⟨k1,k2⟩:=Dq;have hlen:n.1.length≤maxLen:=by unfold maxLen;omega
 have HS:=au h.st.lt;have hsz:=h.size;have oM:=au kA;clear kA h;cases hm:X.qC fs n.1 with
 | some f' =>
  rw[hm] at hlim;go_enter func103,ntmps103;go_wp2_with fail
  generalize w.alloc (.cells #[.string (ba n.1),.int .i64 n.2] 66)=W at *;have n0:=ai W _ 0 _ _ _ hN;have n1:=ai W _ 1 _ _ _ hN;have Uj:=aP hN;obtain⟨nv,t0,-⟩:=h1.cells;obtain⟨c0,-⟩:=h1.Uh;have h1d:=h1.below ((ay _ W).drew);obtain⟨kk,hmp⟩:=h1d.mods;have hrun:=hmp.nV hlen;rw[hm] at hrun;have hrun':(Instr.lookup 103 (.map (some L.mb)) (.string (ba n.1)) true).run prog W.drew=.ok (.tuple #[.int .i64 f',.bool true]) W.drew:=hrun;have HR:=au h1;clear hmp hrun h1 h1d hN
  go_region_held3 (fun w'=>w'.cell? ⟨L.tb,0,none⟩=some (.pointer (some ⟨L.wb,0,none⟩))∧w'.cell? ⟨w.heap.size,0,none⟩=some (.string (ba n.1))∧w'.cell? ⟨L.wb,0,none⟩=some (.map (some L.mb))∧(Instr.lookup 103 (.map (some L.mb)) (.string (ba n.1)) true).run prog w'=.ok (.tuple #[.int .i64 f',.bool true]) w')
   (first|(with_reducible exact⟨t0,n0,c0,hrun'⟩)|go_keep)
   (fail)
  clear hrun';have HC:=au (nI n 3 f' (-1) 0 ((HR.o).below ((ay _ W).drew)) hlim);go_wp2_with fail
  refine(HC.o).mono ?_;rintro e w4 ⟨rfl,H4⟩;have HF:Hid (Run w0 L fs M (us++X.gZ L.tf n 3 (f',-1,0)) w4∧Kx L fs.length w0.heap.size w w4):=⟨(H4.o).1,(Kx.aI (oM.o).drew).trans (H4.o).2⟩;clear HC H4 t0 n0 n1 c0;go_wp2_with fail
  go_end0;exact⟨rfl,HF⟩
 | none =>
  rw[hm] at hlim;go_enter func103,ntmps103;go_wp2_with fail
  generalize w.alloc (.cells #[.string (ba n.1),.int .i64 n.2] 66)=W at *;have n0:=ai W _ 0 _ _ _ hN;have n1:=ai W _ 1 _ _ _ hN;have Uj:=aP hN;obtain⟨nv,t0,-⟩:=h1.cells;obtain⟨c0,-⟩:=h1.Uh;have h1d:=h1.below ((ay _ W).drew);obtain⟨kk,hmp⟩:=h1d.mods;have hrun:=hmp.nV hlen;rw[hm] at hrun;have hrun':(Instr.lookup 103 (.map (some L.mb)) (.string (ba n.1)) true).run prog W.drew=.ok (.tuple #[.int .i64 0,.bool false]) W.drew:=hrun;have HR:=au h1;clear hmp hrun h1 h1d hN
  go_region_held3 (fun w'=>w'.cell? ⟨L.tb,0,none⟩=some (.pointer (some ⟨L.wb,0,none⟩))∧w'.cell? ⟨w.heap.size,0,none⟩=some (.string (ba n.1))∧w'.cell? ⟨L.wb,0,none⟩=some (.map (some L.mb))∧(Instr.lookup 103 (.map (some L.mb)) (.string (ba n.1)) true).run prog w'=.ok (.tuple #[.int .i64 0,.bool false]) w')
   (first|(with_reducible exact⟨t0,n0,c0,hrun'⟩)|go_keep)
   (fail)
  clear hrun';go_wp2_with fail
  generalize hWd:W.drew=Wd at *;have hKW:Below w.heap.size w Wd:=by rw[← hWd];exact(oM.o).drew
  have HR2:Hid (Run w0 L fs M us Wd):=by rw[← hWd];exact(HR.o).below ((ay _ W).drew)
  have n0':Wd.cell? ⟨w.heap.size,0,none⟩=some (.string (ba n.1)):=by rw[← hWd];exact n0
  have n1':Wd.cell? ⟨w.heap.size,1,none⟩=some (.int .i64 n.2):=by rw[← hWd];exact n1
  have L6:w.heap.size<Wd.heap.size:=by rw[← hWd];exact Uj
  clear hWd t0 n0 n1 c0;refine bH (S:=fun w'=>w'.cell? ⟨w.heap.size,0,none⟩=some (.string (ba n.1))∧w'.cell? ⟨w.heap.size,1,none⟩=some (.int .i64 n.2)) (z:=3) (by kernel_rfl) ?_;have hS:Wd.drew.cell? ⟨w.heap.size,0,none⟩=some (.string (ba n.1))∧Wd.drew.cell? ⟨w.heap.size,1,none⟩=some (.int .i64 n.2):=⟨n0',n1'⟩;iterate 2(refine qD hS ?_;simp only[Act.put,ax,aD,aF])
  refine bD 2 fun K hK=>?_;go_simp;refine(sH _).mono ?_;rintro e w3 ⟨rfl,B3⟩;have HR3:Hid (Run w0 L fs M us w3):=(HR2.o).below (((ay _ Wd).drew).trans B3);have qi:Hid (Below w.heap.size w w3):=hKW.trans ((((ay _ Wd).drew).trans B3).mono hKW.size);go_simp;refine hK.o _ _ (fun _=>⟨pU B3 L6 hS.1,pU B3 L6 hS.2⟩) (fun hS2=>?_);clear hS hK K;have hS:=hS2 (by decide);clear hS2;refine bD 3 fun K hK=>?_;go_simp;refine(nI n 3 (-1) (-1) 4 HR3.o hlim).mono ?_;rintro e w4 ⟨rfl,H4⟩;go_simp;refine hK.o _ _ (fun h=>absurd rfl h) (fun _=>fB ?_);clear hK K hS;have HF:Hid (Run w0 L fs M (us++X.gZ L.tf n 3 (-1,-1,4)) w4∧Kx L fs.length w0.heap.size w w4):=⟨(H4.o).1,(Kx.aI qi.o).trans (H4.o).2⟩;clear H4;go_wp2_with fail
  go_end0;exact⟨rfl,HF⟩
end
section
open Tryz
variable{j n B lo hi m b:Nat}{w':World}{ao:Option Addr}{ns:List X.Nm}{v:Value}{sc:List (List X.Nm)}
namespace X
theorem zF(f:Nat)(r:List Nm):∀(l seen:List Nm),jy f seen (l++r)=jy f seen l++jy f (seen++l) r
 | [],seen=>by rw[bT,jy,bT,aJ]
 | a::l,seen=>by
  rw[dx,jy,jy,zF f r l,aA,aA];rfl
theorem BS(f:Nat)(n:Nm)(l seen:List Nm):jy f seen (l++[n])=jy f seen l++qg f n 1 (if (seen++l).any (fun m=>m.1==n.1) then 5 else 0):=by
 rw[zF,jy,jy,aJ]
theorem BU(f:Nat)(ns:List Nm)(j:Nat):(jy f [] (ns.take j)).length≤(jy f [] ns).length:=by
 have:=zF f (ns.drop j) (ns.take j) [];rw[dA] at this;rw[this,ak];omega
theorem jH{α:Type}{l:List α}{n:α}(h:l[j]?=some n):l.take (j+1)=l.take j++[n]:=by
 rw[List.take_add_one,h];rfl
theorem zG(l:List Nm)(n:Nm)(x:ah):first (l++[n]) x=match first l x with|some i=>some i|none=>if n.1=x then some n.2 else none:=by
 unfold first;rw[List.find?_append];cases h:l.find? (fun m=>m.1==x) with
 | some m=>simp
 | none =>
  by_cases e:n.1=x
  ·simp[e]
  ·simp[e]
theorem tT(l:List Nm)(x:ah):l.any (fun m=>m.1==x)=(first l x).isSome:=by
 unfold first;rw[Option.isSome_map];exact iD.2 (by rw[rX,List.find?_isSome])
end X
structure Av(L:Lay)(n B lo hi:Nat):Prop where
 top:hi≤B
 av:∀ q,lo≤q→q<hi→¬ L.S n q
theorem Av.sx{L:Lay}(h:Av L n B lo hi)(w:World):∀ q,lo≤q→q<hi→¬ L.Sx n B w q:=fun q h1 h2 hs=>by
 rcases hs with hs|hs
 ·exact h.av q h1 h2 hs
 ·have:=h.top;omega
theorem xS{w:World}{ops:Array Oper}{o:Oper}{a:Act}{K:Act→World→Prop}{Q:Exit→Act→World→Prop}{E:Prop}(hg:o.guard=none)(m x v:Operand)(hop:o.op=Op.mapUpdate 103 m x v)(b n:Nat)(g:ah→Option Nat)
  (hm:a.eval m=.map (some b)) (h:Mp w b n g) (hn:n<maxLen) (k:ah) (hk:k.length≤maxLen) (i:Nat) (hi:i≤9223372036854775807) (hx:a.eval x=.string (ba k)) (hv:a.eval v=.int .i64 i)
  (hK:∀ w',Mp w' b (n+1) (upd g k i)→Kp (fun q=>q=b) w w'→K (a.put o.dst undef) w') :
  if Region.wanted o (yielded ops a.tmps)=true then Oper.wp prog o a w K Q else E:=by
 have hw:Region.wanted o (yielded ops a.tmps)=true:=by simp[Region.wanted,hg]
 rw[aL hw];obtain⟨w',hrun,r1,r2⟩:=h.yP hn hk hi;unfold Oper.wp;simp[execOp,hop,hm,hx,hv,hrun,Result.andThen];exact hK w' r1 r2
def Ma(w:World)(lo hi:Nat)(ao:Option Addr)(ns:List X.Nm):Prop:=∀(j:Nat) (n:X.Nm),ns[j]?=some n→∃ g,ao=some ⟨g,0,none⟩∧lo≤g∧g<hi∧w.cell? ⟨g,j*2,none⟩=some (.string (ba n.1))∧w.cell? ⟨g,j*2+1,none⟩=some (.int .i64 n.2)
theorem Ma.keep{S:Nat→Prop}{w:World}(h:Ma w lo hi ao ns)(hk:Kp S w w')(hS:∀ i,lo≤i→i<hi→¬ S i):Ma w' lo hi ao ns:=fun j n hj=>by
 obtain⟨g,e1,e2,e3,e4,e5⟩:=h j n hj;exact⟨g,e1,e2,e3,hk.dY e4 (hS g e2 e3),hk.dY e5 (hS g e2 e3)⟩
inductive Out(w:World)(m:Nat):Value→Prop
 | nil:Out w m (.pointer none)
 | cons (b m':Nat) (v:Value) (hb:b≠m) (hm:m'≠m) (h:w.heap[b]?=some (.cells #[.map (some m'),v] 347 (0,0))) (ho:Out w m v):Out w m (.pointer (some ⟨b,0,none⟩))
theorem iL.lt{B:Nat}{w:World}{v:Value}{sc:List (List X.Nm)}{m:Nat}(h:iL w B v sc)(hm:w.heap.size≤m):Out w m v:=by
 induction h with
 | nil=>exact .nil
 | cons b m' k ns v sc hB hm' h hp ho ih=>exact .cons b m' v (by have:=aP h;omega) (by have:=hp.lt;omega) h ih
theorem Out.keep{L:Lay}{w:World}(h:Out w m v)(hk:Kx L n B w w')(hS:∀ q,L.S n q→q<B)(hbk:iL w B v sc):Out w' m v:=by
 induction h generalizing sc with
 | nil=>exact .nil
 | cons b m' v hb hm h ho ih =>
  cases hbk with
  | cons _ m2 k ns v2 sc hB hm' h' hp ho' =>
   rw[h] at h';cases h'
   exact .cons b m' v hb hm (hk.made hS h hB (fun cs d e=>by cases e)) (ih ho')
theorem Xz(n:Int)(w:World):(Instr.makeMap 103 (some (.int .i64 n))).run prog w=.ok (.map (some w.heap.size)) (w.alloc (.map #[] 0)):=by
 simp[Instr.makeMap,qR underlying103,asInt,go_sem]
structure ZT(w:World)(w0:World)(L:Lay)(fs:List X.Fl)(M:Mem)(us:List X.U)(lo hi:Nat)(ao:Option Addr)(ns:List X.Nm)(bv:Value)(sc:List (List X.Nm))(b m j:Nat)(wr:World):Prop where
 run:Run w0 L fs M (us++X.jy L.tf [] (ns.take j)) wr
 kx:Kx L fs.length w0.heap.size w wr
 par:Ma wr lo hi ao ns
 bl:wr.heap[b]?=some (.cells #[.map (some m),bv] 347 (0,0))
 mp:Mp wr m j (X.first (ns.take j))
 bk:iL wr w0.heap.size bv sc
 ot:Out wr m bv
variable{w0:World}{L:Lay}{fs:List X.Fl}{M:Mem}{us:List X.U}{w:World}
theorem Mp.kx{w:World}{k:Nat}{g:ah→Option Nat}(h:Mp w b k g)(hk:Kx L n B w w')(hS:∀ q,L.S n q→q<B)(hB:B≤b):Mp w' b k g:=by
 obtain⟨es,clock,hb⟩:=h.obj;exact h.keep hk (fun hs=>by
  rcases hs with hs|⟨-,cs,d,hu⟩
  ·have:=hS b hs;omega
  ·rw[hb] at hu;cases hu)
theorem Run.map(h:Run w0 L fs M us w){w':World}{m:Nat}(hk:Kp (fun q=>q=m) w w')(hm:w0.heap.size≤m)(ho:∃ es clock,w.heap[m]?=some (.map es clock)):Run w0 L fs M us w':=by
 obtain⟨es,clock,hob⟩:=ho;refine⟨h.st,h.kp.trans hk (fun i hi e=>by omega),?_,fun i hi=>?_,h.lim⟩
 ·obtain⟨nv,h1,h2⟩:=h.tl
  refine⟨nv,hk.heap h1 (fun e=>by have:=h.st.wl;omega),hk.owns h2 (fun q hq e=>?_)⟩;rcases h2.2 with ⟨rfl,-⟩|⟨g',cap',cur,rfl,hge,hgg,-⟩
  ·cases hq
  ·cases hq
   have e':g'=m:=e;rw[e',hob] at hgg;cases hgg
 ·obtain⟨arr,x1,x2⟩:=h.fd i hi
  exact⟨arr,hk.heap x1 (fun e=>by have:=(h.st.gl i hi).1;omega),x2⟩
theorem Out.map{w:World}(h:Out w m v)(hk:Kp (fun q=>q=m) w w'):Out w' m v:=by
 induction h with
 | nil=>exact .nil
 | cons b m' v hb hm h ho ih=>exact .cons b m' v hb hm (hk.heap h hb) ih
theorem iL.map{w:World}(hk:Kp (fun q=>q=m) w w')(h:iL w B v sc)(ho:Out w m v):iL w' B v sc:=by
 induction h with
 | nil=>exact .nil
 | cons b m' k ns v sc hB hm' h hp ho' ih =>
  cases ho with
  | cons _ m2 v2 hb hm h' hoo =>
   rw[h] at h';cases h'
   exact .cons b m' k ns v sc hB hm' (hk.heap h hb) (hp.keep hk hm) (ih hoo)
theorem ZT.step{bv:Value}{wr w2:World}(h:ZT w w0 L fs M us lo hi ao ns bv sc b m j wr)(hv:Av L fs.length w0.heap.size lo hi)(h2:w0.heap.size≤b)(h3:w0.heap.size≤m){us2:List X.U}(hr:Run w0 L fs M us2 w2)(hk:Kx L fs.length w0.heap.size wr w2) :
  Kx L fs.length w0.heap.size w w2∧Ma w2 lo hi ao ns∧w2.heap[b]?=some (.cells #[.map (some m),bv] 347 (0,0))∧Mp w2 m j (X.first (ns.take j))∧iL w2 w0.heap.size bv sc∧Out w2 m bv:=by
 have hS:=hr.st.lt;exact⟨h.kx.trans hk,h.par.keep hk (hv.sx wr),hk.made hS h.bl h2 (fun cs d e=>by cases e),h.mp.kx hk hS h3,h.bk.keep hk hS,h.ot.keep hk hS h.bk⟩
theorem xU(lo hi pb:Nat)(ns:List X.Nm)(bv:Value)(sc:List (List X.Nm))(hv:Av L fs.length w0.heap.size lo hi)(hp:kM w lo hi pb ns)(Dq:∀ n∈ns,X.Dp 268435456 n)(h:Run w0 L fs M us w)(hbk:iL w w0.heap.size bv sc)(hlim:us.length+(X.jy L.tf [] ns).length≤1073741824) :
  Calls prog 135 #[.pointer (some ⟨L.tb,0,none⟩),.pointer (some ⟨pb,0,none⟩),bv] w fun e w'=>∃ b,e=.returned (.pointer (some ⟨b,0,none⟩))∧Hid (Run w0 L fs M (us++X.jy L.tf [] ns) w'∧Kx L fs.length w0.heap.size w w'∧iL w' w0.heap.size (.pointer (some ⟨b,0,none⟩)) (ns::sc)):=by
 have hmm:=Xz;have h0:=h.size;have hbv:∃ pa,bv=.pointer pa:=by cases hbk<;>exact⟨_,rfl⟩
 obtain⟨pa,rfl⟩:=hbv;have kA:Below w.heap.size w ((w.alloc (.map #[] 0)).alloc (.cells #[.map (some w.heap.size),.pointer pa] 347)):=((ay _ w).alloc (aj _) _).alloc (by simp) _;obtain⟨ao,cap,hpb,hc1,hc2,hcs⟩:=hp.ex;have hcs':Ma w lo hi ao ns:=fun j n hj=>by obtain⟨g,u1,u2,u3,u4,u5,-⟩:=hcs j n hj;exact⟨g,u1,u2,u3,u4,u5⟩
 have HI0:Hid (ZT w w0 L fs M us lo hi ao ns (.pointer pa) sc (w.heap.size+1) w.heap.size 0 ((w.alloc (.map #[] 0)).alloc (.cells #[.map (some w.heap.size),.pointer pa] 347))):=by
  refine⟨?_,Kx.aI kA,hcs'.keep (Kp.aI kA (fun _=>False)) (fun _ _ _=>id),?_,?_,hbk.LY kA,(hbk.lt (by omega)).keep (Kx.aI (L:=L) (n:=fs.length) (B:=w0.heap.size) kA) h.st.lt hbk⟩
  ·rw[nT,X.jy,aJ];exact h.below kA
  ·have:=aB (w.alloc (.map #[] 0)) (.cells #[.map (some w.heap.size),.pointer pa] 347)
   simpa using this
  ·have:=(Mp.made w).below ((ay _ _).alloc (aj _) (.cells #[.map (some w.heap.size),.pointer pa] 347))
   exact Mp.congr (g:=fun _=>none) this (fun _=>rfl)
 have hpl:=aP hpb;have p00:=ai w _ 0 _ _ _ hpb;have p0:=pU kA hpl p00;have hcap:ns.length≤9223372036854775807:=by unfold maxLen at hc2;omega
 have HV:=au hv;have HB:=au Dq;clear kA hpb hcs hcs' hp h hbk hv Dq;go_enter func135,ntmps135;go_wp2_with fail
 generalize (w.alloc (.map #[] 0)).alloc (.cells #[.map (some w.heap.size),.pointer pa] 347)=W at *;go_loopw [29] (fun v wr=>∃ j:Nat,v=.int .i64 j∧j≤ns.length∧Hid (ZT w w0 L fs M us lo hi ao ns (.pointer pa) sc (w.heap.size+1) w.heap.size j wr)) (fun v _=>ns.length - (intOf v).toNat)
 case atStart=>exact⟨0,rfl,aX _,HI0⟩
 case round =>
  obtain⟨j,rfl,hj,HI⟩:=hrel;clear HI0;by_cases hjl:j<ns.length
  ·obtain⟨n,hn⟩:∃ n,ns[j]?=some n:=⟨ns[j],aC hjl⟩
   obtain⟨g,e1,e2,e3,e4,e5⟩:=(HI.o).par j n hn;subst e1;obtain⟨nB1,nB2⟩:=(HB.o) n (dh hn);have hlen:n.1.length≤maxLen:=by unfold maxLen;omega
   have hi1:(j:Int)<(ns.length:Int):=by omega
   have kW:Below wr.heap.size wr (wr.alloc (.cells #[.string (ba n.1),.int .i64 n.2] 66)):=(ay _ wr).alloc (aj _) _;have wP:=au kW;have R1:=(HI.o).run.below kW;have aG1:w0.heap.size≤wr.heap.size:=(HI.o).run.size;have hwr2:w.heap.size+1<wr.heap.size:=aP (HI.o).bl;have b0:=pU kW (by omega) (ai wr _ 0 _ _ _ (HI.o).bl);have hN0:=au (aB wr (.cells #[.string (ba n.1),.int .i64 n.2] 66));have n0:=ai _ _ 0 _ _ _ hN0.o;have n1:=ai _ _ 1 _ _ _ hN0.o;have hrun:=((HI.o).mp.below (kW.drew)).nV hlen;clear kW;cases hfn:X.first (ns.take j) n.1 with
   | some i =>
    rw[hfn] at hrun;have hrun':(Instr.lookup 103 (.map (some w.heap.size)) (.string (ba n.1)) true).run prog (wr.alloc (.cells #[.string (ba n.1),.int .i64 n.2] 66)).drew=.ok (.tuple #[.int .i64 (i:Nat),.bool true]) (wr.alloc (.cells #[.string (ba n.1),.int .i64 n.2] 66)).drew:=hrun;have hany:(if ([]++ns.take j).any (fun m=>m.1==n.1) then 5 else 0)=5:=by rw[bT,X.tT,hfn];rfl
    have HU:Hid (us++X.jy L.tf [] (ns.take (j+1))=(us++X.jy L.tf [] (ns.take j))++X.qg L.tf n 1 5):=by
     rw[X.jH hn,X.BS,hany,aA];exact au rfl
    have hl2:(us++X.jy L.tf [] (ns.take j)).length+(X.qg L.tf n 1 5).length≤1073741824:=by
     have e1:=congrArg List.length HU.o;have e2:=X.BU L.tf ns (j+1);rw[ak,ak] at e1;omega
    have HC:=au (vg n 1 5 (R1.below ((ay _ _).drew)) hl2);clear hrun R1 hl2 hany;go_wp2_with fail
    generalize hW1:wr.alloc (.cells #[.string (ba n.1),.int .i64 n.2] 66)=W1 at *
    go_region_held3 (fun w'=>w'.cell? ⟨w.heap.size+1,0,none⟩=some (.map (some w.heap.size))∧w'.cell? ⟨wr.heap.size,0,none⟩=some (.string (ba n.1))∧(Instr.lookup 103 (.map (some w.heap.size)) (.string (ba n.1)) true).run prog w'=.ok (.tuple #[.int .i64 (i:Nat),.bool true]) w')
     (first|(with_reducible exact⟨b0,n0,hrun'⟩)|go_keep)
     (fail)
    clear hrun';have n0d:W1.drew.cell? ⟨wr.heap.size,0,none⟩=some (.string (ba n.1)):=n0;have n1d:W1.drew.cell? ⟨wr.heap.size,1,none⟩=some (.int .i64 n.2):=n1;go_wp2_with fail
    refine(HC.o).mono ?_;rintro e w2 ⟨rfl,H2⟩;have hk2:Kx L fs.length w0.heap.size wr w2:=(Kx.aI ((wP.o).drew)).trans (H2.o).2;obtain⟨y1,y2,y4,y5,y6,y7⟩:=(HI.o).step HV.o (by omega) (by omega) (H2.o).1 hk2;have Mc:w2.heap[wr.heap.size]?=some (.cells #[.string (ba n.1),.int .i64 n.2] 66 (0,0)):=(H2.o).2.made (H2.o).1.st.lt hN0.o aG1 (fun cs d e=>by cases e);clear HC n0d n1d n0 n1 b0 wP;have HI2:Hid (ZT w w0 L fs M us lo hi (some ⟨g,0,none⟩) ns (.pointer pa) sc (w.heap.size+1) w.heap.size (j+1) w2):=by
     refine⟨by rw[HU.o];exact(H2.o).1,y1,y2,y4,?_,y6,y7⟩;obtain⟨D,o1,o2⟩:=y5;refine Mp.congr (g:=X.first (ns.take j)) ⟨D,o1.mono (by omega),o2⟩ (fun x=>?_);rw[X.jH hn,X.zG];cases hx:X.first (ns.take j) x with
     | some i=>rfl
     | none =>
      by_cases e:n.1=x
      ·rw[e,hx] at hfn;cases hfn
      ·simp[e]
    clear y1 y2 y4 y5 y6 y7 Mc hk2 H2 HI;go_wp2_with fail
    exact⟨⟨j+1,by simp,by omega,HI2⟩,by simp[intOf];omega⟩
   | none =>
    rw[hfn] at hrun;have hrun':(Instr.lookup 103 (.map (some w.heap.size)) (.string (ba n.1)) true).run prog (wr.alloc (.cells #[.string (ba n.1),.int .i64 n.2] 66)).drew=.ok (.tuple #[.int .i64 0,.bool false]) (wr.alloc (.cells #[.string (ba n.1),.int .i64 n.2] 66)).drew:=hrun;have hany:(if ([]++ns.take j).any (fun m=>m.1==n.1) then 5 else 0)=0:=by rw[bT,X.tT,hfn];rfl
    have HU:Hid (us++X.jy L.tf [] (ns.take (j+1))=(us++X.jy L.tf [] (ns.take j))++X.qg L.tf n 1 0):=by
     rw[X.jH hn,X.BS,hany,aA];exact au rfl
    have hl2:(us++X.jy L.tf [] (ns.take j)).length+(X.qg L.tf n 1 0).length≤1073741824:=by
     have e1:=congrArg List.length HU.o;have e2:=X.BU L.tf ns (j+1);rw[ak,ak] at e1;omega
    have HC:=au (vg n 1 0 (R1.below ((ay _ _).drew)) hl2);clear hrun R1 hl2 hany;go_wp2_with fail
    generalize hW1:wr.alloc (.cells #[.string (ba n.1),.int .i64 n.2] 66)=W1 at *
    go_region_held3 (fun w'=>w'.cell? ⟨w.heap.size+1,0,none⟩=some (.map (some w.heap.size))∧w'.cell? ⟨wr.heap.size,0,none⟩=some (.string (ba n.1))∧(Instr.lookup 103 (.map (some w.heap.size)) (.string (ba n.1)) true).run prog w'=.ok (.tuple #[.int .i64 0,.bool false]) w')
     (first|(with_reducible exact⟨b0,n0,hrun'⟩)|go_keep)
     (fail)
    clear hrun';have n0d:W1.drew.cell? ⟨wr.heap.size,0,none⟩=some (.string (ba n.1)):=n0;have n1d:W1.drew.cell? ⟨wr.heap.size,1,none⟩=some (.int .i64 n.2):=n1;go_wp2_with fail
    refine(HC.o).mono ?_;rintro e w2 ⟨rfl,H2⟩;have hk2:Kx L fs.length w0.heap.size wr w2:=(Kx.aI ((wP.o).drew)).trans (H2.o).2;obtain⟨y1,y2,y4,y5,y6,y7⟩:=(HI.o).step HV.o (by omega) (by omega) (H2.o).1 hk2;have Mc:w2.heap[wr.heap.size]?=some (.cells #[.string (ba n.1),.int .i64 n.2] 66 (0,0)):=(H2.o).2.made (H2.o).1.st.lt hN0.o aG1 (fun cs d e=>by cases e);clear HC n0d n1d n0 n1 b0 wP;have b0':=ai w2 _ 0 _ _ _ y4;have q0:=ai w2 _ 0 _ _ _ Mc;have q1:=ai w2 _ 1 _ _ _ Mc;have aW4:=aP y4;have bW6:=aP Mc;have HR2:=au (H2.o).1;have Y1:=au y1;have Y2:=au y2;have Y4:=au y4;have Y5:=au y5;have Y6:=au y6;have Y7:=au y7;clear y1 y2 y4 y5 y6 y7 Mc hk2 H2 HI;go_wp2_with fail
    have hne1:¬(w.heap.size+1=w.heap.size):=by omega
    have Tx:Hid (Mp w2.drew w.heap.size j (X.first (ns.take j))):=(Y5.o).below ((ay _ w2).drew);have hjm:j<maxLen:=by unfold maxLen;omega
    have hn2:n.2≤9223372036854775807:=by omega
    have hne2:¬(wr.heap.size=w.heap.size):=by have:=hwr2;omega
    refine bH (S:=fun w'=>w'.cell? ⟨w.heap.size+1,0,none⟩=some (.map (some w.heap.size))∧w'.cell? ⟨wr.heap.size,0,none⟩=some (.string (ba n.1))∧w'.cell? ⟨wr.heap.size,1,none⟩=some (.int .i64 n.2)) (z:=8) (by kernel_rfl) ?_;have hS:w2.drew.cell? ⟨w.heap.size+1,0,none⟩=some (.map (some w.heap.size))∧w2.drew.cell? ⟨wr.heap.size,0,none⟩=some (.string (ba n.1))∧w2.drew.cell? ⟨wr.heap.size,1,none⟩=some (.int .i64 n.2):=⟨b0',q0,q1⟩;iterate 8(refine qD hS ?_;simp only[Act.put,ax,aD,aF])
    refine bD 8 fun K hK=>?_;refine xS (by rfl) _ _ _ (by rfl) w.heap.size j (X.first (ns.take j)) (by rfl) Tx.o hjm n.1 hlen n.2 hn2 (by rfl) (by rfl) ?_;intro w5 aG2 hk5;refine hK.o _ _ (fun h=>absurd rfl h) (fun _=>fB ?_);clear hK K hS;have HI2:Hid (ZT w w0 L fs M us lo hi (some ⟨g,0,none⟩) ns (.pointer pa) sc (w.heap.size+1) w.heap.size (j+1) w5):=by
     have aW5:w0.heap.size≤w.heap.size:=by omega
     have Md:Kp (fun q=>q=w.heap.size) w2 w5:=((Kp.refl _ w2).drew).trans hk5 (fun _ _ e=>e);have ZU:∀ i,lo≤i→i<hi→¬(i=w.heap.size):=fun i _ hi' e=>by have:=(HV.o).top;omega
     have hr5:Run w0 L fs M (us++X.jy L.tf [] (ns.take (j+1))) w5:=by
      rw[HU.o];exact(HR2.o).map Md aW5 (Y5.o).obj
     have Um:Kx L fs.length w0.heap.size w w5:=Kp.trans Y1.o Md (fun i hi' e=>by omega);refine⟨hr5,Um,(Y2.o).keep Md ZU,Md.heap Y4.o (by omega),?_,(Y6.o).map Md Y7.o,(Y7.o).map Md⟩;refine aG2.congr (fun x=>?_);rw[X.jH hn,X.zG];unfold upd;by_cases e:x=n.1
     ·subst e
      rw[aL rfl,hfn];simp
     ·rw[aG e]
      cases hx:X.first (ns.take j) x with
      | some i=>rfl
      | none=>simp[iG e]
    clear aG2 hk5 b0' q0 q1 Y1 Y2 Y4 Y5 Y6 Y7 HR2;go_wp2_with fail
    exact⟨⟨j+1,by simp,by omega,HI2⟩,by simp[intOf];omega⟩
  ·obtain rfl:j=ns.length:=by omega
   have hd1:¬(ns.length:Int)<(ns.length:Int):=by omega
   have HF:Hid (Run w0 L fs M (us++X.jy L.tf [] ns) wr∧Kx L fs.length w0.heap.size w wr∧iL wr w0.heap.size (.pointer (some ⟨w.heap.size+1,0,none⟩)) (ns::sc)):=by
    have hin:=HI.o;have e1:=hin.run;have e2:=hin.mp;rw[kY] at e1 e2;exact⟨e1,hin.kx,.cons _ _ _ ns _ sc (by omega) (by omega) hin.bl e2 hin.bk⟩
   clear HI;go_wp2_with fail
   go_ret;exact⟨_,rfl,HF⟩
end
section
open Tryz
structure AF where
 n:ByteArray
 t:ByteArray
def qF(w:World)(B:Nat)(ao:Option Addr)(l:List AF):Prop:=∀(j:Nat) (a:AF),l[j]?=some a→∃ b o,ao=some ⟨b,o,none⟩∧b<B∧w.cell? ⟨b,o+j*2,none⟩=some (.string a.n)∧w.cell? ⟨b,o+j*2+1,none⟩=some (.string a.t)
theorem qF.below{w w':World}{B:Nat}{ao:Option Addr}{l:List AF}(h:qF w B ao l)(hk:Below B w w'):qF w' B ao l:=fun j a hj=>by
 obtain⟨b,o,e1,e2,e3,e4⟩:=h j a hj;exact⟨b,o,e1,e2,(hk.cell (p:=⟨b,o+j*2,none⟩) e2).trans e3,(hk.cell (p:=⟨b,o+j*2+1,none⟩) e2).trans e4⟩
def qj(s:ByteArray):Bool:=decide (s.size≤40)&&nX (bs s) 3
def Bd:List AF→List (ah)→Nat
 | [],_=>0
 | a::l,seen=>if qj a.n then(if bs a.n∈seen then 5 else Bd l (seen++[bs a.n])) else 4
def o8(l:List AF):Nat:=if 16<l.length then 12 else if l.any (fun a=>decide (20000<a.t.size)) then 12 else Bd l []
def aH7(r:Nat):Value:=if r=0 then .nilIface else .iface 34 (.int .i64 r)
theorem KC(s:ByteArray)(w:World)(hT:kP w)(b:Bool)(hb:qj s=b):Calls prog 23 #[.string s] w fun e w'=>e=.returned (.bool b)∧Below w.heap.size w w':=by
 subst hb;by_cases h:s.size≤40
 ·exact Fj s w hT (by omega)
 ·have i1:decide ((s.size:Int)≤40)=false:=by simp;omega
  unfold qj;rw[decide_eq_false h,Bool.false_and];go_enter func23,ntmps23;go_wp2_with fail
  go_ret;exact⟨rfl,ay _ _⟩
def oz(l:List AF)(x:ah):Option Nat:=l.findIdx? (fun a=>bs a.n==x)
theorem Ca{l:List AF}{j:Nat}{a:AF}(h:l[j]?=some a)(x:ah):oz (l.take (j+1)) x=match oz (l.take j) x with|some i=>some i|none=>if bs a.n=x then some j else none:=by
 have hj:j<l.length:=by
  rcases bE j l.length with g|g
  ·exact g
  ·rw[aO g] at h;cases h
 unfold oz;rw[X.jH h,List.findIdx?_append];cases hf:(l.take j).findIdx? (fun a=>bs a.n==x) with
 | some i=>simp
 | none =>
  by_cases e:bs a.n=x
  ·simp[lX,e]
   omega
  ·have e2:(bs a.n==x)=false:=by simpa using e
   simp[lX,e2,e]
theorem vw(l:List AF)(x:ah):(oz l x).isSome=true↔x∈l.map (fun a=>bs a.n):=by
 unfold oz;rw[List.findIdx?_isSome,rX,iT];constructor
 ·rintro⟨a,h1,h2⟩;exact⟨a,h1,by simpa using h2⟩
 ·rintro⟨a,h1,h2⟩;exact⟨a,h1,by simpa using h2⟩
def zK(l:List AF)(j r:Nat):Prop:=Bd (l.drop j) ((l.take j).map (fun a=>bs a.n))=r
theorem zK.next{l:List AF}{j r:Nat}{a:AF}(h:zK l j r)(ha:l[j]?=some a):(qj a.n=false∧r=4)∨(qj a.n=true∧((∃ i,oz (l.take j) (bs a.n)=some i)∧r=5∨(oz (l.take j) (bs a.n)=none∧zK l (j+1) r))):=by
 unfold zK at h ⊢;have hd:l.drop j=a::l.drop (j+1):=by
  have hj:j<l.length:=by
   rcases bE j l.length with g|g
   ·exact g
   ·rw[aO g] at ha;cases ha
  rw[bP hj];rw[aC hj] at ha;rw[bK ha]
 rw[hd,Bd] at h;cases hn:qj a.n with
 | false=>rw[hn] at h;left;exact⟨rfl,by simpa using h.symm⟩
 | true =>
  rw[hn,aL rfl] at h
  right
  refine⟨rfl,?_⟩;cases hi:oz (l.take j) (bs a.n) with
  | some i =>
   left
   have:bs a.n∈(l.take j).map (fun a=>bs a.n):=(vw _ _).1 (by rw[hi];rfl);rw[aL this] at h;exact⟨⟨i,rfl⟩,h.symm⟩
  | none =>
   right
   have:¬ bs a.n∈(l.take j).map (fun a=>bs a.n):=fun hm=>by
    have:=(vw _ _).2 hm;rw[hi] at this;cases this
   rw[aG this] at h;refine⟨rfl,?_⟩;rw[X.jH ha,pQ];exact h
theorem Cb(ao:Option Addr)(cap:Nat)(l:List AF)(w:World)(hT:kP w)(h:qF w w.heap.size ao l)(hl:l.length≤cap)(hc:cap≤maxLen) :
  Calls prog 11 #[.slice ao l.length cap] w fun e w'=>e=.returned (aH7 (o8 l))∧Below w.heap.size w w':=by
 have hmm:∀(t:TypeId) (w:World),(Instr.makeMap t none).run prog w=.ok (.map (some w.heap.size)) (w.alloc (.map #[] 0)):=fun _ _=>rfl
 have HL:=au h;have HT:=au hT;have hcap:l.length≤9223372036854775807:=by unfold maxLen at hc;omega
 by_cases h16:16<l.length
 ·have e1:o8 l=12:=aL h16
  rw[e1];have d1:((l.length:Int)>16):=by omega
  have d2:(16:Int)<(l.length:Int):=by omega
  clear h hT;go_enter func11,ntmps11;go_wp2_with fail
  go_ret;exact⟨rfl,ay _ w⟩
 ·have d1:¬(16:Int)<(l.length:Int):=by omega
  generalize hR:o8 l=r;have HR:Hid ((if l.any (fun a=>decide (20000<a.t.size)) then 12 else Bd l [])=r):=by
   rw[← hR];exact(aG h16).symm
  clear h hT hR;go_enter func11,ntmps11;go_wp2_with fail
  go_loopw [16] (fun v wr=>∃ j:Nat,v=.int .i64 j∧j≤l.length∧Hid ((l.take j).any (fun a=>decide (20000<a.t.size))=false)∧Hid (Below w.heap.size w wr)) (fun v _=>l.length - (intOf v).toNat)
  case atStart=>exact⟨0,rfl,aX _,au rfl,ay _ w⟩
  case round =>
   obtain⟨j,rfl,hj,HA,HB⟩:=hrel;by_cases hjl:j<l.length
   ·obtain⟨a,ha⟩:∃ a,l[j]?=some a:=⟨l[j],aC hjl⟩
    obtain⟨b,o,e1,e2,e3,e4⟩:=(HL.o).below HB.o j a ha;subst e1;have hi1:(j:Int)<(l.length:Int):=by omega
    have hbl:b<wr.heap.size:=aH e2 (HB.o).size;by_cases hq:20000<a.t.size
    ·have hq2:(20000:Int)<(a.t.size:Int):=by omega
     have HF:Hid (r=12):=by
      rw[← HR.o];have:l.any (fun a=>decide (20000<a.t.size))=true:=rX.2 ⟨a,dh ha,by simpa using hq⟩;rw[this];exact au rfl
     have HB2:Hid (Below w.heap.size w (wr.alloc (.cells #[.string a.n,.string a.t] 30))):=(HB.o).alloc (HB.o).size _;clear HA HB HR;go_wp2_with fail
     go_ret;exact⟨by rw[HF.o];rfl,HB2.o⟩
    ·have hq2:¬(20000:Int)<(a.t.size:Int):=by omega
     have HA2:Hid ((l.take (j+1)).any (fun a=>decide (20000<a.t.size))=false):=by
      rw[X.jH ha,List.any_append,HA.o];exact au (by simpa using hq)
     have HB2:Hid (Below w.heap.size w (wr.alloc (.cells #[.string a.n,.string a.t] 30))):=(HB.o).alloc (HB.o).size _;clear HA HB;go_wp2_with fail
     exact⟨⟨j+1,by simp,by omega,HA2,HB2⟩,by simp[intOf];omega⟩
   ·obtain rfl:j=l.length:=by omega
    have hd1:¬(l.length:Int)<(l.length:Int):=by omega
    have HR2:Hid (zK l 0 r):=by
     have h1:=HA.o;rw[kY] at h1;have h2:=HR.o;rw[h1] at h2;exact h2
    clear HA HR;go_wp2_with fail
    have HI0:Hid (Below w.heap.size w (wr.alloc (.map #[] 0))∧Mp (wr.alloc (.map #[] 0)) wr.heap.size 0 (oz (l.take 0))):=⟨(HB.o).alloc (HB.o).size _,(Mp.made wr).congr (fun x=>by rw[nT];rfl)⟩;have XV:w.heap.size≤wr.heap.size:=(HB.o).size;clear HB hmm;generalize wr.heap.size=m at *;generalize wr.alloc (.map #[] 0)=W0 at *;go_loopw [29] (fun v wr2=>∃ j:Nat,v=.int .i64 j∧j≤l.length∧Hid (zK l j r)∧Hid (Below w.heap.size w wr2∧Mp wr2 m j (oz (l.take j)))) (fun v _=>l.length - (intOf v).toNat)
    case atStart=>exact⟨0,rfl,aX _,HR2,HI0⟩
    case round =>
     obtain⟨j,rfl,hj,HR3,HI⟩:=hrel;clear HI0 HR2;by_cases hjl:j<l.length
     ·obtain⟨a,ha⟩:∃ a,l[j]?=some a:=⟨l[j],aC hjl⟩
      obtain⟨b,o,e1,e2,e3,e4⟩:=(HL.o).below (HI.o).1 j a ha;subst e1;have hi1:(j:Int)<(l.length:Int):=by omega
      have hcs:=(HR3.o).next ha;have kF:Below w.heap.size w (wr.alloc (.cells #[.string a.n,.string a.t] 30)):=(HI.o).1.alloc (HI.o).1.size _;have hTw:kP (wr.alloc (.cells #[.string a.n,.string a.t] 30)):=(HT.o).below kF;have Dx:=aB wr (.cells #[.string a.n,.string a.t] 30);have bZ0:(wr.alloc (.cells #[.string a.n,.string a.t] 30)).heap.size=wr.heap.size+1:=by simp
      have n0:=ai _ _ 0 _ _ _ Dx;have aH8:=(HI.o).2.below ((ay _ wr).alloc (aj _) (.cells #[.string a.n,.string a.t] 30));have Ig:=au kF;have HM1:=au aH8;have Z0:=au Dx;clear kF aH8 HI Dx;rcases hcs with ⟨hn,hr⟩|⟨hn,hcs⟩
      ·have HC:=au (KC a.n _ hTw false hn)
       have HRr:=au hr;clear hTw hn hr HM1;go_wp2_with fail
       refine(HC.o).mono ?_;rintro e w3 ⟨rfl,B3⟩;have HF:Hid (Below w.heap.size w w3):=(Ig.o).trans (B3.mono (Ig.o).size);clear B3 HC n0;go_wp2_with fail
       go_ret;exact⟨by rw[HRr.o];rfl,HF.o⟩
      ·have HC:=au (KC a.n _ hTw true hn)
       have hlen:(bs a.n).length≤maxLen:=by
        unfold qj at hn;rw[eZ];unfold maxLen;have:a.n.size≤40:=by simp at hn;exact hn.1
        omega
       have HCS:=au hcs;clear hTw hn hcs;go_wp2_with fail
       refine(HC.o).mono ?_;rintro e w3 ⟨rfl,B3⟩;have XO:=(HM1.o).below B3;have hrun:=XO.nV hlen;rw[Fp] at hrun;have Z7:=pU B3 (by omega) n0;have qi:Hid (Below w.heap.size w w3):=(Ig.o).trans (B3.mono (Ig.o).size);have wW:=au XO;clear HC B3 XO HM1 Ig Z0 n0;rcases HCS.o with ⟨⟨i,hi⟩,hr⟩|⟨hi,hr⟩
       ·rw[hi] at hrun
        have hrun':(Instr.lookup 103 (.map (some m)) (.string a.n) true).run prog w3=.ok (.tuple #[.int .i64 (i:Nat),.bool true]) w3:=hrun;have HRr:=au hr;clear hrun hi hr HCS wW;go_wp2_with fail
        go_ret;exact⟨by rw[HRr.o];rfl,(qi.o)⟩
       ·rw[hi] at hrun
        have hrun':(Instr.lookup 103 (.map (some m)) (.string a.n) true).run prog w3=.ok (.tuple #[.int .i64 0,.bool false]) w3:=hrun;have HRr:=au hr;have HI3:=au hi;have hjm:j<maxLen:=by unfold maxLen;omega
        obtain⟨w4,hp1,hp2,hp3⟩:=(wW.o).yP hjm hlen (i:=j) (by omega);rw[Fp] at hp1;have HI4:Hid (Below w.heap.size w w4∧Mp w4 m (j+1) (oz (l.take (j+1)))):=by
         refine⟨(qi.o).trans (hp3.below (qi.o).size (fun q e=>by omega)),hp2.congr (fun x=>?_)⟩;rw[Ca ha];unfold upd;by_cases e:x=bs a.n
         ·subst e
          rw[aL rfl,HI3.o];show _=if _ then _ else _
          rw[aL rfl]
         ·rw[aG e]
          cases hx:oz (l.take j) x with
          | some i=>rfl
          | none =>
           show _=if _ then _ else _
           rw[aG (fun e2=>e e2.symm)]
        clear hrun hi hr HCS wW hp2 hp3 qi;go_wp2_with fail
        exact⟨⟨j+1,by simp,by omega,HRr,HI4⟩,by simp[intOf];omega⟩
     ·obtain rfl:j=l.length:=by omega
      have hd2:¬(l.length:Int)<(l.length:Int):=by omega
      have HF:Hid (r=0∧Below w.heap.size w wr):=by
       have h1:=HR3.o;unfold zK at h1;rw[List.drop_length,Bd] at h1;exact⟨h1.symm,(HI.o).1⟩
      clear HI HR3;go_wp2_with fail
      go_ret;exact⟨by rw[(HF.o).1];rfl,(HF.o).2⟩
end
end Go.Proofs.YtdkpkpgpphkljaaGreatDoor
