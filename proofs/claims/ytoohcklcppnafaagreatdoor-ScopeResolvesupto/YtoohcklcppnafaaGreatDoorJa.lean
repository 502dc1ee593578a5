import Derived.Test.YtoohcklcppnafaaGreatDoorVyd
namespace Go.Proofs.YtoohcklcppnafaaGreatDoor
set_option maxRecDepth 100000
set_option maxHeartbeats 4000000
open Go.RowKit
open M
section
open Tryz
open Go.Maps (Keyed)
variable{w w':aG}{b n:Nat}{g:ah→Option Nat}{k:ah}
theorem Zw:Keyed prog 9:=Go.Maps.string_keyed underlying9
theorem XT(w:aG):(zeroValue 3).run prog w=.ok (.int .i64 0) w:=bC
def Mp(w:aG)(b n:Nat)(g:ah→Option Nat):Prop :=
 ∃ D:DataW Unit,w.ownsMap prog 9 (plainElem prog 3) b n D∧∀ x:ah,Maps.has D (.string x)=(g x).isSome∧∀ i,g x=some i→D.atKey (.string x) (.lit (.int .i64 0))=.lit (.int .i64 i)
theorem Mp.lt{w:aG}{b n:Nat}{g:ah→Option Nat}(h:Mp w b n g):b<w.heap.size:=by
 obtain⟨D,h1,-⟩:=h;exact h1.lt
theorem Mp.made(w:aG):Mp (w.alloc (.map #[] 0)) w.heap.size 0 (fun _=>none) :=
 ⟨.map [],World.ownsMap_made w _ _ _,fun x=>⟨rfl,fun i h=>by cases h⟩⟩
theorem Mp.keep{S:Nat→Prop}(h:Mp w b n g)(hk:Kp S w w')(hn:¬ S b):Mp w' b n g:=by
 obtain⟨D,⟨es,clock,hb,r⟩,h2⟩:=h;exact⟨D,⟨es,clock,hk.heap hb hn,r⟩,h2⟩
theorem Mp.below(h:Mp w b n g)(hk:Below w.heap.size w w'):Mp w' b n g:=h.keep (Kp.aN hk (fun _=>False)) id
theorem Mp.obj(h:Mp w b n g):∃ es clock,w.heap[b]?=some (.map es clock):=by
 obtain⟨D,⟨es,clock,hb,r⟩,h2⟩:=h;exact⟨es,clock,hb⟩
theorem Mp.congr{g':ah→Option Nat}(h:Mp w b n g)(e:∀ x,g x=g' x):Mp w b n g':=by
 have:g=g':=funext e;rw[← this];exact h
theorem Kz(hk:k.length≤maxLen):keyOf prog 9 (.string (ba k))=some (.string k):=by
 have:=Go.WideMaps.keyOf_string_mk underlying9 (s:=ba k) (by rw[zo];exact hk);rw[this];simp[ba]
theorem Mp.oV(h:Mp w b n g)(hk:k.length≤maxLen) :
  (Instr.lookup 73 (.map (some b)) (.string (ba k)) true).run prog w=.ok (.tuple #[.int .i64 (((g k).getD 0:Nat):Int),.bool (g k).isSome]) w:=by
 obtain⟨D,h1,h2⟩:=h;obtain⟨v,ps,hr,hv⟩:=h1.look_ok Zw underlying73 (XT w) (plainElem_int underlying3 aS) (Kz hk);obtain⟨c,rfl,hc,-⟩:=plainElem_int_inv underlying3 hv;have hc1:D.atKey (.string k) (.lit (.int .i64 0))=.lit (.int .i64 c):=congrArg Prod.fst hc;rw[hr,(h2 k).1];cases hg:g k with
 | none =>
  have:=Maps.atKey_of_not_has (D:=D) (k:=.string k) (by rw[(h2 k).1,hg];rfl) (.lit (.int .i64 0));rw[this] at hc1;cases hc1
  rfl
 | some i =>
  rw[(h2 k).2 i hg] at hc1;cases hc1
  rfl
theorem Mp.Zx(h:Mp w b n g)(hk:k.length≤maxLen) :
  (Instr.lookup 73 (.map (some b)) (.string (ba k)) false).run prog w=.ok (.int .i64 (((g k).getD 0:Nat):Int)) w:=by
 obtain⟨D,h1,h2⟩:=h;obtain⟨c,hr,hc1,-⟩:=h1.lookup_int Zw underlying73 underlying3 (XT w) (Kz hk);rw[hr];cases hg:g k with
 | none =>
  have:=Maps.atKey_of_not_has (D:=D) (k:=.string k) (by rw[(h2 k).1,hg];rfl) (.lit (.int .i64 0));rw[this] at hc1;cases hc1
  rfl
 | some i =>
  rw[(h2 k).2 i hg] at hc1;cases hc1
  rfl
def upd(g:ah→Option Nat)(k:ah)(i:Nat):ah→Option Nat:=fun x=>if x=k then some i else g x
theorem Mp.zq(h:Mp w b n g)(hn:n<maxLen)(hk:k.length≤maxLen){i:Nat}(hi:i≤9223372036854775807) :
  ∃ w',(Instr.mapUpdate 73 (.map (some b)) (.string (ba k)) (.int .i64 i)).run prog w=.ok () w'∧Mp w' b (n+1) (upd g k i)∧Kp (fun q=>q=b) w w':=by
 obtain⟨D,h1,h2⟩:=h;obtain⟨w',hr,ho,hg⟩:=h1.update Zw underlying73 hn (Kz hk) (plainElem_int underlying3 (a:=(i:Int)) (WalkArith.wf_i64 au));refine⟨w',hr,⟨_,ho,fun x=>?_⟩,(Kp.refl _ w).grown hg (fun q e _=>by cases e;rfl)⟩;unfold upd;by_cases hx:x=k
 ·subst hx
  rw[aU rfl];exact⟨Maps.has_put_same h1.isMap (k:=.string x) (show WideAt.IsKeyLit (.string x) from trivial) _,fun j hj=>by cases hj;exact Maps.atKey_put_same h1.isMap (k:=.string x) (show WideAt.IsKeyLit (.string x) from trivial) _ _⟩
 ·rw[aM hx]
  have hne:(Lit.string x)≠.string k:=fun e=>hx (by cases e;rfl)
  refine⟨by rw[Maps.has_put_other hne];exact(h2 x).1,fun j hj=>?_⟩;rw[Maps.atKey_put_other hne];exact(h2 x).2 j hj
end
section
open X
variable{n i k:Nat}{w':aG}{it:It}
structure Lay where
 wb:Nat
 tb:Nat
 tf:Nat
 mb:Nat
 fv:Value
 fb:Nat→Nat
 nb:Nat→Nat
 iv:Nat→Value
 gb:Nat→Nat
def Lay.S(L:Lay)(n:Nat)(q:Nat):Prop:=q=L.tb∨∃ i,i<n∧q=L.gb i
structure St(w:aG)(L:Lay)(fs:List Fl):Prop where
 n:fs.length≤16
 ws:w.heap[L.wb]?=some (.cells #[.map (some L.mb),L.fv] 104 (0,0))∧¬ L.S fs.length L.wb
 mp:∃ k,Mp w L.mb k (m_ fs)
 ms:¬ L.S fs.length L.mb
 fl:∃ ao cap,L.fv=.slice ao fs.length cap∧fs.length≤cap∧cap≤maxLen∧∀ i,i<fs.length→∃ g,ao=some ⟨g,0,none⟩∧¬ L.S fs.length g∧w.cell? (aC g i)=some (aH (L.fb i))
 fi:∀ i,i<fs.length→w.heap[L.fb i]?=some (.cells #[L.iv i,.map (some (L.nb i)),.slice (b_ (L.gb i)) (bI fs i).length (bI fs i).length] 159 (0,0))∧¬ L.S fs.length (L.fb i)
 nm:∀ i,i<fs.length→(∃ k,Mp w (L.nb i) k (iV (bI fs i)))∧¬ L.S fs.length (L.nb i)
 its:∀ i,i<fs.length→∃ lo hi,rW w lo hi (L.iv i) (bI fs i)∧hi≤w.heap.size∧∀ q,lo≤q→q<hi→¬ L.S fs.length q
 bd:∀ i it,it∈bI fs i→X.PX 268435456 it
 il:∀ i,(bI fs i).length≤268435456
 wl:L.tb<w.heap.size
 gl:∀ i,i<fs.length→L.gb i<w.heap.size∧L.gb i≠L.tb∧∀ j,j<fs.length→L.gb i=L.gb j→i=j
def uv(u:X.U):List Value:=[ak u.f,ak u.i,ak u.s,ak u.tf,ak u.tt,ak u.e]
def yj(us:List X.U):List Value:=us.flatMap uv
theorem LK(a b:List X.U):yj (a++b)=yj a++yj b:=pK
theorem LM(u:X.U):yj [u]=uv u:=by show uv u++[]=_;rw[aL]
abbrev Mem:=Nat→Nat→Nat × An
structure Run(w0:aG)(L:Lay)(fs:List Fl)(M:Mem)(us:List X.U)(w:aG):Prop where
 st:St w0 L fs
 kp:Kp (L.S fs.length) w0 w
 tl:∃ nv,w.heap[L.tb]?=some (.cells #[aH L.wb,ak L.tf,nv] 109 (0,0))∧w.ownsRow w0.heap.size 72 6 nv us.length (yj us)
 fd:∀ i,i<fs.length→∃ arr,w.heap[L.gb i]?=some (.cells arr 222 (0,0))∧arr.size=(bI fs i).length*4∧∀ k,k<(bI fs i).length →
  arr[k*4]?=some (ak (M i k).1)∧arr[k*4+1]?=some (ak (M i k).2.1)∧arr[k*4+2]?=some (ak (M i k).2.2.1)∧arr[k*4+3]?=some (ak (M i k).2.2.2)
 lim:us.length≤1073741824
def aQ4(w:aG)(q:Nat):Prop:=∃ cs d,w.heap[q]?=some (.cells cs 72 d)
def Lay.Sx(L:Lay)(n B:Nat)(w:aG)(q:Nat):Prop:=L.S n q∨(B≤q∧aQ4 w q)
def Kx(L:Lay)(n B:Nat)(w w':aG):Prop:=Kp (L.Sx n B w) w w'
theorem Kx.refl(L:Lay)(n B:Nat)(w:aG):Kx L n B w w:=Kp.refl _ w
theorem Kx.trans{L:Lay}{n B:Nat}{a b c:aG}(h1:Kx L n B a b)(h2:Kx L n B b c):Kx L n B a c:=by
 refine Kp.trans h1 h2 (fun i hi hs=>?_);rcases hs with hs|⟨hB,cs,d,hu⟩
 ·exact .inl hs
 ·rcases Classical.em (L.Sx n B a i) with g|g
  ·exact g
  ·exact .inr ⟨hB,cs,d,by rw[← Kp.block h1 i hi g];exact hu⟩
theorem Kx.aN{L:Lay}{n B:Nat}{w w':aG}(h:Below w.heap.size w w'):Kx L n B w w':=Kp.aN h _
theorem Kx.alloc{L:Lay}{n B:Nat}{a w:aG}(h:Kx L n B a w)(o:Obj):Kx L n B a (w.alloc o):=Kp.alloc h o
theorem Kx.drew{L:Lay}{n B:Nat}{a w:aG}(h:Kx L n B a w):Kx L n B a w.drew:=Kp.drew h
theorem Kx.st{L:Lay}{w0 w:aG}(h:Kx L n w0.heap.size w w')(hk:Kp (L.S n) w0 w):Kp (L.S n) w0 w':=by
 refine Kp.trans hk h (fun i hi hs=>?_);rcases hs with hs|⟨hB,-⟩
 ·exact hs
 ·omega
theorem Kx.made{L:Lay}{B:Nat}{w:aG}(h:Kx L n B w w')(hS:∀ q,L.S n q→q<B){b:Nat}{o:Obj}(hb:w.heap[b]?=some o)(hB:B≤b)(ho:∀ cs d,o≠.cells cs 72 d):w'.heap[b]?=some o :=
 Kp.heap h hb (fun hs=>by
  rcases hs with hs|⟨-,cs,d,hu⟩
  ·have:=hS b hs;omega
  ·rw[hb] at hu;exact ho cs d (bQ hu))
theorem St.lt{w:aG}{L:Lay}{fs:List Fl}(h:St w L fs):∀ q,L.S fs.length q→q<w.heap.size:=by
 intro q hq;rcases hq with rfl|⟨i,hi,rfl⟩
 ·exact h.wl
 ·exact(h.gl i hi).1
variable{w0:aG}{L:Lay}{fs:List Fl}{M:Mem}{us:List X.U}{w:aG}
theorem Run.size(h:Run w0 L fs M us w):w0.heap.size≤w.heap.size:=h.kp.size
theorem Run.below(h:Run w0 L fs M us w)(hb:Below w.heap.size w w'):Run w0 L fs M us w':=by
 have hk:=Kp.aN hb (fun _=>False);refine⟨h.st,h.kp.trans hk (fun _ _=>False.elim),?_,?_,h.lim⟩
 ·obtain⟨nv,h1,h2⟩:=h.tl
  exact⟨nv,hk.heap h1 id,hk.owns h2 (fun _ _=>id)⟩
 ·intro i hi
  obtain⟨arr,h1,h2⟩:=h.fd i hi;exact⟨arr,hk.heap h1 id,h2⟩
theorem Run.alloc(h:Run w0 L fs M us w)(o:Obj):Run w0 L fs M us (w.alloc o):=h.below ((aB _ w).alloc (ax _) o)
theorem Run.mods(h:Run w0 L fs M us w):∃ k,Mp w L.mb k (m_ fs):=by
 obtain⟨k,hm⟩:=h.st.mp;exact⟨k,hm.keep h.kp h.st.ms⟩
theorem Run.named(h:Run w0 L fs M us w)(hi:i<fs.length):∃ k,Mp w (L.nb i) k (iV (bI fs i)):=by
 obtain⟨⟨k,hm⟩,hs⟩:=h.st.nm i hi;exact⟨k,hm.keep h.kp hs⟩
theorem Run.file(h:Run w0 L fs M us w)(hi:i<fs.length):w.heap[L.fb i]?=some (.cells #[L.iv i,.map (some (L.nb i)),.slice (b_ (L.gb i)) (bI fs i).length (bI fs i).length] 159 (0,0)):=by
 obtain⟨hm,hs⟩:=h.st.fi i hi;exact h.kp.heap hm hs
theorem Run.files(h:Run w0 L fs M us w)(hi:i<fs.length):∃ g cap,L.fv=.slice (b_ g) fs.length cap∧fs.length≤cap∧cap≤maxLen∧w.cell? (aC g i)=some (aH (L.fb i)):=by
 obtain⟨ao,cap,h1,h2,h3,h4⟩:=h.st.fl;obtain⟨g,rfl,hs,hc⟩:=h4 i hi;exact⟨g,cap,h1,h2,h3,h.kp.dD hc hs⟩
theorem Run.its(h:Run w0 L fs M us w){i:Nat}(hi:i<fs.length):∃ lo hi,rW w lo hi (L.iv i) (bI fs i)∧hi≤w0.heap.size∧∀ q,lo≤q→q<hi→¬ L.S fs.length q:=by
 obtain⟨lo,hi,h1,h2,h3⟩:=h.st.its i hi;obtain⟨ao,cap,vs,e,c1,c2,c3,c4⟩:=h1.ex;exact⟨lo,hi,⟨ao,cap,vs,e,c1,c2,fun j hj=>by obtain⟨g,x1,x2,x3,x4,c,f,x5⟩:=c3 j hj;exact⟨g,x1,x2,x3,h.kp.dD x4 (h3 g x2 x3),c,f,h.kp.heap x5 (h3 g x2 x3)⟩,fun j e hj=>(c4 j e hj).keep h.kp h3⟩,h2,h3⟩
theorem Run.item(h:Run w0 L fs M us w)(hi:i<fs.length)(hk:(bI fs i)[k]?=some it):∃ g cap v lo hi,L.iv i=.slice (b_ g) (bI fs i).length cap∧(bI fs i).length≤cap∧cap≤maxLen∧w.cell? (aC g k)=some v∧ng w lo hi v it∧hi≤w0.heap.size∧∀ q,lo≤q→q<hi→¬ L.S fs.length q:=by
 obtain⟨lo,hi',h1,h2,h3⟩:=h.its hi;obtain⟨ao,cap,vs,e,c1,c2,c3,c4⟩:=h1.ex;have hkl:k<(bI fs i).length:=by
  rcases cu k (bI fs i).length with g|g
  ·exact g
  ·rw[bf g] at hk;cases hk
 obtain⟨g,rfl,-,-,x4,-⟩:=c3 k hkl;exact⟨g,cap,vs k,lo,hi',e,c1,c2,x4,c4 k it hk,h2,h3⟩
theorem Run.VR(h:Run w0 L fs M us w):w.cell? (aC L.wb 0)=some (.map (some L.mb))∧w.cell? (aC L.wb 1)=some L.fv:=by
 have h1:=h.kp.heap h.st.ws.1 h.st.ws.2;exact⟨aj w _ 0 _ _ _ h1,aj w _ 1 _ _ _ h1⟩
theorem Run.cells(h:Run w0 L fs M us w):∃ nv,w.cell? (aC L.tb 0)=some (aH L.wb)∧w.cell? (aC L.tb 1)=some (ak L.tf)∧w.cell? (aC L.tb 2)=some nv∧w.frozen? (aC L.tb 2)=false∧w.ownsRow w0.heap.size 72 6 nv us.length (yj us):=by
 obtain⟨nv,h1,h2⟩:=h.tl;exact⟨nv,aj w _ 0 _ _ _ h1,aj w _ 1 _ _ _ h1,aj w _ 2 _ _ _ h1,bW w _ 2 _ _ h1,h2⟩
theorem mQ(hk:(bI fs i)[k]?=some it):i<fs.length∧k<(bI fs i).length:=by
 refine⟨Aq hk,?_⟩;rcases cu k (bI fs i).length with g|g
 ·exact g
 ·rw[bf g] at hk;cases hk
theorem Run.PX(h:Run w0 L fs M us w){i k:Nat}{it:It}(hk:(bI fs i)[k]?=some it):X.PX 268435456 it:=h.st.bd i it (dF hk)
end
section
open Tryz
open X
variable{fn:Func}{t:Tmp}{b B:Nat}{w:aG}{v:Value}{sc:List (List Nm)}
theorem Oj(h:fn.results=#[.cell t 220])(tmps:Array Value)(W:aG){x n:Int}(ht:tmps[t]?.getD undef=aH b)(hb:W.heap[b]?=some (.cells #[ak x,ak n] 220 (0,0))) :
  (results fn tmps).run prog W=.ok (.agg #[ak x,ak n]) W:=by
 have m0:=aj W _ 0 _ _ _ hb;have m1:=aj W _ 1 _ _ _ hb;simp[results,h,go_sem,ht,m0,m1]
theorem nG(h:fn.results=#[.cell t 222])(tmps:Array Value)(W:aG){x1 x2 x3 x4:Int}(ht:tmps[t]?.getD undef=aH b)(hb:W.heap[b]?=some (.cells #[ak x1,ak x2,ak x3,ak x4] 222 (0,0))) :
  (results fn tmps).run prog W=.ok (.agg #[ak x1,ak x2,ak x3,ak x4]) W:=by
 have m0:=aj W _ 0 _ _ _ hb;have m1:=aj W _ 1 _ _ _ hb;have m2:=aj W _ 2 _ _ _ hb;have m3:=aj W _ 3 _ _ _ hb;simp[results,h,go_sem,ht,m0,m1,m2,m3]
theorem aQ5{S:Nat→Prop}{W:aG}(hk:Kp S w W)(hb:w.heap.size≤b)(x0 x1 x2 x3:Value):Kp S w ((((W.setCell (aC b 0) x0).setCell (aC b 1) x1).setCell (aC b 2) x2).setCell (aC b 3) x3) :=
 Kp.setCell (p:=⟨b,3,none⟩) (Kp.setCell (p:=⟨b,2,none⟩) (Kp.setCell (p:=⟨b,1,none⟩) (Kp.setCell (p:=⟨b,0,none⟩) hk (fun h=>absurd h (by simpa using hb)) _) (fun h=>absurd h (by simpa using hb)) _) (fun h=>absurd h (by simpa using hb)) _) (fun h=>absurd h (by simpa using hb)) _
theorem tF(w:aG):bB 122 #[] w (cK (.agg #[ak (-1),ak (-1)]) fun w'=>Below w.heap.size w w'):=by
 go_enter func122,ntmps122;go_wp2_with fail
 exact aW (Oj rfl _ _ (b:=w.heap.size) rfl (aI w _)) rfl ⟨rfl,(aB _ w).alloc (ax _) _⟩
theorem uw(er:Nat)(w:aG):bB 123 #[ak er] w (cK (.agg #[ak 2,ak (-1),ak (-1),ak er]) fun w'=>Below w.heap.size w w'):=by
 go_enter func123,ntmps123;go_wp2_with fail
 refine(tF _).aX fun w2 H2=>?_;have HB:=aA <| (Kp.refl _ w).alloc _ |>.trans (Kp.aN H2 (fun _=>False)) (fun _ _=>id);have HH:w2.heap[w.heap.size]?=some (.cells #[ak 0,ak 0,ak 0,ak 0] 222 (0,0)):=(Kp.aN H2 (fun _=>False)).heap (aI w _) id;clear H2;have c0:=aj w2 _ 0 _ _ _ HH;have c1:=aj w2 _ 1 _ _ _ HH;have c2:=aj w2 _ 2 _ _ _ HH;have c3:=aj w2 _ 3 _ _ _ HH;have z0:=bW w2 _ 0 _ _ HH;have z1:=bW w2 _ 1 _ _ HH;have z2:=bW w2 _ 2 _ _ HH;have z3:=bW w2 _ 3 _ _ HH;have HHH:=aA HH;clear HH;go_wp2_with fail
 exact aW (nG rfl _ _ (b:=w.heap.size) rfl (jL HHH.o)) rfl ⟨rfl,(aQ5 HB.o (ax _) _ _ _ _).below (ax _) (fun _=>False.elim)⟩
inductive jN(w:aG)(B:Nat):Value→List (List Nm)→Prop
 | nil:jN w B (.pointer none) []
 | cons (b m k:Nat) (ns:List Nm) (v:Value) (sc:List (List Nm)) (hB:B≤b) (hm:B≤m) (h:w.heap[b]?=some (.cells #[.map (some m),v] 299 (0,0))) (hp:Mp w m k (X.first ns)) (ho:jN w B v sc):jN w B (aH b) (ns::sc)
theorem jN.keep{L:Lay}{n B:Nat}{w w':aG}(hk:Kx L n B w w')(hS:∀ q,L.S n q→q<B){v:Value}{sc:List (List Nm)}(h:jN w B v sc):jN w' B v sc:=by
 induction h with
 | nil=>exact .nil
 | cons b m k ns v sc hB hm h hp ho ih =>
  refine .cons b m k ns v sc hB hm (hk.made hS h hB (fun cs d e=>by cases e)) ?_ ih;obtain⟨es,clock,hb⟩:=hp.obj;exact hp.keep hk (fun hs=>by
   rcases hs with hs|⟨-,cs,d,hu⟩
   ·have:=hS m hs;omega
   ·rw[hb] at hu;cases hu)
theorem jN.UK{w':aG}(hk:Below w.heap.size w w')(h:jN w B v sc):jN w' B v sc:=by
 induction h with
 | nil=>exact .nil
 | cons b m k ns v sc hB hm h hp ho ih=>exact .cons b m k ns v sc hB hm ((Kp.aN hk (fun _=>False)).heap h id) (hp.below hk) ih
theorem jN.len{zi:List (List Nm)}(h:jN w B v sc)(h':jN w B v zi):sc.length=zi.length:=by
 induction h generalizing zi with
 | nil=>cases h' with|nil=>rfl
 | cons b m k ns v sc hB hm h hp ho ih =>
  cases h' with
  | cons _ m' k' ns' v' zi _ _ h2 hp2 ho2 =>
   rw[h] at h2;cases h2
   rw[aY,aY,ih ho2]
noncomputable def Rs(w:aG)(B:Nat)(v:Value):Nat:=open Classical in if h:∃ sc,jN w B v sc then(Classical.choose h).length else 0
theorem GU(h:jN w B v sc):Rs w B v=sc.length:=by
 unfold Rs;rw[dif_pos ⟨sc,h⟩];exact jN.len (Classical.choose_spec (⟨sc,h⟩:∃ sc,jN w B v sc)) h
theorem Rt(B:Nat)(bv:Value)(sc:List (List Nm))(x:ah)(w:aG)(h:jN w B bv sc)(hx:x.length≤maxLen) :
  bB 165 #[bv,.string (ba x)] w (cK (.tuple #[ak (((sight sc x).getD 0:Nat):Int),.bool (sight sc x).isSome]) fun w'=>w'=w):=by
 have HB:=aA h;clear h;generalize hA:sight sc x=A;have HQ:=aA hA;clear hA;go_enter func165,ntmps165;go_wp2_with fail
 go_loopw [0] (fun av wr=>∃ zi,wr=w∧Hid (jN w B av zi)∧Hid (sight zi x=A)) (fun av _=>Rs w B av)
 case atStart=>exact⟨sc,rfl,HB,HQ⟩
 case round =>
  obtain⟨zi,rfl,HI,HS⟩:=hrel;clear HB HQ;have hlen:=GU HI.o;have hcs:(u0=.pointer none∧zi=[])∨∃ b m k ns v sc2,u0=aH b∧zi=ns::sc2∧wr.heap[b]?=some (.cells #[.map (some m),v] 299 (0,0))∧Mp wr m k (X.first ns)∧jN wr B v sc2:=by
   cases HI.o with
   | nil=>exact .inl ⟨rfl,rfl⟩
   | cons b m k ns v sc hB hm h hp ho=>exact .inr ⟨b,m,k,ns,v,sc,rfl,rfl,h,hp,ho⟩
  rcases hcs with ⟨rfl,rfl⟩|⟨b,m,k,ns,v,sc2,rfl,rfl,hb,hp,ho⟩
  ·go_wp2_with fail
   go_ret2;refine⟨?_,rfl⟩;rw[← HS.o];rfl
  ·have c0:=aj wr _ 0 _ _ _ hb
   have c1:=aj wr _ 1 _ _ _ hb;have hrun:=hp.oV hx;have hl2:=GU ho;have HO:=aA ho;cases hf:X.first ns x with
   | some i =>
    rw[hf] at hrun;have hrun':(Instr.lookup 73 (.map (some m)) (.string (ba x)) true).run prog wr=.ok (.tuple #[ak (i:Nat),.bool true]) wr:=hrun;have HS2:Hid (A=some i):=by rw[← HS.o,sight,hf];exact aA rfl
    clear hrun hp ho HI HS hb hf hlen hl2 HO;go_wp2_with fail
    go_ret2;refine⟨?_,rfl⟩;rw[HS2.o];rfl
   | none =>
    rw[hf] at hrun;have hrun':(Instr.lookup 73 (.map (some m)) (.string (ba x)) true).run prog wr=.ok (.tuple #[ak 0,.bool false]) wr:=hrun;have HS2:Hid (sight sc2 x=A):=by rw[← HS.o];rw[sight,hf];exact aA rfl
    clear hrun hp ho HI HS hb hf;go_wp2_with fail
    exact⟨⟨sc2,trivial,HO,HS2⟩,by rw[hlen,hl2];simp⟩
end
section
open Tryz
open X
theorem aQ7:(prog.info? 72).map (fun i=>(i.zero,i.size,i.bytes))=some (some (.agg #[ak 0,ak 0,ak 0,ak 0,ak 0,ak 0]),6,48):=bC
variable{w0:aG}{L:Lay}{fs:List Fl}{M:Mem}{us:List X.U}{w:aG}
theorem Run.told(h:Run w0 L fs M us w){w3 w5:aG}(hb:Below w.heap.size w w3){nv:Value}(hnv:w.cell? (aC L.tb 2)=some nv)(u:X.U){g cap:Nat}(hown:w5.ownsRow w0.heap.size 72 6 (.slice (b_ g) (us.length+1) cap) (us.length+1) (yj us++uv u))(hgrow:w3.grownBy w5 nv.ownBlock)(hlim:us.length+1≤1073741824) :
  Run w0 L fs M (us++[u]) (w5.setCell (aC L.tb 2) (.slice (b_ g) (us.length+1) cap))∧Kx L fs.length w0.heap.size w (w5.setCell (aC L.tb 2) (.slice (b_ g) (us.length+1) cap)):=by
 have h3:=h.below hb;obtain⟨nv',hw,hown0⟩:=h.tl;have e0:=aj w _ 2 _ _ _ hw;rw[hnv] at e0;obtain rfl:nv=nv':=bQ e0;have hsz:=h.size;have hS:=h.st.lt;have hnb:∀ q,nv.ownBlock=some q→w0.heap.size≤q∧aQ4 w q:=by
  intro q hq;refine⟨(dG hown0 q hq).1,?_⟩;rcases hown0.2 with ⟨rfl,-⟩|⟨g',cap',cur,rfl,hge,hgg,-⟩
  ·cases hq
  ·cases hq
   exact⟨_,_,hgg⟩
 have Cy:=(Kp.refl _ w3).grown hgrow (fun q e _=>e);have cN2:=aJ h.st.wl h3.size;have JR:w5.heap[L.tb]?=some (.cells #[aH L.wb,ak L.tf,nv] 109 (0,0)):=by
  refine Cy.heap ((Kp.aN hb (fun _=>False)).heap hw id) (fun e=>?_);have:=(hnb _ e).1;have:=h.st.wl;omega
 have ze:Kp (fun q=>q=L.tb) w5 (w5.setCell (aC L.tb 2) (.slice (b_ g) (us.length+1) cap)):=Kp.setCell (S:=fun q=>q=L.tb) (p:=⟨L.tb,2,none⟩) (Kp.refl _ w5) (fun _=>rfl) _;have kx:Kx L fs.length w0.heap.size w (w5.setCell (aC L.tb 2) (.slice (b_ g) (us.length+1) cap)):=by
  refine Kp.trans (Kp.trans (Kp.aN hb _) Cy (fun i hi e=>.inr (hnb i e))) ze (fun i hi e=>.inl (.inl e))
 refine⟨⟨h.st,kx.st h.kp,⟨_,(dV JR 2 _),?_⟩,fun i hi=>?_,?_⟩,kx⟩
 ·have e:(us++[u]).length=us.length+1:=by simp
  rw[e,LK,LM];refine ze.owns hown (fun q hq e=>?_);have:=(dG hown q hq).1;have:=h.st.wl;omega
 ·obtain⟨arr,x1,x2,x3⟩:=h.fd i hi
  have hgi:=h.st.gl i hi;refine⟨arr,ze.heap (Cy.heap ((Kp.aN hb (fun _=>False)).heap x1 id) (fun e=>?_)) hgi.2.1,x2,x3⟩;have:=(hnb _ e).1;omega
 ·rw[ay];simpa using hlim
theorem oJ(n:Nm)(s:Nat)(tf tt:Int)(er:Nat)(h:Run w0 L fs M us w)(hlim:us.length+(X.f_ L.tf n s (tf,tt,er)).length≤1073741824) :
  bB 104 #[aH L.tb,.agg #[.string (ba n.1),ak n.2],ak s,.agg #[ak tf,ak tt],ak er] w (cK (.tuple #[]) fun w'=>Hid (Run w0 L fs M (us++X.f_ L.tf n s (tf,tt,er)) w'∧Kx L fs.length w0.heap.size w w')):=by
 have HR:=aA h;obtain⟨i0,hi0,hz0,hz1,hz2⟩:=dM aQ7;have HT:Hid (X.f_ L.tf n s (tf,tt,er)=if n.1=[] then [] else [⟨L.tf,n.2,s,tf,tt,er⟩]):=aA rfl;generalize X.f_ L.tf n s (tf,tt,er)=tl at *;clear h;go_enter func104,ntmps104;go_wp2_with fail
 have kA:Below w.heap.size w ((w.alloc (.cells #[.string (ba n.1),ak n.2] 163)).alloc (.cells #[ak tf,ak tt] 220)):=((aB _ w).alloc (ax _) _).alloc aT _;refine(rX n.1 n.2 _).aX fun w2 B2=>?_;have kB:=kA.trans (B2.mono aQ);have hN:w2.heap[w.heap.size]?=some (.cells #[.string (ba n.1),ak n.2] 163 (0,0)):=(Kp.aN B2 (fun _=>False)).heap ((eG _ _ aT).trans (aI w _)) id;have hP:w2.heap[w.heap.size+1]?=some (.cells #[ak tf,ak tt] 220 (0,0)):=(Kp.aN B2 (fun _=>False)).heap (by have:=aI (w.alloc (.cells #[.string (ba n.1),ak n.2] 163)) (.cells #[ak tf,ak tt] 220);simpa using this) id;have HB:=aA kB;clear kA kB B2;by_cases hn:n.1=[]
 ·have e1:n.1.isEmpty=true:=by rw[hn];rfl
  rw[aU hn] at HT;have HF:Hid (Run w0 L fs M (us++tl) w2∧Kx L fs.length w0.heap.size w w2):=by rw[HT.o,aL];exact⟨(HR.o).below HB.o,Kx.aN HB.o⟩
  clear HT hN hP hlim;rw[e1];go_wp2_with fail
  go_end0;exact⟨rfl,HF⟩
 ·have e1:n.1.isEmpty=false:=by cases hx:n.1 with|nil=>exact absurd hx hn|cons a l=>rfl
  rw[aM hn] at HT;have n1:=aj w2 _ 1 _ _ _ hN;have p0:=aj w2 _ 0 _ _ _ hP;have p1:=aj w2 _ 1 _ _ _ hP;have hPl:=bN hP;have R2:=(HR.o).below HB.o;obtain⟨nv,-,t1,b2,f2,hown⟩:=R2.cells;have hwl:=aJ R2.st.wl R2.size;have hwb:=R2.st.wl;have hw0:=(HR.o).size;have hnb:∀ q,nv.ownBlock=some q→w0.heap.size≤q∧q≠w.heap.size∧q≠w.heap.size+1:=by
   intro q hq;obtain⟨hge,c,f,hc⟩:=jW hown hq;refine⟨hge,fun e=>?_,fun e=>?_⟩
   ·rw[e,hN] at hc;cases hc
   ·rw[e,hP] at hc;cases hc
  have HNB:=aA hnb;have HO:=aA hown;have HR2:=aA R2;have htl:tl.length=1:=by rw[HT.o];rfl
  rw[htl] at hlim;have FX:us.length≤1073741824:=au
  have JV:(us.length+1)*48≤140737488355328:=au
  clear htl hnb hown R2 hN hP;rw[e1];have HZ:=aA <| hPl;have HZ0:=aA hw0;clear hw0;go_wp2_with fail
  refine dB (S:=fun w'=>w'.cell? (aC L.tb 1)=some (ak L.tf)∧w'.cell? (aC w.heap.size 1)=some (ak n.2)∧w'.cell? (aC (w.heap.size+1) 0)=some (ak tf)∧w'.cell? (aC (w.heap.size+1) 1)=some (ak tt)∧w'.cell? (aC L.tb 2)=some nv) (z:=22) bC ?_;have hS:w2.drew.cell? (aC L.tb 1)=some (ak L.tf)∧w2.drew.cell? (aC w.heap.size 1)=some (ak n.2)∧w2.drew.cell? (aC (w.heap.size+1) 0)=some (ak tf)∧w2.drew.cell? (aC (w.heap.size+1) 1)=some (ak tt)∧w2.drew.cell? (aC L.tb 2)=some nv:=⟨t1,n1,p0,p1,b2⟩;iterate 18(refine ny hS ?_;simp only[Act.put,aD,aO,aP])
  refine fw 18 fun K hK=>?_;go_simp;refine hK.o _ _ (fun _=>by first|go_keep|(dsimp only;go_keep)) (fun hS2=>?_);clear hS hK K;have hS:=hS2 aS;clear hS2;refine fw 19 fun K hK=>?_;refine step_append_lies _ (by rfl) _ _ _ (by rfl) w0.heap.size 72 i0 _ 6 48 underlying23 hi0 hz0 hz1 hz2 rfl au nv us.length _ (by rfl) (((HO.o:w2.ownsRow _ _ _ _ _ _).alloc _).drew)
   ⟨w2.heap.size,0,none⟩ 1 1 (uv ⟨L.tf,n.2,s,tf,tt,er⟩) (by rfl) (by rfl) (World.news_of_block (cs:=#[ak L.tf,ak n.2,ak s,ak tf,ak tt,ak er]) (t:=72) (fr:=(0,0)) (aI w2 _)) (by simp[Value.oneCell',uv])
   au (by unfold maxLen;omega) JV (by have:=HZ0.o;have:=HZ.o;simp;omega) (w2.heap.size+1) aT ?_
  intro g cap5 w5 hown5 aV gI jm;have nb:=HNB.o;have hz:=HZ.o;have hwn:some L.tb≠nv.ownBlock:=fun e=>by have:=(nb _ e.symm).1;omega
  have y1:=(aV.cell_far ⟨L.tb,1,none⟩ aQ hwn).trans hS.1;have y2:=(aV.cell_far ⟨w.heap.size,1,none⟩ aQ (fun e=>(nb _ e.symm).2.1 rfl)).trans hS.2.1;have y3:=(aV.cell_far ⟨w.heap.size+1,0,none⟩ aQ (fun e=>(nb _ e.symm).2.2 rfl)).trans hS.2.2.1;have y4:=(aV.cell_far ⟨w.heap.size+1,1,none⟩ aQ (fun e=>(nb _ e.symm).2.2 rfl)).trans hS.2.2.2.1;have y5:=(aV.cell_far ⟨L.tb,2,none⟩ aQ hwn).trans hS.2.2.2.2;have x2:=(aV.frozen_far ⟨L.tb,2,none⟩ aQ hwn).trans ((bD _ _ ⟨L.tb,2,none⟩ aQ).trans f2);show K (Act.put _ (some 32) _) w5;refine hK.o _ _ (fun _=>⟨y1,y2,y3,y4,y5⟩) (fun hS2=>?_);clear hS hK K;have hS:=hS2 aS;clear hS2;simp only[Act.put,aD,aO,aP];refine fw 20 fun K hK=>?_;go_simp;refine hK.o _ _ (fun _=>hS) (fun _=>?_);clear hK K;refine fw 21 fun K hK=>?_;go_simp;refine hK.o _ _ (fun _=>hS) (fun _=>?_);clear hK K;refine fw 22 fun K hK=>?_;go_simp;refine hK.o _ _ (fun h=>absurd rfl h) (fun _=>iF ?_);clear hK K;have HF:Hid (Run w0 L fs M (us++tl) (w5.setCell (aC L.tb 2) (.slice (b_ g) (us.length+1) cap5))∧Kx L fs.length w0.heap.size w (w5.setCell (aC L.tb 2) (.slice (b_ g) (us.length+1) cap5))):=by
   have hb3:Below w2.heap.size w2 (w2.alloc (.cells #[ak L.tf,ak n.2,ak s,ak tf,ak tt,ak er] 72)).drew:=((aB _ w2).alloc (ax _) _).drew;have:=Run.told HR2.o hb3 b2 ⟨L.tf,n.2,s,tf,tt,er⟩ hown5 aV au;rw[HT.o];exact⟨this.1,(Kx.aN HB.o).trans this.2⟩
  clear y1 y2 y3 y4 y5 x2 hS hown5 aV gI nb;go_wp2_with fail
  go_end0;exact⟨rfl,HF⟩
end
section
open X
variable{i k:Nat}
theorem Rv(arr:Array Value)(k n:Nat)(hn:arr.size=n*4)(hk:k<n)(x0 x1 x2 x3:Value)(k':Nat)(hk':k'<n) :
  let A:=(((arr.setIfInBounds (k*4) x0).setIfInBounds (k*4+1) x1).setIfInBounds (k*4+2) x2).setIfInBounds (k*4+3) x3
  A.size=n*4∧A[k'*4]?=(if k'=k then some x0 else arr[k'*4]?)∧A[k'*4+1]?=(if k'=k then some x1 else arr[k'*4+1]?)∧A[k'*4+2]?=(if k'=k then some x2 else arr[k'*4+2]?)∧A[k'*4+3]?=(if k'=k then some x3 else arr[k'*4+3]?):=by
 intro A;refine⟨by simp[A,hn],?_,?_,?_,?_⟩
 all_goals
  simp only[A,nO,Array.size_setIfInBounds,hn];by_cases e:k'=k
  ·subst e
   simp;omega
  ·rw[aM e]
   repeat(rw[aM au])
theorem Rw(arr:Array Value)(k n:Nat)(hn:arr.size=n*4)(hk:k<n)(x0:Value)(k':Nat) :
  let A:=arr.setIfInBounds (k*4) x0
  A.size=n*4∧A[k'*4]?=(if k'=k then some x0 else arr[k'*4]?)∧A[k'*4+1]?=arr[k'*4+1]?∧A[k'*4+2]?=arr[k'*4+2]?∧A[k'*4+3]?=arr[k'*4+3]?:=by
 intro A;refine⟨by simp[A,hn],?_,?_,?_,?_⟩
 ·simp only[A,nO,hn]
  by_cases e:k'=k
  ·subst e
   simp;omega
  ·rw[aM e,aM au]
 all_goals
  simp only[A,nO,hn];rw[aM au]
def Aw(M:Mem)(i k:Nat)(v:Nat × An):Mem:=fun i' k'=>if i'=i∧k'=k then v else M i' k'
theorem mX(M:Mem)(i k:Nat)(v:Nat × An):Aw M i k v i k=v:=aU ⟨rfl,rfl⟩
theorem jX(M:Mem)(i k:Nat)(v:Nat × An){i' k':Nat}(h:¬(i'=i∧k'=k)):Aw M i k v i' k'=M i' k':=aM h
def qF(fs:List Fl)(M:Mem):Prop:=∀ i k,(M i k).1≤2∧((M i k).1=2→EvA fs i k (M i k).2)
def cnt(fs:List Fl)(M:Mem):Nat:=((Ry fs).filter (fun p=>(M p.1 p.2).1==0)).length
theorem yB{α:Type}(p q:α→Bool)(hq:∀ x,q x=true→p x=true){a:α}(ha:p a=true)(hb:q a=false):∀ l:List α,a∈l→(l.filter q).length<(l.filter p).length
 | [],h=>by cases h
 | x::l,h=>by
  have hle:∀ l:List α,(l.filter q).length≤(l.filter p).length:=fun l=>by
   induction l with
   | nil=>exact ax _
   | cons y l ih =>
    rw[o8,o8];cases hy:q y with
    | true=>rw[hq y hy];simpa using ih
    | false=>cases p y<;>simp<;>omega
  rw[o8,o8];rcases fJ.1 h with rfl|g
  ·rw[ha,hb]
   have:=hle l;simp;omega
  ·have:=yB p q hq ha hb l g
   cases hy:q x with
   | true=>rw[hq x hy];simpa using this
   | false=>cases p x<;>simp<;>omega
theorem GZ{fs:List Fl}{M:Mem}(hm:(i,k)∈Ry fs)(h0:(M i k).1=0){v:Nat × An}(hv:v.1≠0):cnt fs (Aw M i k v)<cnt fs M:=by
 refine yB _ _ (fun x hx=>?_) (a:=(i,k)) (by simpa using h0) (by rw[mX];simpa using hv) _ hm;by_cases e:x.1=i∧x.2=k
 ·obtain⟨e1,e2⟩:=e
  rw[e1,e2,mX] at hx;simp at hx;exact absurd hx hv
 ·rw[jX M i k v e] at hx;exact hx
variable{w0:aG}{L:Lay}{fs:List Fl}{M:Mem}{us:List X.U}{w:aG}
theorem Run.turn(h:Run w0 L fs M us w)(hi:i<fs.length){w':aG}{arr:Array Value}(hk:Kp (fun q=>q=L.gb i) w w')(hb:w'.heap[L.gb i]?=some (.cells arr 222 (0,0))){M':Mem}(hs:arr.size=(bI fs i).length*4)
  (hM:∀ k,k<(bI fs i).length→arr[k*4]?=some (ak (M' i k).1)∧arr[k*4+1]?=some (ak (M' i k).2.1)∧arr[k*4+2]?=some (ak (M' i k).2.2.1)∧arr[k*4+3]?=some (ak (M' i k).2.2.2))
  (ho:∀ j k,j≠i→M' j k=M j k):Run w0 L fs M' us w'∧Kx L fs.length w0.heap.size w w':=by
 have kx:Kx L fs.length w0.heap.size w w':=hk.mono (fun q _ e=>.inl (.inr ⟨i,hi,e⟩));refine⟨⟨h.st,kx.st h.kp,?_,fun j hj=>?_,h.lim⟩,kx⟩
 ·obtain⟨nv,h1,h2⟩:=h.tl
  have hg:=h.st.gl i hi;refine⟨nv,hk.heap h1 (fun e=>hg.2.1 e.symm),hk.owns h2 (fun q hq e=>?_)⟩;have:=(dG h2 q hq).1;omega
 ·by_cases e:j=i
  ·subst e
   exact⟨arr,hb,hs,hM⟩
  ·obtain⟨a2,x1,x2,x3⟩:=h.fd j hj
   refine⟨a2,hk.heap x1 (fun e'=>e ((h.st.gl j hj).2.2 i hi e')),x2,fun k hk=>?_⟩;rw[ho j k e];exact x3 k hk
theorem Run.ask(h:Run w0 L fs M us w)(hi:i<fs.length)(hk:k<(bI fs i).length):Run w0 L fs (Aw M i k (1,(M i k).2)) us (w.setCell (aC (L.gb i) (k*4)) (ak 1))∧Kx L fs.length w0.heap.size w (w.setCell (aC (L.gb i) (k*4)) (ak 1)):=by
 obtain⟨arr,x1,x2,x3⟩:=h.fd i hi;refine h.turn hi (arr:=arr.setIfInBounds (k*4) (ak 1)) (Kp.setCell (S:=fun q=>q=L.gb i) (p:=⟨L.gb i,k*4,none⟩) (Kp.refl _ w) (fun _=>rfl) _) (dV x1 _ _) (by simp[x2]) (fun k' hk'=>?_) (fun j k' hj=>jX M i k _ (fun e=>hj e.1));obtain⟨-,y0,y1,y2,y3⟩:=Rw arr k _ x2 hk (ak 1) k';obtain⟨z0,z1,z2,z3⟩:=x3 k' hk';rw[y0,y1,y2,y3];by_cases e:k'=k
 ·subst e
  rw[mX,aU rfl];exact⟨rfl,z1,z2,z3⟩
 ·rw[jX M i k _ (fun e'=>e e'.2),aM e]
  exact⟨z0,z1,z2,z3⟩
theorem Run.know(h:Run w0 L fs M us w)(hi:i<fs.length)(hk:k<(bI fs i).length)(tf tt:Int)(er:Nat) :
  Run w0 L fs (Aw M i k (2,(tf,tt,er))) us ((((w.setCell (aC (L.gb i) (k*4)) (ak 2)).setCell (aC (L.gb i) (k*4+1)) (ak tf)).setCell (aC (L.gb i) (k*4+2)) (ak tt)).setCell (aC (L.gb i) (k*4+3)) (ak er)) ∧
  Kx L fs.length w0.heap.size w ((((w.setCell (aC (L.gb i) (k*4)) (ak 2)).setCell (aC (L.gb i) (k*4+1)) (ak tf)).setCell (aC (L.gb i) (k*4+2)) (ak tt)).setCell (aC (L.gb i) (k*4+3)) (ak er)):=by
 obtain⟨arr,x1,x2,x3⟩:=h.fd i hi;have hkp:∀(o:Nat) (v:Value) (W:aG),Kp (fun q=>q=L.gb i) w W→Kp (fun q=>q=L.gb i) w (W.setCell (aC (L.gb i) o) v):=fun o v W hW=>Kp.setCell (S:=fun q=>q=L.gb i) (p:=⟨L.gb i,o,none⟩) hW (fun _=>rfl) v
 refine h.turn hi (hkp _ _ _ (hkp _ _ _ (hkp _ _ _ (hkp _ _ _ (Kp.refl _ w))))) (dV (dV (dV (dV x1 _ _) _ _) _ _) _ _) (by simp[x2]) (fun k' hk'=>?_) (fun j k' hj=>jX M i k _ (fun e=>hj e.1));obtain⟨-,y0,y1,y2,y3⟩:=Rv arr k _ x2 hk (ak 2) (ak tf) (ak tt) (ak er) k' hk';obtain⟨z0,z1,z2,z3⟩:=x3 k' hk';rw[y0,y1,y2,y3];by_cases e:k'=k
 ·subst e
  rw[mX,aU rfl,aU rfl,aU rfl,aU rfl];exact⟨rfl,rfl,rfl,rfl⟩
 ·rw[jX M i k _ (fun e'=>e e'.2),aM e,aM e,aM e,aM e]
  exact⟨z0,z1,z2,z3⟩
theorem Run.ans(h:Run w0 L fs M us w)(hi:i<fs.length)(hk:k<(bI fs i).length) :
  (w.cell? (aC (L.gb i) (k*4))=some (ak (M i k).1)∧w.cell? (aC (L.gb i) (k*4+1))=some (ak (M i k).2.1)∧w.cell? (aC (L.gb i) (k*4+2))=some (ak (M i k).2.2.1)∧w.cell? (aC (L.gb i) (k*4+3))=some (ak (M i k).2.2.2)) ∧
  ∀ o,w.frozen? (aC (L.gb i) o)=false:=by
 obtain⟨arr,x1,x2,x3⟩:=h.fd i hi;obtain⟨z0,z1,z2,z3⟩:=x3 k hk;have hc:∀ o,w.cell? (aC (L.gb i) o)=arr[o]?:=fun o=>aj w _ o _ _ _ x1
 exact⟨⟨(hc _).trans z0,(hc _).trans z1,(hc _).trans z2,(hc _).trans z3⟩,fun o=>bW w _ o _ _ x1⟩
theorem St.item{w:aG}(h:St w L fs){it:It}(hi:i<fs.length)(hk:(bI fs i)[k]?=some it):∃ g cap v lo hi,L.iv i=.slice (b_ g) (bI fs i).length cap∧(bI fs i).length≤cap∧cap≤maxLen∧w.cell? (aC g k)=some v∧¬ L.S fs.length g∧ng w lo hi v it∧hi≤w.heap.size∧∀ q,lo≤q→q<hi→¬ L.S fs.length q:=by
 obtain⟨lo,hi',h1,h2,h3⟩:=h.its i hi;obtain⟨ao,cap,vs,e,c1,c2,c3,c4⟩:=h1.ex;obtain⟨g,rfl,x2,x3,x4,-⟩:=c3 k (mQ hk).2;exact⟨g,cap,vs k,lo,hi',e,c1,c2,x4,h3 g x2 x3,c4 k it hk,h2,h3⟩
end
end Go.Proofs.YtoohcklcppnafaaGreatDoor
