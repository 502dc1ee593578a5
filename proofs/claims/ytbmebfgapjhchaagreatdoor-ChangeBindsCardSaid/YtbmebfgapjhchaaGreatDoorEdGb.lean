/- What spans mean,gap by gap: the document's arrays. -/
import Derived.Test.YtbmebfgapjhchaaGreatDoorEdFb
import Derived.Laws.MakeOwn
namespace Go.Proofs.YtbmebfgapjhchaaGreatDoor.Ed
open Go.RowKit
open EM
theorem info4:(Tryz.prog.info? 4).map (fun i=>(i.zero,i.size,i.bytes))=some (some (.bool false),1,1):=by kernel_rfl
theorem info9:(Tryz.prog.info? 9).map (fun i=>(i.zero,i.size,i.bytes))=some (some (.string .empty),1,16):=by kernel_rfl
theorem mk_bools (n:Nat) (hn:n≤1048577):∃ A:Array Value,A.size=n∧(∀ g,g<n→A[g]?=some (.bool false))∧∀ W:World,(Instr.makeSlice 79 (.int .i64 n) (.int .i64 n)).run Tryz.prog W=.ok (.slice (some ⟨W.heap.size,0,none⟩) n n) (W.alloc (.cells A 4)):=by
 obtain ⟨i,hi,z0,z1,z2⟩:=info_parts info4
 refine ⟨madeCells (Value.bool false).cells (n*i.size),by rw [size_madeCells,z1];omega,fun g hg=>?_,fun W=>?_⟩
 ·rw [z1];simp [madeCells,Value.cells,hg,Nat.mod_one]
 ·have:=run_make (P:=Tryz.prog) W 79 4 i _ Tryz.underlying79 hi z0 .i64 .i64 n n (by omega) (Int.le_refl _) (by rw [z2];omega) (by omega)
  simpa using this
theorem mk_strs (n:Nat) (hn:n≤1048576):∃ A:Array Value,A.size=n+1∧(∀ g,g≤n→A[g]?=some (.string (ba [])))∧∀ W:World,(Instr.makeSlice 80 (.int .i64 ((n:Int)+1)) (.int .i64 ((n:Int)+1))).run Tryz.prog W=.ok (.slice (some ⟨W.heap.size,0,none⟩) (n+1) (n+1)) (W.alloc (.cells A 9)):=by
 obtain ⟨i,hi,z0,z1,z2⟩:=info_parts info9
 refine ⟨madeCells (Value.string .empty).cells ((n+1)*i.size),by rw [size_madeCells,z1];omega,fun g hg=>?_,fun W=>?_⟩
 ·rw [z1];simp [madeCells,Value.cells,show g<n+1 by omega,Nat.mod_one];rfl
 ·have:=run_make (P:=Tryz.prog) W 80 9 i _ Tryz.underlying80 hi z0 .i64 .i64 ((n:Int)+1) ((n:Int)+1) (by omega) (Int.le_refl _) (by rw [z2];omega) (by omega)
  rw [show ((n:Int)+1).toNat=n+1 by omega] at this
  exact this
def raw (c:Sp):Rw:=⟨c.f,c.t,ba c.s⟩
def tot (L:List Sp):Nat:=(L.map fun c=>c.s.length).sum
theorem inG_snoc (L:List Sp) (c:Sp) (g:Nat):inG (L++[c]) g=inG L g++(if c.f=g then c.s else []):=by simp [inG]
theorem outG_snoc (L:List Sp) (c:Sp) (g:Nat):outG (L++[c]) g=(outG L g||(decide (c.f≤g)&&decide (g<c.t))):=by simp [outG]
theorem inG_tot (L:List Sp) (g:Nat):(inG L g).length≤tot L:=by
 induction L with
 | nil=>simp [inG]
 | cons c L ih =>
  simp only [inG,tot,List.flatMap_cons,List.length_append,List.map_cons,List.sum_cons] at ih ⊢
  by_cases h:c.f=g
  ·rw [if_pos h];omega
  ·rw [if_neg h,List.length_nil];omega
theorem tot_take (L:List Sp) (k:Nat):tot (L.take k)≤tot L:=by
 have:tot L=tot (L.take k)+tot (L.drop k):=by
  unfold tot
  rw [← List.sum_append,← List.map_append,List.take_append_drop]
 omega
theorem tot_mem (L:List Sp) (k:Nat) (c:Sp) (h:L[k]?=some c):c.s.length≤tot L:=by
 induction L generalizing k with
 | nil=>simp at h
 | cons a L ih =>
  cases k with
  | zero=>obtain rfl:a=c:=(by simpa using h);simp [tot]
  | succ k=>have:=ih k (by simpa using h);simp [tot] at this ⊢;omega
structure ME (B:Nat) (W:World) (be g1 g2 n:Nat) (I:Nat→By) (O:Nat→Bool):Prop where
 l0:be<W.heap.size
 l1:g1<W.heap.size
 l2:g2<W.heap.size
 ge:B≤be∧B≤g1∧B≤g2
 n1:be≠g1
 n2:be≠g2
 n3:g1≠g2
 c0:W.cell? ⟨be,0,none⟩=some (.int .i64 n)
 c1:W.cell? ⟨be,1,none⟩=some (.slice (some ⟨g1,0,none⟩) n n)
 c2:W.cell? ⟨be,2,none⟩=some (.slice (some ⟨g2,0,none⟩) (n+1) (n+1))
 o:∀ g,g<n→W.cell? ⟨g1,g,none⟩=some (.bool (O g))∧W.frozen? ⟨g1,g,none⟩=false
 i:∀ g,g≤n→W.cell? ⟨g2,g,none⟩=some (.string (ba (I g)))∧W.frozen? ⟨g2,g,none⟩=false
theorem set_cell (W:World) (b:Nat) (f:Nat) (u v:Value) (h:W.cell? ⟨b,f,none⟩=some v) (b' g:Nat):(W.setCell ⟨b,f,none⟩ u).cell? ⟨b',g,none⟩=if b'=b∧g=f then some u else W.cell? ⟨b',g,none⟩:=by
 by_cases e:b'=b∧g=f
 ·rw [if_pos e,e.1,e.2];exact World.cell?_setCell_same _ _ _ (u:=v) h
 ·rw [if_neg e]
  by_cases e1:b'=b
  ·subst e1
   have e2:g≠f:=fun h=>e ⟨rfl,h⟩
   simp only [World.cell?,World.setCell,Array.getElem?_modify]
   simp only [if_true]
   cases hh:W.heap[b']? with
   | none=>rfl
   | some ob =>
    cases ob<;>simp
    rename_i cs _ _
    rw [Array.getElem?_setIfInBounds_ne]
    exact fun h=>e2 h.symm
  ·exact World.cell?_of_block (w:=W) (Below.heap_setCell W ⟨b,f,none⟩ u b' e1)
theorem set_frozen (W:World) (p:Addr) (u:Value) (q:Addr):(W.setCell p u).frozen? q=W.frozen? q:=by
 simp only [World.frozen?,World.setCell,Array.getElem?_modify]
 by_cases e:p.block=q.block
 ·rw [if_pos e]
  cases hh:W.heap[q.block]? with
  | none=>rfl
  | some ob=>cases ob<;>rfl
 ·rw [if_neg e]
theorem ME.congr {B:Nat} {W:World} {be g1 g2 n:Nat} {I I':Nat→By} {O O':Nat→Bool} (h:ME B W be g1 g2 n I O) (hI:∀ g,g≤n→I g=I' g) (hO:∀ g,g<n→O g=O' g):ME B W be g1 g2 n I' O' :=
 { h with o:=fun g hg=>by rw [← hO g hg];exact h.o g hg,i:=fun g hg=>by rw [← hI g hg];exact h.i g hg }
theorem ME.drew {B:Nat} {W:World} {be g1 g2 n:Nat} {I:Nat→By} {O:Nat→Bool} (h:ME B W be g1 g2 n I O):ME B W.drew be g1 g2 n I O :=
 ⟨h.l0,h.l1,h.l2,h.ge,h.n1,h.n2,h.n3,h.c0,h.c1,h.c2,h.o,h.i⟩
theorem set_size (W:World) (p:Addr) (u:Value):(W.setCell p u).heap.size=W.heap.size:=by simp [World.setCell]
theorem ME.setI {B:Nat} {W:World} {be g1 g2 n:Nat} {I:Nat→By} {O:Nat→Bool} (h:ME B W be g1 g2 n I O) (f:Nat) (hf:f≤n) (x:By):ME B (W.setCell ⟨g2,f,none⟩ (.string (ba x))) be g1 g2 n (fun g=>if g=f then x else I g) O:=by
 have hs:=fun b' g=>set_cell W g2 f (.string (ba x)) _ (h.i f hf).1 b' g
 refine ⟨by rw [set_size];exact h.l0,by rw [set_size];exact h.l1,by rw [set_size];exact h.l2,h.ge,h.n1,h.n2,h.n3,?_,?_,?_,?_,?_⟩
 ·rw [hs,if_neg (fun e=>h.n2 e.1)];exact h.c0
 ·rw [hs,if_neg (fun e=>h.n2 e.1)];exact h.c1
 ·rw [hs,if_neg (fun e=>h.n2 e.1)];exact h.c2
 ·intro g hg
  rw [hs,if_neg (fun e=>h.n3 e.1),set_frozen];exact h.o g hg
 ·intro g hg
  rw [hs,set_frozen]
  by_cases e:g=f
  ·subst e;simp;exact (h.i g hg).2
  ·rw [if_neg (fun h=>e h.2)];simp only [e,if_false];exact h.i g hg
theorem ME.setO {B:Nat} {W:World} {be g1 g2 n:Nat} {I:Nat→By} {O:Nat→Bool} (h:ME B W be g1 g2 n I O) (f:Nat) (hf:f<n):ME B (W.setCell ⟨g1,f,none⟩ (.bool true)) be g1 g2 n I (fun g=>if g=f then true else O g):=by
 have hs:=fun b' g=>set_cell W g1 f (.bool true) _ (h.o f hf).1 b' g
 refine ⟨by rw [set_size];exact h.l0,by rw [set_size];exact h.l1,by rw [set_size];exact h.l2,h.ge,h.n1,h.n2,h.n3,?_,?_,?_,?_,?_⟩
 ·rw [hs,if_neg (fun e=>h.n1 e.1)];exact h.c0
 ·rw [hs,if_neg (fun e=>h.n1 e.1)];exact h.c1
 ·rw [hs,if_neg (fun e=>h.n1 e.1)];exact h.c2
 ·intro g hg
  rw [hs,set_frozen]
  by_cases e:g=f
  ·subst e;simp;exact (h.o g hg).2
  ·rw [if_neg (fun h=>e h.2)];simp only [e,if_false];exact h.o g hg
 ·intro g hg
  rw [hs,if_neg (fun e=>h.n3 e.1.symm),set_frozen];exact h.i g hg
theorem ME.isE {B:Nat} {W:World} {be g1 g2 n:Nat} {I:Nat→By} {O:Nat→Bool} (h:ME B W be g1 g2 n I O):IsE W (.agg #[.int .i64 n,.slice (some ⟨g1,0,none⟩) n n,.slice (some ⟨g2,0,none⟩) (n+1) (n+1)]) n I O :=
 ⟨_,n,g2,n+1,rfl,Nat.le_refl _,Nat.le_refl _,fun g hg=>⟨g1,rfl,(h.o g hg).1⟩,fun g hg=>(h.i g hg).1⟩
theorem ME.kp {S:Nat→Prop} {B:Nat} {W W':World} {be g1 g2 n:Nat} {I:Nat→By} {O:Nat→Bool} (h:ME B W be g1 g2 n I O) (hk:Kp S W W') (h0:¬ S be) (h1:¬ S g1) (h2:¬ S g2):ME B W' be g1 g2 n I O :=
 ⟨Nat.lt_of_lt_of_le h.l0 hk.size,Nat.lt_of_lt_of_le h.l1 hk.size,Nat.lt_of_lt_of_le h.l2 hk.size,h.ge,h.n1,h.n2,h.n3,hk.cellv h.c0 h0,hk.cellv h.c1 h0,hk.cellv h.c2 h0,
  fun g hg=>⟨hk.cellv (h.o g hg).1 h1,(hk.frozen (p:=⟨g1,g,none⟩) h.l1 h1).trans (h.o g hg).2⟩,fun g hg=>⟨hk.cellv (h.i g hg).1 h2,(hk.frozen (p:=⟨g2,g,none⟩) h.l2 h2).trans (h.i g hg).2⟩⟩
theorem ME.made {B:Nat} {W:World} {be g1 g2 n:Nat} {A1 A2:Array Value} (hA1:A1.size=n∧∀ g,g<n→A1[g]?=some (.bool false)) (hA2:A2.size=n+1∧∀ g,g≤n→A2[g]?=some (.string (ba [])))
  (h0:W.heap[be]?=some (.cells #[.int .i64 n,.slice (some ⟨g1,0,none⟩) n n,.slice (some ⟨g2,0,none⟩) (n+1) (n+1)] 82 (0,0))) (h1:W.heap[g1]?=some (.cells A1 4 (0,0))) (h2:W.heap[g2]?=some (.cells A2 9 (0,0)))
  (ge:B≤be∧B≤g1∧B≤g2) (n1:be≠g1) (n2:be≠g2) (n3:g1≠g2):ME B W be g1 g2 n (fun _=>[]) (fun _=>false) :=
 ⟨heap_lt h0,heap_lt h1,heap_lt h2,ge,n1,n2,n3,by rw [Lib.cell_of_heap h0];rfl,by rw [Lib.cell_of_heap h0];rfl,by rw [Lib.cell_of_heap h0];rfl,
  fun g hg=>⟨by rw [Lib.cell_of_heap h1];exact hA1.2 g hg,Lib.frozen_of_heap h1 g⟩,fun g hg=>⟨by rw [Lib.cell_of_heap h2];exact hA2.2 g hg,Lib.frozen_of_heap h2 g⟩⟩
end Go.Proofs.YtbmebfgapjhchaaGreatDoor.Ed
/- The steps of a span;the steps of an edit,one a call. -/
namespace Go.Proofs.YtbmebfgapjhchaaGreatDoor.Ed
open Go.RowKit
open EM
def stR (s:St):Rw:=⟨s.k,s.c,ba s.s⟩
def stV (s:St):Value:=.agg #[.int .i64 s.k,.int .i64 s.c,.string (ba s.s)]
theorem _root_.Go.Proofs.YtbmebfgapjhchaaGreatDoor.IsL.ofBlock {w:World} {g:Nat} {L:List Rw} {e:TypeId} {fz:Nat × Nat} {cap:Nat} (h:w.heap[g]?=some (.cells (L.flatMap Rw.vals).toArray e fz)) (hc:L.length≤cap) (hm:cap≤maxLen) (hl:L.length≤1125899906842624):IsL w (.slice (some ⟨g,0,none⟩) L.length cap) L:=by
 refine ⟨_,cap,rfl,hc,hl,hm,fun i hi=>⟨g,0,rfl,fun r hr=>?_⟩⟩
 have key:∀ j,j<3→(L.flatMap Rw.vals)[i*3+j]?=r.vals[j]?:=by
  intro j hj
  clear h hc hm hl hi
  induction L generalizing i with
  | nil=>simp at hr
  | cons a L ih =>
   cases i with
   | zero =>
    obtain rfl:a=r:=by simpa using hr
    rw [List.flatMap_cons,List.getElem?_append_left (by simp [Rw.vals];omega)];simp
   | succ i =>
    rw [List.flatMap_cons,List.getElem?_append_right (by simp [Rw.vals];omega)]
    rw [show (i+1)*3+j - (Rw.vals a).length=i*3+j by simp [Rw.vals];omega]
    exact ih i (by simpa using hr)
 rw [Nat.zero_add]
 refine ⟨?_,?_,?_⟩
 ·rw [Lib.cell_of_heap h,List.getElem?_toArray];exact (key 0 (by omega)).trans rfl
 ·rw [Lib.cell_of_heap h,List.getElem?_toArray];exact (key 1 (by omega)).trans rfl
 ·rw [Lib.cell_of_heap h,List.getElem?_toArray];exact (key 2 (by omega)).trans rfl
set_option maxHeartbeats 1000000 in
theorem stepsOfSpan_any (a:Nat) (c:Sp) (w:World) (h1:a≤c.f) (h2:c.f≤c.t) (h3:c.t≤1099511627776) :
  Calls Tryz.prog 88 #[.int .i64 a,.agg #[.int .i64 c.f,.int .i64 c.t,.string (ba c.s)]] w fun e w'=>∃ g,e=.returned (.slice (some ⟨g,0,none⟩) 3 3)∧w.heap.size≤g∧IsL w' (.slice (some ⟨g,0,none⟩) 3 3) ((st3 a c).map stR)∧Below w.heap.size w w':=by
 have e1:(c.f:Int) - (a:Int)=((c.f - a:Nat):Int):=by omega
 have e2:(c.t:Int) - (c.f:Int)=((c.t - c.f:Nat):Int):=by omega
 have e3:(ba c.s).size=c.s.length:=ba_size _
 have z1:(a:Int)≤1099511627776:=by omega
 have z2:(c.f:Int)≤1099511627776:=by omega
 have z3:(c.t:Int)≤1099511627776:=by omega
 have HE:=hide (And.intro e1 (And.intro e2 e3))
 clear e1 e2 e3
 go_enter Tryz.func88,Tryz.ntmps88
 go_wp2_with fail
 go_ret
 refine ⟨_,rfl,?_,?_,?_⟩
 ·simp
 ·obtain ⟨e1,e2,e3⟩:=HE.out
  rw [e1,e2,e3]
  refine IsL.ofBlock (L:=(st3 a c).map stR) (g:=w.heap.size+1) (e:=154) (fz:=(0,0)) ?_ (by simp [st3]) (by decide) (by simp [st3])
  have:=heap_alloc_new (w.alloc (Obj.cells #[Value.int IntKind.i64 ↑c.f,Value.int IntKind.i64 ↑c.t,Value.string (ba c.s)] 70)) (.cells #[.int .i64 0,.int .i64 ((c.f - a:Nat):Int),.string ⟨#[]⟩,.int .i64 1,.int .i64 (c.s.length:Int),.string (ba c.s),.int .i64 2,.int .i64 ((c.t - c.f:Nat):Int),.string ⟨#[]⟩] 154)
  rw [World.size_alloc] at this
  exact this
 ·exact ((Below.refl _ _).alloc (Nat.le_refl _) _).alloc (by simp) _
structure NS (B:Nat) (w:World) (b0 b1 b2:Nat) (R:List St) (a:Nat) (Ls:List Sp) (F:Nat→Prop):Prop where
 h0:∃ rv,w.heap[b0]?=some (.cells #[rv] 198 (0,0))∧IsL w rv (R.map stR)∧∀ k,rv.ownBlock=some k→F k∧k≠b0∧k≠b1∧k≠b2
 h1:∃ ev,w.heap[b1]?=some (.cells #[ev] 40 (0,0))∧IsL w ev (Ls.map raw)∧∀ k,ev.ownBlock=some k→k<B
 h2:w.heap[b2]?=some (.cells #[.int .i64 a] 3 (0,0))
 f:F b0∧F b1∧F b2
 lt:∀ k,F k→B≤k∧k<w.heap.size
 ne:b0≠b1∧b0≠b2∧b1≠b2
 ok:∃ n,Ok a n Ls∧n≤1099511627776
 tt:tot Ls≤1099511627776
theorem NS.keep {T F:Nat→Prop} {B:Nat} {w w':World} {b0 b1 b2:Nat} {R:List St} {a:Nat} {Ls:List Sp} (h:NS B w b0 b1 b2 R a Ls F) (hk:Kp T w w') (hd:∀ k,F k→¬ T k) (hT:∀ k,T k→B≤k):NS B w' b0 b1 b2 R a Ls F:=by
 obtain ⟨⟨rv,r1,r2,r3⟩,⟨ev,e1,e2,e3⟩,h2,f,lt,ne,ok,tt⟩:=h
 refine ⟨⟨rv,hk.heap r1 (hd _ f.1),r2.keep hk (fun k hkk=>hd k (r3 k hkk).1),r3⟩,⟨ev,hk.heap e1 (hd _ f.2.1),e2.keep hk (fun k hkk ht=>by have:=e3 k hkk;have:=hT k ht;omega),e3⟩,hk.heap h2 (hd _ f.2.2),f,fun k hkk=>⟨(lt k hkk).1,Nat.lt_of_lt_of_le (lt k hkk).2 hk.size⟩,ne,ok,tt⟩
def IsN (B:Nat) (w:World) (b0 b1 b2:Nat) (S:List St) (F:Nat→Prop):Prop:=∃ R a Ls,NS B w b0 b1 b2 R a Ls F∧S=real R++sts a Ls
theorem IsN.keep {T F:Nat→Prop} {B:Nat} {w w':World} {b0 b1 b2:Nat} {S:List St} (h:IsN B w b0 b1 b2 S F) (hk:Kp T w w') (hd:∀ k,F k→¬ T k) (hT:∀ k,T k→B≤k):IsN B w' b0 b1 b2 S F:=by
 obtain ⟨R,a,Ls,h1,h2⟩:=h
 exact ⟨R,a,Ls,h1.keep hk hd hT,h2⟩
def nextV (b0 b1 b2:Nat):Value:=.func (.func 87) #[] #[.pointer (some ⟨b0,0,none⟩),.pointer (some ⟨b1,0,none⟩),.pointer (some ⟨b2,0,none⟩)]
theorem three (w:World) (a b c:Obj):(((w.alloc a).alloc b).alloc c).heap[w.heap.size]?=some a∧(((w.alloc a).alloc b).alloc c).heap[w.heap.size+1]?=some b∧(((w.alloc a).alloc b).alloc c).heap[w.heap.size+1+1]?=some c:=by
 have h1:=heap_alloc_new w a
 have h2:=heap_alloc_new (w.alloc a) b
 have h3:=heap_alloc_new ((w.alloc a).alloc b) c
 simp only [World.size_alloc] at h2 h3
 refine ⟨?_,?_,h3⟩
 ·rw [Below.heap_alloc _ _ _ (by simp;omega),Below.heap_alloc _ _ _ (by simp)];exact h1
 ·rw [Below.heap_alloc _ _ _ (by simp)];exact h2
set_option maxHeartbeats 1000000 in
theorem stepsOf_any (B:Nat) (v:Value) (Ls:List Sp) (w:World) (hB:B≤w.heap.size) (h:IsL w v (Ls.map raw)) (hb:∀ k,v.ownBlock=some k→k<B) (n:Nat) (hok:Ok 0 n Ls) (hn:n≤1099511627776) (ht:tot Ls≤1099511627776) :
  Calls Tryz.prog 60 #[v] w fun e w'=>e=.returned (nextV (w.heap.size+1+1) w.heap.size (w.heap.size+1))∧IsN B w' (w.heap.size+1+1) w.heap.size (w.heap.size+1) (sts 0 Ls) (fun k=>w.heap.size≤k∧k<w'.heap.size)∧Below w.heap.size w w':=by
 have H:=hide h
 have HB:=hide hb
 clear hb
 obtain ⟨ao,cap,rfl,hc,hl,hcm,hx⟩:=h
 clear hx
 go_enter Tryz.func60,Tryz.ntmps60
 go_wp2_with fail
 go_ret
 refine ⟨rfl,⟨[],0,Ls,?_,rfl⟩,(((Below.refl _ _).alloc (Nat.le_refl _) _).alloc (by simp) _).alloc (by simp;omega) _⟩
 obtain ⟨q0,q1,q2⟩:=three w (Obj.cells #[Value.slice ao Ls.length cap] 40) (Obj.cells #[Value.int IntKind.i64 0] 3) (Obj.cells #[Value.slice none 0 0] 198)
 have hbl:Below w.heap.size w (((w.alloc (Obj.cells #[Value.slice ao Ls.length cap] 40)).alloc (Obj.cells #[Value.int IntKind.i64 0] 3)).alloc (Obj.cells #[Value.slice none 0 0] 198)):=(((Below.refl _ _).alloc (Nat.le_refl _) _).alloc (by simp) _).alloc (by simp;omega) _
 refine ⟨⟨_,q2,⟨none,0,rfl,Nat.le_refl _,by simp,by unfold maxLen;omega,fun i hi=>by simp at hi⟩,fun k hk=>by simp [Value.ownBlock] at hk⟩,⟨_,q0,?_,?_⟩,q1,?_,?_,by omega,⟨n,hok,hn⟩,ht⟩
 ·have:=(H.out).below hbl
  rwa [List.length_map] at this
 ·have:=HB.out
  rwa [List.length_map] at this
 ·simp;omega
 ·rintro k ⟨h1,h2⟩;exact ⟨by omega,h2⟩
end Go.Proofs.YtbmebfgapjhchaaGreatDoor.Ed
/- What spans mean: the walk. -/
namespace Go.Proofs.YtbmebfgapjhchaaGreatDoor.Ed
open Go.RowKit
open EM
theorem raw_get {Ls:List Sp} {k:Nat} {r:Rw} (h:(Ls.map raw)[k]?=some r):∃ c,Ls[k]?=some c∧r=raw c:=by
 rw [List.getElem?_map] at h
 cases hc:Ls[k]? with
 | none=>rw [hc] at h;cases h
 | some c=>rw [hc] at h;exact ⟨c,rfl,(Option.some.inj h).symm⟩
theorem Ok_get {a n:Nat} {Ls:List Sp} (h:Ok a n Ls) {k:Nat} {c:Sp} (hc:Ls[k]?=some c):c.f≤c.t∧c.t≤n:=by
 induction Ls generalizing a k with
 | nil=>simp at hc
 | cons d L ih =>
  cases k with
  | zero=>obtain rfl:d=c:=(by simpa using hc);exact ⟨h.2.1,h.2.2.le⟩
  | succ k=>exact ih h.2.2 (by simpa using hc)
theorem take_snoc {Ls:List Sp} {k:Nat} {c:Sp} (hc:Ls[k]?=some c):Ls.take (k+1)=Ls.take k++[c]:=by
 rw [List.take_add_one,hc];rfl
theorem alloc_at (w:World) (o:Obj) (k:Nat):(w.alloc o).heap[k]?=if k=w.heap.size then some o else w.heap[k]?:=by
 show (w.heap.push o)[k]?=_
 rw [Array.getElem?_push]
def R3 (W:World) (b:Nat):Prop:=W.heap[b]?=some (.cells #[.int .i64 0,.slice none 0 0,.slice none 0 0] 82 (0,0))
theorem R3.facts {W:World} {b:Nat} (h:R3 W b):W.cell? ⟨b,0,none⟩=some (.int .i64 0)∧W.cell? ⟨b,1,none⟩=some (.slice none 0 0)∧W.cell? ⟨b,2,none⟩=some (.slice none 0 0)∧W.frozen? ⟨b,0,none⟩=false∧W.frozen? ⟨b,1,none⟩=false∧W.frozen? ⟨b,2,none⟩=false:=by
 unfold R3 at h
 refine ⟨?_,?_,?_,?_,?_,?_⟩<;>simp [World.cell?,World.frozen?,h]
def set3 (w:World) (b:Nat) (y0 y1 y2:Value):World:=((w.setCell ⟨b,0,none⟩ y0).setCell ⟨b,1,none⟩ y1).setCell ⟨b,2,none⟩ y2
theorem set3_at {w:World} {b:Nat} {x0 x1 x2:Value} {t:TypeId} (h:w.heap[b]?=some (.cells #[x0,x1,x2] t (0,0))) (y0 y1 y2:Value):(set3 w b y0 y1 y2).heap[b]?=some (.cells #[y0,y1,y2] t (0,0)):=by
 simp [set3,World.setCell,Array.getElem?_modify,h]
theorem set3_kp {S:Nat→Prop} {a w:World} (h:Kp S a w) (b:Nat) (y0 y1 y2:Value) (hb:b<a.heap.size→S b):Kp S a (set3 w b y0 y1 y2) :=
 ((h.setCell (p:=⟨b,0,none⟩) hb _).setCell (p:=⟨b,1,none⟩) hb _).setCell (p:=⟨b,2,none⟩) hb _
theorem set3_below {B:Nat} {a w:World} (h:Below B a w) (b:Nat) (hB:B≤b) (y0 y1 y2:Value):Below B a (set3 w b y0 y1 y2) :=
 ((h.setCell (p:=⟨b,0,none⟩) hB _).setCell (p:=⟨b,1,none⟩) hB _).setCell (p:=⟨b,2,none⟩) hB _
theorem drew_at (w:World) (k:Nat):w.drew.heap[k]?=w.heap[k]?:=rfl
theorem made4 (w:World) (z a b c:Obj):((((w.alloc z).alloc a).alloc b).alloc c).drew.heap[w.heap.size]?=some z∧((((w.alloc z).alloc a).alloc b).alloc c).drew.heap[w.heap.size+1]?=some a ∧
  ((((w.alloc z).alloc a).alloc b).alloc c).drew.heap[w.heap.size+1+1]?=some b∧((((w.alloc z).alloc a).alloc b).alloc c).drew.heap[w.heap.size+1+1+1]?=some c:=by
 have a1:=alloc_at w z
 have a2:=alloc_at (w.alloc z) a
 have a3:=alloc_at ((w.alloc z).alloc a) b
 have a4:=alloc_at (((w.alloc z).alloc a).alloc b) c
 simp only [World.size_alloc] at a1 a2 a3 a4
 refine ⟨?_,?_,?_,?_⟩
 ·rw [drew_at,a4,if_neg (by omega),a3,if_neg (by omega),a2,if_neg (by omega),a1];simp
 ·rw [drew_at,a4,if_neg (by omega),a3,if_neg (by omega),a2];simp
 ·rw [drew_at,a4,if_neg (by omega),a3];simp
 ·rw [drew_at,a4];simp
theorem Below4 (w:World) (z a b c:Obj):Below w.heap.size w ((((w.alloc z).alloc a).alloc b).alloc c).drew :=
 (((((Below.refl _ w).alloc (Nat.le_refl _) _).alloc (by simp) _).alloc (by simp;omega) _).alloc (by simp;omega) _).drew
set_option maxRecDepth 100000 in
set_option maxHeartbeats 4000000 in
theorem means_any (n:Nat) (v:Value) (Ls:List Sp) (w:World) (h:IsL w v (Ls.map raw)) (hn:n≤1048576) (hok:Ok 0 n Ls) (ht:tot Ls≤1099511627776) :
  Calls Tryz.prog 30 #[.int .i64 n,v] w fun e w'=>∃ v',e=.returned v'∧IsE w' v' n (inG Ls) (outG Ls)∧Below w.heap.size w w':=by
 obtain ⟨A1,s1,g1,m1⟩:=mk_bools n (by omega)
 obtain ⟨A2,s2,g2,m2⟩:=mk_strs n (by omega)
 have H:=hide h
 obtain ⟨ao,cap,rfl,hc,hl',hcm,hx⟩:=h
 clear hx
 have hll:(Ls.map raw).length=Ls.length:=by simp
 rw [hll] at hc hl' H ⊢
 have HG:=hide (And.intro (And.intro s1 g1) (And.intro s2 g2))
 have HO:=hide hok
 clear s1 s2 g1 g2 hll hok
 go_enter Tryz.func30,Tryz.ntmps30
 go_wp2_with fail
 go_cut [5] (fun s5 wx=>∃ be g1 g2:Nat,s5=.pointer (some ⟨be,0,none⟩)∧Hid (ME (w.heap.size+1) wx be g1 g2 n (inG (Ls.take 0)) (outG (Ls.take 0)))∧Hid (R3 wx w.heap.size)∧Below w.heap.size w wx)
 case first =>
  go_region
  all_goals go_wp2_with fail
  all_goals go_meet
  all_goals
   case rel =>
    first
     | exact ⟨_,_,_,rfl,ME.made (HG.out).1 (HG.out).2 (made4 w _ _ _ _).2.1 (made4 w _ _ _ _).2.2.1 (made4 w _ _ _ _).2.2.2 ⟨by omega,by omega,by omega⟩ (by omega) (by omega) (by omega),(made4 w _ _ _ _).1,Below4 w _ _ _ _⟩
     | exact ⟨_,_,_,rfl,ME.made (HG.out).1 (HG.out).2 (made4 w _ _ _ _).2.1 (made4 w _ _ _ _).2.2.2 (made4 w _ _ _ _).2.2.1 ⟨by omega,by omega,by omega⟩ (by omega) (by omega) (by omega),(made4 w _ _ _ _).1,Below4 w _ _ _ _⟩
     | exact ⟨_,_,_,rfl,ME.made (HG.out).1 (HG.out).2 (made4 w _ _ _ _).2.2.1 (made4 w _ _ _ _).2.1 (made4 w _ _ _ _).2.2.2 ⟨by omega,by omega,by omega⟩ (by omega) (by omega) (by omega),(made4 w _ _ _ _).1,Below4 w _ _ _ _⟩
     | exact ⟨_,_,_,rfl,ME.made (HG.out).1 (HG.out).2 (made4 w _ _ _ _).2.2.1 (made4 w _ _ _ _).2.2.2 (made4 w _ _ _ _).2.1 ⟨by omega,by omega,by omega⟩ (by omega) (by omega) (by omega),(made4 w _ _ _ _).1,Below4 w _ _ _ _⟩
     | exact ⟨_,_,_,rfl,ME.made (HG.out).1 (HG.out).2 (made4 w _ _ _ _).2.2.2 (made4 w _ _ _ _).2.1 (made4 w _ _ _ _).2.2.1 ⟨by omega,by omega,by omega⟩ (by omega) (by omega) (by omega),(made4 w _ _ _ _).1,Below4 w _ _ _ _⟩
     | exact ⟨_,_,_,rfl,ME.made (HG.out).1 (HG.out).2 (made4 w _ _ _ _).2.2.2 (made4 w _ _ _ _).2.2.1 (made4 w _ _ _ _).2.1 ⟨by omega,by omega,by omega⟩ (by omega) (by omega) (by omega),(made4 w _ _ _ _).1,Below4 w _ _ _ _⟩
 case rest =>
  obtain ⟨be,g1,g2,rfl,HM,HR3,hb0⟩:=hcut
  clear m1 m2 HG
  go_wp2_with fail
  go_loopw [6] (fun i wr=>∃ k:Nat,k≤Ls.length∧i=.int .i64 k∧Hid (ME (w.heap.size+1) wr be g1 g2 n (inG (Ls.take k)) (outG (Ls.take k)))∧Hid (R3 wr w.heap.size)∧Below w.heap.size w wr) (fun i _=>Ls.length - (intOf i).toNat)
  case atStart=>exact ⟨0,Nat.zero_le _,rfl,HM,HR3,hb0⟩
  case round =>
   clear HM HR3 hb0
   obtain ⟨k,hk,rfl,HM,HR3,hB⟩:=hrel
   by_cases hlt:k<Ls.length
   ·obtain ⟨b,o,r,rfl,hr,q1,q2,q3,hbl⟩:=(H.out).get hB (show k<(Ls.map raw).length by simpa using hlt)
    obtain ⟨c,hc,rfl⟩:=raw_get hr
    simp only [raw] at q1 q2 q3
    obtain ⟨hft,htn⟩:=Ok_get HO.out hc
    obtain ⟨l0,l1,l2,ge,n1,n2,n3,c0,c1,c2,ho,hi⟩:=HM.out
    have i1:=(hi c.f (by omega)).1
    have i2:=(hi c.f (by omega)).2
    have a1:=inG_tot (Ls.take k) c.f
    have a2:=tot_take Ls k
    have a3:=tot_mem Ls k c hc
    have z1:(ba (inG (List.take k Ls) c.f)).size≤1099511627776:=by rw [ba_size];omega
    have z2:(ba c.s).size≤1099511627776:=by rw [ba_size];omega
    have y1:(k:Int)<(Ls.length:Int):=by omega
    have y2:(c.f:Int)<(n:Int)+1:=by omega
    have y3:(0:Int)≤(c.f:Int):=by omega
    have y4:(0:Int)≤(k:Int):=by omega
    have HC:=hide hc
    clear hr hc ho hi a1 a2 a3
    go_wp2_with fail
    go_region
    all_goals go_wp2_with fail
    have M1:ME (w.heap.size+1) (wr.setCell ⟨g2,c.f,none⟩ (.string (ba (inG (List.take k Ls) c.f)++ba c.s))).drew be g1 g2 n (inG (Ls.take (k+1))) (fun g=>outG (Ls.take k) g||(decide (c.f≤g)&&decide (g<c.f))):=by
     rw [ba_append]
     refine ((HM.out).setI c.f (by omega) _).drew.congr (fun g _=>?_) (fun g _=>?_)
     ·rw [take_snoc HC.out,inG_snoc]
      by_cases e:g=c.f
      ·subst e;simp
      ·rw [if_neg e,if_neg (fun h=>e h.symm),List.append_nil]
     ·have:(decide (c.f≤g)&&decide (g<c.f))=false:=by simp
      rw [this,Bool.or_false]
    have B1:Below w.heap.size w (wr.setCell ⟨g2,c.f,none⟩ (.string (ba (inG (List.take k Ls) c.f)++ba c.s))).drew:=(hB.setCell (p:=⟨g2,c.f,none⟩) (by have:=(HM.out).ge.2.2;show _≤g2;omega) _).drew
    have R1:R3 (wr.setCell ⟨g2,c.f,none⟩ (.string (ba (inG (List.take k Ls) c.f)++ba c.s))).drew w.heap.size:=(Below.heap_setCell wr ⟨g2,c.f,none⟩ _ w.heap.size (by have:=(HM.out).ge.2.2;show _≠g2;omega)).trans HR3.out
    generalize (wr.setCell ⟨g2,c.f,none⟩ (.string (ba (inG (List.take k Ls) c.f)++ba c.s))).drew=W1 at M1 B1 R1 ⊢
    have HM1:=hide M1
    have HR1:=hide R1
    clear M1 R1 c0 c1 c2 i1 i2 q1 q2 q3
    go_loopw [7] (fun i wr=>∃ j:Nat,c.f≤j∧j≤c.t∧i=.int .i64 j∧Hid (R3 wr w.heap.size)∧Hid (ME (w.heap.size+1) wr be g1 g2 n (inG (Ls.take (k+1))) (fun g=>outG (Ls.take k) g||(decide (c.f≤g)&&decide (g<j))))∧Below w.heap.size w wr) (fun i _=>c.t - (intOf i).toNat)
    case atStart=>exact ⟨c.f,Nat.le_refl _,hft,rfl,HR1,HM1,B1⟩
    case round =>
     clear HM1 HR1 B1
     obtain ⟨j,hj1,hj2,rfl,HR2,HM2,hB2⟩:=hrel
     obtain ⟨_,_,r',e,hr',q1,q2,q3,_⟩:=(H.out).get hB2 (show k<(Ls.map raw).length by simpa using hlt)
     obtain ⟨c',hc',rfl⟩:=raw_get hr'
     cases e
     obtain rfl:c'=c:=Option.some.inj (hc'.symm.trans HC.out)
     simp only [raw] at q1 q2 q3
     clear hr' hc'
     obtain ⟨_,_,_,_,_,_,_,c0,c1,c2,ho,_⟩:=HM2.out
     by_cases hjt:j<c'.t
     ·have o1:=(ho j (by omega)).1
      have o2:=(ho j (by omega)).2
      have y5:(j:Int)<(n:Int):=by omega
      have y6:(j:Int)<(c'.t:Int):=by omega
      clear ho
      go_wp2_with fail
      refine ⟨⟨j+1,by omega,by omega,by go_num,(Below.heap_setCell _ ⟨g1,j,none⟩ _ w.heap.size (by have:=(HM.out).ge.2.1;show _≠g1;omega)).trans HR2.out,?_,hB2.setCell (p:=⟨g1,j,none⟩) (by have:=(HM.out).ge.2.1;show _≤g1;omega) _⟩,by simp [intOf];omega⟩
      refine ((HM2.out).setO j (by omega)).congr (fun g _=>rfl) (fun g _=>?_)
      by_cases e:g=j
      ·subst e;simp [hj1]
      ·rw [if_neg e]
       have:decide (g<j+1)=decide (g<j):=by simp;omega
       rw [this]
     ·have y6:¬(j:Int)<(c'.t:Int):=by omega
      clear ho
      have hjj:j=c'.t:=by omega
      go_wp2_with fail
      refine ⟨⟨k+1,by omega,by go_num,?_,HR2,hB2⟩,by simp [intOf];omega⟩
      refine (HM2.out).congr (fun g _=>rfl) (fun g _=>?_)
      rw [take_snoc HC.out,outG_snoc,hjj]
   ·have hkl:k=Ls.length:=by omega
    have HM3:=hide (show ME (w.heap.size+1) wr be g1 g2 n (inG Ls) (outG Ls) by have:=HM.out;rwa [hkl,List.take_of_length_le (Nat.le_refl _)] at this)
    obtain ⟨l0,l1,l2,ge,n1,n2,n3,c0,c1,c2,ho,hi⟩:=HM.out
    obtain ⟨r0,r1,r2,f0,f1,f2⟩:=(HR3.out).facts
    have nb:¬ be=w.heap.size:=by omega
    have nb':¬ w.heap.size=be:=by omega
    clear ho hi hkl
    go_wp2_with fail
    have hX:=set3_at HR3.out (.int .i64 n) (.slice (some ⟨g1,0,none⟩) n n) (.slice (some ⟨g2,0,none⟩) (n+1) (n+1))
    have hK:=set3_kp (Kp.refl (fun k=>k=w.heap.size) wr) w.heap.size (.int .i64 n) (.slice (some ⟨g1,0,none⟩) n n) (.slice (some ⟨g2,0,none⟩) (n+1) (n+1)) (fun _=>rfl)
    have hY:=set3_below hB w.heap.size (Nat.le_refl _) (.int .i64 n) (.slice (some ⟨g1,0,none⟩) n n) (.slice (some ⟨g2,0,none⟩) (n+1) (n+1))
    have hE:=((HM3.out).kp hK (by omega) (by omega) (by omega)).isE
    change bodyPost _ _ _ _ _ (set3 wr w.heap.size (.int .i64 n) (.slice (some ⟨g1,0,none⟩) n n) (.slice (some ⟨g2,0,none⟩) (n+1) (n+1)))
    clear r0 r1 r2 f0 f1 f2 c0 c1 c2 HR3 HM HM3
    generalize set3 wr w.heap.size (.int .i64 n) (.slice (some ⟨g1,0,none⟩) n n) (.slice (some ⟨g2,0,none⟩) (n+1) (n+1))=X at hX hK hY hE ⊢
    have x0:X.cell? ⟨w.heap.size,0,none⟩=some (.int .i64 n):=by rw [Lib.cell_of_heap hX];rfl
    have x1:X.cell? ⟨w.heap.size,1,none⟩=some (.slice (some ⟨g1,0,none⟩) n n):=by rw [Lib.cell_of_heap hX];rfl
    have x2:X.cell? ⟨w.heap.size,2,none⟩=some (.slice (some ⟨g2,0,none⟩) (n+1) (n+1)):=by rw [Lib.cell_of_heap hX];rfl
    exact bodyPost_ret (v:=.agg #[.int .i64 n,.slice (some ⟨g1,0,none⟩) n n,.slice (some ⟨g2,0,none⟩) (n+1) (n+1)]) (by simp [results,Tryz.results30,go_sem,x0,x1,x2]) rfl ⟨_,rfl,hE,hY⟩
end Go.Proofs.YtbmebfgapjhchaaGreatDoor.Ed
/- What the document's edits make of a text,or what is wrong with them. -/
namespace Go.Proofs.YtbmebfgapjhchaaGreatDoor.Ed
open Go.RowKit
open EM
theorem split_at (n:Nat) (L:List Rw) (e:Nat) (he:e≤n) (h1:L.any (badR n)=false) (h2:ordB e L=false):∃ Ls:List Sp,L=Ls.map raw∧Ok e n Ls:=by
 induction L generalizing e with
 | nil=>exact ⟨[],rfl,he⟩
 | cons r L ih =>
  simp only [List.any_cons,Bool.or_eq_false_iff,badR,ordB,decide_eq_false_iff_not] at h1 h2
  obtain ⟨⟨⟨g1,g2⟩,g3⟩,g4⟩:=h1
  obtain ⟨g5,g6⟩:=h2
  obtain ⟨f,s0⟩:∃ f:Nat,r.f=f:=⟨r.f.toNat,by omega⟩
  obtain ⟨t,s1⟩:∃ t:Nat,r.t=t:=⟨r.t.toNat,by omega⟩
  rw [s1] at g6
  obtain ⟨Ls,rfl,hok⟩:=ih t (by omega) (by simpa [badR] using g4) g6
  refine ⟨⟨f,t,bs r.s⟩::Ls,?_,by show e≤f;omega,by show f≤t;omega,hok⟩
  simp only [List.map_cons,raw,ba_bs]
  cases r
  simp only at s0 s1
  rw [s0,s1]
theorem flt_split (n:Nat) (L:List Rw) (h:flt n L=0):∃ Ls:List Sp,L=Ls.map raw∧Ok 0 n Ls:=by
 unfold flt at h
 by_cases h1:(n:Int)<0∨L.any (badR n)=true
 ·rw [if_pos h1] at h;cases h
 ·rw [if_neg h1] at h
  by_cases h2:ordB 0 L=true
  ·rw [if_pos h2] at h;cases h
  ·have h3:L.any (badR n)=false:=by
    cases hb:L.any (badR n) with
    | false=>rfl
    | true=>exact absurd (.inr hb) h1
   exact split_at n L 0 (Nat.zero_le _) h3 (by simpa using h2)
theorem Ok_good {e n:Nat} {Ls:List Sp} (h:Ok e n Ls):(Ls.map raw).any (badR n)=false∧ordB e (Ls.map raw)=false:=by
 induction Ls generalizing e with
 | nil=>exact ⟨rfl,rfl⟩
 | cons c L ih =>
  obtain ⟨i1,i2⟩:=ih h.2.2
  have h1:=h.1
  have h2:=h.2.1
  have h3:=h.2.2.le
  simp only [List.map_cons,List.any_cons,ordB,Bool.or_eq_false_iff,i1,and_true]
  refine ⟨?_,?_,i2⟩
  ·have g1:¬((raw c).f<0):=by show ¬((c.f:Int)<0);omega
   have g2:¬((raw c).t<(raw c).f):=by show ¬((c.t:Int)<(c.f:Int));omega
   have g3:¬((n:Int)<(raw c).t):=by show ¬((n:Int)<(c.t:Int));omega
   simp [badR,g1,g2,g3]
  ·have g1:¬((raw c).f<(e:Int)):=by show ¬((c.f:Int)<(e:Int));omega
   simp [g1]
theorem flt_Ok {n:Nat} {Ls:List Sp} (h:Ok 0 n Ls):flt n (Ls.map raw)=0:=flt_ok (by omega) (Ok_good h).1 (Ok_good h).2
theorem app_len (x:By) (a:Nat) (L:List Sp) (h:Ok a x.length L):(app x a L).length≤(x.length - a)+tot L:=by
 induction L generalizing a with
 | nil=>simp [app]
 | cons c L ih =>
  have i:=ih c.t h.2.2
  have h1:=h.1
  have h2:=h.2.1
  have h3:=h.2.2.le
  have e2:tot (c::L)=c.s.length+tot L:=by simp [tot]
  simp only [app,List.length_append,List.length_take,List.length_drop,e2]
  omega
theorem IsE.below {w w':World} {v:Value} {n:Nat} {I:Nat→By} {O:Nat→Bool} (h:IsE w v n I O) (hb:Below w.heap.size w w'):IsE w' v n I O:=by
 obtain ⟨ao,c1,g2,c2,rfl,h1,h2,h3,h4⟩:=h
 have K:=Kp.ofBelow hb (fun _=>False)
 refine ⟨ao,c1,g2,c2,rfl,h1,h2,fun g hg=>?_,fun g hg=>K.cellv (h4 g hg) id⟩
 obtain ⟨g1,e,hc⟩:=h3 g hg
 exact ⟨g1,e,K.cellv hc id⟩
set_option maxHeartbeats 1000000 in
theorem refApply_yes (s:ByteArray) (v:Value) (Ls:List Sp) (w:World) (h:IsL w v (Ls.map raw)) (hs:s.size≤1048576) (ht:tot Ls≤1073741824) (hok:Ok 0 s.size Ls) :
  Calls Tryz.prog 15 #[.string s,v] w fun e w'=>e=.returned (.tuple #[.string (ba (app (bs s) 0 Ls)),.int .i64 0])∧Below w.heap.size w w':=by
 have hl:=bs_len s
 have hok':Ok 0 (bs s).length Ls:=by rw [hl];exact hok
 have HF:=hide (flt_Ok hok)
 have HD:=hide (app_does (bs s) Ls hok')
 have HL:=hide (app_len (bs s) 0 Ls hok')
 have H:=hide h
 have HOK:=hide hok
 clear h hok hok'
 go_enter Tryz.func15,Tryz.ntmps15
 go_wp2_with fail
 refine (refFault_any s.size v _ w H.out).mono ?_
 rintro e w1 ⟨rfl,hb1⟩
 rw [HF.out]
 go_wp2_with fail
 refine (means_any s.size v Ls w1 ((H.out).below hb1) hs HOK.out (by omega)).mono ?_
 rintro e w2 ⟨v2,rfl,hE,hb2⟩
 have hE':=hE
 obtain ⟨ao,c1,g2,c2,rfl,_,_,_,_⟩:=hE'
 have HE:=hide hE
 clear hE
 go_wp2_with fail
 refine (does_any s _ s.size (inG Ls) (outG Ls) _ ?_ rfl hs (by rw [← HD.out];have:=HL.out;omega)).mono ?_
 ·exact (HE.out).below ((Below.refl _ _).alloc (Nat.le_refl _) _)
 rintro e w3 ⟨rfl,hb3⟩
 rw [← HD.out]
 go_wp2_with fail
 go_ret2
 exact ⟨rfl,hb1.trans ((((Below.refl _ w1).trans hb2).alloc hb2.size _ |>.trans (hb3.mono (by have:=hb2.size;simp;omega))).mono hb1.size)⟩
end Go.Proofs.YtbmebfgapjhchaaGreatDoor.Ed
/- How many bytes an edit makes of n. -/
namespace Go.Proofs.YtbmebfgapjhchaaGreatDoor.Ed
open Go.RowKit
open EM
def drops (L:List Sp):Nat:=(L.map fun c=>c.t - c.f).sum
theorem app_length (x:By) (a:Nat) (L:List Sp) (h:Ok a x.length L):(app x a L).length+drops L=(x.length - a)+tot L:=by
 induction L generalizing a with
 | nil=>simp [app,drops,tot]
 | cons c L ih =>
  have i:=ih c.t h.2.2
  have h1:=h.1
  have h2:=h.2.1
  have h3:=h.2.2.le
  have e2:tot (c::L)=c.s.length+tot L:=by simp [tot]
  have e3:drops (c::L)=(c.t - c.f)+drops L:=by simp [drops]
  simp only [app,List.length_append,List.length_take,List.length_drop,e2,e3]
  omega
theorem drops_le (a n:Nat) (L:List Sp) (h:Ok a n L):drops L≤n - a:=by
 induction L generalizing a with
 | nil=>simp [drops]
 | cons c L ih =>
  have i:=ih c.t h.2.2
  have h1:=h.1
  have h2:=h.2.1
  have h3:=h.2.2.le
  have e3:drops (c::L)=(c.t - c.f)+drops L:=by simp [drops]
  omega
theorem drops_snoc (L:List Sp) (c:Sp):drops (L++[c])=drops L+(c.t - c.f):=by simp [drops]
theorem tot_snoc' (L:List Sp) (c:Sp):tot (L++[c])=tot L+c.s.length:=by simp [tot]
theorem drops_take (L:List Sp) (k:Nat):drops (L.take k)≤drops L:=by
 have:drops L=drops (L.take k)+drops (L.drop k):=by
  unfold drops
  rw [← List.sum_append,← List.map_append,List.take_append_drop]
 omega
set_option maxHeartbeats 2000000 in
theorem lengthAfter_any (n:Nat) (v:Value) (Ls:List Sp) (w:World) (h:IsL w v (Ls.map raw)) (hn:n≤1099511627776) (ht:tot Ls≤1099511627776) (hok:Ok 0 n Ls) :
  Calls Tryz.prog 28 #[.int .i64 n,v] w fun e w'=>e=.returned (.int .i64 ((n - drops Ls+tot Ls:Nat):Int))∧Below w.heap.size w w':=by
 have H:=hide h
 obtain ⟨ao,cap,rfl,hc,hl',hcm,hx⟩:=h
 clear hx
 have hll:(Ls.map raw).length=Ls.length:=by simp
 rw [hll] at hc hl' H ⊢
 have hdl:=drops_le 0 n Ls hok
 have HO:=hide hok
 clear hll hok
 go_enter Tryz.func28,Tryz.ntmps28
 go_wp2_with fail
 go_loopw [0,11] (fun m i wr=>∃ k:Nat,k≤Ls.length∧i=.int .i64 k∧m=.int .i64 ((n - drops (Ls.take k):Nat):Int)∧Below w.heap.size w wr) (fun _ i _=>Ls.length - (intOf i).toNat)
 case atStart=>exact ⟨0,Nat.zero_le _,rfl,by simp [drops],Below.refl _ _⟩
 case round =>
  obtain ⟨k,hk,rfl,rfl,hB⟩:=hrel
  by_cases hlt:k<Ls.length
  ·obtain ⟨b,o,r,rfl,hr,q1,q2,q3,hbl⟩:=(H.out).get hB (show k<(Ls.map raw).length by simpa using hlt)
   obtain ⟨c,hcc,rfl⟩:=raw_get hr
   simp only [raw] at q1 q2 q3
   obtain ⟨hft,htn⟩:=Ok_get HO.out hcc
   have e1:drops (Ls.take (k+1))=drops (Ls.take k)+(c.t - c.f):=by rw [take_snoc hcc,drops_snoc]
   have e2:=drops_take Ls (k+1)
   have g1:((n - drops (Ls.take k):Nat):Int) - ((c.t:Int) - (c.f:Int))=((n - drops (Ls.take (k+1)):Nat):Int):=by omega
   have HG:=hide g1
   obtain ⟨m,em⟩:∃ m,n - drops (Ls.take k)=m:=⟨_,rfl⟩
   rw [em] at HG ⊢
   have y1:(m:Int)≤1099511627776:=by omega
   have y2:(c.t:Int)≤1099511627776:=by omega
   have y3:(c.f:Int)≤1099511627776:=by omega
   clear hr hcc g1 e1 e2 em
   go_wp2_with fail
   exact ⟨⟨k+1,by omega,by go_num,by rw [HG.out],hB.alloc hB.size _⟩,by simp [intOf];omega⟩
  ·have hkl:k=Ls.length:=by omega
   have hm:n - drops (Ls.take k)=n - drops Ls+tot (Ls.take 0):=by rw [hkl,List.take_of_length_le (Nat.le_refl _)];simp [tot]
   rw [hm]
   clear hm
   go_wp2_with fail
   go_loopw [0,25] (fun m i wr=>∃ k:Nat,k≤Ls.length∧i=.int .i64 k∧m=.int .i64 ((n - drops Ls+tot (Ls.take k):Nat):Int)∧Below w.heap.size w wr) (fun _ i _=>Ls.length - (intOf i).toNat)
   case atStart=>exact ⟨0,Nat.zero_le _,rfl,rfl,hB⟩
   case round =>
    obtain ⟨k,hk,rfl,rfl,hB⟩:=hrel
    by_cases hlt:k<Ls.length
    ·obtain ⟨b,o,r,rfl,hr,q1,q2,q3,hbl⟩:=(H.out).get hB (show k<(Ls.map raw).length by simpa using hlt)
     obtain ⟨c,hcc,rfl⟩:=raw_get hr
     simp only [raw] at q1 q2 q3
     have e1:tot (Ls.take (k+1))=tot (Ls.take k)+c.s.length:=by rw [take_snoc hcc,tot_snoc']
     have e2:=tot_take Ls (k+1)
     have g1:((n - drops Ls+tot (Ls.take k):Nat):Int)+(c.s.length:Int)=((n - drops Ls+tot (Ls.take (k+1)):Nat):Int):=by omega
     have HG:=hide g1
     obtain ⟨m,em⟩:∃ m,n - drops Ls+tot (Ls.take k)=m:=⟨_,rfl⟩
     rw [em] at HG ⊢
     have hs:=ba_size c.s
     have y1:(m:Int)≤2199023255552:=by omega
     have y2:(c.s.length:Int)≤1099511627776:=by omega
     have y3:¬(9223372036854775807 - (m:Int)<(c.s.length:Int)):=by omega
     clear hr hcc g1 e1 e2 em
     go_wp2_with fail
     exact ⟨⟨k+1,by omega,by go_num,by rw [HG.out],hB.alloc hB.size _⟩,by simp [intOf];omega⟩
    ·have hkl:k=Ls.length:=by omega
     have hm:tot (Ls.take k)=tot Ls:=by rw [hkl,List.take_of_length_le (Nat.le_refl _)]
     rw [hm]
     clear hm
     go_wp2_with fail
     go_ret
     exact ⟨rfl,hB⟩
end Go.Proofs.YtbmebfgapjhchaaGreatDoor.Ed
