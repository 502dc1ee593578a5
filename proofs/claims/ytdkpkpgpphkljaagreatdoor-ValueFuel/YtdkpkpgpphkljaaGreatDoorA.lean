/- Short names for the library's theorems. -/
import Derived.WalkKit
import Derived.Lib.Builder
import Derived.Lib.IndexBytes
import Derived.Deep.Draws
namespace Go.Proofs
open Go.RowKit
theorem _root_.Go.RowKit.Hid.o {p:Prop} (h:Hid p):p:=h.out
abbrev ah:=List UInt8
abbrev ai:=@cell_of_row
abbrev aj:=@Nat.le_refl
abbrev ak:=@List.length_append
abbrev ax:=@List.setIfInBounds_toArray
abbrev ay:=@Below.refl
abbrev aA:=@List.append_assoc
abbrev aB:=@heap_alloc_new
abbrev aC:=@List.getElem?_eq_getElem
abbrev aD:=@List.set_cons_zero
abbrev aF:=@List.set_cons_succ
abbrev aG:=@if_neg
abbrev aH:=@Nat.lt_of_lt_of_le
abbrev aJ:=@List.append_nil
abbrev aK:=@Array.getElem?_modify
abbrev aL:=@if_pos
abbrev aN:=@World.cell?_of_block
abbrev aO:=@List.getElem?_eq_none
abbrev aQ:=@List.getElem?_append_right
abbrev aS:=@Array.getElem?_setIfInBounds_ne
abbrev aT:=@List.length_eq_zero_iff
abbrev aU:=@List.getElem?_append_left
abbrev aW:=@List.length_cons
abbrev aX:=@Nat.zero_le
abbrev bB:=@frozen_of_row
abbrev bE:=@Nat.lt_or_ge
abbrev bF:=@List.getD_eq_getElem?_getD
abbrev bG:=@World.block_lt_of_cell?
abbrev bI:=@bodyPost_ret
abbrev bK:=@Option.some.inj
abbrev bL:=@List.length_take
abbrev bM:=@List.length_drop
abbrev bN:=@World.frozen?_alloc_old
abbrev bP:=@List.drop_eq_getElem_cons
abbrev bS:=@Nat.le_trans
abbrev bT:=@List.nil_append
abbrev bU:=@Int.natCast_nonneg
abbrev bV:=@ownsRow_setCell_other
abbrev bY:=@World.ownsRow_nil
abbrev b_:=@Array.getElem?_setIfInBounds_self_of_lt
abbrev cu:=@Nat.zero_add
abbrev cK:=@List.mem_cons
abbrev cZ:=@List.mem_append
abbrev dh:=@List.mem_of_getElem?
abbrev dx:=@List.cons_append
abbrev dz:=@List.mem_append_right
abbrev dA:=@List.take_append_drop
abbrev dB:=@List.drop_drop
abbrev dF:=@beq_eq_false_iff_ne
abbrev dG:=@Prod.mk.injEq
abbrev dL:=@List.eq_nil_of_length_eq_zero
abbrev dM:=@Array.size_setIfInBounds
abbrev dN:=@heap_alloc_old
abbrev dP:=@List.getElem?_eq_some_iff
abbrev dR:=@List.mem_singleton
abbrev dU:=@List.takeWhile_cons_of_neg
abbrev dX:=@List.length_singleton
abbrev dZ:=@List.takeWhile_append_dropWhile
abbrev eG:=@List.length_map
abbrev eH:=@Option.some.injEq
abbrev eO:=@Bool.false_eq_true
abbrev eT:=@List.dropWhile_cons_of_neg
abbrev fe:=@Addr.add_lit
abbrev fo:=@List.dropWhile_sublist
abbrev fw:=@Nat.add_assoc
abbrev fA:=@Below.setCell
abbrev fJ:=@List.mem_cons_of_mem
abbrev fQ:=@List.map_cons
abbrev fZ:=@Below.alloc
abbrev f_:=@List.flatMap_cons
abbrev gB:=@info_parts
abbrev gD:=@List.mem_range
abbrev gF:=@Nat.eq_zero_or_pos
abbrev gG:=@List.mem_append_left
abbrev gI:=@Option.map_eq_some_iff
abbrev gM:=@List.length_pos_iff
abbrev gN:=@ByteArray.toList_eq
abbrev gU:=@Bool.or_eq_true
abbrev gW:=@Below.drew
abbrev gX:=@World.size_alloc
abbrev gY:=@Array.getD_eq_getD_getElem?
abbrev iw:=@List.drop_eq_nil_of_le
abbrev iy:=@Bool.or_eq_true_iff
abbrev iA:=@List.flatMap_append
abbrev iC:=@Exit.noGoto_ret
abbrev iD:=@Bool.eq_iff_iff
abbrev iG:=@Ne.symm
abbrev iH:=@World.cell?_setCell_other
abbrev iO:=@ready_mono
abbrev iP:=@List.getElem?_take
abbrev iT:=@List.mem_map
abbrev je:=@Nat.add_sub_cancel_left
abbrev jE:=@Array.any_eq_true'
abbrev jF:=@List.takeWhile_cons_of_pos
abbrev jG:=@List.dropWhile_cons_of_pos
abbrev jQ:=@beq_false_of_ne
abbrev jZ:=@List.take_succ_eq_append_getElem
abbrev ko:=@Array.setIfInBounds_comm
abbrev kK:=@List.dropWhile_cons
abbrev kV:=@mem_ready
abbrev kX:=@List.mem_flatMap
abbrev kY:=@List.take_length
abbrev kZ:=@List.not_mem_nil
abbrev lg:=@decide_eq_false_iff_not
abbrev lX:=@List.findIdx?_cons
abbrev lY:=@List.take_of_length_le
abbrev mr:=@Int.natCast_add
abbrev mD:=@List.find?_cons
abbrev mE:=@Option.map_some
abbrev mF:=@Nat.not_lt_zero
abbrev mG:=@Array.getElem?_setIfInBounds
abbrev mJ:=@false_and
abbrev mQ:=@List.getElem?_map
abbrev nR:=@if_false
abbrev nS:=@List.drop_take
abbrev nT:=@List.take_zero
abbrev nU:=@Region.noSelect_spec
abbrev og:=@Region.free_spec
abbrev oh:=@List.filter_cons
abbrev oL:=@List.getElem_of_mem
abbrev pO:=@List.head?_dropWhile_not
abbrev pQ:=@List.map_append
abbrev pY:=@List.getElem?_drop
abbrev qQ:=@decide_eq_true
abbrev qR:=@run_underlying
abbrev qU:=@decide_eq_true_eq
abbrev qV:=@MapKept.run_getObj_map
abbrev qW:=@Array.getElem?_eq_none
abbrev rX:=@List.any_eq_true
abbrev sj:=@if_true
abbrev tN:=@List.pairwise_append
abbrev uR:=@Nat.sub_self
abbrev uS:=@Nat.ne_of_lt
abbrev wL:=@List.pairwise_cons
abbrev wM:=@Array.getElem?_eq_some_iff
abbrev yF:=@Result.andThen_ok
abbrev yM:=@List.getElem?_take_of_lt
abbrev yN:=@World.setCell_alloc_past
end Go.Proofs
namespace Go.Proofs.YtdkpkpgpphkljaaGreatDoor
section
open Go.RowKit
variable{p:Addr}{B b base n:Nat}{a w w1 w':World}{v:Value}{S:Nat→Prop}{e:TypeId}
theorem au{p:Prop}(h:p):Hid p:=h
theorem sG(h:Below B a w)(n:Nat):Below B a (w.drewN n):=h.trans ⟨rfl,rfl,rfl,aj _,fun _ _=>rfl⟩
theorem aI7{W:World}(hb:Below W.heap.size W w1):(∀ b o,b<W.heap.size→w1.cell? ⟨b,o,none⟩=W.cell? ⟨b,o,none⟩)∧(∀ b o,b<W.heap.size→w1.frozen? ⟨b,o,none⟩=W.frozen? ⟨b,o,none⟩) :=
 ⟨fun b o h=>hb.cell (p:=⟨b,o,none⟩) h,fun b o h=>hb.frozen (p:=⟨b,o,none⟩) h⟩
theorem pU(hb:Below w.heap.size w w1){o:Nat}(hl:b<w.heap.size)(h:w.cell? ⟨b,o,none⟩=some v):w1.cell? ⟨b,o,none⟩=some v :=
 ((aI7 hb).1 b o hl).trans h
def bs(s:ByteArray):ah:=s.data.toList
theorem eZ(s:ByteArray):(bs s).length=s.size:=by cases s;simp[bs,ByteArray.size]
theorem jJ{a b:ByteArray}(h:bs a=bs b):a=b:=by
 cases a with
 | mk x =>
  cases b with
  | mk y=>unfold bs at h;simp at h;rw[h]
theorem tY(a b:ByteArray):bs (a++b)=bs a++bs b:=by
 unfold bs;rw[ByteArray.data_append,Array.toList_append]
theorem qf(s:ByteArray)(a b:Nat):bs (s.extract a b)=((bs s).take b).drop a:=by
 unfold bs;rw[Lib.extract_data,nS]
theorem yO(s:ByteArray)(a:Nat):bs (s.extract a s.size)=(bs s).drop a:=Lib.extract_to_end s a
theorem DI(s:ByteArray)(a:Nat):bs (s.extract 0 a)=(bs s).take a:=by
 unfold bs;rw[Lib.extract_data];simp
def ba(l:ah):ByteArray:=⟨l.toArray⟩
theorem kQ(l:ah):bs (ba l)=l:=by simp[bs,ba]
theorem Fp(s:ByteArray):ba (bs s)=s:=jJ (kQ _)
theorem iW(l:ah):(ba l).size=l.length:=by simp[ba,ByteArray.size]
structure Kp(S:Nat→Prop)(w w':World):Prop where
 os:w'.os=w.os
 tape:w'.tape=w.tape
 output:w'.output=w.output
 size:w.heap.size≤w'.heap.size
 block:∀ k,k<w.heap.size→¬ S k→w'.heap[k]?=w.heap[k]?
theorem Kp.refl(S:Nat→Prop)(w:World):Kp S w w:=⟨rfl,rfl,rfl,aj _,fun _ _ _=>rfl⟩
theorem Kp.trans{S T:Nat→Prop}{a b c:World}(h:Kp S a b)(k:Kp T b c)(hT:∀ i,i<a.heap.size→T i→S i):Kp S a c :=
 ⟨k.os.trans h.os,k.tape.trans h.tape,k.output.trans h.output,bS h.size k.size,fun i hi hn=>(k.block i (aH hi h.size) (fun ht=>hn (hT i hi ht))).trans (h.block i hi hn)⟩
theorem Kp.mono{T:Nat→Prop}{b:World}(h:Kp S a b)(hT:∀ i,i<a.heap.size→S i→T i):Kp T a b :=
 ⟨h.os,h.tape,h.output,h.size,fun i hi hn=>h.block i hi (fun hs=>hn (hT i hi hs))⟩
theorem Kp.drew{S:Nat→Prop}{a w:World}(h:Kp S a w):Kp S a w.drew:=⟨h.os,h.tape,h.output,h.size,h.block⟩
theorem Kp.alloc{S:Nat→Prop}{a w:World}(h:Kp S a w)(o:Obj):Kp S a (w.alloc o) :=
 ⟨h.os,h.tape,h.output,bS h.size (by simp),fun k hk hn=>(Below.heap_alloc w o k (aH hk h.size)).trans (h.block k hk hn)⟩
theorem Kp.setCell{S:Nat→Prop}{a w:World}(h:Kp S a w){p:Addr}(hp:p.block<a.heap.size→S p.block)(u:Value):Kp S a (w.setCell p u) :=
 ⟨h.os,h.tape,h.output,by simpa [World.setCell] using h.size,fun k hk hn=>(Below.heap_setCell w p u k (fun e=>hn (e ▸ hp (e ▸ hk)))).trans (h.block k hk hn)⟩
theorem Kp.grown{row:Option Nat}(h:Kp S a w)(hg:w.grownBy w' row)(hr:∀ k,row=some k→k<a.heap.size→S k):Kp S a w' :=
 ⟨hg.os.trans h.os,hg.tape.trans h.tape,hg.output.trans h.output,bS h.size hg.size,fun k hk hn=>(hg.block k (aH hk h.size) (fun e=>hn (hr k e.symm hk))).trans (h.block k hk hn)⟩
theorem Kp.below(h:Kp S w w')(hB:B≤w.heap.size)(hS:∀ k,S k→B≤k):Below B w w' :=
 ⟨h.os,h.tape,h.output,h.size,fun k hk=>h.block k (aH hk hB) (fun hs=>by have:=hS k hs;omega)⟩
theorem Kp.aI(h:Below w.heap.size w w')(S:Nat→Prop):Kp S w w':=⟨h.os,h.tape,h.output,h.size,fun k hk _=>h.block k hk⟩
theorem Kp.Pt(h:Below B w w')(hS:∀ k,B≤k→k<w.heap.size→S k):Kp S w w' :=
 ⟨h.os,h.tape,h.output,h.size,fun k hk hn=>h.block k (by rcases bE k B with h1|h1;exact h1;exact absurd (hS k h1 hk) hn)⟩
theorem Kp.cell(h:Kp S w w')(hp:p.block<w.heap.size)(hn:¬ S p.block):w'.cell? p=w.cell? p:=aN (w:=w) (h.block p.block hp hn)
theorem Kp.dY(h:Kp S w w')(hc:w.cell? p=some v)(hn:¬ S p.block):w'.cell? p=some v :=
 (h.cell (bG w p hc) hn).trans hc
theorem aP{o:Obj}(h:w.heap[b]?=some o):b<w.heap.size:=by
 rcases bE b w.heap.size with h'|h'
 ·exact h'
 ·simp[qW h'] at h
theorem Kp.heap{S:Nat→Prop}{w w':World}(h:Kp S w w'){b:Nat}{o:Obj}(hb:w.heap[b]?=some o)(hn:¬ S b):w'.heap[b]?=some o :=
 (h.block b (aP hb) hn).trans hb
theorem Kp.owns(h:Kp S w w'){size:Nat}{xs:List Value}(ho:w.ownsRow base e size v n xs)(hn:∀ k,v.ownBlock=some k→¬ S k):w'.ownsRow base e size v n xs:=by
 refine⟨ho.1,?_⟩;rcases ho.2 with hn'|⟨g,cap,cur,rfl,hb,hgg,rest⟩
 ·exact .inl hn'
 ·exact .inr ⟨g,cap,cur,rfl,hb,h.heap hgg (hn g (by simp[Value.ownBlock])),rest⟩
end
section
open Go.RowKit
variable{w w':World}{b:Nat}{x:ah}{O O':Nat→Prop}
variable{β:Nat}
inductive ku(β:Nat)(w:World):Nat→ah→Prop
 | leaf (b:Nat) (x:ah) (h:w.heap[b]?=some (.cells #[.int .i64 x.length,.string (ba x),.pointer none,.pointer none] 200 (0,0))) (hz:x.length≤20000) (hB:β≤b):ku β w b x
 | node (b l r:Nat) (x y t:ah) (h:w.heap[b]?=some (.cells #[.int .i64 ((x++y).length:Nat),.string (ba t),.pointer (some ⟨l,0,none⟩),.pointer (some ⟨r,0,none⟩)] 200 (0,0))) (ht:t=[]∨t=x++y) (hx:ku β w l x) (hy:ku β w r y) (nx:x≠[]) (ny:y≠[]) (hz:(x++y).length≤20000) (hB:β≤b):ku β w b (x++y)
theorem ku.inj{y:ah}(h:ku β w b x)(h':ku β w b y):x=y:=by
 induction h generalizing y with
 | leaf b x h hz =>
  cases h' with
  | leaf _ _ h2 hz2 =>
   rw[h] at h2;injection h2 with h2;injection h2 with h2;injection h2 with h2;injection h2 with _ h3;injection h3 with h3 _;injection h3 with h3;rw[← kQ x,← kQ y,h3]
  | node _ l r x' y' t h2=>exact absurd (h.symm.trans h2) (by simp)
 | node b l r x1 x2 t h ht hx hy nx ny hz hB ih1 ih2 =>
  cases h' with
  | leaf _ _ h2 hz2=>exact absurd (h.symm.trans h2) (by simp)
  | node _ l' r' x' y' t' h2 ht' hx' hy' =>
   rw[h] at h2;injection h2 with h2;injection h2 with h2;injection h2 with h2;injection h2 with _ h3;injection h3 with _ h4;injection h4 with h4 h5;injection h5 with h5 _;injection h4 with h4;injection h5 with h5;injection h4 with h4;injection h5 with h5;injection h4 with h4 _;injection h5 with h5 _;subst h4 h5;rw[ih1 hx',ih2 hy']
theorem ku.lt(h:ku β w b x):b<w.heap.size:=by
 cases h with
 | leaf _ _ h=>exact aP h
 | node _ _ _ _ _ _ h=>exact aP h
theorem ku.le(h:ku β w b x):x.length≤20000:=by
 cases h with
 | leaf _ _ h hz=>exact hz
 | node _ _ _ _ _ _ h _ _ _ _ _ hz=>exact hz
theorem ku.base(h:ku β w b x):β≤b:=by
 cases h with
 | leaf _ _ _ _ hB=>exact hB
 | node _ _ _ _ _ _ _ _ _ _ _ _ _ hB=>exact hB
theorem ku.keep(hk:∀(b:Nat) (c:Array Value),w.heap[b]?=some (.cells c 200 (0,0))→w'.heap[b]?=some (.cells c 200 (0,0)))(h:ku β w b x):ku β w' b x:=by
 induction h with
 | leaf b x h hz hB=>exact .leaf b x (hk _ _ h) hz hB
 | node b l r x y t h ht hx hy nx ny hz hB ih1 ih2=>exact .node b l r x y t (hk _ _ h) ht ih1 ih2 nx ny hz hB
theorem ku.turn{b0 l0 r0:Nat}{z:ah}{n0:Int}{t0:ByteArray}(h0:w.heap[b0]?=some (.cells #[.int .i64 n0,.string t0,.pointer (some ⟨l0,0,none⟩),.pointer (some ⟨r0,0,none⟩)] 200 (0,0)))(hz:ku β w b0 z)(t:ah)(ht:t=[]∨t=z)(h:ku β w b x):ku β (w.setCell ⟨b0,1,none⟩ (.string (ba t))) b x:=by
 have qH:∀ q,q≠b0→(w.setCell ⟨b0,1,none⟩ (.string (ba t))).heap[q]?=w.heap[q]?:=fun q hq=>by simp[World.setCell,aK,hq.symm]
 induction h with
 | leaf b x h hx hB =>
  by_cases hb:b=b0
  ·subst hb;exact absurd (h0.symm.trans h) (by simp)
  ·exact .leaf b x ((qH b hb).trans h) hx hB
 | node b l r x y t1 h ht1 hx hy nx ny hlen hB ih1 ih2 =>
  by_cases hb:b=b0
  ·subst hb
   have e:x++y=z:=ku.inj (.node b l r x y t1 h ht1 hx hy nx ny hlen hB) hz;refine .node b l r x y t ?_ (by rw[e];exact ht) ih1 ih2 nx ny hlen hB;simp[World.setCell,aK,h]
  ·exact .node b l r x y t1 ((qH b hb).trans h) ht1 ih1 ih2 nx ny hlen hB
structure Kv(β:Nat)(O O':Nat→Prop)(w w':World):Prop where
 kp:Kp (fun q=>O q∨(β≤q∧∃ c f,w.heap[q]?=some (.cells c 200 f))) w w'
 wd:∀ b x,ku β w b x→ku β w' b x
 ow:∀ q,q<w.heap.size→O' q→O q
theorem Kv.refl(O:Nat→Prop)(w:World):Kv β O O w w:=⟨Kp.refl _ w,fun _ _ h=>h,fun _ _ h=>h⟩
theorem Kv.trans{O O' O2:Nat→Prop}{a b c:World}(h:Kv β O O' a b)(k:Kv β O' O2 b c):Kv β O O2 a c:=by
 refine⟨h.kp.trans k.kp (fun i hi ht=>?_),fun b x hx=>k.wd b x (h.wd b x hx),fun q hq ho=>h.ow q hq (k.ow q (aH hq h.kp.size) ho)⟩;rcases ht with ht|⟨hB,cs,f,ht⟩
 ·exact .inl (h.ow i hi ht)
 ·by_cases hs:O i∨(β≤i∧∃ c f,a.heap[i]?=some (.cells c 200 f))
  ·exact hs
  ·rw[h.kp.block i hi hs] at ht
   exact absurd (.inr ⟨hB,cs,f,ht⟩) hs
theorem Kv.aI{O:Nat→Prop}{w w':World}(h:Below w.heap.size w w'):Kv β O O w w' :=
 ⟨Kp.aI h _,fun _ _ hx=>hx.keep (fun b _ hb=>(h.block b (aP hb)).trans hb),fun _ _ h=>h⟩
theorem Kv.PK(h:Kp O w w')(ho:∀ q,O q→¬ ∃ c f,w.heap[q]?=some (.cells c 200 f))(hw:∀ q,q<w.heap.size→O' q→O q):Kv β O O' w w' :=
 ⟨h.mono (fun _ _ h=>.inl h),fun _ _ hx=>hx.keep (fun b c hb=>h.heap hb (fun e=>ho b e ⟨c,_,hb⟩)),hw⟩
theorem Kv.heap{O O':Nat→Prop}{w w':World}(h:Kv β O O' w w'){b:Nat}{c:Array Value}{t:TypeId}{f:Nat × Nat}(hb:w.heap[b]?=some (.cells c t f))(hn:¬ O b)(ht:t≠200):w'.heap[b]?=some (.cells c t f) :=
 h.kp.heap hb (fun e=>by
  rcases e with e|⟨-,c',f',e⟩
  ·exact hn e
  ·rw[hb] at e;injection e with e;injection e with _ e _;exact ht e)
theorem Kv.own(h:Kv β O O' w w'){o:Obj}(hb:w.heap[b]?=some o)(hn:¬ O b):¬ O' b:=fun e=>hn (h.ow b (aP hb) e)
end
namespace X
abbrev Tok:=Nat × ah
inductive Part where
 | leaf (k:Nat) (x:ah)
 | miss (m:ah)
 | br (k:Nat) (ps:List Part)
abbrev R:=List Tok→List Part × List Tok
def quiet(t:Tok):Bool:=t.1==1||t.1==2
def iE(ts:List Tok):Option Tok:=(ts.dropWhile quiet).head?
def bJ(ts:List Tok):Nat:=match iE ts with|some t=>t.1|none=>0
def bX(s:ah)(ts:List Tok):Bool:=match iE ts with|some t=>(t.1==4||t.1==7)&&t.2==s|none=>false
def lf(t:Tok):Part:=.leaf t.1 t.2
def take:R:=fun ts=>((ts.takeWhile quiet++(ts.dropWhile quiet).take 1).map lf,(ts.dropWhile quiet).drop 1)
def want(s:ah):R:=fun ts=>if bX s ts then take ts else([.miss s],ts)
def fF:ah:=[110,97,109,101]
def lU:ah:=[101,120,112,114,101,115,115,105,111,110]
def aV:R:=fun ts=>if bJ ts==3 then take ts else([.miss fF],ts)
def andThen(f g:R):R:=fun ts=>((f ts).1++(g (f ts).2).1,(g (f ts).2).2)
def node(k:Nat)(f:R):R:=fun ts=>([.br k (f ts).1],(f ts).2)
def fO(one:R):Nat→R
 | 0=>fun ts=>([],ts)
 | n+1=>fun ts=>if bX [44] ts then andThen take (andThen one (fO one n)) ts else([],ts)
def bO(one:R)(e:ah):R:=fun ts=>if bX e ts then want e ts else andThen one (andThen (fun ts=>fO one ts.length ts) (want e)) ts
def params:R:=node 6 (andThen (want [40]) (bO aV [41]))
def fK(one:R)(ok:List Tok→Bool):Nat→List Part→R
 | 0,p=>fun ts=>(p,ts)
 | n+1,p=>fun ts=>if ok ts then fK one ok n [.br 10 (p++(andThen take one ts).1)] (andThen take one ts).2 else(p,ts)
def row(one:R)(ok:List Tok→Bool):R:=fun ts=>fK one ok (one ts).2.length (one ts).1 (one ts).2
def args(E:R):R:=node 12 (andThen take (bO E [41]))
def dW(E:R):Nat→List Part→R
 | 0,p=>fun ts=>(p,ts)
 | n+1,p=>fun ts=>if bX [40] ts then dW E n [.br 11 (p++(args E ts).1)] (args E ts).2 else(p,ts)
def part(E:R):R:=fun ts =>
 if bJ ts==5 then node 15 take ts
 else if bJ ts==6 then node 16 take ts
 else if bX [116,114,117,101] ts||bX [102,97,108,115,101] ts then node 17 take ts
 else if bJ ts==3 then node 18 take ts
 else if bX [63] ts then node 19 take ts
 else if bX [40] ts then node 14 (andThen take (andThen E (want [41]))) ts
 else if bX [91] ts then node 13 (andThen take (bO E [93])) ts
 else([.miss lU],ts)
def call(E:R):R:=fun ts=>dW E (part E ts).2.length (part E ts).1 (part E ts).2
def product(E:R):R:=row (call E) (bX [42])
def sum(E:R):R:=row (product E) (fun ts=>bX [43] ts||bX [45] ts||bX [43,43] ts)
def comparison(E:R):R:=fun ts =>
 if bX [61,61] (sum E ts).2||bX [60] (sum E ts).2 then([.br 10 ((sum E ts).1++(andThen take (sum E) (sum E ts).2).1)],(andThen take (sum E) (sum E ts).2).2) else sum E ts
def expr:Nat→R
 | 0=>fun ts=>([.miss lU],ts)
 | n+1=>fun ts =>
  if bX [108,101,116] ts then node 7 (andThen take (andThen aV (andThen (want [61]) (andThen (expr n) (andThen (want [105,110]) (expr n)))))) ts
  else if bX [105,102] ts then node 8 (andThen take (andThen (expr n) (andThen (want [116,104,101,110]) (andThen (expr n) (andThen (want [101,108,115,101]) (expr n)))))) ts
  else if bX [102,117,110] ts then node 9 (andThen take (andThen params (andThen (want [61,62]) (expr n)))) ts
  else comparison (expr n) ts
def iN:ah:=[117,115,101]
def jN:ah:=[112,117,98]
def kE:ah:=[100,101,102]
def starts(ts:List Tok):Bool:=bX iN ts||bX jN ts||bX kE ts
def fM:Nat→R
 | 0=>fun ts=>([],ts)
 | n+1=>fun ts=>if bJ ts==0||starts ts then([],ts) else if bX [59] ts then take ts else andThen take (fM n) ts
def bW:R:=fun ts=>if bX jN ts then take ts else([],ts)
def jA:R:=andThen (want iN) (andThen aV (andThen (want [46]) (andThen aV (andThen (fun ts=>if bX [97,115] ts then andThen take aV ts else([],ts)) (want [59])))))
def jr:R:=andThen (want kE) (andThen aV (andThen (fun ts=>if bX [40] ts then params ts else([],ts)) (andThen (want [61]) (andThen (expr 65) (want [59])))))
def kid(ts:List Tok):Nat × List Part × List Tok :=
 if starts ts then
  if bX iN (bW ts).2 then(3,andThen bW jA ts) else(4,andThen bW jr ts)
 else(5,fM ts.length ts)
def lI:Nat→List Tok→List Part
 | 0,ts=>ts.map lf
 | n+1,ts=>if bJ ts==0 then ts.map lf else .br (kid ts).1 (kid ts).2.1::lI n (kid ts).2.2
def file(ts:List Tok):Part:=.br 2 (lI ts.length ts)
def tb(ts:List Tok):ah:=ts.flatMap (·.2)
mutual
def pb:Part→ah
 | .leaf _ x=>x
 | .miss _=>[]
 | .br _ ps=>nN ps
def nN:List Part→ah
 | []=>[]
 | p::ps=>pb p++nN ps
end
theorem pG(l r:List Part):nN (l++r)=nN l++nN r:=by
 induction l with
 | nil=>rfl
 | cons p l ih=>rw[dx,nN,ih,nN,aA]
theorem J5(ts:List Tok):nN (ts.map lf)=tb ts:=by
 induction ts with
 | nil=>rfl
 | cons t ts ih=>rw[fQ,nN,ih];rfl
theorem Nw(l r:List Tok):tb (l++r)=tb l++tb r:=iA
def bC(f:R):Prop:=∀ ts,nN (f ts).1++tb (f ts).2=tb ts
theorem bC.andThen{f g:R}(hf:bC f)(hg:bC g):bC (andThen f g):=by
 intro ts;show nN ((f ts).1++(g (f ts).2).1)++tb (g (f ts).2).2=_;rw[pG,aA,hg,hf]
theorem bC.node{f:R}(hf:bC f)(k:Nat):bC (node k f):=by
 intro ts;show nN [.br k _]++_=_;rw[nN,pb,nN,aJ];exact hf ts
theorem bC.nil:bC (fun ts=>([],ts)):=fun _=>rfl
theorem bC.miss(s:ah):bC (fun ts=>([.miss s],ts)):=fun _=>rfl
theorem bC.ite{f g:R}{c:List Tok→Bool}(hf:bC f)(hg:bC g):bC (fun ts=>if c ts then f ts else g ts):=by
 intro ts;show nN (if c ts then f ts else g ts).1++tb (if c ts then f ts else g ts).2=_
 split
 ·exact hf ts
 ·exact hg ts
theorem bC.take:bC take:=by
 intro ts;show nN (List.map lf (ts.takeWhile quiet++(ts.dropWhile quiet).take 1))++tb ((ts.dropWhile quiet).drop 1)=_;rw[J5,← Nw,aA,dA,dZ]
theorem bC.want(s:ah):bC (want s):=bC.ite (c:=bX s) bC.take (bC.miss s)
theorem bC.aV:bC aV:=bC.ite (c:=fun ts=>bJ ts==3) bC.take (bC.miss fF)
theorem bC.fO{one:R}(h:bC one):∀ n,bC (fO one n)
 | 0=>bC.nil
 | n+1=>bC.ite (c:=bX [44]) (bC.take.andThen (h.andThen (bC.fO h n))) bC.nil
theorem bC.bO{one:R}(h:bC one)(e:ah):bC (bO one e) :=
 bC.ite (c:=bX e) (bC.want e) (h.andThen (bC.andThen (fun ts=>bC.fO h ts.length ts) (bC.want e)))
theorem bC.params:bC params:=((bC.want _).andThen (bC.aV.bO _)).node 6
theorem bC.fK{one:R}{ok:List Tok→Bool}(h:bC one):∀(n:Nat) (p:List Part) (ts:List Tok),nN (fK one ok n p ts).1++tb (fK one ok n p ts).2=nN p++tb ts
 | 0,p,ts=>rfl
 | n+1,p,ts=>by
  unfold X.fK
  split
  ·rw[bC.fK h n,nN,pb,nN,aJ,pG,aA,(bC.take.andThen h) ts]
  ·rfl
theorem bC.row{one:R}{ok:List Tok→Bool}(h:bC one):bC (row one ok):=fun ts=>(bC.fK h _ _ _).trans (h ts)
theorem bC.args{E:R}(h:bC E):bC (args E):=(bC.take.andThen (h.bO _)).node 12
theorem bC.dW{E:R}(h:bC E):∀(n:Nat) (p:List Part) (ts:List Tok),nN (dW E n p ts).1++tb (dW E n p ts).2=nN p++tb ts
 | 0,p,ts=>rfl
 | n+1,p,ts=>by
  unfold X.dW
  split
  ·rw[bC.dW h n,nN,pb,nN,aJ,pG,aA,(bC.args h) ts]
  ·rfl
theorem bC.part{E:R}(h:bC E):bC (part E) :=
 bC.ite (c:=fun ts=>bJ ts==5) (bC.take.node _) <|
 bC.ite (c:=fun ts=>bJ ts==6) (bC.take.node _) <|
 bC.ite (c:=fun ts=>bX [116,114,117,101] ts||bX [102,97,108,115,101] ts) (bC.take.node _) <|
 bC.ite (c:=fun ts=>bJ ts==3) (bC.take.node _) <|
 bC.ite (c:=bX [63]) (bC.take.node _) <|
 bC.ite (c:=bX [40]) ((bC.take.andThen (h.andThen (bC.want _))).node _) <|
 bC.ite (c:=bX [91]) ((bC.take.andThen (h.bO _)).node _) (bC.miss _)
theorem bC.call{E:R}(h:bC E):bC (call E):=fun ts=>(bC.dW h _ _ _).trans (bC.part h ts)
theorem bC.product{E:R}(h:bC E):bC (product E):=h.call.row
theorem bC.sum{E:R}(h:bC E):bC (sum E):=h.product.row
theorem bC.comparison{E:R}(h:bC E):bC (comparison E):=by
 intro ts;unfold X.comparison
 split
 ·rw[nN,pb,nN,aJ,pG,aA,(bC.take.andThen h.sum),h.sum ts]
 ·exact h.sum ts
theorem bC.expr:∀ n,bC (expr n)
 | 0=>bC.miss _
 | n+1 =>
  have h:=bC.expr n
  bC.ite (c:=bX [108,101,116]) ((bC.take.andThen (bC.aV.andThen ((bC.want _).andThen (h.andThen ((bC.want _).andThen h))))).node _) <|
  bC.ite (c:=bX [105,102]) ((bC.take.andThen (h.andThen ((bC.want _).andThen (h.andThen ((bC.want _).andThen h))))).node _) <|
  bC.ite (c:=bX [102,117,110]) ((bC.take.andThen (bC.params.andThen ((bC.want _).andThen h))).node _) h.comparison
theorem bC.fM:∀ n,bC (fM n)
 | 0=>bC.nil
 | n+1=>bC.ite (c:=fun ts=>bJ ts==0||starts ts) bC.nil (bC.ite (c:=bX [59]) bC.take (bC.take.andThen (bC.fM n)))
theorem bC.bW:bC bW:=bC.ite (c:=bX jN) bC.take bC.nil
theorem bC.jA:bC jA :=
 (bC.want _).andThen (bC.aV.andThen ((bC.want _).andThen (bC.aV.andThen ((bC.ite (c:=bX [97,115]) (bC.take.andThen bC.aV) bC.nil).andThen (bC.want _)))))
theorem bC.jr:bC jr :=
 (bC.want _).andThen (bC.aV.andThen ((bC.ite (c:=bX [40]) bC.params bC.nil).andThen ((bC.want _).andThen ((bC.expr 65).andThen (bC.want _)))))
theorem Ny(ts:List Tok):nN (kid ts).2.1++tb (kid ts).2.2=tb ts:=by
 unfold kid
 split
 ·split
  ·exact(bC.bW.andThen bC.jA) ts
  ·exact(bC.bW.andThen bC.jr) ts
 ·exact bC.fM _ ts
theorem v_:∀(n:Nat) (ts:List Tok),nN (lI n ts)=tb ts
 | 0,ts=>J5 ts
 | n+1,ts=>by
  unfold lI
  split
  ·exact J5 ts
  ·rw[nN,pb,v_ n,Ny]
theorem q9(ts:List Tok):pb (file ts)=tb ts:=v_ _ ts
end X
namespace X
mutual
def pl:Part→List Tok
 | .leaf k x=>[(k,x)]
 | .miss _=>[]
 | .br _ ps=>r9 ps
def r9:List Part→List Tok
 | []=>[]
 | p::ps=>pl p++r9 ps
end
theorem o9(l r:List Part):r9 (l++r)=r9 l++r9 r:=by
 induction l with
 | nil=>rfl
 | cons p l ih=>rw[dx,r9,ih,r9,aA]
theorem IU(ts:List Tok):r9 (ts.map lf)=ts:=by
 induction ts with
 | nil=>rfl
 | cons t ts ih=>rw[fQ,r9,ih];rfl
def fC(f:R):Prop:=∀ ts,r9 (f ts).1++(f ts).2=ts
theorem fC.andThen{f g:R}(hf:fC f)(hg:fC g):fC (andThen f g):=by
 intro ts;show r9 ((f ts).1++(g (f ts).2).1)++(g (f ts).2).2=_;rw[o9,aA,hg,hf]
theorem fC.node{f:R}(hf:fC f)(k:Nat):fC (node k f):=by
 intro ts;show r9 [.br k _]++_=_;rw[r9,pl,r9,aJ];exact hf ts
theorem fC.nil:fC (fun ts=>([],ts)):=fun _=>rfl
theorem fC.miss(s:ah):fC (fun ts=>([.miss s],ts)):=fun _=>rfl
theorem fC.ite{f g:R}{c:List Tok→Bool}(hf:fC f)(hg:fC g):fC (fun ts=>if c ts then f ts else g ts):=by
 intro ts;show r9 (if c ts then f ts else g ts).1++(if c ts then f ts else g ts).2=_
 split
 ·exact hf ts
 ·exact hg ts
theorem fC.take:fC take:=by
 intro ts;show r9 (List.map lf (ts.takeWhile quiet++(ts.dropWhile quiet).take 1))++((ts.dropWhile quiet).drop 1)=_;rw[IU,aA,dA,dZ]
theorem fC.want(s:ah):fC (want s):=fC.ite (c:=bX s) fC.take (fC.miss s)
theorem fC.aV:fC aV:=fC.ite (c:=fun ts=>bJ ts==3) fC.take (fC.miss fF)
theorem fC.fO{one:R}(h:fC one):∀ n,fC (fO one n)
 | 0=>fC.nil
 | n+1=>fC.ite (c:=bX [44]) (fC.take.andThen (h.andThen (fC.fO h n))) fC.nil
theorem fC.bO{one:R}(h:fC one)(e:ah):fC (bO one e) :=
 fC.ite (c:=bX e) (fC.want e) (h.andThen (fC.andThen (fun ts=>fC.fO h ts.length ts) (fC.want e)))
theorem fC.params:fC params:=((fC.want _).andThen (fC.aV.bO _)).node 6
theorem fC.fK{one:R}{ok:List Tok→Bool}(h:fC one):∀(n:Nat) (p:List Part) (ts:List Tok),r9 (fK one ok n p ts).1++(fK one ok n p ts).2=r9 p++ts
 | 0,p,ts=>rfl
 | n+1,p,ts=>by
  unfold X.fK
  split
  ·rw[fC.fK h n,r9,pl,r9,aJ,o9,aA,(fC.take.andThen h) ts]
  ·rfl
theorem fC.row{one:R}{ok:List Tok→Bool}(h:fC one):fC (row one ok):=fun ts=>(fC.fK h _ _ _).trans (h ts)
theorem fC.args{E:R}(h:fC E):fC (args E):=(fC.take.andThen (h.bO _)).node 12
theorem fC.dW{E:R}(h:fC E):∀(n:Nat) (p:List Part) (ts:List Tok),r9 (dW E n p ts).1++(dW E n p ts).2=r9 p++ts
 | 0,p,ts=>rfl
 | n+1,p,ts=>by
  unfold X.dW
  split
  ·rw[fC.dW h n,r9,pl,r9,aJ,o9,aA,(fC.args h) ts]
  ·rfl
theorem fC.part{E:R}(h:fC E):fC (part E) :=
 fC.ite (c:=fun ts=>bJ ts==5) (fC.take.node _) <|
 fC.ite (c:=fun ts=>bJ ts==6) (fC.take.node _) <|
 fC.ite (c:=fun ts=>bX [116,114,117,101] ts||bX [102,97,108,115,101] ts) (fC.take.node _) <|
 fC.ite (c:=fun ts=>bJ ts==3) (fC.take.node _) <|
 fC.ite (c:=bX [63]) (fC.take.node _) <|
 fC.ite (c:=bX [40]) ((fC.take.andThen (h.andThen (fC.want _))).node _) <|
 fC.ite (c:=bX [91]) ((fC.take.andThen (h.bO _)).node _) (fC.miss _)
theorem fC.call{E:R}(h:fC E):fC (call E):=fun ts=>(fC.dW h _ _ _).trans (fC.part h ts)
theorem fC.product{E:R}(h:fC E):fC (product E):=h.call.row
theorem fC.sum{E:R}(h:fC E):fC (sum E):=h.product.row
theorem fC.comparison{E:R}(h:fC E):fC (comparison E):=by
 intro ts;unfold X.comparison
 split
 ·rw[r9,pl,r9,aJ,o9,aA,(fC.take.andThen h.sum),h.sum ts]
 ·exact h.sum ts
theorem fC.expr:∀ n,fC (expr n)
 | 0=>fC.miss _
 | n+1 =>
  have h:=fC.expr n
  fC.ite (c:=bX [108,101,116]) ((fC.take.andThen (fC.aV.andThen ((fC.want _).andThen (h.andThen ((fC.want _).andThen h))))).node _) <|
  fC.ite (c:=bX [105,102]) ((fC.take.andThen (h.andThen ((fC.want _).andThen (h.andThen ((fC.want _).andThen h))))).node _) <|
  fC.ite (c:=bX [102,117,110]) ((fC.take.andThen (fC.params.andThen ((fC.want _).andThen h))).node _) h.comparison
theorem fC.fM:∀ n,fC (fM n)
 | 0=>fC.nil
 | n+1=>fC.ite (c:=fun ts=>bJ ts==0||starts ts) fC.nil (fC.ite (c:=bX [59]) fC.take (fC.take.andThen (fC.fM n)))
theorem fC.bW:fC bW:=fC.ite (c:=bX jN) fC.take fC.nil
theorem fC.jA:fC jA :=
 (fC.want _).andThen (fC.aV.andThen ((fC.want _).andThen (fC.aV.andThen ((fC.ite (c:=bX [97,115]) (fC.take.andThen fC.aV) fC.nil).andThen (fC.want _)))))
theorem fC.jr:fC jr :=
 (fC.want _).andThen (fC.aV.andThen ((fC.ite (c:=bX [40]) fC.params fC.nil).andThen ((fC.want _).andThen ((fC.expr 65).andThen (fC.want _)))))
theorem DK(ts:List Tok):r9 (kid ts).2.1++(kid ts).2.2=ts:=by
 unfold kid
 split
 ·split
  ·exact(fC.bW.andThen fC.jA) ts
  ·exact(fC.bW.andThen fC.jr) ts
 ·exact fC.fM _ ts
theorem zO:∀(n:Nat) (ts:List Tok),r9 (lI n ts)=ts
 | 0,ts=>IU ts
 | n+1,ts=>by
  unfold lI
  split
  ·exact IU ts
  ·rw[r9,pl,zO n,DK]
theorem Pv(ts:List Tok):pl (file ts)=ts:=zO _ ts
end X
section
namespace E
inductive St where
 | int (n:Int)
 | mH (b:Bool)
 | txt (x:ah)
 | Ih (d:Int × Int)
 | loc (up ix:Nat)
 | stk
 | vis (d:Int × Int)
 | enc (n:Nat) (c:List St)
 | EK (n:Nat)
 | DL (x:ah)
 | DR (n:Nat)
 | bnd
 | DT
 | wQ (t:Nat)
 | Bh (t:Nat)
inductive Bo where
 | d (p:Int × Int)
 | c (n:Nat) (l:List St)
inductive V where
 | int (n:Int)
 | mH (b:Bool)
 | txt (x:ah)
 | list (l:List V)
 | fn (b:Bo) (env:List (List V))
structure Fr where
 c:List St
 nx:Nat
 env:List (List V)
 vs:List V
structure Ms where
 fr:Fr
 bk:List Fr
 fu:Nat
inductive Rs where
 | on (m:Ms)
 | err (e:Nat)
 | fin (v:V)
 | bad
abbrev Cr:=Except Nat V × Nat
abbrev Br:=Except Nat Bool × Nat
mutual
def same:V→V→Nat→Br
 | .int a,.int b,f=>(.ok (a==b),f)
 | .mH a,.mH b,f=>(.ok (a==b),f)
 | .txt a,.txt b,f=>(.ok (a==b),f)
 | .list a,.list b,f=>if a.length=b.length then kR a b f else(.ok false,f)
 | _,_,f=>(.error 10,f)
def kR:List V→List V→Nat→Br
 | a::l,b::r,f=>if f=0 then(.error 11,0) else match same a b (f - 1) with
  | (.ok true,f')=>kR l r f'
  | x=>x
 | _,_,f=>(.ok true,f)
end
def Cc(n:Int):Int:=IntKind.i64.wrap n
def uJ(x:ah)(a b:Int):Option Int :=
 if x=[43] then(if decide (a<Cc (a+b))=decide (0<b) then some (Cc (a+b)) else none)
 else if x=[45] then(if decide (Cc (a - b)<a)=decide (0<b) then some (Cc (a - b)) else none)
 else if a=0∨b=0 then some 0
 else if Cc ((Cc (a*b)).tdiv b)=a∧decide (Cc (a*b)<0)=(decide (a<0) !=decide (b<0)) then some (Cc (a*b)) else none
def comb(x:ah)(l r:V)(f:Nat):Cr :=
 if x=[61,61] then(match same l r f with|(.ok b,f')=>(.ok (.mH b),f')|(.error e,f')=>(.error e,f'))
 else if x=[43,43] then(match l,r with
  | .txt a,.txt b=>if 20000<a.length+b.length then(.error 12,f) else(.ok (.txt (a++b)),f)
  | _,_=>(.error 10,f))
 else match l,r with
  | .int a,.int b=>if x=[60] then(.ok (.mH (decide (a<b))),f) else match uJ x a b with
   | some n=>(.ok (.int n),f)
   | none=>(.error 10,f)
  | _,_=>(.error 10,f)
section
variable(D:Int × Int→Nat × List St)
def g_:Bo→Nat × List St
 | .d p=>D p
 | .c n l=>(n,l)
def push(m:Ms)(v:V):Rs:=if m.fr.vs.length<1073741820 then .on { m with fr:={ m.fr with vs:=m.fr.vs++[v] } } else .bad
def enter(m:Ms)(b:Bo)(env:List (List V)):Rs :=
 if m.bk.length<1073741820∧(g_ D b).2.length≤1073741819 then(if m.fu=0 then .err 11 else .on ⟨⟨(g_ D b).2,0,env,[]⟩,m.bk++[m.fr],m.fu - 1⟩) else .bad
def act(m:Ms):St→Rs
 | .int n=>push m (.int n)
 | .mH b=>push m (.mH b)
 | .txt x=>push m (.txt x)
 | .Ih d=>push m (.fn (.d d) [])
 | .loc up ix=>match m.fr.env[up]? with
  | some b=>match b[ix]? with
   | some v=>push m v
   | none=>.bad
  | none=>.bad
 | .stk=>.err 10
 | .vis d=>enter D m (.d d) []
 | .enc n c=>push m (.fn (.c n c) m.fr.env)
 | .EK n=>if n≤m.fr.vs.length then push { m with fr:={ m.fr with vs:=m.fr.vs.take (m.fr.vs.length - n) } } (.list (m.fr.vs.drop (m.fr.vs.length - n))) else .bad
 | .DL x=>match m.fr.vs[m.fr.vs.length - 2]?,m.fr.vs[m.fr.vs.length - 1]? with
  | some l,some r=>if m.fr.vs.length<2 then .bad else match comb x l r m.fu with
   | (.ok v,f)=>push { m with fr:={ m.fr with vs:=m.fr.vs.take (m.fr.vs.length - 2) },fu:=f } v
   | (.error e,_)=>.err e
  | _,_=>.bad
 | .DR n=>if m.fr.vs.length<n+1 then .bad else match m.fr.vs[m.fr.vs.length - n - 1]? with
  | some (.fn b env)=>if (g_ D b).1=n then enter D { m with fr:={ m.fr with vs:=m.fr.vs.take (m.fr.vs.length - n - 1) } } b (m.fr.vs.drop (m.fr.vs.length - n)::env) else .err 10
  | some _=>.err 10
  | none=>.bad
 | .bnd=>if m.fr.vs.length<1 then .bad else .on { m with fr:={ m.fr with vs:=m.fr.vs.take (m.fr.vs.length - 1),env:=m.fr.vs.drop (m.fr.vs.length - 1)::m.fr.env } }
 | .DT=>match m.fr.env with
  | _::env=>.on { m with fr:={ m.fr with env:=env } }
  | []=>.bad
 | .wQ t=>match m.fr.vs[m.fr.vs.length - 1]? with
  | some (.mH b)=>.on { m with fr:={ m.fr with vs:=m.fr.vs.take (m.fr.vs.length - 1),nx:=if b then m.fr.nx else t } }
  | some _=>.err 10
  | none=>.bad
 | .Bh t=>.on { m with fr:={ m.fr with nx:=t } }
def it(m:Ms):Rs:=match m.fr.c[m.fr.nx]? with
 | some s=>act D { m with fr:={ m.fr with nx:=m.fr.nx+1 } } s
 | none=>match m.fr.vs[m.fr.vs.length - 1]? with
  | none=>.bad
  | some v=>match m.bk.getLast? with
   | none=>.fin v
   | some fr=>push ⟨fr,m.bk.dropLast,m.fu⟩ v
inductive End:Ms→Except Nat V→Nat→Prop
 | fin (m:Ms) (v:V) (h:it D m=.fin v):End m (.ok v) 0
 | err (m:Ms) (e:Nat) (h:it D m=.err e):End m (.error e) 0
 | on (m m':Ms) (r:Except Nat V) (n:Nat) (h:it D m=.on m') (k:End m' r n):End m r (n+1)
end
def Ms.more(m:Ms)(k:Nat):Ms:={ m with fu:=m.fu+k }
mutual
theorem Cg(k:Nat):∀(a b:V) (f:Nat) (x:Bool) (f':Nat),same a b f=(.ok x,f')→same a b (f+k)=(.ok x,f'+k)
 | .int a,b,f,x,f',h=>by cases b<;>simp only[same,dG,reduceCtorEq,mJ] at h ⊢;exact⟨h.1,by omega⟩
 | .mH a,b,f,x,f',h=>by cases b<;>simp only[same,dG,reduceCtorEq,mJ] at h ⊢;exact⟨h.1,by omega⟩
 | .txt a,b,f,x,f',h=>by cases b<;>simp only[same,dG,reduceCtorEq,mJ] at h ⊢;exact⟨h.1,by omega⟩
 | .fn a e,b,f,x,f',h=>by cases b<;>simp only[same,dG,reduceCtorEq,mJ] at h
 | .list a,b,f,x,f',h=>by
  cases b with
  | list b =>
   simp only[same] at h ⊢;by_cases hl:a.length=b.length
   ·rw[aL hl] at h ⊢
    exact zR k a b f x f' h
   ·rw[aG hl] at h ⊢
    simp only[dG] at h ⊢;exact⟨h.1,by omega⟩
  | _=>simp only[same,dG,reduceCtorEq,mJ] at h
theorem zR(k:Nat):∀(a b:List V) (f:Nat) (x:Bool) (f':Nat),kR a b f=(.ok x,f')→kR a b (f+k)=(.ok x,f'+k)
 | [],b,f,x,f',h=>by simp only[kR,dG] at h ⊢;exact⟨h.1,by omega⟩
 | a::l,[],f,x,f',h=>by simp only[kR,dG] at h ⊢;exact⟨h.1,by omega⟩
 | a::l,b::r,f,x,f',h=>by
  simp only[kR] at h ⊢;by_cases h0:f=0
  ·rw[aL h0] at h
   simp only[dG,reduceCtorEq,mJ] at h
  ·rw[aG h0] at h
   rw[aG (by omega)];have e1:f+k - 1=f - 1+k:=by omega
   rw[e1];cases hs:same a b (f - 1) with
   | mk y f1 =>
    rw[hs] at h;cases y with
    | error e=>simp only[dG,reduceCtorEq,mJ] at h
    | ok y =>
     rw[Cg k a b (f - 1) y f1 hs];cases y with
     | false=>simp only[dG] at h ⊢;exact⟨h.1,by omega⟩
     | true=>exact zR k l r f1 x f' h
end
theorem MB(k:Nat)(x:ah)(l r:V)(f:Nat)(v:V)(f':Nat)(h:comb x l r f=(.ok v,f')):comb x l r (f+k)=(.ok v,f'+k):=by
 unfold comb at h ⊢;by_cases h1:x=[61,61]
 ·rw[aL h1] at h ⊢
  cases hs:same l r f with
  | mk y f1 =>
   rw[hs] at h;cases y with
   | error e=>simp only[dG,reduceCtorEq,mJ] at h
   | ok y =>
    rw[Cg k l r f y f1 hs];simp only[dG] at h ⊢;exact⟨h.1,by omega⟩
 ·rw[aG h1] at h ⊢
  by_cases h2:x=[43,43]
  ·rw[aL h2] at h ⊢
   split at h
   ·split at h
    ·simp only[dG,reduceCtorEq,mJ] at h
    ·next h3=>rw[aG h3];simp only[dG] at h ⊢;exact⟨h.1,by omega⟩
   ·simp only[dG,reduceCtorEq,mJ] at h
  ·rw[aG h2] at h ⊢
   split at h
   ·split at h
    ·next h3=>rw[aL h3];simp only[dG] at h ⊢;exact⟨h.1,by omega⟩
    ·next h3 =>
     rw[aG h3]
     split at h
     ·simp only[dG] at h ⊢;exact⟨h.1,by omega⟩
     ·simp only[dG,reduceCtorEq,mJ] at h
   ·simp only[dG,reduceCtorEq,mJ] at h
section
variable{D:Int × Int→Nat × List St}
theorem j4(k:Nat){m m':Ms}{v:V}(h:push m v=.on m'):push (m.more k) v=.on (m'.more k):=by
 unfold push at h ⊢
 split at h
 ·next h1=>cases h;exact aL h1
 ·cases h
theorem zS(k:Nat){m m':Ms}{b:Bo}{env:List (List V)}(h:enter D m b env=.on m'):enter D (m.more k) b env=.on (m'.more k):=by
 unfold enter at h ⊢
 split at h
 ·next h2 =>
  split at h
  ·cases h
  ·next h1 =>
   cases h
   have e:(m.more k).fu=m.fu+k:=rfl;rw[aL (show(m.more k).bk.length<1073741820∧_ from h2),aG (by omega)];show Rs.on _=Rs.on _;congr 1;show Ms.mk _ _ _=Ms.mk _ _ _;congr 1;show m.fu+k - 1=m.fu - 1+k;omega
 ·cases h
theorem PG(k:Nat){m m':Ms}{s:St}(h:act D m s=.on m'):act D (m.more k) s=.on (m'.more k):=by
 cases s with
 | int n=>exact j4 k h
 | mH n=>exact j4 k h
 | txt n=>exact j4 k h
 | Ih n=>exact j4 k h
 | loc up ix =>
  simp only[act] at h ⊢
  split at h
  ·next b hb =>
   split at h
   ·next v hv =>
    have hb':(m.more k).fr.env[up]?=some b:=hb;rw[hb'];dsimp only;rw[hv];exact j4 k h
   ·cases h
  ·cases h
 | stk=>cases h
 | vis d=>exact zS k h
 | enc n c=>exact j4 k h
 | EK n =>
  simp only[act] at h ⊢
  split at h
  ·next h1=>rw[aL (show n≤(m.more k).fr.vs.length from h1)];exact j4 k h
  ·cases h
 | DL x =>
  simp only[act] at h ⊢
  split at h
  ·next l r hl hr =>
   have hl':(m.more k).fr.vs[(m.more k).fr.vs.length - 2]?=some l:=hl;have hr':(m.more k).fr.vs[(m.more k).fr.vs.length - 1]?=some r:=hr;rw[hl',hr'];dsimp only
   split at h
   ·cases h
   ·next h2 =>
    rw[aG (show ¬(m.more k).fr.vs.length<2 from h2)]
    split at h
    ·next v f hc =>
     rw[show(m.more k).fu=m.fu+k from rfl,MB k x l r m.fu v f hc];exact j4 k h
    ·cases h
  ·cases h
 | DR n =>
  simp only[act] at h ⊢
  split at h
  ·cases h
  ·next h1 =>
   rw[aG (show ¬(m.more k).fr.vs.length<n+1 from h1)]
   split at h
   ·next b env hb =>
    have hb':(m.more k).fr.vs[(m.more k).fr.vs.length - n - 1]?=some (.fn b env):=hb;rw[hb'];dsimp only
    split at h
    ·next h2=>rw[aL h2];exact zS k h
    ·cases h
   ·cases h
   ·cases h
 | bnd =>
  simp only[act] at h ⊢
  split at h
  ·cases h
  ·next h1=>cases h;exact aG h1
 | DT =>
  simp only[act] at h ⊢
  split at h
  ·next b env he =>
   cases h
   have he':(m.more k).fr.env=b::env:=he;rw[he'];rfl
  ·cases h
 | wQ t =>
  simp only[act] at h ⊢
  split at h
  ·next b hb =>
   cases h
   have hb':(m.more k).fr.vs[(m.more k).fr.vs.length - 1]?=some (.mH b):=hb;rw[hb'];rfl
  ·cases h
  ·cases h
 | Bh t=>cases h;rfl
theorem Uz(k:Nat){m m':Ms}(h:it D m=.on m'):it D (m.more k)=.on (m'.more k):=by
 unfold it at h ⊢
 split at h
 ·next s hs =>
  have hs':(m.more k).fr.c[(m.more k).fr.nx]?=some s:=hs;rw[hs'];exact PG k h
 ·next hs =>
  have hs':(m.more k).fr.c[(m.more k).fr.nx]?=none:=hs;rw[hs'];dsimp only
  split at h
  ·cases h
  ·next v hv =>
   have hv':(m.more k).fr.vs[(m.more k).fr.vs.length - 1]?=some v:=hv;rw[hv'];dsimp only
   split at h
   ·cases h
   ·next fr hb =>
    have hb':(m.more k).bk.getLast?=some fr:=hb;rw[hb'];exact j4 k h
theorem X_(k:Nat){m:Ms}{v:V}(h:it D m=.fin v):it D (m.more k)=.fin v:=by
 unfold it at h ⊢
 split at h
 ·next s hs =>
  exfalso;have hp:∀(m:Ms) (v':V),push m v'≠.fin v:=fun m v' e=>by unfold push at e;split at e<;>cases e
  have he:∀(m:Ms) (b:Bo) (env:List (List V)),enter D m b env≠.fin v:=fun m b env e=>by unfold enter at e;split at e;split at e<;>cases e;cases e
  cases s<;>simp only[act] at h
  all_goals (repeat' split at h)
  all_goals first
   | exact hp _ _ h
   | exact he _ _ _ h
   | cases h
 ·next hs =>
  have hs':(m.more k).fr.c[(m.more k).fr.nx]?=none:=hs;rw[hs'];dsimp only
  split at h
  ·cases h
  ·next v' hv =>
   have hv':(m.more k).fr.vs[(m.more k).fr.vs.length - 1]?=some v':=hv;rw[hv'];dsimp only
   split at h
   ·next hb =>
    have hb':(m.more k).bk.getLast?=none:=hb;rw[hb'];exact h
   ·exfalso;unfold push at h;split at h<;>cases h
theorem End.more{m:Ms}{r:Except Nat V}{n:Nat}(h:End D m r n)(k:Nat){v:V}(hv:r=.ok v):End D (m.more k) (.ok v) n:=by
 induction h with
 | fin m v' h=>cases hv;exact .fin _ _ (X_ k h)
 | err m e h=>cases hv
 | on m m' r n h _ ih=>exact .on _ _ _ _ (Uz k h) (ih hv)
theorem End.one{m:Ms}{r r':Except Nat V}{n n':Nat}(h:End D m r n)(h':End D m r' n'):r=r':=by
 induction h generalizing n' with
 | fin m v h=>cases h' with
  | fin _ _ k=>rw[h] at k;cases k;rfl
  | err _ _ k=>rw[h] at k;cases k
  | on _ _ _ _ k=>rw[h] at k;cases k
 | err m e h=>cases h' with
  | fin _ _ k=>rw[h] at k;cases k
  | err _ _ k=>rw[h] at k;cases k;rfl
  | on _ _ _ _ k=>rw[h] at k;cases k
 | on m m' r n h _ ih=>cases h' with
  | fin _ _ k=>rw[h] at k;cases k
  | err _ _ k=>rw[h] at k;cases k
  | on _ _ _ _ k k'=>rw[h] at k;cases k;exact ih k'
end
end E
end
section
open E (St Bo V Fr Ms Rs)
section
variable{m m':Ms}{D:Int × Int→Nat × List St}
def Lm(m:Ms):Prop:=m.fr.vs.length<1073741823∧∀ f,f∈m.bk→f.vs.length<1073741823
theorem oD{x:V}(h:Lm m)(e:E.push m x=.on m'):Lm m':=by
 unfold E.push at e
 split at e
 ·cases e
  exact⟨by show(m.fr.vs++[x]).length<_;rw[ak];show _+1<_;omega,h.2⟩
 ·cases e
theorem FP{b:Bo}{env:List (List V)}(h:Lm m)(e:E.enter D m b env=.on m'):Lm m':=by
 unfold E.enter at e
 split at e
 ·split at e
  ·cases e
  ·cases e
   refine⟨by show([]:List V).length<_;simp,fun f hf=>?_⟩;rcases cZ.1 hf with hf|hf
   ·exact h.2 f hf
   ·rw[dR.1 hf];exact h.1
 ·cases e
theorem vK(h:Lm m)(k f:Nat):Lm { m with fr:={ m.fr with vs:=m.fr.vs.take k },fu:=f } :=
 ⟨by have:=h.1;show(m.fr.vs.take k).length<_;rw[bL];omega,h.2⟩
theorem Yu{s:St}(h:Lm m)(e:E.act D m s=.on m'):Lm m':=by
 cases s with
 | int n=>exact oD h e
 | mH b=>exact oD h e
 | txt x=>exact oD h e
 | Ih d=>exact oD h e
 | enc n c=>exact oD h e
 | stk=>cases e
 | Bh t=>cases e;exact h
 | vis d=>exact FP h e
 | loc up ix =>
  simp only[E.act] at e
  split at e
  ·split at e
   ·exact oD h e
   ·cases e
  ·cases e
 | EK n =>
  simp only[E.act] at e
  split at e
  ·exact oD (vK h _ m.fu) e
  ·cases e
 | DL x =>
  simp only[E.act] at e
  split at e
  ·split at e
   ·cases e
   ·split at e
    ·exact oD (vK h _ _) e
    ·cases e
  ·cases e
 | DR n =>
  simp only[E.act] at e
  split at e
  ·cases e
  ·split at e
   ·split at e
    ·exact FP (vK h _ m.fu) e
    ·cases e
   ·cases e
   ·cases e
 | bnd =>
  simp only[E.act] at e
  split at e
  ·cases e
  ·cases e
   exact vK h _ m.fu
 | DT =>
  simp only[E.act] at e
  split at e
  ·cases e;exact h
  ·cases e
 | wQ t =>
  simp only[E.act] at e
  split at e
  ·cases e
   exact vK h _ m.fu
  ·cases e
  ·cases e
theorem aK4(h:Lm m)(e:E.it D m=.on m'):Lm m':=by
 unfold E.it at e
 split at e
 ·exact Yu (m:={ m with fr:={ m.fr with nx:=m.fr.nx+1 } }) h e
 ·split at e
  ·cases e
  ·split at e
   ·cases e
   ·next fr hfr =>
    refine oD (m:=⟨fr,m.bk.dropLast,m.fu⟩) ⟨h.2 fr (List.mem_of_getLast? hfr),fun f hf=>h.2 f (List.dropLast_subset _ hf)⟩ e
end
end
section
open Go.RowKit
open E (St Bo V Fr Ms)
variable{β:Nat}
def Rr(w:World)(O:Nat→Prop)(t:TypeId)(ao:Option Addr)(n:Nat)(vs:Nat→Value):Prop:=∀ j,j<n→∃ g c f,ao=some ⟨g,0,none⟩∧¬ O g∧w.heap[g]?=some (.cells c t f)∧w.cell? ⟨g,j,none⟩=some (vs j)
theorem Rr.keep{w w':World}{O O':Nat→Prop}(hk:Kv β O O' w w'){t:TypeId}(ht:t≠200){ao:Option Addr}{n:Nat}{vs:Nat→Value}(h:Rr w O t ao n vs):Rr w' O' t ao n vs:=fun j hj=>by
 obtain⟨g,c,f,e,h1,h2,h3⟩:=h j hj;refine⟨g,c,f,e,hk.own h2 h1,hk.heap h2 h1 ht,?_⟩;exact hk.kp.dY h3 (fun e=>by
  rcases e with e|⟨-,c',f',e⟩
  ·exact h1 e
  ·rw[h2] at e;injection e with e;injection e with _ e _;exact ht e)
inductive jP(β:Nat)(w:World)(O:Nat→Prop)(T:Int × Int→Nat):Value→St→Prop
 | int (n:Int) (hn:-9223372036854775808≤n∧n≤9223372036854775807):jP β w O T (.iface 227 (.agg #[.iface 3 (.int .i64 n)])) (.int n)
 | mH (b:Bool):jP β w O T (.iface 227 (.agg #[.iface 4 (.bool b)])) (.mH b)
 | txt (b:Nat) (x:ah) (h:ku β w b x):jP β w O T (.iface 227 (.agg #[.iface 84 (.pointer (some ⟨b,0,none⟩))])) (.txt x)
 | Ih (d:Int × Int) (b:Nat) (h:w.heap[b]?=some (.cells #[.pointer (some ⟨T d,0,none⟩),.pointer none] 297 (0,0))) (ho:¬ O b) (hd:T d≠0):jP β w O T (.iface 227 (.agg #[.iface 295 (.pointer (some ⟨b,0,none⟩))])) (.Ih d)
 | loc (up ix:Nat) (hu:up≤1073741824):jP β w O T (.iface 293 (.agg #[.int .i64 up,.int .i64 ix])) (.loc up ix)
 | stk:jP β w O T (.iface 258 (.agg #[])) .stk
 | vis (d:Int × Int) (hd:T d≠0):jP β w O T (.iface 91 (.agg #[.pointer (some ⟨T d,0,none⟩)])) (.vis d)
 | enc (n b:Nat) (c:List St) (ao:Option Addr) (cap:Nat) (vs:Nat→Value) (h:w.heap[b]?=some (.cells #[.int .i64 n,.slice ao c.length cap] 140 (0,0))) (ho:¬ O b) (hn:n≤1073741824) (hc:c.length≤cap∧cap≤maxLen) (hr:Rr w O 143 ao c.length vs) (hp:∀(j:Nat) (s:St),c[j]?=some s→jP β w O T (vs j) s):jP β w O T (.iface 237 (.agg #[.pointer (some ⟨b,0,none⟩)])) (.enc n c)
 | EK (n:Nat) (hn:n≤1073741824):jP β w O T (.iface 253 (.agg #[.int .i64 n])) (.EK n)
 | DL (x:ah):jP β w O T (.iface 242 (.agg #[.string (ba x)])) (.DL x)
 | DR (n:Nat) (hn:n≤1073741824):jP β w O T (.iface 249 (.agg #[.int .i64 n])) (.DR n)
 | bnd:jP β w O T (.iface 300 (.agg #[])) .bnd
 | DT:jP β w O T (.iface 301 (.agg #[])) .DT
 | wQ (t:Nat) (ht:t≤1073741824):jP β w O T (.iface 303 (.agg #[.int .i64 t])) (.wQ t)
 | Bh (t:Nat) (ht:t≤1073741824):jP β w O T (.iface 304 (.agg #[.int .i64 t])) (.Bh t)
theorem jP.keep{w w':World}{O O':Nat→Prop}(hk:Kv β O O' w w'){T:Int × Int→Nat}{v:Value}{s:St}(h:jP β w O T v s):jP β w' O' T v s:=by
 induction h with
 | int n hn=>exact .int n hn
 | mH b=>exact .mH b
 | txt b x h=>exact .txt b x (hk.wd b x h)
 | Ih d b h ho hd=>exact .Ih d b (hk.heap h ho (by decide)) (hk.own h ho) hd
 | loc up ix hu=>exact .loc up ix hu
 | stk=>exact .stk
 | vis d hd=>exact .vis d hd
 | enc n b c ao cap vs h ho hn hc hr hp ih=>exact .enc n b c ao cap vs (hk.heap h ho (by decide)) (hk.own h ho) hn hc (hr.keep hk (by decide)) ih
 | EK n hn=>exact .EK n hn
 | DL x=>exact .DL x
 | DR n hn=>exact .DR n hn
 | bnd=>exact .bnd
 | DT=>exact .DT
 | wQ t ht=>exact .wQ t ht
 | Bh t ht=>exact .Bh t ht
structure pV(β:Nat)(w:World)(O:Nat→Prop)(T:Int × Int→Nat)(v:Value)(c:List St):Prop where
 ex:∃ ao cap vs,v=.slice ao c.length cap∧c.length≤cap∧cap≤maxLen∧Rr w O 143 ao c.length vs∧∀(j:Nat) (s:St),c[j]?=some s→jP β w O T (vs j) s
theorem pV.keep{w w':World}{O O':Nat→Prop}(hk:Kv β O O' w w'){T:Int × Int→Nat}{v:Value}{c:List St}(h:pV β w O T v c):pV β w' O' T v c:=by
 obtain⟨ao,cap,vs,e,h1,h2,h3,h4⟩:=h.ex;exact⟨ao,cap,vs,e,h1,h2,h3.keep hk (by decide),fun j s hs=>(h4 j s hs).keep hk⟩
structure Bl(β:Nat)(w:World)(O:Nat→Prop)(T:Int × Int→Nat)(b n:Nat)(c:List St):Prop where
 ex:∃ v,w.heap[b]?=some (.cells #[.int .i64 n,v] 140 (0,0))∧pV β w O T v c
 no:¬ O b
 le:n≤1073741824
theorem Bl.keep{w w':World}{O O':Nat→Prop}(hk:Kv β O O' w w'){T:Int × Int→Nat}{b n:Nat}{c:List St}(h:Bl β w O T b n c):Bl β w' O' T b n c:=by
 obtain⟨v,h1,h2⟩:=h.ex;exact⟨⟨v,hk.heap h1 h.no (by decide),h2.keep hk⟩,hk.own h1 h.no,h.le⟩
def MC(β:Nat)(w:World)(O:Nat→Prop)(T:Int × Int→Nat)(b:Nat):Bo→Prop
 | .d p=>b=T p∧T p≠0
 | .c n l=>Bl β w O T b n l
theorem MC.keep{w w':World}{O O':Nat→Prop}(hk:Kv β O O' w w'){T:Int × Int→Nat}{b:Nat}{x:Bo}(h:MC β w O T b x):MC β w' O' T b x:=by
 cases x with
 | d p=>exact h
 | c n l=>exact Bl.keep hk h
def CT(β:Nat)(w:World)(O:Nat→Prop)(T:Int × Int→Nat)(D:Int × Int→Nat × List St):Prop:=∀ p,T p≠0→Bl β w O T (T p) (D p).1 (D p).2
theorem CT.keep{w w':World}{O O':Nat→Prop}(hk:Kv β O O' w w'){T:Int × Int→Nat}{D:Int × Int→Nat × List St}(h:CT β w O T D):CT β w' O' T D:=fun p hp=>(h p hp).keep hk
theorem MC.bd{w:World}{O:Nat→Prop}{T:Int × Int→Nat}{D:Int × Int→Nat × List St}{b:Nat}{x:Bo}(h:MC β w O T b x)(hc:CT β w O T D):Bl β w O T b (E.g_ D x).1 (E.g_ D x).2:=by
 cases x with
 | d p=>obtain⟨rfl,h2⟩:=h;exact hc p h2
 | c n l=>exact h
mutual
inductive mP(β:Nat)(w:World)(O:Nat→Prop)(T:Int × Int→Nat):Value→V→Prop
 | int (n:Int) (hn:-9223372036854775808≤n∧n≤9223372036854775807):mP β w O T (.iface 3 (.int .i64 n)) (.int n)
 | mH (b:Bool):mP β w O T (.iface 4 (.bool b)) (.mH b)
 | txt (b:Nat) (x:ah) (h:ku β w b x):mP β w O T (.iface 84 (.pointer (some ⟨b,0,none⟩))) (.txt x)
 | list (ao:Option Addr) (cap:Nat) (l:List V) (vs:Nat→Value) (hc:l.length≤cap∧cap≤maxLen) (hr:Rr w O 40 ao l.length vs) (hp:∀(j:Nat) (x:V),l[j]?=some x→mP β w O T (vs j) x):mP β w O T (.iface 148 (.slice ao l.length cap)) (.list l)
 | fn (fb bb:Nat) (a:Value) (b:Bo) (env:List (List V)) (h:w.heap[fb]?=some (.cells #[.pointer (some ⟨bb,0,none⟩),a] 297 (0,0))) (ho:¬ O fb) (hb:MC β w O T bb b) (he:qI β w O T a env):mP β w O T (.iface 295 (.pointer (some ⟨fb,0,none⟩))) (.fn b env)
inductive qI(β:Nat)(w:World)(O:Nat→Prop)(T:Int × Int→Nat):Value→List (List V)→Prop
 | nil:qI β w O T (.pointer none) []
 | cons (eb:Nat) (ao:Option Addr) (cap:Nat) (l:List V) (vs:Nat→Value) (a:Value) (env:List (List V)) (h:w.heap[eb]?=some (.cells #[.slice ao l.length cap,a] 393 (0,0))) (ho:¬ O eb) (hc:l.length≤cap∧cap≤maxLen) (hr:Rr w O 40 ao l.length vs) (hp:∀(j:Nat) (x:V),l[j]?=some x→mP β w O T (vs j) x) (he:qI β w O T a env):qI β w O T (.pointer (some ⟨eb,0,none⟩)) (l::env)
end
mutual
theorem mP.keep{w w':World}{O O':Nat→Prop}(hk:Kv β O O' w w'){T:Int × Int→Nat}{v:Value}{x:V}:mP β w O T v x→mP β w' O' T v x
 | .int n hn=>.int n hn
 | .mH b=>.mH b
 | .txt b x h=>.txt b x (hk.wd b x h)
 | .list ao cap l vs hc hr hp=>.list ao cap l vs hc (hr.keep hk (by decide)) (fun j x hx=>(hp j x hx).keep hk)
 | .fn fb bb a b env h ho hb he=>.fn fb bb a b env (hk.heap h ho (by decide)) (hk.own h ho) (hb.keep hk) (he.keep hk)
theorem qI.keep{w w':World}{O O':Nat→Prop}(hk:Kv β O O' w w'){T:Int × Int→Nat}{v:Value}{env:List (List V)}:qI β w O T v env→qI β w' O' T v env
 | .nil=>.nil
 | .cons eb ao cap l vs a env h ho hc hr hp he=>.cons eb ao cap l vs a env (hk.heap h ho (by decide)) (hk.own h ho) hc (hr.keep hk (by decide)) (fun j x hx=>(hp j x hx).keep hk) (he.keep hk)
end
structure sS(β:Nat)(w:World)(O:Nat→Prop)(T:Int × Int→Nat)(v:Value)(l:List V):Prop where
 ex:∃ cs,w.ownsRow 0 40 1 v l.length cs∧∀(j:Nat) (x:V),l[j]?=some x→∃ u,cs[j]?=some u∧mP β w O T u x
 ow:∀ g,v.ownBlock=some g→O g
structure xq(β:Nat)(w:World)(O:Nat→Prop)(T:Int × Int→Nat)(sv nv ev vv:Value)(fr:Fr):Prop where
 cd:pV β w O T sv fr.c
 nx:nv=.int .i64 fr.nx
 en:qI β w O T ev fr.env
 vs:sS β w O T vv fr.vs
 cl:fr.c.length≤1073741824
 nl:fr.nx≤1073741824
end
end Go.Proofs.YtdkpkpgpphkljaaGreatDoor
