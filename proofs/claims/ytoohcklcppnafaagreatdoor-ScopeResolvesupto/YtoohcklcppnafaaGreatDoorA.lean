import Derived.Test.YtoohcklcppnafaaGreatDoorProg
import Derived.WalkKit
import Derived.Lib.Builder
import Derived.Lib.IndexBytes
import Derived.Deep.Draws
namespace Go.Proofs
open Go.RowKit
theorem _root_.Go.RowKit.Hid.o {p:Prop} (h:Hid p):p:=h.out
abbrev ah:=List UInt8
namespace YtoohcklcppnafaaGreatDoor.X
theorem o:True:=trivial
end YtoohcklcppnafaaGreatDoor.X
abbrev cK(v:Value)(T:World→Prop):Ending→World→Prop:=fun e w'=>e=.returned v∧T w'
abbrev aG:=World
abbrev bB:=Calls Tryz.prog
theorem dO{w:World}{b i:Nat}{cs:Array Value}{ty:TypeId}(h:w.heap[b]?=some (.cells cs ty)):w.frozen? ⟨b,i,none⟩=false:=by simp[World.frozen?,h]
theorem _root_.Or.dL{a b:Prop}(h:a∨b)(n:¬b:=by decide):a:=h.resolve_right n
abbrev aH(b:Nat):Value:=.pointer (some ⟨b,0,none⟩)
abbrev ak(n:Int):Value:=.int .i64 n
abbrev aC(b i:Nat):Addr:=⟨b,i,none⟩
abbrev b_(b:Nat):Option Addr:=some ⟨b,0,none⟩
theorem au{p:Prop}(h:p:=by omega):p:=h
theorem bC{p:Prop}(h:p:=by kernel_rfl):p:=h
theorem aS{p:Prop}(h:p:=by decide):p:=h
theorem aT{p:Prop}(h:p:=by simp):p:=h
theorem aQ{p:Prop}(h:p:=by simp;omega):p:=h
theorem _root_.Go.Calls.cO{P:Program}{f:FuncId}{args:Array Value}{w:World}{E:Ending}{R:Ending→World→Prop}(h:Calls P f args w fun e w'=>e=E∧w'=w)(k:R E w):Calls P f args w R:=h.mono (by rintro e w' ⟨rfl,rfl⟩;exact k)
theorem _root_.Go.Calls.aX{P:Program}{f:FuncId}{args:Array Value}{w:World}{E:Ending}{T:World→Prop}{R:Ending→World→Prop}(h:Calls P f args w fun e w'=>e=E∧T w')(k:∀ w',T w'→R E w'):Calls P f args w R:=h.mono (by rintro e w2 ⟨rfl,h2⟩;exact k w2 h2)
abbrev aj:=@cell_of_row
abbrev ax:=@Nat.le_refl
abbrev ay:=@List.length_append
abbrev aB:=@Below.refl
abbrev aD:=@List.setIfInBounds_toArray
abbrev aF:=@List.getElem?_eq_getElem
abbrev aI:=@heap_alloc_new
abbrev aJ:=@Nat.lt_of_lt_of_le
abbrev aK:=@List.append_assoc
abbrev aL:=@List.append_nil
abbrev aM:=@if_neg
abbrev aO:=@List.set_cons_zero
abbrev aP:=@List.set_cons_succ
abbrev aU:=@if_pos
abbrev aW:=@bodyPost_ret
abbrev aY:=@List.length_cons
abbrev aZ:=@Array.getElem?_modify
abbrev bf:=@List.getElem?_eq_none
abbrev bD:=@World.frozen?_alloc_old
abbrev bF:=@List.length_singleton
abbrev bG:=@List.getD_eq_getElem?_getD
abbrev bJ:=@Nat.zero_le
abbrev bL:=@List.getElem?_append_right
abbrev bM:=@List.nil_append
abbrev bO:=@Int.natCast_nonneg
abbrev bP:=@List.length_eq_zero_iff
abbrev bQ:=@Option.some.inj
abbrev bS:=@Nat.zero_add
abbrev bT:=@List.getElem?_append_left
abbrev bV:=@List.length_drop
abbrev bW:=@frozen_of_row
abbrev cu:=@Nat.lt_or_ge
abbrev cB:=@List.length_map
abbrev cZ:=@List.drop_drop
abbrev dw:=@Bool.false_eq_true
abbrev dF:=@List.mem_of_getElem?
abbrev dI:=@Nat.le_trans
abbrev dK:=@World.ownsRow_nil
abbrev dM:=@info_parts
abbrev dP:=@Option.some.injEq
abbrev dQ:=@Addr.add_lit
abbrev dS:=@List.drop_eq_getElem_cons
abbrev dU:=@World.block_lt_of_cell?
abbrev dX:=@List.length_take
abbrev eG:=@heap_alloc_old
abbrev eO:=@beq_eq_false_iff_ne
abbrev eX:=@List.mem_cons_of_mem
abbrev fq:=@List.takeWhile_cons_of_neg
abbrev fB:=@World.size_alloc
abbrev fC:=@List.take_length
abbrev fD:=@List.take_append_drop
abbrev fE:=@List.takeWhile_append_dropWhile
abbrev fJ:=@List.mem_cons
abbrev fK:=@Nat.add_assoc
abbrev fM:=@List.cons_append
abbrev fT:=@List.dropWhile_cons_of_neg
abbrev fU:=@List.mem_map
abbrev fV:=@decide_eq_false_iff_not
abbrev gq:=@Bool.eq_iff_iff
abbrev gD:=@List.dropWhile_sublist
abbrev gY:=@if_false
abbrev gZ:=@Nat.eq_zero_or_pos
abbrev g_:=@List.getElem?_drop
abbrev iI:=@List.getElem?_map
abbrev iK:=@if_true
abbrev iO:=@List.map_cons
abbrev iP:=@Bool.or_eq_true
abbrev iZ:=@Nat.sub_self
abbrev jg:=@Array.getD_eq_getD_getElem?
abbrev jq:=@List.mem_range
abbrev jr:=@List.take_zero
abbrev jw:=@ByteArray.toList_eq
abbrev jy:=@Bool.or_eq_true_iff
abbrev jD:=@Exit.noGoto_ret
abbrev jE:=@Nat.not_lt_zero
abbrev jP:=@List.mem_singleton
abbrev jU:=@List.eq_nil_of_length_eq_zero
abbrev j_:=@Int.natCast_add
abbrev ku:=@List.take_of_length_le
abbrev kE:=@Prod.mk.injEq
abbrev kX:=@List.takeWhile_cons_of_pos
abbrev kY:=@List.dropWhile_cons_of_pos
abbrev lu:=@ownsRow_setCell_other
abbrev mr:=@List.length_pos_iff
abbrev mJ:=@decide_eq_true
abbrev ni:=@Array.getElem?_eq_none
abbrev nN:=@List.map_append
abbrev nO:=@Array.getElem?_setIfInBounds
abbrev nQ:=@mem_ready
abbrev nX:=@List.flatMap_cons
abbrev nY:=@decide_eq_true_eq
abbrev oP:=@List.drop_take
abbrev o7:=@List.not_mem_nil
abbrev o8:=@List.filter_cons
abbrev o9:=@List.any_eq_true
abbrev pK:=@List.flatMap_append
abbrev pO:=@List.getElem_of_mem
abbrev qo:=@List.head?_dropWhile_not
abbrev qw:=@List.getElem?_take_of_lt
abbrev qB:=@ready_mono
abbrev uM:=@List.mem_append
abbrev wW:=@List.findIdx?_cons
abbrev y9:=@Array.setIfInBounds_comm
abbrev BD:=@Nat.add_sub_cancel_left
abbrev Jp:=@Region.noSelect_spec
abbrev PN:=@Array.any_eq_true'
abbrev PO:=@List.pairwise_cons
abbrev Xp:=@Region.free_spec
abbrev aE1:=@List.find?_cons
abbrev aE2:=@Option.map_some
abbrev bD2:=@World.cell?_setCell_other
end Go.Proofs
namespace Go.Proofs.YtoohcklcppnafaaGreatDoor
section
open Go.RowKit
variable{p:Addr}{B b:Nat}{a w w1 w':aG}{v:Value}{S:Nat→Prop}
theorem aA{p:Prop}(h:p):Hid p:=h
theorem iQ(h:Below B a w)(n:Nat):Below B a (w.drewN n):=h.trans ⟨rfl,rfl,rfl,ax _,fun _ _=>rfl⟩
theorem aU3{W:aG}(hb:Below W.heap.size W w1):(∀ b o,b<W.heap.size→w1.cell? (aC b o)=W.cell? (aC b o))∧(∀ b o,b<W.heap.size→w1.frozen? (aC b o)=W.frozen? (aC b o)) :=
 ⟨fun b o h=>hb.cell (p:=⟨b,o,none⟩) h,fun b o h=>hb.frozen (p:=⟨b,o,none⟩) h⟩
theorem iY(hb:Below w.heap.size w w1){o:Nat}(hl:b<w.heap.size)(h:w.cell? (aC b o)=some v):w1.cell? (aC b o)=some v :=
 ((aU3 hb).1 b o hl).trans h
def bs(s:ByteArray):ah:=s.data.toList
theorem eY(s:ByteArray):(bs s).length=s.size:=by cases s;simp[bs,ByteArray.size]
theorem iD{a b:ByteArray}(h:bs a=bs b):a=b:=by
 cases a with
 | mk x =>
  cases b with
  | mk y=>unfold bs at h;simp at h;rw[h]
theorem xH(s:ByteArray)(a b:Nat):bs (s.extract a b)=((bs s).take b).drop a:=by
 unfold bs;rw[Lib.extract_data,oP]
theorem uo(s:ByteArray)(a:Nat):bs (s.extract a s.size)=(bs s).drop a:=Lib.extract_to_end s a
theorem V6(s:ByteArray)(a:Nat):bs (s.extract 0 a)=(bs s).take a:=by
 unfold bs;rw[Lib.extract_data];simp
def ba(l:ah):ByteArray:=⟨l.toArray⟩
theorem rV(l:ah):bs (ba l)=l:=by simp[bs,ba]
theorem uN(s:ByteArray):ba (bs s)=s:=iD (rV _)
theorem zo(l:ah):(ba l).size=l.length:=by simp[ba,ByteArray.size]
structure Kp(S:Nat→Prop)(w w':aG):Prop where
 os:w'.os=w.os
 tape:w'.tape=w.tape
 output:w'.output=w.output
 size:w.heap.size≤w'.heap.size
 block:∀ k,k<w.heap.size→¬ S k→w'.heap[k]?=w.heap[k]?
theorem Kp.refl(S:Nat→Prop)(w:aG):Kp S w w:=⟨rfl,rfl,rfl,ax _,fun _ _ _=>rfl⟩
theorem Kp.trans{S T:Nat→Prop}{a b c:aG}(h:Kp S a b)(k:Kp T b c)(hT:∀ i,i<a.heap.size→T i→S i):Kp S a c :=
 ⟨k.os.trans h.os,k.tape.trans h.tape,k.output.trans h.output,dI h.size k.size,fun i hi hn=>(k.block i (aJ hi h.size) (fun ht=>hn (hT i hi ht))).trans (h.block i hi hn)⟩
theorem Kp.mono{T:Nat→Prop}{b:aG}(h:Kp S a b)(hT:∀ i,i<a.heap.size→S i→T i):Kp T a b :=
 ⟨h.os,h.tape,h.output,h.size,fun i hi hn=>h.block i hi (fun hs=>hn (hT i hi hs))⟩
theorem Kp.drew{S:Nat→Prop}{a w:aG}(h:Kp S a w):Kp S a w.drew:=⟨h.os,h.tape,h.output,h.size,h.block⟩
theorem Kp.alloc{S:Nat→Prop}{a w:aG}(h:Kp S a w)(o:Obj):Kp S a (w.alloc o) :=
 ⟨h.os,h.tape,h.output,dI h.size aT,fun k hk hn=>(Below.heap_alloc w o k (aJ hk h.size)).trans (h.block k hk hn)⟩
theorem Kp.setCell{S:Nat→Prop}{a w:aG}(h:Kp S a w){p:Addr}(hp:p.block<a.heap.size→S p.block)(u:Value):Kp S a (w.setCell p u) :=
 ⟨h.os,h.tape,h.output,by simpa [World.setCell] using h.size,fun k hk hn=>(Below.heap_setCell w p u k (fun e=>hn (e ▸ hp (e ▸ hk)))).trans (h.block k hk hn)⟩
theorem Kp.grown{row:Option Nat}(h:Kp S a w)(hg:w.grownBy w' row)(hr:∀ k,row=some k→k<a.heap.size→S k):Kp S a w' :=
 ⟨hg.os.trans h.os,hg.tape.trans h.tape,hg.output.trans h.output,dI h.size hg.size,fun k hk hn=>(hg.block k (aJ hk h.size) (fun e=>hn (hr k e.symm hk))).trans (h.block k hk hn)⟩
theorem Kp.below(h:Kp S w w')(hB:B≤w.heap.size)(hS:∀ k,S k→B≤k):Below B w w' :=
 ⟨h.os,h.tape,h.output,h.size,fun k hk=>h.block k (aJ hk hB) (fun hs=>by have:=hS k hs;omega)⟩
theorem Kp.aN(h:Below w.heap.size w w')(S:Nat→Prop):Kp S w w':=⟨h.os,h.tape,h.output,h.size,fun k hk _=>h.block k hk⟩
theorem Kp.cell(h:Kp S w w')(hp:p.block<w.heap.size)(hn:¬ S p.block):w'.cell? p=w.cell? p:=World.cell?_of_block (w:=w) (h.block p.block hp hn)
theorem Kp.dD(h:Kp S w w')(hc:w.cell? p=some v)(hn:¬ S p.block):w'.cell? p=some v :=
 (h.cell (dU w p hc) hn).trans hc
theorem bN{o:Obj}(h:w.heap[b]?=some o):b<w.heap.size:=by
 rcases cu b w.heap.size with h'|h'
 ·exact h'
 ·simp[ni h'] at h
theorem Kp.heap{S:Nat→Prop}{w w':aG}(h:Kp S w w'){b:Nat}{o:Obj}(hb:w.heap[b]?=some o)(hn:¬ S b):w'.heap[b]?=some o :=
 (h.block b (bN hb) hn).trans hb
theorem Kp.owns(h:Kp S w w'){base:Nat}{e:TypeId}{size:Nat}{n:Nat}{xs:List Value}(ho:w.ownsRow base e size v n xs)(hn:∀ k,v.ownBlock=some k→¬ S k):w'.ownsRow base e size v n xs:=by
 refine⟨ho.1,?_⟩;rcases ho.2 with hn'|⟨g,cap,cur,rfl,hb,hgg,rest⟩
 ·exact .inl hn'
 ·exact .inr ⟨g,cap,cur,rfl,hb,h.heap hgg (hn g (by simp[Value.ownBlock])),rest⟩
end
namespace X
abbrev Tok:=Nat × ah
inductive Part where
 | leaf (k:Nat) (x:ah)
 | miss (m:ah)
 | br (k:Nat) (ps:List Part)
abbrev R:=List Tok→List Part × List Tok
def quiet(t:Tok):Bool:=t.1==1||t.1==2
def pQ(ts:List Tok):Option Tok:=(ts.dropWhile quiet).head?
def dm(ts:List Tok):Nat:=match pQ ts with|some t=>t.1|none=>0
def dJ(s:ah)(ts:List Tok):Bool:=match pQ ts with|some t=>(t.1==4||t.1==7)&&t.2==s|none=>false
def lf(t:Tok):Part:=.leaf t.1 t.2
def take:R:=fun ts=>((ts.takeWhile quiet++(ts.dropWhile quiet).take 1).map lf,(ts.dropWhile quiet).drop 1)
def want(s:ah):R:=fun ts=>if dJ s ts then take ts else([.miss s],ts)
def gy:ah:=[110,97,109,101]
def kU:ah:=[101,120,112,114,101,115,115,105,111,110]
def bE:R:=fun ts=>if dm ts==3 then take ts else([.miss gy],ts)
def andThen(f g:R):R:=fun ts=>((f ts).1++(g (f ts).2).1,(g (f ts).2).2)
def node(k:Nat)(f:R):R:=fun ts=>([.br k (f ts).1],(f ts).2)
def iA(one:R):Nat→R
 | 0=>fun ts=>([],ts)
 | n+1=>fun ts=>if dJ [44] ts then andThen take (andThen one (iA one n)) ts else([],ts)
def dz(one:R)(e:ah):R:=fun ts=>if dJ e ts then want e ts else andThen one (andThen (fun ts=>iA one ts.length ts) (want e)) ts
def params:R:=node 6 (andThen (want [40]) (dz bE [41]))
def iG(one:R)(ok:List Tok→Bool):Nat→List Part→R
 | 0,p=>fun ts=>(p,ts)
 | n+1,p=>fun ts=>if ok ts then iG one ok n [.br 10 (p++(andThen take one ts).1)] (andThen take one ts).2 else(p,ts)
def row(one:R)(ok:List Tok→Bool):R:=fun ts=>iG one ok (one ts).2.length (one ts).1 (one ts).2
def args(E:R):R:=node 12 (andThen take (dz E [41]))
def fG(E:R):Nat→List Part→R
 | 0,p=>fun ts=>(p,ts)
 | n+1,p=>fun ts=>if dJ [40] ts then fG E n [.br 11 (p++(args E ts).1)] (args E ts).2 else(p,ts)
def part(E:R):R:=fun ts =>
 if dm ts==5 then node 15 take ts
 else if dm ts==6 then node 16 take ts
 else if dJ [116,114,117,101] ts||dJ [102,97,108,115,101] ts then node 17 take ts
 else if dm ts==3 then node 18 take ts
 else if dJ [63] ts then node 19 take ts
 else if dJ [40] ts then node 14 (andThen take (andThen E (want [41]))) ts
 else if dJ [91] ts then node 13 (andThen take (dz E [93])) ts
 else([.miss kU],ts)
def call(E:R):R:=fun ts=>fG E (part E ts).2.length (part E ts).1 (part E ts).2
def product(E:R):R:=row (call E) (dJ [42])
def sum(E:R):R:=row (product E) (fun ts=>dJ [43] ts||dJ [45] ts||dJ [43,43] ts)
def comparison(E:R):R:=fun ts =>
 if dJ [61,61] (sum E ts).2||dJ [60] (sum E ts).2 then([.br 10 ((sum E ts).1++(andThen take (sum E) (sum E ts).2).1)],(andThen take (sum E) (sum E ts).2).2) else sum E ts
def expr:Nat→R
 | 0=>fun ts=>([.miss kU],ts)
 | n+1=>fun ts =>
  if dJ [108,101,116] ts then node 7 (andThen take (andThen bE (andThen (want [61]) (andThen (expr n) (andThen (want [105,110]) (expr n)))))) ts
  else if dJ [105,102] ts then node 8 (andThen take (andThen (expr n) (andThen (want [116,104,101,110]) (andThen (expr n) (andThen (want [101,108,115,101]) (expr n)))))) ts
  else if dJ [102,117,110] ts then node 9 (andThen take (andThen params (andThen (want [61,62]) (expr n)))) ts
  else comparison (expr n) ts
def jf:ah:=[117,115,101]
def jY:ah:=[112,117,98]
def lF:ah:=[100,101,102]
def starts(ts:List Tok):Bool:=dJ jf ts||dJ jY ts||dJ lF ts
def iE:Nat→R
 | 0=>fun ts=>([],ts)
 | n+1=>fun ts=>if dm ts==0||starts ts then([],ts) else if dJ [59] ts then take ts else andThen take (iE n) ts
def bH:R:=fun ts=>if dJ jY ts then take ts else([],ts)
def gW:R:=andThen (want jf) (andThen bE (andThen (want [46]) (andThen bE (andThen (fun ts=>if dJ [97,115] ts then andThen take bE ts else([],ts)) (want [59])))))
def gU:R:=andThen (want lF) (andThen bE (andThen (fun ts=>if dJ [40] ts then params ts else([],ts)) (andThen (want [61]) (andThen (expr 65) (want [59])))))
def kid(ts:List Tok):Nat × List Part × List Tok :=
 if starts ts then
  if dJ jf (bH ts).2 then(3,andThen bH gW ts) else(4,andThen bH gU ts)
 else(5,iE ts.length ts)
def mW:Nat→List Tok→List Part
 | 0,ts=>ts.map lf
 | n+1,ts=>if dm ts==0 then ts.map lf else .br (kid ts).1 (kid ts).2.1::mW n (kid ts).2.2
def file(ts:List Tok):Part:=.br 2 (mW ts.length ts)
def tb(ts:List Tok):ah:=ts.flatMap (·.2)
mutual
def pb:Part→ah
 | .leaf _ x=>x
 | .miss _=>[]
 | .br _ ps=>mM ps
def mM:List Part→ah
 | []=>[]
 | p::ps=>pb p++mM ps
end
theorem p_(l r:List Part):mM (l++r)=mM l++mM r:=by
 induction l with
 | nil=>rfl
 | cons p l ih=>rw[fM,mM,ih,mM,aK]
theorem Lg(ts:List Tok):mM (ts.map lf)=tb ts:=by
 induction ts with
 | nil=>rfl
 | cons t ts ih=>rw[iO,mM,ih];rfl
theorem O3(l r:List Tok):tb (l++r)=tb l++tb r:=pK
def bX(f:R):Prop:=∀ ts,mM (f ts).1++tb (f ts).2=tb ts
theorem bX.andThen{f g:R}(hf:bX f)(hg:bX g):bX (andThen f g):=by
 intro ts;show mM ((f ts).1++(g (f ts).2).1)++tb (g (f ts).2).2=_;rw[p_,aK,hg,hf]
theorem bX.node{f:R}(hf:bX f)(k:Nat):bX (node k f):=by
 intro ts;show mM [.br k _]++_=_;rw[mM,pb,mM,aL];exact hf ts
theorem bX.nil:bX (fun ts=>([],ts)):=fun _=>rfl
theorem bX.miss(s:ah):bX (fun ts=>([.miss s],ts)):=fun _=>rfl
theorem bX.ite{f g:R}{c:List Tok→Bool}(hf:bX f)(hg:bX g):bX (fun ts=>if c ts then f ts else g ts):=by
 intro ts;show mM (if c ts then f ts else g ts).1++tb (if c ts then f ts else g ts).2=_
 split
 ·exact hf ts
 ·exact hg ts
theorem bX.take:bX take:=by
 intro ts;show mM (List.map lf (ts.takeWhile quiet++(ts.dropWhile quiet).take 1))++tb ((ts.dropWhile quiet).drop 1)=_;rw[Lg,← O3,aK,fD,fE]
theorem bX.want(s:ah):bX (want s):=bX.ite (c:=dJ s) bX.take (bX.miss s)
theorem bX.bE:bX bE:=bX.ite (c:=fun ts=>dm ts==3) bX.take (bX.miss gy)
theorem bX.iA{one:R}(h:bX one):∀ n,bX (iA one n)
 | 0=>bX.nil
 | n+1=>bX.ite (c:=dJ [44]) (bX.take.andThen (h.andThen (bX.iA h n))) bX.nil
theorem bX.dz{one:R}(h:bX one)(e:ah):bX (dz one e) :=
 bX.ite (c:=dJ e) (bX.want e) (h.andThen (bX.andThen (fun ts=>bX.iA h ts.length ts) (bX.want e)))
theorem bX.params:bX params:=((bX.want _).andThen (bX.bE.dz _)).node 6
theorem bX.iG{one:R}{ok:List Tok→Bool}(h:bX one):∀(n:Nat) (p:List Part) (ts:List Tok),mM (iG one ok n p ts).1++tb (iG one ok n p ts).2=mM p++tb ts
 | 0,p,ts=>rfl
 | n+1,p,ts=>by
  unfold X.iG
  split
  ·rw[bX.iG h n,mM,pb,mM,aL,p_,aK,(bX.take.andThen h) ts]
  ·rfl
theorem bX.row{one:R}{ok:List Tok→Bool}(h:bX one):bX (row one ok):=fun ts=>(bX.iG h _ _ _).trans (h ts)
theorem bX.args{E:R}(h:bX E):bX (args E):=(bX.take.andThen (h.dz _)).node 12
theorem bX.fG{E:R}(h:bX E):∀(n:Nat) (p:List Part) (ts:List Tok),mM (fG E n p ts).1++tb (fG E n p ts).2=mM p++tb ts
 | 0,p,ts=>rfl
 | n+1,p,ts=>by
  unfold X.fG
  split
  ·rw[bX.fG h n,mM,pb,mM,aL,p_,aK,(bX.args h) ts]
  ·rfl
theorem bX.part{E:R}(h:bX E):bX (part E) :=
 bX.ite (c:=fun ts=>dm ts==5) (bX.take.node _) <|
 bX.ite (c:=fun ts=>dm ts==6) (bX.take.node _) <|
 bX.ite (c:=fun ts=>dJ [116,114,117,101] ts||dJ [102,97,108,115,101] ts) (bX.take.node _) <|
 bX.ite (c:=fun ts=>dm ts==3) (bX.take.node _) <|
 bX.ite (c:=dJ [63]) (bX.take.node _) <|
 bX.ite (c:=dJ [40]) ((bX.take.andThen (h.andThen (bX.want _))).node _) <|
 bX.ite (c:=dJ [91]) ((bX.take.andThen (h.dz _)).node _) (bX.miss _)
theorem bX.call{E:R}(h:bX E):bX (call E):=fun ts=>(bX.fG h _ _ _).trans (bX.part h ts)
theorem bX.product{E:R}(h:bX E):bX (product E):=h.call.row
theorem bX.sum{E:R}(h:bX E):bX (sum E):=h.product.row
theorem bX.comparison{E:R}(h:bX E):bX (comparison E):=by
 intro ts;unfold X.comparison
 split
 ·rw[mM,pb,mM,aL,p_,aK,(bX.take.andThen h.sum),h.sum ts]
 ·exact h.sum ts
theorem bX.expr:∀ n,bX (expr n)
 | 0=>bX.miss _
 | n+1 =>
  have h:=bX.expr n
  bX.ite (c:=dJ [108,101,116]) ((bX.take.andThen (bX.bE.andThen ((bX.want _).andThen (h.andThen ((bX.want _).andThen h))))).node _) <|
  bX.ite (c:=dJ [105,102]) ((bX.take.andThen (h.andThen ((bX.want _).andThen (h.andThen ((bX.want _).andThen h))))).node _) <|
  bX.ite (c:=dJ [102,117,110]) ((bX.take.andThen (bX.params.andThen ((bX.want _).andThen h))).node _) h.comparison
theorem bX.iE:∀ n,bX (iE n)
 | 0=>bX.nil
 | n+1=>bX.ite (c:=fun ts=>dm ts==0||starts ts) bX.nil (bX.ite (c:=dJ [59]) bX.take (bX.take.andThen (bX.iE n)))
theorem bX.bH:bX bH:=bX.ite (c:=dJ jY) bX.take bX.nil
theorem bX.gW:bX gW :=
 (bX.want _).andThen (bX.bE.andThen ((bX.want _).andThen (bX.bE.andThen ((bX.ite (c:=dJ [97,115]) (bX.take.andThen bX.bE) bX.nil).andThen (bX.want _)))))
theorem bX.gU:bX gU :=
 (bX.want _).andThen (bX.bE.andThen ((bX.ite (c:=dJ [40]) bX.params bX.nil).andThen ((bX.want _).andThen ((bX.expr 65).andThen (bX.want _)))))
theorem O4(ts:List Tok):mM (kid ts).2.1++tb (kid ts).2.2=tb ts:=by
 unfold kid
 split
 ·split
  ·exact(bX.bH.andThen bX.gW) ts
  ·exact(bX.bH.andThen bX.gU) ts
 ·exact bX.iE _ ts
theorem wN:∀(n:Nat) (ts:List Tok),mM (mW n ts)=tb ts
 | 0,ts=>Lg ts
 | n+1,ts=>by
  unfold mW
  split
  ·exact Lg ts
  ·rw[mM,pb,wN n,O4]
theorem vg(ts:List Tok):pb (file ts)=tb ts:=wN _ ts
end X
namespace X
mutual
def pl:Part→List Tok
 | .leaf k x=>[(k,x)]
 | .miss _=>[]
 | .br _ ps=>sK ps
def sK:List Part→List Tok
 | []=>[]
 | p::ps=>pl p++sK ps
end
theorem p9(l r:List Part):sK (l++r)=sK l++sK r:=by
 induction l with
 | nil=>rfl
 | cons p l ih=>rw[fM,sK,ih,sK,aK]
theorem KM(ts:List Tok):sK (ts.map lf)=ts:=by
 induction ts with
 | nil=>rfl
 | cons t ts ih=>rw[iO,sK,ih];rfl
def gL(f:R):Prop:=∀ ts,sK (f ts).1++(f ts).2=ts
theorem gL.andThen{f g:R}(hf:gL f)(hg:gL g):gL (andThen f g):=by
 intro ts;show sK ((f ts).1++(g (f ts).2).1)++(g (f ts).2).2=_;rw[p9,aK,hg,hf]
theorem gL.node{f:R}(hf:gL f)(k:Nat):gL (node k f):=by
 intro ts;show sK [.br k _]++_=_;rw[sK,pl,sK,aL];exact hf ts
theorem gL.nil:gL (fun ts=>([],ts)):=fun _=>rfl
theorem gL.miss(s:ah):gL (fun ts=>([.miss s],ts)):=fun _=>rfl
theorem gL.ite{f g:R}{c:List Tok→Bool}(hf:gL f)(hg:gL g):gL (fun ts=>if c ts then f ts else g ts):=by
 intro ts;show sK (if c ts then f ts else g ts).1++(if c ts then f ts else g ts).2=_
 split
 ·exact hf ts
 ·exact hg ts
theorem gL.take:gL take:=by
 intro ts;show sK (List.map lf (ts.takeWhile quiet++(ts.dropWhile quiet).take 1))++((ts.dropWhile quiet).drop 1)=_;rw[KM,aK,fD,fE]
theorem gL.want(s:ah):gL (want s):=gL.ite (c:=dJ s) gL.take (gL.miss s)
theorem gL.bE:gL bE:=gL.ite (c:=fun ts=>dm ts==3) gL.take (gL.miss gy)
theorem gL.iA{one:R}(h:gL one):∀ n,gL (iA one n)
 | 0=>gL.nil
 | n+1=>gL.ite (c:=dJ [44]) (gL.take.andThen (h.andThen (gL.iA h n))) gL.nil
theorem gL.dz{one:R}(h:gL one)(e:ah):gL (dz one e) :=
 gL.ite (c:=dJ e) (gL.want e) (h.andThen (gL.andThen (fun ts=>gL.iA h ts.length ts) (gL.want e)))
theorem gL.params:gL params:=((gL.want _).andThen (gL.bE.dz _)).node 6
theorem gL.iG{one:R}{ok:List Tok→Bool}(h:gL one):∀(n:Nat) (p:List Part) (ts:List Tok),sK (iG one ok n p ts).1++(iG one ok n p ts).2=sK p++ts
 | 0,p,ts=>rfl
 | n+1,p,ts=>by
  unfold X.iG
  split
  ·rw[gL.iG h n,sK,pl,sK,aL,p9,aK,(gL.take.andThen h) ts]
  ·rfl
theorem gL.row{one:R}{ok:List Tok→Bool}(h:gL one):gL (row one ok):=fun ts=>(gL.iG h _ _ _).trans (h ts)
theorem gL.args{E:R}(h:gL E):gL (args E):=(gL.take.andThen (h.dz _)).node 12
theorem gL.fG{E:R}(h:gL E):∀(n:Nat) (p:List Part) (ts:List Tok),sK (fG E n p ts).1++(fG E n p ts).2=sK p++ts
 | 0,p,ts=>rfl
 | n+1,p,ts=>by
  unfold X.fG
  split
  ·rw[gL.fG h n,sK,pl,sK,aL,p9,aK,(gL.args h) ts]
  ·rfl
theorem gL.part{E:R}(h:gL E):gL (part E) :=
 gL.ite (c:=fun ts=>dm ts==5) (gL.take.node _) <|
 gL.ite (c:=fun ts=>dm ts==6) (gL.take.node _) <|
 gL.ite (c:=fun ts=>dJ [116,114,117,101] ts||dJ [102,97,108,115,101] ts) (gL.take.node _) <|
 gL.ite (c:=fun ts=>dm ts==3) (gL.take.node _) <|
 gL.ite (c:=dJ [63]) (gL.take.node _) <|
 gL.ite (c:=dJ [40]) ((gL.take.andThen (h.andThen (gL.want _))).node _) <|
 gL.ite (c:=dJ [91]) ((gL.take.andThen (h.dz _)).node _) (gL.miss _)
theorem gL.call{E:R}(h:gL E):gL (call E):=fun ts=>(gL.fG h _ _ _).trans (gL.part h ts)
theorem gL.product{E:R}(h:gL E):gL (product E):=h.call.row
theorem gL.sum{E:R}(h:gL E):gL (sum E):=h.product.row
theorem gL.comparison{E:R}(h:gL E):gL (comparison E):=by
 intro ts;unfold X.comparison
 split
 ·rw[sK,pl,sK,aL,p9,aK,(gL.take.andThen h.sum),h.sum ts]
 ·exact h.sum ts
theorem gL.expr:∀ n,gL (expr n)
 | 0=>gL.miss _
 | n+1 =>
  have h:=gL.expr n
  gL.ite (c:=dJ [108,101,116]) ((gL.take.andThen (gL.bE.andThen ((gL.want _).andThen (h.andThen ((gL.want _).andThen h))))).node _) <|
  gL.ite (c:=dJ [105,102]) ((gL.take.andThen (h.andThen ((gL.want _).andThen (h.andThen ((gL.want _).andThen h))))).node _) <|
  gL.ite (c:=dJ [102,117,110]) ((gL.take.andThen (gL.params.andThen ((gL.want _).andThen h))).node _) h.comparison
theorem gL.iE:∀ n,gL (iE n)
 | 0=>gL.nil
 | n+1=>gL.ite (c:=fun ts=>dm ts==0||starts ts) gL.nil (gL.ite (c:=dJ [59]) gL.take (gL.take.andThen (gL.iE n)))
theorem gL.bH:gL bH:=gL.ite (c:=dJ jY) gL.take gL.nil
theorem gL.gW:gL gW :=
 (gL.want _).andThen (gL.bE.andThen ((gL.want _).andThen (gL.bE.andThen ((gL.ite (c:=dJ [97,115]) (gL.take.andThen gL.bE) gL.nil).andThen (gL.want _)))))
theorem gL.gU:gL gU :=
 (gL.want _).andThen (gL.bE.andThen ((gL.ite (c:=dJ [40]) gL.params gL.nil).andThen ((gL.want _).andThen ((gL.expr 65).andThen (gL.want _)))))
theorem EY(ts:List Tok):sK (kid ts).2.1++(kid ts).2.2=ts:=by
 unfold kid
 split
 ·split
  ·exact(gL.bH.andThen gL.gW) ts
  ·exact(gL.bH.andThen gL.gU) ts
 ·exact gL.iE _ ts
theorem AV:∀(n:Nat) (ts:List Tok),sK (mW n ts)=ts
 | 0,ts=>KM ts
 | n+1,ts=>by
  unfold mW
  split
  ·exact KM ts
  ·rw[sK,pl,AV n,EY]
theorem R6(ts:List Tok):pl (file ts)=ts:=AV _ ts
end X
end Go.Proofs.YtoohcklcppnafaaGreatDoor
