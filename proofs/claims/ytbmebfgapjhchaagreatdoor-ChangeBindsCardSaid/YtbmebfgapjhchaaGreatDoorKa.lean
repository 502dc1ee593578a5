/- What a call may turn: blocks of its own,or named ones. -/
import Derived.WalkKit
import Derived.Below
import Derived.Lib.Builder
import Derived.Lib.Strings
import Derived.Lib.IndexBytes
import Derived.Deep.Draws
namespace Go.Proofs.YtbmebfgapjhchaaGreatDoor
open Go.RowKit
theorem hide {p:Prop} (h:p):Hid p:=h
theorem belowN {B:Nat} {a w:World} (h:Below B a w) (n:Nat):Below B a (w.drewN n):=h.trans ⟨rfl,rfl,rfl,Nat.le_refl _,fun _ _=>rfl⟩
theorem bcell {W w1:World} (hb:Below W.heap.size W w1):(∀ b o,b<W.heap.size→w1.cell? ⟨b,o,none⟩=W.cell? ⟨b,o,none⟩)∧(∀ b o,b<W.heap.size→w1.frozen? ⟨b,o,none⟩=W.frozen? ⟨b,o,none⟩) :=
 ⟨fun b o h=>hb.cell (p:=⟨b,o,none⟩) h,fun b o h=>hb.frozen (p:=⟨b,o,none⟩) h⟩
theorem kcb {w w1:World} (hb:Below w.heap.size w w1) {b o:Nat} {v:Value} (hl:b<w.heap.size) (h:w.cell? ⟨b,o,none⟩=some v):w1.cell? ⟨b,o,none⟩=some v :=
 ((bcell hb).1 b o hl).trans h
def bs (s:ByteArray):List UInt8:=s.data.toList
theorem bs_len (s:ByteArray):(bs s).length=s.size:=by cases s;simp [bs,ByteArray.size]
theorem bs_inj {a b:ByteArray} (h:bs a=bs b):a=b:=by
 cases a with
 | mk x =>
  cases b with
  | mk y=>unfold bs at h;simp at h;rw [h]
theorem bs_append (a b:ByteArray):bs (a++b)=bs a++bs b:=by
 unfold bs;rw [ByteArray.data_append,Array.toList_append]
theorem bs_cut (s:ByteArray) (a b:Nat):bs (s.extract a b)=((bs s).take b).drop a:=by
 unfold bs;rw [Lib.extract_data,List.drop_take]
theorem bs_drop (s:ByteArray) (a:Nat):bs (s.extract a s.size)=(bs s).drop a:=Lib.extract_to_end s a
theorem bs_take (s:ByteArray) (a:Nat):bs (s.extract 0 a)=(bs s).take a:=by
 unfold bs;rw [Lib.extract_data];simp
def ba (l:List UInt8):ByteArray:=⟨l.toArray⟩
theorem bs_ba (l:List UInt8):bs (ba l)=l:=by simp [bs,ba]
theorem ba_bs (s:ByteArray):ba (bs s)=s:=bs_inj (bs_ba _)
theorem ba_size (l:List UInt8):(ba l).size=l.length:=by simp [ba,ByteArray.size]
structure Kp (S:Nat→Prop) (w w':World):Prop where
 os:w'.os=w.os
 tape:w'.tape=w.tape
 output:w'.output=w.output
 size:w.heap.size≤w'.heap.size
 block:∀ k,k<w.heap.size→¬ S k→w'.heap[k]?=w.heap[k]?
theorem Kp.refl (S:Nat→Prop) (w:World):Kp S w w:=⟨rfl,rfl,rfl,Nat.le_refl _,fun _ _ _=>rfl⟩
theorem Kp.trans {S T:Nat→Prop} {a b c:World} (h:Kp S a b) (k:Kp T b c) (hT:∀ i,i<a.heap.size→T i→S i):Kp S a c :=
 ⟨k.os.trans h.os,k.tape.trans h.tape,k.output.trans h.output,Nat.le_trans h.size k.size,fun i hi hn=>(k.block i (Nat.lt_of_lt_of_le hi h.size) (fun ht=>hn (hT i hi ht))).trans (h.block i hi hn)⟩
theorem Kp.mono {S T:Nat→Prop} {a b:World} (h:Kp S a b) (hT:∀ i,i<a.heap.size→S i→T i):Kp T a b :=
 ⟨h.os,h.tape,h.output,h.size,fun i hi hn=>h.block i hi (fun hs=>hn (hT i hi hs))⟩
theorem Kp.drew {S:Nat→Prop} {a w:World} (h:Kp S a w):Kp S a w.drew:=⟨h.os,h.tape,h.output,h.size,h.block⟩
theorem Kp.alloc {S:Nat→Prop} {a w:World} (h:Kp S a w) (o:Obj):Kp S a (w.alloc o) :=
 ⟨h.os,h.tape,h.output,Nat.le_trans h.size (by simp),fun k hk hn=>(Below.heap_alloc w o k (Nat.lt_of_lt_of_le hk h.size)).trans (h.block k hk hn)⟩
theorem Kp.setCell {S:Nat→Prop} {a w:World} (h:Kp S a w) {p:Addr} (hp:p.block<a.heap.size→S p.block) (u:Value):Kp S a (w.setCell p u) :=
 ⟨h.os,h.tape,h.output,by simpa [World.setCell] using h.size,fun k hk hn=>(Below.heap_setCell w p u k (fun e=>hn (e ▸ hp (e ▸ hk)))).trans (h.block k hk hn)⟩
theorem Kp.grown {S:Nat→Prop} {a w w':World} {row:Option Nat} (h:Kp S a w) (hg:w.grownBy w' row) (hr:∀ k,row=some k→k<a.heap.size→S k):Kp S a w' :=
 ⟨hg.os.trans h.os,hg.tape.trans h.tape,hg.output.trans h.output,Nat.le_trans h.size hg.size,fun k hk hn=>(hg.block k (Nat.lt_of_lt_of_le hk h.size) (fun e=>hn (hr k e.symm hk))).trans (h.block k hk hn)⟩
theorem Kp.below {S:Nat→Prop} {w w':World} (h:Kp S w w') {B:Nat} (hB:B≤w.heap.size) (hS:∀ k,S k→B≤k):Below B w w' :=
 ⟨h.os,h.tape,h.output,h.size,fun k hk=>h.block k (Nat.lt_of_lt_of_le hk hB) (fun hs=>by have:=hS k hs;omega)⟩
theorem Kp.ofBelow {w w':World} (h:Below w.heap.size w w') (S:Nat→Prop):Kp S w w':=⟨h.os,h.tape,h.output,h.size,fun k hk _=>h.block k hk⟩
theorem Kp.cell {S:Nat→Prop} {w w':World} (h:Kp S w w') {p:Addr} (hp:p.block<w.heap.size) (hn:¬ S p.block):w'.cell? p=w.cell? p:=World.cell?_of_block (w:=w) (h.block p.block hp hn)
theorem Kp.frozen {S:Nat→Prop} {w w':World} (h:Kp S w w') {p:Addr} (hp:p.block<w.heap.size) (hn:¬ S p.block):w'.frozen? p=w.frozen? p:=World.frozen?_of_block (w:=w) (h.block p.block hp hn)
theorem Kp.cellv {S:Nat→Prop} {w w':World} (h:Kp S w w') {p:Addr} {v:Value} (hc:w.cell? p=some v) (hn:¬ S p.block):w'.cell? p=some v :=
 (h.cell (World.block_lt_of_cell? w p hc) hn).trans hc
theorem heap_lt {w:World} {b:Nat} {o:Obj} (h:w.heap[b]?=some o):b<w.heap.size:=by
 rcases Nat.lt_or_ge b w.heap.size with h'|h'
 ·exact h'
 ·simp [Array.getElem?_eq_none h'] at h
theorem Kp.heap {S:Nat→Prop} {w w':World} (h:Kp S w w') {b:Nat} {o:Obj} (hb:w.heap[b]?=some o) (hn:¬ S b):w'.heap[b]?=some o :=
 (h.block b (heap_lt hb) hn).trans hb
theorem Kp.owns {S:Nat→Prop} {w w':World} (h:Kp S w w') {base:Nat} {e:TypeId} {size:Nat} {v:Value} {n:Nat} {xs:List Value} (ho:w.ownsRow base e size v n xs) (hn:∀ k,v.ownBlock=some k→¬ S k):w'.ownsRow base e size v n xs:=by
 refine ⟨ho.1,?_⟩
 rcases ho.2 with hn'|⟨g,cap,cur,rfl,hb,hgg,rest⟩
 ·exact .inl hn'
 ·exact .inr ⟨g,cap,cur,rfl,hb,h.heap hgg (hn g (by simp [Value.ownBlock])),rest⟩
structure Rw where
 f:Int
 t:Int
 s:ByteArray
def Rw.vals (r:Rw):List Value:=[.int .i64 r.f,.int .i64 r.t,.string r.s]
def IsL (w:World) (v:Value) (L:List Rw):Prop :=
 ∃ ao cap,v=.slice ao L.length cap∧L.length≤cap∧L.length≤1125899906842624∧cap≤maxLen∧(∀ i,i<L.length→∃ b o,ao=some ⟨b,o,none⟩∧∀ r,L[i]?=some r →
  w.cell? ⟨b,o+i*3,none⟩=some (.int .i64 r.f)∧w.cell? ⟨b,o+i*3+1,none⟩=some (.int .i64 r.t)∧w.cell? ⟨b,o+i*3+2,none⟩=some (.string r.s))
theorem IsL.keep {S:Nat→Prop} {w w':World} {v:Value} {L:List Rw} (h:IsL w v L) (hk:Kp S w w') (hn:∀ k,v.ownBlock=some k→¬ S k):IsL w' v L:=by
 obtain ⟨ao,cap,rfl,h1,h2,h2',h3⟩:=h
 refine ⟨ao,cap,rfl,h1,h2,h2',fun i hi=>?_⟩
 obtain ⟨b,o,rfl,ha⟩:=h3 i hi
 refine ⟨b,o,rfl,fun r hr=>?_⟩
 obtain ⟨q1,q2,q3⟩:=ha r hr
 have hs:¬ S b:=hn b rfl
 exact ⟨hk.cellv q1 hs,hk.cellv q2 hs,hk.cellv q3 hs⟩
theorem IsL.below {w w':World} {v:Value} {L:List Rw} (h:IsL w v L) (hk:Below w.heap.size w w'):IsL w' v L :=
 h.keep (Kp.ofBelow hk (fun _=>False)) (fun _ _=>id)
theorem IsL.get {w wr:World} {ao:Option Addr} {n cap:Nat} {L:List Rw} (h:IsL w (.slice ao n cap) L) (hb:Below w.heap.size w wr) {k:Nat} (hk:k<L.length) :
  ∃ b o r,ao=some ⟨b,o,none⟩∧L[k]?=some r∧wr.cell? ⟨b,o+k*3,none⟩=some (.int .i64 r.f)∧wr.cell? ⟨b,o+k*3+1,none⟩=some (.int .i64 r.t)∧wr.cell? ⟨b,o+k*3+2,none⟩=some (.string r.s)∧b<w.heap.size:=by
 have h':=h
 obtain ⟨_,_,e,_,_,_,h3⟩:=h.below hb
 obtain ⟨_,_,e',_,_,_,h3'⟩:=h'
 cases e
 cases e'
 obtain ⟨b,o,ha,h4⟩:=h3 k hk
 obtain ⟨q1,q2,q3⟩:=h4 L[k] (List.getElem?_eq_getElem hk)
 obtain ⟨b',o',ha',h4'⟩:=h3' k hk
 rw [ha] at ha'
 cases ha'
 exact ⟨b,o,L[k],ha,List.getElem?_eq_getElem hk,q1,q2,q3,World.block_lt_of_cell? w ⟨b,o+k*3,none⟩ (h4' L[k] (List.getElem?_eq_getElem hk)).1⟩
theorem IsL.ofOwns {w:World} {base:Nat} {e:TypeId} {v:Value} {L:List Rw} (h:w.ownsRow base e 3 v L.length (L.flatMap Rw.vals)) (hl:L.length≤1125899906842624):IsL w v L:=by
 have hc:=fun g hg=>h.cells (g:=g) hg
 rcases h.2 with ⟨rfl,h0⟩|⟨g,cap,cur,rfl,hb,hg,hn,hm,hs,ht⟩
 ·exact ⟨none,0,by rw [h0],by omega,hl,by unfold maxLen;omega,fun i hi=>by omega⟩
 ·refine ⟨_,cap,rfl,hn,hl,hm,fun i hi=>⟨_,_,rfl,fun r hr=>?_⟩⟩
  have key:∀ j,j<3→(L.flatMap Rw.vals)[i*3+j]?=r.vals[j]?:=by
   intro j hj
   clear hc h hb hg hn hm hs ht hl hi
   induction L generalizing i with
   | nil=>simp at hr
   | cons a L ih =>
    cases i with
    | zero =>
     obtain rfl:a=r:=by simpa using hr
     rw [List.flatMap_cons,List.getElem?_append_left (by simp [Rw.vals];omega)];simp
    | succ i =>
     rw [List.flatMap_cons,List.getElem?_append_right (by simp [Rw.vals];omega)]
     rw [show (i+1)*3+j - (Rw.vals a).length=i*3+j by simp [Rw.vals];omega]
     exact ih i (by simpa using hr)
  have hc':=hc g rfl
  have ad:∀ n,(⟨g,0,none⟩:Addr).add n=⟨g,0+n,none⟩:=by intro n;unfold Addr.add;split<;>simp_all
  have c0:=hc' (i*3) _ ((key 0 (by omega)).trans rfl)
  have c1:=hc' (i*3+1) _ ((key 1 (by omega)).trans rfl)
  have c2:=hc' (i*3+2) _ ((key 2 (by omega)).trans rfl)
  rw [ad] at c0 c1 c2
  exact ⟨c0,by rw [Nat.add_assoc];exact c1,by rw [Nat.add_assoc];exact c2⟩
end Go.Proofs.YtbmebfgapjhchaaGreatDoor
/- Plain mathematics: how a text's tokens are read into a tree. -/
namespace Go.Proofs.YtbmebfgapjhchaaGreatDoor
namespace X
abbrev Tok:=Nat × List UInt8
inductive Part where
 | leaf (k:Nat) (x:List UInt8)
 | miss (m:List UInt8)
 | br (k:Nat) (ps:List Part)
abbrev R:=List Tok→List Part × List Tok
def quiet (t:Tok):Bool:=t.1==1||t.1==2
def nxt (ts:List Tok):Option Tok:=(ts.dropWhile quiet).head?
def kindN (ts:List Tok):Nat:=match nxt ts with|some t=>t.1|none=>0
def isN (s:List UInt8) (ts:List Tok):Bool:=match nxt ts with|some t=>(t.1==4||t.1==7)&&t.2==s|none=>false
def lf (t:Tok):Part:=.leaf t.1 t.2
def take:R:=fun ts=>((ts.takeWhile quiet++(ts.dropWhile quiet).take 1).map lf,(ts.dropWhile quiet).drop 1)
def want (s:List UInt8):R:=fun ts=>if isN s ts then take ts else ([.miss s],ts)
def sName:List UInt8:=[110,97,109,101]
def sExpr:List UInt8:=[101,120,112,114,101,115,115,105,111,110]
def wname:R:=fun ts=>if kindN ts==3 then take ts else ([.miss sName],ts)
def andThen (f g:R):R:=fun ts=>((f ts).1++(g (f ts).2).1,(g (f ts).2).2)
def node (k:Nat) (f:R):R:=fun ts=>([.br k (f ts).1],(f ts).2)
def sevGo (one:R):Nat→R
 | 0=>fun ts=>([],ts)
 | n+1=>fun ts=>if isN [44] ts then andThen take (andThen one (sevGo one n)) ts else ([],ts)
def several (one:R) (e:List UInt8):R:=fun ts=>if isN e ts then want e ts else andThen one (andThen (fun ts=>sevGo one ts.length ts) (want e)) ts
def params:R:=node 6 (andThen (want [40]) (several wname [41]))
def rowGo (one:R) (ok:List Tok→Bool):Nat→List Part→R
 | 0,p=>fun ts=>(p,ts)
 | n+1,p=>fun ts=>if ok ts then rowGo one ok n [.br 10 (p++(andThen take one ts).1)] (andThen take one ts).2 else (p,ts)
def row (one:R) (ok:List Tok→Bool):R:=fun ts=>rowGo one ok (one ts).2.length (one ts).1 (one ts).2
def args (E:R):R:=node 12 (andThen take (several E [41]))
def callGo (E:R):Nat→List Part→R
 | 0,p=>fun ts=>(p,ts)
 | n+1,p=>fun ts=>if isN [40] ts then callGo E n [.br 11 (p++(args E ts).1)] (args E ts).2 else (p,ts)
def part (E:R):R:=fun ts =>
 if kindN ts==5 then node 15 take ts
 else if kindN ts==6 then node 16 take ts
 else if isN [116,114,117,101] ts||isN [102,97,108,115,101] ts then node 17 take ts
 else if kindN ts==3 then node 18 take ts
 else if isN [63] ts then node 19 take ts
 else if isN [40] ts then node 14 (andThen take (andThen E (want [41]))) ts
 else if isN [91] ts then node 13 (andThen take (several E [93])) ts
 else ([.miss sExpr],ts)
def call (E:R):R:=fun ts=>callGo E (part E ts).2.length (part E ts).1 (part E ts).2
def product (E:R):R:=row (call E) (isN [42])
def sum (E:R):R:=row (product E) (fun ts=>isN [43] ts||isN [45] ts||isN [43,43] ts)
def comparison (E:R):R:=fun ts =>
 if isN [61,61] (sum E ts).2||isN [60] (sum E ts).2 then ([.br 10 ((sum E ts).1++(andThen take (sum E) (sum E ts).2).1)],(andThen take (sum E) (sum E ts).2).2) else sum E ts
def expr:Nat→R
 | 0=>fun ts=>([.miss sExpr],ts)
 | n+1=>fun ts =>
  if isN [108,101,116] ts then node 7 (andThen take (andThen wname (andThen (want [61]) (andThen (expr n) (andThen (want [105,110]) (expr n)))))) ts
  else if isN [105,102] ts then node 8 (andThen take (andThen (expr n) (andThen (want [116,104,101,110]) (andThen (expr n) (andThen (want [101,108,115,101]) (expr n)))))) ts
  else if isN [102,117,110] ts then node 9 (andThen take (andThen params (andThen (want [61,62]) (expr n)))) ts
  else comparison (expr n) ts
def sUse:List UInt8:=[117,115,101]
def sPub:List UInt8:=[112,117,98]
def sDef:List UInt8:=[100,101,102]
def starts (ts:List Tok):Bool:=isN sUse ts||isN sPub ts||isN sDef ts
def junkGo:Nat→R
 | 0=>fun ts=>([],ts)
 | n+1=>fun ts=>if kindN ts==0||starts ts then ([],ts) else if isN [59] ts then take ts else andThen take (junkGo n) ts
def optPub:R:=fun ts=>if isN sPub ts then take ts else ([],ts)
def useR:R:=andThen (want sUse) (andThen wname (andThen (want [46]) (andThen wname (andThen (fun ts=>if isN [97,115] ts then andThen take wname ts else ([],ts)) (want [59])))))
def defR:R:=andThen (want sDef) (andThen wname (andThen (fun ts=>if isN [40] ts then params ts else ([],ts)) (andThen (want [61]) (andThen (expr 65) (want [59])))))
def kid (ts:List Tok):Nat × List Part × List Tok :=
 if starts ts then
  if isN sUse (optPub ts).2 then (3,andThen optPub useR ts) else (4,andThen optPub defR ts)
 else (5,junkGo ts.length ts)
def fileGo:Nat→List Tok→List Part
 | 0,ts=>ts.map lf
 | n+1,ts=>if kindN ts==0 then ts.map lf else .br (kid ts).1 (kid ts).2.1::fileGo n (kid ts).2.2
def file (ts:List Tok):Part:=.br 2 (fileGo ts.length ts)
def tb (ts:List Tok):List UInt8:=ts.flatMap (·.2)
mutual
def pb:Part→List UInt8
 | .leaf _ x=>x
 | .miss _=>[]
 | .br _ ps=>psb ps
def psb:List Part→List UInt8
 | []=>[]
 | p::ps=>pb p++psb ps
end
theorem psb_append (l r:List Part):psb (l++r)=psb l++psb r:=by
 induction l with
 | nil=>rfl
 | cons p l ih=>rw [List.cons_append,psb,ih,psb,List.append_assoc]
theorem psb_lf (ts:List Tok):psb (ts.map lf)=tb ts:=by
 induction ts with
 | nil=>rfl
 | cons t ts ih=>rw [List.map_cons,psb,ih];rfl
theorem tb_append (l r:List Tok):tb (l++r)=tb l++tb r:=List.flatMap_append
def Keeps (f:R):Prop:=∀ ts,psb (f ts).1++tb (f ts).2=tb ts
theorem Keeps.andThen {f g:R} (hf:Keeps f) (hg:Keeps g):Keeps (andThen f g):=by
 intro ts
 show psb ((f ts).1++(g (f ts).2).1)++tb (g (f ts).2).2=_
 rw [psb_append,List.append_assoc,hg,hf]
theorem Keeps.node {f:R} (hf:Keeps f) (k:Nat):Keeps (node k f):=by
 intro ts
 show psb [.br k _]++_=_
 rw [psb,pb,psb,List.append_nil];exact hf ts
theorem Keeps.nil:Keeps (fun ts=>([],ts)):=fun _=>rfl
theorem Keeps.miss (s:List UInt8):Keeps (fun ts=>([.miss s],ts)):=fun _=>rfl
theorem Keeps.ite {f g:R} {c:List Tok→Bool} (hf:Keeps f) (hg:Keeps g):Keeps (fun ts=>if c ts then f ts else g ts):=by
 intro ts
 show psb (if c ts then f ts else g ts).1++tb (if c ts then f ts else g ts).2=_
 split
 ·exact hf ts
 ·exact hg ts
theorem Keeps.take:Keeps take:=by
 intro ts
 show psb (List.map lf (ts.takeWhile quiet++(ts.dropWhile quiet).take 1))++tb ((ts.dropWhile quiet).drop 1)=_
 rw [psb_lf,← tb_append,List.append_assoc,List.take_append_drop,List.takeWhile_append_dropWhile]
theorem Keeps.want (s:List UInt8):Keeps (want s):=Keeps.ite (c:=isN s) Keeps.take (Keeps.miss s)
theorem Keeps.wname:Keeps wname:=Keeps.ite (c:=fun ts=>kindN ts==3) Keeps.take (Keeps.miss sName)
theorem Keeps.sevGo {one:R} (h:Keeps one):∀ n,Keeps (sevGo one n)
 | 0=>Keeps.nil
 | n+1=>Keeps.ite (c:=isN [44]) (Keeps.take.andThen (h.andThen (Keeps.sevGo h n))) Keeps.nil
theorem Keeps.several {one:R} (h:Keeps one) (e:List UInt8):Keeps (several one e) :=
 Keeps.ite (c:=isN e) (Keeps.want e) (h.andThen (Keeps.andThen (fun ts=>Keeps.sevGo h ts.length ts) (Keeps.want e)))
theorem Keeps.params:Keeps params:=((Keeps.want _).andThen (Keeps.wname.several _)).node 6
theorem Keeps.rowGo {one:R} {ok:List Tok→Bool} (h:Keeps one):∀ (n:Nat) (p:List Part) (ts:List Tok),psb (rowGo one ok n p ts).1++tb (rowGo one ok n p ts).2=psb p++tb ts
 | 0,p,ts=>rfl
 | n+1,p,ts=>by
  unfold X.rowGo
  split
  ·rw [Keeps.rowGo h n,psb,pb,psb,List.append_nil,psb_append,List.append_assoc,(Keeps.take.andThen h) ts]
  ·rfl
theorem Keeps.row {one:R} {ok:List Tok→Bool} (h:Keeps one):Keeps (row one ok):=fun ts=>(Keeps.rowGo h _ _ _).trans (h ts)
theorem Keeps.args {E:R} (h:Keeps E):Keeps (args E):=(Keeps.take.andThen (h.several _)).node 12
theorem Keeps.callGo {E:R} (h:Keeps E):∀ (n:Nat) (p:List Part) (ts:List Tok),psb (callGo E n p ts).1++tb (callGo E n p ts).2=psb p++tb ts
 | 0,p,ts=>rfl
 | n+1,p,ts=>by
  unfold X.callGo
  split
  ·rw [Keeps.callGo h n,psb,pb,psb,List.append_nil,psb_append,List.append_assoc,(Keeps.args h) ts]
  ·rfl
theorem Keeps.part {E:R} (h:Keeps E):Keeps (part E) :=
 Keeps.ite (c:=fun ts=>kindN ts==5) (Keeps.take.node _) <|
 Keeps.ite (c:=fun ts=>kindN ts==6) (Keeps.take.node _) <|
 Keeps.ite (c:=fun ts=>isN [116,114,117,101] ts||isN [102,97,108,115,101] ts) (Keeps.take.node _) <|
 Keeps.ite (c:=fun ts=>kindN ts==3) (Keeps.take.node _) <|
 Keeps.ite (c:=isN [63]) (Keeps.take.node _) <|
 Keeps.ite (c:=isN [40]) ((Keeps.take.andThen (h.andThen (Keeps.want _))).node _) <|
 Keeps.ite (c:=isN [91]) ((Keeps.take.andThen (h.several _)).node _) (Keeps.miss _)
theorem Keeps.call {E:R} (h:Keeps E):Keeps (call E):=fun ts=>(Keeps.callGo h _ _ _).trans (Keeps.part h ts)
theorem Keeps.product {E:R} (h:Keeps E):Keeps (product E):=h.call.row
theorem Keeps.sum {E:R} (h:Keeps E):Keeps (sum E):=h.product.row
theorem Keeps.comparison {E:R} (h:Keeps E):Keeps (comparison E):=by
 intro ts
 unfold X.comparison
 split
 ·rw [psb,pb,psb,List.append_nil,psb_append,List.append_assoc,(Keeps.take.andThen h.sum),h.sum ts]
 ·exact h.sum ts
theorem Keeps.expr:∀ n,Keeps (expr n)
 | 0=>Keeps.miss _
 | n+1 =>
  have h:=Keeps.expr n
  Keeps.ite (c:=isN [108,101,116]) ((Keeps.take.andThen (Keeps.wname.andThen ((Keeps.want _).andThen (h.andThen ((Keeps.want _).andThen h))))).node _) <|
  Keeps.ite (c:=isN [105,102]) ((Keeps.take.andThen (h.andThen ((Keeps.want _).andThen (h.andThen ((Keeps.want _).andThen h))))).node _) <|
  Keeps.ite (c:=isN [102,117,110]) ((Keeps.take.andThen (Keeps.params.andThen ((Keeps.want _).andThen h))).node _) h.comparison
theorem Keeps.junkGo:∀ n,Keeps (junkGo n)
 | 0=>Keeps.nil
 | n+1=>Keeps.ite (c:=fun ts=>kindN ts==0||starts ts) Keeps.nil (Keeps.ite (c:=isN [59]) Keeps.take (Keeps.take.andThen (Keeps.junkGo n)))
theorem Keeps.optPub:Keeps optPub:=Keeps.ite (c:=isN sPub) Keeps.take Keeps.nil
theorem Keeps.useR:Keeps useR :=
 (Keeps.want _).andThen (Keeps.wname.andThen ((Keeps.want _).andThen (Keeps.wname.andThen ((Keeps.ite (c:=isN [97,115]) (Keeps.take.andThen Keeps.wname) Keeps.nil).andThen (Keeps.want _)))))
theorem Keeps.defR:Keeps defR :=
 (Keeps.want _).andThen (Keeps.wname.andThen ((Keeps.ite (c:=isN [40]) Keeps.params Keeps.nil).andThen ((Keeps.want _).andThen ((Keeps.expr 65).andThen (Keeps.want _)))))
theorem kid_keeps (ts:List Tok):psb (kid ts).2.1++tb (kid ts).2.2=tb ts:=by
 unfold kid
 split
 ·split
  ·exact (Keeps.optPub.andThen Keeps.useR) ts
  ·exact (Keeps.optPub.andThen Keeps.defR) ts
 ·exact Keeps.junkGo _ ts
theorem fileGo_keeps:∀ (n:Nat) (ts:List Tok),psb (fileGo n ts)=tb ts
 | 0,ts=>psb_lf ts
 | n+1,ts=>by
  unfold fileGo
  split
  ·exact psb_lf ts
  ·rw [psb,pb,fileGo_keeps n,kid_keeps]
theorem file_keeps (ts:List Tok):pb (file ts)=tb ts:=fileGo_keeps _ ts
end X
end Go.Proofs.YtbmebfgapjhchaaGreatDoor
/- Plain mathematics: the tokens of a tree are those that were read. -/
namespace Go.Proofs.YtbmebfgapjhchaaGreatDoor
namespace X
mutual
def pl:Part→List Tok
 | .leaf k x=>[(k,x)]
 | .miss _=>[]
 | .br _ ps=>pls ps
def pls:List Part→List Tok
 | []=>[]
 | p::ps=>pl p++pls ps
end
theorem pls_append (l r:List Part):pls (l++r)=pls l++pls r:=by
 induction l with
 | nil=>rfl
 | cons p l ih=>rw [List.cons_append,pls,ih,pls,List.append_assoc]
theorem pls_lf (ts:List Tok):pls (ts.map lf)=ts:=by
 induction ts with
 | nil=>rfl
 | cons t ts ih=>rw [List.map_cons,pls,ih];rfl
def Lvs (f:R):Prop:=∀ ts,pls (f ts).1++(f ts).2=ts
theorem Lvs.andThen {f g:R} (hf:Lvs f) (hg:Lvs g):Lvs (andThen f g):=by
 intro ts
 show pls ((f ts).1++(g (f ts).2).1)++(g (f ts).2).2=_
 rw [pls_append,List.append_assoc,hg,hf]
theorem Lvs.node {f:R} (hf:Lvs f) (k:Nat):Lvs (node k f):=by
 intro ts
 show pls [.br k _]++_=_
 rw [pls,pl,pls,List.append_nil];exact hf ts
theorem Lvs.nil:Lvs (fun ts=>([],ts)):=fun _=>rfl
theorem Lvs.miss (s:List UInt8):Lvs (fun ts=>([.miss s],ts)):=fun _=>rfl
theorem Lvs.ite {f g:R} {c:List Tok→Bool} (hf:Lvs f) (hg:Lvs g):Lvs (fun ts=>if c ts then f ts else g ts):=by
 intro ts
 show pls (if c ts then f ts else g ts).1++(if c ts then f ts else g ts).2=_
 split
 ·exact hf ts
 ·exact hg ts
theorem Lvs.take:Lvs take:=by
 intro ts
 show pls (List.map lf (ts.takeWhile quiet++(ts.dropWhile quiet).take 1))++((ts.dropWhile quiet).drop 1)=_
 rw [pls_lf,List.append_assoc,List.take_append_drop,List.takeWhile_append_dropWhile]
theorem Lvs.want (s:List UInt8):Lvs (want s):=Lvs.ite (c:=isN s) Lvs.take (Lvs.miss s)
theorem Lvs.wname:Lvs wname:=Lvs.ite (c:=fun ts=>kindN ts==3) Lvs.take (Lvs.miss sName)
theorem Lvs.sevGo {one:R} (h:Lvs one):∀ n,Lvs (sevGo one n)
 | 0=>Lvs.nil
 | n+1=>Lvs.ite (c:=isN [44]) (Lvs.take.andThen (h.andThen (Lvs.sevGo h n))) Lvs.nil
theorem Lvs.several {one:R} (h:Lvs one) (e:List UInt8):Lvs (several one e) :=
 Lvs.ite (c:=isN e) (Lvs.want e) (h.andThen (Lvs.andThen (fun ts=>Lvs.sevGo h ts.length ts) (Lvs.want e)))
theorem Lvs.params:Lvs params:=((Lvs.want _).andThen (Lvs.wname.several _)).node 6
theorem Lvs.rowGo {one:R} {ok:List Tok→Bool} (h:Lvs one):∀ (n:Nat) (p:List Part) (ts:List Tok),pls (rowGo one ok n p ts).1++(rowGo one ok n p ts).2=pls p++ts
 | 0,p,ts=>rfl
 | n+1,p,ts=>by
  unfold X.rowGo
  split
  ·rw [Lvs.rowGo h n,pls,pl,pls,List.append_nil,pls_append,List.append_assoc,(Lvs.take.andThen h) ts]
  ·rfl
theorem Lvs.row {one:R} {ok:List Tok→Bool} (h:Lvs one):Lvs (row one ok):=fun ts=>(Lvs.rowGo h _ _ _).trans (h ts)
theorem Lvs.args {E:R} (h:Lvs E):Lvs (args E):=(Lvs.take.andThen (h.several _)).node 12
theorem Lvs.callGo {E:R} (h:Lvs E):∀ (n:Nat) (p:List Part) (ts:List Tok),pls (callGo E n p ts).1++(callGo E n p ts).2=pls p++ts
 | 0,p,ts=>rfl
 | n+1,p,ts=>by
  unfold X.callGo
  split
  ·rw [Lvs.callGo h n,pls,pl,pls,List.append_nil,pls_append,List.append_assoc,(Lvs.args h) ts]
  ·rfl
theorem Lvs.part {E:R} (h:Lvs E):Lvs (part E) :=
 Lvs.ite (c:=fun ts=>kindN ts==5) (Lvs.take.node _) <|
 Lvs.ite (c:=fun ts=>kindN ts==6) (Lvs.take.node _) <|
 Lvs.ite (c:=fun ts=>isN [116,114,117,101] ts||isN [102,97,108,115,101] ts) (Lvs.take.node _) <|
 Lvs.ite (c:=fun ts=>kindN ts==3) (Lvs.take.node _) <|
 Lvs.ite (c:=isN [63]) (Lvs.take.node _) <|
 Lvs.ite (c:=isN [40]) ((Lvs.take.andThen (h.andThen (Lvs.want _))).node _) <|
 Lvs.ite (c:=isN [91]) ((Lvs.take.andThen (h.several _)).node _) (Lvs.miss _)
theorem Lvs.call {E:R} (h:Lvs E):Lvs (call E):=fun ts=>(Lvs.callGo h _ _ _).trans (Lvs.part h ts)
theorem Lvs.product {E:R} (h:Lvs E):Lvs (product E):=h.call.row
theorem Lvs.sum {E:R} (h:Lvs E):Lvs (sum E):=h.product.row
theorem Lvs.comparison {E:R} (h:Lvs E):Lvs (comparison E):=by
 intro ts
 unfold X.comparison
 split
 ·rw [pls,pl,pls,List.append_nil,pls_append,List.append_assoc,(Lvs.take.andThen h.sum),h.sum ts]
 ·exact h.sum ts
theorem Lvs.expr:∀ n,Lvs (expr n)
 | 0=>Lvs.miss _
 | n+1 =>
  have h:=Lvs.expr n
  Lvs.ite (c:=isN [108,101,116]) ((Lvs.take.andThen (Lvs.wname.andThen ((Lvs.want _).andThen (h.andThen ((Lvs.want _).andThen h))))).node _) <|
  Lvs.ite (c:=isN [105,102]) ((Lvs.take.andThen (h.andThen ((Lvs.want _).andThen (h.andThen ((Lvs.want _).andThen h))))).node _) <|
  Lvs.ite (c:=isN [102,117,110]) ((Lvs.take.andThen (Lvs.params.andThen ((Lvs.want _).andThen h))).node _) h.comparison
theorem Lvs.junkGo:∀ n,Lvs (junkGo n)
 | 0=>Lvs.nil
 | n+1=>Lvs.ite (c:=fun ts=>kindN ts==0||starts ts) Lvs.nil (Lvs.ite (c:=isN [59]) Lvs.take (Lvs.take.andThen (Lvs.junkGo n)))
theorem Lvs.optPub:Lvs optPub:=Lvs.ite (c:=isN sPub) Lvs.take Lvs.nil
theorem Lvs.useR:Lvs useR :=
 (Lvs.want _).andThen (Lvs.wname.andThen ((Lvs.want _).andThen (Lvs.wname.andThen ((Lvs.ite (c:=isN [97,115]) (Lvs.take.andThen Lvs.wname) Lvs.nil).andThen (Lvs.want _)))))
theorem Lvs.defR:Lvs defR :=
 (Lvs.want _).andThen (Lvs.wname.andThen ((Lvs.ite (c:=isN [40]) Lvs.params Lvs.nil).andThen ((Lvs.want _).andThen ((Lvs.expr 65).andThen (Lvs.want _)))))
theorem kid_lvs (ts:List Tok):pls (kid ts).2.1++(kid ts).2.2=ts:=by
 unfold kid
 split
 ·split
  ·exact (Lvs.optPub.andThen Lvs.useR) ts
  ·exact (Lvs.optPub.andThen Lvs.defR) ts
 ·exact Lvs.junkGo _ ts
theorem fileGo_lvs:∀ (n:Nat) (ts:List Tok),pls (fileGo n ts)=ts
 | 0,ts=>pls_lf ts
 | n+1,ts=>by
  unfold fileGo
  split
  ·exact pls_lf ts
  ·rw [pls,pl,fileGo_lvs n,kid_lvs]
theorem file_lvs (ts:List Tok):pl (file ts)=ts:=fileGo_lvs _ ts
end X
end Go.Proofs.YtbmebfgapjhchaaGreatDoor
