import Derived.Test.YtoohcklcppnafaaGreatDoorJn
namespace Go.Proofs.YtoohcklcppnafaaGreatDoor
set_option maxRecDepth 100000
set_option maxHeartbeats 16000000
open Go.RowKit
open M
section
open Tryz
open X
theorem aS8:(prog.info? 222).map (fun i=>(i.zero,i.size,i.bytes))=some (some (.agg #[ak 0,ak 0,ak 0,ak 0]),4,32):=bC
theorem ZT(n:Nat)(hn:n≤268435456):∃ A:Array Value,A.size=n*4∧(∀ g,g<n*4→A[g]?=some (ak 0))∧∀ W:aG,(Instr.makeSlice 157 (ak n) (ak n)).run prog W=.ok (.slice (b_ W.heap.size) n n) (W.alloc (.cells A 222)):=by
 obtain⟨i,hi,z0,z1,z2⟩:=dM aS8;refine⟨madeCells (Value.agg #[ak 0,ak 0,ak 0,ak 0]).cells (n*i.size),by rw[size_madeCells,z1],fun g hg=>?_,fun W=>?_⟩
 ·rw[z1]
  have h4:g % 4=0∨g % 4=1∨g % 4=2∨g % 4=3:=au
  rcases h4 with e|e|e|e<;>simp[madeCells,Value.cells,hg,e]
 ·have:=run_make (P:=prog) W 157 222 i _ underlying157 hi z0 .i64 .i64 n n au (Int.le_refl _) (by rw[z2];omega) au
  simpa using this
namespace X
theorem OB{l:List It}{j:Nat}{it:It}(h:l[j]?=some it)(x:ah):iV (l.take (j+1)) x=match iV (l.take j) x with|some i=>some i|none=>if x≠[]∧(called it).1=x then some j else none:=by
 have hj:j<l.length:=by
  rcases cu j l.length with g|g
  ·exact g
  ·rw[bf g] at h;cases h
 unfold iV;by_cases hx:x=[]
 ·simp[hx]
 ·rw[aM hx,aM hx,lg h,List.findIdx?_append]
  cases hf:(l.take j).findIdx? (fun it=>(called it).1==x) with
  | some i=>simp
  | none =>
   by_cases e:(called it).1=x
   ·have e2:((called it).1==x)=true:=by simpa using e
    simp[wW,e,hx];omega
   ·have e2:((called it).1==x)=false:=by simpa using e
    simp[wW,e2,e]
end X
structure IsF(w w':aG)(iv:Value)(its:List It):Prop where
 blk:w'.heap[w.heap.size+2]?=some (.cells #[iv,.map (some w.heap.size),.slice (b_ (w.heap.size+1)) its.length its.length] 159 (0,0))
 mp:∃ k,Mp w' w.heap.size k (iV its)
 ans:∃ A,w'.heap[w.heap.size+1]?=some (.cells A 222 (0,0))∧A.size=its.length*4∧∀ g,g<its.length*4→A[g]?=some (ak 0)
 bl:Below w.heap.size w w'
theorem rW.UK{w w':aG}{lo hi:Nat}{rv:Value}{es:List It}{S:Nat→Prop}(h:rW w lo hi rv es)(hk:Kp S w w')(hS:∀ q,lo≤q→q<hi→¬ S q):rW w' lo hi rv es:=by
 obtain⟨ao,cap,vs,e,c1,c2,c3,c4⟩:=h.ex;exact⟨ao,cap,vs,e,c1,c2,fun j hj=>by obtain⟨g,x1,x2,x3,x4,c,f,x5⟩:=c3 j hj;exact⟨g,x1,x2,x3,hk.dD x4 (hS g x2 x3),c,f,hk.heap x5 (hS g x2 x3)⟩,fun j e hj=>(c4 j e hj).keep hk hS⟩
structure InR(W:aG)(nb:Nat)(its:List It)(j:Nat)(wr:aG):Prop where
 kp:Kp (fun q=>q=nb) W wr
 mp:Mp wr nb j (iV (its.take j))
theorem InR.more{W:aG}{nb:Nat}{its:List It}{j:Nat}{wr w2:aG}{it:It}(h:InR W nb its j wr)(he:its[j]?=some it)(hk:Kp (fun q=>q=nb) wr w2){k:Nat}{g:ah→Option Nat}(hm:Mp w2 nb k g)(hk1:k≤j+1)(hg:∀ x,g x=match iV (its.take j) x with|some i=>some i|none=>if x≠[]∧(called it).1=x then some j else none):InR W nb its (j+1) w2:=by
 refine⟨h.kp.trans hk (fun _ _ e=>e),?_⟩;obtain⟨D,o1,o2⟩:=hm;exact Mp.congr ⟨D,o1.mono hk1,o2⟩ (fun x=>by rw[hg x,OB he])
theorem KC(lo hi:Nat)(iv:Value)(its:List It)(w:aG)(hits:rW w lo hi iv its)(hhi:hi≤w.heap.size)(hlen:its.length≤268435456)(hB:∀ it∈its,X.PX 268435456 it) :
  bB 41 #[iv] w (cK (aH (w.heap.size+2)) fun w'=>Hid (IsF w w' iv its)):=by
 obtain⟨A,hA1,hA2,hA3⟩:=ZT its.length hlen;have hmm:=mkMap;obtain⟨ao,cap,vs,VZ,z2,z3,z4,z5⟩:=hits.ex;subst VZ;have UH:=aA hB;have Z4:=aA z4;have Z5:=aA z5;clear hB z4 z5 hits;go_enter func41,ntmps41
 go_upto_region 2 with fail
 have kW:Below w.heap.size w (((w.alloc (.map #[] 0)).alloc (.cells A 222)).alloc (.cells #[.slice ao its.length cap,.map (some w.heap.size),.slice (b_ (w.heap.size+1)) its.length its.length] 159)):=(((aB _ w).alloc (ax _) _).alloc aT _).alloc aQ _;have hM0:Mp (((w.alloc (.map #[] 0)).alloc (.cells A 222)).alloc (.cells #[.slice ao its.length cap,.map (some w.heap.size),.slice (b_ (w.heap.size+1)) its.length its.length] 159)) w.heap.size 0 (iV (its.take 0)):=by
  refine Mp.congr ((Mp.made w).below (((aB _ _).alloc (ax _) _).alloc aT _)) (fun x=>?_);rw[jr];unfold iV
  split<;>rfl
 have hA0:(((w.alloc (.map #[] 0)).alloc (.cells A 222)).alloc (.cells #[.slice ao its.length cap,.map (some w.heap.size),.slice (b_ (w.heap.size+1)) its.length its.length] 159)).heap[w.heap.size+1]?=some (.cells A 222 (0,0)):=by
  refine(eG _ _ aT).trans ?_;have:=aI (w.alloc (.map #[] 0)) (.cells A 222)
  simpa using this
 have KE:(((w.alloc (.map #[] 0)).alloc (.cells A 222)).alloc (.cells #[.slice ao its.length cap,.map (some w.heap.size),.slice (b_ (w.heap.size+1)) its.length its.length] 159)).heap[w.heap.size+2]?=some (.cells #[.slice ao its.length cap,.map (some w.heap.size),.slice (b_ (w.heap.size+1)) its.length its.length] 159 (0,0)):=by
  have:=aI ((w.alloc (.map #[] 0)).alloc (.cells A 222)) (.cells #[.slice ao its.length cap,.map (some w.heap.size),.slice (b_ (w.heap.size+1)) its.length its.length] 159)
  simpa using this
 have aT1:(((w.alloc (.map #[] 0)).alloc (.cells A 222)).alloc (.cells #[.slice ao its.length cap,.map (some w.heap.size),.slice (b_ (w.heap.size+1)) its.length its.length] 159)).heap.size=w.heap.size+3:=aT
 have HKW:=aA kW;have sH:=aA KE;have HA0:=aA hA0;have HI0:Hid (InR (((w.alloc (.map #[] 0)).alloc (.cells A 222)).alloc (.cells #[.slice ao its.length cap,.map (some w.heap.size),.slice (b_ (w.heap.size+1)) its.length its.length] 159)) w.heap.size its 0 (((w.alloc (.map #[] 0)).alloc (.cells A 222)).alloc (.cells #[.slice ao its.length cap,.map (some w.heap.size),.slice (b_ (w.heap.size+1)) its.length its.length] 159))):=⟨Kp.refl _ _,hM0⟩;have HSZ:=aA aT1;clear kW hM0 KE hA0 hmm hA3 aT1;generalize (((w.alloc (.map #[] 0)).alloc (.cells A 222)).alloc (.cells #[.slice ao its.length cap,.map (some w.heap.size),.slice (b_ (w.heap.size+1)) its.length its.length] 159))=W at *;go_wp2_with fail
 go_loopw [18] (fun v wr=>∃ j:Nat,v=ak j∧j≤its.length∧Hid (InR W w.heap.size its j wr)) (fun v _=>its.length - (intOf v).toNat)
 case atStart=>exact⟨0,rfl,bJ _,HI0⟩
 case round =>
  obtain⟨j,rfl,hj,HI⟩:=hrel;clear HI0;have k2r:=Kp.trans (Kp.aN HKW.o _) (HI.o).kp (fun _ _ e=>e);have hav:∀ q,lo≤q→q<hi→¬ q=w.heap.size:=fun q _ h e=>au
  by_cases hjl:j<its.length
  ·obtain⟨it,he⟩:∃ it,its[j]?=some it:=⟨its[j],aF hjl⟩
   obtain⟨g,hao,y1,y2,y3,-⟩:=(Z4.o) j hjl;have hi1:(j:Int)<(its.length:Int):=au
   have y4:=k2r.dD y3 (hav g y1 y2);have hIs:=((Z5.o) j it he).keep k2r hav;obtain⟨q1,q2⟩:=GV ((UH.o) it (dF he));have X_:(called it).1.length≤maxLen:=by unfold maxLen;omega
   obtain⟨b,hcase⟩:=Db hIs;have hFr:=(HI.o).kp.heap sH.o au;have f1:=aj wr _ 1 _ _ _ hFr;have hfl:=bN hFr;have hwr:w.heap.size+3≤wr.heap.size:=by have:=(HI.o).kp.size;have:=HSZ.o;omega
   subst hao;clear y3 hIs k2r hFr hav;generalize hnn:called it=nn at *;generalize vs j=vj at *;have HNN:=aA hnn;clear hnn;rcases hcase with ⟨rfl,hc⟩|⟨rfl,hc⟩
   all_goals
    have HC:=aA hc;clear hc;go_wp2_with fail
    refine(HC.o).aX fun w3 B3=>?_;have k3:Below wr.heap.size wr (w3.alloc (.cells #[.string (ba nn.1),ak nn.2] 163)):=B3.alloc B3.size _;have ZU:=(HI.o).mp.below (k3.drew);have hrun:=ZU.oV X_;have f13:=iY k3 hfl f1;have Ei:=aA (aI w3 (.cells #[.string (ba nn.1),ak nn.2] 163));have n03:=aj _ _ 0 _ _ _ Ei.o;have n13:=aj _ _ 1 _ _ _ Ei.o;have hw3:=B3.size;have hw4:(w3.alloc (.cells #[.string (ba nn.1),ak nn.2] 163)).heap.size=w3.heap.size+1:=aT
    have qz:=aA k3;have w_:=aA ZU;clear k3 ZU HC B3;cases htp:iV (its.take j) nn.1 with
    | some i =>
     rw[htp] at hrun;have hrun':(Instr.lookup 73 (.map (some w.heap.size)) (.string (ba nn.1)) true).run prog (w3.alloc (.cells #[.string (ba nn.1),ak nn.2] 163)).drew=.ok (.tuple #[ak (i:Nat),.bool true]) (w3.alloc (.cells #[.string (ba nn.1),ak nn.2] 163)).drew:=hrun;have HI3:=aA <| (HI.o).more he (Kp.aN (qz.o).drew _) w_.o au (fun x=>by
      cases hx:iV (its.take j) x with
      | some i=>rfl
      | none =>
       have:¬(x≠[]∧(called it).1=x):=fun e=>by rw[HNN.o] at e;rw[← e.2,htp] at hx;cases hx
       show _=if _ then _ else _
       rw[aM this])
     clear hrun w_ qz HI hw4;go_wp2_with fail
     generalize w3.alloc (.cells #[.string (ba nn.1),ak nn.2] 163)=W4 at *
     go_region_held3 (fun w'=>w'.cell? (aC (w.heap.size+2) 1)=some (.map (some w.heap.size))∧w'.cell? (aC w3.heap.size 0)=some (.string (ba nn.1))∧(Instr.lookup 73 (.map (some w.heap.size)) (.string (ba nn.1)) true).run prog w'=.ok (.tuple #[ak (i:Nat),.bool true]) w')
      (first|(with_reducible exact⟨f13,n03,hrun'⟩)|go_keep)
      (fail)
     clear hrun' f13 n03 n13;go_wp2_with fail
     exact⟨⟨j+1,aT,au,HI3⟩,by simp[intOf];omega⟩
    | none =>
     rw[htp] at hrun;have hrun':(Instr.lookup 73 (.map (some w.heap.size)) (.string (ba nn.1)) true).run prog (w3.alloc (.cells #[.string (ba nn.1),ak nn.2] 163)).drew=.ok (.tuple #[ak 0,.bool false]) (w3.alloc (.cells #[.string (ba nn.1),ak nn.2] 163)).drew:=hrun;clear hrun;go_wp2_with fail
     generalize w3.alloc (.cells #[.string (ba nn.1),ak nn.2] 163)=W4 at *
     go_region_held3 (fun w'=>w'.cell? (aC (w.heap.size+2) 1)=some (.map (some w.heap.size))∧w'.cell? (aC w3.heap.size 0)=some (.string (ba nn.1))∧(Instr.lookup 73 (.map (some w.heap.size)) (.string (ba nn.1)) true).run prog w'=.ok (.tuple #[ak 0,.bool false]) w')
      (first|(with_reducible exact⟨f13,n03,hrun'⟩)|go_keep)
      (fail)
     have f14:W4.drew.cell? (aC (w.heap.size+2) 1)=some (.map (some w.heap.size)):=f13;have n04:W4.drew.cell? (aC w3.heap.size 0)=some (.string (ba nn.1)):=n03;have n14:W4.drew.cell? (aC w3.heap.size 1)=some (ak nn.2):=n13;have JF:=aA <| (qz.o).drew;have hs4:W4.drew.heap.size=w3.heap.size+1:=hw4;clear hrun' f13 n03 n13 hw4 qz Ei;generalize W4.drew=Wd at *;by_cases hn:nn.1=[]
     ·have e1:nn.1.isEmpty=true:=by rw[hn];rfl
      have Gq:=aA (nH nn.1 nn.2 Wd true e1);have HH:Hid (∀ x,iV (its.take j) x=match iV (its.take j) x with|some i=>some i|none=>if x≠[]∧(called it).1=x then some j else none):=fun x=>by
       cases hx:iV (its.take j) x with
       | some i=>rfl
       | none =>
        have:¬(x≠[]∧(called it).1=x):=fun e=>by rw[HNN.o] at e;exact e.1 (e.2.symm.trans hn)
        show _=if _ then _ else _
        rw[aM this]
      clear hn;go_wp2_with fail
      refine(Gq.o).aX fun w5 B5=>?_;have sQ:=aA <| (HI.o).more he (Kp.aN ((JF.o).trans (B5.mono (JF.o).size)) _) ((w_.o).below B5) au HH.o;clear B5 Gq HI w_ JF f14 n04 n14;go_wp2_with fail
      exact⟨⟨j+1,aT,au,sQ⟩,by simp[intOf];omega⟩
     ·have e1:nn.1.isEmpty=false:=by cases hx:nn.1 with|nil=>exact absurd hx hn|cons a l=>rfl
      have Gq:=aA (nH nn.1 nn.2 Wd false e1);have HH:Hid (∀ x,upd (iV (its.take j)) nn.1 j x=match iV (its.take j) x with|some i=>some i|none=>if x≠[]∧(called it).1=x then some j else none):=fun x=>by
       unfold upd;rw[HNN.o];by_cases e:x=nn.1
       ·subst e
        rw[aU rfl,htp];show _=if _ then _ else _
        rw[aU ⟨hn,rfl⟩]
       ·rw[aM e]
        cases hx:iV (its.take j) x with
        | some i=>rfl
        | none =>
         show _=if _ then _ else _
         rw[aM (fun e2=>e e2.2.symm)]
      clear hn;go_wp2_with fail
      refine(Gq.o).aX fun w5 B5=>?_;have f15:=iY B5 au f14;have n05:=iY B5 au n04;have HK5:=aA <| (JF.o).trans (B5.mono (JF.o).size);have XE:=aA <| ((w_.o).below B5).below ((aB _ w5).drew);have hjm:j<maxLen:=by unfold maxLen;omega
      have hn2:j≤9223372036854775807:=au
      clear B5 Gq w_ JF f14 n04 n14;go_wp2_with fail
      refine dB (S:=fun w'=>w'.cell? (aC (w.heap.size+2) 1)=some (.map (some w.heap.size))∧w'.cell? (aC w3.heap.size 0)=some (.string (ba nn.1))) (z:=7) bC ?_;have hS:w5.drew.cell? (aC (w.heap.size+2) 1)=some (.map (some w.heap.size))∧w5.drew.cell? (aC w3.heap.size 0)=some (.string (ba nn.1)):=⟨f15,n05⟩;iterate 7(refine ny hS ?_;simp only[Act.put,aD,aO,aP])
      refine fw 7 fun K hK=>?_;refine yC (by rfl) _ _ _ (by rfl) w.heap.size j (iV (its.take j)) (by rfl) XE.o hjm nn.1 X_ j hn2 (by rfl) (by rfl) ?_;intro w6 aT4 Zv;refine hK.o _ _ (fun h=>absurd rfl h) (fun _=>iF ?_);clear hK K hS;have Gb:=aA <| (HI.o).more he (Kp.trans (Kp.aN (HK5.o).drew _) Zv (fun _ _ e=>e)) aT4 (ax _) HH.o;clear aT4 Zv XE HK5 HI f15 n05;go_wp2_with fail
      exact⟨⟨j+1,aT,au,Gb⟩,by simp[intOf];omega⟩
  ·obtain rfl:j=its.length:=by omega
   have hd1:¬(its.length:Int)<(its.length:Int):=au
   have HF:Hid (IsF w wr (.slice ao its.length cap) its):=by
    have hk:=(HI.o).kp;refine⟨hk.heap sH.o au,⟨its.length,?_⟩,⟨A,hk.heap HA0.o au,hA1,hA2⟩,k2r.below (ax _) (fun q e=>au)⟩;have:=(HI.o).mp;rw[fC] at this;exact this
   clear HI k2r hav;go_wp2_with fail
   go_ret;exact⟨rfl,HF⟩
end
section
open X
variable{l:List AF}{i:Nat}{a:AF}{w wr:aG}{rv:Value}{vs:List Value}{IV:Nat→Value}{Lo Hi:Nat→Nat}
namespace X
theorem MG:∀(l:List U) (lo hi:Nat),gG lo hi l→l.length≤hi - lo
 | [],lo,hi,_=>bJ _
 | a::l,lo,hi,h=>by
  obtain⟨h1,h2⟩:=h;rw[PO] at h1;have ha:=h2 a aT;have:=MG l (a.i+1) hi ⟨h1.2,fun u hu=>⟨h1.1 u hu,(h2 u (by simp[hu])).2⟩⟩;rw[aY];omega
def T0:ah:=[100,101,102,32,120,32,61,32,49,59]
def I0:List It:=[.dfn false ([120],4) none (.lit 15 [49])]
theorem aT8:iy (xt T0)=[.br 4 [.leaf 4 [100,101,102],.leaf 1 [32],.leaf 3 [120],.leaf 1 [32],.leaf 7 [61],.br 15 [.leaf 1 [32],.leaf 5 [49]],.leaf 7 [59]]]:=bC
theorem qu0:∀ q∈[Part.leaf 1 [32]],lq q=true:=fun q hq=>by rw[jP.1 hq];rfl
theorem bL9:uG (iy (xt T0)) 0 I0:=by
 rw[aT8];refine uG.item (.br 4 ([]++([.leaf 4 [100,101,102]]++([.leaf 1 [32],.leaf 3 [120]]++([]++([.leaf 1 [32],.leaf 7 [61]]++([.br 15 [.leaf 1 [32],.leaf 5 [49]]]++[.leaf 7 [59]]))))))) [] 0 _ [] ?_ (.leaves [] _ (fun q hq=>by cases hq));exact .dfn [] [.leaf 4 [100,101,102]] [.leaf 1 [32],.leaf 3 [120]] [] [.leaf 1 [32],.leaf 7 [61]] (.br 15 [.leaf 1 [32],.leaf 5 [49]]) [.leaf 7 [59]] 0 false ([120],4) none (.lit 15 [49]) .no (.inl ⟨4,[100,101,102],[],⟨rfl,fun q hq=>(by cases hq),aS⟩,aS⟩) (.name _ [120] [.leaf 1 [32]] 3 ⟨rfl,qu0,aS⟩) (.no _) (.inl ⟨7,[61],[.leaf 1 [32]],⟨rfl,qu0,aS⟩⟩) (.lit 15 5 [49] _ [.leaf 1 [32]] _ aS ⟨rfl,qu0,aS⟩) (.inl ⟨7,[59],[],⟨rfl,fun q hq=>(by cases hq),aS⟩⟩)
def T1:ah:=[100,101,102,32,121,32,61,32,49,59]
def I1:List It:=[.dfn false ([121],4) none (.lit 15 [49])]
theorem aT9:iy (xt T1)=[.br 4 [.leaf 4 [100,101,102],.leaf 1 [32],.leaf 3 [121],.leaf 1 [32],.leaf 7 [61],.br 15 [.leaf 1 [32],.leaf 5 [49]],.leaf 7 [59]]]:=bC
theorem bM0:uG (iy (xt T1)) 0 I1:=by
 rw[aT9];refine uG.item (.br 4 ([]++([.leaf 4 [100,101,102]]++([.leaf 1 [32],.leaf 3 [121]]++([]++([.leaf 1 [32],.leaf 7 [61]]++([.br 15 [.leaf 1 [32],.leaf 5 [49]]]++[.leaf 7 [59]]))))))) [] 0 _ [] ?_ (.leaves [] _ (fun q hq=>by cases hq));exact .dfn [] [.leaf 4 [100,101,102]] [.leaf 1 [32],.leaf 3 [121]] [] [.leaf 1 [32],.leaf 7 [61]] (.br 15 [.leaf 1 [32],.leaf 5 [49]]) [.leaf 7 [59]] 0 false ([121],4) none (.lit 15 [49]) .no (.inl ⟨4,[100,101,102],[],⟨rfl,fun q hq=>(by cases hq),aS⟩,aS⟩) (.name _ [121] [.leaf 1 [32]] 3 ⟨rfl,qu0,aS⟩) (.no _) (.inl ⟨7,[61],[.leaf 1 [32]],⟨rfl,qu0,aS⟩⟩) (.lit 15 5 [49] _ [.leaf 1 [32]] _ aS ⟨rfl,qu0,aS⟩) (.inl ⟨7,[59],[],⟨rfl,fun q hq=>(by cases hq),aS⟩⟩)
noncomputable def fA(x:ah):List It:=open Classical in if x=T0 then I0 else if x=T1 then I1 else if h:∃ its,uG (iy (xt x)) 0 its then Classical.choose h else []
theorem vP(x:ah):uG (iy (xt x)) 0 (fA x):=by
 have h:=He _ (xt x) (ax _) (fun t ht e=>by have:=(zw x t ht).2.2.2.1;omega) 0;unfold fA;by_cases e:x=T0
 ·rw[aU e,e];exact bL9
 ·rw[aM e]
  by_cases e1:x=T1
  ·rw[aU e1,e1];exact bM0
  ·rw[aM e1,dif_pos h]
   exact Classical.choose_spec h
end X
noncomputable def dA(l:List AF):List Fl:=l.map fun a=>(bs a.n,fA (bs a.t))
theorem jc(h:l[i]?=some a):bI (dA l) i=fA (bs a.t):=by
 unfold bI dA;rw[bG,iI,h];rfl
theorem Af(l:List AF):(dA l).length=l.length:=by unfold dA;rw[cB]
theorem OC(h:l.length≤i):bI (dA l) i=[]:=by
 unfold bI dA;rw[bG,iI,bf h];rfl
def Short(l:List AF):Prop:=∀ a∈l,a.t.size≤1000000
theorem Ae{x:ah}(h:x.length≤1000000):pz (iy (xt x))≤1000000∧eT (iy (xt x))≤268435456:=by
 have hb:X.pb (X.file (xt x))=x:=by rw[vg,RZ]
 refine⟨by rw[MH,hb];exact h,?_⟩;have hll:(xt x).length≤x.length:=by
  have:=sZ _ 0 x (ax _);unfold xt;rw[cB];exact this
 have h1:=AU (xt x);have h3:jh (X.file (xt x))=1+eT (iy (xt x)):=rfl;omega
theorem uU(h:Short l)(i:Nat):(∀ it∈bI (dA l) i,X.PX 268435456 it)∧(bI (dA l) i).length≤268435456∧∀ fs f,(jZ fs f 0 (bI (dA l) i)).length≤1000000:=by
 rcases cu i l.length with g|g
 ·have ha:=aF g
  rw[jc ha];have hr:=vP (bs l[i].t);obtain⟨p1,p2⟩:=Ae (x:=bs l[i].t) (by rw[eY];exact h _ (List.getElem_mem g));refine⟨aU0 hr au p2,?_,fun fs f=>?_⟩
  ·have h1:=MI hr
   have h2:=iH (iy (xt (bs l[i].t)));omega
  ·have:=MG _ _ _ (R3 (fs:=fs) (f:=f) hr 0)
   omega
 ·rw[OC g]
  exact⟨fun it hit=>(by cases hit),bJ _,fun fs f=>(by rw[jZ];exact bJ _)⟩
def BK(fs:List Fl)(j:Nat):List X.U:=(List.range j).flatMap fun f=>jZ fs f 0 (bI fs f)
theorem Ag(fs:List Fl)(j:Nat):BK fs (j+1)=BK fs j++jZ fs j 0 (bI fs j):=by
 unfold BK;rw[List.range_succ,pK];simp
theorem El{l:List AF}(h:Short l):∀ j,(BK (dA l) j).length≤j*1000000
 | 0=>bJ _
 | j+1=>by
  rw[Ag,ay];have:=El h j;have:=(uU h j).2.2 (dA l) j;omega
theorem LQ{s:ByteArray}(h:pR s=true):bs s≠[]:=by
 intro e;unfold pR at h;rw[e] at h;simp[lH] at h
theorem V3:∀ {seen:List (ah)},Ac l seen=0→(∀ a∈l,pR a.n=true)∧(l.map (fun a=>bs a.n)).Pairwise (·≠·)∧∀ a∈l,bs a.n∉seen:=by
 induction l with
 | nil=>intro seen _;exact⟨fun a h=>(by cases h),List.Pairwise.nil,fun a h=>(by cases h)⟩
 | cons a l ih =>
  intro seen h;rw[Ac] at h;cases hn:pR a.n with
  | false=>rw[hn] at h;simp at h
  | true =>
   rw[hn,aU rfl] at h;by_cases hm:bs a.n∈seen
   ·rw[aU hm] at h;cases h
   ·rw[aM hm] at h
    obtain⟨h1,h2,h3⟩:=ih h;refine⟨fun b hb=>?_,?_,fun b hb=>?_⟩
    ·rcases fJ.1 hb with rfl|hb
     ·exact hn
     ·exact h1 b hb
    ·rw[iO,PO]
     refine⟨fun x hx e=>?_,h2⟩;obtain⟨b,hb,rfl⟩:=fU.1 hx;exact h3 b hb (by rw[← e];simp)
    ·rcases fJ.1 hb with rfl|hb
     ·exact hm
     ·exact fun e=>h3 b hb (by simp[e])
theorem zI(h:∀ a∈l,pR a.n=true)(x:ah):m_ (dA l) x=mR l x:=by
 have e1:(dA l).findIdx? (fun f=>f.1==x)=mR l x:=by
  unfold dA mR;rw[List.findIdx?_map];rfl
 unfold m_;by_cases hx:x=[]
 ·rw[aU hx]
  cases hi:mR l x with
  | none=>rfl
  | some i =>
   exfalso;have:=(qN l x).1 (by rw[hi];rfl);obtain⟨a,ha,e⟩:=fU.1 this;exact LQ (h a ha) (e.trans hx)
 ·rw[aM hx,e1]
structure EX(w:aG)(B:Nat)(rv:Value)(l:List AF)(IV:Nat→Value)(Lo Hi:Nat→Nat):Prop where
 ex:∃(ao:Option Addr) (cap:Nat),rv=.slice ao l.length cap∧l.length≤cap∧cap≤maxLen∧∀(j:Nat) (a:AF),l[j]?=some a→∃ g,ao=some ⟨g,0,none⟩∧g<w.heap.size∧B≤g∧w.cell? (aC g (j*2))=some (.string a.n)∧w.cell? (aC g (j*2+1))=some (IV j)
 its:∀(j:Nat) (a:AF),l[j]?=some a→rW w (Lo j) (Hi j) (IV j) (fA (bs a.t))∧B≤Lo j∧Hi j≤w.heap.size
structure Hf(w:aG)(l:List AF)(j:Nat)(rv:Value)(vs:List Value)(IV:Nat→Value)(Lo Hi:Nat→Nat)(wr:aG):Prop where
 bl:Below w.heap.size w wr
 row:wr.ownsRow w.heap.size 83 2 rv j vs
 len:vs.length=j*2
 val:∀ i a,i<j→l[i]?=some a→vs[i*2]?=some (.string a.n)∧vs[i*2+1]?=some (IV i)
 its:∀ i a,i<j→l[i]?=some a→rW wr (Lo i) (Hi i) (IV i) (fA (bs a.t))∧w.heap.size≤Lo i∧Hi i≤wr.heap.size
 far:∀ g,rv.ownBlock=some g→∀ i,i<j→¬(Lo i≤g∧g<Hi i)
theorem Hf.more{j:Nat}{w2 w6 w7:aG}{iv:Value}{lo g cap:Nat}(h:Hf w l j rv vs IV Lo Hi wr)(ha:l[j]?=some a)(hb2:Below wr.heap.size wr w2)(hlo:wr.heap.size≤lo)(hits:rW w2 lo w2.heap.size iv (fA (bs a.t)))(hb6:Below w2.heap.size w2 w6)
  (hown:w7.ownsRow w.heap.size 83 2 (.slice (b_ g) (j+1) cap) (j+1) (vs++[.string a.n,iv])) (hgrow:w6.grownBy w7 rv.ownBlock) (hat:rv.ownBlock=some g∨g=w6.heap.size) :
  Hf w l (j+1) (.slice (b_ g) (j+1) cap) (vs++[.string a.n,iv]) (fun i=>if i=j then iv else IV i) (fun i=>if i=j then lo else Lo i) (fun i=>if i=j then w2.heap.size else Hi i) w7:=by
 have s2:=hb2.size;have s6:=hb6.size;have s0:=h.bl.size;have hown0:∀ q,rv.ownBlock=some q→w.heap.size≤q∧q<wr.heap.size:=fun q hq=>dG h.row q hq
 have Ju:=(Kp.refl _ w6).grown hgrow (fun q e _=>e);have k27:=(Kp.aN hb6 _).trans Ju (fun _ _ e=>e);have kr7:=(Kp.aN hb2 _).trans k27 (fun _ _ e=>e);have s7:=Ju.size;refine⟨h.bl.trans (kr7.below s0 (fun q e=>(hown0 q e).1)),hown,by rw[ay,h.len];show _+2=_;omega,fun i b hi hb=>?_,fun i b hi hb=>?_,fun q hq i hi=>?_⟩
 ·by_cases hij:i=j
  ·subst hij
   rw[ha] at hb;cases hb
   rw[aU rfl,bL (by rw[h.len];exact ax _),bL (by rw[h.len];omega),h.len];exact⟨by rw[iZ];rfl,by rw[BD];rfl⟩
  ·rw[aM hij]
   have:=h.val i b au hb;rw[bT (by rw[h.len];omega),bT (by rw[h.len];omega)];exact this
 ·by_cases hij:i=j
  ·subst hij
   rw[ha] at hb;cases hb
   rw[aU rfl,aU rfl,aU rfl];exact⟨hits.UK k27 (fun q h1 _ e=>by have:=(hown0 q e).2;omega),au,au⟩
  ·rw[aM hij,aM hij,aM hij]
   obtain⟨b1,b2,b3⟩:=h.its i b au hb;exact⟨b1.UK kr7 (fun q h1 h2 e=>h.far q e i au ⟨h1,h2⟩),b2,au⟩
 ·obtain rfl:q=g:=by cases hq;rfl
  by_cases hij:i=j
  ·rw[aU hij,aU hij]
   rcases hat with e|e
   ·have:=(hown0 _ e).2
    omega
   ·omega
  ·rw[aM hij,aM hij]
   rcases hat with e|e
   ·exact h.far _ e i au
   ·have hil:i<l.length:=by
     have:j<l.length:=by
      rcases cu j l.length with g|g
      ·exact g
      ·rw[bf g] at ha;cases ha
     omega
    have:=(h.its i l[i] au (aF hil)).2.2;omega
theorem Hf.done(h:Hf w l l.length rv vs IV Lo Hi wr):EX wr w.heap.size rv l IV Lo Hi:=by
 have hlt:∀ {j:Nat} {a:AF},l[j]?=some a→j<l.length:=fun {j a} ha=>by
  rcases cu j l.length with g|g
  ·exact g
  ·rw[bf g] at ha;cases ha
 refine⟨?_,fun j a ha=>h.its j a (hlt ha) ha⟩;have hr:=h.row;have hc:=fun g hg=>hr.cells (g:=g) hg
 rcases hr.2 with ⟨e,h0⟩|⟨g,cap,cur,e,hge,hgg,hnn,hm,-,-⟩
 ·exact⟨none,0,by rw[h0];exact e,by rw[h0];exact ax _,by unfold maxLen;omega,fun j a ha=>by have:=hlt ha;omega⟩
 ·refine⟨_,cap,e,hnn,hm,fun j a ha=>⟨g,rfl,bN hgg,hge,?_,?_⟩⟩
  ·have:=hc g (by rw[e];rfl) _ _ (h.val j a (hlt ha) ha).1
   rwa[dQ,bS] at this
  ·have:=hc g (by rw[e];rfl) _ _ (h.val j a (hlt ha) ha).2
   rwa[dQ,bS] at this
structure MJ(w:aG)(l:List AF)(mb wb:Nat)(j:Nat)(Bf:Nat→Nat)(IV:Nat→Value)(fv:Value)(wr:aG):Prop where
 bl:Below w.heap.size w wr
 blk:wr.heap[wb]?=some (.cells #[.map (some mb),fv] 104 (0,0))
 mp:Mp wr mb j (mR (l.take j))
 row:wr.ownsRow w.heap.size 105 1 fv j ((List.range j).map fun i=>aH (Bf i+2))
 far:∀ g,fv.ownBlock=some g→g≠mb∧g≠wb∧∀ i,i<j→¬(Bf i≤g∧g≤Bf i+2)
 ord:∀ i,i<j→wb<Bf i∧mb<Bf i∧Bf i+2<wr.heap.size
 asc:∀ i i',i<i'→i'<j→Bf i+2<Bf i'
 fil:∀ i a,i<j→l[i]?=some a→wr.heap[Bf i+2]?=some (.cells #[IV i,.map (some (Bf i)),.slice (b_ (Bf i+1)) (fA (bs a.t)).length (fA (bs a.t)).length] 159 (0,0))∧(∃ k,Mp wr (Bf i) k (iV (fA (bs a.t))))∧∃ A,wr.heap[Bf i+1]?=some (.cells A 222 (0,0))∧A.size=(fA (bs a.t)).length*4∧∀ g,g<(fA (bs a.t)).length*4→A[g]?=some (ak 0)
end
section
open Tryz
open X
theorem ZV:(prog.info? 83).map (fun i=>(i.zero,i.size,i.bytes))=some (some (.agg #[.string ⟨#[]⟩,.slice none 0 0]),2,40):=bC
theorem Hg(ao:Option Addr)(cap:Nat)(l:List AF)(w:aG)(hT:nE w)(h:sw w w.heap.size ao l)(hn16:l.length≤16)(hsh:Short l) :
  bB 12 #[.slice ao l.length cap] w fun e w'=>∃ rv,e=.returned rv∧Hid ((∃ IV Lo Hi,EX w' w.heap.size rv l IV Lo Hi)∧Below w.heap.size w w'):=by
 obtain⟨i0,hi0,hz0,hz1,hz2⟩:=dM ZV;have HT:=aA hT;have HL:=aA h;have HSH:=aA hsh;have HI0:Hid (∃ vs IV Lo Hi,Hf w l 0 (.slice none 0 0) vs IV Lo Hi w):=⟨[],fun _=>undef,fun _=>0,fun _=>0,aB _ w,dK _ _ _ _,rfl,fun i a hi=>au,fun i a hi=>au,fun g hg=>by cases hg⟩;clear h hT hsh;go_enter func12,ntmps12;go_wp2_with fail
 go_loopw [3,8] (fun sv v wr=>∃(j:Nat) (rv:Value),rv=sv∧v=ak j∧j≤l.length∧Hid (∃ vs IV Lo Hi,Hf w l j rv vs IV Lo Hi wr)) (fun _ v _=>l.length - (intOf v).toNat)
 case atStart=>exact⟨0,_,rfl,rfl,bJ _,HI0⟩
 case round =>
  obtain⟨j,rv,rfl,rfl,hj,HI⟩:=hrel;clear HI0;by_cases hjl:j<l.length
  ·obtain⟨a,ha⟩:∃ a,l[j]?=some a:=⟨l[j],aF hjl⟩
   obtain⟨vs,IV,Lo,Hi,hin⟩:=HI.o;clear HI;obtain⟨b,o,e1,e2,e3,e4⟩:=(HL.o).below hin.bl j a ha;subst e1;have hi1:(j:Int)<(l.length:Int):=au
   have hts:=(HSH.o) a (dF ha);have HZ:Hid (jh (X.file (xt (bs a.t)))≤268435456∧X.pb (X.file (xt (bs a.t)))=bs a.t):=by
    have hll:(xt (bs a.t)).length≤a.t.size:=by
     have:=sZ _ 0 (bs a.t) (ax _);rw[eY] at this;unfold xt;rw[cB];exact this
    exact⟨by have:=AU (xt (bs a.t));omega,by rw[vg,RZ]⟩
   have kF:Below wr.heap.size wr (wr.alloc (.cells #[.string a.n,.string a.t] 46)):=(aB _ _).alloc (ax _) _;have KE:=aI wr (.cells #[.string a.n,.string a.t] 46);have n0:(wr.alloc (.cells #[.string a.n,.string a.t] 46)).cell? (aC wr.heap.size 0)=some (.string a.n):=aj _ _ 0 _ _ _ KE;have n1:(wr.alloc (.cells #[.string a.n,.string a.t] 46)).cell? (aC wr.heap.size 1)=some (.string a.t):=aj _ _ 1 _ _ _ KE;have hlt:=bN KE;have HNw:=aA (Hl a.t (wr.alloc (.cells #[.string a.n,.string a.t] 46)).drew ((HT.o).below ((hin.bl.alloc hin.bl.size _).drew)) au);have KF:=aA hin;have yQ:=aA kF;have hww:=hin.bl.size;have hrs:∃ fa fn fc,rv=.slice fa fn fc:=by
    rcases hin.row.2 with ⟨e,-⟩|⟨g',cap',cur,e,-⟩
    ·exact⟨_,_,_,e⟩
    ·exact⟨_,_,_,e⟩
   obtain⟨fa,fn,fc,rfl⟩:=hrs;clear hin kF KE;go_wp2_with fail
   generalize wr.alloc (.cells #[.string a.n,.string a.t] 46)=Wa at *;refine dB (S:=fun w'=>w'.cell? (aC wr.heap.size 0)=some (.string a.n)∧w'.cell? (aC wr.heap.size 1)=some (.string a.t)) (z:=10) bC ?_;have hS:Wa.drew.cell? (aC wr.heap.size 0)=some (.string a.n)∧Wa.drew.cell? (aC wr.heap.size 1)=some (.string a.t):=⟨n0,n1⟩;iterate 5(refine ny hS ?_;simp only[Act.put,aD,aO,aP])
   refine fw 5 fun K hK=>?_;go_simp;refine(HNw.o).mono ?_;rintro e w1 ⟨tb,rfl,H1⟩;have B1:Below Wa.heap.size Wa w1:=((Below.refl _ Wa).drew).trans (H1.o).2;have n01:=iY B1 au n0;have n11:=iY B1 au n1;have hs1:=B1.size;have HRd:=aA (KH tb a.t (fA (bs a.t)) w1 (H1.o).1 (HZ.o).1 (HZ.o).2 au (vP _));dsimp only;refine hK.o _ _ (fun _=>⟨n01,n11⟩) (fun hS2=>?_);clear hS hK K;have hS:=hS2 aS;clear hS2;refine fw 6 fun K hK=>?_;go_simp;refine(HRd.o).mono ?_;rintro e w2 ⟨iv,rfl,H2⟩;have ZW:∃ ia ic,iv=.slice ia (fA (bs a.t)).length ic:=by
    obtain⟨ia,ic,-,e,-⟩:=(H2.o).1.ex;exact⟨ia,ic,e⟩
   obtain⟨ia,ic,rfl⟩:=ZW;have B2:=(H2.o).2;have n02:=iY B2 au n01;have n12:=iY B2 au n11;have hs2:=B2.size;have HB2:=aA <| (yQ.o).trans ((B1.trans (B2.mono hs1)).mono (yQ.o).size);have HIT:=aA (H2.o).1;have Md:=aA ((Kp.aN HB2.o (fun _=>False)).owns (KF.o).row (fun _ _=>id));dsimp only;refine hK.o _ _ (fun _=>⟨n02,n12⟩) (fun hS2=>?_);clear hS hK K H1 H2 HRd B1 B2 n0 n1 n01 n11;have hS:=hS2 aS;clear hS2;generalize (fA (bs a.t)).length=il at *;iterate 1(refine ny hS ?_;simp only[Act.put,List.setIfInBounds_toArray,List.set_cons_zero,List.set_cons_succ])
   refine fw 8 fun K hK=>?_;go_simp;refine hK.o _ _ (fun _=>by first|go_keep|(dsimp only;go_keep)) (fun hS2=>?_);clear hS hK K;have hS:=hS2 aS;clear hS2;refine fw 9 fun K hK=>?_;refine step_append_lies _ (by rfl) _ _ _ (by rfl) w.heap.size 83 i0 _ 2 40 underlying43 hi0 hz0 hz1 hz2 rfl au (.slice fa fn fc) j _ (by rfl) ((Md.o).alloc _)
    ⟨w2.heap.size,0,none⟩ 1 1 [.string a.n,.slice ia il ic] (by rfl) (by rfl) (World.news_of_block (cs:=#[.string a.n,.slice ia il ic]) (t:=83) (fr:=(0,0)) (aI w2 _)) (by simp[Value.oneCell'])
    au (by unfold maxLen;omega) au aQ (w2.heap.size+1) aT ?_
   intro g Ho w7 oM jB rO KI;have hwf:some wr.heap.size≠(Value.slice fa fn fc).ownBlock:=fun e=>by have:=(dG (KF.o).row _ e.symm).2;omega
   have y0:=(jB.cell_far ⟨wr.heap.size,0,none⟩ aQ hwf).trans hS.1;have y1:=(jB.cell_far ⟨wr.heap.size,1,none⟩ aQ hwf).trans hS.2;show K (Act.put _ (some 21) _) w7;refine hK.o _ _ (fun _=>⟨y0,y1⟩) (fun hS2=>?_);clear hS hK K;have hS:=hS2 aS;clear hS2;simp only[Act.put,aD,aO,aP];refine fw 10 fun K hK=>?_;go_simp;refine hK.o _ _ (fun h=>absurd rfl h) (fun _=>iF ?_);clear hK K;have HI8:Hid (∃ vs IV Lo Hi,Hf w l (j+1) (.slice (b_ g) (j+1) Ho) vs IV Lo Hi w7):=by
    have hb6:Below w2.heap.size w2 (w2.alloc (.cells #[.string a.n,.slice ia il ic] 83)):=(aB _ w2).alloc (ax _) _;exact⟨_,_,_,_,(KF.o).more ha HB2.o au HIT.o hb6 oM jB (by rcases rO with e|e;exact .inl e;exact .inr (by rw[e];simp))⟩
   clear oM jB rO KI y0 y1 hS n02 n12 Md HIT KF yQ;go_wp2_with fail
   exact⟨⟨j+1,_,rfl,aT,au,HI8⟩,by simp[intOf];omega⟩
  ·obtain rfl:j=l.length:=by omega
   have hd1:¬(l.length:Int)<(l.length:Int):=au
   have HF:Hid ((∃ IV Lo Hi,EX wr w.heap.size rv l IV Lo Hi)∧Below w.heap.size w wr):=by
    obtain⟨vs,IV,Lo,Hi,hin⟩:=HI.o;exact⟨⟨_,_,_,hin.done⟩,hin.bl⟩
   clear HI;go_wp2_with fail
   go_ret;exact⟨_,rfl,HF⟩
end
section
variable{w wr:aG}{l:List AF}{mb wb:Nat}{Bf:Nat→Nat}{IV:Nat→Value}
theorem MJ.start(w:aG)(l:List AF)(IV:Nat→Value):MJ w l w.heap.size (w.heap.size+1) 0 (fun _=>0) IV (.slice none 0 0) ((w.alloc (.map #[] 0)).alloc (.cells #[.map (some w.heap.size),.slice none 0 0] 104)):=by
 refine⟨((aB _ w).alloc (ax _) _).alloc aT _,?_,?_,?_,fun g hg=>(by cases hg),fun i hi=>(au),fun i i' _ hi=>(au),fun i a hi=>(au)⟩
 ·have:=aI (w.alloc (.map #[] 0)) (.cells #[.map (some w.heap.size),.slice none 0 0] 104)
  simpa using this
 ·exact((Mp.made w).below ((aB _ _).alloc (ax _) _)).congr (fun x=>by rw[jr];rfl)
 ·exact dK _ _ _ _
theorem MJ.more{j:Nat}{fv:Value}{wm w5 w6 w7:aG}{a:AF}{g cap k:Nat}(h:MJ w l mb wb j Bf IV fv wr)(hw:w.heap.size≤mb)(hmw:mb<wb)(ha:l[j]?=some a)(hnew:mR (l.take j) (bs a.n)=none)
  (hk1:Kp (fun q=>q=mb) wr wm) (hm1:Mp wm mb k (upd (mR (l.take j)) (bs a.n) j)) (hkk:k≤j+1) (hf:IsF wm w5 (IV j) (X.fA (bs a.t))) (hb6:Below w5.heap.size w5 w6)
  (hown:w7.ownsRow w.heap.size 105 1 (.slice (b_ g) (j+1) cap) (j+1) (((List.range j).map fun i=>aH (Bf i+2))++[aH (wm.heap.size+2)])) (hgrow:w6.grownBy w7 fv.ownBlock) (hat:fv.ownBlock=some g∨g=w6.heap.size) :
  ∃ Bf',MJ w l mb wb (j+1) Bf' IV (.slice (b_ g) (j+1) cap) (w7.setCell (aC wb 1) (.slice (b_ g) (j+1) cap)):=by
 have ZX:=bN h.blk;have s1:=hk1.size;have s2:=hf.bl.size;have s3:=hb6.size;have hown0:∀ q,fv.ownBlock=some q→q<wr.heap.size:=fun q hq=>(dG h.row q hq).2
 have k15:=hk1.trans (Kp.aN hf.bl (fun _=>False)) (fun _ _ e=>e.elim);have Ju:=(Kp.refl _ w6).grown hgrow (fun q e _=>e);have k57:=(Kp.aN hb6 (fun q=>fv.ownBlock=some q)).trans Ju (fun _ _ e=>e);have k78:Kp (fun q=>q=wb) w7 (w7.setCell (aC wb 1) (.slice (b_ g) (j+1) cap)):=Kp.setCell (S:=fun q=>q=wb) (p:=⟨wb,1,none⟩) (Kp.refl _ w7) (fun _=>rfl) _;have V4:Kp (fun q=>q=wb∨fv.ownBlock=some q) w5 (w7.setCell (aC wb 1) (.slice (b_ g) (j+1) cap)):=(k57.mono (fun _ _ e=>.inr e)).trans k78 (fun _ _ e=>.inl e);have kr8:Kp (fun q=>q=mb∨q=wb∨fv.ownBlock=some q) wr (w7.setCell (aC wb 1) (.slice (b_ g) (j+1) cap)):=(k15.mono (fun _ _ e=>.inl e)).trans V4 (fun _ _ e=>.inr e);have Cn:=h.far;have hold:∀ i,i<j→∀ q,Bf i≤q→q≤Bf i+2→¬(q=mb∨q=wb∨fv.ownBlock=some q):=by
  intro i hi q h1 h2 e;have ho:=h.ord i hi;rcases e with e|e|e
  ·omega
  ·omega
  ·exact(Cn q e).2.2 i hi ⟨h1,h2⟩
 have hnw:∀ q,wm.heap.size≤q→¬(q=wb∨fv.ownBlock=some q):=by
  intro q h1 e;rcases e with e|e
  ·omega
  ·have:=hown0 q e;omega
 obtain⟨k',hmp⟩:=hf.mp;obtain⟨A,hA1,hA2,hA3⟩:=hf.ans;have cQ5:=bN hf.blk;have s8:=V4.size;refine⟨fun i=>if i=j then wm.heap.size else Bf i,?_,?_,?_,?_,?_,?_,?_,?_⟩
 ·refine h.bl.trans (kr8.below h.bl.size (fun q e=>?_))
  rcases e with e|e|e
  ·omega
  ·omega
  ·exact(dG h.row q e).1
 ·have h5:=k57.heap (k15.heap h.blk au) (fun e=>(Cn wb e).2.1 rfl)
  exact dV h5 1 _
 ·have hm5:=hm1.below hf.bl
  have hm8:=hm5.keep V4 (fun e=>by
   rcases e with e|e
   ·omega
   ·exact(Cn mb e).1 rfl)
  obtain⟨D,o1,o2⟩:=hm8;refine Mp.congr (g:=upd (mR (l.take j)) (bs a.n) j) ⟨D,o1.mono hkk,o2⟩ (fun x=>?_);rw[Dk ha];unfold upd;by_cases e:x=bs a.n
  ·subst e
   rw[aU rfl,hnew];show _=if _ then _ else _
   rw[aU rfl]
  ·rw[aM e]
   cases hx:mR (l.take j) x with
   | some i=>rfl
   | none =>
    show _=if _ then _ else _
    rw[aM (fun e2=>e e2.symm)]
 ·have hg:g≠wb:=by
   rcases hat with e|e
   ·exact(Cn g e).2.1
   ·omega
  have:=k78.owns hown (fun q hq e=>by cases hq;exact hg e);have e1:((List.range (j+1)).map fun i=>(.pointer (some ⟨(if i=j then wm.heap.size else Bf i)+2,0,none⟩):Value))=((List.range j).map fun i=>aH (Bf i+2))++[aH (wm.heap.size+2)]:=by
   rw[List.range_succ,nN];congr 1
   ·refine List.map_congr_left (fun i hi'=>?_)
    have:=jq.1 hi';rw[aM au]
   ·simp
  rw[e1];exact this
 ·intro q hq
  obtain rfl:q=g:=by cases hq;rfl
  clear hq;rcases hat with e|e
  ·obtain⟨f1,f2,f3⟩:=Cn _ e
   refine⟨f1,f2,fun i hi'=>?_⟩;by_cases hij:i=j
   ·rw[aU hij]
    have:=hown0 _ e;omega
   ·rw[aM hij]
    exact f3 i au
  ·refine⟨au,au,fun i hi'=>?_⟩
   by_cases hij:i=j
   ·rw[aU hij];omega
   ·rw[aM hij]
    have:=h.ord i au;omega
 ·intro i hi'
  by_cases hij:i=j
  ·rw[aU hij];omega
  ·rw[aM hij]
   have:=h.ord i au;omega
 ·intro i i' h1 h2
  by_cases hij:i'=j
  ·rw[aM au,aU hij]
   have:=h.ord i au;omega
  ·rw[aM au,aM hij]
   exact h.asc i i' h1 au
 ·intro i b hi' hb
  by_cases hij:i=j
  ·subst hij
   rw[ha] at hb;cases hb
   rw[aU rfl];exact⟨V4.heap hf.blk (hnw _ au),⟨k',hmp.keep V4 (hnw _ au)⟩,A,V4.heap hA1 (hnw _ au),hA2,hA3⟩
  ·rw[aM hij]
   obtain⟨b1,⟨k2,b2⟩,A2,b4,b5⟩:=h.fil i b au hb;exact⟨kr8.heap b1 (hold i au _ au au),⟨k2,b2.keep kr8 (hold i au _ au au)⟩,A2,kr8.heap b4 (hold i au _ au au),b5⟩
def MK:Mem:=fun _ _=>(0,(0,0,0))
theorem R4(fs:List X.Fl):qF fs MK:=fun _ _=>⟨bJ _,fun h=>by cases h⟩
theorem KJ:Idle MK:=fun _ _ h=>by cases h
theorem MJ.run{Lo Hi:Nat→Nat}{B:Nat}{rv fv:Value}(h:MJ w l mb wb l.length Bf IV fv wr)(hw:w.heap.size≤mb)(hmw:mb<wb)(hI:EX w B rv l IV Lo Hi)(hn:l.length≤16)(hok:∀ a∈l,pR a.n=true)(hsh:Short l) :
  Run (wr.alloc (.cells #[aH wb,ak 0,.slice none 0 0] 109)) ⟨wb,wr.heap.size,0,mb,fv,fun i=>Bf i+2,Bf,IV,fun i=>Bf i+1⟩ (dA l) MK [] (wr.alloc (.cells #[aH wb,ak 0,.slice none 0 0] 109)):=by
 have hfl:=Af l;have hget:∀ i,i<(dA l).length→∃ a,l[i]?=some a∧X.bI (dA l) i=X.fA (bs a.t):=fun i hi=>by
  rw[hfl] at hi;exact⟨l[i],aF hi,jc (aF hi)⟩
 have hS:∀ q,(Lay.mk wb wr.heap.size 0 mb fv (fun i=>Bf i+2) Bf IV (fun i=>Bf i+1)).S (dA l).length q→q=wr.heap.size∨∃ i,i<l.length∧q=Bf i+1:=fun q hq=>by
  rcases hq with e|⟨i,h1,h2⟩
  ·exact .inl e
  ·exact .inr ⟨i,by rw[← hfl];exact h1,h2⟩
 have hwb:=bN h.blk;have bA:Below wr.heap.size wr (wr.alloc (.cells #[aH wb,ak 0,.slice none 0 0] 109)):=(aB _ wr).alloc (ax _) _;have kA:=Kp.aN bA (fun _=>False);have hszA:(wr.alloc (.cells #[aH wb,ak 0,.slice none 0 0] 109)).heap.size=wr.heap.size+1:=aT
 have hsep:∀ i q,i<l.length→q=Bf i∨q=Bf i+2→¬(Lay.mk wb wr.heap.size 0 mb fv (fun i=>Bf i+2) Bf IV (fun i=>Bf i+1)).S (dA l).length q:=by
  intro i q hi h1 hs;have ho:=h.ord i hi;rcases hS q hs with e|⟨i',hi',e⟩
  ·omega
  ·have ho':=h.ord i' hi'
   rcases Nat.lt_trichotomy i i' with c|c|c
   ·have:=h.asc i i' c hi';omega
   ·subst c;omega
   ·have:=h.asc i' i c hi;omega
 have hlow:∀ q,q≤wb→¬(Lay.mk wb wr.heap.size 0 mb fv (fun i=>Bf i+2) Bf IV (fun i=>Bf i+1)).S (dA l).length q:=by
  intro q hq hs;rcases hS q hs with e|⟨i,hi,e⟩
  ·omega
  ·have:=h.ord i hi;omega
 have hst:St (wr.alloc (.cells #[aH wb,ak 0,.slice none 0 0] 109)) ⟨wb,wr.heap.size,0,mb,fv,fun i=>Bf i+2,Bf,IV,fun i=>Bf i+1⟩ (dA l):=by
  refine⟨by rw[hfl];exact hn,⟨kA.heap h.blk id,hlow wb (ax _)⟩,?_,hlow mb au,?_,fun i hi=>?_,fun i hi=>?_,fun i hi=>?_,fun i it hit=>(uU hsh i).1 it hit,fun i=>(uU hsh i).2.1,by show wr.heap.size<_;omega,fun i hi=>?_⟩
  ·refine⟨_,(h.mp.below bA).congr (fun x=>?_)⟩
   rw[fC,zI hok]
  ·have hr:=h.row
   have hc:=fun g hg=>hr.cells (g:=g) hg
   rcases hr.2 with ⟨e,h0⟩|⟨g,cap,cur,e,hge,hgg,hnn,hm,-,-⟩
   ·refine⟨none,0,by rw[hfl,h0];exact e,by rw[hfl,h0];exact ax _,by unfold maxLen;omega,fun i hi=>by rw[hfl,h0] at hi;omega⟩
   ·refine⟨_,cap,by rw[hfl];exact e,by rw[hfl];exact hnn,hm,fun i hi=>⟨g,rfl,fun hs=>?_,?_⟩⟩
    ·have Cn:=h.far g (by rw[e];rfl)
     have hgl:=bN hgg;rcases hS _ hs with e1|⟨i',hi',e1⟩
     ·omega
     ·exact Cn.2.2 i' hi' ⟨au,au⟩
    ·rw[hfl] at hi
     have:=hc g (by rw[e];rfl) i (aH (Bf i+2)) (by simp[hi]);rw[dQ,bS] at this;exact Lib.cell?_alloc_some _ this
  ·obtain⟨a,ha,e⟩:=hget i hi
   rw[hfl] at hi;rw[e];exact⟨kA.heap (h.fil i a hi ha).1 id,hsep i _ hi (.inr rfl)⟩
  ·obtain⟨a,ha,e⟩:=hget i hi
   rw[hfl] at hi;rw[e];obtain⟨k,hk⟩:=(h.fil i a hi ha).2.1;exact⟨⟨k,hk.below bA⟩,hsep i _ hi (.inl rfl)⟩
  ·obtain⟨a,ha,e⟩:=hget i hi
   rw[hfl] at hi;rw[e];obtain⟨q1,q2,q3⟩:=hI.its i a ha;have s0:=h.bl.size;exact⟨Lo i,Hi i,(q1.UK (Kp.aN h.bl (fun _=>False)) (fun _ _ _=>id)).UK kA (fun _ _ _=>id),au,fun q h1 h2=>hlow q au⟩
  ·rw[hfl] at hi
   have ho:=h.ord i hi;refine⟨by show Bf i+1<_;omega,by show Bf i+1≠wr.heap.size;omega,fun j hj e=>?_⟩;rw[hfl] at hj;have e':Bf i+1=Bf j+1:=e;have ho':=h.ord j hj;rcases Nat.lt_trichotomy i j with c|c|c
   ·have:=h.asc i j c hj;omega
   ·exact c
   ·have:=h.asc j i c hi;omega
 refine⟨hst,Kp.refl _ _,⟨_,aI wr _,dK _ _ _ _⟩,fun i hi=>?_,bJ _⟩;obtain⟨a,ha,e⟩:=hget i hi;rw[hfl] at hi;obtain⟨-,-,A,b4,b5,b6⟩:=h.fil i a hi ha;rw[e];exact⟨A,kA.heap b4 id,b5,fun k hk=>⟨b6 _ au,b6 _ au,b6 _ au,b6 _ au⟩⟩
end
section
open Tryz
open X
variable{l:List AF}
theorem sw.wide{w:aG}{B B':Nat}{ao:Option Addr}(h:sw w B ao l)(hb:B≤B'):sw w B' ao l:=fun j a hj=>by
 obtain⟨b,o,e1,e2,e3⟩:=h j a hj;exact⟨b,o,e1,aJ e2 hb,e3⟩
theorem ZY:(prog.info? 105).map (fun i=>(i.zero,i.size,i.bytes))=some (some (.pointer none),1,8):=bC
theorem Kb(ao:Option Addr)(cap:Nat)(l:List AF)(w:aG)(hT:nE w)(h:sw w w.heap.size ao l)(hl:l.length≤cap)(hc:cap≤maxLen)(hf:pW l≠0) :
  bB 4 #[.slice ao l.length cap] w (cK (.tuple #[.slice none 0 0,.iface 49 (ak (pW l))]) fun w'=>Below w.heap.size w w'):=by
 have hC:=Dl ao cap l w hT h hl hc;have he:aT5 (pW l)=.iface 49 (ak (pW l)):=aM hf;rw[he] at hC;have HC:=aA hC;clear h hT hf hC he;generalize pW l=r at *;go_enter func4,ntmps4;go_wp2_with fail
 refine(HC.o).aX fun w1 B1=>?_;have HF:=aA B1;clear HC B1;go_wp2_with fail
 go_ret2;exact⟨rfl,HF.o⟩
theorem Me(h:pW l=0):l.length≤16∧Short l∧(∀ a∈l,pR a.n=true)∧(l.map (fun a=>bs a.n)).Pairwise (·≠·):=by
 unfold pW at h;by_cases h1:16<l.length
 ·rw[aU h1] at h;cases h
 ·rw[aM h1] at h
  by_cases h2:l.any (fun a=>decide (20000<a.t.size))=true
  ·rw[aU h2] at h;cases h
  ·rw[aM h2] at h
   obtain⟨a,b,-⟩:=V3 h;refine⟨au,fun a ha=>?_,a,b⟩;rcases cu 20000 a.t.size with g|g
   ·exact absurd (o9.2 ⟨a,ha,by simpa using g⟩) h2
   ·exact dI g aS
theorem V5(h:(l.map (fun a=>bs a.n)).Pairwise (·≠·)){j:Nat}{a:AF}(ha:l[j]?=some a):mR (l.take j) (bs a.n)=none:=by
 cases hi:mR (l.take j) (bs a.n) with
 | none=>rfl
 | some i =>
  exfalso;have hm:=(qN (l.take j) (bs a.n)).1 (by rw[hi];rfl);obtain⟨b,hb,e⟩:=fU.1 hm;obtain⟨i',hi',rfl⟩:=pO hb;rw[dX] at hi';have hjl:j<l.length:=by
   rcases cu j l.length with g|g
   ·exact g
   ·rw[bf g] at ha;cases ha
  rw[aF hjl] at ha;have ha':=bQ ha;have hp:=List.pairwise_iff_getElem.1 h i' j (by rw[cB];omega) (by rw[cB];exact hjl) au;rw[List.getElem_map,List.getElem_map,ha'] at hp;rw[List.getElem_take] at e;exact hp e
theorem R5(l:List AF)(rv:Value)(IV:Nat→Value)(Lo Hi:Nat→Nat)(B:Nat)(w:aG)(hI:EX w B rv l IV Lo Hi)(hn16:l.length≤16)(hsh:Short l)(hok:∀ a∈l,pR a.n=true)(hpw:(l.map (fun a=>bs a.n)).Pairwise (·≠·)) :
  bB 24 #[rv] w (cK (aH (w.heap.size+1)) fun w'=>Hid (∃ Bf fv,MJ w l w.heap.size (w.heap.size+1) l.length Bf IV fv w')):=by
 have hmm:=mkMap;obtain⟨i0,hi0,hz0,hz1,hz2⟩:=dM ZY;obtain⟨ao,cap,rfl,hcl,hcm,hx⟩:=hI.ex;have HX:=aA hx;have HIT:=aA hI.its;have HSH:=aA hsh;have HOK:=aA hok;have HPW:=aA hpw;have HI0:Hid (∃ Bf fv,MJ w l w.heap.size (w.heap.size+1) 0 Bf IV fv ((w.alloc (.map #[] 0)).alloc (.cells #[.map (some w.heap.size),.slice none 0 0] 104))):=⟨_,_,MJ.start w l IV⟩;clear hx hI hsh hok hpw;go_enter func24,ntmps24;go_wp2_with fail
 generalize ((w.alloc (.map #[] 0)).alloc (.cells #[.map (some w.heap.size),.slice none 0 0] 104))=W0 at *;generalize hmb:w.heap.size=mb at *;have Ve:=aA hmb;clear hmm hmb;go_loopw [11] (fun v wr=>∃ j:Nat,v=ak j∧j≤l.length∧Hid (∃ Bf fv,MJ w l mb (mb+1) j Bf IV fv wr)) (fun v _=>l.length - (intOf v).toNat)
 case atStart=>exact⟨0,rfl,bJ _,HI0⟩
 case round =>
  obtain⟨j,rfl,hj,HI⟩:=hrel;clear HI0;by_cases hjl:j<l.length
  ·obtain⟨Bf,fv,hin⟩:=HI.o
   clear HI;obtain⟨a,ha⟩:∃ a,l[j]?=some a:=⟨l[j],aF hjl⟩;obtain⟨b,e1,e2,-,e3,e4⟩:=(HX.o) j a ha;subst e1;obtain⟨hits,-,hhi⟩:=(HIT.o) j a ha;have hi1:(j:Int)<(l.length:Int):=au
   have hmb:=Ve.o;have hww:=hin.bl.size;have e3':=iY hin.bl au e3;have e4':=iY hin.bl au e4;have ZW:∃ ia ic,IV j=.slice ia (fA (bs a.t)).length ic:=by
    obtain⟨ia,ic,-,e,-⟩:=hits.ex;exact⟨ia,ic,e⟩
   obtain⟨ia,ic,hiv⟩:=ZW;rw[hiv] at hits e4';have hlB:=uU HSH.o j;rw[jc ha] at hlB;have hnl:=(HOK.o) a (dF ha);have hlen:(bs a.n).length≤maxLen:=by
    unfold pR at hnl;rw[eY];unfold maxLen;have:a.n.size≤40:=by simp at hnl;exact hnl.1
    omega
   have HFO:Hid (∀ W:aG,Below w.heap.size w W→bB 41 #[.slice ia (fA (bs a.t)).length ic] W (cK (aH (W.heap.size+2)) fun w'=>Hid (IsF W w' (IV j) (fA (bs a.t))))):=fun W hW=>by
    rw[hiv];exact KC (Lo j) (Hi j) _ _ W (hits.UK (Kp.aN hW (fun _=>False)) (fun _ _ _=>id)) (by have:=hW.size;omega) hlB.2.1 hlB.1
   clear hlB hits hiv;generalize hil:(fA (bs a.t)).length=il at *;clear hil;have hnew:=V5 HPW.o ha;have kF:Below wr.heap.size wr (wr.alloc (.cells #[.string a.n,.slice ia il ic] 83)):=(aB _ _).alloc (ax _) _;have KE:=aI wr (.cells #[.string a.n,.slice ia il ic] 83);have n0:(wr.alloc (.cells #[.string a.n,.slice ia il ic] 83)).cell? (aC wr.heap.size 0)=some (.string a.n):=aj _ _ 0 _ _ _ KE;have ZX:=bN hin.blk;have c0:(wr.alloc (.cells #[.string a.n,.slice ia il ic] 83)).cell? (aC (mb+1) 0)=some (.map (some mb)):=iY kF ZX (aj wr _ 0 _ _ _ hin.blk);have hjm:j<maxLen:=by unfold maxLen;omega
   have hj2:j≤9223372036854775807:=au
   obtain⟨wm,hp1,hp2,hp3⟩:=(hin.mp.below kF.drew).zq hjm hlen (i:=j) hj2;rw[uN] at hp1;have KF:=aA hin;have sH:=aA KE;have oU:=aA hp2;have HP3:=aA hp3;have yQ:=aA kF;have HN:=aA hnew;clear hin kF KE hp2 hp3 hnl hnew e3 e4;go_wp2_with fail
   generalize wr.alloc (.cells #[.string a.n,.slice ia il ic] 83)=Wa at *;refine dB (S:=fun w'=>w'.cell? (aC (mb+1) 0)=some (.map (some mb))∧w'.cell? (aC wr.heap.size 0)=some (.string a.n)) (z:=7) bC ?_;have hS:Wa.drew.cell? (aC (mb+1) 0)=some (.map (some mb))∧Wa.drew.cell? (aC wr.heap.size 0)=some (.string a.n):=⟨c0,n0⟩;iterate 7(refine ny hS ?_;simp only[Act.put,aD,aO,aP])
   refine fw 7 fun K hK=>?_;go_simp;refine hK.o _ _ (fun h=>absurd rfl h) (fun _=>iF ?_);clear hK K hS hp1 c0 n0;have hks:=Kp.trans (Kp.aN (yQ.o).drew _) HP3.o (fun _ _ e=>e);have HKS:=aA hks;have hFm:=(HP3.o).heap (w:=Wa.drew) sH.o (by have:=ZX;omega);have n1:wm.cell? (aC wr.heap.size 1)=some (.slice ia il ic):=aj wm _ 1 _ _ _ hFm;have hbm:=hks.heap (KF.o).blk au;have c1:wm.cell? (aC (mb+1) 1)=some fv:=aj wm _ 1 _ _ _ hbm;have hbw:=(KF.o).bl.trans (hks.below (KF.o).bl.size (fun q e=>au));have HRD:=aA ((HFO.o) wm.drew hbw.drew);have HOW:=aA (hks.owns (KF.o).row (fun q hq e=>(KF.o).far q hq |>.1 e));have hlm:=bN hFm;have hfv:∃ fa fn fc,fv=.slice fa fn fc:=by
    rcases(KF.o).row.2 with ⟨e,-⟩|⟨g',cap',cur,e,-⟩
    ·exact⟨_,_,_,e⟩
    ·exact⟨_,_,_,e⟩
   obtain⟨fa,fn,fc,rfl⟩:=hfv;have bM7:=aA (KF.o).far;have HO0:Hid (∀ q,(Value.slice fa fn fc).ownBlock=some q→q<wr.heap.size):=fun q hq=>(dG (KF.o).row q hq).2
   clear hks hFm hbm hbw HFO;go_wp2_with fail
   refine dB (S:=fun w'=>w'.cell? (aC (mb+1) 1)=some (.slice fa fn fc)∧w'.cell? (aC wr.heap.size 1)=some (.slice ia il ic)) (z:=12) bC ?_;have hS:wm.drew.cell? (aC (mb+1) 1)=some (.slice fa fn fc)∧wm.drew.cell? (aC wr.heap.size 1)=some (.slice ia il ic):=⟨c1,n1⟩;iterate 7(refine ny hS ?_;simp only[Act.put,aD,aO,aP])
   refine fw 7 fun K hK=>?_;go_simp;refine(HRD.o).aX fun w5 X5=>?_;have B5:=(X5.o).bl;have c15:=iY B5 (by show _<wm.heap.size;omega) c1;have n15:=iY B5 (by show _<wm.heap.size;omega) n1;have hmz:wm.heap.size≤w5.heap.size:=B5.size;have OD:=aA ((Kp.aN (((Below.refl _ wm).drew).trans B5) (fun _=>False)).owns HOW.o (fun _ _=>id));dsimp only;refine hK.o _ _ (fun _=>⟨c15,n15⟩) (fun hS2=>?_);clear hS hK K;have hS:=hS2 aS;clear hS2;refine fw 8 fun K hK=>?_;go_simp;refine hK.o _ _ (fun _=>by first|go_keep|(dsimp only;go_keep)) (fun hS2=>?_);clear hS hK K;have hS:=hS2 aS;clear hS2;refine fw 9 fun K hK=>?_;refine step_append_lies _ (by rfl) _ _ _ (by rfl) w.heap.size 105 i0 _ 1 8 underlying102 hi0 hz0 hz1 hz2 rfl au (.slice fa fn fc) j _ (by rfl) ((OD.o).alloc _)
    ⟨w5.heap.size,0,none⟩ 1 1 [aH (wm.heap.size+2)] (by rfl) (by rfl) (World.news_of_block (cs:=#[aH (wm.heap.size+2)]) (t:=105) (fr:=(0,0)) (aI w5 _)) (by simp[Value.oneCell'])
    au (by unfold maxLen;omega) au aQ (w5.heap.size+1) aT ?_
   intro g Ho w7 oM jB rO KI;have Cn:=bM7.o;have ho0:=HO0.o;have hwn:some (mb+1)≠(Value.slice fa fn fc).ownBlock:=fun e=>(Cn _ e.symm).2.1 rfl
   have hwf:some wr.heap.size≠(Value.slice fa fn fc).ownBlock:=fun e=>by have:=ho0 _ e.symm;omega
   have y0:=(jB.cell_far ⟨mb+1,1,none⟩ aQ hwn).trans hS.1;have y1:=(jB.cell_far ⟨wr.heap.size,1,none⟩ aQ hwf).trans hS.2;have hblk5:=(Kp.aN (((aB _ wm).drew).trans B5) (fun _=>False)).heap ((HKS.o).heap (KF.o).blk au) id;have x2:=(jB.frozen_far ⟨mb+1,1,none⟩ aQ hwn).trans ((bD _ _ ⟨mb+1,1,none⟩ aQ).trans (bW w5 _ 1 _ _ hblk5));show K (Act.put _ (some 32) _) w7;refine hK.o _ _ (fun _=>⟨y0,y1⟩) (fun hS2=>?_);clear hS hK K;have hS:=hS2 aS;clear hS2;simp only[Act.put,aD,aO,aP];refine fw 10 fun K hK=>?_;go_simp;refine hK.o _ _ (fun _=>hS) (fun _=>?_);clear hK K;refine fw 11 fun K hK=>?_;go_simp;refine hK.o _ _ (fun _=>hS) (fun _=>?_);clear hK K;refine fw 12 fun K hK=>?_;go_simp;refine hK.o _ _ (fun h=>absurd rfl h) (fun _=>iF ?_);clear hK K;have HI8:Hid (∃ Bf fv,MJ w l mb (mb+1) (j+1) Bf IV fv (w7.setCell (aC (mb+1) 1) (.slice (b_ g) (j+1) Ho))):=by
    have hb6:Below w5.heap.size w5 (w5.alloc (.cells #[aH (wm.heap.size+2)] 105)):=(aB _ w5).alloc (ax _) _;obtain⟨Bf',hmore⟩:=(KF.o).more au au ha HN.o ((HKS.o).drew) ((oU.o).below ((aB _ wm).drew)) (ax _) X5.o hb6 oM jB (by rcases rO with e|e;exact .inl e;exact .inr (by rw[e];simp));exact⟨Bf',_,hmore⟩
   clear oM jB rO KI y0 y1 x2 hS c15 n15 c1 n1 B5 X5 OD Cn ho0 hblk5;go_wp2_with fail
   exact⟨⟨j+1,aT,au,HI8⟩,by simp[intOf];omega⟩
  ·obtain rfl:j=l.length:=by omega
   have hd1:¬(l.length:Int)<(l.length:Int):=au
   have HF:=HI;clear HI;go_wp2_with fail
   go_ret;exact⟨by rw[Ve.o];rfl,by rw[Ve.o];exact HF⟩
theorem KL(l:List AF)(rv fv:Value)(IV:Nat→Value)(Lo Hi Bf:Nat→Nat)(B mb wb:Nat)(w wr:aG)(hI:EX w B rv l IV Lo Hi)(hin:MJ w l mb wb l.length Bf IV fv wr)(hw:w.heap.size≤mb)(hmw:mb<wb)(hn16:l.length≤16)(hsh:Short l)(hok:∀ a∈l,pR a.n=true) :
  bB 25 #[aH wb] wr fun e w'=>∃ nv,e=.returned nv∧Hid (Below w.heap.size w w'∧w'.ownsRow w.heap.size 72 6 nv (nD (dA l)).length (yj (nD (dA l)))∧(nD (dA l)).length≤1073741824):=by
 have hR:=hin.run hw hmw hI hn16 hok hsh;have Z0:=Af l;have hfv:∃ fa fc,fv=.slice fa l.length fc:=by
  rcases hin.row.2 with ⟨e,h0⟩|⟨g',cap',cur,e,-⟩
  ·exact⟨none,0,by rw[h0];exact e⟩
  ·exact⟨_,_,e⟩
 obtain⟨fa,fc,rfl⟩:=hfv;have c1:(wr.alloc (.cells #[aH wb,ak 0,.slice none 0 0] 109)).cell? (aC wb 1)=some (.slice fa l.length fc):=Lib.cell?_alloc_some _ (aj wr _ 1 _ _ _ hin.blk);obtain⟨TP,hTP⟩:∃ TP:List X.U→World→Prop,TP=fun us w2=>∃ f,sF (wr.alloc (.cells #[aH wb,ak 0,.slice none 0 0] 109)) ⟨wb,wr.heap.size,f,mb,(.slice fa l.length fc),fun i=>Bf i+2,Bf,IV,fun i=>Bf i+1⟩ (dA l) us (wr.alloc (.cells #[aH wb,ak 0,.slice none 0 0] 109)) w2:=⟨_,rfl⟩
 have HT0:Hid (TP (BK (dA l) 0) (wr.alloc (.cells #[aH wb,ak 0,.slice none 0 0] 109))):=by
  rw[hTP];exact⟨0,MK,hR,R4 _,KJ,Kx.refl _ _ _ _⟩
 have Ya:Hid (∀(j:Nat) (w2:aG),j<l.length→TP (BK (dA l) j) w2→bB 42 #[aH wr.heap.size,ak j] w2 (cK (.tuple #[]) fun w3=>Hid (TP (BK (dA l) (j+1)) w3))):=fun j w2 hj ht=>by
  rw[hTP] at ht;obtain⟨f,M2,r2,m2,i2,x2⟩:=ht;have hl1:=El hsh j;have hl2:=(uU hsh j).2.2 (dA l) j;refine(RY j (by rw[Z0];exact hj) r2 m2 i2 au).aX fun w3 X3=>?_;obtain⟨M3,r3,m3,i3,x3⟩:=X3.o;refine⟨rfl,?_⟩;rw[hTP];exact⟨j,M3,by rw[Ag];exact r3,m3,i3,Kx.trans x2 x3⟩
 have HFin:Hid (∀ w2:aG,TP (BK (dA l) l.length) w2→∃ nv,w2.cell? (aC wr.heap.size 2)=some nv∧Hid (Below w.heap.size w w2∧w2.ownsRow w.heap.size 72 6 nv (nD (dA l)).length (yj (nD (dA l)))∧(nD (dA l)).length≤1073741824)):=fun w2 ht=>by
  rw[hTP] at ht;obtain⟨f,M2,r2,m2,i2,x2⟩:=ht;obtain⟨nv,-,-,b2,-,b4⟩:=r2.cells;have e1:nD (dA l)=BK (dA l) l.length:=by unfold nD BK;rw[Z0]
  rw[e1];have hbA:Below w.heap.size w (wr.alloc (.cells #[aH wb,ak 0,.slice none 0 0] 109)):=hin.bl.alloc hin.bl.size _;refine⟨nv,b2,?_,⟨b4.1,?_⟩,r2.lim⟩
  ·refine hbA.trans (r2.kp.below hbA.size (fun q hq=>?_))
   rcases hq with e|⟨i,hi,e⟩
   ·have e':q=wr.heap.size:=e
    have:=hin.bl.size;omega
   ·have e':q=Bf i+1:=e
    have:=hin.ord i (by rw[← Z0];exact hi);omega
  ·rcases b4.2 with hh|⟨g',cap',cur,e,e2,r⟩
   ·exact .inl hh
   ·exact .inr ⟨g',cap',cur,e,dI hbA.size e2,r⟩
 clear hin hR hsh hok hTP hI;go_enter func25,ntmps25;go_wp2_with fail
 clear c1;generalize wr.alloc (.cells #[aH wb,ak 0,.slice none 0 0] 109)=W at *;generalize wr.heap.size=tb at *;go_loopw [13] (fun v w2=>∃ j:Nat,v=ak j∧j≤l.length∧Hid (TP (BK (dA l) j) w2)) (fun v _=>l.length - (intOf v).toNat)
 case atStart=>exact⟨0,rfl,bJ _,HT0⟩
 case round =>
  obtain⟨j,rfl,hj,HI⟩:=hrel;clear HT0;by_cases hjl:j<l.length
  ·have hi1:(j:Int)<(l.length:Int):=by omega
   have HC:=aA ((Ya.o) j _ hjl HI.o);clear HI;go_wp2_with fail
   refine(HC.o).aX fun w3 X3=>?_;clear HC;go_wp2_with fail
   exact⟨⟨j+1,aT,au,X3⟩,by simp[intOf];omega⟩
  ·obtain rfl:j=l.length:=by omega
   have hd1:¬(l.length:Int)<(l.length:Int):=au
   obtain⟨nv,b2,HF⟩:=(HFin.o) _ HI.o;clear HI Ya HFin;have bM9:∃ na nn nc,nv=.slice na nn nc:=by
    rcases(HF.o).2.1.2 with ⟨e,-⟩|⟨g',cap',cur,e,-⟩
    ·exact⟨_,_,_,e⟩
    ·exact⟨_,_,_,e⟩
   obtain⟨na,nn,nc,rfl⟩:=bM9;go_wp2_with fail
   go_ret;exact⟨_,rfl,HF⟩
theorem Hq(l:List AF)(rv:Value)(IV:Nat→Value)(Lo Hi:Nat→Nat)(B:Nat)(w:aG)(hI:EX w B rv l IV Lo Hi)(hn16:l.length≤16)(hsh:Short l)(hok:∀ a∈l,pR a.n=true)(hpw:(l.map (fun a=>bs a.n)).Pairwise (·≠·)) :
  bB 11 #[rv] w fun e w'=>∃ nv,e=.returned nv∧Hid (Below w.heap.size w w'∧w'.ownsRow w.heap.size 72 6 nv (nD (dA l)).length (yj (nD (dA l)))∧(nD (dA l)).length≤1073741824):=by
 have HO:=aA (R5 l rv IV Lo Hi B w hI hn16 hsh hok hpw);have HK:Hid (∀ wr,(∃ Bf fv,MJ w l w.heap.size (w.heap.size+1) l.length Bf IV fv wr)→bB 25 #[aH (w.heap.size+1)] wr fun e w'=>∃ nv,e=.returned nv∧Hid (Below w.heap.size w w'∧w'.ownsRow w.heap.size 72 6 nv (nD (dA l)).length (yj (nD (dA l)))∧(nD (dA l)).length≤1073741824)):=fun wr h=>by
  obtain⟨Bf,fv,h⟩:=h;exact KL l rv fv IV Lo Hi Bf B _ _ w wr hI h (ax _) (Nat.lt_succ_self _) hn16 hsh hok
 obtain⟨ao,cap,rfl,-⟩:=hI.ex;clear hI hsh hok hpw;go_enter func11,ntmps11;go_wp2_with fail
 refine(HO.o).aX fun w1 X1=>?_;have HC:=aA ((HK.o) w1 X1.o);clear HO HK X1;go_wp2_with fail
 refine(HC.o).mono ?_;rintro e w2 ⟨nv,rfl,HF⟩;clear HC;go_wp2_with fail
 go_ret;exact⟨_,rfl,HF⟩
theorem Gp(ao:Option Addr)(cap:Nat)(l:List AF)(w:aG)(hT:nE w)(h:sw w w.heap.size ao l)(hl:l.length≤cap)(hc:cap≤maxLen)(hf:pW l=0) :
  bB 4 #[.slice ao l.length cap] w fun e w'=>∃ nv,e=.returned (.tuple #[nv,.nilIface])∧Hid (Below w.heap.size w w'∧w'.ownsRow w.heap.size 72 6 nv (nD (dA l)).length (yj (nD (dA l)))∧(nD (dA l)).length≤1073741824):=by
 obtain⟨hn16,hsh,hok,hpw⟩:=Me hf;have hCF:=Dl ao cap l w hT h hl hc;rw[hf] at hCF;have HC:Hid (bB 10 #[.slice ao l.length cap] w (cK .nilIface fun w'=>Below w.heap.size w w')):=hCF;have HS:Hid (∀ w1,Below w.heap.size w w1→bB 12 #[.slice ao l.length cap] w1 fun e w'=>∃ rv,e=.returned rv∧Hid ((∃ IV Lo Hi,EX w' w1.heap.size rv l IV Lo Hi)∧Below w1.heap.size w1 w')):=fun w1 hb=>Hg ao cap l w1 (hT.below hb) ((h.below hb).wide hb.size) hn16 hsh
 have Jv:Hid (∀ rv B w2,(∃ IV Lo Hi,EX w2 B rv l IV Lo Hi)→bB 11 #[rv] w2 fun e w'=>∃ nv,e=.returned nv∧Hid (Below w2.heap.size w2 w'∧w'.ownsRow w2.heap.size 72 6 nv (nD (dA l)).length (yj (nD (dA l)))∧(nD (dA l)).length≤1073741824)):=fun rv B w2 hx=>by
  obtain⟨IV,Lo,Hi,hI⟩:=hx;exact Hq l rv IV Lo Hi B w2 hI hn16 hsh hok hpw
 clear h hT hCF hsh hok hpw hf;go_enter func4,ntmps4;go_wp2_with fail
 refine(HC.o).aX fun w1 B1=>?_;have HB1:=aA B1;have nC:=aA ((HS.o) w1 B1);clear HC B1 HS;go_wp2_with fail
 refine(nC.o).mono ?_;rintro e w2 ⟨rv,rfl,X2⟩;have uh:=aA ((Jv.o) rv _ w2 (X2.o).1);have HB2:=aA <| (HB1.o).trans ((X2.o).2.mono (HB1.o).size);obtain⟨ra,rn,rc,rfl⟩:∃ ra rn rc,rv=.slice ra rn rc:=by
  obtain⟨IV,Lo,Hi,hI⟩:=(X2.o).1;obtain⟨ra,rc,e,-⟩:=hI.ex;exact⟨_,_,_,e⟩
 clear nC X2 Jv;go_wp2_with fail
 refine(uh.o).mono ?_;rintro e w3 ⟨nv,rfl,X3⟩;have HF:Hid (Below w.heap.size w w3∧w3.ownsRow w.heap.size 72 6 nv (nD (dA l)).length (yj (nD (dA l)))∧(nD (dA l)).length≤1073741824):=by
  obtain⟨h1,h2,h3⟩:=X3.o;refine⟨(HB2.o).trans (h1.mono (HB2.o).size),⟨h2.1,?_⟩,h3⟩;rcases h2.2 with hh|⟨g',cap',cur,e,e2,r⟩
  ·exact .inl hh
  ·exact .inr ⟨g',cap',cur,e,dI (HB2.o).size e2,r⟩
 clear uh X3;go_wp2_with fail
 go_ret2;exact⟨_,rfl,HF⟩
end
theorem L8:∀(us:List X.U) (i:Nat) (u:X.U),us[i]?=some u→∀ j,j<6→(yj us)[i*6+j]?=(uv u)[j]?
 | [],i,u,h,j,hj=>by simp at h
 | a::us,0,u,h,j,hj=>by
  simp at h;subst h;show(uv a++yj us)[0*6+j]?=_;rw[bT (by show 0*6+j<6;omega),Nat.zero_mul,bS]
 | a::us,i+1,u,h,j,hj=>by
  show(uv a++yj us)[(i+1)*6+j]?=_;rw[bL (by show 6≤(i+1)*6+j;omega)];have:(i+1)*6+j - (uv a).length=i*6+j:=by show(i+1)*6+j - 6=_;omega
  rw[this];exact L8 us i u (by simpa using h) j hj
end Go.Proofs.YtoohcklcppnafaaGreatDoor
