/- Package scope: what is known of one file. -/
import Derived.Test.YtdkpkpgpphkljaaGreatDoorJn
namespace Go.Proofs.YtdkpkpgpphkljaaGreatDoor
set_option maxRecDepth 100000
set_option maxHeartbeats 16000000
open Go.RowKit
open M
section
open Tryz
theorem aH2:(prog.info? 263).map (fun i=>(i.zero,i.size,i.bytes))=some (some (.agg #[.int .i64 0,.int .i64 0,.int .i64 0,.int .i64 0]),4,32):=by kernel_rfl
theorem XR(n:Nat)(hn:n≤268435456):∃ A:Array Value,A.size=n*4∧(∀ g,g<n*4→A[g]?=some (.int .i64 0))∧∀ W:World,(Instr.makeSlice 205 (.int .i64 n) (.int .i64 n)).run prog W=.ok (.slice (some ⟨W.heap.size,0,none⟩) n n) (W.alloc (.cells A 263)):=by
 obtain⟨i,hi,z0,z1,z2⟩:=gB aH2;refine⟨madeCells (Value.agg #[.int .i64 0,.int .i64 0,.int .i64 0,.int .i64 0]).cells (n*i.size),by rw[size_madeCells,z1],fun g hg=>?_,fun W=>?_⟩
 ·rw[z1]
  have h4:g % 4=0∨g % 4=1∨g % 4=2∨g % 4=3:=by omega
  rcases h4 with e|e|e|e<;>simp[madeCells,Value.cells,hg,e]
 ·have:=run_make (P:=prog) W 205 263 i _ underlying205 hi z0 .i64 .i64 n n (by omega) (Int.le_refl _) (by rw[z2];omega) (by omega)
  simpa using this
namespace X
theorem Mr{l:List It}{j:Nat}{it:It}(h:l[j]?=some it)(x:ah):jo (l.take (j+1)) x=match jo (l.take j) x with|some i=>some i|none=>if x≠[]∧(called it).1=x then some j else none:=by
 have hj:j<l.length:=by
  rcases bE j l.length with g|g
  ·exact g
  ·rw[aO g] at h;cases h
 unfold jo;by_cases hx:x=[]
 ·simp[hx]
 ·rw[aG hx,aG hx,jH h,List.findIdx?_append]
  cases hf:(l.take j).findIdx? (fun it=>(called it).1==x) with
  | some i=>simp
  | none =>
   by_cases e:(called it).1=x
   ·have e2:((called it).1==x)=true:=by simpa using e
    simp[lX,e,hx];omega
   ·have e2:((called it).1==x)=false:=by simpa using e
    simp[lX,e2,e]
end X
structure IsF(w w':World)(iv:Value)(its:List X.It):Prop where
 blk:w'.heap[w.heap.size+2]?=some (.cells #[iv,.map (some w.heap.size),.slice (some ⟨w.heap.size+1,0,none⟩) its.length its.length] 207 (0,0))
 mp:∃ k,Mp w' w.heap.size k (X.jo its)
 ans:∃ A,w'.heap[w.heap.size+1]?=some (.cells A 263 (0,0))∧A.size=its.length*4∧∀ g,g<its.length*4→A[g]?=some (.int .i64 0)
 bl:Below w.heap.size w w'
theorem oV.LY{w w':World}{lo hi:Nat}{rv:Value}{es:List X.It}{S:Nat→Prop}(h:oV w lo hi rv es)(hk:Kp S w w')(hS:∀ q,lo≤q→q<hi→¬ S q):oV w' lo hi rv es:=by
 obtain⟨ao,cap,vs,e,c1,c2,c3,c4⟩:=h.ex;exact⟨ao,cap,vs,e,c1,c2,fun j hj=>by obtain⟨g,x1,x2,x3,x4,c,f,x5⟩:=c3 j hj;exact⟨g,x1,x2,x3,hk.dY x4 (hS g x2 x3),c,f,hk.heap x5 (hS g x2 x3)⟩,fun j e hj=>(c4 j e hj).keep hk hS⟩
structure WN(W:World)(nb:Nat)(its:List X.It)(j:Nat)(wr:World):Prop where
 kp:Kp (fun q=>q=nb) W wr
 mp:Mp wr nb j (X.jo (its.take j))
theorem WN.more{W:World}{nb:Nat}{its:List X.It}{j:Nat}{wr w2:World}{it:X.It}(h:WN W nb its j wr)(he:its[j]?=some it)(hk:Kp (fun q=>q=nb) wr w2){k:Nat}{g:ah→Option Nat}(hm:Mp w2 nb k g)(hk1:k≤j+1)(hg:∀ x,g x=match X.jo (its.take j) x with|some i=>some i|none=>if x≠[]∧(X.called it).1=x then some j else none):WN W nb its (j+1) w2:=by
 refine⟨h.kp.trans hk (fun _ _ e=>e),?_⟩;obtain⟨D,o1,o2⟩:=hm;exact Mp.congr ⟨D,o1.mono hk1,o2⟩ (fun x=>by rw[hg x,X.Mr he])
theorem IG(lo hi:Nat)(iv:Value)(its:List X.It)(w:World)(hits:oV w lo hi iv its)(hhi:hi≤w.heap.size)(hlen:its.length≤268435456)(hB:∀ it∈its,X.NW 268435456 it) :
  Calls prog 46 #[iv] w fun e w'=>e=.returned (.pointer (some ⟨w.heap.size+2,0,none⟩))∧Hid (IsF w w' iv its):=by
 obtain⟨A,hA1,hA2,hA3⟩:=XR its.length hlen;have hmm:=mkMap;obtain⟨ao,cap,vs,Ut,z2,z3,z4,z5⟩:=hits.ex;subst Ut;have HBd:=au hB;have Z4:=au z4;have Z5:=au z5;clear hB z4 z5 hits;go_enter func46,ntmps46
 go_upto_region 2 with fail
 have kW:Below w.heap.size w (((w.alloc (.map #[] 0)).alloc (.cells A 263)).alloc (.cells #[.slice ao its.length cap,.map (some w.heap.size),.slice (some ⟨w.heap.size+1,0,none⟩) its.length its.length] 207)):=(((ay _ w).alloc (aj _) _).alloc (by simp) _).alloc (by simp;omega) _;have hM0:Mp (((w.alloc (.map #[] 0)).alloc (.cells A 263)).alloc (.cells #[.slice ao its.length cap,.map (some w.heap.size),.slice (some ⟨w.heap.size+1,0,none⟩) its.length its.length] 207)) w.heap.size 0 (X.jo (its.take 0)):=by
  refine Mp.congr ((Mp.made w).below (((ay _ _).alloc (aj _) _).alloc (by simp) _)) (fun x=>?_);rw[nT];unfold X.jo
  split<;>rfl
 have hA0:(((w.alloc (.map #[] 0)).alloc (.cells A 263)).alloc (.cells #[.slice ao its.length cap,.map (some w.heap.size),.slice (some ⟨w.heap.size+1,0,none⟩) its.length its.length] 207)).heap[w.heap.size+1]?=some (.cells A 263 (0,0)):=by
  refine(dN _ _ (by simp)).trans ?_;have:=aB (w.alloc (.map #[] 0)) (.cells A 263)
  simpa using this
 have Dx:(((w.alloc (.map #[] 0)).alloc (.cells A 263)).alloc (.cells #[.slice ao its.length cap,.map (some w.heap.size),.slice (some ⟨w.heap.size+1,0,none⟩) its.length its.length] 207)).heap[w.heap.size+2]?=some (.cells #[.slice ao its.length cap,.map (some w.heap.size),.slice (some ⟨w.heap.size+1,0,none⟩) its.length its.length] 207 (0,0)):=by
  have:=aB ((w.alloc (.map #[] 0)).alloc (.cells A 263)) (.cells #[.slice ao its.length cap,.map (some w.heap.size),.slice (some ⟨w.heap.size+1,0,none⟩) its.length its.length] 207)
  simpa using this
 have aH4:(((w.alloc (.map #[] 0)).alloc (.cells A 263)).alloc (.cells #[.slice ao its.length cap,.map (some w.heap.size),.slice (some ⟨w.heap.size+1,0,none⟩) its.length its.length] 207)).heap.size=w.heap.size+3:=by simp
 have HKW:=au kW;have Z0:=au Dx;have HA0:=au hA0;have HI0:Hid (WN (((w.alloc (.map #[] 0)).alloc (.cells A 263)).alloc (.cells #[.slice ao its.length cap,.map (some w.heap.size),.slice (some ⟨w.heap.size+1,0,none⟩) its.length its.length] 207)) w.heap.size its 0 (((w.alloc (.map #[] 0)).alloc (.cells A 263)).alloc (.cells #[.slice ao its.length cap,.map (some w.heap.size),.slice (some ⟨w.heap.size+1,0,none⟩) its.length its.length] 207))):=⟨Kp.refl _ _,hM0⟩;have HSZ:=au aH4;clear kW hM0 Dx hA0 hmm hA3 aH4;generalize (((w.alloc (.map #[] 0)).alloc (.cells A 263)).alloc (.cells #[.slice ao its.length cap,.map (some w.heap.size),.slice (some ⟨w.heap.size+1,0,none⟩) its.length its.length] 207))=W at *;go_wp2_with fail
 go_loopw [18] (fun v wr=>∃ j:Nat,v=.int .i64 j∧j≤its.length∧Hid (WN W w.heap.size its j wr)) (fun v _=>its.length - (intOf v).toNat)
 case atStart=>exact⟨0,rfl,aX _,HI0⟩
 case round =>
  obtain⟨j,rfl,hj,HI⟩:=hrel;clear HI0;have k2r:Kp (fun q=>q=w.heap.size) w wr:=Kp.trans (Kp.aI HKW.o _) (HI.o).kp (fun _ _ e=>e);have ZU:∀ q,lo≤q→q<hi→¬ q=w.heap.size:=fun q _ h e=>by omega
  by_cases hjl:j<its.length
  ·obtain⟨it,he⟩:∃ it,its[j]?=some it:=⟨its[j],aC hjl⟩
   obtain⟨g,hao,y1,y2,y3,-⟩:=(Z4.o) j hjl;have hi1:(j:Int)<(its.length:Int):=by omega
   have y4:=k2r.dY y3 (ZU g y1 y2);have hIs:=((Z5.o) j it he).keep k2r ZU;obtain⟨q1,q2⟩:=EZ ((HBd.o) it (dh he));have WO:(X.called it).1.length≤maxLen:=by unfold maxLen;omega
   obtain⟨b,hcase⟩:=BQ hIs;have hFr:=(HI.o).kp.heap Z0.o (by omega);have f1:=ai wr _ 1 _ _ _ hFr;have hfl:=aP hFr;have hwr:w.heap.size+3≤wr.heap.size:=by have:=(HI.o).kp.size;have:=HSZ.o;omega
   subst hao;clear y3 hIs k2r hFr ZU;generalize hnn:X.called it=nn at *;generalize vs j=vj at *;have Z6:=au hnn;clear hnn;rcases hcase with ⟨rfl,hc⟩|⟨rfl,hc⟩
   all_goals
    have HC:=au hc;clear hc;go_wp2_with fail
    refine(HC.o).mono ?_;rintro e w3 ⟨rfl,B3⟩;have k3:Below wr.heap.size wr (w3.alloc (.cells #[.string (ba nn.1),.int .i64 nn.2] 66)):=B3.alloc B3.size _;have XT:=(HI.o).mp.below (k3.drew);have hrun:=XT.nV WO;have f13:=pU k3 hfl f1;have XU:=au (aB w3 (.cells #[.string (ba nn.1),.int .i64 nn.2] 66));have Z7:=ai _ _ 0 _ _ _ XU.o;have n13:=ai _ _ 1 _ _ _ XU.o;have hw3:wr.heap.size≤w3.heap.size:=B3.size;have hw4:(w3.alloc (.cells #[.string (ba nn.1),.int .i64 nn.2] 66)).heap.size=w3.heap.size+1:=by simp
    have qi:=au k3;have wW:=au XT;clear k3 XT HC B3;cases htp:X.jo (its.take j) nn.1 with
    | some i =>
     rw[htp] at hrun;have hrun':(Instr.lookup 103 (.map (some w.heap.size)) (.string (ba nn.1)) true).run prog (w3.alloc (.cells #[.string (ba nn.1),.int .i64 nn.2] 66)).drew=.ok (.tuple #[.int .i64 (i:Nat),.bool true]) (w3.alloc (.cells #[.string (ba nn.1),.int .i64 nn.2] 66)).drew:=hrun;have HI3:Hid (WN W w.heap.size its (j+1) (w3.alloc (.cells #[.string (ba nn.1),.int .i64 nn.2] 66)).drew):=(HI.o).more he (Kp.aI (qi.o).drew _) wW.o (by omega) (fun x=>by
      cases hx:X.jo (its.take j) x with
      | some i=>rfl
      | none =>
       have:¬(x≠[]∧(X.called it).1=x):=fun e=>by rw[Z6.o] at e;rw[← e.2,htp] at hx;cases hx
       show _=if _ then _ else _
       rw[aG this])
     clear hrun wW qi HI hw4;go_wp2_with fail
     generalize w3.alloc (.cells #[.string (ba nn.1),.int .i64 nn.2] 66)=W4 at *
     go_region_held3 (fun w'=>w'.cell? ⟨w.heap.size+2,1,none⟩=some (.map (some w.heap.size))∧w'.cell? ⟨w3.heap.size,0,none⟩=some (.string (ba nn.1))∧(Instr.lookup 103 (.map (some w.heap.size)) (.string (ba nn.1)) true).run prog w'=.ok (.tuple #[.int .i64 (i:Nat),.bool true]) w')
      (first|(with_reducible exact⟨f13,Z7,hrun'⟩)|go_keep)
      (fail)
     clear hrun' f13 Z7 n13;go_wp2_with fail
     exact⟨⟨j+1,by simp,by omega,HI3⟩,by simp[intOf];omega⟩
    | none =>
     rw[htp] at hrun;have hrun':(Instr.lookup 103 (.map (some w.heap.size)) (.string (ba nn.1)) true).run prog (w3.alloc (.cells #[.string (ba nn.1),.int .i64 nn.2] 66)).drew=.ok (.tuple #[.int .i64 0,.bool false]) (w3.alloc (.cells #[.string (ba nn.1),.int .i64 nn.2] 66)).drew:=hrun;clear hrun;go_wp2_with fail
     generalize w3.alloc (.cells #[.string (ba nn.1),.int .i64 nn.2] 66)=W4 at *
     go_region_held3 (fun w'=>w'.cell? ⟨w.heap.size+2,1,none⟩=some (.map (some w.heap.size))∧w'.cell? ⟨w3.heap.size,0,none⟩=some (.string (ba nn.1))∧(Instr.lookup 103 (.map (some w.heap.size)) (.string (ba nn.1)) true).run prog w'=.ok (.tuple #[.int .i64 0,.bool false]) w')
      (first|(with_reducible exact⟨f13,Z7,hrun'⟩)|go_keep)
      (fail)
     have f14:W4.drew.cell? ⟨w.heap.size+2,1,none⟩=some (.map (some w.heap.size)):=f13;have n04:W4.drew.cell? ⟨w3.heap.size,0,none⟩=some (.string (ba nn.1)):=Z7;have n14:W4.drew.cell? ⟨w3.heap.size,1,none⟩=some (.int .i64 nn.2):=n13;have rY:Hid (Below wr.heap.size wr W4.drew):=(qi.o).drew;have hs4:W4.drew.heap.size=w3.heap.size+1:=hw4;clear hrun' f13 Z7 n13 hw4 qi XU;generalize W4.drew=Wd at *;by_cases hn:nn.1=[]
     ·have e1:nn.1.isEmpty=true:=by rw[hn];rfl
      have KA:=au (l9 nn.1 nn.2 Wd true e1);have HH:Hid (∀ x,X.jo (its.take j) x=match X.jo (its.take j) x with|some i=>some i|none=>if x≠[]∧(X.called it).1=x then some j else none):=fun x=>by
       cases hx:X.jo (its.take j) x with
       | some i=>rfl
       | none =>
        have:¬(x≠[]∧(X.called it).1=x):=fun e=>by rw[Z6.o] at e;exact e.1 (e.2.symm.trans hn)
        show _=if _ then _ else _
        rw[aG this]
      clear hn;go_wp2_with fail
      refine(KA.o).mono ?_;rintro e w5 ⟨rfl,B5⟩;have rZ:Hid (WN W w.heap.size its (j+1) w5):=(HI.o).more he (Kp.aI ((rY.o).trans (B5.mono (rY.o).size)) _) ((wW.o).below B5) (by omega) HH.o;clear B5 KA HI wW rY f14 n04 n14;go_wp2_with fail
      exact⟨⟨j+1,by simp,by omega,rZ⟩,by simp[intOf];omega⟩
     ·have e1:nn.1.isEmpty=false:=by cases hx:nn.1 with|nil=>exact absurd hx hn|cons a l=>rfl
      have KA:=au (l9 nn.1 nn.2 Wd false e1);have HH:Hid (∀ x,upd (X.jo (its.take j)) nn.1 j x=match X.jo (its.take j) x with|some i=>some i|none=>if x≠[]∧(X.called it).1=x then some j else none):=fun x=>by
       unfold upd;rw[Z6.o];by_cases e:x=nn.1
       ·subst e
        rw[aL rfl,htp];show _=if _ then _ else _
        rw[aL ⟨hn,rfl⟩]
       ·rw[aG e]
        cases hx:X.jo (its.take j) x with
        | some i=>rfl
        | none =>
         show _=if _ then _ else _
         rw[aG (fun e2=>e e2.2.symm)]
      clear hn;go_wp2_with fail
      refine(KA.o).mono ?_;rintro e w5 ⟨rfl,B5⟩;have f15:=pU B5 (by omega) f14;have n05:=pU B5 (by omega) n04;have HK5:Hid (Below wr.heap.size wr w5):=(rY.o).trans (B5.mono (rY.o).size);have Tx:Hid (Mp w5.drew w.heap.size j (X.jo (its.take j))):=((wW.o).below B5).below ((ay _ w5).drew);have hjm:j<maxLen:=by unfold maxLen;omega
      have hn2:j≤9223372036854775807:=by omega
      clear B5 KA wW rY f14 n04 n14;go_wp2_with fail
      refine bH (S:=fun w'=>w'.cell? ⟨w.heap.size+2,1,none⟩=some (.map (some w.heap.size))∧w'.cell? ⟨w3.heap.size,0,none⟩=some (.string (ba nn.1))) (z:=7) (by kernel_rfl) ?_;have hS:w5.drew.cell? ⟨w.heap.size+2,1,none⟩=some (.map (some w.heap.size))∧w5.drew.cell? ⟨w3.heap.size,0,none⟩=some (.string (ba nn.1)):=⟨f15,n05⟩;iterate 7(refine qD hS ?_;simp only[Act.put,ax,aD,aF])
      refine bD 7 fun K hK=>?_;refine xS (by rfl) _ _ _ (by rfl) w.heap.size j (X.jo (its.take j)) (by rfl) Tx.o hjm nn.1 WO j hn2 (by rfl) (by rfl) ?_;intro w6 aH6 Xq;refine hK.o _ _ (fun h=>absurd rfl h) (fun _=>fB ?_);clear hK K hS;have Ie:Hid (WN W w.heap.size its (j+1) w6):=(HI.o).more he (Kp.trans (Kp.aI (HK5.o).drew _) Xq (fun _ _ e=>e)) aH6 (aj _) HH.o;clear aH6 Xq Tx HK5 HI f15 n05;go_wp2_with fail
      exact⟨⟨j+1,by simp,by omega,Ie⟩,by simp[intOf];omega⟩
  ·obtain rfl:j=its.length:=by omega
   have hd1:¬(its.length:Int)<(its.length:Int):=by omega
   have HF:Hid (IsF w wr (.slice ao its.length cap) its):=by
    have hk:=(HI.o).kp;refine⟨hk.heap Z0.o (by omega),⟨its.length,?_⟩,⟨A,hk.heap HA0.o (by omega),hA1,hA2⟩,k2r.below (aj _) (fun q e=>by omega)⟩;have:=(HI.o).mp;rw[kY] at this;exact this
   clear HI k2r ZU;go_wp2_with fail
   go_ret;exact⟨rfl,HF⟩
end
section
variable{l:List AF}{i:Nat}{a:AF}{w wr:World}{rv:Value}{vs:List Value}{IV:Nat→Value}{Lo Hi:Nat→Nat}
namespace X
theorem KE:∀(l:List U) (lo hi:Nat),fq lo hi l→l.length≤hi - lo
 | [],lo,hi,_=>aX _
 | a::l,lo,hi,h=>by
  obtain⟨h1,h2⟩:=h;rw[wL] at h1;have ha:=h2 a (by simp);have:=KE l (a.i+1) hi ⟨h1.2,fun u hu=>⟨h1.1 u hu,(h2 u (by simp[hu])).2⟩⟩;rw[aW];omega
def T0:ah:=[100,101,102,32,120,32,61,32,49,59]
def I0:List It:=[.dfn false ([120],4) none (.lit 15 [49])]
theorem aI1:gV (xt T0)=[.br 4 [.leaf 4 [100,101,102],.leaf 1 [32],.leaf 3 [120],.leaf 1 [32],.leaf 7 [61],.br 15 [.leaf 1 [32],.leaf 5 [49]],.leaf 7 [59]]]:=by kernel_rfl
theorem Z8:∀ q∈[Part.leaf 1 [32]],lq q=true:=fun q hq=>by rw[dR.1 hq];rfl
theorem aY3:sI (gV (xt T0)) 0 I0:=by
 rw[aI1];refine sI.item (.br 4 ([]++([.leaf 4 [100,101,102]]++([.leaf 1 [32],.leaf 3 [120]]++([]++([.leaf 1 [32],.leaf 7 [61]]++([.br 15 [.leaf 1 [32],.leaf 5 [49]]]++[.leaf 7 [59]]))))))) [] 0 _ [] ?_ (.leaves [] _ (fun q hq=>by cases hq));exact .dfn [] [.leaf 4 [100,101,102]] [.leaf 1 [32],.leaf 3 [120]] [] [.leaf 1 [32],.leaf 7 [61]] (.br 15 [.leaf 1 [32],.leaf 5 [49]]) [.leaf 7 [59]] 0 false ([120],4) none (.lit 15 [49]) .no (.inl ⟨4,[100,101,102],[],⟨rfl,fun q hq=>(by cases hq),by decide⟩,by decide⟩) (.name _ [120] [.leaf 1 [32]] 3 ⟨rfl,Z8,by decide⟩) (.no _) (.inl ⟨7,[61],[.leaf 1 [32]],⟨rfl,Z8,by decide⟩⟩) (.lit 15 5 [49] _ [.leaf 1 [32]] _ (by decide) ⟨rfl,Z8,by decide⟩) (.inl ⟨7,[59],[],⟨rfl,fun q hq=>(by cases hq),by decide⟩⟩)
def T1:ah:=[100,101,102,32,121,32,61,32,49,59]
def I1:List It:=[.dfn false ([121],4) none (.lit 15 [49])]
theorem aI2:gV (xt T1)=[.br 4 [.leaf 4 [100,101,102],.leaf 1 [32],.leaf 3 [121],.leaf 1 [32],.leaf 7 [61],.br 15 [.leaf 1 [32],.leaf 5 [49]],.leaf 7 [59]]]:=by kernel_rfl
theorem aY4:sI (gV (xt T1)) 0 I1:=by
 rw[aI2];refine sI.item (.br 4 ([]++([.leaf 4 [100,101,102]]++([.leaf 1 [32],.leaf 3 [121]]++([]++([.leaf 1 [32],.leaf 7 [61]]++([.br 15 [.leaf 1 [32],.leaf 5 [49]]]++[.leaf 7 [59]]))))))) [] 0 _ [] ?_ (.leaves [] _ (fun q hq=>by cases hq));exact .dfn [] [.leaf 4 [100,101,102]] [.leaf 1 [32],.leaf 3 [121]] [] [.leaf 1 [32],.leaf 7 [61]] (.br 15 [.leaf 1 [32],.leaf 5 [49]]) [.leaf 7 [59]] 0 false ([121],4) none (.lit 15 [49]) .no (.inl ⟨4,[100,101,102],[],⟨rfl,fun q hq=>(by cases hq),by decide⟩,by decide⟩) (.name _ [121] [.leaf 1 [32]] 3 ⟨rfl,Z8,by decide⟩) (.no _) (.inl ⟨7,[61],[.leaf 1 [32]],⟨rfl,Z8,by decide⟩⟩) (.lit 15 5 [49] _ [.leaf 1 [32]] _ (by decide) ⟨rfl,Z8,by decide⟩) (.inl ⟨7,[59],[],⟨rfl,fun q hq=>(by cases hq),by decide⟩⟩)
noncomputable def mX(x:ah):List It:=open Classical in if x=T0 then I0 else if x=T1 then I1 else if h:∃ its,sI (gV (xt x)) 0 its then Classical.choose h else []
theorem sJ(x:ah):sI (gV (xt x)) 0 (mX x):=by
 have h:∃ its,sI (gV (xt x)) 0 its:=Fq _ (xt x) (aj _) (fun t ht e=>by have:=(yS x t ht).2.2.2.1;omega) 0;unfold mX;by_cases e:x=T0
 ·rw[aL e,e];exact aY3
 ·rw[aG e]
  by_cases e1:x=T1
  ·rw[aL e1,e1];exact aY4
  ·rw[aG e1,dif_pos h]
   exact Classical.choose_spec h
theorem aI3:mX T0=I0:=aL rfl
end X
noncomputable def dD(l:List AF):List X.Fl:=l.map fun a=>(bs a.n,X.mX (bs a.t))
theorem qG(h:l[i]?=some a):X.aM (dD l) i=X.mX (bs a.t):=by
 unfold X.aM dD;rw[bF,mQ,h];rfl
theorem nL(l:List AF):(dD l).length=l.length:=by unfold dD;rw[eG]
theorem xg(h:l.length≤i):X.aM (dD l) i=[]:=by
 unfold X.aM dD;rw[bF,mQ,aO h];rfl
def Short(l:List AF):Prop:=∀ a∈l,a.t.size≤1000000
theorem Fu{x:ah}(h:x.length≤1000000):X.pz (X.gV (X.xt x))≤1000000∧X.dQ (X.gV (X.xt x))≤268435456:=by
 have hb:X.pb (X.file (X.xt x))=x:=by rw[X.q9,X.KF]
 refine⟨by rw[Dy,hb];exact h,?_⟩;have hll:(X.xt x).length≤x.length:=by
  have:=sw _ 0 x (aj _);unfold X.xt;rw[eG];exact this
 have h1:=X.zL (X.xt x);have h3:X.iM (X.file (X.xt x))=1+X.dQ (X.gV (X.xt x)):=rfl;omega
theorem KH(i:Nat):∃ ps,X.sI ps 0 (X.aM (dD l) i):=by
 rcases bE i l.length with g|g
 ·rw[qG (aC g)]
  exact⟨_,X.sJ _⟩
 ·rw[xg g]
  exact⟨[],.leaves [] 0 (fun q hq=>by cases hq)⟩
theorem sK(h:Short l)(i:Nat):(∀ it∈X.aM (dD l) i,X.NW 268435456 it)∧(X.aM (dD l) i).length≤268435456∧∀ fs f,(X.iB fs f 0 (X.aM (dD l) i)).length≤1000000:=by
 rcases bE i l.length with g|g
 ·have ha:=aC g
  rw[qG ha];have hr:=X.sJ (bs l[i].t);obtain⟨p1,p2⟩:=Fu (x:=bs l[i].t) (by rw[eZ];exact h _ (List.getElem_mem g));refine⟨X.aI4 hr (by omega) p2,?_,fun fs f=>?_⟩
  ·have h1:=KI hr
   have h2:=gu (X.gV (X.xt (bs l[i].t)));omega
  ·have:=X.KE _ _ _ (X.zM (fs:=fs) (f:=f) hr 0)
   omega
 ·rw[xg g]
  exact⟨fun it hit=>(by cases hit),aX _,fun fs f=>(by rw[X.iB];exact aX _)⟩
def Pk(fs:List X.Fl)(j:Nat):List X.U:=(List.range j).flatMap fun f=>X.iB fs f 0 (X.aM fs f)
theorem Fv(fs:List X.Fl)(j:Nat):Pk fs (j+1)=Pk fs j++X.iB fs j 0 (X.aM fs j):=by
 unfold Pk;rw[List.range_succ,iA];simp
theorem KJ{l:List AF}(h:Short l):∀ j,(Pk (dD l) j).length≤j*1000000
 | 0=>aX _
 | j+1=>by
  rw[Fv,ak];have:=KJ h j;have:=(sK h j).2.2 (dD l) j;omega
theorem Uu{s:ByteArray}(h:qj s=true):bs s≠[]:=by
 intro e;unfold qj at h;rw[e] at h;simp[nX] at h
theorem Uv:∀ {seen:List (ah)},Bd l seen=0→(∀ a∈l,qj a.n=true)∧(l.map (fun a=>bs a.n)).Pairwise (·≠·)∧∀ a∈l,bs a.n∉seen:=by
 induction l with
 | nil=>intro seen _;exact⟨fun a h=>(by cases h),List.Pairwise.nil,fun a h=>(by cases h)⟩
 | cons a l ih =>
  intro seen h;rw[Bd] at h;cases hn:qj a.n with
  | false=>rw[hn] at h;simp at h
  | true =>
   rw[hn,aL rfl] at h;by_cases hm:bs a.n∈seen
   ·rw[aL hm] at h;cases h
   ·rw[aG hm] at h
    obtain⟨h1,h2,h3⟩:=ih h;refine⟨fun b hb=>?_,?_,fun b hb=>?_⟩
    ·rcases cK.1 hb with rfl|hb
     ·exact hn
     ·exact h1 b hb
    ·rw[fQ,wL]
     refine⟨fun x hx e=>?_,h2⟩;obtain⟨b,hb,rfl⟩:=iT.1 hx;exact h3 b hb (by rw[← e];simp)
    ·rcases cK.1 hb with rfl|hb
     ·exact hm
     ·exact fun e=>h3 b hb (by simp[e])
theorem Pm(h:∀ a∈l,qj a.n=true)(x:ah):X.qC (dD l) x=oz l x:=by
 have e1:(dD l).findIdx? (fun f=>f.1==x)=oz l x:=by
  unfold dD oz;rw[List.findIdx?_map];rfl
 unfold X.qC;by_cases hx:x=[]
 ·rw[aL hx]
  cases hi:oz l x with
  | none=>rfl
  | some i =>
   exfalso;have:=(vw l x).1 (by rw[hi];rfl);obtain⟨a,ha,e⟩:=iT.1 this;exact Uu (h a ha) (e.trans hx)
 ·rw[aG hx,e1]
structure Dz(w:World)(B:Nat)(rv:Value)(l:List AF)(IV:Nat→Value)(Lo Hi:Nat→Nat):Prop where
 ex:∃(ao:Option Addr) (cap:Nat),rv=.slice ao l.length cap∧l.length≤cap∧cap≤maxLen∧∀(j:Nat) (a:AF),l[j]?=some a→∃ g,ao=some ⟨g,0,none⟩∧g<w.heap.size∧B≤g∧w.cell? ⟨g,j*2,none⟩=some (.string a.n)∧w.cell? ⟨g,j*2+1,none⟩=some (IV j)
 its:∀(j:Nat) (a:AF),l[j]?=some a→oV w (Lo j) (Hi j) (IV j) (X.mX (bs a.t))∧B≤Lo j∧Hi j≤w.heap.size
structure Fw(w:World)(l:List AF)(j:Nat)(rv:Value)(vs:List Value)(IV:Nat→Value)(Lo Hi:Nat→Nat)(wr:World):Prop where
 bl:Below w.heap.size w wr
 row:wr.ownsRow w.heap.size 110 2 rv j vs
 len:vs.length=j*2
 val:∀ i a,i<j→l[i]?=some a→vs[i*2]?=some (.string a.n)∧vs[i*2+1]?=some (IV i)
 its:∀ i a,i<j→l[i]?=some a→oV wr (Lo i) (Hi i) (IV i) (X.mX (bs a.t))∧w.heap.size≤Lo i∧Hi i≤wr.heap.size
 far:∀ g,rv.ownBlock=some g→∀ i,i<j→¬(Lo i≤g∧g<Hi i)
theorem Fw.more{j:Nat}{w2 w6 w7:World}{iv:Value}{lo g cap:Nat}(h:Fw w l j rv vs IV Lo Hi wr)(ha:l[j]?=some a)(hb2:Below wr.heap.size wr w2)(hlo:wr.heap.size≤lo)(hits:oV w2 lo w2.heap.size iv (X.mX (bs a.t)))(hb6:Below w2.heap.size w2 w6)
  (hown:w7.ownsRow w.heap.size 110 2 (.slice (some ⟨g,0,none⟩) (j+1) cap) (j+1) (vs++[.string a.n,iv])) (hgrow:w6.grownBy w7 rv.ownBlock) (hat:rv.ownBlock=some g∨g=w6.heap.size) :
  Fw w l (j+1) (.slice (some ⟨g,0,none⟩) (j+1) cap) (vs++[.string a.n,iv]) (fun i=>if i=j then iv else IV i) (fun i=>if i=j then lo else Lo i) (fun i=>if i=j then w2.heap.size else Hi i) w7:=by
 have s2:=hb2.size;have s6:=hb6.size;have s0:=h.bl.size;have hown0:∀ q,rv.ownBlock=some q→w.heap.size≤q∧q<wr.heap.size:=fun q hq=>dV h.row q hq
 have k67:Kp (fun q=>rv.ownBlock=some q) w6 w7:=(Kp.refl _ w6).grown hgrow (fun q e _=>e);have k27:Kp (fun q=>rv.ownBlock=some q) w2 w7:=(Kp.aI hb6 _).trans k67 (fun _ _ e=>e);have kr7:Kp (fun q=>rv.ownBlock=some q) wr w7:=(Kp.aI hb2 _).trans k27 (fun _ _ e=>e);have s7:=k67.size;refine⟨h.bl.trans (kr7.below s0 (fun q e=>(hown0 q e).1)),hown,by rw[ak,h.len];show _+2=_;omega,fun i b hi hb=>?_,fun i b hi hb=>?_,fun q hq i hi=>?_⟩
 ·by_cases hij:i=j
  ·subst hij
   rw[ha] at hb;cases hb
   rw[aL rfl,aQ (by rw[h.len];exact aj _),aQ (by rw[h.len];omega),h.len];exact⟨by rw[uR];rfl,by rw[je];rfl⟩
  ·rw[aG hij]
   have:=h.val i b (by omega) hb;rw[aU (by rw[h.len];omega),aU (by rw[h.len];omega)];exact this
 ·by_cases hij:i=j
  ·subst hij
   rw[ha] at hb;cases hb
   rw[aL rfl,aL rfl,aL rfl];exact⟨hits.LY k27 (fun q h1 _ e=>by have:=(hown0 q e).2;omega),by omega,by omega⟩
  ·rw[aG hij,aG hij,aG hij]
   obtain⟨b1,b2,b3⟩:=h.its i b (by omega) hb;exact⟨b1.LY kr7 (fun q h1 h2 e=>h.far q e i (by omega) ⟨h1,h2⟩),b2,by omega⟩
 ·obtain rfl:q=g:=by cases hq;rfl
  by_cases hij:i=j
  ·rw[aL hij,aL hij]
   rcases hat with e|e
   ·have:=(hown0 _ e).2
    omega
   ·omega
  ·rw[aG hij,aG hij]
   rcases hat with e|e
   ·exact h.far _ e i (by omega)
   ·have hil:i<l.length:=by
     have:j<l.length:=by
      rcases bE j l.length with g|g
      ·exact g
      ·rw[aO g] at ha;cases ha
     omega
    have:=(h.its i l[i] (by omega) (aC hil)).2.2;omega
theorem Fw.done(h:Fw w l l.length rv vs IV Lo Hi wr):Dz wr w.heap.size rv l IV Lo Hi:=by
 have hlt:∀ {j:Nat} {a:AF},l[j]?=some a→j<l.length:=fun {j a} ha=>by
  rcases bE j l.length with g|g
  ·exact g
  ·rw[aO g] at ha;cases ha
 refine⟨?_,fun j a ha=>h.its j a (hlt ha) ha⟩;have hr:=h.row;have hc:=fun g hg=>hr.cells (g:=g) hg
 rcases hr.2 with ⟨e,h0⟩|⟨g,cap,cur,e,hge,hgg,hnn,hm,-,-⟩
 ·exact⟨none,0,by rw[h0];exact e,by rw[h0];exact aj _,by unfold maxLen;omega,fun j a ha=>by have:=hlt ha;omega⟩
 ·refine⟨_,cap,e,hnn,hm,fun j a ha=>⟨g,rfl,aP hgg,hge,?_,?_⟩⟩
  ·have:=hc g (by rw[e];rfl) _ _ (h.val j a (hlt ha) ha).1
   rwa[fe,cu] at this
  ·have:=hc g (by rw[e];rfl) _ _ (h.val j a (hlt ha) ha).2
   rwa[fe,cu] at this
structure KL(w:World)(l:List AF)(mb wb:Nat)(j:Nat)(Bf:Nat→Nat)(IV:Nat→Value)(fv:Value)(wr:World):Prop where
 bl:Below w.heap.size w wr
 blk:wr.heap[wb]?=some (.cells #[.map (some mb),fv] 154 (0,0))
 mp:Mp wr mb j (oz (l.take j))
 row:wr.ownsRow w.heap.size 155 1 fv j ((List.range j).map fun i=>.pointer (some ⟨Bf i+2,0,none⟩))
 far:∀ g,fv.ownBlock=some g→g≠mb∧g≠wb∧∀ i,i<j→¬(Bf i≤g∧g≤Bf i+2)
 ord:∀ i,i<j→wb<Bf i∧mb<Bf i∧Bf i+2<wr.heap.size
 asc:∀ i i',i<i'→i'<j→Bf i+2<Bf i'
 fil:∀ i a,i<j→l[i]?=some a→wr.heap[Bf i+2]?=some (.cells #[IV i,.map (some (Bf i)),.slice (some ⟨Bf i+1,0,none⟩) (X.mX (bs a.t)).length (X.mX (bs a.t)).length] 207 (0,0))∧(∃ k,Mp wr (Bf i) k (X.jo (X.mX (bs a.t))))∧∃ A,wr.heap[Bf i+1]?=some (.cells A 263 (0,0))∧A.size=(X.mX (bs a.t)).length*4∧∀ g,g<(X.mX (bs a.t)).length*4→A[g]?=some (.int .i64 0)
end
section
open Tryz
theorem XW:(prog.info? 110).map (fun i=>(i.zero,i.size,i.bytes))=some (some (.agg #[.string ⟨#[]⟩,.slice none 0 0]),2,40):=by kernel_rfl
theorem Fx(ao:Option Addr)(cap:Nat)(l:List AF)(w:World)(hT:kP w)(h:qF w w.heap.size ao l)(hn16:l.length≤16)(hsh:Short l) :
  Calls prog 13 #[.slice ao l.length cap] w fun e w'=>∃ rv,e=.returned rv∧Hid ((∃ IV Lo Hi,Dz w' w.heap.size rv l IV Lo Hi)∧Below w.heap.size w w'):=by
 obtain⟨i0,hi0,hz0,hz1,hz2⟩:=gB XW;have HT:=au hT;have HL:=au h;have TF:=au hsh;have HI0:Hid (∃ vs IV Lo Hi,Fw w l 0 (.slice none 0 0) vs IV Lo Hi w):=⟨[],fun _=>undef,fun _=>0,fun _=>0,ay _ w,bY _ _ _ _,rfl,fun i a hi=>by omega,fun i a hi=>by omega,fun g hg=>by cases hg⟩;clear h hT hsh;go_enter func13,ntmps13;go_wp2_with fail
 go_loopw [3,8] (fun sv v wr=>∃(j:Nat) (rv:Value),rv=sv∧v=.int .i64 j∧j≤l.length∧Hid (∃ vs IV Lo Hi,Fw w l j rv vs IV Lo Hi wr)) (fun _ v _=>l.length - (intOf v).toNat)
 case atStart=>exact⟨0,_,rfl,rfl,aX _,HI0⟩
 case round =>
  obtain⟨j,rv,rfl,rfl,hj,HI⟩:=hrel;clear HI0;by_cases hjl:j<l.length
  ·obtain⟨a,ha⟩:∃ a,l[j]?=some a:=⟨l[j],aC hjl⟩
   obtain⟨vs,IV,Lo,Hi,hin⟩:=HI.o;clear HI;obtain⟨b,o,e1,e2,e3,e4⟩:=(HL.o).below hin.bl j a ha;subst e1;have hi1:(j:Int)<(l.length:Int):=by omega
   have hts:a.t.size≤1000000:=(TF.o) a (dh ha);have HZ:Hid (X.iM (X.file (X.xt (bs a.t)))≤268435456∧X.pb (X.file (X.xt (bs a.t)))=bs a.t):=by
    have hll:(X.xt (bs a.t)).length≤a.t.size:=by
     have:=sw _ 0 (bs a.t) (aj _);rw[eZ] at this;unfold X.xt;rw[eG];exact this
    exact⟨by have:=X.zL (X.xt (bs a.t));omega,by rw[X.q9,X.KF]⟩
   have kF:Below wr.heap.size wr (wr.alloc (.cells #[.string a.n,.string a.t] 30)):=(ay _ _).alloc (aj _) _;have Dx:=aB wr (.cells #[.string a.n,.string a.t] 30);have n0:(wr.alloc (.cells #[.string a.n,.string a.t] 30)).cell? ⟨wr.heap.size,0,none⟩=some (.string a.n):=ai _ _ 0 _ _ _ Dx;have n1:(wr.alloc (.cells #[.string a.n,.string a.t] 30)).cell? ⟨wr.heap.size,1,none⟩=some (.string a.t):=ai _ _ 1 _ _ _ Dx;have hlt:=aP Dx;have HNw:=au (xX a.t (wr.alloc (.cells #[.string a.n,.string a.t] 30)).drew ((HT.o).below ((hin.bl.alloc hin.bl.size _).drew)) (by omega));have II:=au hin;have Ig:=au kF;have Z9:w.heap.size≤wr.heap.size:=hin.bl.size;have hrs:∃ fa fn fc,rv=.slice fa fn fc:=by
    rcases hin.row.2 with ⟨e,-⟩|⟨g',cap',cur,e,-⟩
    ·exact⟨_,_,_,e⟩
    ·exact⟨_,_,_,e⟩
   obtain⟨fa,fn,fc,rfl⟩:=hrs;clear hin kF Dx;go_wp2_with fail
   generalize wr.alloc (.cells #[.string a.n,.string a.t] 30)=Wa at *;refine bH (S:=fun w'=>w'.cell? ⟨wr.heap.size,0,none⟩=some (.string a.n)∧w'.cell? ⟨wr.heap.size,1,none⟩=some (.string a.t)) (z:=10) (by kernel_rfl) ?_;have hS:Wa.drew.cell? ⟨wr.heap.size,0,none⟩=some (.string a.n)∧Wa.drew.cell? ⟨wr.heap.size,1,none⟩=some (.string a.t):=⟨n0,n1⟩;iterate 5(refine qD hS ?_;simp only[Act.put,ax,aD,aF])
   refine bD 5 fun K hK=>?_;go_simp;refine(HNw.o).mono ?_;rintro e w1 ⟨tb,rfl,H1⟩;have B1:Below Wa.heap.size Wa w1:=((Below.refl _ Wa).drew).trans (H1.o).2;have n01:=pU B1 (by omega) n0;have n11:=pU B1 (by omega) n1;have hs1:=B1.size;have WQ:=au (zN tb a.t (X.mX (bs a.t)) w1 (H1.o).1 (HZ.o).1 (HZ.o).2 (by omega) (X.sJ _));dsimp only;refine hK.o _ _ (fun _=>⟨n01,n11⟩) (fun hS2=>?_);clear hS hK K;have hS:=hS2 (by decide);clear hS2;refine bD 6 fun K hK=>?_;go_simp;refine(WQ.o).mono ?_;rintro e w2 ⟨iv,rfl,H2⟩;have Pn:∃ ia ic,iv=.slice ia (X.mX (bs a.t)).length ic:=by
    obtain⟨ia,ic,-,e,-⟩:=(H2.o).1.ex;exact⟨ia,ic,e⟩
   obtain⟨ia,ic,rfl⟩:=Pn;have B2:=(H2.o).2;have n02:=pU B2 (by omega) n01;have n12:=pU B2 (by omega) n11;have hs2:=B2.size;have HB2:Hid (Below wr.heap.size wr w2):=(Ig.o).trans ((B1.trans (B2.mono hs1)).mono (Ig.o).size);have HIT:=au (H2.o).1;have OW:=au ((Kp.aI HB2.o (fun _=>False)).owns (II.o).row (fun _ _=>id));dsimp only;refine hK.o _ _ (fun _=>⟨n02,n12⟩) (fun hS2=>?_);clear hS hK K H1 H2 WQ B1 B2 n0 n1 n01 n11;have hS:=hS2 (by decide);clear hS2;generalize (X.mX (bs a.t)).length=il at *;iterate 1(refine qD hS ?_;simp only[Act.put,List.setIfInBounds_toArray,List.set_cons_zero,List.set_cons_succ])
   refine bD 8 fun K hK=>?_;go_simp;refine hK.o _ _ (fun _=>by first|go_keep|(dsimp only;go_keep)) (fun hS2=>?_);clear hS hK K;have hS:=hS2 (by decide);clear hS2;refine bD 9 fun K hK=>?_;refine step_append_lies _ (by rfl) _ _ _ (by rfl) w.heap.size 110 i0 _ 2 40 underlying47 hi0 hz0 hz1 hz2 rfl (by omega) (.slice fa fn fc) j _ (by rfl) ((OW.o).alloc _)
    ⟨w2.heap.size,0,none⟩ 1 1 [.string a.n,.slice ia il ic] (by rfl) (by rfl) (World.news_of_block (cs:=#[.string a.n,.slice ia il ic]) (t:=110) (fr:=(0,0)) (aB w2 _)) (by simp[Value.oneCell'])
    (by omega) (by unfold maxLen;omega) (by omega) (by simp;omega) (w2.heap.size+1) (by simp) ?_
   intro g Bg w7 lQ gH uj DC;have hwf:some wr.heap.size≠(Value.slice fa fn fc).ownBlock:=fun e=>by have:=(dV (II.o).row _ e.symm).2;omega
   have y0:=(gH.cell_far ⟨wr.heap.size,0,none⟩ (by simp;omega) hwf).trans hS.1;have y1:=(gH.cell_far ⟨wr.heap.size,1,none⟩ (by simp;omega) hwf).trans hS.2;show K (Act.put _ (some 21) _) w7;refine hK.o _ _ (fun _=>⟨y0,y1⟩) (fun hS2=>?_);clear hS hK K;have hS:=hS2 (by decide);clear hS2;simp only[Act.put,ax,aD,aF];refine bD 10 fun K hK=>?_;go_simp;refine hK.o _ _ (fun h=>absurd rfl h) (fun _=>fB ?_);clear hK K;have Z_:Hid (∃ vs IV Lo Hi,Fw w l (j+1) (.slice (some ⟨g,0,none⟩) (j+1) Bg) vs IV Lo Hi w7):=by
    have hb6:Below w2.heap.size w2 (w2.alloc (.cells #[.string a.n,.slice ia il ic] 110)):=(ay _ w2).alloc (aj _) _;exact⟨_,_,_,_,(II.o).more ha HB2.o (by omega) HIT.o hb6 lQ gH (by rcases uj with e|e;exact .inl e;exact .inr (by rw[e];simp))⟩
   clear lQ gH uj DC y0 y1 hS n02 n12 OW HIT II Ig;go_wp2_with fail
   exact⟨⟨j+1,_,rfl,by simp,by omega,Z_⟩,by simp[intOf];omega⟩
  ·obtain rfl:j=l.length:=by omega
   have hd1:¬(l.length:Int)<(l.length:Int):=by omega
   have HF:Hid ((∃ IV Lo Hi,Dz wr w.heap.size rv l IV Lo Hi)∧Below w.heap.size w wr):=by
    obtain⟨vs,IV,Lo,Hi,hin⟩:=HI.o;exact⟨⟨_,_,_,hin.done⟩,hin.bl⟩
   clear HI;go_wp2_with fail
   go_ret;exact⟨_,rfl,HF⟩
end
section
variable{w wr:World}{l:List AF}{mb wb:Nat}{Bf:Nat→Nat}{IV:Nat→Value}
theorem KL.start(w:World)(l:List AF)(IV:Nat→Value):KL w l w.heap.size (w.heap.size+1) 0 (fun _=>0) IV (.slice none 0 0) ((w.alloc (.map #[] 0)).alloc (.cells #[.map (some w.heap.size),.slice none 0 0] 154)):=by
 refine⟨((ay _ w).alloc (aj _) _).alloc (by simp) _,?_,?_,?_,fun g hg=>(by cases hg),fun i hi=>(by omega),fun i i' _ hi=>(by omega),fun i a hi=>(by omega)⟩
 ·have:=aB (w.alloc (.map #[] 0)) (.cells #[.map (some w.heap.size),.slice none 0 0] 154)
  simpa using this
 ·exact((Mp.made w).below ((ay _ _).alloc (aj _) _)).congr (fun x=>by rw[nT];rfl)
 ·exact bY _ _ _ _
theorem KL.more{j:Nat}{fv:Value}{wm w5 w6 w7:World}{a:AF}{g cap k:Nat}(h:KL w l mb wb j Bf IV fv wr)(hw:w.heap.size≤mb)(hmw:mb<wb)(ha:l[j]?=some a)(hnew:oz (l.take j) (bs a.n)=none)
  (hk1:Kp (fun q=>q=mb) wr wm) (hm1:Mp wm mb k (upd (oz (l.take j)) (bs a.n) j)) (hkk:k≤j+1) (hf:IsF wm w5 (IV j) (X.mX (bs a.t))) (hb6:Below w5.heap.size w5 w6)
  (hown:w7.ownsRow w.heap.size 155 1 (.slice (some ⟨g,0,none⟩) (j+1) cap) (j+1) (((List.range j).map fun i=>.pointer (some ⟨Bf i+2,0,none⟩))++[.pointer (some ⟨wm.heap.size+2,0,none⟩)])) (hgrow:w6.grownBy w7 fv.ownBlock) (hat:fv.ownBlock=some g∨g=w6.heap.size) :
  ∃ Bf',KL w l mb wb (j+1) Bf' IV (.slice (some ⟨g,0,none⟩) (j+1) cap) (w7.setCell ⟨wb,1,none⟩ (.slice (some ⟨g,0,none⟩) (j+1) cap)):=by
 have XY:wb<wr.heap.size:=aP h.blk;have s1:=hk1.size;have s2:=hf.bl.size;have s3:=hb6.size;have hown0:∀ q,fv.ownBlock=some q→q<wr.heap.size:=fun q hq=>(dV h.row q hq).2
 have k15:Kp (fun q=>q=mb) wr w5:=hk1.trans (Kp.aI hf.bl (fun _=>False)) (fun _ _ e=>e.elim);have k67:Kp (fun q=>fv.ownBlock=some q) w6 w7:=(Kp.refl _ w6).grown hgrow (fun q e _=>e);have k57:Kp (fun q=>fv.ownBlock=some q) w5 w7:=(Kp.aI hb6 (fun q=>fv.ownBlock=some q)).trans k67 (fun _ _ e=>e);have k78:Kp (fun q=>q=wb) w7 (w7.setCell ⟨wb,1,none⟩ (.slice (some ⟨g,0,none⟩) (j+1) cap)):=Kp.setCell (S:=fun q=>q=wb) (p:=⟨wb,1,none⟩) (Kp.refl _ w7) (fun _=>rfl) _;have Uw:Kp (fun q=>q=wb∨fv.ownBlock=some q) w5 (w7.setCell ⟨wb,1,none⟩ (.slice (some ⟨g,0,none⟩) (j+1) cap)):=(k57.mono (fun _ _ e=>.inr e)).trans k78 (fun _ _ e=>.inl e);have kr8:Kp (fun q=>q=mb∨q=wb∨fv.ownBlock=some q) wr (w7.setCell ⟨wb,1,none⟩ (.slice (some ⟨g,0,none⟩) (j+1) cap)):=(k15.mono (fun _ _ e=>.inl e)).trans Uw (fun _ _ e=>.inr e);have qH:=h.far;have hold:∀ i,i<j→∀ q,Bf i≤q→q≤Bf i+2→¬(q=mb∨q=wb∨fv.ownBlock=some q):=by
  intro i hi q h1 h2 e;have ho:=h.ord i hi;rcases e with e|e|e
  ·omega
  ·omega
  ·exact(qH q e).2.2 i hi ⟨h1,h2⟩
 have hnw:∀ q,wm.heap.size≤q→¬(q=wb∨fv.ownBlock=some q):=by
  intro q h1 e;rcases e with e|e
  ·omega
  ·have:=hown0 q e;omega
 obtain⟨k',hmp⟩:=hf.mp;obtain⟨A,hA1,hA2,hA3⟩:=hf.ans;have bZ1:=aP hf.blk;have s8:w5.heap.size≤(w7.setCell ⟨wb,1,none⟩ (.slice (some ⟨g,0,none⟩) (j+1) cap)).heap.size:=Uw.size;refine⟨fun i=>if i=j then wm.heap.size else Bf i,?_,?_,?_,?_,?_,?_,?_,?_⟩
 ·refine h.bl.trans (kr8.below h.bl.size (fun q e=>?_))
  rcases e with e|e|e
  ·omega
  ·omega
  ·exact(dV h.row q e).1
 ·have h5:w7.heap[wb]?=some (.cells #[.map (some mb),fv] 154 (0,0)):=k57.heap (k15.heap h.blk (by omega)) (fun e=>(qH wb e).2.1 rfl)
  exact iU h5 1 _
 ·have hm5:Mp w5 mb k (upd (oz (l.take j)) (bs a.n) j):=hm1.below hf.bl
  have hm8:=hm5.keep Uw (fun e=>by
   rcases e with e|e
   ·omega
   ·exact(qH mb e).1 rfl)
  obtain⟨D,o1,o2⟩:=hm8;refine Mp.congr (g:=upd (oz (l.take j)) (bs a.n) j) ⟨D,o1.mono hkk,o2⟩ (fun x=>?_);rw[Ca ha];unfold upd;by_cases e:x=bs a.n
  ·subst e
   rw[aL rfl,hnew];show _=if _ then _ else _
   rw[aL rfl]
  ·rw[aG e]
   cases hx:oz (l.take j) x with
   | some i=>rfl
   | none =>
    show _=if _ then _ else _
    rw[aG (fun e2=>e e2.symm)]
 ·have hg:g≠wb:=by
   rcases hat with e|e
   ·exact(qH g e).2.1
   ·omega
  have:=k78.owns hown (fun q hq e=>by cases hq;exact hg e);have e1:((List.range (j+1)).map fun i=>(.pointer (some ⟨(if i=j then wm.heap.size else Bf i)+2,0,none⟩):Value))=((List.range j).map fun i=>.pointer (some ⟨Bf i+2,0,none⟩))++[.pointer (some ⟨wm.heap.size+2,0,none⟩)]:=by
   rw[List.range_succ,pQ];congr 1
   ·refine List.map_congr_left (fun i hi'=>?_)
    have:=gD.1 hi';rw[aG (by omega)]
   ·simp
  rw[e1];exact this
 ·intro q hq
  obtain rfl:q=g:=by cases hq;rfl
  clear hq;rcases hat with e|e
  ·obtain⟨f1,f2,f3⟩:=qH _ e
   refine⟨f1,f2,fun i hi'=>?_⟩;by_cases hij:i=j
   ·rw[aL hij]
    have:=hown0 _ e;omega
   ·rw[aG hij]
    exact f3 i (by omega)
  ·refine⟨by omega,by omega,fun i hi'=>?_⟩
   by_cases hij:i=j
   ·rw[aL hij];omega
   ·rw[aG hij]
    have:=h.ord i (by omega);omega
 ·intro i hi'
  by_cases hij:i=j
  ·rw[aL hij];omega
  ·rw[aG hij]
   have:=h.ord i (by omega);omega
 ·intro i i' h1 h2
  by_cases hij:i'=j
  ·rw[aG (by omega),aL hij]
   have:=h.ord i (by omega);omega
  ·rw[aG (by omega),aG hij]
   exact h.asc i i' h1 (by omega)
 ·intro i b hi' hb
  by_cases hij:i=j
  ·subst hij
   rw[ha] at hb;cases hb
   rw[aL rfl];exact⟨Uw.heap hf.blk (hnw _ (by omega)),⟨k',hmp.keep Uw (hnw _ (by omega))⟩,A,Uw.heap hA1 (hnw _ (by omega)),hA2,hA3⟩
  ·rw[aG hij]
   obtain⟨b1,⟨k2,b2⟩,A2,b4,b5⟩:=h.fil i b (by omega) hb;exact⟨kr8.heap b1 (hold i (by omega) _ (by omega) (by omega)),⟨k2,b2.keep kr8 (hold i (by omega) _ (by omega) (by omega))⟩,A2,kr8.heap b4 (hold i (by omega) _ (by omega) (by omega)),b5⟩
def KM:Mem:=fun _ _=>(0,(0,0,0))
theorem Po(fs:List X.Fl):p9 fs KM:=fun _ _=>⟨aX _,fun h=>by cases h⟩
theorem IJ:Idle KM:=fun _ _ h=>by cases h
theorem KL.run{Lo Hi:Nat→Nat}{B:Nat}{rv fv:Value}(h:KL w l mb wb l.length Bf IV fv wr)(hw:w.heap.size≤mb)(hmw:mb<wb)(hI:Dz w B rv l IV Lo Hi)(hn:l.length≤16)(hok:∀ a∈l,qj a.n=true)(hsh:Short l) :
  Run (wr.alloc (.cells #[.pointer (some ⟨wb,0,none⟩),.int .i64 0,.slice none 0 0] 159)) ⟨wb,wr.heap.size,0,mb,fv,fun i=>Bf i+2,Bf,IV,fun i=>Bf i+1⟩ (dD l) KM [] (wr.alloc (.cells #[.pointer (some ⟨wb,0,none⟩),.int .i64 0,.slice none 0 0] 159)):=by
 have hfl:=nL l;have hget:∀ i,i<(dD l).length→∃ a,l[i]?=some a∧X.aM (dD l) i=X.mX (bs a.t):=fun i hi=>by
  rw[hfl] at hi;exact⟨l[i],aC hi,qG (aC hi)⟩
 have hS:∀ q,(Lay.mk wb wr.heap.size 0 mb fv (fun i=>Bf i+2) Bf IV (fun i=>Bf i+1)).S (dD l).length q→q=wr.heap.size∨∃ i,i<l.length∧q=Bf i+1:=fun q hq=>by
  rcases hq with e|⟨i,h1,h2⟩
  ·exact .inl e
  ·exact .inr ⟨i,by rw[← hfl];exact h1,h2⟩
 have hwb:=aP h.blk;have bA:Below wr.heap.size wr (wr.alloc (.cells #[.pointer (some ⟨wb,0,none⟩),.int .i64 0,.slice none 0 0] 159)):=(ay _ wr).alloc (aj _) _;have kA:=Kp.aI bA (fun _=>False);have hszA:(wr.alloc (.cells #[.pointer (some ⟨wb,0,none⟩),.int .i64 0,.slice none 0 0] 159)).heap.size=wr.heap.size+1:=by simp
 have hsep:∀ i q,i<l.length→q=Bf i∨q=Bf i+2→¬(Lay.mk wb wr.heap.size 0 mb fv (fun i=>Bf i+2) Bf IV (fun i=>Bf i+1)).S (dD l).length q:=by
  intro i q hi h1 hs;have ho:=h.ord i hi;rcases hS q hs with e|⟨i',hi',e⟩
  ·omega
  ·have ho':=h.ord i' hi'
   rcases Nat.lt_trichotomy i i' with c|c|c
   ·have:=h.asc i i' c hi';omega
   ·subst c;omega
   ·have:=h.asc i' i c hi;omega
 have hlow:∀ q,q≤wb→¬(Lay.mk wb wr.heap.size 0 mb fv (fun i=>Bf i+2) Bf IV (fun i=>Bf i+1)).S (dD l).length q:=by
  intro q hq hs;rcases hS q hs with e|⟨i,hi,e⟩
  ·omega
  ·have:=h.ord i hi;omega
 have hst:St (wr.alloc (.cells #[.pointer (some ⟨wb,0,none⟩),.int .i64 0,.slice none 0 0] 159)) ⟨wb,wr.heap.size,0,mb,fv,fun i=>Bf i+2,Bf,IV,fun i=>Bf i+1⟩ (dD l):=by
  refine⟨by rw[hfl];exact hn,⟨kA.heap h.blk id,hlow wb (aj _)⟩,?_,hlow mb (by omega),?_,fun i hi=>?_,fun i hi=>?_,fun i hi=>?_,fun i it hit=>(sK hsh i).1 it hit,fun i=>(sK hsh i).2.1,by show wr.heap.size<_;omega,fun i hi=>?_⟩
  ·refine⟨_,(h.mp.below bA).congr (fun x=>?_)⟩
   rw[kY,Pm hok]
  ·have hr:=h.row
   have hc:=fun g hg=>hr.cells (g:=g) hg
   rcases hr.2 with ⟨e,h0⟩|⟨g,cap,cur,e,hge,hgg,hnn,hm,-,-⟩
   ·refine⟨none,0,by rw[hfl,h0];exact e,by rw[hfl,h0];exact aj _,by unfold maxLen;omega,fun i hi=>by rw[hfl,h0] at hi;omega⟩
   ·refine⟨_,cap,by rw[hfl];exact e,by rw[hfl];exact hnn,hm,fun i hi=>⟨g,rfl,fun hs=>?_,?_⟩⟩
    ·have qH:=h.far g (by rw[e];rfl)
     have hgl:=aP hgg;rcases hS _ hs with e1|⟨i',hi',e1⟩
     ·omega
     ·exact qH.2.2 i' hi' ⟨by omega,by omega⟩
    ·rw[hfl] at hi
     have:=hc g (by rw[e];rfl) i (.pointer (some ⟨Bf i+2,0,none⟩)) (by simp[hi]);rw[fe,cu] at this;exact Lib.cell?_alloc_some _ this
  ·obtain⟨a,ha,e⟩:=hget i hi
   rw[hfl] at hi;rw[e];exact⟨kA.heap (h.fil i a hi ha).1 id,hsep i _ hi (.inr rfl)⟩
  ·obtain⟨a,ha,e⟩:=hget i hi
   rw[hfl] at hi;rw[e];obtain⟨k,hk⟩:=(h.fil i a hi ha).2.1;exact⟨⟨k,hk.below bA⟩,hsep i _ hi (.inl rfl)⟩
  ·obtain⟨a,ha,e⟩:=hget i hi
   rw[hfl] at hi;rw[e];obtain⟨q1,q2,q3⟩:=hI.its i a ha;have s0:=h.bl.size;exact⟨Lo i,Hi i,(q1.LY (Kp.aI h.bl (fun _=>False)) (fun _ _ _=>id)).LY kA (fun _ _ _=>id),by omega,fun q h1 h2=>hlow q (by omega)⟩
  ·rw[hfl] at hi
   have ho:=h.ord i hi;refine⟨by show Bf i+1<_;omega,by show Bf i+1≠wr.heap.size;omega,fun j hj e=>?_⟩;rw[hfl] at hj;have e':Bf i+1=Bf j+1:=e;have ho':=h.ord j hj;rcases Nat.lt_trichotomy i j with c|c|c
   ·have:=h.asc i j c hj;omega
   ·exact c
   ·have:=h.asc j i c hi;omega
 refine⟨hst,Kp.refl _ _,⟨_,aB wr _,bY _ _ _ _⟩,fun i hi=>?_,aX _⟩;obtain⟨a,ha,e⟩:=hget i hi;rw[hfl] at hi;obtain⟨-,-,A,b4,b5,b6⟩:=h.fil i a hi ha;rw[e];exact⟨A,kA.heap b4 id,b5,fun k hk=>⟨b6 _ (by omega),b6 _ (by omega),b6 _ (by omega),b6 _ (by omega)⟩⟩
end
section
open Tryz
variable{l:List AF}
theorem qF.wide{w:World}{B B':Nat}{ao:Option Addr}(h:qF w B ao l)(hb:B≤B'):qF w B' ao l:=fun j a hj=>by
 obtain⟨b,o,e1,e2,e3⟩:=h j a hj;exact⟨b,o,e1,aH e2 hb,e3⟩
theorem XZ:(prog.info? 155).map (fun i=>(i.zero,i.size,i.bytes))=some (some (.pointer none),1,8):=by kernel_rfl
theorem IK(ao:Option Addr)(cap:Nat)(l:List AF)(w:World)(hT:kP w)(h:qF w w.heap.size ao l)(hl:l.length≤cap)(hc:cap≤maxLen)(hf:o8 l≠0) :
  Calls prog 6 #[.slice ao l.length cap] w fun e w'=>e=.returned (.tuple #[.slice none 0 0,.iface 34 (.int .i64 (o8 l))])∧Below w.heap.size w w':=by
 have hC:=Cb ao cap l w hT h hl hc;have he:aH7 (o8 l)=.iface 34 (.int .i64 (o8 l)):=aG hf;rw[he] at hC;have HC:=au hC;clear h hT hf hC he;generalize o8 l=r at *;go_enter func6,ntmps6;go_wp2_with fail
 refine(HC.o).mono ?_;rintro e w1 ⟨rfl,B1⟩;have HF:=au B1;clear HC B1;go_wp2_with fail
 go_ret2;exact⟨rfl,HF.o⟩
theorem DF(h:o8 l=0):l.length≤16∧Short l∧(∀ a∈l,qj a.n=true)∧(l.map (fun a=>bs a.n)).Pairwise (·≠·):=by
 unfold o8 at h;by_cases h1:16<l.length
 ·rw[aL h1] at h;cases h
 ·rw[aG h1] at h
  by_cases h2:l.any (fun a=>decide (20000<a.t.size))=true
  ·rw[aL h2] at h;cases h
  ·rw[aG h2] at h
   obtain⟨a,b,-⟩:=Uv h;refine⟨by omega,fun a ha=>?_,a,b⟩;rcases bE 20000 a.t.size with g|g
   ·exact absurd (rX.2 ⟨a,ha,by simpa using g⟩) h2
   ·exact bS g (by decide)
theorem Ux(h:(l.map (fun a=>bs a.n)).Pairwise (·≠·)){j:Nat}{a:AF}(ha:l[j]?=some a):oz (l.take j) (bs a.n)=none:=by
 cases hi:oz (l.take j) (bs a.n) with
 | none=>rfl
 | some i =>
  exfalso;have hm:=(vw (l.take j) (bs a.n)).1 (by rw[hi];rfl);obtain⟨b,hb,e⟩:=iT.1 hm;obtain⟨i',hi',rfl⟩:=oL hb;rw[bL] at hi';have hjl:j<l.length:=by
   rcases bE j l.length with g|g
   ·exact g
   ·rw[aO g] at ha;cases ha
  rw[aC hjl] at ha;have ha':=bK ha;have hp:=List.pairwise_iff_getElem.1 h i' j (by rw[eG];omega) (by rw[eG];exact hjl) (by omega);rw[List.getElem_map,List.getElem_map,ha'] at hp;rw[List.getElem_take] at e;exact hp e
theorem Pp(l:List AF)(rv:Value)(IV:Nat→Value)(Lo Hi:Nat→Nat)(B:Nat)(w:World)(hI:Dz w B rv l IV Lo Hi)(hn16:l.length≤16)(hsh:Short l)(hok:∀ a∈l,qj a.n=true)(hpw:(l.map (fun a=>bs a.n)).Pairwise (·≠·)) :
  Calls prog 24 #[rv] w fun e w'=>e=.returned (.pointer (some ⟨w.heap.size+1,0,none⟩))∧Hid (∃ Bf fv,KL w l w.heap.size (w.heap.size+1) l.length Bf IV fv w'):=by
 have hmm:=mkMap;obtain⟨i0,hi0,hz0,hz1,hz2⟩:=gB XZ;obtain⟨ao,cap,rfl,hcl,hcm,hx⟩:=hI.ex;have HX:=au hx;have HIT:=au hI.its;have TF:=au hsh;have HOK:=au hok;have HPW:=au hpw;have HI0:Hid (∃ Bf fv,KL w l w.heap.size (w.heap.size+1) 0 Bf IV fv ((w.alloc (.map #[] 0)).alloc (.cells #[.map (some w.heap.size),.slice none 0 0] 154))):=⟨_,_,KL.start w l IV⟩;clear hx hI hsh hok hpw;go_enter func24,ntmps24;go_wp2_with fail
 generalize ((w.alloc (.map #[] 0)).alloc (.cells #[.map (some w.heap.size),.slice none 0 0] 154))=W0 at *;generalize hmb:w.heap.size=mb at *;have HMB:=au hmb;clear hmm hmb;go_loopw [11] (fun v wr=>∃ j:Nat,v=.int .i64 j∧j≤l.length∧Hid (∃ Bf fv,KL w l mb (mb+1) j Bf IV fv wr)) (fun v _=>l.length - (intOf v).toNat)
 case atStart=>exact⟨0,rfl,aX _,HI0⟩
 case round =>
  obtain⟨j,rfl,hj,HI⟩:=hrel;clear HI0;by_cases hjl:j<l.length
  ·obtain⟨Bf,fv,hin⟩:=HI.o
   clear HI;obtain⟨a,ha⟩:∃ a,l[j]?=some a:=⟨l[j],aC hjl⟩;obtain⟨b,e1,e2,-,e3,e4⟩:=(HX.o) j a ha;subst e1;obtain⟨hits,-,hhi⟩:=(HIT.o) j a ha;have hi1:(j:Int)<(l.length:Int):=by omega
   have hmb:=HMB.o;have Z9:=hin.bl.size;have e3':=pU hin.bl (by omega) e3;have e4':=pU hin.bl (by omega) e4;have Pn:∃ ia ic,IV j=.slice ia (X.mX (bs a.t)).length ic:=by
    obtain⟨ia,ic,-,e,-⟩:=hits.ex;exact⟨ia,ic,e⟩
   obtain⟨ia,ic,hiv⟩:=Pn;rw[hiv] at hits e4';have hlB:=sK TF.o j;rw[qG ha] at hlB;have hnl:qj a.n=true:=(HOK.o) a (dh ha);have hlen:(bs a.n).length≤maxLen:=by
    unfold qj at hnl;rw[eZ];unfold maxLen;have:a.n.size≤40:=by simp at hnl;exact hnl.1
    omega
   have HFO:Hid (∀ W:World,Below w.heap.size w W→Calls prog 46 #[.slice ia (X.mX (bs a.t)).length ic] W fun e w'=>e=.returned (.pointer (some ⟨W.heap.size+2,0,none⟩))∧Hid (IsF W w' (IV j) (X.mX (bs a.t)))):=fun W hW=>by
    rw[hiv];exact IG (Lo j) (Hi j) _ _ W (hits.LY (Kp.aI hW (fun _=>False)) (fun _ _ _=>id)) (by have:=hW.size;omega) hlB.2.1 hlB.1
   clear hlB hits hiv;generalize hil:(X.mX (bs a.t)).length=il at *;clear hil;have hnew:=Ux HPW.o ha;have kF:Below wr.heap.size wr (wr.alloc (.cells #[.string a.n,.slice ia il ic] 110)):=(ay _ _).alloc (aj _) _;have Dx:=aB wr (.cells #[.string a.n,.slice ia il ic] 110);have n0:(wr.alloc (.cells #[.string a.n,.slice ia il ic] 110)).cell? ⟨wr.heap.size,0,none⟩=some (.string a.n):=ai _ _ 0 _ _ _ Dx;have XY:=aP hin.blk;have c0:(wr.alloc (.cells #[.string a.n,.slice ia il ic] 110)).cell? ⟨mb+1,0,none⟩=some (.map (some mb)):=pU kF XY (ai wr _ 0 _ _ _ hin.blk);have hjm:j<maxLen:=by unfold maxLen;omega
   have hj2:j≤9223372036854775807:=by omega
   obtain⟨wm,hp1,hp2,hp3⟩:=(hin.mp.below kF.drew).yP hjm hlen (i:=j) hj2;rw[Fp] at hp1;have II:=au hin;have Z0:=au Dx;have sD:=au hp2;have HP3:=au hp3;have Ig:=au kF;have HN:=au hnew;clear hin kF Dx hp2 hp3 hnl hnew e3 e4;go_wp2_with fail
   generalize wr.alloc (.cells #[.string a.n,.slice ia il ic] 110)=Wa at *;refine bH (S:=fun w'=>w'.cell? ⟨mb+1,0,none⟩=some (.map (some mb))∧w'.cell? ⟨wr.heap.size,0,none⟩=some (.string a.n)) (z:=7) (by kernel_rfl) ?_;have hS:Wa.drew.cell? ⟨mb+1,0,none⟩=some (.map (some mb))∧Wa.drew.cell? ⟨wr.heap.size,0,none⟩=some (.string a.n):=⟨c0,n0⟩;iterate 7(refine qD hS ?_;simp only[Act.put,ax,aD,aF])
   refine bD 7 fun K hK=>?_;go_simp;refine hK.o _ _ (fun h=>absurd rfl h) (fun _=>fB ?_);clear hK K hS hp1 c0 n0;have hks:Kp (fun q=>q=mb) wr wm:=Kp.trans (Kp.aI (Ig.o).drew _) HP3.o (fun _ _ e=>e);have HKS:=au hks;have hFm:=(HP3.o).heap (w:=Wa.drew) Z0.o (by have:=XY;omega);have n1:wm.cell? ⟨wr.heap.size,1,none⟩=some (.slice ia il ic):=ai wm _ 1 _ _ _ hFm;have TG:=hks.heap (II.o).blk (by omega);have c1:wm.cell? ⟨mb+1,1,none⟩=some fv:=ai wm _ 1 _ _ _ TG;have hbw:Below w.heap.size w wm:=(II.o).bl.trans (hks.below (II.o).bl.size (fun q e=>by omega));have HRD:=au ((HFO.o) wm.drew hbw.drew);have HOW:=au (hks.owns (II.o).row (fun q hq e=>(II.o).far q hq |>.1 e));have hlm:=aP hFm;have hfv:∃ fa fn fc,fv=.slice fa fn fc:=by
    rcases(II.o).row.2 with ⟨e,-⟩|⟨g',cap',cur,e,-⟩
    ·exact⟨_,_,_,e⟩
    ·exact⟨_,_,_,e⟩
   obtain⟨fa,fn,fc,rfl⟩:=hfv;have aZ0:=au (II.o).far;have HO0:Hid (∀ q,(Value.slice fa fn fc).ownBlock=some q→q<wr.heap.size):=fun q hq=>(dV (II.o).row q hq).2
   clear hks hFm TG hbw HFO;go_wp2_with fail
   refine bH (S:=fun w'=>w'.cell? ⟨mb+1,1,none⟩=some (.slice fa fn fc)∧w'.cell? ⟨wr.heap.size,1,none⟩=some (.slice ia il ic)) (z:=12) (by kernel_rfl) ?_;have hS:wm.drew.cell? ⟨mb+1,1,none⟩=some (.slice fa fn fc)∧wm.drew.cell? ⟨wr.heap.size,1,none⟩=some (.slice ia il ic):=⟨c1,n1⟩;iterate 7(refine qD hS ?_;simp only[Act.put,ax,aD,aF])
   refine bD 7 fun K hK=>?_;go_simp;refine(HRD.o).mono ?_;rintro e w5 ⟨rfl,X5⟩;have B5:=(X5.o).bl;have c15:=pU B5 (by show _<wm.heap.size;omega) c1;have n15:=pU B5 (by show _<wm.heap.size;omega) n1;have hmz:wm.heap.size≤w5.heap.size:=B5.size;have Mt:=au ((Kp.aI (((Below.refl _ wm).drew).trans B5) (fun _=>False)).owns HOW.o (fun _ _=>id));dsimp only;refine hK.o _ _ (fun _=>⟨c15,n15⟩) (fun hS2=>?_);clear hS hK K;have hS:=hS2 (by decide);clear hS2;refine bD 8 fun K hK=>?_;go_simp;refine hK.o _ _ (fun _=>by first|go_keep|(dsimp only;go_keep)) (fun hS2=>?_);clear hS hK K;have hS:=hS2 (by decide);clear hS2;refine bD 9 fun K hK=>?_;refine step_append_lies _ (by rfl) _ _ _ (by rfl) w.heap.size 155 i0 _ 1 8 underlying152 hi0 hz0 hz1 hz2 rfl (by omega) (.slice fa fn fc) j _ (by rfl) ((Mt.o).alloc _)
    ⟨w5.heap.size,0,none⟩ 1 1 [.pointer (some ⟨wm.heap.size+2,0,none⟩)] (by rfl) (by rfl) (World.news_of_block (cs:=#[.pointer (some ⟨wm.heap.size+2,0,none⟩)]) (t:=155) (fr:=(0,0)) (aB w5 _)) (by simp[Value.oneCell'])
    (by omega) (by unfold maxLen;omega) (by omega) (by simp;omega) (w5.heap.size+1) (by simp) ?_
   intro g Bg w7 lQ gH uj DC;have qH:=aZ0.o;have ho0:=HO0.o;have hwn:some (mb+1)≠(Value.slice fa fn fc).ownBlock:=fun e=>(qH _ e.symm).2.1 rfl
   have hwf:some wr.heap.size≠(Value.slice fa fn fc).ownBlock:=fun e=>by have:=ho0 _ e.symm;omega
   have y0:w7.cell? ⟨mb+1,1,none⟩=some (.slice fa fn fc):=(gH.cell_far ⟨mb+1,1,none⟩ (by simp;omega) hwn).trans hS.1;have y1:=(gH.cell_far ⟨wr.heap.size,1,none⟩ (by simp;omega) hwf).trans hS.2;have hblk5:w5.heap[mb+1]?=some (.cells #[.map (some mb),.slice fa fn fc] 154 (0,0)):=(Kp.aI (((ay _ wm).drew).trans B5) (fun _=>False)).heap ((HKS.o).heap (II.o).blk (by omega)) id;have x2:w7.frozen? ⟨mb+1,1,none⟩=false:=(gH.frozen_far ⟨mb+1,1,none⟩ (by simp;omega) hwn).trans ((bN _ _ ⟨mb+1,1,none⟩ (by simp;omega)).trans (bB w5 _ 1 _ _ hblk5));show K (Act.put _ (some 32) _) w7;refine hK.o _ _ (fun _=>⟨y0,y1⟩) (fun hS2=>?_);clear hS hK K;have hS:=hS2 (by decide);clear hS2;simp only[Act.put,ax,aD,aF];refine bD 10 fun K hK=>?_;go_simp;refine hK.o _ _ (fun _=>hS) (fun _=>?_);clear hK K;refine bD 11 fun K hK=>?_;go_simp;refine hK.o _ _ (fun _=>hS) (fun _=>?_);clear hK K;refine bD 12 fun K hK=>?_;go_simp;refine hK.o _ _ (fun h=>absurd rfl h) (fun _=>fB ?_);clear hK K;have Z_:Hid (∃ Bf fv,KL w l mb (mb+1) (j+1) Bf IV fv (w7.setCell ⟨mb+1,1,none⟩ (.slice (some ⟨g,0,none⟩) (j+1) Bg))):=by
    have hb6:Below w5.heap.size w5 (w5.alloc (.cells #[.pointer (some ⟨wm.heap.size+2,0,none⟩)] 155)):=(ay _ w5).alloc (aj _) _;obtain⟨Bf',hmore⟩:=(II.o).more (by omega) (by omega) ha HN.o ((HKS.o).drew) ((sD.o).below ((ay _ wm).drew)) (aj _) X5.o hb6 lQ gH (by rcases uj with e|e;exact .inl e;exact .inr (by rw[e];simp));exact⟨Bf',_,hmore⟩
   clear lQ gH uj DC y0 y1 x2 hS c15 n15 c1 n1 B5 X5 Mt qH ho0 hblk5;go_wp2_with fail
   exact⟨⟨j+1,by simp,by omega,Z_⟩,by simp[intOf];omega⟩
  ·obtain rfl:j=l.length:=by omega
   have hd1:¬(l.length:Int)<(l.length:Int):=by omega
   have HF:=HI;clear HI;go_wp2_with fail
   go_ret;exact⟨by rw[HMB.o];rfl,by rw[HMB.o];exact HF⟩
theorem IL(l:List AF)(rv fv:Value)(IV:Nat→Value)(Lo Hi Bf:Nat→Nat)(B mb wb:Nat)(w wr:World)(hI:Dz w B rv l IV Lo Hi)(hin:KL w l mb wb l.length Bf IV fv wr)(hw:w.heap.size≤mb)(hmw:mb<wb)(hn16:l.length≤16)(hsh:Short l)(hok:∀ a∈l,qj a.n=true) :
  Calls prog 25 #[.pointer (some ⟨wb,0,none⟩)] wr fun e w'=>∃ nv,e=.returned nv∧Hid (Below w.heap.size w w'∧w'.ownsRow w.heap.size 55 6 nv (X.jf (dD l)).length (BP (X.jf (dD l)))∧(X.jf (dD l)).length≤1073741824):=by
 have hR:=hin.run hw hmw hI hn16 hok hsh;have X0:=nL l;have hfv:∃ fa fc,fv=.slice fa l.length fc:=by
  rcases hin.row.2 with ⟨e,h0⟩|⟨g',cap',cur,e,-⟩
  ·exact⟨none,0,by rw[h0];exact e⟩
  ·exact⟨_,_,e⟩
 obtain⟨fa,fc,rfl⟩:=hfv;have c1:(wr.alloc (.cells #[.pointer (some ⟨wb,0,none⟩),.int .i64 0,.slice none 0 0] 159)).cell? ⟨wb,1,none⟩=some (.slice fa l.length fc):=Lib.cell?_alloc_some _ (ai wr _ 1 _ _ _ hin.blk);obtain⟨TP,hTP⟩:∃ TP:List X.U→World→Prop,TP=fun us w2=>∃ f,qX (wr.alloc (.cells #[.pointer (some ⟨wb,0,none⟩),.int .i64 0,.slice none 0 0] 159)) ⟨wb,wr.heap.size,f,mb,(.slice fa l.length fc),fun i=>Bf i+2,Bf,IV,fun i=>Bf i+1⟩ (dD l) us (wr.alloc (.cells #[.pointer (some ⟨wb,0,none⟩),.int .i64 0,.slice none 0 0] 159)) w2:=⟨_,rfl⟩
 have HT0:Hid (TP (Pk (dD l) 0) (wr.alloc (.cells #[.pointer (some ⟨wb,0,none⟩),.int .i64 0,.slice none 0 0] 159))):=by
  rw[hTP];exact⟨0,KM,hR,Po _,IJ,Kx.refl _ _ _ _⟩
 have WR:Hid (∀(j:Nat) (w2:World),j<l.length→TP (Pk (dD l) j) w2→Calls prog 47 #[.pointer (some ⟨wr.heap.size,0,none⟩),.int .i64 j] w2 fun e w3=>e=.returned (.tuple #[])∧Hid (TP (Pk (dD l) (j+1)) w3)):=fun j w2 hj ht=>by
  rw[hTP] at ht;obtain⟨f,M2,r2,m2,i2,x2⟩:=ht;have hl1:=KJ hsh j;have hl2:=(sK hsh j).2.2 (dD l) j;refine(Pj j (by rw[X0];exact hj) r2 m2 i2 (by omega)).mono ?_;rintro e w3 ⟨rfl,X3⟩;obtain⟨M3,r3,m3,i3,x3⟩:=X3.o;refine⟨rfl,?_⟩;rw[hTP];exact⟨j,M3,by rw[Fv];exact r3,m3,i3,Kx.trans x2 x3⟩
 have HFin:Hid (∀ w2:World,TP (Pk (dD l) l.length) w2→∃ nv,w2.cell? ⟨wr.heap.size,2,none⟩=some nv∧Hid (Below w.heap.size w w2∧w2.ownsRow w.heap.size 55 6 nv (X.jf (dD l)).length (BP (X.jf (dD l)))∧(X.jf (dD l)).length≤1073741824)):=fun w2 ht=>by
  rw[hTP] at ht;obtain⟨f,M2,r2,m2,i2,x2⟩:=ht;obtain⟨nv,-,-,b2,-,b4⟩:=r2.cells;have e1:X.jf (dD l)=Pk (dD l) l.length:=by unfold X.jf Pk;rw[X0]
  rw[e1];have hbA:Below w.heap.size w (wr.alloc (.cells #[.pointer (some ⟨wb,0,none⟩),.int .i64 0,.slice none 0 0] 159)):=hin.bl.alloc hin.bl.size _;refine⟨nv,b2,?_,⟨b4.1,?_⟩,r2.lim⟩
  ·refine hbA.trans (r2.kp.below hbA.size (fun q hq=>?_))
   rcases hq with e|⟨i,hi,e⟩
   ·have e':q=wr.heap.size:=e
    have:=hin.bl.size;omega
   ·have e':q=Bf i+1:=e
    have:=hin.ord i (by rw[← X0];exact hi);omega
  ·rcases b4.2 with hh|⟨g',cap',cur,e,e2,r⟩
   ·exact .inl hh
   ·exact .inr ⟨g',cap',cur,e,bS hbA.size e2,r⟩
 clear hin hR hsh hok hTP hI;go_enter func25,ntmps25;go_wp2_with fail
 clear c1;generalize wr.alloc (.cells #[.pointer (some ⟨wb,0,none⟩),.int .i64 0,.slice none 0 0] 159)=W at *;generalize wr.heap.size=tb at *;go_loopw [13] (fun v w2=>∃ j:Nat,v=.int .i64 j∧j≤l.length∧Hid (TP (Pk (dD l) j) w2)) (fun v _=>l.length - (intOf v).toNat)
 case atStart=>exact⟨0,rfl,aX _,HT0⟩
 case round =>
  obtain⟨j,rfl,hj,HI⟩:=hrel;clear HT0;by_cases hjl:j<l.length
  ·have hi1:(j:Int)<(l.length:Int):=by omega
   have HC:=au ((WR.o) j _ hjl HI.o);clear HI;go_wp2_with fail
   refine(HC.o).mono ?_;rintro e w3 ⟨rfl,X3⟩;clear HC;go_wp2_with fail
   exact⟨⟨j+1,by simp,by omega,X3⟩,by simp[intOf];omega⟩
  ·obtain rfl:j=l.length:=by omega
   have hd1:¬(l.length:Int)<(l.length:Int):=by omega
   obtain⟨nv,b2,HF⟩:=(HFin.o) _ HI.o;clear HI WR HFin;have aZ2:∃ na nn nc,nv=.slice na nn nc:=by
    rcases(HF.o).2.1.2 with ⟨e,-⟩|⟨g',cap',cur,e,-⟩
    ·exact⟨_,_,_,e⟩
    ·exact⟨_,_,_,e⟩
   obtain⟨na,nn,nc,rfl⟩:=aZ2;go_wp2_with fail
   go_ret;exact⟨_,rfl,HF⟩
theorem Fy(l:List AF)(rv:Value)(IV:Nat→Value)(Lo Hi:Nat→Nat)(B:Nat)(w:World)(hI:Dz w B rv l IV Lo Hi)(hn16:l.length≤16)(hsh:Short l)(hok:∀ a∈l,qj a.n=true)(hpw:(l.map (fun a=>bs a.n)).Pairwise (·≠·)) :
  Calls prog 12 #[rv] w fun e w'=>∃ nv,e=.returned nv∧Hid (Below w.heap.size w w'∧w'.ownsRow w.heap.size 55 6 nv (X.jf (dD l)).length (BP (X.jf (dD l)))∧(X.jf (dD l)).length≤1073741824):=by
 have HO:=au (Pp l rv IV Lo Hi B w hI hn16 hsh hok hpw);have HK:Hid (∀ wr,(∃ Bf fv,KL w l w.heap.size (w.heap.size+1) l.length Bf IV fv wr)→Calls prog 25 #[.pointer (some ⟨w.heap.size+1,0,none⟩)] wr fun e w'=>∃ nv,e=.returned nv∧Hid (Below w.heap.size w w'∧w'.ownsRow w.heap.size 55 6 nv (X.jf (dD l)).length (BP (X.jf (dD l)))∧(X.jf (dD l)).length≤1073741824)):=fun wr h=>by
  obtain⟨Bf,fv,h⟩:=h;exact IL l rv fv IV Lo Hi Bf B _ _ w wr hI h (aj _) (Nat.lt_succ_self _) hn16 hsh hok
 obtain⟨ao,cap,rfl,-⟩:=hI.ex;clear hI hsh hok hpw;go_enter func12,ntmps12;go_wp2_with fail
 refine(HO.o).mono ?_;rintro e w1 ⟨rfl,X1⟩;have HC:=au ((HK.o) w1 X1.o);clear HO HK X1;go_wp2_with fail
 refine(HC.o).mono ?_;rintro e w2 ⟨nv,rfl,HF⟩;clear HC;go_wp2_with fail
 go_ret;exact⟨_,rfl,HF⟩
theorem xY(ao:Option Addr)(cap:Nat)(l:List AF)(w:World)(hT:kP w)(h:qF w w.heap.size ao l)(hl:l.length≤cap)(hc:cap≤maxLen)(hf:o8 l=0) :
  Calls prog 6 #[.slice ao l.length cap] w fun e w'=>∃ nv,e=.returned (.tuple #[nv,.nilIface])∧Hid (Below w.heap.size w w'∧w'.ownsRow w.heap.size 55 6 nv (X.jf (dD l)).length (BP (X.jf (dD l)))∧(X.jf (dD l)).length≤1073741824):=by
 obtain⟨hn16,hsh,hok,hpw⟩:=DF hf;have hCF:=Cb ao cap l w hT h hl hc;rw[hf] at hCF;have HC:Hid (Calls prog 11 #[.slice ao l.length cap] w fun e w'=>e=.returned .nilIface∧Below w.heap.size w w'):=hCF;have HS:Hid (∀ w1,Below w.heap.size w w1→Calls prog 13 #[.slice ao l.length cap] w1 fun e w'=>∃ rv,e=.returned rv∧Hid ((∃ IV Lo Hi,Dz w' w1.heap.size rv l IV Lo Hi)∧Below w1.heap.size w1 w')):=fun w1 hb=>Fx ao cap l w1 (hT.below hb) ((h.below hb).wide hb.size) hn16 hsh
 have TH:Hid (∀ rv B w2,(∃ IV Lo Hi,Dz w2 B rv l IV Lo Hi)→Calls prog 12 #[rv] w2 fun e w'=>∃ nv,e=.returned nv∧Hid (Below w2.heap.size w2 w'∧w'.ownsRow w2.heap.size 55 6 nv (X.jf (dD l)).length (BP (X.jf (dD l)))∧(X.jf (dD l)).length≤1073741824)):=fun rv B w2 hx=>by
  obtain⟨IV,Lo,Hi,hI⟩:=hx;exact Fy l rv IV Lo Hi B w2 hI hn16 hsh hok hpw
 clear h hT hCF hsh hok hpw hf;go_enter func6,ntmps6;go_wp2_with fail
 refine(HC.o).mono ?_;rintro e w1 ⟨rfl,B1⟩;have HB1:=au B1;have tV:=au ((HS.o) w1 B1);clear HC B1 HS;go_wp2_with fail
 refine(tV.o).mono ?_;rintro e w2 ⟨rv,rfl,X2⟩;have wX:=au ((TH.o) rv _ w2 (X2.o).1);have HB2:Hid (Below w.heap.size w w2):=(HB1.o).trans ((X2.o).2.mono (HB1.o).size);obtain⟨ra,rn,rc,rfl⟩:∃ ra rn rc,rv=.slice ra rn rc:=by
  obtain⟨IV,Lo,Hi,hI⟩:=(X2.o).1;obtain⟨ra,rc,e,-⟩:=hI.ex;exact⟨_,_,_,e⟩
 clear tV X2 TH;go_wp2_with fail
 refine(wX.o).mono ?_;rintro e w3 ⟨nv,rfl,X3⟩;have HF:Hid (Below w.heap.size w w3∧w3.ownsRow w.heap.size 55 6 nv (X.jf (dD l)).length (BP (X.jf (dD l)))∧(X.jf (dD l)).length≤1073741824):=by
  obtain⟨h1,h2,h3⟩:=X3.o;refine⟨(HB2.o).trans (h1.mono (HB2.o).size),⟨h2.1,?_⟩,h3⟩;rcases h2.2 with hh|⟨g',cap',cur,e,e2,r⟩
  ·exact .inl hh
  ·exact .inr ⟨g',cap',cur,e,bS (HB2.o).size e2,r⟩
 clear wX X3;go_wp2_with fail
 go_ret2;exact⟨_,rfl,HF⟩
end
theorem qF.one{w:World}(n t:ByteArray):qF (w.alloc (.cells #[.string n,.string t] 30)) (w.alloc (.cells #[.string n,.string t] 30)).heap.size (some ⟨w.heap.size,0,none⟩) [⟨n,t⟩]:=fun j a hj=>by
 match j with
 | 0 =>
  simp at hj;subst hj;have h0:=aB w (.cells #[.string n,.string t] 30);exact⟨_,_,rfl,by simp,ai _ _ 0 _ _ _ h0,ai _ _ 1 _ _ _ h0⟩
 | j+1=>simp at hj
theorem KN:∀(us:List X.U) (i:Nat) (u:X.U),us[i]?=some u→∀ j,j<6→(BP us)[i*6+j]?=(uv u)[j]?
 | [],i,u,h,j,hj=>by simp at h
 | a::us,0,u,h,j,hj=>by
  simp at h;subst h;show(uv a++BP us)[0*6+j]?=_;rw[aU (by show 0*6+j<6;omega),Nat.zero_mul,cu]
 | a::us,i+1,u,h,j,hj=>by
  show(uv a++BP us)[(i+1)*6+j]?=_;rw[aQ (by show 6≤(i+1)*6+j;omega)];have:(i+1)*6+j - (uv a).length=i*6+j:=by show(i+1)*6+j - 6=_;omega
  rw[this];exact KN us i u (by simpa using h) j hj
theorem Mv{w:World}{base:Nat}{nv:Value}{us:List X.U}(h:w.ownsRow base 55 6 nv us.length (BP us)){i:Nat}{u:X.U}(hu:us[i]?=some u):∃ g cap,nv=.slice (some ⟨g,0,none⟩) us.length cap∧us.length≤cap∧cap≤maxLen∧g<w.heap.size∧w.cell? ⟨g,i*6,none⟩=some (.int .i64 u.f)∧w.cell? ⟨g,i*6+1,none⟩=some (.int .i64 u.i)∧w.cell? ⟨g,i*6+2,none⟩=some (.int .i64 u.s)∧w.cell? ⟨g,i*6+3,none⟩=some (.int .i64 u.tf)∧w.cell? ⟨g,i*6+4,none⟩=some (.int .i64 u.tt)∧w.cell? ⟨g,i*6+5,none⟩=some (.int .i64 u.e):=by
 have hil:i<us.length:=by
  rcases bE i us.length with g|g
  ·exact g
  ·rw[aO g] at hu;cases hu
 obtain⟨g,cap,rfl,-,hlt⟩:=h.form (by omega);rcases h.2 with ⟨e,-⟩|⟨g',cap',cur,e,-,-,hn,hm,-,-⟩
 ·cases e
 ·cases e
  have hc:∀ j,j<6→w.cell? ⟨g,i*6+j,none⟩=(uv u)[j]?:=fun j hj=>(h.cellAt (i*6+j) (by omega)).trans (KN us i u hu j hj)
  exact⟨g,cap,rfl,hn,hm,hlt,hc 0 (by omega),hc 1 (by omega),hc 2 (by omega),hc 3 (by omega),hc 4 (by omega),hc 5 (by omega)⟩
def l0:List AF:=[⟨⟨#[97]⟩,⟨#[100,101,102,32,120,32,61,32,49,59]⟩⟩]
theorem aZ4:o8 l0=0:=by
 have h1:qj ⟨#[97]⟩=true:=by
  unfold qj nX;have:M.tok (bs ⟨#[97]⟩)=(3,(bs ⟨#[97]⟩).length):=by kernel_rfl
  rw[qQ (show(⟨#[97]⟩:ByteArray).size≤40 by decide),Bool.true_and];exact qQ ⟨by decide,this⟩
 unfold o8 l0;rw[aG (by decide),aG (by decide),Bd,aL h1,aG (by simp),Bd]
theorem fs0:dD l0=[([97],X.I0)]:=by
 have:X.mX (bs ⟨#[100,101,102,32,120,32,61,32,49,59]⟩)=X.I0:=X.aI3;unfold dD l0;rw[fQ,List.map_nil,this];rfl
end Go.Proofs.YtdkpkpgpphkljaaGreatDoor
