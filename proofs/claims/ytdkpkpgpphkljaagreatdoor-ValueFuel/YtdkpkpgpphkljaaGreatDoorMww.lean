/- Package value: maps by places in memory. -/
import Derived.Test.YtdkpkpgpphkljaaGreatDoorMvg
import Derived.Test.YtdkpkpgpphkljaaGreatDoorVb
namespace Go.Proofs.YtdkpkpgpphkljaaGreatDoor
set_option maxRecDepth 100000
open Tryz
open Go.RowKit
open Go.ChangeMaps (setBlock heap_setBlock_same heap_setBlock_other)
def sV(p:Int × Int):Value:=.agg #[.int .i64 p.1,.int .i64 p.2]
abbrev Pe:=(Int × Int) × Value × Nat
def Qx(x:Pe):MapEntry:=⟨sV x.1,x.2.1,x.2.2⟩
def Mq(w:World)(b n:Nat)(g:Int × Int→Option Value):Prop:=∃(L:List Pe) (clock:Nat),w.heap[b]?=some (.map (L.map Qx).toArray clock)∧L.length≤n∧∀ p,g p=(L.find? (fun x=>x.1==p)).map (·.2.1)
theorem bB4(w:World)(x y:Int × Int):(Op.equalIn 10000 57 (sV x) (sV y)).run prog w=.ok (decide (x=y)) w:=by
 obtain⟨x1,x2⟩:=x;obtain⟨y1,y2⟩:=y;have:decide ((x1,x2)=(y1,y2))=((x1==y1)&&(x2==y2)):=by
  rw[iD];simp[Prod.ext_iff]
 unfold sV;rw[this,run_equalIn_struct w 9999 57 _ _ underlying57 (by kernel_rfl)];simp[Program.fieldsOf,underlying57,Op.eqFields,go_sem,underlying3,isAgg3,sizeOf3];by_cases h1:x1=y1<;>by_cases h2:x2=y2<;>simp[h1,h2]
theorem WY(w:World)(z:Bool)(x:Int × Int):(Instr.checkKey z 10000 57 (sV x)).run prog w=.ok () w:=by kernel_rfl
def um(p:Int × Int):List Pe→Option (Nat × Value)
 | []=>none
 | x::L=>if p=x.1 then some (0,x.2.1) else(um p L).map (fun r=>(r.1+1,r.2))
theorem KY(w:World)(p:Int × Int):∀(L:List Pe) (i:Nat),(Instr.findAsking 57 (sV p) (L.map Qx) i).run prog w=.ok ((um p L).map (fun r=>(i+r.1,r.2))) w
 | [],i=>rfl
 | x::L,i=>by
  have h1:=bB4 w p x.1;have h2:=KY w p L (i+1);rw[fQ,Instr.findAsking,um];by_cases hp:p=x.1
  ·rw[aL hp]
   simp only[go_sem,Op.equal,Op.maxDepth,Qx];rw[Sem.run_bind,h1];simp[hp]
  ·rw[aG hp]
   simp only[go_sem,Op.equal,Op.maxDepth,Qx];rw[Sem.run_bind,h1];simp only[hp,decide_false,yF,eO,nR];exact h2.trans (by simp[Function.comp_def,fw,Nat.add_comm 1])
theorem FX(w:World)(p:Int × Int)(L:List Pe):(Instr.findKey 57 (sV p) (L.map Qx)).run prog w=.ok (um p L) w:=by
 have h:=KY w p L 0;have hs:(um p L).map (fun r=>(0+r.1,r.2))=um p L:=by
  cases um p L with
  | none=>rfl
  | some r=>simp
 rw[hs] at h;unfold Instr.findKey;rw[Sem.run_bind,qR underlying57];cases L with
 | nil=>rfl
 | cons x L=>rw[yF];exact h
theorem FY(p:Int × Int):∀ L:List Pe,(um p L).map (·.2)=(L.find? (fun x=>x.1==p)).map (·.2.1)
 | []=>rfl
 | x::L=>by
  rw[um,mD];by_cases h:p=x.1
  ·rw[aL h];simp[h]
  ·rw[aG h,dF.2 (iG h)]
   simp only[Option.map_map];rw[← FY p L];cases um p L<;>rfl
def sW(p:Int × Int)(v:Value)(c:Nat):List Pe→List Pe
 | []=>[(p,v,c)]
 | x::L=>if p=x.1 then(p,v,x.2.2)::L else x::sW p v c L
theorem Ab(p:Int × Int)(v:Value)(c:Nat):∀ L,(sW p v c L).length≤L.length+1
 | []=>by simp[sW]
 | x::L=>by
  rw[sW]
  split
  ·simp
  ·simp[Ab p v c L]
theorem Cu(p:Int × Int)(v:Value)(c:Nat)(q:Int × Int):∀ L:List Pe,((sW p v c L).find? (fun x=>x.1==q)).map (·.2.1)=if q=p then some v else(L.find? (fun x=>x.1==q)).map (·.2.1)
 | []=>by
  rw[sW,mD];by_cases h:q=p
  ·simp[h]
  ·rw[dF.2 (iG h)];simp[h]
 | x::L=>by
  rw[sW];by_cases h:p=x.1
  ·rw[aL h,mD,mD]
   by_cases h2:q=p
   ·simp[h2]
   ·have h3:¬ x.1=q:=fun e=>h2 (by rw[h,e])
    rw[dF.2 (iG h2),dF.2 h3];simp[h2]
  ·rw[aG h,mD,mD]
   by_cases h2:x.1=q
   ·have h3:¬ q=p:=fun e=>h (by rw[← e,h2])
    simp[h2,h3]
   ·simp only[dF.2 h2]
    exact Cu p v c q L
theorem Cv(p:Int × Int)(v:Value)(c:Nat):∀ L:List Pe,um p L=none→sW p v c L=L++[(p,v,c)]
 | [],_=>rfl
 | x::L,h=>by
  rw[um] at h;by_cases hp:p=x.1
  ·rw[aL hp] at h;cases h
  ·rw[aG hp] at h
   rw[sW,aG hp,Cv p v c L (Option.map_eq_none_iff.1 h)];rfl
theorem Cw(p:Int × Int)(v:Value)(c:Nat):∀(L:List Pe) (i:Nat) (u:Value),um p L=some (i,u)→(∃ y:Pe,L[i]?=some y∧y.1=p)∧(L.map Qx).modify i (fun e=>{ e with key:=sV p,val:=v })=(sW p v c L).map Qx
 | [],_,_,h=>by cases h
 | x::L,i,u,h=>by
  rw[um] at h;by_cases hp:p=x.1
  ·rw[aL hp] at h
   cases h
   rw[sW,aL hp];exact⟨⟨x,rfl,hp.symm⟩,rfl⟩
  ·rw[aG hp] at h
   obtain⟨⟨j,u'⟩,h1,h2⟩:=gI.1 h;cases h2
   obtain⟨⟨y,h3,h4⟩,h5⟩:=Cw p v c L j u' h1;rw[sW,aG hp];exact⟨⟨y,by simpa using h3,h4⟩,by rw[fQ,List.modify_succ_cons,h5];rfl⟩
section
variable{w w':World}{b n:Nat}{g:Int × Int→Option Value}{MT ET:TypeId}{z:Value}
theorem Mq.lt(h:Mq w b n g):b<w.heap.size:=by
 obtain⟨L,c,h1,-⟩:=h;exact aP h1
theorem Mq.made(w:World):Mq (w.alloc (.map #[] 0)) w.heap.size 0 (fun _=>none):=⟨[],0,aB w _,aj _,fun _=>rfl⟩
theorem Mq.keep{S:Nat→Prop}(h:Mq w b n g)(hk:Kp S w w')(hn:¬ S b):Mq w' b n g:=by
 obtain⟨L,c,h1,h2⟩:=h;exact⟨L,c,hk.heap h1 hn,h2⟩
theorem Mq.below(h:Mq w b n g)(hk:Below w.heap.size w w'):Mq w' b n g:=h.keep (Kp.aI hk (fun _=>False)) id
theorem Mq.obj(h:Mq w b n g):∃ es clock,w.heap[b]?=some (.map es clock):=by
 obtain⟨L,c,h1,-⟩:=h;exact⟨_,_,h1⟩
theorem Mq.look(h:Mq w b n g)(hM:prog.underlying MT=some (.map 57 ET))(hz:(zeroValue ET).run prog w=.ok z w)(p:Int × Int)(ok:Bool) :
  (Instr.lookup MT (.map (some b)) (sV p) ok).run prog w=.ok (if ok then .tuple #[(g p).getD z,.bool (g p).isSome] else(g p).getD z) w:=by
 obtain⟨L,c,h1,h2,h3⟩:=h;have hf:=FX w p L;have hc:=fun z=>WY w z p
 have hv:=FY p L;rw[← h3] at hv;cases he:um p L with
 | none =>
  rw[he] at hf hv;simp[Instr.lookup,qR hM,qV h1,hc,hf,hz,← hv,Result.andThen]
 | some r =>
  rw[he] at hf hv;simp[Instr.lookup,qR hM,qV h1,hc,hf,← hv,Result.andThen]
theorem Qy(p:Int × Int):Instr.sameBits 10000 (sV p) (sV p)=true:=by
 unfold sV;simp[Instr.sameBits]
def Jo(g:Int × Int→Option Value)(p:Int × Int)(v:Value):Int × Int→Option Value:=fun q=>if q=p then some v else g q
theorem Mq.put(h:Mq w b n g)(hM:prog.underlying MT=some (.map 57 ET))(p:Int × Int)(v:Value) :
  ∃ w',(Instr.mapUpdate MT (.map (some b)) (sV p) v).run prog w=.ok () w'∧Mq w' b (n+1) (Jo g p v)∧Kp (fun q=>q=b) w w':=by
 obtain⟨L,c,h1,h2,h3⟩:=h;have hf:=FX w p L;have hc:=fun z=>WY w z p
 have hkp:∀ o,Kp (fun q=>q=b) w (setBlock w b o):=fun o=>by
  have hg:w.grownBy (setBlock w b o) (some b):=⟨rfl,rfl,rfl,by simp[setBlock],fun i _ hi=>heap_setBlock_other h1 _ (fun e=>hi (by rw[e]))⟩;exact(Kp.refl _ w).grown hg (fun q e _=>by cases e;rfl)
 have hg:∀ c' q,Jo g p v q=((sW p v c' L).find? (fun x=>x.1==q)).map (·.2.1):=fun c' q=>by
  rw[Cu,← h3];rfl
 cases he:um p L with
 | none =>
  rw[he] at hf;refine⟨setBlock w b (.map ((sW p v c L).map Qx).toArray (c+1)),?_,⟨sW p v c L,c+1,heap_setBlock_same h1 _,bS (Ab p v c L) (by omega),hg c⟩,hkp _⟩;rw[Cv p v c L he];simp[Instr.mapUpdate,qR hM,qV h1,hc,hf,MapKept.run_setObj_map _ h1,Result.andThen,setBlock,Qx]
 | some r =>
  rw[he] at hf;obtain⟨⟨y,h4,h5⟩,h6⟩:=Cw p v c L r.1 r.2 he;refine⟨setBlock w b (.map ((sW p v c L).map Qx).toArray c),?_,⟨sW p v c L,c,heap_setBlock_same h1 _,bS (Ab p v c L) (by omega),hg c⟩,hkp _⟩;rw[← h6];simp[Instr.mapUpdate,qR hM,qV h1,hc,hf,h4,h5,Qx,Instr.keyThatStays,Qy,MapKept.run_setObj_map _ h1,Result.andThen,setBlock]
structure PrS(k:E.Kn)(T:Int × Int→Nat)(pb:Nat)(w:World):Prop where
 ex:∃ sb db n1 n2 iv gd,w.heap[pb]?=some (.cells #[.map (some sb),iv,.map (some db)] 53 (0,0))∧Mq w sb n1 (fun p=>(k.sd p).map sV)∧Mq w db n2 gd∧(∀ p,k.dk p=none→gd p=none) ∧
  ∀ p z,k.dk p=some z→T p≠0∧∃ b c q,gd p=some (.agg #[.pointer (some ⟨b,0,none⟩),.pointer (some ⟨T p,0,none⟩)])∧w.heap[b]?=some (.cells c 74 (0,0))∧c[3]?=some (.pointer q)∧q.isSome=z
theorem PrS.below{k:E.Kn}{T:Int × Int→Nat}{pb:Nat}(h:PrS k T pb w)(hb:Below w.heap.size w w'):PrS k T pb w':=by
 obtain⟨sb,db,n1,n2,iv,gd,h1,h2,h3,h4,h5⟩:=h.ex;refine⟨sb,db,n1,n2,iv,gd,(hb.block pb (aP h1)).trans h1,h2.below hb,h3.below hb,h4,fun p z hp=>?_⟩;obtain⟨q0,b,c,q,q1,q2,q3⟩:=h5 p z hp;exact⟨q0,b,c,q,q1,(hb.block b (aP q2)).trans q2,q3⟩
end
end Go.Proofs.YtdkpkpgpphkljaaGreatDoor
