/- A Builder that is a part of a block,with all that a write may turn. -/
import Derived.Test.YtdkpkpgpphkljaaGreatDoorA
import Derived.Test.YtdkpkpgpphkljaaGreatDoorProg
import Derived.BigQuiet
import Derived.Lib.AppendZeros
import Derived.Deep.AppendLies
import Derived.Shelf.Strings.Builder1
namespace Go.Proofs.YtdkpkpgpphkljaaGreatDoor
set_option maxRecDepth 100000
set_option maxHeartbeats 8000000
open Tryz
open Go.RowKit
section
variable{w w':World}{q B:Nat}{S:Nat→Prop}{p bv:Value}{l:ah}
theorem Zx:(prog.info? 5).map (fun i=>(i.zero,i.size,i.bytes))=some (some (.int .u8 0),1,1):=by kernel_rfl
theorem Zy{f:Option TypeInfo}{z:Value}{n m:Nat}(h:f.map (fun i=>(i.zero,i.size,i.bytes))=some (some z,n,m)):∃ i,f=some i∧i.zero=some z∧i.size=n∧i.bytes=m:=by
 cases f with
 | none=>simp at h
 | some i=>simp at h;exact⟨i,rfl,h⟩
theorem Lv:(prog.info? 98).map (·.size)=some 2:=by kernel_rfl
theorem VS:prog.cellsOf 5=1:=by kernel_rfl
theorem yY{base:Nat}{e:TypeId}{size:Nat}{v:Value}{n:Nat}{xs:List Value}(h:w.ownsRow base e size v n xs)(hq:v.ownBlock=some q):base≤q∧∃ c,w.heap[q]?=some (.cells c e (0,0)):=by
 rcases h.2 with ⟨rfl,-⟩|⟨g,cap,cur,rfl,hb,hg,-⟩
 ·cases hq
 ·cases hq
  exact⟨hb,cur,hg⟩
theorem CV{c c2:Array Value}{t t2:TypeId}{fz fz2:Nat × Nat}(h:w.heap[q]?=some (.cells c t fz))(h2:w.heap[q]?=some (.cells c2 t2 fz2)):t=t2:=by
 rw[h] at h2;injection h2 with e;injection e with e1 e2 e3
theorem GU{W:World}{b:Nat}{vs:Array Value}{ty:TypeId}(h:W.heap[b]?=some (.cells vs ty (0,0)))(k:Nat)(v:Value):(W.setCell ⟨b,k,none⟩ v).heap[b]?=some (.cells (vs.setIfInBounds k v) ty (0,0)):=by simp[World.setCell,aK,h]
theorem Kp.VT{a:World}(h:Kp S a w){p:Addr}(hp:S p.block)(n:Nat):Kp S a (w.freeze p n):=by
 unfold World.freeze
 split
 ·exact h
 ·refine⟨h.os,h.tape,h.output,by simpa using h.size,fun k hk hn=>?_⟩
  simp only[aK];rw[aG (fun e:p.block=k=>hn (e ▸ hp))];exact h.block k hk hn
theorem VU(w:World)(base:Nat)(v:Value)(n:Nat)(xs:List Value)(hown:w.ownsRow base 5 1 v n xs)(s:ByteArray)(hlen:n+s.size≤140737488355328)(hbase:base≤w.heap.size) :
  ∃ v' w',(Builtin.append_ #[96,9] 96 #[v,.string s]).run prog w=.ok v' w'∧w'.ownsRow base 5 1 v' (n+s.size) (xs++Lib.strCells s)∧w.grownBy w' v.ownBlock∧(∀ k,v'.ownBlock=some k→v.ownBlock=some k∨w.heap.size≤k)∧(v'=.slice none 0 0↔v=.slice none 0 0∧s.size=0):=by
 obtain⟨i,hi,hz,hsize,hby⟩:=Zy Zx;have h63:n+s.size≤maxLen:=by unfold maxLen;omega
 obtain⟨v',w',hr,h2,h3,h4⟩:=Lib.run_append_own_string (P:=prog) w base 96 9 96 5 i underlying96 underlying9 hi hz hsize hby v n xs hown s h63 hlen hbase;refine⟨v',w',hr,h2,h3,?_,h4⟩;have hxl:xs.length=n:=by simpa using hown.1
 rcases hown.2 with ⟨rfl,rfl⟩|⟨g,cap,cur,rfl,hbg,hg,hnc,hcm,hcs,htake⟩
 ·by_cases h0:s.size=0
  ·rw[h4.2 ⟨rfl,h0⟩];intro k hk;cases hk
  ·have hr2:=run_append_nil_string (P:=prog) w 96 9 96 5 i (.int .u8 0) underlying96 underlying9 hi hz s (by omega) (by omega) (by rw[hby];omega)
   rw[hr2] at hr;injection hr with h1 _;rw[← h1];intro k hk;have:w.heap.size=k:=by simpa [Value.ownBlock] using hk
   exact .inr (by omega)
 ·by_cases hroom:n+s.size≤cap
  ·have hr2:=Lib.run_append_room_string (P:=prog) w 96 9 96 5 i underlying96 underlying9 hi hsize g n cap cur hg s hroom (by rw[hcs];omega)
   rw[hr2] at hr;injection hr with h1 _;rw[← h1];exact fun k hk=>.inl hk
  ·have holds:∀ j u,xs[j]?=some u→w.cell? ((⟨g,0,none⟩:Addr).add j)=some u:=hown.cells (g:=g) rfl
   have hr2:=Lib.run_append_grow_string (P:=prog) w 96 9 96 5 i (.int .u8 0) underlying96 underlying9 hi hz ⟨g,0,none⟩ n cap xs (by rw[hsize];simpa using hxl) holds s (by omega) (by omega) (by rw[hby];exact growslice_fits (by omega) (by omega));rw[hr2] at hr;injection hr with h1 _;rw[← h1];intro k hk;have:w.heap.size=k:=by simpa [Value.ownBlock] using hk
   exact .inr (by omega)
structure Host(f:Value→Value→Array Value)(T o n:Nat):Prop where
 c0:∀ p v,(f p v)[o]?=some p
 c1:∀ p v,(f p v)[o+1]?=some v
 s0:∀ p v y,(f p v).setIfInBounds o y=f y v
 s1:∀ p v y,(f p v).setIfInBounds (o+1) y=f p y
 sz:∀ p v,(f p v).size=n
 lt:o<n
 lies:liesAt prog prog.depth T (n / prog.cellsOf T) o 98 1=true
 ne:5≠T
structure Ef(f:Value→Value→Array Value)(T o:Nat)(w:World)(B:Nat)(l:ah)(p bv:Value):Prop where
 blk:w.heap[B]?=some (.cells (f p bv) T (0,0))
 adr:p=.pointer none∨p=.pointer (some ⟨B,o,none⟩)
 row:w.ownsRow B 5 1 bv l.length (Lib.byteCells l)
 nil:l=[]→bv=.slice none 0 0
variable{f:Value→Value→Array Value}{T o n:Nat}
theorem GV{j:Nat}{c:Array Value}{T:TypeId}{fz:Nat × Nat}{x:Value}(h:w.heap[B]?=some (.cells c T fz))(hx:c[j]?=some x):w.cell? ⟨B,j,none⟩=some x:=by
 simp[World.cell?,h,hx]
theorem Ef.cells(H:Host f T o n)(h:Ef f T o w B l p bv):w.cell? ⟨B,o,none⟩=some p∧w.cell? ⟨B,o+1,none⟩=some bv∧w.frozen? ⟨B,o,none⟩=false∧w.frozen? ⟨B,o+1,none⟩=false∧w.shape? B=some (T,n) :=
 ⟨GV h.blk (H.c0 p bv),GV h.blk (H.c1 p bv),by simp[World.frozen?,h.blk],by simp[World.frozen?,h.blk],by simp[World.shape?,h.blk,H.sz]⟩
theorem Ef.keep(h:Ef f T o w B l p bv)(hk:Kp S w w')(hB:¬ S B)(hS:∀ k,bv.ownBlock=some k→¬ S k):Ef f T o w' B l p bv :=
 ⟨hk.heap h.blk hB,h.adr,hk.owns h.row hS,h.nil⟩
theorem Ef.below(h:Ef f T o w B l p bv)(hk:Below w.heap.size w w'):Ef f T o w' B l p bv:=h.keep (Kp.aI hk (fun _=>False)) id (fun _ _=>id)
theorem Ef.far(H:Host f T o n)(h:Ef f T o w B l p bv):some B≠bv.ownBlock:=fun e=>by
 obtain⟨-,c,hc⟩:=yY h.row e.symm;exact H.ne (CV hc h.blk)
def BdT(f:Value→Value→Array Value)(T o:Nat)(w:World)(B:Nat)(bv:Value)(l:ah)(w':World):Prop:=∃ p Oh,Ef f T o w' B l p Oh∧(∀ k,Oh.ownBlock=some k→bv.ownBlock=some k∨w.heap.size≤k)∧Kp (fun q=>q=B∨bv.ownBlock=some q) w w'
theorem J3(b o:Nat)(w:World)(h0:w.cell? ⟨b,o,none⟩=some (.pointer (some ⟨b,o,none⟩))) :
  Calls prog 99 #[.pointer (some ⟨b,o,none⟩)] w fun e w'=>e=.returned (.tuple #[])∧w'=w:=by
 obtain⟨j,hj,_⟩:=gI.1 Lv;go_enter func99,ntmps99;go_wp2
 rw[Lib.run_neq_ptr_same w _ underlying95 hj];go_wp2
 go_end0;exact⟨rfl,rfl⟩
theorem GX(H:Host f T o n)(b:Nat)(w:World)(h0:w.cell? ⟨b,o,none⟩=some (.pointer none))(hsh:w.shape? b=some (T,n))(hfz:w.frozen? ⟨b,o,none⟩=false) :
  Calls prog 99 #[.pointer (some ⟨b,o,none⟩)] w fun e w'=>e=.returned (.tuple #[])∧w'=w.setCell ⟨b,o,none⟩ (.pointer (some ⟨b,o,none⟩)):=by
 obtain⟨j,hj,hjs⟩:=gI.1 Lv;have hlt:=H.lt;go_enter func99,ntmps99;go_wp2
 rw[Lib.run_to_unsafe w ⟨b,o,none⟩ underlying95 underlying305 hj (by rw[hjs];decide) hsh (by show o<n;exact hlt)];simp only[Result.andThen];rw[Oper.upon_value];go_wp2
 rw[run_callFunc_extern func123 (by kernel_rfl) (by kernel_rfl) (by kernel_rfl) (e:=Extern.AbiNoEscape.same) (by kernel_rfl)];rw[Lib.run_noEscape];simp only[Result.andThen];rw[Oper.upon_value];go_wp2
 rw[Lib.run_from_unsafe w ⟨b,o,none⟩ underlying305 underlying95 hj hsh H.lies];simp only[Result.andThen];rw[Oper.upon_value];go_wp2
 go_end0;exact⟨rfl,rfl⟩
theorem R4(H:Host f T o n)(h:Ef f T o w B l p bv) :
  Calls prog 99 #[.pointer (some ⟨B,o,none⟩)] w fun e w'=>e=.returned (.tuple #[])∧Ef f T o w' B l (.pointer (some ⟨B,o,none⟩)) bv∧Kp (fun q=>q=B) w w'∧w'.heap.size=w.heap.size:=by
 obtain⟨c0,c1,f0,f1,sh⟩:=h.cells H;rcases h.adr with e|e
 ·subst e
  refine(GX H B w c0 sh f0).mono ?_;rintro e w' ⟨rfl,rfl⟩;have k:Kp (fun q=>q=B) w (w.setCell ⟨B,o,none⟩ (.pointer (some ⟨B,o,none⟩))):=Kp.setCell (S:=fun q=>q=B) (p:=⟨B,o,none⟩) (Kp.refl _ w) (fun _=>rfl) _;exact⟨rfl,⟨by have:=GU h.blk o (.pointer (some ⟨B,o,none⟩));rw[H.s0] at this;exact this,.inr rfl,k.owns h.row (fun q hq e=>h.far H (by rw[hq,e])),h.nil⟩,k,by simp[World.setCell]⟩
 ·subst e
  refine(J3 B o w c0).mono ?_;rintro e w' ⟨rfl,rfl⟩;exact⟨rfl,h,Kp.refl _ _,rfl⟩
theorem Ef.put(H:Host f T o n){w1 w3 w5:World}{l':ah}{Oh:Value}(h:Ef f T o w1 B l p bv)(k1:Kp (fun q=>q=B) w w1)(hb:Below w1.heap.size w1 w3)(hown:w5.ownsRow B 5 1 Oh l'.length (Lib.byteCells l'))(hg:w3.grownBy w5 bv.ownBlock)(hat:∀ k,Oh.ownBlock=some k→bv.ownBlock=some k∨w.heap.size≤k)(hnil:l'=[]→Oh=.slice none 0 0):BdT f T o w B bv l' (w5.setCell ⟨B,o+1,none⟩ Oh):=by
 have ZP:Kp (fun q=>bv.ownBlock=some q) w3 w5:=(Kp.refl _ w3).grown hg (fun q e _=>e);have Yr:=Kp.aI hb (fun _=>False);have EM:=ZP.heap (Yr.heap h.blk id) (fun e=>h.far H e.symm);have Tq:Kp (fun q=>q=B) w5 (w5.setCell ⟨B,o+1,none⟩ Oh):=Kp.setCell (S:=fun q=>q=B) (p:=⟨B,o+1,none⟩) (Kp.refl _ w5) (fun _=>rfl) _;refine⟨p,Oh,⟨by have:=GU EM (o+1) Oh;rw[H.s1] at this;exact this,h.adr,Tq.owns hown (fun q hq e1=>?_),hnil⟩,hat,?_⟩
 ·obtain⟨-,c,hc⟩:=yY hown hq
  rw[e1] at hc;exact H.ne (CV hc EM)
 ·exact Kp.trans (Kp.trans (Kp.trans (k1.mono (fun _ _ e=>.inl e)) Yr (fun _ _ e=>e.elim)) ZP (fun _ _ e=>.inr e)) Tq (fun _ _ e=>.inl e)
theorem Qk(H:Host f T o n)(x:ah)(B:Nat)(l:ah)(p bv:Value)(w:World)(h:Ef f T o w B l p bv)(hl:l.length+x.length≤1099511627776) :
  Calls prog 68 #[.pointer (some ⟨B,o,none⟩),.string (ba x)] w fun e w'=>(∃ v,e=.returned v)∧Hid (BdT f T o w B bv (l++x) w'):=by
 have HC:=au (R4 H h);have HXS:Hid ((ba x).size=x.length):=iW _;have HSC:Hid (Lib.strCells (ba x)=Lib.byteCells x):=by show _=_;unfold Lib.strCells Lib.byteCells;simp[ba]
 have hls:l.length+(ba x).size≤1099511627776:=by have:=HXS.o;omega
 clear h hl;generalize ba x=X at *;go_enter func68,ntmps68;go_wp2_with fail
 refine(HC.o).mono ?_;rintro e w1 ⟨rfl,h1,k1,hz1⟩;have HB:=au h1;have HK:=au k1;have HZ:=au hz1;obtain⟨q0,q1,f0,f1,-⟩:=h1.cells H;have hBl:B<w1.heap.size:=aP h1.blk;have qH:=h1.far H;obtain⟨v6,w6,r6,o6,g6,a6,n6⟩:=VU w1 B bv l.length _ h1.row X (by omega) (by omega);have HO6:=au o6;have YH:=au g6;have TD:=au a6;have HN6:=au n6;have hc6:w6.frozen? ⟨B,o+1,none⟩=false:=(g6.frozen_far ⟨B,o+1,none⟩ hBl qH).trans f1;have hd6:w6.cell? ⟨B,o+1,none⟩=some bv:=(g6.cell_far ⟨B,o+1,none⟩ hBl qH).trans q1;have HNL:Hid (l=[]→bv=.slice none 0 0):=h1.nil;obtain⟨ao,cap,rfl⟩:∃ ao cap,v6=.slice ao (l.length+X.size) cap:=by
  rcases o6.2 with ⟨rfl,e⟩|⟨g,cap,cur,rfl,-⟩
  ·exact⟨none,0,by rw[e]⟩
  ·exact⟨_,cap,rfl⟩
 clear o6 g6 a6 n6 qH h1 k1 hz1 HC;have HF:Hid (BdT f T o w B bv (l++x) (w6.setCell ⟨B,o+1,none⟩ (.slice ao (l.length+X.size) cap))):=by
  refine(HB.o).put H HK.o (ay _ w1) ?_ YH.o (fun k hk=>?_) (fun e=>?_)
  ·rw[ak,Lib.byteCells_append,← HSC.o,← HXS.o];exact HO6.o
  ·rcases(TD.o) k hk with e|e
   ·exact .inl e
   ·exact .inr (by have:=HZ.o;omega)
  ·obtain⟨e1,e2⟩:=List.append_eq_nil_iff.1 e
   exact(HN6.o).2 ⟨(HNL.o) e1,by rw[HXS.o,e2];rfl⟩
 clear HO6 YH TD HN6 HNL HB HK HZ;go_wp2_with (at_builtin;refine Lib.wpList_append_run _ rfl _ _ _ _ rfl _ _ rfl rfl _ _ r6 ?_)
 go_wp2_with fail
 go_ret2;exact⟨⟨_,rfl⟩,HF⟩
theorem FQ(H:Host f T o n)(B:Nat)(l:ah)(p bv:Value)(w:World)(h:Ef f T o w B l p bv) :
  Calls prog 22 #[.pointer (some ⟨B,o,none⟩)] w fun e w'=>e=.returned (.string (ba l))∧w'.heap.size=w.heap.size∧Kp (fun k=>bv.ownBlock=some k) w w':=by
 obtain⟨-,q1,-,-,-⟩:=h.cells H;by_cases h0:l=[]
 ·have hn:=h.nil h0
  subst h0 hn;have hUS:∀ W:World,(Builtin.unsafeString_ #[150,3] 9 #[.pointer none,.int .i64 0]).run prog W=.ok (.string .empty) W:=fun W=>Lib.run_unsafeString_none W _ _ _ none
  have c1:w.drew.cell? ⟨B,o+1,none⟩=some (.slice none 0 0):=q1;have hSD:(Builtin.unsafeSliceData_ #[96] 150 #[.slice none 0 0]).run prog w.drew=.ok (.pointer none) w.drew:=rfl;clear h;go_enter func22,ntmps22;go_wp2
  go_region
  all_goals (go_wp2;go_ret;exact⟨rfl,rfl,(Kp.refl _ w).drew⟩)
 ·have hl0:l.length≠0:=by simpa using h0
  have hown:=h.row;obtain⟨g,cap,cur,rfl,hbg,hg,hnc,hcm,hcs,htake⟩:∃ g cap cur,bv=.slice (some ⟨g,0,none⟩) l.length cap∧B≤g∧w.heap[g]?=some (.cells cur 5 (0,0))∧l.length≤cap∧cap≤maxLen∧cur.size=cap*1∧cur.toList.take (l.length*1)=Lib.byteCells l:=by
   rcases hown.2 with ⟨_,hz⟩|⟨g,cap,cur,hv,r⟩
   ·exact absurd hz hl0
   ·exact⟨g,cap,cur,hv,r⟩
  have c1:w.drew.cell? ⟨B,o+1,none⟩=some (.slice (some ⟨g,0,none⟩) l.length cap):=q1;have hSD:(Builtin.unsafeSliceData_ #[96] 150 #[.slice (some ⟨g,0,none⟩) l.length cap]).run prog w.drew=.ok (.pointer (some ⟨g,0,none⟩)) w.drew :=
   Lib.run_unsafeSliceData_row _ _ _ _ _ _ (by omega)
  have hUS:(Builtin.unsafeString_ #[150,3] 9 #[.pointer (some ⟨g,0,none⟩),.int .i64 l.length]).run prog w.drew=.ok (.string ⟨l.toArray⟩) (w.drew.freeze ⟨g,0,none⟩ l.length):=by
   refine Lib.run_unsafeString_row w.drew 150 3 9 5 underlying150 VS g cur.size (by have hg':w.drew.heap[g]?=some (.cells cur 5 (0,0)):=hg;simp[World.shape?,hg']) l h0 (by omega) (by unfold maxLen at hcm;omega) ?_;intro j x hx;have:=hown.cells (g:=g) rfl j (.int .u8 x.toNat) (by simp[Lib.byteCells,hx]);exact this
  have HK:=au (show Kp (fun k=>(Value.slice (some ⟨g,0,none⟩) l.length cap).ownBlock=some k) w (w.drew.freeze ⟨g,0,none⟩ l.length) from ((Kp.refl (fun k=>(Value.slice (some ⟨g,0,none⟩) l.length cap).ownBlock=some k) w).drew).VT (p:=⟨g,0,none⟩) rfl _);have HZ:=au (show(w.drew.freeze ⟨g,0,none⟩ l.length).heap.size=w.heap.size by unfold World.freeze;split<;>simp);clear hown hg htake hcs hnc hcm hbg h;go_enter func22,ntmps22;go_wp2
  go_region
  all_goals (go_wp2;go_ret;exact⟨rfl,HZ.o,HK.o⟩)
end
section
variable{f:Value→Value→Array Value}{T o n:Nat}
theorem Qj(H:Host f T o n)(B:Nat)(l:ah)(p bv:Value)(w:World)(h:Ef f T o w B l p bv) :
  Calls prog 67 #[.pointer (some ⟨B,o,none⟩)] w fun e w'=>e=.returned (.int .i64 (l.length:Int))∧w'=w:=by
 obtain⟨-,q1,-,-,-⟩:=h.cells H;obtain⟨ao,cap,rfl⟩:∃ ao cap,bv=.slice ao l.length cap:=by
  rcases h.row.2 with ⟨rfl,e⟩|⟨g,cap,cur,rfl,-⟩
  ·exact⟨none,0,by rw[e]⟩
  ·exact⟨_,cap,rfl⟩
 clear h;go_enter func67,ntmps67;go_wp2
 go_ret;exact⟨rfl,rfl⟩
end
end Go.Proofs.YtdkpkpgpphkljaaGreatDoor
