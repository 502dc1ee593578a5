/- Package value: values are taken. -/
import Derived.Test.YtdkpkpgpphkljaaGreatDoorMvg
import Derived.Lib.AppendZeros
namespace Go.Proofs.YtdkpkpgpphkljaaGreatDoor
set_option maxRecDepth 100000
set_option maxHeartbeats 4000000
open Tryz
open Go.RowKit
section
open E (St Bo V Fr Ms)
variable{v sv nv ev bv:Value}{cs:Array Value}{bc:List Value}{ro:Nat→Value}
variable{β:Nat}
structure DZ(β:Nat)(w:World)(O:Nat→Prop)(T:Int × Int→Nat)(v:Value)(l:List V):Prop where
 ex:∃ ao cap vs,v=.slice ao l.length cap∧l.length≤cap∧cap≤maxLen∧Rr w O 40 ao l.length vs∧∀(j:Nat) (x:V),l[j]?=some x→mP β w O T (vs j) x
theorem DZ.nil(w:World)(O:Nat→Prop)(T:Int × Int→Nat):DZ β w O T (.slice none 0 0) []:=⟨none,0,fun _=>undef,rfl,aj _,aX _,fun j hj=>absurd hj (mF _),fun j x hx=>by simp at hx⟩
theorem DZ.keep{w w':World}{O O':Nat→Prop}(hk:Kv β O O' w w'){T:Int × Int→Nat}{v:Value}{l:List V}(h:DZ β w O T v l):DZ β w' O' T v l:=by
 obtain⟨ao,cap,vs,e,h1,h2,h3,h4⟩:=h.ex;exact⟨ao,cap,vs,e,h1,h2,h3.keep hk (by decide),fun j s hs=>(h4 j s hs).keep hk⟩
theorem DZ.made{w:World}{O:Nat→Prop}{T:Int × Int→Nat}{B:Nat}{l:List V}{cs:List Value}(h:w.ownsRow B 40 1 v l.length cs)(ho:∀ q,B≤q→¬ O q)(hv:∀(j:Nat) (x:V),l[j]?=some x→∃ u,cs[j]?=some u∧mP β w O T u x):DZ β w O T v l:=by
 rcases h.2 with ⟨e1,e2⟩|⟨g,cap,cur,e1,h1,h2,h3,h4,h5,h6⟩
 ·have:l=[]:=dL e2
  subst this e1;exact .nil w O T
 ·subst e1
  refine⟨some ⟨g,0,none⟩,cap,fun j=>cs.getD j undef,rfl,h3,h4,fun j hj=>?_,fun j x hx=>?_⟩
  ·have hl:=h.1
   have hj':cs[j]?=some (cs.getD j undef):=by rw[bF,aC (by omega)];rfl
   exact⟨g,cur,_,rfl,ho g h1,h2,DX h hj'⟩
  ·obtain⟨u,h7,h8⟩:=hv j x hx
   show mP β w O T (cs.getD j undef) x;rw[bF,h7];exact h8
theorem FC(w:World)(ty:TypeId):(Builtin.append_ #[80,80] ty #[.slice none 0 0,.slice none 0 0]).run prog w=.ok (.slice none 0 0) w:=by kernel_rfl
section
variable{w:World}{O:Nat→Prop}{T:Int × Int→Nat}{mb:Nat}{m:Ms}
theorem ME(hx:Mx β w O T mb m cs sv nv ev (.slice none 0 0) bv bc ro) :
  Calls prog 252 #[.pointer (some ⟨mb,0,none⟩),.int .i64 0] w fun e w'=>e=.returned (.slice none 0 0)∧w'=w.setCell ⟨mb,3,none⟩ (.slice none 0 0):=by
 have c3:=hx.cell hx.c3;have f3:=hx.vB 3;clear hx;go_enter func252,ntmps252;go_wp2_with (at_builtin;refine Lib.wpList_append_run w rfl _ _ 80 80 rfl _ _ rfl rfl _ _ (FC w _) ?_)
 go_ret;exact⟨rfl,rfl⟩
theorem MF(k n:Nat){g cap:Nat}{vc:List Value}(hx:Mx β w O T mb m cs sv nv ev (.slice (some ⟨g,0,none⟩) (k+n) cap) bv bc ro)(hrow:w.ownsRow 0 40 1 (.slice (some ⟨g,0,none⟩) (k+n) cap) (k+n) vc)(hone:∀ u∈vc,u.oneCell'=true)(hl:k+n≤1073741824)(hc:k+n≤cap∧cap≤maxLen) :
  Calls prog 252 #[.pointer (some ⟨mb,0,none⟩),.int .i64 n] w fun e w'=>∃ r w5,e=.returned r∧w'=w5.setCell ⟨mb,3,none⟩ (.slice (some ⟨g,0,none⟩) k cap)∧Hid (w5.ownsRow w.heap.size 40 1 r n (vc.drop k)∧Below w.heap.size w w5):=by
 obtain⟨i0,hi0,hz0,hz1,hz2⟩:=gB DW;have c3:=hx.cell hx.c3;have f3:=hx.vB 3;have hml:=hx.lt;have hgm:g≠mb:=fun e=>hx.vne (by rw[← e];rfl)
 have hvl:=hrow.1;have hcell:Hid (∀ j u,(vc.drop k)[j]?=some u→w.cell? (Addr.add ⟨g,k,none⟩ j)=some u):=fun j u hj=>by have:=DX hrow (j:=k+j) (by rw[pY] at hj;exact hj);by_cases h0:j=0;(subst h0;simpa [Addr.add] using this);simpa [Addr.add,h0] using this
 have hnl:(vc.drop k).length=n:=by rw[bM];omega
 have HO:Hid (∀ u∈vc.drop k,u.oneCell'=true):=fun u hu=>hone u (List.mem_of_mem_drop hu)
 have k0:(0:Int)≤(k:Int):=bU _;have n0:(0:Int)≤(n:Int):=bU _;have e1:((k+n:Nat):Int) - (n:Int)=(k:Int):=by omega
 obtain⟨c1,c2⟩:=hc;unfold maxLen at c2;clear hx hrow hone;generalize vc.drop k=nw at *;by_cases hck:cap=k
 ·obtain rfl:n=0:=by omega
  have hnn:nw=[]:=dL hnl;subst hnn hck;go_enter func252,ntmps252;go_wp2_with (at_builtin;refine wpList_append_own _ rfl _ _ 80 rfl w.heap.size 40 i0 _ 1 16 underlying80 hi0 hz0 hz1 hz2 rfl (by decide) (.slice none 0 0) 0 [] rfl (bY w _ _ _) _ 0 _ [] rfl rfl (fun j u h=>by simp at h) (fun u h=>by simp at h) (by unfold maxLen;omega) (by omega) (aj _) ?_;intro v5 w5 hown5 cB nW;have x1:w5.cell? ⟨mb,3,none⟩=some (.slice (some ⟨g,0,none⟩) (cap+0) cap):=(cB.cell c3 (by simp[Value.ownBlock]));have x2:w5.frozen? ⟨mb,3,none⟩=false:=(World.frozen?_of_block (cB.block mb hml (by simp[Value.ownBlock]))).trans f3;have Bp:=au hown5;have tZ:=au cB;clear hown5 cB nW)
  go_ret;exact⟨v5,w5,rfl,rfl,Bp.o,⟨(tZ.o).os,(tZ.o).tape,(tZ.o).output,(tZ.o).size,fun q hq=>(tZ.o).block q hq (by simp[Value.ownBlock])⟩⟩
 ·have bZ9:¬ k=cap:=fun e=>hck e.symm
  go_enter func252,ntmps252;go_wp2_with (at_builtin;refine wpList_append_own _ rfl _ _ 80 rfl w.heap.size 40 i0 _ 1 16 underlying80 hi0 hz0 hz1 hz2 rfl (by decide) (.slice none 0 0) 0 [] rfl (bY w _ _ _) ⟨g,k,none⟩ n _ nw rfl (by omega) (hcell.o) (HO.o) (by unfold maxLen;omega) (by omega) (aj _) ?_;intro v5 w5 hown5 cB nW;have x1:w5.cell? ⟨mb,3,none⟩=some (.slice (some ⟨g,0,none⟩) (k+n) cap):=(cB.cell c3 (by simp[Value.ownBlock]));have x2:w5.frozen? ⟨mb,3,none⟩=false:=(World.frozen?_of_block (cB.block mb hml (by simp[Value.ownBlock]))).trans f3;have Bp:=au hown5;have tZ:=au cB;clear hown5 cB nW)
  go_ret;refine⟨v5,w5,rfl,rfl,?_,⟨(tZ.o).os,(tZ.o).tape,(tZ.o).output,(tZ.o).size,fun q hq=>(tZ.o).block q hq (by simp[Value.ownBlock])⟩⟩;have:=Bp.o;rw[cu,bT] at this;exact this
theorem mP.one{w:World}{O:Nat→Prop}{T:Int × Int→Nat}{x:V}(h:mP β w O T v x):v.oneCell'=true:=by cases h<;>rfl
theorem xu(l xs:List V)(n:Nat)(h:fE β w O T mb m)(hv:m.fr.vs=l++xs)(hn:xs.length=n)(hl:m.fr.vs.length<1073741823) :
  Calls prog 252 #[.pointer (some ⟨mb,0,none⟩),.int .i64 n] w fun e w'=>∃ r,e=.returned r∧Hid (∃ O',Kv β O O' w w'∧fE β w' O' T mb { m with fr:={ m.fr with vs:=l } }∧DZ β w' O' T r xs∧w'.cell? ⟨mb,2,none⟩=w.cell? ⟨mb,2,none⟩):=by
 obtain⟨cs,sv,nv,ev,vv,bv,bc,ro,hx⟩:=h;obtain⟨vc,hrow,pE⟩:=hx.fr.vs.ex;have hlen:m.fr.vs.length=l.length+n:=by rw[hv,ak,hn]
 rw[hlen] at hrow;rcases hrow.2 with ⟨e1,e2⟩|⟨g,cap,cur,e1,h1,h2,h3,h4,h5,h6⟩
 ·subst e1
  obtain rfl:n=0:=by omega
  have hx0:xs=[]:=dL hn;have hl0:l=[]:=dL (by omega);subst hx0 hl0;refine(ME hx).mono ?_;rintro e w' ⟨rfl,rfl⟩;refine⟨_,rfl,?_⟩;have hcsz:=hx.sz;obtain⟨O',k1,k2⟩:=hx.turn (w':=w.setCell ⟨mb,3,none⟩ (.slice none 0 0)) (Kp.setCell (Kp.refl _ w) (p:=⟨mb,3,none⟩) (fun _=>.inl rfl) _) (Bn:=.slice none 0 0) (fu:=m.fu) (vs:=[]) (env:=m.fr.env) (nx:=m.fr.nx) (cs':=cs.setIfInBounds 3 (.slice none 0 0)) (by simp[World.setCell,aK,hx.blk]) (by rw[dM];exact hcsz) (by simpa using hx.c0) (by simpa using hx.c1) (by simpa using hx.c2) (b_ (by omega)) (by simpa using hx.c4) (by simpa using hx.c5) (fun i hi=>by rw[aS (by omega)])
   (fun q hq=>.inl hq) (fun O' kv hO=>⟨⟨⟨[],bY _ _ _ _,fun j x hj=>by simp at hj⟩,fun q hq=>by cases hq⟩,hx.fr.en.keep kv⟩) hx.fr.nx hx.fr.nl hx.fl
  exact⟨O',k1,⟨_,_,_,_,_,_,_,_,k2⟩,.nil _ _ _,by rw[k2.cell k2.c2,hx.cell hx.c2]⟩
 ·subst e1
  have hone:∀ u∈vc,u.oneCell'=true:=fun u hu=>by
   obtain⟨j,hj⟩:=List.getElem?_of_mem hu;have hj':j<vc.length:=(dP.1 hj).1;have hvl:=hrow.1;obtain⟨u',h7,h8⟩:=pE j m.fr.vs[j] (aC (by omega));rw[hj] at h7;cases h7
   exact h8.one
  refine(MF l.length n hx hrow hone (by omega) ⟨h3,h4⟩).mono ?_;rintro e w' ⟨r,w5,rfl,rfl,H5⟩;obtain⟨r1,r2⟩:=H5.o;refine⟨r,rfl,?_⟩;have hml:=hx.lt;have hgl:=aP h2;have hcsz:=hx.sz;have hgm:g≠mb:=fun e=>hx.vne (by rw[← e];rfl)
  have hkp:Kp (Sm mb (.slice (some ⟨g,0,none⟩) (l.length+n) cap)) w (w5.setCell ⟨mb,3,none⟩ (.slice (some ⟨g,0,none⟩) l.length cap)):=Kp.setCell (Kp.aI r2 _) (p:=⟨mb,3,none⟩) (fun _=>.inl rfl) _;have hb5:w5.heap[mb]?=some (.cells cs 89 (0,0)):=(r2.block mb hml).trans hx.blk;have hr5:w5.ownsRow 0 40 1 (.slice (some ⟨g,0,none⟩) (l.length+n) cap) (l.length+n) vc:=(Kp.aI r2 (fun _=>False)).owns hrow (fun _ _ e=>e);obtain⟨O',k1,k0,k2⟩:=hx.WU hkp (Bn:=.slice (some ⟨g,0,none⟩) l.length cap) (fu:=m.fu) (vs:=m.fr.vs.take l.length) (env:=m.fr.env) (nx:=m.fr.nx) (cs':=cs.setIfInBounds 3 (.slice (some ⟨g,0,none⟩) l.length cap)) (by simp[World.setCell,aK,hb5]) (by rw[dM];exact hcsz) (by simpa using hx.c0) (by simpa using hx.c1) (by simpa using hx.c2) (b_ (by omega)) (by simpa using hx.c4) (by simpa using hx.c5) (fun i hi=>by rw[aS (by omega)])
   (fun q hq=>.inl hq)
   (fun O' kv hO=>⟨sS.cut kv vc (bV hr5 (by simp[Value.ownBlock];omega) _) (Nat.le_add_right _ _) pE (by omega) ((hO g).2 (.inr rfl)),hx.fr.en.keep kv⟩)
   hx.fr.nx hx.fr.nl hx.fl
  have Yb:r.ownBlock≠some mb:=fun e=>by
   have:=(World.ownsRow.lt r1 mb e).1;omega
  refine⟨O',k1,by rw[hv,List.take_left] at k2;exact⟨_,_,_,_,_,_,_,_,k2⟩,?_⟩;refine⟨DZ.made (B:=w.heap.size) (cs:=vc.drop l.length) (by rw[hn];exact bV r1 Yb _) (fun q hq ho=>?_) (fun j x hj=>?_),by rw[k2.cell k2.c2,hx.cell hx.c2]⟩
  ·rcases(k0 q).1 ho with ⟨e,-⟩|e
   ·obtain⟨c,t,f,hq2,-⟩:=hx.on q e
    have:=aP hq2;omega
   ·cases e;change w.heap.size≤g at hq;omega
  ·obtain⟨u,h7,h8⟩:=pE (l.length+j) x (by rw[hv,aQ (by omega),show l.length+j - l.length=j by omega];exact hj)
   exact⟨u,by rw[pY];exact h7,h8.keep k1⟩
end
end
section
open E (St Bo V Fr Ms Rs)
variable{β:Nat}
theorem Kv.cell{O O':Nat→Prop}{w w':World}(h:Kv β O O' w w'){b i:Nat}{c:Array Value}{t:TypeId}{f:Nat × Nat}{v:Value}(hb:w.heap[b]?=some (.cells c t f))(hn:¬ O b)(ht:t≠200)(hc:w.cell? ⟨b,i,none⟩=some v):w'.cell? ⟨b,i,none⟩=some v :=
 (aN (a:=⟨b,i,none⟩) ((h.heap hb hn ht).trans hb.symm)).trans hc
section
variable{w w':World}{O:Nat→Prop}{T:Int × Int→Nat}{mb:Nat}{m:Ms}
theorem xq.below{s n e v:Value}{f:Fr}(h:xq β w O T s n e v f)(hb:Below w.heap.size w w'):xq β w' O T s n e v f :=
 h.stay (Kp.aI hb (fun _=>False)) (Kv.aI hb) (fun _ _ e=>e) (fun g hg=>h.vs.ow g hg)
theorem fE.below(h:fE β w O T mb m)(hb:Below w.heap.size w w'):fE β w' O T mb m:=by
 obtain⟨cs,sv,nv,ev,vv,bv,bc,ro,h⟩:=h;have kv:Kv β O O w w':=Kv.aI hb;have kp:=Kp.aI hb (fun _=>False);refine⟨cs,sv,nv,ev,vv,bv,bc,ro,⟨kp.heap h.blk id,h.sz,h.c0,h.c1,h.c2,h.c3,h.c4,h.c5,fun i hi=>?_,h.sn,h.fr.below hb,kp.owns h.row (fun _ _ e=>e),fun j f hf=>?_,h.mo,h.bo,fun q hq=>?_,h.d1,h.d2,h.fl,h.bl⟩⟩
 ·obtain⟨p,h1,h2⟩:=h.sh i hi
  exact⟨p,h1,h2.keep kv (fun b c hbc=>kp.heap hbc id)⟩
 ·obtain⟨s,n,e,h1,h2,h3,h4,h5⟩:=h.WT j f hf
  exact⟨s,n,e,h1,h2,h3,h4,h5.below hb⟩
 ·obtain⟨c,t,f,h1,h2⟩:=h.on q hq
  exact⟨c,t,f,kp.heap h1 id,h2⟩
theorem fE.new(h:fE β w O T mb m){q:Nat}(hq:w.heap.size≤q):¬ O q:=fun e=>by
 obtain⟨cs,sv,nv,ev,vv,bv,bc,ro,h⟩:=h;obtain⟨c,t,f,h1,-⟩:=h.on q e;have:=aP h1;omega
def Bq(β:Nat)(O:Nat→Prop)(T:Int × Int→Nat)(mb:Nat)(w:World)(r:Rs)(e:Ending)(w':World):Prop :=
 match r with
 | .on m'=>e=.returned (.int .i64 0)∧Hid (∃ O',Kv β O O' w w'∧fE β w' O' T mb m')
 | .err k=>e=.returned (.int .i64 k)∧Hid (k≠0∧∃ O',Kv β O O' w w')
 | _=>False
theorem bQ(w:World)(o:Obj):Below w.heap.size w (w.alloc o):=(ay _ w).alloc (aj _) o
theorem UE{m m':Ms}{x:V}(h:E.push m x=.on m'):m.fr.vs.length<1073741823∧m'={ m with fr:={ m.fr with vs:=m.fr.vs++[x] } }:=by
 unfold E.push at h
 split at h
 ·next h1=>cases h;exact⟨by omega,rfl⟩
 ·cases h
theorem lD(u:Value)(x:V)(h:fE β w O T mb m)(hu:mP β w O T u x)(hr:∃ m',E.push m x=.on m') :
  Calls prog 232 #[.agg #[u],.pointer (some ⟨mb,0,none⟩)] w fun e w'=>Bq β O T mb w (E.push m x) e w':=by
 obtain⟨m',hr⟩:=hr;obtain⟨h1,rfl⟩:=UE hr;rw[hr];have hb:=bQ w (.cells #[u] 227);have HP:=au (mY u x (h.below hb) (hu.keep (Kv.aI hb)) h1);have hut:∃ ty y,u=.iface ty y:=by cases hu<;>exact⟨_,_,rfl⟩
 obtain⟨ty,y,rfl⟩:=hut;clear h hu hr h1;go_enter func232,ntmps232;go_wp2_with fail
 refine(HP.o).mono ?_;rintro e w2 ⟨rfl,H2⟩;go_wp2_with fail
 go_ret;obtain⟨O',k1,k2⟩:=H2.o;exact⟨rfl,O',(Kv.aI hb).trans k1,k2⟩
theorem D6:Calls prog 256 #[.agg #[],.pointer (some ⟨mb,0,none⟩)] w fun e w'=>Bq β O T mb w (.err 10) e w':=by
 have hb:=bQ w (.cells #[] 258);go_enter func256,ntmps256;go_wp2_with fail
 go_ret;exact⟨rfl,by decide,O,Kv.aI hb⟩
theorem FD(t:Nat)(h:fE β w O T mb m)(ht:t≤1073741824) :
  Calls prog 263 #[.agg #[.int .i64 t],.pointer (some ⟨mb,0,none⟩)] w fun e w'=>Bq β O T mb w (.on { m with fr:={ m.fr with nx:=t } }) e w':=by
 have hb:=bQ w (.cells #[.int .i64 t] 304);obtain⟨cs,sv,nv,ev,vv,bv,bc,ro,hx⟩:=h.below hb;have c1:=hx.cell hx.c1;have f1:=hx.vB 1;have H:=au hx;have hml:=hx.lt;have hmn:mb≠w.heap.size:=fun e=>by
  obtain⟨cs,sv,nv,ev,vv,bv,bc,ro,hx⟩:=h;have:=hx.lt;omega
 clear h hx;go_enter func263,ntmps263;go_wp2_with fail
 go_ret;obtain⟨O',k1,k2⟩:=(H.o).DY t ht;exact⟨rfl,O',(Kv.aI hb).trans k1,k2⟩
theorem Bt(l:List V)(env:List (List V))(h:fE β w O T mb m)(he:m.fr.env=l::env) :
  Calls prog 261 #[.agg #[],.pointer (some ⟨mb,0,none⟩)] w fun e w'=>Bq β O T mb w (.on { m with fr:={ m.fr with env:=env } }) e w':=by
 have hb:=bQ w (.cells #[] 301);have hmn:mb≠w.heap.size:=fun e=>by
  obtain⟨cs,sv,nv,ev,vv,bv,bc,ro,hx⟩:=h;have:=hx.lt;omega
 obtain⟨cs,sv,nv,ev,vv,bv,bc,ro,hx⟩:=h.below hb;have hen:=hx.fr.en;rw[he] at hen;cases hen with
 | cons eb ao cap l vs a env' hh ho hc hr hp he' =>
  have c2:=hx.cell hx.c2;have f2:=hx.vB 2;have e1:=ai (w.alloc (.cells #[] 301)) _ 1 _ _ _ hh;obtain⟨pa,rfl⟩:∃ p,a=.pointer p:=by cases he'<;>exact⟨_,rfl⟩
  have H:=au hx;have HE:=au he';have hml:=hx.lt;clear h hx hh hp hr he' he;go_enter func261,ntmps261;go_wp2_with fail
  go_ret;obtain⟨O',k1,k2⟩:=(H.o).PN (.pointer pa) env HE.o;exact⟨rfl,O',(Kv.aI hb).trans k1,k2⟩
end
end
end Go.Proofs.YtdkpkpgpphkljaaGreatDoor
