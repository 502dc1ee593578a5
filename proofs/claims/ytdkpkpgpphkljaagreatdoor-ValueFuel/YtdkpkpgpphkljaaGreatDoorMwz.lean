/- Package value: bodies are made. -/
import Derived.Test.YtdkpkpgpphkljaaGreatDoorMwu
import Derived.Test.YtdkpkpgpphkljaaGreatDoorVt
namespace Go.Proofs.YtdkpkpgpphkljaaGreatDoor
set_option maxRecDepth 100000
set_option maxHeartbeats 4000000
open Tryz
open Go.RowKit
open E (St Kn comp comps rq sM jk jO fU kU jT)
open X (Nm Ex)
variable{n cap b:Nat}{l:List St}{sa:Option Addr}{W w3:World}
variable{β:Nat}
theorem U_{P:Program}{ops:Array Oper}{Q:Exit→Act→World→Prop}{S:World→Prop}{z i k:Nat}{o u:Oper}{d:Array Bool}{a:Act}{w:World}(hr:Region.ready .any ops d=[i,k])(ho:ops[i]?=some o)(hu:ops[k]?=some u)
  (h:∀ K:Act→World→Prop,Hid (∀ a' w',(i≠z→S w')→((i≠z→S w')→iQ P ops Q S z n (d.setIfInBounds i true) a' w')→K a' w')→if Region.wanted o (yielded ops a.tmps)=true then Oper.wp P o a w K Q else K (a.put o.dst undef) w)
  (h':∀ K:Act→World→Prop,Hid (∀ a' w',(k≠z→S w')→((k≠z→S w')→iQ P ops Q S z n (d.setIfInBounds k true) a' w')→K a' w')→if Region.wanted u (yielded ops a.tmps)=true then Oper.wp P u a w K Q else K (a.put u.dst undef) w):iQ P ops Q S z (n+1) d a w:=by
 refine⟨fun h0=>(by rw[hr] at h0;cases h0),fun j hj=>?_⟩;rw[hr] at hj;rcases cK.1 hj with rfl|hj
 ·exact wpOp_step ho (fun K' hK=>h K' (fun a' w' h1 h2=>hK a' w' ⟨h1,h2 h1⟩))
 ·obtain rfl:j=k:=by simpa using hj
  exact wpOp_step hu (fun K' hK=>h' K' (fun a' w' h1 h2=>hK a' w' ⟨h1,h2 h1⟩))
def pW(ps:Option (List Nm))(ns:List (List Nm)):List (List Nm):=match ps with
 | none=>ns
 | some l=>l::ns
def Jq(ps:Option (List Nm)):Nat:=match ps with
 | none=>0
 | some l=>l.length
theorem pV.less{w:World}{O O':Nat→Prop}(hO:∀ q,O' q→O q){T:Int × Int→Nat}{v:Value}{c:List St}(h:pV β w O T v c):pV β w O' T v c:=by
 obtain⟨ao,cap,vs,e,h1,h2,h3,h4⟩:=h.ex;exact⟨ao,cap,vs,e,h1,h2,fun j hj=>(by obtain⟨g,cc,f,e,h1,h2⟩:=h3 j hj;exact⟨g,cc,f,e,fun e'=>h1 (hO _ e'),h2⟩),fun j s hs=>(h4 j s hs).less hO⟩
section
variable{k:Kn}{T:Int × Int→Nat}{lo hi pb:Nat}{w0 w w':World}{Oe:Nat→Prop}{kb f:Nat}{ns:List (List Nm)}{c:List (Option St)}{nv sv:Value}{cs:List Value}
theorem Mk.cd(h:Mk β w0 w Oe T kb pb f ns (l.map some) nv sv cs)(hl:0<l.length):pV β w Oe T sv l:=by
 have hr:=h.row;have hst:=h.st;rw[eG] at hr;rcases hr.2 with ⟨-,e⟩|⟨g,cap,cur,rfl,hg0,hg,h1,h2,h3,h4⟩
 ·omega
 ·have hno:¬ Oe g:=fun e=>by have:=h.oe g e;omega
  refine⟨some ⟨g,0,none⟩,cap,fun j=>cs.getD j .nilIface,rfl,h1,h2,fun j hj=>⟨g,cur,(0,0),rfl,hno,hg,?_⟩,fun j s hs=>?_⟩
  ·rw[hr.cellAt j (by omega),aC (by have:=hr.1;omega)]
   simp[List.getD,aC (show j<cs.length by have:=hr.1;omega)]
  ·obtain⟨u,h5,h6⟩:=hst j (some s) (by rw[mQ,hs];rfl)
   have:cs.getD j .nilIface=u:=by simp[List.getD,h5]
   dsimp only;rw[this];exact jP.less (fun q e=>.inl e) h6
theorem Mk.made(nv:Value)(hn:kz w nv ns)(ho:∀ q,Oe q→q<w.heap.size)(hl:ns.length≤1073741824):Mk β w (w.alloc (.cells #[.pointer (some ⟨pb,0,none⟩),.int .i64 f,nv,.slice none 0 0] 182)) Oe T w.heap.size pb f ns [] nv (.slice none 0 0) [] :=
 ⟨aB w _,hn.grown (bQ w _),bY _ _ _ _,(fun j s h=>(by cases h)),bQ w _,aj _,ho,hl⟩
theorem Mk.aL9(nv:Value)(hn:kz w nv ns)(ho:∀ q,Oe q→q<w.heap.size)(hl:ns.length<1073741824){ao:Option Addr}(l:List Nm)(hc:l.length≤cap∧cap≤maxLen)(hr:∀(j:Nat) (nm:Nm),l[j]?=some nm→∃ g c f,ao=some ⟨g,0,none⟩∧w.heap[g]?=some (.cells c 66 f)∧w.cell? ⟨g,j*2,none⟩=some (.string (ba nm.1))∧w.cell? ⟨g,j*2+1,none⟩=some (.int .i64 nm.2)) :
  Mk β w ((w.alloc (.cells #[.pointer (some ⟨pb,0,none⟩),.int .i64 f,.pointer (some ⟨w.heap.size+1,0,none⟩),.slice none 0 0] 182)).alloc (.cells #[.slice ao l.length cap,nv] 187)) Oe T w.heap.size pb f (l::ns) [] (.pointer (some ⟨w.heap.size+1,0,none⟩)) (.slice none 0 0) []:=by
 have hs1:(w.alloc (.cells #[.pointer (some ⟨pb,0,none⟩),.int .i64 f,.pointer (some ⟨w.heap.size+1,0,none⟩),.slice none 0 0] 182)).heap.size=w.heap.size+1:=by simp
 have hb:Below w.heap.size w ((w.alloc (.cells #[.pointer (some ⟨pb,0,none⟩),.int .i64 f,.pointer (some ⟨w.heap.size+1,0,none⟩),.slice none 0 0] 182)).alloc (.cells #[.slice ao l.length cap,nv] 187)):=(bQ w _).alloc (by rw[hs1];omega) _;refine⟨(dN _ _ (by rw[hs1];omega)).trans (aB w _),?_,bY _ _ _ _,(fun j s h=>(by cases h)),hb,aj _,ho,by simp;omega⟩;refine .cons _ ao cap l nv ns ?_ hc (fun j nm hj=>?_) (hn.grown hb)
 ·have:=aB (w.alloc (.cells #[.pointer (some ⟨pb,0,none⟩),.int .i64 f,.pointer (some ⟨w.heap.size+1,0,none⟩),.slice none 0 0] 182)) (.cells #[.slice ao l.length cap,nv] 187)
  rw[hs1] at this;exact this
 ·obtain⟨g,c2,f2,e,h3,h4,h5⟩:=hr j nm hj
  have h6:=(hb.block g (aP h3)).trans h3;exact⟨g,c2,f2,e,h6,(aN (a:=⟨g,j*2,none⟩) (h6.trans h3.symm)).trans h4,(aN (a:=⟨g,j*2+1,none⟩) (h6.trans h3.symm)).trans h5⟩
def BC(β:Nat)(k:Kn)(T:Int × Int→Nat)(lo hi pb:Nat)(e:Ex):Prop:=∀(w:World) (Oe:Nat→Prop) (f:Nat) (ns:List (List Nm)) (pv u nv:Value) (ps:Option (List Nm)),TM β k T hi pb w→gJ w lo hi u e→o7 w lo hi pv ps→kz w nv ns→(∀ q,Oe q→q<w.heap.size)→qL e→Jq ps≤1073741824→jk e≤1073741819→ns.length+1+jk e≤1073741824 →
 Calls prog 37 #[.pointer (some ⟨pb,0,none⟩),.int .i64 f,pv,u,nv] w fun en w'=>∃ sa cap,en=.returned (.agg #[.int .i64 (Jq ps:Nat),.slice sa (comp k f (pW ps ns) 0 e).length cap])∧Hid (Below w.heap.size w w'∧pV β w' Oe T (.slice sa (comp k f (pW ps ns) 0 e).length cap) (comp k f (pW ps ns) 0 e))
theorem F4{fn:Func}{t:Tmp}(h:fn.results=#[.cell t 140])(tmps:Array Value)(W:World){m:Int}(ht:tmps[t]?.getD undef=.pointer (some ⟨b,0,none⟩))(hb:W.heap[b]?=some (.cells #[.int .i64 m,.slice sa n cap] 140 (0,0))) :
  (results fn tmps).run prog W=.ok (.agg #[.int .i64 m,.slice sa n cap]) W:=by
 have m0:=ai W _ 0 _ _ _ hb;have m1:=ai W _ 1 _ _ _ hb;simp[results,h,go_sem,ht,m0,m1]
theorem F5(Oe:Nat→Prop)(n:Int)(hl:0<l.length)(hW:W=w.alloc (.cells #[.int .i64 0,.slice none 0 0] 140))(h:oF β W w3 (fun q=>Oe q∨q=w.heap.size) T kb pb f ns (l.map some)) :
  ∃ sa cap,w3.cell? ⟨kb,3,none⟩=some (.slice sa l.length cap)∧w3.heap[w.heap.size]?=some (.cells #[.int .i64 0,.slice none 0 0] 140 (0,0))∧kb≠w.heap.size∧Hid (Below w.heap.size w ((w3.setCell ⟨w.heap.size,0,none⟩ (.int .i64 n)).setCell ⟨w.heap.size,1,none⟩ (.slice sa l.length cap))∧pV β ((w3.setCell ⟨w.heap.size,0,none⟩ (.int .i64 n)).setCell ⟨w.heap.size,1,none⟩ (.slice sa l.length cap)) Oe T (.slice sa l.length cap) l):=by
 obtain⟨nv,sv,cs,h⟩:=h;obtain⟨g,cap,rfl,h1,h2⟩:=h.slice (by simpa using hl);have hcd:=h.cd hl;rw[eG] at h hcd;obtain⟨-,-,-,q3⟩:=h.cell;have hs:W.heap.size=w.heap.size+1:=by subst hW;simp
 have hbb:w3.heap[w.heap.size]?=some (.cells #[.int .i64 0,.slice none 0 0] 140 (0,0)):=by
  rw[h.lJ.block w.heap.size (by omega),hW];exact aB w _
 have hkb:=h.kl;refine⟨some ⟨g,0,none⟩,cap,q3,hbb,by omega,?_,?_⟩
 ·have hb1:Below w.heap.size w W:=by rw[hW];exact bQ w _
  exact((hb1.trans (h.lJ.mono (by omega))).setCell (p:=⟨w.heap.size,0,none⟩) (aj _) _).setCell (p:=⟨w.heap.size,1,none⟩) (aj _) _
 ·have kp:Kp (fun q=>q=w.heap.size) w3 ((w3.setCell ⟨w.heap.size,0,none⟩ (.int .i64 n)).setCell ⟨w.heap.size,1,none⟩ (.slice (some ⟨g,0,none⟩) l.length cap)):=On.set (On.set (Kp.refl _ w3) 0 _) 1 _
  have kv:Kv β (fun q=>Oe q∨q=w.heap.size) (fun q=>Oe q∨q=w.heap.size) w3 ((w3.setCell ⟨w.heap.size,0,none⟩ (.int .i64 n)).setCell ⟨w.heap.size,1,none⟩ (.slice (some ⟨g,0,none⟩) l.length cap)) :=
   ⟨kp.mono (fun q _ e=>.inl (.inr e)),fun b x hx=>hx.keep (fun b c hb=>kp.heap hb (fun e=>by subst e;exact d_ hb hbb (by decide))),fun _ _ h=>h⟩
  exact(hcd.keep kv).less (fun q e=>.inl e)
theorem F6(e:Ex)(he:EC β k T lo hi pb e):BC β k T lo hi pb e:=by
 intro w Oe f ns pv u nv ps hS hE hP hA hO hL hn hz hnl;have hba:=bQ w (.cells #[.int .i64 0,.slice none 0 0] 140);have hs1:(w.alloc (.cells #[.int .i64 0,.slice none 0 0] 140)).heap.size=w.heap.size+1:=by simp
 have hS1:=hS.below hba;have hE1:gJ (w.alloc (.cells #[.int .i64 0,.slice none 0 0] 140)) lo hi u e:=hE.keep (Kp.aI hba (fun _=>False)) (fun _ _ _=>id);have hA1:=hA.grown hba;have YN:∀ q,(Oe q∨q=w.heap.size)→q<(w.alloc (.cells #[.int .i64 0,.slice none 0 0] 140)).heap.size:=fun q e=>by
  rw[hs1];rcases e with e|e
  ·have:=hO q e;omega
  ·omega
 obtain⟨uty,uv,rfl⟩:=hE.iface;obtain⟨pn,rfl⟩:=hA.ptr;rcases hP with ⟨rfl,rfl⟩|⟨l,qb,rfl,rfl,hp⟩
 ·have hm:=Mk.made (β:=β) (T:=T) (pb:=pb) (f:=f) (.pointer pn) hA1 YN (by omega)
  have HX:=au (he _ _ _ _ _ _ _ _ hS1 hE1 ⟨_,_,_,hm⟩ hL (by simp;omega) (by omega));rw[hs1,bT,List.length_nil] at HX;have hpos:=jT k f e ns 0;have HE:Hid (∀ w3,oF β (w.alloc (.cells #[.int .i64 0,.slice none 0 0] 140)) w3 (fun q=>Oe q∨q=w.heap.size) T (w.heap.size+1) pb f ns ((comp k f ns 0 e).map some)→_):=fun w3 h3=>F5 Oe 0 hpos rfl h3
  clear hS hE hA hO hL hS1 hE1 hA1 YN hm hba hs1 he hpos;show Calls _ _ _ _ (fun en w'=>∃ sa cap,en=.returned (.agg #[.int .i64 0,.slice sa (comp k f ns 0 e).length cap])∧Hid (Below w.heap.size w w'∧pV β w' Oe T (.slice sa (comp k f ns 0 e).length cap) (comp k f ns 0 e)));go_enter func37,ntmps37;go_wp2_with fail
  refine(HX.o).mono ?_;rintro en w3 ⟨rfl,H3⟩;obtain⟨sa,cap,q3,q4,q5,H4⟩:=(HE.o) w3 H3.o;have HQ4:=au q4;have fz:∀ i,w3.frozen? ⟨w.heap.size,i,none⟩=false:=fun i=>by simp[World.frozen?,q4]
  have hlb:=aP q4;have d0:=ai w3 _ 0 _ _ _ q4;have d1:=ai w3 _ 1 _ _ _ q4;clear HX HE H3 q4;go_wp2_with fail
  exact bI (F4 rfl _ _ (b:=w.heap.size) rfl (nM HQ4.o)) rfl ⟨_,_,rfl,H4⟩
 ·obtain⟨ao,bB8,p1,p2,p3,p4⟩:=hp.ex
  have c0:=ai w _ 0 _ _ _ p1;have hlq:=aP p1;have hm:=Mk.aL9 (β:=β) (T:=T) (pb:=pb) (f:=f) (.pointer pn) hA1 YN (by omega) l ⟨p2,p3⟩ (fun j nm hj=>by
   obtain⟨g,e,-,-,h4,h5,c2,f2,h3⟩:=p4 j nm hj;have h6:=(hba.block g (aP h3)).trans h3;exact⟨g,c2,f2,e,h6,(aN (a:=⟨g,j*2,none⟩) (h6.trans h3.symm)).trans h4,(aN (a:=⟨g,j*2+1,none⟩) (h6.trans h3.symm)).trans h5⟩)
  have HX:=au (he _ _ _ _ _ _ _ _ hS1 hE1 ⟨_,_,_,hm⟩ hL (by simp;omega) (by simp;omega));rw[hs1,bT,List.length_nil] at HX;have hpos:=jT k f e (l::ns) 0;have HE:Hid (∀ w3,oF β (w.alloc (.cells #[.int .i64 0,.slice none 0 0] 140)) w3 (fun q=>Oe q∨q=w.heap.size) T (w.heap.size+1) pb f (l::ns) ((comp k f (l::ns) 0 e).map some)→_):=fun w3 h3=>F5 Oe (l.length:Nat) hpos rfl h3
  have c0':∀ o1 o2,(((w.alloc (.cells #[.int .i64 0,.slice none 0 0] 140)).alloc o1).alloc o2).cell? ⟨qb,0,none⟩=some (.slice ao l.length bB8):=fun o1 o2=>Lib.cell?_alloc_some _ (Lib.cell?_alloc_some _ (Lib.cell?_alloc_some _ c0))
  unfold maxLen at p3;have cD6:l.length≤1073741824:=hn;clear hS hE hA hO hL hS1 hE1 hA1 YN hm hba hs1 he hpos p4 p1 hp hn;show Calls _ _ _ _ (fun en w'=>∃ sa cap,en=.returned (.agg #[.int .i64 l.length,.slice sa (comp k f (l::ns) 0 e).length cap])∧Hid (Below w.heap.size w w'∧pV β w' Oe T (.slice sa (comp k f (l::ns) 0 e).length cap) (comp k f (l::ns) 0 e)));go_enter func37,ntmps37;go_wp2_with fail
  refine(HX.o).mono ?_;rintro en w3 ⟨rfl,H3⟩;obtain⟨sa,cap,q3,q4,q5,H4⟩:=(HE.o) w3 H3.o;have HQ4:=au q4;have fz:∀ i,w3.frozen? ⟨w.heap.size,i,none⟩=false:=fun i=>by simp[World.frozen?,q4]
  have hlb:=aP q4;have d0:=ai w3 _ 0 _ _ _ q4;have d1:=ai w3 _ 1 _ _ _ q4;clear HX HE H3 q4 c0 c0';go_wp2_with fail
  exact bI (F4 rfl _ _ (b:=w.heap.size) rfl (nM HQ4.o)) rfl ⟨_,_,rfl,H4⟩
def EnC(β:Nat)(T:Int × Int→Nat)(w:World)(b:Nat)(W:World)(s:St):Prop:=Below w.heap.size w W∧∀ O,(∀ q,O q→q<w.heap.size)→jP β W O T (.iface 237 (.agg #[.pointer (some ⟨b,0,none⟩)])) s
theorem QE{O:Nat→Prop}(hn:n≤1073741824)(hb:W.heap[b]?=some (.cells #[.int .i64 n,.slice sa l.length cap] 140 (0,0)))(ho:¬ O b)(h:pV β W O T (.slice sa l.length cap) l):jP β W O T (.iface 237 (.agg #[.pointer (some ⟨b,0,none⟩)])) (.enc n l):=by
 obtain⟨ao,cap',vs,e,h1,h2,h3,h4⟩:=h.ex;injection e with e1 e2 e3;subst e1 e3;exact .enc n b l sa cap vs hb ho hn ⟨h1,h2⟩ h3 h4
theorem aM1{w2:World}(hn:n≤1073741824)(hb:Below w.heap.size w w2)(h:pV β w2 (fun q=>q<w.heap.size) T (.slice sa l.length cap) l):EnC β T w w2.heap.size (w2.alloc (.cells #[.int .i64 n,.slice sa l.length cap] 140)) (.enc n l):=by
 have hb2:Below w2.heap.size w2 (w2.alloc (.cells #[.int .i64 n,.slice sa l.length cap] 140)):=bQ w2 _;refine⟨hb.trans (hb2.mono hb.size),fun O ho=>QE hn (aB w2 _) (fun e=>?_) ((h.less ho).keep (Kv.aI hb2))⟩;have:=ho _ e;have:=hb.size;omega
theorem aM2(hn:n≤1073741824)(hb:Below (w.alloc (.cells #[.int .i64 0,.slice none 0 0] 140)).heap.size (w.alloc (.cells #[.int .i64 0,.slice none 0 0] 140)) w3)(h:pV β w3 (fun q=>q<(w.alloc (.cells #[.int .i64 0,.slice none 0 0] 140)).heap.size) T (.slice sa l.length cap) l):EnC β T w w.heap.size ((w3.setCell ⟨w.heap.size,0,none⟩ (.int .i64 n)).setCell ⟨w.heap.size,1,none⟩ (.slice sa l.length cap)) (.enc n l):=by
 have hs1:(w.alloc (.cells #[.int .i64 0,.slice none 0 0] 140)).heap.size=w.heap.size+1:=by simp
 have hbb:w3.heap[w.heap.size]?=some (.cells #[.int .i64 0,.slice none 0 0] 140 (0,0)):=by
  rw[hb.block w.heap.size (by omega)];exact aB w _
 have kp:Kp (fun q=>q=w.heap.size) w3 ((w3.setCell ⟨w.heap.size,0,none⟩ (.int .i64 n)).setCell ⟨w.heap.size,1,none⟩ (.slice sa l.length cap)):=On.set (On.set (Kp.refl _ w3) 0 _) 1 _;have kv:Kv β (fun q=>q<(w.alloc (.cells #[.int .i64 0,.slice none 0 0] 140)).heap.size) (fun q=>q<(w.alloc (.cells #[.int .i64 0,.slice none 0 0] 140)).heap.size) w3 ((w3.setCell ⟨w.heap.size,0,none⟩ (.int .i64 n)).setCell ⟨w.heap.size,1,none⟩ (.slice sa l.length cap)) :=
  ⟨kp.mono (fun q _ e=>.inl (by rw[hs1];omega)),fun b x hx=>hx.keep (fun b c hb=>kp.heap hb (fun e=>by subst e;exact d_ hb hbb (by decide))),fun _ _ h=>h⟩
 refine⟨((((bQ w (.cells #[.int .i64 0,.slice none 0 0] 140)).trans (hb.mono (by omega))).setCell (p:=⟨w.heap.size,0,none⟩) (aj _) _).setCell (p:=⟨w.heap.size,1,none⟩) (aj _) _),fun O ho=>QE hn (nM hbb) (fun e=>?_) ((h.keep kv).less (fun q e=>by have:=ho q e;omega))⟩;have:=ho _ e;omega
theorem YO(ps:List Nm)(e:Ex)(h1:BC β k T lo hi pb e):EC β k T lo hi pb (.fn ps e):=by
 intro w0 w Oe kb f ns c u hS hE hM hL hz1 hz2;rw[qL] at hL;rw[jk] at hz1 hz2;cases hE with
 | fn b qb _ v _ hb h hp g1 =>
  have hg:=hM.get h;have d3:=ai w _ 3 _ _ _ hg;have d4:=ai w _ 4 _ _ _ hg;have hlb:=aP hg;have hkp:Kp (fun _=>False) w0 w:=Kp.aI hM.lJ _;have hSw:=hS.below hM.lJ;have hEw:gJ w lo hi v e:=g1.keep hkp (fun _ _ _=>id);have hPw:o7 w lo hi (.pointer (some ⟨qb,0,none⟩)) (some ps):=o7.keep (.inr ⟨ps,qb,rfl,rfl,hp⟩) hkp (fun _ _ _=>id);have HM:=au hM;obtain⟨nv,sv,cs,hm⟩:=hM;obtain⟨q0,q1,q2,-⟩:=hm.cell;have hlk:=aP hm.blk;have HB:Hid (∀ wx,Below w.heap.size w wx→Calls prog 37 #[.pointer (some ⟨pb,0,none⟩),.int .i64 f,.pointer (some ⟨qb,0,none⟩),v,nv] wx fun en w'=>∃ sa cap,en=.returned (.agg #[.int .i64 ps.length,.slice sa (comp k f (ps::ns) 0 e).length cap])∧Hid (Below wx.heap.size wx w'∧pV β w' (fun q=>q<wx.heap.size) T (.slice sa (comp k f (ps::ns) 0 e).length cap) (comp k f (ps::ns) 0 e))):=fun wx hx=>h1 wx (fun q=>q<wx.heap.size) f ns (.pointer (some ⟨qb,0,none⟩)) v nv (some ps) (hSw.below hx) (hEw.keep (Kp.aI hx (fun _=>False)) (fun _ _ _=>id)) (o7.keep hPw (Kp.aI hx (fun _=>False)) (fun _ _ _=>id)) (hm.nss.grown hx) (fun _ h=>h) hL.2 hL.1 (by omega) (by omega)
  have HR:Hid (comp k f ns c.length (.fn ps e)=[.enc ps.length (comp k f (ps::ns) 0 e)]):=by show _=_;rw[comp]
  have hcl:c.length<1073741823:=by omega
  have hpl:=hL.1;obtain⟨uty,uv,rfl⟩:=g1.iface;obtain⟨pn,rfl⟩:=hm.nss.ptr;have HG:Hid (∀ wx,Below w.heap.size w wx→wx.cell? ⟨kb,0,none⟩=some (.pointer (some ⟨pb,0,none⟩))∧wx.cell? ⟨kb,1,none⟩=some (.int .i64 f)∧wx.cell? ⟨b,3,none⟩=some (.pointer (some ⟨qb,0,none⟩))∧wx.cell? ⟨b,4,none⟩=some (.iface uty (.pointer (some ⟨uv,0,none⟩)))∧wx.cell? ⟨kb,2,none⟩=some (.pointer pn)):=fun wx hx=>⟨(aN (a:=⟨kb,0,none⟩) (hx.block kb hlk)).trans q0,(aN (a:=⟨kb,1,none⟩) (hx.block kb hlk)).trans q1,(aN (a:=⟨b,3,none⟩) (hx.block b hlb)).trans d3,(aN (a:=⟨b,4,none⟩) (hx.block b hlb)).trans d4,(aN (a:=⟨kb,2,none⟩) (hx.block kb hlk)).trans q2⟩
  have hS1:=(HG.o) w.drew (ay _ w).drew;have ha0:∀ wx,(Instr.typeAssert (.iface 234 (.pointer (some ⟨b,0,none⟩))) 72 223 true).run prog wx=.ok (.tuple #[.pointer none,.bool false]) wx:=fun _=>by kernel_rfl
  have ha1:∀ wx,(Instr.typeAssert (.iface 234 (.pointer (some ⟨b,0,none⟩))) 72 228 true).run prog wx=.ok (.tuple #[.pointer none,.bool false]) wx:=fun _=>by kernel_rfl
  have ha2:∀ wx,(Instr.typeAssert (.iface 234 (.pointer (some ⟨b,0,none⟩))) 72 230 true).run prog wx=.ok (.tuple #[.pointer none,.bool false]) wx:=fun _=>by kernel_rfl
  have YB:∀ wx,(Instr.typeAssert (.iface 234 (.pointer (some ⟨b,0,none⟩))) 72 232 true).run prog wx=.ok (.tuple #[.pointer none,.bool false]) wx:=fun _=>by kernel_rfl
  have ha4:∀ wx,(Instr.typeAssert (.iface 234 (.pointer (some ⟨b,0,none⟩))) 72 234 true).run prog wx=.ok (.tuple #[.pointer (some ⟨b,0,none⟩),.bool true]) wx:=fun _=>by kernel_rfl
  clear hS hL h hz1 hz2 hb g1 hp hg d3 d4 hlb hkp hSw hEw hPw hm q0 q1 q2 hlk h1;go_enter func65,ntmps65;go_wp2_with fail
  refine bH (S:=fun w'=>w'.cell? ⟨kb,0,none⟩=some (.pointer (some ⟨pb,0,none⟩))∧w'.cell? ⟨kb,1,none⟩=some (.int .i64 f)∧w'.cell? ⟨b,3,none⟩=some (.pointer (some ⟨qb,0,none⟩))∧w'.cell? ⟨b,4,none⟩=some (.iface uty (.pointer (some ⟨uv,0,none⟩)))∧w'.cell? ⟨kb,2,none⟩=some (.pointer pn)) (z:=23) (by kernel_rfl) ?_;have hS:w.drew.cell? ⟨kb,0,none⟩=some (.pointer (some ⟨pb,0,none⟩))∧w.drew.cell? ⟨kb,1,none⟩=some (.int .i64 f)∧w.drew.cell? ⟨b,3,none⟩=some (.pointer (some ⟨qb,0,none⟩))∧w.drew.cell? ⟨b,4,none⟩=some (.iface uty (.pointer (some ⟨uv,0,none⟩)))∧w.drew.cell? ⟨kb,2,none⟩=some (.pointer pn):=hS1;clear hS1;iterate 20(refine ou hS ?_;simp only[Act.put,ax,aD,aF])
  refine U_ (i:=20) (k:=21) (by kernel_rfl) rfl rfl (fun K hK=>?_) (fun K hK=>?_)
  ·have HC:=au ((HB.o) w.drew (ay _ w).drew)
   go_simp;refine(HC.o).mono ?_;rintro en w2 ⟨sa,cap,rfl,H2⟩;have hB2:Below w.heap.size w w2:=(Below.refl _ w).drew.trans (H2.o).1;have hS2:=(HG.o) w2 hB2;dsimp only;refine hK.o _ _ (fun _=>hS2) (fun _=>?_);clear hK K hS HC HB;refine bD 21 fun K hK=>?_;go_simp;refine hK.o _ _ (fun _=>(HG.o) _ (hB2.trans ((bQ w2 _).mono hB2.size))) (fun _=>?_);clear hK K;refine bD 22 fun K hK=>?_;go_simp;refine hK.o _ _ (fun _=>(HG.o) _ (hB2.trans ((bQ w2 _).mono hB2.size))) (fun _=>fB ?_);clear hK K hS2;have yU:=au (aM1 hpl hB2 (H2.o).2);clear hB2 H2 HG;generalize w2.alloc (.cells #[.int .i64 ps.length,.slice sa (comp k f (ps::ns) 0 e).length cap] 140)=w4 at *;have HA:=au (jU (.iface 237 (.agg #[.pointer (some ⟨w2.heap.size,0,none⟩)])) (.enc ps.length (comp k f (ps::ns) 0 e)) HM.o (yU.o).1 ⟨_,_,rfl⟩ (yU.o).2 hcl);clear yU;go_wp2_with fail
   refine(HA.o).mono ?_;rintro en w5 ⟨rfl,H5⟩;clear HA HM;go_wp2_with fail
   go_end0;refine⟨rfl,?_⟩;rw[HR.o];exact H5.o
  ·go_simp
   refine hK.o _ _ (fun _=>(HG.o) _ (by repeat(first|exact ay _ _|apply gW|refine fA (p:=⟨_,_,none⟩) ?_ (by simp) _|refine fZ ?_ (by simp) _))) (fun _=>?_);clear hK K hS;refine bD 20 fun K hK=>?_;go_simp;refine((HB.o) _ (by repeat(first|exact ay _ _|apply gW|refine fA (p:=⟨_,_,none⟩) ?_ (by simp) _|refine fZ ?_ (by simp) _))).mono ?_;rintro en w3 ⟨sa,cap,rfl,H2⟩;have hBa:Below (w.alloc (.cells #[.int .i64 0,.slice none 0 0] 140)).heap.size (w.alloc (.cells #[.int .i64 0,.slice none 0 0] 140)) w3:=(ay _ (w.alloc (.cells #[.int .i64 0,.slice none 0 0] 140))).drew.trans (H2.o).1;have hs1:(w.alloc (.cells #[.int .i64 0,.slice none 0 0] 140)).heap.size=w.heap.size+1:=by simp
   have hbb:w3.heap[w.heap.size]?=some (.cells #[.int .i64 0,.slice none 0 0] 140 (0,0)):=by
    rw[hBa.block w.heap.size (by omega)];exact aB w _
   have hB2:Below w.heap.size w w3:=(bQ w (.cells #[.int .i64 0,.slice none 0 0] 140)).trans (hBa.mono (by omega));have yU:=au (aM2 hpl hBa (H2.o).2);have hS2:=(HG.o) w3 hB2;have fz:∀ i,w3.frozen? ⟨w.heap.size,i,none⟩=false:=fun i=>by simp[World.frozen?,hbb]
   have e0:=cell_of_row w3 _ 0 _ _ _ hbb;have e1:=cell_of_row w3 _ 1 _ _ _ hbb;clear hBa hs1 hbb H2 HB;dsimp only;refine hK.o _ _ (fun _=>hS2) (fun _=>?_);clear hK K;refine bD 22 fun K hK=>?_;go_simp;refine hK.o _ _ (fun _=>(HG.o) _ ((hB2.setCell (p:=⟨w.heap.size,0,none⟩) (Nat.le_refl _) _).setCell (p:=⟨w.heap.size,1,none⟩) (Nat.le_refl _) _)) (fun _=>fB ?_);clear hK K hS2 hB2 HG fz e0 e1;generalize (w3.setCell ⟨w.heap.size,0,none⟩ (.int .i64 ps.length)).setCell ⟨w.heap.size,1,none⟩ (.slice sa (comp k f (ps::ns) 0 e).length cap)=w4 at *;have HA:=au (jU (.iface 237 (.agg #[.pointer (some ⟨w.heap.size,0,none⟩)])) (.enc ps.length (comp k f (ps::ns) 0 e)) HM.o (yU.o).1 ⟨_,_,rfl⟩ (yU.o).2 hcl);clear yU;go_wp2_with fail
   refine(HA.o).mono ?_;rintro en w5 ⟨rfl,H5⟩;clear HA HM;go_wp2_with fail
   go_end0;refine⟨rfl,?_⟩;rw[HR.o];exact H5.o
theorem ng:∀ e:Ex,EC β k T lo hi pb e
 | .lit d x=>YA d x
 | .hole i=>U6 i
 | .missing=>Jm
 | .var n=>YI n
 | .iJ n v b=>YM n v b (ng v) (ng b)
 | .ite a b c=>aL8 a b c (ng a) (ng b) (ng c)
 | .fn ps b=>YO ps b (F6 b (ng b))
 | .bin l x r=>YD l x r (ng l) (ng r)
 | .call g l=>U8 g l (ng g) (FW l (fun e _=>ng e))
 | .list l=>U7 l (FW l (fun e _=>ng e))
 | .group e=>Qw e (ng e)
end
end Go.Proofs.YtdkpkpgpphkljaaGreatDoor
