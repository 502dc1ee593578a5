/- The tree of a text,in memory. -/
import Derived.Test.YtdkpkpgpphkljaaGreatDoorXq
import Derived.Test.YtdkpkpgpphkljaaGreatDoorOb
namespace Go.Proofs.YtdkpkpgpphkljaaGreatDoor
set_option maxRecDepth 100000
set_option maxHeartbeats 4000000
open Tryz
open Go.RowKit Go.Shelf
open M
theorem SX(s:ByteArray):(toks 0 (bs s)).length≤s.size:=by
 have hl:=sw _ 0 (bs s) (aj _);rw[eZ] at hl;exact hl
theorem SY(s:ByteArray)(hs:s.size≤1073741823)(hl:(toks 0 (bs s)).length≤268435456):kJ s (toks 0 (bs s)):=by
 refine⟨hs,hl,fun t ht=>?_,X.yS (bs s)⟩;have h1:=TW _ 0 (bs s) (aj _) t ht;rw[eZ] at h1;have h2:=X.yS (bs s) (X.CW (bs s) t) (iT.2 ⟨t,ht,rfl⟩);exact⟨by omega,h2.2.2.2.1,h2.2.2.2.2.1⟩
theorem EF(b:Nat)(v:Value)(s:ByteArray)(w:World)(h:Om w b v s)(hs:s.size≤1073741823)(hl:(toks 0 (bs s)).length≤268435456) :
  Calls prog 32 #[.pointer (some ⟨b,0,none⟩)] w fun e w'=>∃ rb tv,e=.returned (.pointer (some ⟨rb,0,none⟩))∧Hid (pX w' rb s (toks 0 (bs s)) tv 0 0∧w.heap.size≤rb∧(∀ q,tv.ownBlock=some q→w.heap.size≤q∧q<w'.heap.size)∧Below w.heap.size w w'):=by
 have H:=au h;have hS:=SY s hs hl;clear h;go_enter func32,ntmps32;go_wp2_with fail
 refine(QW b v s w H.o).mono ?_;rintro e w1 ⟨rfl,k1⟩;have HD1:=au ((H.o).below k1);have K1:=au k1;clear k1;go_wp2_with fail
 refine(BB b v s w1 HD1.o (by omega)).mono ?_;rintro e w2 ⟨tv,rfl,O2,k2⟩;have K2:=au ((K1.o).trans (k2.mono (K1.o).size));have HT2:=au (yJ.DJ O2.o);have HG2:=au (dV O2.o);have hz1:=(K1.o).size;have hz2:=k2.size;clear k2 O2;obtain⟨ao,cap,rfl,-⟩:=HT2.o;have hraw:jl (w2.alloc (Obj.cells #[.string s,.slice ao (toks 0 (bs s)).length cap,.int .i64 0,.int .i64 0,.int .i64 0,.string ⟨#[]⟩,.int .i64 0] 175)) w2.heap.size s (.slice ao (toks 0 (bs s)).length cap) ((0:Nat):Int) 0 0 ⟨#[]⟩ ((0:Nat):Int):=aB w2 _;have kA:Below w2.heap.size w2 (w2.alloc (Obj.cells #[.string s,.slice ao (toks 0 (bs s)).length cap,.int .i64 0,.int .i64 0,.int .i64 0,.string ⟨#[]⟩,.int .i64 0] 175)):=(ay _ w2).alloc (aj _) _;have HR:=au hraw;have oM:=au kA;clear hraw kA;go_wp2_with fail
 refine(xM w2.heap.size s ⟨#[]⟩ (toks 0 (bs s)) (.slice ao (toks 0 (bs s)).length cap) 0 0 0 0 _ hS HR.o ((HT2.o).below oM.o) (aX _) (fun k hk e=>by have:=((HG2.o) k hk).2;omega)).mono ?_;rintro e w3 ⟨rfl,r3,k3⟩;have HR3:=au r3;have K3:=au (((K2.o).trans ((oM.o).mono (K2.o).size)).trans (k3.below (by simp;have:=(K2.o).size;omega) (K2.o).size));have hz3:=k3.size;clear r3 k3;go_wp2_with fail
 go_ret;exact⟨w2.heap.size,_,rfl,HR3.o,(K2.o).size,fun q hq=>by have:=(HG2.o) q hq;simp at hz3;exact⟨by omega,by omega⟩,K3.o⟩
theorem Wk.grown{w w1:World}{rb:Nat}{s:ByteArray}{L:List Tk}{tv:Value}{a dp B k:Nat}{rv:Value}{vs:List Value}{ps:List X.Part}{D D':Nat→Prop}(h:Wk w rb s L tv a dp B k rv vs ps D)(hk:On rb w w1){a':Nat}(hr:pX w1 rb s L tv a' dp)
  (h1:∀ q,D q→D' q) (h2:∀ q,D' q→D q∨w.heap.size≤q) (h3:∀ q,D' q→q<w1.heap.size):Wk w1 rb s L tv a' dp B k rv vs ps D':=by
 have hm:=h.moved hk hr;have hbl:=h.r_.lt;have hrl:=h.iF.raw.lt;refine⟨hr,hm.r_,hm.len,hm.each.mono h1,h3,⟨fun hd=>?_,fun hd=>?_,h.sep.2.2⟩,fun g hg=>⟨fun hd=>?_,(h.nD g hg).2⟩,fun q hq=>?_⟩
 ·rcases h2 _ hd with e|e
  ·exact h.sep.1 e
  ·omega
 ·rcases h2 _ hd with e|e
  ·exact h.sep.2.1 e
  ·omega
 ·rcases h2 _ hd with e|e
  ·exact(h.nD g hg).1 e
  ·have:=(dV h.r_.row g hg).2;omega
 ·obtain⟨a1,a2,a3,a4⟩:=h.uw q hq
  refine⟨fun hd=>?_,a2,a3,(hm.uw q hq).2.2.2⟩;rcases h2 _ hd with e|e
  ·exact a1 e
  ·omega
namespace X
theorem LF{x:ah}{ts:List Tok}(h:bX x ts=true):(want x ts).2.length<ts.length:=by
 unfold want;rw[aL h];exact fD (aZ h)
theorem rH{f g:R}{ts:List Tok}(hg:bR g)(h:(f ts).2.length<ts.length):(andThen f g ts).2.length<ts.length:=by
 have:=hg.le (f ts).2;show(g (f ts).2).2.length<_;omega
theorem yD(f g:R)(ts:List Tok):(andThen f g ts).2=(g (f ts).2).2:=rfl
theorem Ws{ts:List Tok}(h:bX iN ts=true):(jA ts).2.length<ts.length:=by
 unfold jA;exact rH (bR.aV.andThen ((bR.want _).andThen (bR.aV.andThen ((bR.ite (c:=bX [97,115]) (bR.take.andThen bR.aV) bR.nil).andThen (bR.want _))))) (LF h)
theorem Wt{ts:List Tok}(h:bX kE ts=true):(jr ts).2.length<ts.length:=by
 unfold jr;exact rH (bR.aV.andThen ((bR.ite (c:=bX [40]) bR.params bR.nil).andThen ((bR.want _).andThen ((bR.expr 65).andThen (bR.want _))))) (LF h)
theorem S9{ts:List Tok}(hk:(bJ ts==0)=false)(hs:starts ts=false):(fV ts).2.length<ts.length:=by
 have hn:=jI hk;rw[nG (by rw[hk,hs];rfl)]
 split
 ·exact fD hn
 ·exact rH (fun ts=>bR.fM ts.length ts) (fD hn)
theorem En{ts:List Tok}(hk:(bJ ts==0)=false):(kid ts).2.2.length<ts.length:=by
 have hn:=jI hk;cases hs:starts ts with
 | false =>
  have e:kid ts=(5,fV ts):=by rw[qm,hs,aG (by simp)]
  rw[e];exact S9 hk hs
 | true =>
  cases hu:bX iN (bW ts).2 with
  | true =>
   have e:kid ts=(3,andThen bW jA ts):=by rw[qm,hs,aL rfl,hu,aL rfl]
   have h1:=Ws hu;have h2:=bR.bW.le ts;rw[e];show(andThen bW jA ts).2.length<_;rw[yD];omega
  | false =>
   have e:kid ts=(4,andThen bW jr ts):=by rw[qm,hs,aL rfl,hu,aG (by simp)]
   rw[e];show(andThen bW jr ts).2.length<_;cases hp:bX jN ts with
   | true =>
    have ho:(bW ts).2.length<ts.length:=by unfold bW;rw[aL hp];exact fD hn
    exact rH bR.jr ho
   | false =>
    have ho:bW ts=([],ts):=by unfold bW;rw[aG (by rw[hp];simp)]
    rw[ho] at hu;have hd:bX kE ts=true:=by
     unfold starts at hs;rw[hu,hp] at hs
     simpa using hs
    rw[yD,ho];exact Wt hd
theorem Hr:∀(n:Nat) (ts:List Tok),ts.length≤n→lI n ts=lI ts.length ts:=by
 intro n
 induction n using Nat.strongRecOn with
 | _ n ih =>
  intro ts h;rcases bE ts.length n with hlt|hge
  ·cases n with
   | zero=>omega
   | succ n =>
    cases hm:ts.length with
    | zero =>
     have h0:ts=[]:=aT.1 hm;subst h0;rfl
    | succ m =>
     unfold lI;cases hk:(bJ ts==0) with
     | true=>rfl
     | false =>
      have hl:=En hk;rw[aG (by simp),aG (by simp),ih n (by omega) _ (by omega),ih m (by omega) _ (by omega)]
  ·rw[show n=ts.length by omega]
def gV(ts:List Tok):List Part:=lI ts.length ts
theorem Gw{ts:List Tok}(h:(bJ ts==0)=true):gV ts=ts.map lf:=by
 unfold gV;cases ts.length with
 | zero=>rfl
 | succ m=>unfold lI;rw[aL h]
theorem CQ{ts:List Tok}(h:(bJ ts==0)=false):gV ts=.br (kid ts).1 (kid ts).2.1::gV (kid ts).2.2:=by
 have hl:=En h;unfold gV;obtain⟨m,hm⟩:∃ m,ts.length=m+1:=⟨ts.length - 1,by omega⟩;rw[hm]
 conv=>lhs;unfold lI
 rw[aG (by rw[h];simp),Hr m _ (by omega)]
end X
structure J2(w:World)(tb:Nat)(s:ByteArray):Prop where
 ex:∃(db:Nat) (dv:Value) (B:Nat) (D:Nat→Prop),w.cell? ⟨tb,0,none⟩=some (.pointer (some ⟨db,0,none⟩))∧w.cell? ⟨tb,1,none⟩=some (.pointer (some ⟨B,0,none⟩))∧Om w db dv s∧uq w D (.iface 126 (.pointer (some ⟨B,0,none⟩))) (X.file (X.xt (bs s)))∧∀ q,D q→q<w.heap.size
theorem Om.keep{S:Nat→Prop}{w w':World}{b:Nat}{v:Value}{s:ByteArray}(h:Om w b v s)(hk:Kp S w w')(h1:¬ S b)(h2:∀ k,v.ownBlock=some k→¬ S k):Om w' b v s :=
 ⟨hk.dY h.text h1,hk.dY h.held h1,h.row.keep hk h2⟩
theorem Ht(s:ByteArray)(w:World)(hT:kP w)(hs:s.size≤1073741823)(hl:(toks 0 (bs s)).length≤134217728) :
  Calls prog 15 #[.string s] w fun e w'=>∃ tb,e=.returned (.pointer (some ⟨tb,0,none⟩))∧Hid (J2 w' tb s∧Below w.heap.size w w'):=by
 have hS:=SY s (by omega) (by omega);go_enter func15,ntmps15;go_wp2_with fail
 refine(Vg s w hT (by omega)).mono ?_;rintro e w1 ⟨db,rfl,H1⟩;go_wp2_with fail
 obtain⟨dv,g1,g2,g3,g4,g5⟩:=H1.o;have HD:=au g3;have K1:=au g5;have hdb:=g2;have HDV:Hid (∀ k,dv.ownBlock=some k→k<w1.heap.size):=fun k hk=>by have:=(g4 k hk).2;omega
 have kA:Below w1.heap.size w1 (w1.alloc (Obj.cells #[.int .i64 2,.slice none 0 0] 129)):=(ay _ w1).alloc (aj _) _;have hnew:(w1.alloc (Obj.cells #[.int .i64 2,.slice none 0 0] 129)).heap[w1.heap.size]?=some (.cells #[.int .i64 2,.slice none 0 0] 129 (0,0)):=aB w1 _;have hzA:(w1.alloc (Obj.cells #[.int .i64 2,.slice none 0 0] 129)).heap.size=w1.heap.size+1:=by simp
 clear g1 g2 g3 g4 g5 H1;refine(EF db dv s _ ((HD.o).below kA) (by omega) (by omega)).mono ?_;rintro e w3 ⟨rb,tv,rfl,H3⟩;have HW:Hid (Wk w3 rb s (toks 0 (bs s)) tv 0 0 w1.heap.size 2 (.slice none 0 0) [] [] (fun _=>False)):=by
  obtain⟨r1,r2,r3,r4⟩:=H3.o;refine⟨r1,⟨(Kp.aI r4 (fun _=>False)).heap hnew id,bY _ _ _ _⟩,rfl,Each.nil _ _,(fun q hq=>hq.elim),⟨id,id,by omega⟩,(fun g hg=>by cases hg),fun q hq=>?_⟩;have:=r3 q hq;exact⟨id,by omega,(fun e=>by cases e),this.2⟩
 have K3:Hid (Below w.heap.size w w3):=(K1.o).trans ((kA.trans ((H3.o).2.2.2.mono (by omega))).mono (K1.o).size);have HD3:=au (((HD.o).below kA).below (H3.o).2.2.2);have hrb:=(H3.o).2.1;have hz1:=(K1.o).size;clear H3 hnew kA;have hL:=hS.len;have e0:bn s (toks 0 (bs s)) 0=X.xt (bs s):=by unfold bn X.xt;simp
 go_wp2_with fail
 go_loopw [] (fun wr=>∃(a:Nat) (rv:Value) (vs:List Value) (ps:List X.Part) (D:Nat→Prop),ps.length≤a∧Hid (Wk wr rb s (toks 0 (bs s)) tv a 0 w1.heap.size 2 rv vs ps D)∧Hid (X.gV (X.xt (bs s))=ps++X.gV (bn s (toks 0 (bs s)) a))∧Hid (∀ g,rv.ownBlock=some g→w3.heap.size≤g)∧Hid (∀ q,D q→w3.heap.size≤q)∧Hid (Kp (fun q=>q=rb∨q=w1.heap.size) w3 wr)) (fun wr=>(toks 0 (bs s)).length - V6 rb wr)
 case atStart=>exact⟨0,_,_,_,_,aj _,HW,(by show _=_;rw[e0];rfl),(fun g hg=>by cases hg),(fun q hq=>hq.elim),Kp.refl _ _⟩
 case round =>
  obtain⟨a,rv,vs,ps,D,hpa,S_,HE,HG,HDD,HK⟩:=hrel;have hle:=(S_.o).iF.le;have kI:(X.bJ (bn s (toks 0 (bs s)) a) !=0)=!(X.bJ (bn s (toks 0 (bs s)) a)==0):=rfl;have hat:(toks 0 (bs s)).length - V6 rb wr=(bn s (toks 0 (bs s)) a).length:=(bf.refl (S_.o)).at
  have hln:∀ a,(bn s (toks 0 (bs s)) a).length=(toks 0 (bs s)).length - a:=fun a=>by unfold bn;simp
  go_wp2_with fail
  refine(GZ rb s (toks 0 (bs s)) tv a 0 wr (S_.o).iF).mono ?_;rintro e w4 ⟨rfl,rfl⟩;rw[kI];cases hk:(X.bJ (bn s (toks 0 (bs s)) a)==0) with
  | false =>
   have hlt:=X.En hk;have HF:=au (X.CQ hk);go_wp2_with fail
   refine(Wq hS rb tv a w4 (S_.o).iF D (S_.o).G5 (S_.o).sep.1 (fun q hq=>⟨((S_.o).uw q hq).1,((S_.o).uw q hq).2.2.2⟩)).mono ?_;rintro e w5 ⟨N,D',a',rfl,H5⟩;have Bp:Hid (Wk w5 rb s (toks 0 (bs s)) tv a' 0 w1.heap.size 2 rv vs ps D'):=(S_.o).grown (H5.o).2.2.2.2.2.2 (H5.o).1 (H5.o).2.2.2.1 (H5.o).2.2.2.2.1 (H5.o).2.2.2.2.2.1;have hvl:vs.length≤1073741824:=by rw[(S_.o).len];omega
   unfold Wp;generalize hnn:(bn s (toks 0 (bs s)) a).length - (X.kid (bn s (toks 0 (bs s)) a)).2.2.length=nn;have Z6:Hid (nn=(X.pl (.br (X.kid (bn s (toks 0 (bs s)) a)).1 (X.kid (bn s (toks 0 (bs s)) a)).2.1)).length):=by
    have h:=congrArg List.length (X.DK (bn s (toks 0 (bs s)) a));rw[ak] at h;show nn=(X.r9 (X.kid (bn s (toks 0 (bs s)) a)).2.1).length;omega
   clear hnn;go_wp2_with fail
   refine(wh w1.heap.size 2 rv vs 134 _ w5 (Bp.o).r_ (fun g hg=>((Bp.o).nD g hg).2.2) hvl).mono ?_;rintro e w6 ⟨rfl,rv6,b6,o6,k6⟩;have HN:Hid (∃(a2:Nat) (NC:Value) (vs2:List Value) (ps2:List X.Part) (D2:Nat→Prop),a<a2∧a2≤(toks 0 (bs s)).length∧ps2.length≤a2∧Hid (Wk w6 rb s (toks 0 (bs s)) tv a2 0 w1.heap.size 2 NC vs2 ps2 D2)∧Hid (X.gV (X.xt (bs s))=ps2++X.gV (bn s (toks 0 (bs s)) a2))∧Hid (∀ g,NC.ownBlock=some g→w3.heap.size≤g)∧Hid (∀ q,D2 q→w3.heap.size≤q)∧Hid (Kp (fun q=>q=rb∨q=w1.heap.size) w3 w6)):=by
    obtain⟨f1,f2,f3,f4,f5,f6,f7⟩:=H5.o;have bI2:=(HK.o).size;have cI8:=f7.size;have hpk:uq w6 D' (.iface 134 (.agg #[.pointer (some ⟨N,0,none⟩),.int .i64 nn])) (.br (X.kid (bn s (toks 0 (bs s)) a)).1 (X.kid (bn s (toks 0 (bs s)) a)).2.1):=.kid N nn _ Z6.o (f3.keep k6 (fun q hq e=>by
     rcases e with e|e
     ·subst e;exact(Bp.o).sep.2.1 hq
     ·exact((Bp.o).nD q e).1 hq))
    have hw6:=(Bp.o).added b6 o6 k6 hpk;have hle':=f1.le;have hlt':a<a':=by
     rw[← f2,hln,hln] at hlt;omega
    refine⟨a',rv6,_,_,D',hlt',hle',by rw[ak];simp;omega,hw6,?_,fun g hg=>?_,fun q hq=>?_,?_⟩
    ·show _=_
     rw[HE.o,HF.o,f2,aA];rfl
    ·rcases o6 g hg with e|e
     ·exact(HG.o) g e
     ·omega
    ·rcases f5 q hq with e|e
     ·exact(HDD.o) q e
     ·omega
    ·refine Kp.trans (Kp.trans (HK.o) f7 (fun i _ e=>.inl e)) k6 (fun i hi e=>?_)
     rcases e with e|e
     ·exact .inr e
     ·have:=(HG.o) i e;omega
   clear b6 o6 k6 Bp H5;obtain⟨a2,NC,vs2,ps2,D2,n1,n2,n3,n4,n5,n6,n7,n8⟩:=HN.o;go_wp2_with fail
   refine⟨⟨a2,NC,vs2,ps2,D2,n3,n4,n5,n6,n7,n8⟩,?_⟩;rw[hat,(bf.refl n4.o).at,hln,hln];omega
  | true =>
   have HF:=au (X.Gw hk);go_wp2_with fail
   refine(Sq s (toks 0 (bs s)) 0 hS rb tv a w1.heap.size 2 rv vs ps D w4 S_.o trivial (by simp only[eG];rw[hln];omega)).mono ?_;rintro e w5 ⟨rfl,H5⟩;have HR:Hid (∃ D2:Nat→Prop,uq w5 D2 (.iface 126 (.pointer (some ⟨w1.heap.size,0,none⟩))) (X.file (X.xt (bs s)))∧(∀ q,D2 q→q<w5.heap.size)∧Om w5 db dv s∧Below w.heap.size w w5):=by
    obtain⟨a5,rv5,vs5,D5,f1,f2,f3,f4,f5,f6⟩:=H5.o;have bI2:=(HK.o).size;have hp:=f1.part;have he:ps++(bn s (toks 0 (bs s)) a).map X.lf=X.gV (X.xt (bs s)):=by rw[HE.o,HF.o]
    simp only[he] at hp;have hkk:Kp (fun q=>q=rb∨q=w1.heap.size) w3 w5:=Kp.trans (HK.o) f6 (fun i hi e=>by
     rcases e with e|e|e
     ·exact .inl e
     ·exact .inr e
     ·have:=(HG.o) i e;omega)
    refine⟨_,hp,?_,?_,?_⟩
    ·rintro q (e|e|e)
     ·exact f1.G5 q e
     ·subst e;exact f1.r_.lt
     ·exact(dV f1.r_.row q e).2
    ·refine(HD3.o).keep hkk ?_ (fun k hk=>?_)
     ·rintro(e|e)<;>omega
     ·have:=(HDV.o) k hk
      rintro(e|e)<;>omega
    ·exact(K3.o).trans (Kp.below hkk (by have:=(K3.o).size;omega) (fun k e=>by rcases e with e|e<;>omega))
   clear H5;go_wp2_with fail
   go_ret;obtain⟨D2,f1,f2,f3,f4⟩:=HR.o;have kT:Below w5.heap.size w5 (w5.alloc (Obj.cells #[.pointer (some ⟨db,0,none⟩),.pointer (some ⟨w1.heap.size,0,none⟩)] 138)):=(ay _ w5).alloc (aj _) _;refine⟨w5.heap.size,rfl,⟨⟨db,dv,w1.heap.size,D2,?_,?_,f3.below kT,f1.keep (Kp.aI kT (fun _=>False)) (fun _ _=>id),fun q hq=>by have:=f2 q hq;simp;omega⟩⟩,f4.trans (kT.mono f4.size)⟩
   ·rw[ai _ _ 0 _ _ _ (aB w5 _)];rfl
   ·rw[ai _ _ 1 _ _ _ (aB w5 _)];rfl
theorem xX(s:ByteArray)(w:World)(hT:kP w)(hs:s.size≤134217728) :
  Calls prog 15 #[.string s] w fun e w'=>∃ tb,e=.returned (.pointer (some ⟨tb,0,none⟩))∧Hid (J2 w' tb s∧Below w.heap.size w w'):=Ht s w hT (by omega) (by have:=SX s;omega)
section
variable{w w':World}{D E:Nat→Prop}{v:Value}{p:X.Part}{i:Nat}
inductive ze(w:World)(D:Nat→Prop):Value→X.Part→Prop
 | leaf (k:Nat) (x:ah):ze w D (.agg #[.int .i64 0,.int .i64 k,.string (ba x),.slice none 0 0]) (.leaf k x)
 | miss (m:ah):ze w D (.agg #[.int .i64 1,.int .i64 0,.string (ba m),.slice none 0 0]) (.miss m)
 | br (k cap:Nat) (ao:Option Addr) (c0 c1 c2 c3:Nat→Value) (ps:List X.Part) (hc:ps.length≤cap∧cap≤maxLen)
   (hr:∀ i,i<ps.length→∃ g,ao=some ⟨g,0,none⟩∧D g∧w.cell? ⟨g,i*4,none⟩=some (c0 i)∧w.cell? ⟨g,i*4+1,none⟩=some (c1 i)∧w.cell? ⟨g,i*4+2,none⟩=some (c2 i)∧w.cell? ⟨g,i*4+3,none⟩=some (c3 i))
   (hp:∀(i:Nat) (p:X.Part),ps[i]?=some p→ze w D (.agg #[c0 i,c1 i,c2 i,c3 i]) p):ze w D (.agg #[.int .i64 k,.int .i64 0,.string ⟨#[]⟩,.slice ao ps.length cap]) (.br k ps)
theorem ze.kept{S:Nat→Prop}(kk:Kp S w w')(hS:∀ q,S q→¬ D q)(h:ze w D v p):ze w' D v p:=by
 induction h with
 | leaf k x=>exact .leaf k x
 | miss m=>exact .miss m
 | br k cap ao c0 c1 c2 c3 ps hc hr hp ih =>
  exact .br k cap ao c0 c1 c2 c3 ps hc (fun i hi=>by
   obtain⟨g,h1,h0,h2,h3,h4,h5⟩:=hr i hi;have hn:¬ S g:=fun e=>hS g e h0
   exact⟨g,h1,h0,kk.dY h2 hn,kk.dY h3 hn,kk.dY h4 hn,kk.dY h5 hn⟩) ih
theorem ze.low(hb:∀ q,D q→E q)(h:ze w D v p):ze w E v p:=by
 induction h with
 | leaf k x=>exact .leaf k x
 | miss m=>exact .miss m
 | br k cap ao c0 c1 c2 c3 ps hc hr hp ih =>
  exact .br k cap ao c0 c1 c2 c3 ps hc (fun i hi=>by
   obtain⟨g,h1,h0,h2⟩:=hr i hi;exact⟨g,h1,hb g h0,h2⟩) ih
theorem NK(k:Nat)(x r:ah)(w:World)(hl:x.length≤1073741824) :
  Calls prog 227 #[.agg #[.int .i64 k,.int .i64 x.length],.string (ba (x++r))] w fun e w'=>e=.returned (.tuple #[.agg #[.int .i64 0,.int .i64 k,.string (ba x),.slice none 0 0],.string (ba r)])∧Below w.heap.size w w':=by
 have hs:(ba (x++r)).size=x.length+r.length:=by rw[iW,ak]
 have e1:(ba (x++r)).extract 0 x.length=ba x:=jJ (by rw[DI,kQ,kQ,List.take_left]);have e2:(ba (x++r)).extract x.length (ba (x++r)).size=ba r:=jJ (by rw[yO,kQ,kQ,List.drop_left]);rw[hs] at e2;generalize hT:ba (x++r)=T at *;have i1:(x.length:Int)≤(T.size:Int):=by omega
 have i2:x.length≤T.size:=by omega
 go_enter func227,ntmps227;go_wp2_with fail
 go_region
 all_goals go_wp2_with fail
 all_goals
  exact bI (v:=.tuple #[.agg #[.int .i64 0,.int .i64 k,.string (ba x),.slice none 0 0],.string (ba r)]) (by simp[results,results227,go_sem]) rfl ⟨rfl,by
   first
    | exact(((ay _ w).alloc (aj _) _).alloc (by simp) _).drew
    | exact(((ay _ w).alloc (aj _) _).alloc (by simp) _)
    | exact(((ay _ w).drew.alloc (aj _) _).alloc (by simp) _)⟩
theorem NM(m:ah)(t:ByteArray)(w:World) :
  Calls prog 264 #[.string (ba m),.string t] w fun e w'=>e=.returned (.tuple #[.agg #[.int .i64 1,.int .i64 0,.string (ba m),.slice none 0 0],.string t])∧Below w.heap.size w w':=by
 go_enter func264,ntmps264;go_wp2_with fail
 exact bI (v:=.tuple #[.agg #[.int .i64 1,.int .i64 0,.string (ba m),.slice none 0 0],.string t]) (by simp[results,results264,go_sem]) rfl ⟨rfl,(ay _ w).alloc (aj _) _⟩
namespace X
mutual
def iM:Part→Nat
 | .leaf _ _=>1
 | .miss _=>1
 | .br _ ps=>1+dQ ps
def dQ:List Part→Nat
 | []=>0
 | p::ps=>iM p+dQ ps
end
theorem gQ(p:Part):1≤iM p:=by cases p<;>simp[iM]
theorem gu:∀ ps:List Part,ps.length≤dQ ps
 | []=>aj _
 | p::ps=>by have:=gu ps;have:=gQ p;simp[dQ];omega
theorem fP:∀(ps:List Part) (i:Nat) (p:Part),ps[i]?=some p→iM p≤dQ ps
 | [],i,p,h=>by simp at h
 | q::ps,0,p,h=>by
  obtain rfl:q=p:=by simpa using h
  simp[dQ]
 | q::ps,i+1,p,h=>by have:=fP ps i p (by simpa using h);simp[dQ];omega
theorem LG:∀(ps:List Part) (i:Nat) (p:Part),ps[i]?=some p→(pb p).length≤(nN ps).length
 | [],i,p,h=>by simp at h
 | q::ps,0,p,h=>by
  obtain rfl:q=p:=by simpa using h
  simp[nN]
 | q::ps,i+1,p,h=>by have:=LG ps i p (by simpa using h);simp[nN];omega
theorem Ta{ps:List Part}{p:Part}(h:ps[i]?=some p):nN (ps.drop i)=pb p++nN (ps.drop (i+1)):=by
 have hi:i<ps.length:=by
  rcases bE i ps.length with g|g
  ·exact g
  ·rw[aO g] at h;cases h
 rw[bP hi,nN,bK ((aC hi).symm.trans h)]
end X
theorem aQ4:(prog.info? 117).map (fun i=>(i.zero,i.size,i.bytes))=some (some (.agg #[.int .i64 0,.int .i64 0,.string ⟨#[]⟩,.slice none 0 0]),4,56):=by kernel_rfl
abbrev Q4:=Value × Value × Value × Value
def q4(q:Q4):List Value:=[q.1,q.2.1,q.2.2.1,q.2.2.2]
def q4v(q:Q4):Value:=.agg #[q.1,q.2.1,q.2.2.1,q.2.2.2]
theorem ze.shape(h:ze w D v p):∃(a c:Int) (s:ByteArray) (ao:Option Addr) (n cap:Nat),v=q4v (.int .i64 a,.int .i64 c,.string s,.slice ao n cap):=by
 cases h with
 | leaf k x=>exact⟨_,_,_,_,_,_,rfl⟩
 | miss m=>exact⟨_,_,_,_,_,_,rfl⟩
 | br k cap ao c0 c1 c2 c3 ps hc hr hp=>exact⟨_,_,_,_,_,_,rfl⟩
def BOk(p:X.Part):Prop:=(X.pb p).length≤1073741824→∀(w:World) (D:Nat→Prop) (N:Nat) (r:ah),uq w D (.iface 126 (.pointer (some ⟨N,0,none⟩))) p →
 Calls prog 48 #[.pointer (some ⟨N,0,none⟩),.string (ba (X.pb p++r))] w fun e w'=>∃ nv,e=.returned (.tuple #[nv,.string (ba r)])∧Hid (∃ E,ze w' E nv p∧(∀ q,E q→w.heap.size≤q∧q<w'.heap.size)∧Below w.heap.size w w')
theorem NN (a b : Value) (w : World) : (Go.method 517 222 (.agg #[a, b]) "amanuensis/tree.show").run Tryz.prog w = .ok (227, .agg #[a, b]) w := by kernel_rfl
theorem NP (m : ByteArray) (w : World) : (Go.method 517 326 (.string m) "amanuensis/tree.show").run Tryz.prog w = .ok (264, .string m) w := by kernel_rfl
theorem Wu (p : Option Addr) (w : World) : (Go.method 517 126 (.pointer p) "amanuensis/tree.show").run Tryz.prog w = .ok (48, .pointer p) w := by kernel_rfl
theorem Tc (p : Option Addr) (n : Value) (w : World) : (Go.method 517 134 (.agg #[.pointer p, n]) "amanuensis/tree.show").run Tryz.prog w = .ok (48, .pointer p) w := by kernel_rfl
theorem Td:∀ args w,(callFunc 227 args).run prog w=.ok (.enter 227 args) w:=enters_of func227 (by kernel_rfl) rfl
theorem Te:∀ args w,(callFunc 264 args).run prog w=.ok (.enter 264 args) w:=enters_of func264 (by kernel_rfl) rfl
theorem Hu:∀ args w,(callFunc 48 args).run prog w=.ok (.enter 48 args) w:=enters_of func48 (by kernel_rfl) rfl
theorem NQ(h:uq w D v p)(hl:(X.pb p).length≤1073741824)(hB0:BOk p) :
  ∃ ty x Qg recv, v = .iface ty x ∧ (∀ W, (Go.method 517 ty x "amanuensis/tree.show").run Tryz.prog W = .ok (Qg, recv) W) ∧ (∀ args W, (callFunc Qg args).run Tryz.prog W = .ok (.enter Qg args) W) ∧
   ∀(W:World) (r:ah),Below w.heap.size w W→Calls prog Qg #[recv,.string (ba (X.pb p++r))] W fun e w'=>∃ nv,e=.returned (.tuple #[nv,.string (ba r)])∧Hid (∃ E,ze w' E nv p∧(∀ q,E q→W.heap.size≤q∧q<w'.heap.size)∧Below W.heap.size W w'):=by
 have hB:=hB0 hl;cases h with
 | leaf k x =>
  refine⟨_,_,_,_,rfl,fun W=>NN _ _ W,Td,fun W r _=>?_⟩;refine(NK k x r W hl).mono ?_;rintro e w' ⟨rfl,h2⟩;exact⟨_,rfl,fun _=>False,.leaf k x,fun _ h=>h.elim,h2⟩
 | miss m =>
  refine⟨_,_,_,_,rfl,fun W=>NP _ W,Te,fun W r _=>?_⟩;refine(NM m _ W).mono ?_;rintro e w' ⟨rfl,h2⟩;exact⟨_,rfl,fun _=>False,.miss m,fun _ h=>h.elim,h2⟩
 | br k N cap ao vs ps hN hb hc hr hp =>
  refine⟨_,_,_,_,rfl,fun W=>Wu _ W,Hu,fun W r hk=>?_⟩;exact hB W D N r ((uq.br k N cap ao vs ps hN hb hc hr hp).keep (Kp.aI hk (fun _=>False)) (fun _ _=>id))
 | kid N n q hn hq =>
  refine⟨_,_,_,_,rfl,fun W=>Tc _ _ W,Hu,fun W r hk=>?_⟩;exact hB W D N r (hq.keep (Kp.aI hk (fun _=>False)) (fun _ _=>id))
structure Tf(w:World)(k:Nat)(ps:List X.Part)(j:Nat)(kv:Value)(qs:List Q4)(E:Nat→Prop)(wr:World):Prop where
 res:wr.heap[w.heap.size]?=some (.cells #[.int .i64 0,.int .i64 0,.string ⟨#[]⟩,.slice none 0 0] 117 (0,0))
 nod:wr.heap[w.heap.size+1]?=some (.cells #[.int .i64 k,.int .i64 0,.string ⟨#[]⟩,kv] 117 (0,0))
 row:wr.ownsRow (w.heap.size+2) 117 4 kv j (qs.flatMap q4)
 len:qs.length=j
 kids:∀(i:Nat) (q:Q4) (p:X.Part),qs[i]?=some q→ps[i]?=some p→ze wr E (q4v q) p
 sep:∀ q,E q→w.heap.size+2≤q∧q<wr.heap.size∧kv.ownBlock≠some q
 lJ:Below w.heap.size w wr
 sz:w.heap.size+2≤wr.heap.size
theorem EG{qs:List Q4}{q:Q4}{j:Nat}(h:qs[i]?=some q)(hj:j<4):(qs.flatMap q4)[i*4+j]?=(q4 q)[j]?:=by
 induction qs generalizing i with
 | nil=>simp at h
 | cons a L ih =>
  cases i with
  | zero =>
   obtain rfl:a=q:=by simpa using h
   rw[f_,aU (by simp[q4];omega)];simp
  | succ i =>
   rw[f_,aQ (by simp[q4];omega),show(i+1)*4+j - (q4 a).length=i*4+j by simp[q4];omega];exact ih (by simpa using h)
theorem Tf.node{wr:World}{k:Nat}{ps:List X.Part}{kv:Value}{qs:List Q4}(h:Tf w k ps ps.length kv qs E wr)(hk:Kp (fun q=>q=w.heap.size) wr w'):ze w' (fun q=>w.heap.size≤q∧q<w'.heap.size) (.agg #[.int .i64 k,.int .i64 0,.string ⟨#[]⟩,kv]) (.br k ps):=by
 have hcells:=fun g hg=>h.row.cells (g:=g) hg
 have hlen:=h.len;rcases h.row.2 with ⟨rfl,h0⟩|⟨g,cap,cur,rfl,hb,hg,hn,hm,hsz,ht⟩
 ·have hp:ps=[]:=aT.1 h0
  subst hp;exact .br k 0 none (fun _=>undef) (fun _=>undef) (fun _=>undef) (fun _=>undef) [] ⟨aj _,by unfold maxLen;omega⟩ (fun i hi=>by simp at hi) (fun i p hp=>by simp at hp)
 ·have hgn:¬(g=w.heap.size):=by omega
  have hq:∀ i,i<ps.length→qs[i]?=some (qs.getD i (undef,undef,undef,undef)):=fun i hi=>by
   rw[bF,aC (by omega)];rfl
  refine .br k cap (some ⟨g,0,none⟩) (fun i=>(qs.getD i (undef,undef,undef,undef)).1) (fun i=>(qs.getD i (undef,undef,undef,undef)).2.1) (fun i=>(qs.getD i (undef,undef,undef,undef)).2.2.1) (fun i=>(qs.getD i (undef,undef,undef,undef)).2.2.2) ps ⟨hn,hm⟩ (fun i hi=>⟨g,rfl,⟨by omega,by have:=aP hg;have:=hk.size;omega⟩,?_,?_,?_,?_⟩) (fun i p hp=>?_)
  ·have:=hcells g rfl _ _ ((EG (hq i hi) (by omega:0<4)).trans rfl)
   rw[fe,cu] at this;exact hk.dY this hgn
  ·have:=hcells g rfl _ _ ((EG (hq i hi) (by omega:1<4)).trans rfl)
   rw[fe,cu] at this;exact hk.dY this hgn
  ·have:=hcells g rfl _ _ ((EG (hq i hi) (by omega:2<4)).trans rfl)
   rw[fe,cu] at this;exact hk.dY this hgn
  ·have:=hcells g rfl _ _ ((EG (hq i hi) (by omega:3<4)).trans rfl)
   rw[fe,cu] at this;exact hk.dY this hgn
  ·have hi:i<ps.length:=by
    rcases bE i ps.length with g|g
    ·exact g
    ·rw[aO g] at hp;cases hp
   exact((h.kids i _ p (hq i hi) hp).kept hk (fun q e e2=>by have:=h.sep q e2;omega)).low (fun q e=>by have:=h.sep q e;have:=hk.size;omega)
theorem Ke(w:World)(o:Obj){n:Nat}(h:w.heap.size=n):(w.alloc o).heap[n]?=some o:=h ▸ aB w o
theorem NR:∀(n:Nat) (p:X.Part),X.iM p≤n→X.iM p≤1073741824→BOk p:=by
 intro n
 induction n with
 | zero=>intro p h;have:=X.gQ p;omega
 | succ n ih =>
  intro p hn hbig hpl w D N r hp;cases hp with
  | br k N cap ao vs ps hN hb hc hr hp =>
  obtain⟨i0,hi0,hz0,hz1,hz2⟩:=gB aQ4;have hps:X.dQ ps≤n∧X.dQ ps≤1073741824:=by simp only[X.iM] at hn hbig;omega
  have hlen:=X.gu ps;have HIH:Hid (∀(i:Nat) (q:X.Part),ps[i]?=some q→BOk q):=fun i q hq=>by
   have:=X.fP ps i q hq;exact ih q (by omega) (by omega)
  have HR:=au hr;have HP:=au hp;have Uj:N<w.heap.size:=aP hb;have c0:w.cell? ⟨N,0,none⟩=some (.int .i64 k):=ai w _ 0 _ _ _ hb;have c1:w.cell? ⟨N,1,none⟩=some (.slice ao ps.length cap):=ai w _ 1 _ _ _ hb;have hpl':(X.nN ps).length≤1073741824:=by rw[X.pb] at hpl;exact hpl
  have et:X.pb (.br k ps)++r=X.nN (ps.drop 0)++r:=by rw[List.drop_zero,X.pb]
  rw[et];clear et ih hr hp hb hn hbig;go_enter func48,ntmps48;go_wp2_with fail
  have HI0:Hid (Tf w k ps 0 (.slice none 0 0) [] (fun _=>False) ((w.alloc (Obj.cells #[.int .i64 0,.int .i64 0,.string ⟨#[]⟩,.slice none 0 0] 117)).alloc (Obj.cells #[.int .i64 k,.int .i64 0,.string ⟨#[]⟩,.slice none 0 0] 117))):=by
   refine⟨(dN (w.alloc _) _ (show w.heap.size<_ by simp)).trans (aB w _),?_,bY _ _ _ _,rfl,(fun i q p h=>by simp at h),(fun q h=>h.elim),((ay _ w).alloc (aj _) _).alloc (by simp) _,by simp⟩;have:=aB (w.alloc (Obj.cells #[.int .i64 0,.int .i64 0,.string ⟨#[]⟩,.slice none 0 0] 117)) (Obj.cells #[.int .i64 k,.int .i64 0,.string ⟨#[]⟩,.slice none 0 0] 117)
   rwa[gX] at this
  go_loopw [1,20] (fun tv iv wr=>∃(j:Nat) (kv:Value) (qs:List Q4) (E:Nat→Prop),tv=.string (ba (X.nN (ps.drop j)++r))∧iv=.int .i64 j∧j≤ps.length∧Hid (Tf w k ps j kv qs E wr)) (fun _ iv _=>ps.length - (intOf iv).toNat)
  case atStart=>exact⟨0,_,_,_,rfl,rfl,aX _,HI0⟩
  case round =>
   obtain⟨j,kv,qs,E,rfl,rfl,hj,HI⟩:=hrel;clear HI0;obtain⟨KU,cap2,rfl⟩:∃ KU cap2,kv=.slice KU j cap2:=by
    rcases(HI.o).row.2 with ⟨h,h0⟩|⟨g,cap,cur,h,-⟩
    ·exact⟨none,0,by rw[h,h0]⟩
    ·exact⟨_,_,h⟩
   have n0:=ai wr _ 0 _ _ _ (HI.o).nod;have n1:=ai wr _ 1 _ _ _ (HI.o).nod;have n2:=ai wr _ 2 _ _ _ (HI.o).nod;have n3:=ai wr _ 3 _ _ _ (HI.o).nod;by_cases hlt:j<ps.length
   case neg =>
    obtain rfl:j=ps.length:=by omega
    have i1:decide (ps.length<ps.length)=false:=by simp
    have i2:decide ((ps.length:Int)<(ps.length:Int))=false:=by simp
    have m0:=ai wr _ 0 _ _ _ (HI.o).res;have m1:=ai wr _ 1 _ _ _ (HI.o).res;have m2:=ai wr _ 2 _ _ _ (HI.o).res;have m3:=ai wr _ 3 _ _ _ (HI.o).res;have fz:∀ o,wr.frozen? ⟨w.heap.size,o,none⟩=false:=fun o=>by simp[World.frozen?,(HI.o).res]
    have f0:=fz 0;have f1:=fz 1;have f2:=fz 2;have f3:=fz 3;have er:ba (X.nN (ps.drop ps.length)++r)=ba r:=by rw[List.drop_length];rfl
    rw[er];have HF:Hid (∀ w',Kp (fun q=>q=w.heap.size) wr w'→∃ E,ze w' E (.agg #[.int .i64 k,.int .i64 0,.string ⟨#[]⟩,.slice KU ps.length cap2]) (.br k ps)∧(∀ q,E q→w.heap.size≤q∧q<w'.heap.size)∧Below w.heap.size w w'):=fun w' hk=>⟨_,(HI.o).node hk,fun _ h=>h,(HI.o).lJ.trans (Kp.below hk (by have:=(HI.o).sz;omega) (fun q e=>by omega))⟩
    clear er HIH HR HP hj;go_wp2_with fail
    try simp only[Exit.inBlock,Exit.then]
    refine bI (v:=.tuple #[.agg #[.int .i64 k,.int .i64 0,.string ⟨#[]⟩,.slice KU ps.length cap2],.string (ba r)]) ?_ rfl ?_
    ·simp[results,results48,go_sem,m0,m1,m2,m3]
    ·exact⟨_,rfl,(HF.o) _ (On.set (On.set (On.set (On.set (Kp.refl _ wr) 0 _) 1 _) 2 _) 3 _)⟩
   have hget:ps[j]?=some ps[j]:=aC hlt;obtain⟨g,rfl,hDg,hcell⟩:=(HR.o) j hlt;have hgl:g<w.heap.size:=bG w _ hcell;have hdrop:=X.Ta hget;have aQ6:=NQ ((HP.o) j ps[j] hget) (bS (X.LG ps j _ hget) hpl') ((HIH.o) j ps[j] hget);obtain⟨ty,x,Qg,recv,hv,hm,hen,hcall⟩:=aQ6;have aQ7:=au hcall;have p1:wr.cell? ⟨g,j,none⟩=some (.iface ty x):=by
    have:=(Kp.aI (HI.o).lJ (fun _=>False)).dY hcell id
    rwa[hv] at this
   have i1:decide (j<ps.length)=true:=by simp;omega
   have i2:decide ((j:Int)<(ps.length:Int))=true:=by simp;omega
   rw[hdrop,aA];clear hcall hv hdrop;go_wp2_with fail
   have kA:Below wr.heap.size wr (wr.alloc (Obj.cells #[.int .i64 0,.int .i64 0,.string ⟨#[]⟩,.slice none 0 0] 117)):=(ay _ wr).alloc (aj _) _;have hkb:(wr.alloc (Obj.cells #[.int .i64 0,.int .i64 0,.string ⟨#[]⟩,.slice none 0 0] 117)).heap[wr.heap.size]?=some (.cells #[.int .i64 0,.int .i64 0,.string ⟨#[]⟩,.slice none 0 0] 117 (0,0)):=aB wr _;have hszA:(wr.alloc (Obj.cells #[.int .i64 0,.int .i64 0,.string ⟨#[]⟩,.slice none 0 0] 117)).heap.size=wr.heap.size+1:=by simp
   refine((aQ7.o) _ (X.nN (ps.drop (j+1))++r) ((HI.o).lJ.trans (kA.mono (HI.o).lJ.size))).mono ?_;rintro e w5 ⟨nv,rfl,H5⟩;obtain⟨E5,h51,h52,h53⟩:=H5.o;obtain⟨qa,qb,qc,qd,qn,qp,hq⟩:=h51.shape;subst hq;have H51:=au h51;have H52:=au h52;have H53:=au h53;clear h51 h52 h53 H5;unfold q4v;have k5:Below wr.heap.size wr w5:=kA.trans ((H53.o).mono (by omega));have Tg:=(Kp.aI H53.o (fun _=>False)).heap hkb id;have LH:=(Kp.aI k5 (fun _=>False)).heap (HI.o).nod id;have Xl:=Kp.owns (Kp.aI k5 (fun _=>False)) (HI.o).row (fun _ _=>id);have hz5:wr.heap.size+1≤w5.heap.size:=by have:=(H53.o).size;omega
   have cJ1:=(HI.o).sz;have b0:=ai w5 _ 0 _ _ _ Tg;have b1:=ai w5 _ 1 _ _ _ Tg;have b2:=ai w5 _ 2 _ _ _ Tg;have b3:=ai w5 _ 3 _ _ _ Tg;have e0:∀ o,w5.frozen? ⟨wr.heap.size,o,none⟩=false:=fun o=>by simp[World.frozen?,Tg]
   have d0:=e0 0;have d1:=e0 1;have d2:=e0 2;have d3:=e0 3;have x3:=ai w5 _ 3 _ _ _ LH;have x4:w5.frozen? ⟨w.heap.size+1,3,none⟩=false:=by simp[World.frozen?,LH]
   have Yl:=au Xl;clear Xl kA hkb e0 n0 n1 n2 n3;have hne1:wr.heap.size≠w.heap.size+1:=by omega
   have hne2:w.heap.size+1≠wr.heap.size:=by omega
   have Kg:Hid (∀ q,(Value.slice KU j cap2).ownBlock=some q→w.heap.size+2≤q∧q<wr.heap.size):=fun q hq=>by
    rcases(HI.o).row.2 with ⟨h,h0⟩|⟨g,cap,cur,h,hb,hg,-⟩
    ·rw[h] at hq;simp[Value.ownBlock] at hq
    ·rw[h] at hq;simp only[Value.ownBlock,eH] at hq;subst hq;exact⟨hb,aP hg⟩
   have bI7:=au LH;clear LH;go_wp2_with (at_builtin;refine wpList_append_lies _ rfl _ _ 115 rfl (w.heap.size+2) 117 i0 _ 4 56 underlying115 hi0 hz0 hz1 hz2 rfl (by decide) (.slice KU j cap2) j _ rfl (Kp.owns (Kp.alloc (On.set (On.set (On.set (On.set (Kp.refl _ w5) 0 _) 1 _) 2 _) 3 _) _) Yl.o (fun q hq e=>by have:=(Kg.o) q hq;omega)) ⟨w5.heap.size,0,none⟩ 1 1 [.int .i64 qa,.int .i64 qb,.string qc,.slice qd qn qp] rfl rfl (World.news_of_block (cs:=#[.int .i64 qa,.int .i64 qb,.string qc,.slice qd qn qp]) (Ke _ _ (by simp))) (by simp[Value.oneCell']) (by omega) (by unfold maxLen;omega) (by omega) (by simp;omega) (w5.heap.size+1) (by simp) ?_;intro g8 Wv w8 Xm Ti ZH cJ2;have k8:Kp (fun q=>q=wr.heap.size∨(Value.slice KU j cap2).ownBlock=some q) w5 w8:=Kp.grown (Kp.alloc (Kp.setCell (Kp.setCell (Kp.setCell (Kp.setCell (Kp.refl _ w5) (p:=⟨wr.heap.size,0,none⟩) (fun _=>.inl rfl) _) (p:=⟨wr.heap.size,1,none⟩) (fun _=>.inl rfl) _) (p:=⟨wr.heap.size,2,none⟩) (fun _=>.inl rfl) _) (p:=⟨wr.heap.size,3,none⟩) (fun _=>.inl rfl) _) _) Ti (fun k e _=>.inr e);have Ww:=k8.heap bI7.o (fun e=>e.elim (fun e=>hne2 e) (fun e=>by have:=(Kg.o) _ e;omega));have y1:=ai w8 _ 3 _ _ _ Ww;have y2:w8.frozen? ⟨w.heap.size+1,3,none⟩=false:=(by simp[World.frozen?,Ww]);have aQ8:=au Xm;have HK8:=au k8;have aQ9:=au Ww;clear Xm Ti k8 Ww)
   have kF:Kp (fun q=>q=w.heap.size+1∨q=wr.heap.size∨(Value.slice KU j cap2).ownBlock=some q) wr (w8.setCell ⟨w.heap.size+1,3,none⟩ (.slice (some ⟨g8,0,none⟩) (j+1) Wv)) :=
    Kp.setCell (Kp.trans (Kp.aI k5 _) HK8.o (fun q _ e=>.inr e)) (p:=⟨w.heap.size+1,3,none⟩) (fun _=>.inl rfl) _
   have Uw:Kp (fun q=>q=w.heap.size+1∨q=wr.heap.size∨(Value.slice KU j cap2).ownBlock=some q) w5 (w8.setCell ⟨w.heap.size+1,3,none⟩ (.slice (some ⟨g8,0,none⟩) (j+1) Wv)) :=
    Kp.setCell ((HK8.o).mono (fun q _ e=>.inr e)) (p:=⟨w.heap.size+1,3,none⟩) (fun _=>.inl rfl) _
   have hg8:g8≠w.heap.size+1:=fun e=>by
    rcases ZH with h|h
    ·have:=(Kg.o) _ h;omega
    ·omega
   have hzF:=kF.size;have cJ3:=Uw.size;have HN:Hid (Tf w k ps (j+1) (.slice (some ⟨g8,0,none⟩) (j+1) Wv) (qs++[(.int .i64 qa,.int .i64 qb,.string qc,.slice qd qn qp)]) (fun q=>E q∨E5 q) (w8.setCell ⟨w.heap.size+1,3,none⟩ (.slice (some ⟨g8,0,none⟩) (j+1) Wv))):=by
    refine⟨kF.heap (HI.o).res (fun e=>?_),?_,?_,by simp[(HI.o).len],fun i q p hq hp=>?_,fun q e=>?_,?_,by omega⟩
    ·rcases e with e|e|e
     ·omega
     ·omega
     ·have:=(Kg.o) _ e;omega
    ·simp[World.setCell,aK,aQ9.o]
    ·rw[iA]
     exact bV aQ8.o (by simp[Value.ownBlock];omega) _
    ·rcases bE i qs.length with hi|hi
     ·rw[aU hi] at hq
      refine(((HI.o).kids i q p hq hp).kept kF (fun q e e2=>?_)).low (fun _=>.inl);obtain⟨s1,s2,s3⟩:=(HI.o).sep q e2;rcases e with e|e|e
      ·omega
      ·omega
      ·exact s3 e
     ·have hlq:=(HI.o).len
      have hij:i=qs.length:=by
       rcases bE i (qs.length+1) with g|g
       ·omega
       ·rw[aO (by simp;omega)] at hq;cases hq
      subst hij;rw[aQ (aj _),uR] at hq;obtain rfl:=bK hq;rw[hlq,hget] at hp;obtain rfl:=bK hp;refine((H51.o).kept Uw (fun q e e2=>?_)).low (fun _=>.inr);have:=(H52.o) q e2;rcases e with e|e|e
      ·omega
      ·omega
      ·have:=(Kg.o) _ e;omega
    ·simp only[Value.ownBlock,ne_eq,eH]
     rcases e with e|e
     ·obtain⟨s1,s2,s3⟩:=(HI.o).sep q e
      refine⟨s1,by omega,fun h=>?_⟩;subst h;rcases ZH with h|h
      ·exact s3 h
      ·omega
     ·have:=(H52.o) q e
      refine⟨by omega,by omega,fun h=>?_⟩;subst h;rcases ZH with h|h
      ·have:=(Kg.o) _ h;omega
      ·omega
    ·exact(HI.o).lJ.trans (Kp.below kF (by omega) (fun q e=>by
      rcases e with e|e|e
      ·omega
      ·omega
      ·have:=(Kg.o) _ e;omega))
   exact⟨⟨j+1,_,_,_,rfl,by go_num,by omega,HN⟩,by simp only[intOf];omega⟩
end
section
variable{W:World}{x0 x1 x2 x3:Value}
theorem J2.below{w w':World}{tb:Nat}{s:ByteArray}(h:J2 w tb s)(hk:Below w.heap.size w w'):J2 w' tb s:=by
 obtain⟨db,dv,B,D,c0,c1,hd,hp,hD⟩:=h.ex;have k:=Kp.aI hk (fun _=>False);exact⟨db,dv,B,D,k.dY c0 id,k.dY c1 id,hd.below hk,hp.keep k (fun _ _=>id),fun q hq=>aH (hD q hq) hk.size⟩
theorem NS(b:Nat)(s:ByteArray)(w:World)(q1:w.cell? ⟨b,0,none⟩=some (.string s)) :
  Calls prog 49 #[.pointer (some ⟨b,0,none⟩)] w fun e w'=>e=.returned (.string s)∧w'=w:=by
 go_enter func49,ntmps49;go_wp2_with fail
 go_ret;exact⟨rfl,rfl⟩
theorem Hw(W:World)(b:Nat)(a1 a2:Int)(a3:ByteArray)(a4:Option Addr)(a5 a6:Nat)(t0 t1 t3 t4 t5 t6 t7 t8 t9 t10 t11 t12 t13 t14 t15 t16 t17 t18:Value)(h:W.heap[b]?=some (.cells #[.int .i64 a1,.int .i64 a2,.string a3,.slice a4 a5 a6] 117 (0,0))) :
  (results f26 #[t0,t1,.pointer (some ⟨b,0,none⟩),t3,t4,t5,t6,t7,t8,t9,t10,t11,t12,t13,t14,t15,t16,t17,t18]).run prog W=.ok (.agg #[.int .i64 a1,.int .i64 a2,.string a3,.slice a4 a5 a6]) W:=by
 have m0:=ai W _ 0 _ _ _ h;have m1:=ai W _ 1 _ _ _ h;have m2:=ai W _ 2 _ _ _ h;have m3:=ai W _ 3 _ _ _ h;simp[results,results26,go_sem,m0,m1,m2,m3]
theorem ZI{b:Nat}{y0 y1 y2 y3:Value}{t:TypeId}(o:Obj)(h:W.heap[b]?=some (.cells #[y0,y1,y2,y3] t (0,0))):(((((W.setCell ⟨b,0,none⟩ x0).setCell ⟨b,1,none⟩ x1).setCell ⟨b,2,none⟩ x2).setCell ⟨b,3,none⟩ x3).alloc o).heap[b]?=some (.cells #[x0,x1,x2,x3] t (0,0)):=by
 have hl:=aP h;rw[dN _ _ (by simpa [World.setCell] using hl)];simp[World.setCell,aK,h]
theorem aR0{c b o:Nat}{v:Value}(hn:¬ b=c)(h:W.cell? ⟨b,o,none⟩=some v):((((W.setCell ⟨c,0,none⟩ x0).setCell ⟨c,1,none⟩ x1).setCell ⟨c,2,none⟩ x2).setCell ⟨c,3,none⟩ x3).cell? ⟨b,o,none⟩=some v :=
 (On.set (On.set (On.set (On.set (Kp.refl (fun k=>k=c) W) 0 x0) 1 x1) 2 x2) 3 x3).dY h hn
theorem RZ(tb:Nat)(s:ByteArray)(w:World)(h:J2 w tb s)(hz:X.iM (X.file (X.xt (bs s)))≤1073741824)(hb:X.pb (X.file (X.xt (bs s)))=bs s)(hs:s.size≤1073741823) :
  Calls prog 26 #[.pointer (some ⟨tb,0,none⟩)] w fun e w'=>∃ nv,e=.returned nv∧Hid (∃ E,ze w' E nv (X.file (X.xt (bs s)))∧(∀ q,E q→w.heap.size≤q∧q<w'.heap.size)∧Below w.heap.size w w'):=by
 obtain⟨db,dv,B,D,c0,c1,hd,hp,hD⟩:=h.ex;have HS:Hid (∀ W,Below w.heap.size w W→Calls prog 48 #[.pointer (some ⟨B,0,none⟩),.string s] W fun e w'=>∃(a1 a2:Int) (a3:ByteArray) (a4:Option Addr) (a5 a6:Nat),e=.returned (.tuple #[.agg #[.int .i64 a1,.int .i64 a2,.string a3,.slice a4 a5 a6],.string (ba [])]) ∧
   Hid (∃ E,ze w' E (.agg #[.int .i64 a1,.int .i64 a2,.string a3,.slice a4 a5 a6]) (X.file (X.xt (bs s)))∧(∀ q,E q→W.heap.size≤q∧q<w'.heap.size)∧Below W.heap.size W w') ∧
   Hid (∀(S:Nat→Prop) (w2:World),Kp S w' w2→(∀ q,S q→w.heap.size≤q∧q<W.heap.size)→∃ E,ze w2 E (.agg #[.int .i64 a1,.int .i64 a2,.string a3,.slice a4 a5 a6]) (X.file (X.xt (bs s)))∧(∀ q,E q→w.heap.size≤q∧q<w2.heap.size)∧Below w.heap.size w w2)):=fun W hW=>by
  have h1:=NR _ _ (aj _) hz (by rw[hb];have:=eZ s;omega) W D B [] (hp.keep (Kp.aI hW (fun _=>False)) (fun _ _=>id));rw[hb,aJ,Fp] at h1;refine h1.mono ?_;rintro e w' ⟨nv,rfl,E,h2,h3⟩;obtain⟨a1,a2,a3,a4,a5,a6,rfl⟩:=h2.shape;have hz:=hW.size;have hz2:=h3.2.size;refine⟨a1,a2,a3,a4,a5,a6,rfl,⟨E,h2,h3⟩,fun S w2 k2 hS=>⟨E,h2.kept k2 (fun q hs hq=>by have:=(h3.1 q hq).1;have:=(hS q hs).2;omega),fun q hq=>?_,?_⟩⟩
  ·have:=h3.1 q hq
   have:=k2.size;exact⟨by omega,by omega⟩
  ·exact(hW.trans (h3.2.mono hz)).trans (Kp.below k2 (by omega) (fun q hs=>(hS q hs).1))
 have HT:Hid (∀ W,Below w.heap.size w W→Calls prog 49 #[.pointer (some ⟨db,0,none⟩)] W fun e w'=>e=.returned (.string s)∧w'=W):=fun W hW=>NS db s W ((Kp.aI hW (fun _=>False)).dY hd.text id)
 have htb:tb<w.heap.size:=bG w _ c0;have hx:=hd.text;have hdb:db<w.heap.size:=bG w _ hx;have hne0:¬ tb=w.heap.size:=by omega
 have hne1:¬ tb=w.heap.size+1:=by omega
 have hne2:¬ w.heap.size+1=tb:=by omega
 clear h hp hd hD hb hz hx;go_enter func26,ntmps26;go_wp2_with fail
 go_region_held3 (fun w'=>w'.cell? ⟨tb,0,none⟩=some (.pointer (some ⟨db,0,none⟩))∧w'.cell? ⟨tb,1,none⟩=some (.pointer (some ⟨B,0,none⟩)))
  (first|(with_reducible exact⟨d0,d1⟩)|(with_reducible exact⟨aR0 hne1 d0,aR0 hne1 d1⟩)|go_keep)
  ((first
  | (go_at_call 48;refine((HS.o) _ ?_).mono ?_;(first|exact((ay _ w).alloc (aj _) _).drew|exact(((ay _ w).alloc (aj _) _).drew.alloc (by simp) _)|exact(((ay _ w).alloc (aj _) _).alloc (by simp) _).drew);rintro e w5 ⟨a1,a2,a3,a4,a5,a6,rfl,H5,H6⟩;have d0:=(Kp.aI (H5.o.choose_spec).2.2 (fun _=>False)).dY (p:=⟨tb,0,none⟩) (v:=.pointer (some ⟨db,0,none⟩)) (by go_keep) id;have d1:=(Kp.aI (H5.o.choose_spec).2.2 (fun _=>False)).dY (p:=⟨tb,1,none⟩) (v:=.pointer (some ⟨B,0,none⟩)) (by go_keep) id;have hres:=(Kp.aI (H5.o.choose_spec).2.2 (fun _=>False)).heap (b:=w.heap.size) (o:=.cells #[.int .i64 0,.int .i64 0,.string ⟨#[]⟩,.slice none 0 0] 117 (0,0)) (by first|exact aB w _|exact(dN _ _ (by simp)).trans (aB w _)) id;try(have hblk:=(Kp.aI (H5.o.choose_spec).2.2 (fun _=>False)).heap (b:=w.heap.size+1) (o:=.cells #[.int .i64 0,.int .i64 0,.string ⟨#[]⟩,.slice none 0 0] 117 (0,0)) (by first|exact Ke (w.alloc _) _ (gX w _)|exact Ke (w.alloc _).drew _ (gX w _)) id;have t0:=ai w5 _ 0 _ _ _ hblk;have t1:=ai w5 _ 1 _ _ _ hblk;have t2:=ai w5 _ 2 _ _ _ hblk;have t3:=ai w5 _ 3 _ _ _ hblk;have z0:w5.frozen? ⟨w.heap.size+1,0,none⟩=false:=(by simp[World.frozen?,hblk]);have z1:w5.frozen? ⟨w.heap.size+1,1,none⟩=false:=(by simp[World.frozen?,hblk]);have z2:w5.frozen? ⟨w.heap.size+1,2,none⟩=false:=(by simp[World.frozen?,hblk]);have z3:w5.frozen? ⟨w.heap.size+1,3,none⟩=false:=(by simp[World.frozen?,hblk])))
  | (go_at_call 49;refine((HT.o) _ ?_).mono ?_;(first|exact((ay _ w).alloc (aj _) _).drew|exact(((ay _ w).alloc (aj _) _).drew.alloc (by simp) _)|exact(((ay _ w).alloc (aj _) _).alloc (by simp) _).drew);rintro e w4 ⟨rfl,rfl⟩)))
 all_goals
  have m0:=ai w5 _ 0 _ _ _ hres;have m1:=ai w5 _ 1 _ _ _ hres;have m2:=ai w5 _ 2 _ _ _ hres;have m3:=ai w5 _ 3 _ _ _ hres;have f0:w5.frozen? ⟨w.heap.size,0,none⟩=false:=by simp[World.frozen?,hres]
  have f1:w5.frozen? ⟨w.heap.size,1,none⟩=false:=by simp[World.frozen?,hres]
  have f2:w5.frozen? ⟨w.heap.size,2,none⟩=false:=by simp[World.frozen?,hres]
  have f3:w5.frozen? ⟨w.heap.size,3,none⟩=false:=by simp[World.frozen?,hres]
  have hl5:w.heap.size<w5.heap.size:=aP hres;clear H5 HS HT;go_wp2_with fail
 ·refine bI (Hw _ w.heap.size a1 a2 a3 a4 a5 a6 _ _ _ _ _ _ _ _ _ _ _ _ _ _ _ _ _ _ (ZI _ hres)) rfl ⟨_,rfl,?_⟩
  exact(H6.o) (fun q=>q=w.heap.size) _ (Kp.alloc (On.set (On.set (On.set (On.set (Kp.refl _ w5) 0 _) 1 _) 2 _) 3 _) _) (fun q e=>by subst e;simp)
 all_goals
  refine bI (Hw _ w.heap.size a1 a2 a3 a4 a5 a6 _ _ _ _ _ _ _ _ _ _ _ _ _ _ _ _ _ _ ?_) rfl ⟨_,rfl,?_⟩
  ·simp[World.setCell,aK,hres]
  ·refine(H6.o) (fun q=>q=w.heap.size∨q=w.heap.size+1) _ ?_ (fun q e=>by simp;omega)
   repeat(first|(with_reducible exact Kp.refl _ _)|(with_reducible refine Kp.setCell ?_ (fun _=>by simp) _))
end
end Go.Proofs.YtdkpkpgpphkljaaGreatDoor
