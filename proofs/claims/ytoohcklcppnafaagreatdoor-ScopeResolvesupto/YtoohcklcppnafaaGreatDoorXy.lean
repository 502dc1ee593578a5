import Derived.Test.YtoohcklcppnafaaGreatDoorXq
import Derived.Test.YtoohcklcppnafaaGreatDoorOb
namespace Go.Proofs.YtoohcklcppnafaaGreatDoor
set_option maxRecDepth 100000
set_option maxHeartbeats 4000000
open Tryz
open Go.RowKit Go.Shelf
open M
open X
theorem IZ(s:ByteArray):(toks 0 (bs s)).length≤s.size:=by
 have hl:=sZ _ 0 (bs s) (ax _);rw[eY] at hl;exact hl
theorem Lx(s:ByteArray)(hs:s.size≤1073741823)(hl:(toks 0 (bs s)).length≤268435456):iU s (toks 0 (bs s)):=by
 refine⟨hs,hl,fun t ht=>?_,zw (bs s)⟩;have h1:=UZ _ 0 (bs s) (ax _) t ht;rw[eY] at h1;have h2:=zw (bs s) (uI (bs s) t) (fU.2 ⟨t,ht,rfl⟩);exact⟨au,h2.2.2.2.1,h2.2.2.2.2.1⟩
theorem Fz(b:Nat)(v:Value)(s:ByteArray)(w:aG)(h:PY w b v s)(hs:s.size≤1073741823)(hl:(toks 0 (bs s)).length≤268435456) :
  bB 49 #[aH b] w fun e w'=>∃ rb tv,e=.returned (aH rb)∧Hid (qA w' rb s (toks 0 (bs s)) tv 0 0∧w.heap.size≤rb∧(∀ q,tv.ownBlock=some q→w.heap.size≤q∧q<w'.heap.size)∧Below w.heap.size w w'):=by
 have H:=aA h;have hS:=Lx s hs hl;clear h;go_enter func49,ntmps49;go_wp2_with fail
 refine(R7 b v s w H.o).aX fun w1 k1=>?_;have HD1:=aA ((H.o).below k1);have K1:=aA k1;clear k1;go_wp2_with fail
 refine(Co b v s w1 HD1.o au).mono ?_;rintro e w2 ⟨tv,rfl,O2,k2⟩;have K2:=aA ((K1.o).trans (k2.mono (K1.o).size));have HT2:=aA (yt.zP O2.o);have HG2:=aA (dG O2.o);have hz1:=(K1.o).size;have hz2:=k2.size;clear k2 O2;obtain⟨ao,cap,rfl,-⟩:=HT2.o;have hraw:kr (w2.alloc (Obj.cells #[.string s,.slice ao (toks 0 (bs s)).length cap,ak 0,ak 0,ak 0,.string ⟨#[]⟩,ak 0] 190)) w2.heap.size s (.slice ao (toks 0 (bs s)).length cap) ((0:Nat):Int) 0 0 ⟨#[]⟩ ((0:Nat):Int):=aI w2 _;have kA:Below w2.heap.size w2 (w2.alloc (Obj.cells #[.string s,.slice ao (toks 0 (bs s)).length cap,ak 0,ak 0,ak 0,.string ⟨#[]⟩,ak 0] 190)):=(aB _ w2).alloc (ax _) _;have HR:=aA hraw;have lV:=aA kA;clear hraw kA;go_wp2_with fail
 refine(xV w2.heap.size s ⟨#[]⟩ (toks 0 (bs s)) (.slice ao (toks 0 (bs s)).length cap) 0 0 0 0 _ hS HR.o ((HT2.o).below lV.o) (bJ _) (fun k hk e=>by have:=((HG2.o) k hk).2;omega)).aX ?_;rintro w3 ⟨r3,k3⟩;have HR3:=aA r3;have K3:=aA (((K2.o).trans ((lV.o).mono (K2.o).size)).trans (k3.below (by simp;have:=(K2.o).size;omega) (K2.o).size));have hz3:=k3.size;clear r3 k3;go_wp2_with fail
 go_ret;exact⟨w2.heap.size,_,rfl,HR3.o,(K2.o).size,fun q hq=>by have:=(HG2.o) q hq;simp at hz3;exact⟨au,au⟩,K3.o⟩
theorem Wk.grown{w w1:aG}{rb:Nat}{s:ByteArray}{L:List Tk}{tv:Value}{a dp B k:Nat}{rv:Value}{vs:List Value}{ps:List Part}{D D':Nat→Prop}(h:Wk w rb s L tv a dp B k rv vs ps D)(hk:On rb w w1){a':Nat}(hr:qA w1 rb s L tv a' dp)
  (h1:∀ q,D q→D' q) (h2:∀ q,D' q→D q∨w.heap.size≤q) (h3:∀ q,D' q→q<w1.heap.size):Wk w1 rb s L tv a' dp B k rv vs ps D':=by
 have hm:=h.moved hk hr;have hbl:=h.sM.lt;have hrl:=h.iW.raw.lt;refine⟨hr,hm.sM,hm.len,hm.each.mono h1,h3,⟨fun hd=>?_,fun hd=>?_,h.sep.2.2⟩,fun g hg=>⟨fun hd=>?_,(h.oz g hg).2⟩,fun q hq=>?_⟩
 ·rcases h2 _ hd with e|e
  ·exact h.sep.1 e
  ·omega
 ·rcases h2 _ hd with e|e
  ·exact h.sep.2.1 e
  ·omega
 ·rcases h2 _ hd with e|e
  ·exact(h.oz g hg).1 e
  ·have:=(dG h.sM.row g hg).2;omega
 ·obtain⟨a1,a2,a3,a4⟩:=h.uK q hq
  refine⟨fun hd=>?_,a2,a3,(hm.uK q hq).2.2.2⟩;rcases h2 _ hd with e|e
  ·exact a1 e
  ·omega
namespace X
theorem M_{x:ah}{ts:List Tok}(h:dJ x ts=true):(want x ts).2.length<ts.length:=by
 unfold want;rw[aU h];exact fZ (bY h)
theorem rR{f g:R}{ts:List Tok}(hg:eF g)(h:(f ts).2.length<ts.length):(andThen f g ts).2.length<ts.length:=by
 have:=hg.le (f ts).2;show(g (f ts).2).2.length<_;omega
theorem yM(f g:R)(ts:List Tok):(andThen f g ts).2=(g (f ts).2).2:=rfl
theorem Xd{ts:List Tok}(h:dJ jf ts=true):(gW ts).2.length<ts.length:=by
 unfold gW;exact rR (eF.bE.andThen ((eF.want _).andThen (eF.bE.andThen ((eF.ite (c:=dJ [97,115]) (eF.take.andThen eF.bE) eF.nil).andThen (eF.want _))))) (M_ h)
theorem Xe{ts:List Tok}(h:dJ lF ts=true):(gU ts).2.length<ts.length:=by
 unfold gU;exact rR (eF.bE.andThen ((eF.ite (c:=dJ [40]) eF.params eF.nil).andThen ((eF.want _).andThen ((eF.expr 65).andThen (eF.want _))))) (M_ h)
theorem T_{ts:List Tok}(hk:(dm ts==0)=false)(hs:starts ts=false):(iB ts).2.length<ts.length:=by
 have hn:=l_ hk;rw[qZ (by rw[hk,hs];rfl)]
 split
 ·exact fZ hn
 ·exact rR (fun ts=>eF.iE ts.length ts) (fZ hn)
theorem Bh{ts:List Tok}(hk:(dm ts==0)=false):(kid ts).2.2.length<ts.length:=by
 have hn:=l_ hk;cases hs:starts ts with
 | false =>
  have e:kid ts=(5,iB ts):=by rw[kK,hs,aM aT]
  rw[e];exact T_ hk hs
 | true =>
  cases hu:dJ jf (bH ts).2 with
  | true =>
   have e:kid ts=(3,andThen bH gW ts):=by rw[kK,hs,aU rfl,hu,aU rfl]
   have h1:=Xd hu;have h2:=eF.bH.le ts;rw[e];show(andThen bH gW ts).2.length<_;rw[yM];omega
  | false =>
   have e:kid ts=(4,andThen bH gU ts):=by rw[kK,hs,aU rfl,hu,aM aT]
   rw[e];show(andThen bH gU ts).2.length<_;cases hp:dJ jY ts with
   | true =>
    have ho:(bH ts).2.length<ts.length:=by unfold bH;rw[aU hp];exact fZ hn
    exact rR eF.gU ho
   | false =>
    have ho:bH ts=([],ts):=by unfold bH;rw[aM (by rw[hp];simp)]
    rw[ho] at hu;have hd:dJ lF ts=true:=by
     unfold starts at hs;rw[hu,hp] at hs
     simpa using hs
    rw[yM,ho];exact Xe hd
theorem I4:∀(n:Nat) (ts:List Tok),ts.length≤n→mW n ts=mW ts.length ts:=by
 intro n
 induction n using Nat.strongRecOn with
 | _ n ih =>
  intro ts h;rcases cu ts.length n with hlt|hge
  ·cases n with
   | zero=>omega
   | succ n =>
    cases hm:ts.length with
    | zero =>
     have h0:=bP.1 hm;subst h0;rfl
    | succ m =>
     unfold mW;cases hk:(dm ts==0) with
     | true=>rfl
     | false =>
      have hl:=Bh hk;rw[aM aT,aM aT,ih n au _ au,ih m au _ au]
  ·rw[show n=ts.length by omega]
def iy(ts:List Tok):List Part:=mW ts.length ts
theorem Bg{ts:List Tok}(h:(dm ts==0)=true):iy ts=ts.map lf:=by
 unfold iy;cases ts.length with
 | zero=>rfl
 | succ m=>unfold mW;rw[aU h]
theorem xR{ts:List Tok}(h:(dm ts==0)=false):iy ts=.br (kid ts).1 (kid ts).2.1::iy (kid ts).2.2:=by
 have hl:=Bh h;unfold iy;obtain⟨m,hm⟩:∃ m,ts.length=m+1:=⟨ts.length - 1,au⟩;rw[hm]
 conv=>lhs;unfold mW
 rw[aM (by rw[h];simp),I4 m _ au]
end X
structure Ld(w:aG)(tb:Nat)(s:ByteArray):Prop where
 ex:∃(db:Nat) (dv:Value) (B:Nat) (D:Nat→Prop),w.cell? (aC tb 0)=some (aH db)∧w.cell? (aC tb 1)=some (aH B)∧PY w db dv s∧uJ w D (.iface 127 (aH B)) (X.file (xt (bs s)))∧∀ q,D q→q<w.heap.size
theorem PY.keep{S:Nat→Prop}{w w':aG}{b:Nat}{v:Value}{s:ByteArray}(h:PY w b v s)(hk:Kp S w w')(h1:¬ S b)(h2:∀ k,v.ownBlock=some k→¬ S k):PY w' b v s :=
 ⟨hk.dD h.text h1,hk.dD h.held h1,h.row.keep hk h2⟩
theorem I5(s:ByteArray)(w:aG)(hT:nE w)(hs:s.size≤1073741823)(hl:(toks 0 (bs s)).length≤134217728) :
  bB 27 #[.string s] w fun e w'=>∃ tb,e=.returned (aH tb)∧Hid (Ld w' tb s∧Below w.heap.size w w'):=by
 have hS:=Lx s au au;go_enter func27,ntmps27;go_wp2_with fail
 refine(V7 s w hT au).mono ?_;rintro e w1 ⟨db,rfl,H1⟩;go_wp2_with fail
 obtain⟨dv,g1,g2,g3,g4,g5⟩:=H1.o;have HD:=aA g3;have K1:=aA g5;have hdb:=g2;have HDV:Hid (∀ k,dv.ownBlock=some k→k<w1.heap.size):=fun k hk=>by have:=(g4 k hk).2;omega
 have kA:Below w1.heap.size w1 (w1.alloc (Obj.cells #[ak 2,.slice none 0 0] 130)):=(aB _ w1).alloc (ax _) _;have hnew:(w1.alloc (Obj.cells #[ak 2,.slice none 0 0] 130)).heap[w1.heap.size]?=some (.cells #[ak 2,.slice none 0 0] 130 (0,0)):=aI w1 _;have hzA:(w1.alloc (Obj.cells #[ak 2,.slice none 0 0] 130)).heap.size=w1.heap.size+1:=aT
 clear g1 g2 g3 g4 g5 H1;refine(Fz db dv s _ ((HD.o).below kA) au au).mono ?_;rintro e w3 ⟨rb,tv,rfl,H3⟩;have HW:Hid (Wk w3 rb s (toks 0 (bs s)) tv 0 0 w1.heap.size 2 (.slice none 0 0) [] [] (fun _=>False)):=by
  obtain⟨r1,r2,r3,r4⟩:=H3.o;refine⟨r1,⟨(Kp.aN r4 (fun _=>False)).heap hnew id,dK _ _ _ _⟩,rfl,Each.nil _ _,(fun q hq=>hq.elim),⟨id,id,au⟩,(fun g hg=>by cases hg),fun q hq=>?_⟩;have:=r3 q hq;exact⟨id,au,(fun e=>by cases e),this.2⟩
 have K3:=aA <| (K1.o).trans ((kA.trans ((H3.o).2.2.2.mono au)).mono (K1.o).size);have HD3:=aA (((HD.o).below kA).below (H3.o).2.2.2);have hrb:=(H3.o).2.1;have hz1:=(K1.o).size;clear H3 hnew kA;have hL:=hS.len;have e0:aR s (toks 0 (bs s)) 0=xt (bs s):=by unfold aR xt;simp
 go_wp2_with fail
 go_loopw [] (fun wr=>∃(a:Nat) (rv:Value) (vs:List Value) (ps:List Part) (D:Nat→Prop),ps.length≤a∧Hid (Wk wr rb s (toks 0 (bs s)) tv a 0 w1.heap.size 2 rv vs ps D)∧Hid (iy (xt (bs s))=ps++iy (aR s (toks 0 (bs s)) a))∧Hid (∀ g,rv.ownBlock=some g→w3.heap.size≤g)∧Hid (∀ q,D q→w3.heap.size≤q)∧Hid (Kp (fun q=>q=rb∨q=w1.heap.size) w3 wr)) (fun wr=>(toks 0 (bs s)).length - Yk rb wr)
 case atStart=>exact⟨0,_,_,_,_,ax _,HW,(by show _=_;rw[e0];rfl),(fun g hg=>by cases hg),(fun q hq=>hq.elim),Kp.refl _ _⟩
 case round =>
  obtain⟨a,rv,vs,ps,D,hpa,Ua,HE,HG,HDD,HK⟩:=hrel;have hle:=(Ua.o).iW.le;have kI:(dm (aR s (toks 0 (bs s)) a) !=0)=!(dm (aR s (toks 0 (bs s)) a)==0):=rfl;have hat:=(bU.refl (Ua.o)).at
  have hln:∀ a,(aR s (toks 0 (bs s)) a).length=(toks 0 (bs s)).length - a:=fun a=>by unfold aR;simp
  go_wp2_with fail
  refine(Iz rb s (toks 0 (bs s)) tv a 0 wr (Ua.o).iW).mono ?_;rintro e w4 ⟨rfl,rfl⟩;rw[kI];cases hk:(dm (aR s (toks 0 (bs s)) a)==0) with
  | false =>
   have hlt:=Bh hk;have HF:=aA (xR hk);go_wp2_with fail
   refine(Xb hS rb tv a w4 (Ua.o).iW D (Ua.o).IA (Ua.o).sep.1 (fun q hq=>⟨((Ua.o).uK q hq).1,((Ua.o).uK q hq).2.2.2⟩)).mono ?_;rintro e w5 ⟨N,D',a',rfl,H5⟩;have Jr:=aA <| (Ua.o).grown (H5.o).2.2.2.2.2.2 (H5.o).1 (H5.o).2.2.2.1 (H5.o).2.2.2.2.1 (H5.o).2.2.2.2.2.1;have hvl:vs.length≤1073741824:=by rw[(Ua.o).len];omega
   unfold Xa;generalize hnn:(aR s (toks 0 (bs s)) a).length - (X.kid (aR s (toks 0 (bs s)) a)).2.2.length=nn;have HNN:Hid (nn=(pl (.br (X.kid (aR s (toks 0 (bs s)) a)).1 (X.kid (aR s (toks 0 (bs s)) a)).2.1)).length):=by
    have h:=congrArg List.length (EY (aR s (toks 0 (bs s)) a));rw[ay] at h;show nn=(sK (X.kid (aR s (toks 0 (bs s)) a)).2.1).length;omega
   clear hnn;go_wp2_with fail
   refine(wO w1.heap.size 2 rv vs 135 _ w5 (Jr.o).sM (fun g hg=>((Jr.o).oz g hg).2.2) hvl).aX ?_;rintro w6 ⟨rv6,b6,o6,k6⟩;have HN:Hid (∃(a2:Nat) (O7:Value) (vs2:List Value) (ps2:List Part) (D2:Nat→Prop),a<a2∧a2≤(toks 0 (bs s)).length∧ps2.length≤a2∧Hid (Wk w6 rb s (toks 0 (bs s)) tv a2 0 w1.heap.size 2 O7 vs2 ps2 D2)∧Hid (iy (xt (bs s))=ps2++iy (aR s (toks 0 (bs s)) a2))∧Hid (∀ g,O7.ownBlock=some g→w3.heap.size≤g)∧Hid (∀ q,D2 q→w3.heap.size≤q)∧Hid (Kp (fun q=>q=rb∨q=w1.heap.size) w3 w6)):=by
    obtain⟨f1,f2,f3,f4,f5,f6,f7⟩:=H5.o;have bR7:=(HK.o).size;have cU6:=f7.size;have hpk:uJ w6 D' (.iface 135 (.agg #[aH N,ak nn])) (.br (X.kid (aR s (toks 0 (bs s)) a)).1 (X.kid (aR s (toks 0 (bs s)) a)).2.1):=.kid N nn _ HNN.o (f3.keep k6 (fun q hq e=>by
     rcases e with e|e
     ·subst e;exact(Jr.o).sep.2.1 hq
     ·exact((Jr.o).oz q e).1 hq))
    have hw6:=(Jr.o).added b6 o6 k6 hpk;have hle':=f1.le;have hlt':a<a':=by
     rw[← f2,hln,hln] at hlt;omega
    refine⟨a',rv6,_,_,D',hlt',hle',by rw[ay];simp;omega,hw6,?_,fun g hg=>?_,fun q hq=>?_,?_⟩
    ·show _=_
     rw[HE.o,HF.o,f2,aK];rfl
    ·rcases o6 g hg with e|e
     ·exact(HG.o) g e
     ·omega
    ·rcases f5 q hq with e|e
     ·exact(HDD.o) q e
     ·omega
    ·refine Kp.trans (Kp.trans (HK.o) f7 (fun i _ e=>.inl e)) k6 (fun i hi e=>?_)
     rcases e with e|e
     ·exact .inr e
     ·have:=(HG.o) i e;omega
   clear b6 o6 k6 Jr H5;obtain⟨a2,O7,vs2,ps2,D2,n1,n2,n3,n4,n5,n6,n7,n8⟩:=HN.o;go_wp2_with fail
   refine⟨⟨a2,O7,vs2,ps2,D2,n3,n4,n5,n6,n7,n8⟩,?_⟩;rw[hat,(bU.refl n4.o).at,hln,hln];omega
  | true =>
   have HF:=aA (Bg hk);go_wp2_with fail
   refine(TJ s (toks 0 (bs s)) 0 hS rb tv a w1.heap.size 2 rv vs ps D w4 Ua.o trivial (by simp only[cB];rw[hln];omega)).aX fun w5 H5=>?_;have HR:Hid (∃ D2:Nat→Prop,uJ w5 D2 (.iface 127 (aH w1.heap.size)) (X.file (xt (bs s)))∧(∀ q,D2 q→q<w5.heap.size)∧PY w5 db dv s∧Below w.heap.size w w5):=by
    obtain⟨a5,rv5,vs5,D5,f1,f2,f3,f4,f5,f6⟩:=H5.o;have bR7:=(HK.o).size;have hp:=f1.part;have he:ps++(aR s (toks 0 (bs s)) a).map lf=iy (xt (bs s)):=by rw[HE.o,HF.o]
    simp only[he] at hp;have hkk:=Kp.trans (HK.o) f6 (fun i hi e=>by
     rcases e with e|e|e
     ·exact .inl e
     ·exact .inr e
     ·have:=(HG.o) i e;omega)
    refine⟨_,hp,?_,?_,?_⟩
    ·rintro q (e|e|e)
     ·exact f1.IA q e
     ·subst e;exact f1.sM.lt
     ·exact(dG f1.sM.row q e).2
    ·refine(HD3.o).keep hkk ?_ (fun k hk=>?_)
     ·rintro(e|e)<;>omega
     ·have:=(HDV.o) k hk
      rintro(e|e)<;>omega
    ·exact(K3.o).trans (Kp.below hkk (by have:=(K3.o).size;omega) (fun k e=>by rcases e with e|e<;>omega))
   clear H5;go_wp2_with fail
   go_ret;obtain⟨D2,f1,f2,f3,f4⟩:=HR.o;have kT:Below w5.heap.size w5 (w5.alloc (Obj.cells #[aH db,aH w1.heap.size] 139)):=(aB _ w5).alloc (ax _) _;refine⟨w5.heap.size,rfl,⟨⟨db,dv,w1.heap.size,D2,?_,?_,f3.below kT,f1.keep (Kp.aN kT (fun _=>False)) (fun _ _=>id),fun q hq=>by have:=f2 q hq;simp;omega⟩⟩,f4.trans (kT.mono f4.size)⟩
   ·rw[aj _ _ 0 _ _ _ (aI w5 _)];rfl
   ·rw[aj _ _ 1 _ _ _ (aI w5 _)];rfl
theorem Hl(s:ByteArray)(w:aG)(hT:nE w)(hs:s.size≤134217728) :
  bB 27 #[.string s] w fun e w'=>∃ tb,e=.returned (aH tb)∧Hid (Ld w' tb s∧Below w.heap.size w w'):=I5 s w hT au (by have:=IZ s;omega)
section
variable{w w':aG}{D E:Nat→Prop}{v:Value}{p:Part}{i:Nat}
inductive zx(w:aG)(D:Nat→Prop):Value→Part→Prop
 | leaf (k:Nat) (x:ah):zx w D (.agg #[ak 0,ak k,.string (ba x),.slice none 0 0]) (.leaf k x)
 | miss (m:ah):zx w D (.agg #[ak 1,ak 0,.string (ba m),.slice none 0 0]) (.miss m)
 | br (k cap:Nat) (ao:Option Addr) (c0 c1 c2 c3:Nat→Value) (ps:List Part) (hc:ps.length≤cap∧cap≤maxLen)
   (hr:∀ i,i<ps.length→∃ g,ao=some ⟨g,0,none⟩∧D g∧w.cell? (aC g (i*4))=some (c0 i)∧w.cell? (aC g (i*4+1))=some (c1 i)∧w.cell? (aC g (i*4+2))=some (c2 i)∧w.cell? (aC g (i*4+3))=some (c3 i))
   (hp:∀(i:Nat) (p:Part),ps[i]?=some p→zx w D (.agg #[c0 i,c1 i,c2 i,c3 i]) p):zx w D (.agg #[ak k,ak 0,.string ⟨#[]⟩,.slice ao ps.length cap]) (.br k ps)
theorem zx.kept{S:Nat→Prop}(kk:Kp S w w')(hS:∀ q,S q→¬ D q)(h:zx w D v p):zx w' D v p:=by
 induction h with
 | leaf k x=>exact .leaf k x
 | miss m=>exact .miss m
 | br k cap ao c0 c1 c2 c3 ps hc hr hp ih =>
  exact .br k cap ao c0 c1 c2 c3 ps hc (fun i hi=>by
   obtain⟨g,h1,h0,h2,h3,h4,h5⟩:=hr i hi;have hn:¬ S g:=fun e=>hS g e h0
   exact⟨g,h1,h0,kk.dD h2 hn,kk.dD h3 hn,kk.dD h4 hn,kk.dD h5 hn⟩) ih
theorem zx.low(hb:∀ q,D q→E q)(h:zx w D v p):zx w E v p:=by
 induction h with
 | leaf k x=>exact .leaf k x
 | miss m=>exact .miss m
 | br k cap ao c0 c1 c2 c3 ps hc hr hp ih =>
  exact .br k cap ao c0 c1 c2 c3 ps hc (fun i hi=>by
   obtain⟨g,h1,h0,h2⟩:=hr i hi;exact⟨g,h1,hb g h0,h2⟩) ih
theorem Ph(k:Nat)(x r:ah)(w:aG)(hl:x.length≤1073741824) :
  bB 223 #[.agg #[ak k,ak x.length],.string (ba (x++r))] w (cK (.tuple #[.agg #[ak 0,ak k,.string (ba x),.slice none 0 0],.string (ba r)]) fun w'=>Below w.heap.size w w'):=by
 have hs:(ba (x++r)).size=x.length+r.length:=by rw[zo,ay]
 have e1:(ba (x++r)).extract 0 x.length=ba x:=iD (by rw[V6,rV,rV,List.take_left]);have e2:(ba (x++r)).extract x.length (ba (x++r)).size=ba r:=iD (by rw[uo,rV,rV,List.drop_left]);rw[hs] at e2;generalize hT:ba (x++r)=T at *;have i1:(x.length:Int)≤(T.size:Int):=au
 have i2:x.length≤T.size:=au
 go_enter func223,ntmps223;go_wp2_with fail
 go_region
 all_goals go_wp2_with fail
 all_goals
  exact aW (v:=.tuple #[.agg #[ak 0,ak k,.string (ba x),.slice none 0 0],.string (ba r)]) (by simp[results,results223,go_sem]) rfl ⟨rfl,by
   first
    | exact(((aB _ w).alloc (ax _) _).alloc aT _).drew
    | exact(((aB _ w).alloc (ax _) _).alloc aT _)
    | exact(((aB _ w).drew.alloc (ax _) _).alloc aT _)⟩
theorem Pj(m:ah)(t:ByteArray)(w:aG) :
  bB 238 #[.string (ba m),.string t] w (cK (.tuple #[.agg #[ak 1,ak 0,.string (ba m),.slice none 0 0],.string t]) fun w'=>Below w.heap.size w w'):=by
 go_enter func238,ntmps238;go_wp2_with fail
 exact aW (v:=.tuple #[.agg #[ak 1,ak 0,.string (ba m),.slice none 0 0],.string t]) (by simp[results,results238,go_sem]) rfl ⟨rfl,(aB _ w).alloc (ax _) _⟩
namespace X
mutual
def jh:Part→Nat
 | .leaf _ _=>1
 | .miss _=>1
 | .br _ ps=>1+eT ps
def eT:List Part→Nat
 | []=>0
 | p::ps=>jh p+eT ps
end
theorem jA(p:Part):1≤jh p:=by cases p<;>simp[jh]
theorem iH:∀ ps:List Part,ps.length≤eT ps
 | []=>ax _
 | p::ps=>by have:=iH ps;have:=jA p;simp[eT];omega
theorem gX:∀(ps:List Part) (i:Nat) (p:Part),ps[i]?=some p→jh p≤eT ps
 | [],i,p,h=>by simp at h
 | q::ps,0,p,h=>by
  obtain rfl:q=p:=by simpa using h
  simp[eT]
 | q::ps,i+1,p,h=>by have:=gX ps i p (by simpa using h);simp[eT];omega
theorem Na:∀(ps:List Part) (i:Nat) (p:Part),ps[i]?=some p→(pb p).length≤(mM ps).length
 | [],i,p,h=>by simp at h
 | q::ps,0,p,h=>by
  obtain rfl:q=p:=by simpa using h
  simp[mM]
 | q::ps,i+1,p,h=>by have:=Na ps i p (by simpa using h);simp[mM];omega
theorem Ub{ps:List Part}{p:Part}(h:ps[i]?=some p):mM (ps.drop i)=pb p++mM (ps.drop (i+1)):=by
 have hi:i<ps.length:=by
  rcases cu i ps.length with g|g
  ·exact g
  ·rw[bf g] at h;cases h
 rw[dS hi,mM,bQ ((aF hi).symm.trans h)]
end X
theorem aX0:(prog.info? 116).map (fun i=>(i.zero,i.size,i.bytes))=some (some (.agg #[ak 0,ak 0,.string ⟨#[]⟩,.slice none 0 0]),4,56):=bC
abbrev Q4:=Value × Value × Value × Value
def q4(q:Q4):List Value:=[q.1,q.2.1,q.2.2.1,q.2.2.2]
def q4v(q:Q4):Value:=.agg #[q.1,q.2.1,q.2.2.1,q.2.2.2]
theorem zx.shape(h:zx w D v p):∃(a c:Int) (s:ByteArray) (ao:Option Addr) (n cap:Nat),v=q4v (ak a,ak c,.string s,.slice ao n cap):=by
 cases h with
 | leaf k x=>exact⟨_,_,_,_,_,_,rfl⟩
 | miss m=>exact⟨_,_,_,_,_,_,rfl⟩
 | br k cap ao c0 c1 c2 c3 ps hc hr hp=>exact⟨_,_,_,_,_,_,rfl⟩
def BOk(p:Part):Prop:=(X.pb p).length≤1073741824→∀(w:aG) (D:Nat→Prop) (N:Nat) (r:ah),uJ w D (.iface 127 (aH N)) p →
 bB 71 #[aH N,.string (ba (X.pb p++r))] w fun e w'=>∃ nv,e=.returned (.tuple #[nv,.string (ba r)])∧Hid (∃ E,zx w' E nv p∧(∀ q,E q→w.heap.size≤q∧q<w'.heap.size)∧Below w.heap.size w w')
theorem Pk (a b : Value) (w : World) : (Go.method 460 243 (.agg #[a, b]) "amanuensis/tree.show").run Tryz.prog w = .ok (223, .agg #[a, b]) w := by kernel_rfl
theorem Pm (m : ByteArray) (w : World) : (Go.method 460 306 (.string m) "amanuensis/tree.show").run Tryz.prog w = .ok (238, .string m) w := by kernel_rfl
theorem Xf (p : Option Addr) (w : World) : (Go.method 460 127 (.pointer p) "amanuensis/tree.show").run Tryz.prog w = .ok (71, .pointer p) w := by kernel_rfl
theorem Uc (p : Option Addr) (n : Value) (w : World) : (Go.method 460 135 (.agg #[.pointer p, n]) "amanuensis/tree.show").run Tryz.prog w = .ok (71, .pointer p) w := by kernel_rfl
theorem Ud:∀ args w,(callFunc 223 args).run prog w=.ok (.enter 223 args) w:=enters_of func223 bC rfl
theorem Ue:∀ args w,(callFunc 238 args).run prog w=.ok (.enter 238 args) w:=enters_of func238 bC rfl
theorem I6:∀ args w,(callFunc 71 args).run prog w=.ok (.enter 71 args) w:=enters_of func71 bC rfl
theorem Pn(h:uJ w D v p)(hl:(X.pb p).length≤1073741824)(hB0:BOk p) :
  ∃ ty x fid recv, v = .iface ty x ∧ (∀ W, (Go.method 460 ty x "amanuensis/tree.show").run Tryz.prog W = .ok (fid, recv) W) ∧ (∀ args W, (callFunc fid args).run Tryz.prog W = .ok (.enter fid args) W) ∧
   ∀(W:aG) (r:ah),Below w.heap.size w W→Calls prog fid #[recv,.string (ba (X.pb p++r))] W fun e w'=>∃ nv,e=.returned (.tuple #[nv,.string (ba r)])∧Hid (∃ E,zx w' E nv p∧(∀ q,E q→W.heap.size≤q∧q<w'.heap.size)∧Below W.heap.size W w'):=by
 have hB:=hB0 hl;cases h with
 | leaf k x =>
  refine⟨_,_,_,_,rfl,fun W=>Pk _ _ W,Ud,fun W r _=>?_⟩;refine(Ph k x r W hl).aX fun w' h2=>?_;exact⟨_,rfl,fun _=>False,.leaf k x,fun _ h=>h.elim,h2⟩
 | miss m =>
  refine⟨_,_,_,_,rfl,fun W=>Pm _ W,Ue,fun W r _=>?_⟩;refine(Pj m _ W).aX fun w' h2=>?_;exact⟨_,rfl,fun _=>False,.miss m,fun _ h=>h.elim,h2⟩
 | br k N cap ao vs ps hN hb hc hr hp =>
  refine⟨_,_,_,_,rfl,fun W=>Xf _ W,I6,fun W r hk=>?_⟩;exact hB W D N r ((uJ.br k N cap ao vs ps hN hb hc hr hp).keep (Kp.aN hk (fun _=>False)) (fun _ _=>id))
 | kid N n q hn hq =>
  refine⟨_,_,_,_,rfl,fun W=>Uc _ _ W,I6,fun W r hk=>?_⟩;exact hB W D N r (hq.keep (Kp.aN hk (fun _=>False)) (fun _ _=>id))
structure Uf(w:aG)(k:Nat)(ps:List Part)(j:Nat)(kv:Value)(qs:List Q4)(E:Nat→Prop)(wr:aG):Prop where
 res:wr.heap[w.heap.size]?=some (.cells #[ak 0,ak 0,.string ⟨#[]⟩,.slice none 0 0] 116 (0,0))
 Vo:wr.heap[w.heap.size+1]?=some (.cells #[ak k,ak 0,.string ⟨#[]⟩,kv] 116 (0,0))
 row:wr.ownsRow (w.heap.size+2) 116 4 kv j (qs.flatMap q4)
 len:qs.length=j
 kids:∀(i:Nat) (q:Q4) (p:Part),qs[i]?=some q→ps[i]?=some p→zx wr E (q4v q) p
 sep:∀ q,E q→w.heap.size+2≤q∧q<wr.heap.size∧kv.ownBlock≠some q
 BQ:Below w.heap.size w wr
 sz:w.heap.size+2≤wr.heap.size
theorem FB{qs:List Q4}{q:Q4}{j:Nat}(h:qs[i]?=some q)(hj:j<4):(qs.flatMap q4)[i*4+j]?=(q4 q)[j]?:=by
 induction qs generalizing i with
 | nil=>simp at h
 | cons a L ih =>
  cases i with
  | zero =>
   obtain rfl:a=q:=by simpa using h
   rw[nX,bT (by simp[q4];omega)];simp
  | succ i =>
   rw[nX,bL (by simp[q4];omega),show(i+1)*4+j - (q4 a).length=i*4+j by simp[q4];omega];exact ih (by simpa using h)
theorem Uf.node{wr:aG}{k:Nat}{ps:List Part}{kv:Value}{qs:List Q4}(h:Uf w k ps ps.length kv qs E wr)(hk:Kp (fun q=>q=w.heap.size) wr w'):zx w' (fun q=>w.heap.size≤q∧q<w'.heap.size) (.agg #[ak k,ak 0,.string ⟨#[]⟩,kv]) (.br k ps):=by
 have hcells:=fun g hg=>h.row.cells (g:=g) hg
 have hlen:=h.len;rcases h.row.2 with ⟨rfl,h0⟩|⟨g,cap,cur,rfl,hb,hg,hn,hm,hsz,ht⟩
 ·have hp:=bP.1 h0
  subst hp;exact .br k 0 none (fun _=>undef) (fun _=>undef) (fun _=>undef) (fun _=>undef) [] ⟨ax _,by unfold maxLen;omega⟩ (fun i hi=>by simp at hi) (fun i p hp=>by simp at hp)
 ·have hgn:¬(g=w.heap.size):=by omega
  have hq:∀ i,i<ps.length→qs[i]?=some (qs.getD i (undef,undef,undef,undef)):=fun i hi=>by
   rw[bG,aF au];rfl
  refine .br k cap (b_ g) (fun i=>(qs.getD i (undef,undef,undef,undef)).1) (fun i=>(qs.getD i (undef,undef,undef,undef)).2.1) (fun i=>(qs.getD i (undef,undef,undef,undef)).2.2.1) (fun i=>(qs.getD i (undef,undef,undef,undef)).2.2.2) ps ⟨hn,hm⟩ (fun i hi=>⟨g,rfl,⟨au,by have:=bN hg;have:=hk.size;omega⟩,?_,?_,?_,?_⟩) (fun i p hp=>?_)
  ·have:=hcells g rfl _ _ ((FB (hq i hi) (au:0<4)).trans rfl)
   rw[dQ,bS] at this;exact hk.dD this hgn
  ·have:=hcells g rfl _ _ ((FB (hq i hi) (au:1<4)).trans rfl)
   rw[dQ,bS] at this;exact hk.dD this hgn
  ·have:=hcells g rfl _ _ ((FB (hq i hi) (au:2<4)).trans rfl)
   rw[dQ,bS] at this;exact hk.dD this hgn
  ·have:=hcells g rfl _ _ ((FB (hq i hi) (au:3<4)).trans rfl)
   rw[dQ,bS] at this;exact hk.dD this hgn
  ·have hi:i<ps.length:=by
    rcases cu i ps.length with g|g
    ·exact g
    ·rw[bf g] at hp;cases hp
   exact((h.kids i _ p (hq i hi) hp).kept hk (fun q e e2=>by have:=h.sep q e2;omega)).low (fun q e=>by have:=h.sep q e;have:=hk.size;omega)
theorem LA(w:aG)(o:Obj){n:Nat}(h:w.heap.size=n):(w.alloc o).heap[n]?=some o:=h ▸ aI w o
theorem Po:∀(n:Nat) (p:Part),jh p≤n→jh p≤1073741824→BOk p:=by
 intro n
 induction n with
 | zero=>intro p h;have:=jA p;omega
 | succ n ih =>
  intro p hn hbig hpl w D N r hp;cases hp with
  | br k N cap ao vs ps hN hb hc hr hp =>
  obtain⟨i0,hi0,hz0,hz1,hz2⟩:=dM aX0;have hps:eT ps≤n∧eT ps≤1073741824:=by simp only[jh] at hn hbig;omega
  have hlen:=X.iH ps;have UF:Hid (∀(i:Nat) (q:Part),ps[i]?=some q→BOk q):=fun i q hq=>by
   have:=X.gX ps i q hq;exact ih q au au
  have HR:=aA hr;have HP:=aA hp;have rC:=bN hb;have c0:w.cell? (aC N 0)=some (ak k):=aj w _ 0 _ _ _ hb;have c1:w.cell? (aC N 1)=some (.slice ao ps.length cap):=aj w _ 1 _ _ _ hb;have hpl':(mM ps).length≤1073741824:=by rw[X.pb] at hpl;exact hpl
  have et:X.pb (.br k ps)++r=mM (ps.drop 0)++r:=by rw[List.drop_zero,X.pb]
  rw[et];clear et ih hr hp hb hn hbig;go_enter func71,ntmps71;go_wp2_with fail
  have HI0:Hid (Uf w k ps 0 (.slice none 0 0) [] (fun _=>False) ((w.alloc (Obj.cells #[ak 0,ak 0,.string ⟨#[]⟩,.slice none 0 0] 116)).alloc (Obj.cells #[ak k,ak 0,.string ⟨#[]⟩,.slice none 0 0] 116))):=by
   refine⟨(eG (w.alloc _) _ (show w.heap.size<_ by simp)).trans (aI w _),?_,dK _ _ _ _,rfl,(fun i q p h=>by simp at h),(fun q h=>h.elim),((aB _ w).alloc (ax _) _).alloc aT _,aT⟩;have:=aI (w.alloc (Obj.cells #[ak 0,ak 0,.string ⟨#[]⟩,.slice none 0 0] 116)) (Obj.cells #[ak k,ak 0,.string ⟨#[]⟩,.slice none 0 0] 116)
   rwa[fB] at this
  go_loopw [1,20] (fun tv iv wr=>∃(j:Nat) (kv:Value) (qs:List Q4) (E:Nat→Prop),tv=.string (ba (mM (ps.drop j)++r))∧iv=ak j∧j≤ps.length∧Hid (Uf w k ps j kv qs E wr)) (fun _ iv _=>ps.length - (intOf iv).toNat)
  case atStart=>exact⟨0,_,_,_,rfl,rfl,bJ _,HI0⟩
  case round =>
   obtain⟨j,kv,qs,E,rfl,rfl,hj,HI⟩:=hrel;clear HI0;obtain⟨uF,cap2,rfl⟩:∃ uF cap2,kv=.slice uF j cap2:=by
    rcases(HI.o).row.2 with ⟨h,h0⟩|⟨g,cap,cur,h,-⟩
    ·exact⟨none,0,by rw[h,h0]⟩
    ·exact⟨_,_,h⟩
   have n0:=aj wr _ 0 _ _ _ (HI.o).Vo;have n1:=aj wr _ 1 _ _ _ (HI.o).Vo;have n2:=aj wr _ 2 _ _ _ (HI.o).Vo;have n3:=aj wr _ 3 _ _ _ (HI.o).Vo;by_cases hlt:j<ps.length
   case neg =>
    obtain rfl:j=ps.length:=au
    have i1:decide (ps.length<ps.length)=false:=aT
    have i2:decide ((ps.length:Int)<(ps.length:Int))=false:=aT
    have m0:=aj wr _ 0 _ _ _ (HI.o).res;have m1:=aj wr _ 1 _ _ _ (HI.o).res;have m2:=aj wr _ 2 _ _ _ (HI.o).res;have m3:=aj wr _ 3 _ _ _ (HI.o).res;have fz:∀ o,wr.frozen? (aC w.heap.size o)=false:=fun o=>dO (HI.o).res
    have f0:=fz 0;have f1:=fz 1;have f2:=fz 2;have f3:=fz 3;have er:ba (mM (ps.drop ps.length)++r)=ba r:=by rw[List.drop_length];rfl
    rw[er];have HF:Hid (∀ w',Kp (fun q=>q=w.heap.size) wr w'→∃ E,zx w' E (.agg #[ak k,ak 0,.string ⟨#[]⟩,.slice uF ps.length cap2]) (.br k ps)∧(∀ q,E q→w.heap.size≤q∧q<w'.heap.size)∧Below w.heap.size w w'):=fun w' hk=>⟨_,(HI.o).node hk,fun _ h=>h,(HI.o).BQ.trans (Kp.below hk (by have:=(HI.o).sz;omega) (fun q e=>au))⟩
    clear er UF HR HP hj;go_wp2_with fail
    try simp only[Exit.inBlock,Exit.then]
    refine aW (v:=.tuple #[.agg #[ak k,ak 0,.string ⟨#[]⟩,.slice uF ps.length cap2],.string (ba r)]) ?_ rfl ?_
    ·simp[results,results71,go_sem,m0,m1,m2,m3]
    ·exact⟨_,rfl,(HF.o) _ (On.set (On.set (On.set (On.set (Kp.refl _ wr) 0 _) 1 _) 2 _) 3 _)⟩
   have hget:=aF hlt;obtain⟨g,rfl,hDg,hcell⟩:=(HR.o) j hlt;have hgl:g<w.heap.size:=dU w _ hcell;have hdrop:=Ub hget;have aX2:=Pn ((HP.o) j ps[j] hget) (dI (Na ps j _ hget) hpl') ((UF.o) j ps[j] hget);obtain⟨ty,x,fid,recv,hv,hm,hen,hcall⟩:=aX2;have I7:=aA hcall;have p1:wr.cell? (aC g j)=some (.iface ty x):=by
    have:=(Kp.aN (HI.o).BQ (fun _=>False)).dD hcell id
    rwa[hv] at this
   have i1:decide (j<ps.length)=true:=aQ
   have i2:decide ((j:Int)<(ps.length:Int))=true:=aQ
   rw[hdrop,aK];clear hcall hv hdrop;go_wp2_with fail
   have kA:Below wr.heap.size wr (wr.alloc (Obj.cells #[ak 0,ak 0,.string ⟨#[]⟩,.slice none 0 0] 116)):=(aB _ wr).alloc (ax _) _;have hkb:(wr.alloc (Obj.cells #[ak 0,ak 0,.string ⟨#[]⟩,.slice none 0 0] 116)).heap[wr.heap.size]?=some (.cells #[ak 0,ak 0,.string ⟨#[]⟩,.slice none 0 0] 116 (0,0)):=aI wr _;have hszA:(wr.alloc (Obj.cells #[ak 0,ak 0,.string ⟨#[]⟩,.slice none 0 0] 116)).heap.size=wr.heap.size+1:=aT
   refine((I7.o) _ (mM (ps.drop (j+1))++r) ((HI.o).BQ.trans (kA.mono (HI.o).BQ.size))).mono ?_;rintro e w5 ⟨nv,rfl,H5⟩;obtain⟨E5,YV,YW,h53⟩:=H5.o;obtain⟨qa,qb,qc,qd,qn,qp,hq⟩:=YV.shape;subst hq;have H51:=aA YV;have H52:=aA YW;have H53:=aA h53;clear YV YW h53 H5;unfold q4v;have k5:=kA.trans ((H53.o).mono au);have Ug:=(Kp.aN H53.o (fun _=>False)).heap hkb id;have Nb:=(Kp.aN k5 (fun _=>False)).heap (HI.o).Vo id;have Gr:=Kp.owns (Kp.aN k5 (fun _=>False)) (HI.o).row (fun _ _=>id);have hz5:wr.heap.size+1≤w5.heap.size:=by have:=(H53.o).size;omega
   have cU9:=(HI.o).sz;have b0:=aj w5 _ 0 _ _ _ Ug;have b1:=aj w5 _ 1 _ _ _ Ug;have b2:=aj w5 _ 2 _ _ _ Ug;have b3:=aj w5 _ 3 _ _ _ Ug;have e0:∀ o,w5.frozen? (aC wr.heap.size o)=false:=fun o=>dO Ug
   have d0:=e0 0;have d1:=e0 1;have d2:=e0 2;have d3:=e0 3;have x3:=aj w5 _ 3 _ _ _ Nb;have x4:w5.frozen? (aC (w.heap.size+1) 3)=false:=dO Nb
   have lT:=aA Gr;clear Gr kA hkb e0 n0 n1 n2 n3;have hne1:wr.heap.size≠w.heap.size+1:=au
   have hne2:w.heap.size+1≠wr.heap.size:=au
   have LB:Hid (∀ q,(Value.slice uF j cap2).ownBlock=some q→w.heap.size+2≤q∧q<wr.heap.size):=fun q hq=>by
    rcases(HI.o).row.2 with ⟨h,h0⟩|⟨g,cap,cur,h,hb,hg,-⟩
    ·rw[h] at hq;simp[Value.ownBlock] at hq
    ·rw[h] at hq;simp only[Value.ownBlock,dP] at hq;subst hq;exact⟨hb,bN hg⟩
   have bS1:=aA Nb;clear Nb;go_wp2_with (at_builtin;refine wpList_append_lies _ rfl _ _ 114 rfl (w.heap.size+2) 116 i0 _ 4 56 underlying114 hi0 hz0 hz1 hz2 rfl aS (.slice uF j cap2) j _ rfl (Kp.owns (Kp.alloc (On.set (On.set (On.set (On.set (Kp.refl _ w5) 0 _) 1 _) 2 _) 3 _) _) lT.o (fun q hq e=>by have:=(LB.o) q hq;omega)) ⟨w5.heap.size,0,none⟩ 1 1 [ak qa,ak qb,.string qc,.slice qd qn qp] rfl rfl (World.news_of_block (cs:=#[ak qa,ak qb,.string qc,.slice qd qn qp]) (LA _ _ aT)) (by simp[Value.oneCell']) au (by unfold maxLen;omega) au aQ (w5.heap.size+1) aT ?_;intro g8 Xg w8 Yl Uh aC5 cV0;have k8:Kp (fun q=>q=wr.heap.size∨(Value.slice uF j cap2).ownBlock=some q) w5 w8:=Kp.grown (Kp.alloc (Kp.setCell (Kp.setCell (Kp.setCell (Kp.setCell (Kp.refl _ w5) (p:=⟨wr.heap.size,0,none⟩) (fun _=>.inl rfl) _) (p:=⟨wr.heap.size,1,none⟩) (fun _=>.inl rfl) _) (p:=⟨wr.heap.size,2,none⟩) (fun _=>.inl rfl) _) (p:=⟨wr.heap.size,3,none⟩) (fun _=>.inl rfl) _) _) Uh (fun k e _=>.inr e);have Xh:=k8.heap bS1.o (fun e=>e.elim (fun e=>hne2 e) (fun e=>by have:=(LB.o) _ e;omega));have y1:=aj w8 _ 3 _ _ _ Xh;have y2:w8.frozen? (aC (w.heap.size+1) 3)=false:=(dO Xh);have aX3:=aA Yl;have HK8:=aA k8;have aX4:=aA Xh;clear Yl Uh k8 Xh)
   have kF:Kp (fun q=>q=w.heap.size+1∨q=wr.heap.size∨(Value.slice uF j cap2).ownBlock=some q) wr (w8.setCell (aC (w.heap.size+1) 3) (.slice (b_ g8) (j+1) Xg)) :=
    Kp.setCell (Kp.trans (Kp.aN k5 _) HK8.o (fun q _ e=>.inr e)) (p:=⟨w.heap.size+1,3,none⟩) (fun _=>.inl rfl) _
   have V4:Kp (fun q=>q=w.heap.size+1∨q=wr.heap.size∨(Value.slice uF j cap2).ownBlock=some q) w5 (w8.setCell (aC (w.heap.size+1) 3) (.slice (b_ g8) (j+1) Xg)) :=
    Kp.setCell ((HK8.o).mono (fun q _ e=>.inr e)) (p:=⟨w.heap.size+1,3,none⟩) (fun _=>.inl rfl) _
   have hg8:g8≠w.heap.size+1:=fun e=>by
    rcases aC5 with h|h
    ·have:=(LB.o) _ h;omega
    ·omega
   have hzF:=kF.size;have cV1:=V4.size;have HN:Hid (Uf w k ps (j+1) (.slice (b_ g8) (j+1) Xg) (qs++[(ak qa,ak qb,.string qc,.slice qd qn qp)]) (fun q=>E q∨E5 q) (w8.setCell (aC (w.heap.size+1) 3) (.slice (b_ g8) (j+1) Xg))):=by
    refine⟨kF.heap (HI.o).res (fun e=>?_),?_,?_,by simp[(HI.o).len],fun i q p hq hp=>?_,fun q e=>?_,?_,au⟩
    ·rcases e with e|e|e
     ·omega
     ·omega
     ·have:=(LB.o) _ e;omega
    ·simp[World.setCell,aZ,aX4.o]
    ·rw[pK]
     exact lu aX3.o (by simp[Value.ownBlock];omega) _
    ·rcases cu i qs.length with hi|hi
     ·rw[bT hi] at hq
      refine(((HI.o).kids i q p hq hp).kept kF (fun q e e2=>?_)).low (fun _=>.inl);obtain⟨s1,s2,s3⟩:=(HI.o).sep q e2;rcases e with e|e|e
      ·omega
      ·omega
      ·exact s3 e
     ·have hlq:=(HI.o).len
      have hij:i=qs.length:=by
       rcases cu i (qs.length+1) with g|g
       ·omega
       ·rw[bf aQ] at hq;cases hq
      subst hij;rw[bL (ax _),iZ] at hq;obtain rfl:=bQ hq;rw[hlq,hget] at hp;obtain rfl:=bQ hp;refine((H51.o).kept V4 (fun q e e2=>?_)).low (fun _=>.inr);have:=(H52.o) q e2;rcases e with e|e|e
      ·omega
      ·omega
      ·have:=(LB.o) _ e;omega
    ·simp only[Value.ownBlock,ne_eq,dP]
     rcases e with e|e
     ·obtain⟨s1,s2,s3⟩:=(HI.o).sep q e
      refine⟨s1,au,fun h=>?_⟩;subst h;rcases aC5 with h|h
      ·exact s3 h
      ·omega
     ·have:=(H52.o) q e
      refine⟨au,au,fun h=>?_⟩;subst h;rcases aC5 with h|h
      ·have:=(LB.o) _ h;omega
      ·omega
    ·exact(HI.o).BQ.trans (Kp.below kF au (fun q e=>by
      rcases e with e|e|e
      ·omega
      ·omega
      ·have:=(LB.o) _ e;omega))
   exact⟨⟨j+1,_,_,_,rfl,by go_num,au,HN⟩,by simp only[intOf];omega⟩
end
section
variable{W:aG}{x0 x1 x2 x3:Value}
theorem Ld.below{w w':aG}{tb:Nat}{s:ByteArray}(h:Ld w tb s)(hk:Below w.heap.size w w'):Ld w' tb s:=by
 obtain⟨db,dv,B,D,c0,c1,hd,hp,hD⟩:=h.ex;have k:=Kp.aN hk (fun _=>False);exact⟨db,dv,B,D,k.dD c0 id,k.dD c1 id,hd.below hk,hp.keep k (fun _ _=>id),fun q hq=>aJ (hD q hq) hk.size⟩
theorem Pp(b:Nat)(s:ByteArray)(w:aG)(q1:w.cell? (aC b 0)=some (.string s)) :
  bB 72 #[aH b] w (cK (.string s) fun w'=>w'=w):=by
 go_enter func72,ntmps72;go_wp2_with fail
 go_ret;exact⟨rfl,rfl⟩
theorem I8(W:aG)(b:Nat)(a1 a2:Int)(a3:ByteArray)(a4:Option Addr)(a5 a6:Nat)(t0 t1 t3 t4 t5 t6 t7 t8 t9 t10 t11 t12 t13 t14 t15 t16 t17 t18:Value)(h:W.heap[b]?=some (.cells #[ak a1,ak a2,.string a3,.slice a4 a5 a6] 116 (0,0))) :
  (results f43 #[t0,t1,aH b,t3,t4,t5,t6,t7,t8,t9,t10,t11,t12,t13,t14,t15,t16,t17,t18]).run prog W=.ok (.agg #[ak a1,ak a2,.string a3,.slice a4 a5 a6]) W:=by
 have m0:=aj W _ 0 _ _ _ h;have m1:=aj W _ 1 _ _ _ h;have m2:=aj W _ 2 _ _ _ h;have m3:=aj W _ 3 _ _ _ h;simp[results,results43,go_sem,m0,m1,m2,m3]
theorem aC6{b:Nat}{y0 y1 y2 y3:Value}{t:TypeId}(o:Obj)(h:W.heap[b]?=some (.cells #[y0,y1,y2,y3] t (0,0))):(((((W.setCell (aC b 0) x0).setCell (aC b 1) x1).setCell (aC b 2) x2).setCell (aC b 3) x3).alloc o).heap[b]?=some (.cells #[x0,x1,x2,x3] t (0,0)):=by
 have hl:=bN h;rw[eG _ _ (by simpa [World.setCell] using hl)];simp[World.setCell,aZ,h]
theorem aX5{c b o:Nat}{v:Value}(hn:¬ b=c)(h:W.cell? (aC b o)=some v):((((W.setCell (aC c 0) x0).setCell (aC c 1) x1).setCell (aC c 2) x2).setCell (aC c 3) x3).cell? (aC b o)=some v :=
 (On.set (On.set (On.set (On.set (Kp.refl (fun k=>k=c) W) 0 x0) 1 x1) 2 x2) 3 x3).dD h hn
theorem Tv(tb:Nat)(s:ByteArray)(w:aG)(h:Ld w tb s)(hz:jh (X.file (xt (bs s)))≤1073741824)(hb:X.pb (X.file (xt (bs s)))=bs s)(hs:s.size≤1073741823) :
  bB 43 #[aH tb] w fun e w'=>∃ nv,e=.returned nv∧Hid (∃ E,zx w' E nv (X.file (xt (bs s)))∧(∀ q,E q→w.heap.size≤q∧q<w'.heap.size)∧Below w.heap.size w w'):=by
 obtain⟨db,dv,B,D,c0,c1,hd,hp,hD⟩:=h.ex;have HS:Hid (∀ W,Below w.heap.size w W→bB 71 #[aH B,.string s] W fun e w'=>∃(a1 a2:Int) (a3:ByteArray) (a4:Option Addr) (a5 a6:Nat),e=.returned (.tuple #[.agg #[ak a1,ak a2,.string a3,.slice a4 a5 a6],.string (ba [])]) ∧
   Hid (∃ E,zx w' E (.agg #[ak a1,ak a2,.string a3,.slice a4 a5 a6]) (X.file (xt (bs s)))∧(∀ q,E q→W.heap.size≤q∧q<w'.heap.size)∧Below W.heap.size W w') ∧
   Hid (∀(S:Nat→Prop) (w2:aG),Kp S w' w2→(∀ q,S q→w.heap.size≤q∧q<W.heap.size)→∃ E,zx w2 E (.agg #[ak a1,ak a2,.string a3,.slice a4 a5 a6]) (X.file (xt (bs s)))∧(∀ q,E q→w.heap.size≤q∧q<w2.heap.size)∧Below w.heap.size w w2)):=fun W hW=>by
  have h1:=Po _ _ (ax _) hz (by rw[hb];have:=eY s;omega) W D B [] (hp.keep (Kp.aN hW (fun _=>False)) (fun _ _=>id));rw[hb,aL,uN] at h1;refine h1.mono ?_;rintro e w' ⟨nv,rfl,E,h2,h3⟩;obtain⟨a1,a2,a3,a4,a5,a6,rfl⟩:=h2.shape;have hz:=hW.size;have hz2:=h3.2.size;refine⟨a1,a2,a3,a4,a5,a6,rfl,⟨E,h2,h3⟩,fun S w2 k2 hS=>⟨E,h2.kept k2 (fun q hs hq=>by have:=(h3.1 q hq).1;have:=(hS q hs).2;omega),fun q hq=>?_,?_⟩⟩
  ·have:=h3.1 q hq
   have:=k2.size;exact⟨au,au⟩
  ·exact(hW.trans (h3.2.mono hz)).trans (Kp.below k2 au (fun q hs=>(hS q hs).1))
 have HT:Hid (∀ W,Below w.heap.size w W→bB 72 #[aH db] W (cK (.string s) fun w'=>w'=W)):=fun W hW=>Pp db s W ((Kp.aN hW (fun _=>False)).dD hd.text id)
 have htb:tb<w.heap.size:=dU w _ c0;have hx:=hd.text;have hdb:db<w.heap.size:=dU w _ hx;have hne0:¬ tb=w.heap.size:=au
 have hne1:¬ tb=w.heap.size+1:=au
 have hne2:¬ w.heap.size+1=tb:=au
 clear h hp hd hD hb hz hx;go_enter func43,ntmps43;go_wp2_with fail
 go_region_held3 (fun w'=>w'.cell? (aC tb 0)=some (aH db)∧w'.cell? (aC tb 1)=some (aH B))
  (first|(with_reducible exact⟨d0,d1⟩)|(with_reducible exact⟨aX5 hne1 d0,aX5 hne1 d1⟩)|go_keep)
  ((first
  | (go_at_call 71;refine((HS.o) _ ?_).mono ?_;(first|exact((aB _ w).alloc (ax _) _).drew|exact(((aB _ w).alloc (ax _) _).drew.alloc aT _)|exact(((aB _ w).alloc (ax _) _).alloc aT _).drew);rintro e w5 ⟨a1,a2,a3,a4,a5,a6,rfl,H5,H6⟩;have d0:=(Kp.aN (H5.o.choose_spec).2.2 (fun _=>False)).dD (p:=⟨tb,0,none⟩) (v:=aH db) (by go_keep) id;have d1:=(Kp.aN (H5.o.choose_spec).2.2 (fun _=>False)).dD (p:=⟨tb,1,none⟩) (v:=aH B) (by go_keep) id;have hres:=(Kp.aN (H5.o.choose_spec).2.2 (fun _=>False)).heap (b:=w.heap.size) (o:=.cells #[ak 0,ak 0,.string ⟨#[]⟩,.slice none 0 0] 116 (0,0)) (by first|exact aI w _|exact(eG _ _ aT).trans (aI w _)) id;try(have hblk:=(Kp.aN (H5.o.choose_spec).2.2 (fun _=>False)).heap (b:=w.heap.size+1) (o:=.cells #[ak 0,ak 0,.string ⟨#[]⟩,.slice none 0 0] 116 (0,0)) (by first|exact LA (w.alloc _) _ (fB w _)|exact LA (w.alloc _).drew _ (fB w _)) id;have t0:=aj w5 _ 0 _ _ _ hblk;have t1:=aj w5 _ 1 _ _ _ hblk;have t2:=aj w5 _ 2 _ _ _ hblk;have t3:=aj w5 _ 3 _ _ _ hblk;have z0:w5.frozen? (aC (w.heap.size+1) 0)=false:=(dO hblk);have z1:w5.frozen? (aC (w.heap.size+1) 1)=false:=(dO hblk);have z2:w5.frozen? (aC (w.heap.size+1) 2)=false:=(dO hblk);have z3:w5.frozen? (aC (w.heap.size+1) 3)=false:=(dO hblk)))
  | (go_at_call 72;refine((HT.o) _ ?_).mono ?_;(first|exact((aB _ w).alloc (ax _) _).drew|exact(((aB _ w).alloc (ax _) _).drew.alloc aT _)|exact(((aB _ w).alloc (ax _) _).alloc aT _).drew);rintro e w4 ⟨rfl,rfl⟩)))
 all_goals
  have m0:=aj w5 _ 0 _ _ _ hres;have m1:=aj w5 _ 1 _ _ _ hres;have m2:=aj w5 _ 2 _ _ _ hres;have m3:=aj w5 _ 3 _ _ _ hres;have f0:w5.frozen? (aC w.heap.size 0)=false:=dO hres
  have f1:w5.frozen? (aC w.heap.size 1)=false:=dO hres
  have f2:w5.frozen? (aC w.heap.size 2)=false:=dO hres
  have f3:w5.frozen? (aC w.heap.size 3)=false:=dO hres
  have hl5:=bN hres;clear H5 HS HT;go_wp2_with fail
 ·refine aW (I8 _ w.heap.size a1 a2 a3 a4 a5 a6 _ _ _ _ _ _ _ _ _ _ _ _ _ _ _ _ _ _ (aC6 _ hres)) rfl ⟨_,rfl,?_⟩
  exact(H6.o) (fun q=>q=w.heap.size) _ (Kp.alloc (On.set (On.set (On.set (On.set (Kp.refl _ w5) 0 _) 1 _) 2 _) 3 _) _) (fun q e=>by subst e;simp)
 all_goals
  refine aW (I8 _ w.heap.size a1 a2 a3 a4 a5 a6 _ _ _ _ _ _ _ _ _ _ _ _ _ _ _ _ _ _ ?_) rfl ⟨_,rfl,?_⟩
  ·simp[World.setCell,aZ,hres]
  ·refine(H6.o) (fun q=>q=w.heap.size∨q=w.heap.size+1) _ ?_ (fun q e=>aQ)
   repeat(first|(with_reducible exact Kp.refl _ _)|(with_reducible refine Kp.setCell ?_ (fun _=>aT) _))
end
end Go.Proofs.YtoohcklcppnafaaGreatDoor
