/- Package value: what a def comes to;more fuel,the same. -/
import Derived.Test.YtdkpkpgpphkljaaGreatDoorMxa
import Derived.Test.YtdkpkpgpphkljaaGreatDoorMwc
namespace Go.Proofs.YtdkpkpgpphkljaaGreatDoor
set_option maxRecDepth 100000
set_option maxHeartbeats 8000000
open Tryz
open Go.RowKit
open M
open X (Nm Ex It)
section
open E (Kn comp jk V)
def EvN(l:List AF)(f:Nat)(x:ah)(fu:Nat)(o:ah):Prop:=∃ n,lK x (X.aM (dD l) f)=some n∧∃ v k,E.End (MV (BA (dD l)) (dT (dD l) (dD l).length)) ⟨⟨[.vis ((f:Int),(n.2:Int))],0,[],[]⟩,[],fu⟩ (.ok v) k∧wV v []=some o
def Ga(l:List AF)(file:Int)(x:ah)(fuel:Int)(o:ah):Prop:=o8 l=0∧0≤file∧file<l.length∧0≤fuel∧fuel≤10000∧EvN l file.toNat x fuel.toNat o
theorem Ga.more{l:List AF}{file:Int}{x:ah}{fuel more:Int}{o:ah}(h:Ga l file x fuel o)(h1:fuel≤more)(h2:more≤10000):Ga l file x more o:=by
 obtain⟨q1,q2,q3,q4,q5,n,e1,v,k,e2,e3⟩:=h;refine⟨q1,q2,q3,by omega,h2,n,e1,v,k,?_,e3⟩;have:=e2.more (more.toNat - fuel.toNat) rfl;have e:fuel.toNat+(more.toNat - fuel.toNat)=more.toNat:=by omega
 unfold E.Ms.more at this;dsimp only at this;rw[e] at this;exact this
theorem Ga.one{l:List AF}{file:Int}{x:ah}{fuel:Int}{o o':ah}(h:Ga l file x fuel o)(h':Ga l file x fuel o'):o=o':=by
 obtain⟨-,-,-,-,-,n,e1,v,k,e2,e3⟩:=h;obtain⟨-,-,-,-,-,n',ZR,v',k',e2',e3'⟩:=h';rw[e1] at ZR;cases ZR
 cases e2.one e2'
 rw[e3] at e3';cases e3'
 rfl
def EvR(l:List AF)(file:Int)(x:ah)(fuel:Int)(e:Ending):Prop:=(∃ o,e=.returned (.tuple #[.string (ba o),.nilIface])∧Ga l file x fuel o)∨∃ ty y,e=.returned (.tuple #[.string ⟨#[]⟩,.iface ty y])∧¬ ∃ o,Ga l file x fuel o
theorem Kv.low{β:Nat}{O':Nat→Prop}{w w':World}(h:Kv β (fun _=>False) O' w w')(hb:β≤w.heap.size):Below β w w':=h.kp.below hb (fun _ e=>e.elim False.elim (fun e=>e.1))
section
variable{β:Nat}{w0 w w':World}{its:Nat→List It}{j:Nat}{iv:Value}{vs:List Value}{Lo Hi:Nat→Nat}{pb sb db:Nat}{T:Int × Int→Nat}
theorem Fl.ct{l:List AF}(h:Fl β (BA (dD l)) w0 w its pb sb db j iv vs Lo Hi T (dT (dD l) l.length) (dT (dD l) l.length))(hf:o8 l=0):CT β w (fun _=>False) T (MV (BA (dD l)) (dT (dD l) (dD l).length)):=by
 intro p hp;rw[nL];cases hd:iX (dT (dD l) l.length) p with
 | none=>exact absurd (h.rp.dm.tz p hd) hp
 | some d =>
  obtain⟨v,h1,h2⟩:=h.fl p d hd;have hm:=(oO hd).1;rw[← nL] at hm;obtain⟨-,-,-,q4⟩:=y8 (fun f _=>KH f) (QN hf) hm;have hD:MV (BA (dD l)) (dT (dD l) l.length) p=(Jq d.ps,comp (BA (dD l)) d.f (pW d.ps []) 0 d.e):=by unfold MV;rw[hd]
  rw[hD];exact⟨⟨v,h1,h2.less (fun _ e=>e.elim)⟩,id,q4⟩
end
theorem Vf(ao:Option Addr)(cap:Nat)(l:List AF)(x:ah)(f fu:Nat)(w:World)(hg:Gm w)(hA:qF w w.heap.size ao l)(hl:l.length≤cap)(hc:cap≤maxLen)(hf:o8 l=0)(hfl:f<l.length)(hfu:fu≤10000) :
  Calls prog 5 #[.slice ao l.length cap,.int .i64 f,.string (ba x),.int .i64 fu] w fun e w'=>EvR l f x fu e∧Below w.heap.size w w':=by
 have K_:=au (xY ao cap l w hg.1.1 hA hl hc hf);have hsh:=(DF hf).2.1;have hrd:∀ f,f<(dD l).length→∃ ps,X.sI ps 0 (X.aM (dD l) f):=fun f _=>KH f
 have WQ:Hid (∀ w1 nv,Below w.heap.size w w1→w1.ownsRow w.heap.size 55 6 nv (X.jf (dD l)).length (BP (X.jf (dD l)))→(X.jf (dD l)).length≤1073741824→_):=fun w1 nv hb hn hnl=>M4 (β:=w.heap.size) ao cap l nv (hg.below hb) hb.size ((hA.below hb).wide hb.size) hf hn hnl
 have HY:Hid (∀ o,EvN l f x fu o→Ga l f x fu o):=fun o h=>⟨hf,bU _,by omega,bU _,by omega,by simpa using h⟩
 have YZ:Hid (∀ o,Ga l f x fu o→EvN l f x fu o):=fun o h=>by
  have:=h.2.2.2.2.2
  simpa using this
 have hD:=YQ hrd (QN hf);have Y0:Hid (∀ n,lK x (X.aM (dD l) f)=some n→∃ r k,E.End (MV (BA (dD l)) (dT (dD l) (dD l).length)) ⟨⟨[.vis ((f:Int),(n.2:Int))],0,[],[]⟩,[],fu⟩ r k):=fun n hn=>E.PI hD.1 hD.2 _ (QS (by rw[nL];exact hfl) hrd hn) fu (by omega)
 have HDk:Hid (∀ n,lK x (X.aM (dD l) f)=some n→(BA (dD l)).dk ((f:Int),(n.2:Int))=some false):=fun n hn=>QS (by rw[nL];exact hfl) hrd hn
 have HG:=au hg;have HF:=au hf;have TF:=au hsh;have b1:decide ((f:Int)<0)=false:=by simp
 have b2:decide ((l.length:Int)≤(f:Int))=false:=by simp;omega
 have b5:decide (l.length≤f)=false:=by simp;omega
 have b3:decide ((fu:Int)<0)=false:=by simp
 have b4:decide ((10000:Int)<(fu:Int))=false:=by simp;omega
 clear hg hA hf hsh hrd hD hc;go_enter func5,ntmps5;go_wp2_with fail
 refine(K_.o).mono ?_;rintro e w1 ⟨nv,rfl,H1⟩;have tV:=au ((WQ.o) w1 nv (H1.o).1 (H1.o).2.1 (H1.o).2.2);have HB1:=au (H1.o).1;clear K_ WQ H1;go_wp2_with fail
 refine(tV.o).mono ?_;rintro e w2 ⟨pb,rfl,H2⟩;obtain⟨sb,db,iv,vs,Lo,Hi,T,hFl⟩:=H2.o;have HB2:Hid (Below w.heap.size w w2):=(HB1.o).trans (hFl.rp.lJ.mono (HB1.o).size);have HA:=au (Jw f hfl x hFl.rp (sK TF.o f).2.1 (fun d hd=>kX.2 ⟨f,gD.2 hfl,hd⟩));have HFl:=au hFl;clear tV H2 hFl;go_wp2_with fail
 refine(HA.o).mono ?_;rintro e w3 ⟨rfl,k3⟩;have HB3:Hid (Below w.heap.size w w3):=(HB2.o).trans (k3.mono (HB2.o).size);have Y3:=(HFl.o).below k3;have ZY:=au (Y3.ct HF.o);have HTd:Hid (∀ n,lK x (X.aM (dD l) f)=some n→T ((f:Int),(n.2:Int))≠0):=fun n hn=>by
  have h1:=(HDk.o) n hn;obtain⟨d,h2,-⟩:=gI.1 (show(iX (dT (dD l) (dD l).length) _).map _=_ from h1);rw[nL] at h2;exact(Y3.rp.dm.td _ d h2).1
 clear HA k3 Y3 HFl HB2 HB1 TF b1 b2 b3 b4 b5;cases M6:lK x (X.aM (dD l) f) with
 | none =>
  have Ol:Hid (¬ ∃ o,Ga l f x fu o):=fun⟨o,h⟩=>by
   obtain⟨n,h1,-⟩:=(YZ.o) o h;rw[M6] at h1;cases h1
  have HAs:Hid (AsR T f none=.tuple #[.pointer none,.bool false]):=rfl;rw[HAs.o];clear HAs ZY HTd Y0 HDk HY YZ M6;go_wp2_with fail
  go_ret2;exact⟨.inr ⟨_,_,rfl,Ol.o⟩,HB3.o⟩
 | some n =>
  have HAs:Hid (AsR T f (some n)=.tuple #[.pointer (some ⟨T ((f:Int),(n.2:Int)),0,none⟩),.bool true]):=rfl;rw[HAs.o];obtain⟨r,kk,hE⟩:=(Y0.o) n M6;have HE:=au hE;have HAk:=au M6;have aN1:=au (UZ ((f:Int),(n.2:Int)) fu ((HTd.o) n M6) (by omega) ZY.o hE);clear HAs ZY HTd Y0 HDk hE M6;go_wp2_with fail
  refine(aN1.o).mono ?_;rintro e w4 H4;have h4:=H4.o;clear H4 aN1;cases r with
  | error ek =>
   obtain⟨rfl,hk0,O',hkv⟩:=h4;have hk1:((ek:Int) !=0)=true:=by simp;exact hk0
   have Ol:Hid (¬ ∃ o,Ga l f x fu o):=fun⟨o,h⟩=>by
    obtain⟨n',h1,v,k2,h2,-⟩:=(YZ.o) o h;rw[HAk.o] at h1;cases h1
    have:=(HE.o).one h2;cases this
   have I_:Hid (Below w.heap.size w w4):=(HB3.o).trans (hkv.low (HB3.o).size);clear hk0 hkv YZ HY HE HAk;go_wp2_with fail
   go_ret2;exact⟨.inr ⟨_,_,rfl,Ol.o⟩,I_.o⟩
  | ok v =>
   obtain⟨u,rfl,O',hV,hkv⟩:=h4;have I_:Hid (Below w.heap.size w w4):=(HB3.o).trans (hkv.low (HB3.o).size);have HTx:=au (MP ((HG.o).1.below I_.o) hV);obtain⟨uty,uy,rfl⟩:∃ ty y,u=.iface ty y:=by cases hV<;>exact⟨_,_,rfl⟩
   clear hV hkv HB3;go_wp2_with fail
   refine(HTx.o).mono ?_;rintro e w5 H5;have h5:=H5.o;clear H5 HTx;unfold TxR at h5;cases hw:wV v [] with
   | some o =>
    rw[hw] at h5;obtain⟨rfl,k5⟩:=h5;have TN:Hid (Below w.heap.size w w5):=(I_.o).trans (k5.mono (I_.o).size);have HYo:Hid (Ga l f x fu o):=(HY.o) o ⟨n,HAk.o,v,kk,HE.o,hw⟩;clear k5 HY YZ HE HAk hw;go_wp2_with fail
    go_ret2;exact⟨.inl ⟨o,rfl,HYo.o⟩,TN.o⟩
   | none =>
    rw[hw] at h5;obtain⟨rfl,k5⟩:=h5;have TN:Hid (Below w.heap.size w w5):=(I_.o).trans (k5.mono (I_.o).size);have Ol:Hid (¬ ∃ o,Ga l f x fu o):=fun⟨o,h⟩=>by
     obtain⟨n',h1,v',k2,h2,h3⟩:=(YZ.o) o h;rw[HAk.o] at h1;cases h1
     cases (HE.o).one h2
     rw[hw] at h3;cases h3
    clear k5 HY YZ HE HAk hw;go_wp2_with fail
    go_ret2;exact⟨.inr ⟨_,_,rfl,Ol.o⟩,TN.o⟩
theorem QT(ao:Option Addr)(cap:Nat)(l:List AF)(x:ah)(f fu:Int)(w:World)(hg:Gm w)(hA:qF w w.heap.size ao l)(hl:l.length≤cap)(hc:cap≤maxLen)(hf:o8 l=0)(ho:f<0∨(l.length:Int)≤f∨fu<0∨10000<fu) :
  Calls prog 5 #[.slice ao l.length cap,.int .i64 f,.string (ba x),.int .i64 fu] w fun e w'=>EvR l f x fu e∧Below w.heap.size w w':=by
 have K_:=au (xY ao cap l w hg.1.1 hA hl hc hf);have Ol:Hid (¬ ∃ o,Ga l f x fu o):=fun⟨_,_,h1,h2,h3,h4,_⟩=>by omega
 generalize l.length=ln at *;clear hg hA hf hc hl;by_cases b1:f<0
 ·have c1:decide (f<0)=true:=by simpa using b1
  clear b1 ho;go_enter func5,ntmps5;go_wp2_with fail
  refine(K_.o).mono ?_;rintro e w1 ⟨nv,rfl,H1⟩;have HB1:=au (H1.o).1;clear K_ H1;go_wp2_with fail
  go_ret2;exact⟨.inr ⟨_,_,rfl,Ol.o⟩,HB1.o⟩
 have c1:decide (f<0)=false:=by simpa using b1
 by_cases b2:(ln:Int)≤f
 ·have c2:decide ((ln:Int)≤f)=true:=by simpa using b2
  clear b1 b2 ho;go_enter func5,ntmps5;go_wp2_with fail
  refine(K_.o).mono ?_;rintro e w1 ⟨nv,rfl,H1⟩;have HB1:=au (H1.o).1;clear K_ H1;go_wp2_with fail
  go_ret2;exact⟨.inr ⟨_,_,rfl,Ol.o⟩,HB1.o⟩
 have c2:decide ((ln:Int)≤f)=false:=by simpa using b2
 by_cases b3:fu<0
 ·have c3:decide (fu<0)=true:=by simpa using b3
  clear b1 b2 b3 ho;go_enter func5,ntmps5;go_wp2_with fail
  refine(K_.o).mono ?_;rintro e w1 ⟨nv,rfl,H1⟩;have HB1:=au (H1.o).1;clear K_ H1;go_wp2_with fail
  go_ret2;exact⟨.inr ⟨_,_,rfl,Ol.o⟩,HB1.o⟩
 have c3:decide (fu<0)=false:=by simpa using b3
 have c4:decide (10000<fu)=true:=by simp;omega
 clear b1 b2 b3 ho;go_enter func5,ntmps5;go_wp2_with fail
 refine(K_.o).mono ?_;rintro e w1 ⟨nv,rfl,H1⟩;have HB1:=au (H1.o).1;clear K_ H1;go_wp2_with fail
 go_ret2;exact⟨.inr ⟨_,_,rfl,Ol.o⟩,HB1.o⟩
theorem QU(ao:Option Addr)(cap:Nat)(l:List AF)(x:ah)(f fu:Int)(w:World)(hg:Gm w)(hA:qF w w.heap.size ao l)(hl:l.length≤cap)(hc:cap≤maxLen)(hf:o8 l≠0) :
  Calls prog 5 #[.slice ao l.length cap,.int .i64 f,.string (ba x),.int .i64 fu] w fun e w'=>EvR l f x fu e∧Below w.heap.size w w':=by
 have K_:=au (IK ao cap l w hg.1.1 hA hl hc hf);have Ol:Hid (¬ ∃ o,Ga l f x fu o):=fun⟨_,h,_⟩=>hf h
 clear hg hA hf hc hl;go_enter func5,ntmps5;go_wp2_with fail
 refine(K_.o).mono ?_;rintro e w1 ⟨rfl,k1⟩;have HB1:=au k1;clear K_ k1;go_wp2_with fail
 go_ret2;exact⟨.inr ⟨_,_,rfl,Ol.o⟩,HB1.o⟩
theorem Gb(ao:Option Addr)(cap:Nat)(l:List AF)(x:ah)(f fu:Int)(w:World)(hg:Gm w)(hA:qF w w.heap.size ao l)(hl:l.length≤cap)(hc:cap≤maxLen) :
  Calls prog 5 #[.slice ao l.length cap,.int .i64 f,.string (ba x),.int .i64 fu] w fun e w'=>EvR l f x fu e∧Below w.heap.size w w':=by
 by_cases hf:o8 l=0
 ·by_cases h:f<0∨(l.length:Int)≤f∨fu<0∨10000<fu
  ·exact QT ao cap l x f fu w hg hA hl hc hf h
  ·obtain⟨a,rfl⟩:∃ a:Nat,f=a:=⟨f.toNat,by omega⟩
   obtain⟨b,rfl⟩:∃ b:Nat,fu=b:=⟨fu.toNat,by omega⟩;exact Vf ao cap l x a b w hg hA hl hc hf (by omega) (by omega)
 ·exact QU ao cap l x f fu w hg hA hl hc hf
end
theorem nu1:uK [49]=1:=by kernel_rfl
theorem wv1:wV (.int 1) []=some [49]:=by kernel_rfl
theorem aN2:Ga l0 0 [120] 1 [49]:=by
 refine⟨aZ4,by decide,by decide,by decide,by decide,([120],4),?_,.int 1,3,?_,wv1⟩
 ·show lK [120] (X.aM (dD l0) 0)=_
  rw[fs0];rfl
 ·have hD:MV (BA (dD l0)) (dT (dD l0) (dD l0).length) ((0:Int),(4:Int))=(0,[.int 1]):=by
   have h1:dT (dD l0) (dD l0).length=[⟨0,([120],4),none,.lit 15 [49]⟩]:=by rw[fs0];rfl
   unfold MV;rw[h1];show(0,E.comp (BA (dD l0)) 0 [] 0 (.lit 15 [49]))=_;rw[E.comp,E.rq,aL rfl];show(0,[E.St.int (uK [49])])=_;rw[nu1]
  generalize MV (BA (dD l0)) (dT (dD l0) (dD l0).length)=D at *;refine .on _ ⟨⟨[.int 1],0,[],[]⟩,[⟨[.vis (0,4)],1,[],[]⟩],0⟩ _ _ ?_ (.on _ ⟨⟨[.int 1],1,[],[.int 1]⟩,[⟨[.vis (0,4)],1,[],[]⟩],0⟩ _ _ ?_ (.on _ ⟨⟨[.vis (0,4)],1,[],[.int 1]⟩,[],0⟩ _ _ ?_ (.fin _ _ ?_)))
  ·show E.enter D _ (.d (0,4)) []=_
   unfold E.enter E.g_;dsimp only;rw[if_pos ⟨by decide,by rw[hD];decide⟩,if_neg (by decide),hD];rfl
  ·rfl
  ·rfl
  ·rfl
theorem Gc(w:World)(hg:Gm w):Calls prog 4 #[] w fun e w'=>e=.returned (.bool true)∧Below w.heap.size w w':=by
 have kA:Below w.heap.size w (w.alloc (.cells #[.string ⟨#[97]⟩,.string ⟨#[100,101,102,32,120,32,61,32,49,59]⟩] 30)):=(ay _ w).alloc (aj _) _;have hR:=Gb (some ⟨w.heap.size,0,none⟩) 1 l0 [120] 0 1 (w.alloc (.cells #[.string ⟨#[97]⟩,.string ⟨#[100,101,102,32,120,32,61,32,49,59]⟩] 30)) (hg.below kA) (qF.one _ _) (aj _) (by unfold maxLen;omega);have HR:Hid (Calls prog 5 #[.slice (some ⟨w.heap.size,0,none⟩) 1 1,.int .i64 0,.string ⟨#[120]⟩,.int .i64 1] (w.alloc (.cells #[.string ⟨#[97]⟩,.string ⟨#[100,101,102,32,120,32,61,32,49,59]⟩] 30)) _):=au hR;have oM:=au kA;clear hR kA hg;go_enter func4,ntmps4;go_wp2_with fail
 refine(HR.o).mono ?_;rintro e w2 ⟨h2,k2⟩;have HF:Hid (Below w.heap.size w w2):=(oM.o).trans (k2.mono (oM.o).size);clear HR oM k2;rcases h2 with ⟨o,rfl,hy⟩|⟨ty,y,rfl,hn⟩
 ·obtain rfl:=aN2.one hy
  clear hy;have hs:((ba [49]).toList==[49])=true:=by rw[jK];rfl
  go_wp2_with fail
  go_ret;exact⟨rfl,HF.o⟩
 ·exact absurd ⟨_,aN2⟩ hn
theorem QV(ao:Option Addr)(cap:Nat)(l:List AF)(x:ah)(f fu mo:Int)(w:World)(hg:Gm w)(hA:qF w w.heap.size ao l)(hl:l.length≤cap)(hc:cap≤maxLen) :
  Calls prog 3 #[.slice ao l.length cap,.int .i64 f,.string (ba x),.int .i64 fu,.int .i64 mo] w fun e w'=>e=.returned (.bool true)∧Below w.heap.size w w':=by
 have HV:=au (Gc w hg);have HE:Hid (∀ w1 z,Below w.heap.size w w1→_):=fun w1 z hb=>Gb ao cap l x f z w1 (hg.below hb) ((hA.below hb).wide hb.size) hl hc
 clear hg hA hc hl;go_enter func3,ntmps3;go_wp2_with fail
 refine(HV.o).mono ?_;rintro e w1 ⟨rfl,k1⟩;have wP:=au k1;have Un:=au ((HE.o) w1 fu k1);clear HV k1;go_wp2_with fail
 refine(Un.o).mono ?_;rintro e w2 ⟨h2,k2⟩;have mZ:Hid (Below w.heap.size w w2):=(wP.o).trans (k2.mono (wP.o).size);have HE2:=au ((HE.o) w2 mo mZ.o);clear HE Un wP k2;rcases h2 with ⟨o,rfl,hy⟩|⟨ty,y,rfl,hn⟩
 ·by_cases c1:mo<fu
  ·have d1:decide (mo<fu)=true:=by simpa using c1
   clear c1 hy HE2;go_wp2_with fail
   go_ret;exact⟨rfl,mZ.o⟩
  ·have d1:decide (mo<fu)=false:=by simpa using c1
   by_cases c2:10000<mo
   ·have d2:decide (10000<mo)=true:=by simpa using c2
    clear c1 c2 hy HE2;go_wp2_with fail
    go_ret;exact⟨rfl,mZ.o⟩
   ·have d2:decide (10000<mo)=false:=by simpa using c2
    have HM:=au (hy.more (by omega) (by omega:mo≤10000));clear c1 c2 hy;go_wp2_with fail
    refine(HE2.o).mono ?_;rintro e w3 ⟨h3,k3⟩;have qi:Hid (Below w.heap.size w w3):=(mZ.o).trans (k3.mono (mZ.o).size);clear HE2 mZ k3 d1 d2;rcases h3 with ⟨o',rfl,hy'⟩|⟨ty,y,rfl,hn⟩
    ·obtain rfl:=(HM.o).one hy'
     clear hy' HM;go_wp2_with fail
     go_ret;exact⟨rfl,qi.o⟩
    ·exact absurd ⟨_,HM.o⟩ hn
 ·clear hn HE2
  go_wp2_with fail
  go_ret;exact⟨rfl,mZ.o⟩
end Go.Proofs.YtdkpkpgpphkljaaGreatDoor
