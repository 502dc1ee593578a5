import Derived.Test.YtoohcklcppnafaaGreatDoorBk
namespace Go.Proofs.YtoohcklcppnafaaGreatDoor
set_option maxRecDepth 100000
set_option maxHeartbeats 8000000
open Tryz
open Go.RowKit
open M
open X
section
variable{x:ah}
variable{w0:aG}{K:DK}{l:List AF}{us:List X.U}{w:aG}
namespace X
theorem Nz{sl:List Nm}{k:Nat}{n:Nm}(hk:sl[k]?=some n)(hn:n.1=x)(ha:∀(k':Nat) (m:Nm),k<k'→sl[k']?=some m→(m.1==x)=false):sO sl x=some n.2:=by
 unfold sO;have hl:=lt_of_some hk;have e:sl=sl.take k++(n::sl.drop (k+1)):=by
  have:=fD k sl;rw[dS hl] at this;rw[aF hl] at hk;rw[bQ hk] at this;exact this.symm
 have h2:(sl.drop (k+1)).reverse.find? (fun m=>m.1==x)=none:=by
  rw[List.find?_eq_none];intro m hm;rw[List.mem_reverse] at hm;obtain⟨j,hj⟩:=List.getElem?_of_mem hm;rw[g_] at hj;rw[ha (k+1+j) m au hj];decide
 rw[e,List.reverse_append,List.reverse_cons,aK,List.find?_append,h2];simp[hn]
theorem JX{sl:List Nm}(ha:∀(k':Nat) (m:Nm),sl[k']?=some m→(m.1==x)=false):sO sl x=none:=by
 unfold sO;have:sl.reverse.find? (fun m=>m.1==x)=none:=by
  rw[List.find?_eq_none];intro m hm;rw[List.mem_reverse] at hm;obtain⟨j,hj⟩:=List.getElem?_of_mem hm;rw[ha j m hj];decide
 rw[this];rfl
end X
theorem zQ(h:Dr w0 K l us w):h_ (dA l)≤8589934592:=by
 rw[FT];have h1:=zK (l:=l) (fun a ha=>by obtain⟨j,hj⟩:=List.getElem?_of_mem ha;exact sN h hj) l.length;have h2:(l.map fun a=>uE (fA (bs a.t))).sum=o_ l l.length:=by unfold o_;rw[fC]
 have:=h.st.n;rw[h2];have h3:l.length*268435456≤16*268435456:=Nat.mul_le_mul_right _ this;omega
theorem qP{w w3:aG}(h:Below w.heap.size w w3){b:Nat}(hb:w.heap.size≤b)(j:Nat)(v:Value):Below w.heap.size w (w3.setCell (aC b j) v):=h.trans (Kp.below (S:=fun q=>q=b) (Kp.setCell (S:=fun q=>q=b) (p:=⟨b,j,none⟩) (Kp.refl _ w3) (fun _=>rfl) _) h.size (fun q e=>au))
theorem NA{f kM s:Nat}{tf tt:Int}{er:Nat}{wx:aG}(h:Dr w0 K l us w)(hb:Below w.heap.size w wx)(hlim:us.length+1≤1073741824) :
  bB 19 #[aH K.wb,.agg #[ak f,ak kM,ak s,ak tf,ak tt,ak er]] wx (cK (.tuple #[]) fun w'=>Hid (Dr w0 K l (us++[⟨f,kM,s,tf,tt,er⟩]) w'∧Dx K w0.heap.size w w')):=by
 refine(mD f kM s tf tt er (h.below hb) hlim).aX fun w' H=>?_;exact⟨rfl,(H.o).1,(Dx.aN hb).trans (H.o).2⟩
theorem Ea(f:Nat)(a:AF)(x:ah)(ps qs:List Part)(i:Nat)(v:Value)(no ao:Option Addr)(nc ac:Nat)(sl:List Nm)(sc:List (List Nm))(h:Dr w0 K l us w)(hf:l[f]?=some a)(hn:lS w K.a K.b v (.br 18 ps) i)(ht:vH ps 3 x qs)(hx:x≠[])(sP:qs.length≤1073741823)(hsc:oH K w0.heap.size w no nc ao ac sl)(hsg:Sg sc sl)(hsl:sl.length≤1073741823)(hlim:us.length+1≤1073741824) :
  bB 39 #[aH K.wb,ak f,v,.agg #[.slice no sl.length nc,.slice ao sl.length ac]] w (cK (.tuple #[]) fun w'=>Hid (Dr w0 K l (us++exU f (fH (dA l) f) sc (.var (x,i+pz qs))) w'∧Dx K w0.heap.size w w')):=by
 obtain⟨N,g,M,cap,kM,en,tt,la,rv,bt,ben,bfr,btt,bla,rfl,hN1,tX,hnd,hc,hcm,hg1,hg2,hcell,hM1,hM2,hm⟩:=hn.var ht;have UG:=aA h;have HSc:=aA hsc;have hbw:=dI h.st.bl h.size;obtain⟨⟨-,-,-,n3,-,-,n6,-⟩,-⟩:=hnd.facts;obtain⟨⟨-,-,m2,-⟩,-⟩:=hm.facts;have rC:N<w.heap.size:=au
 have hgl:g<w.heap.size:=au
 have hMl:M<w.heap.size:=au
 have hU:Hid (exU f (fH (dA l) f) sc (.var (x,i+pz qs))=[⟨f,i+pz qs,6,(match sO sl x with|some j=>((f:Int),(j:Int),0)|none=>fH (dA l) f x).1,(match sO sl x with|some j=>((f:Int),(j:Int),0)|none=>fH (dA l) f x).2.1,(match sO sl x with|some j=>((f:Int),(j:Int),0)|none=>fH (dA l) f x).2.2⟩]):=by
  show _=_;rw[exU,X.f_,aM hx,hsg x hx];show [X.U.mk f (i+pz qs) 6 (match sight sc x with|some j=>((f:Int),(j:Int),0)|none=>fH (dA l) f x).1 _ _]=_;cases sight sc x<;>rfl
 have HF:=aA hf;have hfl:=lt_of_some hf;have i1:(0:Int)≤((qs.length+1:Nat):Int) - 1:=au
 have i2:((qs.length+1:Nat):Int) - 1<((qs.length+1:Nat):Int):=au
 have i3:((qs.length+1:Nat):Int) - 1=(qs.length:Int):=au
 have kA:∀(nq:Nat) (o o':Obj),Below w.heap.size w (((w.alloc o).drewN nq).alloc o'):=fun nq o o'=>(iQ ((aB _ w).alloc (ax _) o) nq).alloc (by show w.heap.size≤(w.alloc o).heap.size;simp) o'
 have lV:=aA kA;have HNr:Hid (∀(j:Nat) (n:Nm),sl[j]?=some n→∃ g g',no=some ⟨g,0,none⟩∧ao=some ⟨g',0,none⟩∧g<w.heap.size∧g'<w.heap.size∧w.cell? (aC g j)=some (.string (ba n.1))∧w.cell? (aC g' j)=some (ak n.2)):=fun j n hj=>by
  obtain⟨g,e1,e2,e3⟩:=hsc.nr j n hj;obtain⟨g',f1,f2,f3⟩:=hsc.ar j n hj;exact⟨g,g',e1,f1,e2.1,f2.1,e3,f3⟩
 have hnb:=hsc.nb;have hab:=hsc.ab;have NC:=aA (fun wx (hb:Below w.heap.size w wx)=>zf (h.below hb) hf x hx);have HAdd:=aA (fun(tf tt:Int) (er:Nat) wx (hb:Below w.heap.size w wx)=>NA (f:=f) (kM:=i+pz qs) (s:=6) (tf:=tf) (tt:=tt) (er:=er) h hb hlim);have HR:=aA h;have hil:=sN h hf;have hUs:=zQ h;generalize hpos:i+pz qs=pos at *;clear hn hnd hm hsc hsg h hf kA HSc;go_enter func39,ntmps39;go_wp2_with fail
 go_quiet (fail)
 go_wp2_with fail
 go_loopw [10] (fun iv wr=>∃(k:Nat) (z:Int),iv=ak z∧z=(k:Int) - 1∧k≤sl.length∧Hid (∀(k':Nat) (m:Nm),k≤k'→sl[k']?=some m→(m.1==x)=false)∧wr=((w.alloc (.cells #[.slice no sl.length nc,.slice ao sl.length ac] 67)).drewN nq).alloc (.cells #[ak f,ak pos,ak 6,ak (-1),ak (-1),ak 0] 63)) (fun iv _=>(intOf iv+1).toNat)
 case atStart=>exact⟨sl.length,_,rfl,rfl,ax _,fun k' m h1 h2=>by have:=lt_of_some h2;omega,rfl⟩
 case round =>
  obtain⟨k,z,rfl,hz,hk,HP,rfl⟩:=hrel;cases k with
  | zero =>
   obtain rfl:z=-1:=au
   clear hz;have i4:decide ((-1:Int)≥0)=false:=aS
   have i5:decide ((0:Int)≤-1)=false:=aS
   have HE:=aA <| JX (fun k' m h=>(HP.o) k' m (bJ _) h);have YG:=hU.o;rw[HE.o] at YG;have HU2:=aA <| YG;have HT2:=aA ((NC.o) _ ((lV.o) nq (.cells #[.slice no sl.length nc,.slice ao sl.length ac] 67) (.cells #[ak f,ak pos,ak 6,ak (-1),ak (-1),ak 0] 63)));clear HP HE YG hU HNr;go_wp2_with fail
   refine(HT2.o).aX fun w3 k3=>?_;have Qh:w3.heap[w.heap.size+1]?=some (.cells #[ak f,ak pos,ak 6,ak (-1),ak (-1),ak 0] 63 (0,0)):=(Kp.aN k3 (fun _=>False)).heap (by have:=aI ((w.alloc (.cells #[.slice no sl.length nc,.slice ao sl.length ac] 67)).drewN nq) (.cells #[ak f,ak pos,ak 6,ak (-1),ak (-1),ak 0] 63);simpa using this) id;have HB3:=aA <| ((lV.o) nq _ _).trans (k3.mono ((lV.o) nq _ _).size);clear k3 HT2;have u0:=aj w3 _ 0 _ _ _ Qh;have u1:=aj w3 _ 1 _ _ _ Qh;have u2:=aj w3 _ 2 _ _ _ Qh;have u3:=aj w3 _ 3 _ _ _ Qh;have u4:=aj w3 _ 4 _ _ _ Qh;have u5:=aj w3 _ 5 _ _ _ Qh;have z3:w3.frozen? (aC (w.heap.size+1) 3)=false:=dO Qh
   have z4:w3.frozen? (aC (w.heap.size+1) 4)=false:=dO Qh
   have z5:w3.frozen? (aC (w.heap.size+1) 5)=false:=dO Qh
   have HUb:=aA Qh;have HST:Hid (∀(j:Nat) (v:Value),Below w.heap.size w (w3.setCell (aC (w.heap.size+1) j) v)):=fun j v=>qP HB3.o au j v
   clear Qh;cases htop:iV (fA (bs a.t)) x with
   | none =>
    have HTA:Hid (fH (dA l) f x=(-1,-1,4)):=by show _=_;unfold fH;rw[jc HF.o,htop]
    have HC:=aA ((HAdd.o) (-1) (-1) 4 _ ((HST.o) 5 (ak 4)));clear htop NC;rw[pU];go_wp2_with fail
    refine(HC.o).aX fun w4 H4=>?_;clear HC u0 u1 u2 u3 u4 u5;go_wp2_with fail
    go_end0;exact⟨rfl,by rw[HU2.o,HTA.o];exact H4⟩
   | some k =>
    obtain⟨it,hit,hcl,-⟩:=Cz htop;have HR3:=aA ((HR.o).below HB3.o);obtain⟨ga,gi,ca,cb,d,hg,r4,r5,r6,r7,hd0⟩:=(HR.o).got HF.o hit;have hd:=hd0.keep (Dx.aN HB3.o) ((HR.o).st.nodes _);have bE8:=hg.gl.1;have aI9:=hg.gl.2;have c2:=iY HB3.o (HR.o).wl hg.c2;have cf:=iY HB3.o bE8 hg.cf;have q0:w3.cell? (aC gi (k*11))=some (.bool d.use):=iY HB3.o aI9 (hg.ck 0 _ rfl);have q3:=iY HB3.o aI9 (hg.ck 3 _ rfl);clear hd0;have hkl:=lt_of_some hit;have hf1:(0:Int)≤(f:Int):=bO _;have hf2:(f:Int)<(l.length:Int):=au
    have hk1:(0:Int)≤(k:Int):=bO _;have hk2:(k:Int)<((fA (bs a.t)).length:Int):=au
    have i6:decide ((k:Int)<0)=false:=aT
    have HTA:Hid (fH (dA l) f x=((iC (dA l) (h_ (dA l)) f k).1,(iC (dA l) (h_ (dA l)) f k).2.1,0)):=by show _=_;unfold fH;rw[jc HF.o,htop]
    have Va:=aA hit;clear htop NC hit;cases it with
    | use p m n gs al =>
     have YH:=hd.1;rw[YH] at q0;have Qi:=aA (FU HR3.o);have HS1:=aA (uW (w0:=w0) (K:=K) (l:=l) _ hUs us w3 f k a p m n gs al HR3.o HF.o Va.o);generalize fA (bs a.t)=its at *;generalize iC (dA l) (h_ (dA l)) f k=an at *;clear hd hg q3;rw[pU];go_wp2_with fail
     refine(Qi.o).mono ?_;rintro e w3' ⟨rfl,rfl⟩;go_wp2_with fail
     refine(HS1.o).aX fun w4 k4=>?_;have Eb:=(Kp.aN k4 (fun _=>False)).heap HUb.o id;have v0:=aj w4 _ 0 _ _ _ Eb;have v1:=aj w4 _ 1 _ _ _ Eb;have v2:=aj w4 _ 2 _ _ _ Eb;have v3:=aj w4 _ 3 _ _ _ Eb;have v4:=aj w4 _ 4 _ _ _ Eb;have v5:=aj w4 _ 5 _ _ _ Eb;have y3:w4.frozen? (aC (w.heap.size+1) 3)=false:=dO Eb
     have y4:w4.frozen? (aC (w.heap.size+1) 4)=false:=dO Eb
     have FV:=aA <| (HB3.o).trans (k4.mono (HB3.o).size);have HC:=aA ((HAdd.o) an.1 an.2.1 0 _ (qP (qP FV.o (show w.heap.size≤w.heap.size+1 by omega) 3 (ak an.1)) (show w.heap.size≤w.heap.size+1 by omega) 4 (ak an.2.1)));clear k4 Eb Qi HS1 u0 u1 u2 u3 u4 u5 z3 z4 z5 c2 cf q0;go_wp2_with fail
     refine(HC.o).aX fun w5 H5=>?_;clear HC v0 v1 v2 v3 v4 v5;go_wp2_with fail
     go_end0;exact⟨rfl,by rw[HU2.o,HTA.o];exact H5⟩
    | dfn p n ps e =>
     have YH:=hd.1;rw[YH] at q0;have HA:Hid (iC (dA l) (h_ (dA l)) f k=((f:Int),(n.2:Int),0)):=LU HF.o Va.o;have hnx:n.1≠[]:=by have e1:n.1=x:=hcl;rw[e1];exact hx
     rcases hd.2.2.1 with ⟨hn0,-⟩|⟨hn0,N',t',rv',aH7,en',U6,la',hv',-,-,-,hnd'⟩
     ·exact absurd hn0 hnx
     ·have q3':w3.cell? (aC gi (k*11+3))=some (aH N'):=by rw[← hv'];exact q3
      obtain⟨⟨-,-,-,-,-,-,x6,-⟩,-⟩:=hnd'.facts;have hNx:¬ N'=w.heap.size+1:=fun e=>by rw[e] at hnd';exact fO hnd' HUb.o aS
      have hgx:¬ ga=w.heap.size+1:=au
      have hix:¬ gi=w.heap.size+1:=au
      have hwx:¬ K.wb=w.heap.size+1:=by have:=(HR.o).wl;omega
      have HC:=aA ((HAdd.o) (f:Int) (n.2:Int) 0 _ (qP (qP HB3.o (show w.heap.size≤w.heap.size+1 by omega) 3 (ak f)) (show w.heap.size≤w.heap.size+1 by omega) 4 (ak n.2)));generalize fA (bs a.t)=its at *;clear hd hg q3 hnd' hcl;rw[pU];go_wp2_with fail
      refine(HC.o).aX fun w4 H4=>?_;clear HC u0 u1 u2 u3 u4 u5;go_wp2_with fail
      go_end0;exact⟨rfl,by rw[HU2.o,HTA.o,HA.o];exact H4⟩
  | succ k =>
   obtain rfl:z=(k:Int):=au
   clear hz;have i4:decide ((k:Int)≥0)=true:=aT
   have i5:decide ((0:Int)≤(k:Int))=true:=aT
   have hi1:(0:Int)≤(k:Int):=bO _;have hi2:(k:Int)<(sl.length:Int):=au
   obtain⟨n,hn⟩:∃ n,sl[k]?=some n:=⟨sl[k],aF au⟩;obtain⟨gn,ga,rfl,rfl,hgn,hga,s1,s2⟩:=(HNr.o) k n hn;have hx1:¬ gn=w.heap.size:=au
   have hx2:¬ gn=w.heap.size+1:=au
   have hx3:¬ ga=w.heap.size:=au
   have hx4:¬ ga=w.heap.size+1:=au
   cases hb:(n.1==x) with
   | true =>
    have hs:=oD hb;have HE:=aA <| Nz hn (by simpa using hb) (fun k' m h1 h2=>(HP.o) k' m h1 h2);have YG:=hU.o;rw[HE.o] at YG;have HU2:=aA <| YG;have HC:=aA ((HAdd.o) (f:Int) (n.2:Int) 0 _ ((lV.o) nq (.cells #[.slice (b_ gn) sl.length nc,.slice (b_ ga) sl.length ac] 67) (.cells #[ak f,ak pos,ak 6,ak f,ak n.2,ak 0] 63)));clear HP HE YG hU HNr hn hb;go_wp2_with fail
    refine(HC.o).aX fun w3 H3=>?_;clear HC;go_wp2_with fail
    (try simp only[Exit.inBlock,Exit.then])
    refine aW (results_none rfl _ _ _) rfl ?_;exact⟨rfl,by rw[HU2.o];exact H3⟩
   | false =>
    have hs:=oD hb;have oU:Hid (∀(k':Nat) (m:Nm),k≤k'→sl[k']?=some m→(m.1==x)=false):=fun k' m h1 h2=>by
     by_cases e:k'=k
     ·subst e
      rw[hn] at h2;rw[← bQ h2];exact hb
     ·exact(HP.o) k' m au h2
    clear HP hU HNr hb;go_wp2_with fail
    exact⟨⟨k,_,rfl,rfl,au,oU,by trivial⟩,by simp only[intOf];omega⟩
end
section
variable{f s:Nat}{n:Nm}{an:An}
variable{w0:aG}{K:DK}{l:List AF}{us:List X.U}{w:aG}
structure vO(w0:aG)(K:DK)(l:List AF)(us:List X.U)(w:aG)(d:DI)(wr:aG):Prop where
 dr:Dr w0 K l us wr
 dx:Dx K w0.heap.size w wr
 blk:wr.heap[w.heap.size]?=some (.cells d.arr 57 (0,0))
theorem vO.keep{vM:List X.U}{d:DI}{wr wx:aG}(h:vO w0 K l us w d wr)(hw:K.wb<w.heap.size)(hd:Dr w0 K l vM wx)(hk:Dx K w0.heap.size wr wx):vO w0 K l vM w d wx :=
 ⟨hd,h.dx.trans hk,Kp.heap hk h.blk (Sf.made h.blk au aS).2⟩
theorem vO.below{d:DI}{wr wx:aG}(h:vO w0 K l us w d wr)(hb:Below wr.heap.size wr wx):vO w0 K l us w d wx :=
 ⟨h.dr.below hb,h.dx.trans (Dx.aN hb),(Kp.aN hb (fun _=>False)).heap h.blk id⟩
theorem z_(h:n.1=[])(us:List X.U):us++X.f_ f n s an=us:=by unfold X.f_;rw[aU h,aL]
theorem qR(h:n.1≠[])(us:List X.U):us++X.f_ f n s an=us++[⟨f,n.2,s,an.1,an.2.1,an.2.2⟩]:=by unfold X.f_;rw[aM h]
theorem qx.two{a b:Nat}{o:Option Addr}(h:qx w a b (.pointer o) n):(n.1=[]∧o=none)∨(n.1≠[]∧∃ N,o=some ⟨N,0,none⟩∧a≤N∧N<b∧N<w.heap.size∧w.cell? (aC N 2)=some (.string (ba n.1))∧w.cell? (aC N 6)=some (ak n.2)):=by
 rcases h with ⟨h1,h2⟩|⟨h1,N,t,rv,kM,en,tt,la,h2,h3,h4,-,h5⟩
 ·cases h2;exact .inl ⟨h1,rfl⟩
 ·cases h2
  obtain⟨⟨-,-,c2,-,-,-,c6,-⟩,-⟩:=h5.facts;exact .inr ⟨h1,N,rfl,h3,h4,bN h5,c2,c6⟩
theorem QG{k:Nat}{a:AF}{p:Bool}{m:Nm}{gs:Bool}{al:Nm}(h:Dr w0 K l us w)(hf:l[f]?=some a)(hk:(fA (bs a.t))[k]?=some (.use p m n gs al))(hlim:us.length+3≤1073741824) :
  bB 17 #[aH K.wb,ak f,ak k] w (cK (.tuple #[]) fun w'=>Hid (Dr w0 K l (us++BJ (dA l) f k (.use p m n gs al)) w'∧Dx K w0.heap.size w w')):=by
 have HR:=aA h;have hN:=h.st.n;have hfl:=lt_of_some hf;have hkl:=lt_of_some hk;have hil:=sN h hf;have hwl:=h.wl;obtain⟨ga,gi,ca,cb,d,hg,r4,r5,r6,r7,hd⟩:=h.got hf hk;obtain⟨-,hdp,hdn,hdm,hdi,hdg,hda⟩:=hd;have c2:=hg.c2;have cf:=hg.cf;have q0:w.cell? (aC gi (k*11))=some (.bool d.use):=hg.ck 0 _ rfl;have q1:=hg.ck 1 _ rfl;have q2:=hg.ck 2 _ rfl;have q3:=hg.ck 3 _ rfl;have q4:=hg.ck 4 _ rfl;have q5:=hg.ck 5 _ rfl;have q6:=hg.ck 6 _ rfl;have q7:=hg.ck 7 _ rfl;have q8:=hg.ck 8 _ rfl;have q9:=hg.ck 9 _ rfl;have q10:=hg.ck 10 _ rfl;have HF:=aA hf;have HK:=aA hk;have hf1:(0:Int)≤(f:Int):=bO _;have hf2:(f:Int)<(l.length:Int):=au
 have hk1:(0:Int)≤(k:Int):=bO _;have hk2:(k:Int)<((fA (bs a.t)).length:Int):=au
 have Nn:=aA h.st;have Ef:Hid (vO w0 K l us w d (w.alloc (.cells d.arr 57))):=by
  have kA:Below w.heap.size w (w.alloc (.cells d.arr 57)):=(aB _ w).alloc (ax _) _;exact⟨h.below kA,Dx.aN kA,aI w _⟩
 have NC:Hid (∀ wx x,Dr w0 K l us wx→x≠[]→bB 18 #[aH K.wb,ak f,.string (ba x)] wx (cK (ak (pU (iV (fA (bs a.t)) x))) fun w'=>Below wx.heap.size wx w')):=fun wx x hx hn=>zf hx hf x hn
 have HLn:Hid (∀ wr,Dx K w0.heap.size w wr→qx wr K.a K.b (.pointer d.name) (if gs then al else n)):=fun wr hx=>hdn.keep hx (h.st.nodes _)
 have HLm:Hid (∀ wr,Dx K w0.heap.size w wr→qx wr K.a K.b (.pointer d.mod) m):=fun wr hx=>hdm.keep hx (h.st.nodes _)
 have HLi:Hid (∀ wr,Dx K w0.heap.size w wr→qx wr K.a K.b (.pointer d.item) n):=fun wr hx=>hdi.keep hx (h.st.nodes _)
 have HLa:Hid (∀ wr,Dx K w0.heap.size w wr→qx wr K.a K.b (.pointer d.al) al):=fun wr hx=>hda.keep hx (h.st.nodes _)
 have Va:Hid (BJ (dA l) f k (.use p m n gs al)=X.f_ f m 3 (match m_ (dA l) m.1 with|some f'=>(f',-1,0)|none=>(-1,-1,4))++(X.f_ f n 4 ((iC (dA l) (h_ (dA l)) f k).1,(iC (dA l) (h_ (dA l)) f k).2.1,if (iC (dA l) (h_ (dA l)) f k).2.2=0∧gs=false then gJ (fA (bs a.t)) k (if gs then al else n).1 else(iC (dA l) (h_ (dA l)) f k).2.2)++X.f_ f al 5 ((iC (dA l) (h_ (dA l)) f k).1,(iC (dA l) (h_ (dA l)) f k).2.1,gJ (fA (bs a.t)) k (if gs then al else n).1))):=by
  show _=_;rw[← jc hf];rfl
 have HUs:=aA (zQ h);have aL4:Hid (∀ vM wx,Dr w0 K l vM wx→bB 38 #[aH K.wb,ak f,ak k,ak (h_ (dA l))] wx (cK (.tuple #[ak (iC (dA l) (h_ (dA l)) f k).1,ak (iC (dA l) (h_ (dA l)) f k).2.1,ak (iC (dA l) (h_ (dA l)) f k).2.2]) fun w'=>Below wx.heap.size wx w')):=fun vM wx hx=>uW _ (zQ h) vM wx f k a p m n gs al hx hf hk
 clear h hf hk hg hdn hdm hdi hda hdp;have hPt:=congrArg (fun x=>us++x) Va.o;generalize hPo:us++BJ (dA l) f k (.use p m n gs al)=post at *;rw[← List.append_assoc,← List.append_assoc] at hPt;have HPo:=aA hPt;clear Va hPt hPo;generalize fA (bs a.t)=its at *;generalize hcl:(if gs then al else n)=cl at *;obtain⟨d0,d1,d2,d3,d4,d5,d6,d7,d8,d9,BR,uV,d10⟩:=d;have hd6:d6=gs:=hdg;subst hd6;simp only[DI.arr] at Ef;dsimp only at *;go_enter func17,ntmps17
 go_upto_if 28 with fail
 generalize hW1:w.alloc (.cells #[.bool d0,.bool d1,.pointer d2,.pointer d3,.pointer d4,.pointer d5,.bool d6,.pointer d7,.bool d8,.slice d9 BR uV,.pointer d10] 57)=W1 at *;clear hW1
 go_cut [7,8] (fun s7 s8 wx=>s7=ak ((gJ its k cl.1:Nat):Int)∧Hid (vO w0 K l us w ⟨d0,d1,d2,d3,d4,d5,d6,d7,d8,d9,BR,uV,d10⟩ wx))
 case first =>
  rcases((HLn.o) W1 (Ef.o).dx).two with ⟨hn0,rfl⟩|⟨hn0,N,rfl,-,-,rC,x2,-⟩
  ·have HT:Hid (gJ its k cl.1=0):=by show _=_;unfold gJ;rw[aU (.inl hn0)]
   go_wp2_with fail
   go_meet
   case rel=>exact⟨by rw[HT.o];rfl,Ef⟩
  ·have x3:W1.cell? (aC w.heap.size 3)=some (aH N):=aj W1 _ 3 _ _ _ (Ef.o).blk
   have HC:=aA ((NC.o) W1 cl.1 (Ef.o).dr hn0);go_wp2_with fail
   refine(HC.o).aX fun w2 k2=>?_;have HI2:=aA ((Ef.o).below k2);clear k2 x2 x3 HC;by_cases ht:iV its cl.1=some k
   ·have HT:Hid (gJ its k cl.1=0):=by show _=_;unfold gJ;rw[aU (.inr ht)]
    rw[ht,pU];have j1:((k:Int) !=(k:Int))=false:=aT
    clear ht;go_wp2_with fail
    go_meet
    case rel=>exact⟨by rw[HT.o];rfl,HI2⟩
   ·have HT:Hid (gJ its k cl.1=5):=by show _=_;unfold gJ;rw[aM (fun e=>e.elim hn0 ht)]
    have j1:(pU (iV its cl.1) !=(k:Int))=true:=by
     cases h:iV its cl.1 with
     | none=>simp[pU]
     | some k' =>
      have:k'≠k:=fun e=>ht (by rw[h,e])
      simp[pU];omega
    generalize pU (iV its cl.1)=tz at *;clear ht;go_wp2_with fail
    go_meet
    case rel=>exact⟨by rw[HT.o];rfl,HI2⟩
 case rest =>
  obtain⟨rfl,HI1⟩:=hcut;clear Ef NC HLn;generalize gJ its k cl.1=tw at *;have c4:wc.cell? (aC w.heap.size 4)=some (.pointer d4):=aj wc _ 4 _ _ _ (HI1.o).blk
  go_upto_if 42 with fail
  go_cut [9,10] (fun s9 s10 wx=>Hid (vO w0 K l (us++X.f_ f m 3 (match m_ (dA l) m.1 with|some f'=>(f',-1,0)|none=>(-1,-1,4))) w ⟨d0,d1,d2,d3,d4,d5,d6,d7,d8,d9,BR,uV,d10⟩ wx))
  case first =>
   rcases((HLm.o) wc (HI1.o).dx).two with ⟨hn0,rfl⟩|⟨hn0,N,rfl,-,-,rC,x2,x6⟩
   ·go_wp2_with fail
    go_meet
    case rel=>rw[z_ hn0];exact HI1
   ·have HC:=aA (zH (HI1.o).dr ((HLm.o) wc (HI1.o).dx))
    go_wp2_with fail
    refine(HC.o).aX fun w2 k2=>?_;have HI2:=aA ((HI1.o).below k2);have y6:=iY k2 rC x6;have y4:w2.cell? (aC w.heap.size 4)=some (aH N):=aj w2 _ 4 _ _ _ (HI2.o).blk;have cK4:=aJ rC k2.size;have kB:∀ o:Obj,Below w2.heap.size w2 (w2.alloc o):=fun o=>(aB _ w2).alloc (ax _) o
    have UI:=aA kB;clear k2 x2 x6 HC kB c4;cases hm:m_ (dA l) m.1 with
    | none =>
     have nC:=aA (mD f m.2 3 (-1) (-1) 4 ((HI2.o).dr.below ((UI.o) (.cells #[ak f,ak m.2,ak 3,ak (-1),ak (-1),ak 4] 63))) au);rw[pU];have HM:=aA hm;clear hm;go_wp2_with fail
     refine(nC.o).aX fun w3 H3=>?_;have HI3:=aA (((HI2.o).below ((UI.o) _)).keep hwl (H3.o).1 (H3.o).2);clear nC H3;go_wp2_with fail
     go_meet
     case rel=>rw[qR hn0,HM.o];exact HI3
    | some f' =>
     have j1:decide ((f':Int)<0)=false:=aT
     have nC:=aA (mD f m.2 3 (f':Int) (-1) 0 ((HI2.o).dr.below ((UI.o) (.cells #[ak f,ak m.2,ak 3,ak f',ak (-1),ak 0] 63))) au);rw[pU];have HM:=aA hm;clear hm;go_wp2_with fail
     refine(nC.o).aX fun w3 H3=>?_;have HI3:=aA (((HI2.o).below ((UI.o) _)).keep hwl (H3.o).1 (H3.o).2);clear nC H3;go_wp2_with fail
     go_meet
     case rel=>rw[qR hn0,HM.o];exact HI3
  case rest =>
   have HI2:=hcut;have hl2:(us++X.f_ f m 3 (match m_ (dA l) m.1 with|some f'=>(f',-1,0)|none=>(-1,-1,4))).length≤us.length+1:=by rw[ay];unfold X.f_;split<;>simp
   generalize aL5:us++X.f_ f m 3 (match m_ (dA l) m.1 with|some f'=>(f',-1,0)|none=>(-1,-1,4))=YX at HI2 hl2;have HE2:=aA aL5;clear aL5 hcut;clear HI1 HLm;have Qi:=aA (FU (HI2.o).dr);go_wp2_with fail
   refine(Qi.o).mono ?_;rintro e wu ⟨rfl,rfl⟩;have HS1:=aA ((aL4.o) YX wu (HI2.o).dr);generalize iC (dA l) (h_ (dA l)) f k=an at *;clear Qi aL4;go_wp2_with fail
   refine(HS1.o).aX fun w4 k4=>?_;have HI4:=aA ((HI2.o).below k4);have c5:w4.cell? (aC w.heap.size 5)=some (.pointer d5):=aj w4 _ 5 _ _ _ (HI4.o).blk;have c6:w4.cell? (aC w.heap.size 6)=some (.bool d6):=aj w4 _ 6 _ _ _ (HI4.o).blk;clear k4 HS1 HI2 c4
   go_upto_if 74 with fail
   go_cut [15] (fun s15 wx=>Hid (vO w0 K l (YX++X.f_ f n 4 (an.1,an.2.1,if an.2.2=0∧d6=false then tw else an.2.2)) w ⟨d0,d1,d2,d3,d4,d5,d6,d7,d8,d9,BR,uV,d10⟩ wx))
   case first =>
    rcases((HLi.o) w4 (HI4.o).dx).two with ⟨hn0,rfl⟩|⟨hn0,N,rfl,-,-,rC,x2,x6⟩
    ·go_wp2_with fail
     go_meet
     case rel=>rw[z_ hn0];exact HI4
    ·have kB:∀ o:Obj,Below w4.heap.size w4 (w4.alloc o):=fun o=>(aB _ w4).alloc (ax _) o
     have UI:=aA kB;have hwn:¬ w.heap.size=w4.heap.size:=by have:=bN (HI4.o).blk;omega
     have cK5:=bN (HI4.o).blk;clear kB;by_cases hcs:an.2.2=0∧d6=false
     ·obtain⟨ha0,rfl⟩:=hcs
      have nC:=aA (mD f n.2 4 an.1 an.2.1 tw ((HI4.o).dr.below ((UI.o) (.cells #[ak f,ak n.2,ak 4,ak an.1,ak an.2.1,ak tw] 63))) au);have HIf:Hid ((if an.2.2=0∧false=false then tw else an.2.2)=tw):=aU ⟨ha0,rfl⟩;have j1:((an.2.2:Int)==0)=true:=by rw[ha0];rfl
      clear ha0;go_wp2_with fail
      refine(nC.o).aX fun w3 H3=>?_;have HI3:=aA (((HI4.o).below ((UI.o) _)).keep hwl (H3.o).1 (H3.o).2);clear nC H3;go_wp2_with fail
      go_meet
      case rel=>rw[qR hn0,HIf.o];exact HI3
     ·have nC:=aA (mD f n.2 4 an.1 an.2.1 an.2.2 ((HI4.o).dr.below ((UI.o) (.cells #[ak f,ak n.2,ak 4,ak an.1,ak an.2.1,ak an.2.2] 63))) au)
      have HIf:Hid ((if an.2.2=0∧d6=false then tw else an.2.2)=an.2.2):=aM hcs;have hcs2:((an.2.2:Int)==0)=false∨(((an.2.2:Int)==0)=true∧d6=true):=by
       by_cases h0:an.2.2=0
       ·right
        refine⟨by rw[h0];rfl,?_⟩;cases hd:d6 with
        | true=>rfl
        | false=>exact absurd ⟨h0,hd⟩ hcs
       ·left;simp;omega
      clear hcs;rcases hcs2 with j1|⟨j1,rfl⟩
      ·go_wp2_with fail
       refine(nC.o).aX fun w3 H3=>?_;have HI3:=aA (((HI4.o).below ((UI.o) _)).keep hwl (H3.o).1 (H3.o).2);clear nC H3;go_wp2_with fail
       go_meet
       case rel=>rw[qR hn0,HIf.o];exact HI3
      ·go_wp2_with fail
       refine(nC.o).aX fun w3 H3=>?_;have HI3:=aA (((HI4.o).below ((UI.o) _)).keep hwl (H3.o).1 (H3.o).2);clear nC H3;go_wp2_with fail
       go_meet
       case rel=>rw[qR hn0,HIf.o];exact HI3
   case rest =>
    have sQ:=hcut;have hl3:(YX++X.f_ f n 4 (an.1,an.2.1,if an.2.2=0∧d6=false then tw else an.2.2)).length≤YX.length+1:=by rw[ay];unfold X.f_;split<;>simp
    generalize aL6:YX++X.f_ f n 4 (an.1,an.2.1,if an.2.2=0∧d6=false then tw else an.2.2)=us3 at sQ hl3;have HE3:=aA aL6;clear aL6 hcut;clear HI4 HLi;rcases((HLa.o) _ (sQ.o).dx).two with ⟨hn0,rfl⟩|⟨hn0,N,rfl,-,-,rC,x2,x6⟩
    ·have c7:=aj _ _ 7 _ _ _ (sQ.o).blk
     simp only[DI.arr] at c7;go_wp2_with fail
     go_end0;exact⟨rfl,by rw[HPo.o,HE2.o,HE3.o,z_ hn0];exact⟨(sQ.o).dr,(sQ.o).dx⟩⟩
    ·have c7:=aj _ _ 7 _ _ _ (sQ.o).blk
     simp only[DI.arr] at c7;have nC:=aA (mD f al.2 5 an.1 an.2.1 tw (sQ.o).dr au);go_wp2_with fail
     refine(nC.o).aX fun w6 H6=>?_;have YZ:Hid (Dr w0 K l (us3++[⟨f,al.2,5,an.1,an.2.1,tw⟩]) w6∧Dx K w0.heap.size w w6):=⟨(H6.o).1,(sQ.o).dx.trans (H6.o).2⟩;clear nC H6 c7;go_wp2_with fail
     go_end0;exact⟨rfl,by rw[HPo.o,HE2.o,HE3.o,qR hn0];exact YZ⟩
end
section
variable{B i nc ac:Nat}{t:TypeId}{v:Value}{no ao:Option Addr}{sl:List Nm}
variable{w0:aG}{K:DK}{l:List AF}{us:List X.U}{w:aG}
theorem qQ{w:aG}{rv:Value}{n:Nat}{xs:List Value}(h:w.ownsRow B t 1 rv n xs):∃ ao cap,rv=.slice ao n cap∧n≤cap∧cap≤maxLen∧xs.length=n∧∀ j u,xs[j]?=some u→∃ g cs d,ao=some ⟨g,0,none⟩∧B≤g∧w.heap[g]?=some (.cells cs t d)∧w.cell? (aC g j)=some u:=by
 have h':=h;have h1:=h.1;rcases h.2 with ⟨e,h0⟩|⟨g,cap,cur,e,hge,hg,hn,hmx,hsz,htk⟩
 ·subst h0
  exact⟨none,0,e,ax _,by unfold maxLen;omega,au,fun j u hj=>by have hl:=lt_of_some hj;omega⟩
 ·refine⟨_,cap,e,hn,hmx,au,fun j u hj=>⟨g,_,_,rfl,hge,hg,?_⟩⟩
  have:=h'.cells (g:=g) (by rw[e];rfl) j u hj
  rwa[dQ,bS] at this
def CO(w0:aG)(K:DK)(l:List AF)(n:Nat):Prop:=∀(us:List X.U) (w:aG) (f:Nat) (a:AF) (p:Part) (i:Nat) (v:Value) (no ao:Option Addr) (nc ac:Nat) (sl:List Nm) (sc:List (List Nm)) (U:List X.U),Dr w0 K l us w→l[f]?=some a→lS w K.a K.b v p i→X.Wk f (fH (dA l) f) sc p i U→Cx p→su p→jh p≤n→oH K w0.heap.size w no nc ao ac sl→Sg sc sl→sl.length+jh p≤1073741823→us.length+U.length≤1073741824 →
 bB 21 #[aH K.wb,ak f,v,.agg #[.slice no sl.length nc,.slice ao sl.length ac]] w fun e w'=>e=.returned (.tuple #[])∧Hid (Dr w0 K l (us++U) w'∧Dx K w0.heap.size w w')
theorem zR(p:Part):(X.pq p).length+eT (X.pq p)≤2*jh p∧(X.pq p).length<jh p∧eT (X.pq p)<jh p:=by
 have key:∀ ps:List Part,ps.length≤eT ps:=by
  intro ps
  induction ps with
  | nil=>exact bJ _
  | cons q ps ih=>rw[eT,aY];have:=jA q;omega
 cases p with
 | leaf k x=>have:=jA (.leaf k x);simp only[X.pq,eT,List.length_nil];omega
 | miss m=>have:=jA (.miss m);simp only[X.pq,eT,List.length_nil];omega
 | br k ps=>have:=key ps;rw[jh];simp only[X.pq];omega
structure yS(w0:aG)(K:DK)(l:List AF)(us:List X.U)(w:aG)(p:Part)(i:Nat)(no ao:Option Addr)(nc ac:Nat)(sl:List Nm)(vs:List Value)(ro:Option Addr)(rc:Nat)(wr:aG):Prop where
 dr:Dr w0 K l us wr
 dx:Dx K w0.heap.size w wr
 sc:oH K w0.heap.size wr no nc ao ac sl
 blk:wr.heap[w.heap.size]?=some (.cells #[.slice no sl.length nc,.slice ao sl.length ac] 67 (0,0))
 lp:LP wr K.a K.b vs (X.pq p) i
 rb:vs.length≤rc∧rc≤maxLen
 row:∀ j u,vs[j]?=some u→∃ g cs d,ro=some ⟨g,0,none⟩∧w.heap.size<g∧wr.heap[g]?=some (.cells cs 51 d)∧wr.cell? (aC g j)=some u
theorem mV{K:DK}{w:aG}{g:Nat}{cs:Array Value}{d:Nat × Nat}(hb:w.heap[g]?=some (.cells cs t d))(hw:g≠K.wb)(ht:t≠63):¬ K.Sx B w g:=(Sf.made hb hw ht).2
theorem yS.keep{vM:List X.U}{p:Part}{i:Nat}{no ao:Option Addr}{nc ac:Nat}{sl:List Nm}{vs:List Value}{ro:Option Addr}{rc:Nat}{wr wx:aG}(h:yS w0 K l us w p i no ao nc ac sl vs ro rc wr)(hw:K.wb<w.heap.size)(hd:Dr w0 K l vM wx)(hk:Dx K w0.heap.size wr wx):yS w0 K l vM w p i no ao nc ac sl vs ro rc wx:=by
 refine⟨hd,h.dx.trans hk,h.sc.keep hk,Kp.heap hk h.blk (mV h.blk au aS),h.lp.keep hk (fun q h1 h2=>hd.st.nodes _ q h1 h2),h.rb,fun j u hj=>?_⟩;obtain⟨g,cs,d,e1,e2,e3,e4⟩:=h.row j u hj;have:=mV (K:=K) (B:=w0.heap.size) e3 au aS;exact⟨g,cs,d,e1,e2,Kp.heap hk e3 this,Kp.dD hk e4 this⟩
theorem rF{p:Part}(h:Dr w0 K l us w)(hn:lS w K.a K.b v p i)(hk:su p)(hz:jh p≤1073741823)(hsc:oH K w0.heap.size w no nc ao ac sl) :
  bB 33 #[v] (w.alloc (.cells #[.slice no sl.length nc,.slice ao sl.length ac] 67)) fun e w2=>∃ ro rc vs,e=.returned (.slice ro vs.length rc)∧vs.length≤1073741823∧Hid (yS w0 K l us w p i no ao nc ac sl vs ro rc w2):=by
 have kA:Below w.heap.size w (w.alloc (.cells #[.slice no sl.length nc,.slice ao sl.length ac] 67)):=(aB _ w).alloc (ax _) _;have hbw:=dI h.st.bl h.size;have hkl:=(zR p).2.1;refine(Cw (hn.below kA) (dI hbw kA.size) hk au).mono ?_;rintro e w2 ⟨rv,rfl,H2⟩;obtain⟨⟨vs,hlp,hown⟩,hb2⟩:=H2.o;obtain⟨ro,rc,rfl,h1,h2,-,h4⟩:=qQ hown;have kB:=kA.trans (hb2.mono kA.size);have hl:=hlp.len;refine⟨ro,rc,vs,rfl,au,h.below kB,Dx.aN kB,hsc.keep (Dx.aN kB),(Kp.aN hb2 (fun _=>False)).heap (aI w _) id,hlp.keep (Kp.aN hb2 (fun _=>False)) (fun _ _ _=>id),⟨h1,h2⟩,fun j u hj=>?_⟩;obtain⟨g,cs,d,e1,e2,e3,e4⟩:=h4 j u hj;have:w.heap.size<g:=by simp at e2;omega
 exact⟨g,cs,d,e1,this,e3,e4⟩
theorem Qj{f:Nat}{a:AF}{x:ah}{ps qs:List Part}{sc:List (List Nm)}(h:Dr w0 K l us w)(hf:l[f]?=some a)(hn:lS w K.a K.b v (.br 18 ps) i)(ht:vH ps 3 x qs)(hy:Cx (.br 18 ps))(hk:su (.br 18 ps))(hz:sl.length+jh (.br 18 ps)≤1073741823)(hsc:oH K w0.heap.size w no nc ao ac sl)(hsg:Sg sc sl)(hlim:us.length+1≤1073741824) :
  bB 21 #[aH K.wb,ak f,v,.agg #[.slice no sl.length nc,.slice ao sl.length ac]] w (cK (.tuple #[]) fun w'=>Hid (Dr w0 K l (us++exU f (fH (dA l) f) sc (.var (x,i+pz qs))) w'∧Dx K w0.heap.size w w')):=by
 have HC:=aA (rF h hn hk au hsc);have hkl:=(zR (.br 18 ps)).2.1;have hx:x≠[]:=by
  have:=hy.kids;rw[ht.eq] at this;exact this.app.2.one.leaf
 have sP:qs.length≤1073741823:=by
  have e1:ps.length=qs.length+1:=by rw[ht.eq,ay];rfl
  have e2:(X.pq (.br 18 ps)).length=ps.length:=rfl;omega
 have HV:Hid (∀ w2,Dr w0 K l us w2→lS w2 K.a K.b v (.br 18 ps) i→oH K w0.heap.size w2 no nc ao ac sl→bB 39 #[aH K.wb,ak f,v,.agg #[.slice no sl.length nc,.slice ao sl.length ac]] w2 (cK (.tuple #[]) fun w'=>Hid (Dr w0 K l (us++exU f (fH (dA l) f) sc (.var (x,i+pz qs))) w'∧Dx K w0.heap.size w2 w'))):=fun w2 h2 hn2 hs2=>Ea f a x ps qs i v no ao nc ac sl sc h2 hf hn2 ht hx sP hs2 hsg au hlim
 have HN:=aA hn;obtain⟨N,aoN,Qk,kM,en,fr,tt,la,vsN,rfl,hN1,tX,hnd,-⟩:=hn.any;obtain⟨⟨n0,-⟩,-⟩:=hnd.facts;have b0:((pk (.br 18 ps):Nat):Int)=18:=rfl;rw[b0] at n0;have HS:=aA h.st;have hwb:=h.wl;clear h hf hn ht hy hk hsc hsg hnd;go_enter func21,ntmps21;go_wp2_with fail
 refine(HC.o).mono ?_;rintro e w2 ⟨ro,rc,vs,rfl,hvl,HI⟩;have m0:=Kp.dD (HI.o).dx n0 ((HS.o).nodes _ N hN1 tX);have b0:=aj w2 _ 0 _ _ _ (HI.o).blk;have b1:=aj w2 _ 1 _ _ _ (HI.o).blk;have nC:=aA ((HV.o) w2 (HI.o).dr ((HN.o).keep (HI.o).dx ((HS.o).nodes _)) (HI.o).sc);clear HC HV n0;go_wp2_with fail
 refine(nC.o).aX fun w3 H3=>?_;have HF:Hid (Dr w0 K l (us++exU f (fH (dA l) f) sc (.var (x,i+pz qs))) w3∧Dx K w0.heap.size w w3):=⟨(H3.o).1,(HI.o).dx.trans (H3.o).2⟩;clear H3 HI nC b0 b1 m0;go_wp2_with fail
 (try simp only[Exit.inBlock,Exit.then])
 refine aW (results_none rfl _ _ _) rfl ?_;exact⟨rfl,HF⟩
end
section
variable{w0:aG}{K:DK}{l:List AF}{us:List X.U}{w:aG}
structure Vb(w0:aG)(K:DK)(l:List AF)(us:List X.U)(w:aG)(f:Nat)(sc:List (List Nm))(n:Nat)(p:Part)(i:Nat)(no ao:Option Addr)(nc ac:Nat)(sl:List Nm)(U:List X.U)(vs:List Value)(ro:Option Addr)(rc:Nat)(j:Nat)(wr:aG):Prop where
 ex:∃ done rest ps' i',U=done++rest∧yS w0 K l (us++done) w p i no ao nc ac sl vs ro rc wr∧LP wr K.a K.b (vs.drop j) ps' i'∧sJ f (fH (dA l) f) sc ps' i' rest∧oG ps'∧ja ps'∧eT ps'≤eT (X.pq p)
theorem ND{n:Nat}(ih:CO w0 K l n){f:Nat}{a:AF}{p:Part}{i:Nat}{v:Value}{no ao:Option Addr}{nc ac:Nat}{sl:List Nm}{sc:List (List Nm)}{U:List X.U}(h:Dr w0 K l us w)(hf:l[f]?=some a)(hn:lS w K.a K.b v p i)(hwk:X.Wk f (fH (dA l) f) sc p i U)(h7:pk p≠7)(h9:pk p≠9)(h18:pk p≠18)(hy:Cx p)(hk:su p)(hpn:jh p≤n+1)(hz:sl.length+jh p≤1073741823)(hsc:oH K w0.heap.size w no nc ao ac sl)(hsg:Sg sc sl)(hlim:us.length+U.length≤1073741824) :
  bB 21 #[aH K.wb,ak f,v,.agg #[.slice no sl.length nc,.slice ao sl.length ac]] w (cK (.tuple #[]) fun w'=>Hid (Dr w0 K l (us++U) w'∧Dx K w0.heap.size w w')):=by
 have HC:=aA (rF h hn hk au hsc);have hkl:=(zR p).2.2;have HWs:=aA (hwk.kids h7 h9 h18);have Xv:Hid (oG (X.pq p)):=by
  cases p with
  | leaf k x=>exact fun t ht=>by cases ht
  | miss m=>exact fun t ht=>by cases ht
  | br k ps=>exact hy.kids
 have HKo:Hid (ja (X.pq p)):=by
  cases p with
  | leaf k x=>exact trivial
  | miss m=>exact trivial
  | br k ps=>exact hk.2
 obtain⟨N,aoN,Qk,kM,en,fr,tt,la,vsN,rfl,hN1,tX,hnd,-⟩:=hn.any;obtain⟨⟨n0,-⟩,-⟩:=hnd.facts;have k18:((pk p:Int)==18)=false:=aQ
 have k7:((pk p:Int)==7)=false:=aQ
 have k9:((pk p:Int)==9)=false:=aQ
 have HS:=aA h.st;have hwb:=h.wl;have UF:=aA ih;have HFf:=aA hf;have YC:=aA hsg;have hz2:sl.length+eT (X.pq p)≤1073741823:=au
 have hpz:eT (X.pq p)≤n:=au
 clear h hf hn hy hk hsc hsg hnd hwk ih h7 h9 h18 hz hpn hkl;generalize pk p=kp at *;go_enter func21,ntmps21;go_wp2_with fail
 refine(HC.o).mono ?_;rintro e w2 ⟨ro,rc,vs,rfl,hvl,HI⟩;have m0:=Kp.dD (HI.o).dx n0 ((HS.o).nodes _ N hN1 tX);have Xw:Hid (Vb w0 K l us w f sc n p i no ao nc ac sl U vs ro rc 0 w2):=⟨[],U,X.pq p,i,rfl,by rw[aL];exact HI.o,(HI.o).lp,HWs.o,Xv.o,HKo.o,ax _⟩;have hrb:=(HI.o).rb;clear HC n0 HI HWs Xv HKo;go_wp2_with fail
 go_loopw [13] (fun jv wr=>∃ j:Nat,jv=ak j∧j≤vs.length∧Hid (Vb w0 K l us w f sc n p i no ao nc ac sl U vs ro rc j wr)) (fun jv _=>vs.length - (intOf jv).toNat)
 case atStart=>exact⟨0,rfl,bJ _,Xw⟩
 case round =>
  clear Xw m0;obtain⟨j,rfl,hj,HI⟩:=hrel;by_cases hlt:j<vs.length
  case neg =>
   obtain rfl:j=vs.length:=au
   have i1:decide (vs.length<vs.length)=false:=aT
   have i2:decide ((vs.length:Int)<(vs.length:Int))=false:=aT
   have HF:Hid (Dr w0 K l (us++U) wr∧Dx K w0.heap.size w wr):=by
    obtain⟨done,rest,ps',i',e1,hI,hl,hw,-⟩:=(HI.o).ex;rw[List.drop_length] at hl;have:=hl.CK hw;subst this;rw[aL] at e1;subst e1;exact⟨hI.dr,hI.dx⟩
   clear HI;go_wp2_with fail
   go_end0;exact⟨rfl,HF⟩
  have i1:decide (j<vs.length)=true:=aQ
  have i2:decide ((j:Int)<(vs.length:Int))=true:=aQ
  have hi1:(0:Int)≤(j:Int):=bO _;have hi2:(j:Int)<(vs.length:Int):=au
  obtain⟨done,rest,ps',i',hU,hI,hl,hw,hby,hko,cH2⟩:=(HI.o).ex;rw[dS hlt] at hl;obtain⟨q,ps2,i2',u1,Xx,hq,hl2,hw2,aJ2,aJ3,aJ4,aJ5,hps,hre,hcase⟩:=hl.next hw hby hko;obtain⟨g,cs,d,rfl,hg1,hgb,hgc⟩:=hI.row j vs[j] (aF hlt);obtain⟨Nj,aoj,Yw,a1,a2,a3,a4,a5,vF,Jq,hj1,hj2,vI,-⟩:=hq.any;obtain⟨⟨f0,-⟩,-⟩:=vI.facts;rw[Jq] at hgc;have b0:=aj wr _ 0 _ _ _ hI.blk;have b1:=aj wr _ 1 _ _ _ hI.blk;have hpq:jh q≤eT (X.pq p)∨True:=.inr trivial;have HI2:=aA hI;have HGB:=aA hgb;have HQ:=aA hq;have HVJ:=aA Jq;have HL2:=aA hl2;have HW2:=aA hw2;have HU:=aA hU;have HRe:=aA hre;have HB2:=aA (And.intro aJ3 aJ5);have HB1:=aA (And.intro aJ2 aJ4);clear hI hl hw hby hko hq hl2 hw2 hgb vI Jq HI hU hre aJ3 aJ5 aJ2 aJ4;rcases hcase with ⟨hp1,rfl⟩|⟨hp2,hwk⟩
  ·have k1:decide ((pk q:Int)>1)=false:=by simp;omega
   have k1b:decide ((1:Int)<(pk q:Int))=false:=aQ
   have zO:Hid (Vb w0 K l us w f sc n p i no ao nc ac sl U vs (b_ g) rc (j+1) wr):=⟨done,Xx,ps2,_,by rw[HU.o,HRe.o,bM],HI2.o,HL2.o,HW2.o,(HB2.o).1,(HB2.o).2,au⟩;clear HI2 HL2 HW2 HU HRe;generalize pk q=kq at *;go_wp2_with fail
   exact⟨⟨j+1,by go_num,au,zO⟩,by simp only[intOf];omega⟩
  ·have k1:decide ((pk q:Int)>1)=true:=by simp;omega
   have k1b:decide ((1:Int)<(pk q:Int))=true:=aQ
   have YI:(us++done).length+u1.length≤1073741824:=by
    have:=congrArg List.length HU.o;rw[HRe.o,ay,ay] at this;rw[ay];omega
   have hdr:Below wr.heap.size wr wr.drew:=(aB _ wr).drew;have HC:=aA ((UF.o) (us++done) wr.drew f a q i2' _ no ao nc ac sl sc u1 ((HI2.o).dr.below hdr) HFf.o ((HQ.o).below hdr) hwk (HB1.o).1 (HB1.o).2 au ((HI2.o).sc.keep (Dx.aN hdr)) YC.o au YI);rw[HVJ.o] at HC;have JY:Hid (¬ K.Sx w0.heap.size wr.drew g):=mV (w:=wr.drew) HGB.o au aS;have zS:Hid (¬ K.Sx w0.heap.size wr.drew w.heap.size):=mV (w:=wr.drew) (HI2.o).blk au aS;clear hwk;generalize pk q=kq at *;go_wp2_with fail
   refine wp_region_noPanic ?_;refine dB (S:=fun w'=>w'.cell? (aC g j)=some (aH Nj)∧w'.cell? (aC w.heap.size 0)=some (.slice no sl.length nc)∧w'.cell? (aC w.heap.size 1)=some (.slice ao sl.length ac)) (z:=8) bC ?_;have hS:wr.drew.cell? (aC g j)=some (aH Nj)∧wr.drew.cell? (aC w.heap.size 0)=some (.slice no sl.length nc)∧wr.drew.cell? (aC w.heap.size 1)=some (.slice ao sl.length ac):=⟨hgc,b0,b1⟩;iterate 7(refine oQ hS ?_;simp only[Act.put,aD,aO,aP])
   refine dY (i:=7) bC rfl (fun KK hK=>?_);go_simp;refine(HC.o).aX fun w4 H4=>?_;have p1:=Kp.dD (H4.o).2 hS.1 JY.o;have p2:=Kp.dD (H4.o).2 hS.2.1 zS.o;have p3:=Kp.dD (H4.o).2 hS.2.2 zS.o;go_simp;refine hK.o _ _ (fun _=>⟨p1,p2,p3⟩) (fun _=>iF ?_);clear hK KK hS;refine NoPanic.normal ?_;have zO:Hid (Vb w0 K l us w f sc n p i no ao nc ac sl U vs (b_ g) rc (j+1) w4):=by
    have tZ:=(Dx.aN ((aB _ wr).drew)).trans (H4.o).2;refine⟨done++u1,Xx,ps2,_,by rw[HU.o,HRe.o,aK],(HI2.o).keep hwb ?_ tZ,(HL2.o).keep tZ ((HS.o).nodes _),HW2.o,(HB2.o).1,(HB2.o).2,au⟩;rw[← aK];exact(H4.o).1
   clear HI2 HL2 HW2 HU HRe H4;go_wp2_with fail
   exact⟨⟨j+1,by go_num,au,zO⟩,by simp only[intOf];omega⟩
end
end Go.Proofs.YtoohcklcppnafaaGreatDoor
