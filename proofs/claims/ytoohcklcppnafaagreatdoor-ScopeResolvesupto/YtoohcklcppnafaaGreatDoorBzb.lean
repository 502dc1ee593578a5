import Derived.Test.YtoohcklcppnafaaGreatDoorBy
import Derived.Test.YtoohcklcppnafaaGreatDoorBta
namespace Go.Proofs.YtoohcklcppnafaaGreatDoor
set_option maxRecDepth 100000
set_option maxHeartbeats 16000000
open Tryz
open Go.RowKit
open M
open X
theorem CR{w:aG}{b:Nat}{cs:Array Value}{t:TypeId}(h:w.heap[b]?=some (.cells cs t (0,0)))(k:Nat):w.frozen? (aC b k)=false:=dO h
def QK:Option (List Nm)→List (List Nm)
 | some ns=>[ns]
 | none=>[]
theorem Ma(fs:List Fl)(f k:Nat)(p:Bool)(n:Nm)(ps:Option (List Nm))(e:Ex):BJ fs f k (.dfn p n ps e)=jd f n 0 (gJ (bI fs f) k n.1)++(iL f [] (ps.getD [])++exU f (fH fs f) (QK ps) e):=by cases ps<;>rfl
theorem Zb{K:DK}{B:Nat}{w:aG}:oH K B w none 0 none 0 []:=⟨⟨ax _,by unfold maxLen;omega⟩,⟨ax _,by unfold maxLen;omega⟩,fun j n h=>by simp at h,fun j n h=>by simp at h⟩
theorem Vp{ps:List Part}{i:Nat}{its:List It}(h:uG ps i its):∀(k:Nat) (it:It),its[k]?=some it→∃ p i',p∈ps∧X.BV p i' it:=by
 induction h with
 | leaves ps i h=>intro k it hk;simp at hk
 | junk qs ps i its hq h ih =>
  intro k it hk;obtain⟨p,i',h1,h2⟩:=ih k it hk;exact⟨p,i',eX _ h1,h2⟩
 | item p ps i it' its hp h ih =>
  intro k it hk;cases k with
  | zero =>
   obtain rfl:it'=it:=by simpa using hk
   exact⟨p,i,aT,hp⟩
  | succ k =>
   obtain⟨p',i',h1,h2⟩:=ih k it (by simpa using hk);exact⟨p',i',eX _ h1,h2⟩
theorem Ej{p:Part}:∀ {ps:List Part},p∈ps→jh p≤eT ps
 | [],h=>by cases h
 | q::ps,h=>by
  rw[eT];rcases fJ.1 h with rfl|h
  ·omega
  ·have:=Ej h;omega
theorem Vq{l:List AF}(hsh:Short l){f k:Nat}{a:AF}(hf:l[f]?=some a){p:Bool}{n:Nm}{ps:Option (List Nm)}{e:Ex}(hk:(fA (bs a.t))[k]?=some (.dfn p n ps e)):(ps.getD []).length≤268435456:=by
 obtain⟨q,i',h1,h2⟩:=Vp (vP (bs a.t)) k _ hk;have h3:=Ej h1;have h4:=(Ae (x:=bs a.t) (by rw[eY];exact hsh a (dF hf))).2;cases h2 with
 | dfn pb t1 n1 pr t2 p t3 _ _ _ _ _ hp h1 hn1 hpr h2 he h3' =>
  rw[jh,bR,bR,bR,bR,bR] at h3;cases hpr with
  | no=>exact bJ _
  | yes qs _ ns YT =>
   have h5:=Ga YT;have h6:=zk qs;rw[gM,jh] at h3;show ns.length≤_;omega
structure QL(w1:aG)(K:DK)(l:List AF)(i k:Nat)(a:AF)(wr:aG):Prop where
 dr:Dr w1 K l (BK (dA l) i++jZ (dA l) i 0 ((fA (bs a.t)).take k)) wr
theorem QM(rv:Value)(l:List AF)(w:aG)(B:Nat)(hF:Eh w B rv l)(hn:l.length≤16)(hsh:Short l)(hnm:∀ a∈l,pR a.n=true) :
  bB 8 #[rv] w fun e w'=>∃ nv,e=.returned (aH w.heap.size)∧Hid (w'.cell? (aC w.heap.size 3)=some nv∧w'.ownsRow w.heap.size 63 6 nv (nD (dA l)).length (yj (nD (dA l)))∧Below w.heap.size w w'∧w.heap.size<w'.heap.size):=by
 obtain⟨fo,fc,rfl,hl,hc,hrow⟩:=hF.form;have lT:Hid (∀ i a,l[i]?=some a→∃ g,fo=some ⟨g,0,none⟩∧g<w.heap.size∧w.cell? (aC g (i*2))=some (.string a.n)∧w.cell? (aC g (i*2+1))=some (.string a.t)):=fun i a hi=>by
  obtain⟨g,cs,d,e1,-,e3,e4,e5⟩:=hrow i a hi;exact⟨g,e1,bN e3,e4,e5⟩
 have HF:=aA hF;have HSh:=aA hsh;have Jv:=aA hnm;have HI0:Hid (Y8 w (.slice fo l.length fc) l 0 (w.alloc (.cells #[.slice fo l.length fc,.slice none 0 0,.slice none 0 0,.slice none 0 0] 39))):=⟨(aB _ w).alloc (ax _) _,fun _=>False,_,_,[],[],aI w _,dK _ _ _ _,dK _ _ _ _,fun q h=>h.elim,fun j a h=>absurd h (jE _)⟩;obtain⟨i0,hi0,hz0,hz1,hz2⟩:=dM qM;obtain⟨j0,hj0,hy0,hy1,hy2⟩:=dM Y9;obtain⟨k0,hk0,hx0,hx1,hx2⟩:=dM Vn;clear hF hsh hnm hrow;go_enter func8,ntmps8;go_wp2_with fail
 go_loopw [4] (fun iv wr=>∃ i:Nat,iv=ak i∧i≤l.length∧Hid (Y8 w (.slice fo l.length fc) l i wr)) (fun iv _=>l.length - (intOf iv).toNat)
 case atStart=>exact⟨0,rfl,bJ _,HI0⟩
 case round =>
  clear HI0;obtain⟨i,rfl,hi,HI⟩:=hrel;by_cases hlt:i<l.length
  case neg =>
   obtain rfl:i=l.length:=au
   have i1:decide (l.length<l.length)=false:=aT
   have i2:decide ((l.length:Int)<(l.length:Int))=false:=aT
   obtain⟨K,hKw,hDr⟩:=(HI.o).dst HF.o hn HSh.o Jv.o;have HBl:=aA (HI.o).bl;have hwr:w.heap.size<wr.heap.size:=by have:=hDr.wl;omega
   have D_:=aA hKw;have HD0:Hid (Dr wr K l (BK (dA l) 0) wr):=hDr;clear HI hDr hKw;obtain⟨W1,hW1⟩:∃ W1,W1=wr:=⟨_,rfl⟩;subst hW1;go_wp2_with fail
   go_loopw [10] (fun iv wx=>∃ i:Nat,iv=ak i∧i≤l.length∧Hid (Dr W1 K l (BK (dA l) i) wx)) (fun iv _=>l.length - (intOf iv).toNat)
   case atStart=>exact⟨0,rfl,bJ _,HD0⟩
   case round =>
    clear HD0;obtain⟨i,rfl,hi,HD⟩:=hrel;by_cases hlt:i<l.length
    case neg =>
     obtain rfl:i=l.length:=au
     have HE:Hid (∃ nv,wr.cell? (aC w.heap.size 3)=some nv∧wr.ownsRow w.heap.size 63 6 nv (nD (dA l)).length (yj (nD (dA l)))∧Below w.heap.size w wr∧w.heap.size<wr.heap.size):=by
      obtain⟨nv,-,-,h3,-,h5⟩:=(HD.o).cells;have eU:BK (dA l) l.length=nD (dA l):=by unfold BK nD;rw[Af]
      rw[eU] at h5;rw[D_.o] at h3;refine⟨nv,h3,CS h5 (Nat.le_of_lt hwr),(HBl.o).trans (Kp.below (HD.o).kp (Nat.le_of_lt hwr) (fun q hq=>?_)),aJ hwr (HD.o).kp.size⟩;rcases hq with hq|⟨hq,-⟩
      ·rw[hq,D_.o];exact ax _
      ·omega
     clear HD;go_wp2_with fail
     go_ret;obtain⟨nv,h⟩:=HE.o;exact⟨nv,rfl,h⟩
    have i3:decide (i<l.length)=true:=aQ
    have i4:decide ((i:Int)<(l.length:Int))=true:=aQ
    have hi1:(0:Int)≤(i:Int):=bO _;have hi2:(i:Int)<(l.length:Int):=au
    obtain⟨a,ha⟩:∃ a,l[i]?=some a:=⟨l[i],aF hlt⟩;have HA:=aA ha;have hil:=sN HD.o ha;have bW8:(BK (dA l) i).length+(jZ (dA l) i 0 (fA (bs a.t))).length≤20000000:=by
     have h1:=El HSh.o i;have h2:=(uU HSh.o i).2.2 (dA l) i;rw[jc ha] at h2;have:i*1000000≤16*1000000:=Nat.mul_le_mul_right _ au;omega
    have HT0:Hid (QL W1 K l i 0 a wr):=⟨by rw[jr,jZ,aL];exact HD.o⟩;have Vl:Hid (∀ W,QL W1 K l i (fA (bs a.t)).length a W→Dr W1 K l (BK (dA l) (i+1)) W):=fun W h=>by
     have:=h.dr;rw[fC] at this;rw[Ag,jc HA.o];exact this
    clear HD ha;go_wp2_with fail
    go_loopw [11] (fun kv wy=>∃ k:Nat,kv=ak k∧k≤(fA (bs a.t)).length∧Hid (QL W1 K l i k a wy)) (fun kv _=>(fA (bs a.t)).length - (intOf kv).toNat)
    case atStart=>exact⟨0,rfl,bJ _,HT0⟩
    case round =>
     clear HT0;obtain⟨k,rfl,hk,HT⟩:=hrel;obtain⟨ga,ca,ai,cb,r1,r2,r3,r4,r5,r6,r7⟩:=(HT.o).dr.row HA.o;rw[D_.o] at r1;by_cases hlt2:k<(fA (bs a.t)).length
     case neg =>
      obtain rfl:k=(fA (bs a.t)).length:=au
      have zO:=aA ((Vl.o) _ HT.o);generalize (fA (bs a.t)).length=n at *;clear HT Vl;go_wp2_with fail
      exact⟨⟨i+1,by go_num,au,zO⟩,by simp only[intOf];omega⟩
     have i5:decide (k<(fA (bs a.t)).length)=true:=aQ
     have i6:decide ((k:Int)<((fA (bs a.t)).length:Int))=true:=aQ
     have hk1:(0:Int)≤(k:Int):=bO _;have hk2:(k:Int)<((fA (bs a.t)).length:Int):=au
     obtain⟨it,hit⟩:∃ it,(fA (bs a.t))[k]?=some it:=⟨(fA (bs a.t))[k],aF hlt2⟩;obtain⟨ga',gi,ca',cb',d,hg,-,-,-,-,hd⟩:=(HT.o).dr.got HA.o hit;have hg1:=hg.c2;rw[D_.o,r1] at hg1;cases hg1
     have hg2:=hg.cf;rw[r3] at hg2;cases hg2
     have q0:wr.cell? (aC gi (k*11))=some (.bool d.use):=hg.ck 0 _ rfl;have q1:=hg.ck 1 _ rfl;have q2:=hg.ck 2 _ rfl;have q3:=hg.ck 3 _ rfl;have q4:=hg.ck 4 _ rfl;have q5:=hg.ck 5 _ rfl;have q6:=hg.ck 6 _ rfl;have q7:=hg.ck 7 _ rfl;have q8:=hg.ck 8 _ rfl;have q9:=hg.ck 9 _ rfl;have q10:=hg.ck 10 _ rfl;have kA:Below wr.heap.size wr (wr.alloc (.cells d.arr 57)):=(aB _ wr).alloc (ax _) _;have Ef:Hid (vO W1 K l (BK (dA l) i++jZ (dA l) i 0 ((fA (bs a.t)).take k)) wr d (wr.alloc (.cells d.arr 57))):=⟨(HT.o).dr.below kA,Dx.aN kA,aI wr _⟩;have JV:(BK (dA l) i++jZ (dA l) i 0 ((fA (bs a.t)).take k)).length+(BJ (dA l) i k it).length≤20000000:=by
      have:=CU (dA l) i (fA (bs a.t)) (k+1);rw[t_ hit,ay] at this;rw[ay];omega
     have HNk:Hid (∀ W,Dr W1 K l ((BK (dA l) i++jZ (dA l) i 0 ((fA (bs a.t)).take k))++BJ (dA l) i k it) W→QL W1 K l i (k+1) a W):=fun W h=>⟨by rw[t_ hit,← aK];exact h⟩
     have hwy:=(HT.o).dr.size;have aM3:=aA hit;generalize CV:BK (dA l) i++jZ (dA l) i 0 ((fA (bs a.t)).take k)=us at *;clear HT CV hit hg Vl;cases it with
     | use p m n gs al =>
      have YH:=hd.1;have HC:=aA (fun wz (hz:Dr W1 K l us wz)=>QG hz HA.o aM3.o au);obtain⟨d0,d1,d2,d3,d4,d5,d6,d7,d8,d9,BR,uV,d10⟩:=d;obtain rfl:d0=true:=YH;have nC:=aA ((HC.o) _ (Ef.o).dr);rw[D_.o] at nC;simp only[DI.arr] at nC Ef;clear HC hd;generalize fA (bs a.t)=its at *;go_wp2_with fail
      refine(nC.o).aX fun w3 H3=>?_;have Ei:=aA ((HNk.o) _ (H3.o).1);clear H3 nC Ef HNk;go_wp2_with fail
      exact⟨⟨k+1,by go_num,au,Ei⟩,by simp only[intOf];omega⟩
     | dfn p n ps e =>
      obtain⟨YH,-,hdn,-,-,-,hnr,qb,ib,hbody,hrd,hby,hko,hib,hzb⟩:=hd;have cL1:us.length+((jd i n 0 (gJ (fA (bs a.t)) k n.1)).length+((iL i [] (ps.getD [])).length+(exU i (fH (dA l) i) (QK ps) e).length))≤20000000:=by
       rw[Ma,jc HA.o,ay,ay] at JV;omega
      have HNd:Hid (∀ W,Dr W1 K l (((us++jd i n 0 (gJ (fA (bs a.t)) k n.1))++iL i [] (ps.getD []))++exU i (fH (dA l) i) (QK ps) e) W→QL W1 K l i (k+1) a W):=fun W h=>(HNk.o) W (by
       rw[Ma,jc HA.o,← aK,← aK];exact h)
      have YC:Hid (Sg (QK ps) (X.dd [] (ps.getD []))):=by
       cases ps with
       | none=>exact Sg.nil
       | some ns=>exact Sg.nil.aH9 ns
      have hnl:=Vq HSh.o HA.o aM3.o;generalize hsc:QK ps=sc at *;generalize hns:ps.getD []=ns at *;obtain⟨d0,d1,d2,d3,d4,d5,d6,d7,d8,d9,BR,uV,d10⟩:=d;obtain rfl:d0=false:=YH;obtain⟨pa',pc',ep,p1,p2,hrw⟩:=hnr;injection ep with U7 ep2 U8;subst U7 ep2 U8;have HNr:Hid (yO K W1.heap.size wr (.slice d9 ns.length uV) ns):=⟨d9,uV,rfl,p1,p2,hrw⟩;have UH:=aA <| hbody;have HLn:=aA <| hdn;have Xv:=aA (And.intro hrd (And.intro hby hko));have HTp:Hid (∀ wz x,Dr W1 K l us wz→x≠[]→bB 18 #[aH w.heap.size,ak i,.string (ba x)] wz (cK (ak (pU (iV (fA (bs a.t)) x))) fun w'=>Below wz.heap.size wz w')):=fun wz x hx hn=>by have:=zf hx HA.o x hn;rw[D_.o] at this;exact this
      have HAdd:Hid (∀ wz (er:Nat),Dr W1 K l us wz→us.length+1≤1073741824→bB 19 #[aH w.heap.size,.agg #[ak i,ak n.2,ak 0,ak i,ak n.2,ak er]] wz (cK (.tuple #[]) fun w'=>Hid (Dr W1 K l (us++[⟨i,n.2,0,i,n.2,er⟩]) w'∧Dx K W1.heap.size wz w'))):=fun wz er hz hl=>by have:=mD i n.2 0 (i:Int) (n.2:Int) er hz hl;rw[D_.o] at this;exact this
      have HBr:Hid (∀ vM wz,Dr W1 K l vM wz→vM.length≤20000000→yO K W1.heap.size wz (.slice d9 ns.length uV) ns→vM.length+(iL i [] ns).length≤20000000→bB 20 #[aH w.heap.size,ak i,.slice d9 ns.length uV,.agg #[.slice none 0 0,.slice none 0 0]] wz fun e w'=>∃ no' ru pV rz,e=.returned (.agg #[.slice no' (X.dd [] ns).length ru,.slice pV (X.dd [] ns).length rz])∧Hid (Dr W1 K l (vM++iL i [] ns) w'∧Dx K W1.heap.size wz w'∧oH K W1.heap.size w' no' ru pV rz (X.dd [] ns))):=fun vM wz hz hl hr hl2=>by
       have:=CG i d9 none none uV 0 0 ns [] hz hr Zb aQ au;rw[D_.o] at this;exact this
      have YJ:Hid (∀ vM wz no' ru pV rz,Dr W1 K l vM wz→lS wz K.a K.b (.pointer d10) qb ib→oH K W1.heap.size wz no' ru pV rz (X.dd [] ns)→vM.length+(exU i (fH (dA l) i) sc e).length≤20000000→bB 21 #[aH w.heap.size,ak i,.pointer d10,.agg #[.slice no' (X.dd [] ns).length ru,.slice pV (X.dd [] ns).length rz]] wz fun e' w'=>e'=.returned (.tuple #[])∧Hid (Dr W1 K l (vM++exU i (fH (dA l) i) sc e) w'∧Dx K W1.heap.size wz w')):=fun vM wz no' ru pV rz hz hn hs hl=>by
       have hdl:=zN [] ns;have:=Gc (jh qb) vM wz i a qb ib (.pointer d10) no' pV ru rz (X.dd [] ns) sc _ hz HA.o hn (.inl ⟨e,(Xv.o).1,rfl⟩) (Xv.o).2.1 (Xv.o).2.2 (ax _) hs YC.o au au;rw[D_.o] at this;exact this
      have hst:=aA <| (Ef.o).dr.st.nodes;simp only[DI.arr] at Ef;clear hbody hdn hrd hby hko hrw HNk;generalize fA (bs a.t)=its at *
      go_upto_if 121 with fail
      generalize hWd:wr.alloc (.cells #[.bool false,.bool d1,.pointer d2,.pointer d3,.pointer d4,.pointer d5,.bool d6,.pointer d7,.bool d8,.slice d9 ns.length uV,.pointer d10] 57)=Wd at *;clear hWd
      go_cut [13,14] (fun s13 s14 wz=>Hid (vO W1 K l (us++jd i n 0 (gJ its k n.1)) wr ⟨false,d1,d2,d3,d4,d5,d6,d7,d8,d9,ns.length,uV,d10⟩ wz))
      case first =>
       rcases(((HLn.o).keep (Ef.o).dx (hst.o _)).two) with ⟨hn0,hd3⟩|⟨hn0,N,hd3,hNa,hNb,rC,x2,x6⟩
       ·subst hd3
        have eU:us++jd i n 0 (gJ its k n.1)=us:=by unfold jd X.f_;rw[aU hn0,aL]
        go_wp2_with fail
        go_meet
        case rel=>rw[eU];exact Ef
       ·subst hd3
        have x3:Wd.cell? (aC wr.heap.size 3)=some (aH N):=aj Wd _ 3 _ _ _ (Ef.o).blk;have HC:=aA ((HTp.o) Wd n.1 (Ef.o).dr hn0);go_wp2_with fail
        refine(HC.o).aX fun w2 k2=>?_;have HI2:=aA ((Ef.o).below k2);have y3:w2.cell? (aC wr.heap.size 3)=some (aH N):=aj w2 _ 3 _ _ _ (HI2.o).blk;have y6:=iY k2 rC x6;have aM4:Below w2.heap.size w2 w2.drew:=(aB _ w2).drew;have F9:Hid (¬ K.Sx W1.heap.size w2.drew N):=(hst.o) _ N hNa hNb;have HSb:Hid (¬ K.Sx W1.heap.size w2.drew wr.heap.size):=mV (w:=w2.drew) (HI2.o).blk (by have:=D_.o;omega) aS;clear k2 x2 x3 x6 HC;by_cases ht:iV its n.1=some k
        ·have HT:Hid (gJ its k n.1=0):=by show _=_;unfold gJ;rw[aU (.inr ht)]
         rw[ht,pU];have j1:((k:Int) !=(k:Int))=false:=aT
         have nC:=aA ((HAdd.o) w2.drew 0 ((HI2.o).dr.below aM4) au);clear ht;go_wp2_with fail
         refine wp_region_noPanic ?_;refine dB (S:=fun w'=>w'.cell? (aC wr.heap.size 3)=some (aH N)∧w'.cell? (aC N 6)=some (ak n.2)) (z:=16) bC ?_;have hS:w2.drew.cell? (aC wr.heap.size 3)=some (aH N)∧w2.drew.cell? (aC N 6)=some (ak n.2):=⟨y3,y6⟩;iterate 15(refine oQ hS ?_;simp only[Act.put,aD,aO,aP])
         refine dY (i:=15) bC rfl (fun KK hK=>?_);go_simp;refine(nC.o).aX fun w4 H4=>?_;have Qr:=Kp.dD (H4.o).2 hS.1 HSb.o;have pq6:=Kp.dD (H4.o).2 hS.2 F9.o;go_simp;refine hK.o _ _ (fun _=>⟨Qr,pq6⟩) (fun _=>iF ?_);clear hK KK hS;refine NoPanic.normal ?_;have tZ:=(Dx.aN ((aB _ w2).drew)).trans (H4.o).2;have HI4:Hid (vO W1 K l (us++jd i n 0 (gJ its k n.1)) wr ⟨false,d1,d2,some ⟨N,0,none⟩,d4,d5,d6,d7,d8,d9,ns.length,uV,d10⟩ w4):=(HI2.o).keep (by have:=D_.o;omega) (by rw[HT.o];unfold jd X.f_;rw[aM hn0];exact(H4.o).1) tZ;clear H4 nC tZ;go_wp2_with fail
         go_meet
         case rel=>exact HI4
        ·have HT:Hid (gJ its k n.1=5):=by show _=_;unfold gJ;rw[aM (fun e=>e.elim hn0 ht)]
         have j1:(pU (iV its n.1) !=(k:Int))=true:=by
          cases h:iV its n.1 with
          | none=>simp[pU]
          | some k' =>
           have:k'≠k:=fun e=>ht (by rw[h,e])
           simp[pU];omega
         generalize pU (iV its n.1)=tz at *;have nC:=aA ((HAdd.o) w2.drew 5 ((HI2.o).dr.below aM4) au);clear ht;go_wp2_with fail
         refine wp_region_noPanic ?_;refine dB (S:=fun w'=>w'.cell? (aC wr.heap.size 3)=some (aH N)∧w'.cell? (aC N 6)=some (ak n.2)) (z:=16) bC ?_;have hS:w2.drew.cell? (aC wr.heap.size 3)=some (aH N)∧w2.drew.cell? (aC N 6)=some (ak n.2):=⟨y3,y6⟩;iterate 15(refine oQ hS ?_;simp only[Act.put,aD,aO,aP])
         refine dY (i:=15) bC rfl (fun KK hK=>?_);go_simp;refine(nC.o).aX fun w4 H4=>?_;have Qr:=Kp.dD (H4.o).2 hS.1 HSb.o;have pq6:=Kp.dD (H4.o).2 hS.2 F9.o;go_simp;refine hK.o _ _ (fun _=>⟨Qr,pq6⟩) (fun _=>iF ?_);clear hK KK hS;refine NoPanic.normal ?_;have tZ:=(Dx.aN ((aB _ w2).drew)).trans (H4.o).2;have HI4:Hid (vO W1 K l (us++jd i n 0 (gJ its k n.1)) wr ⟨false,d1,d2,some ⟨N,0,none⟩,d4,d5,d6,d7,d8,d9,ns.length,uV,d10⟩ w4):=(HI2.o).keep (by have:=D_.o;omega) (by rw[HT.o];unfold jd X.f_;rw[aM hn0];exact(H4.o).1) tZ;clear H4 nC tZ;go_wp2_with fail
         go_meet
         case rel=>exact HI4
      case rest =>
       have sQ:=hcut;clear hcut Ef HTp HAdd HLn;obtain⟨wd,hwd⟩:∃ wd,wd=wc:=⟨_,rfl⟩;subst hwd;have c9:wd.cell? (aC wr.heap.size 9)=some (.slice d9 ns.length uV):=aj wd _ 9 _ _ _ (sQ.o).blk;have hl5:(us++jd i n 0 (gJ its k n.1)).length+(iL i [] ns).length+(exU i (fH (dA l) i) sc e).length≤20000000:=by rw[ay];omega
       have FW:=aA ((HBr.o) _ wd (sQ.o).dr au ((HNr.o).keep (sQ.o).dx (hst.o _)) au);generalize PV:us++jd i n 0 (gJ its k n.1)=us5 at *;clear PV;go_wp2_with fail
       refine(FW.o).mono ?_;rintro e' w6 ⟨no',ru,pV,rz,rfl,H6⟩;have Gb:=aA ((sQ.o).keep (by have:=D_.o;omega) (H6.o).1 (H6.o).2.1);have c10:w6.cell? (aC wr.heap.size 10)=some (.pointer d10):=aj w6 _ 10 _ _ _ (Gb.o).blk;have cL4:=bN (Gb.o).blk;have cL5:¬ wr.heap.size=w6.heap.size:=au
       have kA6:Below w6.heap.size w6 (w6.alloc (.cells #[.slice no' (X.dd [] ns).length ru,.slice pV (X.dd [] ns).length rz] 67)):=(aB _ w6).alloc (ax _) _;have Gl:=aA ((YJ.o) _ (w6.alloc (.cells #[.slice no' (X.dd [] ns).length ru,.slice pV (X.dd [] ns).length rz] 67)) no' ru pV rz ((Gb.o).dr.below kA6) (((UH.o).keep (Gb.o).dx (hst.o _)).below kA6) ((H6.o).2.2.keep (Dx.aN kA6)) (by rw[ay];omega));have cL6:=aA <| (Gb.o).dx.trans (Dx.aN kA6);clear H6 FW c9 kA6;generalize X.dd [] ns=ddn at *;go_wp2_with fail
       refine(Gl.o).aX fun w8 H8=>?_;have HN8:=aA ((HNd.o) _ (H8.o).1);clear H8 Gl c10;go_wp2_with fail
       exact⟨⟨k+1,by go_num,au,HN8⟩,by simp only[intOf];omega⟩
  have i1:decide (i<l.length)=true:=aQ
  have i2:decide ((i:Int)<(l.length:Int))=true:=aQ
  have hi1:(0:Int)≤(i:Int):=bO _;have hi2:(i:Int)<(l.length:Int):=au
  obtain⟨a,ha⟩:∃ a,l[i]?=some a:=⟨l[i],aF hlt⟩;obtain⟨g,rfl,g1,g2,g3⟩:=(lT.o) i a ha;have s3:=iY (HI.o).bl g1 g3;have hsa:=(HSh.o) a (dF ha);obtain⟨rts,yw,rl,hb1,ho1,HRt⟩:=(HI.o).root;have aM6:=aA HRt;have Zc:=aA ho1;have HB1:=aA hb1;have HA:=aA ha;have hws:=bN hb1;have HBl:=aA (HI.o).bl;clear HRt ho1 hb1 ha g2 g3 HI;go_wp2_with fail
  refine(NP a.t wr au).mono ?_;rintro e w1 ⟨N,lo,hi',rfl,H1⟩;obtain⟨h1a,h1b,h1c⟩:=H1.o;have Zd:lS w1 lo (min hi' w1.heap.size) (aH N) (X.file (xt (bs a.t))) 0:=h1a.shrink;have hmi:min hi' w1.heap.size≤w1.heap.size:=Nat.min_le_right _ _;generalize min hi' w1.heap.size=mi at Zd hmi;have hb1:=(Kp.aN h1c (fun _=>False)).heap HB1.o id;have c1:w1.cell? (aC w.heap.size 1)=some rts:=aj w1 _ 1 _ _ _ hb1;have HO:=aA ((Kp.aN h1c (fun _=>False)).owns Zc.o (fun _ _=>id));have hge:=dG Zc.o;have HGe:=aA hge;have cL8:=h1c.size;have hwne:rts.ownBlock≠some w.heap.size:=fun e=>by
   obtain⟨_,_,hh⟩:=eH Zc.o e;exact fO hh HB1.o aS
  have aM7:=aA hwne;have aM8:=aA h1c;have aM9:=aA Zd;have aN0:=aA hb1;have cL9:i≤16:=au
  have hwb:=(HBl.o).size;clear H1 h1a Zd hge hwne h1c hb1 s3;go_wp2_with (at_builtin;refine wpList_append_lies _ rfl _ _ 35 rfl w.heap.size 51 i0 _ 1 8 underlying35 hi0 hz0 hz1 hz2 rfl aS rts i rl rfl ((HO.o).alloc _) ⟨w1.heap.size,0,none⟩ 1 1 [aH N] rfl rfl (World.news_of_block (cs:=#[aH N]) (aI w1 _)) (by simp[Value.oneCell']) au (by unfold maxLen;omega) au aQ (w1.heap.size+1) aT ?_;intro g5 cap5 w5 hown5 aV gI jm;have hb5:=((Kp.refl (fun q=>rts.ownBlock=some q) _).grown aV (fun q e _=>e)).heap ((Kp.aN ((aB _ w1).alloc (ax _) _) (fun _=>False)).heap aN0.o id) aM7.o;have y1:w5.cell? (aC w.heap.size 1)=some rts:=aj w5 _ 1 _ _ _ hb5;have yf:=CR hb5 1)
  obtain⟨hR2,hK2,hS2⟩:=(aM6.o) w1 (w1.alloc (.cells #[aH N] 51)) w5 lo mi (aH N) g5 cap5 aM8.o h1b hmi ((aB _ w1).alloc (ax _) _) aT hown5 aV (by simpa using gI);have aN1:=(aM9.o).keep hK2 (fun q h1 h2 h3=>by have:=hS2 q h3;omega);have HR2:=aA hR2;clear hown5 aV gI jm hb5 y1 yf hR2 hK2 hS2 c1 HO aM9 aM6;generalize w5.setCell (aC w.heap.size 1) (.slice (b_ g5) (i+1) cap5)=W2 at *;obtain⟨N',ao,cap,kM,en,fr,tt,la,vs,hv,hN1,tX,hnd,hcp,hcm,hrow,uD⟩:=aN1.any;cases hv
  have hkd:X.pq (X.file (xt (bs a.t)))=iy (xt (bs a.t)):=rfl;rw[hkd] at hnd hcp hrow uD;obtain⟨⟨-,-,-,n3,-⟩,-⟩:=hnd.facts;have Ze:=Ae (x:=bs a.t) (by rw[eY];exact hsa);have HPz:=aA Ze;have hpl:=dI (zk _) Ze.2;have HKo:Hid (ja (iy (xt (bs a.t)))):=(Ah (xt (bs a.t))).2;have Xv:=aA (CW (bs a.t));have HI0:Hid (Gj W2 lo mi (iy (xt (bs a.t))) (fA (bs a.t)) 0 (.slice none 0 0) W2):=Gj.start (vP (bs a.t));have Mc:=aA hrow;have D6:=aA uD;have rC:=bN hnd;have bH5:=(HR2.o).Vo.2;clear aN1 hnd hrow uD hkd Ze HB1 Zc HGe aM7 aM8 aN0;generalize iy (xt (bs a.t))=ps at *;go_wp2_with fail
  go_loopw [6,7] (fun lv kv wx=>∃ k:Nat,kv=ak k∧k≤ps.length∧Hid (Gj W2 lo mi ps (fA (bs a.t)) k lv wx)) (fun _ kv _=>ps.length - (intOf kv).toNat)
  case atStart=>exact⟨0,rfl,bJ _,HI0⟩
  case round =>
   clear HI0;obtain⟨k,rfl,hk,HI⟩:=hrel;have d3:=iY (HI.o).bl rC n3;by_cases hlt2:k<ps.length
   case neg =>
    obtain rfl:k=ps.length:=au
    have i3:decide (ps.length<ps.length)=false:=aT
    have i4:decide ((ps.length:Int)<(ps.length:Int))=false:=aT
    obtain⟨lo6,ln6,lc6,rfl⟩:=(HI.o).form;obtain⟨cM0,QN,sl2,hb2,ho2,hfun⟩:=(HR2.o).next HA.o HI.o;have c2:wr.cell? (aC w.heap.size 2)=some QN:=aj wr _ 2 _ _ _ hb2;have Md:=aA ho2;have HB2:=aA hb2;have bH6:=aA hfun;have bH7:Hid (QN.ownBlock≠some w.heap.size):=fun e=>by
     obtain⟨_,_,hh⟩:=eH ho2 e;exact fO hh hb2 aS
    have cM1:=bN hb2;clear hb2 ho2 hfun HI HR2;go_wp2_with (at_builtin;refine wpList_append_lies _ rfl _ _ 36 rfl w.heap.size 53 k0 _ 1 24 underlying36 hk0 hx0 hx1 hx2 rfl aS QN i sl2 rfl ((Md.o).alloc _) ⟨wr.heap.size,0,none⟩ 1 1 [.slice lo6 ln6 lc6] rfl rfl (World.news_of_block (cs:=#[.slice lo6 ln6 lc6]) (aI wr _)) (by simp[Value.oneCell']) au (by unfold maxLen;omega) au aQ (wr.heap.size+1) aT ?_;intro g5 cap5 w5 hown5 aV gI jm;have hb4:=(Kp.aN ((aB _ wr).alloc (ax _) (.cells #[.slice lo6 ln6 lc6] 53)) (fun _=>False)).heap HB2.o id;have kk:=((Kp.refl (fun q=>QN.ownBlock=some q) _).grown aV (fun q e _=>e));have hb5:=kk.heap hb4 bH7.o;have y1:w5.cell? (aC w.heap.size 2)=some QN:=aj w5 _ 2 _ _ _ hb5;have yf:=CR hb5 2;have HN5:=aA <| (bH6.o) (wr.alloc (.cells #[.slice lo6 ln6 lc6] 53)) w5 g5 cap5 ((aB _ wr).alloc (ax _) _) aT hown5 aV (by simpa using gI))
    exact⟨⟨i+1,by go_num,au,HN5⟩,by simp only[intOf];omega⟩
   have i3:decide (k<ps.length)=true:=aQ
   have i4:decide ((k:Int)<(ps.length:Int))=true:=aQ
   have hk1:(0:Int)≤(k:Int):=bO _;have hk2:(k:Int)<(ps.length:Int):=au
   obtain⟨p,hp⟩:∃ p,ps[k]?=some p:=⟨ps[k],aF hlt2⟩;obtain⟨gk,rfl,hg1,hg2,hcell⟩:=(Mc.o) k hlt2;have s1:=iY (HI.o).bl au hcell;have Gm:=(D6.o) k p hp;obtain⟨Nj,aoj,Yw,a1,a2,a3,a4,a5,vF,Jq,hj1,hj2,vI,-⟩:=Gm.any;rw[Jq] at s1 Gm;obtain⟨⟨e0,-⟩,-⟩:=vI.facts;have s0:=iY (HI.o).bl au e0;by_cases hpk:pk p=3∨pk p=4
   ·obtain⟨it,n,dl,aN3,hnk,hown,hnext⟩:=(HI.o).next hp hpk
    have vJ:=(HI.o).bl.size;have cM2:=Ej (dF hp);have aN4:=vK ps k p HKo.o hp;have aN5:Cx p:=by
     have hb':oG (ps.drop k):=by
      have:=Xv.o;rw[← fD k ps] at this;exact this.app.2
     rw[drop_cons hp] at hb';exact hb'.head.1
    have hpos:pz (ps.take k)+pz [p]≤1000000:=by
     have e7:=zb hp 0;rw[bS,bS] at e7;have e8:pz ps=pz (ps.take (k+1))+pz (ps.drop (k+1)):=by rw[← bZ,fD]
     have:=(HPz.o).1;omega
    have hkw:=Gm.below (HI.o).bl;rw[bS] at hkw;have HC:=aA (QF hkw au aN3 aN5 aN4 (by have:=(HPz.o).2;omega) hpos);have Vl:=aA hnext;have HOw:=aA hown;have HGe:=aA (dG hown);have PW:(((pk p:Nat):Int)==3)=true∨((((pk p:Nat):Int)==3)=false∧(((pk p:Nat):Int)==4)=true):=by
     rcases hpk with h|h
     ·exact .inl (by rw[h];rfl)
     ·exact .inr ⟨by rw[h];rfl,by rw[h];rfl⟩
    clear hp hcell Gm vI e0 aN3 hown hnext aN4 aN5 hkw hpk;generalize pk p=kq at *;have HGo:Hid (∀(w4:aG) (d:DI) (w5:aG) (g5 cap5:Nat),Below wr.heap.size wr w4→Jy wr.heap.size w4 lo mi d it→w5.ownsRow W2.heap.size 57 11 (.slice (b_ g5) (n+1) cap5) (n+1) (JA dl++d.vals)→((w4.alloc (.cells d.arr 57)).alloc (.cells d.arr 57)).grownBy w5 u6.ownBlock→Gj W2 lo mi ps (fA (bs a.t)) (k+1) (.slice (b_ g5) (n+1) cap5) w5):=fun w4 d w5 g5 cap5 h1 h2 h3 h4=>by
     have kA:Below w4.heap.size w4 ((w4.alloc (.cells d.arr 57)).alloc (.cells d.arr 57)):=((aB _ w4).alloc (ax _) _).alloc aT _;exact(Vl.o) _ w5 d g5 cap5 (h1.trans (kA.mono h1.size)) ((h2.base vJ).keep (Kp.aN kA (fun _=>False)) (fun _ _ _=>id) (fun _ _ _ _ _=>id)) h3 h4 bH5
    rcases PW with k3|⟨k3,k4⟩
    ·go_wp2_with fail
     refine(HC.o).mono ?_;rintro e w4 ⟨d,rfl,H4⟩;have h4d:=(H4.o).1;have QJ:=(H4.o).2;have Zf:=aA ((Kp.aN QJ (fun _=>False)).owns HOw.o (fun _ _=>id));have H4d:=aA h4d;have H4b:=aA QJ;have hw4:=QJ.size;clear h4d QJ H4 HC;obtain⟨d0,d1,d2,QO,d4,d5,d6,d7,d8,d9,BR,uV,d10⟩:=d;simp only[DI.arr] at *;have hnb:n≤268435456:=au
     go_wp2_with (at_builtin;refine wpList_append_lies _ rfl _ _ 53 rfl W2.heap.size 57 j0 _ 11 96 underlying53 hj0 hy0 hy1 hy2 rfl aS u6 n (JA dl) rfl (((Zf.o).alloc _).alloc _) ⟨w4.heap.size+1,0,none⟩ 1 1 [.bool d0,.bool d1,.pointer d2,.pointer QO,.pointer d4,.pointer d5,.bool d6,.pointer d7,.bool d8,.slice d9 BR uV,.pointer d10] rfl rfl (World.news_of_block (cs:=#[.bool d0,.bool d1,.pointer d2,.pointer QO,.pointer d4,.pointer d5,.bool d6,.pointer d7,.bool d8,.slice d9 BR uV,.pointer d10]) (by have:=aI (w4.alloc (.cells #[.bool d0,.bool d1,.pointer d2,.pointer QO,.pointer d4,.pointer d5,.bool d6,.pointer d7,.bool d8,.slice d9 BR uV,.pointer d10] 57)) (.cells #[.bool d0,.bool d1,.pointer d2,.pointer QO,.pointer d4,.pointer d5,.bool d6,.pointer d7,.bool d8,.slice d9 BR uV,.pointer d10] 57);simpa using this)) (by simp[Value.oneCell']) au (by unfold maxLen;omega) au aQ (w4.heap.size+2) aT ?_;intro g5 cap5 w5 hown5 aV gI jm;have HN5:=aA <| (HGo.o) w4 ⟨d0,d1,d2,QO,d4,d5,d6,d7,d8,d9,BR,uV,d10⟩ w5 g5 cap5 H4b.o H4d.o hown5 aV)
     exact⟨⟨k+1,by go_num,au,HN5⟩,by simp only[intOf];omega⟩
    ·go_wp2_with fail
     refine(HC.o).mono ?_;rintro e w4 ⟨d,rfl,H4⟩;have h4d:=(H4.o).1;have QJ:=(H4.o).2;have Zf:=aA ((Kp.aN QJ (fun _=>False)).owns HOw.o (fun _ _=>id));have H4d:=aA h4d;have H4b:=aA QJ;have hw4:=QJ.size;clear h4d QJ H4 HC;obtain⟨d0,d1,d2,QO,d4,d5,d6,d7,d8,d9,BR,uV,d10⟩:=d;simp only[DI.arr] at *;have hnb:n≤268435456:=au
     go_wp2_with (at_builtin;refine wpList_append_lies _ rfl _ _ 53 rfl W2.heap.size 57 j0 _ 11 96 underlying53 hj0 hy0 hy1 hy2 rfl aS u6 n (JA dl) rfl (((Zf.o).alloc _).alloc _) ⟨w4.heap.size+1,0,none⟩ 1 1 [.bool d0,.bool d1,.pointer d2,.pointer QO,.pointer d4,.pointer d5,.bool d6,.pointer d7,.bool d8,.slice d9 BR uV,.pointer d10] rfl rfl (World.news_of_block (cs:=#[.bool d0,.bool d1,.pointer d2,.pointer QO,.pointer d4,.pointer d5,.bool d6,.pointer d7,.bool d8,.slice d9 BR uV,.pointer d10]) (by have:=aI (w4.alloc (.cells #[.bool d0,.bool d1,.pointer d2,.pointer QO,.pointer d4,.pointer d5,.bool d6,.pointer d7,.bool d8,.slice d9 BR uV,.pointer d10] 57)) (.cells #[.bool d0,.bool d1,.pointer d2,.pointer QO,.pointer d4,.pointer d5,.bool d6,.pointer d7,.bool d8,.slice d9 BR uV,.pointer d10] 57);simpa using this)) (by simp[Value.oneCell']) au (by unfold maxLen;omega) au aQ (w4.heap.size+2) aT ?_;intro g5 cap5 w5 hown5 aV gI jm;have HN5:=aA <| (HGo.o) w4 ⟨d0,d1,d2,QO,d4,d5,d6,d7,d8,d9,BR,uV,d10⟩ w5 g5 cap5 H4b.o H4d.o hown5 aV)
     exact⟨⟨k+1,by go_num,au,HN5⟩,by simp only[intOf];omega⟩
   ·have k3:(((pk p:Nat):Int)==3)=false:=by simp;omega
    have k4:(((pk p:Nat):Int)==4)=false:=aQ
    have zO:=aA <| (HI.o).skip hp (fun e=>hpk (.inl e)) (fun e=>hpk (.inr e));clear HI hp Gm hcell vI e0 hpk;generalize pk p=kq at *;go_wp2_with fail
    exact⟨⟨k+1,by go_num,au,zO⟩,by simp only[intOf];omega⟩
end Go.Proofs.YtoohcklcppnafaaGreatDoor
