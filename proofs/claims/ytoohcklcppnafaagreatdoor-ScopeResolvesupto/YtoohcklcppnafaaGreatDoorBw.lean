import Derived.Test.YtoohcklcppnafaaGreatDoorFh
import Derived.Test.YtoohcklcppnafaaGreatDoorBc
namespace Go.Proofs.YtoohcklcppnafaaGreatDoor
set_option maxRecDepth 100000
set_option maxHeartbeats 8000000
open Tryz
open Go.RowKit
open M
theorem Y3:(prog.info? 47).map (fun i=>(i.zero,i.size,i.bytes))=some (some (.agg #[.string ⟨#[]⟩,.string ⟨#[]⟩]),2,32):=bC
def fvs:List AF→List Value
 | []=>[]
 | a::l=>.string a.n::.string a.t::fvs l
theorem LZ:∀(a b:List AF),fvs (a++b)=fvs a++fvs b
 | [],b=>rfl
 | x::a,b=>by rw[fM,fvs,fvs,LZ a b];rfl
theorem Eg:∀(l:List AF) (i:Nat) (a:AF),l[i]?=some a→(fvs l)[i*2]?=some (.string a.n)∧(fvs l)[i*2+1]?=some (.string a.t)
 | [],i,a,h=>by simp at h
 | x::l,0,a,h=>by
  obtain rfl:x=a:=by simpa using h
  exact⟨rfl,rfl⟩
 | x::l,i+1,a,h=>by
  have:=Eg l i a (by simpa using h);have e1:(i+1)*2=i*2+1+1:=au
  have e2:(i+1)*2+1=(i*2+1)+1+1:=au
  rw[fvs,e2,e1];exact⟨this.1,this.2⟩
def Eh(w:aG)(B:Nat)(rv:Value)(l:List AF):Prop:=w.ownsRow B 47 2 rv l.length (fvs l)
theorem Eh.form{w:aG}{B:Nat}{rv:Value}{l:List AF}(h:Eh w B rv l):∃ ao cap,rv=.slice ao l.length cap∧l.length≤cap∧cap≤maxLen∧∀ i a,l[i]?=some a→∃ g cs d,ao=some ⟨g,0,none⟩∧B≤g∧w.heap[g]?=some (.cells cs 47 d)∧w.cell? (aC g (i*2))=some (.string a.n)∧w.cell? (aC g (i*2+1))=some (.string a.t):=by
 have h':w.ownsRow B 47 2 rv l.length (fvs l):=h;have h1:=h'.1;rcases h'.2 with ⟨e,h0⟩|⟨g,cap,cur,e,hge,hg,hn,hmx,hsz,htk⟩
 ·refine⟨none,0,by rw[h0];exact e,au,by unfold maxLen;omega,fun i a hi=>by have:=lt_of_some hi;omega⟩
 ·refine⟨_,cap,e,hn,hmx,fun i a hi=>⟨g,_,_,rfl,hge,hg,?_,?_⟩⟩
  ·have:=h'.cells (g:=g) (by rw[e];rfl) (i*2) _ (Eg l i a hi).1
   rwa[dQ,bS] at this
  ·have:=h'.cells (g:=g) (by rw[e];rfl) (i*2+1) _ (Eg l i a hi).2
   rwa[dQ,bS] at this
theorem L6{l:List AF}{i:Nat}{n:AF}(h:l[i]?=some n):l.take (i+1)=l.take i++[n]:=by rw[List.take_add_one,h];rfl
theorem Aa(ao:Option Addr)(cap:Nat)(l:List AF)(w:aG)(h:sw w w.heap.size ao l)(hb:l.length≤1073741823) :
  bB 5 #[.slice ao l.length cap] w fun e w'=>∃ rv,e=.returned rv∧Hid (Eh w' w.heap.size rv l∧Below w.heap.size w w'):=by
 obtain⟨i0,hi0,hz0,hz1,hz2⟩:=dM Y3;have HL:=aA h;have HI0:Hid (w.ownsRow w.heap.size 47 2 (.slice none 0 0) 0 (fvs (l.take 0))∧Below w.heap.size w w):=⟨dK _ _ _ _,aB _ _⟩;clear h;go_enter func5,ntmps5;go_wp2_with fail
 go_loopw [3,4] (fun rv jv wr=>∃(j:Nat),jv=ak j∧j≤l.length∧Hid (wr.ownsRow w.heap.size 47 2 rv j (fvs (l.take j))∧Below w.heap.size w wr)) (fun _ v _=>l.length - (intOf v).toNat)
 case atStart=>exact⟨0,rfl,bJ _,HI0⟩
 case round =>
  clear HI0;obtain⟨j,rfl,hj,HI⟩:=hrel;by_cases hlt:j<l.length
  case neg =>
   obtain rfl:j=l.length:=au
   have i1:decide (l.length<l.length)=false:=aT
   have i2:decide ((l.length:Int)<(l.length:Int))=false:=aT
   have HF:Hid (Eh wr w.heap.size u3 l∧Below w.heap.size w wr):=by
    have:=HI.o;rw[fC] at this;exact this
   go_wp2_with fail
   go_ret;exact⟨_,rfl,HF⟩
  have i1:decide (j<l.length)=true:=aQ
  have i2:decide ((j:Int)<(l.length:Int))=true:=aQ
  have hi1:(0:Int)≤(j:Int):=bO _;have hi2:(j:Int)<(l.length:Int):=au
  obtain⟨a,ha⟩:∃ a,l[j]?=some a:=⟨l[j],aF hlt⟩;obtain⟨b,o,rfl,e2,e3,e4⟩:=(HL.o).below (HI.o).2 j a ha;have vJ:=(HI.o).2.size;have hbl:b<wr.heap.size:=au
  have hge:=dG (HI.o).1;have HGe:=aA hge;have HA:=aA ha;have JV:(j+1)*32≤140737488355328:=au
  have HZ:=aA vJ;have HE2:=aA e2;clear hge ha vJ;go_wp2_with fail
  refine wp_region_noPanic ?_;refine dB (S:=fun w'=>w'.cell? (aC b (o+j*2))=some (.string a.n)∧w'.cell? (aC b (o+j*2+1))=some (.string a.t)) (z:=15) bC ?_;have hS:wr.drew.cell? (aC b (o+j*2))=some (.string a.n)∧wr.drew.cell? (aC b (o+j*2+1))=some (.string a.t):=⟨e3,e4⟩;iterate 12(refine oQ hS ?_;simp only[Act.put,aD,aO,aP])
  refine dY (i:=12) bC rfl (fun KK hK=>?_);go_simp;refine hK.o _ _ (fun _=>by first|go_keep|(dsimp only;go_keep)) (fun hS2=>?_);clear hS hK KK;have hS:=hS2 aS;clear hS2;refine dY (i:=13) bC rfl (fun KK hK=>?_);refine step_append_lies _ (by rfl) _ _ _ (by rfl) w.heap.size 47 i0 _ 2 32 underlying28 hi0 hz0 hz1 hz2 rfl au u3 j _ (by rfl) (((HI.o).1.alloc _).drew) ⟨wr.heap.size,0,none⟩ 1 1 [.string a.n,.string a.t] (by rfl) (by rfl) (World.news_of_block (cs:=#[.string a.n,.string a.t]) (t:=47) (fr:=(0,0)) (heap_alloc_new wr _)) (by simp[Value.oneCell']) au (by unfold maxLen;omega) JV (by have:=HZ.o;simp;omega) (wr.heap.size+1) aT ?_;intro g cap5 w5 hown5 aV gI jm;have y0:=(aV.cell_far ⟨b,o+j*2,none⟩ aQ (fun e=>by have h1:w.heap.size≤b:=((HGe.o) _ e.symm).1;have:=HE2.o;omega)).trans hS.1;have y1:=(aV.cell_far ⟨b,o+j*2+1,none⟩ aQ (fun e=>by have h1:w.heap.size≤b:=((HGe.o) _ e.symm).1;have:=HE2.o;omega)).trans hS.2;show KK (Act.put _ (some 24) _) w5;refine hK.o _ _ (fun _=>⟨y0,y1⟩) (fun hS2=>?_);clear hS hK KK;have hS:=hS2 aS;clear hS2;simp only[Act.put,List.setIfInBounds_toArray,List.set_cons_zero,List.set_cons_succ];refine dY (i:=14) bC rfl (fun KK hK=>?_);go_simp;refine hK.o _ _ (fun _=>hS) (fun _=>iF ?_);clear hK KK;refine NoPanic.normal ?_;have HN:Hid (w5.ownsRow w.heap.size 47 2 (.slice (b_ g) (j+1) cap5) (j+1) (fvs (l.take (j+1)))∧Below w.heap.size w w5):=by
   refine⟨?_,?_⟩
   ·rw[L6 HA.o,LZ];exact hown5
   ·have kA:Below w.heap.size w (wr.alloc (.cells #[.string a.n,.string a.t] 47)).drew:=((HI.o).2.alloc HZ.o _).drew
    exact kA.grown aV (by have:=HZ.o;simp;omega) (fun q hq=>((HGe.o) q hq).1)
  clear hown5 aV gI hS HI;go_wp2_with fail
  exact⟨⟨j+1,by go_num,au,HN⟩,by simp only[intOf];omega⟩
theorem Ab(rv:Value)(l:List AF)(w:aG)(B:Nat)(h:Eh w B rv l)(hs:∀ a∈l,a.n.size≤1073741824)(hb:l.length≤1073741823) :
  bB 6 #[rv] w (cK (ak (pW l)) fun w'=>Below w.heap.size w w'):=by
 obtain⟨ao,cap,rfl,hl,hc,hrow⟩:=h.form;have lT:Hid (∀ i a,l[i]?=some a→∃ g,ao=some ⟨g,0,none⟩∧g<w.heap.size∧w.cell? (aC g (i*2))=some (.string a.n)∧w.cell? (aC g (i*2+1))=some (.string a.t)):=fun i a hi=>by
  obtain⟨g,cs,d,e1,-,e3,e4,e5⟩:=hrow i a hi;exact⟨g,e1,bN e3,e4,e5⟩
 have HSz:=aA hs;clear h hrow hs;by_cases h16:16<l.length
 ·have e1:pW l=12:=aU h16
  rw[e1];have d1:((l.length:Int)>16):=au
  have d2:(16:Int)<(l.length:Int):=au
  go_enter func6,ntmps6;go_wp2_with fail
  go_ret;exact⟨rfl,aB _ w⟩
 ·have d1:¬(16:Int)<(l.length:Int):=by omega
  generalize hR:pW l=r;have HR:Hid ((if l.any (fun a=>decide (20000<a.t.size)) then 12 else Ac l [])=r):=by
   rw[← hR];exact(aM h16).symm
  clear hR;go_enter func6,ntmps6;go_wp2_with fail
  go_loopw [3] (fun v wr=>∃ j:Nat,v=ak j∧j≤l.length∧Hid ((l.take j).any (fun a=>decide (20000<a.t.size))=false)∧wr=w) (fun v _=>l.length - (intOf v).toNat)
  case atStart=>exact⟨0,rfl,bJ _,aA rfl,rfl⟩
  case round =>
   obtain⟨j,rfl,hj,HA,rfl⟩:=hrel;by_cases hjl:j<l.length
   case neg =>
    obtain rfl:j=l.length:=au
    have i1:decide (l.length<l.length)=false:=aT
    have i2:decide ((l.length:Int)<(l.length:Int))=false:=aT
    have JU:Hid (sU l 0 r):=by
     show Ac (l.drop 0) ((l.take 0).map (fun a=>bs a.n))=r;have h1:=HR.o;have h2:=HA.o;rw[fC] at h2;rw[h2] at h1
     simpa using h1
    clear HR HA;obtain⟨W1,hW1⟩:∃ W1,W1=wr:=⟨_,rfl⟩;subst hW1;go_wp2_with fail
    go_loopw [4] (fun v wx=>∃ j:Nat,v=ak j∧j≤l.length∧Hid (sU l j r)∧Hid (Below W1.heap.size W1 wx)) (fun v _=>l.length - (intOf v).toNat)
    case atStart=>exact⟨0,rfl,bJ _,JU,aB _ _⟩
    case round =>
     clear JU;obtain⟨j,rfl,hj,XD,HB⟩:=hrel;by_cases bH1:j<l.length
     case neg =>
      obtain rfl:j=l.length:=au
      have HF:Hid (r=0):=by
       have h1:=XD.o;unfold sU at h1;rw[List.drop_length,Ac] at h1;exact h1.symm
      go_wp2_with fail
      go_ret;exact⟨by rw[HF.o];rfl,HB.o⟩
     have i3:decide (j<l.length)=true:=aQ
     have i4:decide ((j:Int)<(l.length:Int))=true:=aQ
     have hi1:(0:Int)≤(j:Int):=bO _;have hi2:(j:Int)<(l.length:Int):=au
     obtain⟨a,ha⟩:∃ a,l[j]?=some a:=⟨l[j],aF bH1⟩;obtain⟨g,e1,e2,e3,e4⟩:=(lT.o) j a ha;subst e1;have s3:=iY HB.o e2 e3;have Vl:=aA ((XD.o).next ha);have Jv:=aA (F_ a.n wr ((HSz.o) a (dF ha)));have hnk:(decide (a.n.size≤40)&&lH (bs a.n) 3)=pR a.n:=rfl;rw[hnk] at Jv;have HA2:=aA ha;clear XD e4 ha hnk;go_wp2_with fail
     refine(Jv.o).aX fun w3 k3=>?_;have HB3:=aA <| (HB.o).trans (k3.mono (HB.o).size);clear k3 Jv s3 HB;rcases Vl.o with ⟨h1,h2⟩|⟨h1,h2⟩
     ·rw[h1]
      have HF:=aA h2;clear h1 h2 Vl;go_wp2_with fail
      go_ret;exact⟨by rw[HF.o];rfl,HB3.o⟩
     ·rw[h1]
      have zO:=aA h2;clear h1 h2 Vl;go_wp2_with fail
      go_loopw [6] (fun v wy=>∃ k:Nat,v=ak k∧k≤j∧Hid (∀ k' b,k'<k→l[k']?=some b→(bs b.n==bs a.n)=false)∧Hid (Below W1.heap.size W1 wy)) (fun v _=>j - (intOf v).toNat)
      case atStart=>exact⟨0,rfl,bJ _,fun k' b hk=>absurd hk (jE _),HB3⟩
      case round =>
       clear HB3;obtain⟨k,rfl,hk,HP,HB⟩:=hrel;by_cases hlt:k<j
       case neg =>
        obtain rfl:k=j:=au
        have i5:decide (k<k)=false:=aT
        have i6:decide ((k:Int)<(k:Int))=false:=aT
        have Ei:Hid (sU l (k+1) r):=by
         rcases zO.o with ⟨⟨i,hi⟩,-⟩|⟨-,h⟩
         ·exfalso
          unfold mR at hi;rw[List.findIdx?_eq_some_iff_getElem] at hi;obtain⟨h1,h2,-⟩:=hi;have hl2:i<k:=by rw[dX] at h1;omega
          have hg:l[i]?=some (l.take k)[i]:=by rw[List.getElem_take,aF]
          rw[(HP.o) i _ hl2 hg] at h2;cases h2
         ·exact h
        clear HP zO;go_wp2_with fail
        exact⟨⟨k+1,by go_num,au,Ei,HB⟩,by simp only[intOf];omega⟩
       have i5:decide (k<j)=true:=aQ
       have i6:decide ((k:Int)<(j:Int))=true:=aQ
       have hk1:(0:Int)≤(k:Int):=bO _;have hk2:(k:Int)<(l.length:Int):=au
       obtain⟨b,hb'⟩:∃ b,l[k]?=some b:=⟨l[k],aF au⟩;obtain⟨g',F6,f2,f3,f4⟩:=(lT.o) k b hb';cases F6
       have s1:=iY HB.o e2 e3;have s2:=iY HB.o e2 f3;cases hq:(bs b.n==bs a.n) with
       | true =>
        have hs:(b.n.toList==a.n.toList)=true:=by have:=oD hq;rw[uN,uN] at this;exact this
        have HF:Hid (r=5):=by
         rcases zO.o with ⟨-,h⟩|⟨h,-⟩
         ·exact h
         ·exfalso
          have:(mR (l.take j) (bs a.n)).isSome=true:=(qN _ _).2 (fU.2 ⟨b,dF (by rw[qw hlt];exact hb'),by simpa using hq⟩);rw[h] at this;cases this
        clear HP zO hq hb' f3 f4;go_wp2_with fail
        go_quiet (fail)
        go_wp2_with fail
        go_ret;exact⟨by rw[HF.o];rfl,iQ HB.o _⟩
       | false =>
        have hs:(b.n.toList==a.n.toList)=false:=by have:=oD hq;rw[uN,uN] at this;exact this
        have oU:Hid (∀ k' b,k'<k+1→l[k']?=some b→(bs b.n==bs a.n)=false):=fun k' b' h1 h2=>by
         by_cases e:k'=k
         ·subst e
          rw[hb'] at h2;rw[← bQ h2];exact hq
         ·exact(HP.o) k' b' au h2
        clear HP hq f3 f4;go_wp2_with fail
        go_quiet (fail)
        go_wp2_with fail
        exact⟨⟨k+1,by go_num,au,oU,iQ HB.o _⟩,by simp only[intOf];omega⟩
   have i1:decide (j<l.length)=true:=aQ
   have i2:decide ((j:Int)<(l.length:Int))=true:=aQ
   have hi1:(0:Int)≤(j:Int):=bO _;have hi2:(j:Int)<(l.length:Int):=au
   obtain⟨a,ha⟩:∃ a,l[j]?=some a:=⟨l[j],aF hjl⟩;obtain⟨g,e1,e2,e3,e4⟩:=(lT.o) j a ha;subst e1;by_cases hq:20000<a.t.size
   ·have hq2:(20000:Int)<(a.t.size:Int):=by omega
    have HF:Hid (r=12):=by
     rw[← HR.o];have:l.any (fun a=>decide (20000<a.t.size))=true:=o9.2 ⟨a,dF ha,by simpa using hq⟩;rw[this];exact aA rfl
    clear HA HR;go_wp2_with fail
    go_ret;exact⟨by rw[HF.o];rfl,aB _ _⟩
   ·have hq2:¬(20000:Int)<(a.t.size:Int):=by omega
    have HA2:Hid ((l.take (j+1)).any (fun a=>decide (20000<a.t.size))=false):=by
     show _=_;rw[L6 ha,List.any_append,HA.o]
     simpa using hq
    clear HA;go_wp2_with fail
    exact⟨⟨j+1,by go_num,au,HA2,by trivial⟩,by simp only[intOf];omega⟩
end Go.Proofs.YtoohcklcppnafaaGreatDoor
