/- The document's Layout. -/
import Derived.Test.YtgpcpbmacdhlkaaGreatDoorLkv
import Derived.Test.YtgpcpbmacdhlkaaGreatDoorZn
namespace Go.Proofs.YtgpcpbmacdhlkaaGreatDoor
open Go.RowKit
open M
structure Kd (w:World) (a b:Nat) (ps:List X.Part) (ao:Option Addr) (cap:Nat) (vs:Nat→Value):Prop where
 cell:∀ j,j<ps.length→∃ g,ao=some ⟨g,0,none⟩∧g<b∧w.cell? ⟨g,j,none⟩=some (vs j)
 nd:∀ (j:Nat) (q:X.Part),ps[j]?=some q→∃ i,NdP w a b (vs j) q i
 ok:∀ q∈ps,X.KidOk q
 fine:∀ q∈ps,Fine q
 dp:∀ q∈ps,X.KidLn q
 len:(X.lay ps).length≤1073740000
 num:ps.length≤67108864
set_option maxRecDepth 100000 in
set_option maxHeartbeats 8000000 in
theorem ylayout_any (s:ByteArray) (w:World) (hs:s.size≤1048576) :
  Calls Tryz.prog 7 #[.string s] w fun e w'=>(e=.returned (if X.clns (X.fileL (X.xt (bs s))) then .tuple #[.string (ba (X.layOf (bs s))),.bool true] else .tuple #[.string ⟨#[]⟩,.bool false]))∧Below w.heap.size w w':=by
 have hbl:=bs_len s
 have hxl:=X.xt_len_le (bs s)
 have hpz:=X.file_psz (X.xt (bs s))
 have hkok:=X.file_kok (X.xt (bs s))
 have HPa:=hide (parse_any s w (by omega))
 have HDn:=hide (dn_any _ (X.put (X.file (X.xt (bs s))) 0) (Nat.le_refl _))
 have HNQ:Hid (X.nq (X.put (X.file (X.xt (bs s))) 0)=X.nts (X.file (X.xt (bs s))) 0):=X.nq_put _ _ hkok (X.file_jok _)
 have hql:=X.nq_len (X.put (X.file (X.xt (bs s))) 0)
 have hqz:=X.qsz_put (X.file (X.xt (bs s))) 0
 have hcl:=X.file_cln (X.xt (bs s)) 0
 cases hc:X.clns (X.fileL (X.xt (bs s))) with
 | false =>
  rw [if_neg (by simp)]
  go_enter Tryz.func7,Tryz.ntmps7
  go_wp2_with fail
  refine (HPa.out).mono ?_
  rintro e w1 ⟨N,lo,hi,rfl,H1⟩
  obtain ⟨hM,hlo,k1⟩:=H1.out
  have K1:=hide k1
  have hw1:=k1.size
  have HM:=hide hM.shr
  clear hM H1 k1 HPa
  go_wp2_with fail
  refine ((HDn.out) w1 lo (min hi w1.heap.size) _ w1.heap.size (.slice none 0 0) [] HM.out (Nat.min_le_right _ _) (World.ownsRow_nil _ _ _ _) (Nat.le_refl _) (by rw [List.length_nil,hqz];omega)).mono ?_
  rintro e w2 ⟨rv2,rfl,H2⟩
  have hrow:w2.ownsRow w1.heap.size 117 3 rv2 (X.nts (X.file (X.xt (bs s))) 0).length (nvs (X.nts (X.file (X.xt (bs s))) 0)):=by
   have:=(H2.out).1
   rw [List.nil_append,HNQ.out] at this
   exact this
  have k2:=(H2.out).2
  have K2:=hide k2
  have hw2:=k2.size
  have hrl:=owns_len hrow
  have hnl:(X.nts (X.file (X.xt (bs s))) 0).length≤1073741823:=by rw [← HNQ.out];omega
  obtain ⟨ro,rn,rc,rfl⟩:∃ ro rn rc,rv2=.slice ro rn rc:=by
   rcases hrow.2 with ⟨rfl,-⟩|⟨g,cap,cur,rfl,-⟩
   ·exact ⟨_,_,_,rfl⟩
   ·exact ⟨_,_,_,rfl⟩
  replace hrl:rn=(X.nts (X.file (X.xt (bs s))) 0).length:=hrl
  subst hrl
  have HB2:Hid (Below w.heap.size w w2):=(K1.out).trans (k2.mono hw1)
  clear H2 hrow HDn HNQ hql hqz
  have hne:X.nts (X.file (X.xt (bs s))) 0≠[]:=fun e=>by rw [hcl.1 e] at hc;cases hc
  have hpos:=List.length_pos_iff.2 hne
  generalize (X.nts (X.file (X.xt (bs s))) 0).length=m at *
  have i1:decide ((0:Int)<(m:Int))=true:=decide_eq_true (by omega)
  clear hne k2 hcl
  go_wp2_with fail
  exact bodyPost_ret (v:=.tuple #[.string ⟨#[]⟩,.bool false]) (by simp [results,Tryz.results7,go_sem]) rfl ⟨rfl,HB2.out⟩
 | true =>
  rw [if_pos rfl]
  go_enter Tryz.func7,Tryz.ntmps7
  go_wp2_with fail
  refine (HPa.out).mono ?_
  rintro e w1 ⟨N,lo,hi,rfl,H1⟩
  obtain ⟨hM,hlo,k1⟩:=H1.out
  have K1:=hide k1
  have hw1:=k1.size
  have HM:=hide hM.shr
  clear hM H1 k1 HPa
  go_wp2_with fail
  refine ((HDn.out) w1 lo (min hi w1.heap.size) _ w1.heap.size (.slice none 0 0) [] HM.out (Nat.min_le_right _ _) (World.ownsRow_nil _ _ _ _) (Nat.le_refl _) (by rw [List.length_nil,hqz];omega)).mono ?_
  rintro e w2 ⟨rv2,rfl,H2⟩
  have hrow:w2.ownsRow w1.heap.size 117 3 rv2 (X.nts (X.file (X.xt (bs s))) 0).length (nvs (X.nts (X.file (X.xt (bs s))) 0)):=by
   have:=(H2.out).1
   rw [List.nil_append,HNQ.out] at this
   exact this
  have k2:=(H2.out).2
  have K2:=hide k2
  have hw2:=k2.size
  have hrl:=owns_len hrow
  have hnl:(X.nts (X.file (X.xt (bs s))) 0).length≤1073741823:=by rw [← HNQ.out];omega
  obtain ⟨ro,rn,rc,rfl⟩:∃ ro rn rc,rv2=.slice ro rn rc:=by
   rcases hrow.2 with ⟨rfl,-⟩|⟨g,cap,cur,rfl,-⟩
   ·exact ⟨_,_,_,rfl⟩
   ·exact ⟨_,_,_,rfl⟩
  replace hrl:rn=(X.nts (X.file (X.xt (bs s))) 0).length:=hrl
  subst hrl
  have HB2:Hid (Below w.heap.size w w2):=(K1.out).trans (k2.mono hw1)
  clear H2 hrow HDn HNQ hql hqz
  have hz0:(X.nts (X.file (X.xt (bs s))) 0).length=0:=by rw [hcl.2 hc];rfl
  rw [hz0]
  have hND:NdP w1 lo (min hi w1.heap.size) (.pointer (some ⟨N,0,none⟩)) (X.file (X.xt (bs s))) 0:=HM.out
  obtain ⟨N',ao,cap,at0,en,fr,tt,la,vs,hNe,hN1,hN2,hnd,hc1,hc2,hrowk,hkid⟩:=hND.any
  injection hNe with hNe
  injection hNe with hNe
  injection hNe with hNe
  subst hNe
  obtain ⟨⟨-,-,-,c3,-⟩,-⟩:=hnd.facts
  have hkds:X.kds (X.file (X.xt (bs s)))=X.fileL (X.xt (bs s)):=rfl
  rw [hkds] at c3 hc1 hrowk hkid
  have hbm:min hi w1.heap.size≤w1.heap.size:=Nat.min_le_right _ _
  have hlen:=X.layOf_len hc
  have hwt:X.wt 522 (X.pls (X.fileL (X.xt (bs s))))≤1073740000:=by
   rw [X.fileL_toks,X.wt_tb,X.xt_tb];omega
  have hpsz:X.psz (X.file (X.xt (bs s)))=1+X.pssz (X.fileL (X.xt (bs s))):=by
   show X.psz (.br 2 (X.fileL (X.xt (bs s))))=_
   rw [X.psz]
  have hpl:=X.pssz_len (X.fileL (X.xt (bs s)))
  have hkoks:X.koks (X.fileL (X.xt (bs s))):=by
   have:X.kok (.br 2 (X.fileL (X.xt (bs s)))):=hkok
   rw [X.kok] at this
   exact this.2
  have HKD:Hid (Kd w1 lo (min hi w1.heap.size) (X.fileL (X.xt (bs s))) ao cap vs):=by
   refine ⟨fun j hj=>?_,fun j q hq=>⟨_,hkid j q hq⟩,X.fileL_kids _ _ (Nat.le_refl _) X.xt_kind hc,fun q hq=>?_,X.fileL_ln _ _ (Nat.le_refl _) X.xt_kind hc,?_,by omega⟩
   ·obtain ⟨g,e1,e2,e3,e4⟩:=hrowk j hj
    exact ⟨g,e1,e3,e4⟩
   ·obtain ⟨j,hj⟩:=List.getElem?_of_mem hq
    have h1:=X.pssz_mem _ j q hj
    have h2:=X.wt_kid (M:=522) hq
    exact ⟨X.koks_mem _ j q hkoks hj,by omega,by omega⟩
   ·show (X.layOf (bs s)).length≤_
    omega
  have C3:=hide c3
  have HLO:Hid (X.lay (X.fileL (X.xt (bs s)))=X.layOf (bs s)):=rfl
  have hNw:N<w1.heap.size:=by omega
  clear hND hnd hkid hrowk c3 hkds hc1 hc2 HM hlen hwt hpsz hkoks hkok hpz hxl hbl hcl hz0 k2
  generalize X.fileL (X.xt (bs s))=ps at *
  generalize hbb:min hi w1.heap.size=b at *
  have hnum:=(HKD.out).num
  have hlenp:=(HKD.out).len
  go_wp2_with fail
  go_loopw [6,7] (fun a v wr=>∃ (j:Nat) (O:ByteArray),j≤ps.length∧Hid (O=ba (X.lay (ps.take j)))∧a=.string O∧v=.int .i64 j∧Hid (Below w1.heap.size w1 wr)) (fun _ v _=>ps.length - (intOf v).toNat)
  case atStart=>exact ⟨0,⟨#[]⟩,Nat.zero_le _,rfl,rfl,rfl,K2.out⟩
  case round =>
   obtain ⟨j,O,hj,HO,rfl,rfl,KL⟩:=hrel
   have d3:=kcb (KL.out) hNw C3.out
   by_cases hlt:j<ps.length
   case neg =>
    obtain rfl:j=ps.length:=by omega
    have i1:decide ((ps.length:Int)<(ps.length:Int))=false:=by simp
    have HE:Hid (O=ba (X.layOf (bs s))):=by
     show _=_
     rw [HO.out,List.take_length,HLO.out]
    have HEND:Hid (Below w.heap.size w wr):=(K1.out).trans ((KL.out).mono hw1)
    clear HO
    have hE9:=HE.out
    subst hE9
    go_wp2_with fail
    exact bodyPost_ret (v:=.tuple #[.string (ba (X.layOf (bs s))),.bool true]) (by simp [results,Tryz.results7,go_sem]) rfl ⟨rfl,HEND.out⟩
   have i1:decide ((j:Int)<(ps.length:Int))=true:=decide_eq_true (by omega)
   have hi1:(0:Int)≤(j:Int):=Int.natCast_nonneg _
   have hi2:(j:Int)<(ps.length:Int):=by omega
   obtain ⟨p,hp⟩:∃ p,ps[j]?=some p:=⟨_,List.getElem?_eq_getElem hlt⟩
   have hpm:=List.mem_of_getElem? hp
   obtain ⟨g,rfl,hgb,hcell⟩:=(HKD.out).cell j hlt
   obtain ⟨ix,hndp⟩:=(HKD.out).nd j p hp
   obtain ⟨N1,ao1,cap1,at1,en1,fr1,tt1,la1,vs1,hv,hM1,hM2,hnd1,-⟩:=hndp.any
   rw [hv] at hcell hndp
   obtain ⟨⟨x0,-⟩,-⟩:=hnd1.facts
   have X0:=hide x0
   clear x0 hnd1
   have p0:=kcb (KL.out) (by omega) hcell
   have hfine:=(HKD.out).fine p hpm
   have hstep:=X.lay_take hp
   have hpre:=X.lay_pre ps (j+1)
   rw [hstep,List.length_append] at hpre
   have hrem:=X.remarks_rln p
   have hkl:(X.rln ((X.lds true false p).map (·.1))).length≤(X.kidOut p).length:=by
    rw [← hrem]
    unfold X.kidOut
    rw [List.length_append];omega
   have hldl:=X.lds_len true false p
   have hfz:=hfine.psz
   have HND:=hide (hndp.keep (Kp.ofBelow KL.out (fun _=>False)) (fun _ _ _=>id))
   have hwr:=(KL.out).size
   have HCl:=hide (yleaves_any true _ p (Nat.le_refl _) (by omega) hfine.kok wr lo b _ ix false wr.heap.size (.slice none 0 0) [] HND.out (by omega) (World.ownsRow_nil _ _ _ _) (Nat.le_refl _) (by rw [List.length_nil];omega))
   rw [List.nil_append] at HCl
   clear hcell hndp hldl
   go_wp2_with fail
   refine (HCl.out).mono ?_
   rintro e w3 ⟨rv3,rfl,H3⟩
   have hget:=(H3.out).1.get
   have k3:=(H3.out).2
   have K3:=hide ((KL.out).trans (k3.mono hwr))
   have hw3:=k3.size
   have HND3:=hide ((HND.out).below k3)
   generalize hL:X.lds true false p=L at *
   obtain ⟨to3,tc3,rfl,htc,htm,hcells⟩:=hget
   have HG:=hide hcells
   have hOz:O.size≤1073740000:=by rw [HO.out,ba_size];omega
   have hLl:L.length≤67108864:=by rw [← hL];have:=X.lds_len true false p;omega
   clear HCl H3 k3 hcells HND p0 d3
   go_wp2_with fail
   go_loopw [6,10] (fun a v wx=>∃ (m:Nat) (Q:ByteArray),m≤L.length∧Hid (Q=O++ba (X.rln ((L.take m).map (·.1))))∧a=.string Q∧v=.int .i64 m∧wx=w3) (fun _ v _=>L.length - (intOf v).toNat)
   case atStart=>exact ⟨0,O,Nat.zero_le _,bs_inj (by rw [bs_app,List.take_zero];show _=_++bs (ba []);rw [bs_ba,List.append_nil]),rfl,rfl,rfl⟩
   case round =>
    obtain ⟨m,Q,hm,HQ,rfl,rfl,rfl⟩:=hrel
    have hrp:=X.rln_pre L m
    have hQz:Q.size≤2147480000:=by rw [HQ.out,ByteArray.size_append,ba_size];omega
    by_cases hml:m<L.length
    ·obtain ⟨lx,hlx⟩:∃ lx,L[m]?=some lx:=⟨_,List.getElem?_eq_getElem hml⟩
     obtain ⟨gg,rfl,q1,q2⟩:=(HG.out) m lx hlx
     have hlm:=X.rln_mem hlx
     have i3:decide ((m:Int)<(L.length:Int))=true:=decide_eq_true (by omega)
     have hi3:(m:Int)<(L.length:Int):=by omega
     have hi4:(0:Int)≤(m:Int):=Int.natCast_nonneg _
     have HNx:Hid (Q++ba lx.1++⟨#[10]⟩=O++ba (X.rln ((L.take (m+1)).map (·.1)))):=by
      show _=_
      rw [HQ.out,X.rln_take hlx]
      exact bs_inj (by simp only [bs_app,bs_ba,List.append_assoc];rfl)
     have hTz:=ba_size lx.1
     generalize ba lx.1=T at *
     have hz1:¬ 9223372036854775807<Q.size+T.size:=by omega
     have hz2:¬ 9223372036854775807<(Q++T).size+1:=by rw [ByteArray.size_append];omega
     have hz3:¬ 9223372036854775807<Q.size+T.size+1:=by omega
     clear HQ
     go_wp2_with fail
     exact ⟨⟨m+1,_,by omega,HNx,rfl,by go_num,trivial⟩,by simp only [intOf];omega⟩
    ·obtain rfl:m=L.length:=by omega
     have i3:decide ((L.length:Int)<(L.length:Int))=false:=by simp
     have HQ2:Hid (Q=ba (X.lay (ps.take j)++X.remarks (X.pl p))):=by
      show _=_
      rw [HQ.out,List.take_length,HO.out,hrem,ba_app]
     have y0:=kcb (K3.out) (by omega) X0.out
     have hkind:X.kindOf p=pk p:=by cases p<;>rfl
     have hko:X.kidOut p=X.remarks (X.pl p)++(if X.kindOf p=0 then [] else X.item p):=rfl
     have hrl:(X.remarks (X.pl p)).length≤(X.kidOut p).length:=by rw [hko,List.length_append];omega
     have hQ2z:Q.size≤1073740000:=by rw [HQ2.out,ba_size,List.length_append];omega
     clear HQ HO HG
     by_cases hk0:pk p=0
     ·rw [hk0] at y0
      have HNx:Hid (Q=ba (X.lay (ps.take (j+1)))):=by
       show _=_
       rw [HQ2.out,hstep,hko,if_pos (by rw [hkind];exact hk0),List.append_nil]
      clear HQ2
      go_wp2_with fail
      exact ⟨⟨j+1,_,by omega,HNx,rfl,by go_num,K3⟩,by simp only [intOf];omega⟩
     ·have k0:((pk p:Int)==0)=false:=by simp;omega
      have hitem:X.kidOut p=X.remarks (X.pl p)++X.item p:=by rw [hko,if_neg (by rw [hkind];exact hk0)]
      have hil:(X.item p).length≤1073740000:=by rw [hitem,List.length_append] at hpre;omega
      have hok:X.ItemOk p:=by
       rcases (HKD.out).ok p hpm with h|h
       ·exfalso
        cases p with
        | leaf k x=>exact hk0 rfl
        | miss m=>cases h
        | br k qs=>cases h
       ·exact h
      have hS:=flat_fine hfine
      have hSz:=ba_size (X.flat [p])
      have HO1:=hide (yone_any p hfine wr lo b _ ix HND3.out (by omega))
      have HCh:=hide (fun W=>ychars_any (ba (X.flat [p])) W (by omega))
      rw [bs_ba] at HCh
      have hlc:=X.chars_le _ (X.flat [p]) (Nat.le_refl _)
      by_cases hfit:pk p=3∨X.chars (X.flat [p])≤80
      ·have hit:X.item p=X.flat [p]++[10]:=by unfold X.item;rw [if_pos (by rw [hkind];exact hfit)]
       have HNx:Hid (Q++ba (X.flat [p])++⟨#[10]⟩=ba (X.lay (ps.take (j+1)))):=by
        show _=_
        rw [HQ2.out,hstep,hitem,hit]
        exact bs_inj (by simp only [bs_app,bs_ba,List.append_assoc];rfl)
       generalize X.chars (X.flat [p])=c at *
       generalize ba (X.flat [p])=S at *
       have hz1:¬ 9223372036854775807<Q.size+S.size:=by omega
       have hz2:¬ 9223372036854775807<(Q++S).size+1:=by rw [ByteArray.size_append];omega
       have hz3:¬ 9223372036854775807<Q.size+S.size+1:=by omega
       clear HQ2 hit hko hitem hrem
       by_cases h3:pk p=3
       ·rw [h3] at y0 k0
        go_wp2_with fail
        refine (HO1.out).mono ?_
        rintro e w4 ⟨rfl,k4⟩
        have y0':=kcb k4 (by omega) y0
        have K4:=hide ((K3.out).trans (k4.mono (K3.out).size))
        clear k4
        go_wp2_with fail
        refine ((HCh.out) w4).mono ?_
        rintro e w5 ⟨rfl,rfl⟩
        go_wp2_with fail
        exact ⟨⟨j+1,_,by omega,HNx,rfl,by go_num,K4⟩,by simp only [intOf];omega⟩
       ·have k3:((pk p:Int)==3)=false:=by simp;omega
        have hc8:c≤80:=by rcases hfit with h|h;exact absurd h h3;exact h
        have k4':decide ((c:Int)≤80)=true:=decide_eq_true (by omega)
        have k5':(c:Int)≤80:=by omega
        go_wp2_with fail
        refine (HO1.out).mono ?_
        rintro e w4 ⟨rfl,k4⟩
        have y0':=kcb k4 (by omega) y0
        have K4:=hide ((K3.out).trans (k4.mono (K3.out).size))
        clear k4
        go_wp2_with fail
        refine ((HCh.out) w4).mono ?_
        rintro e w5 ⟨rfl,rfl⟩
        go_wp2_with fail
        exact ⟨⟨j+1,_,by omega,HNx,rfl,by go_num,K4⟩,by simp only [intOf];omega⟩
      ·have h3:pk p≠3:=fun h=>hfit (.inl h)
       have hc8:¬ X.chars (X.flat [p])≤80:=fun h=>hfit (.inr h)
       cases hok with
       | use qs=>exact absurd rfl h3
       | dfn qs l0 q tq hq0 hqs hqt =>
        have hit:X.item (.br 4 qs)=X.flat l0++([10]++X.ex (X.nt q).length 2 q [59]):=by
         unfold X.item
         rw [if_neg (by rw [hkind];exact hfit),show X.kidsOf (.br 4 qs)=qs from rfl,hq0]
         have e2:(l0++[q,X.lf tq]).length - 2=l0.length:=by simp
         have e3:(l0++[q,X.lf tq]).getD l0.length X.nil1=q:=by simp [List.getD_eq_getElem?_getD]
         rw [e2,e3,List.take_left' rfl]
        have hdq:2+X.dp q≤522:=by
         rcases (HKD.out).dp _ hpm with h|⟨-,-,h⟩
         ·cases h
         ·have h1:=X.dps_pts qs
          rw [hq0] at h1
          have h2:X.dp q≤X.dps (l0++[q,X.lf tq]):=X.dps_mem (by simp)
          have h4:X.dps qs≤520:=h
          omega
        have hlay:X.lay (ps.take j)++X.remarks (X.pl (.br 4 qs))++(X.flat l0++([10]++X.ex (X.nt q).length 2 q [59]))=X.lay (ps.take (j+1)):=by
         rw [hstep,hitem,hit,List.append_assoc]
        have HNx:Hid (Q++ba (X.flat l0)++⟨#[10]⟩++ba (X.ex (X.nt q).length 2 q [59])=ba (X.lay (ps.take (j+1)))):=by
         show _=_
         rw [HQ2.out,← hlay]
         exact bs_inj (by simp only [bs_app,bs_ba,List.append_assoc];rfl)
        have hil2:=hil
        rw [hit] at hil2
        simp only [List.length_append,List.length_cons,List.length_nil] at hil2
        have hHz:=ba_size (X.flat l0)
        have hEz:=ba_size (X.ex (X.nt q).length 2 q [59])
        have hqm:q∈X.pts qs:=by rw [hq0];simp
        have HEC:=hide (yexpr_any _ q (Nat.le_refl _) hqs (hfine.part hqm))
        have hkoq:=hfine.kok
        have hpz2:=hfine.parts
        have b4:((pk (.br 4 qs):Nat):Int)=4:=rfl
        rw [b4] at y0 k0
        have HFi:=hide hfine
        have k4':decide ((X.chars (X.flat [.br 4 qs]):Int)≤80)=false:=decide_eq_false (by omega)
        have k5':¬(X.chars (X.flat [.br 4 qs]):Int)≤80:=by omega
        have k6':(80:Int)<(X.chars (X.flat [.br 4 qs]):Int):=by omega
        clear HQ2 hit hko hitem hrem hlay hil hstep hpre hkl hrl hL X0 hp hpm hkind hfit h3 hk0 hfine hc8
        generalize X.chars (X.flat [.br 4 qs])=c at *
        generalize ba (X.flat [.br 4 qs])=S at *
        go_wp2_with fail
        refine (HO1.out).mono ?_
        rintro e w4 ⟨rfl,k4⟩
        have y0':=kcb k4 (by omega) y0
        have K4:=hide ((K3.out).trans (k4.mono (K3.out).size))
        have HND4:=hide ((HND3.out).below k4)
        have hw4:=k4.size
        clear k4 HND3 y0 HO1
        go_wp2_with fail
        refine ((HCh.out) w4).mono ?_
        rintro e w5 ⟨rfl,rfl⟩
        clear HCh
        go_wp2_with fail
        refine (parts_any HND4.out (by omega) hkoq (by show qs.length≤_;omega)).mono ?_
        rintro r w6 ⟨rv,rfl,X6⟩
        obtain ⟨⟨l,hlp,hown⟩,k6⟩:=X6.out
        replace hlp:LP _ lo b l qs ix:=hlp
        have hat:=hlp.at
        rw [hq0] at hat
        have hll:l.length=l0.length+2:=by rw [hat.1];simp
        have HV:=hide (IsV.ofOwns hown)
        have HLP:=hide hlp
        have K6:=hide k6
        have hw6:=k6.size
        have hl0:l0.length+2≤67108864:=by have:=hpz2.2.1;rw [hq0] at this;simpa using this
        obtain ⟨so,sc,rfl,hsc,hsm,-⟩:=(HV.out)
        obtain ⟨vq,kq,eq,nq⟩:=hat.2 l0.length q (by simp)
        have hcq:∀ W,Below w6.heap.size w6 W→∃ g,so=some ⟨g,0,none⟩∧W.cell? ⟨g,l0.length,none⟩=some vq:=fun W hB=>by
         obtain ⟨g,e1,e2⟩:=(HV.out).get hB rfl (by omega:l0.length<l.length)
         have:l[l0.length]'(by omega)=vq:=Option.some.inj ((List.getElem?_eq_getElem (by omega)).symm.trans eq)
         rw [this] at e2
         exact ⟨g,e1,e2⟩
        have HCq:=hide hcq
        have HNq:=hide nq
        clear hcq nq eq hat X6 hlp hown k6
        obtain ⟨hF,-,-⟩:=flat_cut HFi.out HLP.out (by omega) K6.out HV.out l0.length (by omega)
        rw [hq0,List.take_left' rfl] at hF
        have HF:=hide hF
        have HIH:=hide (fun W (h1:NdP W lo b vq q kq) (h2:b≤W.heap.size)=>(HEC.out) (X.nt q).length 2 [59] W lo b vq kq h1 h2 (Nat.le_refl _) hdq (by decide))
        clear hF HEC HFi HLP HV
        rw [show ba [59]=⟨#[59]⟩ from rfl] at HIH
        generalize ba (X.flat l0)=R1 at *
        generalize ba (X.ex (X.nt q).length 2 q [59])=R2 at *
        have hz1:¬ 9223372036854775807<Q.size+R1.size:=by omega
        have hz2:¬ 9223372036854775807<(Q++R1).size+1:=by rw [ByteArray.size_append];omega
        have hz3:¬ 9223372036854775807<Q.size+R1.size+1:=by omega
        have hz4:¬ 9223372036854775807<Q.size+R1.size+1+R2.size:=by omega
        rw [hll] at hsc
        rw [hll]
        generalize l0.length=m at *
        have j1:IntKind.i64.wrap (((m+2:Nat):Int) - 2)=(m:Int):=by rw [IntKind.wrap_i64];omega
        have j2:(m:Int)≤(sc:Int):=by omega
        have j3:(m:Int)<((m+2:Nat):Int):=by omega
        have j4:(0:Int)≤(m:Int):=Int.natCast_nonneg _
        obtain ⟨gq,rfl,-⟩:=(HCq.out) w6 (Below.refl _ _)
        go_wp2_with fail
        refine (HF.out).mono ?_
        rintro r w7 ⟨rfl,k7⟩
        obtain ⟨g',eg,z5⟩:=(HCq.out) w7 k7
        injection eg with eg
        injection eg with eg
        subst eg
        have K7:=hide ((K6.out).trans (k7.mono hw6))
        have hw7:=k7.size
        clear k7
        go_wp2_with fail
        refine ((HIH.out) w7 ((HNq.out).below K7.out) (by omega)).mono ?_
        rintro r w8 ⟨rfl,k8⟩
        have KE:=hide (((K4.out).trans ((K7.out).mono (K4.out).size)).trans (k8.mono (by omega)))
        clear k8
        go_wp2_with fail
        exact ⟨⟨j+1,_,by omega,HNx,rfl,by go_num,KE⟩,by simp only [intOf];omega⟩
end Go.Proofs.YtgpcpbmacdhlkaaGreatDoor
