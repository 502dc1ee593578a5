/- Package lay: Layout. -/
import Derived.Test.YtgpcpbmacdhlkaaGreatDoorLpw
import Derived.Test.YtgpcpbmacdhlkaaGreatDoorXz
import Derived.Test.YtgpcpbmacdhlkaaGreatDoorZr
import Derived.Test.YtgpcpbmacdhlkaaGreatDoorLz
namespace Go.Proofs.YtgpcpbmacdhlkaaGreatDoor
open Go.RowKit Go.Shelf
open M
theorem X.xt_ne (n:Nat):∀ l:List UInt8,l.length≤n→∀ t∈X.xt l,t.2≠[]:=by
 induction n with
 | zero =>
  intro l h t ht
  have:l=[]:=List.length_eq_zero_iff.1 (by omega)
  subst this;rw [X.xt_nil] at ht;exact absurd ht (by simp)
 | succ n ih =>
  intro l h t ht
  by_cases h0:l=[]
  ·subst h0;rw [X.xt_nil] at ht;exact absurd ht (by simp)
  have hb:=tok_bounds h0
  rw [X.xt_cons h0] at ht
  rcases List.mem_cons.1 ht with rfl|ht
  ·intro e
   have:=congrArg List.length e
   simp only [List.length_take,List.length_nil] at this;omega
  ·exact ih _ (by rw [List.length_drop];omega) t ht
set_option maxRecDepth 100000 in
set_option maxHeartbeats 1000000 in
theorem tnotes_big (tb:Nat) (s:ByteArray) (w:World) (h:IsTr w tb s) (hs:s.size≤1073741823) (hl:(toks 0 (bs s)).length≤134217728) :
  Calls Tryz.prog 16 #[.pointer (some ⟨tb,0,none⟩)] w fun e w'=>∃ rv,e=.returned rv∧Hid (IsNs w' w.heap.size rv (X.nts (X.file (X.xt (bs s))) 0)∧Below w.heap.size w w'):=by
 obtain ⟨db,dv,B,D,c0,c1,hd,hp,hD⟩:=h.ex
 have hll:(X.xt (bs s)).length≤134217728:=by unfold X.xt;rw [List.length_map];exact hl
 have hz:=X.file_psz (X.xt (bs s))
 have hb:X.pb (X.file (X.xt (bs s)))=bs s:=by rw [X.file_keeps,X.xt_tb]
 have HC:=hide (btell_any _ _ (Nat.le_refl _) (X.file_jok (X.xt (bs s))) w D B w.heap.size (.slice none 0 0) [] 0 hp hD (World.ownsRow_nil _ _ _ _) (Nat.le_refl _) (by rw [hb,bs_len];omega) (by simp;omega))
 clear h hd hp hD hz hll hb
 go_enter Tryz.func16,Tryz.ntmps16
 go_wp2_with fail
 refine (HC.out).mono ?_
 rintro e w1 ⟨rv,rfl,H1⟩
 go_wp2_with fail
 go_ret
 exact ⟨_,rfl,H1⟩
theorem node_kids (a b c d:Value) (w:World):(Instr.field 38 (.agg #[a,b,c,d]) 3).run Tryz.prog w=.ok d w:=by kernel_rfl
theorem BdW.isB {w:World} {B:Nat} {l:List UInt8} {p bv:Value} (h:BdW w B l p bv):Lib.IsBuilderF 49 5 B B (Lib.byteCells l) w:=by
 have hr:w.ownsRowF B 5 1 bv (Lib.byteCells l).length (Lib.byteCells l):=by
  rw [Lib.byteCells_length];exact World.ownsRowF_of h.row
 rcases h.adr with e|e
 ·subst e;exact .inl ⟨Nat.le_refl _,bv,h.blk,hr,fun e=>h.far e.symm⟩
 ·subst e;exact .inr ⟨Nat.le_refl _,bv,h.blk,hr,fun e=>h.far e.symm⟩
theorem X.lay_at {ps:List X.Part} {j:Nat} {p:X.Part} (h:ps[j]?=some p):X.lay (ps.take (j+1))=X.lay (ps.take j)++X.kidOut p:=by
 unfold X.lay
 rw [List.take_add_one,h,Option.toList_some,List.flatMap_append,List.flatMap_cons,List.flatMap_nil,List.append_nil]
set_option maxRecDepth 100000 in
set_option maxHeartbeats 8000000 in
theorem layC_any:LayC:=by
 intro s w hT hs hl ho
 have hbl:=bs_len s
 have hll:(X.xt (bs s)).length≤134217728:=by unfold X.xt;rw [List.length_map];exact hl
 have hpz:=X.file_psz (X.xt (bs s))
 have hpb:X.pb (X.file (X.xt (bs s)))=bs s:=by rw [X.file_keeps,X.xt_tb]
 have hcl:=X.file_cln (X.xt (bs s)) 0
 have hnl:=X.nts_len (X.file (X.xt (bs s))) 0
 have HNW:=hide (newTree_big s w hT hs hl)
 have HNT:=hide (fun W tb (h:IsTr W tb s)=>tnotes_big tb s W h hs hl)
 have HRT:=hide (fun W tb (h:IsTr W tb s)=>root_any tb s W h (by omega) hpb hs)
 cases hc:X.clns (X.fileL (X.xt (bs s))) with
 | false =>
  rw [if_neg (by simp)]
  go_enter Tryz.func6,Tryz.ntmps6
  go_wp2_with fail
  refine (HNW.out).mono ?_
  rintro e w1 ⟨tb,rfl,H1⟩
  have HTR:=hide (H1.out).1
  have HK1:=hide (H1.out).2
  clear H1 HNW
  go_wp2_with fail
  refine ((HNT.out) w1 tb HTR.out).mono ?_
  rintro e w2 ⟨rv,rfl,H2⟩
  have hrl:=owns_len (H2.out).1
  obtain ⟨ro,rn,rc,rfl⟩:∃ ro rn rc,rv=.slice ro rn rc:=by
   rcases (H2.out).1.2 with ⟨rfl,-⟩|⟨g,cap,cur,rfl,-⟩
   ·exact ⟨_,_,_,rfl⟩
   ·exact ⟨_,_,_,rfl⟩
  replace hrl:rn=(X.nts (X.file (X.xt (bs s))) 0).length:=hrl
  have hpos:0<rn:=by
   rw [hrl]
   refine List.length_pos_iff.2 (fun e=>?_)
   have:=hcl.1 e
   rw [hc] at this;cases this
  have HB2:Hid (Below w.heap.size w w2):=(HK1.out).trans ((H2.out).2.mono (HK1.out).size)
  have i1:decide ((rn:Int)>0)=true:=by simp;omega
  have i2:decide ((0:Int)<(rn:Int))=true:=by simp;omega
  have i3:(0:Int)<(rn:Int):=by omega
  clear H2 hrl hpos
  go_wp2_with fail
  go_ret2
  exact ⟨rfl,HB2.out⟩
 | true =>
  rw [if_pos rfl]
  go_enter Tryz.func6,Tryz.ntmps6
  go_wp2_with fail
  refine (HNW.out).mono ?_
  rintro e w1 ⟨tb,rfl,H1⟩
  have HTR:=hide (H1.out).1
  have HK1:=hide (H1.out).2
  clear H1 HNW
  go_wp2_with fail
  refine ((HNT.out) w1 tb HTR.out).mono ?_
  rintro e w2 ⟨rv,rfl,H2⟩
  have hrl:=owns_len (H2.out).1
  obtain ⟨ro,rn,rc,rfl⟩:∃ ro rn rc,rv=.slice ro rn rc:=by
   rcases (H2.out).1.2 with ⟨rfl,-⟩|⟨g,cap,cur,rfl,-⟩
   ·exact ⟨_,_,_,rfl⟩
   ·exact ⟨_,_,_,rfl⟩
  replace hrl:rn=(X.nts (X.file (X.xt (bs s))) 0).length:=hrl
  have hz0:rn=0:=by rw [hrl,hcl.2 hc];rfl
  have HK2:=hide (H2.out).2
  have HTR2:=hide ((HTR.out).below (H2.out).2)
  clear H2 hrl
  subst hz0
  have kB:Below w2.heap.size w2 (w2.alloc (.cells #[.pointer none,.slice none 0 0] 49)):=(Below.refl _ w2).alloc (Nat.le_refl _) _
  have HBN:=hide (BdW.new w2)
  have HTR3:=hide ((HTR2.out).below kB)
  have HKB:=hide kB
  clear kB
  go_wp2_with fail
  refine ((HRT.out) _ tb HTR3.out).mono ?_
  rintro e w3 ⟨nv,rfl,H3⟩
  obtain ⟨E,h31,h32,h33⟩:=H3.out
  obtain ⟨tk,tx,ao,cap,c0,c1,c2,c3,rfl,hcap,hcm,hr,hkd,-⟩:=h31.view
  have hps:X.kidsOf (X.file (X.xt (bs s)))=X.fileL (X.xt (bs s)):=rfl
  rw [hps] at hcap hr hkd ⊢
  have hk2:X.kindOf (X.file (X.xt (bs s)))=2:=rfl
  rw [hk2]
  have HWR:Hid (∀ p∈X.fileL (X.xt (bs s)),WrOk p):=fun p hp=>by
   have hw:=X.fileL_w _ _ (Nat.le_refl _) X.xt_kind hc p hp
   have hln:=X.fileL_ln _ _ (Nat.le_refl _) X.xt_kind hc p hp
   have hpsz:X.psz (X.file (X.xt (bs s)))=1+X.pssz (X.fileL (X.xt (bs s))):=by
    show X.psz (.br 2 (X.fileL (X.xt (bs s))))=_
    rw [X.psz]
   obtain ⟨j,hj⟩:=List.getElem?_of_mem hp
   have hz1:=X.pssz_mem _ j p hj
   have hko:X.kok p:=by
    have:X.kok (.br 2 (X.fileL (X.xt (bs s)))):=X.file_kok _
    rw [X.kok] at this
    exact X.koks_mem _ j p this.2 hj
   have hsub:∀ t∈X.pl p,t∈X.xt (bs s):=fun t ht=>by
    rw [← X.fileL_toks (X.xt (bs s))]
    obtain ⟨a,b,e⟩:=List.append_of_mem hp
    rw [e,X.pls_append,X.pls]
    exact List.mem_append_right _ (List.mem_append_left _ ht)
   have hlen:(X.pl p).length≤(X.xt (bs s)).length:=by
    rw [← X.fileL_toks (X.xt (bs s))]
    obtain ⟨a,b,e⟩:=List.append_of_mem hp
    rw [e,X.pls_append,X.pls,List.length_append,List.length_append];omega
   have hwt:X.wt 0 (X.nt p)≤X.wt 0 (X.pls (X.fileL (X.xt (bs s)))):=by
    obtain ⟨a,b,e⟩:=List.append_of_mem hp
    rw [e,X.pls_append,X.pls,X.wt_append,X.wt_append]
    have h2:=X.wt_two 0 (X.pl p)
    unfold X.nt
    omega
   rw [X.fileL_toks,X.wt_tb 0 (X.xt (bs s)),X.xt_tb] at hwt
   have hfl:(X.flt (X.fl false p)).length≤8589934592:=by
    have h1:=X.flat_le (M:=0) (ps:=[p])
    rw [X.nts_one,X.flat_one] at h1
    omega
   refine awrite_any p hw ?_ (fun hq=>?_) (by omega) hko (fun t ht=>X.xt_ne _ _ (Nat.le_refl _) t (hsub t ht)) hfl ?_ ?_
   ·rcases hln with e|⟨-,-,e⟩
    ·cases p with
     | leaf k x=>show X.dps []≤520;rw [X.dps];omega
     | miss m=>cases e
     | br k ps=>cases e
    ·exact e
   ·rcases hln with e|⟨-,e,-⟩
    ·rw [hq] at e;cases e
    ·exact e
   ·have:(X.nt p).length≤(X.pl p).length:=by unfold X.nt;exact List.length_filter_le _ _
    omega
   ·have:(X.rms p).length≤(X.pl p).length:=by unfold X.rms;rw [List.length_map];exact List.length_filter_le _ _
    omega
  have hout:=ho hc
  have HLO:Hid (X.lay (X.fileL (X.xt (bs s)))=X.layOf (bs s)):=rfl
  rw [← HLO.out] at hout
  have hpl:(X.fileL (X.xt (bs s))).length≤1073741824:=by
   have h1:=X.pssz_len (X.fileL (X.xt (bs s)))
   have h2:X.psz (X.file (X.xt (bs s)))=1+X.pssz (X.fileL (X.xt (bs s))):=by
    show X.psz (.br 2 (X.fileL (X.xt (bs s))))=_
    rw [X.psz]
   omega
  generalize X.fileL (X.xt (bs s))=ps at *
  have HR:=hide hr
  have HKD:=hide hkd
  have HE:=hide h32
  have HB3:=hide ((HBN.out).keep (Kp.ofBelow h33 (fun _=>False)) id (fun _ e=>by cases e))
  have hBl:w2.heap.size<w3.heap.size:=heap_lt (HB3.out).blk
  have HBW:Hid (Below w.heap.size w w3):=((HK1.out).trans ((HK2.out).mono (HK1.out).size)).trans (((HKB.out).trans (h33.mono (HKB.out).size)).mono (Nat.le_trans (HK1.out).size (HK2.out).size))
  have hzz:w.heap.size≤w2.heap.size:=Nat.le_trans (HK1.out).size (HK2.out).size
  have HZ2:Hid ((w2.alloc (.cells #[.pointer none,.slice none 0 0] 49)).heap.size=w2.heap.size+1):=by show _=_;simp
  clear H3 h31 h32 h33 hr hkd HBN HTR HTR2 HTR3 HNT HRT HK1 HK2 HKB hps hk2 hcl hnl hpz hpb
  generalize w2.heap.size=B at *
  have hfd:=node_kids (.int .i64 2) (.int .i64 tk) (.string tx) (.slice ao ps.length cap) w3
  go_wp2_with fail
  go_loopw [19] (fun iv wr=>∃ j:Nat,iv=.int .i64 j∧j≤ps.length∧Hid (BdTo w3 B (.slice none 0 0) (X.lay (ps.take j)) wr)) (fun iv _=>ps.length - (intOf iv).toNat)
  case atStart=>exact ⟨0,rfl,Nat.zero_le _,by
   have e:X.lay ([]:List X.Part)=[]:=rfl
   rw [List.take_zero,e];exact BdTo.refl HB3.out⟩
  case round =>
   obtain ⟨j,rfl,hj,HJ⟩:=hrel
   obtain ⟨p1,bv1,hb1,ho1,kb1⟩:=HJ.out
   have HB1:=hide hb1
   have HO1:=hide ho1
   have HKB1:=hide kb1
   by_cases hlt:j<ps.length
   case neg =>
    obtain rfl:j=ps.length:=by omega
    have i1:decide (ps.length<ps.length)=false:=by simp
    have i2:decide ((ps.length:Int)<(ps.length:Int))=false:=by simp
    have HIB:=hide hb1.isB
    rw [List.take_length] at HIB
    have hBz:B≤wr.heap.size:=Nat.le_of_lt (heap_lt hb1.blk)
    have HBE:Hid (Below w.heap.size w wr):=(HBW.out).trans (Kp.below kb1 (HBW.out).size (fun q e=>by
     rcases e with e|e
     ·omega
     ·cases e))
    clear hb1 ho1 kb1 HJ
    go_wp2_with fail
    refine (Tryz.Builder_String_any_k B B (X.lay ps) wr HIB.out hBz).mono ?_
    rintro e w9 ⟨rfl,-,k9,-⟩
    have HF:Hid (Below w.heap.size w w9):=(HBE.out).trans (k9.mono (by omega))
    clear k9
    go_wp2_with fail
    go_ret2
    exact ⟨by rw [← HLO.out];rfl,HF.out⟩
   have i1:decide (j<ps.length)=true:=by simp;omega
   have i2:decide ((j:Int)<(ps.length:Int))=true:=by simp;omega
   have hi1:(0:Int)≤(j:Int):=Int.natCast_nonneg _
   have hi2:(j:Int)<(ps.length:Int):=by omega
   have hq:ps[j]?=some ps[j]:=List.getElem?_eq_getElem hlt
   obtain ⟨g,rfl,hEg,z0,z1,z2,z3⟩:=(HR.out) j hlt
   have hkid:=(HKD.out) j _ hq
   obtain ⟨a1,a2,a3,a4,a5,a6,hqv⟩:=hkid.shape
   unfold q4v at hqv
   simp only [Value.agg.injEq,Array.mk.injEq,List.cons.injEq,and_true] at hqv
   obtain ⟨u0,u1,u2,u3⟩:=hqv
   rw [u0,u1,u2,u3] at hkid
   rw [u0] at z0
   rw [u1] at z1
   rw [u2] at z2
   rw [u3] at z3
   have hES:∀ q,(q=B∨(Value.slice none 0 0).ownBlock=some q)→¬ E q:=fun q e e2=>by
    rcases e with e|e
    ·have h1:=(HE.out) q e2
     have h2:=HZ2.out
     omega
    ·cases e
   have hgB:=fun e=>hES g e hEg
   have y0:=kb1.cellv z0 hgB
   have y1:=kb1.cellv z1 hgB
   have y2:=kb1.cellv z2 hgB
   have y3:=kb1.cellv z3 hgB
   have kA:Below wr.heap.size wr (wr.alloc (.cells #[.int .i64 a1,.int .i64 a2,.string a3,.slice a4 a5 a6] 38)):=(Below.refl _ wr).alloc (Nat.le_refl _) _
   have HNK:=hide ((hkid.kept kb1 hES).kept (Kp.ofBelow kA (fun _=>False)) (fun _ e=>e.elim))
   have HBK:=hide (hb1.keep (Kp.ofBelow kA (fun _=>False)) id (fun _ _=>id))
   have HDK:Hid (∀ q,E q→q<(wr.alloc (.cells #[.int .i64 a1,.int .i64 a2,.string a3,.slice a4 a5 a6] 38)).heap.size):=fun q e=>by
    have h1:=(HE.out) q e
    have h2:=kb1.size
    have h3:=kA.size
    omega
   have HKA:=hide kA
   have HLA:=hide (X.lay_at hq)
   have hlen:(X.lay (ps.take j)++X.kidOut ps[j]).length≤1099511627776:=by
    rw [← HLA.out]
    have h1:X.lay ps=X.lay (ps.take (j+1))++X.lay (ps.drop (j+1)):=by unfold X.lay;rw [← List.flatMap_append,List.take_append_drop]
    rw [h1,List.length_append] at hout
    omega
   have HW1:=hide ((HWR.out) ps[j] (List.getElem_mem hlt))
   have hgl:g<wr.heap.size:=by have:=(HE.out) g hEg;have:=kb1.size;omega
   clear hkid z0 z1 z2 z3 u0 u1 u2 u3 hb1 ho1 kb1 HJ kA hES hgB
   go_wp2_with fail
   refine ((HW1.out) _ E _ B _ p1 bv1 HDK.out HNK.out HBK.out hlen).mono ?_
   rintro e w6 ⟨rfl,H6⟩
   have HN:Hid (BdTo w3 B (.slice none 0 0) (X.lay (ps.take (j+1))) w6):=by
    rw [HLA.out]
    refine BdTo.step HO1.out HKB1.out ?_
    obtain ⟨p7,b7,h7,o7,k7⟩:=H6.out
    refine ⟨p7,b7,h7,fun k hk=>?_,Kp.trans (Kp.ofBelow HKA.out _) k7 (fun _ _ e=>e)⟩
    rcases o7 k hk with e|e
    ·exact .inl e
    ·exact .inr (Nat.le_trans (HKA.out).size e)
   clear H6
   go_wp2_with fail
   exact ⟨⟨j+1,by go_num,by omega,HN⟩,by simp only [intOf];omega⟩
end Go.Proofs.YtgpcpbmacdhlkaaGreatDoor
