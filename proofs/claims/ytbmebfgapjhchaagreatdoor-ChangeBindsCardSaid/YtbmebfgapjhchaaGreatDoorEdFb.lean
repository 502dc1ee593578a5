/- The document's fault of spans;spans as the document has them. -/
import Derived.Test.YtbmebfgapjhchaaGreatDoorEdFa
import Derived.OwnWalk
import Derived.Deep.QuietTactic
import Derived.BigQuiet
import Derived.Deep.RegionHeld3
import Derived.Deep.AppendLies
namespace Go.Proofs.YtbmebfgapjhchaaGreatDoor.Ed
open Go.RowKit
open EM
theorem first_good {n:Int} {L:List Rw} {r:Rw} (hr:L[0]?=some r) (h:L.any (badR n)=false):ordB 0 L=ordB r.t (L.drop 1):=by
 have hb:badR n r=false:=by simpa using (List.any_eq_false.1 h) r (List.mem_of_getElem? hr)
 have:=drop_ord (e:=0) hr
 simp only [List.drop_zero] at this
 rw [this]
 simp only [badR,Bool.or_eq_false_iff,decide_eq_false_iff_not] at hb
 simp [hb.1.1]
set_option maxHeartbeats 1000000 in
theorem refFault_any (n:Int) (v:Value) (L:List Rw) (w:World) (h:IsL w v L) :
  Calls Tryz.prog 29 #[.int .i64 n,v] w fun e w'=>e=.returned (.int .i64 (flt n L))∧Below w.heap.size w w':=by
 have H:=hide h
 obtain ⟨ao,cap,rfl,hc,hl,hcm,hx⟩:=h
 clear hx
 by_cases hn:n<0
 ·have HE:=hide (flt_neg L hn)
  go_enter Tryz.func29,Tryz.ntmps29
  go_wp2_with fail
  go_ret
  rw [HE.out]
  exact ⟨rfl,Below.refl _ _⟩
 have HN:=hide hn
 go_enter Tryz.func29,Tryz.ntmps29
 go_wp2_with fail
 go_loopw [5] (fun i wr=>∃ k:Nat,k≤L.length∧i=.int .i64 k∧Hid ((L.take k).any (badR n)=false)∧Below w.heap.size w wr) (fun i _=>L.length - (intOf i).toNat)
 case atStart=>exact ⟨0,Nat.zero_le _,rfl,rfl,Below.refl _ _⟩
 case round =>
  obtain ⟨k,hk,rfl,HT,hB⟩:=hrel
  by_cases hlt:k<L.length
  ·obtain ⟨b,o,r,rfl,hr,q1,q2,q3,hbl⟩:=(H.out).get hB hlt
   have HR:=hide hr
   clear hr
   have fin:badR n r=true→flt n L=1:=fun hb=>flt_bad HR.out hb
   have HF:=hide fin
   clear fin
   by_cases g1:r.f<0
   ·have d1:decide (r.f<0)=true:=by simpa using g1
    go_wp2_with fail
    go_quiet (fail)
    go_wp2_with fail
    go_ret
    rw [HF.out (by simp [badR,g1])]
    exact ⟨rfl,belowN hB _⟩
   have d1:decide (r.f<0)=false:=by simpa using g1
   by_cases g2:r.t<r.f
   ·have d2:decide (r.t<r.f)=true:=by simpa using g2
    go_wp2_with fail
    go_quiet (fail)
    go_wp2_with fail
    go_ret
    rw [HF.out (by simp [badR,g2])]
    exact ⟨rfl,belowN hB _⟩
   have d2:decide (r.t<r.f)=false:=by simpa using g2
   by_cases g3:n<r.t
   ·have d3:decide (n<r.t)=true:=by simpa using g3
    go_wp2_with fail
    go_quiet (fail)
    go_wp2_with fail
    go_ret
    rw [HF.out (by simp [badR,g3])]
    exact ⟨rfl,belowN hB _⟩
   have d3:decide (n<r.t)=false:=by simpa using g3
   have HG:=hide (show badR n r=false by simp [badR,g1,g2,g3])
   go_wp2_with fail
   go_quiet (fail)
   go_wp2_with fail
   refine ⟨⟨k+1,by omega,by go_num,take_any HR.out HT.out HG.out,belowN hB _⟩,?_⟩
   simp [intOf];omega
  ·have hkl:k=L.length:=by omega
   have HA:=hide (show L.any (badR n)=false by have:=HT.out;rwa [hkl,List.take_of_length_le (Nat.le_refl _)] at this)
   clear hkl
   go_wp2_with fail
   go_loopw [6] (fun i wr=>∃ k:Nat,(k<L.length∨k=0)∧i=.int .i64 (k+1)∧Hid (∀ r,L[k]?=some r→ordB 0 L=ordB r.t (L.drop (k+1)))∧Below w.heap.size w wr) (fun i _=>L.length - (intOf i).toNat)
   case atStart=>exact ⟨0,.inr rfl,rfl,fun r hr=>first_good hr HA.out,hB⟩
   case round =>
    obtain ⟨k,hk,rfl,HO,hB⟩:=hrel
    by_cases hlt:k+1<L.length
    ·obtain ⟨b,o,r,rfl,hr,q1,q2,q3,hbl⟩:=(H.out).get hB hlt
     obtain ⟨b',o',s,e,hs,p1,p2,p3,_⟩:=(H.out).get hB (show k<L.length by omega)
     cases e
     have HD:=hide (drop_ord (e:=s.t) hr)
     have HO2:=hide ((HO.out) s hs)
     have HR:=hide hr
     clear hr hs
     have z1:(k:Int)+1<L.length:=by omega
     have z2:(k:Int)<L.length:=by omega
     by_cases g1:r.f<s.t
     ·have HQ:=hide (flt_ord (by have:=HN.out;omega) HA.out (by rw [HO2.out,HD.out];simp [g1]))
      go_wp2_with fail
      go_quiet (fail)
      go_wp2_with fail
      go_ret
      rw [HQ.out]
      exact ⟨rfl,belowN hB _⟩
     ·have HQ:=hide (show ordB 0 L=ordB r.t (L.drop (k+1+1)) by rw [HO2.out,HD.out];simp [g1])
      go_wp2_with fail
      go_quiet (fail)
      go_wp2_with fail
      refine ⟨⟨k+1,.inl hlt,by go_num,fun r' hr'=>?_,belowN hB _⟩,?_⟩
      ·rw [HR.out] at hr';cases hr';exact HQ.out
      ·simp [intOf];omega
    ·have HQ:=hide (flt_ok (by have:=HN.out;omega) HA.out (by
      rcases Nat.eq_zero_or_pos L.length with h0|h0
      ·rw [List.length_eq_zero_iff.1 h0];rfl
      ·by_cases h1:k<L.length
       ·rw [(HO.out) _ (List.getElem?_eq_getElem h1),List.drop_eq_nil_of_le (by omega)];rfl
       ·omega))
     go_wp2_with fail
     go_ret
     rw [HQ.out]
     exact ⟨rfl,hB⟩
end Go.Proofs.YtbmebfgapjhchaaGreatDoor.Ed
/- Spans as the document has them. -/
namespace Go.Proofs.YtbmebfgapjhchaaGreatDoor.Ed
open Go.RowKit
open EM
theorem info77:(Tryz.prog.info? 77).map (fun i=>(i.zero,i.size,i.bytes))=some (some (.agg #[.int .i64 0,.int .i64 0,.string .empty]),3,32):=by kernel_rfl
theorem take_vals {L:List Rw} {k:Nat} {r:Rw} (hr:L[k]?=some r):(L.take (k+1)).flatMap Rw.vals=(L.take k).flatMap Rw.vals++r.vals:=by
 rw [List.take_add_one,hr,List.flatMap_append];simp
set_option maxRecDepth 100000 in
set_option maxHeartbeats 3200000 in
theorem spans_any (v:Value) (L:List Rw) (w:World) (h:IsL w v L) (hl:L.length≤1073741824) :
  Calls Tryz.prog 14 #[v] w fun e w'=>∃ v',e=.returned v'∧w'.ownsRow w.heap.size 77 3 v' L.length (L.flatMap Rw.vals)∧Below w.heap.size w w':=by
 obtain ⟨i0,hi0,hz0,hz1,hz2⟩:=info_parts info77
 have H:=hide h
 obtain ⟨ao,cap,rfl,hc,hl',hcm,hx⟩:=h
 clear hx
 go_enter Tryz.func14,Tryz.ntmps14
 go_wp2_with fail
 go_loopw [3,4] (fun v i wr=>∃ k:Nat,k≤L.length∧i=.int .i64 k∧Hid (wr.ownsRow w.heap.size 77 3 v k ((L.take k).flatMap Rw.vals))∧Below w.heap.size w wr) (fun _ i _=>L.length - (intOf i).toNat)
 case atStart=>exact ⟨0,Nat.zero_le _,rfl,World.ownsRow_nil _ _ _ _,Below.refl _ _⟩
 case round =>
  obtain ⟨k,hk,rfl,HO,hB⟩:=hrel
  by_cases hlt:k<L.length
  ·obtain ⟨b,o,r,rfl,hr,q1,q2,q3,hbl⟩:=(H.out).get hB hlt
   have HR:=hide (take_vals hr)
   have hown:=HO.out
   have hsz:=hB.size
   have ab:u3.ownBlock≠some b:=fun e=>by have:=(hown.lt b e).1;omega
   clear hr HO
   have hi1:(0:Int)≤(k:Int):=Int.natCast_nonneg _
   have hi2:(k:Int)<(L.length:Int):=by omega
   go_wp2_with fail
   go_region_held3 (fun w'=>w'.cell? ⟨b,o+k*3,none⟩=some (.int .i64 r.f)∧w'.cell? ⟨b,o+k*3+1,none⟩=some (.int .i64 r.t)∧w'.cell? ⟨b,o+k*3+2,none⟩=some (.string r.s))
    (first
     | go_keep
     | (go_split_ands
        refine ⟨?_,?_,?_⟩
        ·(rw [hgrow.cell_far _ (by simp;omega) (Ne.symm ab)];assumption)
        ·(rw [hgrow.cell_far _ (by simp;omega) (Ne.symm ab)];assumption)
        ·(rw [hgrow.cell_far _ (by simp;omega) (Ne.symm ab)];assumption)))
    ((refine step_append_lies _ (by rfl) _ _ _ (by rfl) w.heap.size 77 i0 _ 3 32 Tryz.underlying55 hi0 hz0 hz1 hz2 rfl (by omega) u3 k _ (by rfl) ((hown.alloc _).drew)
        ⟨wr.heap.size,0,none⟩ 1 1 [.int .i64 r.f,.int .i64 r.t,.string r.s] (by rfl) (by rfl) (World.news_of_block (cs:=#[.int .i64 r.f,.int .i64 r.t,.string r.s]) (t:=77) (fr:=(0,0)) (heap_alloc_new wr _)) (by simp [Value.oneCell'])
        (by omega) (by unfold maxLen;omega) (by omega) (by simp;omega) (wr.heap.size+1) (by simp) ?_;intro gg cap w1 hown1 hgrow hat hlt))
   go_wp2
   refine ⟨⟨k+1,by omega,by go_num,?_,((hB.alloc hsz _).drew).grown hgrow (by simp;omega) (fun k hk=>(hown.lt k hk).1)⟩,by simp [intOf];omega⟩
   show w1.ownsRow _ _ _ _ _ _
   rw [HR.out]
   exact hown1
  ·have hkl:k=L.length:=by omega
   have HQ:=hide (show wr.ownsRow w.heap.size 77 3 u3 L.length (L.flatMap Rw.vals) by have:=HO.out;rwa [hkl,List.take_of_length_le (Nat.le_refl _)] at this)
   clear hkl
   go_wp2_with fail
   go_ret
   exact ⟨_,rfl,HQ.out,hB⟩
end Go.Proofs.YtbmebfgapjhchaaGreatDoor.Ed
/- What the document's edits do to a text. -/
namespace Go.Proofs.YtbmebfgapjhchaaGreatDoor.Ed
open Go.RowKit
open EM
def IsE (w:World) (v:Value) (n:Nat) (I:Nat→By) (O:Nat→Bool):Prop :=
 ∃ (ao:Option Addr) (c1:Nat) (g2 c2:Nat),v=.agg #[.int .i64 n,.slice ao n c1,.slice (some ⟨g2,0,none⟩) (n+1) c2]∧n≤c1∧n+1≤c2 ∧
  (∀ g,g<n→∃ g1,ao=some ⟨g1,0,none⟩∧w.cell? ⟨g1,g,none⟩=some (.bool (O g)))∧(∀ g,g≤n→w.cell? ⟨g2,g,none⟩=some (.string (ba (I g))))
def dpre (x:By) (I:Nat→By) (O:Nat→Bool) (k:Nat):By:=(List.range k).flatMap fun g=>I g++(if O g then [] else (x.drop g).take 1)
theorem dpre_succ (x:By) (I:Nat→By) (O:Nat→Bool) (k:Nat):dpre x I O (k+1)=dpre x I O k++I k++(if O k then [] else (x.drop k).take 1):=by
 unfold dpre;rw [List.range_succ,List.flatMap_append];simp [List.append_assoc]
theorem dpre_mono (x:By) (I:Nat→By) (O:Nat→Bool) {k m:Nat} (h:k≤m):(dpre x I O k).length≤(dpre x I O m).length:=by
 induction m with
 | zero =>
  have:k=0:=by omega
  subst this
  exact Nat.le_refl _
 | succ m ih =>
  rcases Nat.lt_or_ge k (m+1) with h1|h1
  ·have:=ih (by omega);rw [dpre_succ];simp only [List.length_append];omega
  ·obtain rfl:k=m+1:=by omega
   exact Nat.le_refl _
theorem ba_append (a b:By):ba a++ba b=ba (a++b):=bs_inj (by rw [bs_append,bs_ba,bs_ba,bs_ba])
theorem ba_cut1 (s:ByteArray) (k:Nat):s.extract k (k+1)=ba (((bs s).drop k).take 1):=bs_inj (by rw [bs_cut,bs_ba,List.take_drop])
set_option maxHeartbeats 1000000 in
theorem does_any (s:ByteArray) (v:Value) (n:Nat) (I:Nat→By) (O:Nat→Bool) (w:World) (h:IsE w v n I O) (hs:s.size=n) (hn:n≤1048576) (hb:(does (bs s) I O).length≤1125899906842624) :
  Calls Tryz.prog 31 #[.string s,v] w fun e w'=>e=.returned (.string (ba (does (bs s) I O)))∧Below w.heap.size w w':=by
 have hl:=bs_len s
 have e0:does (bs s) I O=dpre (bs s) I O (n+1):=by unfold does dpre;rw [hl,hs]
 rw [e0] at hb ⊢
 obtain ⟨ao,c1,g2,c2,rfl,l1,l2,h1,h2⟩:=h
 have hg2:=World.block_lt_of_cell? w _ (h2 0 (by omega))
 have H1:=hide h1
 have H2:=hide h2
 have HB:=hide hb
 clear h1 h2 hb e0 hl
 go_enter Tryz.func31,Tryz.ntmps31
 go_wp2_with fail
 go_loop [5,6] (fun o i=>∃ k:Nat,k≤n+1∧i=.int .i64 k∧o=.string (ba (dpre (bs s) I O k))) (fun _ i=>n+1 - (intOf i).toNat)
 case atStart=>exact ⟨0,Nat.zero_le _,rfl,rfl⟩
 case round =>
  obtain ⟨k,hk,rfl,rfl⟩:=hrel
  by_cases hlt:k≤n
  ·have q2:=(H2.out) k hlt
   have b1:=dpre_mono (bs s) I O (show k+1≤n+1 by omega)
   have b2:=HB.out
   have b3:=dpre_succ (bs s) I O k
   have b4:=congrArg List.length b3
   simp only [List.length_append] at b4
   have HD:=hide b3
   have s1:=ba_size (dpre (bs s) I O k)
   have s2:=ba_size (I k)
   have z1:(ba (dpre (bs s) I O k)).size≤1125899906842624:=by omega
   have z2:(ba (I k)).size≤1125899906842624:=by omega
   clear b1 b2 b3 b4 s1 s2
   by_cases hlt2:k<n
   ·obtain ⟨g1,rfl,q1⟩:=(H1.out) k hlt2
    have hg1:=World.block_lt_of_cell? w _ q1
    cases hO:O k with
    | false =>
     rw [hO] at q1
     go_wp2_with fail
     refine ⟨⟨k+1,by omega,by go_num,?_⟩,by simp [intOf];omega⟩
     rw [HD.out,hO,ba_append,ba_cut1,ba_append];rfl
    | true =>
     rw [hO] at q1
     go_wp2_with fail
     refine ⟨⟨k+1,by omega,by go_num,?_⟩,by simp [intOf];omega⟩
     rw [HD.out,hO,ba_append];simp
   ·have hkn:(bs s).drop k=[]:=List.drop_eq_nil_of_le (by rw [bs_len];omega)
    have HK:=hide hkn
    clear hkn
    go_wp2_with fail
    refine ⟨⟨k+1,by omega,by go_num,?_⟩,by simp [intOf];omega⟩
    rw [HD.out,HK.out,ba_append];simp
  ·have hkn:k=n+1:=by omega
   have z:¬(k:Int)≤(n:Int):=by omega
   go_wp2_with fail
   go_ret
   exact ⟨rfl,(Below.refl _ _).alloc (Nat.le_refl _) _⟩
end Go.Proofs.YtbmebfgapjhchaaGreatDoor.Ed
