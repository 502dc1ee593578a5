/- The document's reader: rows of signs. -/
import Derived.Test.YtgpcpbmacdhlkaaGreatDoorZg
import Derived.Test.YtgpcpbmacdhlkaaGreatDoorYd
namespace Go.Proofs.YtgpcpbmacdhlkaaGreatDoor
open Go.RowKit
open M
set_option maxRecDepth 100000 in
set_option maxHeartbeats 1000000 in
theorem rlevel3_any (s:ByteArray) (L:List Tk) (dp:Nat) (hS:TokS s L) (E:X.R) (hE:ReadsM 97 E (fun _=>True) s L dp) (hC:X.Cap E 1) (hSh:X.Shr E):GivesM 98 (fun r=>#[r,.int .i64 3]) (X.call E) s L dp:=by
 intro rb tv a w h
 have HO:=hide (rcall_any s L dp hS E hE hC hSh rb tv a w h)
 clear h
 go_enter Tryz.func98,Tryz.ntmps98
 go_wp2_with fail
 refine (HO.out).mono ?_
 rintro e w1 ⟨N,p,rfl,HP,HG⟩
 go_wp2_with fail
 go_ret
 exact ⟨N,p,rfl,HP,HG⟩
theorem GvM.begin {w wr:World} {rb:Nat} {s:ByteArray} {L:List Tk} {tv:Value} {dp N:Nat} {p:X.Part} {ts1:List X.Tok} (hr:rb<w.heap.size) (ht:∀ q,tv.ownBlock=some q→q<w.heap.size) (h:GvM w rb s L tv dp p ts1 N wr) (k:Nat) :
  DnM ((wr.alloc (.cells #[.pointer (some ⟨N,0,none⟩)] 52)).alloc (mcell k 0 [] (.slice (some ⟨wr.heap.size,0,none⟩) 1 1) 0 0 0 0 false)) rb s L tv dp w.heap.size (wr.heap.size+1) k (.slice (some ⟨wr.heap.size,0,none⟩) 1 1) [p] ts1 ((wr.alloc (.cells #[.pointer (some ⟨N,0,none⟩)] 52)).alloc (mcell k 0 [] (.slice (some ⟨wr.heap.size,0,none⟩) 1 1) 0 0 0 0 false)) ∧
  On rb w ((wr.alloc (.cells #[.pointer (some ⟨N,0,none⟩)] 52)).alloc (mcell k 0 [] (.slice (some ⟨wr.heap.size,0,none⟩) 1 1) 0 0 0 0 false))∧w.heap.size≤wr.heap.size:=by
 obtain ⟨a1,g1,rfl,g3,g4⟩:=h
 have kB:Below wr.heap.size wr ((wr.alloc (.cells #[.pointer (some ⟨N,0,none⟩)] 52)).alloc (mcell k 0 [] (.slice (some ⟨wr.heap.size,0,none⟩) 1 1) 0 0 0 0 false)):=((Below.refl _ wr).alloc (Nat.le_refl _) _).alloc (by simp) _
 exact ⟨DnM.refl ⟨g1.below kB,Mk.one g3 (Nat.le_refl _),hr,ht⟩,g4.to (On.ofBelow rb kB),g4.size⟩
set_option maxRecDepth 100000 in
set_option maxHeartbeats 2000000 in
theorem rlevel2_any (s:ByteArray) (L:List Tk) (dp:Nat) (hS:TokS s L) (E:X.R) (hO:GivesM 98 (fun r=>#[r,.int .i64 3]) (X.call E) s L dp) (hSh:X.Shr (X.call E)):GivesM 98 (fun r=>#[r,.int .i64 2]) (X.product E) s L dp:=by
 intro rb tv a w h
 obtain ⟨i0,hi0,hz0,hz1,hz2⟩:=info_parts infoM
 have hl2:=hS.len
 have hrl:=h.lt
 have HTV:Hid (∀ q,tv.ownBlock=some q→q<w.heap.size):=fun q e=>(h.own q e).2
 have HO:=hide (hO rb tv a w h)
 have hal:(remT s L a).length≤L.length:=by unfold remT;rw [List.length_map,List.length_drop];omega
 clear h
 go_enter Tryz.func98,Tryz.ntmps98
 go_wp2_with fail
 refine (HO.out).mono ?_
 rintro e w1 ⟨N,p,rfl,HP,HG⟩
 have HE0:Hid ((X.product E) (remT s L a)=X.rowL (X.call E) (X.isN [42]) [p] ((X.call E) (remT s L a)).2):=by
  show X.row (X.call E) (X.isN [42]) (remT s L a)=_
  rw [X.row_eq,HP.out]
 have hle0:=hSh.le (remT s L a)
 generalize hr1:((X.call E) (remT s L a)).2=ts0 at *
 clear HO HP hr1
 go_wp2_with fail
 go_loopw [6] (fun v wr=>∃ (N:Nat) (p:X.Part) (ts1:List X.Tok),v=.pointer (some ⟨N,0,none⟩)∧ts1.length≤L.length∧Hid (GvM w rb s L tv dp p ts1 N wr)∧Hid ((X.product E) (remT s L a)=X.rowL (X.call E) (X.isN [42]) [p] ts1)) (fun _ wr=>L.length - atM rb wr)
 case atStart=>exact ⟨N,p,ts0,rfl,by omega,HG,HE0⟩
 case round =>
  clear HG HE0
  obtain ⟨N,p,ts1,rfl,htl,HG0,HEq⟩:=hrel
  have hat:=(HG0.out).at
  go_wp2_with fail
  refine ((HG0.out).is hS [42]).mono ?_
  rintro e v1 ⟨rfl,HG1⟩
  clear HG0
  cases ha:X.isN [42] ts1 with
  | false =>
   have HEn:Hid ((X.product E) (remT s L a)=([p],ts1)):=(HEq.out).trans (X.rowL_no ha)
   go_wp2_with fail
   go_ret
   exact ⟨N,p,rfl,(by rw [HEn.out];rfl),(by rw [HEn.out];exact HG1)⟩
  | true =>
   have HEn:=hide ((HEq.out).trans (X.rowL_yes hSh (fun _ hc=>X.isN_next hc) (p:=[p]) (ts:=ts1) ha))
   have hnx:=X.isN_next ha
   have htk:=X.take_lt hnx
   have htl2:=X.take_len ts1
   obtain ⟨HB1,HB2,HB3⟩:=((HG1.out).begin hrl HTV.out 10:_)
   have HD0:=hide HB1
   have HON:=hide HB2
   clear HB1 HB2 HG1 HEq
   go_wp2_with fail
   refine ((HD0.out).go (rtake_any s L dp hS) (by simp only [List.length_singleton];omega)).mono ?_
   rintro e w4 ⟨rfl,H4⟩
   obtain ⟨a4,rv4,vs4,Lo4,Hi4,m1,m2,m3,m4⟩:=H4.out
   have HW4:=hide m1
   have HM3:=hide m3
   have HM4:=hide m4
   have HL:=hide (hO rb tv a4 w4 m1.rdr)
   rw [m2] at HL
   clear m1 m2 m3 m4 H4 HD0
   go_wp2_with fail
   refine (HL.out).mono ?_
   rintro e w5 ⟨N2,p2,rfl,HP2,HG5⟩
   have hsl:=hSh.le (X.take ts1).2
   obtain ⟨b3,f3,hbl,hlo,HN,HV,HRow⟩:=(HW4.out).forTake HG5.out
   have hvb:vs4.length≤1073741823:=by rw [HV.out,List.length_append,List.length_singleton];omega
   clear HL
   go_wp2_with (at_builtin;refine wpList_append_lies _ rfl _ _ 56 rfl w.heap.size 52 i0 _ 1 8 Tryz.underlying56 hi0 hz0 hz1 hz2 rfl (by decide) rv4 vs4.length _ rfl ((HRow.out).alloc _) ⟨w5.heap.size,0,none⟩ 1 1 [.pointer (some ⟨N2,0,none⟩)] rfl rfl (World.news_of_block (cs:=#[.pointer (some ⟨N2,0,none⟩)]) (heap_alloc_new w5 _)) (by simp [Value.oneCell']) (by omega) (by unfold maxLen;omega) (by omega) (by simp;omega) (w5.heap.size+1) (by simp) ?_;intro g cap5 w6 hown5 hgrow5 hat5 hlt5;have x1:w6.cell? ⟨v1.heap.size+1,3,none⟩=some rv4:=(hgrow5.cell_far ⟨v1.heap.size+1,3,none⟩ (by simp;omega) (HN.out)).trans (old1 hbl b3);have x2:w6.frozen? ⟨v1.heap.size+1,3,none⟩=false:=(hgrow5.frozen_far ⟨v1.heap.size+1,3,none⟩ (by simp;omega) (HN.out)).trans ((World.frozen?_alloc_old _ _ ⟨v1.heap.size+1,3,none⟩ (by simp;omega)).trans f3);have HX:=hide ((HW4.out).take HG5.out hgrow5 hown5 hat5);clear hown5 hgrow5)
   have HGn:=hide ((DnM.trans HM3.out HM4.out HX.out).closed HON.out (fun g hg=>by simp only [Value.ownBlock,Option.some.injEq] at hg;omega))
   have hat9:=(HGn.out).at
   refine ⟨⟨_,_,_,rfl,by omega,HGn,?_⟩,by rw [hat,hat9];omega⟩
   have h1:=HEn.out
   rw [show (X.andThen X.take (X.call E) ts1).1=(X.take ts1).1++[p2] by show _++_=_;rw [HP2.out],← List.append_assoc] at h1
   exact h1
set_option maxRecDepth 100000 in
set_option maxHeartbeats 2000000 in
theorem rlevel1_any (s:ByteArray) (L:List Tk) (dp:Nat) (hS:TokS s L) (E:X.R) (hO:GivesM 98 (fun r=>#[r,.int .i64 2]) (X.product E) s L dp) (hSh:X.Shr (X.product E)):GivesM 98 (fun r=>#[r,.int .i64 1]) (X.sum E) s L dp:=by
 intro rb tv a w h
 obtain ⟨i0,hi0,hz0,hz1,hz2⟩:=info_parts infoM
 have hl2:=hS.len
 have hrl:=h.lt
 have HTV:Hid (∀ q,tv.ownBlock=some q→q<w.heap.size):=fun q e=>(h.own q e).2
 have HO:=hide (hO rb tv a w h)
 have hal:(remT s L a).length≤L.length:=by unfold remT;rw [List.length_map,List.length_drop];omega
 clear h
 go_enter Tryz.func98,Tryz.ntmps98
 go_wp2_with fail
 refine (HO.out).mono ?_
 rintro e w1 ⟨N,p,rfl,HP,HG⟩
 have HE0:Hid ((X.sum E) (remT s L a)=X.rowL (X.product E) (fun ts=>X.isN [43] ts||X.isN [45] ts||X.isN [43,43] ts) [p] ((X.product E) (remT s L a)).2):=by
  show X.row (X.product E) (fun ts=>X.isN [43] ts||X.isN [45] ts||X.isN [43,43] ts) (remT s L a)=_
  rw [X.row_eq,HP.out]
 have hle0:=hSh.le (remT s L a)
 generalize hr1:((X.product E) (remT s L a)).2=ts0 at *
 clear HO HP hr1
 go_wp2_with fail
 go_loopw [6] (fun v wr=>∃ (N:Nat) (p:X.Part) (ts1:List X.Tok),v=.pointer (some ⟨N,0,none⟩)∧ts1.length≤L.length∧Hid (GvM w rb s L tv dp p ts1 N wr)∧Hid ((X.sum E) (remT s L a)=X.rowL (X.product E) (fun ts=>X.isN [43] ts||X.isN [45] ts||X.isN [43,43] ts) [p] ts1)) (fun _ wr=>L.length - atM rb wr)
 case atStart=>exact ⟨N,p,ts0,rfl,by omega,HG,HE0⟩
 case round =>
  clear HG HE0
  obtain ⟨N,p,ts1,rfl,htl,HG0,HEq⟩:=hrel
  have hat:=(HG0.out).at
  go_wp2_with fail
  refine ((HG0.out).is hS [43]).mono ?_
  rintro e v1 ⟨rfl,HG1⟩
  clear HG0
  go_wp2_with fail
  refine ((HG1.out).is hS [45]).mono ?_
  rintro e v2 ⟨rfl,HG2⟩
  clear HG1
  go_wp2_with fail
  refine ((HG2.out).is hS [43,43]).mono ?_
  rintro e v3 ⟨rfl,HG3⟩
  clear HG2
  cases ha:X.isN [43] ts1 with
  | true =>
   have HEn:=hide ((HEq.out).trans (X.rowL_yes hSh (fun _ hc=>by
     rcases (Bool.or_eq_true _ _).mp hc with h|h
     ·rcases (Bool.or_eq_true _ _).mp h with h|h<;>exact X.isN_next h
     ·exact X.isN_next h) (p:=[p]) (ts:=ts1) (show ((X.isN [43] ts1||X.isN [45] ts1||X.isN [43,43] ts1):Bool)=true by rw [ha];rfl)))
   have hnx:=X.isN_next ha
   have htk:=X.take_lt hnx
   have htl2:=X.take_len ts1
   obtain ⟨HB1,HB2,HB3⟩:=((HG3.out).begin hrl HTV.out 10:_)
   have HD0:=hide HB1
   have HON:=hide HB2
   clear HB1 HB2 HG3 HEq
   go_wp2_with fail
   refine ((HD0.out).go (rtake_any s L dp hS) (by simp only [List.length_singleton];omega)).mono ?_
   rintro e w4 ⟨rfl,H4⟩
   obtain ⟨a4,rv4,vs4,Lo4,Hi4,m1,m2,m3,m4⟩:=H4.out
   have HW4:=hide m1
   have HM3:=hide m3
   have HM4:=hide m4
   have HL:=hide (hO rb tv a4 w4 m1.rdr)
   rw [m2] at HL
   clear m1 m2 m3 m4 H4 HD0
   go_wp2_with fail
   refine (HL.out).mono ?_
   rintro e w5 ⟨N2,p2,rfl,HP2,HG5⟩
   have hsl:=hSh.le (X.take ts1).2
   obtain ⟨b3,f3,hbl,hlo,HN,HV,HRow⟩:=(HW4.out).forTake HG5.out
   have hvb:vs4.length≤1073741823:=by rw [HV.out,List.length_append,List.length_singleton];omega
   clear HL
   go_wp2_with (at_builtin;refine wpList_append_lies _ rfl _ _ 56 rfl w.heap.size 52 i0 _ 1 8 Tryz.underlying56 hi0 hz0 hz1 hz2 rfl (by decide) rv4 vs4.length _ rfl ((HRow.out).alloc _) ⟨w5.heap.size,0,none⟩ 1 1 [.pointer (some ⟨N2,0,none⟩)] rfl rfl (World.news_of_block (cs:=#[.pointer (some ⟨N2,0,none⟩)]) (heap_alloc_new w5 _)) (by simp [Value.oneCell']) (by omega) (by unfold maxLen;omega) (by omega) (by simp;omega) (w5.heap.size+1) (by simp) ?_;intro g cap5 w6 hown5 hgrow5 hat5 hlt5;have x1:w6.cell? ⟨v3.heap.size+1,3,none⟩=some rv4:=(hgrow5.cell_far ⟨v3.heap.size+1,3,none⟩ (by simp;omega) (HN.out)).trans (old1 hbl b3);have x2:w6.frozen? ⟨v3.heap.size+1,3,none⟩=false:=(hgrow5.frozen_far ⟨v3.heap.size+1,3,none⟩ (by simp;omega) (HN.out)).trans ((World.frozen?_alloc_old _ _ ⟨v3.heap.size+1,3,none⟩ (by simp;omega)).trans f3);have HX:=hide ((HW4.out).take HG5.out hgrow5 hown5 hat5);clear hown5 hgrow5)
   have HGn:=hide ((DnM.trans HM3.out HM4.out HX.out).closed HON.out (fun g hg=>by simp only [Value.ownBlock,Option.some.injEq] at hg;omega))
   have hat9:=(HGn.out).at
   refine ⟨⟨_,_,_,rfl,by omega,HGn,?_⟩,by rw [hat,hat9];omega⟩
   have h1:=HEn.out
   rw [show (X.andThen X.take (X.product E) ts1).1=(X.take ts1).1++[p2] by show _++_=_;rw [HP2.out],← List.append_assoc] at h1
   exact h1
  | false =>
   cases hb:X.isN [45] ts1 with
   | true =>
    have HEn:=hide ((HEq.out).trans (X.rowL_yes hSh (fun _ hc=>by
      rcases (Bool.or_eq_true _ _).mp hc with h|h
      ·rcases (Bool.or_eq_true _ _).mp h with h|h<;>exact X.isN_next h
      ·exact X.isN_next h) (p:=[p]) (ts:=ts1) (show ((X.isN [43] ts1||X.isN [45] ts1||X.isN [43,43] ts1):Bool)=true by rw [ha,hb];rfl)))
    have hnx:=X.isN_next hb
    have htk:=X.take_lt hnx
    have htl2:=X.take_len ts1
    obtain ⟨HB1,HB2,HB3⟩:=((HG3.out).begin hrl HTV.out 10:_)
    have HD0:=hide HB1
    have HON:=hide HB2
    clear HB1 HB2 HG3 HEq
    go_wp2_with fail
    refine ((HD0.out).go (rtake_any s L dp hS) (by simp only [List.length_singleton];omega)).mono ?_
    rintro e w4 ⟨rfl,H4⟩
    obtain ⟨a4,rv4,vs4,Lo4,Hi4,m1,m2,m3,m4⟩:=H4.out
    have HW4:=hide m1
    have HM3:=hide m3
    have HM4:=hide m4
    have HL:=hide (hO rb tv a4 w4 m1.rdr)
    rw [m2] at HL
    clear m1 m2 m3 m4 H4 HD0
    go_wp2_with fail
    refine (HL.out).mono ?_
    rintro e w5 ⟨N2,p2,rfl,HP2,HG5⟩
    have hsl:=hSh.le (X.take ts1).2
    obtain ⟨b3,f3,hbl,hlo,HN,HV,HRow⟩:=(HW4.out).forTake HG5.out
    have hvb:vs4.length≤1073741823:=by rw [HV.out,List.length_append,List.length_singleton];omega
    clear HL
    go_wp2_with (at_builtin;refine wpList_append_lies _ rfl _ _ 56 rfl w.heap.size 52 i0 _ 1 8 Tryz.underlying56 hi0 hz0 hz1 hz2 rfl (by decide) rv4 vs4.length _ rfl ((HRow.out).alloc _) ⟨w5.heap.size,0,none⟩ 1 1 [.pointer (some ⟨N2,0,none⟩)] rfl rfl (World.news_of_block (cs:=#[.pointer (some ⟨N2,0,none⟩)]) (heap_alloc_new w5 _)) (by simp [Value.oneCell']) (by omega) (by unfold maxLen;omega) (by omega) (by simp;omega) (w5.heap.size+1) (by simp) ?_;intro g cap5 w6 hown5 hgrow5 hat5 hlt5;have x1:w6.cell? ⟨v3.heap.size+1,3,none⟩=some rv4:=(hgrow5.cell_far ⟨v3.heap.size+1,3,none⟩ (by simp;omega) (HN.out)).trans (old1 hbl b3);have x2:w6.frozen? ⟨v3.heap.size+1,3,none⟩=false:=(hgrow5.frozen_far ⟨v3.heap.size+1,3,none⟩ (by simp;omega) (HN.out)).trans ((World.frozen?_alloc_old _ _ ⟨v3.heap.size+1,3,none⟩ (by simp;omega)).trans f3);have HX:=hide ((HW4.out).take HG5.out hgrow5 hown5 hat5);clear hown5 hgrow5)
    have HGn:=hide ((DnM.trans HM3.out HM4.out HX.out).closed HON.out (fun g hg=>by simp only [Value.ownBlock,Option.some.injEq] at hg;omega))
    have hat9:=(HGn.out).at
    refine ⟨⟨_,_,_,rfl,by omega,HGn,?_⟩,by rw [hat,hat9];omega⟩
    have h1:=HEn.out
    rw [show (X.andThen X.take (X.product E) ts1).1=(X.take ts1).1++[p2] by show _++_=_;rw [HP2.out],← List.append_assoc] at h1
    exact h1
   | false =>
    cases hc:X.isN [43,43] ts1 with
    | true =>
     have HEn:=hide ((HEq.out).trans (X.rowL_yes hSh (fun _ hc=>by
       rcases (Bool.or_eq_true _ _).mp hc with h|h
       ·rcases (Bool.or_eq_true _ _).mp h with h|h<;>exact X.isN_next h
       ·exact X.isN_next h) (p:=[p]) (ts:=ts1) (show ((X.isN [43] ts1||X.isN [45] ts1||X.isN [43,43] ts1):Bool)=true by rw [ha,hb,hc];rfl)))
     have hnx:=X.isN_next hc
     have htk:=X.take_lt hnx
     have htl2:=X.take_len ts1
     obtain ⟨HB1,HB2,HB3⟩:=((HG3.out).begin hrl HTV.out 10:_)
     have HD0:=hide HB1
     have HON:=hide HB2
     clear HB1 HB2 HG3 HEq
     go_wp2_with fail
     refine ((HD0.out).go (rtake_any s L dp hS) (by simp only [List.length_singleton];omega)).mono ?_
     rintro e w4 ⟨rfl,H4⟩
     obtain ⟨a4,rv4,vs4,Lo4,Hi4,m1,m2,m3,m4⟩:=H4.out
     have HW4:=hide m1
     have HM3:=hide m3
     have HM4:=hide m4
     have HL:=hide (hO rb tv a4 w4 m1.rdr)
     rw [m2] at HL
     clear m1 m2 m3 m4 H4 HD0
     go_wp2_with fail
     refine (HL.out).mono ?_
     rintro e w5 ⟨N2,p2,rfl,HP2,HG5⟩
     have hsl:=hSh.le (X.take ts1).2
     obtain ⟨b3,f3,hbl,hlo,HN,HV,HRow⟩:=(HW4.out).forTake HG5.out
     have hvb:vs4.length≤1073741823:=by rw [HV.out,List.length_append,List.length_singleton];omega
     clear HL
     go_wp2_with (at_builtin;refine wpList_append_lies _ rfl _ _ 56 rfl w.heap.size 52 i0 _ 1 8 Tryz.underlying56 hi0 hz0 hz1 hz2 rfl (by decide) rv4 vs4.length _ rfl ((HRow.out).alloc _) ⟨w5.heap.size,0,none⟩ 1 1 [.pointer (some ⟨N2,0,none⟩)] rfl rfl (World.news_of_block (cs:=#[.pointer (some ⟨N2,0,none⟩)]) (heap_alloc_new w5 _)) (by simp [Value.oneCell']) (by omega) (by unfold maxLen;omega) (by omega) (by simp;omega) (w5.heap.size+1) (by simp) ?_;intro g cap5 w6 hown5 hgrow5 hat5 hlt5;have x1:w6.cell? ⟨v3.heap.size+1,3,none⟩=some rv4:=(hgrow5.cell_far ⟨v3.heap.size+1,3,none⟩ (by simp;omega) (HN.out)).trans (old1 hbl b3);have x2:w6.frozen? ⟨v3.heap.size+1,3,none⟩=false:=(hgrow5.frozen_far ⟨v3.heap.size+1,3,none⟩ (by simp;omega) (HN.out)).trans ((World.frozen?_alloc_old _ _ ⟨v3.heap.size+1,3,none⟩ (by simp;omega)).trans f3);have HX:=hide ((HW4.out).take HG5.out hgrow5 hown5 hat5);clear hown5 hgrow5)
     have HGn:=hide ((DnM.trans HM3.out HM4.out HX.out).closed HON.out (fun g hg=>by simp only [Value.ownBlock,Option.some.injEq] at hg;omega))
     have hat9:=(HGn.out).at
     refine ⟨⟨_,_,_,rfl,by omega,HGn,?_⟩,by rw [hat,hat9];omega⟩
     have h1:=HEn.out
     rw [show (X.andThen X.take (X.product E) ts1).1=(X.take ts1).1++[p2] by show _++_=_;rw [HP2.out],← List.append_assoc] at h1
     exact h1
    | false =>
     have HEn:Hid ((X.sum E) (remT s L a)=([p],ts1)):=(HEq.out).trans (X.rowL_no (by simp only [ha,hb,hc,Bool.or_self]))
     go_wp2_with fail
     go_ret
     exact ⟨N,p,rfl,(by rw [HEn.out];rfl),(by rw [HEn.out];exact HG3)⟩
set_option maxRecDepth 100000 in
set_option maxHeartbeats 2000000 in
theorem rlevel0_any (s:ByteArray) (L:List Tk) (dp:Nat) (hS:TokS s L) (E:X.R) (hO:GivesM 98 (fun r=>#[r,.int .i64 1]) (X.sum E) s L dp) (hSh:X.Shr (X.sum E)):GivesM 98 (fun r=>#[r,.int .i64 0]) (X.comparison E) s L dp:=by
 intro rb tv a w h
 obtain ⟨i0,hi0,hz0,hz1,hz2⟩:=info_parts infoM
 have hl2:=hS.len
 have hrl:=h.lt
 have HTV:Hid (∀ q,tv.ownBlock=some q→q<w.heap.size):=fun q e=>(h.own q e).2
 have HO:=hide (hO rb tv a w h)
 have hal:(remT s L a).length≤L.length:=by unfold remT;rw [List.length_map,List.length_drop];omega
 clear h
 go_enter Tryz.func98,Tryz.ntmps98
 go_wp2_with fail
 refine (HO.out).mono ?_
 rintro e w1 ⟨N,p,rfl,HP,HG⟩
 have HE0:Hid ((X.sum E) (remT s L a)=([p],((X.sum E) (remT s L a)).2)):=by
  show _=_
  rw [← HP.out]
 have hle0:=hSh.le (remT s L a)
 generalize hr1:((X.sum E) (remT s L a)).2=ts0 at *
 clear HO HP hr1
 go_wp2_with fail
 go_loopw [6] (fun v wr=>∃ (N:Nat) (p:X.Part) (ts1:List X.Tok),v=.pointer (some ⟨N,0,none⟩)∧ts1.length≤L.length∧Hid (GvM w rb s L tv dp p ts1 N wr)∧Hid ((X.sum E) (remT s L a)=([p],ts1))) (fun _ wr=>L.length - atM rb wr)
 case atStart=>exact ⟨N,p,ts0,rfl,by omega,HG,HE0⟩
 case round =>
  clear HG HE0
  obtain ⟨N,p,ts1,rfl,htl,HG0,HEq⟩:=hrel
  have hat:=(HG0.out).at
  go_wp2_with fail
  refine ((HG0.out).is hS [61,61]).mono ?_
  rintro e v1 ⟨rfl,HG1⟩
  clear HG0
  go_wp2_with fail
  refine ((HG1.out).is hS [60]).mono ?_
  rintro e v2 ⟨rfl,HG2⟩
  clear HG1
  cases ha:X.isN [61,61] ts1 with
  | true =>
   have HEn:Hid ((X.comparison E) (remT s L a)=([.br 10 ([p]++((X.take ts1).1++((X.sum E) (X.take ts1).2).1))],((X.sum E) (X.take ts1).2).2)):=by
    have e0:=HEq.out
    show _=_
    rw [X.comparison_yes (by rw [e0];exact (show ((X.isN [61,61] ts1||X.isN [60] ts1):Bool)=true by rw [ha];rfl)),e0]
   have hnx:=X.isN_next ha
   have htk:=X.take_lt hnx
   have htl2:=X.take_len ts1
   obtain ⟨HB1,HB2,HB3⟩:=((HG2.out).begin hrl HTV.out 10:_)
   have HD0:=hide HB1
   have HON:=hide HB2
   clear HB1 HB2 HG2 HEq
   go_wp2_with fail
   refine ((HD0.out).go (rtake_any s L dp hS) (by simp only [List.length_singleton];omega)).mono ?_
   rintro e w4 ⟨rfl,H4⟩
   obtain ⟨a4,rv4,vs4,Lo4,Hi4,m1,m2,m3,m4⟩:=H4.out
   have HW4:=hide m1
   have HM3:=hide m3
   have HM4:=hide m4
   have HL:=hide (hO rb tv a4 w4 m1.rdr)
   rw [m2] at HL
   clear m1 m2 m3 m4 H4 HD0
   go_wp2_with fail
   refine (HL.out).mono ?_
   rintro e w5 ⟨N2,p2,rfl,HP2,HG5⟩
   have hsl:=hSh.le (X.take ts1).2
   obtain ⟨b3,f3,hbl,hlo,HN,HV,HRow⟩:=(HW4.out).forTake HG5.out
   have hvb:vs4.length≤1073741823:=by rw [HV.out,List.length_append,List.length_singleton];omega
   clear HL
   go_wp2_with (at_builtin;refine wpList_append_lies _ rfl _ _ 56 rfl w.heap.size 52 i0 _ 1 8 Tryz.underlying56 hi0 hz0 hz1 hz2 rfl (by decide) rv4 vs4.length _ rfl ((HRow.out).alloc _) ⟨w5.heap.size,0,none⟩ 1 1 [.pointer (some ⟨N2,0,none⟩)] rfl rfl (World.news_of_block (cs:=#[.pointer (some ⟨N2,0,none⟩)]) (heap_alloc_new w5 _)) (by simp [Value.oneCell']) (by omega) (by unfold maxLen;omega) (by omega) (by simp;omega) (w5.heap.size+1) (by simp) ?_;intro g cap5 w6 hown5 hgrow5 hat5 hlt5;have x1:w6.cell? ⟨v2.heap.size+1,3,none⟩=some rv4:=(hgrow5.cell_far ⟨v2.heap.size+1,3,none⟩ (by simp;omega) (HN.out)).trans (old1 hbl b3);have x2:w6.frozen? ⟨v2.heap.size+1,3,none⟩=false:=(hgrow5.frozen_far ⟨v2.heap.size+1,3,none⟩ (by simp;omega) (HN.out)).trans ((World.frozen?_alloc_old _ _ ⟨v2.heap.size+1,3,none⟩ (by simp;omega)).trans f3);have HX:=hide ((HW4.out).take HG5.out hgrow5 hown5 hat5);clear hown5 hgrow5)
   have HGn:=hide ((DnM.trans HM3.out HM4.out HX.out).closed HON.out (fun g hg=>by simp only [Value.ownBlock,Option.some.injEq] at hg;omega))
   have hat9:=(HGn.out).at
   go_ret
   exact ⟨_,.br 10 ([p]++(X.take ts1).1++[p2]),rfl,(by show (X.comparison E (remT s L a)).1=_;rw [HEn.out,HP2.out,← List.append_assoc]),(by rw [HEn.out];exact HGn)⟩
  | false =>
   cases hb:X.isN [60] ts1 with
   | true =>
    have HEn:Hid ((X.comparison E) (remT s L a)=([.br 10 ([p]++((X.take ts1).1++((X.sum E) (X.take ts1).2).1))],((X.sum E) (X.take ts1).2).2)):=by
     have e0:=HEq.out
     show _=_
     rw [X.comparison_yes (by rw [e0];exact (show ((X.isN [61,61] ts1||X.isN [60] ts1):Bool)=true by rw [ha,hb];rfl)),e0]
    have hnx:=X.isN_next hb
    have htk:=X.take_lt hnx
    have htl2:=X.take_len ts1
    obtain ⟨HB1,HB2,HB3⟩:=((HG2.out).begin hrl HTV.out 10:_)
    have HD0:=hide HB1
    have HON:=hide HB2
    clear HB1 HB2 HG2 HEq
    go_wp2_with fail
    refine ((HD0.out).go (rtake_any s L dp hS) (by simp only [List.length_singleton];omega)).mono ?_
    rintro e w4 ⟨rfl,H4⟩
    obtain ⟨a4,rv4,vs4,Lo4,Hi4,m1,m2,m3,m4⟩:=H4.out
    have HW4:=hide m1
    have HM3:=hide m3
    have HM4:=hide m4
    have HL:=hide (hO rb tv a4 w4 m1.rdr)
    rw [m2] at HL
    clear m1 m2 m3 m4 H4 HD0
    go_wp2_with fail
    refine (HL.out).mono ?_
    rintro e w5 ⟨N2,p2,rfl,HP2,HG5⟩
    have hsl:=hSh.le (X.take ts1).2
    obtain ⟨b3,f3,hbl,hlo,HN,HV,HRow⟩:=(HW4.out).forTake HG5.out
    have hvb:vs4.length≤1073741823:=by rw [HV.out,List.length_append,List.length_singleton];omega
    clear HL
    go_wp2_with (at_builtin;refine wpList_append_lies _ rfl _ _ 56 rfl w.heap.size 52 i0 _ 1 8 Tryz.underlying56 hi0 hz0 hz1 hz2 rfl (by decide) rv4 vs4.length _ rfl ((HRow.out).alloc _) ⟨w5.heap.size,0,none⟩ 1 1 [.pointer (some ⟨N2,0,none⟩)] rfl rfl (World.news_of_block (cs:=#[.pointer (some ⟨N2,0,none⟩)]) (heap_alloc_new w5 _)) (by simp [Value.oneCell']) (by omega) (by unfold maxLen;omega) (by omega) (by simp;omega) (w5.heap.size+1) (by simp) ?_;intro g cap5 w6 hown5 hgrow5 hat5 hlt5;have x1:w6.cell? ⟨v2.heap.size+1,3,none⟩=some rv4:=(hgrow5.cell_far ⟨v2.heap.size+1,3,none⟩ (by simp;omega) (HN.out)).trans (old1 hbl b3);have x2:w6.frozen? ⟨v2.heap.size+1,3,none⟩=false:=(hgrow5.frozen_far ⟨v2.heap.size+1,3,none⟩ (by simp;omega) (HN.out)).trans ((World.frozen?_alloc_old _ _ ⟨v2.heap.size+1,3,none⟩ (by simp;omega)).trans f3);have HX:=hide ((HW4.out).take HG5.out hgrow5 hown5 hat5);clear hown5 hgrow5)
    have HGn:=hide ((DnM.trans HM3.out HM4.out HX.out).closed HON.out (fun g hg=>by simp only [Value.ownBlock,Option.some.injEq] at hg;omega))
    have hat9:=(HGn.out).at
    go_ret
    exact ⟨_,.br 10 ([p]++(X.take ts1).1++[p2]),rfl,(by show (X.comparison E (remT s L a)).1=_;rw [HEn.out,HP2.out,← List.append_assoc]),(by rw [HEn.out];exact HGn)⟩
   | false =>
    have HEn:Hid ((X.comparison E) (remT s L a)=([p],ts1)):=by
     show _=_
     rw [X.comparison_no (by rw [HEq.out];simp only [ha,hb,Bool.or_self]),HEq.out]
    go_wp2_with fail
    go_ret
    exact ⟨N,p,rfl,(by rw [HEn.out];rfl),(by rw [HEn.out];exact HG2)⟩
end Go.Proofs.YtgpcpbmacdhlkaaGreatDoor
/- The document's reader: expressions. -/
namespace Go.Proofs.YtgpcpbmacdhlkaaGreatDoor
open Go.RowKit
open M
theorem WkM.cut {w:World} {rb:Nat} {s:ByteArray} {L:List Tk} {tv:Value} {a dp lo B k:Nat} {rv:Value} {vs:List Value} {ps:List X.Part} {Lo Hi:Nat→Nat} (h:WkM w rb s L tv a dp lo B k rv vs ps Lo Hi) (y:Bool):WkM (w.setCell ⟨rb,4,none⟩ (.bool y)) rb s L tv a dp lo B k rv vs ps Lo Hi:=by
 obtain ⟨c,hr⟩:=h.rdr.raw
 have hon:On rb w (w.setCell ⟨rb,4,none⟩ (.bool y)):=On.set (Kp.refl _ w) 4 _
 exact h.moved hon (h.rdr.moved hon (hr.set4 y) h.rdr.le)
theorem WkM.missedAt {w w5:World} {rb:Nat} {s:ByteArray} {L:List Tk} {tv:Value} {a dp lo B k:Nat} {rv:Value} {vs:List Value} {ps:List X.Part} {Lo Hi:Nat→Nat} {g cap H:Nat} (h:WkM w rb s L tv a dp lo B k rv vs ps Lo Hi) (x:List UInt8) (hH:w.heap.size=H)
  (hgrow:((w.alloc (mcell 1 0 x (.slice none 0 0) 0 0 0 0 false)).alloc (.cells #[.pointer (some ⟨H,0,none⟩)] 52)).grownBy w5 rv.ownBlock) (hown:w5.ownsRow lo 52 1 (.slice (some ⟨g,0,none⟩) (vs.length+1) cap) (vs.length+1) (vs++[.pointer (some ⟨H,0,none⟩)])) (hat:rv.ownBlock=some g∨g=H+2) :
  DnM w rb s L tv dp lo B k rv (ps++[.miss x]) (remT s L a) (w5.setCell ⟨B,3,none⟩ (.slice (some ⟨g,0,none⟩) (vs.length+1) cap)):=by
 subst hH
 exact h.missed x hgrow hown hat
set_option maxRecDepth 100000 in
set_option maxHeartbeats 1000000 in
theorem rexpr0_any (s:ByteArray) (L:List Tk) (hS:TokS s L):ReadsM 73 (X.expr 0) (fun _=>True) s L 65:=by
 intro rb tv a lo B k rv vs ps Lo Hi w h _ hl
 obtain ⟨i0,hi0,hz0,hz1,hz2⟩:=info_parts infoM
 have HW:=hide h
 have HR0:Hid (RdB w rb s L tv a 65 w):=⟨h.rdr,Below.refl _ _⟩
 have hl':ps.length≤1073741823:=by have:(X.expr 0 (remT s L a)).1.length=1:=rfl;omega
 clear h hl
 go_enter Tryz.func73,Tryz.ntmps73
 go_wp2_with fail
 refine ((HR0.out).is hS [108,101,116]).mono ?_
 rintro e w1 ⟨rfl,HR1⟩
 go_wp2_with fail
 refine ((HR1.out).is hS [105,102]).mono ?_
 rintro e w2 ⟨rfl,HR2⟩
 go_wp2_with fail
 refine ((HR2.out).is hS [102,117,110]).mono ?_
 rintro e w3 ⟨rfl,HR3⟩
 have HW3:=hide ((HW.out).below (HR3.out).2)
 have HK3:=hide (On.ofBelow rb (HR3.out).2)
 clear HR0 HR1 HR2 HR3
 obtain ⟨c,hr⟩:=(HW3.out).rdr.raw
 obtain ⟨⟨c0,c1,c2,c3⟩,⟨f2,f3,f4⟩,c4⟩:=hr.facts
 have hrl:=heap_lt hr
 have HC:=hide ((HW3.out).cut true)
 have HON:Hid (On rb w (w3.setCell ⟨rb,4,none⟩ (.bool true))):=On.set HK3.out 4 _
 obtain ⟨b3,fb3,hbl,hlo,HN,HV⟩:=(HW3.out).forPut
 have hrB:¬ B=rb:=by have:=(HW3.out).rlt;have:=(HW3.out).nd.ge;omega
 have hvb:vs.length≤1073741823:=by rw [HV.out];omega
 have hsz:(w3.setCell ⟨rb,4,none⟩ (.bool true)).heap.size=w3.heap.size:=by simp
 clear hr
 go_wp2_with (at_builtin;refine wpList_append_lies _ rfl _ _ 56 rfl lo 52 i0 _ 1 8 Tryz.underlying56 hi0 hz0 hz1 hz2 rfl (by decide) rv vs.length _ rfl (((HC.out).nd.row.alloc _).alloc _) ⟨w3.heap.size+1,0,none⟩ 1 1 [.pointer (some ⟨w3.heap.size,0,none⟩)] rfl rfl (World.news_of_block (cs:=#[.pointer (some ⟨w3.heap.size,0,none⟩)]) (at_new ((w3.setCell ⟨rb,4,none⟩ (.bool true)).alloc _) _ (by simp))) (by simp [Value.oneCell']) (by omega) (by unfold maxLen;omega) (by omega) (by simp;omega) (w3.heap.size+2) (by simp) ?_;intro g cap5 w5 hown5 hgrow5 hat5 hlt5;have x1:w5.cell? ⟨B,3,none⟩=some rv:=(hgrow5.cell_far ⟨B,3,none⟩ (by simp;omega) (HN.out)).trans (old2' (by simp;omega) (set_far hrB b3));have x2:w5.frozen? ⟨B,3,none⟩=false:=(hgrow5.frozen_far ⟨B,3,none⟩ (by simp;omega) (HN.out)).trans ((World.frozen?_alloc_old _ _ ⟨B,3,none⟩ (by simp;omega)).trans ((World.frozen?_alloc_old _ _ ⟨B,3,none⟩ (by simp;omega)).trans (HC.out).nd.facts.2.2.2));have HX:=hide ((HC.out).missedAt X.sExpr hsz hgrow5 hown5 hat5);clear hown5 hgrow5)
 exact bodyPost_ret (results_none rfl _ _ _) rfl ⟨rfl,DnM.trans (fun _ hg=>.inl hg) (Kp.mono HON.out (fun i _ e=>.inl e)) HX.out⟩
set_option maxRecDepth 100000 in
set_option maxHeartbeats 2000000 in
theorem rexprS_any (s:ByteArray) (L:List Tk) (m dp:Nat) (hd:dp≤64) (hS:TokS s L) (hP:ReadsM 97 (X.expr m) (fun _=>True) s L dp):ReadsM 73 (X.expr (m+1)) (fun _=>True) s L dp:=by
 intro rb tv a lo B k rv vs ps Lo Hi w h _ hl
 obtain ⟨i0,hi0,hz0,hz1,hz2⟩:=info_parts infoM
 have hl2:=hS.len
 have hC:X.Cap (X.expr m) 1:=(X.One1.expr m).cap (X.Shr.expr m)
 have hSh:=X.Shr.expr m
 have HW:=hide h
 have HR0:Hid (RdB w rb s L tv a dp w):=⟨h.rdr,Below.refl _ _⟩
 have hl':ps.length≤1073741823:=by have:=(X.One1.expr (m+1)).len (remT s L a);omega
 clear h hl
 go_enter Tryz.func73,Tryz.ntmps73
 go_wp2_with fail
 refine ((HR0.out).is hS [108,101,116]).mono ?_
 rintro e w1 ⟨rfl,HR1⟩
 go_wp2_with fail
 refine ((HR1.out).is hS [105,102]).mono ?_
 rintro e w2 ⟨rfl,HR2⟩
 go_wp2_with fail
 refine ((HR2.out).is hS [102,117,110]).mono ?_
 rintro e w3 ⟨rfl,HR3⟩
 clear HR0 HR1 HR2
 obtain ⟨c,hr⟩:=(HR3.out).1.raw
 obtain ⟨⟨c0,c1,c2,c3⟩,⟨f2,f3,f4⟩,c4⟩:=hr.facts
 have hdi:¬(64:Int)<(dp:Int):=by omega
 clear hr
 cases hlet:X.isN [108,101,116] (remT s L a) with
 | true =>
  have HP0:Hid (X.expr (m+1) (remT s L a)=X.node 7 (X.andThen X.take (X.andThen X.wname (X.andThen (X.want [61]) (X.andThen (X.expr m) (X.andThen (X.want [105,110]) (X.expr m)))))) (remT s L a)):=by
   show _=_
   simp only [X.expr,hlet,if_true]
  have HN0:=hide ((HR3.out).1.new 7)
  have HON:=hide (On.ofBelow rb (HR3.out).2)
  have HF0:=hide (few_new s L a 1)
  go_wp2_with fail
  refine ((HN0.out).go (rtake_any s L dp hS) ((HF0.out).le X.Cap.take hl2 (by omega))).mono ?_
  rintro e x0 ⟨rfl,J0⟩
  have G0:=hide ((HF0.out).then X.Cap.take)
  clear HN0 HF0
  go_wp2_with fail
  refine ((J0.out).go (rname_any s L dp hS) ((G0.out).le X.Cap.wname hl2 (by omega))).mono ?_
  rintro e x1 ⟨rfl,J1⟩
  have G1:=hide ((G0.out).then X.Cap.wname)
  clear J0 G0
  go_wp2_with fail
  refine ((J1.out).want hS [61] ((G1.out).le (X.Cap.want [61]) hl2 (by omega))).mono ?_
  rintro e x2 ⟨rfl,J2⟩
  have G2:=hide ((G1.out).then (X.Cap.want [61]))
  clear J1 G1
  go_wp2_with fail
  refine ((J2.out).go hP ((G2.out).le hC hl2 (by omega))).mono ?_
  rintro e x3 ⟨rfl,J3⟩
  have G3:=hide ((G2.out).then hC)
  clear J2 G2
  go_wp2_with fail
  refine ((J3.out).want hS [105,110] ((G3.out).le (X.Cap.want [105,110]) hl2 (by omega))).mono ?_
  rintro e x4 ⟨rfl,J4⟩
  have G4:=hide ((G3.out).then (X.Cap.want [105,110]))
  clear J3 G3
  go_wp2_with fail
  refine ((J4.out).go hP ((G4.out).le hC hl2 (by omega))).mono ?_
  rintro e w4 ⟨rfl,J5⟩
  have G5:=hide ((G4.out).then hC)
  clear J4 G4
  have HG:Hid (GvM w rb s L tv dp (.br 7 ((X.andThen X.take (X.andThen X.wname (X.andThen (X.want [61]) (X.andThen (X.expr m) (X.andThen (X.want [105,110]) (X.expr m)))))) (remT s L a)).1) ((X.andThen X.take (X.andThen X.wname (X.andThen (X.want [61]) (X.andThen (X.expr m) (X.andThen (X.want [105,110]) (X.expr m)))))) (remT s L a)).2 w3.heap.size w4):=by
   have:=J5.out
   simp only [List.nil_append,List.append_assoc] at this
   exact (this.closed (On.ofBelow rb ((Below.refl _ w3).alloc (Nat.le_refl _) _)) (fun g hg=>by cases hg)).since HON.out
  have HP:Hid (X.expr (m+1) (remT s L a)=([.br 7 ((X.andThen X.take (X.andThen X.wname (X.andThen (X.want [61]) (X.andThen (X.expr m) (X.andThen (X.want [105,110]) (X.expr m)))))) (remT s L a)).1],((X.andThen X.take (X.andThen X.wname (X.andThen (X.want [61]) (X.andThen (X.expr m) (X.andThen (X.want [105,110]) (X.expr m)))))) (remT s L a)).2)):=HP0.out
  clear J5 G5 HP0
  generalize (X.andThen X.take (X.andThen X.wname (X.andThen (X.want [61]) (X.andThen (X.expr m) (X.andThen (X.want [105,110]) (X.expr m)))))) (remT s L a)=rr at *
  obtain ⟨b3,f3,hbl,hlo,HN,HV,HO⟩:=(HW.out).forTake HG.out
  have hvb:vs.length≤1073741823:=by rw [HV.out];omega
  go_wp2_with (at_builtin;refine wpList_append_lies _ rfl _ _ 56 rfl lo 52 i0 _ 1 8 Tryz.underlying56 hi0 hz0 hz1 hz2 rfl (by decide) rv vs.length _ rfl ((HO.out).alloc _) ⟨w4.heap.size,0,none⟩ 1 1 [.pointer (some ⟨w3.heap.size,0,none⟩)] rfl rfl (World.news_of_block (cs:=#[.pointer (some ⟨w3.heap.size,0,none⟩)]) (heap_alloc_new w4 _)) (by simp [Value.oneCell']) (by omega) (by unfold maxLen;omega) (by omega) (by simp;omega) (w4.heap.size+1) (by simp) ?_;intro g cap5 w5 hown5 hgrow5 hat5 hlt5;have x1:w5.cell? ⟨B,3,none⟩=some rv:=(hgrow5.cell_far ⟨B,3,none⟩ (by simp;omega) (HN.out)).trans (old1 hbl b3);have x2:w5.frozen? ⟨B,3,none⟩=false:=(hgrow5.frozen_far ⟨B,3,none⟩ (by simp;omega) (HN.out)).trans ((World.frozen?_alloc_old _ _ ⟨B,3,none⟩ (by simp;omega)).trans f3);have HX:=hide ((HW.out).take HG.out hgrow5 hown5 hat5);clear hown5 hgrow5)
  go_end0
  exact ⟨rfl,by rw [HP.out];exact HX.out⟩
 | false =>
  cases hif:X.isN [105,102] (remT s L a) with
  | true =>
   have HP0:Hid (X.expr (m+1) (remT s L a)=X.node 8 (X.andThen X.take (X.andThen (X.expr m) (X.andThen (X.want [116,104,101,110]) (X.andThen (X.expr m) (X.andThen (X.want [101,108,115,101]) (X.expr m)))))) (remT s L a)):=by
    show _=_
    simp only [X.expr,hlet,hif,if_true,Bool.false_eq_true,if_false]
   have HN0:=hide ((HR3.out).1.new 8)
   have HON:=hide (On.ofBelow rb (HR3.out).2)
   have HF0:=hide (few_new s L a 1)
   go_wp2_with fail
   refine ((HN0.out).go (rtake_any s L dp hS) ((HF0.out).le X.Cap.take hl2 (by omega))).mono ?_
   rintro e x0 ⟨rfl,J0⟩
   have G0:=hide ((HF0.out).then X.Cap.take)
   clear HN0 HF0
   go_wp2_with fail
   refine ((J0.out).go hP ((G0.out).le hC hl2 (by omega))).mono ?_
   rintro e x1 ⟨rfl,J1⟩
   have G1:=hide ((G0.out).then hC)
   clear J0 G0
   go_wp2_with fail
   refine ((J1.out).want hS [116,104,101,110] ((G1.out).le (X.Cap.want [116,104,101,110]) hl2 (by omega))).mono ?_
   rintro e x2 ⟨rfl,J2⟩
   have G2:=hide ((G1.out).then (X.Cap.want [116,104,101,110]))
   clear J1 G1
   go_wp2_with fail
   refine ((J2.out).go hP ((G2.out).le hC hl2 (by omega))).mono ?_
   rintro e x3 ⟨rfl,J3⟩
   have G3:=hide ((G2.out).then hC)
   clear J2 G2
   go_wp2_with fail
   refine ((J3.out).want hS [101,108,115,101] ((G3.out).le (X.Cap.want [101,108,115,101]) hl2 (by omega))).mono ?_
   rintro e x4 ⟨rfl,J4⟩
   have G4:=hide ((G3.out).then (X.Cap.want [101,108,115,101]))
   clear J3 G3
   go_wp2_with fail
   refine ((J4.out).go hP ((G4.out).le hC hl2 (by omega))).mono ?_
   rintro e w4 ⟨rfl,J5⟩
   have G5:=hide ((G4.out).then hC)
   clear J4 G4
   have HG:Hid (GvM w rb s L tv dp (.br 8 ((X.andThen X.take (X.andThen (X.expr m) (X.andThen (X.want [116,104,101,110]) (X.andThen (X.expr m) (X.andThen (X.want [101,108,115,101]) (X.expr m)))))) (remT s L a)).1) ((X.andThen X.take (X.andThen (X.expr m) (X.andThen (X.want [116,104,101,110]) (X.andThen (X.expr m) (X.andThen (X.want [101,108,115,101]) (X.expr m)))))) (remT s L a)).2 w3.heap.size w4):=by
    have:=J5.out
    simp only [List.nil_append,List.append_assoc] at this
    exact (this.closed (On.ofBelow rb ((Below.refl _ w3).alloc (Nat.le_refl _) _)) (fun g hg=>by cases hg)).since HON.out
   have HP:Hid (X.expr (m+1) (remT s L a)=([.br 8 ((X.andThen X.take (X.andThen (X.expr m) (X.andThen (X.want [116,104,101,110]) (X.andThen (X.expr m) (X.andThen (X.want [101,108,115,101]) (X.expr m)))))) (remT s L a)).1],((X.andThen X.take (X.andThen (X.expr m) (X.andThen (X.want [116,104,101,110]) (X.andThen (X.expr m) (X.andThen (X.want [101,108,115,101]) (X.expr m)))))) (remT s L a)).2)):=HP0.out
   clear J5 G5 HP0
   generalize (X.andThen X.take (X.andThen (X.expr m) (X.andThen (X.want [116,104,101,110]) (X.andThen (X.expr m) (X.andThen (X.want [101,108,115,101]) (X.expr m)))))) (remT s L a)=rr at *
   obtain ⟨b3,f3,hbl,hlo,HN,HV,HO⟩:=(HW.out).forTake HG.out
   have hvb:vs.length≤1073741823:=by rw [HV.out];omega
   go_wp2_with (at_builtin;refine wpList_append_lies _ rfl _ _ 56 rfl lo 52 i0 _ 1 8 Tryz.underlying56 hi0 hz0 hz1 hz2 rfl (by decide) rv vs.length _ rfl ((HO.out).alloc _) ⟨w4.heap.size,0,none⟩ 1 1 [.pointer (some ⟨w3.heap.size,0,none⟩)] rfl rfl (World.news_of_block (cs:=#[.pointer (some ⟨w3.heap.size,0,none⟩)]) (heap_alloc_new w4 _)) (by simp [Value.oneCell']) (by omega) (by unfold maxLen;omega) (by omega) (by simp;omega) (w4.heap.size+1) (by simp) ?_;intro g cap5 w5 hown5 hgrow5 hat5 hlt5;have x1:w5.cell? ⟨B,3,none⟩=some rv:=(hgrow5.cell_far ⟨B,3,none⟩ (by simp;omega) (HN.out)).trans (old1 hbl b3);have x2:w5.frozen? ⟨B,3,none⟩=false:=(hgrow5.frozen_far ⟨B,3,none⟩ (by simp;omega) (HN.out)).trans ((World.frozen?_alloc_old _ _ ⟨B,3,none⟩ (by simp;omega)).trans f3);have HX:=hide ((HW.out).take HG.out hgrow5 hown5 hat5);clear hown5 hgrow5)
   go_end0
   exact ⟨rfl,by rw [HP.out];exact HX.out⟩
  | false =>
   cases hfun:X.isN [102,117,110] (remT s L a) with
   | true =>
    have HP0:Hid (X.expr (m+1) (remT s L a)=X.node 9 (X.andThen X.take (X.andThen X.params (X.andThen (X.want [61,62]) (X.expr m)))) (remT s L a)):=by
     show _=_
     simp only [X.expr,hlet,hif,hfun,if_true,Bool.false_eq_true,if_false]
    have HN0:=hide ((HR3.out).1.new 9)
    have HON:=hide (On.ofBelow rb (HR3.out).2)
    have HF0:=hide (few_new s L a 1)
    go_wp2_with fail
    refine ((HN0.out).go (rtake_any s L dp hS) ((HF0.out).le X.Cap.take hl2 (by omega))).mono ?_
    rintro e x0 ⟨rfl,J0⟩
    have G0:=hide ((HF0.out).then X.Cap.take)
    clear HN0 HF0
    go_wp2_with fail
    refine ((J0.out).go (rparams_any s L dp hS) ((G0.out).le X.Cap.params hl2 (by omega))).mono ?_
    rintro e x1 ⟨rfl,J1⟩
    have G1:=hide ((G0.out).then X.Cap.params)
    clear J0 G0
    go_wp2_with fail
    refine ((J1.out).want hS [61,62] ((G1.out).le (X.Cap.want [61,62]) hl2 (by omega))).mono ?_
    rintro e x2 ⟨rfl,J2⟩
    have G2:=hide ((G1.out).then (X.Cap.want [61,62]))
    clear J1 G1
    go_wp2_with fail
    refine ((J2.out).go hP ((G2.out).le hC hl2 (by omega))).mono ?_
    rintro e w4 ⟨rfl,J3⟩
    have G3:=hide ((G2.out).then hC)
    clear J2 G2
    have HG:Hid (GvM w rb s L tv dp (.br 9 ((X.andThen X.take (X.andThen X.params (X.andThen (X.want [61,62]) (X.expr m)))) (remT s L a)).1) ((X.andThen X.take (X.andThen X.params (X.andThen (X.want [61,62]) (X.expr m)))) (remT s L a)).2 w3.heap.size w4):=by
     have:=J3.out
     simp only [List.nil_append,List.append_assoc] at this
     exact (this.closed (On.ofBelow rb ((Below.refl _ w3).alloc (Nat.le_refl _) _)) (fun g hg=>by cases hg)).since HON.out
    have HP:Hid (X.expr (m+1) (remT s L a)=([.br 9 ((X.andThen X.take (X.andThen X.params (X.andThen (X.want [61,62]) (X.expr m)))) (remT s L a)).1],((X.andThen X.take (X.andThen X.params (X.andThen (X.want [61,62]) (X.expr m)))) (remT s L a)).2)):=HP0.out
    clear J3 G3 HP0
    generalize (X.andThen X.take (X.andThen X.params (X.andThen (X.want [61,62]) (X.expr m)))) (remT s L a)=rr at *
    obtain ⟨b3,f3,hbl,hlo,HN,HV,HO⟩:=(HW.out).forTake HG.out
    have hvb:vs.length≤1073741823:=by rw [HV.out];omega
    go_wp2_with (at_builtin;refine wpList_append_lies _ rfl _ _ 56 rfl lo 52 i0 _ 1 8 Tryz.underlying56 hi0 hz0 hz1 hz2 rfl (by decide) rv vs.length _ rfl ((HO.out).alloc _) ⟨w4.heap.size,0,none⟩ 1 1 [.pointer (some ⟨w3.heap.size,0,none⟩)] rfl rfl (World.news_of_block (cs:=#[.pointer (some ⟨w3.heap.size,0,none⟩)]) (heap_alloc_new w4 _)) (by simp [Value.oneCell']) (by omega) (by unfold maxLen;omega) (by omega) (by simp;omega) (w4.heap.size+1) (by simp) ?_;intro g cap5 w5 hown5 hgrow5 hat5 hlt5;have x1:w5.cell? ⟨B,3,none⟩=some rv:=(hgrow5.cell_far ⟨B,3,none⟩ (by simp;omega) (HN.out)).trans (old1 hbl b3);have x2:w5.frozen? ⟨B,3,none⟩=false:=(hgrow5.frozen_far ⟨B,3,none⟩ (by simp;omega) (HN.out)).trans ((World.frozen?_alloc_old _ _ ⟨B,3,none⟩ (by simp;omega)).trans f3);have HX:=hide ((HW.out).take HG.out hgrow5 hown5 hat5);clear hown5 hgrow5)
    go_end0
    exact ⟨rfl,by rw [HP.out];exact HX.out⟩
   | false =>
    have HP0:Hid (X.expr (m+1) (remT s L a)=X.comparison (X.expr m) (remT s L a)):=by
     show _=_
     simp only [X.expr,hlet,hif,hfun,Bool.false_eq_true,if_false]
    have kA:Below w3.heap.size w3 (w3.alloc (mcell 0 0 [] (.slice none 0 0) 0 0 0 0 false)):=(Below.refl _ w3).alloc (Nat.le_refl _) _
    have HON:=hide (On.ofBelow rb ((HR3.out).2.trans (kA.mono (HR3.out).2.size)))
    have HL:=hide (rlevel0_any s L dp hS (X.expr m) (rlevel1_any s L dp hS (X.expr m) (rlevel2_any s L dp hS (X.expr m) (rlevel3_any s L dp hS (X.expr m) hP hC hSh) hSh.call) hSh.product) hSh.sum rb tv a _ ((HR3.out).1.below kA))
    clear kA
    go_wp2_with fail
    refine (HL.out).mono ?_
    rintro e w4 ⟨N,p,rfl,HP4,HG4⟩
    have HG:=hide ((HG4.out).since HON.out)
    have HP:Hid (X.expr (m+1) (remT s L a)=([p],(X.comparison (X.expr m) (remT s L a)).2)):=by
     show _=_
     rw [HP0.out,← HP4.out]
    clear HL HG4 HP4 HP0
    generalize (X.comparison (X.expr m) (remT s L a)).2=ts4 at *
    obtain ⟨b3,f3,hbl,hlo,HN,HV,HO⟩:=(HW.out).forTake HG.out
    have hvb:vs.length≤1073741823:=by rw [HV.out];omega
    go_wp2_with (at_builtin;refine wpList_append_lies _ rfl _ _ 56 rfl lo 52 i0 _ 1 8 Tryz.underlying56 hi0 hz0 hz1 hz2 rfl (by decide) rv vs.length _ rfl ((HO.out).alloc _) ⟨w4.heap.size,0,none⟩ 1 1 [.pointer (some ⟨N,0,none⟩)] rfl rfl (World.news_of_block (cs:=#[.pointer (some ⟨N,0,none⟩)]) (heap_alloc_new w4 _)) (by simp [Value.oneCell']) (by omega) (by unfold maxLen;omega) (by omega) (by simp;omega) (w4.heap.size+1) (by simp) ?_;intro g cap5 w5 hown5 hgrow5 hat5 hlt5;have x1:w5.cell? ⟨B,3,none⟩=some rv:=(hgrow5.cell_far ⟨B,3,none⟩ (by simp;omega) (HN.out)).trans (old1 hbl b3);have x2:w5.frozen? ⟨B,3,none⟩=false:=(hgrow5.frozen_far ⟨B,3,none⟩ (by simp;omega) (HN.out)).trans ((World.frozen?_alloc_old _ _ ⟨B,3,none⟩ (by simp;omega)).trans f3);have HX:=hide ((HW.out).take HG.out hgrow5 hown5 hat5);clear hown5 hgrow5)
    go_end0
    exact ⟨rfl,by rw [HP.out];exact HX.out⟩
theorem rexpr_any (s:ByteArray) (L:List Tk) (hS:TokS s L) (m:Nat):∀ dp,dp+m=65→ReadsM 73 (X.expr m) (fun _=>True) s L dp:=by
 induction m with
 | zero=>intro dp h;obtain rfl:dp=65:=(by omega);exact rexpr0_any s L hS
 | succ m ih=>intro dp h;exact rexprS_any s L m dp (by omega) hS (rpart_any s L dp (X.expr m) (ih (dp+1) (by omega)) (by omega))
end Go.Proofs.YtgpcpbmacdhlkaaGreatDoor
/- The document's reader: a kid of the root. -/
namespace Go.Proofs.YtgpcpbmacdhlkaaGreatDoor
open Go.RowKit
open M
set_option maxRecDepth 100000 in
set_option maxHeartbeats 1000000 in
theorem rstarts_any (rb:Nat) (s:ByteArray) (L:List Tk) (tv:Value) (a dp:Nat) (w:World) (hS:TokS s L) (h:RdM w rb s L tv a dp) :
  Calls Tryz.prog 67 #[.pointer (some ⟨rb,0,none⟩)] w fun e w'=>e=.returned (.bool (X.starts (remT s L a)))∧Below w.heap.size w w':=by
 have HR0:Hid (RdB w rb s L tv a dp w):=⟨h,Below.refl _ _⟩
 have HE:Hid (X.starts (remT s L a)=(X.isN [117,115,101] (remT s L a)||X.isN [112,117,98] (remT s L a)||X.isN [100,101,102] (remT s L a))):=(rfl:_=_)
 clear h
 go_enter Tryz.func67,Tryz.ntmps67
 go_wp2_with fail
 refine ((HR0.out).is hS [117,115,101]).mono ?_
 rintro e w1 ⟨rfl,HR1⟩
 go_wp2_with fail
 refine ((HR1.out).is hS [112,117,98]).mono ?_
 rintro e w2 ⟨rfl,HR2⟩
 go_wp2_with fail
 refine ((HR2.out).is hS [100,101,102]).mono ?_
 rintro e w3 ⟨rfl,HR3⟩
 clear HR0 HR1 HR2
 cases h1:X.isN [117,115,101] (remT s L a) with
 | true =>
  rw [h1] at HE
  go_wp2_with fail
  go_ret
  exact ⟨retb (by rw [HE.out];rfl),(HR3.out).2⟩
 | false =>
  cases h2:X.isN [112,117,98] (remT s L a) with
  | true =>
   rw [h1,h2] at HE
   go_wp2_with fail
   go_ret
   exact ⟨retb (by rw [HE.out];rfl),(HR3.out).2⟩
  | false =>
   rw [h1,h2] at HE
   go_wp2_with fail
   go_ret
   exact ⟨retb (by rw [HE.out];rfl),(HR3.out).2⟩
theorem DnM.starts {w w1:World} {rb:Nat} {s:ByteArray} {L:List Tk} {tv:Value} {dp lo B k:Nat} {rv:Value} {ps1:List X.Part} {ts1:List X.Tok} (h:DnM w rb s L tv dp lo B k rv ps1 ts1 w1) (hS:TokS s L) :
  Calls Tryz.prog 67 #[.pointer (some ⟨rb,0,none⟩)] w1 fun e w2=>e=.returned (.bool (X.starts ts1))∧Hid (DnM w rb s L tv dp lo B k rv ps1 ts1 w2):=by
 have h0:=h
 obtain ⟨a',rv',vs',Lo',Hi',g1,rfl,g3,g4⟩:=h
 exact (rstarts_any rb s L tv a' dp w1 hS g1.rdr).mono (fun _ _ h=>⟨h.1,h0.next h.2⟩)
theorem DnM.kindOf {w w1:World} {rb:Nat} {s:ByteArray} {L:List Tk} {tv:Value} {dp lo B k:Nat} {rv:Value} {ps1:List X.Part} {ts1:List X.Tok} (h:DnM w rb s L tv dp lo B k rv ps1 ts1 w1) (hS:TokS s L) :
  Calls Tryz.prog 45 #[.pointer (some ⟨rb,0,none⟩)] w1 fun e w2=>e=.returned (.int .i64 (X.kindN ts1))∧Hid (DnM w rb s L tv dp lo B k rv ps1 ts1 w2):=by
 have h0:=h
 obtain ⟨a',rv',vs',Lo',Hi',g1,rfl,g3,g4⟩:=h
 exact (rkind_any rb s L tv a' dp w1 hS g1.rdr).mono (fun _ _ h=>⟨h.1,h0.next h.2⟩)
theorem DnM.ofKind {w w1:World} {rb:Nat} {s:ByteArray} {L:List Tk} {tv:Value} {dp lo B k:Nat} {rv:Value} {ps1:List X.Part} {ts1:List X.Tok} (h:DnM w rb s L tv dp lo B k rv ps1 ts1 w1) (k2:Nat):DnM w rb s L tv dp lo B k2 rv ps1 ts1 (w1.setCell ⟨B,0,none⟩ (.int .i64 (k2:Int))):=by
 obtain ⟨a',rv',vs',Lo',Hi',g1,g2,g3,g4⟩:=h
 have hon:Kp (fun q=>q=B) w1 (w1.setCell ⟨B,0,none⟩ (.int .i64 (k2:Int))):=On.set (Kp.refl _ w1) 0 _
 have hrl:=g1.rlt
 have hge:=g1.nd.ge
 refine ⟨a',rv',vs',Lo',Hi',⟨g1.rdr.keep hon (by omega) (fun q e e'=>by have:=g1.tlt q e;omega),⟨?_,?_,?_,hge,g1.nd.ne⟩,hrl,g1.tlt⟩,g2,g3,Kp.trans g4 hon (fun i _ e=>.inr (.inl e))⟩
 ·have hb:=g1.nd.blk
  unfold mcell at hb ⊢
  simp [World.setCell,Array.getElem?_modify,hb]
 ·exact ownsRow_setCell_other g1.nd.row (fun e=>g1.nd.ne e) _
 ·exact g1.nd.kds.keep hon (fun i hi q e1 e2 e=>by subst e;exact (g1.nd.kds.sep i hi).2.2.2.1 ⟨e1,e2⟩)
theorem DnM.forKind {w w1:World} {rb:Nat} {s:ByteArray} {L:List Tk} {tv:Value} {dp lo B k:Nat} {rv:Value} {ps1:List X.Part} {ts1:List X.Tok} (h:DnM w rb s L tv dp lo B k rv ps1 ts1 w1):w1.cell? ⟨B,0,none⟩=some (.int .i64 k)∧w1.frozen? ⟨B,0,none⟩=false:=by
 obtain ⟨a',rv',vs',Lo',Hi',g1,g2,g3,g4⟩:=h
 exact ⟨g1.nd.facts.1,g1.nd.facts.2.2.1⟩
theorem DnM.deep {w w1:World} {rb:Nat} {s:ByteArray} {L:List Tk} {tv:Value} {dp lo B k:Nat} {rv:Value} {ps1:List X.Part} {ts1:List X.Tok} (h:DnM w rb s L tv dp lo B k rv ps1 ts1 w1) (y:Nat):DnM w rb s L tv y lo B k rv ps1 ts1 (w1.setCell ⟨rb,3,none⟩ (.int .i64 (y:Int))):=by
 obtain ⟨a',rv',vs',Lo',Hi',g1,g2,g3,g4⟩:=h
 have hon:On rb w1 (w1.setCell ⟨rb,3,none⟩ (.int .i64 (y:Int))):=On.set (Kp.refl _ w1) 3 _
 exact ⟨a',rv',vs',Lo',Hi',g1.deep y,g2,g3,Kp.trans g4 hon (fun i _ e=>.inl e)⟩
theorem DnM.forDeep {w w1:World} {rb:Nat} {s:ByteArray} {L:List Tk} {tv:Value} {dp lo B k:Nat} {rv:Value} {ps1:List X.Part} {ts1:List X.Tok} (h:DnM w rb s L tv dp lo B k rv ps1 ts1 w1):w1.cell? ⟨rb,3,none⟩=some (.int .i64 dp)∧w1.frozen? ⟨rb,3,none⟩=false:=by
 obtain ⟨a',rv',vs',Lo',Hi',g1,g2,g3,g4⟩:=h
 obtain ⟨c,hr⟩:=g1.rdr.raw
 exact ⟨hr.facts.1.2.2.2,hr.facts.2.1.2.1⟩
theorem optPub_yes {ts:List X.Tok} (h:X.isN [112,117,98] ts=true):X.optPub ts=X.take ts:=if_pos h
theorem optPub_no {ts:List X.Tok} (h:X.isN [112,117,98] ts=false):X.optPub ts=([],ts):=if_neg (fun e=>by rw [show X.isN X.sPub ts=false from h] at e;cases e)
set_option maxRecDepth 100000 in
set_option maxHeartbeats 4000000 in
theorem ritem_any (s:ByteArray) (L:List Tk) (hS:TokS s L) (rb:Nat) (tv:Value) (a:Nat) (w:World) (h:RdM w rb s L tv a 0) (hk:(X.kindN (remT s L a)==0)=false) :
  Calls Tryz.prog 46 #[.pointer (some ⟨rb,0,none⟩)] w fun e w'=>∃ N,e=.returned (.pointer (some ⟨N,0,none⟩))∧Hid (GvM w rb s L tv 0 (.br (X.kid (remT s L a)).1 (X.kid (remT s L a)).2.1) (X.kid (remT s L a)).2.2 N w'):=by
 have hl2:=hS.len
 have kA:On rb w (w.alloc (mcell 5 0 [] (.slice none 0 0) 0 0 0 0 false)):=On.ofBelow rb ((Below.refl _ w).alloc (Nat.le_refl _) _)
 have HN0:=hide (h.new 5)
 have HF0:=hide (few_new s L a 1)
 have hX:ReadsM 73 (X.expr 65) (fun _=>True) s L 0:=rexpr_any s L hS 65 0 rfl
 have hXC:X.Cap (X.expr 65) 1:=(X.One1.expr 65).cap (X.Shr.expr 65)
 clear h
 go_enter Tryz.func46,Tryz.ntmps46
 go_wp2_with fail
 refine ((HN0.out).starts hS).mono ?_
 rintro e w1 ⟨rfl,H1⟩
 clear HN0
 cases hst:X.starts (remT s L a) with
 | false =>
  clear hX hXC
  have HKid:Hid (X.kid (remT s L a)=(5,X.junkL (remT s L a))):=by
   show _=_
   rw [X.kid_eq,if_neg (by rw [hst];simp)]
  go_wp2_with fail
  go_loopw [] (fun wr=>∃ (acc:List X.Part) (ts1:List X.Tok),Hid (Few L acc ts1 1)∧(X.kindN ts1==0)=false∧X.starts ts1=false∧Hid (DnM (w.alloc (mcell 5 0 [] (.slice none 0 0) 0 0 0 0 false)) rb s L tv 0 w.heap.size w.heap.size 5 (.slice none 0 0) acc ts1 wr)∧Hid (X.junkL (remT s L a)=(acc++(X.junkL ts1).1,(X.junkL ts1).2))) (fun wr=>L.length - atM rb wr)
  case atStart=>exact ⟨[],_,HF0,hk,hst,H1,(by show _=_;simp)⟩
  case round =>
   obtain ⟨acc,ts1,HF,hk1,hs1,HJ,HE⟩:=hrel
   clear HF0 H1 hk hst
   have hat:=(HJ.out).at
   have hnx:=X.kind_next hk1
   have htk:=X.take_lt hnx
   have HJy:=hide (X.junkL_yes (ts:=ts1) (by rw [hk1,hs1];rfl))
   clear hk1 hs1
   go_wp2_with fail
   refine ((HJ.out).is hS [59]).mono ?_
   rintro e w2 ⟨rfl,H2⟩
   clear HJ
   go_wp2_with fail
   refine ((H2.out).go (rtake_any s L 0 hS) ((HF.out).le X.Cap.take hl2 (by omega))).mono ?_
   rintro e w3 ⟨rfl,H3⟩
   have HF3:=hide ((HF.out).then X.Cap.take)
   clear H2 HF
   go_wp2_with fail
   refine ((H3.out).kindOf hS).mono ?_
   rintro e w4 ⟨rfl,H4⟩
   clear H3
   go_wp2_with fail
   refine ((H4.out).starts hS).mono ?_
   rintro e w5 ⟨rfl,H5⟩
   clear H4
   cases hov:X.isN [59] ts1 with
   | true =>
    have HG:Hid (GvM w rb s L tv 0 (.br 5 (X.junkL (remT s L a)).1) (X.junkL (remT s L a)).2 w.heap.size w5):=by
     rw [HE.out,HJy.out,if_pos hov]
     exact (H5.out).closed kA (fun g hg=>by cases hg)
    clear H5
    go_wp2_with fail
    go_ret
    exact ⟨_,rfl,by rw [HKid.out];exact HG⟩
   | false =>
    have HJ2:Hid (X.junkL ts1=((X.take ts1).1++(X.junkL (X.take ts1).2).1,(X.junkL (X.take ts1).2).2)):=by
     show _=_
     rw [HJy.out,if_neg (by rw [hov];simp)];rfl
    clear HJy
    generalize X.take ts1=r1 at *
    cases hs2:X.starts r1.2 with
    | true =>
     have HG:Hid (GvM w rb s L tv 0 (.br 5 (X.junkL (remT s L a)).1) (X.junkL (remT s L a)).2 w.heap.size w5):=by
      rw [HE.out,HJ2.out,X.junkL_no (ts:=r1.2) (by rw [hs2];simp),List.append_nil]
      exact (H5.out).closed kA (fun g hg=>by cases hg)
     clear H5
     go_wp2_with fail
     go_ret
     exact ⟨_,rfl,by rw [HKid.out];exact HG⟩
    | false =>
     cases hk2:((X.kindN r1.2:Int)==0) with
     | true =>
      have e0:(X.kindN r1.2==0)=true:=(nb _ 0).symm.trans hk2
      have HG:Hid (GvM w rb s L tv 0 (.br 5 (X.junkL (remT s L a)).1) (X.junkL (remT s L a)).2 w.heap.size w5):=by
       rw [HE.out,HJ2.out,X.junkL_no (ts:=r1.2) (by rw [e0];rfl),List.append_nil]
       exact (H5.out).closed kA (fun g hg=>by cases hg)
      clear H5
      go_wp2_with fail
      go_ret
      exact ⟨_,rfl,by rw [HKid.out];exact HG⟩
     | false =>
      have e0:(X.kindN r1.2==0)=false:=(nb _ 0).symm.trans hk2
      have hat5:=(H5.out).at
      have HE2:Hid (X.junkL (remT s L a)=((acc++r1.1)++(X.junkL r1.2).1,(X.junkL r1.2).2)):=by
       show _=_
       rw [HE.out,HJ2.out,List.append_assoc]
      go_wp2_with fail
      exact ⟨⟨acc++r1.1,r1.2,HF3,e0,hs2,H5,HE2⟩,by rw [hat,hat5];omega⟩
 | true =>
  obtain ⟨d3,df3⟩:=(H1.out).forDeep
  have HD:=hide ((H1.out).deep 0)
  clear H1 hk
  go_wp2_with fail
  refine ((HD.out).is hS [112,117,98]).mono ?_
  rintro e w2 ⟨rfl,H2⟩
  clear HD d3 df3
  cases hpub:X.isN [112,117,98] (remT s L a) with
  | true =>
   go_wp2_with fail
   refine ((H2.out).go (rtake_any s L 0 hS) ((HF0.out).le X.Cap.take hl2 (by omega))).mono ?_
   rintro e w3 ⟨rfl,H3⟩
   have HF3:=hide ((HF0.out).then X.Cap.take)
   rw [List.nil_append] at H3 HF3
   clear H2 HF0
   have hO2:(X.optPub (remT s L a)).2=(X.take (remT s L a)).2:=by rw [optPub_yes hpub]
   go_wp2_with fail
   refine ((H3.out).is hS [117,115,101]).mono ?_
   rintro e w4 ⟨rfl,H4⟩
   clear H3
   obtain ⟨q0,qf⟩:=(H4.out).forKind
   cases hu:X.isN [117,115,101] (X.take (remT s L a)).2 with
   | true =>
    have hu':X.isN X.sUse (X.optPub (remT s L a)).2=true:=by rw [hO2];exact hu
    have H5:=hide ((H4.out).ofKind 3)
    clear H4 hX hXC
    go_wp2_with fail
    refine ((H5.out).want hS [117,115,101] ((HF3.out).le (X.Cap.want [117,115,101]) hl2 (by omega))).mono ?_
    rintro e j0 ⟨rfl,J0⟩
    have JF0:=hide ((HF3.out).then (X.Cap.want [117,115,101]))
    clear H5 HF3 q0 qf
    go_wp2_with fail
    refine ((J0.out).go (rname_any s L 0 hS) ((JF0.out).le X.Cap.wname hl2 (by omega))).mono ?_
    rintro e j1 ⟨rfl,J1⟩
    have JF1:=hide ((JF0.out).then X.Cap.wname)
    clear J0 JF0
    go_wp2_with fail
    refine ((J1.out).want hS [46] ((JF1.out).le (X.Cap.want [46]) hl2 (by omega))).mono ?_
    rintro e j2 ⟨rfl,J2⟩
    have JF2:=hide ((JF1.out).then (X.Cap.want [46]))
    clear J1 JF1
    go_wp2_with fail
    refine ((J2.out).go (rname_any s L 0 hS) ((JF2.out).le X.Cap.wname hl2 (by omega))).mono ?_
    rintro e j3 ⟨rfl,J3⟩
    have JF3:=hide ((JF2.out).then X.Cap.wname)
    clear J2 JF2
    go_wp2_with fail
    generalize hts4:(X.wname (X.want [46] (X.wname (X.want [117,115,101] (X.take (remT s L a)).2).2).2).2).2=ts4 at *
    refine ((J3.out).is hS [97,115]).mono ?_
    rintro e y0 ⟨rfl,Y0⟩
    clear J3
    cases has:X.isN [97,115] ts4 with
    | true =>
     go_wp2_with fail
     refine ((Y0.out).go (rtake_any s L 0 hS) ((JF3.out).le X.Cap.take hl2 (by omega))).mono ?_
     rintro e k0 ⟨rfl,K0⟩
     have KF0:=hide ((JF3.out).then X.Cap.take)
     clear Y0 JF3
     go_wp2_with fail
     refine ((K0.out).go (rname_any s L 0 hS) ((KF0.out).le X.Cap.wname hl2 (by omega))).mono ?_
     rintro e k1 ⟨rfl,K1⟩
     have KF1:=hide ((KF0.out).then X.Cap.wname)
     clear K0 KF0
     go_wp2_with fail
     refine ((K1.out).want hS [59] ((KF1.out).le (X.Cap.want [59]) hl2 (by omega))).mono ?_
     rintro e k2 ⟨rfl,K2⟩
     have KF2:=hide ((KF1.out).then (X.Cap.want [59]))
     clear K1 KF1
     have HE:Hid (X.andThen X.optPub X.useR (remT s L a)=((X.andThen X.optPub X.useR (remT s L a)).1,(X.andThen X.optPub X.useR (remT s L a)).2)):=(rfl:_=_)
     have HG:Hid (GvM w rb s L tv 0 (.br 3 (X.andThen X.optPub X.useR (remT s L a)).1) (X.andThen X.optPub X.useR (remT s L a)).2 w.heap.size k2):=by
      have hd:=K2.out
      have e1:X.optPub (remT s L a)=X.take (remT s L a):=optPub_yes hpub
      rw [show X.andThen X.optPub X.useR (remT s L a)=((X.optPub (remT s L a)).1++(X.useR (X.optPub (remT s L a)).2).1,(X.useR (X.optPub (remT s L a)).2).2) from rfl,e1]
      unfold X.useR
      simp only [X.andThen,X.sUse,hts4,has,if_true,List.append_assoc] at hd ⊢
      exact hd.closed kA (fun g hg=>by cases hg)
     clear K2
     go_wp2_with fail
     go_ret
     exact ⟨_,rfl,by rw [X.kid_eq,if_pos hst,if_pos hu'];exact HG⟩
    | false =>
     go_wp2_with fail
     refine ((Y0.out).want hS [59] ((JF3.out).le (X.Cap.want [59]) hl2 (by omega))).mono ?_
     rintro e k0 ⟨rfl,K0⟩
     have KF0:=hide ((JF3.out).then (X.Cap.want [59]))
     clear Y0 JF3
     have HE:Hid (X.andThen X.optPub X.useR (remT s L a)=((X.andThen X.optPub X.useR (remT s L a)).1,(X.andThen X.optPub X.useR (remT s L a)).2)):=(rfl:_=_)
     have HG:Hid (GvM w rb s L tv 0 (.br 3 (X.andThen X.optPub X.useR (remT s L a)).1) (X.andThen X.optPub X.useR (remT s L a)).2 w.heap.size k0):=by
      have hd:=K0.out
      have e1:X.optPub (remT s L a)=X.take (remT s L a):=optPub_yes hpub
      rw [show X.andThen X.optPub X.useR (remT s L a)=((X.optPub (remT s L a)).1++(X.useR (X.optPub (remT s L a)).2).1,(X.useR (X.optPub (remT s L a)).2).2) from rfl,e1]
      unfold X.useR
      simp only [X.andThen,X.sUse,hts4,has,Bool.false_eq_true,if_false,List.nil_append,List.append_assoc] at hd ⊢
      exact hd.closed kA (fun g hg=>by cases hg)
     clear K0
     go_wp2_with fail
     go_ret
     exact ⟨_,rfl,by rw [X.kid_eq,if_pos hst,if_pos hu'];exact HG⟩
   | false =>
    have hu':X.isN X.sUse (X.optPub (remT s L a)).2=false:=by rw [hO2];exact hu
    have H5:=hide ((H4.out).ofKind 4)
    clear H4
    go_wp2_with fail
    refine ((H5.out).want hS [100,101,102] ((HF3.out).le (X.Cap.want [100,101,102]) hl2 (by omega))).mono ?_
    rintro e j0 ⟨rfl,J0⟩
    have JF0:=hide ((HF3.out).then (X.Cap.want [100,101,102]))
    clear H5 HF3 q0 qf
    go_wp2_with fail
    refine ((J0.out).go (rname_any s L 0 hS) ((JF0.out).le X.Cap.wname hl2 (by omega))).mono ?_
    rintro e j1 ⟨rfl,J1⟩
    have JF1:=hide ((JF0.out).then X.Cap.wname)
    clear J0 JF0
    go_wp2_with fail
    generalize hts4:(X.wname (X.want [100,101,102] (X.take (remT s L a)).2).2).2=ts4 at *
    refine ((J1.out).is hS [40]).mono ?_
    rintro e y0 ⟨rfl,Y0⟩
    clear J1
    cases has:X.isN [40] ts4 with
    | true =>
     go_wp2_with fail
     refine ((Y0.out).go (rparams_any s L 0 hS) ((JF1.out).le X.Cap.params hl2 (by omega))).mono ?_
     rintro e k0 ⟨rfl,K0⟩
     have KF0:=hide ((JF1.out).then X.Cap.params)
     clear Y0 JF1
     go_wp2_with fail
     refine ((K0.out).want hS [61] ((KF0.out).le (X.Cap.want [61]) hl2 (by omega))).mono ?_
     rintro e k1 ⟨rfl,K1⟩
     have KF1:=hide ((KF0.out).then (X.Cap.want [61]))
     clear K0 KF0
     go_wp2_with fail
     refine ((K1.out).go hX ((KF1.out).le hXC hl2 (by omega))).mono ?_
     rintro e k2 ⟨rfl,K2⟩
     have KF2:=hide ((KF1.out).then hXC)
     clear K1 KF1
     go_wp2_with fail
     refine ((K2.out).want hS [59] ((KF2.out).le (X.Cap.want [59]) hl2 (by omega))).mono ?_
     rintro e k3 ⟨rfl,K3⟩
     have KF3:=hide ((KF2.out).then (X.Cap.want [59]))
     clear K2 KF2
     have HE:Hid (X.andThen X.optPub X.defR (remT s L a)=((X.andThen X.optPub X.defR (remT s L a)).1,(X.andThen X.optPub X.defR (remT s L a)).2)):=(rfl:_=_)
     have HG:Hid (GvM w rb s L tv 0 (.br 4 (X.andThen X.optPub X.defR (remT s L a)).1) (X.andThen X.optPub X.defR (remT s L a)).2 w.heap.size k3):=by
      have hd:=K3.out
      have e1:X.optPub (remT s L a)=X.take (remT s L a):=optPub_yes hpub
      rw [show X.andThen X.optPub X.defR (remT s L a)=((X.optPub (remT s L a)).1++(X.defR (X.optPub (remT s L a)).2).1,(X.defR (X.optPub (remT s L a)).2).2) from rfl,e1]
      unfold X.defR
      simp only [X.andThen,X.sDef,hts4,has,if_true,List.append_assoc] at hd ⊢
      exact hd.closed kA (fun g hg=>by cases hg)
     clear K3
     go_wp2_with fail
     go_ret
     exact ⟨_,rfl,by rw [X.kid_eq,if_pos hst,if_neg (by rw [hu'];simp)];exact HG⟩
    | false =>
     go_wp2_with fail
     refine ((Y0.out).want hS [61] ((JF1.out).le (X.Cap.want [61]) hl2 (by omega))).mono ?_
     rintro e k0 ⟨rfl,K0⟩
     have KF0:=hide ((JF1.out).then (X.Cap.want [61]))
     clear Y0 JF1
     go_wp2_with fail
     refine ((K0.out).go hX ((KF0.out).le hXC hl2 (by omega))).mono ?_
     rintro e k1 ⟨rfl,K1⟩
     have KF1:=hide ((KF0.out).then hXC)
     clear K0 KF0
     go_wp2_with fail
     refine ((K1.out).want hS [59] ((KF1.out).le (X.Cap.want [59]) hl2 (by omega))).mono ?_
     rintro e k2 ⟨rfl,K2⟩
     have KF2:=hide ((KF1.out).then (X.Cap.want [59]))
     clear K1 KF1
     have HE:Hid (X.andThen X.optPub X.defR (remT s L a)=((X.andThen X.optPub X.defR (remT s L a)).1,(X.andThen X.optPub X.defR (remT s L a)).2)):=(rfl:_=_)
     have HG:Hid (GvM w rb s L tv 0 (.br 4 (X.andThen X.optPub X.defR (remT s L a)).1) (X.andThen X.optPub X.defR (remT s L a)).2 w.heap.size k2):=by
      have hd:=K2.out
      have e1:X.optPub (remT s L a)=X.take (remT s L a):=optPub_yes hpub
      rw [show X.andThen X.optPub X.defR (remT s L a)=((X.optPub (remT s L a)).1++(X.defR (X.optPub (remT s L a)).2).1,(X.defR (X.optPub (remT s L a)).2).2) from rfl,e1]
      unfold X.defR
      simp only [X.andThen,X.sDef,hts4,has,Bool.false_eq_true,if_false,List.nil_append,List.append_assoc] at hd ⊢
      exact hd.closed kA (fun g hg=>by cases hg)
     clear K2
     go_wp2_with fail
     go_ret
     exact ⟨_,rfl,by rw [X.kid_eq,if_pos hst,if_neg (by rw [hu'];simp)];exact HG⟩
  | false =>
   have H3:=hide H2.out
   have HF3:=hide HF0.out
   clear H2 HF0
   have hO2:(X.optPub (remT s L a)).2=(remT s L a):=by rw [optPub_no hpub]
   go_wp2_with fail
   refine ((H3.out).is hS [117,115,101]).mono ?_
   rintro e w4 ⟨rfl,H4⟩
   clear H3
   obtain ⟨q0,qf⟩:=(H4.out).forKind
   cases hu:X.isN [117,115,101] (remT s L a) with
   | true =>
    have hu':X.isN X.sUse (X.optPub (remT s L a)).2=true:=by rw [hO2];exact hu
    have H5:=hide ((H4.out).ofKind 3)
    clear H4 hX hXC
    go_wp2_with fail
    refine ((H5.out).want hS [117,115,101] ((HF3.out).le (X.Cap.want [117,115,101]) hl2 (by omega))).mono ?_
    rintro e j0 ⟨rfl,J0⟩
    have JF0:=hide ((HF3.out).then (X.Cap.want [117,115,101]))
    clear H5 HF3 q0 qf
    go_wp2_with fail
    refine ((J0.out).go (rname_any s L 0 hS) ((JF0.out).le X.Cap.wname hl2 (by omega))).mono ?_
    rintro e j1 ⟨rfl,J1⟩
    have JF1:=hide ((JF0.out).then X.Cap.wname)
    clear J0 JF0
    go_wp2_with fail
    refine ((J1.out).want hS [46] ((JF1.out).le (X.Cap.want [46]) hl2 (by omega))).mono ?_
    rintro e j2 ⟨rfl,J2⟩
    have JF2:=hide ((JF1.out).then (X.Cap.want [46]))
    clear J1 JF1
    go_wp2_with fail
    refine ((J2.out).go (rname_any s L 0 hS) ((JF2.out).le X.Cap.wname hl2 (by omega))).mono ?_
    rintro e j3 ⟨rfl,J3⟩
    have JF3:=hide ((JF2.out).then X.Cap.wname)
    clear J2 JF2
    go_wp2_with fail
    generalize hts4:(X.wname (X.want [46] (X.wname (X.want [117,115,101] (remT s L a)).2).2).2).2=ts4 at *
    refine ((J3.out).is hS [97,115]).mono ?_
    rintro e y0 ⟨rfl,Y0⟩
    clear J3
    cases has:X.isN [97,115] ts4 with
    | true =>
     go_wp2_with fail
     refine ((Y0.out).go (rtake_any s L 0 hS) ((JF3.out).le X.Cap.take hl2 (by omega))).mono ?_
     rintro e k0 ⟨rfl,K0⟩
     have KF0:=hide ((JF3.out).then X.Cap.take)
     clear Y0 JF3
     go_wp2_with fail
     refine ((K0.out).go (rname_any s L 0 hS) ((KF0.out).le X.Cap.wname hl2 (by omega))).mono ?_
     rintro e k1 ⟨rfl,K1⟩
     have KF1:=hide ((KF0.out).then X.Cap.wname)
     clear K0 KF0
     go_wp2_with fail
     refine ((K1.out).want hS [59] ((KF1.out).le (X.Cap.want [59]) hl2 (by omega))).mono ?_
     rintro e k2 ⟨rfl,K2⟩
     have KF2:=hide ((KF1.out).then (X.Cap.want [59]))
     clear K1 KF1
     have HE:Hid (X.andThen X.optPub X.useR (remT s L a)=((X.andThen X.optPub X.useR (remT s L a)).1,(X.andThen X.optPub X.useR (remT s L a)).2)):=(rfl:_=_)
     have HG:Hid (GvM w rb s L tv 0 (.br 3 (X.andThen X.optPub X.useR (remT s L a)).1) (X.andThen X.optPub X.useR (remT s L a)).2 w.heap.size k2):=by
      have hd:=K2.out
      have e1:X.optPub (remT s L a)=([],(remT s L a)):=optPub_no hpub
      rw [show X.andThen X.optPub X.useR (remT s L a)=((X.optPub (remT s L a)).1++(X.useR (X.optPub (remT s L a)).2).1,(X.useR (X.optPub (remT s L a)).2).2) from rfl,e1]
      unfold X.useR
      simp only [X.andThen,List.nil_append,X.sUse,hts4,has,if_true,List.append_assoc] at hd ⊢
      exact hd.closed kA (fun g hg=>by cases hg)
     clear K2
     go_wp2_with fail
     go_ret
     exact ⟨_,rfl,by rw [X.kid_eq,if_pos hst,if_pos hu'];exact HG⟩
    | false =>
     go_wp2_with fail
     refine ((Y0.out).want hS [59] ((JF3.out).le (X.Cap.want [59]) hl2 (by omega))).mono ?_
     rintro e k0 ⟨rfl,K0⟩
     have KF0:=hide ((JF3.out).then (X.Cap.want [59]))
     clear Y0 JF3
     have HE:Hid (X.andThen X.optPub X.useR (remT s L a)=((X.andThen X.optPub X.useR (remT s L a)).1,(X.andThen X.optPub X.useR (remT s L a)).2)):=(rfl:_=_)
     have HG:Hid (GvM w rb s L tv 0 (.br 3 (X.andThen X.optPub X.useR (remT s L a)).1) (X.andThen X.optPub X.useR (remT s L a)).2 w.heap.size k0):=by
      have hd:=K0.out
      have e1:X.optPub (remT s L a)=([],(remT s L a)):=optPub_no hpub
      rw [show X.andThen X.optPub X.useR (remT s L a)=((X.optPub (remT s L a)).1++(X.useR (X.optPub (remT s L a)).2).1,(X.useR (X.optPub (remT s L a)).2).2) from rfl,e1]
      unfold X.useR
      simp only [X.andThen,X.sUse,hts4,has,Bool.false_eq_true,if_false,List.nil_append,List.append_assoc] at hd ⊢
      exact hd.closed kA (fun g hg=>by cases hg)
     clear K0
     go_wp2_with fail
     go_ret
     exact ⟨_,rfl,by rw [X.kid_eq,if_pos hst,if_pos hu'];exact HG⟩
   | false =>
    have hu':X.isN X.sUse (X.optPub (remT s L a)).2=false:=by rw [hO2];exact hu
    have H5:=hide ((H4.out).ofKind 4)
    clear H4
    go_wp2_with fail
    refine ((H5.out).want hS [100,101,102] ((HF3.out).le (X.Cap.want [100,101,102]) hl2 (by omega))).mono ?_
    rintro e j0 ⟨rfl,J0⟩
    have JF0:=hide ((HF3.out).then (X.Cap.want [100,101,102]))
    clear H5 HF3 q0 qf
    go_wp2_with fail
    refine ((J0.out).go (rname_any s L 0 hS) ((JF0.out).le X.Cap.wname hl2 (by omega))).mono ?_
    rintro e j1 ⟨rfl,J1⟩
    have JF1:=hide ((JF0.out).then X.Cap.wname)
    clear J0 JF0
    go_wp2_with fail
    generalize hts4:(X.wname (X.want [100,101,102] (remT s L a)).2).2=ts4 at *
    refine ((J1.out).is hS [40]).mono ?_
    rintro e y0 ⟨rfl,Y0⟩
    clear J1
    cases has:X.isN [40] ts4 with
    | true =>
     go_wp2_with fail
     refine ((Y0.out).go (rparams_any s L 0 hS) ((JF1.out).le X.Cap.params hl2 (by omega))).mono ?_
     rintro e k0 ⟨rfl,K0⟩
     have KF0:=hide ((JF1.out).then X.Cap.params)
     clear Y0 JF1
     go_wp2_with fail
     refine ((K0.out).want hS [61] ((KF0.out).le (X.Cap.want [61]) hl2 (by omega))).mono ?_
     rintro e k1 ⟨rfl,K1⟩
     have KF1:=hide ((KF0.out).then (X.Cap.want [61]))
     clear K0 KF0
     go_wp2_with fail
     refine ((K1.out).go hX ((KF1.out).le hXC hl2 (by omega))).mono ?_
     rintro e k2 ⟨rfl,K2⟩
     have KF2:=hide ((KF1.out).then hXC)
     clear K1 KF1
     go_wp2_with fail
     refine ((K2.out).want hS [59] ((KF2.out).le (X.Cap.want [59]) hl2 (by omega))).mono ?_
     rintro e k3 ⟨rfl,K3⟩
     have KF3:=hide ((KF2.out).then (X.Cap.want [59]))
     clear K2 KF2
     have HE:Hid (X.andThen X.optPub X.defR (remT s L a)=((X.andThen X.optPub X.defR (remT s L a)).1,(X.andThen X.optPub X.defR (remT s L a)).2)):=(rfl:_=_)
     have HG:Hid (GvM w rb s L tv 0 (.br 4 (X.andThen X.optPub X.defR (remT s L a)).1) (X.andThen X.optPub X.defR (remT s L a)).2 w.heap.size k3):=by
      have hd:=K3.out
      have e1:X.optPub (remT s L a)=([],(remT s L a)):=optPub_no hpub
      rw [show X.andThen X.optPub X.defR (remT s L a)=((X.optPub (remT s L a)).1++(X.defR (X.optPub (remT s L a)).2).1,(X.defR (X.optPub (remT s L a)).2).2) from rfl,e1]
      unfold X.defR
      simp only [X.andThen,List.nil_append,X.sDef,hts4,has,if_true,List.append_assoc] at hd ⊢
      exact hd.closed kA (fun g hg=>by cases hg)
     clear K3
     go_wp2_with fail
     go_ret
     exact ⟨_,rfl,by rw [X.kid_eq,if_pos hst,if_neg (by rw [hu'];simp)];exact HG⟩
    | false =>
     go_wp2_with fail
     refine ((Y0.out).want hS [61] ((JF1.out).le (X.Cap.want [61]) hl2 (by omega))).mono ?_
     rintro e k0 ⟨rfl,K0⟩
     have KF0:=hide ((JF1.out).then (X.Cap.want [61]))
     clear Y0 JF1
     go_wp2_with fail
     refine ((K0.out).go hX ((KF0.out).le hXC hl2 (by omega))).mono ?_
     rintro e k1 ⟨rfl,K1⟩
     have KF1:=hide ((KF0.out).then hXC)
     clear K0 KF0
     go_wp2_with fail
     refine ((K1.out).want hS [59] ((KF1.out).le (X.Cap.want [59]) hl2 (by omega))).mono ?_
     rintro e k2 ⟨rfl,K2⟩
     have KF2:=hide ((KF1.out).then (X.Cap.want [59]))
     clear K1 KF1
     have HE:Hid (X.andThen X.optPub X.defR (remT s L a)=((X.andThen X.optPub X.defR (remT s L a)).1,(X.andThen X.optPub X.defR (remT s L a)).2)):=(rfl:_=_)
     have HG:Hid (GvM w rb s L tv 0 (.br 4 (X.andThen X.optPub X.defR (remT s L a)).1) (X.andThen X.optPub X.defR (remT s L a)).2 w.heap.size k2):=by
      have hd:=K2.out
      have e1:X.optPub (remT s L a)=([],(remT s L a)):=optPub_no hpub
      rw [show X.andThen X.optPub X.defR (remT s L a)=((X.optPub (remT s L a)).1++(X.defR (X.optPub (remT s L a)).2).1,(X.defR (X.optPub (remT s L a)).2).2) from rfl,e1]
      unfold X.defR
      simp only [X.andThen,X.sDef,hts4,has,Bool.false_eq_true,if_false,List.nil_append,List.append_assoc] at hd ⊢
      exact hd.closed kA (fun g hg=>by cases hg)
     clear K2
     go_wp2_with fail
     go_ret
     exact ⟨_,rfl,by rw [X.kid_eq,if_pos hst,if_neg (by rw [hu'];simp)];exact HG⟩
end Go.Proofs.YtgpcpbmacdhlkaaGreatDoor
