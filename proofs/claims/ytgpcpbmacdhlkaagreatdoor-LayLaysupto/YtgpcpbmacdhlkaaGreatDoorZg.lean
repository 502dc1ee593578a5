/- The document's reader: names in brackets,expressions in brackets. -/
import Derived.Test.YtgpcpbmacdhlkaaGreatDoorZw
import Derived.Test.YtgpcpbmacdhlkaaGreatDoorXv
namespace Go.Proofs.YtgpcpbmacdhlkaaGreatDoor
open Go.RowKit
open M
def Few (L:List Tk) (ps:List X.Part) (ts:List X.Tok) (c:Nat):Prop:=ps.length+2*ts.length≤c+2*L.length
theorem Few.then {L:List Tk} {ps:List X.Part} {ts:List X.Tok} {c d:Nat} {F:X.R} (h:Few L ps ts c) (hF:X.Cap F d):Few L (ps++(F ts).1) (F ts).2 (c+d):=by
 have:=hF ts
 unfold Few at *
 rw [List.length_append];omega
theorem Few.le {L:List Tk} {ps:List X.Part} {ts:List X.Tok} {c d:Nat} {F:X.R} (h:Few L ps ts c) (hF:X.Cap F d) (hL:L.length≤268435456) (hc:c+d≤1000):ps.length+(F ts).1.length≤1073741824:=by
 have:=hF ts
 unfold Few at h
 omega
theorem Few.take {L:List Tk} {ps:List X.Part} {ts:List X.Tok} {c:Nat} (h:Few L ps ts (c+1)) (hn:X.nxt ts≠none):Few L (ps++(X.take ts).1) (X.take ts).2 c:=by
 have h1:=X.take_len ts
 have h2:=X.take_lt hn
 unfold Few at *
 rw [List.length_append];omega
theorem Few.mono {L:List Tk} {ps:List X.Part} {ts:List X.Tok} {c d:Nat} (h:Few L ps ts c) (hd:c≤d):Few L ps ts d:=by unfold Few at *;omega
theorem few_new (s:ByteArray) (L:List Tk) (a c:Nat):Few L [] (remT s L a) c:=by
 unfold Few remT
 rw [List.length_map,List.length_drop];simp;omega
theorem sev_more {O:X.R} (hO:X.Shr O) {ts0 ts1:List X.Tok} {acc:List X.Part} (he:X.andThen O (X.sevL O) ts0=(acc++(X.sevL O ts1).1,(X.sevL O ts1).2)) (hy:X.isN [44] ts1=true) :
  X.andThen O (X.sevL O) ts0=((acc++(X.take ts1).1++(O (X.take ts1).2).1)++(X.sevL O (O (X.take ts1).2).2).1,(X.sevL O (O (X.take ts1).2).2).2):=by
 rw [he,X.sevL_yes hO hy]
 simp only [X.andThen,List.append_assoc]
theorem sev_done {O:X.R} {ts0 ts1:List X.Tok} {acc:List X.Part} (he:X.andThen O (X.sevL O) ts0=(acc++(X.sevL O ts1).1,(X.sevL O ts1).2)) (hy:X.isN [44] ts1=false) :
  X.andThen O (X.sevL O) ts0=(acc,ts1):=by
 rw [he,X.sevL_no hy,List.append_nil]
theorem several_rest {O:X.R} {x:List UInt8} {ts0 ts1:List X.Tok} {acc:List X.Part} (hn:X.isN x ts0=false) (he:X.andThen O (X.sevL O) ts0=(acc,ts1)):X.several O x ts0=(acc++(X.want x ts1).1,(X.want x ts1).2):=by
 rw [X.several_eq,if_neg (by rw [hn];simp)]
 have h1:=congrArg Prod.fst he
 have h2:=congrArg Prod.snd he
 simp only [X.andThen] at h1 h2 ⊢
 rw [h2,← h1,List.append_assoc]
theorem several_none {O:X.R} {x:List UInt8} {ts0:List X.Tok} (hn:X.isN x ts0=true):X.several O x ts0=X.want x ts0:=by
 rw [X.several_eq,if_pos hn]
set_option maxRecDepth 100000 in
set_option maxHeartbeats 1000000 in
theorem rparams_any (s:ByteArray) (L:List Tk) (dp:Nat) (hS:TokS s L):ReadsM 72 X.params (fun _=>True) s L dp:=by
 intro rb tv a lo B k rv vs ps Lo Hi w h _ hl
 obtain ⟨i0,hi0,hz0,hz1,hz2⟩:=info_parts infoM
 have hl2:=hS.len
 have HW:=hide h
 have HN0:=hide (h.rdr.new 6)
 have kA:On rb w (w.alloc (mcell 6 0 [] (.slice none 0 0) 0 0 0 0 false)):=On.ofBelow rb ((Below.refl _ w).alloc (Nat.le_refl _) _)
 have HF0:=hide (few_new s L a 0)
 have hl':ps.length≤1073741823:=by have:(X.params (remT s L a)).1.length=1:=rfl;omega
 have HFin:Hid (∀ (cps:List X.Part) (ts':List X.Tok) (w4:World),X.andThen (X.want [40]) (X.several X.wname [41]) (remT s L a)=(cps,ts')→DnM (w.alloc (mcell 6 0 [] (.slice none 0 0) 0 0 0 0 false)) rb s L tv dp w.heap.size w.heap.size 6 (.slice none 0 0) cps ts' w4→X.params (remT s L a)=([.br 6 cps],ts')∧GvM w rb s L tv dp (.br 6 cps) ts' w.heap.size w4):=fun cps ts' w4 e hd=>⟨by unfold X.params X.node;rw [e],hd.closed kA (fun g hg=>by cases hg)⟩
 clear h hl kA
 go_enter Tryz.func72,Tryz.ntmps72
 go_wp2_with fail
 refine ((HN0.out).want hS [40] ((HF0.out).le (X.Cap.want [40]) hl2 (by omega))).mono ?_
 rintro e w1 ⟨rfl,H1⟩
 have HF1:=hide ((HF0.out).then (X.Cap.want [40]))
 rw [List.nil_append] at H1 HF1
 generalize hr1:X.want [40] (remT s L a)=r1 at *
 have HR1:=hide hr1
 clear hr1 HN0 HF0
 go_wp2_with fail
 refine ((H1.out).is hS [41]).mono ?_
 rintro e w2 ⟨rfl,H2⟩
 clear H1
 cases hsh:X.isN [41] r1.2 with
 | true =>
  go_wp2_with fail
  refine ((H2.out).want hS [41] ((HF1.out).le (X.Cap.want [41]) hl2 (by omega))).mono ?_
  rintro e w4 ⟨rfl,H4⟩
  have HE:Hid (X.andThen (X.want [40]) (X.several X.wname [41]) (remT s L a)=(r1.1++(X.want [41] r1.2).1,(X.want [41] r1.2).2)):=by
   show _=_
   unfold X.andThen
   rw [HR1.out,several_none hsh]
  clear HF1 HR1 H2 hsh
  obtain ⟨hp,HG0⟩:=(HFin.out) _ _ w4 (HE.out) (H4.out)
  have HP:=hide hp
  have HG:=hide HG0
  clear HG0 hp HFin
  obtain ⟨b3,f3,hbl,hlo,HN,HV,HO⟩:=(HW.out).forTake HG.out
  have hvb:vs.length≤1073741823:=by rw [HV.out];omega
  go_wp2_with (at_builtin;refine wpList_append_lies _ rfl _ _ 56 rfl lo 52 i0 _ 1 8 Tryz.underlying56 hi0 hz0 hz1 hz2 rfl (by decide) rv vs.length _ rfl ((HO.out).alloc _) ⟨w4.heap.size,0,none⟩ 1 1 [.pointer (some ⟨w.heap.size,0,none⟩)] rfl rfl (World.news_of_block (cs:=#[.pointer (some ⟨w.heap.size,0,none⟩)]) (heap_alloc_new w4 _)) (by simp [Value.oneCell']) (by omega) (by unfold maxLen;omega) (by omega) (by simp;omega) (w4.heap.size+1) (by simp) ?_;intro g cap5 w5 hown5 hgrow5 hat5 hlt5;have x1:w5.cell? ⟨B,3,none⟩=some rv:=(hgrow5.cell_far ⟨B,3,none⟩ (by simp;omega) (HN.out)).trans (old1 hbl b3);have x2:w5.frozen? ⟨B,3,none⟩=false:=(hgrow5.frozen_far ⟨B,3,none⟩ (by simp;omega) (HN.out)).trans ((World.frozen?_alloc_old _ _ ⟨B,3,none⟩ (by simp;omega)).trans f3);have HX:=hide ((HW.out).take HG.out hgrow5 hown5 hat5);clear hown5 hgrow5)
  go_end0
  exact ⟨rfl,by rw [HP.out];exact HX.out⟩
 | false =>
  have HRest:=hide (fun acc ts1=>several_rest (O:=X.wname) (x:=[41]) (ts0:=r1.2) (acc:=acc) (ts1:=ts1) hsh)
  clear hsh
  go_wp2_with fail
  refine ((H2.out).go (rname_any s L dp hS) ((HF1.out).le X.Cap.wname hl2 (by omega))).mono ?_
  rintro e w3 ⟨rfl,H3⟩
  have HF3:=hide ((HF1.out).then X.Cap.wname)
  have HE0:Hid (X.andThen X.wname (X.sevL X.wname) r1.2=((X.wname r1.2).1++(X.sevL X.wname (X.wname r1.2).2).1,(X.sevL X.wname (X.wname r1.2).2).2)):=(rfl:_=_)
  clear H2 HF1
  generalize X.wname r1.2=r2 at *
  go_wp2_with fail
  refine ((H3.out).is hS [44]).mono ?_
  rintro e w3' ⟨rfl,H3'⟩
  clear H3
  go_wp2_with fail
  go_loopw [6] (fun v wr=>∃ (acc:List X.Part) (ts1:List X.Tok),v=.bool (X.isN [44] ts1)∧Hid (Few L (r1.1++acc) ts1 2)∧Hid (DnM (w.alloc (mcell 6 0 [] (.slice none 0 0) 0 0 0 0 false)) rb s L tv dp w.heap.size w.heap.size 6 (.slice none 0 0) (r1.1++acc) ts1 wr)∧Hid (X.andThen X.wname (X.sevL X.wname) r1.2=(acc++(X.sevL X.wname ts1).1,(X.sevL X.wname ts1).2))) (fun _ wr=>L.length - atM rb wr)
  case atStart=>exact ⟨r2.1,r2.2,rfl,HF3,H3',HE0⟩
  case round =>
   obtain ⟨acc,ts1,rfl,HFj,HJ,HEj⟩:=hrel
   clear HF3 H3' HE0
   have hat:=(HJ.out).at
   cases hmore:X.isN [44] ts1 with
   | false =>
    have HEn:=hide (sev_done HEj.out hmore)
    go_wp2_with fail
    refine ((HJ.out).want hS [41] ((HFj.out).le (X.Cap.want [41]) hl2 (by omega))).mono ?_
    rintro e w4 ⟨rfl,H4⟩
    have HE:Hid (X.andThen (X.want [40]) (X.several X.wname [41]) (remT s L a)=(r1.1++acc++(X.want [41] ts1).1,(X.want [41] ts1).2)):=by
     show _=_
     unfold X.andThen
     rw [HR1.out,(HRest.out) _ _ HEn.out,List.append_assoc]
    clear HFj HJ HEj HEn HR1 HRest hat
    obtain ⟨hp,HG0⟩:=(HFin.out) _ _ w4 (HE.out) (H4.out)
    have HP:=hide hp
    have HG:=hide HG0
    clear HG0 hp HFin
    obtain ⟨b3,f3,hbl,hlo,HN,HV,HO⟩:=(HW.out).forTake HG.out
    have hvb:vs.length≤1073741823:=by rw [HV.out];omega
    go_wp2_with (at_builtin;refine wpList_append_lies _ rfl _ _ 56 rfl lo 52 i0 _ 1 8 Tryz.underlying56 hi0 hz0 hz1 hz2 rfl (by decide) rv vs.length _ rfl ((HO.out).alloc _) ⟨w4.heap.size,0,none⟩ 1 1 [.pointer (some ⟨w.heap.size,0,none⟩)] rfl rfl (World.news_of_block (cs:=#[.pointer (some ⟨w.heap.size,0,none⟩)]) (heap_alloc_new w4 _)) (by simp [Value.oneCell']) (by omega) (by unfold maxLen;omega) (by omega) (by simp;omega) (w4.heap.size+1) (by simp) ?_;intro g cap5 w5 hown5 hgrow5 hat5 hlt5;have x1:w5.cell? ⟨B,3,none⟩=some rv:=(hgrow5.cell_far ⟨B,3,none⟩ (by simp;omega) (HN.out)).trans (old1 hbl b3);have x2:w5.frozen? ⟨B,3,none⟩=false:=(hgrow5.frozen_far ⟨B,3,none⟩ (by simp;omega) (HN.out)).trans ((World.frozen?_alloc_old _ _ ⟨B,3,none⟩ (by simp;omega)).trans f3);have HX:=hide ((HW.out).take HG.out hgrow5 hown5 hat5);clear hown5 hgrow5)
    go_end0
    exact ⟨rfl,by rw [HP.out];exact HX.out⟩
   | true =>
    have HEn:=hide (sev_more X.Shr.wname HEj.out hmore)
    have hnx:=X.isN_next hmore
    go_wp2_with fail
    refine ((HJ.out).go (rtake_any s L dp hS) ((HFj.out).le X.Cap.take hl2 (by omega))).mono ?_
    rintro e w5 ⟨rfl,H5⟩
    have HF5:=hide ((HFj.out).take hnx)
    have hlt:=X.take_lt hnx
    clear HJ HFj HEj hmore hnx
    generalize X.take ts1=r3 at *
    go_wp2_with fail
    refine ((H5.out).go (rname_any s L dp hS) ((HF5.out).le X.Cap.wname hl2 (by omega))).mono ?_
    rintro e w6 ⟨rfl,H6⟩
    have HF6:=hide ((HF5.out).then X.Cap.wname)
    have hle:=X.Shr.wname.le r3.2
    clear H5 HF5
    generalize X.wname r3.2=r4 at *
    go_wp2_with fail
    refine ((H6.out).is hS [44]).mono ?_
    rintro e w7 ⟨rfl,H7⟩
    have hat7:=(H7.out).at
    clear H6
    rw [List.append_assoc,List.append_assoc] at H7 HF6
    go_wp2_with fail
    refine ⟨⟨acc++(r3.1++r4.1),r4.2,rfl,HF6,H7,?_⟩,by rw [hat,hat7];omega⟩
    have:=HEn.out
    rw [List.append_assoc acc] at this
    exact this
end Go.Proofs.YtgpcpbmacdhlkaaGreatDoor
/- The document's reader: expressions in brackets;a level more. -/
namespace Go.Proofs.YtgpcpbmacdhlkaaGreatDoor
open Go.RowKit
open M
set_option maxRecDepth 100000 in
set_option maxHeartbeats 1000000 in
theorem rlist_any (s:ByteArray) (L:List Tk) (dp:Nat) (hS:TokS s L) (E:X.R) (hE:ReadsM 97 E (fun _=>True) s L dp) (hC:X.Cap E 1) (hSh:X.Shr E) (kd:Nat) (x:List UInt8):GivesM 137 (fun r=>#[r,.int .i64 kd,.string (ba x)]) (X.node kd (X.andThen X.take (X.several E x))) s L dp:=by
 intro rb tv a w h
 have hl2:=hS.len
 have HN0:=hide (h.new kd)
 have kA:On rb w (w.alloc (mcell kd 0 [] (.slice none 0 0) 0 0 0 0 false)):=On.ofBelow rb ((Below.refl _ w).alloc (Nat.le_refl _) _)
 have HF0:=hide (few_new s L a 1)
 have HFin:Hid (∀ (cps:List X.Part) (ts':List X.Tok) (w4:World),X.andThen X.take (X.several E x) (remT s L a)=(cps,ts')→DnM (w.alloc (mcell kd 0 [] (.slice none 0 0) 0 0 0 0 false)) rb s L tv dp w.heap.size w.heap.size kd (.slice none 0 0) cps ts' w4→(X.node kd (X.andThen X.take (X.several E x)) (remT s L a)).1=[.br kd cps]∧GvM w rb s L tv dp (.br kd cps) (X.node kd (X.andThen X.take (X.several E x)) (remT s L a)).2 w.heap.size w4):=fun cps ts' w4 e hd=>⟨by unfold X.node;rw [e],by unfold X.node;rw [e];exact hd.closed kA (fun g hg=>by cases hg)⟩
 clear h kA
 go_enter Tryz.func137,Tryz.ntmps137
 go_wp2_with fail
 refine ((HN0.out).go (rtake_any s L dp hS) ((HF0.out).le X.Cap.take hl2 (by omega))).mono ?_
 rintro e w1 ⟨rfl,H1⟩
 have HF1:=hide ((HF0.out).then X.Cap.take)
 rw [List.nil_append] at H1 HF1
 generalize hr1:X.take (remT s L a)=r1 at *
 have HR1:=hide hr1
 clear hr1 HN0 HF0
 go_wp2_with fail
 refine ((H1.out).is hS x).mono ?_
 rintro e w2 ⟨rfl,H2⟩
 clear H1
 cases hsh:X.isN x r1.2 with
 | true =>
  go_wp2_with fail
  refine ((H2.out).want hS x ((HF1.out).le (X.Cap.want x) hl2 (by omega))).mono ?_
  rintro e w4 ⟨rfl,H4⟩
  have HE:Hid (X.andThen X.take (X.several E x) (remT s L a)=(r1.1++(X.want x r1.2).1,(X.want x r1.2).2)):=by
   show _=_
   unfold X.andThen
   rw [HR1.out,several_none hsh]
  clear HF1 HR1 H2 hsh
  go_wp2_with fail
  go_ret
  exact ⟨_,_,rfl,(HFin.out _ _ w4 HE.out H4.out).1,(HFin.out _ _ w4 HE.out H4.out).2⟩
 | false =>
  have HRest:=hide (fun acc ts1=>several_rest (O:=E) (x:=x) (ts0:=r1.2) (acc:=acc) (ts1:=ts1) hsh)
  clear hsh
  go_wp2_with fail
  refine ((H2.out).go hE ((HF1.out).le hC hl2 (by omega))).mono ?_
  rintro e w3 ⟨rfl,H3⟩
  have HF3:=hide ((HF1.out).then hC)
  have HE0:Hid (X.andThen E (X.sevL E) r1.2=((E r1.2).1++(X.sevL E (E r1.2).2).1,(X.sevL E (E r1.2).2).2)):=(rfl:_=_)
  clear H2 HF1
  generalize E r1.2=r2 at *
  go_wp2_with fail
  refine ((H3.out).is hS [44]).mono ?_
  rintro e w3' ⟨rfl,H3'⟩
  clear H3
  go_wp2_with fail
  go_loopw [9] (fun v wr=>∃ (acc:List X.Part) (ts1:List X.Tok),v=.bool (X.isN [44] ts1)∧Hid (Few L (r1.1++acc) ts1 2)∧Hid (DnM (w.alloc (mcell kd 0 [] (.slice none 0 0) 0 0 0 0 false)) rb s L tv dp w.heap.size w.heap.size kd (.slice none 0 0) (r1.1++acc) ts1 wr)∧Hid (X.andThen E (X.sevL E) r1.2=(acc++(X.sevL E ts1).1,(X.sevL E ts1).2))) (fun _ wr=>L.length - atM rb wr)
  case atStart=>exact ⟨r2.1,r2.2,rfl,(HF3.out).mono (by omega),H3',HE0⟩
  case round =>
   obtain ⟨acc,ts1,rfl,HFj,HJ,HEj⟩:=hrel
   clear HF3 H3' HE0
   have hat:=(HJ.out).at
   cases hmore:X.isN [44] ts1 with
   | false =>
    have HEn:=hide (sev_done HEj.out hmore)
    go_wp2_with fail
    refine ((HJ.out).want hS x ((HFj.out).le (X.Cap.want x) hl2 (by omega))).mono ?_
    rintro e w4 ⟨rfl,H4⟩
    have HE:Hid (X.andThen X.take (X.several E x) (remT s L a)=(r1.1++acc++(X.want x ts1).1,(X.want x ts1).2)):=by
     show _=_
     unfold X.andThen
     rw [HR1.out,(HRest.out) _ _ HEn.out,List.append_assoc]
    clear HFj HJ HEj HEn HR1 HRest hat
    go_wp2_with fail
    go_ret
    exact ⟨_,_,rfl,(HFin.out _ _ w4 HE.out H4.out).1,(HFin.out _ _ w4 HE.out H4.out).2⟩
   | true =>
    have HEn:=hide (sev_more hSh HEj.out hmore)
    have hnx:=X.isN_next hmore
    go_wp2_with fail
    refine ((HJ.out).go (rtake_any s L dp hS) ((HFj.out).le X.Cap.take hl2 (by omega))).mono ?_
    rintro e w5 ⟨rfl,H5⟩
    have HF5:=hide ((HFj.out).take hnx)
    have hlt:=X.take_lt hnx
    clear HJ HFj HEj hmore hnx
    generalize X.take ts1=r3 at *
    go_wp2_with fail
    refine ((H5.out).go hE ((HF5.out).le hC hl2 (by omega))).mono ?_
    rintro e w6 ⟨rfl,H6⟩
    have HF6:=hide ((HF5.out).then hC)
    have hle:=hSh.le r3.2
    clear H5 HF5
    generalize E r3.2=r4 at *
    go_wp2_with fail
    refine ((H6.out).is hS [44]).mono ?_
    rintro e w7 ⟨rfl,H7⟩
    have hat7:=(H7.out).at
    clear H6
    rw [List.append_assoc,List.append_assoc] at H7 HF6
    go_wp2_with fail
    refine ⟨⟨acc++(r3.1++r4.1),r4.2,rfl,HF6,H7,?_⟩,by rw [hat,hat7];omega⟩
    have:=HEn.out
    rw [List.append_assoc acc] at this
    exact this
theorem WkM.deep {w:World} {rb:Nat} {s:ByteArray} {L:List Tk} {tv:Value} {a dp lo B k:Nat} {rv:Value} {vs:List Value} {ps:List X.Part} {Lo Hi:Nat→Nat} (h:WkM w rb s L tv a dp lo B k rv vs ps Lo Hi) (y:Nat):WkM (w.setCell ⟨rb,3,none⟩ (.int .i64 (y:Int))) rb s L tv a y lo B k rv vs ps Lo Hi:=by
 obtain ⟨c,hr⟩:=h.rdr.raw
 have hon:On rb w (w.setCell ⟨rb,3,none⟩ (.int .i64 (y:Int))):=On.set (Kp.refl _ w) 3 _
 exact h.moved hon (h.rdr.moved hon (hr.set3 (y:Int)) h.rdr.le)
set_option maxRecDepth 100000 in
set_option maxHeartbeats 1000000 in
theorem rpart_any (s:ByteArray) (L:List Tk) (dp:Nat) (E:X.R) (hE:ReadsM 73 E (fun _=>True) s L (dp+1)) (hd:dp≤100):ReadsM 97 E (fun _=>True) s L dp:=by
 intro rb tv a lo B k rv vs ps Lo Hi w h _ hl
 obtain ⟨c,hr⟩:=h.rdr.raw
 obtain ⟨⟨c0,c1,c2,c3⟩,⟨f2,f3,f4⟩,-⟩:=hr.facts
 have HC:=hide (hE rb tv a lo B k rv vs ps Lo Hi _ (h.deep (dp+1)) trivial hl)
 have hon:On rb w (w.setCell ⟨rb,3,none⟩ (.int .i64 ((dp+1:Nat):Int))):=On.set (Kp.refl _ w) 3 _
 have HON:=hide hon
 rw [Int.natCast_add] at HC HON
 clear h hr hon
 go_enter Tryz.func97,Tryz.ntmps97
 go_wp2_with fail
 refine (HC.out).mono ?_
 rintro e w1 ⟨rfl,H1⟩
 obtain ⟨a1,rv1,vs1,Lo1,Hi1,g1,g2,g3,g4⟩:=H1.out
 have HW1:=hide g1
 have HG2:=hide g2
 have HG3:=hide g3
 have HG4:=hide g4
 clear g1 g2 g3 g4 H1 c0 c1 c2 c3 f2 f3 f4 HC
 obtain ⟨c,hr⟩:=(HW1.out).rdr.raw
 obtain ⟨⟨c0,c1,c2,c3⟩,⟨f2,f3,f4⟩,-⟩:=hr.facts
 clear hr
 go_wp2_with fail
 go_end0
 refine ⟨rfl,a1,rv1,vs1,Lo1,Hi1,(HW1.out).deep dp,HG2.out,fun g hg=>?_,?_⟩
 ·rcases (HG3.out) g hg with e|e
  ·exact .inl e
  ·exact .inr (by have:=(HON.out).size;omega)
 ·have hon2:On rb w1 (w1.setCell ⟨rb,3,none⟩ (.int .i64 (dp:Int))):=On.set (Kp.refl _ w1) 3 _
  exact Kp.trans (Kp.trans (Kp.mono HON.out (fun i _ e=>.inl e)) HG4.out (fun i _ e=>e)) hon2 (fun i _ e=>.inl e)
end Go.Proofs.YtgpcpbmacdhlkaaGreatDoor
/- The document's reader: one part of an expression. -/
namespace Go.Proofs.YtgpcpbmacdhlkaaGreatDoor
open Go.RowKit
open M
def RdB (w:World) (rb:Nat) (s:ByteArray) (L:List Tk) (tv:Value) (a dp:Nat) (w1:World):Prop:=RdM w1 rb s L tv a dp∧Below w.heap.size w w1
theorem RdB.is {w w1:World} {rb:Nat} {s:ByteArray} {L:List Tk} {tv:Value} {a dp:Nat} (h:RdB w rb s L tv a dp w1) (hS:TokS s L) (x:List UInt8) :
  Calls Tryz.prog 68 #[.pointer (some ⟨rb,0,none⟩),.string (ba x)] w1 fun e w2=>e=.returned (.bool (X.isN x (remT s L a)))∧Hid (RdB w rb s L tv a dp w2) :=
 (ris_any rb s L tv a dp x w1 hS h.1).mono (fun _ _ h2=>⟨h2.1,h.1.below h2.2,h.2.trans (h2.2.mono h.2.size)⟩)
theorem RdB.kind {w w1:World} {rb:Nat} {s:ByteArray} {L:List Tk} {tv:Value} {a dp:Nat} (h:RdB w rb s L tv a dp w1) (hS:TokS s L) :
  Calls Tryz.prog 45 #[.pointer (some ⟨rb,0,none⟩)] w1 fun e w2=>e=.returned (.int .i64 (X.kindN (remT s L a)))∧Hid (RdB w rb s L tv a dp w2) :=
 (rkind_any rb s L tv a dp w1 hS h.1).mono (fun _ _ h2=>⟨h2.1,h.1.below h2.2,h.2.trans (h2.2.mono h.2.size)⟩)
theorem GvM.since {w w1 w2:World} {rb:Nat} {s:ByteArray} {L:List Tk} {tv:Value} {dp N:Nat} {p:X.Part} {ts1:List X.Tok} (h:GvM w1 rb s L tv dp p ts1 N w2) (hk:On rb w w1):GvM w rb s L tv dp p ts1 N w2:=by
 obtain ⟨a',g1,g2,g3,g4⟩:=h
 exact ⟨a',g1,g2,g3.wide hk.size (Nat.le_refl _),hk.to g4⟩
theorem isN_kind {x:List UInt8} {ts:List X.Tok} (h:X.isN x ts=true):X.kindN ts=4∨X.kindN ts=7:=by
 unfold X.isN at h
 unfold X.kindN
 cases hn:X.nxt ts with
 | none=>rw [hn] at h;cases h
 | some t =>
  rw [hn] at h
  simp only [Bool.and_eq_true,Bool.or_eq_true,beq_iff_eq] at h ⊢
  exact h.1
theorem RdB.simple {w w1:World} {rb:Nat} {s:ByteArray} {L:List Tk} {tv:Value} {a dp:Nat} (h:RdB w rb s L tv a dp w1) (hS:TokS s L) (kd:Nat) :
  Calls Tryz.prog 69 #[.pointer (some ⟨rb,0,none⟩),.pointer (some ⟨w1.heap.size,0,none⟩)] (w1.alloc (mcell kd 0 [] (.slice none 0 0) 0 0 0 0 false)) fun en w2=>en=.returned (.tuple #[])∧Hid (GvM w rb s L tv dp (.br kd (X.take (remT s L a)).1) (X.take (remT s L a)).2 w1.heap.size w2):=by
 refine ((h.1.new kd).go (rtake_any s L dp hS) ((few_new s L a 0).le X.Cap.take hS.len (by omega))).mono ?_
 rintro e w2 ⟨rfl,H⟩
 have H:=H.out
 rw [List.nil_append] at H
 exact ⟨rfl,(H.closed (On.ofBelow rb ((Below.refl _ w1).alloc (Nat.le_refl _) _)) (fun g hg=>by cases hg)).since (On.ofBelow rb h.2)⟩
theorem nb (n k:Nat):((n:Int)==((k:Nat):Int))=(n==k):=by rw [Bool.eq_iff_iff];simp;omega
set_option maxRecDepth 100000 in
set_option maxHeartbeats 1000000 in
theorem rone_any (s:ByteArray) (L:List Tk) (dp:Nat) (hS:TokS s L) (E:X.R) (hE:ReadsM 97 E (fun _=>True) s L dp) (hC:X.Cap E 1) (hSh:X.Shr E):GivesM 136 (fun r=>#[r]) (X.part E) s L dp:=by
 intro rb tv a w h
 have hl2:=hS.len
 have HR0:Hid (RdB w rb s L tv a dp w):=⟨h,Below.refl _ _⟩
 clear h
 go_enter Tryz.func136,Tryz.ntmps136
 go_wp2_with fail
 refine ((HR0.out).kind hS).mono ?_
 rintro e w1 ⟨rfl,HR1⟩
 clear HR0
 go_wp2_with fail
 refine ((HR1.out).is hS [116,114,117,101]).mono ?_
 rintro e w2 ⟨rfl,HR2⟩
 clear HR1
 go_wp2_with fail
 refine ((HR2.out).is hS [102,97,108,115,101]).mono ?_
 rintro e w3 ⟨rfl,HR3⟩
 clear HR2
 go_wp2_with fail
 refine ((HR3.out).is hS [63]).mono ?_
 rintro e w4 ⟨rfl,HR4⟩
 clear HR3
 go_wp2_with fail
 refine ((HR4.out).is hS [40]).mono ?_
 rintro e w5 ⟨rfl,HR5⟩
 clear HR4
 go_wp2_with fail
 refine ((HR5.out).is hS [91]).mono ?_
 rintro e w6 ⟨rfl,HR6⟩
 clear HR5
 have HK0:=hide (show ∀ x,X.isN x (remT s L a)=true→X.kindN (remT s L a)=4∨X.kindN (remT s L a)=7 from fun x hx=>isN_kind hx)
 cases k5:((X.kindN (remT s L a):Int)==5) with
 | true =>
  have e5:(X.kindN (remT s L a)==5)=true:=(nb _ 5).symm.trans k5
  have HEq:Hid (X.part E (remT s L a)=([.br 15 (X.take (remT s L a)).1],(X.take (remT s L a)).2)):=by
   show _=_
   unfold X.part X.node;simp only [e5,if_true]
  go_wp2_with fail
  refine ((HR6.out).simple hS 15).mono ?_
  rintro e w7 ⟨rfl,H7⟩
  go_wp2_with fail
  go_ret
  exact ⟨_,_,rfl,(by show (X.part E (remT s L a)).1=_;rw [HEq.out]),(by rw [HEq.out];exact H7)⟩
 | false =>
  have e5:(X.kindN (remT s L a)==5)=false:=(nb _ 5).symm.trans k5
  cases k6:((X.kindN (remT s L a):Int)==6) with
  | true =>
   have e6:(X.kindN (remT s L a)==6)=true:=(nb _ 6).symm.trans k6
   have HEq:Hid (X.part E (remT s L a)=([.br 16 (X.take (remT s L a)).1],(X.take (remT s L a)).2)):=by
    show _=_
    unfold X.part X.node;simp only [e5,e6,if_true,Bool.false_eq_true,if_false]
   go_wp2_with fail
   refine ((HR6.out).simple hS 16).mono ?_
   rintro e w7 ⟨rfl,H7⟩
   go_wp2_with fail
   go_ret
   exact ⟨_,_,rfl,(by show (X.part E (remT s L a)).1=_;rw [HEq.out]),(by rw [HEq.out];exact H7)⟩
  | false =>
   have e6:(X.kindN (remT s L a)==6)=false:=(nb _ 6).symm.trans k6
   cases k3:((X.kindN (remT s L a):Int)==3) with
   | true =>
    have e3:(X.kindN (remT s L a)==3)=true:=(nb _ 3).symm.trans k3
    have n3:X.kindN (remT s L a)=3:=by simpa using e3
    have y0:X.isN [116,114,117,101] (remT s L a)=false:=by
     cases hx:X.isN [116,114,117,101] (remT s L a) with
     | false=>rfl
     | true=>rcases (HK0.out) _ hx with e|e<;>omega
    have y1:X.isN [102,97,108,115,101] (remT s L a)=false:=by
     cases hx:X.isN [102,97,108,115,101] (remT s L a) with
     | false=>rfl
     | true=>rcases (HK0.out) _ hx with e|e<;>omega
    have HY0:=hide y0
    have HY1:=hide y1
    clear y0 y1 n3
    have HEq:Hid (X.part E (remT s L a)=([.br 18 (X.take (remT s L a)).1],(X.take (remT s L a)).2)):=by
     show _=_
     unfold X.part X.node;simp only [e5,e6,HY0.out,HY1.out,e3,Bool.or_self,if_true,Bool.false_eq_true,if_false]
    go_wp2_with fail
    refine ((HR6.out).simple hS 18).mono ?_
    rintro e w7 ⟨rfl,H7⟩
    go_wp2_with fail
    go_ret
    exact ⟨_,_,rfl,(by show (X.part E (remT s L a)).1=_;rw [HEq.out]),(by rw [HEq.out];exact H7)⟩
   | false =>
    have e3:(X.kindN (remT s L a)==3)=false:=(nb _ 3).symm.trans k3
    cases hy:X.isN [116,114,117,101] (remT s L a) with
    | true =>
     have HEq:Hid (X.part E (remT s L a)=([.br 17 (X.take (remT s L a)).1],(X.take (remT s L a)).2)):=by
      show _=_
      unfold X.part X.node;simp only [e5,e6,hy,Bool.true_or,if_true,Bool.false_eq_true,if_false]
     go_wp2_with fail
     refine ((HR6.out).simple hS 17).mono ?_
     rintro e w7 ⟨rfl,H7⟩
     go_wp2_with fail
     go_ret
     exact ⟨_,_,rfl,(by show (X.part E (remT s L a)).1=_;rw [HEq.out]),(by rw [HEq.out];exact H7)⟩
    | false =>
     cases hn:X.isN [102,97,108,115,101] (remT s L a) with
     | true =>
      have HEq:Hid (X.part E (remT s L a)=([.br 17 (X.take (remT s L a)).1],(X.take (remT s L a)).2)):=by
       show _=_
       unfold X.part X.node;simp only [e5,e6,hy,hn,Bool.or_true,if_true,Bool.false_eq_true,if_false]
      go_wp2_with fail
      refine ((HR6.out).simple hS 17).mono ?_
      rintro e w7 ⟨rfl,H7⟩
      go_wp2_with fail
      go_ret
      exact ⟨_,_,rfl,(by show (X.part E (remT s L a)).1=_;rw [HEq.out]),(by rw [HEq.out];exact H7)⟩
     | false =>
      cases hq:X.isN [63] (remT s L a) with
      | true =>
       have HEq:Hid (X.part E (remT s L a)=([.br 19 (X.take (remT s L a)).1],(X.take (remT s L a)).2)):=by
        show _=_
        unfold X.part X.node;simp only [e5,e6,hy,hn,hq,e3,Bool.or_self,if_true,Bool.false_eq_true,if_false]
       go_wp2_with fail
       refine ((HR6.out).simple hS 19).mono ?_
       rintro e w7 ⟨rfl,H7⟩
       go_wp2_with fail
       go_ret
       exact ⟨_,_,rfl,(by show (X.part E (remT s L a)).1=_;rw [HEq.out]),(by rw [HEq.out];exact H7)⟩
      | false =>
       cases hg:X.isN [40] (remT s L a) with
       | true =>
        have HEq:Hid (X.part E (remT s L a)=X.node 14 (X.andThen X.take (X.andThen E (X.want [41]))) (remT s L a)):=by
         show _=_
         unfold X.part;simp only [e5,e6,hy,hn,hq,hg,e3,Bool.or_self,if_true,Bool.false_eq_true,if_false]
        have HB6:=hide (On.ofBelow rb (HR6.out).2)
        have HN0:=hide ((HR6.out).1.new 14)
        have HF0:=hide (few_new s L a 1)
        go_wp2_with fail
        refine ((HN0.out).go (rtake_any s L dp hS) ((HF0.out).le X.Cap.take hl2 (by omega))).mono ?_
        rintro e w7 ⟨rfl,H7⟩
        have HF7:=hide ((HF0.out).then X.Cap.take)
        go_wp2_with fail
        refine ((H7.out).go hE ((HF7.out).le hC hl2 (by omega))).mono ?_
        rintro e w8 ⟨rfl,H8⟩
        have HF8:=hide ((HF7.out).then hC)
        go_wp2_with fail
        refine ((H8.out).want hS [41] ((HF8.out).le (X.Cap.want [41]) hl2 (by omega))).mono ?_
        rintro e w9 ⟨rfl,H9⟩
        have HG:Hid (GvM w rb s L tv dp (.br 14 (X.andThen X.take (X.andThen E (X.want [41])) (remT s L a)).1) (X.andThen X.take (X.andThen E (X.want [41])) (remT s L a)).2 w6.heap.size w9):=by
         have:=H9.out
         rw [List.nil_append,List.append_assoc] at this
         exact (this.closed (On.ofBelow rb ((Below.refl _ w6).alloc (Nat.le_refl _) _)) (fun g hg=>by cases hg)).since HB6.out
        clear H7 H8 H9 HF7 HF8
        go_wp2_with fail
        go_ret
        exact ⟨_,_,rfl,(by show (X.part E (remT s L a)).1=_;rw [HEq.out];rfl),(by rw [HEq.out];exact HG)⟩
       | false =>
        cases hll:X.isN [91] (remT s L a) with
        | true =>
         have HEq:Hid (X.part E (remT s L a)=X.node 13 (X.andThen X.take (X.several E [93])) (remT s L a)):=by
          show _=_
          unfold X.part;simp only [e5,e6,hy,hn,hq,hg,hll,e3,Bool.or_self,if_true,Bool.false_eq_true,if_false]
         have HB6:=hide (On.ofBelow rb (HR6.out).2)
         have HLst:=hide (rlist_any s L dp hS E hE hC hSh 13 [93] rb tv a w6 (HR6.out).1)
         go_wp2_with fail
         refine (HLst.out).mono ?_
         rintro e w7 ⟨N,p,rfl,HP7,HG7⟩
         go_wp2_with fail
         go_ret
         exact ⟨N,p,rfl,(by show (X.part E (remT s L a)).1=_;rw [HEq.out];exact HP7.out),(by rw [HEq.out];exact (HG7.out).since HB6.out)⟩
        | false =>
         have HEq:Hid (X.part E (remT s L a)=([.miss X.sExpr],(remT s L a))):=by
          show _=_
          unfold X.part;simp only [e5,e6,hy,hn,hq,hg,hll,e3,Bool.or_self,Bool.false_eq_true,if_false]
         have HB6:=hide (On.ofBelow rb (HR6.out).2)
         have kA:Below w6.heap.size w6 (w6.alloc (mcell 1 0 X.sExpr (.slice none 0 0) 0 0 0 0 false)):=(Below.refl _ w6).alloc (Nat.le_refl _) _
         have HG:Hid (GvM w rb s L tv dp (.miss X.sExpr) (remT s L a) w6.heap.size (w6.alloc (mcell 1 0 X.sExpr (.slice none 0 0) 0 0 0 0 false))) :=
          GvM.since ⟨a,(HR6.out).1.below kA,rfl,(IsM.miss (heap_alloc_new w6 _)).wide (Nat.le_refl _) (by simp),On.ofBelow rb kA⟩ HB6.out
         go_wp2_with fail
         go_ret
         exact ⟨_,_,rfl,(by show (X.part E (remT s L a)).1=_;rw [HEq.out]),(by rw [HEq.out];exact HG)⟩
end Go.Proofs.YtgpcpbmacdhlkaaGreatDoor
/- The document's reader: calls. -/
namespace Go.Proofs.YtgpcpbmacdhlkaaGreatDoor
open Go.RowKit
open M
theorem Mk.one {w:World} {l u N k:Nat} {p:X.Part} (h:IsM w l u (.pointer (some ⟨N,0,none⟩)) (X.raw p)) (hu:u≤w.heap.size) :
  Mk ((w.alloc (.cells #[.pointer (some ⟨N,0,none⟩)] 52)).alloc (mcell k 0 [] (.slice (some ⟨w.heap.size,0,none⟩) 1 1) 0 0 0 0 false)) l (w.heap.size+1) k (.slice (some ⟨w.heap.size,0,none⟩) 1 1) [.pointer (some ⟨N,0,none⟩)] [p] (fun _=>l) (fun _=>u):=by
 have hlu:=h.lt
 have kB:Below w.heap.size w ((w.alloc (.cells #[.pointer (some ⟨N,0,none⟩)] 52)).alloc (mcell k 0 [] (.slice (some ⟨w.heap.size,0,none⟩) 1 1) 0 0 0 0 false)):=((Below.refl _ w).alloc (Nat.le_refl _) _).alloc (by simp) _
 refine ⟨at_new _ _ (World.size_alloc w _),⟨rfl,.inr ⟨w.heap.size,1,#[.pointer (some ⟨N,0,none⟩)],rfl,by omega,(heap_alloc_old _ _ (by simp)).trans (heap_alloc_new w _),Nat.le_refl _,by unfold maxLen;omega,rfl,rfl⟩⟩,⟨rfl,fun i hi=>?_,fun i q hq=>?_⟩,by omega,by simp [Value.ownBlock]⟩
 ·simp only [List.length_singleton] at hi
  refine ⟨Nat.le_refl _,by omega,by simp;omega,by omega,fun g hg=>?_,fun j h1 h2=>?_⟩
  ·simp only [Value.ownBlock,Option.some.injEq] at hg
   omega
  ·simp only [List.length_singleton] at h2;omega
 ·have hi:i=0:=by
   rcases Nat.eq_zero_or_pos i with g|g
   ·exact g
   ·rw [List.getElem?_eq_none (by simp;omega)] at hq;cases hq
  subst hi
  obtain rfl:p=q:=by simpa using hq
  exact ⟨_,rfl,h.kept kB⟩
theorem Mk.two {w:World} {l1 u1 l2 u2 N1 N2 k:Nat} {p1 p2:X.Part} (h1:IsM w l1 u1 (.pointer (some ⟨N1,0,none⟩)) (X.raw p1)) (h2:IsM w l2 u2 (.pointer (some ⟨N2,0,none⟩)) (X.raw p2)) (hu:u1≤l2) (hu2:u2≤w.heap.size) :
  Mk ((w.alloc (.cells #[.pointer (some ⟨N1,0,none⟩),.pointer (some ⟨N2,0,none⟩)] 52)).alloc (mcell k 0 [] (.slice (some ⟨w.heap.size,0,none⟩) 2 2) 0 0 0 0 false)) l1 (w.heap.size+1) k (.slice (some ⟨w.heap.size,0,none⟩) 2 2) [.pointer (some ⟨N1,0,none⟩),.pointer (some ⟨N2,0,none⟩)] [p1,p2] (fun i=>if i=0 then l1 else l2) (fun i=>if i=0 then u1 else u2):=by
 have hlu1:=h1.lt
 have hlu2:=h2.lt
 have kB:Below w.heap.size w ((w.alloc (.cells #[.pointer (some ⟨N1,0,none⟩),.pointer (some ⟨N2,0,none⟩)] 52)).alloc (mcell k 0 [] (.slice (some ⟨w.heap.size,0,none⟩) 2 2) 0 0 0 0 false)):=((Below.refl _ w).alloc (Nat.le_refl _) _).alloc (by simp) _
 refine ⟨at_new _ _ (World.size_alloc w _),⟨rfl,.inr ⟨w.heap.size,2,#[.pointer (some ⟨N1,0,none⟩),.pointer (some ⟨N2,0,none⟩)],rfl,by omega,(heap_alloc_old _ _ (by simp)).trans (heap_alloc_new w _),Nat.le_refl _,by unfold maxLen;omega,rfl,rfl⟩⟩,⟨rfl,fun i hi=>?_,fun i q hq=>?_⟩,by omega,by simp [Value.ownBlock]⟩
 ·simp only [List.length_cons,List.length_nil] at hi
  have hc:i=0∨i=1:=by omega
  rcases hc with rfl|rfl
  ·refine ⟨by simp,by simp;omega,by simp;omega,by simp;omega,fun g hg=>?_,fun j e1 e2=>?_⟩
   ·simp only [Value.ownBlock,Option.some.injEq] at hg
    simp;omega
   ·simp only [List.length_cons,List.length_nil] at e2
    have:j=1:=by omega
    subst this
    simp;omega
  ·refine ⟨by simp;omega,by simp;omega,by simp;omega,by simp;omega,fun g hg=>?_,fun j e1 e2=>?_⟩
   ·simp only [Value.ownBlock,Option.some.injEq] at hg
    simp;omega
   ·simp only [List.length_cons,List.length_nil] at e2;omega
 ·have hc:i=0∨i=1:=by
   have:i<2:=by
    rcases Nat.lt_or_ge i 2 with g|g
    ·exact g
    ·rw [List.getElem?_eq_none (by simp;omega)] at hq;cases hq
   omega
  rcases hc with rfl|rfl
  ·obtain rfl:p1=q:=by simpa using hq
   exact ⟨_,rfl,h1.kept kB⟩
  ·obtain rfl:p2=q:=by simpa using hq
   exact ⟨_,rfl,h2.kept kB⟩
theorem GvM.pair {w w1 w5:World} {rb:Nat} {s:ByteArray} {L:List Tk} {tv:Value} {dp N1 N2 k:Nat} {p1 p2:X.Part} {ts1 ts2:List X.Tok} (hr:rb<w.heap.size) (h1:GvM w rb s L tv dp p1 ts1 N1 w1) (h2:GvM w1 rb s L tv dp p2 ts2 N2 w5) :
  GvM w rb s L tv dp (.br k [p1,p2]) ts2 (w5.heap.size+1) ((w5.alloc (.cells #[.pointer (some ⟨N1,0,none⟩),.pointer (some ⟨N2,0,none⟩)] 52)).alloc (mcell k 0 [] (.slice (some ⟨w5.heap.size,0,none⟩) 2 2) 0 0 0 0 false)):=by
 obtain ⟨a1,g1,g2,g3,g4⟩:=h1
 obtain ⟨a2,k1,k2,k3,k4⟩:=h2
 have kB:Below w5.heap.size w5 ((w5.alloc (.cells #[.pointer (some ⟨N1,0,none⟩),.pointer (some ⟨N2,0,none⟩)] 52)).alloc (mcell k 0 [] (.slice (some ⟨w5.heap.size,0,none⟩) 2 2) 0 0 0 0 false)):=((Below.refl _ w5).alloc (Nat.le_refl _) _).alloc (by simp) _
 have hm:=(Mk.two (k:=k) (g3.keep k4 (fun i e1 _ e=>by omega)) k3 (Nat.le_refl _) (Nat.le_refl _)).done
 exact ⟨a2,k1.below kB,k2,hm,(g4.to k4).to (On.ofBelow rb kB)⟩
set_option maxRecDepth 100000 in
set_option maxHeartbeats 1000000 in
theorem rcall_any (s:ByteArray) (L:List Tk) (dp:Nat) (hS:TokS s L) (E:X.R) (hE:ReadsM 97 E (fun _=>True) s L dp) (hC:X.Cap E 1) (hSh:X.Shr E):GivesM 123 (fun r=>#[r]) (X.call E) s L dp:=by
 intro rb tv a w h
 have hrl:=h.lt
 have HO:=hide (rone_any s L dp hS E hE hC hSh rb tv a w h)
 clear h
 go_enter Tryz.func123,Tryz.ntmps123
 go_wp2_with fail
 refine (HO.out).mono ?_
 rintro e w1 ⟨N,p,rfl,HP,HG⟩
 have HE0:Hid (X.call E (remT s L a)=X.callL E [p] (X.part E (remT s L a)).2):=by
  show _=_
  unfold X.call X.callL
  rw [HP.out]
 generalize hr1:(X.part E (remT s L a)).2=ts0 at *
 clear HO HP hr1
 go_wp2_with fail
 refine ((HG.out).is hS [40]).mono ?_
 rintro e w2 ⟨rfl,HG2⟩
 clear HG
 go_wp2_with fail
 go_loopw [3,4] (fun v o wr=>∃ (N:Nat) (p:X.Part) (ts1:List X.Tok),v=.pointer (some ⟨N,0,none⟩)∧o=.bool (X.isN [40] ts1)∧Hid (GvM w rb s L tv dp p ts1 N wr)∧Hid (X.call E (remT s L a)=X.callL E [p] ts1)) (fun _ _ wr=>L.length - atM rb wr)
 case atStart=>exact ⟨N,p,ts0,rfl,rfl,HG2,HE0⟩
 case round =>
  clear HG2 HE0
  obtain ⟨N,p,ts1,rfl,rfl,HG,HEq⟩:=hrel
  have hat:=(HG.out).at
  cases hmore:X.isN [40] ts1 with
  | false =>
   have HEn:Hid (X.call E (remT s L a)=([p],ts1)):=(HEq.out).trans (X.callL_no hmore)
   go_wp2_with fail
   go_ret
   exact ⟨N,p,rfl,(by rw [HEn.out];rfl),(by rw [HEn.out];exact HG)⟩
  | true =>
   have HEn:=hide ((HEq.out).trans (X.callL_yes hSh hmore))
   have hlt:=X.args_lt hSh (X.isN_next hmore)
   have hargs:(X.node 12 (X.andThen X.take (X.several E [41])))=X.args E:=rfl
   obtain ⟨a1,g1,g2,g3,g4⟩:=HG.out
   have HLst:=hide (rlist_any s L dp hS E hE hC hSh 12 [41] rb tv a1 wr g1)
   rw [g2,hargs] at HLst
   clear g1 g2 g3 g4 hmore HEq hargs
   go_wp2_with fail
   refine (HLst.out).mono ?_
   rintro e w5 ⟨N2,p2,rfl,HP2,HG5⟩
   rw [HP2.out] at HEn
   clear HLst HP2
   generalize (X.args E ts1).2=ts2 at *
   have HG6:=hide (GvM.pair (k:=11) hrl HG.out HG5.out)
   clear HG HG5
   go_wp2_with fail
   refine ((HG6.out).is hS [40]).mono ?_
   rintro e w7 ⟨rfl,HG7⟩
   have hat7:=(HG7.out).at
   clear HG6
   go_wp2_with fail
   exact ⟨⟨_,.br 11 [p,p2],ts2,rfl,rfl,HG7,HEn⟩,by rw [hat,hat7];omega⟩
end Go.Proofs.YtgpcpbmacdhlkaaGreatDoor
