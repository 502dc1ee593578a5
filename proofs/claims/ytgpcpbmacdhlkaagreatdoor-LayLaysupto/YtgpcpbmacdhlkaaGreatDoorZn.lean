/- The document's Parse. -/
import Derived.Test.YtgpcpbmacdhlkaaGreatDoorZk
import Derived.Test.YtgpcpbmacdhlkaaGreatDoorYd
import Derived.Test.YtgpcpbmacdhlkaaGreatDoorFh
namespace Go.Proofs.YtgpcpbmacdhlkaaGreatDoor
open Go.RowKit
open M
theorem DnM.ready {w w1:World} {rb:Nat} {s:ByteArray} {L:List Tk} {tv:Value} {dp lo B k:Nat} {rv:Value} {ps1:List X.Part} {ts1:List X.Tok} (h:DnM w rb s L tv dp lo B k rv ps1 ts1 w1):∃ a rv1 vs1 Lo1 Hi1,WkM w1 rb s L tv a dp lo B k rv1 vs1 ps1 Lo1 Hi1∧ts1=remT s L a∧(∀ ps2 ts2 w2,DnM w1 rb s L tv dp lo B k rv1 ps2 ts2 w2→DnM w rb s L tv dp lo B k rv ps2 ts2 w2):=by
 obtain ⟨a',rv',vs',Lo',Hi',g1,g2,g3,g4⟩:=h
 exact ⟨a',rv',vs',Lo',Hi',g1,g2.symm,fun ps2 ts2 w2 h=>DnM.trans g3 g4 h⟩
set_option maxRecDepth 100000 in
set_option maxHeartbeats 4000000 in
theorem parse_any (s:ByteArray) (w:World) (hs:s.size≤134217728) :
  Calls Tryz.prog 19 #[.string s] w fun e w'=>∃ N lo hi,e=.returned (.pointer (some ⟨N,0,none⟩))∧Hid (IsM w' lo hi (.pointer (some ⟨N,0,none⟩)) (X.put (X.file (X.xt (bs s))) 0)∧w.heap.size≤lo∧Below w.heap.size w w'):=by
 obtain ⟨i0,hi0,hz0,hz1,hz2⟩:=info_parts infoM
 have hS:=toks_S s (by omega) (by have:=toks_few s;omega)
 have hl2:=hS.len
 have hll:(X.xt (bs s)).length≤s.size:=by
  have:=toks_len _ 0 (bs s) (Nat.le_refl _)
  rw [bs_len] at this
  unfold X.xt;rw [List.length_map];exact this
 have HPut:Hid (PutOk (X.file (X.xt (bs s)))):=put_any _ _ (Nat.le_refl _) (by have:=X.file_psz (X.xt (bs s));omega) (X.file_kok _)
 have hpb:(X.pb (X.file (X.xt (bs s)))).length=s.size:=by rw [X.file_keeps,X.xt_tb,bs_len]
 have HFile:Hid (X.file (X.xt (bs s))=.br 2 (X.fileL (X.xt (bs s)))):=(rfl:_=_)
 have HTok:=hide (refTokens_any s w (by omega))
 have HXT:Hid (X.xt (bs s)=remT s (toks 0 (bs s)) 0):=by show _=_;unfold X.xt remT;rw [List.drop_zero]
 generalize toks 0 (bs s)=L at *
 clear hll
 go_enter Tryz.func19,Tryz.ntmps19
 go_wp2_with fail
 refine (HTok.out).mono ?_
 rintro e w2 ⟨tv,rfl,hown,k2⟩
 have HT2:=hide (IsT.ofOwns hown)
 have HTB:Hid (∀ q,tv.ownBlock=some q→q<w2.heap.size):=fun q e=>(owns_ge hown q e).2
 have HK2:=hide k2
 have hsz:=k2.size
 clear hown k2 HTok
 obtain ⟨ao,cap,rfl,hc1,hc2,-⟩:=HT2.out
 have HD0:Hid (DnM ((w2.alloc (.cells #[.string s,.slice ao L.length cap,.int .i64 0,.int .i64 0,.bool false] 111)).alloc (mcell 2 0 [] (.slice none 0 0) 0 0 0 0 false)) w2.heap.size s L (.slice ao L.length cap) 0 (w2.heap.size+1) (w2.heap.size+1) 2 (.slice none 0 0) [] (remT s L 0) ((w2.alloc (.cells #[.string s,.slice ao L.length cap,.int .i64 0,.int .i64 0,.bool false] 111)).alloc (mcell 2 0 [] (.slice none 0 0) 0 0 0 0 false))):=by
  have kR:Below w2.heap.size w2 (w2.alloc (.cells #[.string s,.slice ao L.length cap,.int .i64 0,.int .i64 0,.bool false] 111)):=(Below.refl _ w2).alloc (Nat.le_refl _) _
  have hr:RdM (w2.alloc (.cells #[.string s,.slice ao L.length cap,.int .i64 0,.int .i64 0,.bool false] 111)) w2.heap.size s L (.slice ao L.length cap) 0 0:=⟨⟨false,heap_alloc_new w2 _⟩,(HT2.out).below kR,Nat.zero_le _,fun q e=>by have:=(HTB.out) q e;exact ⟨by omega,by simp;omega⟩⟩
  have:=hr.new 2
  rw [World.size_alloc] at this
  exact this
 have HBase:Hid (Below w.heap.size w ((w2.alloc (.cells #[.string s,.slice ao L.length cap,.int .i64 0,.int .i64 0,.bool false] 111)).alloc (mcell 2 0 [] (.slice none 0 0) 0 0 0 0 false))):=((HK2.out).alloc hsz _).alloc (by simp;omega) _
 rw [← HXT.out] at HD0
 clear HT2 HTB HK2
 go_wp2_with fail
 refine ((HD0.out).kindOf hS).mono ?_
 rintro e w3 ⟨rfl,H3⟩
 have hx0:=(H3.out).tlen
 clear HD0
 generalize hts:X.xt (bs s)=ts0 at *
 have HTS:=hide hts
 clear hts
 generalize (w2.alloc (.cells #[.string s,.slice ao L.length cap,.int .i64 0,.int .i64 0,.bool false] 111)).alloc (mcell 2 0 [] (.slice none 0 0) 0 0 0 0 false)=W0 at *
 generalize w2.heap.size=rb at *
 go_wp2_with fail
 go_loopw [6] (fun v wr=>∃ (ps:List X.Part) (ts1:List X.Tok),v=.int .i64 (X.kindN ts1)∧ps.length+ts1.length≤L.length∧Hid (DnM W0 rb s L (.slice ao L.length cap) 0 (rb+1) (rb+1) 2 (.slice none 0 0) ps ts1 wr)∧Hid (X.fileL ts0=ps++X.fileL ts1)) (fun _ wr=>L.length - atM rb wr)
 case atStart=>exact ⟨[],ts0,rfl,by simpa using hx0,H3,(by show _=_;rw [List.nil_append])⟩
 case round =>
  clear H3
  obtain ⟨ps,ts1,rfl,hpl,HD,HE⟩:=hrel
  have hat:=(HD.out).at
  cases hk:((X.kindN ts1:Int)==0) with
  | false =>
   have e0:(X.kindN ts1==0)=false:=(nb _ 0).symm.trans hk
   have n0:((X.kindN ts1:Int) !=0)=true:=by simp [bne,hk]
   have n1:¬(X.kindN ts1:Int)=0:=by simpa using hk
   obtain ⟨a,rv,vs,Lo,Hi,hw,hts1,htr⟩:=(HD.out).ready
   have HW:=hide hw
   have HTr:=hide htr
   have HIt:=hide (ritem_any s L hS rb _ a wr hw.rdr (by rw [← hts1];exact e0))
   rw [← hts1] at HIt
   have hklt:=X.kid_lt e0
   have HE2:Hid (X.fileL ts0=(ps++[.br (X.kid ts1).1 (X.kid ts1).2.1])++X.fileL (X.kid ts1).2.2):=by
    show _=_
    rw [HE.out,X.fileL_yes e0,List.append_assoc];rfl
   clear hw htr hts1 HD HE
   go_wp2_with fail
   refine (HIt.out).mono ?_
   rintro e w4 ⟨N,rfl,HG⟩
   clear HIt
   obtain ⟨b3,f3,hbl,hlo,HN,HV,HO⟩:=(HW.out).forTake HG.out
   have hvb:vs.length≤1073741823:=by rw [HV.out];omega
   go_wp2_with (at_builtin;refine wpList_append_lies _ rfl _ _ 56 rfl (rb+1) 52 i0 _ 1 8 Tryz.underlying56 hi0 hz0 hz1 hz2 rfl (by decide) rv vs.length _ rfl ((HO.out).alloc _) ⟨w4.heap.size,0,none⟩ 1 1 [.pointer (some ⟨N,0,none⟩)] rfl rfl (World.news_of_block (cs:=#[.pointer (some ⟨N,0,none⟩)]) (heap_alloc_new w4 _)) (by simp [Value.oneCell']) (by omega) (by unfold maxLen;omega) (by omega) (by simp;omega) (w4.heap.size+1) (by simp) ?_;intro g cap5 w5 hown5 hgrow5 hat5 hlt5;have x1:w5.cell? ⟨rb+1,3,none⟩=some rv:=(hgrow5.cell_far ⟨rb+1,3,none⟩ (by simp;omega) (HN.out)).trans (old1 hbl b3);have x2:w5.frozen? ⟨rb+1,3,none⟩=false:=(hgrow5.frozen_far ⟨rb+1,3,none⟩ (by simp;omega) (HN.out)).trans ((World.frozen?_alloc_old _ _ ⟨rb+1,3,none⟩ (by simp;omega)).trans f3);have HX:=hide ((HTr.out) _ _ _ ((HW.out).take HG.out hgrow5 hown5 hat5));clear hown5 hgrow5)
   refine ((HX.out).kindOf hS).mono ?_
   rintro e w6 ⟨rfl,H6⟩
   have hat6:=(H6.out).at
   have htl6:=(H6.out).tlen
   clear HX HW HTr HG
   go_wp2_with fail
   refine ⟨⟨_,_,rfl,?_,H6,HE2⟩,by rw [hat,hat6];omega⟩
   rw [List.length_append,List.length_singleton];omega
  | true =>
   obtain ⟨wb,hwb⟩:∃ wb,wb=wr:=⟨_,rfl⟩
   subst hwb
   have e0:(X.kindN ts1==0)=true:=(nb _ 0).symm.trans hk
   have n0:((X.kindN ts1:Int) !=0)=false:=by simp [bne,hk]
   have n1:(X.kindN ts1:Int)=0:=by simpa using hk
   obtain ⟨a,rv,vs,Lo,Hi,hw,hts1,htr⟩:=(HD.out).ready
   have ha:=hw.rdr.le
   have HI0:Hid (InTk wb rb s L (.slice ao L.length cap) a 0 (rb+1) (rb+1) 2 rv ps 0 wb):=⟨rv,vs,Lo,Hi,by simpa using hw,fun g hg=>.inl hg,Kp.refl _ _⟩
   have hpa:ps.length+(L.length - a)≤L.length:=by
    rw [hts1] at hpl
    unfold remT at hpl
    rw [List.length_map,List.length_drop] at hpl;exact hpl
   have HFin:Hid (∀ w9,InTk wb rb s L (.slice ao L.length cap) a 0 (rb+1) (rb+1) 2 rv ps (L.length - a) w9→IsM w9 (rb+1) w9.heap.size (.pointer (some ⟨rb+1,0,none⟩)) (X.raw (X.file ts0))∧Below w.heap.size w w9):=fun w9 h9=>by
    obtain ⟨rv9,vs9,Lo9,Hi9,g1,g2,g3⟩:=h9.ex
    have hd9:=htr _ _ w9 ⟨_,rv9,vs9,Lo9,Hi9,g1,rfl,g2,g3⟩
    have hl9:ps++((L.drop a).take (L.length - a)).map (fun t=>X.lf (X.tkx (bs s) t))=X.fileL ts0:=by
     rw [HE.out,X.fileL_no e0,hts1]
     unfold remT
     rw [List.take_of_length_le (by rw [List.length_drop];omega),List.map_map];rfl
    rw [hl9] at hd9
    obtain ⟨a9,rv8,vs8,Lo8,Hi8,k1,k2,k3,k4⟩:=hd9
    refine ⟨by rw [HFile.out];exact k1.nd.done,(HBase.out).trans (Kp.below k4 (by have:=(HBase.out).size;omega) (fun q e=>?_))⟩
    rcases e with e|e|e
    ·omega
    ·omega
    ·cases e
   clear hw htr hts1 HD HE hpl hat hk HBase
   have hsb:w.heap.size≤rb+1:=by omega
   have hS':=hS
   clear hS
   generalize rb+1=B at *
   have HF2:=hide hS'.fit
   have hl1:=hS'.size
   have HF:=hide HF2.out
   clear HF2 hS'
   go_wp2_with fail
   clear n0 n1 e0
   go_loopw [] (fun wr=>∃ j:Nat,a+j≤L.length∧Hid (InTk wb rb s L (.slice ao L.length cap) a 0 B B 2 rv ps j wr)) (fun wr=>L.length - atM rb wr)
   case atStart=>exact ⟨0,by omega,HI0⟩
   case round =>
    obtain ⟨j,hj,HI⟩:=hrel
    clear HI0
    obtain ⟨rvj,vsj,Loj,Hij,g1,g2,g3⟩:=(HI.out).ex
    have HW:=hide g1
    have HG:=hide g2
    have HK:=hide g3
    clear g1 g2 g3 HI
    obtain ⟨I,hI⟩:∃ I,a+j=I:=⟨_,rfl⟩
    rw [hI] at HW
    obtain ⟨c,hr⟩:=(HW.out).rdr.raw
    have HR:=hide hr
    obtain ⟨⟨c0,c1,c2,c3⟩,⟨f2,f3,f4⟩,-⟩:=hr.facts
    have hrl:=heap_lt hr
    have hat:=(HW.out).rdr.at
    clear hr
    by_cases hlt:I<L.length
    case neg =>
     obtain rfl:j=L.length - a:=by omega
     have hfin:Hid (InTk wb rb s L (.slice ao L.length cap) a 0 B B 2 rv ps (L.length - a) wr):=by
      refine ⟨rvj,vsj,Loj,Hij,?_,HG.out,HK.out⟩
      rw [show a+(L.length - a)=I by omega];exact HW.out
     have i1:decide (I<L.length)=false:=by simp;omega
     have i2:decide ((I:Int)<(L.length:Int))=false:=by simp;omega
     clear HW HG HK hat
     go_wp2_with fail
     go_quiet (fail)
     have hfin2:Hid (InTk wb rb s L (.slice ao L.length cap) a 0 B B 2 rv ps (L.length - a) (wr.drewN nq)):=by
      obtain ⟨r1,r2,r3,r4,r5,r6,r7⟩:=(hfin.out).ex
      exact ⟨r1,r2,r3,r4,r5.below (belowN (Below.refl _ wr) nq),r6,Kp.trans r7 (Kp.ofBelow (belowN (Below.refl _ wr) nq) (fun _=>False)) (fun _ _ e=>e.elim)⟩
     have HZ:=hide ((HFin.out) _ hfin2.out)
     have HC:=hide ((HPut.out) B (wr.drewN nq).heap.size (.pointer (some ⟨B,0,none⟩)) 0 _ (HZ.out).1 (by rw [hpb];omega))
     clear hfin hfin2 HFin HPut c0 c1 c2 c3 f2 f3 f4
     generalize wr.drewN nq=W9 at *
     go_wp2_with fail
     refine (HC.out).mono ?_
     rintro e w10 ⟨rfl,H10⟩
     have HZ2:Hid (IsM w10 B W9.heap.size (.pointer (some ⟨B,0,none⟩)) (X.put (X.file ts0) 0)∧w.heap.size≤B∧Below w.heap.size w w10):=⟨(H10.out).1,by omega,(HZ.out).2.trans (Kp.below (H10.out).2 (HZ.out).2.size (fun q e=>by omega))⟩
     clear H10 HZ HC
     go_wp2_with fail
     go_ret
     exact ⟨_,_,_,rfl,by rw [HTS.out];exact HZ2⟩
    have i1:decide ((I:Int)<(L.length:Int))=true:=by simp;omega
    have i2:decide (I<L.length)=true:=by simp;omega
    go_wp2_with fail
    go_quiet (fail)
    go_wp2_with fail
    have HW2:=hide ((HW.out).below (belowN (Below.refl _ wr) nq))
    have HK2:Hid (Kp (Sm rb B rv) wb (wr.drewN nq)):=Kp.trans HK.out (Kp.ofBelow (belowN (Below.refl _ wr) nq) (fun _=>False)) (fun _ _ e=>e.elim)
    have hat2:atM rb wr=I:=hat
    clear HW HK HR hat c0 c1 c2 c3 f2 f3 f4 hrl
    generalize hWq:wr.drewN nq=W at *
    clear hWq
    have hIL:I<L.length:=hlt
    obtain ⟨b',o',t,rfl,ht,q1,q2,q3⟩:=(HW2.out).rdr.row.get (Below.refl _ W) hIL
    obtain ⟨c,hr⟩:=(HW2.out).rdr.raw
    obtain ⟨⟨c0,c1,c2,c3⟩,⟨f2,f3,f4⟩,-⟩:=hr.facts
    have hrl:=heap_lt hr
    have hbl:b'<W.heap.size:=World.block_lt_of_cell? _ _ q1
    have hi1:(0:Int)≤(I:Int):=Int.natCast_nonneg _
    have hi2:(I:Int)<(L.length:Int):=by omega
    clear hr
    go_region_held3 (fun w'=>w'.cell? ⟨rb,1,none⟩=some (.slice (some ⟨b',o',none⟩) L.length cap)∧w'.cell? ⟨rb,2,none⟩=some (.int .i64 (I:Int))∧w'.cell? ⟨b',o'+I*3,none⟩=some (.int .i64 t.kind)∧w'.cell? ⟨b',o'+I*3+1,none⟩=some (.int .i64 t.pos)∧w'.cell? ⟨b',o'+I*3+2,none⟩=some (.int .i64 t.len))
     (go_keep)
     (fail)
    go_wp2_with fail
    have kT:Below W.heap.size W (W.alloc (.cells #[.int .i64 t.kind,.int .i64 t.pos,.int .i64 t.len] 114)).drew:=((Below.refl _ W).alloc (Nat.le_refl _) _).drew
    have HW3:=hide ((HW2.out).below kT)
    have HKT:=hide kT
    have hblk:(W.alloc (.cells #[.int .i64 t.kind,.int .i64 t.pos,.int .i64 t.len] 114)).drew.heap[W.heap.size]?=some (.cells #[.int .i64 t.kind,.int .i64 t.pos,.int .i64 t.len] 114 (0,0)):=heap_alloc_new W _
    have hz3:(W.alloc (.cells #[.int .i64 t.kind,.int .i64 t.pos,.int .i64 t.len] 114)).drew.heap.size=W.heap.size+1:=by simp
    clear kT q1 q2 q3 c0 c1 c2 c3 f2 f3 f4 hrl
    generalize (W.alloc (.cells #[.int .i64 t.kind,.int .i64 t.pos,.int .i64 t.len] 114)).drew=W2 at *
    have t0:W2.cell? ⟨W.heap.size,0,none⟩=some (.int .i64 t.kind):=cell_of_row W2 _ 0 _ _ _ hblk
    have t1:W2.cell? ⟨W.heap.size,1,none⟩=some (.int .i64 t.pos):=cell_of_row W2 _ 1 _ _ _ hblk
    have t2:W2.cell? ⟨W.heap.size,2,none⟩=some (.int .i64 t.len):=cell_of_row W2 _ 2 _ _ _ hblk
    obtain ⟨c,hr⟩:=(HW3.out).rdr.raw
    obtain ⟨⟨c0,c1,c2,c3⟩,⟨f2,f3,f4⟩,-⟩:=hr.facts
    obtain ⟨b0,b3,g0,g3⟩:=(HW3.out).nd.facts
    have hrl:=heap_lt hr
    have hBl:=(HW2.out).nd.lt
    obtain ⟨p1,p2,p3⟩:=(HF.out) t (List.mem_of_getElem? ht)
    have j1:(t.pos:Int)≤(t.pos:Int)+(t.len:Int):=by omega
    have j2:(t.pos:Int)+(t.len:Int)≤(s.size:Int):=by omega
    have j3:t.pos≤s.size:=by omega
    have j4:(0:Int)≤(t.pos:Int):=Int.natCast_nonneg _
    have hwr:IntKind.i64.wrap ((t.pos:Int)+(t.len:Int))=(t.pos:Int)+(t.len:Int):=by rw [IntKind.wrap_i64];omega
    have hne:=(HW3.out).nd.ne
    have hown:=owns_ge (HW2.out).nd.row
    have n1:some W.heap.size≠rvj.ownBlock:=fun e=>by have:=(hown _ e.symm).2;omega
    have n2:some rb≠rvj.ownBlock:=fun e=>by have:=(hown _ e.symm).1;have:=(HW2.out).rlt;omega
    have n3:some B≠rvj.ownBlock:=fun e=>hne e.symm
    have hvl:vsj.length≤1073741824:=by
     have:=(HW3.out).nd.kds.len
     rw [this,List.length_append,List.length_map,List.length_take,List.length_drop];omega
    clear hr hblk hown hne
    have hTl:W.heap.size<W2.heap.size:=by omega
    have hrB:¬ rb=B:=by have:=(HW2.out).rlt;have:=(HW2.out).nd.ge;omega
    have hTB:¬ W.heap.size=B:=by omega
    have hBl2:B<W2.heap.size:=by omega
    have HZ3:=hide hz3
    clear hz3
    have N1:=hide n1
    have N2:=hide n2
    have N3:=hide n3
    clear n1 n2 n3
    refine wp_region_noPanic ?_
    refine wpTo_start (S:=fun w'=>w'.cell? ⟨B,3,none⟩=some rvj∧w'.cell? ⟨W.heap.size,0,none⟩=some (.int .i64 t.kind)∧w'.cell? ⟨W.heap.size,1,none⟩=some (.int .i64 t.pos)∧w'.cell? ⟨W.heap.size,2,none⟩=some (.int .i64 t.len)) (z:=22) (by kernel_rfl) ?_
    have hS:W2.drew.cell? ⟨B,3,none⟩=some rvj∧W2.drew.cell? ⟨W.heap.size,0,none⟩=some (.int .i64 t.kind)∧W2.drew.cell? ⟨W.heap.size,1,none⟩=some (.int .i64 t.pos)∧W2.drew.cell? ⟨W.heap.size,2,none⟩=some (.int .i64 t.len):=⟨b3,t0,t1,t2⟩
    iterate 17 (refine wpTo_nx0 (v:=?_) rfl rfl (by kernel_rfl) (by kernel_rfl) (by kernel_rfl) (by kernel_rfl) (fun _ _ _ h=>h) (Or.inl ⟨by rfl,?_⟩) hS ?_;rotate_left;(· (intro wx hSw;(try dsimp only at hSw);go_simp;try (with_reducible rfl)));simp only [Act.put,List.setIfInBounds_toArray,List.set_cons_zero,List.set_cons_succ])
    refine wpTo_one (i:=17) (by kernel_rfl) rfl (fun K hK=>?_)
    go_simp
    refine hK.out _ _ (fun _=>by first|go_keep|(dsimp only;go_keep)) (fun hS2=>?_)
    clear hS hK K
    have hS:=hS2 (by decide)
    clear hS2
    refine wpTo_one (i:=18) (by kernel_rfl) rfl (fun K hK=>?_)
    go_simp
    refine hK.out _ _ (fun _=>by first|go_keep|(dsimp only;go_keep)) (fun hS2=>?_)
    clear hS hK K
    have hS:=hS2 (by decide)
    clear hS2
    refine wpTo_one (i:=19) (by kernel_rfl) rfl (fun K hK=>?_)
    refine step_append_lies _ (by rfl) _ _ _ (by rfl) B 52 i0 _ 1 8 Tryz.underlying56 hi0 hz0 hz1 hz2 rfl (by omega) rvj vsj.length _ (by rfl) ((((HW3.out).nd.row.alloc _).alloc _).drew)
        ⟨W2.heap.size+1,0,none⟩ 1 1 [.pointer (some ⟨W2.heap.size,0,none⟩)] (by rfl) (by rfl) (World.news_of_block (cs:=#[.pointer (some ⟨W2.heap.size,0,none⟩)]) (t:=52) (fr:=(0,0)) (at_new (W2.alloc _) _ (World.size_alloc W2 _))) (by simp [Value.oneCell'])
        (by omega) (by unfold maxLen;omega) (by omega) (by have:=HZ3.out;have:=(HW2.out).rlt;have:=(HW2.out).nd.ge;simp;omega) (W2.heap.size+2) (by simp) ?_
    intro g cap5 w5 hown5 hgrow5 hat5 hlt5
    have y1:=(hgrow5.cell_far ⟨W.heap.size,0,none⟩ (by have:=HZ3.out;simp;omega) (N1.out)).trans (old2 hTl t0)
    have y2:=(hgrow5.cell_far ⟨W.heap.size,1,none⟩ (by have:=HZ3.out;simp;omega) (N1.out)).trans (old2 hTl t1)
    have y3:=(hgrow5.cell_far ⟨W.heap.size,2,none⟩ (by have:=HZ3.out;simp;omega) (N1.out)).trans (old2 hTl t2)
    have x1:w5.cell? ⟨B,3,none⟩=some rvj:=(hgrow5.cell_far ⟨B,3,none⟩ (by have:=HZ3.out;simp;omega) (N3.out)).trans (old2 hBl2 b3)
    have x2:w5.frozen? ⟨B,3,none⟩=false:=(hgrow5.frozen_far ⟨B,3,none⟩ (by have:=HZ3.out;simp;omega) (N3.out)).trans ((World.frozen?_alloc_old _ _ ⟨B,3,none⟩ (by have:=HZ3.out;simp;omega)).trans ((World.frozen?_alloc_old _ _ ⟨B,3,none⟩ (by have:=HZ3.out;simp;omega)).trans g3))
    show K (Act.put _ (some 74) _) w5
    refine hK.out _ _ (fun _=>⟨x1,y1,y2,y3⟩) (fun hS2=>?_)
    clear hS hK K
    have hS:=hS2 (by decide)
    clear hS2
    simp only [Act.put,List.setIfInBounds_toArray,List.set_cons_zero,List.set_cons_succ]
    refine wpTo_one (i:=20) (by kernel_rfl) rfl (fun K hK=>?_)
    go_simp
    refine hK.out _ _ (fun _=>hS) (fun _=>?_)
    clear hK K
    refine wpTo_one (i:=21) (by kernel_rfl) rfl (fun K hK=>?_)
    go_simp
    refine hK.out _ _ (fun _=>hS) (fun _=>?_)
    clear hK K
    refine wpTo_one (i:=22) (by kernel_rfl) rfl (fun K hK=>?_)
    go_simp
    refine hK.out _ _ (fun h=>absurd rfl h) (fun _=>wpTo_end (by kernel_rfl) ?_)
    clear hK K
    refine NoPanic.normal ?_
    clear y1 y2 y3 x1 x2 hS
    have HP:Hid (DnM W2 rb s L (.slice (some ⟨b',o',none⟩) L.length cap) 0 B B 2 rvj (ps++((L.drop a).take (j+1)).map (fun t=>X.lf (X.tkx (bs s) t))) (remT s L I) (w5.setCell ⟨B,3,none⟩ (.slice (some ⟨g,0,none⟩) (vsj.length+1) cap5))):=by
     have kN:∀ o1 o2:Obj,Below W2.heap.size W2 ((W2.alloc o1).alloc o2).drew:=fun o1 o2=>(((Below.refl _ W2).alloc (Nat.le_refl _) o1).alloc (by simp) o2).drew
     have hx:s.extract t.pos ((t.pos:Int)+(t.len:Int)).toNat=ba (((bs s).drop t.pos).take t.len):=by
      apply bs_inj
      rw [bs_ba,bs_cut,List.drop_take]
      congr 1
      omega
     have hblk2:((W2.alloc (Obj.cells #[Value.int IntKind.i64 0,Value.int IntKind.i64 t.kind,Value.string (s.extract t.pos ((t.pos:Int)+(t.len:Int)).toNat),Value.slice none 0 0,Value.int IntKind.i64 0,Value.int IntKind.i64 0,Value.int IntKind.i64 0,Value.int IntKind.i64 0,Value.bool false] 58)).alloc
      (Obj.cells #[Value.pointer (some ⟨W2.heap.size,0,none⟩)] 52)).drew.heap[W2.heap.size]?=some (mcell 0 t.kind (((bs s).drop t.pos).take t.len) (.slice none 0 0) 0 0 0 0 false):=by
      rw [hx]
      exact (heap_alloc_old _ _ (by simp)).trans (heap_alloc_new W2 _)
     have hd:=(HW3.out).put (On.ofBelow rb (kN _ _)) ((HW3.out).rdr.below (kN _ _)) (IsM.leaf hblk2) (Nat.le_refl _) (by simp) hgrow5 hown5 (hat5.imp id (fun e=>by rw [e];simp))
     have hl:(ps++((L.drop a).take j).map (fun t=>X.lf (X.tkx (bs s) t)))++[X.Part.leaf t.kind (((bs s).drop t.pos).take t.len)]=ps++((L.drop a).take (j+1)).map (fun t=>X.lf (X.tkx (bs s) t)):=by
      rw [List.append_assoc,List.take_add_one,List.getElem?_drop,hI,ht];simp [X.lf,X.tkx]
     rw [hl] at hd
     exact hd
    have HKF:Hid (Kp (Sm rb B rv) wb W2):=Kp.trans HK2.out (Kp.ofBelow HKT.out (fun _=>False)) (fun _ _ e=>e.elim)
    clear hown5 hgrow5 hat5 hlt5 b0 b3 g0 g3 c0 c1 c2 c3 f2 f3 f4 t0 t1 t2 HZ3 N1 N2 N3 HW3 HKT
    generalize w5.setCell ⟨B,3,none⟩ (.slice (some ⟨g,0,none⟩) (vsj.length+1) cap5)=W6 at *
    obtain ⟨a6,rv6,vs6,Lo6,Hi6,m1,m2,m3,m4⟩:=HP.out
    have ha6:a6=I:=by
     have h1:=congrArg List.length m2
     have h2:=m1.rdr.le
     unfold remT at h1
     rw [List.length_map,List.length_map,List.length_drop,List.length_drop] at h1
     omega
    subst ha6
    have HW6:=hide m1
    have HM3:=hide m3
    have HM4:=hide m4
    clear m1 m2 m3 m4 HP
    obtain ⟨c,hr⟩:=(HW6.out).rdr.raw
    obtain ⟨⟨c0,c1,c2,c3⟩,⟨f2,f3,f4⟩,-⟩:=hr.facts
    have hrl6:=heap_lt hr
    have HR6:=hide hr
    clear hr
    go_wp2_with fail
    have hon:On rb W6 (W6.setCell ⟨rb,2,none⟩ (.int .i64 ((a6+1:Nat):Int))):=On.set (Kp.refl _ W6) 2 _
    have hrd:RdM (W6.setCell ⟨rb,2,none⟩ (.int .i64 ((a6+1:Nat):Int))) rb s L (.slice (some ⟨b',o',none⟩) L.length cap) (a6+1) 0:=(HW6.out).rdr.moved hon ((HR6.out).set2 _) (by omega)
    refine ⟨⟨j+1,by omega,rv6,vs6,Lo6,Hi6,?_,?_,?_⟩,?_⟩
    ·rw [show a+(j+1)=a6+1 by omega]
     exact (HW6.out).moved hon hrd
    ·intro q hq
     have hz:=(HKF.out).size
     rcases (HM3.out) q hq with e|e
     ·exact (HG.out) q e
     ·exact .inr (by omega)
    ·refine Kp.trans (Kp.trans HKF.out HM4.out (fun i hi e=>?_)) hon (fun i _ e=>.inl e)
     rcases e with e|e|e
     ·exact .inl e
     ·exact .inr (.inl e)
     ·rcases (HG.out) i e with e|e
      ·exact .inr (.inr e)
      ·omega
    ·have h1:atM rb (W6.setCell ⟨rb,2,none⟩ (.int .i64 ((a6+1:Nat):Int)))=a6+1:=hrd.at
     rw [hat2]
     show L.length - atM rb (W6.setCell ⟨rb,2,none⟩ (.int .i64 ((a6+1:Nat):Int)))<_
     rw [h1];omega
end Go.Proofs.YtgpcpbmacdhlkaaGreatDoor
