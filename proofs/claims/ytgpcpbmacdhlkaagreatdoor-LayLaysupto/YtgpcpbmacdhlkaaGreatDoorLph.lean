/- Package lay: read. -/
import Derived.Test.YtgpcpbmacdhlkaaGreatDoorLpf
import Derived.Test.YtgpcpbmacdhlkaaGreatDoorYd
namespace Go.Proofs.YtgpcpbmacdhlkaaGreatDoor
open Go.RowKit
open M
namespace X
theorem fls_cut (g:Bool) (ps:List Part) (n:Nat):∃ r,fls g ps=fls g (ps.take n)++r:=⟨fls g (ps.drop n),by rw [← fls_append,List.take_append_drop]⟩
theorem rmss_cut (ps:List Part) (n:Nat):∃ r,rmss ps=rmss (ps.take n)++r:=⟨rmss (ps.drop n),by rw [← rmss_append,List.take_append_drop]⟩
theorem nts_cut (ps:List Part) (n:Nat):∃ r,nts' ps=nts' (ps.take n)++r:=⟨nts' (ps.drop n),by rw [← nts_append,List.take_append_drop]⟩
end X
theorem set4_B {W:World} {b:Nat} {x0 x1 x2 x3 y0 y1 y2 y3:Value} {t:TypeId} (h:W.heap[b]?=some (.cells #[y0,y1,y2,y3] t (0,0))):((((W.setCell ⟨b,0,none⟩ x0).setCell ⟨b,1,none⟩ x1).setCell ⟨b,2,none⟩ x2).setCell ⟨b,3,none⟩ x3).heap[b]?=some (.cells #[x0,x1,x2,x3] t (0,0)):=by
 simp [World.setCell,Array.getElem?_modify,h]
set_option maxRecDepth 100000 in
set_option maxHeartbeats 8000000 in
theorem read_node (p:X.Part) (hk0:X.kindOf p=0→∃ k x,p=.leaf k x) (hpl:(X.kidsOf p).length≤1073741824) (ih:∀ (j:Nat) (q:X.Part),(X.kidsOf p)[j]?=some q→RQ q):RQ p:=by
 intro w R D v kd L rm hD h hrow hne hnp hfl hll hrl
 obtain ⟨ip,hip,hp0,hp1,hp2⟩:=info_parts infoPt
 obtain ⟨tk,tx,ao,cap,c0,c1,c2,c3,rfl,hcap,hcm,hr,hkd,hlf⟩:=h.view
 have hRl:R<w.heap.size:=heap_lt hrow.1.choose_spec.choose_spec.choose_spec.blk
 have HROW:=hide hrow
 have HR:=hide hr
 have HKD:=hide hkd
 have HIH:=hide ih
 clear h hr hkd hrow ih
 go_enter Tryz.func38,Tryz.ntmps38
 go_wp2_with fail
 obtain ⟨⟨rv,fv,tv,hraw⟩,hLne⟩:=HROW.out
 have k2:Below w.heap.size w ((w.alloc (.cells #[.int .i64 (X.kindOf p),.int .i64 tk,.string tx,.slice ao (X.kidsOf p).length cap] 38)).alloc (.cells #[.int .i64 0,.int .i64 0,.int .i64 0,.slice none 0 0] 95)):=((Below.refl _ w).alloc (Nat.le_refl _) _).alloc (by simp) _
 have hraw2:=hraw.below k2
 have b0:((w.alloc (.cells #[.int .i64 (X.kindOf p),.int .i64 tk,.string tx,.slice ao (X.kidsOf p).length cap] 38)).alloc (.cells #[.int .i64 0,.int .i64 0,.int .i64 0,.slice none 0 0] 95)).heap[w.heap.size]?=some (.cells #[.int .i64 (X.kindOf p),.int .i64 tk,.string tx,.slice ao (X.kidsOf p).length cap] 38 (0,0)):=(heap_alloc_old _ _ (by simp)).trans (heap_alloc_new w _)
 have b1:((w.alloc (.cells #[.int .i64 (X.kindOf p),.int .i64 tk,.string tx,.slice ao (X.kidsOf p).length cap] 38)).alloc (.cells #[.int .i64 0,.int .i64 0,.int .i64 0,.slice none 0 0] 95)).heap[w.heap.size+1]?=some (.cells #[.int .i64 0,.int .i64 0,.int .i64 0,.slice none 0 0] 95 (0,0)):=new_at _ _ (by simp)
 have hsz2:((w.alloc (.cells #[.int .i64 (X.kindOf p),.int .i64 tk,.string tx,.slice ao (X.kidsOf p).length cap] 38)).alloc (.cells #[.int .i64 0,.int .i64 0,.int .i64 0,.slice none 0 0] 95)).heap.size=w.heap.size+2:=by simp
 generalize (w.alloc (.cells #[.int .i64 (X.kindOf p),.int .i64 tk,.string tx,.slice ao (X.kidsOf p).length cap] 38)).alloc (.cells #[.int .i64 0,.int .i64 0,.int .i64 0,.slice none 0 0] 95)=W2 at *
 obtain ⟨⟨r0,r1,r2,r3⟩,rf,hRx⟩:=hraw2.cells
 have htl:=owns_len hraw2.oex
 rw [X.exts_len] at htl
 obtain ⟨tao,tn,tc,rfl⟩:∃ tao tn tc,tv=.slice tao tn tc:=by
  rcases hraw2.oex.2 with ⟨rfl,-⟩|⟨g,cap,cur,rfl,-⟩
  ·exact ⟨_,_,_,rfl⟩
  ·exact ⟨_,_,_,rfl⟩
 have htl':tn=L.length:=htl
 subst htl'
 have n0:=cell_of_row W2 _ 0 _ _ _ b0
 have HB0:=hide b0
 have HB1:=hide b1
 have HRAW:=hide hraw2
 have HK2:=hide k2
 have HLN:=hide hLne
 have HZ2:=hide hsz2
 clear hraw hraw2 htl hLne k2 rf r0 r1 r3 b0 b1 hsz2 HROW
 refine wp_region_noPanic ?_
 refine wpTo_start (S:=fun w'=>w'.cell? ⟨w.heap.size,0,none⟩=some (.int .i64 (X.kindOf p))∧w'.cell? ⟨R,2,none⟩=some (.slice tao L.length tc)) (z:=10) (by kernel_rfl) ?_
 have hS:W2.drew.cell? ⟨w.heap.size,0,none⟩=some (.int .i64 (X.kindOf p))∧W2.drew.cell? ⟨R,2,none⟩=some (.slice tao L.length tc):=⟨n0,r2⟩
 iterate 8 (refine wpTo_nx (v:=?_) rfl rfl (by kernel_rfl) (by decide) (by kernel_rfl) (by kernel_rfl) (fun _ _ _ h=>h) (Or.inl ⟨by rfl,?_⟩) hS ?_;rotate_left;(· (intro wx hSw;(try dsimp only at hSw);go_simp;try (with_reducible rfl)));simp only [Act.put,List.setIfInBounds_toArray,List.set_cons_zero,List.set_cons_succ])
 refine wpTo_one (i:=8) (by kernel_rfl) rfl (fun K hK=>?_)
 go_simp
 refine hK.out _ _ (fun _=>by first|go_keep|(dsimp only;go_keep)) (fun hS2=>?_)
 clear hS hK K
 have hS:=hS2 (by decide)
 clear hS2
 have n3:(W2.alloc (.cells #[.int .i64 0,.int .i64 0,.int .i64 0,.slice none 0 0] 95)).drew.heap[W2.heap.size]?=some (.cells #[.int .i64 0,.int .i64 0,.int .i64 0,.slice none 0 0] 95 (0,0)):=heap_alloc_new W2 _
 have k3:Below W2.heap.size W2 (W2.alloc (.cells #[.int .i64 0,.int .i64 0,.int .i64 0,.slice none 0 0] 95)).drew:=((Below.refl _ W2).alloc (Nat.le_refl _) _).drew
 have hsz3:(W2.alloc (.cells #[.int .i64 0,.int .i64 0,.int .i64 0,.slice none 0 0] 95)).drew.heap.size=W2.heap.size+1:=by simp
 generalize (W2.alloc (.cells #[.int .i64 0,.int .i64 0,.int .i64 0,.slice none 0 0] 95)).drew=W3 at *
 have m0:=cell_of_row W3 _ 0 _ _ _ n3
 have m1:=cell_of_row W3 _ 1 _ _ _ n3
 have m2:=cell_of_row W3 _ 2 _ _ _ n3
 have m3:=cell_of_row W3 _ 3 _ _ _ n3
 have fz:∀ o,W3.frozen? ⟨W2.heap.size,o,none⟩=false:=fun o=>by simp [World.frozen?,n3]
 have f0:=fz 0
 have f1:=fz 1
 have f2:=fz 2
 have f3:=fz 3
 refine wpTo_one (i:=9) (by kernel_rfl) rfl (fun K hK=>?_)
 go_simp
 have HP4:=hide (set4_B (x0:=.int .i64 (X.kindOf p)) (x1:=.int .i64 L.length) (x2:=.int .i64 0) (x3:=.slice none 0 0) n3)
 have k34:Kp (fun q=>q=W2.heap.size) W3 ((((W3.setCell ⟨W2.heap.size,0,none⟩ (.int .i64 (X.kindOf p))).setCell ⟨W2.heap.size,1,none⟩ (.int .i64 L.length)).setCell ⟨W2.heap.size,2,none⟩ (.int .i64 0)).setCell ⟨W2.heap.size,3,none⟩ (.slice none 0 0)):=On.set (On.set (On.set (On.set (Kp.refl _ W3) 0 _) 1 _) 2 _) 3 _
 refine hK.out _ _ (fun _=>⟨k34.cellv hS.1 (by have:=HZ2.out;show ¬ w.heap.size=W2.heap.size;omega),k34.cellv hS.2 (by show ¬ R=W2.heap.size;omega)⟩) (fun _=>wpTo_end (by kernel_rfl) ?_)
 clear hK K hS
 refine NoPanic.normal ?_
 generalize ((((W3.setCell ⟨W2.heap.size,0,none⟩ (.int .i64 (X.kindOf p))).setCell ⟨W2.heap.size,1,none⟩ (.int .i64 L.length)).setCell ⟨W2.heap.size,2,none⟩ (.int .i64 0)).setCell ⟨W2.heap.size,3,none⟩ (.slice none 0 0))=W4 at *
 have k24:Below W2.heap.size W2 W4:=k3.trans (Kp.below k34 (by omega) (fun q e=>by omega))
 have HN4:=hide ((Kp.ofBelow k24 (fun _=>False)).heap HB0.out id)
 have HR4:=hide ((Kp.ofBelow k24 (fun _=>False)).heap HB1.out id)
 have HI4:Hid (IsRow W4 R rm L):=⟨⟨_,_,_,(HRAW.out).below k24⟩,HLN.out⟩
 have hz4:w.heap.size+3≤W4.heap.size:=by have:=k34.size;have:=HZ2.out;omega
 have HK4:Hid (Below w.heap.size w W4):=(HK2.out).trans (k24.mono (by have:=HZ2.out;omega))
 rw [HZ2.out] at HP4
 have hp7:W2.heap.size=w.heap.size+2:=HZ2.out
 rw [hp7]
 clear k24 k34 k3 n3 hsz3 m0 m1 m2 m3 fz f0 f1 f2 f3 HB0 HB1 HRAW HLN HK2 HZ2 n0 r2 hRx hp7
 obtain ⟨rm1,L1,HA⟩:∃ rm1 L1,Hid ((X.kindOf p=0→rm1=rm++X.rms p∧L1=L++X.fl (kd==14) p)∧(X.kindOf p≠0→rm1=rm∧L1=L)):=by
  by_cases e:X.kindOf p=0
  ·exact ⟨_,_,fun _=>⟨rfl,rfl⟩,fun h=>absurd e h⟩
  ·exact ⟨_,_,fun h=>absurd h e,fun _=>⟨rfl,rfl⟩⟩
 have x0:=cell_of_row W4 _ 0 _ _ _ HN4.out
 go_upto_if 21 with fail
 go_cut [] (fun wx=>Hid (IsRow wx R rm1 L1∧FK RT R W4 wx))
 case first =>
  cases hkk:((X.kindOf p:Int)==0) with
  | true =>
   have e0:X.kindOf p=0:=by have:(X.kindOf p:Int)=0:=(by simpa using hkk);omega
   obtain ⟨k,x,hpe⟩:=hk0 e0
   obtain ⟨rfl,rfl,rfl,rfl⟩:=hlf k x hpe
   subst hpe
   obtain ⟨rfl,rfl⟩:=(HA.out).1 e0
   have HL:=hide (fun W (hI:IsRow W R rm L)=>aleaf_any tk x kd L R rm W (hnp (tk,x) (by rw [X.pl];simp)) hI hfl (by omega) (by omega))
   have x1:=cell_of_row W4 _ 1 _ _ _ HN4.out
   have x2:=cell_of_row W4 _ 2 _ _ _ HN4.out
   have x3:=cell_of_row W4 _ 3 _ _ _ HN4.out
   go_wp2_with fail
   refine ((HL.out) W4 HI4.out).mono ?_
   rintro e w5 ⟨rfl,H5⟩
   go_wp2_with fail
   go_meet
   case rel=>exact H5
  | false =>
   have e0:X.kindOf p≠0:=fun e=>by rw [e] at hkk;cases hkk
   obtain ⟨rfl,rfl⟩:=(HA.out).2 e0
   have HF:Hid (IsRow W4 R rm1 L1∧FK RT R W4 W4):=⟨HI4.out,FK.refl _ _ _⟩
   go_wp2_with fail
   go_meet
   case rel=>exact HF
 case rest =>
  obtain ⟨hI5,hF5⟩:=hcut.out
  have hnN:¬ RT 38:=by unfold RT;decide
  have hnP:¬ RT 95:=by unfold RT;decide
  have hRw:R≤w.heap.size:=by omega
  have HFK:Hid (FK RT R w wc):=(FK.below HK4.out).trans hF5
  have HI0:Hid (InRd w R rm1 L1 (X.kindOf p) L.length #[.int .i64 (X.kindOf p),.int .i64 tk,.string tx,.slice ao (X.kidsOf p).length cap] (X.kidsOf p) 0 (.slice none 0 0) [] (fun _=>False) wc):=by
   refine ⟨hF5.heap HN4.out hnN,hF5.heap HR4.out hnP,hF5.heap HP4.out hnP,World.ownsRow_nil _ _ _ _,rfl,(fun i q p h=>by simp at h),(fun q h=>h.elim),?_,HFK.out,Nat.le_trans hz4 hF5.size⟩
   have e1:X.rmss ([]:List X.Part)=[]:=rfl
   have e2:X.fls (X.kindOf p==14) []=[]:=rfl
   rw [List.take_zero,e1,e2,List.append_nil,List.append_nil];exact hI5
  have HCall:Hid (∀ j,j<(X.kidsOf p).length→∃ (q:X.Part) (g:Nat) (a1 a2:Int) (a3:ByteArray) (a4:Option Addr) (a5 a6:Nat),(X.kidsOf p)[j]?=some q∧ao=some ⟨g,0,none⟩∧g<R∧w.cell? ⟨g,j*4,none⟩=some (.int .i64 a1)∧w.cell? ⟨g,j*4+1,none⟩=some (.int .i64 a2)∧w.cell? ⟨g,j*4+2,none⟩=some (.string a3)∧w.cell? ⟨g,j*4+3,none⟩=some (.slice a4 a5 a6) ∧
    ∀ W,FK RT R w W→IsRow W R (rm1++X.rmss ((X.kidsOf p).take j)) (L1++X.fls (X.kindOf p==14) ((X.kidsOf p).take j))→Calls Tryz.prog 38 #[.pointer (some ⟨R,0,none⟩),.agg #[.int .i64 a1,.int .i64 a2,.string a3,.slice a4 a5 a6],.int .i64 (X.kindOf p)] W fun e w'=>∃ (n1 n2 n3:Nat) (b1:Option Addr) (b2 b3:Nat),e=.returned (.agg #[.int .i64 n1,.int .i64 n2,.int .i64 n3,.slice b1 b2 b3])∧Hid (n3=n2+(X.nt q).length)∧Hid (IsRow w' R (rm1++X.rmss ((X.kidsOf p).take (j+1))) (L1++X.fls (X.kindOf p==14) ((X.kidsOf p).take (j+1)))∧FK RT R W w'∧∃ E,IsPt w' E (L.length+(X.nts' (X.tks ((X.kidsOf p).take j))).length) (.agg #[.int .i64 n1,.int .i64 n2,.int .i64 n3,.slice b1 b2 b3]) q∧∀ x,E x→W.heap.size≤x∧x<w'.heap.size)):=fun j hj=>by
   have hne0:X.kindOf p≠0:=fun e=>by
    obtain ⟨k,x,rfl⟩:=hk0 e
    simp [X.kidsOf] at hj
   obtain ⟨rfl,rfl⟩:=(HA.out).2 hne0
   obtain ⟨hfp,hpp,hnt,hrr⟩:X.fl (kd==14) p=X.fls (X.kindOf p==14) (X.kidsOf p)∧X.pl p=X.pls (X.kidsOf p)∧X.nt p=X.nts' (X.kidsOf p)∧X.rms p=X.rmss (X.kidsOf p):=by
    cases p with
    | leaf k x=>exact absurd rfl hne0
    | miss m=>exact ⟨rfl,rfl,rfl,rfl⟩
    | br k ps=>exact ⟨X.fl_br _ _ _,by rw [X.pl];rfl,by unfold X.nt X.nts';rw [X.pl];rfl,X.rms_br k ps⟩
   rw [hfp] at hfl
   rw [hpp] at hnp
   rw [hnt] at hne hll
   rw [hrr] at hrl
   have hq:(X.kidsOf p)[j]?=some (X.kidsOf p)[j]:=List.getElem?_eq_getElem hj
   obtain ⟨g,e1,e2,z0,z1,z2,z3⟩:=(HR.out) j hj
   have hkid:=(HKD.out) j _ hq
   obtain ⟨a1,a2,a3,a4,a5,a6,hqv⟩:=hkid.shape
   unfold q4v at hqv
   simp only [Value.agg.injEq,Array.mk.injEq,List.cons.injEq,and_true] at hqv
   obtain ⟨u0,u1,u2,u3⟩:=hqv
   rw [u0,u1,u2,u3] at hkid
   rw [u0] at z0
   rw [u1] at z1
   rw [u2] at z2
   rw [u3] at z3
   refine ⟨_,g,a1,a2,a3,a4,a5,a6,hq,e1,hD g e2,z0,z1,z2,z3,fun W hW hI=>?_⟩
   have t1:=X.fls_take (X.kindOf p==14) hq
   have t2:=X.rmss_take hq
   have t3:=X.nts_take hq
   obtain ⟨r1,d1⟩:=X.fls_cut (X.kindOf p==14) (X.kidsOf p) (j+1)
   obtain ⟨r2,d2⟩:=X.rmss_cut (X.kidsOf p) (j+1)
   obtain ⟨r3,d3⟩:=X.nts_cut (X.kidsOf p) (j+1)
   have hmp:∀ t∈X.pl (X.kidsOf p)[j],t.2≠[]:=fun t ht=>hnp t (by
    obtain ⟨a,b,e⟩:=List.append_of_mem (List.getElem_mem hj)
    rw [e,X.pls_append,X.pls]
    exact List.mem_append_right _ (List.mem_append_left _ ht))
   have hfl2:=hfl
   rw [d1,t1,← List.append_assoc,← List.append_assoc] at hfl2
   obtain ⟨r4,d4⟩:=X.flt_pre (L1++X.fls (X.kindOf p==14) ((X.kidsOf p).take j)++X.fl (X.kindOf p==14) (X.kidsOf p)[j]) r1
   rw [d4,List.length_append] at hfl2
   have hll2:=hll
   rw [d3,t3,List.length_append,List.length_append] at hll2
   have hrl2:=hrl
   rw [d2,t2,List.length_append,List.length_append] at hrl2
   have hfll:=X.fls_len (X.kindOf p==14) ((X.kidsOf p).take j)
   refine (((HIH.out) j _ hq) W R D _ (X.kindOf p) _ _ hD (hkid.kept hW (fun q e e2=>by have:=hD q e2;have:=e.1;omega)) hI (fun t ht=>hmp t (List.mem_filter.1 ht).1) hmp (by omega) (by rw [List.length_append];omega) (by rw [List.length_append];omega)).mono ?_
   rintro e w' ⟨pv,rfl,H⟩
   obtain ⟨h1,h2,E,h3,h4⟩:=H.out
   obtain ⟨b1,b2,b3,rfl⟩:=h3.shape
   refine ⟨_,_,_,b1,b2,b3,rfl,hide rfl,?_,h2,E,?_,h4⟩
   ·rw [t1,t2,← List.append_assoc,← List.append_assoc];exact h1
   ·have:(L1++X.fls (X.kindOf p==14) ((X.kidsOf p).take j)).length=L1.length+(X.nts' (X.tks ((X.kidsOf p).take j))).length:=by rw [List.length_append,hfll,X.nts_tks]
    rw [this] at h3
    rw [this];exact h3
  have HEND:Hid (rm++X.rms p=rm1++X.rmss (X.kidsOf p)∧L++X.fl (kd==14) p=L1++X.fls (X.kindOf p==14) (X.kidsOf p)):=by
   by_cases e:X.kindOf p=0
   ·obtain ⟨k,x,rfl⟩:=hk0 e
    obtain ⟨rfl,rfl⟩:=(HA.out).1 e
    exact ⟨by rw [show X.rmss (X.kidsOf (.leaf k x))=[] from rfl,List.append_nil],by rw [show X.fls (X.kindOf (.leaf k x)==14) (X.kidsOf (.leaf k x))=[] from rfl,List.append_nil]⟩
   ·obtain ⟨rfl,rfl⟩:=(HA.out).2 e
    cases p with
    | leaf k x=>exact absurd rfl e
    | miss m=>exact ⟨rfl,rfl⟩
    | br k ps=>exact ⟨by rw [X.rms_br];rfl,by rw [X.fl_br];rfl⟩
  have HLT:Hid ((L1++X.fls (X.kindOf p==14) (X.kidsOf p)).length=L.length+(X.nt p).length):=by show _=_;rw [← (HEND.out).2,List.length_append,X.fl_len]
  clear HA hlf HKD HIH HR hI5 hF5 hcut HN4 HR4 HP4 HI4 x0 hfl hne hnp hk0 HK4 hz4
  generalize hkk:X.kindOf p=kk at *
  generalize hps:X.kidsOf p=ps at *
  have HKK:=hide hkk
  have HPS:=hide hps
  clear hkk hps
  have x0:=cell_of_row wc _ 0 _ _ _ (HI0.out).nod
  have x3:=cell_of_row wc _ 3 _ _ _ (HI0.out).nod
  go_wp2_with fail
  clear x0 x3
  go_loopw [29] (fun iv wr=>∃ (j:Nat) (kv:Value) (qs:List Q4) (E:Nat→Prop),iv=.int .i64 j∧j≤ps.length∧Hid (InRd w R rm1 L1 kk L.length #[.int .i64 kk,.int .i64 tk,.string tx,.slice ao ps.length cap] ps j kv qs E wr)) (fun iv _=>ps.length - (intOf iv).toNat)
  case atStart=>exact ⟨0,_,_,_,rfl,Nat.zero_le _,HI0⟩
  case round =>
   clear HI0
   obtain ⟨j,kv,qs,E,rfl,hj,HI⟩:=hrel
   obtain ⟨kao,kn,kc,rfl⟩:∃ kao kn kc,kv=.slice kao kn kc:=by
    rcases (HI.out).row.2 with ⟨rfl,-⟩|⟨g,cap,cur,rfl,-⟩
    ·exact ⟨_,_,_,rfl⟩
    ·exact ⟨_,_,_,rfl⟩
   have hkn:kn=qs.length:=owns_len (HI.out).row
   subst hkn
   have n0:=cell_of_row wr _ 0 _ _ _ (HI.out).nod
   have n1:=cell_of_row wr _ 1 _ _ _ (HI.out).nod
   have n2:=cell_of_row wr _ 2 _ _ _ (HI.out).nod
   have n3:=cell_of_row wr _ 3 _ _ _ (HI.out).nod
   have p0:=cell_of_row wr _ 0 _ _ _ (HI.out).prt
   have p1:=cell_of_row wr _ 1 _ _ _ (HI.out).prt
   have p2:=cell_of_row wr _ 2 _ _ _ (HI.out).prt
   have pp3:=cell_of_row wr _ 3 _ _ _ (HI.out).prt
   have hszr:=(HI.out).sz
   by_cases hlt:j<ps.length
   case neg =>
    obtain rfl:j=ps.length:=by omega
    have i1:decide (ps.length<ps.length)=false:=by simp
    have i2:decide ((ps.length:Int)<(ps.length:Int))=false:=by simp
    have m0:=cell_of_row wr _ 0 _ _ _ (HI.out).res
    have m1:=cell_of_row wr _ 1 _ _ _ (HI.out).res
    have m2:=cell_of_row wr _ 2 _ _ _ (HI.out).res
    have m3:=cell_of_row wr _ 3 _ _ _ (HI.out).res
    have fr:∀ o,wr.frozen? ⟨w.heap.size+1,o,none⟩=false:=fun o=>by simp [World.frozen?,(HI.out).res]
    have fp:∀ o,wr.frozen? ⟨w.heap.size+2,o,none⟩=false:=fun o=>by simp [World.frozen?,(HI.out).prt]
    have f0:=fr 0
    have f1:=fr 1
    have f2:=fr 2
    have f3:=fr 3
    have f4:=fp 2
    obtain ⟨⟨rv2,fv2,tv2,hraw⟩,hLne⟩:=(HI.out).isr
    obtain ⟨⟨r0,r1,r2,r3⟩,rf,hRx⟩:=hraw.cells
    have htl:=owns_len hraw.oex
    rw [X.exts_len,List.take_length,HLT.out] at htl
    obtain ⟨tao2,tn2,tc2,rfl⟩:∃ tao tn tc,tv2=.slice tao tn tc:=by
     rcases hraw.oex.2 with ⟨rfl,-⟩|⟨g,cap,cur,rfl,-⟩
     ·exact ⟨_,_,_,rfl⟩
     ·exact ⟨_,_,_,rfl⟩
    have htl':tn2=L.length+(X.nt p).length:=htl
    subst htl'
    have HF:Hid (∀ w',Kp (fun q=>q=w.heap.size+1∨q=w.heap.size+2) wr w'→IsRow w' R (rm++X.rms p) (L++X.fl (kd==14) p)∧FK RT R w w'∧∃ E',IsPt w' E' L.length (.agg #[.int .i64 kk,.int .i64 L.length,.int .i64 ((L.length+(X.nt p).length:Nat):Int),.slice kao qs.length kc]) p∧∀ q,E' q→w.heap.size≤q∧q<w'.heap.size):=fun w' hk=>by
     have hfk:FK (fun t=>t=95) 0 wr w':=Kp.mono hk (fun i hi e=>by
      rcases e with rfl|rfl
      ·exact ⟨Nat.zero_le _,_,_,_,(HI.out).res,rfl⟩
      ·exact ⟨Nat.zero_le _,_,_,_,(HI.out).prt,rfl⟩)
     refine ⟨?_,Kp.trans (HI.out).fk hk (fun i hi e=>by omega),?_⟩
     ·have:=(HI.out).isr.keep hfk (fun t e=>by rw [e];exact hnP)
      rw [List.take_length] at this
      rw [(HEND.out).1,(HEND.out).2];exact this
     ·have hh:=HI.out
      rw [← HPS.out] at hh
      exact hh.part (Kp.mono hk (fun i hi e=>by show i<_;omega)) HKK.out _ rfl
    clear hraw htl rf fr fp HCall hLne
    go_wp2_with fail
    try simp only [Exit.inBlock,Exit.then]
    refine bodyPost_ret (v:=.agg #[.int .i64 kk,.int .i64 L.length,.int .i64 ((L.length+(X.nt p).length:Nat):Int),.slice kao qs.length kc]) ?_ rfl ?_
    ·simp [results,Tryz.results38,go_sem,m0,m1,m2,m3]
    ·refine ⟨_,rfl,(HF.out) _ ?_⟩
     refine Kp.setCell (Kp.setCell (Kp.setCell (Kp.setCell (Kp.setCell (Kp.refl _ wr) (p:=⟨w.heap.size+2,2,none⟩) (fun _=>.inr rfl) _) (p:=⟨w.heap.size+1,0,none⟩) (fun _=>.inl rfl) _) (p:=⟨w.heap.size+1,1,none⟩) (fun _=>.inl rfl) _) (p:=⟨w.heap.size+1,2,none⟩) (fun _=>.inl rfl) _) (p:=⟨w.heap.size+1,3,none⟩) (fun _=>.inl rfl) _
   have i1:decide (j<ps.length)=true:=by simp;omega
   have i2:decide ((j:Int)<(ps.length:Int))=true:=by simp;omega
   have hi1:(0:Int)≤(j:Int):=Int.natCast_nonneg _
   have hi2:(j:Int)<(ps.length:Int):=by omega
   obtain ⟨q,g,a1,a2,a3,a4,a5,a6,hq,rfl,hgR,z0,z1,z2,z3,hcall⟩:=(HCall.out) j hlt
   have y0:=lowc (HI.out).fk hgR z0
   have y1:=lowc (HI.out).fk hgR z1
   have y2:=lowc (HI.out).fk hgR z2
   have y3:=lowc (HI.out).fk hgR z3
   have HC:=hide hcall
   clear hcall z0 z1 z2 z3 HCall
   have hl0:w.heap.size<wr.heap.size:=by omega
   have hl1:w.heap.size+1<wr.heap.size:=by omega
   have hl2:w.heap.size+2<wr.heap.size:=by omega
   have hl3:g<wr.heap.size:=by omega
   go_wp2_with fail
   have kA:Below wr.heap.size wr (wr.alloc (.cells #[.int .i64 a1,.int .i64 a2,.string a3,.slice a4 a5 a6] 38)):=(Below.refl _ wr).alloc (Nat.le_refl _) _
   have hszA:(wr.alloc (.cells #[.int .i64 a1,.int .i64 a2,.string a3,.slice a4 a5 a6] 38)).heap.size=wr.heap.size+1:=by simp
   refine ((HC.out) _ ((HI.out).fk.trans (FK.below kA)) ((HI.out).isr.below kA)).mono ?_
   rintro e w5 ⟨m1,m2,m3,b1,b2,b3,rfl,HM3,H5⟩
   obtain ⟨h51,h52,E5,h53,h54⟩:=H5.out
   have fkA:FK RT R wr w5:=(FK.below kA).trans h52
   have hz5:wr.heap.size+1≤w5.heap.size:=by have:=h52.size;omega
   have k56:Below w5.heap.size w5 (w5.alloc (.cells #[.int .i64 m1,.int .i64 m2,.int .i64 m3,.slice b1 b2 b3] 95)):=(Below.refl _ w5).alloc (Nat.le_refl _) _
   have c65:=Kp.ofBelow k56 (fun _=>False)
   have fkB:=fkA.trans (FK.below k56)
   have prt5:=fkA.heap (HI.out).prt hnP
   have p3:=cell_of_row w5 _ 3 _ _ _ prt5
   have hl5:w.heap.size+2<w5.heap.size:=by omega
   clear prt5
   have HNOD:=hide (fkB.heap (HI.out).nod hnN)
   have HRES:=hide (fkB.heap (HI.out).res hnP)
   have HPRT:=hide (fkB.heap (HI.out).prt hnP)
   have HROW:=hide (fkB.owns (HI.out).row hnP)
   have HKIDS:Hid (∀ (i:Nat) (q':Q4) (p:X.Part),qs[i]?=some q'→(X.tks (ps.take j))[i]?=some p→IsPt (w5.alloc (.cells #[.int .i64 m1,.int .i64 m2,.int .i64 m3,.slice b1 b2 b3] 95)) E (L.length+(X.nts' ((X.tks (ps.take j)).take i)).length) (q4v q') p):=fun i q' p h1 h2=>IsPt.fk fkB hnP ((HI.out).kids i q' p h1 h2)
   have HSEP:=hide ((HI.out).sep)
   have HLEN:=hide ((HI.out).len)
   have HISR:=hide (h51.below k56)
   have HNEW:=hide (h53.kept c65 (fun _ h=>h.elim))
   have HE5:=hide h54
   have HFK6:=hide ((HI.out).fk.trans fkB)
   have hnew:(w5.alloc (.cells #[.int .i64 m1,.int .i64 m2,.int .i64 m3,.slice b1 b2 b3] 95)).heap[w5.heap.size]?=some (.cells #[.int .i64 m1,.int .i64 m2,.int .i64 m3,.slice b1 b2 b3] 95 (0,0)):=heap_alloc_new w5 _
   have hz6:(w5.alloc (.cells #[.int .i64 m1,.int .i64 m2,.int .i64 m3,.slice b1 b2 b3] 95)).heap.size=w5.heap.size+1:=by simp
   have HOB:Hid (∀ x,(Value.slice kao qs.length kc).ownBlock=some x→w.heap.size+3≤x∧x<wr.heap.size):=fun x hx=>owns_ge (HI.out).row x hx
   clear H5 h51 h52 h53 h54 fkA fkB HI HC n0 n1 n2 n3 p0 p1 p2 pp3 y0 y1 y2 y3 kA
   by_cases hnq:X.nt q=[]
   ·have hm3:m3=m2:=by rw [HM3.out,hnq];rfl
    have i5:decide ((m2:Int)<(m3:Int))=false:=by rw [hm3];simp
    have i6:decide (m2<m3)=false:=by rw [hm3];simp
    clear hm3
    have HN:Hid (InRd w R rm1 L1 kk L.length #[.int .i64 kk,.int .i64 tk,.string tx,.slice (some ⟨g,0,none⟩) ps.length cap] ps (j+1) (.slice kao qs.length kc) qs E (w5.alloc (.cells #[.int .i64 m1,.int .i64 m2,.int .i64 m3,.slice b1 b2 b3] 95))):=by
     have et:X.tks (ps.take (j+1))=X.tks (ps.take j):=by rw [X.tks_take hq,X.tks_none hnq,List.append_nil]
     refine ⟨HNOD.out,HRES.out,HPRT.out,HROW.out,by rw [et];exact HLEN.out,by rw [et];exact HKIDS.out,fun x hx=>?_,HISR.out,HFK6.out,by omega⟩
     have:=(HSEP.out) x hx
     exact ⟨this.1,by omega,this.2.2⟩
    clear HKIDS HNEW
    go_wp2_with fail
    exact ⟨⟨j+1,_,_,_,by go_num,by omega,HN⟩,by simp only [intOf];omega⟩
   have hpos:0<(X.nt q).length:=List.length_pos_iff.2 hnq
   have i5:decide ((m2:Int)<(m3:Int))=true:=by have:=HM3.out;simp;omega
   have i6:decide (m2<m3)=true:=by have:=HM3.out;simp;omega
   have hql:qs.length≤1073741824:=by
    have h1:=HLEN.out
    have h2:=X.tks_len (ps.take j)
    rw [List.length_take] at h2
    omega
   have HFZ:Hid (∀ o,(w5.alloc (.cells #[.int .i64 m1,.int .i64 m2,.int .i64 m3,.slice b1 b2 b3] 95)).frozen? ⟨w.heap.size+2,o,none⟩=false):=fun o=>by simp [World.frozen?,HPRT.out]
   have HFAR:Hid (some (w.heap.size+2)≠(Value.slice kao qs.length kc).ownBlock):=fun e=>by have:=(HOB.out) _ e.symm;omega
   go_wp2_with (at_builtin;refine wpList_append_lies _ rfl _ _ 93 rfl (w.heap.size+3) 95 ip _ 4 48 Tryz.underlying93 hip hp0 hp1 hp2 rfl (by decide) (.slice kao qs.length kc) qs.length _ rfl ((HROW.out).alloc _) ⟨w5.heap.size+1,0,none⟩ 1 1 [.int .i64 m1,.int .i64 m2,.int .i64 m3,.slice b1 b2 b3] rfl rfl (World.news_of_block (cs:=#[.int .i64 m1,.int .i64 m2,.int .i64 m3,.slice b1 b2 b3]) (new_at _ _ (by simp))) (by simp [Value.oneCell']) (by omega) (by unfold maxLen;omega) (by omega) (by simp;omega) (w5.heap.size+2) (by simp) ?_;intro g8 cap8 w8 hown8 hgrow8 hat8 hlt8;have x4:w8.frozen? ⟨w.heap.size+2,3,none⟩=false:=(hgrow8.frozen_far ⟨w.heap.size+2,3,none⟩ (by simp;omega) HFAR.out).trans ((World.frozen?_alloc_old _ _ ⟨w.heap.size+2,3,none⟩ (by simp;omega)).trans ((HFZ.out) 3));have k8:Kp (fun x=>(Value.slice kao qs.length kc).ownBlock=some x) (w5.alloc (.cells #[.int .i64 m1,.int .i64 m2,.int .i64 m3,.slice b1 b2 b3] 95)) w8:=Kp.grown (Kp.alloc (Kp.refl _ _) _) hgrow8 (fun k e _=>e);have hd8:w8.heap[w.heap.size+2]?=some (.cells #[.int .i64 kk,.int .i64 L.length,.int .i64 0,.slice kao qs.length kc] 95 (0,0)):=k8.heap HPRT.out (fun e=>(HFAR.out) e.symm);have x5:=cell_of_row w8 _ 3 _ _ _ hd8;have HK8:=hide k8;have HD8:=hide hd8;have HO8:=hide hown8;have HA8:=hide hat8;have hl8:w5.heap.size+1≤w8.heap.size:=(by have:=k8.size;simp at this;omega);clear hown8 hgrow8 hat8 hlt8 k8 hd8)
   have HN:Hid (InRd w R rm1 L1 kk L.length #[.int .i64 kk,.int .i64 tk,.string tx,.slice (some ⟨g,0,none⟩) ps.length cap] ps (j+1) (.slice (some ⟨g8,0,none⟩) (qs.length+1) cap8) (qs++[(.int .i64 m1,.int .i64 m2,.int .i64 m3,.slice b1 b2 b3)]) (fun x=>E x∨E5 x) (w8.setCell ⟨w.heap.size+2,3,none⟩ (.slice (some ⟨g8,0,none⟩) (qs.length+1) cap8))):=by
    have kF:Kp (fun x=>x=w.heap.size+2∨(Value.slice kao qs.length kc).ownBlock=some x) (w5.alloc (.cells #[.int .i64 m1,.int .i64 m2,.int .i64 m3,.slice b1 b2 b3] 95)) (w8.setCell ⟨w.heap.size+2,3,none⟩ (.slice (some ⟨g8,0,none⟩) (qs.length+1) cap8)):=Kp.setCell ((HK8.out).mono (fun x _ e=>.inr e)) (p:=⟨w.heap.size+2,3,none⟩) (fun _=>.inl rfl) _
    have fF:FK (fun t=>t=95) 0 (w5.alloc (.cells #[.int .i64 m1,.int .i64 m2,.int .i64 m3,.slice b1 b2 b3] 95)) (w8.setCell ⟨w.heap.size+2,3,none⟩ (.slice (some ⟨g8,0,none⟩) (qs.length+1) cap8)):=Kp.mono kF (fun x hx e=>by
     rcases e with rfl|e
     ·exact ⟨Nat.zero_le _,_,_,_,HPRT.out,rfl⟩
     ·obtain ⟨-,c,hc⟩:=own_ty HROW.out e
      exact ⟨Nat.zero_le _,_,_,_,hc,rfl⟩)
    have hzF:=kF.size
    have et:X.tks (ps.take (j+1))=X.tks (ps.take j)++[q]:=by rw [X.tks_take hq,X.tks_one hnq]
    have hlen:=HLEN.out
    have hg8:g8≠w.heap.size+2:=fun e=>by
     rcases HA8.out with h|h
     ·have:=(HOB.out) _ h;omega
     ·omega
    refine ⟨kF.heap HNOD.out (fun e=>?_),kF.heap HRES.out (fun e=>?_),set_blk HD8.out 3 _,?_,by rw [et,List.length_append,List.length_append,hlen];rfl,fun i q' p' h1 h2=>?_,fun x e=>?_,(HISR.out).keep fF (fun t e=>by rw [e];exact hnP),Kp.trans HFK6.out kF (fun i hi e=>?_),by omega⟩
    ·rcases e with e|e
     ·omega
     ·have:=(HOB.out) _ e;omega
    ·rcases e with e|e
     ·omega
     ·have:=(HOB.out) _ e;omega
    ·rw [List.flatMap_append,List.length_append]
     exact ownsRow_setCell_other HO8.out (by simp [Value.ownBlock];omega) _
    ·rw [et] at h2 ⊢
     rcases Nat.lt_or_ge i qs.length with hi|hi
     ·rw [List.getElem?_append_left hi] at h1
      rw [List.getElem?_append_left (by omega)] at h2
      rw [List.take_append_of_le_length (by omega)]
      refine (((HKIDS.out) i q' p' h1 h2).kept kF (fun x e e2=>?_)).low (fun _=>.inl)
      obtain ⟨s1,s2,s3⟩:=(HSEP.out) x e2
      rcases e with e|e
      ·omega
      ·exact s3 e
     ·have hij:i=qs.length:=by
       rcases Nat.lt_or_ge i (qs.length+1) with g|g
       ·omega
       ·rw [List.getElem?_eq_none (by simp;omega)] at h1;cases h1
      subst hij
      rw [List.getElem?_append_right (Nat.le_refl _),Nat.sub_self] at h1
      obtain rfl:=Option.some.inj h1
      rw [hlen,List.getElem?_append_right (Nat.le_refl _),Nat.sub_self] at h2
      obtain rfl:=Option.some.inj h2
      have e9:(X.tks (ps.take j)++[q]).take qs.length=X.tks (ps.take j):=by rw [hlen,List.take_left' rfl]
      rw [e9]
      refine ((HNEW.out).kept kF (fun x e e2=>?_)).low (fun _=>.inr)
      have:=(HE5.out) x e2
      rcases e with e|e
      ·omega
      ·have:=(HOB.out) _ e;omega
    ·simp only [Value.ownBlock,ne_eq,Option.some.injEq]
     rcases e with e|e
     ·obtain ⟨s1,s2,s3⟩:=(HSEP.out) x e
      refine ⟨s1,by omega,fun h=>?_⟩
      subst h
      rcases HA8.out with h|h
      ·exact s3 h
      ·omega
     ·have:=(HE5.out) x e
      refine ⟨by omega,by omega,fun h=>?_⟩
      subst h
      rcases HA8.out with h|h
      ·have:=(HOB.out) _ h;omega
      ·omega
    ·rcases e with e|e
     ·omega
     ·have:=(HOB.out) _ e;omega
   go_wp2_with fail
   exact ⟨⟨j+1,_,_,_,by go_num,by omega,HN⟩,by simp only [intOf];omega⟩
theorem aread_any:∀ (n:Nat) (p:X.Part),X.psz p≤n→X.psz p≤1073741824→X.kok p→RQ p:=by
 intro n
 induction n with
 | zero=>intro p h;have:=X.psz_pos p;omega
 | succ n ih =>
  intro p hn hz hk
  cases p with
  | leaf k x=>exact read_node (.leaf k x) (fun _=>⟨k,x,rfl⟩) (by simp [X.kidsOf]) (fun j q hq=>by simp [X.kidsOf] at hq)
  | miss m=>exact read_node (.miss m) (fun e=>by simp [X.kindOf] at e) (by simp [X.kidsOf]) (fun j q hq=>by simp [X.kidsOf] at hq)
  | br k ps =>
   rw [X.psz] at hn hz
   rw [X.kok] at hk
   have hl:=X.pssz_len ps
   refine read_node (.br k ps) (fun e=>absurd e hk.1) (by show ps.length≤_;omega) (fun j q hq=>?_)
   have hm:=X.pssz_mem ps j q hq
   exact ih q (by omega) (by omega) (X.koks_mem ps j q hk.2 hq)
end Go.Proofs.YtgpcpbmacdhlkaaGreatDoor
