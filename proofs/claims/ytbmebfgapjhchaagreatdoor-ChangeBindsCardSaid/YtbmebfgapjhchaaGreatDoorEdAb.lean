/- What comes of an edit: the walk. -/
import Derived.Test.YtbmebfgapjhchaaGreatDoorEdAa
import Derived.Test.YtbmebfgapjhchaaGreatDoorEdNb
import Derived.Test.YtbmebfgapjhchaaGreatDoorEdGb
namespace Go.Proofs.YtbmebfgapjhchaaGreatDoor.Ed
open Go.RowKit
open EM
theorem IsO.more {F F':Nat→Prop} {B:Nat} {w:World} {b:Nat} {l:List UInt8} (h:IsO B w b l F) (hF:∀ k,F k→F' k) (hl:∀ k,F' k→B≤k∧k<w.heap.size):IsO B w b l F' :=
 ⟨h.at_,hF _ h.f,fun v hv k hk=>hF _ (h.own v hv k hk),hl⟩
structure AI (B:Nat) (w wr:World) (x R:By) (b b0 b1 b2 k a:Nat) (l:By) (S:List St) (FO FN:Nat→Prop):Prop where
 sb:SB wr k (hdS S)
 nx:IsN B wr b0 b1 b2 S.tail FN
 ob:IsO B wr b l FO
 dj:∀ i,FO i→¬ FN i
 kb:B≤k∧¬ FO k∧¬ FN k
 be:Below B w wr
 al:l++run S (x.drop a)=R
 nd:a+need S≤x.length
 ps:pos S
theorem AI.len {B:Nat} {w wr:World} {x R:By} {b b0 b1 b2 k a:Nat} {l:By} {S:List St} {FO FN:Nat→Prop} (h:AI B w wr x R b b0 b1 b2 k a l S FO FN):l.length+(run S (x.drop a)).length=R.length:=by
 rw [← h.al,List.length_append]
theorem AI.start {w w1 w2 w3:World} {x R:By} {b0 b1 b2 b:Nat} {Ls:List Sp} (hb:b=w.heap.size) (hO:IsO b w1 b [] (fun k=>b≤k∧k<w1.heap.size)) (h1:Below b w w1) (h2:Below w1.heap.size w1 w2) (h3:Kp (fun k=>w1.heap.size≤k∧k<w2.heap.size) w2 w3)
  (hN:IsN b w3 b0 b1 b2 (sts 0 Ls).tail (fun k=>(w1.heap.size≤k∧k<w2.heap.size)∨(w2.heap.size≤k∧k<w3.heap.size))) (hR:run (sts 0 Ls) x=R) (hnd:need (sts 0 Ls)≤x.length) :
  AI b w (w3.alloc (.cells #[.int .i64 (hdS (sts 0 Ls)).k,.int .i64 (hdS (sts 0 Ls)).c,.string (ba (hdS (sts 0 Ls)).s)] 154)) x R b b0 b1 b2 w3.heap.size 0 [] (sts 0 Ls) (fun k=>b≤k∧k<w1.heap.size) (fun k=>(w1.heap.size≤k∧k<w2.heap.size)∨(w2.heap.size≤k∧k<w3.heap.size)):=by
 have z1:=h1.size
 have z2:=h2.size
 have z3:=h3.size
 have ka:Kp (fun _=>False) w3 (w3.alloc (.cells #[.int .i64 (hdS (sts 0 Ls)).k,.int .i64 (hdS (sts 0 Ls)).c,.string (ba (hdS (sts 0 Ls)).s)] 154)):=(Kp.refl _ _).alloc _
 refine ⟨heap_alloc_new w3 _,hN.keep ka (fun _ _=>id) (fun _ h=>h.elim),((hO.keep (Kp.ofBelow h2 (fun _=>False)) (fun _ _=>id)).keep h3 (fun k hk hh=>by omega)).keep ka (fun _ _=>id),fun i hi hh=>by omega,⟨by omega,by omega,by omega⟩,?_,by simpa using hR,by omega,pos_sts 0 Ls⟩
 exact ((h1.trans (h2.mono (by omega))).trans (h3.below (by omega) (fun k hk=>by omega))).alloc (by omega) _
theorem AI.step {B:Nat} {w wr w3 w4:World} {x R:By} {b b0 b1 b2 k a a':Nat} {l l':By} {S:List St} {s:St} {FO FN:Nat→Prop} (hP:AI B w wr x R b b0 b1 b2 k a l (s::S) FO FN)
  (hO:IsO B w3 b l' (fun i=>FO i∨(wr.heap.size≤i∧i<w3.heap.size))) (hK:Kp FO wr w3)
  (hN:IsN B w4 b0 b1 b2 S.tail (fun i=>FN i∨(w3.heap.size+1≤i∧i<w4.heap.size))) (hK4:Kp FN (w3.alloc (.cells #[.int .i64 s.k,.int .i64 s.c,.string (ba s.s)] 154)) w4) (hS:SB w4 w3.heap.size s) (hF:∀ i,FN i→B≤i∧i<wr.heap.size)
  (hal:l'++run S (x.drop a')=l++run (s::S) (x.drop a)) (ha:a'=a+s.w) :
  AI B w (set3 w4 w3.heap.size (.int .i64 (hdS S).k) (.int .i64 (hdS S).c) (.string (ba (hdS S).s))) x R b b0 b1 b2 w3.heap.size a' l' S (fun i=>FO i∨(wr.heap.size≤i∧i<w3.heap.size)) (fun i=>FN i∨(w3.heap.size+1≤i∧i<w4.heap.size)):=by
 have z0:=hP.be.size
 have z3:=hK.size
 have z4:=hK4.size
 simp only [World.size_alloc] at z4
 have hlt:=hP.ob.lt
 have kX:Kp (fun i=>i=w3.heap.size) w4 (set3 w4 w3.heap.size (.int .i64 (hdS S).k) (.int .i64 (hdS S).c) (.string (ba (hdS S).s))):=set3_kp (Kp.refl _ _) _ _ _ _ (fun _=>rfl)
 have hB:B≤wr.heap.size:=Nat.le_trans (hlt b hP.ob.f).1 (Nat.le_of_lt (hlt b hP.ob.f).2)
 refine ⟨set3_at hS _ _ _,hN.keep kX (fun i hi e=>?_) (fun i hi=>by omega),?_,fun i hi hh=>?_,⟨by omega,fun h=>?_,fun h=>?_⟩,?_,hal.trans hP.al,?_,fun t ht=>hP.ps t (List.mem_cons_of_mem _ ht)⟩
 ·rcases hi with hi|hi
  ·have:=hF i hi;omega
  ·omega
 ·refine ((hO.keep ((Kp.refl (fun _=>False) w3).alloc _) (fun _ _=>id)).keep hK4 (fun i hi hh=>?_)).keep kX (fun i hi e=>?_)
  ·rcases hi with hi|hi
   ·exact hP.dj i hi hh
   ·have:=hF i hh;omega
  ·rcases hi with hi|hi
   ·have:=hlt i hi;omega
   ·omega
 ·rcases hi with hi|hi
  ·rcases hh with hh|hh
   ·exact hP.dj i hi hh
   ·have:=hlt i hi;omega
  ·rcases hh with hh|hh
   ·have:=hF i hh;omega
   ·omega
 ·rcases h with h|h
  ·have:=hlt _ h;omega
  ·omega
 ·rcases h with h|h
  ·have:=hF _ h;omega
  ·omega
 ·have b3:Below B w w3:=hP.be.trans (hK.below hB (fun i hi=>(hlt i hi).1))
  have b4:Below B w w4:=(b3.alloc (by omega) _).trans (hK4.below (by simp;omega) (fun i hi=>(hF i hi).1))
  exact set3_below b4 _ (by omega) _ _ _
 ·have:=hP.nd;rw [need_cons] at this;omega
set_option maxHeartbeats 1000000 in
theorem apply_no (s:ByteArray) (v:Value) (L:List Rw) (w:World) (h:IsL w v L) (hf:flt s.size L≠0) :
  Calls Tryz.prog 39 #[.string s,v] w fun e w'=>e=.returned (.tuple #[.string ⟨#[]⟩,errV (flt s.size L)])∧Below w.heap.size w w':=by
 have H:=hide h
 have HF:=hide (show errV (flt s.size L)=.iface 34 (.int .i64 (flt s.size L)) from if_neg hf)
 clear h
 go_enter Tryz.func39,Tryz.ntmps39
 go_wp2_with fail
 refine (fault_any s.size v L w H.out).mono ?_
 rintro e w1 ⟨rfl,hb1⟩
 rw [HF.out]
 go_wp2_with fail
 go_ret2
 exact ⟨by rw [HF.out];rfl,hb1⟩
set_option maxRecDepth 100000 in
set_option maxHeartbeats 4000000 in
theorem apply_yes (s:ByteArray) (v:Value) (Ls:List Sp) (w:World) (h:IsL w v (Ls.map raw)) (hb:∀ k,v.ownBlock=some k→k<w.heap.size) (hs:s.size≤1048576) (ht:tot Ls≤1073741824) (hok:Ok 0 s.size Ls) :
  Calls Tryz.prog 39 #[.string s,v] w fun e w'=>e=.returned (.tuple #[.string (ba (app (bs s) 0 Ls)),.nilIface])∧Below w.heap.size w w':=by
 have hsl:=bs_len s
 have HF:=hide (show errV (flt s.size (Ls.map raw))=.nilIface by rw [flt_Ok hok];rfl)
 have hok':Ok 0 (bs s).length Ls:=by rw [hsl];exact hok
 have HR:=hide (app_run (bs s) 0 Ls hok')
 have hRl:=app_len (bs s) 0 Ls hok'
 have HND:=hide (need_sts 0 _ Ls hok')
 have H:=hide h
 have HOK:=hide hok
 have HB:=hide hb
 clear h hok hok' hb
 generalize hRR:app (bs s) 0 Ls=R at HR hRl ⊢
 clear hRR
 go_enter Tryz.func39,Tryz.ntmps39
 go_wp2_with fail
 refine (fault_any s.size v _ w H.out).mono ?_
 rintro e w1 ⟨rfl,hb1⟩
 rw [HF.out]
 have hz1:=hb1.size
 have Hb1:=hide hb1
 have H1:=hide (((H.out).below hb1).keep ((Kp.refl (fun _=>False) w1).alloc (.cells #[.pointer none,.slice none 0 0] 150)) (fun _ _=>id))
 clear hb1
 go_wp2_with fail
 refine (lengthAfter_any s.size v Ls _ H1.out (by omega) (by omega) HOK.out).mono ?_
 rintro e w2 ⟨rfl,hb2⟩
 have hz2:=hb2.size
 simp only [World.size_alloc] at hb2 hz2
 have hX2:w2.heap[w1.heap.size]?=some (.cells #[.pointer none,.slice none 0 0] 150 (0,0)):=(hb2.block _ (by omega)).trans (heap_alloc_new w1 _)
 have HB2:=hide (show Below w1.heap.size w1 w2 from ((Below.refl _ w1).alloc (Nat.le_refl _) _).trans (hb2.mono (by omega)))
 have HX2:=hide hX2
 clear hb2 hX2
 go_wp2_with fail
 refine (growO _ w2 w1.heap.size HX2.out (by omega)).mono ?_
 rintro e w3 ⟨rfl,hO3,hb3⟩
 have hz3:=hb3.size
 have HB3:=hide ((HB2.out).trans hb3)
 have H3:=hide ((H.out).below ((Hb1.out).trans ((HB3.out).mono hz1)))
 have HO3:=hide hO3
 clear hO3 hb3 HB2 HX2
 go_wp2_with fail
 refine (stepsOf_any w1.heap.size v Ls _ (by omega) H3.out (fun k hk=>Nat.lt_of_lt_of_le (HB.out k hk) hz1) s.size HOK.out (by omega) (by omega)).mono ?_
 rintro e w4 ⟨rfl,hN4,hb4⟩
 have hz4:=hb4.size
 unfold nextV
 have HN4:=hide hN4
 have HB4:=hide hb4
 clear hN4 hb4
 go_wp2_with fail
 refine (next_any w1.heap.size _ _ _ (sts 0 Ls) _ w4 HN4.out (by omega)).mono ?_
 rintro e w5 ⟨rfl,hN5,hK5⟩
 have z5:=hK5.size
 have HP:=hide (AI.start (R:=R) rfl HO3.out HB3.out HB4.out hK5 hN5 (by have:=HR.out;rw [List.drop_zero] at this;exact this.symm) (by have:=HND.out;omega))
 obtain ⟨b0,eb0⟩:∃ x,w3.heap.size+1+1=x:=⟨_,rfl⟩
 obtain ⟨b2,eb2⟩:∃ x,w3.heap.size+1=x:=⟨_,rfl⟩
 obtain ⟨b1,eb1⟩:∃ x,w3.heap.size=x:=⟨_,rfl⟩
 rw [eb0,eb2] at HP ⊢
 obtain ⟨B,eB⟩:∃ x,w1.heap.size=x:=⟨_,rfl⟩
 rw [eB] at HP hz1 ⊢
 clear hN5 hK5 HN4 HB4 H1 H3 HB3 HO3 eb0 eb1 eb2 HR HND HB H hz2 hz3 hz4 z5
 unfold stV
 have h0:(Value.int .i64 0)=Value.int .i64 ((0:Nat):Int):=rfl
 go_upto_region 9 with fail
 go_loopg [8,10] (sts 0 Ls).length (fun g pa p wr=>∃ (S:List St) (k a:Nat) (l:By) (FO FN:Nat→Prop),pa=.int .i64 (a:Int)∧p=.pointer (some ⟨k,0,none⟩)∧S.length=g∧Hid (AI B w1 wr (bs s) R B b0 w3.heap.size b2 k a l S FO FN))
 case atStart=>exact ⟨sts 0 Ls,_,0,[],_,_,rfl,rfl,rfl,HP⟩
 case round =>
  clear HP
  obtain ⟨S,k,a,l,FO,FN,rfl,rfl,hg,HP⟩:=hrel
  obtain ⟨c0,c1,c2,hkl⟩:=(HP.out).sb.cells
  have hln:=(HP.out).len
  have hnd:=(HP.out).nd
  have hzr:=(HP.out).be.size
  cases S with
  | nil =>
   simp only [hdS,St.k,St.c,St.s] at c0 c1 c2
   rw [show ba []=⟨#[]⟩ from rfl] at c2
   have hnd2:a≤s.size:=by rw [← hsl];omega
   have HAL:=hide (show l++(bs s).drop a=R from (HP.out).al)
   go_wp2_with fail
   refine (Tryz.Builder_WriteString B B (Lib.byteCells l) (s.extract a s.size) wr (.inr (HP.out).ob.at_) (by rw [byteCells_len];have:=bs_drop s a;have h2:=bs_len (s.extract a s.size);rw [this,List.length_drop] at h2;simp only [run,List.length_drop] at hln;omega) (by omega)).mono ?_
   rintro e w6 ⟨rfl,hat6,hb6⟩
   have hz6:=hb6.size
   have e6:Lib.byteCells l++Lib.strCells (s.extract a s.size)=Lib.byteCells R:=by
    have h1:Lib.strCells (s.extract a s.size)=Lib.byteCells (bs (s.extract a s.size)):=rfl
    rw [h1,bs_drop,← HAL.out];simp [Lib.byteCells]
   rw [e6] at hat6
   have HAT:=hide hat6
   have HB6:=hide hb6
   clear hat6 hb6 e6
   go_wp2_with fail
   refine (Tryz.Builder_String_any B B R w6 (.inr HAT.out) (by omega)).mono ?_
   rintro e w7 ⟨rfl,hb7⟩
   have HB7:=hide hb7
   clear hb7
   go_wp2_with fail
   go_ret2
   exact ⟨rfl,(Hb1.out).trans ((((HP.out).be.trans HB6.out).trans HB7.out).mono hz1)⟩
  | cons s0 S =>
   have hsc:0<s0.c:=(HP.out).ps s0 (by simp)
   rw [need_cons] at hnd
   cases s0 with
   | stay n =>
    replace hsc:0<n:=hsc
    replace c0:wr.cell? ⟨k,0,none⟩=some (.int .i64 0):=c0
    replace c1:wr.cell? ⟨k,1,none⟩=some (.int .i64 (n:Int)):=c1
    replace c2:wr.cell? ⟨k,2,none⟩=some (.string (ba [])):=c2
    have hsc1:((n:Int)==0)=false:=by simp only [beq_eq_false_iff_ne,ne_eq];omega
    have hsc2:¬(n:Int)=0:=by omega
    replace hnd:a+(n+need S)≤(bs s).length:=hnd
    have hes:(s.extract a (a+n)).size=n:=by rw [← bs_len,bs_cut,List.length_drop,List.length_take];omega
    have y1:(a:Int)+(n:Int)≤(s.size:Int):=by omega
    have hlr:l.length≤R.length:=by omega
    have HAL2:=hide (show (l++bs (s.extract a (a+n)))++run S ((bs s).drop (a+n))=l++run (St.stay n::S) ((bs s).drop a) by rw [bs_cut];simp only [run,List.append_assoc,List.drop_drop];rw [List.drop_take,Nat.add_sub_cancel_left])
    go_wp2_with fail
    refine (writeO B B wr l (s.extract a (a+n)) FO (HP.out).ob (by omega) (by omega)).mono ?_
    rintro e w3' ⟨rfl,hO3,hK3⟩
    have z3:=hK3.size
    have S3:SB w3' k (St.stay n):=hK3.heap (HP.out).sb (HP.out).kb.2.1
    have hN3:=(HP.out).nx.keep hK3 (fun i hi hh=>(HP.out).dj i hh hi) (fun i hi=>((HP.out).ob.lt i hi).1)
    obtain ⟨d0,d1,d2,hkl3⟩:=S3.cells
    have HO3:=hide hO3
    have HK3:=hide hK3
    have HN3:=hide (hN3.keep ((Kp.refl (fun _=>False) w3').alloc (.cells #[.int .i64 (St.stay n).k,.int .i64 (St.stay n).c,.string (ba (St.stay n).s)] 154)) (fun _ _=>id) (fun _ h=>h.elim))
    replace d0:w3'.cell? ⟨k,0,none⟩=some (.int .i64 0):=d0
    replace d1:w3'.cell? ⟨k,1,none⟩=some (.int .i64 (n:Int)):=d1
    replace d2:w3'.cell? ⟨k,2,none⟩=some (.string (ba [])):=d2
    clear hO3 hK3 hN3 c0 c1 c2
    go_wp2_with fail
    refine (next_any B b0 w3.heap.size b2 S FN _ HN3.out (by simp;omega)).mono ?_
    rintro e w4 ⟨rfl,hN4,hK4⟩
    have hFN:∀ i,FN i→B≤i∧i<wr.heap.size:=by
     obtain ⟨_,_,_,hN,_⟩:=(HP.out).nx
     exact hN.lt
    have z4:=hK4.size
    simp only [World.size_alloc] at z4 hN4
    have S4:SB w4 w3'.heap.size (St.stay n):=hK4.heap (heap_alloc_new w3' _) (fun hf=>by have:=hFN _ hf;omega)
    obtain ⟨q0,q1,q2,q3⟩:=S4.cells
    have r0:=Lib.frozen_of_heap S4 0
    have r1:=Lib.frozen_of_heap S4 1
    have r2:=Lib.frozen_of_heap S4 2
    have HS4:=hide S4
    have HN4:=hide hN4
    have HK4:=hide hK4
    have HFN:=hide hFN
    clear S3 S4 hN4 hK4 hFN d0 d1 d2
    unfold stV
    go_wp2_with fail
    go_roundg S.length
    case measure=>simp only [List.length_cons] at hg;omega
    case rel =>
     exact ⟨S,w3'.heap.size,(a+n),(l++bs (s.extract a (a+n))),_,_,rfl,rfl,rfl,AI.step HP.out HO3.out HK3.out HN4.out HK4.out HS4.out HFN.out HAL2.out rfl⟩
   | put t =>
    replace hsc:0<t.length:=hsc
    replace c0:wr.cell? ⟨k,0,none⟩=some (.int .i64 1):=c0
    replace c1:wr.cell? ⟨k,1,none⟩=some (.int .i64 (t.length:Int)):=c1
    replace c2:wr.cell? ⟨k,2,none⟩=some (.string (ba t)):=c2
    have hsc1:((t.length:Int)==0)=false:=by simp only [beq_eq_false_iff_ne,ne_eq];omega
    have hsc2:¬(t.length:Int)=0:=by omega
    replace hnd:a+(0+need S)≤(bs s).length:=hnd
    have hes:(ba t).size=t.length:=ba_size t
    have hlr:l.length+t.length≤R.length:=by simp only [run,List.length_append] at hln;omega
    have HAL2:=hide (show (l++bs (ba t))++run S ((bs s).drop a)=l++run (St.put t::S) ((bs s).drop a) by rw [bs_ba];simp only [run,List.append_assoc])
    go_wp2_with fail
    refine (writeO B B wr l (ba t) FO (HP.out).ob (by omega) (by omega)).mono ?_
    rintro e w3' ⟨rfl,hO3,hK3⟩
    have z3:=hK3.size
    have S3:SB w3' k (St.put t):=hK3.heap (HP.out).sb (HP.out).kb.2.1
    have hN3:=(HP.out).nx.keep hK3 (fun i hi hh=>(HP.out).dj i hh hi) (fun i hi=>((HP.out).ob.lt i hi).1)
    obtain ⟨d0,d1,d2,hkl3⟩:=S3.cells
    have HO3:=hide hO3
    have HK3:=hide hK3
    have HN3:=hide (hN3.keep ((Kp.refl (fun _=>False) w3').alloc (.cells #[.int .i64 (St.put t).k,.int .i64 (St.put t).c,.string (ba (St.put t).s)] 154)) (fun _ _=>id) (fun _ h=>h.elim))
    replace d0:w3'.cell? ⟨k,0,none⟩=some (.int .i64 1):=d0
    replace d1:w3'.cell? ⟨k,1,none⟩=some (.int .i64 (t.length:Int)):=d1
    replace d2:w3'.cell? ⟨k,2,none⟩=some (.string (ba t)):=d2
    clear hO3 hK3 hN3 c0 c1 c2
    go_wp2_with fail
    refine (next_any B b0 w3.heap.size b2 S FN _ HN3.out (by simp;omega)).mono ?_
    rintro e w4 ⟨rfl,hN4,hK4⟩
    have hFN:∀ i,FN i→B≤i∧i<wr.heap.size:=by
     obtain ⟨_,_,_,hN,_⟩:=(HP.out).nx
     exact hN.lt
    have z4:=hK4.size
    simp only [World.size_alloc] at z4 hN4
    have S4:SB w4 w3'.heap.size (St.put t):=hK4.heap (heap_alloc_new w3' _) (fun hf=>by have:=hFN _ hf;omega)
    obtain ⟨q0,q1,q2,q3⟩:=S4.cells
    have r0:=Lib.frozen_of_heap S4 0
    have r1:=Lib.frozen_of_heap S4 1
    have r2:=Lib.frozen_of_heap S4 2
    have HS4:=hide S4
    have HN4:=hide hN4
    have HK4:=hide hK4
    have HFN:=hide hFN
    clear S3 S4 hN4 hK4 hFN d0 d1 d2
    unfold stV
    go_wp2_with fail
    go_roundg S.length
    case measure=>simp only [List.length_cons] at hg;omega
    case rel =>
     exact ⟨S,w3'.heap.size,a,(l++bs (ba t)),_,_,rfl,rfl,rfl,AI.step HP.out HO3.out HK3.out HN4.out HK4.out HS4.out HFN.out HAL2.out rfl⟩
   | drop n =>
    replace hsc:0<n:=hsc
    replace c0:wr.cell? ⟨k,0,none⟩=some (.int .i64 2):=c0
    replace c1:wr.cell? ⟨k,1,none⟩=some (.int .i64 (n:Int)):=c1
    replace c2:wr.cell? ⟨k,2,none⟩=some (.string (ba [])):=c2
    have hsc1:((n:Int)==0)=false:=by simp only [beq_eq_false_iff_ne,ne_eq];omega
    have hsc2:¬(n:Int)=0:=by omega
    replace hnd:a+(n+need S)≤(bs s).length:=hnd
    have y1:(a:Int)+(n:Int)≤(s.size:Int):=by omega
    have HAL2:=hide (show l++run S ((bs s).drop (a+n))=l++run (St.drop n::S) ((bs s).drop a) by simp only [run,List.drop_drop])
    obtain ⟨w3',ew3⟩:∃ y,y=wr:=⟨_,rfl⟩
    have hO3:IsO B w3' B l (fun i=>FO i∨(wr.heap.size≤i∧i<w3'.heap.size)):=by rw [ew3];exact (HP.out).ob.more (fun _ h=>.inl h) (fun i hi=>by rcases hi with hi|hi;exact (HP.out).ob.lt i hi;omega)
    have hK3:Kp FO wr w3':=by rw [ew3];exact Kp.refl _ _
    have z3:=hK3.size
    have S3:SB w3' k (St.drop n):=hK3.heap (HP.out).sb (HP.out).kb.2.1
    have hN3:=(HP.out).nx.keep hK3 (fun i hi hh=>(HP.out).dj i hh hi) (fun i hi=>((HP.out).ob.lt i hi).1)
    obtain ⟨d0,d1,d2,hkl3⟩:=S3.cells
    have HO3:=hide hO3
    have HK3:=hide hK3
    have HN3:=hide (hN3.keep ((Kp.refl (fun _=>False) w3').alloc (.cells #[.int .i64 (St.drop n).k,.int .i64 (St.drop n).c,.string (ba (St.drop n).s)] 154)) (fun _ _=>id) (fun _ h=>h.elim))
    replace d0:w3'.cell? ⟨k,0,none⟩=some (.int .i64 2):=d0
    replace d1:w3'.cell? ⟨k,1,none⟩=some (.int .i64 (n:Int)):=d1
    replace d2:w3'.cell? ⟨k,2,none⟩=some (.string (ba [])):=d2
    clear hO3 hK3 hN3 c0 c1 c2
    rw [← ew3]
    clear ew3
    go_wp2_with fail
    refine (next_any B b0 w3.heap.size b2 S FN _ HN3.out (by simp;omega)).mono ?_
    rintro e w4 ⟨rfl,hN4,hK4⟩
    have hFN:∀ i,FN i→B≤i∧i<wr.heap.size:=by
     obtain ⟨_,_,_,hN,_⟩:=(HP.out).nx
     exact hN.lt
    have z4:=hK4.size
    simp only [World.size_alloc] at z4 hN4
    have S4:SB w4 w3'.heap.size (St.drop n):=hK4.heap (heap_alloc_new w3' _) (fun hf=>by have:=hFN _ hf;omega)
    obtain ⟨q0,q1,q2,q3⟩:=S4.cells
    have r0:=Lib.frozen_of_heap S4 0
    have r1:=Lib.frozen_of_heap S4 1
    have r2:=Lib.frozen_of_heap S4 2
    have HS4:=hide S4
    have HN4:=hide hN4
    have HK4:=hide hK4
    have HFN:=hide hFN
    clear S3 S4 hN4 hK4 hFN d0 d1 d2
    unfold stV
    go_wp2_with fail
    go_roundg S.length
    case measure=>simp only [List.length_cons] at hg;omega
    case rel =>
     exact ⟨S,w3'.heap.size,(a+n),l,_,_,rfl,rfl,rfl,AI.step HP.out HO3.out HK3.out HN4.out HK4.out HS4.out HFN.out HAL2.out rfl⟩
end Go.Proofs.YtbmebfgapjhchaaGreatDoor.Ed
/- What comes of a text by spans,whatever they are. -/
namespace Go.Proofs.YtbmebfgapjhchaaGreatDoor
open Go.RowKit
noncomputable def apT (s:ByteArray) (L:List Rw):ByteArray:=open Classical in if h:Ed.flt s.size L=0 then ba (Ed.EM.app (bs s) 0 (Classical.choose (Ed.flt_split s.size L h))) else ⟨#[]⟩
theorem apT_no {s:ByteArray} {L:List Rw} (h:Ed.flt s.size L≠0):apT s L=⟨#[]⟩:=dif_neg h
theorem apT_yes {s:ByteArray} {L:List Rw} (h:Ed.flt s.size L=0):∃ Ls:List Ed.EM.Sp,L=Ls.map Ed.raw∧Ed.EM.Ok 0 s.size Ls∧apT s L=ba (Ed.EM.app (bs s) 0 Ls):=by
 have h1:=Classical.choose_spec (Ed.flt_split s.size L h)
 exact ⟨_,h1.1,h1.2,dif_pos h⟩
def totR (L:List Rw):Nat:=(L.map fun r=>r.s.size).sum
theorem totR_raw (Ls:List Ed.EM.Sp):totR (Ls.map Ed.raw)=Ed.tot Ls:=by
 unfold totR Ed.tot
 rw [List.map_map]
 congr 1
theorem apT_size {s:ByteArray} {L:List Rw}:(apT s L).size≤s.size+totR L:=by
 by_cases h:Ed.flt s.size L=0
 ·obtain ⟨Ls,rfl,hok,e⟩:=apT_yes h
  rw [e,ba_size,totR_raw]
  have:=Ed.app_len (bs s) 0 Ls (by rw [bs_len];exact hok)
  rw [bs_len] at this
  omega
 ·rw [apT_no h];exact Nat.zero_le _
theorem apply_any (s:ByteArray) (v:Value) (L:List Rw) (w:World) (h:IsL w v L) (hb:∀ k,v.ownBlock=some k→k<w.heap.size) (hs:s.size≤1048576) (ht:totR L≤1073741824) :
  Calls Tryz.prog 39 #[.string s,v] w fun e w'=>∃ ev,e=.returned (.tuple #[.string (apT s L),ev])∧Below w.heap.size w w':=by
 by_cases hf:Ed.flt s.size L=0
 ·obtain ⟨Ls,rfl,hok,e⟩:=apT_yes hf
  rw [e]
  rw [totR_raw] at ht
  refine (Ed.apply_yes s v Ls w h hb hs ht hok).mono ?_
  rintro e w' ⟨rfl,k⟩
  exact ⟨_,rfl,k⟩
 ·rw [apT_no hf]
  refine (Ed.apply_no s v L w h hf).mono ?_
  rintro e w' ⟨rfl,k⟩
  exact ⟨_,rfl,k⟩
theorem refApply_any (s:ByteArray) (v:Value) (L:List Rw) (w:World) (h:IsL w v L) (hs:s.size≤1048576) (ht:totR L≤1073741824) (hf:Ed.flt s.size L=0) :
  Calls Tryz.prog 15 #[.string s,v] w fun e w'=>e=.returned (.tuple #[.string (apT s L),.int .i64 0])∧Below w.heap.size w w':=by
 obtain ⟨Ls,rfl,hok,e⟩:=apT_yes hf
 rw [e]
 rw [totR_raw] at ht
 exact Ed.refApply_yes s v Ls w h hs ht hok
theorem length_any (s:ByteArray) (v:Value) (L:List Rw) (w:World) (h:IsL w v L) (hs:s.size≤1048576) (ht:totR L≤1073741824) (hf:Ed.flt s.size L=0) :
  Calls Tryz.prog 28 #[.int .i64 s.size,v] w fun e w'=>e=.returned (.int .i64 (apT s L).size)∧Below w.heap.size w w':=by
 obtain ⟨Ls,rfl,hok,e⟩:=apT_yes hf
 have h1:=Ed.app_length (bs s) 0 Ls (by rw [bs_len];exact hok)
 have h2:=Ed.drops_le 0 s.size Ls hok
 rw [bs_len] at h1
 rw [totR_raw] at ht
 have h3:(apT s (Ls.map Ed.raw)).size=s.size - Ed.drops Ls+Ed.tot Ls:=by rw [e,ba_size];omega
 rw [h3]
 exact Ed.lengthAfter_any s.size v Ls w h (by omega) (by omega) hok
end Go.Proofs.YtbmebfgapjhchaaGreatDoor
