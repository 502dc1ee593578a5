/- Files and names as they are when names have been made others. -/
import Derived.Test.YtbmebfgapjhchaaGreatDoorCgj
import Derived.Test.YtbmebfgapjhchaaGreatDoorCgd
import Derived.Test.YtbmebfgapjhchaaGreatDoorHa
import Derived.Test.YtbmebfgapjhchaaGreatDoorJx
import Derived.Deep.CutBlock
import Derived.Deep.DeepCutAuto
import Derived.Test.YtbmebfgapjhchaaGreatDoorJt
namespace Go.Proofs.YtbmebfgapjhchaaGreatDoor
open Go.RowKit
open M
def uq (u:X.U):Q6:=⟨u.f,u.i,u.s,u.tf,u.tt,u.e⟩
theorem uvs_qvs (us:List X.U):uvs us=qvs (us.map uq):=by
 induction us with
 | nil=>rfl
 | cons u us ih=>show uv u++uvs us=(uq u).vals++qvs (us.map uq);rw [ih];rfl
noncomputable def outK (l:List AF) (sp:Nat→List Rw) (k:Nat):List AF:=l.mapIdx fun i a=>if i<k then ⟨a.n,apT a.t (sp i)⟩ else a
noncomputable def outL (l:List AF) (sp:Nat→List Rw):List AF:=outK l sp l.length
theorem outK_len (l:List AF) (sp:Nat→List Rw) (k:Nat):(outK l sp k).length=l.length:=List.length_mapIdx
theorem outK_get (l:List AF) (sp:Nat→List Rw) (k i:Nat):(outK l sp k)[i]?=(l[i]?).map fun a=>if i<k then ⟨a.n,apT a.t (sp i)⟩ else a:=List.getElem?_mapIdx
theorem outK_zero (l:List AF) (sp:Nat→List Rw):outK l sp 0=l:=by
 refine List.ext_getElem? fun i=>?_
 rw [outK_get]
 cases l[i]? with
 | none=>rfl
 | some a=>rfl
theorem outK_succ {l:List AF} {sp:Nat→List Rw} {k:Nat} {a:AF} (ha:l[k]?=some a):(outK l sp k)[k]?=some a∧(outK l sp k).set k ⟨a.n,apT a.t (sp k)⟩=outK l sp (k+1):=by
 have h1:(outK l sp k)[k]?=some a:=by rw [outK_get,ha];simp
 have hk:k<(outK l sp k).length:=by
  rcases Nat.lt_or_ge k (outK l sp k).length with g|g
  ·exact g
  ·rw [List.getElem?_eq_none g] at h1;cases h1
 refine ⟨h1,List.ext_getElem? fun i=>?_⟩
 rw [List.getElem?_set,outK_get,outK_get]
 by_cases e:k=i
 ·subst e
  rw [if_pos rfl,if_pos hk,ha];simp
 ·rw [if_neg e]
  cases l[i]? with
  | none=>rfl
  | some b =>
   simp only [Option.map_some]
   by_cases q:i<k
   ·rw [if_pos q,if_pos (by omega)]
   ·rw [if_neg q,if_neg (by omega)]
theorem outL_get {l:List AF} {sp:Nat→List Rw} {i:Nat} {a:AF} (ha:l[i]?=some a):(outL l sp)[i]?=some ⟨a.n,apT a.t (sp i)⟩:=by
 have hi:i<l.length:=by
  rcases Nat.lt_or_ge i l.length with g|g
  ·exact g
  ·rw [List.getElem?_eq_none g] at ha;cases ha
 unfold outL
 rw [outK_get,ha];simp [hi]
def mvQ (sp:Nat→List Rw) (g:Int) (u:X.U):Q6:=⟨u.f,mvI (sp u.f) g u.i,u.s,u.tf,if 0≤u.tt then mvI (sp u.tf.toNat) g u.tt else u.tt,u.e⟩
def wantK (sp:Nat→List Rw) (g:Int) (us:List X.U) (k:Nat):List Q6:=us.mapIdx fun i u=>if i<k then mvQ sp g u else uq u
theorem wantK_get (sp:Nat→List Rw) (g:Int) (us:List X.U) (k i:Nat):(wantK sp g us k)[i]?=(us[i]?).map fun u=>if i<k then mvQ sp g u else uq u:=List.getElem?_mapIdx
theorem wantK_zero (sp:Nat→List Rw) (g:Int) (us:List X.U):wantK sp g us 0=us.map uq:=by
 refine List.ext_getElem? fun i=>?_
 rw [wantK_get,List.getElem?_map];rfl
theorem wantK_all (sp:Nat→List Rw) (g:Int) (us:List X.U):wantK sp g us us.length=us.map (mvQ sp g):=by
 refine List.ext_getElem? fun i=>?_
 rw [wantK_get,List.getElem?_map]
 cases h:us[i]? with
 | none=>rfl
 | some u =>
  have:i<us.length:=by
   rcases Nat.lt_or_ge i us.length with g|g
   ·exact g
   ·rw [List.getElem?_eq_none g] at h;cases h
  simp [this]
theorem wantK_succ {sp:Nat→List Rw} {g:Int} {us:List X.U} {k:Nat} {u:X.U} (hu:us[k]?=some u):(wantK sp g us k)[k]?=some (uq u)∧(wantK sp g us k).set k (mvQ sp g u)=wantK sp g us (k+1):=by
 have h1:(wantK sp g us k)[k]?=some (uq u):=by rw [wantK_get,hu];simp
 have hk:k<(wantK sp g us k).length:=by
  rcases Nat.lt_or_ge k (wantK sp g us k).length with q|q
  ·exact q
  ·rw [List.getElem?_eq_none q] at h1;cases h1
 refine ⟨h1,List.ext_getElem? fun i=>?_⟩
 rw [List.getElem?_set,wantK_get,wantK_get]
 by_cases e:k=i
 ·subst e
  rw [if_pos rfl,if_pos hk,hu];simp
 ·rw [if_neg e]
  cases us[i]? with
  | none=>rfl
  | some b =>
   simp only [Option.map_some]
   by_cases q:i<k
   ·rw [if_pos q,if_pos (by omega)]
   ·rw [if_neg q,if_neg (by omega)]
theorem wantK_len (sp:Nat→List Rw) (g:Int) (us:List X.U) (k:Nat):(wantK sp g us k).length=us.length:=List.length_mapIdx
set_option maxRecDepth 100000 in
set_option maxHeartbeats 4000000 in
theorem cloneF_any (ao:Option Addr) (cap:Nat) (l:List AF) (w:World) (h:IsAF w w.heap.size ao l) (h0:0<l.length) (hl:l.length≤16) :
  Calls Tryz.prog 23 #[.slice ao l.length cap] w fun e w'=>∃ g c,e=.returned (.slice (some ⟨g,0,none⟩) l.length c)∧Hid (w'.ownsRow w.heap.size 39 2 (.slice (some ⟨g,0,none⟩) l.length c) l.length (fvs l)∧Below w.heap.size w w'):=by
 have q22:∀ (w:World) (a:Option Addr) (n c n' c':Nat),(binOp .eql 22 (.slice a n c) (.slice none n' c')).run Tryz.prog w=.ok (.bool a.isNone) w:=fun w a n c n' c'=>Lib.run_eql_slice_nil w _ _ a n c n' c' Tryz.underlying22
 have hb0:Below w.heap.size w (w.alloc (.cells #[] 39)):=(Below.refl _ w).alloc (Nat.le_refl _) _
 have hown0:(w.alloc (.cells #[] 39)).ownsRow w.heap.size 39 2 (.slice (some ⟨w.heap.size,0,none⟩) 0 0) 0 []:=⟨rfl,.inr ⟨_,0,#[],rfl,Nat.le_refl _,heap_alloc_new _ _,Nat.le_refl _,Nat.zero_le _,rfl,rfl⟩⟩
 have hA:IsAF (w.alloc (.cells #[] 39)) (w.alloc (.cells #[] 39)).heap.size ao l:=fun j a hj=>by
  obtain ⟨b,o,e1,e2,e3,e4⟩:=h.below hb0 j a hj
  exact ⟨b,o,e1,Nat.lt_of_lt_of_le e2 hb0.size,e3,e4⟩
 obtain ⟨v',w',a1,a2,a3⟩:=run_append_f _ _ _ hown0 ao cap l hA h0 hl hb0.size 22
 obtain ⟨g,c,rfl,-,-⟩:=a2.form h0
 obtain ⟨b,o,rfl,-⟩:=h 0 l[0] (List.getElem?_eq_getElem h0)
 have HF:Hid (w'.ownsRow w.heap.size 39 2 (.slice (some ⟨g,0,none⟩) l.length c) l.length (fvs l)∧Below w.heap.size w w'):=⟨a2,hb0.grown a3 hb0.size (fun k hk=>by cases hk;exact Nat.le_refl _)⟩
 clear h hown0 hb0 a2 a3 hA
 go_enter Tryz.func23,Tryz.ntmps23
 go_wp2_with (at_builtin;refine Lib.wpList_append_run _ rfl _ _ _ _ rfl _ _ rfl rfl _ _ a1 ?_)
 go_ret
 exact ⟨_,_,rfl,HF⟩
end Go.Proofs.YtbmebfgapjhchaaGreatDoor
/- Package change: does some name come to stand for something else (clashes)? -/
namespace Go.Proofs.YtbmebfgapjhchaaGreatDoor
open Go.RowKit
open M
variable {w:World} {wb B:Nat} {ao:Option Addr} {cap:Nat} {l:List AF} {rv nv:Value} {us:List X.U}
structure EdOk (l:List AF) (us:List X.U) (sp:Nat→List Rw) (gr:Int):Prop where
 l0:0<l.length
 l16:l.length≤16
 sz:∀ a∈l,a.t.size≤20000
 nm:∀ a∈l,nmOk a.n=true
 pw:(l.map (fun a=>bs a.n)).Pairwise (·≠·)
 sl:∀ i,(sp i).length≤20000
 tt:∀ i,totR (sp i)≤800000
 ul:us.length≤1048576
 fr:∀ u∈us,u.f<l.length∧u.i≤1048576∧(0≤u.tt→∃ f:Nat,u.tf=f∧f<l.length∧u.tt≤1048576)
 gb:-1048576≤gr∧gr≤1048576
theorem EdOk.short {sp:Nat→List Rw} {gr:Int} (h:EdOk l us sp gr):Short (outL l sp):=by
 intro a ha
 obtain ⟨i,hi,rfl⟩:=List.getElem_of_mem ha
 have hi':i<l.length:=by rw [show (outL l sp).length=l.length from outK_len _ _ _] at hi;exact hi
 have h1:=outL_get (sp:=sp) (List.getElem?_eq_getElem hi')
 rw [List.getElem?_eq_getElem hi] at h1
 rw [Option.some.inj h1]
 have h2:=apT_size (s:=l[i].t) (L:=sp i)
 have h3:=h.sz l[i] (List.getElem_mem hi')
 have h4:=h.tt i
 show (apT l[i].t (sp i)).size≤1000000
 omega
theorem outK_names (l:List AF) (sp:Nat→List Rw) (k:Nat):(outK l sp k).map (fun a=>a.n)=l.map (fun a=>a.n):=by
 refine List.ext_getElem? fun i=>?_
 rw [List.getElem?_map,List.getElem?_map,outK_get]
 cases l[i]? with
 | none=>rfl
 | some a=>simp only [Option.map_some];split<;>rfl
theorem EdOk.nmO {sp:Nat→List Rw} {gr:Int} (h:EdOk l us sp gr):(∀ a∈outL l sp,nmOk a.n=true)∧((outL l sp).map (fun a=>bs a.n)).Pairwise (·≠·):=by
 have e:=outK_names l sp l.length
 constructor
 ·intro a ha
  have:a.n∈(outL l sp).map (fun a=>a.n):=List.mem_map.2 ⟨a,ha,rfl⟩
  unfold outL at this
  rw [e] at this
  obtain ⟨b,hb,hbn⟩:=List.mem_map.1 this
  rw [← hbn];exact h.nm b hb
 ·have h1:(outL l sp).map (fun a=>bs a.n)=l.map (fun a=>bs a.n):=by
   have:=congrArg (List.map bs) e
   rw [List.map_map,List.map_map] at this
   exact this
  rw [h1];exact h.pw
set_option maxRecDepth 100000 in
set_option maxHeartbeats 8000000 in
theorem clashes_any (h:IsWs w wb B ao cap l rv nv us) (hT:Tabs w) {C g:Nat} {vs:Nat→Value} {sp:Nat→List Rw} {gr:Int} (hE:IsEd w C g l.length vs sp) (hk:EdOk l us sp gr) :
  Calls Tryz.prog 12 #[.pointer (some ⟨wb,0,none⟩),.slice (some ⟨g,0,none⟩) l.length l.length,.int .i64 gr] w fun e w'=>e=.returned (.bool (!decide ((X.allU (fsOf (outL l sp))).map uq=us.map (mvQ sp gr))))∧Below w.heap.size w w':=by
 have HW:=hide h
 have HT:=hide hT
 have HE:=hide hE
 have HK:=hide hk
 have l0:=hk.l0
 have l16:=hk.l16
 have c0:=cell_of_row w _ 0 _ _ _ h.blk
 have HC1:=hide (cloneF_any ao cap l w h.af l0 l16)
 generalize hR:(!decide ((X.allU (fsOf (outL l sp))).map uq=us.map (mvQ sp gr)))=R
 have HR:=hide hR
 clear h hT hE hk hR
 go_enter Tryz.func12,Tryz.ntmps12
 go_wp2_with fail
 refine (HC1.out).mono ?_
 rintro e w1 ⟨g2,c2,rfl,X1⟩
 have HX1:=hide (show w1.ownsRow w.heap.size 39 2 (.slice (some ⟨g2,0,none⟩) l.length c2) l.length (fvs (outK l sp 0))∧Below w.heap.size w w1 by rw [outK_zero];exact X1.out)
 clear HC1 X1 c0
 go_upto_block 0 with fail
 go_cut [20] (fun _ wx=>Hid (wx.ownsRow w.heap.size 39 2 (.slice (some ⟨g2,0,none⟩) l.length c2) l.length (fvs (outL l sp))∧Below w.heap.size w wx))
 case first =>
  go_wp2_with fail
  go_loopw [20] (fun sv wr=>∃ k:Nat,sv=.int .i64 k∧k≤l.length∧Hid (wr.ownsRow w.heap.size 39 2 (.slice (some ⟨g2,0,none⟩) l.length c2) l.length (fvs (outK l sp k))∧Below w.heap.size w wr)) (fun v _=>l.length - (intOf v).toNat)
  case atStart=>exact ⟨0,rfl,Nat.zero_le _,HX1⟩
  case round =>
   obtain ⟨k,rfl,hk,HX⟩:=hrel
   by_cases g1:k<l.length
   case neg =>
    have j1:decide ((k:Int)<(l.length:Int))=false:=by simp;omega
    have j2:decide (k<l.length)=false:=by simp;omega
    have HF:Hid (wr.ownsRow w.heap.size 39 2 (.slice (some ⟨g2,0,none⟩) l.length c2) l.length (fvs (outL l sp))∧Below w.heap.size w wr):=by
     obtain rfl:k=l.length:=by omega
     exact HX.out
    clear g1 HX
    go_wp2_with fail
    go_meet
    case rel=>exact HF
   have j1:decide ((k:Int)<(l.length:Int))=true:=by simp;omega
   have j2:decide (k<l.length)=true:=by simp;omega
   have j3:(k:Int)<(l.length:Int):=by omega
   obtain ⟨hrow,hbl⟩:=HX.out
   have ha:=List.getElem?_eq_getElem g1
   generalize l[k]=a at ha
   have hEr:=(HE.out).below hbl
   have q:=hEr.cell k g1
   have hsk:=(HK.out).sl k
   obtain ⟨sa,sc,evs⟩:∃ sa sc,vs k=.slice sa (sp k).length sc:=by
    rcases (hEr.row k g1).2 with ⟨e,h0⟩|⟨g',cap,cur,e,-⟩
    ·exact ⟨none,0,by rw [h0];exact e⟩
    ·exact ⟨_,_,e⟩
   rw [evs] at q
   have has:=(HK.out).sz a (List.mem_of_getElem? ha)
   have HC:=hide (after_any ((HW.out).below hbl) ha (evs ▸ hEr.isL g1 (by omega)) (fun b hb=>(hEr.far g1 (evs ▸ hb)).2.1) (by omega) (by have:=(HK.out).tt k;omega))
   have HA:=hide ha
   have HRW:=hide hrow
   have HBL:=hide hbl
   clear HX hrow hbl ha hEr evs HE HW HT
   go_wp2_with fail
   refine (HC.out).mono ?_
   rintro e w2 ⟨rfl,B2⟩
   obtain ⟨o1,o2⟩:=outK_succ (sp:=sp) HA.out
   have hrow2:=(Kp.ofBelow B2 (fun _=>False)).owns HRW.out (fun _ _=>id)
   have cc:w2.cell? ⟨g2,k*2+1,none⟩=some (.string a.t):=(hrow2.cellAt (k*2+1) (by omega)).trans (fvs_even _ k a o1).2
   have ff:w2.frozen? ⟨g2,k*2+1,none⟩=false:=hrow2.frozenAt _
   have hst:=hrow2.stored (k*2+1) (.string (apT a.t (sp k)))
   rw [fvs_set _ k a _ o1,o2] at hst
   have hgl:w.heap.size≤g2:=by
    rcases hrow2.2 with ⟨e,-⟩|⟨_,_,_,e,hb,-⟩
    ·cases e
    ·cases e;exact hb
   have hb3:Below w.heap.size w w2:=(HBL.out).trans (B2.mono (HBL.out).size)
   have HF:Hid ((w2.setCell ⟨g2,k*2+1,none⟩ (.string (apT a.t (sp k)))).ownsRow w.heap.size 39 2 (.slice (some ⟨g2,0,none⟩) l.length c2) l.length (fvs (outK l sp (k+1)))∧Below w.heap.size w (w2.setCell ⟨g2,k*2+1,none⟩ (.string (apT a.t (sp k))))) :=
    ⟨hst.1,hb3.grown hst.2 hb3.size (fun q hq=>by cases hq;exact hgl)⟩
   clear HC B2 o1 o2 hrow2 hst hgl hb3 HRW HBL HA
   go_wp2_with fail
   exact ⟨⟨k+1,by simp,by omega,HF⟩,by simp [intOf];omega⟩
 case rest =>
  have HX2:=hide hcut.out
  clear hcut HX1
  obtain ⟨hrow,hbl⟩:=HX2.out
  have HWx:=hide ((HW.out).below hbl)
  have hul:=(HK.out).ul
  obtain ⟨na,nc,rfl⟩:∃ na nc,nv=.slice na us.length nc:=by
   rcases ((HWx.out).nms).2 with ⟨e,h0⟩|⟨g',cap,cur,e,-⟩
   ·exact ⟨none,0,by rw [h0];exact e⟩
   ·exact ⟨_,_,e⟩
  have c2':wc.cell? ⟨wb,2,none⟩=some (.slice na us.length nc):=cell_of_row _ _ 2 _ _ _ (HWx.out).blk
  have hnm:=(HWx.out).nms
  rw [uvs_qvs] at hnm
  have HC:=hide (cloneU_any _ B _ (us.map uq) wc hnm (by omega))
  have HEx:=hide ((HE.out).below hbl)
  have HTx:=hide ((HT.out).below hbl)
  have hsz:w.heap.size≤wc.heap.size:=hbl.size
  clear hrow hbl hnm HE HW HT
  go_wp2_with fail
  refine (HC.out).mono ?_
  rintro e w4 ⟨wv,rfl,X4⟩
  obtain ⟨hrow4,hb4⟩:=X4.out
  obtain ⟨wa,wk,rfl⟩:∃ wa wk,wv=.slice wa us.length wk:=by
   rcases hrow4.2 with ⟨e,h0⟩|⟨g',cap,cur,e,-⟩
   ·exact ⟨none,0,by rw [h0];exact e⟩
   ·exact ⟨_,_,e⟩
  have HX4:Hid (w4.ownsRow wc.heap.size 36 6 (.slice wa us.length wk) us.length (qvs (wantK sp gr us 0))∧Below wc.heap.size wc w4):=by rw [wantK_zero];exact X4.out
  clear HC X4 hrow4 hb4 c2'
  go_upto_block 2 with fail
  go_cut [41] (fun _ wx=>Hid (wx.ownsRow wc.heap.size 36 6 (.slice wa us.length wk) us.length (qvs (us.map (mvQ sp gr)))∧Below wc.heap.size wc wx))
  case first =>
   go_wp2_with fail
   go_loopw [41] (fun sv wr=>∃ k:Nat,sv=.int .i64 k∧k≤us.length∧Hid (wr.ownsRow wc.heap.size 36 6 (.slice wa us.length wk) us.length (qvs (wantK sp gr us k))∧Below wc.heap.size wc wr)) (fun v _=>us.length - (intOf v).toNat)
   case atStart=>exact ⟨0,rfl,Nat.zero_le _,HX4⟩
   case round =>
    obtain ⟨k,rfl,hk,HX⟩:=hrel
    by_cases g1:k<us.length
    case neg =>
     have j1:decide ((k:Int)<(us.length:Int))=false:=by simp;omega
     have j2:decide (k<us.length)=false:=by simp;omega
     have HF:Hid (wr.ownsRow wc.heap.size 36 6 (.slice wa us.length wk) us.length (qvs (us.map (mvQ sp gr)))∧Below wc.heap.size wc wr):=by
      obtain rfl:k=us.length:=by omega
      rw [← wantK_all]
      exact HX.out
     clear g1 HX
     go_wp2_with fail
     go_meet
     case rel=>exact HF
    have j1:decide ((k:Int)<(us.length:Int))=true:=by simp;omega
    have j2:decide (k<us.length)=true:=by simp;omega
    have j3:(k:Int)<(us.length:Int):=by omega
    have hu:=List.getElem?_eq_getElem g1
    generalize us[k]=u at hu
    obtain ⟨hrow,hbl⟩:=HX.out
    obtain ⟨ws1,ws2⟩:=wantK_succ (sp:=sp) (g:=gr) hu
    obtain ⟨g3,_,eg,-,-,-,hg3,hl3,p0,p1,p2,p3,p4,p5⟩:=q_cells hrow ws1
    cases eg
    replace p0:wr.cell? ⟨g3,k*6,none⟩=some (.int .i64 u.f):=p0
    replace p1:wr.cell? ⟨g3,k*6+1,none⟩=some (.int .i64 u.i):=p1
    replace p2:wr.cell? ⟨g3,k*6+2,none⟩=some (.int .i64 u.s):=p2
    replace p3:wr.cell? ⟨g3,k*6+3,none⟩=some (.int .i64 u.tf):=p3
    replace p4:wr.cell? ⟨g3,k*6+4,none⟩=some (.int .i64 u.tt):=p4
    replace p5:wr.cell? ⟨g3,k*6+5,none⟩=some (.int .i64 u.e):=p5
    obtain ⟨hf1,hf2,hf3⟩:=(HK.out).fr u (List.mem_of_getElem? hu)
    have hEr:=(HEx.out).below hbl
    have hBW:Below wr.heap.size wr (wr.alloc (.cells #[.int .i64 u.f,.int .i64 u.i,.int .i64 u.s,.int .i64 u.tf,.int .i64 u.tt,.int .i64 u.e] 36)):=(Below.refl _ wr).alloc (Nat.le_refl _) _
    have hOW:=heap_alloc_new wr (.cells #[.int .i64 u.f,.int .i64 u.i,.int .i64 u.s,.int .i64 u.tf,.int .i64 u.tt,.int .i64 u.e] 36)
    have s0:=cell_of_row _ _ 0 _ _ _ hOW
    have s1:=cell_of_row _ _ 1 _ _ _ hOW
    have hEW:=hEr.below hBW
    have s2:=hEW.cell u.f hf1
    obtain ⟨sa,sc,evs⟩:∃ sa sc,vs u.f=.slice sa (sp u.f).length sc:=by
     rcases (hEW.row u.f hf1).2 with ⟨e,h0⟩|⟨g',cap,cur,e,-⟩
     ·exact ⟨none,0,by rw [h0];exact e⟩
     ·exact ⟨_,_,e⟩
    have hsl:=(HK.out).sl u.f
    have hgb:=(HK.out).gb
    have HC:=hide (moved_any (.slice sa (sp u.f).length sc) (sp u.f) gr u.i (wr.alloc (.cells #[.int .i64 u.f,.int .i64 u.i,.int .i64 u.s,.int .i64 u.tf,.int .i64 u.tt,.int .i64 u.e] 36)).drew (evs ▸ (hEW.isL hf1 (by omega)).below ((Below.refl _ _).drew)) (by omega) hgb ⟨by omega,by omega⟩)
    rw [evs] at s2
    have i6:(u.f:Int)<(l.length:Int):=by omega
    have HBW:=hide hBW
    have HOW:=hide hOW
    have HEW:=hide hEW
    have HROW:=hide hrow
    have HBL:=hide hbl
    have HWS1:=hide ws1
    have HWS2:=hide ws2
    have HF3:=hide hf3
    generalize hmv:mvI (sp u.f) gr u.i=mv at *
    have HMV:=hide hmv
    generalize (sp u.f).length=ns at *
    clear HX hrow hbl hEr hBW hOW hEW ws1 ws2 hf3 evs hsl hmv
    go_wp2_with fail
    have hWs:(wr.alloc (.cells #[.int .i64 u.f,.int .i64 u.i,.int .i64 u.s,.int .i64 u.tf,.int .i64 u.tt,.int .i64 u.e] 36)).heap.size=wr.heap.size+1:=by simp
    have HWS:Hid ((wr.alloc (.cells #[.int .i64 u.f,.int .i64 u.i,.int .i64 u.s,.int .i64 u.tf,.int .i64 u.tt,.int .i64 u.e] 36)).heap.size=wr.heap.size+1):=hWs
    clear hWs
    refine wpTo_start (S:=fun w'=>w'.cell? ⟨wr.heap.size,0,none⟩=some (.int .i64 u.f)∧w'.cell? ⟨wr.heap.size,1,none⟩=some (.int .i64 u.i)∧w'.cell? ⟨g,u.f,none⟩=some (.slice sa ns sc)) (z:=13) (by kernel_rfl) ?_
    have hS:(wr.alloc (.cells #[.int .i64 u.f,.int .i64 u.i,.int .i64 u.s,.int .i64 u.tf,.int .i64 u.tt,.int .i64 u.e] 36)).drew.cell? ⟨wr.heap.size,0,none⟩=some (.int .i64 u.f)∧(wr.alloc (.cells #[.int .i64 u.f,.int .i64 u.i,.int .i64 u.s,.int .i64 u.tf,.int .i64 u.tt,.int .i64 u.e] 36)).drew.cell? ⟨wr.heap.size,1,none⟩=some (.int .i64 u.i)∧(wr.alloc (.cells #[.int .i64 u.f,.int .i64 u.i,.int .i64 u.s,.int .i64 u.tf,.int .i64 u.tt,.int .i64 u.e] 36)).drew.cell? ⟨g,u.f,none⟩=some (.slice sa ns sc):=⟨s0,s1,s2⟩
    iterate 10 (refine wpTo_nx0 (v:=?_) rfl rfl (by kernel_rfl) (by kernel_rfl) (by kernel_rfl) (by kernel_rfl) (fun _ _ _ h=>h) (Or.inl ⟨by rfl,?_⟩) hS ?_;rotate_left;(· (intro wx hSw;(try dsimp only at hSw);go_simp;try (with_reducible rfl)));simp only [Act.put,List.setIfInBounds_toArray,List.set_cons_zero,List.set_cons_succ])
    refine wpTo_one (i:=10) (by kernel_rfl) rfl (fun K hK=>?_)
    go_simp
    refine (HC.out).mono ?_
    rintro e w5 ⟨rfl,B5⟩
    have B5':Below (wr.alloc (.cells #[.int .i64 u.f,.int .i64 u.i,.int .i64 u.s,.int .i64 u.tf,.int .i64 u.tt,.int .i64 u.e] 36)).heap.size (wr.alloc (.cells #[.int .i64 u.f,.int .i64 u.i,.int .i64 u.s,.int .i64 u.tf,.int .i64 u.tt,.int .i64 u.e] 36)) w5:=((Below.refl _ (wr.alloc (.cells #[.int .i64 u.f,.int .i64 u.i,.int .i64 u.s,.int .i64 u.tf,.int .i64 u.tt,.int .i64 u.e] 36))).drew).trans B5
    have hwz:=HWS.out
    have hgl:g<(wr.alloc (.cells #[.int .i64 u.f,.int .i64 u.i,.int .i64 u.s,.int .i64 u.tf,.int .i64 u.tt,.int .i64 u.e] 36)).heap.size:=(HEW.out).lt
    have hS2:w5.cell? ⟨wr.heap.size,0,none⟩=some (.int .i64 u.f)∧w5.cell? ⟨wr.heap.size,1,none⟩=some (.int .i64 u.i)∧w5.cell? ⟨g,u.f,none⟩=some (.slice sa ns sc):=⟨kcb B5' (by omega) s0,kcb B5' (by omega) s1,kcb B5' hgl s2⟩
    have hrow5:=(Kp.ofBelow ((HBW.out).trans (B5'.mono (HBW.out).size)) (fun _=>False)).owns HROW.out (fun _ _=>id)
    have hO5:=(B5'.block wr.heap.size (by omega)).trans HOW.out
    have cc:w5.cell? ⟨g3,k*6+1,none⟩=some (.int .i64 u.i):=kcb ((HBW.out).trans (B5'.mono (HBW.out).size)) hl3 p1
    have ff:w5.frozen? ⟨g3,k*6+1,none⟩=false:=hrow5.frozenAt _
    have hst:=hrow5.stored (k*6+1) (.int .i64 mv)
    rw [(qvs_set _ k _ mv HWS1.out).1] at hst
    have hb5:Below wc.heap.size wc w5:=(HBL.out).trans (((HBW.out).trans (B5'.mono (HBW.out).size)).mono (HBL.out).size)
    have hb6:Below wc.heap.size wc (w5.setCell ⟨g3,k*6+1,none⟩ (.int .i64 mv)):=hb5.grown hst.2 hb5.size (fun q hq=>by cases hq;exact hg3)
    have hO6:(w5.setCell ⟨g3,k*6+1,none⟩ (.int .i64 mv)).heap[wr.heap.size]?=some (.cells #[.int .i64 u.f,.int .i64 u.i,.int .i64 u.s,.int .i64 u.tf,.int .i64 u.tt,.int .i64 u.e] 36 (0,0)):=(hst.2.block wr.heap.size (heap_lt hO5) (fun e=>by injection e with e;omega)).trans hO5
    have HROW6:=hide hst.1
    have HB6:=hide hb6
    have HO6:=hide hO6
    dsimp only
    refine hK.out _ _ (fun _=>hS2) (fun _=>?_)
    clear hK K hS B5 B5' HC s0 s1 s2 hrow5 hO5 hst hb5 hb6 hO6 hwz hgl HEW HROW HBW HOW
    have hS:=hS2
    refine wpTo_one (i:=11) (by kernel_rfl) rfl (fun K hK=>?_)
    go_simp
    refine hK.out _ _ (fun _=>hS) (fun _=>?_)
    clear hK K
    refine wpTo_one (i:=12) (by kernel_rfl) rfl (fun K hK=>?_)
    go_simp
    refine hK.out _ _ (fun _=>hS) (fun _=>?_)
    clear hK K
    refine wpTo_one (i:=13) (by kernel_rfl) rfl (fun K hK=>?_)
    go_simp
    refine hK.out _ _ (fun h=>absurd rfl h) (fun _=>wpTo_end (by kernel_rfl) ?_)
    clear hK K hS hS2 cc ff
    generalize w5.setCell ⟨g3,k*6+1,none⟩ (.int .i64 mv)=w6 at *
    have s4:=cell_of_row _ _ 4 _ _ _ HO6.out
    by_cases g5:0≤u.tt
    case neg =>
     have d5:decide (u.tt≥0)=false:=by simp;omega
     have d6:decide (0≤u.tt)=false:=by simp;omega
     have HF:Hid (w6.ownsRow wc.heap.size 36 6 (.slice (some ⟨g3,0,none⟩) us.length wk) us.length (qvs (wantK sp gr us (k+1)))∧Below wc.heap.size wc w6):=by
      have e:mvQ sp gr u={ uq u with b:=mv }:=by unfold mvQ;rw [if_neg g5,HMV.out];rfl
      rw [← HWS2.out,e]
      exact ⟨HROW6.out,HB6.out⟩
     clear g5 HROW6 HB6 HO6
     go_wp2_with fail
     exact ⟨⟨k+1,by simp,by omega,HF⟩,by simp [intOf];omega⟩
    have d5:decide (u.tt≥0)=true:=by simp;omega
    have d6:decide (0≤u.tt)=true:=by simp;omega
    obtain ⟨f,ef,hfl,htt⟩:=(HF3.out) g5
    have t1:0≤u.tf:=by omega
    have t2:u.tf<(l.length:Int):=by omega
    have hfn:u.tf.toNat<l.length:=by omega
    have hE6:=(HEx.out).below HB6.out
    have s3:w6.cell? ⟨wr.heap.size,3,none⟩=some (.int .i64 u.tf):=cell_of_row _ _ 3 _ _ _ HO6.out
    replace s4:w6.cell? ⟨wr.heap.size,4,none⟩=some (.int .i64 u.tt):=s4
    have s5:=hE6.cell u.tf.toNat hfn
    obtain ⟨sb,sd,evs⟩:∃ sb sd,vs u.tf.toNat=.slice sb (sp u.tf.toNat).length sd:=by
     rcases (hE6.row u.tf.toNat hfn).2 with ⟨e,h0⟩|⟨g',cap,cur,e,-⟩
     ·exact ⟨none,0,by rw [h0];exact e⟩
     ·exact ⟨_,_,e⟩
    have hsl:=(HK.out).sl u.tf.toNat
    have hgb:=(HK.out).gb
    have HC:=hide (moved_any (.slice sb (sp u.tf.toNat).length sd) (sp u.tf.toNat) gr u.tt w6.drew (evs ▸ (hE6.isL hfn (by omega)).below ((Below.refl _ _).drew)) (by omega) hgb ⟨g5,by omega⟩)
    rw [evs] at s5
    have hgl:g<w6.heap.size:=hE6.lt
    have HGL:=hide hgl
    have HEQ:Hid (mvQ sp gr u={ { uq u with b:=mv } with e:=mvI (sp u.tf.toNat) gr u.tt }):=by show _=_;unfold mvQ;rw [if_pos g5,HMV.out];rfl
    generalize hm2:mvI (sp u.tf.toNat) gr u.tt=mv2 at *
    generalize (sp u.tf.toNat).length=ns2 at *
    clear hE6 evs hsl hm2 ef hgl g5
    go_wp2_with fail
    refine wpTo_start (S:=fun w'=>w'.cell? ⟨wr.heap.size,3,none⟩=some (.int .i64 u.tf)∧w'.cell? ⟨wr.heap.size,4,none⟩=some (.int .i64 u.tt)∧w'.cell? ⟨g,u.tf.toNat,none⟩=some (.slice sb ns2 sd)) (z:=13) (by kernel_rfl) ?_
    have hS:w6.drew.cell? ⟨wr.heap.size,3,none⟩=some (.int .i64 u.tf)∧w6.drew.cell? ⟨wr.heap.size,4,none⟩=some (.int .i64 u.tt)∧w6.drew.cell? ⟨g,u.tf.toNat,none⟩=some (.slice sb ns2 sd):=⟨s3,s4,s5⟩
    iterate 10 (refine wpTo_nx0 (v:=?_) rfl rfl (by kernel_rfl) (by kernel_rfl) (by kernel_rfl) (by kernel_rfl) (fun _ _ _ h=>h) (Or.inl ⟨by rfl,?_⟩) hS ?_;rotate_left;(· (intro wx hSw;(try dsimp only at hSw);go_simp;try (with_reducible rfl)));simp only [Act.put,List.setIfInBounds_toArray,List.set_cons_zero,List.set_cons_succ])
    refine wpTo_one (i:=10) (by kernel_rfl) rfl (fun K hK=>?_)
    go_simp
    refine (HC.out).mono ?_
    rintro e w7 ⟨rfl,B7⟩
    have B7':Below w6.heap.size w6 w7:=((Below.refl _ w6).drew).trans B7
    have hnb:=heap_lt HO6.out
    have hS2:w7.cell? ⟨wr.heap.size,3,none⟩=some (.int .i64 u.tf)∧w7.cell? ⟨wr.heap.size,4,none⟩=some (.int .i64 u.tt)∧w7.cell? ⟨g,u.tf.toNat,none⟩=some (.slice sb ns2 sd):=⟨kcb B7' hnb s3,kcb B7' hnb s4,kcb B7' HGL.out s5⟩
    have hrow7:=(Kp.ofBelow B7' (fun _=>False)).owns HROW6.out (fun _ _=>id)
    have hset:((wantK sp gr us k).set k { uq u with b:=mv })[k]?=some { uq u with b:=mv }:=by
     rw [List.getElem?_set,if_pos rfl,if_pos (by rw [wantK_len];exact g1)]
    obtain ⟨g4,_,eg,-,-,-,-,hl7,-,-,-,-,p4',-⟩:=q_cells hrow7 hset
    cases eg
    have ff:w7.frozen? ⟨g3,k*6+4,none⟩=false:=hrow7.frozenAt _
    have hst:=hrow7.stored (k*6+4) (.int .i64 mv2)
    rw [(qvs_set _ k _ mv2 hset).2,List.set_set] at hst
    have hb7:Below wc.heap.size wc w7:=(HB6.out).trans (B7'.mono (HB6.out).size)
    have HF:Hid ((w7.setCell ⟨g3,k*6+4,none⟩ (.int .i64 mv2)).ownsRow wc.heap.size 36 6 (.slice (some ⟨g3,0,none⟩) us.length wk) us.length (qvs (wantK sp gr us (k+1)))∧Below wc.heap.size wc (w7.setCell ⟨g3,k*6+4,none⟩ (.int .i64 mv2))):=by
     rw [← HWS2.out,HEQ.out]
     exact ⟨hst.1,hb7.grown hst.2 hb7.size (fun q hq=>by cases hq;exact hg3)⟩
    dsimp only
    refine hK.out _ _ (fun _=>hS2) (fun _=>?_)
    clear hK K hS B7 B7' HC s3 s4 s5 hrow7 hst hb7 hset hnb HROW6 HB6 HO6 HEQ
    have hS:=hS2
    refine wpTo_one (i:=11) (by kernel_rfl) rfl (fun K hK=>?_)
    go_simp
    refine hK.out _ _ (fun _=>hS) (fun _=>?_)
    clear hK K
    refine wpTo_one (i:=12) (by kernel_rfl) rfl (fun K hK=>?_)
    go_simp
    refine hK.out _ _ (fun _=>hS) (fun _=>?_)
    clear hK K
    refine wpTo_one (i:=13) (by kernel_rfl) rfl (fun K hK=>?_)
    go_simp
    refine hK.out _ _ (fun h=>absurd rfl h) (fun _=>wpTo_end (by kernel_rfl) ?_)
    clear hK K hS hS2 p4' ff
    go_wp2_with fail
    exact ⟨⟨k+1,by simp,by omega,HF⟩,by simp [intOf];omega⟩
  case rest =>
   obtain ⟨hrW,hbW⟩:=hcut.out
   obtain ⟨hrF,hbF⟩:=HX2.out
   have hrF2:=(Kp.ofBelow hbW (fun _=>False)).owns hrF (fun _ _=>id)
   have hlen:(outL l sp).length=l.length:=outK_len _ _ _
   obtain ⟨_,_,eg,-,hglt⟩:=hrF2.form l0
   cases eg
   have hAF:=af_owns (l:=outL l sp) hlen.symm hrF2 hglt
   have hT2:=(HTx.out).below hbW
   have HB0:Hid (Below w.heap.size w wc):=hbF.trans (hbW.mono hbF.size)
   have HC1:=hide (syFiles_any (some ⟨g2,0,none⟩) c2 (outL l sp) wc hT2 hAF (by rw [hlen];exact l16) (HK.out).short)
   rw [hlen] at HC1
   have HRW:=hide hrW
   have HLN:=hide hlen
   clear hrW hbW hrF hbF hrF2 hlen hAF hT2 hcut HX2 HX4 hglt
   go_wp2_with fail
   refine (HC1.out).mono ?_
   rintro e w8 ⟨rv8,rfl,X8⟩
   obtain ⟨⟨IV,Lo,Hi,hI⟩,B8⟩:=X8.out
   have HC2:=hide (scNames_any (outL l sp) rv8 IV Lo Hi _ w8 hI (by rw [HLN.out];exact l16) (HK.out).short (HK.out).nmO.1 (HK.out).nmO.2)
   have HB8:=hide B8
   clear HC1 X8 hI B8
   go_wp2_with fail
   refine (HC2.out).mono ?_
   rintro e w9 ⟨nv9,rfl,X9⟩
   obtain ⟨B9,hr9,hl9⟩:=X9.out
   rw [uvs_qvs] at hr9
   have hb9:=(HB8.out).trans (B9.mono (HB8.out).size)
   have hrW9:=(Kp.ofBelow hb9 (fun _=>False)).owns HRW.out (fun _ _=>id)
   have HC3:=hide (equalU_any nv9 _ _ _ _ _ _ _ w9 hr9 hrW9 (by rw [List.length_map];exact hl9))
   have HB9:Hid (Below w.heap.size w w9):=(HB0.out).trans (hb9.mono (HB0.out).size)
   generalize hD:decide ((X.allU (fsOf (outL l sp))).map uq=us.map (mvQ sp gr))=D at *
   clear HC2 X9 B9 hr9 hl9 hb9 hrW9 hD HRW
   go_wp2_with fail
   refine (HC3.out).mono ?_
   rintro e wA ⟨rfl,BA⟩
   have HBA:Hid (Below w.heap.size w wA):=(HB9.out).trans (BA.mono (HB9.out).size)
   clear HC3 BA
   go_wp2_with fail
   go_ret
   exact ⟨by rw [← HR.out];rfl,HBA.out⟩
end Go.Proofs.YtbmebfgapjhchaaGreatDoor
/- What is known of spans that make names others: plain mathematics. -/
namespace Go.Proofs.YtbmebfgapjhchaaGreatDoor
open M
theorem flt_nil (n:Nat):Ed.flt n []=0:=Ed.flt_ok (by omega) rfl rfl
theorem file_few {l:List AF} {i N:Nat} (p:X.U→Bool) (hp:∀ u,p u=true→u.f=i) (hN:∀ a,l[i]?=some a→a.t.size≤N) (k:Nat):(((X.allU (fsOf l)).take k).filter p).length≤N:=by
 have hs:(((X.allU (fsOf l)).take k).filter p).Pairwise X.Ahd:=((allU_srt l).sublist (List.take_sublist _ _)).sublist List.filter_sublist
 have hb:X.Between 0 N (((X.allU (fsOf l)).take k).filter p):=by
  refine ⟨hs.imp_of_mem ?_,fun u hu=>?_⟩
  ·intro a b ha hb h
   have h1:=hp a (List.mem_filter.1 ha).2
   have h2:=hp b (List.mem_filter.1 hb).2
   unfold X.Ahd at h
   omega
  ·obtain ⟨h1,h2⟩:=List.mem_filter.1 hu
   obtain ⟨a,ha,hi⟩:=allU_file (List.mem_of_mem_take h1)
   rw [hp u h2] at ha
   have:=hN a ha
   rw [bs_len] at hi
   omega
 have:=X.btw_len _ _ _ hb
 omega
theorem spK_few {l:List AF} (hsz:∀ a∈l,a.t.size≤20000) (tf tt:Int) (old name:ByteArray) (k i:Nat):(spK l (X.allU (fsOf l)) tf tt old name k i).length≤20000:=by
 unfold spK
 rw [List.length_map]
 refine file_few (i:=i) _ (fun u hu=>?_) (fun a ha=>hsz a (List.mem_of_getElem? ha)) k
 unfold selB at hu
 rw [Bool.and_eq_true] at hu
 exact of_decide_eq_true hu.1
theorem totR_same (s:ByteArray):∀ (L:List Rw),(∀ r∈L,r.s=s)→totR L=L.length*s.size
 | [],_=>by simp [totR]
 | r::L,h=>by
  have ih:=totR_same s L (fun r hr=>h r (List.mem_cons_of_mem _ hr))
  unfold totR at ih ⊢
  rw [List.map_cons,List.sum_cons,ih,h r List.mem_cons_self,List.length_cons,Nat.succ_mul]
  omega
theorem spK_tot {l:List AF} (hsz:∀ a∈l,a.t.size≤20000) (tf tt:Int) (old name:ByteArray) (hn:name.size≤40) (k i:Nat):totR (spK l (X.allU (fsOf l)) tf tt old name k i)≤800000:=by
 have h1:=spK_few hsz tf tt old name k i
 rw [totR_same name _ (fun r hr=>by
  unfold spK at hr
  obtain ⟨u,-,rfl⟩:=List.mem_map.1 hr
  rfl)]
 exact Nat.le_trans (Nat.mul_le_mul h1 hn) (by decide)
theorem usT_few {l:List AF} (hsz:∀ a∈l,a.t.size≤20000):∀ j,(usT (fsOf l) j).length≤j*20000
 | 0=>Nat.zero_le _
 | j+1=>by
  rw [usT_snoc,List.length_append]
  have h1:=usT_few hsz j
  have h2:(X.itsU (fsOf l) j 0 (X.itemsOf (fsOf l) j)).length≤20000:=by
   rcases Nat.lt_or_ge j l.length with g|g
   ·have ha:=List.getElem?_eq_getElem g
    rw [fsOf_get ha]
    have:=X.btw_len _ _ _ (X.itsU_btw (fs:=fsOf l) (f:=j) (X.itsT_rdf (bs l[j].t)) 0)
    have h3:X.pz (X.fileL (X.xt (bs l[j].t)))=(bs l[j].t).length:=by rw [pz_file,X.file_keeps,X.xt_tb]
    have h4:=hsz l[j] (List.getElem_mem g)
    rw [bs_len] at h3
    omega
   ·rw [fsOf_none g,X.itsU];exact Nat.zero_le _
  omega
theorem allU_few {l:List AF} (hsz:∀ a∈l,a.t.size≤20000) (hl:l.length≤16):(X.allU (fsOf l)).length≤320000:=by
 have h:=usT_few hsz l.length
 have e:usT (fsOf l) l.length=X.allU (fsOf l):=by unfold usT X.allU;rw [fsOf_len]
 rw [e] at h
 omega
theorem flt_sz {l:List AF} (h:fltF l=0):∀ a∈l,a.t.size≤20000:=by
 intro a ha
 unfold fltF at h
 by_cases h1:16<l.length
 ·rw [if_pos h1] at h;cases h
 ·rw [if_neg h1] at h
  by_cases h2:l.any (fun a=>decide (20000<a.t.size))=true
  ·rw [if_pos h2] at h;cases h
  ·rcases Nat.lt_or_ge 20000 a.t.size with g|g
   ·exact absurd (List.any_eq_true.2 ⟨a,ha,by simpa using g⟩) h2
   ·exact g
theorem no_flt {l:List AF} {tf tt:Int} {old name:ByteArray} {gr:Int} {k:Nat} (h:(X.allU (fsOf (outL l (spK l (X.allU (fsOf l)) tf tt old name k)))).map uq=(X.allU (fsOf l)).map (mvQ (spK l (X.allU (fsOf l)) tf tt old name k) gr)):∀ (i:Nat) (a:AF),l[i]?=some a→Ed.flt a.t.size (spK l (X.allU (fsOf l)) tf tt old name k i)=0:=by
 intro i a ha
 generalize hsp:spK l (X.allU (fsOf l)) tf tt old name k=sp at *
 by_cases hf:Ed.flt a.t.size (sp i)=0
 ·exact hf
 ·exfalso
  have hne:sp i≠[]:=fun e=>hf (by rw [e];exact flt_nil _)
  obtain ⟨u,hu,hui⟩:∃ u∈X.allU (fsOf l),u.f=i:=by
   rw [← hsp] at hne
   unfold spK at hne
   cases hx:((X.allU (fsOf l)).take k).filter (selB l tf tt old i) with
   | nil=>rw [hx] at hne;exact absurd rfl hne
   | cons u r =>
    have hm:u∈((X.allU (fsOf l)).take k).filter (selB l tf tt old i):=by rw [hx];exact List.mem_cons_self
    obtain ⟨h1,h2⟩:=List.mem_filter.1 hm
    unfold selB at h2
    rw [Bool.and_eq_true] at h2
    exact ⟨u,List.mem_of_mem_take h1,of_decide_eq_true h2.1⟩
  have hm:mvQ sp gr u∈(X.allU (fsOf (outL l sp))).map uq:=by rw [h];exact List.mem_map.2 ⟨u,hu,rfl⟩
  obtain ⟨u',hu',e⟩:=List.mem_map.1 hm
  have ef:(u'.f:Int)=(u.f:Int):=congrArg Q6.a e
  obtain ⟨a',ha',hi'⟩:=allU_file hu'
  have:u'.f=i:=by omega
  rw [this,outL_get ha] at ha'
  obtain rfl:=Option.some.inj ha'
  rw [apT_no hf] at hi'
  exact absurd hi' (by show ¬ _<0;omega)
end Go.Proofs.YtbmebfgapjhchaaGreatDoor
/- Package change: the patches (patches). -/
namespace Go.Proofs.YtbmebfgapjhchaaGreatDoor
open Go.RowKit
open M
theorem infoPt:(Tryz.prog.info? 42).map (fun i=>(i.zero,i.size,i.bytes))=some (some (.agg #[.int .i64 0,.slice none 0 0]),2,32):=by kernel_rfl
noncomputable def chg (l:List AF) (sp:Nat→List Rw) (i:Nat):Bool:=match l[i]? with|some a=>decide (apT a.t (sp i)≠a.t)|none=>false
noncomputable def idx (l:List AF) (sp:Nat→List Rw) (k:Nat):List Nat:=(List.range k).filter (chg l sp)
theorem idx_succ (l:List AF) (sp:Nat→List Rw) (k:Nat):idx l sp (k+1)=if chg l sp k=true then idx l sp k++[k] else idx l sp k:=by
 unfold idx
 rw [List.range_succ,List.filter_append]
 split
 ·next h=>simp [h]
 ·next h=>simp [h]
theorem idx_len (l:List AF) (sp:Nat→List Rw) (k:Nat):(idx l sp k).length≤k:=by
 unfold idx
 have:=List.length_filter_le (chg l sp) (List.range k)
 rwa [List.length_range] at this
def pvs (vs:Nat→Value) (is:List Nat):List Value:=is.flatMap fun (i:Nat)=>[.int .i64 i,vs i]
theorem pvs_snoc (vs:Nat→Value) (is:List Nat) (i:Nat):pvs vs (is++[i])=pvs vs is++[.int .i64 i,vs i]:=by
 unfold pvs;rw [List.flatMap_append];simp
set_option maxRecDepth 100000 in
theorem run_append_p (w:World) (B:Nat) (v:Value) (n:Nat) (xs:List Value) (hown:w.ownsRow B 42 2 v n xs) (i:Nat) (sv:Value) (h1:sv.oneCell'=true) (hn:n≤16) (hB:B≤w.heap.size) (ty:TypeId) :
  ∃ g c w',(Builtin.append_ #[24,24] ty #[v,.slice (some ⟨w.heap.size,0,none⟩) 1 1]).run Tryz.prog (w.alloc (.cells #[.int .i64 i,sv] 42))=.ok (.slice (some ⟨g,0,none⟩) (n+1) c) w'∧w'.ownsRow B 42 2 (.slice (some ⟨g,0,none⟩) (n+1) c) (n+1) (xs++[.int .i64 i,sv])∧(w.alloc (.cells #[.int .i64 i,sv] 42)).grownBy w' v.ownBlock:=by
 obtain ⟨i0,hi0,hz0,hz1,hz2⟩:=info_parts infoPt
 obtain ⟨g,c,w',a1,a2,a3,-,-⟩:=run_append_lies (P:=Tryz.prog) (w.alloc (.cells #[.int .i64 i,sv] 42)) 24 ty B 42 i0 _ 2 32 Tryz.underlying24 hi0 hz0 hz1 hz2 rfl (by decide) v n xs (hown.alloc _) ⟨w.heap.size,0,none⟩ 1 1 [.int .i64 i,sv] rfl
  (World.news_of_block (cs:=#[.int .i64 i,sv]) (t:=42) (fr:=(0,0)) (heap_alloc_new w _)) (fun u hu=>by rcases List.mem_cons.1 hu with rfl|hu;rfl;rcases List.mem_cons.1 hu with rfl|hu;exact h1;cases hu) (by omega) (by unfold maxLen;omega) (by omega) (by simp;omega) _ rfl
 exact ⟨g,c,w',a1,a2,a3⟩
variable {w:World} {wb B:Nat} {ao:Option Addr} {cap:Nat} {l:List AF} {rv nv:Value} {us:List X.U}
set_option maxRecDepth 100000 in
set_option maxHeartbeats 8000000 in
theorem patches_any (h:IsWs w wb B ao cap l rv nv us) {C g:Nat} {vs:Nat→Value} {sp:Nat→List Rw} {gr:Int} (hE:IsEd w C g l.length vs sp) (hk:EdOk l us sp gr) (hfl:∀ (i:Nat) (a:AF),l[i]?=some a→Ed.flt a.t.size (sp i)=0) :
  Calls Tryz.prog 13 #[.pointer (some ⟨wb,0,none⟩),.slice (some ⟨g,0,none⟩) l.length l.length] w fun e w'=>(e=.returned (.tuple #[.slice none 0 0,.iface 34 (.int .i64 12)])∧Hid (Below w.heap.size w w'∧∃ (i:Nat) (a:AF),l[i]?=some a∧20000<(apT a.t (sp i)).size)) ∨
   ∃ pv,e=.returned (.tuple #[pv,.nilIface])∧Hid (w'.ownsRow w.heap.size 42 2 pv (idx l sp l.length).length (pvs vs (idx l sp l.length))∧Below w.heap.size w w'∧∀ (i:Nat) (a:AF),l[i]?=some a→(apT a.t (sp i)).size≤20000):=by
 have HW:=hide h
 have HE:=hide hE
 have HK:=hide hk
 have HFL:=hide hfl
 have l16:=hk.l16
 have c0:w.cell? ⟨wb,0,none⟩=some (.slice ao l.length cap):=cell_of_row w _ 0 _ _ _ h.blk
 have hwb:=heap_lt h.blk
 clear h hE hk hfl
 go_enter Tryz.func13,Tryz.ntmps13
 go_upto_block 0 with fail
 go_cut [13] (fun _ wx=>Hid (Below w.heap.size w wx∧∀ (i:Nat) (a:AF),l[i]?=some a→(apT a.t (sp i)).size≤20000))
 case first =>
  go_wp2_with fail
  go_loopw [13] (fun sv wr=>∃ k:Nat,sv=.int .i64 k∧k≤l.length∧Hid (Below w.heap.size w wr∧∀ (i:Nat) (a:AF),i<k→l[i]?=some a→(apT a.t (sp i)).size≤20000)) (fun v _=>l.length - (intOf v).toNat)
  case atStart=>exact ⟨0,rfl,Nat.zero_le _,Below.refl _ w,fun i a hi=>by omega⟩
  case round =>
   obtain ⟨k,rfl,hk,HX⟩:=hrel
   by_cases g1:k<l.length
   case neg =>
    have j1:decide ((k:Int)<(l.length:Int))=false:=by simp;omega
    have j2:decide (k<l.length)=false:=by simp;omega
    have HF:Hid (Below w.heap.size w wr∧∀ (i:Nat) (a:AF),l[i]?=some a→(apT a.t (sp i)).size≤20000):=by
     refine ⟨(HX.out).1,fun i a ha=>(HX.out).2 i a ?_ ha⟩
     rcases Nat.lt_or_ge i l.length with q|q
     ·omega
     ·rw [List.getElem?_eq_none q] at ha;cases ha
    clear g1 HX
    go_wp2_with fail
    go_meet
    case rel=>exact HF
   have j1:decide ((k:Int)<(l.length:Int))=true:=by simp;omega
   have j2:decide (k<l.length)=true:=by simp;omega
   have j3:(k:Int)<(l.length:Int):=by omega
   have ha:=List.getElem?_eq_getElem g1
   generalize l[k]=a at ha
   have hbl:=(HX.out).1
   have hEr:=(HE.out).below hbl
   have q:=hEr.cell k g1
   have hsk:=(HK.out).sl k
   obtain ⟨sa,sc,evs⟩:∃ sa sc,vs k=.slice sa (sp k).length sc:=by
    rcases (hEr.row k g1).2 with ⟨e,h0⟩|⟨g',cap,cur,e,-⟩
    ·exact ⟨none,0,by rw [h0];exact e⟩
    ·exact ⟨_,_,e⟩
   rw [evs] at q
   have has:=(HK.out).sz a (List.mem_of_getElem? ha)
   have c0r:=kcb hbl hwb c0
   obtain ⟨b,o,rfl,hbb,c1,c2⟩:=((HW.out).below hbl).af k a ha
   have HC:=hide (length_any a.t (.slice sa (sp k).length sc) (sp k) wr (evs ▸ hEr.isL g1 (by omega)) (by omega) (by have:=(HK.out).tt k;omega) ((HFL.out) k a ha))
   have HA:=hide ha
   have HBL:=hide hbl
   generalize hN:(apT a.t (sp k)).size=N at *
   have HN:=hide hN
   clear ha hbl hEr evs hN hbb
   by_cases g2:20000<N
   ·have d1:decide ((N:Int)>20000)=true:=by simp;omega
    have d2:decide ((20000:Int)<(N:Int))=true:=by simp;omega
    go_wp2_with fail
    refine (HC.out).mono ?_
    rintro e w2 ⟨rfl,B2⟩
    have HF:Hid (Below w.heap.size w w2∧∃ (i:Nat) (a:AF),l[i]?=some a∧20000<(apT a.t (sp i)).size):=⟨(HBL.out).trans (B2.mono (HBL.out).size),k,a,HA.out,by rw [HN.out];exact g2⟩
    clear HC B2 g2
    go_wp2_with fail
    go_ret2
    exact .inl ⟨rfl,HF⟩
   ·have d1:decide ((N:Int)>20000)=false:=by simp;omega
    have d2:decide ((20000:Int)<(N:Int))=false:=by simp;omega
    go_wp2_with fail
    refine (HC.out).mono ?_
    rintro e w2 ⟨rfl,B2⟩
    have HF:Hid (Below w.heap.size w w2∧∀ (i:Nat) (a:AF),i<k+1→l[i]?=some a→(apT a.t (sp i)).size≤20000):=by
     refine ⟨(HBL.out).trans (B2.mono (HBL.out).size),fun i a' hi ha'=>?_⟩
     by_cases e:i=k
     ·subst e
      rw [HA.out] at ha'
      obtain rfl:=Option.some.inj ha'
      rw [HN.out];omega
     ·exact (HX.out).2 i a' (by omega) ha'
    clear HC B2 g2 HX
    go_wp2_with fail
    exact ⟨⟨k+1,by simp,by omega,HF⟩,by simp [intOf];omega⟩
 case rest =>
  have HX1:=hide hcut.out
  clear hcut
  go_wp2_with fail
  go_loopw [34,8] (fun sv ov wr=>∃ (k n:Nat) (oa:Option Addr) (oc:Nat),sv=.int .i64 k∧ov=.slice oa n oc∧k≤l.length∧Hid (n=(idx l sp k).length∧wr.ownsRow w.heap.size 42 2 (.slice oa n oc) n (pvs vs (idx l sp k))∧Below w.heap.size w wr)) (fun v _ _=>l.length - (intOf v).toNat)
  case atStart=>exact ⟨0,0,none,0,rfl,rfl,Nat.zero_le _,rfl,World.ownsRow_nil _ _ _ _,(HX1.out).1⟩
  case round =>
   obtain ⟨k,n,oa,oc,rfl,rfl,hk,HX⟩:=hrel
   by_cases g1:k<l.length
   case neg =>
    have j1:decide ((k:Int)<(l.length:Int))=false:=by simp;omega
    have j2:decide (k<l.length)=false:=by simp;omega
    have HF:Hid (wr.ownsRow w.heap.size 42 2 (.slice oa n oc) (idx l sp l.length).length (pvs vs (idx l sp l.length))∧Below w.heap.size w wr∧∀ (i:Nat) (a:AF),l[i]?=some a→(apT a.t (sp i)).size≤20000):=by
     obtain rfl:k=l.length:=by omega
     obtain ⟨e,x1,x2⟩:=HX.out
     rw [← e]
     exact ⟨x1,x2,(HX1.out).2⟩
    clear g1 HX
    go_wp2_with fail
    go_ret2
    exact .inr ⟨_,rfl,HF⟩
   have j1:decide ((k:Int)<(l.length:Int))=true:=by simp;omega
   have j2:decide (k<l.length)=true:=by simp;omega
   have j3:(k:Int)<(l.length:Int):=by omega
   have ha:=List.getElem?_eq_getElem g1
   generalize l[k]=a at ha
   obtain ⟨hnn,hrow,hbl⟩:=HX.out
   have hEr:=(HE.out).below hbl
   have q:=hEr.cell k g1
   have hsk:=(HK.out).sl k
   obtain ⟨sa,sc,evs⟩:∃ sa sc,vs k=.slice sa (sp k).length sc:=by
    rcases (hEr.row k g1).2 with ⟨e,h0⟩|⟨g',cap,cur,e,-⟩
    ·exact ⟨none,0,by rw [h0];exact e⟩
    ·exact ⟨_,_,e⟩
   rw [evs] at q
   have HVS:=hide evs
   have has:=(HK.out).sz a (List.mem_of_getElem? ha)
   have c0r:=kcb hbl hwb c0
   have hWr:=(HW.out).below hbl
   obtain ⟨b,o,rfl,hbb,c1,c2⟩:=hWr.af k a ha
   have HC:=hide (after_any (hWr.below ((Below.refl _ wr).drew)) ha (v:=.slice sa (sp k).length sc) (evs ▸ (hEr.isL g1 (by omega)).below ((Below.refl _ _).drew)) (fun q hq=>(hEr.far g1 (evs ▸ hq)).2.1) (by omega) (by have:=(HK.out).tt k;omega))
   have HCH:Hid (chg l sp k=decide (apT a.t (sp k)≠a.t)):=by show _=_;unfold chg;rw [ha]
   have HL:=hide (idx_succ l sp k)
   have HNN:=hide hnn
   have HROW:=hide hrow
   have HBL:=hide hbl
   have hn16:n≤16:=by have:=idx_len l sp k;omega
   have hwr:wb<wr.heap.size:=by have:=hbl.size;omega
   generalize apT a.t (sp k)=tx at *
   generalize (sp k).length=ns at *
   clear HX hnn hrow hbl hEr evs hWr ha
   go_wp2_with fail
   refine wpTo_start (S:=fun w'=>w'.cell? ⟨wb,0,none⟩=some (.slice (some ⟨b,o,none⟩) l.length cap)∧w'.cell? ⟨b,o+k*2+1,none⟩=some (.string a.t)) (z:=13) (by kernel_rfl) ?_
   have hS:wr.drew.cell? ⟨wb,0,none⟩=some (.slice (some ⟨b,o,none⟩) l.length cap)∧wr.drew.cell? ⟨b,o+k*2+1,none⟩=some (.string a.t):=⟨c0r,c2⟩
   iterate 3 (refine wpTo_nx (v:=?_) rfl rfl (by kernel_rfl) (by decide) (by kernel_rfl) (by kernel_rfl) (fun _ _ _ h=>h) (Or.inl ⟨by rfl,?_⟩) hS ?_;rotate_left;(· (intro wx hSw;(try dsimp only at hSw);go_simp;try (with_reducible rfl)));simp only [Act.put,List.setIfInBounds_toArray,List.set_cons_zero,List.set_cons_succ])
   refine wpTo_takeA (i:=4) (dn:=43) (v:=?_) rfl rfl (by kernel_rfl) (by decide) (by kernel_rfl) (by kernel_rfl) (fun _ _ _ h=>h) (Or.inl ⟨by rfl,?_⟩) hS ?_
   rotate_left
   ·(intro wx hSw;(try dsimp only at hSw);go_simp;try (with_reducible rfl))
   simp only [Act.put,List.setIfInBounds_toArray,List.set_cons_zero,List.set_cons_succ]
   refine wpTo_takeA (i:=5) (dn:=44) (v:=?_) rfl rfl (by kernel_rfl) (by decide) (by kernel_rfl) (by kernel_rfl) (fun _ _ _ h=>h) (Or.inl ⟨by rfl,?_⟩) hS ?_
   rotate_left
   ·(intro wx hSw;(try dsimp only at hSw);go_simp;try (with_reducible rfl))
   simp only [Act.put,List.setIfInBounds_toArray,List.set_cons_zero,List.set_cons_succ]
   refine wpTo_takeA (i:=6) (dn:=45) (v:=?_) rfl rfl (by kernel_rfl) (by decide) (by kernel_rfl) (by kernel_rfl) (fun _ _ _ h=>h) (Or.inl ⟨by rfl,?_⟩) hS ?_
   rotate_left
   ·(intro wx hSw;(try dsimp only at hSw);go_simp;try (with_reducible rfl))
   simp only [Act.put,List.setIfInBounds_toArray,List.set_cons_zero,List.set_cons_succ]
   refine wpTo_takeA (i:=7) (dn:=46) (v:=?_) rfl rfl (by kernel_rfl) (by decide) (by kernel_rfl) (by kernel_rfl) (fun _ _ _ h=>h) (Or.inl ⟨by rfl,?_⟩) hS ?_
   rotate_left
   ·(intro wx hSw;(try dsimp only at hSw);go_simp;try (with_reducible rfl))
   simp only [Act.put,List.setIfInBounds_toArray,List.set_cons_zero,List.set_cons_succ]
   refine wpTo_takeA (i:=8) (dn:=47) (v:=?_) rfl rfl (by kernel_rfl) (by decide) (by kernel_rfl) (by kernel_rfl) (fun _ _ _ h=>h) (Or.inl ⟨by rfl,?_⟩) hS ?_
   rotate_left
   ·(intro wx hSw;(try dsimp only at hSw);go_simp;try (with_reducible rfl))
   simp only [Act.put,List.setIfInBounds_toArray,List.set_cons_zero,List.set_cons_succ]
   refine wpTo_takeA (i:=9) (dn:=48) (v:=?_) rfl rfl (by kernel_rfl) (by decide) (by kernel_rfl) (by kernel_rfl) (fun _ _ _ h=>h) (Or.inl ⟨by rfl,?_⟩) hS ?_
   rotate_left
   ·(intro wx hSw;(try dsimp only at hSw);go_simp;try (with_reducible rfl))
   simp only [Act.put,List.setIfInBounds_toArray,List.set_cons_zero,List.set_cons_succ]
   refine wpTo_takeA (i:=10) (dn:=49) (v:=?_) rfl rfl (by kernel_rfl) (by decide) (by kernel_rfl) (by kernel_rfl) (fun _ _ _ h=>h) (Or.inl ⟨by rfl,?_⟩) hS ?_
   rotate_left
   ·(intro wx hSw;(try dsimp only at hSw);go_simp;try (with_reducible rfl))
   simp only [Act.put,List.setIfInBounds_toArray,List.set_cons_zero,List.set_cons_succ]
   refine wpTo_takeA (i:=11) (dn:=50) (v:=?_) rfl rfl (by kernel_rfl) (by decide) (by kernel_rfl) (by kernel_rfl) (fun _ _ _ h=>h) (Or.inl ⟨by rfl,?_⟩) hS ?_
   rotate_left
   ·(intro wx hSw;(try dsimp only at hSw);go_simp;try (with_reducible rfl))
   simp only [Act.put,List.setIfInBounds_toArray,List.set_cons_zero,List.set_cons_succ]
   refine wpTo_one (i:=3) (by kernel_rfl) rfl (fun K hK=>?_)
   go_simp
   refine (HC.out).mono ?_
   rintro e w2 ⟨rfl,B2⟩
   have B2':Below wr.heap.size wr w2:=((Below.refl _ wr).drew).trans B2
   have hS2:w2.cell? ⟨wb,0,none⟩=some (.slice (some ⟨b,o,none⟩) l.length cap)∧w2.cell? ⟨b,o+k*2+1,none⟩=some (.string a.t):=⟨kcb B2' hwr c0r,kcb B2' hbb c2⟩
   have HROW2:=hide ((Kp.ofBelow B2' (fun _=>False)).owns HROW.out (fun _ _=>id))
   have HB2:Hid (Below w.heap.size w w2):=(HBL.out).trans (B2'.mono (HBL.out).size)
   dsimp only
   refine hK.out _ _ (fun _=>hS2) (fun _=>?_)
   clear hK K hS B2 B2' HC c0r c2 c1 q HROW HBL
   have hS:=hS2
   refine wpTo_one (i:=12) (by kernel_rfl) rfl (fun K hK=>?_)
   go_simp
   refine hK.out _ _ (fun _=>hS) (fun _=>wpTo_end (by kernel_rfl) ?_)
   clear hK K hS hS2
   by_cases g3:tx=a.t
   ·have HF:Hid (n=(idx l sp (k+1)).length∧w2.ownsRow w.heap.size 42 2 (.slice oa n oc) n (pvs vs (idx l sp (k+1)))∧Below w.heap.size w w2):=by
     have e:idx l sp (k+1)=idx l sp k:=by
      rw [HL.out,if_neg]
      rw [HCH.out,g3];simp
     rw [e]
     exact ⟨HNN.out,HROW2.out,HB2.out⟩
    have d1:(tx.toList==a.t.toList)=true:=by rw [g3];simp
    have d2:(!(tx.toList==a.t.toList))=false:=by rw [d1];rfl
    rw [d2]
    clear d1 d2
    clear g3 HROW2 HB2 HCH HL HNN
    go_wp2_with fail
    exact ⟨⟨k+1,n,oa,oc,by simp,rfl,by omega,HF⟩,by simp [intOf];omega⟩
   ·have d1:(tx.toList==a.t.toList)=false:=by rw [beq_eq_false_iff_ne,ByteArray.toList_eq,ByteArray.toList_eq];exact fun e=>g3 (bs_inj e)
    have d2:(!(tx.toList==a.t.toList))=true:=by rw [d1];rfl
    rw [d2]
    clear d1 d2
    obtain ⟨g5,c5,w5,a1,a2,a3⟩:=run_append_p w2 w.heap.size (.slice oa n oc) n _ HROW2.out k (.slice sa ns sc) rfl hn16 (HB2.out).size 24
    have hb4:Below w.heap.size w (w2.alloc (.cells #[.int .i64 k,.slice sa ns sc] 42)):=(HB2.out).alloc (HB2.out).size _
    have HF:Hid (n+1=(idx l sp (k+1)).length∧w5.ownsRow w.heap.size 42 2 (.slice (some ⟨g5,0,none⟩) (n+1) c5) (n+1) (pvs vs (idx l sp (k+1)))∧Below w.heap.size w w5):=by
     have e:idx l sp (k+1)=idx l sp k++[k]:=by
      rw [HL.out,if_pos]
      rw [HCH.out];simpa using g3
     rw [e,pvs_snoc,HVS.out,List.length_append]
     refine ⟨by rw [HNN.out];rfl,a2,hb4.grown a3 hb4.size (fun q hq=>?_)⟩
     rcases (HROW2.out:w2.ownsRow _ _ _ _ _ _).2 with ⟨e',-⟩|⟨g',_,cur,e',hb',-⟩
     ·rw [e'] at hq;cases hq
     ·rw [e'] at hq
      obtain rfl:g'=q:=Option.some.inj hq
      exact hb'
    clear g3 HROW2 HB2 HCH HL HNN a2 a3 hb4
    go_wp2_with (at_builtin;refine Lib.wpList_append_run _ rfl _ _ _ _ rfl _ _ rfl rfl _ _ a1 ?_)
    exact ⟨⟨k+1,n+1,_,c5,by simp,rfl,by omega,HF⟩,by simp [intOf];omega⟩
end Go.Proofs.YtbmebfgapjhchaaGreatDoor
