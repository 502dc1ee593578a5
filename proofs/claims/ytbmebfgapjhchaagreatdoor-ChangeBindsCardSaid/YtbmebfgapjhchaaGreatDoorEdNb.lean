/- The next step of an edit. -/
import Derived.Test.YtbmebfgapjhchaaGreatDoorEdGb
namespace Go.Proofs.YtbmebfgapjhchaaGreatDoor.Ed
open Go.RowKit
open EM
def Z3 (W:World) (b:Nat):Prop:=W.heap[b]?=some (.cells #[.int .i64 0,.int .i64 0,.string ⟨#[]⟩] 154 (0,0))
theorem Z3.facts {W:World} {b:Nat} (h:Z3 W b):W.cell? ⟨b,0,none⟩=some (.int .i64 0)∧W.cell? ⟨b,1,none⟩=some (.int .i64 0)∧W.cell? ⟨b,2,none⟩=some (.string ⟨#[]⟩)∧W.frozen? ⟨b,0,none⟩=false∧W.frozen? ⟨b,1,none⟩=false∧W.frozen? ⟨b,2,none⟩=false:=by
 unfold Z3 at h
 refine ⟨?_,?_,?_,?_,?_,?_⟩<;>simp [World.cell?,World.frozen?,h]
theorem _root_.Go.Proofs.YtbmebfgapjhchaaGreatDoor.IsL.head {w:World} {v:Value} {r:Rw} {L:List Rw} (h:IsL w v (r::L)) :
  ∃ b o cap,v=.slice (some ⟨b,o,none⟩) (L.length+1) cap∧L.length+1≤cap∧cap≤maxLen∧L.length+1≤1125899906842624∧w.cell? ⟨b,o,none⟩=some (.int .i64 r.f)∧w.cell? ⟨b,o+1,none⟩=some (.int .i64 r.t)∧w.cell? ⟨b,o+2,none⟩=some (.string r.s)∧b<w.heap.size:=by
 obtain ⟨ao,cap,rfl,h1,h2,h3,h4⟩:=h
 obtain ⟨b,o,rfl,h5⟩:=h4 0 (by simp)
 obtain ⟨q1,q2,q3⟩:=h5 r rfl
 simp only [Nat.zero_mul,Nat.add_zero] at q1 q2 q3
 exact ⟨b,o,cap,rfl,h1,h3,h2,q1,q2,q3,World.block_lt_of_cell? w ⟨b,o,none⟩ q1⟩
theorem _root_.Go.Proofs.YtbmebfgapjhchaaGreatDoor.IsL.tail {w:World} {b o cap:Nat} {r:Rw} {L:List Rw} (h:IsL w (.slice (some ⟨b,o,none⟩) (L.length+1) cap) (r::L)) (ao:Option Addr) (hao:L≠[]→ao=some ⟨b,o+3,none⟩):IsL w (.slice ao L.length (cap - 1)) L:=by
 obtain ⟨ao',cap',e,h1,h2,h3,h4⟩:=h
 cases e
 simp only [List.length_cons] at h1 h2
 refine ⟨ao,cap - 1,rfl,by omega,by omega,by omega,fun i hi=>?_⟩
 obtain ⟨b',o',e',h5⟩:=h4 (i+1) (by simp;omega)
 cases e'
 refine ⟨b,o+3,hao (by rintro rfl;simp at hi),fun x hx=>?_⟩
 have:=h5 x (by simpa using hx)
 rw [show o+(i+1)*3=o+3+i*3 by omega] at this
 exact this
theorem heap_set1 {W:World} {b:Nat} {x:Value} {t:TypeId} (h:W.heap[b]?=some (.cells #[x] t (0,0))) (y:Value):(W.setCell ⟨b,0,none⟩ y).heap[b]?=some (.cells #[y] t (0,0)):=by
 simp [World.setCell,Array.getElem?_modify,h]
theorem heap_set_ne {W:World} {b k:Nat} {o:Nat} {x:Obj} (h:W.heap[k]?=some x) (hn:k≠b) (y:Value):(W.setCell ⟨b,o,none⟩ y).heap[k]?=some x :=
 (Below.heap_setCell W ⟨b,o,none⟩ y k hn).trans h
theorem _root_.Go.Proofs.YtbmebfgapjhchaaGreatDoor.Kp.set1 (W:World) (b o:Nat) (y:Value):Kp (fun k=>k=b) W (W.setCell ⟨b,o,none⟩ y):=(Kp.refl (fun k=>k=b) W).setCell (p:=⟨b,o,none⟩) (fun _=>rfl) y
section
variable {B:Nat} {W:World} {b0 b1 b2:Nat} {R R':List St} {a:Nat} {Ls:List Sp} {F:Nat→Prop}
theorem NS.more (h:NS B W b0 b1 b2 R a Ls F) {F':Nat→Prop} (hF:∀ k,F k→F' k) (hl:∀ k,F' k→B≤k∧k<W.heap.size):NS B W b0 b1 b2 R a Ls F':=by
 obtain ⟨⟨rv,r1,r2,r3⟩,h1,h2,f,lt,ne,ok,tt⟩:=h
 exact ⟨⟨rv,r1,r2,fun k hk=>⟨hF k (r3 k hk).1,(r3 k hk).2⟩⟩,h1,h2,⟨hF _ f.1,hF _ f.2.1,hF _ f.2.2⟩,hl,ne,ok,tt⟩
theorem NS.setR (h:NS B W b0 b1 b2 R a Ls F) (rv:Value) (hL:IsL W rv (R'.map stR)) (hb:∀ k,rv.ownBlock=some k→F k∧k≠b0∧k≠b1∧k≠b2):NS B (W.setCell ⟨b0,0,none⟩ rv) b0 b1 b2 R' a Ls F:=by
 obtain ⟨⟨rv0,r1,r2,r3⟩,⟨ev,e1,e2,e3⟩,h2,f,lt,ne,ok,tt⟩:=h
 refine ⟨⟨rv,heap_set1 r1 rv,hL.keep (Kp.set1 W b0 0 rv) (fun k hk=>(hb k hk).2.1),hb⟩,⟨ev,heap_set_ne e1 (Ne.symm ne.1) rv,e2.keep (Kp.set1 W b0 0 rv) (fun k hk e=>?_),e3⟩,heap_set_ne h2 (Ne.symm ne.2.1) rv,f,fun k hk=>by rw [set_size];exact lt k hk,ne,ok,tt⟩
 have:=e3 k hk
 have:=(lt b0 f.1).1
 omega
theorem NS.setA (h:NS B W b0 b1 b2 R a Ls F) (c:Nat) (Ls':List Sp) (ev:Value) (hL:IsL W ev (Ls'.map raw)) (hb:∀ k,ev.ownBlock=some k→k<B) (hok:∃ n,Ok c n Ls'∧n≤1099511627776) (htt:tot Ls'≤1099511627776) :
  NS B ((W.setCell ⟨b2,0,none⟩ (.int .i64 c)).setCell ⟨b1,0,none⟩ ev) b0 b1 b2 R c Ls' F:=by
 obtain ⟨⟨rv,r1,r2,r3⟩,⟨ev0,e1,e2,e3⟩,h2,f,lt,ne,ok,tt⟩:=h
 have K:Kp (fun k=>k=b1∨k=b2) W ((W.setCell ⟨b2,0,none⟩ (.int .i64 c)).setCell ⟨b1,0,none⟩ ev):=((Kp.refl _ W).setCell (fun _=>.inr rfl) _).setCell (fun _=>.inl rfl) _
 refine ⟨⟨rv,K.heap r1 (by rintro (h|h);exact ne.1 h;exact ne.2.1 h),r2.keep K (fun k hk=>?_),r3⟩,⟨ev,heap_set1 (heap_set_ne e1 ne.2.2 _) ev,hL.keep K (fun k hk=>?_),hb⟩,heap_set_ne (heap_set1 h2 _) (Ne.symm ne.2.2) ev,f,fun k hk=>⟨(lt k hk).1,Nat.lt_of_lt_of_le (lt k hk).2 K.size⟩,ne,hok,htt⟩
 ·rintro (h|h)
  ·exact (r3 k hk).2.2.1 h
  ·exact (r3 k hk).2.2.2 h
 ·have h1:=hb k hk
  have h2:=(lt b1 f.2.1).1
  have h3:=(lt b2 f.2.2).1
  rintro (h|h)<;>omega
end
def hdS:List St→St
 | []=>.stay 0
 | s::_=>s
theorem next_end {B b0 b1 b2:Nat} {R:List St} {a:Nat} {Ls:List Sp} {F:Nat→Prop} {w wr W1 X:World} (hN:NS B W1 b0 b1 b2 R a Ls (fun k=>F k∨(w.heap.size+1≤k∧k<wr.heap.size))) (hF:∀ k,F k→B≤k∧k<w.heap.size) (hB:B≤w.heap.size)
  (hsz:W1.heap.size=wr.heap.size) (K1:Kp F w W1) (hZ:Z3 W1 w.heap.size) (y0 y1 y2:Value) (hX:Kp (fun _=>False) (set3 W1 w.heap.size y0 y1 y2) X) :
  NS B X b0 b1 b2 R a Ls (fun k=>F k∨(w.heap.size≤k∧k<X.heap.size))∧Kp F w X∧X.cell? ⟨w.heap.size,0,none⟩=some y0∧X.cell? ⟨w.heap.size,1,none⟩=some y1∧X.cell? ⟨w.heap.size,2,none⟩=some y2:=by
 have h3:=set3_at hZ y0 y1 y2
 have hx:=hX.heap h3 id
 have s3:(set3 W1 w.heap.size y0 y1 y2).heap.size=W1.heap.size:=by simp [set3,World.setCell]
 have kA:Kp (fun k=>k=w.heap.size) W1 (set3 W1 w.heap.size y0 y1 y2):=set3_kp (Kp.refl _ _) _ _ _ _ (fun _=>rfl)
 have kX:Kp (fun k=>k=w.heap.size) W1 X:=kA.trans hX (fun _ _ h=>h.elim)
 refine ⟨?_,?_,by rw [Lib.cell_of_heap hx];rfl,by rw [Lib.cell_of_heap hx];rfl,by rw [Lib.cell_of_heap hx];rfl⟩
 ·have hz:=kX.size
  refine (hN.keep kX (fun k hk e=>?_) (fun k hk=>by omega)).more (fun k hk=>?_) (fun k hk=>?_)
  ·rcases hk with hk|hk
   ·have:=hF k hk;omega
   ·omega
  ·rcases hk with hk|hk
   ·exact .inl hk
   ·exact .inr (by omega)
  ·rcases hk with hk|hk
   ·have:=hF k hk;have:=K1.size;omega
   ·omega
 ·exact K1.trans kX (fun i hi e=>by omega)
theorem tot_tail (c:Sp) (L:List Sp):tot L≤tot (c::L):=by simp [tot]
theorem real_cons_pos {r:St} (R:List St) (h:0<r.c):real (r::R)=r::real R:=by unfold real;rw [List.filter_cons_of_pos (by simpa using h)]
theorem real_cons_zero {r:St} (R:List St) (h:¬ 0<r.c):real (r::R)=real R:=by unfold real;rw [List.filter_cons_of_neg (by simpa using h)]
set_option maxRecDepth 100000 in
set_option maxHeartbeats 4000000 in
theorem next_any (B:Nat) (b0 b1 b2:Nat) (S:List St) (F:Nat→Prop) (w:World) (h:IsN B w b0 b1 b2 S F) (hB:B≤w.heap.size) :
  Calls Tryz.prog 87 #[.pointer (some ⟨b0,0,none⟩),.pointer (some ⟨b1,0,none⟩),.pointer (some ⟨b2,0,none⟩)] w fun e w'=>e=.returned (stV (hdS S))∧IsN B w' b0 b1 b2 S.tail (fun k=>F k∨(w.heap.size≤k∧k<w'.heap.size))∧Kp F w w':=by
 obtain ⟨R0,a0,Ls0,hN,hS⟩:=h
 have lb0:=(hN.lt _ hN.f.1).2
 have lb1:=(hN.lt _ hN.f.2.1).2
 have lb2:=(hN.lt _ hN.f.2.2).2
 have HF:=hide (And.intro hN.f hN.lt)
 have HN:=hide hN
 have HS:=hide hS
 clear hN hS
 go_enter Tryz.func87,Tryz.ntmps87
 go_wp2_with fail
 go_loopg [4] (R0.length+4*Ls0.length) (fun n p wr=>∃ (R:List St) (a:Nat) (Ls:List Sp),R.length+4*Ls.length=n∧Hid (NS B wr b0 b1 b2 R a Ls (fun k=>F k∨(w.heap.size+1≤k∧k<wr.heap.size)))∧Hid (S=real R++sts a Ls)∧Hid (Kp F w wr)∧Hid (Z3 wr w.heap.size))
 case atStart =>
  refine ⟨R0,a0,Ls0,rfl,?_,HS,(Kp.refl _ _).alloc _,heap_alloc_new w _⟩
  have K:Kp (fun _=>False) w (w.alloc (Obj.cells #[Value.int IntKind.i64 0,Value.int IntKind.i64 0,Value.string ⟨#[]⟩] 154)):=(Kp.refl _ _).alloc _
  refine ((HN.out).keep K (fun _ _=>id) (fun _ h=>h.elim)).more (fun k hk=>.inl hk) (fun k hk=>?_)
  rw [World.size_alloc] at hk ⊢
  rcases hk with hk|hk
  ·have:=(HF.out).2 k hk;omega
  ·omega
 case round =>
  obtain ⟨R,a,Ls,hg,HN,HS,HK,HZ⟩:=hrel
  obtain ⟨⟨rv,r1,r2,r3⟩,⟨ev,e1,e2,e3⟩,h2,f,lt,ne,ok,tt⟩:=HN.out
  have c0:wr.cell? ⟨b0,0,none⟩=some rv:=by rw [Lib.cell_of_heap r1];rfl
  have c1:wr.cell? ⟨b1,0,none⟩=some ev:=by rw [Lib.cell_of_heap e1];rfl
  have c2:wr.cell? ⟨b2,0,none⟩=some (.int .i64 a):=by rw [Lib.cell_of_heap h2];rfl
  have z0:wr.frozen? ⟨b0,0,none⟩=false:=Lib.frozen_of_heap r1 0
  have z1:wr.frozen? ⟨b1,0,none⟩=false:=Lib.frozen_of_heap e1 0
  have z2:wr.frozen? ⟨b2,0,none⟩=false:=Lib.frozen_of_heap h2 0
  obtain ⟨y0,y1,y2,w0,w1,w2⟩:=(HZ.out).facts
  have lz:w.heap.size<wr.heap.size:=heap_lt HZ.out
  obtain ⟨n1,n2,n3⟩:=ne
  have lc0:b0<wr.heap.size:=by omega
  have lc1:b1<wr.heap.size:=by omega
  have lc2:b2<wr.heap.size:=by omega
  have nz0:¬ b0=w.heap.size:=by omega
  have nz0':¬ w.heap.size=b0:=by omega
  have nz1:¬ b1=w.heap.size:=by omega
  have nz1':¬ w.heap.size=b1:=by omega
  have nz2:¬ b2=w.heap.size:=by omega
  have nz2':¬ w.heap.size=b2:=by omega
  cases R with
  | nil =>
   obtain ⟨ro,rc,rfl,_,_,_,_⟩:=r2
   cases Ls with
   | nil =>
    obtain ⟨eo,ec,rfl,_,_,_,_⟩:=e2
    simp only [List.map_nil,List.length_nil] at *
    go_wp2_with fail
    have hS0:S=[]:=by rw [HS.out];rfl
    obtain ⟨hN,hK,x0,x1,x2⟩:=next_end (HN.out) (HF.out).2 hB rfl HK.out HZ.out (.int .i64 0) (.int .i64 0) (.string ⟨#[]⟩) (Kp.refl _ _)
    change bodyPost _ _ _ _ _ (set3 wr w.heap.size (.int .i64 0) (.int .i64 0) (.string ⟨#[]⟩))
    clear c0 c1 c2 z0 z1 z2 y0 y1 y2 w0 w1 w2
    generalize set3 wr w.heap.size (.int .i64 0) (.int .i64 0) (.string ⟨#[]⟩)=X at hN hK x0 x1 x2 ⊢
    exact bodyPost_ret (v:=.agg #[.int .i64 0,.int .i64 0,.string ⟨#[]⟩]) (by simp [results,Tryz.results87,go_sem,x0,x1,x2]) rfl ⟨by rw [hS0];rfl,⟨_,_,_,hN,by rw [hS0];rfl⟩,hK⟩
   | cons c Ls =>
    obtain ⟨g,o,cap,rfl,k1,k2,k3,q1,q2,q3,hgl⟩:=IsL.head (r:=raw c) (L:=Ls.map raw) e2
    have hgB:=e3 g rfl
    have HE2:=hide e2
    obtain ⟨nn,hok,hnn⟩:=ok
    simp only [List.map_nil,List.length_nil,List.length_map,raw] at *
    have hle:=hok.2.2.le
    have ha1:=hok.1
    have ha2:=hok.2.1
    have HOK:=hide hok
    clear e2 e3 lt hok
    have hb0B:=((HF.out).2 b0 (HF.out).1.1).1
    have gn:¬ g=b0:=by omega
    have gn':¬ b0=g:=by omega
    have gn1:¬ g=b1:=by have:=((HF.out).2 b1 (HF.out).1.2.1).1;omega
    have gn1':¬ b1=g:=by omega
    have gn2:¬ g=b2:=by have:=((HF.out).2 b2 (HF.out).1.2.2).1;omega
    have gn2':¬ b2=g:=by omega
    by_cases hc1:cap=1
    ·subst hc1
     obtain rfl:Ls=[]:=List.length_eq_zero_iff.1 (by omega)
     simp only [List.length_nil,Nat.zero_add] at c1
     go_wp2_with fail
     go_region_held3 (fun w'=>w'.cell? ⟨b2,0,none⟩=some (.int .i64 a)∧w'.cell? ⟨b1,0,none⟩=some (.slice (some ⟨g,o,none⟩) (1) 1)∧w'.cell? ⟨g,o,none⟩=some (.int .i64 c.f)∧w'.cell? ⟨g,o+1,none⟩=some (.int .i64 c.t)∧w'.cell? ⟨g,o+2,none⟩=some (.string (ba c.s)))
      (first|go_keep|exact ⟨kcb hb3 lc2 c2,kcb hb3 lc1 c1,kcb hb3 hgl q1,kcb hb3 hgl q2,kcb hb3 hgl q3⟩)
      ((go_at_call 88;refine (stepsOfSpan_any a c _ ha1 ha2 (by omega)).mono ?_;rintro e w3 ⟨g3,rfl,hg3,hL3,hb3⟩;have d0:=kcb hb3 lc0 c0;have d1:=((bcell hb3).2 b0 0 lc0).trans z0))
     rename_i hHeld
     obtain ⟨i2,i1,j1,j2,j3⟩:=hHeld
     have hb3':Below wr.heap.size wr w3:=⟨hb3.os,hb3.tape,hb3.output,hb3.size,hb3.block⟩
     have NA:=NS.setA (NS.setR ((HN.out).keep (Kp.ofBelow hb3' (fun _=>False)) (fun _ _=>id) (fun _ h=>h.elim) |>.more (F':=fun k=>F k∨(w.heap.size+1≤k∧k<w3.heap.size)) (fun k hk=>by have:=hb3'.size;rcases hk with h|h;exact .inl h;exact .inr (by omega)) (fun k hk=>by have:=hb3'.size;have:=(HK.out).size;rcases hk with h|h;exact ⟨((HF.out).2 k h).1,by have:=((HF.out).2 k h).2;omega⟩;exact ⟨by omega,h.2⟩)) (.slice (some ⟨g3,0,none⟩) 3 3) (R':=st3 a c) hL3 (fun k hk=>by
       simp only [Value.ownBlock,Option.some.injEq] at hk
       subst hk
       have hg3':wr.heap.size≤g3:=hg3
       have hg4:g3<w3.heap.size:=(IsL.head (r:=stR (.stay (c.f - a))) (L:=[stR (.put c.s),stR (.drop (c.t - c.f))]) hL3).elim (fun b h=>by obtain ⟨o',cap',e,_,_,_,_,_,_,hlt⟩:=h;cases e;exact hlt)
       exact ⟨.inr (by omega),by omega,by omega,by omega⟩)) c.t [] (.slice (some ⟨g,o,none⟩) 0 0) (by have:=IsL.tail (r:=raw c) (L:=([]:List Sp).map raw) ((HE2.out).below hb3') (some ⟨g,o,none⟩) (fun h=>absurd rfl h);exact this.keep (Kp.set1 _ b0 0 _) (fun k hk e=>by simp only [Value.ownBlock,Option.some.injEq] at hk;omega)) (fun k hk=>by simp only [Value.ownBlock,Option.some.injEq] at hk;subst hk;exact hgB) ⟨nn,(HOK.out).2.2,hnn⟩ (Nat.le_trans (tot_tail c []) tt)
     have KA:=(((Kp.trans (HK.out) (Kp.ofBelow hb3' (fun _=>False)) (fun _ _ h=>h.elim)).setCell (p:=⟨b0,0,none⟩) (fun _=>(HF.out).1.1) (.slice (some ⟨g3,0,none⟩) 3 3)).setCell (p:=⟨b2,0,none⟩) (fun _=>(HF.out).1.2.2) (.int .i64 c.t)).setCell (p:=⟨b1,0,none⟩) (fun _=>(HF.out).1.2.1) (.slice (some ⟨g,o,none⟩) 0 0)
     have ZA:Z3 (((w3.setCell ⟨b0,0,none⟩ (.slice (some ⟨g3,0,none⟩) 3 3)).setCell ⟨b2,0,none⟩ (.int .i64 c.t)).setCell ⟨b1,0,none⟩ (.slice (some ⟨g,o,none⟩) 0 0)) w.heap.size:=heap_set_ne (heap_set_ne (heap_set_ne ((hb3'.block _ lz).trans HZ.out) nz0' _) nz2' _) nz1' _
     have SA:(((w3.setCell ⟨b0,0,none⟩ (.slice (some ⟨g3,0,none⟩) 3 3)).setCell ⟨b2,0,none⟩ (.int .i64 c.t)).setCell ⟨b1,0,none⟩ (.slice (some ⟨g,o,none⟩) 0 0)).heap.size=w3.heap.size:=by simp only [set_size]
     rw [← SA] at NA
     have lw3:b1<(w3.setCell ⟨b0,0,none⟩ (.slice (some ⟨g3,0,none⟩) 3 3)).heap.size:=by rw [set_size];have:=hb3'.size;omega
     have fw2:(w3.setCell ⟨b0,0,none⟩ (.slice (some ⟨g3,0,none⟩) 3 3)).frozen? ⟨b2,0,none⟩=false:=by rw [set_frozen];exact ((bcell hb3').2 b2 0 lc2).trans z2
     have fw1:(w3.setCell ⟨b0,0,none⟩ (.slice (some ⟨g3,0,none⟩) 3 3)).frozen? ⟨b1,0,none⟩=false:=by rw [set_frozen];exact ((bcell hb3').2 b1 0 lc1).trans z1
     have HNA:=hide NA
     have HKA:=hide KA
     have HZA:=hide ZA
     clear NA KA ZA SA hb3 hb3' hg3 hL3 d0 d1 c0 c1 c2 z0 z1 z2 y0 y1 y2 w0 w1 w2 q1 q2 q3 HN HK HZ r1 r3 e1 h2 lc0 lc1 lc2 lz nz0 nz0' nz1 nz1' nz2 nz2' HE2
     go_upto_region 6 with fail
     generalize ((w3.setCell ⟨b0,0,none⟩ (.slice (some ⟨g3,0,none⟩) 3 3)).setCell ⟨b2,0,none⟩ (.int .i64 c.t)).setCell ⟨b1,0,none⟩ (.slice (some ⟨g,o,none⟩) 0 0)=wq at HNA HKA HZA ⊢
     obtain ⟨r,R,hRR,hR2⟩:∃ r R,st3 a c=r::R∧R.length=2:=⟨_,_,rfl,rfl⟩
     have HSB:=hide (show S=real (r::R)++sts c.t [] by rw [← hRR];exact HS.out)
     rw [hRR] at HNA
     have hM:R.length+4*List.length ([]:List Sp)<gk:=by first|omega|(simp at hg ⊢;omega)
     clear i2 i1 j1 j2 j3 fw1 fw2 lw3 f n1 n2 n3 tt hRR hR2 hg
     clear HS
     have HS:=HSB
     have HN:=HNA
     have HK:=HKA
     have HZ:=HZA
     clear HSB HNA HKA HZA
     obtain ⟨⟨rv,r1,r2,r3⟩,⟨ev,e1,e2,e3⟩,h2,f,lt,ne,ok,tt⟩:=HN.out
     have c0:wq.cell? ⟨b0,0,none⟩=some rv:=by rw [Lib.cell_of_heap r1];rfl
     have c1:wq.cell? ⟨b1,0,none⟩=some ev:=by rw [Lib.cell_of_heap e1];rfl
     have c2:wq.cell? ⟨b2,0,none⟩=some (.int .i64 c.t):=by rw [Lib.cell_of_heap h2];rfl
     have z0:wq.frozen? ⟨b0,0,none⟩=false:=Lib.frozen_of_heap r1 0
     have z1:wq.frozen? ⟨b1,0,none⟩=false:=Lib.frozen_of_heap e1 0
     have z2:wq.frozen? ⟨b2,0,none⟩=false:=Lib.frozen_of_heap h2 0
     obtain ⟨y0,y1,y2,w0,w1,w2⟩:=(HZ.out).facts
     have lz:w.heap.size<wq.heap.size:=heap_lt HZ.out
     obtain ⟨n1,n2,n3⟩:=ne
     have lc0:b0<wq.heap.size:=by omega
     have lc1:b1<wq.heap.size:=by omega
     have lc2:b2<wq.heap.size:=by omega
     have nz0:¬ b0=w.heap.size:=by omega
     have nz0':¬ w.heap.size=b0:=by omega
     have nz1:¬ b1=w.heap.size:=by omega
     have nz1':¬ w.heap.size=b1:=by omega
     have nz2:¬ b2=w.heap.size:=by omega
     have nz2':¬ w.heap.size=b2:=by omega
     obtain ⟨g,o,cap,rfl,k1,k2,k3,q1,q2,q3,hgl⟩:=IsL.head (r:=stR r) (L:=R.map stR) r2
     obtain ⟨m1,m2,m3,m4⟩:=r3 g rfl
     obtain ⟨ao',hao,hap⟩:∃ p:Nat,(cap=1→p=o)∧(cap≠1→p=o+3):=by
      by_cases hc:cap=1
      ·exact ⟨o,fun _=>rfl,fun h=>absurd hc h⟩
      ·exact ⟨o+3,fun h=>absurd h hc,fun _=>rfl⟩
     have HT:=hide (NS.setR (HN.out) (.slice (some ⟨g,ao',none⟩) R.length (cap - 1)) (R':=R) (by
      have:=IsL.tail (r:=stR r) (L:=R.map stR) r2 (some ⟨g,ao',none⟩) (fun hne=>by
       have:0<(R.map stR).length:=List.length_pos_iff.2 hne
       rw [hap (by omega)])
      rwa [List.length_map] at this) (fun k hk=>by simp only [Value.ownBlock,Option.some.injEq] at hk;subst hk;exact ⟨m1,m2,m3,m4⟩))
     simp only [List.length_map] at k1 k3 c0
     simp only [stR] at q1 q2 q3
     have K1:=hide ((HK.out).setCell (p:=⟨b0,0,none⟩) (fun _=>(HF.out).1.1) (.slice (some ⟨g,ao',none⟩) R.length (cap - 1)))
     have Z1:=hide (show Z3 (wq.setCell ⟨b0,0,none⟩ (.slice (some ⟨g,ao',none⟩) R.length (cap - 1))) w.heap.size from heap_set_ne HZ.out nz0' _)
     have S1:=hide (set_size wq ⟨b0,0,none⟩ (.slice (some ⟨g,ao',none⟩) R.length (cap - 1)))
     clear r1 r2 r3 e1 e2 e3 lt h2
     by_cases hc1:cap=1
     ·obtain rfl:=hao hc1
      subst hc1
      obtain rfl:R=[]:=List.length_eq_zero_iff.1 (by omega)
      simp only [Nat.sub_self,List.length_nil] at HT K1 Z1 S1
      by_cases hr:0<r.c
      ·have hr':(0:Int)<(r.c:Int):=by omega
       have hS1:=hide (show S=r::(real []++sts c.t []) by rw [HS.out,real_cons_pos [] hr];rfl)
       go_wp2_with fail
       obtain ⟨hN,hK,x0,x1,x2⟩:=next_end HT.out (HF.out).2 hB S1.out K1.out Z1.out (.int .i64 r.k) (.int .i64 r.c) (.string (ba r.s)) ((Kp.refl _ _).alloc (.cells #[.int .i64 r.k,.int .i64 r.c,.string (ba r.s)] 154))
       change bodyPost _ _ _ _ _ ((set3 (wq.setCell ⟨b0,0,none⟩ (.slice (some ⟨g,ao',none⟩) 0 0)) w.heap.size (.int .i64 r.k) (.int .i64 r.c) (.string (ba r.s))).alloc (.cells #[.int .i64 r.k,.int .i64 r.c,.string (ba r.s)] 154))
       clear c0 c1 c2 z0 z1 z2 y0 y1 y2 w0 w1 w2 q1 q2 q3
       generalize (set3 (wq.setCell ⟨b0,0,none⟩ (.slice (some ⟨g,ao',none⟩) 0 0)) w.heap.size (.int .i64 r.k) (.int .i64 r.c) (.string (ba r.s))).alloc (.cells #[.int .i64 r.k,.int .i64 r.c,.string (ba r.s)] 154)=X at hN hK x0 x1 x2 ⊢
       exact bodyPost_ret (v:=.agg #[.int .i64 r.k,.int .i64 r.c,.string (ba r.s)]) (by simp [results,Tryz.results87,go_sem,x0,x1,x2]) rfl ⟨by rw [hS1.out];rfl,⟨_,_,_,hN,by rw [hS1.out];rfl⟩,hK⟩
      ·have hr':¬(0:Int)<(r.c:Int):=by omega
       have hS1:=hide (show S=real []++sts c.t [] by rw [HS.out,real_cons_zero [] hr])
       go_wp2_with fail
       go_roundg (List.length ([]:List St)+4*0)
       case rel=>exact ⟨[],c.t,[],rfl,((HT.out).keep ((Kp.refl (fun _=>False) _).alloc _) (fun _ _=>id) (fun _ h=>h.elim)).more (fun k hk=>by have:=S1.out;rcases hk with h|h;exact .inl h;exact .inr (by simp [this];omega)) (fun k hk=>by have:=S1.out;have:=(HK.out).size;rcases hk with h|h;exact ⟨((HF.out).2 k h).1,by have:=((HF.out).2 k h).2;simp;omega⟩;exact ⟨by omega,h.2⟩),hS1,(K1.out).alloc _,(Below.heap_alloc _ _ _ (by rw [S1.out];exact lz)).trans Z1.out⟩
       case measure=>first|omega|(simp at hM ⊢;omega)
     ·obtain rfl:=hap hc1
      have hcc:(cap==1)=false:=by simpa using hc1
      by_cases hr:0<r.c
      ·have hr':(0:Int)<(r.c:Int):=by omega
       have hS1:=hide (show S=r::(real R++sts c.t []) by rw [HS.out,real_cons_pos R hr];rfl)
       go_wp2_with fail
       obtain ⟨hN,hK,x0,x1,x2⟩:=next_end HT.out (HF.out).2 hB S1.out K1.out Z1.out (.int .i64 r.k) (.int .i64 r.c) (.string (ba r.s)) ((Kp.refl _ _).alloc (.cells #[.int .i64 r.k,.int .i64 r.c,.string (ba r.s)] 154))
       change bodyPost _ _ _ _ _ ((set3 (wq.setCell ⟨b0,0,none⟩ (.slice (some ⟨g,o+3,none⟩) R.length (cap - 1))) w.heap.size (.int .i64 r.k) (.int .i64 r.c) (.string (ba r.s))).alloc (.cells #[.int .i64 r.k,.int .i64 r.c,.string (ba r.s)] 154))
       clear c0 c1 c2 z0 z1 z2 y0 y1 y2 w0 w1 w2 q1 q2 q3
       generalize (set3 (wq.setCell ⟨b0,0,none⟩ (.slice (some ⟨g,o+3,none⟩) R.length (cap - 1))) w.heap.size (.int .i64 r.k) (.int .i64 r.c) (.string (ba r.s))).alloc (.cells #[.int .i64 r.k,.int .i64 r.c,.string (ba r.s)] 154)=X at hN hK x0 x1 x2 ⊢
       exact bodyPost_ret (v:=.agg #[.int .i64 r.k,.int .i64 r.c,.string (ba r.s)]) (by simp [results,Tryz.results87,go_sem,x0,x1,x2]) rfl ⟨by rw [hS1.out];rfl,⟨_,_,_,hN,by rw [hS1.out];rfl⟩,hK⟩
      ·have hr':¬(0:Int)<(r.c:Int):=by omega
       have hS1:=hide (show S=real R++sts c.t [] by rw [HS.out,real_cons_zero R hr])
       go_wp2_with fail
       go_roundg (List.length (R:List St)+4*0)
       case rel=>exact ⟨R,c.t,[],rfl,((HT.out).keep ((Kp.refl (fun _=>False) _).alloc _) (fun _ _=>id) (fun _ h=>h.elim)).more (fun k hk=>by have:=S1.out;rcases hk with h|h;exact .inl h;exact .inr (by simp [this];omega)) (fun k hk=>by have:=S1.out;have:=(HK.out).size;rcases hk with h|h;exact ⟨((HF.out).2 k h).1,by have:=((HF.out).2 k h).2;simp;omega⟩;exact ⟨by omega,h.2⟩),hS1,(K1.out).alloc _,(Below.heap_alloc _ _ _ (by rw [S1.out];exact lz)).trans Z1.out⟩
       case measure=>first|omega|(simp at hM ⊢;omega)
    ·have hcc:(cap==1)=false:=by simpa using hc1
     go_wp2_with fail
     go_region_held3 (fun w'=>w'.cell? ⟨b2,0,none⟩=some (.int .i64 a)∧w'.cell? ⟨b1,0,none⟩=some (.slice (some ⟨g,o,none⟩) (Ls.length+1) cap)∧w'.cell? ⟨g,o,none⟩=some (.int .i64 c.f)∧w'.cell? ⟨g,o+1,none⟩=some (.int .i64 c.t)∧w'.cell? ⟨g,o+2,none⟩=some (.string (ba c.s)))
      (first|go_keep|exact ⟨kcb hb3 lc2 c2,kcb hb3 lc1 c1,kcb hb3 hgl q1,kcb hb3 hgl q2,kcb hb3 hgl q3⟩)
      ((go_at_call 88;refine (stepsOfSpan_any a c _ ha1 ha2 (by omega)).mono ?_;rintro e w3 ⟨g3,rfl,hg3,hL3,hb3⟩;have d0:=kcb hb3 lc0 c0;have d1:=((bcell hb3).2 b0 0 lc0).trans z0))
     rename_i hHeld
     obtain ⟨i2,i1,j1,j2,j3⟩:=hHeld
     have hb3':Below wr.heap.size wr w3:=⟨hb3.os,hb3.tape,hb3.output,hb3.size,hb3.block⟩
     have NA:=NS.setA (NS.setR ((HN.out).keep (Kp.ofBelow hb3' (fun _=>False)) (fun _ _=>id) (fun _ h=>h.elim) |>.more (F':=fun k=>F k∨(w.heap.size+1≤k∧k<w3.heap.size)) (fun k hk=>by have:=hb3'.size;rcases hk with h|h;exact .inl h;exact .inr (by omega)) (fun k hk=>by have:=hb3'.size;have:=(HK.out).size;rcases hk with h|h;exact ⟨((HF.out).2 k h).1,by have:=((HF.out).2 k h).2;omega⟩;exact ⟨by omega,h.2⟩)) (.slice (some ⟨g3,0,none⟩) 3 3) (R':=st3 a c) hL3 (fun k hk=>by
       simp only [Value.ownBlock,Option.some.injEq] at hk
       subst hk
       have hg3':wr.heap.size≤g3:=hg3
       have hg4:g3<w3.heap.size:=(IsL.head (r:=stR (.stay (c.f - a))) (L:=[stR (.put c.s),stR (.drop (c.t - c.f))]) hL3).elim (fun b h=>by obtain ⟨o',cap',e,_,_,_,_,_,_,hlt⟩:=h;cases e;exact hlt)
       exact ⟨.inr (by omega),by omega,by omega,by omega⟩)) c.t Ls (.slice (some ⟨g,o+3,none⟩) Ls.length (cap - 1)) (by have:=IsL.tail (r:=raw c) (L:=Ls.map raw) (by rw [List.length_map];exact (HE2.out).below hb3') (some ⟨g,o+3,none⟩) (fun _=>rfl);rw [List.length_map] at this;exact this.keep (Kp.set1 _ b0 0 _) (fun k hk e=>by simp only [Value.ownBlock,Option.some.injEq] at hk;omega)) (fun k hk=>by simp only [Value.ownBlock,Option.some.injEq] at hk;subst hk;exact hgB) ⟨nn,(HOK.out).2.2,hnn⟩ (Nat.le_trans (tot_tail c Ls) tt)
     have KA:=(((Kp.trans (HK.out) (Kp.ofBelow hb3' (fun _=>False)) (fun _ _ h=>h.elim)).setCell (p:=⟨b0,0,none⟩) (fun _=>(HF.out).1.1) (.slice (some ⟨g3,0,none⟩) 3 3)).setCell (p:=⟨b2,0,none⟩) (fun _=>(HF.out).1.2.2) (.int .i64 c.t)).setCell (p:=⟨b1,0,none⟩) (fun _=>(HF.out).1.2.1) (.slice (some ⟨g,o+3,none⟩) Ls.length (cap - 1))
     have ZA:Z3 (((w3.setCell ⟨b0,0,none⟩ (.slice (some ⟨g3,0,none⟩) 3 3)).setCell ⟨b2,0,none⟩ (.int .i64 c.t)).setCell ⟨b1,0,none⟩ (.slice (some ⟨g,o+3,none⟩) Ls.length (cap - 1))) w.heap.size:=heap_set_ne (heap_set_ne (heap_set_ne ((hb3'.block _ lz).trans HZ.out) nz0' _) nz2' _) nz1' _
     have SA:(((w3.setCell ⟨b0,0,none⟩ (.slice (some ⟨g3,0,none⟩) 3 3)).setCell ⟨b2,0,none⟩ (.int .i64 c.t)).setCell ⟨b1,0,none⟩ (.slice (some ⟨g,o+3,none⟩) Ls.length (cap - 1))).heap.size=w3.heap.size:=by simp only [set_size]
     rw [← SA] at NA
     have lw3:b1<(w3.setCell ⟨b0,0,none⟩ (.slice (some ⟨g3,0,none⟩) 3 3)).heap.size:=by rw [set_size];have:=hb3'.size;omega
     have fw2:(w3.setCell ⟨b0,0,none⟩ (.slice (some ⟨g3,0,none⟩) 3 3)).frozen? ⟨b2,0,none⟩=false:=by rw [set_frozen];exact ((bcell hb3').2 b2 0 lc2).trans z2
     have fw1:(w3.setCell ⟨b0,0,none⟩ (.slice (some ⟨g3,0,none⟩) 3 3)).frozen? ⟨b1,0,none⟩=false:=by rw [set_frozen];exact ((bcell hb3').2 b1 0 lc1).trans z1
     have HNA:=hide NA
     have HKA:=hide KA
     have HZA:=hide ZA
     clear NA KA ZA SA hb3 hb3' hg3 hL3 d0 d1 c0 c1 c2 z0 z1 z2 y0 y1 y2 w0 w1 w2 q1 q2 q3 HN HK HZ r1 r3 e1 h2 lc0 lc1 lc2 lz nz0 nz0' nz1 nz1' nz2 nz2' HE2
     go_upto_region 6 with fail
     generalize ((w3.setCell ⟨b0,0,none⟩ (.slice (some ⟨g3,0,none⟩) 3 3)).setCell ⟨b2,0,none⟩ (.int .i64 c.t)).setCell ⟨b1,0,none⟩ (.slice (some ⟨g,o+3,none⟩) Ls.length (cap - 1))=wq at HNA HKA HZA ⊢
     obtain ⟨r,R,hRR,hR2⟩:∃ r R,st3 a c=r::R∧R.length=2:=⟨_,_,rfl,rfl⟩
     have HSB:=hide (show S=real (r::R)++sts c.t Ls by rw [← hRR];exact HS.out)
     rw [hRR] at HNA
     have hM:R.length+4*List.length (Ls:List Sp)<gk:=by first|omega|(simp at hg ⊢;omega)
     clear i2 i1 j1 j2 j3 fw1 fw2 lw3 f n1 n2 n3 tt hRR hR2 hg
     clear HS
     have HS:=HSB
     have HN:=HNA
     have HK:=HKA
     have HZ:=HZA
     clear HSB HNA HKA HZA
     obtain ⟨⟨rv,r1,r2,r3⟩,⟨ev,e1,e2,e3⟩,h2,f,lt,ne,ok,tt⟩:=HN.out
     have c0:wq.cell? ⟨b0,0,none⟩=some rv:=by rw [Lib.cell_of_heap r1];rfl
     have c1:wq.cell? ⟨b1,0,none⟩=some ev:=by rw [Lib.cell_of_heap e1];rfl
     have c2:wq.cell? ⟨b2,0,none⟩=some (.int .i64 c.t):=by rw [Lib.cell_of_heap h2];rfl
     have z0:wq.frozen? ⟨b0,0,none⟩=false:=Lib.frozen_of_heap r1 0
     have z1:wq.frozen? ⟨b1,0,none⟩=false:=Lib.frozen_of_heap e1 0
     have z2:wq.frozen? ⟨b2,0,none⟩=false:=Lib.frozen_of_heap h2 0
     obtain ⟨y0,y1,y2,w0,w1,w2⟩:=(HZ.out).facts
     have lz:w.heap.size<wq.heap.size:=heap_lt HZ.out
     obtain ⟨n1,n2,n3⟩:=ne
     have lc0:b0<wq.heap.size:=by omega
     have lc1:b1<wq.heap.size:=by omega
     have lc2:b2<wq.heap.size:=by omega
     have nz0:¬ b0=w.heap.size:=by omega
     have nz0':¬ w.heap.size=b0:=by omega
     have nz1:¬ b1=w.heap.size:=by omega
     have nz1':¬ w.heap.size=b1:=by omega
     have nz2:¬ b2=w.heap.size:=by omega
     have nz2':¬ w.heap.size=b2:=by omega
     obtain ⟨g,o,cap,rfl,k1,k2,k3,q1,q2,q3,hgl⟩:=IsL.head (r:=stR r) (L:=R.map stR) r2
     obtain ⟨m1,m2,m3,m4⟩:=r3 g rfl
     obtain ⟨ao',hao,hap⟩:∃ p:Nat,(cap=1→p=o)∧(cap≠1→p=o+3):=by
      by_cases hc:cap=1
      ·exact ⟨o,fun _=>rfl,fun h=>absurd hc h⟩
      ·exact ⟨o+3,fun h=>absurd h hc,fun _=>rfl⟩
     have HT:=hide (NS.setR (HN.out) (.slice (some ⟨g,ao',none⟩) R.length (cap - 1)) (R':=R) (by
      have:=IsL.tail (r:=stR r) (L:=R.map stR) r2 (some ⟨g,ao',none⟩) (fun hne=>by
       have:0<(R.map stR).length:=List.length_pos_iff.2 hne
       rw [hap (by omega)])
      rwa [List.length_map] at this) (fun k hk=>by simp only [Value.ownBlock,Option.some.injEq] at hk;subst hk;exact ⟨m1,m2,m3,m4⟩))
     simp only [List.length_map] at k1 k3 c0
     simp only [stR] at q1 q2 q3
     have K1:=hide ((HK.out).setCell (p:=⟨b0,0,none⟩) (fun _=>(HF.out).1.1) (.slice (some ⟨g,ao',none⟩) R.length (cap - 1)))
     have Z1:=hide (show Z3 (wq.setCell ⟨b0,0,none⟩ (.slice (some ⟨g,ao',none⟩) R.length (cap - 1))) w.heap.size from heap_set_ne HZ.out nz0' _)
     have S1:=hide (set_size wq ⟨b0,0,none⟩ (.slice (some ⟨g,ao',none⟩) R.length (cap - 1)))
     clear r1 r2 r3 e1 e2 e3 lt h2
     by_cases hc1:cap=1
     ·obtain rfl:=hao hc1
      subst hc1
      obtain rfl:R=[]:=List.length_eq_zero_iff.1 (by omega)
      simp only [Nat.sub_self,List.length_nil] at HT K1 Z1 S1
      by_cases hr:0<r.c
      ·have hr':(0:Int)<(r.c:Int):=by omega
       have hS1:=hide (show S=r::(real []++sts c.t Ls) by rw [HS.out,real_cons_pos [] hr];rfl)
       go_wp2_with fail
       obtain ⟨hN,hK,x0,x1,x2⟩:=next_end HT.out (HF.out).2 hB S1.out K1.out Z1.out (.int .i64 r.k) (.int .i64 r.c) (.string (ba r.s)) ((Kp.refl _ _).alloc (.cells #[.int .i64 r.k,.int .i64 r.c,.string (ba r.s)] 154))
       change bodyPost _ _ _ _ _ ((set3 (wq.setCell ⟨b0,0,none⟩ (.slice (some ⟨g,ao',none⟩) 0 0)) w.heap.size (.int .i64 r.k) (.int .i64 r.c) (.string (ba r.s))).alloc (.cells #[.int .i64 r.k,.int .i64 r.c,.string (ba r.s)] 154))
       clear c0 c1 c2 z0 z1 z2 y0 y1 y2 w0 w1 w2 q1 q2 q3
       generalize (set3 (wq.setCell ⟨b0,0,none⟩ (.slice (some ⟨g,ao',none⟩) 0 0)) w.heap.size (.int .i64 r.k) (.int .i64 r.c) (.string (ba r.s))).alloc (.cells #[.int .i64 r.k,.int .i64 r.c,.string (ba r.s)] 154)=X at hN hK x0 x1 x2 ⊢
       exact bodyPost_ret (v:=.agg #[.int .i64 r.k,.int .i64 r.c,.string (ba r.s)]) (by simp [results,Tryz.results87,go_sem,x0,x1,x2]) rfl ⟨by rw [hS1.out];rfl,⟨_,_,_,hN,by rw [hS1.out];rfl⟩,hK⟩
      ·have hr':¬(0:Int)<(r.c:Int):=by omega
       have hS1:=hide (show S=real []++sts c.t Ls by rw [HS.out,real_cons_zero [] hr])
       go_wp2_with fail
       go_roundg (List.length ([]:List St)+4*Ls.length)
       case rel=>exact ⟨[],c.t,Ls,rfl,((HT.out).keep ((Kp.refl (fun _=>False) _).alloc _) (fun _ _=>id) (fun _ h=>h.elim)).more (fun k hk=>by have:=S1.out;rcases hk with h|h;exact .inl h;exact .inr (by simp [this];omega)) (fun k hk=>by have:=S1.out;have:=(HK.out).size;rcases hk with h|h;exact ⟨((HF.out).2 k h).1,by have:=((HF.out).2 k h).2;simp;omega⟩;exact ⟨by omega,h.2⟩),hS1,(K1.out).alloc _,(Below.heap_alloc _ _ _ (by rw [S1.out];exact lz)).trans Z1.out⟩
       case measure=>first|omega|(simp at hM ⊢;omega)
     ·obtain rfl:=hap hc1
      have hcc:(cap==1)=false:=by simpa using hc1
      by_cases hr:0<r.c
      ·have hr':(0:Int)<(r.c:Int):=by omega
       have hS1:=hide (show S=r::(real R++sts c.t Ls) by rw [HS.out,real_cons_pos R hr];rfl)
       go_wp2_with fail
       obtain ⟨hN,hK,x0,x1,x2⟩:=next_end HT.out (HF.out).2 hB S1.out K1.out Z1.out (.int .i64 r.k) (.int .i64 r.c) (.string (ba r.s)) ((Kp.refl _ _).alloc (.cells #[.int .i64 r.k,.int .i64 r.c,.string (ba r.s)] 154))
       change bodyPost _ _ _ _ _ ((set3 (wq.setCell ⟨b0,0,none⟩ (.slice (some ⟨g,o+3,none⟩) R.length (cap - 1))) w.heap.size (.int .i64 r.k) (.int .i64 r.c) (.string (ba r.s))).alloc (.cells #[.int .i64 r.k,.int .i64 r.c,.string (ba r.s)] 154))
       clear c0 c1 c2 z0 z1 z2 y0 y1 y2 w0 w1 w2 q1 q2 q3
       generalize (set3 (wq.setCell ⟨b0,0,none⟩ (.slice (some ⟨g,o+3,none⟩) R.length (cap - 1))) w.heap.size (.int .i64 r.k) (.int .i64 r.c) (.string (ba r.s))).alloc (.cells #[.int .i64 r.k,.int .i64 r.c,.string (ba r.s)] 154)=X at hN hK x0 x1 x2 ⊢
       exact bodyPost_ret (v:=.agg #[.int .i64 r.k,.int .i64 r.c,.string (ba r.s)]) (by simp [results,Tryz.results87,go_sem,x0,x1,x2]) rfl ⟨by rw [hS1.out];rfl,⟨_,_,_,hN,by rw [hS1.out];rfl⟩,hK⟩
      ·have hr':¬(0:Int)<(r.c:Int):=by omega
       have hS1:=hide (show S=real R++sts c.t Ls by rw [HS.out,real_cons_zero R hr])
       go_wp2_with fail
       go_roundg (List.length (R:List St)+4*Ls.length)
       case rel=>exact ⟨R,c.t,Ls,rfl,((HT.out).keep ((Kp.refl (fun _=>False) _).alloc _) (fun _ _=>id) (fun _ h=>h.elim)).more (fun k hk=>by have:=S1.out;rcases hk with h|h;exact .inl h;exact .inr (by simp [this];omega)) (fun k hk=>by have:=S1.out;have:=(HK.out).size;rcases hk with h|h;exact ⟨((HF.out).2 k h).1,by have:=((HF.out).2 k h).2;simp;omega⟩;exact ⟨by omega,h.2⟩),hS1,(K1.out).alloc _,(Below.heap_alloc _ _ _ (by rw [S1.out];exact lz)).trans Z1.out⟩
       case measure=>first|omega|(simp at hM ⊢;omega)
  | cons r R =>
   have hM:R.length+4*Ls.length<gk:=by first|omega|(simp at hg;omega)
   obtain ⟨g,o,cap,rfl,k1,k2,k3,q1,q2,q3,hgl⟩:=IsL.head (r:=stR r) (L:=R.map stR) r2
   obtain ⟨m1,m2,m3,m4⟩:=r3 g rfl
   obtain ⟨ao',hao,hap⟩:∃ p:Nat,(cap=1→p=o)∧(cap≠1→p=o+3):=by
    by_cases hc:cap=1
    ·exact ⟨o,fun _=>rfl,fun h=>absurd hc h⟩
    ·exact ⟨o+3,fun h=>absurd h hc,fun _=>rfl⟩
   have HT:=hide (NS.setR (HN.out) (.slice (some ⟨g,ao',none⟩) R.length (cap - 1)) (R':=R) (by
    have:=IsL.tail (r:=stR r) (L:=R.map stR) r2 (some ⟨g,ao',none⟩) (fun hne=>by
     have:0<(R.map stR).length:=List.length_pos_iff.2 hne
     rw [hap (by omega)])
    rwa [List.length_map] at this) (fun k hk=>by simp only [Value.ownBlock,Option.some.injEq] at hk;subst hk;exact ⟨m1,m2,m3,m4⟩))
   simp only [List.length_map] at k1 k3 c0
   simp only [stR] at q1 q2 q3
   have K1:=hide ((HK.out).setCell (p:=⟨b0,0,none⟩) (fun _=>(HF.out).1.1) (.slice (some ⟨g,ao',none⟩) R.length (cap - 1)))
   have Z1:=hide (show Z3 (wr.setCell ⟨b0,0,none⟩ (.slice (some ⟨g,ao',none⟩) R.length (cap - 1))) w.heap.size from heap_set_ne HZ.out nz0' _)
   have S1:=hide (set_size wr ⟨b0,0,none⟩ (.slice (some ⟨g,ao',none⟩) R.length (cap - 1)))
   clear r1 r2 r3 e1 e2 e3 lt h2
   by_cases hc1:cap=1
   ·obtain rfl:=hao hc1
    subst hc1
    obtain rfl:R=[]:=List.length_eq_zero_iff.1 (by omega)
    simp only [Nat.sub_self,List.length_nil] at HT K1 Z1 S1
    by_cases hr:0<r.c
    ·have hr':(0:Int)<(r.c:Int):=by omega
     have hS1:=hide (show S=r::(real []++sts a Ls) by rw [HS.out,real_cons_pos [] hr];rfl)
     go_wp2_with fail
     obtain ⟨hN,hK,x0,x1,x2⟩:=next_end HT.out (HF.out).2 hB S1.out K1.out Z1.out (.int .i64 r.k) (.int .i64 r.c) (.string (ba r.s)) ((Kp.refl _ _).alloc (.cells #[.int .i64 r.k,.int .i64 r.c,.string (ba r.s)] 154))
     change bodyPost _ _ _ _ _ ((set3 (wr.setCell ⟨b0,0,none⟩ (.slice (some ⟨g,ao',none⟩) 0 0)) w.heap.size (.int .i64 r.k) (.int .i64 r.c) (.string (ba r.s))).alloc (.cells #[.int .i64 r.k,.int .i64 r.c,.string (ba r.s)] 154))
     clear c0 c1 c2 z0 z1 z2 y0 y1 y2 w0 w1 w2 q1 q2 q3
     generalize (set3 (wr.setCell ⟨b0,0,none⟩ (.slice (some ⟨g,ao',none⟩) 0 0)) w.heap.size (.int .i64 r.k) (.int .i64 r.c) (.string (ba r.s))).alloc (.cells #[.int .i64 r.k,.int .i64 r.c,.string (ba r.s)] 154)=X at hN hK x0 x1 x2 ⊢
     exact bodyPost_ret (v:=.agg #[.int .i64 r.k,.int .i64 r.c,.string (ba r.s)]) (by simp [results,Tryz.results87,go_sem,x0,x1,x2]) rfl ⟨by rw [hS1.out];rfl,⟨_,_,_,hN,by rw [hS1.out];rfl⟩,hK⟩
    ·have hr':¬(0:Int)<(r.c:Int):=by omega
     have hS1:=hide (show S=real []++sts a Ls by rw [HS.out,real_cons_zero [] hr])
     go_wp2_with fail
     go_roundg (List.length ([]:List St)+4*Ls.length)
     case rel=>exact ⟨[],a,Ls,rfl,((HT.out).keep ((Kp.refl (fun _=>False) _).alloc _) (fun _ _=>id) (fun _ h=>h.elim)).more (fun k hk=>by have:=S1.out;rcases hk with h|h;exact .inl h;exact .inr (by simp [this];omega)) (fun k hk=>by have:=S1.out;have:=(HK.out).size;rcases hk with h|h;exact ⟨((HF.out).2 k h).1,by have:=((HF.out).2 k h).2;simp;omega⟩;exact ⟨by omega,h.2⟩),hS1,(K1.out).alloc _,(Below.heap_alloc _ _ _ (by rw [S1.out];exact lz)).trans Z1.out⟩
     case measure=>first|omega|(simp at hM ⊢;omega)
   ·obtain rfl:=hap hc1
    have hcc:(cap==1)=false:=by simpa using hc1
    by_cases hr:0<r.c
    ·have hr':(0:Int)<(r.c:Int):=by omega
     have hS1:=hide (show S=r::(real R++sts a Ls) by rw [HS.out,real_cons_pos R hr];rfl)
     go_wp2_with fail
     obtain ⟨hN,hK,x0,x1,x2⟩:=next_end HT.out (HF.out).2 hB S1.out K1.out Z1.out (.int .i64 r.k) (.int .i64 r.c) (.string (ba r.s)) ((Kp.refl _ _).alloc (.cells #[.int .i64 r.k,.int .i64 r.c,.string (ba r.s)] 154))
     change bodyPost _ _ _ _ _ ((set3 (wr.setCell ⟨b0,0,none⟩ (.slice (some ⟨g,o+3,none⟩) R.length (cap - 1))) w.heap.size (.int .i64 r.k) (.int .i64 r.c) (.string (ba r.s))).alloc (.cells #[.int .i64 r.k,.int .i64 r.c,.string (ba r.s)] 154))
     clear c0 c1 c2 z0 z1 z2 y0 y1 y2 w0 w1 w2 q1 q2 q3
     generalize (set3 (wr.setCell ⟨b0,0,none⟩ (.slice (some ⟨g,o+3,none⟩) R.length (cap - 1))) w.heap.size (.int .i64 r.k) (.int .i64 r.c) (.string (ba r.s))).alloc (.cells #[.int .i64 r.k,.int .i64 r.c,.string (ba r.s)] 154)=X at hN hK x0 x1 x2 ⊢
     exact bodyPost_ret (v:=.agg #[.int .i64 r.k,.int .i64 r.c,.string (ba r.s)]) (by simp [results,Tryz.results87,go_sem,x0,x1,x2]) rfl ⟨by rw [hS1.out];rfl,⟨_,_,_,hN,by rw [hS1.out];rfl⟩,hK⟩
    ·have hr':¬(0:Int)<(r.c:Int):=by omega
     have hS1:=hide (show S=real R++sts a Ls by rw [HS.out,real_cons_zero R hr])
     go_wp2_with fail
     go_roundg (List.length (R:List St)+4*Ls.length)
     case rel=>exact ⟨R,a,Ls,rfl,((HT.out).keep ((Kp.refl (fun _=>False) _).alloc _) (fun _ _=>id) (fun _ h=>h.elim)).more (fun k hk=>by have:=S1.out;rcases hk with h|h;exact .inl h;exact .inr (by simp [this];omega)) (fun k hk=>by have:=S1.out;have:=(HK.out).size;rcases hk with h|h;exact ⟨((HF.out).2 k h).1,by have:=((HF.out).2 k h).2;simp;omega⟩;exact ⟨by omega,h.2⟩),hS1,(K1.out).alloc _,(Below.heap_alloc _ _ _ (by rw [S1.out];exact lz)).trans Z1.out⟩
     case measure=>first|omega|(simp at hM ⊢;omega)
end Go.Proofs.YtbmebfgapjhchaaGreatDoor.Ed
/- The writer of plain spans does a step. -/
namespace Go.Proofs.YtbmebfgapjhchaaGreatDoor.Ed
open Go.RowKit
open EM
def SB (w:World) (k:Nat) (s:St):Prop:=w.heap[k]?=some (.cells #[.int .i64 s.k,.int .i64 s.c,.string (ba s.s)] 154 (0,0))
theorem SB.cells {w:World} {k:Nat} {s:St} (h:SB w k s):w.cell? ⟨k,0,none⟩=some (.int .i64 s.k)∧w.cell? ⟨k,1,none⟩=some (.int .i64 s.c)∧w.cell? ⟨k,2,none⟩=some (.string (ba s.s))∧k<w.heap.size:=by
 unfold SB at h
 exact ⟨by rw [Lib.cell_of_heap h];rfl,by rw [Lib.cell_of_heap h];rfl,by rw [Lib.cell_of_heap h];rfl,heap_lt h⟩
end Go.Proofs.YtbmebfgapjhchaaGreatDoor.Ed
