/- A Builder in a block of its own: it is written to,and what else there is stays. -/
import Derived.Test.YtbmebfgapjhchaaGreatDoorEdBa
import Derived.Test.YtbmebfgapjhchaaGreatDoorEdSa
namespace Go.Proofs.YtbmebfgapjhchaaGreatDoor.Ed
open Go.RowKit
open EM
set_option maxHeartbeats 1000000 in
set_option maxRecDepth 100000 in
theorem copyCheck_own (b:Nat) (w:World) (h0:w.cell? ⟨b,0,none⟩=some (.pointer (some ⟨b,0,none⟩))) :
  Calls Tryz.prog 85 #[.pointer (some ⟨b,0,none⟩)] w fun e w'=>e=.returned (.tuple #[])∧w'=w:=by
 obtain ⟨j,hj,_⟩:=Option.map_eq_some_iff.1 sizeBuilder
 go_enter Tryz.func85,Tryz.ntmps85
 go_wp2
 rw [Lib.run_neq_ptr_same w _ Tryz.underlying147 hj]
 go_wp2
 go_end0
 exact ⟨rfl,rfl⟩
structure IsO (B:Nat) (w:World) (b:Nat) (l:List UInt8) (F:Nat→Prop):Prop where
 at_:Lib.BuilderAt 150 5 B b (.pointer (some ⟨b,0,none⟩)) (Lib.byteCells l) w
 f:F b
 own:∀ v,w.heap[b]?=some (.cells #[.pointer (some ⟨b,0,none⟩),v] 150 (0,0))→∀ k,v.ownBlock=some k→F k
 lt:∀ k,F k→B≤k∧k<w.heap.size
theorem IsO.keep {T F:Nat→Prop} {B:Nat} {w w':World} {b:Nat} {l:List UInt8} (h:IsO B w b l F) (hk:Kp T w w') (hd:∀ k,F k→¬ T k):IsO B w' b l F:=by
 obtain ⟨hB,v,hb,hown,hne⟩:=h.at_
 have hb':=hk.heap hb (hd b h.f)
 refine ⟨⟨hB,v,hb',hk.owns hown (fun k hk'=>hd k (h.own v hb k hk')),hne⟩,h.f,fun v' hv' k hk'=>?_,fun k hk'=>⟨(h.lt k hk').1,Nat.lt_of_lt_of_le (h.lt k hk').2 hk.size⟩⟩
 rw [hb'] at hv'
 cases hv'
 exact h.own v hb k hk'
theorem byteCells_len (l:List UInt8):(Lib.byteCells l).length=l.length:=by simp [Lib.byteCells]
set_option maxHeartbeats 2000000 in
set_option maxRecDepth 100000 in
theorem writeO (B b:Nat) (w:World) (l:List UInt8) (s:ByteArray) (F:Nat→Prop) (h:IsO B w b l F) (h0:0<s.size) (hlen:l.length+s.size≤140737488355328) :
  Calls Tryz.prog 61 #[.pointer (some ⟨b,0,none⟩),.string s] w fun e w'=>e=.returned (.tuple #[.int .i64 s.size,.nilIface])∧IsO B w' b (l++bs s) (fun k=>F k∨(w.heap.size≤k∧k<w'.heap.size))∧Kp F w w':=by
 obtain ⟨i0,hi,hz0,hz1,hz2⟩:=info_parts info5
 have H:=hide h
 obtain ⟨hB,bv,hb,hown0,hne⟩:=h.at_
 rw [byteCells_len] at hown0
 have hbl:=heap_lt hb
 have hBw:B≤w.heap.size:=by omega
 have HB:=hide hb
 have c0:w.cell? ⟨b,0,none⟩=some (.pointer (some ⟨b,0,none⟩)):=by rw [Lib.cell_of_heap hb];rfl
 have c1:w.cell? ⟨b,1,none⟩=some bv:=by rw [Lib.cell_of_heap hb];rfl
 have f1:w.frozen? ⟨b,1,none⟩=false:=Lib.frozen_of_heap hb 1
 clear hb h
 go_enter Tryz.func61,Tryz.ntmps61
 go_wp2_with fail
 refine (copyCheck_own b w c0).mono ?_
 rintro e w1 ⟨rfl,hw1⟩
 rw [hw1]
 clear hw1 w1
 go_wp2_with (at_builtin;refine wpList_append_str_at _ rfl _ _ 148 9 rfl B 5 i0 Tryz.underlying148 Tryz.underlying9 hi hz0 hz1 hz2 _ _ _ rfl hown0 s rfl h0 hlen hBw ?_)
 intro g cap w2 hown' hgrow hat
 have hb2:w2.heap[b]?=some (.cells #[.pointer (some ⟨b,0,none⟩),bv] 150 (0,0)):=(hgrow.block b hbl (fun e=>hne e.symm)).trans HB.out
 have d1:w2.cell? ⟨b,1,none⟩=some bv:=by rw [Lib.cell_of_heap hb2];rfl
 have g1:w2.frozen? ⟨b,1,none⟩=false:=Lib.frozen_of_heap hb2 1
 go_wp2
 go_ret2
 have hgb:g≠b:=by
  rcases hat with hg|hg
  ·rintro rfl;exact hne hg
  ·omega
 have hg2:g<w2.heap.size:=by
  rcases hown'.2 with ⟨hh,_⟩|⟨g',_,_,hv,_,hgg,_⟩
  ·cases hh
  ·cases hv;exact heap_lt hgg
 have hset:(w2.setCell ⟨b,1,none⟩ (.slice (some ⟨g,0,none⟩) (l.length+s.size) cap)).heap[b]?=some (.cells #[.pointer (some ⟨b,0,none⟩),.slice (some ⟨g,0,none⟩) (l.length+s.size) cap] 150 (0,0)):=by
  simp [World.setCell,Array.getElem?_modify,hb2]
 have e1:Lib.byteCells (l++bs s)=Lib.byteCells l++Lib.strCells s:=by
  have:Lib.strCells s=Lib.byteCells (bs s):=rfl
  rw [this];simp [Lib.byteCells]
 have zs:=hgrow.size
 refine ⟨rfl,⟨⟨hB,_,hset,?_,by simpa [Value.ownBlock] using hgb⟩,.inl (H.out).f,?_,?_⟩,?_⟩
 ·rw [byteCells_len,e1,List.length_append,bs_len]
  exact (Kp.one w2 b 1 _).owns hown' (fun k hk e=>by simp only [Value.ownBlock,Option.some.injEq] at hk;omega)
 ·intro v' hv' k hk
  rw [hset] at hv'
  cases hv'
  simp only [Value.ownBlock,Option.some.injEq] at hk
  subst hk
  rcases hat with hg|hg
  ·exact .inl ((H.out).own _ HB.out _ hg)
  ·exact .inr ⟨by omega,by rw [set_size];exact hg2⟩
 ·intro k hk
  rw [set_size] at hk ⊢
  rcases hk with hk|hk
  ·exact ⟨((H.out).lt k hk).1,Nat.lt_of_lt_of_le ((H.out).lt k hk).2 zs⟩
  ·exact ⟨by omega,hk.2⟩
 ·have k2:Kp F w w2:=(Kp.refl F w).grown hgrow (fun k hk _=>(H.out).own _ HB.out _ hk)
  exact k2.setCell (p:=⟨b,1,none⟩) (fun _=>(H.out).f) _
theorem growO (n:Nat) (w:World) (b:Nat) (hb:w.heap[b]?=some (.cells #[.pointer none,.slice none 0 0] 150 (0,0))) (hn:n≤281474976710656) :
  Calls Tryz.prog 59 #[.pointer (some ⟨b,0,none⟩),.int .i64 n] w fun e w'=>e=.returned (.tuple #[])∧IsO b w' b [] (fun k=>b≤k∧k<w'.heap.size)∧Below b w w':=by
 have hl:=heap_lt hb
 refine (Tryz.Builder_Grow_fresh b b n w (Nat.le_refl _) hb (by omega) hn).mono ?_
 rintro e w' ⟨rfl,hat,hbe⟩
 have hz:=hbe.size
 refine ⟨rfl,⟨hat,⟨Nat.le_refl _,by omega⟩,?_,fun k hk=>hk⟩,hbe⟩
 intro v hv k hk
 obtain ⟨_,v',hv',hown,_⟩:=hat
 rw [hv] at hv'
 cases hv'
 rcases hown.2 with ⟨rfl,_⟩|⟨g,cap,cur,rfl,hbg,hg,_⟩
 ·simp [Value.ownBlock] at hk
 ·simp only [Value.ownBlock,Option.some.injEq] at hk
  subst hk
  exact ⟨hbg,heap_lt hg⟩
end Go.Proofs.YtbmebfgapjhchaaGreatDoor.Ed
