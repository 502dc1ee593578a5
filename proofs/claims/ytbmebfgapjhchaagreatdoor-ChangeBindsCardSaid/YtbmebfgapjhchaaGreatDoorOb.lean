/- The tokens of a text that is kept: a copy. -/
import Derived.Test.YtbmebfgapjhchaaGreatDoorTa
import Derived.Laws.AppendOwn
import Derived.Deep.AppendLies
import Derived.Lib.SliceRun
namespace Go.Proofs.YtbmebfgapjhchaaGreatDoor
open Go.RowKit
open M
theorem tkv_one (L:List Tk):∀ u∈L.flatMap tkv,u.oneCell'=true:=by
 intro u hu
 obtain ⟨t,-,ht⟩:=List.mem_flatMap.1 hu
 unfold tkv at ht
 simp only [List.mem_cons,List.not_mem_nil,or_false] at ht
 rcases ht with rfl|rfl|rfl<;>rfl
theorem tkv_len (L:List Tk):(L.flatMap tkv).length=L.length*3:=by
 induction L with
 | nil=>rfl
 | cons t L ih=>rw [List.flatMap_cons,List.length_append,ih,List.length_cons];unfold tkv;simp;omega
theorem tkv_at (L:List Tk):∀ (j:Nat) (u:Value),(L.flatMap tkv)[j]?=some u→∃ i t r,L[i]?=some t∧j=i*3+r∧((r=0∧u=.int .i64 t.kind)∨(r=1∧u=.int .i64 t.pos)∨(r=2∧u=.int .i64 t.len)):=by
 induction L with
 | nil=>intro j u h;simp at h
 | cons t L ih =>
  intro j u h
  rw [List.flatMap_cons] at h
  by_cases hj:j<3
  ·rw [List.getElem?_append_left (by unfold tkv;simpa using hj)] at h
   refine ⟨0,t,j,rfl,by omega,?_⟩
   unfold tkv at h
   rcases (by omega:j=0∨j=1∨j=2) with rfl|rfl|rfl
   ·exact .inl ⟨rfl,by simpa using h.symm⟩
   ·exact .inr (.inl ⟨rfl,by simpa using h.symm⟩)
   ·exact .inr (.inr ⟨rfl,by simpa using h.symm⟩)
  ·rw [List.getElem?_append_right (by unfold tkv;simp;omega)] at h
   obtain ⟨i,t',r,h1,h2,h3⟩:=ih _ _ h
   refine ⟨i+1,t',r,by simpa using h1,?_,h3⟩
   unfold tkv at h2;simp at h2;omega
theorem IsT.cells {w:World} {b o n cap:Nat} {L:List Tk} (h:IsT w (.slice (some ⟨b,o,none⟩) n cap) L):∀ j u,(L.flatMap tkv)[j]?=some u→w.cell? ⟨b,o+j,none⟩=some u:=by
 obtain ⟨ao,cap',e,h1,h2,h3⟩:=h
 injection e with e1 e2 e3
 subst e1
 intro j u hu
 obtain ⟨i,t,r,q1,q2,q3⟩:=tkv_at L j u hu
 have hi:i<L.length:=by
  rcases Nat.lt_or_ge i L.length with g|g
  ·exact g
  ·rw [List.getElem?_eq_none g] at q1;cases q1
 obtain ⟨b',o',e',ha⟩:=h3 i hi
 injection e' with e'
 injection e' with e1 e2 e3
 subst e1;subst e2
 obtain ⟨a1,a2,a3⟩:=ha t q1
 rcases q3 with ⟨rfl,rfl⟩|⟨rfl,rfl⟩|⟨rfl,rfl⟩
 ·rw [q2];exact a1
 ·rw [q2,← Nat.add_assoc];exact a2
 ·rw [q2,← Nat.add_assoc];exact a3
set_option maxRecDepth 100000 in
set_option maxHeartbeats 4000000 in
theorem clone_any (v:Value) (L:List Tk) (w:World) (h:IsT w v L) (hL:L.length≤1073741824) :
  Calls Tryz.prog 99 #[v] w fun e w'=>∃ v',e=.returned v'∧Hid (w'.ownsRow w.heap.size 99 3 v' L.length (L.flatMap tkv))∧Below w.heap.size w w':=by
 obtain ⟨i0,hi0,hz0,hz1,hz2⟩:=info_parts info29
 have q22:∀ (w:World) (a:Option Addr) (n c n' c':Nat),(binOp .eql 185 (.slice a n c) (.slice none n' c')).run Tryz.prog w=.ok (.bool a.isNone) w:=fun w a n c n' c'=>Lib.run_eql_slice_nil w _ _ a n c n' c' Tryz.underlying185
 have H:=hide h
 obtain ⟨ao,cap,rfl,hc1,hc2,h3⟩:=h
 cases ao with
 | none =>
  have h0:L=[]:=by
   rcases Nat.eq_zero_or_pos L.length with g|g
   ·exact List.length_eq_zero_iff.1 g
   ·obtain ⟨b,o,e,-⟩:=h3 0 g;cases e
  subst h0
  clear h3
  go_enter Tryz.func99,Tryz.ntmps99
  go_wp2_with fail
  go_ret
  exact ⟨_,rfl,World.ownsRow_nil _ _ _ _,Below.refl _ _⟩
 | some ad =>
  have HN:Hid (∀ j u,(L.flatMap tkv)[j]?=some u→w.cell? (ad.add j)=some u):=by
   intro j u hu
   obtain ⟨i,t,r,q1,-⟩:=tkv_at L j u hu
   have hi:i<L.length:=by
    rcases Nat.lt_or_ge i L.length with g|g
    ·exact g
    ·rw [List.getElem?_eq_none g] at q1;cases q1
   obtain ⟨b,o,e,-⟩:=h3 i hi
   injection e with e;subst e
   rw [Addr.add_lit]
   exact (H.out).cells j u hu
  clear h3
  go_enter Tryz.func99,Tryz.ntmps99
  go_wp2_with (at_builtin;refine wpList_append_own _ rfl _ _ 185 rfl w.heap.size 99 i0 _ 3 24 Tryz.underlying185 hi0 hz0 hz1 hz2 rfl (by decide) _ _ _ rfl (World.ownsRow_made w #[] 0 (Nat.le_refl _) (Nat.zero_le _) (by simp)) ad L.length cap (L.flatMap tkv) rfl ?qc1 ?qc2 ?qc3 ?qc4 ?qc5 ?qc6 ?_)
  case qc1=>exact tkv_len L
  case qc2=>intro j u hj;exact Lib.cell?_alloc_some _ (HN.out j u hj)
  case qc3=>exact tkv_one L
  case qc4=>rw [Nat.zero_add];omega
  case qc5=>rw [Nat.zero_add];omega
  case qc6=>simp
  intro v' w1 hown hgrow hnil
  go_wp2
  go_ret
  refine ⟨v',rfl,by show w1.ownsRow _ _ _ _ _ _;simpa using hown,?_⟩
  exact ((Below.refl _ w).alloc (Nat.le_refl _) _).grown hgrow (by simp) (by intro k hk;simp [Value.ownBlock] at hk;omega)
set_option maxRecDepth 100000 in
set_option maxHeartbeats 4000000 in
theorem docTokens_any (b:Nat) (v:Value) (s:ByteArray) (w:World) (h:IsD w b v s) (hs:s.size≤1073741824) :
  Calls Tryz.prog 77 #[.pointer (some ⟨b,0,none⟩)] w fun e w'=>∃ v',e=.returned v'∧Hid (w'.ownsRow w.heap.size 99 3 v' (toks 0 (bs s)).length ((toks 0 (bs s)).flatMap tkv))∧Below w.heap.size w w':=by
 obtain ⟨q1,q2,hr⟩:=h
 have hl:=toks_len _ 0 (bs s) (Nat.le_refl _)
 rw [bs_len] at hl
 have HC:=hide (clone_any v _ w hr (by omega))
 clear hr
 go_enter Tryz.func77,Tryz.ntmps77
 go_wp2_with fail
 refine (HC.out).mono ?_
 rintro e w1 ⟨v',rfl,HO,k1⟩
 go_wp2_with fail
 go_ret
 exact ⟨v',rfl,HO,k1⟩
end Go.Proofs.YtbmebfgapjhchaaGreatDoor
