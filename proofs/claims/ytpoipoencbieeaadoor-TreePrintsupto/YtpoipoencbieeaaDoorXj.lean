/- A branch within a branch. -/
import Derived.Test.YtpoipoencbieeaaDoorXh
namespace Go.Proofs.YtpoipoencbieeaaDoor
open Go.RowKit
open M

/-- A branch that is finished is a part. -/
theorem Wk.part {w : World} {rb : Nat} {s : ByteArray} {L : List Tk} {tv : Value} {a dp N k : Nat} {rv : Value} {vs : List Value} {ps : List X.Part} {D : Nat → Prop} (h : Wk w rb s L tv a dp N k rv vs ps D) :
    IsP w (fun q => D q ∨ q = N ∨ rv.ownBlock = some q) (.iface 33 (.pointer (some ⟨N, 0, none⟩))) (.br k ps) := by
  have hm : ∀ q, D q → (D q ∨ q = N ∨ rv.ownBlock = some q) := fun q hq => .inl hq
  obtain ⟨hb, hr⟩ := h.bra
  have hl := h.len
  rcases hr.2 with ⟨rfl, h0⟩ | ⟨g, cap, cur, rfl, -, hg, hn, hmx, hsz, ht⟩
  · have hp : ps = [] := List.length_eq_zero_iff.1 (by omega)
    subst hp
    exact .br k N 0 none (fun _ => undef) [] (.inr (.inl rfl)) hb ⟨Nat.le_refl _, by unfold maxLen; omega⟩ (fun i hi => by simp at hi) (fun i p hp => by simp at hp)
  · rw [hl] at hb hn
    refine .br k N cap (some ⟨g, 0, none⟩) (fun i => vs.getD i undef) ps (.inr (.inl rfl)) hb ⟨hn, hmx⟩ (fun i hi => ⟨g, rfl, .inr (.inr rfl), ?_⟩) (fun i p hp => ?_)
    · have hv : vs[i]? = some (vs.getD i undef) := by
        rw [List.getD_eq_getElem?_getD, List.getElem?_eq_getElem (by omega)]; rfl
      have := hr.cells (g := g) rfl i _ hv
      rwa [Addr.add_lit, Nat.zero_add] at this
    · obtain ⟨v, h1, h2⟩ := h.each i p hp
      have : vs.getD i undef = v := by rw [List.getD_eq_getElem?_getD, h1]; rfl
      rw [this]
      exact h2.mono hm

theorem child_close {w w1 w4 : World} {rb : Nat} {s : ByteArray} {L : List Tk} {tv : Value} {a0 dp0 dp B k : Nat} {rv rv1 : Value} {vs vs1 : List Value} {ps ps1 : List X.Part} {D : Nat → Prop} {N kd : Nat} {rvn : Value} {cps : List X.Part} {ts' : List X.Tok}
    (h0 : Wk w rb s L tv a0 dp0 B k rv vs ps D) (hb1 : Bran w1 B k rv1 (vs1 ++ [.iface 33 (.pointer (some ⟨N, 0, none⟩))])) (hl1 : vs1.length = ps1.length) (he1 : Each w1 D vs1 ps1) (hr1 : ∀ g, rv1.ownBlock = some g → rv.ownBlock = some g ∨ (w.heap.size ≤ g ∧ g ≠ N))
    (hk1 : Kp (Sr rb B rv) w w1) (hN : w.heap.size ≤ N) (hN1 : N < w1.heap.size) (hrn : ∀ g, rvn.ownBlock = some g → w.heap.size ≤ g ∧ rv1.ownBlock ≠ some g) (hd : Done w1 rb s L tv dp N kd rvn cps ts' D w4) : Done w rb s L tv dp B k rv (ps1 ++ [.br kd cps]) ts' D w4 := by
  obtain ⟨a4, rvN, vsN, DN, wkN, ht, d1, d2, d3, kN⟩ := hd
  have hbl := h0.bra.lt
  have hrl := h0.rdr.raw.lt
  have hz1 := hk1.size
  have hz4 := kN.size
  have hNw := wkN.bra.lt
  have hrow1 := hb1.row
  have hg1 : ∀ g, rv1.ownBlock = some g → g < w1.heap.size := fun g hg => (owns_ge hrow1 g hg).2
  have hg0 : ∀ g, rv.ownBlock = some g → g < w.heap.size := fun g hg => (owns_ge h0.bra.row g hg).2
  have hgN : ∀ g, rvN.ownBlock = some g → g < w4.heap.size ∧ w.heap.size ≤ g ∧ rv1.ownBlock ≠ some g := by
    intro g hg
    refine ⟨(owns_ge wkN.bra.row g hg).2, ?_⟩
    rcases d3 g hg with e | e
    · exact hrn g e
    · exact ⟨by omega, fun e' => by have := hg1 g e'; omega⟩
  have hS1 : ∀ q, D q → ¬ Sr rb N rvn q := by
    rintro q hq (e | e | e)
    · subst e; exact h0.sep.1 hq
    · have := h0.dlt q hq; omega
    · have := (hrn q e).1; have := h0.dlt q hq; omega
  refine ⟨a4, rv1, vs1 ++ [.iface 33 (.pointer (some ⟨N, 0, none⟩))], fun q => DN q ∨ q = N ∨ rvN.ownBlock = some q, ?_, ht, fun q hq => .inl (d1 q hq), ?_, ?_, ?_⟩
  · refine ⟨wkN.rdr, ?_, by rw [List.length_append, List.length_append, hl1]; rfl, ?_, ?_, ⟨?_, ?_, h0.sep.2.2⟩, ?_, ?_⟩
    · refine hb1.keep kN ?_ ?_
      · rintro (e | e | e)
        · exact h0.sep.2.2 e
        · omega
        · have := (hrn B e).1; omega
      · rintro g hg (e | e | e)
        · rcases hr1 g hg with h | h
          · exact (h0.sepG g h).2.1 e
          · omega
        · rcases hr1 g hg with h | h
          · have := hg0 g h; omega
          · omega
        · exact (hrn g e).2 hg
    · exact ((he1.keep kN hS1).mono (fun q hq => .inl (d1 q hq))).snoc hl1 wkN.part
    · rintro q (e | e | e)
      · exact wkN.dlt q e
      · omega
      · exact (hgN q e).1
    · rintro (e | e | e)
      · exact wkN.sep.1 e
      · exact wkN.sep.2.2 e.symm
      · exact (wkN.sepG rb e).2.1 rfl
    · rintro (e | e | e)
      · rcases d2 B e with h | h
        · exact h0.sep.2.1 h
        · omega
      · omega
      · have := (hgN B e).2.1; omega
    · intro g hg
      have hlt := hg1 g hg
      refine ⟨?_, ?_, ?_⟩
      · rintro (e | e | e)
        · rcases d2 g e with h | h
          · rcases hr1 g hg with h' | h'
            · exact (h0.sepG g h').1 h
            · have := h0.dlt g h; omega
          · omega
        · rcases hr1 g hg with h | h
          · have := hg0 g h; omega
          · omega
        · exact (hgN g e).2.2 hg
      · rcases hr1 g hg with h | h
        · exact (h0.sepG g h).2.1
        · omega
      · rcases hr1 g hg with h | h
        · exact (h0.sepG g h).2.2
        · omega
    · intro q hq
      obtain ⟨a1, a2, a3, a4⟩ := h0.sepT q hq
      refine ⟨?_, a2, ?_, by omega⟩
      · rintro (e | e | e)
        · rcases d2 q e with h | h
          · exact a1 h
          · omega
        · omega
        · have := (hgN q e).2.1; omega
      · intro e
        rcases hr1 q e with h | h
        · exact a3 h
        · omega
  · rintro q (e | e | e)
    · rcases d2 q e with h | h
      · exact .inl h
      · exact .inr (by omega)
    · exact .inr (by omega)
    · exact .inr (by have := (hgN q e).2.1; omega)
  · intro g hg
    rcases hr1 g hg with h | h
    · exact .inl h
    · exact .inr (by omega)
  · refine Kp.trans hk1 kN (fun i hi e => ?_)
    rcases e with e | e | e
    · exact .inl e
    · omega
    · have := (hrn i e).1; omega

/-- A branch has been opened within another one. -/
def Opn (w : World) (rb : Nat) (s : ByteArray) (L : List Tk) (tv : Value) (B k : Nat) (rv : Value) (ps1 : List X.Part) (D : Nat → Prop) (N : Nat) (rvn : Value) (w1 : World) : Prop :=
  ∃ (a0 dp0 : Nat) (vs : List Value) (ps : List X.Part) (rv1 : Value) (vs1 : List Value), Wk w rb s L tv a0 dp0 B k rv vs ps D ∧ Bran w1 B k rv1 (vs1 ++ [.iface 33 (.pointer (some ⟨N, 0, none⟩))]) ∧ vs1.length = ps1.length ∧ Each w1 D vs1 ps1 ∧
    (∀ g, rv1.ownBlock = some g → rv.ownBlock = some g ∨ (w.heap.size ≤ g ∧ g ≠ N)) ∧ Kp (Sr rb B rv) w w1 ∧ w.heap.size ≤ N ∧ N < w1.heap.size ∧ (∀ g, rvn.ownBlock = some g → w.heap.size ≤ g ∧ rv1.ownBlock ≠ some g)
theorem Opn.close {w w1 w4 : World} {rb : Nat} {s : ByteArray} {L : List Tk} {tv : Value} {dp B k : Nat} {rv : Value} {ps1 : List X.Part} {D : Nat → Prop} {N kd : Nat} {rvn : Value} {cps : List X.Part} {ts' : List X.Tok}
    (h : Opn w rb s L tv B k rv ps1 D N rvn w1) (hd : Done w1 rb s L tv dp N kd rvn cps ts' D w4) : Done w rb s L tv dp B k rv (ps1 ++ [.br kd cps]) ts' D w4 := by
  obtain ⟨a0, dp0, vs, ps, rv1, vs1, g1, g2, g3, g4, g5, g6, g7, g8, g9⟩ := h
  exact child_close g1 g2 g3 g4 g5 g6 g7 g8 g9 hd
theorem Opn.moved {w w1 w2 : World} {rb : Nat} {s : ByteArray} {L : List Tk} {tv : Value} {B k : Nat} {rv : Value} {ps1 : List X.Part} {D : Nat → Prop} {N : Nat} {rvn : Value} (h : Opn w rb s L tv B k rv ps1 D N rvn w1) (hk : On rb w1 w2) : Opn w rb s L tv B k rv ps1 D N rvn w2 := by
  obtain ⟨a0, dp0, vs, ps, rv1, vs1, g1, g2, g3, g4, g5, g6, g7, g8, g9⟩ := h
  have hrl := g1.rdr.raw.lt
  refine ⟨a0, dp0, vs, ps, rv1, vs1, g1, g2.keep hk g1.sep.2.2 (fun g hg e => ?_), g3, g4.keep hk (fun q hq e => ?_), g5, Kp.trans g6 hk (fun i _ e => .inl e), g7, Nat.lt_of_lt_of_le g8 hk.size, g9⟩
  · rcases g5 g hg with h | h
    · exact (g1.sepG g h).2.1 e
    · omega
  · subst e; exact g1.sep.1 hq

set_option maxRecDepth 100000 in
set_option maxHeartbeats 4000000 in
theorem grow_any (rb : Nat) (s : ByteArray) (L : List Tk) (tv : Value) (a dp B k : Nat) (rv : Value) (vs : List Value) (ps : List X.Part) (D : Nat → Prop) (w : World) (h : Wk w rb s L tv a dp B k rv vs ps D) (hl : ps.length ≤ 1073741824) (kd : Nat) :
    Calls Tryd.prog 52 #[.pointer (some ⟨B, 0, none⟩), .int .i64 kd] w fun e w' => e = .returned (.pointer (some ⟨w.heap.size, 0, none⟩)) ∧ Hid (Opn w rb s L tv B k rv ps D w.heap.size (.slice none 0 0) w' ∧ Wk w' rb s L tv a dp w.heap.size kd (.slice none 0 0) [] [] D) := by
  have HK := hide h
  have hlv : vs.length ≤ 1073741824 := by rw [h.len]; exact hl
  have kA : Below w.heap.size w (w.alloc (Obj.cells #[.int .i64 kd, .slice none 0 0] 36)) := (Below.refl _ w).alloc (Nat.le_refl _) _
  have HKA := hide kA
  have HWA := hide (h.below kA)
  clear h kA
  go_enter Tryd.func52, Tryd.ntmps52
  go_wp2_with fail
  refine (add_any B k rv vs 33 (.pointer (some ⟨w.heap.size, 0, none⟩)) _ (HWA.out).bra (fun g hg => ((HWA.out).sepG g hg).2.2) hlv).mono ?_
  rintro e w2 ⟨rfl, rv2, b2, o2, k2⟩
  have HR : Hid (Opn w rb s L tv B k rv ps D w.heap.size (.slice none 0 0) w2 ∧ Wk w2 rb s L tv a dp w.heap.size kd (.slice none 0 0) [] [] D) := by
    have hbl := (HK.out).bra.lt
    have hrl := (HK.out).rdr.raw.lt
    have hz := k2.size
    rw [World.size_alloc] at hz
    have hD : ∀ q, D q → ¬ Sb B rv q := by
      rintro q hq (e | e)
      · subst e; exact (HK.out).sep.2.1 hq
      · exact ((HK.out).sepG q e).1 hq
    have hgl : ∀ g, rv.ownBlock = some g → g < w.heap.size := fun g hg => (owns_ge (HK.out).bra.row g hg).2
    have hnew : (w.alloc (Obj.cells #[.int .i64 kd, .slice none 0 0] 36)).heap[w.heap.size]? = _ := heap_alloc_new w _
    have hnS : ¬ Sb B rv w.heap.size := by
      rintro (e | e)
      · omega
      · have := hgl _ e; omega
    refine ⟨⟨a, dp, vs, ps, rv2, vs, HK.out, b2, (HK.out).len, ((HWA.out).each.keep k2 hD), fun g hg => ?_, ?_, Nat.le_refl _, by omega, fun g hg => by cases hg⟩, ?_⟩
    · rcases o2 g hg with e | e
      · exact .inl e
      · rw [World.size_alloc] at e
        exact .inr ⟨by omega, by omega⟩
    · exact Kp.trans (Kp.ofBelow (HKA.out) (Sr rb B rv)) k2 (fun i _ e => .inr e)
    · refine ⟨(HWA.out).rdr.keep k2 ?_ ?_, ⟨k2.heap hnew hnS, World.ownsRow_nil _ _ _ _⟩, rfl, Each.nil _ _, fun q hq => by have := (HK.out).dlt q hq; omega, ⟨(HK.out).sep.1, fun hd => by have := (HK.out).dlt _ hd; omega, by omega⟩, (fun g hg => by cases hg), fun q hq => ?_⟩
      · rintro (e | e)
        · exact (HK.out).sep.2.2 e.symm
        · exact ((HK.out).sepG rb e).2.1 rfl
      · intro q hq e
        obtain ⟨a1, a2, a3, a4⟩ := (HK.out).sepT q hq
        rcases e with e | e
        · exact a2 e
        · exact a3 e
      · obtain ⟨a1, a2, a3, a4⟩ := (HK.out).sepT q hq
        exact ⟨a1, by omega, (fun e => by cases e), by omega⟩
  clear b2 o2 k2
  go_wp2_with fail
  go_ret
  exact ⟨rfl, HR⟩
end Go.Proofs.YtpoipoencbieeaaDoor
