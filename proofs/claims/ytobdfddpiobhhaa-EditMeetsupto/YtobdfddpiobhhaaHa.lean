/- What the document's edits make of a text, or what is wrong with them. -/
import Derived.Test.YtobdfddpiobhhaaGc
import Derived.Test.YtobdfddpiobhhaaFc
namespace Go.Proofs.Ytobdfddpiobhhaa
open Go.RowKit
open EM
theorem split_at (n : Nat) (L : List Rw) (e : Nat) (he : e ≤ n) (h1 : L.any (badR n) = false) (h2 : ordB e L = false) : ∃ Ls : List Sp, L = Ls.map raw ∧ Ok e n Ls := by
  induction L generalizing e with
  | nil => exact ⟨[], rfl, he⟩
  | cons r L ih =>
    simp only [List.any_cons, Bool.or_eq_false_iff, badR, ordB, decide_eq_false_iff_not] at h1 h2
    obtain ⟨⟨⟨g1, g2⟩, g3⟩, g4⟩ := h1
    obtain ⟨g5, g6⟩ := h2
    obtain ⟨f, s0⟩ : ∃ f : Nat, r.f = f := ⟨r.f.toNat, by omega⟩
    obtain ⟨t, s1⟩ : ∃ t : Nat, r.t = t := ⟨r.t.toNat, by omega⟩
    rw [s1] at g6
    obtain ⟨Ls, rfl, hok⟩ := ih t (by omega) (by simpa [badR] using g4) g6
    refine ⟨⟨f, t, bs r.s⟩ :: Ls, ?_, by show e ≤ f; omega, by show f ≤ t; omega, hok⟩
    simp only [List.map_cons, raw, ba_bs]
    cases r
    simp only at s0 s1
    rw [s0, s1]
theorem flt_split (n : Nat) (L : List Rw) (h : flt n L = 0) : ∃ Ls : List Sp, L = Ls.map raw ∧ Ok 0 n Ls := by
  unfold flt at h
  by_cases h1 : (n : Int) < 0 ∨ L.any (badR n) = true
  · rw [if_pos h1] at h; cases h
  · rw [if_neg h1] at h
    by_cases h2 : ordB 0 L = true
    · rw [if_pos h2] at h; cases h
    · have h3 : L.any (badR n) = false := by
        cases hb : L.any (badR n) with
        | false => rfl
        | true => exact absurd (.inr hb) h1
      exact split_at n L 0 (Nat.zero_le _) h3 (by simpa using h2)
theorem Ok_good {e n : Nat} {Ls : List Sp} (h : Ok e n Ls) : (Ls.map raw).any (badR n) = false ∧ ordB e (Ls.map raw) = false := by
  induction Ls generalizing e with
  | nil => exact ⟨rfl, rfl⟩
  | cons c L ih =>
    obtain ⟨i1, i2⟩ := ih h.2.2
    have h1 := h.1
    have h2 := h.2.1
    have h3 := h.2.2.le
    simp only [List.map_cons, List.any_cons, ordB, Bool.or_eq_false_iff, i1, and_true]
    refine ⟨?_, ?_, i2⟩
    · have g1 : ¬ ((raw c).f < 0) := by show ¬ ((c.f : Int) < 0); omega
      have g2 : ¬ ((raw c).t < (raw c).f) := by show ¬ ((c.t : Int) < (c.f : Int)); omega
      have g3 : ¬ ((n : Int) < (raw c).t) := by show ¬ ((n : Int) < (c.t : Int)); omega
      simp [badR, g1, g2, g3]
    · have g1 : ¬ ((raw c).f < (e : Int)) := by show ¬ ((c.f : Int) < (e : Int)); omega
      simp [g1]
theorem flt_Ok {n : Nat} {Ls : List Sp} (h : Ok 0 n Ls) : flt n (Ls.map raw) = 0 := flt_ok (by omega) (Ok_good h).1 (Ok_good h).2
theorem app_len (x : By) (a : Nat) (L : List Sp) (h : Ok a x.length L) : (app x a L).length ≤ (x.length - a) + tot L := by
  induction L generalizing a with
  | nil => simp [app]
  | cons c L ih =>
    have i := ih c.t h.2.2
    have h1 := h.1
    have h2 := h.2.1
    have h3 := h.2.2.le
    have e2 : tot (c :: L) = c.s.length + tot L := by simp [tot]
    simp only [app, List.length_append, List.length_take, List.length_drop, e2]
    omega
theorem IsE.below {w w' : World} {v : Value} {n : Nat} {I : Nat → By} {O : Nat → Bool} (h : IsE w v n I O) (hb : Below w.heap.size w w') : IsE w' v n I O := by
  obtain ⟨ao, c1, g2, c2, rfl, h1, h2, h3, h4⟩ := h
  have K := Kp.ofBelow hb (fun _ => False)
  refine ⟨ao, c1, g2, c2, rfl, h1, h2, fun g hg => ?_, fun g hg => K.cellv (h4 g hg) id⟩
  obtain ⟨g1, e, hc⟩ := h3 g hg
  exact ⟨g1, e, K.cellv hc id⟩
end Go.Proofs.Ytobdfddpiobhhaa
