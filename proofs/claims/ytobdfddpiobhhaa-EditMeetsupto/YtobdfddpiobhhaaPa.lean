/- The plain edit of an edit. -/
import Derived.Test.YtobdfddpiobhhaaWd
namespace Go.Proofs.Ytobdfddpiobhhaa
open Go.RowKit
open EM
/-- How many bytes steps go over, put in and take out. -/
def csum (S : List St) : Nat := (S.map St.c).sum
theorem csum_append (S T : List St) : csum (S ++ T) = csum S + csum T := by simp [csum]
theorem csum_real (S : List St) : csum (real S) = csum S := by
  induction S with
  | nil => rfl
  | cons s S ih =>
    by_cases h : 0 < s.c
    · rw [real_cons_pos S h]; simp only [csum, List.map_cons, List.sum_cons] at ih ⊢; rw [ih]
    · rw [real_cons_zero S h, ih]; simp only [csum, List.map_cons, List.sum_cons]; omega
theorem csum_sts (a n : Nat) (L : List Sp) (h : Ok a n L) : csum (sts a L) ≤ n - a + tot L := by
  induction L generalizing a with
  | nil => simp [sts, csum]
  | cons c L ih =>
    have h1 := ih c.t h.2.2
    have h2 := h.2.2.le
    have h3 := h.1
    have h4 := h.2.1
    rw [sts, csum_append, csum_real]
    have e1 : csum (st3 a c) = (c.f - a) + (c.s.length + (c.t - c.f)) := by simp [csum, st3, St.c]
    have e2 : tot (c :: L) = c.s.length + tot L := by simp [tot]
    rw [e1, e2]
    omega
/-- What a writer has grown to. -/
def Wr.small (W : Wr) (N M : Nat) : Prop := W.a ≤ N ∧ (Wr.txt W).length ≤ N ∧ W.l.length + (if W.o.isSome then 1 else 0) ≤ M
theorem Wr.small_add (W : Wr) (s : St) (N M : Nat) (h : Wr.small W N M) : Wr.small (W.add s) (N + s.c) (M + 1) := by
  obtain ⟨h1, h2, h3⟩ := h
  unfold Wr.add
  by_cases h0 : s.c = 0
  · rw [if_pos h0]; exact ⟨by omega, by omega, by omega⟩
  · rw [if_neg h0]
    cases ho : W.o with
    | none =>
      have e1 : Wr.txt W = [] := by simp [Wr.txt, ho]
      simp only [ho, Option.isSome_none, Bool.false_eq_true, if_false] at h3
      cases s with
      | stay n => simp only [Wr.small, Wr.fin, ho, Wr.go, St.c, Wr.txt]; simp; omega
      | put t => simp only [Wr.small, Wr.beg, Wr.say, ho, St.c, Wr.txt]; simp; omega
      | drop n => simp only [Wr.small, Wr.beg, ho, Wr.go, St.c, Wr.txt]; simp; omega
    | some q =>
      obtain ⟨f, x⟩ := q
      have e1 : Wr.txt W = x := by simp [Wr.txt, ho]
      rw [e1] at h2
      simp only [ho, Option.isSome_some, if_true] at h3
      cases s with
      | stay n => simp only [Wr.small, Wr.fin, ho, Wr.go, St.c, Wr.txt]; simp; omega
      | put t =>
        simp only []
        split
        · simp only [Wr.small, Wr.say, ho, St.c, Wr.txt]; simp; omega
        · simp only [Wr.small, Wr.fin, Wr.beg, Wr.say, ho, St.c, Wr.txt]; simp; omega
      | drop n => simp only [Wr.small, Wr.beg, ho, Wr.go, St.c, Wr.txt]; simp; omega
theorem add_any (B b : Nat) (w : World) (W : Wr) (F : Nat → Prop) (s : St) (N M : Nat) (h : IsW B w b W F) (hB : B ≤ w.heap.size) (hs : Wr.small W N M) (hN : N + s.c ≤ 1099511627776) (hM : M ≤ 1099511627776) :
    Calls Try.prog 24 #[.pointer (some ⟨b, 0, none⟩), stV s] w fun e w' => e = .returned (.tuple #[]) ∧ IsW B w' b (W.add s) (fun k => F k ∨ (w.heap.size ≤ k ∧ k < w'.heap.size)) ∧ Kp F w w' := by
  obtain ⟨h1, h2, h3⟩ := hs
  have hl : W.l.length ≤ 1099511627776 := by omega
  by_cases h0 : s.c = 0
  · have e1 : W.add s = W := by unfold Wr.add; rw [if_pos h0]
    rw [e1]
    refine (add_zero b s w h0).mono ?_
    rintro e w' ⟨rfl, hb⟩
    have K := Kp.ofBelow hb (fun _ => False)
    refine ⟨rfl, (h.keep K (fun _ _ => id)).more (fun k hk => .inl hk) (fun k hk => ?_), Kp.ofBelow hb F⟩
    have := hb.size
    rcases hk with hk | hk
    · have := h.lt k hk; omega
    · omega
  · cases s with
    | stay n => simp only [St.c] at h0 hN; exact add_stay_any B b w W F n h hB (by omega) (by omega) hl
    | put t => simp only [St.c] at h0 hN; exact add_put_any B b w W F t h hB (by omega) (by omega) hl (by omega)
    | drop n => simp only [St.c] at h0 hN; exact add_drop_any B b w W F n h hB (by omega) (by omega)
set_option maxHeartbeats 1000000 in
theorem edit_any (B b : Nat) (w : World) (W : Wr) (F : Nat → Prop) (h : IsW B w b W F) (hB : B ≤ w.heap.size) (ha : W.a ≤ 1099511627776) (hl : W.l.length ≤ 1099511627776) :
    Calls Try.prog 25 #[.pointer (some ⟨b, 0, none⟩)] w fun e w' => ∃ v, e = .returned v ∧ w'.ownsRow B 32 3 v W.spans.length ((W.spans.map raw).flatMap Rw.vals) ∧ Kp F w w' := by
  have H := hide h
  clear h
  go_enter Try.func25, Try.ntmps25
  go_wp2_with fail
  refine (end_any B b w W F H.out hB ha hl).mono ?_
  rintro e w1 ⟨rfl, hW1, hK1⟩
  obtain ⟨⟨sv, p, bv, fr, h1, h2, h3, h4, h5, h6, h7⟩, f, lt⟩ := hW1
  obtain ⟨c0, c1, c2, c3, c4, c5⟩ := h1.cells
  have HQ := hide (And.intro h2 hK1)
  clear h1 h2 h3 h4 h6 h7 lt hK1 f
  go_wp2_with fail
  go_ret
  exact ⟨_, rfl, (HQ.out).1, (HQ.out).2⟩
end Go.Proofs.Ytobdfddpiobhhaa
