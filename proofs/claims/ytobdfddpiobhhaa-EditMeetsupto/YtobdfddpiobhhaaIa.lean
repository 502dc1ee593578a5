/- The law EditInverts answers true. -/
import Derived.Test.YtobdfddpiobhhaaHb

namespace Go.Proofs.Ytobdfddpiobhhaa
open Go.RowKit
open EM
theorem flt_val (n : Int) (L : List Rw) : flt n L = 0 ∨ flt n L = 1 ∨ flt n L = 2 := by
  unfold flt; split
  · exact .inr (.inl rfl)
  · split
    · exact .inr (.inr rfl)
    · exact .inl rfl
theorem inv_len (x : By) (a q : Nat) (L : List Sp) : (inv x a q L).length = L.length := by
  induction L generalizing a q with
  | nil => rfl
  | cons c L ih => simp [inv, ih]
theorem tot_snoc (L : List Sp) (c : Sp) : tot (L ++ [c]) = tot L + c.s.length := by simp [tot]
/-- How many bytes a writer's spans put in. -/
theorem Wr.tot_add (W : Wr) (s : St) (N : Nat) (h : tot W.l + (Wr.txt W).length ≤ N) : tot (W.add s).l + (Wr.txt (W.add s)).length ≤ N + s.c := by
  unfold Wr.add
  by_cases h0 : s.c = 0
  · rw [if_pos h0]; omega
  · rw [if_neg h0]
    cases ho : W.o with
    | none =>
      have e1 : Wr.txt W = [] := by simp [Wr.txt, ho]
      rw [e1] at h
      cases s with
      | stay n => simp only [Wr.fin, ho, Wr.go, St.c, Wr.txt]; simp at h ⊢; omega
      | put t => simp only [Wr.beg, Wr.say, ho, St.c, Wr.txt]; simp at h ⊢; omega
      | drop n => simp only [Wr.beg, ho, Wr.go, St.c, Wr.txt]; simp at h ⊢; omega
    | some q =>
      obtain ⟨f, x⟩ := q
      have e1 : Wr.txt W = x := by simp [Wr.txt, ho]
      rw [e1] at h
      cases s with
      | stay n => simp only [Wr.fin, ho, Wr.go, St.c, Wr.txt, tot_snoc]; simp at h ⊢; omega
      | put t =>
        simp only []
        split
        · simp only [Wr.say, ho, St.c, Wr.txt]; simp at h ⊢; omega
        · simp only [Wr.fin, Wr.beg, Wr.say, ho, St.c, Wr.txt, tot_snoc]; simp at h ⊢; omega
      | drop n => simp only [Wr.beg, ho, Wr.go, St.c, Wr.txt]; simp at h ⊢; omega
theorem Wr.adds_small (S : List St) (W : Wr) (N M K : Nat) (h : Wr.small W N M) (hk : tot W.l + (Wr.txt W).length ≤ K) : Wr.small (S.foldl Wr.add W) (N + csum S) (M + S.length) ∧ tot (S.foldl Wr.add W).l + (Wr.txt (S.foldl Wr.add W)).length ≤ K + csum S := by
  induction S generalizing W N M K with
  | nil => exact ⟨h, hk⟩
  | cons s S ih =>
    obtain ⟨i1, i2⟩ := ih (W.add s) (N + s.c) (M + 1) (K + s.c) (Wr.small_add W s N M h) (Wr.tot_add W s K hk)
    have e : csum (s :: S) = s.c + csum S := by simp [csum]
    rw [List.foldl_cons, e, List.length_cons]
    rw [show N + (s.c + csum S) = N + s.c + csum S by omega, show M + (S.length + 1) = M + 1 + S.length by omega, show K + (s.c + csum S) = K + s.c + csum S by omega]
    exact ⟨i1, i2⟩
theorem plain_small (L : List Sp) (n : Nat) (h : Ok 0 n L) : (EM.plainOf L).length ≤ 3 * L.length ∧ tot (EM.plainOf L) ≤ n + tot L := by
  obtain ⟨i1, i2⟩ := Wr.adds_small (sts 0 L) Wr.new 0 0 0 ⟨by simp [Wr.new], by simp [Wr.new, Wr.txt], by simp [Wr.new]⟩ (by simp [Wr.new, Wr.txt, tot])
  have h1 := len_sts 0 L
  have h2 := csum_sts 0 n L h
  unfold EM.plainOf Wr.spans
  generalize (sts 0 L).foldl Wr.add Wr.new = W at i1 i2
  obtain ⟨_, _, i3⟩ := i1
  unfold Wr.fin
  cases ho : W.o with
  | none => simp only [ho, Option.isSome_none, Bool.false_eq_true, if_false] at i3 ⊢; omega
  | some q =>
    obtain ⟨f, x⟩ := q
    have e1 : Wr.txt W = x := by simp [Wr.txt, ho]
    rw [e1] at i2
    simp only [ho, Option.isSome_some, if_true, tot_snoc, List.length_append, List.length_cons, List.length_nil] at i3 ⊢
    omega
end Go.Proofs.Ytobdfddpiobhhaa
