/- Plain mathematics: what is wrong in a tree, as the document tells it. -/
import Derived.Test.YtpoipoencbieeaaGreatDoorZr
import Derived.Test.YtpoipoencbieeaaGreatDoorZo
namespace Go.Proofs.YtpoipoencbieeaaGreatDoor
open M
namespace X
mutual
/-- What the document tells of a node. -/
def nq : Q → List Nt
  | .mk k t _ qs i en fr tt _ => (if k = 0 ∧ t = 8 then [(i, en, 3)] else []) ++ ((if k = 1 then [(i, i, 9)] else []) ++ ((if k = 5 then [(fr, tt, 3)] else []) ++ nqs qs))
def nqs : List Q → List Nt
  | [] => []
  | q :: qs => nq q ++ nqs qs
end
theorem puts_fr : ∀ (ps : List Part) (i f t : Int) (l : Bool), 0 ≤ f → (puts ps i f t l).2.2.1 = f
  | [], i, f, t, l, _ => by rw [puts]
  | p :: ps, i, f, t, l, h => by
    rw [puts]
    show (puts ps _ _ _ _).2.2.1 = f
    rw [if_neg (by omega)]; exact puts_fr ps _ _ _ _ h
theorem junk_fr : ∀ (ps : List Part) (i : Nat) (t : Int) (l : Bool), (∀ p ∈ ps, lv p = true) → (∃ p ∈ ps, ∃ k x, p = .leaf k x ∧ ¬ (k = 1 ∨ k = 2)) → (puts ps i (-1) t l).2.2.1 = ((i + qlen ps : Nat) : Int)
  | [], i, t, l, _, h => by obtain ⟨p, hp, -⟩ := h; cases hp
  | p :: ps, i, t, l, h1, h2 => by
    have hp := h1 p (List.mem_cons_self ..)
    cases p with
    | miss m => cases hp
    | br k qs => cases hp
    | leaf k x =>
      rw [puts]
      show (puts ps _ _ _ _).2.2.1 = _
      rw [if_pos (by omega : (-1 : Int) < 0), put_en, qlen]
      by_cases hk : k = 1 ∨ k = 2
      · have e1 : (put (.leaf k x) i).fr = -1 := by rw [put]; show (if k = 1 ∨ k = 2 then (-1 : Int) else i) = -1; rw [if_pos hk]
        rw [e1, if_pos hk]
        have h3 : ∃ p ∈ ps, ∃ k x, p = .leaf k x ∧ ¬ (k = 1 ∨ k = 2) := by
          obtain ⟨p, hp, k', x', e, hn⟩ := h2
          rcases List.mem_cons.1 hp with h | h
          · rw [h] at e; injection e with e3 e4; subst e3; exact absurd hk hn
          · exact ⟨p, h, k', x', e, hn⟩
        have := junk_fr ps (i + (pb (.leaf k x)).length) (if (put (.leaf k x) ↑i).tt > t then (put (.leaf k x) ↑i).tt else t) (l || (put (.leaf k x) ↑i).la) (fun q hq => h1 q (List.mem_cons_of_mem _ hq)) h3
        rw [Int.natCast_add] at this
        rw [this, pb]; omega
      · have e1 : (put (.leaf k x) i).fr = i := by rw [put]; show (if k = 1 ∨ k = 2 then (-1 : Int) else i) = i; rw [if_neg hk]
        rw [e1, if_neg hk, puts_fr _ _ _ _ _ (by omega)]; rfl
theorem junk_tt : ∀ (ps : List Part) (i : Nat) (f t : Int) (l : Bool), (∀ p ∈ ps, lv p = true) → (∃ m k x, ps = m ++ [.leaf k x] ∧ ¬ (k = 1 ∨ k = 2)) → t ≤ i → (puts ps i f t l).2.2.2.1 = ((i + (psb ps).length : Nat) : Int)
  | [], i, f, t, l, _, h, _ => by obtain ⟨m, k, x, e, -⟩ := h; simp at e
  | p :: ps, i, f, t, l, h1, h2, h3 => by
    have hp := h1 p (List.mem_cons_self ..)
    cases p with
    | miss m => cases hp
    | br k qs => cases hp
    | leaf k x =>
      rw [puts]
      show (puts ps _ _ _ _).2.2.2.1 = _
      rw [put_en, psb, pb, List.length_append]
      have e1 : (put (.leaf k x) i).tt = if k = 1 ∨ k = 2 then -1 else (i : Int) + x.length := by rw [put]; rfl
      rw [e1]
      obtain ⟨m, k', x', e, hn⟩ := h2
      cases m with
      | nil =>
        simp only [List.nil_append, List.cons.injEq] at e
        obtain ⟨e2, rfl⟩ := e
        injection e2 with e3 e4
        subst e3
        subst e4
        rw [puts, if_neg hn]
        show (if (i : Int) + x.length > t then (i : Int) + x.length else t) = _
        simp only [psb, List.length_nil]
        split <;> omega
      | cons q m =>
        simp only [List.cons_append, List.cons.injEq] at e
        have := junk_tt ps (i + x.length) (if f < 0 then (put (.leaf k x) ↑i).fr else f) (if (if k = 1 ∨ k = 2 then (-1 : Int) else (i : Int) + x.length) > t then (if k = 1 ∨ k = 2 then -1 else (i : Int) + x.length) else t) (l || (put (.leaf k x) ↑i).la) (fun q hq => h1 q (List.mem_cons_of_mem _ hq)) ⟨m, k', x', e.2, hn⟩ (by split <;> (try split) <;> omega)
        rw [Int.natCast_add] at this
        rw [this]; omega
mutual
/-- Both tell the same. -/
theorem nq_put : ∀ (p : Part) (i : Nat), kok p → jok p → nq (put p i) = nts p i
  | .leaf k x, i, _, _ => by
    rw [put, nq, nts, nqs]
    by_cases h : k = 8
    · simp [h]
    · simp [h]
  | .miss m, i, _, _ => by rw [put, nq, nts, nqs]; simp
  | .br k ps, i, hk, hj => by
    rw [kok] at hk
    rw [jok] at hj
    rw [put, nq, nts, nqs_puts ps i _ _ _ hk.2 hj.2]
    have h0 : ¬ (k = 0 ∧ (0 : Nat) = 8) := by omega
    rw [if_neg h0, List.nil_append]
    rw [if_neg hj.1.1, List.nil_append]
    by_cases h5 : k = 5
    · rw [if_pos h5, if_pos h5]
      obtain ⟨j1, j2⟩ := hj.1.2 h5
      obtain ⟨m, k', x', e, hn⟩ := j2
      rw [junk_fr ps i _ _ j1 ⟨_, by rw [e]; simp, k', x', rfl, hn⟩, junk_tt ps i _ _ _ j1 ⟨m, k', x', e, hn⟩ (by omega)]
    · rw [if_neg h5, if_neg h5]
theorem nqs_puts : ∀ (ps : List Part) (i : Nat) (f t : Int) (l : Bool), koks ps → joks ps → nqs (puts ps i f t l).1 = ntss ps i
  | [], i, f, t, l, _, _ => by rw [puts, nqs, ntss]
  | p :: ps, i, f, t, l, hk, hj => by
    rw [koks] at hk
    rw [joks] at hj
    rw [puts, ntss]
    show nqs (put p i :: (puts ps _ _ _ _).1) = _
    rw [nqs, nq_put p i hk.1 hj.1, put_en]
    have := nqs_puts ps (i + (pb p).length) (if f < 0 then (put p ↑i).fr else f) (if (put p ↑i).tt > t then (put p ↑i).tt else t) (l || (put p ↑i).la) hk.2 hj.2
    rw [Int.natCast_add] at this
    rw [this]
end
end X
end Go.Proofs.YtpoipoencbieeaaGreatDoor
