/- How long a message is, and the document's Print at lists. -/
import Derived.Test.YthdbnafiindgbaaDoorWkx0
import Derived.Test.YthdbnafiindgbaaDoorWkv
import Derived.Test.YthdbnafiindgbaaDoorWjb
namespace Go.Proofs.YthdbnafiindgbaaDoor
open Go.RowKit
open Wi

theorem prL_len {p : J → Except Nat (List UInt8)} : ∀ (l : List J) (f : Bool) (S s : List UInt8), (∀ j ∈ l, ∀ x, p j = .ok x → x.length + 1 ≤ wt j) → prL p f l S = .ok s → s.length ≤ S.length + wts l
  | [], f, S, s, _, h => by
    simp only [prL, Except.ok.injEq] at h
    subst h; simp [wts]
  | j :: r, f, S, s, hp, h => by
    simp only [prL] at h
    split at h
    · cases h
    · rename_i x hx
      have h1 := hp j (by simp) x hx
      have h2 := prL_len r false _ s (fun j hj => hp j (by simp [hj])) h
      simp only [wts]
      have h3 : ((if f = true then S else S ++ [44]) ++ x).length ≤ S.length + 1 + x.length := by split <;> simp <;> omega
      omega
theorem prM_len {p : J → Except Nat (List UInt8)} : ∀ (ks : List (List UInt8)) (l : List J) (seen : List (List UInt8)) (S s : List UInt8), (∀ j ∈ l, ∀ x, p j = .ok x → x.length + 1 ≤ wt j) → prM p seen ks l S = .ok s → s.length ≤ S.length + (ks.map fun x => x.length * 7 + 10).sum + wts l
  | [], l, seen, S, s, _, h => by
    simp only [prM, Except.ok.injEq] at h
    subst h; simp
  | k :: ks, [], seen, S, s, _, h => by
    simp only [prM, Except.ok.injEq] at h
    subst h; simp; omega
  | k :: ks, j :: r, seen, S, s, hp, h => by
    simp only [prM] at h
    split at h
    · cases h
    split at h
    · cases h
    · rename_i x hx
      have h1 := hp j (by simp) x hx
      have h2 := prM_len ks r _ _ s (fun j hj => hp j (by simp [hj])) h
      simp only [wts, List.map_cons, List.sum_cons]
      have hq : (quote k).length ≤ k.length * 6 + 2 := by have := quoteA_len k; unfold quote; simp; omega
      have h3 : ((if seen = [] then S else S ++ [44]) ++ (quote k ++ [58]) ++ x).length ≤ S.length + 1 + ((quote k).length + 1) + x.length := by split <;> simp <;> omega
      omega
theorem pr_len (d : Nat) : ∀ (j : J) (s : List UInt8), pr d j = .ok s → s.length + 1 ≤ wt j := by
  have key : ∀ (m : Bool → List (List UInt8) → List J → Except Nat (List UInt8)), (∀ b ks kids s, m b ks kids = .ok s → s.length ≤ 2 + (ks.map fun x => x.length * 7 + 10).sum + wts kids) → ∀ (j : J) (s : List UInt8), prW m j = .ok s → s.length + 1 ≤ wt j := by
    intro m hm j s h
    cases j with
    | mk k n t ks kids =>
    simp only [prW] at h
    simp only [wt]
    split at h
    · cases h
    rename_i hok
    split at h
    · cases h; simp [sNull]; omega
    split at h
    · split at h <;> cases h <;> simp [sTrue, sFalse] <;> omega
    split at h
    · rename_i hk0 hk1 hk2
      cases h
      have hb : -999999999999999999 ≤ n ∧ n ≤ 999999999999999999 := by
        subst hk2
        simp only [ownOk] at hok
        simp at hok
        omega
      have := digs_len 18 n.natAbs (by omega)
      unfold digsZ
      split <;> simp <;> omega
    split at h
    · cases h
      have := quoteA_len t
      unfold quote; simp; omega
    · have := hm _ _ _ _ h
      omega
  induction d with
  | zero => exact key _ (fun b ks kids s h => by cases h)
  | succ d ih =>
    refine key _ (fun b ks kids s h => ?_)
    unfold prN at h
    split at h
    · split at h
      · cases h
      · rename_i s' hs'
        cases h
        have := prM_len ks kids [] [123] s' (fun j _ x hx => ih j x hx) hs'
        simp at this ⊢; omega
    · split at h
      · cases h
      · rename_i s' hs'
        cases h
        have := prL_len kids true [91] s' (fun j _ x hx => ih j x hx) hs'
        simp at this ⊢; omega
end Go.Proofs.YthdbnafiindgbaaDoor
