/- Values as the program tells them. -/
import Derived.Test.YthdbnafiindgbaaDoorWk0
import Derived.Test.YthdbnafiindgbaaDoorWkx0
import Derived.Deep.RegionHeld3
import Derived.Deep.CutBlock
namespace Go.Proofs.YthdbnafiindgbaaDoor
open Go.RowKit
open Wi

/-- A value as the program tells it. -/
inductive IsA (w : World) : Value → J → Prop
  | mk (k n : Int) (t : List UInt8) (ks : List (List UInt8)) (kids : List J) (kv : Value) (bo : Option Addr) (bcap : Nat) (f : Nat → Value × Value × Value × Value × Value)
      (hk : IsSt w kv ks) (hc : kids.length ≤ bcap ∧ bcap ≤ maxLen)
      (hr : ∀ i, i < kids.length → ∃ g o, bo = some ⟨g, o, none⟩ ∧ w.cell? ⟨g, o + i * 5, none⟩ = some (f i).1 ∧ w.cell? ⟨g, o + i * 5 + 1, none⟩ = some (f i).2.1 ∧ w.cell? ⟨g, o + i * 5 + 2, none⟩ = some (f i).2.2.1 ∧ w.cell? ⟨g, o + i * 5 + 3, none⟩ = some (f i).2.2.2.1 ∧ w.cell? ⟨g, o + i * 5 + 4, none⟩ = some (f i).2.2.2.2)
      (hp : ∀ (i : Nat) (j : J), kids[i]? = some j → IsA w (.agg #[(f i).1, (f i).2.1, (f i).2.2.1, (f i).2.2.2.1, (f i).2.2.2.2]) j) :
      IsA w (.agg #[.int .i64 k, .int .i64 n, .string (ba t), kv, .slice bo kids.length bcap]) (.mk k n t ks kids)
theorem IsA.kept {w w' : World} (hk : Below w.heap.size w w') {v : Value} {j : J} (h : IsA w v j) : IsA w' v j := by
  induction h with
  | mk k n t ks kids kv bo bcap f hks hc hr hp ih =>
    refine .mk k n t ks kids kv bo bcap f (hks.below hk) hc (fun i hi => ?_) ih
    obtain ⟨g, o, e, a0, a1, a2, a3, a4⟩ := hr i hi
    have q := Kp.ofBelow hk (fun _ => False)
    exact ⟨g, o, e, q.cellv a0 id, q.cellv a1 id, q.cellv a2 id, q.cellv a3 id, q.cellv a4 id⟩
theorem IsA.shape {w : World} {v : Value} {j : J} (h : IsA w v j) : ∃ k n t kv rv, v = .agg #[.int .i64 k, .int .i64 n, .string t, kv, rv] ∧ (∃ a b c, kv = .slice a b c) ∧ (∃ a b c, rv = .slice a b c) := by
  cases h with
  | mk k n t ks kids kv bo bcap f hks =>
    obtain ⟨a, c, e, -⟩ := hks
    exact ⟨_, _, _, _, _, rfl, ⟨_, _, _, e⟩, ⟨_, _, _, rfl⟩⟩
theorem wt_kid {k n : Int} {t : List UInt8} {ks : List (List UInt8)} {kids : List J} {i : Nat} {j : J} (h : kids[i]? = some j) : wt j < wt (.mk k n t ks kids) := by
  have : ∀ (l : List J) (i : Nat), l[i]? = some j → wt j ≤ wts l := by
    intro l
    induction l with
    | nil => intro i h; simp at h
    | cons a l ih =>
      intro i h
      simp only [wts]
      cases i with
      | zero =>
        obtain rfl : a = j := by simpa using h
        omega
      | succ i => have := ih i (by simpa using h); omega
  have := this kids i h
  simp only [wt]; omega
end Go.Proofs.YthdbnafiindgbaaDoor
