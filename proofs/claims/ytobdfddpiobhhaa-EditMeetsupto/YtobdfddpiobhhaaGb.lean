/- What spans mean, gap by gap: the document's arrays. -/
import Derived.Test.YtobdfddpiobhhaaGa
import Derived.Laws.MakeOwn
namespace Go.Proofs.Ytobdfddpiobhhaa
open Go.RowKit
open EM
theorem info4 : (Try.prog.info? 4).map (fun i => (i.zero, i.size, i.bytes)) = some (some (.bool false), 1, 1) := by kernel_rfl
theorem info9 : (Try.prog.info? 9).map (fun i => (i.zero, i.size, i.bytes)) = some (some (.string .empty), 1, 16) := by kernel_rfl
/-- A span of numbers, as the program has it. -/
def raw (c : Sp) : Rw := ⟨c.f, c.t, ba c.s⟩
/-- How many bytes all texts of spans have. -/
def tot (L : List Sp) : Nat := (L.map fun c => c.s.length).sum
theorem inG_snoc (L : List Sp) (c : Sp) (g : Nat) : inG (L ++ [c]) g = inG L g ++ (if c.f = g then c.s else []) := by simp [inG]
theorem outG_snoc (L : List Sp) (c : Sp) (g : Nat) : outG (L ++ [c]) g = (outG L g || (decide (c.f ≤ g) && decide (g < c.t))) := by simp [outG]
theorem inG_tot (L : List Sp) (g : Nat) : (inG L g).length ≤ tot L := by
  induction L with
  | nil => simp [inG]
  | cons c L ih =>
    simp only [inG, tot, List.flatMap_cons, List.length_append, List.map_cons, List.sum_cons] at ih ⊢
    by_cases h : c.f = g
    · rw [if_pos h]; omega
    · rw [if_neg h, List.length_nil]; omega
theorem tot_take (L : List Sp) (k : Nat) : tot (L.take k) ≤ tot L := by
  have : tot L = tot (L.take k) + tot (L.drop k) := by
    unfold tot
    rw [← List.sum_append, ← List.map_append, List.take_append_drop]
  omega
theorem tot_mem (L : List Sp) (k : Nat) (c : Sp) (h : L[k]? = some c) : c.s.length ≤ tot L := by
  induction L generalizing k with
  | nil => simp at h
  | cons a L ih =>
    cases k with
    | zero => obtain rfl : a = c := by simpa using h
              simp [tot]
    | succ k => have := ih k (by simpa using h); simp [tot] at this ⊢; omega
/-- The arrays that are being made. -/
structure ME (B : Nat) (W : World) (be g1 g2 n : Nat) (I : Nat → By) (O : Nat → Bool) : Prop where
  l0 : be < W.heap.size
  l1 : g1 < W.heap.size
  l2 : g2 < W.heap.size
  ge : B ≤ be ∧ B ≤ g1 ∧ B ≤ g2
  n1 : be ≠ g1
  n2 : be ≠ g2
  n3 : g1 ≠ g2
  c0 : W.cell? ⟨be, 0, none⟩ = some (.int .i64 n)
  c1 : W.cell? ⟨be, 1, none⟩ = some (.slice (some ⟨g1, 0, none⟩) n n)
  c2 : W.cell? ⟨be, 2, none⟩ = some (.slice (some ⟨g2, 0, none⟩) (n + 1) (n + 1))
  o : ∀ g, g < n → W.cell? ⟨g1, g, none⟩ = some (.bool (O g)) ∧ W.frozen? ⟨g1, g, none⟩ = false
  i : ∀ g, g ≤ n → W.cell? ⟨g2, g, none⟩ = some (.string (ba (I g))) ∧ W.frozen? ⟨g2, g, none⟩ = false
theorem set_cell (W : World) (b : Nat) (f : Nat) (u v : Value) (h : W.cell? ⟨b, f, none⟩ = some v) (b' g : Nat) : (W.setCell ⟨b, f, none⟩ u).cell? ⟨b', g, none⟩ = if b' = b ∧ g = f then some u else W.cell? ⟨b', g, none⟩ := by
  by_cases e : b' = b ∧ g = f
  · rw [if_pos e, e.1, e.2]; exact World.cell?_setCell_same _ _ _ (u := v) h
  · rw [if_neg e]
    by_cases e1 : b' = b
    · subst e1
      have e2 : g ≠ f := fun h => e ⟨rfl, h⟩
      simp only [World.cell?, World.setCell, Array.getElem?_modify]
      simp only [if_true]
      cases hh : W.heap[b']? with
      | none => rfl
      | some ob =>
        cases ob <;> simp
        rename_i cs _ _
        rw [Array.getElem?_setIfInBounds_ne]
        exact fun h => e2 h.symm
    · exact World.cell?_of_block (w := W) (Below.heap_setCell W ⟨b, f, none⟩ u b' e1)
theorem set_frozen (W : World) (p : Addr) (u : Value) (q : Addr) : (W.setCell p u).frozen? q = W.frozen? q := by
  simp only [World.frozen?, World.setCell, Array.getElem?_modify]
  by_cases e : p.block = q.block
  · rw [if_pos e]
    cases hh : W.heap[q.block]? with
    | none => rfl
    | some ob => cases ob <;> rfl
  · rw [if_neg e]
theorem ME.congr {B : Nat} {W : World} {be g1 g2 n : Nat} {I I' : Nat → By} {O O' : Nat → Bool} (h : ME B W be g1 g2 n I O) (hI : ∀ g, g ≤ n → I g = I' g) (hO : ∀ g, g < n → O g = O' g) : ME B W be g1 g2 n I' O' :=
  { h with o := fun g hg => by rw [← hO g hg]; exact h.o g hg, i := fun g hg => by rw [← hI g hg]; exact h.i g hg }
theorem ME.drewN {B : Nat} {W : World} {be g1 g2 n : Nat} {I : Nat → By} {O : Nat → Bool} (h : ME B W be g1 g2 n I O) (m : Nat) : ME B (W.drewN m) be g1 g2 n I O :=
  ⟨h.l0, h.l1, h.l2, h.ge, h.n1, h.n2, h.n3, h.c0, h.c1, h.c2, h.o, h.i⟩
theorem ME.drew {B : Nat} {W : World} {be g1 g2 n : Nat} {I : Nat → By} {O : Nat → Bool} (h : ME B W be g1 g2 n I O) : ME B W.drew be g1 g2 n I O :=
  ⟨h.l0, h.l1, h.l2, h.ge, h.n1, h.n2, h.n3, h.c0, h.c1, h.c2, h.o, h.i⟩
theorem set_size (W : World) (p : Addr) (u : Value) : (W.setCell p u).heap.size = W.heap.size := by simp [World.setCell]
theorem ME.setI {B : Nat} {W : World} {be g1 g2 n : Nat} {I : Nat → By} {O : Nat → Bool} (h : ME B W be g1 g2 n I O) (f : Nat) (hf : f ≤ n) (x : By) : ME B (W.setCell ⟨g2, f, none⟩ (.string (ba x))) be g1 g2 n (fun g => if g = f then x else I g) O := by
  have hs := fun b' g => set_cell W g2 f (.string (ba x)) _ (h.i f hf).1 b' g
  refine ⟨by rw [set_size]; exact h.l0, by rw [set_size]; exact h.l1, by rw [set_size]; exact h.l2, h.ge, h.n1, h.n2, h.n3, ?_, ?_, ?_, ?_, ?_⟩
  · rw [hs, if_neg (fun e => h.n2 e.1)]; exact h.c0
  · rw [hs, if_neg (fun e => h.n2 e.1)]; exact h.c1
  · rw [hs, if_neg (fun e => h.n2 e.1)]; exact h.c2
  · intro g hg
    rw [hs, if_neg (fun e => h.n3 e.1), set_frozen]; exact h.o g hg
  · intro g hg
    rw [hs, set_frozen]
    by_cases e : g = f
    · subst e; simp; exact (h.i g hg).2
    · rw [if_neg (fun h => e h.2)]; simp only [e, if_false]; exact h.i g hg
theorem ME.setO {B : Nat} {W : World} {be g1 g2 n : Nat} {I : Nat → By} {O : Nat → Bool} (h : ME B W be g1 g2 n I O) (f : Nat) (hf : f < n) : ME B (W.setCell ⟨g1, f, none⟩ (.bool true)) be g1 g2 n I (fun g => if g = f then true else O g) := by
  have hs := fun b' g => set_cell W g1 f (.bool true) _ (h.o f hf).1 b' g
  refine ⟨by rw [set_size]; exact h.l0, by rw [set_size]; exact h.l1, by rw [set_size]; exact h.l2, h.ge, h.n1, h.n2, h.n3, ?_, ?_, ?_, ?_, ?_⟩
  · rw [hs, if_neg (fun e => h.n1 e.1)]; exact h.c0
  · rw [hs, if_neg (fun e => h.n1 e.1)]; exact h.c1
  · rw [hs, if_neg (fun e => h.n1 e.1)]; exact h.c2
  · intro g hg
    rw [hs, set_frozen]
    by_cases e : g = f
    · subst e; simp; exact (h.o g hg).2
    · rw [if_neg (fun h => e h.2)]; simp only [e, if_false]; exact h.o g hg
  · intro g hg
    rw [hs, if_neg (fun e => h.n3 e.1.symm), set_frozen]; exact h.i g hg
theorem ME.isE {B : Nat} {W : World} {be g1 g2 n : Nat} {I : Nat → By} {O : Nat → Bool} (h : ME B W be g1 g2 n I O) : IsE W (.agg #[.int .i64 n, .slice (some ⟨g1, 0, none⟩) n n, .slice (some ⟨g2, 0, none⟩) (n + 1) (n + 1)]) n I O :=
  ⟨_, n, g2, n + 1, rfl, Nat.le_refl _, Nat.le_refl _, fun g hg => ⟨g1, rfl, (h.o g hg).1⟩, fun g hg => (h.i g hg).1⟩
theorem ME.kp {S : Nat → Prop} {B : Nat} {W W' : World} {be g1 g2 n : Nat} {I : Nat → By} {O : Nat → Bool} (h : ME B W be g1 g2 n I O) (hk : Kp S W W') (h0 : ¬ S be) (h1 : ¬ S g1) (h2 : ¬ S g2) : ME B W' be g1 g2 n I O :=
  ⟨Nat.lt_of_lt_of_le h.l0 hk.size, Nat.lt_of_lt_of_le h.l1 hk.size, Nat.lt_of_lt_of_le h.l2 hk.size, h.ge, h.n1, h.n2, h.n3, hk.cellv h.c0 h0, hk.cellv h.c1 h0, hk.cellv h.c2 h0,
    fun g hg => ⟨hk.cellv (h.o g hg).1 h1, (hk.frozen (p := ⟨g1, g, none⟩) h.l1 h1).trans (h.o g hg).2⟩, fun g hg => ⟨hk.cellv (h.i g hg).1 h2, (hk.frozen (p := ⟨g2, g, none⟩) h.l2 h2).trans (h.i g hg).2⟩⟩
end Go.Proofs.Ytobdfddpiobhhaa
