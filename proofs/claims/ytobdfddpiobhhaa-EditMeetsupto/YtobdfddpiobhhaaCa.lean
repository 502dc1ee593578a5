/- Cursors: made, and whether they have ended. -/
import Derived.Test.YtobdfddpiobhhaaPb
namespace Go.Proofs.Ytobdfddpiobhhaa
open Go.RowKit
open EM
/-- A cursor's block. -/
def CB (w : World) (c : Nat) (nv : Value) (s : St) : Prop := w.heap[c]? = some (.cells #[nv, .int .i64 s.k, .int .i64 s.c, .string (ba s.s)] 58 (0, 0))
theorem CB.cells {w : World} {c : Nat} {nv : Value} {s : St} (h : CB w c nv s) : w.cell? ⟨c, 0, none⟩ = some nv ∧ w.cell? ⟨c, 1, none⟩ = some (.int .i64 s.k) ∧ w.cell? ⟨c, 2, none⟩ = some (.int .i64 s.c) ∧ w.cell? ⟨c, 3, none⟩ = some (.string (ba s.s)) ∧ c < w.heap.size := by
  unfold CB at h
  exact ⟨by rw [Lib.cell_of_heap h]; rfl, by rw [Lib.cell_of_heap h]; rfl, by rw [Lib.cell_of_heap h]; rfl, by rw [Lib.cell_of_heap h]; rfl, heap_lt h⟩
/-- A cursor in memory: the steps that are left. -/
structure IsC (B : Nat) (w : World) (c : Nat) (A : List St) (F : Nat → Prop) : Prop where
  h : ∃ b0 b1 b2 FN, CB w c (nextV b0 b1 b2) (hdS A) ∧ IsN B w b0 b1 b2 A.tail FN ∧ ¬ FN c ∧ ∀ k, FN k → F k
  f : F c
  lt : ∀ k, F k → B ≤ k ∧ k < w.heap.size
  ps : pos A
theorem IsC.keep {T F : Nat → Prop} {B : Nat} {w w' : World} {c : Nat} {A : List St} (h : IsC B w c A F) (hk : Kp T w w') (hd : ∀ k, F k → ¬ T k) (hT : ∀ k, T k → B ≤ k) : IsC B w' c A F := by
  obtain ⟨⟨b0, b1, b2, FN, h1, h2, h3, h4⟩, f, lt, ps⟩ := h
  exact ⟨⟨b0, b1, b2, FN, hk.heap h1 (hd c f), h2.keep hk (fun k hkk => hd k (h4 k hkk)) hT, h3, h4⟩, f, fun k hkk => ⟨(lt k hkk).1, Nat.lt_of_lt_of_le (lt k hkk).2 hk.size⟩, ps⟩
theorem IsC.more {F F' : Nat → Prop} {B : Nat} {w : World} {c : Nat} {A : List St} (h : IsC B w c A F) (hF : ∀ k, F k → F' k) (hl : ∀ k, F' k → B ≤ k ∧ k < w.heap.size) : IsC B w c A F' := by
  obtain ⟨⟨b0, b1, b2, FN, h1, h2, h3, h4⟩, f, lt, ps⟩ := h
  exact ⟨⟨b0, b1, b2, FN, h1, h2, h3, fun k hk => hF k (h4 k hk)⟩, hF c f, hl, ps⟩
set_option maxHeartbeats 1000000 in
theorem cursorOf_any (B : Nat) (v : Value) (Ls : List Sp) (w : World) (hB : B ≤ w.heap.size) (h : IsL w v (Ls.map raw)) (hb : ∀ k, v.ownBlock = some k → k < B) (n : Nat) (hok : Ok 0 n Ls) (hn : n ≤ 1099511627776) (ht : tot Ls ≤ 1099511627776) :
    Calls Try.prog 14 #[v] w fun e w' => ∃ c, e = .returned (.pointer (some ⟨c, 0, none⟩)) ∧ IsC B w' c (sts 0 Ls) (fun k => w.heap.size ≤ k ∧ k < w'.heap.size) ∧ Below w.heap.size w w' := by
  have H := hide h
  have HB := hide hb
  have HOK := hide hok
  clear h hb hok
  go_enter Try.func14, Try.ntmps14
  go_wp2_with fail
  refine (stepsOf_any B v Ls w hB H.out HB.out n HOK.out hn ht).mono ?_
  rintro e w1 ⟨rfl, hN1, hb1⟩
  have z1 := hb1.size
  have HN1 := hide hN1
  have Hb1 := hide hb1
  clear hN1 hb1
  unfold nextV
  go_wp2_with fail
  refine (next_any B _ _ _ (sts 0 Ls) _ w1 HN1.out (by omega)).mono ?_
  rintro e w2 ⟨rfl, hN2, hK2⟩
  have HN2 := hide hN2
  have HK2 := hide hK2
  clear hN2 hK2
  unfold stV
  go_wp2_with fail
  go_ret
  have z2 := (HK2.out).size
  refine ⟨w2.heap.size, rfl, ⟨⟨_, _, _, _, heap_alloc_new w2 _, (HN2.out).keep ((Kp.refl (fun _ => False) w2).alloc _) (fun _ _ => id) (fun _ h => h.elim), by omega, fun k hk => by simp; omega⟩, by simp; omega, fun k hk => ⟨by omega, hk.2⟩, pos_sts 0 Ls⟩, ?_⟩
  exact ((Hb1.out).trans ((HK2.out).below z1 (fun k hk => hk.1))).alloc (by omega) _
set_option maxHeartbeats 1000000 in
theorem ended_any (B : Nat) (w : World) (c : Nat) (A : List St) (F : Nat → Prop) (h : IsC B w c A F) :
    Calls Try.prog 19 #[.pointer (some ⟨c, 0, none⟩)] w fun e w' => e = .returned (.bool A.isEmpty) ∧ w' = w := by
  obtain ⟨⟨b0, b1, b2, FN, h1, h2, h3, h4⟩, f, lt, ps⟩ := h
  obtain ⟨c0, c1, c2, c3, hl⟩ := h1.cells
  clear h1 h2 h3 h4 f lt
  cases A with
  | nil =>
    simp only [hdS, St.k, St.c, St.s] at c1 c2 c3
    rw [show ba [] = ⟨#[]⟩ from rfl] at c3
    go_enter Try.func19, Try.ntmps19
    go_wp2_with fail
    go_ret
    exact ⟨rfl, rfl⟩
  | cons s A =>
    have hsc : 0 < s.c := ps s (by simp)
    simp only [hdS] at c1 c2 c3
    have hsc1 : ((s.c : Int) == 0) = false := by simp only [beq_eq_false_iff_ne, ne_eq]; omega
    have hsc2 : ¬ (s.c : Int) = 0 := by omega
    clear ps
    go_enter Try.func19, Try.ntmps19
    go_wp2_with fail
    go_ret
    exact ⟨rfl, rfl⟩
end Go.Proofs.Ytobdfddpiobhhaa
