/- The plain edit of an edit: the walk. -/
import Derived.Test.YtobdfddpiobhhaaPa
namespace Go.Proofs.Ytobdfddpiobhhaa
open Go.RowKit
open EM
theorem IsW.new (w : World) : IsW w.heap.size (w.alloc (.cells #[.slice none 0 0, .int .i64 0, .bool false, .int .i64 0, .pointer none, .slice none 0 0] 56)) w.heap.size Wr.new (fun k => k = w.heap.size) := by
  refine ⟨⟨.slice none 0 0, .pointer none, .slice none 0 0, 0, heap_alloc_new w _, World.ownsRow_nil _ _ _ _, .inl ⟨rfl, rfl, rfl⟩, (fun _ _ h => by cases h), by omega, fun k hk => by simp [Value.ownBlock] at hk, fun k hk => by simp [Value.ownBlock] at hk⟩, rfl, fun k hk => ?_⟩
  subst hk
  simp
theorem len_sts (a : Nat) (L : List Sp) : (sts a L).length ≤ 3 * L.length := by
  induction L generalizing a with
  | nil => simp [sts]
  | cons c L ih =>
    have h1 := ih c.t
    have h2 : (real (st3 a c)).length ≤ 3 := Nat.le_trans (List.length_filter_le _ _) (by simp [st3])
    rw [sts, List.length_append, List.length_cons]
    omega
/-- What holds while an edit is made plain: D: the steps that are done; S: those that are not. -/
structure PI (B : Nat) (w wr : World) (b b0 b1 b2 k : Nat) (D S : List St) (FW FN : Nat → Prop) : Prop where
  sb : SB wr k (hdS S)
  nx : IsN B wr b0 b1 b2 S.tail FN
  wr_ : IsW B wr b (D.foldl Wr.add Wr.new) FW
  sm : Wr.small (D.foldl Wr.add Wr.new) (csum D) D.length
  dj : ∀ i, FW i → ¬ FN i
  kb : B ≤ k ∧ ¬ FW k ∧ ¬ FN k
  be : Below B w wr
theorem PI.start {w w1 w2 : World} {b0 b1 b2 : Nat} {Ls : List Sp} (hW : IsW w.heap.size (w.alloc (.cells #[.slice none 0 0, .int .i64 0, .bool false, .int .i64 0, .pointer none, .slice none 0 0] 56)) w.heap.size Wr.new (fun k => k = w.heap.size))
    (h1 : Below (w.heap.size + 1) (w.alloc (.cells #[.slice none 0 0, .int .i64 0, .bool false, .int .i64 0, .pointer none, .slice none 0 0] 56)) w1) (h2 : Kp (fun k => w.heap.size + 1 ≤ k ∧ k < w1.heap.size) w1 w2)
    (hN : IsN w.heap.size w2 b0 b1 b2 (sts 0 Ls).tail (fun k => (w.heap.size + 1 ≤ k ∧ k < w1.heap.size) ∨ (w1.heap.size ≤ k ∧ k < w2.heap.size))) (_hl : Ls.length ≤ 1073741824) :
    PI w.heap.size w (w2.alloc (.cells #[.int .i64 (hdS (sts 0 Ls)).k, .int .i64 (hdS (sts 0 Ls)).c, .string (ba (hdS (sts 0 Ls)).s)] 43)) w.heap.size b0 b1 b2 w2.heap.size [] (sts 0 Ls) (fun k => k = w.heap.size) (fun k => (w.heap.size + 1 ≤ k ∧ k < w1.heap.size) ∨ (w1.heap.size ≤ k ∧ k < w2.heap.size)) := by
  have z1 := h1.size
  simp only [World.size_alloc] at z1
  have z2 := h2.size
  have ka : Kp (fun _ => False) w2 (w2.alloc (.cells #[.int .i64 (hdS (sts 0 Ls)).k, .int .i64 (hdS (sts 0 Ls)).c, .string (ba (hdS (sts 0 Ls)).s)] 43)) := (Kp.refl _ _).alloc _
  have k1 : Kp (fun _ => False) (w.alloc (.cells #[.slice none 0 0, .int .i64 0, .bool false, .int .i64 0, .pointer none, .slice none 0 0] 56)) w1 := Kp.ofBelow (by rw [World.size_alloc]; exact h1) _
  refine ⟨heap_alloc_new w2 _, hN.keep ka (fun _ _ => id) (fun _ h => h.elim), ((hW.keep k1 (fun _ _ => id)).keep h2 (fun k hk hh => by omega)).keep ka (fun _ _ => id), ⟨by simp [Wr.new], by simp [Wr.new, Wr.txt], by simp [Wr.new]⟩, fun i hi hh => by omega, ⟨by omega, by omega, by omega⟩, ?_⟩
  have b1' : Below w.heap.size w w1 := ((Below.refl _ w).alloc (Nat.le_refl _) _).trans (h1.mono (by omega))
  exact (b1'.trans (h2.below (by omega) (fun k hk => by omega))).alloc (by omega) _
theorem PI.step {B : Nat} {w wr w3 w4 : World} {b b0 b1 b2 k : Nat} {D S : List St} {s : St} {FW FN : Nat → Prop} (hP : PI B w wr b b0 b1 b2 k D (s :: S) FW FN)
    (hW : IsW B w3 b ((D.foldl Wr.add Wr.new).add s) (fun i => FW i ∨ (wr.heap.size ≤ i ∧ i < w3.heap.size))) (hK : Kp FW wr w3)
    (hN : IsN B w4 b0 b1 b2 S.tail (fun i => FN i ∨ (w3.heap.size + 1 ≤ i ∧ i < w4.heap.size))) (hK4 : Kp FN (w3.alloc (.cells #[.int .i64 s.k, .int .i64 s.c, .string (ba s.s)] 43)) w4) (hS : SB w4 w3.heap.size s) (hF : ∀ i, FN i → B ≤ i ∧ i < wr.heap.size) :
    PI B w (set3 w4 w3.heap.size (.int .i64 (hdS S).k) (.int .i64 (hdS S).c) (.string (ba (hdS S).s))) b b0 b1 b2 w3.heap.size (D ++ [s]) S (fun i => FW i ∨ (wr.heap.size ≤ i ∧ i < w3.heap.size)) (fun i => FN i ∨ (w3.heap.size + 1 ≤ i ∧ i < w4.heap.size)) := by
  have z0 := hP.be.size
  have z3 := hK.size
  have z4 := hK4.size
  simp only [World.size_alloc] at z4
  have hlt := hP.wr_.lt
  have kX : Kp (fun i => i = w3.heap.size) w4 (set3 w4 w3.heap.size (.int .i64 (hdS S).k) (.int .i64 (hdS S).c) (.string (ba (hdS S).s))) := set3_kp (Kp.refl _ _) _ _ _ _ (fun _ => rfl)
  have hB : B ≤ wr.heap.size := Nat.le_trans (hlt b hP.wr_.f).1 (Nat.le_of_lt (hlt b hP.wr_.f).2)
  refine ⟨set3_at hS _ _ _, hN.keep kX (fun i hi e => ?_) (fun i hi => by omega), ?_, ?_, fun i hi hh => ?_, ⟨by omega, fun h => ?_, fun h => ?_⟩, ?_⟩
  · rcases hi with hi | hi
    · have := hF i hi; omega
    · omega
  · rw [List.foldl_append]
    refine ((hW.keep ((Kp.refl (fun _ => False) w3).alloc _) (fun _ _ => id)).keep hK4 (fun i hi hh => ?_)).keep kX (fun i hi e => ?_)
    · rcases hi with hi | hi
      · exact hP.dj i hi hh
      · have := hF i hh; omega
    · rcases hi with hi | hi
      · have := hlt i hi; omega
      · omega
  · rw [List.foldl_append, csum_append, List.length_append]
    have := Wr.small_add _ s _ _ hP.sm
    simpa [csum] using this
  · rcases hi with hi | hi
    · rcases hh with hh | hh
      · exact hP.dj i hi hh
      · have := hlt i hi; omega
    · rcases hh with hh | hh
      · have := hF i hh; omega
      · omega
  · rcases h with h | h
    · have := hlt _ h; omega
    · omega
  · rcases h with h | h
    · have := hF _ h; omega
    · omega
  · have b3 : Below B w w3 := hP.be.trans (hK.below hB (fun i hi => (hlt i hi).1))
    have b4 : Below B w w4 := (b3.alloc (by omega) _).trans (hK4.below (by simp; omega) (fun i hi => (hF i hi).1))
    exact set3_below b4 _ (by omega) _ _ _
end Go.Proofs.Ytobdfddpiobhhaa
