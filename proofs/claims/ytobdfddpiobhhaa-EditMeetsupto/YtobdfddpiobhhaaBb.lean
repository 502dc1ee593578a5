/- A writer's Builder is read. -/
import Derived.Test.YtobdfddpiobhhaaBa
namespace Go.Proofs.Ytobdfddpiobhhaa
open Go.RowKit
open EM
theorem Kp.freeze {S : Nat → Prop} {a w : World} (h : Kp S a w) {p : Addr} (hp : S p.block) (n : Nat) : Kp S a (w.freeze p n) := by
  unfold World.freeze
  split
  · exact h
  · refine ⟨h.os, h.tape, h.output, by simpa using h.size, fun k hk hn => ?_⟩
    simp only [Array.getElem?_modify]
    rw [if_neg (fun e : p.block = k => hn (e ▸ hp))]
    exact h.block k hk hn
set_option maxHeartbeats 1000000 in
set_option maxRecDepth 100000 in
theorem stringIn_nil (b : Nat) (w : World) {sv at_ op fr p : Value} (h : WB w b sv at_ op fr p (.slice none 0 0)) :
    Calls Try.prog 12 #[.pointer (some ⟨b, 4, none⟩)] w fun e w' => e = .returned (.string ⟨#[]⟩) ∧ w'.heap.size = w.heap.size ∧ Kp (fun _ => False) w w' := by
  have hUS : ∀ W : World, (Builtin.unsafeString_ #[54, 3] 9 #[.pointer none, .int .i64 0]).run Try.prog W = .ok (.string .empty) W := fun W => Lib.run_unsafeString_none W _ _ _ none
  have c1 : w.drew.cell? ⟨b, 5, none⟩ = some (.slice none 0 0) := h.cells.2.2.2.2.2
  have hSD : (Builtin.unsafeSliceData_ #[35] 54 #[.slice none 0 0]).run Try.prog w.drew = .ok (.pointer none) w.drew := rfl
  go_enter Try.func12, Try.ntmps12
  go_wp2
  go_region
  all_goals (go_wp2; go_ret; exact ⟨rfl, rfl, (Kp.refl _ w).drew⟩)
set_option maxHeartbeats 1000000 in
set_option maxRecDepth 100000 in
theorem stringIn_some (B b : Nat) (w : World) {sv at_ op fr p bv : Value} (l : List UInt8) (h : WB w b sv at_ op fr p bv) (hown : w.ownsRow B 5 1 bv l.length (Lib.byteCells l)) (h0 : l ≠ []) :
    Calls Try.prog 12 #[.pointer (some ⟨b, 4, none⟩)] w fun e w' => e = .returned (.string (ba l)) ∧ w'.heap.size = w.heap.size ∧ Kp (fun k => bv.ownBlock = some k) w w' := by
  have hl0 : l.length ≠ 0 := by simpa using h0
  obtain ⟨g, cap, cur, rfl, hbg, hg, hnc, hcm, hcs, htake⟩ : ∃ g cap cur, bv = .slice (some ⟨g, 0, none⟩) l.length cap ∧ B ≤ g ∧ w.heap[g]? = some (.cells cur 5 (0, 0)) ∧ l.length ≤ cap ∧ cap ≤ maxLen ∧ cur.size = cap * 1 ∧ cur.toList.take (l.length * 1) = Lib.byteCells l := by
    rcases hown.2 with ⟨_, hz⟩ | ⟨g, cap, cur, hv, r⟩
    · exact absurd hz hl0
    · exact ⟨g, cap, cur, hv, r⟩
  have c1 : w.drew.cell? ⟨b, 5, none⟩ = some (.slice (some ⟨g, 0, none⟩) l.length cap) := h.cells.2.2.2.2.2
  have hSD : (Builtin.unsafeSliceData_ #[35] 54 #[.slice (some ⟨g, 0, none⟩) l.length cap]).run Try.prog w.drew = .ok (.pointer (some ⟨g, 0, none⟩)) w.drew :=
    Lib.run_unsafeSliceData_row _ _ _ _ _ _ (by omega)
  have hUS : (Builtin.unsafeString_ #[54, 3] 9 #[.pointer (some ⟨g, 0, none⟩), .int .i64 l.length]).run Try.prog w.drew = .ok (.string ⟨l.toArray⟩) (w.drew.freeze ⟨g, 0, none⟩ l.length) := by
    refine Lib.run_unsafeString_row w.drew 54 3 9 5 Try.underlying54 cells5 g cur.size (by have hg' : w.drew.heap[g]? = some (.cells cur 5 (0, 0)) := hg; simp [World.shape?, hg']) l h0 (by omega) (by unfold maxLen at hcm; omega) ?_
    intro j x hx
    have := hown.cells (g := g) rfl j (.int .u8 x.toNat) (by simp [Lib.byteCells, hx])
    exact this
  have HK := hide (show Kp (fun k => (Value.slice (some ⟨g, 0, none⟩) l.length cap).ownBlock = some k) w (w.drew.freeze ⟨g, 0, none⟩ l.length) from ((Kp.refl (fun k => (Value.slice (some ⟨g, 0, none⟩) l.length cap).ownBlock = some k) w).drew).freeze (p := ⟨g, 0, none⟩) rfl _)
  have HZ := hide (show (w.drew.freeze ⟨g, 0, none⟩ l.length).heap.size = w.heap.size by unfold World.freeze; split <;> simp)
  clear hown hg htake hcs hnc hcm hbg
  go_enter Try.func12, Try.ntmps12
  go_wp2
  go_region
  all_goals (go_wp2; go_ret; exact ⟨rfl, HZ.out, HK.out⟩)
/-- Whatever it holds. -/
theorem stringIn (B b : Nat) (w : World) {sv at_ op fr p bv : Value} (l : List UInt8) (h : WB w b sv at_ op fr p bv) (hu : BU w B b p bv l) :
    Calls Try.prog 12 #[.pointer (some ⟨b, 4, none⟩)] w fun e w' => e = .returned (.string (ba l)) ∧ w'.heap.size = w.heap.size ∧ Kp (fun k => bv.ownBlock = some k) w w' := by
  rcases hu with ⟨rfl, rfl, rfl⟩ | ⟨_, h0, ho, _⟩
  · refine (stringIn_nil b w h).mono ?_
    rintro e w' ⟨rfl, hz, hk⟩
    exact ⟨rfl, hz, hk.mono (fun _ _ h => h.elim)⟩
  · exact stringIn_some B b w l h ho h0
end Go.Proofs.Ytobdfddpiobhhaa
