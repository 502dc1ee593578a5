/- Where some tokens end; a text with its tokens in memory. -/
import Derived.Test.YtgjbafamiggafaaGreatDoorAa
import Derived.Test.YtgjbafamiggafaaGreatDoorTa
namespace Go.Proofs.YtgjbafamiggafaaGreatDoor
open Go.RowKit
open M

theorem ret_i {a a' : Int} (h : a = a') : Ending.returned (.int .i64 a) = .returned (.int .i64 a') := by rw [h]
/-- A text with its tokens in memory. -/
structure IsD (w : World) (b : Nat) (v : Value) (s : ByteArray) : Prop where
  text : w.cell? ⟨b, 0, none⟩ = some (.string s)
  held : w.cell? ⟨b, 1, none⟩ = some v
  row : IsT w v (toks 0 (bs s))
theorem IsD.below {w w' : World} {b : Nat} {v : Value} {s : ByteArray} (h : IsD w b v s) (hk : Below w.heap.size w w') : IsD w' b v s :=
  ⟨(Kp.ofBelow hk (fun _ => False)).cellv h.text id, (Kp.ofBelow hk (fun _ => False)).cellv h.held id, h.row.below hk⟩

set_option maxRecDepth 100000 in
set_option maxHeartbeats 4000000 in
theorem new_any (s : ByteArray) (w : World) (hT : Tabs w) (hs : s.size ≤ 1073741824) :
    Calls Tryz.prog 39 #[.string s] w fun e w' => ∃ b, e = .returned (.pointer (some ⟨b, 0, none⟩)) ∧ Hid (∃ v, w.heap.size ≤ b ∧ b < w'.heap.size ∧ IsD w' b v s ∧ (∀ k, v.ownBlock = some k → w.heap.size ≤ k ∧ k < b) ∧ Below w.heap.size w w') := by
  go_enter Tryz.func39, Tryz.ntmps39
  go_wp2_with fail
  refine (tokens_any s _ hT hs).mono ?_
  rintro e w1 ⟨v, rfl, hown, k1⟩
  have HO := hide (owns_ge hown)
  have HR := hide (IsT.ofOwns hown)
  have K1 := hide k1
  obtain ⟨ao, cap, rfl, -⟩ := IsT.ofOwns hown
  clear hown k1
  go_wp2_with fail
  go_ret
  refine ⟨w1.heap.size, rfl, _, (K1.out).size, by simp, ⟨?_, ?_, (HR.out).below ((Below.refl _ w1).alloc (Nat.le_refl _) _)⟩, HO.out, (K1.out).alloc (K1.out).size _⟩
  · rw [cell_of_row _ _ 0 _ _ _ (heap_alloc_new w1 _)]; rfl
  · rw [cell_of_row _ _ 1 _ _ _ (heap_alloc_new w1 _)]; rfl
set_option maxRecDepth 100000 in
set_option maxHeartbeats 4000000 in
theorem text_any (b : Nat) (v : Value) (s : ByteArray) (w : World) (h : IsD w b v s) :
    Calls Tryz.prog 55 #[.pointer (some ⟨b, 0, none⟩)] w fun e w' => e = .returned (.string s) ∧ Below w.heap.size w w' := by
  obtain ⟨q1, q2, -⟩ := h
  go_enter Tryz.func55, Tryz.ntmps55
  go_wp2_with fail
  go_ret
  exact ⟨rfl, Below.refl _ _⟩
end Go.Proofs.YtgjbafamiggafaaGreatDoor
