/- A writer's edit, and where its row lies. -/
import Derived.Test.YtobdfddpiobhhaaPa
namespace Go.Proofs.Ytobdfddpiobhhaa
open Go.RowKit
open EM
set_option maxHeartbeats 1000000 in
theorem edit_at (B b : Nat) (w : World) (W : Wr) (F : Nat → Prop) (h : IsW B w b W F) (hB : B ≤ w.heap.size) (ha : W.a ≤ 1099511627776) (hl : W.l.length ≤ 1099511627776) :
    Calls Try.prog 25 #[.pointer (some ⟨b, 0, none⟩)] w fun e w' => ∃ v, e = .returned v ∧ w'.ownsRow B 32 3 v W.spans.length ((W.spans.map raw).flatMap Rw.vals) ∧ Kp F w w' ∧ ∀ k, v.ownBlock = some k → F k ∨ (w.heap.size ≤ k ∧ k < w'.heap.size) := by
  have H := hide h
  clear h
  go_enter Try.func25, Try.ntmps25
  go_wp2_with fail
  refine (end_any B b w W F H.out hB ha hl).mono ?_
  rintro e w1 ⟨rfl, hW1, hK1⟩
  obtain ⟨⟨sv, p, bv, fr, h1, h2, h3, h4, h5, h6, h7⟩, f, lt⟩ := hW1
  obtain ⟨c0, c1, c2, c3, c4, c5⟩ := h1.cells
  have HQ := hide (And.intro h2 (And.intro hK1 h6))
  clear h1 h2 h3 h4 h6 h7 lt hK1 f
  go_wp2_with fail
  go_ret
  exact ⟨_, rfl, (HQ.out).1, (HQ.out).2.1, fun k hk => ((HQ.out).2.2 k hk).1⟩
end Go.Proofs.Ytobdfddpiobhhaa
