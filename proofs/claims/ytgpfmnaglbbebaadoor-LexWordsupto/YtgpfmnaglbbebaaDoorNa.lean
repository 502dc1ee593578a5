/- Is a text one token alone? Is it a name? -/
import Derived.Test.YtgpfmnaglbbebaaDoorIf
namespace Go.Proofs.YtgpfmnaglbbebaaDoor
open Go.RowKit
open M

/-- Is a text one token, of a kind? -/
def aloneB (l : List UInt8) (kind : Nat) : Bool := decide (l ≠ [] ∧ M.tok l = (kind, l.length))

set_option maxRecDepth 100000 in
set_option maxHeartbeats 4000000 in
theorem alone_any (s : ByteArray) (kind : Nat) (w : World) (hT : Tabs w) (hs : s.size ≤ 1073741824) (_hk : kind ≤ 8) :
    Calls Tryd.prog 29 #[.string s, .int .i64 kind] w fun e w' => e = .returned (.bool (aloneB (bs s) kind)) ∧ Below w.heap.size w w' := by
  by_cases h0 : s.size = 0
  · obtain rfl : s = ⟨#[]⟩ := bs_inj (by rw [← List.length_eq_zero_iff.1 (by rw [bs_len]; exact h0 : (bs s).length = 0)]; rfl)
    have e : aloneB (bs ⟨#[]⟩) kind = false := by unfold aloneB; exact decide_eq_false (fun h => h.1 rfl)
    rw [e]
    go_enter Tryd.func29, Tryd.ntmps29
    go_wp2_with fail
    go_ret
    exact ⟨rfl, Below.refl _ _⟩
  · have hne : bs s ≠ [] := by intro e; have := congrArg List.length e; rw [bs_len] at this; exact h0 this
    have hb : (s.toList == []) = false := by rw [ByteArray.toList_eq, beq_eq_false_iff_ne]; exact hne
    have hbn : (s.toList != []) = true := by rw [bne, hb]; rfl
    have hp : 0 < s.size := by omega
    have h7 := hT.2
    go_enter Tryd.func29, Tryd.ntmps29
    go_wp2_with fail
    refine (readFrom_any s 0 _ hT (Nat.zero_le _) (by omega)).mono ?_
    rintro e w1 ⟨rfl, r1, k1⟩
    have z1 := k1.size
    have K1 := hide k1
    clear k1
    go_wp2_with fail
    refine (token_any w.heap.size s 0 _ r1 hp).mono ?_
    rintro e w2 ⟨rfl, r2, k2⟩
    have K2 := hide ((K1.out).trans (On.below k2 z1 (Nat.le_refl _)))
    clear k2 r2
    rw [List.drop_zero]
    obtain ⟨T, hTk⟩ : ∃ T, M.tok (bs s) = T := ⟨_, rfl⟩
    have HTK := hide hTk
    rw [hTk]
    clear hTk
    have HA : Hid (aloneB (bs s) kind = decide (T.1 = kind ∧ T.2 = s.size)) := by
      show _ = _
      unfold aloneB; rw [HTK.out, bs_len, Bool.eq_iff_iff]; simp [hne, Prod.ext_iff]
    go_wp2_with fail
    all_goals
      go_ret
      refine ⟨retb ?_, K2.out⟩
      rw [HA.out]
      first
        | (rw [eq_comm, decide_eq_true_iff]; omega)
        | (rw [eq_comm, decide_eq_false_iff_not]; omega)
        | (rw [eq_comm, decide_eq_true_iff]; simp_all; omega)
        | (rw [eq_comm, decide_eq_false_iff_not]; simp_all; omega)

set_option maxHeartbeats 4000000 in
theorem name_any (s : ByteArray) (w : World) (hT : Tabs w) (hs : s.size ≤ 1073741824) :
    Calls Tryd.prog 12 #[.string s] w fun e w' => e = .returned (.bool (decide (s.size ≤ 40) && aloneB (bs s) 3)) ∧ Below w.heap.size w w' := by
  by_cases h : s.size ≤ 40
  · have i1 : decide ((s.size : Int) ≤ 40) = true := by simp; omega
    rw [decide_eq_true h, Bool.true_and]
    go_enter Tryd.func12, Tryd.ntmps12
    go_wp2_with fail
    refine (alone_any s 3 _ hT hs (by omega)).mono ?_
    rintro e w1 ⟨rfl, k1⟩
    go_wp2_with fail
    go_ret
    exact ⟨rfl, k1⟩
  · have i1 : decide ((s.size : Int) ≤ 40) = false := by simp; omega
    rw [decide_eq_false h, Bool.false_and]
    go_enter Tryd.func12, Tryd.ntmps12
    go_wp2_with fail
    go_ret
    exact ⟨rfl, Below.refl _ _⟩
end Go.Proofs.YtgpfmnaglbbebaaDoor
