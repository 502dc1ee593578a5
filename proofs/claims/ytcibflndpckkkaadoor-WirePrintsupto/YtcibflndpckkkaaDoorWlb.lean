/- The document's writer of messages: Print of any value. -/
import Derived.Test.YtcibflndpckkkaaDoorWla
namespace Go.Proofs.YtcibflndpckkkaaDoor
open Go.RowKit
open Wi

set_option maxRecDepth 100000 in
set_option maxHeartbeats 2000000 in
theorem wprint_deep (w : World) (N : Nat) (k n : Int) (t : List UInt8) (ks : List (List UInt8)) (kids : List J) (ao bo : Option Addr) (cap bcap : Nat) (hb : w.heap[N]? = some (jcell k n t (.slice ao ks.length cap) (.slice bo kids.length bcap))) (hln : ks.length + kids.length ≤ 134217728)
    (hk : k = 4 ∨ k = 5) (hok : ownOk k n t ks kids.length = true) :
    Calls Tryd.prog 9 #[.pointer (some ⟨N, 0, none⟩), .int .i64 40] w fun en w' => en = .returned (.tuple #[.string ⟨#[]⟩, .int .i64 12]) ∧ Below w.heap.size w w' := by
  obtain ⟨c0, c1, c2, c3, c4⟩ := jcell_all hb
  have z1 : ((ba t).toList == []) = decide (t = []) := by
    rw [ByteArray.toList_eq]
    show (bs (ba t) == []) = _
    rw [bs_ba, Bool.eq_iff_iff]; simp
  have z2 : ((ba t).toList != []) = !decide (t = []) := by rw [bne, z1]
  have z3 : (n == 0) = decide (n = 0) := by rw [Bool.eq_iff_iff]; simp
  have z4 : (n != 0) = !decide (n = 0) := by rw [bne, z3]
  rcases hk with rfl | rfl
  · have hf : decide (n = 0) = true ∧ decide (t = []) = true ∧ ks.length = 0 := by
      revert hok; unfold ownOk; simp
      intro a b c; exact ⟨a, b, c⟩
    obtain ⟨y0, y1, y2⟩ := hf
    rw [y0] at z3 z4
    rw [y1] at z1 z2
    have z6 : decide ((0 : Int) < (ks.length : Int)) = false := by rw [y2]; rfl
    have z8 : decide (0 < ks.length) = false := by rw [y2]; rfl
    clear hok y0 y1 y2 hb
    go_enter Tryd.func9, Tryd.ntmps9
    go_wp2_with fail
    go_quiet (fail)
    go_wp2_with fail
    go_ret2
    exact ⟨rfl, belowN (Below.refl _ w) _⟩
  · have hf : decide (n = 0) = true ∧ decide (t = []) = true ∧ ks.length = kids.length := by
      revert hok; unfold ownOk; simp
      intro a b c; exact ⟨a, b, c⟩
    obtain ⟨y0, y1, y2⟩ := hf
    rw [y0] at z3 z4
    rw [y1] at z1 z2
    have z7 : ((ks.length : Int) != (kids.length : Int)) = false := by rw [y2]; simp
    have z7' : ((ks.length : Int) == (kids.length : Int)) = true := by rw [y2]; simp
    clear hok y0 y1 y2 hb
    go_enter Tryd.func9, Tryd.ntmps9
    go_wp2_with fail
    go_quiet (fail)
    go_wp2_with fail
    revert nq
    intro n1
    go_quiet (fail)
    go_wp2_with fail
    go_ret2
    exact ⟨rfl, belowN (Below.refl _ w) _⟩

theorem wprint_W (d : Nat) (hd : d ≤ 40) (ih : ∀ e, d = e + 1 → PrC e) : PrC d := by
  intro w A v j hj hw
  cases hj with
  | mk N k n t ks kids ao bo cap bcap vs hA hb hc hdd hk hr hp =>
  have hln : ks.length + kids.length ≤ 134217728 := by have := wt_len k n t ks kids; omega
  obtain ⟨m, hm, hm0, hm1⟩ : ∃ m, pr d (.mk k n t ks kids) = prW m (.mk k n t ks kids) ∧ (d = 0 → ∀ b ks kids, m b ks kids = .error 12) ∧ (∀ e, d = e + 1 → ∀ b ks kids, m b ks kids = prN (pr e) b ks kids) := by
    cases d with
    | zero => exact ⟨fun _ _ _ => .error 12, rfl, fun _ _ _ _ => rfl, fun e h => by omega⟩
    | succ d => exact ⟨prN (pr d), rfl, fun h => by omega, fun e h => by obtain rfl : d = e := (by omega); exact fun _ _ _ => rfl⟩
  rw [hm]
  clear hm
  simp only [prW]
  by_cases hok : ownOk k n t ks kids.length = false
  · rw [if_pos hok]
    by_cases hfar : k < 0 ∨ 5 < k
    · exact wprint_far _ w N k n t ks kids ao bo cap bcap hb hln hfar
    · have : k = 0 ∨ k = 1 ∨ k = 2 ∨ k = 3 ∨ k = 4 ∨ k = 5 := by omega
      rcases this with h | h | h | h | h | h
      · exact wprint_bad0 _ w N k n t ks kids ao bo cap bcap hb hln h hok
      · exact wprint_bad1 _ w N k n t ks kids ao bo cap bcap hb hln h hok
      · exact wprint_bad2 _ w N k n t ks kids ao bo cap bcap hb hln h hok
      · exact wprint_bad3 _ w N k n t ks kids ao bo cap bcap hb hln h hok
      · exact wprint_bad4 _ w N k n t ks kids ao bo cap bcap hb hln h hok
      · exact wprint_bad5 _ w N k n t ks kids ao bo cap bcap hb hln h hok
  · rw [if_neg hok]
    have hok' : ownOk k n t ks kids.length = true := by simpa using hok
    have hrange : k = 0 ∨ k = 1 ∨ k = 2 ∨ k = 3 ∨ k = 4 ∨ k = 5 := by
      by_cases h0 : k = 0 ∨ k = 1 ∨ k = 2 ∨ k = 3 ∨ k = 4 ∨ k = 5
      · exact h0
      · exfalso
        have : ownOk k n t ks kids.length = false := by
          unfold ownOk
          rw [if_neg (by omega), if_neg (by omega), if_neg (by omega), if_neg (by omega), if_neg (by omega), if_neg (by omega)]
        exact hok this
    simp only [wt] at hw
    have many : (k = 4 ∨ k = 5) → Calls Tryd.prog 9 #[.pointer (some ⟨N, 0, none⟩), .int .i64 (40 - (d : Int))] w fun en w' => en = .returned (prV (m (k == 5) ks kids)) ∧ Below w.heap.size w w' := by
      intro h
      cases d with
      | zero =>
        rw [hm0 rfl]
        exact wprint_deep w N k n t ks kids ao bo cap bcap hb hln h hok'
      | succ e =>
        rw [hm1 e rfl, show (40 - ((e + 1 : Nat) : Int)) = 39 - (e : Int) by omega]
        rcases h with rfl | rfl
        · exact wprint_list e (by omega) (ih e rfl) w A N n t ks kids ao bo cap bcap vs hb hln hr hp (by omega) hok'
        · exact wprint_map e (by omega) (ih e rfl) w A N n t ks kids ao bo cap bcap vs hb hln hk hr hp (by unfold kwt; omega) hok'
    rcases hrange with rfl | rfl | rfl | rfl | rfl | rfl
    · rw [if_pos rfl]; exact wprint_g0 _ w N 0 n t ks kids ao bo cap bcap hb hln rfl hok'
    · rw [if_neg (by decide), if_pos rfl]
      have := wprint_g1 (40 - (d : Int)) w N 1 n t ks kids ao bo cap bcap hb hln rfl hok'
      by_cases h1 : n = 1
      · rw [if_pos h1] at this ⊢; exact this
      · rw [if_neg h1] at this ⊢; exact this
    · rw [if_neg (by decide), if_neg (by decide), if_pos rfl]; exact wprint_g2 _ w N 2 n t ks kids ao bo cap bcap hb hln rfl hok'
    · rw [if_neg (by decide), if_neg (by decide), if_neg (by decide), if_pos rfl]; exact wprint_g3 _ w N 3 n t ks kids ao bo cap bcap hb hln rfl hok' (by omega)
    · rw [if_neg (by decide), if_neg (by decide), if_neg (by decide), if_neg (by decide)]; exact many (.inl rfl)
    · rw [if_neg (by decide), if_neg (by decide), if_neg (by decide), if_neg (by decide)]; exact many (.inr rfl)
/-- Print of any value. -/
theorem wprint_any (d : Nat) (hd : d ≤ 40) : PrC d := by
  induction d with
  | zero => exact wprint_W 0 hd (fun e h => by omega)
  | succ d ih => exact wprint_W (d + 1) hd (fun e h => by obtain rfl : d = e := (by omega); exact ih (by omega))
end Go.Proofs.YtcibflndpckkkaaDoor
