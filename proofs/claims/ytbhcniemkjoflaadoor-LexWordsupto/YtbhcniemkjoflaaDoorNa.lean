/- Is a text one token alone? Is it a name? -/
import Derived.Test.YtbhcniemkjoflaaDoorIf
namespace Go.Proofs.YtbhcniemkjoflaaDoor
open Go.RowKit
open M

/-- Is a text one token, of a kind? -/
def aloneB (l : List UInt8) (kind : Nat) : Bool := decide (l ≠ [] ∧ M.tok l = (kind, l.length))

theorem frzN {W : World} {b : Nat} {c : Array Value} {t : TypeId} (h : W.heap[b]? = some (.cells c t (0, 0))) (k : Nat) : W.frozen? ⟨b, k, none⟩ = false := by simp [World.frozen?, h]
/-- The first token of a text. -/
def firstT (s : ByteArray) : Nat × Nat := if s.size = 0 then (0, 0) else M.tok (bs s)
set_option maxRecDepth 100000 in
set_option maxHeartbeats 4000000 in
theorem first_any (s : ByteArray) (w : World) (hT : Tabs w) (hs : s.size ≤ 1073741824) :
    Calls Tryd.prog 55 #[.string s] w fun e w' => e = .returned (.agg #[.int .i64 (firstT s).1, .int .i64 0, .int .i64 (firstT s).2]) ∧ Below w.heap.size w w' := by
  have k0 : Below w.heap.size w (w.alloc (.cells #[.int .i64 0, .int .i64 0, .int .i64 0] 29)) := (Below.refl _ w).alloc (Nat.le_refl _) _
  have hN := heap_alloc_new w (.cells #[.int .i64 0, .int .i64 0, .int .i64 0] 29)
  by_cases h0 : s.size = 0
  · obtain rfl : s = ⟨#[]⟩ := bs_inj (by rw [← List.length_eq_zero_iff.1 (by rw [bs_len]; exact h0 : (bs s).length = 0)]; rfl)
    have e : firstT ⟨#[]⟩ = (0, 0) := if_pos h0
    rw [e]
    have a0 := cell_of_row _ _ 0 _ _ _ hN
    have a1 := cell_of_row _ _ 1 _ _ _ hN
    have a2 := cell_of_row _ _ 2 _ _ _ hN
    go_enter Tryd.func55, Tryd.ntmps55
    go_wp2_with fail
    exact bodyPost_ret (by simp [results, Tryd.results55, go_sem]) rfl ⟨rfl, k0⟩
  · have hne : bs s ≠ [] := by intro e; have := congrArg List.length e; rw [bs_len] at this; exact h0 this
    have hb : (s.toList == []) = false := by rw [ByteArray.toList_eq, beq_eq_false_iff_ne]; exact hne
    have hbn : (s.toList != []) = true := by rw [bne, hb]; rfl
    have hp : 0 < s.size := by omega
    have hT1 : Tabs (w.alloc (.cells #[.int .i64 0, .int .i64 0, .int .i64 0] 29)) := hT.below k0
    have h7 := hT1.2
    have HE : Hid (firstT s = M.tok (bs s)) := if_neg h0
    have HN := hide hN
    have HK0 := hide k0
    have hz : (w.alloc (.cells #[.int .i64 0, .int .i64 0, .int .i64 0] 29)).heap.size = w.heap.size + 1 := by simp
    clear hN k0
    go_enter Tryd.func55, Tryd.ntmps55
    go_wp2_with fail
    refine (readFrom_any s 0 _ hT1 (Nat.zero_le _) (by omega)).mono ?_
    rintro e w1 ⟨rfl, r1, k1⟩
    have z1 := k1.size
    have K1 := hide ((HK0.out).trans (k1.mono (HK0.out).size))
    have hN1 : w1.heap[w.heap.size]? = some (.cells #[.int .i64 0, .int .i64 0, .int .i64 0] 29 (0, 0)) := by
      rw [k1.block w.heap.size (by rw [hz]; omega)]; exact HN.out
    have HN1 := hide hN1
    rw [hz] at r1 z1
    rw [hz]
    clear k1 hN1
    go_wp2_with fail
    refine (token_any (w.heap.size + 1) s 0 _ r1 hp).mono ?_
    rintro e w2 ⟨rfl, r2, k2⟩
    have K2 := hide ((K1.out).trans (On.below k2 (B := w.heap.size) (by omega) (by omega)))
    have hN2 := k2.heap HN1.out (fun e => by omega)
    clear k2 r2
    rw [List.drop_zero, ← HE.out]
    have a0 := cell_of_row _ _ 0 _ _ _ hN2
    have a1 := cell_of_row _ _ 1 _ _ _ hN2
    have a2 := cell_of_row _ _ 2 _ _ _ hN2
    have b0 := frzN hN2 0
    have b1 := frzN hN2 1
    have b2 := frzN hN2 2
    have hN3 : (((w2.setCell ⟨w.heap.size, 0, none⟩ (.int .i64 (firstT s).1)).setCell ⟨w.heap.size, 1, none⟩ (.int .i64 0)).setCell ⟨w.heap.size, 2, none⟩ (.int .i64 (firstT s).2)).heap[w.heap.size]? = some (.cells #[.int .i64 (firstT s).1, .int .i64 0, .int .i64 (firstT s).2] 29 (0, 0)) := by
      simp [World.setCell, Array.getElem?_modify, hN2]
    have K3 : Hid (Below w.heap.size w (((w2.setCell ⟨w.heap.size, 0, none⟩ (.int .i64 (firstT s).1)).setCell ⟨w.heap.size, 1, none⟩ (.int .i64 0)).setCell ⟨w.heap.size, 2, none⟩ (.int .i64 (firstT s).2))) := (((K2.out).setCell (p := ⟨w.heap.size, 0, none⟩) (Nat.le_refl _) _).setCell (p := ⟨w.heap.size, 1, none⟩) (Nat.le_refl _) _).setCell (p := ⟨w.heap.size, 2, none⟩) (Nat.le_refl _) _
    have HN3 := hide hN3
    clear hN2 hN3
    go_wp2_with fail
    clear a0 a1 a2 b0 b1 b2
    generalize (((w2.setCell ⟨w.heap.size, 0, none⟩ (.int .i64 (firstT s).1)).setCell ⟨w.heap.size, 1, none⟩ (.int .i64 0)).setCell ⟨w.heap.size, 2, none⟩ (.int .i64 (firstT s).2)) = w3 at *
    have a0 := cell_of_row _ _ 0 _ _ _ HN3.out
    have a1 := cell_of_row _ _ 1 _ _ _ HN3.out
    have a2 := cell_of_row _ _ 2 _ _ _ HN3.out
    exact bodyPost_ret (by simp [results, Tryd.results55, go_sem, a0, a1, a2]) rfl ⟨rfl, K3.out⟩
set_option maxRecDepth 100000 in
set_option maxHeartbeats 4000000 in
theorem alone_any (s : ByteArray) (kind : Nat) (w : World) (hT : Tabs w) (hs : s.size ≤ 1073741824) (hk : 0 < kind) :
    Calls Tryd.prog 29 #[.string s, .int .i64 kind] w fun e w' => e = .returned (.bool (aloneB (bs s) kind)) ∧ Below w.heap.size w w' := by
  have HA : Hid (aloneB (bs s) kind = decide ((firstT s).1 = kind ∧ (firstT s).2 = s.size)) := by
    show _ = _
    unfold aloneB firstT
    by_cases h0 : s.size = 0
    · have hn : bs s = [] := List.length_eq_zero_iff.1 (by rw [bs_len]; exact h0)
      rw [if_pos h0, decide_eq_false (fun h => h.1 hn), eq_comm, decide_eq_false_iff_not]
      simp only
      omega
    · have hne : bs s ≠ [] := by intro e; have := congrArg List.length e; rw [bs_len] at this; exact h0 this
      rw [if_neg h0, bs_len, Bool.eq_iff_iff]; simp [hne, Prod.ext_iff]
  go_enter Tryd.func29, Tryd.ntmps29
  go_wp2_with fail
  refine (first_any s _ hT hs).mono ?_
  rintro e w2 ⟨rfl, k2⟩
  have K2 := hide k2
  clear k2
  generalize firstT s = T at *
  go_wp2_with fail
  all_goals
    go_ret
    refine ⟨retb ?_, K2.out⟩
    rw [HA.out]
    first
      | (rw [eq_comm, decide_eq_true_iff]; omega)
      | (rw [eq_comm, decide_eq_false_iff_not]; omega)
      | (rw [eq_comm, decide_eq_true_iff]; simp_all; omega)
      | (rw [eq_comm, decide_eq_false_iff_not]; simp_all; omega)

set_option maxHeartbeats 4000000 in
theorem lexname_any (s : ByteArray) (w : World) (hT : Tabs w) (hs : s.size ≤ 1073741824) :
    Calls Tryd.prog 12 #[.string s] w fun e w' => e = .returned (.bool (decide (s.size ≤ 40) && aloneB (bs s) 3)) ∧ Below w.heap.size w w' := by
  by_cases h : s.size ≤ 40
  · have i1 : decide ((s.size : Int) ≤ 40) = true := by simp; omega
    rw [decide_eq_true h, Bool.true_and]
    go_enter Tryd.func12, Tryd.ntmps12
    go_wp2_with fail
    refine (alone_any s 3 _ hT hs (by omega)).mono ?_
    rintro e w1 ⟨rfl, k1⟩
    go_wp2_with fail
    go_ret
    exact ⟨rfl, k1⟩
  · have i1 : decide ((s.size : Int) ≤ 40) = false := by simp; omega
    rw [decide_eq_false h, Bool.false_and]
    go_enter Tryd.func12, Tryd.ntmps12
    go_wp2_with fail
    go_ret
    exact ⟨rfl, Below.refl _ _⟩
end Go.Proofs.YtbhcniemkjoflaaDoor
