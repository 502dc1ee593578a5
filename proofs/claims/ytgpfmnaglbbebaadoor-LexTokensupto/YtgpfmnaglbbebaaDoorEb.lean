/- The document's own remarks within remarks. -/
import Derived.Test.YtgpfmnaglbbebaaDoorEa
import Derived.Test.YtgpfmnaglbbebaaDoorGc
namespace Go.Proofs.YtgpfmnaglbbebaaDoor
open Go.RowKit
open M

theorem hasB_yes {s : ByteArray} {k a b : Nat} (h : hasB s k a b = true) : cc ((bs s).drop k) = (a : Int) ∧ cc ((bs s).drop (k + 1)) = (b : Int) := by
  unfold hasB at h; exact of_decide_eq_true h
theorem hasB_no {s : ByteArray} {k a b : Nat} (h : hasB s k a b = false) : ¬ (cc ((bs s).drop k) = (a : Int) ∧ cc ((bs s).drop (k + 1)) = (b : Int)) := by
  unfold hasB at h; exact of_decide_eq_false h
theorem hasB_of {s : ByteArray} {k a b : Nat} (h1 : cc ((bs s).drop k) = (a : Int)) (h2 : cc ((bs s).drop (k + 1)) = (b : Int)) : hasB s k a b = true := by
  unfold hasB; exact decide_eq_true ⟨h1, h2⟩
theorem lt_of_cc {s : ByteArray} {k : Nat} {c : Int} (h : cc ((bs s).drop k) = c) (hc : c ≠ -1) : k < s.size := by
  rcases Nat.lt_or_ge k s.size with h' | h'
  · exact h'
  · rw [show (bs s).drop k = [] by rw [List.drop_eq_nil_iff, bs_len]; exact h', cc_nil] at h; exact absurd h.symm hc
theorem ret_ib {a a' : Int} {c c' : Bool} (h : a = a') (k : c = c') : Ending.returned (.tuple #[.int .i64 a, .bool c]) = .returned (.tuple #[.int .i64 a', .bool c']) := by rw [h, k]
theorem nx_at {l : List UInt8} {k : Nat} (h : sz (l.drop k) = 1) : nx (l.drop k) = l.drop (k + 1) := by unfold nx; rw [h, List.drop_drop]

theorem has_open (s : ByteArray) (k : Nat) (w : World) (hk : k < s.size) (hs : s.size ≤ 1073741824) :
    Calls Tryd.prog 52 #[.string s, .int .i64 k, .int .u8 123, .int .u8 45] w fun e w' => e = .returned (.bool (hasB s k 123 45)) ∧ w' = w := has_any s k 123 45 w hk hs (by omega) (by omega)
theorem has_shut (s : ByteArray) (k : Nat) (w : World) (hk : k < s.size) (hs : s.size ≤ 1073741824) :
    Calls Tryd.prog 52 #[.string s, .int .i64 k, .int .u8 45, .int .u8 125] w fun e w' => e = .returned (.bool (hasB s k 45 125)) ∧ w' = w := has_any s k 45 125 w hk hs (by omega) (by omega)
/-- Where the document's loop over a remark stands. -/
structure InNest (s : ByteArray) (p k D : Nat) : Prop where
  pos : 1 ≤ D
  kind : (nest 1 ((bs s).drop (p + 2))).1 = (nest D ((bs s).drop k)).1
  len : p + 2 + (nest 1 ((bs s).drop (p + 2))).2 = k + (nest D ((bs s).drop k)).2

set_option maxRecDepth 100000 in
set_option maxHeartbeats 4000000 in
theorem refNested_any (s : ByteArray) (p : Nat) (w : World) (hs : s.size ≤ 1073741824) (h1 : cc ((bs s).drop p) = 123) (h2 : cc ((bs s).drop (p + 1)) = 45) :
    Calls Tryd.prog 53 #[.string s, .int .i64 p] w fun e w' => e = .returned (.tuple #[.int .i64 ((p + (2 + (nest 1 ((bs s).drop (p + 2))).2) : Nat) : Int), .bool (decide ((nest 1 ((bs s).drop (p + 2))).1 = 2))]) ∧ w' = w := by
  have hp1 : p + 1 < s.size := lt_of_cc h2 (by omega)
  have H0 := hide (And.intro h1 h2)
  clear h1 h2
  go_enter Tryd.func53, Tryd.ntmps53
  go_wp2_with fail
  go_loop [1, 6] (fun i d => ∃ k D : Nat, i = .int .i64 k ∧ d = .int .i64 D ∧ k ≤ s.size ∧ D ≤ k ∧ ((D = 0 ∧ k = p) ∨ Hid (InNest s p k D))) (fun i _ => s.size - (intOf i).toNat)
  case atStart => exact ⟨p, 0, rfl, rfl, by omega, by omega, .inl ⟨rfl, rfl⟩⟩
  case round =>
    obtain ⟨k, D, rfl, rfl, hk, hD, hI⟩ := hrel
    by_cases hlt : k < s.size
    · cases ho : hasB s k 123 45
      · rcases hI with ⟨rfl, rfl⟩ | HI
        · exact absurd (hasB_of (H0.out).1 (H0.out).2) (by rw [ho]; simp)
        have hp := (HI.out).pos
        cases hsh : hasB s k 45 125
        · have HN := hide (nest_step (d := D) (drop_ne hlt) (by rw [List.drop_drop]; exact hasB_no ho) (by rw [List.drop_drop]; exact hasB_no hsh))
          go_wp2_with fail
          refine (has_open s k _ hlt hs).mono ?_
          rintro e w' ⟨rfl, rfl⟩
          go_wp2_with fail
          refine (has_shut s k _ hlt hs).mono ?_
          rintro e w' ⟨rfl, rfl⟩
          go_wp2_with fail
          go_round
          case rel =>
            obtain ⟨a1, a2, a3⟩ := HI.out
            rw [HN.out, List.drop_drop] at a2 a3
            exact ⟨k + 1, D, by go_num, rfl, by omega, by omega, .inr ⟨a1, a2, by rw [a3]; simp only; omega⟩⟩
          case measure => simp [intOf]; omega
        · obtain ⟨g1, g2⟩ := hasB_yes hsh
          have z1 : sz ((bs s).drop k) = 1 := sz_cc (by omega) (by omega)
          have z2 : sz ((bs s).drop (k + 1)) = 1 := sz_cc (by omega) (by omega)
          have e1 := nx_at z1
          have e2 := nx_at z2
          have hk2 : k + 1 < s.size := lt_of_cc g2 (by omega)
          by_cases hd1 : D ≤ 1
          · have HN := hide (nest_last (deep := D) g1 (by rw [e1]; exact g2) hd1)
            have hD1 : D = 1 := by omega
            subst hD1
            clear g1 g2 e1 e2 z1 z2
            go_wp2_with fail
            refine (has_open s k _ hlt hs).mono ?_
            rintro e w' ⟨rfl, rfl⟩
            go_wp2_with fail
            refine (has_shut s k _ hlt hs).mono ?_
            rintro e w' ⟨rfl, rfl⟩
            go_wp2_with fail
            go_ret2
            obtain ⟨a1, a2, a3⟩ := HI.out
            rw [HN.out] at a2 a3
            exact ⟨ret_ib (by simp only at a3; omega) (by rw [a2]; rfl), rfl⟩
          · have HN := hide (nest_shut (deep := D) g1 (by rw [e1]; exact g2) hd1)
            rw [e1, e2, show k + 1 + 1 = k + 2 from rfl] at HN
            have hDb : ((D : Int) - 1 == 0) = false := by simp; omega
            clear g1 g2 e1 e2 z1 z2
            go_wp2_with fail
            refine (has_open s k _ hlt hs).mono ?_
            rintro e w' ⟨rfl, rfl⟩
            go_wp2_with fail
            refine (has_shut s k _ hlt hs).mono ?_
            rintro e w' ⟨rfl, rfl⟩
            go_wp2_with fail
            go_round
            case rel =>
              obtain ⟨a1, a2, a3⟩ := HI.out
              rw [HN.out] at a2 a3
              exact ⟨k + 2, D - 1, by go_num, by go_num, by omega, by omega, .inr ⟨by omega, a2, by rw [a3]; simp only; omega⟩⟩
            case measure => simp [intOf]; omega
      · obtain ⟨g1, g2⟩ := hasB_yes ho
        have z1 : sz ((bs s).drop k) = 1 := sz_cc (by omega) (by omega)
        have z2 : sz ((bs s).drop (k + 1)) = 1 := sz_cc (by omega) (by omega)
        have e1 := nx_at z1
        have e2 := nx_at z2
        have hk2 : k + 1 < s.size := lt_of_cc g2 (by omega)
        have HN := hide (nest_open (deep := D) g1 (by rw [e1]; exact g2))
        rw [e1, e2, show k + 1 + 1 = k + 2 from rfl] at HN
        clear g1 g2 e1 e2 z1 z2
        go_wp2_with fail
        refine (has_open s k _ hlt hs).mono ?_
        rintro e w' ⟨rfl, rfl⟩
        go_wp2_with fail
        refine (has_shut s k _ hlt hs).mono ?_
        rintro e w' ⟨rfl, rfl⟩
        go_wp2_with fail
        go_round
        case rel =>
          refine ⟨k + 2, D + 1, by go_num, by go_num, by omega, by omega, .inr ?_⟩
          rcases hI with ⟨rfl, rfl⟩ | HI
          · exact ⟨by omega, rfl, rfl⟩
          · obtain ⟨a1, a2, a3⟩ := HI.out
            rw [HN.out] at a2 a3
            exact ⟨by omega, a2, by rw [a3]; simp only; omega⟩
        case measure => simp [intOf]; omega
    · rcases hI with ⟨rfl, rfl⟩ | HI
      · omega
      have hke : k = s.size := by omega
      have HE : Hid ((bs s).drop k = []) := by show _ = _; rw [List.drop_eq_nil_iff, bs_len]; omega
      go_wp2_with fail
      go_ret2
      obtain ⟨a1, a2, a3⟩ := HI.out
      rw [HE.out, nest_end] at a2 a3
      exact ⟨ret_ib (by simp only at a3; omega) (by rw [a2]; rfl), rfl⟩
end Go.Proofs.YtgpfmnaglbbebaaDoor
