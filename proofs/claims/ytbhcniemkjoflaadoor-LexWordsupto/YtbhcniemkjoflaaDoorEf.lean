/- The document's own texts between quotes. -/
import Derived.Test.YtbhcniemkjoflaaDoorEd
namespace Go.Proofs.YtbhcniemkjoflaaDoor
open Go.RowKit
open M

theorem refRune_at (s : ByteArray) (k : Nat) (w : World) (h : k < s.size) :
    Calls Tryd.prog 50 #[.string (s.extract k s.size)] w fun e w' => e = .returned (.tuple #[.int .i64 (cc ((bs s).drop k)), .int .i64 (sz ((bs s).drop k))]) ∧ w' = w := by
  have h0 : 0 < (s.extract k s.size).size := by rw [← bs_len, bs_drop, List.length_drop, bs_len]; omega
  have := refRune_any (s.extract k s.size) w h0
  rw [bs_drop, ← cc_some (drop_ne h)] at this
  exact this

/-- Where the document's loop over a text stands. -/
structure InQ (s : ByteArray) (p k K : Nat) : Prop where
  kind : (quo 6 ((bs s).drop (p + 1))).1 = (quo K ((bs s).drop k)).1
  len : p + 1 + (quo 6 ((bs s).drop (p + 1))).2 = k + (quo K ((bs s).drop k)).2

set_option maxRecDepth 100000 in
set_option maxHeartbeats 8000000 in
theorem refQuoted_any (s : ByteArray) (p : Nat) (w : World) (hs : s.size ≤ 1073741824) (hp : p < s.size) :
    Calls Tryd.prog 54 #[.string s, .int .i64 p] w fun e w' => e = .returned (.tuple #[.int .i64 ((p + (1 + (quo 6 ((bs s).drop (p + 1))).2) : Nat) : Int), .int .i64 (quo 6 ((bs s).drop (p + 1))).1]) ∧ w' = w := by
  go_enter Tryd.func54, Tryd.ntmps54
  go_wp2_with fail
  go_loop [1, 6] (fun i d => ∃ k K : Nat, i = .int .i64 k ∧ d = .int .i64 K ∧ k ≤ s.size ∧ Hid (InQ s p k K)) (fun i _ => s.size - (intOf i).toNat)
  case atStart => exact ⟨p + 1, 6, by go_num, rfl, by omega, ⟨rfl, rfl⟩⟩
  case round =>
    obtain ⟨k, K, rfl, rfl, hk, HI⟩ := hrel
    by_cases hk1 : k < s.size
    case neg =>
      have HE := hide (quo_end (kind := K) (t := (bs s).drop k) (.inl (cc_ne.2 (by rw [List.drop_eq_nil_iff, bs_len]; omega))))
      go_wp2_with fail
      go_ret2
      obtain ⟨a1, a2⟩ := HI.out
      rw [HE.out] at a1 a2
      exact ⟨ret_ii (by simp only at a2; omega) (by rw [a1]; rfl), rfl⟩
    have i1 : (k : Int) < (s.size : Int) := by omega
    by_cases g10 : (s[k]'hk1).toNat = 10
    · have b10 : (((s[k]'hk1).toNat : Int) != 10) = false := by simp; omega
      have HE := hide (quo_end (kind := K) (t := (bs s).drop k) (.inr ((byte_cc hk1 (c := 10) (by omega)).2 g10)))
      clear g10
      go_wp2_with fail
      go_ret2
      obtain ⟨a1, a2⟩ := HI.out
      rw [HE.out] at a1 a2
      exact ⟨ret_ii (by simp only at a2; omega) (by rw [a1]; rfl), rfl⟩
    have b10 : (((s[k]'hk1).toNat : Int) != 10) = true := by simp; omega
    by_cases g34 : (s[k]'hk1).toNat = 34
    · have b34 : (((s[k]'hk1).toNat : Int) == 34) = true := by simp; omega
      have HE := hide (quo_shut (kind := K) (t := (bs s).drop k) ((byte_cc hk1 (c := 34) (by omega)).2 g34))
      clear g10 g34
      go_wp2_with fail
      go_ret2
      obtain ⟨a1, a2⟩ := HI.out
      rw [HE.out] at a1 a2
      exact ⟨ret_ii (by simp only at a2; omega) (by rw [a1]), rfl⟩
    have b34 : (((s[k]'hk1).toNat : Int) == 34) = false := by simp; omega
    by_cases g92 : (s[k]'hk1).toNat = 92
    · have b92 : (((s[k]'hk1).toNat : Int) == 92) = true := by simp; omega
      have hc92 : cc ((bs s).drop k) = 92 := (byte_cc hk1 (c := 92) (by omega)).2 g92
      have z1 : sz ((bs s).drop k) = 1 := sz_cc (by omega) (by omega)
      have HN := hide (quo_slash (kind := K) hc92)
      rw [nx_at z1, List.drop_drop] at HN
      have HL := hide (taken_le ((bs s).drop (k + 1)))
      clear g10 g34 g92 z1 hc92
      cases hok : (taken ((bs s).drop (k + 1))).2.1
      · have HO := hide hok
        have HE : Hid (esc ((bs s).drop (k + 1)) = (0, 0)) := by show _ = _; unfold esc; rw [hok]; rfl
        clear hok
        go_wp2_with fail
        refine (escape_any s k _ hs hk1).mono ?_
        rintro e w' ⟨rfl, rfl⟩
        rw [HE.out]
        rw [HO.out] at HN
        by_cases hk2 : k + 1 < s.size
        case neg =>
          have i2 : decide ((s.size : Int) ≤ (k : Int) + 1) = true := by simp; omega
          have HT : Hid ((bs s).drop (k + 1) = []) := by show _ = _; rw [List.drop_eq_nil_iff, bs_len]; omega
          go_wp2_with fail
          go_ret2
          obtain ⟨a1, a2⟩ := HI.out
          rw [HN.out] at a1 a2
          have ht : (taken ((bs s).drop (k + 1))).2.2 = 0 := by rw [HT.out]; rfl
          have hq : quo (if false = true then K else 8) ((bs s).drop (k + 1 + (taken ((bs s).drop (k + 1))).2.2)) = (8, 0) := by
            refine quo_end (.inl (cc_ne.2 ?_)); rw [List.drop_eq_nil_iff, bs_len]; omega
          rw [hq] at a1 a2
          rw [ht] at a2
          exact ⟨ret_ii (by simp only at a2; omega) (by rw [a1]; rfl), rfl⟩
        have i2 : decide ((s.size : Int) ≤ (k : Int) + 1) = false := by simp; omega
        have i3 : (k : Int) + 1 < (s.size : Int) := by omega
        by_cases g10' : (s[k + 1]'hk2).toNat = 10
        · have b10' : (((s[k + 1]'hk2).toNat : Int) == 10) = true := by simp; omega
          have hc10 : cc ((bs s).drop (k + 1)) = 10 := (byte_cc hk2 (c := 10) (by omega)).2 g10'
          have HC10 := hide hc10
          clear g10' hc10
          go_wp2_with fail
          go_ret2
          obtain ⟨a1, a2⟩ := HI.out
          rw [HN.out] at a1 a2
          have ht : (taken ((bs s).drop (k + 1))).2.2 = 0 := by unfold taken; rw [if_pos (.inr HC10.out)]
          rw [ht] at a1 a2
          have hq : quo (if false = true then K else 8) ((bs s).drop (k + 1 + 0)) = (8, 0) := quo_end (.inr HC10.out)
          rw [hq] at a1 a2
          exact ⟨ret_ii (by simp only at a2; omega) (by rw [a1]; rfl), rfl⟩
        · have b10' : (((s[k + 1]'hk2).toNat : Int) == 10) = false := by simp; omega
          have hw := quo_wrong (u := (bs s).drop (k + 1)) (fun e => drop_ne hk2 (cc_ne.1 e)) (fun e => g10' ((byte_cc hk2 (c := 10) (by omega)).1 e)) HO.out
          rw [nx_drop, List.drop_drop] at hw
          have HW := hide hw
          have HZ := hide (sz_drop_le (s := s) (p := k + 1) (by omega))
          have hz4 := sz_le4 ((bs s).drop (k + 1))
          clear g10' hw
          have i4 : (k : Int) + 1 ≤ (s.size : Int) := by omega
          have i5 : (0 : Int) ≤ (k : Int) + 1 := by omega
          go_wp2_with fail
          refine (refRune_at s (k + 1) _ hk2).mono ?_
          rintro e w'' ⟨rfl, rfl⟩
          go_wp2_with fail
          go_round
          case rel =>
            obtain ⟨a1, a2⟩ := HI.out
            obtain ⟨c1, c2⟩ := HW.out
            rw [HN.out] at a1 a2
            simp only [Bool.false_eq_true, if_false] at a1 a2
            exact ⟨k + 1 + sz ((bs s).drop (k + 1)), 8, by go_num, rfl, HZ.out, ⟨by rw [a1, c1], by rw [a2]; omega⟩⟩
          case measure => simp [intOf]; omega
      · have HO := hide hok
        have HE : Hid (esc ((bs s).drop (k + 1)) = ((taken ((bs s).drop (k + 1))).1, 1 + (taken ((bs s).drop (k + 1))).2.2)) := by show _ = _; unfold esc; rw [hok]; rfl
        clear hok
        have hl := HL.out
        rw [List.length_drop, bs_len] at hl
        go_wp2_with fail
        refine (escape_any s k _ hs hk1).mono ?_
        rintro e w' ⟨rfl, rfl⟩
        rw [HE.out]
        rw [HO.out] at HN
        simp only
        have hpos : (0 : Int) < ((1 + (taken ((bs s).drop (k + 1))).2.2 : Nat) : Int) := by omega
        obtain ⟨m, hm⟩ : ∃ m, 1 + (taken ((bs s).drop (k + 1))).2.2 = m := ⟨_, rfl⟩
        have HM := hide hm
        rw [hm] at hpos ⊢
        have hm2 : k + m ≤ s.size := by omega
        clear hm hl
        go_wp2_with fail
        go_round
        case rel =>
          obtain ⟨a1, a2⟩ := HI.out
          have hm := HM.out
          rw [HN.out] at a1 a2
          simp only [if_true] at a1 a2
          have e : k + 1 + (taken ((bs s).drop (k + 1))).2.2 = k + m := by omega
          rw [e] at a1 a2
          exact ⟨k + m, K, by go_num, rfl, hm2, ⟨a1, by rw [a2]; omega⟩⟩
        case measure => simp [intOf]; omega
    · have b92 : (((s[k]'hk1).toNat : Int) == 92) = false := by simp; omega
      have HN := hide (quo_on (kind := K) (t := (bs s).drop k) (fun e => drop_ne hk1 (cc_ne.1 e)) (fun e => g10 ((byte_cc hk1 (c := 10) (by omega)).1 e)) (fun e => g34 ((byte_cc hk1 (c := 34) (by omega)).1 e)) (fun e => g92 ((byte_cc hk1 (c := 92) (by omega)).1 e)))
      rw [nx_drop] at HN
      have HZ := hide (sz_drop_le (s := s) (p := k) (by omega))
      have hz4 := sz_le4 ((bs s).drop k)
      have hz1 := sz_pos (drop_ne hk1)
      clear g10 g34 g92
      go_wp2_with fail
      refine (refRune_at s k _ hk1).mono ?_
      rintro e w'' ⟨rfl, rfl⟩
      go_wp2_with fail
      go_round
      case rel =>
        obtain ⟨a1, a2⟩ := HI.out
        rw [HN.out] at a1 a2
        exact ⟨k + sz ((bs s).drop k), K, by go_num, rfl, HZ.out, ⟨a1, by rw [a2]; simp only; omega⟩⟩
      case measure => simp [intOf]; omega
end Go.Proofs.YtbhcniemkjoflaaDoor
