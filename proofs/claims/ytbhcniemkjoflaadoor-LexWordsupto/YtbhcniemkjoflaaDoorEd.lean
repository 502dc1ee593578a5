/- The document's own reading of what a \ takes: its answer. -/
import Derived.Test.YtbhcniemkjoflaaDoorEb
namespace Go.Proofs.YtbhcniemkjoflaaDoor
open Go.RowKit
open M

set_option maxRecDepth 100000 in
set_option maxHeartbeats 8000000 in
theorem escape_any (s : ByteArray) (p : Nat) (w : World) (hs : s.size ≤ 1073741824) (hp : p < s.size) :
    Calls Tryd.prog 39 #[.string s, .int .i64 p] w fun e w' => e = .returned (.tuple #[.int .i64 (esc ((bs s).drop (p + 1))).1, .int .i64 (esc ((bs s).drop (p + 1))).2]) ∧ w' = w := by
  by_cases h1 : p + 1 < s.size
  case neg =>
    have i1 : (s.size : Int) ≤ (p : Int) + 1 := by omega
    have HE : Hid (esc ((bs s).drop (p + 1)) = (0, 0)) := by
      show _ = _
      rw [show (bs s).drop (p + 1) = [] by rw [List.drop_eq_nil_iff, bs_len]; omega]
      exact taken_plain (by rw [cc_nil]; omega) (by rw [cc_nil]; omega) (by rw [cc_nil]; omega) (by rw [cc_nil]; omega) (by rw [cc_nil]; omega)
    go_enter Tryd.func39, Tryd.ntmps39
    go_wp2_with fail
    go_ret2
    rw [HE.out]
    exact ⟨rfl, rfl⟩
  have i1 : (p : Int) + 1 < (s.size : Int) := by omega
  by_cases g110 : (s[p + 1]'h1).toNat = 110
  · have HE : Hid (esc ((bs s).drop (p + 1)) = (10, 2)) := by
      show _ = _
      have e : cc ((bs s).drop (p + 1)) = 110 := (byte_cc h1 (c := 110) (by omega)).2 g110
      have et : taken ((bs s).drop (p + 1)) = (10, true, 1) := by unfold taken; rw [if_neg (by omega), if_pos e]
      unfold esc; rw [et]; rfl
    have gi : ((s[p + 1]'h1).toNat : Int) = 110 := by omega
    have gu : (s[p + 1]'h1) = 110 := by rw [← UInt8.toNat_inj]; exact g110
    go_enter Tryd.func39, Tryd.ntmps39
    go_wp2_with fail
    go_ret2
    rw [HE.out]
    exact ⟨rfl, rfl⟩
  by_cases g116 : (s[p + 1]'h1).toNat = 116
  · have HE : Hid (esc ((bs s).drop (p + 1)) = (9, 2)) := by
      show _ = _
      have e : cc ((bs s).drop (p + 1)) = 116 := (byte_cc h1 (c := 116) (by omega)).2 g116
      have et : taken ((bs s).drop (p + 1)) = (9, true, 1) := by unfold taken; rw [if_neg (by omega), if_neg (by omega), if_pos e]
      unfold esc; rw [et]; rfl
    have gi : ((s[p + 1]'h1).toNat : Int) = 116 := by omega
    have gu : (s[p + 1]'h1) = 116 := by rw [← UInt8.toNat_inj]; exact g116
    go_enter Tryd.func39, Tryd.ntmps39
    go_wp2_with fail
    go_ret2
    rw [HE.out]
    exact ⟨rfl, rfl⟩
  by_cases g34 : (s[p + 1]'h1).toNat = 34
  · have HE : Hid (esc ((bs s).drop (p + 1)) = (34, 2)) := by
      show _ = _
      have e : cc ((bs s).drop (p + 1)) = 34 := (byte_cc h1 (c := 34) (by omega)).2 g34
      have et : taken ((bs s).drop (p + 1)) = (34, true, 1) := by unfold taken; rw [if_neg (by omega), if_neg (by omega), if_neg (by omega), if_pos (.inl e), e]
      unfold esc; rw [et]; rfl
    have gi : ((s[p + 1]'h1).toNat : Int) = 34 := by omega
    have gu : (s[p + 1]'h1) = 34 := by rw [← UInt8.toNat_inj]; exact g34
    go_enter Tryd.func39, Tryd.ntmps39
    go_wp2_with fail
    go_ret2
    rw [HE.out]
    exact ⟨rfl, rfl⟩
  by_cases g92 : (s[p + 1]'h1).toNat = 92
  · have HE : Hid (esc ((bs s).drop (p + 1)) = (92, 2)) := by
      show _ = _
      have e : cc ((bs s).drop (p + 1)) = 92 := (byte_cc h1 (c := 92) (by omega)).2 g92
      have et : taken ((bs s).drop (p + 1)) = (92, true, 1) := by unfold taken; rw [if_neg (by omega), if_neg (by omega), if_neg (by omega), if_pos (.inr e), e]
      unfold esc; rw [et]; rfl
    have gi : ((s[p + 1]'h1).toNat : Int) = 92 := by omega
    have gu : (s[p + 1]'h1) = 92 := by rw [← UInt8.toNat_inj]; exact g92
    go_enter Tryd.func39, Tryd.ntmps39
    go_wp2_with fail
    go_ret2
    rw [HE.out]
    exact ⟨rfl, rfl⟩
  have b110 : (((s[p + 1]'h1).toNat : Int) == 110) = false := by simp; omega
  have b116 : (((s[p + 1]'h1).toNat : Int) == 116) = false := by simp; omega
  have b34 : (((s[p + 1]'h1).toNat : Int) == 34) = false := by simp; omega
  have b92 : (((s[p + 1]'h1).toNat : Int) == 92) = false := by simp; omega
  by_cases g117 : (s[p + 1]'h1).toNat = 117
  case neg =>
    have b117 : (((s[p + 1]'h1).toNat : Int) != 117) = true := by simp; omega
    have HE : Hid (esc ((bs s).drop (p + 1)) = (0, 0)) := by
      show _ = _
      exact taken_plain (fun e => g110 ((byte_cc h1 (c := 110) (by omega)).1 e)) (fun e => g116 ((byte_cc h1 (c := 116) (by omega)).1 e)) (fun e => g34 ((byte_cc h1 (c := 34) (by omega)).1 e)) (fun e => g92 ((byte_cc h1 (c := 92) (by omega)).1 e)) (fun e => g117 ((byte_cc h1 (c := 117) (by omega)).1 e))
    clear g110 g116 g34 g92 g117
    go_enter Tryd.func39, Tryd.ntmps39
    go_wp2_with fail
    go_ret2
    rw [HE.out]
    exact ⟨rfl, rfl⟩
  have hu : cc ((bs s).drop (p + 1)) = 117 := (byte_cc h1 (c := 117) (by omega)).2 g117
  have b117 : (((s[p + 1]'h1).toNat : Int) != 117) = false := by simp; omega
  clear g110 g116 g34 g92 g117
  have HU := hide hu
  clear hu
  by_cases h2 : p + 2 < s.size
  case neg =>
    have i2 : decide ((s.size : Int) ≤ (p : Int) + 2) = true := by simp; omega
    have HE : Hid (esc ((bs s).drop (p + 1)) = (0, 0)) := by
      show _ = _
      refine esc_u0 HU.out ?_
      rw [show (bs s).drop (p + 2) = [] by rw [List.drop_eq_nil_iff, bs_len]; omega, cc_nil]; omega
    go_enter Tryd.func39, Tryd.ntmps39
    go_wp2_with fail
    go_ret2
    rw [HE.out]
    exact ⟨rfl, rfl⟩
  have i2 : (p : Int) + 2 < (s.size : Int) := by omega
  have i2' : decide ((s.size : Int) ≤ (p : Int) + 2) = false := by simp; omega
  by_cases g123 : (s[p + 2]'h2).toNat = 123
  case neg =>
    have b123 : (((s[p + 2]'h2).toNat : Int) != 123) = true := by simp; omega
    have HE : Hid (esc ((bs s).drop (p + 1)) = (0, 0)) := by
      show _ = _
      exact esc_u0 HU.out (fun e => g123 ((byte_cc h2 (c := 123) (by omega)).1 e))
    clear g123
    go_enter Tryd.func39, Tryd.ntmps39
    go_wp2_with fail
    go_ret2
    rw [HE.out]
    exact ⟨rfl, rfl⟩
  have H2 : Hid (cc ((bs s).drop (p + 2)) = (123 : Int)) := (byte_cc h2 (c := 123) (by omega)).2 g123
  have b123 : (((s[p + 2]'h2).toNat : Int) != 123) = false := by simp; omega
  clear g123
  go_enter Tryd.func39, Tryd.ntmps39
  go_wp2_with fail
  go_loop [7, 8] (fun i c => ∃ (j : Nat) (C : Int), j ≤ 6 ∧ i = .int .i64 ((p + 3 + j : Nat) : Int) ∧ c = .int .i64 C ∧ p + 3 + j ≤ s.size ∧ Hid (InEsc s (p + 3) j C)) (fun i _ => p + 9 - (intOf i).toNat)
  case atStart => exact ⟨0, 0, by omega, by go_num, rfl, by omega, ⟨by omega, by decide, by simp⟩⟩
  case round =>
    obtain ⟨j, C, hj, rfl, rfl, hle, HI⟩ := hrel
    obtain ⟨k, hk⟩ : ∃ k, k = p + 3 + j := ⟨_, rfl⟩
    rw [← hk] at hle
    rw [← hk]
    have hlo := (HI.out).lo
    have hhi := pow16'' hj (HI.out).hi
    have HK := hide hk
    have hk3 : (k : Int) = (p : Int) + 3 + (j : Int) := by omega
    have HK3 := hide hk3
    clear hk hk3
    by_cases hk1 : k < s.size
    case neg =>
      have hke : k = s.size := by omega
      have HS := hide ((HI.out).stop hj (fun hx => by
        have e := lt_of_cc (s := s) (k := p + 3 + j) (c := cc ((bs s).drop (p + 3 + j))) rfl (fun e => by have h9 := hx.2; rw [e] at h9; exact absurd h9 (by decide))
        have := HK.out; omega))
      have HE : Hid (esc ((bs s).drop (p + 1)) = (0, 0)) := by
        show _ = _
        rw [esc_u HU.out H2.out HS.out, if_pos]
        right
        rw [show (bs s).drop (p + 3 + j) = [] by rw [List.drop_eq_nil_iff, bs_len]; have := HK.out; omega, cc_nil]; omega
      have i5 : decide ((s.size : Int) ≤ (k : Int)) = true := by simp; omega
      by_cases hj0 : j = 0
      · have i4 : ((k : Int) == (p : Int) + 3) = true := by have := HK3.out; simp; omega
        clear hke
        go_wp2_with fail
        go_ret2
        rw [HE.out]
        exact ⟨rfl, rfl⟩
      · have i4 : ((k : Int) == (p : Int) + 3) = false := by have := HK3.out; simp; omega
        clear hke
        go_wp2_with fail
        go_ret2
        rw [HE.out]
        exact ⟨rfl, rfl⟩
    have i3 : (k : Int) < (s.size : Int) := by omega
    have i5 : decide ((s.size : Int) ≤ (k : Int)) = false := by simp; omega
    have hxb := hex_byte hk1
    have hcc : cc ((bs s).drop (p + 3 + j)) = cc ((bs s).drop k) := by rw [HK.out]
    have hhx := hexOf_lt ((s[k]'hk1).toNat : Int)
    have HXB := hide hxb
    have HCC := hide hcc
    clear hxb hcc
    by_cases hx : j < 6 ∧ 0 ≤ hexOf ((s[k]'hk1).toNat : Int)
    · obtain ⟨hj6, hx0⟩ := hx
      have i4 : (k : Int) < (p : Int) + 9 := by have := HK3.out; omega
      have hC5 := pow16 (by omega : j ≤ 5) (HI.out).hi
      go_wp2_with ((go_at_call 60; refine (hexa_any _ _ (by have := (s[k]'hk1).toNat_lt; omega)).mono ?_; rintro e w' ⟨rfl, rfl⟩))
      go_round
      case rel =>
        have hn := (HI.out).next hj6 (by rw [HCC.out, ← HXB.out]; exact hx0)
        rw [HCC.out, ← HXB.out] at hn
        have h3 := HK3.out
        have hkk := HK.out
        exact ⟨j + 1, _, by omega, by rw [show ((p + 3 + (j + 1) : Nat) : Int) = (k : Int) + 1 by omega], rfl, by omega, hn⟩
      case measure => have h3 := HK3.out; simp [intOf]; omega
    have HS := hide ((HI.out).stop hj (fun h => hx ⟨h.1, by rw [HXB.out, ← HCC.out]; exact h.2⟩))
    have HE0 := hide (esc_u HU.out H2.out HS.out)
    by_cases hj0 : j = 0
    · have i4 : ((k : Int) == (p : Int) + 3) = true := by have := HK3.out; simp; omega
      have i6 : (k : Int) < (p : Int) + 9 := by have := HK3.out; omega
      have hx0 : hexOf ((s[k]'hk1).toNat : Int) < 0 := by
        rcases Int.lt_or_le (hexOf ((s[k]'hk1).toNat : Int)) 0 with g | g
        · exact g
        · exact absurd ⟨by omega, g⟩ hx
      have HE : Hid (esc ((bs s).drop (p + 1)) = (0, 0)) := by show _ = _; rw [HE0.out, if_pos (.inl hj0)]
      clear hx
      go_wp2_with ((go_at_call 60; refine (hexa_any _ _ (by have := (s[k]'hk1).toNat_lt; omega)).mono ?_; rintro e w' ⟨rfl, rfl⟩))
      go_ret2
      rw [HE.out]
      exact ⟨rfl, rfl⟩
    have i4 : ((k : Int) == (p : Int) + 3) = false := by have := HK3.out; simp; omega
    have hvar : (j = 6 ∧ ¬ (k : Int) < (p : Int) + 9) ∨ (j < 6 ∧ (k : Int) < (p : Int) + 9 ∧ hexOf ((s[k]'hk1).toNat : Int) < 0) := by
      have h3 := HK3.out
      rcases Int.lt_or_le (hexOf ((s[k]'hk1).toNat : Int)) 0 with g | g
      · by_cases h6 : j < 6
        · exact .inr ⟨h6, by omega, g⟩
        · exact .inl ⟨by omega, by omega⟩
      · by_cases h6 : j < 6
        · exact absurd ⟨h6, g⟩ hx
        · exact .inl ⟨by omega, by omega⟩
    clear hx
    by_cases h125 : (s[k]'hk1).toNat = 125
    case neg =>
      have b125 : (((s[k]'hk1).toNat : Int) != 125) = true := by simp; omega
      have HE : Hid (esc ((bs s).drop (p + 1)) = (0, 0)) := by
        show _ = _
        rw [HE0.out, if_pos]
        right; rw [HCC.out]; exact fun e => h125 ((byte_cc hk1 (c := 125) (by omega)).1 e)
      clear h125
      rcases hvar with ⟨hv1, hv2⟩ | ⟨hv1, hv2, hv3⟩
      · skip
        clear hj0 hv1
        go_wp2_with ((go_at_call 60; refine (hexa_any _ _ (by have := (s[k]'hk1).toNat_lt; omega)).mono ?_; rintro e w' ⟨rfl, rfl⟩))
        go_ret2
        rw [HE.out]
        exact ⟨rfl, rfl⟩
      · skip
        clear hj0 hv1
        go_wp2_with ((go_at_call 60; refine (hexa_any _ _ (by have := (s[k]'hk1).toNat_lt; omega)).mono ?_; rintro e w' ⟨rfl, rfl⟩))
        go_ret2
        rw [HE.out]
        exact ⟨rfl, rfl⟩
    have b125 : (((s[k]'hk1).toNat : Int) != 125) = false := by simp; omega
    have HN : Hid (¬ (j = 0 ∨ cc ((bs s).drop (p + 3 + j)) ≠ 125)) := by
      have e1 : cc ((bs s).drop k) = 125 := (byte_cc hk1 (c := 125) (by omega)).2 h125
      show ¬ _
      rw [HCC.out, e1]; simp [hj0]
    clear h125
    by_cases hb1 : C ≤ 1114111
    case neg =>
      have j1 : decide ((1114111 : Int) < C) = true := by simp; omega
      have HE : Hid (esc ((bs s).drop (p + 1)) = (0, 0)) := by
        show _ = _
        rw [HE0.out, if_neg HN.out, if_neg]
        unfold Lib.validRune; simp; omega
      clear hb1
      rcases hvar with ⟨hv1, hv2⟩ | ⟨hv1, hv2, hv3⟩
      · skip
        clear hj0 hv1
        go_wp2_with ((go_at_call 60; refine (hexa_any _ _ (by have := (s[k]'hk1).toNat_lt; omega)).mono ?_; rintro e w' ⟨rfl, rfl⟩))
        go_ret2
        rw [HE.out]
        exact ⟨rfl, rfl⟩
      · skip
        clear hj0 hv1
        go_wp2_with ((go_at_call 60; refine (hexa_any _ _ (by have := (s[k]'hk1).toNat_lt; omega)).mono ?_; rintro e w' ⟨rfl, rfl⟩))
        go_ret2
        rw [HE.out]
        exact ⟨rfl, rfl⟩
    have j1 : decide ((1114111 : Int) < C) = false := by simp; omega
    by_cases hb2 : 55296 ≤ C
    · have j2 : decide ((55296 : Int) ≤ C) = true := by simpa using hb2
      by_cases hb3 : C ≤ 57343
      · have j3 : decide (C ≤ (57343 : Int)) = true := by simpa using hb3
        have HE : Hid (esc ((bs s).drop (p + 1)) = (0, 0)) := by
          show _ = _
          rw [HE0.out, if_neg HN.out, if_neg]
          unfold Lib.validRune; simp; omega
        rcases hvar with ⟨hv1, hv2⟩ | ⟨hv1, hv2, hv3⟩
        · skip
          clear hj0 hv1
          go_wp2_with ((go_at_call 60; refine (hexa_any _ _ (by have := (s[k]'hk1).toNat_lt; omega)).mono ?_; rintro e w' ⟨rfl, rfl⟩))
          go_ret2
          rw [HE.out]
          exact ⟨rfl, rfl⟩
        · skip
          clear hj0 hv1
          go_wp2_with ((go_at_call 60; refine (hexa_any _ _ (by have := (s[k]'hk1).toNat_lt; omega)).mono ?_; rintro e w' ⟨rfl, rfl⟩))
          go_ret2
          rw [HE.out]
          exact ⟨rfl, rfl⟩
      · have j3 : decide (C ≤ (57343 : Int)) = false := by simpa using hb3
        have HE : Hid (esc ((bs s).drop (p + 1)) = (C, j + 4)) := by
          show _ = _
          rw [HE0.out, if_neg HN.out, if_pos]
          unfold Lib.validRune; simp; omega
        rcases hvar with ⟨hv1, hv2⟩ | ⟨hv1, hv2, hv3⟩
        · skip
          clear hj0 hv1
          go_wp2_with ((go_at_call 60; refine (hexa_any _ _ (by have := (s[k]'hk1).toNat_lt; omega)).mono ?_; rintro e w' ⟨rfl, rfl⟩))
          go_ret2
          rw [HE.out]
          exact ⟨ret_ii rfl (by have := HK3.out; simp only; omega), rfl⟩
        · skip
          clear hj0 hv1
          go_wp2_with ((go_at_call 60; refine (hexa_any _ _ (by have := (s[k]'hk1).toNat_lt; omega)).mono ?_; rintro e w' ⟨rfl, rfl⟩))
          go_ret2
          rw [HE.out]
          exact ⟨ret_ii rfl (by have := HK3.out; simp only; omega), rfl⟩
    · have j2 : decide ((55296 : Int) ≤ C) = false := by simpa using hb2
      have HE : Hid (esc ((bs s).drop (p + 1)) = (C, j + 4)) := by
        show _ = _
        rw [HE0.out, if_neg HN.out, if_pos]
        unfold Lib.validRune; simp; omega
      rcases hvar with ⟨hv1, hv2⟩ | ⟨hv1, hv2, hv3⟩
      · skip
        clear hj0 hv1
        go_wp2_with ((go_at_call 60; refine (hexa_any _ _ (by have := (s[k]'hk1).toNat_lt; omega)).mono ?_; rintro e w' ⟨rfl, rfl⟩))
        go_ret2
        rw [HE.out]
        exact ⟨ret_ii rfl (by have := HK3.out; simp only; omega), rfl⟩
      · skip
        clear hj0 hv1
        go_wp2_with ((go_at_call 60; refine (hexa_any _ _ (by have := (s[k]'hk1).toNat_lt; omega)).mono ?_; rintro e w' ⟨rfl, rfl⟩))
        go_ret2
        rw [HE.out]
        exact ⟨ret_ii rfl (by have := HK3.out; simp only; omega), rfl⟩
end Go.Proofs.YtbhcniemkjoflaaDoor
