/- What a \ takes. -/
import Derived.Test.YtbhcniemkjoflaaDoorGc
namespace Go.Proofs.YtbhcniemkjoflaaDoor
open Go.RowKit
open M

set_option maxHeartbeats 4000000 in
theorem taken_any (b : Nat) (s : ByteArray) (p : Nat) (w : World) (h : Rdr w b s p) :
    Calls Tryd.prog 33 #[.pointer (some ⟨b, 0, none⟩)] w fun e w' => e = .returned (.tuple #[.int .i32 (taken ((bs s).drop p)).1, .bool (taken ((bs s).drop p)).2.1]) ∧ Rdr w' b s (p + (taken ((bs s).drop p)).2.2) ∧ On b w w' := by
  have hs := h.big
  have hq := h.le
  obtain ⟨⟨c0, c1, c2, c3⟩, f0, f1, f2, f3⟩ := h.raw.facts
  by_cases gm : cc ((bs s).drop p) = -1
  · have HT : Hid (taken ((bs s).drop p) = (0, false, 0)) := by show _ = _; unfold taken; rw [if_pos (by simp [gm])]
    rw [gm] at c2
    go_enter Tryd.func33, Tryd.ntmps33
    go_wp2_with fail
    go_ret2
    rw [HT.out]
    exact ⟨rfl, h, Kp.refl _ _⟩
  by_cases g10 : cc ((bs s).drop p) = 10
  · have HT : Hid (taken ((bs s).drop p) = (0, false, 0)) := by show _ = _; unfold taken; rw [if_pos (by simp [g10])]
    rw [g10] at c2
    go_enter Tryd.func33, Tryd.ntmps33
    go_wp2_with fail
    go_ret2
    rw [HT.out]
    exact ⟨rfl, h, Kp.refl _ _⟩
  have HP := hide (pass_any b s p w h)
  by_cases g110 : cc ((bs s).drop p) = 110
  · have HT : Hid (taken ((bs s).drop p) = (10, true, 1)) := by show _ = _; unfold taken; rw [if_neg (by omega), if_pos g110]
    have z1 : sz ((bs s).drop p) = 1 := sz_cc (by omega) (by omega)
    rw [z1] at HP
    rw [g110] at c2
    clear z1
    go_enter Tryd.func33, Tryd.ntmps33
    go_wp2_with ((go_at_call 32; refine (HP.out).mono ?_; rintro e w1 ⟨rfl, r1, k1⟩))
    go_ret2
    rw [HT.out]
    exact ⟨rfl, r1, k1⟩
  by_cases g116 : cc ((bs s).drop p) = 116
  · have HT : Hid (taken ((bs s).drop p) = (9, true, 1)) := by show _ = _; unfold taken; rw [if_neg (by omega), if_neg g110, if_pos g116]
    have z1 : sz ((bs s).drop p) = 1 := sz_cc (by omega) (by omega)
    rw [z1] at HP
    rw [g116] at c2
    clear z1
    go_enter Tryd.func33, Tryd.ntmps33
    go_wp2_with ((go_at_call 32; refine (HP.out).mono ?_; rintro e w1 ⟨rfl, r1, k1⟩))
    go_ret2
    rw [HT.out]
    exact ⟨rfl, r1, k1⟩
  by_cases g34 : cc ((bs s).drop p) = 34
  · have HT : Hid (taken ((bs s).drop p) = (34, true, 1)) := by show _ = _; unfold taken; rw [if_neg (by omega), if_neg g110, if_neg g116, if_pos (.inl g34), g34]
    have z1 : sz ((bs s).drop p) = 1 := sz_cc (by omega) (by omega)
    rw [z1] at HP
    rw [g34] at c2
    clear z1
    go_enter Tryd.func33, Tryd.ntmps33
    go_wp2_with ((go_at_call 32; refine (HP.out).mono ?_; rintro e w1 ⟨rfl, r1, k1⟩))
    go_ret2
    rw [HT.out]
    exact ⟨rfl, r1, k1⟩
  by_cases g92 : cc ((bs s).drop p) = 92
  · have HT : Hid (taken ((bs s).drop p) = (92, true, 1)) := by show _ = _; unfold taken; rw [if_neg (by omega), if_neg g110, if_neg g116, if_pos (.inr g92), g92]
    have z1 : sz ((bs s).drop p) = 1 := sz_cc (by omega) (by omega)
    rw [z1] at HP
    rw [g92] at c2
    clear z1
    go_enter Tryd.func33, Tryd.ntmps33
    go_wp2_with ((go_at_call 32; refine (HP.out).mono ?_; rintro e w1 ⟨rfl, r1, k1⟩))
    go_ret2
    rw [HT.out]
    exact ⟨rfl, r1, k1⟩
  by_cases g117 : cc ((bs s).drop p) = 117
  · have z1 : sz ((bs s).drop p) = 1 := sz_cc (by omega) (by omega)
    have HT : Hid (taken ((bs s).drop p) = ((code ((bs s).drop (p + 1))).1, (code ((bs s).drop (p + 1))).2.1, 1 + (code ((bs s).drop (p + 1))).2.2)) := by
      show _ = _
      unfold taken; rw [if_neg (by omega), if_neg g110, if_neg g116, if_neg (by omega), if_pos g117, nx_drop, z1]
    rw [z1] at HP
    rw [g117] at c2
    clear z1
    go_enter Tryd.func33, Tryd.ntmps33
    go_wp2_with (first | (go_at_call 32; refine (HP.out).mono ?_; rintro e w1 ⟨rfl, r1, k1⟩) | (go_at_call 57; refine (codePoint_any b s (p + 1) _ r1).mono ?_; rintro e w2 ⟨rfl, r2, k2⟩))
    go_ret2
    rw [HT.out]
    refine ⟨rfl, ?_, k1.to k2⟩
    rw [show p + (1 + (code ((bs s).drop (p + 1))).2.2) = p + 1 + (code ((bs s).drop (p + 1))).2.2 by omega]
    exact r2
  · have HT : Hid (taken ((bs s).drop p) = (0, false, sz ((bs s).drop p))) := by
      show _ = _
      unfold taken; rw [if_neg (by omega), if_neg g110, if_neg g116, if_neg (by omega), if_neg g117]
    have bm : (cc ((bs s).drop p) == -1) = false := by simpa using gm
    have b10 : (cc ((bs s).drop p) == 10) = false := by simpa using g10
    have b110 : (cc ((bs s).drop p) == 110) = false := by simpa using g110
    have b116 : (cc ((bs s).drop p) == 116) = false := by simpa using g116
    have b34 : (cc ((bs s).drop p) == 34) = false := by simpa using g34
    have b92 : (cc ((bs s).drop p) == 92) = false := by simpa using g92
    have b117 : (cc ((bs s).drop p) == 117) = false := by simpa using g117
    clear gm g10 g110 g116 g34 g92 g117
    go_enter Tryd.func33, Tryd.ntmps33
    go_wp2_with ((go_at_call 32; refine (HP.out).mono ?_; rintro e w1 ⟨rfl, r1, k1⟩))
    go_ret2
    rw [HT.out]
    exact ⟨rfl, r1, k1⟩

/-- What holds at the labels of quoted. -/
def JQ (b : Nat) (s : ByteArray) (p : Nat) (w : World) (L0 L1 : Nat) (l n : Nat) (a' : Act) (w' : World) : Prop :=
  ∃ (d q : Nat) (u4 u5 u6 u7 u8 u9 u10 u11 u12 u13 u14 u15 u16 u17 u18 u19 u20 u21 u22 u23 u24 u25 u26 u27 u28 u29 u30 : Value), a' = { tmps := #[.pointer (some ⟨b, 0, none⟩), undef, .int .i64 0, .int .i64 (d : Int), u4, u5, u6, u7, u8, u9, u10, u11, u12, u13, u14, u15, u16, u17, u18, u19, u20, u21, u22, u23, u24, u25, u26, u27, u28, u29, u30], defers := [] } ∧ Rdr w' b s q ∧ On b w w' ∧ d ≤ 8 ∧
    (quo 6 ((bs s).drop p)).1 = (quo d ((bs s).drop q)).1 ∧ p + (quo 6 ((bs s).drop p)).2 = q + (quo d ((bs s).drop q)).2 ∧
    ((l = L0 ∧ n = 2 * (s.size - q) + 1) ∨ (l = L1 ∧ n = 2 * (s.size - q) ∧ cc ((bs s).drop q) = 92))

set_option maxHeartbeats 4000000 in
theorem quoted_any (b : Nat) (s : ByteArray) (p : Nat) (w : World) (h : Rdr w b s p) :
    Calls Tryd.prog 70 #[.pointer (some ⟨b, 0, none⟩)] w fun e w' => e = .returned (.int .i64 (quo 6 ((bs s).drop p)).1) ∧ Rdr w' b s (p + (quo 6 ((bs s).drop p)).2) ∧ On b w w' := by
  go_enter Tryd.func70, Tryd.ntmps70
  go_wp2_with fail
  refine wp_scope_from (JQ b s p w 1 0) 1 rfl ?_ ?_ ?_
  · rintro n a' w' ⟨d, q, u4, u5, u6, u7, u8, u9, u10, u11, u12, u13, u14, u15, u16, u17, u18, u19, u20, u21, u22, u23, u24, u25, u26, u27, u28, u29, u30, rfl, hr, hk, hd, e1, e2, hl⟩
    obtain ⟨rfl⟩ : n = 2 * (s.size - q) + 1 := by omega
    clear hl
    have hs := hr.big
    have hq := hr.le
    obtain ⟨⟨c0, c1, c2, c3⟩, f0, f1, f2, f3⟩ := hr.raw.facts
    have HH := hide (And.intro hr (And.intro hk (And.intro e1 e2)))
    clear hr hk e1 e2
    by_cases g0 : cc ((bs s).drop q) = -1
    · have HE := hide (quo_end (kind := d) (.inl g0))
      rw [g0] at c2
      clear g0
      go_wp2_with fail
      simp only [Jumps]
      go_ret
      obtain ⟨hr, hk, e1, e2⟩ := HH.out
      rw [HE.out] at e1 e2
      refine ⟨reti (a := 8) (by rw [e1]; rfl), ?_, hk⟩
      rw [e2]; exact hr
    by_cases g1 : cc ((bs s).drop q) = 10
    · have HE := hide (quo_end (kind := d) (.inr g1))
      rw [g1] at c2
      clear g0 g1
      go_wp2_with fail
      simp only [Jumps]
      go_ret
      obtain ⟨hr, hk, e1, e2⟩ := HH.out
      rw [HE.out] at e1 e2
      refine ⟨reti (a := 8) (by rw [e1]; rfl), ?_, hk⟩
      rw [e2]; exact hr
    have HP := hide (pass_any b s q w' (HH.out).1)
    by_cases g2 : cc ((bs s).drop q) = 34
    · have HE := hide (quo_shut (kind := d) g2)
      have z1 : sz ((bs s).drop q) = 1 := sz_cc (by omega) (by omega)
      rw [z1] at HP
      rw [g2] at c2
      clear g0 g1 g2 z1
      go_wp2_with ((go_at_call 32; refine (HP.out).mono ?_; rintro e w1 ⟨rfl, r1, k1⟩))
      simp only [Jumps]
      go_ret
      obtain ⟨hr, hk, e1, e2⟩ := HH.out
      rw [HE.out] at e1 e2
      refine ⟨reti (a := (d : Int)) (by rw [e1]), ?_, hk.to k1⟩
      rw [e2]; exact r1
    by_cases g3 : cc ((bs s).drop q) = 92
    · have G3 := hide g3
      rw [g3] at c2
      clear g0 g1 g2 g3
      go_wp2_with fail
      go_step3
      obtain ⟨hr, hk, e1, e2⟩ := HH.out
      exact ⟨2 * (s.size - q), by omega, d, q, _, _, _, _, _, _, _, _, _, _, _, _, _, _, _, _, _, _, _, _, _, _, _, _, _, _, _, rfl, hr, hk, hd, e1, e2, .inr ⟨rfl, rfl, G3.out⟩⟩
    · have b0 : (cc ((bs s).drop q) == -1) = false := by simpa using g0
      have b1 : (cc ((bs s).drop q) == 10) = false := by simpa using g1
      have b2 : (cc ((bs s).drop q) == 34) = false := by simpa using g2
      have b3 : (cc ((bs s).drop q) == 92) = false := by simpa using g3
      have HN := hide (quo_on (kind := d) g0 g1 g2 g3)
      have HZ := hide (sz_pos_cc g0)
      clear g0 g1 g2 g3
      go_wp2_with ((go_at_call 32; refine (HP.out).mono ?_; rintro e w1 ⟨rfl, r1, k1⟩))
      go_step3
      obtain ⟨hr, hk, e1, e2⟩ := HH.out
      rw [HN.out] at e1 e2
      have := HZ.out
      have hz := r1.le
      rw [nx_drop] at e1 e2
      exact ⟨2 * (s.size - (q + sz ((bs s).drop q))) + 1, by omega, d, _, _, _, _, _, _, _, _, _, _, _, _, _, _, _, _, _, _, _, _, _, _, _, _, _, _, _, _, rfl, r1, hk.to k1, hd, e1, by rw [e2]; simp only; omega, .inl ⟨rfl, rfl⟩⟩
  · rintro l n a' w' hne ⟨d, q, u4, u5, u6, u7, u8, u9, u10, u11, u12, u13, u14, u15, u16, u17, u18, u19, u20, u21, u22, u23, u24, u25, u26, u27, u28, u29, u30, rfl, hr, hk, hd, e1, e2, hl⟩
    have hs := hr.big
    have hq := hr.le
    have HH := hide (And.intro hr (And.intro hk (And.intro e1 e2)))
    clear hr hk e1 e2
    rcases hl with ⟨rfl, _⟩ | ⟨rfl, rfl, hc⟩
    · exact absurd rfl hne
    · refine ⟨_, rfl, ?_⟩
      have z1 : sz ((bs s).drop q) = 1 := sz_cc (by omega) (by omega)
      have HP := hide (pass_any b s q w' (HH.out).1)
      have hq1 : q + 1 ≤ s.size := by have := sz_drop_le hq; omega
      have HN := hide (quo_slash (kind := d) hc)
      rw [z1] at HP
      rw [nx_drop, z1, List.drop_drop] at HN
      clear hc z1
      cases hok : (taken ((bs s).drop (q + 1))).2.1
      · have HO := hide hok
        go_wp2_with (first | (go_at_call 32; refine (HP.out).mono ?_; rintro e w1 ⟨rfl, r1, k1⟩) | (go_at_call 33; refine (taken_any b s (q + 1) _ r1).mono ?_; rintro e w2 ⟨rfl, r2, k2⟩))
        go_step3
        obtain ⟨hr, hk, e1, e2⟩ := HH.out
        rw [HN.out, HO.out] at e1 e2
        have hz := r2.le
        exact ⟨2 * (s.size - (q + 1 + (taken ((bs s).drop (q + 1))).2.2)) + 1, by omega, 8, q + 1 + (taken ((bs s).drop (q + 1))).2.2, _, _, _, _, _, _, _, _, _, _, _, _, _, _, _, _, _, _, _, _, _, _, _, _, _, _, _, rfl, r2, (hk.to k1).to k2, by omega, e1, by rw [e2]; simp only [Bool.false_eq_true, if_false]; omega, .inl ⟨rfl, rfl⟩⟩
      · have HO := hide hok
        go_wp2_with (first | (go_at_call 32; refine (HP.out).mono ?_; rintro e w1 ⟨rfl, r1, k1⟩) | (go_at_call 33; refine (taken_any b s (q + 1) _ r1).mono ?_; rintro e w2 ⟨rfl, r2, k2⟩))
        go_step3
        obtain ⟨hr, hk, e1, e2⟩ := HH.out
        rw [HN.out, HO.out] at e1 e2
        have hz := r2.le
        exact ⟨2 * (s.size - (q + 1 + (taken ((bs s).drop (q + 1))).2.2)) + 1, by omega, d, q + 1 + (taken ((bs s).drop (q + 1))).2.2, _, _, _, _, _, _, _, _, _, _, _, _, _, _, _, _, _, _, _, _, _, _, _, _, _, _, _, rfl, r2, (hk.to k1).to k2, hd, e1, by rw [e2]; simp only [if_true]; omega, .inl ⟨rfl, rfl⟩⟩
  · intro hin
    go_wp2_with fail
    go_step3
    rename_i hK
    have hJ : JQ b s p w 1 0 1 (2 * (s.size - p) + 1) { tmps := #[.pointer (some ⟨b, 0, none⟩), undef, .int .i64 0, .int .i64 6, undef, undef, undef, undef, undef, undef, undef, undef, undef, undef, undef, undef, undef, undef, undef, undef, undef, undef, undef, undef, undef, undef, undef, undef, undef, undef, undef], defers := [] } w := ⟨6, p, undef, undef, undef, undef, undef, undef, undef, undef, undef, undef, undef, undef, undef, undef, undef, undef, undef, undef, undef, undef, undef, undef, undef, undef, undef, undef, undef, rfl, h, Kp.refl _ _, by omega, rfl, rfl, .inl ⟨rfl, rfl⟩⟩
    have hh := hin _ _ _ hJ
    exact hK _ _ hh
end Go.Proofs.YtbhcniemkjoflaaDoor
