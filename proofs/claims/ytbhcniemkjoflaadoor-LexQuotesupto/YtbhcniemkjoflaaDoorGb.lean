/- Remarks within remarks. -/
import Derived.Test.YtbhcniemkjoflaaDoorGa
namespace Go.Proofs.YtbhcniemkjoflaaDoor
open Go.RowKit
open M
/-- What holds at the labels of nested. -/
def JN (b : Nat) (s : ByteArray) (p : Nat) (w : World) (l n : Nat) (a' : Act) (w' : World) : Prop :=
  ∃ (d q : Nat) (u4 u5 u6 u7 u8 u9 u10 u11 u12 u13 u14 u15 u16 u17 u18 u19 u20 u21 u22 u23 u24 u25 u26 u27 u28 u29 u30 u31 u32 u33 u34 u35 u36 u37 u38 u39 : Value), a' = { tmps := #[.pointer (some ⟨b, 0, none⟩), undef, .int .i64 0, .int .i64 (d : Int), u4, u5, u6, u7, u8, u9, u10, u11, u12, u13, u14, u15, u16, u17, u18, u19, u20, u21, u22, u23, u24, u25, u26, u27, u28, u29, u30, u31, u32, u33, u34, u35, u36, u37, u38, u39], defers := [] } ∧ Rdr w' b s q ∧ On b w w' ∧ 1 ≤ d ∧ d ≤ q + 1 ∧
    (nest 1 ((bs s).drop p)).1 = (nest d ((bs s).drop q)).1 ∧ p + (nest 1 ((bs s).drop p)).2 = q + (nest d ((bs s).drop q)).2 ∧
    ((l = 2 ∧ n = 2 * (s.size - q) + 1) ∨ (l = 0 ∧ n = 2 * (s.size - q) ∧ cc ((bs s).drop q) = 123) ∨ (l = 1 ∧ n = 2 * (s.size - q) ∧ cc ((bs s).drop q) = 45))

set_option maxHeartbeats 4000000 in
theorem nested_any (b : Nat) (s : ByteArray) (p : Nat) (w : World) (h : Rdr w b s p) :
    Calls Tryd.prog 71 #[.pointer (some ⟨b, 0, none⟩)] w fun e w' => e = .returned (.int .i64 (nest 1 ((bs s).drop p)).1) ∧ Rdr w' b s (p + (nest 1 ((bs s).drop p)).2) ∧ On b w w' := by
  go_enter Tryd.func71, Tryd.ntmps71
  go_wp2_with fail
  refine wp_scope_from (JN b s p w) 2 rfl ?_ ?_ ?_
  · rintro n a' w' ⟨d, q, u4, u5, u6, u7, u8, u9, u10, u11, u12, u13, u14, u15, u16, u17, u18, u19, u20, u21, u22, u23, u24, u25, u26, u27, u28, u29, u30, u31, u32, u33, u34, u35, u36, u37, u38, u39, rfl, hr, hk, hd, hd2, e1, e2, hl⟩
    obtain ⟨rfl⟩ : n = 2 * (s.size - q) + 1 := by omega
    clear hl
    have hs := hr.big
    have hq := hr.le
    obtain ⟨⟨c0, c1, c2, c3⟩, f0, f1, f2, f3⟩ := hr.raw.facts
    have HH := hide (And.intro hr (And.intro hk (And.intro e1 e2)))
    clear hr hk e1 e2
    by_cases g0 : cc ((bs s).drop q) = -1
    · have HE : Hid ((bs s).drop q = []) := cc_ne.1 g0
      rw [g0] at c2
      clear g0
      go_wp2_with fail
      simp only [Jumps]
      go_ret
      obtain ⟨hr, hk, e1, e2⟩ := HH.out
      rw [HE.out, nest_end] at e1 e2
      refine ⟨reti (a := 8) (by rw [e1]; rfl), ?_, hk⟩
      rw [e2]; exact hr
    by_cases g1 : cc ((bs s).drop q) = 123
    · have G1 := hide g1
      rw [g1] at c2
      clear g0 g1
      go_wp2_with fail
      go_step3
      obtain ⟨hr, hk, e1, e2⟩ := HH.out
      exact ⟨2 * (s.size - q), by omega, d, q, _, _, _, _, _, _, _, _, _, _, _, _, _, _, _, _, _, _, _, _, _, _, _, _, _, _, _, _, _, _, _, _, _, _, _, _, rfl, hr, hk, hd, hd2, e1, e2, .inr (.inl ⟨rfl, rfl, G1.out⟩)⟩
    by_cases g2 : cc ((bs s).drop q) = 45
    · have G2 := hide g2
      rw [g2] at c2
      clear g0 g1 g2
      go_wp2_with fail
      go_step3
      obtain ⟨hr, hk, e1, e2⟩ := HH.out
      exact ⟨2 * (s.size - q), by omega, d, q, _, _, _, _, _, _, _, _, _, _, _, _, _, _, _, _, _, _, _, _, _, _, _, _, _, _, _, _, _, _, _, _, _, _, _, _, rfl, hr, hk, hd, hd2, e1, e2, .inr (.inr ⟨rfl, rfl, G2.out⟩)⟩
    · have b0 : (cc ((bs s).drop q) == -1) = false := by simpa using g0
      have b1 : (cc ((bs s).drop q) == 123) = false := by simpa using g1
      have b2 : (cc ((bs s).drop q) == 45) = false := by simpa using g2
      have HN := hide (nest_on (deep := d) g0 g1 g2)
      have HP := hide (sz_pos_cc g0)
      clear g0 g1 g2
      go_wp2_with fail
      refine (pass_any b s q _ (by exact (HH.out).1)).mono ?_
      rintro e w2 ⟨rfl, r2, k2⟩
      go_wp2_with fail
      go_step3
      obtain ⟨hr, hk, e1, e2⟩ := HH.out
      rw [HN.out] at e1 e2
      have := HP.out
      have hz := r2.le
      rw [nx_drop] at e1 e2
      exact ⟨2 * (s.size - (q + sz ((bs s).drop q))) + 1, by omega, d, _, _, _, _, _, _, _, _, _, _, _, _, _, _, _, _, _, _, _, _, _, _, _, _, _, _, _, _, _, _, _, _, _, _, _, _, _, rfl, r2, hk.to k2, hd, by omega, e1, by rw [e2]; simp only; omega, .inl ⟨rfl, rfl⟩⟩
  · rintro l n a' w' hne ⟨d, q, u4, u5, u6, u7, u8, u9, u10, u11, u12, u13, u14, u15, u16, u17, u18, u19, u20, u21, u22, u23, u24, u25, u26, u27, u28, u29, u30, u31, u32, u33, u34, u35, u36, u37, u38, u39, rfl, hr, hk, hd, hd2, e1, e2, hl⟩
    have hs := hr.big
    have hq := hr.le
    obtain ⟨⟨c0, c1, c2, c3⟩, f0, f1, f2, f3⟩ := hr.raw.facts
    have HH := hide (And.intro hr (And.intro hk (And.intro e1 e2)))
    clear hr hk e1 e2
    rcases hl with ⟨rfl, _⟩ | ⟨rfl, rfl, hc⟩ | ⟨rfl, rfl, hc⟩
    · exact absurd rfl hne
    · refine ⟨_, rfl, ?_⟩
      have z1 : sz ((bs s).drop q) = 1 := sz_cc (by omega) (by omega)
      have HP := hide (pass_any b s q w' (HH.out).1)
      have HC := hide hc
      have Z1 := hide z1
      have hq1 : q + 1 ≤ s.size := by have := sz_drop_le hq; omega
      rw [z1] at HP
      clear hc z1 c0 c1 c2 c3 f0 f1 f2 f3
      go_wp2_with fail
      refine (HP.out).mono ?_
      rintro e w2 ⟨rfl, r2, k2⟩
      obtain ⟨⟨c0, c1, c2, c3⟩, f0, f1, f2, f3⟩ := r2.raw.facts
      have eN : nx ((bs s).drop q) = (bs s).drop (q + 1) := by rw [nx_drop, Z1.out]
      have EN := hide eN
      have R2 := hide (And.intro r2 k2)
      clear r2 k2 eN
      by_cases g : cc ((bs s).drop (q + 1)) = 45
      · have G := hide g
        have z2 : sz ((bs s).drop (q + 1)) = 1 := sz_cc (by omega) (by omega)
        have HP2 := hide (pass_any b s (q + 1) w2 (R2.out).1)
        have Z2 := hide z2
        have hq2 : q + 1 + 1 ≤ s.size := by have := sz_drop_le hq1; omega
        rw [z2] at HP2
        rw [g] at c2
        clear g z2
        go_wp2_with fail
        refine (HP2.out).mono ?_
        rintro e w3 ⟨rfl, r3, k3⟩
        go_wp2_with fail
        go_step3
        obtain ⟨hr, hk, e1, e2⟩ := HH.out
        have h1 : cc (nx ((bs s).drop q)) = 45 := by rw [EN.out]; exact G.out
        have eN2 : nx (nx ((bs s).drop q)) = (bs s).drop (q + 1 + 1) := by rw [EN.out, nx_drop, Z2.out]
        rw [nest_open HC.out h1, eN2] at e1 e2
        exact ⟨2 * (s.size - (q + 1 + 1)) + 1, by omega, d + 1, q + 1 + 1, _, _, _, _, _, _, _, _, _, _, _, _, _, _, _, _, _, _, _, _, _, _, _, _, _, _, _, _, _, _, _, _, _, _, _, _, rfl, r3, (hk.to (R2.out).2).to k3, by omega, by omega, e1, by rw [e2]; simp only; omega, .inl ⟨rfl, rfl⟩⟩
      · have G := hide g
        have bg : (cc ((bs s).drop (q + 1)) == 45) = false := by simpa using g
        clear g
        go_wp2_with fail
        go_step3
        obtain ⟨hr, hk, e1, e2⟩ := HH.out
        have h1 : cc (nx ((bs s).drop q)) ≠ 45 := by rw [EN.out]; exact G.out
        rw [nest_brace HC.out h1, EN.out] at e1 e2
        exact ⟨2 * (s.size - (q + 1)) + 1, by omega, d, q + 1, _, _, _, _, _, _, _, _, _, _, _, _, _, _, _, _, _, _, _, _, _, _, _, _, _, _, _, _, _, _, _, _, _, _, _, _, rfl, (R2.out).1, hk.to (R2.out).2, by omega, by omega, e1, by rw [e2]; simp only; omega, .inl ⟨rfl, rfl⟩⟩
    · refine ⟨_, rfl, ?_⟩
      have z1 : sz ((bs s).drop q) = 1 := sz_cc (by omega) (by omega)
      have HP := hide (pass_any b s q w' (HH.out).1)
      have HC := hide hc
      have Z1 := hide z1
      have hq1 : q + 1 ≤ s.size := by have := sz_drop_le hq; omega
      rw [z1] at HP
      clear hc z1 c0 c1 c2 c3 f0 f1 f2 f3
      go_wp2_with fail
      refine (HP.out).mono ?_
      rintro e w2 ⟨rfl, r2, k2⟩
      obtain ⟨⟨c0, c1, c2, c3⟩, f0, f1, f2, f3⟩ := r2.raw.facts
      have eN : nx ((bs s).drop q) = (bs s).drop (q + 1) := by rw [nx_drop, Z1.out]
      have EN := hide eN
      have R2 := hide (And.intro r2 k2)
      clear r2 k2 eN
      by_cases g : cc ((bs s).drop (q + 1)) = 125
      · have G := hide g
        have z2 : sz ((bs s).drop (q + 1)) = 1 := sz_cc (by omega) (by omega)
        have HP2 := hide (pass_any b s (q + 1) w2 (R2.out).1)
        have Z2 := hide z2
        have hq2 : q + 1 + 1 ≤ s.size := by have := sz_drop_le hq1; omega
        have h1 : cc (nx ((bs s).drop q)) = 125 := by rw [EN.out]; exact g
        have H1 := hide h1
        rw [z2] at HP2
        rw [g] at c2
        clear g z2 h1
        by_cases hd1 : d ≤ 1
        · have hd' : ¬ (0 : Int) < (d : Int) - 1 := by omega
          go_wp2_with fail
          refine (HP2.out).mono ?_
          rintro e w3 ⟨rfl, r3, k3⟩
          go_wp2_with fail
          simp only [Jumps]
          go_ret
          obtain ⟨hr, hk, e1, e2⟩ := HH.out
          rw [nest_last HC.out H1.out hd1] at e1 e2
          refine ⟨reti (a := 2) (by rw [e1]; rfl), ?_, (hk.to (R2.out).2).to k3⟩
          rw [e2]; exact r3
        · have hd' : (0 : Int) < (d : Int) - 1 := by omega
          go_wp2_with fail
          refine (HP2.out).mono ?_
          rintro e w3 ⟨rfl, r3, k3⟩
          go_wp2_with fail
          go_step3
          obtain ⟨hr, hk, e1, e2⟩ := HH.out
          have eN2 : nx (nx ((bs s).drop q)) = (bs s).drop (q + 1 + 1) := by rw [EN.out, nx_drop, Z2.out]
          rw [nest_shut HC.out H1.out hd1, eN2] at e1 e2
          have ed : ((d : Int) - 1) = ((d - 1 : Nat) : Int) := by omega
          rw [ed]
          exact ⟨2 * (s.size - (q + 1 + 1)) + 1, by omega, d - 1, q + 1 + 1, _, _, _, _, _, _, _, _, _, _, _, _, _, _, _, _, _, _, _, _, _, _, _, _, _, _, _, _, _, _, _, _, _, _, _, _, rfl, r3, (hk.to (R2.out).2).to k3, by omega, by omega, e1, by rw [e2]; simp only; omega, .inl ⟨rfl, rfl⟩⟩
      · have G := hide g
        have bg : (cc ((bs s).drop (q + 1)) == 125) = false := by simpa using g
        clear g
        go_wp2_with fail
        go_step3
        obtain ⟨hr, hk, e1, e2⟩ := HH.out
        have h1 : cc (nx ((bs s).drop q)) ≠ 125 := by rw [EN.out]; exact G.out
        rw [nest_dash HC.out h1, EN.out] at e1 e2
        exact ⟨2 * (s.size - (q + 1)) + 1, by omega, d, q + 1, _, _, _, _, _, _, _, _, _, _, _, _, _, _, _, _, _, _, _, _, _, _, _, _, _, _, _, _, _, _, _, _, _, _, _, _, rfl, (R2.out).1, hk.to (R2.out).2, by omega, by omega, e1, by rw [e2]; simp only; omega, .inl ⟨rfl, rfl⟩⟩
  · intro hin
    go_wp2_with fail
    go_step3
    rename_i hK
    have hJ : JN b s p w 2 (2 * (s.size - p) + 1) { tmps := #[.pointer (some ⟨b, 0, none⟩), undef, .int .i64 0, .int .i64 1, undef, undef, undef, undef, undef, undef, undef, undef, undef, undef, undef, undef, undef, undef, undef, undef, undef, undef, undef, undef, undef, undef, undef, undef, undef, undef, undef, undef, undef, undef, undef, undef, undef, undef, undef, undef], defers := [] } w := ⟨1, p, undef, undef, undef, undef, undef, undef, undef, undef, undef, undef, undef, undef, undef, undef, undef, undef, undef, undef, undef, undef, undef, undef, undef, undef, undef, undef, undef, undef, undef, undef, undef, undef, undef, undef, undef, undef, rfl, h, Kp.refl _ _, Nat.le_refl _, by omega, rfl, rfl, .inl ⟨rfl, rfl⟩⟩
    have hh := hin _ _ _ hJ
    exact hK _ _ hh
end Go.Proofs.YtbhcniemkjoflaaDoor
