/- What kind of token begins where a reader is: spaces. -/
import Derived.Test.YtbhcniemkjoflaaDoorWd
namespace Go.Proofs.YtbhcniemkjoflaaDoor
open Go.RowKit
open M

theorem ne_sp {t : List UInt8} (h : isSp (cc t) = true) : t ≠ [] := by rintro rfl; rw [cc_nil] at h; revert h; decide
theorem ne_dg {t : List UInt8} (h : isDg (cc t) = true) : t ≠ [] := by rintro rfl; rw [cc_nil] at h; revert h; decide
theorem ne_lt {t : List UInt8} (h : isLt (cc t) = true) : t ≠ [] := by rintro rfl; rw [cc_nil] at h; revert h; decide
theorem ne_nm {t : List UInt8} (h : isNm (cc t) = true) : t ≠ [] := by rintro rfl; rw [cc_nil] at h; revert h; decide
/-- What holds at a label of kind: characters of one sort are passed. -/
def JS (b : Nat) (s : ByteArray) (p : Nat) (c0 : Int) (w : World) (P : Int → Bool) (T L : Nat) (l n : Nat) (a' : Act) (w' : World) : Prop :=
  ∃ (q : Nat) (u5 u6 u7 u8 u9 u10 u11 u12 u13 u14 u15 u16 u17 u65 u66 u67 u68 u69 u70 u71 : Value), a' = { tmps := #[.pointer (some ⟨b, 0, none⟩), undef, .int .i64 0, .int .i64 (p : Int), .int .i32 c0, u5, u6, u7, u8, u9, u10, u11, u12, u13, u14, u15, u16, u17, undef, undef, undef, undef, undef, undef, undef, undef, undef, undef, undef, undef, undef, undef, undef, undef, undef, undef, undef, undef, undef, undef, undef, undef, undef, undef, undef, undef, undef, undef, undef, undef, undef, undef, undef, undef, undef, undef, undef, undef, undef, undef, undef, undef, undef, undef, undef, u65, u66, u67, u68, u69, u70, u71, undef, undef, undef, undef, undef, undef, undef, undef, undef, undef, undef, undef, undef, undef, undef, undef, undef, undef, undef, undef, undef, undef, undef, undef, undef, undef, undef, undef, undef, undef, undef, undef, undef, undef, undef, undef, undef, undef, undef, undef, undef, undef, undef, undef, undef, undef, undef, undef, undef, undef, undef, undef, undef], defers := [] } ∧ Rdr w' b s q ∧ On b w w' ∧ p ≤ q ∧ p + T = q + skip P ((bs s).drop q) ∧ l = L ∧ n = s.size - q

set_option maxHeartbeats 4000000 in
theorem kind_space (b : Nat) (s : ByteArray) (p : Nat) (w : World) (h : Rdr w b s p) (hp : p < s.size) (hc : isSp (cc ((bs s).drop p)) = true) :
    Calls Tryd.prog 49 #[.pointer (some ⟨b, 0, none⟩)] w fun e w' => e = .returned (.int .i64 1) ∧ Rdr w' b s (p + (sz ((bs s).drop p) + skip isSp (nx ((bs s).drop p)))) ∧ On b w w' := by
  obtain ⟨⟨c0, c1, c2, c3⟩, f0, f1, f2, f3⟩ := h.raw.facts
  have hs := h.big
  have HZ := hide (sz_pos (drop_ne hp))
  go_enter Tryd.func49, Tryd.ntmps49
  go_wp2_with fail
  refine wp_scope_many (JS b s p (cc ((bs s).drop p)) w isSp (sz ((bs s).drop p) + skip isSp (nx ((bs s).drop p))) 0) ?_ ?_
  · go_wp2_with fail
    go_quiet (fail)
    go_wp2_with (first | (go_at_call 32; refine (pass_any b s p _ (h.drewN _)).mono ?_; rintro e w1 ⟨rfl, r1, k1⟩) | (go_at_call 67; refine (isSpace_any _ _).mono ?_; rintro e w' ⟨rfl, rfl⟩) | (go_at_call 68; refine (isLetter_any _ _).mono ?_; rintro e w' ⟨rfl, rfl⟩) | (go_at_call 69; refine (isDigit_any _ _).mono ?_; rintro e w' ⟨rfl, rfl⟩))
    go_step3
    have := HZ.out
    exact ⟨s.size - (p + sz ((bs s).drop p)), p + sz ((bs s).drop p), _, _, _, _, _, _, _, _, _, _, _, _, _, _, _, _, _, _, _, _, rfl, r1, (On.drewN b w nq).to k1, by omega, by rw [nx_drop]; omega, rfl, rfl⟩
  · rintro l n a' w' ⟨q, u5, u6, u7, u8, u9, u10, u11, u12, u13, u14, u15, u16, u17, u65, u66, u67, u68, u69, u70, u71, rfl, hr, hk, hpq, hT, rfl, rfl⟩
    refine ⟨_, rfl, ?_⟩
    have hq := hr.le
    clear c0 c1 c2 c3 f0 f1 f2 f3
    obtain ⟨⟨c0, c1, c2, c3⟩, f0, f1, f2, f3⟩ := hr.raw.facts
    have HP2 := hide (pass_any b s q w' hr)
    have HH := hide (And.intro hr (And.intro hk hT))
    clear hr hk hT
    cases hx : isSp (cc ((bs s).drop q))
    · have HN := hide (skip_no (p := isSp) hx)
      go_wp2_with (first | (go_at_call 32; refine (HP2.out).mono ?_; rintro e w1 ⟨rfl, r1, k1⟩) | (go_at_call 67; refine (isSpace_any _ _).mono ?_; rintro e w' ⟨rfl, rfl⟩) | (go_at_call 68; refine (isLetter_any _ _).mono ?_; rintro e w' ⟨rfl, rfl⟩) | (go_at_call 69; refine (isDigit_any _ _).mono ?_; rintro e w' ⟨rfl, rfl⟩))
      simp only [Jumps]
      go_ret
      obtain ⟨hr, hk, hT⟩ := HH.out
      rw [HN.out] at hT
      refine ⟨rfl, ?_, hk⟩
      rw [hT]; exact hr
    · have HN := hide (skip_yes (p := isSp) (t := (bs s).drop q) (ne_sp hx) hx)
      have HZ2 := hide (sz_pos (l := (bs s).drop q) (ne_sp hx))
      go_wp2_with (first | (go_at_call 32; refine (HP2.out).mono ?_; rintro e w1 ⟨rfl, r1, k1⟩) | (go_at_call 67; refine (isSpace_any _ _).mono ?_; rintro e w' ⟨rfl, rfl⟩) | (go_at_call 68; refine (isLetter_any _ _).mono ?_; rintro e w' ⟨rfl, rfl⟩) | (go_at_call 69; refine (isDigit_any _ _).mono ?_; rintro e w' ⟨rfl, rfl⟩))
      go_step3
      obtain ⟨hr, hk, hT⟩ := HH.out
      rw [HN.out, nx_drop (bs s) q] at hT
      have := HZ2.out
      have hz := r1.le
      exact ⟨s.size - (q + sz ((bs s).drop q)), by omega, q + sz ((bs s).drop q), _, _, _, _, _, _, _, _, _, _, _, _, _, _, _, _, _, _, _, _, rfl, r1, hk.to k1, by omega, by omega, rfl, rfl⟩
end Go.Proofs.YtbhcniemkjoflaaDoor
/- What kind of token begins where a reader is: numbers. -/
namespace Go.Proofs.YtbhcniemkjoflaaDoor
open Go.RowKit
open M
/-- What holds at a label of kind: characters of one sort are passed. -/
def JD (b : Nat) (s : ByteArray) (p : Nat) (c0 : Int) (w : World) (P : Int → Bool) (T L : Nat) (l n : Nat) (a' : Act) (w' : World) : Prop :=
  ∃ (q : Nat) (u5 u6 u7 u8 u9 u10 u11 u12 u13 u14 u15 u16 u17 u18 u19 u20 u21 u22 u23 u97 u98 u99 u100 u101 u102 u103 : Value), a' = { tmps := #[.pointer (some ⟨b, 0, none⟩), undef, .int .i64 0, .int .i64 (p : Int), .int .i32 c0, u5, u6, u7, u8, u9, u10, u11, u12, u13, u14, u15, u16, u17, u18, u19, u20, u21, u22, u23, undef, undef, undef, undef, undef, undef, undef, undef, undef, undef, undef, undef, undef, undef, undef, undef, undef, undef, undef, undef, undef, undef, undef, undef, undef, undef, undef, undef, undef, undef, undef, undef, undef, undef, undef, undef, undef, undef, undef, undef, undef, undef, undef, undef, undef, undef, undef, undef, undef, undef, undef, undef, undef, undef, undef, undef, undef, undef, undef, undef, undef, undef, undef, undef, undef, undef, undef, undef, undef, undef, undef, undef, undef, u97, u98, u99, u100, u101, u102, u103, undef, undef, undef, undef, undef, undef, undef, undef, undef, undef, undef, undef, undef, undef, undef, undef, undef, undef, undef, undef, undef], defers := [] } ∧ Rdr w' b s q ∧ On b w w' ∧ p ≤ q ∧ p + T = q + skip P ((bs s).drop q) ∧ l = L ∧ n = s.size - q

set_option maxHeartbeats 4000000 in
theorem kind_digit (b : Nat) (s : ByteArray) (p : Nat) (w : World) (h : Rdr w b s p) (hp : p < s.size) (h1 : isSp (cc ((bs s).drop p)) = false) (h2 : isLt (cc ((bs s).drop p)) = false) (hc : isDg (cc ((bs s).drop p)) = true) :
    Calls Tryd.prog 49 #[.pointer (some ⟨b, 0, none⟩)] w fun e w' => e = .returned (.int .i64 (if 18 < sz ((bs s).drop p) + skip isDg (nx ((bs s).drop p)) then 8 else 5 : Nat)) ∧ Rdr w' b s (p + (sz ((bs s).drop p) + skip isDg (nx ((bs s).drop p)))) ∧ On b w w' := by
  obtain ⟨⟨c0, c1, c2, c3⟩, f0, f1, f2, f3⟩ := h.raw.facts
  have hs := h.big
  have HZ := hide (sz_pos (drop_ne hp))
  go_enter Tryd.func49, Tryd.ntmps49
  go_wp2_with fail
  refine wp_scope_many (JD b s p (cc ((bs s).drop p)) w isDg (sz ((bs s).drop p) + skip isDg (nx ((bs s).drop p))) 2) ?_ ?_
  · go_wp2_with fail
    go_quiet (fail)
    go_wp2_with (first | (go_at_call 32; refine (pass_any b s p _ (h.drewN _)).mono ?_; rintro e w1 ⟨rfl, r1, k1⟩) | (go_at_call 67; refine (isSpace_any _ _).mono ?_; rintro e w' ⟨rfl, rfl⟩) | (go_at_call 68; refine (isLetter_any _ _).mono ?_; rintro e w' ⟨rfl, rfl⟩) | (go_at_call 69; refine (isDigit_any _ _).mono ?_; rintro e w' ⟨rfl, rfl⟩))
    go_step3
    have := HZ.out
    exact ⟨s.size - (p + sz ((bs s).drop p)), p + sz ((bs s).drop p), _, _, _, _, _, _, _, _, _, _, _, _, _, _, _, _, _, _, _, _, _, _, _, _, _, _, rfl, r1, (On.drewN b w nq).to k1, by omega, by rw [nx_drop]; omega, rfl, rfl⟩
  · rintro l n a' w' ⟨q, u5, u6, u7, u8, u9, u10, u11, u12, u13, u14, u15, u16, u17, u18, u19, u20, u21, u22, u23, u97, u98, u99, u100, u101, u102, u103, rfl, hr, hk, hpq, hT, rfl, rfl⟩
    refine ⟨_, rfl, ?_⟩
    have hq := hr.le
    clear c0 c1 c2 c3 f0 f1 f2 f3
    obtain ⟨⟨c0, c1, c2, c3⟩, f0, f1, f2, f3⟩ := hr.raw.facts
    have HP2 := hide (pass_any b s q w' hr)
    have HH := hide (And.intro hr (And.intro hk hT))
    clear hr hk hT
    cases hx : isDg (cc ((bs s).drop q))
    · have HN := hide (skip_no (p := isDg) hx)
      have hT2 := (HH.out).2.2
      rw [HN.out] at hT2
      by_cases h18 : (18 : Int) < (q : Int) - (p : Int)
      · go_wp2_with (first | (go_at_call 32; refine (HP2.out).mono ?_; rintro e w1 ⟨rfl, r1, k1⟩) | (go_at_call 67; refine (isSpace_any _ _).mono ?_; rintro e w' ⟨rfl, rfl⟩) | (go_at_call 68; refine (isLetter_any _ _).mono ?_; rintro e w' ⟨rfl, rfl⟩) | (go_at_call 69; refine (isDigit_any _ _).mono ?_; rintro e w' ⟨rfl, rfl⟩))
        simp only [Jumps]
        go_ret
        obtain ⟨hr, hk, hT⟩ := HH.out
        refine ⟨reti (a := 8) (by rw [if_pos (by omega)]; rfl), ?_, hk⟩
        rw [hT2]; exact hr
      · go_wp2_with (first | (go_at_call 32; refine (HP2.out).mono ?_; rintro e w1 ⟨rfl, r1, k1⟩) | (go_at_call 67; refine (isSpace_any _ _).mono ?_; rintro e w' ⟨rfl, rfl⟩) | (go_at_call 68; refine (isLetter_any _ _).mono ?_; rintro e w' ⟨rfl, rfl⟩) | (go_at_call 69; refine (isDigit_any _ _).mono ?_; rintro e w' ⟨rfl, rfl⟩))
        simp only [Jumps]
        go_ret
        obtain ⟨hr, hk, hT⟩ := HH.out
        refine ⟨reti (a := 5) (by rw [if_neg (by omega)]; rfl), ?_, hk⟩
        rw [hT2]; exact hr
    · have HN := hide (skip_yes (p := isDg) (t := (bs s).drop q) (ne_dg hx) hx)
      have HZ2 := hide (sz_pos (l := (bs s).drop q) (ne_dg hx))
      go_wp2_with (first | (go_at_call 32; refine (HP2.out).mono ?_; rintro e w1 ⟨rfl, r1, k1⟩) | (go_at_call 67; refine (isSpace_any _ _).mono ?_; rintro e w' ⟨rfl, rfl⟩) | (go_at_call 68; refine (isLetter_any _ _).mono ?_; rintro e w' ⟨rfl, rfl⟩) | (go_at_call 69; refine (isDigit_any _ _).mono ?_; rintro e w' ⟨rfl, rfl⟩))
      go_step3
      obtain ⟨hr, hk, hT⟩ := HH.out
      rw [HN.out, nx_drop (bs s) q] at hT
      have := HZ2.out
      have hz := r1.le
      exact ⟨s.size - (q + sz ((bs s).drop q)), by omega, q + sz ((bs s).drop q), _, _, _, _, _, _, _, _, _, _, _, _, _, _, _, _, _, _, _, _, _, _, _, _, _, _, rfl, r1, hk.to k1, by omega, by omega, rfl, rfl⟩
end Go.Proofs.YtbhcniemkjoflaaDoor
