/- What kind of token begins where a reader is: spaces. -/
import Derived.Test.YtpoipoencbieeaaGreatDoorHa
namespace Go.Proofs.YtpoipoencbieeaaGreatDoor
open Go.RowKit
open M

theorem ne_sp {t : List UInt8} (h : isSp (cc t) = true) : t ≠ [] := by rintro rfl; rw [cc_nil] at h; revert h; decide
theorem ne_dg {t : List UInt8} (h : isDg (cc t) = true) : t ≠ [] := by rintro rfl; rw [cc_nil] at h; revert h; decide
theorem ne_lt {t : List UInt8} (h : isLt (cc t) = true) : t ≠ [] := by rintro rfl; rw [cc_nil] at h; revert h; decide
theorem ne_nm {t : List UInt8} (h : isNm (cc t) = true) : t ≠ [] := by rintro rfl; rw [cc_nil] at h; revert h; decide
/-- What holds at a label of kind: characters of one sort are passed. -/
def JS (b : Nat) (s : ByteArray) (p : Nat) (c0 : Int) (w : World) (P : Int → Bool) (T L : Nat) (l n : Nat) (a' : Act) (w' : World) : Prop :=
  ∃ (q : Nat) (u5 u6 u7 u8 u9 u10 u11 u12 u13 u14 u15 u16 u17 u65 u66 u67 u68 u69 u70 u71 : Value), a' = { tmps := #[.pointer (some ⟨b, 0, none⟩), undef, .int .i64 0, .int .i64 (p : Int), .int .i32 c0, u5, u6, u7, u8, u9, u10, u11, u12, u13, u14, u15, u16, u17, undef, undef, undef, undef, undef, undef, undef, undef, undef, undef, undef, undef, undef, undef, undef, undef, undef, undef, undef, undef, undef, undef, undef, undef, undef, undef, undef, undef, undef, undef, undef, undef, undef, undef, undef, undef, undef, undef, undef, undef, undef, undef, undef, undef, undef, undef, undef, u65, u66, u67, u68, u69, u70, u71, undef, undef, undef, undef, undef, undef, undef, undef, undef, undef, undef, undef, undef, undef, undef, undef, undef, undef, undef, undef, undef, undef, undef, undef, undef, undef, undef, undef, undef, undef, undef, undef, undef, undef, undef, undef, undef, undef, undef, undef, undef, undef, undef, undef, undef, undef, undef, undef, undef, undef, undef, undef, undef], defers := [] } ∧ Rdr w' b s q ∧ On b w w' ∧ p ≤ q ∧ p + T = q + skip P ((bs s).drop q) ∧ l = L ∧ n = s.size - q

set_option maxHeartbeats 4000000 in
theorem kind_space (b : Nat) (s : ByteArray) (p : Nat) (w : World) (h : Rdr w b s p) (hp : p < s.size) (hc : isSp (cc ((bs s).drop p)) = true) :
    Calls Tryz.prog 90 #[.pointer (some ⟨b, 0, none⟩)] w fun e w' => e = .returned (.int .i64 1) ∧ Rdr w' b s (p + (sz ((bs s).drop p) + skip isSp (nx ((bs s).drop p)))) ∧ On b w w' := by
  obtain ⟨⟨c0, c1, c2, c3⟩, f0, f1, f2, f3⟩ := h.raw.facts
  have hs := h.big
  have HZ := hide (sz_pos (drop_ne hp))
  go_enter Tryz.func90, Tryz.ntmps90
  go_wp2_with fail
  refine wp_scope_many (JS b s p (cc ((bs s).drop p)) w isSp (sz ((bs s).drop p) + skip isSp (nx ((bs s).drop p))) 0) ?_ ?_
  · go_wp2_with fail
    go_quiet (fail)
    go_wp2_with (first | (go_at_call 101; refine (pass_any b s p _ (h.drewN _)).mono ?_; rintro e w1 ⟨rfl, r1, k1⟩) | (go_at_call 102; refine (isSpace_any _ _).mono ?_; rintro e w' ⟨rfl, rfl⟩) | (go_at_call 103; refine (isLetter_any _ _).mono ?_; rintro e w' ⟨rfl, rfl⟩) | (go_at_call 104; refine (isDigit_any _ _).mono ?_; rintro e w' ⟨rfl, rfl⟩))
    go_step3
    have := HZ.out
    exact ⟨s.size - (p + sz ((bs s).drop p)), p + sz ((bs s).drop p), _, _, _, _, _, _, _, _, _, _, _, _, _, _, _, _, _, _, _, _, rfl, r1, (On.drewN b w nq).to k1, by omega, by rw [nx_drop]; omega, rfl, rfl⟩
  · rintro l n a' w' ⟨q, u5, u6, u7, u8, u9, u10, u11, u12, u13, u14, u15, u16, u17, u65, u66, u67, u68, u69, u70, u71, rfl, hr, hk, hpq, hT, rfl, rfl⟩
    refine ⟨_, rfl, ?_⟩
    have hq := hr.le
    clear c0 c1 c2 c3 f0 f1 f2 f3
    obtain ⟨⟨c0, c1, c2, c3⟩, f0, f1, f2, f3⟩ := hr.raw.facts
    have HP2 := hide (pass_any b s q w' hr)
    have HH := hide (And.intro hr (And.intro hk hT))
    clear hr hk hT
    cases hx : isSp (cc ((bs s).drop q))
    · have HN := hide (skip_no (p := isSp) hx)
      go_wp2_with (first | (go_at_call 101; refine (HP2.out).mono ?_; rintro e w1 ⟨rfl, r1, k1⟩) | (go_at_call 102; refine (isSpace_any _ _).mono ?_; rintro e w' ⟨rfl, rfl⟩) | (go_at_call 103; refine (isLetter_any _ _).mono ?_; rintro e w' ⟨rfl, rfl⟩) | (go_at_call 104; refine (isDigit_any _ _).mono ?_; rintro e w' ⟨rfl, rfl⟩))
      simp only [Jumps]
      go_ret
      obtain ⟨hr, hk, hT⟩ := HH.out
      rw [HN.out] at hT
      refine ⟨rfl, ?_, hk⟩
      rw [hT]; exact hr
    · have HN := hide (skip_yes (p := isSp) (t := (bs s).drop q) (ne_sp hx) hx)
      have HZ2 := hide (sz_pos (l := (bs s).drop q) (ne_sp hx))
      go_wp2_with (first | (go_at_call 101; refine (HP2.out).mono ?_; rintro e w1 ⟨rfl, r1, k1⟩) | (go_at_call 102; refine (isSpace_any _ _).mono ?_; rintro e w' ⟨rfl, rfl⟩) | (go_at_call 103; refine (isLetter_any _ _).mono ?_; rintro e w' ⟨rfl, rfl⟩) | (go_at_call 104; refine (isDigit_any _ _).mono ?_; rintro e w' ⟨rfl, rfl⟩))
      go_step3
      obtain ⟨hr, hk, hT⟩ := HH.out
      rw [HN.out, nx_drop (bs s) q] at hT
      have := HZ2.out
      have hz := r1.le
      exact ⟨s.size - (q + sz ((bs s).drop q)), by omega, q + sz ((bs s).drop q), _, _, _, _, _, _, _, _, _, _, _, _, _, _, _, _, _, _, _, _, rfl, r1, hk.to k1, by omega, by omega, rfl, rfl⟩
end Go.Proofs.YtpoipoencbieeaaGreatDoor
/- What kind of token begins where a reader is: numbers. -/
namespace Go.Proofs.YtpoipoencbieeaaGreatDoor
open Go.RowKit
open M
/-- What holds at a label of kind: characters of one sort are passed. -/
def JD (b : Nat) (s : ByteArray) (p : Nat) (c0 : Int) (w : World) (P : Int → Bool) (T L : Nat) (l n : Nat) (a' : Act) (w' : World) : Prop :=
  ∃ (q : Nat) (u5 u6 u7 u8 u9 u10 u11 u12 u13 u14 u15 u16 u17 u18 u19 u20 u21 u22 u23 u97 u98 u99 u100 u101 u102 u103 : Value), a' = { tmps := #[.pointer (some ⟨b, 0, none⟩), undef, .int .i64 0, .int .i64 (p : Int), .int .i32 c0, u5, u6, u7, u8, u9, u10, u11, u12, u13, u14, u15, u16, u17, u18, u19, u20, u21, u22, u23, undef, undef, undef, undef, undef, undef, undef, undef, undef, undef, undef, undef, undef, undef, undef, undef, undef, undef, undef, undef, undef, undef, undef, undef, undef, undef, undef, undef, undef, undef, undef, undef, undef, undef, undef, undef, undef, undef, undef, undef, undef, undef, undef, undef, undef, undef, undef, undef, undef, undef, undef, undef, undef, undef, undef, undef, undef, undef, undef, undef, undef, undef, undef, undef, undef, undef, undef, undef, undef, undef, undef, undef, undef, u97, u98, u99, u100, u101, u102, u103, undef, undef, undef, undef, undef, undef, undef, undef, undef, undef, undef, undef, undef, undef, undef, undef, undef, undef, undef, undef, undef], defers := [] } ∧ Rdr w' b s q ∧ On b w w' ∧ p ≤ q ∧ p + T = q + skip P ((bs s).drop q) ∧ l = L ∧ n = s.size - q

set_option maxHeartbeats 4000000 in
theorem kind_digit (b : Nat) (s : ByteArray) (p : Nat) (w : World) (h : Rdr w b s p) (hp : p < s.size) (h1 : isSp (cc ((bs s).drop p)) = false) (h2 : isLt (cc ((bs s).drop p)) = false) (hc : isDg (cc ((bs s).drop p)) = true) :
    Calls Tryz.prog 90 #[.pointer (some ⟨b, 0, none⟩)] w fun e w' => e = .returned (.int .i64 (if 18 < sz ((bs s).drop p) + skip isDg (nx ((bs s).drop p)) then 8 else 5 : Nat)) ∧ Rdr w' b s (p + (sz ((bs s).drop p) + skip isDg (nx ((bs s).drop p)))) ∧ On b w w' := by
  obtain ⟨⟨c0, c1, c2, c3⟩, f0, f1, f2, f3⟩ := h.raw.facts
  have hs := h.big
  have HZ := hide (sz_pos (drop_ne hp))
  go_enter Tryz.func90, Tryz.ntmps90
  go_wp2_with fail
  refine wp_scope_many (JD b s p (cc ((bs s).drop p)) w isDg (sz ((bs s).drop p) + skip isDg (nx ((bs s).drop p))) 2) ?_ ?_
  · go_wp2_with fail
    go_quiet (fail)
    go_wp2_with (first | (go_at_call 101; refine (pass_any b s p _ (h.drewN _)).mono ?_; rintro e w1 ⟨rfl, r1, k1⟩) | (go_at_call 102; refine (isSpace_any _ _).mono ?_; rintro e w' ⟨rfl, rfl⟩) | (go_at_call 103; refine (isLetter_any _ _).mono ?_; rintro e w' ⟨rfl, rfl⟩) | (go_at_call 104; refine (isDigit_any _ _).mono ?_; rintro e w' ⟨rfl, rfl⟩))
    go_step3
    have := HZ.out
    exact ⟨s.size - (p + sz ((bs s).drop p)), p + sz ((bs s).drop p), _, _, _, _, _, _, _, _, _, _, _, _, _, _, _, _, _, _, _, _, _, _, _, _, _, _, rfl, r1, (On.drewN b w nq).to k1, by omega, by rw [nx_drop]; omega, rfl, rfl⟩
  · rintro l n a' w' ⟨q, u5, u6, u7, u8, u9, u10, u11, u12, u13, u14, u15, u16, u17, u18, u19, u20, u21, u22, u23, u97, u98, u99, u100, u101, u102, u103, rfl, hr, hk, hpq, hT, rfl, rfl⟩
    refine ⟨_, rfl, ?_⟩
    have hq := hr.le
    clear c0 c1 c2 c3 f0 f1 f2 f3
    obtain ⟨⟨c0, c1, c2, c3⟩, f0, f1, f2, f3⟩ := hr.raw.facts
    have HP2 := hide (pass_any b s q w' hr)
    have HH := hide (And.intro hr (And.intro hk hT))
    clear hr hk hT
    cases hx : isDg (cc ((bs s).drop q))
    · have HN := hide (skip_no (p := isDg) hx)
      have hT2 := (HH.out).2.2
      rw [HN.out] at hT2
      by_cases h18 : (18 : Int) < (q : Int) - (p : Int)
      · go_wp2_with (first | (go_at_call 101; refine (HP2.out).mono ?_; rintro e w1 ⟨rfl, r1, k1⟩) | (go_at_call 102; refine (isSpace_any _ _).mono ?_; rintro e w' ⟨rfl, rfl⟩) | (go_at_call 103; refine (isLetter_any _ _).mono ?_; rintro e w' ⟨rfl, rfl⟩) | (go_at_call 104; refine (isDigit_any _ _).mono ?_; rintro e w' ⟨rfl, rfl⟩))
        simp only [Jumps]
        go_ret
        obtain ⟨hr, hk, hT⟩ := HH.out
        refine ⟨reti (a := 8) (by rw [if_pos (by omega)]; rfl), ?_, hk⟩
        rw [hT2]; exact hr
      · go_wp2_with (first | (go_at_call 101; refine (HP2.out).mono ?_; rintro e w1 ⟨rfl, r1, k1⟩) | (go_at_call 102; refine (isSpace_any _ _).mono ?_; rintro e w' ⟨rfl, rfl⟩) | (go_at_call 103; refine (isLetter_any _ _).mono ?_; rintro e w' ⟨rfl, rfl⟩) | (go_at_call 104; refine (isDigit_any _ _).mono ?_; rintro e w' ⟨rfl, rfl⟩))
        simp only [Jumps]
        go_ret
        obtain ⟨hr, hk, hT⟩ := HH.out
        refine ⟨reti (a := 5) (by rw [if_neg (by omega)]; rfl), ?_, hk⟩
        rw [hT2]; exact hr
    · have HN := hide (skip_yes (p := isDg) (t := (bs s).drop q) (ne_dg hx) hx)
      have HZ2 := hide (sz_pos (l := (bs s).drop q) (ne_dg hx))
      go_wp2_with (first | (go_at_call 101; refine (HP2.out).mono ?_; rintro e w1 ⟨rfl, r1, k1⟩) | (go_at_call 102; refine (isSpace_any _ _).mono ?_; rintro e w' ⟨rfl, rfl⟩) | (go_at_call 103; refine (isLetter_any _ _).mono ?_; rintro e w' ⟨rfl, rfl⟩) | (go_at_call 104; refine (isDigit_any _ _).mono ?_; rintro e w' ⟨rfl, rfl⟩))
      go_step3
      obtain ⟨hr, hk, hT⟩ := HH.out
      rw [HN.out, nx_drop (bs s) q] at hT
      have := HZ2.out
      have hz := r1.le
      exact ⟨s.size - (q + sz ((bs s).drop q)), by omega, q + sz ((bs s).drop q), _, _, _, _, _, _, _, _, _, _, _, _, _, _, _, _, _, _, _, _, _, _, _, _, _, _, rfl, r1, hk.to k1, by omega, by omega, rfl, rfl⟩
end Go.Proofs.YtpoipoencbieeaaGreatDoor
/- What kind of token begins where a reader is: remarks up to the end of a line. -/
namespace Go.Proofs.YtpoipoencbieeaaGreatDoor
open Go.RowKit
open M

theorem skip_nx {P : Int → Bool} {t : List UInt8} (h : t ≠ []) (hp : P (cc t) = true) (h1 : sz t = 1) : skip P t = 1 + skip P (nx t) := by rw [skip_yes h hp, h1]
/-- What holds at a label of kind: characters of one sort are passed. -/
def JL (b : Nat) (s : ByteArray) (p : Nat) (c0 : Int) (w : World) (P : Int → Bool) (T L : Nat) (l n : Nat) (a' : Act) (w' : World) : Prop :=
  ∃ (q : Nat) (u5 u6 u7 u8 u9 u10 u11 u12 u13 u14 u15 u16 u17 u18 u19 u20 u21 u22 u23 u24 u25 u26 u29 u30 u31 u32 u33 u34 u35 u36 u37 u38 u43 u44 u45 u46 u47 u48 u49 u50 u51 u52 u111 u112 u113 u114 u115 u116 u117 u118 u119 u120 u121 u122 u123 u124 : Value), a' = { tmps := #[.pointer (some ⟨b, 0, none⟩), undef, .int .i64 0, .int .i64 (p : Int), .int .i32 c0, u5, u6, u7, u8, u9, u10, u11, u12, u13, u14, u15, u16, u17, u18, u19, u20, u21, u22, u23, u24, u25, u26, undef, undef, u29, u30, u31, u32, u33, u34, u35, u36, u37, u38, undef, undef, undef, undef, u43, u44, u45, u46, u47, u48, u49, u50, u51, u52, undef, undef, undef, undef, undef, undef, undef, undef, undef, undef, undef, undef, undef, undef, undef, undef, undef, undef, undef, undef, undef, undef, undef, undef, undef, undef, undef, undef, undef, undef, undef, undef, undef, undef, undef, undef, undef, undef, undef, undef, undef, undef, undef, undef, undef, undef, undef, undef, undef, undef, undef, undef, undef, undef, undef, undef, undef, undef, u111, u112, u113, u114, u115, u116, u117, u118, u119, u120, u121, u122, u123, u124], defers := [] } ∧ Rdr w' b s q ∧ On b w w' ∧ p ≤ q ∧ p + T = q + skip P ((bs s).drop q) ∧ l = L ∧ n = s.size - q

set_option maxHeartbeats 4000000 in
theorem kind_line (b : Nat) (s : ByteArray) (p : Nat) (w : World) (h : Rdr w b s p) (hp : p < s.size) (hc : cc ((bs s).drop p) = 45) (hc1 : cc ((bs s).drop (p + 1)) = 45) :
    Calls Tryz.prog 90 #[.pointer (some ⟨b, 0, none⟩)] w fun e w' => e = .returned (.int .i64 2) ∧ Rdr w' b s (p + (1 + skip isLn ((bs s).drop (p + 1)))) ∧ On b w w' := by
  obtain ⟨⟨c0, c1, c2, c3⟩, f0, f1, f2, f3⟩ := h.raw.facts
  have hs := h.big
  have z1 : sz ((bs s).drop p) = 1 := sz_cc (by omega) (by omega)
  have eN : nx ((bs s).drop p) = (bs s).drop (p + 1) := by rw [nx_drop, z1]
  have HP := hide (fun w2 (h' : Rdr w2 b s p) => pass_any b s p w2 h')
  rw [z1] at HP
  have EN := hide eN
  have Z1 := hide z1
  have hsp : isSp (cc ((bs s).drop p)) = false := by rw [hc]; decide
  have hlt : isLt (cc ((bs s).drop p)) = false := by rw [hc]; decide
  have hdg : isDg (cc ((bs s).drop p)) = false := by rw [hc]; decide
  rw [hc] at hsp hlt hdg c2
  clear z1 eN
  go_enter Tryz.func90, Tryz.ntmps90
  go_wp2_with fail
  refine wp_scope_many (JL b s p 45 w isLn (1 + skip isLn ((bs s).drop (p + 1))) 3) ?_ ?_
  · go_wp2_with fail
    go_quiet (fail)
    go_wp2_with (first | (go_at_call 101; refine (HP.out _ (h.drewN _)).mono ?_; rintro e w1 ⟨rfl, r1, k1⟩; obtain ⟨⟨d0, d1, d2, d3⟩, -⟩ := r1.raw.facts; rw [hc1] at d2) | (go_at_call 102; refine (isSpace_any _ _).mono ?_; rintro e w' ⟨rfl, rfl⟩) | (go_at_call 103; refine (isLetter_any _ _).mono ?_; rintro e w' ⟨rfl, rfl⟩) | (go_at_call 104; refine (isDigit_any _ _).mono ?_; rintro e w' ⟨rfl, rfl⟩))
    go_step3
    exact ⟨s.size - (p + 1), p + 1, _, _, _, _, _, _, _, _, _, _, _, _, _, _, _, _, _, _, _, _, _, _, _, _, _, _, _, _, _, _, _, _, _, _, _, _, _, _, _, _, _, _, _, _, _, _, _, _, _, _, _, _, _, _, _, _, rfl, r1, (On.drewN b w nq).to k1, by omega, by omega, rfl, rfl⟩
  · rintro l n a' w' ⟨q, u5, u6, u7, u8, u9, u10, u11, u12, u13, u14, u15, u16, u17, u18, u19, u20, u21, u22, u23, u24, u25, u26, u29, u30, u31, u32, u33, u34, u35, u36, u37, u38, u43, u44, u45, u46, u47, u48, u49, u50, u51, u52, u111, u112, u113, u114, u115, u116, u117, u118, u119, u120, u121, u122, u123, u124, rfl, hr, hk, hpq, hT, rfl, rfl⟩
    refine ⟨_, rfl, ?_⟩
    have hq := hr.le
    clear c0 c1 c2 c3 f0 f1 f2 f3
    obtain ⟨⟨c0, c1, c2, c3⟩, f0, f1, f2, f3⟩ := hr.raw.facts
    have HP2 := hide (pass_any b s q w' hr)
    have HH := hide (And.intro hr (And.intro hk hT))
    clear hr hk hT
    by_cases g1 : cc ((bs s).drop q) = 10
    · have HN := hide (skip_no (p := isLn) (t := (bs s).drop q) (by rw [g1]; rfl))
      rw [g1] at c2
      go_wp2_with (first | (go_at_call 101; refine (HP2.out).mono ?_; rintro e w1 ⟨rfl, r1, k1⟩) | (go_at_call 102; refine (isSpace_any _ _).mono ?_; rintro e w' ⟨rfl, rfl⟩) | (go_at_call 103; refine (isLetter_any _ _).mono ?_; rintro e w' ⟨rfl, rfl⟩) | (go_at_call 104; refine (isDigit_any _ _).mono ?_; rintro e w' ⟨rfl, rfl⟩))
      simp only [Jumps]
      go_ret
      obtain ⟨hr, hk, hT⟩ := HH.out
      rw [HN.out] at hT
      refine ⟨rfl, ?_, hk⟩
      rw [hT]; exact hr
    by_cases g2 : cc ((bs s).drop q) = -1
    · have HN := hide (skip_nil isLn)
      have HE := hide (cc_ne.1 g2)
      rw [g2] at c2
      clear g1 g2
      go_wp2_with (first | (go_at_call 101; refine (HP2.out).mono ?_; rintro e w1 ⟨rfl, r1, k1⟩) | (go_at_call 102; refine (isSpace_any _ _).mono ?_; rintro e w' ⟨rfl, rfl⟩) | (go_at_call 103; refine (isLetter_any _ _).mono ?_; rintro e w' ⟨rfl, rfl⟩) | (go_at_call 104; refine (isDigit_any _ _).mono ?_; rintro e w' ⟨rfl, rfl⟩))
      simp only [Jumps]
      go_ret
      obtain ⟨hr, hk, hT⟩ := HH.out
      rw [HE.out, HN.out] at hT
      refine ⟨rfl, ?_, hk⟩
      rw [hT]; exact hr
    have hx : isLn (cc ((bs s).drop q)) = true := by simp [isLn, g1]
    have hne : (bs s).drop q ≠ [] := fun e => g2 (cc_ne.2 e)
    have b1 : (cc ((bs s).drop q) != 10) = true := by simpa using g1
    have b2 : (cc ((bs s).drop q) != -1) = true := by simpa using g2
    clear g1 g2
    have HN := hide (skip_yes (p := isLn) (t := (bs s).drop q) hne hx)
    have HZ2 := hide (sz_pos (l := (bs s).drop q) hne)
    go_wp2_with (first | (go_at_call 101; refine (HP2.out).mono ?_; rintro e w1 ⟨rfl, r1, k1⟩) | (go_at_call 102; refine (isSpace_any _ _).mono ?_; rintro e w' ⟨rfl, rfl⟩) | (go_at_call 103; refine (isLetter_any _ _).mono ?_; rintro e w' ⟨rfl, rfl⟩) | (go_at_call 104; refine (isDigit_any _ _).mono ?_; rintro e w' ⟨rfl, rfl⟩))
    go_step3
    obtain ⟨hr, hk, hT⟩ := HH.out
    rw [HN.out, nx_drop (bs s) q] at hT
    have := HZ2.out
    have hz := r1.le
    exact ⟨s.size - (q + sz ((bs s).drop q)), by omega, q + sz ((bs s).drop q), _, _, _, _, _, _, _, _, _, _, _, _, _, _, _, _, _, _, _, _, _, _, _, _, _, _, _, _, _, _, _, _, _, _, _, _, _, _, _, _, _, _, _, _, _, _, _, _, _, _, _, _, _, _, _, _, rfl, r1, hk.to k1, by omega, by omega, rfl, rfl⟩
end Go.Proofs.YtpoipoencbieeaaGreatDoor
/- What kind of token begins where a reader is: names and words. -/
namespace Go.Proofs.YtpoipoencbieeaaGreatDoor
open Go.RowKit
open M
/-- What holds at a label of kind: characters of one sort are passed. -/
def JM (b : Nat) (s : ByteArray) (p : Nat) (c0 : Int) (w : World) (P : Int → Bool) (T L : Nat) (l n : Nat) (a' : Act) (w' : World) : Prop :=
  ∃ (q : Nat) (u5 u6 u7 u8 u9 u10 u11 u12 u13 u14 u15 u16 u17 u18 u19 u20 u72 u73 u74 u75 u76 u77 u78 u79 u80 u81 u82 u83 u84 u85 : Value), a' = { tmps := #[.pointer (some ⟨b, 0, none⟩), undef, .int .i64 0, .int .i64 (p : Int), .int .i32 c0, u5, u6, u7, u8, u9, u10, u11, u12, u13, u14, u15, u16, u17, u18, u19, u20, undef, undef, undef, undef, undef, undef, undef, undef, undef, undef, undef, undef, undef, undef, undef, undef, undef, undef, undef, undef, undef, undef, undef, undef, undef, undef, undef, undef, undef, undef, undef, undef, undef, undef, undef, undef, undef, undef, undef, undef, undef, undef, undef, undef, undef, undef, undef, undef, undef, undef, undef, u72, u73, u74, u75, u76, u77, u78, u79, u80, u81, u82, u83, u84, u85, undef, undef, undef, undef, undef, undef, undef, undef, undef, undef, undef, undef, undef, undef, undef, undef, undef, undef, undef, undef, undef, undef, undef, undef, undef, undef, undef, undef, undef, undef, undef, undef, undef, undef, undef, undef, undef, undef, undef], defers := [] } ∧ Rdr w' b s q ∧ On b w w' ∧ p ≤ q ∧ p + T = q + skip P ((bs s).drop q) ∧ l = L ∧ n = s.size - q

set_option maxHeartbeats 4000000 in
theorem kind_name (b : Nat) (s : ByteArray) (p : Nat) (w : World) (h : Rdr w b s p) (hp : p < s.size) (h1 : isSp (cc ((bs s).drop p)) = false) (hc : isLt (cc ((bs s).drop p)) = true) :
    Calls Tryz.prog 90 #[.pointer (some ⟨b, 0, none⟩)] w fun e w' => e = .returned (.int .i64 (if wordB (((bs s).drop p).take (sz ((bs s).drop p) + skip isNm (nx ((bs s).drop p)))) then 4 else 3 : Nat)) ∧ Rdr w' b s (p + (sz ((bs s).drop p) + skip isNm (nx ((bs s).drop p)))) ∧ On b w w' := by
  obtain ⟨⟨c0, c1, c2, c3⟩, f0, f1, f2, f3⟩ := h.raw.facts
  have hs := h.big
  have HZ := hide (sz_pos (drop_ne hp))
  go_enter Tryz.func90, Tryz.ntmps90
  go_wp2_with fail
  refine wp_scope_many (JM b s p (cc ((bs s).drop p)) w isNm (sz ((bs s).drop p) + skip isNm (nx ((bs s).drop p))) 1) ?_ ?_
  · go_wp2_with fail
    go_quiet (fail)
    go_wp2_with (first | (go_at_call 101; refine (pass_any b s p _ (h.drewN _)).mono ?_; rintro e w1 ⟨rfl, r1, k1⟩) | (go_at_call 102; refine (isSpace_any _ _).mono ?_; rintro e w' ⟨rfl, rfl⟩) | (go_at_call 103; refine (isLetter_any _ _).mono ?_; rintro e w' ⟨rfl, rfl⟩) | (go_at_call 104; refine (isDigit_any _ _).mono ?_; rintro e w' ⟨rfl, rfl⟩))
    go_step3
    have := HZ.out
    exact ⟨s.size - (p + sz ((bs s).drop p)), p + sz ((bs s).drop p), _, _, _, _, _, _, _, _, _, _, _, _, _, _, _, _, _, _, _, _, _, _, _, _, _, _, _, _, _, _, rfl, r1, (On.drewN b w nq).to k1, by omega, by rw [nx_drop]; omega, rfl, rfl⟩
  · rintro l n a' w' ⟨q, u5, u6, u7, u8, u9, u10, u11, u12, u13, u14, u15, u16, u17, u18, u19, u20, u72, u73, u74, u75, u76, u77, u78, u79, u80, u81, u82, u83, u84, u85, rfl, hr, hk, hpq, hT, rfl, rfl⟩
    refine ⟨_, rfl, ?_⟩
    have hq := hr.le
    clear c0 c1 c2 c3 f0 f1 f2 f3
    obtain ⟨⟨c0, c1, c2, c3⟩, f0, f1, f2, f3⟩ := hr.raw.facts
    have HP2 := hide (pass_any b s q w' hr)
    have HH := hide (And.intro hr (And.intro hk hT))
    clear hr hk hT
    have hnm : isNm (cc ((bs s).drop q)) = (isLt (cc ((bs s).drop q)) || isDg (cc ((bs s).drop q))) := rfl
    cases hl : isLt (cc ((bs s).drop q))
    · cases hd : isDg (cc ((bs s).drop q))
      · have hx : isNm (cc ((bs s).drop q)) = false := by rw [hnm, hl, hd]; rfl
        have HN := hide (skip_no (p := isNm) hx)
        have hT2 := (HH.out).2.2
        rw [HN.out] at hT2
        have hw : wordB (((bs s).drop p).take (sz ((bs s).drop p) + skip isNm (nx ((bs s).drop p)))) = wordB (bs (s.extract p q)) := by
          rw [bs_cut, List.drop_take, show q - p = sz ((bs s).drop p) + skip isNm (nx ((bs s).drop p)) by omega]
        have HW := hide hw
        clear hw hnm hx
        have HT2 := hide hT2
        clear hT2
        cases hwd : wordB (bs (s.extract p q))
        · have HV := hide hwd
          go_wp2_with (first | (go_at_call 101; refine (HP2.out).mono ?_; rintro e w1 ⟨rfl, r1, k1⟩) | (go_at_call 102; refine (isSpace_any _ _).mono ?_; rintro e w' ⟨rfl, rfl⟩) | (go_at_call 103; refine (isLetter_any _ _).mono ?_; rintro e w' ⟨rfl, rfl⟩) | (go_at_call 104; refine (isDigit_any _ _).mono ?_; rintro e w' ⟨rfl, rfl⟩))
          go_quiet ((go_at_call 109; exact Calls.quiet_of_same (word_any _ _)))
          simp only [hwd]
          go_wp2_with fail
          simp only [Jumps]
          go_ret
          obtain ⟨hr, hk, hT⟩ := HH.out
          refine ⟨reti (a := 3) (by rw [HW.out, HV.out]; rfl), ?_, hk.to (On.drewN b _ nq)⟩
          rw [HT2.out]; exact hr.drewN _
        · have HV := hide hwd
          go_wp2_with (first | (go_at_call 101; refine (HP2.out).mono ?_; rintro e w1 ⟨rfl, r1, k1⟩) | (go_at_call 102; refine (isSpace_any _ _).mono ?_; rintro e w' ⟨rfl, rfl⟩) | (go_at_call 103; refine (isLetter_any _ _).mono ?_; rintro e w' ⟨rfl, rfl⟩) | (go_at_call 104; refine (isDigit_any _ _).mono ?_; rintro e w' ⟨rfl, rfl⟩))
          go_quiet ((go_at_call 109; exact Calls.quiet_of_same (word_any _ _)))
          simp only [hwd]
          go_wp2_with fail
          simp only [Jumps]
          go_ret
          obtain ⟨hr, hk, hT⟩ := HH.out
          refine ⟨reti (a := 4) (by rw [HW.out, HV.out]; rfl), ?_, hk.to (On.drewN b _ nq)⟩
          rw [HT2.out]; exact hr.drewN _
      · have hx : isNm (cc ((bs s).drop q)) = true := by rw [hnm, hl, hd]; rfl
        clear hnm
        have HN := hide (skip_yes (p := isNm) (t := (bs s).drop q) (ne_nm hx) hx)
        have HZ2 := hide (sz_pos (l := (bs s).drop q) (ne_nm hx))
        go_wp2_with (first | (go_at_call 101; refine (HP2.out).mono ?_; rintro e w1 ⟨rfl, r1, k1⟩) | (go_at_call 102; refine (isSpace_any _ _).mono ?_; rintro e w' ⟨rfl, rfl⟩) | (go_at_call 103; refine (isLetter_any _ _).mono ?_; rintro e w' ⟨rfl, rfl⟩) | (go_at_call 104; refine (isDigit_any _ _).mono ?_; rintro e w' ⟨rfl, rfl⟩))
        go_step3
        obtain ⟨hr, hk, hT⟩ := HH.out
        rw [HN.out, nx_drop (bs s) q] at hT
        have := HZ2.out
        have hz := r1.le
        exact ⟨s.size - (q + sz ((bs s).drop q)), by omega, q + sz ((bs s).drop q), _, _, _, _, _, _, _, _, _, _, _, _, _, _, _, _, _, _, _, _, _, _, _, _, _, _, _, _, _, _, rfl, r1, hk.to k1, by omega, by omega, rfl, rfl⟩
    · have hx : isNm (cc ((bs s).drop q)) = true := by rw [hnm, hl]; rfl
      clear hnm
      have HN := hide (skip_yes (p := isNm) (t := (bs s).drop q) (ne_nm hx) hx)
      have HZ2 := hide (sz_pos (l := (bs s).drop q) (ne_nm hx))
      go_wp2_with (first | (go_at_call 101; refine (HP2.out).mono ?_; rintro e w1 ⟨rfl, r1, k1⟩) | (go_at_call 102; refine (isSpace_any _ _).mono ?_; rintro e w' ⟨rfl, rfl⟩) | (go_at_call 103; refine (isLetter_any _ _).mono ?_; rintro e w' ⟨rfl, rfl⟩) | (go_at_call 104; refine (isDigit_any _ _).mono ?_; rintro e w' ⟨rfl, rfl⟩))
      go_step3
      obtain ⟨hr, hk, hT⟩ := HH.out
      rw [HN.out, nx_drop (bs s) q] at hT
      have := HZ2.out
      have hz := r1.le
      exact ⟨s.size - (q + sz ((bs s).drop q)), by omega, q + sz ((bs s).drop q), _, _, _, _, _, _, _, _, _, _, _, _, _, _, _, _, _, _, _, _, _, _, _, _, _, _, _, _, _, _, rfl, r1, hk.to k1, by omega, by omega, rfl, rfl⟩
end Go.Proofs.YtpoipoencbieeaaGreatDoor
