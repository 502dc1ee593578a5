/- What kind of token begins where a reader is: remarks up to the end of a line. -/
import Derived.Test.YtbhcniemkjoflaaDoorIa
namespace Go.Proofs.YtbhcniemkjoflaaDoor
open Go.RowKit
open M

theorem skip_nx {P : Int → Bool} {t : List UInt8} (h : t ≠ []) (hp : P (cc t) = true) (h1 : sz t = 1) : skip P t = 1 + skip P (nx t) := by rw [skip_yes h hp, h1]
/-- What holds at a label of kind: characters of one sort are passed. -/
def JL (b : Nat) (s : ByteArray) (p : Nat) (c0 : Int) (w : World) (P : Int → Bool) (T L : Nat) (l n : Nat) (a' : Act) (w' : World) : Prop :=
  ∃ (q : Nat) (u5 u6 u7 u8 u9 u10 u11 u12 u13 u14 u15 u16 u17 u18 u19 u20 u21 u22 u23 u24 u25 u26 u29 u30 u31 u32 u33 u34 u35 u36 u37 u38 u43 u44 u45 u46 u47 u48 u49 u50 u51 u52 u111 u112 u113 u114 u115 u116 u117 u118 u119 u120 u121 u122 u123 u124 : Value), a' = { tmps := #[.pointer (some ⟨b, 0, none⟩), undef, .int .i64 0, .int .i64 (p : Int), .int .i32 c0, u5, u6, u7, u8, u9, u10, u11, u12, u13, u14, u15, u16, u17, u18, u19, u20, u21, u22, u23, u24, u25, u26, undef, undef, u29, u30, u31, u32, u33, u34, u35, u36, u37, u38, undef, undef, undef, undef, u43, u44, u45, u46, u47, u48, u49, u50, u51, u52, undef, undef, undef, undef, undef, undef, undef, undef, undef, undef, undef, undef, undef, undef, undef, undef, undef, undef, undef, undef, undef, undef, undef, undef, undef, undef, undef, undef, undef, undef, undef, undef, undef, undef, undef, undef, undef, undef, undef, undef, undef, undef, undef, undef, undef, undef, undef, undef, undef, undef, undef, undef, undef, undef, undef, undef, undef, undef, u111, u112, u113, u114, u115, u116, u117, u118, u119, u120, u121, u122, u123, u124], defers := [] } ∧ Rdr w' b s q ∧ On b w w' ∧ p ≤ q ∧ p + T = q + skip P ((bs s).drop q) ∧ l = L ∧ n = s.size - q

set_option maxHeartbeats 4000000 in
theorem kind_line (b : Nat) (s : ByteArray) (p : Nat) (w : World) (h : Rdr w b s p) (hp : p < s.size) (hc : cc ((bs s).drop p) = 45) (hc1 : cc ((bs s).drop (p + 1)) = 45) :
    Calls Tryd.prog 49 #[.pointer (some ⟨b, 0, none⟩)] w fun e w' => e = .returned (.int .i64 2) ∧ Rdr w' b s (p + (1 + skip isLn ((bs s).drop (p + 1)))) ∧ On b w w' := by
  obtain ⟨⟨c0, c1, c2, c3⟩, f0, f1, f2, f3⟩ := h.raw.facts
  have hs := h.big
  have z1 : sz ((bs s).drop p) = 1 := sz_cc (by omega) (by omega)
  have eN : nx ((bs s).drop p) = (bs s).drop (p + 1) := by rw [nx_drop, z1]
  have HP := hide (fun w2 (h' : Rdr w2 b s p) => pass_any b s p w2 h')
  rw [z1] at HP
  have EN := hide eN
  have Z1 := hide z1
  have hsp : isSp (cc ((bs s).drop p)) = false := by rw [hc]; decide
  have hlt : isLt (cc ((bs s).drop p)) = false := by rw [hc]; decide
  have hdg : isDg (cc ((bs s).drop p)) = false := by rw [hc]; decide
  rw [hc] at hsp hlt hdg c2
  clear z1 eN
  go_enter Tryd.func49, Tryd.ntmps49
  go_wp2_with fail
  refine wp_scope_many (JL b s p 45 w isLn (1 + skip isLn ((bs s).drop (p + 1))) 3) ?_ ?_
  · go_wp2_with fail
    go_quiet (fail)
    go_wp2_with (first | (go_at_call 32; refine (HP.out _ (h.drewN _)).mono ?_; rintro e w1 ⟨rfl, r1, k1⟩; obtain ⟨⟨d0, d1, d2, d3⟩, -⟩ := r1.raw.facts; rw [hc1] at d2) | (go_at_call 67; refine (isSpace_any _ _).mono ?_; rintro e w' ⟨rfl, rfl⟩) | (go_at_call 68; refine (isLetter_any _ _).mono ?_; rintro e w' ⟨rfl, rfl⟩) | (go_at_call 69; refine (isDigit_any _ _).mono ?_; rintro e w' ⟨rfl, rfl⟩))
    go_step3
    exact ⟨s.size - (p + 1), p + 1, _, _, _, _, _, _, _, _, _, _, _, _, _, _, _, _, _, _, _, _, _, _, _, _, _, _, _, _, _, _, _, _, _, _, _, _, _, _, _, _, _, _, _, _, _, _, _, _, _, _, _, _, _, _, _, _, rfl, r1, (On.drewN b w nq).to k1, by omega, by omega, rfl, rfl⟩
  · rintro l n a' w' ⟨q, u5, u6, u7, u8, u9, u10, u11, u12, u13, u14, u15, u16, u17, u18, u19, u20, u21, u22, u23, u24, u25, u26, u29, u30, u31, u32, u33, u34, u35, u36, u37, u38, u43, u44, u45, u46, u47, u48, u49, u50, u51, u52, u111, u112, u113, u114, u115, u116, u117, u118, u119, u120, u121, u122, u123, u124, rfl, hr, hk, hpq, hT, rfl, rfl⟩
    refine ⟨_, rfl, ?_⟩
    have hq := hr.le
    clear c0 c1 c2 c3 f0 f1 f2 f3
    obtain ⟨⟨c0, c1, c2, c3⟩, f0, f1, f2, f3⟩ := hr.raw.facts
    have HP2 := hide (pass_any b s q w' hr)
    have HH := hide (And.intro hr (And.intro hk hT))
    clear hr hk hT
    by_cases g1 : cc ((bs s).drop q) = 10
    · have HN := hide (skip_no (p := isLn) (t := (bs s).drop q) (by rw [g1]; rfl))
      rw [g1] at c2
      go_wp2_with (first | (go_at_call 32; refine (HP2.out).mono ?_; rintro e w1 ⟨rfl, r1, k1⟩) | (go_at_call 67; refine (isSpace_any _ _).mono ?_; rintro e w' ⟨rfl, rfl⟩) | (go_at_call 68; refine (isLetter_any _ _).mono ?_; rintro e w' ⟨rfl, rfl⟩) | (go_at_call 69; refine (isDigit_any _ _).mono ?_; rintro e w' ⟨rfl, rfl⟩))
      simp only [Jumps]
      go_ret
      obtain ⟨hr, hk, hT⟩ := HH.out
      rw [HN.out] at hT
      refine ⟨rfl, ?_, hk⟩
      rw [hT]; exact hr
    by_cases g2 : cc ((bs s).drop q) = -1
    · have HN := hide (skip_nil isLn)
      have HE := hide (cc_ne.1 g2)
      rw [g2] at c2
      clear g1 g2
      go_wp2_with (first | (go_at_call 32; refine (HP2.out).mono ?_; rintro e w1 ⟨rfl, r1, k1⟩) | (go_at_call 67; refine (isSpace_any _ _).mono ?_; rintro e w' ⟨rfl, rfl⟩) | (go_at_call 68; refine (isLetter_any _ _).mono ?_; rintro e w' ⟨rfl, rfl⟩) | (go_at_call 69; refine (isDigit_any _ _).mono ?_; rintro e w' ⟨rfl, rfl⟩))
      simp only [Jumps]
      go_ret
      obtain ⟨hr, hk, hT⟩ := HH.out
      rw [HE.out, HN.out] at hT
      refine ⟨rfl, ?_, hk⟩
      rw [hT]; exact hr
    have hx : isLn (cc ((bs s).drop q)) = true := by simp [isLn, g1]
    have hne : (bs s).drop q ≠ [] := fun e => g2 (cc_ne.2 e)
    have b1 : (cc ((bs s).drop q) != 10) = true := by simpa using g1
    have b2 : (cc ((bs s).drop q) != -1) = true := by simpa using g2
    clear g1 g2
    have HN := hide (skip_yes (p := isLn) (t := (bs s).drop q) hne hx)
    have HZ2 := hide (sz_pos (l := (bs s).drop q) hne)
    go_wp2_with (first | (go_at_call 32; refine (HP2.out).mono ?_; rintro e w1 ⟨rfl, r1, k1⟩) | (go_at_call 67; refine (isSpace_any _ _).mono ?_; rintro e w' ⟨rfl, rfl⟩) | (go_at_call 68; refine (isLetter_any _ _).mono ?_; rintro e w' ⟨rfl, rfl⟩) | (go_at_call 69; refine (isDigit_any _ _).mono ?_; rintro e w' ⟨rfl, rfl⟩))
    go_step3
    obtain ⟨hr, hk, hT⟩ := HH.out
    rw [HN.out, nx_drop (bs s) q] at hT
    have := HZ2.out
    have hz := r1.le
    exact ⟨s.size - (q + sz ((bs s).drop q)), by omega, q + sz ((bs s).drop q), _, _, _, _, _, _, _, _, _, _, _, _, _, _, _, _, _, _, _, _, _, _, _, _, _, _, _, _, _, _, _, _, _, _, _, _, _, _, _, _, _, _, _, _, _, _, _, _, _, _, _, _, _, _, _, _, rfl, r1, hk.to k1, by omega, by omega, rfl, rfl⟩
end Go.Proofs.YtbhcniemkjoflaaDoor
