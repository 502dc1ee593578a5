/- What kind of token begins where a reader is: names and words. -/
import Derived.Test.YtbhcniemkjoflaaDoorIa
namespace Go.Proofs.YtbhcniemkjoflaaDoor
open Go.RowKit
open M
/-- What holds at a label of kind: characters of one sort are passed. -/
def JM (b : Nat) (s : ByteArray) (p : Nat) (c0 : Int) (w : World) (P : Int → Bool) (T L : Nat) (l n : Nat) (a' : Act) (w' : World) : Prop :=
  ∃ (q : Nat) (u5 u6 u7 u8 u9 u10 u11 u12 u13 u14 u15 u16 u17 u18 u19 u20 u72 u73 u74 u75 u76 u77 u78 u79 u80 u81 u82 u83 u84 u85 : Value), a' = { tmps := #[.pointer (some ⟨b, 0, none⟩), undef, .int .i64 0, .int .i64 (p : Int), .int .i32 c0, u5, u6, u7, u8, u9, u10, u11, u12, u13, u14, u15, u16, u17, u18, u19, u20, undef, undef, undef, undef, undef, undef, undef, undef, undef, undef, undef, undef, undef, undef, undef, undef, undef, undef, undef, undef, undef, undef, undef, undef, undef, undef, undef, undef, undef, undef, undef, undef, undef, undef, undef, undef, undef, undef, undef, undef, undef, undef, undef, undef, undef, undef, undef, undef, undef, undef, undef, u72, u73, u74, u75, u76, u77, u78, u79, u80, u81, u82, u83, u84, u85, undef, undef, undef, undef, undef, undef, undef, undef, undef, undef, undef, undef, undef, undef, undef, undef, undef, undef, undef, undef, undef, undef, undef, undef, undef, undef, undef, undef, undef, undef, undef, undef, undef, undef, undef, undef, undef, undef, undef], defers := [] } ∧ Rdr w' b s q ∧ On b w w' ∧ p ≤ q ∧ p + T = q + skip P ((bs s).drop q) ∧ l = L ∧ n = s.size - q

set_option maxHeartbeats 4000000 in
theorem kind_name (b : Nat) (s : ByteArray) (p : Nat) (w : World) (h : Rdr w b s p) (hp : p < s.size) (h1 : isSp (cc ((bs s).drop p)) = false) (hc : isLt (cc ((bs s).drop p)) = true) :
    Calls Tryd.prog 49 #[.pointer (some ⟨b, 0, none⟩)] w fun e w' => e = .returned (.int .i64 (if wordB (((bs s).drop p).take (sz ((bs s).drop p) + skip isNm (nx ((bs s).drop p)))) then 4 else 3 : Nat)) ∧ Rdr w' b s (p + (sz ((bs s).drop p) + skip isNm (nx ((bs s).drop p)))) ∧ On b w w' := by
  obtain ⟨⟨c0, c1, c2, c3⟩, f0, f1, f2, f3⟩ := h.raw.facts
  have hs := h.big
  have HZ := hide (sz_pos (drop_ne hp))
  go_enter Tryd.func49, Tryd.ntmps49
  go_wp2_with fail
  refine wp_scope_many (JM b s p (cc ((bs s).drop p)) w isNm (sz ((bs s).drop p) + skip isNm (nx ((bs s).drop p))) 1) ?_ ?_
  · go_wp2_with fail
    go_quiet (fail)
    go_wp2_with (first | (go_at_call 32; refine (pass_any b s p _ (h.drewN _)).mono ?_; rintro e w1 ⟨rfl, r1, k1⟩) | (go_at_call 67; refine (isSpace_any _ _).mono ?_; rintro e w' ⟨rfl, rfl⟩) | (go_at_call 68; refine (isLetter_any _ _).mono ?_; rintro e w' ⟨rfl, rfl⟩) | (go_at_call 69; refine (isDigit_any _ _).mono ?_; rintro e w' ⟨rfl, rfl⟩))
    go_step3
    have := HZ.out
    exact ⟨s.size - (p + sz ((bs s).drop p)), p + sz ((bs s).drop p), _, _, _, _, _, _, _, _, _, _, _, _, _, _, _, _, _, _, _, _, _, _, _, _, _, _, _, _, _, _, rfl, r1, (On.drewN b w nq).to k1, by omega, by rw [nx_drop]; omega, rfl, rfl⟩
  · rintro l n a' w' ⟨q, u5, u6, u7, u8, u9, u10, u11, u12, u13, u14, u15, u16, u17, u18, u19, u20, u72, u73, u74, u75, u76, u77, u78, u79, u80, u81, u82, u83, u84, u85, rfl, hr, hk, hpq, hT, rfl, rfl⟩
    refine ⟨_, rfl, ?_⟩
    have hq := hr.le
    clear c0 c1 c2 c3 f0 f1 f2 f3
    obtain ⟨⟨c0, c1, c2, c3⟩, f0, f1, f2, f3⟩ := hr.raw.facts
    have HP2 := hide (pass_any b s q w' hr)
    have HH := hide (And.intro hr (And.intro hk hT))
    clear hr hk hT
    have hnm : isNm (cc ((bs s).drop q)) = (isLt (cc ((bs s).drop q)) || isDg (cc ((bs s).drop q))) := rfl
    cases hl : isLt (cc ((bs s).drop q))
    · cases hd : isDg (cc ((bs s).drop q))
      · have hx : isNm (cc ((bs s).drop q)) = false := by rw [hnm, hl, hd]; rfl
        have HN := hide (skip_no (p := isNm) hx)
        have hT2 := (HH.out).2.2
        rw [HN.out] at hT2
        have hw : wordB (((bs s).drop p).take (sz ((bs s).drop p) + skip isNm (nx ((bs s).drop p)))) = wordB (bs (s.extract p q)) := by
          rw [bs_cut, List.drop_take, show q - p = sz ((bs s).drop p) + skip isNm (nx ((bs s).drop p)) by omega]
        have HW := hide hw
        clear hw hnm hx
        have HT2 := hide hT2
        clear hT2
        cases hwd : wordB (bs (s.extract p q))
        · have HV := hide hwd
          go_wp2_with (first | (go_at_call 32; refine (HP2.out).mono ?_; rintro e w1 ⟨rfl, r1, k1⟩) | (go_at_call 67; refine (isSpace_any _ _).mono ?_; rintro e w' ⟨rfl, rfl⟩) | (go_at_call 68; refine (isLetter_any _ _).mono ?_; rintro e w' ⟨rfl, rfl⟩) | (go_at_call 69; refine (isDigit_any _ _).mono ?_; rintro e w' ⟨rfl, rfl⟩))
          go_quiet ((go_at_call 28; exact Calls.quiet_of_same (word_any _ _)))
          simp only [hwd]
          go_wp2_with fail
          simp only [Jumps]
          go_ret
          obtain ⟨hr, hk, hT⟩ := HH.out
          refine ⟨reti (a := 3) (by rw [HW.out, HV.out]; rfl), ?_, hk.to (On.drewN b _ nq)⟩
          rw [HT2.out]; exact hr.drewN _
        · have HV := hide hwd
          go_wp2_with (first | (go_at_call 32; refine (HP2.out).mono ?_; rintro e w1 ⟨rfl, r1, k1⟩) | (go_at_call 67; refine (isSpace_any _ _).mono ?_; rintro e w' ⟨rfl, rfl⟩) | (go_at_call 68; refine (isLetter_any _ _).mono ?_; rintro e w' ⟨rfl, rfl⟩) | (go_at_call 69; refine (isDigit_any _ _).mono ?_; rintro e w' ⟨rfl, rfl⟩))
          go_quiet ((go_at_call 28; exact Calls.quiet_of_same (word_any _ _)))
          simp only [hwd]
          go_wp2_with fail
          simp only [Jumps]
          go_ret
          obtain ⟨hr, hk, hT⟩ := HH.out
          refine ⟨reti (a := 4) (by rw [HW.out, HV.out]; rfl), ?_, hk.to (On.drewN b _ nq)⟩
          rw [HT2.out]; exact hr.drewN _
      · have hx : isNm (cc ((bs s).drop q)) = true := by rw [hnm, hl, hd]; rfl
        clear hnm
        have HN := hide (skip_yes (p := isNm) (t := (bs s).drop q) (ne_nm hx) hx)
        have HZ2 := hide (sz_pos (l := (bs s).drop q) (ne_nm hx))
        go_wp2_with (first | (go_at_call 32; refine (HP2.out).mono ?_; rintro e w1 ⟨rfl, r1, k1⟩) | (go_at_call 67; refine (isSpace_any _ _).mono ?_; rintro e w' ⟨rfl, rfl⟩) | (go_at_call 68; refine (isLetter_any _ _).mono ?_; rintro e w' ⟨rfl, rfl⟩) | (go_at_call 69; refine (isDigit_any _ _).mono ?_; rintro e w' ⟨rfl, rfl⟩))
        go_step3
        obtain ⟨hr, hk, hT⟩ := HH.out
        rw [HN.out, nx_drop (bs s) q] at hT
        have := HZ2.out
        have hz := r1.le
        exact ⟨s.size - (q + sz ((bs s).drop q)), by omega, q + sz ((bs s).drop q), _, _, _, _, _, _, _, _, _, _, _, _, _, _, _, _, _, _, _, _, _, _, _, _, _, _, _, _, _, _, rfl, r1, hk.to k1, by omega, by omega, rfl, rfl⟩
    · have hx : isNm (cc ((bs s).drop q)) = true := by rw [hnm, hl]; rfl
      clear hnm
      have HN := hide (skip_yes (p := isNm) (t := (bs s).drop q) (ne_nm hx) hx)
      have HZ2 := hide (sz_pos (l := (bs s).drop q) (ne_nm hx))
      go_wp2_with (first | (go_at_call 32; refine (HP2.out).mono ?_; rintro e w1 ⟨rfl, r1, k1⟩) | (go_at_call 67; refine (isSpace_any _ _).mono ?_; rintro e w' ⟨rfl, rfl⟩) | (go_at_call 68; refine (isLetter_any _ _).mono ?_; rintro e w' ⟨rfl, rfl⟩) | (go_at_call 69; refine (isDigit_any _ _).mono ?_; rintro e w' ⟨rfl, rfl⟩))
      go_step3
      obtain ⟨hr, hk, hT⟩ := HH.out
      rw [HN.out, nx_drop (bs s) q] at hT
      have := HZ2.out
      have hz := r1.le
      exact ⟨s.size - (q + sz ((bs s).drop q)), by omega, q + sz ((bs s).drop q), _, _, _, _, _, _, _, _, _, _, _, _, _, _, _, _, _, _, _, _, _, _, _, _, _, _, _, _, _, _, rfl, r1, hk.to k1, by omega, by omega, rfl, rfl⟩
end Go.Proofs.YtbhcniemkjoflaaDoor
