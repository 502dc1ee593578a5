/- What kind of token begins where a reader is: the others. -/
import Derived.Test.YtbhcniemkjoflaaDoorIa
namespace Go.Proofs.YtbhcniemkjoflaaDoor
open Go.RowKit
open M

theorem Rdr.below {w w' : World} {b : Nat} {s : ByteArray} {p : Nat} (h : Rdr w b s p) (hb : Below w.heap.size w w') : Rdr w' b s p := ⟨h.raw.below hb, h.tabs.below hb, h.old, h.le, h.big⟩

set_option maxHeartbeats 4000000 in
theorem kind_quote (b : Nat) (s : ByteArray) (p : Nat) (w : World) (h : Rdr w b s p) (hc : cc ((bs s).drop p) = 34) :
    Calls Tryd.prog 49 #[.pointer (some ⟨b, 0, none⟩)] w fun e w' => e = .returned (.int .i64 (quo 6 (nx ((bs s).drop p))).1) ∧ Rdr w' b s (p + (1 + (quo 6 (nx ((bs s).drop p))).2)) ∧ On b w w' := by
  obtain ⟨⟨c0, c1, c2, c3⟩, f0, f1, f2, f3⟩ := h.raw.facts
  have hs := h.big
  have z1 : sz ((bs s).drop p) = 1 := sz_cc (by omega) (by omega)
  rw [nx_drop, z1]
  have Z1 := hide z1
  have hsp : isSp 34 = false := by decide
  have hlt : isLt 34 = false := by decide
  have hdg : isDg 34 = false := by decide
  rw [hc] at c2
  clear z1
  go_enter Tryd.func49, Tryd.ntmps49
  go_wp2_with fail
  go_step3
  go_wp2_with fail
  go_quiet (fail)
  go_wp2_with (first | (go_at_call 32; refine (pass_any b s p _ (h.drewN _)).mono ?_; rintro e w1 ⟨rfl, r1, k1⟩; obtain ⟨⟨d0, d1, d2, d3⟩, -⟩ := r1.raw.facts; rw [Z1.out] at r1) | (go_at_call 67; refine (isSpace_any _ _).mono ?_; rintro e w' ⟨rfl, rfl⟩) | (go_at_call 68; refine (isLetter_any _ _).mono ?_; rintro e w' ⟨rfl, rfl⟩) | (go_at_call 69; refine (isDigit_any _ _).mono ?_; rintro e w' ⟨rfl, rfl⟩) | (go_at_call 72; refine (isPair_any _ _ _).mono ?_; rintro e w' ⟨rfl, rfl⟩) | (go_at_call 70; refine (quoted_any b s (p + 1) _ r1).mono ?_; rintro e w2 ⟨rfl, r2, k2⟩))
  rw [Exit.noGoto_ret]
  go_ret
  exact ⟨rfl, by rw [← Nat.add_assoc]; exact r2, ((On.drewN b w nq).to k1).to k2⟩

set_option maxHeartbeats 4000000 in
theorem kind_nest (b : Nat) (s : ByteArray) (p : Nat) (w : World) (h : Rdr w b s p) (hc : cc ((bs s).drop p) = 123) (hc1 : cc ((bs s).drop (p + 1)) = 45) :
    Calls Tryd.prog 49 #[.pointer (some ⟨b, 0, none⟩)] w fun e w' => e = .returned (.int .i64 (nest 1 ((bs s).drop (p + 2))).1) ∧ Rdr w' b s (p + (2 + (nest 1 ((bs s).drop (p + 2))).2)) ∧ On b w w' := by
  obtain ⟨⟨c0, c1, c2, c3⟩, f0, f1, f2, f3⟩ := h.raw.facts
  have hs := h.big
  have z1 : sz ((bs s).drop p) = 1 := sz_cc (by omega) (by omega)
  have z2 : sz ((bs s).drop (p + 1)) = 1 := sz_cc (by omega) (by omega)
  have HP := hide (fun w2 (h' : Rdr w2 b s p) => pass_any b s p w2 h')
  have HP1 := hide (fun w2 (h' : Rdr w2 b s (p + 1)) => pass_any b s (p + 1) w2 h')
  rw [z1] at HP
  rw [z2] at HP1
  have HC1 := hide hc1
  have hsp : isSp 123 = false := by decide
  have hlt : isLt 123 = false := by decide
  have hdg : isDg 123 = false := by decide
  rw [hc] at c2
  clear z1 z2 hc1
  go_enter Tryd.func49, Tryd.ntmps49
  go_wp2_with fail
  go_step3
  go_wp2_with fail
  go_quiet (fail)
  go_wp2_with fail
  refine ((HP.out) _ (h.drewN _)).mono ?_
  rintro e w1 ⟨rfl, r1, k1⟩
  obtain ⟨⟨d0, d1, d2, d3⟩, -⟩ := r1.raw.facts
  rw [HC1.out] at d2
  go_wp2_with (first | (go_at_call 67; refine (isSpace_any _ _).mono ?_; rintro e w' ⟨rfl, rfl⟩) | (go_at_call 68; refine (isLetter_any _ _).mono ?_; rintro e w' ⟨rfl, rfl⟩) | (go_at_call 69; refine (isDigit_any _ _).mono ?_; rintro e w' ⟨rfl, rfl⟩) | (go_at_call 72; refine (isPair_any _ _ _).mono ?_; rintro e w' ⟨rfl, rfl⟩) | (go_at_call 32; refine ((HP1.out) _ r1).mono ?_; rintro e w2 ⟨rfl, r2, k2⟩) | (go_at_call 71; refine (nested_any b s (p + 2) _ r2).mono ?_; rintro e w3 ⟨rfl, r3, k3⟩))
  rw [Exit.noGoto_ret]
  go_ret
  exact ⟨rfl, by rw [← Nat.add_assoc]; exact r3, (((On.drewN b w nq).to k1).to k2).to k3⟩

set_option maxHeartbeats 4000000 in
theorem kind_pair (b : Nat) (s : ByteArray) (p : Nat) (w : World) (h : Rdr w b s p) (hpr : isPr (cc ((bs s).drop p)) (cc ((bs s).drop (p + 1))) = true) (hc : cc ((bs s).drop p) = 61 ∨ cc ((bs s).drop p) = 43) :
    Calls Tryd.prog 49 #[.pointer (some ⟨b, 0, none⟩)] w fun e w' => e = .returned (.int .i64 7) ∧ Rdr w' b s (p + 2) ∧ On b w w' := by
  obtain ⟨⟨c0, c1, c2, c3⟩, f0, f1, f2, f3⟩ := h.raw.facts
  have hs := h.big
  have z1 : sz ((bs s).drop p) = 1 := sz_cc (by omega) (by omega)
  have z2 : sz ((bs s).drop (p + 1)) = 1 := by
    unfold isPr at hpr; simp only [decide_eq_true_eq] at hpr
    exact sz_cc (by omega) (by omega)
  have HP := hide (fun w2 (h' : Rdr w2 b s p) => pass_any b s p w2 h')
  have HP1 := hide (fun w2 (h' : Rdr w2 b s (p + 1)) => pass_any b s (p + 1) w2 h')
  rw [z1] at HP
  rw [z2] at HP1
  clear z1 z2
  rcases hc with hc | hc
  · rw [hc] at c2 hpr
    have hsp : isSp 61 = false := by decide
    have hlt : isLt 61 = false := by decide
    have hdg : isDg 61 = false := by decide
    go_enter Tryd.func49, Tryd.ntmps49
    go_wp2_with fail
    go_step3
    go_wp2_with fail
    go_quiet (fail)
    go_wp2_with fail
    refine ((HP.out) _ (h.drewN _)).mono ?_
    rintro e w1 ⟨rfl, r1, k1⟩
    obtain ⟨⟨d0, d1, d2, d3⟩, -⟩ := r1.raw.facts
    go_wp2_with (first | (go_at_call 67; refine (isSpace_any _ _).mono ?_; rintro e w' ⟨rfl, rfl⟩) | (go_at_call 68; refine (isLetter_any _ _).mono ?_; rintro e w' ⟨rfl, rfl⟩) | (go_at_call 69; refine (isDigit_any _ _).mono ?_; rintro e w' ⟨rfl, rfl⟩) | (go_at_call 72; refine (isPair_any _ _ _).mono ?_; rintro e w' ⟨rfl, rfl⟩) | (go_at_call 32; refine ((HP1.out) _ r1).mono ?_; rintro e w2 ⟨rfl, r2, k2⟩))
    rw [Exit.noGoto_ret]
    go_ret
    exact ⟨rfl, r2, ((On.drewN b w nq).to k1).to k2⟩
  · rw [hc] at c2 hpr
    have hsp : isSp 43 = false := by decide
    have hlt : isLt 43 = false := by decide
    have hdg : isDg 43 = false := by decide
    go_enter Tryd.func49, Tryd.ntmps49
    go_wp2_with fail
    go_step3
    go_wp2_with fail
    go_quiet (fail)
    go_wp2_with fail
    refine ((HP.out) _ (h.drewN _)).mono ?_
    rintro e w1 ⟨rfl, r1, k1⟩
    obtain ⟨⟨d0, d1, d2, d3⟩, -⟩ := r1.raw.facts
    go_wp2_with (first | (go_at_call 67; refine (isSpace_any _ _).mono ?_; rintro e w' ⟨rfl, rfl⟩) | (go_at_call 68; refine (isLetter_any _ _).mono ?_; rintro e w' ⟨rfl, rfl⟩) | (go_at_call 69; refine (isDigit_any _ _).mono ?_; rintro e w' ⟨rfl, rfl⟩) | (go_at_call 72; refine (isPair_any _ _ _).mono ?_; rintro e w' ⟨rfl, rfl⟩) | (go_at_call 32; refine ((HP1.out) _ r1).mono ?_; rintro e w2 ⟨rfl, r2, k2⟩))
    rw [Exit.noGoto_ret]
    go_ret
    exact ⟨rfl, r2, ((On.drewN b w nq).to k1).to k2⟩

set_option maxHeartbeats 4000000 in
theorem kind_short (b : Nat) (s : ByteArray) (p : Nat) (w : World) (h : Rdr w b s p) (hp : p < s.size) (hsp : isSp (cc ((bs s).drop p)) = false) (hlt : isLt (cc ((bs s).drop p)) = false) (hdg : isDg (cc ((bs s).drop p)) = false)
    (hq : cc ((bs s).drop p) ≠ 34) (h1 : ¬ (cc ((bs s).drop p) = 123 ∧ cc (nx ((bs s).drop p)) = 45)) (h2 : ¬ (cc ((bs s).drop p) = 45 ∧ cc (nx ((bs s).drop p)) = 45)) (hpr : isPr (cc ((bs s).drop p)) (cc (nx ((bs s).drop p))) = false) :
    Calls Tryd.prog 49 #[.pointer (some ⟨b, 0, none⟩)] w fun e w' => e = .returned (.int .i64 (if isSg (cc ((bs s).drop p)) then 7 else 8 : Nat)) ∧ Rdr w' b s (p + sz ((bs s).drop p)) ∧ On b w w' := by
  obtain ⟨⟨c0, c1, c2, c3⟩, f0, f1, f2, f3⟩ := h.raw.facts
  have hs := h.big
  have hpos : 0 ≤ cc ((bs s).drop p) := by rw [cc_some (drop_ne hp)]; omega
  have bq : (cc ((bs s).drop p) == 34) = false := by simpa using hq
  rw [nx_drop] at h1 h2 hpr
  by_cases g1 : cc ((bs s).drop p) = 123
  · have hn : (cc ((bs s).drop (p + sz ((bs s).drop p))) == 45) = false := by
      have : ¬ cc ((bs s).drop (p + sz ((bs s).drop p))) = 45 := fun e => h1 ⟨g1, e⟩
      simpa using this
    have hsg : isSg 123 = false := by decide
    rw [g1] at c2 hsp hlt hdg bq hpr
    rw [g1, hsg]
    clear h1 h2 hq
    go_enter Tryd.func49, Tryd.ntmps49
    go_wp2_with fail
    go_step3
    go_wp2_with fail
    go_quiet (fail)
    go_wp2_with (first | (go_at_call 32; refine (pass_any b s p _ (h.drewN _)).mono ?_; rintro e w1 ⟨rfl, r1, k1⟩; obtain ⟨⟨d0, d1, d2, d3⟩, -⟩ := r1.raw.facts) | (go_at_call 67; refine (isSpace_any _ _).mono ?_; rintro e w' ⟨rfl, rfl⟩) | (go_at_call 68; refine (isLetter_any _ _).mono ?_; rintro e w' ⟨rfl, rfl⟩) | (go_at_call 69; refine (isDigit_any _ _).mono ?_; rintro e w' ⟨rfl, rfl⟩) | (go_at_call 72; refine (isPair_any _ _ _).mono ?_; rintro e w' ⟨rfl, rfl⟩) | (go_at_call 73; refine (contains_any _ _ (by omega)).mono ?_; rintro e w2 ⟨rfl, k2⟩))
    rw [Exit.noGoto_ret]
    go_ret
    exact ⟨rfl, r1.below k2, ((On.drewN b w nq).to k1).to (On.ofBelow b k2)⟩
  by_cases g2 : cc ((bs s).drop p) = 45
  · have hn : (cc ((bs s).drop (p + sz ((bs s).drop p))) == 45) = false := by
      have : ¬ cc ((bs s).drop (p + sz ((bs s).drop p))) = 45 := fun e => h2 ⟨g2, e⟩
      simpa using this
    have hsg : isSg 45 = true := by decide
    rw [g2] at c2 hsp hlt hdg bq hpr
    rw [g2, hsg]
    clear h1 h2 hq g1
    go_enter Tryd.func49, Tryd.ntmps49
    go_wp2_with fail
    go_step3
    go_wp2_with fail
    go_quiet (fail)
    go_wp2_with (first | (go_at_call 32; refine (pass_any b s p _ (h.drewN _)).mono ?_; rintro e w1 ⟨rfl, r1, k1⟩; obtain ⟨⟨d0, d1, d2, d3⟩, -⟩ := r1.raw.facts) | (go_at_call 67; refine (isSpace_any _ _).mono ?_; rintro e w' ⟨rfl, rfl⟩) | (go_at_call 68; refine (isLetter_any _ _).mono ?_; rintro e w' ⟨rfl, rfl⟩) | (go_at_call 69; refine (isDigit_any _ _).mono ?_; rintro e w' ⟨rfl, rfl⟩) | (go_at_call 72; refine (isPair_any _ _ _).mono ?_; rintro e w' ⟨rfl, rfl⟩) | (go_at_call 73; refine (contains_any _ _ (by omega)).mono ?_; rintro e w2 ⟨rfl, k2⟩))
    rw [Exit.noGoto_ret]
    go_ret
    exact ⟨rfl, r1.below k2, ((On.drewN b w nq).to k1).to (On.ofBelow b k2)⟩
  · have b1 : (cc ((bs s).drop p) == 123) = false := by simpa using g1
    have b2 : (cc ((bs s).drop p) == 45) = false := by simpa using g2
    clear h1 h2 hq g1 g2
    cases hsg : isSg (cc ((bs s).drop p))
    · go_enter Tryd.func49, Tryd.ntmps49
      go_wp2_with fail
      go_step3
      go_wp2_with fail
      go_quiet (fail)
      go_wp2_with (first | (go_at_call 32; refine (pass_any b s p _ (h.drewN _)).mono ?_; rintro e w1 ⟨rfl, r1, k1⟩; obtain ⟨⟨d0, d1, d2, d3⟩, -⟩ := r1.raw.facts) | (go_at_call 67; refine (isSpace_any _ _).mono ?_; rintro e w' ⟨rfl, rfl⟩) | (go_at_call 68; refine (isLetter_any _ _).mono ?_; rintro e w' ⟨rfl, rfl⟩) | (go_at_call 69; refine (isDigit_any _ _).mono ?_; rintro e w' ⟨rfl, rfl⟩) | (go_at_call 72; refine (isPair_any _ _ _).mono ?_; rintro e w' ⟨rfl, rfl⟩) | (go_at_call 73; refine (contains_any _ _ (by omega)).mono ?_; rintro e w2 ⟨rfl, k2⟩))
      rw [Exit.noGoto_ret]
      go_ret
      exact ⟨rfl, r1.below k2, ((On.drewN b w nq).to k1).to (On.ofBelow b k2)⟩
    · go_enter Tryd.func49, Tryd.ntmps49
      go_wp2_with fail
      go_step3
      go_wp2_with fail
      go_quiet (fail)
      go_wp2_with (first | (go_at_call 32; refine (pass_any b s p _ (h.drewN _)).mono ?_; rintro e w1 ⟨rfl, r1, k1⟩; obtain ⟨⟨d0, d1, d2, d3⟩, -⟩ := r1.raw.facts) | (go_at_call 67; refine (isSpace_any _ _).mono ?_; rintro e w' ⟨rfl, rfl⟩) | (go_at_call 68; refine (isLetter_any _ _).mono ?_; rintro e w' ⟨rfl, rfl⟩) | (go_at_call 69; refine (isDigit_any _ _).mono ?_; rintro e w' ⟨rfl, rfl⟩) | (go_at_call 72; refine (isPair_any _ _ _).mono ?_; rintro e w' ⟨rfl, rfl⟩) | (go_at_call 73; refine (contains_any _ _ (by omega)).mono ?_; rintro e w2 ⟨rfl, k2⟩))
      rw [Exit.noGoto_ret]
      go_ret
      exact ⟨rfl, r1.below k2, ((On.drewN b w nq).to k1).to (On.ofBelow b k2)⟩
end Go.Proofs.YtbhcniemkjoflaaDoor
