/- What kind of token begins where a reader is: the others. -/
import Derived.Test.YtgjbafamiggafaaGreatDoorHa
namespace Go.Proofs.YtgjbafamiggafaaGreatDoor
open Go.RowKit
open M

theorem Rdr.below {w w' : World} {b : Nat} {s : ByteArray} {p : Nat} (h : Rdr w b s p) (hb : Below w.heap.size w w') : Rdr w' b s p := ⟨h.raw.below hb, h.tabs.below hb, h.old, h.le, h.big⟩

set_option maxHeartbeats 4000000 in
theorem kind_quote (b : Nat) (s : ByteArray) (p : Nat) (w : World) (h : Rdr w b s p) (hc : cc ((bs s).drop p) = 34) :
    Calls Tryz.prog 46 #[.pointer (some ⟨b, 0, none⟩)] w fun e w' => e = .returned (.int .i64 (quo 6 (nx ((bs s).drop p))).1) ∧ Rdr w' b s (p + (1 + (quo 6 (nx ((bs s).drop p))).2)) ∧ On b w w' := by
  obtain ⟨⟨c0, c1, c2, c3⟩, f0, f1, f2, f3⟩ := h.raw.facts
  have hs := h.big
  have z1 : sz ((bs s).drop p) = 1 := sz_cc (by omega) (by omega)
  rw [nx_drop, z1]
  have Z1 := hide z1
  have hsp : isSp 34 = false := by decide
  have hlt : isLt 34 = false := by decide
  have hdg : isDg 34 = false := by decide
  rw [hc] at c2
  clear z1
  go_enter Tryz.func46, Tryz.ntmps46
  go_wp2_with fail
  go_step3
  go_wp2_with fail
  go_quiet (fail)
  go_wp2_with (first | (go_at_call 71; refine (pass_any b s p _ (h.drewN _)).mono ?_; rintro e w1 ⟨rfl, r1, k1⟩; obtain ⟨⟨d0, d1, d2, d3⟩, -⟩ := r1.raw.facts; rw [Z1.out] at r1) | (go_at_call 72; refine (isSpace_any _ _).mono ?_; rintro e w' ⟨rfl, rfl⟩) | (go_at_call 73; refine (isLetter_any _ _).mono ?_; rintro e w' ⟨rfl, rfl⟩) | (go_at_call 74; refine (isDigit_any _ _).mono ?_; rintro e w' ⟨rfl, rfl⟩) | (go_at_call 77; refine (isPair_any _ _ _).mono ?_; rintro e w' ⟨rfl, rfl⟩) | (go_at_call 75; refine (quoted_any b s (p + 1) _ r1).mono ?_; rintro e w2 ⟨rfl, r2, k2⟩))
  rw [Exit.noGoto_ret]
  go_ret
  exact ⟨rfl, by rw [← Nat.add_assoc]; exact r2, ((On.drewN b w nq).to k1).to k2⟩

set_option maxHeartbeats 4000000 in
theorem kind_nest (b : Nat) (s : ByteArray) (p : Nat) (w : World) (h : Rdr w b s p) (hc : cc ((bs s).drop p) = 123) (hc1 : cc ((bs s).drop (p + 1)) = 45) :
    Calls Tryz.prog 46 #[.pointer (some ⟨b, 0, none⟩)] w fun e w' => e = .returned (.int .i64 (nest 1 ((bs s).drop (p + 2))).1) ∧ Rdr w' b s (p + (2 + (nest 1 ((bs s).drop (p + 2))).2)) ∧ On b w w' := by
  obtain ⟨⟨c0, c1, c2, c3⟩, f0, f1, f2, f3⟩ := h.raw.facts
  have hs := h.big
  have z1 : sz ((bs s).drop p) = 1 := sz_cc (by omega) (by omega)
  have z2 : sz ((bs s).drop (p + 1)) = 1 := sz_cc (by omega) (by omega)
  have HP := hide (fun w2 (h' : Rdr w2 b s p) => pass_any b s p w2 h')
  have HP1 := hide (fun w2 (h' : Rdr w2 b s (p + 1)) => pass_any b s (p + 1) w2 h')
  rw [z1] at HP
  rw [z2] at HP1
  have HC1 := hide hc1
  have hsp : isSp 123 = false := by decide
  have hlt : isLt 123 = false := by decide
  have hdg : isDg 123 = false := by decide
  rw [hc] at c2
  clear z1 z2 hc1
  go_enter Tryz.func46, Tryz.ntmps46
  go_wp2_with fail
  go_step3
  go_wp2_with fail
  go_quiet (fail)
  go_wp2_with fail
  refine ((HP.out) _ (h.drewN _)).mono ?_
  rintro e w1 ⟨rfl, r1, k1⟩
  obtain ⟨⟨d0, d1, d2, d3⟩, -⟩ := r1.raw.facts
  rw [HC1.out] at d2
  go_wp2_with (first | (go_at_call 72; refine (isSpace_any _ _).mono ?_; rintro e w' ⟨rfl, rfl⟩) | (go_at_call 73; refine (isLetter_any _ _).mono ?_; rintro e w' ⟨rfl, rfl⟩) | (go_at_call 74; refine (isDigit_any _ _).mono ?_; rintro e w' ⟨rfl, rfl⟩) | (go_at_call 77; refine (isPair_any _ _ _).mono ?_; rintro e w' ⟨rfl, rfl⟩) | (go_at_call 71; refine ((HP1.out) _ r1).mono ?_; rintro e w2 ⟨rfl, r2, k2⟩) | (go_at_call 76; refine (nested_any b s (p + 2) _ r2).mono ?_; rintro e w3 ⟨rfl, r3, k3⟩))
  rw [Exit.noGoto_ret]
  go_ret
  exact ⟨rfl, by rw [← Nat.add_assoc]; exact r3, (((On.drewN b w nq).to k1).to k2).to k3⟩

set_option maxHeartbeats 4000000 in
theorem kind_pair (b : Nat) (s : ByteArray) (p : Nat) (w : World) (h : Rdr w b s p) (hpr : isPr (cc ((bs s).drop p)) (cc ((bs s).drop (p + 1))) = true) (hc : cc ((bs s).drop p) = 61 ∨ cc ((bs s).drop p) = 43) :
    Calls Tryz.prog 46 #[.pointer (some ⟨b, 0, none⟩)] w fun e w' => e = .returned (.int .i64 7) ∧ Rdr w' b s (p + 2) ∧ On b w w' := by
  obtain ⟨⟨c0, c1, c2, c3⟩, f0, f1, f2, f3⟩ := h.raw.facts
  have hs := h.big
  have z1 : sz ((bs s).drop p) = 1 := sz_cc (by omega) (by omega)
  have z2 : sz ((bs s).drop (p + 1)) = 1 := by
    unfold isPr at hpr; simp only [decide_eq_true_eq] at hpr
    exact sz_cc (by omega) (by omega)
  have HP := hide (fun w2 (h' : Rdr w2 b s p) => pass_any b s p w2 h')
  have HP1 := hide (fun w2 (h' : Rdr w2 b s (p + 1)) => pass_any b s (p + 1) w2 h')
  rw [z1] at HP
  rw [z2] at HP1
  clear z1 z2
  rcases hc with hc | hc
  · rw [hc] at c2 hpr
    have hsp : isSp 61 = false := by decide
    have hlt : isLt 61 = false := by decide
    have hdg : isDg 61 = false := by decide
    go_enter Tryz.func46, Tryz.ntmps46
    go_wp2_with fail
    go_step3
    go_wp2_with fail
    go_quiet (fail)
    go_wp2_with fail
    refine ((HP.out) _ (h.drewN _)).mono ?_
    rintro e w1 ⟨rfl, r1, k1⟩
    obtain ⟨⟨d0, d1, d2, d3⟩, -⟩ := r1.raw.facts
    go_wp2_with (first | (go_at_call 72; refine (isSpace_any _ _).mono ?_; rintro e w' ⟨rfl, rfl⟩) | (go_at_call 73; refine (isLetter_any _ _).mono ?_; rintro e w' ⟨rfl, rfl⟩) | (go_at_call 74; refine (isDigit_any _ _).mono ?_; rintro e w' ⟨rfl, rfl⟩) | (go_at_call 77; refine (isPair_any _ _ _).mono ?_; rintro e w' ⟨rfl, rfl⟩) | (go_at_call 71; refine ((HP1.out) _ r1).mono ?_; rintro e w2 ⟨rfl, r2, k2⟩))
    rw [Exit.noGoto_ret]
    go_ret
    exact ⟨rfl, r2, ((On.drewN b w nq).to k1).to k2⟩
  · rw [hc] at c2 hpr
    have hsp : isSp 43 = false := by decide
    have hlt : isLt 43 = false := by decide
    have hdg : isDg 43 = false := by decide
    go_enter Tryz.func46, Tryz.ntmps46
    go_wp2_with fail
    go_step3
    go_wp2_with fail
    go_quiet (fail)
    go_wp2_with fail
    refine ((HP.out) _ (h.drewN _)).mono ?_
    rintro e w1 ⟨rfl, r1, k1⟩
    obtain ⟨⟨d0, d1, d2, d3⟩, -⟩ := r1.raw.facts
    go_wp2_with (first | (go_at_call 72; refine (isSpace_any _ _).mono ?_; rintro e w' ⟨rfl, rfl⟩) | (go_at_call 73; refine (isLetter_any _ _).mono ?_; rintro e w' ⟨rfl, rfl⟩) | (go_at_call 74; refine (isDigit_any _ _).mono ?_; rintro e w' ⟨rfl, rfl⟩) | (go_at_call 77; refine (isPair_any _ _ _).mono ?_; rintro e w' ⟨rfl, rfl⟩) | (go_at_call 71; refine ((HP1.out) _ r1).mono ?_; rintro e w2 ⟨rfl, r2, k2⟩))
    rw [Exit.noGoto_ret]
    go_ret
    exact ⟨rfl, r2, ((On.drewN b w nq).to k1).to k2⟩

set_option maxHeartbeats 4000000 in
theorem kind_short (b : Nat) (s : ByteArray) (p : Nat) (w : World) (h : Rdr w b s p) (hp : p < s.size) (hsp : isSp (cc ((bs s).drop p)) = false) (hlt : isLt (cc ((bs s).drop p)) = false) (hdg : isDg (cc ((bs s).drop p)) = false)
    (hq : cc ((bs s).drop p) ≠ 34) (h1 : ¬ (cc ((bs s).drop p) = 123 ∧ cc (nx ((bs s).drop p)) = 45)) (h2 : ¬ (cc ((bs s).drop p) = 45 ∧ cc (nx ((bs s).drop p)) = 45)) (hpr : isPr (cc ((bs s).drop p)) (cc (nx ((bs s).drop p))) = false) :
    Calls Tryz.prog 46 #[.pointer (some ⟨b, 0, none⟩)] w fun e w' => e = .returned (.int .i64 (if isSg (cc ((bs s).drop p)) then 7 else 8 : Nat)) ∧ Rdr w' b s (p + sz ((bs s).drop p)) ∧ On b w w' := by
  obtain ⟨⟨c0, c1, c2, c3⟩, f0, f1, f2, f3⟩ := h.raw.facts
  have hs := h.big
  have hpos : 0 ≤ cc ((bs s).drop p) := by rw [cc_some (drop_ne hp)]; omega
  have bq : (cc ((bs s).drop p) == 34) = false := by simpa using hq
  rw [nx_drop] at h1 h2 hpr
  by_cases g1 : cc ((bs s).drop p) = 123
  · have hn : (cc ((bs s).drop (p + sz ((bs s).drop p))) == 45) = false := by
      have : ¬ cc ((bs s).drop (p + sz ((bs s).drop p))) = 45 := fun e => h1 ⟨g1, e⟩
      simpa using this
    have hsg : isSg 123 = false := by decide
    rw [g1] at c2 hsp hlt hdg bq hpr
    rw [g1, hsg]
    clear h1 h2 hq
    go_enter Tryz.func46, Tryz.ntmps46
    go_wp2_with fail
    go_step3
    go_wp2_with fail
    go_quiet (fail)
    go_wp2_with (first | (go_at_call 71; refine (pass_any b s p _ (h.drewN _)).mono ?_; rintro e w1 ⟨rfl, r1, k1⟩; obtain ⟨⟨d0, d1, d2, d3⟩, -⟩ := r1.raw.facts) | (go_at_call 72; refine (isSpace_any _ _).mono ?_; rintro e w' ⟨rfl, rfl⟩) | (go_at_call 73; refine (isLetter_any _ _).mono ?_; rintro e w' ⟨rfl, rfl⟩) | (go_at_call 74; refine (isDigit_any _ _).mono ?_; rintro e w' ⟨rfl, rfl⟩) | (go_at_call 77; refine (isPair_any _ _ _).mono ?_; rintro e w' ⟨rfl, rfl⟩) | (go_at_call 78; refine (contains_any _ _ (by omega)).mono ?_; rintro e w2 ⟨rfl, k2⟩))
    rw [Exit.noGoto_ret]
    go_ret
    exact ⟨rfl, r1.below k2, ((On.drewN b w nq).to k1).to (On.ofBelow b k2)⟩
  by_cases g2 : cc ((bs s).drop p) = 45
  · have hn : (cc ((bs s).drop (p + sz ((bs s).drop p))) == 45) = false := by
      have : ¬ cc ((bs s).drop (p + sz ((bs s).drop p))) = 45 := fun e => h2 ⟨g2, e⟩
      simpa using this
    have hsg : isSg 45 = true := by decide
    rw [g2] at c2 hsp hlt hdg bq hpr
    rw [g2, hsg]
    clear h1 h2 hq g1
    go_enter Tryz.func46, Tryz.ntmps46
    go_wp2_with fail
    go_step3
    go_wp2_with fail
    go_quiet (fail)
    go_wp2_with (first | (go_at_call 71; refine (pass_any b s p _ (h.drewN _)).mono ?_; rintro e w1 ⟨rfl, r1, k1⟩; obtain ⟨⟨d0, d1, d2, d3⟩, -⟩ := r1.raw.facts) | (go_at_call 72; refine (isSpace_any _ _).mono ?_; rintro e w' ⟨rfl, rfl⟩) | (go_at_call 73; refine (isLetter_any _ _).mono ?_; rintro e w' ⟨rfl, rfl⟩) | (go_at_call 74; refine (isDigit_any _ _).mono ?_; rintro e w' ⟨rfl, rfl⟩) | (go_at_call 77; refine (isPair_any _ _ _).mono ?_; rintro e w' ⟨rfl, rfl⟩) | (go_at_call 78; refine (contains_any _ _ (by omega)).mono ?_; rintro e w2 ⟨rfl, k2⟩))
    rw [Exit.noGoto_ret]
    go_ret
    exact ⟨rfl, r1.below k2, ((On.drewN b w nq).to k1).to (On.ofBelow b k2)⟩
  · have b1 : (cc ((bs s).drop p) == 123) = false := by simpa using g1
    have b2 : (cc ((bs s).drop p) == 45) = false := by simpa using g2
    clear h1 h2 hq g1 g2
    cases hsg : isSg (cc ((bs s).drop p))
    · go_enter Tryz.func46, Tryz.ntmps46
      go_wp2_with fail
      go_step3
      go_wp2_with fail
      go_quiet (fail)
      go_wp2_with (first | (go_at_call 71; refine (pass_any b s p _ (h.drewN _)).mono ?_; rintro e w1 ⟨rfl, r1, k1⟩; obtain ⟨⟨d0, d1, d2, d3⟩, -⟩ := r1.raw.facts) | (go_at_call 72; refine (isSpace_any _ _).mono ?_; rintro e w' ⟨rfl, rfl⟩) | (go_at_call 73; refine (isLetter_any _ _).mono ?_; rintro e w' ⟨rfl, rfl⟩) | (go_at_call 74; refine (isDigit_any _ _).mono ?_; rintro e w' ⟨rfl, rfl⟩) | (go_at_call 77; refine (isPair_any _ _ _).mono ?_; rintro e w' ⟨rfl, rfl⟩) | (go_at_call 78; refine (contains_any _ _ (by omega)).mono ?_; rintro e w2 ⟨rfl, k2⟩))
      rw [Exit.noGoto_ret]
      go_ret
      exact ⟨rfl, r1.below k2, ((On.drewN b w nq).to k1).to (On.ofBelow b k2)⟩
    · go_enter Tryz.func46, Tryz.ntmps46
      go_wp2_with fail
      go_step3
      go_wp2_with fail
      go_quiet (fail)
      go_wp2_with (first | (go_at_call 71; refine (pass_any b s p _ (h.drewN _)).mono ?_; rintro e w1 ⟨rfl, r1, k1⟩; obtain ⟨⟨d0, d1, d2, d3⟩, -⟩ := r1.raw.facts) | (go_at_call 72; refine (isSpace_any _ _).mono ?_; rintro e w' ⟨rfl, rfl⟩) | (go_at_call 73; refine (isLetter_any _ _).mono ?_; rintro e w' ⟨rfl, rfl⟩) | (go_at_call 74; refine (isDigit_any _ _).mono ?_; rintro e w' ⟨rfl, rfl⟩) | (go_at_call 77; refine (isPair_any _ _ _).mono ?_; rintro e w' ⟨rfl, rfl⟩) | (go_at_call 78; refine (contains_any _ _ (by omega)).mono ?_; rintro e w2 ⟨rfl, k2⟩))
      rw [Exit.noGoto_ret]
      go_ret
      exact ⟨rfl, r1.below k2, ((On.drewN b w nq).to k1).to (On.ofBelow b k2)⟩
end Go.Proofs.YtgjbafamiggafaaGreatDoor
/- The token that begins where a reader is. -/
namespace Go.Proofs.YtgjbafamiggafaaGreatDoor
open Go.RowKit
open M

theorem kind_any (b : Nat) (s : ByteArray) (p : Nat) (w : World) (h : Rdr w b s p) (hp : p < s.size) :
    Calls Tryz.prog 46 #[.pointer (some ⟨b, 0, none⟩)] w fun e w' => e = .returned (.int .i64 (tok ((bs s).drop p)).1) ∧ Rdr w' b s (p + (tok ((bs s).drop p)).2) ∧ On b w w' := by
  cases h1 : isSp (cc ((bs s).drop p))
  case true =>
    rw [show tok ((bs s).drop p) = (1, sz ((bs s).drop p) + skip isSp (nx ((bs s).drop p))) by unfold tok; rw [h1]; rfl]
    exact kind_space b s p w h hp h1
  cases h2 : isLt (cc ((bs s).drop p))
  case true =>
    rw [show tok ((bs s).drop p) = (if wordB (((bs s).drop p).take (sz ((bs s).drop p) + skip isNm (nx ((bs s).drop p)))) then 4 else 3, sz ((bs s).drop p) + skip isNm (nx ((bs s).drop p))) by unfold tok; rw [h1, h2]; rfl]
    exact kind_name b s p w h hp h1 h2
  cases h3 : isDg (cc ((bs s).drop p))
  case true =>
    rw [show tok ((bs s).drop p) = (if 18 < sz ((bs s).drop p) + skip isDg (nx ((bs s).drop p)) then 8 else 5, sz ((bs s).drop p) + skip isDg (nx ((bs s).drop p))) by unfold tok; rw [h1, h2, h3]; rfl]
    exact kind_digit b s p w h hp h1 h2 h3
  by_cases h4 : cc ((bs s).drop p) = 34
  · rw [show tok ((bs s).drop p) = ((quo 6 (nx ((bs s).drop p))).1, 1 + (quo 6 (nx ((bs s).drop p))).2) by unfold tok; rw [h1, h2, h3, if_neg (by simp), if_neg (by simp), if_neg (by simp), if_pos h4]]
    exact kind_quote b s p w h h4
  by_cases h5 : cc ((bs s).drop p) = 123 ∧ cc (nx ((bs s).drop p)) = 45
  · have z1 : sz ((bs s).drop p) = 1 := sz_cc (by omega) (by omega)
    have e1 : nx ((bs s).drop p) = (bs s).drop (p + 1) := by rw [nx_drop, z1]
    have z2 : sz ((bs s).drop (p + 1)) = 1 := by rw [← e1]; exact sz_cc (by omega) (by omega)
    have e2 : nx (nx ((bs s).drop p)) = (bs s).drop (p + 2) := by rw [e1, nx_drop, z2]
    rw [show tok ((bs s).drop p) = ((nest 1 ((bs s).drop (p + 2))).1, 2 + (nest 1 ((bs s).drop (p + 2))).2) by unfold tok; rw [h1, h2, h3, if_neg (by simp), if_neg (by simp), if_neg (by simp), if_neg h4, if_pos h5, e2]]
    exact kind_nest b s p w h h5.1 (by rw [← e1]; exact h5.2)
  by_cases h6 : cc ((bs s).drop p) = 45 ∧ cc (nx ((bs s).drop p)) = 45
  · have z1 : sz ((bs s).drop p) = 1 := sz_cc (by omega) (by omega)
    have e1 : nx ((bs s).drop p) = (bs s).drop (p + 1) := by rw [nx_drop, z1]
    rw [show tok ((bs s).drop p) = (2, 1 + skip isLn ((bs s).drop (p + 1))) by unfold tok; rw [h1, h2, h3, if_neg (by simp), if_neg (by simp), if_neg (by simp), if_neg h4, if_neg h5, if_pos h6, e1]]
    exact kind_line b s p w h hp h6.1 (by rw [← e1]; exact h6.2)
  cases h7 : isPr (cc ((bs s).drop p)) (cc (nx ((bs s).drop p)))
  case true =>
    have h8 : cc ((bs s).drop p) = 61 ∨ cc ((bs s).drop p) = 43 := by
      have := h7; unfold isPr at this; simp only [decide_eq_true_eq] at this; omega
    have z1 : sz ((bs s).drop p) = 1 := sz_cc (by omega) (by omega)
    have e1 : nx ((bs s).drop p) = (bs s).drop (p + 1) := by rw [nx_drop, z1]
    rw [show tok ((bs s).drop p) = (7, 2) by unfold tok; rw [h1, h2, h3, if_neg (by simp), if_neg (by simp), if_neg (by simp), if_neg h4, if_neg h5, if_neg h6, if_pos h7]]
    exact kind_pair b s p w h (by rw [← e1]; exact h7) h8
  have key := kind_short b s p w h hp h1 h2 h3 h4 h5 h6 h7
  have hpos : 0 ≤ cc ((bs s).drop p) := by rw [cc_some (drop_ne hp)]; omega
  cases h8 : isSg (cc ((bs s).drop p))
  case true =>
    have z1 : sz ((bs s).drop p) = 1 := by
      have := h8; unfold isSg at this; simp only [decide_eq_true_eq, List.mem_cons, List.not_mem_nil, or_false] at this
      exact sz_cc (by omega) (by omega)
    rw [show tok ((bs s).drop p) = (7, 1) by unfold tok; rw [h1, h2, h3, if_neg (by simp), if_neg (by simp), if_neg (by simp), if_neg h4, if_neg h5, if_neg h6, if_neg (by rw [h7]; simp), if_pos h8]]
    rw [h8, z1] at key
    exact key
  case false =>
    rw [show tok ((bs s).drop p) = (8, sz ((bs s).drop p)) by unfold tok; rw [h1, h2, h3, if_neg (by simp), if_neg (by simp), if_neg (by simp), if_neg h4, if_neg h5, if_neg h6, if_neg (by rw [h7]; simp), if_neg (by rw [h8]; simp)]]
    rw [h8] at key
    exact key

theorem tok_drop_le {s : ByteArray} {p : Nat} (h : p < s.size) : p + (tok ((bs s).drop p)).2 ≤ s.size := by
  have := (tok_bounds (drop_ne h)).2.2.2; simp [bs_len] at this; omega

theorem Rdr.keep {S : Nat → Prop} {w w' : World} {b : Nat} {s : ByteArray} {p : Nat} (h : Rdr w b s p) (hk : Kp S w w') (hn : ¬ S b) (h7 : ∀ k, k < 4 → ¬ S k) : Rdr w' b s p := ⟨h.raw.keep hk hn, h.tabs.keep hk h7, h.old, h.le, h.big⟩
theorem On.newset {b : Nat} {a w : World} (h : On b a w) {n : Nat} (hn : a.heap.size ≤ n) (i : Nat) (v : Value) : On b a (w.setCell ⟨n, i, none⟩ v) := Kp.setCell h (p := ⟨n, i, none⟩) (fun hl => by have : n < a.heap.size := hl; omega) v
/-- A block of three cells: a token in memory. -/
def Blk3 (w : World) (b : Nat) (x0 x1 x2 : Value) : Prop := w.heap[b]? = some (.cells #[x0, x1, x2] 55 (0, 0))
theorem Blk3.new (w : World) (x0 x1 x2 : Value) : Blk3 (w.alloc (.cells #[x0, x1, x2] 55)) w.heap.size x0 x1 x2 := by
  show (w.heap.push _)[w.heap.size]? = _
  simp
theorem Blk3.facts {w : World} {b : Nat} {x0 x1 x2 : Value} (h : Blk3 w b x0 x1 x2) :
    (w.cell? ⟨b, 0, none⟩ = some x0 ∧ w.cell? ⟨b, 1, none⟩ = some x1 ∧ w.cell? ⟨b, 2, none⟩ = some x2) ∧
    (w.frozen? ⟨b, 0, none⟩ = false ∧ w.frozen? ⟨b, 1, none⟩ = false ∧ w.frozen? ⟨b, 2, none⟩ = false) := by
  unfold Blk3 at h
  refine ⟨⟨?_, ?_, ?_⟩, ?_, ?_, ?_⟩ <;> simp [World.cell?, World.frozen?, h]

set_option maxHeartbeats 4000000 in
theorem token_any (b : Nat) (s : ByteArray) (p : Nat) (w : World) (h : Rdr w b s p) (hp : p < s.size) :
    Calls Tryz.prog 25 #[.pointer (some ⟨b, 0, none⟩)] w fun e w' => e = .returned (.agg #[.int .i64 (tok ((bs s).drop p)).1, .int .i64 p, .int .i64 (tok ((bs s).drop p)).2]) ∧ Rdr w' b s (p + (tok ((bs s).drop p)).2) ∧ On b w w' := by
  have hs := h.big
  have HT := hide (tok_drop_le hp)
  have h' : Rdr (w.alloc (.cells #[.int .i64 0, .int .i64 0, .int .i64 0] 55)) b s p := h.below ((Below.refl _ _).alloc (Nat.le_refl _) _)
  have hbl : b < w.heap.size := h.raw.lt
  obtain ⟨⟨c0, c1, c2, c3⟩, f0, f1, f2, f3⟩ := h.raw.facts
  go_enter Tryz.func25, Tryz.ntmps25
  go_wp2_with fail
  refine (kind_any b s p _ h' hp).mono ?_
  rintro e w1 ⟨rfl, r1, k1⟩
  obtain ⟨⟨d0, d1, d2, d3⟩, -⟩ := r1.raw.facts
  have g0 : Blk3 w1 w.heap.size (.int .i64 0) (.int .i64 0) (.int .i64 0) := Kp.heap k1 (Blk3.new w _ _ _) (by omega)
  obtain ⟨⟨x0, x1, x2⟩, y0, y1, y2⟩ := g0.facts
  have R1 := hide r1
  have K1 := hide k1
  clear r1 k1 g0
  have hT := HT.out
  have e1 : ((p + (tok ((bs s).drop p)).2 : Nat) : Int) - (p : Int) = ((tok ((bs s).drop p)).2 : Int) := by omega
  go_wp2_with fail
  have e2 : (p : Int) + ((tok ((bs s).drop p)).2 : Int) - (p : Int) = ((tok ((bs s).drop p)).2 : Int) := by omega
  rw [e2]
  have k0 : On b w w1 := Kp.trans (Kp.alloc (Kp.refl _ w) _) K1.out (fun _ _ e => e)
  have h7 := h.tabs.2
  have q1 : Kp (fun k => k = w.heap.size) w1 (((w1.setCell ⟨w.heap.size, 0, none⟩ (.int .i64 (tok ((bs s).drop p)).1)).setCell ⟨w.heap.size, 1, none⟩ (.int .i64 p)).setCell ⟨w.heap.size, 2, none⟩ (.int .i64 (tok ((bs s).drop p)).2)) :=
    ((On.set (Kp.refl _ w1) 0 _).set 1 _).set 2 _
  exact bodyPost_ret (v := .agg #[.int .i64 (tok ((bs s).drop p)).1, .int .i64 p, .int .i64 (tok ((bs s).drop p)).2]) (by simp [results, Tryz.results25, go_sem, x0, x1, x2]) rfl
    ⟨rfl, (R1.out).keep q1 (by omega) (fun k hk => by omega), ((k0.newset (Nat.le_refl _) 0 _).newset (Nat.le_refl _) 1 _).newset (Nat.le_refl _) 2 _⟩
end Go.Proofs.YtgjbafamiggafaaGreatDoor
/- Is a text one token alone? Is it a name? -/
namespace Go.Proofs.YtgjbafamiggafaaGreatDoor
open Go.RowKit
open M

/-- Is a text one token, of a kind? -/
def aloneB (l : List UInt8) (kind : Nat) : Bool := decide (l ≠ [] ∧ M.tok l = (kind, l.length))

theorem frzN {W : World} {b : Nat} {c : Array Value} {t : TypeId} (h : W.heap[b]? = some (.cells c t (0, 0))) (k : Nat) : W.frozen? ⟨b, k, none⟩ = false := by simp [World.frozen?, h]
/-- The first token of a text. -/
def firstT (s : ByteArray) : Nat × Nat := if s.size = 0 then (0, 0) else M.tok (bs s)
set_option maxRecDepth 100000 in
set_option maxHeartbeats 4000000 in
theorem first_any (s : ByteArray) (w : World) (hT : Tabs w) (hs : s.size ≤ 1073741824) :
    Calls Tryz.prog 50 #[.string s] w fun e w' => e = .returned (.agg #[.int .i64 (firstT s).1, .int .i64 0, .int .i64 (firstT s).2]) ∧ Below w.heap.size w w' := by
  have k0 : Below w.heap.size w (w.alloc (.cells #[.int .i64 0, .int .i64 0, .int .i64 0] 55)) := (Below.refl _ w).alloc (Nat.le_refl _) _
  have hN := heap_alloc_new w (.cells #[.int .i64 0, .int .i64 0, .int .i64 0] 55)
  by_cases h0 : s.size = 0
  · obtain rfl : s = ⟨#[]⟩ := bs_inj (by rw [← List.length_eq_zero_iff.1 (by rw [bs_len]; exact h0 : (bs s).length = 0)]; rfl)
    have e : firstT ⟨#[]⟩ = (0, 0) := if_pos h0
    rw [e]
    have a0 := cell_of_row _ _ 0 _ _ _ hN
    have a1 := cell_of_row _ _ 1 _ _ _ hN
    have a2 := cell_of_row _ _ 2 _ _ _ hN
    go_enter Tryz.func50, Tryz.ntmps50
    go_wp2_with fail
    exact bodyPost_ret (by simp [results, Tryz.results50, go_sem]) rfl ⟨rfl, k0⟩
  · have hne : bs s ≠ [] := by intro e; have := congrArg List.length e; rw [bs_len] at this; exact h0 this
    have hb : (s.toList == []) = false := by rw [ByteArray.toList_eq, beq_eq_false_iff_ne]; exact hne
    have hbn : (s.toList != []) = true := by rw [bne, hb]; rfl
    have hp : 0 < s.size := by omega
    have hT1 : Tabs (w.alloc (.cells #[.int .i64 0, .int .i64 0, .int .i64 0] 55)) := hT.below k0
    have h7 := hT1.2
    have HE : Hid (firstT s = M.tok (bs s)) := if_neg h0
    have HN := hide hN
    have HK0 := hide k0
    have hz : (w.alloc (.cells #[.int .i64 0, .int .i64 0, .int .i64 0] 55)).heap.size = w.heap.size + 1 := by simp
    clear hN k0
    go_enter Tryz.func50, Tryz.ntmps50
    go_wp2_with fail
    refine (readFrom_any s 0 _ hT1 (Nat.zero_le _) (by omega)).mono ?_
    rintro e w1 ⟨rfl, r1, k1⟩
    have z1 := k1.size
    have K1 := hide ((HK0.out).trans (k1.mono (HK0.out).size))
    have hN1 : w1.heap[w.heap.size]? = some (.cells #[.int .i64 0, .int .i64 0, .int .i64 0] 55 (0, 0)) := by
      rw [k1.block w.heap.size (by rw [hz]; omega)]; exact HN.out
    have HN1 := hide hN1
    rw [hz] at r1 z1
    rw [hz]
    clear k1 hN1
    go_wp2_with fail
    refine (token_any (w.heap.size + 1) s 0 _ r1 hp).mono ?_
    rintro e w2 ⟨rfl, r2, k2⟩
    have K2 := hide ((K1.out).trans (On.below k2 (B := w.heap.size) (by omega) (by omega)))
    have hN2 := k2.heap HN1.out (fun e => by omega)
    clear k2 r2
    rw [List.drop_zero, ← HE.out]
    have a0 := cell_of_row _ _ 0 _ _ _ hN2
    have a1 := cell_of_row _ _ 1 _ _ _ hN2
    have a2 := cell_of_row _ _ 2 _ _ _ hN2
    have b0 := frzN hN2 0
    have b1 := frzN hN2 1
    have b2 := frzN hN2 2
    have hN3 : (((w2.setCell ⟨w.heap.size, 0, none⟩ (.int .i64 (firstT s).1)).setCell ⟨w.heap.size, 1, none⟩ (.int .i64 0)).setCell ⟨w.heap.size, 2, none⟩ (.int .i64 (firstT s).2)).heap[w.heap.size]? = some (.cells #[.int .i64 (firstT s).1, .int .i64 0, .int .i64 (firstT s).2] 55 (0, 0)) := by
      simp [World.setCell, Array.getElem?_modify, hN2]
    have K3 : Hid (Below w.heap.size w (((w2.setCell ⟨w.heap.size, 0, none⟩ (.int .i64 (firstT s).1)).setCell ⟨w.heap.size, 1, none⟩ (.int .i64 0)).setCell ⟨w.heap.size, 2, none⟩ (.int .i64 (firstT s).2))) := (((K2.out).setCell (p := ⟨w.heap.size, 0, none⟩) (Nat.le_refl _) _).setCell (p := ⟨w.heap.size, 1, none⟩) (Nat.le_refl _) _).setCell (p := ⟨w.heap.size, 2, none⟩) (Nat.le_refl _) _
    have HN3 := hide hN3
    clear hN2 hN3
    go_wp2_with fail
    clear a0 a1 a2 b0 b1 b2
    generalize (((w2.setCell ⟨w.heap.size, 0, none⟩ (.int .i64 (firstT s).1)).setCell ⟨w.heap.size, 1, none⟩ (.int .i64 0)).setCell ⟨w.heap.size, 2, none⟩ (.int .i64 (firstT s).2)) = w3 at *
    have a0 := cell_of_row _ _ 0 _ _ _ HN3.out
    have a1 := cell_of_row _ _ 1 _ _ _ HN3.out
    have a2 := cell_of_row _ _ 2 _ _ _ HN3.out
    exact bodyPost_ret (by simp [results, Tryz.results50, go_sem, a0, a1, a2]) rfl ⟨rfl, K3.out⟩
set_option maxRecDepth 100000 in
set_option maxHeartbeats 4000000 in
theorem alone_any (s : ByteArray) (kind : Nat) (w : World) (hT : Tabs w) (hs : s.size ≤ 1073741824) (hk : 0 < kind) :
    Calls Tryz.prog 31 #[.string s, .int .i64 kind] w fun e w' => e = .returned (.bool (aloneB (bs s) kind)) ∧ Below w.heap.size w w' := by
  have HA : Hid (aloneB (bs s) kind = decide ((firstT s).1 = kind ∧ (firstT s).2 = s.size)) := by
    show _ = _
    unfold aloneB firstT
    by_cases h0 : s.size = 0
    · have hn : bs s = [] := List.length_eq_zero_iff.1 (by rw [bs_len]; exact h0)
      rw [if_pos h0, decide_eq_false (fun h => h.1 hn), eq_comm, decide_eq_false_iff_not]
      simp only
      omega
    · have hne : bs s ≠ [] := by intro e; have := congrArg List.length e; rw [bs_len] at this; exact h0 this
      rw [if_neg h0, bs_len, Bool.eq_iff_iff]; simp [hne, Prod.ext_iff]
  go_enter Tryz.func31, Tryz.ntmps31
  go_wp2_with fail
  refine (first_any s _ hT hs).mono ?_
  rintro e w2 ⟨rfl, k2⟩
  have K2 := hide k2
  clear k2
  generalize firstT s = T at *
  go_wp2_with fail
  all_goals
    go_ret
    refine ⟨retb ?_, K2.out⟩
    rw [HA.out]
    first
      | (rw [eq_comm, decide_eq_true_iff]; omega)
      | (rw [eq_comm, decide_eq_false_iff_not]; omega)
      | (rw [eq_comm, decide_eq_true_iff]; simp_all; omega)
      | (rw [eq_comm, decide_eq_false_iff_not]; simp_all; omega)

set_option maxHeartbeats 4000000 in
theorem lexname_any (s : ByteArray) (w : World) (hT : Tabs w) (hs : s.size ≤ 1073741824) :
    Calls Tryz.prog 19 #[.string s] w fun e w' => e = .returned (.bool (decide (s.size ≤ 40) && aloneB (bs s) 3)) ∧ Below w.heap.size w w' := by
  by_cases h : s.size ≤ 40
  · have i1 : decide ((s.size : Int) ≤ 40) = true := by simp; omega
    rw [decide_eq_true h, Bool.true_and]
    go_enter Tryz.func19, Tryz.ntmps19
    go_wp2_with fail
    refine (alone_any s 3 _ hT hs (by omega)).mono ?_
    rintro e w1 ⟨rfl, k1⟩
    go_wp2_with fail
    go_ret
    exact ⟨rfl, k1⟩
  · have i1 : decide ((s.size : Int) ≤ 40) = false := by simp; omega
    rw [decide_eq_false h, Bool.false_and]
    go_enter Tryz.func19, Tryz.ntmps19
    go_wp2_with fail
    go_ret
    exact ⟨rfl, Below.refl _ _⟩
end Go.Proofs.YtgjbafamiggafaaGreatDoor
