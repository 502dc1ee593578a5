/- The document's own remarks within remarks. -/
import Derived.Test.YtbhcniemkjoflaaDoorEa
import Derived.Test.YtbhcniemkjoflaaDoorGc
namespace Go.Proofs.YtbhcniemkjoflaaDoor
open Go.RowKit
open M

theorem hasB_yes {s : ByteArray} {k a b : Nat} (h : hasB s k a b = true) : cc ((bs s).drop k) = (a : Int) ∧ cc ((bs s).drop (k + 1)) = (b : Int) := by
  unfold hasB at h; exact of_decide_eq_true h
theorem hasB_no {s : ByteArray} {k a b : Nat} (h : hasB s k a b = false) : ¬ (cc ((bs s).drop k) = (a : Int) ∧ cc ((bs s).drop (k + 1)) = (b : Int)) := by
  unfold hasB at h; exact of_decide_eq_false h
theorem hasB_of {s : ByteArray} {k a b : Nat} (h1 : cc ((bs s).drop k) = (a : Int)) (h2 : cc ((bs s).drop (k + 1)) = (b : Int)) : hasB s k a b = true := by
  unfold hasB; exact decide_eq_true ⟨h1, h2⟩
theorem lt_of_cc {s : ByteArray} {k : Nat} {c : Int} (h : cc ((bs s).drop k) = c) (hc : c ≠ -1) : k < s.size := by
  rcases Nat.lt_or_ge k s.size with h' | h'
  · exact h'
  · rw [show (bs s).drop k = [] by rw [List.drop_eq_nil_iff, bs_len]; exact h', cc_nil] at h; exact absurd h.symm hc
theorem ret_ib {a a' : Int} {c c' : Bool} (h : a = a') (k : c = c') : Ending.returned (.tuple #[.int .i64 a, .bool c]) = .returned (.tuple #[.int .i64 a', .bool c']) := by rw [h, k]
theorem nx_at {l : List UInt8} {k : Nat} (h : sz (l.drop k) = 1) : nx (l.drop k) = l.drop (k + 1) := by unfold nx; rw [h, List.drop_drop]

theorem has_open (s : ByteArray) (k : Nat) (w : World) (hk : k < s.size) (hs : s.size ≤ 1073741824) :
    Calls Tryd.prog 52 #[.string s, .int .i64 k, .int .u8 123, .int .u8 45] w fun e w' => e = .returned (.bool (hasB s k 123 45)) ∧ w' = w := has_any s k 123 45 w hk hs (by omega) (by omega)
theorem has_shut (s : ByteArray) (k : Nat) (w : World) (hk : k < s.size) (hs : s.size ≤ 1073741824) :
    Calls Tryd.prog 52 #[.string s, .int .i64 k, .int .u8 45, .int .u8 125] w fun e w' => e = .returned (.bool (hasB s k 45 125)) ∧ w' = w := has_any s k 45 125 w hk hs (by omega) (by omega)
/-- Where the document's loop over a remark stands. -/
structure InNest (s : ByteArray) (p k D : Nat) : Prop where
  pos : 1 ≤ D
  kind : (nest 1 ((bs s).drop (p + 2))).1 = (nest D ((bs s).drop k)).1
  len : p + 2 + (nest 1 ((bs s).drop (p + 2))).2 = k + (nest D ((bs s).drop k)).2

set_option maxRecDepth 100000 in
set_option maxHeartbeats 4000000 in
theorem refNested_any (s : ByteArray) (p : Nat) (w : World) (hs : s.size ≤ 1073741824) (h1 : cc ((bs s).drop p) = 123) (h2 : cc ((bs s).drop (p + 1)) = 45) :
    Calls Tryd.prog 53 #[.string s, .int .i64 p] w fun e w' => e = .returned (.tuple #[.int .i64 ((p + (2 + (nest 1 ((bs s).drop (p + 2))).2) : Nat) : Int), .bool (decide ((nest 1 ((bs s).drop (p + 2))).1 = 2))]) ∧ w' = w := by
  have hp1 : p + 1 < s.size := lt_of_cc h2 (by omega)
  have H0 := hide (And.intro h1 h2)
  clear h1 h2
  go_enter Tryd.func53, Tryd.ntmps53
  go_wp2_with fail
  go_loop [1, 6] (fun i d => ∃ k D : Nat, i = .int .i64 k ∧ d = .int .i64 D ∧ k ≤ s.size ∧ D ≤ k ∧ ((D = 0 ∧ k = p) ∨ Hid (InNest s p k D))) (fun i _ => s.size - (intOf i).toNat)
  case atStart => exact ⟨p, 0, rfl, rfl, by omega, by omega, .inl ⟨rfl, rfl⟩⟩
  case round =>
    obtain ⟨k, D, rfl, rfl, hk, hD, hI⟩ := hrel
    by_cases hlt : k < s.size
    · cases ho : hasB s k 123 45
      · rcases hI with ⟨rfl, rfl⟩ | HI
        · exact absurd (hasB_of (H0.out).1 (H0.out).2) (by rw [ho]; simp)
        have hp := (HI.out).pos
        cases hsh : hasB s k 45 125
        · have HN := hide (nest_step (d := D) (drop_ne hlt) (by rw [List.drop_drop]; exact hasB_no ho) (by rw [List.drop_drop]; exact hasB_no hsh))
          go_wp2_with fail
          refine (has_open s k _ hlt hs).mono ?_
          rintro e w' ⟨rfl, rfl⟩
          go_wp2_with fail
          refine (has_shut s k _ hlt hs).mono ?_
          rintro e w' ⟨rfl, rfl⟩
          go_wp2_with fail
          go_round
          case rel =>
            obtain ⟨a1, a2, a3⟩ := HI.out
            rw [HN.out, List.drop_drop] at a2 a3
            exact ⟨k + 1, D, by go_num, rfl, by omega, by omega, .inr ⟨a1, a2, by rw [a3]; simp only; omega⟩⟩
          case measure => simp [intOf]; omega
        · obtain ⟨g1, g2⟩ := hasB_yes hsh
          have z1 : sz ((bs s).drop k) = 1 := sz_cc (by omega) (by omega)
          have z2 : sz ((bs s).drop (k + 1)) = 1 := sz_cc (by omega) (by omega)
          have e1 := nx_at z1
          have e2 := nx_at z2
          have hk2 : k + 1 < s.size := lt_of_cc g2 (by omega)
          by_cases hd1 : D ≤ 1
          · have HN := hide (nest_last (deep := D) g1 (by rw [e1]; exact g2) hd1)
            have hD1 : D = 1 := by omega
            subst hD1
            clear g1 g2 e1 e2 z1 z2
            go_wp2_with fail
            refine (has_open s k _ hlt hs).mono ?_
            rintro e w' ⟨rfl, rfl⟩
            go_wp2_with fail
            refine (has_shut s k _ hlt hs).mono ?_
            rintro e w' ⟨rfl, rfl⟩
            go_wp2_with fail
            go_ret2
            obtain ⟨a1, a2, a3⟩ := HI.out
            rw [HN.out] at a2 a3
            exact ⟨ret_ib (by simp only at a3; omega) (by rw [a2]; rfl), rfl⟩
          · have HN := hide (nest_shut (deep := D) g1 (by rw [e1]; exact g2) hd1)
            rw [e1, e2, show k + 1 + 1 = k + 2 from rfl] at HN
            have hDb : ((D : Int) - 1 == 0) = false := by simp; omega
            clear g1 g2 e1 e2 z1 z2
            go_wp2_with fail
            refine (has_open s k _ hlt hs).mono ?_
            rintro e w' ⟨rfl, rfl⟩
            go_wp2_with fail
            refine (has_shut s k _ hlt hs).mono ?_
            rintro e w' ⟨rfl, rfl⟩
            go_wp2_with fail
            go_round
            case rel =>
              obtain ⟨a1, a2, a3⟩ := HI.out
              rw [HN.out] at a2 a3
              exact ⟨k + 2, D - 1, by go_num, by go_num, by omega, by omega, .inr ⟨by omega, a2, by rw [a3]; simp only; omega⟩⟩
            case measure => simp [intOf]; omega
      · obtain ⟨g1, g2⟩ := hasB_yes ho
        have z1 : sz ((bs s).drop k) = 1 := sz_cc (by omega) (by omega)
        have z2 : sz ((bs s).drop (k + 1)) = 1 := sz_cc (by omega) (by omega)
        have e1 := nx_at z1
        have e2 := nx_at z2
        have hk2 : k + 1 < s.size := lt_of_cc g2 (by omega)
        have HN := hide (nest_open (deep := D) g1 (by rw [e1]; exact g2))
        rw [e1, e2, show k + 1 + 1 = k + 2 from rfl] at HN
        clear g1 g2 e1 e2 z1 z2
        go_wp2_with fail
        refine (has_open s k _ hlt hs).mono ?_
        rintro e w' ⟨rfl, rfl⟩
        go_wp2_with fail
        refine (has_shut s k _ hlt hs).mono ?_
        rintro e w' ⟨rfl, rfl⟩
        go_wp2_with fail
        go_round
        case rel =>
          refine ⟨k + 2, D + 1, by go_num, by go_num, by omega, by omega, .inr ?_⟩
          rcases hI with ⟨rfl, rfl⟩ | HI
          · exact ⟨by omega, rfl, rfl⟩
          · obtain ⟨a1, a2, a3⟩ := HI.out
            rw [HN.out] at a2 a3
            exact ⟨by omega, a2, by rw [a3]; simp only; omega⟩
        case measure => simp [intOf]; omega
    · rcases hI with ⟨rfl, rfl⟩ | HI
      · omega
      have hke : k = s.size := by omega
      have HE : Hid ((bs s).drop k = []) := by show _ = _; rw [List.drop_eq_nil_iff, bs_len]; omega
      go_wp2_with fail
      go_ret2
      obtain ⟨a1, a2, a3⟩ := HI.out
      rw [HE.out, nest_end] at a2 a3
      exact ⟨ret_ib (by simp only at a3; omega) (by rw [a2]; rfl), rfl⟩
end Go.Proofs.YtbhcniemkjoflaaDoor
/- The document's own reading of what a \ takes. -/
namespace Go.Proofs.YtbhcniemkjoflaaDoor
open Go.RowKit
open M

/-- What stands for something else behind a \: the character, and how many bytes with the \; none: 0 and 0. -/
def esc (u : List UInt8) : Int × Nat := if (taken u).2.1 then ((taken u).1, 1 + (taken u).2.2) else (0, 0)
theorem ret_ii {a a' b b' : Int} (h : a = a') (k : b = b') : Ending.returned (.tuple #[.int .i64 a, .int .i64 b]) = .returned (.tuple #[.int .i64 a', .int .i64 b']) := by rw [h, k]
theorem taken_plain {u : List UInt8} (h1 : cc u ≠ 110) (h2 : cc u ≠ 116) (h3 : cc u ≠ 34) (h4 : cc u ≠ 92) (h5 : cc u ≠ 117) : esc u = (0, 0) := by
  have : (taken u).2.1 = false := by
    unfold taken
    by_cases h : cc u = -1 ∨ cc u = 10
    · rw [if_pos h]
    · rw [if_neg h, if_neg h1, if_neg h2, if_neg (by omega), if_neg h5]
  unfold esc; rw [this]; rfl
theorem esc_u {s : ByteArray} {p j : Nat} {C : Int} (h1 : cc ((bs s).drop (p + 1)) = 117) (h2 : cc ((bs s).drop (p + 2)) = 123) (h3 : hexs 6 0 ((bs s).drop (p + 3)) = (C, j)) :
    esc ((bs s).drop (p + 1)) = if j = 0 ∨ cc ((bs s).drop (p + 3 + j)) ≠ 125 then (0, 0) else if Lib.validRune C then (C, j + 4) else (0, 0) := by
  have z1 : sz ((bs s).drop (p + 1)) = 1 := sz_cc (by omega) (by omega)
  have z2 : sz ((bs s).drop (p + 2)) = 1 := sz_cc (by omega) (by omega)
  have e1 : nx ((bs s).drop (p + 1)) = (bs s).drop (p + 2) := nx_at z1
  have e2 : nx ((bs s).drop (p + 2)) = (bs s).drop (p + 3) := nx_at z2
  have et : taken ((bs s).drop (p + 1)) = ((code ((bs s).drop (p + 2))).1, (code ((bs s).drop (p + 2))).2.1, 1 + (code ((bs s).drop (p + 2))).2.2) := by
    unfold taken; rw [if_neg (by omega), if_neg (by omega), if_neg (by omega), if_neg (by omega), if_pos h1, e1]
  have ec : code ((bs s).drop (p + 2)) = if j = 0 ∨ cc ((bs s).drop (p + 3 + j)) ≠ 125 then (0, false, 1 + j) else (C, Lib.validRune C, 2 + j) := by
    unfold code; rw [if_pos h2, e2, h3]; simp only [List.drop_drop]
  unfold esc
  rw [et, ec]
  by_cases g : j = 0 ∨ cc ((bs s).drop (p + 3 + j)) ≠ 125
  · rw [if_pos g, if_pos g]; rfl
  · rw [if_neg g, if_neg g]
    simp only
    cases Lib.validRune C
    · rfl
    · simp only [if_true, Prod.mk.injEq, true_and]; omega
theorem esc_u0 {s : ByteArray} {p : Nat} (h1 : cc ((bs s).drop (p + 1)) = 117) (h2 : cc ((bs s).drop (p + 2)) ≠ 123) : esc ((bs s).drop (p + 1)) = (0, 0) := by
  have z1 : sz ((bs s).drop (p + 1)) = 1 := sz_cc (by omega) (by omega)
  have e1 : nx ((bs s).drop (p + 1)) = (bs s).drop (p + 2) := nx_at z1
  have ec : code ((bs s).drop (p + 2)) = (0, false, 0) := by unfold code; rw [if_neg h2]
  have et : taken ((bs s).drop (p + 1)) = (0, false, 1) := by
    unfold taken; rw [if_neg (by omega), if_neg (by omega), if_neg (by omega), if_neg (by omega), if_pos h1, e1, ec]; rfl
  unfold esc; rw [et]; rfl
/-- A digit of sixteen, by its byte. -/
theorem hex_byte {s : ByteArray} {k : Nat} (h : k < s.size) : hexOf ((s[k]'h).toNat : Int) = hexOf (cc ((bs s).drop k)) := by
  by_cases h1 : (s[k]'h).toNat < 128
  · rw [(byte_lo h h1).1]
  · have h2 := byte_hi h (by omega)
    have e1 : hexOf (cc ((bs s).drop k)) = -1 := by
      rcases Int.lt_or_le (hexOf (cc ((bs s).drop k))) 0 with g | g
      · have := (hexOf_lt (cc ((bs s).drop k))).1; omega
      · have := hexOf_ascii g; omega
    have e2 : hexOf ((s[k]'h).toNat : Int) = -1 := by
      rcases Int.lt_or_le (hexOf ((s[k]'h).toNat : Int)) 0 with g | g
      · have := (hexOf_lt ((s[k]'h).toNat : Int)).1; omega
      · have := hexOf_ascii g; omega
    rw [e1, e2]

/-- Where the document's loop over digits of sixteen stands. -/
structure InEsc (s : ByteArray) (p j : Nat) (C : Int) : Prop where
  lo : 0 ≤ C
  hi : C < ((16 ^ j : Nat) : Int)
  eq : hexs 6 0 ((bs s).drop p) = ((hexs (6 - j) C ((bs s).drop (p + j))).1, j + (hexs (6 - j) C ((bs s).drop (p + j))).2)
theorem InEsc.stop {s : ByteArray} {p j : Nat} {C : Int} (h : InEsc s p j C) (hj : j ≤ 6) (hx : ¬ (j < 6 ∧ 0 ≤ hexOf (cc ((bs s).drop (p + j))))) : hexs 6 0 ((bs s).drop p) = (C, j) := by
  rw [h.eq]
  by_cases h6 : j < 6
  · obtain ⟨m, hm⟩ : ∃ m, 6 - j = m + 1 := ⟨5 - j, by omega⟩
    rw [hm]; unfold hexs; rw [if_neg (fun h => hx ⟨h6, h⟩)]; rfl
  · have : 6 - j = 0 := by omega
    rw [this]; rfl
theorem InEsc.next {s : ByteArray} {p j : Nat} {C : Int} (h : InEsc s p j C) (hj : j < 6) (hx : 0 ≤ hexOf (cc ((bs s).drop (p + j)))) : InEsc s p (j + 1) (C * 16 + hexOf (cc ((bs s).drop (p + j)))) := by
  have hh := hexOf_lt (cc ((bs s).drop (p + j)))
  have h0 := h.lo
  refine ⟨by omega, pow16' h.hi hh.2, ?_⟩
  rw [h.eq]
  obtain ⟨m, hm⟩ : ∃ m, 6 - j = m + 1 := ⟨5 - j, by omega⟩
  have hm2 : 6 - (j + 1) = m := by omega
  have ha := hexOf_ascii hx
  have z1 : sz ((bs s).drop (p + j)) = 1 := sz_cc (by omega) (by omega)
  rw [hm, hm2, show p + (j + 1) = p + j + 1 from rfl]
  conv => lhs; unfold hexs
  rw [if_pos hx, nx_drop, z1]
  simp only [Prod.mk.injEq]
  exact ⟨trivial, by omega⟩
end Go.Proofs.YtbhcniemkjoflaaDoor
