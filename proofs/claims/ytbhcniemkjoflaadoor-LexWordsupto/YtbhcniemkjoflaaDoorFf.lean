/- The document's own tokens: signs of one character, and what is bad. -/
import Derived.Test.YtbhcniemkjoflaaDoorFb
namespace Go.Proofs.YtbhcniemkjoflaaDoor
open Go.RowKit
open M

def sgl : List Int := [40, 41, 91, 93, 44, 59, 61, 60, 43, 45, 42, 46, 63]
theorem sgl_at : ∀ k : Fin 13, (((⟨#[40, 41, 91, 93, 44, 59, 61, 60, 43, 45, 42, 46, 63]⟩ : ByteArray)[k.val]'k.isLt).toNat : Int) = sgl[k.val]'k.isLt := by decide
theorem sgl_le : ∀ k : Fin 13, 0 ≤ sgl[k.val]'k.isLt ∧ sgl[k.val]'k.isLt ≤ 100 := by decide
theorem sgl_wrap (k : Fin 13) : wrap64 (sgl[k.val]'k.isLt) = sgl[k.val]'k.isLt := by
  have := sgl_le k
  simp only [wrap64]; omega
theorem sg_yes {c : Int} {k : Nat} (h : k < 13) (hc : sgl[k]'h = c) : isSg c = true := by
  unfold isSg; refine decide_eq_true ?_
  show c ∈ sgl
  rw [← hc]; exact List.getElem_mem _
theorem sg_no {c : Int} (h : ∀ (k : Nat) (h : k < 13), sgl[k]'h ≠ c) : isSg c = false := by
  unfold isSg; refine decide_eq_false ?_
  show ¬ c ∈ sgl
  intro hm
  obtain ⟨k, hk, e⟩ := List.getElem_of_mem hm
  exact h k hk e

set_option maxRecDepth 100000 in
set_option maxHeartbeats 8000000 in
theorem one_sign (s : ByteArray) (p : Nat) (w : World) (hs : s.size ≤ 1073741824) (hp : p < s.size) (hsp : isSp (cc ((bs s).drop p)) = false) (hlt : isLt (cc ((bs s).drop p)) = false) (hdg : isDg (cc ((bs s).drop p)) = false) (hq : cc ((bs s).drop p) ≠ 34) (hsg : isSg (cc ((bs s).drop p)) = true) (hh : hasB s p 123 45 = false) (hh0 : hasB s p 45 45 = false) (h1 : hasB s p 61 62 = false) (h2 : hasB s p 61 61 = false) (h3 : hasB s p 43 43 = false) :
    Calls Tryd.prog 27 #[.string s, .int .i64 p] w fun e w' => e = .returned (.agg #[.int .i64 7, .int .i64 p, .int .i64 (1 : Nat)]) ∧ Below w.heap.size w w' := by
  have hsp' : ¬ (cc ((bs s).drop p) = 32 ∨ cc ((bs s).drop p) = 10 ∨ cc ((bs s).drop p) = 9 ∨ cc ((bs s).drop p) = 13) := by unfold isSp at hsp; exact of_decide_eq_false hsp
  have hdg' : ¬ (48 ≤ cc ((bs s).drop p) ∧ cc ((bs s).drop p) ≤ 57) := by unfold isDg at hdg; exact of_decide_eq_false hdg
  have b9 : (cc ((bs s).drop p) == 9) = false := by simp; omega
  have b10 : (cc ((bs s).drop p) == 10) = false := by simp; omega
  have b13 : (cc ((bs s).drop p) == 13) = false := by simp; omega
  have b32 : (cc ((bs s).drop p) == 32) = false := by simp; omega
  have b34 : (cc ((bs s).drop p) == 34) = false := by simpa using hq
  have hdd : decide (48 ≤ cc ((bs s).drop p)) = false ∨ (decide (48 ≤ cc ((bs s).drop p)) = true ∧ decide (cc ((bs s).drop p) ≤ 57) = false) := by
    by_cases g : 48 ≤ cc ((bs s).drop p)
    · exact .inr ⟨by simpa using g, by simp; omega⟩
    · exact .inl (by simpa using g)
  have HSG := hide hsg
  clear hsp' hdg' hq hsp hdg hsg
  have hz4 := sz_le4 ((bs s).drop p)
  rcases hdd with j1 | ⟨j1, j2⟩
  · skip
    go_enter Tryd.func27, Tryd.ntmps27
    go_wp2_with fail
    refine (refRune_at s p _ hp).mono ?_
    rintro e w' ⟨rfl, rfl⟩
    go_wp2_with fail
    refine (refLetter_any _ _).mono ?_
    rintro e w' ⟨rfl, rfl⟩
    go_wp2_with fail
    refine (has_45_45 s p _ hp hs).mono ?_
    rintro e w' ⟨rfl, rfl⟩
    go_wp2_with fail
    refine (has_123_45 s p _ hp hs).mono ?_
    rintro e w' ⟨rfl, rfl⟩
    go_wp2_with fail
    refine (has_61_62 s p _ hp hs).mono ?_
    rintro e w' ⟨rfl, rfl⟩
    go_wp2_with fail
    refine (has_61_61 s p _ hp hs).mono ?_
    rintro e w' ⟨rfl, rfl⟩
    go_wp2_with fail
    refine (has_43_43 s p _ hp hs).mono ?_
    rintro e w' ⟨rfl, rfl⟩
    go_wp2_with fail
    go_loop [23] (fun i => ∃ k : Nat, i = .int .i64 k ∧ k ≤ 13 ∧ Hid (∀ (m : Nat) (h : m < 13), m < k → sgl[m]'h ≠ cc ((bs s).drop p))) (fun i => 13 - (intOf i).toNat)
    case atStart => exact ⟨0, rfl, by omega, fun m _ h => by omega⟩
    case round =>
      obtain ⟨k, rfl, hk, HI⟩ := hrel
      by_cases hk1 : k < 13
      · have i1 : (k : Int) < 13 := by omega
        have hsz : k < (⟨#[40, 41, 91, 93, 44, 59, 61, 60, 43, 45, 42, 46, 63]⟩ : ByteArray).size := hk1
        have hv : (((⟨#[40, 41, 91, 93, 44, 59, 61, 60, 43, 45, 42, 46, 63]⟩ : ByteArray)[k]'hsz).toNat : Int) = sgl[k]'hk1 := sgl_at ⟨k, hk1⟩
        have hwr : wrap64 (sgl[k]'hk1) = sgl[k]'hk1 := sgl_wrap ⟨k, hk1⟩
        by_cases he : sgl[k]'hk1 = cc ((bs s).drop p)
        · have hb : (cc ((bs s).drop p) == wrap64 (sgl[k]'hk1)) = true := by rw [hwr, he]; simp
          clear hwr he
          go_wp2_with fail
          exact bodyPost_ret (v := .agg #[.int .i64 7, .int .i64 p, .int .i64 1]) (by simp [results, Tryd.results27, go_sem]) rfl ⟨rfl, (Below.refl _ _).alloc (Nat.le_refl _) _⟩
        · have hb : (cc ((bs s).drop p) == wrap64 (sgl[k]'hk1)) = false := by rw [hwr]; simp; exact fun e => he e.symm
          clear hwr
          have HEE := hide he
          clear he
          go_wp2_with fail
          go_round
          case rel =>
            refine ⟨k + 1, by go_num, by omega, fun m h hm => ?_⟩
            by_cases hmk : m < k
            · exact HI.out m h hmk
            · have : m = k := by omega
              subst this; exact HEE.out
          case measure => simp [intOf]; omega
      · exact absurd (sg_no (fun m h => HI.out m h (by omega))) (by rw [HSG.out]; simp)
  · skip
    go_enter Tryd.func27, Tryd.ntmps27
    go_wp2_with fail
    refine (refRune_at s p _ hp).mono ?_
    rintro e w' ⟨rfl, rfl⟩
    go_wp2_with fail
    refine (refLetter_any _ _).mono ?_
    rintro e w' ⟨rfl, rfl⟩
    go_wp2_with fail
    refine (has_45_45 s p _ hp hs).mono ?_
    rintro e w' ⟨rfl, rfl⟩
    go_wp2_with fail
    refine (has_123_45 s p _ hp hs).mono ?_
    rintro e w' ⟨rfl, rfl⟩
    go_wp2_with fail
    refine (has_61_62 s p _ hp hs).mono ?_
    rintro e w' ⟨rfl, rfl⟩
    go_wp2_with fail
    refine (has_61_61 s p _ hp hs).mono ?_
    rintro e w' ⟨rfl, rfl⟩
    go_wp2_with fail
    refine (has_43_43 s p _ hp hs).mono ?_
    rintro e w' ⟨rfl, rfl⟩
    go_wp2_with fail
    go_loop [23] (fun i => ∃ k : Nat, i = .int .i64 k ∧ k ≤ 13 ∧ Hid (∀ (m : Nat) (h : m < 13), m < k → sgl[m]'h ≠ cc ((bs s).drop p))) (fun i => 13 - (intOf i).toNat)
    case atStart => exact ⟨0, rfl, by omega, fun m _ h => by omega⟩
    case round =>
      obtain ⟨k, rfl, hk, HI⟩ := hrel
      by_cases hk1 : k < 13
      · have i1 : (k : Int) < 13 := by omega
        have hsz : k < (⟨#[40, 41, 91, 93, 44, 59, 61, 60, 43, 45, 42, 46, 63]⟩ : ByteArray).size := hk1
        have hv : (((⟨#[40, 41, 91, 93, 44, 59, 61, 60, 43, 45, 42, 46, 63]⟩ : ByteArray)[k]'hsz).toNat : Int) = sgl[k]'hk1 := sgl_at ⟨k, hk1⟩
        have hwr : wrap64 (sgl[k]'hk1) = sgl[k]'hk1 := sgl_wrap ⟨k, hk1⟩
        by_cases he : sgl[k]'hk1 = cc ((bs s).drop p)
        · have hb : (cc ((bs s).drop p) == wrap64 (sgl[k]'hk1)) = true := by rw [hwr, he]; simp
          clear hwr he
          go_wp2_with fail
          exact bodyPost_ret (v := .agg #[.int .i64 7, .int .i64 p, .int .i64 1]) (by simp [results, Tryd.results27, go_sem]) rfl ⟨rfl, (Below.refl _ _).alloc (Nat.le_refl _) _⟩
        · have hb : (cc ((bs s).drop p) == wrap64 (sgl[k]'hk1)) = false := by rw [hwr]; simp; exact fun e => he e.symm
          clear hwr
          have HEE := hide he
          clear he
          go_wp2_with fail
          go_round
          case rel =>
            refine ⟨k + 1, by go_num, by omega, fun m h hm => ?_⟩
            by_cases hmk : m < k
            · exact HI.out m h hmk
            · have : m = k := by omega
              subst this; exact HEE.out
          case measure => simp [intOf]; omega
      · exact absurd (sg_no (fun m h => HI.out m h (by omega))) (by rw [HSG.out]; simp)

set_option maxRecDepth 100000 in
set_option maxHeartbeats 8000000 in
theorem one_bad (s : ByteArray) (p : Nat) (w : World) (hs : s.size ≤ 1073741824) (hp : p < s.size) (hsp : isSp (cc ((bs s).drop p)) = false) (hlt : isLt (cc ((bs s).drop p)) = false) (hdg : isDg (cc ((bs s).drop p)) = false) (hq : cc ((bs s).drop p) ≠ 34) (hsg : isSg (cc ((bs s).drop p)) = false) (hh : hasB s p 123 45 = false) (hh0 : hasB s p 45 45 = false) (h1 : hasB s p 61 62 = false) (h2 : hasB s p 61 61 = false) (h3 : hasB s p 43 43 = false) :
    Calls Tryd.prog 27 #[.string s, .int .i64 p] w fun e w' => e = .returned (.agg #[.int .i64 8, .int .i64 p, .int .i64 (sz ((bs s).drop p) : Nat)]) ∧ Below w.heap.size w w' := by
  have hsp' : ¬ (cc ((bs s).drop p) = 32 ∨ cc ((bs s).drop p) = 10 ∨ cc ((bs s).drop p) = 9 ∨ cc ((bs s).drop p) = 13) := by unfold isSp at hsp; exact of_decide_eq_false hsp
  have hdg' : ¬ (48 ≤ cc ((bs s).drop p) ∧ cc ((bs s).drop p) ≤ 57) := by unfold isDg at hdg; exact of_decide_eq_false hdg
  have b9 : (cc ((bs s).drop p) == 9) = false := by simp; omega
  have b10 : (cc ((bs s).drop p) == 10) = false := by simp; omega
  have b13 : (cc ((bs s).drop p) == 13) = false := by simp; omega
  have b32 : (cc ((bs s).drop p) == 32) = false := by simp; omega
  have b34 : (cc ((bs s).drop p) == 34) = false := by simpa using hq
  have hdd : decide (48 ≤ cc ((bs s).drop p)) = false ∨ (decide (48 ≤ cc ((bs s).drop p)) = true ∧ decide (cc ((bs s).drop p) ≤ 57) = false) := by
    by_cases g : 48 ≤ cc ((bs s).drop p)
    · exact .inr ⟨by simpa using g, by simp; omega⟩
    · exact .inl (by simpa using g)
  have HSG := hide hsg
  clear hsp' hdg' hq hsp hdg hsg
  have hz4 := sz_le4 ((bs s).drop p)
  rcases hdd with j1 | ⟨j1, j2⟩
  · skip
    go_enter Tryd.func27, Tryd.ntmps27
    go_wp2_with fail
    refine (refRune_at s p _ hp).mono ?_
    rintro e w' ⟨rfl, rfl⟩
    go_wp2_with fail
    refine (refLetter_any _ _).mono ?_
    rintro e w' ⟨rfl, rfl⟩
    go_wp2_with fail
    refine (has_45_45 s p _ hp hs).mono ?_
    rintro e w' ⟨rfl, rfl⟩
    go_wp2_with fail
    refine (has_123_45 s p _ hp hs).mono ?_
    rintro e w' ⟨rfl, rfl⟩
    go_wp2_with fail
    refine (has_61_62 s p _ hp hs).mono ?_
    rintro e w' ⟨rfl, rfl⟩
    go_wp2_with fail
    refine (has_61_61 s p _ hp hs).mono ?_
    rintro e w' ⟨rfl, rfl⟩
    go_wp2_with fail
    refine (has_43_43 s p _ hp hs).mono ?_
    rintro e w' ⟨rfl, rfl⟩
    go_wp2_with fail
    go_loop [23] (fun i => ∃ k : Nat, i = .int .i64 k ∧ k ≤ 13 ∧ Hid (∀ (m : Nat) (h : m < 13), m < k → sgl[m]'h ≠ cc ((bs s).drop p))) (fun i => 13 - (intOf i).toNat)
    case atStart => exact ⟨0, rfl, by omega, fun m _ h => by omega⟩
    case round =>
      obtain ⟨k, rfl, hk, HI⟩ := hrel
      by_cases hk1 : k < 13
      · have i1 : (k : Int) < 13 := by omega
        have hsz : k < (⟨#[40, 41, 91, 93, 44, 59, 61, 60, 43, 45, 42, 46, 63]⟩ : ByteArray).size := hk1
        have hv : (((⟨#[40, 41, 91, 93, 44, 59, 61, 60, 43, 45, 42, 46, 63]⟩ : ByteArray)[k]'hsz).toNat : Int) = sgl[k]'hk1 := sgl_at ⟨k, hk1⟩
        have hwr : wrap64 (sgl[k]'hk1) = sgl[k]'hk1 := sgl_wrap ⟨k, hk1⟩
        by_cases he : sgl[k]'hk1 = cc ((bs s).drop p)
        · exact absurd (sg_yes hk1 he) (by rw [HSG.out]; simp)
        · have hb : (cc ((bs s).drop p) == wrap64 (sgl[k]'hk1)) = false := by rw [hwr]; simp; exact fun e => he e.symm
          clear hwr
          have HEE := hide he
          clear he
          go_wp2_with fail
          go_round
          case rel =>
            refine ⟨k + 1, by go_num, by omega, fun m h hm => ?_⟩
            by_cases hmk : m < k
            · exact HI.out m h hmk
            · have : m = k := by omega
              subst this; exact HEE.out
          case measure => simp [intOf]; omega
      · go_wp2_with fail
        exact bodyPost_ret (v := .agg #[.int .i64 8, .int .i64 p, .int .i64 (sz ((bs s).drop p))]) (by simp [results, Tryd.results27, go_sem]) rfl ⟨rfl, (Below.refl _ _).alloc (Nat.le_refl _) _⟩
  · skip
    go_enter Tryd.func27, Tryd.ntmps27
    go_wp2_with fail
    refine (refRune_at s p _ hp).mono ?_
    rintro e w' ⟨rfl, rfl⟩
    go_wp2_with fail
    refine (refLetter_any _ _).mono ?_
    rintro e w' ⟨rfl, rfl⟩
    go_wp2_with fail
    refine (has_45_45 s p _ hp hs).mono ?_
    rintro e w' ⟨rfl, rfl⟩
    go_wp2_with fail
    refine (has_123_45 s p _ hp hs).mono ?_
    rintro e w' ⟨rfl, rfl⟩
    go_wp2_with fail
    refine (has_61_62 s p _ hp hs).mono ?_
    rintro e w' ⟨rfl, rfl⟩
    go_wp2_with fail
    refine (has_61_61 s p _ hp hs).mono ?_
    rintro e w' ⟨rfl, rfl⟩
    go_wp2_with fail
    refine (has_43_43 s p _ hp hs).mono ?_
    rintro e w' ⟨rfl, rfl⟩
    go_wp2_with fail
    go_loop [23] (fun i => ∃ k : Nat, i = .int .i64 k ∧ k ≤ 13 ∧ Hid (∀ (m : Nat) (h : m < 13), m < k → sgl[m]'h ≠ cc ((bs s).drop p))) (fun i => 13 - (intOf i).toNat)
    case atStart => exact ⟨0, rfl, by omega, fun m _ h => by omega⟩
    case round =>
      obtain ⟨k, rfl, hk, HI⟩ := hrel
      by_cases hk1 : k < 13
      · have i1 : (k : Int) < 13 := by omega
        have hsz : k < (⟨#[40, 41, 91, 93, 44, 59, 61, 60, 43, 45, 42, 46, 63]⟩ : ByteArray).size := hk1
        have hv : (((⟨#[40, 41, 91, 93, 44, 59, 61, 60, 43, 45, 42, 46, 63]⟩ : ByteArray)[k]'hsz).toNat : Int) = sgl[k]'hk1 := sgl_at ⟨k, hk1⟩
        have hwr : wrap64 (sgl[k]'hk1) = sgl[k]'hk1 := sgl_wrap ⟨k, hk1⟩
        by_cases he : sgl[k]'hk1 = cc ((bs s).drop p)
        · exact absurd (sg_yes hk1 he) (by rw [HSG.out]; simp)
        · have hb : (cc ((bs s).drop p) == wrap64 (sgl[k]'hk1)) = false := by rw [hwr]; simp; exact fun e => he e.symm
          clear hwr
          have HEE := hide he
          clear he
          go_wp2_with fail
          go_round
          case rel =>
            refine ⟨k + 1, by go_num, by omega, fun m h hm => ?_⟩
            by_cases hmk : m < k
            · exact HI.out m h hmk
            · have : m = k := by omega
              subst this; exact HEE.out
          case measure => simp [intOf]; omega
      · go_wp2_with fail
        exact bodyPost_ret (v := .agg #[.int .i64 8, .int .i64 p, .int .i64 (sz ((bs s).drop p))]) (by simp [results, Tryd.results27, go_sem]) rfl ⟨rfl, (Below.refl _ _).alloc (Nat.le_refl _) _⟩
end Go.Proofs.YtbhcniemkjoflaaDoor
