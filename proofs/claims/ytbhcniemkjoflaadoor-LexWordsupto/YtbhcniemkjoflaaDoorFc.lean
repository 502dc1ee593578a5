/- The document's own tokens: names and words. -/
import Derived.Test.YtbhcniemkjoflaaDoorEg
import Derived.Test.YtbhcniemkjoflaaDoorWd
import Derived.Test.YtbhcniemkjoflaaDoorFb
namespace Go.Proofs.YtbhcniemkjoflaaDoor
open Go.RowKit
open M

def wk (l : List UInt8) : Nat := if wordB l then 4 else 3
def Blk3T (w : World) (b : Nat) (x0 x1 x2 : Value) : Prop := w.heap[b]? = some (.cells #[x0, x1, x2] 53 (0, 0))
theorem Blk3T.new (w : World) (x0 x1 x2 : Value) : Blk3T (w.alloc (.cells #[x0, x1, x2] 53)) w.heap.size x0 x1 x2 := by
  show (w.heap.push _)[w.heap.size]? = _
  simp
theorem Blk3T.facts {w : World} {b : Nat} {x0 x1 x2 : Value} (h : Blk3T w b x0 x1 x2) :
    (w.cell? ⟨b, 0, none⟩ = some x0 ∧ w.cell? ⟨b, 1, none⟩ = some x1 ∧ w.cell? ⟨b, 2, none⟩ = some x2) ∧
    (w.frozen? ⟨b, 0, none⟩ = false ∧ w.frozen? ⟨b, 1, none⟩ = false ∧ w.frozen? ⟨b, 2, none⟩ = false) := by
  unfold Blk3T at h
  refine ⟨⟨?_, ?_, ?_⟩, ?_, ?_, ?_⟩ <;> simp [World.cell?, World.frozen?, h]
theorem isNm_first {t : List UInt8} (h : t ≠ []) (hl : isLt (cc t) = true) : skip isNm t = sz t + skip isNm (nx t) := skip_yes h (by unfold isNm; rw [hl]; rfl)

set_option maxRecDepth 100000 in
set_option maxHeartbeats 8000000 in
theorem one_name (s : ByteArray) (p : Nat) (w : World) (hs : s.size ≤ 1073741824) (hp : p < s.size) (hlt : isLt (cc ((bs s).drop p)) = true) :
    Calls Tryd.prog 27 #[.string s, .int .i64 p] w fun e w' => e = .returned (.agg #[.int .i64 (wk (((bs s).drop p).take (skip isNm ((bs s).drop p))) : Nat), .int .i64 p, .int .i64 (skip isNm ((bs s).drop p) : Nat)]) ∧ Below w.heap.size w w' := by
  have b9 : (cc ((bs s).drop p) == 9) = false := by simp; intro e; rw [e] at hlt; revert hlt; decide
  have b10 : (cc ((bs s).drop p) == 10) = false := by simp; intro e; rw [e] at hlt; revert hlt; decide
  have b13 : (cc ((bs s).drop p) == 13) = false := by simp; intro e; rw [e] at hlt; revert hlt; decide
  have b32 : (cc ((bs s).drop p) == 32) = false := by simp; intro e; rw [e] at hlt; revert hlt; decide
  have hh : hasB s p 123 45 = false := hasB_not (fun e => by rw [e] at hlt; revert hlt; decide)
  have hh0 : hasB s p 45 45 = false := hasB_not (fun e => by rw [e] at hlt; revert hlt; decide)
  go_enter Tryd.func27, Tryd.ntmps27
  go_wp2_with fail
  refine (refRune_at s p _ hp).mono ?_
  rintro e w' ⟨rfl, rfl⟩
  go_wp2_with fail
  refine (refLetter_any _ _).mono ?_
  rintro e w' ⟨rfl, rfl⟩
  go_wp2_with fail
  refine (has_45_45 s p _ hp hs).mono ?_
  rintro e w' ⟨rfl, rfl⟩
  go_wp2_with fail
  refine (has_123_45 s p _ hp hs).mono ?_
  rintro e w' ⟨rfl, rfl⟩
  go_wp2_with fail
  rename_i w'
  go_loop [8] (fun i => ∃ k : Nat, i = .int .i64 k ∧ p ≤ k ∧ k ≤ s.size ∧ Hid (p + skip isNm ((bs s).drop p) = k + skip isNm ((bs s).drop k))) (fun i => s.size - (intOf i).toNat)
  case atStart => exact ⟨p, rfl, Nat.le_refl _, by omega, rfl⟩
  case round =>
    obtain ⟨k, rfl, hpk, hk, HI⟩ := hrel
    have fin : Hid (skip isNm ((bs s).drop k) = 0 → wordB (((bs s).drop p).take (skip isNm ((bs s).drop p))) = wordB (bs (s.extract p k)) ∧ ((k : Int) - (p : Int)) = ((skip isNm ((bs s).drop p) : Nat) : Int)) := by
      show _ → _
      intro h0
      have h := HI.out
      rw [h0] at h
      refine ⟨?_, by omega⟩
      rw [bs_cut, List.drop_take, show k - p = skip isNm ((bs s).drop p) by omega]
    by_cases hk1 : k < s.size
    case neg =>
      have HE : Hid (skip isNm ((bs s).drop k) = 0) := by show _ = _; rw [show (bs s).drop k = [] by rw [List.drop_eq_nil_iff, bs_len]; omega, skip_nil]
      go_wp2_with fail
      refine (refWord_any _ _).mono ?_
      rintro e w2 ⟨rfl, k2⟩
      obtain ⟨hw, hlen⟩ := (fin.out) HE.out
      have HW := hide hw
      have HLEN := hide hlen
      have g0 : Blk3T w2 w.heap.size (.int .i64 0) (.int .i64 0) (.int .i64 0) := Kp.heap (S := fun _ => False) (Kp.ofBelow k2 _) (Blk3T.new w _ _ _) id
      obtain ⟨⟨x0, x1, x2⟩, y0, y1, y2⟩ := g0.facts
      have BB : Below w.heap.size w w2 := ((Below.refl _ w).alloc (Nat.le_refl _) _).trans (k2.mono (by simp))
      have HB := hide BB
      clear BB k2 g0 hw hlen
      generalize hwd : wordB (bs (s.extract p k)) = wb
      have HV := hide hwd
      clear hwd
      cases wb
      · go_wp2_with fail
        exact bodyPost_ret (v := .agg #[.int .i64 3, .int .i64 p, .int .i64 ((k : Int) - (p : Int))]) (by simp [results, Tryd.results27, go_sem, x0, x1, x2]) rfl ⟨ret_tk (by unfold wk; rw [HW.out, HV.out]; rfl) rfl HLEN.out, (((HB.out).setCell (p := ⟨w.heap.size, 0, none⟩) (Nat.le_refl _) _).setCell (p := ⟨w.heap.size, 1, none⟩) (Nat.le_refl _) _).setCell (p := ⟨w.heap.size, 2, none⟩) (Nat.le_refl _) _⟩
      · go_wp2_with fail
        exact bodyPost_ret (v := .agg #[.int .i64 4, .int .i64 p, .int .i64 ((k : Int) - (p : Int))]) (by simp [results, Tryd.results27, go_sem, x0, x1, x2]) rfl ⟨ret_tk (by unfold wk; rw [HW.out, HV.out]; rfl) rfl HLEN.out, (((HB.out).setCell (p := ⟨w.heap.size, 0, none⟩) (Nat.le_refl _) _).setCell (p := ⟨w.heap.size, 1, none⟩) (Nat.le_refl _) _).setCell (p := ⟨w.heap.size, 2, none⟩) (Nat.le_refl _) _⟩
    have i1 : (k : Int) < (s.size : Int) := by omega
    have hz4 := sz_le4 ((bs s).drop k)
    have HZ := hide (sz_drop_le (s := s) (p := k) (by omega))
    have hz1 := sz_pos (drop_ne hk1)
    cases hl : isLt (cc ((bs s).drop k))
    · by_cases h48 : cc ((bs s).drop k) < 48
      · have HE : Hid (skip isNm ((bs s).drop k) = 0) := skip_no (by unfold isNm isDg; rw [hl]; simp; omega)
        have j48 : decide (cc ((bs s).drop k) < 48) = true := by simpa using h48
        go_wp2_with fail
        refine (refRune_at s k _ hk1).mono ?_
        rintro e w'' ⟨rfl, rfl⟩
        go_wp2_with fail
        refine (refLetter_any _ _).mono ?_
        rintro e w'' ⟨rfl, rfl⟩
        go_wp2_with fail
        refine (refWord_any _ _).mono ?_
        rintro e w2 ⟨rfl, k2⟩
        obtain ⟨hw, hlen⟩ := (fin.out) HE.out
        have HW := hide hw
        have HLEN := hide hlen
        have g0 : Blk3T w2 w.heap.size (.int .i64 0) (.int .i64 0) (.int .i64 0) := Kp.heap (S := fun _ => False) (Kp.ofBelow k2 _) (Blk3T.new w _ _ _) id
        obtain ⟨⟨x0, x1, x2⟩, y0, y1, y2⟩ := g0.facts
        have BB : Below w.heap.size w w2 := ((Below.refl _ w).alloc (Nat.le_refl _) _).trans (k2.mono (by simp))
        have HB := hide BB
        clear BB k2 g0 hw hlen
        generalize hwd : wordB (bs (s.extract p k)) = wb
        have HV := hide hwd
        clear hwd
        cases wb
        · go_wp2_with fail
          exact bodyPost_ret (v := .agg #[.int .i64 3, .int .i64 p, .int .i64 ((k : Int) - (p : Int))]) (by simp [results, Tryd.results27, go_sem, x0, x1, x2]) rfl ⟨ret_tk (by unfold wk; rw [HW.out, HV.out]; rfl) rfl HLEN.out, (((HB.out).setCell (p := ⟨w.heap.size, 0, none⟩) (Nat.le_refl _) _).setCell (p := ⟨w.heap.size, 1, none⟩) (Nat.le_refl _) _).setCell (p := ⟨w.heap.size, 2, none⟩) (Nat.le_refl _) _⟩
        · go_wp2_with fail
          exact bodyPost_ret (v := .agg #[.int .i64 4, .int .i64 p, .int .i64 ((k : Int) - (p : Int))]) (by simp [results, Tryd.results27, go_sem, x0, x1, x2]) rfl ⟨ret_tk (by unfold wk; rw [HW.out, HV.out]; rfl) rfl HLEN.out, (((HB.out).setCell (p := ⟨w.heap.size, 0, none⟩) (Nat.le_refl _) _).setCell (p := ⟨w.heap.size, 1, none⟩) (Nat.le_refl _) _).setCell (p := ⟨w.heap.size, 2, none⟩) (Nat.le_refl _) _⟩
      · have j48 : decide (cc ((bs s).drop k) < 48) = false := by simpa using h48
        by_cases h57 : 57 < cc ((bs s).drop k)
        · have HE : Hid (skip isNm ((bs s).drop k) = 0) := skip_no (by unfold isNm isDg; rw [hl]; simp; omega)
          have j57 : decide (57 < cc ((bs s).drop k)) = true := by simpa using h57
          go_wp2_with fail
          refine (refRune_at s k _ hk1).mono ?_
          rintro e w'' ⟨rfl, rfl⟩
          go_wp2_with fail
          refine (refLetter_any _ _).mono ?_
          rintro e w'' ⟨rfl, rfl⟩
          go_wp2_with fail
          refine (refWord_any _ _).mono ?_
          rintro e w2 ⟨rfl, k2⟩
          obtain ⟨hw, hlen⟩ := (fin.out) HE.out
          have HW := hide hw
          have HLEN := hide hlen
          have g0 : Blk3T w2 w.heap.size (.int .i64 0) (.int .i64 0) (.int .i64 0) := Kp.heap (S := fun _ => False) (Kp.ofBelow k2 _) (Blk3T.new w _ _ _) id
          obtain ⟨⟨x0, x1, x2⟩, y0, y1, y2⟩ := g0.facts
          have BB : Below w.heap.size w w2 := ((Below.refl _ w).alloc (Nat.le_refl _) _).trans (k2.mono (by simp))
          have HB := hide BB
          clear BB k2 g0 hw hlen
          generalize hwd : wordB (bs (s.extract p k)) = wb
          have HV := hide hwd
          clear hwd
          cases wb
          · go_wp2_with fail
            exact bodyPost_ret (v := .agg #[.int .i64 3, .int .i64 p, .int .i64 ((k : Int) - (p : Int))]) (by simp [results, Tryd.results27, go_sem, x0, x1, x2]) rfl ⟨ret_tk (by unfold wk; rw [HW.out, HV.out]; rfl) rfl HLEN.out, (((HB.out).setCell (p := ⟨w.heap.size, 0, none⟩) (Nat.le_refl _) _).setCell (p := ⟨w.heap.size, 1, none⟩) (Nat.le_refl _) _).setCell (p := ⟨w.heap.size, 2, none⟩) (Nat.le_refl _) _⟩
          · go_wp2_with fail
            exact bodyPost_ret (v := .agg #[.int .i64 4, .int .i64 p, .int .i64 ((k : Int) - (p : Int))]) (by simp [results, Tryd.results27, go_sem, x0, x1, x2]) rfl ⟨ret_tk (by unfold wk; rw [HW.out, HV.out]; rfl) rfl HLEN.out, (((HB.out).setCell (p := ⟨w.heap.size, 0, none⟩) (Nat.le_refl _) _).setCell (p := ⟨w.heap.size, 1, none⟩) (Nat.le_refl _) _).setCell (p := ⟨w.heap.size, 2, none⟩) (Nat.le_refl _) _⟩
        · have j57 : decide (57 < cc ((bs s).drop k)) = false := by simpa using h57
          have HN := hide (skip_yes (p := isNm) (drop_ne hk1) (by unfold isNm isDg; rw [hl]; simp; omega))
          go_wp2_with fail
          refine (refRune_at s k _ hk1).mono ?_
          rintro e w'' ⟨rfl, rfl⟩
          go_wp2_with fail
          refine (refLetter_any _ _).mono ?_
          rintro e w'' ⟨rfl, rfl⟩
          go_wp2_with fail
          go_round
          case rel => have h := HI.out; rw [HN.out, nx_drop (bs s) k] at h; exact ⟨k + sz ((bs s).drop k), by go_num, by omega, HZ.out, by show _ = _; omega⟩
          case measure => simp [intOf]; omega
    · have HN := hide (skip_yes (p := isNm) (drop_ne hk1) (by unfold isNm; rw [hl]; rfl))
      go_wp2_with fail
      refine (refRune_at s k _ hk1).mono ?_
      rintro e w'' ⟨rfl, rfl⟩
      go_wp2_with fail
      refine (refLetter_any _ _).mono ?_
      rintro e w'' ⟨rfl, rfl⟩
      go_wp2_with fail
      go_round
      case rel => have h := HI.out; rw [HN.out, nx_drop (bs s) k] at h; exact ⟨k + sz ((bs s).drop k), by go_num, by omega, HZ.out, by show _ = _; omega⟩
      case measure => simp [intOf]; omega
end Go.Proofs.YtbhcniemkjoflaaDoor
