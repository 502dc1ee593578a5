/- A Reader of frames: a line's end, and bodies. -/
import Derived.Test.YtcibflndpckkkaaDoorWnc
import Derived.Test.YtcibflndpckkkaaDoorWmd
namespace Go.Proofs.YtcibflndpckkkaaDoor
open Go.RowKit
open Wi
variable {w w' : World} {B : Nat} {lv : Value} {line : List UInt8} {told : Bool} {len : Int} {inB : Bool} {p bv : Value} {body : List UInt8} {wv : Value}

theorem sLen_eq (l : List UInt8) : ((ba l).toList == [67, 111, 110, 116, 101, 110, 116, 45, 76, 101, 110, 103, 116, 104]) = decide (l = sLen) := by
  rw [Lib.toList_data, Bool.eq_iff_iff, beq_iff_eq, decide_eq_true_iff]
  exact Iff.rfl
set_option maxRecDepth 100000 in
set_option maxHeartbeats 2000000 in
theorem endLine_any {size : Int} (a : List UInt8) (ha : a.length ≤ 1073741824) (h : IsRd w B (.line [] size)) :
    Calls Tryd.prog 43 #[.pointer (some ⟨B, 0, none⟩), .string (ba a)] w fun e w' => e = .returned (.tuple #[]) ∧ IsRd w' B (endSta a size) ∧ Fk B w w' := by
  by_cases h0 : a = []
  · subst h0
    have HE := hide (endLines_any h)
    have j0 : (ba []).toList.isEmpty = true := by rw [Lib.toList_data]; rfl
    have j0' : (ba []).toList = [] := by rw [Lib.toList_data]; rfl
    clear h
    go_enter Tryd.func43, Tryd.ntmps43
    go_wp2_with fail
    refine (HE.out).mono ?_
    rintro e w2 ⟨rfl, h2, k2⟩
    go_wp2_with fail
    first | go_end0 | refine bodyPost_ret (results_none rfl _ _ _) rfl ?_
    exact ⟨rfl, h2, k2⟩
  have j0 : (ba a).toList.isEmpty = false := by rw [Lib.toList_data]; cases a with | nil => exact absurd rfl h0 | cons x y => rfl
  have j0' : ¬ (ba a).toList = [] := by rw [Lib.toList_data]; exact h0
  have HC := hide (cut_any a ha w)
  obtain ⟨Q, hQ⟩ : ∃ Q, endSta a size = Q := ⟨_, rfl⟩
  rw [hQ]
  have HQ : Hid (Q = if lenOf a = -2 then .bad 3 else .line [] (if 0 ≤ lenOf a then lenOf a else size)) := by
    show _ = _; rw [← hQ]; unfold endSta; rw [if_neg h0]
  have HLO := hide (lenOf_cut (a := a))
  have hbl : (cutB a).length ≤ 1073741824 := by
    unfold cutB
    have : (a.dropWhile notColon).length ≤ a.length := (List.dropWhile_sublist _).length_le
    simp; omega
  have HLR := hide (fun W => lengthOf_any (cutB a) hbl W)
  have hcb : cutC a = false → cutB a = [] := by
    intro e
    have : a.dropWhile notColon = [] := by simpa [cutC] using e
    unfold cutB; rw [this]; rfl
  have HCB := hide hcb
  have HSL := hide (sLen_eq (cutA a))
  have HH := hide h
  clear hQ hbl ha h0 hcb h
  generalize cutA a = A at *
  generalize cutB a = R at *
  generalize ba a = X at *
  generalize lenOf a = lo at *
  cases hcc : cutC a with
  | true =>
    rw [hcc] at HC HLO
    simp only [Bool.true_eq_false, if_false] at HLO
    by_cases hA : A = sLen
    case neg =>
      have i1 : ((ba A).toList == [67, 111, 110, 116, 101, 110, 116, 45, 76, 101, 110, 103, 116, 104]) = false := by rw [HSL.out]; exact decide_eq_false hA
      have i2 : ((ba A).toList != [67, 111, 110, 116, 101, 110, 116, 45, 76, 101, 110, 103, 116, 104]) = true := by rw [bne, i1]; rfl
      have hlo : lo = -1 := by have := HLO.out; rw [if_pos hA] at this; exact this
      have HE : Hid (Q = .line [] size) := by show _ = _; rw [HQ.out, hlo]; rfl
      clear hA hlo HQ HLO HSL HLR hcc
      generalize ba A = Y at *
      go_enter Tryd.func43, Tryd.ntmps43
      go_wp2_with fail
      refine (HC.out).mono ?_
      rintro e w2 ⟨rfl, m, rfl⟩
      go_wp2_with fail
      first | go_end0 | refine bodyPost_ret (results_none rfl _ _ _) rfl ?_
      refine ⟨rfl, ?_, Fk.below (belowN (Below.refl _ w) m)⟩
      rw [HE.out]; exact (HH.out).below (belowN (Below.refl _ w) m)
    have i1 : ((ba A).toList == [67, 111, 110, 116, 101, 110, 116, 45, 76, 101, 110, 103, 116, 104]) = true := by rw [HSL.out]; exact decide_eq_true hA
    have i2 : ((ba A).toList != [67, 111, 110, 116, 101, 110, 116, 45, 76, 101, 110, 103, 116, 104]) = false := by rw [bne, i1]; rfl
    have i3 : (ba A).toList = [67, 111, 110, 116, 101, 110, 116, 45, 76, 101, 110, 103, 116, 104] := by simpa using i1
    rw [if_neg (by simpa using hA)] at HLO
    clear hA HSL hcc
    generalize ba A = Y at *
    generalize lenR R = o at *
    cases o with
    | none =>
      have hlo : lo = -2 := HLO.out
      have HE : Hid (Q = .bad 3) := by show _ = _; rw [HQ.out, hlo]; rfl
      clear hlo HQ HLO
      go_enter Tryd.func43, Tryd.ntmps43
      go_wp2_with fail
      refine (HC.out).mono ?_
      rintro e w2 ⟨rfl, m, rfl⟩
      go_wp2_with fail
      refine ((HLR.out) _).mono ?_
      rintro e w3 ⟨rfl, m3, rfl⟩
      have HH3 := hide ((HH.out).below ((belowN (belowN (Below.refl _ w) m) m3)))
      have hb3 : Below w.heap.size w ((w.drewN m).drewN m3) := belowN (belowN (Below.refl _ w) m) m3
      have HB3 := hide hb3
      clear HH HC HLR hb3
      generalize (w.drewN m).drewN m3 = w3 at *
      obtain ⟨lv, told, len, p, hr, -, -⟩ := HH3.out
      have HF := hide (fail_any 3 hr)
      clear hr
      simp only [lenV]
      go_wp2_with fail
      refine (HF.out).mono ?_
      rintro e w4 ⟨rfl, h4, k4⟩
      go_wp2_with fail
      first | go_end0 | refine bodyPost_ret (results_none rfl _ _ _) rfl ?_
      refine ⟨rfl, ?_, (Fk.below HB3.out).trans k4⟩
      rw [HE.out]; exact h4
    | some n =>
      have hlo : lo = (n : Int) := HLO.out
      have HE : Hid (Q = .line [] (n : Int)) := by show _ = _; rw [HQ.out, hlo, if_neg (by omega), if_pos (by omega)]
      clear hlo HQ HLO
      go_enter Tryd.func43, Tryd.ntmps43
      go_wp2_with fail
      refine (HC.out).mono ?_
      rintro e w2 ⟨rfl, m, rfl⟩
      go_wp2_with fail
      refine ((HLR.out) _).mono ?_
      rintro e w3 ⟨rfl, m3, rfl⟩
      have HH3 := hide ((HH.out).below ((belowN (belowN (Below.refl _ w) m) m3)))
      have hb3 : Below w.heap.size w ((w.drewN m).drewN m3) := belowN (belowN (Below.refl _ w) m) m3
      have HB3 := hide hb3
      clear HH HC HLR hb3
      generalize (w.drewN m).drewN m3 = w3 at *
      obtain ⟨lv, told, len, p, hr, -, -⟩ := HH3.out
      obtain ⟨c0, c1, c2, c3, c4, c5, c6⟩ := hr.cells
      have f1 := hr.frz 1
      have f2 := hr.frz 2
      have HR := hide hr
      clear hr
      simp only [lenV]
      go_wp2_with fail
      first | go_end0 | refine bodyPost_ret (results_none rfl _ _ _) rfl ?_
      obtain ⟨h1, k1⟩ := (HR.out).field 1 (.bool true) (told' := true) (len' := len) (inB' := false) rfl
      obtain ⟨h2, k2⟩ := h1.field 2 (.int .i64 (n : Int)) (told' := true) (len' := (n : Int)) (inB' := false) rfl
      refine ⟨rfl, ?_, (Fk.below HB3.out).trans (k1.trans k2)⟩
      rw [HE.out]
      exact ⟨lv, true, _, p, h2, by simp, fun _ => rfl⟩
  | false =>
    rw [hcc] at HC HLO
    have hR := (HCB.out) hcc
    subst hR
    have hlo : lo = -2 := HLO.out
    have HE : Hid (Q = .bad 3) := by show _ = _; rw [HQ.out, hlo]; rfl
    have hlr : lenR [] = none := rfl
    rw [hlr] at HLR
    clear hlo HQ HLO HSL hcc hlr HCB
    generalize ba A = Y at *
    go_enter Tryd.func43, Tryd.ntmps43
    go_wp2_with fail
    refine (HC.out).mono ?_
    rintro e w2 ⟨rfl, m, rfl⟩
    go_wp2_with fail
    refine ((HLR.out) _).mono ?_
    rintro e w3 ⟨rfl, m3, rfl⟩
    have HH3 := hide ((HH.out).below ((belowN (belowN (Below.refl _ w) m) m3)))
    have hb3 : Below w.heap.size w ((w.drewN m).drewN m3) := belowN (belowN (Below.refl _ w) m) m3
    have HB3 := hide hb3
    clear HH HC HLR hb3
    generalize (w.drewN m).drewN m3 = w3 at *
    obtain ⟨lv, told, len, p, hr, -, -⟩ := HH3.out
    have HF := hide (fail_any 3 hr)
    clear hr
    simp only [lenV]
    go_wp2_with fail
    refine (HF.out).mono ?_
    rintro e w4 ⟨rfl, h4, k4⟩
    go_wp2_with fail
    first | go_end0 | refine bodyPost_ret (results_none rfl _ _ _) rfl ?_
    refine ⟨rfl, ?_, (Fk.below HB3.out).trans k4⟩
    rw [HE.out]; exact h4
end Go.Proofs.YtcibflndpckkkaaDoor
