/- The law RopeHolds answers true at every text, piece and change that are not too long together. -/
import Derived.Test.YtijikgghakhhaaaDoorEb
import Derived.Test.YtijikgghakhhaaaDoorRc
import Derived.Test.YtijikgghakhhaaaDoorFa
import Derived.Test.YtijikgghakhhaaaDoorGa
namespace Go.Proofs.YtijikgghakhhaaaDoor
open Go.RowKit
open M

theorem bs_inj {a b : ByteArray} (h : bs a = bs b) : a = b := by
  cases a with
  | mk x =>
    cases b with
    | mk y => unfold bs at h; simp at h; rw [h]

set_option maxRecDepth 100000 in
set_option maxHeartbeats 4000000 in
theorem holds_no (s m : ByteArray) (f t : Int) (w : World) (hT : Tabs w) (hE : ErrT w) (hs : s.size ≤ 562949953421312) (hf : hasB s.size f t = false) :
    Calls Tryd.prog 3 #[.string s, .int .i64 f, .int .i64 t, .string m] w fun e w' => e = .returned (.bool true) ∧ Below w.heap.size w w' := by
  have hl := bs_len s
  have hf2 : ¬ (0 ≤ f ∧ f ≤ t ∧ t ≤ (s.size : Int)) := by simpa [hasB] using hf
  have HF := hide (show hasB (bs s).length f t = false by rw [hl]; exact hf)
  clear hf
  go_enter Tryd.func3, Tryd.ntmps3
  go_wp2_with fail
  refine (new_any s w hT (by omega)).mono ?_
  rintro e w1 ⟨r, rfl, kr, hb1⟩
  have K1 := hide kr
  clear kr
  go_wp2_with fail
  refine (len_any r (bs s) w1 K1.out).mono ?_
  rintro e w2 ⟨rfl, hb2⟩
  have B2 : Below w.heap.size w w2 := hb1.trans (hb2.mono hb1.size)
  have K2 := hide ((K1.out).below hb2)
  go_wp2_with fail
  refine (lines_any r (bs s) w2 K2.out (by omega)).mono ?_
  rintro e w3 ⟨rfl, hb3⟩
  have B3 : Below w.heap.size w w3 := B2.trans (hb3.mono B2.size)
  have K3 := hide ((K2.out).below hb3)
  go_wp2_with fail
  refine (text_no r (bs s) f t w3 K3.out HF.out).mono ?_
  rintro e w4 ⟨rfl, hb4⟩
  have B4 : Below w.heap.size w w4 := B3.trans (hb4.mono B3.size)
  have K4 := hide ((K3.out).below hb4)
  go_wp2_with fail
  refine (replace_no r (bs s) f t m w4 K4.out HF.out).mono ?_
  rintro e w5 ⟨rfl, hb5⟩
  have B5 : Below w.heap.size w w5 := B4.trans (hb5.mono B4.size)
  by_cases g1 : 0 ≤ f
  · by_cases g2 : f ≤ t
    · have g3 : ¬ t ≤ (s.size : Int) := by omega
      have g4 : decide (t ≤ (s.size : Int)) = false := by simp; omega
      clear hf2
      go_wp2_with fail
      refine (error_hit w5 (hE.below B5)).mono ?_
      rintro e w6 ⟨rfl, hb6⟩
      go_wp2_with fail
      refine (refLines_any s w6 (by omega)).mono ?_
      rintro e w7 ⟨rfl, hw⟩
      rw [hw]
      clear hw w7
      go_wp2_with fail
      go_ret
      exact ⟨rfl, B5.trans (hb6.mono B5.size)⟩
    · have g4 : decide (f ≤ t) = false := by simp; omega
      clear hf2
      go_wp2_with fail
      refine (error_hit w5 (hE.below B5)).mono ?_
      rintro e w6 ⟨rfl, hb6⟩
      go_wp2_with fail
      refine (refLines_any s w6 (by omega)).mono ?_
      rintro e w7 ⟨rfl, hw⟩
      rw [hw]
      clear hw w7
      go_wp2_with fail
      go_ret
      exact ⟨rfl, B5.trans (hb6.mono B5.size)⟩
  · have g4 : decide (0 ≤ f) = false := by simp; omega
    clear hf2
    go_wp2_with fail
    refine (error_hit w5 (hE.below B5)).mono ?_
    rintro e w6 ⟨rfl, hb6⟩
    go_wp2_with fail
    refine (refLines_any s w6 (by omega)).mono ?_
    rintro e w7 ⟨rfl, hw⟩
    rw [hw]
    clear hw w7
    go_wp2_with fail
    go_ret
    exact ⟨rfl, B5.trans (hb6.mono B5.size)⟩

set_option maxRecDepth 100000 in
set_option maxHeartbeats 4000000 in
theorem holds_yes (s m : ByteArray) (F T : Nat) (w : World) (hT : Tabs w) (hs : s.size ≤ 140737488355328) (hm : m.size ≤ 140737488355328) (hFT : F ≤ T) (hTs : T ≤ s.size) :
    Calls Tryd.prog 3 #[.string s, .int .i64 F, .int .i64 T, .string m] w fun e w' => e = .returned (.bool true) ∧ Below w.heap.size w w' := by
  have hl := bs_len s
  have z1 : (0 : Int) ≤ (F : Int) := by omega
  have z2 : (F : Int) ≤ (T : Int) := by omega
  have z3 : (T : Int) ≤ (s.size : Int) := by omega
  have z4 : (F : Int) ≤ (s.size : Int) := by omega
  go_enter Tryd.func3, Tryd.ntmps3
  go_wp2_with fail
  refine (new_any s w hT (by omega)).mono ?_
  rintro e w1 ⟨r, rfl, kr, hb1⟩
  have K1 := hide kr
  clear kr
  go_wp2_with fail
  refine (len_any r (bs s) w1 K1.out).mono ?_
  rintro e w2 ⟨rfl, hb2⟩
  have B2 : Below w.heap.size w w2 := hb1.trans (hb2.mono hb1.size)
  have K2 := hide ((K1.out).below hb2)
  go_wp2_with fail
  refine (lines_any r (bs s) w2 K2.out (by omega)).mono ?_
  rintro e w3 ⟨rfl, hb3⟩
  have B3 : Below w.heap.size w w3 := B2.trans (hb3.mono B2.size)
  have K3 := hide ((K2.out).below hb3)
  go_wp2_with fail
  refine (text_big r (bs s) F T w3 K3.out hFT (by omega) (by omega) (by omega)).mono ?_
  rintro e w4 ⟨rfl, hb4⟩
  have es : (⟨(((bs s).take T).drop F).toArray⟩ : ByteArray) = s.extract F T := bs_inj (by rw [bs_cut]; simp [bs])
  rw [es]
  clear es
  have B4 : Below w.heap.size w w4 := B3.trans (hb4.mono B3.size)
  have K4 := hide ((K3.out).below hb4)
  go_wp2_with fail
  refine (replace_yes r (bs s) F T m w4 (hT.below B4) K4.out hFT (by omega) (by omega) (by omega)).mono ?_
  rintro e w5 ⟨q, rfl, kq, hb5⟩
  have B5 : Below w.heap.size w w5 := B4.trans (hb5.mono B4.size)
  have hrp : repl (bs s) (bs m) F T = bs (s.extract 0 F ++ m ++ s.extract T s.size) := by
    unfold repl
    rw [bs_append, bs_append, bs_take, bs_drop]
  rw [hrp] at kq
  have Q5 := hide kq
  have K5 := hide ((K4.out).below hb5)
  clear kq hrp
  have e1 : (s.extract 0 F).size = F := by rw [← bs_len, bs_take, List.length_take, hl]; omega
  have e2 : (s.extract T s.size).size = s.size - T := by rw [← bs_len, bs_drop, List.length_drop, hl]
  go_wp2_with fail
  refine (error_nil w5).mono ?_
  rintro e w6 ⟨rfl, hb6⟩
  have B6 : Below w.heap.size w w6 := B5.trans (hb6.mono B5.size)
  have Q6 := hide ((Q5.out).below hb6)
  have K6 := hide ((K5.out).below hb6)
  go_wp2_with fail
  refine (refLines_any s w6 (by omega)).mono ?_
  rintro e w7 ⟨rfl, hw⟩
  rw [hw]
  clear hw w7
  go_wp2_with fail
  go_quiet (fail)
  obtain ⟨nw, enw⟩ : ∃ x : ByteArray, s.extract 0 F ++ m ++ s.extract T s.size = x := ⟨_, rfl⟩
  have hnw : nw.size ≤ 281474976710656 := by rw [← enw, ByteArray.size_append, ByteArray.size_append, e1, e2]; omega
  rw [enw] at Q6 ⊢
  clear enw e1 e2 Q5
  have hl2 := bs_len nw
  have BN : Below w6.heap.size w6 (w6.drewN nq) := belowN (Below.refl _ _) nq
  obtain ⟨W, hW⟩ : ∃ W, w6.drewN nq = W := ⟨_, rfl⟩
  rw [hW] at BN ⊢
  clear hW
  have Q7 := hide ((Q6.out).below BN)
  have K7 := hide ((K6.out).below BN)
  have BW : Below w.heap.size w W := B6.trans (BN.mono B6.size)
  go_wp2_with fail
  refine (len_any q (bs nw) W Q7.out).mono ?_
  rintro e w8 ⟨rfl, hb8⟩
  have B8 : Below W.heap.size W w8 := hb8
  go_wp2_with fail
  refine (lines_any q (bs nw) w8 ((Q7.out).below B8) (by omega)).mono ?_
  rintro e w9 ⟨rfl, hb9⟩
  have B9 : Below W.heap.size W w9 := B8.trans (hb9.mono B8.size)
  go_wp2_with fail
  refine (text_big q (bs nw) 0 nw.size w9 ((Q7.out).below B9) (by omega) (by omega) (by omega) (by omega)).mono ?_
  rintro e w10 ⟨rfl, hb10⟩
  have es2 : (⟨(((bs nw).take nw.size).drop 0).toArray⟩ : ByteArray) = nw := bs_inj (by rw [List.take_of_length_le (by omega)]; simp [bs])
  rw [es2]
  clear es2
  have B10 : Below W.heap.size W w10 := B9.trans (hb10.mono B9.size)
  go_wp2_with fail
  refine (refLines_any nw w10 (by omega)).mono ?_
  rintro e wx ⟨rfl, hw⟩
  rw [hw]
  clear hw wx
  go_wp2_with fail
  refine (len_any r (bs s) w10 ((K7.out).below B10)).mono ?_
  rintro e w11 ⟨rfl, hb11⟩
  have B11 : Below W.heap.size W w11 := B10.trans (hb11.mono B10.size)
  go_wp2_with fail
  have ht2 := text_big r (bs s) 0 s.size w11 ((K7.out).below B11) (by omega) (by omega) (by omega) (by omega)
  have es3 : (⟨(((bs s).take s.size).drop 0).toArray⟩ : ByteArray) = s := bs_inj (by rw [List.take_of_length_le (by omega)]; simp [bs])
  rw [es3] at ht2
  have HT2 := hide ht2
  clear ht2 es3
  refine (HT2.out).mono ?_
  rintro e w12 ⟨rfl, hb12⟩
  go_wp2_with fail
  go_ret
  exact ⟨rfl, BW.trans ((B11.trans (hb12.mono B11.size)).mono BW.size)⟩

theorem holds_any (s m : ByteArray) (f t : Int) (w : World) (hT : Tabs w) (hE : ErrT w) (hs : s.size ≤ 140737488355328) (hm : m.size ≤ 140737488355328) :
    Calls Tryd.prog 3 #[.string s, .int .i64 f, .int .i64 t, .string m] w fun e w' => e = .returned (.bool true) ∧ Below w.heap.size w w' := by
  cases h : hasB s.size f t with
  | false => exact holds_no s m f t w hT hE (by omega) h
  | true =>
    have h' : 0 ≤ f ∧ f ≤ t ∧ t ≤ (s.size : Int) := by simpa [hasB] using h
    obtain ⟨F, rfl⟩ := Int.eq_ofNat_of_zero_le h'.1
    obtain ⟨T, rfl⟩ := Int.eq_ofNat_of_zero_le (by omega : 0 ≤ t)
    exact holds_yes s m F T w hT hs hm (by omega) (by omega)
end Go.Proofs.YtijikgghakhhaaaDoor
