/- The text that stands for one. -/
import Derived.Test.YtbhcniemkjoflaaDoorQa
import Derived.Test.YtbhcniemkjoflaaDoorUb
namespace Go.Proofs.YtbhcniemkjoflaaDoor
open Go.RowKit
open M

theorem Tz.below {B : Nat} {w w' : World} (h : Tz w) (hb : Below B w w') (hB : 7 ≤ B) : Tz w' := by
  unfold Tz at h ⊢
  rw [hb.cell (p := ⟨6, 15, none⟩) (by show 6 < B; omega)]; exact h
theorem Tz.lt {w : World} (h : Tz w) : 7 ≤ w.heap.size := World.block_lt_of_cell? w ⟨6, 15, none⟩ h
theorem ret_s {a a' : ByteArray} (h : a = a') : Ending.returned (.string a) = .returned (.string a') := by rw [h]

set_option maxRecDepth 100000 in
set_option maxHeartbeats 16000000 in
theorem quote_any (t : ByteArray) (w : World) (hT : Tabs w) (hZ : Tz w) (hs : t.size ≤ 1073741824) :
    Calls Tryd.prog 14 #[.string t] w fun e w' => e = .returned (.string (ba (34 :: qt (bs t) ++ [34]))) ∧ Below w.heap.size w w' := by
  have h7 := hZ.lt
  go_enter Tryd.func14, Tryd.ntmps14
  go_wp2_with fail
  refine (Tryd.Builder_WriteByte_k w.heap.size w.heap.size [] 34 _ (builder_new w) (by simp) (by simp)).mono ?_
  rintro e w1 ⟨rfl, b1, k1, o1⟩
  have B1 := hide (((Below.refl _ w).alloc (Nat.le_refl _) (.cells #[.pointer none, .slice none 0 0] 59)).trans k1)
  have z1 := (B1.out).size
  have zb : w.heap.size < w1.heap.size := by have := k1.size; simp at this; omega
  have hT1 := hT.below B1.out
  have HB1 := hide b1
  clear b1 k1 o1
  go_wp2_with fail
  refine (readFrom_any t 0 _ hT1 (Nat.zero_le _) (by omega)).mono ?_
  rintro e w2 ⟨rfl, r2, k2⟩
  have hI0 : InU w.heap.size w.heap.size w1.heap.size t 0 [34] w w2 := by
    refine ⟨r2, .inr ?_, by omega, z1, by omega, Nat.le_refl _, (B1.out).trans (k2.mono z1)⟩
    exact builder_keep (HB1.out) (Kp.ofBelow k2 (fun _ => False)) id (fun _ _ _ h => h.elim)
  have HI0 := hide hI0
  clear hI0 r2 k2
  generalize w1.heap.size = rb at *
  go_wp2_with fail
  go_loopw [5] (fun _ wr => ∃ (q : Nat) (out : List UInt8), Hid (InU w.heap.size w.heap.size rb t q out w wr ∧ 34 :: qt (bs t) = out ++ qt ((bs t).drop q))) (fun _ wr => t.size - rdAt rb wr)
  case atStart => exact ⟨0, [34], ⟨HI0.out, rfl⟩⟩
  case round =>
    obtain ⟨q, out, HI⟩ := hrel
    have hq := (HI.out).1.rdr.le
    have hra := (HI.out).1.rdr.at_
    have HRA := hide hra
    have hun : out.length ≤ 6 * t.size + 1 := by
      have h1 := congrArg List.length (HI.out).2
      rw [List.length_append, List.length_cons] at h1
      have h3 := qt_len (bs t)
      rw [bs_len] at h3
      omega
    obtain ⟨⟨c0, c1, c2, c3⟩, -⟩ := (HI.out).1.rdr.raw.facts
    clear hra
    have HI1 := hide (HI.out).1
    by_cases hlt : q < t.size
    case neg =>
      have hqe : q = t.size := by omega
      have HQ : Hid ((bs t).drop q = []) := by show _ = _; rw [hqe, ← bs_len]; simp
      rw [HQ.out, cc_nil] at c2
      clear hqe
      go_wp2_with fail
      refine (Tryd.Builder_WriteByte_k w.heap.size w.heap.size (Lib.byteCells out) 34 _ (HI1.out).bld (by rw [Lib.byteCells_length]; omega) (HI1.out).size).mono ?_
      rintro e w3 ⟨rfl, b3, k3, o3⟩
      have HI3 := hide ((HI1.out).wrote (new := [34]) b3 k3 o3)
      clear b3 k3 o3
      go_wp2_with fail
      refine (Tryd.Builder_String_any_k w.heap.size w.heap.size (out ++ [34]) _ (HI3.out).bld (HI3.out).size).mono ?_
      rintro e w4 ⟨rfl, -, k4, -⟩
      have B4 := hide ((HI3.out).below.trans k4)
      clear k4
      go_wp2_with fail
      go_ret
      refine ⟨ret_s ?_, B4.out⟩
      have e1 := (HI.out).2
      rw [HQ.out] at e1
      show (⟨(out ++ [34]).toArray⟩ : ByteArray) = _
      rw [show (34 :: (qt (bs t) ++ [34]) : List UInt8) = out ++ [34] by rw [← List.cons_append, e1]; simp [qt]]; rfl
    have hne : (cc ((bs t).drop q) != -1) = true := by
      have := drop_ne hlt
      simp only [bne_iff_ne, ne_eq, cc_ne]; exact this
    have hpos : 0 ≤ cc ((bs t).drop q) := by rw [cc_some (drop_ne hlt)]; omega
    have hz1 := sz_pos (drop_ne hlt)
    have hz2 := sz_drop_le (s := t) (p := q) hq
    have hz4 := sz_le4 ((bs t).drop q)
    by_cases g10 : cc ((bs t).drop q) = 10
    · have hq1 := qt_one (c := 10) (by omega) g10
      rw [List.drop_drop, show qb (UInt8.ofNat 10) = [92, 110] by decide] at hq1
      have HQ := hide hq1.1
      have Z1 := hide hq1.2
      rw [g10] at c2
      clear hq1
      go_wp2_with fail
      refine (Tryd.Builder_WriteString_k w.heap.size w.heap.size (Lib.byteCells out) ⟨#[92, 110]⟩ _ (HI1.out).bld (by rw [Lib.byteCells_length]; show out.length + 2 ≤ _; omega) (HI1.out).size).mono ?_
      rintro e w3 ⟨rfl, b3, k3, o3⟩
      rw [Lib.strCells_eq] at b3
      have HI3 := hide ((HI1.out).wrote b3 k3 o3)
      clear b3 k3 o3
      go_wp2_with fail
      refine (pass_any rb t q _ (HI3.out).rdr).mono ?_
      rintro e w4 ⟨rfl, r4, k4⟩
      have HI4 := hide ((HI3.out).moved r4 k4)
      clear r4 k4
      go_wp2_with fail
      go_roundw
      case rel =>
        refine ⟨_, _, HI4.out, ?_⟩
        rw [(HI.out).2, HQ.out, List.append_assoc]
        rw [Z1.out]
      case measure => rw [(HI4.out).rdr.at_, HRA.out]; omega
    by_cases g9 : cc ((bs t).drop q) = 9
    · have hq1 := qt_one (c := 9) (by omega) g9
      rw [List.drop_drop, show qb (UInt8.ofNat 9) = [92, 116] by decide] at hq1
      have HQ := hide hq1.1
      have Z1 := hide hq1.2
      rw [g9] at c2
      clear hq1
      go_wp2_with fail
      refine (Tryd.Builder_WriteString_k w.heap.size w.heap.size (Lib.byteCells out) ⟨#[92, 116]⟩ _ (HI1.out).bld (by rw [Lib.byteCells_length]; show out.length + 2 ≤ _; omega) (HI1.out).size).mono ?_
      rintro e w3 ⟨rfl, b3, k3, o3⟩
      rw [Lib.strCells_eq] at b3
      have HI3 := hide ((HI1.out).wrote b3 k3 o3)
      clear b3 k3 o3
      go_wp2_with fail
      refine (pass_any rb t q _ (HI3.out).rdr).mono ?_
      rintro e w4 ⟨rfl, r4, k4⟩
      have HI4 := hide ((HI3.out).moved r4 k4)
      clear r4 k4
      go_wp2_with fail
      go_roundw
      case rel =>
        refine ⟨_, _, HI4.out, ?_⟩
        rw [(HI.out).2, HQ.out, List.append_assoc]
        rw [Z1.out]
      case measure => rw [(HI4.out).rdr.at_, HRA.out]; omega
    by_cases g34 : cc ((bs t).drop q) = 34
    · have hq1 := qt_one (c := 34) (by omega) g34
      rw [List.drop_drop, show qb (UInt8.ofNat 34) = [92, 34] by decide] at hq1
      have HQ := hide hq1.1
      have Z1 := hide hq1.2
      rw [g34] at c2
      have eb : (t.extract q (q + sz ((bs t).drop q))).data.toList = [34] := by
        rw [show (t.extract q (q + sz ((bs t).drop q))).data.toList = bs (t.extract q (q + sz ((bs t).drop q))) from rfl, bs_cut, List.drop_take, Nat.add_sub_cancel_left, hq1.2]
        have h5 := ((cc_is (t := (bs t).drop q) (c := 34) (by omega)).1 g34)
        cases hd : (bs t).drop q with
        | nil => exact absurd hd h5.1
        | cons x u =>
          rw [hd] at h5
          have hx : x = 34 := by rw [← UInt8.toNat_inj]; exact h5.2
          rw [hx]; rfl
      have EB := hide eb
      have hbsz : (t.extract q (q + sz ((bs t).drop q))).size = sz ((bs t).drop q) := by rw [← bs_len, bs_cut, List.length_drop, List.length_take, bs_len]; omega
      clear hq1 eb
      go_wp2_with fail
      refine (Tryd.Builder_WriteByte_k w.heap.size w.heap.size (Lib.byteCells out) 92 _ (HI1.out).bld (by rw [Lib.byteCells_length]; omega) (HI1.out).size).mono ?_
      rintro e w3 ⟨rfl, b3, k3, o3⟩
      have HI3 := hide ((HI1.out).wrote (new := [92]) b3 k3 o3)
      clear b3 k3 o3
      go_wp2_with fail
      refine (bytes_any rb t q _ (HI3.out).rdr).mono ?_
      rintro e w4 ⟨rfl, m4, rfl⟩
      have HI4 := hide ((HI3.out).drewN m4)
      go_wp2_with fail
      refine (Tryd.Builder_WriteString_k w.heap.size w.heap.size (Lib.byteCells (out ++ [92])) (t.extract q (q + sz ((bs t).drop q))) _ (HI4.out).bld (by rw [Lib.byteCells_length, hbsz, List.length_append]; simp; omega) (HI4.out).size).mono ?_
      rintro e w5 ⟨rfl, b5, k5, o5⟩
      rw [Lib.strCells_eq, EB.out] at b5
      have HI5 := hide ((HI4.out).wrote b5 k5 o5)
      clear b5 k5 o5
      go_wp2_with fail
      refine (pass_any rb t q _ (HI5.out).rdr).mono ?_
      rintro e w6 ⟨rfl, r6, k6⟩
      have HI6 := hide ((HI5.out).moved r6 k6)
      clear r6 k6
      go_wp2_with fail
      go_roundw
      case rel =>
        refine ⟨_, _, HI6.out, ?_⟩
        rw [(HI.out).2, HQ.out, List.append_assoc]
        rw [Z1.out]; simp
      case measure => rw [(HI6.out).rdr.at_, HRA.out]; omega
    by_cases g92 : cc ((bs t).drop q) = 92
    · have hq1 := qt_one (c := 92) (by omega) g92
      rw [List.drop_drop, show qb (UInt8.ofNat 92) = [92, 92] by decide] at hq1
      have HQ := hide hq1.1
      have Z1 := hide hq1.2
      rw [g92] at c2
      have eb : (t.extract q (q + sz ((bs t).drop q))).data.toList = [92] := by
        rw [show (t.extract q (q + sz ((bs t).drop q))).data.toList = bs (t.extract q (q + sz ((bs t).drop q))) from rfl, bs_cut, List.drop_take, Nat.add_sub_cancel_left, hq1.2]
        have h5 := ((cc_is (t := (bs t).drop q) (c := 92) (by omega)).1 g92)
        cases hd : (bs t).drop q with
        | nil => exact absurd hd h5.1
        | cons x u =>
          rw [hd] at h5
          have hx : x = 92 := by rw [← UInt8.toNat_inj]; exact h5.2
          rw [hx]; rfl
      have EB := hide eb
      have hbsz : (t.extract q (q + sz ((bs t).drop q))).size = sz ((bs t).drop q) := by rw [← bs_len, bs_cut, List.length_drop, List.length_take, bs_len]; omega
      clear hq1 eb
      go_wp2_with fail
      refine (Tryd.Builder_WriteByte_k w.heap.size w.heap.size (Lib.byteCells out) 92 _ (HI1.out).bld (by rw [Lib.byteCells_length]; omega) (HI1.out).size).mono ?_
      rintro e w3 ⟨rfl, b3, k3, o3⟩
      have HI3 := hide ((HI1.out).wrote (new := [92]) b3 k3 o3)
      clear b3 k3 o3
      go_wp2_with fail
      refine (bytes_any rb t q _ (HI3.out).rdr).mono ?_
      rintro e w4 ⟨rfl, m4, rfl⟩
      have HI4 := hide ((HI3.out).drewN m4)
      go_wp2_with fail
      refine (Tryd.Builder_WriteString_k w.heap.size w.heap.size (Lib.byteCells (out ++ [92])) (t.extract q (q + sz ((bs t).drop q))) _ (HI4.out).bld (by rw [Lib.byteCells_length, hbsz, List.length_append]; simp; omega) (HI4.out).size).mono ?_
      rintro e w5 ⟨rfl, b5, k5, o5⟩
      rw [Lib.strCells_eq, EB.out] at b5
      have HI5 := hide ((HI4.out).wrote b5 k5 o5)
      clear b5 k5 o5
      go_wp2_with fail
      refine (pass_any rb t q _ (HI5.out).rdr).mono ?_
      rintro e w6 ⟨rfl, r6, k6⟩
      have HI6 := hide ((HI5.out).moved r6 k6)
      clear r6 k6
      go_wp2_with fail
      go_roundw
      case rel =>
        refine ⟨_, _, HI6.out, ?_⟩
        rw [(HI.out).2, HQ.out, List.append_assoc]
        rw [Z1.out]; simp
      case measure => rw [(HI6.out).rdr.at_, HRA.out]; omega
    by_cases hodd : cc ((bs t).drop q) < 32 ∨ cc ((bs t).drop q) = 127
    · obtain ⟨c, hc⟩ : ∃ c : Nat, cc ((bs t).drop q) = (c : Int) := ⟨(cc ((bs t).drop q)).toNat, by omega⟩
      have hO : Odd c := by unfold Odd; omega
      have hc128 : c < 128 := by omega
      have hq1 := qt_one (c := c) hc128 hc
      have eq : qb (UInt8.ofNat c) = [92, 117, 123] ++ hx c ++ [125] := by
        have hcn : (UInt8.ofNat c).toNat = c := by simp; omega
        unfold qb; rw [hcn, if_neg (by omega), if_neg (by omega), if_neg (by omega), if_pos (by omega)]
      rw [List.drop_drop, eq] at hq1
      have HQ := hide hq1.1
      have Z1 := hide hq1.2
      have hxl := hx_len c
      have b10 : ((c : Int) == 10) = false := by simp; omega
      have b9 : ((c : Int) == 9) = false := by simp; omega
      have b34 : ((c : Int) == 34) = false := by simp; omega
      have b92 : ((c : Int) == 92) = false := by simp; omega
      have hbs : (ba (hx c)).size ≤ 2 := by rw [ba_size]; exact hxl
      have hs1 : ¬ 9223372036854775807 < 3 + (ba (hx c)).size := by omega
      have hs2 : ¬ 9223372036854775807 < 3 + (ba (hx c)).size + 1 := by omega
      have hvar : (c : Int) < 32 ∨ (¬ (c : Int) < 32 ∧ c = 127) := by omega
      rw [hc] at c2 hne
      clear hq1 eq g10 g9 g34 g92 hodd hc hpos
      rcases hvar with hv | ⟨hv, rfl⟩
      · go_wp2_with fail
        refine (format_any c hO _ (hZ.below (HI1.out).below h7)).mono ?_
        rintro e w3 ⟨rfl, k3⟩
        have HI3 : Hid (InU w.heap.size w.heap.size rb t q out w w3) := by
          have h := HI1.out
          exact ⟨h.rdr.below k3, isBuilder_keep h.bld (Kp.ofBelow k3 (fun _ => False)) id (fun _ _ _ h => h.elim), h.ne, h.brb, h.old, h.base, h.below.trans (k3.mono h.size)⟩
        clear k3
        go_wp2_with fail
        refine (Tryd.Builder_WriteString_k w.heap.size w.heap.size (Lib.byteCells out) _ _ (HI3.out).bld (by rw [Lib.byteCells_length]; simp only [ByteArray.size_append]; show out.length + (3 + (ba (hx c)).size + 1) ≤ _; omega) (HI3.out).size).mono ?_
        rintro e w4 ⟨rfl, b4, k4, o4⟩
        rw [Lib.strCells_eq] at b4
        have eb : ((⟨#[92, 117, 123]⟩ : ByteArray) ++ ba (hx c) ++ ⟨#[125]⟩).data.toList = [92, 117, 123] ++ hx c ++ [125] := by
          show bs _ = _
          rw [bs_append, bs_append, bs_ba]; rfl
        rw [eb] at b4
        have HI4 := hide ((HI3.out).wrote b4 k4 o4)
        clear b4 k4 o4 eb
        go_wp2_with fail
        refine (pass_any rb t q _ (HI4.out).rdr).mono ?_
        rintro e w5 ⟨rfl, r5, k5⟩
        have HI5 := hide ((HI4.out).moved r5 k5)
        clear r5 k5
        go_wp2_with fail
        go_roundw
        case rel =>
          refine ⟨_, _, HI5.out, ?_⟩
          rw [(HI.out).2, HQ.out, List.append_assoc]
          rw [Z1.out]; simp only [List.append_assoc]
        case measure => rw [(HI5.out).rdr.at_, HRA.out]; omega
      · go_wp2_with fail
        refine (format_any 127 hO _ (hZ.below (HI1.out).below h7)).mono ?_
        rintro e w3 ⟨rfl, k3⟩
        have HI3 : Hid (InU w.heap.size w.heap.size rb t q out w w3) := by
          have h := HI1.out
          exact ⟨h.rdr.below k3, isBuilder_keep h.bld (Kp.ofBelow k3 (fun _ => False)) id (fun _ _ _ h => h.elim), h.ne, h.brb, h.old, h.base, h.below.trans (k3.mono h.size)⟩
        clear k3
        go_wp2_with fail
        refine (Tryd.Builder_WriteString_k w.heap.size w.heap.size (Lib.byteCells out) _ _ (HI3.out).bld (by rw [Lib.byteCells_length]; simp only [ByteArray.size_append]; show out.length + (3 + (ba (hx 127)).size + 1) ≤ _; omega) (HI3.out).size).mono ?_
        rintro e w4 ⟨rfl, b4, k4, o4⟩
        rw [Lib.strCells_eq] at b4
        have eb : ((⟨#[92, 117, 123]⟩ : ByteArray) ++ ba (hx 127) ++ ⟨#[125]⟩).data.toList = [92, 117, 123] ++ hx 127 ++ [125] := by
          show bs _ = _
          rw [bs_append, bs_append, bs_ba]; rfl
        rw [eb] at b4
        have HI4 := hide ((HI3.out).wrote b4 k4 o4)
        clear b4 k4 o4 eb
        go_wp2_with fail
        refine (pass_any rb t q _ (HI4.out).rdr).mono ?_
        rintro e w5 ⟨rfl, r5, k5⟩
        have HI5 := hide ((HI4.out).moved r5 k5)
        clear r5 k5
        go_wp2_with fail
        go_roundw
        case rel =>
          refine ⟨_, _, HI5.out, ?_⟩
          rw [(HI.out).2, HQ.out, List.append_assoc]
          rw [Z1.out]; simp only [List.append_assoc]
        case measure => rw [(HI5.out).rdr.at_, HRA.out]; omega
    · have h3 : cc ((bs t).drop q) ≠ 34 := g34
      have HQ := hide (qt_char (drop_ne hlt) g34 g92 (fun e => hodd (.inl e)) (fun e => hodd (.inr e)))
      rw [nx_drop] at HQ
      have b10 : (cc ((bs t).drop q) == 10) = false := by simpa using g10
      have b9 : (cc ((bs t).drop q) == 9) = false := by simpa using g9
      have b34 : (cc ((bs t).drop q) == 34) = false := by simpa using g34
      have b92 : (cc ((bs t).drop q) == 92) = false := by simpa using g92
      have b127 : (cc ((bs t).drop q) == 127) = false := by simp; omega
      have hv : ¬ cc ((bs t).drop q) < 32 := by omega
      have eb : (t.extract q (q + sz ((bs t).drop q))).data.toList = ((bs t).drop q).take (sz ((bs t).drop q)) := by
        rw [show (t.extract q (q + sz ((bs t).drop q))).data.toList = bs (t.extract q (q + sz ((bs t).drop q))) from rfl, bs_cut, List.drop_take, Nat.add_sub_cancel_left]
      have EB := hide eb
      have hbsz : (t.extract q (q + sz ((bs t).drop q))).size = sz ((bs t).drop q) := by rw [← bs_len, bs_cut, List.length_drop, List.length_take, bs_len]; omega
      clear g10 g9 g34 g92 hodd eb h3
      go_wp2_with fail
      refine (bytes_any rb t q _ (HI1.out).rdr).mono ?_
      rintro e w4 ⟨rfl, m4, rfl⟩
      have HI4 := hide ((HI1.out).drewN m4)
      go_wp2_with fail
      refine (Tryd.Builder_WriteString_k w.heap.size w.heap.size (Lib.byteCells out) (t.extract q (q + sz ((bs t).drop q))) _ (HI4.out).bld (by rw [Lib.byteCells_length, hbsz]; omega) (HI4.out).size).mono ?_
      rintro e w5 ⟨rfl, b5, k5, o5⟩
      rw [Lib.strCells_eq, EB.out] at b5
      have HI5 := hide ((HI4.out).wrote b5 k5 o5)
      clear b5 k5 o5
      go_wp2_with fail
      refine (pass_any rb t q _ (HI5.out).rdr).mono ?_
      rintro e w6 ⟨rfl, r6, k6⟩
      have HI6 := hide ((HI5.out).moved r6 k6)
      clear r6 k6
      go_wp2_with fail
      go_roundw
      case rel =>
        refine ⟨_, _, HI6.out, ?_⟩
        rw [(HI.out).2, HQ.out, List.append_assoc]
      case measure => rw [(HI6.out).rdr.at_, HRA.out]; omega
end Go.Proofs.YtbhcniemkjoflaaDoor
