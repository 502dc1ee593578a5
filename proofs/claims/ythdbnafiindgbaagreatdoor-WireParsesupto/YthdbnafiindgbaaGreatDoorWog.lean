/- The library's ParseUint of four digits of sixteen. -/
import Derived.Test.YthdbnafiindgbaaGreatDoorWoc
import Derived.Lib.ConvBytes
import Derived.Laws.Strings3
import Derived.Laws.Closers25
import Derived.Laws.Closers25b
import Derived.BigCall
import Derived.BigGuard
import Derived.BigQuiet
import Derived.Test.YthdbnafiindgbaaGreatDoorWna0
namespace Go.Proofs.YthdbnafiindgbaaGreatDoor
open Go.RowKit
open Wi

theorem hexs_none {x y : List UInt8} (h : hexs y = none) : hexs (x ++ y) = none := by
  induction x with
  | nil => exact h
  | cons c t ih => rw [List.cons_append, hexs, ih]
theorem hexs_take {l : List UInt8} {k : Nat} (hk : k < l.length) : hexs (l.take (k + 1)).reverse = match hexs (l.take k).reverse, hexd l[k] with | some n, some d => some (n * 16 + d) | _, _ => none := by
  rw [List.take_succ_eq_append_getElem hk, List.reverse_append]
  rfl
theorem hexs_short {l : List UInt8} {k : Nat} (h : hexs (l.take k).reverse = none) : hexs l.reverse = none := by
  have e : l.reverse = (l.drop k).reverse ++ (l.take k).reverse := by rw [← List.reverse_append, List.take_append_drop]
  rw [e]; exact hexs_none h
theorem hexd_lt {c : UInt8} {d : Nat} (h : hexd c = some d) : d < 16 := by
  unfold hexd at h
  split at h
  · simp only [Option.some.injEq] at h; omega
  split at h
  · simp only [Option.some.injEq] at h; omega
  split at h
  · simp only [Option.some.injEq] at h; omega
  · cases h
set_option maxRecDepth 100000 in
theorem low_fin : ∀ k : Fin 256, (65 ≤ k.val ∧ k.val ≤ 70 → bits .or .u8 (k.val : Int) 32 = (k.val : Int) + 32) ∧ (97 ≤ k.val ∧ k.val ≤ 102 → bits .or .u8 (k.val : Int) 32 = (k.val : Int)) ∧ (¬ (48 ≤ k.val ∧ k.val ≤ 57) ∧ ¬ (65 ≤ k.val ∧ k.val ≤ 70) ∧ ¬ (97 ≤ k.val ∧ k.val ≤ 102) → bits .or .u8 (k.val : Int) 32 < 97 ∨ 102 < bits .or .u8 (k.val : Int) 32) := by decide
/-- A digit of sixteen that is a letter. -/
theorem low_yes {c : UInt8} {d : Nat} (h : hexd c = some d) (hd : ¬ (48 ≤ c.toNat ∧ c.toNat ≤ 57)) : 97 ≤ bits .or .u8 (c.toNat : Int) 32 ∧ bits .or .u8 (c.toNat : Int) 32 ≤ 102 ∧ bits .or .u8 (c.toNat : Int) 32 - 97 + 10 = (d : Int) := by
  have hf := low_fin ⟨c.toNat, c.toNat_lt⟩
  simp only at hf
  unfold hexd at h
  rw [if_neg hd] at h
  split at h
  · next h1 =>
    have := hf.2.1 h1
    simp only [Option.some.injEq] at h
    omega
  · split at h
    · next h1 =>
      have := hf.1 h1
      simp only [Option.some.injEq] at h
      omega
    · cases h
theorem low_no {c : UInt8} (h : hexd c = none) : ¬ (48 ≤ c.toNat ∧ c.toNat ≤ 57) ∧ (bits .or .u8 (c.toNat : Int) 32 < 97 ∨ 102 < bits .or .u8 (c.toNat : Int) 32) := by
  have hf := low_fin ⟨c.toNat, c.toNat_lt⟩
  simp only at hf
  unfold hexd at h
  split at h
  · cases h
  · next h0 =>
    split at h
    · cases h
    · next h1 =>
      split at h
      · cases h
      · next h2 => exact ⟨h0, hf.2.2 ⟨h0, h2, h1⟩⟩
theorem lower_any (c : Int) (w : World) : Calls Tryz.prog 75 #[.int .u8 c] w fun e w' => e = .returned (.int .u8 (bits .or .u8 c 32)) ∧ w' = w := Any.internal_strconv_lower { Tryz.layC172p with } c w
/-- What ParseUint answers. -/
def puV (r : Option Nat) : Value := match r with | some n => .tuple #[.int .u64 (n : Int), .nilIface] | none => .tuple #[.int .u64 0, .iface 117 (.int .i64 2)]
set_option maxHeartbeats 32000000 in
set_option maxRecDepth 100000 in
theorem iparse_any (t : ByteArray) (ht : t.size = 4) (w : World) :
    Calls Tryz.prog 69 #[.string t, .int .i64 16, .int .i64 16] w fun e w' => e = .returned (puV (hexs (bs t).reverse)) ∧ w' = Lib.bytesWorld w 5 t := by
  have hne : t.size ≠ 0 := by omega
  have hemp : t.toList.isEmpty = false := by
    rw [← decide_eq_emptyBytes]
    exact decide_eq_false (fun h => hne (by rw [h]; rfl))
  have hcv := Lib.run_convert_string_bytes (P := Tryz.prog) w 9 68 5 t (u := .string) (by kernel_rfl) (by kernel_rfl) (by kernel_rfl)
  have hB : ∀ j, j < t.size → (Lib.bytesWorld w 5 t).cell? ⟨w.heap.size, j, none⟩ = some (.int .u8 (t.data.toList.getD j 0).toNat) := fun j hj => Lib.bytesWorld_cell w 5 t j hj
  obtain ⟨W1, hW1⟩ : ∃ W1, W1 = Lib.bytesWorld w 5 t := ⟨_, rfl⟩
  rw [← hW1] at hcv hB ⊢
  clear hW1
  obtain ⟨l, hL⟩ : ∃ l, l = bs t := ⟨_, rfl⟩
  have hLn : l.length = 4 := by rw [hL, bs_len, ht]
  have hB' : ∀ j, j < 4 → W1.cell? ⟨w.heap.size, j, none⟩ = some (.int .u8 (l.getD j 0).toNat) := fun j hj => by rw [hL]; exact hB j (by omega)
  rw [← hL]
  clear hL hB hne
  have hmv : IntKind.u64.wrap (IntKind.u64.wrap 65536 - 1) = 65535 := by
    rw [IntKind.wrap_u64, IntKind.wrap_u64]
    decide
  go_enter Tryz.func69, Tryz.ntmps69
  go_wp2
  go_loop [12, 13, 101] (fun vu vn vi => ∃ (k acc : Nat) (a : Int), vu = .bool false ∧ vn = .int .u64 a ∧ vi = .int .i64 k ∧ k ≤ 4 ∧ Hid (a = (acc : Int) ∧ acc < 16 ^ k ∧ hexs (l.take k).reverse = some acc))
    (fun _ _ vi => 4 - (intOf vi).toNat)
  case atStart => exact ⟨0, 0, 0, rfl, rfl, rfl, by omega, rfl, by decide, rfl⟩
  case round =>
    obtain ⟨k, acc, a, rfl, rfl, rfl, hk, hh⟩ := hrel
    obtain ⟨ha, hacc, hdec⟩ := hh.out
    clear hh
    by_cases hkn : k < 4
    · have hc := hB' k hkn
      have hget : l.getD k 0 = l[k]'(by omega) := by simp [List.getD, List.getElem?_eq_getElem (show k < l.length by omega)]
      have hst := hexs_take (l := l) (k := k) (by omega)
      rw [hget] at hc
      rw [hdec] at hst
      have h16 : acc < 16 ^ 3 := Nat.lt_of_lt_of_le hacc (Nat.pow_le_pow_right (by decide) (by omega))
      have hpow : 16 ^ (k + 1) = 16 ^ k * 16 := Nat.pow_succ ..
      generalize l[k]'(by omega) = c at hc hst
      have hc256 : c.toNat < 256 := c.toNat_lt
      have a0 : 0 ≤ a := by omega
      have a1 : a ≤ 4095 := by omega
      clear hB' hget
      cases hx : hexd c with
      | some d =>
        rw [hx] at hst
        have hd16 := hexd_lt hx
        have HN : Hid (a * 16 + (d : Int) = ((acc * 16 + d : Nat) : Int) ∧ acc * 16 + d < 16 ^ (k + 1) ∧ hexs (l.take (k + 1)).reverse = some (acc * 16 + d)) := Lib.hid ⟨by omega, by omega, hst⟩
        by_cases hdig : 48 ≤ c.toNat ∧ c.toNat ≤ 57
        · have hde : (c.toNat : Int) - 48 = (d : Int) := by
            unfold hexd at hx; rw [if_pos hdig] at hx; simp only [Option.some.injEq] at hx; omega
          obtain ⟨hd0, hd1⟩ := hdig
          clear hst hdec hacc h16 hpow hx ha
          go_wp2
          refine ⟨⟨k + 1, acc * 16 + d, a * 16 + (d : Int), rfl, (by first | rfl | (congr 1; omega)), (by first | rfl | (congr 1; omega)), by omega, HN⟩, by simp [intOf]; omega⟩
        · obtain ⟨b0, b1, b2⟩ := low_yes hx hdig
          have HLO := hide (lower_any (c.toNat : Int))
          have hdg : decide ((48 : Int) ≤ (c.toNat : Int)) = false ∨ decide ((48 : Int) ≤ (c.toNat : Int)) = true ∧ decide ((c.toNat : Int) ≤ 57) = false := by
            by_cases h1 : 48 ≤ c.toNat
            · exact .inr ⟨by simp; omega, by simp; omega⟩
            · exact .inl (by simp; omega)
          have hu95 : ((c.toNat : Int) == 95) = false := by
            rw [beq_eq_false_iff_ne]; intro e
            have e2 : c.toNat = 95 := by omega
            unfold hexd at hx; rw [e2] at hx; simp at hx
          clear hst hdec hacc h16 hpow hx ha hdig
          generalize bits .or .u8 (c.toNat : Int) 32 = lo at *
          rcases hdg with g1 | ⟨g1, g2⟩
          all_goals
            go_wp2_with (go_at_call 75; refine ((HLO.out) _).mono ?_; rintro e w' ⟨rfl, rfl⟩)
            refine ⟨⟨k + 1, acc * 16 + d, a * 16 + (d : Int), rfl, (by first | rfl | (congr 1; omega)), (by first | rfl | (congr 1; omega)), by omega, HN⟩, by simp [intOf]; omega⟩
      | none =>
        rw [hx] at hst
        have HE : Hid (hexs l.reverse = none) := hexs_short hst
        obtain ⟨hdig, hlo⟩ := low_no hx
        have HLO := hide (lower_any (c.toNat : Int))
        have hv0 := bits_lo_u8 .or (c.toNat : Int) 32
        have hv1 := bits_hi_u8 .or (c.toNat : Int) 32
        have HLU := hide (lower_any 95)
        have hu0 := bits_lo_u8 .or 95 32
        have hu1 := bits_hi_u8 .or 95 32
        clear hst hdec hacc h16 hpow hx ha
        go_wp2_with (go_at_call 75; first | (refine ((HLO.out) _).mono ?_; rintro e w' ⟨rfl, rfl⟩) | (refine ((HLU.out) _).mono ?_; rintro e w' ⟨rfl, rfl⟩))
        all_goals first | (go_ret2; rw [HE.out]; exact ⟨rfl, rfl⟩) | (exfalso; omega) | skip
    · have hkk : k = 4 := by omega
      subst hkk
      rw [List.take_of_length_le (by omega)] at hdec
      subst ha
      clear hacc
      have HE := hide hdec
      clear hdec
      go_wp2
      go_ret2
      rw [HE.out]
      exact ⟨rfl, rfl⟩
end Go.Proofs.YthdbnafiindgbaaGreatDoor
/- The program's reader of messages: an escape by a number, an escape by a letter. -/
namespace Go.Proofs.YthdbnafiindgbaaGreatDoor
open Go.RowKit
open Wi

/-- The library's error value stands where it was laid. -/
def Es (w : World) : Prop := ∃ te pe, w.cell? ⟨1, 0, none⟩ = some (.iface te pe)
theorem Es.below {w w' : World} (h : Es w) (hb : Below w.heap.size w w') : Es w' := by
  obtain ⟨te, pe, h⟩ := h
  refine ⟨te, pe, ?_⟩
  exact (Kp.ofBelow hb (fun _ => False)).cellv h id
theorem Es.ow {w w' : World} {sb : Nat} (h : Es w) (hk : Ow sb w w') (hn : sb ≠ 1) : Es w' := by
  obtain ⟨te, pe, h⟩ := h
  exact ⟨te, pe, hk.cellv h (fun e => hn e.symm)⟩
def PuE (r : Option Nat) (e : Ending) : Prop := match r with | some n => e = .returned (.tuple #[.int .u64 (n : Int), .nilIface]) | none => ∃ T N, e = .returned (.tuple #[.int .u64 0, .iface T (.pointer (some ⟨N, 0, none⟩))])
set_option maxRecDepth 100000 in
set_option maxHeartbeats 4000000 in
theorem parseUint_any (t : ByteArray) (ht : t.size = 4) (w : World) (hE : Es w) :
    Calls Tryz.prog 73 #[.string t, .int .i64 16, .int .i64 16] w fun e w' => PuE (hexs (bs t).reverse) e ∧ Below w.heap.size w w' := by
  have HI := hide (iparse_any t ht w)
  have HB := hide (Lib.bytesWorld_below w 5 t)
  obtain ⟨te, pe, he⟩ := hE.below (Lib.bytesWorld_below w 5 t)
  have HTE := hide (Any.strconv_toError_syntax { Tryz.layC172 with } (ba [80, 97, 114, 115, 101, 85, 105, 110, 116]) t 16 16 _ _ (by omega) he (.inr ⟨te, pe, rfl⟩))
  clear he hE ht
  generalize Lib.bytesWorld w 5 t = W1 at *
  cases hh : hexs (bs t).reverse with
  | some n =>
    have hn0 : 0 ≤ (n : Int) := Int.natCast_nonneg _
    rw [hh] at HI
    clear hh HTE
    go_enter Tryz.func73, Tryz.ntmps73
    go_wp2_with fail
    refine (HI.out).mono ?_
    rintro e w1 ⟨rfl, rfl⟩
    unfold puV
    go_wp2_with fail
    go_ret2
    exact ⟨rfl, HB.out⟩
  | none =>
    rw [hh] at HI
    clear hh
    go_enter Tryz.func73, Tryz.ntmps73
    go_wp2_with fail
    refine (HI.out).mono ?_
    rintro e w1 ⟨rfl, rfl⟩
    unfold puV
    go_wp2_with fail
    refine (HTE.out).mono ?_
    rintro e w2 ⟨N, rfl, -, -, hb⟩
    have HB2 := hide ((HB.out).trans (hb.mono (HB.out).size))
    clear hb
    go_wp2_with fail
    go_ret2
    exact ⟨⟨_, N, rfl⟩, HB2.out⟩
/-- What a `\\u` and its digits say. -/
def unV (r : Option Nat) : Value := match r with | some n => .tuple #[.int .i32 (n : Int), .bool true] | none => .tuple #[.int .i32 0, .bool false]
theorem hexs_lt {l : List UInt8} : ∀ n, hexs l = some n → n < 16 ^ l.length := by
  induction l with
  | nil => intro n h; simp only [hexs, Option.some.injEq] at h; subst h; decide
  | cons c t ih =>
    intro n h
    rw [hexs] at h
    split at h
    · next m d h1 h2 =>
      have := ih m h1
      have := hexd_lt h2
      simp only [Option.some.injEq] at h
      rw [List.length_cons, Nat.pow_succ]
      omega
    · cases h
theorem hx_lt {l : List UInt8} {n : Nat} (h : hx l = some n) : n < 65536 := by
  unfold hx at h
  split at h
  · next hh =>
    have := hexs_lt _ h
    have e : ((l.take 6).drop 2).reverse.length = 4 := by simp; omega
    rw [e] at this
    exact this
  · cases h
set_option maxRecDepth 100000 in
set_option maxHeartbeats 4000000 in
theorem unit_any (x : ByteArray) (hx0 : x.size ≤ 1073741824) (w : World) (hE : Es w) :
    Calls Tryz.prog 67 #[.string x] w fun e w' => e = .returned (unV (hx (bs x))) ∧ Below w.heap.size w w' := by
  by_cases h6 : x.size < 6
  · have HE : Hid (hx (bs x) = none) := by show _ = _; unfold hx; rw [if_neg (by rw [bs_len]; omega)]
    have i1 : decide ((x.size : Int) < 6) = true := by simp; omega
    have i2 : (x.size : Int) < 6 := by omega
    clear hE h6
    go_enter Tryz.func67, Tryz.ntmps67
    go_wp2_with fail
    go_ret2
    rw [HE.out]
    exact ⟨rfl, Below.refl _ _⟩
  have i1 : decide ((x.size : Int) < 6) = false := by simp; omega
  have i2 : ¬ (x.size : Int) < 6 := by omega
  have i3 : 2 ≤ x.size := by omega
  have i4 : 6 ≤ x.size := by omega
  have i5 : (2 : Int) ≤ (x.size : Int) := by omega
  have i6 : (6 : Int) ≤ (x.size : Int) := by omega
  have HU : Hid (bs (x.extract 0 2) = [92, 117] ↔ (bs x).getD 0 0 = 92 ∧ (bs x).getD 1 0 = 117) := by
    show _ ↔ _
    rw [bs_take]
    have hl : 6 ≤ (bs x).length := by rw [bs_len]; exact i4
    match hb : bs x with
    | [] => rw [hb] at hl; simp at hl
    | [a] => rw [hb] at hl; simp at hl
    | a :: b :: t => simp
  by_cases hu : bs (x.extract 0 2) = [92, 117]
  · have HU2 := hide ((HU.out).1 hu)
    have HE : Hid (hx (bs x) = hexs (bs (x.extract 2 6)).reverse) := by
      show _ = _; unfold hx; rw [if_pos ⟨by rw [bs_len]; exact i4, HU2.out.1, HU2.out.2⟩, bs_cut]
    have j1 : ((x.extract 0 2).toList == [92, 117]) = true := by
      rw [Lib.toList_data]; show (bs _ == _) = true; rw [hu]; rfl
    have j2 : ((x.extract 0 2).toList != [92, 117]) = false := by rw [bne, j1]; rfl
    have HP := hide (parseUint_any (x.extract 2 6) (by simp; omega) w hE)
    rw [← (HE.out)] at HP
    have HLT : Hid (∀ n, hx (bs x) = some n → n < 65536) := fun n h => hx_lt h
    clear hE hu HU HU2 HE
    generalize hx (bs x) = r at *
    go_enter Tryz.func67, Tryz.ntmps67
    go_wp2_with fail
    refine (HP.out).mono ?_
    cases r with
    | some n =>
      have hn1 := (HLT.out) n rfl
      have hn0 : 0 ≤ (n : Int) := Int.natCast_nonneg _
      have hn2 : (n : Int) ≤ 65535 := by omega
      rintro e w1 ⟨rfl, hb⟩
      have HB := hide hb
      clear hb HP HLT
      go_wp2_with fail
      go_quiet (fail)
      go_wp2_with fail
      go_ret2
      exact ⟨rfl, belowN HB.out _⟩
    | none =>
      rintro e w1 ⟨⟨T, N, rfl⟩, hb⟩
      have HB := hide hb
      clear hb HP HLT
      go_wp2_with fail
      go_quiet (fail)
      go_wp2_with fail
      go_ret2
      exact ⟨rfl, belowN HB.out _⟩
  · have HE : Hid (hx (bs x) = none) := by show _ = _; unfold hx; rw [if_neg (fun h => hu ((HU.out).2 h.2))]
    have j1 : ((x.extract 0 2).toList == [92, 117]) = false := by
      rw [Lib.toList_data, beq_eq_false_iff_ne]; exact hu
    have j2 : ((x.extract 0 2).toList != [92, 117]) = true := by rw [bne, j1]; rfl
    clear hE hu HU
    go_enter Tryz.func67, Tryz.ntmps67
    go_wp2_with fail
    go_ret2
    rw [HE.out]
    exact ⟨rfl, Below.refl _ _⟩
end Go.Proofs.YthdbnafiindgbaaGreatDoor
/- The program's reader of messages: escapes. -/
namespace Go.Proofs.YthdbnafiindgbaaGreatDoor
open Go.RowKit
open Wi

set_option maxRecDepth 100000 in
set_option maxHeartbeats 1000000 in
theorem indexC_any (s : ByteArray) (c : UInt8) (w : World) : Calls Tryz.prog 78 #[.string s, .int .u8 (c.toNat : Int)] w fun e w' => e = .returned (.int .i64 (Lib.indexByte (bs s) c)) ∧ w' = w := by
  go_enter Tryz.func78, Tryz.ntmps78
  go_wp2
  rw [run_callFunc_extern Tryz.func80 (by kernel_rfl) (by kernel_rfl) (by kernel_rfl) (e := Extern.BytealgIndexByte.indexByte) (by kernel_rfl), Lib.run_indexByteString]
  simp only [Result.andThen]
  rw [Oper.upon_value]
  go_wp2
  go_ret
  refine ⟨?_, rfl⟩
  congr 3
set_option maxRecDepth 100000 in
theorem indexD_any (s : ByteArray) (c : UInt8) (w : World) : Calls Tryz.prog 74 #[.string s, .int .u8 (c.toNat : Int)] w fun e w' => e = .returned (.int .i64 (Lib.indexByte (bs s) c)) ∧ w' = w := by
  have HI := hide (indexC_any s c w)
  generalize Lib.indexByte (bs s) c = R at *
  generalize (c.toNat : Int) = ci at *
  go_enter Tryz.func74, Tryz.ntmps74
  go_wp2_with fail
  refine (HI.out).mono ?_
  rintro e w1 ⟨rfl, rfl⟩
  go_wp2_with fail
  go_ret
  exact ⟨rfl, rfl⟩
theorem w32 {y : Int} (h0 : 0 ≤ y) (h1 : y ≤ 2147483647) : wrap32 y = y := by unfold wrap32; omega
def shV (r : Option UInt8) : Value := match r with | some b => .tuple #[.int .i32 (b.toNat : Int), .int .i64 2] | none => .tuple #[.int .i32 0, .int .i64 0]
set_option maxRecDepth 100000 in
theorem one_fin : ∀ k : Fin 256, (one (UInt8.ofNat k.val) = none ∧ Lib.indexByte [34, 92, 47, 98, 102, 110, 114, 116] (UInt8.ofNat k.val) = -1) ∨ (one (UInt8.ofNat k.val) = some 34 ∧ Lib.indexByte [34, 92, 47, 98, 102, 110, 114, 116] (UInt8.ofNat k.val) = 0) ∨ (one (UInt8.ofNat k.val) = some 92 ∧ Lib.indexByte [34, 92, 47, 98, 102, 110, 114, 116] (UInt8.ofNat k.val) = 1) ∨ (one (UInt8.ofNat k.val) = some 47 ∧ Lib.indexByte [34, 92, 47, 98, 102, 110, 114, 116] (UInt8.ofNat k.val) = 2) ∨ (one (UInt8.ofNat k.val) = some 8 ∧ Lib.indexByte [34, 92, 47, 98, 102, 110, 114, 116] (UInt8.ofNat k.val) = 3) ∨ (one (UInt8.ofNat k.val) = some 12 ∧ Lib.indexByte [34, 92, 47, 98, 102, 110, 114, 116] (UInt8.ofNat k.val) = 4) ∨ (one (UInt8.ofNat k.val) = some 10 ∧ Lib.indexByte [34, 92, 47, 98, 102, 110, 114, 116] (UInt8.ofNat k.val) = 5) ∨ (one (UInt8.ofNat k.val) = some 13 ∧ Lib.indexByte [34, 92, 47, 98, 102, 110, 114, 116] (UInt8.ofNat k.val) = 6) ∨ (one (UInt8.ofNat k.val) = some 9 ∧ Lib.indexByte [34, 92, 47, 98, 102, 110, 114, 116] (UInt8.ofNat k.val) = 7) := by decide
def shO (l : List UInt8) : Option UInt8 := if 1 < l.length then one (l.getD 1 0) else none
set_option maxRecDepth 100000 in
set_option maxHeartbeats 2000000 in
theorem short_any (x : ByteArray) (hx0 : x.size ≤ 1073741824) (w : World) :
    Calls Tryz.prog 68 #[.string x] w fun e w' => e = .returned (shV (shO (bs x))) ∧ w' = w := by
  by_cases h2 : x.size < 2
  · have HE : Hid (shO (bs x) = none) := by show _ = _; unfold shO; rw [if_neg (by rw [bs_len]; omega)]
    have i1 : decide ((x.size : Int) < 2) = true := by simp; omega
    have i2 : (x.size : Int) < 2 := by omega
    clear h2
    go_enter Tryz.func68, Tryz.ntmps68
    go_wp2_with fail
    go_ret2
    rw [HE.out]
    exact ⟨rfl, rfl⟩
  have i1 : decide ((x.size : Int) < 2) = false := by simp; omega
  have i2 : ¬ (x.size : Int) < 2 := by omega
  have i3 : 1 < x.size := by omega
  have i4 : (1 : Int) < (x.size : Int) := by omega
  have HE : Hid (shO (bs x) = one x[1]) := by
    show _ = _; unfold shO; rw [if_pos (by rw [bs_len]; exact i3)]
    congr 1
    have hl : 1 < (bs x).length := by rw [bs_len]; exact i3
    rw [List.getD_eq_getElem?_getD, List.getElem?_eq_getElem hl]
    rfl
  have HF : Hid _ := one_fin ⟨x[1].toNat, x[1].toNat_lt⟩
  simp only [UInt8.ofNat_toNat] at HF
  have HI := hide (indexD_any ⟨#[34, 92, 47, 98, 102, 110, 114, 116]⟩ x[1] w)
  have HBS : Hid (bs ⟨#[34, 92, 47, 98, 102, 110, 114, 116]⟩ = [34, 92, 47, 98, 102, 110, 114, 116]) := rfl
  rw [HBS.out] at HI
  clear HBS h2
  have hf := HF.out
  clear HF
  rcases hf with ⟨e1, e2⟩ | ⟨e1, e2⟩ | ⟨e1, e2⟩ | ⟨e1, e2⟩ | ⟨e1, e2⟩ | ⟨e1, e2⟩ | ⟨e1, e2⟩ | ⟨e1, e2⟩ | ⟨e1, e2⟩
  all_goals
    rw [e2] at HI
    rw [e1] at HE
    clear e1 e2
    go_enter Tryz.func68, Tryz.ntmps68
    go_wp2_with fail
    refine (HI.out).mono ?_
    rintro e w1 ⟨rfl, rfl⟩
    go_wp2_with fail
    go_ret2
    rw [HE.out]
    first
      | exact ⟨rfl, rfl⟩
      | (refine ⟨?_, rfl⟩
         show Ending.returned (.tuple #[.int .i32 (wrap32 _), .int .i64 2]) = Ending.returned (.tuple #[.int .i32 _, .int .i64 2])
         rw [w32 (by decide) (by decide)]
         rfl)
end Go.Proofs.YthdbnafiindgbaaGreatDoor
