/- What a text stands for. -/
import Derived.Test.YtbhcniemkjoflaaDoorIf
import Derived.Test.YtbhcniemkjoflaaDoorNa
import Derived.Test.YtbhcniemkjoflaaDoorSb
import Derived.Test.YtbhcniemkjoflaaDoorCd
import Derived.Test.YtbhcniemkjoflaaDoorTa
namespace Go.Proofs.YtbhcniemkjoflaaDoor
open Go.RowKit
open M

/-- Where a reader is, read off its block. -/
def rdAt (b : Nat) (w : World) : Nat := match w.cell? ⟨b, 1, none⟩ with | some (.int _ q) => q.toNat | _ => 0
theorem Rdr.at_ {w : World} {b : Nat} {s : ByteArray} {p : Nat} (h : Rdr w b s p) : rdAt b w = p := by
  unfold rdAt; rw [h.raw.facts.1.2.1]; simp
/-- Where a loop stands that reads and writes. -/
structure InU (B bb rb : Nat) (s : ByteArray) (q : Nat) (out : List UInt8) (w0 w : World) : Prop where
  rdr : Rdr w rb s q
  bld : Lib.IsBuilderF 59 5 B bb (Lib.byteCells out) w
  ne : rb ≠ bb
  brb : B ≤ rb
  old : 4 ≤ B
  base : B ≤ w0.heap.size
  below : Below B w0 w
theorem InU.size {B bb rb : Nat} {s : ByteArray} {q : Nat} {out : List UInt8} {w0 w : World} (h : InU B bb rb s q out w0 w) : B ≤ w.heap.size := Nat.le_trans h.base h.below.size
theorem InU.moved {B bb rb : Nat} {s : ByteArray} {q q' : Nat} {out : List UInt8} {w0 w w' : World} (h : InU B bb rb s q out w0 w) (hr : Rdr w' rb s q') (hk : On rb w w') : InU B bb rb s q' out w0 w' := by
  refine ⟨hr, isBuilder_keep h.bld hk (fun e => h.ne e.symm) (fun k c fz e => ?_), h.ne, h.brb, h.old, h.base, h.below.trans (hk.below h.size h.brb)⟩
  subst e
  rw [h.rdr.raw]; intro e; cases e
theorem InU.wrote {B bb rb : Nat} {s : ByteArray} {q : Nat} {out new : List UInt8} {w0 w w' : World} (h : InU B bb rb s q out w0 w) (hb : Lib.BuilderAtF 59 5 B bb (.pointer (some ⟨bb, 0, none⟩)) (Lib.byteCells out ++ Lib.byteCells new) w') (hB : Below B w w') (ho : Lib.OthersKept 5 (some bb) w w') : InU B bb rb s q (out ++ new) w0 w' := by
  refine ⟨h.rdr.others hB ho h.ne h.old, .inr ?_, h.ne, h.brb, h.old, h.base, h.below.trans hB⟩
  rw [Lib.byteCells_append]; exact hb
theorem InU.drewN {B bb rb : Nat} {s : ByteArray} {q : Nat} {out : List UInt8} {w0 w : World} (h : InU B bb rb s q out w0 w) (n : Nat) : InU B bb rb s q out w0 (w.drewN n) :=
  h.moved (h.rdr.drewN n) (On.drewN rb w n)

set_option maxRecDepth 100000 in
set_option maxHeartbeats 4000000 in
theorem unquote_no (s : ByteArray) (w : World) (hT : Tabs w) (hs : s.size ≤ 1073741824) (ha : aloneB (bs s) 6 = false) :
    Calls Tryd.prog 13 #[.string s] w fun e w' => e = .returned (.tuple #[.string ⟨#[]⟩, .bool false]) ∧ Below w.heap.size w w' := by
  go_enter Tryd.func13, Tryd.ntmps13
  go_wp2_with fail
  refine (alone_any s 6 _ hT hs (by omega)).mono ?_
  rintro e w1 ⟨rfl, k1⟩
  rw [ha]
  go_wp2_with fail
  go_ret2
  exact ⟨rfl, k1⟩

theorem ret_sb {a a' : ByteArray} {c : Bool} (h : a = a') : Ending.returned (.tuple #[.string a, .bool c]) = .returned (.tuple #[.string a', .bool c]) := by rw [h]

set_option maxRecDepth 100000 in
set_option maxHeartbeats 8000000 in
theorem unquote_yes (s : ByteArray) (w : World) (hT : Tabs w) (hs : s.size ≤ 1073741824) (ha : aloneB (bs s) 6 = true) (h2 : 2 ≤ s.size) :
    Calls Tryd.prog 13 #[.string s] w fun e w' => e = .returned (.tuple #[.string (ba (unq (((bs s).take (s.size - 1)).drop 1))), .bool true]) ∧ Below w.heap.size w w' := by
  have h4 := hT.2
  go_enter Tryd.func13, Tryd.ntmps13
  go_wp2_with fail
  refine (alone_any s 6 _ hT hs (by omega)).mono ?_
  rintro e w1 ⟨rfl, k1⟩
  rw [ha]
  have z1 := k1.size
  have hT1 := hT.below k1
  have K1 := hide k1
  obtain ⟨n, hn⟩ : ∃ n, s.size = n + 1 := ⟨s.size - 1, by omega⟩
  have en : (s.size : Int) - 1 = (n : Int) := by omega
  have hn1 : n ≤ s.size := by omega
  have hE : (bs s).take (s.size - 1) = bs (s.extract 0 n) := by rw [bs_take, hn]; rfl
  have hL : (s.extract 0 n).size = n := by rw [← bs_len, bs_take, List.length_take, bs_len]; omega
  have HE := hide (And.intro hE hL)
  have HN := hide hn
  clear k1 hE hn
  have hsi : (1 : Int) ≤ (s.size : Int) := by omega
  go_wp2_with fail
  refine (readFrom_any (s.extract 0 n) 1 _ (hT1.alloc _) (by rw [hL]; have := HN.out; omega) (by rw [hL]; omega)).mono ?_
  rintro e w2 ⟨rfl, r2, k2⟩
  have z2 := k2.size
  simp only [World.size_alloc] at z2 r2 ⊢
  have hI0 : InU w1.heap.size w1.heap.size (w1.heap.size + 1) (s.extract 0 n) 1 [] w1 w2 := by
    refine ⟨r2, ?_, by omega, by omega, by omega, Nat.le_refl _, ((Below.refl _ w1).alloc (Nat.le_refl _) _).trans (k2.mono (by simp))⟩
    exact isBuilder_keep (builder_new w1) (Kp.ofBelow k2 (fun _ => False)) id (fun _ _ _ h => h.elim)
  have HI0 := hide hI0
  clear hI0 r2 k2
  generalize s.extract 0 n = t at *
  go_wp2_with fail
  go_loopw [6, 7] (fun _ _ wr => ∃ (q : Nat) (out : List UInt8), Hid (InU w1.heap.size w1.heap.size (w1.heap.size + 1) t q out w1 wr ∧ unq ((bs t).drop 1) = out ++ unq ((bs t).drop q))) (fun _ _ wr => t.size - rdAt (w1.heap.size + 1) wr)
  case atStart => exact ⟨1, [], ⟨HI0.out, rfl⟩⟩
  case round =>
    obtain ⟨q, out, HI⟩ := hrel
    have hq := (HI.out).1.rdr.le
    have hbig := (HI.out).1.rdr.big
    have hra := (HI.out).1.rdr.at_
    have HRA := hide hra
    have hun : out.length ≤ 4 * t.size := by
      have h1 := congrArg List.length (HI.out).2
      rw [List.length_append] at h1
      have h3 := unq_len _ ((bs t).drop 1) (Nat.le_refl _)
      rw [List.length_drop, bs_len] at h3
      omega
    obtain ⟨⟨c0, c1, c2, c3⟩, -⟩ := (HI.out).1.rdr.raw.facts
    clear hra
    by_cases hlt : q < t.size
    · have hne : (cc ((bs t).drop q) != -1) = true := by
        have := drop_ne hlt
        simp only [bne_iff_ne, ne_eq, cc_ne]; exact this
      have hz1 := sz_pos (drop_ne hlt)
      have hz2 := sz_drop_le (s := t) (p := q) hq
      by_cases h92 : cc ((bs t).drop q) = 92
      · have HN2 := hide (unq_esc h92)
        have z1 : sz ((bs t).drop q) = 1 := sz_cc (by omega) (by omega)
        rw [nx_drop, z1, List.drop_drop] at HN2
        have HP := hide (pass_any (w1.heap.size + 1) t q _ (HI.out).1.rdr)
        rw [z1] at HP
        have hbd := taken_bd ((bs t).drop (q + 1))
        rw [h92] at c2
        clear z1
        go_wp2_with fail
        refine (HP.out).mono ?_
        rintro e w3 ⟨rfl, r3, k3⟩
        have HI3 := hide ((HI.out).1.moved r3 k3)
        clear k3
        go_wp2_with fail
        refine (taken_any (w1.heap.size + 1) t (q + 1) _ r3).mono ?_
        rintro e w4 ⟨rfl, r4, k4⟩
        have HI4 := hide ((HI3.out).moved r4 k4)
        have hle4 := r4.le
        clear k4 r3 r4
        go_wp2_with fail
        refine (Tryd.Builder_WriteRune_k w1.heap.size w1.heap.size (Lib.byteCells out) _ (by omega) (by omega) _ (HI4.out).bld (by rw [Lib.byteCells_length]; omega) (HI4.out).size).mono ?_
        rintro e w5 ⟨rfl, b5, k5, o5⟩
        rw [← Lib.byteCells_encodeRune] at b5
        have HI5 := hide ((HI4.out).wrote b5 k5 o5)
        clear b5 k5 o5
        go_wp2_with fail
        go_roundw
        case rel =>
          refine ⟨q + 1 + (taken ((bs t).drop (q + 1))).2.2, out ++ Lib.encodeRune (taken ((bs t).drop (q + 1))).1, HI5.out, ?_⟩
          rw [(HI.out).2, HN2.out, List.append_assoc]
        case measure => rw [(HI5.out).rdr.at_, HRA.out]; omega
      · have HN2 := hide (unq_on (drop_ne hlt) h92)
        rw [nx_drop] at HN2
        have hn92 : (cc ((bs t).drop q) != 92) = true := by simpa using h92
        clear h92
        go_wp2_with fail
        refine (bytes_any (w1.heap.size + 1) t q _ (HI.out).1.rdr).mono ?_
        rintro e w3 ⟨rfl, m3, rfl⟩
        have HI3 := hide ((HI.out).1.drewN m3)
        have hbsz : (t.extract q (q + sz ((bs t).drop q))).size = sz ((bs t).drop q) := by rw [← bs_len, bs_cut, List.length_drop, List.length_take, bs_len]; omega
        have hsz4 := sz_le4 ((bs t).drop q)
        go_wp2_with fail
        refine (Tryd.Builder_WriteString_k w1.heap.size w1.heap.size (Lib.byteCells out) (t.extract q (q + sz ((bs t).drop q))) _ (HI3.out).bld (by rw [Lib.byteCells_length, hbsz]; omega) (HI3.out).size).mono ?_
        rintro e w4 ⟨rfl, b4, k4, o4⟩
        rw [Lib.strCells_eq] at b4
        have HI4 := hide ((HI3.out).wrote b4 k4 o4)
        clear b4 k4 o4
        have eb : (t.extract q (q + sz ((bs t).drop q))).data.toList = ((bs t).drop q).take (sz ((bs t).drop q)) := by
          rw [show (t.extract q (q + sz ((bs t).drop q))).data.toList = bs (t.extract q (q + sz ((bs t).drop q))) from rfl, bs_cut, List.drop_take, Nat.add_sub_cancel_left]
        have EB := hide eb
        clear eb
        go_wp2_with fail
        refine (pass_any (w1.heap.size + 1) t q _ (HI4.out).rdr).mono ?_
        rintro e w5 ⟨rfl, r5, k5⟩
        have HI5 := hide ((HI4.out).moved r5 k5)
        clear r5 k5
        go_wp2_with fail
        go_roundw
        case rel =>
          refine ⟨q + sz ((bs t).drop q), _, HI5.out, ?_⟩
          rw [(HI.out).2, HN2.out, List.append_assoc, EB.out]
        case measure => rw [(HI5.out).rdr.at_, HRA.out]; omega
    · have hqe : q = t.size := by omega
      have HQ : Hid ((bs t).drop q = []) := by show _ = _; rw [hqe, ← bs_len]; simp
      rw [HQ.out, cc_nil] at c2
      clear hqe
      go_wp2_with fail
      refine (Tryd.Builder_String_any_k w1.heap.size w1.heap.size out _ (HI.out).1.bld (HI.out).1.size).mono ?_
      rintro e w3 ⟨rfl, -, k3, -⟩
      have B3 := hide ((K1.out).trans (((HI.out).1.below.trans k3).mono z1))
      clear k3
      go_wp2_with fail
      go_ret2
      refine ⟨ret_sb ?_, B3.out⟩
      have e1 := (HI.out).2
      rw [HQ.out, unq_nil, List.append_nil] at e1
      show (⟨out.toArray⟩ : ByteArray) = _
      rw [(HE.out).1, e1]; rfl
end Go.Proofs.YtbhcniemkjoflaaDoor
