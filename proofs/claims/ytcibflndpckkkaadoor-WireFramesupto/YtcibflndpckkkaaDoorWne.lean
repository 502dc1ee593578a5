/- A Reader of frames: the ends of lines. -/
import Derived.Test.YtcibflndpckkkaaDoorWnb
import Derived.Laws.BytesArg
namespace Go.Proofs.YtcibflndpckkkaaDoor
open Go.RowKit
open Wi
variable {w w' : World}

/-- Bytes in a row. -/
def Byt (w : World) (g o : Nat) (x : List UInt8) : Prop := ∀ i, i < x.length → w.cell? ⟨g, o + i, none⟩ = some (.int .u8 ((x.map fun c => (c.toNat : Int)).getD i 0))
theorem Byt.conv {g o cap : Nat} {x : List UInt8} (h : Byt w g o x) : (convert 53 9 (.slice (some ⟨g, o, none⟩) x.length cap)).run Tryd.prog w = .ok (.string (ba x)) w := by
  rw [run_convert_bytes_arg (P := Tryd.prog) w 53 5 Tryd.underlying53 Tryd.underlying5 g o x.length cap (x.map fun c : UInt8 => (c.toNat : Int)) (by simp) h 9 Tryd.underlying9, str_bytesW]
theorem Byt.owns {base g n cap : Nat} {x : List UInt8} (h : w.ownsRow base 5 1 (.slice (some ⟨g, 0, none⟩) n cap) x.length (Lib.byteCells x)) : Byt w g 0 x := by
  intro i hi
  have hc := h.cells (g := g) rfl i (.int .u8 (x[i]'hi).toNat) (by simp [Lib.byteCells, hi])
  rw [Addr.add_lit] at hc
  rw [hc]; simp [hi]
theorem Byt.drop {g o : Nat} {x : List UInt8} (h : Byt w g o x) (j : Nat) : Byt w g (o + j) (x.drop j) := by
  intro i hi
  rw [List.length_drop] at hi
  have := h (j + i) (by omega)
  rw [Nat.add_assoc, this]
  simp [List.getElem?_drop]
theorem Byt.take {g o : Nat} {x : List UInt8} (h : Byt w g o x) (j : Nat) : Byt w g o (x.take j) := by
  intro i hi
  rw [List.length_take] at hi
  rw [h i (by omega)]
  simp [show i < j by omega]
theorem Byt.keep {S : Nat → Prop} {g o : Nat} {x : List UInt8} (h : Byt w g o x) (hk : Kp S w w') (hn : ¬ S g) : Byt w' g o x := fun i hi => hk.cellv (h i hi) hn
theorem Byt.below {g o : Nat} {x : List UInt8} (h : Byt w g o x) (hk : Below w.heap.size w w') : Byt w' g o x := h.keep (Kp.ofBelow hk (fun _ => False)) id
theorem Byt.new (x : List UInt8) (w : World) : Byt (w.alloc (.cells (Lib.byteCells x).toArray 5)) w.heap.size 0 x := by
  intro i hi
  have h := heap_alloc_new w (.cells (Lib.byteCells x).toArray 5)
  rw [Nat.zero_add]
  refine cell_blk h ?_
  simp [Lib.byteCells, hi]
set_option maxRecDepth 100000 in
theorem bEqual_any (g o ca g2 o2 cb : Nat) (x y : List UInt8) (hx : Byt w g o x) (hy : Byt w g2 o2 y) :
    Calls Tryd.prog 64 #[.slice (some ⟨g, o, none⟩) x.length ca, .slice (some ⟨g2, o2, none⟩) y.length cb] w fun e w' => e = .returned (.bool (decide (x = y))) ∧ w' = w := by
  have c1 := hx.conv (cap := ca)
  have c2 := hy.conv (cap := cb)
  have HE : Hid (((ba x).toList == (ba y).toList) = decide (x = y)) := by
    show _ = _
    rw [sb_eq, Bool.eq_iff_iff, decide_eq_true_iff, decide_eq_true_iff]
    exact ⟨fun e => by have := congrArg bs e; rwa [bs_ba, bs_ba] at this, fun e => by rw [e]⟩
  clear hx hy
  generalize ba x = X at *
  generalize ba y = Y at *
  generalize x.length = n at *
  generalize y.length = m at *
  go_enter Tryd.func64, Tryd.ntmps64
  go_wp2_with fail
  go_ret
  exact ⟨retbw HE.out, rfl⟩
/-- Does a row end so? -/
def endsB (x y : List UInt8) : Bool := decide (y.length ≤ x.length ∧ x.drop (x.length - y.length) = y)
set_option maxRecDepth 100000 in
set_option maxHeartbeats 2000000 in
theorem hasSuffix_any (g ca g2 cb : Nat) (x y : List UInt8) (hy0 : 0 < y.length) (hxl : x.length ≤ ca) (hca : ca ≤ maxLen) (hx : Byt w g 0 x) (hy : Byt w g2 0 y) :
    Calls Tryd.prog 42 #[.slice (some ⟨g, 0, none⟩) x.length ca, .slice (some ⟨g2, 0, none⟩) y.length cb] w fun e w' => e = .returned (.bool (endsB x y)) ∧ w' = w := by
  by_cases h : y.length ≤ x.length
  case neg =>
    have HE : Hid (endsB x y = false) := by show _ = _; unfold endsB; simp; omega
    have i1 : decide ((y.length : Int) ≤ (x.length : Int)) = false := by simp; omega
    have i2 : ¬ (y.length : Int) ≤ (x.length : Int) := by omega
    rw [HE.out]
    clear h hx hy HE
    go_enter Tryd.func42, Tryd.ntmps42
    go_wp2_with fail
    go_ret
    exact ⟨rfl, rfl⟩
  obtain ⟨j, hj⟩ : ∃ j, x.length = j + y.length := ⟨x.length - y.length, by omega⟩
  have hdl : (x.drop j).length = (j + y.length) - j := by simp; omega
  have HQ := hide (bEqual_any g (0 + j) (ca - j) g2 0 cb (x.drop j) y (hx.drop j) hy)
  rw [hdl, Nat.zero_add] at HQ
  have HE : Hid (endsB x y = decide (x.drop j = y)) := by
    show _ = _; unfold endsB
    rw [show x.length - y.length = j by omega]
    simp [h]
  rw [HE.out, hj]
  have hml : ca ≤ 9223372036854775807 := by unfold maxLen at hca; omega
  have hjca : j + y.length ≤ ca := by omega
  have e1 : ((j + y.length : Nat) : Int) - (y.length : Int) = (j : Int) := by omega
  have e2 : ¬ ca = j := by omega
  have e2' : ¬ j = ca := by omega
  have i1 : decide ((y.length : Int) ≤ ((j + y.length : Nat) : Int)) = true := by simp; omega
  have i2 : (y.length : Int) ≤ ((j + y.length : Nat) : Int) := by omega
  have i3 : (0 : Int) ≤ (j : Int) := by omega
  have i4 : (j : Int) ≤ ((j + y.length : Nat) : Int) := by omega
  have i5 : ((j + y.length : Nat) : Int) ≤ (ca : Int) := by omega
  clear h hx hy HE hj hdl hxl hca
  generalize x.drop j = D at *
  generalize hyl : y.length = k at *
  generalize hn : j + k = n at *
  go_enter Tryd.func42, Tryd.ntmps42
  go_wp2_with fail
  refine (HQ.out).mono ?_
  rintro e w2 ⟨rfl, rfl⟩
  go_wp2_with fail
  go_ret
  exact ⟨rfl, rfl⟩
theorem endsB_one (x : List UInt8) (c : UInt8) : endsB x [c] = decide (x.getLast? = some c) := by
  unfold endsB
  rw [Bool.eq_iff_iff, decide_eq_true_iff, decide_eq_true_iff]
  constructor
  · rintro ⟨h1, h2⟩
    rw [← List.take_append_drop (x.length - [c].length) x, h2]; simp
  · intro h
    have hne : x ≠ [] := fun e => by rw [e] at h; cases h
    obtain ⟨a, ha⟩ : ∃ a, a ++ [c] = x := by
      obtain ⟨a, b, e⟩ := List.eq_nil_or_concat x |>.resolve_left hne
      refine ⟨a, ?_⟩
      rw [e] at h ⊢
      simp at h
      rw [h]; simp
    refine ⟨by have := List.length_pos_iff.2 hne; simp; omega, ?_⟩
    rw [← ha]; simp
set_option maxRecDepth 100000 in
set_option maxHeartbeats 2000000 in
theorem trim_any (g ca g2 cb : Nat) (x : List UInt8) (hxl : x.length ≤ ca) (hca : ca ≤ maxLen) (hc0 : 0 < ca) (hx : Byt w g 0 x) (hy : Byt w g2 0 [13]) :
    Calls Tryd.prog 68 #[.slice (some ⟨g, 0, none⟩) x.length ca, .slice (some ⟨g2, 0, none⟩) 1 cb] w fun e w' => e = .returned (.slice (some ⟨g, 0, none⟩) (if x.getLast? = some 13 then x.length - 1 else x.length) ca) ∧ w' = w := by
  have HS := hide (hasSuffix_any g ca g2 cb x [13] (by decide) hxl hca hx hy)
  rw [endsB_one] at HS
  have hml : ca ≤ 9223372036854775807 := by unfold maxLen at hca; omega
  by_cases h : x.getLast? = some 13
  · rw [decide_eq_true h] at HS
    rw [if_pos h]
    have hne : 0 < x.length := List.length_pos_iff.2 (fun e => by rw [e] at h; cases h)
    obtain ⟨m, hm⟩ : ∃ m, x.length = m + 1 := ⟨x.length - 1, by omega⟩
    rw [hm] at HS ⊢
    have e1 : ((m + 1 : Nat) : Int) - 1 = (m : Int) := by omega
    have i3 : (0 : Int) ≤ (m : Int) := by omega
    have i4 : (m : Int) ≤ (ca : Int) := by omega
    have e2 : ¬ ca = 0 := by omega
    rw [show m + 1 - 1 = m by omega]
    clear h hx hy hca hne hm hxl
    generalize hmn : m + 1 = n at *
    go_enter Tryd.func68, Tryd.ntmps68
    go_wp2_with fail
    refine (HS.out).mono ?_
    rintro e w2 ⟨rfl, rfl⟩
    go_wp2_with fail
    go_ret
    exact ⟨rfl, rfl⟩
  · rw [decide_eq_false h] at HS
    rw [if_neg h]
    clear h hx hy hca hxl
    go_enter Tryd.func68, Tryd.ntmps68
    go_wp2_with fail
    refine (HS.out).mono ?_
    rintro e w2 ⟨rfl, rfl⟩
    go_wp2_with fail
    go_ret
    exact ⟨rfl, rfl⟩
theorem conv13 (w : World) : ∃ cap w1, (convert 9 53 (.string ((⟨#[13, 10]⟩ : ByteArray).extract 0 1))).run Tryd.prog w = .ok (.slice (some ⟨w.heap.size, 0, none⟩) 1 cap) w1 ∧ Byt w1 w.heap.size 0 [13] ∧ Below w.heap.size w w1 := by
  have hx : (⟨#[13, 10]⟩ : ByteArray).extract 0 1 = ⟨#[13]⟩ := by apply bs_inj; rw [bs_take]; rfl
  rw [hx]
  refine ⟨_, _, run_bytes_of_string (P := Tryd.prog) w 9 53 5 _ Tryd.underlying9 Tryd.underlying53 Tryd.underlying5, ?_, ?_⟩
  · intro i hi
    have : i = 0 := by simp at hi; exact hi
    subst this
    refine cell_blk (heap_alloc_new w.drew _) ?_
    simp only [bytesRow]
    rw [Array.getElem?_append_left (by simp)]; simp
  · exact ((Below.refl _ w).drew).alloc (by simp) _
theorem tooLong_eq (x : List UInt8) : decide (tooLong x) = decide (1000 < (if x.getLast? = some 13 then x.length - 1 else x.length)) := by
  rw [Bool.eq_iff_iff, decide_eq_true_iff, decide_eq_true_iff]
  unfold tooLong
  by_cases h : x.getLast? = some 13
  · rw [if_pos h]; simp [h]; omega
  · rw [if_neg h]; simp [h]
set_option maxRecDepth 100000 in
set_option maxHeartbeats 2000000 in
theorem tooLong_any (g ca : Nat) (x : List UInt8) (hxl : x.length ≤ ca) (hca : ca ≤ maxLen) (hc0 : 0 < ca) (hx : Byt w g 0 x) :
    Calls Tryd.prog 44 #[.slice (some ⟨g, 0, none⟩) x.length ca] w fun e w' => e = .returned (.bool (decide (tooLong x))) ∧ Below w.heap.size w w' := by
  obtain ⟨cb, w1, hcv, hb, k1⟩ := conv13 w
  have HS := hide (trim_any g ca w.heap.size cb x hxl hca hc0 (hx.below k1) hb)
  have HK := hide k1
  rw [tooLong_eq]
  have hml : ca ≤ 9223372036854775807 := by unfold maxLen at hca; omega
  have hnl : (if x.getLast? = some 13 then x.length - 1 else x.length) ≤ ca := by split <;> omega
  clear k1 hx hca hb hc0
  generalize (if x.getLast? = some 13 then x.length - 1 else x.length) = n at *
  have HD : Hid (decide ((1000 : Int) < (n : Int)) = decide (1000 < n)) := by
    show _ = _
    rw [Bool.eq_iff_iff, decide_eq_true_iff, decide_eq_true_iff]; omega
  go_enter Tryd.func44, Tryd.ntmps44
  go_wp2_with fail
  refine (HS.out).mono ?_
  rintro e w2 ⟨rfl, rfl⟩
  go_wp2_with fail
  go_ret
  refine ⟨?_, HK.out⟩
  first | rfl | exact retbw HD.out
end Go.Proofs.YtcibflndpckkkaaDoor
