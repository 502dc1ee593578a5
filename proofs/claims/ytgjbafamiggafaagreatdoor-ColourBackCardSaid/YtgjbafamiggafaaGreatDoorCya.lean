/- Colours: rows of them in memory, and how many are the same from the beginning on. -/
import Derived.Test.YtgjbafamiggafaaGreatDoorKa
import Derived.Test.YtgjbafamiggafaaGreatDoorProg
import Derived.Laws.StructEq
import Derived.Laws.AppendOwn
import Derived.Deep.AppendLies
import Derived.Lib.SliceRun
import Derived.WalkSpells
import Derived.Deep.RegionHeld3
import Derived.BigQuiet
namespace Go.Proofs.YtgjbafamiggafaaGreatDoor
open Go.RowKit

/-- A colour: its line, unit, length and kind. -/
abbrev Cl := Int × Int × Int × Int
def clv (c : Cl) : List Value := [.int .i64 c.1, .int .i64 c.2.1, .int .i64 c.2.2.1, .int .i64 c.2.2.2]
/-- How many are the same, from the beginning of both on. -/
def pre : List Cl → List Cl → Nat
  | x :: xs, y :: ys => if x = y then pre xs ys + 1 else 0
  | _, _ => 0
theorem pre_le : ∀ (a b : List Cl), pre a b ≤ a.length ∧ pre a b ≤ b.length
  | [], _ => by simp [pre]
  | _ :: _, [] => by simp [pre]
  | x :: xs, y :: ys => by
    have := pre_le xs ys
    unfold pre; split <;> simp <;> omega
theorem pre_at : ∀ (a b : List Cl) (n : Nat), n ≤ pre a b → (n < pre a b ↔ (n < a.length ∧ n < b.length ∧ a[n]? = b[n]?))
  | [], b, n, h => by simp [pre] at *
  | x :: xs, [], n, h => by simp [pre] at *
  | x :: xs, y :: ys, 0, h => by
    unfold pre; split
    · rename_i e; simp [e]
    · rename_i e; simp [e]
  | x :: xs, y :: ys, n + 1, h => by
    unfold pre at h ⊢
    split at h
    · rename_i e
      have := pre_at xs ys n (by omega)
      rw [if_pos e, Nat.add_lt_add_iff_right, this]; simp
    · omega
theorem pre_take : ∀ (a b : List Cl) (n : Nat), n ≤ pre a b → a.take n = b.take n
  | [], b, n, h => by simp [pre] at h; subst h; simp
  | x :: xs, [], n, h => by simp [pre] at h; subst h; simp
  | x :: xs, y :: ys, 0, h => by simp
  | x :: xs, y :: ys, n + 1, h => by
    unfold pre at h
    split at h
    · rename_i e
      rw [List.take_succ_cons, List.take_succ_cons, pre_take xs ys n (by omega), e]
    · omega

/-- A row of colours that can be read. -/
def IsC (w : World) (v : Value) (L : List Cl) : Prop :=
  ∃ ao cap, v = .slice ao L.length cap ∧ L.length ≤ cap ∧ (L.length ≤ 1073741824 ∧ cap ≤ maxLen) ∧ (∀ i, i < L.length → ∃ b o, ao = some ⟨b, o, none⟩ ∧ ∀ r, L[i]? = some r →
    w.cell? ⟨b, o + i * 4, none⟩ = some (.int .i64 r.1) ∧ w.cell? ⟨b, o + i * 4 + 1, none⟩ = some (.int .i64 r.2.1) ∧ w.cell? ⟨b, o + i * 4 + 2, none⟩ = some (.int .i64 r.2.2.1) ∧ w.cell? ⟨b, o + i * 4 + 3, none⟩ = some (.int .i64 r.2.2.2))
theorem IsC.below {w w' : World} {v : Value} {L : List Cl} (h : IsC w v L) (hk : Below w.heap.size w w') : IsC w' v L := by
  obtain ⟨ao, cap, rfl, h1, h2, h3⟩ := h
  refine ⟨ao, cap, rfl, h1, h2, fun i hi => ?_⟩
  obtain ⟨b, o, rfl, ha⟩ := h3 i hi
  refine ⟨b, o, rfl, fun r hr => ?_⟩
  obtain ⟨q1, q2, q3, q4⟩ := ha r hr
  have hk := Kp.ofBelow hk (fun _ => False)
  exact ⟨hk.cellv q1 id, hk.cellv q2 id, hk.cellv q3 id, hk.cellv q4 id⟩
theorem IsC.get {w : World} {ao : Option Addr} {n cap : Nat} {L : List Cl} (h : IsC w (.slice ao n cap) L) {k : Nat} (hk : k < L.length) :
    ∃ b o r, ao = some ⟨b, o, none⟩ ∧ L[k]? = some r ∧ w.cell? ⟨b, o + k * 4, none⟩ = some (.int .i64 r.1) ∧ w.cell? ⟨b, o + k * 4 + 1, none⟩ = some (.int .i64 r.2.1) ∧ w.cell? ⟨b, o + k * 4 + 2, none⟩ = some (.int .i64 r.2.2.1) ∧ w.cell? ⟨b, o + k * 4 + 3, none⟩ = some (.int .i64 r.2.2.2) := by
  obtain ⟨_, _, e, _, _, h3⟩ := h
  cases e
  obtain ⟨b, o, ha, h4⟩ := h3 k hk
  obtain ⟨q1, q2, q3, q4⟩ := h4 L[k] (List.getElem?_eq_getElem hk)
  exact ⟨b, o, L[k], ha, List.getElem?_eq_getElem hk, q1, q2, q3, q4⟩
/-- The first ones. -/
theorem IsC.take {w : World} {ao : Option Addr} {n cap : Nat} {L : List Cl} (h : IsC w (.slice ao n cap) L) {k : Nat} (hk : k ≤ L.length) : IsC w (.slice ao k cap) (L.take k) := by
  obtain ⟨_, _, e, h1, h2, h3⟩ := h
  cases e
  refine ⟨ao, cap, by rw [List.length_take, Nat.min_eq_left hk], by rw [List.length_take]; omega, ⟨by rw [List.length_take]; omega, h2.2⟩, fun i hi => ?_⟩
  rw [List.length_take] at hi
  obtain ⟨b, o, ha, h4⟩ := h3 i (by omega)
  exact ⟨b, o, ha, fun r hr => h4 r (by rwa [List.getElem?_take_of_lt (by omega)] at hr)⟩
/-- The others. -/
theorem IsC.drop {w : World} {ao : Option Addr} {n cap : Nat} {L : List Cl} (h : IsC w (.slice ao n cap) L) {k : Nat} (hk : k ≤ L.length) : IsC w (.slice (ao.map fun x => x.add (k * 4)) (L.length - k) (cap - k)) (L.drop k) := by
  obtain ⟨_, _, e, h1, h2, h3⟩ := h
  cases e
  refine ⟨_, _, by rw [List.length_drop], by rw [List.length_drop]; omega, ⟨by rw [List.length_drop]; omega, by have := h2.2; omega⟩, fun i hi => ?_⟩
  rw [List.length_drop] at hi
  obtain ⟨b, o, ha, h4⟩ := h3 (k + i) (by omega)
  refine ⟨b, o + k * 4, by rw [ha, Option.map_some, Addr.add_lit], fun r hr => ?_⟩
  rw [List.getElem?_drop] at hr
  have := h4 r hr
  rwa [show o + k * 4 + i * 4 = o + (k + i) * 4 by omega]
theorem IsC.none {w : World} (cap : Nat) (hc : cap ≤ maxLen) (ao : Option Addr) : IsC w (.slice ao 0 cap) [] := ⟨ao, cap, rfl, Nat.zero_le _, ⟨by simp, hc⟩, fun i hi => by simp at hi⟩

theorem clv_len (L : List Cl) : (L.flatMap clv).length = L.length * 4 := by
  induction L with
  | nil => rfl
  | cons t L ih => rw [List.flatMap_cons, List.length_append, ih, List.length_cons]; unfold clv; simp; omega
theorem clv_one (L : List Cl) : ∀ u ∈ L.flatMap clv, u.oneCell' = true := by
  intro u hu
  obtain ⟨t, -, ht⟩ := List.mem_flatMap.1 hu
  unfold clv at ht
  simp only [List.mem_cons, List.not_mem_nil, or_false] at ht
  rcases ht with rfl | rfl | rfl | rfl <;> rfl
theorem clv_at (L : List Cl) : ∀ (i j : Nat) (r : Cl), L[i]? = some r → j < 4 → (L.flatMap clv)[i * 4 + j]? = (clv r)[j]? := by
  induction L with
  | nil => intro i j r h; simp at h
  | cons a L ih =>
    intro i j r hr hj
    cases i with
    | zero =>
      obtain rfl : a = r := by simpa using hr
      rw [List.flatMap_cons, List.getElem?_append_left (by simp [clv]; omega)]; simp
    | succ i =>
      rw [List.flatMap_cons, List.getElem?_append_right (by simp [clv]; omega)]
      rw [show (i + 1) * 4 + j - (clv a).length = i * 4 + j by simp [clv]; omega]
      exact ih i j r (by simpa using hr) hj
/-- All cells of a row, one by one. -/
theorem IsC.cells {w : World} {b o n cap : Nat} {L : List Cl} (h : IsC w (.slice (some ⟨b, o, .none⟩) n cap) L) : ∀ j u, (L.flatMap clv)[j]? = some u → w.cell? ⟨b, o + j, .none⟩ = some u := by
  intro j u hu
  have hj : j < L.length * 4 := by
    rw [← clv_len]
    rcases Nat.lt_or_ge j (L.flatMap clv).length with g | g
    · exact g
    · rw [List.getElem?_eq_none g] at hu; cases hu
  obtain ⟨b', o', r, e, hr, q1, q2, q3, q4⟩ := h.get (k := j / 4) (by omega)
  injection e with e
  injection e with e1 e2
  subst e1; subst e2
  have hu' := clv_at L (j / 4) (j % 4) r hr (by omega)
  rw [show j / 4 * 4 + j % 4 = j by omega, hu] at hu'
  have : j % 4 = 0 ∨ j % 4 = 1 ∨ j % 4 = 2 ∨ j % 4 = 3 := by omega
  rw [show o + j = o + j / 4 * 4 + j % 4 by omega]
  rcases this with g | g | g | g <;> rw [g] at hu' ⊢ <;> simp [clv] at hu' <;> subst hu'
  · exact q1
  · exact q2
  · exact q3
  · exact q4
theorem IsC.ofOwns {w : World} {base : Nat} {e : TypeId} {v : Value} {L : List Cl} (h : w.ownsRow base e 4 v L.length (L.flatMap clv)) (hl : L.length ≤ 1073741824) : IsC w v L := by
  have hcl := fun g hg => h.cells (g := g) hg
  rcases h.2 with ⟨rfl, h0⟩ | ⟨g, cap, cur, rfl, hb, hg, hn, hm, hs, ht⟩
  · exact ⟨.none, 0, by rw [h0], by omega, ⟨hl, by unfold maxLen; omega⟩, fun i hi => by omega⟩
  · refine ⟨_, cap, rfl, hn, ⟨hl, hm⟩, fun i hi => ⟨_, _, rfl, fun r hr => ?_⟩⟩
    have ad : ∀ n, (⟨g, 0, .none⟩ : Addr).add n = ⟨g, 0 + n, .none⟩ := by intro n; unfold Addr.add; split <;> simp_all
    have c0 := hcl g rfl (i * 4) _ ((clv_at L i 0 r hr (by omega)).trans rfl)
    have c1 := hcl g rfl (i * 4 + 1) _ ((clv_at L i 1 r hr (by omega)).trans rfl)
    have c2 := hcl g rfl (i * 4 + 2) _ ((clv_at L i 2 r hr (by omega)).trans rfl)
    have c3 := hcl g rfl (i * 4 + 3) _ ((clv_at L i 3 r hr (by omega)).trans rfl)
    rw [ad] at c0 c1 c2 c3
    exact ⟨c0, by rw [Nat.add_assoc]; exact c1, by rw [Nat.add_assoc]; exact c2, by rw [Nat.add_assoc]; exact c3⟩

set_option maxRecDepth 100000 in
/-- Two colours held against each other. -/
theorem eqIn (w : World) (x y : Cl) : (Op.equalIn 10000 42 (.agg #[.int .i64 x.1, .int .i64 x.2.1, .int .i64 x.2.2.1, .int .i64 x.2.2.2]) (.agg #[.int .i64 y.1, .int .i64 y.2.1, .int .i64 y.2.2.1, .int .i64 y.2.2.2])).run Tryz.prog w = .ok (decide (x = y)) w := by
  obtain ⟨x1, x2, x3, x4⟩ := x
  obtain ⟨y1, y2, y3, y4⟩ := y
  have : decide ((x1, x2, x3, x4) = (y1, y2, y3, y4)) = ((x1 == y1) && ((x2 == y2) && ((x3 == y3) && (x4 == y4)))) := by
    rw [Bool.eq_iff_iff]; simp [Prod.ext_iff]
  rw [this, run_equalIn_struct w 9999 42 _ _ Tryz.underlying42 (by kernel_rfl)]
  simp [Program.fieldsOf, Tryz.underlying42, Op.eqFields, go_sem, Tryz.underlying3, Tryz.isAgg3, Tryz.sizeOf3]
  by_cases h1 : x1 = y1 <;> by_cases h2 : x2 = y2 <;> by_cases h3 : x3 = y3 <;> by_cases h4 : x4 = y4 <;> simp [h1, h2, h3, h4]
theorem eqC (w : World) (x y : Cl) : (binOp .eql 42 (.agg #[.int .i64 x.1, .int .i64 x.2.1, .int .i64 x.2.2.1, .int .i64 x.2.2.2]) (.agg #[.int .i64 y.1, .int .i64 y.2.1, .int .i64 y.2.2.1, .int .i64 y.2.2.2])).run Tryz.prog w = .ok (.bool (decide (x = y))) w := by
  rw [run_eql_struct, eqIn]; rfl
theorem neC (w : World) (x y : Cl) : (binOp .neq 42 (.agg #[.int .i64 x.1, .int .i64 x.2.1, .int .i64 x.2.2.1, .int .i64 x.2.2.2]) (.agg #[.int .i64 y.1, .int .i64 y.2.1, .int .i64 y.2.2.1, .int .i64 y.2.2.2])).run Tryz.prog w = .ok (.bool (!decide (x = y))) w := by
  rw [run_neq_struct, eqIn]; rfl
theorem guardC : Tryz.prog.eqGuardType Tryz.prog.depth 42 = false := by kernel_rfl
end Go.Proofs.YtgjbafamiggafaaGreatDoor
/- Colours: how many are the same from the beginning, and to the end, of both. -/
namespace Go.Proofs.YtgjbafamiggafaaGreatDoor
open Go.RowKit

set_option maxRecDepth 100000 in
set_option maxHeartbeats 1000000 in
theorem ahead_any (va vb : Value) (a b : List Cl) (w : World) (ha : IsC w va a) (hb : IsC w vb b) :
    Calls Tryz.prog 16 #[va, vb] w fun e w' => e = .returned (.int .i64 (pre a b : Nat)) ∧ Below w.heap.size w w' := by
  have HA := hide ha
  have HB := hide hb
  obtain ⟨ao, ca, rfl, h1, ⟨h2, -⟩, -⟩ := ha
  obtain ⟨bo, cb, rfl, h3, ⟨h4, -⟩, -⟩ := hb
  have HP := hide (pre_le a b)
  go_enter Tryz.func16, Tryz.ntmps16
  go_wp2_with fail
  go_loopw [5] (fun v wr => ∃ n : Nat, v = .int .i64 n ∧ n ≤ a.length ∧ Hid (n ≤ pre a b) ∧ Hid (Below w.heap.size w wr)) (fun v _ => a.length - (intOf v).toNat)
  case atStart => exact ⟨0, rfl, Nat.zero_le _, Nat.zero_le _, Below.refl _ _⟩
  case round =>
    obtain ⟨n, rfl, hn, HN, HK⟩ := hrel
    have HS := hide (pre_at a b n HN.out)
    by_cases g1 : n < a.length
    case neg =>
      have i1 : decide ((n : Int) < (a.length : Int)) = false := by simp; omega
      have j1 : decide (n < a.length) = false := by simp; omega
      have HE : Hid (pre a b = n) := by have := HN.out; have := (HP.out).1; show _ = _; omega
      clear g1
      go_wp2_with fail
      go_quiet (fail)
      go_wp2_with fail
      go_ret
      exact ⟨by rw [HE.out]; rfl, belowN HK.out _⟩
    have i1 : decide ((n : Int) < (a.length : Int)) = true := by simp; omega
    have j1 : decide (n < a.length) = true := by simp; omega
    by_cases g2 : n < b.length
    case neg =>
      have i2 : decide ((n : Int) < (b.length : Int)) = false := by simp; omega
      have j2 : decide (n < b.length) = false := by simp; omega
      have HE : Hid (pre a b = n) := by have := HN.out; have := (HP.out).2; show _ = _; omega
      clear g2
      go_wp2_with fail
      go_quiet (fail)
      go_wp2_with fail
      go_ret
      exact ⟨by rw [HE.out]; rfl, belowN HK.out _⟩
    have i2 : decide ((n : Int) < (b.length : Int)) = true := by simp; omega
    have j2 : decide (n < b.length) = true := by simp; omega
    obtain ⟨b1, o1, x, rfl, ex, p1, p2, p3, p4⟩ := ((HA.out).below HK.out).get g1
    obtain ⟨b2, o2, y, rfl, ey, q1, q2, q3, q4⟩ := ((HB.out).below HK.out).get g2
    have HX := hide ex
    have HY := hide ey
    clear ex ey
    have e1 := fun W => eqC W x y
    have e2 := guardC
    have i3 : (n : Int) < (a.length : Int) := by omega
    have i4 : (n : Int) < (b.length : Int) := by omega
    by_cases g3 : x = y
    · have i5 : decide (x = y) = true := decide_eq_true g3
      have HN1 : Hid (n < pre a b) := (HS.out).2 ⟨g1, g2, by rw [HX.out, HY.out, g3]⟩
      clear g3
      rw [i5] at e1
      go_wp2_with fail
      go_quiet (fail)
      go_wp2_with fail
      refine ⟨⟨n + 1, by simp, by omega, HN1.out, belowN HK.out _⟩, ?_⟩
      show a.length - (n + 1) < a.length - n
      omega
    · have i5 : decide (x = y) = false := decide_eq_false g3
      have HE : Hid (pre a b = n) := by
        have q0 : ¬ n < pre a b := fun h => g3 (by have := ((HS.out).1 h).2.2; rw [HX.out, HY.out] at this; exact Option.some.inj this)
        have := HN.out; show _ = _; omega
      clear g3
      rw [i5] at e1
      go_wp2_with fail
      go_quiet (fail)
      go_wp2_with fail
      go_ret
      exact ⟨by rw [HE.out]; rfl, belowN HK.out _⟩

set_option maxRecDepth 100000 in
set_option maxHeartbeats 1000000 in
theorem behind_any (va vb : Value) (a b : List Cl) (w : World) (ha : IsC w va a) (hb : IsC w vb b) :
    Calls Tryz.prog 17 #[va, vb] w fun e w' => e = .returned (.int .i64 (pre a.reverse b.reverse : Nat)) ∧ Below w.heap.size w w' := by
  have HA := hide ha
  have HB := hide hb
  obtain ⟨ao, ca, rfl, h1, ⟨h2, -⟩, -⟩ := ha
  obtain ⟨bo, cb, rfl, h3, ⟨h4, -⟩, -⟩ := hb
  have HP := hide (pre_le a.reverse b.reverse)
  rw [List.length_reverse, List.length_reverse] at HP
  go_enter Tryz.func17, Tryz.ntmps17
  go_wp2_with fail
  go_loopw [5] (fun v wr => ∃ n : Nat, v = .int .i64 n ∧ n ≤ a.length ∧ Hid (n ≤ pre a.reverse b.reverse) ∧ Hid (Below w.heap.size w wr)) (fun v _ => a.length - (intOf v).toNat)
  case atStart => exact ⟨0, rfl, Nat.zero_le _, Nat.zero_le _, Below.refl _ _⟩
  case round =>
    obtain ⟨n, rfl, hn, HN, HK⟩ := hrel
    have HS := hide (pre_at a.reverse b.reverse n HN.out)
    rw [List.length_reverse, List.length_reverse] at HS
    by_cases g1 : n < a.length
    case neg =>
      have i1 : decide ((n : Int) < (a.length : Int)) = false := by simp; omega
      have j1 : decide (n < a.length) = false := by simp; omega
      have HE : Hid (pre a.reverse b.reverse = n) := by have := HN.out; have := (HP.out).1; show _ = _; omega
      clear g1
      go_wp2_with fail
      go_quiet (fail)
      go_wp2_with fail
      go_ret
      exact ⟨by rw [HE.out]; rfl, belowN HK.out _⟩
    have i1 : decide ((n : Int) < (a.length : Int)) = true := by simp; omega
    have j1 : decide (n < a.length) = true := by simp; omega
    by_cases g2 : n < b.length
    case neg =>
      have i2 : decide ((n : Int) < (b.length : Int)) = false := by simp; omega
      have j2 : decide (n < b.length) = false := by simp; omega
      have HE : Hid (pre a.reverse b.reverse = n) := by have := HN.out; have := (HP.out).2; show _ = _; omega
      clear g2
      go_wp2_with fail
      go_quiet (fail)
      go_wp2_with fail
      go_ret
      exact ⟨by rw [HE.out]; rfl, belowN HK.out _⟩
    have i2 : decide ((n : Int) < (b.length : Int)) = true := by simp; omega
    have j2 : decide (n < b.length) = true := by simp; omega
    rw [List.getElem?_reverse g1, List.getElem?_reverse g2] at HS
    obtain ⟨k, hk⟩ : ∃ k, a.length - 1 - n = k := ⟨_, rfl⟩
    obtain ⟨l, hl⟩ : ∃ l, b.length - 1 - n = l := ⟨_, rfl⟩
    rw [hk, hl] at HS
    have g1' : k < a.length := by omega
    have g2' : l < b.length := by omega
    have m1 : (a.length : Int) - 1 - n = (k : Int) := by omega
    have m2 : (b.length : Int) - 1 - n = (l : Int) := by omega
    clear hk hl
    obtain ⟨b1, o1, x, rfl, ex, p1, p2, p3, p4⟩ := ((HA.out).below HK.out).get g1'
    obtain ⟨b2, o2, y, rfl, ey, q1, q2, q3, q4⟩ := ((HB.out).below HK.out).get g2'
    have HX := hide ex
    have HY := hide ey
    clear ex ey
    have e1 := fun W => eqC W x y
    have e2 := guardC
    have i3 : (k : Int) < (a.length : Int) := by omega
    have i4 : (l : Int) < (b.length : Int) := by omega
    by_cases g3 : x = y
    · have i5 : decide (x = y) = true := decide_eq_true g3
      have HN1 : Hid (n < pre a.reverse b.reverse) := (HS.out).2 ⟨g1, g2, by rw [HX.out, HY.out, g3]⟩
      clear g3
      rw [i5] at e1
      go_wp2_with fail
      go_quiet (fail)
      go_wp2_with fail
      refine ⟨⟨n + 1, by simp, by omega, HN1.out, belowN HK.out _⟩, ?_⟩
      show a.length - (n + 1) < a.length - n
      omega
    · have i5 : decide (x = y) = false := decide_eq_false g3
      have HE : Hid (pre a.reverse b.reverse = n) := by
        have q0 : ¬ n < pre a.reverse b.reverse := fun h => g3 (by have := ((HS.out).1 h).2.2; rw [HX.out, HY.out] at this; exact Option.some.inj this)
        have := HN.out; show _ = _; omega
      clear g3
      rw [i5] at e1
      go_wp2_with fail
      go_quiet (fail)
      go_wp2_with fail
      go_ret
      exact ⟨by rw [HE.out]; rfl, belowN HK.out _⟩
end Go.Proofs.YtgjbafamiggafaaGreatDoor
