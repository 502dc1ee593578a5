/- Trees in memory, and what pair, level, join and build make of them. -/
import Derived.Test.YtopeagigdgjchaaDoorRWc
import Derived.Deep.RegionHeld3
import Derived.Deep.QuietTactic
import Derived.BigQuiet
namespace Go.Proofs.YtopeagigdgjchaaDoor.Rp
open Go.RowKit
open M

/-- A node in memory. -/
def Node (w : World) (b : Nat) (vl vr : Option Addr) (t : ByteArray) (h a1 a2 a3 a4 : Nat) : Prop :=
  w.heap[b]? = some (.cells #[.pointer vl, .pointer vr, .string t, .int .i64 h, .int .i64 a1, .int .i64 a2, .int .i64 a3, .int .i64 a4] 97 (0, 0))
theorem Node.lt {w : World} {b : Nat} {vl vr : Option Addr} {t : ByteArray} {h a1 a2 a3 a4 : Nat} (k : Node w b vl vr t h a1 a2 a3 a4) : b < w.heap.size := by
  unfold Node at k
  by_cases hb : b < w.heap.size
  · exact hb
  · rw [Array.getElem?_eq_none (by omega)] at k; cases k
theorem Node.below {w w' : World} {b : Nat} {vl vr : Option Addr} {t : ByteArray} {h a1 a2 a3 a4 : Nat} (k : Node w b vl vr t h a1 a2 a3 a4) (hb : Below w.heap.size w w') : Node w' b vl vr t h a1 a2 a3 a4 :=
  (hb.block b k.lt).trans k
theorem Node.facts {w : World} {b : Nat} {vl vr : Option Addr} {t : ByteArray} {h a1 a2 a3 a4 : Nat} (k : Node w b vl vr t h a1 a2 a3 a4) :
    w.cell? ⟨b, 0, none⟩ = some (.pointer vl) ∧ w.cell? ⟨b, 1, none⟩ = some (.pointer vr) ∧ w.cell? ⟨b, 2, none⟩ = some (.string t) ∧ w.cell? ⟨b, 3, none⟩ = some (.int .i64 h) ∧
    w.cell? ⟨b, 4, none⟩ = some (.int .i64 a1) ∧ w.cell? ⟨b, 5, none⟩ = some (.int .i64 a2) ∧ w.cell? ⟨b, 6, none⟩ = some (.int .i64 a3) ∧ w.cell? ⟨b, 7, none⟩ = some (.int .i64 a4) := by
  unfold Node at k
  refine ⟨?_, ?_, ?_, ?_, ?_, ?_, ?_, ?_⟩ <;> simp [World.cell?, k]

theorem World.heap_alloc_new' (w : World) (o : Obj) : (w.alloc o).heap[w.heap.size]? = some o := by
  show (w.heap.push _)[w.heap.size]? = _
  simp
theorem kc {w w1 : World} (hb : Below w.drew.heap.size w.drew w1) {b o : Nat} {v : Value} (hl : b < w.heap.size) (h : w.cell? ⟨b, o, none⟩ = some v) : w1.cell? ⟨b, o, none⟩ = some v :=
  ((bcell hb).1 b o hl).trans h

set_option maxHeartbeats 1000000 in
theorem pair_raw (a b : Nat) (vl vr ul ur : Option Addr) (t s : ByteArray) (h a1 a2 a3 a4 h' b1 b2 b3 b4 : Nat) (w : World)
    (ka : Node w a vl vr t h a1 a2 a3 a4) (kb : Node w b ul ur s h' b1 b2 b3 b4)
    (hh : h ≤ 1125899906842624) (hh' : h' ≤ 1125899906842624) (ha1 : a1 ≤ 1125899906842624) (ha2 : a2 ≤ 1125899906842624) (ha3 : a3 ≤ 1125899906842624) (ha4 : a4 ≤ 2251799813685248) (hb1 : b1 ≤ 1125899906842624) (hb2 : b2 ≤ 1125899906842624) (hb3 : b3 ≤ 1125899906842624) (hb4 : b4 ≤ 2251799813685248) :
    Calls Tryd.prog 58 #[.pointer (some ⟨a, 0, none⟩), .pointer (some ⟨b, 0, none⟩)] w fun e w' => ∃ c, e = .returned (.pointer (some ⟨c, 0, none⟩)) ∧ w.heap.size ≤ c ∧
      Node w' c (some ⟨a, 0, none⟩) (some ⟨b, 0, none⟩) ByteArray.empty (max h h' + 1) (a1 + b1) (a2 + b2) (a3 + b3) (a4 + b4) ∧ Below w.heap.size w w' := by
  obtain ⟨p0, p1, p2, p3, p4, p5, p6, p7⟩ := ka.facts
  obtain ⟨q0, q1, q2, q3, q4, q5, q6, q7⟩ := kb.facts
  have la := ka.lt
  have lb := kb.lt
  have hwrap : IntKind.i64.wrap (max (h : Int) (h' : Int) + 1) = ((max h h' + 1 : Nat) : Int) := by
    rw [IntKind.wrap_i64]
    omega
  have Hwrap := hide hwrap
  clear ka kb hwrap
  go_enter Tryd.func58, Tryd.ntmps58
  go_wp2_with fail
  go_region_held3 (fun w' => w'.cell? ⟨a, 3, none⟩ = some (.int .i64 h) ∧ w'.cell? ⟨b, 3, none⟩ = some (.int .i64 h') ∧ w'.cell? ⟨a, 4, none⟩ = some (.int .i64 a1) ∧ w'.cell? ⟨a, 5, none⟩ = some (.int .i64 a2) ∧ w'.cell? ⟨a, 6, none⟩ = some (.int .i64 a3) ∧ w'.cell? ⟨a, 7, none⟩ = some (.int .i64 a4) ∧ w'.cell? ⟨b, 4, none⟩ = some (.int .i64 b1) ∧ w'.cell? ⟨b, 5, none⟩ = some (.int .i64 b2) ∧ w'.cell? ⟨b, 6, none⟩ = some (.int .i64 b3) ∧ w'.cell? ⟨b, 7, none⟩ = some (.int .i64 b4)) (first | go_keep | exact ⟨kc hb1 la p3, kc hb1 lb q3, kc hb1 la p4, kc hb1 la p5, kc hb1 la p6, kc hb1 la p7, kc hb1 lb q4, kc hb1 lb q5, kc hb1 lb q6, kc hb1 lb q7⟩)
    ((go_at_call 65; refine (plus_any a1 a2 a3 a4 b1 b2 b3 b4 _ (by omega) (by omega) (by omega) (by omega) (by omega) (by omega) (by omega) (by omega)).mono ?_; rintro e w1 ⟨rfl, hb1⟩))
  all_goals
    go_wp2_with fail
    go_ret
    refine ⟨w1.heap.size, rfl, by have := hb1.size; exact this, ?_, ?_⟩
    · rw [Hwrap.out]
      exact (World.heap_alloc_new' w1 _)
    · exact ((Below.refl _ w).drew.trans hb1).alloc (by have := hb1.size; exact this) _
end Go.Proofs.YtopeagigdgjchaaDoor.Rp
