/- sort.Search, laid at this program; the tokens that end by a place, and those that begin at one. -/
import Derived.Shelf.SlSorted.Search
import Derived.Test.YtgpfmnaglbbebaaDoorOa
import Derived.Deep.RegionHeld3
import Derived.Deep.Cut
namespace Go.Proofs
open Go.Shelf
def Tryd.laysO16_ren : Go.Shelf.Ren := ⟨fun | 16 => 61 | n => n, fun | 3 => 3 | 4 => 4 | 35 => 85 | 38 => 112 | n => n, fun | n => n⟩
theorem Tryd.laysO16 : SlLaysO.n16 Tryd.prog Tryd.laysO16_ren := {
  mixed := by kernel_rfl
  f16 := Tryd.func61.trans (congrArg some (by kernel_rfl))
  t3 := Tryd.underlying3
  a3 := Tryd.isAgg3
  z3 := Tryd.sizeOf3
  v3 := Tryd.zeroValue3
  t4 := Tryd.underlying4
  a4 := Tryd.isAgg4
  z4 := Tryd.sizeOf4
  v4 := Tryd.zeroValue4
  t35 := Tryd.underlying85
  a35 := Tryd.isAgg85
  z35 := Tryd.sizeOf85
  v35 := Tryd.zeroValue85
  t38 := Tryd.underlying112
  a38 := Tryd.isAgg112
  z38 := Tryd.sizeOf112
  v38 := Tryd.zeroValue112 }
end Go.Proofs
namespace Go.Proofs.YtgpfmnaglbbebaaDoor
open Go.RowKit
open M
set_option maxRecDepth 100000 in
set_option maxHeartbeats 4000000 in
theorem endBy_fn (b1 b2 : Nat) (v : Value) (L : List Tk) (c : Int) (w : World) (i : Nat) (t : Tk) (p1 : w.cell? ⟨b1, 0, none⟩ = some v) (p2 : w.cell? ⟨b2, 0, none⟩ = some (.int .i64 c)) (H : Hid (IsT w v L)) (hi : i < L.length) (ht : L[i]? = some t) (hb : t.pos + t.len ≤ 4294967296) :
    Calls Tryd.prog 81 #[.int .i64 i, .pointer (some ⟨b1, 0, none⟩), .pointer (some ⟨b2, 0, none⟩)] w fun e w' => e = .returned (.bool (decide (c < (t.pos : Int) + t.len))) ∧ ∃ n, w' = w.drewN n := by
  obtain ⟨ao, cap, rfl, hc1, hc2, -⟩ := H.out
  obtain ⟨b, o, t', rfl, ht', q1, q2, q3⟩ := (H.out).get (Below.refl _ w) (k := i) hi
  obtain rfl : t = t' := Option.some.inj (ht.symm.trans ht')
  clear ht ht'
  have hi9 : i ≤ 9223372036854775806 := by unfold maxLen at hc2; omega
  go_enter Tryd.func81, Tryd.ntmps81
  go_wp2_with fail
  go_region
  all_goals go_wp2_with fail
  all_goals go_ret
  all_goals exact ⟨rfl, 1, rfl⟩
set_option maxRecDepth 100000 in
set_option maxHeartbeats 4000000 in
theorem begAt_fn (b1 b2 : Nat) (v : Value) (L : List Tk) (c : Int) (w : World) (i : Nat) (t : Tk) (p1 : w.cell? ⟨b1, 0, none⟩ = some v) (p2 : w.cell? ⟨b2, 0, none⟩ = some (.int .i64 c)) (H : Hid (IsT w v L)) (hi : i < L.length) (ht : L[i]? = some t) :
    Calls Tryd.prog 62 #[.int .i64 i, .pointer (some ⟨b1, 0, none⟩), .pointer (some ⟨b2, 0, none⟩)] w fun e w' => e = .returned (.bool (decide (c ≤ (t.pos : Int)))) ∧ ∃ n, w' = w.drewN n := by
  obtain ⟨ao, cap, rfl, hc1, hc2, -⟩ := H.out
  obtain ⟨b, o, t', rfl, ht', q1, q2, q3⟩ := (H.out).get (Below.refl _ w) (k := i) hi
  obtain rfl : t = t' := Option.some.inj (ht.symm.trans ht')
  clear ht ht'
  have hi9 : i ≤ 9223372036854775806 := by unfold maxLen at hc2; omega
  go_enter Tryd.func62, Tryd.ntmps62
  go_wp2_with fail
  go_region
  all_goals go_wp2_with fail
  all_goals go_ret
  all_goals exact ⟨rfl, 1, rfl⟩
end Go.Proofs.YtgpfmnaglbbebaaDoor
