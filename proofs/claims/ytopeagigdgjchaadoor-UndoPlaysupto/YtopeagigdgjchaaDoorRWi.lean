/- What build makes of a text. -/
import Derived.Test.YtopeagigdgjchaaDoorRWh
namespace Go.Proofs.YtopeagigdgjchaaDoor.Rp
open Go.RowKit
open M

theorem bs_take (s : ByteArray) (a : Nat) : bs (s.extract 0 a) = (bs s).take a := by
  unfold bs; rw [Lib.extract_data]; simp

def BuildOk (n : Nat) : Prop := ∀ (s : ByteArray) (w : World), s.size ≤ n → Tabs w → s.size ≤ 1125899906842624 →
    Calls Tryd.prog 27 #[.string s] w fun e w' => ∃ v, e = .returned (.pointer v) ∧ OT w' v (bs s) ∧ Below w.heap.size w w'

set_option maxHeartbeats 400000 in
theorem build_empty (s : ByteArray) (w : World) (hs : s.size = 0) : Calls Tryd.prog 27 #[.string s] w fun e w' => ∃ v, e = .returned (.pointer v) ∧ OT w' v (bs s) ∧ Below w.heap.size w w' := by
  have he : bs s = [] := List.eq_nil_of_length_eq_zero (by rw [bs_len]; exact hs)
  have hne : s.toList.isEmpty = true := by
    rw [Lib.toList_data]; show (bs s).isEmpty = true; rw [he]; rfl
  have He := hide he
  clear he hs
  go_enter Tryd.func27, Tryd.ntmps27
  go_wp2_with fail
  go_ret
  exact ⟨none, rfl, Or.inl ⟨rfl, He.out⟩, Below.refl _ _⟩

theorem notEmpty {s : ByteArray} (hs : 0 < s.size) : s.toList.isEmpty = false := by
  rw [Lib.toList_data]
  cases h : s.data.toList with
  | nil => have := bs_len s; unfold bs at this; rw [h] at this; simp at this; omega
  | cons _ _ => rfl

set_option maxHeartbeats 400000 in
theorem build_leaf (s : ByteArray) (w : World) (hT : Tabs w) (h0 : 0 < s.size) (hs : s.size ≤ 512) : Calls Tryd.prog 27 #[.string s] w fun e w' => ∃ v, e = .returned (.pointer v) ∧ OT w' v (bs s) ∧ Below w.heap.size w w' := by
  have hne := notEmpty h0
  have z1 : (s.size : Int) ≤ 512 := by omega
  go_enter Tryd.func27, Tryd.ntmps27
  go_wp2_with fail
  refine (measureOf_any s w hT (by omega)).mono ?_
  rintro e w1 ⟨rfl, hb1⟩
  go_wp2_with fail
  go_ret
  refine ⟨_, rfl, Or.inr ⟨w1.heap.size, 0, rfl, IsT.leaf (t := s) ?_ rfl (bs_ne h0) (by rw [bs_len]; exact hs)⟩, ?_⟩
  · unfold Node
    rw [World.heap_alloc_new', bs_len]
    rfl
  · exact hb1.alloc hb1.size _

set_option maxHeartbeats 2000000 in
theorem build_node (n : Nat) (ih : BuildOk n) (s : ByteArray) (w : World) (hn : s.size ≤ n + 1) (hT : Tabs w) (h0 : 512 < s.size) (hs : s.size ≤ 1125899906842624) : Calls Tryd.prog 27 #[.string s] w fun e w' => ∃ v, e = .returned (.pointer v) ∧ OT w' v (bs s) ∧ Below w.heap.size w w' := by
  have hne := notEmpty (by omega : 0 < s.size)
  have z1 : ¬ (s.size : Int) ≤ 512 := by omega
  have hl := bs_len s
  go_enter Tryd.func27, Tryd.ntmps27
  go_wp2_with fail
  have hq : ((s.size : Int) / 2) = ((s.size / 2 : Nat) : Int) := by omega
  rw [hq]
  refine (beginOf_any s (s.size / 2) w hT (by omega) hs).mono ?_
  rintro e w1 ⟨rfl, hb1⟩
  have hbeg := begAt_le (bs s) (s.size / 2)
  have hbd := begAt_bd (bs s) (s.size / 2)
  obtain ⟨m, hm⟩ : ∃ m, begAt (bs s) (s.size / 2) = m := ⟨_, rfl⟩
  rw [hm] at hbeg hbd ⊢
  clear hm hq
  have y1 : (0 : Int) ≤ (m : Int) := by omega
  have y2 : (m : Int) ≤ (s.size : Int) := by omega
  have y3 : m ≤ s.size := by omega
  have e1 : (s.extract 0 m).size = m := by have := bs_len (s.extract 0 m); rw [bs_take, List.length_take, hl] at this; omega
  have e2 : (s.extract m s.size).size = s.size - m := by have := bs_len (s.extract m s.size); rw [bs_drop, List.length_drop, hl] at this; omega
  have n1 : (s.extract 0 m).size ≤ n := by omega
  have n2 : (s.extract m s.size).size ≤ n := by omega
  have n3 : (s.extract 0 m).size ≤ 1125899906842624 := by omega
  have n4 : (s.extract m s.size).size ≤ 1125899906842624 := by omega
  have T1 := hT.below hb1
  have ej : bs (s.extract 0 m) ++ bs (s.extract m s.size) = bs s := by rw [bs_take, bs_drop, List.take_append_drop]
  have hj : Bd (bs (s.extract 0 m) ++ bs (s.extract m s.size)) (bs (s.extract 0 m)).length := by
    rw [ej, bs_take, List.length_take, hl, Nat.min_eq_left y3]; exact hbd
  have hjs : (bs (s.extract 0 m) ++ bs (s.extract m s.size)).length ≤ 1125899906842624 := by rw [ej, hl]; exact hs
  have Hej := hide ej
  clear ej e1 e2
  go_wp2_with fail
  go_region_held3 (fun _ => True) (exact trivial)
    ((first
      | (go_at_call_of 27 (Value.string (s.extract 0 m)); refine (ih (s.extract 0 m) _ n1 ?_ n3).mono ?_; (first | exact T1 | exact T1.below hbB | exact T1.below ((Below.refl _ w1).drew) | exact (T1.below ((Below.refl _ w1).drew)).below hbB); rintro e wA ⟨vA, rfl, tA, hbA⟩)
      | (go_at_call_of 27 (Value.string (s.extract m s.size)); refine (ih (s.extract m s.size) _ n2 ?_ n4).mono ?_; (first | exact T1 | exact T1.below hbA | exact T1.below ((Below.refl _ w1).drew) | exact (T1.below ((Below.refl _ w1).drew)).below hbA); rintro e wB ⟨vB, rfl, tB, hbB⟩)
      | (go_at_call 42; refine (join_any vA vB _ _ _ ?_ ?_ hj hjs).mono ?_; (first | exact tA | exact tA.below hbB); (first | exact tB | exact tB.below hbA); rintro e wC ⟨vC, rfl, tC, hbC⟩)))
  all_goals
    go_wp2_with fail
    go_ret
    rw [Hej.out] at tC
    have z2 : w.heap.size ≤ w1.drew.heap.size := hb1.size
    exact ⟨vC, rfl, tC, (hb1.drew.trans (hbA.mono z2)).trans ((hbB.mono (Nat.le_trans z2 hbA.size)).trans (hbC.mono (Nat.le_trans z2 (Nat.le_trans hbA.size hbB.size))))⟩

theorem build_ok (n : Nat) : BuildOk n := by
  induction n with
  | zero => intro s w hn _ _; exact build_empty s w (by omega)
  | succ n ih =>
    intro s w hn hT hs
    by_cases h0 : s.size = 0
    · exact build_empty s w h0
    by_cases h1 : s.size ≤ 512
    · exact build_leaf s w hT (by omega) h1
    · exact build_node n ih s w hn hT (by omega) hs

/-- build makes the tree of a text. -/
theorem build_any (s : ByteArray) (w : World) (hT : Tabs w) (hs : s.size ≤ 1125899906842624) :
    Calls Tryd.prog 27 #[.string s] w fun e w' => ∃ v, e = .returned (.pointer v) ∧ OT w' v (bs s) ∧ Below w.heap.size w w' := build_ok s.size s w (Nat.le_refl _) hT hs

/-- A rope in memory. -/
def IsR (w : World) (r : Nat) (l : List UInt8) : Prop := ∃ v, w.heap[r]? = some (.cells #[.pointer v] 71 (0, 0)) ∧ OT w v l
theorem IsR.below {w w' : World} {r : Nat} {l : List UInt8} (k : IsR w r l) (hb : Below w.heap.size w w') : IsR w' r l := by
  obtain ⟨v, h, t⟩ := k
  refine ⟨v, ?_, t.below hb⟩
  have hlt : r < w.heap.size := by
    by_cases hb : r < w.heap.size
    · exact hb
    · rw [Array.getElem?_eq_none (by omega)] at h; cases h
  exact (hb.block r hlt).trans h
theorem IsR.new {w : World} {v : Option Addr} {l : List UInt8} (t : OT w v l) : IsR (w.alloc (.cells #[.pointer v] 71)) w.heap.size l :=
  ⟨v, World.heap_alloc_new' w _, t.below ((Below.refl _ _).alloc (Nat.le_refl _) _)⟩
theorem IsR.cell {w : World} {r : Nat} {l : List UInt8} (k : IsR w r l) : ∃ v, w.cell? ⟨r, 0, none⟩ = some (.pointer v) ∧ OT w v l ∧ r < w.heap.size := by
  obtain ⟨v, h, t⟩ := k
  refine ⟨v, by simp [World.cell?, h], t, ?_⟩
  by_cases hb : r < w.heap.size
  · exact hb
  · rw [Array.getElem?_eq_none (by omega)] at h; cases h

set_option maxHeartbeats 400000 in
theorem new_any (s : ByteArray) (w : World) (hT : Tabs w) (hs : s.size ≤ 1125899906842624) :
    Calls Tryd.prog 19 #[.string s] w fun e w' => ∃ r, e = .returned (.pointer (some ⟨r, 0, none⟩)) ∧ IsR w' r (bs s) ∧ Below w.heap.size w w' := by
  go_enter Tryd.func19, Tryd.ntmps19
  go_wp2_with fail
  refine (build_any s w hT hs).mono ?_
  rintro e w1 ⟨v, rfl, t, hb⟩
  go_wp2_with fail
  go_ret
  exact ⟨w1.heap.size, rfl, IsR.new t, hb.alloc hb.size _⟩
end Go.Proofs.YtopeagigdgjchaaDoor.Rp
