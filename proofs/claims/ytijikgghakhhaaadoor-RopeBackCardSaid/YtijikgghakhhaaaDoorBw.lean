/- The law RopeBack answers true at every text and every place. -/
import Derived.Test.YtijikgghakhhaaaDoorBm
namespace Go.Proofs.YtijikgghakhhaaaDoor
open Go.RowKit
open M

set_option maxHeartbeats 2000000 in
theorem back_any (s : ByteArray) (x : Int) (w : World) (hT : Tabs w) (hs : s.size ≤ 1125899906842624) (hx1 : -9223372036854775808 ≤ x) (hx2 : x ≤ 9223372036854775807) :
    Calls Tryd.prog 5 #[.string s, .int .i64 x] w fun e w' => e = .returned (.bool true) ∧ Below w.heap.size w w' := by
  have hl := bs_len s
  have hs' : (bs s).length ≤ 1125899906842624 := by omega
  go_enter Tryd.func5, Tryd.ntmps5
  go_wp2_with fail
  refine (new_any s w hT hs).mono ?_
  rintro e w1 ⟨r, rfl, kr, hb1⟩
  have Kr := hide kr
  clear kr
  go_wp2_with fail
  refine (place_any r (bs s) x w1 (hT.below hb1) Kr.out hs').mono ?_
  rintro e w2 ⟨k, b, hk, hb, rfl, hb2⟩
  have B2 : Below w.heap.size w w2 := hb1.trans (hb2.mono hb1.size)
  have Kr2 := hide ((Kr.out).below hb2)
  have hkl := hk.le
  have hkb := hk.bd
  have hfa := found_at hk
  have HK := hide (And.intro hkb (And.intro hb hfa))
  clear hk hb hkb hfa
  obtain ⟨ln, eln⟩ : ∃ y, nb ((bs s).take k) = y := ⟨_, rfl⟩
  obtain ⟨ru, eru⟩ : ∃ y, (nr ((bs s).take k) : Int) - (nr ((bs s).take b) : Int) = y := ⟨_, rfl⟩
  obtain ⟨ut, eut⟩ : ∃ y, (nu ((bs s).take k) : Int) - (nu ((bs s).take b) : Int) = y := ⟨_, rfl⟩
  rw [eln, eru, eut]
  have HE := hide (And.intro eln (And.intro eru eut))
  clear eln eru eut
  go_wp2_with fail
  have B2' : Below w2.heap.size w2 (w2.alloc (Obj.cells #[Value.int IntKind.i64 ln, Value.int IntKind.i64 ru, Value.int IntKind.i64 ut] 34)) := (Below.refl _ _).alloc (Nat.le_refl _) _
  have k3 := Blk3.new w2 (.int .i64 ln) (.int .i64 ru) (.int .i64 ut)
  refine (at_any r (bs s) ln ut _ ((hT.below B2).below B2') ((Kr2.out).below B2') hs').mono ?_
  rintro e w3 ⟨z, hz, rfl, hb3⟩
  have B3 : Below w2.heap.size w2 w3 := B2'.trans (hb3.mono B2'.size)
  have k4 := k3.below hb3 (by simp)
  obtain ⟨⟨c0, c1, c2⟩, _, _, _⟩ := k4.facts
  have Hz := hide hz
  clear hz k3
  go_wp2_with fail
  refine (runeAt_any r (bs s) ln ru w3 ((hT.below B2).below B3) ((Kr2.out).below B3) hs').mono ?_
  rintro e w4 ⟨y, hy, rfl, hb4⟩
  have B4 : Below w2.heap.size w2 w4 := B3.trans (hb4.mono B3.size)
  obtain ⟨eln, eru, eut⟩ := HE.out
  obtain ⟨hkb, hb, hfa⟩ := HK.out
  obtain rfl : z = k := by
    have := Hz.out
    rw [← eln, ← eut] at this
    exact back_units hkl hkb hb this
  obtain rfl : y = z := by
    rw [← eln, ← eru] at hy
    exact back_runes hkl hkb hb hy
  have HFA := hide hfa
  clear eln eru eut hkb hb hfa hy Hz HE HK c0 c1 c2 k4
  go_wp2_with fail
  by_cases hin : max x 0 < ((bs s).length : Int)
  · obtain ⟨h1, h2, h3⟩ := (HFA.out).2 hin
    refine (rune_yes r (bs s) y w4 ((hT.below B2).below B4) ((Kr2.out).below B4) h1 hs').mono ?_
    rintro e w5 ⟨rfl, hb5⟩
    have hz4 := sz_le4 ((bs s).drop y)
    obtain ⟨n, en⟩ : ∃ n, sz ((bs s).drop y) = n := ⟨_, rfl⟩
    rw [en] at h3 hz4 ⊢
    clear en
    have h0c : ¬ s = ByteArray.empty := by intro e; subst e; simp [bs] at h1
    by_cases hneg : x < 0
    · have e0 : y = 0 := by omega
      subst e0
      have q4 : 0 < n := by omega
      clear h2 h3 hin
      go_wp2_with fail
      go_ret
      exact ⟨rfl, B2.trans ((B4.trans (hb5.mono B4.size)).mono B2.size)⟩
    · have q1 : ¬ (s.size : Int) ≤ x := by omega
      have q3 : (y : Int) ≤ x := by omega
      have q4 : x < (y : Int) + (n : Int) := by omega
      have q5 : (y : Int) ≤ 1125899906842624 := by omega
      clear h2 h3 hin
      go_wp2_with fail
      go_ret
      exact ⟨rfl, B2.trans ((B4.trans (hb5.mono B4.size)).mono B2.size)⟩
  · have hy := (HFA.out).1 (by omega)
    refine (rune_no r (bs s) y w4 ((Kr2.out).below B4) (Or.inr (by omega))).mono ?_
    rintro e w5 ⟨rfl, hb5⟩
    have hyz : y = s.size := by omega
    subst hyz
    by_cases hneg : x < 0
    · have q1 : s.size = 0 := by omega
      have q2 : (s.size : Int) = 0 := by omega
      clear hin HFA hy hl
      go_wp2_with fail
      go_ret
      exact ⟨rfl, B2.trans ((B4.trans (hb5.mono B4.size)).mono B2.size)⟩
    · have q1 : (s.size : Int) ≤ x := by omega
      clear hin HFA hy hl
      go_wp2_with fail
      go_ret
      exact ⟨rfl, B2.trans ((B4.trans (hb5.mono B4.size)).mono B2.size)⟩
end Go.Proofs.YtijikgghakhhaaaDoor
