/- The law RopePlaces answers true at every text, change and place. -/
import Derived.Test.YtijikgghakhhaaaDoorFe
import Derived.Test.YtijikgghakhhaaaDoorRc
namespace Go.Proofs.YtijikgghakhhaaaDoor
open Go.RowKit
open M

theorem mono_len (l : List UInt8) (x : Int) : ∀ j k, Bd l j → j ≤ k → k ≤ l.length → (fun a _ _ _ => decide ((a : Int) ≤ x) : Nat → Nat → Nat → Nat → Bool) k (nb (l.take k)) (nr (l.take k)) (nu (l.take k)) = true → (fun a _ _ _ => decide ((a : Int) ≤ x) : Nat → Nat → Nat → Nat → Bool) j (nb (l.take j)) (nr (l.take j)) (nu (l.take j)) = true := by
  intro j k _ h _ hy
  simp only [decide_eq_true_eq] at hy ⊢
  omega
theorem tell_max {l : List UInt8} {cnt : Nat → Nat → Nat → Nat → Nat} {line n : Int} {z : Nat} (hn : n < 0) (h : Tell l cnt line n z) : Tell l cnt line 0 z := by
  unfold Tell at h ⊢
  rwa [show (max n 0).toNat = (max (0 : Int) 0).toNat from by omega] at h

set_option maxRecDepth 100000 in
set_option maxHeartbeats 4000000 in
theorem places_yes (s m : ByteArray) (F : Nat) (x line n : Int) (w : World) (hT : Tabs w) (hs : s.size ≤ 562949953421312) (hm : m.size ≤ 562949953421312) (hn2 : n ≤ 9223372036854775807) (hF : F ≤ s.size) :
    Calls Tryd.prog 4 #[.string s, .string m, .int .i64 F, .int .i64 x, .int .i64 line, .int .i64 n] w fun e w' => e = .returned (.bool true) ∧ Below w.heap.size w w' := by
  have f1 : (0 : Int) ≤ (F : Int) := by omega
  have f2 : (F : Int) ≤ (s.size : Int) := by omega
  go_enter Tryd.func4, Tryd.ntmps4
  go_wp2_with fail
  refine (new_any s w hT (by omega)).mono ?_
  rintro e w1 ⟨r0, rfl, kr, hb1⟩
  have Kr := hide kr
  clear kr
  go_wp2_with fail
  have hl0 := bs_len s
  refine (replace_yes r0 (bs s) F s.size m w1 (hT.below hb1) Kr.out hF (by omega) (by omega) hm).mono ?_
  rintro e wc ⟨r, rfl, kc0, hbc⟩
  have BC : Below w.heap.size w wc := hb1.trans (hbc.mono hb1.size)
  have hrp : repl (bs s) (bs m) F s.size = bs (s.extract 0 F ++ m) := by
    unfold repl
    rw [bs_append, bs_take, List.drop_eq_nil_of_le (by omega), List.append_nil]
  have hsz : (s.extract 0 F).size = F := by rw [← bs_len, bs_take, List.length_take, hl0]; omega
  rw [hrp] at kc0
  have KC0 := hide kc0
  clear kc0 hrp
  have ht : ((s.extract 0 F) ++ m).size ≤ 1125899906842624 := by rw [ByteArray.size_append]; omega
  have g1 : ¬ 9223372036854775807 < (((s.extract 0 F).size + m.size : Nat) : Int) := by omega
  have g2 : (s.extract 0 F).size ≤ 562949953421312 := by omega
  clear hsz
  go_upto_region 10 with fail
  obtain ⟨t, et⟩ : ∃ t, s.extract 0 F ++ m = t := ⟨_, rfl⟩
  rw [et] at KC0 ht ⊢
  have KC := KC0
  clear et KC0 g1 g2

  -- the rest: a rope r of the text t, in the world wc
  have hl := bs_len t
  have hs' : (bs t).length ≤ 1125899906842624 := by omega
  go_wp2_with fail
  refine (place_any r (bs t) x wc (hT.below BC) KC.out hs').mono ?_
  rintro e w2 ⟨k, b, hk, hb, rfl, hb2⟩
  have B2 : Below w.heap.size w w2 := BC.trans (hb2.mono BC.size)
  have K2 := hide ((KC.out).below hb2)
  have HK := hide (And.intro hk hb)
  have p1 := nb_le ((bs t).take k); have p2 := nr_le ((bs t).take k); have p3 := nu_le ((bs t).take k)
  have p4 := nr_le ((bs t).take b); have p5 := nu_le ((bs t).take b)
  rw [List.length_take] at p1 p2 p3 p4 p5
  clear hk hb
  obtain ⟨ln, eln⟩ : ∃ y, nb ((bs t).take k) = y := ⟨_, rfl⟩
  obtain ⟨ru, eru⟩ : ∃ y, (nr ((bs t).take k) : Int) - (nr ((bs t).take b) : Int) = y := ⟨_, rfl⟩
  obtain ⟨ut, eut⟩ : ∃ y, (nu ((bs t).take k) : Int) - (nu ((bs t).take b) : Int) = y := ⟨_, rfl⟩
  rw [eln, eru, eut]
  have HE := hide (And.intro eln (And.intro eru eut))
  clear eln eru eut p1 p2 p3 p4 p5
  go_wp2_with fail
  have B2' : Below w2.heap.size w2 (w2.alloc (Obj.cells #[Value.int IntKind.i64 ln, Value.int IntKind.i64 ru, Value.int IntKind.i64 ut] 34)) := (Below.refl _ _).alloc (Nat.le_refl _) _
  refine (refPlace_any t x _ (by omega)).mono ?_
  rintro e w3 ⟨⟨k', b', c, u, hk', hb', hc, hu, rfl⟩, hw⟩
  rw [hw]
  clear hw w3
  obtain ⟨eln, eru, eut⟩ := HE.out
  obtain ⟨hk, hb⟩ := HK.out
  obtain rfl : k' = k := found_unique (mono_len (bs t) x) hk' hk
  obtain rfl : b' = b := LB.unique hb' hb
  have ec : (c : Int) = ru := by omega
  have eu : (u : Int) = ut := by omega
  rw [eln, ec, eu]
  clear eln eru eut hk hb hk' hb' hc hu ec eu c u HE HK
  have q1 : (ru != ru) = false := by simp
  have q2 : (ut != ut) = false := by simp
  have q3 : (((ln : Nat) : Int) != ((ln : Nat) : Int)) = false := by simp
  go_wp2_with fail
  refine (at_any r (bs t) line n _ ((hT.below B2).below B2') ((K2.out).below B2') hs').mono ?_
  rintro e w4 ⟨z, hz, rfl, hb4⟩
  have B4 : Below w2.heap.size w2 w4 := B2'.trans (hb4.mono B2'.size)
  have Hz := hide hz
  clear hz
  go_wp2_with fail
  refine (runeAt_any r (bs t) line n w4 ((hT.below B2).below B4) ((K2.out).below B4) hs').mono ?_
  rintro e w5 ⟨y, hy, rfl, hb5⟩
  have B5 : Below w2.heap.size w2 w5 := B4.trans (hb5.mono B4.size)
  have Hy := hide hy
  clear hy
  have q4 : (((z : Nat) : Int) != ((z : Nat) : Int)) = false := by simp
  have q5 : (((y : Nat) : Int) != ((y : Nat) : Int)) = false := by simp
  by_cases hn : n < 0
  · go_wp2_with fail
    refine (refFind_any t line 0 false w5 z (by omega) (by omega) (by omega) (tell_max hn Hz.out)).mono ?_
    rintro e wx ⟨rfl, hw⟩
    rw [hw]
    clear hw wx
    go_wp2_with fail
    refine (refFind_any t line 0 true w5 y (by omega) (by omega) (by omega) (tell_max hn Hy.out)).mono ?_
    rintro e wx ⟨rfl, hw⟩
    rw [hw]
    clear hw wx
    go_wp2_with fail
    by_cases hin : 0 ≤ x ∧ x < (t.size : Int)
    · obtain ⟨X, rfl⟩ := Int.eq_ofNat_of_zero_le hin.1
      have hX : X < t.size := by omega
      refine (rune_yes r (bs t) X w5 ((hT.below B2).below B5) ((K2.out).below B5) (by omega) hs').mono ?_
      rintro e w6 ⟨rfl, hb6⟩
      have hne : (bs t).drop X ≠ [] := by intro e; have := congrArg List.length e; simp at this; omega
      have hcl := ch_le hne
      have hse : 0 < (t.extract X t.size).size := by rw [← bs_len, bs_drop, List.length_drop, hl]; omega
      have y1 : ¬ (X : Int) < 0 := by omega
      have y2 : ¬ (t.size : Int) ≤ (X : Int) := by omega
      have y3 : (X : Int) ≤ (t.size : Int) := by omega
      have hRR := refRune_any (t.extract X t.size) w6 hse
      rw [bs_drop] at hRR
      obtain ⟨q, eq⟩ : ∃ q, ch ((bs t).drop X) = q := ⟨_, rfl⟩
      obtain ⟨v, ev⟩ : ∃ q, sz ((bs t).drop X) = q := ⟨_, rfl⟩
      rw [eq, ev] at hRR
      rw [eq] at hcl
      rw [eq, ev]
      have HRR := hide hRR
      clear hRR eq ev
      have y4 : (((q : Nat) : Int) == ((q : Nat) : Int)) = true := by simp
      have y5 : (((v : Nat) : Int) == ((v : Nat) : Int)) = true := by simp
      go_wp2_with fail
      refine (HRR.out).mono ?_
      rintro e wx ⟨rfl, hw⟩
      rw [hw]
      clear hw wx
      go_wp2_with fail
      go_ret
      exact ⟨rfl, B2.trans ((B5.trans (hb6.mono B5.size)).mono B2.size)⟩
    · refine (rune_no r (bs t) x w5 ((K2.out).below B5) (by omega)).mono ?_
      rintro e w6 ⟨rfl, hb6⟩
      by_cases hneg : x < 0
      · go_wp2_with fail
        go_ret
        exact ⟨rfl, B2.trans ((B5.trans (hb6.mono B5.size)).mono B2.size)⟩
      · have y1 : (t.size : Int) ≤ x := by omega
        go_wp2_with fail
        go_ret
        exact ⟨rfl, B2.trans ((B5.trans (hb6.mono B5.size)).mono B2.size)⟩
  · go_wp2_with fail
    refine (refFind_any t line n false w5 z (by omega) (by omega) (by omega) Hz.out).mono ?_
    rintro e wx ⟨rfl, hw⟩
    rw [hw]
    clear hw wx
    go_wp2_with fail
    refine (refFind_any t line n true w5 y (by omega) (by omega) (by omega) Hy.out).mono ?_
    rintro e wx ⟨rfl, hw⟩
    rw [hw]
    clear hw wx
    go_wp2_with fail
    by_cases hin : 0 ≤ x ∧ x < (t.size : Int)
    · obtain ⟨X, rfl⟩ := Int.eq_ofNat_of_zero_le hin.1
      have hX : X < t.size := by omega
      refine (rune_yes r (bs t) X w5 ((hT.below B2).below B5) ((K2.out).below B5) (by omega) hs').mono ?_
      rintro e w6 ⟨rfl, hb6⟩
      have hne : (bs t).drop X ≠ [] := by intro e; have := congrArg List.length e; simp at this; omega
      have hcl := ch_le hne
      have hse : 0 < (t.extract X t.size).size := by rw [← bs_len, bs_drop, List.length_drop, hl]; omega
      have y1 : ¬ (X : Int) < 0 := by omega
      have y2 : ¬ (t.size : Int) ≤ (X : Int) := by omega
      have y3 : (X : Int) ≤ (t.size : Int) := by omega
      have hRR := refRune_any (t.extract X t.size) w6 hse
      rw [bs_drop] at hRR
      obtain ⟨q, eq⟩ : ∃ q, ch ((bs t).drop X) = q := ⟨_, rfl⟩
      obtain ⟨v, ev⟩ : ∃ q, sz ((bs t).drop X) = q := ⟨_, rfl⟩
      rw [eq, ev] at hRR
      rw [eq] at hcl
      rw [eq, ev]
      have HRR := hide hRR
      clear hRR eq ev
      have y4 : (((q : Nat) : Int) == ((q : Nat) : Int)) = true := by simp
      have y5 : (((v : Nat) : Int) == ((v : Nat) : Int)) = true := by simp
      go_wp2_with fail
      refine (HRR.out).mono ?_
      rintro e wx ⟨rfl, hw⟩
      rw [hw]
      clear hw wx
      go_wp2_with fail
      go_ret
      exact ⟨rfl, B2.trans ((B5.trans (hb6.mono B5.size)).mono B2.size)⟩
    · refine (rune_no r (bs t) x w5 ((K2.out).below B5) (by omega)).mono ?_
      rintro e w6 ⟨rfl, hb6⟩
      by_cases hneg : x < 0
      · go_wp2_with fail
        go_ret
        exact ⟨rfl, B2.trans ((B5.trans (hb6.mono B5.size)).mono B2.size)⟩
      · have y1 : (t.size : Int) ≤ x := by omega
        go_wp2_with fail
        go_ret
        exact ⟨rfl, B2.trans ((B5.trans (hb6.mono B5.size)).mono B2.size)⟩

set_option maxRecDepth 100000 in
set_option maxHeartbeats 4000000 in
theorem places_no (t m : ByteArray) (f x line n : Int) (w : World) (hT : Tabs w) (ht : t.size ≤ 562949953421312) (hn2 : n ≤ 9223372036854775807) (hf : f < 0 ∨ (t.size : Int) < f) :
    Calls Tryd.prog 4 #[.string t, .string m, .int .i64 f, .int .i64 x, .int .i64 line, .int .i64 n] w fun e w' => e = .returned (.bool true) ∧ Below w.heap.size w w' := by
  obtain ⟨g, hg, hg'⟩ : ∃ g : Bool, decide (0 ≤ f) = g ∧ (g = true → ¬ f ≤ (t.size : Int)) := ⟨_, rfl, fun h => by simp at h; omega⟩
  cases g with
  | false =>
    have f1 : ¬ 0 ≤ f := by simpa using hg
    clear hf hg hg'
    go_enter Tryd.func4, Tryd.ntmps4
    go_wp2_with fail
    refine (new_any t w hT (by omega)).mono ?_
    rintro e wc ⟨r, rfl, kr, BC⟩
    have KC := hide kr
    clear kr
    go_upto_region 10 with fail

    -- the rest: a rope r of the text t, in the world wc
    have hl := bs_len t
    have hs' : (bs t).length ≤ 1125899906842624 := by omega
    go_wp2_with fail
    refine (place_any r (bs t) x wc (hT.below BC) KC.out hs').mono ?_
    rintro e w2 ⟨k, b, hk, hb, rfl, hb2⟩
    have B2 : Below w.heap.size w w2 := BC.trans (hb2.mono BC.size)
    have K2 := hide ((KC.out).below hb2)
    have HK := hide (And.intro hk hb)
    have p1 := nb_le ((bs t).take k); have p2 := nr_le ((bs t).take k); have p3 := nu_le ((bs t).take k)
    have p4 := nr_le ((bs t).take b); have p5 := nu_le ((bs t).take b)
    rw [List.length_take] at p1 p2 p3 p4 p5
    clear hk hb
    obtain ⟨ln, eln⟩ : ∃ y, nb ((bs t).take k) = y := ⟨_, rfl⟩
    obtain ⟨ru, eru⟩ : ∃ y, (nr ((bs t).take k) : Int) - (nr ((bs t).take b) : Int) = y := ⟨_, rfl⟩
    obtain ⟨ut, eut⟩ : ∃ y, (nu ((bs t).take k) : Int) - (nu ((bs t).take b) : Int) = y := ⟨_, rfl⟩
    rw [eln, eru, eut]
    have HE := hide (And.intro eln (And.intro eru eut))
    clear eln eru eut p1 p2 p3 p4 p5
    go_wp2_with fail
    have B2' : Below w2.heap.size w2 (w2.alloc (Obj.cells #[Value.int IntKind.i64 ln, Value.int IntKind.i64 ru, Value.int IntKind.i64 ut] 34)) := (Below.refl _ _).alloc (Nat.le_refl _) _
    refine (refPlace_any t x _ (by omega)).mono ?_
    rintro e w3 ⟨⟨k', b', c, u, hk', hb', hc, hu, rfl⟩, hw⟩
    rw [hw]
    clear hw w3
    obtain ⟨eln, eru, eut⟩ := HE.out
    obtain ⟨hk, hb⟩ := HK.out
    obtain rfl : k' = k := found_unique (mono_len (bs t) x) hk' hk
    obtain rfl : b' = b := LB.unique hb' hb
    have ec : (c : Int) = ru := by omega
    have eu : (u : Int) = ut := by omega
    rw [eln, ec, eu]
    clear eln eru eut hk hb hk' hb' hc hu ec eu c u HE HK
    have q1 : (ru != ru) = false := by simp
    have q2 : (ut != ut) = false := by simp
    have q3 : (((ln : Nat) : Int) != ((ln : Nat) : Int)) = false := by simp
    go_wp2_with fail
    refine (at_any r (bs t) line n _ ((hT.below B2).below B2') ((K2.out).below B2') hs').mono ?_
    rintro e w4 ⟨z, hz, rfl, hb4⟩
    have B4 : Below w2.heap.size w2 w4 := B2'.trans (hb4.mono B2'.size)
    have Hz := hide hz
    clear hz
    go_wp2_with fail
    refine (runeAt_any r (bs t) line n w4 ((hT.below B2).below B4) ((K2.out).below B4) hs').mono ?_
    rintro e w5 ⟨y, hy, rfl, hb5⟩
    have B5 : Below w2.heap.size w2 w5 := B4.trans (hb5.mono B4.size)
    have Hy := hide hy
    clear hy
    have q4 : (((z : Nat) : Int) != ((z : Nat) : Int)) = false := by simp
    have q5 : (((y : Nat) : Int) != ((y : Nat) : Int)) = false := by simp
    by_cases hn : n < 0
    · go_wp2_with fail
      refine (refFind_any t line 0 false w5 z (by omega) (by omega) (by omega) (tell_max hn Hz.out)).mono ?_
      rintro e wx ⟨rfl, hw⟩
      rw [hw]
      clear hw wx
      go_wp2_with fail
      refine (refFind_any t line 0 true w5 y (by omega) (by omega) (by omega) (tell_max hn Hy.out)).mono ?_
      rintro e wx ⟨rfl, hw⟩
      rw [hw]
      clear hw wx
      go_wp2_with fail
      by_cases hin : 0 ≤ x ∧ x < (t.size : Int)
      · obtain ⟨X, rfl⟩ := Int.eq_ofNat_of_zero_le hin.1
        have hX : X < t.size := by omega
        refine (rune_yes r (bs t) X w5 ((hT.below B2).below B5) ((K2.out).below B5) (by omega) hs').mono ?_
        rintro e w6 ⟨rfl, hb6⟩
        have hne : (bs t).drop X ≠ [] := by intro e; have := congrArg List.length e; simp at this; omega
        have hcl := ch_le hne
        have hse : 0 < (t.extract X t.size).size := by rw [← bs_len, bs_drop, List.length_drop, hl]; omega
        have y1 : ¬ (X : Int) < 0 := by omega
        have y2 : ¬ (t.size : Int) ≤ (X : Int) := by omega
        have y3 : (X : Int) ≤ (t.size : Int) := by omega
        have hRR := refRune_any (t.extract X t.size) w6 hse
        rw [bs_drop] at hRR
        obtain ⟨q, eq⟩ : ∃ q, ch ((bs t).drop X) = q := ⟨_, rfl⟩
        obtain ⟨v, ev⟩ : ∃ q, sz ((bs t).drop X) = q := ⟨_, rfl⟩
        rw [eq, ev] at hRR
        rw [eq] at hcl
        rw [eq, ev]
        have HRR := hide hRR
        clear hRR eq ev
        have y4 : (((q : Nat) : Int) == ((q : Nat) : Int)) = true := by simp
        have y5 : (((v : Nat) : Int) == ((v : Nat) : Int)) = true := by simp
        go_wp2_with fail
        refine (HRR.out).mono ?_
        rintro e wx ⟨rfl, hw⟩
        rw [hw]
        clear hw wx
        go_wp2_with fail
        go_ret
        exact ⟨rfl, B2.trans ((B5.trans (hb6.mono B5.size)).mono B2.size)⟩
      · refine (rune_no r (bs t) x w5 ((K2.out).below B5) (by omega)).mono ?_
        rintro e w6 ⟨rfl, hb6⟩
        by_cases hneg : x < 0
        · go_wp2_with fail
          go_ret
          exact ⟨rfl, B2.trans ((B5.trans (hb6.mono B5.size)).mono B2.size)⟩
        · have y1 : (t.size : Int) ≤ x := by omega
          go_wp2_with fail
          go_ret
          exact ⟨rfl, B2.trans ((B5.trans (hb6.mono B5.size)).mono B2.size)⟩
    · go_wp2_with fail
      refine (refFind_any t line n false w5 z (by omega) (by omega) (by omega) Hz.out).mono ?_
      rintro e wx ⟨rfl, hw⟩
      rw [hw]
      clear hw wx
      go_wp2_with fail
      refine (refFind_any t line n true w5 y (by omega) (by omega) (by omega) Hy.out).mono ?_
      rintro e wx ⟨rfl, hw⟩
      rw [hw]
      clear hw wx
      go_wp2_with fail
      by_cases hin : 0 ≤ x ∧ x < (t.size : Int)
      · obtain ⟨X, rfl⟩ := Int.eq_ofNat_of_zero_le hin.1
        have hX : X < t.size := by omega
        refine (rune_yes r (bs t) X w5 ((hT.below B2).below B5) ((K2.out).below B5) (by omega) hs').mono ?_
        rintro e w6 ⟨rfl, hb6⟩
        have hne : (bs t).drop X ≠ [] := by intro e; have := congrArg List.length e; simp at this; omega
        have hcl := ch_le hne
        have hse : 0 < (t.extract X t.size).size := by rw [← bs_len, bs_drop, List.length_drop, hl]; omega
        have y1 : ¬ (X : Int) < 0 := by omega
        have y2 : ¬ (t.size : Int) ≤ (X : Int) := by omega
        have y3 : (X : Int) ≤ (t.size : Int) := by omega
        have hRR := refRune_any (t.extract X t.size) w6 hse
        rw [bs_drop] at hRR
        obtain ⟨q, eq⟩ : ∃ q, ch ((bs t).drop X) = q := ⟨_, rfl⟩
        obtain ⟨v, ev⟩ : ∃ q, sz ((bs t).drop X) = q := ⟨_, rfl⟩
        rw [eq, ev] at hRR
        rw [eq] at hcl
        rw [eq, ev]
        have HRR := hide hRR
        clear hRR eq ev
        have y4 : (((q : Nat) : Int) == ((q : Nat) : Int)) = true := by simp
        have y5 : (((v : Nat) : Int) == ((v : Nat) : Int)) = true := by simp
        go_wp2_with fail
        refine (HRR.out).mono ?_
        rintro e wx ⟨rfl, hw⟩
        rw [hw]
        clear hw wx
        go_wp2_with fail
        go_ret
        exact ⟨rfl, B2.trans ((B5.trans (hb6.mono B5.size)).mono B2.size)⟩
      · refine (rune_no r (bs t) x w5 ((K2.out).below B5) (by omega)).mono ?_
        rintro e w6 ⟨rfl, hb6⟩
        by_cases hneg : x < 0
        · go_wp2_with fail
          go_ret
          exact ⟨rfl, B2.trans ((B5.trans (hb6.mono B5.size)).mono B2.size)⟩
        · have y1 : (t.size : Int) ≤ x := by omega
          go_wp2_with fail
          go_ret
          exact ⟨rfl, B2.trans ((B5.trans (hb6.mono B5.size)).mono B2.size)⟩
  | true =>
    have f1 : 0 ≤ f := by simpa using hg
    have f2 : ¬ f ≤ (t.size : Int) := hg' rfl
    clear hf hg hg'
    go_enter Tryd.func4, Tryd.ntmps4
    go_wp2_with fail
    refine (new_any t w hT (by omega)).mono ?_
    rintro e wc ⟨r, rfl, kr, BC⟩
    have KC := hide kr
    clear kr
    go_upto_region 10 with fail

    -- the rest: a rope r of the text t, in the world wc
    have hl := bs_len t
    have hs' : (bs t).length ≤ 1125899906842624 := by omega
    go_wp2_with fail
    refine (place_any r (bs t) x wc (hT.below BC) KC.out hs').mono ?_
    rintro e w2 ⟨k, b, hk, hb, rfl, hb2⟩
    have B2 : Below w.heap.size w w2 := BC.trans (hb2.mono BC.size)
    have K2 := hide ((KC.out).below hb2)
    have HK := hide (And.intro hk hb)
    have p1 := nb_le ((bs t).take k); have p2 := nr_le ((bs t).take k); have p3 := nu_le ((bs t).take k)
    have p4 := nr_le ((bs t).take b); have p5 := nu_le ((bs t).take b)
    rw [List.length_take] at p1 p2 p3 p4 p5
    clear hk hb
    obtain ⟨ln, eln⟩ : ∃ y, nb ((bs t).take k) = y := ⟨_, rfl⟩
    obtain ⟨ru, eru⟩ : ∃ y, (nr ((bs t).take k) : Int) - (nr ((bs t).take b) : Int) = y := ⟨_, rfl⟩
    obtain ⟨ut, eut⟩ : ∃ y, (nu ((bs t).take k) : Int) - (nu ((bs t).take b) : Int) = y := ⟨_, rfl⟩
    rw [eln, eru, eut]
    have HE := hide (And.intro eln (And.intro eru eut))
    clear eln eru eut p1 p2 p3 p4 p5
    go_wp2_with fail
    have B2' : Below w2.heap.size w2 (w2.alloc (Obj.cells #[Value.int IntKind.i64 ln, Value.int IntKind.i64 ru, Value.int IntKind.i64 ut] 34)) := (Below.refl _ _).alloc (Nat.le_refl _) _
    refine (refPlace_any t x _ (by omega)).mono ?_
    rintro e w3 ⟨⟨k', b', c, u, hk', hb', hc, hu, rfl⟩, hw⟩
    rw [hw]
    clear hw w3
    obtain ⟨eln, eru, eut⟩ := HE.out
    obtain ⟨hk, hb⟩ := HK.out
    obtain rfl : k' = k := found_unique (mono_len (bs t) x) hk' hk
    obtain rfl : b' = b := LB.unique hb' hb
    have ec : (c : Int) = ru := by omega
    have eu : (u : Int) = ut := by omega
    rw [eln, ec, eu]
    clear eln eru eut hk hb hk' hb' hc hu ec eu c u HE HK
    have q1 : (ru != ru) = false := by simp
    have q2 : (ut != ut) = false := by simp
    have q3 : (((ln : Nat) : Int) != ((ln : Nat) : Int)) = false := by simp
    go_wp2_with fail
    refine (at_any r (bs t) line n _ ((hT.below B2).below B2') ((K2.out).below B2') hs').mono ?_
    rintro e w4 ⟨z, hz, rfl, hb4⟩
    have B4 : Below w2.heap.size w2 w4 := B2'.trans (hb4.mono B2'.size)
    have Hz := hide hz
    clear hz
    go_wp2_with fail
    refine (runeAt_any r (bs t) line n w4 ((hT.below B2).below B4) ((K2.out).below B4) hs').mono ?_
    rintro e w5 ⟨y, hy, rfl, hb5⟩
    have B5 : Below w2.heap.size w2 w5 := B4.trans (hb5.mono B4.size)
    have Hy := hide hy
    clear hy
    have q4 : (((z : Nat) : Int) != ((z : Nat) : Int)) = false := by simp
    have q5 : (((y : Nat) : Int) != ((y : Nat) : Int)) = false := by simp
    by_cases hn : n < 0
    · go_wp2_with fail
      refine (refFind_any t line 0 false w5 z (by omega) (by omega) (by omega) (tell_max hn Hz.out)).mono ?_
      rintro e wx ⟨rfl, hw⟩
      rw [hw]
      clear hw wx
      go_wp2_with fail
      refine (refFind_any t line 0 true w5 y (by omega) (by omega) (by omega) (tell_max hn Hy.out)).mono ?_
      rintro e wx ⟨rfl, hw⟩
      rw [hw]
      clear hw wx
      go_wp2_with fail
      by_cases hin : 0 ≤ x ∧ x < (t.size : Int)
      · obtain ⟨X, rfl⟩ := Int.eq_ofNat_of_zero_le hin.1
        have hX : X < t.size := by omega
        refine (rune_yes r (bs t) X w5 ((hT.below B2).below B5) ((K2.out).below B5) (by omega) hs').mono ?_
        rintro e w6 ⟨rfl, hb6⟩
        have hne : (bs t).drop X ≠ [] := by intro e; have := congrArg List.length e; simp at this; omega
        have hcl := ch_le hne
        have hse : 0 < (t.extract X t.size).size := by rw [← bs_len, bs_drop, List.length_drop, hl]; omega
        have y1 : ¬ (X : Int) < 0 := by omega
        have y2 : ¬ (t.size : Int) ≤ (X : Int) := by omega
        have y3 : (X : Int) ≤ (t.size : Int) := by omega
        have hRR := refRune_any (t.extract X t.size) w6 hse
        rw [bs_drop] at hRR
        obtain ⟨q, eq⟩ : ∃ q, ch ((bs t).drop X) = q := ⟨_, rfl⟩
        obtain ⟨v, ev⟩ : ∃ q, sz ((bs t).drop X) = q := ⟨_, rfl⟩
        rw [eq, ev] at hRR
        rw [eq] at hcl
        rw [eq, ev]
        have HRR := hide hRR
        clear hRR eq ev
        have y4 : (((q : Nat) : Int) == ((q : Nat) : Int)) = true := by simp
        have y5 : (((v : Nat) : Int) == ((v : Nat) : Int)) = true := by simp
        go_wp2_with fail
        refine (HRR.out).mono ?_
        rintro e wx ⟨rfl, hw⟩
        rw [hw]
        clear hw wx
        go_wp2_with fail
        go_ret
        exact ⟨rfl, B2.trans ((B5.trans (hb6.mono B5.size)).mono B2.size)⟩
      · refine (rune_no r (bs t) x w5 ((K2.out).below B5) (by omega)).mono ?_
        rintro e w6 ⟨rfl, hb6⟩
        by_cases hneg : x < 0
        · go_wp2_with fail
          go_ret
          exact ⟨rfl, B2.trans ((B5.trans (hb6.mono B5.size)).mono B2.size)⟩
        · have y1 : (t.size : Int) ≤ x := by omega
          go_wp2_with fail
          go_ret
          exact ⟨rfl, B2.trans ((B5.trans (hb6.mono B5.size)).mono B2.size)⟩
    · go_wp2_with fail
      refine (refFind_any t line n false w5 z (by omega) (by omega) (by omega) Hz.out).mono ?_
      rintro e wx ⟨rfl, hw⟩
      rw [hw]
      clear hw wx
      go_wp2_with fail
      refine (refFind_any t line n true w5 y (by omega) (by omega) (by omega) Hy.out).mono ?_
      rintro e wx ⟨rfl, hw⟩
      rw [hw]
      clear hw wx
      go_wp2_with fail
      by_cases hin : 0 ≤ x ∧ x < (t.size : Int)
      · obtain ⟨X, rfl⟩ := Int.eq_ofNat_of_zero_le hin.1
        have hX : X < t.size := by omega
        refine (rune_yes r (bs t) X w5 ((hT.below B2).below B5) ((K2.out).below B5) (by omega) hs').mono ?_
        rintro e w6 ⟨rfl, hb6⟩
        have hne : (bs t).drop X ≠ [] := by intro e; have := congrArg List.length e; simp at this; omega
        have hcl := ch_le hne
        have hse : 0 < (t.extract X t.size).size := by rw [← bs_len, bs_drop, List.length_drop, hl]; omega
        have y1 : ¬ (X : Int) < 0 := by omega
        have y2 : ¬ (t.size : Int) ≤ (X : Int) := by omega
        have y3 : (X : Int) ≤ (t.size : Int) := by omega
        have hRR := refRune_any (t.extract X t.size) w6 hse
        rw [bs_drop] at hRR
        obtain ⟨q, eq⟩ : ∃ q, ch ((bs t).drop X) = q := ⟨_, rfl⟩
        obtain ⟨v, ev⟩ : ∃ q, sz ((bs t).drop X) = q := ⟨_, rfl⟩
        rw [eq, ev] at hRR
        rw [eq] at hcl
        rw [eq, ev]
        have HRR := hide hRR
        clear hRR eq ev
        have y4 : (((q : Nat) : Int) == ((q : Nat) : Int)) = true := by simp
        have y5 : (((v : Nat) : Int) == ((v : Nat) : Int)) = true := by simp
        go_wp2_with fail
        refine (HRR.out).mono ?_
        rintro e wx ⟨rfl, hw⟩
        rw [hw]
        clear hw wx
        go_wp2_with fail
        go_ret
        exact ⟨rfl, B2.trans ((B5.trans (hb6.mono B5.size)).mono B2.size)⟩
      · refine (rune_no r (bs t) x w5 ((K2.out).below B5) (by omega)).mono ?_
        rintro e w6 ⟨rfl, hb6⟩
        by_cases hneg : x < 0
        · go_wp2_with fail
          go_ret
          exact ⟨rfl, B2.trans ((B5.trans (hb6.mono B5.size)).mono B2.size)⟩
        · have y1 : (t.size : Int) ≤ x := by omega
          go_wp2_with fail
          go_ret
          exact ⟨rfl, B2.trans ((B5.trans (hb6.mono B5.size)).mono B2.size)⟩

theorem places_any (s m : ByteArray) (f x line n : Int) (w : World) (hT : Tabs w) (hs : s.size ≤ 562949953421312) (hm : m.size ≤ 562949953421312) (hn2 : n ≤ 9223372036854775807) :
    Calls Tryd.prog 4 #[.string s, .string m, .int .i64 f, .int .i64 x, .int .i64 line, .int .i64 n] w fun e w' => e = .returned (.bool true) ∧ Below w.heap.size w w' := by
  by_cases h : 0 ≤ f ∧ f ≤ (s.size : Int)
  · obtain ⟨F, rfl⟩ := Int.eq_ofNat_of_zero_le h.1
    exact places_yes s m F x line n w hT hs hm hn2 (by omega)
  · exact places_no s m f x line n w hT hs hn2 (by omega)
end Go.Proofs.YtijikgghakhhaaaDoor
