/- What Text and Rune give. -/
import Derived.Test.YtijikgghakhhaaaDoorWj
namespace Go.Proofs.YtijikgghakhhaaaDoor
open Go.RowKit
open M

set_option maxHeartbeats 400000 in
theorem text_no (r : Nat) (l : List UInt8) (x y : Int) (w : World) (k : IsR w r l) (h : hasB l.length x y = false) :
    Calls Tryd.prog 9 #[.pointer (some ⟨r, 0, none⟩), .int .i64 x, .int .i64 y] w fun e w' => e = .returned (.string ⟨#[]⟩) ∧ Below w.heap.size w w' := by
  have Hk := hide k
  clear k
  have hc := has_any r l x y w Hk.out
  rw [h] at hc
  have Hc := hide hc
  clear hc h
  go_enter Tryd.func9, Tryd.ntmps9
  go_wp2_with fail
  refine (Hc.out).mono ?_
  rintro e w1 ⟨rfl, hb1⟩
  go_wp2_with fail
  go_ret
  exact ⟨rfl, hb1⟩

/-- A tree that may be nil is written. -/
theorem write_any (v : Option Addr) (l : List UInt8) (w0 w : World) (B b : Nat) (x y : Nat) (t : OT w0 v l) (h0 : Below w0.heap.size w0 w) (hB0 : w0.heap.size ≤ B) (hB : B ≤ w.heap.size)
    (hbu : Lib.IsBuilder 57 5 B b [] w) (hxy : x ≤ y) (hy : y ≤ l.length) (hs : l.length ≤ 1125899906842624) (hlen : y - x ≤ 140737488355328) :
    Calls Tryd.prog 24 #[.pointer (some ⟨b, 0, none⟩), .pointer v, .int .i64 x, .int .i64 y] w fun e w' => e = .returned (.tuple #[]) ∧ Lib.IsBuilder 57 5 B b (Lib.byteCells ((l.take y).drop x)) w' ∧ Below B w w' := by
  rcases t with ⟨rfl, rfl⟩ | ⟨c, h, rfl, t⟩
  · refine (write_none b none x y w (by simp at hy; omega)).mono ?_
    rintro e w1 ⟨rfl, rfl⟩
    exact ⟨rfl, by simpa [Lib.byteCells] using hbu, Below.refl _ _⟩
  · have := write_ok h c l h w0 w B b [] (x : Int) (y : Int) (Nat.le_refl _) t h0 hB0 hB (by simpa [Lib.byteCells] using hbu) (by omega) (by omega) hs (by omega) (by omega) (by simp; omega)
    rw [Int.toNat_natCast, Int.toNat_natCast, List.nil_append] at this
    exact this

set_option maxHeartbeats 1000000 in
theorem text_yes (r : Nat) (l : List UInt8) (x y : Nat) (w : World) (k : IsR w r l) (hxy : x ≤ y) (hy : y ≤ l.length) (hs : l.length ≤ 1125899906842624) (hlen : y - x ≤ 140737488355328) :
    Calls Tryd.prog 9 #[.pointer (some ⟨r, 0, none⟩), .int .i64 x, .int .i64 y] w fun e w' => e = .returned (.string ⟨((l.take y).drop x).toArray⟩) ∧ Below w.heap.size w w' := by
  have hc := has_any r l x y w k
  rw [show hasB l.length x y = true from by simp [hasB]; omega] at hc
  have Hc := hide hc
  have Hk := hide k
  clear hc k
  have z1 : (x : Int) ≤ (y : Int) := by omega
  have z2 : (y : Int) ≤ 1125899906842624 := by omega
  go_enter Tryd.func9, Tryd.ntmps9
  go_wp2_with fail
  refine (Hc.out).mono ?_
  rintro e w1 ⟨rfl, hb1⟩
  have K1 := (Hk.out).below hb1
  obtain ⟨v, hcell, t, hr⟩ := K1.cell
  have Ht := hide t
  clear t K1
  go_wp2_with fail
  rw [show (y : Int) - (x : Int) = ((y - x : Nat) : Int) from by omega]
  refine (Tryd.Builder_Grow_fresh w1.heap.size w1.heap.size (y - x) _ (Nat.le_refl _) (World.heap_alloc_new' w1 _) (by simp) (by omega)).mono ?_
  rintro e w2 ⟨rfl, hbu, hb2⟩
  have B1 : Below w1.heap.size w1 w2 := ((Below.refl _ w1).alloc (Nat.le_refl _) _).trans hb2
  have hcell2 := kcb B1 hr hcell
  have hz2 : w1.heap.size ≤ w2.heap.size := B1.size
  have Hbu := hide hbu
  clear hcell hbu
  go_wp2_with fail
  refine (write_any v l w1 w2 w1.heap.size w1.heap.size x y Ht.out B1 (Nat.le_refl _) hz2 (Or.inr Hbu.out) hxy hy hs hlen).mono ?_
  rintro e w3 ⟨rfl, hbu3, hb3⟩
  have Hbu3 := hide hbu3
  clear hbu3
  go_wp2_with fail
  refine (Tryd.Builder_String_any w1.heap.size w1.heap.size _ w3 Hbu3.out (Nat.le_trans hz2 hb3.size)).mono ?_
  rintro e w4 ⟨rfl, hb4⟩
  go_wp2_with fail
  go_ret
  exact ⟨rfl, hb1.trans ((B1.trans (hb3.trans hb4)).mono hb1.size)⟩

set_option maxHeartbeats 400000 in
theorem rune_no (r : Nat) (l : List UInt8) (x : Int) (w : World) (k : IsR w r l) (h : x < 0 ∨ (l.length : Int) ≤ x) :
    Calls Tryd.prog 18 #[.pointer (some ⟨r, 0, none⟩), .int .i64 x] w fun e w' => e = .returned (.tuple #[.int .i32 0, .int .i64 0]) ∧ Below w.heap.size w w' := by
  have Hk := hide k
  clear k
  by_cases h0 : x < 0
  · go_enter Tryd.func18, Tryd.ntmps18
    go_wp2_with fail
    go_ret2
    exact ⟨rfl, Below.refl _ _⟩
  · have h1 : (l.length : Int) ≤ x := by omega
    clear h
    go_enter Tryd.func18, Tryd.ntmps18
    go_wp2_with fail
    refine (len_any r l _ Hk.out).mono ?_
    rintro e w1 ⟨rfl, hb1⟩
    go_wp2_with fail
    go_ret2
    exact ⟨rfl, hb1⟩

theorem sz_take4 (l : List UInt8) : dec (l.take 4) = dec l := by
  by_cases h : l = []
  · subst h; rfl
  · have hne : l.take 4 ≠ [] := by cases l <;> simp at h ⊢
    have := dec_prefix (a := l.take 4) (b := l.drop 4) hne (by rw [List.take_append_drop, List.length_take]; have := sz_le l; have := sz_le4 l; omega)
    rwa [List.take_append_drop] at this

set_option maxHeartbeats 1000000 in
theorem rune_yes (r : Nat) (l : List UInt8) (x : Nat) (w : World) (hT : Tabs w) (k : IsR w r l) (h : x < l.length) (hs : l.length ≤ 1125899906842624) :
    Calls Tryd.prog 18 #[.pointer (some ⟨r, 0, none⟩), .int .i64 x] w fun e w' => e = .returned (.tuple #[.int .i32 (ch (l.drop x)), .int .i64 (sz (l.drop x))]) ∧ Below w.heap.size w w' := by
  have Hk := hide k
  clear k
  have z1 : ¬ (x : Int) < 0 := by omega
  have z2 : ¬ (l.length : Int) ≤ (x : Int) := by omega
  have z3 : (x : Int) ≤ 1125899906842624 := by omega
  go_enter Tryd.func18, Tryd.ntmps18
  go_wp2_with fail
  refine (len_any r l _ Hk.out).mono ?_
  rintro e w1 ⟨rfl, hb1⟩
  go_wp2_with fail
  have K1 := (Hk.out).below hb1
  refine (len_any r l _ K1).mono ?_
  rintro e w2 ⟨rfl, hb2⟩
  have K2 := hide (K1.below hb2)
  clear K1
  go_wp2_with fail
  rw [show min ((x : Int) + 4) (l.length : Int) = ((min (x + 4) l.length : Nat) : Int) from by omega]
  refine (text_yes r l x (min (x + 4) l.length) w2 K2.out (by omega) (by omega) hs (by omega)).mono ?_
  rintro e w3 ⟨rfl, hb3⟩
  go_wp2_with fail
  have B3 : Below w.heap.size w w3 := (hb1.trans (hb2.mono hb1.size)).trans (hb3.mono (Nat.le_trans hb1.size hb2.size))
  refine (decode_any _ w3 (hT.below B3)).mono ?_
  rintro e w4 ⟨rfl, hb4⟩
  have hd : dec ((l.take (min (x + 4) l.length)).drop x) = dec (l.drop x) := by
    have e1 : (l.take (min (x + 4) l.length)).drop x = (l.drop x).take 4 := by
      rw [List.drop_take]
      by_cases h4 : x + 4 ≤ l.length
      · rw [Nat.min_eq_left h4]; congr 1; omega
      · rw [Nat.min_eq_right (by omega), List.take_of_length_le (by simp), List.take_of_length_le (by simp; omega)]
    rw [e1, sz_take4]
  have hc : ch (bs ⟨((l.take (min (x + 4) l.length)).drop x).toArray⟩) = ch (l.drop x) := congrArg Prod.fst hd
  have hz : sz (bs ⟨((l.take (min (x + 4) l.length)).drop x).toArray⟩) = sz (l.drop x) := congrArg Prod.snd hd
  rw [hc, hz]
  clear hc hz hd
  go_wp2_with fail
  go_ret2
  exact ⟨rfl, B3.trans (hb4.mono B3.size)⟩
end Go.Proofs.YtijikgghakhhaaaDoor
