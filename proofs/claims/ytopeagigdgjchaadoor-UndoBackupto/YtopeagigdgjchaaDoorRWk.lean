/- What Text and Rune give. -/
import Derived.Test.YtopeagigdgjchaaDoorRWj
namespace Go.Proofs.YtopeagigdgjchaaDoor.Rp
open Go.RowKit
open M

set_option maxHeartbeats 400000 in
theorem text_no (r : Nat) (l : List UInt8) (x y : Int) (w : World) (k : IsR w r l) (h : hasB l.length x y = false) :
    Calls Tryd.prog 24 #[.pointer (some ⟨r, 0, none⟩), .int .i64 x, .int .i64 y] w fun e w' => e = .returned (.string ⟨#[]⟩) ∧ Below w.heap.size w w' := by
  have Hk := hide k
  clear k
  have hc := has_any r l x y w Hk.out
  rw [h] at hc
  have Hc := hide hc
  clear hc h
  go_enter Tryd.func24, Tryd.ntmps24
  go_wp2_with fail
  refine (Hc.out).mono ?_
  rintro e w1 ⟨rfl, hb1⟩
  go_wp2_with fail
  go_ret
  exact ⟨rfl, hb1⟩

/-- A tree that may be nil is written. -/
theorem write_any (v : Option Addr) (l : List UInt8) (w0 w : World) (B b : Nat) (x y : Nat) (t : OT w0 v l) (h0 : Below w0.heap.size w0 w) (hB0 : w0.heap.size ≤ B) (hB : B ≤ w.heap.size)
    (hbu : Lib.IsBuilder 89 5 B b [] w) (hxy : x ≤ y) (hy : y ≤ l.length) (hs : l.length ≤ 1125899906842624) (hlen : y - x ≤ 140737488355328) :
    Calls Tryd.prog 37 #[.pointer (some ⟨b, 0, none⟩), .pointer v, .int .i64 x, .int .i64 y] w fun e w' => e = .returned (.tuple #[]) ∧ Lib.IsBuilder 89 5 B b (Lib.byteCells ((l.take y).drop x)) w' ∧ Below B w w' := by
  rcases t with ⟨rfl, rfl⟩ | ⟨c, h, rfl, t⟩
  · refine (write_none b none x y w (by simp at hy; omega)).mono ?_
    rintro e w1 ⟨rfl, rfl⟩
    exact ⟨rfl, by simpa [Lib.byteCells] using hbu, Below.refl _ _⟩
  · have := write_ok h c l h w0 w B b [] (x : Int) (y : Int) (Nat.le_refl _) t h0 hB0 hB (by simpa [Lib.byteCells] using hbu) (by omega) (by omega) hs (by omega) (by omega) (by simp; omega)
    rw [Int.toNat_natCast, Int.toNat_natCast, List.nil_append] at this
    exact this

set_option maxHeartbeats 1000000 in
theorem text_yes (r : Nat) (l : List UInt8) (x y : Nat) (w : World) (k : IsR w r l) (hxy : x ≤ y) (hy : y ≤ l.length) (hs : l.length ≤ 1125899906842624) (hlen : y - x ≤ 140737488355328) :
    Calls Tryd.prog 24 #[.pointer (some ⟨r, 0, none⟩), .int .i64 x, .int .i64 y] w fun e w' => e = .returned (.string ⟨((l.take y).drop x).toArray⟩) ∧ Below w.heap.size w w' := by
  have hc := has_any r l x y w k
  rw [show hasB l.length x y = true from by simp [hasB]; omega] at hc
  have Hc := hide hc
  have Hk := hide k
  clear hc k
  have z1 : (x : Int) ≤ (y : Int) := by omega
  have z2 : (y : Int) ≤ 1125899906842624 := by omega
  go_enter Tryd.func24, Tryd.ntmps24
  go_wp2_with fail
  refine (Hc.out).mono ?_
  rintro e w1 ⟨rfl, hb1⟩
  have K1 := (Hk.out).below hb1
  obtain ⟨v, hcell, t, hr⟩ := K1.cell
  have Ht := hide t
  clear t K1
  go_wp2_with fail
  rw [show (y : Int) - (x : Int) = ((y - x : Nat) : Int) from by omega]
  refine (Tryd.Builder_Grow_fresh w1.heap.size w1.heap.size (y - x) _ (Nat.le_refl _) (World.heap_alloc_new' w1 _) (by simp) (by omega)).mono ?_
  rintro e w2 ⟨rfl, hbu, hb2⟩
  have B1 : Below w1.heap.size w1 w2 := ((Below.refl _ w1).alloc (Nat.le_refl _) _).trans hb2
  have hcell2 := kcb B1 hr hcell
  have hz2 : w1.heap.size ≤ w2.heap.size := B1.size
  have Hbu := hide hbu
  clear hcell hbu
  go_wp2_with fail
  refine (write_any v l w1 w2 w1.heap.size w1.heap.size x y Ht.out B1 (Nat.le_refl _) hz2 (Or.inr Hbu.out) hxy hy hs hlen).mono ?_
  rintro e w3 ⟨rfl, hbu3, hb3⟩
  have Hbu3 := hide hbu3
  clear hbu3
  go_wp2_with fail
  refine (Tryd.Builder_String_any w1.heap.size w1.heap.size _ w3 Hbu3.out (Nat.le_trans hz2 hb3.size)).mono ?_
  rintro e w4 ⟨rfl, hb4⟩
  go_wp2_with fail
  go_ret
  exact ⟨rfl, hb1.trans ((B1.trans (hb3.trans hb4)).mono hb1.size)⟩

theorem sz_take4 (l : List UInt8) : dec (l.take 4) = dec l := by
  by_cases h : l = []
  · subst h; rfl
  · have hne : l.take 4 ≠ [] := by cases l <;> simp at h ⊢
    have := dec_prefix (a := l.take 4) (b := l.drop 4) hne (by rw [List.take_append_drop, List.length_take]; have := sz_le l; have := sz_le4 l; omega)
    rwa [List.take_append_drop] at this

end Go.Proofs.YtopeagigdgjchaaDoor.Rp
