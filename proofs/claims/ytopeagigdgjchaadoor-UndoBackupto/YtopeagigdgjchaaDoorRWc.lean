/- What measureOf and beginOf do. -/
import Derived.Test.YtopeagigdgjchaaDoorRWb
namespace Go.Proofs.YtopeagigdgjchaaDoor.Rp
open Go.RowKit
open M

set_option maxHeartbeats 400000 in
theorem allFits (w : World) : Fits 55 #[] (fun _ _ _ _ => true) w := by
  refine ⟨enters_of Tryd.func55 (by kernel_rfl) rfl, fun a b c d W _ _ _ _ _ => ?_⟩
  show Calls Tryd.prog 55 #[.agg #[.int .i64 a, .int .i64 b, .int .i64 c, .int .i64 d]] W _
  go_enter Tryd.func55, Tryd.ntmps55
  go_wp2
  go_ret
  exact ⟨rfl, (Below.refl _ _).alloc (Nat.le_refl _) _⟩

set_option maxHeartbeats 400000 in
theorem measureOf_any (s : ByteArray) (w : World) (hT : Tabs w) (hs : s.size ≤ 1125899906842624) :
    Calls Tryd.prog 40 #[.string s] w fun e w' => e = .returned (.agg #[.int .i64 s.size, .int .i64 (nb (bs s)), .int .i64 (nr (bs s)), .int .i64 (nu (bs s))]) ∧ Below w.heap.size w w' := by
  have hl := bs_len s
  go_enter Tryd.func40, Tryd.ntmps40
  go_wp2_with fail
  have hc := longest_any s 0 0 0 0 55 #[] _ (w.alloc (Obj.cells #[Value.int IntKind.i64 0, Value.int IntKind.i64 0, Value.int IntKind.i64 0, Value.int IntKind.i64 0] 93)) (hT.alloc _) (allFits _) hs (by omega) (by omega) (by omega) (by omega)
  refine hc.mono ?_
  clear hc
  rintro e w1 ⟨k, hk, _, rfl, _, h3, hb1⟩
  have ek : k = s.size := by
    by_cases h : k < s.size
    · exact absurd (h3 h) (by simp)
    · omega
  subst ek
  rw [List.take_of_length_le (by omega)]
  simp only [Nat.zero_add]
  clear h3
  have k1 := (Blk4.new w _ _ _ _).below hb1 (by simp)
  obtain ⟨⟨c0, c1, c2, c3⟩, f0, f1, f2, f3⟩ := k1.facts
  go_wp2_with fail
  refine bodyPost_ret (v := .agg #[.int .i64 s.size, .int .i64 (nb (bs s)), .int .i64 (nr (bs s)), .int .i64 (nu (bs s))]) (by simp [results, Tryd.results40, go_sem, c0, c1, c2, c3]) rfl ⟨rfl, ?_⟩
  exact below_set4 (((Below.refl _ w).alloc (Nat.le_refl _) _).trans (hb1.mono (by simp))) (Nat.le_refl _) _ _ _ _

theorem begAt_of_found {l : List UInt8} {a j : Nat} (hj : 1 ≤ j) (hja : j ≤ a) (hno : ∀ i, 1 ≤ i → i < j → ¬ i < sz (l.drop (a - i))) (h : j < sz (l.drop (a - j))) : begAt l a = a - j := by
  have h4 := sz_le4 (l.drop (a - j))
  have : j = 1 ∨ j = 2 ∨ j = 3 := by omega
  unfold begAt
  rcases this with rfl | rfl | rfl
  · rw [if_pos ⟨by omega, h⟩]
  · rw [if_neg (fun h' => hno 1 (by omega) (by omega) h'.2), if_pos ⟨by omega, h⟩]
  · rw [if_neg (fun h' => hno 1 (by omega) (by omega) h'.2), if_neg (fun h' => hno 2 (by omega) (by omega) h'.2), if_pos ⟨by omega, h⟩]
theorem begAt_of_none {l : List UInt8} {a j : Nat} (hno : ∀ i, 1 ≤ i → i < j → ¬ i < sz (l.drop (a - i))) (h : ¬ (j ≤ 3 ∧ j ≤ a)) : begAt l a = a := by
  unfold begAt
  rw [if_neg (fun h' => hno 1 (by omega) (by omega) h'.2), if_neg (fun h' => hno 2 (by omega) (by omega) h'.2), if_neg (fun h' => hno 3 (by omega) (by omega) h'.2)]

set_option maxHeartbeats 1000000 in
theorem beginOf_any (s : ByteArray) (p : Nat) (w : World) (hT : Tabs w) (hp : p ≤ s.size) (hs : s.size ≤ 1125899906842624) :
    Calls Tryd.prog 41 #[.string s, .int .i64 p] w fun e w' => e = .returned (.int .i64 (begAt (bs s) p)) ∧ Below w.heap.size w w' := by
  go_enter Tryd.func41, Tryd.ntmps41
  go_wp2_with fail
  go_loopw [5] (fun t wr => ∃ j : Nat, t = .int .i64 j ∧ 1 ≤ j ∧ j ≤ 4 ∧ (∀ i, 1 ≤ i → i < j → ¬ i < sz ((bs s).drop (p - i))) ∧ Below w.heap.size w wr) (fun t _ => (4 - intOf t).toNat)
  case atStart => exact ⟨1, rfl, by omega, by omega, fun i h1 h2 => by omega, Below.refl _ _⟩
  case round =>
    obtain ⟨j, rfl, hj1, hj4, hno, hb⟩ := hrel
    have Hno := hide hno
    clear hno
    by_cases hc : j ≤ 3 ∧ j ≤ p
    · obtain ⟨hj3, hjp⟩ := hc
      have z1 : (j : Int) ≤ 3 := by omega
      have z2 : (j : Int) ≤ (p : Int) := by omega
      have z3 : (p : Int) ≤ (s.size : Int) := by omega
      go_wp2_with fail
      refine (decode_any _ wr (hT.below hb)).mono ?_
      rintro e w1 ⟨rfl, hb1⟩
      have B1 : Below w.heap.size w w1 := hb.trans (hb1.mono (by have := hb.size; omega))
      rw [bs_drop]
      obtain ⟨n, hn⟩ : ∃ n, sz ((bs s).drop (p - j)) = n := ⟨_, rfl⟩
      have hn4 := sz_le4 ((bs s).drop (p - j))
      rw [hn] at hn4 ⊢
      have Hn := hide hn
      clear hn
      by_cases hjn : j < n
      · go_wp2_with fail
        go_ret
        refine ⟨?_, B1⟩
        rw [begAt_of_found (j := j) (by omega) (by omega) Hno.out (by rw [Hn.out]; exact hjn), Int.ofNat_sub (by omega)]
        rfl
      · go_wp2_with fail
        refine ⟨⟨j + 1, by go_num, by omega, by omega, fun i h1 h2 => ?_, B1⟩, by simp [intOf]; omega⟩
        by_cases e : i = j
        · subst e; rw [Hn.out]; exact hjn
        · exact Hno.out i h1 (by omega)
    · by_cases hj3 : j ≤ 3
      · have z1 : (j : Int) ≤ 3 := by omega
        have z2 : ¬ (j : Int) ≤ (p : Int) := by omega
        go_wp2_with fail
        go_ret
        exact ⟨by rw [begAt_of_none Hno.out hc]; rfl, hb⟩
      · have z1 : ¬ (j : Int) ≤ 3 := by omega
        go_wp2_with fail
        go_ret
        exact ⟨by rw [begAt_of_none Hno.out hc]; rfl, hb⟩
end Go.Proofs.YtopeagigdgjchaaDoor.Rp
