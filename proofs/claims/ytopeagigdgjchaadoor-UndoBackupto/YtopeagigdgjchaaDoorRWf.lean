/- What level makes of two trees. -/
import Derived.Test.YtopeagigdgjchaaDoorRWe
namespace Go.Proofs.YtopeagigdgjchaaDoor.Rp
open Go.RowKit
open M

theorem belowN {B : Nat} {a w : World} (h : Below B a w) (n : Nat) : Below B a (w.drewN n) := h.trans ⟨rfl, rfl, rfl, Nat.le_refl _, fun _ _ => rfl⟩
theorem kcb {w w1 : World} (hb : Below w.heap.size w w1) {b o : Nat} {v : Value} (hl : b < w.heap.size) (h : w.cell? ⟨b, o, none⟩ = some v) : w1.cell? ⟨b, o, none⟩ = some v :=
  ((bcell hb).1 b o hl).trans h

set_option maxHeartbeats 1000000 in
theorem level_1a (a b al ar : Nat) (l1 l2 l3 : List UInt8) (h1 h2 k1 k2 : Nat) (w : World) (ta : IsT w al l1 k1) (tb : IsT w ar l2 k2) (tc : IsT w b l3 h2)
    (ha : h1 = max k1 k2 + 1) (na : ∃ t x1 x2 x3 x4, Node w a (some ⟨al, 0, none⟩) (some ⟨ar, 0, none⟩) t h1 x1 x2 x3 x4)
    (g1 : h2 + 1 < h1) (g2 : k2 ≤ k1) (hb1 : Bd (l1 ++ (l2 ++ l3)) l1.length) (hb2 : Bd (l2 ++ l3) l2.length) (hs : (l1 ++ (l2 ++ l3)).length ≤ 1125899906842624) :
    Calls Tryd.prog 57 #[.pointer (some ⟨a, 0, none⟩), .pointer (some ⟨b, 0, none⟩)] w fun e w' => ∃ c h, e = .returned (.pointer (some ⟨c, 0, none⟩)) ∧ IsT w' c (l1 ++ (l2 ++ l3)) h ∧ Below w.heap.size w w' := by
  obtain ⟨t, x1, x2, x3, x4, na⟩ := na
  obtain ⟨p0, p1, _, p3, _⟩ := na.facts
  obtain ⟨_, _, _, nb⟩ := tc.any
  obtain ⟨_, _, _, q3, _⟩ := nb.facts
  obtain ⟨_, _, _, nl⟩ := ta.any
  obtain ⟨_, _, _, r3, _⟩ := nl.facts
  obtain ⟨_, _, _, nr'⟩ := tb.any
  obtain ⟨_, _, _, s3, _⟩ := nr'.facts
  have la := na.lt
  have z1 := ta.size
  have z2 := tb.size
  have z3 := tc.size
  have hs' := hs
  simp only [List.length_append] at hs'
  have bh1 : (h1 : Int) ≤ 1125899906842625 := by omega
  have bh2 : (h2 : Int) ≤ 1125899906842624 := by omega
  have G1 : (h2 : Int) + 1 < (h1 : Int) := by omega
  have G2 : (k2 : Int) ≤ (k1 : Int) := by omega
  have Ha := hide ha
  clear ha na nb nl nr' g1 g2 hs'
  have HT := hide (And.intro ta (And.intro tb tc))
  clear ta tb tc
  go_enter Tryd.func57, Tryd.ntmps57
  go_wp2_with fail
  go_quiet (fail)
  go_wp2_with fail
  obtain ⟨W, hW⟩ : ∃ W, w.drewN nq = W := ⟨_, rfl⟩
  have HB : Below w.heap.size w W.drew := by rw [← hW]; exact ((belowN (Below.refl _ w) nq).drew)
  have c0 : W.cell? ⟨a, 0, none⟩ = some (.pointer (some ⟨al, 0, none⟩)) := by rw [← hW]; exact p0
  have c1 : W.cell? ⟨a, 1, none⟩ = some (.pointer (some ⟨ar, 0, none⟩)) := by rw [← hW]; exact p1
  have la' : a < W.heap.size := by rw [← hW]; exact la
  rw [hW]
  have hs2 : (l2 ++ l3).length ≤ 1125899906842624 := by simp only [List.length_append] at hs ⊢; omega
  have T := HT.out
  have HT1 := hide (T.1.below HB)
  have HT2 := hide (T.2.1.below HB)
  have HT3 := hide (T.2.2.below HB)
  clear hW p0 p1 p3 q3 r3 s3 G1 G2 T HT
  go_region_held3 (fun w' => w'.cell? ⟨a, 0, none⟩ = some (.pointer (some ⟨al, 0, none⟩)) ∧ w'.cell? ⟨a, 1, none⟩ = some (.pointer (some ⟨ar, 0, none⟩)))
    (first | go_keep | exact ⟨kc hb3 la' c0, kc hb3 la' c1⟩ | exact ⟨kcb (hb3.trans (hb4.mono hb3.size)) la' c0, kcb (hb3.trans (hb4.mono hb3.size)) la' c1⟩)
    ((first
      | (go_at_call_of 58 (Value.pointer (some ⟨ar, 0, none⟩)); refine (pair_any ar b l2 l3 k2 h2 _ (by exact HT2.out) (by exact HT3.out) hb2 hs2).mono ?_; rintro e w1 ⟨c, rfl, tc1, hb3⟩)
      | (go_at_call_of 58 (Value.pointer (some ⟨al, 0, none⟩)); refine (pair_any al c l1 (l2 ++ l3) k1 _ w1 (by exact (HT1.out).below hb3) tc1 hb1 hs).mono ?_; rintro e w2 ⟨d, rfl, td, hb4⟩)))
  all_goals
    go_wp2_with fail
    go_ret
    exact ⟨d, _, rfl, td, (HB.trans (hb3.mono HB.size)).trans (hb4.mono (Nat.le_trans HB.size hb3.size))⟩

set_option maxHeartbeats 2000000 in
theorem level_1b (a b al ar arl arr : Nat) (l1 l2 l3 l4 : List UInt8) (h1 h2 k1 k2 j1 j2 : Nat) (w : World) (ta : IsT w al l1 k1) (tb : IsT w arl l2 j1) (tc : IsT w arr l3 j2) (td : IsT w b l4 h2)
    (na : ∃ t x1 x2 x3 x4, Node w a (some ⟨al, 0, none⟩) (some ⟨ar, 0, none⟩) t h1 x1 x2 x3 x4) (nr : ∃ t x1 x2 x3 x4, Node w ar (some ⟨arl, 0, none⟩) (some ⟨arr, 0, none⟩) t k2 x1 x2 x3 x4)
    (g1 : h2 + 1 < h1) (g2 : ¬ k2 ≤ k1) (bh1 : (h1 : Int) ≤ 1125899906842625)
    (hb1 : Bd (l1 ++ l2) l1.length) (hb2 : Bd (l3 ++ l4) l3.length) (hb3 : Bd (l1 ++ l2 ++ (l3 ++ l4)) (l1 ++ l2).length) (hs : (l1 ++ l2 ++ (l3 ++ l4)).length ≤ 1125899906842624) :
    Calls Tryd.prog 57 #[.pointer (some ⟨a, 0, none⟩), .pointer (some ⟨b, 0, none⟩)] w fun e w' => ∃ c h, e = .returned (.pointer (some ⟨c, 0, none⟩)) ∧ IsT w' c (l1 ++ l2 ++ (l3 ++ l4)) h ∧ Below w.heap.size w w' := by
  obtain ⟨t, x1, x2, x3, x4, na⟩ := na
  obtain ⟨p0, p1, _, p3, _⟩ := na.facts
  obtain ⟨t', y1, y2, y3, y4, nr⟩ := nr
  obtain ⟨u0, u1, _, u3, _⟩ := nr.facts
  obtain ⟨_, _, _, nb⟩ := td.any
  obtain ⟨_, _, _, q3, _⟩ := nb.facts
  obtain ⟨_, _, _, nl⟩ := ta.any
  obtain ⟨_, _, _, r3, _⟩ := nl.facts
  have la := na.lt
  have lr := nr.lt
  have z3 := td.size
  have hs' := hs
  simp only [List.length_append] at hs'
  have bh2 : (h2 : Int) ≤ 1125899906842624 := by omega
  have G1 : (h2 : Int) + 1 < (h1 : Int) := by omega
  have G2 : ¬ (k2 : Int) ≤ (k1 : Int) := by omega
  have G3 : decide ((k2 : Int) ≤ (k1 : Int)) = false := by simp; omega
  clear na nb nl nr g1 g2 hs'
  have HT := hide (And.intro ta (And.intro tb (And.intro tc td)))
  clear ta tb tc td
  go_enter Tryd.func57, Tryd.ntmps57
  go_wp2_with fail
  go_quiet (fail)
  go_wp2_with fail
  generalize nq = n0
  go_quiet (fail)
  go_wp2_with fail
  generalize nq = n1
  obtain ⟨W, hW⟩ : ∃ W, (w.drewN n0).drewN n1 = W := ⟨_, rfl⟩
  have HB : Below w.heap.size w W.drew := by rw [← hW]; exact ((belowN (belowN (Below.refl _ w) n0) n1).drew)
  have c0 : W.cell? ⟨a, 0, none⟩ = some (.pointer (some ⟨al, 0, none⟩)) := by rw [← hW]; exact p0
  have c1 : W.cell? ⟨a, 1, none⟩ = some (.pointer (some ⟨ar, 0, none⟩)) := by rw [← hW]; exact p1
  have d0 : W.cell? ⟨ar, 0, none⟩ = some (.pointer (some ⟨arl, 0, none⟩)) := by rw [← hW]; exact u0
  have d1 : W.cell? ⟨ar, 1, none⟩ = some (.pointer (some ⟨arr, 0, none⟩)) := by rw [← hW]; exact u1
  have la' : a < W.heap.size := by rw [← hW]; exact la
  have lr' : ar < W.heap.size := by rw [← hW]; exact lr
  rw [hW]
  have hs2 : (l1 ++ l2).length ≤ 1125899906842624 := by simp only [List.length_append] at hs ⊢; omega
  have hs3 : (l3 ++ l4).length ≤ 1125899906842624 := by simp only [List.length_append] at hs ⊢; omega
  have T := HT.out
  have HT1 := hide (T.1.below HB)
  have HT2 := hide (T.2.1.below HB)
  have HT3 := hide (T.2.2.1.below HB)
  have HT4 := hide (T.2.2.2.below HB)
  clear hW p0 p1 p3 q3 r3 u0 u1 u3 G1 G2 G3 T HT
  go_region_held3 (fun w' => w'.cell? ⟨a, 0, none⟩ = some (.pointer (some ⟨al, 0, none⟩)) ∧ w'.cell? ⟨a, 1, none⟩ = some (.pointer (some ⟨ar, 0, none⟩)) ∧ w'.cell? ⟨ar, 0, none⟩ = some (.pointer (some ⟨arl, 0, none⟩)) ∧ w'.cell? ⟨ar, 1, none⟩ = some (.pointer (some ⟨arr, 0, none⟩)))
    (first
      | go_keep
      | exact ⟨kc hbA la' c0, kc hbA la' c1, kc hbA lr' d0, kc hbA lr' d1⟩ | exact ⟨kc hbB la' c0, kc hbB la' c1, kc hbB lr' d0, kc hbB lr' d1⟩
      | exact ⟨kc (hbA.trans (hbB.mono hbA.size)) la' c0, kc (hbA.trans (hbB.mono hbA.size)) la' c1, kc (hbA.trans (hbB.mono hbA.size)) lr' d0, kc (hbA.trans (hbB.mono hbA.size)) lr' d1⟩
      | exact ⟨kc (hbB.trans (hbA.mono hbB.size)) la' c0, kc (hbB.trans (hbA.mono hbB.size)) la' c1, kc (hbB.trans (hbA.mono hbB.size)) lr' d0, kc (hbB.trans (hbA.mono hbB.size)) lr' d1⟩
      | exact ⟨kc ((hbA.trans (hbB.mono hbA.size)).trans (hbC.mono (Nat.le_trans hbA.size hbB.size))) la' c0, kc ((hbA.trans (hbB.mono hbA.size)).trans (hbC.mono (Nat.le_trans hbA.size hbB.size))) la' c1, kc ((hbA.trans (hbB.mono hbA.size)).trans (hbC.mono (Nat.le_trans hbA.size hbB.size))) lr' d0, kc ((hbA.trans (hbB.mono hbA.size)).trans (hbC.mono (Nat.le_trans hbA.size hbB.size))) lr' d1⟩
      | exact ⟨kc ((hbB.trans (hbA.mono hbB.size)).trans (hbC.mono (Nat.le_trans hbB.size hbA.size))) la' c0, kc ((hbB.trans (hbA.mono hbB.size)).trans (hbC.mono (Nat.le_trans hbB.size hbA.size))) la' c1, kc ((hbB.trans (hbA.mono hbB.size)).trans (hbC.mono (Nat.le_trans hbB.size hbA.size))) lr' d0, kc ((hbB.trans (hbA.mono hbB.size)).trans (hbC.mono (Nat.le_trans hbB.size hbA.size))) lr' d1⟩)
    ((first
      | (go_at_call_of 58 (Value.pointer (some ⟨al, 0, none⟩)); refine (pair_any al arl l1 l2 k1 j1 _ ?_ ?_ hb1 hs2).mono ?_; (first | exact HT1.out | exact (HT1.out).below hbB); (first | exact HT2.out | exact (HT2.out).below hbB); rintro e wA ⟨cA, rfl, tA, hbA⟩)
      | (go_at_call_of 58 (Value.pointer (some ⟨b, 0, none⟩)); refine (pair_any arr b l3 l4 j2 h2 _ ?_ ?_ hb2 hs3).mono ?_; (first | exact HT3.out | exact (HT3.out).below hbA); (first | exact HT4.out | exact (HT4.out).below hbA); rintro e wB ⟨cB, rfl, tB, hbB⟩)
      | (go_at_call_of 58 (Value.pointer (some ⟨cA, 0, none⟩)); refine (pair_any cA cB (l1 ++ l2) (l3 ++ l4) (max k1 j1 + 1) (max j2 h2 + 1) _ ?_ ?_ hb3 hs).mono ?_; (first | exact tA | exact tA.below hbB); (first | exact tB | exact tB.below hbA); rintro e wC ⟨cC, rfl, tC, hbC⟩)))
  all_goals
    go_wp2_with fail
    go_ret
    first
    | exact ⟨cC, _, rfl, tC, (HB.trans (hbA.mono HB.size)).trans ((hbB.mono (Nat.le_trans HB.size hbA.size)).trans (hbC.mono (Nat.le_trans HB.size (Nat.le_trans hbA.size hbB.size))))⟩
    | exact ⟨cC, _, rfl, tC, (HB.trans (hbB.mono HB.size)).trans ((hbA.mono (Nat.le_trans HB.size hbB.size)).trans (hbC.mono (Nat.le_trans HB.size (Nat.le_trans hbB.size hbA.size))))⟩
end Go.Proofs.YtopeagigdgjchaaDoor.Rp
