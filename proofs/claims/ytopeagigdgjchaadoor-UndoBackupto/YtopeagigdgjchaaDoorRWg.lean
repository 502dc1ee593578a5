/- What level makes of two trees, where the second one is the higher, or none is. -/
import Derived.Test.YtopeagigdgjchaaDoorRWf
namespace Go.Proofs.YtopeagigdgjchaaDoor.Rp
open Go.RowKit
open M

set_option maxHeartbeats 2000000 in
theorem level_2a (a b bl br : Nat) (l1 l2 l3 : List UInt8) (h1 h2 k1 k2 : Nat) (w : World) (ta : IsT w a l1 h1) (tb : IsT w bl l2 k1) (tc : IsT w br l3 k2)
    (nbb : ∃ t x1 x2 x3 x4, Node w b (some ⟨bl, 0, none⟩) (some ⟨br, 0, none⟩) t h2 x1 x2 x3 x4)
    (g1 : h1 + 1 < h2) (g2 : k1 ≤ k2) (bh2 : (h2 : Int) ≤ 1125899906842625) (hb1 : Bd (l1 ++ l2) l1.length) (hb2 : Bd (l1 ++ l2 ++ l3) (l1 ++ l2).length) (hs : (l1 ++ l2 ++ l3).length ≤ 1125899906842624) :
    Calls Tryd.prog 57 #[.pointer (some ⟨a, 0, none⟩), .pointer (some ⟨b, 0, none⟩)] w fun e w' => ∃ c h, e = .returned (.pointer (some ⟨c, 0, none⟩)) ∧ IsT w' c (l1 ++ l2 ++ l3) h ∧ Below w.heap.size w w' := by
  obtain ⟨t, x1, x2, x3, x4, nbb⟩ := nbb
  obtain ⟨p0, p1, _, p3, _⟩ := nbb.facts
  obtain ⟨_, _, _, na⟩ := ta.any
  obtain ⟨_, _, _, q3, _⟩ := na.facts
  obtain ⟨_, _, _, nl⟩ := tb.any
  obtain ⟨_, _, _, r3, _⟩ := nl.facts
  obtain ⟨_, _, _, nr'⟩ := tc.any
  obtain ⟨_, _, _, s3, _⟩ := nr'.facts
  have lb := nbb.lt
  have z1 := ta.size
  have hs' := hs
  simp only [List.length_append] at hs'
  have bh1 : (h1 : Int) ≤ 1125899906842624 := by omega
  have G1 : (h1 : Int) + 1 < (h2 : Int) := by omega
  have G2 : (k1 : Int) ≤ (k2 : Int) := by omega
  have G3 : decide ((h2 : Int) + 1 < (h1 : Int)) = false := by simp; omega
  have G4 : ¬ (h2 : Int) + 1 < (h1 : Int) := by omega
  clear na nbb nl nr' g1 g2 hs'
  have HT := hide (And.intro ta (And.intro tb tc))
  clear ta tb tc
  go_enter Tryd.func57, Tryd.ntmps57
  go_wp2_with fail
  go_quiet (fail)
  go_wp2_with fail
  generalize nq = n0
  go_quiet (fail)
  go_wp2_with fail
  generalize nq = n1
  go_quiet (fail)
  go_wp2_with fail
  generalize nq = n2
  obtain ⟨W, hW⟩ : ∃ W, ((w.drewN n0).drewN n1).drewN n2 = W := ⟨_, rfl⟩
  have HB : Below w.heap.size w W.drew := by rw [← hW]; exact (belowN (belowN (belowN (Below.refl _ w) n0) n1) n2).drew
  have c0 : W.cell? ⟨b, 0, none⟩ = some (.pointer (some ⟨bl, 0, none⟩)) := by rw [← hW]; exact p0
  have c1 : W.cell? ⟨b, 1, none⟩ = some (.pointer (some ⟨br, 0, none⟩)) := by rw [← hW]; exact p1
  have lb' : b < W.heap.size := by rw [← hW]; exact lb
  rw [hW]
  have hs2 : (l1 ++ l2).length ≤ 1125899906842624 := by simp only [List.length_append] at hs ⊢; omega
  have T := HT.out
  have HT1 := hide (T.1.below HB)
  have HT2 := hide (T.2.1.below HB)
  have HT3 := hide (T.2.2.below HB)
  clear hW p0 p1 p3 q3 r3 s3 G1 G2 G3 G4 T HT
  go_region_held3 (fun w' => w'.cell? ⟨b, 0, none⟩ = some (.pointer (some ⟨bl, 0, none⟩)) ∧ w'.cell? ⟨b, 1, none⟩ = some (.pointer (some ⟨br, 0, none⟩)))
    (first | go_keep | exact ⟨kc hbA lb' c0, kc hbA lb' c1⟩ | exact ⟨kc (hbA.trans (hbB.mono hbA.size)) lb' c0, kc (hbA.trans (hbB.mono hbA.size)) lb' c1⟩)
    ((first
      | (go_at_call_of 58 (Value.pointer (some ⟨a, 0, none⟩)); refine (pair_any a bl l1 l2 h1 k1 _ ?_ ?_ hb1 hs2).mono ?_; exact HT1.out; exact HT2.out; rintro e wA ⟨cA, rfl, tA, hbA⟩)
      | (go_at_call_of 58 (Value.pointer (some ⟨br, 0, none⟩)); refine (pair_any cA br (l1 ++ l2) l3 (max h1 k1 + 1) k2 _ ?_ ?_ hb2 hs).mono ?_; exact tA; exact (HT3.out).below hbA; rintro e wB ⟨cB, rfl, tB, hbB⟩)))
  all_goals
    go_wp2_with fail
    go_ret
    exact ⟨cB, _, rfl, tB, (HB.trans (hbA.mono HB.size)).trans (hbB.mono (Nat.le_trans HB.size hbA.size))⟩

set_option maxHeartbeats 2000000 in
theorem level_2b (a b bl br bll blr : Nat) (l1 l2 l3 l4 : List UInt8) (h1 h2 k1 k2 j1 j2 : Nat) (w : World) (ta : IsT w a l1 h1) (tb : IsT w bll l2 j1) (tc : IsT w blr l3 j2) (td : IsT w br l4 k2)
    (na : ∃ t x1 x2 x3 x4, Node w b (some ⟨bl, 0, none⟩) (some ⟨br, 0, none⟩) t h2 x1 x2 x3 x4) (nr : ∃ t x1 x2 x3 x4, Node w bl (some ⟨bll, 0, none⟩) (some ⟨blr, 0, none⟩) t k1 x1 x2 x3 x4)
    (g1 : h1 + 1 < h2) (g2 : ¬ k1 ≤ k2) (bh2 : (h2 : Int) ≤ 1125899906842625)
    (hb1 : Bd (l1 ++ l2) l1.length) (hb2 : Bd (l3 ++ l4) l3.length) (hb3 : Bd (l1 ++ l2 ++ (l3 ++ l4)) (l1 ++ l2).length) (hs : (l1 ++ l2 ++ (l3 ++ l4)).length ≤ 1125899906842624) :
    Calls Tryd.prog 57 #[.pointer (some ⟨a, 0, none⟩), .pointer (some ⟨b, 0, none⟩)] w fun e w' => ∃ c h, e = .returned (.pointer (some ⟨c, 0, none⟩)) ∧ IsT w' c (l1 ++ l2 ++ (l3 ++ l4)) h ∧ Below w.heap.size w w' := by
  obtain ⟨t, x1, x2, x3, x4, na⟩ := na
  obtain ⟨p0, p1, _, p3, _⟩ := na.facts
  obtain ⟨t', y1, y2, y3, y4, nr⟩ := nr
  obtain ⟨u0, u1, _, u3, _⟩ := nr.facts
  obtain ⟨_, _, _, nb⟩ := ta.any
  obtain ⟨_, _, _, q3, _⟩ := nb.facts
  obtain ⟨_, _, _, nl⟩ := td.any
  obtain ⟨_, _, _, r3, _⟩ := nl.facts
  have la := na.lt
  have lr := nr.lt
  have z3 := ta.size
  have hs' := hs
  simp only [List.length_append] at hs'
  have bh1 : (h1 : Int) ≤ 1125899906842624 := by omega
  have G1 : (h1 : Int) + 1 < (h2 : Int) := by omega
  have G2 : ¬ (k1 : Int) ≤ (k2 : Int) := by omega
  have G3 : decide ((k1 : Int) ≤ (k2 : Int)) = false := by simp; omega
  have G4 : decide ((h2 : Int) + 1 < (h1 : Int)) = false := by simp; omega
  have G5 : ¬ (h2 : Int) + 1 < (h1 : Int) := by omega
  clear na nb nl nr g1 g2 hs'
  have HT := hide (And.intro ta (And.intro tb (And.intro tc td)))
  clear ta tb tc td
  go_enter Tryd.func57, Tryd.ntmps57
  go_wp2_with fail
  go_quiet (fail)
  go_wp2_with fail
  generalize nq = n0
  go_quiet (fail)
  go_wp2_with fail
  generalize nq = n1
  go_quiet (fail)
  go_wp2_with fail
  generalize nq = n2
  go_quiet (fail)
  go_wp2_with fail
  generalize nq = n3
  obtain ⟨W, hW⟩ : ∃ W, (((w.drewN n0).drewN n1).drewN n2).drewN n3 = W := ⟨_, rfl⟩
  have HB : Below w.heap.size w W.drew := by rw [← hW]; exact (belowN (belowN (belowN (belowN (Below.refl _ w) n0) n1) n2) n3).drew
  have c0 : W.cell? ⟨b, 0, none⟩ = some (.pointer (some ⟨bl, 0, none⟩)) := by rw [← hW]; exact p0
  have c1 : W.cell? ⟨b, 1, none⟩ = some (.pointer (some ⟨br, 0, none⟩)) := by rw [← hW]; exact p1
  have d0 : W.cell? ⟨bl, 0, none⟩ = some (.pointer (some ⟨bll, 0, none⟩)) := by rw [← hW]; exact u0
  have d1 : W.cell? ⟨bl, 1, none⟩ = some (.pointer (some ⟨blr, 0, none⟩)) := by rw [← hW]; exact u1
  have la' : b < W.heap.size := by rw [← hW]; exact la
  have lr' : bl < W.heap.size := by rw [← hW]; exact lr
  rw [hW]
  have hs2 : (l1 ++ l2).length ≤ 1125899906842624 := by simp only [List.length_append] at hs ⊢; omega
  have hs3 : (l3 ++ l4).length ≤ 1125899906842624 := by simp only [List.length_append] at hs ⊢; omega
  have T := HT.out
  have HT1 := hide (T.1.below HB)
  have HT2 := hide (T.2.1.below HB)
  have HT3 := hide (T.2.2.1.below HB)
  have HT4 := hide (T.2.2.2.below HB)
  clear hW p0 p1 p3 q3 r3 u0 u1 u3 G1 G2 G3 G4 G5 T HT
  go_region_held3 (fun w' => w'.cell? ⟨b, 0, none⟩ = some (.pointer (some ⟨bl, 0, none⟩)) ∧ w'.cell? ⟨b, 1, none⟩ = some (.pointer (some ⟨br, 0, none⟩)) ∧ w'.cell? ⟨bl, 0, none⟩ = some (.pointer (some ⟨bll, 0, none⟩)) ∧ w'.cell? ⟨bl, 1, none⟩ = some (.pointer (some ⟨blr, 0, none⟩)))
    (first
      | go_keep
      | exact ⟨kc hbA la' c0, kc hbA la' c1, kc hbA lr' d0, kc hbA lr' d1⟩ | exact ⟨kc hbB la' c0, kc hbB la' c1, kc hbB lr' d0, kc hbB lr' d1⟩
      | exact ⟨kc (hbA.trans (hbB.mono hbA.size)) la' c0, kc (hbA.trans (hbB.mono hbA.size)) la' c1, kc (hbA.trans (hbB.mono hbA.size)) lr' d0, kc (hbA.trans (hbB.mono hbA.size)) lr' d1⟩
      | exact ⟨kc (hbB.trans (hbA.mono hbB.size)) la' c0, kc (hbB.trans (hbA.mono hbB.size)) la' c1, kc (hbB.trans (hbA.mono hbB.size)) lr' d0, kc (hbB.trans (hbA.mono hbB.size)) lr' d1⟩
      | exact ⟨kc ((hbA.trans (hbB.mono hbA.size)).trans (hbC.mono (Nat.le_trans hbA.size hbB.size))) la' c0, kc ((hbA.trans (hbB.mono hbA.size)).trans (hbC.mono (Nat.le_trans hbA.size hbB.size))) la' c1, kc ((hbA.trans (hbB.mono hbA.size)).trans (hbC.mono (Nat.le_trans hbA.size hbB.size))) lr' d0, kc ((hbA.trans (hbB.mono hbA.size)).trans (hbC.mono (Nat.le_trans hbA.size hbB.size))) lr' d1⟩
      | exact ⟨kc ((hbB.trans (hbA.mono hbB.size)).trans (hbC.mono (Nat.le_trans hbB.size hbA.size))) la' c0, kc ((hbB.trans (hbA.mono hbB.size)).trans (hbC.mono (Nat.le_trans hbB.size hbA.size))) la' c1, kc ((hbB.trans (hbA.mono hbB.size)).trans (hbC.mono (Nat.le_trans hbB.size hbA.size))) lr' d0, kc ((hbB.trans (hbA.mono hbB.size)).trans (hbC.mono (Nat.le_trans hbB.size hbA.size))) lr' d1⟩)
    ((first
      | (go_at_call_of 58 (Value.pointer (some ⟨a, 0, none⟩)); refine (pair_any a bll l1 l2 h1 j1 _ ?_ ?_ hb1 hs2).mono ?_; (first | exact HT1.out | exact (HT1.out).below hbB); (first | exact HT2.out | exact (HT2.out).below hbB); rintro e wA ⟨cA, rfl, tA, hbA⟩)
      | (go_at_call_of 58 (Value.pointer (some ⟨br, 0, none⟩)); refine (pair_any blr br l3 l4 j2 k2 _ ?_ ?_ hb2 hs3).mono ?_; (first | exact HT3.out | exact (HT3.out).below hbA); (first | exact HT4.out | exact (HT4.out).below hbA); rintro e wB ⟨cB, rfl, tB, hbB⟩)
      | (go_at_call_of 58 (Value.pointer (some ⟨cA, 0, none⟩)); refine (pair_any cA cB (l1 ++ l2) (l3 ++ l4) (max h1 j1 + 1) (max j2 k2 + 1) _ ?_ ?_ hb3 hs).mono ?_; (first | exact tA | exact tA.below hbB); (first | exact tB | exact tB.below hbA); rintro e wC ⟨cC, rfl, tC, hbC⟩)))
  all_goals
    go_wp2_with fail
    go_ret
    first
    | exact ⟨cC, _, rfl, tC, (HB.trans (hbA.mono HB.size)).trans ((hbB.mono (Nat.le_trans HB.size hbA.size)).trans (hbC.mono (Nat.le_trans HB.size (Nat.le_trans hbA.size hbB.size))))⟩
    | exact ⟨cC, _, rfl, tC, (HB.trans (hbB.mono HB.size)).trans ((hbA.mono (Nat.le_trans HB.size hbB.size)).trans (hbC.mono (Nat.le_trans HB.size (Nat.le_trans hbB.size hbA.size))))⟩

set_option maxHeartbeats 2000000 in
theorem level_3 (a b : Nat) (l1 l2 : List UInt8) (h1 h2 : Nat) (w : World) (ta : IsT w a l1 h1) (tb : IsT w b l2 h2)
    (g1 : ¬ h1 + 1 < h2) (g2 : ¬ h2 + 1 < h1) (hb1 : Bd (l1 ++ l2) l1.length) (hs : (l1 ++ l2).length ≤ 1125899906842624) :
    Calls Tryd.prog 57 #[.pointer (some ⟨a, 0, none⟩), .pointer (some ⟨b, 0, none⟩)] w fun e w' => ∃ c h, e = .returned (.pointer (some ⟨c, 0, none⟩)) ∧ IsT w' c (l1 ++ l2) h ∧ Below w.heap.size w w' := by
  obtain ⟨_, _, _, na⟩ := ta.any
  obtain ⟨_, _, _, q3, _⟩ := na.facts
  obtain ⟨_, _, _, nl⟩ := tb.any
  obtain ⟨_, _, _, r3, _⟩ := nl.facts
  have z1 := ta.size
  have z2 := tb.size
  have hs' := hs
  simp only [List.length_append] at hs'
  have bh1 : (h1 : Int) ≤ 1125899906842624 := by omega
  have bh2 : (h2 : Int) ≤ 1125899906842624 := by omega
  have G1 : ¬ (h1 : Int) + 1 < (h2 : Int) := by omega
  have G2 : ¬ (h2 : Int) + 1 < (h1 : Int) := by omega
  have G3 : decide ((h2 : Int) + 1 < (h1 : Int)) = false := by simp; omega
  have G4 : decide ((h1 : Int) + 1 < (h2 : Int)) = false := by simp; omega
  clear na nl g1 g2 hs'
  have HT := hide (And.intro ta tb)
  clear ta tb
  go_enter Tryd.func57, Tryd.ntmps57
  go_wp2_with fail
  go_quiet (fail)
  go_wp2_with fail
  generalize nq = n0
  go_quiet (fail)
  go_wp2_with fail
  generalize nq = n1
  go_quiet (fail)
  go_wp2_with fail
  generalize nq = n2
  go_quiet (fail)
  go_wp2_with fail
  generalize nq = n3
  have HB : Below w.heap.size w (w.drewN (n0 + n1 + n2 + n3)) := belowN (Below.refl _ w) _
  refine (pair_any a b l1 l2 h1 h2 _ (by exact (HT.out).1.below HB) (by exact (HT.out).2.below HB) hb1 hs).mono ?_
  rintro e w1 ⟨c, rfl, tc, hb2⟩
  go_wp2_with fail
  go_ret
  exact ⟨c, _, rfl, tc, HB.trans (hb2.mono HB.size)⟩

/-- level makes one tree of two. -/
theorem level_any (a b : Nat) (l1 l2 : List UInt8) (h1 h2 : Nat) (w : World) (ta : IsT w a l1 h1) (tb : IsT w b l2 h2) (hbd : Bd (l1 ++ l2) l1.length) (hs : (l1 ++ l2).length ≤ 1125899906842624) :
    Calls Tryd.prog 57 #[.pointer (some ⟨a, 0, none⟩), .pointer (some ⟨b, 0, none⟩)] w fun e w' => ∃ c h, e = .returned (.pointer (some ⟨c, 0, none⟩)) ∧ IsT w' c (l1 ++ l2) h ∧ Below w.heap.size w w' := by
  have z1 := ta.size
  have z2 := tb.size
  have hs' := hs
  simp only [List.length_append] at hs'
  by_cases g1 : h2 + 1 < h1
  · rcases ta.cases with ⟨t, _, _, h0, _⟩ | ⟨al, ar, m1, m2, k1, k2, n1, rfl, hb, hh, t1, t2⟩
    · omega
    by_cases g2 : k2 ≤ k1
    · have hx := bd_assoc_l hb hbd
      rw [List.append_assoc] at hs ⊢
      exact level_1a a b al ar m1 m2 l2 h1 h2 k1 k2 w t1 t2 tb hh ⟨_, _, _, _, _, n1⟩ g1 g2 hx.1 hx.2 hs
    · rcases t2.cases with ⟨t, _, _, h0, _⟩ | ⟨arl, arr, m3, m4, j1, j2, n2, rfl, hb', hh', t3, t4⟩
      · omega
      have hx := bd_assoc_l hb hbd
      have hy := bd_assoc_l hb' hx.2
      have hv := bd_assoc_r hb' hb
      have hz := bd_assoc_r hy.1 (by have := hx.1; rwa [List.append_assoc] at this)
      have := level_1b a b al ar arl arr m1 m3 m4 l2 h1 h2 k1 k2 j1 j2 w t1 t3 t4 tb ⟨_, _, _, _, _, n1⟩ ⟨_, _, _, _, _, n2⟩ g1 g2 (by omega) hv.2 hy.2 hz.1 (by simp only [List.length_append] at hs ⊢; omega)
      rw [show m1 ++ (m3 ++ m4) ++ l2 = m1 ++ m3 ++ (m4 ++ l2) from by simp]
      exact this
  by_cases g2 : h1 + 1 < h2
  · rcases tb.cases with ⟨t, _, _, h0, _⟩ | ⟨bl, br, m1, m2, k1, k2, n1, rfl, hb, hh, t1, t2⟩
    · omega
    by_cases g3 : k1 ≤ k2
    · have hx := bd_assoc_r hb hbd
      rw [← List.append_assoc] at hs ⊢
      exact level_2a a b bl br l1 m1 m2 h1 h2 k1 k2 w ta t1 t2 ⟨_, _, _, _, _, n1⟩ g2 g3 (by omega) hx.2 hx.1 hs
    · rcases t1.cases with ⟨t, _, _, h0, _⟩ | ⟨bll, blr, m3, m4, j1, j2, n2, rfl, hb', hh', t3, t4⟩
      · omega
      have hx := bd_assoc_r hb hbd
      have hy := bd_assoc_r hb' hx.2
      have hv := bd_assoc_l hb' hb
      have hz := bd_assoc_l hy.1 (by have := hx.1; rwa [← List.append_assoc] at this)
      have := level_2b a b bl br bll blr l1 m3 m4 m2 h1 h2 k1 k2 j1 j2 w ta t3 t4 t2 ⟨_, _, _, _, _, n1⟩ ⟨_, _, _, _, _, n2⟩ g2 g3 (by omega) hy.2 hv.2 hz.1 (by simp only [List.length_append] at hs ⊢; omega)
      rw [show l1 ++ (m3 ++ m4 ++ m2) = l1 ++ m3 ++ (m4 ++ m2) from by simp]
      exact this
  · exact level_3 a b l1 l2 h1 h2 w ta tb g2 g1 hbd hs
end Go.Proofs.YtopeagigdgjchaaDoor.Rp
