/- What join and build make. -/
import Derived.Test.YtopeagigdgjchaaDoorRWg
namespace Go.Proofs.YtopeagigdgjchaaDoor.Rp
open Go.RowKit
open M

/-- A tree that may be nil. -/
def OT (w : World) (v : Option Addr) (l : List UInt8) : Prop := (v = none ∧ l = []) ∨ ∃ b h, v = some ⟨b, 0, none⟩ ∧ IsT w b l h
theorem OT.below {w w' : World} {v : Option Addr} {l : List UInt8} (k : OT w v l) (hb : Below w.heap.size w w') : OT w' v l := by
  rcases k with k | ⟨b, h, e, k⟩
  · exact Or.inl k
  · exact Or.inr ⟨b, h, e, k.below hb⟩

def JoinOk (n : Nat) : Prop := ∀ (a b : Nat) (l1 l2 : List UInt8) (h1 h2 : Nat) (w : World), h1 + h2 ≤ n → IsT w a l1 h1 → IsT w b l2 h2 → Bd (l1 ++ l2) l1.length → (l1 ++ l2).length ≤ 1125899906842624 →
    Calls Tryd.prog 42 #[.pointer (some ⟨a, 0, none⟩), .pointer (some ⟨b, 0, none⟩)] w fun e w' => ∃ c h, e = .returned (.pointer (some ⟨c, 0, none⟩)) ∧ IsT w' c (l1 ++ l2) h ∧ Below w.heap.size w w'

set_option maxHeartbeats 2000000 in
theorem join_1 (n a b al ar : Nat) (ih : JoinOk n) (l1 l2 l3 : List UInt8) (h1 h2 k1 k2 : Nat) (w : World) (hn : k2 + h2 ≤ n) (ta : IsT w al l1 k1) (tb : IsT w ar l2 k2) (tc : IsT w b l3 h2)
    (na : ∃ t x1 x2 x3 x4, Node w a (some ⟨al, 0, none⟩) (some ⟨ar, 0, none⟩) t h1 x1 x2 x3 x4)
    (g1 : h2 + 1 < h1) (bh1 : (h1 : Int) ≤ 1125899906842625) (hb1 : Bd (l1 ++ (l2 ++ l3)) l1.length) (hb2 : Bd (l2 ++ l3) l2.length) (hs : (l1 ++ (l2 ++ l3)).length ≤ 1125899906842624) :
    Calls Tryd.prog 42 #[.pointer (some ⟨a, 0, none⟩), .pointer (some ⟨b, 0, none⟩)] w fun e w' => ∃ c h, e = .returned (.pointer (some ⟨c, 0, none⟩)) ∧ IsT w' c (l1 ++ (l2 ++ l3)) h ∧ Below w.heap.size w w' := by
  obtain ⟨t, x1, x2, x3, x4, na⟩ := na
  obtain ⟨p0, p1, _, p3, _⟩ := na.facts
  obtain ⟨_, _, _, nb⟩ := tc.any
  obtain ⟨_, _, _, q3, _⟩ := nb.facts
  have la := na.lt
  have z3 := tc.size
  have hs' := hs
  simp only [List.length_append] at hs'
  have bh2 : (h2 : Int) ≤ 1125899906842624 := by omega
  have G1 : (h2 : Int) + 1 < (h1 : Int) := by omega
  clear na nb g1 hs'
  have HT := hide (And.intro ta (And.intro tb tc))
  clear ta tb tc
  go_enter Tryd.func42, Tryd.ntmps42
  go_wp2_with fail
  go_quiet (fail)
  go_wp2_with fail
  obtain ⟨W, hW⟩ : ∃ W, w.drewN nq = W := ⟨_, rfl⟩
  have HB : Below w.heap.size w W.drew := by rw [← hW]; exact ((belowN (Below.refl _ w) nq).drew)
  have c0 : W.cell? ⟨a, 0, none⟩ = some (.pointer (some ⟨al, 0, none⟩)) := by rw [← hW]; exact p0
  have c1 : W.cell? ⟨a, 1, none⟩ = some (.pointer (some ⟨ar, 0, none⟩)) := by rw [← hW]; exact p1
  have la' : a < W.heap.size := by rw [← hW]; exact la
  rw [hW]
  have hs2 : (l2 ++ l3).length ≤ 1125899906842624 := by simp only [List.length_append] at hs ⊢; omega
  have T := HT.out
  have HT1 := hide (T.1.below HB)
  have HT2 := hide (T.2.1.below HB)
  have HT3 := hide (T.2.2.below HB)
  clear hW p0 p1 p3 q3 G1 T HT
  go_region_held3 (fun w' => w'.cell? ⟨a, 0, none⟩ = some (.pointer (some ⟨al, 0, none⟩)) ∧ w'.cell? ⟨a, 1, none⟩ = some (.pointer (some ⟨ar, 0, none⟩)))
    (first | go_keep | exact ⟨kc hbA la' c0, kc hbA la' c1⟩ | exact ⟨kc (hbA.trans (hbB.mono hbA.size)) la' c0, kc (hbA.trans (hbB.mono hbA.size)) la' c1⟩)
    ((first
      | (go_at_call 42; refine (ih ar b l2 l3 k2 h2 _ hn (by exact HT2.out) (by exact HT3.out) hb2 hs2).mono ?_; rintro e wA ⟨cA, hA, rfl, tA, hbA⟩)
      | (go_at_call 57; refine (level_any al cA l1 (l2 ++ l3) k1 hA wA (by exact (HT1.out).below hbA) tA hb1 hs).mono ?_; rintro e wB ⟨cB, hB, rfl, tB, hbB⟩)))
  all_goals
    go_wp2_with fail
    go_ret
    exact ⟨cB, hB, rfl, tB, (HB.trans (hbA.mono HB.size)).trans (hbB.mono (Nat.le_trans HB.size hbA.size))⟩

set_option maxHeartbeats 2000000 in
theorem join_2 (n a b bl br : Nat) (ih : JoinOk n) (l1 l2 l3 : List UInt8) (h1 h2 k1 k2 : Nat) (w : World) (hn : h1 + k1 ≤ n) (ta : IsT w a l1 h1) (tb : IsT w bl l2 k1) (tc : IsT w br l3 k2)
    (nbb : ∃ t x1 x2 x3 x4, Node w b (some ⟨bl, 0, none⟩) (some ⟨br, 0, none⟩) t h2 x1 x2 x3 x4)
    (g1 : h1 + 1 < h2) (bh2 : (h2 : Int) ≤ 1125899906842625) (hb1 : Bd (l1 ++ l2) l1.length) (hb2 : Bd (l1 ++ l2 ++ l3) (l1 ++ l2).length) (hs : (l1 ++ l2 ++ l3).length ≤ 1125899906842624) :
    Calls Tryd.prog 42 #[.pointer (some ⟨a, 0, none⟩), .pointer (some ⟨b, 0, none⟩)] w fun e w' => ∃ c h, e = .returned (.pointer (some ⟨c, 0, none⟩)) ∧ IsT w' c (l1 ++ l2 ++ l3) h ∧ Below w.heap.size w w' := by
  obtain ⟨t, x1, x2, x3, x4, nbb⟩ := nbb
  obtain ⟨p0, p1, _, p3, _⟩ := nbb.facts
  obtain ⟨_, _, _, na⟩ := ta.any
  obtain ⟨_, _, _, q3, _⟩ := na.facts
  have lb := nbb.lt
  have z1 := ta.size
  have hs' := hs
  simp only [List.length_append] at hs'
  have bh1 : (h1 : Int) ≤ 1125899906842624 := by omega
  have G1 : (h1 : Int) + 1 < (h2 : Int) := by omega
  have G4 : ¬ (h2 : Int) + 1 < (h1 : Int) := by omega
  have G3 : decide ((h2 : Int) + 1 < (h1 : Int)) = false := by simp; omega
  clear na nbb g1 hs'
  have HT := hide (And.intro ta (And.intro tb tc))
  clear ta tb tc
  go_enter Tryd.func42, Tryd.ntmps42
  go_wp2_with fail
  go_quiet (fail)
  go_wp2_with fail
  generalize nq = n0
  go_quiet (fail)
  go_wp2_with fail
  generalize nq = n1
  obtain ⟨W, hW⟩ : ∃ W, (w.drewN n0).drewN n1 = W := ⟨_, rfl⟩
  have HB : Below w.heap.size w W.drew := by rw [← hW]; exact (belowN (belowN (Below.refl _ w) n0) n1).drew
  have c0 : W.cell? ⟨b, 0, none⟩ = some (.pointer (some ⟨bl, 0, none⟩)) := by rw [← hW]; exact p0
  have c1 : W.cell? ⟨b, 1, none⟩ = some (.pointer (some ⟨br, 0, none⟩)) := by rw [← hW]; exact p1
  have lb' : b < W.heap.size := by rw [← hW]; exact lb
  rw [hW]
  have hs2 : (l1 ++ l2).length ≤ 1125899906842624 := by simp only [List.length_append] at hs ⊢; omega
  have T := HT.out
  have HT1 := hide (T.1.below HB)
  have HT2 := hide (T.2.1.below HB)
  have HT3 := hide (T.2.2.below HB)
  clear hW p0 p1 p3 q3 G1 G3 G4 T HT
  go_region_held3 (fun w' => w'.cell? ⟨b, 0, none⟩ = some (.pointer (some ⟨bl, 0, none⟩)) ∧ w'.cell? ⟨b, 1, none⟩ = some (.pointer (some ⟨br, 0, none⟩)))
    (first | go_keep | exact ⟨kc hbA lb' c0, kc hbA lb' c1⟩ | exact ⟨kc (hbA.trans (hbB.mono hbA.size)) lb' c0, kc (hbA.trans (hbB.mono hbA.size)) lb' c1⟩)
    ((first
      | (go_at_call 42; refine (ih a bl l1 l2 h1 k1 _ hn (by exact HT1.out) (by exact HT2.out) hb1 hs2).mono ?_; rintro e wA ⟨cA, hA, rfl, tA, hbA⟩)
      | (go_at_call 57; refine (level_any cA br (l1 ++ l2) l3 hA k2 wA tA (by exact (HT3.out).below hbA) hb2 hs).mono ?_; rintro e wB ⟨cB, hB, rfl, tB, hbB⟩)))
  all_goals
    go_wp2_with fail
    go_ret
    exact ⟨cB, hB, rfl, tB, (HB.trans (hbA.mono HB.size)).trans (hbB.mono (Nat.le_trans HB.size hbA.size))⟩

set_option maxHeartbeats 2000000 in
theorem join_3 (a b : Nat) (l1 l2 : List UInt8) (h1 h2 : Nat) (w : World) (ta : IsT w a l1 h1) (tb : IsT w b l2 h2)
    (g1 : ¬ h1 + 1 < h2) (g2 : ¬ h2 + 1 < h1) (hb1 : Bd (l1 ++ l2) l1.length) (hs : (l1 ++ l2).length ≤ 1125899906842624) :
    Calls Tryd.prog 42 #[.pointer (some ⟨a, 0, none⟩), .pointer (some ⟨b, 0, none⟩)] w fun e w' => ∃ c h, e = .returned (.pointer (some ⟨c, 0, none⟩)) ∧ IsT w' c (l1 ++ l2) h ∧ Below w.heap.size w w' := by
  obtain ⟨_, _, _, na⟩ := ta.any
  obtain ⟨_, _, _, q3, _⟩ := na.facts
  obtain ⟨_, _, _, nl⟩ := tb.any
  obtain ⟨_, _, _, r3, _⟩ := nl.facts
  have z1 := ta.size
  have z2 := tb.size
  have hs' := hs
  simp only [List.length_append] at hs'
  have bh1 : (h1 : Int) ≤ 1125899906842624 := by omega
  have bh2 : (h2 : Int) ≤ 1125899906842624 := by omega
  have G1 : ¬ (h1 : Int) + 1 < (h2 : Int) := by omega
  have G2 : ¬ (h2 : Int) + 1 < (h1 : Int) := by omega
  clear na nl g1 g2 hs'
  have HT := hide (And.intro ta tb)
  clear ta tb
  go_enter Tryd.func42, Tryd.ntmps42
  go_wp2_with fail
  go_quiet (fail)
  go_wp2_with fail
  generalize nq = n0
  go_quiet (fail)
  go_wp2_with fail
  generalize nq = n1
  have HB : Below w.heap.size w (w.drewN (n0 + n1)) := belowN (Below.refl _ w) _
  refine (pair_any a b l1 l2 h1 h2 _ (by exact (HT.out).1.below HB) (by exact (HT.out).2.below HB) hb1 hs).mono ?_
  rintro e w1 ⟨c, rfl, tc, hb2⟩
  go_wp2_with fail
  go_ret
  exact ⟨c, _, rfl, tc, HB.trans (hb2.mono HB.size)⟩

theorem join_ok (n : Nat) : JoinOk n := by
  induction n with
  | zero =>
    intro a b l1 l2 h1 h2 w hn ta tb hbd hs
    exact join_3 a b l1 l2 h1 h2 w ta tb (by omega) (by omega) hbd hs
  | succ n ih =>
    intro a b l1 l2 h1 h2 w hn ta tb hbd hs
    have z1 := ta.size
    have z2 := tb.size
    have hs' := hs
    simp only [List.length_append] at hs'
    by_cases g1 : h2 + 1 < h1
    · rcases ta.cases with ⟨t, _, _, h0, _⟩ | ⟨al, ar, m1, m2, k1, k2, n1, rfl, hb, hh, t1, t2⟩
      · omega
      have hx := bd_assoc_l hb hbd
      rw [List.append_assoc] at hs ⊢
      exact join_1 n a b al ar ih m1 m2 l2 h1 h2 k1 k2 w (by omega) t1 t2 tb ⟨_, _, _, _, _, n1⟩ g1 (by omega) hx.1 hx.2 hs
    by_cases g2 : h1 + 1 < h2
    · rcases tb.cases with ⟨t, _, _, h0, _⟩ | ⟨bl, br, m1, m2, k1, k2, n1, rfl, hb, hh, t1, t2⟩
      · omega
      have hx := bd_assoc_r hb hbd
      rw [← List.append_assoc] at hs ⊢
      exact join_2 n a b bl br ih l1 m1 m2 h1 h2 k1 k2 w (by omega) ta t1 t2 ⟨_, _, _, _, _, n1⟩ g2 (by omega) hx.2 hx.1 hs
    · exact join_3 a b l1 l2 h1 h2 w ta tb g2 g1 hbd hs

set_option maxHeartbeats 400000 in
theorem join_nil_l (v : Option Addr) (w : World) : Calls Tryd.prog 42 #[.pointer none, .pointer v] w fun e w' => e = .returned (.pointer v) ∧ w' = w := by
  go_enter Tryd.func42, Tryd.ntmps42
  go_wp2_with fail
  go_ret
  exact ⟨rfl, rfl⟩
set_option maxHeartbeats 400000 in
theorem join_nil_r (b : Nat) (w : World) : Calls Tryd.prog 42 #[.pointer (some ⟨b, 0, none⟩), .pointer none] w fun e w' => e = .returned (.pointer (some ⟨b, 0, none⟩)) ∧ w' = w := by
  go_enter Tryd.func42, Tryd.ntmps42
  go_wp2_with fail
  go_ret
  exact ⟨rfl, rfl⟩

/-- join makes one tree of two, either of which may be nil. -/
theorem join_any (va vb : Option Addr) (l1 l2 : List UInt8) (w : World) (ta : OT w va l1) (tb : OT w vb l2) (hbd : Bd (l1 ++ l2) l1.length) (hs : (l1 ++ l2).length ≤ 1125899906842624) :
    Calls Tryd.prog 42 #[.pointer va, .pointer vb] w fun e w' => ∃ v, e = .returned (.pointer v) ∧ OT w' v (l1 ++ l2) ∧ Below w.heap.size w w' := by
  rcases ta with ⟨rfl, rfl⟩ | ⟨a, h1, rfl, ta⟩
  · refine (join_nil_l vb w).mono ?_
    rintro e w' ⟨rfl, rfl⟩
    exact ⟨vb, rfl, tb, Below.refl _ _⟩
  · rcases tb with ⟨rfl, rfl⟩ | ⟨b, h2, rfl, tb⟩
    · refine (join_nil_r a w).mono ?_
      rintro e w' ⟨rfl, rfl⟩
      exact ⟨_, rfl, Or.inr ⟨a, h1, rfl, by rw [List.append_nil]; exact ta⟩, Below.refl _ _⟩
    · refine (join_ok _ a b l1 l2 h1 h2 w (Nat.le_refl _) ta tb hbd hs).mono ?_
      rintro e w' ⟨c, h, rfl, tc, hb⟩
      exact ⟨_, rfl, Or.inr ⟨c, h, rfl, tc⟩, hb⟩
end Go.Proofs.YtopeagigdgjchaaDoor.Rp
