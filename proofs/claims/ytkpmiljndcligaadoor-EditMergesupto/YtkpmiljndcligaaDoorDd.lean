/- What two edits mean, as the document has it. -/
import Derived.Test.YtkpmiljndcligaaDoorHa
namespace Go.Proofs.YtkpmiljndcligaaDoor
open Go.RowKit
open EM
theorem ME.setB {B : Nat} {W : World} {be g1 g2 n : Nat} {I : Nat → By} {O : Nat → Bool} (h : ME B W be g1 g2 n I O) (f : Nat) (hf : f < n) (b : Bool) : ME B (W.setCell ⟨g1, f, none⟩ (.bool b)) be g1 g2 n I (fun g => if g = f then b else O g) := by
  have hs := fun b' g => set_cell W g1 f (.bool b) _ (h.o f hf).1 b' g
  refine ⟨by rw [set_size]; exact h.l0, by rw [set_size]; exact h.l1, by rw [set_size]; exact h.l2, h.ge, h.n1, h.n2, h.n3, ?_, ?_, ?_, ?_, ?_⟩
  · rw [hs, if_neg (fun e => h.n1 e.1)]; exact h.c0
  · rw [hs, if_neg (fun e => h.n1 e.1)]; exact h.c1
  · rw [hs, if_neg (fun e => h.n1 e.1)]; exact h.c2
  · intro g hg
    rw [hs, set_frozen]
    by_cases e : g = f
    · subst e; simp; exact (h.o g hg).2
    · rw [if_neg (fun h => e h.2)]; simp only [e, if_false]; exact h.o g hg
  · intro g hg
    rw [hs, if_neg (fun e => h.n3 e.1.symm), set_frozen]; exact h.i g hg
/-- An edit that lies in a block, and its arrays. -/
structure EB (W : World) (b n : Nat) (I : Nat → By) (O : Nat → Bool) (ao : Option Addr) (c1 g2 c2 : Nat) : Prop where
  x0 : W.cell? ⟨b, 0, none⟩ = some (.int .i64 n)
  x1 : W.cell? ⟨b, 1, none⟩ = some (.slice ao n c1)
  x2 : W.cell? ⟨b, 2, none⟩ = some (.slice (some ⟨g2, 0, none⟩) (n + 1) c2)
  o : ∀ g, g < n → ∃ g1, ao = some ⟨g1, 0, none⟩ ∧ W.cell? ⟨g1, g, none⟩ = some (.bool (O g))
  i : ∀ g, g ≤ n → W.cell? ⟨g2, g, none⟩ = some (.string (ba (I g)))
theorem EB.below {W W' : World} {b n : Nat} {I : Nat → By} {O : Nat → Bool} {ao : Option Addr} {c1 g2 c2 : Nat} (h : EB W b n I O ao c1 g2 c2) (hb : Below W.heap.size W W') : EB W' b n I O ao c1 g2 c2 := by
  have K := Kp.ofBelow hb (fun _ => False)
  refine ⟨K.cellv h.x0 id, K.cellv h.x1 id, K.cellv h.x2 id, fun g hg => ?_, fun g hg => K.cellv (h.i g hg) id⟩
  obtain ⟨g1, e, hc⟩ := h.o g hg
  exact ⟨g1, e, K.cellv hc id⟩
set_option maxRecDepth 100000 in
set_option maxHeartbeats 4000000 in
theorem both_any (v v' : Value) (n : Nat) (I J : Nat → By) (O P : Nat → Bool) (w : World) (h : IsE w v n I O) (h' : IsE w v' n J P) (hn : n ≤ 1048576) (hl : ∀ g, (I g).length + (J g).length ≤ 1099511627776) :
    Calls Tryd.prog 20 #[v, v'] w fun e w' => ∃ u, e = .returned u ∧ IsE w' u n (fun g => I g ++ J g) (fun g => O g || P g) ∧ Below w.heap.size w w' := by
  obtain ⟨A1, s1, g1, m1⟩ := mk_bools n (by omega)
  obtain ⟨A2, s2, g2, m2⟩ := mk_strs n (by omega)
  obtain ⟨ao, c1, h2, c2, rfl, l1, l2, q1, q2⟩ := h
  obtain ⟨ao', d1, k2, d2, rfl, l3, l4, r1, r2⟩ := h'
  have HG := hide (And.intro (And.intro s1 g1) (And.intro s2 g2))
  clear s1 s2 g1 g2
  have B0 : Below w.heap.size w ((w.alloc (.cells #[.int .i64 n, .slice ao n c1, .slice (some ⟨h2, 0, none⟩) (n + 1) c2] 39)).alloc (.cells #[.int .i64 n, .slice ao' n d1, .slice (some ⟨k2, 0, none⟩) (n + 1) d2] 39)) := ((Below.refl _ w).alloc (Nat.le_refl _) _).alloc (by simp) _
  have hzW : ((w.alloc (.cells #[.int .i64 n, .slice ao n c1, .slice (some ⟨h2, 0, none⟩) (n + 1) c2] 39)).alloc (.cells #[.int .i64 n, .slice ao' n d1, .slice (some ⟨k2, 0, none⟩) (n + 1) d2] 39)).heap.size = w.heap.size + 1 + 1 := by simp
  have K0 := Kp.ofBelow B0 (fun _ => False)
  have e1 : ((w.alloc (.cells #[.int .i64 n, .slice ao n c1, .slice (some ⟨h2, 0, none⟩) (n + 1) c2] 39)).alloc (.cells #[.int .i64 n, .slice ao' n d1, .slice (some ⟨k2, 0, none⟩) (n + 1) d2] 39)).heap[w.heap.size]? = some (.cells #[.int .i64 n, .slice ao n c1, .slice (some ⟨h2, 0, none⟩) (n + 1) c2] 39) :=
    (Below.heap_alloc _ _ w.heap.size (by simp)).trans (heap_alloc_new w _)
  have e2 : ((w.alloc (.cells #[.int .i64 n, .slice ao n c1, .slice (some ⟨h2, 0, none⟩) (n + 1) c2] 39)).alloc (.cells #[.int .i64 n, .slice ao' n d1, .slice (some ⟨k2, 0, none⟩) (n + 1) d2] 39)).heap[w.heap.size + 1]? = some (.cells #[.int .i64 n, .slice ao' n d1, .slice (some ⟨k2, 0, none⟩) (n + 1) d2] 39) := by
    have := heap_alloc_new (w.alloc (.cells #[.int .i64 n, .slice ao n c1, .slice (some ⟨h2, 0, none⟩) (n + 1) c2] 39)) (.cells #[.int .i64 n, .slice ao' n d1, .slice (some ⟨k2, 0, none⟩) (n + 1) d2] 39)
    rw [World.size_alloc] at this
    exact this
  have E1 := hide (show EB _ w.heap.size n I O ao c1 h2 c2 from ⟨by rw [Lib.cell_of_heap e1]; rfl, by rw [Lib.cell_of_heap e1]; rfl, by rw [Lib.cell_of_heap e1]; rfl, fun g hg => by obtain ⟨y, e, hc⟩ := q1 g hg; exact ⟨y, e, K0.cellv hc id⟩, fun g hg => K0.cellv (q2 g hg) id⟩)
  have E2 := hide (show EB _ (w.heap.size + 1) n J P ao' d1 k2 d2 from ⟨by rw [Lib.cell_of_heap e2]; rfl, by rw [Lib.cell_of_heap e2]; rfl, by rw [Lib.cell_of_heap e2]; rfl, fun g hg => by obtain ⟨y, e, hc⟩ := r1 g hg; exact ⟨y, e, K0.cellv hc id⟩, fun g hg => K0.cellv (r2 g hg) id⟩)
  have HB0 := hide B0
  clear q1 q2 r1 r2 K0 e1 e2 B0
  go_enter Tryd.func20, Tryd.ntmps20
  go_upto_region 1 with fail
  generalize (w.alloc (.cells #[.int .i64 n, .slice ao n c1, .slice (some ⟨h2, 0, none⟩) (n + 1) c2] 39)).alloc (.cells #[.int .i64 n, .slice ao' n d1, .slice (some ⟨k2, 0, none⟩) (n + 1) d2] 39) = W at E1 E2 HB0 hzW ⊢
  rw [← hzW]
  have HZ := hide hzW
  have wl1 : w.heap.size < W.heap.size := by omega
  have wl2 : w.heap.size + 1 < W.heap.size := by omega
  clear hzW
  have x0 := (E1.out).x0
  have wl3 : w.heap.size < W.heap.size + 1 := by omega
  have wl4 : w.heap.size < W.heap.size + 1 + 1 := by omega
  have wl5 : w.heap.size < W.heap.size + 1 + 1 + 1 := by omega
  have hn2 : (n : Int) + 1 ≤ 1048577 := by omega
  go_cut [5] (fun s5 wx => ∃ be g1 g2 : Nat, s5 = .pointer (some ⟨be, 0, none⟩) ∧ Hid (ME (W.heap.size + 1) wx be g1 g2 n (fun _ => []) (fun _ => false)) ∧ Hid (R3 wx W.heap.size) ∧ Below W.heap.size W wx)
  case first =>
    go_region
    all_goals go_wp2_with fail
    all_goals go_meet
    all_goals
      case rel =>
        first
          | exact ⟨_, _, _, rfl, ME.made (HG.out).1 (HG.out).2 (made4 W _ _ _ _).2.1 (made4 W _ _ _ _).2.2.1 (made4 W _ _ _ _).2.2.2 ⟨by omega, by omega, by omega⟩ (by omega) (by omega) (by omega), (made4 W _ _ _ _).1, Below4 W _ _ _ _⟩
          | exact ⟨_, _, _, rfl, ME.made (HG.out).1 (HG.out).2 (made4 W _ _ _ _).2.1 (made4 W _ _ _ _).2.2.2 (made4 W _ _ _ _).2.2.1 ⟨by omega, by omega, by omega⟩ (by omega) (by omega) (by omega), (made4 W _ _ _ _).1, Below4 W _ _ _ _⟩
          | exact ⟨_, _, _, rfl, ME.made (HG.out).1 (HG.out).2 (made4 W _ _ _ _).2.2.1 (made4 W _ _ _ _).2.1 (made4 W _ _ _ _).2.2.2 ⟨by omega, by omega, by omega⟩ (by omega) (by omega) (by omega), (made4 W _ _ _ _).1, Below4 W _ _ _ _⟩
          | exact ⟨_, _, _, rfl, ME.made (HG.out).1 (HG.out).2 (made4 W _ _ _ _).2.2.1 (made4 W _ _ _ _).2.2.2 (made4 W _ _ _ _).2.1 ⟨by omega, by omega, by omega⟩ (by omega) (by omega) (by omega), (made4 W _ _ _ _).1, Below4 W _ _ _ _⟩
          | exact ⟨_, _, _, rfl, ME.made (HG.out).1 (HG.out).2 (made4 W _ _ _ _).2.2.2 (made4 W _ _ _ _).2.1 (made4 W _ _ _ _).2.2.1 ⟨by omega, by omega, by omega⟩ (by omega) (by omega) (by omega), (made4 W _ _ _ _).1, Below4 W _ _ _ _⟩
          | exact ⟨_, _, _, rfl, ME.made (HG.out).1 (HG.out).2 (made4 W _ _ _ _).2.2.2 (made4 W _ _ _ _).2.2.1 (made4 W _ _ _ _).2.1 ⟨by omega, by omega, by omega⟩ (by omega) (by omega) (by omega), (made4 W _ _ _ _).1, Below4 W _ _ _ _⟩
  case rest =>
    obtain ⟨be, g1, g2, rfl, HM, HR3, hb0⟩ := hcut
    clear m1 m2 HG x0
    go_wp2_with fail
    go_loopw [6] (fun i wr => ∃ k : Nat, k ≤ n + 1 ∧ i = .int .i64 k ∧ Hid (ME (W.heap.size + 1) wr be g1 g2 n (fun g => if g < k then I g ++ J g else []) (fun g => if g < k then O g || P g else false)) ∧ Hid (R3 wr W.heap.size) ∧ Below W.heap.size W wr) (fun i _ => n + 1 - (intOf i).toNat)
    case atStart => exact ⟨0, Nat.zero_le _, rfl, (HM.out).congr (fun g _ => by simp) (fun g _ => by simp), HR3, hb0⟩
    case round =>
      clear HM HR3 hb0
      obtain ⟨k, hk, rfl, HM, HR3, hB⟩ := hrel
      have F1 := (E1.out).below hB
      have F2 := (E2.out).below hB
      by_cases hkn : k ≤ n
      · obtain ⟨l0, l1', l2', ge, n1, n2, n3, c0, c1', c2', ho, hi⟩ := HM.out
        have i1 := (hi k hkn).1
        have i2 := (hi k hkn).2
        simp only [Nat.lt_irrefl, if_false] at i1
        have x0 := F1.x0
        have x2 := F1.x2
        have y2 := F2.x2
        have j1 := F1.i k hkn
        have j2 := F2.i k hkn
        have hll := hl k
        have z1 : (ba (I k)).size + (ba (J k)).size ≤ 1099511627776 := by rw [ba_size, ba_size]; exact hll
        have t1 : (k : Int) < (n : Int) + 1 := by omega
        have t2 : (k : Int) ≤ (n : Int) := by omega
        have t3 : (0 : Int) ≤ (k : Int) := by omega
        have HF1 := hide F1
        have HF2 := hide F2
        clear ho hi F1 F2
        go_wp2_with fail
        go_region
        all_goals go_upto_region 6 with fail
        have M1 : ME (W.heap.size + 1) (wr.setCell ⟨g2, k, none⟩ (.string (ba (I k) ++ ba (J k)))).drew be g1 g2 n (fun g => if g < k + 1 then I g ++ J g else []) (fun g => if g < k then O g || P g else false) := by
          rw [ba_append]
          refine ((HM.out).setI k hkn _).drew.congr (fun g _ => ?_) (fun g _ => rfl)
          by_cases e : g = k
          · subst e; simp
          · rw [if_neg e]
            by_cases e2 : g < k
            · rw [if_pos e2, if_pos (by omega)]
            · rw [if_neg e2, if_neg (by omega)]
        have B1 : Below W.heap.size W (wr.setCell ⟨g2, k, none⟩ (.string (ba (I k) ++ ba (J k)))).drew := (hB.setCell (p := ⟨g2, k, none⟩) (by have := (HM.out).ge.2.2; show _ ≤ g2; omega) _).drew
        have R1 : R3 (wr.setCell ⟨g2, k, none⟩ (.string (ba (I k) ++ ba (J k)))).drew W.heap.size := (Below.heap_setCell wr ⟨g2, k, none⟩ _ W.heap.size (by have := (HM.out).ge.2.2; show _ ≠ g2; omega)).trans HR3.out
        generalize (wr.setCell ⟨g2, k, none⟩ (.string (ba (I k) ++ ba (J k)))).drew = W1 at M1 B1 R1 ⊢
        have HM1 := hide M1
        have HR1 := hide R1
        have F1 := (E1.out).below B1
        have F2 := (E2.out).below B1
        clear c0 c1' c2' i1 i2 x0 x2 y2 j1 j2
        obtain ⟨_, _, _, ge, _, _, _, c0, c1', c2', ho, _⟩ := M1
        clear R1
        have x0 := F1.x0
        have x1 := F1.x1
        have y1 := F2.x1
        by_cases hlt : k < n
        · obtain ⟨a1, rfl, q1⟩ := F1.o k hlt
          obtain ⟨b1, rfl, q2⟩ := F2.o k hlt
          have o1 := (ho k hlt).1
          have o2 := (ho k hlt).2
          have t4 : (k : Int) < (n : Int) := by omega
          simp only [Nat.lt_irrefl, if_false] at o1
          clear ho F1 F2
          have fin : ∀ b : Bool, (O k || P k) = b → ME (W.heap.size + 1) (W1.setCell ⟨g1, k, none⟩ (.bool b)).drew be g1 g2 n (fun g => if g < k + 1 then I g ++ J g else []) (fun g => if g < k + 1 then O g || P g else false) := by
            intro b hb
            refine ((HM1.out).setB k hlt b).drew.congr (fun g _ => rfl) (fun g _ => ?_)
            by_cases e : g = k
            · subst e; simp [hb]
            · rw [if_neg e]
              by_cases e2 : g < k
              · rw [if_pos e2, if_pos (by omega)]
              · rw [if_neg e2, if_neg (by omega)]
          have HFIN := hide fin
          clear fin
          have Bn : ∀ b : Bool, Below W.heap.size W (W1.setCell ⟨g1, k, none⟩ (.bool b)).drew := fun b => (B1.setCell (p := ⟨g1, k, none⟩) (by show _ ≤ g1; omega) _).drew
          have Rn : ∀ b : Bool, R3 (W1.setCell ⟨g1, k, none⟩ (.bool b)).drew W.heap.size := fun b => (Below.heap_setCell W1 ⟨g1, k, none⟩ _ W.heap.size (by show _ ≠ g1; omega)).trans HR1.out
          have HBn := hide (And.intro Bn Rn)
          clear Bn Rn
          cases hO : O k with
          | true =>
            rw [hO] at q1
            go_wp2_with fail
            go_region
            all_goals go_wp2_with fail
            exact ⟨⟨k + 1, by omega, by go_num, HFIN.out true (by rw [hO]; rfl), (HBn.out).2 true, (HBn.out).1 true⟩, by simp [intOf]; omega⟩
          | false =>
            rw [hO] at q1
            cases hP : P k with
            | true =>
              rw [hP] at q2
              go_wp2_with fail
              go_region
              all_goals go_wp2_with fail
              exact ⟨⟨k + 1, by omega, by go_num, HFIN.out true (by rw [hO, hP]; rfl), (HBn.out).2 true, (HBn.out).1 true⟩, by simp [intOf]; omega⟩
            | false =>
              rw [hP] at q2
              go_wp2_with fail
              go_region
              all_goals go_wp2_with fail
              exact ⟨⟨k + 1, by omega, by go_num, HFIN.out false (by rw [hO, hP]; rfl), (HBn.out).2 false, (HBn.out).1 false⟩, by simp [intOf]; omega⟩
        · have t4 : ¬ (k : Int) < (n : Int) := by omega
          clear ho F1 F2
          go_wp2_with fail
          refine ⟨⟨k + 1, by omega, by go_num, (HM1.out).congr (fun g _ => rfl) (fun g hg => ?_), HR1, B1⟩, by simp [intOf]; omega⟩
          by_cases e2 : g < k
          · rw [if_pos e2, if_pos (by omega)]
          · omega
      · have HM3 := hide (show ME (W.heap.size + 1) wr be g1 g2 n (fun g => I g ++ J g) (fun g => O g || P g) from (HM.out).congr (fun g hg => by rw [if_pos (by omega)]) (fun g hg => by rw [if_pos (by omega)]))
        obtain ⟨l0, l1', l2', ge, n1, n2, n3, c0, c1', c2', ho, hi⟩ := HM.out
        obtain ⟨r0, r1, r2, f0, f1, f2⟩ := (HR3.out).facts
        have x0 := F1.x0
        have nb : ¬ be = W.heap.size := by omega
        have nb' : ¬ W.heap.size = be := by omega
        have z : ¬ (k : Int) ≤ (n : Int) := by omega
        clear ho hi F1 F2
        go_wp2_with fail
        have hX := set3_at HR3.out (.int .i64 n) (.slice (some ⟨g1, 0, none⟩) n n) (.slice (some ⟨g2, 0, none⟩) (n + 1) (n + 1))
        have hK := set3_kp (Kp.refl (fun k => k = W.heap.size) wr) W.heap.size (.int .i64 n) (.slice (some ⟨g1, 0, none⟩) n n) (.slice (some ⟨g2, 0, none⟩) (n + 1) (n + 1)) (fun _ => rfl)
        have hY := set3_below hB W.heap.size (Nat.le_refl _) (.int .i64 n) (.slice (some ⟨g1, 0, none⟩) n n) (.slice (some ⟨g2, 0, none⟩) (n + 1) (n + 1))
        have hE := ((HM3.out).kp hK (by omega) (by omega) (by omega)).isE
        change bodyPost _ _ _ _ _ (set3 wr W.heap.size (.int .i64 n) (.slice (some ⟨g1, 0, none⟩) n n) (.slice (some ⟨g2, 0, none⟩) (n + 1) (n + 1)))
        clear r0 r1 r2 f0 f1 f2 c0 c1' c2' HR3 HM HM3 x0
        generalize set3 wr W.heap.size (.int .i64 n) (.slice (some ⟨g1, 0, none⟩) n n) (.slice (some ⟨g2, 0, none⟩) (n + 1) (n + 1)) = X at hX hK hY hE ⊢
        have x0 : X.cell? ⟨W.heap.size, 0, none⟩ = some (.int .i64 n) := by rw [Lib.cell_of_heap hX]; rfl
        have x1 : X.cell? ⟨W.heap.size, 1, none⟩ = some (.slice (some ⟨g1, 0, none⟩) n n) := by rw [Lib.cell_of_heap hX]; rfl
        have x2 : X.cell? ⟨W.heap.size, 2, none⟩ = some (.slice (some ⟨g2, 0, none⟩) (n + 1) (n + 1)) := by rw [Lib.cell_of_heap hX]; rfl
        exact bodyPost_ret (v := .agg #[.int .i64 n, .slice (some ⟨g1, 0, none⟩) n n, .slice (some ⟨g2, 0, none⟩) (n + 1) (n + 1)]) (by simp [results, Tryd.results20, go_sem, x0, x1, x2]) rfl ⟨_, rfl, hE, (HB0.out).trans (hY.mono (by omega))⟩
end Go.Proofs.YtkpmiljndcligaaDoor
