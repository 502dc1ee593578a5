/- The document's plain spans; spans that are the same. -/
import Derived.Test.YtobdfddpiobhhaaDoorHa
namespace Go.Proofs.YtobdfddpiobhhaaDoor
open Go.RowKit
open EM
set_option maxHeartbeats 2000000 in
theorem sameSpans_any (v v' : Value) (L : List Rw) (w : World) (h : IsL w v L) (h' : IsL w v' L) :
    Calls Tryd.prog 16 #[v, v'] w fun e w' => e = .returned (.bool true) ∧ Below w.heap.size w w' := by
  have H := hide h
  have H' := hide h'
  obtain ⟨ao, cap, rfl, hc, hl', hcm, hx⟩ := h
  obtain ⟨ao', cap', rfl, hc2, _, hcm2, hx2⟩ := h'
  clear hx hx2
  go_enter Tryd.func16, Tryd.ntmps16
  go_wp2_with fail
  go_loopw [5] (fun i wr => ∃ k : Nat, k ≤ L.length ∧ i = .int .i64 k ∧ Below w.heap.size w wr) (fun i _ => L.length - (intOf i).toNat)
  case atStart => exact ⟨0, Nat.zero_le _, rfl, Below.refl _ _⟩
  case round =>
    obtain ⟨k, hk, rfl, hB⟩ := hrel
    by_cases hlt : k < L.length
    · obtain ⟨b, o, r, rfl, hr, q1, q2, q3, hbl⟩ := (H.out).get hB hlt
      obtain ⟨b', o', r', rfl, hr', p1, p2, p3, hbl'⟩ := (H'.out).get hB hlt
      rw [hr] at hr'
      cases hr'
      clear hr
      have hi2 : (k : Int) < (L.length : Int) := by omega
      go_wp2_with fail
      go_quiet (fail)
      go_wp2_with fail
      refine ⟨⟨k + 1, by omega, by go_num, belowN hB _⟩, by simp [intOf]; omega⟩
    · go_wp2_with fail
      go_ret
      exact ⟨rfl, hB⟩
def cel (n : Nat) (I : Nat → By) (O : Nat → Bool) (k : Nat) : List Ce := ((List.range (n + 1)).map fun g => (I g, decide (g < n) && O g)).drop k
theorem cel_at {n : Nat} (I : Nat → By) (O : Nat → Bool) {k : Nat} (h : k ≤ n) : cel n I O k = (I k, decide (k < n) && O k) :: cel n I O (k + 1) := by
  unfold cel
  rw [List.drop_eq_getElem_cons (by simp; omega)]
  simp
theorem cel_end (n : Nat) (I : Nat → By) (O : Nat → Bool) : cel n I O (n + 1) = [] := List.drop_eq_nil_of_le (by simp)
theorem sc_skip {n : Nat} {I : Nat → By} {O : Nat → Bool} {k : Nat} (h : k ≤ n) (h1 : I k = []) (h2 : (decide (k < n) && O k) = false) : sc (cel n I O k) k none = sc (cel n I O (k + 1)) (k + 1) none := by
  rw [cel_at I O h, h1, h2]; simp [sc]
theorem sc_put {n : Nat} {I : Nat → By} {O : Nat → Bool} {k : Nat} (h : k ≤ n) (h1 : I k ≠ []) (h2 : (decide (k < n) && O k) = false) : sc (cel n I O k) k none = ⟨k, k, I k⟩ :: sc (cel n I O (k + 1)) (k + 1) none := by
  rw [cel_at I O h, h2]; simp [sc, h1]
theorem sc_open {n : Nat} {I : Nat → By} {O : Nat → Bool} {k : Nat} (h : k < n) (h2 : O k = true) : sc (cel n I O k) k none = sc (cel n I O (k + 1)) (k + 1) (some (k, I k)) := by
  rw [cel_at I O (Nat.le_of_lt h), h2]; simp [sc, h]
theorem sc_on {n : Nat} {I : Nat → By} {O : Nat → Bool} {m f : Nat} {s : By} (h : m < n) (h1 : I m = []) (h2 : O m = true) : sc (cel n I O m) m (some (f, s)) = sc (cel n I O (m + 1)) (m + 1) (some (f, s)) := by
  rw [cel_at I O (Nat.le_of_lt h), h1, h2]; simp [sc, h]
theorem sc_close {n : Nat} {I : Nat → By} {O : Nat → Bool} {m f : Nat} {s : By} (h : m ≤ n) (h1 : ((decide (m < n) && O m) && decide (I m = [])) = false) : sc (cel n I O m) m (some (f, s)) = ⟨f, m, s⟩ :: sc (cel n I O m) m none := by
  rw [cel_at I O h]; simp only [sc]; rw [if_neg (by rw [h1]; simp)]
theorem owns_base' {w : World} {base base' : Nat} {e : TypeId} {size : Nat} {v : Value} {n : Nat} {xs : List Value} (h : w.ownsRow base e size v n xs) (hb : base' ≤ base) : w.ownsRow base' e size v n xs := by
  refine ⟨h.1, ?_⟩
  rcases h.2 with h | ⟨g, cap, cur, e1, e2, r⟩
  · exact .inl h
  · exact .inr ⟨g, cap, cur, e1, Nat.le_trans hb e2, r⟩
theorem loop_ne (l : By) (i : Nat) (r : By) : ByteArray.toList.loop (ba l) i r = r.reverse ++ l.drop i := by
  unfold ByteArray.toList.loop
  split
  · rename_i h
    rw [ba_size] at h
    rw [loop_ne l (i + 1)]
    rw [List.drop_eq_getElem_cons h]
    simp [ba, ByteArray.get!, getElem!_pos, h]
  · rename_i h
    rw [ba_size] at h
    rw [List.drop_eq_nil_of_le (by omega), List.append_nil]
termination_by l.length - i
decreasing_by
  rename_i h
  rw [ba_size] at h
  omega
theorem ba_toList (l : By) : (ba l).toList = l := by
  unfold ByteArray.toList; rw [loop_ne]; simp
theorem full_ne {l : By} (h : l ≠ []) : ¬ (ba l).toList = [] := by rw [ba_toList]; exact h
theorem full_neb {l : By} (h : l ≠ []) : (ba l).toList.isEmpty = false := by rw [ba_toList]; simpa using h
theorem void_eq {l : By} (h : l = []) : (ba l).toList = [] := by rw [ba_toList]; exact h
theorem void_eqb {l : By} (h : l = []) : (ba l).toList.isEmpty = true := by rw [ba_toList, h]; rfl
set_option maxRecDepth 100000 in
set_option maxHeartbeats 4000000 in
theorem refPlain_any (v : Value) (n : Nat) (I : Nat → By) (O : Nat → Bool) (w : World) (h : IsE w v n I O) (hn : n ≤ 1048576) :
    Calls Tryd.prog 15 #[v] w fun e w' => ∃ v', e = .returned v' ∧ w'.ownsRow w.heap.size 54 3 v' (plainG n I O).length (((plainG n I O).map raw).flatMap Rw.vals) ∧ Below w.heap.size w w' := by
  obtain ⟨i0, hi0, hz0, hz1, hz2⟩ := info_parts info54
  obtain ⟨ao, c1, g2, c2, rfl, l1, l2, h1, h2⟩ := h
  have hg2 := World.block_lt_of_cell? w _ (h2 0 (by omega))
  have ka : Kp (fun _ => False) w (w.alloc (.cells #[.int .i64 n, .slice ao n c1, .slice (some ⟨g2, 0, none⟩) (n + 1) c2] 39)) := (Kp.refl _ _).alloc _
  have H1 := hide (show ∀ g, g < n → ∃ g1, ao = some ⟨g1, 0, none⟩ ∧ (w.alloc (.cells #[.int .i64 n, .slice ao n c1, .slice (some ⟨g2, 0, none⟩) (n + 1) c2] 39)).cell? ⟨g1, g, none⟩ = some (.bool (O g)) from fun g hg => by obtain ⟨g1, e, hc⟩ := h1 g hg; exact ⟨g1, e, ka.cellv hc id⟩)
  have H2 := hide (show ∀ g, g ≤ n → (w.alloc (.cells #[.int .i64 n, .slice ao n c1, .slice (some ⟨g2, 0, none⟩) (n + 1) c2] 39)).cell? ⟨g2, g, none⟩ = some (.string (ba (I g))) from fun g hg => ka.cellv (h2 g hg) id)
  have HE := hide (heap_alloc_new w (.cells #[.int .i64 n, .slice ao n c1, .slice (some ⟨g2, 0, none⟩) (n + 1) c2] 39))
  have HB0 := hide (show Below w.heap.size w (w.alloc (.cells #[.int .i64 n, .slice ao n c1, .slice (some ⟨g2, 0, none⟩) (n + 1) c2] 39)) from (Below.refl _ w).alloc (Nat.le_refl _) _)
  have hzW : (w.alloc (.cells #[.int .i64 n, .slice ao n c1, .slice (some ⟨g2, 0, none⟩) (n + 1) c2] 39)).heap.size = w.heap.size + 1 := World.size_alloc _ _
  clear h1 h2 ka
  go_enter Tryd.func15, Tryd.ntmps15
  go_upto_region 3 with fail
  generalize w.alloc (.cells #[.int .i64 n, .slice ao n c1, .slice (some ⟨g2, 0, none⟩) (n + 1) c2] 39) = W at H1 H2 HE HB0 hzW ⊢
  go_loopw [3, 4] (fun l g wr => ∃ (k : Nat) (D : List Sp), k ≤ n + 1 ∧ g = .int .i64 k ∧ D.length ≤ k ∧ Hid (plainG n I O = D ++ sc (cel n I O k) k none) ∧ Hid (wr.ownsRow W.heap.size 54 3 l D.length ((D.map raw).flatMap Rw.vals)) ∧ Below W.heap.size W wr) (fun _ g _ => n + 1 - (intOf g).toNat)
  case atStart => exact ⟨0, [], Nat.zero_le _, rfl, Nat.zero_le _, by show plainG n I O = _; unfold plainG cel; simp, World.ownsRow_nil _ _ _ _, Below.refl _ _⟩
  case round =>
    obtain ⟨k, D, hk, rfl, hD, HS, HO, hB⟩ := hrel
    have hsz := hB.size
    have hblk : wr.heap[w.heap.size]? = some (.cells #[.int .i64 n, .slice ao n c1, .slice (some ⟨g2, 0, none⟩) (n + 1) c2] 39 (0, 0)) := (hB.block _ (by omega)).trans HE.out
    have x0 : wr.cell? ⟨w.heap.size, 0, none⟩ = some (.int .i64 n) := by rw [Lib.cell_of_heap hblk]; rfl
    have x1 : wr.cell? ⟨w.heap.size, 1, none⟩ = some (.slice ao n c1) := by rw [Lib.cell_of_heap hblk]; rfl
    have x2 : wr.cell? ⟨w.heap.size, 2, none⟩ = some (.slice (some ⟨g2, 0, none⟩) (n + 1) c2) := by rw [Lib.cell_of_heap hblk]; rfl
    have HK := hide (Kp.ofBelow hB (fun _ => False))
    clear hblk
    by_cases hkn : k ≤ n
    · have q2 : wr.cell? ⟨g2, k, none⟩ = some (.string (ba (I k))) := (HK.out).cellv (H2.out k hkn) id
      have hown := HO.out
      have hi1 : (k : Int) ≤ (n : Int) := by omega
      by_cases hlt : k < n
      · obtain ⟨g1, rfl, q1⟩ : ∃ g1, ao = some ⟨g1, 0, none⟩ ∧ wr.cell? ⟨g1, k, none⟩ = some (.bool (O k)) := by obtain ⟨g1, e, hc⟩ := H1.out k hlt; exact ⟨g1, e, (HK.out).cellv hc id⟩
        have y1 : (k : Int) < (n : Int) := by omega
        cases hO : O k with
        | false =>
          rw [hO] at q1
          by_cases hI : I k = []
          · have q2' : wr.cell? ⟨g2, k, none⟩ = some (.string ⟨#[]⟩) := by rw [q2, hI]; rfl
            clear q2
            go_wp2_with fail
            refine ⟨⟨k + 1, D, by omega, by go_num, by omega, by show plainG n I O = _; rw [HS.out, sc_skip hkn hI (by simp [hO])], HO, hB⟩, by simp [intOf]; omega⟩
          · have hne := full_ne hI
            have hneb := full_neb hI
            have hu : u3.ownBlock ≠ some wr.heap.size := fun e => by have := (hown.lt _ e).2; omega
            have hnV := heap_alloc_new wr (.cells #[.int .i64 k, .int .i64 0, .string (ba (I k))] 54)
            have hOV := hown.alloc (.cells #[.int .i64 k, .int .i64 0, .string (ba (I k))] 54)
            have hBV : Below W.heap.size W (wr.alloc (.cells #[.int .i64 k, .int .i64 0, .string (ba (I k))] 54)) := hB.alloc hsz _
            have hzv : (wr.alloc (.cells #[.int .i64 k, .int .i64 0, .string (ba (I k))] 54)).heap.size = wr.heap.size + 1 := World.size_alloc _ _
            go_upto_region 8 with fail
            generalize wr.alloc (.cells #[.int .i64 k, .int .i64 0, .string (ba (I k))] 54) = V at hnV hOV hBV hzv ⊢
            have HV := hide hnV
            have HOV := hide hOV
            have HBV := hide hBV
            have hblkV : V.heap[w.heap.size]? = some (.cells #[.int .i64 n, .slice (some ⟨g1, 0, none⟩) n c1, .slice (some ⟨g2, 0, none⟩) (n + 1) c2] 39 (0, 0)) := (hBV.block _ (by omega)).trans HE.out
            have X0 : V.cell? ⟨w.heap.size, 0, none⟩ = some (.int .i64 n) := by rw [Lib.cell_of_heap hblkV]; rfl
            have X1 : V.cell? ⟨w.heap.size, 1, none⟩ = some (.slice (some ⟨g1, 0, none⟩) n c1) := by rw [Lib.cell_of_heap hblkV]; rfl
            have X2 : V.cell? ⟨w.heap.size, 2, none⟩ = some (.slice (some ⟨g2, 0, none⟩) (n + 1) c2) := by rw [Lib.cell_of_heap hblkV]; rfl
            have P0 : V.cell? ⟨wr.heap.size, 0, none⟩ = some (.int .i64 k) := by rw [Lib.cell_of_heap hnV]; rfl
            have HKV := hide (Kp.ofBelow hBV (fun _ => False))
            clear hnV hOV hBV hblkV x0 x1 x2 q2 q1
            go_loop [4] (fun g => g = .int .i64 k) (fun _ => 0)
            case atStart => rfl
            case round =>
              subst hrel
              have Q1 : V.cell? ⟨g1, k, none⟩ = some (.bool false) := by obtain ⟨g1', e, hc⟩ := H1.out k hlt; cases e; rw [← hO]; exact (HKV.out).cellv hc id
              obtain ⟨V2, hV2⟩ : ∃ y, y = V.setCell ⟨wr.heap.size, 1, none⟩ (.int .i64 (k : Int)) := ⟨_, rfl⟩
              have v0 : V2.heap[wr.heap.size]? = some (.cells #[.int .i64 k, .int .i64 (k : Int), .string (ba (I k))] 54 (0, 0)) := by rw [hV2]; simp [World.setCell, Array.getElem?_modify, HV.out]
              have hownV : V2.ownsRow W.heap.size 54 3 u3 D.length ((D.map raw).flatMap Rw.vals) := by rw [hV2]; exact ((Kp.refl (fun k => k = wr.heap.size) V).setCell (p := ⟨wr.heap.size, 1, none⟩) (fun _ => rfl) _).owns HOV.out (fun e he => by intro hh; exact hu (hh ▸ he))
              have hBV : Below W.heap.size W V2 := by rw [hV2]; exact (HBV.out).setCell (p := ⟨wr.heap.size, 1, none⟩) (by show W.heap.size ≤ wr.heap.size; omega) _
              have hzV : V2.heap.size = wr.heap.size + 1 := by rw [hV2, set_size]; exact hzv
              have f1 : V.frozen? ⟨wr.heap.size, 1, none⟩ = false := Lib.frozen_of_heap HV.out 1
              have p1 : V.cell? ⟨wr.heap.size, 1, none⟩ = some (.int .i64 0) := by rw [Lib.cell_of_heap HV.out]; rfl
              have z0 : V2.cell? ⟨wr.heap.size, 0, none⟩ = some (.int .i64 k) := by rw [Lib.cell_of_heap v0]; rfl
              have z1 : V2.cell? ⟨wr.heap.size, 1, none⟩ = some (.int .i64 (k : Int)) := by rw [Lib.cell_of_heap v0]; rfl
              have z2 : V2.cell? ⟨wr.heap.size, 2, none⟩ = some (.string (ba (I k))) := by rw [Lib.cell_of_heap v0]; rfl
              have HV2 := hide hV2
              have HOV2 := hide hownV
              have HBV2 := hide hBV
              have HZV := hide hzV
              clear v0 hownV hBV hzV
              go_upto_region 11 with fail
              rw [← hV2]
              clear hV2 HV2 f1 p1
              go_wp2_with (at_builtin; refine wpList_append_lies _ rfl _ _ 23 rfl W.heap.size 54 i0 _ 3 32 Tryd.underlying23 hi0 hz0 hz1 hz2 rfl (by omega) u3 D.length _ rfl ((HOV2.out).alloc _) ⟨V2.heap.size, 0, none⟩ 1 1 [.int .i64 k, .int .i64 (k : Int), .string (ba (I k))] rfl rfl (World.news_of_block (cs := #[.int .i64 k, .int .i64 (k : Int), .string (ba (I k))]) (t := 54) (fr := (0, 0)) (heap_alloc_new V2 _)) (by simp [Value.oneCell']) (by omega) (by unfold maxLen; omega) (by omega) (by have := HZV.out; simp; omega) (V2.heap.size + 1) (by simp) ?_)
              intro gg cap' w6 hown6 hgrow hat6 hlt6
              have hzV := HZV.out
              have zz0 : w6.cell? ⟨wr.heap.size, 0, none⟩ = some (.int .i64 k) := by
                rw [hgrow.cell_far ⟨wr.heap.size, 0, none⟩ (by simp; omega) (Ne.symm hu)]
                rw [World.cell?_of_block (w := V2) (Below.heap_alloc V2 _ wr.heap.size (by omega))]
                exact z0
              have HB6 := hide (((HBV2.out).alloc (by omega) _).grown hgrow (by simp; omega) (fun k hk => (hown.lt k hk).1))
              have HO6 := hide hown6
              clear hown6 hgrow z0 z1 z2
              go_wp2_with fail
              refine ⟨⟨k + 1, D ++ [⟨k, k, I k⟩], by omega, by go_num, by simp; omega, by show plainG n I O = _; rw [HS.out, sc_put hkn hI (by simp [hO])]; simp, ?_, HB6.out⟩, by simp [intOf]; omega⟩
              show w6.ownsRow _ _ _ _ _ _
              have hx := HO6.out
              rw [List.map_append, List.flatMap_append, List.length_append, hzW]
              exact hx
        | true =>
          rw [hO] at q1
          by_cases hI : I k = []
          · replace q2 : wr.cell? ⟨g2, k, none⟩ = some (.string ⟨#[]⟩) := by rw [q2, hI]; rfl
            have hu : u3.ownBlock ≠ some wr.heap.size := fun e => by have := (hown.lt _ e).2; omega
            have hnV := heap_alloc_new wr (.cells #[.int .i64 k, .int .i64 0, .string ⟨#[]⟩] 54)
            have hOV := hown.alloc (.cells #[.int .i64 k, .int .i64 0, .string ⟨#[]⟩] 54)
            have hBV : Below W.heap.size W (wr.alloc (.cells #[.int .i64 k, .int .i64 0, .string ⟨#[]⟩] 54)) := hB.alloc hsz _
            have hzv : (wr.alloc (.cells #[.int .i64 k, .int .i64 0, .string ⟨#[]⟩] 54)).heap.size = wr.heap.size + 1 := World.size_alloc _ _
            go_upto_region 8 with fail
            generalize wr.alloc (.cells #[.int .i64 k, .int .i64 0, .string ⟨#[]⟩] 54) = V at hnV hOV hBV hzv ⊢
            have HV := hide hnV
            have HOV := hide hOV
            have HBV := hide hBV
            have hblkV : V.heap[w.heap.size]? = some (.cells #[.int .i64 n, .slice (some ⟨g1, 0, none⟩) n c1, .slice (some ⟨g2, 0, none⟩) (n + 1) c2] 39 (0, 0)) := (hBV.block _ (by omega)).trans HE.out
            have X0 : V.cell? ⟨w.heap.size, 0, none⟩ = some (.int .i64 n) := by rw [Lib.cell_of_heap hblkV]; rfl
            have X1 : V.cell? ⟨w.heap.size, 1, none⟩ = some (.slice (some ⟨g1, 0, none⟩) n c1) := by rw [Lib.cell_of_heap hblkV]; rfl
            have X2 : V.cell? ⟨w.heap.size, 2, none⟩ = some (.slice (some ⟨g2, 0, none⟩) (n + 1) c2) := by rw [Lib.cell_of_heap hblkV]; rfl
            have P0 : V.cell? ⟨wr.heap.size, 0, none⟩ = some (.int .i64 k) := by rw [Lib.cell_of_heap hnV]; rfl
            have HKV := hide (Kp.ofBelow hBV (fun _ => False))
            clear hnV hOV hBV hblkV x0 x1 x2 q2 q1
            go_loop [4] (fun g => ∃ m : Nat, k ≤ m ∧ m ≤ n ∧ g = .int .i64 (m : Int) ∧ Hid (m = k ∨ sc (cel n I O k) k none = sc (cel n I O m) m (some (k, I k)))) (fun g => n - (intOf g).toNat)
            case atStart => exact ⟨k, Nat.le_refl _, hkn, rfl, .inl rfl⟩
            case round =>
              obtain ⟨m, hkm, hmn, rfl, HM⟩ := hrel
              have Q2 : V.cell? ⟨g2, m, none⟩ = some (.string (ba (I m))) := (HKV.out).cellv (H2.out m hmn) id
              by_cases hmk : m = k
              · subst hmk
                have Q1 : V.cell? ⟨g1, m, none⟩ = some (.bool true) := by obtain ⟨g1', e, hc⟩ := H1.out m hlt; cases e; rw [← hO]; exact (HKV.out).cellv hc id
                go_wp2_with fail
                exact ⟨⟨m + 1, by omega, by omega, by go_num, .inr (sc_open hlt hO)⟩, by simp [intOf]; omega⟩
              · have HMK := hide ((HM.out).resolve_left hmk)
                have mk1 : ((m : Int) == (k : Int)) = false := by simp only [beq_eq_false_iff_ne, ne_eq]; omega
                have mk2 : ¬ (m : Int) = (k : Int) := by omega
                by_cases hml : m < n
                · have y2 : (m : Int) < (n : Int) := by omega
                  have Q1 : V.cell? ⟨g1, m, none⟩ = some (.bool (O m)) := by obtain ⟨g1', e, hc⟩ := H1.out m hml; cases e; exact (HKV.out).cellv hc id
                  cases hOm : O m with
                  | true =>
                    rw [hOm] at Q1
                    by_cases hIm : I m = []
                    · have Q2' : V.cell? ⟨g2, m, none⟩ = some (.string ⟨#[]⟩) := by rw [Q2, hIm]; rfl
                      clear Q2
                      go_wp2_with fail
                      exact ⟨⟨m + 1, by omega, by omega, by go_num, .inr (by rw [HMK.out, sc_on hml hIm hOm])⟩, by simp [intOf]; omega⟩
                    · have hne2 := full_ne hIm
                      have hneb2 := full_neb hIm
                      obtain ⟨V2, hV2⟩ : ∃ y, y = V.setCell ⟨wr.heap.size, 1, none⟩ (.int .i64 (m : Int)) := ⟨_, rfl⟩
                      have v0 : V2.heap[wr.heap.size]? = some (.cells #[.int .i64 k, .int .i64 (m : Int), .string ⟨#[]⟩] 54 (0, 0)) := by rw [hV2]; simp [World.setCell, Array.getElem?_modify, HV.out]
                      have hownV : V2.ownsRow W.heap.size 54 3 u3 D.length ((D.map raw).flatMap Rw.vals) := by rw [hV2]; exact ((Kp.refl (fun k => k = wr.heap.size) V).setCell (p := ⟨wr.heap.size, 1, none⟩) (fun _ => rfl) _).owns HOV.out (fun e he => by intro hh; exact hu (hh ▸ he))
                      have hBV : Below W.heap.size W V2 := by rw [hV2]; exact (HBV.out).setCell (p := ⟨wr.heap.size, 1, none⟩) (by show W.heap.size ≤ wr.heap.size; omega) _
                      have hzV : V2.heap.size = wr.heap.size + 1 := by rw [hV2, set_size]; exact hzv
                      have f1 : V.frozen? ⟨wr.heap.size, 1, none⟩ = false := Lib.frozen_of_heap HV.out 1
                      have p1 : V.cell? ⟨wr.heap.size, 1, none⟩ = some (.int .i64 0) := by rw [Lib.cell_of_heap HV.out]; rfl
                      have z0 : V2.cell? ⟨wr.heap.size, 0, none⟩ = some (.int .i64 k) := by rw [Lib.cell_of_heap v0]; rfl
                      have z1 : V2.cell? ⟨wr.heap.size, 1, none⟩ = some (.int .i64 (m : Int)) := by rw [Lib.cell_of_heap v0]; rfl
                      have z2 : V2.cell? ⟨wr.heap.size, 2, none⟩ = some (.string ⟨#[]⟩) := by rw [Lib.cell_of_heap v0]; rfl
                      have HV2 := hide hV2
                      have HOV2 := hide hownV
                      have HBV2 := hide hBV
                      have HZV := hide hzV
                      clear v0 hownV hBV hzV
                      go_upto_region 11 with fail
                      rw [← hV2]
                      clear hV2 HV2 f1 p1
                      go_wp2_with (at_builtin; refine wpList_append_lies _ rfl _ _ 23 rfl W.heap.size 54 i0 _ 3 32 Tryd.underlying23 hi0 hz0 hz1 hz2 rfl (by omega) u3 D.length _ rfl ((HOV2.out).alloc _) ⟨V2.heap.size, 0, none⟩ 1 1 [.int .i64 k, .int .i64 (m : Int), .string ⟨#[]⟩] rfl rfl (World.news_of_block (cs := #[.int .i64 k, .int .i64 (m : Int), .string ⟨#[]⟩]) (t := 54) (fr := (0, 0)) (heap_alloc_new V2 _)) (by simp [Value.oneCell']) (by omega) (by unfold maxLen; omega) (by omega) (by have := HZV.out; simp; omega) (V2.heap.size + 1) (by simp) ?_)
                      intro gg cap' w6 hown6 hgrow hat6 hlt6
                      have hzV := HZV.out
                      have zz0 : w6.cell? ⟨wr.heap.size, 0, none⟩ = some (.int .i64 k) := by
                        rw [hgrow.cell_far ⟨wr.heap.size, 0, none⟩ (by simp; omega) (Ne.symm hu)]
                        rw [World.cell?_of_block (w := V2) (Below.heap_alloc V2 _ wr.heap.size (by omega))]
                        exact z0
                      have HB6 := hide (((HBV2.out).alloc (by omega) _).grown hgrow (by simp; omega) (fun k hk => (hown.lt k hk).1))
                      have HO6 := hide hown6
                      clear hown6 hgrow z0 z1 z2
                      go_wp2_with fail
                      refine ⟨⟨m, D ++ [⟨k, m, I k⟩], by omega, by go_num, by simp; omega, by show plainG n I O = _; rw [HS.out, HMK.out, sc_close hmn (by simp [hIm])]; simp, ?_, HB6.out⟩, by simp [intOf]; omega⟩
                      show w6.ownsRow _ _ _ _ _ _
                      have hx := HO6.out
                      rw [show (⟨#[]⟩ : ByteArray) = ba (I k) by rw [hI]; rfl] at hx; rw [List.map_append, List.flatMap_append, List.length_append, hzW]
                      exact hx
                  | false =>
                    rw [hOm] at Q1
                    obtain ⟨V2, hV2⟩ : ∃ y, y = V.setCell ⟨wr.heap.size, 1, none⟩ (.int .i64 (m : Int)) := ⟨_, rfl⟩
                    have v0 : V2.heap[wr.heap.size]? = some (.cells #[.int .i64 k, .int .i64 (m : Int), .string ⟨#[]⟩] 54 (0, 0)) := by rw [hV2]; simp [World.setCell, Array.getElem?_modify, HV.out]
                    have hownV : V2.ownsRow W.heap.size 54 3 u3 D.length ((D.map raw).flatMap Rw.vals) := by rw [hV2]; exact ((Kp.refl (fun k => k = wr.heap.size) V).setCell (p := ⟨wr.heap.size, 1, none⟩) (fun _ => rfl) _).owns HOV.out (fun e he => by intro hh; exact hu (hh ▸ he))
                    have hBV : Below W.heap.size W V2 := by rw [hV2]; exact (HBV.out).setCell (p := ⟨wr.heap.size, 1, none⟩) (by show W.heap.size ≤ wr.heap.size; omega) _
                    have hzV : V2.heap.size = wr.heap.size + 1 := by rw [hV2, set_size]; exact hzv
                    have f1 : V.frozen? ⟨wr.heap.size, 1, none⟩ = false := Lib.frozen_of_heap HV.out 1
                    have p1 : V.cell? ⟨wr.heap.size, 1, none⟩ = some (.int .i64 0) := by rw [Lib.cell_of_heap HV.out]; rfl
                    have z0 : V2.cell? ⟨wr.heap.size, 0, none⟩ = some (.int .i64 k) := by rw [Lib.cell_of_heap v0]; rfl
                    have z1 : V2.cell? ⟨wr.heap.size, 1, none⟩ = some (.int .i64 (m : Int)) := by rw [Lib.cell_of_heap v0]; rfl
                    have z2 : V2.cell? ⟨wr.heap.size, 2, none⟩ = some (.string ⟨#[]⟩) := by rw [Lib.cell_of_heap v0]; rfl
                    have HV2 := hide hV2
                    have HOV2 := hide hownV
                    have HBV2 := hide hBV
                    have HZV := hide hzV
                    clear v0 hownV hBV hzV
                    go_upto_region 11 with fail
                    rw [← hV2]
                    clear hV2 HV2 f1 p1
                    go_wp2_with (at_builtin; refine wpList_append_lies _ rfl _ _ 23 rfl W.heap.size 54 i0 _ 3 32 Tryd.underlying23 hi0 hz0 hz1 hz2 rfl (by omega) u3 D.length _ rfl ((HOV2.out).alloc _) ⟨V2.heap.size, 0, none⟩ 1 1 [.int .i64 k, .int .i64 (m : Int), .string ⟨#[]⟩] rfl rfl (World.news_of_block (cs := #[.int .i64 k, .int .i64 (m : Int), .string ⟨#[]⟩]) (t := 54) (fr := (0, 0)) (heap_alloc_new V2 _)) (by simp [Value.oneCell']) (by omega) (by unfold maxLen; omega) (by omega) (by have := HZV.out; simp; omega) (V2.heap.size + 1) (by simp) ?_)
                    intro gg cap' w6 hown6 hgrow hat6 hlt6
                    have hzV := HZV.out
                    have zz0 : w6.cell? ⟨wr.heap.size, 0, none⟩ = some (.int .i64 k) := by
                      rw [hgrow.cell_far ⟨wr.heap.size, 0, none⟩ (by simp; omega) (Ne.symm hu)]
                      rw [World.cell?_of_block (w := V2) (Below.heap_alloc V2 _ wr.heap.size (by omega))]
                      exact z0
                    have HB6 := hide (((HBV2.out).alloc (by omega) _).grown hgrow (by simp; omega) (fun k hk => (hown.lt k hk).1))
                    have HO6 := hide hown6
                    clear hown6 hgrow z0 z1 z2
                    go_wp2_with fail
                    refine ⟨⟨m, D ++ [⟨k, m, I k⟩], by omega, by go_num, by simp; omega, by show plainG n I O = _; rw [HS.out, HMK.out, sc_close hmn (by simp [hOm])]; simp, ?_, HB6.out⟩, by simp [intOf]; omega⟩
                    show w6.ownsRow _ _ _ _ _ _
                    have hx := HO6.out
                    rw [show (⟨#[]⟩ : ByteArray) = ba (I k) by rw [hI]; rfl] at hx; rw [List.map_append, List.flatMap_append, List.length_append, hzW]
                    exact hx
                · have y2 : ¬ (m : Int) < (n : Int) := by omega
                  obtain ⟨V2, hV2⟩ : ∃ y, y = V.setCell ⟨wr.heap.size, 1, none⟩ (.int .i64 (m : Int)) := ⟨_, rfl⟩
                  have v0 : V2.heap[wr.heap.size]? = some (.cells #[.int .i64 k, .int .i64 (m : Int), .string ⟨#[]⟩] 54 (0, 0)) := by rw [hV2]; simp [World.setCell, Array.getElem?_modify, HV.out]
                  have hownV : V2.ownsRow W.heap.size 54 3 u3 D.length ((D.map raw).flatMap Rw.vals) := by rw [hV2]; exact ((Kp.refl (fun k => k = wr.heap.size) V).setCell (p := ⟨wr.heap.size, 1, none⟩) (fun _ => rfl) _).owns HOV.out (fun e he => by intro hh; exact hu (hh ▸ he))
                  have hBV : Below W.heap.size W V2 := by rw [hV2]; exact (HBV.out).setCell (p := ⟨wr.heap.size, 1, none⟩) (by show W.heap.size ≤ wr.heap.size; omega) _
                  have hzV : V2.heap.size = wr.heap.size + 1 := by rw [hV2, set_size]; exact hzv
                  have f1 : V.frozen? ⟨wr.heap.size, 1, none⟩ = false := Lib.frozen_of_heap HV.out 1
                  have p1 : V.cell? ⟨wr.heap.size, 1, none⟩ = some (.int .i64 0) := by rw [Lib.cell_of_heap HV.out]; rfl
                  have z0 : V2.cell? ⟨wr.heap.size, 0, none⟩ = some (.int .i64 k) := by rw [Lib.cell_of_heap v0]; rfl
                  have z1 : V2.cell? ⟨wr.heap.size, 1, none⟩ = some (.int .i64 (m : Int)) := by rw [Lib.cell_of_heap v0]; rfl
                  have z2 : V2.cell? ⟨wr.heap.size, 2, none⟩ = some (.string ⟨#[]⟩) := by rw [Lib.cell_of_heap v0]; rfl
                  have HV2 := hide hV2
                  have HOV2 := hide hownV
                  have HBV2 := hide hBV
                  have HZV := hide hzV
                  clear v0 hownV hBV hzV
                  go_upto_region 11 with fail
                  rw [← hV2]
                  clear hV2 HV2 f1 p1
                  go_wp2_with (at_builtin; refine wpList_append_lies _ rfl _ _ 23 rfl W.heap.size 54 i0 _ 3 32 Tryd.underlying23 hi0 hz0 hz1 hz2 rfl (by omega) u3 D.length _ rfl ((HOV2.out).alloc _) ⟨V2.heap.size, 0, none⟩ 1 1 [.int .i64 k, .int .i64 (m : Int), .string ⟨#[]⟩] rfl rfl (World.news_of_block (cs := #[.int .i64 k, .int .i64 (m : Int), .string ⟨#[]⟩]) (t := 54) (fr := (0, 0)) (heap_alloc_new V2 _)) (by simp [Value.oneCell']) (by omega) (by unfold maxLen; omega) (by omega) (by have := HZV.out; simp; omega) (V2.heap.size + 1) (by simp) ?_)
                  intro gg cap' w6 hown6 hgrow hat6 hlt6
                  have hzV := HZV.out
                  have zz0 : w6.cell? ⟨wr.heap.size, 0, none⟩ = some (.int .i64 k) := by
                    rw [hgrow.cell_far ⟨wr.heap.size, 0, none⟩ (by simp; omega) (Ne.symm hu)]
                    rw [World.cell?_of_block (w := V2) (Below.heap_alloc V2 _ wr.heap.size (by omega))]
                    exact z0
                  have HB6 := hide (((HBV2.out).alloc (by omega) _).grown hgrow (by simp; omega) (fun k hk => (hown.lt k hk).1))
                  have HO6 := hide hown6
                  clear hown6 hgrow z0 z1 z2
                  go_wp2_with fail
                  refine ⟨⟨m, D ++ [⟨k, m, I k⟩], by omega, by go_num, by simp; omega, by show plainG n I O = _; rw [HS.out, HMK.out, sc_close hmn (by simp [hml])]; simp, ?_, HB6.out⟩, by simp [intOf]; omega⟩
                  show w6.ownsRow _ _ _ _ _ _
                  have hx := HO6.out
                  rw [show (⟨#[]⟩ : ByteArray) = ba (I k) by rw [hI]; rfl] at hx; rw [List.map_append, List.flatMap_append, List.length_append, hzW]
                  exact hx
          · have hne := full_ne hI
            have hneb := full_neb hI
            have hu : u3.ownBlock ≠ some wr.heap.size := fun e => by have := (hown.lt _ e).2; omega
            have hnV := heap_alloc_new wr (.cells #[.int .i64 k, .int .i64 0, .string (ba (I k))] 54)
            have hOV := hown.alloc (.cells #[.int .i64 k, .int .i64 0, .string (ba (I k))] 54)
            have hBV : Below W.heap.size W (wr.alloc (.cells #[.int .i64 k, .int .i64 0, .string (ba (I k))] 54)) := hB.alloc hsz _
            have hzv : (wr.alloc (.cells #[.int .i64 k, .int .i64 0, .string (ba (I k))] 54)).heap.size = wr.heap.size + 1 := World.size_alloc _ _
            go_upto_region 8 with fail
            generalize wr.alloc (.cells #[.int .i64 k, .int .i64 0, .string (ba (I k))] 54) = V at hnV hOV hBV hzv ⊢
            have HV := hide hnV
            have HOV := hide hOV
            have HBV := hide hBV
            have hblkV : V.heap[w.heap.size]? = some (.cells #[.int .i64 n, .slice (some ⟨g1, 0, none⟩) n c1, .slice (some ⟨g2, 0, none⟩) (n + 1) c2] 39 (0, 0)) := (hBV.block _ (by omega)).trans HE.out
            have X0 : V.cell? ⟨w.heap.size, 0, none⟩ = some (.int .i64 n) := by rw [Lib.cell_of_heap hblkV]; rfl
            have X1 : V.cell? ⟨w.heap.size, 1, none⟩ = some (.slice (some ⟨g1, 0, none⟩) n c1) := by rw [Lib.cell_of_heap hblkV]; rfl
            have X2 : V.cell? ⟨w.heap.size, 2, none⟩ = some (.slice (some ⟨g2, 0, none⟩) (n + 1) c2) := by rw [Lib.cell_of_heap hblkV]; rfl
            have P0 : V.cell? ⟨wr.heap.size, 0, none⟩ = some (.int .i64 k) := by rw [Lib.cell_of_heap hnV]; rfl
            have HKV := hide (Kp.ofBelow hBV (fun _ => False))
            clear hnV hOV hBV hblkV x0 x1 x2 q2 q1
            go_loop [4] (fun g => ∃ m : Nat, k ≤ m ∧ m ≤ n ∧ g = .int .i64 (m : Int) ∧ Hid (m = k ∨ sc (cel n I O k) k none = sc (cel n I O m) m (some (k, I k)))) (fun g => n - (intOf g).toNat)
            case atStart => exact ⟨k, Nat.le_refl _, hkn, rfl, .inl rfl⟩
            case round =>
              obtain ⟨m, hkm, hmn, rfl, HM⟩ := hrel
              have Q2 : V.cell? ⟨g2, m, none⟩ = some (.string (ba (I m))) := (HKV.out).cellv (H2.out m hmn) id
              by_cases hmk : m = k
              · subst hmk
                have Q1 : V.cell? ⟨g1, m, none⟩ = some (.bool true) := by obtain ⟨g1', e, hc⟩ := H1.out m hlt; cases e; rw [← hO]; exact (HKV.out).cellv hc id
                go_wp2_with fail
                exact ⟨⟨m + 1, by omega, by omega, by go_num, .inr (sc_open hlt hO)⟩, by simp [intOf]; omega⟩
              · have HMK := hide ((HM.out).resolve_left hmk)
                have mk1 : ((m : Int) == (k : Int)) = false := by simp only [beq_eq_false_iff_ne, ne_eq]; omega
                have mk2 : ¬ (m : Int) = (k : Int) := by omega
                by_cases hml : m < n
                · have y2 : (m : Int) < (n : Int) := by omega
                  have Q1 : V.cell? ⟨g1, m, none⟩ = some (.bool (O m)) := by obtain ⟨g1', e, hc⟩ := H1.out m hml; cases e; exact (HKV.out).cellv hc id
                  cases hOm : O m with
                  | true =>
                    rw [hOm] at Q1
                    by_cases hIm : I m = []
                    · have Q2' : V.cell? ⟨g2, m, none⟩ = some (.string ⟨#[]⟩) := by rw [Q2, hIm]; rfl
                      clear Q2
                      go_wp2_with fail
                      exact ⟨⟨m + 1, by omega, by omega, by go_num, .inr (by rw [HMK.out, sc_on hml hIm hOm])⟩, by simp [intOf]; omega⟩
                    · have hne2 := full_ne hIm
                      have hneb2 := full_neb hIm
                      obtain ⟨V2, hV2⟩ : ∃ y, y = V.setCell ⟨wr.heap.size, 1, none⟩ (.int .i64 (m : Int)) := ⟨_, rfl⟩
                      have v0 : V2.heap[wr.heap.size]? = some (.cells #[.int .i64 k, .int .i64 (m : Int), .string (ba (I k))] 54 (0, 0)) := by rw [hV2]; simp [World.setCell, Array.getElem?_modify, HV.out]
                      have hownV : V2.ownsRow W.heap.size 54 3 u3 D.length ((D.map raw).flatMap Rw.vals) := by rw [hV2]; exact ((Kp.refl (fun k => k = wr.heap.size) V).setCell (p := ⟨wr.heap.size, 1, none⟩) (fun _ => rfl) _).owns HOV.out (fun e he => by intro hh; exact hu (hh ▸ he))
                      have hBV : Below W.heap.size W V2 := by rw [hV2]; exact (HBV.out).setCell (p := ⟨wr.heap.size, 1, none⟩) (by show W.heap.size ≤ wr.heap.size; omega) _
                      have hzV : V2.heap.size = wr.heap.size + 1 := by rw [hV2, set_size]; exact hzv
                      have f1 : V.frozen? ⟨wr.heap.size, 1, none⟩ = false := Lib.frozen_of_heap HV.out 1
                      have p1 : V.cell? ⟨wr.heap.size, 1, none⟩ = some (.int .i64 0) := by rw [Lib.cell_of_heap HV.out]; rfl
                      have z0 : V2.cell? ⟨wr.heap.size, 0, none⟩ = some (.int .i64 k) := by rw [Lib.cell_of_heap v0]; rfl
                      have z1 : V2.cell? ⟨wr.heap.size, 1, none⟩ = some (.int .i64 (m : Int)) := by rw [Lib.cell_of_heap v0]; rfl
                      have z2 : V2.cell? ⟨wr.heap.size, 2, none⟩ = some (.string (ba (I k))) := by rw [Lib.cell_of_heap v0]; rfl
                      have HV2 := hide hV2
                      have HOV2 := hide hownV
                      have HBV2 := hide hBV
                      have HZV := hide hzV
                      clear v0 hownV hBV hzV
                      go_upto_region 11 with fail
                      rw [← hV2]
                      clear hV2 HV2 f1 p1
                      go_wp2_with (at_builtin; refine wpList_append_lies _ rfl _ _ 23 rfl W.heap.size 54 i0 _ 3 32 Tryd.underlying23 hi0 hz0 hz1 hz2 rfl (by omega) u3 D.length _ rfl ((HOV2.out).alloc _) ⟨V2.heap.size, 0, none⟩ 1 1 [.int .i64 k, .int .i64 (m : Int), .string (ba (I k))] rfl rfl (World.news_of_block (cs := #[.int .i64 k, .int .i64 (m : Int), .string (ba (I k))]) (t := 54) (fr := (0, 0)) (heap_alloc_new V2 _)) (by simp [Value.oneCell']) (by omega) (by unfold maxLen; omega) (by omega) (by have := HZV.out; simp; omega) (V2.heap.size + 1) (by simp) ?_)
                      intro gg cap' w6 hown6 hgrow hat6 hlt6
                      have hzV := HZV.out
                      have zz0 : w6.cell? ⟨wr.heap.size, 0, none⟩ = some (.int .i64 k) := by
                        rw [hgrow.cell_far ⟨wr.heap.size, 0, none⟩ (by simp; omega) (Ne.symm hu)]
                        rw [World.cell?_of_block (w := V2) (Below.heap_alloc V2 _ wr.heap.size (by omega))]
                        exact z0
                      have HB6 := hide (((HBV2.out).alloc (by omega) _).grown hgrow (by simp; omega) (fun k hk => (hown.lt k hk).1))
                      have HO6 := hide hown6
                      clear hown6 hgrow z0 z1 z2
                      go_wp2_with fail
                      refine ⟨⟨m, D ++ [⟨k, m, I k⟩], by omega, by go_num, by simp; omega, by show plainG n I O = _; rw [HS.out, HMK.out, sc_close hmn (by simp [hIm])]; simp, ?_, HB6.out⟩, by simp [intOf]; omega⟩
                      show w6.ownsRow _ _ _ _ _ _
                      have hx := HO6.out
                      rw [List.map_append, List.flatMap_append, List.length_append, hzW]
                      exact hx
                  | false =>
                    rw [hOm] at Q1
                    obtain ⟨V2, hV2⟩ : ∃ y, y = V.setCell ⟨wr.heap.size, 1, none⟩ (.int .i64 (m : Int)) := ⟨_, rfl⟩
                    have v0 : V2.heap[wr.heap.size]? = some (.cells #[.int .i64 k, .int .i64 (m : Int), .string (ba (I k))] 54 (0, 0)) := by rw [hV2]; simp [World.setCell, Array.getElem?_modify, HV.out]
                    have hownV : V2.ownsRow W.heap.size 54 3 u3 D.length ((D.map raw).flatMap Rw.vals) := by rw [hV2]; exact ((Kp.refl (fun k => k = wr.heap.size) V).setCell (p := ⟨wr.heap.size, 1, none⟩) (fun _ => rfl) _).owns HOV.out (fun e he => by intro hh; exact hu (hh ▸ he))
                    have hBV : Below W.heap.size W V2 := by rw [hV2]; exact (HBV.out).setCell (p := ⟨wr.heap.size, 1, none⟩) (by show W.heap.size ≤ wr.heap.size; omega) _
                    have hzV : V2.heap.size = wr.heap.size + 1 := by rw [hV2, set_size]; exact hzv
                    have f1 : V.frozen? ⟨wr.heap.size, 1, none⟩ = false := Lib.frozen_of_heap HV.out 1
                    have p1 : V.cell? ⟨wr.heap.size, 1, none⟩ = some (.int .i64 0) := by rw [Lib.cell_of_heap HV.out]; rfl
                    have z0 : V2.cell? ⟨wr.heap.size, 0, none⟩ = some (.int .i64 k) := by rw [Lib.cell_of_heap v0]; rfl
                    have z1 : V2.cell? ⟨wr.heap.size, 1, none⟩ = some (.int .i64 (m : Int)) := by rw [Lib.cell_of_heap v0]; rfl
                    have z2 : V2.cell? ⟨wr.heap.size, 2, none⟩ = some (.string (ba (I k))) := by rw [Lib.cell_of_heap v0]; rfl
                    have HV2 := hide hV2
                    have HOV2 := hide hownV
                    have HBV2 := hide hBV
                    have HZV := hide hzV
                    clear v0 hownV hBV hzV
                    go_upto_region 11 with fail
                    rw [← hV2]
                    clear hV2 HV2 f1 p1
                    go_wp2_with (at_builtin; refine wpList_append_lies _ rfl _ _ 23 rfl W.heap.size 54 i0 _ 3 32 Tryd.underlying23 hi0 hz0 hz1 hz2 rfl (by omega) u3 D.length _ rfl ((HOV2.out).alloc _) ⟨V2.heap.size, 0, none⟩ 1 1 [.int .i64 k, .int .i64 (m : Int), .string (ba (I k))] rfl rfl (World.news_of_block (cs := #[.int .i64 k, .int .i64 (m : Int), .string (ba (I k))]) (t := 54) (fr := (0, 0)) (heap_alloc_new V2 _)) (by simp [Value.oneCell']) (by omega) (by unfold maxLen; omega) (by omega) (by have := HZV.out; simp; omega) (V2.heap.size + 1) (by simp) ?_)
                    intro gg cap' w6 hown6 hgrow hat6 hlt6
                    have hzV := HZV.out
                    have zz0 : w6.cell? ⟨wr.heap.size, 0, none⟩ = some (.int .i64 k) := by
                      rw [hgrow.cell_far ⟨wr.heap.size, 0, none⟩ (by simp; omega) (Ne.symm hu)]
                      rw [World.cell?_of_block (w := V2) (Below.heap_alloc V2 _ wr.heap.size (by omega))]
                      exact z0
                    have HB6 := hide (((HBV2.out).alloc (by omega) _).grown hgrow (by simp; omega) (fun k hk => (hown.lt k hk).1))
                    have HO6 := hide hown6
                    clear hown6 hgrow z0 z1 z2
                    go_wp2_with fail
                    refine ⟨⟨m, D ++ [⟨k, m, I k⟩], by omega, by go_num, by simp; omega, by show plainG n I O = _; rw [HS.out, HMK.out, sc_close hmn (by simp [hOm])]; simp, ?_, HB6.out⟩, by simp [intOf]; omega⟩
                    show w6.ownsRow _ _ _ _ _ _
                    have hx := HO6.out
                    rw [List.map_append, List.flatMap_append, List.length_append, hzW]
                    exact hx
                · have y2 : ¬ (m : Int) < (n : Int) := by omega
                  obtain ⟨V2, hV2⟩ : ∃ y, y = V.setCell ⟨wr.heap.size, 1, none⟩ (.int .i64 (m : Int)) := ⟨_, rfl⟩
                  have v0 : V2.heap[wr.heap.size]? = some (.cells #[.int .i64 k, .int .i64 (m : Int), .string (ba (I k))] 54 (0, 0)) := by rw [hV2]; simp [World.setCell, Array.getElem?_modify, HV.out]
                  have hownV : V2.ownsRow W.heap.size 54 3 u3 D.length ((D.map raw).flatMap Rw.vals) := by rw [hV2]; exact ((Kp.refl (fun k => k = wr.heap.size) V).setCell (p := ⟨wr.heap.size, 1, none⟩) (fun _ => rfl) _).owns HOV.out (fun e he => by intro hh; exact hu (hh ▸ he))
                  have hBV : Below W.heap.size W V2 := by rw [hV2]; exact (HBV.out).setCell (p := ⟨wr.heap.size, 1, none⟩) (by show W.heap.size ≤ wr.heap.size; omega) _
                  have hzV : V2.heap.size = wr.heap.size + 1 := by rw [hV2, set_size]; exact hzv
                  have f1 : V.frozen? ⟨wr.heap.size, 1, none⟩ = false := Lib.frozen_of_heap HV.out 1
                  have p1 : V.cell? ⟨wr.heap.size, 1, none⟩ = some (.int .i64 0) := by rw [Lib.cell_of_heap HV.out]; rfl
                  have z0 : V2.cell? ⟨wr.heap.size, 0, none⟩ = some (.int .i64 k) := by rw [Lib.cell_of_heap v0]; rfl
                  have z1 : V2.cell? ⟨wr.heap.size, 1, none⟩ = some (.int .i64 (m : Int)) := by rw [Lib.cell_of_heap v0]; rfl
                  have z2 : V2.cell? ⟨wr.heap.size, 2, none⟩ = some (.string (ba (I k))) := by rw [Lib.cell_of_heap v0]; rfl
                  have HV2 := hide hV2
                  have HOV2 := hide hownV
                  have HBV2 := hide hBV
                  have HZV := hide hzV
                  clear v0 hownV hBV hzV
                  go_upto_region 11 with fail
                  rw [← hV2]
                  clear hV2 HV2 f1 p1
                  go_wp2_with (at_builtin; refine wpList_append_lies _ rfl _ _ 23 rfl W.heap.size 54 i0 _ 3 32 Tryd.underlying23 hi0 hz0 hz1 hz2 rfl (by omega) u3 D.length _ rfl ((HOV2.out).alloc _) ⟨V2.heap.size, 0, none⟩ 1 1 [.int .i64 k, .int .i64 (m : Int), .string (ba (I k))] rfl rfl (World.news_of_block (cs := #[.int .i64 k, .int .i64 (m : Int), .string (ba (I k))]) (t := 54) (fr := (0, 0)) (heap_alloc_new V2 _)) (by simp [Value.oneCell']) (by omega) (by unfold maxLen; omega) (by omega) (by have := HZV.out; simp; omega) (V2.heap.size + 1) (by simp) ?_)
                  intro gg cap' w6 hown6 hgrow hat6 hlt6
                  have hzV := HZV.out
                  have zz0 : w6.cell? ⟨wr.heap.size, 0, none⟩ = some (.int .i64 k) := by
                    rw [hgrow.cell_far ⟨wr.heap.size, 0, none⟩ (by simp; omega) (Ne.symm hu)]
                    rw [World.cell?_of_block (w := V2) (Below.heap_alloc V2 _ wr.heap.size (by omega))]
                    exact z0
                  have HB6 := hide (((HBV2.out).alloc (by omega) _).grown hgrow (by simp; omega) (fun k hk => (hown.lt k hk).1))
                  have HO6 := hide hown6
                  clear hown6 hgrow z0 z1 z2
                  go_wp2_with fail
                  refine ⟨⟨m, D ++ [⟨k, m, I k⟩], by omega, by go_num, by simp; omega, by show plainG n I O = _; rw [HS.out, HMK.out, sc_close hmn (by simp [hml])]; simp, ?_, HB6.out⟩, by simp [intOf]; omega⟩
                  show w6.ownsRow _ _ _ _ _ _
                  have hx := HO6.out
                  rw [List.map_append, List.flatMap_append, List.length_append, hzW]
                  exact hx
      · have y1 : ¬ (k : Int) < (n : Int) := by omega
        by_cases hI : I k = []
        · have q2' : wr.cell? ⟨g2, k, none⟩ = some (.string ⟨#[]⟩) := by rw [q2, hI]; rfl
          clear q2
          go_wp2_with fail
          refine ⟨⟨k + 1, D, by omega, by go_num, by omega, by show plainG n I O = _; rw [HS.out, sc_skip hkn hI (by simp [hlt])], HO, hB⟩, by simp [intOf]; omega⟩
        · have hne := full_ne hI
          have hneb := full_neb hI
          have hu : u3.ownBlock ≠ some wr.heap.size := fun e => by have := (hown.lt _ e).2; omega
          have hnV := heap_alloc_new wr (.cells #[.int .i64 k, .int .i64 0, .string (ba (I k))] 54)
          have hOV := hown.alloc (.cells #[.int .i64 k, .int .i64 0, .string (ba (I k))] 54)
          have hBV : Below W.heap.size W (wr.alloc (.cells #[.int .i64 k, .int .i64 0, .string (ba (I k))] 54)) := hB.alloc hsz _
          have hzv : (wr.alloc (.cells #[.int .i64 k, .int .i64 0, .string (ba (I k))] 54)).heap.size = wr.heap.size + 1 := World.size_alloc _ _
          go_upto_region 8 with fail
          generalize wr.alloc (.cells #[.int .i64 k, .int .i64 0, .string (ba (I k))] 54) = V at hnV hOV hBV hzv ⊢
          have HV := hide hnV
          have HOV := hide hOV
          have HBV := hide hBV
          have hblkV : V.heap[w.heap.size]? = some (.cells #[.int .i64 n, .slice ao n c1, .slice (some ⟨g2, 0, none⟩) (n + 1) c2] 39 (0, 0)) := (hBV.block _ (by omega)).trans HE.out
          have X0 : V.cell? ⟨w.heap.size, 0, none⟩ = some (.int .i64 n) := by rw [Lib.cell_of_heap hblkV]; rfl
          have X1 : V.cell? ⟨w.heap.size, 1, none⟩ = some (.slice ao n c1) := by rw [Lib.cell_of_heap hblkV]; rfl
          have X2 : V.cell? ⟨w.heap.size, 2, none⟩ = some (.slice (some ⟨g2, 0, none⟩) (n + 1) c2) := by rw [Lib.cell_of_heap hblkV]; rfl
          have P0 : V.cell? ⟨wr.heap.size, 0, none⟩ = some (.int .i64 k) := by rw [Lib.cell_of_heap hnV]; rfl
          have HKV := hide (Kp.ofBelow hBV (fun _ => False))
          clear hnV hOV hBV hblkV x0 x1 x2 q2 
          go_loop [4] (fun g => g = .int .i64 k) (fun _ => 0)
          case atStart => rfl
          case round =>
            subst hrel
            skip
            obtain ⟨V2, hV2⟩ : ∃ y, y = V.setCell ⟨wr.heap.size, 1, none⟩ (.int .i64 (k : Int)) := ⟨_, rfl⟩
            have v0 : V2.heap[wr.heap.size]? = some (.cells #[.int .i64 k, .int .i64 (k : Int), .string (ba (I k))] 54 (0, 0)) := by rw [hV2]; simp [World.setCell, Array.getElem?_modify, HV.out]
            have hownV : V2.ownsRow W.heap.size 54 3 u3 D.length ((D.map raw).flatMap Rw.vals) := by rw [hV2]; exact ((Kp.refl (fun k => k = wr.heap.size) V).setCell (p := ⟨wr.heap.size, 1, none⟩) (fun _ => rfl) _).owns HOV.out (fun e he => by intro hh; exact hu (hh ▸ he))
            have hBV : Below W.heap.size W V2 := by rw [hV2]; exact (HBV.out).setCell (p := ⟨wr.heap.size, 1, none⟩) (by show W.heap.size ≤ wr.heap.size; omega) _
            have hzV : V2.heap.size = wr.heap.size + 1 := by rw [hV2, set_size]; exact hzv
            have f1 : V.frozen? ⟨wr.heap.size, 1, none⟩ = false := Lib.frozen_of_heap HV.out 1
            have p1 : V.cell? ⟨wr.heap.size, 1, none⟩ = some (.int .i64 0) := by rw [Lib.cell_of_heap HV.out]; rfl
            have z0 : V2.cell? ⟨wr.heap.size, 0, none⟩ = some (.int .i64 k) := by rw [Lib.cell_of_heap v0]; rfl
            have z1 : V2.cell? ⟨wr.heap.size, 1, none⟩ = some (.int .i64 (k : Int)) := by rw [Lib.cell_of_heap v0]; rfl
            have z2 : V2.cell? ⟨wr.heap.size, 2, none⟩ = some (.string (ba (I k))) := by rw [Lib.cell_of_heap v0]; rfl
            have HV2 := hide hV2
            have HOV2 := hide hownV
            have HBV2 := hide hBV
            have HZV := hide hzV
            clear v0 hownV hBV hzV
            go_upto_region 11 with fail
            rw [← hV2]
            clear hV2 HV2 f1 p1
            go_wp2_with (at_builtin; refine wpList_append_lies _ rfl _ _ 23 rfl W.heap.size 54 i0 _ 3 32 Tryd.underlying23 hi0 hz0 hz1 hz2 rfl (by omega) u3 D.length _ rfl ((HOV2.out).alloc _) ⟨V2.heap.size, 0, none⟩ 1 1 [.int .i64 k, .int .i64 (k : Int), .string (ba (I k))] rfl rfl (World.news_of_block (cs := #[.int .i64 k, .int .i64 (k : Int), .string (ba (I k))]) (t := 54) (fr := (0, 0)) (heap_alloc_new V2 _)) (by simp [Value.oneCell']) (by omega) (by unfold maxLen; omega) (by omega) (by have := HZV.out; simp; omega) (V2.heap.size + 1) (by simp) ?_)
            intro gg cap' w6 hown6 hgrow hat6 hlt6
            have hzV := HZV.out
            have zz0 : w6.cell? ⟨wr.heap.size, 0, none⟩ = some (.int .i64 k) := by
              rw [hgrow.cell_far ⟨wr.heap.size, 0, none⟩ (by simp; omega) (Ne.symm hu)]
              rw [World.cell?_of_block (w := V2) (Below.heap_alloc V2 _ wr.heap.size (by omega))]
              exact z0
            have HB6 := hide (((HBV2.out).alloc (by omega) _).grown hgrow (by simp; omega) (fun k hk => (hown.lt k hk).1))
            have HO6 := hide hown6
            clear hown6 hgrow z0 z1 z2
            go_wp2_with fail
            refine ⟨⟨k + 1, D ++ [⟨k, k, I k⟩], by omega, by go_num, by simp; omega, by show plainG n I O = _; rw [HS.out, sc_put hkn hI (by simp [hlt])]; simp, ?_, HB6.out⟩, by simp [intOf]; omega⟩
            show w6.ownsRow _ _ _ _ _ _
            have hx := HO6.out
            rw [List.map_append, List.flatMap_append, List.length_append, hzW]
            exact hx
    · have hk2 : k = n + 1 := by omega
      have z : ¬ (k : Int) ≤ (n : Int) := by omega
      have HQ := hide (show plainG n I O = D by rw [HS.out, hk2, cel_end]; simp [sc])
      clear hk2
      go_wp2_with fail
      go_ret
      refine ⟨_, rfl, ?_, (HB0.out).trans (hB.mono (by omega))⟩
      rw [HQ.out]
      exact owns_base' HO.out (by omega)
end Go.Proofs.YtobdfddpiobhhaaDoor
