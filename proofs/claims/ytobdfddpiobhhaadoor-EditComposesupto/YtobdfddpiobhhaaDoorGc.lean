/- What spans mean: the walk. -/
import Derived.Test.YtobdfddpiobhhaaDoorGb
namespace Go.Proofs.YtobdfddpiobhhaaDoor
open Go.RowKit
open EM
theorem raw_get {Ls : List Sp} {k : Nat} {r : Rw} (h : (Ls.map raw)[k]? = some r) : ∃ c, Ls[k]? = some c ∧ r = raw c := by
  rw [List.getElem?_map] at h
  cases hc : Ls[k]? with
  | none => rw [hc] at h; cases h
  | some c => rw [hc] at h; exact ⟨c, rfl, (Option.some.inj h).symm⟩
theorem Ok_get {a n : Nat} {Ls : List Sp} (h : Ok a n Ls) {k : Nat} {c : Sp} (hc : Ls[k]? = some c) : c.f ≤ c.t ∧ c.t ≤ n := by
  induction Ls generalizing a k with
  | nil => simp at hc
  | cons d L ih =>
    cases k with
    | zero => obtain rfl : d = c := by simpa using hc
              exact ⟨h.2.1, h.2.2.le⟩
    | succ k => exact ih h.2.2 (by simpa using hc)
theorem take_snoc {Ls : List Sp} {k : Nat} {c : Sp} (hc : Ls[k]? = some c) : Ls.take (k + 1) = Ls.take k ++ [c] := by
  rw [List.take_add_one, hc]; rfl
theorem alloc_at (w : World) (o : Obj) (k : Nat) : (w.alloc o).heap[k]? = if k = w.heap.size then some o else w.heap[k]? := by
  show (w.heap.push o)[k]? = _
  rw [Array.getElem?_push]
/-- The result's own variable, zero. -/
def R3 (W : World) (b : Nat) : Prop := W.heap[b]? = some (.cells #[.int .i64 0, .slice none 0 0, .slice none 0 0] 39 (0, 0))
theorem R3.facts {W : World} {b : Nat} (h : R3 W b) : W.cell? ⟨b, 0, none⟩ = some (.int .i64 0) ∧ W.cell? ⟨b, 1, none⟩ = some (.slice none 0 0) ∧ W.cell? ⟨b, 2, none⟩ = some (.slice none 0 0) ∧ W.frozen? ⟨b, 0, none⟩ = false ∧ W.frozen? ⟨b, 1, none⟩ = false ∧ W.frozen? ⟨b, 2, none⟩ = false := by
  unfold R3 at h
  refine ⟨?_, ?_, ?_, ?_, ?_, ?_⟩ <;> simp [World.cell?, World.frozen?, h]
/-- A block of three cells, written. -/
def set3 (w : World) (b : Nat) (y0 y1 y2 : Value) : World := ((w.setCell ⟨b, 0, none⟩ y0).setCell ⟨b, 1, none⟩ y1).setCell ⟨b, 2, none⟩ y2
theorem set3_at {w : World} {b : Nat} {x0 x1 x2 : Value} {t : TypeId} (h : w.heap[b]? = some (.cells #[x0, x1, x2] t (0, 0))) (y0 y1 y2 : Value) : (set3 w b y0 y1 y2).heap[b]? = some (.cells #[y0, y1, y2] t (0, 0)) := by
  simp [set3, World.setCell, Array.getElem?_modify, h]
theorem set3_kp {S : Nat → Prop} {a w : World} (h : Kp S a w) (b : Nat) (y0 y1 y2 : Value) (hb : b < a.heap.size → S b) : Kp S a (set3 w b y0 y1 y2) :=
  ((h.setCell (p := ⟨b, 0, none⟩) hb _).setCell (p := ⟨b, 1, none⟩) hb _).setCell (p := ⟨b, 2, none⟩) hb _
theorem set3_below {B : Nat} {a w : World} (h : Below B a w) (b : Nat) (hB : B ≤ b) (y0 y1 y2 : Value) : Below B a (set3 w b y0 y1 y2) :=
  ((h.setCell (p := ⟨b, 0, none⟩) hB _).setCell (p := ⟨b, 1, none⟩) hB _).setCell (p := ⟨b, 2, none⟩) hB _
theorem drew_at (w : World) (k : Nat) : w.drew.heap[k]? = w.heap[k]? := rfl
theorem made4 (w : World) (z a b c : Obj) : ((((w.alloc z).alloc a).alloc b).alloc c).drew.heap[w.heap.size]? = some z ∧ ((((w.alloc z).alloc a).alloc b).alloc c).drew.heap[w.heap.size + 1]? = some a ∧
    ((((w.alloc z).alloc a).alloc b).alloc c).drew.heap[w.heap.size + 1 + 1]? = some b ∧ ((((w.alloc z).alloc a).alloc b).alloc c).drew.heap[w.heap.size + 1 + 1 + 1]? = some c := by
  have a1 := alloc_at w z
  have a2 := alloc_at (w.alloc z) a
  have a3 := alloc_at ((w.alloc z).alloc a) b
  have a4 := alloc_at (((w.alloc z).alloc a).alloc b) c
  simp only [World.size_alloc] at a1 a2 a3 a4
  refine ⟨?_, ?_, ?_, ?_⟩
  · rw [drew_at, a4, if_neg (by omega), a3, if_neg (by omega), a2, if_neg (by omega), a1]; simp
  · rw [drew_at, a4, if_neg (by omega), a3, if_neg (by omega), a2]; simp
  · rw [drew_at, a4, if_neg (by omega), a3]; simp
  · rw [drew_at, a4]; simp
theorem Below4 (w : World) (z a b c : Obj) : Below w.heap.size w ((((w.alloc z).alloc a).alloc b).alloc c).drew :=
  (((((Below.refl _ w).alloc (Nat.le_refl _) _).alloc (by simp) _).alloc (by simp; omega) _).alloc (by simp; omega) _).drew
set_option maxRecDepth 100000 in
set_option maxHeartbeats 4000000 in
theorem means_any (n : Nat) (v : Value) (Ls : List Sp) (w : World) (h : IsL w v (Ls.map raw)) (hn : n ≤ 1048576) (hok : Ok 0 n Ls) (ht : tot Ls ≤ 1099511627776) :
    Calls Tryd.prog 14 #[.int .i64 n, v] w fun e w' => ∃ v', e = .returned v' ∧ IsE w' v' n (inG Ls) (outG Ls) ∧ Below w.heap.size w w' := by
  obtain ⟨A1, s1, g1, m1⟩ := mk_bools n (by omega)
  obtain ⟨A2, s2, g2, m2⟩ := mk_strs n (by omega)
  have H := hide h
  obtain ⟨ao, cap, rfl, hc, hl', hcm, hx⟩ := h
  clear hx
  have hll : (Ls.map raw).length = Ls.length := by simp
  rw [hll] at hc hl' H ⊢
  have HG := hide (And.intro (And.intro s1 g1) (And.intro s2 g2))
  have HO := hide hok
  clear s1 s2 g1 g2 hll hok
  go_enter Tryd.func14, Tryd.ntmps14
  go_wp2_with fail
  go_cut [5] (fun s5 wx => ∃ be g1 g2 : Nat, s5 = .pointer (some ⟨be, 0, none⟩) ∧ Hid (ME (w.heap.size + 1) wx be g1 g2 n (inG (Ls.take 0)) (outG (Ls.take 0))) ∧ Hid (R3 wx w.heap.size) ∧ Below w.heap.size w wx)
  case first =>
    go_region
    all_goals go_wp2_with fail
    all_goals go_meet
    all_goals
      case rel =>
        first
          | exact ⟨_, _, _, rfl, ME.made (HG.out).1 (HG.out).2 (made4 w _ _ _ _).2.1 (made4 w _ _ _ _).2.2.1 (made4 w _ _ _ _).2.2.2 ⟨by omega, by omega, by omega⟩ (by omega) (by omega) (by omega), (made4 w _ _ _ _).1, Below4 w _ _ _ _⟩
          | exact ⟨_, _, _, rfl, ME.made (HG.out).1 (HG.out).2 (made4 w _ _ _ _).2.1 (made4 w _ _ _ _).2.2.2 (made4 w _ _ _ _).2.2.1 ⟨by omega, by omega, by omega⟩ (by omega) (by omega) (by omega), (made4 w _ _ _ _).1, Below4 w _ _ _ _⟩
          | exact ⟨_, _, _, rfl, ME.made (HG.out).1 (HG.out).2 (made4 w _ _ _ _).2.2.1 (made4 w _ _ _ _).2.1 (made4 w _ _ _ _).2.2.2 ⟨by omega, by omega, by omega⟩ (by omega) (by omega) (by omega), (made4 w _ _ _ _).1, Below4 w _ _ _ _⟩
          | exact ⟨_, _, _, rfl, ME.made (HG.out).1 (HG.out).2 (made4 w _ _ _ _).2.2.1 (made4 w _ _ _ _).2.2.2 (made4 w _ _ _ _).2.1 ⟨by omega, by omega, by omega⟩ (by omega) (by omega) (by omega), (made4 w _ _ _ _).1, Below4 w _ _ _ _⟩
          | exact ⟨_, _, _, rfl, ME.made (HG.out).1 (HG.out).2 (made4 w _ _ _ _).2.2.2 (made4 w _ _ _ _).2.1 (made4 w _ _ _ _).2.2.1 ⟨by omega, by omega, by omega⟩ (by omega) (by omega) (by omega), (made4 w _ _ _ _).1, Below4 w _ _ _ _⟩
          | exact ⟨_, _, _, rfl, ME.made (HG.out).1 (HG.out).2 (made4 w _ _ _ _).2.2.2 (made4 w _ _ _ _).2.2.1 (made4 w _ _ _ _).2.1 ⟨by omega, by omega, by omega⟩ (by omega) (by omega) (by omega), (made4 w _ _ _ _).1, Below4 w _ _ _ _⟩
  case rest =>
    obtain ⟨be, g1, g2, rfl, HM, HR3, hb0⟩ := hcut
    clear m1 m2 HG
    go_wp2_with fail
    go_loopw [6] (fun i wr => ∃ k : Nat, k ≤ Ls.length ∧ i = .int .i64 k ∧ Hid (ME (w.heap.size + 1) wr be g1 g2 n (inG (Ls.take k)) (outG (Ls.take k))) ∧ Hid (R3 wr w.heap.size) ∧ Below w.heap.size w wr) (fun i _ => Ls.length - (intOf i).toNat)
    case atStart => exact ⟨0, Nat.zero_le _, rfl, HM, HR3, hb0⟩
    case round =>
      clear HM HR3 hb0
      obtain ⟨k, hk, rfl, HM, HR3, hB⟩ := hrel
      by_cases hlt : k < Ls.length
      · obtain ⟨b, o, r, rfl, hr, q1, q2, q3, hbl⟩ := (H.out).get hB (show k < (Ls.map raw).length by simpa using hlt)
        obtain ⟨c, hc, rfl⟩ := raw_get hr
        simp only [raw] at q1 q2 q3
        obtain ⟨hft, htn⟩ := Ok_get HO.out hc
        obtain ⟨l0, l1, l2, ge, n1, n2, n3, c0, c1, c2, ho, hi⟩ := HM.out
        have i1 := (hi c.f (by omega)).1
        have i2 := (hi c.f (by omega)).2
        have a1 := inG_tot (Ls.take k) c.f
        have a2 := tot_take Ls k
        have a3 := tot_mem Ls k c hc
        have z1 : (ba (inG (List.take k Ls) c.f)).size ≤ 1099511627776 := by rw [ba_size]; omega
        have z2 : (ba c.s).size ≤ 1099511627776 := by rw [ba_size]; omega
        have y1 : (k : Int) < (Ls.length : Int) := by omega
        have y2 : (c.f : Int) < (n : Int) + 1 := by omega
        have y3 : (0 : Int) ≤ (c.f : Int) := by omega
        have y4 : (0 : Int) ≤ (k : Int) := by omega
        have HC := hide hc
        clear hr hc ho hi a1 a2 a3
        go_wp2_with fail
        go_region
        all_goals go_wp2_with fail
        have M1 : ME (w.heap.size + 1) (wr.setCell ⟨g2, c.f, none⟩ (.string (ba (inG (List.take k Ls) c.f) ++ ba c.s))).drew be g1 g2 n (inG (Ls.take (k + 1))) (fun g => outG (Ls.take k) g || (decide (c.f ≤ g) && decide (g < c.f))) := by
          rw [ba_append]
          refine ((HM.out).setI c.f (by omega) _).drew.congr (fun g _ => ?_) (fun g _ => ?_)
          · rw [take_snoc HC.out, inG_snoc]
            by_cases e : g = c.f
            · subst e; simp
            · rw [if_neg e, if_neg (fun h => e h.symm), List.append_nil]
          · have : (decide (c.f ≤ g) && decide (g < c.f)) = false := by simp
            rw [this, Bool.or_false]
        have B1 : Below w.heap.size w (wr.setCell ⟨g2, c.f, none⟩ (.string (ba (inG (List.take k Ls) c.f) ++ ba c.s))).drew := (hB.setCell (p := ⟨g2, c.f, none⟩) (by have := (HM.out).ge.2.2; show _ ≤ g2; omega) _).drew
        have R1 : R3 (wr.setCell ⟨g2, c.f, none⟩ (.string (ba (inG (List.take k Ls) c.f) ++ ba c.s))).drew w.heap.size := (Below.heap_setCell wr ⟨g2, c.f, none⟩ _ w.heap.size (by have := (HM.out).ge.2.2; show _ ≠ g2; omega)).trans HR3.out
        generalize (wr.setCell ⟨g2, c.f, none⟩ (.string (ba (inG (List.take k Ls) c.f) ++ ba c.s))).drew = W1 at M1 B1 R1 ⊢
        have HM1 := hide M1
        have HR1 := hide R1
        clear M1 R1 c0 c1 c2 i1 i2 q1 q2 q3
        go_loopw [7] (fun i wr => ∃ j : Nat, c.f ≤ j ∧ j ≤ c.t ∧ i = .int .i64 j ∧ Hid (R3 wr w.heap.size) ∧ Hid (ME (w.heap.size + 1) wr be g1 g2 n (inG (Ls.take (k + 1))) (fun g => outG (Ls.take k) g || (decide (c.f ≤ g) && decide (g < j)))) ∧ Below w.heap.size w wr) (fun i _ => c.t - (intOf i).toNat)
        case atStart => exact ⟨c.f, Nat.le_refl _, hft, rfl, HR1, HM1, B1⟩
        case round =>
          clear HM1 HR1 B1
          obtain ⟨j, hj1, hj2, rfl, HR2, HM2, hB2⟩ := hrel
          obtain ⟨_, _, r', e, hr', q1, q2, q3, _⟩ := (H.out).get hB2 (show k < (Ls.map raw).length by simpa using hlt)
          obtain ⟨c', hc', rfl⟩ := raw_get hr'
          cases e
          obtain rfl : c' = c := Option.some.inj (hc'.symm.trans HC.out)
          simp only [raw] at q1 q2 q3
          clear hr' hc'
          obtain ⟨_, _, _, _, _, _, _, c0, c1, c2, ho, _⟩ := HM2.out
          by_cases hjt : j < c'.t
          · have o1 := (ho j (by omega)).1
            have o2 := (ho j (by omega)).2
            have y5 : (j : Int) < (n : Int) := by omega
            have y6 : (j : Int) < (c'.t : Int) := by omega
            clear ho
            go_wp2_with fail
            refine ⟨⟨j + 1, by omega, by omega, by go_num, (Below.heap_setCell _ ⟨g1, j, none⟩ _ w.heap.size (by have := (HM.out).ge.2.1; show _ ≠ g1; omega)).trans HR2.out, ?_, hB2.setCell (p := ⟨g1, j, none⟩) (by have := (HM.out).ge.2.1; show _ ≤ g1; omega) _⟩, by simp [intOf]; omega⟩
            refine ((HM2.out).setO j (by omega)).congr (fun g _ => rfl) (fun g _ => ?_)
            by_cases e : g = j
            · subst e; simp [hj1]
            · rw [if_neg e]
              have : decide (g < j + 1) = decide (g < j) := by simp; omega
              rw [this]
          · have y6 : ¬ (j : Int) < (c'.t : Int) := by omega
            clear ho
            have hjj : j = c'.t := by omega
            go_wp2_with fail
            refine ⟨⟨k + 1, by omega, by go_num, ?_, HR2, hB2⟩, by simp [intOf]; omega⟩
            refine (HM2.out).congr (fun g _ => rfl) (fun g _ => ?_)
            rw [take_snoc HC.out, outG_snoc, hjj]
      · have hkl : k = Ls.length := by omega
        have HM3 := hide (show ME (w.heap.size + 1) wr be g1 g2 n (inG Ls) (outG Ls) by have := HM.out; rwa [hkl, List.take_of_length_le (Nat.le_refl _)] at this)
        obtain ⟨l0, l1, l2, ge, n1, n2, n3, c0, c1, c2, ho, hi⟩ := HM.out
        obtain ⟨r0, r1, r2, f0, f1, f2⟩ := (HR3.out).facts
        have nb : ¬ be = w.heap.size := by omega
        have nb' : ¬ w.heap.size = be := by omega
        clear ho hi hkl
        go_wp2_with fail
        have hX := set3_at HR3.out (.int .i64 n) (.slice (some ⟨g1, 0, none⟩) n n) (.slice (some ⟨g2, 0, none⟩) (n + 1) (n + 1))
        have hK := set3_kp (Kp.refl (fun k => k = w.heap.size) wr) w.heap.size (.int .i64 n) (.slice (some ⟨g1, 0, none⟩) n n) (.slice (some ⟨g2, 0, none⟩) (n + 1) (n + 1)) (fun _ => rfl)
        have hY := set3_below hB w.heap.size (Nat.le_refl _) (.int .i64 n) (.slice (some ⟨g1, 0, none⟩) n n) (.slice (some ⟨g2, 0, none⟩) (n + 1) (n + 1))
        have hE := ((HM3.out).kp hK (by omega) (by omega) (by omega)).isE
        change bodyPost _ _ _ _ _ (set3 wr w.heap.size (.int .i64 n) (.slice (some ⟨g1, 0, none⟩) n n) (.slice (some ⟨g2, 0, none⟩) (n + 1) (n + 1)))
        clear r0 r1 r2 f0 f1 f2 c0 c1 c2 HR3 HM HM3
        generalize set3 wr w.heap.size (.int .i64 n) (.slice (some ⟨g1, 0, none⟩) n n) (.slice (some ⟨g2, 0, none⟩) (n + 1) (n + 1)) = X at hX hK hY hE ⊢
        have x0 : X.cell? ⟨w.heap.size, 0, none⟩ = some (.int .i64 n) := by rw [Lib.cell_of_heap hX]; rfl
        have x1 : X.cell? ⟨w.heap.size, 1, none⟩ = some (.slice (some ⟨g1, 0, none⟩) n n) := by rw [Lib.cell_of_heap hX]; rfl
        have x2 : X.cell? ⟨w.heap.size, 2, none⟩ = some (.slice (some ⟨g2, 0, none⟩) (n + 1) (n + 1)) := by rw [Lib.cell_of_heap hX]; rfl
        exact bodyPost_ret (v := .agg #[.int .i64 n, .slice (some ⟨g1, 0, none⟩) n n, .slice (some ⟨g2, 0, none⟩) (n + 1) (n + 1)]) (by simp [results, Tryd.results14, go_sem, x0, x1, x2]) rfl ⟨_, rfl, hE, hY⟩
end Go.Proofs.YtobdfddpiobhhaaDoor
