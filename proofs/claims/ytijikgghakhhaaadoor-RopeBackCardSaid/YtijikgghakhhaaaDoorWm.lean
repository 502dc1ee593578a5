/- What lineEnd, lineBegin and Place tell. -/
import Derived.Test.YtijikgghakhhaaaDoorWl
namespace Go.Proofs.YtijikgghakhhaaaDoor
open Go.RowKit
open M

set_option maxHeartbeats 400000 in
theorem fits61 (q : Nat) (x : Int) (w : World) (hq : q < w.heap.size) (hc : w.cell? ⟨q, 0, none⟩ = some (.int .i64 x)) : Fits 61 #[.pointer (some ⟨q, 0, none⟩)] (fun _ b _ _ => decide ((b : Int) ≤ x)) w := by
  refine ⟨enters_of Tryd.func61 (by kernel_rfl) rfl, fun a b c d W hb _ _ _ _ => ?_⟩
  show Calls Tryd.prog 61 #[.agg #[.int .i64 a, .int .i64 b, .int .i64 c, .int .i64 d], .pointer (some ⟨q, 0, none⟩)] W _
  have h1 := kcb hb hq hc
  have h2 : q < W.heap.size := by have := hb.size; omega
  clear hc hb
  go_enter Tryd.func61, Tryd.ntmps61
  go_wp2
  go_ret
  exact ⟨rfl, (Below.refl _ _).alloc (Nat.le_refl _) _⟩

set_option maxHeartbeats 400000 in
theorem fits31 (q : Nat) (x : Int) (w : World) (hq : q < w.heap.size) (hc : w.cell? ⟨q, 0, none⟩ = some (.int .i64 x)) : Fits 31 #[.pointer (some ⟨q, 0, none⟩)] (fun a _ _ _ => decide ((a : Int) ≤ x)) w := by
  refine ⟨enters_of Tryd.func31 (by kernel_rfl) rfl, fun a b c d W hb _ _ _ _ => ?_⟩
  show Calls Tryd.prog 31 #[.agg #[.int .i64 a, .int .i64 b, .int .i64 c, .int .i64 d], .pointer (some ⟨q, 0, none⟩)] W _
  have h1 := kcb hb hq hc
  have h2 : q < W.heap.size := by have := hb.size; omega
  clear hc hb
  go_enter Tryd.func31, Tryd.ntmps31
  go_wp2
  go_ret
  exact ⟨rfl, (Below.refl _ _).alloc (Nat.le_refl _) _⟩

theorem cell_new1 (w : World) (v : Value) (t : TypeId) (o : Obj) : ((w.alloc (.cells #[v] t)).alloc o).cell? ⟨w.heap.size, 0, none⟩ = some v := by
  have h : ((w.alloc (.cells #[v] t)).alloc o).heap[w.heap.size]? = some (.cells #[v] t) :=
    (Below.heap_alloc _ _ _ (by simp)).trans (World.heap_alloc_new' w _)
  simp [World.cell?, h]

/-- Where a line ends. -/
def LE (l : List UInt8) (x : Int) (k : Nat) : Prop := Found l (fun _ b _ _ => decide ((b : Int) ≤ x)) k

set_option maxHeartbeats 1000000 in
theorem lineEnd_any (r : Nat) (l : List UInt8) (x : Int) (w : World) (hT : Tabs w) (kr : IsR w r l) (hs : l.length ≤ 1125899906842624) :
    Calls Tryd.prog 49 #[.pointer (some ⟨r, 0, none⟩), .int .i64 x] w fun e w' => ∃ k, LE l x k ∧
      e = .returned (.agg #[.int .i64 k, .int .i64 (nb (l.take k)), .int .i64 (nr (l.take k)), .int .i64 (nu (l.take k))]) ∧ Below w.heap.size w w' := by
  obtain ⟨v, hc, t, hr⟩ := kr.cell
  have Ht := hide t
  clear t kr
  go_enter Tryd.func49, Tryd.ntmps49
  go_wp2_with fail
  have HB : Below w.heap.size w ((w.alloc (Obj.cells #[Value.int IntKind.i64 x] 3)).alloc (Obj.cells #[Value.int IntKind.i64 0, Value.int IntKind.i64 0, Value.int IntKind.i64 0, Value.int IntKind.i64 0] 51)) := ((Below.refl _ w).alloc (Nat.le_refl _) _).alloc (by simp) _
  have hF := fits61 w.heap.size x ((w.alloc (Obj.cells #[Value.int IntKind.i64 x] 3)).alloc (Obj.cells #[Value.int IntKind.i64 0, Value.int IntKind.i64 0, Value.int IntKind.i64 0, Value.int IntKind.i64 0] 51)) (by simp; omega) (cell_new1 w _ 3 _)
  have k4 := Blk4.new (w.alloc (Obj.cells #[Value.int IntKind.i64 x] 3)) (.int .i64 0) (.int .i64 0) (.int .i64 0) (.int .i64 0)
  rw [World.size_alloc] at k4
  refine (seek_any v l 61 _ _ _ (hT.below HB) hF ((Ht.out).below HB) hs).mono ?_
  rintro e w1 ⟨k, hk, rfl, hb1⟩
  have Hk := hide hk
  have k5 := k4.below hb1 (by simp)
  obtain ⟨⟨c0, c1, c2, c3⟩, f0, f1, f2, f3⟩ := k5.facts
  have hz := hb1.size
  simp only [World.size_alloc] at hz
  clear hk k4 k5 hF
  go_wp2_with fail
  refine bodyPost_ret (v := .agg #[.int .i64 k, .int .i64 (nb (l.take k)), .int .i64 (nr (l.take k)), .int .i64 (nu (l.take k))]) (by simp [results, Tryd.results49, go_sem, c0, c1, c2, c3]) rfl ⟨k, Hk.out, rfl, ?_⟩
  exact below_set4 (HB.trans (hb1.mono HB.size)) (by omega) _ _ _ _

/-- Where a line begins. -/
def LB (l : List UInt8) (x : Nat) (k : Nat) : Prop := (x = 0 ∧ k = 0) ∨ (0 < x ∧ ∃ j, LE l ((x - 1 : Nat) : Int) j ∧ k = j + 1)

/-- Behind a line's end that is not the text's stands a byte 10. -/
theorem LE.ten {l : List UInt8} {x k : Nat} (h : LE l x k) (hx : k < l.length) : nb (l.take k) = x ∧ sz (l.drop k) = 1 ∧ ch (l.drop k) = 10 := by
  have hn := h.no hx
  have ht := take_next h.bd hx
  have hne : l.drop k ≠ [] := by intro e; have := congrArg List.length e; simp at this; omega
  have hy : nb (l.take k) ≤ x := by
    by_cases h0 : 0 < k
    · have := h.yes h0; simp at this; omega
    · have : k = 0 := by omega
      subst this; simp [nb]
  simp only [decide_eq_false_iff_not] at hn
  rw [ht.1] at hn
  have hb := br_le (ch (l.drop k))
  have hb1 : br (ch (l.drop k)) = 1 := by omega
  have hc : ch (l.drop k) = 10 := by
    unfold br at hb1
    by_cases h : ch (l.drop k) = 10
    · exact h
    · rw [if_neg h] at hb1; omega
  exact ⟨by omega, sz_ascii hne (by have := (ch_ten hne).1 hc; omega), hc⟩

theorem LE.lt {l : List UInt8} {x k : Nat} (h : LE l x k) (hx : x < nb l) : k < l.length := by
  by_cases hk : k < l.length
  · exact hk
  · exfalso
    have hkl : k = l.length := by have := h.le; omega
    by_cases h0 : 0 < k
    · have := h.yes h0
      rw [hkl, List.take_of_length_le (Nat.le_refl _)] at this
      simp at this; omega
    · have : l = [] := List.eq_nil_of_length_eq_zero (by omega)
      rw [this] at hx; simp [nb] at hx

theorem LB.facts {l : List UInt8} {x k : Nat} (h : LB l x k) (hx : x ≤ nb l) : k ≤ l.length ∧ Bd l k ∧ nb (l.take k) = x := by
  rcases h with ⟨rfl, rfl⟩ | ⟨h0, j, hj, rfl⟩
  · exact ⟨Nat.zero_le _, bd_zero _, by simp [nb]⟩
  · have hlt := hj.lt (by omega)
    obtain ⟨h1, h2, h3⟩ := hj.ten hlt
    have h4 := bd_next hj.bd
    have h5 := take_next hj.bd hlt
    rw [h2] at h4 h5
    refine ⟨by omega, h4, ?_⟩
    rw [h5.1, h1, h3]
    show x - 1 + 1 = x
    omega

set_option maxHeartbeats 1000000 in
theorem lineBegin_any (r : Nat) (l : List UInt8) (x : Nat) (w : World) (hT : Tabs w) (kr : IsR w r l) (hs : l.length ≤ 1125899906842624) (hx : x ≤ nb l) :
    Calls Tryd.prog 32 #[.pointer (some ⟨r, 0, none⟩), .int .i64 x] w fun e w' => ∃ k, LB l x k ∧
      e = .returned (.agg #[.int .i64 k, .int .i64 (nb (l.take k)), .int .i64 (nr (l.take k)), .int .i64 (nu (l.take k))]) ∧ Below w.heap.size w w' := by
  by_cases h0 : x = 0
  · subst h0
    clear kr hx
    go_enter Tryd.func32, Tryd.ntmps32
    go_wp2_with fail
    exact bodyPost_ret (v := .agg #[.int .i64 0, .int .i64 0, .int .i64 0, .int .i64 0]) (by simp [results, Tryd.results32, go_sem]) rfl ⟨0, Or.inl ⟨rfl, rfl⟩, rfl, (Below.refl _ _).alloc (Nat.le_refl _) _⟩
  · have hxl := nb_le l
    have z0 : ((x : Int) == 0) = false := by rw [beq_eq_false_iff_ne]; omega
    have z1 : (x : Int) ≤ 1125899906842624 := by omega
    have Hk := hide kr
    clear kr
    go_enter Tryd.func32, Tryd.ntmps32
    go_wp2_with fail
    rw [show (x : Int) - 1 = ((x - 1 : Nat) : Int) from by omega]
    have HB : Below w.heap.size w (w.alloc (Obj.cells #[Value.int IntKind.i64 0, Value.int IntKind.i64 0, Value.int IntKind.i64 0, Value.int IntKind.i64 0] 51)) := (Below.refl _ w).alloc (Nat.le_refl _) _
    refine (lineEnd_any r l ((x - 1 : Nat) : Int) _ (hT.below HB) ((Hk.out).below HB) hs).mono ?_
    rintro e w1 ⟨j, hj, rfl, hb1⟩
    have k1 := (Blk4.new w _ _ _ _).below hb1 (by simp)
    have hz := hb1.size
    simp only [World.size_alloc] at hz
    have hlt := hj.lt (by omega)
    obtain ⟨t1, t2, t3⟩ := hj.ten hlt
    have t4 := take_next hj.bd hlt
    rw [t2, t3] at t4
    have p1 := nb_le (l.take j); have p2 := nr_le (l.take j); have p3 := nu_le (l.take j)
    rw [List.length_take] at p1 p2 p3
    obtain ⟨b, eb⟩ : ∃ b, nb (l.take j) = b := ⟨_, rfl⟩
    obtain ⟨c, ec⟩ : ∃ b, nr (l.take j) = b := ⟨_, rfl⟩
    obtain ⟨d, ed⟩ : ∃ b, nu (l.take j) = b := ⟨_, rfl⟩
    rw [eb] at p1 t4; rw [ec] at p2 t4; rw [ed] at p3 t4
    rw [eb, ec, ed]
    have b1 : j ≤ 4503599627370496 := by omega
    have b2 : b ≤ 4503599627370496 := by omega
    have b3 : c ≤ 4503599627370496 := by omega
    have b4 : d ≤ 4503599627370496 := by omega
    have Hj := hide (And.intro hj t4)
    clear hj t4 t1 t2 t3 eb ec ed p1 p2 p3
    go_wp2_with fail
    refine (lineBreak_any _).mono ?_
    rintro e w2 ⟨rfl, hb2⟩
    have k2 := k1.below hb2 (by omega)
    go_wp2_with fail
    refine (plus_any j b c d 1 1 1 1 _ b1 b2 b3 b4 (by omega) (by omega) (by omega) (by omega)).mono ?_
    rintro e w3 ⟨rfl, hb3⟩
    have k3 := k2.below hb3 (by have := hb2.size; omega)
    obtain ⟨⟨c0, c1, c2, c3⟩, f0, f1, f2, f3⟩ := k3.facts
    have hz2 := hb2.size
    go_wp2_with fail
    obtain ⟨hj, t4⟩ := Hj.out
    refine bodyPost_ret (v := .agg #[.int .i64 (j + 1), .int .i64 (b + 1), .int .i64 (c + 1), .int .i64 (d + 1)]) (by simp [results, Tryd.results32, go_sem, c0, c1, c2, c3]) rfl ⟨j + 1, Or.inr ⟨by omega, j, hj, rfl⟩, ?_, ?_⟩
    · rw [t4.1, t4.2.1, t4.2.2]
      rfl
    · exact below_set4 (((HB.trans (hb1.mono HB.size)).trans (hb2.mono (by omega))).trans (hb3.mono (by omega))) (Nat.le_refl _) _ _ _ _

/-- A block of three cells: a place in memory. -/
def Blk3 (w : World) (b : Nat) (x0 x1 x2 : Value) : Prop := w.heap[b]? = some (.cells #[x0, x1, x2] 34 (0, 0))
theorem Blk3.new (w : World) (x0 x1 x2 : Value) : Blk3 (w.alloc (.cells #[x0, x1, x2] 34)) w.heap.size x0 x1 x2 := World.heap_alloc_new' w _
theorem Blk3.below {w w' : World} {b B : Nat} {x0 x1 x2 : Value} (h : Blk3 w b x0 x1 x2) (hb : Below B w w') (hB : b < B) : Blk3 w' b x0 x1 x2 := (hb.block b hB).trans h
theorem Blk3.facts {w : World} {b : Nat} {x0 x1 x2 : Value} (h : Blk3 w b x0 x1 x2) :
    (w.cell? ⟨b, 0, none⟩ = some x0 ∧ w.cell? ⟨b, 1, none⟩ = some x1 ∧ w.cell? ⟨b, 2, none⟩ = some x2) ∧
    (w.frozen? ⟨b, 0, none⟩ = false ∧ w.frozen? ⟨b, 1, none⟩ = false ∧ w.frozen? ⟨b, 2, none⟩ = false) := by
  unfold Blk3 at h
  refine ⟨⟨?_, ?_, ?_⟩, ?_, ?_, ?_⟩ <;> simp [World.cell?, World.frozen?, h]

set_option maxHeartbeats 1000000 in
theorem place_any (r : Nat) (l : List UInt8) (x : Int) (w : World) (hT : Tabs w) (kr : IsR w r l) (hs : l.length ≤ 1125899906842624) :
    Calls Tryd.prog 13 #[.pointer (some ⟨r, 0, none⟩), .int .i64 x] w fun e w' => ∃ k b, Found l (fun a _ _ _ => decide ((a : Int) ≤ x)) k ∧ LB l (nb (l.take k)) b ∧
      e = .returned (.agg #[.int .i64 (nb (l.take k)), .int .i64 ((nr (l.take k) : Int) - (nr (l.take b) : Int)), .int .i64 ((nu (l.take k) : Int) - (nu (l.take b) : Int))]) ∧ Below w.heap.size w w' := by
  obtain ⟨v, hc, t, hr⟩ := kr.cell
  have Ht := hide (And.intro t kr)
  clear t kr
  go_enter Tryd.func13, Tryd.ntmps13
  go_wp2_with fail
  have HB : Below w.heap.size w ((w.alloc (Obj.cells #[Value.int IntKind.i64 x] 3)).alloc (Obj.cells #[Value.int IntKind.i64 0, Value.int IntKind.i64 0, Value.int IntKind.i64 0] 34)) := ((Below.refl _ w).alloc (Nat.le_refl _) _).alloc (by simp) _
  have hF := fits31 w.heap.size x ((w.alloc (Obj.cells #[Value.int IntKind.i64 x] 3)).alloc (Obj.cells #[Value.int IntKind.i64 0, Value.int IntKind.i64 0, Value.int IntKind.i64 0] 34)) (by simp; omega) (cell_new1 w _ 3 _)
  have k3 := Blk3.new (w.alloc (Obj.cells #[Value.int IntKind.i64 x] 3)) (.int .i64 0) (.int .i64 0) (.int .i64 0)
  rw [World.size_alloc] at k3
  refine (seek_any v l 31 _ _ _ (hT.below HB) hF ((Ht.out).1.below HB) hs).mono ?_
  rintro e w1 ⟨k, hk, rfl, hb1⟩
  have B1 : Below w.heap.size w w1 := HB.trans (hb1.mono HB.size)
  have k4 := k3.below hb1 (by simp)
  have hz := hb1.size
  simp only [World.size_alloc] at hz
  have hz1 : w.heap.size + 1 < w1.heap.size := by omega
  have hkl := hk.le
  have Hk := hide hk
  clear k3 hk hF
  have hbm : nb (l.take k) ≤ nb l := by
    have := nb_append (l.take k) (l.drop k)
    rw [List.take_append_drop] at this; omega
  have p0 := nb_le l
  have p1 := nb_le (l.take k); have p2 := nr_le (l.take k); have p3 := nu_le (l.take k)
  rw [List.length_take] at p1 p2 p3
  obtain ⟨b, eb⟩ : ∃ b, nb (l.take k) = b := ⟨_, rfl⟩
  obtain ⟨c, ec⟩ : ∃ b, nr (l.take k) = b := ⟨_, rfl⟩
  obtain ⟨d, ed⟩ : ∃ b, nu (l.take k) = b := ⟨_, rfl⟩
  rw [eb] at p1 hbm; rw [ec] at p2; rw [ed] at p3
  rw [eb, ec, ed]
  have He := hide (And.intro eb (And.intro ec ed))
  clear eb ec ed
  go_wp2_with fail
  have B1' : Below w.heap.size w (w1.alloc (Obj.cells #[Value.int IntKind.i64 k, Value.int IntKind.i64 b, Value.int IntKind.i64 c, Value.int IntKind.i64 d] 51)) := B1.alloc B1.size _
  have k5 := Blk4.new w1 (.int .i64 k) (.int .i64 b) (.int .i64 c) (.int .i64 d)
  refine (lineBegin_any r l b _ (hT.below B1') ((Ht.out).2.below B1') hs hbm).mono ?_
  rintro e w2 ⟨j, hj, rfl, hb2⟩
  have k6 := k5.below hb2 (by simp)
  have k7 := k4.below ((Below.refl _ w1).alloc (Nat.le_refl _) _ |>.trans (hb2.mono (by simp))) hz1
  have hz2 := hb2.size
  simp only [World.size_alloc] at hz2
  have hz2' : w1.heap.size < w2.heap.size := by omega
  have hz2'' : w.heap.size + 1 < w2.heap.size := by omega
  obtain ⟨⟨c0, c1, c2, c3⟩, _, _, _, _⟩ := k6.facts
  obtain ⟨⟨d0, d1, d2⟩, f0, f1, f2⟩ := k7.facts
  have hjf := hj.facts hbm
  have q1 := nb_le (l.take j); have q2 := nr_le (l.take j); have q3 := nu_le (l.take j)
  rw [List.length_take] at q1 q2 q3
  obtain ⟨b', eb'⟩ : ∃ b, nb (l.take j) = b := ⟨_, rfl⟩
  obtain ⟨c', ec'⟩ : ∃ b, nr (l.take j) = b := ⟨_, rfl⟩
  obtain ⟨d', ed'⟩ : ∃ b, nu (l.take j) = b := ⟨_, rfl⟩
  rw [eb'] at q1; rw [ec'] at q2; rw [ed'] at q3
  rw [eb', ec', ed']
  have He' := hide (And.intro eb' (And.intro ec' ed'))
  have Hj := hide hj
  have b1 : c ≤ 4503599627370496 := by omega
  have b2 : d ≤ 4503599627370496 := by omega
  have b3 : c' ≤ 4503599627370496 := by omega
  have b4 : d' ≤ 4503599627370496 := by omega
  clear eb' ec' ed' hj hjf k4 k5 k6 k7 p0 p1 p2 p3 q1 q2 q3
  have n1 : ¬ w.heap.size + 1 = w1.heap.size := by omega
  have n2 : ¬ w1.heap.size = w.heap.size + 1 := by omega
  go_wp2_with fail
  obtain ⟨eb, ec, ed⟩ := He.out
  obtain ⟨eb', ec', ed'⟩ := He'.out
  refine bodyPost_ret (v := .agg #[.int .i64 b, .int .i64 ((c : Int) - (c' : Int)), .int .i64 ((d : Int) - (d' : Int))]) (by simp [results, Tryd.results13, go_sem, d0, d1, d2, hz2'']) rfl ⟨k, j, Hk.out, ?_, ?_, ?_⟩
  · rw [eb]; exact Hj.out
  · rw [eb, ec, ed, ec', ed']
  · have B2 : Below w.heap.size w w2 := B1'.trans (hb2.mono B1'.size)
    go_grown
end Go.Proofs.YtijikgghakhhaaaDoor
