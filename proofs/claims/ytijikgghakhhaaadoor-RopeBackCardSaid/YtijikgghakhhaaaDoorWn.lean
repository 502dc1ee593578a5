/- What find, At and RuneAt tell. -/
import Derived.Test.YtijikgghakhhaaaDoorWm
namespace Go.Proofs.YtijikgghakhhaaaDoor
open Go.RowKit
open M

/-- A function that counts of a measure. -/
structure Cnt (g : Nat) (cnt : Nat → Nat → Nat → Nat → Nat) : Prop where
  enters : ∀ args w, (callFunc g args).run Tryd.prog w = .ok (.enter g args) w
  calls : ∀ (a b c d : Nat) (W : World), Calls Tryd.prog g #[.agg #[.int .i64 a, .int .i64 b, .int .i64 c, .int .i64 d]] W fun e w' => e = .returned (.int .i64 (cnt a b c d)) ∧ Below W.heap.size W w'

set_option maxHeartbeats 400000 in
theorem cnt35 : Cnt 35 (fun _ _ _ d => d) := by
  refine ⟨enters_of Tryd.func35 (by kernel_rfl) rfl, fun a b c d W => ?_⟩
  go_enter Tryd.func35, Tryd.ntmps35
  go_wp2
  go_ret
  exact ⟨rfl, (Below.refl _ _).alloc (Nat.le_refl _) _⟩
set_option maxHeartbeats 400000 in
theorem cnt36 : Cnt 36 (fun _ _ c _ => c) := by
  refine ⟨enters_of Tryd.func36 (by kernel_rfl) rfl, fun a b c d W => ?_⟩
  go_enter Tryd.func36, Tryd.ntmps36
  go_wp2
  go_ret
  exact ⟨rfl, (Below.refl _ _).alloc (Nat.le_refl _) _⟩

theorem cell_newB (w : World) (v : Value) (t : TypeId) : (w.alloc (.cells #[v] t)).cell? ⟨w.heap.size, 0, none⟩ = some v := by
  show (match (w.alloc (.cells #[v] t)).heap[w.heap.size]? with | some (Obj.cells c _ _) => c[0]? | _ => none) = some v
  rw [World.heap_alloc_new' w (.cells #[v] t)]
  rfl
theorem Cnt.keep {g : Nat} {cnt : Nat → Nat → Nat → Nat → Nat} (h : Cnt g cnt) (wr : World) (a b c d : Nat) (W : World) (hX : Below wr.heap.size wr W) :
    Calls Tryd.prog g #[.agg #[.int .i64 a, .int .i64 b, .int .i64 c, .int .i64 d]] W fun e w' => e = .returned (.int .i64 (cnt a b c d)) ∧ Below wr.heap.size wr w' :=
  (h.calls a b c d W).mono fun _ _ ⟨he, hb⟩ => ⟨he, hX.trans (hb.mono hX.size)⟩
theorem keep9' {wr X : World} (hX : Below wr.heap.size wr X) {p a q : Nat} {v0 v1 v2 v3 v4 v5 v6 v7 v8 : Value} (lp : p < wr.heap.size) (la : a < wr.heap.size) (lq : q < wr.heap.size)
    (h0 : wr.cell? ⟨p, 0, none⟩ = some v0) (h1 : wr.cell? ⟨a, 0, none⟩ = some v1) (h2 : wr.cell? ⟨a, 1, none⟩ = some v2) (h3 : wr.cell? ⟨a, 2, none⟩ = some v3) (h4 : wr.cell? ⟨a, 3, none⟩ = some v4)
    (h5 : wr.cell? ⟨q, 0, none⟩ = some v5) (h6 : wr.cell? ⟨q, 1, none⟩ = some v6) (h7 : wr.cell? ⟨q, 2, none⟩ = some v7) (h8 : wr.cell? ⟨q, 3, none⟩ = some v8) :
    X.cell? ⟨p, 0, none⟩ = some v0 ∧ X.cell? ⟨a, 0, none⟩ = some v1 ∧ X.cell? ⟨a, 1, none⟩ = some v2 ∧ X.cell? ⟨a, 2, none⟩ = some v3 ∧ X.cell? ⟨a, 3, none⟩ = some v4 ∧ X.cell? ⟨q, 0, none⟩ = some v5 ∧ X.cell? ⟨q, 1, none⟩ = some v6 ∧ X.cell? ⟨q, 2, none⟩ = some v7 ∧ X.cell? ⟨q, 3, none⟩ = some v8 :=
  ⟨kcb hX lp h0, kcb hX la h1, kcb hX la h2, kcb hX la h3, kcb hX la h4, kcb hX lq h5, kcb hX lq h6, kcb hX lq h7, kcb hX lq h8⟩
theorem keep6 {wr X : World} (hX : Below wr.heap.size wr X) {p q a : Nat} {v0 v1 v2 v3 v4 v5 : Value} (lp : p < wr.heap.size) (lq : q < wr.heap.size) (la : a < wr.heap.size)
    (h0 : wr.cell? ⟨p, 0, none⟩ = some v0) (h1 : wr.cell? ⟨q, 0, none⟩ = some v1) (h2 : wr.cell? ⟨a, 0, none⟩ = some v2) (h3 : wr.cell? ⟨a, 1, none⟩ = some v3) (h4 : wr.cell? ⟨a, 2, none⟩ = some v4) (h5 : wr.cell? ⟨a, 3, none⟩ = some v5) :
    X.cell? ⟨p, 0, none⟩ = some v0 ∧ X.cell? ⟨q, 0, none⟩ = some v1 ∧ X.cell? ⟨a, 0, none⟩ = some v2 ∧ X.cell? ⟨a, 1, none⟩ = some v3 ∧ X.cell? ⟨a, 2, none⟩ = some v4 ∧ X.cell? ⟨a, 3, none⟩ = some v5 :=
  ⟨kcb hX lp h0, kcb hX lq h1, kcb hX la h2, kcb hX la h3, kcb hX la h4, kcb hX la h5⟩

set_option maxHeartbeats 1000000 in
theorem fits51 (g : Nat) (cnt : Nat → Nat → Nat → Nat → Nat) (hg : Cnt g cnt) (p q : Nat) (x : Int) (w : World) (hp : p < w.heap.size) (hq : q < w.heap.size)
    (hcp : w.cell? ⟨p, 0, none⟩ = some (.func (.func g) #[] #[])) (hcq : w.cell? ⟨q, 0, none⟩ = some (.int .i64 x)) :
    Fits 51 #[.pointer (some ⟨p, 0, none⟩), .pointer (some ⟨q, 0, none⟩)] (fun a b c d => decide ((cnt a b c d : Int) ≤ x)) w := by
  refine ⟨enters_of Tryd.func51 (by kernel_rfl) rfl, fun a b c d W0 hb _ _ _ _ => ?_⟩
  show Calls Tryd.prog 51 #[.agg #[.int .i64 a, .int .i64 b, .int .i64 c, .int .i64 d], .pointer (some ⟨p, 0, none⟩), .pointer (some ⟨q, 0, none⟩)] W0 _
  have eg := hg.enters
  have h1 := kcb hb hp hcp
  have h2 := kcb hb hq hcq
  have h3 : p < W0.heap.size := by have := hb.size; omega
  have h4 : q < W0.heap.size := by have := hb.size; omega
  clear hcp hcq hb
  go_enter Tryd.func51, Tryd.ntmps51
  go_wp2_with fail
  have k4 := Blk4.new W0 (.int .i64 a) (.int .i64 b) (.int .i64 c) (.int .i64 d)
  obtain ⟨W, hW⟩ : ∃ W, W0.alloc (Obj.cells #[Value.int IntKind.i64 a, Value.int IntKind.i64 b, Value.int IntKind.i64 c, Value.int IntKind.i64 d] 51) = W := ⟨_, rfl⟩
  have HB : Below W0.heap.size W0 W := by rw [← hW]; exact (Below.refl _ _).alloc (Nat.le_refl _) _
  have lw : W0.heap.size < W.heap.size := by rw [← hW]; simp
  rw [hW] at k4 ⊢
  obtain ⟨⟨c0, c1, c2, c3⟩, _, _, _, _⟩ := k4.facts
  have m1 := kcb HB h3 h1
  have m2 := kcb HB h4 h2
  have lp : p < W.heap.size := by omega
  have lq : q < W.heap.size := by omega
  have Hg := hide hg
  clear hW h1 h2 h3 h4 hg k4
  go_region_held3 (fun w' => w'.cell? ⟨p, 0, none⟩ = some (.func (.func g) #[] #[]) ∧ w'.cell? ⟨q, 0, none⟩ = some (.int .i64 x) ∧ w'.cell? ⟨W0.heap.size, 0, none⟩ = some (.int .i64 a) ∧ w'.cell? ⟨W0.heap.size, 1, none⟩ = some (.int .i64 b) ∧ w'.cell? ⟨W0.heap.size, 2, none⟩ = some (.int .i64 c) ∧ w'.cell? ⟨W0.heap.size, 3, none⟩ = some (.int .i64 d))
    (first | go_keep | (refine keep6 ?_ lp lq lw m1 m2 c0 c1 c2 c3; go_grown))
    ((go_at_fn g; refine ((Hg.out).calls a b c d _).mono ?_; rintro e wA ⟨rfl, hbA⟩; have hXA : Below W.heap.size W wA := (Below.refl _ W).drew.trans hbA))
  all_goals
    go_wp2_with fail
    go_ret
    exact ⟨rfl, HB.trans (hXA.mono HB.size)⟩

/-- What find tells of a line that is there. -/
def At' (l : List UInt8) (cnt : Nat → Nat → Nat → Nat → Nat) (line n z : Nat) : Prop :=
  ∃ b k, LB l line b ∧ LE l (line : Int) k ∧
    ((cnt k (nb (l.take k)) (nr (l.take k)) (nu (l.take k)) ≤ n + cnt b (nb (l.take b)) (nr (l.take b)) (nu (l.take b)) ∧ z = k) ∨
     (n + cnt b (nb (l.take b)) (nr (l.take b)) (nu (l.take b)) < cnt k (nb (l.take k)) (nr (l.take k)) (nu (l.take k)) ∧
       Found l (fun a' b' c' d' => decide ((cnt a' b' c' d' : Int) ≤ ((n + cnt b (nb (l.take b)) (nr (l.take b)) (nu (l.take b)) : Nat) : Int))) z))

set_option maxHeartbeats 400000 in
theorem find_neg (r : Nat) (line n : Int) (g : Nat) (w : World) (h : line < 0) :
    Calls Tryd.prog 34 #[.pointer (some ⟨r, 0, none⟩), .int .i64 line, .int .i64 n, .func (.func g) #[] #[]] w fun e w' => e = .returned (.int .i64 0) ∧ Below w.heap.size w w' := by
  go_enter Tryd.func34, Tryd.ntmps34
  go_wp2_with fail
  go_ret
  exact ⟨rfl, (Below.refl _ _).alloc (Nat.le_refl _) _⟩

set_option maxHeartbeats 400000 in
theorem find_out (r : Nat) (l : List UInt8) (line n : Int) (g : Nat) (w : World) (kr : IsR w r l) (hs : l.length ≤ 1125899906842624) (h0 : ¬ line < 0) (h : ((nb l + 1 : Nat) : Int) ≤ line) :
    Calls Tryd.prog 34 #[.pointer (some ⟨r, 0, none⟩), .int .i64 line, .int .i64 n, .func (.func g) #[] #[]] w fun e w' => e = .returned (.int .i64 l.length) ∧ Below w.heap.size w w' := by
  have Hk := hide kr
  clear kr
  go_enter Tryd.func34, Tryd.ntmps34
  go_wp2_with fail
  have HB : Below w.heap.size w (w.alloc (Obj.cells #[Value.func (Fn.func g) #[] #[]] 73)) := (Below.refl _ _).alloc (Nat.le_refl _) _
  refine (lines_any r l _ ((Hk.out).below HB) hs).mono ?_
  rintro e w1 ⟨rfl, hb1⟩
  have B1 : Below w.heap.size w w1 := HB.trans (hb1.mono HB.size)
  go_wp2_with fail
  refine (len_any r l _ ((Hk.out).below B1)).mono ?_
  rintro e w2 ⟨rfl, hb2⟩
  go_wp2_with fail
  go_ret
  exact ⟨rfl, B1.trans (hb2.mono B1.size)⟩

set_option maxHeartbeats 2000000 in
theorem find_in (r : Nat) (l : List UInt8) (line : Nat) (n : Int) (g : Nat) (cnt : Nat → Nat → Nat → Nat → Nat) (hg : Cnt g cnt) (hcnt : ∀ a b c d, cnt a b c d ≤ c + d) (w : World) (hT : Tabs w) (kr : IsR w r l) (hs : l.length ≤ 1125899906842624) (h : line ≤ nb l) :
    Calls Tryd.prog 34 #[.pointer (some ⟨r, 0, none⟩), .int .i64 line, .int .i64 n, .func (.func g) #[] #[]] w fun e w' => ∃ z, At' l cnt line (max n 0).toNat z ∧ e = .returned (.int .i64 z) ∧ Below w.heap.size w w' := by
  obtain ⟨v, hc, t, hr⟩ := kr.cell
  have Hk := hide (And.intro kr t)
  have eg := hg.enters
  have Hg := hide hg
  have hn := nb_le l
  have z0 : ¬ (line : Int) < 0 := by omega
  have z1 : ¬ ((nb l + 1 : Nat) : Int) ≤ (line : Int) := by omega
  have z2 : ¬ (nb l : Int) + 1 ≤ (line : Int) := by omega
  clear kr t hg
  obtain ⟨N, hN'⟩ : ∃ N, (max n 0).toNat = N := ⟨_, rfl⟩
  have hN : max n 0 = (N : Int) := by omega
  rw [hN']
  clear hN'
  go_enter Tryd.func34, Tryd.ntmps34
  go_wp2_with fail
  have HB : Below w.heap.size w (w.alloc (Obj.cells #[Value.func (Fn.func g) #[] #[]] 73)) := (Below.refl _ _).alloc (Nat.le_refl _) _
  have kf : (w.alloc (Obj.cells #[Value.func (Fn.func g) #[] #[]] 73)).cell? ⟨w.heap.size, 0, none⟩ = some (.func (.func g) #[] #[]) := cell_newB w _ 73
  refine (lines_any r l _ ((Hk.out).1.below HB) hs).mono ?_
  rintro e w1 ⟨rfl, hb1⟩
  have B1 : Below w.heap.size w w1 := HB.trans (hb1.mono HB.size)
  have kf1 := kcb hb1 (by simp) kf
  have hz1 := hb1.size
  simp only [World.size_alloc] at hz1
  clear kf
  go_wp2_with fail
  refine (lineBegin_any r l line w1 (hT.below B1) ((Hk.out).1.below B1) hs h).mono ?_
  rintro e w2 ⟨b, hb, rfl, hb2⟩
  have B2 : Below w.heap.size w w2 := B1.trans (hb2.mono B1.size)
  have kf2 := kcb hb2 (by omega) kf1
  have hz2 := hb2.size
  clear kf1
  go_wp2_with fail
  refine (lineEnd_any r l (line : Int) w2 (hT.below B2) ((Hk.out).1.below B2) hs).mono ?_
  rintro e w3 ⟨k, hk, rfl, hb3⟩
  have B3 : Below w.heap.size w w3 := B2.trans (hb3.mono B2.size)
  have kf3 := kcb hb3 (by omega) kf2
  have hz3 := hb3.size
  clear kf2
  have hbf := hb.facts h
  have hkl := hk.le
  have p1 := nb_le (l.take k); have p2 := nr_le (l.take k); have p3 := nu_le (l.take k)
  have q1 := nb_le (l.take b); have q2 := nr_le (l.take b); have q3 := nu_le (l.take b)
  rw [List.length_take] at p1 p2 p3 q1 q2 q3
  have Hb := hide (And.intro hb hk)
  clear hb hk
  obtain ⟨k2, e2⟩ : ∃ x, nb (l.take k) = x := ⟨_, rfl⟩
  obtain ⟨k3, e3⟩ : ∃ x, nr (l.take k) = x := ⟨_, rfl⟩
  obtain ⟨k4, e4⟩ : ∃ x, nu (l.take k) = x := ⟨_, rfl⟩
  obtain ⟨b2, f2⟩ : ∃ x, nb (l.take b) = x := ⟨_, rfl⟩
  obtain ⟨b3, f3⟩ : ∃ x, nr (l.take b) = x := ⟨_, rfl⟩
  obtain ⟨b4, f4⟩ : ∃ x, nu (l.take b) = x := ⟨_, rfl⟩
  rw [e2] at p1; rw [e3] at p2; rw [e4] at p3; rw [f2] at q1; rw [f3] at q2; rw [f4] at q3
  rw [e2, e3, e4, f2, f3, f4]
  have He := hide (And.intro e2 (And.intro e3 (And.intro e4 (And.intro f2 (And.intro f3 f4)))))
  clear e2 e3 e4 f2 f3 f4
  have hck := hcnt k k2 k3 k4
  have hcb := hcnt b b2 b3 b4
  obtain ⟨ck, eck⟩ : ∃ x, cnt k k2 k3 k4 = x := ⟨_, rfl⟩
  obtain ⟨cb, ecb⟩ : ∃ x, cnt b b2 b3 b4 = x := ⟨_, rfl⟩
  have bk : ck ≤ 9007199254740992 := by omega
  have bb : cb ≤ 9007199254740992 := by omega
  have Hc := hide (And.intro eck ecb)
  clear eck ecb hck hcb hbf p1 p2 p3 q1 q2 q3
  go_upto_region 7 with fail
  have K9 := Blk4.new (w3.alloc (Obj.cells #[Value.int IntKind.i64 b, Value.int IntKind.i64 b2, Value.int IntKind.i64 b3, Value.int IntKind.i64 b4] 51)) (.int .i64 k) (.int .i64 k2) (.int .i64 k3) (.int .i64 k4)
  have K8 := (Blk4.new w3 (.int .i64 b) (.int .i64 b2) (.int .i64 b3) (.int .i64 b4)).alloc (by simp) (Obj.cells #[Value.int IntKind.i64 k, Value.int IntKind.i64 k2, Value.int IntKind.i64 k3, Value.int IntKind.i64 k4] 51)
  rw [World.size_alloc] at K9
  obtain ⟨W, hW⟩ : ∃ W, (w3.alloc (Obj.cells #[Value.int IntKind.i64 b, Value.int IntKind.i64 b2, Value.int IntKind.i64 b3, Value.int IntKind.i64 b4] 51)).alloc (Obj.cells #[Value.int IntKind.i64 k, Value.int IntKind.i64 k2, Value.int IntKind.i64 k3, Value.int IntKind.i64 k4] 51) = W := ⟨_, rfl⟩
  have HW : Below w3.heap.size w3 W := by rw [← hW]; exact ((Below.refl _ _).alloc (Nat.le_refl _) _).alloc (by simp) _
  have lw : w3.heap.size + 1 < W.heap.size := by rw [← hW]; simp
  rw [hW] at K8 K9 ⊢
  have lw' : w3.heap.size < W.heap.size := by omega
  have lp : w.heap.size < W.heap.size := by omega
  have kfW := kcb HW (by omega) kf3
  have BW : Below w.heap.size w W := B3.trans (HW.mono B3.size)
  obtain ⟨⟨c0, c1, c2, c3⟩, _, _, _, _⟩ := K8.facts
  obtain ⟨⟨d0, d1, d2, d3⟩, _, _, _, _⟩ := K9.facts
  have bN : (0 : Int) ≤ (N : Int) := by omega
  clear hW kf3 K8 K9 HW
  have hwrap : IntKind.i64.wrap ((ck : Int) - (cb : Int)) = (ck : Int) - (cb : Int) := by rw [IntKind.wrap_i64]; omega
  by_cases hcase : (ck : Int) - (cb : Int) ≤ (N : Int)
  · go_region_held3 (fun w' => w'.cell? ⟨w.heap.size, 0, none⟩ = some (.func (.func g) #[] #[]) ∧ w'.cell? ⟨w3.heap.size, 0, none⟩ = some (.int .i64 b) ∧ w'.cell? ⟨w3.heap.size, 1, none⟩ = some (.int .i64 b2) ∧ w'.cell? ⟨w3.heap.size, 2, none⟩ = some (.int .i64 b3) ∧ w'.cell? ⟨w3.heap.size, 3, none⟩ = some (.int .i64 b4) ∧ w'.cell? ⟨w3.heap.size + 1, 0, none⟩ = some (.int .i64 k) ∧ w'.cell? ⟨w3.heap.size + 1, 1, none⟩ = some (.int .i64 k2) ∧ w'.cell? ⟨w3.heap.size + 1, 2, none⟩ = some (.int .i64 k3) ∧ w'.cell? ⟨w3.heap.size + 1, 3, none⟩ = some (.int .i64 k4))
      (first | go_keep | (refine keep9' ?_ lp lw' lw kfW c0 c1 c2 c3 d0 d1 d2 d3; go_grown))
      ((go_at_fn g; refine (Cnt.keep (Hg.out) W _ _ _ _ _ ?_).mono ?_; go_grown; rintro e wA ⟨rfl, hXA⟩; have hXz := hXA.size; (try rw [(Hc.out).1]); (try rw [(Hc.out).2])))
    all_goals
      have d0A := kcb hXA lw d0
      clear kfW c0 c1 c2 c3 d0 d1 d2 d3
      go_wp2_with fail
      go_ret
      obtain ⟨hb, hk⟩ := Hb.out
      obtain ⟨e2, e3, e4, f2, f3, f4⟩ := He.out
      obtain ⟨eck, ecb⟩ := Hc.out
      refine ⟨k, ⟨b, k, hb, hk, Or.inl ⟨?_, rfl⟩⟩, rfl, BW.trans (hXA.mono BW.size)⟩
      rw [e2, e3, e4, f2, f3, f4, eck, ecb]
      omega
  · have hd : decide ((ck : Int) - (cb : Int) ≤ (N : Int)) = false := by simp; omega
    go_region_held3 (fun w' => w'.cell? ⟨w.heap.size, 0, none⟩ = some (.func (.func g) #[] #[]) ∧ w'.cell? ⟨w3.heap.size, 0, none⟩ = some (.int .i64 b) ∧ w'.cell? ⟨w3.heap.size, 1, none⟩ = some (.int .i64 b2) ∧ w'.cell? ⟨w3.heap.size, 2, none⟩ = some (.int .i64 b3) ∧ w'.cell? ⟨w3.heap.size, 3, none⟩ = some (.int .i64 b4) ∧ w'.cell? ⟨w3.heap.size + 1, 0, none⟩ = some (.int .i64 k) ∧ w'.cell? ⟨w3.heap.size + 1, 1, none⟩ = some (.int .i64 k2) ∧ w'.cell? ⟨w3.heap.size + 1, 2, none⟩ = some (.int .i64 k3) ∧ w'.cell? ⟨w3.heap.size + 1, 3, none⟩ = some (.int .i64 k4))
      (first | go_keep | (refine keep9' ?_ lp lw' lw kfW c0 c1 c2 c3 d0 d1 d2 d3; go_grown))
      ((go_at_fn g; refine (Cnt.keep (Hg.out) W _ _ _ _ _ ?_).mono ?_; go_grown; rintro e wA ⟨rfl, hXA⟩; have hXz := hXA.size; (try rw [(Hc.out).1]); (try rw [(Hc.out).2])))
    all_goals
      have lwA : w3.heap.size < wA.heap.size := by omega
      have lpA : w.heap.size < wA.heap.size := by omega
      have d0A := kcb hXA lw' c0
      have d1A := kcb hXA lw' c1
      have d2A := kcb hXA lw' c2
      have d3A := kcb hXA lw' c3
      have kfA := kcb hXA lp kfW
      have BA : Below w.heap.size w wA := BW.trans (hXA.mono BW.size)
      clear kfW c0 c1 c2 c3 d0 d1 d2 d3
      go_wp2_with fail
      refine ((Hg.out).calls b b2 b3 b4 wA).mono ?_
      rintro e wB ⟨rfl, hbB⟩
      rw [(Hc.out).2]
      have BB : Below w.heap.size w wB := BA.trans (hbB.mono BA.size)
      have kfB := kcb hbB lpA kfA
      have hcB := kcb BB hr hc
      have hzB := hbB.size
      have lrB : r < wB.heap.size := by omega
      have lpB : w.heap.size < wB.heap.size := by omega
      clear kfA d0A d1A d2A d3A hc
      go_wp2_with fail
      have BC : Below w.heap.size w (wB.alloc (Obj.cells #[Value.int IntKind.i64 (↑cb + ↑N)] 3)) := BB.alloc BB.size _
      have BD : Below wB.heap.size wB (wB.alloc (Obj.cells #[Value.int IntKind.i64 (↑cb + ↑N)] 3)) := (Below.refl _ _).alloc (Nat.le_refl _) _
      have hF := fits51 g cnt Hg.out w.heap.size wB.heap.size ((cb : Int) + (N : Int)) (wB.alloc (Obj.cells #[Value.int IntKind.i64 (↑cb + ↑N)] 3)) (by simp; omega) (by simp) (kcb BD lpB kfB) (cell_newB wB _ 3)
      refine (seek_any v l 51 _ _ _ (hT.below BC) hF ((Hk.out).2.below BC) hs).mono ?_
      rintro e wD ⟨z, hz, rfl, hbD⟩
      have Hz := hide hz
      have hfl := field0
      clear hz hF kfB hcB
      go_wp2_with fail
      go_ret
      obtain ⟨hb, hk⟩ := Hb.out
      obtain ⟨e2, e3, e4, f2, f3, f4⟩ := He.out
      obtain ⟨eck, ecb⟩ := Hc.out
      have hz := Hz.out
      refine ⟨z, ⟨b, k, hb, hk, Or.inr ⟨?_, ?_⟩⟩, rfl, BC.trans (hbD.mono BC.size)⟩
      · rw [e2, e3, e4, f2, f3, f4, eck, ecb]
        omega
      · rw [f2, f3, f4, ecb, show ((N + cb : Nat) : Int) = (cb : Int) + (N : Int) from by omega]
        exact hz

/-- What At and RuneAt answer. -/
def Tell (l : List UInt8) (cnt : Nat → Nat → Nat → Nat → Nat) (line n : Int) (z : Nat) : Prop :=
  (line < 0 ∧ z = 0) ∨ (((nb l + 1 : Nat) : Int) ≤ line ∧ z = l.length) ∨ (0 ≤ line ∧ line.toNat ≤ nb l ∧ At' l cnt line.toNat (max n 0).toNat z)

theorem find_any (r : Nat) (l : List UInt8) (line n : Int) (g : Nat) (cnt : Nat → Nat → Nat → Nat → Nat) (hg : Cnt g cnt) (hcnt : ∀ a b c d, cnt a b c d ≤ c + d) (w : World) (hT : Tabs w) (kr : IsR w r l) (hs : l.length ≤ 1125899906842624) :
    Calls Tryd.prog 34 #[.pointer (some ⟨r, 0, none⟩), .int .i64 line, .int .i64 n, .func (.func g) #[] #[]] w fun e w' => ∃ z, Tell l cnt line n z ∧ e = .returned (.int .i64 z) ∧ Below w.heap.size w w' := by
  by_cases h0 : line < 0
  · refine (find_neg r line n g w h0).mono ?_
    rintro e w' ⟨rfl, hb⟩
    exact ⟨0, Or.inl ⟨h0, rfl⟩, rfl, hb⟩
  by_cases h1 : ((nb l + 1 : Nat) : Int) ≤ line
  · refine (find_out r l line n g w kr hs h0 h1).mono ?_
    rintro e w' ⟨rfl, hb⟩
    exact ⟨_, Or.inr (Or.inl ⟨h1, rfl⟩), rfl, hb⟩
  · obtain ⟨m, rfl⟩ := Int.eq_ofNat_of_zero_le (by omega : 0 ≤ line)
    refine (find_in r l m n g cnt hg hcnt w hT kr hs (by omega)).mono ?_
    rintro e w' ⟨z, hz, rfl, hb⟩
    exact ⟨z, Or.inr (Or.inr ⟨by omega, by omega, by rw [Int.toNat_natCast]; exact hz⟩), rfl, hb⟩

set_option maxHeartbeats 400000 in
theorem at_any (r : Nat) (l : List UInt8) (line n : Int) (w : World) (hT : Tabs w) (kr : IsR w r l) (hs : l.length ≤ 1125899906842624) :
    Calls Tryd.prog 15 #[.pointer (some ⟨r, 0, none⟩), .int .i64 line, .int .i64 n] w fun e w' => ∃ z, Tell l (fun _ _ _ d => d) line n z ∧ e = .returned (.int .i64 z) ∧ Below w.heap.size w w' := by
  have hc := hide (find_any r l line n 35 _ cnt35 (fun _ _ _ _ => by omega) w hT kr hs)
  clear kr
  go_enter Tryd.func15, Tryd.ntmps15
  go_wp2_with fail
  refine (hc.out).mono ?_
  rintro e w' ⟨z, hz, rfl, hb⟩
  have Hz := hide hz
  clear hz
  go_wp2_with fail
  go_ret
  exact ⟨z, Hz.out, rfl, hb⟩

set_option maxHeartbeats 400000 in
theorem runeAt_any (r : Nat) (l : List UInt8) (line n : Int) (w : World) (hT : Tabs w) (kr : IsR w r l) (hs : l.length ≤ 1125899906842624) :
    Calls Tryd.prog 16 #[.pointer (some ⟨r, 0, none⟩), .int .i64 line, .int .i64 n] w fun e w' => ∃ z, Tell l (fun _ _ c _ => c) line n z ∧ e = .returned (.int .i64 z) ∧ Below w.heap.size w w' := by
  have hc := hide (find_any r l line n 36 _ cnt36 (fun _ _ _ _ => by omega) w hT kr hs)
  clear kr
  go_enter Tryd.func16, Tryd.ntmps16
  go_wp2_with fail
  refine (hc.out).mono ?_
  rintro e w' ⟨z, hz, rfl, hb⟩
  have Hz := hide hz
  clear hz
  go_wp2_with fail
  go_ret
  exact ⟨z, Hz.out, rfl, hb⟩
end Go.Proofs.YtijikgghakhhaaaDoor
