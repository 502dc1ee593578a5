/- The document's writer of messages: Print. -/
import Derived.Test.YtcibflndpckkkaaDoorWkw
import Derived.Test.YtcibflndpckkkaaDoorWkl
namespace Go.Proofs.YtcibflndpckkkaaDoor
open Go.RowKit
open Wi

mutual
/-- How much a value weighs. -/
def wt : J → Nat
  | .mk _ _ t ks kids => 40 + t.length * 7 + (ks.map fun x => x.length * 7 + 10).sum + wts kids
def wts : List J → Nat
  | [] => 0
  | j :: r => wt j + wts r
end
theorem wts_len (l : List J) : l.length ≤ wts l := by
  induction l with
  | nil => simp [wts]
  | cons j r ih =>
    cases j
    simp only [wts, wt, List.length_cons]; omega
theorem sum_len (ks : List (List UInt8)) : ks.length ≤ (ks.map fun x => x.length * 7 + 10).sum := by
  induction ks with
  | nil => simp
  | cons a l ih => simp only [List.map_cons, List.sum_cons, List.length_cons]; omega
theorem wt_len (k n : Int) (t : List UInt8) (ks : List (List UInt8)) (kids : List J) : ks.length + kids.length ≤ wt (.mk k n t ks kids) := by
  have := wts_len kids
  have := sum_len ks
  simp only [wt]; omega
/-- What Print answers. -/
def prV (r : Except Nat (List UInt8)) : Value := match r with
  | .ok s => .tuple #[.string (ba s), .int .i64 0]
  | .error e => .tuple #[.string ⟨#[]⟩, .int .i64 e]
/-- What Print does with d levels left. -/
def PrC (d : Nat) : Prop := ∀ (w : World) (A : Nat → Prop) (v : Value) (j : J), IsJ w A v j → wt j ≤ 134217728 →
  Calls Tryd.prog 9 #[v, .int .i64 (40 - (d : Int))] w fun en w' => en = .returned (prV (pr d j)) ∧ Below w.heap.size w w'
theorem jcell_all {w : World} {N : Nat} {k n : Int} {t : List UInt8} {kv rv : Value} (h : w.heap[N]? = some (jcell k n t kv rv)) : w.cell? ⟨N, 0, none⟩ = some (.int .i64 k) ∧ w.cell? ⟨N, 1, none⟩ = some (.int .i64 n) ∧ w.cell? ⟨N, 2, none⟩ = some (.string (ba t)) ∧ w.cell? ⟨N, 3, none⟩ = some kv ∧ w.cell? ⟨N, 4, none⟩ = some rv := by
  unfold jcell at h
  refine ⟨?_, ?_, ?_, ?_, ?_⟩ <;> simp [World.cell?, h]

set_option maxRecDepth 100000 in
set_option maxHeartbeats 4000000 in
theorem wprint_far (d : Int) (w : World) (N : Nat) (k n : Int) (t : List UInt8) (ks : List (List UInt8)) (kids : List J) (ao bo : Option Addr) (cap bcap : Nat) (hb : w.heap[N]? = some (jcell k n t (.slice ao ks.length cap) (.slice bo kids.length bcap))) (hln : ks.length + kids.length ≤ 134217728) (hk : k < 0 ∨ 5 < k) :
    Calls Tryd.prog 9 #[.pointer (some ⟨N, 0, none⟩), .int .i64 d] w fun en w' => en = .returned (.tuple #[.string ⟨#[]⟩, .int .i64 3]) ∧ Below w.heap.size w w' := by
  obtain ⟨c0, c1, c2, c3, c4⟩ := jcell_all hb
  clear hb
  have e0 : (k == 0) = false := by simp; omega
  have e1 : (k == 1) = false := by simp; omega
  have e2 : (k == 2) = false := by simp; omega
  have e3 : (k == 3) = false := by simp; omega
  have e4 : (k == 4) = false := by simp; omega
  have e5 : (k == 5) = false := by simp; omega
  by_cases h : k < 0
  · have q1 : decide (k < 0) = true := decide_eq_true h
    clear h hk
    go_enter Tryd.func9, Tryd.ntmps9
    go_wp2_with fail
    go_quiet (fail)
    go_wp2_with fail
    go_ret2
    exact ⟨rfl, belowN (Below.refl _ w) _⟩
  · have q1 : decide (k < 0) = false := decide_eq_false h
    have q2 : decide (5 < k) = true := by simp; omega
    clear h hk
    go_enter Tryd.func9, Tryd.ntmps9
    go_wp2_with fail
    go_quiet (fail)
    go_wp2_with fail
    go_ret2
    exact ⟨rfl, belowN (Below.refl _ w) _⟩
set_option maxRecDepth 100000 in
set_option maxHeartbeats 4000000 in
theorem wprint_bad0 (d : Int) (w : World) (N : Nat) (k n : Int) (t : List UInt8) (ks : List (List UInt8)) (kids : List J) (ao bo : Option Addr) (cap bcap : Nat) (hb : w.heap[N]? = some (jcell k n t (.slice ao ks.length cap) (.slice bo kids.length bcap))) (hln : ks.length + kids.length ≤ 134217728) (hk : k = 0) (hbad : ownOk k n t ks kids.length = false) :
    Calls Tryd.prog 9 #[.pointer (some ⟨N, 0, none⟩), .int .i64 d] w fun en w' => en = .returned (.tuple #[.string ⟨#[]⟩, .int .i64 3]) ∧ Below w.heap.size w w' := by
  obtain ⟨c0, c1, c2, c3, c4⟩ := jcell_all hb
  clear hb
  subst hk
  have z1 : ((ba t).toList == []) = decide (t = []) := by
    rw [ByteArray.toList_eq]
    show (bs (ba t) == []) = _
    rw [bs_ba, Bool.eq_iff_iff]; simp
  have z2 : ((ba t).toList != []) = !decide (t = []) := by rw [bne, z1]
  have z3 : (n == 0) = decide (n = 0) := by rw [Bool.eq_iff_iff]; simp
  have z4 : (n != 0) = !decide (n = 0) := by rw [bne, z3]
  have z5 : decide ((0 : Int) < (ks.length : Int) + (kids.length : Int)) = !decide (ks.length + kids.length = 0) := by
    by_cases h : ks.length + kids.length = 0
    · rw [decide_eq_true h, decide_eq_false (by omega)]; rfl
    · rw [decide_eq_false h, decide_eq_true (by omega)]; rfl
  have z6 : decide ((0 : Int) < (ks.length : Int)) = !decide (ks.length = 0) := by
    by_cases h : ks.length = 0
    · rw [decide_eq_true h, decide_eq_false (by omega)]; rfl
    · rw [decide_eq_false h, decide_eq_true (by omega)]; rfl
  have z8 : decide (0 < ks.length) = !decide (ks.length = 0) := by
    by_cases h : ks.length = 0
    · rw [decide_eq_true h, decide_eq_false (by omega)]; rfl
    · rw [decide_eq_false h, decide_eq_true (by omega)]; rfl
  have z7 : ((ks.length : Int) != (kids.length : Int)) = !decide (ks.length = kids.length) := by
    by_cases h : ks.length = kids.length
    · rw [decide_eq_true h, h]; simp
    · rw [decide_eq_false h]; simp; omega
  have hc : (decide (n = 0) = false) ∨ (decide (n = 0) = true ∧ decide (t = []) = false) ∨ (decide (n = 0) = true ∧ decide (t = []) = true ∧ decide (ks.length + kids.length = 0) = false) := by
    revert hbad
    unfold ownOk
    simp only [decide_eq_true_eq, decide_eq_false_iff_not]
    intro hbad
    by_cases a1 : n = 0 <;> by_cases a2 : t = [] <;> by_cases a3 : ks.length + kids.length = 0 <;> simp_all
  clear hbad
  rcases hc with y0 | ⟨y0, y1⟩ | ⟨y0, y1, y2⟩
  · rw [y0] at z3 z4
    go_enter Tryd.func9, Tryd.ntmps9
    go_wp2_with fail
    go_quiet (fail)
    go_wp2_with fail
    go_ret2
    exact ⟨rfl, belowN (Below.refl _ w) _⟩
  · rw [y0] at z3 z4
    rw [y1] at z1 z2
    go_enter Tryd.func9, Tryd.ntmps9
    go_wp2_with fail
    go_quiet (fail)
    go_wp2_with fail
    go_ret2
    exact ⟨rfl, belowN (Below.refl _ w) _⟩
  · rw [y0] at z3 z4
    rw [y1] at z1 z2
    rw [y2] at z5
    go_enter Tryd.func9, Tryd.ntmps9
    go_wp2_with fail
    go_quiet (fail)
    go_wp2_with fail
    go_ret2
    exact ⟨rfl, belowN (Below.refl _ w) _⟩
set_option maxRecDepth 100000 in
set_option maxHeartbeats 4000000 in
theorem wprint_bad1 (d : Int) (w : World) (N : Nat) (k n : Int) (t : List UInt8) (ks : List (List UInt8)) (kids : List J) (ao bo : Option Addr) (cap bcap : Nat) (hb : w.heap[N]? = some (jcell k n t (.slice ao ks.length cap) (.slice bo kids.length bcap))) (hln : ks.length + kids.length ≤ 134217728) (hk : k = 1) (hbad : ownOk k n t ks kids.length = false) :
    Calls Tryd.prog 9 #[.pointer (some ⟨N, 0, none⟩), .int .i64 d] w fun en w' => en = .returned (.tuple #[.string ⟨#[]⟩, .int .i64 3]) ∧ Below w.heap.size w w' := by
  obtain ⟨c0, c1, c2, c3, c4⟩ := jcell_all hb
  clear hb
  subst hk
  have z1 : ((ba t).toList == []) = decide (t = []) := by
    rw [ByteArray.toList_eq]
    show (bs (ba t) == []) = _
    rw [bs_ba, Bool.eq_iff_iff]; simp
  have z2 : ((ba t).toList != []) = !decide (t = []) := by rw [bne, z1]
  have z3 : (n == 0) = decide (n = 0) := by rw [Bool.eq_iff_iff]; simp
  have z4 : (n != 0) = !decide (n = 0) := by rw [bne, z3]
  have z5 : decide ((0 : Int) < (ks.length : Int) + (kids.length : Int)) = !decide (ks.length + kids.length = 0) := by
    by_cases h : ks.length + kids.length = 0
    · rw [decide_eq_true h, decide_eq_false (by omega)]; rfl
    · rw [decide_eq_false h, decide_eq_true (by omega)]; rfl
  have z6 : decide ((0 : Int) < (ks.length : Int)) = !decide (ks.length = 0) := by
    by_cases h : ks.length = 0
    · rw [decide_eq_true h, decide_eq_false (by omega)]; rfl
    · rw [decide_eq_false h, decide_eq_true (by omega)]; rfl
  have z8 : decide (0 < ks.length) = !decide (ks.length = 0) := by
    by_cases h : ks.length = 0
    · rw [decide_eq_true h, decide_eq_false (by omega)]; rfl
    · rw [decide_eq_false h, decide_eq_true (by omega)]; rfl
  have z7 : ((ks.length : Int) != (kids.length : Int)) = !decide (ks.length = kids.length) := by
    by_cases h : ks.length = kids.length
    · rw [decide_eq_true h, h]; simp
    · rw [decide_eq_false h]; simp; omega
  have hc : (decide (n < 0) = true) ∨ (decide (n < 0) = false ∧ decide (1 < n) = true) ∨ (decide (n < 0) = false ∧ decide (1 < n) = false ∧ decide (t = []) = false) ∨ (decide (n < 0) = false ∧ decide (1 < n) = false ∧ decide (t = []) = true ∧ decide (ks.length + kids.length = 0) = false) := by
    revert hbad
    unfold ownOk
    simp only [decide_eq_true_eq, decide_eq_false_iff_not]
    intro hbad
    by_cases a1 : n = 0 <;> by_cases a2 : t = [] <;> by_cases a3 : ks.length + kids.length = 0 <;> by_cases a4 : n = 1 <;> simp_all <;> omega
  clear hbad
  rcases hc with y0 | ⟨y0, y1⟩ | ⟨y0, y1, y2⟩ | ⟨y0, y1, y2, y3⟩
  · go_enter Tryd.func9, Tryd.ntmps9
    go_wp2_with fail
    go_quiet (fail)
    go_wp2_with fail
    go_ret2
    exact ⟨rfl, belowN (Below.refl _ w) _⟩
  · go_enter Tryd.func9, Tryd.ntmps9
    go_wp2_with fail
    go_quiet (fail)
    go_wp2_with fail
    go_ret2
    exact ⟨rfl, belowN (Below.refl _ w) _⟩
  · rw [y2] at z1 z2
    go_enter Tryd.func9, Tryd.ntmps9
    go_wp2_with fail
    go_quiet (fail)
    go_wp2_with fail
    go_ret2
    exact ⟨rfl, belowN (Below.refl _ w) _⟩
  · rw [y2] at z1 z2
    rw [y3] at z5
    go_enter Tryd.func9, Tryd.ntmps9
    go_wp2_with fail
    go_quiet (fail)
    go_wp2_with fail
    go_ret2
    exact ⟨rfl, belowN (Below.refl _ w) _⟩
set_option maxRecDepth 100000 in
set_option maxHeartbeats 4000000 in
theorem wprint_bad2 (d : Int) (w : World) (N : Nat) (k n : Int) (t : List UInt8) (ks : List (List UInt8)) (kids : List J) (ao bo : Option Addr) (cap bcap : Nat) (hb : w.heap[N]? = some (jcell k n t (.slice ao ks.length cap) (.slice bo kids.length bcap))) (hln : ks.length + kids.length ≤ 134217728) (hk : k = 2) (hbad : ownOk k n t ks kids.length = false) :
    Calls Tryd.prog 9 #[.pointer (some ⟨N, 0, none⟩), .int .i64 d] w fun en w' => en = .returned (.tuple #[.string ⟨#[]⟩, .int .i64 3]) ∧ Below w.heap.size w w' := by
  obtain ⟨c0, c1, c2, c3, c4⟩ := jcell_all hb
  clear hb
  subst hk
  have z1 : ((ba t).toList == []) = decide (t = []) := by
    rw [ByteArray.toList_eq]
    show (bs (ba t) == []) = _
    rw [bs_ba, Bool.eq_iff_iff]; simp
  have z2 : ((ba t).toList != []) = !decide (t = []) := by rw [bne, z1]
  have z3 : (n == 0) = decide (n = 0) := by rw [Bool.eq_iff_iff]; simp
  have z4 : (n != 0) = !decide (n = 0) := by rw [bne, z3]
  have z5 : decide ((0 : Int) < (ks.length : Int) + (kids.length : Int)) = !decide (ks.length + kids.length = 0) := by
    by_cases h : ks.length + kids.length = 0
    · rw [decide_eq_true h, decide_eq_false (by omega)]; rfl
    · rw [decide_eq_false h, decide_eq_true (by omega)]; rfl
  have z6 : decide ((0 : Int) < (ks.length : Int)) = !decide (ks.length = 0) := by
    by_cases h : ks.length = 0
    · rw [decide_eq_true h, decide_eq_false (by omega)]; rfl
    · rw [decide_eq_false h, decide_eq_true (by omega)]; rfl
  have z8 : decide (0 < ks.length) = !decide (ks.length = 0) := by
    by_cases h : ks.length = 0
    · rw [decide_eq_true h, decide_eq_false (by omega)]; rfl
    · rw [decide_eq_false h, decide_eq_true (by omega)]; rfl
  have z7 : ((ks.length : Int) != (kids.length : Int)) = !decide (ks.length = kids.length) := by
    by_cases h : ks.length = kids.length
    · rw [decide_eq_true h, h]; simp
    · rw [decide_eq_false h]; simp; omega
  have hc : (decide (999999999999999999 < n) = true) ∨ (decide (999999999999999999 < n) = false ∧ decide (n < -999999999999999999) = true) ∨ (decide (999999999999999999 < n) = false ∧ decide (n < -999999999999999999) = false ∧ decide (t = []) = false) ∨ (decide (999999999999999999 < n) = false ∧ decide (n < -999999999999999999) = false ∧ decide (t = []) = true ∧ decide (ks.length + kids.length = 0) = false) := by
    revert hbad
    unfold ownOk
    simp only [decide_eq_true_eq, decide_eq_false_iff_not]
    intro hbad
    by_cases a1 : n ≤ 999999999999999999 <;> by_cases a4 : -999999999999999999 ≤ n <;> by_cases a2 : t = [] <;> by_cases a3 : ks.length + kids.length = 0 <;> simp_all <;> omega
  clear hbad
  rcases hc with y0 | ⟨y0, y1⟩ | ⟨y0, y1, y2⟩ | ⟨y0, y1, y2, y3⟩
  · go_enter Tryd.func9, Tryd.ntmps9
    go_wp2_with fail
    go_quiet (fail)
    go_wp2_with fail
    go_ret2
    exact ⟨rfl, belowN (Below.refl _ w) _⟩
  · go_enter Tryd.func9, Tryd.ntmps9
    go_wp2_with fail
    go_quiet (fail)
    go_wp2_with fail
    go_ret2
    exact ⟨rfl, belowN (Below.refl _ w) _⟩
  · rw [y2] at z1 z2
    go_enter Tryd.func9, Tryd.ntmps9
    go_wp2_with fail
    go_quiet (fail)
    go_wp2_with fail
    go_ret2
    exact ⟨rfl, belowN (Below.refl _ w) _⟩
  · rw [y2] at z1 z2
    rw [y3] at z5
    go_enter Tryd.func9, Tryd.ntmps9
    go_wp2_with fail
    go_quiet (fail)
    go_wp2_with fail
    go_ret2
    exact ⟨rfl, belowN (Below.refl _ w) _⟩
set_option maxRecDepth 100000 in
set_option maxHeartbeats 4000000 in
theorem wprint_bad3 (d : Int) (w : World) (N : Nat) (k n : Int) (t : List UInt8) (ks : List (List UInt8)) (kids : List J) (ao bo : Option Addr) (cap bcap : Nat) (hb : w.heap[N]? = some (jcell k n t (.slice ao ks.length cap) (.slice bo kids.length bcap))) (hln : ks.length + kids.length ≤ 134217728) (hk : k = 3) (hbad : ownOk k n t ks kids.length = false) :
    Calls Tryd.prog 9 #[.pointer (some ⟨N, 0, none⟩), .int .i64 d] w fun en w' => en = .returned (.tuple #[.string ⟨#[]⟩, .int .i64 3]) ∧ Below w.heap.size w w' := by
  obtain ⟨c0, c1, c2, c3, c4⟩ := jcell_all hb
  clear hb
  subst hk
  have z1 : ((ba t).toList == []) = decide (t = []) := by
    rw [ByteArray.toList_eq]
    show (bs (ba t) == []) = _
    rw [bs_ba, Bool.eq_iff_iff]; simp
  have z2 : ((ba t).toList != []) = !decide (t = []) := by rw [bne, z1]
  have z3 : (n == 0) = decide (n = 0) := by rw [Bool.eq_iff_iff]; simp
  have z4 : (n != 0) = !decide (n = 0) := by rw [bne, z3]
  have z5 : decide ((0 : Int) < (ks.length : Int) + (kids.length : Int)) = !decide (ks.length + kids.length = 0) := by
    by_cases h : ks.length + kids.length = 0
    · rw [decide_eq_true h, decide_eq_false (by omega)]; rfl
    · rw [decide_eq_false h, decide_eq_true (by omega)]; rfl
  have z6 : decide ((0 : Int) < (ks.length : Int)) = !decide (ks.length = 0) := by
    by_cases h : ks.length = 0
    · rw [decide_eq_true h, decide_eq_false (by omega)]; rfl
    · rw [decide_eq_false h, decide_eq_true (by omega)]; rfl
  have z8 : decide (0 < ks.length) = !decide (ks.length = 0) := by
    by_cases h : ks.length = 0
    · rw [decide_eq_true h, decide_eq_false (by omega)]; rfl
    · rw [decide_eq_false h, decide_eq_true (by omega)]; rfl
  have z7 : ((ks.length : Int) != (kids.length : Int)) = !decide (ks.length = kids.length) := by
    by_cases h : ks.length = kids.length
    · rw [decide_eq_true h, h]; simp
    · rw [decide_eq_false h]; simp; omega
  have hc : (decide (n = 0) = false) ∨ (decide (n = 0) = true ∧ decide (ks.length + kids.length = 0) = false) := by
    revert hbad
    unfold ownOk
    simp only [decide_eq_true_eq, decide_eq_false_iff_not]
    intro hbad
    by_cases a1 : n = 0 <;> by_cases a2 : t = [] <;> by_cases a3 : ks.length + kids.length = 0 <;> simp_all
  clear hbad
  rcases hc with y0 | ⟨y0, y1⟩
  · rw [y0] at z3 z4
    go_enter Tryd.func9, Tryd.ntmps9
    go_wp2_with fail
    go_quiet (fail)
    go_wp2_with fail
    go_ret2
    exact ⟨rfl, belowN (Below.refl _ w) _⟩
  · rw [y0] at z3 z4
    rw [y1] at z5
    go_enter Tryd.func9, Tryd.ntmps9
    go_wp2_with fail
    go_quiet (fail)
    go_wp2_with fail
    go_ret2
    exact ⟨rfl, belowN (Below.refl _ w) _⟩
set_option maxRecDepth 100000 in
set_option maxHeartbeats 4000000 in
theorem wprint_bad4 (d : Int) (w : World) (N : Nat) (k n : Int) (t : List UInt8) (ks : List (List UInt8)) (kids : List J) (ao bo : Option Addr) (cap bcap : Nat) (hb : w.heap[N]? = some (jcell k n t (.slice ao ks.length cap) (.slice bo kids.length bcap))) (hln : ks.length + kids.length ≤ 134217728) (hk : k = 4) (hbad : ownOk k n t ks kids.length = false) :
    Calls Tryd.prog 9 #[.pointer (some ⟨N, 0, none⟩), .int .i64 d] w fun en w' => en = .returned (.tuple #[.string ⟨#[]⟩, .int .i64 3]) ∧ Below w.heap.size w w' := by
  obtain ⟨c0, c1, c2, c3, c4⟩ := jcell_all hb
  clear hb
  subst hk
  have z1 : ((ba t).toList == []) = decide (t = []) := by
    rw [ByteArray.toList_eq]
    show (bs (ba t) == []) = _
    rw [bs_ba, Bool.eq_iff_iff]; simp
  have z2 : ((ba t).toList != []) = !decide (t = []) := by rw [bne, z1]
  have z3 : (n == 0) = decide (n = 0) := by rw [Bool.eq_iff_iff]; simp
  have z4 : (n != 0) = !decide (n = 0) := by rw [bne, z3]
  have z5 : decide ((0 : Int) < (ks.length : Int) + (kids.length : Int)) = !decide (ks.length + kids.length = 0) := by
    by_cases h : ks.length + kids.length = 0
    · rw [decide_eq_true h, decide_eq_false (by omega)]; rfl
    · rw [decide_eq_false h, decide_eq_true (by omega)]; rfl
  have z6 : decide ((0 : Int) < (ks.length : Int)) = !decide (ks.length = 0) := by
    by_cases h : ks.length = 0
    · rw [decide_eq_true h, decide_eq_false (by omega)]; rfl
    · rw [decide_eq_false h, decide_eq_true (by omega)]; rfl
  have z8 : decide (0 < ks.length) = !decide (ks.length = 0) := by
    by_cases h : ks.length = 0
    · rw [decide_eq_true h, decide_eq_false (by omega)]; rfl
    · rw [decide_eq_false h, decide_eq_true (by omega)]; rfl
  have z7 : ((ks.length : Int) != (kids.length : Int)) = !decide (ks.length = kids.length) := by
    by_cases h : ks.length = kids.length
    · rw [decide_eq_true h, h]; simp
    · rw [decide_eq_false h]; simp; omega
  have hc : (decide (n = 0) = false) ∨ (decide (n = 0) = true ∧ decide (t = []) = false) ∨ (decide (n = 0) = true ∧ decide (t = []) = true ∧ decide (ks.length = 0) = false) := by
    revert hbad
    unfold ownOk
    simp only [decide_eq_true_eq, decide_eq_false_iff_not]
    intro hbad
    by_cases a1 : n = 0 <;> by_cases a2 : t = [] <;> by_cases a3 : ks.length = 0 <;> simp_all
  clear hbad
  rcases hc with y0 | ⟨y0, y1⟩ | ⟨y0, y1, y2⟩
  · rw [y0] at z3 z4
    go_enter Tryd.func9, Tryd.ntmps9
    go_wp2_with fail
    go_quiet (fail)
    go_wp2_with fail
    go_ret2
    exact ⟨rfl, belowN (Below.refl _ w) _⟩
  · rw [y0] at z3 z4
    rw [y1] at z1 z2
    go_enter Tryd.func9, Tryd.ntmps9
    go_wp2_with fail
    go_quiet (fail)
    go_wp2_with fail
    go_ret2
    exact ⟨rfl, belowN (Below.refl _ w) _⟩
  · rw [y0] at z3 z4
    rw [y1] at z1 z2
    rw [y2] at z6 z8
    go_enter Tryd.func9, Tryd.ntmps9
    go_wp2_with fail
    go_quiet (fail)
    go_wp2_with fail
    go_ret2
    exact ⟨rfl, belowN (Below.refl _ w) _⟩
set_option maxRecDepth 100000 in
set_option maxHeartbeats 4000000 in
theorem wprint_bad5 (d : Int) (w : World) (N : Nat) (k n : Int) (t : List UInt8) (ks : List (List UInt8)) (kids : List J) (ao bo : Option Addr) (cap bcap : Nat) (hb : w.heap[N]? = some (jcell k n t (.slice ao ks.length cap) (.slice bo kids.length bcap))) (hln : ks.length + kids.length ≤ 134217728) (hk : k = 5) (hbad : ownOk k n t ks kids.length = false) :
    Calls Tryd.prog 9 #[.pointer (some ⟨N, 0, none⟩), .int .i64 d] w fun en w' => en = .returned (.tuple #[.string ⟨#[]⟩, .int .i64 3]) ∧ Below w.heap.size w w' := by
  obtain ⟨c0, c1, c2, c3, c4⟩ := jcell_all hb
  clear hb
  subst hk
  have z1 : ((ba t).toList == []) = decide (t = []) := by
    rw [ByteArray.toList_eq]
    show (bs (ba t) == []) = _
    rw [bs_ba, Bool.eq_iff_iff]; simp
  have z2 : ((ba t).toList != []) = !decide (t = []) := by rw [bne, z1]
  have z3 : (n == 0) = decide (n = 0) := by rw [Bool.eq_iff_iff]; simp
  have z4 : (n != 0) = !decide (n = 0) := by rw [bne, z3]
  have z5 : decide ((0 : Int) < (ks.length : Int) + (kids.length : Int)) = !decide (ks.length + kids.length = 0) := by
    by_cases h : ks.length + kids.length = 0
    · rw [decide_eq_true h, decide_eq_false (by omega)]; rfl
    · rw [decide_eq_false h, decide_eq_true (by omega)]; rfl
  have z6 : decide ((0 : Int) < (ks.length : Int)) = !decide (ks.length = 0) := by
    by_cases h : ks.length = 0
    · rw [decide_eq_true h, decide_eq_false (by omega)]; rfl
    · rw [decide_eq_false h, decide_eq_true (by omega)]; rfl
  have z8 : decide (0 < ks.length) = !decide (ks.length = 0) := by
    by_cases h : ks.length = 0
    · rw [decide_eq_true h, decide_eq_false (by omega)]; rfl
    · rw [decide_eq_false h, decide_eq_true (by omega)]; rfl
  have z7 : ((ks.length : Int) != (kids.length : Int)) = !decide (ks.length = kids.length) := by
    by_cases h : ks.length = kids.length
    · rw [decide_eq_true h, h]; simp
    · rw [decide_eq_false h]; simp; omega
  have hc : (decide (n = 0) = false) ∨ (decide (n = 0) = true ∧ decide (t = []) = false) ∨ (decide (n = 0) = true ∧ decide (t = []) = true ∧ decide (ks.length = kids.length) = false) := by
    revert hbad
    unfold ownOk
    simp only [decide_eq_true_eq, decide_eq_false_iff_not]
    intro hbad
    by_cases a1 : n = 0 <;> by_cases a2 : t = [] <;> by_cases a3 : ks.length = kids.length <;> simp_all
  clear hbad
  rcases hc with y0 | ⟨y0, y1⟩ | ⟨y0, y1, y2⟩
  · rw [y0] at z3 z4
    go_enter Tryd.func9, Tryd.ntmps9
    go_wp2_with fail
    go_quiet (fail)
    go_wp2_with fail
    revert nq
    intro n1
    go_quiet (fail)
    go_wp2_with fail
    go_ret2
    exact ⟨rfl, belowN (belowN (Below.refl _ w) _) _⟩
  · rw [y0] at z3 z4
    rw [y1] at z1 z2
    go_enter Tryd.func9, Tryd.ntmps9
    go_wp2_with fail
    go_quiet (fail)
    go_wp2_with fail
    revert nq
    intro n1
    go_quiet (fail)
    go_wp2_with fail
    go_ret2
    exact ⟨rfl, belowN (belowN (Below.refl _ w) _) _⟩
  · rw [y0] at z3 z4
    rw [y1] at z1 z2
    rw [y2] at z7
    go_enter Tryd.func9, Tryd.ntmps9
    go_wp2_with fail
    go_quiet (fail)
    go_wp2_with fail
    revert nq
    intro n1
    go_quiet (fail)
    go_wp2_with fail
    go_ret2
    exact ⟨rfl, belowN (belowN (Below.refl _ w) _) _⟩
set_option maxRecDepth 100000 in
set_option maxHeartbeats 4000000 in
theorem wprint_g0 (d : Int) (w : World) (N : Nat) (k n : Int) (t : List UInt8) (ks : List (List UInt8)) (kids : List J) (ao bo : Option Addr) (cap bcap : Nat) (hb : w.heap[N]? = some (jcell k n t (.slice ao ks.length cap) (.slice bo kids.length bcap))) (hln : ks.length + kids.length ≤ 134217728) (hk : k = 0) (hok : ownOk k n t ks kids.length = true) :
    Calls Tryd.prog 9 #[.pointer (some ⟨N, 0, none⟩), .int .i64 d] w fun en w' => en = .returned (.tuple #[.string (ba sNull), .int .i64 0]) ∧ Below w.heap.size w w' := by
  obtain ⟨c0, c1, c2, c3, c4⟩ := jcell_all hb
  clear hb
  subst hk
  have z1 : ((ba t).toList == []) = decide (t = []) := by
    rw [ByteArray.toList_eq]
    show (bs (ba t) == []) = _
    rw [bs_ba, Bool.eq_iff_iff]; simp
  have z2 : ((ba t).toList != []) = !decide (t = []) := by rw [bne, z1]
  have z3 : (n == 0) = decide (n = 0) := by rw [Bool.eq_iff_iff]; simp
  have z4 : (n != 0) = !decide (n = 0) := by rw [bne, z3]
  have z5 : decide ((0 : Int) < (ks.length : Int) + (kids.length : Int)) = !decide (ks.length + kids.length = 0) := by
    by_cases h : ks.length + kids.length = 0
    · rw [decide_eq_true h, decide_eq_false (by omega)]; rfl
    · rw [decide_eq_false h, decide_eq_true (by omega)]; rfl
  have z6 : decide ((0 : Int) < (ks.length : Int)) = !decide (ks.length = 0) := by
    by_cases h : ks.length = 0
    · rw [decide_eq_true h, decide_eq_false (by omega)]; rfl
    · rw [decide_eq_false h, decide_eq_true (by omega)]; rfl
  have z8 : decide (0 < ks.length) = !decide (ks.length = 0) := by
    by_cases h : ks.length = 0
    · rw [decide_eq_true h, decide_eq_false (by omega)]; rfl
    · rw [decide_eq_false h, decide_eq_true (by omega)]; rfl
  have z7 : ((ks.length : Int) != (kids.length : Int)) = !decide (ks.length = kids.length) := by
    by_cases h : ks.length = kids.length
    · rw [decide_eq_true h, h]; simp
    · rw [decide_eq_false h]; simp; omega
  have hf : decide (n = 0) = true ∧ decide (t = []) = true ∧ decide (ks.length + kids.length = 0) = true := by
    revert hok; unfold ownOk; simp
    intro a b c d; exact ⟨a, b, c, d⟩
  obtain ⟨y0, y1, y2⟩ := hf
  rw [y0] at z3 z4
  rw [y1] at z1 z2
  rw [y2] at z5
  clear hok
  go_enter Tryd.func9, Tryd.ntmps9
  go_wp2_with fail
  go_quiet (fail)
  go_wp2_with fail
  go_ret2
  exact ⟨rfl, belowN (Below.refl _ w) _⟩
set_option maxRecDepth 100000 in
set_option maxHeartbeats 4000000 in
theorem wprint_g1 (d : Int) (w : World) (N : Nat) (k n : Int) (t : List UInt8) (ks : List (List UInt8)) (kids : List J) (ao bo : Option Addr) (cap bcap : Nat) (hb : w.heap[N]? = some (jcell k n t (.slice ao ks.length cap) (.slice bo kids.length bcap))) (hln : ks.length + kids.length ≤ 134217728) (hk : k = 1) (hok : ownOk k n t ks kids.length = true) :
    Calls Tryd.prog 9 #[.pointer (some ⟨N, 0, none⟩), .int .i64 d] w fun en w' => en = .returned (.tuple #[.string (ba (if n = 1 then sTrue else sFalse)), .int .i64 0]) ∧ Below w.heap.size w w' := by
  obtain ⟨c0, c1, c2, c3, c4⟩ := jcell_all hb
  clear hb
  subst hk
  have z1 : ((ba t).toList == []) = decide (t = []) := by
    rw [ByteArray.toList_eq]
    show (bs (ba t) == []) = _
    rw [bs_ba, Bool.eq_iff_iff]; simp
  have z2 : ((ba t).toList != []) = !decide (t = []) := by rw [bne, z1]
  have z3 : (n == 0) = decide (n = 0) := by rw [Bool.eq_iff_iff]; simp
  have z4 : (n != 0) = !decide (n = 0) := by rw [bne, z3]
  have z5 : decide ((0 : Int) < (ks.length : Int) + (kids.length : Int)) = !decide (ks.length + kids.length = 0) := by
    by_cases h : ks.length + kids.length = 0
    · rw [decide_eq_true h, decide_eq_false (by omega)]; rfl
    · rw [decide_eq_false h, decide_eq_true (by omega)]; rfl
  have z6 : decide ((0 : Int) < (ks.length : Int)) = !decide (ks.length = 0) := by
    by_cases h : ks.length = 0
    · rw [decide_eq_true h, decide_eq_false (by omega)]; rfl
    · rw [decide_eq_false h, decide_eq_true (by omega)]; rfl
  have z8 : decide (0 < ks.length) = !decide (ks.length = 0) := by
    by_cases h : ks.length = 0
    · rw [decide_eq_true h, decide_eq_false (by omega)]; rfl
    · rw [decide_eq_false h, decide_eq_true (by omega)]; rfl
  have z7 : ((ks.length : Int) != (kids.length : Int)) = !decide (ks.length = kids.length) := by
    by_cases h : ks.length = kids.length
    · rw [decide_eq_true h, h]; simp
    · rw [decide_eq_false h]; simp; omega
  have hf : (n = 0 ∨ n = 1) ∧ decide (t = []) = true ∧ decide (ks.length + kids.length = 0) = true := by
    revert hok; unfold ownOk; simp
    intro a b c d; exact ⟨a, b, c, d⟩
  obtain ⟨y0, y1, y2⟩ := hf
  rw [y1] at z1 z2
  rw [y2] at z5
  clear hok
  rcases y0 with rfl | rfl
  · go_enter Tryd.func9, Tryd.ntmps9
    go_wp2_with fail
    go_quiet (fail)
    go_wp2_with fail
    go_ret2
    exact ⟨rfl, belowN (Below.refl _ w) _⟩
  · go_enter Tryd.func9, Tryd.ntmps9
    go_wp2_with fail
    go_quiet (fail)
    go_wp2_with fail
    go_ret2
    exact ⟨rfl, belowN (Below.refl _ w) _⟩
set_option maxRecDepth 100000 in
set_option maxHeartbeats 4000000 in
theorem wprint_g2 (d : Int) (w : World) (N : Nat) (k n : Int) (t : List UInt8) (ks : List (List UInt8)) (kids : List J) (ao bo : Option Addr) (cap bcap : Nat) (hb : w.heap[N]? = some (jcell k n t (.slice ao ks.length cap) (.slice bo kids.length bcap))) (hln : ks.length + kids.length ≤ 134217728) (hk : k = 2) (hok : ownOk k n t ks kids.length = true) :
    Calls Tryd.prog 9 #[.pointer (some ⟨N, 0, none⟩), .int .i64 d] w fun en w' => en = .returned (.tuple #[.string (ba (digsZ n)), .int .i64 0]) ∧ Below w.heap.size w w' := by
  obtain ⟨c0, c1, c2, c3, c4⟩ := jcell_all hb
  clear hb
  subst hk
  have z1 : ((ba t).toList == []) = decide (t = []) := by
    rw [ByteArray.toList_eq]
    show (bs (ba t) == []) = _
    rw [bs_ba, Bool.eq_iff_iff]; simp
  have z2 : ((ba t).toList != []) = !decide (t = []) := by rw [bne, z1]
  have z3 : (n == 0) = decide (n = 0) := by rw [Bool.eq_iff_iff]; simp
  have z4 : (n != 0) = !decide (n = 0) := by rw [bne, z3]
  have z5 : decide ((0 : Int) < (ks.length : Int) + (kids.length : Int)) = !decide (ks.length + kids.length = 0) := by
    by_cases h : ks.length + kids.length = 0
    · rw [decide_eq_true h, decide_eq_false (by omega)]; rfl
    · rw [decide_eq_false h, decide_eq_true (by omega)]; rfl
  have z6 : decide ((0 : Int) < (ks.length : Int)) = !decide (ks.length = 0) := by
    by_cases h : ks.length = 0
    · rw [decide_eq_true h, decide_eq_false (by omega)]; rfl
    · rw [decide_eq_false h, decide_eq_true (by omega)]; rfl
  have z8 : decide (0 < ks.length) = !decide (ks.length = 0) := by
    by_cases h : ks.length = 0
    · rw [decide_eq_true h, decide_eq_false (by omega)]; rfl
    · rw [decide_eq_false h, decide_eq_true (by omega)]; rfl
  have z7 : ((ks.length : Int) != (kids.length : Int)) = !decide (ks.length = kids.length) := by
    by_cases h : ks.length = kids.length
    · rw [decide_eq_true h, h]; simp
    · rw [decide_eq_false h]; simp; omega
  have hf : (n ≤ 999999999999999999 ∧ -999999999999999999 ≤ n) ∧ decide (t = []) = true ∧ decide (ks.length + kids.length = 0) = true := by
    revert hok; unfold ownOk; simp
    intro a b c d e; exact ⟨⟨a, b⟩, c, d, e⟩
  obtain ⟨⟨y0, y3⟩, y1, y2⟩ := hf
  rw [y1] at z1 z2
  rw [y2] at z5
  have q1 : decide (999999999999999999 < n) = false := by simp; omega
  have q2 : decide (n < -999999999999999999) = false := by simp; omega
  clear hok
  go_enter Tryd.func9, Tryd.ntmps9
  go_wp2_with fail
  go_quiet (fail)
  go_wp2_with fail
  refine (wdigits_any n _ (by omega) (by omega)).mono ?_
  rintro e w' ⟨rfl, rfl⟩
  go_wp2_with fail
  go_ret2
  exact ⟨rfl, belowN (Below.refl _ w) _⟩
set_option maxRecDepth 100000 in
set_option maxHeartbeats 4000000 in
theorem wprint_g3 (d : Int) (w : World) (N : Nat) (k n : Int) (t : List UInt8) (ks : List (List UInt8)) (kids : List J) (ao bo : Option Addr) (cap bcap : Nat) (hb : w.heap[N]? = some (jcell k n t (.slice ao ks.length cap) (.slice bo kids.length bcap))) (hln : ks.length + kids.length ≤ 134217728) (hk : k = 3) (hok : ownOk k n t ks kids.length = true) (hts : t.length ≤ 134217728) :
    Calls Tryd.prog 9 #[.pointer (some ⟨N, 0, none⟩), .int .i64 d] w fun en w' => en = .returned (.tuple #[.string (ba (quote t)), .int .i64 0]) ∧ Below w.heap.size w w' := by
  obtain ⟨c0, c1, c2, c3, c4⟩ := jcell_all hb
  clear hb
  subst hk
  have z1 : ((ba t).toList == []) = decide (t = []) := by
    rw [ByteArray.toList_eq]
    show (bs (ba t) == []) = _
    rw [bs_ba, Bool.eq_iff_iff]; simp
  have z2 : ((ba t).toList != []) = !decide (t = []) := by rw [bne, z1]
  have z3 : (n == 0) = decide (n = 0) := by rw [Bool.eq_iff_iff]; simp
  have z4 : (n != 0) = !decide (n = 0) := by rw [bne, z3]
  have z5 : decide ((0 : Int) < (ks.length : Int) + (kids.length : Int)) = !decide (ks.length + kids.length = 0) := by
    by_cases h : ks.length + kids.length = 0
    · rw [decide_eq_true h, decide_eq_false (by omega)]; rfl
    · rw [decide_eq_false h, decide_eq_true (by omega)]; rfl
  have z6 : decide ((0 : Int) < (ks.length : Int)) = !decide (ks.length = 0) := by
    by_cases h : ks.length = 0
    · rw [decide_eq_true h, decide_eq_false (by omega)]; rfl
    · rw [decide_eq_false h, decide_eq_true (by omega)]; rfl
  have z8 : decide (0 < ks.length) = !decide (ks.length = 0) := by
    by_cases h : ks.length = 0
    · rw [decide_eq_true h, decide_eq_false (by omega)]; rfl
    · rw [decide_eq_false h, decide_eq_true (by omega)]; rfl
  have z7 : ((ks.length : Int) != (kids.length : Int)) = !decide (ks.length = kids.length) := by
    by_cases h : ks.length = kids.length
    · rw [decide_eq_true h, h]; simp
    · rw [decide_eq_false h]; simp; omega
  have hf : decide (n = 0) = true ∧ decide (ks.length + kids.length = 0) = true := by
    revert hok; unfold ownOk; simp
    intro a b c; exact ⟨a, b, c⟩
  obtain ⟨y0, y2⟩ := hf
  rw [y0] at z3 z4
  rw [y2] at z5
  clear hok
  go_enter Tryd.func9, Tryd.ntmps9
  go_wp2_with fail
  go_quiet (fail)
  go_wp2_with fail
  refine (wquote_any (ba t) _ (by rw [ba_size]; omega)).mono ?_
  rintro e w' ⟨rfl, kq⟩
  rw [bs_ba]
  go_wp2_with fail
  go_ret2
  exact ⟨rfl, (belowN (Below.refl _ w) nq).trans kq⟩
end Go.Proofs.YtcibflndpckkkaaDoor
