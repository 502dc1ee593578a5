/- What Len, Lines, has, write and Text do. -/
import Derived.Test.YtopeagigdgjchaaDoorRWi
namespace Go.Proofs.YtopeagigdgjchaaDoor.Rp
open Go.RowKit
open M

theorem measured_any (v : Option Addr) (l : List UInt8) (w : World) (t : OT w v l) :
    Calls Tryd.prog 39 #[.pointer v] w fun e w' => e = .returned (.agg #[.int .i64 l.length, .int .i64 (nb l), .int .i64 (nr l), .int .i64 (nu l)]) ∧ Below w.heap.size w w' := by
  rcases t with ⟨rfl, rfl⟩ | ⟨b, h, rfl, t⟩
  · exact measured_nil w
  · obtain ⟨_, _, _, k⟩ := t.any
    obtain ⟨_, _, _, _, c4, c5, c6, c7⟩ := k.facts
    exact measured_some b _ _ _ _ w k.lt c4 c5 c6 c7

theorem field0 (a b c d : Value) (w : World) : (Instr.field 93 (.agg #[a, b, c, d]) 0).run Tryd.prog w = .ok a w := by kernel_rfl
theorem field1 (a b c d : Value) (w : World) : (Instr.field 93 (.agg #[a, b, c, d]) 1).run Tryd.prog w = .ok b w := by kernel_rfl

set_option maxHeartbeats 400000 in
theorem len_any (r : Nat) (l : List UInt8) (w : World) (k : IsR w r l) :
    Calls Tryd.prog 25 #[.pointer (some ⟨r, 0, none⟩)] w fun e w' => e = .returned (.int .i64 l.length) ∧ Below w.heap.size w w' := by
  obtain ⟨v, c, t, hr⟩ := k.cell
  have Ht := hide t
  clear t k
  have hf := field0
  go_enter Tryd.func25, Tryd.ntmps25
  go_wp2_with fail
  refine (measured_any v l w Ht.out).mono ?_
  rintro e w1 ⟨rfl, hb1⟩
  go_wp2_with fail
  go_ret
  exact ⟨rfl, hb1⟩

def hasB (n : Nat) (x y : Int) : Bool := decide (0 ≤ x ∧ x ≤ y ∧ y ≤ n)

set_option maxHeartbeats 400000 in
theorem has_any (r : Nat) (l : List UInt8) (x y : Int) (w : World) (k : IsR w r l) :
    Calls Tryd.prog 35 #[.pointer (some ⟨r, 0, none⟩), .int .i64 x, .int .i64 y] w fun e w' => e = .returned (.bool (hasB l.length x y)) ∧ Below w.heap.size w w' := by
  have Hk := hide k
  clear k
  by_cases h1 : 0 ≤ x
  · by_cases h2 : x ≤ y
    · by_cases h3 : y ≤ (l.length : Int)
      · rw [show hasB l.length x y = true from by simp [hasB]; omega]
        go_enter Tryd.func35, Tryd.ntmps35
        go_wp2_with fail
        refine (len_any r l _ Hk.out).mono ?_
        rintro e w1 ⟨rfl, hb1⟩
        go_wp2_with fail
        go_ret
        exact ⟨rfl, hb1⟩
      · rw [show hasB l.length x y = false from by simp [hasB]; omega]
        have hd : decide (y ≤ (l.length : Int)) = false := by simp; omega
        go_enter Tryd.func35, Tryd.ntmps35
        go_wp2_with fail
        refine (len_any r l _ Hk.out).mono ?_
        rintro e w1 ⟨rfl, hb1⟩
        go_wp2_with fail
        go_ret
        exact ⟨rfl, hb1⟩
    · rw [show hasB l.length x y = false from by simp [hasB]; omega]
      go_enter Tryd.func35, Tryd.ntmps35
      go_wp2_with fail
      go_ret
      exact ⟨rfl, Below.refl _ _⟩
  · rw [show hasB l.length x y = false from by simp [hasB]; omega]
    go_enter Tryd.func35, Tryd.ntmps35
    go_wp2_with fail
    go_ret
    exact ⟨rfl, Below.refl _ _⟩

theorem cut_append (l1 l2 : List UInt8) (f t : Nat) : ((l1 ++ l2).take t).drop f = ((l1.take (min t l1.length)).drop f) ++ ((l2.take (t - l1.length)).drop (max f l1.length - l1.length)) := by
  rw [List.take_append, List.drop_append]
  congr 1
  · congr 1
    rcases Nat.le_total t l1.length with h | h
    · rw [Nat.min_eq_left h]
    · rw [Nat.min_eq_right h, List.take_of_length_le h, List.take_of_length_le (Nat.le_refl _)]
  · rw [List.length_take]
    by_cases h : t ≤ l1.length
    · rw [show t - l1.length = 0 from by omega]; simp
    · congr 1; omega

def WriteOk (n : Nat) : Prop := ∀ (c : Nat) (l : List UInt8) (h : Nat) (w0 w : World) (B b : Nat) (acc : List UInt8) (x y : Int), h ≤ n → IsT w0 c l h → Below w0.heap.size w0 w → w0.heap.size ≤ B → B ≤ w.heap.size →
    Lib.IsBuilder 89 5 B b (Lib.byteCells acc) w → 0 ≤ x → y ≤ l.length → l.length ≤ 1125899906842624 → -1125899906842624 ≤ y → x ≤ 1125899906842624 → acc.length + (y - x).toNat ≤ 140737488355328 →
    Calls Tryd.prog 37 #[.pointer (some ⟨b, 0, none⟩), .pointer (some ⟨c, 0, none⟩), .int .i64 x, .int .i64 y] w fun e w' => e = .returned (.tuple #[]) ∧ Lib.IsBuilder 89 5 B b (Lib.byteCells (acc ++ (l.take y.toNat).drop x.toNat)) w' ∧ Below B w w'

set_option maxHeartbeats 400000 in
theorem write_none (b : Nat) (v : Option Addr) (x y : Int) (w : World) (h : y ≤ x) :
    Calls Tryd.prog 37 #[.pointer (some ⟨b, 0, none⟩), .pointer v, .int .i64 x, .int .i64 y] w fun e w' => e = .returned (.tuple #[]) ∧ w' = w := by
  go_enter Tryd.func37, Tryd.ntmps37
  go_wp2_with fail
  refine bodyPost_ret (results_none rfl _ _ _) rfl ?_
  exact ⟨rfl, rfl⟩

theorem bs_cut (s : ByteArray) (a b : Nat) : bs (s.extract a b) = ((bs s).take b).drop a := by
  unfold bs; rw [Lib.extract_data, List.drop_take]

set_option maxHeartbeats 400000 in
theorem write_leaf (c b B : Nat) (l acc : List UInt8) (t : ByteArray) (a1 a2 a3 a4 : Nat) (x y : Nat) (w : World) (k : Node w c none none t 0 a1 a2 a3 a4) (ht : bs t = l) (hbu : Lib.IsBuilder 89 5 B b (Lib.byteCells acc) w)
    (hB : B ≤ w.heap.size) (hxy : x < y) (hy : y ≤ l.length) (hs : l.length ≤ 1125899906842624) (hlen : acc.length + (y - x) ≤ 140737488355328) :
    Calls Tryd.prog 37 #[.pointer (some ⟨b, 0, none⟩), .pointer (some ⟨c, 0, none⟩), .int .i64 x, .int .i64 y] w fun e w' => e = .returned (.tuple #[]) ∧ Lib.IsBuilder 89 5 B b (Lib.byteCells (acc ++ (l.take y).drop x)) w' ∧ Below B w w' := by
  obtain ⟨c0, _, c2, _⟩ := k.facts
  have hl := bs_len t
  rw [ht] at hl
  have z0 : ¬ (y : Int) ≤ (x : Int) := by omega
  have z1 : (0 : Int) ≤ (x : Int) := by omega
  have z2 : (x : Int) ≤ (y : Int) := by omega
  have z3 : (y : Int) ≤ (t.size : Int) := by omega
  have z4 : x ≤ y := by omega
  have z5 : y ≤ t.size := by omega
  have z6 : (t.size : Int) ≤ 1125899906842624 := by omega
  have Hbu := hide hbu
  have Ht := hide ht
  clear hbu k ht hl
  go_enter Tryd.func37, Tryd.ntmps37
  go_wp2_with fail
  refine (isLeaf_any c none w c0).mono ?_
  rintro e w1 ⟨rfl, rfl⟩
  go_wp2_with fail
  refine (Tryd.Builder_WriteString B b (Lib.byteCells acc) (t.extract x y) _ (by exact Hbu.out) ?_ hB).mono ?_
  · rw [Lib.byteCells_length]
    have := bs_len (t.extract x y)
    rw [bs_cut, List.length_drop, List.length_take, bs_len] at this
    omega
  rintro e w2 ⟨rfl, hb2, hbl⟩
  go_wp2_with fail
  refine bodyPost_ret (results_none rfl _ _ _) rfl ?_
  refine ⟨rfl, Or.inr ?_, hbl⟩
  have e1 : Lib.byteCells (acc ++ (l.take y).drop x) = Lib.byteCells acc ++ Lib.strCells (t.extract x y) := by
    have e2 : Lib.strCells (t.extract x y) = Lib.byteCells (bs (t.extract x y)) := rfl
    rw [e2, bs_cut, Ht.out]
    simp [Lib.byteCells]
  rw [e1]
  exact hb2

set_option maxHeartbeats 1000000 in
theorem write_node (n : Nat) (ih : WriteOk n) (c cl cr b B : Nat) (l1 l2 acc : List UInt8) (h h1 h2 : Nat) (x y : Nat) (w0 w : World)
    (k : ∃ t a1 a2 a3 a4, Node w0 c (some ⟨cl, 0, none⟩) (some ⟨cr, 0, none⟩) t h a1 a2 a3 a4) (hn1 : h1 ≤ n) (hn2 : h2 ≤ n) (t1 : IsT w0 cl l1 h1) (t2 : IsT w0 cr l2 h2) (h0 : Below w0.heap.size w0 w) (hB0 : w0.heap.size ≤ B) (hB : B ≤ w.heap.size)
    (hbu : Lib.IsBuilder 89 5 B b (Lib.byteCells acc) w)
    (hxy : x < y) (hy : y ≤ (l1 ++ l2).length) (hs : (l1 ++ l2).length ≤ 1125899906842624) (hlen : acc.length + (y - x) ≤ 140737488355328) :
    Calls Tryd.prog 37 #[.pointer (some ⟨b, 0, none⟩), .pointer (some ⟨c, 0, none⟩), .int .i64 x, .int .i64 y] w fun e w' => e = .returned (.tuple #[]) ∧ Lib.IsBuilder 89 5 B b (Lib.byteCells (acc ++ ((l1 ++ l2).take y).drop x)) w' ∧ Below B w w' := by
  obtain ⟨t, a1, a2, a3, a4, k⟩ := k
  obtain ⟨c0, c1, _⟩ := (k.below h0).facts
  obtain ⟨_, _, _, kl⟩ := (t1.below h0).any
  obtain ⟨_, _, _, _, d4, _⟩ := kl.facts
  have kc' := k.lt
  obtain ⟨m0, m1, _⟩ := k.facts
  have Hm := hide (And.intro m0 m1)
  clear m0 m1
  have hs' := hs
  have hy' := hy
  simp only [List.length_append] at hs' hy'
  have z0 : ¬ (y : Int) ≤ (x : Int) := by omega
  have z1 : (y : Int) ≤ 1125899906842624 := by omega
  have z2 : (l1.length : Int) ≤ 1125899906842624 := by omega
  have Hbu := hide hbu
  have HT := hide (And.intro t1 t2)
  clear hbu k kl t1 t2
  go_enter Tryd.func37, Tryd.ntmps37
  go_wp2_with fail
  refine (isLeaf_any c _ w c0).mono ?_
  rintro e w1 ⟨rfl, hw⟩
  rw [hw]
  clear hw w1
  go_wp2_with fail
  refine (ih cl l1 h1 w0 w B b acc (x : Int) (min (y : Int) (l1.length : Int)) hn1 HT.out.1 h0 hB0 hB Hbu.out (by omega) (by omega) (by omega) (by omega) (by omega) (by omega)).mono ?_
  rintro e w2 ⟨rfl, hb2, hbl2⟩
  have B2 : Below w0.heap.size w0 w2 := h0.trans (hbl2.mono hB0)
  have hB2 : B ≤ w2.heap.size := Nat.le_trans hB hbl2.size
  have e0 := kcb B2 kc' Hm.out.1
  have e1 := kcb B2 kc' Hm.out.2
  have Hb2 := hide hb2
  clear hb2 c0 c1 d4
  go_wp2_with fail
  refine (ih cr l2 h2 w0 w2 B b _ (max (x : Int) (l1.length : Int) - (l1.length : Int)) ((y : Int) - (l1.length : Int)) hn2 HT.out.2 B2 hB0 hB2 Hb2.out (by omega) (by omega) (by omega) (by omega) (by omega) ?_).mono ?_
  · simp only [List.length_append, List.length_drop, List.length_take]
    omega
  rintro e w3 ⟨rfl, hb3, hbl3⟩
  go_wp2_with fail
  refine bodyPost_end (results_none rfl _ _ _) rfl ⟨rfl, ?_, hbl2.trans hbl3⟩
  rw [cut_append, ← List.append_assoc]
  have q1 : (min (y : Int) (l1.length : Int)).toNat = min y l1.length := by omega
  have q2 : ((y : Int) - (l1.length : Int)).toNat = y - l1.length := by omega
  have q3 : (max (x : Int) (l1.length : Int) - (l1.length : Int)).toNat = max x l1.length - l1.length := by omega
  rw [q1, q2, q3, Int.toNat_natCast] at hb3
  exact hb3

theorem write_ok (n : Nat) : WriteOk n := by
  have main : ∀ n, (∀ m, m < n → WriteOk m) → WriteOk n := by
    intro n ih c l h w0 w B b acc x y hn t h0 hB0 hB hbu hx hy hs hy2 hx2 hlen
    by_cases hxy : y ≤ x
    · refine (write_none b _ x y w hxy).mono ?_
      rintro e w1 ⟨rfl, rfl⟩
      refine ⟨rfl, ?_, Below.refl _ _⟩
      rw [List.drop_eq_nil_of_le (by rw [List.length_take]; omega), List.append_nil]
      exact hbu
    · obtain ⟨x, rfl⟩ := Int.eq_ofNat_of_zero_le hx
      obtain ⟨y, rfl⟩ := Int.eq_ofNat_of_zero_le (by omega : 0 ≤ y)
      rw [Int.toNat_natCast, Int.toNat_natCast]
      rcases t.cases with ⟨tt, k, e, _, _⟩ | ⟨cl, cr, l1, l2, h1, h2, k, rfl, _, hh, t1, t2⟩
      · exact write_leaf c b B l acc tt _ _ _ _ x y w (k.below h0) e hbu hB (by omega) (by omega) hs (by omega)
      · cases n with
        | zero => omega
        | succ n => exact write_node n (ih n (by omega)) c cl cr b B l1 l2 acc h h1 h2 x y w0 w ⟨_, _, _, _, _, k⟩ (by omega) (by omega) t1 t2 h0 hB0 hB hbu (by omega) (by omega) hs (by omega)
  have all : ∀ n, ∀ m, m < n → WriteOk m := by
    intro n
    induction n with
    | zero => intro m hm; omega
    | succ n ih => intro m hm; exact main m (fun k hk => ih k (by omega))
  exact all (n + 1) n (by omega)
end Go.Proofs.YtopeagigdgjchaaDoor.Rp
