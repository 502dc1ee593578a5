/- What headOf and tailOf give. -/
import Derived.Test.YtopeagigdgjchaaDoorRWl
namespace Go.Proofs.YtopeagigdgjchaaDoor.Rp
open Go.RowKit
open M

def HeadOk (n : Nat) : Prop := ∀ (c : Nat) (l : List UInt8) (h : Nat) (p : Nat) (w : World), h ≤ n → IsT w c l h → p ≤ l.length → l.length ≤ 1125899906842624 →
    Calls Tryd.prog 44 #[.pointer (some ⟨c, 0, none⟩), .int .i64 p] w fun e w' => ∃ (v : Option Addr) (s : ByteArray) (a : Nat), e = .returned (.tuple #[.pointer v, .string s]) ∧ a ≤ p ∧ Bd l a ∧ OT w' v (l.take a) ∧ bs s = (l.take p).drop a ∧ Below w.heap.size w w'

set_option maxHeartbeats 1000000 in
theorem head_leaf (c : Nat) (l : List UInt8) (t : ByteArray) (a1 a2 a3 a4 : Nat) (p : Nat) (w : World) (k : Node w c none none t 0 a1 a2 a3 a4) (ht : bs t = l) (hp : p ≤ l.length) (hs : l.length ≤ 1125899906842624) :
    Calls Tryd.prog 44 #[.pointer (some ⟨c, 0, none⟩), .int .i64 p] w fun e w' => ∃ (v : Option Addr) (s : ByteArray) (a : Nat), e = .returned (.tuple #[.pointer v, .string s]) ∧ a ≤ p ∧ Bd l a ∧ OT w' v (l.take a) ∧ bs s = (l.take p).drop a ∧ Below w.heap.size w w' := by
  obtain ⟨c0, _, c2, _⟩ := k.facts
  have hl := bs_len t
  rw [ht] at hl
  have z1 : (0 : Int) ≤ (p : Int) := by omega
  have z3 : (p : Int) ≤ (t.size : Int) := by omega
  have z5 : p ≤ t.size := by omega
  have z6 : (t.size : Int) ≤ 1125899906842624 := by omega
  have Ht := hide ht
  clear k ht hl
  go_enter Tryd.func44, Tryd.ntmps44
  go_wp2_with fail
  refine (isLeaf_any c none w c0).mono ?_
  rintro e w1 ⟨rfl, hw⟩
  rw [hw]
  clear hw w1
  go_wp2_with fail
  go_quiet (fail)
  go_wp2_with fail
  go_ret2
  refine ⟨none, _, 0, rfl, Nat.zero_le _, bd_zero _, Or.inl ⟨rfl, by simp⟩, ?_, belowN (Below.refl _ _) _⟩
  rw [bs_take, Ht.out, List.drop_zero]

set_option maxHeartbeats 1000000 in
theorem head_left (n : Nat) (ih : HeadOk n) (c cl cr : Nat) (l1 l2 : List UInt8) (h h1 : Nat) (p : Nat) (w : World)
    (k : ∃ t a1 a2 a3 a4, Node w c (some ⟨cl, 0, none⟩) (some ⟨cr, 0, none⟩) t h a1 a2 a3 a4) (hn1 : h1 ≤ n) (t1 : IsT w cl l1 h1) (hbd : Bd (l1 ++ l2) l1.length) (hp : p ≤ l1.length) (hs : (l1 ++ l2).length ≤ 1125899906842624) :
    Calls Tryd.prog 44 #[.pointer (some ⟨c, 0, none⟩), .int .i64 p] w fun e w' => ∃ (v : Option Addr) (s : ByteArray) (a : Nat), e = .returned (.tuple #[.pointer v, .string s]) ∧ a ≤ p ∧ Bd (l1 ++ l2) a ∧ OT w' v ((l1 ++ l2).take a) ∧ bs s = ((l1 ++ l2).take p).drop a ∧ Below w.heap.size w w' := by
  obtain ⟨t, a1, a2, a3, a4, k⟩ := k
  obtain ⟨c0, c1, _⟩ := k.facts
  obtain ⟨_, _, _, kl⟩ := t1.any
  obtain ⟨_, _, _, _, d4, _⟩ := kl.facts
  have z1 : (p : Int) ≤ (l1.length : Int) := by omega
  have HT := hide t1
  have hs1 : l1.length ≤ 1125899906842624 := by rw [List.length_append] at hs; omega
  clear k kl t1
  go_enter Tryd.func44, Tryd.ntmps44
  go_wp2_with fail
  refine (isLeaf_any c _ w c0).mono ?_
  rintro e w1 ⟨rfl, hw⟩
  rw [hw]
  clear hw w1
  go_wp2_with fail
  refine (ih cl l1 h1 p w hn1 HT.out hp hs1).mono ?_
  rintro e w2 ⟨v, s, a, rfl, ha, hb, ho, he, hbl⟩
  have HH := hide (And.intro hb (And.intro ho he))
  clear hb ho he
  go_wp2_with fail
  go_ret2
  obtain ⟨hb, ho, he⟩ := HH.out
  refine ⟨v, s, a, rfl, ha, ?_, ?_, ?_, hbl⟩
  · have := seg_bd (l := l1 ++ l2) (pre := []) (cur := l1) (post := l2) (by simp) (bd_zero _) (by simpa using hbd) (by omega) hb
    simpa using this
  · rw [List.take_append_of_le_length (by omega)]; exact ho
  · rw [List.take_append_of_le_length hp]; exact he

set_option maxHeartbeats 1000000 in
theorem head_right (n : Nat) (ih : HeadOk n) (c cl cr : Nat) (l1 l2 : List UInt8) (h h1 h2 : Nat) (p : Nat) (w : World)
    (k : ∃ t a1 a2 a3 a4, Node w c (some ⟨cl, 0, none⟩) (some ⟨cr, 0, none⟩) t h a1 a2 a3 a4) (hn2 : h2 ≤ n) (t1 : IsT w cl l1 h1) (t2 : IsT w cr l2 h2) (hbd : Bd (l1 ++ l2) l1.length) (hp1 : l1.length < p) (hp : p ≤ (l1 ++ l2).length) (hs : (l1 ++ l2).length ≤ 1125899906842624) :
    Calls Tryd.prog 44 #[.pointer (some ⟨c, 0, none⟩), .int .i64 p] w fun e w' => ∃ (v : Option Addr) (s : ByteArray) (a : Nat), e = .returned (.tuple #[.pointer v, .string s]) ∧ a ≤ p ∧ Bd (l1 ++ l2) a ∧ OT w' v ((l1 ++ l2).take a) ∧ bs s = ((l1 ++ l2).take p).drop a ∧ Below w.heap.size w w' := by
  obtain ⟨t, a1, a2, a3, a4, k⟩ := k
  obtain ⟨c0, c1, _⟩ := k.facts
  have lc := k.lt
  obtain ⟨_, _, _, kl⟩ := t1.any
  obtain ⟨_, _, _, _, d4, _⟩ := kl.facts
  have hs' := hs
  have hp' := hp
  rw [List.length_append] at hs' hp'
  have z1 : ¬ (p : Int) ≤ (l1.length : Int) := by omega
  have z2 : (p : Int) ≤ 1125899906842624 := by omega
  have HT := hide (And.intro t1 t2)
  clear k kl t1 t2
  go_enter Tryd.func44, Tryd.ntmps44
  go_wp2_with fail
  refine (isLeaf_any c _ w c0).mono ?_
  rintro e w1 ⟨rfl, hw⟩
  rw [hw]
  clear hw w1
  go_wp2_with fail
  rw [show (p : Int) - (l1.length : Int) = ((p - l1.length : Nat) : Int) from by omega]
  refine (ih cr l2 h2 (p - l1.length) w hn2 (HT.out).2 (by omega) (by omega)).mono ?_
  rintro e w2 ⟨v, s, a, rfl, ha, hb, ho, he, hbl⟩
  have e0 := kcb hbl lc c0
  have e1 := kcb hbl lc c1
  have lc2 : c < w2.heap.size := by have := hbl.size; omega
  have HH := hide (And.intro hb (And.intro ho he))
  clear hb ho he c0 c1 d4
  go_wp2_with fail
  have hal : a ≤ l2.length := by omega
  have hj : Bd (l1 ++ l2.take a) l1.length := by
    have e : l1 ++ l2.take a = (l1 ++ l2).take (l1.length + a) := by rw [List.take_length_add_append]
    rw [e]; exact bd_take hbd (by omega)
  have hjs : (l1 ++ l2.take a).length ≤ 1125899906842624 := by rw [List.length_append, List.length_take]; omega
  refine (join_any (some ⟨cl, 0, none⟩) v l1 (l2.take a) w2 (Or.inr ⟨cl, h1, rfl, (HT.out).1.below hbl⟩) (HH.out).2.1 hj hjs).mono ?_
  rintro e w3 ⟨v3, rfl, t3, hbl3⟩
  have HT3 := hide t3
  clear t3
  go_wp2_with fail
  go_ret2
  obtain ⟨hb, ho, he⟩ := HH.out
  refine ⟨v3, s, l1.length + a, rfl, by omega, ?_, ?_, ?_, hbl.trans (hbl3.mono hbl.size)⟩
  · exact seg_bd (l := l1 ++ l2) (pre := l1) (cur := l2) (post := []) (by simp) hbd (bd_len _) hal hb
  · rw [List.take_length_add_append]; exact HT3.out
  · rw [he, ← List.drop_drop, List.take_append, List.take_of_length_le (by omega : l1.length ≤ p), List.drop_left]

theorem head_ok (n : Nat) : HeadOk n := by
  have main : ∀ n, (∀ m, m < n → HeadOk m) → HeadOk n := by
    intro n ih c l h p w hn t hp hs
    rcases t.cases with ⟨tt, k, e, _, _⟩ | ⟨cl, cr, l1, l2, h1, h2, k, rfl, hbd, hh, t1, t2⟩
    · exact head_leaf c l tt _ _ _ _ p w k e hp hs
    · cases n with
      | zero => omega
      | succ n =>
        by_cases hle : p ≤ l1.length
        · exact head_left n (ih n (by omega)) c cl cr l1 l2 h h1 p w ⟨_, _, _, _, _, k⟩ (by omega) t1 hbd hle hs
        · exact head_right n (ih n (by omega)) c cl cr l1 l2 h h1 h2 p w ⟨_, _, _, _, _, k⟩ (by omega) t1 t2 hbd (by omega) hp hs
  have all : ∀ n, ∀ m, m < n → HeadOk m := by
    intro n
    induction n with
    | zero => intro m hm; omega
    | succ n ih => intro m hm; exact main m (fun k hk => ih k (by omega))
  exact all (n + 1) n (by omega)

set_option maxHeartbeats 400000 in
theorem head_nil (p : Int) (w : World) : Calls Tryd.prog 44 #[.pointer none, .int .i64 p] w fun e w' => e = .returned (.tuple #[.pointer none, .string ⟨#[]⟩]) ∧ w' = w := by
  go_enter Tryd.func44, Tryd.ntmps44
  go_wp2_with fail
  go_ret2
  exact ⟨rfl, rfl⟩

/-- headOf: the leaves that end ahead of a place, and the rest. -/
theorem head_any (v : Option Addr) (l : List UInt8) (p : Nat) (w : World) (t : OT w v l) (hp : p ≤ l.length) (hs : l.length ≤ 1125899906842624) :
    Calls Tryd.prog 44 #[.pointer v, .int .i64 p] w fun e w' => ∃ (v : Option Addr) (s : ByteArray) (a : Nat), e = .returned (.tuple #[.pointer v, .string s]) ∧ a ≤ p ∧ Bd l a ∧ OT w' v (l.take a) ∧ bs s = (l.take p).drop a ∧ Below w.heap.size w w' := by
  rcases t with ⟨rfl, rfl⟩ | ⟨c, h, rfl, t⟩
  · refine (head_nil p w).mono ?_
    rintro e w' ⟨rfl, rfl⟩
    exact ⟨none, ⟨#[]⟩, 0, rfl, Nat.zero_le _, bd_zero _, Or.inl ⟨rfl, rfl⟩, by simp [bs], Below.refl _ _⟩
  · exact head_ok h c l h p w (Nat.le_refl _) t hp hs
end Go.Proofs.YtopeagigdgjchaaDoor.Rp
