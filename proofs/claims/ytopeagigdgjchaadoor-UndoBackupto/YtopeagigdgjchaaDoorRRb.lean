/- What tailOf gives. -/
import Derived.Test.YtopeagigdgjchaaDoorRRa
namespace Go.Proofs.YtopeagigdgjchaaDoor.Rp
open Go.RowKit
open M

def TailOk (n : Nat) : Prop := ∀ (c : Nat) (l : List UInt8) (h : Nat) (p : Nat) (w : World), h ≤ n → IsT w c l h → p ≤ l.length → l.length ≤ 1125899906842624 →
    Calls Tryd.prog 45 #[.pointer (some ⟨c, 0, none⟩), .int .i64 p] w fun e w' => ∃ (v : Option Addr) (s : ByteArray) (b : Nat), e = .returned (.tuple #[.string s, .pointer v]) ∧ p ≤ b ∧ b ≤ l.length ∧ Bd l b ∧ OT w' v (l.drop b) ∧ bs s = (l.take b).drop p ∧ Below w.heap.size w w'

set_option maxHeartbeats 1000000 in
theorem tail_leaf (c : Nat) (l : List UInt8) (t : ByteArray) (a1 a2 a3 a4 : Nat) (p : Nat) (w : World) (k : Node w c none none t 0 a1 a2 a3 a4) (ht : bs t = l) (hp : p ≤ l.length) (hs : l.length ≤ 1125899906842624) :
    Calls Tryd.prog 45 #[.pointer (some ⟨c, 0, none⟩), .int .i64 p] w fun e w' => ∃ (v : Option Addr) (s : ByteArray) (b : Nat), e = .returned (.tuple #[.string s, .pointer v]) ∧ p ≤ b ∧ b ≤ l.length ∧ Bd l b ∧ OT w' v (l.drop b) ∧ bs s = (l.take b).drop p ∧ Below w.heap.size w w' := by
  obtain ⟨c0, _, c2, _⟩ := k.facts
  have hl := bs_len t
  rw [ht] at hl
  have z1 : (0 : Int) ≤ (p : Int) := by omega
  have z3 : (p : Int) ≤ (t.size : Int) := by omega
  have z5 : p ≤ t.size := by omega
  have z6 : (t.size : Int) ≤ 1125899906842624 := by omega
  have Ht := hide ht
  clear k ht hl
  go_enter Tryd.func45, Tryd.ntmps45
  go_wp2_with fail
  refine (isLeaf_any c none w c0).mono ?_
  rintro e w1 ⟨rfl, hw⟩
  rw [hw]
  clear hw w1
  go_wp2_with fail
  go_ret2
  refine ⟨none, _, l.length, rfl, hp, Nat.le_refl _, bd_len _, Or.inl ⟨rfl, by simp⟩, ?_, Below.refl _ _⟩
  rw [bs_drop, Ht.out, List.take_of_length_le (Nat.le_refl _)]

set_option maxHeartbeats 1000000 in
theorem tail_right (n : Nat) (ih : TailOk n) (c cl cr : Nat) (l1 l2 : List UInt8) (h h1 h2 : Nat) (p : Nat) (w : World)
    (k : ∃ t a1 a2 a3 a4, Node w c (some ⟨cl, 0, none⟩) (some ⟨cr, 0, none⟩) t h a1 a2 a3 a4) (hn2 : h2 ≤ n) (t1 : IsT w cl l1 h1) (t2 : IsT w cr l2 h2) (hbd : Bd (l1 ++ l2) l1.length) (hp1 : l1.length ≤ p) (hp : p ≤ (l1 ++ l2).length) (hs : (l1 ++ l2).length ≤ 1125899906842624) :
    Calls Tryd.prog 45 #[.pointer (some ⟨c, 0, none⟩), .int .i64 p] w fun e w' => ∃ (v : Option Addr) (s : ByteArray) (b : Nat), e = .returned (.tuple #[.string s, .pointer v]) ∧ p ≤ b ∧ b ≤ (l1 ++ l2).length ∧ Bd (l1 ++ l2) b ∧ OT w' v ((l1 ++ l2).drop b) ∧ bs s = ((l1 ++ l2).take b).drop p ∧ Below w.heap.size w w' := by
  obtain ⟨t, a1, a2, a3, a4, k⟩ := k
  obtain ⟨c0, c1, _⟩ := k.facts
  obtain ⟨_, _, _, kl⟩ := t1.any
  obtain ⟨_, _, _, _, d4, _⟩ := kl.facts
  have hs' := hs
  have hp' := hp
  rw [List.length_append] at hs' hp'
  have z1 : (l1.length : Int) ≤ (p : Int) := by omega
  have z2 : (p : Int) ≤ 1125899906842624 := by omega
  have HT := hide t2
  clear k kl t1 t2
  go_enter Tryd.func45, Tryd.ntmps45
  go_wp2_with fail
  refine (isLeaf_any c _ w c0).mono ?_
  rintro e w1 ⟨rfl, hw⟩
  rw [hw]
  clear hw w1
  go_wp2_with fail
  rw [show (p : Int) - (l1.length : Int) = ((p - l1.length : Nat) : Int) from by omega]
  refine (ih cr l2 h2 (p - l1.length) w hn2 HT.out (by omega) (by omega)).mono ?_
  rintro e w2 ⟨v, s, b, rfl, hb1, hb2, hb, ho, he, hbl⟩
  have HH := hide (And.intro hb (And.intro ho he))
  clear hb ho he
  go_wp2_with fail
  go_ret2
  obtain ⟨hb, ho, he⟩ := HH.out
  refine ⟨v, s, l1.length + b, rfl, by omega, by rw [List.length_append]; omega, ?_, ?_, ?_, hbl⟩
  · exact seg_bd (l := l1 ++ l2) (pre := l1) (cur := l2) (post := []) (by simp) hbd (bd_len _) hb2 hb
  · rw [← List.drop_drop, List.drop_left]; exact ho
  · rw [he, List.take_length_add_append, List.drop_append, List.drop_eq_nil_of_le hp1, List.nil_append]

set_option maxHeartbeats 1000000 in
theorem tail_left (n : Nat) (ih : TailOk n) (c cl cr : Nat) (l1 l2 : List UInt8) (h h1 h2 : Nat) (p : Nat) (w : World)
    (k : ∃ t a1 a2 a3 a4, Node w c (some ⟨cl, 0, none⟩) (some ⟨cr, 0, none⟩) t h a1 a2 a3 a4) (hn1 : h1 ≤ n) (t1 : IsT w cl l1 h1) (t2 : IsT w cr l2 h2) (hbd : Bd (l1 ++ l2) l1.length) (hp : p < l1.length) (hs : (l1 ++ l2).length ≤ 1125899906842624) :
    Calls Tryd.prog 45 #[.pointer (some ⟨c, 0, none⟩), .int .i64 p] w fun e w' => ∃ (v : Option Addr) (s : ByteArray) (b : Nat), e = .returned (.tuple #[.string s, .pointer v]) ∧ p ≤ b ∧ b ≤ (l1 ++ l2).length ∧ Bd (l1 ++ l2) b ∧ OT w' v ((l1 ++ l2).drop b) ∧ bs s = ((l1 ++ l2).take b).drop p ∧ Below w.heap.size w w' := by
  obtain ⟨t, a1, a2, a3, a4, k⟩ := k
  obtain ⟨c0, c1, _⟩ := k.facts
  have lc := k.lt
  obtain ⟨_, _, _, kl⟩ := t1.any
  obtain ⟨_, _, _, _, d4, _⟩ := kl.facts
  have hs' := hs
  rw [List.length_append] at hs'
  have z1 : ¬ (l1.length : Int) ≤ (p : Int) := by omega
  have z2 : (p : Int) ≤ 1125899906842624 := by omega
  have HT := hide (And.intro t1 t2)
  clear k kl t1 t2
  go_enter Tryd.func45, Tryd.ntmps45
  go_wp2_with fail
  refine (isLeaf_any c _ w c0).mono ?_
  rintro e w1 ⟨rfl, hw⟩
  rw [hw]
  clear hw w1
  go_wp2_with fail
  refine (ih cl l1 h1 p w hn1 (HT.out).1 (by omega) (by omega)).mono ?_
  rintro e w2 ⟨v, s, b, rfl, hb1, hb2, hb, ho, he, hbl⟩
  have e0 := kcb hbl lc c0
  have e1 := kcb hbl lc c1
  have lc2 : c < w2.heap.size := by have := hbl.size; omega
  have HH := hide (And.intro hb (And.intro ho he))
  clear hb ho he c0 c1 d4
  go_wp2_with fail
  have hj : Bd (l1.drop b ++ l2) (l1.drop b).length := by
    have := bd_drop (n := b) hbd hb2
    rw [List.drop_append_of_le_length hb2] at this
    rwa [List.length_drop]
  have hjs : (l1.drop b ++ l2).length ≤ 1125899906842624 := by rw [List.length_append, List.length_drop]; omega
  refine (join_any v (some ⟨cr, 0, none⟩) (l1.drop b) l2 w2 (HH.out).2.1 (Or.inr ⟨cr, h2, rfl, (HT.out).2.below hbl⟩) hj hjs).mono ?_
  rintro e w3 ⟨v3, rfl, t3, hbl3⟩
  have HT3 := hide t3
  clear t3
  go_wp2_with fail
  go_ret2
  obtain ⟨hb, ho, he⟩ := HH.out
  refine ⟨v3, s, b, rfl, hb1, by rw [List.length_append]; omega, ?_, ?_, ?_, hbl.trans (hbl3.mono hbl.size)⟩
  · have := seg_bd (l := l1 ++ l2) (pre := []) (cur := l1) (post := l2) (by simp) (bd_zero _) (by simpa using hbd) hb2 hb
    simpa using this
  · rw [List.drop_append_of_le_length hb2]; exact HT3.out
  · rw [he, List.take_append_of_le_length hb2]

theorem tail_ok (n : Nat) : TailOk n := by
  have main : ∀ n, (∀ m, m < n → TailOk m) → TailOk n := by
    intro n ih c l h p w hn t hp hs
    rcases t.cases with ⟨tt, k, e, _, _⟩ | ⟨cl, cr, l1, l2, h1, h2, k, rfl, hbd, hh, t1, t2⟩
    · exact tail_leaf c l tt _ _ _ _ p w k e hp hs
    · cases n with
      | zero => omega
      | succ n =>
        by_cases hle : l1.length ≤ p
        · exact tail_right n (ih n (by omega)) c cl cr l1 l2 h h1 h2 p w ⟨_, _, _, _, _, k⟩ (by omega) t1 t2 hbd hle hp hs
        · exact tail_left n (ih n (by omega)) c cl cr l1 l2 h h1 h2 p w ⟨_, _, _, _, _, k⟩ (by omega) t1 t2 hbd (by omega) hs
  have all : ∀ n, ∀ m, m < n → TailOk m := by
    intro n
    induction n with
    | zero => intro m hm; omega
    | succ n ih => intro m hm; exact main m (fun k hk => ih k (by omega))
  exact all (n + 1) n (by omega)

set_option maxHeartbeats 400000 in
theorem tail_nil (p : Int) (w : World) : Calls Tryd.prog 45 #[.pointer none, .int .i64 p] w fun e w' => e = .returned (.tuple #[.string ⟨#[]⟩, .pointer none]) ∧ w' = w := by
  go_enter Tryd.func45, Tryd.ntmps45
  go_wp2_with fail
  go_ret2
  exact ⟨rfl, rfl⟩

/-- tailOf: a rest, and the leaves that begin behind a place. -/
theorem tail_any (v : Option Addr) (l : List UInt8) (p : Nat) (w : World) (t : OT w v l) (hp : p ≤ l.length) (hs : l.length ≤ 1125899906842624) :
    Calls Tryd.prog 45 #[.pointer v, .int .i64 p] w fun e w' => ∃ (v : Option Addr) (s : ByteArray) (b : Nat), e = .returned (.tuple #[.string s, .pointer v]) ∧ p ≤ b ∧ b ≤ l.length ∧ Bd l b ∧ OT w' v (l.drop b) ∧ bs s = (l.take b).drop p ∧ Below w.heap.size w w' := by
  rcases t with ⟨rfl, rfl⟩ | ⟨c, h, rfl, t⟩
  · refine (tail_nil p w).mono ?_
    rintro e w' ⟨rfl, rfl⟩
    simp at hp
    subst hp
    exact ⟨none, ⟨#[]⟩, 0, rfl, Nat.le_refl _, Nat.le_refl _, bd_zero _, Or.inl ⟨rfl, rfl⟩, by simp [bs], Below.refl _ _⟩
  · exact tail_ok h c l h p w (Nat.le_refl _) t hp hs
end Go.Proofs.YtopeagigdgjchaaDoor.Rp
