/- What Do makes of a history. -/
import Derived.Test.YtopeagigdgjchaaDoorUc
import Derived.Laws.OwnMore
namespace Go.Proofs.YtopeagigdgjchaaDoor
open Go.RowKit
open EM

/-- A history, but for what its numbers are. -/
structure IsC (w : World) (B h : Nat) (v : Value) (S : List Sta) (a : Int) : Prop where
  blk : w.heap[h]? = some (.cells #[v, .int .i64 a] 54 (0, 0))
  row : w.ownsRow B 51 3 v S.length (S.flatMap Sta.vals)
  rope : ∀ s ∈ S, Rp.IsR w s.r s.l
  next : ∀ s ∈ S, w.ownsRow B 3 1 s.v s.nx.length (ints s.nx)
  apart : ∀ (i j : Nat) (s t : Sta), S[i]? = some s → S[j]? = some t → i ≠ j → ∀ k, s.v.ownBlock = some k → t.v.ownBlock ≠ some k
  base : B ≤ h
theorem IsH.core {w : World} {B h : Nat} {v : Value} {S : List Sta} {a : Nat} (H : IsH w B h v S a) : IsC w B h v S a := ⟨H.blk, H.row, H.rope, H.next, H.apart, H.base⟩
theorem IsC.typed {w : World} {B h : Nat} {v : Value} {S : List Sta} {a : Int} (H : IsC w B h v S a) {k : Nat} (hk : FpH h v S k) : ∃ cs t, w.heap[k]? = some (.cells cs t (0, 0)) ∧ (t = 54 ∨ t = 51 ∨ t = 3) := by
  rcases hk with rfl | hk | ⟨s, hs, hk⟩
  · exact ⟨_, _, H.blk, .inl rfl⟩
  · obtain ⟨cs, h1, h2⟩ := owns_block H.row hk; exact ⟨cs, _, h1, .inr (.inl rfl)⟩
  · obtain ⟨cs, h1, h2⟩ := owns_block (H.next s hs) hk; exact ⟨cs, _, h1, .inr (.inr rfl)⟩
theorem IsC.rk {w w' : World} {B h : Nat} {v : Value} {S : List Sta} {a : Int} (H : IsC w B h v S a) (K : Kp (FpH h v S) w w') : RK w w' := fun k cs t ht hk =>
  K.heap hk (fun hf => by
    obtain ⟨_, t', h1, h2⟩ := H.typed hf
    rw [hk] at h1
    cases h1
    rcases ht with rfl | rfl <;> rcases h2 with h | h | h <;> cases h)
theorem IsC.keep {w w' : World} {B h : Nat} {v : Value} {S : List Sta} {a : Int} (H : IsC w B h v S a) {T : Nat → Prop} (K : Kp T w w') (hT : ∀ k, FpH h v S k → ¬ T k) (hR : RK w w') : IsC w' B h v S a where
  blk := K.heap H.blk (hT h (.inl rfl))
  row := K.owns H.row (fun k e => hT k (.inr (.inl e)))
  rope := fun s hs => hR.rope (H.rope s hs)
  next := fun s hs => K.owns (H.next s hs) (fun k e => hT k (.inr (.inr ⟨s, hs, e⟩)))
  apart := H.apart
  base := H.base
theorem IsC.below {w w' : World} {B h : Nat} {v : Value} {S : List Sta} {a : Int} (H : IsC w B h v S a) (hb : Below w.heap.size w w') : IsC w' B h v S a :=
  H.keep (Kp.ofBelow hb (fun _ => False)) (fun _ _ => id) (RK.below hb)
theorem IsC.froze {w : World} {B h : Nat} {v : Value} {S : List Sta} {a : Int} (H : IsC w B h v S a) : w.cell? ⟨h, 0, none⟩ = some v ∧ w.cell? ⟨h, 1, none⟩ = some (.int .i64 a) ∧ w.frozen? ⟨h, 0, none⟩ = false ∧ w.frozen? ⟨h, 1, none⟩ = false := by
  refine ⟨?_, ?_, ?_, ?_⟩ <;> simp [World.cell?, World.frozen?, H.blk]
theorem set_flat {S : List Sta} {i : Nat} {s : Sta} (hs : S[i]? = some s) (u : Value) (l : List Nat) : (S.set i { s with v := u, nx := l }).flatMap Sta.vals = (S.flatMap Sta.vals).set (i * 3 + 2) u := by
  induction S generalizing i with
  | nil => simp at hs
  | cons c S ih =>
    cases i with
    | zero =>
      obtain rfl : c = s := by simpa using hs
      simp [Sta.vals]
    | succ i =>
      have := ih (i := i) (by simpa using hs)
      simp only [List.set_cons_succ, List.flatMap_cons, this]
      rw [show (i + 1) * 3 + 2 = (Sta.vals c).length + (i * 3 + 2) by simp [Sta.vals]; omega, List.set_append, if_neg (by omega), Nat.add_sub_cancel_left]
/-- One more comes from a state. -/
theorem IsC.nexted {w w5 : World} {B h g n cap : Nat} {S : List Sta} {a : Int} {i m : Nat} {s : Sta} (H : IsC w B h (.slice (some ⟨g, 0, none⟩) n cap) S a) (hs : S[i]? = some s)
    {g1 c1 : Nat} (hown : w5.ownsRow B 3 1 (.slice (some ⟨g1, 0, none⟩) (s.nx.length + 1) c1) (s.nx.length + 1) (ints s.nx ++ [.int .i64 (m : Int)])) (hgrow : w.grownBy w5 s.v.ownBlock) (hat : s.v.ownBlock = some g1 ∨ w.heap.size ≤ g1) :
    IsC (w5.setCell ⟨g, i * 3 + 2, none⟩ (.slice (some ⟨g1, 0, none⟩) (s.nx.length + 1) c1)) B h (.slice (some ⟨g, 0, none⟩) n cap) (S.set i { s with v := .slice (some ⟨g1, 0, none⟩) (s.nx.length + 1) c1, nx := s.nx ++ [m] }) a ∧
    Kp (FpH h (.slice (some ⟨g, 0, none⟩) n cap) S) w (w5.setCell ⟨g, i * 3 + 2, none⟩ (.slice (some ⟨g1, 0, none⟩) (s.nx.length + 1) c1)) ∧
    ∀ k, FpH h (.slice (some ⟨g, 0, none⟩) n cap) (S.set i { s with v := .slice (some ⟨g1, 0, none⟩) (s.nx.length + 1) c1, nx := s.nx ++ [m] }) k → FpH h (.slice (some ⟨g, 0, none⟩) n cap) S k ∨ w.heap.size ≤ k := by
  have hms : s ∈ S := List.mem_of_getElem? hs
  have hlt := (List.getElem?_eq_some_iff.1 hs).1
  have hgb : (Value.slice (some ⟨g, 0, none⟩) n cap).ownBlock = some g := rfl
  obtain ⟨cg, hg1, hgB⟩ := owns_block H.row hgb
  -- the rows of numbers are not the row of states, and not the history's block
  have ne : ∀ k, (∃ cs, w.heap[k]? = some (.cells cs 3 (0, 0))) → k ≠ g ∧ k ≠ h := by
    intro k ⟨cs, hk⟩
    constructor
    · intro e; rw [e, hg1] at hk; cases hk
    · intro e; rw [e, H.blk] at hk; cases hk
  have K5 : Kp (fun k => s.v.ownBlock = some k) w w5 := (Kp.refl _ w).grown hgrow (fun k e _ => e)
  have K6 : Kp (fun k => s.v.ownBlock = some k ∨ k = g) w (w5.setCell ⟨g, i * 3 + 2, none⟩ (.slice (some ⟨g1, 0, none⟩) (s.nx.length + 1) c1)) :=
    (K5.mono (fun _ _ e => .inl e)).setCell (p := ⟨g, i * 3 + 2, none⟩) (fun _ => .inr rfl) _
  have K : Kp (FpH h (.slice (some ⟨g, 0, none⟩) n cap) S) w (w5.setCell ⟨g, i * 3 + 2, none⟩ (.slice (some ⟨g1, 0, none⟩) (s.nx.length + 1) c1)) :=
    K6.mono (fun k _ e => by
      rcases e with e | e
      · exact .inr (.inr ⟨s, hms, e⟩)
      · exact .inr (.inl (by rw [e]; rfl)))
  have hR := H.rk K
  have hg1g : g1 ≠ g := by
    rcases hat with e | e
    · obtain ⟨cs, h1, _⟩ := owns_block (H.next s hms) e
      exact (ne g1 ⟨cs, h1⟩).1
    · have := heap_lt hg1; omega
  have row5 : w5.ownsRow B 51 3 (.slice (some ⟨g, 0, none⟩) n cap) S.length (S.flatMap Sta.vals) := K5.owns H.row (fun k e hk => by
    obtain ⟨cs, h1, _⟩ := owns_block (H.next s hms) hk
    cases e
    exact (ne _ ⟨cs, h1⟩).1 rfl)
  have hn : n = S.length := by
    rcases row5.2 with ⟨e, _⟩ | ⟨_, _, _, e, _⟩
    · cases e
    · cases e; rfl
  subst hn
  refine ⟨⟨?_, ?_, ?_, ?_, ?_, H.base⟩, K, ?_⟩
  · exact K6.heap H.blk (fun e => by
      rcases e with e | e
      · obtain ⟨cs, h1, _⟩ := owns_block (H.next s hms) e
        exact (ne h ⟨cs, h1⟩).2 rfl
      · have := H.blk; rw [e, hg1] at this; cases this)
  · rw [set_flat hs, List.length_set]
    exact (row5.stored _ _).1
  · intro t ht
    rcases List.mem_or_eq_of_mem_set ht with ht | rfl
    · exact hR.rope (H.rope t ht)
    · exact hR.rope (H.rope s hms)
  · intro t ht
    obtain ⟨j, hj⟩ := List.getElem?_of_mem ht
    by_cases hij : i = j
    · subst hij
      rw [List.getElem?_set_self hlt] at hj
      cases hj
      have : ints (s.nx ++ [m]) = ints s.nx ++ [.int .i64 (m : Int)] := by simp [ints]
      simp only [List.length_append, List.length_singleton, this]
      exact ownsRow_setCell_other hown (by intro e; cases e; exact hg1g rfl) _
    · rw [List.getElem?_set_ne hij] at hj
      have htm := List.mem_of_getElem? hj
      refine K6.owns (H.next t htm) (fun k e hk => ?_)
      rcases hk with hk | hk
      · exact H.apart j i t s hj hs (Ne.symm hij) k e hk
      · obtain ⟨cs, h1, _⟩ := owns_block (H.next t htm) e
        exact (ne k ⟨cs, h1⟩).1 hk
  · intro j1 j2 s1 s2 h1 h2 hne k e1 e2
    have key : ∀ (j : Nat) (t : Sta), (S.set i { s with v := .slice (some ⟨g1, 0, none⟩) (s.nx.length + 1) c1, nx := s.nx ++ [m] })[j]? = some t → (j = i ∧ t.v.ownBlock = some g1) ∨ (j ≠ i ∧ S[j]? = some t) := by
      intro j t hj
      by_cases hij : i = j
      · subst hij
        rw [List.getElem?_set_self hlt] at hj
        cases hj
        exact .inl ⟨rfl, rfl⟩
      · rw [List.getElem?_set_ne hij] at hj
        exact .inr ⟨Ne.symm hij, hj⟩
    have other : ∀ (j : Nat) (t : Sta), j ≠ i → S[j]? = some t → t.v.ownBlock ≠ some g1 := by
      intro j t hj ht e
      rcases hat with e' | e'
      · exact H.apart j i t s ht hs hj g1 e e'
      · obtain ⟨cs, h1, _⟩ := owns_block (H.next t (List.mem_of_getElem? ht)) e
        have := heap_lt h1; omega
    rcases key j1 s1 h1 with ⟨x1, x2⟩ | ⟨x1, x2⟩ <;> rcases key j2 s2 h2 with ⟨y1, y2⟩ | ⟨y1, y2⟩
    · omega
    · rw [x2] at e1; cases e1; exact other j2 s2 y1 y2 e2
    · rw [y2] at e2; cases e2; exact other j1 s1 x1 x2 e1
    · exact H.apart j1 j2 s1 s2 x2 y2 hne k e1 e2
  · intro k hk
    rcases hk with e | e | ⟨t, ht, e⟩
    · exact .inl (.inl e)
    · exact .inl (.inr (.inl e))
    · rcases List.mem_or_eq_of_mem_set ht with ht | rfl
      · exact .inl (.inr (.inr ⟨t, ht, e⟩))
      · cases e
        rcases hat with e' | e'
        · exact .inl (.inr (.inr ⟨s, hms, e'⟩))
        · exact .inr e'
theorem IsC.spot {w w5 : World} {B h g n cap : Nat} {S : List Sta} {a : Int} {i : Nat} {s : Sta} (H : IsC w B h (.slice (some ⟨g, 0, none⟩) n cap) S a) (hs : S[i]? = some s) (hgrow : w.grownBy w5 s.v.ownBlock) :
    w5.cell? ⟨g, i * 3 + 2, none⟩ = some s.v ∧ w5.frozen? ⟨g, i * 3 + 2, none⟩ = false := by
  have hms : s ∈ S := List.mem_of_getElem? hs
  have K5 : Kp (fun k => s.v.ownBlock = some k) w w5 := (Kp.refl _ w).grown hgrow (fun k e _ => e)
  have row5 : w5.ownsRow B 51 3 (.slice (some ⟨g, 0, none⟩) n cap) S.length (S.flatMap Sta.vals) := K5.owns H.row (fun k e hk => by
    obtain ⟨cs, h1, _⟩ := owns_block (H.next s hms) hk
    obtain ⟨cs', h2, _⟩ := owns_block H.row e
    rw [h1] at h2; cases h2)
  have hl : ∀ a : Sta, a.vals.length = 3 := fun _ => rfl
  have k2 := row5.cells (g := g) rfl (i * 3 + 2) _ ((flat3 Sta.vals hl hs (by omega)).trans rfl)
  rw [add0] at k2
  obtain ⟨cs, h1, _⟩ := owns_block row5 (k := g) rfl
  exact ⟨k2, by simp [World.frozen?, h1]⟩
theorem IsC.spot2 {w w7 : World} {B h : Nat} {v : Value} {S : List Sta} {a : Int} (H : IsC w B h v S a) (hgrow : w.grownBy w7 v.ownBlock) :
    w7.cell? ⟨h, 0, none⟩ = some v ∧ w7.frozen? ⟨h, 0, none⟩ = false ∧ w7.cell? ⟨h, 1, none⟩ = some (.int .i64 a) ∧ w7.frozen? ⟨h, 1, none⟩ = false := by
  have K7 : Kp (fun k => v.ownBlock = some k) w w7 := (Kp.refl _ w).grown hgrow (fun k e _ => e)
  have b7 : w7.heap[h]? = some (.cells #[v, .int .i64 a] 54 (0, 0)) := K7.heap H.blk (fun e => by
    obtain ⟨cs, h1, _⟩ := owns_block H.row e
    rw [H.blk] at h1; cases h1)
  refine ⟨?_, ?_, ?_, ?_⟩ <;> simp [World.cell?, World.frozen?, b7]
theorem IsC.moved {w : World} {B h : Nat} {v : Value} {S : List Sta} {a : Int} (H : IsC w B h v S a) (b : Int) :
    IsC (w.setCell ⟨h, 1, none⟩ (.int .i64 b)) B h v S b ∧ Kp (FpH h v S) w (w.setCell ⟨h, 1, none⟩ (.int .i64 b)) := by
  have K1 : Kp (fun k => k = h) w (w.setCell ⟨h, 1, none⟩ (.int .i64 b)) := (Kp.refl (fun k => k = h) w).setCell (p := ⟨h, 1, none⟩) (fun _ => rfl) _
  have K : Kp (FpH h v S) w (w.setCell ⟨h, 1, none⟩ (.int .i64 b)) := K1.mono (fun _ _ e => .inl e)
  have hR := H.rk K
  have hne : ∀ {n : Nat} {e : TypeId} {size : Nat} {u : Value} {xs : List Value}, w.ownsRow B e size u n xs → e ≠ 54 → ∀ k, u.ownBlock = some k → ¬ (k = h) := by
    intro n e size u xs ho hne k hk e'
    obtain ⟨cs, h1, _⟩ := owns_block ho hk
    rw [e', H.blk] at h1
    cases h1
    exact hne rfl
  refine ⟨⟨?_, K1.owns H.row (hne H.row (by decide)), fun s hs => hR.rope (H.rope s hs), fun s hs => K1.owns (H.next s hs) (hne (H.next s hs) (by decide)), H.apart, H.base⟩, K⟩
  simp [World.setCell, Array.getElem?_modify, H.blk]
/-- One more state. -/
theorem IsC.stated {w w7 : World} {B h : Nat} {v : Value} {S : List Sta} {a : Int} {t : Sta} (H : IsC w B h v S a) (ht : Rp.IsR w t.r t.l) (htv : t.v = .slice none 0 0) (htn : t.nx = [])
    {g2 n2 c2 : Nat} (hown : w7.ownsRow B 51 3 (.slice (some ⟨g2, 0, none⟩) n2 c2) (S.length + 1) (S.flatMap Sta.vals ++ t.vals)) (hgrow : w.grownBy w7 v.ownBlock) (hat : v.ownBlock = some g2 ∨ w.heap.size ≤ g2) :
    IsC (w7.setCell ⟨h, 0, none⟩ (.slice (some ⟨g2, 0, none⟩) n2 c2)) B h (.slice (some ⟨g2, 0, none⟩) n2 c2) (S ++ [t]) a ∧
    Kp (FpH h v S) w (w7.setCell ⟨h, 0, none⟩ (.slice (some ⟨g2, 0, none⟩) n2 c2)) ∧
    ∀ k, FpH h (.slice (some ⟨g2, 0, none⟩) n2 c2) (S ++ [t]) k → FpH h v S k ∨ w.heap.size ≤ k := by
  have K7 : Kp (fun k => v.ownBlock = some k) w w7 := (Kp.refl _ w).grown hgrow (fun k e _ => e)
  have K8 : Kp (fun k => v.ownBlock = some k ∨ k = h) w (w7.setCell ⟨h, 0, none⟩ (.slice (some ⟨g2, 0, none⟩) n2 c2)) :=
    (K7.mono (fun _ _ e => .inl e)).setCell (p := ⟨h, 0, none⟩) (fun _ => .inr rfl) _
  have K : Kp (FpH h v S) w (w7.setCell ⟨h, 0, none⟩ (.slice (some ⟨g2, 0, none⟩) n2 c2)) := K8.mono (fun k _ e => by
    rcases e with e | e
    · exact .inr (.inl e)
    · exact .inl e)
  have hR := H.rk K
  have hvh : v.ownBlock ≠ some h := fun e => by
    obtain ⟨cs, h1, _⟩ := owns_block H.row e
    rw [H.blk] at h1; cases h1
  have b7 : w7.heap[h]? = some (.cells #[v, .int .i64 a] 54 (0, 0)) := K7.heap H.blk hvh
  have hg2h : g2 ≠ h := by
    intro e
    rcases hat with e' | e'
    · rw [e] at e'; exact hvh e'
    · have := heap_lt H.blk; omega
  have hnx : ∀ s ∈ S, ∀ k, s.v.ownBlock = some k → ¬ (v.ownBlock = some k ∨ k = h) := by
    intro s hs k e hk
    obtain ⟨cs, h1, _⟩ := owns_block (H.next s hs) e
    rcases hk with hk | hk
    · obtain ⟨cs', h2, _⟩ := owns_block H.row hk
      rw [h1] at h2; cases h2
    · rw [hk, H.blk] at h1; cases h1
  have hget : ∀ (j : Nat) (u : Sta), (S ++ [t])[j]? = some u → S[j]? = some u ∨ u = t := by
    intro j u hj
    rcases Nat.lt_or_ge j S.length with hl | hl
    · rw [List.getElem?_append_left hl] at hj; exact .inl hj
    · rw [List.getElem?_append_right hl] at hj
      exact .inr (by simpa using List.mem_of_getElem? hj)
  refine ⟨⟨?_, ?_, ?_, ?_, ?_, H.base⟩, K, ?_⟩
  · simp [World.setCell, Array.getElem?_modify, b7]
  · rw [List.length_append, List.length_singleton, List.flatMap_append]
    have : List.flatMap Sta.vals [t] = t.vals := by simp
    rw [this]
    exact ownsRow_setCell_other hown (by intro e; cases e; exact hg2h rfl) _
  · intro u hu
    rcases List.mem_append.1 hu with hu | hu
    · exact hR.rope (H.rope u hu)
    · obtain rfl := List.mem_singleton.1 hu; exact hR.rope ht
  · intro u hu
    rcases List.mem_append.1 hu with hu | hu
    · exact K8.owns (H.next u hu) (hnx u hu)
    · obtain rfl := List.mem_singleton.1 hu
      rw [htv, htn]
      exact World.ownsRow_nil _ _ _ _
  · intro j1 j2 s1 s2 h1 h2 hne k e1 e2
    rcases hget j1 s1 h1 with x | x
    · rcases hget j2 s2 h2 with y | y
      · exact H.apart j1 j2 s1 s2 x y hne k e1 e2
      · rw [y, htv] at e2; cases e2
    · rw [x, htv] at e1; cases e1
  · intro k hk
    rcases hk with e | e | ⟨u, hu, e⟩
    · exact .inl (.inl e)
    · cases e
      rcases hat with e' | e'
      · exact .inl (.inr (.inl e'))
      · exact .inr e'
    · rcases List.mem_append.1 hu with hu | hu
      · exact .inl (.inr (.inr ⟨u, hu, e⟩))
      · obtain rfl := List.mem_singleton.1 hu
        rw [htv] at e; cases e

set_option maxHeartbeats 1000000 in
theorem do_no (w : World) (B h : Nat) (v : Value) (S : List Sta) (a : Nat) (s : Sta) (u : Value) (L : List Rw) (H : IsH w B h v S a) (hs : S[a]? = some s) (hu : IsL w u L) (hf : flt s.l.length L ≠ 0) :
    Calls Tryd.prog 7 #[.pointer (some ⟨h, 0, none⟩), u] w fun e w' => e = .returned (.iface 64 (.int .i64 (flt s.l.length L))) ∧ Below w.heap.size w w' := by
  obtain ⟨g, cap, rfl, _, _, hg⟩ := H.form
  have HH := hide H
  have HS := hide hs
  have HU := hide hu
  have hu' := hu
  obtain ⟨ao, uc, rfl, _⟩ := hu'
  have HF := hide hf
  clear H hs hu hf
  go_enter Tryd.func7, Tryd.ntmps7
  go_wp2_with fail
  refine (here_any w B h g _ cap S a HH.out).mono ?_
  rintro e w1 ⟨rfl, q, hw⟩
  have B1 : Below w.heap.size w w1 := by rw [hw]; exact belowQ q
  clear hw
  obtain ⟨k0, k1, k2⟩ := ((HH.out).below B1).state HS.out
  have hr := hide ((HH.out).rope s (List.mem_of_getElem? HS.out))
  go_wp2_with fail
  refine (edited_no s.r s.l _ L w1 ((hr.out).below B1) ((HU.out).below B1) HF.out).mono ?_
  rintro e w2 ⟨rfl, hb2⟩
  obtain ⟨k, hk⟩ : ∃ k, flt s.l.length L = k := ⟨_, rfl⟩
  rw [hk]
  have HKK := hide hk
  clear hk k0 k1 k2
  go_wp2_with fail
  go_ret
  exact ⟨by rw [HKK.out]; rfl, B1.trans (hb2.mono B1.size)⟩
theorem info51 : (Tryd.prog.info? 51).map (fun i => (i.zero, i.size, i.bytes)) = some (some (.agg #[.pointer none, .int .i64 0, .slice none 0 0]), 3, 40) := by kernel_rfl
set_option maxRecDepth 100000 in
set_option maxHeartbeats 2000000 in
theorem do_yes (w : World) (B h : Nat) (v : Value) (S : List Sta) (a : Nat) (s : Sta) (u : Value) (Ls : List Sp) (hT : Rp.Tabs w) (H : IsH w B h v S a) (hs : S[a]? = some s) (hu : IsL w u (Ls.map raw)) (hok : Ok 0 s.l.length Ls)
    (hsl : s.l.length ≤ 1073741824) (hLl : Ls.length ≤ 1048576) (hLs : smallL (Ls.map raw)) (hSl : S.length ≤ 1073741824) (hnl : s.nx.length ≤ 1073741824) (hBw : B ≤ w.heap.size) :
    Calls Tryd.prog 7 #[.pointer (some ⟨h, 0, none⟩), u] w fun e w' => e = .returned .nilIface ∧ ∃ v' q v1, IsH w' B h v' (S.set a { s with v := v1, nx := s.nx ++ [S.length] } ++ [⟨q, app s.l 0 Ls, a, .slice none 0 0, []⟩]) S.length ∧
      Kp (FpH h v S) w w' ∧ ∀ k, FpH h v' (S.set a { s with v := v1, nx := s.nx ++ [S.length] } ++ [⟨q, app s.l 0 Ls, a, .slice none 0 0, []⟩]) k → FpH h v S k ∨ w.heap.size ≤ k := by
  obtain ⟨i0, hi0, hz0, hz1, hz2⟩ := info_parts info3
  obtain ⟨j0, hj0, hy0, hy1, hy2⟩ := info_parts info51
  obtain ⟨g, cap, rfl, _, _, hg⟩ := H.form
  have HH := hide H
  have HS := hide hs
  have HU := hide hu
  obtain ⟨L, hL⟩ : ∃ L, Ls.map raw = L := ⟨_, rfl⟩
  have hu' := hu
  rw [hL] at hu'
  obtain ⟨ao, uc, rfl, _⟩ := hu'
  have HL := hide hL
  have HOK := hide hok
  have HLS := hide hLs
  clear H hs hu hok hL hLs
  go_enter Tryd.func7, Tryd.ntmps7
  go_wp2_with fail
  refine (here_any w B h g _ cap S a HH.out).mono ?_
  rintro e w1 ⟨rfl, q, hw⟩
  have B1 : Below w.heap.size w w1 := by rw [hw]; exact belowQ q
  clear hw
  obtain ⟨k0, k1, k2⟩ := ((HH.out).below B1).state HS.out
  have hr := hide ((HH.out).rope s (List.mem_of_getElem? HS.out))
  go_wp2_with fail
  refine (edited_yes s.r s.l _ Ls w1 (hT.below B1) ((hr.out).below B1) ((HU.out).below B1) HOK.out hsl hLl HLS.out).mono ?_
  rintro e w2 ⟨q2, rfl, kq, hb2⟩
  have HQ := hide kq
  have B2 : Below w.heap.size w w2 := B1.trans (hb2.mono B1.size)
  have H2 := hide ((HH.out).below B2)
  obtain ⟨c0, c1, f0, f1⟩ := (H2.out).froze
  clear k0 k1 k2 kq
  go_wp2_with fail
  refine (here_any w2 B h g _ cap S a H2.out).mono ?_
  rintro e w3 ⟨rfl, q3, hw⟩
  have B3 : Below w2.heap.size w2 w3 := by rw [hw]; exact belowQ q3
  have z3 := hide (show w3.heap.size = w2.heap.size by rw [hw]; rfl)
  clear hw c0 c1 f0 f1
  have H3 := hide ((H2.out).below B3)
  go_wp2_with fail
  refine (here_any w3 B h g _ cap S a H3.out).mono ?_
  rintro e w4 ⟨rfl, q4, hw⟩
  have B4 : Below w2.heap.size w2 w4 := by rw [hw]; exact belowN B3 q4
  have z4 := hide (show w4.heap.size = w2.heap.size by rw [hw]; exact z3.out)
  clear hw
  have H4 := hide ((H2.out).below B4)
  obtain ⟨k0, k1, k2⟩ := (H4.out).state HS.out
  have hown := hide ((H4.out).next s (List.mem_of_getElem? HS.out))
  have hBw4 : B ≤ w4.heap.size := by have := B2.size; have := z4.out; omega
  go_wp2_with (at_builtin; refine wpList_append_lies _ rfl _ _ 27 rfl B 3 i0 (.int .i64 0) 1 8 Tryd.underlying27 hi0 hz0 hz1 hz2 rfl (by decide) s.v s.nx.length (ints s.nx) rfl ((hown.out).alloc _) ⟨w4.heap.size, 0, none⟩ 1 1 [.int .i64 (S.length : Int)] rfl rfl (World.news_of_block (cs := #[.int .i64 (S.length : Int)]) (heap_alloc_new w4 _)) (by simp [Value.oneCell']) (by omega) (by unfold maxLen; omega) (by omega) (by simp; omega) (w4.heap.size + 1) (by simp) ?_)
  intro g1 cap1 w5 hown5 hgrow5 hat5 hlt5
  have HA := ((H4.out).core.below ((Below.refl _ w4).alloc (Nat.le_refl _) (.cells #[.int .i64 (S.length : Int)] 3)))
  obtain ⟨y1, y2⟩ := HA.spot HS.out hgrow5
  have hN := HA.nexted HS.out hown5 hgrow5 (by rcases hat5 with e | e; exact .inl e; exact .inr (by simp; omega))
  have HN := hide hN
  have KA : Kp (FpH h (.slice (some ⟨g, 0, none⟩) S.length cap) S) w (w4.alloc (.cells #[.int .i64 (S.length : Int)] 3)) := (Kp.ofBelow (B2.trans (B4.mono B2.size)) _).alloc _
  have HKA := hide KA
  clear hN HA KA k0 k1 k2 hown5 hgrow5 hat5
  go_wp2_with fail
  obtain ⟨w6, hw6⟩ : ∃ w6, w5.setCell ⟨g, a * 3 + 2, none⟩ (.slice (some ⟨g1, 0, none⟩) (s.nx.length + 1) cap1) = w6 := ⟨_, rfl⟩
  rw [hw6] at HN ⊢
  have C6 := (HN.out).1
  obtain ⟨c0, c1, f0, f1⟩ := C6.froze
  have hown6 := C6.row
  have HC6 := hide C6
  have HO6 := hide hown6
  have hz6 : w4.heap.size + 1 ≤ w6.heap.size := by have := (HN.out).2.1.size; simpa using this
  have hB6 : B ≤ w6.heap.size := by omega
  have hh6 : h < w6.heap.size := heap_lt C6.blk
  have RK6 : RK (w4.alloc (.cells #[.int .i64 (S.length : Int)] 3)) w6 := ((H4.out).core.below ((Below.refl _ w4).alloc (Nat.le_refl _) (.cells #[.int .i64 (S.length : Int)] 3))).rk (HN.out).2.1
  have HQ6 := hide (RK6.rope (((HQ.out).below B4).below ((Below.refl _ w4).alloc (Nat.le_refl _) _)))
  clear hw6 y1 y2 C6 hown6 RK6
  obtain ⟨S1, hS1⟩ : ∃ S1, S.set a { s with v := .slice (some ⟨g1, 0, none⟩) (s.nx.length + 1) cap1, nx := s.nx ++ [S.length] } = S1 := ⟨_, rfl⟩
  have hS1l : S1.length = S.length := by rw [← hS1, List.length_set]
  have HSL := hide hS1l
  rw [hS1] at HN HC6 HO6
  have HS1 := hide hS1
  clear hS1 hS1l
  go_region_law (refine step_append_lies _ (by rfl) _ _ _ (by rfl) B 51 j0 _ 3 40 Tryd.underlying52 hj0 hy0 hy1 hy2 rfl (by omega) (.slice (some ⟨g, 0, none⟩) S.length cap) S1.length (S1.flatMap Sta.vals) (by rfl) (((HO6.out).alloc _)) ⟨w6.heap.size, 0, none⟩ 1 1 [.pointer (some ⟨q2, 0, none⟩), .int .i64 (a : Int), .slice none 0 0] (by rfl) (by rfl) (World.news_of_block (cs := #[.pointer (some ⟨q2, 0, none⟩), .int .i64 (a : Int), .slice none 0 0]) (t := 51) (fr := (0, 0)) (heap_alloc_new w6 _)) (by simp [Value.oneCell']) (by omega) (by have := HSL.out; unfold maxLen; omega) (by have := HSL.out; omega) (by simp; omega) (w6.heap.size + 1) (by simp) ?_; intro g2 cap2 w7 hown7 hgrow7 hat7 hlt7; obtain ⟨m1, m2, m3, m4⟩ := IsC.spot2 ((HC6.out).below (by first | exact ((Below.refl _ _).alloc (Nat.le_refl _) _).drew | exact ((Below.refl _ _).drew.alloc (Nat.le_refl _) _) | exact (Below.refl _ _).alloc (Nat.le_refl _) _)) hgrow7)
  all_goals
    obtain ⟨W, BW, hgW, hzW⟩ : ∃ W, Below w6.heap.size w6 W ∧ W.grownBy w7 (Value.slice (some ⟨g, 0, none⟩) S.length cap).ownBlock ∧ W.heap.size = w6.heap.size + 1 := ⟨_, by first | exact ((Below.refl _ _).alloc (Nat.le_refl _) _).drew | exact ((Below.refl _ _).drew.alloc (Nat.le_refl _) _) | exact (Below.refl _ _).alloc (Nat.le_refl _) _, hgrow7, by simp [World.drew]⟩
    have hSt := IsC.stated (t := ⟨q2, app s.l 0 Ls, a, .slice none 0 0, []⟩) ((HC6.out).below BW) ((HQ6.out).below BW) rfl rfl hown7 hgW (by rcases hat7 with e | e; exact .inl e; exact .inr (by omega))
    have HSt := hide hSt
    have HZW := hide hzW
    clear hSt hown7 hgrow7 hat7 hgW hzW
    go_wp2_with fail
    go_ret
    obtain ⟨C8, K8, F8⟩ := HSt.out
    obtain ⟨C9, K9⟩ := C8.moved (S.length : Int)
    obtain ⟨_, K6, F6⟩ := HN.out
    have KA := HKA.out
    have sz4 := KA.size
    have sz6 := K6.size
    have szW := BW.size
    have FF : ∀ k, FpH h (.slice (some ⟨g2, 0, none⟩) (S1.length + 1) cap2) (S1 ++ [⟨q2, app s.l 0 Ls, a, .slice none 0 0, []⟩]) k → FpH h (.slice (some ⟨g, 0, none⟩) S.length cap) S k ∨ w.heap.size ≤ k := by
      intro k hk
      rcases F8 k hk with hk | hk
      · rcases F6 k hk with hk | hk
        · exact .inl hk
        · exact .inr (by omega)
      · exact .inr (by omega)
    have KK : Kp (FpH h (.slice (some ⟨g, 0, none⟩) S.length cap) S) w W := (KA.trans K6 (fun _ _ h => h)).trans (Kp.ofBelow BW (fun _ => False)) (fun _ _ h => h.elim)
    have K8' := KK.trans K8 (fun k hk h1 => by
      rcases F6 k h1 with h2 | h2
      · exact h2
      · omega)
    have K9' := K8'.trans K9 (fun k hk h1 => by
      rcases FF k h1 with h2 | h2
      · exact h2
      · omega)
    refine ⟨rfl, .slice (some ⟨g2, 0, none⟩) (S1.length + 1) cap2, q2, .slice (some ⟨g1, 0, none⟩) (s.nx.length + 1) cap1, ?_⟩
    rw [HS1.out]
    have hHH := HH.out
    have hS1l := HSL.out
    refine ⟨⟨C9.blk, C9.row, C9.rope, C9.next, C9.apart, by simp [hS1l], ?_, ?_, C9.base⟩, K9', FF⟩
    · intro u hu
      rw [List.length_append, List.length_singleton, hS1l]
      rcases List.mem_append.1 hu with hu | hu
      · rw [← HS1.out] at hu
        rcases List.mem_or_eq_of_mem_set hu with hu | rfl
        · have := hHH.fr u hu; omega
        · have := hHH.fr s (List.mem_of_getElem? HS.out); show s.f < _; omega
      · obtain rfl := List.mem_singleton.1 hu
        have := hHH.lt
        show a < _
        omega
    · intro u hu n hn
      rw [List.length_append, List.length_singleton, hS1l]
      rcases List.mem_append.1 hu with hu | hu
      · rw [← HS1.out] at hu
        rcases List.mem_or_eq_of_mem_set hu with hu | rfl
        · have := hHH.nl u hu n hn; omega
        · rcases List.mem_append.1 hn with hn | hn
          · have := hHH.nl s (List.mem_of_getElem? HS.out) n hn; omega
          · obtain rfl := List.mem_singleton.1 hn; omega
      · obtain rfl := List.mem_singleton.1 hu
        cases hn
end Go.Proofs.YtopeagigdgjchaaDoor
