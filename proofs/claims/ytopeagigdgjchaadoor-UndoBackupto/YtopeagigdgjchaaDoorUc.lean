/- A history in memory. -/
import Derived.Test.YtopeagigdgjchaaDoorUb
import Derived.Lib.SliceRun
namespace Go.Proofs.YtopeagigdgjchaaDoor
open Go.RowKit
open EM

/-- A state: where its rope lies, its text, where it comes from, and those that come from it. -/
structure Sta where
  r : Nat
  l : By
  f : Nat
  v : Value
  nx : List Nat
def Sta.vals (s : Sta) : List Value := [.pointer (some ⟨s.r, 0, none⟩), .int .i64 (s.f : Int), s.v]
def ints (l : List Nat) : List Value := l.map fun (n : Nat) => Value.int .i64 (n : Int)
theorem ints_length (l : List Nat) : (ints l).length = l.length := by simp [ints]
theorem flat3 {α : Type} (f : α → List Value) (hf : ∀ a, (f a).length = 3) {S : List α} {i j : Nat} {s : α} (hs : S[i]? = some s) (hj : j < 3) : (S.flatMap f)[i * 3 + j]? = (f s)[j]? := by
  induction S generalizing i with
  | nil => simp at hs
  | cons a S ih =>
    cases i with
    | zero =>
      obtain rfl : a = s := by simpa using hs
      rw [List.flatMap_cons, List.getElem?_append_left (by rw [hf]; omega)]; simp
    | succ i =>
      rw [List.flatMap_cons, List.getElem?_append_right (by rw [hf]; omega), hf, show (i + 1) * 3 + j - 3 = i * 3 + j by omega]
      exact ih (by simpa using hs)
/-- What a history may turn. -/
def FpH (h : Nat) (v : Value) (S : List Sta) (k : Nat) : Prop := k = h ∨ v.ownBlock = some k ∨ ∃ s ∈ S, s.v.ownBlock = some k
structure IsH (w : World) (B h : Nat) (v : Value) (S : List Sta) (at' : Nat) : Prop where
  blk : w.heap[h]? = some (.cells #[v, .int .i64 (at' : Int)] 54 (0, 0))
  row : w.ownsRow B 51 3 v S.length (S.flatMap Sta.vals)
  rope : ∀ s ∈ S, Rp.IsR w s.r s.l
  next : ∀ s ∈ S, w.ownsRow B 3 1 s.v s.nx.length (ints s.nx)
  apart : ∀ (i j : Nat) (s t : Sta), S[i]? = some s → S[j]? = some t → i ≠ j → ∀ k, s.v.ownBlock = some k → t.v.ownBlock ≠ some k
  lt : at' < S.length
  fr : ∀ s ∈ S, s.f < S.length
  nl : ∀ s ∈ S, ∀ n ∈ s.nx, n < S.length
  base : B ≤ h
theorem owns_block {w : World} {B : Nat} {e : TypeId} {size : Nat} {v : Value} {n : Nat} {xs : List Value} (h : w.ownsRow B e size v n xs) {k : Nat} (hk : v.ownBlock = some k) : ∃ cs, w.heap[k]? = some (.cells cs e (0, 0)) ∧ B ≤ k := by
  rcases h.2 with ⟨rfl, _⟩ | ⟨g, cap, cur, rfl, hb, hg, _⟩
  · cases hk
  · cases hk; exact ⟨cur, hg, hb⟩
theorem IsH.typed {w : World} {B h : Nat} {v : Value} {S : List Sta} {a : Nat} (H : IsH w B h v S a) {k : Nat} (hk : FpH h v S k) : ∃ cs t, w.heap[k]? = some (.cells cs t (0, 0)) ∧ (t = 54 ∨ t = 51 ∨ t = 3) ∧ B ≤ k := by
  rcases hk with rfl | hk | ⟨s, hs, hk⟩
  · exact ⟨_, _, H.blk, .inl rfl, H.base⟩
  · obtain ⟨cs, h1, h2⟩ := owns_block H.row hk; exact ⟨cs, _, h1, .inr (.inl rfl), h2⟩
  · obtain ⟨cs, h1, h2⟩ := owns_block (H.next s hs) hk; exact ⟨cs, _, h1, .inr (.inr rfl), h2⟩
theorem IsH.fp_lt {w : World} {B h : Nat} {v : Value} {S : List Sta} {a : Nat} (H : IsH w B h v S a) {k : Nat} (hk : FpH h v S k) : k < w.heap.size := by
  obtain ⟨_, _, h1, _⟩ := H.typed hk; exact heap_lt h1
theorem IsH.rk {w w' : World} {B h : Nat} {v : Value} {S : List Sta} {a : Nat} (H : IsH w B h v S a) (K : Kp (FpH h v S) w w') : RK w w' := fun k cs t ht hk =>
  K.heap hk (fun hf => by
    obtain ⟨_, t', h1, h2, _⟩ := H.typed hf
    rw [hk] at h1
    cases h1
    rcases ht with rfl | rfl <;> rcases h2 with h | h | h <;> cases h)
theorem IsH.keep {w w' : World} {B h : Nat} {v : Value} {S : List Sta} {a : Nat} (H : IsH w B h v S a) {T : Nat → Prop} (K : Kp T w w') (hT : ∀ k, FpH h v S k → ¬ T k) (hR : RK w w') : IsH w' B h v S a where
  blk := K.heap H.blk (hT h (.inl rfl))
  row := K.owns H.row (fun k e => hT k (.inr (.inl e)))
  rope := fun s hs => hR.rope (H.rope s hs)
  next := fun s hs => K.owns (H.next s hs) (fun k e => hT k (.inr (.inr ⟨s, hs, e⟩)))
  apart := H.apart
  lt := H.lt
  fr := H.fr
  nl := H.nl
  base := H.base
theorem IsH.below {w w' : World} {B h : Nat} {v : Value} {S : List Sta} {a : Nat} (H : IsH w B h v S a) (hb : Below w.heap.size w w') : IsH w' B h v S a :=
  H.keep (Kp.ofBelow hb (fun _ => False)) (fun _ _ => id) (RK.below hb)

set_option maxHeartbeats 1000000 in
theorem newH_any (s : ByteArray) (w : World) (hT : Rp.Tabs w) (hs : s.size ≤ 1073741824) :
    Calls Tryd.prog 5 #[.string s] w fun e w' => ∃ h v r, e = .returned (.pointer (some ⟨h, 0, none⟩)) ∧ IsH w' w.heap.size h v [⟨r, bs s, 0, .slice none 0 0, []⟩] 0 ∧ Below w.heap.size w w' := by
  go_enter Tryd.func5, Tryd.ntmps5
  go_wp2_with fail
  refine (Rp.new_any s w hT (by omega)).mono ?_
  rintro e w1 ⟨r, rfl, kr, hb⟩
  have HK := hide kr
  clear kr
  go_wp2_with fail
  go_ret
  have hA : Below w1.heap.size w1 ((w1.alloc (.cells #[.pointer (some ⟨r, 0, none⟩), .int .i64 0, .slice none 0 0] 51)).alloc (.cells #[.slice (some ⟨w1.heap.size, 0, none⟩) 1 1, .int .i64 0] 54)) := ((Below.refl _ w1).alloc (Nat.le_refl _) _).alloc (by simp) _
  refine ⟨w1.heap.size + 1, .slice (some ⟨w1.heap.size, 0, none⟩) 1 1, r, rfl, ?_, hb.trans (hA.mono hb.size)⟩
  have hblk : ((w1.alloc (.cells #[.pointer (some ⟨r, 0, none⟩), .int .i64 0, .slice none 0 0] 51)).alloc (.cells #[.slice (some ⟨w1.heap.size, 0, none⟩) 1 1, .int .i64 0] 54)).heap[w1.heap.size + 1]? = some (.cells #[.slice (some ⟨w1.heap.size, 0, none⟩) 1 1, .int .i64 0] 54 (0, 0)) := by
    have := heap_alloc_new (w1.alloc (.cells #[.pointer (some ⟨r, 0, none⟩), .int .i64 0, .slice none 0 0] 51)) (.cells #[.slice (some ⟨w1.heap.size, 0, none⟩) 1 1, .int .i64 0] 54)
    rwa [World.size_alloc] at this
  have hrow : ((w1.alloc (.cells #[.pointer (some ⟨r, 0, none⟩), .int .i64 0, .slice none 0 0] 51)).alloc (.cells #[.slice (some ⟨w1.heap.size, 0, none⟩) 1 1, .int .i64 0] 54)).heap[w1.heap.size]? = some (.cells #[.pointer (some ⟨r, 0, none⟩), .int .i64 0, .slice none 0 0] 51 (0, 0)) :=
    (Below.heap_alloc _ _ _ (by simp)).trans (heap_alloc_new w1 _)
  have hbs := hb.size
  refine ⟨hblk, ⟨by simp [Sta.vals], .inr ⟨_, _, _, rfl, hbs, hrow, by simp, by unfold maxLen; omega, by simp, by simp [Sta.vals]⟩⟩, ?_, ?_, ?_, by simp, ?_, ?_, by omega⟩
  · intro s' hs'
    obtain rfl := List.mem_singleton.1 hs'
    exact (HK.out).below hA
  · intro s' hs'
    obtain rfl := List.mem_singleton.1 hs'
    exact World.ownsRow_nil _ _ _ _
  · intro i j s' t' hi hj hij
    have h1 := (List.getElem?_eq_some_iff.1 hi).1
    have h2 := (List.getElem?_eq_some_iff.1 hj).1
    simp at h1 h2
    omega
  · intro s' hs'
    obtain rfl := List.mem_singleton.1 hs'
    simp
  · intro s' hs' n hn
    obtain rfl := List.mem_singleton.1 hs'
    cases hn

theorem IsH.form {w : World} {B h : Nat} {v : Value} {S : List Sta} {a : Nat} (H : IsH w B h v S a) : ∃ g cap, v = .slice (some ⟨g, 0, none⟩) S.length cap ∧ S.length ≤ cap ∧ cap ≤ maxLen ∧ g < w.heap.size := by
  rcases H.row.2 with ⟨_, h0⟩ | ⟨g, cap, cur, hv, hb, hg, h1, h2, _⟩
  · have := H.lt; omega
  · exact ⟨g, cap, hv, h1, h2, heap_lt hg⟩
theorem add0 (g n : Nat) : (⟨g, 0, none⟩ : Addr).add n = ⟨g, n, none⟩ := by unfold Addr.add; split <;> simp_all
theorem IsH.state {w : World} {B h g n cap : Nat} {S : List Sta} {a : Nat} (H : IsH w B h (.slice (some ⟨g, 0, none⟩) n cap) S a) {i : Nat} {s : Sta} (hs : S[i]? = some s) :
    w.cell? ⟨g, i * 3, none⟩ = some (.pointer (some ⟨s.r, 0, none⟩)) ∧ w.cell? ⟨g, i * 3 + 1, none⟩ = some (.int .i64 (s.f : Int)) ∧ w.cell? ⟨g, i * 3 + 2, none⟩ = some s.v := by
  have hc := H.row.cells (g := g) rfl
  have hl : ∀ a : Sta, a.vals.length = 3 := fun _ => rfl
  have k0 := hc (i * 3 + 0) _ ((flat3 Sta.vals hl hs (by omega)).trans rfl)
  have k1 := hc (i * 3 + 1) _ ((flat3 Sta.vals hl hs (by omega)).trans rfl)
  have k2 := hc (i * 3 + 2) _ ((flat3 Sta.vals hl hs (by omega)).trans rfl)
  rw [add0] at k0 k1 k2
  exact ⟨k0, k1, k2⟩
set_option maxHeartbeats 1000000 in
theorem here_any (w : World) (B h g n cap : Nat) (S : List Sta) (a : Nat) (H : IsH w B h (.slice (some ⟨g, 0, none⟩) n cap) S a) :
    Calls Tryd.prog 21 #[.pointer (some ⟨h, 0, none⟩)] w fun e w' => e = .returned (.pointer (some ⟨g, a * 3, none⟩)) ∧ ∃ q, w' = w.drewN q := by
  have c0 : w.cell? ⟨h, 0, none⟩ = some (.slice (some ⟨g, 0, none⟩) n cap) := by simp [World.cell?, H.blk]
  have c1 : w.cell? ⟨h, 1, none⟩ = some (.int .i64 (a : Int)) := by simp [World.cell?, H.blk]
  have hlt := H.lt
  obtain ⟨g', cap', e, h1, h2, h3⟩ := H.form
  cases e
  clear H
  have z1 : (0 : Int) ≤ (a : Int) := Int.natCast_nonneg _
  have z2 : (a : Int) < (S.length : Int) := by omega
  go_enter Tryd.func21, Tryd.ntmps21
  go_wp2_with fail
  go_quiet (fail)
  go_wp2_with fail
  go_ret
  exact ⟨rfl, _, rfl⟩
theorem belowQ {w : World} (q : Nat) : Below w.heap.size w (w.drewN q) := belowN (Below.refl _ _) q
set_option maxHeartbeats 1000000 in
/-- Text tells the text of the state that it is at. -/
theorem textH_any (w : World) (B h : Nat) (v : Value) (S : List Sta) (a : Nat) (s : Sta) (H : IsH w B h v S a) (hs : S[a]? = some s) (hl : s.l.length ≤ 1073741824) :
    Calls Tryd.prog 14 #[.pointer (some ⟨h, 0, none⟩)] w fun e w' => e = .returned (.string (ba s.l)) ∧ Below w.heap.size w w' := by
  obtain ⟨g, cap, rfl, _, _, hg⟩ := H.form
  have HH := hide H
  have HS := hide hs
  clear H hs
  go_enter Tryd.func14, Tryd.ntmps14
  go_wp2_with fail
  refine (here_any w B h g _ cap S a HH.out).mono ?_
  rintro e w1 ⟨rfl, q, hw⟩
  have B1 : Below w.heap.size w w1 := by rw [hw]; exact belowQ q
  clear hw
  obtain ⟨k0, k1, k2⟩ := ((HH.out).below B1).state HS.out
  have hr := hide ((HH.out).rope s (List.mem_of_getElem? HS.out))
  go_wp2_with fail
  refine (Rp.len_any s.r s.l w1 ((hr.out).below B1)).mono ?_
  rintro e w2 ⟨rfl, hb2⟩
  have B2 : Below w.heap.size w w2 := B1.trans (hb2.mono B1.size)
  clear k0 k1 k2
  go_wp2_with fail
  refine (Rp.text_yes s.r s.l 0 s.l.length w2 ((hr.out).below B2) (Nat.zero_le _) (Nat.le_refl _) (by omega) (by omega)).mono ?_
  rintro e w3 ⟨rfl, hb3⟩
  go_wp2_with fail
  go_ret
  exact ⟨rfl, B2.trans (hb3.mono B2.size)⟩
set_option maxHeartbeats 1000000 in
theorem atH_any (w : World) (B h : Nat) (v : Value) (S : List Sta) (a : Nat) (H : IsH w B h v S a) :
    Calls Tryd.prog 15 #[.pointer (some ⟨h, 0, none⟩)] w fun e w' => e = .returned (.int .i64 (a : Int)) ∧ w' = w := by
  have c1 : w.cell? ⟨h, 1, none⟩ = some (.int .i64 (a : Int)) := by simp [World.cell?, H.blk]
  clear H
  go_enter Tryd.func15, Tryd.ntmps15
  go_wp2_with fail
  go_ret
  exact ⟨rfl, rfl⟩
set_option maxHeartbeats 1000000 in
theorem lenH_any (w : World) (B h : Nat) (v : Value) (S : List Sta) (a : Nat) (H : IsH w B h v S a) :
    Calls Tryd.prog 16 #[.pointer (some ⟨h, 0, none⟩)] w fun e w' => e = .returned (.int .i64 (S.length : Int)) ∧ w' = w := by
  obtain ⟨g, cap, rfl, _, _, hg⟩ := H.form
  have c0 : w.cell? ⟨h, 0, none⟩ = some (.slice (some ⟨g, 0, none⟩) S.length cap) := by simp [World.cell?, H.blk]
  clear H
  go_enter Tryd.func16, Tryd.ntmps16
  go_wp2_with fail
  go_ret
  exact ⟨rfl, rfl⟩
/-- The history goes to a state. -/
theorem IsH.moved {w : World} {B h : Nat} {v : Value} {S : List Sta} {a : Nat} (H : IsH w B h v S a) {b : Nat} (hb : b < S.length) :
    IsH (w.setCell ⟨h, 1, none⟩ (.int .i64 (b : Int))) B h v S b ∧ Kp (FpH h v S) w (w.setCell ⟨h, 1, none⟩ (.int .i64 (b : Int))) := by
  have K1 : Kp (fun k => k = h) w (w.setCell ⟨h, 1, none⟩ (.int .i64 (b : Int))) := (Kp.refl (fun k => k = h) w).setCell (p := ⟨h, 1, none⟩) (fun _ => rfl) _
  have K : Kp (FpH h v S) w (w.setCell ⟨h, 1, none⟩ (.int .i64 (b : Int))) := K1.mono (fun _ _ e => .inl e)
  have hR := H.rk K
  have hne : ∀ {n : Nat} {e : TypeId} {size : Nat} {u : Value} {xs : List Value}, w.ownsRow B e size u n xs → e ≠ 54 → ∀ k, u.ownBlock = some k → ¬ (k = h) := by
    intro n e size u xs ho hne k hk e'
    obtain ⟨cs, h1, _⟩ := owns_block ho hk
    rw [e', H.blk] at h1
    cases h1
    exact hne rfl
  refine ⟨⟨?_, K1.owns H.row (hne H.row (by decide)), fun s hs => hR.rope (H.rope s hs), fun s hs => K1.owns (H.next s hs) (hne (H.next s hs) (by decide)), H.apart, hb, H.fr, H.nl, H.base⟩, K⟩
  simp [World.setCell, Array.getElem?_modify, H.blk]
theorem IsH.froze {w : World} {B h : Nat} {v : Value} {S : List Sta} {a : Nat} (H : IsH w B h v S a) : w.cell? ⟨h, 0, none⟩ = some v ∧ w.cell? ⟨h, 1, none⟩ = some (.int .i64 (a : Int)) ∧ w.frozen? ⟨h, 0, none⟩ = false ∧ w.frozen? ⟨h, 1, none⟩ = false := by
  refine ⟨?_, ?_, ?_, ?_⟩ <;> simp [World.cell?, World.frozen?, H.blk]
set_option maxHeartbeats 1000000 in
theorem undo_zero (w : World) (B h : Nat) (v : Value) (S : List Sta) (H : IsH w B h v S 0) :
    Calls Tryd.prog 11 #[.pointer (some ⟨h, 0, none⟩)] w fun e w' => e = .returned (.bool false) ∧ w' = w := by
  obtain ⟨_, c1, _, _⟩ := H.froze
  clear H
  go_enter Tryd.func11, Tryd.ntmps11
  go_wp2_with fail
  go_ret
  exact ⟨rfl, rfl⟩
set_option maxHeartbeats 1000000 in
theorem undo_pos (w : World) (B h : Nat) (v : Value) (S : List Sta) (a : Nat) (s : Sta) (H : IsH w B h v S a) (hs : S[a]? = some s) (ha : a ≠ 0) :
    Calls Tryd.prog 11 #[.pointer (some ⟨h, 0, none⟩)] w fun e w' => e = .returned (.bool true) ∧ IsH w' B h v S s.f ∧ Kp (FpH h v S) w w' := by
  obtain ⟨g, cap, rfl, _, _, hg⟩ := H.form
  have HH := hide H
  have HS := hide hs
  obtain ⟨c0, c1, f0, f1⟩ := H.froze
  have z : (((a : Nat) : Int) == 0) = false := by rw [beq_eq_false_iff_ne]; omega
  clear H hs
  go_enter Tryd.func11, Tryd.ntmps11
  go_wp2_with fail
  refine (here_any w B h g _ cap S a HH.out).mono ?_
  rintro e w1 ⟨rfl, q, hw⟩
  have B1 : Below w.heap.size w w1 := by rw [hw]; exact belowQ q
  clear hw c0 c1 f0 f1
  have H1 := (HH.out).below B1
  obtain ⟨k0, k1, k2⟩ := H1.state HS.out
  obtain ⟨c0, c1, f0, f1⟩ := H1.froze
  have HH1 := hide H1
  clear H1
  go_wp2_with fail
  go_ret
  obtain ⟨m1, m2⟩ := (HH1.out).moved ((HH.out).fr s (List.mem_of_getElem? HS.out))
  exact ⟨rfl, m1, (Kp.ofBelow B1 _).trans m2 (fun _ _ h => h)⟩
set_option maxHeartbeats 1000000 in
theorem go_no (w : World) (B h : Nat) (v : Value) (S : List Sta) (a : Nat) (n : Int) (H : IsH w B h v S a) (hn : n < 0 ∨ (S.length : Int) ≤ n) :
    Calls Tryd.prog 13 #[.pointer (some ⟨h, 0, none⟩), .int .i64 n] w fun e w' => e = .returned (.bool false) ∧ w' = w := by
  obtain ⟨g, cap, rfl, _, _, hg⟩ := H.form
  obtain ⟨c0, c1, f0, f1⟩ := H.froze
  clear H
  by_cases h1 : n < 0
  · clear hn
    go_enter Tryd.func13, Tryd.ntmps13
    go_wp2_with fail
    go_ret
    exact ⟨rfl, rfl⟩
  · have h2 : (S.length : Int) ≤ n := by omega
    clear hn
    go_enter Tryd.func13, Tryd.ntmps13
    go_wp2_with fail
    go_ret
    exact ⟨rfl, rfl⟩
set_option maxHeartbeats 1000000 in
theorem go_yes (w : World) (B h : Nat) (v : Value) (S : List Sta) (a n : Nat) (H : IsH w B h v S a) (hn : n < S.length) :
    Calls Tryd.prog 13 #[.pointer (some ⟨h, 0, none⟩), .int .i64 (n : Int)] w fun e w' => e = .returned (.bool true) ∧ IsH w' B h v S n ∧ Kp (FpH h v S) w w' := by
  obtain ⟨g, cap, rfl, _, _, hg⟩ := H.form
  obtain ⟨c0, c1, f0, f1⟩ := H.froze
  have HH := hide H
  clear H
  have h1 : ¬ ((n : Int) < 0) := by omega
  have h2 : ¬ ((S.length : Int) ≤ (n : Int)) := by omega
  go_enter Tryd.func13, Tryd.ntmps13
  go_wp2_with fail
  go_ret
  obtain ⟨m1, m2⟩ := (HH.out).moved hn
  exact ⟨rfl, m1, m2⟩
/-- A row of numbers, read. -/
theorem ints_at {w : World} {B g n cap : Nat} {l : List Nat} (h : w.ownsRow B 3 1 (.slice (some ⟨g, 0, none⟩) n cap) l.length (ints l)) {i m : Nat} (hi : l[i]? = some m) : w.cell? ⟨g, i, none⟩ = some (.int .i64 (m : Int)) := by
  have := h.cells (g := g) rfl i (.int .i64 (m : Int)) (by simp [ints, hi])
  rwa [add0] at this
theorem owns_form {w : World} {B : Nat} {e : TypeId} {size : Nat} {v : Value} {n : Nat} {xs : List Value} (h : w.ownsRow B e size v n xs) : (v = .slice none 0 0 ∧ n = 0) ∨ ∃ g cap, v = .slice (some ⟨g, 0, none⟩) n cap ∧ n ≤ cap ∧ cap ≤ maxLen ∧ g < w.heap.size := by
  rcases h.2 with h' | ⟨g, cap, cur, hv, hb, hg, h1, h2, _⟩
  · exact .inl h'
  · exact .inr ⟨g, cap, hv, h1, h2, heap_lt hg⟩
set_option maxHeartbeats 1000000 in
theorem redo_no (w : World) (B h : Nat) (v : Value) (S : List Sta) (a : Nat) (s : Sta) (n : Int) (H : IsH w B h v S a) (hs : S[a]? = some s) (hn : n < 0 ∨ (s.nx.length : Int) ≤ n) :
    Calls Tryd.prog 12 #[.pointer (some ⟨h, 0, none⟩), .int .i64 n] w fun e w' => e = .returned (.bool false) ∧ Below w.heap.size w w' := by
  obtain ⟨g, cap, rfl, _, _, hg⟩ := H.form
  have hnx := H.next s (List.mem_of_getElem? hs)
  have HH := hide H
  have HS := hide hs
  clear H hs
  obtain ⟨vo, vl, vc, hv, hvl⟩ : ∃ (vo : Option Addr) (vl vc : Nat), s.v = .slice vo vl vc ∧ vl = s.nx.length := by
    rcases owns_form hnx with ⟨e, e0⟩ | ⟨g', c', e, _⟩
    · exact ⟨_, _, _, e, e0.symm⟩
    · exact ⟨_, _, _, e, rfl⟩
  have HV := hide hv
  clear hnx hv
  subst hvl
  by_cases h1 : n < 0
  · clear hn
    go_enter Tryd.func12, Tryd.ntmps12
    go_wp2_with fail
    refine (here_any w B h g _ cap S a HH.out).mono ?_
    rintro e w1 ⟨rfl, q, hw⟩
    have B1 : Below w.heap.size w w1 := by rw [hw]; exact belowQ q
    clear hw
    obtain ⟨k0, k1, k2⟩ := ((HH.out).below B1).state HS.out
    rw [HV.out] at k2
    go_wp2_with fail
    go_ret
    exact ⟨rfl, B1⟩
  · have h2 : (s.nx.length : Int) ≤ n := by omega
    clear hn
    go_enter Tryd.func12, Tryd.ntmps12
    go_wp2_with fail
    refine (here_any w B h g _ cap S a HH.out).mono ?_
    rintro e w1 ⟨rfl, q, hw⟩
    have B1 : Below w.heap.size w w1 := by rw [hw]; exact belowQ q
    clear hw
    obtain ⟨k0, k1, k2⟩ := ((HH.out).below B1).state HS.out
    rw [HV.out] at k2
    go_wp2_with fail
    go_ret
    exact ⟨rfl, B1⟩
set_option maxHeartbeats 1000000 in
theorem redo_yes (w : World) (B h : Nat) (v : Value) (S : List Sta) (a : Nat) (s : Sta) (n m : Nat) (H : IsH w B h v S a) (hs : S[a]? = some s) (hn : s.nx[n]? = some m) :
    Calls Tryd.prog 12 #[.pointer (some ⟨h, 0, none⟩), .int .i64 (n : Int)] w fun e w' => e = .returned (.bool true) ∧ IsH w' B h v S m ∧ Kp (FpH h v S) w w' := by
  obtain ⟨g, cap, rfl, _, _, hg⟩ := H.form
  have hnx := H.next s (List.mem_of_getElem? hs)
  have HH := hide H
  have HS := hide hs
  have hmn : m < S.length := H.nl s (List.mem_of_getElem? hs) m (List.mem_of_getElem? hn)
  clear H hs
  have hlt := (List.getElem?_eq_some_iff.1 hn).1
  obtain ⟨g', c', hv, hc1, hc2, hg'⟩ : ∃ g' c', s.v = .slice (some ⟨g', 0, none⟩) s.nx.length c' ∧ s.nx.length ≤ c' ∧ c' ≤ maxLen ∧ g' < w.heap.size := by
    rcases owns_form hnx with ⟨e, e0⟩ | h
    · omega
    · exact h
  rw [hv] at hnx
  have kc := ints_at hnx hn
  have HV := hide hv
  have HC := hide kc
  clear hnx hv hn kc
  have h1 : ¬ ((n : Int) < 0) := by omega
  have h2 : ¬ ((s.nx.length : Int) ≤ (n : Int)) := by omega
  have z1 : (0 : Int) ≤ (n : Int) := by omega
  have z2 : (n : Int) < (s.nx.length : Int) := by omega
  go_enter Tryd.func12, Tryd.ntmps12
  go_wp2_with fail
  refine (here_any w B h g _ cap S a HH.out).mono ?_
  rintro e w1 ⟨rfl, q, hw⟩
  have B1 : Below w.heap.size w w1 := by rw [hw]; exact belowQ q
  clear hw
  have H1 := (HH.out).below B1
  obtain ⟨k0, k1, k2⟩ := H1.state HS.out
  obtain ⟨c0, c1, f0, f1⟩ := H1.froze
  have HH1 := hide H1
  have kn := kcb B1 hg' HC.out
  rw [HV.out] at k2
  clear H1
  go_wp2_with fail
  go_ret
  obtain ⟨m1, m2⟩ := (HH1.out).moved hmn
  exact ⟨rfl, m1, (Kp.ofBelow B1 _).trans m2 (fun _ _ h => h)⟩

theorem info3 : (Tryd.prog.info? 3).map (fun i => (i.zero, i.size, i.bytes)) = some (some (.int .i64 0), 1, 8) := by kernel_rfl
set_option maxRecDepth 100000 in
set_option maxHeartbeats 1000000 in
/-- A copy of numbers. -/
theorem clone_any (w : World) (B : Nat) (v : Value) (l : List Nat) (hv : w.ownsRow B 3 1 v l.length (ints l)) (hl : l.length ≤ 1073741824) :
    Calls Tryd.prog 26 #[v] w fun e w' => ∃ v', e = .returned v' ∧ w'.ownsRow w.heap.size 3 1 v' l.length (ints l) ∧ Below w.heap.size w w' := by
  obtain ⟨i0, hi0, hz0, hz1, hz2⟩ := info_parts info3
  have q27 : ∀ (w : World) (a : Option Addr) (n c n' c' : Nat), (binOp .eql 27 (.slice a n c) (.slice none n' c')).run Tryd.prog w = .ok (.bool a.isNone) w := fun w a n c n' c' => Lib.run_eql_slice_nil w _ _ a n c n' c' Tryd.underlying27
  rcases owns_form hv with ⟨rfl, e0⟩ | ⟨g, cap, rfl, hc1, hc2, hg⟩
  · have HE := hide e0
    clear hv e0
    go_enter Tryd.func26, Tryd.ntmps26
    go_wp2_with fail
    go_ret
    refine ⟨_, rfl, ?_, Below.refl _ _⟩
    have hl0 := HE.out
    have : l = [] := List.length_eq_zero_iff.1 hl0
    subst this
    exact World.ownsRow_nil _ _ _ _
  · have hcells := hv.cells (g := g) rfl
    have A := hide hcells
    clear hv hcells
    go_enter Tryd.func26, Tryd.ntmps26
    go_wp2_with (at_builtin; refine wpList_append_own _ rfl _ _ 27 rfl w.heap.size 3 i0 (.int .i64 0) 1 8 Tryd.underlying27 hi0 hz0 hz1 hz2 rfl (by decide) _ _ _ rfl (World.ownsRow_made w #[] 0 (Nat.le_refl _) (Nat.zero_le _) rfl) ⟨g, 0, none⟩ l.length cap (ints l) rfl ?qc1 ?qc2 ?qc3 ?qc4 ?qc5 ?qc6 ?_)
    case qc1 => rw [ints_length]; omega
    case qc2 =>
      intro j u hj
      have := (A.out) j u hj
      rw [add0] at this ⊢
      exact Lib.cell?_alloc_some _ this
    case qc3 => intro u hu; obtain ⟨x, _, rfl⟩ := List.mem_map.1 hu; rfl
    case qc4 => unfold maxLen; omega
    case qc5 => omega
    case qc6 => simp
    intro v' w1 hown hgrow hnil
    go_wp2
    go_ret
    refine ⟨v', rfl, by simpa using hown, ?_⟩
    exact ((Below.refl _ w).alloc (Nat.le_refl _) _).grown hgrow (by simp) (by intro k hk; simp [Value.ownBlock] at hk; omega)
set_option maxHeartbeats 1000000 in
/-- Next tells those that come from the state that it is at. -/
theorem nextH_any (w : World) (B h : Nat) (v : Value) (S : List Sta) (a : Nat) (s : Sta) (H : IsH w B h v S a) (hs : S[a]? = some s) (hl : s.nx.length ≤ 1073741824) :
    Calls Tryd.prog 17 #[.pointer (some ⟨h, 0, none⟩)] w fun e w' => ∃ v', e = .returned v' ∧ w'.ownsRow w.heap.size 3 1 v' s.nx.length (ints s.nx) ∧ Below w.heap.size w w' := by
  obtain ⟨g, cap, rfl, _, _, hg⟩ := H.form
  have HH := hide H
  have HS := hide hs
  clear H hs
  go_enter Tryd.func17, Tryd.ntmps17
  go_wp2_with fail
  refine (here_any w B h g _ cap S a HH.out).mono ?_
  rintro e w1 ⟨rfl, q, hw⟩
  have hz : w1.heap.size = w.heap.size := by rw [hw]; rfl
  have B1 : Below w.heap.size w w1 := by rw [hw]; exact belowQ q
  clear hw
  have H1 := (HH.out).below B1
  obtain ⟨k0, k1, k2⟩ := H1.state HS.out
  have HN := hide (H1.next s (List.mem_of_getElem? HS.out))
  clear H1
  go_wp2_with fail
  refine (clone_any w1 B s.v s.nx HN.out hl).mono ?_
  rintro e w2 ⟨v', rfl, ho, hb2⟩
  rw [hz] at ho hb2
  have HO := hide ho
  clear ho
  go_wp2_with fail
  go_ret
  exact ⟨v', rfl, HO.out, B1.trans hb2⟩
end Go.Proofs.YtopeagigdgjchaaDoor
