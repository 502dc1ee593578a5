/- Package syntax: a row is gone through. -/
import Derived.Test.YtdipmfdhnplpaaaGreatDoorVb
import Derived.Test.YtdipmfdhnplpaaaGreatDoorZw
import Derived.Deep.RegionHeld3
namespace Go.Proofs.YtdipmfdhnplpaaaGreatDoor
open Go.RowKit
open M
/-- A result that lies in a block of a node's size. -/
theorem res_node {fn : Func} {t : Tmp} (h : fn.results = #[.cell t 121]) (tmps : Array Value) (W : World) {b : Nat} {a1 a2 : Int} {a3 : ByteArray} {a4 : Option Addr} {a5 a6 : Nat} (ht : tmps[t]?.getD undef = .pointer (some ⟨b, 0, none⟩)) (hb : W.heap[b]? = some (.cells #[.int .i64 a1, .int .i64 a2, .string a3, .slice a4 a5 a6] 121 (0, 0))) :
    (results fn tmps).run Tryz.prog W = .ok (.agg #[.int .i64 a1, .int .i64 a2, .string a3, .slice a4 a5 a6]) W := by
  have m0 := cell_of_row W _ 0 _ _ _ hb
  have m1 := cell_of_row W _ 1 _ _ _ hb
  have m2 := cell_of_row W _ 2 _ _ _ hb
  have m3 := cell_of_row W _ 3 _ _ _ hb
  simp [results, h, go_sem, ht, m0, m1, m2, m3]
theorem set4_own {W : World} {b : Nat} {x0 x1 x2 x3 y0 y1 y2 y3 : Value} {t : TypeId} (h : W.heap[b]? = some (.cells #[y0, y1, y2, y3] t (0, 0))) : ((((W.setCell ⟨b, 0, none⟩ x0).setCell ⟨b, 1, none⟩ x1).setCell ⟨b, 2, none⟩ x2).setCell ⟨b, 3, none⟩ x3).heap[b]? = some (.cells #[x0, x1, x2, x3] t (0, 0)) := by
  simp [World.setCell, Array.getElem?_modify, h]
theorem Kp.set4 {S : Nat → Prop} {w W : World} (hk : Kp S w W) {b : Nat} (hb : w.heap.size ≤ b) (x0 x1 x2 x3 : Value) : Kp S w ((((W.setCell ⟨b, 0, none⟩ x0).setCell ⟨b, 1, none⟩ x1).setCell ⟨b, 2, none⟩ x2).setCell ⟨b, 3, none⟩ x3) :=
  Kp.setCell (p := ⟨b, 3, none⟩) (Kp.setCell (p := ⟨b, 2, none⟩) (Kp.setCell (p := ⟨b, 1, none⟩) (Kp.setCell (p := ⟨b, 0, none⟩) hk (fun h => absurd h (by simpa using hb)) _) (fun h => absurd h (by simpa using hb)) _) (fun h => absurd h (by simpa using hb)) _) (fun h => absurd h (by simpa using hb)) _
theorem set4_far {W : World} {b q : Nat} (x0 x1 x2 x3 : Value) (hq : q ≠ b) : ((((W.setCell ⟨b, 0, none⟩ x0).setCell ⟨b, 1, none⟩ x1).setCell ⟨b, 2, none⟩ x2).setCell ⟨b, 3, none⟩ x3).heap[q]? = W.heap[q]? := by
  simp [World.setCell, Array.getElem?_modify, hq.symm]
/-- The row behind its first node. -/
theorem rw_next {w wf : World} {D : Nat → Prop} {rb ab : Nat} {ps : List X.Part} {i' : Nat} {nv : Value} (hk : Kp (Sw rb ab) w wf) (hsep : rb ≠ ab ∧ ¬ D rb ∧ ¬ D ab) (hn : NdS w D nv ps) (h1 : wf.heap[rb]? = some (.cells #[.pointer (some ⟨ab, 0, none⟩), nv] 124 (0, 0))) (h2 : wf.heap[ab]? = some (.cells #[.int .i64 i'] 3 (0, 0))) : IsRw wf D rb ab ps i' :=
  ⟨⟨nv, h1, hn.keep hk (fun q hq e => by rcases e with e | e <;> subst e; exact hsep.2.1 hq; exact hsep.2.2 hq)⟩, h2, hsep⟩
/-- What is known ahead of the bytes being counted. -/
theorem leave_w {w W : World} {D : Nat → Prop} {rb ab : Nat} {ps : List X.Part} {i : Nat} {x : Value} (hs : W.heap.size = w.heap.size) (h : IsRw W D rb ab ps i) (hk : Kp (Sw rb ab) w W) (_hrl : rb < w.heap.size) (_hal : ab < w.heap.size) (tk : Nat) (tx : ByteArray) :
    ∃ W3, W3 = (W.alloc (.cells #[.int .i64 0, .int .i64 0, .string ⟨#[]⟩, .slice none 0 0] 121)).alloc (.cells #[.int .i64 0, .int .i64 tk, .string tx, x] 121) ∧ W3.cell? ⟨rb, 0, none⟩ = some (.pointer (some ⟨ab, 0, none⟩)) ∧ W3.cell? ⟨ab, 0, none⟩ = some (.int .i64 i) ∧ W3.frozen? ⟨ab, 0, none⟩ = false ∧ W3.heap[w.heap.size]? = some (.cells #[.int .i64 0, .int .i64 0, .string ⟨#[]⟩, .slice none 0 0] 121 (0, 0)) ∧ W3.heap[w.heap.size + 1]? = some (.cells #[.int .i64 0, .int .i64 tk, .string tx, x] 121 (0, 0)) ∧ IsRw W3 D rb ab ps i ∧ Kp (Sw rb ab) w W3 := by
  have kA : Below W.heap.size W ((W.alloc (.cells #[.int .i64 0, .int .i64 0, .string ⟨#[]⟩, .slice none 0 0] 121)).alloc (.cells #[.int .i64 0, .int .i64 tk, .string tx, x] 121)) := ((Below.refl _ W).alloc (Nat.le_refl _) _).alloc (by simp) _
  have h3 := h.below kA
  obtain ⟨v, e, -⟩ := h3.blk
  have n1 := heap_alloc_new W (.cells #[.int .i64 0, .int .i64 0, .string ⟨#[]⟩, .slice none 0 0] 121)
  have n2 := heap_alloc_new (W.alloc (.cells #[.int .i64 0, .int .i64 0, .string ⟨#[]⟩, .slice none 0 0] 121)) (.cells #[.int .i64 0, .int .i64 tk, .string tx, x] 121)
  have n3 := (heap_alloc_old (W.alloc (.cells #[.int .i64 0, .int .i64 0, .string ⟨#[]⟩, .slice none 0 0] 121)) (.cells #[.int .i64 0, .int .i64 tk, .string tx, x] 121) (show W.heap.size < _ by simp)).trans n1
  rw [World.size_alloc, hs] at n2
  rw [hs] at n3
  exact ⟨_, rfl, cell_of_row _ _ 0 _ _ _ e, cell_of_row _ _ 0 _ _ _ h3.atb, by simp [World.frozen?, h3.atb], n3, n2, h3, hk.trans (Kp.ofBelow kA (fun _ => False)) (fun _ _ h => h.elim)⟩
/-- What is known when the bytes have been counted. -/
theorem leave_w4 {w W3 : World} {D : Nat → Prop} {rb ab : Nat} {ps : List X.Part} {i : Nat} {a b : Obj} (hne : rb ≠ ab) (h : IsRw W3 D rb ab ps i) (hk : Kp (Sw rb ab) w W3) (hal : ab < w.heap.size) (hZ : W3.heap[w.heap.size]? = some a) (hK : W3.heap[w.heap.size + 1]? = some b) (j : Nat) :
    ∃ W4, W4 = (W3.setCell ⟨ab, 0, none⟩ (.int .i64 j)).drew ∧ W4.heap[w.heap.size]? = some a ∧ W4.heap[w.heap.size + 1]? = some b ∧ IsRw W4 D rb ab ps j ∧ Kp (Sw rb ab) w W4 := by
  have hk4 : Kp (Sw rb ab) W3 (W3.setCell ⟨ab, 0, none⟩ (.int .i64 j)).drew := (Kp.setCell (p := ⟨ab, 0, none⟩) (Kp.refl _ W3) (fun _ => .inr rfl) _).trans (Kp.ofBelow ((Below.refl _ _).drew) (fun _ => False)) (fun _ _ h => h.elim)
  obtain ⟨v, e, hn⟩ := h.blk
  have hatb := h.atb
  refine ⟨_, rfl, ?_, ?_, rw_next hk4 h.sep hn ?_ ?_, hk.trans hk4 (fun _ _ e => e)⟩
  · show (W3.setCell _ _).heap[w.heap.size]? = _
    simp only [World.setCell, Array.getElem?_modify]
    rw [if_neg (by omega)]; exact hZ
  · show (W3.setCell _ _).heap[w.heap.size + 1]? = _
    simp only [World.setCell, Array.getElem?_modify]
    rw [if_neg (by omega)]; exact hK
  · show (W3.setCell _ _).heap[rb]? = _
    simp only [World.setCell, Array.getElem?_modify]
    rw [if_neg (fun e' => hne e'.symm)]; exact e
  · show (W3.setCell _ _).heap[ab]? = _
    simp [World.setCell, Array.getElem?_modify, hatb]
set_option maxRecDepth 100000 in
set_option maxHeartbeats 4000000 in
theorem wleave_any (D : Nat → Prop) (rb ab : Nat) (p : X.Part) (ps : List X.Part) (i : Nat) (w : World) (h : IsRw w D rb ab (p :: ps) i) (hi : i + X.nln p ≤ 1073741824) (hDl : ∀ q, D q → q < w.heap.size) :
    Calls Tryz.prog 80 #[.pointer (some ⟨rb, 0, none⟩)] w fun e w' => ∃ a4 a5 a6, e = .returned (.agg #[.int .i64 (X.nk p), .int .i64 (X.ntk p), .string (ba (X.ntx p)), .slice a4 a5 a6]) ∧ Hid (NdS w' D (.slice a4 a5 a6) (X.kids p) ∧ IsRw w' D rb ab ps (i + X.nln p) ∧ Kp (Sw rb ab) w w') := by
  obtain ⟨v, hb, hn⟩ := h.blk
  obtain ⟨g, o, cap, kv, rfl, hD, y0, y1, y2, y3, hk, -, hc1, hc2, hn1, hn2⟩ := hn.head
  obtain ⟨a4, a6, _, _, _, _, rfl, -⟩ := hk.ex
  have HK := hide hk
  have HN1 := hide hn1
  have HN2 := hide hn2
  have HB := hide hb
  have HA := hide h.atb
  have hsep := h.sep
  have hrl := heap_lt hb
  have hal := heap_lt h.atb
  have c0 := cell_of_row w _ 0 _ _ _ hb
  have c1 := cell_of_row w _ 1 _ _ _ hb
  have d0 := cell_of_row w _ 0 _ _ _ h.atb
  have f1 : w.frozen? ⟨rb, 1, none⟩ = false := by simp [World.frozen?, hb]
  have fa : w.frozen? ⟨ab, 0, none⟩ = false := by simp [World.frozen?, h.atb]
  have hgl : g < w.heap.size := World.block_lt_of_cell? _ _ y0
  clear h hb hn hk hn1 hn2
  have key : ∃ o' n' c', Hid (NdS w D (.slice (some ⟨g, o', none⟩) n' c') ps) ∧ ((cap = 1 ∧ o' = o ∧ n' = 0 ∧ c' = 0 ∧ ps.length = 0) ∨ (cap ≠ 1 ∧ o' = o + 4 ∧ n' = ps.length ∧ c' = cap - 1)) := by
    by_cases e : cap = 1
    · obtain ⟨q1, q2⟩ := (HN2.out) e
      exact ⟨o, 0, 0, q1, .inl ⟨e, rfl, rfl, rfl, by rw [q2]; rfl⟩⟩
    · exact ⟨o + 4, ps.length, cap - 1, (HN1.out) e, .inr ⟨e, rfl, rfl, rfl⟩⟩
  obtain ⟨o', n', c', HN, hcs⟩ := key
  have HW0 : Hid (∀ nv : Value, NdS w D nv ps → IsRw (w.setCell ⟨rb, 1, none⟩ nv) D rb ab ps i ∧ Kp (Sw rb ab) w (w.setCell ⟨rb, 1, none⟩ nv)) := fun nv hnv => by
    have hk : Kp (Sw rb ab) w (w.setCell ⟨rb, 1, none⟩ nv) := Kp.setCell (p := ⟨rb, 1, none⟩) (Kp.refl _ w) (fun _ => .inl rfl) _
    have hne := hsep.1
    refine ⟨rw_next hk hsep hnv ?_ ?_, hk⟩
    · simp [World.setCell, Array.getElem?_modify, HB.out]
    · have := HA.out
      simp [World.setCell, Array.getElem?_modify, hne, this]
  by_cases hz : X.nk p = 0
  · have iz : ((X.nk p : Int) == 0) = true := by simp; omega
    have hln : X.nln p = (X.ntx p).length := by cases p with
      | leaf k x => rfl
      | miss m => cases hz
      | br k ps => rfl
    have hbl : (ba (X.ntx p)).size = (X.ntx p).length := by rw [← bs_len, bs_ba]
    rw [hln] at hi ⊢
    have hrb : rb ≠ ab := hsep.1
    rcases hcs with ⟨rfl, rfl, rfl, rfl, hps0⟩ | ⟨hne, rfl, rfl, rfl⟩
    all_goals
      rw [hz] at y0 ⊢
      go_enter Tryz.func80, Tryz.ntmps80
      go_wp2_with fail
      obtain ⟨z1, z2⟩ := (HW0.out) _ HN.out
      have hs0 : ∀ nv, (w.setCell ⟨rb, 1, none⟩ nv).heap.size = w.heap.size := fun nv => by simp [World.setCell]
      have HX := hide (leave_w (x := .slice a4 (X.kids p).length a6) (hs0 _) z1 z2 hrl hal (X.ntk p) (ba (X.ntx p)))
      clear z1 z2 c0 c1 d0 f1 fa y0 y1 y2 y3
    all_goals
      obtain ⟨W3, hW3, r0, r1, r1f, hZ, hK, hR3, hK3⟩ := HX.out
      rw [← hW3]
      clear hW3 HX HW0 HN
      have r2 : W3.cell? ⟨w.heap.size + 1, 2, none⟩ = some (.string (ba (X.ntx p))) := cell_of_row W3 _ 2 _ _ _ hK
      have HZ := hide hZ
      have HKd := hide hK
      have HR3 := hide hR3
      have HK3 := hide hK3
      clear hZ hK hR3 hK3
      refine wp_region_noPanic ?_
      refine wpTo_start (S := fun w' => w'.cell? ⟨rb, 0, none⟩ = some (.pointer (some ⟨ab, 0, none⟩)) ∧ w'.cell? ⟨ab, 0, none⟩ = some (.int .i64 i) ∧ w'.cell? ⟨w.heap.size + 1, 2, none⟩ = some (.string (ba (X.ntx p)))) (z := 11) (by kernel_rfl) ?_
      have hS := (⟨r0, r1, r2⟩ : W3.drew.cell? ⟨rb, 0, none⟩ = some (.pointer (some ⟨ab, 0, none⟩)) ∧ W3.drew.cell? ⟨ab, 0, none⟩ = some (.int .i64 i) ∧ W3.drew.cell? ⟨w.heap.size + 1, 2, none⟩ = some (.string (ba (X.ntx p))))
      refine wpTo_take (i := 0) (dn := 21) (v := ?_) rfl rfl (by kernel_rfl) (by kernel_rfl) (by kernel_rfl) (by kernel_rfl) (fun _ _ _ h => h) (Or.inl ⟨by rfl, ?_⟩) hS ?_
      rotate_left
      · (intro wx hSw; (try dsimp only at hSw); go_simp; try (with_reducible rfl))
      simp only [Act.put, List.setIfInBounds_toArray, List.set_cons_zero, List.set_cons_succ]
      refine wpTo_take (i := 1) (dn := 22) (v := ?_) rfl rfl (by kernel_rfl) (by kernel_rfl) (by kernel_rfl) (by kernel_rfl) (fun _ _ _ h => h) (Or.inl ⟨by rfl, ?_⟩) hS ?_
      rotate_left
      · (intro wx hSw; (try dsimp only at hSw); go_simp; try (with_reducible rfl))
      simp only [Act.put, List.setIfInBounds_toArray, List.set_cons_zero, List.set_cons_succ]
      refine wpTo_take (i := 2) (dn := 23) (v := ?_) rfl rfl (by kernel_rfl) (by kernel_rfl) (by kernel_rfl) (by kernel_rfl) (fun _ _ _ h => h) (Or.inl ⟨by rfl, ?_⟩) hS ?_
      rotate_left
      · (intro wx hSw; (try dsimp only at hSw); go_simp; try (with_reducible rfl))
      simp only [Act.put, List.setIfInBounds_toArray, List.set_cons_zero, List.set_cons_succ]
      refine wpTo_take (i := 3) (dn := 24) (v := ?_) rfl rfl (by kernel_rfl) (by kernel_rfl) (by kernel_rfl) (by kernel_rfl) (fun _ _ _ h => h) (Or.inl ⟨by rfl, ?_⟩) hS ?_
      rotate_left
      · (intro wx hSw; (try dsimp only at hSw); go_simp; try (with_reducible rfl))
      simp only [Act.put, List.setIfInBounds_toArray, List.set_cons_zero, List.set_cons_succ]
      refine wpTo_take (i := 4) (dn := 25) (v := ?_) rfl rfl (by kernel_rfl) (by kernel_rfl) (by kernel_rfl) (by kernel_rfl) (fun _ _ _ h => h) (Or.inl ⟨by rfl, ?_⟩) hS ?_
      rotate_left
      · (intro wx hSw; (try dsimp only at hSw); go_simp; try (with_reducible rfl))
      simp only [Act.put, List.setIfInBounds_toArray, List.set_cons_zero, List.set_cons_succ]
      refine wpTo_take (i := 5) (dn := 26) (v := ?_) rfl rfl (by kernel_rfl) (by kernel_rfl) (by kernel_rfl) (by kernel_rfl) (fun _ _ _ h => h) (Or.inl ⟨by rfl, ?_⟩) hS ?_
      rotate_left
      · (intro wx hSw; (try dsimp only at hSw); go_simp; try (with_reducible rfl))
      simp only [Act.put, List.setIfInBounds_toArray, List.set_cons_zero, List.set_cons_succ]
      refine wpTo_take (i := 6) (dn := 27) (v := ?_) rfl rfl (by kernel_rfl) (by kernel_rfl) (by kernel_rfl) (by kernel_rfl) (fun _ _ _ h => h) (Or.inl ⟨by rfl, ?_⟩) hS ?_
      rotate_left
      · (intro wx hSw; (try dsimp only at hSw); go_simp; try (with_reducible rfl))
      simp only [Act.put, List.setIfInBounds_toArray, List.set_cons_zero, List.set_cons_succ]
      refine wpTo_take (i := 7) (dn := 28) (v := ?_) rfl rfl (by kernel_rfl) (by kernel_rfl) (by kernel_rfl) (by kernel_rfl) (fun _ _ _ h => h) (Or.inl ⟨by rfl, ?_⟩) hS ?_
      rotate_left
      · (intro wx hSw; (try dsimp only at hSw); go_simp; try (with_reducible rfl))
      simp only [Act.put, List.setIfInBounds_toArray, List.set_cons_zero, List.set_cons_succ]
      refine wpTo_take (i := 8) (dn := 29) (v := ?_) rfl rfl (by kernel_rfl) (by kernel_rfl) (by kernel_rfl) (by kernel_rfl) (fun _ _ _ h => h) (Or.inl ⟨by rfl, ?_⟩) hS ?_
      rotate_left
      · (intro wx hSw; (try dsimp only at hSw); go_simp; try (with_reducible rfl))
      simp only [Act.put, List.setIfInBounds_toArray, List.set_cons_zero, List.set_cons_succ]
      refine wpTo_take (i := 9) (dn := 30) (v := ?_) rfl rfl (by kernel_rfl) (by kernel_rfl) (by kernel_rfl) (by kernel_rfl) (fun _ _ _ h => h) (Or.inl ⟨by rfl, ?_⟩) hS ?_
      rotate_left
      · (intro wx hSw; (try dsimp only at hSw); go_simp; try (with_reducible rfl))
      simp only [Act.put, List.setIfInBounds_toArray, List.set_cons_zero, List.set_cons_succ]
      refine wpTo_take (i := 10) (dn := 31) (v := ?_) rfl rfl (by kernel_rfl) (by kernel_rfl) (by kernel_rfl) (by kernel_rfl) (fun _ _ _ h => h) (Or.inl ⟨by rfl, ?_⟩) hS ?_
      rotate_left
      · (intro wx hSw; (try dsimp only at hSw); go_simp; try (with_reducible rfl))
      simp only [Act.put, List.setIfInBounds_toArray, List.set_cons_zero, List.set_cons_succ]
      refine wpTo_one (i := 11) (by kernel_rfl) rfl (fun K hK => ?_)
      go_simp
      refine hK.out _ _ (fun h => absurd rfl h) (fun _ => wpTo_end (by kernel_rfl) ?_)
      clear hK K
      refine NoPanic.normal ?_
      have hwr : IntKind.i64.wrap ((i : Int) + ((X.ntx p).length : Int)) = ((i + (X.ntx p).length : Nat) : Int) := by
        rw [IntKind.wrap_i64]; omega
      rw [hwr]
      have HX4 := hide (leave_w4 hrb (HR3.out) (HK3.out) hal HZ.out HKd.out (i + (X.ntx p).length))
      obtain ⟨W4, hW4, hZ4, hK4, hR4, hKp4⟩ := HX4.out
      rw [← hW4]
      clear hW4 HX4 hS r0 r1 r1f r2 HZ HKd HR3 HK3 hwr
      have k0 : W4.cell? ⟨w.heap.size + 1, 0, none⟩ = some (.int .i64 0) := cell_of_row W4 _ 0 _ _ _ hK4
      have k1 : W4.cell? ⟨w.heap.size + 1, 1, none⟩ = some (.int .i64 (X.ntk p)) := cell_of_row W4 _ 1 _ _ _ hK4
      have k2 : W4.cell? ⟨w.heap.size + 1, 2, none⟩ = some (.string (ba (X.ntx p))) := cell_of_row W4 _ 2 _ _ _ hK4
      have k3 : W4.cell? ⟨w.heap.size + 1, 3, none⟩ = some (.slice a4 (X.kids p).length a6) := cell_of_row W4 _ 3 _ _ _ hK4
      have e0 : W4.cell? ⟨w.heap.size, 0, none⟩ = some (.int .i64 0) := cell_of_row W4 _ 0 _ _ _ hZ4
      have e1 : W4.cell? ⟨w.heap.size, 1, none⟩ = some (.int .i64 0) := cell_of_row W4 _ 1 _ _ _ hZ4
      have e2 : W4.cell? ⟨w.heap.size, 2, none⟩ = some (.string ⟨#[]⟩) := cell_of_row W4 _ 2 _ _ _ hZ4
      have e3 : W4.cell? ⟨w.heap.size, 3, none⟩ = some (.slice none 0 0) := cell_of_row W4 _ 3 _ _ _ hZ4
      have q0 : W4.frozen? ⟨w.heap.size, 0, none⟩ = false := by simp [World.frozen?, hZ4]
      have q1 : W4.frozen? ⟨w.heap.size, 1, none⟩ = false := by simp [World.frozen?, hZ4]
      have q2 : W4.frozen? ⟨w.heap.size, 2, none⟩ = false := by simp [World.frozen?, hZ4]
      have q3 : W4.frozen? ⟨w.heap.size, 3, none⟩ = false := by simp [World.frozen?, hZ4]
      have HZ4 := hide hZ4
      have HR4 := hide hR4
      have HK4 := hide hKp4
      clear hZ4 hK4 hR4 hKp4
      go_wp2_with fail
      refine bodyPost_ret (res_node rfl _ _ (b := w.heap.size) (a5 := (X.kids p).length) rfl (set4_own HZ4.out)) rfl ⟨a4, (X.kids p).length, a6, rfl, ?_⟩
      have hkf := Kp.set4 (HK4.out) (Nat.le_refl _) (.int .i64 0) (.int .i64 (X.ntk p)) (.string (ba (X.ntx p))) (.slice a4 (X.kids p).length a6)
      have hk4 : Kp (fun q => q = w.heap.size) W4 ((((W4.setCell ⟨w.heap.size, 0, none⟩ (.int .i64 0)).setCell ⟨w.heap.size, 1, none⟩ (.int .i64 (X.ntk p))).setCell ⟨w.heap.size, 2, none⟩ (.string (ba (X.ntx p)))).setCell ⟨w.heap.size, 3, none⟩ (.slice a4 (X.kids p).length a6)) := On.set (On.set (On.set (On.set (Kp.refl _ W4) 0 _) 1 _) 2 _) 3 _
      refine ⟨(HK.out).keep hkf (fun q hq e => by rcases e with e | e <;> subst e; exact hsep.2.1 hq; exact hsep.2.2 hq), (HR4.out).keep hk4 (by omega) (by omega) (fun q hq e => ?_), hkf⟩
      have := hDl q hq
      omega
  · have iz : ((X.nk p : Int) == 0) = false := by simp; omega
    have hln : X.nln p = 0 := by cases p with
      | leaf k x => exact absurd rfl hz
      | miss m => rfl
      | br k ps => rfl
    rw [hln, Nat.add_zero]
    rcases hcs with ⟨rfl, rfl, rfl, rfl, hps0⟩ | ⟨hne, rfl, rfl, rfl⟩
    all_goals
      go_enter Tryz.func80, Tryz.ntmps80
      go_wp2_with fail
      obtain ⟨z1, z2⟩ := (HW0.out) _ HN.out
      refine bodyPost_ret (res_node rfl _ _ (b := w.heap.size) (a5 := (X.kids p).length) rfl ?_) rfl ⟨a4, (X.kids p).length, a6, rfl, ?_⟩
      · have hs0 : ∀ nv, (w.setCell ⟨rb, 1, none⟩ nv).heap.size = w.heap.size := fun nv => by simp [World.setCell]
        have hq := fun nv => heap_alloc_new (w.setCell ⟨rb, 1, none⟩ nv) (.cells #[.int .i64 (X.nk p), .int .i64 (X.ntk p), .string (ba (X.ntx p)), .slice a4 (X.kids p).length a6] 121)
        simp only [hs0] at hq
        exact (heap_alloc_old _ _ (by simp [World.setCell])).trans (hq _)
      · have kA : ∀ (W : World) (o1 o2 : Obj), Below W.heap.size W ((W.alloc o1).alloc o2) := fun W o1 o2 => ((Below.refl _ W).alloc (Nat.le_refl _) _).alloc (by simp) _
        have hkf := z2.trans (Kp.ofBelow (kA _ (.cells #[.int .i64 (X.nk p), .int .i64 (X.ntk p), .string (ba (X.ntx p)), .slice a4 (X.kids p).length a6] 121) (.cells #[.int .i64 (X.nk p), .int .i64 (X.ntk p), .string (ba (X.ntx p)), .slice a4 (X.kids p).length a6] 121)) (fun _ => False)) (fun _ _ h => h.elim)
        exact ⟨(HK.out).keep hkf (fun q hq e => by rcases e with e | e <;> subst e; exact hsep.2.1 hq; exact hsep.2.2 hq), z1.below (kA _ _ _), hkf⟩
end Go.Proofs.YtdipmfdhnplpaaaGreatDoor
/- Package syntax: what is quiet is passed; a token, a name. -/
namespace Go.Proofs.YtdipmfdhnplpaaaGreatDoor
open Go.RowKit
open M
set_option maxRecDepth 100000 in
set_option maxHeartbeats 1000000 in
theorem syQuiet_any (a1 a2 : Nat) (x : ByteArray) (a4 : Option Addr) (a5 a6 : Nat) (w : World) :
    Calls Tryz.prog 79 #[.agg #[.int .i64 a1, .int .i64 a2, .string x, .slice a4 a5 a6]] w fun e w' => e = .returned (.bool (a1 == 0 && (a2 == 1 || a2 == 2))) ∧ Below w.heap.size w w' := by
  have kA : Below w.heap.size w (w.alloc (.cells #[.int .i64 a1, .int .i64 a2, .string x, .slice a4 a5 a6] 121)) := (Below.refl _ w).alloc (Nat.le_refl _) _
  have HKA := hide kA
  clear kA
  by_cases h0 : a1 = 0
  · subst h0
    by_cases h1 : a2 = 1
    · subst h1
      go_enter Tryz.func79, Tryz.ntmps79
      go_wp2_with fail
      go_ret
      exact ⟨rfl, HKA.out⟩
    · have j1 : ((a2 : Int) == 1) = false := by simp; omega
      have k1 : (a2 == 1) = false := by simp; omega
      by_cases h2 : a2 = 2
      · subst h2
        go_enter Tryz.func79, Tryz.ntmps79
        go_wp2_with fail
        go_ret
        exact ⟨rfl, HKA.out⟩
      · have j2 : ((a2 : Int) == 2) = false := by simp; omega
        have k2 : (a2 == 2) = false := by simp; omega
        rw [k1, k2]
        go_enter Tryz.func79, Tryz.ntmps79
        go_wp2_with fail
        go_ret
        exact ⟨rfl, HKA.out⟩
  · have j0 : ((a1 : Int) == 0) = false := by simp; omega
    have k0 : (a1 == 0) = false := by simp; omega
    rw [k0]
    go_enter Tryz.func79, Tryz.ntmps79
    go_wp2_with fail
    go_ret
    exact ⟨rfl, HKA.out⟩
theorem lq_eq (p : X.Part) : (X.nk p == 0 && (X.ntk p == 1 || X.ntk p == 2)) = X.lq p := by
  cases p with
  | leaf k x => rfl
  | miss m => rfl
  | br k ps => show ((k == 0) && false) = false; rw [Bool.and_false]
/-- How many nodes a row has left. -/
def lenR (rb : Nat) (w : World) : Nat := match w.cell? ⟨rb, 1, none⟩ with | some (.slice _ n _) => n | _ => 0
theorem IsRw.len {w : World} {D : Nat → Prop} {rb ab : Nat} {ps : List X.Part} {i : Nat} (h : IsRw w D rb ab ps i) : lenR rb w = ps.length := by
  obtain ⟨v, e, hn⟩ := h.blk
  obtain ⟨ao, cap, _, _, _, _, rfl, -⟩ := hn.ex
  unfold lenR
  rw [cell_of_row w _ 1 _ _ _ e]; rfl
theorem pz_quiet {p : X.Part} (h : X.lq p = true) : X.nln p = X.pz [p] := by
  obtain ⟨k, x, rfl, -⟩ := X.lq_leaf h
  show x.length = _
  unfold X.pz
  rw [X.psb, X.pb, X.psb, List.append_nil]
theorem pz_take_le (ps : List X.Part) : X.pz (ps.takeWhile X.lq) ≤ X.pz ps := by
  have := X.pz_app (ps.takeWhile X.lq) (ps.dropWhile X.lq)
  rw [List.takeWhile_append_dropWhile] at this
  omega
set_option maxRecDepth 100000 in
set_option maxHeartbeats 2000000 in
theorem wmore_any (D : Nat → Prop) (rb ab : Nat) (ps : List X.Part) (i : Nat) (w : World) (h : IsRw w D rb ab ps i) (hi : i + X.pz ps ≤ 1073741824) (hpl : ps.length ≤ 1073741824) (hDl : ∀ q, D q → q < w.heap.size) :
    Calls Tryz.prog 45 #[.pointer (some ⟨rb, 0, none⟩)] w fun e w' => e = .returned (.bool (decide (ps.dropWhile X.lq ≠ []))) ∧ Hid (IsRw w' D rb ab (ps.dropWhile X.lq) (i + X.pz (ps.takeWhile X.lq)) ∧ Kp (Sw rb ab) w w') := by
  have H0 := hide h
  clear h
  go_enter Tryz.func45, Tryz.ntmps45
  go_wp2_with fail
  go_loopw [] (fun wr => ∃ (l : List X.Part) (k : Nat), Hid (IsRw wr D rb ab l k ∧ Kp (Sw rb ab) w wr) ∧ k + X.pz l ≤ 1073741824 ∧ l.length ≤ 1073741824 ∧ Hid (ps.dropWhile X.lq = l.dropWhile X.lq ∧ i + X.pz (ps.takeWhile X.lq) = k + X.pz (l.takeWhile X.lq))) (fun wr => lenR rb wr)
  case atStart => exact ⟨ps, i, ⟨H0.out, Kp.refl _ _⟩, hi, hpl, ⟨rfl, rfl⟩⟩
  case round =>
    obtain ⟨l, k, HI, hk, hll, HE⟩ := hrel
    have hlen := (HI.out).1.len
    obtain ⟨v, hb, hn⟩ := (HI.out).1.blk
    have c0 := cell_of_row wr _ 0 _ _ _ hb
    have c1 := cell_of_row wr _ 1 _ _ _ hb
    have HDl : Hid (∀ q, D q → q < wr.heap.size) := fun q hq => Nat.lt_of_lt_of_le (hDl q hq) (HI.out).2.size
    cases l with
    | nil =>
      obtain ⟨ao, cap, _, _, _, _, rfl, -⟩ := hn.ex
      have HF : Hid (decide (ps.dropWhile X.lq ≠ []) = false ∧ IsRw wr D rb ab (ps.dropWhile X.lq) (i + X.pz (ps.takeWhile X.lq)) ∧ Kp (Sw rb ab) w wr) := by
        obtain ⟨e1, e2⟩ := HE.out
        have e1' : ps.dropWhile X.lq = [] := e1
        have e2' : i + X.pz (ps.takeWhile X.lq) = k := e2
        rw [e1', e2']
        exact ⟨by simp, HI.out⟩
      clear hb hn HE
      go_wp2_with fail
      go_ret
      exact ⟨by rw [(HF.out).1]; rfl, (HF.out).2⟩
    | cons p l =>
      obtain ⟨g, o, cap, kv, rfl, hD, y0, y1, y2, y3, hkk, -, hc1, hc2, -, -⟩ := hn.head
      obtain ⟨a4, a6, _, _, _, _, rfl, -⟩ := hkk.ex
      have i1 : decide (0 < l.length + 1) = true := by simp
      have i2 : decide (((l.length + 1 : Nat) : Int) > 0) = true := decide_eq_true (by omega)
      have i3 : decide ((0 : Int) < (l.length : Int) + 1) = true := decide_eq_true (by omega)
      have hi1 : (0 : Int) < ((l.length + 1 : Nat) : Int) := by omega
      have hi2 : 0 < l.length + 1 := by omega
      rw [X.pz_cons] at hk
      rw [List.length_cons] at hll
      cases hq : X.lq p with
      | true =>
        have hl := lq_eq p
        rw [hq] at hl
        have HE2 : Hid (ps.dropWhile X.lq = l.dropWhile X.lq ∧ i + X.pz (ps.takeWhile X.lq) = k + X.pz [p] + X.pz (l.takeWhile X.lq)) := by
          obtain ⟨e1, e2⟩ := HE.out
          rw [List.dropWhile_cons_of_pos hq] at e1
          rw [List.takeWhile_cons_of_pos hq, X.pz_cons] at e2
          exact ⟨e1, by omega⟩
        have hnl := pz_quiet hq
        have HLv : Hid (∀ W, Below wr.heap.size wr W → Calls Tryz.prog 80 #[.pointer (some ⟨rb, 0, none⟩)] W fun e w' => ∃ a4 a5 a6, e = .returned (.agg #[.int .i64 (X.nk p), .int .i64 (X.ntk p), .string (ba (X.ntx p)), .slice a4 a5 a6]) ∧ Hid (NdS w' D (.slice a4 a5 a6) (X.kids p) ∧ IsRw w' D rb ab l (k + X.nln p) ∧ Kp (Sw rb ab) W w')) := fun W hW => wleave_any D rb ab p l k W ((HI.out).1.below hW) (by rw [hnl]; omega) (fun q hq' => Nat.lt_of_lt_of_le ((HDl.out) q hq') hW.size)
        clear hb hn hkk HE
        go_wp2_with fail
        refine (syQuiet_any _ _ _ _ _ _ wr).mono ?_
        rintro e w2 ⟨rfl, k2⟩
        rw [hl]
        have HK2 := hide k2
        clear k2 hl
        go_wp2_with fail
        refine ((HLv.out) w2 HK2.out).mono ?_
        rintro e w3 ⟨b4, b5, b6, rfl, H3⟩
        have HR3 : Hid (IsRw w3 D rb ab l (k + X.pz [p]) ∧ Kp (Sw rb ab) w w3) := by
          obtain ⟨-, z2, z3⟩ := H3.out
          rw [hnl] at z2
          exact ⟨z2, ((HI.out).2.trans (Kp.ofBelow HK2.out (fun _ => False)) (fun _ _ h => h.elim)).trans z3 (fun _ _ e => e)⟩
        clear H3
        have hl3 := (HR3.out).1.len
        go_wp2_with fail
        exact ⟨⟨l, k + X.pz [p], HR3, by omega, by omega, HE2⟩, by rw [hlen, hl3]; simp⟩
      | false =>
        have hl := lq_eq p
        rw [hq] at hl
        have HF : Hid (decide (ps.dropWhile X.lq ≠ []) = true ∧ ∀ W, Below wr.heap.size wr W → IsRw W D rb ab (ps.dropWhile X.lq) (i + X.pz (ps.takeWhile X.lq)) ∧ Kp (Sw rb ab) w W) := by
          obtain ⟨e1, e2⟩ := HE.out
          rw [List.dropWhile_cons_of_neg (by rw [hq]; simp)] at e1
          rw [List.takeWhile_cons_of_neg (by rw [hq]; simp)] at e2
          have e2' : i + X.pz (ps.takeWhile X.lq) = k := e2
          rw [e1, e2']
          exact ⟨by simp, fun W hW => ⟨(HI.out).1.below hW, (HI.out).2.trans (Kp.ofBelow hW (fun _ => False)) (fun _ _ h => h.elim)⟩⟩
        clear hb hn hkk HE
        go_wp2_with fail
        refine (syQuiet_any _ _ _ _ _ _ wr).mono ?_
        rintro e w2 ⟨rfl, k2⟩
        rw [hl]
        have d1 := (Kp.ofBelow k2 (fun _ => False)).cellv c1 id
        have HK2 := hide k2
        clear k2 hl
        go_wp2_with fail
        go_ret
        exact ⟨by rw [(HF.out).1]; rfl, (HF.out).2 _ HK2.out⟩
end Go.Proofs.YtdipmfdhnplpaaaGreatDoor
/- Package syntax: a token, the kids of a node, a name. -/
namespace Go.Proofs.YtdipmfdhnplpaaaGreatDoor
open Go.RowKit
open M
namespace X
/-- Quiet parts and one that is not. -/
structure Tk0 (t qs : List Part) (p : Part) : Prop where
  eq : t = qs ++ [p]
  qu : ∀ q ∈ qs, lq q = true
  ne : lq p = false
  ln : nln p = pz [p]
theorem Tk1.tk0 {t : List Part} {k : Nat} {x : List UInt8} {qs : List Part} (h : Tk1 t k x qs) : Tk0 t qs (.leaf k x) := ⟨h.eq, h.qu, by have := h.ne; show (k == 1 || k == 2) = false; simp; omega, (pz_leaf k x).symm⟩
theorem Tkp.tk0 {t : List Part} (h : Tkp t) : ∃ qs p, Tk0 t qs p := by
  rcases h with ⟨k, x, qs, h⟩ | ⟨m, rfl⟩
  · exact ⟨qs, _, h.tk0⟩
  · exact ⟨[], .miss m, rfl, fun q hq => (by cases hq), rfl, rfl⟩
theorem drop_quiet : ∀ {qs : List Part} {p : Part} {ps : List Part}, (∀ q ∈ qs, lq q = true) → lq p = false → (qs ++ p :: ps).dropWhile lq = p :: ps ∧ (qs ++ p :: ps).takeWhile lq = qs
  | [], p, ps, _, hp => ⟨by rw [List.nil_append, List.dropWhile_cons_of_neg (by rw [hp]; simp)], by rw [List.nil_append, List.takeWhile_cons_of_neg (by rw [hp]; simp)]⟩
  | q :: qs, p, ps, h, hp => by
    have hq := h q (by simp)
    obtain ⟨h1, h2⟩ := drop_quiet (ps := ps) (fun q' hq' => h q' (List.mem_cons_of_mem _ hq')) hp
    rw [List.cons_append, List.dropWhile_cons_of_pos hq, List.takeWhile_cons_of_pos hq, h1, h2]
    exact ⟨rfl, rfl⟩
theorem Tk0.drop {t qs : List Part} {p : Part} (h : Tk0 t qs p) (ps : List Part) : (t ++ ps).dropWhile lq = p :: ps ∧ (t ++ ps).takeWhile lq = qs := by
  rw [h.eq, List.append_assoc]; exact drop_quiet h.qu h.ne
end X
theorem IsRw.lt {w : World} {D : Nat → Prop} {rb ab : Nat} {ps : List X.Part} {i : Nat} (h : IsRw w D rb ab ps i) : rb < w.heap.size ∧ ab < w.heap.size := by
  obtain ⟨v, e, -⟩ := h.blk
  exact ⟨heap_lt e, heap_lt h.atb⟩
/-- A block that was made is not turned. -/
theorem Kp.new {w W W' : World} {rb ab : Nat} (hk : Kp (Sw rb ab) W W') (h1 : rb < w.heap.size) (h2 : ab < w.heap.size) {o : Obj} (h : W.heap[w.heap.size]? = some o) : W'.heap[w.heap.size]? = some o := hk.heap h (fun e => by rcases e with e | e <;> omega)
set_option maxRecDepth 100000 in
set_option maxHeartbeats 2000000 in
theorem wpass_any (D : Nat → Prop) (rb ab : Nat) (t qs : List X.Part) (p : X.Part) (ps : List X.Part) (i : Nat) (w : World) (h : IsRw w D rb ab (t ++ ps) i) (ht : X.Tk0 t qs p) (hi : i + X.pz (t ++ ps) ≤ 1073741824) (hpl : (t ++ ps).length ≤ 1073741824) (hDl : ∀ q, D q → q < w.heap.size) :
    Calls Tryz.prog 83 #[.pointer (some ⟨rb, 0, none⟩)] w fun e w' => ∃ a4 a5 a6, e = .returned (.agg #[.int .i64 (X.nk p), .int .i64 (X.ntk p), .string (ba (X.ntx p)), .slice a4 a5 a6]) ∧ Hid (IsRw w' D rb ab ps (i + X.pz t) ∧ Kp (Sw rb ab) w w') := by
  obtain ⟨hr, ha⟩ := h.lt
  have kA : Below w.heap.size w (w.alloc (.cells #[.int .i64 0, .int .i64 0, .string ⟨#[]⟩, .slice none 0 0] 121)) := (Below.refl _ w).alloc (Nat.le_refl _) _
  have HZ : Hid ((w.alloc (.cells #[.int .i64 0, .int .i64 0, .string ⟨#[]⟩, .slice none 0 0] 121)).heap[w.heap.size]? = some (.cells #[.int .i64 0, .int .i64 0, .string ⟨#[]⟩, .slice none 0 0] 121 (0, 0))) := heap_alloc_new w _
  have HM := hide (wmore_any D rb ab (t ++ ps) i _ (h.below kA) hi hpl (fun q hq => Nat.lt_of_lt_of_le (hDl q hq) kA.size))
  have hd := ht.drop ps
  rw [hd.1, hd.2] at HM
  have HKA := hide kA
  have hpz : X.pz t = X.pz qs + X.pz [p] := by rw [ht.eq, X.pz_app]
  have hln := ht.ln
  rw [X.pz_app] at hi
  clear h kA hd
  go_enter Tryz.func83, Tryz.ntmps83
  go_wp2_with fail
  refine (HM.out).mono ?_
  rintro e w2 ⟨rfl, H2⟩
  have HDl2 : ∀ q, D q → q < w2.heap.size := fun q hq => Nat.lt_of_lt_of_le (hDl q hq) (Nat.le_trans (HKA.out).size (H2.out).2.size)
  have HZ2 : Hid (w2.heap[w.heap.size]? = _) := (H2.out).2.new hr ha HZ.out
  have HK2 : Hid (Kp (Sw rb ab) w w2) := (Kp.ofBelow HKA.out (Sw rb ab)).trans (H2.out).2 (fun _ _ e => e)
  have HL := hide (wleave_any D rb ab p ps (i + X.pz qs) w2 (H2.out).1 (by omega) HDl2)
  clear HM HKA H2 HZ
  go_wp2_with fail
  refine (HL.out).mono ?_
  rintro e w3 ⟨a4, a5, a6, rfl, H3⟩
  have hZ3 := (H3.out).2.2.new hr ha HZ2.out
  have HZ3 := hide hZ3
  have HK3 : Hid (Kp (Sw rb ab) w w3) := (HK2.out).trans (H3.out).2.2 (fun _ _ e => e)
  have HR3 := hide (H3.out).2.1
  have e0 := cell_of_row w3 _ 0 _ _ _ hZ3
  have e1 := cell_of_row w3 _ 1 _ _ _ hZ3
  have e2 := cell_of_row w3 _ 2 _ _ _ hZ3
  have e3 := cell_of_row w3 _ 3 _ _ _ hZ3
  have q0 : w3.frozen? ⟨w.heap.size, 0, none⟩ = false := by simp [World.frozen?, hZ3]
  have q1 : w3.frozen? ⟨w.heap.size, 1, none⟩ = false := by simp [World.frozen?, hZ3]
  have q2 : w3.frozen? ⟨w.heap.size, 2, none⟩ = false := by simp [World.frozen?, hZ3]
  have q3 : w3.frozen? ⟨w.heap.size, 3, none⟩ = false := by simp [World.frozen?, hZ3]
  clear HL HK2 HZ2 H3 hZ3
  go_wp2_with fail
  refine bodyPost_ret (res_node rfl _ _ (b := w.heap.size) rfl (set4_own HZ3.out)) rfl ⟨a4, a5, a6, rfl, ?_⟩
  have hkf := Kp.set4 (HK3.out) (Nat.le_refl _) (.int .i64 (X.nk p)) (.int .i64 (X.ntk p)) (.string (ba (X.ntx p))) (.slice a4 a5 a6)
  have hk4 : Kp (fun q => q = w.heap.size) w3 ((((w3.setCell ⟨w.heap.size, 0, none⟩ (.int .i64 (X.nk p))).setCell ⟨w.heap.size, 1, none⟩ (.int .i64 (X.ntk p))).setCell ⟨w.heap.size, 2, none⟩ (.string (ba (X.ntx p)))).setCell ⟨w.heap.size, 3, none⟩ (.slice a4 a5 a6)) := On.set (On.set (On.set (On.set (Kp.refl _ w3) 0 _) 1 _) 2 _) 3 _
  refine ⟨?_, hkf⟩
  have hR := (HR3.out).keep hk4 (by omega) (by omega) (fun q hq e => by have := hDl q hq; omega)
  rw [hln] at hR
  rw [hpz, ← Nat.add_assoc]
  exact hR
/-- A result that lies in a block of a row's size; of a name's. -/
theorem res_row {fn : Func} {t : Tmp} (h : fn.results = #[.cell t 124]) (tmps : Array Value) (W : World) {b : Nat} {a1 : Option Addr} {a4 : Option Addr} {a5 a6 : Nat} (ht : tmps[t]?.getD undef = .pointer (some ⟨b, 0, none⟩)) (hb : W.heap[b]? = some (.cells #[.pointer a1, .slice a4 a5 a6] 124 (0, 0))) :
    (results fn tmps).run Tryz.prog W = .ok (.agg #[.pointer a1, .slice a4 a5 a6]) W := by
  have m0 := cell_of_row W _ 0 _ _ _ hb
  have m1 := cell_of_row W _ 1 _ _ _ hb
  simp [results, h, go_sem, ht, m0, m1]
theorem res_name {fn : Func} {t : Tmp} (h : fn.results = #[.cell t 90]) (tmps : Array Value) (W : World) {b : Nat} {x : ByteArray} {n : Int} (ht : tmps[t]?.getD undef = .pointer (some ⟨b, 0, none⟩)) (hb : W.heap[b]? = some (.cells #[.string x, .int .i64 n] 90 (0, 0))) :
    (results fn tmps).run Tryz.prog W = .ok (.agg #[.string x, .int .i64 n]) W := by
  have m0 := cell_of_row W _ 0 _ _ _ hb
  have m1 := cell_of_row W _ 1 _ _ _ hb
  simp [results, h, go_sem, ht, m0, m1]
theorem set2_own {W : World} {b : Nat} {x0 x1 y0 y1 : Value} {t : TypeId} (h : W.heap[b]? = some (.cells #[y0, y1] t (0, 0))) : ((W.setCell ⟨b, 0, none⟩ x0).setCell ⟨b, 1, none⟩ x1).heap[b]? = some (.cells #[x0, x1] t (0, 0)) := by
  simp [World.setCell, Array.getElem?_modify, h]
theorem Kp.set2 {S : Nat → Prop} {w W : World} (hk : Kp S w W) {b : Nat} (hb : w.heap.size ≤ b) (x0 x1 : Value) : Kp S w ((W.setCell ⟨b, 0, none⟩ x0).setCell ⟨b, 1, none⟩ x1) :=
  Kp.setCell (p := ⟨b, 1, none⟩) (Kp.setCell (p := ⟨b, 0, none⟩) hk (fun h => absurd h (by simpa using hb)) _) (fun h => absurd h (by simpa using hb)) _
end Go.Proofs.YtdipmfdhnplpaaaGreatDoor
