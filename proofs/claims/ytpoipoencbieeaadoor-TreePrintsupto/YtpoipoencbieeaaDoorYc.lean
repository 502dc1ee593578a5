/- Text and Root. -/
import Derived.Test.YtpoipoencbieeaaDoorXz
import Derived.Deep.RegionHeld3
namespace Go.Proofs.YtpoipoencbieeaaDoor
open Go.RowKit Go.Shelf
open M
set_option maxRecDepth 100000 in
set_option maxHeartbeats 300000 in
theorem ttext_any (tb : Nat) (s : ByteArray) (w : World) (h : IsTr w tb s) :
    Calls Tryd.prog 7 #[.pointer (some ⟨tb, 0, none⟩)] w fun e w' => e = .returned (.string s) ∧ Below w.heap.size w w' := by
  obtain ⟨db, dv, B, D, c0, c1, hd, hp, hD⟩ := h.ex
  go_enter Tryd.func7, Tryd.ntmps7
  go_wp2_with fail
  refine (text_any db dv s w hd).mono ?_
  rintro e w1 ⟨rfl, k1⟩
  go_wp2_with fail
  go_ret
  exact ⟨rfl, k1⟩
set_option maxRecDepth 100000 in
set_option maxHeartbeats 300000 in
theorem text_same (b : Nat) (s : ByteArray) (w : World) (q1 : w.cell? ⟨b, 0, none⟩ = some (.string s)) :
    Calls Tryd.prog 15 #[.pointer (some ⟨b, 0, none⟩)] w fun e w' => e = .returned (.string s) ∧ w' = w := by
  go_enter Tryd.func15, Tryd.ntmps15
  go_wp2_with fail
  go_ret
  exact ⟨rfl, rfl⟩
set_option maxRecDepth 100000 in
set_option maxHeartbeats 300000 in
theorem root_res (W : World) (b : Nat) (a1 a2 : Int) (a3 : ByteArray) (a4 : Option Addr) (a5 a6 : Nat) (t0 t1 t3 t4 t5 t6 t7 t8 t9 t10 t11 t12 t13 t14 t15 t16 t17 t18 : Value) (h : W.heap[b]? = some (.cells #[.int .i64 a1, .int .i64 a2, .string a3, .slice a4 a5 a6] 26 (0, 0))) :
    (results Tryd.f5 #[t0, t1, .pointer (some ⟨b, 0, none⟩), t3, t4, t5, t6, t7, t8, t9, t10, t11, t12, t13, t14, t15, t16, t17, t18]).run Tryd.prog W = .ok (.agg #[.int .i64 a1, .int .i64 a2, .string a3, .slice a4 a5 a6]) W := by
  have m0 := cell_of_row W _ 0 _ _ _ h
  have m1 := cell_of_row W _ 1 _ _ _ h
  have m2 := cell_of_row W _ 2 _ _ _ h
  have m3 := cell_of_row W _ 3 _ _ _ h
  simp [results, Tryd.results5, go_sem, m0, m1, m2, m3]
theorem set4_A {W : World} {b : Nat} {x0 x1 x2 x3 y0 y1 y2 y3 : Value} {t : TypeId} (o : Obj) (h : W.heap[b]? = some (.cells #[y0, y1, y2, y3] t (0, 0))) : (((((W.setCell ⟨b, 0, none⟩ x0).setCell ⟨b, 1, none⟩ x1).setCell ⟨b, 2, none⟩ x2).setCell ⟨b, 3, none⟩ x3).alloc o).heap[b]? = some (.cells #[x0, x1, x2, x3] t (0, 0)) := by
  have hl := heap_lt h
  rw [heap_alloc_old _ _ (by simpa [World.setCell] using hl)]
  simp [World.setCell, Array.getElem?_modify, h]
theorem far4 {W : World} {c b o : Nat} {x0 x1 x2 x3 v : Value} (hn : ¬ b = c) (h : W.cell? ⟨b, o, none⟩ = some v) : ((((W.setCell ⟨c, 0, none⟩ x0).setCell ⟨c, 1, none⟩ x1).setCell ⟨c, 2, none⟩ x2).setCell ⟨c, 3, none⟩ x3).cell? ⟨b, o, none⟩ = some v :=
  (On.set (On.set (On.set (On.set (Kp.refl (fun k => k = c) W) 0 x0) 1 x1) 2 x2) 3 x3).cellv h hn
set_option maxRecDepth 100000 in
set_option maxHeartbeats 4000000 in
theorem root_any (tb : Nat) (s : ByteArray) (w : World) (h : IsTr w tb s) (hz : X.psz (X.file (X.xt (bs s))) ≤ 1073741824) (hb : X.pb (X.file (X.xt (bs s))) = bs s) (hs : s.size ≤ 134217728) :
    Calls Tryd.prog 5 #[.pointer (some ⟨tb, 0, none⟩)] w fun e w' => ∃ nv, e = .returned nv ∧ Hid (∃ E, IsN w' E nv (X.file (X.xt (bs s))) ∧ (∀ q, E q → w.heap.size ≤ q ∧ q < w'.heap.size) ∧ Below w.heap.size w w') := by
  obtain ⟨db, dv, B, D, c0, c1, hd, hp, hD⟩ := h.ex
  have HS : Hid (∀ W, Below w.heap.size w W → Calls Tryd.prog 14 #[.pointer (some ⟨B, 0, none⟩), .string s] W fun e w' => ∃ (a1 a2 : Int) (a3 : ByteArray) (a4 : Option Addr) (a5 a6 : Nat), e = .returned (.tuple #[.agg #[.int .i64 a1, .int .i64 a2, .string a3, .slice a4 a5 a6], .string (ba [])]) ∧
      Hid (∃ E, IsN w' E (.agg #[.int .i64 a1, .int .i64 a2, .string a3, .slice a4 a5 a6]) (X.file (X.xt (bs s))) ∧ (∀ q, E q → W.heap.size ≤ q ∧ q < w'.heap.size) ∧ Below W.heap.size W w') ∧
      Hid (∀ (S : Nat → Prop) (w2 : World), Kp S w' w2 → (∀ q, S q → w.heap.size ≤ q ∧ q < W.heap.size) → ∃ E, IsN w2 E (.agg #[.int .i64 a1, .int .i64 a2, .string a3, .slice a4 a5 a6]) (X.file (X.xt (bs s))) ∧ (∀ q, E q → w.heap.size ≤ q ∧ q < w2.heap.size) ∧ Below w.heap.size w w2)) := fun W hW => by
    have h1 := bshow_any _ _ (Nat.le_refl _) hz (by rw [hb]; have := bs_len s; omega) W D B [] (hp.keep (Kp.ofBelow hW (fun _ => False)) (fun _ _ => id))
    rw [hb, List.append_nil, ba_bs] at h1
    refine h1.mono ?_
    rintro e w' ⟨nv, rfl, E, h2, h3⟩
    obtain ⟨a1, a2, a3, a4, a5, a6, rfl⟩ := h2.shape
    have hz := hW.size
    have hz2 := h3.2.size
    refine ⟨a1, a2, a3, a4, a5, a6, rfl, ⟨E, h2, h3⟩, fun S w2 k2 hS => ⟨E, h2.kept k2 (fun q hs hq => by have := (h3.1 q hq).1; have := (hS q hs).2; omega), fun q hq => ?_, ?_⟩⟩
    · have := h3.1 q hq
      have := k2.size
      exact ⟨by omega, by omega⟩
    · exact (hW.trans (h3.2.mono hz)).trans (Kp.below k2 (by omega) (fun q hs => (hS q hs).1))
  have HT : Hid (∀ W, Below w.heap.size w W → Calls Tryd.prog 15 #[.pointer (some ⟨db, 0, none⟩)] W fun e w' => e = .returned (.string s) ∧ w' = W) := fun W hW => text_same db s W ((Kp.ofBelow hW (fun _ => False)).cellv hd.text id)
  have htb : tb < w.heap.size := World.block_lt_of_cell? w _ c0
  have hx := hd.text
  have hdb : db < w.heap.size := World.block_lt_of_cell? w _ hx
  have hne0 : ¬ tb = w.heap.size := by omega
  have hne1 : ¬ tb = w.heap.size + 1 := by omega
  have hne2 : ¬ w.heap.size + 1 = tb := by omega
  clear h hp hd hD hb hz hx
  go_enter Tryd.func5, Tryd.ntmps5
  go_wp2_with fail
  go_region_held3 (fun w' => w'.cell? ⟨tb, 0, none⟩ = some (.pointer (some ⟨db, 0, none⟩)) ∧ w'.cell? ⟨tb, 1, none⟩ = some (.pointer (some ⟨B, 0, none⟩)))
    (first | (with_reducible exact ⟨d0, d1⟩) | (with_reducible exact ⟨far4 hne1 d0, far4 hne1 d1⟩) | go_keep)
    ((first
    | (go_at_call 14; refine ((HS.out) _ ?_).mono ?_; (first | exact ((Below.refl _ w).alloc (Nat.le_refl _) _).drew | exact (((Below.refl _ w).alloc (Nat.le_refl _) _).drew.alloc (by simp) _) | exact (((Below.refl _ w).alloc (Nat.le_refl _) _).alloc (by simp) _).drew); rintro e w5 ⟨a1, a2, a3, a4, a5, a6, rfl, H5, H6⟩; have d0 := (Kp.ofBelow (H5.out.choose_spec).2.2 (fun _ => False)).cellv (p := ⟨tb, 0, none⟩) (v := .pointer (some ⟨db, 0, none⟩)) (by go_keep) id;  have d1 := (Kp.ofBelow (H5.out.choose_spec).2.2 (fun _ => False)).cellv (p := ⟨tb, 1, none⟩) (v := .pointer (some ⟨B, 0, none⟩)) (by go_keep) id; have hres := (Kp.ofBelow (H5.out.choose_spec).2.2 (fun _ => False)).heap (b := w.heap.size) (o := .cells #[.int .i64 0, .int .i64 0, .string ⟨#[]⟩, .slice none 0 0] 26 (0, 0)) (by first | exact heap_alloc_new w _ | exact (heap_alloc_old _ _ (by simp)).trans (heap_alloc_new w _)) id; try (have hblk := (Kp.ofBelow (H5.out.choose_spec).2.2 (fun _ => False)).heap (b := w.heap.size + 1) (o := .cells #[.int .i64 0, .int .i64 0, .string ⟨#[]⟩, .slice none 0 0] 26 (0, 0)) (by first | exact new_at (w.alloc _) _ (World.size_alloc w _) | exact new_at (w.alloc _).drew _ (World.size_alloc w _)) id; have t0 := cell_of_row w5 _ 0 _ _ _ hblk; have t1 := cell_of_row w5 _ 1 _ _ _ hblk; have t2 := cell_of_row w5 _ 2 _ _ _ hblk; have t3 := cell_of_row w5 _ 3 _ _ _ hblk; have z0 : w5.frozen? ⟨w.heap.size + 1, 0, none⟩ = false := (by simp [World.frozen?, hblk]); have z1 : w5.frozen? ⟨w.heap.size + 1, 1, none⟩ = false := (by simp [World.frozen?, hblk]); have z2 : w5.frozen? ⟨w.heap.size + 1, 2, none⟩ = false := (by simp [World.frozen?, hblk]); have z3 : w5.frozen? ⟨w.heap.size + 1, 3, none⟩ = false := (by simp [World.frozen?, hblk])))
    | (go_at_call 15; refine ((HT.out) _ ?_).mono ?_; (first | exact ((Below.refl _ w).alloc (Nat.le_refl _) _).drew | exact (((Below.refl _ w).alloc (Nat.le_refl _) _).drew.alloc (by simp) _) | exact (((Below.refl _ w).alloc (Nat.le_refl _) _).alloc (by simp) _).drew); rintro e w4 ⟨rfl, rfl⟩)))
  all_goals
    have m0 := cell_of_row w5 _ 0 _ _ _ hres
    have m1 := cell_of_row w5 _ 1 _ _ _ hres
    have m2 := cell_of_row w5 _ 2 _ _ _ hres
    have m3 := cell_of_row w5 _ 3 _ _ _ hres
    have f0 : w5.frozen? ⟨w.heap.size, 0, none⟩ = false := by simp [World.frozen?, hres]
    have f1 : w5.frozen? ⟨w.heap.size, 1, none⟩ = false := by simp [World.frozen?, hres]
    have f2 : w5.frozen? ⟨w.heap.size, 2, none⟩ = false := by simp [World.frozen?, hres]
    have f3 : w5.frozen? ⟨w.heap.size, 3, none⟩ = false := by simp [World.frozen?, hres]
    have hl5 : w.heap.size < w5.heap.size := heap_lt hres
    clear H5 HS HT
    go_wp2_with fail
  · refine bodyPost_ret (root_res _ w.heap.size a1 a2 a3 a4 a5 a6 _ _ _ _ _ _ _ _ _ _ _ _ _ _ _ _ _ _ (set4_A _ hres)) rfl ⟨_, rfl, ?_⟩
    exact (H6.out) (fun q => q = w.heap.size) _ (Kp.alloc (On.set (On.set (On.set (On.set (Kp.refl _ w5) 0 _) 1 _) 2 _) 3 _) _) (fun q e => by subst e; simp)
  all_goals
    refine bodyPost_ret (root_res _ w.heap.size a1 a2 a3 a4 a5 a6 _ _ _ _ _ _ _ _ _ _ _ _ _ _ _ _ _ _ ?_) rfl ⟨_, rfl, ?_⟩
    · simp [World.setCell, Array.getElem?_modify, hres]
    · refine (H6.out) (fun q => q = w.heap.size ∨ q = w.heap.size + 1) _ ?_ (fun q e => by simp; omega)
      repeat (first | (with_reducible exact Kp.refl _ _) | (with_reducible refine Kp.setCell ?_ (fun _ => by simp) _))
end Go.Proofs.YtpoipoencbieeaaDoor
