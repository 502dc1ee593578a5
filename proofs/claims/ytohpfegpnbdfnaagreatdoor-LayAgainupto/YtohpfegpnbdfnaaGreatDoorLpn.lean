/- Package lay: a choice. -/
import Derived.Test.YtohpfegpnbdfnaaGreatDoorLpi
namespace Go.Proofs.YtohpfegpnbdfnaaGreatDoor
open Go.RowKit
open M
section
variable {P : Program} {ops : Array Oper} {Q : Exit → Act → World → Prop} {S : World → Prop} {z : Nat}
/-- Several may come up. -/
theorem wpTo_list {n : Nat} {d : Array Bool} {a : Act} {w : World} {l : List Nat} (hr : Region.ready .any ops d = l) (hl : l ≠ []) (h : ∀ i ∈ l, ∃ o, ops[i]? = some o ∧ ∀ K : Act → World → Prop, Hid (∀ a' w', (i ≠ z → S w') → ((i ≠ z → S w') → wpTo P ops Q S z n (d.setIfInBounds i true) a' w') → K a' w') → if Region.wanted o (yielded ops a.tmps) = true then Oper.wp P o a w K Q else K (a.put o.dst undef) w) : wpTo P ops Q S z (n + 1) d a w := by
  refine ⟨fun h0 => absurd (hr.symm.trans h0) hl, fun j hj => ?_⟩
  rw [hr] at hj
  obtain ⟨o, ho, hh⟩ := h j hj
  exact wpOp_step ho (fun K' hK => hh K' (fun a' w' h1 h2 => hK a' w' ⟨h1, h2 h1⟩))
end
/-- Three blocks of parts. -/
def Tri (w : World) (A B C : Nat) (u v x : Array Value) (w' : World) : Prop := w'.heap[A]? = some (.cells u 95 (0, 0)) ∧ w'.heap[B]? = some (.cells v 95 (0, 0)) ∧ w'.heap[C]? = some (.cells x 95 (0, 0)) ∧ Below w.heap.size w w'
set_option maxRecDepth 100000 in
set_option maxHeartbeats 8000000 in
theorem gchoice_any (L : List X.Lf) (q s : X.Part) (ihq : XC L q) (ihs : XC L s) (f n i te k g cap : Nat) (w : World) (Q R : Nat) (rm : List (List UInt8)) (D : Nat → Prop) (ls : List X.Lne) (kq fq tq kd fd td ks fs ts : Nat) (a1 : Option Addr) (a2 a3 : Nat) (b1 : Option Addr) (b2 b3 : Nat) (d1 : Option Addr) (d2 d3 : Nat) (cur : Array Value) (hgb : w.heap[g]? = some (.cells cur 95 (0, 0)))
    (x00 : w.cell? ⟨g, 12, none⟩ = some (.int .i64 kq)) (x01 : w.cell? ⟨g, 13, none⟩ = some (.int .i64 fq)) (x02 : w.cell? ⟨g, 14, none⟩ = some (.int .i64 tq)) (x03 : w.cell? ⟨g, 15, none⟩ = some (.slice a1 a2 a3)) (x10 : w.cell? ⟨g, 16, none⟩ = some (.int .i64 kd)) (x11 : w.cell? ⟨g, 17, none⟩ = some (.int .i64 fd)) (x12 : w.cell? ⟨g, 18, none⟩ = some (.int .i64 td)) (x13 : w.cell? ⟨g, 19, none⟩ = some (.slice b1 b2 b3)) (x20 : w.cell? ⟨g, 20, none⟩ = some (.int .i64 ks)) (x21 : w.cell? ⟨g, 21, none⟩ = some (.int .i64 fs)) (x22 : w.cell? ⟨g, 22, none⟩ = some (.int .i64 ts)) (x23 : w.cell? ⟨g, 23, none⟩ = some (.slice d1 d2 d3))
    (hr : IsRow w R rm L) (hg : ∃ lv, IsPg w Q R ls lv) (hq : IsPt w D fq (.agg #[.int .i64 kq, .int .i64 fq, .int .i64 tq, .slice a1 a2 a3]) q) (hs : IsPt w D fs (.agg #[.int .i64 ks, .int .i64 fs, .int .i64 ts, .slice d1 d2 d3]) s) (hAq : X.Ats L fq (X.fl false q)) (hAs : X.Ats L fs (X.fl false s)) (hfq : (X.nt q).length ≤ f) (hfs : (X.nt s).length ≤ f) (hmq : (n + 2) + X.dp q ≤ 522) (hms : n + 2 + X.dp s ≤ 522) (hl : ls.length + 2 + (X.nt q).length + (X.nt s).length ≤ 268435456) :
    Calls Tryz.prog 118 #[.pointer (some ⟨Q, 0, none⟩), .agg #[.int .i64 k, .int .i64 i, .int .i64 te, .slice (some ⟨g, 0, none⟩) 6 cap], .int .i64 n] w fun e w' => e = .returned (.tuple #[]) ∧ Hid (∃ l1 l2, X.SG L fq (X.nt q).length l1 (X.ex f (n + 2) q) ∧ X.SG L fs (X.nt s).length l2 (X.ex f (n + 2) s) ∧ PgTo w Q R (ls ++ ([(n, i, fq)] ++ l1 ++ [(n, fd, td)] ++ l2)) w') := by
  have HR := hide hr
  have HG := hide hg
  have HQ := hide hq
  have HS := hide hs
  have HAq := hide hAq
  have HAs := hide hAs
  have hgl := heap_lt hgb
  clear hr hg hq hs hAq hAs
  go_enter Tryz.func118, Tryz.ntmps118
  go_upto_region 1 with fail
  have k1 : Below w.heap.size w (w.alloc (.cells #[.int .i64 k, .int .i64 i, .int .i64 te, .slice (some ⟨g, 0, none⟩) 6 cap] 95)) := (Below.refl _ w).alloc (Nat.le_refl _) _
  have hbx : (w.alloc (.cells #[.int .i64 k, .int .i64 i, .int .i64 te, .slice (some ⟨g, 0, none⟩) 6 cap] 95)).heap[w.heap.size]? = some (.cells #[.int .i64 k, .int .i64 i, .int .i64 te, .slice (some ⟨g, 0, none⟩) 6 cap] 95 (0, 0)) := heap_alloc_new w _
  have hz1 : (w.alloc (.cells #[.int .i64 k, .int .i64 i, .int .i64 te, .slice (some ⟨g, 0, none⟩) 6 cap] 95)).heap.size = w.heap.size + 1 := by simp
  replace x00 := (Kp.ofBelow k1 (fun _ => False)).cellv x00 id
  replace x01 := (Kp.ofBelow k1 (fun _ => False)).cellv x01 id
  replace x02 := (Kp.ofBelow k1 (fun _ => False)).cellv x02 id
  replace x03 := (Kp.ofBelow k1 (fun _ => False)).cellv x03 id
  replace x10 := (Kp.ofBelow k1 (fun _ => False)).cellv x10 id
  replace x11 := (Kp.ofBelow k1 (fun _ => False)).cellv x11 id
  replace x12 := (Kp.ofBelow k1 (fun _ => False)).cellv x12 id
  replace x13 := (Kp.ofBelow k1 (fun _ => False)).cellv x13 id
  replace x20 := (Kp.ofBelow k1 (fun _ => False)).cellv x20 id
  replace x21 := (Kp.ofBelow k1 (fun _ => False)).cellv x21 id
  replace x22 := (Kp.ofBelow k1 (fun _ => False)).cellv x22 id
  replace x23 := (Kp.ofBelow k1 (fun _ => False)).cellv x23 id
  generalize w.alloc (.cells #[.int .i64 k, .int .i64 i, .int .i64 te, .slice (some ⟨g, 0, none⟩) 6 cap] 95) = W at *
  have bx3 := cell_of_row W _ 3 _ _ _ hbx
  have HK1 := hide k1
  have hWl : w.heap.size < W.heap.size := by omega
  have hgW : g < W.heap.size := by omega
  have HBX := hide hbx
  have HZ1 := hide hz1
  clear k1 hz1 hbx
  go_cut [6, 7, 8] (fun s6 s7 s8 wx => ∃ A B C, s6 = .pointer (some ⟨A, 0, none⟩) ∧ s7 = .pointer (some ⟨B, 0, none⟩) ∧ s8 = .pointer (some ⟨C, 0, none⟩) ∧ Hid (Tri W A B C #[.int .i64 kq, .int .i64 fq, .int .i64 tq, .slice a1 a2 a3] #[.int .i64 kd, .int .i64 fd, .int .i64 td, .slice b1 b2 b3] #[.int .i64 ks, .int .i64 fs, .int .i64 ts, .slice d1 d2 d3] wx))
  case first =>
    refine wp_region_noPanic ?_
    refine wpTo_start (S := fun w' => w'.cell? ⟨w.heap.size, 3, none⟩ = some (.slice (some ⟨g, 0, none⟩) 6 cap) ∧ w'.cell? ⟨g, 12, none⟩ = some (.int .i64 kq) ∧ w'.cell? ⟨g, 13, none⟩ = some (.int .i64 fq) ∧ w'.cell? ⟨g, 14, none⟩ = some (.int .i64 tq) ∧ w'.cell? ⟨g, 15, none⟩ = some (.slice a1 a2 a3) ∧ w'.cell? ⟨g, 16, none⟩ = some (.int .i64 kd) ∧ w'.cell? ⟨g, 17, none⟩ = some (.int .i64 fd) ∧ w'.cell? ⟨g, 18, none⟩ = some (.int .i64 td) ∧ w'.cell? ⟨g, 19, none⟩ = some (.slice b1 b2 b3) ∧ w'.cell? ⟨g, 20, none⟩ = some (.int .i64 ks) ∧ w'.cell? ⟨g, 21, none⟩ = some (.int .i64 fs) ∧ w'.cell? ⟨g, 22, none⟩ = some (.int .i64 ts) ∧ w'.cell? ⟨g, 23, none⟩ = some (.slice d1 d2 d3)) (z := 18) (by kernel_rfl) ?_
    have hS : W.drew.cell? ⟨w.heap.size, 3, none⟩ = some (.slice (some ⟨g, 0, none⟩) 6 cap) ∧ W.drew.cell? ⟨g, 12, none⟩ = some (.int .i64 kq) ∧ W.drew.cell? ⟨g, 13, none⟩ = some (.int .i64 fq) ∧ W.drew.cell? ⟨g, 14, none⟩ = some (.int .i64 tq) ∧ W.drew.cell? ⟨g, 15, none⟩ = some (.slice a1 a2 a3) ∧ W.drew.cell? ⟨g, 16, none⟩ = some (.int .i64 kd) ∧ W.drew.cell? ⟨g, 17, none⟩ = some (.int .i64 fd) ∧ W.drew.cell? ⟨g, 18, none⟩ = some (.int .i64 td) ∧ W.drew.cell? ⟨g, 19, none⟩ = some (.slice b1 b2 b3) ∧ W.drew.cell? ⟨g, 20, none⟩ = some (.int .i64 ks) ∧ W.drew.cell? ⟨g, 21, none⟩ = some (.int .i64 fs) ∧ W.drew.cell? ⟨g, 22, none⟩ = some (.int .i64 ts) ∧ W.drew.cell? ⟨g, 23, none⟩ = some (.slice d1 d2 d3) := ⟨bx3, x00, x01, x02, x03, x10, x11, x12, x13, x20, x21, x22, x23⟩
    have HSW := hide hS
    iterate 12 (refine wpTo_nx (v := ?_) rfl rfl (by kernel_rfl) (by decide) (by kernel_rfl) (by kernel_rfl) (fun _ _ _ h => h) (Or.inl ⟨by rfl, ?_⟩) hS ?_; rotate_left; (· (intro wx hSw; (try dsimp only at hSw); go_simp; try (with_reducible rfl))); simp only [Act.put, List.setIfInBounds_toArray, List.set_cons_zero, List.set_cons_succ])
    have HSK : Hid (∀ w', Below W.heap.size W w' → w'.cell? ⟨w.heap.size, 3, none⟩ = some (.slice (some ⟨g, 0, none⟩) 6 cap) ∧ w'.cell? ⟨g, 12, none⟩ = some (.int .i64 kq) ∧ w'.cell? ⟨g, 13, none⟩ = some (.int .i64 fq) ∧ w'.cell? ⟨g, 14, none⟩ = some (.int .i64 tq) ∧ w'.cell? ⟨g, 15, none⟩ = some (.slice a1 a2 a3) ∧ w'.cell? ⟨g, 16, none⟩ = some (.int .i64 kd) ∧ w'.cell? ⟨g, 17, none⟩ = some (.int .i64 fd) ∧ w'.cell? ⟨g, 18, none⟩ = some (.int .i64 td) ∧ w'.cell? ⟨g, 19, none⟩ = some (.slice b1 b2 b3) ∧ w'.cell? ⟨g, 20, none⟩ = some (.int .i64 ks) ∧ w'.cell? ⟨g, 21, none⟩ = some (.int .i64 fs) ∧ w'.cell? ⟨g, 22, none⟩ = some (.int .i64 ts) ∧ w'.cell? ⟨g, 23, none⟩ = some (.slice d1 d2 d3)) := fun w' hB => by
      have hK := Kp.ofBelow hB (fun _ => False)
      exact ⟨hK.cellv bx3 id, hK.cellv x00 id, hK.cellv x01 id, hK.cellv x02 id, hK.cellv x03 id, hK.cellv x10 id, hK.cellv x11 id, hK.cellv x12 id, hK.cellv x13 id, hK.cellv x20 id, hK.cellv x21 id, hK.cellv x22 id, hK.cellv x23 id⟩
    clear hS HSW
    have z1 : Below W.heap.size W (W.alloc (.cells #[.int .i64 0, .int .i64 0, .int .i64 0, .slice none 0 0] 95)) := (Below.refl _ W).alloc (Nat.le_refl _) _
    have z2 : Below W.heap.size W ((W.alloc (.cells #[.int .i64 0, .int .i64 0, .int .i64 0, .slice none 0 0] 95)).alloc (.cells #[.int .i64 0, .int .i64 0, .int .i64 0, .slice none 0 0] 95)) := z1.alloc (by simp) _
    have z3 : Below W.heap.size W (((W.alloc (.cells #[.int .i64 0, .int .i64 0, .int .i64 0, .slice none 0 0] 95)).alloc (.cells #[.int .i64 0, .int .i64 0, .int .i64 0, .slice none 0 0] 95)).alloc (.cells #[.int .i64 0, .int .i64 0, .int .i64 0, .slice none 0 0] 95)) := z2.alloc (by simp; omega) _
    have HZ := hide z1
    have HY := hide z2
    have HX := hide z3
    have e0 : (((W.alloc (.cells #[.int .i64 0, .int .i64 0, .int .i64 0, .slice none 0 0] 95)).alloc (.cells #[.int .i64 0, .int .i64 0, .int .i64 0, .slice none 0 0] 95)).alloc (.cells #[.int .i64 0, .int .i64 0, .int .i64 0, .slice none 0 0] 95)).drew.heap[W.heap.size]? = some (.cells #[.int .i64 0, .int .i64 0, .int .i64 0, .slice none 0 0] 95 (0, 0)) := (heap_alloc_old _ _ (by simp; omega)).trans ((heap_alloc_old _ _ (by simp)).trans (heap_alloc_new W _))
    have e1 : (((W.alloc (.cells #[.int .i64 0, .int .i64 0, .int .i64 0, .slice none 0 0] 95)).alloc (.cells #[.int .i64 0, .int .i64 0, .int .i64 0, .slice none 0 0] 95)).alloc (.cells #[.int .i64 0, .int .i64 0, .int .i64 0, .slice none 0 0] 95)).drew.heap[W.heap.size + 1]? = some (.cells #[.int .i64 0, .int .i64 0, .int .i64 0, .slice none 0 0] 95 (0, 0)) := (heap_alloc_old _ _ (by simp)).trans (new_at _ _ (by simp))
    have e2 : (((W.alloc (.cells #[.int .i64 0, .int .i64 0, .int .i64 0, .slice none 0 0] 95)).alloc (.cells #[.int .i64 0, .int .i64 0, .int .i64 0, .slice none 0 0] 95)).alloc (.cells #[.int .i64 0, .int .i64 0, .int .i64 0, .slice none 0 0] 95)).drew.heap[W.heap.size + 2]? = some (.cells #[.int .i64 0, .int .i64 0, .int .i64 0, .slice none 0 0] 95 (0, 0)) := new_at _ _ (by simp)
    clear z1 z2 z3
    refine wpTo_list (l := [12, 13, 14]) (by kernel_rfl) (by simp) (fun j hj => ?_)
    have hj' : j = 12 ∨ j = 13 ∨ j = 14 := by simpa using hj
    clear hj
    rcases hj' with rfl | rfl | rfl
    · refine ⟨_, rfl, fun K hK => ?_⟩
      go_simp
      refine hK.out _ _ (fun _ => (HSK.out) _ ((HZ.out).drew)) (fun _ => ?_)
      clear hK K
      refine wpTo_list (l := [13, 14]) (by kernel_rfl) (by simp) (fun j hj => ?_)
      have hj' : j = 13 ∨ j = 14 := by simpa using hj
      clear hj
      rcases hj' with rfl | rfl
      · refine ⟨_, rfl, fun K hK => ?_⟩
        go_simp
        refine hK.out _ _ (fun _ => (HSK.out) _ ((HY.out).drew)) (fun _ => ?_)
        clear hK K
        refine wpTo_list (l := [14]) (by kernel_rfl) (by simp) (fun j hj => ?_)
        obtain rfl : j = 14 := by simpa using hj
        clear hj
        · refine ⟨_, rfl, fun K hK => ?_⟩
          go_simp
          refine hK.out _ _ (fun _ => (HSK.out) _ ((HX.out).drew)) (fun _ => ?_)
          clear hK K
          have HD : Hid (Below W.heap.size W (((W.alloc (.cells #[.int .i64 0, .int .i64 0, .int .i64 0, .slice none 0 0] 95)).alloc (.cells #[.int .i64 0, .int .i64 0, .int .i64 0, .slice none 0 0] 95)).alloc (.cells #[.int .i64 0, .int .i64 0, .int .i64 0, .slice none 0 0] 95)).drew) := (HX.out).drew
          generalize (((W.alloc (.cells #[.int .i64 0, .int .i64 0, .int .i64 0, .slice none 0 0] 95)).alloc (.cells #[.int .i64 0, .int .i64 0, .int .i64 0, .slice none 0 0] 95)).alloc (.cells #[.int .i64 0, .int .i64 0, .int .i64 0, .slice none 0 0] 95)).drew = W3 at *
          clear HX HY HZ
          have m0 := cell_of_row W3 _ 0 _ _ _ e0
          have m1 := cell_of_row W3 _ 1 _ _ _ e0
          have m2 := cell_of_row W3 _ 2 _ _ _ e0
          have m3 := cell_of_row W3 _ 3 _ _ _ e0
          have f0 : W3.frozen? ⟨W.heap.size, 0, none⟩ = false := by simp [World.frozen?, e0]
          have f1 : W3.frozen? ⟨W.heap.size, 1, none⟩ = false := by simp [World.frozen?, e0]
          have f2 : W3.frozen? ⟨W.heap.size, 2, none⟩ = false := by simp [World.frozen?, e0]
          have f3 : W3.frozen? ⟨W.heap.size, 3, none⟩ = false := by simp [World.frozen?, e0]
          have g0 := set4_B (x0 := (.int .i64 kq)) (x1 := (.int .i64 fq)) (x2 := (.int .i64 tq)) (x3 := (.slice a1 a2 a3)) e0
          have kS : Kp (fun x => x = W.heap.size) W3 ((((W3.setCell ⟨W.heap.size, 0, none⟩ (.int .i64 kq)).setCell ⟨W.heap.size, 1, none⟩ (.int .i64 fq)).setCell ⟨W.heap.size, 2, none⟩ (.int .i64 tq)).setCell ⟨W.heap.size, 3, none⟩ (.slice a1 a2 a3)) := On.set (On.set (On.set (On.set (Kp.refl _ W3) 0 _) 1 _) 2 _) 3 _
          have HD2 : Hid (Below W.heap.size W ((((W3.setCell ⟨W.heap.size, 0, none⟩ (.int .i64 kq)).setCell ⟨W.heap.size, 1, none⟩ (.int .i64 fq)).setCell ⟨W.heap.size, 2, none⟩ (.int .i64 tq)).setCell ⟨W.heap.size, 3, none⟩ (.slice a1 a2 a3))) := (HD.out).trans (Kp.below kS (HD.out).size (fun x e => by omega))
          replace e1 := kS.heap e1 (show ¬ (W.heap.size + 1 = W.heap.size) by omega)
          replace e2 := kS.heap e2 (show ¬ (W.heap.size + 2 = W.heap.size) by omega)
          refine wpTo_one (i := 15) (by kernel_rfl) rfl (fun K hK => ?_)
          go_simp
          refine hK.out _ _ (fun _ => (HSK.out) _ HD2.out) (fun _ => ?_)
          clear hK K m0 m1 m2 m3 f0 f1 f2 f3 HD e0 kS
          have e0 := g0
          clear g0
          generalize ((((W3.setCell ⟨W.heap.size, 0, none⟩ (.int .i64 kq)).setCell ⟨W.heap.size, 1, none⟩ (.int .i64 fq)).setCell ⟨W.heap.size, 2, none⟩ (.int .i64 tq)).setCell ⟨W.heap.size, 3, none⟩ (.slice a1 a2 a3)) = W4 at *
          have HD := HD2
          clear HD2
          have m0 := cell_of_row W4 _ 0 _ _ _ e1
          have m1 := cell_of_row W4 _ 1 _ _ _ e1
          have m2 := cell_of_row W4 _ 2 _ _ _ e1
          have m3 := cell_of_row W4 _ 3 _ _ _ e1
          have f0 : W4.frozen? ⟨W.heap.size + 1, 0, none⟩ = false := by simp [World.frozen?, e1]
          have f1 : W4.frozen? ⟨W.heap.size + 1, 1, none⟩ = false := by simp [World.frozen?, e1]
          have f2 : W4.frozen? ⟨W.heap.size + 1, 2, none⟩ = false := by simp [World.frozen?, e1]
          have f3 : W4.frozen? ⟨W.heap.size + 1, 3, none⟩ = false := by simp [World.frozen?, e1]
          have g0 := set4_B (x0 := (.int .i64 kd)) (x1 := (.int .i64 fd)) (x2 := (.int .i64 td)) (x3 := (.slice b1 b2 b3)) e1
          have kS : Kp (fun x => x = W.heap.size + 1) W4 ((((W4.setCell ⟨W.heap.size + 1, 0, none⟩ (.int .i64 kd)).setCell ⟨W.heap.size + 1, 1, none⟩ (.int .i64 fd)).setCell ⟨W.heap.size + 1, 2, none⟩ (.int .i64 td)).setCell ⟨W.heap.size + 1, 3, none⟩ (.slice b1 b2 b3)) := On.set (On.set (On.set (On.set (Kp.refl _ W4) 0 _) 1 _) 2 _) 3 _
          have HD2 : Hid (Below W.heap.size W ((((W4.setCell ⟨W.heap.size + 1, 0, none⟩ (.int .i64 kd)).setCell ⟨W.heap.size + 1, 1, none⟩ (.int .i64 fd)).setCell ⟨W.heap.size + 1, 2, none⟩ (.int .i64 td)).setCell ⟨W.heap.size + 1, 3, none⟩ (.slice b1 b2 b3))) := (HD.out).trans (Kp.below kS (HD.out).size (fun x e => by omega))
          replace e0 := kS.heap e0 (show ¬ (W.heap.size = W.heap.size + 1) by omega)
          replace e2 := kS.heap e2 (show ¬ (W.heap.size + 2 = W.heap.size + 1) by omega)
          refine wpTo_one (i := 16) (by kernel_rfl) rfl (fun K hK => ?_)
          go_simp
          refine hK.out _ _ (fun _ => (HSK.out) _ HD2.out) (fun _ => ?_)
          clear hK K m0 m1 m2 m3 f0 f1 f2 f3 HD e1 kS
          have e1 := g0
          clear g0
          generalize ((((W4.setCell ⟨W.heap.size + 1, 0, none⟩ (.int .i64 kd)).setCell ⟨W.heap.size + 1, 1, none⟩ (.int .i64 fd)).setCell ⟨W.heap.size + 1, 2, none⟩ (.int .i64 td)).setCell ⟨W.heap.size + 1, 3, none⟩ (.slice b1 b2 b3)) = W5 at *
          have HD := HD2
          clear HD2
          have m0 := cell_of_row W5 _ 0 _ _ _ e2
          have m1 := cell_of_row W5 _ 1 _ _ _ e2
          have m2 := cell_of_row W5 _ 2 _ _ _ e2
          have m3 := cell_of_row W5 _ 3 _ _ _ e2
          have f0 : W5.frozen? ⟨W.heap.size + 2, 0, none⟩ = false := by simp [World.frozen?, e2]
          have f1 : W5.frozen? ⟨W.heap.size + 2, 1, none⟩ = false := by simp [World.frozen?, e2]
          have f2 : W5.frozen? ⟨W.heap.size + 2, 2, none⟩ = false := by simp [World.frozen?, e2]
          have f3 : W5.frozen? ⟨W.heap.size + 2, 3, none⟩ = false := by simp [World.frozen?, e2]
          have g0 := set4_B (x0 := (.int .i64 ks)) (x1 := (.int .i64 fs)) (x2 := (.int .i64 ts)) (x3 := (.slice d1 d2 d3)) e2
          have kS : Kp (fun x => x = W.heap.size + 2) W5 ((((W5.setCell ⟨W.heap.size + 2, 0, none⟩ (.int .i64 ks)).setCell ⟨W.heap.size + 2, 1, none⟩ (.int .i64 fs)).setCell ⟨W.heap.size + 2, 2, none⟩ (.int .i64 ts)).setCell ⟨W.heap.size + 2, 3, none⟩ (.slice d1 d2 d3)) := On.set (On.set (On.set (On.set (Kp.refl _ W5) 0 _) 1 _) 2 _) 3 _
          have HD2 : Hid (Below W.heap.size W ((((W5.setCell ⟨W.heap.size + 2, 0, none⟩ (.int .i64 ks)).setCell ⟨W.heap.size + 2, 1, none⟩ (.int .i64 fs)).setCell ⟨W.heap.size + 2, 2, none⟩ (.int .i64 ts)).setCell ⟨W.heap.size + 2, 3, none⟩ (.slice d1 d2 d3))) := (HD.out).trans (Kp.below kS (HD.out).size (fun x e => by omega))
          replace e0 := kS.heap e0 (show ¬ (W.heap.size = W.heap.size + 2) by omega)
          replace e1 := kS.heap e1 (show ¬ (W.heap.size + 1 = W.heap.size + 2) by omega)
          refine wpTo_one (i := 17) (by kernel_rfl) rfl (fun K hK => ?_)
          go_simp
          refine hK.out _ _ (fun _ => (HSK.out) _ HD2.out) (fun _ => ?_)
          clear hK K m0 m1 m2 m3 f0 f1 f2 f3 HD e2 kS
          have e2 := g0
          clear g0
          generalize ((((W5.setCell ⟨W.heap.size + 2, 0, none⟩ (.int .i64 ks)).setCell ⟨W.heap.size + 2, 1, none⟩ (.int .i64 fs)).setCell ⟨W.heap.size + 2, 2, none⟩ (.int .i64 ts)).setCell ⟨W.heap.size + 2, 3, none⟩ (.slice d1 d2 d3)) = W6 at *
          have HD := HD2
          clear HD2
          have HF : Hid (Tri W (W.heap.size) (W.heap.size + 1) (W.heap.size + 2) #[.int .i64 kq, .int .i64 fq, .int .i64 tq, .slice a1 a2 a3] #[.int .i64 kd, .int .i64 fd, .int .i64 td, .slice b1 b2 b3] #[.int .i64 ks, .int .i64 fs, .int .i64 ts, .slice d1 d2 d3] W6) := ⟨e0, e1, e2, HD.out⟩
          clear HD HSK e0 e1 e2
          refine wpTo_end (by kernel_rfl) ?_
          refine NoPanic.normal ?_
          go_wp2_with fail
          go_meet
          case rel => exact ⟨_, _, _, rfl, rfl, rfl, HF⟩
      · refine ⟨_, rfl, fun K hK => ?_⟩
        go_simp
        refine hK.out _ _ (fun _ => (HSK.out) _ ((HY.out).drew)) (fun _ => ?_)
        clear hK K
        refine wpTo_list (l := [13]) (by kernel_rfl) (by simp) (fun j hj => ?_)
        obtain rfl : j = 13 := by simpa using hj
        clear hj
        · refine ⟨_, rfl, fun K hK => ?_⟩
          go_simp
          refine hK.out _ _ (fun _ => (HSK.out) _ ((HX.out).drew)) (fun _ => ?_)
          clear hK K
          have HD : Hid (Below W.heap.size W (((W.alloc (.cells #[.int .i64 0, .int .i64 0, .int .i64 0, .slice none 0 0] 95)).alloc (.cells #[.int .i64 0, .int .i64 0, .int .i64 0, .slice none 0 0] 95)).alloc (.cells #[.int .i64 0, .int .i64 0, .int .i64 0, .slice none 0 0] 95)).drew) := (HX.out).drew
          generalize (((W.alloc (.cells #[.int .i64 0, .int .i64 0, .int .i64 0, .slice none 0 0] 95)).alloc (.cells #[.int .i64 0, .int .i64 0, .int .i64 0, .slice none 0 0] 95)).alloc (.cells #[.int .i64 0, .int .i64 0, .int .i64 0, .slice none 0 0] 95)).drew = W3 at *
          clear HX HY HZ
          have m0 := cell_of_row W3 _ 0 _ _ _ e0
          have m1 := cell_of_row W3 _ 1 _ _ _ e0
          have m2 := cell_of_row W3 _ 2 _ _ _ e0
          have m3 := cell_of_row W3 _ 3 _ _ _ e0
          have f0 : W3.frozen? ⟨W.heap.size, 0, none⟩ = false := by simp [World.frozen?, e0]
          have f1 : W3.frozen? ⟨W.heap.size, 1, none⟩ = false := by simp [World.frozen?, e0]
          have f2 : W3.frozen? ⟨W.heap.size, 2, none⟩ = false := by simp [World.frozen?, e0]
          have f3 : W3.frozen? ⟨W.heap.size, 3, none⟩ = false := by simp [World.frozen?, e0]
          have g0 := set4_B (x0 := (.int .i64 kq)) (x1 := (.int .i64 fq)) (x2 := (.int .i64 tq)) (x3 := (.slice a1 a2 a3)) e0
          have kS : Kp (fun x => x = W.heap.size) W3 ((((W3.setCell ⟨W.heap.size, 0, none⟩ (.int .i64 kq)).setCell ⟨W.heap.size, 1, none⟩ (.int .i64 fq)).setCell ⟨W.heap.size, 2, none⟩ (.int .i64 tq)).setCell ⟨W.heap.size, 3, none⟩ (.slice a1 a2 a3)) := On.set (On.set (On.set (On.set (Kp.refl _ W3) 0 _) 1 _) 2 _) 3 _
          have HD2 : Hid (Below W.heap.size W ((((W3.setCell ⟨W.heap.size, 0, none⟩ (.int .i64 kq)).setCell ⟨W.heap.size, 1, none⟩ (.int .i64 fq)).setCell ⟨W.heap.size, 2, none⟩ (.int .i64 tq)).setCell ⟨W.heap.size, 3, none⟩ (.slice a1 a2 a3))) := (HD.out).trans (Kp.below kS (HD.out).size (fun x e => by omega))
          replace e2 := kS.heap e2 (show ¬ (W.heap.size + 2 = W.heap.size) by omega)
          replace e1 := kS.heap e1 (show ¬ (W.heap.size + 1 = W.heap.size) by omega)
          refine wpTo_one (i := 15) (by kernel_rfl) rfl (fun K hK => ?_)
          go_simp
          refine hK.out _ _ (fun _ => (HSK.out) _ HD2.out) (fun _ => ?_)
          clear hK K m0 m1 m2 m3 f0 f1 f2 f3 HD e0 kS
          have e0 := g0
          clear g0
          generalize ((((W3.setCell ⟨W.heap.size, 0, none⟩ (.int .i64 kq)).setCell ⟨W.heap.size, 1, none⟩ (.int .i64 fq)).setCell ⟨W.heap.size, 2, none⟩ (.int .i64 tq)).setCell ⟨W.heap.size, 3, none⟩ (.slice a1 a2 a3)) = W4 at *
          have HD := HD2
          clear HD2
          have m0 := cell_of_row W4 _ 0 _ _ _ e2
          have m1 := cell_of_row W4 _ 1 _ _ _ e2
          have m2 := cell_of_row W4 _ 2 _ _ _ e2
          have m3 := cell_of_row W4 _ 3 _ _ _ e2
          have f0 : W4.frozen? ⟨W.heap.size + 2, 0, none⟩ = false := by simp [World.frozen?, e2]
          have f1 : W4.frozen? ⟨W.heap.size + 2, 1, none⟩ = false := by simp [World.frozen?, e2]
          have f2 : W4.frozen? ⟨W.heap.size + 2, 2, none⟩ = false := by simp [World.frozen?, e2]
          have f3 : W4.frozen? ⟨W.heap.size + 2, 3, none⟩ = false := by simp [World.frozen?, e2]
          have g0 := set4_B (x0 := (.int .i64 kd)) (x1 := (.int .i64 fd)) (x2 := (.int .i64 td)) (x3 := (.slice b1 b2 b3)) e2
          have kS : Kp (fun x => x = W.heap.size + 2) W4 ((((W4.setCell ⟨W.heap.size + 2, 0, none⟩ (.int .i64 kd)).setCell ⟨W.heap.size + 2, 1, none⟩ (.int .i64 fd)).setCell ⟨W.heap.size + 2, 2, none⟩ (.int .i64 td)).setCell ⟨W.heap.size + 2, 3, none⟩ (.slice b1 b2 b3)) := On.set (On.set (On.set (On.set (Kp.refl _ W4) 0 _) 1 _) 2 _) 3 _
          have HD2 : Hid (Below W.heap.size W ((((W4.setCell ⟨W.heap.size + 2, 0, none⟩ (.int .i64 kd)).setCell ⟨W.heap.size + 2, 1, none⟩ (.int .i64 fd)).setCell ⟨W.heap.size + 2, 2, none⟩ (.int .i64 td)).setCell ⟨W.heap.size + 2, 3, none⟩ (.slice b1 b2 b3))) := (HD.out).trans (Kp.below kS (HD.out).size (fun x e => by omega))
          replace e0 := kS.heap e0 (show ¬ (W.heap.size = W.heap.size + 2) by omega)
          replace e1 := kS.heap e1 (show ¬ (W.heap.size + 1 = W.heap.size + 2) by omega)
          refine wpTo_one (i := 16) (by kernel_rfl) rfl (fun K hK => ?_)
          go_simp
          refine hK.out _ _ (fun _ => (HSK.out) _ HD2.out) (fun _ => ?_)
          clear hK K m0 m1 m2 m3 f0 f1 f2 f3 HD e2 kS
          have e2 := g0
          clear g0
          generalize ((((W4.setCell ⟨W.heap.size + 2, 0, none⟩ (.int .i64 kd)).setCell ⟨W.heap.size + 2, 1, none⟩ (.int .i64 fd)).setCell ⟨W.heap.size + 2, 2, none⟩ (.int .i64 td)).setCell ⟨W.heap.size + 2, 3, none⟩ (.slice b1 b2 b3)) = W5 at *
          have HD := HD2
          clear HD2
          have m0 := cell_of_row W5 _ 0 _ _ _ e1
          have m1 := cell_of_row W5 _ 1 _ _ _ e1
          have m2 := cell_of_row W5 _ 2 _ _ _ e1
          have m3 := cell_of_row W5 _ 3 _ _ _ e1
          have f0 : W5.frozen? ⟨W.heap.size + 1, 0, none⟩ = false := by simp [World.frozen?, e1]
          have f1 : W5.frozen? ⟨W.heap.size + 1, 1, none⟩ = false := by simp [World.frozen?, e1]
          have f2 : W5.frozen? ⟨W.heap.size + 1, 2, none⟩ = false := by simp [World.frozen?, e1]
          have f3 : W5.frozen? ⟨W.heap.size + 1, 3, none⟩ = false := by simp [World.frozen?, e1]
          have g0 := set4_B (x0 := (.int .i64 ks)) (x1 := (.int .i64 fs)) (x2 := (.int .i64 ts)) (x3 := (.slice d1 d2 d3)) e1
          have kS : Kp (fun x => x = W.heap.size + 1) W5 ((((W5.setCell ⟨W.heap.size + 1, 0, none⟩ (.int .i64 ks)).setCell ⟨W.heap.size + 1, 1, none⟩ (.int .i64 fs)).setCell ⟨W.heap.size + 1, 2, none⟩ (.int .i64 ts)).setCell ⟨W.heap.size + 1, 3, none⟩ (.slice d1 d2 d3)) := On.set (On.set (On.set (On.set (Kp.refl _ W5) 0 _) 1 _) 2 _) 3 _
          have HD2 : Hid (Below W.heap.size W ((((W5.setCell ⟨W.heap.size + 1, 0, none⟩ (.int .i64 ks)).setCell ⟨W.heap.size + 1, 1, none⟩ (.int .i64 fs)).setCell ⟨W.heap.size + 1, 2, none⟩ (.int .i64 ts)).setCell ⟨W.heap.size + 1, 3, none⟩ (.slice d1 d2 d3))) := (HD.out).trans (Kp.below kS (HD.out).size (fun x e => by omega))
          replace e0 := kS.heap e0 (show ¬ (W.heap.size = W.heap.size + 1) by omega)
          replace e2 := kS.heap e2 (show ¬ (W.heap.size + 2 = W.heap.size + 1) by omega)
          refine wpTo_one (i := 17) (by kernel_rfl) rfl (fun K hK => ?_)
          go_simp
          refine hK.out _ _ (fun _ => (HSK.out) _ HD2.out) (fun _ => ?_)
          clear hK K m0 m1 m2 m3 f0 f1 f2 f3 HD e1 kS
          have e1 := g0
          clear g0
          generalize ((((W5.setCell ⟨W.heap.size + 1, 0, none⟩ (.int .i64 ks)).setCell ⟨W.heap.size + 1, 1, none⟩ (.int .i64 fs)).setCell ⟨W.heap.size + 1, 2, none⟩ (.int .i64 ts)).setCell ⟨W.heap.size + 1, 3, none⟩ (.slice d1 d2 d3)) = W6 at *
          have HD := HD2
          clear HD2
          have HF : Hid (Tri W (W.heap.size) (W.heap.size + 2) (W.heap.size + 1) #[.int .i64 kq, .int .i64 fq, .int .i64 tq, .slice a1 a2 a3] #[.int .i64 kd, .int .i64 fd, .int .i64 td, .slice b1 b2 b3] #[.int .i64 ks, .int .i64 fs, .int .i64 ts, .slice d1 d2 d3] W6) := ⟨e0, e2, e1, HD.out⟩
          clear HD HSK e0 e2 e1
          refine wpTo_end (by kernel_rfl) ?_
          refine NoPanic.normal ?_
          go_wp2_with fail
          go_meet
          case rel => exact ⟨_, _, _, rfl, rfl, rfl, HF⟩
    · refine ⟨_, rfl, fun K hK => ?_⟩
      go_simp
      refine hK.out _ _ (fun _ => (HSK.out) _ ((HZ.out).drew)) (fun _ => ?_)
      clear hK K
      refine wpTo_list (l := [12, 14]) (by kernel_rfl) (by simp) (fun j hj => ?_)
      have hj' : j = 12 ∨ j = 14 := by simpa using hj
      clear hj
      rcases hj' with rfl | rfl
      · refine ⟨_, rfl, fun K hK => ?_⟩
        go_simp
        refine hK.out _ _ (fun _ => (HSK.out) _ ((HY.out).drew)) (fun _ => ?_)
        clear hK K
        refine wpTo_list (l := [14]) (by kernel_rfl) (by simp) (fun j hj => ?_)
        obtain rfl : j = 14 := by simpa using hj
        clear hj
        · refine ⟨_, rfl, fun K hK => ?_⟩
          go_simp
          refine hK.out _ _ (fun _ => (HSK.out) _ ((HX.out).drew)) (fun _ => ?_)
          clear hK K
          have HD : Hid (Below W.heap.size W (((W.alloc (.cells #[.int .i64 0, .int .i64 0, .int .i64 0, .slice none 0 0] 95)).alloc (.cells #[.int .i64 0, .int .i64 0, .int .i64 0, .slice none 0 0] 95)).alloc (.cells #[.int .i64 0, .int .i64 0, .int .i64 0, .slice none 0 0] 95)).drew) := (HX.out).drew
          generalize (((W.alloc (.cells #[.int .i64 0, .int .i64 0, .int .i64 0, .slice none 0 0] 95)).alloc (.cells #[.int .i64 0, .int .i64 0, .int .i64 0, .slice none 0 0] 95)).alloc (.cells #[.int .i64 0, .int .i64 0, .int .i64 0, .slice none 0 0] 95)).drew = W3 at *
          clear HX HY HZ
          have m0 := cell_of_row W3 _ 0 _ _ _ e1
          have m1 := cell_of_row W3 _ 1 _ _ _ e1
          have m2 := cell_of_row W3 _ 2 _ _ _ e1
          have m3 := cell_of_row W3 _ 3 _ _ _ e1
          have f0 : W3.frozen? ⟨W.heap.size + 1, 0, none⟩ = false := by simp [World.frozen?, e1]
          have f1 : W3.frozen? ⟨W.heap.size + 1, 1, none⟩ = false := by simp [World.frozen?, e1]
          have f2 : W3.frozen? ⟨W.heap.size + 1, 2, none⟩ = false := by simp [World.frozen?, e1]
          have f3 : W3.frozen? ⟨W.heap.size + 1, 3, none⟩ = false := by simp [World.frozen?, e1]
          have g0 := set4_B (x0 := (.int .i64 kq)) (x1 := (.int .i64 fq)) (x2 := (.int .i64 tq)) (x3 := (.slice a1 a2 a3)) e1
          have kS : Kp (fun x => x = W.heap.size + 1) W3 ((((W3.setCell ⟨W.heap.size + 1, 0, none⟩ (.int .i64 kq)).setCell ⟨W.heap.size + 1, 1, none⟩ (.int .i64 fq)).setCell ⟨W.heap.size + 1, 2, none⟩ (.int .i64 tq)).setCell ⟨W.heap.size + 1, 3, none⟩ (.slice a1 a2 a3)) := On.set (On.set (On.set (On.set (Kp.refl _ W3) 0 _) 1 _) 2 _) 3 _
          have HD2 : Hid (Below W.heap.size W ((((W3.setCell ⟨W.heap.size + 1, 0, none⟩ (.int .i64 kq)).setCell ⟨W.heap.size + 1, 1, none⟩ (.int .i64 fq)).setCell ⟨W.heap.size + 1, 2, none⟩ (.int .i64 tq)).setCell ⟨W.heap.size + 1, 3, none⟩ (.slice a1 a2 a3))) := (HD.out).trans (Kp.below kS (HD.out).size (fun x e => by omega))
          replace e0 := kS.heap e0 (show ¬ (W.heap.size = W.heap.size + 1) by omega)
          replace e2 := kS.heap e2 (show ¬ (W.heap.size + 2 = W.heap.size + 1) by omega)
          refine wpTo_one (i := 15) (by kernel_rfl) rfl (fun K hK => ?_)
          go_simp
          refine hK.out _ _ (fun _ => (HSK.out) _ HD2.out) (fun _ => ?_)
          clear hK K m0 m1 m2 m3 f0 f1 f2 f3 HD e1 kS
          have e1 := g0
          clear g0
          generalize ((((W3.setCell ⟨W.heap.size + 1, 0, none⟩ (.int .i64 kq)).setCell ⟨W.heap.size + 1, 1, none⟩ (.int .i64 fq)).setCell ⟨W.heap.size + 1, 2, none⟩ (.int .i64 tq)).setCell ⟨W.heap.size + 1, 3, none⟩ (.slice a1 a2 a3)) = W4 at *
          have HD := HD2
          clear HD2
          have m0 := cell_of_row W4 _ 0 _ _ _ e0
          have m1 := cell_of_row W4 _ 1 _ _ _ e0
          have m2 := cell_of_row W4 _ 2 _ _ _ e0
          have m3 := cell_of_row W4 _ 3 _ _ _ e0
          have f0 : W4.frozen? ⟨W.heap.size, 0, none⟩ = false := by simp [World.frozen?, e0]
          have f1 : W4.frozen? ⟨W.heap.size, 1, none⟩ = false := by simp [World.frozen?, e0]
          have f2 : W4.frozen? ⟨W.heap.size, 2, none⟩ = false := by simp [World.frozen?, e0]
          have f3 : W4.frozen? ⟨W.heap.size, 3, none⟩ = false := by simp [World.frozen?, e0]
          have g0 := set4_B (x0 := (.int .i64 kd)) (x1 := (.int .i64 fd)) (x2 := (.int .i64 td)) (x3 := (.slice b1 b2 b3)) e0
          have kS : Kp (fun x => x = W.heap.size) W4 ((((W4.setCell ⟨W.heap.size, 0, none⟩ (.int .i64 kd)).setCell ⟨W.heap.size, 1, none⟩ (.int .i64 fd)).setCell ⟨W.heap.size, 2, none⟩ (.int .i64 td)).setCell ⟨W.heap.size, 3, none⟩ (.slice b1 b2 b3)) := On.set (On.set (On.set (On.set (Kp.refl _ W4) 0 _) 1 _) 2 _) 3 _
          have HD2 : Hid (Below W.heap.size W ((((W4.setCell ⟨W.heap.size, 0, none⟩ (.int .i64 kd)).setCell ⟨W.heap.size, 1, none⟩ (.int .i64 fd)).setCell ⟨W.heap.size, 2, none⟩ (.int .i64 td)).setCell ⟨W.heap.size, 3, none⟩ (.slice b1 b2 b3))) := (HD.out).trans (Kp.below kS (HD.out).size (fun x e => by omega))
          replace e1 := kS.heap e1 (show ¬ (W.heap.size + 1 = W.heap.size) by omega)
          replace e2 := kS.heap e2 (show ¬ (W.heap.size + 2 = W.heap.size) by omega)
          refine wpTo_one (i := 16) (by kernel_rfl) rfl (fun K hK => ?_)
          go_simp
          refine hK.out _ _ (fun _ => (HSK.out) _ HD2.out) (fun _ => ?_)
          clear hK K m0 m1 m2 m3 f0 f1 f2 f3 HD e0 kS
          have e0 := g0
          clear g0
          generalize ((((W4.setCell ⟨W.heap.size, 0, none⟩ (.int .i64 kd)).setCell ⟨W.heap.size, 1, none⟩ (.int .i64 fd)).setCell ⟨W.heap.size, 2, none⟩ (.int .i64 td)).setCell ⟨W.heap.size, 3, none⟩ (.slice b1 b2 b3)) = W5 at *
          have HD := HD2
          clear HD2
          have m0 := cell_of_row W5 _ 0 _ _ _ e2
          have m1 := cell_of_row W5 _ 1 _ _ _ e2
          have m2 := cell_of_row W5 _ 2 _ _ _ e2
          have m3 := cell_of_row W5 _ 3 _ _ _ e2
          have f0 : W5.frozen? ⟨W.heap.size + 2, 0, none⟩ = false := by simp [World.frozen?, e2]
          have f1 : W5.frozen? ⟨W.heap.size + 2, 1, none⟩ = false := by simp [World.frozen?, e2]
          have f2 : W5.frozen? ⟨W.heap.size + 2, 2, none⟩ = false := by simp [World.frozen?, e2]
          have f3 : W5.frozen? ⟨W.heap.size + 2, 3, none⟩ = false := by simp [World.frozen?, e2]
          have g0 := set4_B (x0 := (.int .i64 ks)) (x1 := (.int .i64 fs)) (x2 := (.int .i64 ts)) (x3 := (.slice d1 d2 d3)) e2
          have kS : Kp (fun x => x = W.heap.size + 2) W5 ((((W5.setCell ⟨W.heap.size + 2, 0, none⟩ (.int .i64 ks)).setCell ⟨W.heap.size + 2, 1, none⟩ (.int .i64 fs)).setCell ⟨W.heap.size + 2, 2, none⟩ (.int .i64 ts)).setCell ⟨W.heap.size + 2, 3, none⟩ (.slice d1 d2 d3)) := On.set (On.set (On.set (On.set (Kp.refl _ W5) 0 _) 1 _) 2 _) 3 _
          have HD2 : Hid (Below W.heap.size W ((((W5.setCell ⟨W.heap.size + 2, 0, none⟩ (.int .i64 ks)).setCell ⟨W.heap.size + 2, 1, none⟩ (.int .i64 fs)).setCell ⟨W.heap.size + 2, 2, none⟩ (.int .i64 ts)).setCell ⟨W.heap.size + 2, 3, none⟩ (.slice d1 d2 d3))) := (HD.out).trans (Kp.below kS (HD.out).size (fun x e => by omega))
          replace e1 := kS.heap e1 (show ¬ (W.heap.size + 1 = W.heap.size + 2) by omega)
          replace e0 := kS.heap e0 (show ¬ (W.heap.size = W.heap.size + 2) by omega)
          refine wpTo_one (i := 17) (by kernel_rfl) rfl (fun K hK => ?_)
          go_simp
          refine hK.out _ _ (fun _ => (HSK.out) _ HD2.out) (fun _ => ?_)
          clear hK K m0 m1 m2 m3 f0 f1 f2 f3 HD e2 kS
          have e2 := g0
          clear g0
          generalize ((((W5.setCell ⟨W.heap.size + 2, 0, none⟩ (.int .i64 ks)).setCell ⟨W.heap.size + 2, 1, none⟩ (.int .i64 fs)).setCell ⟨W.heap.size + 2, 2, none⟩ (.int .i64 ts)).setCell ⟨W.heap.size + 2, 3, none⟩ (.slice d1 d2 d3)) = W6 at *
          have HD := HD2
          clear HD2
          have HF : Hid (Tri W (W.heap.size + 1) (W.heap.size) (W.heap.size + 2) #[.int .i64 kq, .int .i64 fq, .int .i64 tq, .slice a1 a2 a3] #[.int .i64 kd, .int .i64 fd, .int .i64 td, .slice b1 b2 b3] #[.int .i64 ks, .int .i64 fs, .int .i64 ts, .slice d1 d2 d3] W6) := ⟨e1, e0, e2, HD.out⟩
          clear HD HSK e1 e0 e2
          refine wpTo_end (by kernel_rfl) ?_
          refine NoPanic.normal ?_
          go_wp2_with fail
          go_meet
          case rel => exact ⟨_, _, _, rfl, rfl, rfl, HF⟩
      · refine ⟨_, rfl, fun K hK => ?_⟩
        go_simp
        refine hK.out _ _ (fun _ => (HSK.out) _ ((HY.out).drew)) (fun _ => ?_)
        clear hK K
        refine wpTo_list (l := [12]) (by kernel_rfl) (by simp) (fun j hj => ?_)
        obtain rfl : j = 12 := by simpa using hj
        clear hj
        · refine ⟨_, rfl, fun K hK => ?_⟩
          go_simp
          refine hK.out _ _ (fun _ => (HSK.out) _ ((HX.out).drew)) (fun _ => ?_)
          clear hK K
          have HD : Hid (Below W.heap.size W (((W.alloc (.cells #[.int .i64 0, .int .i64 0, .int .i64 0, .slice none 0 0] 95)).alloc (.cells #[.int .i64 0, .int .i64 0, .int .i64 0, .slice none 0 0] 95)).alloc (.cells #[.int .i64 0, .int .i64 0, .int .i64 0, .slice none 0 0] 95)).drew) := (HX.out).drew
          generalize (((W.alloc (.cells #[.int .i64 0, .int .i64 0, .int .i64 0, .slice none 0 0] 95)).alloc (.cells #[.int .i64 0, .int .i64 0, .int .i64 0, .slice none 0 0] 95)).alloc (.cells #[.int .i64 0, .int .i64 0, .int .i64 0, .slice none 0 0] 95)).drew = W3 at *
          clear HX HY HZ
          have m0 := cell_of_row W3 _ 0 _ _ _ e2
          have m1 := cell_of_row W3 _ 1 _ _ _ e2
          have m2 := cell_of_row W3 _ 2 _ _ _ e2
          have m3 := cell_of_row W3 _ 3 _ _ _ e2
          have f0 : W3.frozen? ⟨W.heap.size + 2, 0, none⟩ = false := by simp [World.frozen?, e2]
          have f1 : W3.frozen? ⟨W.heap.size + 2, 1, none⟩ = false := by simp [World.frozen?, e2]
          have f2 : W3.frozen? ⟨W.heap.size + 2, 2, none⟩ = false := by simp [World.frozen?, e2]
          have f3 : W3.frozen? ⟨W.heap.size + 2, 3, none⟩ = false := by simp [World.frozen?, e2]
          have g0 := set4_B (x0 := (.int .i64 kq)) (x1 := (.int .i64 fq)) (x2 := (.int .i64 tq)) (x3 := (.slice a1 a2 a3)) e2
          have kS : Kp (fun x => x = W.heap.size + 2) W3 ((((W3.setCell ⟨W.heap.size + 2, 0, none⟩ (.int .i64 kq)).setCell ⟨W.heap.size + 2, 1, none⟩ (.int .i64 fq)).setCell ⟨W.heap.size + 2, 2, none⟩ (.int .i64 tq)).setCell ⟨W.heap.size + 2, 3, none⟩ (.slice a1 a2 a3)) := On.set (On.set (On.set (On.set (Kp.refl _ W3) 0 _) 1 _) 2 _) 3 _
          have HD2 : Hid (Below W.heap.size W ((((W3.setCell ⟨W.heap.size + 2, 0, none⟩ (.int .i64 kq)).setCell ⟨W.heap.size + 2, 1, none⟩ (.int .i64 fq)).setCell ⟨W.heap.size + 2, 2, none⟩ (.int .i64 tq)).setCell ⟨W.heap.size + 2, 3, none⟩ (.slice a1 a2 a3))) := (HD.out).trans (Kp.below kS (HD.out).size (fun x e => by omega))
          replace e0 := kS.heap e0 (show ¬ (W.heap.size = W.heap.size + 2) by omega)
          replace e1 := kS.heap e1 (show ¬ (W.heap.size + 1 = W.heap.size + 2) by omega)
          refine wpTo_one (i := 15) (by kernel_rfl) rfl (fun K hK => ?_)
          go_simp
          refine hK.out _ _ (fun _ => (HSK.out) _ HD2.out) (fun _ => ?_)
          clear hK K m0 m1 m2 m3 f0 f1 f2 f3 HD e2 kS
          have e2 := g0
          clear g0
          generalize ((((W3.setCell ⟨W.heap.size + 2, 0, none⟩ (.int .i64 kq)).setCell ⟨W.heap.size + 2, 1, none⟩ (.int .i64 fq)).setCell ⟨W.heap.size + 2, 2, none⟩ (.int .i64 tq)).setCell ⟨W.heap.size + 2, 3, none⟩ (.slice a1 a2 a3)) = W4 at *
          have HD := HD2
          clear HD2
          have m0 := cell_of_row W4 _ 0 _ _ _ e0
          have m1 := cell_of_row W4 _ 1 _ _ _ e0
          have m2 := cell_of_row W4 _ 2 _ _ _ e0
          have m3 := cell_of_row W4 _ 3 _ _ _ e0
          have f0 : W4.frozen? ⟨W.heap.size, 0, none⟩ = false := by simp [World.frozen?, e0]
          have f1 : W4.frozen? ⟨W.heap.size, 1, none⟩ = false := by simp [World.frozen?, e0]
          have f2 : W4.frozen? ⟨W.heap.size, 2, none⟩ = false := by simp [World.frozen?, e0]
          have f3 : W4.frozen? ⟨W.heap.size, 3, none⟩ = false := by simp [World.frozen?, e0]
          have g0 := set4_B (x0 := (.int .i64 kd)) (x1 := (.int .i64 fd)) (x2 := (.int .i64 td)) (x3 := (.slice b1 b2 b3)) e0
          have kS : Kp (fun x => x = W.heap.size) W4 ((((W4.setCell ⟨W.heap.size, 0, none⟩ (.int .i64 kd)).setCell ⟨W.heap.size, 1, none⟩ (.int .i64 fd)).setCell ⟨W.heap.size, 2, none⟩ (.int .i64 td)).setCell ⟨W.heap.size, 3, none⟩ (.slice b1 b2 b3)) := On.set (On.set (On.set (On.set (Kp.refl _ W4) 0 _) 1 _) 2 _) 3 _
          have HD2 : Hid (Below W.heap.size W ((((W4.setCell ⟨W.heap.size, 0, none⟩ (.int .i64 kd)).setCell ⟨W.heap.size, 1, none⟩ (.int .i64 fd)).setCell ⟨W.heap.size, 2, none⟩ (.int .i64 td)).setCell ⟨W.heap.size, 3, none⟩ (.slice b1 b2 b3))) := (HD.out).trans (Kp.below kS (HD.out).size (fun x e => by omega))
          replace e2 := kS.heap e2 (show ¬ (W.heap.size + 2 = W.heap.size) by omega)
          replace e1 := kS.heap e1 (show ¬ (W.heap.size + 1 = W.heap.size) by omega)
          refine wpTo_one (i := 16) (by kernel_rfl) rfl (fun K hK => ?_)
          go_simp
          refine hK.out _ _ (fun _ => (HSK.out) _ HD2.out) (fun _ => ?_)
          clear hK K m0 m1 m2 m3 f0 f1 f2 f3 HD e0 kS
          have e0 := g0
          clear g0
          generalize ((((W4.setCell ⟨W.heap.size, 0, none⟩ (.int .i64 kd)).setCell ⟨W.heap.size, 1, none⟩ (.int .i64 fd)).setCell ⟨W.heap.size, 2, none⟩ (.int .i64 td)).setCell ⟨W.heap.size, 3, none⟩ (.slice b1 b2 b3)) = W5 at *
          have HD := HD2
          clear HD2
          have m0 := cell_of_row W5 _ 0 _ _ _ e1
          have m1 := cell_of_row W5 _ 1 _ _ _ e1
          have m2 := cell_of_row W5 _ 2 _ _ _ e1
          have m3 := cell_of_row W5 _ 3 _ _ _ e1
          have f0 : W5.frozen? ⟨W.heap.size + 1, 0, none⟩ = false := by simp [World.frozen?, e1]
          have f1 : W5.frozen? ⟨W.heap.size + 1, 1, none⟩ = false := by simp [World.frozen?, e1]
          have f2 : W5.frozen? ⟨W.heap.size + 1, 2, none⟩ = false := by simp [World.frozen?, e1]
          have f3 : W5.frozen? ⟨W.heap.size + 1, 3, none⟩ = false := by simp [World.frozen?, e1]
          have g0 := set4_B (x0 := (.int .i64 ks)) (x1 := (.int .i64 fs)) (x2 := (.int .i64 ts)) (x3 := (.slice d1 d2 d3)) e1
          have kS : Kp (fun x => x = W.heap.size + 1) W5 ((((W5.setCell ⟨W.heap.size + 1, 0, none⟩ (.int .i64 ks)).setCell ⟨W.heap.size + 1, 1, none⟩ (.int .i64 fs)).setCell ⟨W.heap.size + 1, 2, none⟩ (.int .i64 ts)).setCell ⟨W.heap.size + 1, 3, none⟩ (.slice d1 d2 d3)) := On.set (On.set (On.set (On.set (Kp.refl _ W5) 0 _) 1 _) 2 _) 3 _
          have HD2 : Hid (Below W.heap.size W ((((W5.setCell ⟨W.heap.size + 1, 0, none⟩ (.int .i64 ks)).setCell ⟨W.heap.size + 1, 1, none⟩ (.int .i64 fs)).setCell ⟨W.heap.size + 1, 2, none⟩ (.int .i64 ts)).setCell ⟨W.heap.size + 1, 3, none⟩ (.slice d1 d2 d3))) := (HD.out).trans (Kp.below kS (HD.out).size (fun x e => by omega))
          replace e2 := kS.heap e2 (show ¬ (W.heap.size + 2 = W.heap.size + 1) by omega)
          replace e0 := kS.heap e0 (show ¬ (W.heap.size = W.heap.size + 1) by omega)
          refine wpTo_one (i := 17) (by kernel_rfl) rfl (fun K hK => ?_)
          go_simp
          refine hK.out _ _ (fun _ => (HSK.out) _ HD2.out) (fun _ => ?_)
          clear hK K m0 m1 m2 m3 f0 f1 f2 f3 HD e1 kS
          have e1 := g0
          clear g0
          generalize ((((W5.setCell ⟨W.heap.size + 1, 0, none⟩ (.int .i64 ks)).setCell ⟨W.heap.size + 1, 1, none⟩ (.int .i64 fs)).setCell ⟨W.heap.size + 1, 2, none⟩ (.int .i64 ts)).setCell ⟨W.heap.size + 1, 3, none⟩ (.slice d1 d2 d3)) = W6 at *
          have HD := HD2
          clear HD2
          have HF : Hid (Tri W (W.heap.size + 2) (W.heap.size) (W.heap.size + 1) #[.int .i64 kq, .int .i64 fq, .int .i64 tq, .slice a1 a2 a3] #[.int .i64 kd, .int .i64 fd, .int .i64 td, .slice b1 b2 b3] #[.int .i64 ks, .int .i64 fs, .int .i64 ts, .slice d1 d2 d3] W6) := ⟨e2, e0, e1, HD.out⟩
          clear HD HSK e2 e0 e1
          refine wpTo_end (by kernel_rfl) ?_
          refine NoPanic.normal ?_
          go_wp2_with fail
          go_meet
          case rel => exact ⟨_, _, _, rfl, rfl, rfl, HF⟩
    · refine ⟨_, rfl, fun K hK => ?_⟩
      go_simp
      refine hK.out _ _ (fun _ => (HSK.out) _ ((HZ.out).drew)) (fun _ => ?_)
      clear hK K
      refine wpTo_list (l := [12, 13]) (by kernel_rfl) (by simp) (fun j hj => ?_)
      have hj' : j = 12 ∨ j = 13 := by simpa using hj
      clear hj
      rcases hj' with rfl | rfl
      · refine ⟨_, rfl, fun K hK => ?_⟩
        go_simp
        refine hK.out _ _ (fun _ => (HSK.out) _ ((HY.out).drew)) (fun _ => ?_)
        clear hK K
        refine wpTo_list (l := [13]) (by kernel_rfl) (by simp) (fun j hj => ?_)
        obtain rfl : j = 13 := by simpa using hj
        clear hj
        · refine ⟨_, rfl, fun K hK => ?_⟩
          go_simp
          refine hK.out _ _ (fun _ => (HSK.out) _ ((HX.out).drew)) (fun _ => ?_)
          clear hK K
          have HD : Hid (Below W.heap.size W (((W.alloc (.cells #[.int .i64 0, .int .i64 0, .int .i64 0, .slice none 0 0] 95)).alloc (.cells #[.int .i64 0, .int .i64 0, .int .i64 0, .slice none 0 0] 95)).alloc (.cells #[.int .i64 0, .int .i64 0, .int .i64 0, .slice none 0 0] 95)).drew) := (HX.out).drew
          generalize (((W.alloc (.cells #[.int .i64 0, .int .i64 0, .int .i64 0, .slice none 0 0] 95)).alloc (.cells #[.int .i64 0, .int .i64 0, .int .i64 0, .slice none 0 0] 95)).alloc (.cells #[.int .i64 0, .int .i64 0, .int .i64 0, .slice none 0 0] 95)).drew = W3 at *
          clear HX HY HZ
          have m0 := cell_of_row W3 _ 0 _ _ _ e1
          have m1 := cell_of_row W3 _ 1 _ _ _ e1
          have m2 := cell_of_row W3 _ 2 _ _ _ e1
          have m3 := cell_of_row W3 _ 3 _ _ _ e1
          have f0 : W3.frozen? ⟨W.heap.size + 1, 0, none⟩ = false := by simp [World.frozen?, e1]
          have f1 : W3.frozen? ⟨W.heap.size + 1, 1, none⟩ = false := by simp [World.frozen?, e1]
          have f2 : W3.frozen? ⟨W.heap.size + 1, 2, none⟩ = false := by simp [World.frozen?, e1]
          have f3 : W3.frozen? ⟨W.heap.size + 1, 3, none⟩ = false := by simp [World.frozen?, e1]
          have g0 := set4_B (x0 := (.int .i64 kq)) (x1 := (.int .i64 fq)) (x2 := (.int .i64 tq)) (x3 := (.slice a1 a2 a3)) e1
          have kS : Kp (fun x => x = W.heap.size + 1) W3 ((((W3.setCell ⟨W.heap.size + 1, 0, none⟩ (.int .i64 kq)).setCell ⟨W.heap.size + 1, 1, none⟩ (.int .i64 fq)).setCell ⟨W.heap.size + 1, 2, none⟩ (.int .i64 tq)).setCell ⟨W.heap.size + 1, 3, none⟩ (.slice a1 a2 a3)) := On.set (On.set (On.set (On.set (Kp.refl _ W3) 0 _) 1 _) 2 _) 3 _
          have HD2 : Hid (Below W.heap.size W ((((W3.setCell ⟨W.heap.size + 1, 0, none⟩ (.int .i64 kq)).setCell ⟨W.heap.size + 1, 1, none⟩ (.int .i64 fq)).setCell ⟨W.heap.size + 1, 2, none⟩ (.int .i64 tq)).setCell ⟨W.heap.size + 1, 3, none⟩ (.slice a1 a2 a3))) := (HD.out).trans (Kp.below kS (HD.out).size (fun x e => by omega))
          replace e2 := kS.heap e2 (show ¬ (W.heap.size + 2 = W.heap.size + 1) by omega)
          replace e0 := kS.heap e0 (show ¬ (W.heap.size = W.heap.size + 1) by omega)
          refine wpTo_one (i := 15) (by kernel_rfl) rfl (fun K hK => ?_)
          go_simp
          refine hK.out _ _ (fun _ => (HSK.out) _ HD2.out) (fun _ => ?_)
          clear hK K m0 m1 m2 m3 f0 f1 f2 f3 HD e1 kS
          have e1 := g0
          clear g0
          generalize ((((W3.setCell ⟨W.heap.size + 1, 0, none⟩ (.int .i64 kq)).setCell ⟨W.heap.size + 1, 1, none⟩ (.int .i64 fq)).setCell ⟨W.heap.size + 1, 2, none⟩ (.int .i64 tq)).setCell ⟨W.heap.size + 1, 3, none⟩ (.slice a1 a2 a3)) = W4 at *
          have HD := HD2
          clear HD2
          have m0 := cell_of_row W4 _ 0 _ _ _ e2
          have m1 := cell_of_row W4 _ 1 _ _ _ e2
          have m2 := cell_of_row W4 _ 2 _ _ _ e2
          have m3 := cell_of_row W4 _ 3 _ _ _ e2
          have f0 : W4.frozen? ⟨W.heap.size + 2, 0, none⟩ = false := by simp [World.frozen?, e2]
          have f1 : W4.frozen? ⟨W.heap.size + 2, 1, none⟩ = false := by simp [World.frozen?, e2]
          have f2 : W4.frozen? ⟨W.heap.size + 2, 2, none⟩ = false := by simp [World.frozen?, e2]
          have f3 : W4.frozen? ⟨W.heap.size + 2, 3, none⟩ = false := by simp [World.frozen?, e2]
          have g0 := set4_B (x0 := (.int .i64 kd)) (x1 := (.int .i64 fd)) (x2 := (.int .i64 td)) (x3 := (.slice b1 b2 b3)) e2
          have kS : Kp (fun x => x = W.heap.size + 2) W4 ((((W4.setCell ⟨W.heap.size + 2, 0, none⟩ (.int .i64 kd)).setCell ⟨W.heap.size + 2, 1, none⟩ (.int .i64 fd)).setCell ⟨W.heap.size + 2, 2, none⟩ (.int .i64 td)).setCell ⟨W.heap.size + 2, 3, none⟩ (.slice b1 b2 b3)) := On.set (On.set (On.set (On.set (Kp.refl _ W4) 0 _) 1 _) 2 _) 3 _
          have HD2 : Hid (Below W.heap.size W ((((W4.setCell ⟨W.heap.size + 2, 0, none⟩ (.int .i64 kd)).setCell ⟨W.heap.size + 2, 1, none⟩ (.int .i64 fd)).setCell ⟨W.heap.size + 2, 2, none⟩ (.int .i64 td)).setCell ⟨W.heap.size + 2, 3, none⟩ (.slice b1 b2 b3))) := (HD.out).trans (Kp.below kS (HD.out).size (fun x e => by omega))
          replace e1 := kS.heap e1 (show ¬ (W.heap.size + 1 = W.heap.size + 2) by omega)
          replace e0 := kS.heap e0 (show ¬ (W.heap.size = W.heap.size + 2) by omega)
          refine wpTo_one (i := 16) (by kernel_rfl) rfl (fun K hK => ?_)
          go_simp
          refine hK.out _ _ (fun _ => (HSK.out) _ HD2.out) (fun _ => ?_)
          clear hK K m0 m1 m2 m3 f0 f1 f2 f3 HD e2 kS
          have e2 := g0
          clear g0
          generalize ((((W4.setCell ⟨W.heap.size + 2, 0, none⟩ (.int .i64 kd)).setCell ⟨W.heap.size + 2, 1, none⟩ (.int .i64 fd)).setCell ⟨W.heap.size + 2, 2, none⟩ (.int .i64 td)).setCell ⟨W.heap.size + 2, 3, none⟩ (.slice b1 b2 b3)) = W5 at *
          have HD := HD2
          clear HD2
          have m0 := cell_of_row W5 _ 0 _ _ _ e0
          have m1 := cell_of_row W5 _ 1 _ _ _ e0
          have m2 := cell_of_row W5 _ 2 _ _ _ e0
          have m3 := cell_of_row W5 _ 3 _ _ _ e0
          have f0 : W5.frozen? ⟨W.heap.size, 0, none⟩ = false := by simp [World.frozen?, e0]
          have f1 : W5.frozen? ⟨W.heap.size, 1, none⟩ = false := by simp [World.frozen?, e0]
          have f2 : W5.frozen? ⟨W.heap.size, 2, none⟩ = false := by simp [World.frozen?, e0]
          have f3 : W5.frozen? ⟨W.heap.size, 3, none⟩ = false := by simp [World.frozen?, e0]
          have g0 := set4_B (x0 := (.int .i64 ks)) (x1 := (.int .i64 fs)) (x2 := (.int .i64 ts)) (x3 := (.slice d1 d2 d3)) e0
          have kS : Kp (fun x => x = W.heap.size) W5 ((((W5.setCell ⟨W.heap.size, 0, none⟩ (.int .i64 ks)).setCell ⟨W.heap.size, 1, none⟩ (.int .i64 fs)).setCell ⟨W.heap.size, 2, none⟩ (.int .i64 ts)).setCell ⟨W.heap.size, 3, none⟩ (.slice d1 d2 d3)) := On.set (On.set (On.set (On.set (Kp.refl _ W5) 0 _) 1 _) 2 _) 3 _
          have HD2 : Hid (Below W.heap.size W ((((W5.setCell ⟨W.heap.size, 0, none⟩ (.int .i64 ks)).setCell ⟨W.heap.size, 1, none⟩ (.int .i64 fs)).setCell ⟨W.heap.size, 2, none⟩ (.int .i64 ts)).setCell ⟨W.heap.size, 3, none⟩ (.slice d1 d2 d3))) := (HD.out).trans (Kp.below kS (HD.out).size (fun x e => by omega))
          replace e1 := kS.heap e1 (show ¬ (W.heap.size + 1 = W.heap.size) by omega)
          replace e2 := kS.heap e2 (show ¬ (W.heap.size + 2 = W.heap.size) by omega)
          refine wpTo_one (i := 17) (by kernel_rfl) rfl (fun K hK => ?_)
          go_simp
          refine hK.out _ _ (fun _ => (HSK.out) _ HD2.out) (fun _ => ?_)
          clear hK K m0 m1 m2 m3 f0 f1 f2 f3 HD e0 kS
          have e0 := g0
          clear g0
          generalize ((((W5.setCell ⟨W.heap.size, 0, none⟩ (.int .i64 ks)).setCell ⟨W.heap.size, 1, none⟩ (.int .i64 fs)).setCell ⟨W.heap.size, 2, none⟩ (.int .i64 ts)).setCell ⟨W.heap.size, 3, none⟩ (.slice d1 d2 d3)) = W6 at *
          have HD := HD2
          clear HD2
          have HF : Hid (Tri W (W.heap.size + 1) (W.heap.size + 2) (W.heap.size) #[.int .i64 kq, .int .i64 fq, .int .i64 tq, .slice a1 a2 a3] #[.int .i64 kd, .int .i64 fd, .int .i64 td, .slice b1 b2 b3] #[.int .i64 ks, .int .i64 fs, .int .i64 ts, .slice d1 d2 d3] W6) := ⟨e1, e2, e0, HD.out⟩
          clear HD HSK e1 e2 e0
          refine wpTo_end (by kernel_rfl) ?_
          refine NoPanic.normal ?_
          go_wp2_with fail
          go_meet
          case rel => exact ⟨_, _, _, rfl, rfl, rfl, HF⟩
      · refine ⟨_, rfl, fun K hK => ?_⟩
        go_simp
        refine hK.out _ _ (fun _ => (HSK.out) _ ((HY.out).drew)) (fun _ => ?_)
        clear hK K
        refine wpTo_list (l := [12]) (by kernel_rfl) (by simp) (fun j hj => ?_)
        obtain rfl : j = 12 := by simpa using hj
        clear hj
        · refine ⟨_, rfl, fun K hK => ?_⟩
          go_simp
          refine hK.out _ _ (fun _ => (HSK.out) _ ((HX.out).drew)) (fun _ => ?_)
          clear hK K
          have HD : Hid (Below W.heap.size W (((W.alloc (.cells #[.int .i64 0, .int .i64 0, .int .i64 0, .slice none 0 0] 95)).alloc (.cells #[.int .i64 0, .int .i64 0, .int .i64 0, .slice none 0 0] 95)).alloc (.cells #[.int .i64 0, .int .i64 0, .int .i64 0, .slice none 0 0] 95)).drew) := (HX.out).drew
          generalize (((W.alloc (.cells #[.int .i64 0, .int .i64 0, .int .i64 0, .slice none 0 0] 95)).alloc (.cells #[.int .i64 0, .int .i64 0, .int .i64 0, .slice none 0 0] 95)).alloc (.cells #[.int .i64 0, .int .i64 0, .int .i64 0, .slice none 0 0] 95)).drew = W3 at *
          clear HX HY HZ
          have m0 := cell_of_row W3 _ 0 _ _ _ e2
          have m1 := cell_of_row W3 _ 1 _ _ _ e2
          have m2 := cell_of_row W3 _ 2 _ _ _ e2
          have m3 := cell_of_row W3 _ 3 _ _ _ e2
          have f0 : W3.frozen? ⟨W.heap.size + 2, 0, none⟩ = false := by simp [World.frozen?, e2]
          have f1 : W3.frozen? ⟨W.heap.size + 2, 1, none⟩ = false := by simp [World.frozen?, e2]
          have f2 : W3.frozen? ⟨W.heap.size + 2, 2, none⟩ = false := by simp [World.frozen?, e2]
          have f3 : W3.frozen? ⟨W.heap.size + 2, 3, none⟩ = false := by simp [World.frozen?, e2]
          have g0 := set4_B (x0 := (.int .i64 kq)) (x1 := (.int .i64 fq)) (x2 := (.int .i64 tq)) (x3 := (.slice a1 a2 a3)) e2
          have kS : Kp (fun x => x = W.heap.size + 2) W3 ((((W3.setCell ⟨W.heap.size + 2, 0, none⟩ (.int .i64 kq)).setCell ⟨W.heap.size + 2, 1, none⟩ (.int .i64 fq)).setCell ⟨W.heap.size + 2, 2, none⟩ (.int .i64 tq)).setCell ⟨W.heap.size + 2, 3, none⟩ (.slice a1 a2 a3)) := On.set (On.set (On.set (On.set (Kp.refl _ W3) 0 _) 1 _) 2 _) 3 _
          have HD2 : Hid (Below W.heap.size W ((((W3.setCell ⟨W.heap.size + 2, 0, none⟩ (.int .i64 kq)).setCell ⟨W.heap.size + 2, 1, none⟩ (.int .i64 fq)).setCell ⟨W.heap.size + 2, 2, none⟩ (.int .i64 tq)).setCell ⟨W.heap.size + 2, 3, none⟩ (.slice a1 a2 a3))) := (HD.out).trans (Kp.below kS (HD.out).size (fun x e => by omega))
          replace e1 := kS.heap e1 (show ¬ (W.heap.size + 1 = W.heap.size + 2) by omega)
          replace e0 := kS.heap e0 (show ¬ (W.heap.size = W.heap.size + 2) by omega)
          refine wpTo_one (i := 15) (by kernel_rfl) rfl (fun K hK => ?_)
          go_simp
          refine hK.out _ _ (fun _ => (HSK.out) _ HD2.out) (fun _ => ?_)
          clear hK K m0 m1 m2 m3 f0 f1 f2 f3 HD e2 kS
          have e2 := g0
          clear g0
          generalize ((((W3.setCell ⟨W.heap.size + 2, 0, none⟩ (.int .i64 kq)).setCell ⟨W.heap.size + 2, 1, none⟩ (.int .i64 fq)).setCell ⟨W.heap.size + 2, 2, none⟩ (.int .i64 tq)).setCell ⟨W.heap.size + 2, 3, none⟩ (.slice a1 a2 a3)) = W4 at *
          have HD := HD2
          clear HD2
          have m0 := cell_of_row W4 _ 0 _ _ _ e1
          have m1 := cell_of_row W4 _ 1 _ _ _ e1
          have m2 := cell_of_row W4 _ 2 _ _ _ e1
          have m3 := cell_of_row W4 _ 3 _ _ _ e1
          have f0 : W4.frozen? ⟨W.heap.size + 1, 0, none⟩ = false := by simp [World.frozen?, e1]
          have f1 : W4.frozen? ⟨W.heap.size + 1, 1, none⟩ = false := by simp [World.frozen?, e1]
          have f2 : W4.frozen? ⟨W.heap.size + 1, 2, none⟩ = false := by simp [World.frozen?, e1]
          have f3 : W4.frozen? ⟨W.heap.size + 1, 3, none⟩ = false := by simp [World.frozen?, e1]
          have g0 := set4_B (x0 := (.int .i64 kd)) (x1 := (.int .i64 fd)) (x2 := (.int .i64 td)) (x3 := (.slice b1 b2 b3)) e1
          have kS : Kp (fun x => x = W.heap.size + 1) W4 ((((W4.setCell ⟨W.heap.size + 1, 0, none⟩ (.int .i64 kd)).setCell ⟨W.heap.size + 1, 1, none⟩ (.int .i64 fd)).setCell ⟨W.heap.size + 1, 2, none⟩ (.int .i64 td)).setCell ⟨W.heap.size + 1, 3, none⟩ (.slice b1 b2 b3)) := On.set (On.set (On.set (On.set (Kp.refl _ W4) 0 _) 1 _) 2 _) 3 _
          have HD2 : Hid (Below W.heap.size W ((((W4.setCell ⟨W.heap.size + 1, 0, none⟩ (.int .i64 kd)).setCell ⟨W.heap.size + 1, 1, none⟩ (.int .i64 fd)).setCell ⟨W.heap.size + 1, 2, none⟩ (.int .i64 td)).setCell ⟨W.heap.size + 1, 3, none⟩ (.slice b1 b2 b3))) := (HD.out).trans (Kp.below kS (HD.out).size (fun x e => by omega))
          replace e2 := kS.heap e2 (show ¬ (W.heap.size + 2 = W.heap.size + 1) by omega)
          replace e0 := kS.heap e0 (show ¬ (W.heap.size = W.heap.size + 1) by omega)
          refine wpTo_one (i := 16) (by kernel_rfl) rfl (fun K hK => ?_)
          go_simp
          refine hK.out _ _ (fun _ => (HSK.out) _ HD2.out) (fun _ => ?_)
          clear hK K m0 m1 m2 m3 f0 f1 f2 f3 HD e1 kS
          have e1 := g0
          clear g0
          generalize ((((W4.setCell ⟨W.heap.size + 1, 0, none⟩ (.int .i64 kd)).setCell ⟨W.heap.size + 1, 1, none⟩ (.int .i64 fd)).setCell ⟨W.heap.size + 1, 2, none⟩ (.int .i64 td)).setCell ⟨W.heap.size + 1, 3, none⟩ (.slice b1 b2 b3)) = W5 at *
          have HD := HD2
          clear HD2
          have m0 := cell_of_row W5 _ 0 _ _ _ e0
          have m1 := cell_of_row W5 _ 1 _ _ _ e0
          have m2 := cell_of_row W5 _ 2 _ _ _ e0
          have m3 := cell_of_row W5 _ 3 _ _ _ e0
          have f0 : W5.frozen? ⟨W.heap.size, 0, none⟩ = false := by simp [World.frozen?, e0]
          have f1 : W5.frozen? ⟨W.heap.size, 1, none⟩ = false := by simp [World.frozen?, e0]
          have f2 : W5.frozen? ⟨W.heap.size, 2, none⟩ = false := by simp [World.frozen?, e0]
          have f3 : W5.frozen? ⟨W.heap.size, 3, none⟩ = false := by simp [World.frozen?, e0]
          have g0 := set4_B (x0 := (.int .i64 ks)) (x1 := (.int .i64 fs)) (x2 := (.int .i64 ts)) (x3 := (.slice d1 d2 d3)) e0
          have kS : Kp (fun x => x = W.heap.size) W5 ((((W5.setCell ⟨W.heap.size, 0, none⟩ (.int .i64 ks)).setCell ⟨W.heap.size, 1, none⟩ (.int .i64 fs)).setCell ⟨W.heap.size, 2, none⟩ (.int .i64 ts)).setCell ⟨W.heap.size, 3, none⟩ (.slice d1 d2 d3)) := On.set (On.set (On.set (On.set (Kp.refl _ W5) 0 _) 1 _) 2 _) 3 _
          have HD2 : Hid (Below W.heap.size W ((((W5.setCell ⟨W.heap.size, 0, none⟩ (.int .i64 ks)).setCell ⟨W.heap.size, 1, none⟩ (.int .i64 fs)).setCell ⟨W.heap.size, 2, none⟩ (.int .i64 ts)).setCell ⟨W.heap.size, 3, none⟩ (.slice d1 d2 d3))) := (HD.out).trans (Kp.below kS (HD.out).size (fun x e => by omega))
          replace e2 := kS.heap e2 (show ¬ (W.heap.size + 2 = W.heap.size) by omega)
          replace e1 := kS.heap e1 (show ¬ (W.heap.size + 1 = W.heap.size) by omega)
          refine wpTo_one (i := 17) (by kernel_rfl) rfl (fun K hK => ?_)
          go_simp
          refine hK.out _ _ (fun _ => (HSK.out) _ HD2.out) (fun _ => ?_)
          clear hK K m0 m1 m2 m3 f0 f1 f2 f3 HD e0 kS
          have e0 := g0
          clear g0
          generalize ((((W5.setCell ⟨W.heap.size, 0, none⟩ (.int .i64 ks)).setCell ⟨W.heap.size, 1, none⟩ (.int .i64 fs)).setCell ⟨W.heap.size, 2, none⟩ (.int .i64 ts)).setCell ⟨W.heap.size, 3, none⟩ (.slice d1 d2 d3)) = W6 at *
          have HD := HD2
          clear HD2
          have HF : Hid (Tri W (W.heap.size + 2) (W.heap.size + 1) (W.heap.size) #[.int .i64 kq, .int .i64 fq, .int .i64 tq, .slice a1 a2 a3] #[.int .i64 kd, .int .i64 fd, .int .i64 td, .slice b1 b2 b3] #[.int .i64 ks, .int .i64 fs, .int .i64 ts, .slice d1 d2 d3] W6) := ⟨e2, e1, e0, HD.out⟩
          clear HD HSK e2 e1 e0
          refine wpTo_end (by kernel_rfl) ?_
          refine NoPanic.normal ?_
          go_wp2_with fail
          go_meet
          case rel => exact ⟨_, _, _, rfl, rfl, rfl, HF⟩
  case rest =>
    obtain ⟨A, B, C, rfl, rfl, rfl, HTr⟩ := hcut
    obtain ⟨tA, tB, tC, kT⟩ := HTr.out
    have k2 : Below w.heap.size w wc := (HK1.out).trans (kT.mono (HK1.out).size)
    have HBX2 := hide ((Kp.ofBelow kT (fun _ => False)).heap HBX.out id)
    have HQ2 := hide ((HQ.out).kept (Kp.ofBelow k2 (fun _ => False)) (fun _ h => h.elim))
    have HS2 := hide ((HS.out).kept (Kp.ofBelow k2 (fun _ => False)) (fun _ h => h.elim))
    have HR2 := hide ((HR.out).below k2)
    have HG2 : Hid (∃ lv, IsPg wc Q R ls lv) := by
      obtain ⟨lv, hlv⟩ := HG.out
      exact ⟨lv, hlv.below k2⟩
    have HK2 := hide k2
    have HA2 := hide tA
    have HB2 := hide tB
    have HC2 := hide tC
    clear HTr kT k2 HBX HQ HS HR HG HK1 HZ1 bx3 x00 x01 x02 x03 x10 x11 x12 x13 x20 x21 x22 x23
    have p1 := cell_of_row wc _ 1 _ _ _ HBX2.out
    have qa1 := cell_of_row wc _ 1 _ _ _ HA2.out
    go_wp2_with fail
    refine (gadd_any n i fq Q R ls wc HG2.out (by omega)).mono ?_
    rintro e v1 ⟨rfl, HP⟩
    have HBX2' := hide ((HP.out).2.heap HBX2.out PT.pt)
    clear HBX2
    have HBX2 := HBX2'
    clear HBX2'
    have HA2' := hide ((HP.out).2.heap HA2.out PT.pt)
    clear HA2
    have HA2 := HA2'
    clear HA2'
    have HB2' := hide ((HP.out).2.heap HB2.out PT.pt)
    clear HB2
    have HB2 := HB2'
    clear HB2'
    have HC2' := hide ((HP.out).2.heap HC2.out PT.pt)
    clear HC2
    have HC2 := HC2'
    clear HC2'
    have HQ2' := hide (IsPt.fk (HP.out).2 PT.pt HQ2.out)
    have HS2' := hide (IsPt.fk (HP.out).2 PT.pt HS2.out)
    have HR2' := hide ((HR2.out).keep (HP.out).2 (fun t ht => PT.rt ht))
    have HG2' := hide ((HP.out).1)
    have HK2' : Hid (FK PT Q w v1) := (FK.below HK2.out).trans (HP.out).2
    clear HQ2 HS2 HR2 HG2 HK2 HP
    have HQ2 := HQ2'
    have HS2 := HS2'
    have HR2 := HR2'
    have HG2 := HG2'
    have HK2 := HK2'
    clear HQ2' HS2' HR2' HG2' HK2'
    clear p1 qa1
    have qa0 := cell_of_row v1 _ 0 _ _ _ HA2.out
    have qa1 := cell_of_row v1 _ 1 _ _ _ HA2.out
    have qa2 := cell_of_row v1 _ 2 _ _ _ HA2.out
    have qa3 := cell_of_row v1 _ 3 _ _ _ HA2.out
    go_wp2_with fail
    refine (ihq f (n + 2) fq v1 Q R rm D (.agg #[.int .i64 kq, .int .i64 fq, .int .i64 tq, .slice a1 a2 a3]) ((ls ++ [(n, i, fq)])) HR2.out HG2.out HQ2.out HAq.out hfq hmq (by rw [List.length_append, List.length_singleton]; omega)).mono ?_
    rintro e v2 ⟨rfl, HE⟩
    obtain ⟨l1, sgl1, hpl1⟩ := HE.out
    have HSGl1 := hide sgl1
    have HP := hide hpl1
    have hlenl1 := sgl1.rg.len
    clear HE sgl1 hpl1
    have HBX2' := hide ((HP.out).2.heap HBX2.out PT.pt)
    clear HBX2
    have HBX2 := HBX2'
    clear HBX2'
    have HA2' := hide ((HP.out).2.heap HA2.out PT.pt)
    clear HA2
    have HA2 := HA2'
    clear HA2'
    have HB2' := hide ((HP.out).2.heap HB2.out PT.pt)
    clear HB2
    have HB2 := HB2'
    clear HB2'
    have HC2' := hide ((HP.out).2.heap HC2.out PT.pt)
    clear HC2
    have HC2 := HC2'
    clear HC2'
    have HQ2' := hide (IsPt.fk (HP.out).2 PT.pt HQ2.out)
    have HS2' := hide (IsPt.fk (HP.out).2 PT.pt HS2.out)
    have HR2' := hide ((HR2.out).keep (HP.out).2 (fun t ht => PT.rt ht))
    have HG2' := hide ((HP.out).1)
    have HK2' : Hid (FK PT Q w v2) := (HK2.out).trans (HP.out).2
    clear HQ2 HS2 HR2 HG2 HK2 HP
    have HQ2 := HQ2'
    have HS2 := HS2'
    have HR2 := HR2'
    have HG2 := HG2'
    have HK2 := HK2'
    clear HQ2' HS2' HR2' HG2' HK2'
    clear qa0 qa1 qa2 qa3
    have qb1 := cell_of_row v2 _ 1 _ _ _ HB2.out
    have qb2 := cell_of_row v2 _ 2 _ _ _ HB2.out
    go_wp2_with fail
    refine (gadd_any n fd td Q R (ls ++ [(n, i, fq)] ++ l1) v2 HG2.out (by simp only [List.length_append, List.length_singleton]; omega)).mono ?_
    rintro e v3 ⟨rfl, HP⟩
    have HBX2' := hide ((HP.out).2.heap HBX2.out PT.pt)
    clear HBX2
    have HBX2 := HBX2'
    clear HBX2'
    have HA2' := hide ((HP.out).2.heap HA2.out PT.pt)
    clear HA2
    have HA2 := HA2'
    clear HA2'
    have HB2' := hide ((HP.out).2.heap HB2.out PT.pt)
    clear HB2
    have HB2 := HB2'
    clear HB2'
    have HC2' := hide ((HP.out).2.heap HC2.out PT.pt)
    clear HC2
    have HC2 := HC2'
    clear HC2'
    have HQ2' := hide (IsPt.fk (HP.out).2 PT.pt HQ2.out)
    have HS2' := hide (IsPt.fk (HP.out).2 PT.pt HS2.out)
    have HR2' := hide ((HR2.out).keep (HP.out).2 (fun t ht => PT.rt ht))
    have HG2' := hide ((HP.out).1)
    have HK2' : Hid (FK PT Q w v3) := (HK2.out).trans (HP.out).2
    clear HQ2 HS2 HR2 HG2 HK2 HP
    have HQ2 := HQ2'
    have HS2 := HS2'
    have HR2 := HR2'
    have HG2 := HG2'
    have HK2 := HK2'
    clear HQ2' HS2' HR2' HG2' HK2'
    clear qb1 qb2
    have qc0 := cell_of_row v3 _ 0 _ _ _ HC2.out
    have qc1 := cell_of_row v3 _ 1 _ _ _ HC2.out
    have qc2 := cell_of_row v3 _ 2 _ _ _ HC2.out
    have qc3 := cell_of_row v3 _ 3 _ _ _ HC2.out
    go_wp2_with fail
    refine (ihs f (n + 2) fs v3 Q R rm D (.agg #[.int .i64 ks, .int .i64 fs, .int .i64 ts, .slice d1 d2 d3]) ((ls ++ [(n, i, fq)] ++ l1 ++ [(n, fd, td)])) HR2.out HG2.out HS2.out HAs.out hfs hms (by simp only [List.length_append, List.length_singleton]; omega)).mono ?_
    rintro e v4 ⟨rfl, HE⟩
    obtain ⟨l2, sgl2, hpl2⟩ := HE.out
    have HSGl2 := hide sgl2
    have HP := hide hpl2
    have hlenl2 := sgl2.rg.len
    clear HE sgl2 hpl2
    have HBX2' := hide ((HP.out).2.heap HBX2.out PT.pt)
    clear HBX2
    have HBX2 := HBX2'
    clear HBX2'
    have HA2' := hide ((HP.out).2.heap HA2.out PT.pt)
    clear HA2
    have HA2 := HA2'
    clear HA2'
    have HB2' := hide ((HP.out).2.heap HB2.out PT.pt)
    clear HB2
    have HB2 := HB2'
    clear HB2'
    have HC2' := hide ((HP.out).2.heap HC2.out PT.pt)
    clear HC2
    have HC2 := HC2'
    clear HC2'
    have HQ2' := hide (IsPt.fk (HP.out).2 PT.pt HQ2.out)
    have HS2' := hide (IsPt.fk (HP.out).2 PT.pt HS2.out)
    have HR2' := hide ((HR2.out).keep (HP.out).2 (fun t ht => PT.rt ht))
    have HG2' := hide ((HP.out).1)
    have HK2' : Hid (FK PT Q w v4) := (HK2.out).trans (HP.out).2
    clear HQ2 HS2 HR2 HG2 HK2 HP
    have HQ2 := HQ2'
    have HS2 := HS2'
    have HR2 := HR2'
    have HG2 := HG2'
    have HK2 := HK2'
    clear HQ2' HS2' HR2' HG2' HK2'
    clear qc0 qc1 qc2 qc3
    have HF : Hid (∃ l1 l2, X.SG L fq (X.nt q).length l1 (X.ex f (n + 2) q) ∧ X.SG L fs (X.nt s).length l2 (X.ex f (n + 2) s) ∧ PgTo w Q R (ls ++ ([(n, i, fq)] ++ l1 ++ [(n, fd, td)] ++ l2)) v4) := by
      refine ⟨l1, l2, HSGl1.out, HSGl2.out, ?_, HK2.out⟩
      have h := HG2.out
      simp only [List.append_assoc] at h ⊢
      exact h
    go_wp2_with fail
    go_end0
    exact ⟨rfl, HF⟩
end Go.Proofs.YtohpfegpnbdfnaaGreatDoor
