/- Cursors: a whole step, what two can pass, what follows. -/
import Derived.Test.YtobdfddpiobhhaaCc
namespace Go.Proofs.Ytobdfddpiobhhaa
open Go.RowKit
open EM
set_option maxRecDepth 100000 in
set_option maxHeartbeats 4000000 in
theorem whole_any (B : Nat) (w : World) (c : Nat) (s : St) (A : List St) (F : Nat → Prop) (h : IsC B w c (s :: A) F) (hB : B ≤ w.heap.size) (hs : s.c ≤ 1099511627776) :
    Calls Try.prog 21 #[.pointer (some ⟨c, 0, none⟩)] w fun e w' => e = .returned (stV s) ∧ IsC B w' c A (fun k => F k ∨ (w.heap.size ≤ k ∧ k < w'.heap.size)) ∧ Kp F w w' := by
  have H := hide h
  clear h
  have H1 := hide ((H.out).keep ((Kp.refl (fun _ => False) w).alloc (.cells #[.int .i64 0, .int .i64 0, .string ⟨#[]⟩] 43)) (fun _ _ => id) (fun _ h => h.elim))
  obtain ⟨b0, b1, b2, FN, h1, h2, h3, h4⟩ := (H.out).h
  obtain ⟨c0, c1, c2, c3, hl⟩ := CB.cells h1
  simp only [hdS] at c1 c2 c3
  clear h1 h2 h3 h4 c0
  have hne : ¬ c = w.heap.size := by omega
  go_enter Try.func21, Try.ntmps21
  go_wp2_with fail
  refine (pass_cons B _ c s.c s A F H1.out (by simp only [World.size_alloc]; omega) (Nat.le_refl _) hs).mono ?_
  rintro e w1 ⟨rfl, hC1, hK1⟩
  have z1 := hK1.size
  simp only [World.size_alloc] at z1 hC1
  have hd : s.hd s.c = s := by cases s <;> simp [St.hd, St.c]
  have hL : left (s :: A) s.c = A := by simp [left]
  rw [hL] at hC1
  rw [hd]
  have Z1 : Z3 w1 w.heap.size := hK1.heap (heap_alloc_new w _) (fun h => by have := (H.out).lt _ h; omega)
  have kS : Kp (fun k => k = w.heap.size) w1 (set3 w1 w.heap.size (.int .i64 s.k) (.int .i64 s.c) (.string (ba s.s))) := set3_kp (Kp.refl _ _) _ _ _ _ (fun _ => rfl)
  have SX : SB _ w.heap.size s := set3_at Z1 (.int .i64 s.k) (.int .i64 s.c) (.string (ba s.s))
  have K1 : Kp F w w1 := (((Kp.refl (fun _ => False) w).alloc _).mono (T := F) (fun _ _ h => h.elim)).trans hK1 (fun _ _ h => h)
  have HKX := hide (K1.trans kS (fun k hk e => by omega))
  have HCX := hide ((hC1.keep kS (fun k hk e => by rcases hk with hk | hk; have := (H.out).lt k hk; omega; omega) (fun k hk => by omega)).more (F' := fun k => F k ∨ (w.heap.size ≤ k ∧ k < (set3 w1 w.heap.size (.int .i64 s.k) (.int .i64 s.c) (.string (ba s.s))).heap.size)) (fun k hk => by rw [set3_size]; rcases hk with hk | hk; exact .inl hk; exact .inr (by omega)) (fun k hk => by rw [set3_size] at hk ⊢; rcases hk with hk | hk; have := (H.out).lt k hk; omega; omega))
  have HSX := hide SX
  obtain ⟨y0, y1, y2, hyl, yf0, yf1, yf2⟩ := blk3 Z1
  clear hC1 hK1 K1 kS SX Z1 c1 c2 c3
  unfold stV
  go_wp2_with fail
  change bodyPost _ _ _ _ _ (set3 w1 w.heap.size (.int .i64 s.k) (.int .i64 s.c) (.string (ba s.s)))
  clear y0 y1 y2 yf0 yf1 yf2 hyl
  generalize set3 w1 w.heap.size (.int .i64 s.k) (.int .i64 s.c) (.string (ba s.s)) = Y at HKX HCX HSX ⊢
  obtain ⟨x0, x1, x2, _⟩ := (HSX.out).cells
  exact bodyPost_ret (v := .agg #[.int .i64 s.k, .int .i64 s.c, .string (ba s.s)]) (by simp [results, Try.results21, go_sem, x0, x1, x2]) rfl ⟨rfl, HCX.out, HKX.out⟩
theorem IsC.nows {B : Nat} {w : World} {c : Nat} {A : List St} {F : Nat → Prop} (h : IsC B w c A F) : w.cell? ⟨c, 1, none⟩ = some (.int .i64 (hdS A).k) ∧ w.cell? ⟨c, 2, none⟩ = some (.int .i64 (hdS A).c) ∧ c < w.heap.size := by
  obtain ⟨b0, b1, b2, FN, h1, h2, h3, h4⟩ := h.h
  obtain ⟨c0, c1, c2, c3, hl⟩ := CB.cells h1
  exact ⟨c1, c2, hl⟩
set_option maxRecDepth 100000 in
set_option maxHeartbeats 4000000 in
theorem common_any (B : Nat) (w : World) (c d : Nat) (A A' : List St) (F F' : Nat → Prop) (h : IsC B w c A F) (h' : IsC B w d A' F') :
    Calls Try.prog 22 #[.pointer (some ⟨c, 0, none⟩), .pointer (some ⟨d, 0, none⟩)] w fun e w' => e = .returned (.int .i64 (comm A A')) ∧ Below w.heap.size w w' := by
  obtain ⟨_, c2, hl⟩ := h.nows
  obtain ⟨_, d2, hl'⟩ := h'.nows
  have H := hide h
  have H' := hide h'
  clear h h'
  go_enter Try.func22, Try.ntmps22
  go_wp2_with fail
  refine (ended_any B _ c A F H.out).mono ?_
  rintro e w' ⟨rfl, rfl⟩
  cases A with
  | nil =>
    go_wp2_with fail
    go_ret
    refine ⟨?_, Below.refl _ _⟩
    cases A' <;> rfl
  | cons s A =>
    go_wp2_with fail
    refine (ended_any B _ d A' F' H'.out).mono ?_
    rintro e w'' ⟨rfl, rfl⟩
    cases A' with
    | nil =>
      go_wp2_with fail
      go_ret
      exact ⟨rfl, Below.refl _ _⟩
    | cons t A' =>
      simp only [hdS] at c2 d2
      go_wp2_with fail
      go_region
      all_goals go_wp2_with fail
      all_goals go_ret
      all_goals refine ⟨?_, by go_grown⟩
      all_goals simp only [comm]
      all_goals rw [show ((min s.c t.c : Nat) : Int) = min (s.c : Int) (t.c : Int) by omega]
      all_goals rfl
end Go.Proofs.Ytobdfddpiobhhaa
