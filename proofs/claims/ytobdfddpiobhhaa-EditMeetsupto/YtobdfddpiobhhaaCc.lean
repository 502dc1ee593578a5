/- A cursor goes on. -/
import Derived.Test.YtobdfddpiobhhaaCa
import Derived.Test.YtobdfddpiobhhaaCb
namespace Go.Proofs.Ytobdfddpiobhhaa
open Go.RowKit
open EM
/-- The cursor's step is set. -/
def setC (w : World) (b : Nat) (y0 y1 y2 : Value) : World := ((w.setCell ⟨b, 1, none⟩ y0).setCell ⟨b, 2, none⟩ y1).setCell ⟨b, 3, none⟩ y2
theorem setC_at {w : World} {b : Nat} {x x0 x1 x2 : Value} {t : TypeId} (h : w.heap[b]? = some (.cells #[x, x0, x1, x2] t (0, 0))) (y0 y1 y2 : Value) : (setC w b y0 y1 y2).heap[b]? = some (.cells #[x, y0, y1, y2] t (0, 0)) := by
  simp [setC, World.setCell, Array.getElem?_modify, h]
theorem setC_kp {S : Nat → Prop} {a w : World} (h : Kp S a w) (b : Nat) (y0 y1 y2 : Value) (hb : b < a.heap.size → S b) : Kp S a (setC w b y0 y1 y2) :=
  ((h.setCell (p := ⟨b, 1, none⟩) hb y0).setCell (p := ⟨b, 2, none⟩) hb y1).setCell (p := ⟨b, 3, none⟩) hb y2
theorem set3_size (w : World) (b : Nat) (y0 y1 y2 : Value) : (set3 w b y0 y1 y2).heap.size = w.heap.size := by simp [set3, World.setCell]
theorem setC_size (w : World) (b : Nat) (y0 y1 y2 : Value) : (setC w b y0 y1 y2).heap.size = w.heap.size := by simp [setC, World.setCell]
theorem blk3 {w : World} {b : Nat} {x0 x1 x2 : Value} {t : TypeId} (h : w.heap[b]? = some (.cells #[x0, x1, x2] t (0, 0))) : w.cell? ⟨b, 0, none⟩ = some x0 ∧ w.cell? ⟨b, 1, none⟩ = some x1 ∧ w.cell? ⟨b, 2, none⟩ = some x2 ∧ b < w.heap.size ∧ w.frozen? ⟨b, 0, none⟩ = false ∧ w.frozen? ⟨b, 1, none⟩ = false ∧ w.frozen? ⟨b, 2, none⟩ = false :=
  ⟨by rw [Lib.cell_of_heap h]; rfl, by rw [Lib.cell_of_heap h]; rfl, by rw [Lib.cell_of_heap h]; rfl, heap_lt h, Lib.frozen_of_heap h 0, Lib.frozen_of_heap h 1, Lib.frozen_of_heap h 2⟩
set_option maxRecDepth 100000 in
set_option maxHeartbeats 4000000 in
theorem pass_nil (B : Nat) (w : World) (c n : Nat) (F : Nat → Prop) (h : IsC B w c [] F) (hB : B ≤ w.heap.size) :
    Calls Try.prog 23 #[.pointer (some ⟨c, 0, none⟩), .int .i64 n] w fun e w' => e = .returned (stV (.stay n)) ∧ IsC B w' c [] (fun k => F k ∨ (w.heap.size ≤ k ∧ k < w'.heap.size)) ∧ Kp F w w' := by
  have H := hide h
  clear h
  have H1 := hide ((H.out).keep ((Kp.refl (fun _ => False) w).alloc (.cells #[.int .i64 0, .int .i64 0, .string ⟨#[]⟩] 43)) (fun _ _ => id) (fun _ h => h.elim))
  have hX := heap_alloc_new w (.cells #[.int .i64 0, .int .i64 n, .string ⟨#[]⟩] 43)
  have hK := (Kp.refl (fun _ => False) w).alloc (.cells #[.int .i64 0, .int .i64 n, .string ⟨#[]⟩] 43)
  go_enter Try.func23, Try.ntmps23
  go_wp2_with fail
  refine (ended_any B _ c [] F H1.out).mono ?_
  rintro e w' ⟨rfl, rfl⟩
  go_wp2_with fail
  generalize w.alloc (.cells #[.int .i64 0, .int .i64 n, .string ⟨#[]⟩] 43) = X at hX hK ⊢
  obtain ⟨x0, x1, x2, _, _⟩ := blk3 hX
  refine bodyPost_ret (v := .agg #[.int .i64 0, .int .i64 n, .string ⟨#[]⟩]) (by simp [results, Try.results23, go_sem, x0, x1, x2]) rfl ⟨rfl, ?_, hK.mono (fun _ _ h => h.elim)⟩
  refine ((H.out).keep hK (fun _ _ => id) (fun _ h => h.elim)).more (fun k hk => .inl hk) (fun k hk => ?_)
  have := hK.size
  rcases hk with hk | hk
  · have := (H.out).lt k hk; omega
  · omega
theorem IsN.more {F F' : Nat → Prop} {B : Nat} {w : World} {b0 b1 b2 : Nat} {S : List St} (h : IsN B w b0 b1 b2 S F) (hF : ∀ k, F k → F' k) (hl : ∀ k, F' k → B ≤ k ∧ k < w.heap.size) : IsN B w b0 b1 b2 S F' := by
  obtain ⟨R, a, Ls, hN, hS⟩ := h
  exact ⟨R, a, Ls, hN.more hF hl, hS⟩
/-- How a cursor's going on ends. -/
theorem pass_end {B : Nat} {w X : World} {c b0 b1 b2 : Nat} {s h : St} {L : List St} {F FN : Nat → Prop} (hK : Kp FN w X) (hC : CB X c (nextV b0 b1 b2) s) (hZ : Z3 X w.heap.size)
    (hN : IsN B X b0 b1 b2 L.tail (fun k => FN k ∨ (w.heap.size + 1 ≤ k ∧ k < X.heap.size))) (hFN : ∀ k, FN k → F k) (hc : F c) (hcn : ¬ FN c) (hlt : ∀ k, F k → B ≤ k ∧ k < w.heap.size) (hp : pos L) (hB : B ≤ w.heap.size) (r : St) (hr : r = hdS L) (Y : World)
    (hY : Y = set3 (setC X c (.int .i64 r.k) (.int .i64 r.c) (.string (ba r.s))) w.heap.size (.int .i64 h.k) (.int .i64 h.c) (.string (ba h.s))) :
    SB Y w.heap.size h ∧ IsC B Y c L (fun k => F k ∨ (w.heap.size ≤ k ∧ k < Y.heap.size)) ∧ Kp F w Y := by
  subst hr
  have zX := hK.size
  have hcl := (hlt c hc).2
  have sz : Y.heap.size = X.heap.size := by rw [hY, set3_size, setC_size]
  have k1 : Kp (fun k => k = c) X (setC X c (.int .i64 (hdS L).k) (.int .i64 (hdS L).c) (.string (ba (hdS L).s))) := setC_kp (Kp.refl _ _) _ _ _ _ (fun _ => rfl)
  have k2 : Kp (fun k => k = w.heap.size) (setC X c (.int .i64 (hdS L).k) (.int .i64 (hdS L).c) (.string (ba (hdS L).s))) Y := by rw [hY]; exact set3_kp (Kp.refl _ _) _ _ _ _ (fun _ => rfl)
  have hzl := heap_lt hZ
  refine ⟨?_, ⟨⟨b0, b1, b2, _, k2.heap (setC_at hC _ _ _) (by omega), (hN.keep k1 (fun k hk e => ?_) (fun k hk => ?_)).keep k2 (fun k hk e => ?_) (fun k hk => by omega), ?_, fun k hk => ?_⟩, .inl hc, fun k hk => ?_, hp⟩, ?_⟩
  · rw [hY]; exact set3_at (k1.heap hZ (by omega)) _ _ _
  · rcases hk with hk | hk
    · exact hcn (e ▸ hk)
    · omega
  · have := (hlt c hc).1; omega
  · rcases hk with hk | hk
    · have := (hlt k (hFN k hk)).2; omega
    · omega
  · rintro (hk | hk)
    · exact hcn hk
    · omega
  · rcases hk with hk | hk
    · exact .inl (hFN k hk)
    · exact .inr (by omega)
  · rcases hk with hk | hk
    · have := hlt k hk; omega
    · omega
  · exact ((hK.mono (T := F) (fun k _ h => hFN k h)).trans k1 (fun k _ e => by subst e; exact hc)).trans k2 (fun k hk e => by omega)
set_option maxRecDepth 100000 in
set_option maxHeartbeats 4000000 in
theorem pass_cons (B : Nat) (w : World) (c n : Nat) (s : St) (A : List St) (F : Nat → Prop) (h : IsC B w c (s :: A) F) (hB : B ≤ w.heap.size) (hn : n ≤ s.c) (hs : s.c ≤ 1099511627776) :
    Calls Try.prog 23 #[.pointer (some ⟨c, 0, none⟩), .int .i64 n] w fun e w' => e = .returned (stV (s.hd n)) ∧ IsC B w' c (left (s :: A) n) (fun k => F k ∨ (w.heap.size ≤ k ∧ k < w'.heap.size)) ∧ Kp F w w' := by
  have H := hide h
  clear h
  have H1 := hide ((H.out).keep ((Kp.refl (fun _ => False) w).alloc (.cells #[.int .i64 0, .int .i64 0, .string ⟨#[]⟩] 43)) (fun _ _ => id) (fun _ h => h.elim))
  obtain ⟨b0, b1, b2, FN, h1, h2, h3, h4⟩ := (H.out).h
  obtain ⟨c0, c1, c2, c3, hl⟩ := CB.cells h1
  unfold nextV at c0
  simp only [hdS] at c1 c2 c3
  have HC := hide h1
  have HN := hide h2
  have HF := hide (And.intro h3 h4)
  clear h1 h2 h3 h4
  have hne : ¬ c = w.heap.size := by omega
  go_enter Try.func23, Try.ntmps23
  go_wp2_with fail
  refine (ended_any B _ c (s :: A) F H1.out).mono ?_
  rintro e w' ⟨rfl, rfl⟩
  go_wp2_with fail
  refine (cut_any s n _ hn hs).mono ?_
  rintro e w2 ⟨rfl, hb2⟩
  simp only [World.size_alloc] at hb2
  have z2 := hb2.size
  simp only [World.size_alloc] at z2
  have C2 : CB w2 c (nextV b0 b1 b2) s := (hb2.block c (by omega)).trans (((Kp.refl (fun _ => False) w).alloc _).heap HC.out id)
  have Z2 : Z3 w2 w.heap.size := (hb2.block _ (by omega)).trans (heap_alloc_new w _)
  have N2 : IsN B w2 b0 b1 b2 A FN := ((HN.out).keep ((Kp.refl (fun _ => False) w).alloc (.cells #[.int .i64 0, .int .i64 0, .string ⟨#[]⟩] 43)) (fun _ _ => id) (fun _ h => h.elim)).keep (Kp.ofBelow (by rw [World.size_alloc]; exact hb2) (fun _ => False)) (fun _ _ => id) (fun _ h => h.elim)
  have K2 : Kp (fun _ => False) w w2 := ((Kp.refl (fun _ => False) w).alloc _).trans (Kp.ofBelow (by rw [World.size_alloc]; exact hb2) (fun _ => False)) (fun _ _ h => h)
  have hFl : ∀ k, FN k → k < w.heap.size := fun k hk => ((H.out).lt k ((HF.out).2 k hk)).2
  clear hb2 c0 c1 c2 c3
  by_cases hc : s.c = n
  · have htc : (s.tl n).c = 0 := by rw [tl_c]; omega
    unfold stV
    obtain ⟨c0, c1, c2, c3, _⟩ := C2.cells
    unfold nextV at c0
    have ne1 : ¬ c = w2.heap.size := by omega
    have ne2 : ¬ c = w2.heap.size + 1 := by omega
    have HC2 := hide C2
    have HZ2 := hide Z2
    have HN4 := hide ((N2.keep ((Kp.refl (fun _ => False) w2).alloc (.cells #[.int .i64 (s.hd n).k, .int .i64 (s.hd n).c, .string (ba (s.hd n).s)] 43)) (fun _ _ => id) (fun _ h => h.elim)).keep ((Kp.refl (fun _ => False) _).alloc (.cells #[.int .i64 (s.tl n).k, .int .i64 (s.tl n).c, .string (ba (s.tl n).s)] 43)) (fun _ _ => id) (fun _ h => h.elim))
    have HK2 := hide K2
    have HFl := hide hFl
    clear C2 Z2 N2 K2 hFl
    rw [htc] at HN4 ⊢
    go_wp2_with fail
    refine (next_any B b0 b1 b2 A FN _ HN4.out (by simp only [World.size_alloc]; omega)).mono ?_
    rintro e w5 ⟨rfl, hN5, hK5⟩
    have z5 := hK5.size
    simp only [World.size_alloc] at z5
    have K4 : Kp (fun _ => False) w2 ((w2.alloc (.cells #[.int .i64 (s.hd n).k, .int .i64 (s.hd n).c, .string (ba (s.hd n).s)] 43)).alloc (.cells #[.int .i64 (s.tl n).k, .int .i64 0, .string (ba (s.tl n).s)] 43)) := ((Kp.refl _ _).alloc _).alloc _
    have C5 : CB w5 c (nextV b0 b1 b2) s := hK5.heap (K4.heap HC2.out id) (HF.out).1
    have Z5 : Z3 w5 w.heap.size := hK5.heap (K4.heap HZ2.out id) (fun h => by have := HFl.out _ h; omega)
    have S5 : SB w5 w2.heap.size (s.hd n) := hK5.heap (((Kp.refl (fun _ => False) _).alloc _).heap (heap_alloc_new w2 _) id) (fun h => by have := HFl.out _ h; omega)
    have T5 : w5.heap[w2.heap.size + 1]? = some (.cells #[.int .i64 (s.tl n).k, .int .i64 0, .string (ba (s.tl n).s)] 43 (0, 0)) := hK5.heap (by have := heap_alloc_new (w2.alloc (.cells #[.int .i64 (s.hd n).k, .int .i64 (s.hd n).c, .string (ba (s.hd n).s)] 43)) (.cells #[.int .i64 (s.tl n).k, .int .i64 0, .string (ba (s.tl n).s)] 43); rw [World.size_alloc] at this; exact this) (fun h => by have := HFl.out _ h; omega)
    have K5 : Kp FN w w5 := Kp.trans ((Kp.trans HK2.out K4 (fun _ _ h => h)).mono (T := FN) (fun _ _ h => h.elim)) hK5 (fun _ _ h => h)
    clear c0 c1 c2 c3 hK5 K4 HK2
    have kS : Kp (fun k => k = w2.heap.size + 1) w5 (set3 w5 (w2.heap.size + 1) (.int .i64 (hdS A).k) (.int .i64 (hdS A).c) (.string (ba (hdS A).s))) := set3_kp (Kp.refl _ _) _ _ _ _ (fun _ => rfl)
    have sS := set3_size w5 (w2.heap.size + 1) (.int .i64 (hdS A).k) (.int .i64 (hdS A).c) (.string (ba (hdS A).s))
    have HC6 := hide (show CB _ c (nextV b0 b1 b2) s from kS.heap C5 (by omega))
    have HZ6 := hide (show Z3 _ w.heap.size from kS.heap Z5 (by omega))
    have HS6 := hide (show SB _ w2.heap.size (s.hd n) from kS.heap S5 (by omega))
    have HT6 := hide (show SB _ (w2.heap.size + 1) (hdS A) from set3_at T5 _ _ _)
    have HN6 := hide ((IsN.keep hN5 kS (fun k hk e => by simp only [World.size_alloc] at hk; rcases hk with hk | hk; have := HFl.out k hk; omega; omega) (fun k hk => by omega)).more (F' := fun k => FN k ∨ (w.heap.size + 1 ≤ k ∧ k < (set3 w5 (w2.heap.size + 1) (.int .i64 (hdS A).k) (.int .i64 (hdS A).c) (.string (ba (hdS A).s))).heap.size)) (fun k hk => by rw [sS]; simp only [World.size_alloc] at hk; rcases hk with hk | hk; exact .inl hk; exact .inr (by omega)) (fun k hk => by rw [sS] at hk ⊢; rcases hk with hk | hk; exact ⟨((H.out).lt k ((HF.out).2 k hk)).1, by have := HFl.out k hk; omega⟩; omega))
    have HK6 := hide (K5.trans kS (fun k hk e => by omega))
    obtain ⟨t0, t1, t2, htl, tf0, tf1, tf2⟩ := blk3 T5
    clear C5 Z5 S5 T5 hN5 K5 kS sS
    unfold stV
    go_upto_region 6 with fail
    clear t0 t1 t2 tf0 tf1 tf2 htl
    change Code.wp _ _ _ _ (set3 w5 (w2.heap.size + 1) (.int .i64 (hdS A).k) (.int .i64 (hdS A).c) (.string (ba (hdS A).s)))
    generalize set3 w5 (w2.heap.size + 1) (.int .i64 (hdS A).k) (.int .i64 (hdS A).c) (.string (ba (hdS A).s)) = X at HC6 HZ6 HS6 HT6 HN6 HK6 ⊢
    have hL : left (s :: A) n = A := by simp [left, hc]
    obtain ⟨r, HR⟩ : ∃ r, Hid (r = hdS A) := ⟨_, rfl⟩
    rw [← HR.out] at HT6 ⊢
    have zX := (HK6.out).size
    obtain ⟨t0, t1, t2, htl, _, _, _⟩ := blk3 HT6.out
    obtain ⟨c0, c1, c2, c3, hcl⟩ := (HC6.out).cells
    have cf1 := Lib.frozen_of_heap HC6.out 1
    have cf2 := Lib.frozen_of_heap HC6.out 2
    have cf3 := Lib.frozen_of_heap HC6.out 3
    have HE := hide (pass_end (h := s.hd n) (L := left (s :: A) n) HK6.out HC6.out HZ6.out (by rw [hL]; exact HN6.out) (HF.out).2 (H.out).f (HF.out).1 (H.out).lt (left_pos (s :: A) n (H.out).ps hn) hB r (by rw [hL]; exact HR.out) _ rfl)
    clear c0
    go_upto_region 7 with fail
    change Code.wp _ _ _ _ (setC X c (.int .i64 r.k) (.int .i64 r.c) (.string (ba r.s)))
    have kC : Kp (fun k => k = c) X (setC X c (.int .i64 r.k) (.int .i64 r.c) (.string (ba r.s))) := setC_kp (Kp.refl _ _) _ _ _ _ (fun _ => rfl)
    have Z7 : Z3 _ w.heap.size := kC.heap HZ6.out (by omega)
    have S7 : SB _ w2.heap.size (s.hd n) := kC.heap HS6.out (by omega)
    clear c1 c2 c3 cf1 cf2 cf3 t0 t1 t2 kC
    generalize setC X c (.int .i64 r.k) (.int .i64 r.c) (.string (ba r.s)) = X2 at Z7 S7 HE ⊢
    obtain ⟨y0, y1, y2, hyl, yf0, yf1, yf2⟩ := blk3 Z7
    obtain ⟨s0, s1, s2, hsl, _, _, _⟩ := blk3 S7
    clear Z7 S7
    go_wp2_with fail
    change bodyPost _ _ _ _ _ (set3 X2 w.heap.size (.int .i64 (s.hd n).k) (.int .i64 (s.hd n).c) (.string (ba (s.hd n).s)))
    clear y0 y1 y2 yf0 yf1 yf2 s0 s1 s2 hyl hsl
    generalize set3 X2 w.heap.size (.int .i64 (s.hd n).k) (.int .i64 (s.hd n).c) (.string (ba (s.hd n).s)) = Y at HE ⊢
    obtain ⟨x0, x1, x2, _⟩ := (HE.out).1.cells
    exact bodyPost_ret (v := .agg #[.int .i64 (s.hd n).k, .int .i64 (s.hd n).c, .string (ba (s.hd n).s)]) (by simp [results, Try.results23, go_sem, x0, x1, x2]) rfl ⟨rfl, (HE.out).2⟩
  · have hL : left (s :: A) n = s.tl n :: A := by simp [left, hc]
    have htc : ¬ ((s.tl n).c : Int) = 0 := by rw [tl_c]; omega
    have htc' : (((s.tl n).c : Int) == 0) = false := by simp only [beq_eq_false_iff_ne, ne_eq]; exact htc
    have K4 : Kp (fun _ => False) w2 ((w2.alloc (.cells #[.int .i64 (s.hd n).k, .int .i64 (s.hd n).c, .string (ba (s.hd n).s)] 43)).alloc (.cells #[.int .i64 (s.tl n).k, .int .i64 (s.tl n).c, .string (ba (s.tl n).s)] 43)) := ((Kp.refl _ _).alloc _).alloc _
    have HC6 := hide (show CB _ c (nextV b0 b1 b2) s from K4.heap C2 id)
    have HZ6 := hide (show Z3 _ w.heap.size from K4.heap Z2 id)
    have HS6 := hide (show SB _ w2.heap.size (s.hd n) from ((Kp.refl (fun _ => False) _).alloc (.cells #[.int .i64 (s.tl n).k, .int .i64 (s.tl n).c, .string (ba (s.tl n).s)] 43)).heap (heap_alloc_new w2 _) id)
    have HT6 := hide (show SB ((w2.alloc (.cells #[.int .i64 (s.hd n).k, .int .i64 (s.hd n).c, .string (ba (s.hd n).s)] 43)).alloc (.cells #[.int .i64 (s.tl n).k, .int .i64 (s.tl n).c, .string (ba (s.tl n).s)] 43)) (w2.heap.size + 1) (s.tl n) by have := heap_alloc_new (w2.alloc (.cells #[.int .i64 (s.hd n).k, .int .i64 (s.hd n).c, .string (ba (s.hd n).s)] 43)) (.cells #[.int .i64 (s.tl n).k, .int .i64 (s.tl n).c, .string (ba (s.tl n).s)] 43); rw [World.size_alloc] at this; exact this)
    have HN6 := hide ((N2.keep K4 (fun _ _ => id) (fun _ h => h.elim)).more (F' := fun k => FN k ∨ (w.heap.size + 1 ≤ k ∧ k < ((w2.alloc (.cells #[.int .i64 (s.hd n).k, .int .i64 (s.hd n).c, .string (ba (s.hd n).s)] 43)).alloc (.cells #[.int .i64 (s.tl n).k, .int .i64 (s.tl n).c, .string (ba (s.tl n).s)] 43)).heap.size)) (fun k hk => .inl hk) (fun k hk => by rcases hk with hk | hk; exact ⟨((H.out).lt k ((HF.out).2 k hk)).1, by have := hFl k hk; simp only [World.size_alloc]; omega⟩; omega))
    have HK6 := hide ((K2.trans K4 (fun _ _ h => h)).mono (T := FN) (fun _ _ h => h.elim))
    clear C2 Z2 N2 K2 K4
    unfold stV
    go_upto_region 6 with fail
    generalize (w2.alloc (.cells #[.int .i64 (s.hd n).k, .int .i64 (s.hd n).c, .string (ba (s.hd n).s)] 43)).alloc (.cells #[.int .i64 (s.tl n).k, .int .i64 (s.tl n).c, .string (ba (s.tl n).s)] 43) = X at HC6 HZ6 HS6 HT6 HN6 HK6 ⊢
    obtain ⟨r, HR⟩ : ∃ r, Hid (r = s.tl n) := ⟨_, rfl⟩
    rw [← HR.out] at HT6 ⊢
    have zX := (HK6.out).size
    obtain ⟨t0, t1, t2, htl, _, _, _⟩ := blk3 HT6.out
    obtain ⟨c0, c1, c2, c3, hcl⟩ := (HC6.out).cells
    have cf1 := Lib.frozen_of_heap HC6.out 1
    have cf2 := Lib.frozen_of_heap HC6.out 2
    have cf3 := Lib.frozen_of_heap HC6.out 3
    have HE := hide (pass_end (h := s.hd n) (L := left (s :: A) n) HK6.out HC6.out HZ6.out (by rw [hL]; exact HN6.out) (HF.out).2 (H.out).f (HF.out).1 (H.out).lt (left_pos (s :: A) n (H.out).ps hn) hB r (by rw [hL]; exact HR.out) _ rfl)
    clear c0
    go_upto_region 7 with fail
    change Code.wp _ _ _ _ (setC X c (.int .i64 r.k) (.int .i64 r.c) (.string (ba r.s)))
    have kC : Kp (fun k => k = c) X (setC X c (.int .i64 r.k) (.int .i64 r.c) (.string (ba r.s))) := setC_kp (Kp.refl _ _) _ _ _ _ (fun _ => rfl)
    have Z7 : Z3 _ w.heap.size := kC.heap HZ6.out (by omega)
    have S7 : SB _ w2.heap.size (s.hd n) := kC.heap HS6.out (by omega)
    clear c1 c2 c3 cf1 cf2 cf3 t0 t1 t2 kC
    generalize setC X c (.int .i64 r.k) (.int .i64 r.c) (.string (ba r.s)) = X2 at Z7 S7 HE ⊢
    obtain ⟨y0, y1, y2, hyl, yf0, yf1, yf2⟩ := blk3 Z7
    obtain ⟨s0, s1, s2, hsl, _, _, _⟩ := blk3 S7
    clear Z7 S7
    go_wp2_with fail
    change bodyPost _ _ _ _ _ (set3 X2 w.heap.size (.int .i64 (s.hd n).k) (.int .i64 (s.hd n).c) (.string (ba (s.hd n).s)))
    clear y0 y1 y2 yf0 yf1 yf2 s0 s1 s2 hyl hsl
    generalize set3 X2 w.heap.size (.int .i64 (s.hd n).k) (.int .i64 (s.hd n).c) (.string (ba (s.hd n).s)) = Y at HE ⊢
    obtain ⟨x0, x1, x2, _⟩ := (HE.out).1.cells
    exact bodyPost_ret (v := .agg #[.int .i64 (s.hd n).k, .int .i64 (s.hd n).c, .string (ba (s.hd n).s)]) (by simp [results, Try.results23, go_sem, x0, x1, x2]) rfl ⟨rfl, (HE.out).2⟩
theorem pass_any (B : Nat) (w : World) (c n : Nat) (A : List St) (F : Nat → Prop) (h : IsC B w c A F) (hB : B ≤ w.heap.size) (hf : fits A n) (hs : ∀ s ∈ A, s.c ≤ 1099511627776) :
    Calls Try.prog 23 #[.pointer (some ⟨c, 0, none⟩), .int .i64 n] w fun e w' => e = .returned (stV (piece A n)) ∧ IsC B w' c (left A n) (fun k => F k ∨ (w.heap.size ≤ k ∧ k < w'.heap.size)) ∧ Kp F w w' := by
  cases A with
  | nil => exact pass_nil B w c n F h hB
  | cons s A => exact pass_cons B w c n s A F h hB hf (hs s (by simp))
end Go.Proofs.Ytobdfddpiobhhaa
