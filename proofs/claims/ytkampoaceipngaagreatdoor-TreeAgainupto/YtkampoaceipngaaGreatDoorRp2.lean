/- A text in which a piece is replaced, with its tokens: Ahead and Replace. -/
import Derived.Test.YtkampoaceipngaaGreatDoorSr
import Derived.Test.YtkampoaceipngaaGreatDoorCn
namespace Go.Proofs.YtkampoaceipngaaGreatDoor
open Go.RowKit
open M

set_option maxRecDepth 100000 in
set_option maxHeartbeats 4000000 in
theorem docAhead_any (b : Nat) (v : Value) (s : ByteArray) (f : Nat) (w : World) (h : IsD w b v s) (hs : s.size ≤ 1073741824) (hf : f ≤ 1073741824) :
    Calls Tryz.prog 32 #[.pointer (some ⟨b, 0, none⟩), .int .i64 f] w fun e w' => e = .returned (.int .i64 (ahd f (toks 0 (bs s))).length) ∧ Below w.heap.size w w' := by
  obtain ⟨q1, q2, hr⟩ := h
  have hl := toks_len _ 0 (bs s) (Nat.le_refl _)
  rw [bs_len] at hl
  have HG := hide (toks_ge _ 0 (bs s) (Nat.le_refl _))
  rw [bs_len] at HG
  have HC := hide (endingBy_any v _ ((f : Int) - 4) w hr (by omega) (fun t ht => by have := (HG.out) t ht; omega) (mono_end _ 0 (bs s)))
  rw [ahd_is] at HC
  clear hr
  have i1 : max (f : Int) 0 = f := by omega
  go_enter Tryz.func32, Tryz.ntmps32
  go_wp2_with fail
  refine (HC.out).mono ?_
  rintro e w1 ⟨v', rfl, H1, k1⟩
  obtain ⟨ao, cap, rfl, -⟩ := (H1.out).1
  clear H1
  go_wp2_with fail
  go_ret
  exact ⟨rfl, k1⟩

theorem beg_ge {c : Int} {p : Nat} {l : List UInt8} : ∀ k ∈ beg c (toks p l), c ≤ (k.pos : Int) := by
  intro k hk
  obtain ⟨q, h1, h2, h3, h4⟩ := beg_form _ p l c (Nat.le_refl _)
  rw [h3] at hk
  have := toks_ge _ _ _ (Nat.le_refl _) k hk
  rcases h4 with h4 | h4
  · omega
  · rw [List.drop_eq_nil_iff.2 (by omega), toks_nil] at hk; cases hk
theorem anw_ge (g : Int) (n : Nat) : ∀ (old : List Tk) (a : Nat) (t : List UInt8), t.length ≤ n → (∃ p l, old = toks p l) → ∀ k ∈ (anw g old a t).2, (a : Int) ≤ k.pos + g := by
  induction n with
  | zero =>
    intro old a t hn ho k hk
    have h0 : t = [] := List.length_eq_zero_iff.1 (by omega)
    obtain ⟨p, l, rfl⟩ := ho
    rw [h0, anw_end] at hk
    have := beg_ge k hk
    omega
  | succ n ih =>
    intro old a t hn ho k hk
    by_cases h0 : t = []
    · obtain ⟨p, l, rfl⟩ := ho
      rw [h0, anw_end] at hk
      have := beg_ge k hk
      omega
    · by_cases hs : (beg (a - g) old).head?.map (fun k => (k.pos : Int)) = some (a - g)
      · rw [anw_stop hs] at hk
        obtain ⟨p, l, rfl⟩ := ho
        have := beg_ge k hk
        omega
      · have hb := tok_bounds h0
        rw [anw_on h0 hs] at hk
        have := ih _ _ _ (by rw [List.length_drop]; omega) (beg_toks _ ho) k hk
        omega
theorem flat_set (p : Nat) : ∀ (L : List Tk) (i : Nat) (t : Tk), L[i]? = some t → (L.flatMap tkv).set (i * 3 + 1) (.int .i64 p) = (L.set i ⟨t.kind, p, t.len⟩).flatMap tkv
  | [], i, t, h => by simp at h
  | a :: L, 0, t, h => by
    obtain rfl : a = t := by simpa using h
    rfl
  | a :: L, i + 1, t, h => by
    have ih := flat_set p L i t (by simpa using h)
    rw [List.flatMap_cons, List.set_cons_succ, List.flatMap_cons, ← ih, List.set_append_right _ _ (by simp [tkv]; omega)]
    congr 2
    simp [tkv]; omega
/-- Some tokens, and others behind them of which the first ones have been moved. -/
def mvd (P S : List Tk) (G : Int) (j : Nat) : List Tk := P ++ ((S.take j).map (mv G) ++ S.drop j)
theorem mvd_zero (P S : List Tk) (G : Int) : mvd P S G 0 = P ++ S := by unfold mvd; simp
theorem mvd_all (P S : List Tk) (G : Int) : mvd P S G S.length = P ++ S.map (mv G) := by unfold mvd; simp
theorem mvd_get {P S : List Tk} {G : Int} {j : Nat} {t : Tk} (h : S[j]? = some t) : (mvd P S G j)[P.length + j]? = some t := by
  have hj : j < S.length := by
    rcases Nat.lt_or_ge j S.length with g | g
    · exact g
    · rw [List.getElem?_eq_none g] at h; cases h
  have hl : ((S.take j).map (mv G)).length = j := by rw [List.length_map, List.length_take]; omega
  unfold mvd
  rw [List.getElem?_append_right (by omega), Nat.add_sub_cancel_left, List.getElem?_append_right (by omega), hl, Nat.sub_self, List.getElem?_drop, Nat.add_zero]
  exact h
theorem mvd_set {P S : List Tk} {G : Int} {j : Nat} {t : Tk} (h : S[j]? = some t) : (mvd P S G j).set (P.length + j) (mv G t) = mvd P S G (j + 1) := by
  have hj : j < S.length := by
    rcases Nat.lt_or_ge j S.length with g | g
    · exact g
    · rw [List.getElem?_eq_none g] at h; cases h
  have hl : ((S.take j).map (mv G)).length = j := by rw [List.length_map, List.length_take]; omega
  unfold mvd
  rw [List.set_append_right _ _ (by omega), Nat.add_sub_cancel_left, List.set_append_right _ _ (by omega), hl, Nat.sub_self]
  have hd : S.drop j = t :: S.drop (j + 1) := by
    rw [List.drop_eq_getElem_cons hj]; congr 1
    exact Option.some.inj ((List.getElem?_eq_getElem hj).symm.trans h)
  rw [hd, List.set_cons_zero, List.take_add_one, h]
  simp
theorem end_le {A : List Tk} {m : Nat} (h : ∀ t ∈ A, t.pos + t.len ≤ m) : endF 0 A ≤ m := by
  by_cases h0 : A = []
  · subst h0; exact Nat.zero_le _
  · obtain ⟨t, h1, h2⟩ := endF_get (p := 0) h0
    rw [h2]; exact h t (List.mem_of_getElem? h1)
theorem ahead_le {f : Nat} {L : List Tk} : ∀ t ∈ ahd f L, t.pos + t.len ≤ f := by
  intro t ht
  have h1 : (ahd f L).all (fun t => decide (t.pos + t.len + 4 ≤ f)) = true := List.all_takeWhile
  have := List.all_eq_true.1 h1 t ht
  simp at this; omega
theorem ahd_take (f : Nat) (L : List Tk) : ahd f L = L.take (ahd f L).length := List.prefix_iff_eq_take.1 (List.takeWhile_prefix _)
theorem rep_size (s X : ByteArray) {f u : Nat} (h1 : f ≤ u) (h2 : u ≤ s.size) : (s.extract 0 f ++ X ++ s.extract u s.size).size = f + X.size + (s.size - u) := by
  rw [← bs_len, bs_append, bs_append, bs_take, bs_drop, List.length_append, List.length_append, List.length_take, List.length_drop, bs_len, bs_len]; omega
theorem rep_bs (s X : ByteArray) (f u : Nat) : bs (s.extract 0 f ++ X ++ s.extract u s.size) = rep (bs s) (bs X) f u := by rw [bs_append, bs_append, bs_take, bs_drop]; rfl

set_option maxRecDepth 100000 in
set_option maxHeartbeats 4000000 in
theorem replace_yes (b : Nat) (v : Value) (s X : ByteArray) (f u : Nat) (w : World) (h : IsD w b v s) (hT : Tabs w) (hs : s.size ≤ 268435456) (hX : X.size ≤ 268435456) (h1 : f ≤ u) (h2 : u ≤ s.size)
    (hv : ∀ k, v.ownBlock = some k → k < w.heap.size) (hbw : b < w.heap.size) (N : ByteArray) (HN0 : Hid (N = s.extract 0 f ++ X ++ s.extract u s.size)) (A S : List Tk)
    (HA : Hid (anw ((X.size : Int) - ((u : Int) - f)) (beg u (toks 0 (bs s))) (endF 0 (ahd f (toks 0 (bs s)))) ((rep (bs s) (bs X) f u).drop (endF 0 (ahd f (toks 0 (bs s))))) = (A, S))) :
    Calls Tryz.prog 31 #[.pointer (some ⟨b, 0, none⟩), .agg #[.int .i64 f, .int .i64 u, .string X]] w fun e w' => ∃ b', e = .returned (.tuple #[.pointer (some ⟨b', 0, none⟩), .int .i64 A.length, .nilIface]) ∧
      Hid (∃ v', w.heap.size ≤ b' ∧ b' < w'.heap.size ∧ IsD w' b' v' N ∧ (∀ k, v'.ownBlock = some k → k < w'.heap.size) ∧ Below w.heap.size w w') := by
  have HQ : Hid (toks 0 (rep (bs s) (bs X) f u) = ahd f (toks 0 (bs s)) ++ A ++ S.map (mv ((X.size : Int) - ((u : Int) - f)))) := by
    have := (rep_toks (T := bs s) (X := bs X) (g := (X.size : Int) - ((u : Int) - f)) h1 (by rw [bs_len]; exact h2) (by rw [bs_len])).1
    rw [HA.out] at this; exact this
  have HGE : Hid (∀ k ∈ S, 0 ≤ (k.pos : Int) + ((X.size : Int) - ((u : Int) - f))) := by
    intro k hk
    have := anw_ge ((X.size : Int) - ((u : Int) - f)) _ (beg u (toks 0 (bs s))) (endF 0 (ahd f (toks 0 (bs s)))) _ (Nat.le_refl _) (beg_toks _ ⟨0, _, rfl⟩) k (by rw [HA.out]; exact hk)
    omega
  have HD := hide h
  obtain ⟨q1, q2, hr⟩ := h
  have hf : f ≤ s.size := by omega
  have hf' : (f : Int) ≤ (s.size : Int) := by omega
  have hu' : (u : Int) ≤ (s.size : Int) := by omega
  have i2 : decide (u < f) = false := by simp; omega
  have i3 : decide (s.size < u) = false := by simp; omega
  have i4 : decide ((u : Int) < (f : Int)) = false := by simp; omega
  have i6 : decide ((f : Int) < 0) = false := by simp
  have i5 : decide ((s.size : Int) < (u : Int)) = false := by simp; omega
  clear hr
  go_enter Tryz.func31, Tryz.ntmps31
  go_wp2_with fail
  go_quiet (fail)
  revert nq
  intro n1
  go_wp2_with fail
  go_quiet (fail)
  go_wp2_with fail
  have hg : (f : Int) + (X.size : Int) + ((s.size - u : Nat) : Int) - (s.size : Int) = (X.size : Int) - ((u : Int) - f) := by omega
  rw [hg]
  have hNl := rep_size s X h1 h2
  rw [← rep_bs] at HA HQ
  have hN := HN0.out
  rw [← hN] at hNl HA HQ ⊢
  clear hN
  have hG1 : (X.size : Int) - ((u : Int) - f) ≤ 268435456 := by omega
  have hG2 : -268435456 ≤ (X.size : Int) - ((u : Int) - f) := by omega
  have hGN : (N.size : Int) = s.size + ((X.size : Int) - ((u : Int) - f)) := by omega
  generalize (X.size : Int) - ((u : Int) - f) = G at *
  have HW : Hid (Below w.heap.size w ((w.alloc (Obj.cells #[Value.int IntKind.i64 f, Value.int IntKind.i64 u, Value.string X] 38)).drewN (n1 + nq))) := belowN ((Below.refl _ w).alloc (Nat.le_refl _) _) _
  have p0 : ((w.alloc (Obj.cells #[Value.int IntKind.i64 f, Value.int IntKind.i64 u, Value.string X] 38)).drewN (n1 + nq)).cell? ⟨w.heap.size, 0, none⟩ = some (.int .i64 f) := by
    show (w.alloc _).cell? _ = _
    rw [cell_of_row _ _ 0 _ _ _ (heap_alloc_new w _)]; rfl
  have p1 : ((w.alloc (Obj.cells #[Value.int IntKind.i64 f, Value.int IntKind.i64 u, Value.string X] 38)).drewN (n1 + nq)).cell? ⟨w.heap.size, 1, none⟩ = some (.int .i64 u) := by
    show (w.alloc _).cell? _ = _
    rw [cell_of_row _ _ 1 _ _ _ (heap_alloc_new w _)]; rfl
  generalize (w.alloc (Obj.cells #[Value.int IntKind.i64 f, Value.int IntKind.i64 u, Value.string X] 38)).drewN (n1 + nq) = W at *
  have HD1 := hide ((HD.out).below HW.out)
  have x2 := (HD1.out).held
  have HT1 := hide (hT.below HW.out)
  have HTR := hide (HD1.out).row
  have HG := hide (toks_ge _ 0 (bs s) (Nat.le_refl _))
  have hLl := toks_len _ 0 (bs s) (Nat.le_refl _)
  rw [bs_len] at HG hLl
  have HCA := hide (fun (W' : World) (k : Below W.heap.size W W') => docAhead_any b v s f W' ((HD1.out).below k) (by omega) (by omega))
  have hal : (ahd f (toks 0 (bs s))).length ≤ (toks 0 (bs s)).length := (List.takeWhile_sublist _).length_le
  obtain ⟨ao, cap, rfl, hc1, hc2, -⟩ := (HD1.out).row
  have y1 : (((ahd f (toks 0 (bs s))).length : Nat) : Int) ≤ (cap : Int) := by omega
  have y2 : (ahd f (toks 0 (bs s))).length ≤ cap := by omega
  go_region_held3 (fun w' => w'.cell? ⟨b, 1, none⟩ = some (.slice ao (toks 0 (bs s)).length cap) ∧ w'.cell? ⟨w.heap.size, 0, none⟩ = some (.int .i64 f)) (first | exact ⟨x2, p0⟩ | exact ⟨(Kp.ofBelow kS (fun _ => False)).cellv x2 id, (Kp.ofBelow kS (fun _ => False)).cellv p0 id⟩)
    ((go_at_call 32; refine ((HCA.out) _ ?_).mono ?_; (first | exact Below.refl _ W | exact (Below.refl _ W).drew); rintro e w3 ⟨rfl, kS⟩))
  rename_i hHeld
  have kW : Below W.heap.size W w3 := ((Below.refl _ W).drew).trans kS
  have K3 := hide ((HW.out).trans (kW.mono (HW.out).size))
  have HD3 := hide ((HD1.out).below kW)
  have HT3 := hide ((HT1.out).below kW)
  have p1' : w3.cell? ⟨w.heap.size, 1, none⟩ = _ := (Kp.ofBelow kW (fun _ => False)).cellv p1 id
  have HL3 : Hid (IsT w3 (.slice ao (ahd f (toks 0 (bs s))).length cap) (ahd f (toks 0 (bs s)))) := by
    have := ((HTR.out).below kW).take hal
    rwa [← ahd_take] at this
  clear kS kW p0 p1 x2 HCA HD1 HT1 q1 q2 hT HD HW HTR y1 y2 hg hHeld
  go_wp2_with fail
  refine (endOf_any _ _ _ HL3.out (fun t ht => by have := ahead_le t ht; omega)).mono ?_
  rintro e w4 ⟨rfl, k4⟩
  have K4 := hide ((K3.out).trans (k4.mono (K3.out).size))
  have hz34 : w.heap.size < w4.heap.size := Nat.lt_of_lt_of_le (World.block_lt_of_cell? w3 _ p1') k4.size
  have hp : endF 0 (ahd f (toks 0 (bs s))) ≤ N.size := Nat.le_trans (end_le ahead_le) (by omega)
  have HT4 := hide ((HT3.out).below k4)
  have HK4 := hide k4
  clear k4
  go_wp2_with fail
  refine (readFrom_any N (endF 0 (ahd f (toks 0 (bs s)))) w4 HT4.out hp (by omega)).mono ?_
  rintro e w5 ⟨rfl, r5, k5⟩
  have hz4 := (K4.out).size
  have hz5 := r5.raw.lt
  have K5 := hide ((K4.out).trans (k5.mono (K4.out).size))
  have k35 : Below w3.heap.size w3 w5 := (HK4.out).trans (k5.mono (HK4.out).size)
  have HD5 := hide ((HD3.out).below k35)
  have HL5 := hide ((HL3.out).below k35)
  have x5 := (HD5.out).held
  have p5 : w5.cell? ⟨w.heap.size, 1, none⟩ = _ := (Kp.ofBelow k35 (fun _ => False)).cellv p1' id
  have HR5 := hide r5
  have HCB : Hid (∀ W' : World, Below w5.heap.size w5 W' → Calls Tryz.prog 59 #[.slice ao (toks 0 (bs s)).length cap, .int .i64 u] W' fun e w' => ∃ v', e = .returned v' ∧ Hid (IsT w' v' (beg u (toks 0 (bs s))) ∧ v'.ownBlock = (Value.slice ao (toks 0 (bs s)).length cap).ownBlock) ∧ Below W'.heap.size W' w') := by
    intro W' k
    have := beginningAt_any _ _ (u : Int) W' (((HD5.out).below k).row) (by omega) (mono_beg _ 0 (bs s))
    rwa [beg_is] at this
  have HCU : Hid (∀ (W' : World) (v' : Value), Below w5.heap.size w5 W' → IsT W' v' (beg u (toks 0 (bs s))) → v'.ownBlock = (Value.slice ao (toks 0 (bs s)).length cap).ownBlock → Calls Tryz.prog 58 #[.pointer (some ⟨w4.heap.size, 0, none⟩), v', .int .i64 G] W' fun e w' => ∃ va vs, e = .returned (.tuple #[va, vs]) ∧ Hid (w'.ownsRow W'.heap.size 118 3 va A.length (A.flatMap tkv) ∧ IsT w' vs S ∧ vs.ownBlock = v'.ownBlock ∧ On w4.heap.size W' w')) := by
    intro W' v' k h6 h7
    refine until_any w4.heap.size N _ v' (beg u (toks 0 (bs s))) G W' ((HR5.out).below k) (by omega) h6 (beg_toks _ ⟨0, _, rfl⟩) (Nat.le_trans (beg_len _ _) (by omega)) ?_ (by omega) (by omega) A S HA
    intro k' hk'
    have := hv k' (h7 ▸ hk')
    have h9 := (K5.out).size
    have h8 := k.size
    exact ⟨by omega, by omega⟩
  clear k35 k5 r5 p1' HL3 HD3 HT3 HT4 HK4 K3
  have hbr : b ≠ w4.heap.size := by omega
  go_wp2_with fail
  go_region_held3 (fun w' => w'.cell? ⟨b, 1, none⟩ = some (.slice ao (toks 0 (bs s)).length cap) ∧ w'.cell? ⟨w.heap.size, 1, none⟩ = some (.int .i64 u)) (first | exact ⟨x5, p5⟩ | exact ⟨(Kp.ofBelow k6 (fun _ => False)).cellv x5 id, (Kp.ofBelow k6 (fun _ => False)).cellv p5 id⟩ | exact ⟨((H7.out).2.2.2).cellv ((Kp.ofBelow k6 (fun _ => False)).cellv x5 id) (fun (e : b = w4.heap.size) => by omega), ((H7.out).2.2.2).cellv ((Kp.ofBelow k6 (fun _ => False)).cellv p5 id) (fun (e : w.heap.size = w4.heap.size) => by omega)⟩)
    (first
      | ((go_at_call 59; refine ((HCB.out) _ ?_).mono ?_; (first | exact Below.refl _ w5 | exact (Below.refl _ w5).drew); rintro e w6 ⟨v6, rfl, H6, k6⟩))
      | ((go_at_call 58; refine ((HCU.out) _ v6 ?_ (H6.out).1 (H6.out).2).mono ?_; exact ((Below.refl _ w5).drew).trans k6; rintro e w7 ⟨va, vs, rfl, H7⟩)))
  rename_i hHeld
  have k56 : Below w5.heap.size w5 w6 := ((Below.refl _ w5).drew).trans k6
  have K6 := (K5.out).trans (k56.mono (K5.out).size)
  have K7 := hide (K6.trans ((H7.out).2.2.2.below K6.size (by omega)))
  have hob : ∀ n c k, (Value.slice ao n c).ownBlock = some k → k < w.heap.size := by
    intro n c k hk
    exact hv k (by cases ao with | none => cases hk | some a => exact hk)
  have HLA : Hid (IsT w7 (.slice ao (ahd f (toks 0 (bs s))).length cap) (ahd f (toks 0 (bs s)))) := ((HL5.out).below k56).keep (H7.out).2.2.2 (fun k hk e => by have := hob _ _ k hk; omega)
  have HTA := hide (IsT.ofOwns (H7.out).1)
  have HTS := hide (H7.out).2.1
  clear hHeld k56 K6 k6 H7 H6 HCB HCU HR5 HL5 HD5 x5 p5 K4 hob HA
  have hlen : (ahd f (toks 0 (bs s))).length + A.length + S.length ≤ N.size := by
    have h1 := congrArg List.length HQ.out
    have h2 := toks_len _ 0 (bs N) (Nat.le_refl _)
    rw [bs_len] at h2
    rw [List.length_append, List.length_append, List.length_map] at h1
    omega
  obtain ⟨aoA, capA, rfl, -⟩ := HTA.out
  obtain ⟨aoS, capS, rfl, -⟩ := HTS.out
  go_wp2_with fail
  have HB : Hid (∀ k ∈ S, 0 ≤ (k.pos : Int) + G ∧ (k.pos : Int) + G ≤ 536870912) := by
    intro k hk
    have g1 := (HGE.out) k hk
    have g2 : mv G k ∈ toks 0 (bs N) := by rw [HQ.out]; exact List.mem_append_right _ (List.mem_map_of_mem hk)
    have g3 := toks_ge _ 0 (bs N) (Nat.le_refl _) _ g2
    rw [bs_len] at g3
    simp only [mv] at g3
    omega
  refine (concat_any w7.heap.size _ _ _ (ahd f (toks 0 (bs s))) A S _ ?_ ?_ ?_ ((HLA.out).below ((Below.refl _ w7).alloc (Nat.le_refl _) _)) ((HTA.out).below ((Below.refl _ w7).alloc (Nat.le_refl _) _)) ((HTS.out).below ((Below.refl _ w7).alloc (Nat.le_refl _) _)) (by omega)).mono ?_
  · rw [cell_of_row _ _ 0 _ _ _ (heap_alloc_new w7 _)]; rfl
  · rw [cell_of_row _ _ 1 _ _ _ (heap_alloc_new w7 _)]; rfl
  · rw [cell_of_row _ _ 2 _ _ _ (heap_alloc_new w7 _)]; rfl
  rintro e w8 ⟨v8, rfl, H8, k8⟩
  have K8 := hide ((K7.out).trans (((Below.refl w.heap.size w7).alloc (K7.out).size _).trans (k8.mono (by simp; have := (K7.out).size; omega))))
  have H9 : Hid (w8.ownsRow w.heap.size 118 3 v8 ((ahd f (toks 0 (bs s))).length + A.length + S.length) ((ahd f (toks 0 (bs s)) ++ A ++ S).flatMap tkv)) := owns_base (H8.out) (by simp; have := (K7.out).size; omega)
  clear k8 H8 HGE HLA HTA HTS K7
  generalize hP : ahd f (toks 0 (bs s)) ++ A = P at *
  have hPl : (ahd f (toks 0 (bs s))).length + A.length = P.length := by rw [← hP, List.length_append]
  rw [hPl] at H9
  obtain ⟨ao8, cap8, hv8⟩ : ∃ ao8 cap8, v8 = .slice ao8 (P.length + S.length) cap8 := by
    rcases (H9.out).2 with ⟨h, h0⟩ | ⟨g, cap, cur, h, -⟩
    · exact ⟨none, 0, by rw [h, h0]⟩
    · exact ⟨_, _, h⟩
  subst hv8
  have hPi : ((ahd f (toks 0 (bs s))).length : Int) + (A.length : Int) = (P.length : Int) := by omega
  have hPn : P.length + S.length ≤ 536870912 := by omega
  go_wp2_with fail
  go_loopw [14] (fun i wr => ∃ j : Nat, i = .int .i64 ((P.length + j : Nat) : Int) ∧ j ≤ S.length ∧ Hid (wr.ownsRow w.heap.size 118 3 (.slice ao8 (P.length + S.length) cap8) (P.length + S.length) ((mvd P S G j).flatMap tkv)) ∧ Hid (Below w.heap.size w wr)) (fun i _ => P.length + S.length - (intOf i).toNat)
  case atStart => exact ⟨0, rfl, Nat.zero_le _, by show World.ownsRow _ _ _ _ _ _ _; rw [mvd_zero]; exact H9.out, K8⟩
  case round =>
    obtain ⟨j, rfl, hj, HO, HK⟩ := hrel
    by_cases hlt : j < S.length
    · obtain ⟨t, ht⟩ : ∃ t, S[j]? = some t := ⟨S[j], List.getElem?_eq_getElem hlt⟩
      obtain ⟨g, cap', e8, hg1, hg2⟩ := (HO.out).form (by omega)
      injection e8 with e8 _ e9
      subst e8
      obtain ⟨hb1, hb2⟩ := (HB.out) t (List.mem_of_getElem? ht)
      have c1 : wr.cell? ⟨g, (P.length + j) * 3 + 1, none⟩ = some (.int .i64 t.pos) := by
        have := (HO.out).cells (g := g) rfl _ _ ((tkv_get (mvd_get (P := P) (G := G) ht) (by omega : 1 < 3)).trans rfl)
        rwa [Addr.add_lit, Nat.zero_add] at this
      have f1 : wr.frozen? ⟨g, (P.length + j) * 3 + 1, none⟩ = false := (HO.out).frozenAt _
      have HO' : Hid ((wr.setCell ⟨g, (P.length + j) * 3 + 1, none⟩ (.int .i64 ((t.pos : Int) + G))).ownsRow w.heap.size 118 3 (.slice (some ⟨g, 0, none⟩) (P.length + S.length) cap8) (P.length + S.length) ((mvd P S G (j + 1)).flatMap tkv)) := by
        have := ((HO.out).stored ((P.length + j) * 3 + 1) (.int .i64 ((t.pos : Int) + G))).1
        rw [show (t.pos : Int) + G = ((mv G t).pos : Int) by simp only [mv]; omega] at this ⊢
        rw [flat_set _ _ _ t (mvd_get ht)] at this
        have e : (⟨t.kind, (mv G t).pos, t.len⟩ : Tk) = mv G t := rfl
        rw [e, mvd_set ht] at this
        exact this
      have HK' : Hid (Below w.heap.size w (wr.setCell ⟨g, (P.length + j) * 3 + 1, none⟩ (.int .i64 ((t.pos : Int) + G)))) := Below.setCell HK.out hg1 _
      have i1 : P.length + j < P.length + S.length := by omega
      have i7 : P.length + j < 536870912 := by omega
      clear ht HO HB HQ hP hPl H9 K8 HK
      generalize hm : P.length + j = m at *
      generalize hn : P.length + S.length = n at *
      have HM := hide hm
      have HN := hide hn
      clear hm hn
      go_wp2_with fail
      refine ⟨⟨j + 1, ?_, by omega, HO', HK'⟩, ?_⟩
      · rw [show P.length + (j + 1) = m + 1 by have := HM.out; omega]; rfl
      · simp only [intOf]; omega
    · have hje : j = S.length := by omega
      subst hje
      rw [mvd_all] at HO
      have i1 : decide (P.length + S.length < P.length + S.length) = false := by simp
      go_wp2_with fail
      go_ret3
      have hkb : Below wr.heap.size wr (wr.alloc (Obj.cells #[Value.string N, Value.slice ao8 (P.length + S.length) cap8] 103)) := (Below.refl _ wr).alloc (Nat.le_refl _) _
      have hTn : IsT wr (.slice ao8 (P.length + S.length) cap8) (P ++ S.map (mv G)) := IsT.ofOwns (by rw [List.length_append, List.length_map]; exact HO.out)
      refine ⟨wr.heap.size, rfl, .slice ao8 (P.length + S.length) cap8, (HK.out).size, by simp, ⟨?_, ?_, ?_⟩, fun k hk => ?_, (HK.out).trans (hkb.mono (HK.out).size)⟩
      · rw [cell_of_row _ _ 0 _ _ _ (heap_alloc_new wr _)]; rfl
      · rw [cell_of_row _ _ 1 _ _ _ (heap_alloc_new wr _)]; rfl
      · rw [HQ.out]; exact hTn.below hkb
      · have := (owns_ge HO.out k hk).2
        simp; omega
end Go.Proofs.YtkampoaceipngaaGreatDoor
