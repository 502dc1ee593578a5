/- The plain edit of an edit: the walk. -/
import Derived.Test.YtobdfddpiobhhaaDoorPa
namespace Go.Proofs.YtobdfddpiobhhaaDoor
open Go.RowKit
open EM
theorem IsW.new (w : World) : IsW w.heap.size (w.alloc (.cells #[.slice none 0 0, .int .i64 0, .bool false, .int .i64 0, .pointer none, .slice none 0 0] 82)) w.heap.size Wr.new (fun k => k = w.heap.size) := by
  refine ⟨⟨.slice none 0 0, .pointer none, .slice none 0 0, 0, heap_alloc_new w _, World.ownsRow_nil _ _ _ _, .inl ⟨rfl, rfl, rfl⟩, (fun _ _ h => by cases h), by omega, fun k hk => by simp [Value.ownBlock] at hk, fun k hk => by simp [Value.ownBlock] at hk⟩, rfl, fun k hk => ?_⟩
  subst hk
  simp
theorem len_sts (a : Nat) (L : List Sp) : (sts a L).length ≤ 3 * L.length := by
  induction L generalizing a with
  | nil => simp [sts]
  | cons c L ih =>
    have h1 := ih c.t
    have h2 : (real (st3 a c)).length ≤ 3 := Nat.le_trans (List.length_filter_le _ _) (by simp [st3])
    rw [sts, List.length_append, List.length_cons]
    omega
/-- What holds while an edit is made plain: D: the steps that are done; S: those that are not. -/
structure PI (B : Nat) (w wr : World) (b b0 b1 b2 k : Nat) (D S : List St) (FW FN : Nat → Prop) : Prop where
  sb : SB wr k (hdS S)
  nx : IsN B wr b0 b1 b2 S.tail FN
  wr_ : IsW B wr b (D.foldl Wr.add Wr.new) FW
  sm : Wr.small (D.foldl Wr.add Wr.new) (csum D) D.length
  dj : ∀ i, FW i → ¬ FN i
  kb : B ≤ k ∧ ¬ FW k ∧ ¬ FN k
  be : Below B w wr
theorem PI.start {w w1 w2 : World} {b0 b1 b2 : Nat} {Ls : List Sp} (hW : IsW w.heap.size (w.alloc (.cells #[.slice none 0 0, .int .i64 0, .bool false, .int .i64 0, .pointer none, .slice none 0 0] 82)) w.heap.size Wr.new (fun k => k = w.heap.size))
    (h1 : Below (w.heap.size + 1) (w.alloc (.cells #[.slice none 0 0, .int .i64 0, .bool false, .int .i64 0, .pointer none, .slice none 0 0] 82)) w1) (h2 : Kp (fun k => w.heap.size + 1 ≤ k ∧ k < w1.heap.size) w1 w2)
    (hN : IsN w.heap.size w2 b0 b1 b2 (sts 0 Ls).tail (fun k => (w.heap.size + 1 ≤ k ∧ k < w1.heap.size) ∨ (w1.heap.size ≤ k ∧ k < w2.heap.size))) (_hl : Ls.length ≤ 1073741824) :
    PI w.heap.size w (w2.alloc (.cells #[.int .i64 (hdS (sts 0 Ls)).k, .int .i64 (hdS (sts 0 Ls)).c, .string (ba (hdS (sts 0 Ls)).s)] 66)) w.heap.size b0 b1 b2 w2.heap.size [] (sts 0 Ls) (fun k => k = w.heap.size) (fun k => (w.heap.size + 1 ≤ k ∧ k < w1.heap.size) ∨ (w1.heap.size ≤ k ∧ k < w2.heap.size)) := by
  have z1 := h1.size
  simp only [World.size_alloc] at z1
  have z2 := h2.size
  have ka : Kp (fun _ => False) w2 (w2.alloc (.cells #[.int .i64 (hdS (sts 0 Ls)).k, .int .i64 (hdS (sts 0 Ls)).c, .string (ba (hdS (sts 0 Ls)).s)] 66)) := (Kp.refl _ _).alloc _
  have k1 : Kp (fun _ => False) (w.alloc (.cells #[.slice none 0 0, .int .i64 0, .bool false, .int .i64 0, .pointer none, .slice none 0 0] 82)) w1 := Kp.ofBelow (by rw [World.size_alloc]; exact h1) _
  refine ⟨heap_alloc_new w2 _, hN.keep ka (fun _ _ => id) (fun _ h => h.elim), ((hW.keep k1 (fun _ _ => id)).keep h2 (fun k hk hh => by omega)).keep ka (fun _ _ => id), ⟨by simp [Wr.new], by simp [Wr.new, Wr.txt], by simp [Wr.new]⟩, fun i hi hh => by omega, ⟨by omega, by omega, by omega⟩, ?_⟩
  have b1' : Below w.heap.size w w1 := ((Below.refl _ w).alloc (Nat.le_refl _) _).trans (h1.mono (by omega))
  exact (b1'.trans (h2.below (by omega) (fun k hk => by omega))).alloc (by omega) _
theorem PI.step {B : Nat} {w wr w3 w4 : World} {b b0 b1 b2 k : Nat} {D S : List St} {s : St} {FW FN : Nat → Prop} (hP : PI B w wr b b0 b1 b2 k D (s :: S) FW FN)
    (hW : IsW B w3 b ((D.foldl Wr.add Wr.new).add s) (fun i => FW i ∨ (wr.heap.size ≤ i ∧ i < w3.heap.size))) (hK : Kp FW wr w3)
    (hN : IsN B w4 b0 b1 b2 S.tail (fun i => FN i ∨ (w3.heap.size + 1 ≤ i ∧ i < w4.heap.size))) (hK4 : Kp FN (w3.alloc (.cells #[.int .i64 s.k, .int .i64 s.c, .string (ba s.s)] 66)) w4) (hS : SB w4 w3.heap.size s) (hF : ∀ i, FN i → B ≤ i ∧ i < wr.heap.size) :
    PI B w (set3 w4 w3.heap.size (.int .i64 (hdS S).k) (.int .i64 (hdS S).c) (.string (ba (hdS S).s))) b b0 b1 b2 w3.heap.size (D ++ [s]) S (fun i => FW i ∨ (wr.heap.size ≤ i ∧ i < w3.heap.size)) (fun i => FN i ∨ (w3.heap.size + 1 ≤ i ∧ i < w4.heap.size)) := by
  have z0 := hP.be.size
  have z3 := hK.size
  have z4 := hK4.size
  simp only [World.size_alloc] at z4
  have hlt := hP.wr_.lt
  have kX : Kp (fun i => i = w3.heap.size) w4 (set3 w4 w3.heap.size (.int .i64 (hdS S).k) (.int .i64 (hdS S).c) (.string (ba (hdS S).s))) := set3_kp (Kp.refl _ _) _ _ _ _ (fun _ => rfl)
  have hB : B ≤ wr.heap.size := Nat.le_trans (hlt b hP.wr_.f).1 (Nat.le_of_lt (hlt b hP.wr_.f).2)
  refine ⟨set3_at hS _ _ _, hN.keep kX (fun i hi e => ?_) (fun i hi => by omega), ?_, ?_, fun i hi hh => ?_, ⟨by omega, fun h => ?_, fun h => ?_⟩, ?_⟩
  · rcases hi with hi | hi
    · have := hF i hi; omega
    · omega
  · rw [List.foldl_append]
    refine ((hW.keep ((Kp.refl (fun _ => False) w3).alloc _) (fun _ _ => id)).keep hK4 (fun i hi hh => ?_)).keep kX (fun i hi e => ?_)
    · rcases hi with hi | hi
      · exact hP.dj i hi hh
      · have := hF i hh; omega
    · rcases hi with hi | hi
      · have := hlt i hi; omega
      · omega
  · rw [List.foldl_append, csum_append, List.length_append]
    have := Wr.small_add _ s _ _ hP.sm
    simpa [csum] using this
  · rcases hi with hi | hi
    · rcases hh with hh | hh
      · exact hP.dj i hi hh
      · have := hlt i hi; omega
    · rcases hh with hh | hh
      · have := hF i hh; omega
      · omega
  · rcases h with h | h
    · have := hlt _ h; omega
    · omega
  · rcases h with h | h
    · have := hF _ h; omega
    · omega
  · have b3 : Below B w w3 := hP.be.trans (hK.below hB (fun i hi => (hlt i hi).1))
    have b4 : Below B w w4 := (b3.alloc (by omega) _).trans (hK4.below (by simp; omega) (fun i hi => (hF i hi).1))
    exact set3_below b4 _ (by omega) _ _ _
set_option maxRecDepth 100000 in
set_option maxHeartbeats 4000000 in
theorem plainOf_any (v : Value) (Ls : List Sp) (w : World) (h : IsL w v (Ls.map raw)) (hb : ∀ k, v.ownBlock = some k → k < w.heap.size) (n : Nat) (hok : Ok 0 n Ls) (hn : n ≤ 1073741824) (ht : tot Ls ≤ 1073741824) (hl : Ls.length ≤ 1073741824) :
    Calls Tryd.prog 28 #[v] w fun e w' => ∃ v', e = .returned v' ∧ w'.ownsRow w.heap.size 53 3 v' (EM.plainOf Ls).length (((EM.plainOf Ls).map raw).flatMap Rw.vals) ∧ Below w.heap.size w w' := by
  have hcs := csum_sts 0 n Ls hok
  have hln := len_sts 0 Ls
  have hpos := hide (pos_sts 0 Ls)
  have H0 := hide (h.keep ((Kp.refl (fun _ => False) w).alloc (.cells #[.slice none 0 0, .int .i64 0, .bool false, .int .i64 0, .pointer none, .slice none 0 0] 82)) (fun _ _ => id))
  have HB := hide hb
  have HW := hide (IsW.new w)
  have HOK := hide hok
  clear h hb hok
  go_enter Tryd.func28, Tryd.ntmps28
  go_wp2_with fail
  refine (stepsOf_any w.heap.size v Ls _ (by simp) H0.out HB.out n HOK.out (by omega) (by omega)).mono ?_
  rintro e w1 ⟨rfl, hN1, hb1⟩
  simp only [World.size_alloc] at hN1 hb1 ⊢
  unfold nextV
  have z1 := hb1.size
  simp only [World.size_alloc] at z1
  have HN1 := hide hN1
  have Hb1 := hide hb1
  clear hN1 hb1
  go_wp2_with fail
  refine (next_any w.heap.size _ _ _ (sts 0 Ls) _ w1 HN1.out (by omega)).mono ?_
  rintro e w2 ⟨rfl, hN2, hK2⟩
  have z2 := hK2.size
  have HP := hide (PI.start (Ls := Ls) HW.out Hb1.out hK2 hN2 hl)
  obtain ⟨b0, eb0⟩ : ∃ x, w.heap.size + 1 + 1 + 1 = x := ⟨_, rfl⟩
  obtain ⟨b2, eb2⟩ : ∃ x, w.heap.size + 1 + 1 = x := ⟨_, rfl⟩
  obtain ⟨b1, eb1⟩ : ∃ x, w.heap.size + 1 = x := ⟨_, rfl⟩
  rw [eb0, eb2, eb1] at HP ⊢
  clear hN2 hK2 HN1 Hb1 HW H0 HB eb0 eb1 eb2
  unfold stV
  go_wp2_with fail
  go_loopg [5] (sts 0 Ls).length (fun g p wr => ∃ (D S : List St) (k : Nat) (FW FN : Nat → Prop), p = .pointer (some ⟨k, 0, none⟩) ∧ S.length = g ∧ Hid (D ++ S = sts 0 Ls) ∧ Hid (PI w.heap.size w wr w.heap.size b0 b1 b2 k D S FW FN))
  case atStart => exact ⟨[], sts 0 Ls, _, _, _, rfl, rfl, rfl, HP⟩
  case round =>
    clear HP
    obtain ⟨D, S, k, FW, FN, rfl, hg, HD, HP⟩ := hrel
    obtain ⟨c0, c1, c2, hkl⟩ := (HP.out).sb.cells
    cases S with
    | nil =>
      simp only [hdS, St.k, St.c, St.s] at c0 c1 c2
      rw [show ba [] = ⟨#[]⟩ from rfl] at c2
      have hDD : D = sts 0 Ls := by rw [← HD.out, List.append_nil]
      have hsm := (HP.out).sm
      rw [hDD] at hsm
      have HE := hide (And.intro hDD hsm)
      clear hsm hDD
      go_wp2_with fail
      refine (edit_any w.heap.size w.heap.size wr _ FW (HP.out).wr_ (HP.out).be.size (by have := (HE.out).2; rw [(HE.out).1]; exact Nat.le_trans this.1 (by omega)) (by have := (HE.out).2; rw [(HE.out).1]; exact Nat.le_trans (Nat.le_trans (Nat.le_add_right _ _) this.2.2) (by omega))).mono ?_
      rintro e w4 ⟨v', rfl, hown, hK⟩
      have HQ := hide (And.intro hown hK)
      clear hown hK
      go_wp2_with fail
      go_ret
      refine ⟨_, rfl, ?_, ?_⟩
      · have := (HQ.out).1
        rw [(HE.out).1] at this
        exact this
      · exact (HP.out).be.trans ((HQ.out).2.below (HP.out).be.size (fun i hi => ((HP.out).wr_.lt i hi).1))
    | cons s S =>
      have hsc : 0 < s.c := hpos.out s (by rw [← HD.out]; simp)
      simp only [hdS] at c0 c1 c2
      have hsc1 : ((s.c : Int) == 0) = false := by simp only [beq_eq_false_iff_ne, ne_eq]; omega
      have hsc2 : ¬ (s.c : Int) = 0 := by omega
      have hcD : csum D + s.c + csum S ≤ n - 0 + tot Ls := by
        have e : csum (D ++ s :: S) = csum D + (s.c + csum S) := by rw [csum_append]; simp [csum]
        rw [HD.out] at e
        omega
      have hlD : D.length + 1 + S.length ≤ 3 * Ls.length := by
        have e := congrArg List.length HD.out
        simp only [List.length_append, List.length_cons] at e
        omega
      go_wp2_with fail
      refine (add_any w.heap.size w.heap.size wr _ FW s (csum D) D.length (HP.out).wr_ (HP.out).be.size (HP.out).sm (by omega) (by omega)).mono ?_
      rintro e w3 ⟨rfl, hW3, hK3⟩
      have z3 := hK3.size
      have S3 : SB w3 k s := hK3.heap (HP.out).sb (HP.out).kb.2.1
      have hN3 := (HP.out).nx.keep hK3 (fun i hi hh => (HP.out).dj i hh hi) (fun i hi => ((HP.out).wr_.lt i hi).1)
      obtain ⟨d0, d1, d2, hkl3⟩ := S3.cells
      have HW3 := hide hW3
      have HK3 := hide hK3
      have HN3 := hide (hN3.keep ((Kp.refl (fun _ => False) w3).alloc (.cells #[.int .i64 s.k, .int .i64 s.c, .string (ba s.s)] 66)) (fun _ _ => id) (fun _ h => h.elim))
      clear hW3 hK3 hN3 c0 c1 c2
      go_wp2_with fail
      refine (next_any w.heap.size b0 b1 b2 S FN _ HN3.out (by simp; have := (HP.out).be.size; omega)).mono ?_
      rintro e w4 ⟨rfl, hN4, hK4⟩
      have hFN : ∀ i, FN i → w.heap.size ≤ i ∧ i < wr.heap.size := by
        obtain ⟨_, _, _, hN, _⟩ := (HP.out).nx
        exact hN.lt
      have z4 := hK4.size
      simp only [World.size_alloc] at z4 hN4
      have S4 : SB w4 w3.heap.size s := hK4.heap (heap_alloc_new w3 _) (fun hf => by have := hFN _ hf; omega)
      obtain ⟨q0, q1, q2, q3⟩ := S4.cells
      have r0 := Lib.frozen_of_heap S4 0
      have r1 := Lib.frozen_of_heap S4 1
      have r2 := Lib.frozen_of_heap S4 2
      have HS4 := hide S4
      have HN4 := hide hN4
      have HK4 := hide hK4
      have HFN := hide hFN
      clear S3 S4 hN4 hK4 hFN d0 d1 d2
      unfold stV
      go_wp2_with fail
      go_roundg S.length
      case measure => simp only [List.length_cons] at hg; omega
      case rel =>
        refine ⟨D ++ [s], S, w3.heap.size, _, _, rfl, rfl, by show D ++ [s] ++ S = _; rw [List.append_assoc]; exact HD.out, PI.step HP.out HW3.out HK3.out HN4.out HK4.out HS4.out HFN.out⟩
end Go.Proofs.YtobdfddpiobhhaaDoor
