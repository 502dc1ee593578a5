/- The writer of plain spans puts bytes in; and gives what it has made. -/
import Derived.Test.YtobdfddpiobhhaaWc
namespace Go.Proofs.Ytobdfddpiobhhaa
open Go.RowKit
open EM
theorem writeW (B b : Nat) (w : World) (W : Wr) (F : Nat → Prop) (t : By) (h : IsW B w b W F) (f : Nat) (s : By) (ho : W.o = some (f, s)) (ht : 0 < t.length) (hlen : s.length + t.length ≤ 140737488355328) (hB : B ≤ w.heap.size) :
    Calls Try.prog 11 #[.pointer (some ⟨b, 4, none⟩), .string (ba t)] w fun e w' => e = .returned (.tuple #[.int .i64 (ba t).size, .nilIface]) ∧ IsW B w' b (W.say t) (fun k => F k ∨ (w.heap.size ≤ k ∧ k < w'.heap.size)) ∧ Kp F w w' := by
  obtain ⟨⟨sv, p, bv, fr, h1, h2, h3, h4, h5, h6, h7⟩, f0, lt⟩ := h
  have e3 : Wr.txt W = s := by simp [Wr.txt, ho]
  have e4 : W.say t = ⟨W.l, W.a, some (f, s ++ t)⟩ := by unfold Wr.say; simp [ho]
  have e5 : Wr.opn W = true := by simp [Wr.opn, ho]
  rw [e3] at h3
  refine (writeIn B b w s (ba t) h1 h3 (by rw [ba_size]; exact ht) (by rw [ba_size]; exact hlen) hB (lt b f0).1).mono ?_
  rintro e w' ⟨rfl, bv', g1, g2, g3, g4⟩
  have hK : Kp F w w' := g4.mono (fun i _ hi => by rcases hi with rfl | hi; exact f0; exact (h7 i hi).1)
  have hbl := h1.lt
  refine ⟨rfl, ?_, hK⟩
  rw [e4]
  rw [bs_ba] at g2
  refine ⟨⟨sv, _, bv', fr, by rw [e5] at g1; exact g1, g4.owns h2 (fun k hk hi => ?_), g2, fun f' s' h => ?_, h5, fun k hk => ⟨.inl (h6 k hk).1, (h6 k hk).2.1, fun hb => ?_⟩, fun k hk => ?_⟩, .inl f0, fun k hk => ?_⟩
  · rcases hi with hi | hi
    · exact (h6 k hk).2.1 hi
    · exact (h6 k hk).2.2 hi
  · simp only [Option.some.injEq, Prod.mk.injEq] at h
    rw [← h.1]; exact h4 f s ho
  · rcases g3 k hb with h | h
    · exact (h6 k hk).2.2 h
    · have := (lt k (h6 k hk).1).2; omega
  · rcases g3 k hk with h | h
    · exact ⟨.inl (h7 k h).1, (h7 k h).2⟩
    · refine ⟨.inr ⟨h, ?_⟩, by omega⟩
      rcases g2 with ⟨e, _⟩ | ⟨_, _, ho', _⟩
      · cases e
      · exact (ho'.lt k hk).2
  · have := hK.size
    rcases hk with hk | hk
    · have := lt k hk; omega
    · omega
theorem add_put_eq (W : Wr) (t : By) (ht : 0 < t.length) (fr : Nat) (hf : ∀ f s, W.o = some (f, s) → fr = f) : W.add (.put t) = if fr = W.a then W.beg.say t else W.fin.beg.say t := by
  have e0 : W.add (.put t) = (match W.o with
    | none => W.beg.say t
    | some (f, _) => if W.a = f then W.say t else (W.fin.beg).say t) := by unfold Wr.add; rw [if_neg (by simp only [St.c]; omega)]; try rfl
  rw [e0]
  cases ho : W.o with
  | none =>
    have : W.fin = W := by unfold Wr.fin; simp [ho]
    simp only []
    rw [this]; split <;> rfl
  | some q =>
    obtain ⟨f, s⟩ := q
    have hfr := hf f s ho
    subst hfr
    have : W.beg = W := by unfold Wr.beg; simp [ho]
    simp only []
    by_cases e : fr = W.a
    · rw [if_pos e, if_pos e.symm, this]
    · rw [if_neg e, if_neg (fun h => e h.symm)]

theorem Kp.drewN {S : Nat → Prop} {a w : World} (h : Kp S a w) (n : Nat) : Kp S a (w.drewN n) := ⟨h.os, h.tape, h.output, h.size, h.block⟩
set_option maxHeartbeats 2000000 in
set_option maxRecDepth 100000 in
theorem add_put_any (B b : Nat) (w : World) (W : Wr) (F : Nat → Prop) (t : By) (h : IsW B w b W F) (hB : B ≤ w.heap.size) (ht : 0 < t.length) (ha : W.a ≤ 1099511627776) (hl : W.l.length ≤ 1099511627776) (hlen : (Wr.txt W).length + t.length ≤ 140737488355328) :
    Calls Try.prog 24 #[.pointer (some ⟨b, 0, none⟩), stV (.put t)] w fun e w' => e = .returned (.tuple #[]) ∧ IsW B w' b (W.add (.put t)) (fun k => F k ∨ (w.heap.size ≤ k ∧ k < w'.heap.size)) ∧ Kp F w w' := by
  have HLT := hide h.lt
  have hbF := hide h.f
  have hbl0 := (h.lt b h.f).2
  have H0 := h.keep ((Kp.refl (fun _ => False) w).alloc (.cells #[.int .i64 1, .int .i64 t.length, .string (ba t)] 43)) (fun _ _ => id)
  have K0 := hide (show Kp F w (w.alloc (.cells #[.int .i64 1, .int .i64 t.length, .string (ba t)] 43)) from (Kp.refl _ w).alloc _)
  obtain ⟨c1, ⟨fr, c3, hf4, hf5⟩, f1, hbl⟩ := H0.facts
  have hn1 : ((t.length : Int) == 0) = false := by simp only [beq_eq_false_iff_ne, ne_eq]; omega
  have hn2 : ¬ (t.length : Int) = 0 := by omega
  have hS0 := hide (show SB (w.alloc (.cells #[.int .i64 1, .int .i64 t.length, .string (ba t)] 43)) w.heap.size (.put t) from heap_alloc_new w _)
  have HA := hide (add_put_eq W t ht fr hf4)
  have H0 := hide H0
  have hbn : ¬ b = w.heap.size := by omega
  have hlb : ∀ f s, W.beg.o = some (f, s) → s.length + t.length ≤ 140737488355328 := by
    intro f s hs
    cases ho : W.o with
    | none => unfold Wr.beg at hs; simp only [ho, Option.some.injEq, Prod.mk.injEq] at hs; rw [← hs.2, List.length_nil]; omega
    | some q =>
      obtain ⟨f', s'⟩ := q
      unfold Wr.beg at hs
      simp only [ho, Option.some.injEq, Prod.mk.injEq] at hs
      have : Wr.txt W = s' := by simp [Wr.txt, ho]
      rw [this, hs.2] at hlen
      exact hlen
  have hlf : ∀ f s, W.fin.beg.o = some (f, s) → s.length + t.length ≤ 140737488355328 := by
    intro f s hs
    have e := W.fin_o
    unfold Wr.beg at hs
    simp only [e, Option.some.injEq, Prod.mk.injEq] at hs
    rw [← hs.2, List.length_nil]
    omega
  have HLB := hide hlb
  have HLF := hide hlf
  clear h hf4 hlen hlb hlf
  show Calls Try.prog 24 #[.pointer (some ⟨b, 0, none⟩), .agg #[.int .i64 1, .int .i64 t.length, .string (ba t)]] w _
  by_cases hfr : fr = W.a
  · have hfe : ((W.a : Int) == (fr : Int)) = true := by simp; omega
    rw [HA.out, if_pos hfr]
    clear HA HLF
    subst hfr
    go_enter Try.func24, Try.ntmps24
    go_wp2_with fail
    go_quiet (fail)
    go_wp2_with fail
    refine (begin_any B b _ W F ((H0.out).keep ((Kp.refl (fun _ => False) _).drewN nq) (fun _ _ => id)) ha).mono ?_
    rintro e w2 ⟨rfl, hW2, hK2, hsz⟩
    have hsz2 : w2.heap.size = w.heap.size + 1 := hsz.trans (by show (w.alloc _).heap.size = _; simp)
    have S1 : SB ((w.alloc (.cells #[.int .i64 1, .int .i64 t.length, .string (ba t)] 43)).drewN nq) w.heap.size (.put t) := hS0.out
    clear hsz

    obtain ⟨f', s', ho'⟩ := (W).beg_o
    have S2 : SB w2 w.heap.size (.put t) := hK2.heap S1 (fun hf => by omega)
    obtain ⟨_, _, s2, s3⟩ := S2.cells
    simp only [St.s] at s2
    have HW2 := hide hW2
    have HK2 := hide hK2
    have hlen2 := hide (HLB.out f' s' ho')
    have HO := hide ho'
    have hBw2 : B ≤ w2.heap.size := by omega
    clear hW2 hK2 ho'
    go_wp2_with fail
    go_region_held3 (fun w' => w'.cell? ⟨w.heap.size, 2, none⟩ = some (.string (ba t)))
      (first | go_keep | exact t2)
      ((go_at_call 11; refine (writeW B b _ (W).beg (F) t (show IsW B _ b _ _ from ((HW2.out).keep ((Kp.refl (fun _ => False) _).drew) (fun _ _ => id))) f' s' HO.out ht hlen2.out (by exact hBw2)).mono ?_; rintro e w3 ⟨rfl, hW3, hK3⟩; have S3 : SB w3 w.heap.size (.put t) := hK3.heap S2 (fun hf => by have := (HLT.out w.heap.size hf).2; omega); have t2 := S3.cells.2.2.1; simp only [St.s] at t2; have HW3 := hide hW3; have HK3 := hide hK3; clear hW3 hK3))
    all_goals go_wp2_with fail
    all_goals go_end0
    have hz3 := (HK3.out).size
    have hz3' : w2.heap.size ≤ w3.heap.size := hz3
    refine ⟨rfl, (HW3.out).more (fun k hk => ?_) (fun k hk => ?_), ?_⟩
    · rcases hk with hk | hk
      · exact .inl hk
      · exact .inr (by have : w2.heap.size ≤ k := hk.1; omega)
    · rcases hk with hk | hk
      · have := HLT.out k hk; omega
      · omega
    · exact ((((K0.out).drewN nq).trans HK2.out (fun _ _ h => by rw [h]; exact hbF.out)).trans (T := F) (show Kp F w2 w3 from ⟨(HK3.out).os, (HK3.out).tape, (HK3.out).output, (HK3.out).size, (HK3.out).block⟩) (fun _ _ h => h))
  · rw [HA.out, if_neg hfr]
    clear HA HLB
    have hfe : ((W.a : Int) == (fr : Int)) = false := by simp; omega
    have hfe2 : ¬ (W.a : Int) = (fr : Int) := by omega
    go_enter Try.func24, Try.ntmps24
    go_wp2_with fail
    go_quiet (fail)
    go_wp2_with fail
    refine (end_any B b _ W F ((H0.out).keep ((Kp.refl (fun _ => False) _).drewN nq) (fun _ _ => id)) (by show B ≤ (w.alloc _).heap.size; simp; omega) ha hl).mono ?_
    rintro e w1 ⟨rfl, hW1, hK1⟩
    have hsz1 : w.heap.size + 1 ≤ w1.heap.size := by have := hK1.size; have e : ((w.alloc (.cells #[.int .i64 1, .int .i64 t.length, .string (ba t)] 43)).drewN nq).heap.size = w.heap.size + 1 := by show (w.alloc _).heap.size = _; simp
                                                     omega
    have hW1' : IsW B w1 b W.fin (fun k => F k ∨ (w.heap.size + 1 ≤ k ∧ k < w1.heap.size)) := by
      have e : ((w.alloc (.cells #[.int .i64 1, .int .i64 t.length, .string (ba t)] 43)).drewN nq).heap.size = w.heap.size + 1 := by show (w.alloc _).heap.size = _; simp
      rw [e] at hW1; exact hW1
    have S1 : SB w1 w.heap.size (.put t) := hK1.heap (show SB ((w.alloc (.cells #[.int .i64 1, .int .i64 t.length, .string (ba t)] 43)).drewN nq) w.heap.size (.put t) from hS0.out) (fun hf => by have := (HLT.out w.heap.size hf).2; omega)
    have HK1 := hide hK1
    have HW1 := hide hW1'
    clear hW1 hK1 hW1'
    go_wp2_with fail
    refine (begin_any B b _ W.fin _ HW1.out (by rw [W.fin_a]; exact ha)).mono ?_
    rintro e w2 ⟨rfl, hW2, hK2, hsz2⟩

    obtain ⟨f', s', ho'⟩ := (W.fin).beg_o
    have S2 : SB w2 w.heap.size (.put t) := hK2.heap S1 (fun hf => by omega)
    obtain ⟨_, _, s2, s3⟩ := S2.cells
    simp only [St.s] at s2
    have HW2 := hide hW2
    have HK2 := hide hK2
    have hlen2 := hide (HLF.out f' s' ho')
    have HO := hide ho'
    have hBw2 : B ≤ w2.heap.size := by omega
    clear hW2 hK2 ho'
    go_wp2_with fail
    go_region_held3 (fun w' => w'.cell? ⟨w.heap.size, 2, none⟩ = some (.string (ba t)))
      (first | go_keep | exact t2)
      ((go_at_call 11; refine (writeW B b _ (W.fin).beg (fun k => F k ∨ (w.heap.size + 1 ≤ k ∧ k < w1.heap.size)) t (show IsW B _ b _ _ from ((HW2.out).keep ((Kp.refl (fun _ => False) _).drew) (fun _ _ => id))) f' s' HO.out ht hlen2.out (by exact hBw2)).mono ?_; rintro e w3 ⟨rfl, hW3, hK3⟩; have S3 : SB w3 w.heap.size (.put t) := hK3.heap S2 (fun hf => by rcases hf with hf | hf; (have := (HLT.out w.heap.size hf).2; omega); omega); have t2 := S3.cells.2.2.1; simp only [St.s] at t2; have HW3 := hide hW3; have HK3 := hide hK3; clear hW3 hK3))
    all_goals go_wp2_with fail
    all_goals go_end0
    have hz3 := (HK3.out).size
    have hz3' : w2.heap.size ≤ w3.heap.size := hz3
    refine ⟨rfl, (HW3.out).more (fun k hk => ?_) (fun k hk => ?_), ?_⟩
    · rcases hk with hk | hk
      · exact (by rcases hk with hk | hk; exact .inl hk; exact .inr (by omega))
      · exact .inr (by have : w2.heap.size ≤ k := hk.1; omega)
    · rcases hk with hk | hk
      · have := HLT.out k hk; omega
      · omega
    · exact (((((K0.out).drewN nq).trans HK1.out (fun _ _ h => h)).trans HK2.out (fun _ _ h => by rw [h]; exact hbF.out)).trans (T := fun k => F k ∨ (w.heap.size + 1 ≤ k ∧ k < w1.heap.size)) (show Kp _ w2 w3 from ⟨(HK3.out).os, (HK3.out).tape, (HK3.out).output, (HK3.out).size, (HK3.out).block⟩) (fun i hi h => by rcases h with h | h; exact h; omega))
end Go.Proofs.Ytobdfddpiobhhaa
