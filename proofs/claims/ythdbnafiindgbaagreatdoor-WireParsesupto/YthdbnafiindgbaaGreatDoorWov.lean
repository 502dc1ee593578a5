/- The program's reader of messages: a value. (written by wip/tools/wire_gen/genov.py) -/
import Derived.Test.YthdbnafiindgbaaGreatDoorWou
namespace Go.Proofs.YthdbnafiindgbaaGreatDoor
open Go.RowKit
open Wi

set_option maxRecDepth 100000 in
set_option maxHeartbeats 4000000 in
theorem oval_bad (d : Nat) (sb : Nat) (s : ByteArray) (l : List UInt8) (w : World) (hs : s.size ≤ 1073741824) (hl : Sfx s l) (h : RawS w sb s (pos s l) (40 - (d : Int))) (hE : Es w) (hne : sb ≠ 1) (hb : ∀ c t, bla l = c :: t → ¬ c = 110 ∧ ¬ c = 116 ∧ ¬ c = 102 ∧ ¬ c = 45 ∧ isDig c = false ∧ ¬ c = 34 ∧ ¬ c = 91 ∧ ¬ c = 123) :
    Calls Tryz.prog 15 #[.pointer (some ⟨sb, 0, none⟩)] w fun en w' => OkV w sb s (40 - (d : Int)) (val d l) en w' := by
  generalize 40 - (d : Int) = dd at *
  have hal := (Below.refl _ w).alloc (Nat.le_refl _) (.cells #[.int .i64 0, .int .i64 0, .string ⟨#[]⟩, .slice none 0 0, .slice none 0 0] 25)
  have HQ0 : Hid (QV w sb s dd w.heap.size l (.int .i64 0) (.int .i64 0) (.string ⟨#[]⟩) (.slice none 0 0) (.slice none 0 0) (w.alloc (.cells #[.int .i64 0, .int .i64 0, .string ⟨#[]⟩, .slice none 0 0, .slice none 0 0] 25))) := ⟨h.below hal, heap_alloc_new w _, Ow.ofBelow sb hal, hE.below hal, rfl, h.lt, hE.lt, hne⟩
  have HB := hide (oblanks_any sb s l _ _ hs hl (HQ0.out).src)
  have HL1 := hide (hl.mono (bla_sfx l))
  have hps := (HL1.out).pos
  clear h hE hl hal hne
  have HD : Hid (val d l = .bad 3 (bla l).length) := by
    show _ = _
    rw [val_brk, valW]
    cases hx : bla l with
    | nil => rfl
    | cons c t =>
      obtain ⟨n1, n2, n3, n4, n5, n6, n7, n8⟩ := hb c t hx
      simp only
      rw [if_neg n1, if_neg n2, if_neg n3, if_neg (fun e => by rcases e with e | e; exact n4 e; rw [n5] at e; cases e), if_neg n6, if_neg (fun e => by rcases e with e | e; exact n7 e; exact n8 e)]
      rfl
  have hq : ∀ k : UInt8, k ≠ 0 → (∀ c t, bla l = c :: t → ¬ c = k) → ((hdB (bla l) : Int) == (k.toNat : Int)) = false := by
    intro k hk h
    rw [beq_eq_false_iff_ne]; intro e
    cases hx : bla l with
    | nil =>
      rw [hx] at e
      have e2 : (0 : Nat) = k.toNat := by have : ((0 : Nat) : Int) = (k.toNat : Int) := e; omega
      exact hk (UInt8.toNat_inj.1 e2.symm)
    | cons c t =>
      rw [hx] at e
      have e2 : c.toNat = k.toNat := by have : ((c.toNat : Nat) : Int) = (k.toNat : Int) := e; omega
      exact h c t hx (UInt8.toNat_inj.1 e2)
  have n1 : ((hdB (bla l) : Int) == 110) = false := hq 110 (by decide) (fun c t e => (hb c t e).1)
  have n2 : ((hdB (bla l) : Int) == 116) = false := hq 116 (by decide) (fun c t e => (hb c t e).2.1)
  have n3 : ((hdB (bla l) : Int) == 102) = false := hq 102 (by decide) (fun c t e => (hb c t e).2.2.1)
  have n4 : ((hdB (bla l) : Int) == 45) = false := hq 45 (by decide) (fun c t e => (hb c t e).2.2.2.1)
  have n6 : ((hdB (bla l) : Int) == 34) = false := hq 34 (by decide) (fun c t e => (hb c t e).2.2.2.2.2.1)
  have n7 : ((hdB (bla l) : Int) == 91) = false := hq 91 (by decide) (fun c t e => (hb c t e).2.2.2.2.2.2.1)
  have n8 : ((hdB (bla l) : Int) == 123) = false := hq 123 (by decide) (fun c t e => (hb c t e).2.2.2.2.2.2.2)
  have hdg : dgH (bla l) = false := by
    cases hx : bla l with
    | nil => rfl
    | cons c t => exact (hb c t hx).2.2.2.2.1
  have HI := hide (isDig_hd (bla l))
  rw [hdg] at HI
  clear hdg hq hb
  go_enter Tryz.func15, Tryz.ntmps15
  go_wp2_with fail
  refine (HB.out).mono ?_
  rintro en w1 ⟨rfl, r1, k1⟩
  have HQ1 := hide ((HQ0.out).on k1 r1)
  clear r1 k1 HB HQ0
  generalize hVV : w.heap.size = V at *
  have HN := hide (onext_any sb s _ _ w1 HL1.out (HQ1.out).src)
  go_wp2_with fail
  refine (HN.out).mono ?_
  rintro en w2 ⟨rfl, m, rfl⟩
  have HQ2 := hide ((HQ1.out).on (Ow.ofBelow sb (belowN (Below.refl _ w1) m)) (((HQ1.out).src).drew m))
  clear HN HQ1
  generalize w1.drewN m = w2 at *
  obtain ⟨a0, a1, a2, a3, a4, a5⟩ := (HQ2.out).vb.cells
  have hV2 : V < w2.heap.size := heap_lt (HQ2.out).vb
  have HSP := hide (ostop_any sb s _ dd w2 (HQ2.out).src)
  have HF : Hid (OkV w sb s dd (val d l) (flt (pos s (bla l) : Nat) 3) w2) := by
    show OkV _ _ _ _ _ _ _
    rw [HD.out]
    refine ⟨(HQ2.out).ow, ?_⟩
    show flt _ _ = flt _ _
    rw [show s.size - (bla l).length = pos s (bla l) by omega]; rfl
  clear HD HQ2 a0 a1 a2 a3 a4 a5
  generalize hdB (bla l) = hv at *
  go_wp2_with fail
  refine ((HI.out) _).mono ?_
  rintro en w3 ⟨rfl, rfl⟩
  go_wp2_with fail
  refine (HSP.out).mono ?_
  rintro en w4 ⟨rfl, rfl⟩
  go_wp2_with fail
  exact ⟨rfl, HF.out⟩
/-- A value is read, if lists and maps are. -/
theorem oval_any (d : Nat) (hLC : LC d) (hPC : PC d) : VC d := by
  intro sb s l w hs hl h hE hne
  by_cases hx : ∀ c t, bla l = c :: t → ¬ c = 110 ∧ ¬ c = 116 ∧ ¬ c = 102 ∧ ¬ c = 45 ∧ isDig c = false ∧ ¬ c = 34 ∧ ¬ c = 91 ∧ ¬ c = 123
  · exact oval_bad d sb s l w hs hl h hE hne hx
  · cases hb : bla l with
    | nil => exact absurd (fun c t e => by rw [hb] at e; cases e) hx
    | cons c t =>
      by_cases n1 : c = 110
      · subst n1; exact oval_null d sb s l t w hs hl h hE hne hb
      by_cases n2 : c = 116
      · subst n2; exact oval_true d sb s l t w hs hl h hE hne hb
      by_cases n3 : c = 102
      · subst n3; exact oval_false d sb s l t w hs hl h hE hne hb
      by_cases n4 : c = 45 ∨ isDig c = true
      · exact oval_num d sb s l c t w hs hl h hE hne hb n4
      by_cases n6 : c = 34
      · subst n6; exact oval_text d sb s l t w hs hl h hE hne hb
      by_cases n7 : c = 91
      · subst n7; exact oval_list d sb s l t w hs hl h hE hne hLC hb
      by_cases n8 : c = 123
      · subst n8; exact oval_map d sb s l t w hs hl h hE hne hPC hb
      exfalso
      apply hx
      intro c' t' e
      rw [hb] at e
      cases e
      refine ⟨n1, n2, n3, fun e => n4 (.inl e), ?_, n6, n7, n8⟩
      cases hi : isDig c with
      | false => rfl
      | true => exact absurd (.inr hi) n4
end Go.Proofs.YthdbnafiindgbaaGreatDoor
