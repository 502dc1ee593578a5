/- The document's reader of messages: blanks behind a fault. -/
import Derived.Test.YthdbnafiindgbaaGreatDoorWks
namespace Go.Proofs.YthdbnafiindgbaaGreatDoor
open Go.RowKit
open Wi

set_option maxRecDepth 100000 in
set_option maxHeartbeats 4000000 in
/-- Blanks, wherever a reader stands. -/
theorem wblank_bad (rb : Nat) (s : ByteArray) (i0 : Nat) (e b : Int) (w : World) (hs : s.size ≤ 1073741824) (hi0 : i0 ≤ s.size + 12) (h : RawW w rb s i0 e b) :
    Calls Tryz.prog 10 #[.pointer (some ⟨rb, 0, none⟩)] w fun en w' => en = .returned (.tuple #[]) ∧ (∃ i : Nat, RawW w' rb s i e b) ∧ Ow rb w w' := by
  have HR := hide h
  clear h
  go_enter Tryz.func10, Tryz.ntmps10
  go_wp2_with fail
  go_loopw [] (fun wr => ∃ i : Nat, i ≤ s.size + 12 ∧ Hid (RawW wr rb s i e b) ∧ Hid (Ow rb w wr)) (fun wr => s.size - atW rb wr)
  case atStart => exact ⟨i0, hi0, HR, Kp.refl _ w⟩
  case round =>
    obtain ⟨i, hib, HJ, HK⟩ := hrel
    have hat := (HJ.out).at
    obtain ⟨⟨c0, c1, c2, c3⟩, f1, f2, f3⟩ := (HJ.out).facts
    by_cases hi : i < s.size
    case neg =>
      have i1 : decide (i < s.size) = false := by simp; omega
      have i1' : decide ((i : Int) < (s.size : Int)) = false := by simp; omega
      clear hat
      go_wp2_with fail
      go_quiet (fail)
      go_wp2_with fail
      go_end0
      exact ⟨rfl, ⟨i, (HJ.out).drew _⟩, (HK.out).drew _⟩
    have i1 : decide (i < s.size) = true := by simp; omega
    have i1' : decide ((i : Int) < (s.size : Int)) = true := by simp; omega
    have i2 : (0 : Int) ≤ (i : Int) := Int.natCast_nonneg _
    have i3 : (i : Int) < (s.size : Int) := by omega
    have hbe := isBl_eq s[i]
    cases hb : isBl s[i] with
    | false =>
      rw [hb] at hbe
      simp only [Bool.false_eq, Bool.or_eq_false_iff] at hbe
      obtain ⟨⟨⟨b1, b2⟩, b3⟩, b4⟩ := hbe
      clear hat hb
      go_wp2_with fail
      go_quiet (fail)
      go_wp2_with fail
      go_end0
      exact ⟨rfl, ⟨i, (HJ.out).drew _⟩, (HK.out).drew _⟩
    | true =>
      rw [hb] at hbe
      clear hb
      have hb4 : (((s[i].toNat : Int) == 9) = true) ∨ (((s[i].toNat : Int) == 9) = false ∧ ((s[i].toNat : Int) == 10) = true) ∨ (((s[i].toNat : Int) == 9) = false ∧ ((s[i].toNat : Int) == 10) = false ∧ ((s[i].toNat : Int) == 13) = true) ∨ (((s[i].toNat : Int) == 9) = false ∧ ((s[i].toNat : Int) == 10) = false ∧ ((s[i].toNat : Int) == 13) = false ∧ ((s[i].toNat : Int) == 32) = true) := by
        revert hbe
        cases ((s[i].toNat : Int) == 9) <;> cases ((s[i].toNat : Int) == 10) <;> cases ((s[i].toNat : Int) == 13) <;> cases ((s[i].toNat : Int) == 32) <;> simp
      clear hbe
      rcases hb4 with b1 | ⟨b1, b2⟩ | ⟨b1, b2, b3⟩ | ⟨b1, b2, b3, b4⟩
      all_goals
        go_wp2_with fail
        go_quiet (fail)
        go_wp2_with fail
        have hz := ((HJ.out).drew nq).set1 (((i + 1 : Nat) : Nat) : Int)
        have hz2 := hz.at
        refine ⟨⟨i + 1, by omega, ?_, ?_⟩, ?_⟩
        · show RawW _ _ _ _ _ _
          rw [Int.natCast_add] at hz ⊢
          exact hz
        · exact Ow.set ((HK.out).drew _) 1 _
        · rw [hat]
          rw [Int.natCast_add] at hz2
          first | (erw [hz2]; omega) | omega
end Go.Proofs.YthdbnafiindgbaaGreatDoor
/- The document's reader of messages: Parse. -/
namespace Go.Proofs.YthdbnafiindgbaaGreatDoor
open Go.RowKit
open Wi

/-- What Parse gives: a value, or a fault. -/
def ParC (s : ByteArray) (w : World) (v : Value) (i e : Int) (w' : World) : Prop := Below w.heap.size w w' ∧ match parse (bs s) with
  | .ok j _ => i = 0 ∧ e = 0 ∧ IsJ w' (fun q => w.heap.size ≤ q ∧ q < w'.heap.size) v j
  | .bad en n => v = .pointer none ∧ i = ((s.size - n : Nat) : Int) ∧ e = en ∧ en ≠ 0
theorem pos_all (s : ByteArray) : pos s (bs s) = 0 := by unfold pos; rw [bs_len]; omega

set_option maxRecDepth 100000 in
set_option maxHeartbeats 4000000 in
theorem wparse_any (s : ByteArray) (w : World) (hs : s.size ≤ 1073741824) :
    Calls Tryz.prog 5 #[.string s] w fun en w' => ∃ v i e, en = .returned (.tuple #[v, .int .i64 i, .int .i64 e]) ∧ Hid (ParC s w v i e w') := by
  have HR0 : Hid (RawW (w.alloc (.cells #[.string s, .int .i64 0, .int .i64 0, .int .i64 0] 44)) w.heap.size s (pos s (bs s)) 0 0) := by
    show RawW _ _ _ _ _ _
    rw [pos_all]
    exact heap_alloc_new w _
  have HO0 : Hid (Kp (fun q => w.heap.size ≤ q) w (w.alloc (.cells #[.string s, .int .i64 0, .int .i64 0, .int .i64 0] 44))) := Kp.alloc (Kp.refl _ w) _
  have HV := hide (wvalue_any 40 (Nat.le_refl _))
  obtain ⟨rb, hrb⟩ : ∃ rb, w.heap.size = rb := ⟨_, rfl⟩
  have HBl : Hid (∀ w', Kp (fun q => w.heap.size ≤ q) w w' → Below w.heap.size w w') := fun w' h => h.below (Nat.le_refl _) (fun _ h => h)
  go_enter Tryz.func5, Tryz.ntmps5
  go_wp2_with fail
  have hW : (w.alloc (.cells #[.string s, .int .i64 0, .int .i64 0, .int .i64 0] 44)).heap.size = rb + 1 := by rw [← hrb]; simp
  have HW := hide hW
  have HRB := hide hrb
  rw [hrb] at HR0
  generalize w.alloc (.cells #[.string s, .int .i64 0, .int .i64 0, .int .i64 0] 44) = w0 at *
  clear hW hrb
  have HC : Hid (Calls Tryz.prog 9 #[.pointer (some ⟨rb, 0, none⟩), .int .i64 0] w0 fun en w' => ∃ v, en = .returned v ∧ Hid (GvJ w0 rb s (val 40 (bs s)) v w')) := (HV.out) rb s (bs s) w0 hs (Sfx.all s) HR0.out
  have HT : Hid (∀ wa, Ow rb w0 wa → Below w.heap.size w wa) := fun wa h => (HBl.out) wa (Kp.trans HO0.out h (fun q _ e => by have := HRB.out; omega))
  refine (HC.out).mono ?_
  rintro e w1 ⟨v, rfl, HG⟩
  clear HC HV HR0 HO0 HBl
  have HO := hide (HG.out).1
  cases hval : val 40 (bs s) with
  | bad e n =>
    have hG2 := (HG.out).2
    rw [hval] at hG2
    obtain ⟨i, hi, he, hr⟩ := hG2
    have HP : Hid (parse (bs s) = .bad e n) := by show _ = _; unfold parse; rw [hval]
    clear HG hval
    go_wp2_with fail
    refine (wblank_bad rb s i _ _ w1 hs hi hr).mono ?_
    rintro e' w2 ⟨rfl, ⟨i', hr2⟩, k2⟩
    obtain ⟨⟨c0, c1, c2, c3⟩, f1, f2, f3⟩ := hr2.facts
    have i1 : ((e : Int) == 0) = false := by simp; omega
    have HF : Hid (∀ m, ParC s w (.pointer none) ((s.size - n : Nat) : Int) e (w2.drewN m)) := by
      intro m
      refine ⟨(HT.out) _ (((HO.out).to k2).drew m), ?_⟩
      rw [HP.out]
      exact ⟨rfl, rfl, rfl, he⟩
    clear hr hr2 k2 HO HT HP
    go_wp2_with fail
    go_quiet (fail)
    go_wp2_with fail
    go_ret3
    exact ⟨_, _, _, rfl, (HF.out) _⟩
  | ok j l =>
    have hG2 := (HG.out).2
    rw [hval] at hG2
    obtain ⟨hsl, hr, hj⟩ := hG2
    have HP : Hid (parse (bs s) = match bla l with | [] => .ok j [] | _ :: t => .bad 3 (t.length + 1)) := by show _ = _; simp only [parse, hval]; cases bla l <;> rfl
    have HJ := hide hj
    have HSL := hide hsl
    clear HG hval hj
    go_wp2_with fail
    refine (wblank_any rb s l w1 hs hsl hr).mono ?_
    rintro e' w2 ⟨rfl, hr2, k2⟩
    have HS2 := hide ((HSL.out).mono (bla_sfx l))
    have HR2 := hide hr2
    have HK2 := hide k2
    obtain ⟨⟨c0, c1, c2, c3⟩, f1, f2, f3⟩ := hr2.facts
    clear hr hr2 k2 hsl HSL
    generalize bla l = l2 at *
    cases l2 with
    | nil =>
      have i1 : decide (pos s [] < s.size) = false := by rw [pos_nil]; simp
      have i1' : decide ((pos s [] : Int) < (s.size : Int)) = false := by rw [pos_nil]; simp
      have HF : Hid (ParC s w v 0 0 w2) := by
        refine ⟨(HT.out) _ ((HO.out).to HK2.out), ?_⟩
        rw [HP.out]
        refine ⟨rfl, rfl, ?_⟩
        have k3 : Ow rb w1 w2 := HK2.out
        have a1 := HW.out
        have a2 := HRB.out
        have a3 := k3.size
        exact ((HJ.out).keep k3 (fun q hq e => by omega)).mono (fun q hq => ⟨by omega, by omega⟩)
      clear HO HT HP HJ HK2
      go_wp2_with fail
      go_ret3
      exact ⟨_, _, _, rfl, HF⟩
    | cons c t =>
      have hpx := (HS2.out).pos
      have i1 : decide (pos s (c :: t) < s.size) = true := by simp at hpx ⊢; omega
      have i1' : decide ((pos s (c :: t) : Int) < (s.size : Int)) = true := by simp at hpx ⊢; omega
      have HF : Hid (∀ m2 w9, Ow rb w2 w9 → ParC s w (.pointer none) (pos s (c :: t)) 3 (w9.drewN m2)) := by
        intro m2 w9 k9
        refine ⟨(HT.out) _ ((((HO.out).to HK2.out).to k9).drew m2), ?_⟩
        rw [HP.out]
        exact ⟨rfl, by simp at hpx; omega, rfl, by decide⟩
      clear HO HT HP HJ HK2
      go_wp2_with fail
      refine (wfail_any rb s _ _ 3 _ w2 HR2.out).mono ?_
      rintro e w9 ⟨rfl, q1, q2⟩
      have HFF := hide (fun m => (HF.out) m w9 q2)
      obtain ⟨⟨d0, d1, d2, d3⟩, -⟩ := q1.facts
      clear HF q1 q2 c0 c1 c2 c3 f1 f2 f3
      go_wp2_with fail
      go_quiet (fail)
      go_wp2_with fail
      go_ret3
      exact ⟨_, _, _, rfl, (HFF.out) _⟩
end Go.Proofs.YthdbnafiindgbaaGreatDoor
