/- The program's reader of messages: an escape is read. -/
import Derived.Test.YthdbnafiindgbaaGreatDoorWoj
import Derived.Deep.RegionHeld3
namespace Go.Proofs.YthdbnafiindgbaaGreatDoor
open Go.RowKit
open Wi

/-- What comes of an escape. -/
def OkE (w : World) (sb : Nat) (s : ByteArray) (d : Int) (l : List UInt8) (en : Ending) (w' : World) : Prop :=
  Ow sb w w' ∧ match escR l with
  | some p => en = .returned (.int .i32 (p.1 : Int)) ∧ RawS w' sb s (pos s (l.drop p.2)) d
  | none => en = flt (pos s l : Nat) 3
set_option maxRecDepth 100000 in
set_option maxHeartbeats 4000000 in
theorem oescape_any (sb : Nat) (s : ByteArray) (l : List UInt8) (d : Int) (w : World) (hs : s.size ≤ 1073741824) (hl : Sfx s l) (h : RawS w sb s (pos s l) d) (hE : Es w) :
    Calls Tryz.prog 44 #[.pointer (some ⟨sb, 0, none⟩)] w fun en w' => OkE w sb s d l en w' := by
  have HR := hide h
  obtain ⟨⟨c0, c1, c2⟩, f1, -⟩ := h.facts
  have hle := hl.le
  have hp0 := hl.pos
  have j1 : (0 : Int) ≤ (pos s l : Int) := Int.natCast_nonneg _
  have j2 : (pos s l : Int) ≤ (s.size : Int) := by omega
  have HA5 : Hid (∀ W, Below w.heap.size w W → Calls Tryz.prog 58 #[.string (s.extract (pos s l) s.size)] W fun e w' => e = .returned (esV (escR l)) ∧ Below w.heap.size w w' ∧ (w'.cell? ⟨sb, 0, none⟩ = some (.string s) ∧ w'.cell? ⟨sb, 1, none⟩ = some (.int .i64 (pos s l : Nat)))) := by
    intro W hW
    have := escaped_any (s.extract (pos s l) s.size) (by simp; omega) W (hE.below hW)
    rw [bs_sfx hl] at this
    refine this.mono ?_
    rintro e w' ⟨rfl, hb⟩
    have hb2 := hW.trans (hb.mono hW.size)
    have hf := (h.below hb2).facts.1
    exact ⟨rfl, hb2, hf.1, hf.2.1⟩
  have hc5 : w.cell? ⟨sb, 0, none⟩ = some (.string s) ∧ w.cell? ⟨sb, 1, none⟩ = some (.int .i64 (pos s l : Nat)) := ⟨c0, c1⟩
  have HF : Hid (∀ r k, escR l = some (r, k) → r < 1114112 ∧ ¬ (55296 ≤ r ∧ r ≤ 57343) ∧ 2 ≤ k ∧ k ≤ 12 ∧ k ≤ l.length) := fun r k h => escR_fit h
  have HPD : Hid (∀ k, k ≤ l.length → pos s (l.drop k) = pos s l + k) := fun k hk => pos_drop hl hk
  unfold OkE
  clear h hl hE
  cases hh : escR l with
  | none =>
    rw [hh] at HA5
    unfold esV at HA5
    clear hh HF HPD
    go_enter Tryz.func44, Tryz.ntmps44
    go_wp2_with fail
    go_region_held3 (fun w' => w'.cell? ⟨sb, 0, none⟩ = some (.string s) ∧ w'.cell? ⟨sb, 1, none⟩ = some (.int .i64 (pos s l : Nat))) (first | (with_reducible exact hc5) | (with_reducible exact hc6) | exact hc5) ((go_at_call 58; refine ((HA5.out) _ ?_).mono ?_; (first | exact (Below.refl _ w).drew | exact Below.refl _ w | exact belowN (Below.refl _ w) _); rintro e w6 ⟨rfl, hb6, hc6⟩))
    have HST := hide (ostop_any sb s _ d w6 ((HR.out).below hb6))
    go_wp2_with fail
    refine (HST.out).mono ?_
    rintro e w7 ⟨rfl, rfl⟩
    go_wp2_with fail
    exact ⟨rfl, Ow.ofBelow sb hb6, rfl⟩
  | some p =>
    obtain ⟨r, k⟩ := p
    obtain ⟨r1, r2, k1, k2, k3⟩ := (HF.out) r k hh
    have HP := hide ((HPD.out) k k3)
    rw [hh] at HA5
    unfold esV at HA5
    simp only at HA5
    have k4 : ((k : Int) == 0) = false := by rw [beq_eq_false_iff_ne]; omega
    have k5 : ¬ (k : Int) = 0 := by omega
    have k6 : (0 : Int) ≤ (k : Int) := by omega
    have k7 : (k : Int) ≤ 12 := by omega
    clear hh HF HPD r2
    go_enter Tryz.func44, Tryz.ntmps44
    go_wp2_with fail
    go_region_held3 (fun w' => w'.cell? ⟨sb, 0, none⟩ = some (.string s) ∧ w'.cell? ⟨sb, 1, none⟩ = some (.int .i64 (pos s l : Nat))) (first | (with_reducible exact hc5) | (with_reducible exact hc6) | exact hc5) ((go_at_call 58; refine ((HA5.out) _ ?_).mono ?_; (first | exact (Below.refl _ w).drew | exact Below.refl _ w | exact belowN (Below.refl _ w) _); rintro e w6 ⟨rfl, hb6, hc6⟩))
    have HR6 := hide ((HR.out).below hb6)
    obtain ⟨⟨c0, c1, c2⟩, f1, -⟩ := (HR6.out).facts
    go_wp2_with fail
    go_ret
    have := (HR6.out).set1 ((pos s (l.drop k) : Nat) : Int)
    rw [HP.out, Int.natCast_add] at this
    refine ⟨Ow.set (Ow.ofBelow sb hb6) 1 _, rfl, ?_⟩
    show RawS _ _ _ ((pos s (l.drop k) : Nat) : Int) _
    rw [HP.out, Int.natCast_add]; exact this
end Go.Proofs.YthdbnafiindgbaaGreatDoor
