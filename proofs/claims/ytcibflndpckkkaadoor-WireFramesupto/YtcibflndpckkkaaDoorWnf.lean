/- A Reader of frames: what a chunk has of a body. -/
import Derived.Test.YtcibflndpckkkaaDoorWnd
import Derived.Test.YtcibflndpckkkaaDoorWne
namespace Go.Proofs.YtcibflndpckkkaaDoor
open Go.RowKit
open Wi
variable {w w' : World} {B : Nat}

theorem wrap64_id {x : Int} (h1 : -9223372036854775808 ≤ x) (h2 : x ≤ 9223372036854775807) : IntKind.i64.wrap x = x := by
  rw [IntKind.wrap_i64]; omega
set_option maxRecDepth 100000 in
set_option maxHeartbeats 2000000 in
/-- takeBody: so many bytes of a chunk go into the body. -/
theorem takeBody_any {b : List UInt8} {size : Int} (c : List UInt8) (n : Nat) (h : IsRd w B (.body b size)) (hn : (n : Int) = min (c.length : Int) (size - b.length)) (hl : b.length + c.length ≤ 1073741824) (hs : size ≤ 10000000000) :
    Calls Tryd.prog 26 #[.pointer (some ⟨B, 0, none⟩), .string (ba c)] w fun e w' => e = .returned (.string (ba (c.drop n))) ∧ IsRd w' B (.body (b ++ c.take n) size) ∧ Fk B w w' := by
  obtain ⟨lv, told, p, bv, hr, h0⟩ := h
  obtain ⟨c0, c1, c2, c3, c4, c5, c6⟩ := hr.cells
  have HL : Hid (∀ W, Below w.heap.size w W → Calls Tryd.prog 41 #[.pointer (some ⟨B, 4, none⟩)] W fun e w' => e = .returned (.int .i64 (b.length : Int)) ∧ w' = W) := fun W hW => wlen_any (rdH _ _ _ _ _) B b p bv _ (hr.below hW).bd
  have hnc : n ≤ c.length := by omega
  have HR := hide hr
  have HSZ : Hid ((ba c).size = c.length) := ba_size c
  have HE1 : Hid ((ba c).extract 0 n = ba (c.take n)) := by show _ = _; apply bs_inj; rw [bs_take, bs_ba, bs_ba]
  have HE2 : Hid ((ba c).extract n (ba c).size = ba (c.drop n)) := by show _ = _; apply bs_inj; rw [bs_drop, bs_ba, bs_ba]
  have HW : Hid (∀ W, Below w.heap.size w W → Calls Tryd.prog 31 #[.pointer (some ⟨B, 4, none⟩), .string (ba (c.take n))] W fun e w' => (∃ v, e = .returned v) ∧ (∃ p' bv', RdS w' B lv [] told size true p' bv' (b ++ c.take n) .nilIface) ∧ Fk B w w') := by
    intro W hW
    have hr' := hr.below hW
    refine (wstr_any (rdH _ _ _ _ _) (c.take n) B b p bv W hr'.bd (by simp; omega)).mono ?_
    rintro e w' ⟨hv, hw⟩
    obtain ⟨h1, h2⟩ := hr'.wrote hw.out
    exact ⟨hv, h1, (Fk.below hW).trans h2⟩
  rw [← HE1.out] at HW
  rw [← HE2.out]
  have hsz : (ba c).size ≤ 1073741824 := by have := HSZ.out; omega
  have hns : n ≤ (ba c).size := by have := HSZ.out; omega
  have HN : Hid ((n : Int) = min ((ba c).size : Int) (size - b.length)) := by show _ = _; rw [HSZ.out]; exact hn
  have hbl : b.length ≤ 1073741824 := by omega
  clear hr hn hnc HE1 HE2 hl HSZ
  generalize ba c = X at *
  generalize hbn : b.length = bn at *
  have hwr : IntKind.i64.wrap (size - (bn : Int)) = size - (bn : Int) := wrap64_id (by omega) (by omega)
  have i1 : (0 : Int) ≤ (n : Int) := by omega
  have i2 : (n : Int) ≤ (X.size : Int) := by omega
  go_enter Tryd.func26, Tryd.ntmps26
  go_wp2_with fail
  go_region_held3 (fun w' => w'.cell? ⟨B, 2, none⟩ = some (.int .i64 size)) (first | (with_reducible exact c2) | exact c2) ((go_at_call 41; refine ((HL.out) _ ?_).mono ?_; (first | exact (Below.refl _ w).drew | exact Below.refl _ w | exact belowN (Below.refl _ w) _); rintro e w2 ⟨rfl, rfl⟩))
  rw [← HN.out]
  clear hwr
  go_wp2_with fail
  go_region_held3 (fun _ => True) (trivial) ((go_at_call 31; refine ((HW.out) _ ?_).mono ?_; (first | exact (Below.refl _ w).drew | exact Below.refl _ w | exact belowN (Below.refl _ w) _ | exact ((Below.refl _ w).drew).drew); rintro e w3 ⟨⟨v, rfl⟩, ⟨p', bv', h3⟩, k3⟩))
  go_wp2_with fail
  go_ret
  exact ⟨rfl, ⟨lv, told, p', bv', h3, h0⟩, k3⟩
end Go.Proofs.YtcibflndpckkkaaDoor
