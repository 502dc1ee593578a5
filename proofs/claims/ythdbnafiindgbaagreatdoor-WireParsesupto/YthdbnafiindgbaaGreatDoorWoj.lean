/- The program's reader of messages: an escape. -/
import Derived.Test.YthdbnafiindgbaaGreatDoorWog
namespace Go.Proofs.YthdbnafiindgbaaGreatDoor
open Go.RowKit
open Wi

/-- What an escape stands for, and how long it is. -/
def escR (l : List UInt8) : Option (Nat × Nat) :=
  match hx l with
  | none => match shO l with
    | some b => some (b.toNat, 2)
    | none => none
  | some n =>
    if n < 55296 ∨ 57344 ≤ n then some (n, 6)
    else if 56320 ≤ n then none
    else match hx (l.drop 6) with
      | none => none
      | some m => if m < 56320 ∨ 57344 ≤ m then none else some (65536 + (n - 55296) * 1024 + m - 56320, 12)
theorem one_lt {c b : UInt8} (h : one c = some b) : b.toNat < 128 := by
  unfold one at h
  repeat' split at h
  all_goals first | (simp only [Option.some.injEq] at h; subst h; decide) | cases h
theorem one_u : one 117 = none := by decide
theorem enc_small {b : UInt8} (h : b.toNat < 128) : Lib.encodeRune (b.toNat : Int) = [b] := by
  have : ∀ k : Fin 128, Lib.encodeRune (k.val : Int) = [UInt8.ofNat k.val] := by decide
  have := this ⟨b.toNat, h⟩
  simpa using this
theorem escR_esc (l : List UInt8) : esc l = (escR l).map fun p => (Lib.encodeRune (p.1 : Int), p.2) := by
  unfold esc escR
  have hso : (if 1 < l.length then one (l.getD 1 0) else none) = shO l := rfl
  rw [hso]
  cases hh : hx l with
  | none =>
    cases hs : shO l with
    | none => rfl
    | some b =>
      have hb : b.toNat < 128 := by
        unfold shO at hs
        split at hs
        · exact one_lt hs
        · cases hs
      simp only [Option.map_some, enc_small hb]
  | some n =>
    have hs : shO l = none := by
      unfold hx at hh
      split at hh
      · next h =>
        unfold shO
        rw [h.2.2, one_u]
        split <;> rfl
      · cases hh
    rw [hs]
    simp only
    by_cases h1 : n < 55296 ∨ 57344 ≤ n
    · rw [if_pos h1, if_neg (by omega), if_neg (by omega)]; rfl
    rw [if_neg h1]
    by_cases h2 : 56320 ≤ n
    · rw [if_pos h2, if_neg (by omega), if_pos (by omega)]; rfl
    rw [if_neg h2, if_pos (by omega)]
    cases hm : hx (l.drop 6) with
    | none => rfl
    | some m =>
      simp only
      by_cases h3 : m < 56320 ∨ 57344 ≤ m
      · rw [if_pos h3, if_neg (by omega)]; rfl
      · rw [if_neg h3, if_pos (by omega)]; rfl
theorem escR_fit {l : List UInt8} {r k : Nat} (h : escR l = some (r, k)) : r < 1114112 ∧ ¬ (55296 ≤ r ∧ r ≤ 57343) ∧ 2 ≤ k ∧ k ≤ 12 ∧ k ≤ l.length := by
  have hk : 2 ≤ k ∧ k ≤ l.length := by
    have := escR_esc l
    rw [h] at this
    exact esc_len this
  refine ⟨?_, ?_, hk.1, ?_, hk.2⟩
  all_goals
    unfold escR at h
    split at h
    · split at h
      · next hs =>
        simp only [Option.some.injEq, Prod.mk.injEq] at h
        have : r < 128 := by
          unfold shO at hs
          split at hs
          · have := one_lt hs; omega
          · cases hs
        omega
      · cases h
    · next n hn =>
      have hn2 := hx_lt hn
      split at h
      · simp only [Option.some.injEq, Prod.mk.injEq] at h; omega
      split at h
      · cases h
      split at h
      · cases h
      · next m hm =>
        have hm2 := hx_lt hm
        split at h
        · cases h
        · simp only [Option.some.injEq, Prod.mk.injEq] at h; omega
def esV (r : Option (Nat × Nat)) : Value := match r with | some p => .tuple #[.int .i32 (p.1 : Int), .int .i64 (p.2 : Int)] | none => .tuple #[.int .i32 0, .int .i64 0]
set_option maxRecDepth 100000 in
set_option maxHeartbeats 4000000 in
theorem escaped_any (x : ByteArray) (hx0 : x.size ≤ 1073741824) (w : World) (hE : Es w) :
    Calls Tryz.prog 58 #[.string x] w fun e w' => e = .returned (esV (escR (bs x))) ∧ Below w.heap.size w w' := by
  have HU := hide (unit_any x hx0 w hE)
  have HES := hide hE
  have HSH := hide (short_any x hx0)
  have HD : Hid (escR (bs x) = match hx (bs x) with | none => (match shO (bs x) with | some b => some (b.toNat, 2) | none => none) | some n => if n < 55296 ∨ 57344 ≤ n then some (n, 6) else if 56320 ≤ n then none else match hx ((bs x).drop 6) with | none => none | some m => if m < 56320 ∨ 57344 ≤ m then none else some (65536 + (n - 55296) * 1024 + m - 56320, 12)) := rfl
  have HLT : Hid (∀ n, hx (bs x) = some n → n < 65536 ∧ 6 ≤ x.size) := fun n h => ⟨hx_lt h, by
    unfold hx at h; split at h
    · next hh => rw [bs_len] at hh; exact hh.1
    · cases h⟩
  clear hE
  generalize escR (bs x) = R at *
  cases hh : hx (bs x) with
  | none =>
    rw [hh] at HD HU
    clear hh HLT
    have HR : Hid (shV (shO (bs x)) = esV R) := by
      show _ = _
      rw [HD.out]
      cases shO (bs x) <;> rfl
    clear HD
    cases hs : shO (bs x) with
    | none =>
      rw [hs] at HR HSH
      clear hs
      go_enter Tryz.func58, Tryz.ntmps58
      go_wp2_with fail
      refine (HU.out).mono ?_
      rintro e w1 ⟨rfl, hb⟩
      have HB := hide hb
      clear hb HU
      unfold unV
      go_wp2_with fail
      refine ((HSH.out) _).mono ?_
      rintro e w2 ⟨rfl, rfl⟩
      unfold shV
      go_wp2_with fail
      go_ret2
      rw [← HR.out]
      exact ⟨rfl, HB.out⟩
    | some b =>
      rw [hs] at HR HSH
      clear hs
      go_enter Tryz.func58, Tryz.ntmps58
      go_wp2_with fail
      refine (HU.out).mono ?_
      rintro e w1 ⟨rfl, hb⟩
      have HB := hide hb
      clear hb HU
      unfold unV
      go_wp2_with fail
      refine ((HSH.out) _).mono ?_
      rintro e w2 ⟨rfl, rfl⟩
      unfold shV
      go_wp2_with fail
      go_ret2
      rw [← HR.out]
      exact ⟨rfl, HB.out⟩
  | some n =>
    obtain ⟨hn, h6⟩ := (HLT.out) n hh
    have h6i : (6 : Int) ≤ (x.size : Int) := by omega
    rw [hh] at HD HU
    simp only at HD
    clear hh HLT HSH
    have hn0 : (0 : Int) ≤ (n : Int) := Int.natCast_nonneg _
    have hn1 : (n : Int) ≤ 65535 := by omega
    by_cases h1 : n < 55296 ∨ 57344 ≤ n
    · rw [if_pos h1] at HD
      have hc : decide ((n : Int) < 55296) = true ∨ decide ((n : Int) < 55296) = false ∧ decide ((57344 : Int) ≤ (n : Int)) = true := by
        by_cases h : n < 55296
        · exact .inl (by simp; omega)
        · exact .inr ⟨by simp; omega, by simp; omega⟩
      clear h1
      rcases hc with g1 | ⟨g1, g2⟩
      all_goals
        go_enter Tryz.func58, Tryz.ntmps58
        go_wp2_with fail
        refine (HU.out).mono ?_
        rintro e w1 ⟨rfl, hb⟩
        have HB := hide hb
        clear hb HU
        unfold unV
        go_wp2_with fail
        go_ret2
        rw [HD.out]
        exact ⟨rfl, HB.out⟩
    rw [if_neg h1] at HD
    have g1 : decide ((n : Int) < 55296) = false := by simp; omega
    have g2 : decide ((57344 : Int) ≤ (n : Int)) = false := by simp; omega
    by_cases h2 : 56320 ≤ n
    · rw [if_pos h2] at HD
      have g3 : decide ((56320 : Int) ≤ (n : Int)) = true := by simp; omega
      clear h1 h2
      go_enter Tryz.func58, Tryz.ntmps58
      go_wp2_with fail
      refine (HU.out).mono ?_
      rintro e w1 ⟨rfl, hb⟩
      have HB := hide hb
      clear hb HU
      unfold unV
      go_wp2_with fail
      go_ret2
      rw [HD.out]
      exact ⟨rfl, HB.out⟩
    rw [if_neg h2] at HD
    have g3 : decide ((56320 : Int) ≤ (n : Int)) = false := by simp; omega
    have hn2 : (55296 : Int) ≤ (n : Int) := by omega
    have hn3 : (n : Int) < 56320 := by omega
    have HU2 : Hid (∀ W, Below w.heap.size w W → Calls Tryz.prog 67 #[.string (x.extract 6 x.size)] W fun e w' => e = .returned (unV (hx ((bs x).drop 6))) ∧ Below W.heap.size W w') := by
      intro W hW
      have := unit_any (x.extract 6 x.size) (by simp; omega) W ((HES.out).below hW)
      rw [bs_drop] at this
      exact this
    clear h1 h2
    cases hm : hx ((bs x).drop 6) with
    | none =>
      rw [hm] at HD HU2
      simp only at HD
      clear hm
      go_enter Tryz.func58, Tryz.ntmps58
      go_wp2_with fail
      refine (HU.out).mono ?_
      rintro e w1 ⟨rfl, hb⟩
      have HB := hide hb
      clear hb HU
      unfold unV
      go_wp2_with fail
      refine ((HU2.out) _ HB.out).mono ?_
      rintro e w2 ⟨rfl, hb⟩
      have HB2 := hide ((HB.out).trans (hb.mono (HB.out).size))
      clear hb HU2 HB
      unfold unV
      go_wp2_with fail
      go_ret2
      rw [HD.out]
      exact ⟨rfl, HB2.out⟩
    | some m =>
      have hm1 := hx_lt hm
      rw [hm] at HD HU2
      simp only at HD
      clear hm
      have hm0 : (0 : Int) ≤ (m : Int) := Int.natCast_nonneg _
      have hm2 : (m : Int) ≤ 65535 := by omega
      by_cases h3 : m < 56320 ∨ 57344 ≤ m
      · rw [if_pos h3] at HD
        have hc : decide ((m : Int) < 56320) = true ∨ decide ((m : Int) < 56320) = false ∧ decide ((57344 : Int) ≤ (m : Int)) = true := by
          by_cases h : m < 56320
          · exact .inl (by simp; omega)
          · exact .inr ⟨by simp; omega, by simp; omega⟩
        clear h3
        rcases hc with q1 | ⟨q1, q2⟩
        all_goals
          go_enter Tryz.func58, Tryz.ntmps58
          go_wp2_with fail
          refine (HU.out).mono ?_
          rintro e w1 ⟨rfl, hb⟩
          have HB := hide hb
          clear hb HU
          unfold unV
          go_wp2_with fail
          refine ((HU2.out) _ HB.out).mono ?_
          rintro e w2 ⟨rfl, hb⟩
          have HB2 := hide ((HB.out).trans (hb.mono (HB.out).size))
          clear hb HU2 HB
          unfold unV
          go_wp2_with fail
          go_ret2
          rw [HD.out]
          exact ⟨rfl, HB2.out⟩
      rw [if_neg h3] at HD
      have q1 : decide ((m : Int) < 56320) = false := by simp; omega
      have q2 : decide ((57344 : Int) ≤ (m : Int)) = false := by simp; omega
      have HV : Hid (((65536 + (n - 55296) * 1024 + m - 56320 : Nat) : Int) = 65536 + ((n : Int) - 55296) * 1024 + (m : Int) - 56320) := by show _ = _; omega
      have hm3 : (56320 : Int) ≤ (m : Int) := by omega
      have hm4 : (m : Int) < 57344 := by omega
      clear h3
      go_enter Tryz.func58, Tryz.ntmps58
      go_wp2_with fail
      refine (HU.out).mono ?_
      rintro e w1 ⟨rfl, hb⟩
      have HB := hide hb
      clear hb HU
      unfold unV
      go_wp2_with fail
      refine ((HU2.out) _ HB.out).mono ?_
      rintro e w2 ⟨rfl, hb⟩
      have HB2 := hide ((HB.out).trans (hb.mono (HB.out).size))
      clear hb HU2 HB
      unfold unV
      go_wp2_with fail
      go_ret2
      rw [HD.out]
      refine ⟨?_, HB2.out⟩
      show _ = Ending.returned (.tuple #[.int .i32 _, .int .i64 12])
      rw [HV.out]
      rfl
end Go.Proofs.YthdbnafiindgbaaGreatDoor
