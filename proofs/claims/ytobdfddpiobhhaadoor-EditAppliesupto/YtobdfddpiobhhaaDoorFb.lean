/- The document's fault of spans; spans as the document has them. -/
import Derived.Test.YtobdfddpiobhhaaDoorFa
import Derived.OwnWalk
import Derived.Deep.QuietTactic
import Derived.BigQuiet
import Derived.Deep.RegionHeld3
import Derived.Deep.AppendLies
namespace Go.Proofs.YtobdfddpiobhhaaDoor
open Go.RowKit
open EM
theorem first_good {n : Int} {L : List Rw} {r : Rw} (hr : L[0]? = some r) (h : L.any (badR n) = false) : ordB 0 L = ordB r.t (L.drop 1) := by
  have hb : badR n r = false := by simpa using (List.any_eq_false.1 h) r (List.mem_of_getElem? hr)
  have := drop_ord (e := 0) hr
  simp only [List.drop_zero] at this
  rw [this]
  simp only [badR, Bool.or_eq_false_iff, decide_eq_false_iff_not] at hb
  simp [hb.1.1]
set_option maxHeartbeats 1000000 in
theorem refFault_any (n : Int) (v : Value) (L : List Rw) (w : World) (h : IsL w v L) :
    Calls Tryd.prog 9 #[.int .i64 n, v] w fun e w' => e = .returned (.int .i64 (flt n L)) ∧ Below w.heap.size w w' := by
  have H := hide h
  obtain ⟨ao, cap, rfl, hc, hl, hcm, hx⟩ := h
  clear hx
  by_cases hn : n < 0
  · have HE := hide (flt_neg L hn)
    go_enter Tryd.func9, Tryd.ntmps9
    go_wp2_with fail
    go_ret
    rw [HE.out]
    exact ⟨rfl, Below.refl _ _⟩
  have HN := hide hn
  go_enter Tryd.func9, Tryd.ntmps9
  go_wp2_with fail
  go_loopw [5] (fun i wr => ∃ k : Nat, k ≤ L.length ∧ i = .int .i64 k ∧ Hid ((L.take k).any (badR n) = false) ∧ Below w.heap.size w wr) (fun i _ => L.length - (intOf i).toNat)
  case atStart => exact ⟨0, Nat.zero_le _, rfl, rfl, Below.refl _ _⟩
  case round =>
    obtain ⟨k, hk, rfl, HT, hB⟩ := hrel
    by_cases hlt : k < L.length
    · obtain ⟨b, o, r, rfl, hr, q1, q2, q3, hbl⟩ := (H.out).get hB hlt
      have HR := hide hr
      clear hr
      have fin : badR n r = true → flt n L = 1 := fun hb => flt_bad HR.out hb
      have HF := hide fin
      clear fin
      by_cases g1 : r.f < 0
      · have d1 : decide (r.f < 0) = true := by simpa using g1
        go_wp2_with fail
        go_quiet (fail)
        go_wp2_with fail
        go_ret
        rw [HF.out (by simp [badR, g1])]
        exact ⟨rfl, belowN hB _⟩
      have d1 : decide (r.f < 0) = false := by simpa using g1
      by_cases g2 : r.t < r.f
      · have d2 : decide (r.t < r.f) = true := by simpa using g2
        go_wp2_with fail
        go_quiet (fail)
        go_wp2_with fail
        go_ret
        rw [HF.out (by simp [badR, g2])]
        exact ⟨rfl, belowN hB _⟩
      have d2 : decide (r.t < r.f) = false := by simpa using g2
      by_cases g3 : n < r.t
      · have d3 : decide (n < r.t) = true := by simpa using g3
        go_wp2_with fail
        go_quiet (fail)
        go_wp2_with fail
        go_ret
        rw [HF.out (by simp [badR, g3])]
        exact ⟨rfl, belowN hB _⟩
      have d3 : decide (n < r.t) = false := by simpa using g3
      have HG := hide (show badR n r = false by simp [badR, g1, g2, g3])
      go_wp2_with fail
      go_quiet (fail)
      go_wp2_with fail
      refine ⟨⟨k + 1, by omega, by go_num, take_any HR.out HT.out HG.out, belowN hB _⟩, ?_⟩
      simp [intOf]; omega
    · have hkl : k = L.length := by omega
      have HA := hide (show L.any (badR n) = false by have := HT.out; rwa [hkl, List.take_of_length_le (Nat.le_refl _)] at this)
      clear hkl
      go_wp2_with fail
      go_loopw [6] (fun i wr => ∃ k : Nat, (k < L.length ∨ k = 0) ∧ i = .int .i64 (k + 1) ∧ Hid (∀ r, L[k]? = some r → ordB 0 L = ordB r.t (L.drop (k + 1))) ∧ Below w.heap.size w wr) (fun i _ => L.length - (intOf i).toNat)
      case atStart => exact ⟨0, .inr rfl, rfl, fun r hr => first_good hr HA.out, hB⟩
      case round =>
        obtain ⟨k, hk, rfl, HO, hB⟩ := hrel
        by_cases hlt : k + 1 < L.length
        · obtain ⟨b, o, r, rfl, hr, q1, q2, q3, hbl⟩ := (H.out).get hB hlt
          obtain ⟨b', o', s, e, hs, p1, p2, p3, _⟩ := (H.out).get hB (show k < L.length by omega)
          cases e
          have HD := hide (drop_ord (e := s.t) hr)
          have HO2 := hide ((HO.out) s hs)
          have HR := hide hr
          clear hr hs
          have z1 : (k : Int) + 1 < L.length := by omega
          have z2 : (k : Int) < L.length := by omega
          by_cases g1 : r.f < s.t
          · have HQ := hide (flt_ord (by have := HN.out; omega) HA.out (by rw [HO2.out, HD.out]; simp [g1]))
            go_wp2_with fail
            go_quiet (fail)
            go_wp2_with fail
            go_ret
            rw [HQ.out]
            exact ⟨rfl, belowN hB _⟩
          · have HQ := hide (show ordB 0 L = ordB r.t (L.drop (k + 1 + 1)) by rw [HO2.out, HD.out]; simp [g1])
            go_wp2_with fail
            go_quiet (fail)
            go_wp2_with fail
            refine ⟨⟨k + 1, .inl hlt, by go_num, fun r' hr' => ?_, belowN hB _⟩, ?_⟩
            · rw [HR.out] at hr'; cases hr'; exact HQ.out
            · simp [intOf]; omega
        · have HQ := hide (flt_ok (by have := HN.out; omega) HA.out (by
            rcases Nat.eq_zero_or_pos L.length with h0 | h0
            · rw [List.length_eq_zero_iff.1 h0]; rfl
            · by_cases h1 : k < L.length
              · rw [(HO.out) _ (List.getElem?_eq_getElem h1), List.drop_eq_nil_of_le (by omega)]; rfl
              · omega))
          go_wp2_with fail
          go_ret
          rw [HQ.out]
          exact ⟨rfl, hB⟩

end Go.Proofs.YtobdfddpiobhhaaDoor
