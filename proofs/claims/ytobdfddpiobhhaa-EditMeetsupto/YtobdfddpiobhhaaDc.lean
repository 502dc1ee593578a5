/- Two hands: Merge. -/
import Derived.Test.YtobdfddpiobhhaaDb
namespace Go.Proofs.Ytobdfddpiobhhaa
open Go.RowKit
open EM
set_option maxHeartbeats 1000000 in
theorem merge_no1 (n : Nat) (v u : Value) (L : List Rw) (w : World) (h : IsL w v L) (hf : flt n L ≠ 0) :
    Calls Try.prog 6 #[.int .i64 n, v, u] w fun e w' => e = .returned (.tuple #[.slice none 0 0, .slice none 0 0, errV (flt n L)]) ∧ Below w.heap.size w w' := by
  have H := hide h
  have HF := hide (show errV (flt n L) = .iface 51 (.int .i64 (flt n L)) from if_neg hf)
  clear h
  go_enter Try.func6, Try.ntmps6
  go_wp2_with fail
  refine (fault_any n v L w H.out).mono ?_
  rintro e w1 ⟨rfl, hb1⟩
  rw [HF.out]
  go_wp2_with fail
  go_ret3
  exact ⟨by rw [HF.out]; rfl, hb1⟩
set_option maxHeartbeats 1000000 in
theorem merge_no2 (n : Nat) (v u : Value) (L K : List Rw) (w : World) (h : IsL w v L) (hu : IsL w u K) (hf0 : flt n L = 0) (hf : flt n K ≠ 0) :
    Calls Try.prog 6 #[.int .i64 n, v, u] w fun e w' => e = .returned (.tuple #[.slice none 0 0, .slice none 0 0, errV (flt n K)]) ∧ Below w.heap.size w w' := by
  have H := hide h
  have HU := hide hu
  have HF := hide (show errV (flt n K) = .iface 51 (.int .i64 (flt n K)) from if_neg hf)
  have HF0 := hide (show errV (flt n L) = .nilIface by rw [hf0]; rfl)
  clear h hu hf0
  go_enter Try.func6, Try.ntmps6
  go_wp2_with fail
  refine (fault_any n v _ w H.out).mono ?_
  rintro e w1 ⟨rfl, hb1⟩
  rw [HF0.out]
  go_wp2_with fail
  refine (fault_any n u K w1 ((HU.out).below hb1)).mono ?_
  rintro e w3 ⟨rfl, hb3⟩
  rw [HF.out]
  go_wp2_with fail
  go_ret3
  exact ⟨by rw [HF.out]; rfl, hb1.trans (hb3.mono hb1.size)⟩
set_option maxRecDepth 100000 in
set_option maxHeartbeats 4000000 in
theorem merge_yes (x : By) (n : Nat) (v u : Value) (Ls Ks : List Sp) (w : World) (h : IsL w v (Ls.map raw)) (hu : IsL w u (Ks.map raw)) (hvb : ∀ k, v.ownBlock = some k → k < w.heap.size) (hub : ∀ k, u.ownBlock = some k → k < w.heap.size) (hx : x.length = n) (hn : n ≤ 1048576) (ht : tot Ls ≤ 1048576) (htk : tot Ks ≤ 1048576) (hok : Ok 0 n Ls) (hokk : Ok 0 n Ks) :
    Calls Try.prog 6 #[.int .i64 n, v, u] w fun e w' => ∃ v1 v2 P Q, e = .returned (.tuple #[v1, v2, .nilIface]) ∧ w'.ownsRow w.heap.size 32 3 v1 P.length ((P.map raw).flatMap Rw.vals) ∧ w'.ownsRow w.heap.size 32 3 v2 Q.length ((Q.map raw).flatMap Rw.vals) ∧
      (Ok 0 (app x 0 Ks).length P ∧ app (app x 0 Ks) 0 P = bothG x Ls Ks ∧ Ok 0 (app x 0 Ls).length Q ∧ app (app x 0 Ls) 0 Q = bothG x Ls Ks) ∧ (P.length ≤ 8388608 ∧ tot P ≤ 8388608) ∧ (Q.length ≤ 8388608 ∧ tot Q ≤ 8388608) ∧ Below w.heap.size w w' := by
  have HMI := hide (MInv.start (x := x) (L := Ls) (K := Ks) (by rw [hx]; exact hok) (by rw [hx]; exact hokk))
  have c1 := csum_sts 0 n Ls hok
  have c2 := csum_sts 0 n Ks hokk
  have hKK : csum (sts 0 Ls) + csum (sts 0 Ks) ≤ 8388608 := by omega
  have H := hide h
  have HU := hide hu
  have HVB := hide hvb
  have HUB := hide hub
  have HF := hide (show errV (flt n (Ks.map raw)) = .nilIface by rw [flt_Ok hokk]; rfl)
  have HF0 := hide (show errV (flt n (Ls.map raw)) = .nilIface by rw [flt_Ok hok]; rfl)
  have HOK := hide hok
  have HOKK := hide hokk
  clear h hu hok hvb hub hokk c1 c2
  go_enter Try.func6, Try.ntmps6
  go_wp2_with fail
  refine (fault_any n v _ w H.out).mono ?_
  rintro e w1 ⟨rfl, hb1⟩
  rw [HF0.out]
  go_wp2_with fail
  refine (fault_any n u _ w1 ((HU.out).below hb1)).mono ?_
  rintro e w3 ⟨rfl, hb3⟩
  rw [HF.out]
  have B3 : Below w.heap.size w w3 := hb1.trans (hb3.mono hb1.size)
  go_wp2_with fail
  refine (cursorOf_any w.heap.size v Ls w3 B3.size ((H.out).below B3) HVB.out n HOK.out (by omega) (by omega)).mono ?_
  rintro e w4 ⟨c, rfl, hC, hb4⟩
  have B4 : Below w.heap.size w w4 := B3.trans (hb4.mono B3.size)
  have HC := hide hC
  clear hC
  go_wp2_with fail
  refine (cursorOf_any w.heap.size u Ks w4 B4.size ((HU.out).below B4) HUB.out n HOKK.out (by omega) (by omega)).mono ?_
  rintro e w5 ⟨d, rfl, hD, hb5⟩
  have B5 : Below w.heap.size w w5 := B4.trans (hb5.mono B4.size)
  have HC5 := hide ((HC.out).keep (Kp.ofBelow hb5 (fun _ => False)) (fun _ _ => id) (fun _ h => h.elim))
  have HD := hide hD
  clear hD HC
  go_wp2_with fail
  refine (merged_any w.heap.size w5 c d _ _ _ _ x _ _ _ HC5.out HD.out (fun k h1 h2 => by omega) B5.size 8388608 hKK (by omega) HMI.out).mono ?_
  rintro e w6 ⟨v1, v2, U, V, p, R, rfl, ho1, ho2, hmi, hs1, hs2, hb6⟩
  have hdn := hmi.done
  have q1 := spans_small U _ _ _ hs1.1 hs1.2
  have q2 := spans_small V _ _ _ hs2.1 hs2.2
  have HQ := hide (And.intro (And.intro ho1 ho2) (And.intro hdn (And.intro q1 q2)))
  clear ho1 ho2 hmi hs1 hs2 hdn q1 q2
  go_wp2_with fail
  go_ret3
  exact ⟨v1, v2, U.spans, V.spans, rfl, (HQ.out).1.1, (HQ.out).1.2, (HQ.out).2.1, (HQ.out).2.2.1, (HQ.out).2.2.2, B5.trans hb6⟩
end Go.Proofs.Ytobdfddpiobhhaa
