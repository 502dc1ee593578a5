/- One edit for two: Compose, and the law EditComposes. -/
import Derived.Test.YtobdfddpiobhhaaDoorCe
import Derived.Test.YtobdfddpiobhhaaDoorLa
namespace Go.Proofs.YtobdfddpiobhhaaDoor
open Go.RowKit
open EM
theorem spans_small (W : Wr) (N M K : Nat) (h1 : Wr.small W N M) (h2 : tot W.l + (Wr.txt W).length ≤ K) : W.spans.length ≤ M ∧ tot W.spans ≤ K := by
  obtain ⟨_, _, i3⟩ := h1
  unfold Wr.spans Wr.fin
  cases ho : W.o with
  | none => simp only [ho, Option.isSome_none, Bool.false_eq_true, if_false] at i3 ⊢; omega
  | some q =>
    obtain ⟨f, x⟩ := q
    have e1 : Wr.txt W = x := by simp [Wr.txt, ho]
    rw [e1] at h2
    simp only [ho, Option.isSome_some, if_true, tot_snoc, List.length_append, List.length_cons, List.length_nil] at i3 ⊢
    omega
set_option maxHeartbeats 1000000 in
theorem compose_no1 (n : Nat) (v u : Value) (L : List Rw) (w : World) (h : IsL w v L) (hf : flt n L ≠ 0) :
    Calls Tryd.prog 17 #[.int .i64 n, v, u] w fun e w' => e = .returned (.tuple #[.slice none 0 0, errV (flt n L)]) ∧ Below w.heap.size w w' := by
  have H := hide h
  have HF := hide (show errV (flt n L) = .iface 55 (.int .i64 (flt n L)) from if_neg hf)
  clear h
  go_enter Tryd.func17, Tryd.ntmps17
  go_wp2_with fail
  refine (fault_any n v L w H.out).mono ?_
  rintro e w1 ⟨rfl, hb1⟩
  rw [HF.out]
  go_wp2_with fail
  go_ret2
  exact ⟨by rw [HF.out]; rfl, hb1⟩
set_option maxHeartbeats 1000000 in
theorem compose_no2 (n : Nat) (v u : Value) (Ls : List Sp) (K : List Rw) (w : World) (h : IsL w v (Ls.map raw)) (hu : IsL w u K) (hn : n ≤ 1048576) (ht : tot Ls ≤ 1048576) (hok : Ok 0 n Ls) (m : Nat) (hm : n - drops Ls + tot Ls = m) (hf : flt m K ≠ 0) :
    Calls Tryd.prog 17 #[.int .i64 n, v, u] w fun e w' => e = .returned (.tuple #[.slice none 0 0, errV (flt m K)]) ∧ Below w.heap.size w w' := by
  have H := hide h
  have HU := hide hu
  have HF := hide (show errV (flt m K) = .iface 55 (.int .i64 (flt m K)) from if_neg hf)
  have HF0 := hide (show errV (flt n (Ls.map raw)) = .nilIface by rw [flt_Ok hok]; rfl)
  have HOK := hide hok
  have HMM := hide hm
  clear h hu hok hm
  go_enter Tryd.func17, Tryd.ntmps17
  go_wp2_with fail
  refine (fault_any n v _ w H.out).mono ?_
  rintro e w1 ⟨rfl, hb1⟩
  rw [HF0.out]
  have H1 := hide ((H.out).below hb1)
  go_wp2_with fail
  refine (lengthAfter_any n v Ls w1 H1.out (by omega) (by omega) HOK.out).mono ?_
  rintro e w2 ⟨rfl, hb2⟩
  rw [HMM.out]
  have B2 : Below w.heap.size w w2 := hb1.trans (hb2.mono hb1.size)
  go_wp2_with fail
  refine (fault_any m u K w2 ((HU.out).below B2)).mono ?_
  rintro e w3 ⟨rfl, hb3⟩
  rw [HF.out]
  go_wp2_with fail
  go_ret2
  exact ⟨by rw [HF.out]; rfl, B2.trans (hb3.mono B2.size)⟩
set_option maxRecDepth 100000 in
set_option maxHeartbeats 4000000 in
theorem compose_yes (x : By) (n : Nat) (v u : Value) (Ls Ks : List Sp) (w : World) (h : IsL w v (Ls.map raw)) (hu : IsL w u (Ks.map raw)) (hvb : ∀ k, v.ownBlock = some k → k < w.heap.size) (hub : ∀ k, u.ownBlock = some k → k < w.heap.size) (hx : x.length = n) (hn : n ≤ 1048576) (ht : tot Ls ≤ 1048576) (htk : tot Ks ≤ 1048576) (hok : Ok 0 n Ls) (m : Nat) (hm : n - drops Ls + tot Ls = m) (hokk : Ok 0 m Ks) :
    Calls Tryd.prog 17 #[.int .i64 n, v, u] w fun e w' => ∃ v' P, e = .returned (.tuple #[v', .nilIface]) ∧ w'.ownsRow w.heap.size 53 3 v' P.length ((P.map raw).flatMap Rw.vals) ∧ Ok 0 n P ∧ app x 0 P = app (app x 0 Ls) 0 Ks ∧ P.length ≤ 8388608 ∧ tot P ≤ 8388608 ∧ Below w.heap.size w w' := by
  have hal := app_length x 0 Ls (by rw [hx]; exact hok)
  have hdl := drops_le 0 n Ls hok
  have hml : (app x 0 Ls).length = m := by omega
  have HCI := hide (CInv.start (x := x) (L := Ls) (K := Ks) (by rw [hx]; exact hok) (by rw [hml]; exact hokk))
  have c1 := csum_sts 0 n Ls hok
  have c2 := csum_sts 0 m Ks hokk
  have hKK : csum (sts 0 Ls) + csum (sts 0 Ks) ≤ 8388608 := by omega
  have H := hide h
  have HU := hide hu
  have HVB := hide hvb
  have HUB := hide hub
  have HF := hide (show errV (flt m (Ks.map raw)) = .nilIface by rw [flt_Ok hokk]; rfl)
  have HF0 := hide (show errV (flt n (Ls.map raw)) = .nilIface by rw [flt_Ok hok]; rfl)
  have HOK := hide hok
  have HOKK := hide hokk
  have HMM := hide hm
  have hmb : m ≤ 1099511627776 := by omega
  clear h hu hok hm hvb hub hokk hal hdl hml c1 c2
  go_enter Tryd.func17, Tryd.ntmps17
  go_wp2_with fail
  refine (fault_any n v _ w H.out).mono ?_
  rintro e w1 ⟨rfl, hb1⟩
  rw [HF0.out]
  have H1 := hide ((H.out).below hb1)
  go_wp2_with fail
  refine (lengthAfter_any n v Ls w1 H1.out (by omega) (by omega) HOK.out).mono ?_
  rintro e w2 ⟨rfl, hb2⟩
  rw [HMM.out]
  have B2 : Below w.heap.size w w2 := hb1.trans (hb2.mono hb1.size)
  go_wp2_with fail
  refine (fault_any m u _ w2 ((HU.out).below B2)).mono ?_
  rintro e w3 ⟨rfl, hb3⟩
  rw [HF.out]
  have B3 : Below w.heap.size w w3 := B2.trans (hb3.mono B2.size)
  go_wp2_with fail
  refine (cursorOf_any w.heap.size v Ls w3 B3.size ((H.out).below B3) HVB.out n HOK.out (by omega) (by omega)).mono ?_
  rintro e w4 ⟨c, rfl, hC, hb4⟩
  have B4 : Below w.heap.size w w4 := B3.trans (hb4.mono B3.size)
  have HC := hide hC
  clear hC
  go_wp2_with fail
  refine (cursorOf_any w.heap.size u Ks w4 B4.size ((HU.out).below B4) HUB.out m HOKK.out hmb (by omega)).mono ?_
  rintro e w5 ⟨d, rfl, hD, hb5⟩
  have B5 : Below w.heap.size w w5 := B4.trans (hb5.mono B4.size)
  have HC5 := hide ((HC.out).keep (Kp.ofBelow hb5 (fun _ => False)) (fun _ _ => id) (fun _ h => h.elim))
  have HD := hide hD
  clear hD HC
  go_wp2_with fail
  refine (composed_any w.heap.size w5 c d _ _ _ _ x _ HC5.out HD.out (fun k h1 h2 => by omega) B5.size 8388608 hKK (by omega) HCI.out).mono ?_
  rintro e w6 ⟨v', W, rfl, hown, hci, hsm, htt, hb6⟩
  have hdn := hci.done
  have hss := spans_small W _ _ _ hsm htt
  have HQ := hide (And.intro hown (And.intro hdn hss))
  clear hown hci hsm htt hdn hss
  go_wp2_with fail
  go_ret2
  refine ⟨v', W.spans, rfl, (HQ.out).1, by have := (HQ.out).2.1.1; rw [hx] at this; exact this, (HQ.out).2.1.2, (HQ.out).2.2.1, (HQ.out).2.2.2, B5.trans hb6⟩
end Go.Proofs.YtobdfddpiobhhaaDoor
