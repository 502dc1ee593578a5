/- How many bytes an edit makes of n. -/
import Derived.Test.YtobdfddpiobhhaaHa
namespace Go.Proofs.Ytobdfddpiobhhaa
open Go.RowKit
open EM
def drops (L : List Sp) : Nat := (L.map fun c => c.t - c.f).sum
theorem app_length (x : By) (a : Nat) (L : List Sp) (h : Ok a x.length L) : (app x a L).length + drops L = (x.length - a) + tot L := by
  induction L generalizing a with
  | nil => simp [app, drops, tot]
  | cons c L ih =>
    have i := ih c.t h.2.2
    have h1 := h.1
    have h2 := h.2.1
    have h3 := h.2.2.le
    have e2 : tot (c :: L) = c.s.length + tot L := by simp [tot]
    have e3 : drops (c :: L) = (c.t - c.f) + drops L := by simp [drops]
    simp only [app, List.length_append, List.length_take, List.length_drop, e2, e3]
    omega
theorem drops_le (a n : Nat) (L : List Sp) (h : Ok a n L) : drops L ≤ n - a := by
  induction L generalizing a with
  | nil => simp [drops]
  | cons c L ih =>
    have i := ih c.t h.2.2
    have h1 := h.1
    have h2 := h.2.1
    have h3 := h.2.2.le
    have e3 : drops (c :: L) = (c.t - c.f) + drops L := by simp [drops]
    omega
theorem drops_snoc (L : List Sp) (c : Sp) : drops (L ++ [c]) = drops L + (c.t - c.f) := by simp [drops]
theorem tot_snoc' (L : List Sp) (c : Sp) : tot (L ++ [c]) = tot L + c.s.length := by simp [tot]
theorem drops_take (L : List Sp) (k : Nat) : drops (L.take k) ≤ drops L := by
  have : drops L = drops (L.take k) + drops (L.drop k) := by
    unfold drops
    rw [← List.sum_append, ← List.map_append, List.take_append_drop]
  omega
set_option maxHeartbeats 2000000 in
theorem lengthAfter_any (n : Nat) (v : Value) (Ls : List Sp) (w : World) (h : IsL w v (Ls.map raw)) (hn : n ≤ 1099511627776) (ht : tot Ls ≤ 1099511627776) (hok : Ok 0 n Ls) :
    Calls Try.prog 9 #[.int .i64 n, v] w fun e w' => e = .returned (.int .i64 ((n - drops Ls + tot Ls : Nat) : Int)) ∧ Below w.heap.size w w' := by
  have H := hide h
  obtain ⟨ao, cap, rfl, hc, hl', hcm, hx⟩ := h
  clear hx
  have hll : (Ls.map raw).length = Ls.length := by simp
  rw [hll] at hc hl' H ⊢
  have hdl := drops_le 0 n Ls hok
  have HO := hide hok
  clear hll hok
  go_enter Try.func9, Try.ntmps9
  go_wp2_with fail
  go_loopw [0, 11] (fun m i wr => ∃ k : Nat, k ≤ Ls.length ∧ i = .int .i64 k ∧ m = .int .i64 ((n - drops (Ls.take k) : Nat) : Int) ∧ Below w.heap.size w wr) (fun _ i _ => Ls.length - (intOf i).toNat)
  case atStart => exact ⟨0, Nat.zero_le _, rfl, by simp [drops], Below.refl _ _⟩
  case round =>
    obtain ⟨k, hk, rfl, rfl, hB⟩ := hrel
    by_cases hlt : k < Ls.length
    · obtain ⟨b, o, r, rfl, hr, q1, q2, q3, hbl⟩ := (H.out).get hB (show k < (Ls.map raw).length by simpa using hlt)
      obtain ⟨c, hcc, rfl⟩ := raw_get hr
      simp only [raw] at q1 q2 q3
      obtain ⟨hft, htn⟩ := Ok_get HO.out hcc
      have e1 : drops (Ls.take (k + 1)) = drops (Ls.take k) + (c.t - c.f) := by rw [take_snoc hcc, drops_snoc]
      have e2 := drops_take Ls (k + 1)
      have g1 : ((n - drops (Ls.take k) : Nat) : Int) - ((c.t : Int) - (c.f : Int)) = ((n - drops (Ls.take (k + 1)) : Nat) : Int) := by omega
      have HG := hide g1
      obtain ⟨m, em⟩ : ∃ m, n - drops (Ls.take k) = m := ⟨_, rfl⟩
      rw [em] at HG ⊢
      have y1 : (m : Int) ≤ 1099511627776 := by omega
      have y2 : (c.t : Int) ≤ 1099511627776 := by omega
      have y3 : (c.f : Int) ≤ 1099511627776 := by omega
      clear hr hcc g1 e1 e2 em
      go_wp2_with fail
      exact ⟨⟨k + 1, by omega, by go_num, by rw [HG.out], hB.alloc hB.size _⟩, by simp [intOf]; omega⟩
    · have hkl : k = Ls.length := by omega
      have hm : n - drops (Ls.take k) = n - drops Ls + tot (Ls.take 0) := by rw [hkl, List.take_of_length_le (Nat.le_refl _)]; simp [tot]
      rw [hm]
      clear hm
      go_wp2_with fail
      go_loopw [0, 25] (fun m i wr => ∃ k : Nat, k ≤ Ls.length ∧ i = .int .i64 k ∧ m = .int .i64 ((n - drops Ls + tot (Ls.take k) : Nat) : Int) ∧ Below w.heap.size w wr) (fun _ i _ => Ls.length - (intOf i).toNat)
      case atStart => exact ⟨0, Nat.zero_le _, rfl, rfl, hB⟩
      case round =>
        obtain ⟨k, hk, rfl, rfl, hB⟩ := hrel
        by_cases hlt : k < Ls.length
        · obtain ⟨b, o, r, rfl, hr, q1, q2, q3, hbl⟩ := (H.out).get hB (show k < (Ls.map raw).length by simpa using hlt)
          obtain ⟨c, hcc, rfl⟩ := raw_get hr
          simp only [raw] at q1 q2 q3
          have e1 : tot (Ls.take (k + 1)) = tot (Ls.take k) + c.s.length := by rw [take_snoc hcc, tot_snoc']
          have e2 := tot_take Ls (k + 1)
          have g1 : ((n - drops Ls + tot (Ls.take k) : Nat) : Int) + (c.s.length : Int) = ((n - drops Ls + tot (Ls.take (k + 1)) : Nat) : Int) := by omega
          have HG := hide g1
          obtain ⟨m, em⟩ : ∃ m, n - drops Ls + tot (Ls.take k) = m := ⟨_, rfl⟩
          rw [em] at HG ⊢
          have hs := ba_size c.s
          have y1 : (m : Int) ≤ 2199023255552 := by omega
          have y2 : (c.s.length : Int) ≤ 1099511627776 := by omega
          have y3 : ¬ (9223372036854775807 - (m : Int) < (c.s.length : Int)) := by omega
          clear hr hcc g1 e1 e2 em
          go_wp2_with fail
          exact ⟨⟨k + 1, by omega, by go_num, by rw [HG.out], hB.alloc hB.size _⟩, by simp [intOf]; omega⟩
        · have hkl : k = Ls.length := by omega
          have hm : tot (Ls.take k) = tot Ls := by rw [hkl, List.take_of_length_le (Nat.le_refl _)]
          rw [hm]
          clear hm
          go_wp2_with fail
          go_ret
          exact ⟨rfl, hB⟩
end Go.Proofs.Ytobdfddpiobhhaa
