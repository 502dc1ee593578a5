/- What the document's edits do to a text. -/
import Derived.Test.YtobdfddpiobhhaaDoorFb
namespace Go.Proofs.YtobdfddpiobhhaaDoor
open Go.RowKit
open EM
/-- An edit, gap by gap, as the document's package has it. -/
def IsE (w : World) (v : Value) (n : Nat) (I : Nat → By) (O : Nat → Bool) : Prop :=
  ∃ (ao : Option Addr) (c1 : Nat) (g2 c2 : Nat), v = .agg #[.int .i64 n, .slice ao n c1, .slice (some ⟨g2, 0, none⟩) (n + 1) c2] ∧ n ≤ c1 ∧ n + 1 ≤ c2 ∧
    (∀ g, g < n → ∃ g1, ao = some ⟨g1, 0, none⟩ ∧ w.cell? ⟨g1, g, none⟩ = some (.bool (O g))) ∧ (∀ g, g ≤ n → w.cell? ⟨g2, g, none⟩ = some (.string (ba (I g))))
def dpre (x : By) (I : Nat → By) (O : Nat → Bool) (k : Nat) : By := (List.range k).flatMap fun g => I g ++ (if O g then [] else (x.drop g).take 1)
theorem dpre_succ (x : By) (I : Nat → By) (O : Nat → Bool) (k : Nat) : dpre x I O (k + 1) = dpre x I O k ++ I k ++ (if O k then [] else (x.drop k).take 1) := by
  unfold dpre; rw [List.range_succ, List.flatMap_append]; simp [List.append_assoc]
theorem dpre_mono (x : By) (I : Nat → By) (O : Nat → Bool) {k m : Nat} (h : k ≤ m) : (dpre x I O k).length ≤ (dpre x I O m).length := by
  induction m with
  | zero =>
    have : k = 0 := by omega
    subst this
    exact Nat.le_refl _
  | succ m ih =>
    rcases Nat.lt_or_ge k (m + 1) with h1 | h1
    · have := ih (by omega); rw [dpre_succ]; simp only [List.length_append]; omega
    · obtain rfl : k = m + 1 := by omega
      exact Nat.le_refl _
theorem ba_append (a b : By) : ba a ++ ba b = ba (a ++ b) := bs_inj (by rw [bs_append, bs_ba, bs_ba, bs_ba])
theorem ba_cut1 (s : ByteArray) (k : Nat) : s.extract k (k + 1) = ba (((bs s).drop k).take 1) := bs_inj (by rw [bs_cut, bs_ba, List.take_drop])
set_option maxHeartbeats 1000000 in
theorem does_any (s : ByteArray) (v : Value) (n : Nat) (I : Nat → By) (O : Nat → Bool) (w : World) (h : IsE w v n I O) (hs : s.size = n) (hn : n ≤ 1048576) (hb : (does (bs s) I O).length ≤ 1125899906842624) :
    Calls Tryd.prog 21 #[.string s, v] w fun e w' => e = .returned (.string (ba (does (bs s) I O))) ∧ Below w.heap.size w w' := by
  have hl := bs_len s
  have e0 : does (bs s) I O = dpre (bs s) I O (n + 1) := by unfold does dpre; rw [hl, hs]
  rw [e0] at hb ⊢
  obtain ⟨ao, c1, g2, c2, rfl, l1, l2, h1, h2⟩ := h
  have hg2 := World.block_lt_of_cell? w _ (h2 0 (by omega))
  have H1 := hide h1
  have H2 := hide h2
  have HB := hide hb
  clear h1 h2 hb e0 hl
  go_enter Tryd.func21, Tryd.ntmps21
  go_wp2_with fail
  go_loop [5, 6] (fun o i => ∃ k : Nat, k ≤ n + 1 ∧ i = .int .i64 k ∧ o = .string (ba (dpre (bs s) I O k))) (fun _ i => n + 1 - (intOf i).toNat)
  case atStart => exact ⟨0, Nat.zero_le _, rfl, rfl⟩
  case round =>
    obtain ⟨k, hk, rfl, rfl⟩ := hrel
    by_cases hlt : k ≤ n
    · have q2 := (H2.out) k hlt
      have b1 := dpre_mono (bs s) I O (show k + 1 ≤ n + 1 by omega)
      have b2 := HB.out
      have b3 := dpre_succ (bs s) I O k
      have b4 := congrArg List.length b3
      simp only [List.length_append] at b4
      have HD := hide b3
      have s1 := ba_size (dpre (bs s) I O k)
      have s2 := ba_size (I k)
      have z1 : (ba (dpre (bs s) I O k)).size ≤ 1125899906842624 := by omega
      have z2 : (ba (I k)).size ≤ 1125899906842624 := by omega
      clear b1 b2 b3 b4 s1 s2
      by_cases hlt2 : k < n
      · obtain ⟨g1, rfl, q1⟩ := (H1.out) k hlt2
        have hg1 := World.block_lt_of_cell? w _ q1
        cases hO : O k with
        | false =>
          rw [hO] at q1
          go_wp2_with fail
          refine ⟨⟨k + 1, by omega, by go_num, ?_⟩, by simp [intOf]; omega⟩
          rw [HD.out, hO, ba_append, ba_cut1, ba_append]; rfl
        | true =>
          rw [hO] at q1
          go_wp2_with fail
          refine ⟨⟨k + 1, by omega, by go_num, ?_⟩, by simp [intOf]; omega⟩
          rw [HD.out, hO, ba_append]; simp
      · have hkn : (bs s).drop k = [] := List.drop_eq_nil_of_le (by rw [bs_len]; omega)
        have HK := hide hkn
        clear hkn
        go_wp2_with fail
        refine ⟨⟨k + 1, by omega, by go_num, ?_⟩, by simp [intOf]; omega⟩
        rw [HD.out, HK.out, ba_append]; simp
    · have hkn : k = n + 1 := by omega
      have z : ¬ (k : Int) ≤ (n : Int) := by omega
      go_wp2_with fail
      go_ret
      exact ⟨rfl, (Below.refl _ _).alloc (Nat.le_refl _) _⟩
end Go.Proofs.YtobdfddpiobhhaaDoor
