/- The document's own tokens of a text; the same tokens. -/
import Derived.Test.YtbhcniemkjoflaaDoorFg
import Derived.Test.YtbhcniemkjoflaaDoorTa
namespace Go.Proofs.YtbhcniemkjoflaaDoor
open Go.RowKit
open M

theorem info53 : (Tryd.prog.info? 53).map (fun i => (i.zero, i.size, i.bytes)) = some (some (.agg #[.int .i64 0, .int .i64 0, .int .i64 0]), 3, 24) := by kernel_rfl

set_option maxRecDepth 100000 in
set_option maxHeartbeats 4000000 in
theorem refTokens_any (s : ByteArray) (w : World) (hs : s.size ≤ 1073741824) :
    Calls Tryd.prog 9 #[.string s] w fun e w' => ∃ v, e = .returned v ∧ w'.ownsRow w.heap.size 53 3 v (toks 0 (bs s)).length ((toks 0 (bs s)).flatMap tkv) ∧ Below w.heap.size w w' := by
  obtain ⟨i0, hi0, hz0, hz1, hz2⟩ := info_parts info53
  go_enter Tryd.func9, Tryd.ntmps9
  go_wp2_with fail
  go_loopw [3, 4] (fun v i wr => ∃ (L0 : List Tk) (q : Nat), i = .int .i64 q ∧ q ≤ s.size ∧ L0.length ≤ q ∧ Hid (wr.ownsRow w.heap.size 53 3 v L0.length (L0.flatMap tkv)) ∧ Hid (toks 0 (bs s) = L0 ++ toks q ((bs s).drop q)) ∧ Below w.heap.size w wr) (fun _ i _ => s.size - (intOf i).toNat)
  case atStart => exact ⟨[], 0, rfl, by omega, by simp, World.ownsRow_nil _ _ _ _, (by simp : toks 0 (bs s) = [] ++ toks 0 ((bs s).drop 0)), Below.refl _ _⟩
  case round =>
    obtain ⟨L0, q, rfl, hq, hl0, HO, HE, hB⟩ := hrel
    by_cases hlt : q < s.size
    · have hsz := hB.size
      go_wp2_with fail
      refine (one_any s q _ hs hlt).mono ?_
      rintro e w2 ⟨rfl, k2⟩
      have hsz2 := k2.size
      have hown2 : w2.ownsRow w.heap.size 53 3 u3 L0.length (L0.flatMap tkv) := Kp.owns (S := fun _ => False) (Kp.ofBelow k2 _) HO.out (fun _ _ => id)
      have HO2 := hide hown2
      have hB2 : Below w.heap.size w w2 := hB.trans (k2.mono hsz)
      have HB2 := hide hB2
      have htl := tok_drop_le hlt
      have hbd := tok_bounds (drop_ne hlt)
      clear hown2 hB2 k2
      obtain ⟨T, hT⟩ : ∃ T, M.tok ((bs s).drop q) = T := ⟨_, rfl⟩
      have HT := hide hT
      rw [hT] at htl hbd ⊢
      clear hT
      go_wp2_with (at_builtin; refine wpList_append_lies _ rfl _ _ 24 rfl w.heap.size 53 i0 _ 3 24 Tryd.underlying24 hi0 hz0 hz1 hz2 rfl (by decide) u3 L0.length _ rfl (((HO2.out).alloc _).alloc _) ⟨w2.heap.size + 1, 0, none⟩ 1 1 (tkv ⟨T.1, q, T.2⟩) rfl rfl (World.news_of_block (cs := #[.int .i64 T.1, .int .i64 q, .int .i64 T.2]) (by have := heap_alloc_new (w2.alloc (.cells #[.int .i64 T.1, .int .i64 q, .int .i64 T.2] 53)) (.cells #[.int .i64 T.1, .int .i64 q, .int .i64 T.2] 53); simpa using this)) (by simp [Value.oneCell', tkv]) (by omega) (by unfold maxLen; omega) (by omega) (by simp; omega) (w2.heap.size + 2) (by simp) ?_; intro g cap w5 hown5 hgrow5 hat5 hlt5; have kW : Kp (fun k => u3.ownBlock = some k) ((w2.alloc (.cells #[.int .i64 T.1, .int .i64 q, .int .i64 T.2] 53)).alloc (.cells #[.int .i64 T.1, .int .i64 q, .int .i64 T.2] 53)) w5 := Kp.grown (Kp.refl _ _) hgrow5 (fun k e _ => e); have g5 : Blk3T w5 w2.heap.size (.int .i64 T.1) (.int .i64 q) (.int .i64 T.2) := Kp.heap kW (Kp.heap (Kp.alloc (Kp.refl (fun _ => False) (w2.alloc (.cells #[.int .i64 T.1, .int .i64 q, .int .i64 T.2] 53))) _) (Blk3T.new w2 _ _ _) id) (fun e => by have := (owns_ge HO2.out _ e).2; omega); obtain ⟨⟨-, -, c5⟩, -⟩ := g5.facts)
      have hge := owns_ge HO2.out
      refine ⟨⟨L0 ++ [⟨T.1, q, T.2⟩], q + T.2, by go_num, htl, by rw [List.length_append]; simp only [List.length_singleton]; omega, ?_, ?_, ?_⟩, by simp [intOf]; omega⟩
      · show w5.ownsRow _ _ _ _ _ _
        rw [toks_flat, List.length_append]; exact hown5
      · show _ = _
        rw [HE.out, toks_cons (drop_ne hlt), List.drop_drop, HT.out]; simp
      · have k3 : Kp (fun k => u3.ownBlock = some k) w2 w5 := Kp.trans (Kp.alloc (Kp.alloc (Kp.refl _ w2) _) _) kW (fun _ _ e => e)
        exact (HB2.out).trans (k3.below (by omega) (fun k e => (hge k e).1))
    · have hqe : q = s.size := by omega
      have HEN : Hid ((bs s).drop q = []) := by show _ = _; rw [hqe, ← bs_len]; simp
      go_wp2_with fail
      go_ret
      have e1 : toks 0 (bs s) = L0 := by have := HE.out; rw [HEN.out, toks_nil, List.append_nil] at this; exact this
      rw [e1]
      exact ⟨_, rfl, HO.out, hB⟩

set_option maxRecDepth 100000 in
set_option maxHeartbeats 4000000 in
theorem sameTokens_any (L : List Tk) (v1 v2 : Value) (w : World) (h1 : IsT w v1 L) (h2 : IsT w v2 L) (hl : L.length ≤ 1073741824) :
    Calls Tryd.prog 10 #[v1, v2] w fun e w' => e = .returned (.bool true) ∧ Below w.heap.size w w' := by
  have H1 := hide h1
  have H2 := hide h2
  obtain ⟨ao, cap, rfl, hc, hcm, -⟩ := h1
  obtain ⟨ao', cap', rfl, hc', hcm', -⟩ := h2
  go_enter Tryd.func10, Tryd.ntmps10
  go_wp2_with fail
  go_loopw [5] (fun i wr => ∃ k : Nat, k ≤ L.length ∧ i = .int .i64 k ∧ Below w.heap.size w wr) (fun i _ => L.length - (intOf i).toNat)
  case atStart => exact ⟨0, Nat.zero_le _, rfl, Below.refl _ _⟩
  case round =>
    obtain ⟨k, hkl, rfl, hB⟩ := hrel
    by_cases hlt : k < L.length
    · obtain ⟨b, o, t, rfl, ht, q1, q2, q3⟩ := (H1.out).get hB hlt
      obtain ⟨b', o', t', rfl, ht', r1, r2, r3⟩ := (H2.out).get hB hlt
      obtain rfl : t = t' := by rw [ht] at ht'; exact Option.some.inj ht'
      clear ht ht'
      have hi2 : (k : Int) < (L.length : Int) := by omega
      have d1 : ((t.kind : Int) != (t.kind : Int)) = false := by simp
      have d2 : ((t.pos : Int) != (t.pos : Int)) = false := by simp
      have d3 : ((t.len : Int) != (t.len : Int)) = false := by simp
      go_wp2_with fail
      go_quiet (fail)
      go_wp2_with fail
      go_roundw
      case rel => exact ⟨k + 1, by omega, by go_num, belowN hB _⟩
      case measure => simp [intOf]; omega
    · go_wp2_with fail
      go_ret
      exact ⟨rfl, hB⟩

set_option maxHeartbeats 4000000 in
theorem lexTokens_any (s : ByteArray) (w : World) (hT : Tabs w) (hs : s.size ≤ 1073741824) :
    Calls Tryd.prog 3 #[.string s] w fun e w' => e = .returned (.bool true) ∧ Below w.heap.size w w' := by
  have hLl : (toks 0 (bs s)).length ≤ s.size := by have := toks_len _ 0 (bs s) (Nat.le_refl _); rw [bs_len] at this; exact this
  go_enter Tryd.func3, Tryd.ntmps3
  go_wp2_with fail
  refine (tokens_any s _ hT hs).mono ?_
  rintro e w1 ⟨v, rfl, hown, k1⟩
  have z1 := k1.size
  have K1 := hide k1
  have HO := hide (IsT.ofOwns hown)
  clear hown k1
  go_wp2_with fail
  refine (refTokens_any s _ hs).mono ?_
  rintro e w2 ⟨v2, rfl, hown2, k2⟩
  have z2 := k2.size
  have HO1 := hide ((HO.out).below k2)
  have HO2 := hide (IsT.ofOwns hown2)
  have K2 := hide k2
  clear hown2 k2
  go_wp2_with fail
  refine (sameTokens_any (toks 0 (bs s)) v v2 _ HO1.out HO2.out (by omega)).mono ?_
  rintro e w3 ⟨rfl, k3⟩
  go_wp2_with fail
  go_ret
  exact ⟨rfl, ((K1.out).trans ((K2.out).mono z1)).trans (k3.mono (by omega))⟩
end Go.Proofs.YtbhcniemkjoflaaDoor
