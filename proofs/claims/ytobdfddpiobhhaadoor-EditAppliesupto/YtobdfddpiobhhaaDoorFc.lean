/- Spans as the document has them. -/
import Derived.Test.YtobdfddpiobhhaaDoorFb
namespace Go.Proofs.YtobdfddpiobhhaaDoor
open Go.RowKit
open EM

theorem info54 : (Tryd.prog.info? 54).map (fun i => (i.zero, i.size, i.bytes)) = some (some (.agg #[.int .i64 0, .int .i64 0, .string .empty]), 3, 32) := by kernel_rfl
theorem info53 : (Tryd.prog.info? 53).map (fun i => (i.zero, i.size, i.bytes)) = some (some (.agg #[.int .i64 0, .int .i64 0, .string .empty]), 3, 32) := by kernel_rfl
theorem take_vals {L : List Rw} {k : Nat} {r : Rw} (hr : L[k]? = some r) : (L.take (k + 1)).flatMap Rw.vals = (L.take k).flatMap Rw.vals ++ r.vals := by
  rw [List.take_add_one, hr, List.flatMap_append]; simp
set_option maxRecDepth 100000 in
set_option maxHeartbeats 3200000 in
theorem spans_any (v : Value) (L : List Rw) (w : World) (h : IsL w v L) (hl : L.length ≤ 1073741824) :
    Calls Tryd.prog 7 #[v] w fun e w' => ∃ v', e = .returned v' ∧ w'.ownsRow w.heap.size 54 3 v' L.length (L.flatMap Rw.vals) ∧ Below w.heap.size w w' := by
  obtain ⟨i0, hi0, hz0, hz1, hz2⟩ := info_parts info54
  have H := hide h
  obtain ⟨ao, cap, rfl, hc, hl', hcm, hx⟩ := h
  clear hx
  go_enter Tryd.func7, Tryd.ntmps7
  go_wp2_with fail
  go_loopw [3, 4] (fun v i wr => ∃ k : Nat, k ≤ L.length ∧ i = .int .i64 k ∧ Hid (wr.ownsRow w.heap.size 54 3 v k ((L.take k).flatMap Rw.vals)) ∧ Below w.heap.size w wr) (fun _ i _ => L.length - (intOf i).toNat)
  case atStart => exact ⟨0, Nat.zero_le _, rfl, World.ownsRow_nil _ _ _ _, Below.refl _ _⟩
  case round =>
    obtain ⟨k, hk, rfl, HO, hB⟩ := hrel
    by_cases hlt : k < L.length
    · obtain ⟨b, o, r, rfl, hr, q1, q2, q3, hbl⟩ := (H.out).get hB hlt
      have HR := hide (take_vals hr)
      have hown := HO.out
      have hsz := hB.size
      have ab : u3.ownBlock ≠ some b := fun e => by have := (hown.lt b e).1; omega
      clear hr HO
      have hi1 : (0 : Int) ≤ (k : Int) := Int.natCast_nonneg _
      have hi2 : (k : Int) < (L.length : Int) := by omega
      go_wp2_with fail
      go_region_held3 (fun w' => w'.cell? ⟨b, o + k * 3, none⟩ = some (.int .i64 r.f) ∧ w'.cell? ⟨b, o + k * 3 + 1, none⟩ = some (.int .i64 r.t) ∧ w'.cell? ⟨b, o + k * 3 + 2, none⟩ = some (.string r.s))
        (first
          | go_keep
          | (go_split_ands
             refine ⟨?_, ?_, ?_⟩
             · (rw [hgrow.cell_far _ (by simp; omega) (Ne.symm ab)]; assumption)
             · (rw [hgrow.cell_far _ (by simp; omega) (Ne.symm ab)]; assumption)
             · (rw [hgrow.cell_far _ (by simp; omega) (Ne.symm ab)]; assumption)))
        ((refine step_append_lies _ (by rfl) _ _ _ (by rfl) w.heap.size 54 i0 _ 3 32 Tryd.underlying23 hi0 hz0 hz1 hz2 rfl (by omega) u3 k _ (by rfl) ((hown.alloc _).drew)
            ⟨wr.heap.size, 0, none⟩ 1 1 [.int .i64 r.f, .int .i64 r.t, .string r.s] (by rfl) (by rfl) (World.news_of_block (cs := #[.int .i64 r.f, .int .i64 r.t, .string r.s]) (t := 54) (fr := (0, 0)) (heap_alloc_new wr _)) (by simp [Value.oneCell'])
            (by omega) (by unfold maxLen; omega) (by omega) (by simp; omega) (wr.heap.size + 1) (by simp) ?_; intro gg cap w1 hown1 hgrow hat hlt))
      go_wp2
      refine ⟨⟨k + 1, by omega, by go_num, ?_, ((hB.alloc hsz _).drew).grown hgrow (by simp; omega) (fun k hk => (hown.lt k hk).1)⟩, by simp [intOf]; omega⟩
      show w1.ownsRow _ _ _ _ _ _
      rw [HR.out]
      exact hown1
    · have hkl : k = L.length := by omega
      have HQ := hide (show wr.ownsRow w.heap.size 54 3 u3 L.length (L.flatMap Rw.vals) by have := HO.out; rwa [hkl, List.take_of_length_le (Nat.le_refl _)] at this)
      clear hkl
      go_wp2_with fail
      go_ret
      exact ⟨_, rfl, HQ.out, hB⟩
end Go.Proofs.YtobdfddpiobhhaaDoor
