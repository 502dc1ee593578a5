/- Package scope: a name is told. -/
import Derived.Test.YtdipmfdhnplpaaaGreatDoorQa
import Derived.Test.YtdipmfdhnplpaaaGreatDoorZw
namespace Go.Proofs.YtdipmfdhnplpaaaGreatDoor
open Go.RowKit
open M
theorem infoU : (Tryz.prog.info? 44).map (fun i => (i.zero, i.size, i.bytes)) = some (some (.agg #[.int .i64 0, .int .i64 0, .int .i64 0, .int .i64 0, .int .i64 0, .int .i64 0]), 6, 48) := by kernel_rfl
variable {w0 : World} {L : Lay} {fs : List X.Fl} {M : Mem} {us : List X.U} {w : World}
/-- One more name is told. -/
theorem Run.told (h : Run w0 L fs M us w) {w3 w5 : World} (hb : Below w.heap.size w w3) {nv : Value} (hnv : w.cell? ⟨L.wb, 2, none⟩ = some nv) (u : X.U) {g cap : Nat} (hown : w5.ownsRow w0.heap.size 44 6 (.slice (some ⟨g, 0, none⟩) (us.length + 1) cap) (us.length + 1) (uvs us ++ uv u)) (hgrow : w3.grownBy w5 nv.ownBlock) (hlim : us.length + 1 ≤ 1073741824) :
    Run w0 L fs M (us ++ [u]) (w5.setCell ⟨L.wb, 2, none⟩ (.slice (some ⟨g, 0, none⟩) (us.length + 1) cap)) ∧ Kx L fs.length w0.heap.size w (w5.setCell ⟨L.wb, 2, none⟩ (.slice (some ⟨g, 0, none⟩) (us.length + 1) cap)) := by
  have h3 := h.below hb
  obtain ⟨nv', hw, hown0⟩ := h.ws
  have e0 := cell_of_row w _ 2 _ _ _ hw
  rw [hnv] at e0
  obtain rfl : nv = nv' := Option.some.inj e0
  have hsz := h.size
  have hS := h.st.lt
  -- the block of the names that were told
  have hnb : ∀ q, nv.ownBlock = some q → w0.heap.size ≤ q ∧ UseB w q := by
    intro q hq
    refine ⟨(owns_ge hown0 q hq).1, ?_⟩
    rcases hown0.2 with ⟨rfl, -⟩ | ⟨g', cap', cur, rfl, hge, hgg, -⟩
    · cases hq
    · cases hq
      exact ⟨_, _, hgg⟩
  have k35 : Kp (fun q => nv.ownBlock = some q) w3 w5 := (Kp.refl _ w3).grown hgrow (fun q e _ => e)
  have hwb3 : L.wb < w3.heap.size := Nat.lt_of_lt_of_le h.st.wl h3.size
  have hwb5 : w5.heap[L.wb]? = some (.cells #[.map (some L.mb), L.fv, nv] 50 (0, 0)) := by
    refine k35.heap ((Kp.ofBelow hb (fun _ => False)).heap hw id) (fun e => ?_)
    have := (hnb _ e).1
    have := h.st.wl
    omega
  have k56 : Kp (fun q => q = L.wb) w5 (w5.setCell ⟨L.wb, 2, none⟩ (.slice (some ⟨g, 0, none⟩) (us.length + 1) cap)) := Kp.setCell (S := fun q => q = L.wb) (p := ⟨L.wb, 2, none⟩) (Kp.refl _ w5) (fun _ => rfl) _
  have kx : Kx L fs.length w0.heap.size w (w5.setCell ⟨L.wb, 2, none⟩ (.slice (some ⟨g, 0, none⟩) (us.length + 1) cap)) := by
    refine Kp.trans (Kp.trans (Kp.ofBelow hb _) k35 (fun i hi e => .inr (hnb i e))) k56 (fun i hi e => .inl (.inl e))
  refine ⟨⟨h.st, kx.st h.kp, ⟨_, (set_cells hwb5 2 _), ?_⟩, fun i hi => ?_, ?_⟩, kx⟩
  · have e : (us ++ [u]).length = us.length + 1 := by simp
    rw [e, uvs_app, uvs_one]
    refine k56.owns hown (fun q hq e => ?_)
    have := (owns_ge hown q hq).1
    have := h.st.wl
    omega
  · obtain ⟨arr, x1, x2, x3⟩ := h.fd i hi
    have hgi := h.st.gl i hi
    refine ⟨arr, k56.heap (k35.heap ((Kp.ofBelow hb (fun _ => False)).heap x1 id) (fun e => ?_)) hgi.2.1, x2, x3⟩
    have := (hnb _ e).1
    omega
  · rw [List.length_append]; simpa using hlim
set_option maxRecDepth 100000 in
set_option maxHeartbeats 4000000 in
theorem tadd_any (f : Nat) (n : X.Nm) (s : Nat) (tf tt : Int) (er : Nat) (h : Run w0 L fs M us w) (hlim : us.length + (X.tellU f n s (tf, tt, er)).length ≤ 1073741824) :
    Calls Tryz.prog 58 #[.agg #[.pointer (some ⟨L.wb, 0, none⟩), .int .i64 f], .agg #[.string (ba n.1), .int .i64 n.2], .int .i64 s, .agg #[.int .i64 tf, .int .i64 tt], .int .i64 er] w fun e w' => e = .returned (.tuple #[]) ∧ Hid (Run w0 L fs M (us ++ X.tellU f n s (tf, tt, er)) w' ∧ Kx L fs.length w0.heap.size w w') := by
  have HR := hide h
  obtain ⟨i0, hi0, hz0, hz1, hz2⟩ := info_parts infoU
  have HT : Hid (X.tellU f n s (tf, tt, er) = if n.1 = [] then [] else [⟨f, n.2, s, tf, tt, er⟩]) := hide rfl
  generalize X.tellU f n s (tf, tt, er) = tl at *
  clear h
  go_enter Tryz.func58, Tryz.ntmps58
  go_wp2_with fail
  have kA : Below w.heap.size w (((w.alloc (.cells #[.pointer (some ⟨L.wb, 0, none⟩), .int .i64 f] 93)).alloc (.cells #[.string (ba n.1), .int .i64 n.2] 90)).alloc (.cells #[.int .i64 tf, .int .i64 tt] 146)) := (((Below.refl _ w).alloc (Nat.le_refl _) _).alloc (by simp) _).alloc (by simp; omega) _
  refine (nameMissing_any n.1 n.2 _).mono ?_
  rintro e w2 ⟨rfl, B2⟩
  have kB : Below w.heap.size w w2 := kA.trans (B2.mono (by simp; omega))
  have hT : w2.heap[w.heap.size]? = some (.cells #[.pointer (some ⟨L.wb, 0, none⟩), .int .i64 f] 93 (0, 0)) := (Kp.ofBelow B2 (fun _ => False)).heap ((heap_alloc_old _ _ (by simp; omega)).trans ((heap_alloc_old _ _ (by simp)).trans (heap_alloc_new w _))) id
  have hN : w2.heap[w.heap.size + 1]? = some (.cells #[.string (ba n.1), .int .i64 n.2] 90 (0, 0)) := (Kp.ofBelow B2 (fun _ => False)).heap ((heap_alloc_old _ _ (by simp)).trans (by have := heap_alloc_new (w.alloc (.cells #[.pointer (some ⟨L.wb, 0, none⟩), .int .i64 f] 93)) (.cells #[.string (ba n.1), .int .i64 n.2] 90); simpa using this)) id
  have hP : w2.heap[w.heap.size + 2]? = some (.cells #[.int .i64 tf, .int .i64 tt] 146 (0, 0)) := (Kp.ofBelow B2 (fun _ => False)).heap (by have := heap_alloc_new ((w.alloc (.cells #[.pointer (some ⟨L.wb, 0, none⟩), .int .i64 f] 93)).alloc (.cells #[.string (ba n.1), .int .i64 n.2] 90)) (.cells #[.int .i64 tf, .int .i64 tt] 146); simpa using this) id
  have HB := hide kB
  clear kA kB B2
  by_cases hn : n.1 = []
  · have e1 : n.1.isEmpty = true := by rw [hn]; rfl
    have HT2 := hide (HT.out)
    rw [if_pos hn] at HT
    have HF : Hid (Run w0 L fs M (us ++ tl) w2 ∧ Kx L fs.length w0.heap.size w w2) := by rw [HT.out, List.append_nil]; exact ⟨(HR.out).below HB.out, Kx.ofBelow HB.out⟩
    clear HT HT2 hT hN hP hlim
    rw [e1]
    go_wp2_with fail
    go_end0
    exact ⟨rfl, HF⟩
  · have e1 : n.1.isEmpty = false := by cases hx : n.1 with | nil => exact absurd hx hn | cons a l => rfl
    rw [if_neg hn] at HT
    have t0 := cell_of_row w2 _ 0 _ _ _ hT
    have t1 := cell_of_row w2 _ 1 _ _ _ hT
    have n1 := cell_of_row w2 _ 1 _ _ _ hN
    have p0 := cell_of_row w2 _ 0 _ _ _ hP
    have p1 := cell_of_row w2 _ 1 _ _ _ hP
    have hTl := heap_lt hT
    have hNl := heap_lt hN
    have hPl := heap_lt hP
    have R2 := (HR.out).below HB.out
    obtain ⟨nv, -, -, b2, f2, hown⟩ := R2.cells
    have hwl : L.wb < w2.heap.size := Nat.lt_of_lt_of_le R2.st.wl R2.size
    have hwb : L.wb < w0.heap.size := R2.st.wl
    have hw0 : w0.heap.size ≤ w.heap.size := (HR.out).size
    have hnb : ∀ q, nv.ownBlock = some q → w0.heap.size ≤ q ∧ q ≠ w.heap.size ∧ q ≠ w.heap.size + 1 ∧ q ≠ w.heap.size + 2 := by
      intro q hq
      refine ⟨(owns_ge hown q hq).1, ?_⟩
      rcases hown.2 with ⟨rfl, -⟩ | ⟨g', cap', cur, rfl, hge, hgg, -⟩
      · cases hq
      · cases hq
        refine ⟨fun e => ?_, fun e => ?_, fun e => ?_⟩
        · have e' : g' = _ := e
          rw [e', hT] at hgg; cases hgg
        · have e' : g' = _ := e
          rw [e', hN] at hgg; cases hgg
        · have e' : g' = _ := e
          rw [e', hP] at hgg; cases hgg
    have HNB := hide hnb
    have HO := hide hown
    have HR2 := hide R2
    have htl : tl.length = 1 := by rw [HT.out]; rfl
    rw [htl] at hlim
    have hul : us.length ≤ 1073741824 := by omega
    have hul2 : (us.length + 1) * 48 ≤ 140737488355328 := by omega
    clear htl hnb hown R2 hT hN hP
    rw [e1]
    have hsz2 : w.heap.size + 2 < w2.heap.size := hPl
    have HZ := hide hsz2
    clear hsz2
    have HZ0 := hide hw0
    clear hw0
    go_wp2_with fail
    refine wp_region_noPanic ?_
    refine wpTo_start (S := fun w' => w'.cell? ⟨w.heap.size, 0, none⟩ = some (.pointer (some ⟨L.wb, 0, none⟩)) ∧ w'.cell? ⟨w.heap.size, 1, none⟩ = some (.int .i64 f) ∧ w'.cell? ⟨w.heap.size + 1, 1, none⟩ = some (.int .i64 n.2) ∧ w'.cell? ⟨w.heap.size + 2, 0, none⟩ = some (.int .i64 tf) ∧ w'.cell? ⟨w.heap.size + 2, 1, none⟩ = some (.int .i64 tt) ∧ w'.cell? ⟨L.wb, 2, none⟩ = some nv) (z := 22) (by kernel_rfl) ?_
    have hS : w2.drew.cell? ⟨w.heap.size, 0, none⟩ = some (.pointer (some ⟨L.wb, 0, none⟩)) ∧ w2.drew.cell? ⟨w.heap.size, 1, none⟩ = some (.int .i64 f) ∧ w2.drew.cell? ⟨w.heap.size + 1, 1, none⟩ = some (.int .i64 n.2) ∧ w2.drew.cell? ⟨w.heap.size + 2, 0, none⟩ = some (.int .i64 tf) ∧ w2.drew.cell? ⟨w.heap.size + 2, 1, none⟩ = some (.int .i64 tt) ∧ w2.drew.cell? ⟨L.wb, 2, none⟩ = some nv := ⟨t0, t1, n1, p0, p1, b2⟩
    refine wpTo_take (i := 0) (dn := 13) (v := ?_) rfl rfl (by kernel_rfl) (by kernel_rfl) (by kernel_rfl) (by kernel_rfl) (fun _ _ _ h => h) (Or.inl ⟨by rfl, ?_⟩) hS ?_
    rotate_left
    · (intro wx hSw; (try dsimp only at hSw); go_simp; try (with_reducible rfl))
    simp only [Act.put, List.setIfInBounds_toArray, List.set_cons_zero, List.set_cons_succ]
    refine wpTo_take (i := 1) (dn := 14) (v := ?_) rfl rfl (by kernel_rfl) (by kernel_rfl) (by kernel_rfl) (by kernel_rfl) (fun _ _ _ h => h) (Or.inl ⟨by rfl, ?_⟩) hS ?_
    rotate_left
    · (intro wx hSw; (try dsimp only at hSw); go_simp; try (with_reducible rfl))
    simp only [Act.put, List.setIfInBounds_toArray, List.set_cons_zero, List.set_cons_succ]
    refine wpTo_take (i := 2) (dn := 15) (v := ?_) rfl rfl (by kernel_rfl) (by kernel_rfl) (by kernel_rfl) (by kernel_rfl) (fun _ _ _ h => h) (Or.inl ⟨by rfl, ?_⟩) hS ?_
    rotate_left
    · (intro wx hSw; (try dsimp only at hSw); go_simp; try (with_reducible rfl))
    simp only [Act.put, List.setIfInBounds_toArray, List.set_cons_zero, List.set_cons_succ]
    refine wpTo_take (i := 3) (dn := 16) (v := ?_) rfl rfl (by kernel_rfl) (by kernel_rfl) (by kernel_rfl) (by kernel_rfl) (fun _ _ _ h => h) (Or.inl ⟨by rfl, ?_⟩) hS ?_
    rotate_left
    · (intro wx hSw; (try dsimp only at hSw); go_simp; try (with_reducible rfl))
    simp only [Act.put, List.setIfInBounds_toArray, List.set_cons_zero, List.set_cons_succ]
    refine wpTo_take (i := 4) (dn := 17) (v := ?_) rfl rfl (by kernel_rfl) (by kernel_rfl) (by kernel_rfl) (by kernel_rfl) (fun _ _ _ h => h) (Or.inl ⟨by rfl, ?_⟩) hS ?_
    rotate_left
    · (intro wx hSw; (try dsimp only at hSw); go_simp; try (with_reducible rfl))
    simp only [Act.put, List.setIfInBounds_toArray, List.set_cons_zero, List.set_cons_succ]
    refine wpTo_take (i := 5) (dn := 18) (v := ?_) rfl rfl (by kernel_rfl) (by kernel_rfl) (by kernel_rfl) (by kernel_rfl) (fun _ _ _ h => h) (Or.inl ⟨by rfl, ?_⟩) hS ?_
    rotate_left
    · (intro wx hSw; (try dsimp only at hSw); go_simp; try (with_reducible rfl))
    simp only [Act.put, List.setIfInBounds_toArray, List.set_cons_zero, List.set_cons_succ]
    refine wpTo_take (i := 6) (dn := 19) (v := ?_) rfl rfl (by kernel_rfl) (by kernel_rfl) (by kernel_rfl) (by kernel_rfl) (fun _ _ _ h => h) (Or.inl ⟨by rfl, ?_⟩) hS ?_
    rotate_left
    · (intro wx hSw; (try dsimp only at hSw); go_simp; try (with_reducible rfl))
    simp only [Act.put, List.setIfInBounds_toArray, List.set_cons_zero, List.set_cons_succ]
    refine wpTo_take (i := 7) (dn := 20) (v := ?_) rfl rfl (by kernel_rfl) (by kernel_rfl) (by kernel_rfl) (by kernel_rfl) (fun _ _ _ h => h) (Or.inl ⟨by rfl, ?_⟩) hS ?_
    rotate_left
    · (intro wx hSw; (try dsimp only at hSw); go_simp; try (with_reducible rfl))
    simp only [Act.put, List.setIfInBounds_toArray, List.set_cons_zero, List.set_cons_succ]
    refine wpTo_take (i := 8) (dn := 21) (v := ?_) rfl rfl (by kernel_rfl) (by kernel_rfl) (by kernel_rfl) (by kernel_rfl) (fun _ _ _ h => h) (Or.inl ⟨by rfl, ?_⟩) hS ?_
    rotate_left
    · (intro wx hSw; (try dsimp only at hSw); go_simp; try (with_reducible rfl))
    simp only [Act.put, List.setIfInBounds_toArray, List.set_cons_zero, List.set_cons_succ]
    refine wpTo_take (i := 9) (dn := 22) (v := ?_) rfl rfl (by kernel_rfl) (by kernel_rfl) (by kernel_rfl) (by kernel_rfl) (fun _ _ _ h => h) (Or.inl ⟨by rfl, ?_⟩) hS ?_
    rotate_left
    · (intro wx hSw; (try dsimp only at hSw); go_simp; try (with_reducible rfl))
    simp only [Act.put, List.setIfInBounds_toArray, List.set_cons_zero, List.set_cons_succ]
    refine wpTo_take (i := 10) (dn := 23) (v := ?_) rfl rfl (by kernel_rfl) (by kernel_rfl) (by kernel_rfl) (by kernel_rfl) (fun _ _ _ h => h) (Or.inl ⟨by rfl, ?_⟩) hS ?_
    rotate_left
    · (intro wx hSw; (try dsimp only at hSw); go_simp; try (with_reducible rfl))
    simp only [Act.put, List.setIfInBounds_toArray, List.set_cons_zero, List.set_cons_succ]
    refine wpTo_take (i := 11) (dn := 24) (v := ?_) rfl rfl (by kernel_rfl) (by kernel_rfl) (by kernel_rfl) (by kernel_rfl) (fun _ _ _ h => h) (Or.inl ⟨by rfl, ?_⟩) hS ?_
    rotate_left
    · (intro wx hSw; (try dsimp only at hSw); go_simp; try (with_reducible rfl))
    simp only [Act.put, List.setIfInBounds_toArray, List.set_cons_zero, List.set_cons_succ]
    refine wpTo_take (i := 12) (dn := 25) (v := ?_) rfl rfl (by kernel_rfl) (by kernel_rfl) (by kernel_rfl) (by kernel_rfl) (fun _ _ _ h => h) (Or.inl ⟨by rfl, ?_⟩) hS ?_
    rotate_left
    · (intro wx hSw; (try dsimp only at hSw); go_simp; try (with_reducible rfl))
    simp only [Act.put, List.setIfInBounds_toArray, List.set_cons_zero, List.set_cons_succ]
    refine wpTo_take (i := 13) (dn := 26) (v := ?_) rfl rfl (by kernel_rfl) (by kernel_rfl) (by kernel_rfl) (by kernel_rfl) (fun _ _ _ h => h) (Or.inl ⟨by rfl, ?_⟩) hS ?_
    rotate_left
    · (intro wx hSw; (try dsimp only at hSw); go_simp; try (with_reducible rfl))
    simp only [Act.put, List.setIfInBounds_toArray, List.set_cons_zero, List.set_cons_succ]
    refine wpTo_take (i := 14) (dn := 27) (v := ?_) rfl rfl (by kernel_rfl) (by kernel_rfl) (by kernel_rfl) (by kernel_rfl) (fun _ _ _ h => h) (Or.inl ⟨by rfl, ?_⟩) hS ?_
    rotate_left
    · (intro wx hSw; (try dsimp only at hSw); go_simp; try (with_reducible rfl))
    simp only [Act.put, List.setIfInBounds_toArray, List.set_cons_zero, List.set_cons_succ]
    refine wpTo_take (i := 15) (dn := 28) (v := ?_) rfl rfl (by kernel_rfl) (by kernel_rfl) (by kernel_rfl) (by kernel_rfl) (fun _ _ _ h => h) (Or.inl ⟨by rfl, ?_⟩) hS ?_
    rotate_left
    · (intro wx hSw; (try dsimp only at hSw); go_simp; try (with_reducible rfl))
    simp only [Act.put, List.setIfInBounds_toArray, List.set_cons_zero, List.set_cons_succ]
    refine wpTo_take (i := 16) (dn := 29) (v := ?_) rfl rfl (by kernel_rfl) (by kernel_rfl) (by kernel_rfl) (by kernel_rfl) (fun _ _ _ h => h) (Or.inl ⟨by rfl, ?_⟩) hS ?_
    rotate_left
    · (intro wx hSw; (try dsimp only at hSw); go_simp; try (with_reducible rfl))
    simp only [Act.put, List.setIfInBounds_toArray, List.set_cons_zero, List.set_cons_succ]
    refine wpTo_take (i := 17) (dn := 30) (v := ?_) rfl rfl (by kernel_rfl) (by kernel_rfl) (by kernel_rfl) (by kernel_rfl) (fun _ _ _ h => h) (Or.inl ⟨by rfl, ?_⟩) hS ?_
    rotate_left
    · (intro wx hSw; (try dsimp only at hSw); go_simp; try (with_reducible rfl))
    simp only [Act.put, List.setIfInBounds_toArray, List.set_cons_zero, List.set_cons_succ]
    refine wpTo_one (i := 18) (by kernel_rfl) rfl (fun K hK => ?_)
    go_simp
    refine hK.out _ _ (fun _ => by first | go_keep | (dsimp only; go_keep)) (fun hS2 => ?_)
    clear hS hK K
    have hS := hS2 (by decide)
    clear hS2
    refine wpTo_one (i := 19) (by kernel_rfl) rfl (fun K hK => ?_)
    refine step_append_lies _ (by rfl) _ _ _ (by rfl) w0.heap.size 44 i0 _ 6 48 Tryz.underlying23 hi0 hz0 hz1 hz2 rfl (by omega) nv us.length _ (by rfl) (((HO.out : w2.ownsRow _ _ _ _ _ _).alloc _).drew)
      ⟨w2.heap.size, 0, none⟩ 1 1 (uv ⟨f, n.2, s, tf, tt, er⟩) (by rfl) (by rfl) (World.news_of_block (cs := #[.int .i64 f, .int .i64 n.2, .int .i64 s, .int .i64 tf, .int .i64 tt, .int .i64 er]) (t := 44) (fr := (0, 0)) (heap_alloc_new w2 _)) (by simp [Value.oneCell', uv])
      (by omega) (by unfold maxLen; omega) hul2 (by have := HZ0.out; have := HZ.out; simp; omega) (w2.heap.size + 1) (by simp) ?_
    intro g cap5 w5 hown5 hgrow5 hat5 hlt5
    have nb := HNB.out
    have hz := HZ.out
    have y0 := (hgrow5.cell_far ⟨w.heap.size, 0, none⟩ (by simp; omega) (fun e => (nb _ e.symm).2.1 rfl)).trans hS.1
    have y1 := (hgrow5.cell_far ⟨w.heap.size, 1, none⟩ (by simp; omega) (fun e => (nb _ e.symm).2.1 rfl)).trans hS.2.1
    have y2 := (hgrow5.cell_far ⟨w.heap.size + 1, 1, none⟩ (by simp; omega) (fun e => (nb _ e.symm).2.2.1 rfl)).trans hS.2.2.1
    have y3 := (hgrow5.cell_far ⟨w.heap.size + 2, 0, none⟩ (by simp; omega) (fun e => (nb _ e.symm).2.2.2 rfl)).trans hS.2.2.2.1
    have y4 := (hgrow5.cell_far ⟨w.heap.size + 2, 1, none⟩ (by simp; omega) (fun e => (nb _ e.symm).2.2.2 rfl)).trans hS.2.2.2.2.1
    have hwn : some L.wb ≠ nv.ownBlock := fun e => by have := (nb _ e.symm).1; omega
    have y5 : w5.cell? ⟨L.wb, 2, none⟩ = some nv := (hgrow5.cell_far ⟨L.wb, 2, none⟩ (by simp; omega) hwn).trans hS.2.2.2.2.2
    have x2 : w5.frozen? ⟨L.wb, 2, none⟩ = false := (hgrow5.frozen_far ⟨L.wb, 2, none⟩ (by simp; omega) hwn).trans ((World.frozen?_alloc_old _ _ ⟨L.wb, 2, none⟩ (by simp; omega)).trans f2)
    show K (Act.put _ (some 32) _) w5
    refine hK.out _ _ (fun _ => ⟨y0, y1, y2, y3, y4, y5⟩) (fun hS2 => ?_)
    clear hS hK K
    have hS := hS2 (by decide)
    clear hS2
    simp only [Act.put, List.setIfInBounds_toArray, List.set_cons_zero, List.set_cons_succ]
    refine wpTo_one (i := 20) (by kernel_rfl) rfl (fun K hK => ?_)
    go_simp
    refine hK.out _ _ (fun _ => hS) (fun _ => ?_)
    clear hK K
    refine wpTo_one (i := 21) (by kernel_rfl) rfl (fun K hK => ?_)
    go_simp
    refine hK.out _ _ (fun _ => hS) (fun _ => ?_)
    clear hK K
    refine wpTo_one (i := 22) (by kernel_rfl) rfl (fun K hK => ?_)
    go_simp
    refine hK.out _ _ (fun h => absurd rfl h) (fun _ => wpTo_end (by kernel_rfl) ?_)
    clear hK K
    refine NoPanic.normal ?_
    have HF : Hid (Run w0 L fs M (us ++ tl) (w5.setCell ⟨L.wb, 2, none⟩ (.slice (some ⟨g, 0, none⟩) (us.length + 1) cap5)) ∧ Kx L fs.length w0.heap.size w (w5.setCell ⟨L.wb, 2, none⟩ (.slice (some ⟨g, 0, none⟩) (us.length + 1) cap5))) := by
      have hb3 : Below w2.heap.size w2 (w2.alloc (.cells #[.int .i64 f, .int .i64 n.2, .int .i64 s, .int .i64 tf, .int .i64 tt, .int .i64 er] 44)).drew := ((Below.refl _ w2).alloc (Nat.le_refl _) _).drew
      have := Run.told HR2.out hb3 b2 ⟨f, n.2, s, tf, tt, er⟩ hown5 hgrow5 (by omega)
      rw [HT.out]
      exact ⟨this.1, (Kx.ofBelow HB.out).trans this.2⟩
    clear y0 y1 y2 y3 y4 y5 x2 hS hown5 hgrow5 hat5 nb
    go_wp2_with fail
    go_end0
    exact ⟨rfl, HF⟩
end Go.Proofs.YtdipmfdhnplpaaaGreatDoor
/- Package scope: what is remembered of uses. -/
namespace Go.Proofs.YtdipmfdhnplpaaaGreatDoor
open Go.RowKit
open M
theorem arr_set4 (arr : Array Value) (k n : Nat) (hn : arr.size = n * 4) (hk : k < n) (x0 x1 x2 x3 : Value) (k' : Nat) (hk' : k' < n) :
    let A := (((arr.setIfInBounds (k * 4) x0).setIfInBounds (k * 4 + 1) x1).setIfInBounds (k * 4 + 2) x2).setIfInBounds (k * 4 + 3) x3
    A.size = n * 4 ∧ A[k' * 4]? = (if k' = k then some x0 else arr[k' * 4]?) ∧ A[k' * 4 + 1]? = (if k' = k then some x1 else arr[k' * 4 + 1]?) ∧ A[k' * 4 + 2]? = (if k' = k then some x2 else arr[k' * 4 + 2]?) ∧ A[k' * 4 + 3]? = (if k' = k then some x3 else arr[k' * 4 + 3]?) := by
  intro A
  refine ⟨by simp [A, hn], ?_, ?_, ?_, ?_⟩
  all_goals
    simp only [A, Array.getElem?_setIfInBounds, Array.size_setIfInBounds, hn]
    by_cases e : k' = k
    · subst e
      simp
      omega
    · rw [if_neg e]
      repeat (rw [if_neg (by omega)])
theorem arr_set1 (arr : Array Value) (k n : Nat) (hn : arr.size = n * 4) (hk : k < n) (x0 : Value) (k' : Nat) :
    let A := arr.setIfInBounds (k * 4) x0
    A.size = n * 4 ∧ A[k' * 4]? = (if k' = k then some x0 else arr[k' * 4]?) ∧ A[k' * 4 + 1]? = arr[k' * 4 + 1]? ∧ A[k' * 4 + 2]? = arr[k' * 4 + 2]? ∧ A[k' * 4 + 3]? = arr[k' * 4 + 3]? := by
  intro A
  refine ⟨by simp [A, hn], ?_, ?_, ?_, ?_⟩
  · simp only [A, Array.getElem?_setIfInBounds, hn]
    by_cases e : k' = k
    · subst e
      simp
      omega
    · rw [if_neg e, if_neg (by omega)]
  all_goals
    simp only [A, Array.getElem?_setIfInBounds, hn]
    rw [if_neg (by omega)]
/-- Another thing is remembered of a use. -/
def setM (M : Mem) (i k : Nat) (v : Nat × X.An) : Mem := fun i' k' => if i' = i ∧ k' = k then v else M i' k'
theorem setM_same (M : Mem) (i k : Nat) (v : Nat × X.An) : setM M i k v i k = v := if_pos ⟨rfl, rfl⟩
theorem setM_other (M : Mem) (i k : Nat) (v : Nat × X.An) {i' k' : Nat} (h : ¬ (i' = i ∧ k' = k)) : setM M i k v i' k' = M i' k' := if_neg h
/-- What is remembered is right. -/
def MOk (fs : List X.Fl) (M : Mem) : Prop := ∀ i k, (M i k).1 ≤ 2 ∧ ((M i k).1 = 2 → X.EvA fs i k (M i k).2)
/-- How many uses were not asked for. -/
def cnt (fs : List X.Fl) (M : Mem) : Nat := ((X.useP fs).filter (fun p => (M p.1 p.2).1 == 0)).length
theorem filter_less {α : Type} (p q : α → Bool) (hq : ∀ x, q x = true → p x = true) {a : α} (ha : p a = true) (hb : q a = false) : ∀ l : List α, a ∈ l → (l.filter q).length < (l.filter p).length
  | [], h => by cases h
  | x :: l, h => by
    have hle : ∀ l : List α, (l.filter q).length ≤ (l.filter p).length := fun l => by
      induction l with
      | nil => exact Nat.le_refl _
      | cons y l ih =>
        rw [List.filter_cons, List.filter_cons]
        cases hy : q y with
        | true => rw [hq y hy]; simpa using ih
        | false => cases p y <;> simp <;> omega
    rw [List.filter_cons, List.filter_cons]
    rcases List.mem_cons.1 h with rfl | g
    · rw [ha, hb]
      have := hle l
      simp; omega
    · have := filter_less p q hq ha hb l g
      cases hy : q x with
      | true => rw [hq x hy]; simpa using this
      | false => cases p x <;> simp <;> omega
theorem cnt_less {fs : List X.Fl} {M : Mem} {i k : Nat} (hm : (i, k) ∈ X.useP fs) (h0 : (M i k).1 = 0) {v : Nat × X.An} (hv : v.1 ≠ 0) : cnt fs (setM M i k v) < cnt fs M := by
  refine filter_less _ _ (fun x hx => ?_) (a := (i, k)) (by simpa using h0) (by rw [setM_same]; simpa using hv) _ hm
  by_cases e : x.1 = i ∧ x.2 = k
  · obtain ⟨e1, e2⟩ := e
    rw [e1, e2, setM_same] at hx
    simp at hx
    exact absurd hx hv
  · rw [setM_other M i k v e] at hx; exact hx
variable {w0 : World} {L : Lay} {fs : List X.Fl} {M : Mem} {us : List X.U} {w : World}
/-- The block of the answers of a file is turned. -/
theorem Run.turn (h : Run w0 L fs M us w) {i : Nat} (hi : i < fs.length) {w' : World} {arr : Array Value} (hk : Kp (fun q => q = L.gb i) w w') (hb : w'.heap[L.gb i]? = some (.cells arr 148 (0, 0))) {M' : Mem} (hs : arr.size = (X.itemsOf fs i).length * 4)
    (hM : ∀ k, k < (X.itemsOf fs i).length → arr[k * 4]? = some (.int .i64 (M' i k).1) ∧ arr[k * 4 + 1]? = some (.int .i64 (M' i k).2.1) ∧ arr[k * 4 + 2]? = some (.int .i64 (M' i k).2.2.1) ∧ arr[k * 4 + 3]? = some (.int .i64 (M' i k).2.2.2))
    (ho : ∀ j k, j ≠ i → M' j k = M j k) : Run w0 L fs M' us w' ∧ Kx L fs.length w0.heap.size w w' := by
  have kx : Kx L fs.length w0.heap.size w w' := hk.mono (fun q _ e => .inl (.inr ⟨i, hi, e⟩))
  refine ⟨⟨h.st, kx.st h.kp, ?_, fun j hj => ?_, h.lim⟩, kx⟩
  · obtain ⟨nv, h1, h2⟩ := h.ws
    have hg := h.st.gl i hi
    refine ⟨nv, hk.heap h1 (fun e => hg.2.1 e.symm), hk.owns h2 (fun q hq e => ?_)⟩
    have := (owns_ge h2 q hq).1
    omega
  · by_cases e : j = i
    · subst e
      exact ⟨arr, hb, hs, hM⟩
    · obtain ⟨a2, x1, x2, x3⟩ := h.fd j hj
      refine ⟨a2, hk.heap x1 (fun e' => e ((h.st.gl j hj).2.2 i hi e')), x2, fun k hk => ?_⟩
      rw [ho j k e]
      exact x3 k hk
/-- A use is asked for. -/
theorem Run.ask (h : Run w0 L fs M us w) {i k : Nat} (hi : i < fs.length) (hk : k < (X.itemsOf fs i).length) : Run w0 L fs (setM M i k (1, (M i k).2)) us (w.setCell ⟨L.gb i, k * 4, none⟩ (.int .i64 1)) ∧ Kx L fs.length w0.heap.size w (w.setCell ⟨L.gb i, k * 4, none⟩ (.int .i64 1)) := by
  obtain ⟨arr, x1, x2, x3⟩ := h.fd i hi
  refine h.turn hi (arr := arr.setIfInBounds (k * 4) (.int .i64 1)) (Kp.setCell (S := fun q => q = L.gb i) (p := ⟨L.gb i, k * 4, none⟩) (Kp.refl _ w) (fun _ => rfl) _) (set_cells x1 _ _) (by simp [x2]) (fun k' hk' => ?_) (fun j k' hj => setM_other M i k _ (fun e => hj e.1))
  obtain ⟨-, y0, y1, y2, y3⟩ := arr_set1 arr k _ x2 hk (.int .i64 1) k'
  obtain ⟨z0, z1, z2, z3⟩ := x3 k' hk'
  rw [y0, y1, y2, y3]
  by_cases e : k' = k
  · subst e
    rw [setM_same, if_pos rfl]
    exact ⟨rfl, z1, z2, z3⟩
  · rw [setM_other M i k _ (fun e' => e e'.2), if_neg e]
    exact ⟨z0, z1, z2, z3⟩
/-- The answer of a use is remembered. -/
theorem Run.know (h : Run w0 L fs M us w) {i k : Nat} (hi : i < fs.length) (hk : k < (X.itemsOf fs i).length) (tf tt : Int) (er : Nat) :
    Run w0 L fs (setM M i k (2, (tf, tt, er))) us ((((w.setCell ⟨L.gb i, k * 4, none⟩ (.int .i64 2)).setCell ⟨L.gb i, k * 4 + 1, none⟩ (.int .i64 tf)).setCell ⟨L.gb i, k * 4 + 2, none⟩ (.int .i64 tt)).setCell ⟨L.gb i, k * 4 + 3, none⟩ (.int .i64 er)) ∧
    Kx L fs.length w0.heap.size w ((((w.setCell ⟨L.gb i, k * 4, none⟩ (.int .i64 2)).setCell ⟨L.gb i, k * 4 + 1, none⟩ (.int .i64 tf)).setCell ⟨L.gb i, k * 4 + 2, none⟩ (.int .i64 tt)).setCell ⟨L.gb i, k * 4 + 3, none⟩ (.int .i64 er)) := by
  obtain ⟨arr, x1, x2, x3⟩ := h.fd i hi
  have hkp : ∀ (o : Nat) (v : Value) (W : World), Kp (fun q => q = L.gb i) w W → Kp (fun q => q = L.gb i) w (W.setCell ⟨L.gb i, o, none⟩ v) := fun o v W hW => Kp.setCell (S := fun q => q = L.gb i) (p := ⟨L.gb i, o, none⟩) hW (fun _ => rfl) v
  refine h.turn hi (hkp _ _ _ (hkp _ _ _ (hkp _ _ _ (hkp _ _ _ (Kp.refl _ w))))) (set_cells (set_cells (set_cells (set_cells x1 _ _) _ _) _ _) _ _) (by simp [x2]) (fun k' hk' => ?_) (fun j k' hj => setM_other M i k _ (fun e => hj e.1))
  obtain ⟨-, y0, y1, y2, y3⟩ := arr_set4 arr k _ x2 hk (.int .i64 2) (.int .i64 tf) (.int .i64 tt) (.int .i64 er) k' hk'
  obtain ⟨z0, z1, z2, z3⟩ := x3 k' hk'
  rw [y0, y1, y2, y3]
  by_cases e : k' = k
  · subst e
    rw [setM_same, if_pos rfl, if_pos rfl, if_pos rfl, if_pos rfl]
    exact ⟨rfl, rfl, rfl, rfl⟩
  · rw [setM_other M i k _ (fun e' => e e'.2), if_neg e, if_neg e, if_neg e, if_neg e]
    exact ⟨z0, z1, z2, z3⟩
/-- The cells of an answer. -/
theorem Run.ans (h : Run w0 L fs M us w) {i k : Nat} (hi : i < fs.length) (hk : k < (X.itemsOf fs i).length) :
    (w.cell? ⟨L.gb i, k * 4, none⟩ = some (.int .i64 (M i k).1) ∧ w.cell? ⟨L.gb i, k * 4 + 1, none⟩ = some (.int .i64 (M i k).2.1) ∧ w.cell? ⟨L.gb i, k * 4 + 2, none⟩ = some (.int .i64 (M i k).2.2.1) ∧ w.cell? ⟨L.gb i, k * 4 + 3, none⟩ = some (.int .i64 (M i k).2.2.2)) ∧
    ∀ o, w.frozen? ⟨L.gb i, o, none⟩ = false := by
  obtain ⟨arr, x1, x2, x3⟩ := h.fd i hi
  obtain ⟨z0, z1, z2, z3⟩ := x3 k hk
  have hc : ∀ o, w.cell? ⟨L.gb i, o, none⟩ = arr[o]? := fun o => cell_of_row w _ o _ _ _ x1
  exact ⟨⟨(hc _).trans z0, (hc _).trans z1, (hc _).trans z2, (hc _).trans z3⟩, fun o => frozen_of_row w _ o _ _ x1⟩
/-- One item of a file, as it is at the beginning. -/
theorem St.item {w : World} (h : St w L fs) {i k : Nat} {it : X.It} (hi : i < fs.length) (hk : (X.itemsOf fs i)[k]? = some it) : ∃ g cap v lo hi, L.iv i = .slice (some ⟨g, 0, none⟩) (X.itemsOf fs i).length cap ∧ (X.itemsOf fs i).length ≤ cap ∧ cap ≤ maxLen ∧ w.cell? ⟨g, k, none⟩ = some v ∧ ¬ L.S fs.length g ∧ IsIt w lo hi v it ∧ hi ≤ w.heap.size ∧ ∀ q, lo ≤ q → q < hi → ¬ L.S fs.length q := by
  obtain ⟨lo, hi', h1, h2, h3⟩ := h.its i hi
  obtain ⟨ao, cap, vs, e, c1, c2, c3, c4⟩ := h1.ex
  obtain ⟨g, rfl, x2, x3, x4⟩ := c3 k (item_lt hk).2
  exact ⟨g, cap, vs k, lo, hi', e, c1, c2, x4, h3 g x2 x3, c4 k it hk, h2, h3⟩
end Go.Proofs.YtdipmfdhnplpaaaGreatDoor
