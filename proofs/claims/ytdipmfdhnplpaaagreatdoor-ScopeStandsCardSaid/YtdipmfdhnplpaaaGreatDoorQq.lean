/- Package scope: the names of a use. -/
import Derived.Test.YtdipmfdhnplpaaaGreatDoorQp
import Derived.Test.YtdipmfdhnplpaaaGreatDoorZw
namespace Go.Proofs.YtdipmfdhnplpaaaGreatDoor
open Go.RowKit
open M
variable {w0 : World} {L : Lay} {fs : List X.Fl} {M : Mem} {us : List X.U} {w : World}
/-- A block that was made behind the workspace, and is no block of names, is turned. -/
theorem Run.one (h : Run w0 L fs M us w) {w' : World} {b : Nat} {o : Obj} (hk : Kp (fun q => q = b) w w') (hb : w0.heap.size ≤ b) (ho : w.heap[b]? = some o) (hn : ∀ cs d, o ≠ .cells cs 44 d) : Run w0 L fs M us w' := by
  refine ⟨h.st, h.kp.trans hk (fun i hi e => by omega), ?_, fun i hi => ?_, h.lim⟩
  · obtain ⟨nv, h1, h2⟩ := h.ws
    refine ⟨nv, hk.heap h1 (fun e => by have := h.st.wl; omega), hk.owns h2 (fun q hq e => ?_)⟩
    rcases h2.2 with ⟨rfl, -⟩ | ⟨g', cap', cur, rfl, hge, hgg, -⟩
    · cases hq
    · cases hq
      have e' : g' = b := e
      rw [e', ho] at hgg
      exact hn _ _ (Option.some.inj hgg)
  · obtain ⟨arr, x1, x2⟩ := h.fd i hi
    exact ⟨arr, hk.heap x1 (fun e => by have := (h.st.gl i hi).1; omega), x2⟩
set_option maxRecDepth 100000 in
set_option maxHeartbeats 8000000 in
/-- By letters: what the module's name tells (tm), what was found (tf, tt, er), what is twice (tw), what is told as wrong (er2). -/
theorem tuse_of (f k lo hi ub : Nat) (pub gs : Bool) (m n a : X.Nm) (tm : List X.U) (tf tt : Int) (er tw er2 : Nat) (hv : Av L fs.length w0.heap.size lo hi) (hb : lo ≤ ub ∧ ub < hi) (hub : w0.heap[ub]? = some (useC pub gs m n a)) (h : Run w0 L fs M us w)
    (hC1 : ∀ w : World, Run w0 L fs M us w → Calls Tryz.prog 55 #[.agg #[.pointer (some ⟨L.wb, 0, none⟩), .int .i64 f], .agg #[.string (ba m.1), .int .i64 m.2]] w fun e w' => e = .returned (.tuple #[]) ∧ Hid (Run w0 L fs M (us ++ tm) w' ∧ Kx L fs.length w0.heap.size w w'))
    (hC2 : ∀ w : World, Run w0 L fs M (us ++ tm) w → Calls Tryz.prog 56 #[.pointer (some ⟨L.wb, 0, none⟩), .int .i64 f, .int .i64 k, .pointer (some ⟨ub, 0, none⟩)] w fun e w' => e = .returned (.agg #[.int .i64 2, .int .i64 tf, .int .i64 tt, .int .i64 er]) ∧ Hid (∃ M', Run w0 L fs M' (us ++ tm) w' ∧ MOk fs M' ∧ Idle M' ∧ Kx L fs.length w0.heap.size w w'))
    (hC3 : ∀ (M : Mem) (w : World), Run w0 L fs M (us ++ tm) w → Calls Tryz.prog 57 #[.agg #[.pointer (some ⟨L.wb, 0, none⟩), .int .i64 f], .int .i64 k] w fun e w' => e = .returned (.int .i64 tw) ∧ Below w.heap.size w w')
    (he : er2 = if er = 0 ∧ gs = false then tw else er)
    (hlim : us.length + tm.length + (X.tellU f n 4 (tf, tt, er2)).length + (X.tellU f a 5 (tf, tt, tw)).length ≤ 1073741824) :
    Calls Tryz.prog 29 #[.agg #[.pointer (some ⟨L.wb, 0, none⟩), .int .i64 f], .int .i64 k, .pointer (some ⟨ub, 0, none⟩)] w fun e w' => e = .returned (.tuple #[]) ∧ Hid (Tld w0 L fs (us ++ (tm ++ (X.tellU f n 4 (tf, tt, er2) ++ X.tellU f a 5 (tf, tt, tw)))) w w') := by
  have kA : Below w.heap.size w (w.alloc (.cells #[.pointer (some ⟨L.wb, 0, none⟩), .int .i64 f] 93)) := (Below.refl _ w).alloc (Nat.le_refl _) _
  have hT0 := hide (heap_alloc_new w (.cells #[.pointer (some ⟨L.wb, 0, none⟩), .int .i64 f] 93))
  have h0 := h.size
  have hS := h.st.lt
  have hSl := h.st.lt
  have h1 := h.below kA
  have hu1 := h1.kp.heap hub (hv.av ub hb.1 hb.2)
  have u1 : (w.alloc (.cells #[.pointer (some ⟨L.wb, 0, none⟩), .int .i64 f] 93)).cell? ⟨ub, 1, none⟩ = some (.string (ba m.1)) := cell_of_row _ _ 1 _ _ _ hu1
  have u2 : (w.alloc (.cells #[.pointer (some ⟨L.wb, 0, none⟩), .int .i64 f] 93)).cell? ⟨ub, 2, none⟩ = some (.int .i64 m.2) := cell_of_row _ _ 2 _ _ _ hu1
  have HC1 := hide (hC1 _ (h.below kA.drew))
  have HC2 := hide hC2
  have HC3 := hide hC3
  have HKA := hide kA
  have HV := hide hv
  have HU := hide hub
  have HR := hide h
  have HUS := hide ((hv.av ub hb.1 hb.2))
  clear kA h hC1 hC2 hC3 h1 hu1 hv hub
  go_enter Tryz.func29, Tryz.ntmps29
  go_wp2_with fail
  generalize w.alloc (.cells #[.pointer (some ⟨L.wb, 0, none⟩), .int .i64 f] 93) = W at *
  have t0 := cell_of_row W _ 0 _ _ _ hT0.out
  have t1 := cell_of_row W _ 1 _ _ _ hT0.out
  go_region_held3 (fun w' => w'.cell? ⟨w.heap.size, 0, none⟩ = some (.pointer (some ⟨L.wb, 0, none⟩)) ∧ w'.cell? ⟨w.heap.size, 1, none⟩ = some (.int .i64 f) ∧ w'.cell? ⟨ub, 1, none⟩ = some (.string (ba m.1)) ∧ w'.cell? ⟨ub, 2, none⟩ = some (.int .i64 m.2))
    (first | (with_reducible exact ⟨t0, t1, u1, u2⟩) | (with_reducible exact ⟨t02, t12, u12, u22⟩) | go_keep)
    ((go_at_call 55; refine (HC1.out).mono ?_; rintro e w2 ⟨rfl, X2⟩; have r2 := (X2.out).1; have x2 := (X2.out).2; have hT2 := x2.made hS hT0.out h0 (fun cs d e => (by cases e)); have hu2 := r2.kp.heap HU.out HUS.out; have t02 := cell_of_row w2 _ 0 _ _ _ hT2; have t12 := cell_of_row w2 _ 1 _ _ _ hT2; have u12 : w2.cell? ⟨ub, 1, none⟩ = some (.string (ba m.1)) := cell_of_row w2 _ 1 _ _ _ hu2; have u22 : w2.cell? ⟨ub, 2, none⟩ = some (.int .i64 m.2) := cell_of_row w2 _ 2 _ _ _ hu2))
  have HT2 := hide hT2
  have KX2 : Hid (Kx L fs.length w0.heap.size w w2) := (Kx.ofBelow (HKA.out).drew).trans x2
  have HCU := hide ((HC2.out) w2 r2)
  clear X2 r2 x2 hT2 hu2 u12 u22 t0 t1 u1 u2 HC1 HC2 HR hT0
  go_wp2_with fail
  refine (HCU.out).mono ?_
  rintro e w3 ⟨rfl, X3⟩
  obtain ⟨M3, r3, m3, i3, x3⟩ := X3.out
  have hT3 := x3.made hS HT2.out h0 (fun cs d e => (by cases e))
  have h03 := r3.size
  have hw3 : w.heap.size ≤ w3.heap.size := Kp.size ((KX2.out).trans x3)
  have kB : Below w3.heap.size w3 (w3.alloc (.cells #[.int .i64 2, .int .i64 tf, .int .i64 tt, .int .i64 er] 148)) := (Below.refl _ w3).alloc (Nat.le_refl _) _
  have HT4 := hide ((Kp.ofBelow kB (fun _ => False)).heap hT3 id)
  have HA4 := hide (heap_alloc_new w3 (.cells #[.int .i64 2, .int .i64 tf, .int .i64 tt, .int .i64 er] 148))
  have HR4 := hide (r3.below kB)
  have HM4 := hide m3
  have HI4 := hide i3
  have KX4 : Hid (Kx L fs.length w0.heap.size w (w3.alloc (.cells #[.int .i64 2, .int .i64 tf, .int .i64 tt, .int .i64 er] 148))) := ((KX2.out).trans x3).trans (Kx.ofBelow kB)
  have HC4 := hide ((HC3.out) M3 _ HR4.out)
  clear X3 r3 m3 i3 x3 hT3 kB HC3 KX2 HT2 HCU t02 t12
  have t04 := cell_of_row _ _ 0 _ _ _ HT4.out
  have t14 := cell_of_row _ _ 1 _ _ _ HT4.out
  go_upto_region 3 with fail
  generalize w3.alloc (.cells #[.int .i64 2, .int .i64 tf, .int .i64 tt, .int .i64 er] 148) = W4 at *
  go_wp2_with fail
  refine (HC4.out).mono ?_
  rintro e w5 ⟨rfl, B5⟩
  have HT5 := hide ((Kp.ofBelow B5 (fun _ => False)).heap HT4.out id)
  have HA5 := hide ((Kp.ofBelow B5 (fun _ => False)).heap HA4.out id)
  have HR5 := hide ((HR4.out).below B5)
  have KX5 : Hid (Kx L fs.length w0.heap.size w w5) := (KX4.out).trans (Kx.ofBelow B5)
  have hu5 := (HR5.out).kp.heap HU.out HUS.out
  have u55 : w5.cell? ⟨ub, 5, none⟩ = some (.bool gs) := cell_of_row w5 _ 5 _ _ _ hu5
  have a35 := cell_of_row w5 _ 3 _ _ _ HA5.out
  have za := frozen_of_row w5 _ 3 _ _ HA5.out
  clear B5 HT4 HA4 HR4 KX4 HC4 t04 t14 hu5
  by_cases hq : er = 0
  · subst hq
    have q1 : ((0 : Nat) : Int) = 0 := rfl
    cases gs with
    | false =>
      have he2 : er2 = tw := by rw [he, if_pos ⟨rfl, rfl⟩]
      clear he
      have a35' : w5.cell? ⟨w3.heap.size, 3, none⟩ = some (.int .i64 0) := a35
      clear a35
      have k56 : Kp (fun q => q = w3.heap.size) w5 (w5.setCell ⟨w3.heap.size, 3, none⟩ (.int .i64 tw)) := Kp.setCell (S := fun q => q = w3.heap.size) (p := ⟨w3.heap.size, 3, none⟩) (Kp.refl _ w5) (fun _ => rfl) _
      have hT6 : (w5.setCell ⟨w3.heap.size, 3, none⟩ (.int .i64 tw)).heap[w.heap.size]? = some (.cells #[.pointer (some ⟨L.wb, 0, none⟩), .int .i64 f] 93 (0, 0)) := k56.heap HT5.out (fun e => by
        have h5 := HT5.out
        rw [e, HA5.out] at h5
        cases h5)
      have hA6 : (w5.setCell ⟨w3.heap.size, 3, none⟩ (.int .i64 tw)).heap[w3.heap.size]? = some (.cells #[.int .i64 2, .int .i64 tf, .int .i64 tt, .int .i64 er2] 148 (0, 0)) := by rw [he2]; exact set_cells HA5.out 3 _
      have hR6 : Run w0 L fs M3 (us ++ tm) (w5.setCell ⟨w3.heap.size, 3, none⟩ (.int .i64 tw)) := (HR5.out).one k56 h03 HA5.out (fun cs d e => by cases e)
      have hK6 : Kx L fs.length w0.heap.size w (w5.setCell ⟨w3.heap.size, 3, none⟩ (.int .i64 tw)) := Kp.trans KX5.out k56 (fun i hi e => by omega)
      clear k56 HT5 HA5 HR5 KX5
      go_upto_region 6 with fail
      generalize w5.setCell ⟨w3.heap.size, 3, none⟩ (.int .i64 tw) = W6 at *
      clear a35' za u55
      clear he2
      have HT6 := hide hT6
      have HA6 := hide hA6
      have HR6 := hide hR6
      have KX6 := hide hK6
      have hu6 := (HR6.out).kp.heap HU.out HUS.out
      have u36 : W6.cell? ⟨ub, 3, none⟩ = some (.string (ba n.1)) := cell_of_row W6 _ 3 _ _ _ hu6
      have u46 : W6.cell? ⟨ub, 4, none⟩ = some (.int .i64 n.2) := cell_of_row W6 _ 4 _ _ _ hu6
      have t06 : W6.cell? ⟨w.heap.size, 0, none⟩ = some (.pointer (some ⟨L.wb, 0, none⟩)) := cell_of_row W6 _ 0 _ _ _ HT6.out
      have t16 : W6.cell? ⟨w.heap.size, 1, none⟩ = some (.int .i64 f) := cell_of_row W6 _ 1 _ _ _ HT6.out
      have a16 : W6.cell? ⟨w3.heap.size, 1, none⟩ = some (.int .i64 tf) := cell_of_row W6 _ 1 _ _ _ HA6.out
      have a26 : W6.cell? ⟨w3.heap.size, 2, none⟩ = some (.int .i64 tt) := cell_of_row W6 _ 2 _ _ _ HA6.out
      have a36 : W6.cell? ⟨w3.heap.size, 3, none⟩ = some (.int .i64 er2) := cell_of_row W6 _ 3 _ _ _ HA6.out
      have HC6 := hide (tadd_any f n 4 tf tt er2 ((HR6.out).below ((Below.refl _ W6).drew)) (by rw [List.length_append]; omega))
      clear hT6 hA6 hR6 hK6 hu6
      go_wp2_with fail
      refine wp_region_noPanic ?_
      refine wpTo_start (S := fun w' => w'.cell? ⟨w.heap.size, 0, none⟩ = some (.pointer (some ⟨L.wb, 0, none⟩)) ∧ w'.cell? ⟨w.heap.size, 1, none⟩ = some (.int .i64 f) ∧ w'.cell? ⟨ub, 3, none⟩ = some (.string (ba n.1)) ∧ w'.cell? ⟨ub, 4, none⟩ = some (.int .i64 n.2) ∧ w'.cell? ⟨w3.heap.size, 1, none⟩ = some (.int .i64 tf) ∧ w'.cell? ⟨w3.heap.size, 2, none⟩ = some (.int .i64 tt) ∧ w'.cell? ⟨w3.heap.size, 3, none⟩ = some (.int .i64 er2)) (z := 10) (by kernel_rfl) ?_
      have hS : W6.drew.cell? ⟨w.heap.size, 0, none⟩ = some (.pointer (some ⟨L.wb, 0, none⟩)) ∧ W6.drew.cell? ⟨w.heap.size, 1, none⟩ = some (.int .i64 f) ∧ W6.drew.cell? ⟨ub, 3, none⟩ = some (.string (ba n.1)) ∧ W6.drew.cell? ⟨ub, 4, none⟩ = some (.int .i64 n.2) ∧ W6.drew.cell? ⟨w3.heap.size, 1, none⟩ = some (.int .i64 tf) ∧ W6.drew.cell? ⟨w3.heap.size, 2, none⟩ = some (.int .i64 tt) ∧ W6.drew.cell? ⟨w3.heap.size, 3, none⟩ = some (.int .i64 er2) := ⟨t06, t16, u36, u46, a16, a26, a36⟩
      refine wpTo_takeA (i := 0) (dn := 36) (v := ?_) rfl rfl (by kernel_rfl) (by decide) (by kernel_rfl) (by kernel_rfl) (fun _ _ _ h => h) (Or.inl ⟨by rfl, ?_⟩) hS ?_
      rotate_left
      · (intro wx hSw; (try dsimp only at hSw); go_simp; try (with_reducible rfl))
      simp only [Act.put, List.setIfInBounds_toArray, List.set_cons_zero, List.set_cons_succ]
      refine wpTo_takeA (i := 1) (dn := 37) (v := ?_) rfl rfl (by kernel_rfl) (by decide) (by kernel_rfl) (by kernel_rfl) (fun _ _ _ h => h) (Or.inl ⟨by rfl, ?_⟩) hS ?_
      rotate_left
      · (intro wx hSw; (try dsimp only at hSw); go_simp; try (with_reducible rfl))
      simp only [Act.put, List.setIfInBounds_toArray, List.set_cons_zero, List.set_cons_succ]
      refine wpTo_takeA (i := 2) (dn := 38) (v := ?_) rfl rfl (by kernel_rfl) (by decide) (by kernel_rfl) (by kernel_rfl) (fun _ _ _ h => h) (Or.inl ⟨by rfl, ?_⟩) hS ?_
      rotate_left
      · (intro wx hSw; (try dsimp only at hSw); go_simp; try (with_reducible rfl))
      simp only [Act.put, List.setIfInBounds_toArray, List.set_cons_zero, List.set_cons_succ]
      refine wpTo_takeA (i := 3) (dn := 39) (v := ?_) rfl rfl (by kernel_rfl) (by decide) (by kernel_rfl) (by kernel_rfl) (fun _ _ _ h => h) (Or.inl ⟨by rfl, ?_⟩) hS ?_
      rotate_left
      · (intro wx hSw; (try dsimp only at hSw); go_simp; try (with_reducible rfl))
      simp only [Act.put, List.setIfInBounds_toArray, List.set_cons_zero, List.set_cons_succ]
      refine wpTo_takeA (i := 4) (dn := 40) (v := ?_) rfl rfl (by kernel_rfl) (by decide) (by kernel_rfl) (by kernel_rfl) (fun _ _ _ h => h) (Or.inl ⟨by rfl, ?_⟩) hS ?_
      rotate_left
      · (intro wx hSw; (try dsimp only at hSw); go_simp; try (with_reducible rfl))
      simp only [Act.put, List.setIfInBounds_toArray, List.set_cons_zero, List.set_cons_succ]
      refine wpTo_takeA (i := 5) (dn := 41) (v := ?_) rfl rfl (by kernel_rfl) (by decide) (by kernel_rfl) (by kernel_rfl) (fun _ _ _ h => h) (Or.inl ⟨by rfl, ?_⟩) hS ?_
      rotate_left
      · (intro wx hSw; (try dsimp only at hSw); go_simp; try (with_reducible rfl))
      simp only [Act.put, List.setIfInBounds_toArray, List.set_cons_zero, List.set_cons_succ]
      refine wpTo_takeA (i := 6) (dn := 42) (v := ?_) rfl rfl (by kernel_rfl) (by decide) (by kernel_rfl) (by kernel_rfl) (fun _ _ _ h => h) (Or.inl ⟨by rfl, ?_⟩) hS ?_
      rotate_left
      · (intro wx hSw; (try dsimp only at hSw); go_simp; try (with_reducible rfl))
      simp only [Act.put, List.setIfInBounds_toArray, List.set_cons_zero, List.set_cons_succ]
      refine wpTo_takeA (i := 7) (dn := 43) (v := ?_) rfl rfl (by kernel_rfl) (by decide) (by kernel_rfl) (by kernel_rfl) (fun _ _ _ h => h) (Or.inl ⟨by rfl, ?_⟩) hS ?_
      rotate_left
      · (intro wx hSw; (try dsimp only at hSw); go_simp; try (with_reducible rfl))
      simp only [Act.put, List.setIfInBounds_toArray, List.set_cons_zero, List.set_cons_succ]
      refine wpTo_takeA (i := 8) (dn := 44) (v := ?_) rfl rfl (by kernel_rfl) (by decide) (by kernel_rfl) (by kernel_rfl) (fun _ _ _ h => h) (Or.inl ⟨by rfl, ?_⟩) hS ?_
      rotate_left
      · (intro wx hSw; (try dsimp only at hSw); go_simp; try (with_reducible rfl))
      simp only [Act.put, List.setIfInBounds_toArray, List.set_cons_zero, List.set_cons_succ]
      refine wpTo_one (i := 9) (by kernel_rfl) rfl (fun K hK => ?_)
      go_simp
      refine (HC6.out).mono ?_
      rintro e w7 ⟨rfl, X7⟩
      have r7 := (X7.out).1
      have x7 := (X7.out).2
      have hT7 := x7.made hSl HT6.out h0 (fun cs d e => (by cases e))
      have hA7 := x7.made hSl HA6.out h03 (fun cs d e => (by cases e))
      have hu7 := r7.kp.heap HU.out HUS.out
      have t07 : w7.cell? ⟨w.heap.size, 0, none⟩ = some (.pointer (some ⟨L.wb, 0, none⟩)) := cell_of_row w7 _ 0 _ _ _ hT7
      have t17 : w7.cell? ⟨w.heap.size, 1, none⟩ = some (.int .i64 f) := cell_of_row w7 _ 1 _ _ _ hT7
      have u37 : w7.cell? ⟨ub, 3, none⟩ = some (.string (ba n.1)) := cell_of_row w7 _ 3 _ _ _ hu7
      have u47 : w7.cell? ⟨ub, 4, none⟩ = some (.int .i64 n.2) := cell_of_row w7 _ 4 _ _ _ hu7
      have a17 : w7.cell? ⟨w3.heap.size, 1, none⟩ = some (.int .i64 tf) := cell_of_row w7 _ 1 _ _ _ hA7
      have a27 : w7.cell? ⟨w3.heap.size, 2, none⟩ = some (.int .i64 tt) := cell_of_row w7 _ 2 _ _ _ hA7
      have a37 : w7.cell? ⟨w3.heap.size, 3, none⟩ = some (.int .i64 er2) := cell_of_row w7 _ 3 _ _ _ hA7
      go_simp
      refine hK.out _ _ (fun _ => ⟨t07, t17, u37, u47, a17, a27, a37⟩) (fun _ => wpTo_end (by kernel_rfl) ?_)
      clear hK K hS
      refine NoPanic.normal ?_
      have HT7 := hide hT7
      have HA7 := hide hA7
      have u67 : w7.cell? ⟨ub, 6, none⟩ = some (.string (ba a.1)) := cell_of_row w7 _ 6 _ _ _ hu7
      have u77 : w7.cell? ⟨ub, 7, none⟩ = some (.int .i64 a.2) := cell_of_row w7 _ 7 _ _ _ hu7
      have KX7 : Hid (Kx L fs.length w0.heap.size w w7) := ((KX6.out).drew).trans x7
      have HC7 := hide (tadd_any f a 5 tf tt tw (r7.below ((Below.refl _ w7).drew)) (by rw [List.length_append, List.length_append]; omega))
      clear X7 r7 x7 hT7 hA7 hu7 HT6 HA6 HR6 KX6 t06 t16 u36 u46 a16 a26 a36 u37 u47 a37 HC6
      go_wp2_with fail
      refine wp_region_noPanic ?_
      refine wpTo_start (S := fun w' => w'.cell? ⟨w.heap.size, 0, none⟩ = some (.pointer (some ⟨L.wb, 0, none⟩)) ∧ w'.cell? ⟨w.heap.size, 1, none⟩ = some (.int .i64 f) ∧ w'.cell? ⟨ub, 6, none⟩ = some (.string (ba a.1)) ∧ w'.cell? ⟨ub, 7, none⟩ = some (.int .i64 a.2) ∧ w'.cell? ⟨w3.heap.size, 1, none⟩ = some (.int .i64 tf) ∧ w'.cell? ⟨w3.heap.size, 2, none⟩ = some (.int .i64 tt)) (z := 9) (by kernel_rfl) ?_
      have hS : w7.drew.cell? ⟨w.heap.size, 0, none⟩ = some (.pointer (some ⟨L.wb, 0, none⟩)) ∧ w7.drew.cell? ⟨w.heap.size, 1, none⟩ = some (.int .i64 f) ∧ w7.drew.cell? ⟨ub, 6, none⟩ = some (.string (ba a.1)) ∧ w7.drew.cell? ⟨ub, 7, none⟩ = some (.int .i64 a.2) ∧ w7.drew.cell? ⟨w3.heap.size, 1, none⟩ = some (.int .i64 tf) ∧ w7.drew.cell? ⟨w3.heap.size, 2, none⟩ = some (.int .i64 tt) := ⟨t07, t17, u67, u77, a17, a27⟩
      refine wpTo_takeA (i := 0) (dn := 46) (v := ?_) rfl rfl (by kernel_rfl) (by decide) (by kernel_rfl) (by kernel_rfl) (fun _ _ _ h => h) (Or.inl ⟨by rfl, ?_⟩) hS ?_
      rotate_left
      · (intro wx hSw; (try dsimp only at hSw); go_simp; try (with_reducible rfl))
      simp only [Act.put, List.setIfInBounds_toArray, List.set_cons_zero, List.set_cons_succ]
      refine wpTo_takeA (i := 1) (dn := 47) (v := ?_) rfl rfl (by kernel_rfl) (by decide) (by kernel_rfl) (by kernel_rfl) (fun _ _ _ h => h) (Or.inl ⟨by rfl, ?_⟩) hS ?_
      rotate_left
      · (intro wx hSw; (try dsimp only at hSw); go_simp; try (with_reducible rfl))
      simp only [Act.put, List.setIfInBounds_toArray, List.set_cons_zero, List.set_cons_succ]
      refine wpTo_takeA (i := 2) (dn := 48) (v := ?_) rfl rfl (by kernel_rfl) (by decide) (by kernel_rfl) (by kernel_rfl) (fun _ _ _ h => h) (Or.inl ⟨by rfl, ?_⟩) hS ?_
      rotate_left
      · (intro wx hSw; (try dsimp only at hSw); go_simp; try (with_reducible rfl))
      simp only [Act.put, List.setIfInBounds_toArray, List.set_cons_zero, List.set_cons_succ]
      refine wpTo_takeA (i := 3) (dn := 49) (v := ?_) rfl rfl (by kernel_rfl) (by decide) (by kernel_rfl) (by kernel_rfl) (fun _ _ _ h => h) (Or.inl ⟨by rfl, ?_⟩) hS ?_
      rotate_left
      · (intro wx hSw; (try dsimp only at hSw); go_simp; try (with_reducible rfl))
      simp only [Act.put, List.setIfInBounds_toArray, List.set_cons_zero, List.set_cons_succ]
      refine wpTo_takeA (i := 4) (dn := 50) (v := ?_) rfl rfl (by kernel_rfl) (by decide) (by kernel_rfl) (by kernel_rfl) (fun _ _ _ h => h) (Or.inl ⟨by rfl, ?_⟩) hS ?_
      rotate_left
      · (intro wx hSw; (try dsimp only at hSw); go_simp; try (with_reducible rfl))
      simp only [Act.put, List.setIfInBounds_toArray, List.set_cons_zero, List.set_cons_succ]
      refine wpTo_takeA (i := 5) (dn := 51) (v := ?_) rfl rfl (by kernel_rfl) (by decide) (by kernel_rfl) (by kernel_rfl) (fun _ _ _ h => h) (Or.inl ⟨by rfl, ?_⟩) hS ?_
      rotate_left
      · (intro wx hSw; (try dsimp only at hSw); go_simp; try (with_reducible rfl))
      simp only [Act.put, List.setIfInBounds_toArray, List.set_cons_zero, List.set_cons_succ]
      refine wpTo_takeA (i := 6) (dn := 52) (v := ?_) rfl rfl (by kernel_rfl) (by decide) (by kernel_rfl) (by kernel_rfl) (fun _ _ _ h => h) (Or.inl ⟨by rfl, ?_⟩) hS ?_
      rotate_left
      · (intro wx hSw; (try dsimp only at hSw); go_simp; try (with_reducible rfl))
      simp only [Act.put, List.setIfInBounds_toArray, List.set_cons_zero, List.set_cons_succ]
      refine wpTo_takeA (i := 7) (dn := 53) (v := ?_) rfl rfl (by kernel_rfl) (by decide) (by kernel_rfl) (by kernel_rfl) (fun _ _ _ h => h) (Or.inl ⟨by rfl, ?_⟩) hS ?_
      rotate_left
      · (intro wx hSw; (try dsimp only at hSw); go_simp; try (with_reducible rfl))
      simp only [Act.put, List.setIfInBounds_toArray, List.set_cons_zero, List.set_cons_succ]
      refine wpTo_one (i := 8) (by kernel_rfl) rfl (fun K hK => ?_)
      go_simp
      refine (HC7.out).mono ?_
      rintro e w8 ⟨rfl, X8⟩
      have r8 := (X8.out).1
      have x8 := (X8.out).2
      have hT8 := x8.made hSl HT7.out h0 (fun cs d e => (by cases e))
      have hA8 := x8.made hSl HA7.out h03 (fun cs d e => (by cases e))
      have hu8 := r8.kp.heap HU.out HUS.out
      have t08 : w8.cell? ⟨w.heap.size, 0, none⟩ = some (.pointer (some ⟨L.wb, 0, none⟩)) := cell_of_row w8 _ 0 _ _ _ hT8
      have t18 : w8.cell? ⟨w.heap.size, 1, none⟩ = some (.int .i64 f) := cell_of_row w8 _ 1 _ _ _ hT8
      have u68 : w8.cell? ⟨ub, 6, none⟩ = some (.string (ba a.1)) := cell_of_row w8 _ 6 _ _ _ hu8
      have u78 : w8.cell? ⟨ub, 7, none⟩ = some (.int .i64 a.2) := cell_of_row w8 _ 7 _ _ _ hu8
      have a18 : w8.cell? ⟨w3.heap.size, 1, none⟩ = some (.int .i64 tf) := cell_of_row w8 _ 1 _ _ _ hA8
      have a28 : w8.cell? ⟨w3.heap.size, 2, none⟩ = some (.int .i64 tt) := cell_of_row w8 _ 2 _ _ _ hA8
      go_simp
      refine hK.out _ _ (fun _ => ⟨t08, t18, u68, u78, a18, a28⟩) (fun _ => wpTo_end (by kernel_rfl) ?_)
      clear hK K hS
      refine NoPanic.normal ?_
      have HF : Hid (Tld w0 L fs (us ++ (tm ++ (X.tellU f n 4 (tf, tt, er2) ++ X.tellU f a 5 (tf, tt, tw)))) w w8) := by
        refine ⟨M3, ?_, HM4.out, HI4.out, ((KX7.out).drew).trans x8⟩
        simpa [List.append_assoc] using r8
      clear X8 r8 x8 hT8 hA8 hu8 t08 t18 u68 u78 a18 a28 t07 t17 u67 u77 a17 a27 HC7
      go_wp2_with fail
      go_end0
      exact ⟨rfl, HF⟩
    | true =>
      have he2 : er2 = 0 := by rw [he, if_neg (fun e => by cases e.2)]
      clear he
      have a35' : w5.cell? ⟨w3.heap.size, 3, none⟩ = some (.int .i64 0) := a35
      go_upto_region 6 with fail
      have hT6 := HT5.out
      have hA6 : w5.heap[w3.heap.size]? = some (.cells #[.int .i64 2, .int .i64 tf, .int .i64 tt, .int .i64 er2] 148 (0, 0)) := by rw [he2]; exact HA5.out
      have hR6 := HR5.out
      have hK6 := KX5.out
      clear a35' HT5 HA5 HR5 KX5 a35 za u55
      obtain ⟨W6, rfl⟩ : ∃ W6, w5 = W6 := ⟨_, rfl⟩
      clear he2
      have HT6 := hide hT6
      have HA6 := hide hA6
      have HR6 := hide hR6
      have KX6 := hide hK6
      have hu6 := (HR6.out).kp.heap HU.out HUS.out
      have u36 : w5.cell? ⟨ub, 3, none⟩ = some (.string (ba n.1)) := cell_of_row w5 _ 3 _ _ _ hu6
      have u46 : w5.cell? ⟨ub, 4, none⟩ = some (.int .i64 n.2) := cell_of_row w5 _ 4 _ _ _ hu6
      have t06 : w5.cell? ⟨w.heap.size, 0, none⟩ = some (.pointer (some ⟨L.wb, 0, none⟩)) := cell_of_row w5 _ 0 _ _ _ HT6.out
      have t16 : w5.cell? ⟨w.heap.size, 1, none⟩ = some (.int .i64 f) := cell_of_row w5 _ 1 _ _ _ HT6.out
      have a16 : w5.cell? ⟨w3.heap.size, 1, none⟩ = some (.int .i64 tf) := cell_of_row w5 _ 1 _ _ _ HA6.out
      have a26 : w5.cell? ⟨w3.heap.size, 2, none⟩ = some (.int .i64 tt) := cell_of_row w5 _ 2 _ _ _ HA6.out
      have a36 : w5.cell? ⟨w3.heap.size, 3, none⟩ = some (.int .i64 er2) := cell_of_row w5 _ 3 _ _ _ HA6.out
      have HC6 := hide (tadd_any f n 4 tf tt er2 ((HR6.out).below ((Below.refl _ w5).drew)) (by rw [List.length_append]; omega))
      clear hT6 hA6 hR6 hK6 hu6
      go_wp2_with fail
      refine wp_region_noPanic ?_
      refine wpTo_start (S := fun w' => w'.cell? ⟨w.heap.size, 0, none⟩ = some (.pointer (some ⟨L.wb, 0, none⟩)) ∧ w'.cell? ⟨w.heap.size, 1, none⟩ = some (.int .i64 f) ∧ w'.cell? ⟨ub, 3, none⟩ = some (.string (ba n.1)) ∧ w'.cell? ⟨ub, 4, none⟩ = some (.int .i64 n.2) ∧ w'.cell? ⟨w3.heap.size, 1, none⟩ = some (.int .i64 tf) ∧ w'.cell? ⟨w3.heap.size, 2, none⟩ = some (.int .i64 tt) ∧ w'.cell? ⟨w3.heap.size, 3, none⟩ = some (.int .i64 er2)) (z := 10) (by kernel_rfl) ?_
      have hS : w5.drew.cell? ⟨w.heap.size, 0, none⟩ = some (.pointer (some ⟨L.wb, 0, none⟩)) ∧ w5.drew.cell? ⟨w.heap.size, 1, none⟩ = some (.int .i64 f) ∧ w5.drew.cell? ⟨ub, 3, none⟩ = some (.string (ba n.1)) ∧ w5.drew.cell? ⟨ub, 4, none⟩ = some (.int .i64 n.2) ∧ w5.drew.cell? ⟨w3.heap.size, 1, none⟩ = some (.int .i64 tf) ∧ w5.drew.cell? ⟨w3.heap.size, 2, none⟩ = some (.int .i64 tt) ∧ w5.drew.cell? ⟨w3.heap.size, 3, none⟩ = some (.int .i64 er2) := ⟨t06, t16, u36, u46, a16, a26, a36⟩
      refine wpTo_takeA (i := 0) (dn := 36) (v := ?_) rfl rfl (by kernel_rfl) (by decide) (by kernel_rfl) (by kernel_rfl) (fun _ _ _ h => h) (Or.inl ⟨by rfl, ?_⟩) hS ?_
      rotate_left
      · (intro wx hSw; (try dsimp only at hSw); go_simp; try (with_reducible rfl))
      simp only [Act.put, List.setIfInBounds_toArray, List.set_cons_zero, List.set_cons_succ]
      refine wpTo_takeA (i := 1) (dn := 37) (v := ?_) rfl rfl (by kernel_rfl) (by decide) (by kernel_rfl) (by kernel_rfl) (fun _ _ _ h => h) (Or.inl ⟨by rfl, ?_⟩) hS ?_
      rotate_left
      · (intro wx hSw; (try dsimp only at hSw); go_simp; try (with_reducible rfl))
      simp only [Act.put, List.setIfInBounds_toArray, List.set_cons_zero, List.set_cons_succ]
      refine wpTo_takeA (i := 2) (dn := 38) (v := ?_) rfl rfl (by kernel_rfl) (by decide) (by kernel_rfl) (by kernel_rfl) (fun _ _ _ h => h) (Or.inl ⟨by rfl, ?_⟩) hS ?_
      rotate_left
      · (intro wx hSw; (try dsimp only at hSw); go_simp; try (with_reducible rfl))
      simp only [Act.put, List.setIfInBounds_toArray, List.set_cons_zero, List.set_cons_succ]
      refine wpTo_takeA (i := 3) (dn := 39) (v := ?_) rfl rfl (by kernel_rfl) (by decide) (by kernel_rfl) (by kernel_rfl) (fun _ _ _ h => h) (Or.inl ⟨by rfl, ?_⟩) hS ?_
      rotate_left
      · (intro wx hSw; (try dsimp only at hSw); go_simp; try (with_reducible rfl))
      simp only [Act.put, List.setIfInBounds_toArray, List.set_cons_zero, List.set_cons_succ]
      refine wpTo_takeA (i := 4) (dn := 40) (v := ?_) rfl rfl (by kernel_rfl) (by decide) (by kernel_rfl) (by kernel_rfl) (fun _ _ _ h => h) (Or.inl ⟨by rfl, ?_⟩) hS ?_
      rotate_left
      · (intro wx hSw; (try dsimp only at hSw); go_simp; try (with_reducible rfl))
      simp only [Act.put, List.setIfInBounds_toArray, List.set_cons_zero, List.set_cons_succ]
      refine wpTo_takeA (i := 5) (dn := 41) (v := ?_) rfl rfl (by kernel_rfl) (by decide) (by kernel_rfl) (by kernel_rfl) (fun _ _ _ h => h) (Or.inl ⟨by rfl, ?_⟩) hS ?_
      rotate_left
      · (intro wx hSw; (try dsimp only at hSw); go_simp; try (with_reducible rfl))
      simp only [Act.put, List.setIfInBounds_toArray, List.set_cons_zero, List.set_cons_succ]
      refine wpTo_takeA (i := 6) (dn := 42) (v := ?_) rfl rfl (by kernel_rfl) (by decide) (by kernel_rfl) (by kernel_rfl) (fun _ _ _ h => h) (Or.inl ⟨by rfl, ?_⟩) hS ?_
      rotate_left
      · (intro wx hSw; (try dsimp only at hSw); go_simp; try (with_reducible rfl))
      simp only [Act.put, List.setIfInBounds_toArray, List.set_cons_zero, List.set_cons_succ]
      refine wpTo_takeA (i := 7) (dn := 43) (v := ?_) rfl rfl (by kernel_rfl) (by decide) (by kernel_rfl) (by kernel_rfl) (fun _ _ _ h => h) (Or.inl ⟨by rfl, ?_⟩) hS ?_
      rotate_left
      · (intro wx hSw; (try dsimp only at hSw); go_simp; try (with_reducible rfl))
      simp only [Act.put, List.setIfInBounds_toArray, List.set_cons_zero, List.set_cons_succ]
      refine wpTo_takeA (i := 8) (dn := 44) (v := ?_) rfl rfl (by kernel_rfl) (by decide) (by kernel_rfl) (by kernel_rfl) (fun _ _ _ h => h) (Or.inl ⟨by rfl, ?_⟩) hS ?_
      rotate_left
      · (intro wx hSw; (try dsimp only at hSw); go_simp; try (with_reducible rfl))
      simp only [Act.put, List.setIfInBounds_toArray, List.set_cons_zero, List.set_cons_succ]
      refine wpTo_one (i := 9) (by kernel_rfl) rfl (fun K hK => ?_)
      go_simp
      refine (HC6.out).mono ?_
      rintro e w7 ⟨rfl, X7⟩
      have r7 := (X7.out).1
      have x7 := (X7.out).2
      have hT7 := x7.made hSl HT6.out h0 (fun cs d e => (by cases e))
      have hA7 := x7.made hSl HA6.out h03 (fun cs d e => (by cases e))
      have hu7 := r7.kp.heap HU.out HUS.out
      have t07 : w7.cell? ⟨w.heap.size, 0, none⟩ = some (.pointer (some ⟨L.wb, 0, none⟩)) := cell_of_row w7 _ 0 _ _ _ hT7
      have t17 : w7.cell? ⟨w.heap.size, 1, none⟩ = some (.int .i64 f) := cell_of_row w7 _ 1 _ _ _ hT7
      have u37 : w7.cell? ⟨ub, 3, none⟩ = some (.string (ba n.1)) := cell_of_row w7 _ 3 _ _ _ hu7
      have u47 : w7.cell? ⟨ub, 4, none⟩ = some (.int .i64 n.2) := cell_of_row w7 _ 4 _ _ _ hu7
      have a17 : w7.cell? ⟨w3.heap.size, 1, none⟩ = some (.int .i64 tf) := cell_of_row w7 _ 1 _ _ _ hA7
      have a27 : w7.cell? ⟨w3.heap.size, 2, none⟩ = some (.int .i64 tt) := cell_of_row w7 _ 2 _ _ _ hA7
      have a37 : w7.cell? ⟨w3.heap.size, 3, none⟩ = some (.int .i64 er2) := cell_of_row w7 _ 3 _ _ _ hA7
      go_simp
      refine hK.out _ _ (fun _ => ⟨t07, t17, u37, u47, a17, a27, a37⟩) (fun _ => wpTo_end (by kernel_rfl) ?_)
      clear hK K hS
      refine NoPanic.normal ?_
      have HT7 := hide hT7
      have HA7 := hide hA7
      have u67 : w7.cell? ⟨ub, 6, none⟩ = some (.string (ba a.1)) := cell_of_row w7 _ 6 _ _ _ hu7
      have u77 : w7.cell? ⟨ub, 7, none⟩ = some (.int .i64 a.2) := cell_of_row w7 _ 7 _ _ _ hu7
      have KX7 : Hid (Kx L fs.length w0.heap.size w w7) := ((KX6.out).drew).trans x7
      have HC7 := hide (tadd_any f a 5 tf tt tw (r7.below ((Below.refl _ w7).drew)) (by rw [List.length_append, List.length_append]; omega))
      clear X7 r7 x7 hT7 hA7 hu7 HT6 HA6 HR6 KX6 t06 t16 u36 u46 a16 a26 a36 u37 u47 a37 HC6
      go_wp2_with fail
      refine wp_region_noPanic ?_
      refine wpTo_start (S := fun w' => w'.cell? ⟨w.heap.size, 0, none⟩ = some (.pointer (some ⟨L.wb, 0, none⟩)) ∧ w'.cell? ⟨w.heap.size, 1, none⟩ = some (.int .i64 f) ∧ w'.cell? ⟨ub, 6, none⟩ = some (.string (ba a.1)) ∧ w'.cell? ⟨ub, 7, none⟩ = some (.int .i64 a.2) ∧ w'.cell? ⟨w3.heap.size, 1, none⟩ = some (.int .i64 tf) ∧ w'.cell? ⟨w3.heap.size, 2, none⟩ = some (.int .i64 tt)) (z := 9) (by kernel_rfl) ?_
      have hS : w7.drew.cell? ⟨w.heap.size, 0, none⟩ = some (.pointer (some ⟨L.wb, 0, none⟩)) ∧ w7.drew.cell? ⟨w.heap.size, 1, none⟩ = some (.int .i64 f) ∧ w7.drew.cell? ⟨ub, 6, none⟩ = some (.string (ba a.1)) ∧ w7.drew.cell? ⟨ub, 7, none⟩ = some (.int .i64 a.2) ∧ w7.drew.cell? ⟨w3.heap.size, 1, none⟩ = some (.int .i64 tf) ∧ w7.drew.cell? ⟨w3.heap.size, 2, none⟩ = some (.int .i64 tt) := ⟨t07, t17, u67, u77, a17, a27⟩
      refine wpTo_takeA (i := 0) (dn := 46) (v := ?_) rfl rfl (by kernel_rfl) (by decide) (by kernel_rfl) (by kernel_rfl) (fun _ _ _ h => h) (Or.inl ⟨by rfl, ?_⟩) hS ?_
      rotate_left
      · (intro wx hSw; (try dsimp only at hSw); go_simp; try (with_reducible rfl))
      simp only [Act.put, List.setIfInBounds_toArray, List.set_cons_zero, List.set_cons_succ]
      refine wpTo_takeA (i := 1) (dn := 47) (v := ?_) rfl rfl (by kernel_rfl) (by decide) (by kernel_rfl) (by kernel_rfl) (fun _ _ _ h => h) (Or.inl ⟨by rfl, ?_⟩) hS ?_
      rotate_left
      · (intro wx hSw; (try dsimp only at hSw); go_simp; try (with_reducible rfl))
      simp only [Act.put, List.setIfInBounds_toArray, List.set_cons_zero, List.set_cons_succ]
      refine wpTo_takeA (i := 2) (dn := 48) (v := ?_) rfl rfl (by kernel_rfl) (by decide) (by kernel_rfl) (by kernel_rfl) (fun _ _ _ h => h) (Or.inl ⟨by rfl, ?_⟩) hS ?_
      rotate_left
      · (intro wx hSw; (try dsimp only at hSw); go_simp; try (with_reducible rfl))
      simp only [Act.put, List.setIfInBounds_toArray, List.set_cons_zero, List.set_cons_succ]
      refine wpTo_takeA (i := 3) (dn := 49) (v := ?_) rfl rfl (by kernel_rfl) (by decide) (by kernel_rfl) (by kernel_rfl) (fun _ _ _ h => h) (Or.inl ⟨by rfl, ?_⟩) hS ?_
      rotate_left
      · (intro wx hSw; (try dsimp only at hSw); go_simp; try (with_reducible rfl))
      simp only [Act.put, List.setIfInBounds_toArray, List.set_cons_zero, List.set_cons_succ]
      refine wpTo_takeA (i := 4) (dn := 50) (v := ?_) rfl rfl (by kernel_rfl) (by decide) (by kernel_rfl) (by kernel_rfl) (fun _ _ _ h => h) (Or.inl ⟨by rfl, ?_⟩) hS ?_
      rotate_left
      · (intro wx hSw; (try dsimp only at hSw); go_simp; try (with_reducible rfl))
      simp only [Act.put, List.setIfInBounds_toArray, List.set_cons_zero, List.set_cons_succ]
      refine wpTo_takeA (i := 5) (dn := 51) (v := ?_) rfl rfl (by kernel_rfl) (by decide) (by kernel_rfl) (by kernel_rfl) (fun _ _ _ h => h) (Or.inl ⟨by rfl, ?_⟩) hS ?_
      rotate_left
      · (intro wx hSw; (try dsimp only at hSw); go_simp; try (with_reducible rfl))
      simp only [Act.put, List.setIfInBounds_toArray, List.set_cons_zero, List.set_cons_succ]
      refine wpTo_takeA (i := 6) (dn := 52) (v := ?_) rfl rfl (by kernel_rfl) (by decide) (by kernel_rfl) (by kernel_rfl) (fun _ _ _ h => h) (Or.inl ⟨by rfl, ?_⟩) hS ?_
      rotate_left
      · (intro wx hSw; (try dsimp only at hSw); go_simp; try (with_reducible rfl))
      simp only [Act.put, List.setIfInBounds_toArray, List.set_cons_zero, List.set_cons_succ]
      refine wpTo_takeA (i := 7) (dn := 53) (v := ?_) rfl rfl (by kernel_rfl) (by decide) (by kernel_rfl) (by kernel_rfl) (fun _ _ _ h => h) (Or.inl ⟨by rfl, ?_⟩) hS ?_
      rotate_left
      · (intro wx hSw; (try dsimp only at hSw); go_simp; try (with_reducible rfl))
      simp only [Act.put, List.setIfInBounds_toArray, List.set_cons_zero, List.set_cons_succ]
      refine wpTo_one (i := 8) (by kernel_rfl) rfl (fun K hK => ?_)
      go_simp
      refine (HC7.out).mono ?_
      rintro e w8 ⟨rfl, X8⟩
      have r8 := (X8.out).1
      have x8 := (X8.out).2
      have hT8 := x8.made hSl HT7.out h0 (fun cs d e => (by cases e))
      have hA8 := x8.made hSl HA7.out h03 (fun cs d e => (by cases e))
      have hu8 := r8.kp.heap HU.out HUS.out
      have t08 : w8.cell? ⟨w.heap.size, 0, none⟩ = some (.pointer (some ⟨L.wb, 0, none⟩)) := cell_of_row w8 _ 0 _ _ _ hT8
      have t18 : w8.cell? ⟨w.heap.size, 1, none⟩ = some (.int .i64 f) := cell_of_row w8 _ 1 _ _ _ hT8
      have u68 : w8.cell? ⟨ub, 6, none⟩ = some (.string (ba a.1)) := cell_of_row w8 _ 6 _ _ _ hu8
      have u78 : w8.cell? ⟨ub, 7, none⟩ = some (.int .i64 a.2) := cell_of_row w8 _ 7 _ _ _ hu8
      have a18 : w8.cell? ⟨w3.heap.size, 1, none⟩ = some (.int .i64 tf) := cell_of_row w8 _ 1 _ _ _ hA8
      have a28 : w8.cell? ⟨w3.heap.size, 2, none⟩ = some (.int .i64 tt) := cell_of_row w8 _ 2 _ _ _ hA8
      go_simp
      refine hK.out _ _ (fun _ => ⟨t08, t18, u68, u78, a18, a28⟩) (fun _ => wpTo_end (by kernel_rfl) ?_)
      clear hK K hS
      refine NoPanic.normal ?_
      have HF : Hid (Tld w0 L fs (us ++ (tm ++ (X.tellU f n 4 (tf, tt, er2) ++ X.tellU f a 5 (tf, tt, tw)))) w w8) := by
        refine ⟨M3, ?_, HM4.out, HI4.out, ((KX7.out).drew).trans x8⟩
        simpa [List.append_assoc] using r8
      clear X8 r8 x8 hT8 hA8 hu8 t08 t18 u68 u78 a18 a28 t07 t17 u67 u77 a17 a27 HC7
      go_wp2_with fail
      go_end0
      exact ⟨rfl, HF⟩
  · have he2 : er2 = er := by rw [he, if_neg (fun e => hq e.1)]
    clear he
    have q1 : ((er : Int) == 0) = false := by simp; omega
    go_upto_region 6 with fail
    have hT6 := HT5.out
    have hA6 : w5.heap[w3.heap.size]? = some (.cells #[.int .i64 2, .int .i64 tf, .int .i64 tt, .int .i64 er2] 148 (0, 0)) := by rw [he2]; exact HA5.out
    have hR6 := HR5.out
    have hK6 := KX5.out
    clear HT5 HA5 HR5 KX5 a35 za u55
    obtain ⟨W6, rfl⟩ : ∃ W6, w5 = W6 := ⟨_, rfl⟩
    clear he2
    have HT6 := hide hT6
    have HA6 := hide hA6
    have HR6 := hide hR6
    have KX6 := hide hK6
    have hu6 := (HR6.out).kp.heap HU.out HUS.out
    have u36 : w5.cell? ⟨ub, 3, none⟩ = some (.string (ba n.1)) := cell_of_row w5 _ 3 _ _ _ hu6
    have u46 : w5.cell? ⟨ub, 4, none⟩ = some (.int .i64 n.2) := cell_of_row w5 _ 4 _ _ _ hu6
    have t06 : w5.cell? ⟨w.heap.size, 0, none⟩ = some (.pointer (some ⟨L.wb, 0, none⟩)) := cell_of_row w5 _ 0 _ _ _ HT6.out
    have t16 : w5.cell? ⟨w.heap.size, 1, none⟩ = some (.int .i64 f) := cell_of_row w5 _ 1 _ _ _ HT6.out
    have a16 : w5.cell? ⟨w3.heap.size, 1, none⟩ = some (.int .i64 tf) := cell_of_row w5 _ 1 _ _ _ HA6.out
    have a26 : w5.cell? ⟨w3.heap.size, 2, none⟩ = some (.int .i64 tt) := cell_of_row w5 _ 2 _ _ _ HA6.out
    have a36 : w5.cell? ⟨w3.heap.size, 3, none⟩ = some (.int .i64 er2) := cell_of_row w5 _ 3 _ _ _ HA6.out
    have HC6 := hide (tadd_any f n 4 tf tt er2 ((HR6.out).below ((Below.refl _ w5).drew)) (by rw [List.length_append]; omega))
    clear hT6 hA6 hR6 hK6 hu6
    go_wp2_with fail
    refine wp_region_noPanic ?_
    refine wpTo_start (S := fun w' => w'.cell? ⟨w.heap.size, 0, none⟩ = some (.pointer (some ⟨L.wb, 0, none⟩)) ∧ w'.cell? ⟨w.heap.size, 1, none⟩ = some (.int .i64 f) ∧ w'.cell? ⟨ub, 3, none⟩ = some (.string (ba n.1)) ∧ w'.cell? ⟨ub, 4, none⟩ = some (.int .i64 n.2) ∧ w'.cell? ⟨w3.heap.size, 1, none⟩ = some (.int .i64 tf) ∧ w'.cell? ⟨w3.heap.size, 2, none⟩ = some (.int .i64 tt) ∧ w'.cell? ⟨w3.heap.size, 3, none⟩ = some (.int .i64 er2)) (z := 10) (by kernel_rfl) ?_
    have hS : w5.drew.cell? ⟨w.heap.size, 0, none⟩ = some (.pointer (some ⟨L.wb, 0, none⟩)) ∧ w5.drew.cell? ⟨w.heap.size, 1, none⟩ = some (.int .i64 f) ∧ w5.drew.cell? ⟨ub, 3, none⟩ = some (.string (ba n.1)) ∧ w5.drew.cell? ⟨ub, 4, none⟩ = some (.int .i64 n.2) ∧ w5.drew.cell? ⟨w3.heap.size, 1, none⟩ = some (.int .i64 tf) ∧ w5.drew.cell? ⟨w3.heap.size, 2, none⟩ = some (.int .i64 tt) ∧ w5.drew.cell? ⟨w3.heap.size, 3, none⟩ = some (.int .i64 er2) := ⟨t06, t16, u36, u46, a16, a26, a36⟩
    refine wpTo_takeA (i := 0) (dn := 36) (v := ?_) rfl rfl (by kernel_rfl) (by decide) (by kernel_rfl) (by kernel_rfl) (fun _ _ _ h => h) (Or.inl ⟨by rfl, ?_⟩) hS ?_
    rotate_left
    · (intro wx hSw; (try dsimp only at hSw); go_simp; try (with_reducible rfl))
    simp only [Act.put, List.setIfInBounds_toArray, List.set_cons_zero, List.set_cons_succ]
    refine wpTo_takeA (i := 1) (dn := 37) (v := ?_) rfl rfl (by kernel_rfl) (by decide) (by kernel_rfl) (by kernel_rfl) (fun _ _ _ h => h) (Or.inl ⟨by rfl, ?_⟩) hS ?_
    rotate_left
    · (intro wx hSw; (try dsimp only at hSw); go_simp; try (with_reducible rfl))
    simp only [Act.put, List.setIfInBounds_toArray, List.set_cons_zero, List.set_cons_succ]
    refine wpTo_takeA (i := 2) (dn := 38) (v := ?_) rfl rfl (by kernel_rfl) (by decide) (by kernel_rfl) (by kernel_rfl) (fun _ _ _ h => h) (Or.inl ⟨by rfl, ?_⟩) hS ?_
    rotate_left
    · (intro wx hSw; (try dsimp only at hSw); go_simp; try (with_reducible rfl))
    simp only [Act.put, List.setIfInBounds_toArray, List.set_cons_zero, List.set_cons_succ]
    refine wpTo_takeA (i := 3) (dn := 39) (v := ?_) rfl rfl (by kernel_rfl) (by decide) (by kernel_rfl) (by kernel_rfl) (fun _ _ _ h => h) (Or.inl ⟨by rfl, ?_⟩) hS ?_
    rotate_left
    · (intro wx hSw; (try dsimp only at hSw); go_simp; try (with_reducible rfl))
    simp only [Act.put, List.setIfInBounds_toArray, List.set_cons_zero, List.set_cons_succ]
    refine wpTo_takeA (i := 4) (dn := 40) (v := ?_) rfl rfl (by kernel_rfl) (by decide) (by kernel_rfl) (by kernel_rfl) (fun _ _ _ h => h) (Or.inl ⟨by rfl, ?_⟩) hS ?_
    rotate_left
    · (intro wx hSw; (try dsimp only at hSw); go_simp; try (with_reducible rfl))
    simp only [Act.put, List.setIfInBounds_toArray, List.set_cons_zero, List.set_cons_succ]
    refine wpTo_takeA (i := 5) (dn := 41) (v := ?_) rfl rfl (by kernel_rfl) (by decide) (by kernel_rfl) (by kernel_rfl) (fun _ _ _ h => h) (Or.inl ⟨by rfl, ?_⟩) hS ?_
    rotate_left
    · (intro wx hSw; (try dsimp only at hSw); go_simp; try (with_reducible rfl))
    simp only [Act.put, List.setIfInBounds_toArray, List.set_cons_zero, List.set_cons_succ]
    refine wpTo_takeA (i := 6) (dn := 42) (v := ?_) rfl rfl (by kernel_rfl) (by decide) (by kernel_rfl) (by kernel_rfl) (fun _ _ _ h => h) (Or.inl ⟨by rfl, ?_⟩) hS ?_
    rotate_left
    · (intro wx hSw; (try dsimp only at hSw); go_simp; try (with_reducible rfl))
    simp only [Act.put, List.setIfInBounds_toArray, List.set_cons_zero, List.set_cons_succ]
    refine wpTo_takeA (i := 7) (dn := 43) (v := ?_) rfl rfl (by kernel_rfl) (by decide) (by kernel_rfl) (by kernel_rfl) (fun _ _ _ h => h) (Or.inl ⟨by rfl, ?_⟩) hS ?_
    rotate_left
    · (intro wx hSw; (try dsimp only at hSw); go_simp; try (with_reducible rfl))
    simp only [Act.put, List.setIfInBounds_toArray, List.set_cons_zero, List.set_cons_succ]
    refine wpTo_takeA (i := 8) (dn := 44) (v := ?_) rfl rfl (by kernel_rfl) (by decide) (by kernel_rfl) (by kernel_rfl) (fun _ _ _ h => h) (Or.inl ⟨by rfl, ?_⟩) hS ?_
    rotate_left
    · (intro wx hSw; (try dsimp only at hSw); go_simp; try (with_reducible rfl))
    simp only [Act.put, List.setIfInBounds_toArray, List.set_cons_zero, List.set_cons_succ]
    refine wpTo_one (i := 9) (by kernel_rfl) rfl (fun K hK => ?_)
    go_simp
    refine (HC6.out).mono ?_
    rintro e w7 ⟨rfl, X7⟩
    have r7 := (X7.out).1
    have x7 := (X7.out).2
    have hT7 := x7.made hSl HT6.out h0 (fun cs d e => (by cases e))
    have hA7 := x7.made hSl HA6.out h03 (fun cs d e => (by cases e))
    have hu7 := r7.kp.heap HU.out HUS.out
    have t07 : w7.cell? ⟨w.heap.size, 0, none⟩ = some (.pointer (some ⟨L.wb, 0, none⟩)) := cell_of_row w7 _ 0 _ _ _ hT7
    have t17 : w7.cell? ⟨w.heap.size, 1, none⟩ = some (.int .i64 f) := cell_of_row w7 _ 1 _ _ _ hT7
    have u37 : w7.cell? ⟨ub, 3, none⟩ = some (.string (ba n.1)) := cell_of_row w7 _ 3 _ _ _ hu7
    have u47 : w7.cell? ⟨ub, 4, none⟩ = some (.int .i64 n.2) := cell_of_row w7 _ 4 _ _ _ hu7
    have a17 : w7.cell? ⟨w3.heap.size, 1, none⟩ = some (.int .i64 tf) := cell_of_row w7 _ 1 _ _ _ hA7
    have a27 : w7.cell? ⟨w3.heap.size, 2, none⟩ = some (.int .i64 tt) := cell_of_row w7 _ 2 _ _ _ hA7
    have a37 : w7.cell? ⟨w3.heap.size, 3, none⟩ = some (.int .i64 er2) := cell_of_row w7 _ 3 _ _ _ hA7
    go_simp
    refine hK.out _ _ (fun _ => ⟨t07, t17, u37, u47, a17, a27, a37⟩) (fun _ => wpTo_end (by kernel_rfl) ?_)
    clear hK K hS
    refine NoPanic.normal ?_
    have HT7 := hide hT7
    have HA7 := hide hA7
    have u67 : w7.cell? ⟨ub, 6, none⟩ = some (.string (ba a.1)) := cell_of_row w7 _ 6 _ _ _ hu7
    have u77 : w7.cell? ⟨ub, 7, none⟩ = some (.int .i64 a.2) := cell_of_row w7 _ 7 _ _ _ hu7
    have KX7 : Hid (Kx L fs.length w0.heap.size w w7) := ((KX6.out).drew).trans x7
    have HC7 := hide (tadd_any f a 5 tf tt tw (r7.below ((Below.refl _ w7).drew)) (by rw [List.length_append, List.length_append]; omega))
    clear X7 r7 x7 hT7 hA7 hu7 HT6 HA6 HR6 KX6 t06 t16 u36 u46 a16 a26 a36 u37 u47 a37 HC6
    go_wp2_with fail
    refine wp_region_noPanic ?_
    refine wpTo_start (S := fun w' => w'.cell? ⟨w.heap.size, 0, none⟩ = some (.pointer (some ⟨L.wb, 0, none⟩)) ∧ w'.cell? ⟨w.heap.size, 1, none⟩ = some (.int .i64 f) ∧ w'.cell? ⟨ub, 6, none⟩ = some (.string (ba a.1)) ∧ w'.cell? ⟨ub, 7, none⟩ = some (.int .i64 a.2) ∧ w'.cell? ⟨w3.heap.size, 1, none⟩ = some (.int .i64 tf) ∧ w'.cell? ⟨w3.heap.size, 2, none⟩ = some (.int .i64 tt)) (z := 9) (by kernel_rfl) ?_
    have hS : w7.drew.cell? ⟨w.heap.size, 0, none⟩ = some (.pointer (some ⟨L.wb, 0, none⟩)) ∧ w7.drew.cell? ⟨w.heap.size, 1, none⟩ = some (.int .i64 f) ∧ w7.drew.cell? ⟨ub, 6, none⟩ = some (.string (ba a.1)) ∧ w7.drew.cell? ⟨ub, 7, none⟩ = some (.int .i64 a.2) ∧ w7.drew.cell? ⟨w3.heap.size, 1, none⟩ = some (.int .i64 tf) ∧ w7.drew.cell? ⟨w3.heap.size, 2, none⟩ = some (.int .i64 tt) := ⟨t07, t17, u67, u77, a17, a27⟩
    refine wpTo_takeA (i := 0) (dn := 46) (v := ?_) rfl rfl (by kernel_rfl) (by decide) (by kernel_rfl) (by kernel_rfl) (fun _ _ _ h => h) (Or.inl ⟨by rfl, ?_⟩) hS ?_
    rotate_left
    · (intro wx hSw; (try dsimp only at hSw); go_simp; try (with_reducible rfl))
    simp only [Act.put, List.setIfInBounds_toArray, List.set_cons_zero, List.set_cons_succ]
    refine wpTo_takeA (i := 1) (dn := 47) (v := ?_) rfl rfl (by kernel_rfl) (by decide) (by kernel_rfl) (by kernel_rfl) (fun _ _ _ h => h) (Or.inl ⟨by rfl, ?_⟩) hS ?_
    rotate_left
    · (intro wx hSw; (try dsimp only at hSw); go_simp; try (with_reducible rfl))
    simp only [Act.put, List.setIfInBounds_toArray, List.set_cons_zero, List.set_cons_succ]
    refine wpTo_takeA (i := 2) (dn := 48) (v := ?_) rfl rfl (by kernel_rfl) (by decide) (by kernel_rfl) (by kernel_rfl) (fun _ _ _ h => h) (Or.inl ⟨by rfl, ?_⟩) hS ?_
    rotate_left
    · (intro wx hSw; (try dsimp only at hSw); go_simp; try (with_reducible rfl))
    simp only [Act.put, List.setIfInBounds_toArray, List.set_cons_zero, List.set_cons_succ]
    refine wpTo_takeA (i := 3) (dn := 49) (v := ?_) rfl rfl (by kernel_rfl) (by decide) (by kernel_rfl) (by kernel_rfl) (fun _ _ _ h => h) (Or.inl ⟨by rfl, ?_⟩) hS ?_
    rotate_left
    · (intro wx hSw; (try dsimp only at hSw); go_simp; try (with_reducible rfl))
    simp only [Act.put, List.setIfInBounds_toArray, List.set_cons_zero, List.set_cons_succ]
    refine wpTo_takeA (i := 4) (dn := 50) (v := ?_) rfl rfl (by kernel_rfl) (by decide) (by kernel_rfl) (by kernel_rfl) (fun _ _ _ h => h) (Or.inl ⟨by rfl, ?_⟩) hS ?_
    rotate_left
    · (intro wx hSw; (try dsimp only at hSw); go_simp; try (with_reducible rfl))
    simp only [Act.put, List.setIfInBounds_toArray, List.set_cons_zero, List.set_cons_succ]
    refine wpTo_takeA (i := 5) (dn := 51) (v := ?_) rfl rfl (by kernel_rfl) (by decide) (by kernel_rfl) (by kernel_rfl) (fun _ _ _ h => h) (Or.inl ⟨by rfl, ?_⟩) hS ?_
    rotate_left
    · (intro wx hSw; (try dsimp only at hSw); go_simp; try (with_reducible rfl))
    simp only [Act.put, List.setIfInBounds_toArray, List.set_cons_zero, List.set_cons_succ]
    refine wpTo_takeA (i := 6) (dn := 52) (v := ?_) rfl rfl (by kernel_rfl) (by decide) (by kernel_rfl) (by kernel_rfl) (fun _ _ _ h => h) (Or.inl ⟨by rfl, ?_⟩) hS ?_
    rotate_left
    · (intro wx hSw; (try dsimp only at hSw); go_simp; try (with_reducible rfl))
    simp only [Act.put, List.setIfInBounds_toArray, List.set_cons_zero, List.set_cons_succ]
    refine wpTo_takeA (i := 7) (dn := 53) (v := ?_) rfl rfl (by kernel_rfl) (by decide) (by kernel_rfl) (by kernel_rfl) (fun _ _ _ h => h) (Or.inl ⟨by rfl, ?_⟩) hS ?_
    rotate_left
    · (intro wx hSw; (try dsimp only at hSw); go_simp; try (with_reducible rfl))
    simp only [Act.put, List.setIfInBounds_toArray, List.set_cons_zero, List.set_cons_succ]
    refine wpTo_one (i := 8) (by kernel_rfl) rfl (fun K hK => ?_)
    go_simp
    refine (HC7.out).mono ?_
    rintro e w8 ⟨rfl, X8⟩
    have r8 := (X8.out).1
    have x8 := (X8.out).2
    have hT8 := x8.made hSl HT7.out h0 (fun cs d e => (by cases e))
    have hA8 := x8.made hSl HA7.out h03 (fun cs d e => (by cases e))
    have hu8 := r8.kp.heap HU.out HUS.out
    have t08 : w8.cell? ⟨w.heap.size, 0, none⟩ = some (.pointer (some ⟨L.wb, 0, none⟩)) := cell_of_row w8 _ 0 _ _ _ hT8
    have t18 : w8.cell? ⟨w.heap.size, 1, none⟩ = some (.int .i64 f) := cell_of_row w8 _ 1 _ _ _ hT8
    have u68 : w8.cell? ⟨ub, 6, none⟩ = some (.string (ba a.1)) := cell_of_row w8 _ 6 _ _ _ hu8
    have u78 : w8.cell? ⟨ub, 7, none⟩ = some (.int .i64 a.2) := cell_of_row w8 _ 7 _ _ _ hu8
    have a18 : w8.cell? ⟨w3.heap.size, 1, none⟩ = some (.int .i64 tf) := cell_of_row w8 _ 1 _ _ _ hA8
    have a28 : w8.cell? ⟨w3.heap.size, 2, none⟩ = some (.int .i64 tt) := cell_of_row w8 _ 2 _ _ _ hA8
    go_simp
    refine hK.out _ _ (fun _ => ⟨t08, t18, u68, u78, a18, a28⟩) (fun _ => wpTo_end (by kernel_rfl) ?_)
    clear hK K hS
    refine NoPanic.normal ?_
    have HF : Hid (Tld w0 L fs (us ++ (tm ++ (X.tellU f n 4 (tf, tt, er2) ++ X.tellU f a 5 (tf, tt, tw)))) w w8) := by
      refine ⟨M3, ?_, HM4.out, HI4.out, ((KX7.out).drew).trans x8⟩
      simpa [List.append_assoc] using r8
    clear X8 r8 x8 hT8 hA8 hu8 t08 t18 u68 u78 a18 a28 t07 t17 u67 u77 a17 a27 HC7
    go_wp2_with fail
    go_end0
    exact ⟨rfl, HF⟩
theorem tuse_any (f k lo hi ub : Nat) (pub gs : Bool) (m n a : X.Nm) (hk : (X.itemsOf fs f)[k]? = some (.use pub m n gs a)) (hv : Av L fs.length w0.heap.size lo hi) (hb : lo ≤ ub ∧ ub < hi) (hub : w0.heap[ub]? = some (useC pub gs m n a)) (h : Run w0 L fs M us w) (hM : MOk fs M) (hId : Idle M) (hlim : us.length + (X.itU fs f k (.use pub m n gs a)).length ≤ 1073741824) :
    Calls Tryz.prog 29 #[.agg #[.pointer (some ⟨L.wb, 0, none⟩), .int .i64 f], .int .i64 k, .pointer (some ⟨ub, 0, none⟩)] w fun e w' => e = .returned (.tuple #[]) ∧ Hid (Tld w0 L fs (us ++ X.itU fs f k (.use pub m n gs a)) w w') := by
  obtain ⟨hmB, hnB, haB⟩ := h.itB hk
  have hul : X.itU fs f k (.use pub m n gs a) = X.tellU f m 3 (match X.modI fs m.1 with | some f' => (f', -1, 0) | none => (-1, -1, 4)) ++ (X.tellU f n 4 ((X.ansI fs (X.usesN fs) f k).1, (X.ansI fs (X.usesN fs) f k).2.1, if (X.ansI fs (X.usesN fs) f k).2.2 = 0 ∧ gs = false then X.twiceE (X.itemsOf fs f) k (if gs then a else n).1 else (X.ansI fs (X.usesN fs) f k).2.2) ++ X.tellU f a 5 ((X.ansI fs (X.usesN fs) f k).1, (X.ansI fs (X.usesN fs) f k).2.1, X.twiceE (X.itemsOf fs f) k (if gs then a else n).1)) := rfl
  have hm3 := fun (w : World) (h : Run w0 L fs M us w) => tmodule_any f m hmB h
  generalize hX : X.itU fs f k (.use pub m n gs a) = Xu at *
  generalize htm : X.tellU f m 3 (match X.modI fs m.1 with | some f' => (f', -1, 0) | none => (-1, -1, 4)) = tm at *
  rw [hul] at hlim ⊢
  rw [List.length_append, List.length_append] at hlim
  exact tuse_of f k lo hi ub pub gs m n a tm _ _ _ _ _ hv hb hub h (fun w h => hm3 w h (by omega)) (fun w h => used_any f k pub gs m n a ub h hM hId hk hub (hv.av ub hb.1 hb.2)) (fun M w h => ttwice_any f k _ hk h) rfl (by omega)
end Go.Proofs.YtdipmfdhnplpaaaGreatDoor
