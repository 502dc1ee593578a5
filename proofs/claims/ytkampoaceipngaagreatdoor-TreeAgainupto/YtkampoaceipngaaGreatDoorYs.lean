/- Package tree: the tree of a text in which a piece is replaced. -/
import Derived.Test.YtkampoaceipngaaGreatDoorYr
import Derived.Test.YtkampoaceipngaaGreatDoorRn
import Derived.Deep.RegionHeld3
namespace Go.Proofs.YtkampoaceipngaaGreatDoor
open Go.RowKit Go.Shelf
open M

/-- How many kids have been read anew. -/
def AgC (s N : ByteArray) (A b c : Nat) : Prop := ∃ j i0, (∀ i, i < j → kept (toks 0 (bs N)) (X.fileL (X.xt (bs s))) A i) ∧ j ≤ (X.fileL (X.xt (bs s))).length ∧ (j < (X.fileL (X.xt (bs s))).length → ¬ kept (toks 0 (bs N)) (X.fileL (X.xt (bs s))) A j) ∧ i0 ≤ (X.fileL (X.xt (bs s))).length ∧ (X.pls ((X.fileL (X.xt (bs s))).drop i0)).length ≤ b ∧ (i0 = 0 ∨ b < (X.pls ((X.fileL (X.xt (bs s))).drop (i0 - 1))).length) ∧ X.Cnt (X.Begs ((X.fileL (X.xt (bs s))).drop i0)) ((X.xt (bs N)).drop (tkn (X.fileL (X.xt (bs s))) j)) c
theorem remT_drop (s : ByteArray) (a : Nat) : remT s (toks 0 (bs s)) a = (X.xt (bs s)).drop a := by unfold remT X.xt; rw [List.map_drop]
theorem xt_len (s : ByteArray) : (X.xt (bs s)).length = (toks 0 (bs s)).length := by unfold X.xt; rw [List.length_map]
theorem xt_kinds (s : ByteArray) : ∀ t ∈ X.xt (bs s), t.1 ≠ 0 := fun t ht => by
  have := X.xt_fits (bs s) t ht
  have h := this.2.2.2.1
  omega
theorem IsRt.lt {w : World} {D : Nat → Prop} {B : Nat} {ps : List X.Part} (h : IsRt w D B ps) (hD : ∀ q, D q → q < w.heap.size) : B < w.heap.size := by
  obtain ⟨_, _, _, _, x, _⟩ := h.ex
  exact hD B x
theorem fileL_len (ts : List X.Tok) : (X.fileL ts).length ≤ 7 * ts.length := by
  have h1 := X.file_psz ts
  have h2 := X.pssz_len (X.fileL ts)
  have h3 : X.psz (X.file ts) = 1 + X.pssz (X.fileL ts) := by show X.psz (.br 2 _) = _; rw [X.psz]; rfl
  omega
set_option maxRecDepth 100000 in
set_option maxHeartbeats 4000000 in
theorem treplace_yes (tb : Nat) (s Y : ByteArray) (f u : Nat) (w : World) (h : IsTk w tb s) (htb : tb < w.heap.size) (hT : Tabs w) (hs : s.size ≤ 16777216) (hY : Y.size ≤ 16777216) (h1 : f ≤ u) (h2 : u ≤ s.size) (N : ByteArray) (HN : Hid (N = s.extract 0 f ++ Y ++ s.extract u s.size)) (A S : List Tk)
    (HA : Hid (anw ((Y.size : Int) - ((u : Int) - f)) (beg u (toks 0 (bs s))) (endF 0 (ahd f (toks 0 (bs s)))) ((rep (bs s) (bs Y) f u).drop (endF 0 (ahd f (toks 0 (bs s))))) = (A, S))) :
    Calls Tryz.prog 13 #[.pointer (some ⟨tb, 0, none⟩), .agg #[.int .i64 f, .int .i64 u, .string Y]] w fun e w' => ∃ tb' c : Nat, e = .returned (.tuple #[.pointer (some ⟨tb', 0, none⟩), .int .i64 c, .nilIface]) ∧ Hid (IsTk w' tb' N ∧ tb' < w'.heap.size ∧ Below w.heap.size w w' ∧ AgC s N (ahd f (toks 0 (bs s))).length S.length c) := by
  have hNs : N.size = f + Y.size + (s.size - u) := by rw [HN.out]; exact rep_size s Y h1 h2
  have hNb : bs N = rep (bs s) (bs Y) f u := by rw [HN.out]; exact rep_bs s Y f u
  obtain ⟨hSt, hLn⟩ := X.rep_stays (T := bs s) (X := bs Y) (f := f) (u := u) h1 (by rw [bs_len]; exact h2) (A' := A) (S := S) (by rw [bs_len]; exact HA.out)
  rw [← hNb] at hSt hLn
  clear hNb
  have HSt := hide hSt
  have HLn := hide hLn
  have hS := toks_S N (by omega)
  have hLN := hS.len
  have hlo := toks_len _ 0 (bs s) (Nat.le_refl _)
  rw [bs_len] at hlo
  have hln := toks_len _ 0 (bs N) (Nat.le_refl _)
  rw [bs_len] at hln
  have hAn := hSt.an
  have hbn := hSt.bo
  rw [xt_len] at hbn
  have hpl : (X.fileL (X.xt (bs s))).length ≤ 117440512 := by
    have := fileL_len (X.xt (bs s))
    rw [xt_len] at this; omega
  have hpp : (X.pls (X.fileL (X.xt (bs s)))).length ≤ 16777216 := by rw [X.fileL_lvs, xt_len]; omega
  obtain ⟨db, dv, Bo, D, g0, g1, g2, g3, g4, g5, g6⟩ := h.ex
  obtain ⟨rvo, g7, g8⟩ := g3.row
  have hDo : D Bo := by obtain ⟨_, _, _, _, x, _⟩ := g3.ex; exact x
  have HD := hide g2
  have HRt := hide g3
  have HDl := hide g4
  have HDv := hide g6
  have HKo := hide g8
  have G0 := hide g0
  have G1 := hide g1
  have G7 := hide g7
  have hBol := (HDl.out) Bo hDo
  clear h g2 g3 g4 g6 hSt hLn g0 g1 g7 g8
  go_enter Tryz.func13, Tryz.ntmps13
  go_wp2_with fail
  have B1 : Below w.heap.size w (w.alloc (Obj.cells #[.int .i64 f, .int .i64 u, .string Y] 38)) := (Below.refl _ w).alloc (Nat.le_refl _) _
  have HB1 := hide B1
  have hsp : Hid ((w.alloc (Obj.cells #[.int .i64 f, .int .i64 u, .string Y] 38)).heap[w.heap.size]? = some (.cells #[.int .i64 f, .int .i64 u, .string Y] 38 (0, 0))) := heap_alloc_new w _
  have hz1 : (w.alloc (Obj.cells #[.int .i64 f, .int .i64 u, .string Y] 38)).heap.size = w.heap.size + 1 := by simp
  clear B1
  generalize w.alloc (Obj.cells #[.int .i64 f, .int .i64 u, .string Y] 38) = W1 at *
  have p0 : W1.cell? ⟨tb, 0, none⟩ = some (.pointer (some ⟨db, 0, none⟩)) := (Kp.ofBelow HB1.out (fun _ => False)).cellv G0.out id
  have s0 : W1.cell? ⟨w.heap.size, 0, none⟩ = some (.int .i64 f) := cell_of_row W1 _ 0 _ _ _ hsp.out
  have s1 : W1.cell? ⟨w.heap.size, 1, none⟩ = some (.int .i64 u) := cell_of_row W1 _ 1 _ _ _ hsp.out
  have s2 : W1.cell? ⟨w.heap.size, 2, none⟩ = some (.string Y) := cell_of_row W1 _ 2 _ _ _ hsp.out
  have HRep : Hid (∀ W' : World, Below W1.heap.size W1 W' → Calls Tryz.prog 31 #[.pointer (some ⟨db, 0, none⟩), .agg #[.int .i64 f, .int .i64 u, .string Y]] W' fun e w' => ∃ b', e = .returned (.tuple #[.pointer (some ⟨b', 0, none⟩), .int .i64 A.length, .nilIface]) ∧
      Hid (∃ v', W'.heap.size ≤ b' ∧ b' < w'.heap.size ∧ IsD w' b' v' N ∧ (∀ k, v'.ownBlock = some k → k < w'.heap.size) ∧ Below W'.heap.size W' w')) := fun W' hW' => by
    have hb : Below w.heap.size w W' := (HB1.out).trans (hW'.mono (HB1.out).size)
    exact replace_yes db dv s Y f u W' ((HD.out).below hb) (hT.below hb) (by omega) (by omega) h1 h2 (fun k hk => Nat.lt_of_lt_of_le ((HDv.out) k hk) hb.size) (Nat.lt_of_lt_of_le g5 hb.size) N HN A S HA
  go_region_held3 (fun w' => w'.cell? ⟨tb, 0, none⟩ = some (.pointer (some ⟨db, 0, none⟩)) ∧ w'.cell? ⟨w.heap.size, 0, none⟩ = some (.int .i64 f) ∧ w'.cell? ⟨w.heap.size, 1, none⟩ = some (.int .i64 u) ∧ w'.cell? ⟨w.heap.size, 2, none⟩ = some (.string Y))
    (first | (with_reducible exact ⟨kcb K2 (World.block_lt_of_cell? _ _ p0) p0, kcb K2 (World.block_lt_of_cell? _ _ s0) s0, kcb K2 (World.block_lt_of_cell? _ _ s1) s1, kcb K2 (World.block_lt_of_cell? _ _ s2) s2⟩) | go_keep)
    ((go_at_call 31; refine ((HRep.out) _ ?_).mono ?_; exact (Below.refl _ W1).drew; rintro e w2 ⟨nb, rfl, H2⟩; have K2 : Below W1.heap.size W1 w2 := ((Below.refl _ W1).drew).trans ((H2.out).choose_spec.2.2.2.2)))
  have HD2 : Hid (∃ v', w.heap.size ≤ nb ∧ nb < w2.heap.size ∧ IsD w2 nb v' N ∧ (∀ k, v'.ownBlock = some k → k < w2.heap.size)) := by
    obtain ⟨v', x1, x2, x3, x4, -⟩ := H2.out
    exact ⟨v', by have := ((Below.refl W1.heap.size W1).drew).size; omega, x2, x3, x4⟩
  have HB2 : Hid (Below w.heap.size w w2) := (HB1.out).trans (K2.mono (HB1.out).size)
  have hz2 := K2.size
  have r0 : w2.cell? ⟨tb, 0, none⟩ = some (.pointer (some ⟨db, 0, none⟩)) := kcb K2 (World.block_lt_of_cell? _ _ p0) p0
  have r1 : w2.cell? ⟨w.heap.size, 0, none⟩ = some (.int .i64 f) := kcb K2 (World.block_lt_of_cell? _ _ s0) s0
  clear p0 s0 s1 s2 H2 K2 HRep hsp
  have HAh : Hid (∀ W' : World, Below w2.heap.size w2 W' → Calls Tryz.prog 32 #[.pointer (some ⟨db, 0, none⟩), .int .i64 f] W' fun e w' => e = .returned (.int .i64 (ahd f (toks 0 (bs s))).length) ∧ Below W'.heap.size W' w') := fun W' hW' => by
    have hb : Below w.heap.size w W' := (HB2.out).trans (hW'.mono (HB2.out).size)
    exact docAhead_any db dv s f W' ((HD.out).below hb) (by omega) (by omega)
  generalize hal : (ahd f (toks 0 (bs s))).length = al at *
  go_wp2_with fail
  go_region_held3 (fun w' => w'.cell? ⟨tb, 0, none⟩ = some (.pointer (some ⟨db, 0, none⟩)) ∧ w'.cell? ⟨w.heap.size, 0, none⟩ = some (.int .i64 f))
    (first | (with_reducible exact ⟨kcb K3 (World.block_lt_of_cell? _ _ r0) r0, kcb K3 (World.block_lt_of_cell? _ _ r1) r1⟩) | go_keep)
    ((go_at_call 32; refine ((HAh.out) _ ?_).mono ?_; exact (Below.refl _ w2).drew; rintro e w3 ⟨rfl, k3⟩; have K3 : Below w2.heap.size w2 w3 := ((Below.refl _ w2).drew).trans k3))
  have HB3 : Hid (Below w.heap.size w w3) := (HB2.out).trans (K3.mono (HB2.out).size)
  have hz3 := K3.size
  have HD3 : Hid (∃ v', w.heap.size ≤ nb ∧ nb < w3.heap.size ∧ IsD w3 nb v' N ∧ (∀ k, v'.ownBlock = some k → k < w3.heap.size)) := by
    obtain ⟨v', x1, x2, x3, x4⟩ := HD2.out
    exact ⟨v', x1, by omega, x3.below K3, fun k hk => by have := x4 k hk; omega⟩
  clear r0 r1 K3 k3 HD2 HAh HB2 HB1
  obtain ⟨nv, hn1, hn2, hn3, hn4⟩ := HD3.out
  have HND := hide hn3
  have HNV := hide hn4
  clear hn3 hn4 HD3
  go_wp2_with fail
  refine (readerOf_any nb nv N w3 HND.out (by omega)).mono ?_
  rintro e w4 ⟨rb, tv, rfl, H4⟩
  have hz4 := (H4.out).2.2.2.size
  have hrb := (H4.out).2.1
  have hrb4 := (H4.out).1.raw.lt
  have hnew : Hid ((w4.alloc (Obj.cells #[.int .i64 2, .slice none 0 0] 57)).heap[w4.heap.size]? = some (.cells #[.int .i64 2, .slice none 0 0] 57 (0, 0))) := heap_alloc_new w4 _
  have kA : Below w4.heap.size w4 (w4.alloc (Obj.cells #[.int .i64 2, .slice none 0 0] 57)) := (Below.refl _ w4).alloc (Nat.le_refl _) _
  have HB5 : Hid (Below w.heap.size w (w4.alloc (Obj.cells #[.int .i64 2, .slice none 0 0] 57))) := ((HB3.out).trans ((H4.out).2.2.2.mono (HB3.out).size)).trans (kA.mono (by have := (HB3.out).size; omega))
  have HW : Hid (Wk (w4.alloc (Obj.cells #[.int .i64 2, .slice none 0 0] 57)) rb N (toks 0 (bs N)) tv 0 0 w4.heap.size 2 (.slice none 0 0) [] [] D) := by
    obtain ⟨r1, r2, r3, r4⟩ := H4.out
    have hz0 := (HB3.out).size
    refine ⟨r1.keep (Kp.ofBelow kA (fun _ => False)) id (fun _ _ => id), ⟨hnew.out, World.ownsRow_nil _ _ _ _⟩, rfl, Each.nil _ _, (fun q hq => by have := (HDl.out) q hq; simp; omega), ⟨fun hd => by have := (HDl.out) _ hd; omega, fun hd => by have := (HDl.out) _ hd; omega, by omega⟩, (fun g hg => by cases hg), fun q hq => ?_⟩
    have := r3 q hq
    exact ⟨fun hd => by have := (HDl.out) _ hd; omega, by omega, (fun e => by cases e), by simp; omega⟩
  have hz5 : (w4.alloc (Obj.cells #[.int .i64 2, .slice none 0 0] 57)).heap.size = w4.heap.size + 1 := by simp
  have HN5 : Hid (IsD (w4.alloc (Obj.cells #[.int .i64 2, .slice none 0 0] 57)) nb nv N) := ((HND.out).below (H4.out).2.2.2).below kA
  clear H4 kA HND hnew HB3
  have q1 : (w4.alloc (Obj.cells #[.int .i64 2, .slice none 0 0] 57)).cell? ⟨tb, 1, none⟩ = some (.pointer (some ⟨Bo, 0, none⟩)) := (Kp.ofBelow HB5.out (fun _ => False)).cellv G1.out id
  have q2 : (w4.alloc (Obj.cells #[.int .i64 2, .slice none 0 0] 57)).cell? ⟨Bo, 1, none⟩ = some rvo := (Kp.ofBelow HB5.out (fun _ => False)).cellv G7.out id
  go_wp2_with fail
  generalize w4.alloc (Obj.cells #[.int .i64 2, .slice none 0 0] 57) = w5 at *
  generalize hB : w4.heap.size = B at *
  have HK5 : Hid (IsKs w5 D rvo (X.fileL (X.xt (bs s)))) := (HKo.out).keep (Kp.ofBelow HB5.out (fun _ => False)) (fun _ _ => id)
  have HAl : Hid (al ≤ (toks 0 (bs N)).length) := hAn
  refine (keep_any w5 rb N (toks 0 (bs N)) tv B (.slice none 0 0) D rvo (X.fileL (X.xt (bs s))) al hS HAl.out HW.out HK5.out (by omega) (by omega)).mono ?_
  rintro e w6 ⟨rfl, j, rvj, vsj, hj, HInK, HNk⟩
  have HF : Hid (X.fileL (remT N (toks 0 (bs N)) 0) = (X.fileL (X.xt (bs s))).take j ++ X.fileL (remT N (toks 0 (bs N)) (tkn (X.fileL (X.xt (bs s))) j))) := by
    show _ = _
    rw [remT_drop, remT_drop, List.drop_zero]
    exact kept_all HSt.out (xt_kinds s) (HInK.out).al j (Nat.le_refl _)
  have HEn0 : Hid (∀ i, (X.pls ((X.fileL (X.xt (bs s))).drop i)).length ≤ S.length → X.fileL (remT N (toks 0 (bs N)) ((toks 0 (bs N)).length - (X.pls ((X.fileL (X.xt (bs s))).drop i)).length)) = (X.fileL (X.xt (bs s))).drop i) := fun i hi => by
    have := X.again_end (old := X.xt (bs s)) (new := X.xt (bs N)) (xt_kinds s) (HSt.out).bo (HSt.out).bn (HSt.out).bk hi
    rw [remT_drop, ← xt_len]; exact this
  have hfar : ∀ q, q < w.heap.size → ¬ Sr rb B (.slice none 0 0) q := by
    intro q hq e
    rcases e with e | e | e
    · omega
    · omega
    · cases e
  have kp6 := (HInK.out).kp
  have HB6 : Hid (Below w.heap.size w w6) := (HB5.out).trans (Kp.below kp6 (by have := (HB5.out).size; omega) (fun k e => by
    rcases e with e | e | e
    · omega
    · omega
    · cases e))
  have t1 : w6.cell? ⟨tb, 1, none⟩ = some (.pointer (some ⟨Bo, 0, none⟩)) := (Kp.ofBelow HB6.out (fun _ => False)).cellv G1.out id
  have t2 : w6.cell? ⟨Bo, 1, none⟩ = some rvo := (Kp.ofBelow HB6.out (fun _ => False)).cellv G7.out id
  obtain ⟨⟨-, t3, -⟩, -⟩ := (HInK.out).wk.rdr.raw.facts
  obtain ⟨aot, capt, htv, -⟩ := (HInK.out).wk.rdr.row
  have hw3 : IntKind.i64.wrap (IntKind.i64.wrap (((toks 0 (bs N)).length : Int) - (al : Int)) - (A.length : Int)) = (S.length : Int) := by
    have := HLn.out
    rw [IntKind.wrap_i64, IntKind.wrap_i64]
    omega
  have HEnd : Hid (∀ W' : World, Below w6.heap.size w6 W' → Calls Tryz.prog 35 #[rvo, .int .i64 S.length] W' fun e w' => ∃ rv' i, e = .returned rv' ∧ i ≤ (X.fileL (X.xt (bs s))).length ∧ Hid (IsKs w' D rv' ((X.fileL (X.xt (bs s))).drop i)) ∧ Hid ((X.pls ((X.fileL (X.xt (bs s))).drop i)).length ≤ S.length) ∧ Hid (i = 0 ∨ S.length < (X.pls ((X.fileL (X.xt (bs s))).drop (i - 1))).length) ∧ Below W'.heap.size W' w') := fun W' hW' => by
    have hb : Below w.heap.size w W' := (HB6.out).trans (hW'.mono (HB6.out).size)
    exact ending_any W' D rvo _ S.length ((HKo.out).keep (Kp.ofBelow hb (fun _ => False)) (fun _ _ => id)) (by omega) (by omega) (by omega)
  have HUnt : Hid (∀ (W' : World) (rvn : Value) (i : Nat), i ≤ (X.fileL (X.xt (bs s))).length → Below w6.heap.size w6 W' → IsKs W' D rvn ((X.fileL (X.xt (bs s))).drop i) → (X.pls ((X.fileL (X.xt (bs s))).drop i)).length ≤ S.length → Calls Tryz.prog 34 #[.pointer (some ⟨rb, 0, none⟩), .pointer (some ⟨B, 0, none⟩), rvn] W' fun e w' => ∃ c : Nat, e = .returned (.int .i64 c) ∧ Hid (UnD W' rb N (toks 0 (bs N)) tv B rvj D ((X.fileL (X.xt (bs s))).drop i) (tkn (X.fileL (X.xt (bs s))) j) c w')) := fun W' rvn i hi hW' hks hle => by
    have hK := (HInK.out).below hW'
    refine tuntil_any W' rb N (toks 0 (bs N)) tv B rvj D rvn _ _ vsj _ hS hK.wk hK.ks HF.out hks (by rw [List.length_drop]; omega) (by omega) (by rw [List.length_take]; omega) (fun k hk => ?_)
    rw [List.drop_drop] at *
    refine (HEn0.out) (i + k) (Nat.le_trans (begs_mono (ops := X.fileL (X.xt (bs s))) (i := i) (j := i + k) (by omega)) hle)
  have hown : ∀ q, rvj.ownBlock = some q → B + 1 ≤ q := fun q hq => by
    rcases (HInK.out).ow q hq with e | e
    · cases e
    · omega
  have HCel : Hid (∀ (w7 w8 : World) (i0 c : Nat), w7.cell? ⟨tb, 1, none⟩ = some (.pointer (some ⟨Bo, 0, none⟩)) → w7.cell? ⟨Bo, 1, none⟩ = some rvo → UnD w7 rb N (toks 0 (bs N)) tv B rvj D ((X.fileL (X.xt (bs s))).drop i0) (tkn (X.fileL (X.xt (bs s))) j) c w8 → w8.cell? ⟨tb, 1, none⟩ = some (.pointer (some ⟨Bo, 0, none⟩)) ∧ w8.cell? ⟨Bo, 1, none⟩ = some rvo ∧ w8.cell? ⟨rb, 1, none⟩ = some (.slice aot (toks 0 (bs N)).length capt)) := fun w7 w8 i0 c a1 a2 hU => by
    have hz0 := (HB5.out).size
    have hno : ∀ q, q < w.heap.size → ¬ Sr rb B rvj q := by
      intro q hq e
      rcases e with e | e | e
      · omega
      · omega
      · have := hown q e; omega
    obtain ⟨tv', a', r1, rfl⟩ := hU.rt
    obtain ⟨⟨-, x3, -⟩, -⟩ := r1.raw.facts
    exact ⟨hU.kp.cellv a1 (hno _ htb), hU.kp.cellv a2 (hno _ hBol), by rw [x3, htv]⟩
  have HEndF : Hid (∀ (w7 w8 : World) (i0 c : Nat), i0 ≤ (X.fileL (X.xt (bs s))).length → Below w6.heap.size w6 w7 → (X.pls ((X.fileL (X.xt (bs s))).drop i0)).length ≤ S.length → (i0 = 0 ∨ S.length < (X.pls ((X.fileL (X.xt (bs s))).drop (i0 - 1))).length) → UnD w7 rb N (toks 0 (bs N)) tv B rvj D ((X.fileL (X.xt (bs s))).drop i0) (tkn (X.fileL (X.xt (bs s))) j) c w8 → IsD w8 nb nv N ∧ (∃ D2 : Nat → Prop, IsRt w8 D2 B (X.fileL (X.xt (bs N))) ∧ ∀ q, D2 q → q < w8.heap.size) ∧ Below w.heap.size w w8 ∧ AgC s N al S.length c) := fun w7 w8 i0 c hi0 hk7 hl7 hm7 hU => by
    have hz0 := (HB5.out).size
    have hz6 := (HInK.out).kp.size
    have hz7 := hk7.size
    have hno : ∀ q, q < B → q ≠ rb → ¬ Sr rb B rvj q := by
      intro q hq hqr e
      rcases e with e | e | e
      · exact hqr e
      · omega
      · have := hown q e; omega
    have hno5 : ∀ q, q < B → q ≠ rb → ¬ Sr rb B (.slice none 0 0) q := by
      intro q hq hqr e
      rcases e with e | e | e
      · exact hqr e
      · omega
      · cases e
    have hd6 : IsD w6 nb nv N := (HN5.out).keep kp6 (hno5 _ (by omega) (by omega)) (fun k hk => by have := (HNV.out) k hk; exact hno5 _ (by omega) (by omega))
    have hd8 : IsD w8 nb nv N := (hd6.below hk7).keep hU.kp (hno _ (by omega) (by omega)) (fun k hk => by have := (HNV.out) k hk; exact hno _ (by omega) (by omega))
    obtain ⟨rv8, vs8, D8, b1, b2, b3, b4, b5, b6⟩ := hU.ex
    have hr := b1.root b2 b3
    rw [remT_drop, List.drop_zero] at hr
    refine ⟨hd8, ⟨_, hr, ?_⟩, ?_, j, i0, (HInK.out).al, hj, HNk.out, hi0, hl7, hm7, ?_⟩
    · rintro q (e | e | e)
      · exact b6 q e
      · subst e; exact b1.lt
      · exact (owns_ge b1.row q e).2
    · have hb7 : Below w.heap.size w w7 := (HB6.out).trans (hk7.mono (HB6.out).size)
      exact hb7.trans (Kp.below hU.kp hb7.size (fun k e => by
        rcases e with e | e | e
        · omega
        · omega
        · have := hown k e; omega))
    · have := hU.cn
      rwa [remT_drop] at this
  clear q1 q2 HW HK5 HF HEn0 kp6
  have hSl : S.length ≤ 16777216 := by omega
  go_wp2_with fail
  rw [htv] at t3
  go_region_held3 (fun w' => w'.cell? ⟨tb, 1, none⟩ = some (.pointer (some ⟨Bo, 0, none⟩)) ∧ w'.cell? ⟨Bo, 1, none⟩ = some rvo ∧ w'.cell? ⟨rb, 1, none⟩ = some (.slice aot (toks 0 (bs N)).length capt))
    (first | (with_reducible exact KK2) | (with_reducible exact KK) | go_keep)
    (first | (go_at_call 35; (try rw [hw3]); refine ((HEnd.out) _ ?_).mono ?_; exact (Below.refl _ w6).drew; rintro e w7 ⟨rve, i0, rfl, hi0, HK7, HL7, HM7, k7⟩; have K7 : Below w6.heap.size w6 w7 := ((Below.refl _ w6).drew).trans k7; have KK : w7.cell? ⟨tb, 1, none⟩ = some (.pointer (some ⟨Bo, 0, none⟩)) ∧ w7.cell? ⟨Bo, 1, none⟩ = some rvo ∧ w7.cell? ⟨rb, 1, none⟩ = some (.slice aot (toks 0 (bs N)).length capt) := ⟨kcb K7 (World.block_lt_of_cell? _ _ t1) t1, kcb K7 (World.block_lt_of_cell? _ _ t2) t2, kcb K7 (World.block_lt_of_cell? _ _ t3) t3⟩) | (go_at_call 34; refine ((HUnt.out) w7 rve i0 hi0 K7 HK7.out HL7.out).mono ?_; rintro e w8 ⟨c, rfl, HU⟩; have KK2 : w8.cell? ⟨tb, 1, none⟩ = some (.pointer (some ⟨Bo, 0, none⟩)) ∧ w8.cell? ⟨Bo, 1, none⟩ = some rvo ∧ w8.cell? ⟨rb, 1, none⟩ = some (.slice aot (toks 0 (bs N)).length capt) := (HCel.out) w7 w8 i0 c KK.1 KK.2.1 HU.out))
  have HB7 : Hid (Below w.heap.size w w7) := (HB6.out).trans (K7.mono (HB6.out).size)
  have HFin := hide ((HEndF.out) w7 w8 i0 c hi0 K7 HL7.out HM7.out HU.out)
  clear KK KK2 k7 K7 HK7 HL7 HM7 HU HEnd HUnt t1 t2 t3
  go_wp2_with fail
  first | go_ret3 | go_ret
  obtain ⟨x1, x2, x3, x4⟩ := HFin.out
  have kT : Below w8.heap.size w8 (w8.alloc (Obj.cells #[.pointer (some ⟨nb, 0, none⟩), .pointer (some ⟨B, 0, none⟩)] 67)) := (Below.refl _ w8).alloc (Nat.le_refl _) _
  refine ⟨w8.heap.size, c, rfl, ?_, by simp, x3.trans (kT.mono x3.size), by rw [hal]; exact x4⟩
  obtain ⟨D2, y1, y2⟩ := x2
  refine ⟨nb, nv, B, D2, ?_, ?_, x1.below kT, y1.keep (Kp.ofBelow kT (fun _ => False)) (fun _ _ => id), fun q hq => by have := y2 q hq; simp; omega, ?_, fun k hk => ?_⟩
  · rw [cell_of_row _ _ 0 _ _ _ (heap_alloc_new w8 _)]; rfl
  · rw [cell_of_row _ _ 1 _ _ _ (heap_alloc_new w8 _)]; rfl
  · have := x3.size
    have h8 := y1.lt y2
    simp; omega
  · have h8 := y1.lt y2
    have := (HNV.out) k hk
    simp; omega
set_option maxRecDepth 100000 in
set_option maxHeartbeats 2000000 in
theorem treplace_no (tb : Nat) (s Y : ByteArray) (f u : Int) (w : World) (h : IsTk w tb s) (hno : f < 0 ∨ u < f ∨ (s.size : Int) < u) :
    Calls Tryz.prog 13 #[.pointer (some ⟨tb, 0, none⟩), .agg #[.int .i64 f, .int .i64 u, .string Y]] w fun e w' => e = .returned (.tuple #[.pointer none, .int .i64 0, .iface 48 (.int .i64 1)]) ∧ Below w.heap.size w w' := by
  obtain ⟨db, dv, Bo, D, g0, g1, g2, g3, g4, g5, g6⟩ := h.ex
  have HD := hide g2
  have G0 := hide g0
  clear h g0 g1 g2 g3 g4 g6
  go_enter Tryz.func13, Tryz.ntmps13
  go_wp2_with fail
  have HB1 : Hid (Below w.heap.size w (w.alloc (Obj.cells #[.int .i64 f, .int .i64 u, .string Y] 38))) := (Below.refl _ w).alloc (Nat.le_refl _) _
  have hsp : Hid ((w.alloc (Obj.cells #[.int .i64 f, .int .i64 u, .string Y] 38)).heap[w.heap.size]? = some (.cells #[.int .i64 f, .int .i64 u, .string Y] 38 (0, 0))) := heap_alloc_new w _
  generalize w.alloc (Obj.cells #[.int .i64 f, .int .i64 u, .string Y] 38) = W1 at *
  have p0 : W1.cell? ⟨tb, 0, none⟩ = some (.pointer (some ⟨db, 0, none⟩)) := (Kp.ofBelow HB1.out (fun _ => False)).cellv G0.out id
  have s0 : W1.cell? ⟨w.heap.size, 0, none⟩ = some (.int .i64 f) := cell_of_row W1 _ 0 _ _ _ hsp.out
  have s1 : W1.cell? ⟨w.heap.size, 1, none⟩ = some (.int .i64 u) := cell_of_row W1 _ 1 _ _ _ hsp.out
  have s2 : W1.cell? ⟨w.heap.size, 2, none⟩ = some (.string Y) := cell_of_row W1 _ 2 _ _ _ hsp.out
  have HRep : Hid (∀ W' : World, Below W1.heap.size W1 W' → Calls Tryz.prog 31 #[.pointer (some ⟨db, 0, none⟩), .agg #[.int .i64 f, .int .i64 u, .string Y]] W' fun e w' => e = .returned (.tuple #[.pointer none, .int .i64 0, .iface 48 (.int .i64 1)]) ∧ Below W'.heap.size W' w') := fun W' hW' => by
    have hb : Below w.heap.size w W' := (HB1.out).trans (hW'.mono (HB1.out).size)
    exact replace_no db dv s Y f u W' ((HD.out).below hb) hno
  clear hno
  go_region_held3 (fun w' => w'.cell? ⟨tb, 0, none⟩ = some (.pointer (some ⟨db, 0, none⟩)) ∧ w'.cell? ⟨w.heap.size, 0, none⟩ = some (.int .i64 f) ∧ w'.cell? ⟨w.heap.size, 1, none⟩ = some (.int .i64 u) ∧ w'.cell? ⟨w.heap.size, 2, none⟩ = some (.string Y))
    (first | (with_reducible exact ⟨kcb K2 (World.block_lt_of_cell? _ _ p0) p0, kcb K2 (World.block_lt_of_cell? _ _ s0) s0, kcb K2 (World.block_lt_of_cell? _ _ s1) s1, kcb K2 (World.block_lt_of_cell? _ _ s2) s2⟩) | go_keep)
    ((go_at_call 31; refine ((HRep.out) _ ?_).mono ?_; exact (Below.refl _ W1).drew; rintro e w2 ⟨rfl, k2⟩; have K2 : Below W1.heap.size W1 w2 := ((Below.refl _ W1).drew).trans k2))
  have HB2 : Hid (Below w.heap.size w w2) := (HB1.out).trans (K2.mono (HB1.out).size)
  clear p0 s0 s1 s2 K2 k2 HRep
  go_wp2_with fail
  first | go_ret3 | go_ret
  exact ⟨rfl, HB2.out⟩
end Go.Proofs.YtkampoaceipngaaGreatDoor
