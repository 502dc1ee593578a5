/- Package scope: the names in any expression. -/
import Derived.Test.YtdipmfdhnplpaaaGreatDoorQn
import Derived.Test.YtdipmfdhnplpaaaGreatDoorQl
import Derived.Test.YtdipmfdhnplpaaaGreatDoorZw
namespace Go.Proofs.YtdipmfdhnplpaaaGreatDoor
open Go.RowKit
open M
variable {w0 : World} {L : Lay} {fs : List X.Fl} {lo hi f : Nat}
theorem keepA (w : World) (o : Obj) : Kp (fun _ => False) w (w.alloc o) := Kp.ofBelow ((Below.refl _ w).alloc (Nat.le_refl _) o) _
mutual
theorem tex_ok (hf : f < fs.length) (hv : Av L fs.length w0.heap.size lo hi) : ∀ e : X.Ex, X.exB 268435456 e → TexOk w0 L fs lo hi f e
  | .lit k x, _ => fun M us w v bv sc h hM hI hE hbk hlim => by
    cases hE with
    | lit b _ _ hb hc =>
      have e1 : X.exU f (X.topA fs f) sc (.lit k x) = X.exUs f (X.topA fs f) sc [] := by rw [X.exU, X.exUs]
      rw [e1] at hlim ⊢
      exact texprLiteral f lo hi b [] sc bv hv (fun j e hj => by simp at hj) ((partsLiteral_any b _).mono (fun e w' h => ⟨_, h.1, by rw [h.2]; exact Pts.nil _ _ _⟩)) h hM hI hbk hlim
  | .hole i, _ => fun M us w v bv sc h hM hI hE hbk hlim => by
    cases hE with
    | hole b _ hb hc =>
      have e1 : X.exU f (X.topA fs f) sc (.hole i) = X.exUs f (X.topA fs f) sc [] := by rw [X.exU, X.exUs]
      rw [e1] at hlim ⊢
      exact texprHole f lo hi b [] sc bv hv (fun j e hj => by simp at hj) ((partsHole_any b _).mono (fun e w' h => ⟨_, h.1, by rw [h.2]; exact Pts.nil _ _ _⟩)) h hM hI hbk hlim
  | .missing, _ => fun M us w v bv sc h hM hI hE hbk hlim => by
    cases hE with
    | missing b hb =>
      have e1 : X.exU f (X.topA fs f) sc .missing = X.exUs f (X.topA fs f) sc [] := by rw [X.exU, X.exUs]
      rw [e1] at hlim ⊢
      exact texprMissing f lo hi b [] sc bv hv (fun j e hj => by simp at hj) ((partsMissing_any b _).mono (fun e w' h => ⟨_, h.1, by rw [h.2]; exact Pts.nil _ _ _⟩)) h hM hI hbk hlim
  | .var n, hB => fun M us w v bv sc h hM hI hE hbk hlim => by
    rw [X.exB] at hB
    cases hE with
    | var b _ hb hc => exact texprVar f lo hi b n sc bv hf hv hB hb hc h hM hI hbk hlim
  | .lett n e1 e2, hB => fun M us w v bv sc h hM hI hE hbk hlim => by
    rw [X.exB] at hB
    cases hE with
    | lett b _ v1 v2 _ _ hb hc q1 q2 => exact texprLet f lo hi b n v1 v2 e1 e2 sc bv hv (tex_ok hf hv e1 hB.2.1) (tex_ok hf hv e2 hB.2.2) hB.1 hb hc q1 q2 h hM hI hbk hlim
  | .ite a b c, hB => fun M us w v bv sc h hM hI hE hbk hlim => by
    rw [X.exB] at hB
    have ha := tex_ok hf hv a hB.1
    have hb' := tex_ok hf hv b hB.2.1
    have hc' := tex_ok hf hv c hB.2.2
    cases hE with
    | ite p v1 v2 v3 _ _ _ hb hc q1 q2 q3 =>
      have e1 : X.exU f (X.topA fs f) sc (.ite a b c) = X.exUs f (X.topA fs f) sc [a, b, c] := by rw [X.exU, X.exUs, X.exUs, X.exUs, X.exUs, List.append_nil]
      rw [e1] at hlim ⊢
      refine texprIf f lo hi p [a, b, c] sc bv hv (fun j e hj => ?_) ((partsIf_any p v1 v2 v3 a b c _ lo hi ((keepA w _).heap hc id) (q1.keep (keepA w _) (fun _ _ _ => id)) (q2.keep (keepA w _) (fun _ _ _ => id)) (q3.keep (keepA w _) (fun _ _ _ => id))).mono (fun e w' h => h)) h hM hI hbk hlim
      match j with
      | 0 => simp at hj; subst hj; exact ha
      | 1 => simp at hj; subst hj; exact hb'
      | 2 => simp at hj; subst hj; exact hc'
      | j + 3 => simp at hj
  | .fn ns e, hB => fun M us w v bv sc h hM hI hE hbk hlim => by
    rw [X.exB] at hB
    cases hE with
    | fn b pb _ v1 _ hb hc hp q1 => exact texprFun f lo hi b pb ns v1 e sc bv hv (tex_ok hf hv e hB.2) hB.1 hb hc hp q1 h hM hI hbk hlim
  | .bin l x r, hB => fun M us w v bv sc h hM hI hE hbk hlim => by
    rw [X.exB] at hB
    have ha := tex_ok hf hv l hB.1
    have hb' := tex_ok hf hv r hB.2
    cases hE with
    | bin p v1 v2 _ _ _ hb hc q1 q2 =>
      have e1 : X.exU f (X.topA fs f) sc (.bin l x r) = X.exUs f (X.topA fs f) sc [l, r] := by rw [X.exU, X.exUs, X.exUs, X.exUs, List.append_nil]
      rw [e1] at hlim ⊢
      refine texprBinary f lo hi p [l, r] sc bv hv (fun j e hj => ?_) ((partsBinary_any p x v1 v2 l r _ lo hi ((keepA w _).heap hc id) (q1.keep (keepA w _) (fun _ _ _ => id)) (q2.keep (keepA w _) (fun _ _ _ => id))).mono (fun e w' h => h)) h hM hI hbk hlim
      match j with
      | 0 => simp at hj; subst hj; exact ha
      | 1 => simp at hj; subst hj; exact hb'
      | j + 2 => simp at hj
  | .call g gs, hB => fun M us w v bv sc h hM hI hE hbk hlim => by
    rw [X.exB] at hB
    have ha := tex_ok hf hv g hB.1
    have hs := texs_ok hf hv gs hB.2.2
    cases hE with
    | call p v1 _ ao cap vs _ hb hc hcap q1 hr hp =>
      have e1 : X.exU f (X.topA fs f) sc (.call g gs) = X.exUs f (X.topA fs f) sc (g :: gs) := by rw [X.exU, X.exUs]
      rw [e1] at hlim ⊢
      refine texprCall f lo hi p (g :: gs) sc bv hv (fun j e hj => ?_) ((partsCall_any p v1 g ao cap vs gs _ lo hi ((keepA w _).heap hc id) (q1.keep (keepA w _) (fun _ _ _ => id)) (fun j hj => by obtain ⟨g', y1, y2, y3, y4⟩ := hr j hj; exact ⟨g', y1, y2, y3, (keepA w _).cellv y4 id⟩) (fun j e hj => (hp j e hj).keep (keepA w _) (fun _ _ _ => id)) hB.2.1).mono (fun e w' h => h)) h hM hI hbk hlim
      match j with
      | 0 => simp at hj; subst hj; exact ha
      | j + 1 => exact hs j e (by simpa using hj)
  | .list l, hB => fun M us w v bv sc h hM hI hE hbk hlim => by
    rw [X.exB] at hB
    have hs := texs_ok hf hv l hB.2
    cases hE with
    | list p ao cap vs _ hb hc hcap hr hp =>
      have e1 : X.exU f (X.topA fs f) sc (.list l) = X.exUs f (X.topA fs f) sc l := by rw [X.exU]
      rw [e1] at hlim ⊢
      exact texprList f lo hi p l sc bv hv hs ((partsList_any p ao cap vs l _ lo hi ((keepA w _).heap hc id) (fun j hj => by obtain ⟨g', y1, y2, y3, y4⟩ := hr j hj; exact ⟨g', y1, y2, y3, (keepA w _).cellv y4 id⟩) (fun j e hj => (hp j e hj).keep (keepA w _) (fun _ _ _ => id)) hB.1).mono (fun e w' h => h)) h hM hI hbk hlim
  | .group e0, hB => fun M us w v bv sc h hM hI hE hbk hlim => by
    rw [X.exB] at hB
    have ha := tex_ok hf hv e0 hB
    cases hE with
    | group p v1 _ hb hc q1 =>
      have e1 : X.exU f (X.topA fs f) sc (.group e0) = X.exUs f (X.topA fs f) sc [e0] := by rw [X.exU, X.exUs, X.exUs, List.append_nil]
      rw [e1] at hlim ⊢
      refine texprGroup f lo hi p [e0] sc bv hv (fun j e hj => ?_) ((partsGroup_any p v1 e0 _ lo hi ((keepA w _).heap hc id) (q1.keep (keepA w _) (fun _ _ _ => id))).mono (fun e w' h => h)) h hM hI hbk hlim
      match j with
      | 0 => simp at hj; subst hj; exact ha
      | j + 1 => simp at hj
theorem texs_ok (hf : f < fs.length) (hv : Av L fs.length w0.heap.size lo hi) : ∀ es : List X.Ex, X.exBs 268435456 es → ∀ (j : Nat) (e : X.Ex), es[j]? = some e → TexOk w0 L fs lo hi f e
  | [], _ => fun j e hj => by simp at hj
  | a :: es, hB => fun j e hj => by
    rw [X.exBs] at hB
    have ha := tex_ok hf hv a hB.1
    have hs := texs_ok hf hv es hB.2
    match j with
    | 0 => simp at hj; subst hj; exact ha
    | j + 1 => exact hs j e (by simpa using hj)
end
end Go.Proofs.YtdipmfdhnplpaaaGreatDoor
/- Package scope: the names of a def. -/
namespace Go.Proofs.YtdipmfdhnplpaaaGreatDoor
open Go.RowKit
open M
variable {w0 : World} {L : Lay} {fs : List X.Fl} {M : Mem} {us : List X.U} {w : World}
theorem tparams_none (f : Nat) (pa : Option Addr) (w : World) (wb : Nat) :
    Calls Tryz.prog 61 #[.agg #[.pointer (some ⟨wb, 0, none⟩), .int .i64 f], .pointer none, .pointer pa] w fun e w' => e = .returned (.pointer pa) ∧ Below w.heap.size w w' := by
  go_enter Tryz.func61, Tryz.ntmps61
  go_wp2_with fail
  go_ret
  exact ⟨rfl, (Below.refl _ w).alloc (Nat.le_refl _) _⟩
/-- The cells of a def. -/
def defC (pub : Bool) (n : X.Nm) (pv v : Value) : Obj := .cells #[.bool pub, .string (ba n.1), .int .i64 n.2, pv, v] 157 (0, 0)
set_option maxRecDepth 100000 in
set_option maxHeartbeats 8000000 in
/-- By letters: what is twice (tw), what the names tell (pu), in which blocks the expression stands (sc), what it tells (eu). -/
theorem tdef_of (f k lo hi db : Nat) (pub : Bool) (n : X.Nm) (pa : Option Addr) (y g tw : Nat) (e1 : X.Ex) (sc : List (List X.Nm)) (pu eu : List X.U) (hv : Av L fs.length w0.heap.size lo hi) (hb : lo ≤ db ∧ db < hi) (hub : w0.heap[db]? = some (defC pub n (.pointer pa) (.iface y (.pointer (some ⟨g, 0, none⟩))))) (hE : IsE w0 lo hi (.iface y (.pointer (some ⟨g, 0, none⟩))) e1) (h : Run w0 L fs M us w)
    (hC1 : ∀ w : World, Run w0 L fs M us w → Calls Tryz.prog 57 #[.agg #[.pointer (some ⟨L.wb, 0, none⟩), .int .i64 f], .int .i64 k] w fun e w' => e = .returned (.int .i64 tw) ∧ Below w.heap.size w w')
    (hC2 : ∀ w : World, Run w0 L fs M (us ++ X.ownU f n 0 tw) w → Calls Tryz.prog 61 #[.agg #[.pointer (some ⟨L.wb, 0, none⟩), .int .i64 f], .pointer pa, .pointer none] w fun e w' => ∃ b, e = .returned (.pointer b) ∧ Hid (Run w0 L fs M ((us ++ X.ownU f n 0 tw) ++ pu) w' ∧ Kx L fs.length w0.heap.size w w' ∧ IsBk w' w0.heap.size (.pointer b) sc))
    (hC3 : ∀ (w : World) (b : Option Addr), Run w0 L fs M ((us ++ X.ownU f n 0 tw) ++ pu) w → IsE w lo hi (.iface y (.pointer (some ⟨g, 0, none⟩))) e1 → IsBk w w0.heap.size (.pointer b) sc → Calls Tryz.prog 60 #[.agg #[.pointer (some ⟨L.wb, 0, none⟩), .int .i64 f], .iface y (.pointer (some ⟨g, 0, none⟩)), .pointer b] w fun en w' => en = .returned (.tuple #[]) ∧ Hid (Tld w0 L fs (((us ++ X.ownU f n 0 tw) ++ pu) ++ eu) w w'))
    (hlim : us.length + (X.ownU f n 0 tw).length ≤ 1073741824) :
    Calls Tryz.prog 30 #[.agg #[.pointer (some ⟨L.wb, 0, none⟩), .int .i64 f], .int .i64 k, .pointer (some ⟨db, 0, none⟩)] w fun e w' => e = .returned (.tuple #[]) ∧ Hid (Tld w0 L fs (us ++ (X.ownU f n 0 tw ++ (pu ++ eu))) w w') := by
  have kA : Below w.heap.size w (w.alloc (.cells #[.pointer (some ⟨L.wb, 0, none⟩), .int .i64 f] 93)) := (Below.refl _ w).alloc (Nat.le_refl _) _
  have hT0 := hide (heap_alloc_new w (.cells #[.pointer (some ⟨L.wb, 0, none⟩), .int .i64 f] 93))
  have h0 := h.size
  have hSl := h.st.lt
  have h1 := h.below kA
  have hu1 := h1.kp.heap hub (hv.av db hb.1 hb.2)
  have u1 : (w.alloc (.cells #[.pointer (some ⟨L.wb, 0, none⟩), .int .i64 f] 93)).cell? ⟨db, 1, none⟩ = some (.string (ba n.1)) := cell_of_row _ _ 1 _ _ _ hu1
  have u2 : (w.alloc (.cells #[.pointer (some ⟨L.wb, 0, none⟩), .int .i64 f] 93)).cell? ⟨db, 2, none⟩ = some (.int .i64 n.2) := cell_of_row _ _ 2 _ _ _ hu1
  have HC1 := hide hC1
  have HC2 := hide hC2
  have HC3 := hide hC3
  have HKA := hide kA
  have HV := hide hv
  have HU := hide hub
  have HE := hide hE
  have HR := hide h1
  have HUS := hide ((hv.av db hb.1 hb.2))
  clear kA h hC1 hC2 hC3 h1 hu1 hv hub hE
  go_enter Tryz.func30, Tryz.ntmps30
  go_wp2_with fail
  generalize w.alloc (.cells #[.pointer (some ⟨L.wb, 0, none⟩), .int .i64 f] 93) = W at *
  have t0 : W.cell? ⟨w.heap.size, 0, none⟩ = some (.pointer (some ⟨L.wb, 0, none⟩)) := cell_of_row W _ 0 _ _ _ hT0.out
  have t1 : W.cell? ⟨w.heap.size, 1, none⟩ = some (.int .i64 f) := cell_of_row W _ 1 _ _ _ hT0.out
  refine wp_region_noPanic ?_
  refine wpTo_start (S := fun w' => w'.cell? ⟨w.heap.size, 0, none⟩ = some (.pointer (some ⟨L.wb, 0, none⟩)) ∧ w'.cell? ⟨w.heap.size, 1, none⟩ = some (.int .i64 f) ∧ w'.cell? ⟨db, 1, none⟩ = some (.string (ba n.1)) ∧ w'.cell? ⟨db, 2, none⟩ = some (.int .i64 n.2)) (z := 9) (by kernel_rfl) ?_
  have hS : W.drew.cell? ⟨w.heap.size, 0, none⟩ = some (.pointer (some ⟨L.wb, 0, none⟩)) ∧ W.drew.cell? ⟨w.heap.size, 1, none⟩ = some (.int .i64 f) ∧ W.drew.cell? ⟨db, 1, none⟩ = some (.string (ba n.1)) ∧ W.drew.cell? ⟨db, 2, none⟩ = some (.int .i64 n.2) := ⟨t0, t1, u1, u2⟩
  refine wpTo_takeA (i := 0) (dn := 6) (v := ?_) rfl rfl (by kernel_rfl) (by decide) (by kernel_rfl) (by kernel_rfl) (fun _ _ _ h => h) (Or.inl ⟨by rfl, ?_⟩) hS ?_
  rotate_left
  · (intro wx hSw; (try dsimp only at hSw); go_simp; try (with_reducible rfl))
  simp only [Act.put, List.setIfInBounds_toArray, List.set_cons_zero, List.set_cons_succ]
  refine wpTo_takeA (i := 1) (dn := 7) (v := ?_) rfl rfl (by kernel_rfl) (by decide) (by kernel_rfl) (by kernel_rfl) (fun _ _ _ h => h) (Or.inl ⟨by rfl, ?_⟩) hS ?_
  rotate_left
  · (intro wx hSw; (try dsimp only at hSw); go_simp; try (with_reducible rfl))
  simp only [Act.put, List.setIfInBounds_toArray, List.set_cons_zero, List.set_cons_succ]
  refine wpTo_takeA (i := 2) (dn := 8) (v := ?_) rfl rfl (by kernel_rfl) (by decide) (by kernel_rfl) (by kernel_rfl) (fun _ _ _ h => h) (Or.inl ⟨by rfl, ?_⟩) hS ?_
  rotate_left
  · (intro wx hSw; (try dsimp only at hSw); go_simp; try (with_reducible rfl))
  simp only [Act.put, List.setIfInBounds_toArray, List.set_cons_zero, List.set_cons_succ]
  refine wpTo_takeA (i := 3) (dn := 9) (v := ?_) rfl rfl (by kernel_rfl) (by decide) (by kernel_rfl) (by kernel_rfl) (fun _ _ _ h => h) (Or.inl ⟨by rfl, ?_⟩) hS ?_
  rotate_left
  · (intro wx hSw; (try dsimp only at hSw); go_simp; try (with_reducible rfl))
  simp only [Act.put, List.setIfInBounds_toArray, List.set_cons_zero, List.set_cons_succ]
  refine wpTo_takeA (i := 4) (dn := 10) (v := ?_) rfl rfl (by kernel_rfl) (by decide) (by kernel_rfl) (by kernel_rfl) (fun _ _ _ h => h) (Or.inl ⟨by rfl, ?_⟩) hS ?_
  rotate_left
  · (intro wx hSw; (try dsimp only at hSw); go_simp; try (with_reducible rfl))
  simp only [Act.put, List.setIfInBounds_toArray, List.set_cons_zero, List.set_cons_succ]
  refine wpTo_takeA (i := 5) (dn := 11) (v := ?_) rfl rfl (by kernel_rfl) (by decide) (by kernel_rfl) (by kernel_rfl) (fun _ _ _ h => h) (Or.inl ⟨by rfl, ?_⟩) hS ?_
  rotate_left
  · (intro wx hSw; (try dsimp only at hSw); go_simp; try (with_reducible rfl))
  simp only [Act.put, List.setIfInBounds_toArray, List.set_cons_zero, List.set_cons_succ]
  refine wpTo_takeA (i := 6) (dn := 12) (v := ?_) rfl rfl (by kernel_rfl) (by decide) (by kernel_rfl) (by kernel_rfl) (fun _ _ _ h => h) (Or.inl ⟨by rfl, ?_⟩) hS ?_
  rotate_left
  · (intro wx hSw; (try dsimp only at hSw); go_simp; try (with_reducible rfl))
  simp only [Act.put, List.setIfInBounds_toArray, List.set_cons_zero, List.set_cons_succ]
  refine wpTo_one (i := 7) (by kernel_rfl) rfl (fun K hK => ?_)
  go_simp
  refine ((HC1.out) _ ((HR.out).below ((Below.refl _ W).drew))).mono ?_
  rintro e w2 ⟨rfl, B2⟩
  have hT2 := (Kp.ofBelow B2 (fun _ => False)).heap hT0.out id
  have hR2 := (HR.out).below (((Below.refl _ W).drew).trans B2)
  have hK2 : Below w.heap.size w w2 := ((HKA.out).drew).trans (B2.mono (HKA.out).size)
  have hu2 := hR2.kp.heap HU.out HUS.out
  have t02 : w2.cell? ⟨w.heap.size, 0, none⟩ = some (.pointer (some ⟨L.wb, 0, none⟩)) := cell_of_row w2 _ 0 _ _ _ hT2
  have t12 : w2.cell? ⟨w.heap.size, 1, none⟩ = some (.int .i64 f) := cell_of_row w2 _ 1 _ _ _ hT2
  have u12 : w2.cell? ⟨db, 1, none⟩ = some (.string (ba n.1)) := cell_of_row w2 _ 1 _ _ _ hu2
  have u22 : w2.cell? ⟨db, 2, none⟩ = some (.int .i64 n.2) := cell_of_row w2 _ 2 _ _ _ hu2
  go_simp
  refine hK.out _ _ (fun _ => ⟨t02, t12, u12, u22⟩) (fun hS2 => ?_)
  clear hS hK K
  have hS := hS2 (by decide)
  clear hS2
  refine wpTo_one (i := 8) (by kernel_rfl) rfl (fun K hK => ?_)
  go_simp
  refine (town_any f n 0 tw hR2 hlim).mono ?_
  rintro e w3 ⟨rfl, X3⟩
  have r3 := (X3.out).1
  have x3 := (X3.out).2
  have hT3 := x3.made hSl hT2 h0 (fun cs d e => (by cases e))
  have hu3 := r3.kp.heap HU.out HUS.out
  have t03 : w3.cell? ⟨w.heap.size, 0, none⟩ = some (.pointer (some ⟨L.wb, 0, none⟩)) := cell_of_row w3 _ 0 _ _ _ hT3
  have t13 : w3.cell? ⟨w.heap.size, 1, none⟩ = some (.int .i64 f) := cell_of_row w3 _ 1 _ _ _ hT3
  have u13 : w3.cell? ⟨db, 1, none⟩ = some (.string (ba n.1)) := cell_of_row w3 _ 1 _ _ _ hu3
  have u23 : w3.cell? ⟨db, 2, none⟩ = some (.int .i64 n.2) := cell_of_row w3 _ 2 _ _ _ hu3
  go_simp
  refine hK.out _ _ (fun _ => ⟨t03, t13, u13, u23⟩) (fun _ => wpTo_end (by kernel_rfl) ?_)
  clear hK K hS
  refine NoPanic.normal ?_
  have HT3 := hide hT3
  have KX3 : Hid (Kx L fs.length w0.heap.size w w3) := (Kx.ofBelow hK2).trans x3
  have u33 : w3.cell? ⟨db, 3, none⟩ = some (.pointer pa) := cell_of_row w3 _ 3 _ _ _ hu3
  have u43 : w3.cell? ⟨db, 4, none⟩ = some (.iface y (.pointer (some ⟨g, 0, none⟩))) := cell_of_row w3 _ 4 _ _ _ hu3
  have HCP := hide ((HC2.out) w3.drew (r3.below ((Below.refl _ w3).drew)))
  clear X3 r3 x3 hT3 hu3 hT2 hR2 hK2 hu2 t02 t12 u12 u22 B2 t0 t1 u1 u2 u13 u23 HC1 HC2 HR hT0
  go_wp2_with fail
  refine wp_region_noPanic ?_
  refine wpTo_start (S := fun w' => w'.cell? ⟨w.heap.size, 0, none⟩ = some (.pointer (some ⟨L.wb, 0, none⟩)) ∧ w'.cell? ⟨w.heap.size, 1, none⟩ = some (.int .i64 f) ∧ w'.cell? ⟨db, 3, none⟩ = some (.pointer pa) ∧ w'.cell? ⟨db, 4, none⟩ = some (.iface y (.pointer (some ⟨g, 0, none⟩)))) (z := 12) (by kernel_rfl) ?_
  have hS : w3.drew.cell? ⟨w.heap.size, 0, none⟩ = some (.pointer (some ⟨L.wb, 0, none⟩)) ∧ w3.drew.cell? ⟨w.heap.size, 1, none⟩ = some (.int .i64 f) ∧ w3.drew.cell? ⟨db, 3, none⟩ = some (.pointer pa) ∧ w3.drew.cell? ⟨db, 4, none⟩ = some (.iface y (.pointer (some ⟨g, 0, none⟩))) := ⟨t03, t13, u33, u43⟩
  refine wpTo_takeA (i := 0) (dn := 15) (v := ?_) rfl rfl (by kernel_rfl) (by decide) (by kernel_rfl) (by kernel_rfl) (fun _ _ _ h => h) (Or.inl ⟨by rfl, ?_⟩) hS ?_
  rotate_left
  · (intro wx hSw; (try dsimp only at hSw); go_simp; try (with_reducible rfl))
  simp only [Act.put, List.setIfInBounds_toArray, List.set_cons_zero, List.set_cons_succ]
  refine wpTo_takeA (i := 1) (dn := 16) (v := ?_) rfl rfl (by kernel_rfl) (by decide) (by kernel_rfl) (by kernel_rfl) (fun _ _ _ h => h) (Or.inl ⟨by rfl, ?_⟩) hS ?_
  rotate_left
  · (intro wx hSw; (try dsimp only at hSw); go_simp; try (with_reducible rfl))
  simp only [Act.put, List.setIfInBounds_toArray, List.set_cons_zero, List.set_cons_succ]
  refine wpTo_takeA (i := 2) (dn := 17) (v := ?_) rfl rfl (by kernel_rfl) (by decide) (by kernel_rfl) (by kernel_rfl) (fun _ _ _ h => h) (Or.inl ⟨by rfl, ?_⟩) hS ?_
  rotate_left
  · (intro wx hSw; (try dsimp only at hSw); go_simp; try (with_reducible rfl))
  simp only [Act.put, List.setIfInBounds_toArray, List.set_cons_zero, List.set_cons_succ]
  refine wpTo_takeA (i := 3) (dn := 18) (v := ?_) rfl rfl (by kernel_rfl) (by decide) (by kernel_rfl) (by kernel_rfl) (fun _ _ _ h => h) (Or.inl ⟨by rfl, ?_⟩) hS ?_
  rotate_left
  · (intro wx hSw; (try dsimp only at hSw); go_simp; try (with_reducible rfl))
  simp only [Act.put, List.setIfInBounds_toArray, List.set_cons_zero, List.set_cons_succ]
  refine wpTo_takeA (i := 4) (dn := 19) (v := ?_) rfl rfl (by kernel_rfl) (by decide) (by kernel_rfl) (by kernel_rfl) (fun _ _ _ h => h) (Or.inl ⟨by rfl, ?_⟩) hS ?_
  rotate_left
  · (intro wx hSw; (try dsimp only at hSw); go_simp; try (with_reducible rfl))
  simp only [Act.put, List.setIfInBounds_toArray, List.set_cons_zero, List.set_cons_succ]
  refine wpTo_takeA (i := 5) (dn := 20) (v := ?_) rfl rfl (by kernel_rfl) (by decide) (by kernel_rfl) (by kernel_rfl) (fun _ _ _ h => h) (Or.inl ⟨by rfl, ?_⟩) hS ?_
  rotate_left
  · (intro wx hSw; (try dsimp only at hSw); go_simp; try (with_reducible rfl))
  simp only [Act.put, List.setIfInBounds_toArray, List.set_cons_zero, List.set_cons_succ]
  refine wpTo_takeA (i := 6) (dn := 21) (v := ?_) rfl rfl (by kernel_rfl) (by decide) (by kernel_rfl) (by kernel_rfl) (fun _ _ _ h => h) (Or.inl ⟨by rfl, ?_⟩) hS ?_
  rotate_left
  · (intro wx hSw; (try dsimp only at hSw); go_simp; try (with_reducible rfl))
  simp only [Act.put, List.setIfInBounds_toArray, List.set_cons_zero, List.set_cons_succ]
  refine wpTo_takeA (i := 7) (dn := 22) (v := ?_) rfl rfl (by kernel_rfl) (by decide) (by kernel_rfl) (by kernel_rfl) (fun _ _ _ h => h) (Or.inl ⟨by rfl, ?_⟩) hS ?_
  rotate_left
  · (intro wx hSw; (try dsimp only at hSw); go_simp; try (with_reducible rfl))
  simp only [Act.put, List.setIfInBounds_toArray, List.set_cons_zero, List.set_cons_succ]
  refine wpTo_takeA (i := 8) (dn := 23) (v := ?_) rfl rfl (by kernel_rfl) (by decide) (by kernel_rfl) (by kernel_rfl) (fun _ _ _ h => h) (Or.inl ⟨by rfl, ?_⟩) hS ?_
  rotate_left
  · (intro wx hSw; (try dsimp only at hSw); go_simp; try (with_reducible rfl))
  simp only [Act.put, List.setIfInBounds_toArray, List.set_cons_zero, List.set_cons_succ]
  refine wpTo_takeA (i := 9) (dn := 24) (v := ?_) rfl rfl (by kernel_rfl) (by decide) (by kernel_rfl) (by kernel_rfl) (fun _ _ _ h => h) (Or.inl ⟨by rfl, ?_⟩) hS ?_
  rotate_left
  · (intro wx hSw; (try dsimp only at hSw); go_simp; try (with_reducible rfl))
  simp only [Act.put, List.setIfInBounds_toArray, List.set_cons_zero, List.set_cons_succ]
  refine wpTo_one (i := 10) (by kernel_rfl) rfl (fun K hK => ?_)
  go_simp
  refine (HCP.out).mono ?_
  rintro e w4 ⟨pb4, rfl, X4⟩
  have r4 := (X4.out).1
  have x4 := (X4.out).2.1
  have hT4 := x4.made hSl HT3.out h0 (fun cs d e => (by cases e))
  have hu4 := r4.kp.heap HU.out HUS.out
  have t04 : w4.cell? ⟨w.heap.size, 0, none⟩ = some (.pointer (some ⟨L.wb, 0, none⟩)) := cell_of_row w4 _ 0 _ _ _ hT4
  have t14 : w4.cell? ⟨w.heap.size, 1, none⟩ = some (.int .i64 f) := cell_of_row w4 _ 1 _ _ _ hT4
  have u34 : w4.cell? ⟨db, 3, none⟩ = some (.pointer pa) := cell_of_row w4 _ 3 _ _ _ hu4
  have u44 : w4.cell? ⟨db, 4, none⟩ = some (.iface y (.pointer (some ⟨g, 0, none⟩))) := cell_of_row w4 _ 4 _ _ _ hu4
  go_simp
  refine hK.out _ _ (fun _ => ⟨t04, t14, u34, u44⟩) (fun hS2 => ?_)
  clear hS hK K
  have hS := hS2 (by decide)
  clear hS2
  refine wpTo_one (i := 11) (by kernel_rfl) rfl (fun K hK => ?_)
  go_simp
  refine ((HC3.out) w4 pb4 r4 ((HE.out).keep r4.kp (HV.out).av) (X4.out).2.2).mono ?_
  rintro e w5 ⟨rfl, X5⟩
  obtain ⟨M5, r5, m5, i5, x5⟩ := X5.out
  have hT5 := x5.made hSl hT4 h0 (fun cs d e => (by cases e))
  have hu5 := r5.kp.heap HU.out HUS.out
  have t05 : w5.cell? ⟨w.heap.size, 0, none⟩ = some (.pointer (some ⟨L.wb, 0, none⟩)) := cell_of_row w5 _ 0 _ _ _ hT5
  have t15 : w5.cell? ⟨w.heap.size, 1, none⟩ = some (.int .i64 f) := cell_of_row w5 _ 1 _ _ _ hT5
  have u35 : w5.cell? ⟨db, 3, none⟩ = some (.pointer pa) := cell_of_row w5 _ 3 _ _ _ hu5
  have u45 : w5.cell? ⟨db, 4, none⟩ = some (.iface y (.pointer (some ⟨g, 0, none⟩))) := cell_of_row w5 _ 4 _ _ _ hu5
  go_simp
  refine hK.out _ _ (fun _ => ⟨t05, t15, u35, u45⟩) (fun _ => wpTo_end (by kernel_rfl) ?_)
  clear hK K hS
  refine NoPanic.normal ?_
  have HF : Hid (Tld w0 L fs (us ++ (X.ownU f n 0 tw ++ (pu ++ eu))) w w5) := by
    refine ⟨M5, ?_, m5, i5, (((KX3.out).drew).trans x4).trans x5⟩
    simpa [List.append_assoc] using r5
  clear X4 X5 r4 x4 hT4 hu4 r5 m5 i5 x5 hT5 hu5 t03 t13 u33 u43 t04 t14 u34 u44 t05 t15 u35 u45 HCP HC3
  go_wp2_with fail
  go_end0
  exact ⟨rfl, HF⟩
theorem tdef_any (f k lo hi db : Nat) (pub : Bool) (n : X.Nm) (pv v : Value) (ps : Option (List X.Nm)) (e1 : X.Ex) (hk : (X.itemsOf fs f)[k]? = some (.dfn pub n ps e1)) (hv : Av L fs.length w0.heap.size lo hi) (hb : lo ≤ db ∧ db < hi) (hub : w0.heap[db]? = some (defC pub n pv v)) (hp : IsPv w0 lo hi pv ps) (hE : IsE w0 lo hi v e1) (h : Run w0 L fs M us w) (hM : MOk fs M) (hId : Idle M) (hlim : us.length + (X.itU fs f k (.dfn pub n ps e1)).length ≤ 1073741824) :
    Calls Tryz.prog 30 #[.agg #[.pointer (some ⟨L.wb, 0, none⟩), .int .i64 f], .int .i64 k, .pointer (some ⟨db, 0, none⟩)] w fun e w' => e = .returned (.tuple #[]) ∧ Hid (Tld w0 L fs (us ++ X.itU fs f k (.dfn pub n ps e1)) w w') := by
  obtain ⟨hnB, hpB, heB⟩ := h.itB hk
  obtain ⟨y, g, rfl⟩ := hE.iface
  have hf := (item_lt hk).1
  have hC1 := fun (w : World) (h : Run w0 L fs M us w) => ttwice_any f k _ hk h
  rcases hp with ⟨rfl, rfl⟩ | ⟨ns, pb, rfl, rfl, hpar⟩
  · have hul : X.itU fs f k (.dfn pub n none e1) = X.ownU f n 0 (X.twiceE (X.itemsOf fs f) k n.1) ++ ([] ++ X.exU f (X.topA fs f) [] e1) := rfl
    rw [hul] at hlim ⊢
    rw [List.length_append, List.length_append] at hlim
    refine tdef_of f k lo hi db pub n none y g _ e1 [] [] _ hv hb hub hE h hC1 (fun w h => (tparams_none f none w L.wb).mono ?_) (fun w b hr he hbk => ?_) (by omega)
    · rintro e w' ⟨rfl, hB⟩
      exact ⟨none, rfl, by rw [List.append_nil]; exact h.below hB, Kx.ofBelow hB, .nil⟩
    · rw [List.append_nil] at hr ⊢
      exact tex_ok hf hv e1 heB M _ w _ _ [] hr hM hId he hbk (by rw [List.length_append]; omega)
  · have hul : X.itU fs f k (.dfn pub n (some ns) e1) = X.ownU f n 0 (X.twiceE (X.itemsOf fs f) k n.1) ++ (X.parU f [] ns ++ X.exU f (X.topA fs f) [ns] e1) := rfl
    rw [hul] at hlim ⊢
    rw [List.length_append, List.length_append] at hlim
    refine tdef_of f k lo hi db pub n (some ⟨pb, 0, none⟩) y g _ e1 [ns] _ _ hv hb hub hE h hC1 (fun w h => (tparams_any f lo hi pb ns (.pointer none) [] hv (hpar.keep h.kp hv.av) hpB h .nil (by rw [List.length_append]; omega)).mono ?_) (fun w b hr he hbk => ?_) (by omega)
    · rintro e w' ⟨b, rfl, H⟩
      exact ⟨_, rfl, H⟩
    · exact tex_ok hf hv e1 heB M _ w _ _ [ns] hr hM hId he hbk (by rw [List.length_append, List.length_append]; omega)
end Go.Proofs.YtdipmfdhnplpaaaGreatDoor
