/- The law TreePrints. -/
import Derived.Test.YtpoipoencbieeaaDoorYa
import Derived.Test.YtpoipoencbieeaaDoorYc
namespace Go.Proofs.YtpoipoencbieeaaDoor
open Go.RowKit Go.Shelf
open M
theorem IsTr.keep {w w' : World} {tb : Nat} {s : ByteArray} (h : IsTr w tb s) (hk : Below w.heap.size w w') : IsTr w' tb s := by
  obtain ⟨db, dv, B, D, c0, c1, hd, hp, hD⟩ := h.ex
  have k := Kp.ofBelow hk (fun _ => False)
  exact ⟨db, dv, B, D, k.cellv c0 id, k.cellv c1 id, hd.below hk, hp.keep k (fun _ _ => id), fun q hq => Nat.lt_of_lt_of_le (hD q hq) hk.size⟩
set_option maxRecDepth 100000 in
set_option maxHeartbeats 1000000 in
theorem prints_any (s : ByteArray) (w : World) (hT : Tabs w) (hs : s.size ≤ 134217728) :
    Calls Tryd.prog 3 #[.string s] w fun e w' => e = .returned (.bool true) ∧ Below w.heap.size w w' := by
  have hll : (X.xt (bs s)).length ≤ s.size := by
    have := toks_len _ 0 (bs s) (Nat.le_refl _)
    rw [bs_len] at this
    unfold X.xt; rw [List.length_map]; exact this
  have hz : X.psz (X.file (X.xt (bs s))) ≤ 1073741824 := by have := X.file_psz (X.xt (bs s)); omega
  have HK := hide (X.file_kok (X.xt (bs s)))
  have hb : X.pb (X.file (X.xt (bs s))) = bs s := by rw [X.file_keeps, X.xt_tb]
  have HB := hide hb
  have HP : ∀ (E : Nat → Prop) (v : Value) (W : World), IsN W E v (X.file (X.xt (bs s))) → (∀ q, E q → q < W.heap.size) → Calls Tryd.prog 6 #[v] W fun e w' => e = .returned (.string s) ∧ Below W.heap.size W w' := fun E v W h1 h2 => by
    have := print_any (X.file (X.xt (bs s))) E v W hz HK.out (by rw [hb, bs_len]; omega) h1 h2
    rwa [hb, ba_bs] at this
  have HP := hide HP
  have HR := hide (fun tb W h => root_any tb s W h hz hb hs)
  clear hb hll
  go_enter Tryd.func3, Tryd.ntmps3
  go_wp2_with fail
  refine (newTree_any s w hT hs).mono ?_
  rintro e w1 ⟨tb, rfl, H1⟩
  go_wp2_with fail
  refine ((HR.out) tb w1 (H1.out).1).mono ?_
  rintro e w2 ⟨nv, rfl, H2⟩
  obtain ⟨a1, a2, a3, a4, a5, a6, hq⟩ := (H2.out.choose_spec).1.shape
  replace hq : nv = .agg #[.int .i64 a1, .int .i64 a2, .string a3, .slice a4 a5 a6] := hq
  subst hq
  go_wp2_with fail
  have kA : ∀ o : Obj, Below w2.heap.size w2 (w2.alloc o) := fun o => (Below.refl _ w2).alloc (Nat.le_refl _) _
  obtain ⟨E, g1, g2, g3⟩ := H2.out
  refine ((HP.out) E _ _ (g1.kept (Kp.ofBelow (kA _) (fun _ => False)) (fun _ h => h.elim)) (fun q hq => by have := (g2 q hq).2; simp; omega)).mono ?_
  rintro e w3 ⟨rfl, k3⟩
  have HK3 : Hid (Below w1.heap.size w1 w3) := g3.trans (((kA _).trans (k3.mono (by simp))).mono g3.size)
  clear kA k3 g1 g2 g3 H2
  go_wp2_with fail
  refine (ttext_any tb s w3 ((H1.out).1.keep (HK3.out))).mono ?_
  rintro e w4 ⟨rfl, k4⟩
  have HK4 : Hid (Below w.heap.size w w4) := (H1.out).2.trans (((HK3.out).trans (k4.mono (HK3.out).size)).mono (H1.out).2.size)
  clear k4
  go_wp2_with fail
  go_ret
  exact ⟨by simp, HK4.out⟩
end Go.Proofs.YtpoipoencbieeaaDoor
