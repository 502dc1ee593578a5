/- Values as the program tells them. -/
import Derived.Test.YthdbnafiindgbaaGreatDoorWlc
import Derived.Test.YthdbnafiindgbaaGreatDoorWkx0
import Derived.Deep.RegionHeld3
import Derived.Deep.CutBlock
namespace Go.Proofs.YthdbnafiindgbaaGreatDoor
open Go.RowKit
open Wi

/-- A value as the program tells it. -/
inductive IsA (w : World) : Value → J → Prop
  | mk (k n : Int) (t : List UInt8) (ks : List (List UInt8)) (kids : List J) (kv : Value) (bo : Option Addr) (bcap : Nat) (f : Nat → Value × Value × Value × Value × Value)
      (hk : IsSt w kv ks) (hc : kids.length ≤ bcap ∧ bcap ≤ maxLen)
      (hr : ∀ i, i < kids.length → ∃ g o, bo = some ⟨g, o, none⟩ ∧ w.cell? ⟨g, o + i * 5, none⟩ = some (f i).1 ∧ w.cell? ⟨g, o + i * 5 + 1, none⟩ = some (f i).2.1 ∧ w.cell? ⟨g, o + i * 5 + 2, none⟩ = some (f i).2.2.1 ∧ w.cell? ⟨g, o + i * 5 + 3, none⟩ = some (f i).2.2.2.1 ∧ w.cell? ⟨g, o + i * 5 + 4, none⟩ = some (f i).2.2.2.2)
      (hp : ∀ (i : Nat) (j : J), kids[i]? = some j → IsA w (.agg #[(f i).1, (f i).2.1, (f i).2.2.1, (f i).2.2.2.1, (f i).2.2.2.2]) j) :
      IsA w (.agg #[.int .i64 k, .int .i64 n, .string (ba t), kv, .slice bo kids.length bcap]) (.mk k n t ks kids)
theorem IsA.kept {w w' : World} (hk : Below w.heap.size w w') {v : Value} {j : J} (h : IsA w v j) : IsA w' v j := by
  induction h with
  | mk k n t ks kids kv bo bcap f hks hc hr hp ih =>
    refine .mk k n t ks kids kv bo bcap f (hks.below hk) hc (fun i hi => ?_) ih
    obtain ⟨g, o, e, a0, a1, a2, a3, a4⟩ := hr i hi
    have q := Kp.ofBelow hk (fun _ => False)
    exact ⟨g, o, e, q.cellv a0 id, q.cellv a1 id, q.cellv a2 id, q.cellv a3 id, q.cellv a4 id⟩
theorem IsA.shape {w : World} {v : Value} {j : J} (h : IsA w v j) : ∃ k n t kv rv, v = .agg #[.int .i64 k, .int .i64 n, .string t, kv, rv] ∧ (∃ a b c, kv = .slice a b c) ∧ (∃ a b c, rv = .slice a b c) := by
  cases h with
  | mk k n t ks kids kv bo bcap f hks =>
    obtain ⟨a, c, e, -⟩ := hks
    exact ⟨_, _, _, _, _, rfl, ⟨_, _, _, e⟩, ⟨_, _, _, rfl⟩⟩
theorem wt_kid {k n : Int} {t : List UInt8} {ks : List (List UInt8)} {kids : List J} {i : Nat} {j : J} (h : kids[i]? = some j) : wt j < wt (.mk k n t ks kids) := by
  have : ∀ (l : List J) (i : Nat), l[i]? = some j → wt j ≤ wts l := by
    intro l
    induction l with
    | nil => intro i h; simp at h
    | cons a l ih =>
      intro i h
      simp only [wts]
      cases i with
      | zero =>
        obtain rfl : a = j := by simpa using h
        omega
      | succ i => have := ih i (by simpa using h); omega
  have := this kids i h
  simp only [wt]; omega
end Go.Proofs.YthdbnafiindgbaaGreatDoor
/- Values as the program tells them, and the document's held against them. -/
namespace Go.Proofs.YthdbnafiindgbaaGreatDoor
open Go.RowKit
open Wi

/-- What SameJson does with what weighs less. -/
def SmC (W : Nat) : Prop := ∀ (j : J) (va vb : Value) (A : Nat → Prop) (w : World), wt j ≤ W → IsA w va j → IsJ w A vb j →
  Calls Tryz.prog 7 #[va, vb] w fun en w' => en = .returned (.bool true) ∧ Below w.heap.size w w'

set_option maxRecDepth 100000 in
set_option maxHeartbeats 2000000 in
theorem wsame_W (W : Nat) (hW : W ≤ 134217728) (ih : ∀ W', W' < W → SmC W') : SmC W := by
  intro j va vb A w hw ha hb
  cases ha with
  | mk k n t ks kids kv bo bcap f hks hc hr hp =>
  cases hb with
  | mk N _ _ _ _ _ ao co cap ccap vs hA hbk hcc hd hkk hrr hpp =>
  have hln : ks.length + kids.length ≤ 134217728 := by have := wt_len k n t ks kids; omega
  obtain ⟨c0, c1, c2, c3, c4⟩ := jcell_all hbk
  have HKS := hide hks
  obtain ⟨ka, kc, rfl, -⟩ := hks
  have HKJ : Hid (IsSt w (.slice ao ks.length cap) ks) := ⟨ao, cap, rfl, hcc.1, hcc.2, fun i x hx => by
    obtain ⟨g, e1, -, e3⟩ := hkk i x hx
    exact ⟨g, 0, e1, by rw [Nat.zero_add]; exact e3⟩⟩
  have HR := hide hr
  have HP := hide hp
  have HRR := hide hrr
  have HPP := hide hpp
  have HBK := hide hbk
  have HIH := hide ih
  have hNl := heap_lt hbk
  have HW := hide hw
  clear hr hp hrr hpp hbk ih hkk hcc hd hc hw
  have HT : Hid (∀ W0, Below w.heap.size w W0 → Calls Tryz.prog 13 #[.slice ka ks.length kc, .slice ao ks.length cap] W0 fun e w' => e = .returned (.bool true) ∧ ∃ m, w' = W0.drewN m) := by
    intro W0 h0
    have := wtexts_any ks ks _ _ W0 ((HKS.out).below h0) ((HKJ.out).below h0) (by omega)
    rw [decide_eq_true rfl] at this
    exact this
  have k1 : Below w.heap.size w (w.alloc (.cells #[.int .i64 k, .int .i64 n, .string (ba t), .slice ka ks.length kc, .slice bo kids.length bcap] 25)) := (Below.refl _ w).alloc (Nat.le_refl _) _
  have hbx := heap_alloc_new w (.cells #[.int .i64 k, .int .i64 n, .string (ba t), .slice ka ks.length kc, .slice bo kids.length bcap] 25)
  go_enter Tryz.func7, Tryz.ntmps7
  go_upto_region 1 with fail
  have HK1 := hide k1
  have HBX := hide hbx
  generalize w.alloc (.cells #[.int .i64 k, .int .i64 n, .string (ba t), .slice ka ks.length kc, .slice bo kids.length bcap] 25) = w1 at *
  generalize hB : w.heap.size = B at *
  have b0 := cell_of_row w1 _ 0 _ _ _ hbx
  have b1 := cell_of_row w1 _ 1 _ _ _ hbx
  have b2 := cell_of_row w1 _ 2 _ _ _ hbx
  have b3 := cell_of_row w1 _ 3 _ _ _ hbx
  have b4 := cell_of_row w1 _ 4 _ _ _ hbx
  obtain ⟨d0, d1, d2, d3, d4⟩ := jcell_all ((Kp.ofBelow (hB ▸ HK1.out : Below w.heap.size w w1) (fun _ => False)).heap HBK.out id)
  have HK1w : Hid (Below w.heap.size w w1) := hB ▸ HK1.out
  have HT1 : Hid (∀ m, Calls Tryz.prog 13 #[.slice ka ks.length kc, .slice ao ks.length cap] (w1.drewN m) fun e w' => e = .returned (.bool true) ∧ ∃ m2, w' = (w1.drewN m).drewN m2) := fun m => (HT.out) _ (belowN HK1.out m)
  have t1 : ((ba t).toList != (ba t).toList) = false := by simp
  clear c0 c1 c2 c3 c4 k1 hbx
  go_quiet ((go_at_call 13; exact Calls.quiet_of ((HT1.out) _)))
  revert nq
  intro n1
  go_wp2_with fail
  go_quiet (fail)
  go_wp2_with fail
  have HK2 : Hid (Below w.heap.size w ((w1.drewN n1).drewN nq)) := belowN (belowN HK1w.out _) _
  have HBX2 : Hid (((w1.drewN n1).drewN nq).heap[B]? = some (.cells #[.int .i64 k, .int .i64 n, .string (ba t), .slice ka ks.length kc, .slice bo kids.length bcap] 25 (0, 0))) := HBX.out
  generalize (w1.drewN n1).drewN nq = w2 at *
  go_loopw [6] (fun iv wr => ∃ i : Nat, iv = .int .i64 i ∧ i ≤ kids.length ∧ Hid (Below w.heap.size w wr) ∧ Hid (wr.heap[B]? = some (.cells #[.int .i64 k, .int .i64 n, .string (ba t), .slice ka ks.length kc, .slice bo kids.length bcap] 25 (0, 0)))) (fun iv _ => kids.length - (intOf iv).toNat)
  case atStart => exact ⟨0, rfl, Nat.zero_le _, HK2, HBX2⟩
  case round =>
    obtain ⟨i, rfl, hi, HK, HX⟩ := hrel
    clear HK2 HBX2
    have x4 : wr.cell? ⟨B, 4, none⟩ = some (.slice bo kids.length bcap) := cell_of_row wr _ 4 _ _ _ HX.out
    by_cases hlt : i < kids.length
    case neg =>
      have i1 : decide ((i : Int) < (kids.length : Int)) = false := by simp; omega
      have i1' : decide (i < kids.length) = false := by simp; omega
      clear hlt
      go_wp2_with fail
      go_ret
      exact ⟨rfl, HK.out⟩
    have i1 : decide ((i : Int) < (kids.length : Int)) = true := by simp; omega
    have i1' : decide (i < kids.length) = true := by simp; omega
    have i2 : (i : Int) < (kids.length : Int) := by omega
    obtain ⟨j, hj⟩ : ∃ j, kids[i]? = some j := ⟨_, List.getElem?_eq_getElem hlt⟩
    obtain ⟨g, o, rfl, a0, a1, a2, a3, a4⟩ := (HR.out) i hlt
    obtain ⟨g2, rfl, -, a5⟩ := (HRR.out) i hlt
    have hIA := (HP.out) i j hj
    have hIJ := (HPP.out) i j hj
    obtain ⟨k', n', t', kv', rv', hsh, ⟨u1, u2, u3, hkv⟩, ⟨v1, v2, v3, hrv⟩⟩ := hIA.shape
    rw [hsh] at hIA
    injection hsh with hsh
    simp only [Array.mk.injEq, List.cons.injEq, and_true] at hsh
    obtain ⟨e0, e1, e2, e3, e4⟩ := hsh
    subst hkv hrv
    obtain ⟨V, hV⟩ := hIJ.ptr
    rw [e0] at a0; rw [e1] at a1; rw [e2] at a2; rw [e3] at a3; rw [e4] at a4; rw [hV] at a5 hIJ
    have q := Kp.ofBelow HK.out (fun _ => False)
    replace a0 := q.cellv a0 id
    replace a1 := q.cellv a1 id
    replace a2 := q.cellv a2 id
    replace a3 := q.cellv a3 id
    replace a4 := q.cellv a4 id
    replace a5 := q.cellv a5 id
    have a5' : wr.cell? ⟨g2, 0 + i * 1, none⟩ = some (.pointer (some ⟨V, 0, none⟩)) := by rw [Nat.zero_add, Nat.mul_one]; exact a5
    obtain ⟨d0, d1, d2, d3, d4⟩ := jcell_all (q.heap HBK.out id)
    have HC : Hid (∀ W0, Below wr.heap.size wr W0 → Calls Tryz.prog 7 #[.agg #[.int .i64 k', .int .i64 n', .string t', .slice u1 u2 u3, .slice v1 v2 v3], .pointer (some ⟨V, 0, none⟩)] W0 fun e w' => e = .returned (.bool true) ∧ Below wr.heap.size wr w') := by
      intro W0 h0
      have hb0 : Below w.heap.size w W0 := (HK.out).trans (h0.mono (HK.out).size)
      have hlt' : wt j < W := Nat.lt_of_lt_of_le (wt_kid hj) HW.out
      refine ((HIH.out) (wt j) hlt' j _ _ A W0 (Nat.le_refl _) (hIA.kept hb0) (hIJ.kept hb0)).mono ?_
      rintro e w' ⟨rfl, k⟩
      exact ⟨rfl, h0.trans (k.mono h0.size)⟩
    clear hIA hIJ q e0 e1 e2 e3 e4
    go_wp2_with fail
    go_region_held3 (fun w' => w'.cell? ⟨B, 4, none⟩ = some (.slice (some ⟨g, o, none⟩) kids.length bcap) ∧ w'.cell? ⟨N, 4, none⟩ = some (.slice (some ⟨g2, 0, none⟩) kids.length ccap) ∧ w'.cell? ⟨g, o + i * 5, none⟩ = some (.int .i64 k') ∧ w'.cell? ⟨g, o + i * 5 + 1, none⟩ = some (.int .i64 n') ∧ w'.cell? ⟨g, o + i * 5 + 2, none⟩ = some (.string t') ∧ w'.cell? ⟨g, o + i * 5 + 3, none⟩ = some (.slice u1 u2 u3) ∧ w'.cell? ⟨g, o + i * 5 + 4, none⟩ = some (.slice v1 v2 v3) ∧ w'.cell? ⟨g2, i, none⟩ = some (.pointer (some ⟨V, 0, none⟩))) (first | (with_reducible exact ⟨x4, d4, a0, a1, a2, a3, a4, a5⟩) | exact ⟨(Kp.ofBelow kS (fun _ => False)).cellv x4 id, (Kp.ofBelow kS (fun _ => False)).cellv d4 id, (Kp.ofBelow kS (fun _ => False)).cellv a0 id, (Kp.ofBelow kS (fun _ => False)).cellv a1 id, (Kp.ofBelow kS (fun _ => False)).cellv a2 id, (Kp.ofBelow kS (fun _ => False)).cellv a3 id, (Kp.ofBelow kS (fun _ => False)).cellv a4 id, (Kp.ofBelow kS (fun _ => False)).cellv a5 id⟩ | exact ⟨x4, d4, a0, a1, a2, a3, a4, a5⟩)
      ((go_at_call 7; refine ((HC.out) _ ?_).mono ?_; (first | exact (Below.refl _ wr).drew | exact Below.refl _ wr | exact belowN (Below.refl _ wr) _); rintro e w3 ⟨rfl, kS⟩))
    have HK3 := hide ((HK.out).trans (kS.mono (HK.out).size))
    have HX3 := hide ((Kp.ofBelow kS (fun _ => False)).heap HX.out id)
    go_wp2_with fail
    refine ⟨⟨i + 1, by simp, by omega, HK3, HX3⟩, ?_⟩
    show kids.length - (i + 1) < kids.length - i
    omega
/-- What the program tells and what the document tells are the same, if they are one value. -/
theorem wsame_any (W : Nat) (hW : W ≤ 134217728) : SmC W := by
  induction W using Nat.strongRecOn with
  | ind W ih => exact wsame_W W hW (fun W' h => ih W' h (by omega))
end Go.Proofs.YthdbnafiindgbaaGreatDoor
