/- Values as the program tells them, made the document's (same.Json). -/
import Derived.Test.YthdbnafiindgbaaDoorWld0
import Derived.Test.YthdbnafiindgbaaDoorWko
import Derived.Lib.AppendZeros
namespace Go.Proofs.YthdbnafiindgbaaDoor
open Go.RowKit
open Wi

theorem strv_len (l : List (List UInt8)) : (strv l).length = l.length * 1 := by simp [strv]
theorem strv_one (l : List (List UInt8)) : ∀ u ∈ strv l, u.oneCell' = true := by
  intro u hu
  simp only [strv, List.mem_map] at hu
  obtain ⟨x, -, rfl⟩ := hu
  rfl
/-- The keys, copied. -/
theorem run_keys {w : World} {v : Value} {ks : List (List UInt8)} (h : IsSt w v ks) (hl : ks.length ≤ 1073741824) (B : Nat) (hB : B ≤ w.heap.size) :
    ∃ v' w1, (Builtin.append_ #[22, 22] 22 #[.slice (some ⟨w.heap.size, 0, none⟩) 0 0, v]).run Tryd.prog (w.alloc (.cells #[] 9)) = .ok v' w1 ∧ w1.ownsRow B 9 1 v' ks.length (strv ks) ∧ Below w.heap.size w w1 ∧ (∃ q, v'.ownBlock = some q ∧ w.heap.size ≤ q) := by
  obtain ⟨i0, hi0, hz0, hz1, hz2⟩ := infoW infoS
  have hown : (w.alloc (.cells #[] 9)).ownsRow B 9 1 (.slice (some ⟨w.heap.size, 0, none⟩) 0 0) 0 [] := ⟨rfl, .inr ⟨w.heap.size, 0, _, rfl, hB, heap_alloc_new w _, Nat.le_refl _, Nat.zero_le _, rfl, rfl⟩⟩
  have hk : Below w.heap.size w (w.alloc (.cells #[] 9)) := (Below.refl _ w).alloc (Nat.le_refl _) _
  have h' := h.below hk
  obtain ⟨ao, cap, rfl, h1, h2, h3⟩ := h'
  cases ao with
  | none =>
    have h0 : ks = [] := by
      cases ks with
      | nil => rfl
      | cons x l => obtain ⟨g, o, e, -⟩ := h3 0 x rfl; cases e
    subst h0
    have hc : (Builtin.firstCells 1 0 (.slice none 0 cap)).run Tryd.prog (w.alloc (.cells #[] 9)) = .ok #[] (w.alloc (.cells #[] 9)) := run_firstCells_none _ 1 0 0 cap
    refine ⟨_, _, ?_, hown, hk, w.heap.size, rfl, Nat.le_refl _⟩
    simp [Builtin.append_, Go.underlying, Tryd.underlying22, Tryd.sizeOf9, Builtin.lenOf, hc, Result.andThen, storeCells]
  | some ad =>
    by_cases hne : ks = []
    · subst hne
      obtain ⟨v', w1, a1, a2, a3, -, a5⟩ := run_append_own_at (P := Tryd.prog) (w.alloc (.cells #[] 9)) B 22 22 9 i0 _ 1 16 Tryd.underlying22 hi0 hz0 hz1 hz2 rfl (by decide) _ 0 [] hown ad 0 cap [] rfl (fun j u hj => by simp at hj) (by simp) (by unfold maxLen; omega) (by omega) (by simp; omega)
      refine ⟨v', w1, a1, a2, ?_, ?_⟩
      · exact hk.grown a3 hk.size (fun q e => by simp [Value.ownBlock] at e; omega)
      · rcases a5 with e | e
        · exact ⟨w.heap.size, by rw [e]; rfl, Nat.le_refl _⟩
        · exact ⟨_, e, by simp⟩
    · obtain ⟨x0, hx0⟩ : ∃ x, ks[0]? = some x := by
        cases ks with
        | nil => exact absurd rfl hne
        | cons x l => exact ⟨x, rfl⟩
      obtain ⟨g, o, e, -⟩ := h3 0 x0 hx0
      injection e with e
      subst e
      have HN : ∀ (j : Nat) (u : Value), (strv ks)[j]? = some u → (w.alloc (.cells #[] 9)).cell? ((⟨g, o, none⟩ : Addr).add j) = some u := by
        intro j u hu
        unfold strv at hu
        rw [List.getElem?_map] at hu
        cases hx : ks[j]? with
        | none => rw [hx] at hu; cases hu
        | some x =>
          rw [hx] at hu
          cases hu
          obtain ⟨g', o', e', e3⟩ := h3 j x hx
          cases e'
          rw [Addr.add_lit]; exact e3
      obtain ⟨v', w1, a1, a2, a3, -, a5⟩ := run_append_own_at (P := Tryd.prog) (w.alloc (.cells #[] 9)) B 22 22 9 i0 _ 1 16 Tryd.underlying22 hi0 hz0 hz1 hz2 rfl (by decide) _ 0 [] hown ⟨g, o, none⟩ ks.length cap (strv ks) (strv_len ks) HN (strv_one ks) (by unfold maxLen; omega) (by omega) (by simp; omega)
      refine ⟨v', w1, a1, by simpa using a2, ?_, ?_⟩
      · exact hk.grown a3 hk.size (fun q e => by simp [Value.ownBlock] at e; omega)
      · rcases a5 with e | e
        · exact ⟨w.heap.size, by rw [e]; rfl, Nat.le_refl _⟩
        · exact ⟨_, e, by simp⟩
/-- What same.Json does with what weighs less. -/
def JsC (W : Nat) : Prop := ∀ (j : J) (va : Value) (w : World), wt j ≤ W → 0 < w.heap.size → IsA w va j →
  Calls Tryd.prog 8 #[va] w fun en w' => ∃ v, en = .returned v ∧ Hid (IsJ w' (fun q => w.heap.size ≤ q ∧ q < w'.heap.size) v j) ∧ Below w.heap.size w w'

set_option maxRecDepth 100000 in
set_option maxHeartbeats 2000000 in
theorem wjson_W (W : Nat) (hW : W ≤ 134217728) (ih : ∀ W', W' < W → JsC W') : JsC W := by
  intro j va w hw h0 ha
  cases ha with
  | mk k n t ks kids kv bo bcap f hks hc hr hp =>
  have hln : ks.length + kids.length ≤ 134217728 := by have := wt_len k n t ks kids; omega
  have HKS := hide hks
  obtain ⟨ka, kc, rfl, -⟩ := hks
  have HR := hide hr
  have HP := hide hp
  have HIH := hide ih
  have HW := hide hw
  clear hr hp ih hc hw
  have k1 : Below w.heap.size w (w.alloc (.cells #[.int .i64 k, .int .i64 n, .string (ba t), .slice ka ks.length kc, .slice bo kids.length bcap] 25)) := (Below.refl _ w).alloc (Nat.le_refl _) _
  have hbx := heap_alloc_new w (.cells #[.int .i64 k, .int .i64 n, .string (ba t), .slice ka ks.length kc, .slice bo kids.length bcap] 25)
  have hz1 : (w.alloc (.cells #[.int .i64 k, .int .i64 n, .string (ba t), .slice ka ks.length kc, .slice bo kids.length bcap] 25)).heap.size = w.heap.size + 1 := by simp
  go_enter Tryd.func8, Tryd.ntmps8
  go_upto_region 1 with fail
  generalize w.alloc (.cells #[.int .i64 k, .int .i64 n, .string (ba t), .slice ka ks.length kc, .slice bo kids.length bcap] 25) = w1 at *
  generalize hB : w.heap.size = B at *
  have HB := hide hB
  have b0 : w1.cell? ⟨B, 0, none⟩ = some (.int .i64 k) := cell_of_row w1 _ 0 _ _ _ hbx
  have b1 : w1.cell? ⟨B, 1, none⟩ = some (.int .i64 n) := cell_of_row w1 _ 1 _ _ _ hbx
  have b2 : w1.cell? ⟨B, 2, none⟩ = some (.string (ba t)) := cell_of_row w1 _ 2 _ _ _ hbx
  have k2 : Below B w (w1.alloc (jcell k n t (.slice none 0 0) (.slice none 0 0))) := k1.alloc (by omega) _
  have hN2 := heap_alloc_new w1 (jcell k n t (.slice none 0 0) (.slice none 0 0))
  have hbx2 := (Kp.ofBelow ((Below.refl _ w1).alloc (Nat.le_refl _) (jcell k n t (.slice none 0 0) (.slice none 0 0))) (fun _ => False)).heap hbx id
  have hz2 : (w1.alloc (jcell k n t (.slice none 0 0) (.slice none 0 0))).heap.size = w1.heap.size + 1 := by simp
  have HZ1 := hide hz1
  have HZ2 := hide hz2
  clear hz1 hz2
  go_upto_region 2 with fail
  rw [show (Obj.cells #[.int .i64 k, .int .i64 n, .string (ba t), .slice none 0 0, .slice none 0 0] 62 (0, 0)) = jcell k n t (.slice none 0 0) (.slice none 0 0) from rfl]
  generalize w1.alloc (jcell k n t (.slice none 0 0) (.slice none 0 0)) = w2 at *
  generalize hNN : w1.heap.size = N at *
  have hNB : N = B + 1 := HZ1.out
  have hz2 : w2.heap.size = N + 1 := HZ2.out
  have k2w : Below w.heap.size w w2 := HB.out.symm ▸ k2
  obtain ⟨kv', w3, r3, o3, k3, l3⟩ := run_keys ((HKS.out).below k2w) (by omega) B (by omega)
  obtain ⟨q3, hq3, hq3'⟩ := l3
  have hN3 := (Kp.ofBelow k3 (fun _ => False)).heap hN2 id
  have hbx3 := (Kp.ofBelow k3 (fun _ => False)).heap hbx2 id
  have k4 : Kp (fun q => q = N) w3 (w3.setCell ⟨N, 3, none⟩ kv') := Kp.setCell (S := fun q => q = N) (Kp.refl _ w3) (fun _ => rfl) _
  have hbx4 := k4.heap hbx3 (fun e => by omega)
  have KB3 : Below B w w3 := k2.trans (k3.mono (by omega))
  have KB4 : Hid (Below w.heap.size w (w3.setCell ⟨N, 3, none⟩ kv')) := by
    have : Below B w (w3.setCell ⟨N, 3, none⟩ kv') := KB3.setCell (p := ⟨N, 3, none⟩) (by show B ≤ N; omega) _
    exact HB.out.symm ▸ this
  have HM4 : Hid (InM w 0 N k n t kv' (.slice none 0 0) ks [] [] (fun _ => False) (w3.setCell ⟨N, 3, none⟩ kv')) := by
    have hb := HB.out
    refine ⟨jcell_set3 hN3, ?_, World.ownsRow_nil _ _ _ _, fun i j hj => by simp at hj, fun q hq => hq.elim, ?_, by simp [Value.ownBlock], fun q _ => by simp [Value.ownBlock], by omega, ?_, by omega⟩
    · rw [hb]; exact k4.owns o3 (fun q e e' => by rw [hq3] at e; injection e with e; omega)
    · rw [hq3]; intro e; injection e with e; omega
    · exact Kp.ofBelow KB4.out _
  obtain ⟨a3, c3, rfl⟩ : ∃ a c, kv' = .slice a ks.length c := by
    obtain ⟨a, c, e, -⟩ := owns_cells o3
    exact ⟨a, c, e⟩
  obtain ⟨⟨y0, y3, y4⟩, yf0, yf3, yf4⟩ := jcell_facts hN3
  have x3 : w2.cell? ⟨B, 3, none⟩ = some (.slice ka ks.length kc) := cell_of_row w2 _ 3 _ _ _ hbx2
  have x3' := (Kp.ofBelow ((Below.refl _ w2).alloc (Nat.le_refl _) (.cells #[] 9)) (fun _ => False)).cellv x3 id
  have HX4 := hide hbx4
  have HZB := hide hNB
  clear hbx hbx2 hbx3 hbx4 hN2 hN3 k1 k2 k2w k3 k4 KB3 o3 b0 b1 b2 hNN hNB hz2 HZ1 HZ2 hB hq3 hq3'
  go_wp2_with (at_builtin; refine Lib.wpList_append_run _ rfl _ _ _ _ rfl _ _ rfl rfl _ _ r3 ?_)
  generalize w3.setCell ⟨N, 3, none⟩ (.slice a3 ks.length c3) = w4 at *
  clear r3 y0 y3 y4 yf0 yf3 yf4 x3 x3'
  go_loopw [4] (fun iv wr => ∃ (i : Nat) (rv : Value) (vl : List Value) (A : Nat → Prop), iv = .int .i64 i ∧ i ≤ kids.length ∧ Hid (InM w 0 N k n t (.slice a3 ks.length c3) rv ks (kids.take i) vl A wr) ∧ Hid (wr.heap[B]? = some (.cells #[.int .i64 k, .int .i64 n, .string (ba t), .slice ka ks.length kc, .slice bo kids.length bcap] 25 (0, 0))) ∧ Hid (Below w.heap.size w wr) ∧ Hid (rv.ownBlock ≠ some B)) (fun iv _ => kids.length - (intOf iv).toNat)
  case atStart => exact ⟨0, _, _, _, rfl, Nat.zero_le _, HM4, HX4, KB4, (by simp [Value.ownBlock] : (Value.slice none 0 0).ownBlock ≠ some B)⟩
  case round =>
    obtain ⟨i, rv, vl, A, rfl, hi, HM, HX, HK, HNB⟩ := hrel
    clear HM4 HX4 KB4
    have x4 : wr.cell? ⟨B, 4, none⟩ = some (.slice bo kids.length bcap) := cell_of_row wr _ 4 _ _ _ HX.out
    by_cases hlt : i < kids.length
    case neg =>
      have i1 : decide ((i : Int) < (kids.length : Int)) = false := by simp; omega
      have i1' : decide (i < kids.length) = false := by simp; omega
      have HF : Hid (IsJ wr (fun q => w.heap.size ≤ q ∧ q < wr.heap.size) (.pointer (some ⟨N, 0, none⟩)) (.mk k n t ks kids)) := by
        have := (HM.out).done
        rwa [List.take_of_length_le (by omega)] at this
      clear hlt
      go_wp2_with fail
      go_ret
      exact ⟨_, rfl, HF, HK.out⟩
    have i1 : decide ((i : Int) < (kids.length : Int)) = true := by simp; omega
    have i1' : decide (i < kids.length) = true := by simp; omega
    have i2 : (i : Int) < (kids.length : Int) := by omega
    obtain ⟨j, hj⟩ : ∃ j, kids[i]? = some j := ⟨_, List.getElem?_eq_getElem hlt⟩
    obtain ⟨g, o, rfl, a0, a1, a2, a4, a5⟩ := (HR.out) i hlt
    have hIA := (HP.out) i j hj
    obtain ⟨k', n', t', kv', rv', hsh, ⟨u1, u2, u3, hkv⟩, ⟨v1, v2, v3, hrv⟩⟩ := hIA.shape
    rw [hsh] at hIA
    injection hsh with hsh
    simp only [Array.mk.injEq, List.cons.injEq, and_true] at hsh
    obtain ⟨e0, e1, e2, e3, e4⟩ := hsh
    subst hkv hrv
    rw [e0] at a0; rw [e1] at a1; rw [e2] at a2; rw [e3] at a4; rw [e4] at a5
    have q := Kp.ofBelow HK.out (fun _ => False)
    replace a0 := q.cellv a0 id
    replace a1 := q.cellv a1 id
    replace a2 := q.cellv a2 id
    replace a4 := q.cellv a4 id
    replace a5 := q.cellv a5 id
    have hwz := (HK.out).size
    have HC := hide ((HIH.out) (wt j) (Nat.lt_of_lt_of_le (wt_kid hj) HW.out) j _ wr (Nat.le_refl _) (by have := HB.out; omega) (hIA.kept HK.out))
    have HTK : Hid (kids.take (i + 1) = kids.take i ++ [j]) := by show _ = _; rw [List.take_add_one, hj]; rfl
    have htl : (kids.take i).length = i := by rw [List.length_take]; omega
    clear hIA q e0 e1 e2 e3 e4
    go_wp2_with fail
    refine (HC.out).mono ?_
    rintro en w5 ⟨v, rfl, HJ, k5⟩
    obtain ⟨V, rfl⟩ := (HJ.out).ptr
    have HM5 := hide ((HM.out).below k5)
    have HX5 := hide ((Kp.ofBelow k5 (fun _ => False)).heap HX.out id)
    have HK5 := hide ((HK.out).trans (k5.mono (HK.out).size))
    have hz5 := k5.size
    obtain ⟨rv2, w6, r6, o6, k6, l6⟩ := run_addKid (v := .pointer (some ⟨V, 0, none⟩)) HM5.out (by omega) rfl
    have hBq : ∀ q, (wr.heap.size ≤ q ∧ q < w5.heap.size) → w.heap.size ≤ q ∧ q < w5.heap.size ∧ q ≠ N ∧ (Value.slice a3 ks.length c3).ownBlock ≠ some q ∧ rv.ownBlock ≠ some q := by
      intro q hq
      have b1 := heap_lt (HM.out).blk
      have b2 := (HM.out).ow.size
      refine ⟨by omega, hq.2, by omega, fun e => ?_, fun e => ?_⟩
      · have := (owns_geW (HM.out).keys q e).2; omega
      · have := (owns_geW (HM.out).row q e).2; omega
    have HM6 := (HM5.out).addKid HJ.out hBq o6 k6 l6
    rw [← HTK.out] at HM6
    have HM7 := hide HM6
    have hbk := (k6.heap (HM5.out).blk (HM5.out).rvN)
    obtain ⟨⟨y0, y3, y4⟩, yf0, yf3, yf4⟩ := jcell_facts hbk
    obtain ⟨⟨-, -, z4⟩, -⟩ := jcell_facts (HM5.out).blk
    have HX7 : Hid ((w6.setCell ⟨N, 4, none⟩ rv2).heap[B]? = some (.cells #[.int .i64 k, .int .i64 n, .string (ba t), .slice ka ks.length kc, .slice (some ⟨g, o, none⟩) kids.length bcap] 25 (0, 0))) := by
      have c1 := k6.heap HX5.out (fun e => (HNB.out) e)
      exact (Kp.setCell (S := fun q => q = N) (p := ⟨N, 4, none⟩) (Kp.refl _ w6) (fun _ => rfl) rv2).heap c1 (fun e => by have := HZB.out; omega)
    have HK7 : Hid (Below w.heap.size w (w6.setCell ⟨N, 4, none⟩ rv2)) := by
      have c1 : Below w.heap.size w5 w6 := k6.below (by omega) (fun q e => (owns_geW (HM5.out).row q e).1)
      exact ((HK5.out).trans c1).setCell (p := ⟨N, 4, none⟩) (by show w.heap.size ≤ N; have := HZB.out; have := HB.out; omega) _
    obtain ⟨ra, rc, hrv⟩ : ∃ a c, rv = .slice a i c := by
      obtain ⟨a, c, e, -⟩ := owns_cells (HM5.out).row
      exact ⟨a, c, by rw [e, htl]⟩
    obtain ⟨ra', rc', hrv'⟩ : ∃ a c, rv2 = .slice a (i + 1) c := by
      obtain ⟨a, c, e, -⟩ := owns_cells o6
      exact ⟨a, c, by rw [e, htl]⟩
    have HNB7 : Hid (rv2.ownBlock ≠ some B) := by
      have b1 := heap_lt HX5.out
      rcases l6 with e | ⟨q, e, hq⟩
      · show _ ≠ _
        rw [e]; exact HNB.out
      · show _ ≠ _
        rw [e]; intro e'; injection e' with e'; omega
    subst hrv hrv'
    clear HC HM HM5 HM6 o6 k6 l6 hbk hBq HJ k5 HNB htl HTK
    go_wp2_with (at_builtin; refine Lib.wpList_append_run _ rfl _ _ _ _ rfl _ _ rfl rfl _ _ r6 ?_)
    refine ⟨⟨i + 1, _, _, _, by simp, by omega, HM7, HX7, HK7, HNB7⟩, ?_⟩
    show kids.length - (i + 1) < kids.length - i
    omega
theorem wjson_any (W : Nat) (hW : W ≤ 134217728) : JsC W := by
  induction W using Nat.strongRecOn with
  | ind W ih => exact wjson_W W hW (fun W' h => ih W' h (by omega))
end Go.Proofs.YthdbnafiindgbaaDoor
/- A text in pieces (law7.cut). -/
namespace Go.Proofs.YthdbnafiindgbaaDoor
open Go.RowKit
open Wi

/-- A row of numbers that can be read. -/
def IsIv (w : World) (v : Value) (xs : List Int) : Prop := ∃ ao cap, v = .slice ao xs.length cap ∧ xs.length ≤ cap ∧ cap ≤ maxLen ∧ ∀ (i : Nat) (x : Int), xs[i]? = some x → ∃ g o, ao = some ⟨g, o, none⟩ ∧ w.cell? ⟨g, o + i, none⟩ = some (.int .i64 x)
/-- The pieces of a text from a place on. -/
def cutL (s : List UInt8) : Nat → List Int → List (List UInt8)
  | last, [] => [s.drop last]
  | last, c :: cs => if (last : Int) ≤ c ∧ c ≤ (s.length : Int) then (s.take c.toNat).drop last :: cutL s c.toNat cs else cutL s last cs
theorem cutL_join (s : List UInt8) : ∀ (cs : List Int) (last : Nat), last ≤ s.length → (cutL s last cs).flatten = s.drop last
  | [], last, _ => by simp [cutL]
  | c :: cs, last, h => by
    unfold cutL
    split
    · rename_i hc
      have h1 := cutL_join s cs c.toNat (by omega)
      rw [List.flatten_cons, h1]
      have e : s.drop last = (s.take c.toNat ++ s.drop c.toNat).drop last := by rw [List.take_append_drop]
      rw [e, List.drop_append_of_le_length (by rw [List.length_take]; omega)]
    · exact cutL_join s cs last h
theorem cutL_len (s : List UInt8) : ∀ (cs : List Int) (last : Nat), (cutL s last cs).length ≤ cs.length + 1
  | [], last => by simp [cutL]
  | c :: cs, last => by
    unfold cutL
    split
    · have := cutL_len s cs c.toNat; simp; omega
    · have := cutL_len s cs last; simp; omega
/-- One text more at the end of a row of one's own. -/
theorem run_addStr {w0 w : World} {v : Value} {out : List (List UInt8)} (x : ByteArray) (ho : w.ownsRow w0.heap.size 9 1 v out.length (strv out)) (hb : Below w0.heap.size w0 w) (hl : out.length ≤ 1073741824) :
    ∃ v' w1, (Builtin.append_ #[22, 22] 22 #[v, .slice (some ⟨w.heap.size, 0, none⟩) 1 1]).run Tryd.prog (w.alloc (.cells #[.string x] 9)) = .ok v' w1 ∧ w1.ownsRow w0.heap.size 9 1 v' (out.length + 1) (strv (out ++ [bs x])) ∧ Below w0.heap.size w0 w1 := by
  obtain ⟨i0, hi0, hz0, hz1, hz2⟩ := infoW infoS
  have hk := hb.alloc hb.size (.cells #[.string x] 9)
  have ho' := (Kp.ofBelow ((Below.refl _ w).alloc (Nat.le_refl _) (.cells #[.string x] 9)) (fun _ => False)).owns ho (fun _ _ => id)
  obtain ⟨v', w1, a1, a2, a3, -⟩ := run_append_own_at (P := Tryd.prog) (w.alloc (.cells #[.string x] 9)) w0.heap.size 22 22 9 i0 _ 1 16 Tryd.underlying22 hi0 hz0 hz1 hz2 rfl (by decide) v out.length (strv out) ho' ⟨w.heap.size, 0, none⟩ 1 1 [.string x] rfl (World.news_of_block (heap_alloc_new w _)) (by simp [Value.oneCell']) (by unfold maxLen; omega) (by omega) hk.size
  refine ⟨v', w1, a1, ?_, hk.grown a3 hk.size (fun q e => (owns_geW ho' q e).1)⟩
  rw [strv_snoc, ba_bs]; exact a2

set_option maxRecDepth 100000 in
set_option maxHeartbeats 2000000 in
theorem wcut_any (s : ByteArray) (cs : List Int) (v : Value) (w : World) (h : IsIv w v cs) (hc : cs.length ≤ 1073741000) :
    Calls Tryd.prog 14 #[.string s, v] w fun en w' => ∃ v', en = .returned v' ∧ Hid (w'.ownsRow w.heap.size 9 1 v' (cutL (bs s) 0 cs).length (strv (cutL (bs s) 0 cs))) ∧ Below w.heap.size w w' := by
  have HI := hide h
  obtain ⟨ao, cap, rfl, hcap, -, -⟩ := h
  obtain ⟨R, hR⟩ : ∃ R, cutL (bs s) 0 cs = R := ⟨_, rfl⟩
  rw [hR]
  have HR0 : Hid ([] ++ cutL (bs s) 0 (cs.drop 0) = R) := by show _ = _; rw [List.drop_zero, List.nil_append]; exact hR
  clear hR
  go_enter Tryd.func14, Tryd.ntmps14
  go_wp2_with fail
  go_loopw [5, 6, 7] (fun ov lv iv wr => ∃ (i last : Nat) (out : List (List UInt8)) (a : Option Addr) (c : Nat), ov = .slice a out.length c ∧ lv = .int .i64 last ∧ iv = .int .i64 i ∧ i ≤ cs.length ∧ last ≤ s.size ∧ out.length ≤ i ∧ Hid (out ++ cutL (bs s) last (cs.drop i) = R) ∧ Hid (wr.ownsRow w.heap.size 9 1 (.slice a out.length c) out.length (strv out)) ∧ Hid (Below w.heap.size w wr)) (fun _ _ iv _ => cs.length - (intOf iv).toNat)
  case atStart => exact ⟨0, 0, [], none, 0, rfl, rfl, rfl, Nat.zero_le _, Nat.zero_le _, Nat.le_refl _, HR0, World.ownsRow_nil _ _ _ _, Below.refl _ w⟩
  case round =>
    obtain ⟨i, last, out, a, c, rfl, rfl, rfl, hi, hla, hol, HE, HO, HK⟩ := hrel
    clear HR0
    have m1 : (0 : Int) ≤ (last : Int) := Int.natCast_nonneg _
    have m2 : (last : Int) ≤ (s.size : Int) := by omega
    by_cases hlt : i < cs.length
    case neg =>
      have i1 : decide ((i : Int) < (cs.length : Int)) = false := by simp; omega
      have i1' : decide (i < cs.length) = false := by simp; omega
      obtain ⟨v', w1, r1, o1, k1⟩ := run_addStr (s.extract last s.size) HO.out HK.out (by omega)
      have HF : Hid (w1.ownsRow w.heap.size 9 1 v' R.length (strv R)) := by
        have e : out ++ [bs (s.extract last s.size)] = R := by
          rw [← HE.out, List.drop_eq_nil_of_le (by omega), bs_drop]; rfl
        rw [e] at o1
        have e2 : out.length + 1 = R.length := by rw [← e]; simp
        rw [e2] at o1; exact o1
      have HK1 := hide k1
      clear hlt o1 k1
      go_wp2_with (at_builtin; refine Lib.wpList_append_run _ rfl _ _ _ _ rfl _ _ rfl rfl _ _ r1 ?_)
      go_ret
      exact ⟨_, rfl, HF, HK1.out⟩
    have i1 : decide ((i : Int) < (cs.length : Int)) = true := by simp; omega
    have i1' : decide (i < cs.length) = true := by simp; omega
    have i2 : (i : Int) < (cs.length : Int) := by omega
    obtain ⟨x, hx⟩ : ∃ x, cs[i]? = some x := ⟨_, List.getElem?_eq_getElem hlt⟩
    obtain ⟨ao', cap', ea, -, -, gx⟩ := HI.out
    obtain ⟨g, o, e1, p1⟩ := gx i x hx
    obtain ⟨rfl, -, rfl⟩ := Value.slice.inj ea
    subst e1
    clear ea gx
    have p0 := p1
    replace p1 := (Kp.ofBelow HK.out (fun _ => False)).cellv p1 id
    have p1' : wr.cell? ⟨g, o + i * 1, none⟩ = some (.int .i64 x) := by rw [Nat.mul_one]; exact p1
    have hdr : cs.drop i = x :: cs.drop (i + 1) := by
      rw [List.drop_eq_getElem_cons hlt]; congr 1
      exact Option.some.inj ((List.getElem?_eq_getElem hlt).symm.trans hx)
    have HE2 : Hid (out ++ (if (last : Int) ≤ x ∧ x ≤ (s.size : Int) then ((bs s).take x.toNat).drop last :: cutL (bs s) x.toNat (cs.drop (i + 1)) else cutL (bs s) last (cs.drop (i + 1))) = R) := by
      have h1 := HE.out
      rw [hdr] at h1
      unfold cutL at h1
      rw [bs_len] at h1
      exact h1
    clear HE hdr
    by_cases hc1 : (last : Int) ≤ x ∧ x ≤ (s.size : Int)
    · rw [if_pos hc1] at HE2
      have q1 : decide ((last : Int) ≤ x) = true := decide_eq_true hc1.1
      have q2 : decide (x ≤ (s.size : Int)) = true := decide_eq_true hc1.2
      obtain ⟨xn, rfl⟩ : ∃ n : Nat, x = n := ⟨x.toNat, by omega⟩
      rw [Int.toNat_natCast] at HE2
      have m3 : (last : Int) ≤ (xn : Int) := hc1.1
      have m4 : (xn : Int) ≤ (s.size : Int) := hc1.2
      have m5 : last ≤ xn := by omega
      have m6 : xn ≤ s.size := by omega
      obtain ⟨v', w1, r1, o1, k1⟩ := run_addStr (s.extract last xn) HO.out HK.out (by omega)
      obtain ⟨a', c', hv'⟩ : ∃ a c, v' = .slice a (out.length + 1) c := by
        obtain ⟨a, c, e, -⟩ := owns_cells o1
        exact ⟨a, c, e⟩
      subst hv'
      have hle : (out ++ [bs (s.extract last xn)]).length = out.length + 1 := by simp
      have HN : Hid (w1.ownsRow w.heap.size 9 1 (.slice a' (out ++ [bs (s.extract last xn)]).length c') (out ++ [bs (s.extract last xn)]).length (strv (out ++ [bs (s.extract last xn)]))) := by
        show World.ownsRow _ _ _ _ _ _ _
        rw [hle]; exact o1
      have HE3 : Hid ((out ++ [bs (s.extract last xn)]) ++ cutL (bs s) xn (cs.drop (i + 1)) = R) := by
        show _ = _
        rw [← HE2.out, bs_cut]; simp
      have HK1 := hide k1
      have p3 := (Kp.ofBelow k1 (fun _ => False)).cellv p0 id
      have p3' : w1.cell? ⟨g, o + i * 1, none⟩ = some (.int .i64 xn) := by rw [Nat.mul_one]; exact p3
      clear HE2 o1 k1 hc1 HO
      go_wp2_with (at_builtin; refine Lib.wpList_append_run _ rfl _ _ _ _ rfl _ _ rfl rfl _ _ r1 ?_)
      refine ⟨⟨i + 1, xn, out ++ [bs (s.extract last xn)], a', c', by rw [hle], rfl, by simp, by omega, by omega, by rw [hle]; omega, HE3, HN, HK1.out⟩, ?_⟩
      show cs.length - (i + 1) < cs.length - i
      omega
    · rw [if_neg hc1] at HE2
      have hcs : (decide ((last : Int) ≤ x) = false) ∨ (decide ((last : Int) ≤ x) = true ∧ decide (x ≤ (s.size : Int)) = false) := by
        simp only [decide_eq_true_eq, decide_eq_false_iff_not]; omega
      clear hc1
      rcases hcs with q1 | ⟨q1, q2⟩
      all_goals
        go_wp2_with fail
        refine ⟨⟨i + 1, last, out, a, c, rfl, rfl, by simp, by omega, hla, by omega, HE2, HO, HK⟩, ?_⟩
        show cs.length - (i + 1) < cs.length - i
        omega
end Go.Proofs.YthdbnafiindgbaaDoor
