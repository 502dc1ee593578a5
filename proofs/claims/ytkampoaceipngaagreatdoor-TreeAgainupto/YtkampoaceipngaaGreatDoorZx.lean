/- The law TreeNotes. -/
import Derived.Test.YtkampoaceipngaaGreatDoorZt
import Derived.Test.YtkampoaceipngaaGreatDoorZv
import Derived.Test.YtkampoaceipngaaGreatDoorZn
namespace Go.Proofs.YtkampoaceipngaaGreatDoor
open Go.RowKit
open M
set_option maxRecDepth 100000 in
set_option maxHeartbeats 1000000 in
theorem tnotes_any (tb : Nat) (s : ByteArray) (w : World) (h : IsTr w tb s) (hs : s.size ≤ 134217728) :
    Calls Tryz.prog 10 #[.pointer (some ⟨tb, 0, none⟩)] w fun e w' => ∃ rv, e = .returned rv ∧ Hid (IsNs w' w.heap.size rv (X.nts (X.file (X.xt (bs s))) 0) ∧ Below w.heap.size w w') := by
  obtain ⟨db, dv, B, D, c0, c1, hd, hp, hD⟩ := h.ex
  have hll : (X.xt (bs s)).length ≤ s.size := by
    have := toks_len _ 0 (bs s) (Nat.le_refl _)
    rw [bs_len] at this
    unfold X.xt; rw [List.length_map]; exact this
  have hz := X.file_psz (X.xt (bs s))
  have hb : X.pb (X.file (X.xt (bs s))) = bs s := by rw [X.file_keeps, X.xt_tb]
  have HC := hide (btell_any _ _ (Nat.le_refl _) (X.file_jok (X.xt (bs s))) w D B w.heap.size (.slice none 0 0) [] 0 hp hD (World.ownsRow_nil _ _ _ _) (Nat.le_refl _) (by rw [hb, bs_len]; omega) (by simp; omega))
  clear h hd hp hD hz hll hb
  go_enter Tryz.func10, Tryz.ntmps10
  go_wp2_with fail
  refine (HC.out).mono ?_
  rintro e w1 ⟨rv, rfl, H1⟩
  go_wp2_with fail
  go_ret
  exact ⟨_, rfl, H1⟩
/-- A row of notes can be read. -/
theorem rows3 {w : World} {base : Nat} {e : TypeId} {v : Value} {ns : List X.Nt} (h : w.ownsRow base e 3 v ns.length (nvs ns)) : ∃ ao cap, v = .slice ao ns.length cap ∧ ns.length ≤ cap ∧ ∀ j n, ns[j]? = some n → ∃ g, ao = some ⟨g, 0, none⟩ ∧ w.cell? ⟨g, j * 3, none⟩ = some (.int .i64 n.1) ∧ w.cell? ⟨g, j * 3 + 1, none⟩ = some (.int .i64 n.2.1) ∧ w.cell? ⟨g, j * 3 + 2, none⟩ = some (.int .i64 n.2.2) := by
  have key : ∀ (ns : List X.Nt) (j : Nat) (n : X.Nt) (m : Nat), ns[j]? = some n → m < 3 → (nvs ns)[j * 3 + m]? = (nv n)[m]? := by
    intro ns
    induction ns with
    | nil => intro j n m h; simp at h
    | cons a ns ih =>
      intro j n m h hm
      have e1 : nvs (a :: ns) = nv a ++ nvs ns := by unfold nvs; rw [List.flatMap_cons]
      rw [e1]
      cases j with
      | zero =>
        obtain rfl : a = n := by simpa using h
        rw [List.getElem?_append_left (by simp [nv]; omega)]; simp
      | succ j =>
        rw [List.getElem?_append_right (by simp [nv]; omega), show (j + 1) * 3 + m - (nv a).length = j * 3 + m by simp [nv]; omega]
        exact ih j n m (by simpa using h) hm
  have hc := fun g hg => h.cells (g := g) hg
  rcases h.2 with ⟨rfl, h0⟩ | ⟨g, cap, cur, rfl, hb, hg, hn, hm, hsz, ht⟩
  · exact ⟨none, 0, by rw [h0], by omega, fun j n hj => by have := lt_of_some hj; omega⟩
  · refine ⟨_, cap, rfl, hn, fun j n hj => ⟨g, rfl, ?_, ?_, ?_⟩⟩
    · have := hc g rfl _ _ ((key ns j n 0 hj (by omega)).trans rfl)
      rw [Addr.add_lit, Nat.zero_add] at this; exact this
    · have := hc g rfl _ _ ((key ns j n 1 hj (by omega)).trans rfl)
      rw [Addr.add_lit, Nat.zero_add] at this; exact this
    · have := hc g rfl _ _ ((key ns j n 2 hj (by omega)).trans rfl)
      rw [Addr.add_lit, Nat.zero_add] at this; exact this
set_option maxRecDepth 100000 in
set_option maxHeartbeats 2000000 in
theorem sameNotes_any (w : World) (b1 b2 : Nat) (v1 v2 : Value) (ns : List X.Nt) (h1 : IsNs w b1 v1 ns) (h2 : IsMs w b2 v2 ns) (hn : ns.length ≤ 1073741824) :
    Calls Tryz.prog 12 #[v1, v2] w fun e w' => e = .returned (.bool true) ∧ Below w.heap.size w w' := by
  obtain ⟨ao1, cap1, rfl, hc1, g1⟩ := rows3 h1
  obtain ⟨ao2, cap2, rfl, hc2, g2⟩ := rows3 h2
  have G1 := hide g1
  have G2 := hide g2
  clear h1 h2 g1 g2
  go_enter Tryz.func12, Tryz.ntmps12
  go_wp2_with fail
  go_loopw [5] (fun v wr => ∃ j : Nat, v = .int .i64 j ∧ j ≤ ns.length ∧ Hid (Below w.heap.size w wr)) (fun v _ => ns.length - (intOf v).toNat)
  case atStart => exact ⟨0, rfl, Nat.zero_le _, Below.refl _ _⟩
  case round =>
    obtain ⟨j, rfl, hj, HB⟩ := hrel
    have hkk := Kp.ofBelow HB.out (fun _ => False)
    by_cases hlt : j < ns.length
    case neg =>
      have i1 : decide (j < ns.length) = false := by simp; omega
      have i2 : decide ((j : Int) < (ns.length : Int)) = false := by simp; omega
      have HF := hide HB.out
      clear hkk
      go_wp2_with fail
      go_ret
      exact ⟨rfl, HF.out⟩
    have i1 : decide (j < ns.length) = true := by simp; omega
    have i2 : decide ((j : Int) < (ns.length : Int)) = true := by simp; omega
    obtain ⟨n, hnj⟩ : ∃ n, ns[j]? = some n := ⟨ns[j], List.getElem?_eq_getElem hlt⟩
    obtain ⟨gA, rfl, p0, p1, p2⟩ := (G1.out) j n hnj
    obtain ⟨gB, rfl, q0, q1, q2⟩ := (G2.out) j n hnj
    have a0 : wr.cell? ⟨gA, j * 3, none⟩ = some (.int .i64 n.1) := hkk.cellv p0 id
    have a1 : wr.cell? ⟨gA, j * 3 + 1, none⟩ = some (.int .i64 n.2.1) := hkk.cellv p1 id
    have a2 : wr.cell? ⟨gA, j * 3 + 2, none⟩ = some (.int .i64 n.2.2) := hkk.cellv p2 id
    have b0 : wr.cell? ⟨gB, j * 3, none⟩ = some (.int .i64 n.1) := hkk.cellv q0 id
    have b1 : wr.cell? ⟨gB, j * 3 + 1, none⟩ = some (.int .i64 n.2.1) := hkk.cellv q1 id
    have b2 : wr.cell? ⟨gB, j * 3 + 2, none⟩ = some (.int .i64 n.2.2) := hkk.cellv q2 id
    have hi1 : (0 : Int) ≤ (j : Int) := Int.natCast_nonneg _
    have hi2 : (j : Int) < (ns.length : Int) := by omega
    have i3 : (n.1 != n.1) = false := by simp
    have i4 : (n.2.1 != n.2.1) = false := by simp
    have i5 : ((n.2.2 : Int) != (n.2.2 : Int)) = false := by simp
    clear p0 p1 p2 q0 q1 q2 hkk hnj
    go_wp2_with fail
    go_quiet (fail)
    have HM2 : Hid (Below w.heap.size w (wr.drewN nq)) := belowN HB.out nq
    go_wp2_with fail
    exact ⟨⟨j + 1, by go_num, by omega, HM2⟩, by simp only [intOf]; omega⟩
theorem IsM.shrink {w : World} {lo hi : Nat} {v : Value} {q : X.Q} (h : IsM w lo hi v q) : IsM w lo (min hi w.heap.size) v q := by
  induction h with
  | mk lo hi N k t x qs at0 en fr tt la ao cap vs L H hN hb hc hr hs hp ih =>
    have hNl := heap_lt hb
    refine .mk lo _ N k t x qs at0 en fr tt la ao cap vs L (fun i => min (H i) w.heap.size) ⟨hN.1, by omega⟩ hb hc (fun i hi => ?_) (fun i hi => ?_) ih
    · obtain ⟨g, e1, e2, e3, e4, e5, e6⟩ := hr i hi
      have := World.block_lt_of_cell? w _ e6
      exact ⟨g, e1, e2, by simp at this; omega, e4, fun j hj e => e5 j hj ⟨e.1, by omega⟩, e6⟩
    · obtain ⟨e1, e2, e3, e4, e5⟩ := hs i hi
      have hk := (ih i _ (List.getElem?_eq_getElem hi)).lt
      exact ⟨e1, by omega, by omega, fun e => e4 ⟨e.1, by omega⟩, fun j h1 h2 => by have := e5 j h1 h2; omega⟩
set_option maxRecDepth 100000 in
set_option maxHeartbeats 1000000 in
theorem notes_any (s : ByteArray) (w : World) (hT : Tabs w) (hs : s.size ≤ 134217728) :
    Calls Tryz.prog 4 #[.string s] w fun e w' => e = .returned (.bool true) ∧ Below w.heap.size w w' := by
  have hll : (X.xt (bs s)).length ≤ s.size := by
    have := toks_len _ 0 (bs s) (Nat.le_refl _)
    rw [bs_len] at this
    unfold X.xt; rw [List.length_map]; exact this
  have hz := X.file_psz (X.xt (bs s))
  have HQ : Hid (X.nq (X.put (X.file (X.xt (bs s))) 0) = X.nts (X.file (X.xt (bs s))) 0) := X.nq_put _ 0 (X.file_kok _) (X.file_jok _)
  have hqz : X.qsz (X.put (X.file (X.xt (bs s))) 0) ≤ 1073741823 := by rw [X.qsz_put]; omega
  have HDn := hide (dn_any _ (X.put (X.file (X.xt (bs s))) 0) (Nat.le_refl _))
  have hnl : (X.nts (X.file (X.xt (bs s))) 0).length ≤ 1073741824 := by have := X.nts_len (X.file (X.xt (bs s))) 0; omega
  clear hll hz
  go_enter Tryz.func4, Tryz.ntmps4
  go_wp2_with fail
  refine (newTree_any s w hT hs).mono ?_
  rintro e w1 ⟨tb, rfl, H1⟩
  go_wp2_with fail
  refine (tnotes_any tb s w1 (H1.out).1 hs).mono ?_
  rintro e w2 ⟨rv1, rfl, H2⟩
  go_wp2_with fail
  refine (parse_any s w2 hs).mono ?_
  rintro e w3 ⟨N, lo, hi, rfl, H3⟩
  go_wp2_with fail
  refine ((HDn.out) w3 lo (min hi w3.heap.size) _ w3.heap.size (.slice none 0 0) [] (H3.out).1.shrink (Nat.min_le_right _ _) (World.ownsRow_nil _ _ _ _) (Nat.le_refl _) (by simpa using hqz)).mono ?_
  rintro e w4 ⟨rv2, rfl, H4⟩
  have HN : Hid (IsNs w4 w1.heap.size rv1 (X.nts (X.file (X.xt (bs s))) 0)) := ((H2.out).1.keep (Kp.ofBelow (H3.out).2.2 (fun _ => False)) (fun _ h => h.elim)).keep (Kp.ofBelow (H4.out).2 (fun _ => False)) (fun _ h => h.elim)
  have HM : Hid (IsMs w4 w3.heap.size rv2 (X.nts (X.file (X.xt (bs s))) 0)) := by
    have := (H4.out).1
    rw [List.nil_append, HQ.out] at this
    exact this
  have HB4 : Hid (Below w.heap.size w w4) := by
    have k2 := (H1.out).2.trans ((H2.out).2.mono (H1.out).2.size)
    have k3 := k2.trans ((H3.out).2.2.mono k2.size)
    exact k3.trans ((H4.out).2.mono k3.size)
  clear H1 H2 H3 H4
  go_wp2_with fail
  refine (sameNotes_any w4 _ _ rv1 rv2 _ HN.out HM.out hnl).mono ?_
  rintro e w5 ⟨rfl, k5⟩
  have HB5 : Hid (Below w.heap.size w w5) := (HB4.out).trans (k5.mono (HB4.out).size)
  clear k5
  go_wp2_with fail
  go_ret
  exact ⟨rfl, HB5.out⟩
end Go.Proofs.YtkampoaceipngaaGreatDoor
