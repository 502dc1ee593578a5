/- What is read anew, till a token would begin where an old one does. -/
import Derived.Test.YtgpfmnaglbbebaaDoorSf
namespace Go.Proofs.YtgpfmnaglbbebaaDoor
open Go.RowKit
open M

theorem beg_len (c : Int) (L : List Tk) : (beg c L).length ≤ L.length := (List.dropWhile_sublist _).length_le
theorem beg_toks (c : Int) {L : List Tk} (h : ∃ p l, L = toks p l) : ∃ p l, beg c L = toks p l := by
  obtain ⟨p, l, rfl⟩ := h
  obtain ⟨q, -, -, h3, -⟩ := beg_form _ p l c (Nat.le_refl _)
  exact ⟨q, _, h3⟩
/-- Where the loop that reads anew stands. -/
structure InUn (w0 : World) (B b : Nat) (s : ByteArray) (ov0 : Value) (n0 : Nat) (L0 Lo : List Tk) (q : Nat) (ov va : Value) (w : World) : Prop where
  rdr : Rdr w b s q
  row : w.ownsRow B 29 3 va L0.length (L0.flatMap tkv)
  far : b < B
  on : On b w0 w
  le : L0.length ≤ q
  old : IsT w ov Lo
  own : ov.ownBlock = ov0.ownBlock
  form : ∃ p l, Lo = toks p l
  len : Lo.length ≤ n0

set_option maxRecDepth 100000 in
set_option maxHeartbeats 4000000 in
theorem until_any (b : Nat) (s : ByteArray) (q0 : Nat) (ov0 : Value) (Lo0 : List Tk) (G : Int) (w : World) (hr : Rdr w b s q0) (hs : s.size ≤ 1073741824) (ho : IsT w ov0 Lo0) (hf : ∃ p l, Lo0 = toks p l) (hn : Lo0.length ≤ 1073741824)
    (hne : ∀ k, ov0.ownBlock = some k → k ≠ b ∧ k < w.heap.size) (hg1 : G ≤ 4294967296) (hg2 : -4294967296 ≤ G) (A S : List Tk) (HA : Hid (anw G Lo0 q0 ((bs s).drop q0) = (A, S))) :
    Calls Tryd.prog 43 #[.pointer (some ⟨b, 0, none⟩), ov0, .int .i64 G] w fun e w' => ∃ va vs, e = .returned (.tuple #[va, vs]) ∧ Hid (w'.ownsRow w.heap.size 29 3 va A.length (A.flatMap tkv) ∧ IsT w' vs S ∧ vs.ownBlock = ov0.ownBlock ∧ On b w w') := by
  obtain ⟨i0, hi0, hz0, hz1, hz2⟩ := info_parts info29
  have hbl := hr.raw.lt
  have HI0 : Hid (InUn w w.heap.size b s ov0 1073741824 [] Lo0 q0 ov0 (.slice none 0 0) w) := ⟨hr, World.ownsRow_nil _ _ _ _, hbl, Kp.refl _ _, Nat.zero_le _, ho, rfl, hf, hn⟩
  have HNE := hide hne
  have h7 := hr.tabs.2
  clear hr ho hf hn hne
  go_enter Tryd.func43, Tryd.ntmps43
  go_wp2_with fail
  go_loopw [1, 6] (fun vo va wr => ∃ (L0 Lo : List Tk) (q : Nat), Hid (InUn w w.heap.size b s ov0 1073741824 L0 Lo q vo va wr ∧ A = L0 ++ (anw G Lo q ((bs s).drop q)).1 ∧ S = (anw G Lo q ((bs s).drop q)).2)) (fun _ va _ => s.size - lenOf va)
  case atStart => exact ⟨[], Lo0, q0, ⟨HI0.out, by rw [HA.out]; rfl, by rw [HA.out]⟩⟩
  case round =>
    obtain ⟨L0, Lo, q, HI⟩ := hrel
    have hq := (HI.out).1.rdr.le
    have hl0 := (HI.out).1.le
    obtain ⟨⟨c0, c1, c2, c3⟩, -⟩ := (HI.out).1.rdr.raw.facts
    have HM : Hid (Mono (fun t => decide ((q : Int) - G ≤ (t.pos : Int))) Lo) := by
      obtain ⟨p, l, rfl⟩ := (HI.out).1.form
      exact mono_beg _ p l
    go_wp2_with fail
    refine (beginningAt_any u1 Lo ((q : Int) - G) _ (HI.out).1.old (HI.out).1.len HM.out).mono ?_
    rintro e w2 ⟨v2, rfl, H2, k2⟩
    rw [beg_is] at H2
    have HO2 : Hid (v2.ownBlock = ov0.ownBlock) := (H2.out).2.trans (HI.out).1.own
    have HT2 : Hid (IsT w2 v2 (beg ((q : Int) - G) Lo)) := (H2.out).1
    have HR2 : Hid (Rdr w2 b s q) := (HI.out).1.rdr.below k2
    have HW2 : Hid (w2.ownsRow w.heap.size 29 3 u6 L0.length (L0.flatMap tkv)) := Kp.owns (Kp.ofBelow k2 (fun _ => False)) (HI.out).1.row (fun _ _ => id)
    have HN2 : Hid (On b w w2) := (HI.out).1.on.to (On.ofBelow b k2)
    have HF2 := hide (beg_toks ((q : Int) - G) (HI.out).1.form)
    have hL2 : (beg ((q : Int) - G) Lo).length ≤ 1073741824 := Nat.le_trans (beg_len _ _) (HI.out).1.len
    have HE := hide (HI.out).2
    obtain ⟨⟨d0, d1, d2, d3⟩, -⟩ := (HR2.out).raw.facts
    clear c0 c1 c2 c3 k2 H2 HI HM
    obtain ⟨ao, cap, rfl, hc1, hc2, -⟩ := HT2.out
    have hB : ∃ L2, beg ((q : Int) - G) Lo = L2 := ⟨_, rfl⟩
    obtain ⟨L2, hB⟩ := hB
    rw [hB] at HT2 HF2 hL2 hc1 HO2
    rw [hB]
    have HB := hide hB
    clear hB
    by_cases hlt : q < s.size
    case neg =>
      have hqe : q = s.size := by omega
      have HD : Hid ((bs s).drop q = []) := by show _ = _; rw [hqe, ← bs_len]; simp
      rw [HD.out, cc_nil] at d2
      clear hqe
      go_wp2_with fail
      go_region
      all_goals go_wp2_with fail
      all_goals go_ret2
      all_goals
        have e0 := HE.out
        rw [HD.out, anw_end] at e0
        refine ⟨_, _, rfl, ?_⟩
        obtain ⟨rfl, rfl⟩ := e0
        rw [List.append_nil, HB.out]
        first | exact ⟨HW2.out, HT2.out, HO2.out, HN2.out⟩ | exact ⟨HW2.out, HT2.out, HO2.out, Kp.drew HN2.out⟩
    have hne : (cc ((bs s).drop q) == -1) = false := by
      have := drop_ne hlt
      simp only [beq_eq_false_iff_ne, ne_eq, cc_ne]
      exact this
    have HW2R : Hid (w2.ownsRow w.heap.size 29 3 u6 L0.length (L0.flatMap tkv)) := HW2
    have HT : Hid ((∀ k, L2.head? ≠ some k ∨ (k.pos : Int) ≠ (q : Int) - G) → A = (L0 ++ [⟨(tok ((bs s).drop q)).1, q, (tok ((bs s).drop q)).2⟩]) ++ (anw G L2 (q + (tok ((bs s).drop q)).2) ((bs s).drop (q + (tok ((bs s).drop q)).2))).1 ∧ S = (anw G L2 (q + (tok ((bs s).drop q)).2) ((bs s).drop (q + (tok ((bs s).drop q)).2))).2) := by
      intro hh
      have e0 := HE.out
      have hst : (beg ((q : Int) - G) Lo).head?.map (fun k => (k.pos : Int)) ≠ some ((q : Int) - G) := by
        rw [HB.out]
        cases L2 with
        | nil => simp
        | cons k L => 
          have := hh k
          simp at this ⊢; exact this
      rw [anw_on (drop_ne hlt) hst, List.drop_drop, HB.out] at e0
      refine ⟨?_, e0.2⟩
      rw [e0.1]; simp
    have hcase : (L2 = [] ∨ ∃ k L, L2 = k :: L ∧ (k.pos : Int) ≠ (q : Int) - G) ∨ ∃ k L, L2 = k :: L ∧ (k.pos : Int) = (q : Int) - G := by
      cases L2 with
      | nil => exact .inl (.inl rfl)
      | cons k L => 
        by_cases h : (k.pos : Int) = (q : Int) - G
        · exact .inr ⟨k, L, rfl, h⟩
        · exact .inl (.inr ⟨k, L, rfl, h⟩)
    rcases hcase with (rfl | ⟨k, L, rfl, hk⟩) | ⟨k, L, rfl, hk⟩
    rotate_left 2
    · obtain ⟨b', o', t', rfl, ht', q1, q2, q3⟩ := (HT2.out).get (Below.refl _ w2) (k := 0) (by simp)
      obtain rfl : k = t' := by simpa using ht'
      rw [Nat.zero_mul, Nat.add_zero] at q1 q2 q3
      have i1 : ((k.pos : Int) == (q : Int) - G) = true := by simp [hk]
      have i2 : 0 < (k :: L).length := by simp
      generalize hZ : (k :: L).length = Z at *
      clear ht' hk
      go_wp2_with fail
      go_region
      all_goals go_wp2_with fail
      all_goals go_ret2
      all_goals
        have e0 := HE.out
        have hst : (beg ((q : Int) - G) Lo).head?.map (fun k => (k.pos : Int)) = some ((q : Int) - G) := by
          rw [HB.out]; simpa using i1
        rw [anw_stop hst, HB.out] at e0
        refine ⟨_, _, rfl, ?_⟩
        obtain ⟨rfl, rfl⟩ := e0
        rw [List.append_nil]
        rw [← hZ] at HT2 HO2 ⊢
        first | exact ⟨HW2.out, HT2.out, HO2.out, HN2.out⟩ | exact ⟨HW2.out, HT2.out, HO2.out, Kp.drew HN2.out⟩
    rotate_left
    · obtain ⟨b', o', t', rfl, ht', q1, q2, q3⟩ := (HT2.out).get (Below.refl _ w2) (k := 0) (by simp)
      obtain rfl : k = t' := by simpa using ht'
      rw [Nat.zero_mul, Nat.add_zero] at q1 q2 q3
      have i1 : ((k.pos : Int) == (q : Int) - G) = false := by simp [hk]
      have i2 : 0 < (k :: L).length := by simp
      have HT3 : Hid (A = (L0 ++ [⟨(tok ((bs s).drop q)).1, q, (tok ((bs s).drop q)).2⟩]) ++ (anw G (k :: L) (q + (tok ((bs s).drop q)).2) ((bs s).drop (q + (tok ((bs s).drop q)).2))).1 ∧ S = (anw G (k :: L) (q + (tok ((bs s).drop q)).2) ((bs s).drop (q + (tok ((bs s).drop q)).2))).2) := (HT.out) (fun k' => by
        by_cases e : k = k'
        · subst e; exact .inr hk
        · exact .inl (by simpa using e))
      clear ht' hk HT HB
      generalize hX : k :: L = X at *
      generalize hZ : X.length = Z at *
      clear hX
      subst hZ
      go_wp2_with fail
      go_region
      all_goals go_wp2_with fail
      have kk0 : On b w2 w2.drew := Kp.drew (Kp.refl _ w2)
      refine (token_any b s q _ ((HR2.out).drewN 1) hlt).mono ?_
      rintro e w3 ⟨rfl, r3, k3⟩
      have kk : On b w2 w3 := kk0.to k3
      have HO := hide (Kp.owns kk HW2.out (fun k hk e => by have := (owns_ge HW2.out k hk).1; omega))
      have HT4 := hide ((HT2.out).keep kk (fun k hk => ((HNE.out) k (by rw [← HO2.out]; exact hk)).1))
      have hsz3 : w.heap.size ≤ w3.heap.size := Nat.le_trans (HN2.out).size kk.size
      have HK := hide (And.intro r3 kk)
      clear r3 k3 kk kk0 d0 d1 d2 d3
      go_wp2_with (at_builtin; refine wpList_append_lies _ rfl _ _ 22 rfl w.heap.size 29 i0 _ 3 24 Tryd.underlying22 hi0 hz0 hz1 hz2 rfl (by decide) u6 L0.length _ rfl ((HO.out).alloc _) ⟨w3.heap.size, 0, none⟩ 1 1 (tkv ⟨(tok ((bs s).drop q)).1, q, (tok ((bs s).drop q)).2⟩) rfl rfl (World.news_of_block (cs := #[.int .i64 (tok ((bs s).drop q)).1, .int .i64 q, .int .i64 (tok ((bs s).drop q)).2]) (heap_alloc_new w3 _)) (by simp [Value.oneCell', tkv]) (by omega) (by unfold maxLen; omega) (by omega) (by simp; omega) (w3.heap.size + 1) (by simp) ?_; intro g cap5 w5 hown5 hgrow5 hat5 hlt5)
      have hrow := HO.out
      have hge := owns_ge hrow
      obtain ⟨r3, kk⟩ := HK.out
      have kW : Kp (fun k => u6.ownBlock = some k) w3 w5 := Kp.grown (Kp.alloc (Kp.refl _ w3) _) hgrow5 (fun k e _ => e)
      have hb := tok_bounds (drop_ne hlt)
      refine ⟨⟨L0 ++ [⟨(tok ((bs s).drop q)).1, q, (tok ((bs s).drop q)).2⟩], X, q + (tok ((bs s).drop q)).2, ⟨⟨r3.keep kW (fun e => by have := (hge _ e).1; omega) (fun k hk e => by have := (hge _ e).1; omega), ?_, hbl, ?_, ?_, ?_, HO2.out, HF2.out, hL2⟩, HT3.out⟩⟩, ?_⟩
      · rw [toks_flat, List.length_append]; exact hown5
      · exact Kp.trans ((HN2.out).to kk) kW (fun i hi e => by have := (hge _ e).1; omega)
      · rw [List.length_append]; simp only [List.length_singleton]; omega
      · exact (HT4.out).keep kW (fun k hk e => by
          have h1 := (hge _ e).1
          have h2 := ((HNE.out) k (by rw [← HO2.out]; exact hk)).2
          omega)
      · rw [owns_len hrow]; simp only [lenOf]; omega
    · have HT5 : Hid (∀ X : List Tk, X = [] → A = (L0 ++ [⟨(tok ((bs s).drop q)).1, q, (tok ((bs s).drop q)).2⟩]) ++ (anw G X (q + (tok ((bs s).drop q)).2) ((bs s).drop (q + (tok ((bs s).drop q)).2))).1 ∧ S = (anw G X (q + (tok ((bs s).drop q)).2) ((bs s).drop (q + (tok ((bs s).drop q)).2))).2) := by
        intro X hX; subst hX
        exact (HT.out) (fun k' => .inl (by simp))
      obtain ⟨X, hX⟩ : ∃ X : List Tk, X = [] := ⟨_, rfl⟩
      have HT3 := hide ((HT5.out) X hX)
      clear HT HB HT5
      rw [← hX] at HT2 HF2 hL2 HO2 hc1 ⊢
      have i2 : X.length = 0 := by rw [hX]; rfl
      have i3 : (decide (0 < X.length)) = false := by simp [i2]
      clear hX i2
      go_wp2_with fail
      go_region
      all_goals go_wp2_with fail
      have kk0 : On b w2 w2.drew := Kp.drew (Kp.refl _ w2)
      refine (token_any b s q _ ((HR2.out).drewN 1) hlt).mono ?_
      rintro e w3 ⟨rfl, r3, k3⟩
      have kk : On b w2 w3 := kk0.to k3
      have HO := hide (Kp.owns kk HW2.out (fun k hk e => by have := (owns_ge HW2.out k hk).1; omega))
      have HT4 := hide ((HT2.out).keep kk (fun k hk => ((HNE.out) k (by rw [← HO2.out]; exact hk)).1))
      have hsz3 : w.heap.size ≤ w3.heap.size := Nat.le_trans (HN2.out).size kk.size
      have HK := hide (And.intro r3 kk)
      clear r3 k3 kk kk0 d0 d1 d2 d3
      go_wp2_with (at_builtin; refine wpList_append_lies _ rfl _ _ 22 rfl w.heap.size 29 i0 _ 3 24 Tryd.underlying22 hi0 hz0 hz1 hz2 rfl (by decide) u6 L0.length _ rfl ((HO.out).alloc _) ⟨w3.heap.size, 0, none⟩ 1 1 (tkv ⟨(tok ((bs s).drop q)).1, q, (tok ((bs s).drop q)).2⟩) rfl rfl (World.news_of_block (cs := #[.int .i64 (tok ((bs s).drop q)).1, .int .i64 q, .int .i64 (tok ((bs s).drop q)).2]) (heap_alloc_new w3 _)) (by simp [Value.oneCell', tkv]) (by omega) (by unfold maxLen; omega) (by omega) (by simp; omega) (w3.heap.size + 1) (by simp) ?_; intro g cap5 w5 hown5 hgrow5 hat5 hlt5)
      have hrow := HO.out
      have hge := owns_ge hrow
      obtain ⟨r3, kk⟩ := HK.out
      have kW : Kp (fun k => u6.ownBlock = some k) w3 w5 := Kp.grown (Kp.alloc (Kp.refl _ w3) _) hgrow5 (fun k e _ => e)
      have hb := tok_bounds (drop_ne hlt)
      refine ⟨⟨L0 ++ [⟨(tok ((bs s).drop q)).1, q, (tok ((bs s).drop q)).2⟩], X, q + (tok ((bs s).drop q)).2, ⟨⟨r3.keep kW (fun e => by have := (hge _ e).1; omega) (fun k hk e => by have := (hge _ e).1; omega), ?_, hbl, ?_, ?_, ?_, HO2.out, HF2.out, hL2⟩, HT3.out⟩⟩, ?_⟩
      · rw [toks_flat, List.length_append]; exact hown5
      · exact Kp.trans ((HN2.out).to kk) kW (fun i hi e => by have := (hge _ e).1; omega)
      · rw [List.length_append]; simp only [List.length_singleton]; omega
      · exact (HT4.out).keep kW (fun k hk e => by
          have h1 := (hge _ e).1
          have h2 := ((HNE.out) k (by rw [← HO2.out]; exact hk)).2
          omega)
      · rw [owns_len hrow]; simp only [lenOf]; omega
end Go.Proofs.YtgpfmnaglbbebaaDoor
