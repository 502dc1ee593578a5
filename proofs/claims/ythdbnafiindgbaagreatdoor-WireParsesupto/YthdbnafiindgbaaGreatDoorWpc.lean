/- The program's reader of messages: one kid of a list that is there. (written by wip/tools/wire_gen/genpc.py) -/
import Derived.Test.YthdbnafiindgbaaGreatDoorWpa
namespace Go.Proofs.YthdbnafiindgbaaGreatDoor
open Go.RowKit
open Wi

set_option maxRecDepth 100000 in
set_option maxHeartbeats 8000000 in
theorem olist1_ok (d : Nat) (hV : VC d) (w0 : World) (sb K P : Nat) (s : ByteArray) (w : World) (kids : List J) (l : List UInt8) (hs : s.size ≤ 1073741824) (hl : Sfx s l) (hn : kids.length + l.length ≤ s.size) (h : LS w0 sb K P (fun _ => False) s (40 - (d : Int)) w kids l) (j : J) (t : List UInt8) (hv : val d l = .ok j t) :
    Calls Tryz.prog 46 #[.pointer (some ⟨K, 0, none⟩), .pointer (some ⟨P, 0, none⟩)] w fun en w' => OkP (LS w0 sb K P (fun _ => False) s (40 - (d : Int))) (Ow sb w0) s (stpL d kids l) en w' := by
  have HE : Hid (stpL d kids l = .ok (kids ++ [j]) t) := by show _ = _; unfold stpL; rw [hv]
  obtain ⟨rv, eK, vl, ho, hvl, hk⟩ := h.row
  obtain ⟨ao, cp, rfl⟩ : ∃ ao cp, rv = .slice ao kids.length cp := by
    rcases ho.2 with ⟨e, h0⟩ | ⟨g, cap, cur, e, -⟩
    · exact ⟨none, 0, by rw [e, h0]⟩
    · exact ⟨_, cap, e⟩
  have cK : w.cell? ⟨K, 0, none⟩ = some (.slice ao kids.length cp) := by simp [World.cell?, eK]
  have cP : w.cell? ⟨P, 0, none⟩ = some (.pointer (some ⟨sb, 0, none⟩)) := by simp [World.cell?, h.pc]
  have a1 := h.hK
  have a2 := h.hP
  have a3 := h.sl
  have HC : Hid (∀ W, Below w.heap.size w W → Calls Tryz.prog 15 #[.pointer (some ⟨sb, 0, none⟩)] W fun en w' => ∃ (v1 v2 : Int) (v3 : ByteArray) (u1 : Option Addr) (u2 u3 : Nat) (y1 : Option Addr) (y2 y3 : Nat), en = .returned (fiveV (.int .i64 v1, .int .i64 v2, .string v3, .slice u1 u2 u3, .slice y1 y2 y3)) ∧ Ow sb W w' ∧ IsX w' (fun q => w.heap.size ≤ q) (fiveV (.int .i64 v1, .int .i64 v2, .string v3, .slice u1 u2 u3, .slice y1 y2 y3)) j ∧ RawS w' sb s (pos s t) (40 - (d : Int))) := by
    intro W hW
    refine (hV sb s l W hs hl (h.src.below hW) (h.es.below hW) h.ne).mono ?_
    intro en w' h2
    unfold OkV at h2
    rw [hv] at h2
    obtain ⟨k2, v, rfl, hx, hr⟩ := h2
    obtain ⟨_, _, _, _, _, _, _, _, _, rfl⟩ := hx.shape5
    exact ⟨_, _, _, _, _, _, _, _, _, rfl, k2, hx.mono (fun q hq _ => Nat.le_trans hW.size hq), hr⟩
  have HO : Hid (w.ownsRow w0.heap.size 25 5 (.slice ao kids.length cp) kids.length (vl.flatMap fiveL)) := ho
  have hfl : (vl.flatMap fiveL).length = kids.length * 5 := by rw [flat_len, hvl]
  have hKr : (Value.slice ao kids.length cp).ownBlock ≠ some K := LS.rvK eK ⟨vl, ho, hvl, hk⟩
  have hPr : (Value.slice ao kids.length cp).ownBlock ≠ some P := fun he => by
    obtain ⟨-, c, hc⟩ := own_tyB ho he
    exact absurd (cells_tyB hc h.pc) (by decide)
  have HF : Hid (∀ (w3 w5 w6 : World) (f : Five) (g cap : Nat) (xs : List Value), Ow sb w w3 → IsX w3 (fun q => w.heap.size ≤ q) (fiveV f) j → RawS w3 sb s (pos s t) (40 - (d : Int)) →
      w5.ownsRow w0.heap.size 25 5 (.slice (some ⟨g, 0, none⟩) (kids.length + 1) cap) (kids.length + 1) xs → w3.grownBy w5 (Value.slice ao kids.length cp).ownBlock → ((Value.slice ao kids.length cp).ownBlock = some g ∨ g = w3.heap.size) →
      Kp (fun q => q = g ∨ q = K) w5 w6 → w6.heap[K]? = some (.cells #[.slice (some ⟨g, 0, none⟩) (kids.length + 1) cap] 23 (0, 0)) →
      w6.ownsRow w0.heap.size 25 5 (.slice (some ⟨g, 0, none⟩) (kids.length + 1) cap) (kids.length + 1) (vl.flatMap fiveL ++ fiveL f) → OkP (LS w0 sb K P (fun _ => False) s (40 - (d : Int))) (Ow sb w0) s (stpL d kids l) (.returned (.tuple #[])) w6) := by
    intro w3 w5 w6 f g cap xs k3 hx hr hown hgrow hat k6 e6 o6
    unfold OkP
    rw [HE.out]
    exact ⟨rfl, h.put (fun _ h => h.elim) eK ho hvl hk k3 hx hr hown hgrow hat k6 e6 o6⟩
  have HKK : Hid (w.heap[K]? = some (.cells #[.slice ao kids.length cp] 23 (0, 0))) := eK
  have hKl : K < w.heap.size := heap_lt eK
  have hPl : P < w.heap.size := heap_lt h.pc
  have hw0 := h.ow.size
  obtain ⟨ij, hij, hj0, hj1, hj2⟩ := infoW infoJs
  have hnl : kids.length ≤ 1073741824 := by omega
  clear hv eK ho hk h hV hn hl HE
  go_enter Tryz.func46, Tryz.ntmps46
  refine wpZ_start (S := fun w' => w'.cell? ⟨K, 0, none⟩ = some (.slice ao kids.length cp) ∧ w'.cell? ⟨P, 0, none⟩ = some (.pointer (some ⟨sb, 0, none⟩))) (Z := fun j => j == 6 || j == 7 || j == 8) (by kernel_rfl) ?_
  have hS : w.drew.cell? ⟨K, 0, none⟩ = some (.slice ao kids.length cp) ∧ w.drew.cell? ⟨P, 0, none⟩ = some (.pointer (some ⟨sb, 0, none⟩)) := ⟨cK, cP⟩
  have HW : Hid (Below w.heap.size w w.drew) := (Below.refl _ w).drew
  clear cK cP
  generalize w.drew = w1 at *
  refine wpZ_take (i := 0) (dn := 2) (v := ?_) rfl rfl (by kernel_rfl) (fun z hz => by rcases z678 hz with rfl | rfl | rfl <;> kernel_rfl) (by kernel_rfl) (by kernel_rfl) (fun _ _ _ h => h) (Or.inl ⟨by rfl, ?_⟩) hS ?_
  rotate_left
  · (intro wx hSw; (try dsimp only at hSw); obtain ⟨hSw1, hSw2⟩ := hSw; go_simp; try (with_reducible rfl))
  simp only [Act.put, List.setIfInBounds_toArray, List.set_cons_zero, List.set_cons_succ]
  refine wpZ_take (i := 1) (dn := 3) (v := ?_) rfl rfl (by kernel_rfl) (fun z hz => by rcases z678 hz with rfl | rfl | rfl <;> kernel_rfl) (by kernel_rfl) (by kernel_rfl) (fun _ _ _ h => h) (Or.inl ⟨by rfl, ?_⟩) hS ?_
  rotate_left
  · (intro wx hSw; (try dsimp only at hSw); obtain ⟨hSw1, hSw2⟩ := hSw; go_simp; try (with_reducible rfl))
  simp only [Act.put, List.setIfInBounds_toArray, List.set_cons_zero, List.set_cons_succ]
  refine wpZ_take (i := 3) (dn := 5) (v := ?_) rfl rfl (by kernel_rfl) (fun z hz => by rcases z678 hz with rfl | rfl | rfl <;> kernel_rfl) (by kernel_rfl) (by kernel_rfl) (fun _ _ _ h => h) (Or.inl ⟨by rfl, ?_⟩) hS ?_
  rotate_left
  · (intro wx hSw; (try dsimp only at hSw); obtain ⟨hSw1, hSw2⟩ := hSw; go_simp; try (with_reducible rfl))
  simp only [Act.put, List.setIfInBounds_toArray, List.set_cons_zero, List.set_cons_succ]
  refine wpZ_two (i := 2) (k := 4) (by kernel_rfl) rfl rfl (fun K' hK' => ?_) (fun K' hK' => ?_)
  · go_simp
    refine ((HC.out) w1 HW.out).mono ?_
    rintro en w2 ⟨v1, v2, v3, u1, u2, u3, y1, y2, y3, rfl, k2, hx2, hr2⟩
    have hS2 : w2.cell? ⟨K, 0, none⟩ = some (.slice ao kids.length cp) ∧ w2.cell? ⟨P, 0, none⟩ = some (.pointer (some ⟨sb, 0, none⟩)) := ⟨k2.cellv hS.1 (fun e => by have : K = sb := e; omega), k2.cellv hS.2 (fun e => by have : P = sb := e; omega)⟩
    show K' _ w2
    refine hK'.out _ _ (fun _ => hS2) (fun _ => ?_)
    clear hK' K'
    refine wpZ_one (i := 4) (by kernel_rfl) rfl (fun K' hK' => ?_)
    go_simp
    have hbz : Below w2.heap.size w2 (w2.alloc (.cells #[.int .i64 0, .int .i64 0, .string ⟨#[]⟩, .slice none 0 0, .slice none 0 0] 25)) := (Below.refl _ w2).alloc (Nat.le_refl _) _
    have hSz : (w2.alloc (.cells #[.int .i64 0, .int .i64 0, .string ⟨#[]⟩, .slice none 0 0, .slice none 0 0] 25)).cell? ⟨K, 0, none⟩ = some (.slice ao kids.length cp) ∧ (w2.alloc (.cells #[.int .i64 0, .int .i64 0, .string ⟨#[]⟩, .slice none 0 0, .slice none 0 0] 25)).cell? ⟨P, 0, none⟩ = some (.pointer (some ⟨sb, 0, none⟩)) := ⟨(Kp.ofBelow hbz (fun _ => False)).cellv hS2.1 id, (Kp.ofBelow hbz (fun _ => False)).cellv hS2.2 id⟩
    have KZ : Ow sb w (w2.alloc (.cells #[.int .i64 0, .int .i64 0, .string ⟨#[]⟩, .slice none 0 0, .slice none 0 0] 25)) := ((Ow.ofBelow sb HW.out).to k2).to (Ow.ofBelow sb hbz)
    have HXZ : Hid (IsX (w2.alloc (.cells #[.int .i64 0, .int .i64 0, .string ⟨#[]⟩, .slice none 0 0, .slice none 0 0] 25)) (fun q => w.heap.size ≤ q) (fiveV (.int .i64 v1, .int .i64 v2, .string v3, .slice u1 u2 u3, .slice y1 y2 y3)) j) := hx2.keep (Kp.ofBelow hbz (fun _ => False)) (fun _ _ => id)
    have HRZ : Hid (RawS (w2.alloc (.cells #[.int .i64 0, .int .i64 0, .string ⟨#[]⟩, .slice none 0 0, .slice none 0 0] 25)) sb s (pos s t) (40 - (d : Int))) := hr2.below hbz
    have HZ : Hid ((w2.alloc (.cells #[.int .i64 0, .int .i64 0, .string ⟨#[]⟩, .slice none 0 0, .slice none 0 0] 25)).heap[w2.heap.size]? = some (.cells #[.int .i64 0, .int .i64 0, .string ⟨#[]⟩, .slice none 0 0, .slice none 0 0] 25 (0, 0))) := heap_alloc_new w2 _
    refine hK'.out _ _ (fun _ => hSz) (fun _ => ?_)
    clear hK' K' hx2 hr2 k2 hS2 hS hbz
    generalize w2.heap.size = zb at *
    generalize w2.alloc (.cells #[.int .i64 0, .int .i64 0, .string ⟨#[]⟩, .slice none 0 0, .slice none 0 0] 25) = wz at *
    have HOz : Hid (wz.ownsRow w0.heap.size 25 5 (.slice ao kids.length cp) kids.length (vl.flatMap fiveL)) := KZ.owns HO.out (fun q hq e => by have := (owns_geW HO.out q hq).1; have : q = sb := e; omega)
    have hzw : w0.heap.size ≤ wz.heap.size := by have := KZ.size; omega
    refine wpZ_one (i := 5) (by kernel_rfl) rfl (fun K' hK' => ?_)
    refine step_append_lies _ (by rfl) _ _ _ (by rfl) w0.heap.size 25 ij _ 5 80 Tryz.underlying23 hij hj0 hj1 hj2 rfl (by omega) (.slice ao kids.length cp) kids.length (vl.flatMap fiveL) (by rfl) HOz.out
      ⟨zb, 0, none⟩ 1 1 [.int .i64 0, .int .i64 0, .string ⟨#[]⟩, .slice none 0 0, .slice none 0 0] (by rfl) (by rfl) (World.news_of_block (cs := #[.int .i64 0, .int .i64 0, .string ⟨#[]⟩, .slice none 0 0, .slice none 0 0]) (t := 25) (fr := (0, 0)) HZ.out) (by simp [Value.oneCell'])
      (by omega) (by unfold maxLen; omega) (by omega) hzw _ rfl ?_
    intro g cap w5 hown hgrow hat hlt
    have hKz : K < wz.heap.size := by have := KZ.size; omega
    have hPz : P < wz.heap.size := by have := KZ.size; omega
    have eK5 : w5.heap[K]? = some (.cells #[.slice ao kids.length cp] 23 (0, 0)) := (Kp.grown (Kp.refl (fun q => (Value.slice ao kids.length cp).ownBlock = some q) _) hgrow (fun k hk _ => hk)).heap (KZ.heap HKK.out (fun e => by have : K = sb := e; omega)) hKr
    have hP5 : w5.cell? ⟨P, 0, none⟩ = some (.pointer (some ⟨sb, 0, none⟩)) := (Kp.grown (Kp.refl (fun q => (Value.slice ao kids.length cp).ownBlock = some q) _) hgrow (fun k hk _ => hk)).cellv hSz.2 hPr
    have cK5 : w5.cell? ⟨K, 0, none⟩ = some (.slice ao kids.length cp) := by simp [World.cell?, eK5]
    have gK : ¬ g = K := fun e => hat.elim (fun h1 => hKr (by rw [h1, e])) (fun h1 => by omega)
    have gK' : ¬ K = g := fun e => gK e.symm
    have fK5 : w5.frozen? ⟨K, 0, none⟩ = false := by simp [World.frozen?, eK5]
    obtain ⟨⟨q0, q1, q2, q3, q4⟩, hfz⟩ := own_last _ hfl hown
    have z0 := hfz (kids.length * 5)
    have z1 := hfz (kids.length * 5 + 1)
    have z2 := hfz (kids.length * 5 + 2)
    have z3 := hfz (kids.length * 5 + 3)
    have z4 := hfz (kids.length * 5 + 4)
    clear hfz
    have HG := hide ((HF.out) wz w5)
    have HOW := hide hown
    have HGR := hide hgrow
    have HAT := hide hat
    have HKB := hide eK5
    show K' (Act.put _ (some 7) _) w5
    refine hK'.out _ _ (fun _ => ⟨cK5, hP5⟩) (fun _ => ?_)
    clear hK' K' hown hgrow hat eK5 HF HO HKK hSz hP5 hlt HOz
    simp only [Act.put, List.setIfInBounds_toArray, List.set_cons_zero, List.set_cons_succ]
    refine wpZ_two (i := 6) (k := 8) (by kernel_rfl) rfl rfl (fun K' hK' => ?_) (fun K' hK' => ?_)
    · go_simp
      rw [if_pos (by omega)]
      go_simp
      refine hK'.out _ _ (fun h => absurd h (by decide)) (fun _ => ?_)
      clear hK' K'
      refine wpZ_two (i := 7) (k := 8) (by kernel_rfl) rfl rfl (fun K' hK' => ?_) (fun K' hK' => ?_)
      · go_simp
        refine hK'.out _ _ (fun h => absurd h (by decide)) (fun _ => ?_)
        clear hK' K'
        refine wpZ_one (i := 8) (by kernel_rfl) rfl (fun K' hK' => ?_)
        go_simp
        refine hK'.out _ _ (fun h => absurd h (by decide)) (fun _ => wpZ_end (by kernel_rfl) ?_)
        clear hK' K'
        have o6 := row_five (kids.length * 5) hfl.symm HOW.out (.int .i64 v1) (.int .i64 v2) (.string v3) (.slice u1 u2 u3) (.slice y1 y2 y3)
        have k5 : Kp (fun q => q = g) w5 (((((w5.setCell ⟨g, kids.length * 5, none⟩ (.int .i64 v1)).setCell ⟨g, kids.length * 5 + 1, none⟩ (.int .i64 v2)).setCell ⟨g, kids.length * 5 + 2, none⟩ (.string v3)).setCell ⟨g, kids.length * 5 + 3, none⟩ (.slice u1 u2 u3)).setCell ⟨g, kids.length * 5 + 4, none⟩ (.slice y1 y2 y3)) := Kp.five _ _ _ _ _ _ _ _
        have e5 := k5.heap HKB.out gK'
        have k6 : Kp (fun q => q = g ∨ q = K) w5 ((((((w5.setCell ⟨g, kids.length * 5, none⟩ (.int .i64 v1)).setCell ⟨g, kids.length * 5 + 1, none⟩ (.int .i64 v2)).setCell ⟨g, kids.length * 5 + 2, none⟩ (.string v3)).setCell ⟨g, kids.length * 5 + 3, none⟩ (.slice u1 u2 u3)).setCell ⟨g, kids.length * 5 + 4, none⟩ (.slice y1 y2 y3)).setCell ⟨K, 0, none⟩ (.slice (some ⟨g, 0, none⟩) (kids.length + 1) cap)) := (k5.mono (fun _ _ e => .inl e)).setCell (p := ⟨K, 0, none⟩) (fun _ => .inr rfl) _
        refine bodyPost_ret (results_none rfl _ _ _) rfl (HG.out _ (.int .i64 v1, .int .i64 v2, .string v3, .slice u1 u2 u3, .slice y1 y2 y3) g cap _ KZ HXZ.out HRZ.out HOW.out HGR.out HAT.out k6 (set_blkB e5 0 _) ?_)
        exact (Kp.setCell (S := fun q => q = K) (p := ⟨K, 0, none⟩) (Kp.refl _ _) (fun _ => rfl) _).owns o6 (fun q hq e => gK (by have : some g = some q := hq; injection this with this; rw [this]; exact e))
      · go_simp
        refine hK'.out _ _ (fun h => absurd h (by decide)) (fun _ => ?_)
        clear hK' K'
        refine wpZ_one (i := 7) (by kernel_rfl) rfl (fun K' hK' => ?_)
        go_simp
        refine hK'.out _ _ (fun h => absurd h (by decide)) (fun _ => wpZ_end (by kernel_rfl) ?_)
        clear hK' K'
        have kk : Kp (fun q => q = K) w5 (w5.setCell ⟨K, 0, none⟩ (.slice (some ⟨g, 0, none⟩) (kids.length + 1) cap)) := Kp.setCell (S := fun q => q = K) (p := ⟨K, 0, none⟩) (Kp.refl _ _) (fun _ => rfl) _
        have o6 := row_five (kids.length * 5) hfl.symm (kk.owns HOW.out (fun q hq e => gK (by have : some g = some q := hq; injection this with this; rw [this]; exact e))) (.int .i64 v1) (.int .i64 v2) (.string v3) (.slice u1 u2 u3) (.slice y1 y2 y3)
        have k5 : Kp (fun q => q = g) (w5.setCell ⟨K, 0, none⟩ (.slice (some ⟨g, 0, none⟩) (kids.length + 1) cap)) ((((((w5.setCell ⟨K, 0, none⟩ (.slice (some ⟨g, 0, none⟩) (kids.length + 1) cap)).setCell ⟨g, kids.length * 5, none⟩ (.int .i64 v1)).setCell ⟨g, kids.length * 5 + 1, none⟩ (.int .i64 v2)).setCell ⟨g, kids.length * 5 + 2, none⟩ (.string v3)).setCell ⟨g, kids.length * 5 + 3, none⟩ (.slice u1 u2 u3)).setCell ⟨g, kids.length * 5 + 4, none⟩ (.slice y1 y2 y3)) := Kp.five _ _ _ _ _ _ _ _
        exact bodyPost_ret (results_none rfl _ _ _) rfl (HG.out _ (.int .i64 v1, .int .i64 v2, .string v3, .slice u1 u2 u3, .slice y1 y2 y3) g cap _ KZ HXZ.out HRZ.out HOW.out HGR.out HAT.out (Kp.trans (kk.mono (fun _ _ e => .inr e)) k5 (fun _ _ e => .inl e)) (k5.heap (set_blkB HKB.out 0 _) gK') o6)
    · go_simp
      refine hK'.out _ _ (fun h => absurd h (by decide)) (fun _ => ?_)
      clear hK' K'
      refine wpZ_one (i := 6) (by kernel_rfl) rfl (fun K' hK' => ?_)
      go_simp
      rw [if_pos (by omega)]
      go_simp
      refine hK'.out _ _ (fun h => absurd h (by decide)) (fun _ => ?_)
      clear hK' K'
      refine wpZ_one (i := 7) (by kernel_rfl) rfl (fun K' hK' => ?_)
      go_simp
      refine hK'.out _ _ (fun h => absurd h (by decide)) (fun _ => wpZ_end (by kernel_rfl) ?_)
      clear hK' K'
      have kk : Kp (fun q => q = K) w5 (w5.setCell ⟨K, 0, none⟩ (.slice (some ⟨g, 0, none⟩) (kids.length + 1) cap)) := Kp.setCell (S := fun q => q = K) (p := ⟨K, 0, none⟩) (Kp.refl _ _) (fun _ => rfl) _
      have o6 := row_five (kids.length * 5) hfl.symm (kk.owns HOW.out (fun q hq e => gK (by have : some g = some q := hq; injection this with this; rw [this]; exact e))) (.int .i64 v1) (.int .i64 v2) (.string v3) (.slice u1 u2 u3) (.slice y1 y2 y3)
      have k5 : Kp (fun q => q = g) (w5.setCell ⟨K, 0, none⟩ (.slice (some ⟨g, 0, none⟩) (kids.length + 1) cap)) ((((((w5.setCell ⟨K, 0, none⟩ (.slice (some ⟨g, 0, none⟩) (kids.length + 1) cap)).setCell ⟨g, kids.length * 5, none⟩ (.int .i64 v1)).setCell ⟨g, kids.length * 5 + 1, none⟩ (.int .i64 v2)).setCell ⟨g, kids.length * 5 + 2, none⟩ (.string v3)).setCell ⟨g, kids.length * 5 + 3, none⟩ (.slice u1 u2 u3)).setCell ⟨g, kids.length * 5 + 4, none⟩ (.slice y1 y2 y3)) := Kp.five _ _ _ _ _ _ _ _
      exact bodyPost_ret (results_none rfl _ _ _) rfl (HG.out _ (.int .i64 v1, .int .i64 v2, .string v3, .slice u1 u2 u3, .slice y1 y2 y3) g cap _ KZ HXZ.out HRZ.out HOW.out HGR.out HAT.out (Kp.trans (kk.mono (fun _ _ e => .inr e)) k5 (fun _ _ e => .inl e)) (k5.heap (set_blkB HKB.out 0 _) gK') o6)
  · go_simp
    have hbz : Below w1.heap.size w1 (w1.alloc (.cells #[.int .i64 0, .int .i64 0, .string ⟨#[]⟩, .slice none 0 0, .slice none 0 0] 25)) := (Below.refl _ w1).alloc (Nat.le_refl _) _
    have hS2 : (w1.alloc (.cells #[.int .i64 0, .int .i64 0, .string ⟨#[]⟩, .slice none 0 0, .slice none 0 0] 25)).cell? ⟨K, 0, none⟩ = some (.slice ao kids.length cp) ∧ (w1.alloc (.cells #[.int .i64 0, .int .i64 0, .string ⟨#[]⟩, .slice none 0 0, .slice none 0 0] 25)).cell? ⟨P, 0, none⟩ = some (.pointer (some ⟨sb, 0, none⟩)) := ⟨(Kp.ofBelow hbz (fun _ => False)).cellv hS.1 id, (Kp.ofBelow hbz (fun _ => False)).cellv hS.2 id⟩
    have HW2 : Hid (Below w.heap.size w (w1.alloc (.cells #[.int .i64 0, .int .i64 0, .string ⟨#[]⟩, .slice none 0 0, .slice none 0 0] 25))) := (HW.out).alloc (HW.out).size _
    have HZ1 : Hid ((w1.alloc (.cells #[.int .i64 0, .int .i64 0, .string ⟨#[]⟩, .slice none 0 0, .slice none 0 0] 25)).heap[w1.heap.size]? = some (.cells #[.int .i64 0, .int .i64 0, .string ⟨#[]⟩, .slice none 0 0, .slice none 0 0] 25 (0, 0))) := heap_alloc_new w1 _
    have hzz : sb < w1.heap.size := by have := (HW.out).size; omega
    refine hK'.out _ _ (fun _ => hS2) (fun _ => ?_)
    clear hK' K' hS hbz
    generalize w1.heap.size = zb at *
    generalize w1.alloc (.cells #[.int .i64 0, .int .i64 0, .string ⟨#[]⟩, .slice none 0 0, .slice none 0 0] 25) = wa at *
    refine wpZ_one (i := 2) (by kernel_rfl) rfl (fun K' hK' => ?_)

    go_simp
    refine ((HC.out) wa HW2.out).mono ?_
    rintro en w2 ⟨v1, v2, v3, u1, u2, u3, y1, y2, y3, rfl, k2, hx2, hr2⟩
    have hSz : w2.cell? ⟨K, 0, none⟩ = some (.slice ao kids.length cp) ∧ w2.cell? ⟨P, 0, none⟩ = some (.pointer (some ⟨sb, 0, none⟩)) := ⟨k2.cellv hS2.1 (fun e => by have : K = sb := e; omega), k2.cellv hS2.2 (fun e => by have : P = sb := e; omega)⟩
    show K' _ w2
    refine hK'.out _ _ (fun _ => hSz) (fun _ => ?_)
    clear hK' K'
    have KZ : Ow sb w w2 := (Ow.ofBelow sb HW2.out).to k2
    have HXZ := hide hx2
    have HRZ := hide hr2
    have HZ : Hid (w2.heap[zb]? = some (.cells #[.int .i64 0, .int .i64 0, .string ⟨#[]⟩, .slice none 0 0, .slice none 0 0] 25 (0, 0))) := k2.heap HZ1.out (fun e => by have : zb = sb := e; omega)
    clear hx2 hr2 k2 hS2 HZ1
    generalize w2 = wz at *
    have HOz : Hid (wz.ownsRow w0.heap.size 25 5 (.slice ao kids.length cp) kids.length (vl.flatMap fiveL)) := KZ.owns HO.out (fun q hq e => by have := (owns_geW HO.out q hq).1; have : q = sb := e; omega)
    have hzw : w0.heap.size ≤ wz.heap.size := by have := KZ.size; omega
    refine wpZ_one (i := 5) (by kernel_rfl) rfl (fun K' hK' => ?_)
    refine step_append_lies _ (by rfl) _ _ _ (by rfl) w0.heap.size 25 ij _ 5 80 Tryz.underlying23 hij hj0 hj1 hj2 rfl (by omega) (.slice ao kids.length cp) kids.length (vl.flatMap fiveL) (by rfl) HOz.out
      ⟨zb, 0, none⟩ 1 1 [.int .i64 0, .int .i64 0, .string ⟨#[]⟩, .slice none 0 0, .slice none 0 0] (by rfl) (by rfl) (World.news_of_block (cs := #[.int .i64 0, .int .i64 0, .string ⟨#[]⟩, .slice none 0 0, .slice none 0 0]) (t := 25) (fr := (0, 0)) HZ.out) (by simp [Value.oneCell'])
      (by omega) (by unfold maxLen; omega) (by omega) hzw _ rfl ?_
    intro g cap w5 hown hgrow hat hlt
    have hKz : K < wz.heap.size := by have := KZ.size; omega
    have hPz : P < wz.heap.size := by have := KZ.size; omega
    have eK5 : w5.heap[K]? = some (.cells #[.slice ao kids.length cp] 23 (0, 0)) := (Kp.grown (Kp.refl (fun q => (Value.slice ao kids.length cp).ownBlock = some q) _) hgrow (fun k hk _ => hk)).heap (KZ.heap HKK.out (fun e => by have : K = sb := e; omega)) hKr
    have hP5 : w5.cell? ⟨P, 0, none⟩ = some (.pointer (some ⟨sb, 0, none⟩)) := (Kp.grown (Kp.refl (fun q => (Value.slice ao kids.length cp).ownBlock = some q) _) hgrow (fun k hk _ => hk)).cellv hSz.2 hPr
    have cK5 : w5.cell? ⟨K, 0, none⟩ = some (.slice ao kids.length cp) := by simp [World.cell?, eK5]
    have gK : ¬ g = K := fun e => hat.elim (fun h1 => hKr (by rw [h1, e])) (fun h1 => by omega)
    have gK' : ¬ K = g := fun e => gK e.symm
    have fK5 : w5.frozen? ⟨K, 0, none⟩ = false := by simp [World.frozen?, eK5]
    obtain ⟨⟨q0, q1, q2, q3, q4⟩, hfz⟩ := own_last _ hfl hown
    have z0 := hfz (kids.length * 5)
    have z1 := hfz (kids.length * 5 + 1)
    have z2 := hfz (kids.length * 5 + 2)
    have z3 := hfz (kids.length * 5 + 3)
    have z4 := hfz (kids.length * 5 + 4)
    clear hfz
    have HG := hide ((HF.out) wz w5)
    have HOW := hide hown
    have HGR := hide hgrow
    have HAT := hide hat
    have HKB := hide eK5
    show K' (Act.put _ (some 7) _) w5
    refine hK'.out _ _ (fun _ => ⟨cK5, hP5⟩) (fun _ => ?_)
    clear hK' K' hown hgrow hat eK5 HF HO HKK hSz hP5 hlt HOz
    simp only [Act.put, List.setIfInBounds_toArray, List.set_cons_zero, List.set_cons_succ]
    refine wpZ_two (i := 6) (k := 8) (by kernel_rfl) rfl rfl (fun K' hK' => ?_) (fun K' hK' => ?_)
    · go_simp
      rw [if_pos (by omega)]
      go_simp
      refine hK'.out _ _ (fun h => absurd h (by decide)) (fun _ => ?_)
      clear hK' K'
      refine wpZ_two (i := 7) (k := 8) (by kernel_rfl) rfl rfl (fun K' hK' => ?_) (fun K' hK' => ?_)
      · go_simp
        refine hK'.out _ _ (fun h => absurd h (by decide)) (fun _ => ?_)
        clear hK' K'
        refine wpZ_one (i := 8) (by kernel_rfl) rfl (fun K' hK' => ?_)
        go_simp
        refine hK'.out _ _ (fun h => absurd h (by decide)) (fun _ => wpZ_end (by kernel_rfl) ?_)
        clear hK' K'
        have o6 := row_five (kids.length * 5) hfl.symm HOW.out (.int .i64 v1) (.int .i64 v2) (.string v3) (.slice u1 u2 u3) (.slice y1 y2 y3)
        have k5 : Kp (fun q => q = g) w5 (((((w5.setCell ⟨g, kids.length * 5, none⟩ (.int .i64 v1)).setCell ⟨g, kids.length * 5 + 1, none⟩ (.int .i64 v2)).setCell ⟨g, kids.length * 5 + 2, none⟩ (.string v3)).setCell ⟨g, kids.length * 5 + 3, none⟩ (.slice u1 u2 u3)).setCell ⟨g, kids.length * 5 + 4, none⟩ (.slice y1 y2 y3)) := Kp.five _ _ _ _ _ _ _ _
        have e5 := k5.heap HKB.out gK'
        have k6 : Kp (fun q => q = g ∨ q = K) w5 ((((((w5.setCell ⟨g, kids.length * 5, none⟩ (.int .i64 v1)).setCell ⟨g, kids.length * 5 + 1, none⟩ (.int .i64 v2)).setCell ⟨g, kids.length * 5 + 2, none⟩ (.string v3)).setCell ⟨g, kids.length * 5 + 3, none⟩ (.slice u1 u2 u3)).setCell ⟨g, kids.length * 5 + 4, none⟩ (.slice y1 y2 y3)).setCell ⟨K, 0, none⟩ (.slice (some ⟨g, 0, none⟩) (kids.length + 1) cap)) := (k5.mono (fun _ _ e => .inl e)).setCell (p := ⟨K, 0, none⟩) (fun _ => .inr rfl) _
        refine bodyPost_ret (results_none rfl _ _ _) rfl (HG.out _ (.int .i64 v1, .int .i64 v2, .string v3, .slice u1 u2 u3, .slice y1 y2 y3) g cap _ KZ HXZ.out HRZ.out HOW.out HGR.out HAT.out k6 (set_blkB e5 0 _) ?_)
        exact (Kp.setCell (S := fun q => q = K) (p := ⟨K, 0, none⟩) (Kp.refl _ _) (fun _ => rfl) _).owns o6 (fun q hq e => gK (by have : some g = some q := hq; injection this with this; rw [this]; exact e))
      · go_simp
        refine hK'.out _ _ (fun h => absurd h (by decide)) (fun _ => ?_)
        clear hK' K'
        refine wpZ_one (i := 7) (by kernel_rfl) rfl (fun K' hK' => ?_)
        go_simp
        refine hK'.out _ _ (fun h => absurd h (by decide)) (fun _ => wpZ_end (by kernel_rfl) ?_)
        clear hK' K'
        have kk : Kp (fun q => q = K) w5 (w5.setCell ⟨K, 0, none⟩ (.slice (some ⟨g, 0, none⟩) (kids.length + 1) cap)) := Kp.setCell (S := fun q => q = K) (p := ⟨K, 0, none⟩) (Kp.refl _ _) (fun _ => rfl) _
        have o6 := row_five (kids.length * 5) hfl.symm (kk.owns HOW.out (fun q hq e => gK (by have : some g = some q := hq; injection this with this; rw [this]; exact e))) (.int .i64 v1) (.int .i64 v2) (.string v3) (.slice u1 u2 u3) (.slice y1 y2 y3)
        have k5 : Kp (fun q => q = g) (w5.setCell ⟨K, 0, none⟩ (.slice (some ⟨g, 0, none⟩) (kids.length + 1) cap)) ((((((w5.setCell ⟨K, 0, none⟩ (.slice (some ⟨g, 0, none⟩) (kids.length + 1) cap)).setCell ⟨g, kids.length * 5, none⟩ (.int .i64 v1)).setCell ⟨g, kids.length * 5 + 1, none⟩ (.int .i64 v2)).setCell ⟨g, kids.length * 5 + 2, none⟩ (.string v3)).setCell ⟨g, kids.length * 5 + 3, none⟩ (.slice u1 u2 u3)).setCell ⟨g, kids.length * 5 + 4, none⟩ (.slice y1 y2 y3)) := Kp.five _ _ _ _ _ _ _ _
        exact bodyPost_ret (results_none rfl _ _ _) rfl (HG.out _ (.int .i64 v1, .int .i64 v2, .string v3, .slice u1 u2 u3, .slice y1 y2 y3) g cap _ KZ HXZ.out HRZ.out HOW.out HGR.out HAT.out (Kp.trans (kk.mono (fun _ _ e => .inr e)) k5 (fun _ _ e => .inl e)) (k5.heap (set_blkB HKB.out 0 _) gK') o6)
    · go_simp
      refine hK'.out _ _ (fun h => absurd h (by decide)) (fun _ => ?_)
      clear hK' K'
      refine wpZ_one (i := 6) (by kernel_rfl) rfl (fun K' hK' => ?_)
      go_simp
      rw [if_pos (by omega)]
      go_simp
      refine hK'.out _ _ (fun h => absurd h (by decide)) (fun _ => ?_)
      clear hK' K'
      refine wpZ_one (i := 7) (by kernel_rfl) rfl (fun K' hK' => ?_)
      go_simp
      refine hK'.out _ _ (fun h => absurd h (by decide)) (fun _ => wpZ_end (by kernel_rfl) ?_)
      clear hK' K'
      have kk : Kp (fun q => q = K) w5 (w5.setCell ⟨K, 0, none⟩ (.slice (some ⟨g, 0, none⟩) (kids.length + 1) cap)) := Kp.setCell (S := fun q => q = K) (p := ⟨K, 0, none⟩) (Kp.refl _ _) (fun _ => rfl) _
      have o6 := row_five (kids.length * 5) hfl.symm (kk.owns HOW.out (fun q hq e => gK (by have : some g = some q := hq; injection this with this; rw [this]; exact e))) (.int .i64 v1) (.int .i64 v2) (.string v3) (.slice u1 u2 u3) (.slice y1 y2 y3)
      have k5 : Kp (fun q => q = g) (w5.setCell ⟨K, 0, none⟩ (.slice (some ⟨g, 0, none⟩) (kids.length + 1) cap)) ((((((w5.setCell ⟨K, 0, none⟩ (.slice (some ⟨g, 0, none⟩) (kids.length + 1) cap)).setCell ⟨g, kids.length * 5, none⟩ (.int .i64 v1)).setCell ⟨g, kids.length * 5 + 1, none⟩ (.int .i64 v2)).setCell ⟨g, kids.length * 5 + 2, none⟩ (.string v3)).setCell ⟨g, kids.length * 5 + 3, none⟩ (.slice u1 u2 u3)).setCell ⟨g, kids.length * 5 + 4, none⟩ (.slice y1 y2 y3)) := Kp.five _ _ _ _ _ _ _ _
      exact bodyPost_ret (results_none rfl _ _ _) rfl (HG.out _ (.int .i64 v1, .int .i64 v2, .string v3, .slice u1 u2 u3, .slice y1 y2 y3) g cap _ KZ HXZ.out HRZ.out HOW.out HGR.out HAT.out (Kp.trans (kk.mono (fun _ _ e => .inr e)) k5 (fun _ _ e => .inl e)) (k5.heap (set_blkB HKB.out 0 _) gK') o6)
end Go.Proofs.YthdbnafiindgbaaGreatDoor
