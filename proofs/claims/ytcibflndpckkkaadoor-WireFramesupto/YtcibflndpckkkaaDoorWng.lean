/- A Reader of frames: what a chunk has of a line. -/
import Derived.Test.YtcibflndpckkkaaDoorWnf
import Derived.Test.YtcibflndpckkkaaDoorWzw
namespace Go.Proofs.YtcibflndpckkkaaDoor
open Go.RowKit
open Wi
variable {w w' : World} {B : Nat} {lv : Value} {line : List UInt8} {told : Bool} {len : Int} {inB : Bool} {p bv : Value} {body : List UInt8} {wv : Value}

/-- A line has grown. -/
theorem RdS.putL {w3 w5 : World} {lv' : Value} {l' : List UInt8} (h : RdS w B lv line told len inB p bv body wv) (hb : Below w.heap.size w w3) (hown : w5.ownsRow B 5 1 lv' l'.length (Lib.byteCells l')) (hg : w3.grownBy w5 lv.ownBlock) (hat : ∀ k, lv'.ownBlock = some k → lv.ownBlock = some k ∨ w.heap.size ≤ k) : RdS (w5.setCell ⟨B, 0, none⟩ lv') B lv' l' told len inB p bv body wv ∧ Fk B w (w5.setCell ⟨B, 0, none⟩ lv') := by
  have k35 : Kp (fun q => lv.ownBlock = some q) w3 w5 := (Kp.refl _ w3).grown hg (fun q e _ => e)
  have k03 := Kp.ofBelow hb (fun _ => False)
  have hB5 := k35.heap (k03.heap h.bd.blk id) (fun e => h.linefar B e rfl)
  have k56 : Kp (fun q => q = B) w5 (w5.setCell ⟨B, 0, none⟩ lv') := Kp.setCell (S := fun q => q = B) (p := ⟨B, 0, none⟩) (Kp.refl _ w5) (fun _ => rfl) _
  have hfar : ∀ q, bv.ownBlock = some q → q ≠ B := fun q hq e => h.bd.far (rdH _ _ _ _ _) (by rw [hq, e])
  refine ⟨⟨⟨set_blkB hB5 0 lv', h.bd.adr, k56.owns (k35.owns (k03.owns h.bd.row (fun _ _ => id)) (fun q hq e => h.apart q e hq)) hfar, h.bd.nil⟩, k56.owns hown (fun q hq e1 => ?_), fun q hq e => ?_⟩, ?_⟩
  · obtain ⟨-, c, hc⟩ := own_tyB hown hq
    rw [e1] at hc
    exact absurd (cells_tyB hc hB5) (by decide)
  · rcases hat q hq with e' | e'
    · exact h.apart q e' e
    · obtain ⟨-, c, hc⟩ := own_tyB h.bd.row e
      have := heap_lt hc
      omega
  · refine Kp.mono (Kp.trans (Kp.trans (T := fun q => lv.ownBlock = some q) (S := fun q => q = B ∨ lv.ownBlock = some q) (k03.mono (fun _ _ e => e.elim)) k35 (fun _ _ e => .inr e)) k56 (fun _ _ e => .inl e)) (fun q hq e => ?_)
    rcases e with e | e
    · have e : q = B := e
      rw [e]; exact ⟨Nat.le_refl _, _, _, _, h.bd.blk, .inl rfl⟩
    · obtain ⟨hq, c, hc⟩ := own_tyB h.row e
      exact ⟨hq, _, _, _, hc, .inr rfl⟩
/-- A line is emptied. -/
theorem RdS.clearL {g n cap : Nat} (h : RdS w B (.slice (some ⟨g, 0, none⟩) n cap) line told len inB p bv body wv) : RdS (w.setCell ⟨B, 0, none⟩ (.slice (some ⟨g, 0, none⟩) 0 cap)) B (.slice (some ⟨g, 0, none⟩) 0 cap) [] told len inB p bv body wv ∧ Fk B w (w.setCell ⟨B, 0, none⟩ (.slice (some ⟨g, 0, none⟩) 0 cap)) := by
  refine h.putL (Below.refl _ w) ?_ ⟨rfl, rfl, rfl, Nat.le_refl _, fun _ _ _ => rfl⟩ (fun k hk => .inl hk)
  rcases h.row.2 with ⟨e, -⟩ | ⟨g', cap', cur, e, hb, hg, hn, hm, hs, ht⟩
  · cases e
  · cases e
    exact ⟨rfl, .inr ⟨g, cap, cur, rfl, hb, hg, Nat.zero_le _, hm, hs, by simp [Lib.byteCells]⟩⟩
theorem conv1310 (w : World) : ∃ w1, (convert 53 53 (.slice (some ⟨w.heap.size, 0, none⟩) 2 2)).run Tryd.prog (w.alloc (.cells #[.int .u8 13, .int .u8 10] 5)) = .ok (.slice (some ⟨w.heap.size, 0, none⟩) 2 2) w1 ∧ Byt w1 w.heap.size 0 [13, 10] ∧ Below w.heap.size w w1 := by
  have hsh : (w.alloc (.cells #[.int .u8 13, .int .u8 10] 5)).shape? w.heap.size = some (5, 2) := by
    unfold World.shape?; rw [heap_alloc_new]; rfl
  have hh := heap_alloc_new w (.cells #[.int .u8 13, .int .u8 10] 5)
  refine ⟨(w.alloc (.cells #[.int .u8 13, .int .u8 10] 5)).freeze ⟨w.heap.size, 2, none⟩ 1, ?_, ?_, ?_⟩
  · simp [convert, run_underlying Tryd.underlying53, run_underlying Tryd.underlying5, markStringish, hsh]
  · have hf : ∃ fz, ((w.alloc (.cells #[.int .u8 13, .int .u8 10] 5)).freeze ⟨w.heap.size, 2, none⟩ 1).heap[w.heap.size]? = some (.cells #[.int .u8 13, .int .u8 10] 5 fz) := by
      unfold World.freeze
      rw [if_neg (by decide)]
      simp only [Array.getElem?_modify, hh]
      exact ⟨_, rfl⟩
    obtain ⟨fz, hf⟩ := hf
    intro i hi
    rw [Nat.zero_add]
    refine cell_blk hf ?_
    match i, hi with
    | 0, _ => rfl
    | 1, _ => rfl
  · have k : Kp (fun q => q = w.heap.size) w (w.alloc (.cells #[.int .u8 13, .int .u8 10] 5)) := Kp.ofBelow ((Below.refl _ w).alloc (Nat.le_refl _) _) _
    exact (k.freezeB (p := ⟨w.heap.size, 2, none⟩) rfl 1).below (Nat.le_refl _) (fun q e => Nat.le_of_eq e.symm)
theorem cutLine_snoc {l : List UInt8} (h : cutLine l = none) (x : UInt8) : (x = 10 ∧ l.getLast? = some 13 → cutLine (l ++ [x]) = some (l.dropLast, [])) ∧ (¬ (x = 10 ∧ l.getLast? = some 13) → cutLine (l ++ [x]) = none) := by
  induction l with
  | nil => exact ⟨fun e => by simp at e, fun _ => by simp [cutLine]⟩
  | cons c t ih =>
    rw [cutLine] at h
    split at h
    · cases h
    next hc =>
    have ht : cutLine t = none := by
      cases hq : cutLine t with
      | none => rfl
      | some x => rw [hq] at h; cases h
    obtain ⟨i1, i2⟩ := ih ht
    cases t with
    | nil =>
      constructor
      · rintro ⟨rfl, e⟩
        simp at e
        subst e
        simp [cutLine]
      · intro e
        simp only [List.cons_append, List.nil_append, cutLine]
        rw [if_neg]
        · simp
        · rintro ⟨e1, e2⟩
          simp at e2
          exact e ⟨e2, by simp [e1]⟩
    | cons d t =>
      have hh : ((d :: t) ++ [x]).head? = some d := rfl
      have hh2 : (d :: t).head? = some d := rfl
      rw [hh2] at hc
      constructor
      · rintro ⟨e1, e2⟩
        rw [List.getLast?_cons_cons] at e2
        rw [List.cons_append, cutLine, hh, if_neg hc, i1 ⟨e1, e2⟩]
        simp
      · intro e
        rw [List.getLast?_cons_cons] at e
        rw [List.cons_append, cutLine, hh, if_neg hc, i2 e]
theorem endsB_two (l : List UInt8) (x : UInt8) : endsB (l ++ [x]) [13, 10] = decide (x = 10 ∧ l.getLast? = some 13) := by
  rw [Bool.eq_iff_iff, decide_eq_true_iff]
  unfold endsB
  rw [decide_eq_true_iff]
  rcases List.eq_nil_or_concat l with rfl | ⟨a, b, rfl⟩
  · simp
  · have h1 : (a ++ [b] ++ [x]).length - [13, 10].length = a.length := by simp
    have h1' : (List.concat a b ++ [x]).length - ([13, 10] : List UInt8).length = a.length := by simp
    rw [h1']
    simp [List.concat_eq_append]
    constructor
    · rintro ⟨rfl, rfl⟩; exact ⟨rfl, rfl⟩
    · rintro ⟨rfl, rfl⟩; exact ⟨rfl, rfl⟩
/-- What a chunk has of a line: what comes of the Reader, and what is left. -/
def takeL (l : List UInt8) (size : Int) : List UInt8 → Sta × List UInt8
  | [] => (.line l size, [])
  | x :: c => if x = 10 ∧ l.getLast? = some 13 then (endSta l.dropLast size, c) else if tooLong (l ++ [x]) then (.bad 12, []) else takeL (l ++ [x]) size c
set_option maxRecDepth 100000 in
set_option maxHeartbeats 4000000 in
theorem takeLine_any {size : Int} (l c : List UInt8) (h : IsRd w B (.line l size)) (hl : l.length + c.length ≤ 1073741824) :
    Calls Tryd.prog 27 #[.pointer (some ⟨B, 0, none⟩), .string (ba c)] w fun e w' => e = .returned (.string (ba (takeL l size c).2)) ∧ IsRd w' B (takeL l size c).1 ∧ Fk B w w' := by
  obtain ⟨R, hR⟩ : ∃ R, takeL l size c = R := ⟨_, rfl⟩
  rw [hR]
  have HR : Hid (takeL (l ++ c.take 0) size (c.drop 0) = R) := by show _ = _; rw [← hR]; simp
  obtain ⟨ib, hib, hb0, hb1, hb2⟩ := infoPt infoBB
  have HH : Hid (IsRd w B (.line (l ++ c.take 0) size)) := by show IsRd _ _ _; simpa using h
  have HSZ : Hid ((ba c).size = c.length) := ba_size c
  have HXG : Hid (∀ i x, c[i]? = some x → ∃ h : i < (ba c).size, (ba c)[i] = x) := by
    intro i x hc
    have hi : i < c.length := by
      rcases Nat.lt_or_ge i c.length with h | h
      · exact h
      · rw [List.getElem?_eq_none h] at hc; cases hc
    refine ⟨by rw [HSZ.out]; exact hi, ?_⟩
    rw [List.getElem?_eq_getElem hi] at hc
    rw [← Option.some.inj hc]
    simp [ba, ByteArray.getElem_eq_getElem_data]
  have HXC : Hid (∀ i, (ba c).extract i (ba c).size = ba (c.drop i)) := by
    intro i; apply bs_inj; rw [bs_drop, bs_ba, bs_ba]
  have hlX : l.length + (ba c).size ≤ 1073741824 := by have := HSZ.out; omega
  clear hR h hl
  generalize ba c = X at *
  go_enter Tryd.func27, Tryd.ntmps27
  go_wp2_with fail
  go_loopw [9] (fun iv wr => ∃ i : Nat, iv = .int .i64 i ∧ i ≤ X.size ∧ Hid (takeL (l ++ c.take i) size (c.drop i) = R) ∧ Hid (IsRd wr B (.line (l ++ c.take i) size)) ∧ Hid (Fk B w wr)) (fun iv _ => X.size - (intOf iv).toNat)
  case atStart => exact ⟨0, rfl, Nat.zero_le _, HR, HH, Kp.refl _ w⟩
  case round =>
    obtain ⟨i, rfl, hi, HT, HI, HK⟩ := hrel
    clear HR HH
    by_cases hlt : i < X.size
    case neg =>
      have i1 : decide ((i : Int) < (X.size : Int)) = false := by simp; omega
      have i1' : decide (i < X.size) = false := by simp; omega
      have HE : Hid (R = (.line (l ++ c.take i) size, [])) := by
        show _ = _
        rw [← HT.out, List.drop_eq_nil_of_le (by have := HSZ.out; omega)]; rfl
      clear hlt
      go_wp2_with fail
      go_ret
      rw [HE.out]
      exact ⟨rfl, HI.out, HK.out⟩
    have i1 : decide ((i : Int) < (X.size : Int)) = true := by simp; omega
    have i1' : decide (i < X.size) = true := by simp; omega
    have i2 : (0 : Int) ≤ (i : Int) := by omega
    have i3 : (i : Int) < (X.size : Int) := by omega
    obtain ⟨x, hx⟩ : ∃ x, c[i]? = some x := ⟨_, List.getElem?_eq_getElem (by have := HSZ.out; omega)⟩
    obtain ⟨hix, hxc⟩ := (HXG.out) i x hx
    have HDR : Hid (c.drop i = x :: c.drop (i + 1)) := by
      show _ = _
      have hil : i < c.length := by have := HSZ.out; omega
      rw [List.getElem?_eq_getElem hil] at hx
      rw [← Option.some.inj hx]
      exact List.drop_eq_getElem_cons hil
    have HTK : Hid (l ++ c.take (i + 1) = (l ++ c.take i) ++ [x]) := by
      show _ = _
      rw [List.take_add_one, hx]; simp
    rw [HDR.out] at HT
    have hLl : (l ++ c.take i).length ≤ 1073741824 := by have := HSZ.out; simp; omega
    clear hx hlt
    generalize l ++ c.take i = L at *
    obtain ⟨lv, told, len, p, hr, ht, hlen⟩ := HI.out
    obtain ⟨c0, -, -, -, -, -, -⟩ := hr.cells
    have f0 := hr.frz 0
    have HRD := hide hr
    have HTL := hide ht
    have HLN := hide hlen
    have hBl := hr.lt
    have HFAR : Hid (some B ≠ lv.ownBlock) := fun e => hr.linefar B e.symm rfl
    obtain ⟨la, lc, rfl⟩ : ∃ la lc, lv = .slice la L.length lc := by
      rcases hr.row.2 with ⟨rfl, e⟩ | ⟨g, cap, cur, rfl, -⟩
      · exact ⟨none, 0, by rw [e]⟩
      · exact ⟨_, cap, rfl⟩
    have HUC := hide (uchB x)
    obtain ⟨xi, hxi⟩ : ∃ xi : Int, (x.toNat : Int) = xi := ⟨_, rfl⟩
    rw [hxi] at HUC
    clear hr ht hlen HI
    go_wp2_with fail
    refine wp_region_noPanic ?_
    refine wpTo_start (S := fun w' => w'.cell? ⟨B, 0, none⟩ = some (.slice la L.length lc)) (z := 14) (by kernel_rfl) ?_
    have hS : wr.drew.cell? ⟨B, 0, none⟩ = some (.slice la L.length lc) := c0
    refine wpTo_take (i := 0) (dn := 12) (v := ?_) rfl rfl (by kernel_rfl) (by kernel_rfl) (by kernel_rfl) (by kernel_rfl) (fun _ _ _ h => h) (Or.inl ⟨by rfl, ?_⟩) hS ?_
    rotate_left
    · (intro wx hSw; (try dsimp only at hSw); go_simp; try (with_reducible rfl))
    simp only [Act.put, List.setIfInBounds_toArray, List.set_cons_zero, List.set_cons_succ]
    refine wpTo_take (i := 1) (dn := 13) (v := ?_) rfl rfl (by kernel_rfl) (by kernel_rfl) (by kernel_rfl) (by kernel_rfl) (fun _ _ _ h => h) (Or.inl ⟨by rfl, ?_⟩) hS ?_
    rotate_left
    · (intro wx hSw; (try dsimp only at hSw); go_simp; try (with_reducible rfl))
    simp only [Act.put, List.setIfInBounds_toArray, List.set_cons_zero, List.set_cons_succ]
    refine wpTo_take (i := 2) (dn := 14) (v := ?_) rfl rfl (by kernel_rfl) (by kernel_rfl) (by kernel_rfl) (by kernel_rfl) (fun _ _ _ h => h) (Or.inl ⟨by rfl, ?_⟩) hS ?_
    rotate_left
    · (intro wx hSw; (try dsimp only at hSw); go_simp; try (with_reducible rfl))
    simp only [Act.put, List.setIfInBounds_toArray, List.set_cons_zero, List.set_cons_succ]
    refine wpTo_take (i := 3) (dn := 15) (v := ?_) rfl rfl (by kernel_rfl) (by kernel_rfl) (by kernel_rfl) (by kernel_rfl) (fun _ _ _ h => h) (Or.inl ⟨by rfl, ?_⟩) hS ?_
    rotate_left
    · (intro wx hSw; (try dsimp only at hSw); go_simp; try (with_reducible rfl))
    simp only [Act.put, List.setIfInBounds_toArray, List.set_cons_zero, List.set_cons_succ]
    refine wpTo_take (i := 4) (dn := 16) (v := ?_) rfl rfl (by kernel_rfl) (by kernel_rfl) (by kernel_rfl) (by kernel_rfl) (fun _ _ _ h => h) (Or.inl ⟨by rfl, ?_⟩) hS ?_
    rotate_left
    · (intro wx hSw; (try dsimp only at hSw); go_simp; try (with_reducible rfl))
    simp only [Act.put, List.setIfInBounds_toArray, List.set_cons_zero, List.set_cons_succ]
    refine wpTo_take (i := 5) (dn := 17) (v := ?_) rfl rfl (by kernel_rfl) (by kernel_rfl) (by kernel_rfl) (by kernel_rfl) (fun _ _ _ h => h) (Or.inl ⟨by rfl, ?_⟩) hS ?_
    rotate_left
    · (intro wx hSw; (try dsimp only at hSw); go_simp; try (with_reducible rfl))
    simp only [Act.put, List.setIfInBounds_toArray, List.set_cons_zero, List.set_cons_succ]
    refine wpTo_take (i := 6) (dn := 18) (v := ?_) rfl rfl (by kernel_rfl) (by kernel_rfl) (by kernel_rfl) (by kernel_rfl) (fun _ _ _ h => h) (Or.inl ⟨by rfl, ?_⟩) hS ?_
    rotate_left
    · (intro wx hSw; (try dsimp only at hSw); go_simp; try (with_reducible rfl))
    simp only [Act.put, List.setIfInBounds_toArray, List.set_cons_zero, List.set_cons_succ]
    refine wpTo_take (i := 7) (dn := 19) (v := ?_) rfl rfl (by kernel_rfl) (by kernel_rfl) (by kernel_rfl) (by kernel_rfl) (fun _ _ _ h => h) (Or.inl ⟨by rfl, ?_⟩) hS ?_
    rotate_left
    · (intro wx hSw; (try dsimp only at hSw); go_simp; try (with_reducible rfl))
    simp only [Act.put, List.setIfInBounds_toArray, List.set_cons_zero, List.set_cons_succ]
    refine wpTo_take (i := 8) (dn := 20) (v := ?_) rfl rfl (by kernel_rfl) (by kernel_rfl) (by kernel_rfl) (by kernel_rfl) (fun _ _ _ h => h) (Or.inl ⟨by rfl, ?_⟩) hS ?_
    rotate_left
    · (intro wx hSw; (try dsimp only at hSw); go_simp; try (with_reducible rfl))
    simp only [Act.put, List.setIfInBounds_toArray, List.set_cons_zero, List.set_cons_succ]
    refine wpTo_one (i := 9) (by kernel_rfl) rfl (fun K hK => ?_)
    go_simp
    refine hK.out _ _ (fun _ => by first | go_keep | (dsimp only; go_keep)) (fun hS2 => ?_)
    clear hS hK K
    have hS := hS2 (by decide)
    clear hS2
    refine wpTo_one (i := 10) (by kernel_rfl) rfl (fun K hK => ?_)
    refine step_append_lies _ (by rfl) _ _ _ (by rfl) B 5 ib _ 1 1 Tryd.underlying53 hib hb0 hb1 hb2 rfl (by omega) (.slice la L.length lc) L.length _ (by rfl) ((((HRD.out).row : wr.ownsRow _ _ _ _ _ _).alloc _).drew)
      ⟨wr.heap.size, 0, none⟩ 1 1 [.int .u8 xi] (by rfl) (by rfl) (World.news_of_block (cs := #[.int .u8 xi]) (t := 5) (fr := (0, 0)) (heap_alloc_new wr _)) (by simp [Value.oneCell'])
      (by omega) (by unfold maxLen; omega) (by omega) (by simp; omega) (wr.heap.size + 1) (by simp) ?_
    intro g5 cap5 w5 hown5 hgrow5 hat5 hlt5
    have y0 := (hgrow5.cell_far ⟨B, 0, none⟩ (by simp; omega) HFAR.out).trans hS
    have x0 : w5.frozen? ⟨B, 0, none⟩ = false := (hgrow5.frozen_far ⟨B, 0, none⟩ (by simp; omega) HFAR.out).trans ((World.frozen?_alloc_old _ _ ⟨B, 0, none⟩ (by simp; omega)).trans f0)
    show K (Act.put _ (some 22) _) w5
    refine hK.out _ _ (fun _ => y0) (fun hS2 => ?_)
    clear hS hK K
    have hS := hS2 (by decide)
    clear hS2
    simp only [Act.put, List.setIfInBounds_toArray, List.set_cons_zero, List.set_cons_succ]
    refine wpTo_one (i := 11) (by kernel_rfl) rfl (fun K hK => ?_)
    go_simp
    refine hK.out _ _ (fun _ => hS) (fun _ => ?_)
    clear hK K
    refine wpTo_one (i := 12) (by kernel_rfl) rfl (fun K hK => ?_)
    go_simp
    refine hK.out _ _ (fun _ => hS) (fun _ => ?_)
    clear hK K
    refine wpTo_one (i := 13) (by kernel_rfl) rfl (fun K hK => ?_)
    go_simp
    refine hK.out _ _ (fun _ => hS) (fun _ => ?_)
    clear hK K
    refine wpTo_one (i := 14) (by kernel_rfl) rfl (fun K hK => ?_)
    go_simp
    refine hK.out _ _ (fun h => absurd rfl h) (fun _ => wpTo_end (by kernel_rfl) ?_)
    clear hK K
    refine NoPanic.normal ?_
    have hput := (HRD.out).putL (l' := L ++ [x]) (lv' := .slice (some ⟨g5, 0, none⟩) (L.length + 1) cap5) (((Below.refl _ wr).alloc (Nat.le_refl _) (.cells #[.int .u8 xi] 5)).drew) (by rw [List.length_append, Lib.byteCells_append, HUC.out]; exact hown5) hgrow5 (fun k hk => by
      obtain rfl : g5 = k := by simpa [Value.ownBlock] using hk
      rcases hat5 with e | e
      · exact .inl e
      · exact .inr (by omega))
    have HP6 := hide hput.1
    have HK6 := hide ((HK.out).trans hput.2)
    clear y0 x0 hS hown5 hgrow5 hat5 hlt5 hput HRD HK HUC HFAR c0 f0 hBl
    generalize w5.setCell ⟨B, 0, none⟩ (.slice (some ⟨g5, 0, none⟩) (L.length + 1) cap5) = w6 at *
    obtain ⟨c0, -, -, -, -, -, -⟩ := (HP6.out).cells
    have hcap : L.length + 1 ≤ cap5 ∧ cap5 ≤ maxLen := by
      rcases (HP6.out).row.2 with ⟨e, -⟩ | ⟨g, cap, cur, e, -, -, hn, hm, -⟩
      · cases e
      · injection e with _ e2 e3
        exact ⟨by rw [e2, e3]; exact hn, by rw [e3]; exact hm⟩
    have hby : Byt w6 g5 0 (L ++ [x]) := Byt.owns (HP6.out).row
    have HBY := hide hby
    have hmlc : cap5 ≤ 9223372036854775807 := by have := hcap.2; unfold maxLen at this; omega
    obtain ⟨w7a, hcs, hb13, hb7⟩ := conv1310 w6
    have HHS := hide (hasSuffix_any g5 cap5 w6.heap.size 2 (L ++ [x]) [13, 10] (by decide) (by simpa using hcap.1) hcap.2 (hby.below hb7) hb13)
    rw [endsB_two, show (L ++ [x]).length = L.length + 1 by simp] at HHS
    have HP7 := hide ((HP6.out).below hb7)
    have HK7 := hide ((HK6.out).trans (Fk.below hb7))
    have HBY7 := hide (hby.below hb7)
    clear hby hb7 hb13
    go_wp2_with fail
    refine (HHS.out).mono ?_
    rintro en w7 ⟨rfl, rfl⟩
    clear HHS HP6 HK6 HBY c0 hcs
    obtain ⟨c0, -, -, -, -, -, -⟩ := (HP7.out).cells
    have f0 := (HP7.out).frz 0
    by_cases hend : x = 10 ∧ L.getLast? = some 13
    · rw [decide_eq_true hend]
      have HE : Hid (R = (endSta L.dropLast size, c.drop (i + 1))) := by
        show _ = _
        rw [← HT.out, takeL, if_pos hend]
      have hL0 : 0 < L.length := List.length_pos_iff.2 (fun e => by rw [e] at hend; cases hend.2)
      obtain ⟨m, hm⟩ : ∃ m, L.length = m + 1 := ⟨L.length - 1, by omega⟩
      have hal : L.dropLast.length = m := by simp; omega
      have hat : (L ++ [x]).take m = L.dropLast := by
        rw [List.take_append_of_le_length (by omega), List.dropLast_eq_take, show L.length - 1 = m by omega]
      have hby : Byt w7 g5 0 L.dropLast := by rw [← hat]; exact (HBY7.out).take m
      have hcv : ∀ k, (convert 53 9 (.slice (some ⟨g5, 0, none⟩) m cap5)).run Tryd.prog (w7.drewN k) = .ok (.string (ba L.dropLast)) (w7.drewN k) := fun k => by
        have := (hby.below (belowN (Below.refl _ w7) k)).conv (cap := cap5)
        rw [hal] at this
        exact this
      have e1 : ((L.length + 1 : Nat) : Int) - 2 = (m : Int) := by omega
      have e1' : (L.length : Int) + 1 - 2 = (m : Int) := by omega
      have i5 : (0 : Int) ≤ (m : Int) := by omega
      have i6 : (m : Int) ≤ (cap5 : Int) := by omega
      have i7 : (i : Int) + 1 ≤ (X.size : Int) := by omega
      have hcap0 : ¬ cap5 = 0 := by omega
      have hall : L.dropLast.length ≤ 1073741824 := by omega
      have HXE := hide ((HXC.out) (i + 1))
      clear hend hL0 hat hby HT HBY7 hal
      generalize L.dropLast = a at *
      generalize hL1 : L.length + 1 = L1 at *
      clear hm hL1 hcap
      go_wp2_with fail
      go_quiet (fail)
      have HP8 := hide ((HP7.out).drew nq)
      have hcl := (HP8.out).clearL
      have HP9 : Hid (IsRd ((w7.drewN nq).setCell ⟨B, 0, none⟩ (.slice (some ⟨g5, 0, none⟩) 0 cap5)) B (.line [] size)) := ⟨_, told, len, p, hcl.1, HTL.out, HLN.out⟩
      have HK9 := hide ((HK7.out).trans ((Fk.below (belowN (Below.refl _ w7) nq)).trans hcl.2))
      have HEL := hide (endLine_any a hall HP9.out)
      clear hcl
      go_wp2_with fail
      refine (HEL.out).mono ?_
      rintro en w9 ⟨rfl, h9, k9⟩
      have HF := hide ((HK9.out).trans k9)
      have HI9 := hide h9
      clear h9 k9 HEL HP9 HK9 HP8 HP7 c0 f0 hcv
      go_wp2_with fail
      go_ret
      rw [HE.out]
      refine ⟨?_, HI9.out, HF.out⟩
      rw [← HXE.out]; rfl
    · rw [decide_eq_false hend]
      have HTL2 := hide (tooLong_any g5 cap5 (L ++ [x]) (by simpa using hcap.1) hcap.2 (by omega) HBY7.out)
      rw [show (L ++ [x]).length = L.length + 1 by simp] at HTL2
      rw [takeL, if_neg hend] at HT
      clear hend HBY7
      by_cases htl : tooLong (L ++ [x])
      · rw [decide_eq_true htl] at HTL2
        rw [if_pos htl] at HT
        clear htl
        go_wp2_with fail
        refine (HTL2.out).mono ?_
        rintro en w8 ⟨rfl, k8⟩
        have HF := hide (fail_any 12 ((HP7.out).below k8))
        have HK8 := hide ((HK7.out).trans (Fk.below k8))
        clear k8 c0 f0 HTL2
        go_wp2_with fail
        refine (HF.out).mono ?_
        rintro en w9 ⟨rfl, h9, k9⟩
        have HI9 := hide h9
        have HK9 := hide ((HK8.out).trans k9)
        clear h9 k9 HF
        go_wp2_with fail
        go_ret
        rw [← HT.out]
        exact ⟨rfl, HI9.out, HK9.out⟩
      · rw [decide_eq_false htl] at HTL2
        rw [if_neg htl] at HT
        clear htl
        go_wp2_with fail
        refine (HTL2.out).mono ?_
        rintro en w8 ⟨rfl, k8⟩
        have HP8 := hide ((HP7.out).below k8)
        have HK8 := hide ((HK7.out).trans (Fk.below k8))
        clear k8 c0 f0 HTL2
        go_wp2_with fail
        refine ⟨⟨i + 1, by simp, by omega, ?_, ?_, HK8⟩, ?_⟩
        · show _ = _
          rw [HTK.out]; exact HT.out
        · show IsRd _ _ _
          rw [HTK.out]
          exact ⟨_, told, len, p, HP8.out, HTL.out, HLN.out⟩
        · show X.size - (i + 1) < X.size - i
          omega

end Go.Proofs.YtcibflndpckkkaaDoor
