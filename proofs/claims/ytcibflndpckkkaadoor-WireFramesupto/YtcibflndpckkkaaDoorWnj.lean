/- The law WireFeeds. -/
import Derived.Test.YtcibflndpckkkaaDoorWni
import Derived.Test.YtcibflndpckkkaaDoorWlg
import Derived.Test.YtcibflndpckkkaaDoorErb
namespace Go.Proofs.YtcibflndpckkkaaDoor
open Go.RowKit
open Wi
variable {w w' : World} {B : Nat}

set_option maxRecDepth 100000 in
theorem new_any (w : World) : Calls Tryd.prog 13 #[] w fun e w' => e = .returned (.pointer (some ⟨w.heap.size, 0, none⟩)) ∧ IsRd w' w.heap.size (.line [] (-1)) ∧ Below w.heap.size w w' := by
  go_enter Tryd.func13, Tryd.ntmps13
  go_wp2
  go_ret
  refine ⟨rfl, ⟨_, false, 0, _, ⟨⟨heap_alloc_new w _, .inl rfl, World.ownsRow_nil _ _ _ _, fun _ => rfl⟩, World.ownsRow_nil _ _ _ _, fun _ hk => by cases hk⟩, by decide, fun e => absurd e (by decide)⟩, (Below.refl _ w).alloc (Nat.le_refl _) _⟩
/-- A row of texts that is owned can be read, from a place on. -/
theorem stOf {base : Nat} {ao : Option Addr} {n cap : Nat} {xs : List (List UInt8)} (h : w.ownsRow base 9 1 (.slice ao n cap) xs.length (strv xs)) (k : Nat) (hk : k ≤ xs.length) (ao' : Option Addr) (ha : ∀ g, ao = some ⟨g, 0, none⟩ → k < xs.length → ao' = some ⟨g, k, none⟩) : IsSt w (.slice ao' (xs.length - k) (cap - k)) (xs.drop k) := by
  have hcells := fun g hg => h.cells (g := g) hg
  rcases h.2 with ⟨e, h0⟩ | ⟨g, cap', cur, e, hb, hg, hn, hm, hs, ht⟩
  · refine ⟨ao', cap - k, by rw [List.length_drop], ?_, ?_, fun i x hx => ?_⟩
    · rw [List.length_drop]; omega
    · cases e; unfold maxLen; omega
    · rw [List.eq_nil_of_length_eq_zero h0] at hx; simp at hx
  · cases e
    refine ⟨ao', cap - k, by rw [List.length_drop], by rw [List.length_drop]; omega, by omega, fun i x hx => ?_⟩
    rw [List.getElem?_drop] at hx
    have hlt : k + i < xs.length := by
      rcases Nat.lt_or_ge (k + i) xs.length with h | h
      · exact h
      · rw [List.getElem?_eq_none h] at hx; cases hx
    refine ⟨g, k, ha g rfl (by omega), ?_⟩
    have := hcells g rfl (k + i) (.string (ba x)) (by simp [strv, hx])
    rw [Addr.add_lit] at this
    rw [← this]; simp
theorem Fk.st {v : Value} {base n : Nat} {xs : List Value} (hk : Fk B w w') (h : w.ownsRow base 9 1 v n xs) : w'.ownsRow base 9 1 v n xs := hk.owns h str_not_RTy
/-- Between two pieces. -/
structure WfI (B : Nat) (pre : List UInt8) (wr : World) : Prop where
  ok : (fr (-1) pre).e = 0 → ∃ s, Sok s ∧ IsRd wr B s ∧ rep s = (fr (-1) pre).left ∧ siz s = (fr (-1) pre).sz ∧ ∀ x, s ≠ .bad x
  bad : (fr (-1) pre).e ≠ 0 → IsRd wr B (.bad (fr (-1) pre).e)
theorem feed_fr {s : Sta} (h : ∀ x, s ≠ .bad x) (c : List UInt8) : feed s c = fr (siz s) (rep s ++ c) := by
  cases s with
  | line l z => rfl
  | body b z => rfl
  | bad x => exact absurd rfl (h x)
theorem left_len (n : Nat) : ∀ (size : Int) (l : List UInt8), l.length ≤ n → (fr size l).left.length ≤ l.length := by
  induction n with
  | zero =>
    intro size l hl
    have : l = [] := List.eq_nil_of_length_eq_zero (by omega)
    subst this
    rw [fr_none rfl]; simp; split <;> simp
  | succ n ih =>
    intro size l hl
    cases hc : cutLine l with
    | none => rw [fr_none hc]; split <;> simp
    | some x =>
      obtain ⟨a, r⟩ := x
      have hlen := congrArg List.length (cutLine_len hc)
      simp only [List.length_append, List.length_cons] at hlen
      rw [fr_some hc]
      split
      · simp
      split
      · split
        · simp
        · have := ih (if 0 ≤ lenOf a then lenOf a else size) r (by omega)
          omega
      split
      · simp
      split
      · simp
      · have := ih (-1) (r.drop size.toNat) (by simp; omega)
        simp at this ⊢; omega
theorem out_len (n : Nat) : ∀ (size : Int) (l : List UInt8), l.length ≤ n → (fr size l).out.length ≤ l.length := by
  induction n with
  | zero =>
    intro size l hl
    have : l = [] := List.eq_nil_of_length_eq_zero (by omega)
    subst this
    rw [fr_none rfl]; split <;> simp
  | succ n ih =>
    intro size l hl
    cases hc : cutLine l with
    | none => rw [fr_none hc]; split <;> simp
    | some x =>
      obtain ⟨a, r⟩ := x
      have hlen := congrArg List.length (cutLine_len hc)
      simp only [List.length_append, List.length_cons] at hlen
      rw [fr_some hc]
      split
      · simp
      split
      · split
        · simp
        · have := ih (if 0 ≤ lenOf a then lenOf a else size) r (by omega)
          omega
      split
      · simp
      split
      · simp
      · have := ih (-1) (r.drop size.toNat) (by simp; omega)
        simp at this ⊢; omega
/-- One piece more: what Feed tells, against what the document does. -/
theorem WfI.step {pre c : List UInt8} {wr : World} (h : WfI B pre wr) (hl : pre.length + c.length ≤ 1073741824) :
    Calls Tryd.prog 15 #[.pointer (some ⟨B, 0, none⟩), .string (ba c)] wr fun e w' => ∃ ov, e = .returned (.tuple #[ov, errV ((fr (-1) (pre ++ c)).e : Int)]) ∧
      w'.ownsRow wr.heap.size 9 1 ov ((fr (-1) (pre ++ c)).out.drop (fr (-1) pre).out.length).length (strv ((fr (-1) (pre ++ c)).out.drop (fr (-1) pre).out.length)) ∧ Fk B wr w' ∧ WfI B (pre ++ c) w' ∧ (fr (-1) pre).out.length ≤ (fr (-1) (pre ++ c)).out.length ∧ ((fr (-1) pre).e ≠ 0 → (fr (-1) (pre ++ c)).out.length = (fr (-1) pre).out.length ∧ (fr (-1) (pre ++ c)).e = (fr (-1) pre).e) := by
  obtain ⟨c1, c2⟩ := fr_cut pre.length (-1) pre c (Nat.le_refl _)
  have hleft := left_len pre.length (-1) pre (Nat.le_refl _)
  have hok := h.ok
  have hbad := h.bad
  clear h
  generalize fr (-1) pre = P at *
  by_cases he : P.e = 0
  · obtain ⟨s, hs, hr, e1, e2, hb⟩ := hok he
    have hP := c1 he
    rw [← e1, ← e2, ← feed_fr hb] at hP
    refine (feed_any s c hr hs (by rw [e1]; omega)).mono ?_
    rintro en w' ⟨ov, ev, rfl, ho, hk, hcase⟩
    generalize feed s c = F at *
    have hd : (P.out ++ F.out).drop P.out.length = F.out := List.drop_left
    refine ⟨ov, ?_, ?_, hk, ?_, ?_, fun x => absurd he x⟩
    · rw [hP]
      rcases hcase with ⟨h0, rfl, -⟩ | ⟨h0, rfl, -⟩
      · show _ = Ending.returned (.tuple #[ov, errV (F.e : Int)])
        rw [h0]; rfl
      · show _ = Ending.returned (.tuple #[ov, errV (F.e : Int)])
        unfold errV
        rw [if_neg (by omega)]
    · rw [hP]
      show w'.ownsRow _ _ _ _ ((P.out ++ F.out).drop P.out.length).length (strv ((P.out ++ F.out).drop P.out.length))
      rw [hd]; exact ho
    · constructor
      · intro h0
        rw [hP] at h0 ⊢
        rcases hcase with ⟨_, _, s', g1, g2, g3, g4, g5⟩ | ⟨g0, _⟩
        · exact ⟨s', g1, g2, g3, g4, g5⟩
        · exact absurd h0 g0
      · intro h0
        rw [hP] at h0 ⊢
        rcases hcase with ⟨g0, _⟩ | ⟨_, _, g3⟩
        · exact absurd g0 h0
        · exact g3
    · rw [hP]; simp
  · obtain ⟨d1, d2⟩ := c2 he
    have hr := hbad he
    refine (feed_any (.bad P.e) c hr he (by simp [rep]; omega)).mono ?_
    rintro en w' ⟨ov, ev, rfl, ho, hk, hcase⟩
    have hF : feed (.bad P.e) c = ⟨[], P.e, 0, []⟩ := rfl
    rw [hF] at ho hcase
    refine ⟨ov, ?_, ?_, hk, ?_, ?_, fun _ => ⟨by rw [d1], d2⟩⟩
    · rcases hcase with ⟨h0, _⟩ | ⟨h0, rfl, -⟩
      · exact absurd h0 he
      · rw [d2]
        unfold errV
        rw [if_neg (by omega)]
    · rw [d1, List.drop_length]; exact ho
    · constructor
      · intro h0; rw [d2] at h0; exact absurd h0 he
      · intro _
        rw [d2]
        rcases hcase with ⟨h0, _⟩ | ⟨_, _, g3⟩
        · exact absurd h0 he
        · exact g3
    · rw [d1]; exact Nat.le_refl _
theorem IsIv.below {w w' : World} {v : Value} {xs : List Int} (h : IsIv w v xs) (hk : Below w.heap.size w w') : IsIv w' v xs := by
  obtain ⟨ao, cap, e, h1, h2, h3⟩ := h
  refine ⟨ao, cap, e, h1, h2, fun i x hx => ?_⟩
  obtain ⟨g, o, e1, e2⟩ := h3 i x hx
  exact ⟨g, o, e1, (Kp.ofBelow hk (fun _ => False)).cellv e2 id⟩
theorem flat_take {α : Type} {l : List (List α)} {i : Nat} {x : List α} (h : l[i]? = some x) : (l.take (i + 1)).flatten = (l.take i).flatten ++ x := by
  rw [List.take_add_one, h]; simp
theorem flat_le {α : Type} (l : List (List α)) (i : Nat) : (l.take i).flatten.length ≤ l.flatten.length := by
  conv => rhs; rw [← List.take_append_drop i l]
  rw [List.flatten_append, List.length_append]; omega

set_option maxRecDepth 100000 in
set_option maxHeartbeats 2000000 in
theorem wireFeeds_any (s : ByteArray) (cs : List Int) (v : Value) (w : World) (hE : ErrT w) (h : IsIv w v cs) (hs : s.size ≤ 1073741824) (hc : cs.length ≤ 1048576) :
    Calls Tryd.prog 5 #[.string s, v] w fun e w' => e = .returned (.bool true) ∧ Below w.heap.size w w' := by
  have HN := hide (new_any w)
  have HCUT := hide (fun (W : World) (hW : Below w.heap.size w W) => wcut_any s cs v W (h.below hW) (by omega))
  have HE := hide hE
  have hj := cutL_join (bs s) cs 0 (Nat.zero_le _)
  rw [List.drop_zero] at hj
  have HJ := hide hj
  have HLL : Hid ((cutL (bs s) 0 cs).length ≤ 1048577) := by show _ ≤ _; exact Nat.le_trans (cutL_len (bs s) cs 0) (by omega)
  have hbl : (bs s).length = s.size := bs_len s
  have HBL := hide hbl
  clear h hE hj hbl
  generalize cutL (bs s) 0 cs = l at *
  go_enter Tryd.func5, Tryd.ntmps5
  go_wp2_with fail
  refine (HN.out).mono ?_
  rintro en w1 ⟨rfl, h1, k1⟩
  have HR1 := hide h1
  have HK1 := hide k1
  clear h1 k1 HN
  generalize hB : w.heap.size = B at *
  go_wp2_with fail
  refine ((HCUT.out) _ HK1.out).mono ?_
  rintro en w2 ⟨lv, rfl, HL2, k2⟩
  have HK2 : Hid (Below B w w2) := (HK1.out).trans (k2.mono (by rw [← hB]; exact (HK1.out).size))
  have HW2 : Hid (WfI B (l.take 0).flatten w2) := by
    have e0 : fr (-1) (l.take 0).flatten = ⟨[], 0, -1, []⟩ := by rw [List.take_zero]; show fr (-1) [] = _; rw [fr_none rfl]; rfl
    exact ⟨fun _ => ⟨.line [] (-1), ⟨rfl, by unfold tooLong; simp, by decide⟩, (HR1.out).below k2, by rw [e0]; rfl, by rw [e0]; rfl, fun x e => by cases e⟩, fun e => absurd (by rw [e0]) e⟩
  obtain ⟨la, lc, rfl⟩ := strRow HL2.out
  have HL2' : Hid (w2.ownsRow w1.heap.size 9 1 (.slice la l.length lc) l.length (strv l)) := HL2.out
  have hBw : B ≤ w1.heap.size := by rw [← hB]; exact (HK1.out).size
  generalize w1.heap.size = Bl at *
  clear k2 HL2 HCUT HR1 HK1
  go_wp2_with fail
  go_loopw [7, 8, 9, 10] (fun sv nv ov iv wr => ∃ i : Nat, iv = .int .i64 i ∧ i ≤ l.length ∧ sv = .string (ba (l.take i).flatten) ∧ nv = .int .i64 ((fr (-1) (l.take i).flatten).out.length : Nat) ∧ ov = .int .i64 ((fr (-1) (l.take i).flatten).e : Nat) ∧ Hid (WfI B (l.take i).flatten wr) ∧ Hid (wr.ownsRow Bl 9 1 (.slice la l.length lc) l.length (strv l)) ∧ Hid (Below B w wr)) (fun _ _ _ iv _ => l.length - (intOf iv).toNat)
  case atStart =>
    have e0 : fr (-1) (l.take 0).flatten = ⟨[], 0, -1, []⟩ := by rw [List.take_zero]; show fr (-1) [] = _; rw [fr_none rfl]; rfl
    refine ⟨0, rfl, Nat.zero_le _, rfl, by rw [e0]; rfl, by rw [e0]; rfl, HW2, HL2', HK2⟩
  case round =>
    clear HW2 HL2' HK2
    obtain ⟨i, rfl, hi, rfl, rfl, rfl, HW, HL, HK⟩ := hrel
    by_cases hlt : i < l.length
    case neg =>
      have i1 : decide ((i : Int) < (l.length : Int)) = false := by simp; omega
      have i1' : decide (i < l.length) = false := by simp; omega
      clear hlt
      go_wp2_with fail
      go_ret
      exact ⟨rfl, by rw [hB]; exact HK.out⟩
    have i1 : decide ((i : Int) < (l.length : Int)) = true := by simp; omega
    have i1' : decide (i < l.length) = true := by simp; omega
    have i2 : (0 : Int) ≤ (i : Int) := by omega
    have i3 : (i : Int) < (l.length : Int) := by omega
    have hib : i ≤ 1048577 := by have := HLL.out; omega
    obtain ⟨c, hc⟩ : ∃ c, l[i]? = some c := ⟨_, List.getElem?_eq_getElem hlt⟩
    have HFT := hide (flat_take hc)
    have hpl : (l.take i).flatten.length + c.length ≤ 1073741824 := by
      have h1 := flat_le l (i + 1)
      rw [HFT.out, List.length_append, HJ.out, HBL.out] at h1
      omega
    have hcat : ba (l.take i).flatten ++ ba c = ba ((l.take i).flatten ++ c) := by apply bs_inj; rw [bs_append, bs_ba, bs_ba, bs_ba]
    have HST := hide ((HW.out).step (c := c) hpl)
    obtain ⟨g, o, hlv, hcell⟩ : ∃ g o, la = some ⟨g, o, none⟩ ∧ wr.cell? ⟨g, o + i, none⟩ = some (.string (ba c)) := by
      obtain ⟨-, hh⟩ := HL.out
      have hcells := fun g hg => (HL.out).cells (g := g) hg
      rcases hh with ⟨e, e0⟩ | ⟨g, cap, cur, e, -⟩
      · omega
      · injection e with e1 e2 e3
        refine ⟨g, 0, e1, ?_⟩
        have := hcells g (by rw [e1]; rfl) i (.string (ba c)) (by simp [strv, hc])
        rw [Addr.add_lit] at this
        exact this
    subst hlv
    have hcell' : wr.cell? ⟨g, o + i * 1, none⟩ = some (.string (ba c)) := by rw [Nat.mul_one]; exact hcell
    have HFR : Hid (∀ W, Calls Tryd.prog 16 #[.string (ba ((l.take i).flatten ++ c))] W fun en w' => ∃ v, en = .returned (.tuple #[v, .int .i64 ((fr (-1) ((l.take i).flatten ++ c)).e : Int)]) ∧ Hid (w'.ownsRow W.heap.size 9 1 v (fr (-1) ((l.take i).flatten ++ c)).out.length (strv (fr (-1) ((l.take i).flatten ++ c)).out)) ∧ Below W.heap.size W w') := by
      intro W
      have := wframes_any (ba ((l.take i).flatten ++ c)) W (by rw [ba_size, List.length_append]; omega)
      rw [bs_ba] at this
      exact this
    have HNX : Hid ((l.take (i + 1)).flatten = (l.take i).flatten ++ c) := HFT.out
    have hol : (fr (-1) ((l.take i).flatten ++ c)).out.length ≤ 1073741824 := by
      have := out_len _ (-1) ((l.take i).flatten ++ c) (Nat.le_refl _)
      rw [List.length_append] at this
      omega
    have hz1 : (ba (l.take i).flatten).size ≤ 1073741824 := by rw [ba_size]; omega
    have hz2 : (ba c).size ≤ 1073741824 := by rw [ba_size]; omega
    clear HFT hc hlt HW
    generalize (l.take i).flatten = pre at *
    generalize hP : fr (-1) pre = P at *
    generalize hP' : fr (-1) (pre ++ c) = P' at *
    have HP' := hide hP'
    clear hP hP'
    go_wp2_with fail
    refine (HST.out).mono ?_
    rintro en w3 ⟨bv, rfl, ho, hk, hW', hle, hbad⟩
    have HW' := hide hW'
    have HO := hide ho
    have HL3 := hide (hk.st HL.out)
    have HK3 : Hid (Below B w w3) := (HK.out).trans (hk.toBelow (by rw [← hB]; exact (HK.out).size))
    obtain ⟨ba1, bc1, rfl⟩ := strRow ho
    have HBD := hide hbad
    clear ho hk hW' HST HL HK hcell hcell' hbad
    go_wp2_with fail
    refine ((HFR.out) _).mono ?_
    rintro en w4 ⟨wv, rfl, HWV, k4⟩
    have HW4 : Hid (WfI B (pre ++ c) w4) := ⟨fun e => by obtain ⟨s, g1, g2, g3⟩ := (HW'.out).ok e; exact ⟨s, g1, g2.below k4, g3⟩, fun e => ((HW'.out).bad e).below k4⟩
    have HO4 := hide ((Kp.ofBelow k4 (fun _ => False)).owns HO.out (fun _ _ => id))
    have HL4 := hide ((Kp.ofBelow k4 (fun _ => False)).owns HL3.out (fun _ _ => id))
    have HK4 : Hid (Below B w w4) := (HK3.out).trans (k4.mono (by rw [← hB]; exact (HK3.out).size))
    have HER : Hid (∀ m, Calls Tryd.prog 10 #[errV (P'.e : Int), .int .i64 (P'.e : Int)] (w4.drewN m) fun e w' => e = .returned (.bool true) ∧ Below (w4.drewN m).heap.size (w4.drewN m) w') := fun m => error_same (P'.e : Int) _ ((HE.out).below (by rw [hB]; exact belowN HK4.out m))
    clear k4 HFR HW' HO HL3 HK3
    obtain ⟨wa, wcap, rfl⟩ := strRow HWV.out
    have hwc : P'.out.length ≤ wcap ∧ wcap ≤ maxLen := by
      rcases (HWV.out).2 with ⟨e, e0⟩ | ⟨g, cap, cur, e, -, -, h1, h2, -⟩
      · injection e with _ _ e3
        exact ⟨by omega, by rw [e3]; unfold maxLen; omega⟩
      · injection e with _ _ e3
        exact ⟨by rw [e3]; exact h1, by rw [e3]; exact h2⟩
    have hwm : wcap ≤ 9223372036854775807 := by have := hwc.2; unfold maxLen at this; omega
    obtain ⟨wa', e1⟩ : ∃ x, (if wcap = P.out.length then wa else wa.map fun x => x.add P.out.length) = x := ⟨_, rfl⟩
    have HSB : Hid (IsSt w4 (.slice wa' (P'.out.length - P.out.length) (wcap - P.out.length)) (P'.out.drop P.out.length)) := by
      refine stOf HWV.out P.out.length hle wa' (fun g hg hlt => ?_)
      rw [← e1, if_neg (by omega), hg]
      show some (Addr.add ⟨g, 0, none⟩ _) = _
      rw [Addr.add_lit, Nat.zero_add]
    have HSA : Hid (IsSt w4 (.slice ba1 (P'.out.length - P.out.length) bc1) (P'.out.drop P.out.length)) := by
      have h0 := HO4.out
      have := stOf h0 0 (Nat.zero_le _) ba1 (fun g hg _ => hg)
      rw [List.length_drop, List.drop_zero] at this
      exact this
    have hdl : (P'.out.drop P.out.length).length ≤ 1073741824 := by rw [List.length_drop]; omega
    have HTX : Hid (∀ W, Below w4.heap.size w4 W → Calls Tryd.prog 17 #[.slice ba1 (P'.out.length - P.out.length) bc1, .slice wa' (P'.out.length - P.out.length) (wcap - P.out.length)] W fun en w' => en = .returned (.bool true) ∧ Below w4.heap.size w4 w') := by
      intro W hW
      refine (wtexts_any _ _ _ _ W ((HSA.out).below hW) ((HSB.out).below hW) hdl).mono ?_
      rintro e w' ⟨rfl, m, rfl⟩
      rw [decide_eq_true rfl]
      exact ⟨rfl, belowN hW m⟩
    have HFIN : Hid (∀ W, Below w4.heap.size w4 W → WfI B (pre ++ c) W ∧ W.ownsRow Bl 9 1 (.slice (some ⟨g, o, none⟩) l.length lc) l.length (strv l) ∧ Below B w W) := by
      intro W hW
      exact ⟨⟨fun e => by obtain ⟨s, g1, g2, g3⟩ := (HW4.out).ok e; exact ⟨s, g1, g2.below hW, g3⟩, fun e => ((HW4.out).bad e).below hW⟩, (Kp.ofBelow hW (fun _ => False)).owns HL4.out (fun _ _ => id), (HK4.out).trans (hW.mono (by rw [← hB]; exact (HK4.out).size))⟩
    have HPP : Hid (P'.out.length = (fr (-1) (pre ++ c)).out.length ∧ P'.e = (fr (-1) (pre ++ c)).e) := by rw [HP'.out]; exact ⟨rfl, rfl⟩
    clear HSA HSB HO4 HWV HL4 HW4 HK4 hdl HP' HE
    generalize P'.out.length = n at *
    generalize P.out.length = k at *
    generalize hpe' : P'.e = pe' at *
    generalize P.e = pe at *
    clear hpe'
    have i4 : (0 : Int) ≤ (k : Int) := by omega
    have i5 : (k : Int) ≤ (n : Int) := by omega
    have i6 : (n : Int) ≤ (wcap : Int) := by omega
    have i7 : ¬ (n : Int) < (k : Int) := by omega
    have i8 : decide ((n : Int) < (k : Int)) = false := by simp; omega
    have HE0 : Hid (∀ W, W = w4 → Calls Tryd.prog 10 #[errV (pe' : Int), .int .i64 (pe' : Int)] W fun e w' => e = .returned (.bool true) ∧ Below w4.heap.size w4 w') := fun W hW => by subst hW; exact (HER.out) 0
    by_cases he : pe = 0
    · subst he
      clear HBD HER
      go_wp2_with fail
      refine ((HE0.out) _ rfl).mono ?_
      rintro en w5 ⟨rfl, k5⟩
      have HK5 := hide k5
      clear k5 HE0
      go_wp2_with fail
      refine ((HTX.out) _ HK5.out).mono ?_
      rintro en w6 ⟨rfl, k6⟩
      have HK6 := hide k6
      clear k6 HTX HK5 e1
      go_wp2_with fail
      obtain ⟨f1, f2, f3⟩ := (HFIN.out) _ HK6.out
      refine ⟨⟨i + 1, by simp, by omega, by rw [HNX.out], by rw [HNX.out, ← (HPP.out).1], by rw [HNX.out, ← (HPP.out).2], by rw [HNX.out]; exact f1, f2, f3⟩, ?_⟩
      show l.length - (i + 1) < l.length - i
      omega
    · obtain ⟨q1, q2⟩ := (HBD.out) he
      subst q1
      subst q2
      have hne : ((pe' : Int) != 0) = true := by simpa using he
      have hne' : ((pe' : Int) == 0) = false := by simpa using he
      rw [Nat.sub_self] at HTX
      clear HBD HER
      go_wp2_with fail
      refine ((HE0.out) _ rfl).mono ?_
      rintro en w5 ⟨rfl, k5⟩
      have HK5 := hide k5
      clear k5 HE0
      go_wp2_with fail
      refine ((HTX.out) _ HK5.out).mono ?_
      rintro en w6 ⟨rfl, k6⟩
      have HK6 := hide k6
      clear k6 HTX HK5 e1
      go_wp2_with fail
      obtain ⟨f1, f2, f3⟩ := (HFIN.out) _ HK6.out
      refine ⟨⟨i + 1, by simp, by omega, by rw [HNX.out], by rw [HNX.out, ← (HPP.out).1], by rw [HNX.out, ← (HPP.out).2], by rw [HNX.out]; exact f1, f2, f3⟩, ?_⟩
      show l.length - (i + 1) < l.length - i
      omega
end Go.Proofs.YtcibflndpckkkaaDoor
