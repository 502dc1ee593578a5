/- The law WireFrames. -/
import Derived.Test.YtcibflndpckkkaaDoorWnj
import Derived.Test.YtcibflndpckkkaaDoorWmg
namespace Go.Proofs.YtcibflndpckkkaaDoor
open Go.RowKit
open Wi
variable {w w' : World} {B : Nat}

theorem cat_ba (a b : List UInt8) : ba a ++ ba b = ba (a ++ b) := by apply bs_inj; rw [bs_append, bs_ba, bs_ba, bs_ba]
set_option maxRecDepth 100000 in
set_option maxHeartbeats 1000000 in
theorem frame_any (b : List UInt8) (hb : b.length ≤ 1073741824) (w : World) (hT : Tb w) : Calls Tryd.prog 18 #[.string (ba b)] w fun e w' => e = .returned (.string (ba (frame b))) ∧ Below w.heap.size w w' := by
  have hs : (ba b).size = b.length := ba_size b
  have HI := hide (itoa_any (b.length : Int) (by omega) (by omega) w hT)
  have hz1 : (ba (digsZ (b.length : Int))).size ≤ 100 := by
    rw [ba_size]
    have := digs_len 18 b.length (by omega)
    unfold digsZ
    rw [if_neg (by omega)]
    simp; omega
  have HF : Hid ((((((⟨#[67, 111, 110, 116, 101, 110, 116, 45, 76, 101, 110, 103, 116, 104, 58, 32]⟩ : ByteArray) ++ ba (digsZ (b.length : Int))) ++ (⟨#[13, 10]⟩ : ByteArray)) ++ (⟨#[13, 10]⟩ : ByteArray)) ++ ba b) = ba (frame b)) := by
    show _ = _
    apply bs_inj
    rw [bs_append, bs_append, bs_append, bs_append, bs_ba, bs_ba, bs_ba]
    have e1 : digsZ (b.length : Int) = digs b.length := by unfold digsZ; rw [if_neg (by omega)]; simp
    rw [e1]
    unfold frame sLen bs
    simp
  rw [← HF.out]
  have hbz : (ba b).size ≤ 1073741824 := by omega
  generalize ba (digsZ (b.length : Int)) = D at *
  rw [← hs] at HI
  clear hs HF hb
  generalize ba b = X at *
  go_enter Tryd.func18, Tryd.ntmps18
  go_wp2_with fail
  refine (HI.out).mono ?_
  rintro en w2 ⟨rfl, k2⟩
  have HK := hide k2
  clear k2 HI
  go_wp2_with fail
  go_ret
  exact ⟨rfl, HK.out⟩
/-- A row of texts behind another one. -/
theorem addTxts {base base2 : Nat} {v bv : Value} {out D : List (List UInt8)} (ho : w.ownsRow base 9 1 v out.length (strv out)) (hd : w.ownsRow base2 9 1 bv D.length (strv D)) (hb : base ≤ w.heap.size) (hl : out.length + D.length ≤ 1073741824) :
    ∃ v' w1, (Builtin.append_ #[22, 22] 22 #[v, bv]).run Tryd.prog w = .ok v' w1 ∧ w1.ownsRow base 9 1 v' (out ++ D).length (strv (out ++ D)) ∧ Kp (fun q => v.ownBlock = some q) w w1 ∧ (∃ ao cap, v' = .slice ao (out ++ D).length cap) := by
  obtain ⟨i0, hi0, hz0, hz1, hz2⟩ := infoW infoS
  have hcells := fun g hg => hd.cells (g := g) hg
  rcases hd.2 with ⟨rfl, h0⟩ | ⟨g, cap, cur, rfl, -⟩
  · have hD : D = [] := List.eq_nil_of_length_eq_zero h0
    subst hD
    refine ⟨v, w, ?_, by rw [List.append_nil]; exact ho, Kp.refl _ w, ?_⟩
    · have hc : (Builtin.firstCells 1 0 (.slice none 0 0)).run Tryd.prog w = .ok #[] w := run_firstCells_none _ 1 0 0 0
      rcases ho.2 with ⟨rfl, e0⟩ | ⟨g, cap, cur, rfl, -, -, hn, -⟩
      · simp [Builtin.append_, Go.underlying, Tryd.underlying22, Tryd.sizeOf9, Builtin.lenOf, hc, Result.andThen]
      · simp [Builtin.append_, Go.underlying, Tryd.underlying22, Tryd.sizeOf9, Builtin.lenOf, hc, Result.andThen, storeCells, hn]
    · obtain ⟨ao, cap, e⟩ := strRow ho
      exact ⟨ao, cap, by rw [e, List.append_nil]⟩
  · obtain ⟨v', w1, a1, a2, a3, -, -⟩ := run_append_own_at (P := Tryd.prog) w base 22 22 9 i0 _ 1 16 Tryd.underlying22 hi0 hz0 hz1 hz2 rfl (by decide) v out.length (strv out) ho ⟨g, 0, none⟩ D.length cap (strv D) (strv_len D) (hcells g rfl) (strv_one D) (by unfold maxLen; omega) (by omega) hb
    have ho2 : w1.ownsRow base 9 1 v' (out ++ D).length (strv (out ++ D)) := by
      have : strv (out ++ D) = strv out ++ strv D := by simp [strv]
      rw [this, List.length_append]; exact a2
    exact ⟨v', w1, a1, ho2, Kp.grown (Kp.refl _ w) a3 (fun k e _ => e), strRow ho2⟩
theorem IsRd.kept {s : Sta} (h : IsRd w B s) {base : Nat} {v : Value} {n : Nat} {xs : List Value} (ho : w.ownsRow base 9 1 v n xs) (hk : Kp (fun q => v.ownBlock = some q) w w') : IsRd w' B s := by
  cases s with
  | line l size => obtain ⟨lv, told, len, p, h, r⟩ := h; exact ⟨lv, told, len, p, h.kept ho hk, r⟩
  | body b size => obtain ⟨lv, told, p, bv, h, r⟩ := h; exact ⟨lv, told, p, bv, h.kept ho hk, r⟩
  | bad x => exact RdS.kept h ho hk
theorem WfI.kept {pre : List UInt8} (h : WfI B pre w) {base : Nat} {v : Value} {n : Nat} {xs : List Value} (ho : w.ownsRow base 9 1 v n xs) (hk : Kp (fun q => v.ownBlock = some q) w w') : WfI B pre w' :=
  ⟨fun e => by obtain ⟨s, g1, g2, g3⟩ := h.ok e; exact ⟨s, g1, g2.kept ho hk, g3⟩, fun e => (h.bad e).kept ho hk⟩
theorem frame_len (b : List UInt8) (hb : b.length < 10000000000) : (frame b).length ≤ (b.length * 7 + 10) * 3 := by
  have := digs_len 10 b.length (by exact hb)
  simp [frame, sLen]; omega
theorem frames_len (L : List (List UInt8)) (h : ∀ b ∈ L, b.length < 10000000000) : (L.flatMap frame).length ≤ (L.map fun x => x.length * 7 + 10).sum * 3 := by
  induction L with
  | nil => simp
  | cons b L ih =>
    have h1 := frame_len b (h b (by simp))
    have h2 := ih (fun x hx => h x (by simp [hx]))
    rw [List.flatMap_cons, List.length_append, List.map_cons, List.sum_cons]; omega
theorem mem_sum {L : List (List UInt8)} {b : List UInt8} (h : b ∈ L) : b.length ≤ (L.map fun x => x.length * 7 + 10).sum := by
  induction L with
  | nil => simp at h
  | cons a L ih =>
    rw [List.map_cons, List.sum_cons]
    rcases List.mem_cons.1 h with rfl | h
    · omega
    · have := ih h; omega
theorem flatMap_take {L : List (List UInt8)} {i : Nat} {b : List UInt8} (h : L[i]? = some b) : (L.take (i + 1)).flatMap frame = (L.take i).flatMap frame ++ frame b := by
  rw [List.take_add_one, h]; simp
theorem flatMap_le (L : List (List UInt8)) (i : Nat) : ((L.take i).flatMap frame).length ≤ (L.flatMap frame).length := by
  conv => rhs; rw [← List.take_append_drop i L]
  rw [List.flatMap_append, List.length_append]; omega

set_option maxRecDepth 100000 in
set_option maxHeartbeats 2000000 in
theorem wireFrames_any (L : List (List UInt8)) (cs : List Int) (bv v : Value) (w : World) (hT : Tb w) (hL : IsSt w bv L) (h : IsIv w v cs) (hb : (L.map fun x => x.length * 7 + 10).sum ≤ 41943040) (hc : cs.length ≤ 1048576) :
    Calls Tryd.prog 6 #[bv, v] w fun e w' => e = .returned (.bool true) ∧ Below w.heap.size w w' := by
  have hmem : ∀ b ∈ L, b.length ≤ 41943040 := fun b hbm => Nat.le_trans (mem_sum hbm) hb
  have hfl : (L.flatMap frame).length ≤ 125829120 := by
    have := frames_len L (fun b hbm => by have := hmem b hbm; omega)
    omega
  have HFF := hide (fr_frames L (fun b hbm => by have := hmem b hbm; omega))
  have hLl : L.length ≤ 41943040 := by have := sum_len L; omega
  have HSL := hide hL
  have HIV := hide h
  have HTT := hide hT
  have HMM := hide hmem
  obtain ⟨ba0, bc0, rfl, hbc1, hbc2, hbc3⟩ := hL
  have HBC := hide hbc3
  clear hT h hb hmem hbc3
  go_enter Tryd.func6, Tryd.ntmps6
  go_wp2_with fail
  go_loopw [5, 6] (fun tv iv wr => ∃ i : Nat, iv = .int .i64 i ∧ i ≤ L.length ∧ tv = .string (ba ((L.take i).flatMap frame)) ∧ Hid (Below w.heap.size w wr)) (fun _ iv _ => L.length - (intOf iv).toNat)
  case atStart => exact ⟨0, rfl, Nat.zero_le _, rfl, Below.refl _ w⟩
  case round =>
    obtain ⟨i, rfl, hi, rfl, HK⟩ := hrel
    have hib : i ≤ 41943040 := by omega
    by_cases hlt : i < L.length
    case pos =>
      have i1 : decide ((i : Int) < (L.length : Int)) = true := by simp; omega
      have i1' : decide (i < L.length) = true := by simp; omega
      have i2 : (0 : Int) ≤ (i : Int) := by omega
      have i3 : (i : Int) < (L.length : Int) := by omega
      obtain ⟨b, hbi⟩ : ∃ b, L[i]? = some b := ⟨_, List.getElem?_eq_getElem hlt⟩
      obtain ⟨g, o, rfl, hcell⟩ := (HBC.out) i b hbi
      replace hcell := (Kp.ofBelow HK.out (fun _ => False)).cellv hcell id
      have hcell' : wr.cell? ⟨g, o + i * 1, none⟩ = some (.string (ba b)) := by rw [Nat.mul_one]; exact hcell
      have hbl := (HMM.out) b (List.mem_of_getElem? hbi)
      have HFR := hide (frame_any b (by omega) wr ((HTT.out).below HK.out))
      have HFT := hide (flatMap_take hbi)
      have hcat := cat_ba ((L.take i).flatMap frame) (frame b)
      have hz1 : (ba ((L.take i).flatMap frame)).size ≤ 1073741824 := by rw [ba_size]; have := flatMap_le L i; omega
      have hz2 : (ba (frame b)).size ≤ 1073741824 := by rw [ba_size]; have := frame_len b (by omega); omega
      rw [← HFT.out] at hcat
      clear hbi hlt
      go_wp2_with fail
      refine (HFR.out).mono ?_
      rintro en w2 ⟨rfl, k2⟩
      have HK2 := hide ((HK.out).trans (k2.mono (HK.out).size))
      clear k2 HFR hcell hcell'
      go_wp2_with fail
      refine ⟨⟨i + 1, by simp, by omega, rfl, HK2⟩, ?_⟩
      show L.length - (i + 1) < L.length - i
      omega
    have i1 : decide ((i : Int) < (L.length : Int)) = false := by simp; omega
    have i1' : decide (i < L.length) = false := by simp; omega
    have htk : L.take i = L := List.take_of_length_le (by omega)
    rw [htk]
    clear hlt hi htk
    have HN := hide (new_any wr)
    have HCUT : Hid (∀ W, Below w.heap.size w W → Calls Tryd.prog 14 #[.string (ba (L.flatMap frame)), v] W fun en w' => ∃ v', en = .returned v' ∧ Hid (w'.ownsRow W.heap.size 9 1 v' (cutL (L.flatMap frame) 0 cs).length (strv (cutL (L.flatMap frame) 0 cs))) ∧ Below W.heap.size W w') := by
      intro W hW
      have := wcut_any (ba (L.flatMap frame)) cs v W ((HIV.out).below hW) (by omega)
      rw [bs_ba] at this
      exact this
    have hj := cutL_join (L.flatMap frame) cs 0 (Nat.zero_le _)
    rw [List.drop_zero] at hj
    have HJ := hide hj
    have HLL : Hid ((cutL (L.flatMap frame) 0 cs).length ≤ 1048577) := by show _ ≤ _; exact Nat.le_trans (cutL_len (L.flatMap frame) cs 0) (by omega)
    have HSL2 : Hid (∀ W, Below w.heap.size w W → IsSt W (.slice ba0 L.length bc0) L) := fun W hW => (HSL.out).below hW
    clear hj HBC HIV HTT HMM HSL
    generalize cutL (L.flatMap frame) 0 cs = l at *
    generalize L.flatMap frame = FT at *
    generalize hX : ba FT = X at *
    clear hX
    go_wp2_with fail
    refine (HN.out).mono ?_
    rintro en w1 ⟨rfl, h1, k1⟩
    have HR1 := hide h1
    have HK1 : Hid (Below w.heap.size w w1) := (HK.out).trans (k1.mono (HK.out).size)
    have hBw : w.heap.size ≤ wr.heap.size := (HK.out).size
    have hBlt : wr.heap.size ≤ w1.heap.size := k1.size
    clear h1 k1 HN HK
    generalize wr.heap.size = B at *
    go_wp2_with fail
    refine ((HCUT.out) _ HK1.out).mono ?_
    rintro en w2 ⟨lv, rfl, HL2, k2⟩
    have HK2 : Hid (Below w.heap.size w w2) := (HK1.out).trans (k2.mono (HK1.out).size)
    have e0 : fr (-1) (l.take 0).flatten = ⟨[], 0, -1, []⟩ := by rw [List.take_zero]; show fr (-1) [] = _; rw [fr_none rfl]; rfl
    have HW2 : Hid (WfI B (l.take 0).flatten w2) :=
      ⟨fun _ => ⟨.line [] (-1), ⟨rfl, by unfold tooLong; simp, by decide⟩, (HR1.out).below k2, by rw [e0]; rfl, by rw [e0]; rfl, fun x e => by cases e⟩, fun e => absurd (by rw [e0]) e⟩
    have HE0 := hide e0
    obtain ⟨la, lc, rfl⟩ := strRow HL2.out
    have HL2' : Hid (w2.ownsRow w1.heap.size 9 1 (.slice la l.length lc) l.length (strv l)) := HL2.out
    have HLM : Hid (∀ q, (Value.slice la l.length lc).ownBlock = some q → q < w2.heap.size) := fun q hq => by
      obtain ⟨-, c, hc⟩ := own_tyB HL2'.out hq
      exact heap_lt hc
    have hBw2 : B ≤ w2.heap.size := Nat.le_trans hBlt k2.size
    have hww2 : w.heap.size ≤ w2.heap.size := (HK2.out).size
    generalize w1.heap.size = Bl at *
    generalize hM : w2.heap.size = M at *
    clear k2 HL2 HCUT HR1 HK1 e0
    go_wp2_with fail
    go_loopw [10, 11] (fun ov iv wr => ∃ i : Nat, iv = .int .i64 i ∧ i ≤ l.length ∧ Hid (WfI B (l.take i).flatten wr) ∧ Hid (wr.ownsRow M 9 1 ov (fr (-1) (l.take i).flatten).out.length (strv (fr (-1) (l.take i).flatten).out)) ∧ Hid (wr.ownsRow Bl 9 1 (.slice la l.length lc) l.length (strv l)) ∧ Hid (Below w.heap.size w wr) ∧ M ≤ wr.heap.size) (fun _ iv _ => l.length - (intOf iv).toNat)
    case atStart =>
      refine ⟨0, rfl, Nat.zero_le _, HW2, ?_, HL2', HK2, Nat.le_of_eq hM.symm⟩
      show World.ownsRow _ _ _ _ _ _ _
      rw [HE0.out]; exact World.ownsRow_nil _ _ _ _
    case round =>
      clear HW2 HL2' HK2
      obtain ⟨i, rfl, hi, HW, HO, HL, HK, hMw⟩ := hrel
      obtain ⟨oa, oc, rfl⟩ := strRow HO.out
      by_cases hlt : i < l.length
      case neg =>
        have i1 : decide ((i : Int) < (l.length : Int)) = false := by simp; omega
        have i1' : decide (i < l.length) = false := by simp; omega
        have htk : l.take i = l := List.take_of_length_le (by omega)
        have hP : (fr (-1) (l.take i).flatten).out = L := by rw [htk, HJ.out, HFF.out]
        rw [hP] at HO ⊢
        have hSO : IsSt wr (.slice oa L.length oc) L := by
          have := stOf HO.out 0 (Nat.zero_le _) oa (fun g hg _ => hg)
          simpa using this
        have HTX := hide (wtexts_any L L _ _ wr hSO ((HSL2.out) wr HK.out) (by omega))
        rw [decide_eq_true rfl] at HTX
        clear hlt htk hP hSO
        go_wp2_with fail
        refine (HTX.out).mono ?_
        rintro en w4 ⟨rfl, m, rfl⟩
        go_wp2_with fail
        go_ret
        exact ⟨rfl, belowN HK.out m⟩
      have i1 : decide ((i : Int) < (l.length : Int)) = true := by simp; omega
      have i1' : decide (i < l.length) = true := by simp; omega
      have i2 : (0 : Int) ≤ (i : Int) := by omega
      have i3 : (i : Int) < (l.length : Int) := by omega
      have hib2 : i ≤ 1048577 := by have := HLL.out; omega
      obtain ⟨c, hc⟩ : ∃ c, l[i]? = some c := ⟨_, List.getElem?_eq_getElem hlt⟩
      have HFT := hide (flat_take hc)
      have hFl : (l.take (i + 1)).flatten.length ≤ 125829120 := by
        have h1 := flat_le l (i + 1)
        rw [HJ.out] at h1
        omega
      have hpl : (l.take i).flatten.length + c.length ≤ 1073741824 := by
        rw [HFT.out, List.length_append] at hFl
        omega
      have he' : (fr (-1) ((l.take i).flatten ++ c)).e = 0 := by
        rw [← HFT.out]
        refine Classical.byContradiction fun hne => ?_
        have h1 := ((fr_cut _ (-1) (l.take (i + 1)).flatten (l.drop (i + 1)).flatten (Nat.le_refl _)).2 hne).2
        rw [← List.flatten_append, List.take_append_drop, HJ.out, HFF.out] at h1
        exact hne h1.symm
      have he : (fr (-1) (l.take i).flatten).e = 0 := by
        refine Classical.byContradiction fun hne => ?_
        have h1 := ((fr_cut _ (-1) (l.take i).flatten c (Nat.le_refl _)).2 hne).2
        rw [he'] at h1
        exact hne h1.symm
      have hout : (fr (-1) (l.take i).flatten).out ++ (fr (-1) ((l.take i).flatten ++ c)).out.drop (fr (-1) (l.take i).flatten).out.length = (fr (-1) ((l.take i).flatten ++ c)).out := by
        have h1 := (fr_cut _ (-1) (l.take i).flatten c (Nat.le_refl _)).1 he
        rw [h1]
        simp
      have hol : (fr (-1) ((l.take i).flatten ++ c)).out.length ≤ 1073741824 := by
        have := out_len _ (-1) ((l.take i).flatten ++ c) (Nat.le_refl _)
        rw [List.length_append] at this
        omega
      have HST := hide ((HW.out).step (c := c) hpl)
      rw [he'] at HST
      obtain ⟨g, o, hlv, hcell⟩ : ∃ g o, la = some ⟨g, o, none⟩ ∧ wr.cell? ⟨g, o + i, none⟩ = some (.string (ba c)) := by
        obtain ⟨-, hh⟩ := HL.out
        have hcells := fun g hg => (HL.out).cells (g := g) hg
        rcases hh with ⟨e, e0⟩ | ⟨g, cap, cur, e, -⟩
        · omega
        · injection e with e1 e2 e3
          refine ⟨g, 0, e1, ?_⟩
          have := hcells g (by rw [e1]; rfl) i (.string (ba c)) (by simp [strv, hc])
          rw [Addr.add_lit] at this
          exact this
      subst hlv
      have hcell' : wr.cell? ⟨g, o + i * 1, none⟩ = some (.string (ba c)) := by rw [Nat.mul_one]; exact hcell
      have HOUT := hide hout
      have HOL := hide hol
      clear hc hlt HW he he' hFl hpl hout hol
      rw [← HFT.out] at HST HOUT HOL
      generalize fr (-1) (l.take i).flatten = P at *
      generalize hP' : fr (-1) (l.take (i + 1)).flatten = P' at *
      have HP' := hide hP'
      clear hP' HFT
      go_wp2_with fail
      refine (HST.out).mono ?_
      rintro en w4 ⟨bv, rfl, ho, hk, hW', -, -⟩
      have HW' := hide hW'
      have HO4 := hide (hk.st HO.out)
      have HL4 := hide (hk.st HL.out)
      have HK4 : Hid (Below w.heap.size w w4) := (HK.out).trans ((hk.toBelow (by omega)).mono hBw)
      have hMw4 : M ≤ w4.heap.size := Nat.le_trans hMw hk.size
      obtain ⟨v', w5, hrun, ho5, k5, ⟨oa', oc', hv5⟩⟩ := addTxts HO4.out ho hMw4 (by rw [← List.length_append, HOUT.out]; exact HOL.out)
      rw [HOUT.out] at ho5 hv5
      have HO5 := hide ho5
      have HW5 := hide ((HW'.out).kept HO4.out k5)
      have HL5 := hide (k5.owns HL4.out (fun q hq e => by
        have h1 := (own_tyB HO4.out e).1
        have h2 := (HLM.out) q hq
        omega))
      have HK5 : Hid (Below w.heap.size w w5) := (HK4.out).trans ((k5.below hMw4 (fun q e => (own_tyB HO4.out e).1)).mono hww2)
      have hMw5 : M ≤ w5.heap.size := Nat.le_trans hMw4 k5.size
      obtain ⟨ba1, bc1, rfl⟩ := strRow ho
      subst hv5
      rw [List.length_drop] at hrun
      have hen : errV 0 = .nilIface := rfl
      have hen2 : errV ((0 : Nat) : Int) = .nilIface := rfl
      simp only [hen2]
      clear ho hk hW' HST HO4 HL4 HK4 ho5 k5 HL HO HK hcell hcell' hen hen2 HW' HOL
      go_wp2_with (at_builtin; refine Lib.wpList_append_run _ rfl _ _ _ _ rfl _ _ rfl rfl _ _ hrun ?_)
      go_wp2_with fail
      refine ⟨⟨i + 1, by simp, by omega, ?_, ?_, HL5, HK5, hMw5⟩, ?_⟩
      · show WfI _ _ _
        exact HW5.out
      · show World.ownsRow _ _ _ _ _ _ _
        rw [HP'.out]; exact HO5.out
      · show l.length - (i + 1) < l.length - i
        omega
end Go.Proofs.YtcibflndpckkkaaDoor
