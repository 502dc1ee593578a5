/- Package syntax: all files are read. -/
import Derived.Test.YtgjbafamiggafaaGreatDoorJt
namespace Go.Proofs.YtgjbafamiggafaaGreatDoor
open Go.RowKit
open M
theorem infoSF : (Tryz.prog.info? 70).map (fun i => (i.zero, i.size, i.bytes)) = some (some (.agg #[.string ⟨#[]⟩, .slice none 0 0]), 2, 40) := by kernel_rfl
set_option maxRecDepth 100000 in
set_option maxHeartbeats 8000000 in
theorem syFiles_any (ao : Option Addr) (cap : Nat) (l : List AF) (w : World) (hT : Tabs w) (h : IsAF w w.heap.size ao l) (hn16 : l.length ≤ 16) (hsh : Short l) :
    Calls Tryz.prog 13 #[.slice ao l.length cap] w fun e w' => ∃ rv, e = .returned rv ∧ Hid ((∃ IV Lo Hi, IsFs w' w.heap.size rv l IV Lo Hi) ∧ Below w.heap.size w w') := by
  obtain ⟨i0, hi0, hz0, hz1, hz2⟩ := info_parts infoSF
  have HT := hide hT
  have HL := hide h
  have HSH := hide hsh
  have HI0 : Hid (∃ vs IV Lo Hi, InFs w l 0 (.slice none 0 0) vs IV Lo Hi w) := ⟨[], fun _ => undef, fun _ => 0, fun _ => 0, Below.refl _ w, World.ownsRow_nil _ _ _ _, rfl, fun i a hi => by omega, fun i a hi => by omega, fun g hg => by cases hg⟩
  clear h hT hsh
  go_enter Tryz.func13, Tryz.ntmps13
  go_wp2_with fail
  go_loopw [3, 8] (fun sv v wr => ∃ (j : Nat) (rv : Value), rv = sv ∧ v = .int .i64 j ∧ j ≤ l.length ∧ Hid (∃ vs IV Lo Hi, InFs w l j rv vs IV Lo Hi wr)) (fun _ v _ => l.length - (intOf v).toNat)
  case atStart => exact ⟨0, _, rfl, rfl, Nat.zero_le _, HI0⟩
  case round =>
    obtain ⟨j, rv, rfl, rfl, hj, HI⟩ := hrel
    clear HI0
    by_cases hjl : j < l.length
    · obtain ⟨a, ha⟩ : ∃ a, l[j]? = some a := ⟨l[j], List.getElem?_eq_getElem hjl⟩
      obtain ⟨vs, IV, Lo, Hi, hin⟩ := HI.out
      clear HI
      obtain ⟨b, o, e1, e2, e3, e4⟩ := (HL.out).below hin.bl j a ha
      subst e1
      have hi1 : (j : Int) < (l.length : Int) := by omega
      have hts : a.t.size ≤ 20000 := (HSH.out) a (List.mem_of_getElem? ha)
      have HZ : Hid (X.psz (X.file (X.xt (bs a.t))) ≤ 268435456 ∧ X.pb (X.file (X.xt (bs a.t))) = bs a.t) := by
        have hll : (X.xt (bs a.t)).length ≤ a.t.size := by
          have := toks_len _ 0 (bs a.t) (Nat.le_refl _)
          rw [bs_len] at this
          unfold X.xt; rw [List.length_map]; exact this
        exact ⟨by have := X.file_psz (X.xt (bs a.t)); omega, by rw [X.file_keeps, X.xt_tb]⟩
      have kF : Below wr.heap.size wr (wr.alloc (.cells #[.string a.n, .string a.t] 37)) := (Below.refl _ _).alloc (Nat.le_refl _) _
      have hF0 := heap_alloc_new wr (.cells #[.string a.n, .string a.t] 37)
      have n0 : (wr.alloc (.cells #[.string a.n, .string a.t] 37)).cell? ⟨wr.heap.size, 0, none⟩ = some (.string a.n) := cell_of_row _ _ 0 _ _ _ hF0
      have n1 : (wr.alloc (.cells #[.string a.n, .string a.t] 37)).cell? ⟨wr.heap.size, 1, none⟩ = some (.string a.t) := cell_of_row _ _ 1 _ _ _ hF0
      have hlt := heap_lt hF0
      have HNw := hide (newTree_any a.t (wr.alloc (.cells #[.string a.n, .string a.t] 37)).drew ((HT.out).below ((hin.bl.alloc hin.bl.size _).drew)) (by omega))
      have HIN := hide hin
      have HKF := hide kF
      have hww : w.heap.size ≤ wr.heap.size := hin.bl.size
      have hrs : ∃ fa fn fc, rv = .slice fa fn fc := by
        rcases hin.row.2 with ⟨e, -⟩ | ⟨g', cap', cur, e, -⟩
        · exact ⟨_, _, _, e⟩
        · exact ⟨_, _, _, e⟩
      obtain ⟨fa, fn, fc, rfl⟩ := hrs
      clear hin kF hF0
      go_wp2_with fail
      generalize wr.alloc (.cells #[.string a.n, .string a.t] 37) = Wa at *
      refine wpTo_start (S := fun w' => w'.cell? ⟨wr.heap.size, 0, none⟩ = some (.string a.n) ∧ w'.cell? ⟨wr.heap.size, 1, none⟩ = some (.string a.t)) (z := 10) (by kernel_rfl) ?_
      have hS : Wa.drew.cell? ⟨wr.heap.size, 0, none⟩ = some (.string a.n) ∧ Wa.drew.cell? ⟨wr.heap.size, 1, none⟩ = some (.string a.t) := ⟨n0, n1⟩
      iterate 5 (refine wpTo_nx0 (v := ?_) rfl rfl (by kernel_rfl) (by kernel_rfl) (by kernel_rfl) (by kernel_rfl) (fun _ _ _ h => h) (Or.inl ⟨by rfl, ?_⟩) hS ?_; rotate_left; (· (intro wx hSw; (try dsimp only at hSw); go_simp; try (with_reducible rfl))); simp only [Act.put, List.setIfInBounds_toArray, List.set_cons_zero, List.set_cons_succ])
      refine wpTo_one (i := 5) (by kernel_rfl) rfl (fun K hK => ?_)
      go_simp
      refine (HNw.out).mono ?_
      rintro e w1 ⟨tb, rfl, H1⟩
      have B1 : Below Wa.heap.size Wa w1 := ((Below.refl _ Wa).drew).trans (H1.out).2
      have n01 := kcb B1 (by omega) n0
      have n11 := kcb B1 (by omega) n1
      have hs1 := B1.size
      have HRd := hide (syRead_any tb a.t (X.itsT (bs a.t)) w1 (H1.out).1 (HZ.out).1 (HZ.out).2 (by omega) (X.itsT_rdf _))
      dsimp only
      refine hK.out _ _ (fun _ => ⟨n01, n11⟩) (fun hS2 => ?_)
      clear hS hK K
      have hS := hS2 (by decide)
      clear hS2
      refine wpTo_one (i := 6) (by kernel_rfl) rfl (fun K hK => ?_)
      go_simp
      refine (HRd.out).mono ?_
      rintro e w2 ⟨iv, rfl, H2⟩
      have hivs : ∃ ia ic, iv = .slice ia (X.itsT (bs a.t)).length ic := by
        obtain ⟨ia, ic, -, e, -⟩ := (H2.out).1.ex
        exact ⟨ia, ic, e⟩
      obtain ⟨ia, ic, rfl⟩ := hivs
      have B2 := (H2.out).2
      have n02 := kcb B2 (by omega) n01
      have n12 := kcb B2 (by omega) n11
      have hs2 := B2.size
      have HB2 : Hid (Below wr.heap.size wr w2) := (HKF.out).trans ((B1.trans (B2.mono hs1)).mono (HKF.out).size)
      have HIT := hide (H2.out).1
      have HO2 := hide ((Kp.ofBelow HB2.out (fun _ => False)).owns (HIN.out).row (fun _ _ => id))
      dsimp only
      refine hK.out _ _ (fun _ => ⟨n02, n12⟩) (fun hS2 => ?_)
      clear hS hK K H1 H2 HRd B1 B2 n0 n1 n01 n11
      have hS := hS2 (by decide)
      clear hS2
      generalize (X.itsT (bs a.t)).length = il at *
      iterate 1 (refine wpTo_nx0 (v := ?_) rfl rfl (by kernel_rfl) (by kernel_rfl) (by kernel_rfl) (by kernel_rfl) (fun _ _ _ h => h) (Or.inl ⟨by rfl, ?_⟩) hS ?_; rotate_left; (· (intro wx hSw; (try dsimp only at hSw); go_simp; try (with_reducible rfl))); simp only [Act.put, List.setIfInBounds_toArray, List.set_cons_zero, List.set_cons_succ])
      refine wpTo_one (i := 8) (by kernel_rfl) rfl (fun K hK => ?_)
      go_simp
      refine hK.out _ _ (fun _ => by first | go_keep | (dsimp only; go_keep)) (fun hS2 => ?_)
      clear hS hK K
      have hS := hS2 (by decide)
      clear hS2
      refine wpTo_one (i := 9) (by kernel_rfl) rfl (fun K hK => ?_)
      refine step_append_lies _ (by rfl) _ _ _ (by rfl) w.heap.size 70 i0 _ 2 40 Tryz.underlying46 hi0 hz0 hz1 hz2 rfl (by omega) (.slice fa fn fc) j _ (by rfl) ((HO2.out).alloc _)
        ⟨w2.heap.size, 0, none⟩ 1 1 [.string a.n, .slice ia il ic] (by rfl) (by rfl) (World.news_of_block (cs := #[.string a.n, .slice ia il ic]) (t := 70) (fr := (0, 0)) (heap_alloc_new w2 _)) (by simp [Value.oneCell'])
        (by omega) (by unfold maxLen; omega) (by omega) (by simp; omega) (w2.heap.size + 1) (by simp) ?_
      intro g cap7 w7 hown7 hgrow7 hat7 hlt7
      have hwf : some wr.heap.size ≠ (Value.slice fa fn fc).ownBlock := fun e => by have := (owns_ge (HIN.out).row _ e.symm).2; omega
      have y0 := (hgrow7.cell_far ⟨wr.heap.size, 0, none⟩ (by simp; omega) hwf).trans hS.1
      have y1 := (hgrow7.cell_far ⟨wr.heap.size, 1, none⟩ (by simp; omega) hwf).trans hS.2
      show K (Act.put _ (some 21) _) w7
      refine hK.out _ _ (fun _ => ⟨y0, y1⟩) (fun hS2 => ?_)
      clear hS hK K
      have hS := hS2 (by decide)
      clear hS2
      simp only [Act.put, List.setIfInBounds_toArray, List.set_cons_zero, List.set_cons_succ]
      refine wpTo_one (i := 10) (by kernel_rfl) rfl (fun K hK => ?_)
      go_simp
      refine hK.out _ _ (fun h => absurd rfl h) (fun _ => wpTo_end (by kernel_rfl) ?_)
      clear hK K
      have HI8 : Hid (∃ vs IV Lo Hi, InFs w l (j + 1) (.slice (some ⟨g, 0, none⟩) (j + 1) cap7) vs IV Lo Hi w7) := by
        have hb6 : Below w2.heap.size w2 (w2.alloc (.cells #[.string a.n, .slice ia il ic] 70)) := (Below.refl _ w2).alloc (Nat.le_refl _) _
        exact ⟨_, _, _, _, (HIN.out).more ha HB2.out (by omega) HIT.out hb6 hown7 hgrow7 (by rcases hat7 with e | e; exact .inl e; exact .inr (by rw [e]; simp))⟩
      clear hown7 hgrow7 hat7 hlt7 y0 y1 hS n02 n12 HO2 HIT HIN HKF
      go_wp2_with fail
      exact ⟨⟨j + 1, _, rfl, by simp, by omega, HI8⟩, by simp [intOf]; omega⟩
    · obtain rfl : j = l.length := by omega
      have hd1 : ¬ (l.length : Int) < (l.length : Int) := by omega
      have HF : Hid ((∃ IV Lo Hi, IsFs wr w.heap.size rv l IV Lo Hi) ∧ Below w.heap.size w wr) := by
        obtain ⟨vs, IV, Lo, Hi, hin⟩ := HI.out
        exact ⟨⟨_, _, _, hin.done⟩, hin.bl⟩
      clear HI
      go_wp2_with fail
      go_ret
      exact ⟨_, rfl, HF⟩
end Go.Proofs.YtgjbafamiggafaaGreatDoor
/- Package scope: a workspace whose files have been read. -/
namespace Go.Proofs.YtgjbafamiggafaaGreatDoor
open Go.RowKit
open M
theorem InW.start (w : World) (l : List AF) (IV : Nat → Value) : InW w l w.heap.size (w.heap.size + 1) 0 (fun _ => 0) IV (.slice none 0 0) ((w.alloc (.map #[] 0)).alloc (.cells #[.map (some w.heap.size), .slice none 0 0] 87)) := by
  refine ⟨((Below.refl _ w).alloc (Nat.le_refl _) _).alloc (by simp) _, ?_, ?_, ?_, fun g hg => (by cases hg), fun i hi => (by omega), fun i i' _ hi => (by omega), fun i a hi => (by omega)⟩
  · have := heap_alloc_new (w.alloc (.map #[] 0)) (.cells #[.map (some w.heap.size), .slice none 0 0] 87)
    simpa using this
  · exact ((Mp.made w).below ((Below.refl _ _).alloc (Nat.le_refl _) _)).congr (fun x => by rw [List.take_zero]; rfl)
  · exact World.ownsRow_nil _ _ _ _
/-- One more file. -/
theorem InW.more {w : World} {l : List AF} {mb wb j : Nat} {Bf : Nat → Nat} {IV : Nat → Value} {fv : Value} {wr wm w5 w6 w7 : World} {a : AF} {g cap k : Nat} (h : InW w l mb wb j Bf IV fv wr) (hw : w.heap.size ≤ mb) (hmw : mb < wb) (ha : l[j]? = some a) (hnew : idxN (l.take j) (bs a.n) = none)
    (hk1 : Kp (fun q => q = mb) wr wm) (hm1 : Mp wm mb k (upd (idxN (l.take j)) (bs a.n) j)) (hkk : k ≤ j + 1) (hf : IsF wm w5 (IV j) (X.itsT (bs a.t))) (hb6 : Below w5.heap.size w5 w6)
    (hown : w7.ownsRow w.heap.size 88 1 (.slice (some ⟨g, 0, none⟩) (j + 1) cap) (j + 1) (((List.range j).map fun i => .pointer (some ⟨Bf i + 2, 0, none⟩)) ++ [.pointer (some ⟨wm.heap.size + 2, 0, none⟩)])) (hgrow : w6.grownBy w7 fv.ownBlock) (hat : fv.ownBlock = some g ∨ g = w6.heap.size) :
    ∃ Bf', InW w l mb wb (j + 1) Bf' IV (.slice (some ⟨g, 0, none⟩) (j + 1) cap) (w7.setCell ⟨wb, 1, none⟩ (.slice (some ⟨g, 0, none⟩) (j + 1) cap)) := by
  have hwbl : wb < wr.heap.size := heap_lt h.blk
  have s1 := hk1.size
  have s2 := hf.bl.size
  have s3 := hb6.size
  have hown0 : ∀ q, fv.ownBlock = some q → q < wr.heap.size := fun q hq => (owns_ge h.row q hq).2
  have k15 : Kp (fun q => q = mb) wr w5 := hk1.trans (Kp.ofBelow hf.bl (fun _ => False)) (fun _ _ e => e.elim)
  have k67 : Kp (fun q => fv.ownBlock = some q) w6 w7 := (Kp.refl _ w6).grown hgrow (fun q e _ => e)
  have k57 : Kp (fun q => fv.ownBlock = some q) w5 w7 := (Kp.ofBelow hb6 (fun q => fv.ownBlock = some q)).trans k67 (fun _ _ e => e)
  have k78 : Kp (fun q => q = wb) w7 (w7.setCell ⟨wb, 1, none⟩ (.slice (some ⟨g, 0, none⟩) (j + 1) cap)) := Kp.setCell (S := fun q => q = wb) (p := ⟨wb, 1, none⟩) (Kp.refl _ w7) (fun _ => rfl) _
  have k58 : Kp (fun q => q = wb ∨ fv.ownBlock = some q) w5 (w7.setCell ⟨wb, 1, none⟩ (.slice (some ⟨g, 0, none⟩) (j + 1) cap)) := (k57.mono (fun _ _ e => .inr e)).trans k78 (fun _ _ e => .inl e)
  have kr8 : Kp (fun q => q = mb ∨ q = wb ∨ fv.ownBlock = some q) wr (w7.setCell ⟨wb, 1, none⟩ (.slice (some ⟨g, 0, none⟩) (j + 1) cap)) := (k15.mono (fun _ _ e => .inl e)).trans k58 (fun _ _ e => .inr e)
  have hfar := h.far
  have hold : ∀ i, i < j → ∀ q, Bf i ≤ q → q ≤ Bf i + 2 → ¬ (q = mb ∨ q = wb ∨ fv.ownBlock = some q) := by
    intro i hi q h1 h2 e
    have ho := h.ord i hi
    rcases e with e | e | e
    · omega
    · omega
    · exact (hfar q e).2.2 i hi ⟨h1, h2⟩
  have hnw : ∀ q, wm.heap.size ≤ q → ¬ (q = wb ∨ fv.ownBlock = some q) := by
    intro q h1 e
    rcases e with e | e
    · omega
    · have := hown0 q e; omega
  obtain ⟨k', hmp⟩ := hf.mp
  obtain ⟨A, hA1, hA2, hA3⟩ := hf.ans
  have hhi5 := heap_lt hf.blk
  have s8 : w5.heap.size ≤ (w7.setCell ⟨wb, 1, none⟩ (.slice (some ⟨g, 0, none⟩) (j + 1) cap)).heap.size := k58.size
  refine ⟨fun i => if i = j then wm.heap.size else Bf i, ?_, ?_, ?_, ?_, ?_, ?_, ?_, ?_⟩
  · refine h.bl.trans (kr8.below h.bl.size (fun q e => ?_))
    rcases e with e | e | e
    · omega
    · omega
    · exact (owns_ge h.row q e).1
  · have h5 : w7.heap[wb]? = some (.cells #[.map (some mb), fv] 87 (0, 0)) := k57.heap (k15.heap h.blk (by omega)) (fun e => (hfar wb e).2.1 rfl)
    exact set_cells h5 1 _
  · have hm5 : Mp w5 mb k (upd (idxN (l.take j)) (bs a.n) j) := hm1.below hf.bl
    have hm8 := hm5.keep k58 (fun e => by
      rcases e with e | e
      · omega
      · exact (hfar mb e).1 rfl)
    obtain ⟨D, o1, o2⟩ := hm8
    refine Mp.congr (g := upd (idxN (l.take j)) (bs a.n) j) ⟨D, o1.mono hkk, o2⟩ (fun x => ?_)
    rw [idxN_snoc ha]
    unfold upd
    by_cases e : x = bs a.n
    · subst e
      rw [if_pos rfl, hnew]
      show _ = if _ then _ else _
      rw [if_pos rfl]
    · rw [if_neg e]
      cases hx : idxN (l.take j) x with
      | some i => rfl
      | none =>
        show _ = if _ then _ else _
        rw [if_neg (fun e2 => e e2.symm)]
  · have hg : g ≠ wb := by
      rcases hat with e | e
      · exact (hfar g e).2.1
      · omega
    have := k78.owns hown (fun q hq e => by cases hq; exact hg e)
    have e1 : ((List.range (j + 1)).map fun i => (.pointer (some ⟨(if i = j then wm.heap.size else Bf i) + 2, 0, none⟩) : Value)) = ((List.range j).map fun i => .pointer (some ⟨Bf i + 2, 0, none⟩)) ++ [.pointer (some ⟨wm.heap.size + 2, 0, none⟩)] := by
      rw [List.range_succ, List.map_append]
      congr 1
      · refine List.map_congr_left (fun i hi' => ?_)
        have := List.mem_range.1 hi'
        rw [if_neg (by omega)]
      · simp
    rw [e1]
    exact this
  · intro q hq
    obtain rfl : q = g := by cases hq; rfl
    clear hq
    rcases hat with e | e
    · obtain ⟨f1, f2, f3⟩ := hfar _ e
      refine ⟨f1, f2, fun i hi' => ?_⟩
      by_cases hij : i = j
      · rw [if_pos hij]
        have := hown0 _ e
        omega
      · rw [if_neg hij]
        exact f3 i (by omega)
    · refine ⟨by omega, by omega, fun i hi' => ?_⟩
      by_cases hij : i = j
      · rw [if_pos hij]; omega
      · rw [if_neg hij]
        have := h.ord i (by omega)
        omega
  · intro i hi'
    by_cases hij : i = j
    · rw [if_pos hij]; omega
    · rw [if_neg hij]
      have := h.ord i (by omega)
      omega
  · intro i i' h1 h2
    by_cases hij : i' = j
    · rw [if_neg (by omega), if_pos hij]
      have := h.ord i (by omega)
      omega
    · rw [if_neg (by omega), if_neg hij]
      exact h.asc i i' h1 (by omega)
  · intro i b hi' hb
    by_cases hij : i = j
    · subst hij
      rw [ha] at hb
      cases hb
      rw [if_pos rfl]
      exact ⟨k58.heap hf.blk (hnw _ (by omega)), ⟨k', hmp.keep k58 (hnw _ (by omega))⟩, A, k58.heap hA1 (hnw _ (by omega)), hA2, hA3⟩
    · rw [if_neg hij]
      obtain ⟨b1, ⟨k2, b2⟩, A2, b4, b5⟩ := h.fil i b (by omega) hb
      exact ⟨kr8.heap b1 (hold i (by omega) _ (by omega) (by omega)), ⟨k2, b2.keep kr8 (hold i (by omega) _ (by omega) (by omega))⟩, A2, kr8.heap b4 (hold i (by omega) _ (by omega) (by omega)), b5⟩
/-- Nothing is known of uses. -/
def noMem : Mem := fun _ _ => (0, (0, 0, 0))
theorem noMem_ok (fs : List X.Fl) : MOk fs noMem := fun _ _ => ⟨Nat.zero_le _, fun h => by cases h⟩
theorem noMem_idle : Idle noMem := fun _ _ h => by cases h
/-- A workspace that has been opened, and who tells. -/
theorem InW.run {w : World} {l : List AF} {mb wb : Nat} {Bf : Nat → Nat} {IV : Nat → Value} {Lo Hi : Nat → Nat} {B : Nat} {rv fv : Value} {wr : World} (h : InW w l mb wb l.length Bf IV fv wr) (hw : w.heap.size ≤ mb) (hmw : mb < wb) (hI : IsFs w B rv l IV Lo Hi) (hn : l.length ≤ 16) (hok : ∀ a ∈ l, nmOk a.n = true) (hsh : Short l) :
    Run (wr.alloc (.cells #[.pointer (some ⟨wb, 0, none⟩), .int .i64 0, .slice none 0 0] 92)) ⟨wb, wr.heap.size, 0, mb, fv, fun i => Bf i + 2, Bf, IV, fun i => Bf i + 1⟩ (fsOf l) noMem [] (wr.alloc (.cells #[.pointer (some ⟨wb, 0, none⟩), .int .i64 0, .slice none 0 0] 92)) := by
  have hfl := fsOf_len l
  have hget : ∀ i, i < (fsOf l).length → ∃ a, l[i]? = some a ∧ X.itemsOf (fsOf l) i = X.itsT (bs a.t) := fun i hi => by
    rw [hfl] at hi
    exact ⟨l[i], List.getElem?_eq_getElem hi, fsOf_get (List.getElem?_eq_getElem hi)⟩
  have hS : ∀ q, (Lay.mk wb wr.heap.size 0 mb fv (fun i => Bf i + 2) Bf IV (fun i => Bf i + 1)).S (fsOf l).length q → q = wr.heap.size ∨ ∃ i, i < l.length ∧ q = Bf i + 1 := fun q hq => by
    rcases hq with e | ⟨i, h1, h2⟩
    · exact .inl e
    · exact .inr ⟨i, by rw [← hfl]; exact h1, h2⟩
  have hwb := heap_lt h.blk
  have bA : Below wr.heap.size wr (wr.alloc (.cells #[.pointer (some ⟨wb, 0, none⟩), .int .i64 0, .slice none 0 0] 92)) := (Below.refl _ wr).alloc (Nat.le_refl _) _
  have kA := Kp.ofBelow bA (fun _ => False)
  have hszA : (wr.alloc (.cells #[.pointer (some ⟨wb, 0, none⟩), .int .i64 0, .slice none 0 0] 92)).heap.size = wr.heap.size + 1 := by simp
  have hsep : ∀ i q, i < l.length → q = Bf i ∨ q = Bf i + 2 → ¬ (Lay.mk wb wr.heap.size 0 mb fv (fun i => Bf i + 2) Bf IV (fun i => Bf i + 1)).S (fsOf l).length q := by
    intro i q hi h1 hs
    have ho := h.ord i hi
    rcases hS q hs with e | ⟨i', hi', e⟩
    · omega
    · have ho' := h.ord i' hi'
      rcases Nat.lt_trichotomy i i' with c | c | c
      · have := h.asc i i' c hi'; omega
      · subst c; omega
      · have := h.asc i' i c hi; omega
  have hlow : ∀ q, q ≤ wb → ¬ (Lay.mk wb wr.heap.size 0 mb fv (fun i => Bf i + 2) Bf IV (fun i => Bf i + 1)).S (fsOf l).length q := by
    intro q hq hs
    rcases hS q hs with e | ⟨i, hi, e⟩
    · omega
    · have := h.ord i hi; omega
  have hst : St (wr.alloc (.cells #[.pointer (some ⟨wb, 0, none⟩), .int .i64 0, .slice none 0 0] 92)) ⟨wb, wr.heap.size, 0, mb, fv, fun i => Bf i + 2, Bf, IV, fun i => Bf i + 1⟩ (fsOf l) := by
    refine ⟨by rw [hfl]; exact hn, ⟨kA.heap h.blk id, hlow wb (Nat.le_refl _)⟩, ?_, hlow mb (by omega), ?_, fun i hi => ?_, fun i hi => ?_, fun i hi => ?_, fun i it hit => (its_bd hsh i).1 it hit, fun i => (its_bd hsh i).2.1, by show wr.heap.size < _; omega, fun i hi => ?_⟩
    · refine ⟨_, (h.mp.below bA).congr (fun x => ?_)⟩
      rw [List.take_length, modI_idx hok]
    · have hr := h.row
      have hc := fun g hg => hr.cells (g := g) hg
      rcases hr.2 with ⟨e, h0⟩ | ⟨g, cap, cur, e, hge, hgg, hnn, hm, -, -⟩
      · refine ⟨none, 0, by rw [hfl, h0]; exact e, by rw [hfl, h0]; exact Nat.le_refl _, by unfold maxLen; omega, fun i hi => by rw [hfl, h0] at hi; omega⟩
      · refine ⟨_, cap, by rw [hfl]; exact e, by rw [hfl]; exact hnn, hm, fun i hi => ⟨g, rfl, fun hs => ?_, ?_⟩⟩
        · have hfar := h.far g (by rw [e]; rfl)
          have hgl := heap_lt hgg
          rcases hS _ hs with e1 | ⟨i', hi', e1⟩
          · omega
          · exact hfar.2.2 i' hi' ⟨by omega, by omega⟩
        · rw [hfl] at hi
          have := hc g (by rw [e]; rfl) i (.pointer (some ⟨Bf i + 2, 0, none⟩)) (by simp [hi])
          rw [Addr.add_lit, Nat.zero_add] at this
          exact Lib.cell?_alloc_some _ this
    · obtain ⟨a, ha, e⟩ := hget i hi
      rw [hfl] at hi
      rw [e]
      exact ⟨kA.heap (h.fil i a hi ha).1 id, hsep i _ hi (.inr rfl)⟩
    · obtain ⟨a, ha, e⟩ := hget i hi
      rw [hfl] at hi
      rw [e]
      obtain ⟨k, hk⟩ := (h.fil i a hi ha).2.1
      exact ⟨⟨k, hk.below bA⟩, hsep i _ hi (.inl rfl)⟩
    · obtain ⟨a, ha, e⟩ := hget i hi
      rw [hfl] at hi
      rw [e]
      obtain ⟨q1, q2, q3⟩ := hI.its i a ha
      have s0 := h.bl.size
      exact ⟨Lo i, Hi i, (q1.blw (Kp.ofBelow h.bl (fun _ => False)) (fun _ _ _ => id)).blw kA (fun _ _ _ => id), by omega, fun q h1 h2 => hlow q (by omega)⟩
    · rw [hfl] at hi
      have ho := h.ord i hi
      refine ⟨by show Bf i + 1 < _; omega, by show Bf i + 1 ≠ wr.heap.size; omega, fun j hj e => ?_⟩
      rw [hfl] at hj
      have e' : Bf i + 1 = Bf j + 1 := e
      have ho' := h.ord j hj
      rcases Nat.lt_trichotomy i j with c | c | c
      · have := h.asc i j c hj; omega
      · exact c
      · have := h.asc j i c hi; omega
  refine ⟨hst, Kp.refl _ _, ⟨_, heap_alloc_new wr _, World.ownsRow_nil _ _ _ _⟩, fun i hi => ?_, Nat.zero_le _⟩
  obtain ⟨a, ha, e⟩ := hget i hi
  rw [hfl] at hi
  obtain ⟨-, -, A, b4, b5, b6⟩ := h.fil i a hi ha
  rw [e]
  exact ⟨A, kA.heap b4 id, b5, fun k hk => ⟨b6 _ (by omega), b6 _ (by omega), b6 _ (by omega), b6 _ (by omega)⟩⟩
end Go.Proofs.YtgjbafamiggafaaGreatDoor
/- Package scope: Open, Names, Resolve. -/
namespace Go.Proofs.YtgjbafamiggafaaGreatDoor
open Go.RowKit
open M
theorem IsAF.wide {w : World} {B B' : Nat} {ao : Option Addr} {l : List AF} (h : IsAF w B ao l) (hb : B ≤ B') : IsAF w B' ao l := fun j a hj => by
  obtain ⟨b, o, e1, e2, e3⟩ := h j a hj
  exact ⟨b, o, e1, Nat.lt_of_lt_of_le e2 hb, e3⟩
theorem infoPF : (Tryz.prog.info? 88).map (fun i => (i.zero, i.size, i.bytes)) = some (some (.pointer none), 1, 8) := by kernel_rfl
set_option maxRecDepth 100000 in
set_option maxHeartbeats 4000000 in
theorem resolve_no (ao : Option Addr) (cap : Nat) (l : List AF) (w : World) (hT : Tabs w) (h : IsAF w w.heap.size ao l) (hl : l.length ≤ cap) (hc : cap ≤ maxLen) (hf : fltF l ≠ 0) :
    Calls Tryz.prog 6 #[.slice ao l.length cap] w fun e w' => e = .returned (.tuple #[.slice none 0 0, .iface 29 (.int .i64 (fltF l))]) ∧ Below w.heap.size w w' := by
  have hC := fault_any ao cap l w hT h hl hc
  have he : errV (fltF l) = .iface 29 (.int .i64 (fltF l)) := if_neg hf
  rw [he] at hC
  have HC := hide hC
  clear h hT hf hC he
  generalize fltF l = r at *
  go_enter Tryz.func6, Tryz.ntmps6
  go_wp2_with fail
  refine (HC.out).mono ?_
  rintro e w1 ⟨rfl, B1⟩
  have HF := hide B1
  clear HC B1
  go_wp2_with fail
  go_ret2
  exact ⟨rfl, HF.out⟩
/-- Files without a fault. -/
theorem fltF_ok {l : List AF} (h : fltF l = 0) : l.length ≤ 16 ∧ Short l ∧ (∀ a ∈ l, nmOk a.n = true) ∧ (l.map (fun a => bs a.n)).Pairwise (· ≠ ·) := by
  unfold fltF at h
  by_cases h1 : 16 < l.length
  · rw [if_pos h1] at h; cases h
  · rw [if_neg h1] at h
    by_cases h2 : l.any (fun a => decide (20000 < a.t.size)) = true
    · rw [if_pos h2] at h; cases h
    · rw [if_neg h2] at h
      obtain ⟨a, b, -⟩ := fltN_ok h
      refine ⟨by omega, fun a ha => ?_, a, b⟩
      rcases Nat.lt_or_ge 20000 a.t.size with g | g
      · exact absurd (List.any_eq_true.2 ⟨a, ha, by simpa using g⟩) h2
      · exact g
theorem idx_new {l : List AF} (h : (l.map (fun a => bs a.n)).Pairwise (· ≠ ·)) {j : Nat} {a : AF} (ha : l[j]? = some a) : idxN (l.take j) (bs a.n) = none := by
  cases hi : idxN (l.take j) (bs a.n) with
  | none => rfl
  | some i =>
    exfalso
    have hm := (idxN_mem (l.take j) (bs a.n)).1 (by rw [hi]; rfl)
    obtain ⟨b, hb, e⟩ := List.mem_map.1 hm
    obtain ⟨i', hi', rfl⟩ := List.getElem_of_mem hb
    rw [List.length_take] at hi'
    have hjl : j < l.length := by
      rcases Nat.lt_or_ge j l.length with g | g
      · exact g
      · rw [List.getElem?_eq_none g] at ha; cases ha
    rw [List.getElem?_eq_getElem hjl] at ha
    have ha' := Option.some.inj ha
    have hp := List.pairwise_iff_getElem.1 h i' j (by rw [List.length_map]; omega) (by rw [List.length_map]; exact hjl) (by omega)
    rw [List.getElem_map, List.getElem_map, ha'] at hp
    rw [List.getElem_take] at e
    exact hp e
set_option maxRecDepth 100000 in
set_option maxHeartbeats 16000000 in
theorem open_any (l : List AF) (rv : Value) (IV : Nat → Value) (Lo Hi : Nat → Nat) (B : Nat) (w : World) (hI : IsFs w B rv l IV Lo Hi) (hn16 : l.length ≤ 16) (hsh : Short l) (hok : ∀ a ∈ l, nmOk a.n = true) (hpw : (l.map (fun a => bs a.n)).Pairwise (· ≠ ·)) :
    Calls Tryz.prog 20 #[rv] w fun e w' => e = .returned (.pointer (some ⟨w.heap.size + 1, 0, none⟩)) ∧ Hid (∃ Bf fv, InW w l w.heap.size (w.heap.size + 1) l.length Bf IV fv w') := by
  have hmm := mkMap
  obtain ⟨i0, hi0, hz0, hz1, hz2⟩ := info_parts infoPF
  obtain ⟨ao, cap, rfl, hcl, hcm, hx⟩ := hI.ex
  have HX := hide hx
  have HIT := hide hI.its
  have HSH := hide hsh
  have HOK := hide hok
  have HPW := hide hpw
  have HI0 : Hid (∃ Bf fv, InW w l w.heap.size (w.heap.size + 1) 0 Bf IV fv ((w.alloc (.map #[] 0)).alloc (.cells #[.map (some w.heap.size), .slice none 0 0] 87))) := ⟨_, _, InW.start w l IV⟩
  clear hx hI hsh hok hpw
  go_enter Tryz.func20, Tryz.ntmps20
  go_wp2_with fail
  generalize ((w.alloc (.map #[] 0)).alloc (.cells #[.map (some w.heap.size), .slice none 0 0] 87)) = W0 at *
  generalize hmb : w.heap.size = mb at *
  have HMB := hide hmb
  clear hmm hmb
  go_loopw [11] (fun v wr => ∃ j : Nat, v = .int .i64 j ∧ j ≤ l.length ∧ Hid (∃ Bf fv, InW w l mb (mb + 1) j Bf IV fv wr)) (fun v _ => l.length - (intOf v).toNat)
  case atStart => exact ⟨0, rfl, Nat.zero_le _, HI0⟩
  case round =>
    obtain ⟨j, rfl, hj, HI⟩ := hrel
    clear HI0
    by_cases hjl : j < l.length
    · obtain ⟨Bf, fv, hin⟩ := HI.out
      clear HI
      obtain ⟨a, ha⟩ : ∃ a, l[j]? = some a := ⟨l[j], List.getElem?_eq_getElem hjl⟩
      obtain ⟨b, e1, e2, -, e3, e4⟩ := (HX.out) j a ha
      subst e1
      obtain ⟨hits, -, hhi⟩ := (HIT.out) j a ha
      have hi1 : (j : Int) < (l.length : Int) := by omega
      have hmb := HMB.out
      have hww := hin.bl.size
      have e3' := kcb hin.bl (by omega) e3
      have e4' := kcb hin.bl (by omega) e4
      have hivs : ∃ ia ic, IV j = .slice ia (X.itsT (bs a.t)).length ic := by
        obtain ⟨ia, ic, -, e, -⟩ := hits.ex
        exact ⟨ia, ic, e⟩
      obtain ⟨ia, ic, hiv⟩ := hivs
      rw [hiv] at hits e4'
      have hlB := its_bd HSH.out j
      rw [fsOf_get ha] at hlB
      have hnl : nmOk a.n = true := (HOK.out) a (List.mem_of_getElem? ha)
      have hlen : (bs a.n).length ≤ maxLen := by
        unfold nmOk at hnl
        rw [bs_len]
        unfold maxLen
        have : a.n.size ≤ 40 := by simp at hnl; exact hnl.1
        omega
      have HFO : Hid (∀ W : World, Below w.heap.size w W → Calls Tryz.prog 32 #[.slice ia (X.itsT (bs a.t)).length ic] W fun e w' => e = .returned (.pointer (some ⟨W.heap.size + 2, 0, none⟩)) ∧ Hid (IsF W w' (IV j) (X.itsT (bs a.t)))) := fun W hW => by
        rw [hiv]
        exact fileOf_any (Lo j) (Hi j) _ _ W (hits.blw (Kp.ofBelow hW (fun _ => False)) (fun _ _ _ => id)) (by have := hW.size; omega) hlB.2.1 hlB.1
      clear hlB hits hiv
      generalize hil : (X.itsT (bs a.t)).length = il at *
      clear hil
      have hnew := idx_new HPW.out ha
      have kF : Below wr.heap.size wr (wr.alloc (.cells #[.string a.n, .slice ia il ic] 70)) := (Below.refl _ _).alloc (Nat.le_refl _) _
      have hF0 := heap_alloc_new wr (.cells #[.string a.n, .slice ia il ic] 70)
      have n0 : (wr.alloc (.cells #[.string a.n, .slice ia il ic] 70)).cell? ⟨wr.heap.size, 0, none⟩ = some (.string a.n) := cell_of_row _ _ 0 _ _ _ hF0
      have hwbl := heap_lt hin.blk
      have c0 : (wr.alloc (.cells #[.string a.n, .slice ia il ic] 70)).cell? ⟨mb + 1, 0, none⟩ = some (.map (some mb)) := kcb kF hwbl (cell_of_row wr _ 0 _ _ _ hin.blk)
      have hjm : j < maxLen := by unfold maxLen; omega
      have hj2 : j ≤ 9223372036854775807 := by omega
      obtain ⟨wm, hp1, hp2, hp3⟩ := (hin.mp.below kF.drew).run_put hjm hlen (i := j) hj2
      rw [ba_bs] at hp1
      have HIN := hide hin
      have HF0 := hide hF0
      have HP2 := hide hp2
      have HP3 := hide hp3
      have HKF := hide kF
      have HN := hide hnew
      clear hin kF hF0 hp2 hp3 hnl hnew e3 e4
      go_wp2_with fail
      generalize wr.alloc (.cells #[.string a.n, .slice ia il ic] 70) = Wa at *
      refine wpTo_start (S := fun w' => w'.cell? ⟨mb + 1, 0, none⟩ = some (.map (some mb)) ∧ w'.cell? ⟨wr.heap.size, 0, none⟩ = some (.string a.n)) (z := 7) (by kernel_rfl) ?_
      have hS : Wa.drew.cell? ⟨mb + 1, 0, none⟩ = some (.map (some mb)) ∧ Wa.drew.cell? ⟨wr.heap.size, 0, none⟩ = some (.string a.n) := ⟨c0, n0⟩
      iterate 7 (refine wpTo_nx0 (v := ?_) rfl rfl (by kernel_rfl) (by kernel_rfl) (by kernel_rfl) (by kernel_rfl) (fun _ _ _ h => h) (Or.inl ⟨by rfl, ?_⟩) hS ?_; rotate_left; (· (intro wx hSw; (try dsimp only at hSw); go_simp; try (with_reducible rfl))); simp only [Act.put, List.setIfInBounds_toArray, List.set_cons_zero, List.set_cons_succ])
      refine wpTo_one (i := 7) (by kernel_rfl) rfl (fun K hK => ?_)
      go_simp
      refine hK.out _ _ (fun h => absurd rfl h) (fun _ => wpTo_end (by kernel_rfl) ?_)
      clear hK K hS hp1 c0 n0
      have hks : Kp (fun q => q = mb) wr wm := Kp.trans (Kp.ofBelow (HKF.out).drew _) HP3.out (fun _ _ e => e)
      have HKS := hide hks
      have hFm := (HP3.out).heap (w := Wa.drew) HF0.out (by have := hwbl; omega)
      have n1 : wm.cell? ⟨wr.heap.size, 1, none⟩ = some (.slice ia il ic) := cell_of_row wm _ 1 _ _ _ hFm
      have hbm := hks.heap (HIN.out).blk (by omega)
      have c1 : wm.cell? ⟨mb + 1, 1, none⟩ = some fv := cell_of_row wm _ 1 _ _ _ hbm
      have hbw : Below w.heap.size w wm := (HIN.out).bl.trans (hks.below (HIN.out).bl.size (fun q e => by omega))
      have HRD := hide ((HFO.out) wm.drew hbw.drew)
      have HOW := hide (hks.owns (HIN.out).row (fun q hq e => (HIN.out).far q hq |>.1 e))
      have hlm := heap_lt hFm
      have hfv : ∃ fa fn fc, fv = .slice fa fn fc := by
        rcases (HIN.out).row.2 with ⟨e, -⟩ | ⟨g', cap', cur, e, -⟩
        · exact ⟨_, _, _, e⟩
        · exact ⟨_, _, _, e⟩
      obtain ⟨fa, fn, fc, rfl⟩ := hfv
      have HFar := hide (HIN.out).far
      have HO0 : Hid (∀ q, (Value.slice fa fn fc).ownBlock = some q → q < wr.heap.size) := fun q hq => (owns_ge (HIN.out).row q hq).2
      clear hks hFm hbm hbw HFO
      go_wp2_with fail
      refine wpTo_start (S := fun w' => w'.cell? ⟨mb + 1, 1, none⟩ = some (.slice fa fn fc) ∧ w'.cell? ⟨wr.heap.size, 1, none⟩ = some (.slice ia il ic)) (z := 12) (by kernel_rfl) ?_
      have hS : wm.drew.cell? ⟨mb + 1, 1, none⟩ = some (.slice fa fn fc) ∧ wm.drew.cell? ⟨wr.heap.size, 1, none⟩ = some (.slice ia il ic) := ⟨c1, n1⟩
      iterate 7 (refine wpTo_nx0 (v := ?_) rfl rfl (by kernel_rfl) (by kernel_rfl) (by kernel_rfl) (by kernel_rfl) (fun _ _ _ h => h) (Or.inl ⟨by rfl, ?_⟩) hS ?_; rotate_left; (· (intro wx hSw; (try dsimp only at hSw); go_simp; try (with_reducible rfl))); simp only [Act.put, List.setIfInBounds_toArray, List.set_cons_zero, List.set_cons_succ])
      refine wpTo_one (i := 7) (by kernel_rfl) rfl (fun K hK => ?_)
      go_simp
      refine (HRD.out).mono ?_
      rintro e w5 ⟨rfl, X5⟩
      have B5 := (X5.out).bl
      have c15 := kcb B5 (by show _ < wm.heap.size; omega) c1
      have n15 := kcb B5 (by show _ < wm.heap.size; omega) n1
      have hmz : wm.heap.size ≤ w5.heap.size := B5.size
      have HO5 := hide ((Kp.ofBelow (((Below.refl _ wm).drew).trans B5) (fun _ => False)).owns HOW.out (fun _ _ => id))
      dsimp only
      refine hK.out _ _ (fun _ => ⟨c15, n15⟩) (fun hS2 => ?_)
      clear hS hK K
      have hS := hS2 (by decide)
      clear hS2
      refine wpTo_one (i := 8) (by kernel_rfl) rfl (fun K hK => ?_)
      go_simp
      refine hK.out _ _ (fun _ => by first | go_keep | (dsimp only; go_keep)) (fun hS2 => ?_)
      clear hS hK K
      have hS := hS2 (by decide)
      clear hS2
      refine wpTo_one (i := 9) (by kernel_rfl) rfl (fun K hK => ?_)
      refine step_append_lies _ (by rfl) _ _ _ (by rfl) w.heap.size 88 i0 _ 1 8 Tryz.underlying85 hi0 hz0 hz1 hz2 rfl (by omega) (.slice fa fn fc) j _ (by rfl) ((HO5.out).alloc _)
        ⟨w5.heap.size, 0, none⟩ 1 1 [.pointer (some ⟨wm.heap.size + 2, 0, none⟩)] (by rfl) (by rfl) (World.news_of_block (cs := #[.pointer (some ⟨wm.heap.size + 2, 0, none⟩)]) (t := 88) (fr := (0, 0)) (heap_alloc_new w5 _)) (by simp [Value.oneCell'])
        (by omega) (by unfold maxLen; omega) (by omega) (by simp; omega) (w5.heap.size + 1) (by simp) ?_
      intro g cap7 w7 hown7 hgrow7 hat7 hlt7
      have hfar := HFar.out
      have ho0 := HO0.out
      have hwn : some (mb + 1) ≠ (Value.slice fa fn fc).ownBlock := fun e => (hfar _ e.symm).2.1 rfl
      have hwf : some wr.heap.size ≠ (Value.slice fa fn fc).ownBlock := fun e => by have := ho0 _ e.symm; omega
      have y0 : w7.cell? ⟨mb + 1, 1, none⟩ = some (.slice fa fn fc) := (hgrow7.cell_far ⟨mb + 1, 1, none⟩ (by simp; omega) hwn).trans hS.1
      have y1 := (hgrow7.cell_far ⟨wr.heap.size, 1, none⟩ (by simp; omega) hwf).trans hS.2
      have hblk5 : w5.heap[mb + 1]? = some (.cells #[.map (some mb), .slice fa fn fc] 87 (0, 0)) := (Kp.ofBelow (((Below.refl _ wm).drew).trans B5) (fun _ => False)).heap ((HKS.out).heap (HIN.out).blk (by omega)) id
      have x2 : w7.frozen? ⟨mb + 1, 1, none⟩ = false := (hgrow7.frozen_far ⟨mb + 1, 1, none⟩ (by simp; omega) hwn).trans ((World.frozen?_alloc_old _ _ ⟨mb + 1, 1, none⟩ (by simp; omega)).trans (frozen_of_row w5 _ 1 _ _ hblk5))
      show K (Act.put _ (some 32) _) w7
      refine hK.out _ _ (fun _ => ⟨y0, y1⟩) (fun hS2 => ?_)
      clear hS hK K
      have hS := hS2 (by decide)
      clear hS2
      simp only [Act.put, List.setIfInBounds_toArray, List.set_cons_zero, List.set_cons_succ]
      refine wpTo_one (i := 10) (by kernel_rfl) rfl (fun K hK => ?_)
      go_simp
      refine hK.out _ _ (fun _ => hS) (fun _ => ?_)
      clear hK K
      refine wpTo_one (i := 11) (by kernel_rfl) rfl (fun K hK => ?_)
      go_simp
      refine hK.out _ _ (fun _ => hS) (fun _ => ?_)
      clear hK K
      refine wpTo_one (i := 12) (by kernel_rfl) rfl (fun K hK => ?_)
      go_simp
      refine hK.out _ _ (fun h => absurd rfl h) (fun _ => wpTo_end (by kernel_rfl) ?_)
      clear hK K
      have HI8 : Hid (∃ Bf fv, InW w l mb (mb + 1) (j + 1) Bf IV fv (w7.setCell ⟨mb + 1, 1, none⟩ (.slice (some ⟨g, 0, none⟩) (j + 1) cap7))) := by
        have hb6 : Below w5.heap.size w5 (w5.alloc (.cells #[.pointer (some ⟨wm.heap.size + 2, 0, none⟩)] 88)) := (Below.refl _ w5).alloc (Nat.le_refl _) _
        obtain ⟨Bf', hmore⟩ := (HIN.out).more (by omega) (by omega) ha HN.out ((HKS.out).drew) ((HP2.out).below ((Below.refl _ wm).drew)) (Nat.le_refl _) X5.out hb6 hown7 hgrow7 (by rcases hat7 with e | e; exact .inl e; exact .inr (by rw [e]; simp))
        exact ⟨Bf', _, hmore⟩
      clear hown7 hgrow7 hat7 hlt7 y0 y1 x2 hS c15 n15 c1 n1 B5 X5 HO5 hfar ho0 hblk5
      go_wp2_with fail
      exact ⟨⟨j + 1, by simp, by omega, HI8⟩, by simp [intOf]; omega⟩
    · obtain rfl : j = l.length := by omega
      have hd1 : ¬ (l.length : Int) < (l.length : Int) := by omega
      have HF := HI
      clear HI
      go_wp2_with fail
      go_ret
      exact ⟨by rw [HMB.out]; rfl, by rw [HMB.out]; exact HF⟩
set_option maxRecDepth 100000 in
set_option maxHeartbeats 16000000 in
theorem kNames_any (l : List AF) (rv fv : Value) (IV : Nat → Value) (Lo Hi Bf : Nat → Nat) (B mb wb : Nat) (w wr : World) (hI : IsFs w B rv l IV Lo Hi) (hin : InW w l mb wb l.length Bf IV fv wr) (hw : w.heap.size ≤ mb) (hmw : mb < wb) (hn16 : l.length ≤ 16) (hsh : Short l) (hok : ∀ a ∈ l, nmOk a.n = true) :
    Calls Tryz.prog 21 #[.pointer (some ⟨wb, 0, none⟩)] wr fun e w' => ∃ nv, e = .returned nv ∧ Hid (Below w.heap.size w w' ∧ w'.ownsRow w.heap.size 31 6 nv (X.allU (fsOf l)).length (uvs (X.allU (fsOf l))) ∧ (X.allU (fsOf l)).length ≤ 1073741824) := by
  have hR := hin.run hw hmw hI hn16 hok hsh
  have hfsl := fsOf_len l
  have hfv : ∃ fa fc, fv = .slice fa l.length fc := by
    rcases hin.row.2 with ⟨e, h0⟩ | ⟨g', cap', cur, e, -⟩
    · exact ⟨none, 0, by rw [h0]; exact e⟩
    · exact ⟨_, _, e⟩
  obtain ⟨fa, fc, rfl⟩ := hfv
  have c1 : (wr.alloc (.cells #[.pointer (some ⟨wb, 0, none⟩), .int .i64 0, .slice none 0 0] 92)).cell? ⟨wb, 1, none⟩ = some (.slice fa l.length fc) := Lib.cell?_alloc_some _ (cell_of_row wr _ 1 _ _ _ hin.blk)
  obtain ⟨TP, hTP⟩ : ∃ TP : List X.U → World → Prop, TP = fun us w2 => ∃ f, Tld (wr.alloc (.cells #[.pointer (some ⟨wb, 0, none⟩), .int .i64 0, .slice none 0 0] 92)) ⟨wb, wr.heap.size, f, mb, (.slice fa l.length fc), fun i => Bf i + 2, Bf, IV, fun i => Bf i + 1⟩ (fsOf l) us (wr.alloc (.cells #[.pointer (some ⟨wb, 0, none⟩), .int .i64 0, .slice none 0 0] 92)) w2 := ⟨_, rfl⟩
  have HT0 : Hid (TP (usT (fsOf l) 0) (wr.alloc (.cells #[.pointer (some ⟨wb, 0, none⟩), .int .i64 0, .slice none 0 0] 92))) := by
    rw [hTP]
    exact ⟨0, noMem, hR, noMem_ok _, noMem_idle, Kx.refl _ _ _ _⟩
  have HTell : Hid (∀ (j : Nat) (w2 : World), j < l.length → TP (usT (fsOf l) j) w2 → Calls Tryz.prog 33 #[.pointer (some ⟨wr.heap.size, 0, none⟩), .int .i64 j] w2 fun e w3 => e = .returned (.tuple #[]) ∧ Hid (TP (usT (fsOf l) (j + 1)) w3)) := fun j w2 hj ht => by
    rw [hTP] at ht
    obtain ⟨f, M2, r2, m2, i2, x2⟩ := ht
    have hl1 := usT_len hsh j
    have hl2 := (its_bd hsh j).2.2 (fsOf l) j
    refine (tall_any j (by rw [hfsl]; exact hj) r2 m2 i2 (by omega)).mono ?_
    rintro e w3 ⟨rfl, X3⟩
    obtain ⟨M3, r3, m3, i3, x3⟩ := X3.out
    refine ⟨rfl, ?_⟩
    rw [hTP]
    exact ⟨j, M3, by rw [usT_snoc]; exact r3, m3, i3, Kx.trans x2 x3⟩
  have HFin : Hid (∀ w2 : World, TP (usT (fsOf l) l.length) w2 → ∃ nv, w2.cell? ⟨wr.heap.size, 2, none⟩ = some nv ∧ Hid (Below w.heap.size w w2 ∧ w2.ownsRow w.heap.size 31 6 nv (X.allU (fsOf l)).length (uvs (X.allU (fsOf l))) ∧ (X.allU (fsOf l)).length ≤ 1073741824)) := fun w2 ht => by
    rw [hTP] at ht
    obtain ⟨f, M2, r2, m2, i2, x2⟩ := ht
    obtain ⟨nv, -, -, b2, -, b4⟩ := r2.cells
    have e1 : X.allU (fsOf l) = usT (fsOf l) l.length := by unfold X.allU usT; rw [hfsl]
    rw [e1]
    have hbA : Below w.heap.size w (wr.alloc (.cells #[.pointer (some ⟨wb, 0, none⟩), .int .i64 0, .slice none 0 0] 92)) := hin.bl.alloc hin.bl.size _
    refine ⟨nv, b2, ?_, ⟨b4.1, ?_⟩, r2.lim⟩
    · refine hbA.trans (r2.kp.below hbA.size (fun q hq => ?_))
      rcases hq with e | ⟨i, hi, e⟩
      · have e' : q = wr.heap.size := e
        have := hin.bl.size
        omega
      · have e' : q = Bf i + 1 := e
        have := hin.ord i (by rw [← hfsl]; exact hi)
        omega
    · rcases b4.2 with hh | ⟨g', cap', cur, e, e2, r⟩
      · exact .inl hh
      · exact .inr ⟨g', cap', cur, e, Nat.le_trans hbA.size e2, r⟩
  clear hin hR hsh hok hTP hI
  go_enter Tryz.func21, Tryz.ntmps21
  go_wp2_with fail
  clear c1
  generalize wr.alloc (.cells #[.pointer (some ⟨wb, 0, none⟩), .int .i64 0, .slice none 0 0] 92) = W at *
  generalize wr.heap.size = tb at *
  go_loopw [13] (fun v w2 => ∃ j : Nat, v = .int .i64 j ∧ j ≤ l.length ∧ Hid (TP (usT (fsOf l) j) w2)) (fun v _ => l.length - (intOf v).toNat)
  case atStart => exact ⟨0, rfl, Nat.zero_le _, HT0⟩
  case round =>
    obtain ⟨j, rfl, hj, HI⟩ := hrel
    clear HT0
    by_cases hjl : j < l.length
    · have hi1 : (j : Int) < (l.length : Int) := by omega
      have HC := hide ((HTell.out) j _ hjl HI.out)
      clear HI
      go_wp2_with fail
      refine (HC.out).mono ?_
      rintro e w3 ⟨rfl, X3⟩
      clear HC
      go_wp2_with fail
      exact ⟨⟨j + 1, by simp, by omega, X3⟩, by simp [intOf]; omega⟩
    · obtain rfl : j = l.length := by omega
      have hd1 : ¬ (l.length : Int) < (l.length : Int) := by omega
      obtain ⟨nv, b2, HF⟩ := (HFin.out) _ HI.out
      clear HI HTell HFin
      have hnvs : ∃ na nn nc, nv = .slice na nn nc := by
        rcases (HF.out).2.1.2 with ⟨e, -⟩ | ⟨g', cap', cur, e, -⟩
        · exact ⟨_, _, _, e⟩
        · exact ⟨_, _, _, e⟩
      obtain ⟨na, nn, nc, rfl⟩ := hnvs
      go_wp2_with fail
      go_ret
      exact ⟨_, rfl, HF⟩
set_option maxRecDepth 100000 in
theorem scNames_any (l : List AF) (rv : Value) (IV : Nat → Value) (Lo Hi : Nat → Nat) (B : Nat) (w : World) (hI : IsFs w B rv l IV Lo Hi) (hn16 : l.length ≤ 16) (hsh : Short l) (hok : ∀ a ∈ l, nmOk a.n = true) (hpw : (l.map (fun a => bs a.n)).Pairwise (· ≠ ·)) :
    Calls Tryz.prog 12 #[rv] w fun e w' => ∃ nv, e = .returned nv ∧ Hid (Below w.heap.size w w' ∧ w'.ownsRow w.heap.size 31 6 nv (X.allU (fsOf l)).length (uvs (X.allU (fsOf l))) ∧ (X.allU (fsOf l)).length ≤ 1073741824) := by
  have HO := hide (open_any l rv IV Lo Hi B w hI hn16 hsh hok hpw)
  have HK : Hid (∀ wr, (∃ Bf fv, InW w l w.heap.size (w.heap.size + 1) l.length Bf IV fv wr) → Calls Tryz.prog 21 #[.pointer (some ⟨w.heap.size + 1, 0, none⟩)] wr fun e w' => ∃ nv, e = .returned nv ∧ Hid (Below w.heap.size w w' ∧ w'.ownsRow w.heap.size 31 6 nv (X.allU (fsOf l)).length (uvs (X.allU (fsOf l))) ∧ (X.allU (fsOf l)).length ≤ 1073741824)) := fun wr h => by
    obtain ⟨Bf, fv, h⟩ := h
    exact kNames_any l rv fv IV Lo Hi Bf B _ _ w wr hI h (Nat.le_refl _) (Nat.lt_succ_self _) hn16 hsh hok
  obtain ⟨ao, cap, rfl, -⟩ := hI.ex
  clear hI hsh hok hpw
  go_enter Tryz.func12, Tryz.ntmps12
  go_wp2_with fail
  refine (HO.out).mono ?_
  rintro e w1 ⟨rfl, X1⟩
  have HC := hide ((HK.out) w1 X1.out)
  clear HO HK X1
  go_wp2_with fail
  refine (HC.out).mono ?_
  rintro e w2 ⟨nv, rfl, HF⟩
  clear HC
  go_wp2_with fail
  go_ret
  exact ⟨_, rfl, HF⟩
set_option maxRecDepth 100000 in
theorem resolve_yes (ao : Option Addr) (cap : Nat) (l : List AF) (w : World) (hT : Tabs w) (h : IsAF w w.heap.size ao l) (hl : l.length ≤ cap) (hc : cap ≤ maxLen) (hf : fltF l = 0) :
    Calls Tryz.prog 6 #[.slice ao l.length cap] w fun e w' => ∃ nv, e = .returned (.tuple #[nv, .nilIface]) ∧ Hid (Below w.heap.size w w' ∧ w'.ownsRow w.heap.size 31 6 nv (X.allU (fsOf l)).length (uvs (X.allU (fsOf l))) ∧ (X.allU (fsOf l)).length ≤ 1073741824) := by
  obtain ⟨hn16, hsh, hok, hpw⟩ := fltF_ok hf
  have hCF := fault_any ao cap l w hT h hl hc
  rw [hf] at hCF
  have HC : Hid (Calls Tryz.prog 11 #[.slice ao l.length cap] w fun e w' => e = .returned .nilIface ∧ Below w.heap.size w w') := hCF
  have HS : Hid (∀ w1, Below w.heap.size w w1 → Calls Tryz.prog 13 #[.slice ao l.length cap] w1 fun e w' => ∃ rv, e = .returned rv ∧ Hid ((∃ IV Lo Hi, IsFs w' w1.heap.size rv l IV Lo Hi) ∧ Below w1.heap.size w1 w')) := fun w1 hb => syFiles_any ao cap l w1 (hT.below hb) ((h.below hb).wide hb.size) hn16 hsh
  have HNm : Hid (∀ rv B w2, (∃ IV Lo Hi, IsFs w2 B rv l IV Lo Hi) → Calls Tryz.prog 12 #[rv] w2 fun e w' => ∃ nv, e = .returned nv ∧ Hid (Below w2.heap.size w2 w' ∧ w'.ownsRow w2.heap.size 31 6 nv (X.allU (fsOf l)).length (uvs (X.allU (fsOf l))) ∧ (X.allU (fsOf l)).length ≤ 1073741824)) := fun rv B w2 hx => by
    obtain ⟨IV, Lo, Hi, hI⟩ := hx
    exact scNames_any l rv IV Lo Hi B w2 hI hn16 hsh hok hpw
  clear h hT hCF hsh hok hpw hf
  go_enter Tryz.func6, Tryz.ntmps6
  go_wp2_with fail
  refine (HC.out).mono ?_
  rintro e w1 ⟨rfl, B1⟩
  have HB1 := hide B1
  have HC2 := hide ((HS.out) w1 B1)
  clear HC B1 HS
  go_wp2_with fail
  refine (HC2.out).mono ?_
  rintro e w2 ⟨rv, rfl, X2⟩
  have HC3 := hide ((HNm.out) rv _ w2 (X2.out).1)
  have HB2 : Hid (Below w.heap.size w w2) := (HB1.out).trans ((X2.out).2.mono (HB1.out).size)
  obtain ⟨ra, rn, rc, rfl⟩ : ∃ ra rn rc, rv = .slice ra rn rc := by
    obtain ⟨IV, Lo, Hi, hI⟩ := (X2.out).1
    obtain ⟨ra, rc, e, -⟩ := hI.ex
    exact ⟨_, _, _, e⟩
  clear HC2 X2 HNm
  go_wp2_with fail
  refine (HC3.out).mono ?_
  rintro e w3 ⟨nv, rfl, X3⟩
  have HF : Hid (Below w.heap.size w w3 ∧ w3.ownsRow w.heap.size 31 6 nv (X.allU (fsOf l)).length (uvs (X.allU (fsOf l))) ∧ (X.allU (fsOf l)).length ≤ 1073741824) := by
    obtain ⟨h1, h2, h3⟩ := X3.out
    refine ⟨(HB2.out).trans (h1.mono (HB2.out).size), ⟨h2.1, ?_⟩, h3⟩
    rcases h2.2 with hh | ⟨g', cap', cur, e, e2, r⟩
    · exact .inl hh
    · exact .inr ⟨g', cap', cur, e, Nat.le_trans (HB2.out).size e2, r⟩
  clear HC3 X3
  go_wp2_with fail
  go_ret2
  exact ⟨_, rfl, HF⟩
end Go.Proofs.YtgjbafamiggafaaGreatDoor
