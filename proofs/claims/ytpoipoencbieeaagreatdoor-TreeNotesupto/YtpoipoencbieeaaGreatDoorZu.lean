/- What is wrong in a branch, as the program tells it. -/
import Derived.Test.YtpoipoencbieeaaGreatDoorZt
namespace Go.Proofs.YtpoipoencbieeaaGreatDoor
open Go.RowKit
open M
theorem IsNs.form {w : World} {base : Nat} {rv : Value} {ns : List X.Nt} (h : IsNs w base rv ns) : ∃ ao cap, rv = .slice ao ns.length cap ∧ ns.length ≤ cap ∧ (∀ j, j < ns.length → ∃ g, ao = some ⟨g, 0, none⟩) := by
  rcases h.2 with ⟨rfl, h0⟩ | ⟨g, cap, cur, rfl, hb, hg, hn, hm, hsz, ht⟩
  · exact ⟨none, 0, by rw [h0], by omega, fun j hj => by omega⟩
  · exact ⟨_, cap, rfl, hn, fun j _ => ⟨g, rfl⟩⟩
theorem nvs_cut (ns1 rest : List X.Nt) (n : X.Nt) : nvs (ns1 ++ n :: rest) = nvs ns1 ++ (nv n ++ nvs rest) := by
  rw [nvs_append]; congr 1
theorem nvs_set (ns1 rest : List X.Nt) (a b b' : Int) (c : Nat) : (nvs (ns1 ++ (a, b, c) :: rest)).set (ns1.length * 3 + 1) (.int .i64 b') = nvs (ns1 ++ (a, b', c) :: rest) := by
  rw [nvs_cut, nvs_cut, List.set_append_right _ _ (by rw [nvs_len]; omega), nvs_len]
  congr 1
  rw [show ns1.length * 3 + 1 - ns1.length * 3 = 1 by omega]
  rfl
/-- A note's end is put in later. -/
theorem IsNs.set {w : World} {base g n cap : Nat} {ns1 rest : List X.Nt} {a b : Int} {c : Nat} (h : IsNs w base (.slice (some ⟨g, 0, none⟩) n cap) (ns1 ++ (a, b, c) :: rest)) (b' : Int) :
    IsNs (w.setCell ⟨g, ns1.length * 3 + 1, none⟩ (.int .i64 b')) base (.slice (some ⟨g, 0, none⟩) n cap) (ns1 ++ (a, b', c) :: rest) ∧ (∃ u, w.cell? ⟨g, ns1.length * 3 + 1, none⟩ = some u) ∧ w.frozen? ⟨g, ns1.length * 3 + 1, none⟩ = false ∧ base ≤ g ∧ g < w.heap.size := by
  obtain ⟨hl, h2⟩ := h
  rcases h2 with ⟨e, -⟩ | ⟨g', cap', cur, e, hb, hg, hn, hm, hsz, ht⟩
  · cases e
  · injection e with e1 e2 e3
    obtain rfl : g = g' := by simpa using e1
    subst e2
    subst e3
    have hlen : (ns1 ++ (a, b', c) :: rest).length = (ns1 ++ (a, b, c) :: rest).length := by simp
    have hlt : ns1.length * 3 + 1 < (ns1 ++ (a, b, c) :: rest).length * 3 := by rw [List.length_append, List.length_cons]; omega
    have hcs : ns1.length * 3 + 1 < cur.size := by rw [hsz]; exact Nat.lt_of_lt_of_le hlt (Nat.mul_le_mul_right 3 hn)
    refine ⟨⟨by rw [nvs_len], .inr ⟨g, cap, cur.setIfInBounds (ns1.length * 3 + 1) (.int .i64 b'), by rw [hlen], hb, ?_, by rw [hlen]; exact hn, hm, by rw [Array.size_setIfInBounds, hsz], ?_⟩⟩, ?_, ?_, hb, heap_lt hg⟩
    · simp [World.setCell, Array.getElem?_modify, hg]
    · rw [hlen, Array.toList_setIfInBounds, List.take_set, ht, nvs_set]
    · exact ⟨cur[ns1.length * 3 + 1], by simp [World.cell?, hg, hcs]⟩
    · simp [World.frozen?, hg]
theorem keepUnder {w wr : World} {base b o : Nat} {v : Value} (hb : b < base) (hk : Below base w wr) (hc : w.cell? ⟨b, o, none⟩ = some v) : wr.cell? ⟨b, o, none⟩ = some v := (Kp.ofBelowB hk (S := fun q => base ≤ q) (fun _ h _ => h)).cellv hc (Nat.not_le.2 hb)
theorem pssz_take {ps : List X.Part} {j : Nat} {p : X.Part} (h : ps[j]? = some p) : X.pssz (ps.take j) + X.psz p ≤ X.pssz ps := by
  have hl : j < ps.length := by
    rcases Nat.lt_or_ge j ps.length with g | g
    · exact g
    · rw [List.getElem?_eq_none g] at h; cases h
  have hd : ps.drop j = p :: ps.drop (j + 1) := by
    rw [List.drop_eq_getElem_cons hl]; congr 1
    exact Option.some.inj ((List.getElem?_eq_getElem hl).symm.trans h)
  have e : X.pssz ps = X.pssz (ps.take j) + X.pssz (ps.drop j) := by rw [← X.pssz_append, List.take_append_drop]
  rw [e, hd, X.pssz]; omega
theorem take_step {ps : List X.Part} {j : Nat} {p : X.Part} (h : ps[j]? = some p) : ps.take (j + 1) = ps.take j ++ [p] := by rw [List.take_add_one, h]; rfl
theorem ntss_take {ps : List X.Part} {j : Nat} {p : X.Part} (h : ps[j]? = some p) (i : Nat) : X.ntss (ps.take (j + 1)) i = X.ntss (ps.take j) i ++ X.nts p (i + (X.psb (ps.take j)).length) := by
  rw [take_step h, X.ntss_append, X.ntss, X.ntss, List.append_nil]
theorem psb_take {ps : List X.Part} {j : Nat} {p : X.Part} (h : ps[j]? = some p) : (X.psb (ps.take (j + 1))).length = (X.psb (ps.take j)).length + (X.pb p).length := by
  rw [take_step h, X.psb_append, X.psb, X.psb, List.append_nil, List.length_append]
theorem psb_take_le {ps : List X.Part} {j : Nat} {p : X.Part} (h : ps[j]? = some p) : (X.psb (ps.take j)).length + (X.pb p).length ≤ (X.psb ps).length := by
  rw [← psb_take h]
  have e : X.psb ps = X.psb (ps.take (j + 1)) ++ X.psb (ps.drop (j + 1)) := by rw [← X.psb_append, List.take_append_drop]
  rw [e, List.length_append]; omega
theorem qlen_le : ∀ ps : List X.Part, X.qlen ps ≤ (X.psb ps).length
  | [] => by simp [X.qlen]
  | .leaf k x :: ps => by
    rw [X.qlen, X.psb, X.pb, List.length_append]
    have := qlen_le ps
    split <;> omega
  | .miss m :: ps => by simp [X.qlen]
  | .br k qs :: ps => by simp [X.qlen]
/-- The loop over a branch's parts. -/
structure InTl (w : World) (base : Nat) (ns1 : List X.Nt) (ps : List X.Part) (i j pos : Nat) (rvj : Value) (wr : World) : Prop where
  pos : pos = i + (X.psb (ps.take j)).length
  row : IsNs wr base rvj (ns1 ++ X.ntss (ps.take j) i)
  bel : Below base w wr
set_option maxRecDepth 100000 in
set_option maxHeartbeats 2000000 in
theorem btell_br (k : Nat) (ps : List X.Part) (hjk : k = 5 → X.Junky ps) (ih : ∀ (j : Nat) (p : X.Part), ps[j]? = some p → BTOk p) : BTOk (.br k ps) := by
  intro w D N base rv ns i h hD hns hb hi hn
  obtain ⟨i0, hi0, hz0, hz1, hz2⟩ := info_parts infoNote
  have HP0 := hide h
  rw [X.pb] at hi ⊢
  rw [X.psz] at hn
  have hpl := X.pssz_len ps
  cases h with
  | br _ _ cap ao vs _ hN hbk hc hr hp =>
  have hNb := hD N hN
  have HR := hide hr
  have HDisp : Hid (∀ j, j < ps.length → ∃ p, ps[j]? = some p ∧ ∃ ty x fid recv, vs j = .iface ty x ∧ (∀ W, (Go.method 323 ty x "amanuensis/tree.tell").run Tryz.prog W = .ok (fid, recv) W) ∧ (∀ args W, (callFunc fid args).run Tryz.prog W = .ok (.enter fid args) W) ∧
      ∀ (W : World) (rv : Value) (ns : List X.Nt) (i : Nat), Below base w W → IsNs W base rv ns → base ≤ W.heap.size → i + (X.pb p).length ≤ 1073741824 → ns.length + X.psz p ≤ 1073741823 → Calls Tryz.prog fid #[recv, rv, .int .i64 i] W fun e w' => ∃ rv', e = .returned (.tuple #[rv', .int .i64 ((i + (X.pb p).length : Nat) : Int)]) ∧ Hid (Told W base (ns ++ X.nts p i) rv' w')) := fun j hj => by
    have hpj : ps[j]? = some ps[j] := List.getElem?_eq_getElem hj
    exact ⟨_, hpj, tell_disp (hp j _ hpj) (ih j _ hpj) base hD⟩
  have c0 := cell_of_row w _ 0 _ _ _ hbk
  have c1 := cell_of_row w _ 1 _ _ _ hbk
  have HBk := hide hbk
  have HNS := hide hns
  have hcap := hc.1
  have HDg : Hid (∀ q, D q → q < base) := hD
  have hrow : ∀ j, j < ps.length → ∃ g, ao = some ⟨g, 0, none⟩ ∧ g < base ∧ w.cell? ⟨g, j, none⟩ = some (vs j) := fun j hj => by obtain ⟨g, e1, e2, e3⟩ := hr j hj; exact ⟨g, e1, hD g e2, e3⟩
  have HRow := hide hrow
  obtain ⟨aon, capn, hrv, hcn, -⟩ := hns.form
  clear hr hp hbk hc hD hrow ih hns HR HDg
  subst hrv
  have HEnd : Hid (X.ntss (ps.take ps.length) i = X.ntss ps i ∧ (X.psb (ps.take ps.length)).length = (X.psb ps).length) := by
    show _ ∧ _
    rw [List.take_length]; exact ⟨rfl, rfl⟩
  cases h5 : ((k : Int) == 5) with
  | false =>
    have e5 : ¬ k = 5 := by intro e; subst e; cases h5
    have HR5 : Hid (X.nts (.br k ps) i = X.ntss ps i) := by show _ = _; rw [X.nts, if_neg e5, List.nil_append]
    have HI0 : Hid (InTl w base ns ps i 0 i (.slice aon ns.length capn) w) := ⟨by simp [X.psb], by simpa [X.ntss] using HNS.out, Below.refl _ _⟩
    clear e5 hjk
    go_enter Tryz.func30, Tryz.ntmps30
    go_wp2_with fail
    go_loopw [1, 2, 31] (fun a b v wr => ∃ (j pos : Nat) (rvj : Value), a = rvj ∧ b = .int .i64 pos ∧ v = .int .i64 j ∧ j ≤ ps.length ∧ Hid (InTl w base ns ps i j pos rvj wr)) (fun _ _ v _ => ps.length - (intOf v).toNat)
    case atStart => exact ⟨0, i, _, rfl, rfl, rfl, Nat.zero_le _, HI0⟩
    case round =>
      clear HI0 c1
      obtain ⟨j, pos, rvj, rfl, rfl, rfl, hj, HI⟩ := hrel
      have c0r := keepUnder hNb (HI.out).bel c0
      by_cases hlt : j < ps.length
      case neg =>
        obtain rfl : j = ps.length := by omega
        have i1 : decide (ps.length < ps.length) = false := by simp
        have i2 : decide ((ps.length : Int) < (ps.length : Int)) = false := by simp
        have HF : Hid ((i + (X.psb ps).length = pos) ∧ Told w base (ns ++ X.nts (.br k ps) i) u1 wr) := by
          refine ⟨by rw [(HI.out).pos, (HEnd.out).2], ?_, (HI.out).bel⟩
          rw [HR5.out, ← (HEnd.out).1]; exact (HI.out).row
        clear c0
        go_wp2_with fail
        exact bodyPost_ret (v := .tuple #[u1, .int .i64 (pos : Int)]) (by simp [results, Tryz.results30, go_sem]) rfl ⟨u1, by rw [(HF.out).1], (HF.out).2⟩
      have i1 : decide (j < ps.length) = true := by simp; omega
      have i2 : decide ((j : Int) < (ps.length : Int)) = true := by simp; omega
      obtain ⟨p, hpj, ty, x, fid, recv, hvj, hm, hen, hcall⟩ := (HDisp.out) j hlt
      obtain ⟨g, rfl, hgb, hcell⟩ := (HRow.out) j hlt
      rw [hvj] at hcell
      have p0 := keepUnder hgb (HI.out).bel hcell
      have hi1 : (0 : Int) ≤ (j : Int) := Int.natCast_nonneg _
      have hi2 : (j : Int) < (ps.length : Int) := by omega
      have HCall : Hid (Calls Tryz.prog fid #[recv, u1, .int .i64 pos] wr fun e w' => ∃ rv', e = .returned (.tuple #[rv', .int .i64 ((pos + (X.pb p).length : Nat) : Int)]) ∧ Hid (Told wr base ((ns ++ X.ntss (ps.take j) i) ++ X.nts p pos) rv' w')) := by
        have h1 := psb_take_le hpj
        have h2 := pssz_take hpj
        have h3 := X.ntss_len (ps.take j) i
        have h4 := (HI.out).pos
        exact hcall wr u1 _ pos (HI.out).bel (HI.out).row (Nat.le_trans hb (HI.out).bel.size) (by omega) (by rw [List.length_append]; omega)
      have HPJ := hide hpj
      clear hcall hcell hpj c0
      go_wp2_with fail
      refine (HCall.out).mono ?_
      rintro e w2 ⟨rv2, rfl, H2⟩
      have HN : Hid (InTl w base ns ps i (j + 1) (pos + (X.pb p).length) rv2 w2) := by
        refine ⟨by rw [psb_take HPJ.out, (HI.out).pos]; omega, ?_, (HI.out).bel.trans ((H2.out).2)⟩
        rw [ntss_take HPJ.out, ← List.append_assoc, ← (HI.out).pos]; exact (H2.out).1
      clear HCall H2
      go_wp2_with fail
      exact ⟨⟨j + 1, pos + (X.pb p).length, rv2, rfl, rfl, by go_num, by omega, HN⟩, by simp only [intOf]; omega⟩
  | true =>
    have e5 : k = 5 := by have : (k : Int) = 5 := by simpa using h5
                          omega
    have hJ := hjk e5
    have HR5 : Hid (X.nts (.br k ps) i = [(((i + X.qlen ps : Nat) : Int), ((i + (X.psb ps).length : Nat) : Int), 3)] ++ X.ntss ps i) := by show _ = _; rw [X.nts, if_pos e5]
    have HQu := hide (bquiet_any w D N k ps HP0.out hJ.1 (by omega) (by omega))
    have hql : X.qlen ps ≤ (X.psb ps).length := qlen_le ps
    clear e5 hjk hJ
    go_enter Tryz.func30, Tryz.ntmps30
    go_wp2_with fail
    refine (HQu.out).mono ?_
    rintro e w1 ⟨rfl, k1⟩
    have HK1 := hide k1
    have HN1 : Hid (IsNs w1 base (.slice aon ns.length capn) ns) := (HNS.out).keep (Kp.ofBelow k1 (fun _ => False)) (fun _ h => h.elim)
    have hsz1 := k1.size
    clear k1 HQu
    have c0' := keepUnder hNb ((HK1.out).mono hb) c0
    have c1' := keepUnder hNb ((HK1.out).mono hb) c1
    have HC0 := hide c0
    have HC1 := hide c1
    clear c0 c1
    go_wp2_with (at_builtin; refine wpList_append_lies _ rfl _ _ 32 rfl base 50 i0 _ 3 24 Tryz.underlying32 hi0 hz0 hz1 hz2 rfl (by decide) (.slice aon ns.length capn) ns.length _ rfl ((HN1.out : w1.ownsRow _ _ _ _ _ _).alloc _) ⟨w1.heap.size, 0, none⟩ 1 1 (nv (((i : Int) + (X.qlen ps : Int)), 0, 3)) rfl rfl (World.news_of_block (cs := #[.int .i64 ((i : Int) + (X.qlen ps : Int)), .int .i64 0, .int .i64 3]) (heap_alloc_new w1 _)) (by simp [Value.oneCell', nv]) (by omega) (by unfold maxLen; omega) (by omega) (by simp; omega) (w1.heap.size + 1) (by simp) ?_; intro g0 cap5 w5 hown5 hgrow5 hat5 hlt5; have HO := hide hown5; have HB5 : Hid (Below base w w5) := (((HK1.out).mono hb).alloc (by omega) _).grown hgrow5 (by simp; omega) (fun q hq => (owns_ge HN1.out q hq).1); have d1 := keepUnder hNb HB5.out HC1.out; have d0 := keepUnder hNb HB5.out HC0.out; clear hown5 hgrow5)
    have HN5 : Hid (IsNs w5 base (.slice (some ⟨g0, 0, none⟩) (ns.length + 1) cap5) (ns ++ [(((i + X.qlen ps : Nat) : Int), 0, 3)])) := by
      show w5.ownsRow _ _ _ _ _ _
      rw [List.length_append, nvs_append, nvs_one, Int.natCast_add]; exact HO.out
    have HI0 : Hid (InTl w base (ns ++ [(((i + X.qlen ps : Nat) : Int), 0, 3)]) ps i 0 i (.slice (some ⟨g0, 0, none⟩) (ns.length + 1) cap5) w5) := ⟨by simp [X.psb], by simpa [X.ntss] using HN5.out, HB5.out⟩
    clear HO HN5 HB5 HN1 HK1 c0' c1'
    go_loopw [1, 2, 31] (fun a b v wr => ∃ (j pos : Nat) (rvj : Value), a = rvj ∧ b = .int .i64 pos ∧ v = .int .i64 j ∧ j ≤ ps.length ∧ Hid (InTl w base (ns ++ [(((i + X.qlen ps : Nat) : Int), 0, 3)]) ps i j pos rvj wr)) (fun _ _ v _ => ps.length - (intOf v).toNat)
    case atStart => exact ⟨0, i, _, rfl, rfl, rfl, Nat.zero_le _, HI0⟩
    case round =>
      clear HI0 d0 d1
      obtain ⟨j, pos, rvj, rfl, rfl, rfl, hj, HI⟩ := hrel
      have c0 := HC0.out
      have c0r := keepUnder hNb (HI.out).bel c0
      by_cases hlt : j < ps.length
      case neg =>
        obtain rfl : j = ps.length := by omega
        have i1 : decide (ps.length < ps.length) = false := by simp
        have i2 : decide ((ps.length : Int) < (ps.length : Int)) = false := by simp
        have hrow := (HI.out).row
        have hbel := (HI.out).bel
        have hpos := (HI.out).pos
        rw [(HEnd.out).1, List.append_assoc, List.singleton_append] at hrow
        rw [(HEnd.out).2] at hpos
        obtain ⟨ao', cap', hform, hcp, hgo⟩ := hrow.form
        obtain ⟨g, rfl⟩ := hgo 0 (by simp; omega)
        obtain ⟨n, hnn⟩ : ∃ n, (ns ++ (((i + X.qlen ps : Nat) : Int), (0 : Int), 3) :: X.ntss ps i).length = n := ⟨_, rfl⟩
        have hnl : ns.length < n := by rw [← hnn, List.length_append, List.length_cons]; omega
        rw [hnn] at hform hcp
        subst hform
        obtain ⟨hset, ⟨u, hcell⟩, hfz, hge, hgl⟩ := hrow.set (pos : Int)
        have HF : Hid (Told w base (ns ++ X.nts (.br k ps) i) (.slice (some ⟨g, 0, none⟩) n cap') (wr.setCell ⟨g, ns.length * 3 + 1, none⟩ (.int .i64 (pos : Int)))) := by
          refine ⟨?_, hbel.trans (Kp.below (On.set (Kp.refl (fun q => q = g) wr) _ _) (Nat.le_trans hb hbel.size) (fun q e => by omega))⟩
          rw [HR5.out, List.singleton_append, ← hpos]; exact hset
        have HPos : Hid (i + (X.psb ps).length = pos) := hpos.symm
        have hi3 : (0 : Int) ≤ (ns.length : Int) := Int.natCast_nonneg _
        have hi4 : (ns.length : Int) < (n : Int) := by omega
        clear hrow hset hbel hpos hnn HI c0
        go_wp2_with fail
        exact bodyPost_ret (v := .tuple #[.slice (some ⟨g, 0, none⟩) n cap', .int .i64 (pos : Int)]) (by simp [results, Tryz.results30, go_sem]) rfl ⟨_, by rw [HPos.out], HF⟩
      have i1 : decide (j < ps.length) = true := by simp; omega
      have i2 : decide ((j : Int) < (ps.length : Int)) = true := by simp; omega
      obtain ⟨p, hpj, ty, x, fid, recv, hvj, hm, hen, hcall⟩ := (HDisp.out) j hlt
      obtain ⟨g, rfl, hgb, hcell⟩ := (HRow.out) j hlt
      rw [hvj] at hcell
      have p0 := keepUnder hgb (HI.out).bel hcell
      have hi1 : (0 : Int) ≤ (j : Int) := Int.natCast_nonneg _
      have hi2 : (j : Int) < (ps.length : Int) := by omega
      have HCall : Hid (Calls Tryz.prog fid #[recv, u1, .int .i64 pos] wr fun e w' => ∃ rv', e = .returned (.tuple #[rv', .int .i64 ((pos + (X.pb p).length : Nat) : Int)]) ∧ Hid (Told wr base (((ns ++ [(((i + X.qlen ps : Nat) : Int), 0, 3)]) ++ X.ntss (ps.take j) i) ++ X.nts p pos) rv' w')) := by
        have h1 := psb_take_le hpj
        have h2 := pssz_take hpj
        have h3 := X.ntss_len (ps.take j) i
        have h4 := (HI.out).pos
        exact hcall wr u1 _ pos (HI.out).bel (HI.out).row (Nat.le_trans hb (HI.out).bel.size) (by omega) (by rw [List.length_append, List.length_append, List.length_singleton]; omega)
      have HPJ := hide hpj
      clear hcall hcell hpj c0
      go_wp2_with fail
      refine (HCall.out).mono ?_
      rintro e w2 ⟨rv2, rfl, H2⟩
      have HN : Hid (InTl w base (ns ++ [(((i + X.qlen ps : Nat) : Int), 0, 3)]) ps i (j + 1) (pos + (X.pb p).length) rv2 w2) := by
        refine ⟨by rw [psb_take HPJ.out, (HI.out).pos]; omega, ?_, (HI.out).bel.trans ((H2.out).2)⟩
        rw [ntss_take HPJ.out, ← List.append_assoc, ← (HI.out).pos]; exact (H2.out).1
      clear HCall H2
      go_wp2_with fail
      exact ⟨⟨j + 1, pos + (X.pb p).length, rv2, rfl, rfl, by go_num, by omega, HN⟩, by simp only [intOf]; omega⟩
theorem btell_any : ∀ (n : Nat) (p : X.Part), X.psz p ≤ n → X.jok p → BTOk p := by
  intro n
  induction n with
  | zero => intro p h; have := X.psz_pos p; omega
  | succ n ih =>
    intro p hn hj
    cases p with
    | leaf k x => intro w D N base rv ns i h; cases h
    | miss m => intro w D N base rv ns i h; cases h
    | br k ps =>
      rw [X.psz] at hn
      rw [X.jok] at hj
      exact btell_br k ps hj.1.2 (fun j p hp => by
        have := X.pssz_mem ps j p hp
        exact ih p (by omega) (X.joks_mem ps j p hj.2 hp))
end Go.Proofs.YtpoipoencbieeaaGreatDoor
