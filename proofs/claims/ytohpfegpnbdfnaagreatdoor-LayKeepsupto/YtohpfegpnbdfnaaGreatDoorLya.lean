/- The law LayKeeps, of a Layout that lays out. -/
import Derived.Test.YtohpfegpnbdfnaaGreatDoorLt
import Derived.Test.YtohpfegpnbdfnaaGreatDoorTa
import Derived.Test.YtohpfegpnbdfnaaGreatDoorLz
namespace Go.Proofs.YtohpfegpnbdfnaaGreatDoor
open Go.RowKit
open M
namespace X
mutual
theorem knd_st : ∀ p : Part, knd (st p) = knd p
  | .leaf k x => by unfold st; rw [strip]
  | .miss m => by unfold st; rw [strip]
  | .br k ps => by
    have := knds_sts ps
    unfold sts at this
    unfold st; rw [strip, knd, knd, this]
theorem knds_sts : ∀ ps : List Part, knds (sts ps) = knds ps
  | [] => rfl
  | p :: ps => by
    have h1 := knd_st p
    have h2 := knds_sts ps
    unfold sts at *
    unfold st at h1
    rw [strips, drop_quiet, knds]
    cases h : quietP p with
    | true =>
      have h0 : knd p = [] := by
        cases p with
        | leaf k x => rw [knd]
        | miss m => cases h
        | br k qs => cases h
      rw [if_pos rfl, h2, h0, List.nil_append]
    | false => rw [if_neg (by simp), knds, h1, h2]
end
theorem file_knd {a b : List Tok} (h : sts (fileL a) = sts (fileL b)) : knd (file a) = knd (file b) := by
  have e : ∀ ts, knd (file ts) = (2 : Int) :: (knds (fileL ts) ++ [-1]) := fun ts => by
    have : file ts = .br 2 (fileL ts) := rfl
    rw [this, knd]; rfl
  rw [e, e, ← knds_sts, h, knds_sts]
end X
theorem IsTr.on {w w' : World} {tb : Nat} {s : ByteArray} (h : IsTr w tb s) (hk : Below w.heap.size w w') : IsTr w' tb s := by
  obtain ⟨db, dv, B, D, c0, c1, hd, hp, hD⟩ := h.ex
  have k := Kp.ofBelow hk (fun _ => False)
  exact ⟨db, dv, B, D, k.cellv c0 id, k.cellv c1 id, hd.below hk, hp.keep k (fun _ _ => id), fun q hq => Nat.lt_of_lt_of_le (hD q hq) hk.size⟩
theorem isI_nil (w : World) (base : Nat) : IsI w base (.slice none 0 0) [] := World.ownsRow_nil _ _ _ _
theorem psz_small (x : List UInt8) (h : (X.xt x).length ≤ 60000000) : X.psz (X.file (X.xt x)) ≤ 500000000 := by have := X.file_psz (X.xt x); omega
/-- What kinds tells of a root. -/
theorem kinds_root (x : List UInt8) (h : (X.xt x).length ≤ 60000000) (W : World) (E : Nat → Prop) (nv : Value) (h1 : IsN W E nv (X.file (X.xt x))) (h2 : ∀ q, E q → q < W.heap.size) :
    Calls Tryz.prog 14 #[nv, .slice none 0 0] W fun e w' => ∃ rv', e = .returned rv' ∧ Hid (IsV w' rv' ((X.knd (X.file (X.xt x))).map (fun n => .int .i64 n)) ∧ Below W.heap.size W w') := by
  have hz := psz_small x h
  have hl := X.knd_len (X.file (X.xt x))
  refine (kinds_any _ _ (Nat.le_refl _) hz (X.file_kok _) W E nv W.heap.size (.slice none 0 0) [] h1 h2 (isI_nil _ _) (Nat.le_refl _) (by simp only [List.length_nil]; omega)).mono ?_
  rintro e w' ⟨rv', rfl, H⟩
  obtain ⟨a1, a2, a3⟩ := H.out
  refine ⟨rv', rfl, ?_, ?_⟩
  · have : w'.ownsRow W.heap.size 3 1 rv' ((X.knd (X.file (X.xt x))).map iv).length ((X.knd (X.file (X.xt x))).map iv) := by
      rw [List.length_map]
      have h := a1
      unfold IsI at h
      rw [List.nil_append] at h
      exact h
    exact IsV.ofOwns this
  · exact Kp.below a2 (Nat.le_refl _) (fun k hk => by simp [Value.ownBlock] at hk)
set_option maxRecDepth 100000 in
set_option maxHeartbeats 4000000 in
theorem layKeeps_any (hL : LayC) (s : ByteArray) (w : World) (hT : Tabs w) (hs : s.size ≤ 1048576) :
    Calls Tryz.prog 5 #[.string s] w fun e w' => e = .returned (.bool true) ∧ Below w.heap.size w w' := by
  have hfew := toks_few s
  have hbl := bs_len s
  have HL1 := hide (fun W (h : Tabs W) => lives1_any hL W h)
  by_cases hc : X.clns (X.fileL (X.xt (bs s))) = true
  · have hlen := X.layOf_len hc
    have hcnt := X.layOf_cnt hc
    obtain ⟨-, hag, -⟩ := X.layOf_again hc
    have hkn := X.file_knd hag
    have HLay := hide (fun W (h : Tabs W) => by
      have := hL s W h (by omega) (by omega) (fun _ => by omega)
      rw [hc, if_pos rfl] at this
      exact this)
    generalize hU : X.layOf (bs s) = U at *
    have hUz : (ba U).size = U.length := ba_size U
    have hbU : bs (ba U) = U := bs_ba U
    have hxl : ∀ x : ByteArray, (X.xt (bs x)).length = (toks 0 (bs x)).length := fun x => by unfold X.xt; rw [List.length_map]
    have hUt : (toks 0 (bs (ba U))).length ≤ 2 * s.size + 1 := by rw [← hxl, hbU]; omega
    have hxs : (X.xt (bs s)).length ≤ 60000000 := by rw [hxl]; omega
    have hxU : (X.xt (bs (ba U))).length ≤ 60000000 := by rw [hxl]; omega
    have HR1 := hide (fun tb W h => root_any tb s W h (by have := psz_small _ hxs; omega) (by rw [X.file_keeps, X.xt_tb]) (by omega))
    have HR2 := hide (fun tb W h => root_any tb (ba U) W h (by have := psz_small _ hxU; omega) (by rw [X.file_keeps, X.xt_tb]) (by omega))
    have HN1 := hide (fun W (h : Tabs W) => newTree_big s W h (by omega) (by omega))
    have HN2 := hide (fun W (h : Tabs W) => newTree_big (ba U) W h (by omega) (by omega))
    have HK1 := hide (kinds_root (bs s) hxs)
    have HK2 := hide (kinds_root (bs (ba U)) hxU)
    have HKN : Hid (X.knd (X.file (X.xt (bs (ba U)))) = X.knd (X.file (X.xt (bs s)))) := by rw [hbU]; exact hkn
    have HLN : Hid ((X.knd (X.file (X.xt (bs s)))).length ≤ 1073741824) := by
      show _ ≤ _
      have := X.knd_len (X.file (X.xt (bs s)))
      have := psz_small _ hxs
      omega
    have HT := hide hT
    clear hL hc hlen hcnt hag hkn hU hUz hbU hxl hUt hxs hxU hfew hbl hT
    go_enter Tryz.func5, Tryz.ntmps5
    go_wp2_with fail
    refine ((HL1.out) w HT.out).mono ?_
    rintro e w1 ⟨rfl, k1⟩
    have HT1 := hide ((HT.out).below k1)
    have K1 := hide k1
    clear k1
    go_wp2_with fail
    refine ((HLay.out) w1 HT1.out).mono ?_
    rintro e w2 ⟨rfl, k2⟩
    have HT2 := hide ((HT1.out).below k2)
    have K2 := hide ((K1.out).trans (k2.mono (K1.out).size))
    clear k2 K1 HT1 HT
    go_wp2_with fail
    refine ((HN1.out) w2 HT2.out).mono ?_
    rintro e w3 ⟨ta, rfl, H3⟩
    have HT3 := hide ((HT2.out).below (H3.out).2)
    have K3 := hide ((K2.out).trans ((H3.out).2.mono (K2.out).size))
    clear K2 HT2
    go_wp2_with fail
    refine ((HN2.out) w3 HT3.out).mono ?_
    rintro e w4 ⟨tc, rfl, H4⟩
    have HA := hide ((H3.out).1.on (H4.out).2)
    have K4 := hide ((K3.out).trans ((H4.out).2.mono (K3.out).size))
    clear K3 HT3 H3
    go_wp2_with fail
    refine ((HR1.out) ta w4 HA.out).mono ?_
    rintro e w5 ⟨nv, rfl, H5⟩
    obtain ⟨a1, a2, a3, a4, a5, a6, hq⟩ := (H5.out.choose_spec).1.shape
    replace hq : nv = .agg #[.int .i64 a1, .int .i64 a2, .string a3, .slice a4 a5 a6] := hq
    subst hq
    obtain ⟨E1, g1, g2, g3⟩ := H5.out
    have HG1 := hide g1
    have HE1 := hide g2
    have HC2 := hide ((H4.out).1.on g3)
    have K5 := hide ((K4.out).trans (g3.mono (K4.out).size))
    clear g1 g2 g3 H5 H4 HA K4
    go_wp2_with fail
    have kA : Below w5.heap.size w5 (w5.alloc (.cells #[.int .i64 a1, .int .i64 a2, .string a3, .slice a4 a5 a6] 38)) := (Below.refl _ w5).alloc (Nat.le_refl _) _
    have hnA := heap_alloc_new w5 (.cells #[.int .i64 a1, .int .i64 a2, .string a3, .slice a4 a5 a6] 38)
    have hsA : (w5.alloc (.cells #[.int .i64 a1, .int .i64 a2, .string a3, .slice a4 a5 a6] 38)).heap.size = w5.heap.size + 1 := by simp
    have HGA := hide ((HG1.out).kept (Kp.ofBelow kA (fun _ => False)) (fun _ h => h.elim))
    have KA := hide ((K5.out).trans (kA.mono (K5.out).size))
    have HCA := hide ((HC2.out).on kA)
    clear kA HG1 HC2 K5
    generalize hWA : w5.alloc (.cells #[.int .i64 a1, .int .i64 a2, .string a3, .slice a4 a5 a6] 38) = WA at *
    refine ((HR2.out) tc WA HCA.out).mono ?_
    rintro e w6 ⟨nv, rfl, H6⟩
    obtain ⟨b1, b2, b3, b4, b5, b6, hq⟩ := (H6.out.choose_spec).1.shape
    replace hq : nv = .agg #[.int .i64 b1, .int .i64 b2, .string b3, .slice b4 b5 b6] := hq
    subst hq
    obtain ⟨E2, g1, g2, g3⟩ := H6.out
    have hnA6 := (Kp.ofBelow g3 (fun _ => False)).heap hnA id
    have HGA6 := hide ((HGA.out).kept (Kp.ofBelow g3 (fun _ => False)) (fun _ h => h.elim))
    have HG2 := hide g1
    have HE2 := hide g2
    have hz6 := g3.size
    have K6 := hide ((KA.out).trans (g3.mono (KA.out).size))
    clear g1 g2 g3 H6 HGA KA HCA hnA
    have y0 := cell_of_row w6 _ 0 _ _ _ hnA6
    have y1 := cell_of_row w6 _ 1 _ _ _ hnA6
    have y2 := cell_of_row w6 _ 2 _ _ _ hnA6
    have y3 := cell_of_row w6 _ 3 _ _ _ hnA6
    simp only [List.getElem?_toArray, List.getElem?_cons_zero, List.getElem?_cons_succ] at y0 y1 y2 y3
    have hlt : w5.heap.size < w6.heap.size := by omega
    have kB : Below w6.heap.size w6 (w6.alloc (.cells #[.int .i64 b1, .int .i64 b2, .string b3, .slice b4 b5 b6] 38)) := (Below.refl _ w6).alloc (Nat.le_refl _) _
    have hnB := heap_alloc_new w6 (.cells #[.int .i64 b1, .int .i64 b2, .string b3, .slice b4 b5 b6] 38)
    have hsB : (w6.alloc (.cells #[.int .i64 b1, .int .i64 b2, .string b3, .slice b4 b5 b6] 38)).heap.size = w6.heap.size + 1 := by simp
    have HGAB := hide ((HGA6.out).kept (Kp.ofBelow kB (fun _ => False)) (fun _ h => h.elim))
    have HGB := hide ((HG2.out).kept (Kp.ofBelow kB (fun _ => False)) (fun _ h => h.elim))
    have KB := hide ((K6.out).trans (kB.mono (K6.out).size))
    have HNB := hide hnB
    have HSB := hide hsB
    clear kB hnB hsB hnA6 HGA6 HG2 K6
    go_wp2_with fail
    clear y0 y1 y2 y3
    generalize hWB : w6.alloc (.cells #[.int .i64 b1, .int .i64 b2, .string b3, .slice b4 b5 b6] 38) = WB at *
    refine ((HK1.out) WB E1 _ HGAB.out (fun q hq => by have := ((HE1.out) q hq).2; have := HSB.out; omega)).mono ?_
    rintro e w7 ⟨x1, rfl, H7⟩
    have hk7 := (H7.out).2
    have hnB7 := (Kp.ofBelow hk7 (fun _ => False)).heap HNB.out id
    have HGB7 := hide ((HGB.out).kept (Kp.ofBelow hk7 (fun _ => False)) (fun _ h => h.elim))
    have K7 := hide ((KB.out).trans (hk7.mono (KB.out).size))
    have hz7 := hk7.size
    have z0 := cell_of_row w7 _ 0 _ _ _ hnB7
    have z1 := cell_of_row w7 _ 1 _ _ _ hnB7
    have z2 := cell_of_row w7 _ 2 _ _ _ hnB7
    have z3 := cell_of_row w7 _ 3 _ _ _ hnB7
    simp only [List.getElem?_toArray, List.getElem?_cons_zero, List.getElem?_cons_succ] at z0 z1 z2 z3
    have HX := hide (H7.out).1
    clear H7 hk7 hnB7 HGB KB HNB
    go_wp2_with fail
    clear z0 z1 z2 z3
    refine ((HK2.out) w7 E2 _ HGB7.out (fun q hq => by have := ((HE2.out) q hq).2; have := HSB.out; omega)).mono ?_
    rintro e w8 ⟨x2, rfl, H8⟩
    have hk8 := (H8.out).2
    have HX8 := hide ((HX.out).below hk8)
    have HY8 : Hid (IsV w8 x2 ((X.knd (X.file (X.xt (bs s)))).map (fun n => .int .i64 n))) := by
      have := (H8.out).1
      rw [HKN.out] at this
      exact this
    have K8 := hide ((K7.out).trans (hk8.mono (K7.out).size))
    clear H8 hk8 HX K7 HGB7 HKN
    go_wp2_with fail
    refine (ints_same _ x1 x2 w8 HX8.out HY8.out HLN.out).mono ?_
    rintro e w9 ⟨rfl, k9⟩
    have HF : Hid (Below w.heap.size w w9) := (K8.out).trans (k9.mono (K8.out).size)
    clear k9 K8
    go_wp2_with fail
    go_ret
    exact ⟨rfl, HF.out⟩
  · have HLay := hide (fun W (h : Tabs W) => by
      have := hL s W h (by omega) (by omega) (fun e => absurd e hc)
      rw [if_neg hc] at this
      exact this)
    have HT := hide hT
    clear hL hc hfew hbl hT
    go_enter Tryz.func5, Tryz.ntmps5
    go_wp2_with fail
    refine ((HL1.out) w HT.out).mono ?_
    rintro e w1 ⟨rfl, k1⟩
    have HT1 := hide ((HT.out).below k1)
    have K1 := hide k1
    clear k1
    go_wp2_with fail
    refine ((HLay.out) w1 HT1.out).mono ?_
    rintro e w2 ⟨rfl, k2⟩
    have K2 := hide ((K1.out).trans (k2.mono (K1.out).size))
    clear k2 K1 HT1 HT
    go_wp2_with fail
    go_ret
    exact ⟨rfl, K2.out⟩
end Go.Proofs.YtohpfegpnbdfnaaGreatDoor
