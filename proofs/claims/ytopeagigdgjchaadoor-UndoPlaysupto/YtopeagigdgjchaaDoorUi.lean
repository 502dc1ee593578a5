/- The law UndoPlays, walked: any history. -/
import Derived.Test.YtopeagigdgjchaaDoorUh
import Derived.Deep.DeepCutAuto
namespace Go.Proofs.YtopeagigdgjchaaDoor
open Go.RowKit
open EM
set_option maxRecDepth 100000 in
set_option maxHeartbeats 8000000 in
theorem undoPlays_any (s : ByteArray) (u : Value) (Q : List Stp) (w : World) (hT : Rp.Tabs w) (hE : ErrT w) (hu : IsQ w u Q) (hz : s.size + Q.length + wt Q ≤ 1048576) :
    Calls Tryd.prog 3 #[.string s, u] w fun e w' => e = .returned (.bool true) ∧ Below w.heap.size w w' := by
  have hls := bs_len s
  have h4 : 4 ≤ w.heap.size := hT.2
  have HT := hide hT
  have HE := hide hE
  have HQ := hide hu
  obtain ⟨uo, uc, rfl, hq1, hq2, hq3⟩ := hu
  have HLS := hide hls
  clear hls hq3 hT hE
  go_enter Tryd.func3, Tryd.ntmps3
  go_wp2_with fail
  refine (newH_any s w HT.out (by omega)).mono ?_
  rintro e w1 ⟨h, v, r0, rfl, H1, hb1⟩
  have HH1 := hide H1
  clear H1
  go_wp2_with fail
  have hI := start_inv s Q w w1 h r0 v HH1.out hb1
  have HI := hide hI
  clear hI HH1
  obtain ⟨r, hr⟩ : ∃ r, w1.heap.size + 1 + 1 = r := ⟨_, rfl⟩
  have hq0 : (0 : Int) ≤ (Q.length : Int) := by omega
  rw [hr] at HI ⊢
  clear hr
  go_loopw [7] (fun i wr => ∃ k : Nat, k ≤ Q.length ∧ i = .int .i64 k ∧ Hid (Inv w s.size Q h r k wr)) (fun i _ => Q.length - (intOf i).toNat)
  case atStart => exact ⟨0, Nat.zero_le _, rfl, HI⟩
  case round =>
    obtain ⟨k, hk, rfl, HI2⟩ := hrel
    by_cases hlt : k < Q.length
    · obtain ⟨x, hx⟩ : ∃ x, Q[k]? = some x := ⟨_, List.getElem?_eq_getElem hlt⟩
      have HX := hide hx
      have hq := HQ.out
      obtain ⟨_, _, eu, _, _, hqx⟩ := hq
      cases eu
      obtain ⟨hxL, bq, oq, euo, hbq, q1, q2, q3⟩ := hqx k x hx
      cases euo
      have hI2 := HI2.out
      obtain ⟨v, S, vt, vf, Ts, Fs, a, T, hSl, hSt⟩ := hI2
      have HTW := hide T
      have d1 := kcb T.bl hbq q1
      have d2 := kcb T.bl hbq q2
      have d3 := kcb T.bl hbq q3
      have z1 : (0 : Int) ≤ (k : Int) := by omega
      have z2 : (k : Int) < (Q.length : Int) := by omega
      have hxv := hxL
      obtain ⟨xo, xc, hxv', _⟩ := hxv
      have HXL := hide hxL
      have HXV := hide hxv'
      have HST := hide hSt
      clear hx hqx q1 q2 q3 T hxL hxv' hSt HI
      rw [HXV.out] at d3
      have hT5 : Ts.length ≤ 1073741824 := by have := (HTW.out).R.len; omega
      have BA : Below wr.heap.size wr (wr.alloc (.cells #[.int .i64 x.op, .int .i64 x.n, .slice xo x.L.length xc] 32)) := (Below.refl _ wr).alloc (Nat.le_refl _) _
      have GA := hide ((HTW.out).below BA).G
      go_wp2_with fail
      refine (refNext_any _ w.heap.size r vt vf Ts Fs a (by exact GA.out) hT5).mono ?_
      rintro e w2 ⟨v9, rfl, ho9, hb2⟩
      have TW := ((HTW.out).below BA).below hb2
      have bX : w2.heap[wr.heap.size]? = some (.cells #[.int .i64 x.op, .int .i64 x.n, .slice xo x.L.length xc] 32 (0, 0)) := (hb2.block _ (by simp)).trans (heap_alloc_new wr _)
      have x0 : w2.cell? ⟨wr.heap.size, 0, none⟩ = some (.int .i64 x.op) := by simp [World.cell?, bX]
      have x1 : w2.cell? ⟨wr.heap.size, 1, none⟩ = some (.int .i64 x.n) := by simp [World.cell?, bX]
      have x2 : w2.cell? ⟨wr.heap.size, 2, none⟩ = some (.slice xo x.L.length xc) := by simp [World.cell?, bX]
      have hrX : wr.heap.size < w2.heap.size := heap_lt bX
      have HO9 := hide ho9
      have hFX := hide (show ∀ j, FpH h v S j → j < wr.heap.size from fun j hj => (HTW.out).H.fp_lt hj)
      have h9X := hide (show ∀ j, v9.ownBlock = some j → wr.heap.size < j from fun j hj => by have := (ho9.lt j hj).1; simp at this; omega)
      have HBX := hide bX
      have HTW2 := hide TW
      clear TW ho9 bX hb2 GA BA HTW d1 d2 d3
      generalize wr.heap.size = X at *
      go_upto_if 49 with fail
      go_cut [] (fun wx => Hid (Inv w s.size Q h r (k + 1) wx))
      case first =>
        have TW := HTW2.out
        have hbl := TW.bl
        have hzw := hbl.size
        obtain ⟨sa, hsa⟩ : ∃ sa, S[a]? = some sa := ⟨_, List.getElem?_eq_getElem TW.H.lt⟩
        have hmem := List.mem_of_getElem? hsa
        have hta := hide (TW.R.tx a sa hsa)
        have hsl := HST.out sa hmem
        have hwt := hide (wt_take HX.out)
        have hwl := wt_le Q (k + 1)
        have hwl0 := wt_le Q k
        have hnx : sa.nx.length ≤ 1073741824 := by
          rw [TW.R.nx a sa hsa]
          have := nxsT_len Fs a Fs.length
          have := TW.R.flen
          show (nxsT Fs a Fs.length).length ≤ _
          omega
        have hxl : x.L.length + totR x.L ≤ 1048576 := by have := hwt.out; omega
        have XL2 : IsL w2 (.slice xo x.L.length xc) x.L := by have := (HXL.out).below hbl; rwa [HXV.out] at this
        have HXL2 := hide XL2
        have HSA := hide hsa
        have T2 := hide (tabs_belowB HT.out hbl h4)
        have E2 := hide (errT_belowB HE.out hbl (by omega))
        clear TW XL2 hsa
        by_cases o0 : x.op = 0
        · as_aux_lemma =>
            have ob : (x.op == 0) = true := by simpa using o0
            clear o0
            by_cases f0 : flt sa.l.length x.L = 0
            · obtain ⟨Ls, eL, okL⟩ := flt_split sa.l.length x.L f0
              have tt := totR_raw Ls
              rw [← eL] at tt
              have ll : x.L.length = Ls.length := by rw [eL, List.length_map]
              have al := app_len sa.l 0 Ls okL
              have HEL := hide eL
              have HOK := hide okL
              have HD := hide (do_yes w2 w.heap.size h v S a sa (.slice xo x.L.length xc) Ls T2.out (HTW2.out).H HSA.out (by rw [← eL]; exact HXL2.out) okL (by omega) (by omega) (by rw [← eL]; exact totR_small (by omega)) (by omega) hnx hzw)
              have HLL := hide (And.intro tt ll)
              clear eL okL tt ll f0
              go_wp2_with fail
              refine (HD.out).mono ?_
              rintro e w3 ⟨rfl, v3, q3, u3', H3, K3, F3⟩
              have hf := (HTW2.out).first K3
              have bX3 : w3.heap[X]? = some (.cells #[.int .i64 x.op, .int .i64 x.n, .slice xo x.L.length xc] 32 (0, 0)) := K3.heap HBX.out (fun hfp => by
                obtain ⟨_, t, h1, h2, _⟩ := (HTW2.out).H.typed hfp
                rw [HBX.out] at h1
                cases h1
                rcases h2 with h2 | h2 | h2 <;> cases h2)
              have y2 : w3.cell? ⟨X, 2, none⟩ = some (.slice xo x.L.length xc) := by simp [World.cell?, bX3]
              have y0 : w3.cell? ⟨X, 0, none⟩ = some (.int .i64 x.op) := by simp [World.cell?, bX3]
              have XL3 : IsL w3 (.slice xo x.L.length xc) x.L := by have := (HXL.out).below hf.2; rwa [HXV.out] at this
              have HXL3 := hide XL3
              have H3' := hide (And.intro H3 (And.intro K3 F3))
              have HF := hide hf
              clear H3 K3 F3 hf bX3 XL3 HD x0 x1 x2
              go_wp2_with fail
              refine (spans_any _ x.L w3 HXL3.out (by omega)).mono ?_
              rintro e w4 ⟨v4, rfl, ho4, hb4⟩
              have L4 := IsL.ofOwns ho4 (by omega)
              have HL4 := hide L4
              have G4 := hide ((HF.out).1.below hb4)
              have B4 := (HF.out).2.trans (hb4.mono (HF.out).2.size)
              have HB4 := hide B4
              have z4 : w.heap.size ≤ w4.heap.size := B4.size
              clear ho4 L4 B4 y0 y2
              have HR := hide (refDo_yes w4 w.heap.size r vt vf Ts Fs a sa.l v4 Ls G4.out hta.out (by rw [← HEL.out]; exact HL4.out) HOK.out (by omega) (by have := (HLL.out).1; omega) hT5 z4)
              go_wp2_with fail
              refine (HR.out).mono ?_
              rintro e w5 ⟨rfl, vt5, vf5, G5, K5, F5⟩
              have H5' := hide (And.intro G5 (And.intro K5 F5))
              have B45 : Below w.heap.size w4 w5 := (G4.out).keepsB K5 z4
              have B5 : Below w.heap.size w w5 := (HB4.out).trans B45
              have HB5 := hide B5
              have HER := hide (error_same 0 w5 (errT_belowB HE.out B5 (by omega)))
              clear G5 K5 F5 B45 B5 HR
              go_wp2_with fail
              refine (show Calls Tryd.prog 10 #[.nilIface, .int .i64 0] w5 _ from HER.out).mono ?_
              rintro e w6 ⟨rfl, hb6⟩
              clear HER
              go_wp2_with fail
              go_meet
              case rel =>
                obtain ⟨H3, K3, F3⟩ := H3'.out
                obtain ⟨G5, K5, F5⟩ := H5'.out
                have hI := Inv.more (HTW2.out) hSl HST.out HX.out HSA.out HOK.out (HLL.out).1 H3 F3 hb4 G4.out HB4.out G5 K5 F5
                obtain ⟨v', S', vt', vf', Ts', Fs', a', T', g1, g2⟩ := hI
                exact ⟨v', S', vt', vf', Ts', Fs', a', T'.below hb6, g1, g2⟩
            · have HF0 := hide f0
              have HD := hide (do_no w2 w.heap.size h v S a sa (.slice xo x.L.length xc) x.L (HTW2.out).H HSA.out HXL2.out f0)
              clear f0
              go_wp2_with fail
              refine (HD.out).mono ?_
              rintro e w3 ⟨rfl, hb3⟩
              have T3 := hide ((HTW2.out).below hb3)
              have HXL3 := hide ((HXL2.out).below hb3)
              have y2 := kcb hb3 hrX x2
              clear HD x0 x1 x2
              go_wp2_with fail
              refine (spans_any _ x.L w3 HXL3.out (by omega)).mono ?_
              rintro e w4 ⟨v4, rfl, ho4, hb4⟩
              have HL4 := hide (IsL.ofOwns ho4 (by omega))
              have T4 := hide ((T3.out).below hb4)
              have HR := hide (refDo_no w4 w.heap.size r vt vf Ts Fs a sa.l v4 x.L (T4.out).G hta.out HL4.out HF0.out)
              clear ho4 y2
              go_wp2_with fail
              refine (HR.out).mono ?_
              rintro e w5 ⟨rfl, hb5⟩
              have T5 := hide ((T4.out).below hb5)
              have HER := hide (error_same (flt sa.l.length x.L) w5 (errT_belowB HE.out (T5.out).bl (by omega)))
              clear HR
              go_wp2_with fail
              rw [show (Value.iface 64 (.int .i64 (flt sa.l.length x.L))) = errV (flt sa.l.length x.L) from (if_neg HF0.out).symm]
              refine (HER.out).mono ?_
              rintro e w6 ⟨rfl, hb6⟩
              clear HER
              go_wp2_with fail
              go_meet
              case rel => exact Inv.same ((T5.out).below hb6) hSl HST.out HX.out
        · have ob : (x.op == 0) = false := by simpa using o0
          clear o0
          obtain ⟨gf, cf, rfl, hc1, hc2, hgf⟩ := (HTW2.out).G.formF
          obtain ⟨gt, ct, rfl, hc3, hc4, hgt⟩ := (HTW2.out).G.formT
          have zf : (a : Int) < (Fs.length : Int) := by have := (HTW2.out).G.lt; have := (HTW2.out).G.len; omega
          have za : (0 : Int) ≤ (a : Int) := by omega
          by_cases o1 : x.op = 1
          · have ob1 : (x.op == 1) = true := by simpa using o1
            clear o1
            as_aux_lemma =>
              by_cases ha0 : a = 0
              · have HD := hide (undo_zero w2 w.heap.size h v S (by have := (HTW2.out).H; rw [ha0] at this; exact this))
                obtain ⟨⟨c0, c1, c2⟩, _⟩ := (HTW2.out).G.froze
                have cx := (HTW2.out).G.atF (i := a) (x := -1) (by rw [ha0]; exact (HTW2.out).R.fz)
                clear ha0
                go_wp2_with fail
                refine (HD.out).mono ?_
                rintro e w3 ⟨rfl, rfl⟩
                clear HD
                go_wp2_with fail
                go_quiet (fail)
                go_wp2_with fail
                go_meet
                case rel => exact Inv.same ((HTW2.out).below (belowQ _)) hSl HST.out HX.out
              · have hfs := (HTW2.out).R.fs a sa HSA.out ha0
                have HD := hide (undo_pos w2 w.heap.size h v S a sa (HTW2.out).H HSA.out ha0)
                clear ha0
                go_wp2_with fail
                refine (HD.out).mono ?_
                rintro e w3 ⟨rfl, H3, K3⟩
                obtain ⟨G3, B3⟩ := (HTW2.out).first K3
                obtain ⟨⟨c0, c1, c2⟩, f0, f1, f2⟩ := G3.froze
                have cx := G3.atF hfs
                have zs' : (0 : Int) ≤ (sa.f : Int) := by omega
                have H3' := hide (And.intro H3 (And.intro K3 (And.intro G3 B3)))
                have HFS := hide hfs
                clear HD hfs H3 K3 G3 B3 x0 x1 x2
                go_wp2_with fail
                go_quiet (fail)
                go_wp2_with fail
                go_region
                all_goals
                  go_wp2_with fail
                  go_meet
                  case rel =>
                    obtain ⟨H3, K3, G3, B3⟩ := H3'.out
                    obtain ⟨wq, hwq⟩ : ∃ wq, w3.drewN (nq + 1) = wq := ⟨_, rfl⟩
                    have BQ : Below w3.heap.size w3 wq := by rw [← hwq]; exact belowQ _
                    rw [hwq]
                    have G3q := G3.below BQ
                    obtain ⟨m1, m2⟩ := G3q.moved (b := sa.f) (by have := (HTW2.out).R.len; have := (HTW2.out).R.lt sa hmem; omega)
                    exact Inv.same ((HTW2.out).second (H3.below BQ) (fun j hj => .inl hj) G3q (B3.trans (BQ.mono B3.size)) m1 m2 (fun j hj => .inl hj) (HTW2.out).R) hSl HST.out HX.out
          · have ob1 : (x.op == 1) = false := by simpa using o1
            clear o1
            by_cases o2 : x.op = 2
            · as_aux_lemma =>
                have ob2 : (x.op == 2) = true := by simpa using o2
                clear o2
                have hnxe := hide ((HTW2.out).R.nx a sa HSA.out)
                have h9 := HO9.out
                obtain ⟨ao9, c9, rfl, g91, g92, g93⟩ := owns_slice h9
                have G93 := hide g93
                clear h9 g93
                by_cases hin : 0 ≤ x.n ∧ x.n < ((nxs Fs a).length : Int)
                · obtain ⟨n, hn⟩ := Int.eq_ofNat_of_zero_le hin.1
                  have hnl : n < (nxs Fs a).length := by omega
                  obtain ⟨m, hm⟩ : ∃ m, (nxs Fs a)[n]? = some m := ⟨_, List.getElem?_eq_getElem hnl⟩
                  obtain ⟨g9, rfl, hg9⟩ := (G93.out) n hnl
                  have cm := ints_at HO9.out hm
                  have hmS : m < S.length := (HTW2.out).H.nl sa hmem m (by rw [hnxe.out]; exact List.mem_of_getElem? hm)
                  have HD := hide (redo_yes w2 w.heap.size h v S a sa n m (HTW2.out).H HSA.out (by rw [hnxe.out]; exact hm))
                  have HHM := hide hm
                  have HHN := hide hn
                  have zn1 : (0 : Int) ≤ (n : Int) := by omega
                  have zn2 : (n : Int) < ((nxs Fs a).length : Int) := by omega
                  rw [hn] at x1
                  clear hin hn hm
                  go_wp2_with fail
                  refine (HD.out).mono ?_
                  rintro e w3 ⟨rfl, H3, K3⟩
                  obtain ⟨G3, B3⟩ := (HTW2.out).first K3
                  obtain ⟨⟨e0, e1, e2⟩, f0, f1, f2⟩ := G3.froze
                  have bX3 : w3.heap[X]? = some (.cells #[.int .i64 x.op, .int .i64 x.n, .slice xo x.L.length xc] 32 (0, 0)) := K3.heap HBX.out (fun hfp => by
                    obtain ⟨_, t, h1, h2, _⟩ := (HTW2.out).H.typed hfp
                    rw [HBX.out] at h1
                    cases h1
                    rcases h2 with h2 | h2 | h2 <;> cases h2)
                  have y1 : w3.cell? ⟨X, 1, none⟩ = some (.int .i64 (n : Int)) := by simp [World.cell?, bX3, HHN.out]
                  have cm3 : w3.cell? ⟨g9, n, none⟩ = some (.int .i64 (m : Int)) := K3.cellv cm (fun hfp => by
                    have t1 := (hFX.out) _ hfp
                    have t2 := (h9X.out) g9 rfl
                    have t3 : g9 < X := t1
                    omega)
                  have H3' := hide (And.intro H3 (And.intro K3 (And.intro G3 B3)))
                  clear HD H3 K3 G3 B3 x0 x1 x2 bX3 cm
                  go_wp2_with fail
                  go_meet
                  case rel =>
                    obtain ⟨H3, K3, G3, B3⟩ := H3'.out
                    obtain ⟨m1, m2⟩ := G3.moved (b := m) (by have := (HTW2.out).R.len; omega)
                    exact Inv.same ((HTW2.out).second H3 (fun j hj => .inl hj) G3 B3 m1 m2 (fun j hj => .inl hj) (HTW2.out).R) hSl HST.out HX.out
                · have hin' : x.n < 0 ∨ ((nxs Fs a).length : Int) ≤ x.n := by omega
                  have HD := hide (redo_no w2 w.heap.size h v S a sa x.n (HTW2.out).H HSA.out (by rw [hnxe.out]; exact hin'))
                  clear hin
                  rcases hin' with hin' | hin'
                  · have zn1 : ¬ (0 : Int) ≤ x.n := by omega
                    go_wp2_with fail
                    refine (HD.out).mono ?_
                    rintro e w3 ⟨rfl, hb3⟩
                    have y1 := kcb hb3 hrX x1
                    clear HD x0 x1 x2
                    go_wp2_with fail
                    go_meet
                    case rel => exact Inv.same ((HTW2.out).below hb3) hSl HST.out HX.out
                  · have zn1 : (0 : Int) ≤ x.n := by omega
                    have zn2 : ¬ x.n < ((nxs Fs a).length : Int) := by omega
                    go_wp2_with fail
                    refine (HD.out).mono ?_
                    rintro e w3 ⟨rfl, hb3⟩
                    have y1 := kcb hb3 hrX x1
                    clear HD x0 x1 x2
                    go_wp2_with fail
                    go_meet
                    case rel => exact Inv.same ((HTW2.out).below hb3) hSl HST.out HX.out
            · as_aux_lemma =>
                have ob2 : (x.op == 2) = false := by simpa using o2
                clear o2
                have hlen := hide ((HTW2.out).R.len)
                by_cases hin : 0 ≤ x.n ∧ x.n < (S.length : Int)
                · obtain ⟨n, hn⟩ := Int.eq_ofNat_of_zero_le hin.1
                  have hnl : n < S.length := by omega
                  have HD := hide (go_yes w2 w.heap.size h v S a n (HTW2.out).H hnl)
                  have HHN := hide hn
                  have zn1 : (0 : Int) ≤ (n : Int) := by omega
                  have zn2 : (n : Int) < (Ts.length : Int) := by have := hlen.out; omega
                  have zb1 : decide ((0 : Int) ≤ (n : Int)) = true := by simp
                  rw [hn] at x1
                  clear hin hn
                  go_wp2_with fail
                  refine (HD.out).mono ?_
                  rintro e w3 ⟨rfl, H3, K3⟩
                  obtain ⟨G3, B3⟩ := (HTW2.out).first K3
                  obtain ⟨⟨e0, e1, e2⟩, f0, f1, f2⟩ := G3.froze
                  have bX3 : w3.heap[X]? = some (.cells #[.int .i64 x.op, .int .i64 x.n, .slice xo x.L.length xc] 32 (0, 0)) := K3.heap HBX.out (fun hfp => by
                    obtain ⟨_, t, h1, h2, _⟩ := (HTW2.out).H.typed hfp
                    rw [HBX.out] at h1
                    cases h1
                    rcases h2 with h2 | h2 | h2 <;> cases h2)
                  have y1 : w3.cell? ⟨X, 1, none⟩ = some (.int .i64 (n : Int)) := by simp [World.cell?, bX3, HHN.out]
                  have H3' := hide (And.intro H3 (And.intro K3 (And.intro G3 B3)))
                  clear HD H3 K3 G3 B3 x0 x1 x2 bX3
                  go_wp2_with fail
                  go_quiet (fail)
                  go_wp2_with fail
                  go_meet
                  case rel =>
                    obtain ⟨H3, K3, G3, B3⟩ := H3'.out
                    obtain ⟨wq, hwq⟩ : ∃ wq, w3.drewN nq = wq := ⟨_, rfl⟩
                    have BQ : Below w3.heap.size w3 wq := by rw [← hwq]; exact belowQ _
                    rw [hwq]
                    have G3q := G3.below BQ
                    obtain ⟨m1, m2⟩ := G3q.moved (b := n) (by have := hlen.out; omega)
                    exact Inv.same ((HTW2.out).second (H3.below BQ) (fun j hj => .inl hj) G3q (B3.trans (BQ.mono B3.size)) m1 m2 (fun j hj => .inl hj) (HTW2.out).R) hSl HST.out HX.out
                · have hin' : x.n < 0 ∨ (S.length : Int) ≤ x.n := by omega
                  have HD := hide (go_no w2 w.heap.size h v S a x.n (HTW2.out).H hin')
                  obtain ⟨⟨e0, e1, e2⟩, f0, f1, f2⟩ := (HTW2.out).G.froze
                  clear hin
                  rcases hin' with hin' | hin'
                  · have zn1 : ¬ (0 : Int) ≤ x.n := by omega
                    have zb1 : decide ((0 : Int) ≤ x.n) = false := by simpa using zn1
                    go_wp2_with fail
                    refine (HD.out).mono ?_
                    rintro e w3 ⟨rfl, rfl⟩
                    clear HD
                    go_wp2_with fail
                    go_quiet (fail)
                    go_wp2_with fail
                    go_meet
                    case rel => exact Inv.same ((HTW2.out).below (belowQ _)) hSl HST.out HX.out
                  · have zn1 : (0 : Int) ≤ x.n := by omega
                    have zb1 : decide ((0 : Int) ≤ x.n) = true := by simpa using zn1
                    have zn2 : ¬ x.n < (Ts.length : Int) := by have := hlen.out; omega
                    have zb2 : decide (x.n < (Ts.length : Int)) = false := by simpa using zn2
                    go_wp2_with fail
                    refine (HD.out).mono ?_
                    rintro e w3 ⟨rfl, rfl⟩
                    clear HD
                    go_wp2_with fail
                    go_quiet (fail)
                    go_wp2_with fail
                    go_meet
                    case rel => exact Inv.same ((HTW2.out).below (belowQ _)) hSl HST.out HX.out
      case rest =>
        as_aux_lemma =>
          have hI := hcut.out
          clear HTW2 HO9 hFX h9X HBX HST x0 x1 x2 HXL HXV HX
          obtain ⟨vn, Sn, vtn, vfn, Tn, Fn, an, TN, hSn, hStn⟩ := hI
          obtain ⟨gf, cf, rfl, hc1, hc2, hgf⟩ := TN.G.formF
          obtain ⟨gt, ct, rfl, hc3, hc4, hgt⟩ := TN.G.formT
          obtain ⟨sa, hsa⟩ : ∃ sa, Sn[an]? = some sa := ⟨_, List.getElem?_eq_getElem TN.H.lt⟩
          have hmem := List.mem_of_getElem? hsa
          have hta := TN.R.tx an sa hsa
          have hnxe := TN.R.nx an sa hsa
          have hlen := TN.R.len
          have hwl := wt_le Q (k + 1)
          have hsl := hStn sa hmem
          have hTl : Tn.length ≤ 1073741824 := by omega
          have hnl : sa.nx.length ≤ 1073741824 := by
            rw [hnxe]
            have := nxsT_len Fn an Fn.length
            have := TN.R.flen
            show (nxsT Fn an Fn.length).length ≤ _
            omega
          have HTN := hide TN
          have HSA := hide hsa
          have HTA := hide hta
          have HNX := hide hnxe
          have HLN := hide hlen
          have HSN := hide hStn
          clear TN hsa hta hnxe hlen hStn hcut
          go_wp2_with fail
          refine (textH_any wc w.heap.size h vn Sn an sa (HTN.out).H HSA.out (by omega)).mono ?_
          rintro e w3 ⟨rfl, hb3⟩
          have T3 := hide ((HTN.out).below hb3)
          go_wp2_with fail
          refine (atH_any w3 w.heap.size h vn Sn an (T3.out).H).mono ?_
          rintro e wq ⟨rfl, hw⟩
          rw [hw]
          clear hw wq
          go_wp2_with fail
          refine (lenH_any w3 w.heap.size h vn Sn an (T3.out).H).mono ?_
          rintro e wq ⟨rfl, hw⟩
          rw [hw]
          clear hw wq
          go_wp2_with fail
          refine (nextH_any w3 w.heap.size h vn Sn an sa (T3.out).H HSA.out hnl).mono ?_
          rintro e w4 ⟨v4, rfl, ho4, hb4⟩
          have T4 := hide ((T3.out).below hb4)
          have HO4 := hide ho4
          have hz34 := hb4.size
          clear ho4
          go_wp2_with fail
          refine (refNext_any w4 w.heap.size r _ _ Tn Fn an (T4.out).G hTl).mono ?_
          rintro e w5 ⟨v5, rfl, ho5, hb5⟩
          have T5 := hide ((T4.out).below hb5)
          rw [← HNX.out] at ho5
          have HO5 := hide ho5
          have HO45 := hide (ownsRow_below_own HO4.out hb5)
          have hz45 := hb5.size
          clear ho5
          go_wp2_with fail
          refine (sameInts_any w5 w3.heap.size w4.heap.size v4 v5 sa.nx HO45.out HO5.out hnl).mono ?_
          rintro e w6 ⟨rfl, hb6⟩
          have T6 := hide ((T5.out).below hb6)
          have HO6 := hide (ownsRow_below_own HO45.out hb6)
          obtain ⟨⟨c0, c1, c2⟩, _⟩ := (T6.out).G.froze
          have ct' := (T6.out).G.atT HTA.out
          have z1' : (0 : Int) ≤ (an : Int) := by omega
          have z2' : (an : Int) < (Tn.length : Int) := by have := (T6.out).G.lt; omega
          have hz56 := hb6.size
          have bn2 : ((an : Int) != (an : Int)) = false := by simp
          have bn3 : ((Sn.length : Int) != (Tn.length : Int)) = false := by rw [HLN.out]; simp
          obtain ⟨ao4, c4, rfl, g41, g42, g43⟩ := owns_slice HO6.out
          have G43 := hide g43
          clear g43
          go_wp2_with fail
          go_quiet (fail)
          go_wp2_with fail
          have HT7 := hide ((T6.out).below (belowQ nq))
          have HO7 := hide (ownsRow_below_own HO6.out (belowQ nq))
          clear c0 c1 c2 ct' bn2 bn3
          go_loopw [25] (fun i wr' => ∃ j : Nat, j ≤ sa.nx.length ∧ i = .int .i64 j ∧ Hid (Two w h r vn Sn (.slice (some ⟨gt, 0, none⟩) Tn.length ct) (.slice (some ⟨gf, 0, none⟩) Fn.length cf) Tn Fn an wr') ∧ Hid (∃ xs, wr'.ownsRow w3.heap.size 3 1 (.slice ao4 sa.nx.length c4) sa.nx.length xs)) (fun i _ => sa.nx.length - (intOf i).toNat)
          case atStart => exact ⟨0, Nat.zero_le _, rfl, HT7, ⟨_, HO7.out⟩⟩
          case round =>
            obtain ⟨j, hj, rfl, HT8, HO8⟩ := hrel
            by_cases hjl : j < sa.nx.length
            · obtain ⟨g4, rfl, hg4⟩ := (G43.out) j hjl
              obtain ⟨xs, ho8⟩ := HO8.out
              obtain ⟨xj, hxj⟩ : ∃ xj, xs[j]? = some xj := ⟨_, List.getElem?_eq_getElem (by have := ho8.1; omega)⟩
              have cj := ho8.cells (g := g4) rfl j xj hxj
              rw [add0] at cj
              have fj := ho8.frozenAt j
              have zj1 : (0 : Int) ≤ (j : Int) := by omega
              have zj2 : (j : Int) < (sa.nx.length : Int) := by omega
              have HS8 := hide (ho8.stored j (.int .i64 (-7))).1
              obtain ⟨cs, hcs, hbs⟩ := owns_block ho8 (k := g4) rfl
              have HT9 := hide ((T3.out).store HT8.out (g := g4) (j := j) (u := .int .i64 (-7)) hbs hcs)
              clear ho8 hxj hcs
              go_wp2_with fail
              refine ⟨⟨j + 1, by omega, by go_num, HT9, ⟨_, HS8.out⟩⟩, by simp [intOf]; omega⟩
            · go_wp2_with fail
              refine ⟨⟨k + 1, by omega, by go_num, ⟨vn, Sn, _, _, Tn, Fn, an, HT8.out, hSn, HSN.out⟩⟩, by simp [intOf]; omega⟩
    · go_wp2_with fail
      go_ret
      have hI2 := HI2.out
      obtain ⟨_, _, _, _, _, _, _, T, _⟩ := hI2
      exact ⟨rfl, T.bl⟩
end Go.Proofs.YtopeagigdgjchaaDoor
