/- Two hands: the walk. -/
import Derived.Test.YtobdfddpiobhhaaDa
import Derived.Test.YtobdfddpiobhhaaPc
namespace Go.Proofs.Ytobdfddpiobhhaa
open Go.RowKit
open EM
/-- What holds at each round. -/
structure MI (B : Nat) (w wr : World) (c d b b' : Nat) (A D : List St) (U V : Wr) (x s t T : By) (K : Nat) : Prop where
  m : ∃ FA FD FU FV, M4 B w wr c d b b' A D U V FA FD FU FV
  sm : ∃ N, Sm U N ∧ Sm V N ∧ N + csum A + csum D ≤ K
  iv : ∃ p R, MInv x s t A D p U V R T
set_option maxRecDepth 100000 in
set_option maxHeartbeats 4000000 in
theorem merged_any (B : Nat) (w : World) (c d : Nat) (A D : List St) (FA FD : Nat → Prop) (x s t T : By) (hA : IsC B w c A FA) (hD : IsC B w d D FD) (hAD : ∀ k, FA k → ¬ FD k) (hB : B ≤ w.heap.size) (K : Nat) (hK : csum A + csum D ≤ K) (hK2 : K ≤ 1073741824) (hv : MInv x s t A D 0 Wr.new Wr.new [] T) :
    Calls Try.prog 13 #[.pointer (some ⟨c, 0, none⟩), .pointer (some ⟨d, 0, none⟩)] w fun e w' => ∃ v1 v2 U V p R, e = .returned (.tuple #[v1, v2]) ∧ w'.ownsRow B 32 3 v1 U.spans.length ((U.spans.map raw).flatMap Rw.vals) ∧ w'.ownsRow B 32 3 v2 V.spans.length ((V.spans.map raw).flatMap Rw.vals) ∧ MInv x s t [] [] p U V R T ∧ Sm U K ∧ Sm V K ∧ Below B w w' := by
  have k0 : Kp (fun _ => False) w (w.alloc (.cells #[.slice none 0 0, .int .i64 0, .bool false, .int .i64 0, .pointer none, .slice none 0 0] 56)) := (Kp.refl _ _).alloc _
  have k1 : Kp (fun _ => False) (w.alloc (.cells #[.slice none 0 0, .int .i64 0, .bool false, .int .i64 0, .pointer none, .slice none 0 0] 56)) ((w.alloc (.cells #[.slice none 0 0, .int .i64 0, .bool false, .int .i64 0, .pointer none, .slice none 0 0] 56)).alloc (.cells #[.slice none 0 0, .int .i64 0, .bool false, .int .i64 0, .pointer none, .slice none 0 0] 56)) := (Kp.refl _ _).alloc _
  have hV2 := IsW.newAt B (w.alloc (.cells #[.slice none 0 0, .int .i64 0, .bool false, .int .i64 0, .pointer none, .slice none 0 0] 56)) (by simp; omega)
  rw [World.size_alloc] at hV2
  have HI := hide (show MI B w ((w.alloc (.cells #[.slice none 0 0, .int .i64 0, .bool false, .int .i64 0, .pointer none, .slice none 0 0] 56)).alloc (.cells #[.slice none 0 0, .int .i64 0, .bool false, .int .i64 0, .pointer none, .slice none 0 0] 56)) c d w.heap.size (w.heap.size + 1) A D Wr.new Wr.new x s t T K from
    ⟨⟨FA, FD, _, _, ⟨(hA.keep k0 (fun _ _ => id) (fun _ h => h.elim)).keep k1 (fun _ _ => id) (fun _ h => h.elim), (hD.keep k0 (fun _ _ => id) (fun _ h => h.elim)).keep k1 (fun _ _ => id) (fun _ h => h.elim), (IsW.newAt B w hB).keep k1 (fun _ _ => id), hAD, fun k hk e => by have := (hA.lt k hk).2; omega, fun k hk e => by have := (hD.lt k hk).2; omega, ((Below.refl _ w).alloc hB _).alloc (by simp; omega) _⟩, hV2, fun k hk e => by have := (hA.lt k hk).2; omega, fun k hk e => by have := (hD.lt k hk).2; omega, fun k hk e => by omega⟩,
      ⟨0, ⟨⟨by simp [Wr.new], by simp [Wr.new, Wr.txt], by simp [Wr.new]⟩, by simp [Wr.new, Wr.txt, tot]⟩, ⟨⟨by simp [Wr.new], by simp [Wr.new, Wr.txt], by simp [Wr.new]⟩, by simp [Wr.new, Wr.txt, tot]⟩, by omega⟩, ⟨_, _, hv⟩⟩)
  clear k0 k1 hV2 hA hD hv hAD hK FA FD
  obtain ⟨b', hb'⟩ : ∃ y, y = w.heap.size + 1 := ⟨_, rfl⟩
  rw [← hb'] at HI
  have HB' := hide hb'
  go_enter Try.func13, Try.ntmps13
  go_wp2_with fail
  rw [← HB'.out]
  clear hb'
  go_loopg [8, 9, 10] (csum A + csum D) (fun g p8 p9 p10 wr => ∃ (A D : List St) (U V : Wr), csum A + csum D = g ∧ Hid (MI B w wr c d w.heap.size b' A D U V x s t T K))
  case atStart => exact ⟨A, D, _, _, rfl, HI⟩
  case round =>
    clear HI A D
    obtain ⟨A, D, U, V, hg, HI⟩ := hrel
    obtain ⟨FA, FD, FU, FV, hM⟩ := (HI.out).m
    have HM := hide hM
    have hBr := hM.base
    obtain ⟨N, hsu, hsv, hN⟩ := (HI.out).sm
    have HSU := hide hsu
    have HSV := hide hsv
    obtain ⟨p, R, hiv⟩ := (HI.out).iv
    have HIV := hide hiv
    obtain ⟨a1, a2, al⟩ := hM.m.a.nows
    obtain ⟨d1, d2, dl⟩ := hM.m.d.nows
    clear hM hsu hsv a2 d2 hiv
    cases A with
    | nil =>
      replace a1 : wr.cell? ⟨c, 1, none⟩ = some (.int .i64 0) := a1
      cases D with
      | nil =>
        go_wp2_with fail
        refine (ended_any B wr c [] FA (HM.out).m.a).mono ?_
        rintro e w' ⟨rfl, hw'⟩
        rw [hw']
        clear hw' w'
        go_wp2_with fail
        refine (ended_any B _ d [] FD (HM.out).m.d).mono ?_
        rintro e w' ⟨rfl, hw'⟩
        rw [hw']
        clear hw' w'
        go_wp2_with fail
        refine (edit_at B w.heap.size wr U FU (HM.out).m.w_ hBr (Nat.le_trans (HSU.out).1.1 (by omega)) (Nat.le_trans (Nat.le_trans (Nat.le_add_right _ _) (HSU.out).1.2.2) (by omega))).mono ?_
        rintro e w4 ⟨v1, rfl, hown, hK, hat⟩
        have HAT := hide hat
        clear hat
        have z4 := hK.size
        have HV4 := hide ((HM.out).v.keep hK (fun k hk hh => (HM.out).uv k hh hk))
        have HQ := hide (And.intro hown hK)
        clear hown hK
        go_wp2_with fail
        refine (edit_any B b' w4 V FV HV4.out (by omega) (Nat.le_trans (HSV.out).1.1 (by omega)) (Nat.le_trans (Nat.le_trans (Nat.le_add_right _ _) (HSV.out).1.2.2) (by omega))).mono ?_
        rintro e w5 ⟨v2, rfl, hown2, hK2'⟩
        have HQ2 := hide (And.intro hown2 hK2')
        clear hown2 hK2'
        go_wp2_with fail
        go_ret2
        refine ⟨_, _, U, V, _, _, rfl, (HQ2.out).2.owns (HQ.out).1 (fun k hk hh => by rcases HAT.out k hk with h | h; exact (HM.out).uv k h hh; have := ((HM.out).v.lt k hh).2; omega), (HQ2.out).1, HIV.out, (HSU.out).mono (by omega), (HSV.out).mono (by omega), ((HM.out).m.be.trans ((HQ.out).2.below hBr (fun i hi => ((HM.out).m.w_.lt i hi).1))).trans ((HQ2.out).2.below (by omega) (fun i hi => ((HM.out).v.lt i hi).1))⟩
      | cons t1 D =>
        by_cases ht : t1.k = 1
        · obtain ⟨i, rfl⟩ : ∃ y, t1 = St.put y := by cases t1 with | put y => exact ⟨y, rfl⟩ | stay n => simp [St.k] at ht | drop n => simp [St.k] at ht
          replace d1 : wr.cell? ⟨d, 1, none⟩ = some (.int .i64 1) := d1
          clear ht
          go_wp2_with fail
          refine (ended_any B wr c [] FA (HM.out).m.a).mono ?_
          rintro e w' ⟨rfl, hw'⟩
          rw [hw']
          clear hw' w'
          go_wp2_with fail
          refine (ended_any B _ d (St.put i :: D) FD (HM.out).m.d).mono ?_
          rintro e w' ⟨rfl, hw'⟩
          rw [hw']
          clear hw' w'
          have hp := (HIV.out).pb (.put i) (by simp)
          have hcs : csum (St.put i :: D) = (St.put i).c + csum D := by simp [csum]
          go_wp2_with fail
          refine (whole_any B wr d (.put i) D FD (HM.out).m.d hBr (by omega)).mono ?_
          rintro e w1 ⟨rfl, h1, hk1⟩
          have HM1 := hide (((HM.out).onD h1 hk1).swap)
          clear h1 hk1
          go_wp2_with fail
          refine (putIn_any B w w1 c d b' w.heap.size ([] : List St) D V U FA _ FV FU (.put i) N HM1.out HSV.out HSU.out (by omega)).mono ?_
          rintro e w2 ⟨rfl, FV2, FU2, h2⟩
          have HI2 := hide (show MI B w w2 c d w.heap.size b' ([] : List St) D _ _ x s t T K from ⟨⟨_, _, _, _, h2.swap⟩, ⟨N + (St.put i).c, (HSU.out).add _ _ hp (Nat.le_refl _), (HSV.out).add _ _ hp (Nat.le_refl _), by omega⟩, ⟨_, _, (HIV.out).putB (by simp)⟩⟩)
          clear h2
          go_wp2_with fail
          go_roundg (csum ([] : List St) + csum D)
          case measure => omega
          case rel => exact ⟨_, D, _, _, rfl, HI2⟩
        · replace d1 : wr.cell? ⟨d, 1, none⟩ = some (.int .i64 t1.k) := d1
          have kd1 : ((t1.k : Int) == 1) = false := by simp only [beq_eq_false_iff_ne, ne_eq]; omega
          have kd2 : ¬ (t1.k : Int) = 1 := by omega
          go_wp2_with fail
          refine (ended_any B wr c [] FA (HM.out).m.a).mono ?_
          rintro e w' ⟨rfl, hw'⟩
          rw [hw']
          clear hw' w'
          go_wp2_with fail
          refine (ended_any B _ d (t1 :: D) FD (HM.out).m.d).mono ?_
          rintro e w' ⟨rfl, hw'⟩
          rw [hw']
          clear hw' w'
          go_wp2_with fail
          have hf := comm_fits ([] : List St) (t1 :: D)
          have hb := csum_both (HIV.out).pa (HIV.out).pb (by simp)
          refine (common_any B wr c d ([] : List St) (t1 :: D) FA FD (HM.out).m.a (HM.out).m.d).mono ?_
          rintro e w1 ⟨rfl, h1⟩
          have HM1 := hide ((HM.out).keep h1)
          clear h1
          have HV := hide ((HIV.out).both (by simp) (by intro u hu; simp at hu; subst hu; exact ht rfl) (by simp))
          have hp1 := hide (piece_c ([] : List St) _ hf.1)
          have hp2 := hide (piece_c (t1 :: D) _ hf.2)
          have HFI := hide hf
          clear hf
          generalize hnn : comm ([] : List St) (t1 :: D) = n at hb hp1 hp2 HFI HV ⊢
          clear hnn
          go_wp2_with fail
          refine (pass_any B w1 c n ([] : List St) FA (HM1.out).m.a (HM1.out).base (HFI.out).1 (fun s hs => by have := csum_mem hs; omega)).mono ?_
          rintro e w2 ⟨rfl, h2, hk2⟩
          have HM2 := hide ((HM1.out).onA h2 hk2)
          clear h2 hk2
          generalize piece ([] : List St) n = pa at hp1 HV ⊢
          generalize left ([] : List St) n = la at hb HV HM2
          go_wp2_with fail
          refine (pass_any B w2 d n (t1 :: D) FD (HM2.out).m.d (HM2.out).base (HFI.out).2 (fun s hs => by have := csum_mem hs; omega)).mono ?_
          rintro e w3 ⟨rfl, h3, hk3⟩
          have HM3 := hide ((HM2.out).onD h3 hk3)
          clear h3 hk3
          generalize piece (t1 :: D) n = pd at hp2 HV ⊢
          generalize left (t1 :: D) n = ld at hb HV HM3
          have k4 : Below w3.heap.size w3 ((w3.alloc (.cells #[.int .i64 pa.k, .int .i64 pa.c, .string (ba pa.s)] 43)).alloc (.cells #[.int .i64 pd.k, .int .i64 pd.c, .string (ba pd.s)] 43)) := ((Below.refl _ _).alloc (Nat.le_refl _) _).alloc (by simp) _
          have HM4 := hide ((HM3.out).keep k4)
          have S4 : SB ((w3.alloc (.cells #[.int .i64 pa.k, .int .i64 pa.c, .string (ba pa.s)] 43)).alloc (.cells #[.int .i64 pd.k, .int .i64 pd.c, .string (ba pd.s)] 43)) w3.heap.size pa := ((Kp.refl (fun _ => False) _).alloc _).heap (heap_alloc_new w3 _) id
          have T4 : SB ((w3.alloc (.cells #[.int .i64 pa.k, .int .i64 pa.c, .string (ba pa.s)] 43)).alloc (.cells #[.int .i64 pd.k, .int .i64 pd.c, .string (ba pd.s)] 43)) (w3.heap.size + 1) pd := by have := heap_alloc_new (w3.alloc (.cells #[.int .i64 pa.k, .int .i64 pa.c, .string (ba pa.s)] 43)) (.cells #[.int .i64 pd.k, .int .i64 pd.c, .string (ba pd.s)] 43); rw [World.size_alloc] at this; exact this
          have hFl := hide (show (∀ k, FU k → k < w3.heap.size) ∧ (∀ k, FV k → k < w3.heap.size) from ⟨fun k hk => ((HM3.out).m.w_.lt k hk).2, fun k hk => ((HM3.out).v.lt k hk).2⟩)
          have HS4 := hide S4
          have HT4 := hide T4
          clear k4 S4 T4
          unfold stV
          go_upto_region 5 with fail
          generalize (w3.alloc (.cells #[.int .i64 pa.k, .int .i64 pa.c, .string (ba pa.s)] 43)).alloc (.cells #[.int .i64 pd.k, .int .i64 pd.c, .string (ba pd.s)] 43) = w4 at HM4 HS4 HT4 ⊢
          obtain ⟨s0, s1, s2, sl⟩ := (HS4.out).cells
          obtain ⟨t0, t1, t2, tl⟩ := (HT4.out).cells
          by_cases hq : pd.k = 0
          · have hq1 : ((pd.k : Int) == 0) = true := by simp only [beq_iff_eq]; omega
            have hq2 : (pd.k : Int) = 0 := by omega
            go_wp2_with fail
            refine (add_any B w.heap.size w4 U _ pa N N (HM4.out).m.w_ (HM4.out).base (HSU.out).1 (by have := hp1.out; omega) (by omega)).mono ?_
            rintro e w5 ⟨rfl, h5, hk5⟩
            have HM5 := hide ((HM4.out).onU h5 hk5)
            have HS5 := hide (show SB w5 w3.heap.size pa from hk5.heap HS4.out (fun hf => by have := (hFl.out).1 _ hf; omega))
            have HT5 := hide (show SB w5 (w3.heap.size + 1) pd from hk5.heap HT4.out (fun hf => by have := (hFl.out).1 _ hf; omega))
            clear h5 hk5 s0 s1 s2 t0 t1 t2
            obtain ⟨s0, s1, s2, sl5⟩ := (HS5.out).cells
            obtain ⟨t0, t1, t2, tl5⟩ := (HT5.out).cells
            by_cases hp : pa.k = 0
            · have hp1' : ((pa.k : Int) == 0) = true := by simp only [beq_iff_eq]; omega
              have hp2' : (pa.k : Int) = 0 := by omega
              go_wp2_with fail
              have hadd := add_any B b' w5 V _ pd N N (HM5.out).v (HM5.out).base (HSV.out).1 (by have := hp2.out; omega) (by omega)
              rw [show stV pd = .agg #[.int .i64 0, .int .i64 pd.c, .string (ba pd.s)] by unfold stV; rw [hq2]] at hadd
              refine hadd.mono ?_
              clear hadd
              rintro e w6 ⟨rfl, h6, hk6⟩
              have HM6 := hide ((((HM5.out).swap).onU h6 hk6).swap)
              clear h6 hk6
              obtain ⟨R', hR⟩ := HV.out
              have HI2 := hide (show MI B w w6 c d w.heap.size b' la ld (U.add pa) (V.add pd) x s t T K from ⟨⟨_, _, _, _, HM6.out⟩, ⟨N + n, (HSU.out).add _ _ hb.2 (by have := hp1.out; omega), (HSV.out).add _ _ hb.2 (by have := hp2.out; omega), by omega⟩, ⟨_, _, by simpa [Wr.addIf, hp, hq] using hR⟩⟩)
              clear hR
              go_wp2_with fail
              go_roundg (csum la + csum ld)
              case measure => omega
              case rel => exact ⟨la, ld, _, _, rfl, HI2⟩
            · have hp1' : ((pa.k : Int) == 0) = false := by simp only [beq_eq_false_iff_ne, ne_eq]; omega
              have hp2' : ¬ (pa.k : Int) = 0 := by omega
              obtain ⟨R', hR⟩ := HV.out
              have HI2 := hide (show MI B w w5 c d w.heap.size b' la ld (U.add pa) V x s t T K from ⟨⟨_, _, _, _, HM5.out⟩, ⟨N + n, (HSU.out).add _ _ hb.2 (by have := hp1.out; omega), (HSV.out).mono (by omega), by omega⟩, ⟨_, _, by simpa [Wr.addIf, hp, hq] using hR⟩⟩)
              clear hR
              go_wp2_with fail
              go_roundg (csum la + csum ld)
              case measure => omega
              case rel => exact ⟨la, ld, _, _, rfl, HI2⟩
          · have hq1 : ((pd.k : Int) == 0) = false := by simp only [beq_eq_false_iff_ne, ne_eq]; omega
            have hq2 : ¬ (pd.k : Int) = 0 := by omega
            by_cases hp : pa.k = 0
            · have hp1' : ((pa.k : Int) == 0) = true := by simp only [beq_iff_eq]; omega
              have hp2' : (pa.k : Int) = 0 := by omega
              go_wp2_with fail
              refine (add_any B b' w4 V _ pd N N (HM4.out).v (HM4.out).base (HSV.out).1 (by have := hp2.out; omega) (by omega)).mono ?_
              rintro e w6 ⟨rfl, h6, hk6⟩
              have HM6 := hide ((((HM4.out).swap).onU h6 hk6).swap)
              clear h6 hk6
              obtain ⟨R', hR⟩ := HV.out
              have HI2 := hide (show MI B w w6 c d w.heap.size b' la ld U (V.add pd) x s t T K from ⟨⟨_, _, _, _, HM6.out⟩, ⟨N + n, (HSU.out).mono (by omega), (HSV.out).add _ _ hb.2 (by have := hp2.out; omega), by omega⟩, ⟨_, _, by simpa [Wr.addIf, hp, hq] using hR⟩⟩)
              clear hR
              go_wp2_with fail
              go_roundg (csum la + csum ld)
              case measure => omega
              case rel => exact ⟨la, ld, _, _, rfl, HI2⟩
            · have hp1' : ((pa.k : Int) == 0) = false := by simp only [beq_eq_false_iff_ne, ne_eq]; omega
              have hp2' : ¬ (pa.k : Int) = 0 := by omega
              obtain ⟨R', hR⟩ := HV.out
              have HI2 := hide (show MI B w w4 c d w.heap.size b' la ld U V x s t T K from ⟨⟨_, _, _, _, HM4.out⟩, ⟨N + n, (HSU.out).mono (by omega), (HSV.out).mono (by omega), by omega⟩, ⟨_, _, by simpa [Wr.addIf, hp, hq] using hR⟩⟩)
              clear hR
              go_wp2_with fail
              go_roundg (csum la + csum ld)
              case measure => omega
              case rel => exact ⟨la, ld, _, _, rfl, HI2⟩
    | cons t0 A =>
      by_cases hs0 : t0.k = 1
      · obtain ⟨i, rfl⟩ : ∃ y, t0 = St.put y := by cases t0 with | put y => exact ⟨y, rfl⟩ | stay n => simp [St.k] at hs0 | drop n => simp [St.k] at hs0
        replace a1 : wr.cell? ⟨c, 1, none⟩ = some (.int .i64 1) := a1
        clear hs0
        go_wp2_with fail
        refine (ended_any B wr c (St.put i :: A) FA (HM.out).m.a).mono ?_
        rintro e w' ⟨rfl, hw'⟩
        rw [hw']
        clear hw' w'
        have hp := (HIV.out).pa (.put i) (by simp)
        have hcs : csum (St.put i :: A) = (St.put i).c + csum A := by simp [csum]
        go_wp2_with fail
        refine (whole_any B wr c (.put i) A FA (HM.out).m.a hBr (by omega)).mono ?_
        rintro e w1 ⟨rfl, h1, hk1⟩
        have HM1 := hide ((HM.out).onA h1 hk1)
        clear h1 hk1
        go_wp2_with fail
        refine (putIn_any B w w1 c d w.heap.size b' A D U V _ FD FU FV (.put i) N HM1.out HSU.out HSV.out (by omega)).mono ?_
        rintro e w2 ⟨rfl, FU2, FV2, h2⟩
        have HI2 := hide (show MI B w w2 c d w.heap.size b' A D _ _ x s t T K from ⟨⟨_, _, _, _, h2⟩, ⟨N + (St.put i).c, (HSU.out).add _ _ hp (Nat.le_refl _), (HSV.out).add _ _ hp (Nat.le_refl _), by omega⟩, ⟨_, _, (HIV.out).putA⟩⟩)
        clear h2
        go_wp2_with fail
        go_roundg (csum A + csum D)
        case measure => omega
        case rel => exact ⟨A, _, _, _, rfl, HI2⟩
      · replace a1 : wr.cell? ⟨c, 1, none⟩ = some (.int .i64 t0.k) := a1
        have ka1 : ((t0.k : Int) == 1) = false := by simp only [beq_eq_false_iff_ne, ne_eq]; omega
        have ka2 : ¬ (t0.k : Int) = 1 := by omega
        by_cases hk : ∃ u D', D = St.put u :: D'
        · obtain ⟨i, D, rfl⟩ := hk
          replace d1 : wr.cell? ⟨d, 1, none⟩ = some (.int .i64 1) := d1
          go_wp2_with fail
          refine (ended_any B wr c (t0 :: A) FA (HM.out).m.a).mono ?_
          rintro e w' ⟨rfl, hw'⟩
          rw [hw']
          clear hw' w'
          have hp := (HIV.out).pb (.put i) (by simp)
          have hcs : csum (St.put i :: D) = (St.put i).c + csum D := by simp [csum]
          go_wp2_with fail
          refine (whole_any B wr d (.put i) D FD (HM.out).m.d hBr (by omega)).mono ?_
          rintro e w1 ⟨rfl, h1, hk1⟩
          have HM1 := hide (((HM.out).onD h1 hk1).swap)
          clear h1 hk1
          go_wp2_with fail
          refine (putIn_any B w w1 c d b' w.heap.size (t0 :: A) D V U FA _ FV FU (.put i) N HM1.out HSV.out HSU.out (by omega)).mono ?_
          rintro e w2 ⟨rfl, FV2, FU2, h2⟩
          have HI2 := hide (show MI B w w2 c d w.heap.size b' (t0 :: A) D _ _ x s t T K from ⟨⟨_, _, _, _, h2.swap⟩, ⟨N + (St.put i).c, (HSU.out).add _ _ hp (Nat.le_refl _), (HSV.out).add _ _ hp (Nat.le_refl _), by omega⟩, ⟨_, _, (HIV.out).putB (by intro u hu; simp at hu; subst hu; exact hs0 rfl)⟩⟩)
          clear h2
          go_wp2_with fail
          go_roundg (csum (t0 :: A) + csum D)
          case measure => omega
          case rel => exact ⟨_, D, _, _, rfl, HI2⟩
        · have hk1 : ¬ (hdS D).k = 1 := by
            intro h; cases D with
            | nil => simp [hdS, St.k] at h
            | cons t D => cases t with
              | put u => exact hk ⟨u, D, rfl⟩
              | stay n => simp [hdS, St.k] at h
              | drop n => simp [hdS, St.k] at h
          have kd1 : (((hdS D).k : Int) == 1) = false := by simp only [beq_eq_false_iff_ne, ne_eq]; omega
          have kd2 : ¬ ((hdS D).k : Int) = 1 := by omega
          have HKD := hide hk
          clear hk
          go_wp2_with fail
          refine (ended_any B wr c (t0 :: A) FA (HM.out).m.a).mono ?_
          rintro e w' ⟨rfl, hw'⟩
          rw [hw']
          clear hw' w'
          go_wp2_with fail
          have hf := comm_fits (t0 :: A) D
          have hb := csum_both (HIV.out).pa (HIV.out).pb (by simp)
          refine (common_any B wr c d (t0 :: A) D FA FD (HM.out).m.a (HM.out).m.d).mono ?_
          rintro e w1 ⟨rfl, h1⟩
          have HM1 := hide ((HM.out).keep h1)
          clear h1
          have HV := hide ((HIV.out).both (by intro u hu; simp at hu; subst hu; exact hs0 rfl) (by intro u hu; cases D with | nil => simp at hu | cons t D => simp at hu; exact HKD.out ⟨u, D, by rw [hu]⟩) (by simp))
          have hp1 := hide (piece_c (t0 :: A) _ hf.1)
          have hp2 := hide (piece_c D _ hf.2)
          have HFI := hide hf
          clear hf
          generalize hnn : comm (t0 :: A) D = n at hb hp1 hp2 HFI HV ⊢
          clear hnn
          go_wp2_with fail
          refine (pass_any B w1 c n (t0 :: A) FA (HM1.out).m.a (HM1.out).base (HFI.out).1 (fun s hs => by have := csum_mem hs; omega)).mono ?_
          rintro e w2 ⟨rfl, h2, hk2⟩
          have HM2 := hide ((HM1.out).onA h2 hk2)
          clear h2 hk2
          generalize piece (t0 :: A) n = pa at hp1 HV ⊢
          generalize left (t0 :: A) n = la at hb HV HM2
          go_wp2_with fail
          refine (pass_any B w2 d n D FD (HM2.out).m.d (HM2.out).base (HFI.out).2 (fun s hs => by have := csum_mem hs; omega)).mono ?_
          rintro e w3 ⟨rfl, h3, hk3⟩
          have HM3 := hide ((HM2.out).onD h3 hk3)
          clear h3 hk3
          generalize piece D n = pd at hp2 HV ⊢
          generalize left D n = ld at hb HV HM3
          have k4 : Below w3.heap.size w3 ((w3.alloc (.cells #[.int .i64 pa.k, .int .i64 pa.c, .string (ba pa.s)] 43)).alloc (.cells #[.int .i64 pd.k, .int .i64 pd.c, .string (ba pd.s)] 43)) := ((Below.refl _ _).alloc (Nat.le_refl _) _).alloc (by simp) _
          have HM4 := hide ((HM3.out).keep k4)
          have S4 : SB ((w3.alloc (.cells #[.int .i64 pa.k, .int .i64 pa.c, .string (ba pa.s)] 43)).alloc (.cells #[.int .i64 pd.k, .int .i64 pd.c, .string (ba pd.s)] 43)) w3.heap.size pa := ((Kp.refl (fun _ => False) _).alloc _).heap (heap_alloc_new w3 _) id
          have T4 : SB ((w3.alloc (.cells #[.int .i64 pa.k, .int .i64 pa.c, .string (ba pa.s)] 43)).alloc (.cells #[.int .i64 pd.k, .int .i64 pd.c, .string (ba pd.s)] 43)) (w3.heap.size + 1) pd := by have := heap_alloc_new (w3.alloc (.cells #[.int .i64 pa.k, .int .i64 pa.c, .string (ba pa.s)] 43)) (.cells #[.int .i64 pd.k, .int .i64 pd.c, .string (ba pd.s)] 43); rw [World.size_alloc] at this; exact this
          have hFl := hide (show (∀ k, FU k → k < w3.heap.size) ∧ (∀ k, FV k → k < w3.heap.size) from ⟨fun k hk => ((HM3.out).m.w_.lt k hk).2, fun k hk => ((HM3.out).v.lt k hk).2⟩)
          have HS4 := hide S4
          have HT4 := hide T4
          clear k4 S4 T4
          unfold stV
          go_upto_region 5 with fail
          generalize (w3.alloc (.cells #[.int .i64 pa.k, .int .i64 pa.c, .string (ba pa.s)] 43)).alloc (.cells #[.int .i64 pd.k, .int .i64 pd.c, .string (ba pd.s)] 43) = w4 at HM4 HS4 HT4 ⊢
          obtain ⟨s0, s1, s2, sl⟩ := (HS4.out).cells
          obtain ⟨t0, t1, t2, tl⟩ := (HT4.out).cells
          by_cases hq : pd.k = 0
          · have hq1 : ((pd.k : Int) == 0) = true := by simp only [beq_iff_eq]; omega
            have hq2 : (pd.k : Int) = 0 := by omega
            go_wp2_with fail
            refine (add_any B w.heap.size w4 U _ pa N N (HM4.out).m.w_ (HM4.out).base (HSU.out).1 (by have := hp1.out; omega) (by omega)).mono ?_
            rintro e w5 ⟨rfl, h5, hk5⟩
            have HM5 := hide ((HM4.out).onU h5 hk5)
            have HS5 := hide (show SB w5 w3.heap.size pa from hk5.heap HS4.out (fun hf => by have := (hFl.out).1 _ hf; omega))
            have HT5 := hide (show SB w5 (w3.heap.size + 1) pd from hk5.heap HT4.out (fun hf => by have := (hFl.out).1 _ hf; omega))
            clear h5 hk5 s0 s1 s2 t0 t1 t2
            obtain ⟨s0, s1, s2, sl5⟩ := (HS5.out).cells
            obtain ⟨t0, t1, t2, tl5⟩ := (HT5.out).cells
            by_cases hp : pa.k = 0
            · have hp1' : ((pa.k : Int) == 0) = true := by simp only [beq_iff_eq]; omega
              have hp2' : (pa.k : Int) = 0 := by omega
              go_wp2_with fail
              have hadd := add_any B b' w5 V _ pd N N (HM5.out).v (HM5.out).base (HSV.out).1 (by have := hp2.out; omega) (by omega)
              rw [show stV pd = .agg #[.int .i64 0, .int .i64 pd.c, .string (ba pd.s)] by unfold stV; rw [hq2]] at hadd
              refine hadd.mono ?_
              clear hadd
              rintro e w6 ⟨rfl, h6, hk6⟩
              have HM6 := hide ((((HM5.out).swap).onU h6 hk6).swap)
              clear h6 hk6
              obtain ⟨R', hR⟩ := HV.out
              have HI2 := hide (show MI B w w6 c d w.heap.size b' la ld (U.add pa) (V.add pd) x s t T K from ⟨⟨_, _, _, _, HM6.out⟩, ⟨N + n, (HSU.out).add _ _ hb.2 (by have := hp1.out; omega), (HSV.out).add _ _ hb.2 (by have := hp2.out; omega), by omega⟩, ⟨_, _, by simpa [Wr.addIf, hp, hq] using hR⟩⟩)
              clear hR
              go_wp2_with fail
              go_roundg (csum la + csum ld)
              case measure => omega
              case rel => exact ⟨la, ld, _, _, rfl, HI2⟩
            · have hp1' : ((pa.k : Int) == 0) = false := by simp only [beq_eq_false_iff_ne, ne_eq]; omega
              have hp2' : ¬ (pa.k : Int) = 0 := by omega
              obtain ⟨R', hR⟩ := HV.out
              have HI2 := hide (show MI B w w5 c d w.heap.size b' la ld (U.add pa) V x s t T K from ⟨⟨_, _, _, _, HM5.out⟩, ⟨N + n, (HSU.out).add _ _ hb.2 (by have := hp1.out; omega), (HSV.out).mono (by omega), by omega⟩, ⟨_, _, by simpa [Wr.addIf, hp, hq] using hR⟩⟩)
              clear hR
              go_wp2_with fail
              go_roundg (csum la + csum ld)
              case measure => omega
              case rel => exact ⟨la, ld, _, _, rfl, HI2⟩
          · have hq1 : ((pd.k : Int) == 0) = false := by simp only [beq_eq_false_iff_ne, ne_eq]; omega
            have hq2 : ¬ (pd.k : Int) = 0 := by omega
            by_cases hp : pa.k = 0
            · have hp1' : ((pa.k : Int) == 0) = true := by simp only [beq_iff_eq]; omega
              have hp2' : (pa.k : Int) = 0 := by omega
              go_wp2_with fail
              refine (add_any B b' w4 V _ pd N N (HM4.out).v (HM4.out).base (HSV.out).1 (by have := hp2.out; omega) (by omega)).mono ?_
              rintro e w6 ⟨rfl, h6, hk6⟩
              have HM6 := hide ((((HM4.out).swap).onU h6 hk6).swap)
              clear h6 hk6
              obtain ⟨R', hR⟩ := HV.out
              have HI2 := hide (show MI B w w6 c d w.heap.size b' la ld U (V.add pd) x s t T K from ⟨⟨_, _, _, _, HM6.out⟩, ⟨N + n, (HSU.out).mono (by omega), (HSV.out).add _ _ hb.2 (by have := hp2.out; omega), by omega⟩, ⟨_, _, by simpa [Wr.addIf, hp, hq] using hR⟩⟩)
              clear hR
              go_wp2_with fail
              go_roundg (csum la + csum ld)
              case measure => omega
              case rel => exact ⟨la, ld, _, _, rfl, HI2⟩
            · have hp1' : ((pa.k : Int) == 0) = false := by simp only [beq_eq_false_iff_ne, ne_eq]; omega
              have hp2' : ¬ (pa.k : Int) = 0 := by omega
              obtain ⟨R', hR⟩ := HV.out
              have HI2 := hide (show MI B w w4 c d w.heap.size b' la ld U V x s t T K from ⟨⟨_, _, _, _, HM4.out⟩, ⟨N + n, (HSU.out).mono (by omega), (HSV.out).mono (by omega), by omega⟩, ⟨_, _, by simpa [Wr.addIf, hp, hq] using hR⟩⟩)
              clear hR
              go_wp2_with fail
              go_roundg (csum la + csum ld)
              case measure => omega
              case rel => exact ⟨la, ld, _, _, rfl, HI2⟩
end Go.Proofs.Ytobdfddpiobhhaa
