/- Colours: the law ColourDiffs. -/
import Derived.Test.YtnppdfnfhkopnaaDoorCyd
import Derived.Deep.CutBlock
import Derived.Deep.DeepCutAuto
namespace Go.Proofs.YtnppdfnfhkopnaaDoor
open Go.RowKit

theorem suf_at (a b : List Cl) (f n : Nat) (h : n ≤ suf a b f) (hf : f ≤ a.length) (hg : f ≤ b.length) : n < suf a b f ↔ (n < a.length - f ∧ n < b.length - f ∧ a[a.length - 1 - n]? = b[b.length - 1 - n]?) := by
  have h1 := pre_at _ _ n h
  rw [List.length_reverse, List.length_reverse, List.length_drop, List.length_drop] at h1
  have key : ∀ (l : List Cl), f ≤ l.length → n < l.length - f → (l.drop f).reverse[n]? = l[l.length - 1 - n]? := by
    intro l hl hn
    rw [List.getElem?_reverse (by rw [List.length_drop]; exact hn), List.getElem?_drop, List.length_drop]
    congr 1; omega
  constructor
  · intro q
    obtain ⟨q1, q2, q3⟩ := h1.1 q
    rw [key a hf q1, key b hg q2] at q3
    exact ⟨q1, q2, q3⟩
  · rintro ⟨q1, q2, q3⟩
    refine h1.2 ⟨q1, q2, ?_⟩
    rw [key a hf q1, key b hg q2]; exact q3
/-- What Patch gives, one by one. -/
theorem pat_at (a b : List Cl) (t d k : Nat) (hy : t + d ≤ a.length) :
    (a.take t ++ b ++ a.drop (t + d))[k]? = if k < t then a[k]? else if k < t + b.length then b[k - t]? else a[k - b.length + d]? := by
  have hl : (a.take t).length = t := by rw [List.length_take]; omega
  split
  · rename_i h
    rw [List.append_assoc, List.getElem?_append_left (by omega), List.getElem?_take_of_lt h]
  · rename_i h
    rw [List.append_assoc, List.getElem?_append_right (by omega), hl]
    split
    · rename_i h'
      rw [List.getElem?_append_left (by omega)]
    · rename_i h'
      rw [List.getElem?_append_right (by omega), List.getElem?_drop]
      congr 1; omega

set_option maxRecDepth 100000 in
set_option maxHeartbeats 4000000 in
theorem colourDiffs_any (va vb : Value) (a b : List Cl) (t d : Int) (w : World) (hE : ErrT w) (ha : IsC w va a) (hb : IsC w vb b) (hl : a.length + b.length ≤ 1073741824) (ht : -9223372036854775808 ≤ t ∧ t ≤ 9223372036854775807) :
    Calls Tryd.prog 3 #[va, vb, .int .i64 t, .int .i64 d] w fun e w' => e = .returned (.bool true) ∧ Below w.heap.size w w' := by
  have HA := hide ha
  have HB := hide hb
  have HD := hide (diff_any va vb a b w ha hb)
  obtain ⟨ao, ca, rfl, h1, ⟨h2, -⟩, -⟩ := ha
  obtain ⟨bo, cb, rfl, h3, ⟨h4, -⟩, -⟩ := hb
  have HP := hide (pre_le a b)
  have HS := hide (suf_le a b (pre a b))
  have HE := hide hE
  clear hE
  go_enter Tryd.func3, Tryd.ntmps3
  go_wp2_with fail
  refine (HD.out).mono ?_
  rintro e w1 ⟨pv, rfl, HV, k1⟩
  have K1 := hide k1
  have HA := hide ((HA.out).below k1)
  have HB := hide ((HB.out).below k1)
  have HE := hide ((HE.out).below k1)
  clear k1 HD
  go_upto_block 0 with fail
  go_cut [12] (fun s wx => s = .int .i64 (pre a b : Nat) ∧ Hid (Below w1.heap.size w1 wx))
  case first =>
    go_wp2_with fail
    go_loopw [12] (fun v wr => ∃ n : Nat, v = .int .i64 n ∧ n ≤ a.length ∧ Hid (n ≤ pre a b) ∧ Hid (Below w1.heap.size w1 wr)) (fun v _ => a.length - (intOf v).toNat)
    case atStart => exact ⟨0, rfl, Nat.zero_le _, Nat.zero_le _, Below.refl _ _⟩
    case round =>
      obtain ⟨n, rfl, hn, HN, HK⟩ := hrel
      have HT := hide (pre_at a b n HN.out)
      by_cases g1 : n < a.length
      case neg =>
        have i1 : decide ((n : Int) < (a.length : Int)) = false := by simp; omega
        have j1 : decide (n < a.length) = false := by simp; omega
        have HE : Hid (n = pre a b) := by have := HN.out; have := (HP.out).1; show _ = _; omega
        clear g1
        go_wp2_with fail
        go_quiet (fail)
        go_wp2_with fail
        go_meet
        case rel => exact ⟨by rw [← HE.out], belowN HK.out _⟩
      have i1 : decide ((n : Int) < (a.length : Int)) = true := by simp; omega
      have j1 : decide (n < a.length) = true := by simp; omega
      by_cases g2 : n < b.length
      case neg =>
        have i2 : decide ((n : Int) < (b.length : Int)) = false := by simp; omega
        have j2 : decide (n < b.length) = false := by simp; omega
        have HE : Hid (n = pre a b) := by have := HN.out; have := (HP.out).2; show _ = _; omega
        clear g2
        go_wp2_with fail
        go_quiet (fail)
        go_wp2_with fail
        go_meet
        case rel => exact ⟨by rw [← HE.out], belowN HK.out _⟩
      have i2 : decide ((n : Int) < (b.length : Int)) = true := by simp; omega
      have j2 : decide (n < b.length) = true := by simp; omega
      obtain ⟨b1, o1, x, rfl, ex, p1, p2, p3, p4⟩ := ((HA.out).below HK.out).get g1
      obtain ⟨b2, o2, y, rfl, ey, q1, q2, q3, q4⟩ := ((HB.out).below HK.out).get g2
      have HX := hide ex
      have HY := hide ey
      clear ex ey
      have e1 := fun W => eqC W x y
      have e2 := guardC
      have i3 : (n : Int) < (a.length : Int) := by omega
      have i4 : (n : Int) < (b.length : Int) := by omega
      by_cases g3 : x = y
      · have i5 : decide (x = y) = true := decide_eq_true g3
        have HN1 : Hid (n < pre a b) := (HT.out).2 ⟨g1, g2, by rw [HX.out, HY.out, g3]⟩
        clear g3
        rw [i5] at e1
        go_wp2_with fail
        go_quiet (fail)
        go_wp2_with fail
        refine ⟨⟨n + 1, by simp, by omega, HN1.out, belowN HK.out _⟩, ?_⟩
        show a.length - (n + 1) < a.length - n
        omega
      · have i5 : decide (x = y) = false := decide_eq_false g3
        have HE : Hid (n = pre a b) := by
          have q0 : ¬ n < pre a b := fun h => g3 (by have := ((HT.out).1 h).2.2; rw [HX.out, HY.out] at this; exact Option.some.inj this)
          have := HN.out; show _ = _; omega
        clear g3
        rw [i5] at e1
        go_wp2_with fail
        go_quiet (fail)
        go_wp2_with fail
        go_meet
        case rel => exact ⟨by rw [← HE.out], belowN HK.out _⟩
  case rest =>
    obtain ⟨rfl, K2⟩ := hcut
    have hp := HP.out
    have hs := HS.out
    have HSA := hide (fun n h => suf_at a b (pre a b) n h hp.1 hp.2)
    generalize suf a b (pre a b) = m at *
    generalize pre a b = f at *
    clear HP HS
    obtain ⟨p, hp1⟩ : ∃ p, a.length - f = p := ⟨_, rfl⟩
    obtain ⟨q, hq1⟩ : ∃ q, b.length - f = q := ⟨_, rfl⟩
    rw [hp1, hq1] at HSA
    have l1 : (a.length : Int) - f = (p : Int) := by omega
    have l2 : (b.length : Int) - f = (q : Int) := by omega
    have hmp : m ≤ p := by omega
    have hmq : m ≤ q := by omega
    go_upto_block 2 with fail
    go_cut [13] (fun s wx => s = .int .i64 (m : Nat) ∧ Hid (Below w1.heap.size w1 wx))
    case first =>
      go_wp2_with fail
      go_loopw [13] (fun v wr => ∃ n : Nat, v = .int .i64 n ∧ n ≤ p ∧ Hid (n ≤ m) ∧ Hid (Below w1.heap.size w1 wr)) (fun v _ => p - (intOf v).toNat)
      case atStart => exact ⟨0, rfl, Nat.zero_le _, Nat.zero_le _, K2.out⟩
      case round =>
        obtain ⟨n, rfl, hn, HN, HK⟩ := hrel
        have HT := hide ((HSA.out) n HN.out)
        by_cases g1 : n < p
        case neg =>
          have i1 : decide ((n : Int) < (p : Int)) = false := by simp; omega
          have j1 : decide (n < p) = false := by simp; omega
          have HE : Hid (n = m) := by have := HN.out; show _ = _; omega
          clear g1
          go_wp2_with fail
          go_quiet (fail)
          go_wp2_with fail
          go_meet
          case rel => exact ⟨by rw [← HE.out], belowN HK.out _⟩
        have i1 : decide ((n : Int) < (p : Int)) = true := by simp; omega
        have j1 : decide (n < p) = true := by simp; omega
        by_cases g2 : n < q
        case neg =>
          have i2 : decide ((n : Int) < (q : Int)) = false := by simp; omega
          have j2 : decide (n < q) = false := by simp; omega
          have HE : Hid (n = m) := by have := HN.out; show _ = _; omega
          clear g2
          go_wp2_with fail
          go_quiet (fail)
          go_wp2_with fail
          go_meet
          case rel => exact ⟨by rw [← HE.out], belowN HK.out _⟩
        have i2 : decide ((n : Int) < (q : Int)) = true := by simp; omega
        have j2 : decide (n < q) = true := by simp; omega
        obtain ⟨k, hk⟩ : ∃ k, a.length - 1 - n = k := ⟨_, rfl⟩
        obtain ⟨l, hl'⟩ : ∃ l, b.length - 1 - n = l := ⟨_, rfl⟩
        rw [hk, hl'] at HT
        have g1' : k < a.length := by omega
        have g2' : l < b.length := by omega
        have m1 : (a.length : Int) - 1 - n = (k : Int) := by omega
        have m2 : (b.length : Int) - 1 - n = (l : Int) := by omega
        clear hk hl'
        obtain ⟨b1, o1, x, rfl, ex, p1, p2, p3, p4⟩ := ((HA.out).below HK.out).get g1'
        obtain ⟨b2, o2, y, rfl, ey, q1, q2, q3, q4⟩ := ((HB.out).below HK.out).get g2'
        have HX := hide ex
        have HY := hide ey
        clear ex ey
        have e1 := fun W => eqC W x y
        have e2 := guardC
        have i3 : (k : Int) < (a.length : Int) := by omega
        have i4 : (l : Int) < (b.length : Int) := by omega
        by_cases g3 : x = y
        · have i5 : decide (x = y) = true := decide_eq_true g3
          have HN1 : Hid (n < m) := (HT.out).2 ⟨g1, g2, by rw [HX.out, HY.out, g3]⟩
          clear g3
          rw [i5] at e1
          go_wp2_with fail
          go_quiet (fail)
          go_wp2_with fail
          refine ⟨⟨n + 1, by simp, by omega, HN1.out, belowN HK.out _⟩, ?_⟩
          show p - (n + 1) < p - n
          omega
        · have i5 : decide (x = y) = false := decide_eq_false g3
          have HE : Hid (n = m) := by
            have q0 : ¬ n < m := fun h => g3 (by have := ((HT.out).1 h).2.2; rw [HX.out, HY.out] at this; exact Option.some.inj this)
            have := HN.out; show _ = _; omega
          clear g3
          rw [i5] at e1
          go_wp2_with fail
          go_quiet (fail)
          go_wp2_with fail
          go_meet
          case rel => exact ⟨by rw [← HE.out], belowN HK.out _⟩
    case rest =>
      obtain ⟨rfl, K3⟩ := hcut
      clear HSA K2
      obtain ⟨p2, hp2⟩ : ∃ p2, a.length - f - m = p2 := ⟨_, rfl⟩
      obtain ⟨q2, hq2⟩ : ∃ q2, q - m = q2 := ⟨_, rfl⟩
      have l3 : (p : Int) - m = (p2 : Int) := by omega
      have l4 : (q : Int) - m = (q2 : Int) := by omega
      rw [hp2]
      have hPl : ((b.drop f).take q2).length = q2 := by rw [List.length_take, List.length_drop]; omega
      have HV3 := hide ((HV.out).below K3.out)
      rw [hq1, hq2] at HV3
      have HPA : Hid (∀ k, k < q2 → ((b.drop f).take q2)[k]? = b[f + k]?) := by
        intro k hk
        rw [List.getElem?_take_of_lt hk, List.getElem?_drop]
      generalize (b.drop f).take q2 = P at *
      obtain ⟨po, cp, rfl, -⟩ := HV3.out
      rw [hPl] at HV3 ⊢
      clear HV
      have r1 : (f == f) = true := by simp
      go_upto_block 4 with fail
      go_cut [14] (fun _ wx => Hid (Below w1.heap.size w1 wx))
      case first =>
        go_wp2_with fail
        go_loopw [14] (fun v wr => ∃ n : Nat, v = .int .i64 n ∧ n ≤ q2 ∧ Hid (IsC wr (.slice po q2 cp) P) ∧ Hid (Below w1.heap.size w1 wr)) (fun v _ => q2 - (intOf v).toNat)
        case atStart => exact ⟨0, rfl, Nat.zero_le _, HV3, K3.out⟩
        case round =>
          obtain ⟨n, rfl, hn, HQ, HK⟩ := hrel
          by_cases g1 : n < q2
          case neg =>
            have i1 : decide ((n : Int) < (q2 : Int)) = false := by simp; omega
            have j1 : decide (n < q2) = false := by simp; omega
            clear g1
            go_wp2_with fail
            go_meet
            case rel => exact HK.out
          have i1 : decide ((n : Int) < (q2 : Int)) = true := by simp; omega
          have j1 : decide (n < q2) = true := by simp; omega
          have g2 : f + n < b.length := by omega
          obtain ⟨b1, o1, x, rfl, ex, p1, p2, p3, p4⟩ := (HQ.out).get (k := n) (by omega)
          obtain ⟨b2, o2, y, rfl, ey, q1, q2', q3, q4⟩ := ((HB.out).below HK.out).get g2
          obtain rfl : x = y := by
            have := (HPA.out) n g1
            rw [ex, ey] at this; exact Option.some.inj this
          obtain ⟨k, hk⟩ : ∃ k, f + n = k := ⟨_, rfl⟩
          rw [hk] at q1 q2' q3 q4
          have m1 : (f : Int) + n = (k : Int) := by omega
          have i3 : (n : Int) < (q2 : Int) := by omega
          have i4 : (k : Int) < (b.length : Int) := by omega
          clear ex ey
          have e1 := fun W => neC W x x
          have e2 := guardC
          rw [decide_eq_true rfl, Bool.not_true] at e1
          have HQ' := hide (fun k => ((HQ.out).below (belowN (Below.refl _ wr) k)))
          clear hk
          go_wp2_with fail
          go_quiet (fail)
          go_wp2_with fail
          refine ⟨⟨n + 1, by simp, by omega, (HQ'.out) _, belowN HK.out _⟩, ?_⟩
          show q2 - (n + 1) < q2 - n
          omega
      case rest =>
        have K4 := hide hcut.out
        clear hcut K3 HV3 HPA
        have HA4 := hide ((HA.out).below K4.out)
        have HB4 := hide ((HB.out).below K4.out)
        have HE4 := hide ((HE.out).below K4.out)
        by_cases hok : 0 ≤ t ∧ 0 ≤ d ∧ d ≤ (a.length : Int) - t
        case neg =>
          have HN := hide (patch_no _ (.slice bo b.length cb) a t d wc HA4.out (by omega) ht)
          have hcs : (decide (t < 0) = true) ∨ (decide (t < 0) = false ∧ decide (d < 0) = true) ∨ (decide (t < 0) = false ∧ decide (d < 0) = false ∧ decide ((a.length : Int) < t) = true) ∨ (decide (t < 0) = false ∧ decide (d < 0) = false ∧ decide ((a.length : Int) < t) = false ∧ decide ((a.length : Int) - t < d) = true ∧ 0 ≤ t ∧ t ≤ (a.length : Int)) := by
            simp only [decide_eq_true_eq, decide_eq_false_iff_not]; omega
          go_wp2_with fail
          refine (HN.out).mono ?_
          rintro e w5 ⟨rfl, k5⟩
          have K5 := hide ((K4.out).trans (k5.mono (K4.out).size))
          have HE5 := hide ((HE4.out).below k5)
          clear k5 HN hok
          rcases hcs with d1 | ⟨d1, d2⟩ | ⟨d1, d2, d3⟩ | ⟨d1, d2, d3, d4, d5, d6⟩
          all_goals
            go_wp2_with fail
            refine (error_same 1 w5 HE5.out).mono ?_
            rintro e w6 ⟨rfl, k6⟩
            have K6 := hide ((K1.out).trans (((K5.out).trans (k6.mono (K5.out).size)).mono (K1.out).size))
            clear k6
            go_wp2_with fail
            go_ret
            exact ⟨rfl, K6.out⟩
        obtain ⟨t, rfl⟩ : ∃ x : Nat, t = x := ⟨t.toNat, by omega⟩
        obtain ⟨d, rfl⟩ : ∃ x : Nat, d = x := ⟨d.toNat, by omega⟩
        have hy : t + d ≤ a.length := by omega
        have c1 : decide ((t : Int) < 0) = false := by simp
        have c2 : decide ((d : Int) < 0) = false := by simp
        have c3 : decide ((a.length : Int) < (t : Int)) = false := by simp; omega
        have c3' : decide (a.length < t) = false := by simp; omega
        have c4 : decide ((a.length : Int) - t < (d : Int)) = false := by simp; omega
        have HN := hide (patch_yes _ _ a b t d wc HA4.out HB4.out hy hl)
        obtain ⟨N, hN⟩ : ∃ N, a.length - d + b.length = N := ⟨_, rfl⟩
        have l5 : (a.length : Int) - d + b.length = (N : Int) := by omega
        have hRl : (a.take t ++ b ++ a.drop (t + d)).length = N := by
          rw [List.length_append, List.length_append, List.length_take, List.length_drop]; omega
        have HR := hide (pat_at a b t d · hy)
        generalize a.take t ++ b ++ a.drop (t + d) = R at *
        go_wp2_with fail
        refine (HN.out).mono ?_
        rintro e w5 ⟨rv, rfl, HV, k5⟩
        have K5 := hide ((K4.out).trans (k5.mono (K4.out).size))
        clear k5 HN hok
        obtain ⟨ro, cr, rfl, -⟩ := HV.out
        rw [hRl] at HV ⊢
        clear HA4 HB4 HE4 K4
        go_wp2_with fail
        go_loopw [18] (fun v wr => ∃ n : Nat, v = .int .i64 n ∧ n ≤ N ∧ Hid (IsC wr (.slice ro N cr) R) ∧ Hid (Below w1.heap.size w1 wr)) (fun v _ => N - (intOf v).toNat)
        case atStart => exact ⟨0, rfl, Nat.zero_le _, HV, K5.out⟩
        case round =>
          obtain ⟨n, rfl, hn, HQ, HK⟩ := hrel
          by_cases g1 : n < N
          case neg =>
            have i1 : decide ((n : Int) < (N : Int)) = false := by simp; omega
            have j1 : decide (n < N) = false := by simp; omega
            have K6 := hide ((K1.out).trans ((HK.out).mono (K1.out).size))
            clear g1
            go_wp2_with fail
            go_ret
            exact ⟨rfl, K6.out⟩
          have i1 : decide ((n : Int) < (N : Int)) = true := by simp; omega
          have j1 : decide (n < N) = true := by simp; omega
          have HRn := hide ((HR.out) n)
          clear HR
          by_cases g2 : n < t
          · have d1 : decide ((n : Int) < (t : Int)) = true := by simp; omega
            have d1' : decide (n < t) = true := by simp; omega
            rw [if_pos g2] at HRn
            have i4 : (n : Int) < (a.length : Int) := by omega
            obtain ⟨b1, o1, x, rfl, ex, p1, p2', p3, p4⟩ := ((HA.out).below HK.out).get (k := n) (by omega)
            obtain ⟨b2, o2, y, rfl, ey, q1, q2', q3, q4⟩ := (HQ.out).get (k := n) (by omega)
            obtain rfl : x = y := by
              have := HRn.out
              rw [ex, ey] at this; exact (Option.some.inj this).symm
            replace p1 := fun ob => Lib.cell?_alloc_some ob p1
            replace p2' := fun ob => Lib.cell?_alloc_some ob p2'
            replace p3 := fun ob => Lib.cell?_alloc_some ob p3
            replace p4 := fun ob => Lib.cell?_alloc_some ob p4
            replace q1 := fun ob => Lib.cell?_alloc_some ob q1
            replace q2' := fun ob => Lib.cell?_alloc_some ob q2'
            replace q3 := fun ob => Lib.cell?_alloc_some ob q3
            replace q4 := fun ob => Lib.cell?_alloc_some ob q4
            have i3 : (n : Int) < (N : Int) := by omega
            have e1 := fun W => neC W x x
            have e2 := guardC
            rw [decide_eq_true rfl, Bool.not_true] at e1
            have HQ' := hide (fun o k => (HQ.out).below (belowN ((Below.refl _ wr).alloc (Nat.le_refl _) o) k))
            have HK' := hide (fun o k => (HK.out).trans ((belowN ((Below.refl _ wr).alloc (Nat.le_refl _) o) k).mono (HK.out).size))
            clear ex ey HRn HQ HK
            go_wp2_with fail
            go_quiet (fail)
            go_wp2_with fail
            refine ⟨⟨n + 1, by simp, by omega, (HQ'.out) _ _, (HK'.out) _ _⟩, ?_⟩
            show N - (n + 1) < N - n
            omega
          · have d1 : decide ((n : Int) < (t : Int)) = false := by simp; omega
            have d1' : decide (n < t) = false := by simp; omega
            rw [if_neg g2] at HRn
            by_cases g3 : n < t + b.length
            · have d2 : decide ((n : Int) < (t : Int) + b.length) = true := by simp; omega
              rw [if_pos g3] at HRn
              obtain ⟨k, hk⟩ : ∃ k, n - t = k := ⟨_, rfl⟩
              rw [hk] at HRn
              have i4 : (k : Int) < (b.length : Int) := by omega
              have i5 : (n : Int) - t = (k : Int) := by omega
              obtain ⟨b1, o1, x, rfl, ex, p1, p2', p3, p4⟩ := ((HB.out).below HK.out).get (k := k) (by omega)
              obtain ⟨b2, o2, y, rfl, ey, q1, q2', q3, q4⟩ := (HQ.out).get (k := n) (by omega)
              obtain rfl : x = y := by
                have := HRn.out
                rw [ex, ey] at this; exact (Option.some.inj this).symm
              replace p1 := fun ob => Lib.cell?_alloc_some ob p1
              replace p2' := fun ob => Lib.cell?_alloc_some ob p2'
              replace p3 := fun ob => Lib.cell?_alloc_some ob p3
              replace p4 := fun ob => Lib.cell?_alloc_some ob p4
              replace q1 := fun ob => Lib.cell?_alloc_some ob q1
              replace q2' := fun ob => Lib.cell?_alloc_some ob q2'
              replace q3 := fun ob => Lib.cell?_alloc_some ob q3
              replace q4 := fun ob => Lib.cell?_alloc_some ob q4
              have i3 : (n : Int) < (N : Int) := by omega
              have e1 := fun W => neC W x x
              have e2 := guardC
              rw [decide_eq_true rfl, Bool.not_true] at e1
              have HQ' := hide (fun o k => (HQ.out).below (belowN ((Below.refl _ wr).alloc (Nat.le_refl _) o) k))
              have HK' := hide (fun o k => (HK.out).trans ((belowN ((Below.refl _ wr).alloc (Nat.le_refl _) o) k).mono (HK.out).size))
              clear ex ey HRn HQ HK
              go_wp2_with fail
              go_quiet (fail)
              go_wp2_with fail
              refine ⟨⟨n + 1, by simp, by omega, (HQ'.out) _ _, (HK'.out) _ _⟩, ?_⟩
              show N - (n + 1) < N - n
              omega
            · have d2 : decide ((n : Int) < (t : Int) + b.length) = false := by simp; omega
              rw [if_neg g3] at HRn
              obtain ⟨k, hk⟩ : ∃ k, n - b.length + d = k := ⟨_, rfl⟩
              rw [hk] at HRn
              have i4 : (k : Int) < (a.length : Int) := by omega
              have i5 : (n : Int) - b.length + d = (k : Int) := by omega
              obtain ⟨b1, o1, x, rfl, ex, p1, p2', p3, p4⟩ := ((HA.out).below HK.out).get (k := k) (by omega)
              obtain ⟨b2, o2, y, rfl, ey, q1, q2', q3, q4⟩ := (HQ.out).get (k := n) (by omega)
              obtain rfl : x = y := by
                have := HRn.out
                rw [ex, ey] at this; exact (Option.some.inj this).symm
              replace p1 := fun ob => Lib.cell?_alloc_some ob p1
              replace p2' := fun ob => Lib.cell?_alloc_some ob p2'
              replace p3 := fun ob => Lib.cell?_alloc_some ob p3
              replace p4 := fun ob => Lib.cell?_alloc_some ob p4
              replace q1 := fun ob => Lib.cell?_alloc_some ob q1
              replace q2' := fun ob => Lib.cell?_alloc_some ob q2'
              replace q3 := fun ob => Lib.cell?_alloc_some ob q3
              replace q4 := fun ob => Lib.cell?_alloc_some ob q4
              have i3 : (n : Int) < (N : Int) := by omega
              have e1 := fun W => neC W x x
              have e2 := guardC
              rw [decide_eq_true rfl, Bool.not_true] at e1
              have HQ' := hide (fun o k => (HQ.out).below (belowN ((Below.refl _ wr).alloc (Nat.le_refl _) o) k))
              have HK' := hide (fun o k => (HK.out).trans ((belowN ((Below.refl _ wr).alloc (Nat.le_refl _) o) k).mono (HK.out).size))
              clear ex ey HRn HQ HK
              go_wp2_with fail
              go_quiet (fail)
              go_wp2_with fail
              refine ⟨⟨n + 1, by simp, by omega, (HQ'.out) _ _, (HK'.out) _ _⟩, ?_⟩
              show N - (n + 1) < N - n
              omega
end Go.Proofs.YtnppdfnfhkopnaaDoor
