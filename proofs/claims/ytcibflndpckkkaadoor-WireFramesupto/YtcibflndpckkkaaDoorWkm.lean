/- The document's line that tells a length. -/
import Derived.Test.YtcibflndpckkkaaDoorWkd
import Derived.Test.YtcibflndpckkkaaDoorWjd
namespace Go.Proofs.YtcibflndpckkkaaDoor
open Go.RowKit
open Wi

theorem lenOf_none {l : List UInt8} (h : l.dropWhile notColon = []) : lenOf l = -2 := by unfold lenOf; rw [if_pos h]
theorem lenOf_other {l : List UInt8} (h : ¬ l.dropWhile notColon = []) (h2 : ¬ l.takeWhile notColon = sLen) : lenOf l = -1 := by unfold lenOf; rw [if_neg h, if_pos h2]
theorem lenOf_bad {l : List UInt8} (h : ¬ l.dropWhile notColon = []) (h2 : l.takeWhile notColon = sLen) (h3 : ((l.dropWhile notColon).drop 2).length < 1 ∨ 10 < ((l.dropWhile notColon).drop 2).length ∨ (l.dropWhile notColon).getD 1 0 ≠ 32) : lenOf l = -2 := by
  unfold lenOf; rw [if_neg h, if_neg (by simpa using h2), if_pos h3]
theorem lenOf_is {l : List UInt8} (h : ¬ l.dropWhile notColon = []) (h2 : l.takeWhile notColon = sLen) (h3 : ¬ (((l.dropWhile notColon).drop 2).length < 1 ∨ 10 < ((l.dropWhile notColon).drop 2).length ∨ (l.dropWhile notColon).getD 1 0 ≠ 32)) :
    lenOf l = if ((l.dropWhile notColon).drop 2).all isDig = true then (numOf ((l.dropWhile notColon).drop 2) : Int) else -2 := by
  unfold lenOf; rw [if_neg h, if_neg (by simpa using h2), if_neg h3]
/-- How far the search for the sign has come. -/
structure Col (s : ByteArray) (l : List UInt8) : Prop where
  sfx : Sfx s l
  drop : (bs s).dropWhile notColon = l.dropWhile notColon
  take : (bs s).takeWhile notColon = (bs s).take (pos s l) ++ l.takeWhile notColon
theorem Col.start (s : ByteArray) : Col s (bs s) := ⟨Sfx.all s, rfl, by unfold Go.Proofs.YtcibflndpckkkaaDoor.pos; rw [bs_len]; simp⟩
theorem Col.next {s : ByteArray} {c : UInt8} {t : List UInt8} (h : Col s (c :: t)) (hc : c ≠ 58) : Col s t := by
  have hn : notColon c = true := by simp [notColon, hc]
  refine ⟨h.sfx.tail, by rw [h.drop, List.dropWhile_cons, if_pos hn], ?_⟩
  rw [h.take, List.takeWhile_cons, if_pos hn, pos_cons h.sfx]
  obtain ⟨hi, hg⟩ := h.sfx.getD (k := 0) (by simp)
  simp only [Nat.add_zero, List.getElem_cons_zero] at hi hg
  rw [List.take_add_one, List.getElem?_eq_getElem (by rw [bs_len]; exact hi), Option.toList_some, List.append_assoc]
  congr 1
  rw [← hg]
  rfl

set_option maxRecDepth 100000 in
set_option maxHeartbeats 4000000 in
theorem wlength_any (s : ByteArray) (w : World) (hs : s.size ≤ 1073741824) :
    Calls Tryd.prog 28 #[.string s] w fun e w' => e = .returned (.int .i64 (lenOf (bs s))) ∧ w' = w := by
  go_enter Tryd.func28, Tryd.ntmps28
  go_wp2_with fail
  go_loop [3] (fun v => ∃ l : List UInt8, v = .int .i64 (pos s l) ∧ Hid (Col s l)) (fun v => s.size - (intOf v).toNat)
  case atStart => exact ⟨bs s, by unfold Go.Proofs.YtcibflndpckkkaaDoor.pos; rw [bs_len]; simp, Col.start s⟩
  case round =>
    obtain ⟨l, rfl, HC⟩ := hrel
    have hpos := (HC.out).sfx.pos
    cases l with
    | nil =>
      have j1 : decide (pos s [] < s.size) = false := by rw [pos_nil]; simp
      have j2 : ((pos s [] : Int) == (s.size : Int)) = true := by rw [pos_nil]; simp
      have HE := hide (lenOf_none (HC.out).drop)
      go_wp2_with fail
      go_ret
      exact ⟨reti HE.out.symm, rfl⟩
    | cons c t =>
      obtain ⟨hi, hg⟩ := (HC.out).sfx.getD (k := 0) (by simp)
      simp only [Nat.add_zero, List.getElem_cons_zero] at hi hg
      have j1 : decide (pos s (c :: t) < s.size) = true := decide_eq_true hi
      have j3 : (0 : Int) ≤ (pos s (c :: t) : Int) := Int.natCast_nonneg _
      have j4 : (pos s (c :: t) : Int) < (s.size : Int) := by omega
      by_cases h58 : c = 58
      case neg =>
        have j5 : ((s[pos s (c :: t)].toNat : Int) != 58) = true := by
          rw [hg]; simp; intro e; exact h58 (UInt8.toNat_inj.1 (by show c.toNat = 58; omega))
        have HN := hide ((HC.out).next h58)
        have HP := hide (pos_cons (HC.out).sfx)
        clear hg h58 HC
        go_wp2_with fail
        go_round
        case rel => exact ⟨t, by rw [HP.out]; go_num, HN⟩
        case measure => simp only [intOf]; omega
      case pos =>
      subst h58
      have j5 : ((s[pos s (58 :: t)].toNat : Int) != 58) = false := by rw [hg]; rfl
      have j6 : ((pos s (58 :: t) : Int) == (s.size : Int)) = false := by simp; omega
      have hdw : (bs s).dropWhile notColon = 58 :: t := by rw [(HC.out).drop]; rfl
      have htw : (bs s).takeWhile notColon = (bs s).take (pos s (58 :: t)) := by rw [(HC.out).take]; simp [notColon]
      have HSf := hide (HC.out).sfx
      have hne : ¬ (bs s).dropWhile notColon = [] := by rw [hdw]; simp
      have j7 : (pos s (58 :: t) : Int) ≤ (s.size : Int) := by omega
      by_cases hcl : s.extract 0 (pos s (58 :: t)) = ba sLen
      case neg =>
        have j8 : ((s.extract 0 (pos s (58 :: t))).toList == [67, 111, 110, 116, 101, 110, 116, 45, 76, 101, 110, 103, 116, 104]) = false := by
          have := sb_eq (s.extract 0 (pos s (58 :: t))) (ba sLen)
          rw [decide_eq_false hcl, Lib.toList_data (ba sLen)] at this
          exact this
        have HE := hide (lenOf_other hne (fun e => hcl (bs_inj (by rw [bs_take, bs_ba, ← htw, e]))))
        clear hdw htw hne hcl hg HC HSf
        go_wp2_with fail
        go_ret
        exact ⟨reti HE.out.symm, rfl⟩
      case pos =>
      have htl : (bs s).takeWhile notColon = sLen := by
        rw [htw]
        have := congrArg bs hcl
        rw [bs_take, bs_ba] at this; exact this
      have j8 : ((s.extract 0 (pos s (58 :: t))).toList == [67, 111, 110, 116, 101, 110, 116, 45, 76, 101, 110, 103, 116, 104]) = true := by
        have := sb_eq (s.extract 0 (pos s (58 :: t))) (ba sLen)
        rw [decide_eq_true hcl, Lib.toList_data (ba sLen)] at this
        exact this
      clear htw hcl hg HC
      have hds : (58 :: t).drop 2 = t.drop 1 := rfl
      have hlt : (s.size : Int) - (pos s (58 :: t) : Int) - 2 = (t.length : Int) - 1 := by simp at hpos; omega
      by_cases hd1 : t.length < 2
      · have HE := hide (lenOf_bad hne htl (.inl (by rw [hdw, hds]; simp; omega)))
        have k1 : decide ((s.size : Int) - (pos s (58 :: t) : Int) - 2 < 1) = true := by simp only [decide_eq_true_iff]; omega
        clear hdw hne htl hlt
        go_wp2_with fail
        go_ret
        exact ⟨reti HE.out.symm, rfl⟩
      have k1 : decide ((s.size : Int) - (pos s (58 :: t) : Int) - 2 < 1) = false := by simp only [decide_eq_false_iff_not]; omega
      by_cases hd2 : 11 < t.length
      · have HE := hide (lenOf_bad hne htl (.inr (.inl (by rw [hdw, hds]; simp; omega))))
        have k2 : decide ((10 : Int) < (s.size : Int) - (pos s (58 :: t) : Int) - 2) = true := by simp only [decide_eq_true_iff]; omega
        clear hdw hne htl hlt
        go_wp2_with fail
        go_ret
        exact ⟨reti HE.out.symm, rfl⟩
      have k2 : decide ((10 : Int) < (s.size : Int) - (pos s (58 :: t) : Int) - 2) = false := by simp only [decide_eq_false_iff_not]; omega
      obtain ⟨x, ds, rfl⟩ : ∃ x ds, t = x :: ds := by
        cases t with
        | nil => simp at hd1
        | cons x ds => exact ⟨x, ds, rfl⟩
      have HP1 := hide (pos_cons HSf.out)
      obtain ⟨ha, hx⟩ := (HSf.out).tail.getD (k := 0) (by simp)
      simp only [Nat.add_zero, List.getElem_cons_zero] at ha hx
      have hpt : (pos s (58 :: x :: ds) : Int) + 1 = (pos s (x :: ds) : Int) := by have := HP1.out; omega
      have k3 : (0 : Int) ≤ (pos s (x :: ds) : Int) := Int.natCast_nonneg _
      have k4 : (pos s (x :: ds) : Int) < (s.size : Int) := by omega
      by_cases h32 : x = 32
      case neg =>
        have HE := hide (lenOf_bad hne htl (.inr (.inr (by rw [hdw]; exact h32))))
        have k5 : ((s[pos s (x :: ds)].toNat : Int) != 32) = true := by
          rw [hx]; simp; intro e; exact h32 (UInt8.toNat_inj.1 (by show x.toNat = 32; omega))
        clear hdw hne htl hx h32 hlt hds hd1 hd2
        go_wp2_with fail
        go_ret
        exact ⟨reti HE.out.symm, rfl⟩
      case pos =>
      have k5 : ((s[pos s (x :: ds)].toNat : Int) != 32) = false := by rw [hx, h32]; rfl
      have h3 : ¬ (((58 :: x :: ds : List UInt8).drop 2).length < 1 ∨ 10 < ((58 :: x :: ds : List UInt8).drop 2).length ∨ (58 :: x :: ds : List UInt8).getD 1 0 ≠ 32) := by
        have e1 : ¬ (ds.length + 1 < 2) := hd1
        have e2 : ¬ (11 < ds.length + 1) := hd2
        rintro (h | h | h)
        · replace h : ds.length < 1 := h
          omega
        · replace h : 10 < ds.length := h
          omega
        · exact h h32
      have HE := hide (lenOf_is hne htl (by rw [hdw]; exact h3))
      clear h3
      rw [hdw] at HE
      replace HE : Hid (lenOf (bs s) = if ds.all isDig = true then (numOf ds : Int) else -2) := HE
      have HSd := hide (HSf.out).tail.tail
      have HP2 := hide (pos_cons (HSf.out).tail)
      have hpt2 : (pos s (58 :: x :: ds) : Int) + 2 = (pos s ds : Int) := by have := HP1.out; have := HP2.out; omega
      have hdl : ds.length ≤ 10 := by simp at hd2; omega
      clear hdw hne htl hx h32 hds hlt hd1 hd2 HP1 HP2
      go_wp2_with fail
      go_loop [4, 6] (fun vn vi => ∃ (dn l : List UInt8) (n : Int), vn = .int .i64 n ∧ vi = .int .i64 (pos s l) ∧ Hid (Digs ds dn l n)) (fun _ vi => s.size - (intOf vi).toNat)
      case atStart => exact ⟨[], ds, 0, rfl, rfl, Digs.start ds⟩
      case round =>
        obtain ⟨dn, l, n, rfl, rfl, HD⟩ := hrel
        have hp := (HD.out).pos HSd.out
        have HS := hide hp.1
        have hpl := hp.1.pos
        have hbd := (HD.out).bound
        have hdn : dn.length + l.length ≤ 10 := by have := congrArg List.length (HD.out).eq; rw [List.length_append] at this; omega
        clear hp
        cases l with
        | nil =>
          have j1 : decide (pos s [] < s.size) = false := by rw [pos_nil]; simp
          have HF : Hid (lenOf (bs s) = n) := by
            have e := (HD.out).eq
            rw [List.append_nil] at e
            show _ = _
            rw [HE.out, if_pos (List.all_eq_true.2 (by rw [e]; exact (HD.out).dig)), (HD.out).num, e, List.take_of_length_le (by simp at hdn; omega)]
          clear HE HD
          go_wp2_with fail
          go_ret
          exact ⟨reti HF.out.symm, rfl⟩
        | cons c u =>
          obtain ⟨hi, hg⟩ := (HS.out).getD (k := 0) (by simp)
          simp only [Nat.add_zero, List.getElem_cons_zero] at hi hg
          have j1 : decide (pos s (c :: u) < s.size) = true := decide_eq_true hi
          have j3 : (0 : Int) ≤ (pos s (c :: u) : Int) := Int.natCast_nonneg _
          have j4 : (pos s (c :: u) : Int) < (s.size : Int) := by omega
          have HP := hide (pos_cons HS.out)
          have hb3 : (s[pos s (c :: u)].toNat : Int) < 256 := by have := s[pos s (c :: u)].toNat_lt; omega
          have hb0 := hbd.1
          have hb2 := hbd.2.2 (by simp at hdn; omega)
          cases hc : isDig c with
          | false =>
            have HF : Hid (lenOf (bs s) = -2) := by
              show _ = _
              rw [HE.out, if_neg]
              intro e
              have := List.all_eq_true.1 e c (by rw [(HD.out).eq]; simp)
              rw [hc] at this; cases this
            rw [isDig_eq, ← hg] at hc
            clear HE HD hg hbd
            cases h48 : decide ((48 : Int) ≤ (s[pos s (c :: u)].toNat : Int)) with
            | false =>
              have k1 : (s[pos s (c :: u)].toNat : Int) < 48 := by simpa using h48
              clear hc h48
              go_wp2_with fail
              go_ret
              exact ⟨reti HF.out.symm, rfl⟩
            | true =>
              rw [h48, Bool.true_and] at hc
              have k1 : (48 : Int) ≤ (s[pos s (c :: u)].toNat : Int) := of_decide_eq_true h48
              have k2 : (57 : Int) < (s[pos s (c :: u)].toNat : Int) := by have := of_decide_eq_false hc; omega
              clear hc h48
              go_wp2_with fail
              go_ret
              exact ⟨reti HF.out.symm, rfl⟩
          | true =>
            have HD2 := hide ((HD.out).few hc (by simp at hdn; omega))
            rw [← hg] at HD2
            rw [isDig_eq, ← hg, Bool.and_eq_true, decide_eq_true_iff, decide_eq_true_iff] at hc
            obtain ⟨k1, k2⟩ := hc
            clear HD hg hbd HE
            go_wp2_with fail
            go_round
            case rel => exact ⟨_, u, _, rfl, by rw [HP.out]; go_num, HD2⟩
            case measure => simp only [intOf]; omega
end Go.Proofs.YtcibflndpckkkaaDoor
