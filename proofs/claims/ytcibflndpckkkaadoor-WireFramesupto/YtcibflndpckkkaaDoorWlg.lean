/- The document's Frames. -/
import Derived.Test.YtcibflndpckkkaaDoorWlf
import Derived.Test.YtcibflndpckkkaaDoorWkn
namespace Go.Proofs.YtcibflndpckkkaaDoor
open Go.RowKit
open Wi

theorem FrI.line {L : List UInt8} {out : List (List UInt8)} {size : Int} {l a r : List UInt8} (h : FrI L out size l) (hc : cutLine l = some (a, r)) (h1 : ¬ 1000 < a.length) (h2 : a ≠ []) (h3 : lenOf a ≠ -2) : FrI L out (if 0 ≤ lenOf a then lenOf a else size) r := by
  have e : fr size l = fr (if 0 ≤ lenOf a then lenOf a else size) r := by rw [fr_some hc, if_neg h1, if_pos h2, if_neg h3]
  exact ⟨by rw [h.out, e], by rw [h.e, e]⟩
theorem FrI.body {L : List UInt8} {out : List (List UInt8)} {size : Int} {l r : List UInt8} (h : FrI L out size l) (hc : cutLine l = some ([], r)) (h1 : ¬ size < 0) (h2 : ¬ (r.length : Int) < size) : FrI L (out ++ [r.take size.toNat]) (-1) (r.drop size.toNat) := by
  have e : fr size l = ⟨r.take size.toNat :: (fr (-1) (r.drop size.toNat)).out, (fr (-1) (r.drop size.toNat)).e, (fr (-1) (r.drop size.toNat)).sz, (fr (-1) (r.drop size.toNat)).left⟩ := by
    rw [fr_some hc, if_neg (by simp), if_neg (by simp), if_neg h1, if_neg h2]
  exact ⟨by rw [h.out, e]; simp, by rw [h.e, e]⟩
theorem FrI.stop {L : List UInt8} {out : List (List UInt8)} {size : Int} {l : List UInt8} {e : Nat} (h : FrI L out size l) (he : (fr size l).out = [] ∧ (fr size l).e = e) : (fr (-1) L).out = out ∧ (fr (-1) L).e = e :=
  ⟨by rw [h.out, he.1, List.append_nil], by rw [h.e, he.2]⟩
theorem Sfx.last {s : ByteArray} {l : List UInt8} (h : Sfx s l) (hl : 0 < l.length) : ∃ hi : s.size - 1 < s.size, l.getLast? = some s[s.size - 1] := by
  have h1 := h.pos
  obtain ⟨hi, hg⟩ := h.getD (k := l.length - 1) (by omega)
  have e : Go.Proofs.YtcibflndpckkkaaDoor.pos s l + (l.length - 1) = s.size - 1 := by omega
  refine ⟨by omega, ?_⟩
  rw [List.getLast?_eq_getElem?, List.getElem?_eq_getElem (by omega), ← hg]
  congr 1
  congr 1

theorem Sfx.cut {s : ByteArray} {l : List UInt8} (h : Sfx s l) (n : Nat) : bs (s.extract (Go.Proofs.YtcibflndpckkkaaDoor.pos s l) (Go.Proofs.YtcibflndpckkkaaDoor.pos s l + n)) = l.take n := by
  rw [bs_cut, List.drop_take, Nat.add_sub_cancel_left, h.eq]
theorem pos_allF (s : ByteArray) : pos s (bs s) = 0 := by unfold pos; rw [bs_len]; omega

set_option maxRecDepth 100000 in
set_option maxHeartbeats 2000000 in
theorem wframes_any (s : ByteArray) (w : World) (hs : s.size ≤ 1073741824) :
    Calls Tryd.prog 16 #[.string s] w fun en w' => ∃ v, en = .returned (.tuple #[v, .int .i64 ((fr (-1) (bs s)).e : Int)]) ∧ Hid (w'.ownsRow w.heap.size 9 1 v (fr (-1) (bs s)).out.length (strv (fr (-1) (bs s)).out)) ∧ Below w.heap.size w w' := by
  obtain ⟨E, hE⟩ : ∃ E, (fr (-1) (bs s)).e = E := ⟨_, rfl⟩
  obtain ⟨O, hO⟩ : ∃ O, (fr (-1) (bs s)).out = O := ⟨_, rfl⟩
  rw [hE, hO]
  have HST : Hid (∀ out size l e, FrI (bs s) out size l → (fr size l).out = [] ∧ (fr size l).e = e → O = out ∧ E = e) := by
    intro out size l e h1 h2
    have := h1.stop h2
    rw [hE, hO] at this; exact this
  clear hE hO
  go_enter Tryd.func16, Tryd.ntmps16
  go_wp2_with fail
  go_loopw [4, 5, 6] (fun ov iv sv wr => ∃ (l : List UInt8) (size : Int) (out : List (List UInt8)) (a : Option Addr) (c : Nat), ov = .slice a out.length c ∧ iv = .int .i64 (pos s l : Nat) ∧ sv = .int .i64 size ∧ -1 ≤ size ∧ size ≤ 9999999999 ∧ out.length + l.length ≤ s.size ∧ Hid (Sfx s l) ∧ Hid (FrI (bs s) out size l) ∧ Hid (wr.ownsRow w.heap.size 9 1 (.slice a out.length c) out.length (strv out)) ∧ Hid (Below w.heap.size w wr)) (fun _ iv _ _ => s.size - (intOf iv).toNat)
  case atStart =>
    refine ⟨bs s, -1, [], none, 0, rfl, by rw [pos_allF]; rfl, rfl, by omega, by omega, by rw [bs_len]; simp, Sfx.all s, FrI.start _, World.ownsRow_nil _ _ _ _, Below.refl _ w⟩
  case round =>
    obtain ⟨l, size, out, a, c, rfl, rfl, rfl, hs1, hs2, hol, HS, HF, HO, HK⟩ := hrel
    have hpl := (HS.out).pos
    go_upto_block 2 with fail
    go_cut [7] (fun kv wx => ∃ b l', kv = .int .i64 (pos s l' : Nat) ∧ Hid (Sfx s l') ∧ Hid (Ln l b l') ∧ Hid (l'.length ≤ 1 ∨ ∃ r, l' = 13 :: 10 :: r) ∧ wx = wr)
    case first =>
      go_wp2_with fail
      go_loopw [7] (fun kv wx => ∃ b l', kv = .int .i64 (pos s l' : Nat) ∧ Hid (Sfx s l') ∧ Hid (Ln l b l') ∧ wx = wr) (fun kv _ => s.size - (intOf kv).toNat)
      case atStart => exact ⟨[], l, rfl, HS, Ln.start l, rfl⟩
      case round =>
        obtain ⟨b, l', rfl, HS', HL', rfl⟩ := hrel
        have hp' := (HS'.out).pos
        cases l' with
        | nil =>
          have q1 : decide ((pos s [] : Int) + 1 < (s.size : Int)) = false := by simp at hp' ⊢; omega
          have HD : Hid (([] : List UInt8).length ≤ 1 ∨ ∃ r, ([] : List UInt8) = 13 :: 10 :: r) := .inl (by simp)
          go_wp2_with fail
          go_meet
          case rel => exact ⟨b, [], rfl, HS', HL', HD, rfl⟩
        | cons x t =>
        cases t with
        | nil =>
          have q1 : decide ((pos s [x] : Int) + 1 < (s.size : Int)) = false := by simp at hp' ⊢; omega
          have HD : Hid ([x].length ≤ 1 ∨ ∃ r, [x] = 13 :: 10 :: r) := .inl (by simp)
          go_wp2_with fail
          go_meet
          case rel => exact ⟨b, [x], rfl, HS', HL', HD, rfl⟩
        | cons y t =>
        have q1 : decide ((pos s (x :: y :: t) : Int) + 1 < (s.size : Int)) = true := by simp at hp' ⊢; omega
        obtain ⟨hi0, hg0⟩ := (HS'.out).getD (k := 0) (by simp)
        obtain ⟨hi1, hg1⟩ := (HS'.out).getD (k := 1) (by simp)
        simp only [Nat.add_zero, List.getElem_cons_zero, List.getElem_cons_succ] at hi0 hg0 hg1
        have i2 : (0 : Int) ≤ (pos s (x :: y :: t) : Int) := Int.natCast_nonneg _
        have i3 : (pos s (x :: y :: t) : Int) < (s.size : Int) := by omega
        have i4 : (0 : Int) ≤ (pos s (x :: y :: t) : Int) + 1 := by omega
        have i5 : (pos s (x :: y :: t) : Int) + 1 < (s.size : Int) := by omega
        have i6 : ((pos s (x :: y :: t) : Int) + 1).toNat = pos s (x :: y :: t) + 1 := by omega
        have HP := hide (pos_cons HS'.out)
        have hpc : (pos s (y :: t) : Int) = (pos s (x :: y :: t) : Int) + 1 := by have := HP.out; omega
        by_cases hx : x = 13
        · have f13 : ((s[pos s (x :: y :: t)].toNat : Int) == 13) = true := by rw [hg0, hx]; rfl
          have n13 : ((s[pos s (x :: y :: t)].toNat : Int) != 13) = false := by rw [bne, f13]; rfl
          by_cases hy : y = 10
          · have f10 : ((s[pos s (x :: y :: t) + 1].toNat : Int) == 10) = true := by rw [hg1, hy]; rfl
            have n10 : ((s[pos s (x :: y :: t) + 1].toNat : Int) != 10) = false := by rw [bne, f10]; rfl
            have HD : Hid ((x :: y :: t).length ≤ 1 ∨ ∃ r, x :: y :: t = 13 :: 10 :: r) := .inr ⟨t, by rw [hx, hy]⟩
            clear hx hy hg0 hg1
            go_wp2_with fail
            go_meet
            case rel => exact ⟨b, x :: y :: t, rfl, HS', HL', HD, rfl⟩
          · have f10 : ((s[pos s (x :: y :: t) + 1].toNat : Int) == 10) = false := by
              rw [hg1]; simp; intro e; exact hy (UInt8.toNat_inj.1 (by show y.toNat = 10; omega))
            have n10 : ((s[pos s (x :: y :: t) + 1].toNat : Int) != 10) = true := by rw [bne, f10]; rfl
            have HN := hide ((HL'.out).next (fun h => hy (by simpa using h.2)))
            have HT := hide (HS'.out).tail
            clear hx hy hg0 hg1 HL'
            go_wp2_with fail
            refine ⟨⟨b ++ [x], y :: t, congrArg (Value.int .i64) hpc.symm, HT, HN, by trivial⟩, ?_⟩
            show s.size - ((pos s (x :: y :: t) : Int) + 1).toNat < s.size - pos s (x :: y :: t)
            omega
        · have f13 : ((s[pos s (x :: y :: t)].toNat : Int) == 13) = false := by
            rw [hg0]; simp; intro e; exact hx (UInt8.toNat_inj.1 (by show x.toNat = 13; omega))
          have n13 : ((s[pos s (x :: y :: t)].toNat : Int) != 13) = true := by rw [bne, f13]; rfl
          have HN := hide ((HL'.out).next (fun h => hx h.1))
          have HT := hide (HS'.out).tail
          clear hx hg0 hg1 HL'
          go_wp2_with fail
          refine ⟨⟨b ++ [x], y :: t, congrArg (Value.int .i64) hpc.symm, HT, HN, by trivial⟩, ?_⟩
          show s.size - ((pos s (x :: y :: t) : Int) + 1).toNat < s.size - pos s (x :: y :: t)
          omega
    case rest =>
    obtain ⟨b, l', rfl, HS', HL', HD, rfl⟩ := hcut
    have hp' := (HS'.out).pos
    have hlen : l.length = b.length + l'.length := by rw [(HL'.out).eq]; simp
    have HRET : Hid (∀ e : Nat, (fr size l).out = [] ∧ (fr size l).e = e → (wc.ownsRow w.heap.size 9 1 (.slice a out.length c) O.length (strv O)) ∧ E = e) := by
      intro e he
      obtain ⟨h1, h2⟩ := (HST.out) out size l e HF.out he
      rw [h1]; exact ⟨HO.out, h2⟩
    have s1 : (s.size : Int) - (pos s l : Int) = (l.length : Int) := by omega
    by_cases hsh : l'.length ≤ 1
    · have hcn := (HL'.out).none hsh
      have q1 : decide ((pos s l' : Int) + 1 < (s.size : Int)) = false := by simp; omega
      by_cases ht : tooLong l
      · obtain ⟨hO, hE⟩ := (HRET.out) 12 (by rw [fr_none hcn, if_pos ht]; exact ⟨rfl, rfl⟩)
        have HRO := hide hO
        obtain ⟨t1, t2⟩ := ht
        have q2 : decide ((1000 : Int) < (l.length : Int)) = true := by simp; omega
        have q2' : decide (1000 < l.length) = true := by simp; omega
        obtain ⟨hi9, hla⟩ := (HS.out).last (by omega)
        have m1 : (0 : Int) ≤ (s.size : Int) - 1 := by omega
        have m2 : (s.size : Int) - 1 < (s.size : Int) := by omega
        have m3 : ((s.size : Int) - 1).toNat = s.size - 1 := by omega
        have hcs : (decide ((1001 : Int) < (l.length : Int)) = true ∧ decide (1001 < l.length) = true) ∨ (decide ((1001 : Int) < (l.length : Int)) = false ∧ decide (1001 < l.length) = false ∧ ((s[s.size - 1].toNat : Int) == 13) = false ∧ ((s[s.size - 1].toNat : Int) != 13) = true) := by
          by_cases h5 : 1001 < l.length
          · left; exact ⟨by simp; omega, by simp; omega⟩
          · right
            have h6 : ¬ s[s.size - 1] = 13 := fun e => by
              rcases t2 with t2 | t2
              · omega
              · exact t2 (by rw [hla, e])
            have h7 : ((s[s.size - 1].toNat : Int) == 13) = false := by
              simp; intro e; exact h6 (UInt8.toNat_inj.1 (by show s[s.size - 1].toNat = 13; omega))
            exact ⟨by simp; omega, by simp; omega, h7, by rw [bne, h7]; rfl⟩
        subst hE
        clear hO t1 t2 hla HST HF hcn hlen
        rcases hcs with ⟨d1, d1'⟩ | ⟨d1, d1', d2, d3⟩
        all_goals
          go_wp2_with fail
          go_ret2
          exact ⟨_, rfl, HRO, HK.out⟩
      · obtain ⟨hO, hE⟩ := (HRET.out) 0 (by rw [fr_none hcn, if_neg ht]; exact ⟨rfl, rfl⟩)
        have HRO := hide hO
        by_cases t1 : 1000 < l.length
        · have t2 : l.length = 1001 ∧ l.getLast? = some 13 := by
            unfold tooLong at ht
            refine ⟨?_, ?_⟩
            · rcases Nat.lt_or_ge 1001 l.length with h | h
              · exact absurd ⟨t1, .inl h⟩ ht
              · omega
            · by_cases h : l.getLast? = some 13
              · exact h
              · exact absurd ⟨t1, .inr h⟩ ht
          obtain ⟨hi9, hla⟩ := (HS.out).last (by omega)
          have h8 : s[s.size - 1] = 13 := by
            have := hla.symm.trans t2.2
            exact Option.some.inj this
          have d2 : ((s[s.size - 1].toNat : Int) == 13) = true := by rw [h8]; rfl
          have d3 : ((s[s.size - 1].toNat : Int) != 13) = false := by rw [bne, d2]; rfl
          have q2 : decide ((1000 : Int) < (l.length : Int)) = true := by simp; omega
          have q2' : decide (1000 < l.length) = true := by simp; omega
          have q3 : decide ((1001 : Int) < (l.length : Int)) = false := by simp; omega
          have q3' : decide (1001 < l.length) = false := by simp; omega
          have m1 : (0 : Int) ≤ (s.size : Int) - 1 := by omega
          have m2 : (s.size : Int) - 1 < (s.size : Int) := by omega
          have m3 : ((s.size : Int) - 1).toNat = s.size - 1 := by omega
          subst hE
          clear hO t1 t2 hla HST HF hcn ht h8 hlen
          go_wp2_with fail
          go_ret2
          exact ⟨_, rfl, HRO, HK.out⟩
        · have q2 : decide ((1000 : Int) < (l.length : Int)) = false := by simp; omega
          have q2' : decide (1000 < l.length) = false := by simp; omega
          subst hE
          clear hO t1 HST HF hcn ht hlen
          go_wp2_with fail
          go_ret2
          exact ⟨_, rfl, HRO, HK.out⟩
    have hr2 : ∃ r, l' = 13 :: 10 :: r := (HD.out).resolve_left hsh
    obtain ⟨r, rfl⟩ := hr2
    have HC := hide (HL'.out).some
    obtain ⟨P', hP'⟩ : ∃ n, pos s (13 :: 10 :: r) = n := ⟨_, rfl⟩
    obtain ⟨P, hP⟩ : ∃ n, pos s l = n := ⟨_, rfl⟩
    have HSr := hide (HS'.out).tail.tail
    have hpr := (HSr.out).pos
    have HX : Hid (bs (s.extract P P') = b) := by
      have h1 := (HS.out).cut b.length
      have h2 : pos s l + b.length = P' := by omega
      rw [h2, hP] at h1
      show _ = _
      rw [h1, (HL'.out).eq]; simp
    have hxz : (s.extract P P').size = b.length := by rw [← bs_len, HX.out]
    rw [hP'] at hp'
    rw [hP] at hpl s1
    simp only [List.length_cons] at hp' hlen
    have HPr : Hid (pos s r = P' + 2) := by show _ = _; omega
    have hPP : P' = P + b.length := by omega
    have n1 : P ≤ P' := by omega
    have n2 : P' ≤ s.size := by omega
    have m1 : (0 : Int) ≤ (P : Int) := Int.natCast_nonneg _
    have m2 : (P : Int) ≤ (P' : Int) := by omega
    have m3 : (P' : Int) ≤ (s.size : Int) := by omega
    have q1 : decide ((P' : Int) + 1 < (s.size : Int)) = true := by simp; omega
    have s2 : (P' : Int) - (P : Int) = (b.length : Int) := by omega
    have s3 : (s.size : Int) - ((P' : Int) + 2) = (r.length : Int) := by omega
    have hbl : b.length ≤ 1073741824 := by omega
    have HLT : Hid (P' + 2 + r.length = s.size ∧ P' = P + b.length) := ⟨by omega, hPP⟩
    have HLL : Hid (l.length = b.length + (r.length + 2)) := by show _ = _; omega
    rw [hP', hP]
    have HPl := hide hP
    clear hpr hP hP' hlen hp' hpl hPP s1 HL' HS' HD hsh
    by_cases g1 : 1000 < b.length
    · obtain ⟨hO, hE⟩ := (HRET.out) 12 (by rw [fr_some HC.out, if_pos g1]; exact ⟨rfl, rfl⟩)
      have HRO := hide hO
      have q2 : decide ((1000 : Int) < (b.length : Int)) = true := by simp; omega
      have q2' : decide (1000 < b.length) = true := by simp; omega
      subst hE
      clear hO g1 HST HF
      go_wp2_with fail
      go_ret2
      exact ⟨_, rfl, HRO, HK.out⟩
    have q2 : decide ((1000 : Int) < (b.length : Int)) = false := by simp; omega
    have q2' : decide (1000 < b.length) = false := by simp; omega
    by_cases g2 : b = []
    case neg =>
      have hb0 : 0 < b.length := List.length_pos_iff.2 g2
      have q3 : decide ((0 : Int) < (b.length : Int)) = true := by simp; omega
      have q3' : decide (0 < b.length) = true := by simp; omega
      have HLN := hide (wlength_any (s.extract P P') wc (by omega))
      rw [HX.out] at HLN
      have HG1 := hide g1
      have HG2 := hide g2
      clear g1 g2 hb0
      go_wp2_with fail
      refine (HLN.out).mono ?_
      rintro en w2 ⟨rfl, rfl⟩
      obtain ⟨z, hz⟩ : ∃ z, lenOf b = z := ⟨_, rfl⟩
      have hz2 := lenOf_le b
      rw [hz] at hz2
      by_cases g3 : z = -2
      · obtain ⟨hO, hE⟩ := (HRET.out) 3 (by rw [fr_some HC.out, if_neg HG1.out, if_pos HG2.out, if_pos (hz.trans g3)]; exact ⟨rfl, rfl⟩)
        have HRO := hide hO
        have q5 : (z == -2) = true := by rw [g3]; rfl
        rw [hz]
        subst hE
        clear hO HST HF g3 hz HLN
        go_wp2_with fail
        go_ret2
        exact ⟨_, rfl, HRO, HK.out⟩
      have q5 : (z == -2) = false := by simpa using g3
      have HFN := hide ((HF.out).line HC.out HG1.out HG2.out (by rw [hz]; exact g3))
      rw [hz] at HFN ⊢
      have hz3 : -2 ≤ z := hz2.1
      have hz4 : z ≤ 9999999999 := hz2.2
      clear hz HLN HST HRET
      by_cases g4 : 0 ≤ z
      · have q6 : decide (0 ≤ z) = true := decide_eq_true g4
        rw [if_pos g4] at HFN
        go_wp2_with fail
        have hq1 := (HLT.out).1
        have hq2 := (HLT.out).2
        have hq3 := HLL.out
        refine ⟨⟨r, z, out, a, c, rfl, by rw [HPr.out]; rfl, rfl, by omega, by omega, by omega, HSr, HFN, HO, HK⟩, ?_⟩
        show s.size - ((P' : Int) + 2).toNat < s.size - pos s l
        rw [HPl.out]; omega
      · have q6 : decide (0 ≤ z) = false := decide_eq_false g4
        rw [if_neg g4] at HFN
        go_wp2_with fail
        have hq1 := (HLT.out).1
        have hq2 := (HLT.out).2
        have hq3 := HLL.out
        refine ⟨⟨r, size, out, a, c, rfl, by rw [HPr.out]; rfl, rfl, by omega, by omega, by omega, HSr, HFN, HO, HK⟩, ?_⟩
        show s.size - ((P' : Int) + 2).toNat < s.size - pos s l
        rw [HPl.out]; omega
    have hb0 : b.length = 0 := by rw [g2]; rfl
    have q3 : decide ((0 : Int) < (b.length : Int)) = false := by simp; omega
    have q3' : decide (0 < b.length) = false := by simp; omega
    rw [g2] at HC
    have HB0 := hide hb0
    clear hb0 g1 g2
    by_cases g3 : size < 0
    · obtain ⟨hO, hE⟩ := (HRET.out) 3 (by rw [fr_some HC.out, if_neg (by simp), if_neg (by simp), if_pos g3]; exact ⟨rfl, rfl⟩)
      have HRO := hide hO
      have q5 : decide (size < 0) = true := decide_eq_true g3
      subst hE
      clear hO HST HF g3
      go_wp2_with fail
      go_ret2
      exact ⟨_, rfl, HRO, HK.out⟩
    have q5 : decide (size < 0) = false := decide_eq_false g3
    by_cases g4 : (r.length : Int) < size
    · obtain ⟨hO, hE⟩ := (HRET.out) 0 (by rw [fr_some HC.out, if_neg (by simp), if_neg (by simp), if_neg g3, if_pos g4]; exact ⟨rfl, rfl⟩)
      have HRO := hide hO
      have q6 : decide ((r.length : Int) < size) = true := decide_eq_true g4
      subst hE
      clear hO HST HF g3 g4
      go_wp2_with fail
      go_ret2
      exact ⟨_, rfl, HRO, HK.out⟩
    have HFN := hide ((HF.out).body HC.out g3 g4)
    obtain ⟨n, rfl⟩ : ∃ n : Nat, size = n := ⟨size.toNat, by omega⟩
    rw [Int.toNat_natCast] at HFN
    have q6 : decide ((r.length : Int) < (n : Int)) = false := decide_eq_false g4
    have q6' : decide (r.length < n) = false := by simp; omega
    have hq1 := (HLT.out).1
    have hq2 := (HLT.out).2
    have hq3 := HLL.out
    have i1 : ((P' : Int) + 2).toNat = P' + 2 := by omega
    have i2 : ((P' : Int) + 2 + (n : Int)).toNat = P' + 2 + n := by omega
    have i3 : (0 : Int) ≤ (P' : Int) + 2 := by omega
    have i4 : (P' : Int) + 2 ≤ (P' : Int) + 2 + (n : Int) := by omega
    have i5 : (P' : Int) + 2 + (n : Int) ≤ (s.size : Int) := by omega
    obtain ⟨v', w1, r1, o1, k1⟩ := run_addStr (s.extract (P' + 2) (P' + 2 + n)) HO.out HK.out (by omega)
    have hbx : bs (s.extract (P' + 2) (P' + 2 + n)) = r.take n := by rw [← HPr.out]; exact (HSr.out).cut n
    rw [hbx] at o1
    obtain ⟨a', c', hv'⟩ : ∃ a c, v' = .slice a (out.length + 1) c := by
      obtain ⟨a, c, e, -⟩ := owns_cells o1
      exact ⟨a, c, e⟩
    subst hv'
    have hle : (out ++ [r.take n]).length = out.length + 1 := by simp
    have HN : Hid (w1.ownsRow w.heap.size 9 1 (.slice a' (out ++ [r.take n]).length c') (out ++ [r.take n]).length (strv (out ++ [r.take n]))) := by
      show World.ownsRow _ _ _ _ _ _ _
      rw [hle]; exact o1
    have HK1 := hide k1
    have HPd : Hid (pos s (r.drop n) = P' + 2 + n) := by
      have h1 := ((HSr.out).drop n).pos
      rw [List.length_drop] at h1
      show _ = _
      omega
    have HLD : Hid (out.length + 1 + (r.drop n).length ≤ s.size) := by
      show _ ≤ _
      rw [List.length_drop]; omega
    have HME : Hid (s.size - (P' + 2 + n) < s.size - P) := by show _ < _; omega
    clear o1 k1 HO HK hbx hq1 hq2 hq3 HST HRET g3 g4 HF
    go_wp2_with (at_builtin; refine Lib.wpList_append_run _ rfl _ _ _ _ rfl _ _ rfl rfl _ _ r1 ?_)
    refine ⟨⟨r.drop n, -1, out ++ [r.take n], a', c', by rw [hle], by rw [HPd.out]; rfl, rfl, by omega, by omega, by rw [hle]; exact HLD.out, (HSr.out).drop n, HFN, HN, HK1⟩, ?_⟩
    show s.size - ((P' : Int) + 2 + (n : Int)).toNat < s.size - pos s l
    rw [i2, HPl.out]; exact HME.out
end Go.Proofs.YtcibflndpckkkaaDoor
