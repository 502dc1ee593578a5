/- The document's reader of messages: a map. -/
import Derived.Test.YthdbnafiindgbaaGreatDoorWkq
import Derived.Test.YthdbnafiindgbaaGreatDoorWki
namespace Go.Proofs.YthdbnafiindgbaaGreatDoor
open Go.RowKit
open Wi

set_option maxRecDepth 100000 in
set_option maxHeartbeats 2000000 in
theorem wmany_map (d : Nat) (hd : d ≤ 39) (hv : ValC d) (rb : Nat) (s : ByteArray) (t : List UInt8) (w : World) (hs : s.size ≤ 1073741824) (hl : Sfx s (123 :: t)) (h : RawW w rb s (pos s (123 :: t)) 0 0) :
    Calls Tryz.prog 21 #[.pointer (some ⟨rb, 0, none⟩), .int .u8 123, .int .i64 (39 - (d : Int))] w fun en w' => ∃ v, en = .returned v ∧ Hid (GvJ w rb s (manyW (val d) true t) v w') := by
  have HV := hide hv
  have HL := hide hl.tail
  have HP := hide (pos_cons hl)
  have hp := hl.pos
  have hrl := h.lt
  have HR := hide h
  clear hv h hl
  have hdd : (39 - (d : Int)) + 1 = 40 - (d : Int) := by omega
  obtain ⟨R, hR⟩ : ∃ R, manyW (val d) true t = R := ⟨_, rfl⟩
  rw [hR]
  have HRR := hide hR
  clear hR
  have HR1 := hide ((HR.out).alloc (jcell 4 0 [] (.slice none 0 0) (.slice none 0 0)))
  go_enter Tryz.func21, Tryz.ntmps21
  go_upto_region 2 with fail
  rw [jzero]
  have HN1 := heap_alloc_new w (jcell 4 0 [] (.slice none 0 0) (.slice none 0 0))
  have HK1 : Hid (Ow rb w (w.alloc (jcell 4 0 [] (.slice none 0 0) (.slice none 0 0)))) := Kp.alloc (Kp.refl _ w) _
  generalize w.alloc (jcell 4 0 [] (.slice none 0 0) (.slice none 0 0)) = w0 at *
  generalize hN : w.heap.size = N at *
  obtain ⟨⟨y0, y3, y4⟩, yf0, yf3, yf4⟩ := jcell_facts HN1
  have HM0 : Hid (InM w rb N 5 0 [] (.slice none 0 0) (.slice none 0 0) [] [] [] (fun _ => False) (w0.setCell ⟨N, 0, none⟩ (.int .i64 5))) := by
    refine ⟨by simp [World.setCell, Array.getElem?_modify, HN1, jcell], World.ownsRow_nil _ _ _ _, World.ownsRow_nil _ _ _ _, fun i j hj => by simp at hj, fun q hq => hq.elim, by simp [Value.ownBlock], by simp [Value.ownBlock], fun q e => by simp [Value.ownBlock] at e, by omega, ?_, by omega⟩
    refine Kp.setCell HK1.out (fun h => ?_) _
    simp only at h; omega
  replace HR1 : Hid (RawW (w0.setCell ⟨N, 0, none⟩ (.int .i64 5)) rb s (pos s (123 :: t)) 0 0) := (HR1.out).keep (Kp.setCell (S := fun q => q = N) (Kp.refl _ w0) (fun _ => rfl) _) (fun e => by omega)
  go_upto_region 6 with fail
  generalize w0.setCell ⟨N, 0, none⟩ (.int .i64 5) = w1 at *
  obtain ⟨⟨c0, c1, c2, c3⟩, f1, f2, f3⟩ := (HR1.out).facts
  clear y0 y3 y4 yf0 yf3 yf4 HN1 HK1
  have HR2 : Hid (RawW (w1.setCell ⟨rb, 1, none⟩ (.int .i64 ((pos s (123 :: t) : Int) + 1))) rb s (pos s t) 0 0) := by
    have := (HR1.out).set1 ((pos s t : Nat) : Int)
    rw [HP.out, Int.natCast_add] at this
    show RawW _ _ _ _ _ _
    rw [HP.out]
    exact this
  have HM2 := hide ((HM0.out).on (Ow.set (Kp.refl _ w1) 1 (.int .i64 ((pos s (123 :: t) : Int) + 1))))
  go_upto_region 7 with fail
  generalize w1.setCell ⟨rb, 1, none⟩ (.int .i64 ((pos s (123 :: t) : Int) + 1)) = w2 at *
  clear c0 c1 c2 c3 f1 f2 f3 HM0 HR1 HR HP
  go_wp2_with fail
  refine (wsign_any rb s t 125 125 rfl w2 hs HL.out HR2.out).mono ?_
  rintro e w3 ⟨rfl, g1, g2⟩
  have hN0 := hN
  have HI : Hid (AtM d true s R w rb N (sign 125 t).isSome (signL 125 t) w3) := by
    have hsz := (HL.out).le
    have h1 := (HM2.out).on g2
    have hS := (HL.out).mono (signL_sfx 125 t)
    have hT := hS.le
    cases e : sign 125 t with
    | none =>
      refine ⟨⟨_, _, _, _, _, _, h1, by simp, by simpa using hT, fun e => absurd e (by decide), ?_⟩, hS, g1⟩
      rw [signL_none e]
      refine ⟨t.length + 1, Nat.lt_succ_of_le (bla_len t), ?_⟩
      rw [items_bla, ← HRR.out]
      unfold manyW
      rw [show sign (lastOf true) t = none from e]
    | some l =>
      refine ⟨⟨_, _, _, _, _, _, h1, by simp, by simpa using hT, fun e => absurd e (by decide), ?_⟩, hS, g1⟩
      rw [signL_some e]
      show R = _
      rw [← HRR.out]
      unfold manyW
      rw [show sign (lastOf true) t = some l from e]
  clear HM2 HR2 g1 g2 HRR
  generalize (sign 125 t).isSome = b0 at *
  generalize signL 125 t = l0 at *
  go_wp2_with fail
  go_loopw [9] (fun ov wr => ∃ (b : Bool) (l : List UInt8), ov = .bool b ∧ Hid (AtM d true s R w rb N b l wr)) (fun _ wr => s.size - atW rb wr)
  case atStart => exact ⟨b0, l0, rfl, HI⟩
  case round =>
    obtain ⟨b, l, rfl, HA⟩ := hrel
    clear HI
    cases b with
    | true =>
      obtain ⟨kv, rv, ks, kids, vl, A, hM, -, -, -, hE⟩ := (HA.out).ex
      have hE' : R = .ok (.mk (kindOf true) 0 [] ks kids) l := hE
      have HF : Hid (GvJ w rb s R (.pointer (some ⟨N, 0, none⟩)) wr) := by
        rw [hE']
        exact ⟨hM.ow, (HA.out).sfx, (HA.out).raw, hM.done⟩
      clear hM hE hE' HA
      go_wp2_with fail
      go_ret
      exact ⟨_, rfl, HF⟩
    | false =>
      obtain ⟨kv, rv, ks, kids, vl, A, hM, hkk, hkl, hm, hE⟩ := (HA.out).ex
      obtain ⟨f, hf, hE⟩ : ∃ f, l.length < f ∧ R = items (val d) true f ks kids l := hE
      cases f with
      | zero => omega
      | succ f =>
        have hE2 : R = match key ks l with
          | .bad e n => .bad e n
          | .ok ks' l1 => match val d l1 with
            | .bad e n => .bad e n
            | .ok j l2 => match sign 125 l2 with
              | some l3 => .ok (.mk 5 0 [] ks' (kids ++ [j])) l3
              | none => match sign 44 l2 with
                | some l3 => items (val d) true f ks' (kids ++ [j]) l3
                | none => .bad 3 (bla l2).length := by
          rw [hE]; rfl
        have HE := hide hE2
        have HM := hide hM
        have HS := hide (HA.out).sfx
        have HRW := hide (HA.out).raw
        have hat := (HRW.out).at
        have hpl := (HS.out).pos
        clear hE hE2 hM hm HA
        go_wp2_with fail
        refine (wblank_any rb s l wr hs HS.out HRW.out).mono ?_
        rintro e wa ⟨rfl, ga1, ga2⟩
        have HMa := hide ((HM.out).on ga2)
        have HSa := hide ((HS.out).mono (bla_sfx l))
        have HRa := hide ga1
        have hbl := bla_len l
        obtain ⟨⟨c0, c1, c2, c3⟩, f1, f2, f3⟩ := ga1.facts
        clear ga1 ga2 HM HRW
        cases hbl2 : bla l with
        | nil =>
          rw [hbl2] at HSa HRa c1
          have HEE : Hid (R = .bad 3 0) := by have := HE.out; unfold key at this; rw [hbl2] at this; exact this
          have i1 : decide (s.size ≤ pos s []) = true := by rw [pos_nil]; simp
          have HF : Hid (∀ n w9, RawW w9 rb s (pos s []) 3 (pos s []) → Ow rb (wa.drewN n) w9 → GvJ w rb s R (.pointer none) w9) := by
            intro n w9 q1 q2
            rw [HEE.out]
            refine GvJ.bad ((HMa.out).drew n).ow q2 (i := pos s []) (by rw [pos_nil]; omega) (by decide) ?_
            rw [pos_nil] at q1 ⊢; exact q1
          have HRn := hide (fun n => (HRa.out).drew n)
          clear HE HMa HEE hbl2
          go_wp2_with fail
          go_quiet (fail)
          go_wp2_with fail
          refine (wfail_any rb s _ _ 3 _ _ ((HRn.out) nq)).mono ?_
          rintro e w9 ⟨rfl, q1, q2⟩
          have HFF := hide ((HF.out) _ w9 q1 q2)
          clear HF q1 q2
          go_wp2_with fail
          go_ret
          exact ⟨_, rfl, HFF⟩
        | cons x t' =>
        rw [hbl2] at HSa HRa c1 hbl
        obtain ⟨hi, hg⟩ := (HSa.out).getD (k := 0) (by simp)
        simp only [Nat.add_zero, List.getElem_cons_zero] at hi hg
        have hpx := (HSa.out).pos
        have i1 : decide (s.size ≤ pos s (x :: t')) = false := by simp; omega
        have i2 : (0 : Int) ≤ (pos s (x :: t') : Int) := Int.natCast_nonneg _
        have i3 : (pos s (x :: t') : Int) < (s.size : Int) := by omega
        by_cases hx : x = 34
        case neg =>
          have b1 : ((s[pos s (x :: t')].toNat : Int) == 34) = false := by
            rw [hg]; simp; intro e; exact hx (UInt8.toNat_inj.1 (by have h34 : (34 : UInt8).toNat = 34 := rfl; omega))
          have HEE : Hid (R = .bad 3 (t'.length + 1)) := by have := HE.out; unfold key at this; rw [hbl2] at this; simp only [if_neg hx] at this; exact this
          have HF : Hid (∀ n w9, RawW w9 rb s (pos s (x :: t')) 3 (pos s (x :: t')) → Ow rb (wa.drewN n) w9 → GvJ w rb s R (.pointer none) w9) := by
            intro n w9 q1 q2
            rw [HEE.out]
            refine GvJ.bad ((HMa.out).drew n).ow q2 (i := pos s (x :: t')) (by omega) (by decide) ?_
            have : ((s.size - (t'.length + 1) : Nat) : Int) = pos s (x :: t') := by simp at hpx; omega
            rw [this]; exact q1
          have HRn := hide (fun n => (HRa.out).drew n)
          clear HE HMa HEE hbl2 hg
          go_wp2_with fail
          go_quiet (fail)
          go_wp2_with fail
          refine (wfail_any rb s _ _ 3 _ _ ((HRn.out) nq)).mono ?_
          rintro e w9 ⟨rfl, q1, q2⟩
          have HFF := hide ((HF.out) _ w9 q1 q2)
          clear HF q1 q2
          go_wp2_with fail
          go_ret
          exact ⟨_, rfl, HFF⟩
        case pos =>
        have b1 : ((s[pos s (x :: t')].toNat : Int) == 34) = true := by rw [hg, hx]; rfl
        have HE0 : Hid (R = match (match txt [] t' with
            | .bad e n => (.bad e n : Res (List (List UInt8)))
            | .ok k r => if k ∈ ks then .bad 5 (t'.length + 1) else match sign 58 r with
              | some r' => .ok (ks ++ [k]) r'
              | none => .bad 3 (bla r).length) with
          | .bad e n => .bad e n
          | .ok ks' l1 => match val d l1 with
            | .bad e n => .bad e n
            | .ok j l2 => match sign 125 l2 with
              | some l3 => .ok (.mk 5 0 [] ks' (kids ++ [j])) l3
              | none => match sign 44 l2 with
                | some l3 => items (val d) true f ks' (kids ++ [j]) l3
                | none => .bad 3 (bla l2).length) := by
          have := HE.out; unfold key at this; rw [hbl2] at this; simp only [if_pos hx] at this; exact this
        have HRn := hide (fun n => (HRa.out).drew n)
        clear HE hbl2 hg hx
        go_wp2_with fail
        go_quiet (fail)
        have HMb := hide ((HMa.out).drew nq)
        have HRb := hide ((HRn.out) nq)
        obtain ⟨⟨c0', c1', c2', c3'⟩, -⟩ := (HRb.out).facts
        generalize wa.drewN nq = wb at *
        clear HMa HRn HRa c0 c1 c2 c3 f1 f2 f3
        go_wp2_with fail
        refine (wtext_any rb s x t' wb hs HSa.out HRb.out).mono ?_
        rintro e wc ⟨tv, rfl, HT⟩
        have HMc := hide ((HMb.out).on (HT.out).1)
        have hT2 := (HT.out).2
        have hOT := hide (HT.out).1
        clear HMb HRb c0' c1' c2' c3'
        cases htx : txt [] t' with
        | bad e n =>
          rw [htx] at hT2
          obtain ⟨-, i, hi', he, hr⟩ := hT2
          obtain ⟨⟨c0, c1, c2, c3⟩, f1, f2, f3⟩ := hr.facts
          have i1 : ((e : Int) == 0) = false := by simp; omega
          have HF : Hid (GvJ w rb s R (.pointer none) wc) := by
            have := HE0.out; rw [htx] at this; rw [this]
            exact GvJ.bad (HMc.out).ow (Kp.refl _ wc) hi' he hr
          clear HE0 HT hr htx HMc hOT
          go_wp2_with fail
          go_ret
          exact ⟨_, rfl, HF⟩
        | ok k r =>
        rw [htx] at hT2
        obtain ⟨rfl, hsr, hrr⟩ := hT2
        have hlr := txt_ok htx
        have HE1 : Hid (R = match (if k ∈ ks then (.bad 5 (t'.length + 1) : Res (List (List UInt8))) else match sign 58 r with
              | some r' => .ok (ks ++ [k]) r'
              | none => .bad 3 (bla r).length) with
          | .bad e n => .bad e n
          | .ok ks' l1 => match val d l1 with
            | .bad e n => .bad e n
            | .ok j l2 => match sign 125 l2 with
              | some l3 => .ok (.mk 5 0 [] ks' (kids ++ [j])) l3
              | none => match sign 44 l2 with
                | some l3 => items (val d) true f ks' (kids ++ [j]) l3
                | none => .bad 3 (bla l2).length) := by
          have := HE0.out; rw [htx] at this; exact this
        obtain ⟨⟨c0, c1, c2, c3⟩, f1, f2, f3⟩ := hrr.facts
        have HSr := hide hsr
        have HRr := hide hrr
        clear HE0 HT htx hsr hrr hOT
        have HKC := hide (owns_cells (HMc.out).keys)
        obtain ⟨ka, kc, hkv, -⟩ := HKC.out
        obtain ⟨⟨z0, z3, z4⟩, zf0, zf3, zf4⟩ := jcell_facts (HMc.out).blk
        have HFr := hide (fun q => (owns_geW (HMc.out).keys q))
        subst hkv
        go_upto_block 2 with fail
        go_cut [12] (fun _ wx => Hid (¬ k ∈ ks) ∧ wx = wc)
        case first =>
          go_wp2_with fail
          go_loopw [12] (fun iv wx => ∃ n : Nat, iv = .int .i64 n ∧ n ≤ ks.length ∧ Hid (¬ k ∈ ks.take n) ∧ wx = wc) (fun iv _ => ks.length - (intOf iv).toNat)
          case atStart => exact ⟨0, rfl, Nat.zero_le _, (by simp : ¬ k ∈ ks.take 0), rfl⟩
          case round =>
            obtain ⟨n, rfl, hn, HNI, rfl⟩ := hrel
            by_cases hnk : n < ks.length
            case neg =>
              have j1 : decide ((n : Int) < (ks.length : Int)) = false := by simp; omega
              have j2 : decide (n < ks.length) = false := by simp; omega
              have HD : Hid (¬ k ∈ ks) := by
                have := HNI.out
                rwa [List.take_of_length_le (by omega)] at this
              clear hnk
              go_wp2_with fail
              go_meet
              case rel => exact ⟨HD, rfl⟩
            obtain ⟨y, hy⟩ : ∃ y, ks[n]? = some y := ⟨_, List.getElem?_eq_getElem hnk⟩
            obtain ⟨a', c', e', -, -, hcl⟩ := HKC.out
            obtain ⟨g, hg1, hg2, hg3⟩ := hcl n (.string (ba y)) (by unfold strv; rw [List.getElem?_map, hy]; rfl)
            injection e' with e1 e2 e3
            subst e1; subst e3; subst hg1
            have j1 : decide ((n : Int) < (ks.length : Int)) = true := by simp; omega
            have j2 : decide (n < ks.length) = true := by simp; omega
            have j3 : (n : Int) < (ks.length : Int) := by omega
            have hgz : wr.cell? ⟨g, 0 + n * 1, none⟩ = some (.string (ba y)) := by rw [Nat.zero_add, Nat.mul_one]; exact hg3
            by_cases hyk : y = k
            · have j4 : ((ba y).toList == (ba k).toList) = true := by rw [sb_eq, hyk]; simp
              have HEE : Hid (R = .bad 5 (t'.length + 1)) := by
                have hin : k ∈ ks := hyk ▸ List.mem_of_getElem? hy
                have := HE1.out; rw [if_pos hin] at this; exact this
              have HF : Hid (∀ w9, RawW w9 rb s (pos s r) 5 (pos s (x :: t')) → Ow rb wr w9 → GvJ w rb s R (.pointer none) w9) := by
                intro w9 q1 q2
                rw [HEE.out]
                refine GvJ.bad (HMc.out).ow q2 (i := pos s r) (by have := (HSr.out).pos; omega) (by decide) ?_
                have : ((s.size - (t'.length + 1) : Nat) : Int) = pos s (x :: t') := by simp at hpx; omega
                rw [this]; exact q1
              clear HE1 HEE hyk HMc HKC hcl hg2
              go_wp2_with fail
              refine (wfail_any rb s _ _ 5 _ wr HRr.out).mono ?_
              rintro e w9 ⟨rfl, q1, q2⟩
              have HFF := hide ((HF.out) w9 q1 q2)
              clear HF q1 q2
              go_wp2_with fail
              go_ret
              exact ⟨_, rfl, HFF⟩
            · have j4 : ((ba y).toList == (ba k).toList) = false := by
                rw [sb_eq]; simp; intro e; apply hyk
                have := congrArg bs e; rwa [bs_ba, bs_ba] at this
              have HN1 : Hid (¬ k ∈ ks.take (n + 1)) := by
                show ¬ _
                rw [List.take_add_one, hy]
                simp only [Option.toList_some, List.mem_append, List.mem_singleton]
                rintro (e | e)
                · exact (HNI.out) e
                · exact hyk e.symm
              clear HE1 hyk HMc HKC hcl hg2
              go_wp2_with fail
              refine ⟨⟨n + 1, by simp, by omega, HN1, by trivial⟩, ?_⟩
              show ks.length - (n + 1) < ks.length - n
              omega
        case rest =>
        obtain ⟨HNI, rfl⟩ := hcut
        have HE2 : Hid (R = match (match sign 58 r with
              | some r' => (.ok (ks ++ [k]) r' : Res (List (List UInt8)))
              | none => .bad 3 (bla r).length) with
          | .bad e n => .bad e n
          | .ok ks' l1 => match val d l1 with
            | .bad e n => .bad e n
            | .ok j l2 => match sign 125 l2 with
              | some l3 => .ok (.mk 5 0 [] ks' (kids ++ [j])) l3
              | none => match sign 44 l2 with
                | some l3 => items (val d) true f ks' (kids ++ [j]) l3
                | none => .bad 3 (bla l2).length) := by
          have := HE1.out; rw [if_neg HNI.out] at this; exact this
        obtain ⟨kv', w5, r5, o5, k5, l5⟩ := run_addKey k HMc.out (by simp at hpx; omega)
        have HM6 := hide ((HMc.out).addKey o5 k5 l5)
        have hbk := (k5.heap (HMc.out).blk (HMc.out).kvN)
        obtain ⟨⟨b0', b3', b4'⟩, bf0, bf3, bf4⟩ := jcell_facts hbk
        have HR6 : Hid (RawW (w5.setCell ⟨N, 3, none⟩ kv') rb s (pos s r) 0 0) := by
          have a1 : RawW w5 rb s (pos s r) 0 0 := (HRr.out).keep k5 (fun e => by have := (owns_geW (HMc.out).keys rb e).1; have := (HMc.out).rbl; omega)
          have a2 : Kp (fun q => q = N) w5 (w5.setCell ⟨N, 3, none⟩ kv') := Kp.setCell (S := fun q => q = N) (Kp.refl _ w5) (fun _ => rfl) _
          exact a1.keep a2 (fun e => by have := (HMc.out).lo; have := (HMc.out).rbl; omega)
        obtain ⟨ka', kc', hkv'⟩ : ∃ a c, kv' = .slice a (ks.length + 1) c := by
          obtain ⟨a, c, e, -⟩ := owns_cells o5
          exact ⟨a, c, e⟩
        subst hkv'
        clear HE1 HNI o5 k5 l5 hbk HMc HKC HRr
        go_wp2_with (at_builtin; refine Lib.wpList_append_run _ rfl _ _ _ _ rfl _ _ rfl rfl _ _ r5 ?_)
        generalize (w5.setCell ⟨N, 3, none⟩ (.slice ka' (ks.length + 1) kc')) = w6 at *
        clear r5 b0' b3' b4' bf0 bf3 bf4 z0 z3 z4 zf0 zf3 zf4 c0 c1 c2 c3 f1 f2 f3
        refine (wsign_any rb s r 58 58 rfl w6 hs HSr.out HR6.out).mono ?_
        rintro e wd ⟨rfl, g1, g2⟩
        have HMd := hide ((HM6.out).on g2)
        have HSd := hide ((HSr.out).mono (signL_sfx 58 r))
        have HRd := hide g1
        clear g1 g2 HM6 HR6
        cases hcl : sign 58 r with
        | none =>
          rw [signL_none hcl] at HSd HRd
          have HEE : Hid (R = .bad 3 (bla r).length) := by have := HE2.out; rw [hcl] at this; exact this
          have hpd := (HSd.out).pos
          have HF : Hid (∀ w9, RawW w9 rb s (pos s (bla r)) 3 (pos s (bla r)) → Ow rb wd w9 → GvJ w rb s R (.pointer none) w9) := by
            intro w9 q1 q2
            rw [HEE.out]
            refine GvJ.bad (HMd.out).ow q2 (i := pos s (bla r)) (by omega) (by decide) ?_
            have : ((s.size - (bla r).length : Nat) : Int) = pos s (bla r) := by omega
            rw [this]; exact q1
          obtain ⟨⟨c0, c1, c2, c3⟩, f1, f2, f3⟩ := (HRd.out).facts
          clear HE2 HMd HEE hcl
          rw [Option.isSome_none]
          go_wp2_with fail
          refine (wfail_any rb s _ _ 3 _ wd HRd.out).mono ?_
          rintro e w9 ⟨rfl, q1, q2⟩
          have HFF := hide ((HF.out) w9 q1 q2)
          clear HF q1 q2
          go_wp2_with fail
          go_ret
          exact ⟨_, rfl, HFF⟩
        | some l1 =>
        rw [signL_some hcl] at HSd HRd
        have hl1 := sign_len hcl
        have HE3 : Hid (R = match val d l1 with
            | .bad e n => .bad e n
            | .ok j l2 => match sign 125 l2 with
              | some l3 => .ok (.mk 5 0 [] (ks ++ [k]) (kids ++ [j])) l3
              | none => match sign 44 l2 with
                | some l3 => items (val d) true f (ks ++ [k]) (kids ++ [j]) l3
                | none => .bad 3 (bla l2).length) := by
          have := HE2.out; rw [hcl] at this; exact this
        have hlt : l1.length < l.length := by simp at hbl; omega
        have hkk' : (ks ++ [k]).length ≤ kids.length + 1 := by simp; omega
        have HE := HE3
        have HM := HMd
        clear HE2 HE3 HMd hcl
        generalize (ks ++ [k]) = ks2 at *
        rw [Option.isSome_some]
        go_wp2_with fail
        refine ((HV.out) rb s l1 wd hs HSd.out HRd.out).mono ?_
        rintro e w4 ⟨v, rfl, HG⟩
        have HO := hide (HG.out).1
        have HM4 := hide ((HM.out).on HO.out)
        have hzw := (HO.out).size
        cases hval : val d l1 with
        | bad e n =>
          have HE' : Hid (R = .bad e n) := by have := HE.out; rw [hval] at this; exact this
          have hG2 := (HG.out).2
          rw [hval] at hG2
          obtain ⟨i, hi, he, hr⟩ := hG2
          obtain ⟨⟨c0, c1, c2, c3⟩, f1, f2, f3⟩ := hr.facts
          have i1 : ((e : Int) == 0) = false := by simp; omega
          have HF : Hid (GvJ w rb s R (.pointer none) w4) := by
            rw [HE'.out]
            exact GvJ.bad (HM.out).ow HO.out hi he hr
          clear HE HE' HG hr HM HM4 HO hval
          go_wp2_with fail
          go_ret
          exact ⟨_, rfl, HF⟩
        | ok j l2 =>
          have HE' : Hid (R = match sign 125 l2 with
            | some l3 => .ok (.mk (kindOf true) 0 [] ks2 (kids ++ [j])) l3
            | none => match sign 44 l2 with
              | some l3 => items (val d) true f ks2 (kids ++ [j]) l3
              | none => .bad 3 (bla l2).length) := by have := HE.out; rw [hval] at this; exact this
          have hG2 := (HG.out).2
          rw [hval] at hG2
          obtain ⟨hs2, hr2, hj⟩ := hG2
          obtain ⟨V, rfl⟩ := hj.ptr
          have hlen := (val_keeps d l1).1 j l2 hval
          have HS2 := hide hs2
          have HR2 := hide hr2
          have HJ := hide hj
          obtain ⟨⟨c0, c1, c2, c3⟩, f1, f2, f3⟩ := hr2.facts
          obtain ⟨rv', w5, r5, o5, k5, l5⟩ := run_addKid (v := .pointer (some ⟨V, 0, none⟩)) HM4.out (by omega) rfl
          have hB : ∀ q, (wd.heap.size ≤ q ∧ q < w4.heap.size) → w.heap.size ≤ q ∧ q < w4.heap.size ∧ q ≠ N ∧ (Value.slice ka' (ks.length + 1) kc').ownBlock ≠ some q ∧ rv.ownBlock ≠ some q := by
            intro q hq
            have a1 := heap_lt (HM.out).blk
            have a2 := (HM.out).ow.size
            refine ⟨by omega, hq.2, by omega, fun e => ?_, fun e => ?_⟩
            · have := (owns_geW (HM.out).keys q e).2; omega
            · have := (owns_geW (HM.out).row q e).2; omega
          have HM6 := hide ((HM4.out).addKid HJ.out hB o5 k5 l5)
          have HOW := hide (HM4.out).ow
          have hbk := (k5.heap (HM4.out).blk (HM4.out).rvN)
          obtain ⟨⟨b0', b3', b4'⟩, bf0, bf3, bf4⟩ := jcell_facts hbk
          obtain ⟨⟨b0'', b3'', b4''⟩, -⟩ := jcell_facts (HM4.out).blk
          have HR6 : Hid (RawW (w5.setCell ⟨N, 4, none⟩ rv') rb s (pos s l2) 0 0) := by
            have a1 : RawW w5 rb s (pos s l2) 0 0 := hr2.keep k5 (fun e => by have := (owns_geW (HM4.out).row rb e).1; have := (HM.out).rbl; omega)
            have a2 : Kp (fun q => q = N) w5 (w5.setCell ⟨N, 4, none⟩ rv') := Kp.setCell (S := fun q => q = N) (Kp.refl _ w5) (fun _ => rfl) _
            exact a1.keep a2 (fun e => by have := (HM.out).lo; have := (HM.out).rbl; omega)
          obtain ⟨ra, rc, hrv⟩ : ∃ a c, rv = .slice a kids.length c := by
            obtain ⟨a, c, e, -⟩ := owns_cells (HM4.out).row
            exact ⟨a, c, e⟩
          obtain ⟨ra', rc', hrv'⟩ : ∃ a c, rv' = .slice a (kids.length + 1) c := by
            obtain ⟨a, c, e, -⟩ := owns_cells o5
            exact ⟨a, c, e⟩
          subst hrv hrv'
          clear HE HG hr2 hs2 hj hB o5 k5 l5 hbk HM HJ hval HO
          go_wp2_with (at_builtin; refine Lib.wpList_append_run _ rfl _ _ _ _ rfl _ _ rfl rfl _ _ r5 ?_)
          generalize (w5.setCell ⟨N, 4, none⟩ (.slice ra' (kids.length + 1) rc')) = w6 at *
          clear r5 b0' b3' b4' bf0 bf3 bf4 b0'' b3'' b4'' c0 c1 c2 c3 f1 f2 f3 HM4 HOW HR2
          refine (wsign_any rb s l2 125 125 rfl w6 hs HS2.out HR6.out).mono ?_
          rintro e w7 ⟨rfl, g1, g2⟩
          have HM7 := hide ((HM6.out).on g2)
          have HS7 := hide ((HS2.out).mono (signL_sfx 125 l2))
          have HR7 := hide g1
          have hl2 := (HS2.out).le
          clear g1 g2 HM6 HR6
          cases hsg : sign 125 l2 with
          | some l3 =>
            have h3 := sign_len hsg
            rw [signL_some hsg] at HR7 HS7
            have HF : Hid (AtM d true s R w rb N true l3 w7) := by
              refine ⟨⟨_, _, _, _, _, _, HM7.out, by simp <;> omega, by simp <;> omega, fun e => absurd e (by decide), ?_⟩, HS7.out, HR7.out⟩
              show R = _
              have := HE'.out; rw [hsg] at this; exact this
            have hat3 := (HR7.out).at
            have hp3 := (HS7.out).pos
            clear HE' HM7 HR7 HS7 hsg
            rw [Option.isSome_some]
            go_wp2_with fail
            refine ⟨⟨true, l3, rfl, HF⟩, ?_⟩
            show s.size - atW rb w7 < s.size - atW rb wr
            omega
          | none =>
            rw [signL_none hsg] at HR7 HS7
            rw [Option.isSome_none]
            go_wp2_with fail
            refine (wsign_any rb s (bla l2) 44 44 rfl w7 hs HS7.out HR7.out).mono ?_
            rintro e w8 ⟨rfl, g1, g2⟩
            rw [sign_bla]
            have HM8 := hide ((HM7.out).on g2)
            have HS8 := hide ((HS7.out).mono (signL_sfx 44 (bla l2)))
            have HR8 := hide g1
            have hb2 := bla_len l2
            clear g1 g2 HM7 HR7 HS7
            cases hcm : sign 44 l2 with
            | some l3 =>
              have h3 := sign_len hcm
              rw [signL_some (by rw [sign_bla]; exact hcm)] at HR8 HS8
              have HF : Hid (AtM d true s R w rb N false l3 w8) := by
                refine ⟨⟨_, _, _, _, _, _, HM8.out, by simp <;> omega, by simp <;> omega, fun e => absurd e (by decide), ?_⟩, HS8.out, HR8.out⟩
                refine ⟨f, by omega, ?_⟩
                have := HE'.out; rw [hsg, hcm] at this; exact this
              have hat3 := (HR8.out).at
              have hp3 := (HS8.out).pos
              clear HE' HM8 HR8 HS8 hsg hcm
              rw [Option.isSome_some]
              go_wp2_with fail
              refine ⟨⟨false, l3, rfl, HF⟩, ?_⟩
              show s.size - atW rb w8 < s.size - atW rb wr
              omega
            | none =>
              rw [signL_none (by rw [sign_bla]; exact hcm), bla_blank] at HR8 HS8
              have HEE : Hid (R = .bad 3 (bla l2).length) := by have := HE'.out; rw [hsg, hcm] at this; exact this
              have hp8 := (HS8.out).pos
              have HF : Hid (∀ w9, RawW w9 rb s (pos s (bla l2)) 3 (pos s (bla l2)) → Ow rb w8 w9 → GvJ w rb s R (.pointer none) w9) := by
                intro w9 q1 q2
                rw [HEE.out]
                refine GvJ.bad (HM8.out).ow q2 (i := pos s (bla l2)) (by omega) (by decide) ?_
                have : ((s.size - (bla l2).length : Nat) : Int) = pos s (bla l2) := by omega
                rw [this]; exact q1
              obtain ⟨⟨c0, c1, c2, c3⟩, f1, f2, f3⟩ := (HR8.out).facts
              clear HE' HM8 HEE hsg hcm
              rw [Option.isSome_none]
              go_wp2_with fail
              refine (wfail_any rb s _ _ 3 _ w8 HR8.out).mono ?_
              rintro e w9 ⟨rfl, q1, q2⟩
              have HFF := hide ((HF.out) w9 q1 q2)
              clear HF q1 q2
              go_wp2_with fail
              go_ret
              exact ⟨_, rfl, HFF⟩
end Go.Proofs.YthdbnafiindgbaaGreatDoor
