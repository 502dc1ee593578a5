/- The document's reader of messages: a list. -/
import Derived.Test.YthdbnafiindgbaaGreatDoorWkp
import Derived.Test.YthdbnafiindgbaaGreatDoorWka
import Derived.Deep.CutBlock
import Derived.Deep.DeepCutAuto
import Derived.Lib.AppendZeros
namespace Go.Proofs.YthdbnafiindgbaaGreatDoor
open Go.RowKit
open Wi

/-- Where a list or a map stands while it is being read: all that it comes to is R. -/
structure AtM (d : Nat) (m : Bool) (s : ByteArray) (R : Res J) (w0 : World) (rb N : Nat) (over : Bool) (l : List UInt8) (w : World) : Prop where
  ex : ∃ kv rv ks kids vl A, InM w0 rb N (kindOf m) 0 [] kv rv ks kids vl A w ∧ ks.length ≤ kids.length ∧ kids.length + l.length ≤ s.size ∧ (m = false → kv = .slice none 0 0 ∧ ks = []) ∧
    if over then R = .ok (.mk (kindOf m) 0 [] ks kids) l else ∃ f, l.length < f ∧ R = items (val d) m f ks kids l
  sfx : Sfx s l
  raw : RawW w rb s (pos s l) 0 0
theorem GvJ.bad {w0 w w' : World} {rb : Nat} {s : ByteArray} {v : Value} {e n i : Nat} (h1 : Ow rb w0 w) (h2 : Ow rb w w') (hi : i ≤ s.size + 12) (he : e ≠ 0) (hr : RawW w' rb s i e ((s.size - n : Nat) : Int)) : GvJ w0 rb s (.bad e n) v w' :=
  ⟨h1.to h2, i, hi, he, hr⟩

set_option maxRecDepth 100000 in
set_option maxHeartbeats 2000000 in
theorem wmany_list (d : Nat) (hd : d ≤ 39) (hv : ValC d) (rb : Nat) (s : ByteArray) (t : List UInt8) (w : World) (hs : s.size ≤ 1073741824) (hl : Sfx s (91 :: t)) (h : RawW w rb s (pos s (91 :: t)) 0 0) :
    Calls Tryz.prog 21 #[.pointer (some ⟨rb, 0, none⟩), .int .u8 91, .int .i64 (39 - (d : Int))] w fun en w' => ∃ v, en = .returned v ∧ Hid (GvJ w rb s (manyW (val d) false t) v w') := by
  have HV := hide hv
  have HL := hide hl.tail
  have HP := hide (pos_cons hl)
  have hp := hl.pos
  have hrl := h.lt
  have HR := hide h
  clear hv h hl
  have hdd : (39 - (d : Int)) + 1 = 40 - (d : Int) := by omega
  obtain ⟨R, hR⟩ : ∃ R, manyW (val d) false t = R := ⟨_, rfl⟩
  rw [hR]
  have HRR := hide hR
  clear hR
  have HM0 : Hid (InM w rb w.heap.size 4 0 [] (.slice none 0 0) (.slice none 0 0) [] [] [] (fun _ => False) (w.alloc (jcell 4 0 [] (.slice none 0 0) (.slice none 0 0)))) := by
    refine ⟨heap_alloc_new w _, World.ownsRow_nil _ _ _ _, World.ownsRow_nil _ _ _ _, fun i j hj => by simp at hj, fun q hq => hq.elim, by simp [Value.ownBlock], by simp [Value.ownBlock], fun q e => by simp [Value.ownBlock] at e, Nat.le_refl _, Kp.alloc (Kp.refl _ w) _, hrl⟩
  have HR1 := hide ((HR.out).alloc (jcell 4 0 [] (.slice none 0 0) (.slice none 0 0)))
  go_enter Tryz.func21, Tryz.ntmps21
  go_upto_region 2 with fail
  rw [jzero]
  generalize w.alloc (jcell 4 0 [] (.slice none 0 0) (.slice none 0 0)) = w1 at *
  obtain ⟨⟨c0, c1, c2, c3⟩, f1, f2, f3⟩ := (HR1.out).facts
  generalize hN : w.heap.size = N at *
  have HR2 : Hid (RawW (w1.setCell ⟨rb, 1, none⟩ (.int .i64 ((pos s (91 :: t) : Int) + 1))) rb s (pos s t) 0 0) := by
    have := (HR1.out).set1 ((pos s t : Nat) : Int)
    rw [HP.out, Int.natCast_add] at this
    show RawW _ _ _ _ _ _
    rw [HP.out]
    exact this
  have HM2 := hide ((HM0.out).on (Ow.set (Kp.refl _ w1) 1 (.int .i64 ((pos s (91 :: t) : Int) + 1))))
  go_upto_region 7 with fail
  generalize w1.setCell ⟨rb, 1, none⟩ (.int .i64 ((pos s (91 :: t) : Int) + 1)) = w2 at *
  clear c0 c1 c2 c3 f1 f2 f3 HM0 HR1 HR HP
  go_wp2_with fail
  refine (wsign_any rb s t 93 93 rfl w2 hs HL.out HR2.out).mono ?_
  rintro e w3 ⟨rfl, g1, g2⟩
  have hN0 := hN
  have HI : Hid (AtM d false s R w rb N (sign 93 t).isSome (signL 93 t) w3) := by
    have hsz := (HL.out).le
    have h1 := (HM2.out).on g2
    have hS := (HL.out).mono (signL_sfx 93 t)
    have hT := hS.le
    cases e : sign 93 t with
    | none =>
      refine ⟨⟨_, _, _, _, _, _, h1, by simp, by simpa using hT, fun _ => ⟨rfl, rfl⟩, ?_⟩, hS, g1⟩
      rw [signL_none e]
      refine ⟨t.length + 1, Nat.lt_succ_of_le (bla_len t), ?_⟩
      rw [items_bla, ← HRR.out]
      unfold manyW
      rw [show sign (lastOf false) t = none from e]
    | some l =>
      refine ⟨⟨_, _, _, _, _, _, h1, by simp, by simpa using hT, fun _ => ⟨rfl, rfl⟩, ?_⟩, hS, g1⟩
      rw [signL_some e]
      show R = _
      rw [← HRR.out]
      unfold manyW
      rw [show sign (lastOf false) t = some l from e]
  clear HM2 HR2 g1 g2 HRR
  generalize (sign 93 t).isSome = b0 at *
  generalize signL 93 t = l0 at *
  go_wp2_with fail
  go_loopw [9] (fun ov wr => ∃ (b : Bool) (l : List UInt8), ov = .bool b ∧ Hid (AtM d false s R w rb N b l wr)) (fun _ wr => s.size - atW rb wr)
  case atStart => exact ⟨b0, l0, rfl, HI⟩
  case round =>
    obtain ⟨b, l, rfl, HA⟩ := hrel
    clear HI
    cases b with
    | true =>
      obtain ⟨kv, rv, ks, kids, vl, A, hM, -, -, -, hE⟩ := (HA.out).ex
      have hE' : R = .ok (.mk (kindOf false) 0 [] ks kids) l := hE
      have HF : Hid (GvJ w rb s R (.pointer (some ⟨N, 0, none⟩)) wr) := by
        rw [hE']
        exact ⟨hM.ow, (HA.out).sfx, (HA.out).raw, hM.done⟩
      clear hM hE hE' HA
      go_wp2_with fail
      go_ret
      exact ⟨_, rfl, HF⟩
    | false =>
      obtain ⟨kv, rv, ks, kids, vl, A, hM, hkk, hkl, hm, hE⟩ := (HA.out).ex
      obtain ⟨rfl, rfl⟩ := hm rfl
      obtain ⟨f, hf, hE⟩ : ∃ f, l.length < f ∧ R = items (val d) false f [] kids l := hE
      cases f with
      | zero => omega
      | succ f =>
        have hE2 : R = match val d l with
          | .bad e n => .bad e n
          | .ok j l2 => match sign 93 l2 with
            | some l3 => .ok (.mk 4 0 [] [] (kids ++ [j])) l3
            | none => match sign 44 l2 with
              | some l3 => items (val d) false f [] (kids ++ [j]) l3
              | none => .bad 3 (bla l2).length := by
          rw [hE]; rfl
        have HE := hide hE2
        have HM := hide hM
        have HS := hide (HA.out).sfx
        have HRW := hide (HA.out).raw
        have hat := (HRW.out).at
        have hpl := (HS.out).pos
        clear hE hE2 hM hm HA
        go_wp2_with fail
        refine ((HV.out) rb s l wr hs HS.out HRW.out).mono ?_
        rintro e w4 ⟨v, rfl, HG⟩
        have HO := hide (HG.out).1
        have HM4 := hide ((HM.out).on HO.out)
        have hzw := (HO.out).size
        cases hval : val d l with
        | bad e n =>
          have HE' : Hid (R = .bad e n) := by have := HE.out; rw [hval] at this; exact this
          have hG2 := (HG.out).2
          rw [hval] at hG2
          obtain ⟨i, hi, he, hr⟩ := hG2
          obtain ⟨⟨c0, c1, c2, c3⟩, f1, f2, f3⟩ := hr.facts
          have i1 : ((e : Int) == 0) = false := by simp; omega
          have HF : Hid (GvJ w rb s R (.pointer none) w4) := by
            rw [HE'.out]
            exact GvJ.bad (HM.out).ow HO.out hi he hr
          clear HE HE' HG hr HM HM4 HO hval
          go_wp2_with fail
          go_ret
          exact ⟨_, rfl, HF⟩
        | ok j l2 =>
          have HE' : Hid (R = match sign 93 l2 with
            | some l3 => .ok (.mk (kindOf false) 0 [] [] (kids ++ [j])) l3
            | none => match sign 44 l2 with
              | some l3 => items (val d) false f [] (kids ++ [j]) l3
              | none => .bad 3 (bla l2).length) := by have := HE.out; rw [hval] at this; exact this
          have hG2 := (HG.out).2
          rw [hval] at hG2
          obtain ⟨hs2, hr2, hj⟩ := hG2
          obtain ⟨V, rfl⟩ := hj.ptr
          have hlen := (val_keeps d l).1 j l2 hval
          have HS2 := hide hs2
          have HR2 := hide hr2
          have HJ := hide hj
          obtain ⟨⟨c0, c1, c2, c3⟩, f1, f2, f3⟩ := hr2.facts
          obtain ⟨rv', w5, r5, o5, k5, l5⟩ := run_addKid (v := .pointer (some ⟨V, 0, none⟩)) HM4.out (by omega) rfl
          have hB : ∀ q, (wr.heap.size ≤ q ∧ q < w4.heap.size) → w.heap.size ≤ q ∧ q < w4.heap.size ∧ q ≠ N ∧ (Value.slice none 0 0).ownBlock ≠ some q ∧ rv.ownBlock ≠ some q := by
            intro q hq
            have a1 := heap_lt (HM.out).blk
            have a2 := (HM.out).ow.size
            refine ⟨by omega, hq.2, by omega, fun e => ?_, fun e => ?_⟩
            · have := (owns_geW (HM.out).keys q e).2; omega
            · have := (owns_geW (HM.out).row q e).2; omega
          have HM6 := hide ((HM4.out).addKid HJ.out hB o5 k5 l5)
          have HOW := hide (HM4.out).ow
          have hbk := (k5.heap (HM4.out).blk (HM4.out).rvN)
          obtain ⟨⟨b0', b3', b4'⟩, bf0, bf3, bf4⟩ := jcell_facts hbk
          obtain ⟨⟨b0'', b3'', b4''⟩, -⟩ := jcell_facts (HM4.out).blk
          have HR6 : Hid (RawW (w5.setCell ⟨N, 4, none⟩ rv') rb s (pos s l2) 0 0) := by
            have a1 : RawW w5 rb s (pos s l2) 0 0 := hr2.keep k5 (fun e => by have := (owns_geW (HM4.out).row rb e).1; have := (HM.out).rbl; omega)
            have a2 : Kp (fun q => q = N) w5 (w5.setCell ⟨N, 4, none⟩ rv') := Kp.setCell (S := fun q => q = N) (Kp.refl _ w5) (fun _ => rfl) _
            exact a1.keep a2 (fun e => by have := (HM.out).lo; have := (HM.out).rbl; omega)
          obtain ⟨ra, rc, hrv⟩ : ∃ a c, rv = .slice a kids.length c := by
            obtain ⟨a, c, e, -⟩ := owns_cells (HM4.out).row
            exact ⟨a, c, e⟩
          obtain ⟨ra', rc', hrv'⟩ : ∃ a c, rv' = .slice a (kids.length + 1) c := by
            obtain ⟨a, c, e, -⟩ := owns_cells o5
            exact ⟨a, c, e⟩
          subst hrv hrv'
          clear HE HG hr2 hs2 hj hB o5 k5 l5 hbk HM HJ hval HO
          go_wp2_with (at_builtin; refine Lib.wpList_append_run _ rfl _ _ _ _ rfl _ _ rfl rfl _ _ r5 ?_)
          generalize (w5.setCell ⟨N, 4, none⟩ (.slice ra' (kids.length + 1) rc')) = w6 at *
          clear r5 b0' b3' b4' bf0 bf3 bf4 b0'' b3'' b4'' c0 c1 c2 c3 f1 f2 f3 HM4 HOW HR2
          refine (wsign_any rb s l2 93 93 rfl w6 hs HS2.out HR6.out).mono ?_
          rintro e w7 ⟨rfl, g1, g2⟩
          have HM7 := hide ((HM6.out).on g2)
          have HS7 := hide ((HS2.out).mono (signL_sfx 93 l2))
          have HR7 := hide g1
          have hl2 := (HS2.out).le
          clear g1 g2 HM6 HR6
          cases hsg : sign 93 l2 with
          | some l3 =>
            have h3 := sign_len hsg
            rw [signL_some hsg] at HR7 HS7
            have HF : Hid (AtM d false s R w rb N true l3 w7) := by
              refine ⟨⟨_, _, _, _, _, _, HM7.out, by simp <;> omega, by simp <;> omega, fun e => ⟨rfl, rfl⟩, ?_⟩, HS7.out, HR7.out⟩
              show R = _
              have := HE'.out; rw [hsg] at this; exact this
            have hat3 := (HR7.out).at
            have hp3 := (HS7.out).pos
            clear HE' HM7 HR7 HS7 hsg
            rw [Option.isSome_some]
            go_wp2_with fail
            refine ⟨⟨true, l3, rfl, HF⟩, ?_⟩
            show s.size - atW rb w7 < s.size - atW rb wr
            omega
          | none =>
            rw [signL_none hsg] at HR7 HS7
            rw [Option.isSome_none]
            go_wp2_with fail
            refine (wsign_any rb s (bla l2) 44 44 rfl w7 hs HS7.out HR7.out).mono ?_
            rintro e w8 ⟨rfl, g1, g2⟩
            rw [sign_bla]
            have HM8 := hide ((HM7.out).on g2)
            have HS8 := hide ((HS7.out).mono (signL_sfx 44 (bla l2)))
            have HR8 := hide g1
            have hb2 := bla_len l2
            clear g1 g2 HM7 HR7 HS7
            cases hcm : sign 44 l2 with
            | some l3 =>
              have h3 := sign_len hcm
              rw [signL_some (by rw [sign_bla]; exact hcm)] at HR8 HS8
              have HF : Hid (AtM d false s R w rb N false l3 w8) := by
                refine ⟨⟨_, _, _, _, _, _, HM8.out, by simp <;> omega, by simp <;> omega, fun e => ⟨rfl, rfl⟩, ?_⟩, HS8.out, HR8.out⟩
                refine ⟨f, by omega, ?_⟩
                have := HE'.out; rw [hsg, hcm] at this; exact this
              have hat3 := (HR8.out).at
              have hp3 := (HS8.out).pos
              clear HE' HM8 HR8 HS8 hsg hcm
              rw [Option.isSome_some]
              go_wp2_with fail
              refine ⟨⟨false, l3, rfl, HF⟩, ?_⟩
              show s.size - atW rb w8 < s.size - atW rb wr
              omega
            | none =>
              rw [signL_none (by rw [sign_bla]; exact hcm), bla_blank] at HR8 HS8
              have HEE : Hid (R = .bad 3 (bla l2).length) := by have := HE'.out; rw [hsg, hcm] at this; exact this
              have hp8 := (HS8.out).pos
              have HF : Hid (∀ w9, RawW w9 rb s (pos s (bla l2)) 3 (pos s (bla l2)) → Ow rb w8 w9 → GvJ w rb s R (.pointer none) w9) := by
                intro w9 q1 q2
                rw [HEE.out]
                refine GvJ.bad (HM8.out).ow q2 (i := pos s (bla l2)) (by omega) (by decide) ?_
                have : ((s.size - (bla l2).length : Nat) : Int) = pos s (bla l2) := by omega
                rw [this]; exact q1
              obtain ⟨⟨c0, c1, c2, c3⟩, f1, f2, f3⟩ := (HR8.out).facts
              clear HE' HM8 HEE hsg hcm
              rw [Option.isSome_none]
              go_wp2_with fail
              refine (wfail_any rb s _ _ 3 _ w8 HR8.out).mono ?_
              rintro e w9 ⟨rfl, q1, q2⟩
              have HFF := hide ((HF.out) w9 q1 q2)
              clear HF q1 q2
              go_wp2_with fail
              go_ret
              exact ⟨_, rfl, HFF⟩
end Go.Proofs.YthdbnafiindgbaaGreatDoor
