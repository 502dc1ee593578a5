/- The program's reader of messages: a text between quotes. -/
import Derived.Test.YthdbnafiindgbaaGreatDoorWok
import Derived.Test.YthdbnafiindgbaaGreatDoorWoc
import Derived.Test.YthdbnafiindgbaaGreatDoorWol
namespace Go.Proofs.YthdbnafiindgbaaGreatDoor
open Go.RowKit
open Wi

abbrev bdf : Value → Value → Array Value := fun p v => #[p, v]
/-- While a text is read: where, and what has been read. -/
structure QI (w : World) (sb : Nat) (s : ByteArray) (d : Int) (B : Nat) (a l : List UInt8) (wr : World) : Prop where
  src : RawS wr sb s (pos s l) d
  bd : ∃ p bv, BdG bdf 89 0 wr B a p bv
  ow : Ow sb w wr
  es : Es wr
  lt : sb < B
  Bw : w.heap.size ≤ B
  ne : sb ≠ 1
  gl : 1 < B
theorem Es.lt {w : World} (h : Es w) : 1 < w.heap.size := by
  obtain ⟨te, pe, h⟩ := h
  exact World.block_lt_of_cell? w ⟨1, 0, none⟩ h
theorem Es.keep {S : Nat → Prop} {w w' : World} (h : Es w) (hk : Kp S w w') (hn : ¬ S 1) : Es w' := by
  obtain ⟨te, pe, h⟩ := h
  exact ⟨te, pe, hk.cellv h hn⟩
theorem own_ge {w : World} {B : Nat} {a : List UInt8} {p bv : Value} (h : BdG bdf 89 0 w B a p bv) {k : Nat} (hk : bv.ownBlock = some k) : B ≤ k := (own_tyB h.row hk).1
theorem QI.read {w wr w' : World} {sb : Nat} {s : ByteArray} {d : Int} {B : Nat} {a l l2 : List UInt8} (h : QI w sb s d B a l wr) (hk : Ow sb wr w') (hr : RawS w' sb s (pos s l2) d) : QI w sb s d B a l2 w' := by
  obtain ⟨p, bv, hb⟩ := h.bd
  refine ⟨hr, ⟨p, bv, hb.keep hk (fun e => ?_) (fun k hk2 e => ?_)⟩, h.ow.to hk, h.es.ow hk h.ne, h.lt, h.Bw, h.ne, h.gl⟩
  · have := h.lt; omega
  · have := own_ge hb hk2; have := h.lt; omega
theorem QI.wrote {w wr w' : World} {sb : Nat} {s : ByteArray} {d : Int} {B : Nat} {a a2 l : List UInt8} {p bv : Value} (h : QI w sb s d B a l wr) (hb : BdG bdf 89 0 wr B a p bv) (ht : BdT bdf 89 0 wr B bv a2 w') : QI w sb s d B a2 l w' := by
  obtain ⟨p2, bv2, h2, -, k⟩ := ht
  have hno : ∀ q, q < B → ¬ (q = B ∨ bv.ownBlock = some q) := by
    rintro q hq (e | e)
    · omega
    · have := own_ge hb e; omega
  have h1 := h.lt
  have h2' := h.Bw
  refine ⟨h.src.keep k (hno _ h.lt), ⟨p2, bv2, h2⟩, Kp.trans h.ow k (fun i hi e => absurd e (hno i (by omega))), h.es.keep k (hno _ h.gl), h.lt, h.Bw, h.ne, h.gl⟩
/-- What comes of a text. -/
def OkT (w : World) (sb : Nat) (s : ByteArray) (d : Int) (r : Res (List UInt8)) (en : Ending) (w' : World) : Prop :=
  Ow sb w w' ∧ match r with
  | .ok x t => en = .returned (.string (ba x)) ∧ RawS w' sb s (pos s t) d
  | .bad e n => en = flt (s.size - n : Nat) e
theorem enc_le (r : Int) : (Lib.encodeRune r).length ≤ 4 := by rw [enc_len]; exact (Lib.runeCells_le r).2
theorem pln_len (l : List UInt8) : (plnT l).length + (plnR l).length = l.length := by rw [← List.length_append, pln_eq]
theorem plnR_head {l : List UInt8} {c : UInt8} {t : List UInt8} (h : plnR l = c :: t) : isPl c = false := by
  have := List.head_dropWhile_not (p := isPl) (l := l) (by unfold plnR at h; rw [h]; simp)
  unfold plnR at h
  simpa [h] using this
set_option maxRecDepth 100000 in
set_option maxHeartbeats 8000000 in
theorem oquoted_any (sb : Nat) (s : ByteArray) (c : UInt8) (t : List UInt8) (d : Int) (w : World) (hs : s.size ≤ 1073741824) (hl : Sfx s (c :: t)) (h : RawS w sb s (pos s (c :: t)) d) (hE : Es w) (hne : sb ≠ 1) :
    Calls Tryz.prog 27 #[.pointer (some ⟨sb, 0, none⟩)] w fun en w' => OkT w sb s d (txt [] t) en w' := by
  have HR := hide h
  have HPC := hide (pos_cons hl)
  have HT := hide hl.tail
  have hlt : pos s (c :: t) < s.size := by have := hl.pos; simp only [List.length_cons] at this; omega
  have htl : t.length ≤ s.size := hl.tail.le
  have hsb := h.lt
  obtain ⟨⟨c0, c1, c2⟩, f1, -⟩ := h.facts
  have HQ : Hid (QI w sb s d w.heap.size [] t ((w.setCell ⟨sb, 1, none⟩ (.int .i64 (pos s t : Nat))).alloc (.cells #[.pointer none, .slice none 0 0] 89))) := by
    have hz : (w.setCell ⟨sb, 1, none⟩ (.int .i64 (pos s t : Nat))).heap.size = w.heap.size := by simp [World.setCell]
    have hk : Ow sb w (w.setCell ⟨sb, 1, none⟩ (.int .i64 (pos s t : Nat))) := Ow.set (Kp.refl _ _) 1 _
    have hr := h.set1 ((pos s t : Nat) : Int)
    have hes := hE.ow hk hne
    generalize w.setCell ⟨sb, 1, none⟩ (.int .i64 (pos s t : Nat)) = w0 at *
    have hal := (Below.refl _ w0).alloc (Nat.le_refl _) (.cells #[.pointer none, .slice none 0 0] 89)
    refine ⟨hr.below hal, ⟨.pointer none, .slice none 0 0, by rw [← hz]; exact heap_alloc_new w0 _, .inl rfl, ⟨rfl, .inl ⟨rfl, rfl⟩⟩, fun _ => rfl⟩, hk.to (Ow.ofBelow sb hal), hes.below hal, by omega, by omega, hne, by have := hE.lt; omega⟩
  rw [HPC.out, Int.natCast_add] at HQ
  clear h hl hE hne HR
  go_enter Tryz.func27, Tryz.ntmps27
  go_wp2_with fail
  clear c0 c1 c2 f1
  generalize w.heap.size = B at *
  go_loopw [] (fun wr => ∃ (a l : List UInt8), Hid (Sfx s l) ∧ Hid (txt [] t = txt a l) ∧ Hid (a.length + 4 * l.length ≤ 4 * t.length) ∧ Hid (QI w sb s d B a l wr)) (fun wr => s.size - atS sb wr)
  case atStart => exact ⟨[], t, HT, (rfl : txt [] t = txt [] t), (by show _ ≤ _; simp), HQ⟩
  case round =>
    obtain ⟨a, l, HS, HX, HLN, HI⟩ := hrel
    clear HQ
    have hat := ((HI.out).src).at
    have HPL := hide (oplain_any sb s l d wr hs HS.out (HI.out).src)
    have HS2 := hide ((HS.out).mono (plnR_sfx l))
    have HX2 : Hid (txt [] t = txt (a ++ plnT l) (plnR l)) := by show _ = _; rw [HX.out]; exact txt_pln l a
    have HL2 := hide (pln_len l)
    have HH2 : Hid (∀ c u, plnR l = c :: u → isPl c = false) := fun c u e => plnR_head e
    clear HX
    generalize plnT l = pt at *
    generalize plnR l = l2 at *
    go_wp2_with fail
    refine (HPL.out).mono ?_
    rintro e w1 ⟨rfl, h1, k1⟩
    have HI1 := hide ((HI.out).read k1 h1)
    clear h1 k1 HPL
    obtain ⟨p1, bv1, hb1⟩ := (HI1.out).bd
    have HB1 := hide hb1
    have HW := hide (wstr_any bdH pt B a p1 bv1 w1 hb1 (by have e1 := HLN.out; have e2 := HL2.out; omega))
    clear hb1
    go_wp2_with fail
    refine (HW.out).mono ?_
    rintro e w2 ⟨⟨v2, rfl⟩, h2⟩
    have HI2 := hide ((HI1.out).wrote HB1.out h2.out)
    clear h2 HW HB1 HI1 HI
    have HNX := hide (onext_any sb s l2 d w2 HS2.out (HI2.out).src)
    have hln2 : (a ++ pt).length + 4 * l2.length ≤ 4 * t.length := by have e1 := HLN.out; have e2 := HL2.out; simp only [List.length_append]; omega
    have hps2 := (HS2.out).pos
    have hps1 := (HS.out).pos
    clear HLN
    generalize a ++ pt = A at *
    go_wp2_with fail
    refine (HNX.out).mono ?_
    rintro e w3 ⟨rfl, m3, rfl⟩
    have HI3 := hide ((HI2.out).read (Ow.ofBelow sb (belowN (Below.refl _ w2) m3)) (((HI2.out).src).drew m3))
    clear HI2 HNX
    generalize w2.drewN m3 = w3 at *
    obtain ⟨⟨c0, c1, c2⟩, f1, -⟩ := ((HI3.out).src).facts
    by_cases h34 : ∃ u, l2 = 34 :: u
    · obtain ⟨u, rfl⟩ := h34
      have HP := hide (pos_cons HS2.out)
      have HE : Hid (txt [] t = .ok A u) := by show _ = _; rw [HX2.out, txt, if_pos rfl]
      have hhd : hdB (34 :: u) = 34 := rfl
      rw [hhd]
      have hlt3 : pos s (34 :: u) < s.size := by simp only [List.length_cons] at hps2; omega
      have HI4 : Hid (QI w sb s d B A u (w3.setCell ⟨sb, 1, none⟩ (.int .i64 ((pos s (34 :: u) : Int) + 1)))) := by
        refine (HI3.out).read (Ow.set (Kp.refl _ w3) 1 _) ?_
        rw [HP.out]; exact ((HI3.out).src).set1 _
      obtain ⟨p4, bv4, hb4⟩ := (HI4.out).bd
      have HB4 := hide hb4
      have HST := hide (wstring_any bdH B A p4 bv4 _ hb4)
      clear hb4 HX2 HH2 hhd hat
      go_wp2_with fail
      refine (HST.out).mono ?_
      rintro e w5 ⟨rfl, -, k5⟩
      have HF : Hid (OkT w sb s d (txt [] t) (.returned (.string (ba A))) w5) := by
        show OkT _ _ _ _ _ _ _
        rw [HE.out]
        have h0 := HI4.out
        have hn : ∀ q, q < B → ¬ bv4.ownBlock = some q := fun q hq e => by have := own_ge HB4.out e; omega
        have hBw := h0.Bw
        exact ⟨Kp.trans h0.ow k5 (fun i hi e => absurd e (hn i (by omega))), rfl, h0.src.keep k5 (hn _ h0.lt)⟩
      clear HST HE HI3 HI4 k5
      go_wp2_with fail
      go_ret
      exact HF.out
    · by_cases h92 : ∃ u, l2 = 92 :: u
      · obtain ⟨u, rfl⟩ := h92
        have hhd : hdB (92 :: u) = 92 := rfl
        rw [hhd]
        have HES := hide (oescape_any sb s (92 :: u) d w3 hs HS2.out (HI3.out).src (HI3.out).es)
        have HXE : Hid (txt A (92 :: u) = match esc (92 :: u) with | none => .bad 3 (u.length + 1) | some (b, k) => txt (A ++ b) (u.drop (k - 1))) := by
          show _ = _
          rw [txt, if_neg (by decide), if_neg (by decide), if_neg (by decide)]
          rfl
        have HEQ := hide (escR_esc (92 :: u))
        clear hhd h34 HH2
        cases hh : escR (92 :: u) with
        | none =>
          rw [hh] at HEQ
          have HE : Hid (txt [] t = .bad 3 (u.length + 1)) := by show _ = _; rw [HX2.out, HXE.out, HEQ.out]; rfl
          unfold OkE at HES
          rw [hh] at HES
          clear hat HX2 HXE HEQ hh
          go_wp2_with fail
          refine (HES.out).mono ?_
          rintro e w4 ⟨k4, rfl⟩
          have HF : Hid (OkT w sb s d (txt [] t) (flt (pos s (92 :: u) : Nat) 3) w4) := by
            show OkT _ _ _ _ _ _ _
            rw [HE.out]
            refine ⟨((HI3.out).ow).to k4, ?_⟩
            show flt _ _ = flt _ _
            rw [show s.size - (u.length + 1) = pos s (92 :: u) by simp only [List.length_cons] at hps2; omega]; rfl
          clear HES HE HI3 k4
          go_wp2_with fail
          exact ⟨rfl, HF.out⟩
        | some q =>
          obtain ⟨r, k⟩ := q
          obtain ⟨r1, r2, k1, k2, k3⟩ := escR_fit hh
          rw [hh] at HEQ
          simp only [Option.map_some] at HEQ
          have hdr : (92 :: u).drop k = u.drop (k - 1) := by
            cases k with
            | zero => omega
            | succ k => rfl
          have HX4 : Hid (txt [] t = txt (A ++ Lib.encodeRune (r : Int)) ((92 :: u).drop k)) := by show _ = _; rw [HX2.out, HXE.out, HEQ.out, hdr]
          have HS4 := hide ((HS2.out).drop k)
          have HP4 := hide (pos_drop HS2.out k3)
          have HL4 : Hid ((A ++ Lib.encodeRune (r : Int)).length + 4 * ((92 :: u).drop k).length ≤ 4 * t.length) := by
            show _ ≤ _
            have := enc_le (r : Int)
            simp only [List.length_append, List.length_drop]
            omega
          have hAl : A.length ≤ 1099511627776 := by omega
          have hr0 : (0 : Int) ≤ (r : Int) := Int.natCast_nonneg _
          unfold OkE at HES
          rw [hh] at HES
          simp only at HES
          clear HX2 HXE HEQ hh hdr
          generalize (92 :: u).drop k = l4 at *
          go_wp2_with fail
          refine (HES.out).mono ?_
          rintro e w4 ⟨k4, rfl, h4⟩
          have HI4 := hide ((HI3.out).read k4 h4)
          clear HES HI3 k4 h4 c0 c1 c2 f1
          obtain ⟨p4, bv4, hb4⟩ := (HI4.out).bd
          have HB4 := hide hb4
          have HWR := hide (wrune_any bdH (r : Int) hr0 (by omega) (by omega) B A p4 bv4 w4 hb4 hAl)
          clear hb4
          go_wp2_with fail
          refine (HWR.out).mono ?_
          rintro e w5 ⟨⟨v5, rfl⟩, h5⟩
          have HI5 := hide ((HI4.out).wrote HB4.out h5.out)
          clear h5 HWR HB4 HI4
          go_wp2_with fail
          refine ⟨⟨_, l4, HS4, HX4, HL4, HI5⟩, ?_⟩
          have e1 := ((HI5.out).src).at
          have e2 := HP4.out
          have e3 := HL2.out
          simp only [List.length_cons] at hps2 e3
          rw [hat]
          first | (rw [e1]; omega) | (erw [e1]; omega)
      · have hv1 : ((hdB l2 : Int) == 34) = false := by
          rw [beq_eq_false_iff_ne]; intro e
          cases l2 with
          | nil => simp [hdB] at e
          | cons x u => exact h34 ⟨u, by rw [show x = 34 from UInt8.toNat_inj.1 (by have : ((x.toNat : Nat) : Int) = 34 := e; show x.toNat = 34; omega)]⟩
        have hv2 : ((hdB l2 : Int) == 92) = false := by
          rw [beq_eq_false_iff_ne]; intro e
          cases l2 with
          | nil => simp [hdB] at e
          | cons x u => exact h92 ⟨u, by rw [show x = 92 from UInt8.toNat_inj.1 (by have : ((x.toNat : Nat) : Int) = 92 := e; show x.toNat = 92; omega)]⟩
        have HE : Hid (txt [] t = .bad 3 l2.length) := by
          show _ = _
          rw [HX2.out]
          cases l2 with
          | nil => rw [txt]; rfl
          | cons x u =>
            have hx := (HH2.out) x u rfl
            have n1 : ¬ x = 34 := fun e => h34 ⟨u, by rw [e]⟩
            have n2 : ¬ x = 92 := fun e => h92 ⟨u, by rw [e]⟩
            have n3 : x.toNat < 32 := by
              rcases Nat.lt_or_ge x.toNat 32 with h | h
              · exact h
              · exfalso
                have e2 : (x == 34) = false := by rw [beq_eq_false_iff_ne]; exact n1
                have e3 : (x == 92) = false := by rw [beq_eq_false_iff_ne]; exact n2
                simp [isPl, h, e2, e3] at hx
            rw [txt, if_neg n1, if_pos n3]; rfl
        have HSP := hide (ostop_any sb s _ d w3 (HI3.out).src)
        have HF : Hid (OkT w sb s d (txt [] t) (flt (pos s l2 : Nat) 3) w3) := by
          show OkT _ _ _ _ _ _ _
          rw [HE.out]
          refine ⟨(HI3.out).ow, ?_⟩
          show flt _ _ = flt _ _
          rw [show s.size - l2.length = pos s l2 by omega]; rfl
        have hv3 : ¬ (hdB l2 : Int) = 34 := fun e => by rw [e] at hv1; exact absurd hv1 (by decide)
        have hv4 : ¬ (hdB l2 : Int) = 92 := fun e => by rw [e] at hv2; exact absurd hv2 (by decide)
        clear HE HX2 HH2 h34 h92 hat
        generalize hdB l2 = hv at *
        go_wp2_with fail
        refine (HSP.out).mono ?_
        rintro e w4 ⟨rfl, rfl⟩
        go_wp2_with fail
        exact ⟨rfl, HF.out⟩
end Go.Proofs.YthdbnafiindgbaaGreatDoor
