/- The document's reader of messages: a text is read. -/
import Derived.Test.YthdbnafiindgbaaGreatDoorWkh
namespace Go.Proofs.YthdbnafiindgbaaGreatDoor
open Go.RowKit
open Wi

theorem ret_strW {a a' : ByteArray} (h : a = a') : Ending.returned (.string a) = .returned (.string a') := by rw [h]
theorem txt_34 (a t : List UInt8) : txt a (34 :: t) = .ok a t := by rw [txt]; rfl
theorem txt_low {a t : List UInt8} {c : UInt8} (h1 : ¬ c = 34) (h : c.toNat < 32) : txt a (c :: t) = .bad 3 (t.length + 1) := by rw [txt, if_neg h1, if_pos h]
theorem txt_on {a t : List UInt8} {c : UInt8} (h1 : ¬ c = 34) (h : ¬ c.toNat < 32) (h2 : ¬ c = 92) : txt a (c :: t) = txt (a ++ [c]) t := by rw [txt, if_neg h1, if_neg h, if_pos h2]
theorem txt_esc {a t b : List UInt8} {k : Nat} (h : esc (92 :: t) = some (b, k)) : txt a (92 :: t) = txt (a ++ b) ((92 :: t).drop k) := by
  have hk := (esc_len h).1
  obtain ⟨k, rfl⟩ : ∃ j, k = j + 1 := ⟨k - 1, by omega⟩
  rw [txt]
  simp only [h]
  rfl
theorem txt_no {a t : List UInt8} (h : esc (92 :: t) = none) : txt a (92 :: t) = .bad 3 (t.length + 1) := by
  rw [txt]
  simp only [h]
  rfl

theorem names_at : ∀ k : Fin 8, (⟨#[34, 92, 47, 98, 102, 110, 114, 116]⟩ : ByteArray)[k.val]'k.isLt = namesL.getD k.val 0 := by decide
set_option maxRecDepth 100000 in
set_option maxHeartbeats 40000000 in
theorem wtext_any (rb : Nat) (s : ByteArray) (c0 : UInt8) (l0 : List UInt8) (w : World) (hs : s.size ≤ 1073741824) (hl : Sfx s (c0 :: l0)) (h : RawW w rb s (pos s (c0 :: l0)) 0 0) :
    Calls Tryz.prog 20 #[.pointer (some ⟨rb, 0, none⟩)] w fun en w' => ∃ v, en = .returned v ∧ Hid (GvT w rb s (txt [] l0) v w') := by
  obtain ⟨i0, hi0, hz0, hz1, hz2⟩ := infoW infoB
  have hp0 := hl.pos
  have HL := hide hl.tail
  have HR1 : Hid (RawW (w.setCell ⟨rb, 1, none⟩ (.int .i64 ((pos s (c0 :: l0) : Int) + 1))) rb s (pos s l0) 0 0) := by
    have := h.set1 ((pos s l0 : Nat) : Int)
    rw [pos_cons hl, Int.natCast_add] at this
    show RawW _ _ _ _ _ _
    rw [pos_cons hl, Int.natCast_add]
    exact this
  have HB0 : Hid (InBW w rb (.slice none 0 0) [] (w.setCell ⟨rb, 1, none⟩ (.int .i64 ((pos s (c0 :: l0) : Int) + 1)))) := ⟨World.ownsRow_nil _ _ _ _, Ow.set (Kp.refl _ w) 1 _, h.lt⟩
  have hl0 : l0.length ≤ s.size := hl.tail.le
  obtain ⟨⟨c0', c1, c2, c3⟩, f1, f2, f3⟩ := h.facts
  clear h hl
  go_enter Tryz.func20, Tryz.ntmps20
  go_wp2_with fail
  clear c0' c1 c2 c3 f1 f2 f3
  generalize w.setCell ⟨rb, 1, none⟩ (.int .i64 ((pos s (c0 :: l0) : Int) + 1)) = w1 at *
  go_loopw [3] (fun v wr => ∃ (out l : List UInt8), Hid (Sfx s l) ∧ Hid (txt [] l0 = txt out l) ∧ out.length + l.length ≤ s.size ∧ Hid (InBW w rb v out wr) ∧ Hid (RawW wr rb s (pos s l) 0 0)) (fun _ wr => s.size - atW rb wr)
  case atStart => exact ⟨[], l0, HL, (rfl : txt [] l0 = txt [] l0), by simpa using hl0, HB0, HR1⟩
  case round =>
    obtain ⟨out, l, HS, HT, hlen, HB, HJ⟩ := hrel
    clear HR1 HB0 hl0 HL hp0
    have hat := (HJ.out).at
    have hpos := (HS.out).pos
    obtain ⟨⟨c0', c1, c2, c3⟩, f1, f2, f3⟩ := (HJ.out).facts
    cases l with
    | nil =>
      have j1 : decide (pos s [] < s.size) = false := by rw [pos_nil]; simp
      have HE : Hid (txt [] l0 = .bad 3 0) := by show _ = _; rw [HT.out, txt]
      clear HT hat
      go_wp2_with fail
      go_quiet (fail)
      go_wp2_with fail
      refine (wfail_any rb s _ _ 3 _ _ ((HJ.out).drew nq)).mono ?_
      rintro e w2 ⟨rfl, g1, g2⟩
      have G1 := hide g1
      have G2 := hide g2
      clear g1 g2
      go_wp2_with fail
      go_ret
      refine ⟨_, rfl, ?_⟩
      show GvT _ _ _ _ _ _
      rw [HE.out]
      exact ⟨((HB.out).drew nq).2.1.to G2.out, rfl, pos s [], by omega, by decide, G1.out⟩
    | cons c t =>
      obtain ⟨hi, hg⟩ := (HS.out).getD (k := 0) (by simp)
      simp only [Nat.add_zero, List.getElem_cons_zero] at hi hg
      have j1 : decide (pos s (c :: t) < s.size) = true := decide_eq_true hi
      have j2 : (0 : Int) ≤ (pos s (c :: t) : Int) := Int.natCast_nonneg _
      have j3 : (pos s (c :: t) : Int) < (s.size : Int) := by omega
      have HP := hide (pos_cons HS.out)
      have HSt := hide (HS.out).tail
      have hz : ∀ k : Nat, RawW ((wr.drewN k).setCell ⟨rb, 1, none⟩ (.int .i64 ((pos s (c :: t) : Int) + 1))) rb s (pos s t) 0 0 := fun k => by
        have := ((HJ.out).drew k).set1 ((pos s t : Nat) : Int)
        rw [HP.out, Int.natCast_add] at this
        rw [HP.out, Int.natCast_add]
        exact this
      have HZ := hide hz
      clear hz
      by_cases h34 : c = 34
      · have j4 : ((s[pos s (c :: t)].toNat : Int) == 34) = true := by rw [hg, h34]; rfl
        have HE : Hid (txt [] l0 = .ok out t) := by show _ = _; rw [HT.out, h34, txt_34]
        clear HT hat hg h34
        rcases (HB.out).1.2 with ⟨rfl, hn⟩ | ⟨g5, cap5, cur, rfl, -⟩
        · have HO := hide (List.eq_nil_of_length_eq_zero hn)
          go_wp2_with fail
          go_quiet (fail)
          go_wp2_with fail
          go_quiet (fail)
          go_wp2_with fail
          rw [run_convert_bytes_nil (P := Tryz.prog) _ 68 5 Tryz.underlying68 Tryz.underlying5 0 0 9 Tryz.underlying9]
          go_wp2_with fail
          go_ret
          refine ⟨_, rfl, ?_⟩
          show GvT _ _ _ _ _ _
          rw [HE.out, HO.out]
          exact ⟨Ow.set ((HB.out).drew _).2.1 1 _, rfl, HSt.out, (HZ.out) _⟩
        · have HBz : Hid (∀ k : Nat, InBW w rb (.slice (some ⟨g5, 0, none⟩) out.length cap5) out ((wr.drewN k).setCell ⟨rb, 1, none⟩ (.int .i64 ((pos s (c :: t) : Int) + 1)))) := fun k => ((HB.out).drew k).on (Ow.set (Kp.refl _ _) 1 _)
          go_wp2_with fail
          go_quiet (fail)
          go_wp2_with fail
          go_quiet (fail)
          go_wp2_with fail
          rw [run_convert_bytes_arg (P := Tryz.prog) _ 68 5 Tryz.underlying68 Tryz.underlying5 g5 0 _ cap5 (out.map fun x : UInt8 => (x.toNat : Int)) (by simp) (by intro i hi; exact InBW.cell ((HBz.out) _) i (by simpa using hi)) 9 Tryz.underlying9]
          go_wp2_with fail
          go_ret
          refine ⟨_, rfl, ?_⟩
          show GvT _ _ _ _ _ _
          rw [HE.out]
          exact ⟨((HBz.out) _).2.1, congrArg Value.string (str_bytesW out), HSt.out, (HZ.out) _⟩
      have j4 : ((s[pos s (c :: t)].toNat : Int) == 34) = false := by
        rw [hg]; simp; intro e; exact h34 (UInt8.toNat_inj.1 (by show c.toNat = 34; omega))
      by_cases h32 : c.toNat < 32
      · have j5 : (s[pos s (c :: t)].toNat : Int) < 32 := by rw [hg]; omega
        have HE : Hid (txt [] l0 = .bad 3 (t.length + 1)) := by show _ = _; rw [HT.out, txt_low h34 h32]
        clear HT hat hg h34 h32
        go_wp2_with fail
        go_quiet (fail)
        go_wp2_with fail
        go_quiet (fail)
        go_wp2_with fail
        refine (wfail_any rb s _ _ 3 _ _ ((HJ.out).drew _)).mono ?_
        rintro e w2 ⟨rfl, g1, g2⟩
        have G1 := hide g1
        have G2 := hide g2
        clear g1 g2
        go_wp2_with fail
        go_ret
        refine ⟨_, rfl, ?_⟩
        show GvT _ _ _ _ _ _
        rw [HE.out]
        exact ⟨((HB.out).drew _).2.1.to G2.out, rfl, pos s (c :: t), by omega, by decide, G1.out⟩
      have j5 : (32 : Int) ≤ (s[pos s (c :: t)].toNat : Int) := by rw [hg]; omega
      by_cases h92 : c = 92
      case neg =>
        have j6 : ((s[pos s (c :: t)].toNat : Int) != 92) = true := by
          rw [hg]; simp; intro e; exact h92 (UInt8.toNat_inj.1 (by show c.toNat = 92; omega))
        have HE : Hid (txt [] l0 = txt (out ++ [s[pos s (c :: t)]]) t) := by show _ = _; rw [HT.out, txt_on h34 h32 h92, hg]
        have hb3 : (s[pos s (c :: t)].toNat : Int) < 256 := by have := s[pos s (c :: t)].toNat_lt; omega
        have hln : out.length + 1 ≤ 1073741824 := by simp at hlen; omega
        clear HT hg h34 h32 h92
        go_wp2_with fail
        go_quiet (fail)
        go_wp2_with fail
        go_quiet (fail)
        go_wp2_with (at_builtin; refine wpList_append_lies _ rfl _ _ 68 rfl w.heap.size 5 i0 _ 1 1 Tryz.underlying68 hi0 hz0 hz1 hz2 rfl (by decide) u3 (out).length _ rfl (((HB.out).drew _).1.alloc _) ⟨wr.heap.size, 0, none⟩ 1 1 (Lib.byteCells [s[pos s (c :: t)]]) rfl rfl (World.news_of_block (cs := #[.int .u8 s[pos s (c :: t)].toNat]) (heap_alloc_new (wr.drewN _) _)) (by simp [Value.oneCell', Lib.byteCells]) (by omega) (by unfold maxLen; omega) (by omega) (by have := (HB.out).2.1.size; simp; omega) (wr.heap.size + 1) (by simp) ?_; intro g5 cap5 w5 hown5 hgrow5 hat5 hlt5; have HBN := hide (InBW.more (new := [s[pos s (c :: t)]]) ((HB.out).drew _) hown5 hgrow5); have HJ5 := hide (((HB.out).drew _).raw HBN.out.2 ((HJ.out).drew _)); clear hown5 hgrow5 hat5 hlt5; obtain ⟨⟨y0, y1, y2, y3⟩, z1, z2, z3⟩ := (HJ5.out).facts)
        have HU : Hid (RawW (w5.setCell ⟨rb, 1, none⟩ (.int .i64 ((pos s (c :: t) : Int) + 1))) rb s (pos s t) 0 0) := by
          have := (HJ5.out).set1 ((pos s t : Nat) : Int)
          rw [HP.out, Int.natCast_add] at this
          show RawW _ _ _ _ _ _
          rw [HP.out, Int.natCast_add]
          exact this
        refine ⟨⟨_, t, HSt, HE, by simp at hlen ⊢; omega, (HBN.out).1.on (Ow.set (Kp.refl _ _) 1 _), HU⟩, ?_⟩
        have e1 := HP.out
        rw [hat, (HU.out).at]
        omega
      case pos =>
      subst h92
      have j6 : ((s[pos s (92 :: t)].toNat : Int) != 92) = false := by rw [hg]; rfl
      clear h32 h34 hg HSt
      go_wp2_with fail
      go_quiet (fail)
      have HBa := hide ((HB.out).drew nq)
      have HJa := hide ((HJ.out).drew nq)
      have HZa : Hid (wr.heap.size = (wr.drewN nq).heap.size) := rfl
      clear c0' c1 c2 c3 f1 f2 f3 HZ
      generalize wr.drewN nq = wa at *
      obtain ⟨⟨c0', c1, c2, c3⟩, f1, f2, f3⟩ := (HJa.out).facts
      go_wp2_with fail
      go_quiet (fail)
      have HBb := hide ((HBa.out).drew nq)
      have HJb := hide ((HJa.out).drew nq)
      clear c0' c1 c2 c3 f1 f2 f3 HBa HJa HZa
      generalize wa.drewN nq = wb at *
      obtain ⟨⟨c0', c1, c2, c3⟩, f1, f2, f3⟩ := (HJb.out).facts
      go_wp2_with fail
      have HB3 := hide ((HBb.out).alloc (.cells #[.int .u8 34, .int .u8 92, .int .u8 47, .int .u8 8, .int .u8 12, .int .u8 10, .int .u8 13, .int .u8 9] 5))
      have HJ3 := hide ((HJb.out).alloc (.cells #[.int .u8 34, .int .u8 92, .int .u8 47, .int .u8 8, .int .u8 12, .int .u8 10, .int .u8 13, .int .u8 9] 5))
      have HM : Hid (∀ m, m < 8 → (wb.alloc (.cells #[.int .u8 34, .int .u8 92, .int .u8 47, .int .u8 8, .int .u8 12, .int .u8 10, .int .u8 13, .int .u8 9] 5)).cell? ⟨wb.heap.size, m, none⟩ = some (.int .u8 ((meansL.getD m 0).toNat : Int))) := by
        intro m hm
        have hb := heap_alloc_new wb (.cells #[.int .u8 34, .int .u8 92, .int .u8 47, .int .u8 8, .int .u8 12, .int .u8 10, .int .u8 13, .int .u8 9] 5)
        have h8 : m = 0 ∨ m = 1 ∨ m = 2 ∨ m = 3 ∨ m = 4 ∨ m = 5 ∨ m = 6 ∨ m = 7 := by omega
        rcases h8 with rfl | rfl | rfl | rfl | rfl | rfl | rfl | rfl <;> (simp only [World.cell?]; rw [hb]; rfl)
      have hsz : wb.heap.size < (wb.alloc (.cells #[.int .u8 34, .int .u8 92, .int .u8 47, .int .u8 8, .int .u8 12, .int .u8 10, .int .u8 13, .int .u8 9] 5)).heap.size := by simp
      generalize wb.heap.size = mb at *
      clear c0' c1 c2 c3 f1 f2 f3 HBb HJb
      generalize wb.alloc (.cells #[.int .u8 34, .int .u8 92, .int .u8 47, .int .u8 8, .int .u8 12, .int .u8 10, .int .u8 13, .int .u8 9] 5) = W2 at *
      go_loopw [8, 9] (fun vi vk wx => ∃ k : Nat, k ≤ 8 ∧ vk = .int .i64 k ∧ vi = .int .i64 (oneI (92 :: t) k) ∧ (k = 0 ∨ 1 < (92 :: t).length) ∧ Hid (Below W2.heap.size W2 wx)) (fun _ vk _ => 8 - (intOf vk).toNat)
      case atStart => exact ⟨0, by omega, rfl, by unfold oneI idxI; cases (92 :: t)[1]? <;> rfl, .inl rfl, Below.refl _ _⟩
      case round =>
        obtain ⟨k, hk8, rfl, rfl, hk1, HW⟩ := hrel
        have HBx := hide ((HB3.out).below HW.out)
        have HJx := hide ((HJ3.out).below HW.out)
        obtain ⟨⟨c0', c1, c2, c3⟩, f1, f2, f3⟩ := (HJx.out).facts
        have ho := oneI_le (92 :: t) k
        by_cases hk : k < 8
        case pos =>
          have k1 : decide ((k : Int) < 8) = true := by simp; omega
          cases t with
          | nil =>
            obtain rfl : k = 0 := by
              rcases hk1 with h | h
              · exact h
              · simp at h
            have k2 : decide ((pos s [92] : Int) + 1 < (s.size : Int)) = false := by
              have e : pos s [92] + 1 = s.size := hpos
              simp only [decide_eq_false_iff_not]; omega
            have HE : Hid (txt [] l0 = .bad 3 1) := by show _ = _; rw [HT.out]; exact txt_no (by simp [esc, hx])
            rw [show oneI [92] 0 = -1 from rfl]
            clear HT hk1 ho HM hk
            go_wp2_with fail
            go_quiet (fail)
            have HBy := hide ((HBx.out).drew nq)
            have HJy := hide ((HJx.out).drew nq)
            clear HBx HJx c0' c1 c2 c3 f1 f2 f3 HW
            generalize wr.drewN nq = wy at *
            obtain ⟨⟨c0', c1, c2, c3⟩, f1, f2, f3⟩ := (HJy.out).facts
            go_wp2_with fail
            refine (whex_any rb s _ _ _ [92] wy hs HS.out HJy.out).mono ?_
            rintro e wh ⟨rfl, kh⟩
            have HBh := hide ((HBy.out).below kh)
            have HJh := hide ((HJy.out).below kh)
            clear kh c0' c1 c2 c3 f1 f2 f3 HBy HJy
            obtain ⟨⟨c0', c1, c2, c3⟩, f1, f2, f3⟩ := (HJh.out).facts
            rw [show hxI [92] = -1 from hxI_none (by simp [hx])]
            go_wp2_with fail
            refine (wfail_any rb s _ _ 3 _ _ ((HJh.out).set1 _)).mono ?_
            rintro e w9 ⟨rfl, g1, g2⟩
            have G1 := hide g1
            have G2 := hide g2
            clear g1 g2
            go_wp2_with fail
            go_ret
            refine ⟨_, rfl, ?_⟩
            show GvT _ _ _ _ _ _
            rw [HE.out]
            refine ⟨(Ow.set (HBh.out).2.1 1 _).to G2.out, rfl, pos s [92] + 6, by omega, by decide, ?_⟩
            have := G1.out
            rw [Int.natCast_add]
            exact this
          | cons x t' =>
            obtain ⟨ha, hx⟩ := (HS.out).tail.getD (k := 0) (by simp)
            simp only [Nat.add_zero, List.getElem_cons_zero] at ha hx
            have hpt : (pos s (92 :: x :: t') : Int) + 1 = (pos s (x :: t') : Int) := by have := HP.out; omega
            have k2 : decide (pos s (x :: t') < s.size) = true := decide_eq_true ha
            have k3 : (0 : Int) ≤ (pos s (x :: t') : Int) := Int.natCast_nonneg _
            have k4 : (pos s (x :: t') : Int) < (s.size : Int) := by omega
            have hwr : IntKind.i64.wrap (pos s (x :: t') : Int) = (pos s (x :: t') : Int) := by rw [IntKind.wrap_i64]; omega
            have k5 : (0 : Int) ≤ (k : Int) := Int.natCast_nonneg _
            have k7 : (k : Int) < 8 := by omega
            have hsz8 : k < (⟨#[34, 92, 47, 98, 102, 110, 114, 116]⟩ : ByteArray).size := hk
            have k8 : (k : Int) < ((⟨#[34, 92, 47, 98, 102, 110, 114, 116]⟩ : ByteArray).size : Int) := by show (k : Int) < 8; omega
            have hnm := names_at ⟨k, hk⟩
            simp only at hnm
            by_cases he : namesL.getD k 0 = x
            · have k6 : ((s[pos s (x :: t')].toNat : Int) == ((⟨#[34, 92, 47, 98, 102, 110, 114, 116]⟩ : ByteArray)[k]'hk).toNat) = true := by rw [hx, hnm, he]; simp
              have HN : Hid (oneI (92 :: x :: t') (k + 1) = (k : Int)) := by show _ = _; simp only [oneI, List.getElem?_cons_succ, List.getElem?_cons_zero, idxI]; rw [if_pos he]
              clear hnm he hx
              go_wp2_with fail
              go_quiet (fail)
              go_wp2_with fail
              go_quiet (fail)
              go_wp2_with fail
              refine ⟨⟨k + 1, by omega, by go_num, by rw [HN.out], .inr (by simp), belowN HW.out _⟩, by simp only [intOf]; omega⟩
            · have k6 : ((s[pos s (x :: t')].toNat : Int) == ((⟨#[34, 92, 47, 98, 102, 110, 114, 116]⟩ : ByteArray)[k]'hk).toNat) = false := by
                rw [hx, hnm]; simp only [beq_eq_false_iff_ne, ne_eq]; intro e; exact he (UInt8.toNat_inj.1 (by omega))
              have HN : Hid (oneI (92 :: x :: t') (k + 1) = oneI (92 :: x :: t') k) := by show _ = _; simp only [oneI, List.getElem?_cons_succ, List.getElem?_cons_zero, idxI]; rw [if_neg he]
              clear hnm he hx
              go_wp2_with fail
              go_quiet (fail)
              go_wp2_with fail
              go_quiet (fail)
              go_wp2_with fail
              refine ⟨⟨k + 1, by omega, by go_num, by rw [HN.out], .inr (by simp), belowN HW.out _⟩, by simp only [intOf]; omega⟩
        case neg =>
          obtain rfl : k = 8 := by omega
          have hm8 : (∃ m : Nat, oneI (92 :: t) 8 = (m : Int)) ∨ oneI (92 :: t) 8 = -1 := by
            by_cases h0 : oneI (92 :: t) 8 = -1
            · exact .inr h0
            · exact .inl ⟨(oneI (92 :: t) 8).toNat, by omega⟩
          rcases hm8 with ⟨m, hm⟩ | hm
          · obtain ⟨he, hl2, hm8⟩ := esc_is hm
            have HE : Hid (txt [] l0 = txt (out ++ [meansL.getD m 0]) ((92 :: t).drop 2)) := by show _ = _; rw [HT.out, txt_esc he]
            have hcell := (Kp.ofBelow HW.out (fun _ => False)).cellv ((HM.out) m hm8) id
            have hP2 := hide (pos_drop HS.out hl2)
            have HS2 := hide ((HS.out).drop 2)
            have m1 : (0 : Int) ≤ (m : Int) := Int.natCast_nonneg _
            have m2 : (m : Int) < 8 := by omega
            have hln : out.length + 1 ≤ 1073741824 := by simp at hlen; omega
            have hb3 : ((meansL.getD m 0).toNat : Int) < 256 := by have := (meansL.getD m 0).toNat_lt; omega
            have hd2 : ((92 :: t).drop 2).length + 2 = (92 :: t).length := by simp at hl2 ⊢; omega
            rw [hm]
            clear HT he hm hk hk1 ho HM
            generalize meansL.getD m 0 = mm at *
            generalize (92 :: t).drop 2 = l2 at *
            go_wp2_with fail
            go_quiet (fail)
            have HBy := hide ((HBx.out).drew nq)
            have HJy := hide ((HJx.out).drew nq)
            have hcelly : (wr.drewN nq).cell? ⟨mb, m, none⟩ = some (.int .u8 (mm.toNat : Int)) := hcell
            clear HBx HJx c0' c1 c2 c3 f1 f2 f3 hcell HW
            generalize wr.drewN nq = wy at *
            obtain ⟨⟨c0', c1, c2, c3⟩, f1, f2, f3⟩ := (HJy.out).facts
            go_wp2_with (at_builtin; refine wpList_append_lies _ rfl _ _ 68 rfl w.heap.size 5 i0 _ 1 1 Tryz.underlying68 hi0 hz0 hz1 hz2 rfl (by decide) u3 (out).length _ rfl ((HBy.out).1.alloc _) ⟨wy.heap.size, 0, none⟩ 1 1 (Lib.byteCells [mm]) rfl rfl (World.news_of_block (cs := #[.int .u8 mm.toNat]) (heap_alloc_new wy _)) (by simp [Value.oneCell', Lib.byteCells]) (by omega) (by unfold maxLen; omega) (by omega) (by have := (HBy.out).2.1.size; simp; omega) (wy.heap.size + 1) (by simp) ?_; intro g5 cap5 w5 hown5 hgrow5 hat5 hlt5; have HBN := hide (InBW.more (new := [mm]) (HBy.out) hown5 hgrow5); have HJ5 := hide ((HBy.out).raw HBN.out.2 HJy.out); clear hown5 hgrow5 hat5 hlt5; obtain ⟨⟨y0, y1, y2, y3⟩, z1, z2, z3⟩ := (HJ5.out).facts)
            have HU : Hid (RawW (w5.setCell ⟨rb, 1, none⟩ (.int .i64 ((pos s (92 :: t) : Int) + 2))) rb s (pos s l2) 0 0) := by
              have := (HJ5.out).set1 ((pos s l2 : Nat) : Int)
              rw [hP2.out, Int.natCast_add] at this
              show RawW _ _ _ _ _ _
              rw [hP2.out, Int.natCast_add]
              exact this
            refine ⟨⟨_, l2, HS2, HE, by simp only [List.length_append, List.length_singleton]; omega, (HBN.out).1.on (Ow.set (Kp.refl _ _) 1 _), HU⟩, ?_⟩
            have e1 := hP2.out
            rw [hat, (HU.out).at]
            omega
          · have HWy := hide (escW HS.out hm)
            have hE6 : Hid (esc (92 :: t) = none → txt [] l0 = .bad 3 (t.length + 1)) := fun e => by rw [HT.out, txt_no e]
            have hEy : Hid (∀ b k, esc (92 :: t) = some (b, k) → txt [] l0 = txt (out ++ b) ((92 :: t).drop k)) := fun b k e => by rw [HT.out, txt_esc e]
            rw [hm]
            clear HT hm hk hk1 ho HM
            go_wp2_with fail
            go_quiet (fail)
            have HBy := hide ((HBx.out).drew nq)
            have HJy := hide ((HJx.out).drew nq)
            clear HBx HJx c0' c1 c2 c3 f1 f2 f3 HW
            generalize wr.drewN nq = wy at *
            obtain ⟨⟨c0', c1, c2, c3⟩, f1, f2, f3⟩ := (HJy.out).facts
            go_wp2_with fail
            refine (whex_any rb s _ _ _ (92 :: t) wy hs HS.out HJy.out).mono ?_
            rintro e wh ⟨rfl, kh⟩
            have HBh := hide ((HBy.out).below kh)
            have HJh := hide ((HJy.out).below kh)
            clear kh c0' c1 c2 c3 f1 f2 f3 HBy HJy
            obtain ⟨⟨c0', c1, c2, c3⟩, f1, f2, f3⟩ := (HJh.out).facts
            cases HWy.out with
            | none h e =>
              have HE := hide ((hE6.out) e)
              rw [hxI_none h]
              clear hE6 hEy h e HWy
              go_wp2_with fail
              refine (wfail_any rb s _ _ 3 _ _ ((HJh.out).set1 _)).mono ?_
              rintro e w9 ⟨rfl, g1, g2⟩
              have G1 := hide g1
              have G2 := hide g2
              clear g1 g2
              go_wp2_with fail
              go_ret
              refine ⟨_, rfl, ?_⟩
              show GvT _ _ _ _ _ _
              rw [HE.out]
              refine ⟨(Ow.set (HBh.out).2.1 1 _).to G2.out, rfl, pos s (92 :: t) + 6, by omega, by decide, ?_⟩
              have := G1.out
              rw [Int.natCast_add]
              exact this
            | low n l6 h hn a e =>
              have HE := hide ((hE6.out) e)
              have hA6 := hide a
              have hq6 := (hA6.out).pos
              have hq7 := (hA6.out).len
              have hq8 := (hA6.out).sfx.pos
              have hp6 : (pos s (92 :: t) : Int) + 6 = (pos s l6 : Int) := by omega
              have hwr6 : IntKind.i64.wrap (pos s l6 : Int) = (pos s l6 : Int) := by rw [IntKind.wrap_i64]; omega
              have hww6 : wrap64 (pos s l6 : Int) = (pos s l6 : Int) := by unfold wrap64; omega
              have HL4 := hide (few4 hlen hs)
              have HF6 := hide (Aft.fin a (by decide) hlen)
              have HM6 := hide (a.mes (by decide))
              rw [hxI_some h]
              clear a h hq6
              have n1 : (55296 : Int) ≤ (n : Int) := by omega
              have n2 : (56319 : Int) < (n : Int) := by omega
              have n3 : (56320 : Int) ≤ (n : Int) := by omega
              have n4 : (n : Int) ≤ 57343 := by omega
              clear hE6 hEy e HWy hn
              go_wp2_with fail
              refine (wfail_any rb s _ _ 3 _ _ ((HJh.out).set1 _)).mono ?_
              rintro e w9 ⟨rfl, g1, g2⟩
              have G1 := hide g1
              have G2 := hide g2
              clear g1 g2
              go_wp2_with fail
              go_ret
              refine ⟨_, rfl, ?_⟩
              show GvT _ _ _ _ _ _
              rw [HE.out]
              refine ⟨(Ow.set (HBh.out).2.1 1 _).to G2.out, rfl, pos s l6, by omega, by decide, ?_⟩
              have := G1.out
              exact this
            | plain n l6 h hn hb a e d =>
              have HE := hide ((hEy.out) _ _ e)
              rw [d] at HE
              have hA6 := hide a
              have hq6 := (hA6.out).pos
              have hq7 := (hA6.out).len
              have hq8 := (hA6.out).sfx.pos
              have hp6 : (pos s (92 :: t) : Int) + 6 = (pos s l6 : Int) := by omega
              have hwr6 : IntKind.i64.wrap (pos s l6 : Int) = (pos s l6 : Int) := by rw [IntKind.wrap_i64]; omega
              have hww6 : wrap64 (pos s l6 : Int) = (pos s l6 : Int) := by unfold wrap64; omega
              have HL4 := hide (few4 hlen hs)
              have HF6 := hide (Aft.fin a (by decide) hlen)
              have HM6 := hide (a.mes (by decide))
              rw [hxI_some h]
              clear a h hq6
              have hv : Lib.validRune (n : Int) = true := by unfold Lib.validRune; exact decide_eq_true (by omega)
              have HV := hide hv
              have hn1 : (n : Int) < 55296 ∨ 57343 < (n : Int) := by omega
              have HC0 : Hid (0 ≤ (n : Int)) := Int.natCast_nonneg _
              clear hE6 hEy e HWy hn d hb hv
              generalize (n : Int) = nn at *
              have hns : (decide ((55296 : Int) ≤ nn) = false ∧ decide ((56320 : Int) ≤ nn) = false ∧ decide (nn < 0) = false) ∨ (decide ((55296 : Int) ≤ nn) = true ∧ decide (nn ≤ 56319) = false ∧ decide ((56320 : Int) ≤ nn) = true ∧ decide (nn ≤ 57343) = false ∧ decide (nn < 0) = false) := by
                have hn2 := HC0.out
                simp only [decide_eq_false_iff_not, decide_eq_true_iff]; omega
              clear hn1
              rcases hns with ⟨n1, n3, n5⟩ | ⟨n1, n3, n5, n7, n9⟩
              all_goals
                go_wp2_with fail
                refine (utf_any (nn) _ HC0.out HV.out).mono ?_
                rintro e w3 ⟨rfl, rfl⟩
                have HBk := hide ((HBh.out).on (Ow.set (Kp.refl (fun q => q = rb) wh) 1 (.int .i64 ((pos s l6 : Int)))))
                have HJk := hide ((HJh.out).set1 ((pos s l6 : Int)))
                clear c0' c1 c2 c3 f1 f2 f3
                generalize wh.setCell ⟨rb, 1, none⟩ (.int .i64 ((pos s l6 : Int))) = wk at *
                have he4 := encW_pos (nn)
                have hs1 : 0 < (Lib.encodeRune (nn)).length := he4.1
                have hs2 : (out).length + (Lib.encodeRune (nn)).length ≤ maxLen := Nat.le_trans (Nat.add_le_add_left he4.2 _) (Nat.le_trans HL4.out (by unfold maxLen; decide))
                have hs3 : ((out).length + (Lib.encodeRune (nn)).length) * 1 ≤ 140737488355328 := by rw [Nat.mul_one]; exact Nat.le_trans (Nat.add_le_add_left he4.2 _) (Nat.le_trans HL4.out (by decide))
                have hs4 : w.heap.size ≤ (wk.alloc (.cells (Lib.byteCells (Lib.encodeRune (nn))).toArray 5)).heap.size := by rw [World.size_alloc]; exact Nat.le_succ_of_le (HBk.out).2.1.size
                have hs5 : (wk.alloc (.cells (Lib.byteCells (Lib.encodeRune (nn))).toArray 5)).heap.size = wk.heap.size + 1 := by simp
                have HS1 := hide hs1
                have HS2 := hide hs2
                have HS3 := hide hs3
                have HS4 := hide hs4
                have HS5 := hide hs5
                clear hs1 hs2 hs3 hs4 hs5
                go_wp2_with (at_builtin; refine wpList_append_lies _ rfl _ _ 68 rfl w.heap.size 5 i0 _ 1 1 Tryz.underlying68 hi0 hz0 hz1 hz2 rfl (by decide) u3 (out).length _ rfl ((HBk.out).1.alloc _) ⟨wk.heap.size, 0, none⟩ (Lib.encodeRune (nn)).length (Lib.encodeRune (nn)).length (Lib.byteCells (Lib.encodeRune (nn))) rfl (bc_lenW _) (World.news_of_block (cs := (Lib.byteCells (Lib.encodeRune (nn))).toArray) (heap_alloc_new wk _)) (bc_oneW _) HS1.out HS2.out HS3.out HS4.out (wk.heap.size + 1) HS5.out ?_; intro g5 cap5 w5 hown5 hgrow5 hat5 hlt5; have HBN := hide (InBW.more (new := Lib.encodeRune (nn)) (HBk.out) hown5 hgrow5); have HJ5 := hide ((HBk.out).raw HBN.out.2 HJk.out); clear hown5 hgrow5 hat5 hlt5)
                have HU : Hid (RawW w5 rb s (pos s l6) 0 0) := HJ5
                refine ⟨⟨_, l6, hide (hA6.out).sfx, HE, by rw [List.length_append]; exact (HF6.out) _ he4.2, (HBN.out).1, HU⟩, ?_⟩
                rw [hat, (HU.out).at]
                exact HM6.out
            | half n l6 h hn a h2 e =>
              have HE := hide ((hE6.out) e)
              have hA6 := hide a
              have hq6 := (hA6.out).pos
              have hq7 := (hA6.out).len
              have hq8 := (hA6.out).sfx.pos
              have hp6 : (pos s (92 :: t) : Int) + 6 = (pos s l6 : Int) := by omega
              have hwr6 : IntKind.i64.wrap (pos s l6 : Int) = (pos s l6 : Int) := by rw [IntKind.wrap_i64]; omega
              have hww6 : wrap64 (pos s l6 : Int) = (pos s l6 : Int) := by unfold wrap64; omega
              have HL4 := hide (few4 hlen hs)
              have HF6 := hide (Aft.fin a (by decide) hlen)
              have HM6 := hide (a.mes (by decide))
              rw [hxI_some h]
              clear a h hq6
              have n1 : (55296 : Int) ≤ (n : Int) := by omega
              have n2 : (n : Int) ≤ 56319 := by omega
              clear hE6 hEy e HWy hn
              go_wp2_with fail
              have HB6 := hide ((HBh.out).on (Ow.set (Kp.refl (fun q => q = rb) wh) 1 (.int .i64 (pos s l6 : Int))))
              have HJ6 := hide ((HJh.out).set1 (pos s l6 : Int))
              refine (whex_any rb s _ _ _ l6 _ hs (hA6.out).sfx HJ6.out).mono ?_
              rintro e wz ⟨rfl, kz⟩
              have HBz := hide ((HB6.out).below kz)
              have HJz := hide ((HJ6.out).below kz)
              clear kz HB6 HJ6 c0' c1 c2 c3 f1 f2 f3 hp6 hwr6 hww6 n1 n2
              obtain ⟨⟨c0', c1, c2, c3⟩, f1, f2, f3⟩ := (HJz.out).facts
              rw [hxI_none h2]
              clear h2
              go_wp2_with fail
              refine (wfail_any rb s _ _ 3 _ _ ((HJz.out).set1 _)).mono ?_
              rintro e w9 ⟨rfl, g1, g2⟩
              have G1 := hide g1
              have G2 := hide g2
              clear g1 g2
              go_wp2_with fail
              go_ret
              refine ⟨_, rfl, ?_⟩
              show GvT _ _ _ _ _ _
              rw [HE.out]
              refine ⟨(Ow.set (HBz.out).2.1 1 _).to G2.out, rfl, pos s l6 + 6, by omega, by decide, ?_⟩
              have := G1.out
              have hwz : wrap64 ((pos s l6 : Int) + 6) = (pos s l6 : Int) + 6 := by unfold wrap64; omega
              try rw [hwz] at this
              rw [Int.natCast_add]
              exact this
            | bad n m l6 h hn a h2 hm hb e =>
              have HE := hide ((hE6.out) e)
              have hA6 := hide a
              have hq6 := (hA6.out).pos
              have hq7 := (hA6.out).len
              have hq8 := (hA6.out).sfx.pos
              have hp6 : (pos s (92 :: t) : Int) + 6 = (pos s l6 : Int) := by omega
              have hwr6 : IntKind.i64.wrap (pos s l6 : Int) = (pos s l6 : Int) := by rw [IntKind.wrap_i64]; omega
              have hww6 : wrap64 (pos s l6 : Int) = (pos s l6 : Int) := by unfold wrap64; omega
              have HL4 := hide (few4 hlen hs)
              have HF6 := hide (Aft.fin a (by decide) hlen)
              have HM6 := hide (a.mes (by decide))
              rw [hxI_some h]
              clear a h hq6
              have n1 : (55296 : Int) ≤ (n : Int) := by omega
              have n2 : (n : Int) ≤ 56319 := by omega
              clear hE6 hEy e HWy hn
              go_wp2_with fail
              have HB6 := hide ((HBh.out).on (Ow.set (Kp.refl (fun q => q = rb) wh) 1 (.int .i64 (pos s l6 : Int))))
              have HJ6 := hide ((HJh.out).set1 (pos s l6 : Int))
              refine (whex_any rb s _ _ _ l6 _ hs (hA6.out).sfx HJ6.out).mono ?_
              rintro e wz ⟨rfl, kz⟩
              have HBz := hide ((HB6.out).below kz)
              have HJz := hide ((HJ6.out).below kz)
              clear kz HB6 HJ6 c0' c1 c2 c3 f1 f2 f3 hp6 hwr6 hww6 n1 n2
              obtain ⟨⟨c0', c1, c2, c3⟩, f1, f2, f3⟩ := (HJz.out).facts
              rw [hxI_some h2]
              clear h2
              have hms : (decide ((56320 : Int) ≤ (m : Int)) = false ∧ decide (56320 ≤ m) = false) ∨ (decide ((56320 : Int) ≤ (m : Int)) = true ∧ decide (56320 ≤ m) = true ∧ decide ((m : Int) ≤ 57343) = false ∧ decide (m ≤ 57343) = false) := by
                simp only [decide_eq_false_iff_not, decide_eq_true_iff]; omega
              clear hm hb
              rcases hms with ⟨m1, m2⟩ | ⟨m1, m2, m3, m4⟩
              all_goals
                go_wp2_with fail
                refine (wfail_any rb s _ _ 3 _ _ ((HJz.out).set1 _)).mono ?_
                rintro e w9 ⟨rfl, g1, g2⟩
                have G1 := hide g1
                have G2 := hide g2
                clear g1 g2
                go_wp2_with fail
                go_ret
                refine ⟨_, rfl, ?_⟩
                show GvT _ _ _ _ _ _
                rw [HE.out]
                refine ⟨(Ow.set (HBz.out).2.1 1 _).to G2.out, rfl, pos s l6 + 6, by omega, by decide, ?_⟩
                have := G1.out
                have hwz : wrap64 ((pos s l6 : Int) + 6) = (pos s l6 : Int) + 6 := by unfold wrap64; omega
                try rw [hwz] at this
                rw [Int.natCast_add]
                exact this
            | two n m l6 l12 h hn a h2 hm a2 e d =>
              have HE := hide ((hEy.out) _ _ e)
              rw [d] at HE
              have hA6 := hide a
              have hq6 := (hA6.out).pos
              have hq7 := (hA6.out).len
              have hq8 := (hA6.out).sfx.pos
              have hp6 : (pos s (92 :: t) : Int) + 6 = (pos s l6 : Int) := by omega
              have hwr6 : IntKind.i64.wrap (pos s l6 : Int) = (pos s l6 : Int) := by rw [IntKind.wrap_i64]; omega
              have hww6 : wrap64 (pos s l6 : Int) = (pos s l6 : Int) := by unfold wrap64; omega
              have HL4 := hide (few4 hlen hs)
              have HF6 := hide (Aft.fin a (by decide) hlen)
              have HM6 := hide (a.mes (by decide))
              rw [hxI_some h]
              clear a h hq6
              have n1 : (55296 : Int) ≤ (n : Int) := by omega
              have n2 : (n : Int) ≤ 56319 := by omega
              have hnb : 0 ≤ (n : Int) - 55296 ∧ (n : Int) - 55296 ≤ 1023 := by omega
              clear hE6 hEy e HWy hn d
              go_wp2_with fail
              have HB6 := hide ((HBh.out).on (Ow.set (Kp.refl (fun q => q = rb) wh) 1 (.int .i64 (pos s l6 : Int))))
              have HJ6 := hide ((HJh.out).set1 (pos s l6 : Int))
              refine (whex_any rb s _ _ _ l6 _ hs (hA6.out).sfx HJ6.out).mono ?_
              rintro e wz ⟨rfl, kz⟩
              have HBz := hide ((HB6.out).below kz)
              have HJz := hide ((HJ6.out).below kz)
              clear kz HB6 HJ6 c0' c1 c2 c3 f1 f2 f3 hp6 hwr6 hww6 n1 n2
              obtain ⟨⟨c0', c1, c2, c3⟩, f1, f2, f3⟩ := (HJz.out).facts
              rw [hxI_some h2]
              clear h2
              have hA12 := hide a2
              have hr6 := (hA12.out).pos
              have hr7 := (hA12.out).len
              have hr8 := (hA12.out).sfx.pos
              have hp12 : (pos s l6 : Int) + 6 = (pos s l12 : Int) := by omega
              have hww12 : wrap64 (pos s l12 : Int) = (pos s l12 : Int) := by unfold wrap64; omega
              have HF12 := hide (Aft.fin ((hA6.out).trans hA12.out) (by decide) hlen)
              have HM12 := hide (((hA6.out).trans hA12.out).mes (by decide))
              clear hr6
              have hmb : 0 ≤ (m : Int) - 56320 ∧ (m : Int) - 56320 ≤ 1023 := by omega
              have m1 : decide ((56320 : Int) ≤ (m : Int)) = true := by simp only [decide_eq_true_iff]; omega
              have m2 : decide ((m : Int) ≤ 57343) = true := by simp only [decide_eq_true_iff]; omega
              have m3 : decide (56320 ≤ m) = true := by simp only [decide_eq_true_iff]; omega
              have m4 : decide (m ≤ 57343) = true := by simp only [decide_eq_true_iff]; omega
              have m5 : decide (65536 + ((n : Int) - 55296) * 1024 + (m : Int) - 56320 < 0) = false := by simp only [decide_eq_false_iff_not]; omega
              have m6 : decide ((56320 : Int) ≤ 65536 + ((n : Int) - 55296) * 1024 + (m : Int) - 56320) = true := by simp only [decide_eq_true_iff]; omega
              have m7 : decide (65536 + ((n : Int) - 55296) * 1024 + (m : Int) - 56320 ≤ 57343) = false := by simp only [decide_eq_false_iff_not]; omega
              have hv : Lib.validRune (65536 + ((n : Int) - 55296) * 1024 + (m : Int) - 56320) = true := by unfold Lib.validRune; exact decide_eq_true (.inr ⟨by omega, by omega⟩)
              have HV := hide hv
              have HC0 : Hid (0 ≤ 65536 + ((n : Int) - 55296) * 1024 + (m : Int) - 56320) := by show 0 ≤ _; omega
              clear hm hv
              go_wp2_with fail
              clear hmb hnb m1 m2 m3 m4 m5 m6 m7
              generalize 65536 + ((n : Int) - 55296) * 1024 + (m : Int) - 56320 = cc at *
              refine (utf_any (cc) _ HC0.out HV.out).mono ?_
              rintro e w3 ⟨rfl, rfl⟩
              have HBk := hide ((HBz.out).on (Ow.set (Kp.refl (fun q => q = rb) wz) 1 (.int .i64 ((pos s l12 : Int)))))
              have HJk := hide ((HJz.out).set1 ((pos s l12 : Int)))
              clear c0' c1 c2 c3 f1 f2 f3
              generalize wz.setCell ⟨rb, 1, none⟩ (.int .i64 ((pos s l12 : Int))) = wk at *
              have he4 := encW_pos (cc)
              have hs1 : 0 < (Lib.encodeRune (cc)).length := he4.1
              have hs2 : (out).length + (Lib.encodeRune (cc)).length ≤ maxLen := Nat.le_trans (Nat.add_le_add_left he4.2 _) (Nat.le_trans HL4.out (by unfold maxLen; decide))
              have hs3 : ((out).length + (Lib.encodeRune (cc)).length) * 1 ≤ 140737488355328 := by rw [Nat.mul_one]; exact Nat.le_trans (Nat.add_le_add_left he4.2 _) (Nat.le_trans HL4.out (by decide))
              have hs4 : w.heap.size ≤ (wk.alloc (.cells (Lib.byteCells (Lib.encodeRune (cc))).toArray 5)).heap.size := by rw [World.size_alloc]; exact Nat.le_succ_of_le (HBk.out).2.1.size
              have hs5 : (wk.alloc (.cells (Lib.byteCells (Lib.encodeRune (cc))).toArray 5)).heap.size = wk.heap.size + 1 := by simp
              have HS1 := hide hs1
              have HS2 := hide hs2
              have HS3 := hide hs3
              have HS4 := hide hs4
              have HS5 := hide hs5
              clear hs1 hs2 hs3 hs4 hs5
              go_wp2_with (at_builtin; refine wpList_append_lies _ rfl _ _ 68 rfl w.heap.size 5 i0 _ 1 1 Tryz.underlying68 hi0 hz0 hz1 hz2 rfl (by decide) u3 (out).length _ rfl ((HBk.out).1.alloc _) ⟨wk.heap.size, 0, none⟩ (Lib.encodeRune (cc)).length (Lib.encodeRune (cc)).length (Lib.byteCells (Lib.encodeRune (cc))) rfl (bc_lenW _) (World.news_of_block (cs := (Lib.byteCells (Lib.encodeRune (cc))).toArray) (heap_alloc_new wk _)) (bc_oneW _) HS1.out HS2.out HS3.out HS4.out (wk.heap.size + 1) HS5.out ?_; intro g5 cap5 w5 hown5 hgrow5 hat5 hlt5; have HBN := hide (InBW.more (new := Lib.encodeRune (cc)) (HBk.out) hown5 hgrow5); have HJ5 := hide ((HBk.out).raw HBN.out.2 HJk.out); clear hown5 hgrow5 hat5 hlt5)
              have HU : Hid (RawW w5 rb s (pos s l12) 0 0) := HJ5
              refine ⟨⟨_, l12, hide (hA12.out).sfx, HE, by rw [List.length_append]; exact (HF12.out) _ he4.2, (HBN.out).1, HU⟩, ?_⟩
              rw [hat, (HU.out).at]
              exact HM12.out
end Go.Proofs.YthdbnafiindgbaaGreatDoor
