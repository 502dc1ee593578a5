/- The document's reader of messages in memory, and the values that it makes. -/
import Derived.Test.YthdbnafiindgbaaGreatDoorWk0
import Derived.Test.YthdbnafiindgbaaGreatDoorKa
import Derived.Test.YthdbnafiindgbaaGreatDoorWja
import Derived.Test.YthdbnafiindgbaaGreatDoorProg
import Derived.BigQuiet
namespace Go.Proofs.YthdbnafiindgbaaGreatDoor
open Go.RowKit
open Wi

/-- A reader's block. -/
def RawW (w : World) (rb : Nat) (s : ByteArray) (i e b : Int) : Prop := w.heap[rb]? = some (.cells #[.string s, .int .i64 i, .int .i64 e, .int .i64 b] 44 (0, 0))
theorem RawW.facts {w : World} {rb : Nat} {s : ByteArray} {i e b : Int} (h : RawW w rb s i e b) :
    (w.cell? ⟨rb, 0, none⟩ = some (.string s) ∧ w.cell? ⟨rb, 1, none⟩ = some (.int .i64 i) ∧ w.cell? ⟨rb, 2, none⟩ = some (.int .i64 e) ∧ w.cell? ⟨rb, 3, none⟩ = some (.int .i64 b)) ∧ w.frozen? ⟨rb, 1, none⟩ = false ∧ w.frozen? ⟨rb, 2, none⟩ = false ∧ w.frozen? ⟨rb, 3, none⟩ = false := by
  unfold RawW at h
  refine ⟨⟨?_, ?_, ?_, ?_⟩, ?_, ?_, ?_⟩ <;> simp [World.cell?, World.frozen?, h]
theorem RawW.set1 {w : World} {rb : Nat} {s : ByteArray} {i e b : Int} (h : RawW w rb s i e b) (y : Int) : RawW (w.setCell ⟨rb, 1, none⟩ (.int .i64 y)) rb s y e b := by
  unfold RawW at h ⊢
  simp [World.setCell, Array.getElem?_modify, h]
theorem RawW.set2 {w : World} {rb : Nat} {s : ByteArray} {i e b : Int} (h : RawW w rb s i e b) (y : Int) : RawW (w.setCell ⟨rb, 2, none⟩ (.int .i64 y)) rb s i y b := by
  unfold RawW at h ⊢
  simp [World.setCell, Array.getElem?_modify, h]
theorem RawW.set3 {w : World} {rb : Nat} {s : ByteArray} {i e b : Int} (h : RawW w rb s i e b) (y : Int) : RawW (w.setCell ⟨rb, 3, none⟩ (.int .i64 y)) rb s i e y := by
  unfold RawW at h ⊢
  simp [World.setCell, Array.getElem?_modify, h]
theorem RawW.lt {w : World} {rb : Nat} {s : ByteArray} {i e b : Int} (h : RawW w rb s i e b) : rb < w.heap.size := heap_lt h
theorem RawW.keep {S : Nat → Prop} {w w' : World} {rb : Nat} {s : ByteArray} {i e b : Int} (h : RawW w rb s i e b) (hk : Kp S w w') (hn : ¬ S rb) : RawW w' rb s i e b := hk.heap h hn
theorem RawW.below {w w' : World} {rb : Nat} {s : ByteArray} {i e b : Int} (h : RawW w rb s i e b) (hk : Below w.heap.size w w') : RawW w' rb s i e b := h.keep (Kp.ofBelow hk (fun _ => False)) id

/-- What has come of a reading: a value from the block lo on, or a fault. -/
def GvJ (w : World) (rb : Nat) (s : ByteArray) (r : Res J) (v : Value) (w' : World) : Prop :=
  Ow rb w w' ∧ match r with
  | .ok j l => Sfx s l ∧ RawW w' rb s (pos s l) 0 0 ∧ IsJ w' (fun q => w.heap.size ≤ q ∧ q < w'.heap.size) v j
  | .bad e n => ∃ i : Nat, i ≤ s.size + 12 ∧ e ≠ 0 ∧ RawW w' rb s i e ((s.size - n : Nat) : Int)
end Go.Proofs.YthdbnafiindgbaaGreatDoor
/- The document's reader of messages: faults, blanks, signs. -/
namespace Go.Proofs.YthdbnafiindgbaaGreatDoor
open Go.RowKit
open Wi

def atW (rb : Nat) (w : World) : Nat := match w.cell? ⟨rb, 1, none⟩ with | some (.int _ n) => n.toNat | _ => 0
theorem RawW.at {w : World} {rb : Nat} {s : ByteArray} {i : Nat} {e b : Int} (h : RawW w rb s i e b) : atW rb w = i := by
  unfold atW
  rw [h.facts.1.2.1]; simp

set_option maxRecDepth 100000 in
set_option maxHeartbeats 1000000 in
theorem wfail_any (rb : Nat) (s : ByteArray) (i b e a : Int) (w : World) (h : RawW w rb s i 0 b) :
    Calls Tryz.prog 11 #[.pointer (some ⟨rb, 0, none⟩), .int .i64 e, .int .i64 a] w fun en w' => en = .returned (.tuple #[]) ∧ RawW w' rb s i e a ∧ Ow rb w w' := by
  have HR := hide h
  obtain ⟨⟨c0, c1, c2, c3⟩, f1, f2, f3⟩ := h.facts
  clear h
  go_enter Tryz.func11, Tryz.ntmps11
  go_wp2_with fail
  go_end0
  exact ⟨rfl, ((HR.out).set2 e).set3 a, Ow.set (Ow.set (Kp.refl _ w) 2 _) 3 _⟩

set_option maxRecDepth 100000 in
theorem isBl_eq (c : UInt8) : isBl c = ((((c.toNat : Int) == 9) || ((c.toNat : Int) == 10) || ((c.toNat : Int) == 13)) || ((c.toNat : Int) == 32)) := by
  have : ∀ k : Fin 256, isBl (UInt8.ofNat k.val) = ((((k.val : Int) == 9) || ((k.val : Int) == 10) || ((k.val : Int) == 13)) || ((k.val : Int) == 32)) := by decide
  have := this ⟨c.toNat, c.toNat_lt⟩
  simpa using this

set_option maxRecDepth 100000 in
set_option maxHeartbeats 4000000 in
theorem wblank_any (rb : Nat) (s : ByteArray) (l : List UInt8) (w : World) (hs : s.size ≤ 1073741824) (hl : Sfx s l) (h : RawW w rb s (pos s l) 0 0) :
    Calls Tryz.prog 10 #[.pointer (some ⟨rb, 0, none⟩)] w fun en w' => en = .returned (.tuple #[]) ∧ RawW w' rb s (pos s (bla l)) 0 0 ∧ Ow rb w w' := by
  have HR := hide h
  have HL := hide hl
  clear h hl
  go_enter Tryz.func10, Tryz.ntmps10
  go_wp2_with fail
  go_loopw [] (fun wr => ∃ l' : List UInt8, Hid (Sfx s l') ∧ Hid (bla l = bla l') ∧ Hid (RawW wr rb s (pos s l') 0 0) ∧ Hid (Ow rb w wr)) (fun wr => s.size - atW rb wr)
  case atStart => exact ⟨l, HL, (rfl : bla l = bla l), HR, Kp.refl _ w⟩
  case round =>
    obtain ⟨l', HS, HB, HJ, HK⟩ := hrel
    have hat := (HJ.out).at
    have hpos := (HS.out).pos
    obtain ⟨⟨c0, c1, c2, c3⟩, f1, f2, f3⟩ := (HJ.out).facts
    cases l' with
    | nil =>
      have i1 : decide (pos s [] < s.size) = false := by rw [pos_nil]; simp
      have HE : Hid (RawW wr rb s (pos s (bla l)) 0 0) := by show RawW _ _ _ _ _ _; rw [HB.out]; exact HJ.out
      clear hat hpos HB HS HJ
      go_wp2_with fail
      go_quiet (fail)
      go_wp2_with fail
      go_end0
      exact ⟨rfl, (HE.out).below (belowN (Below.refl _ _) _), (HK.out).to (Ow.ofBelow rb (belowN (Below.refl _ _) _))⟩
    | cons c t =>
      obtain ⟨hi, hg⟩ := (HS.out).getD (k := 0) (by simp)
      simp only [Nat.add_zero, List.getElem_cons_zero] at hi hg
      have i1 : decide (pos s (c :: t) < s.size) = true := by simp; omega
      have i2 : (0 : Int) ≤ (pos s (c :: t) : Int) := Int.natCast_nonneg _
      have i3 : (pos s (c :: t) : Int) < (s.size : Int) := by omega
      have hbe := isBl_eq c
      have HP := hide (pos_cons HS.out)
      cases hb : isBl c with
      | false =>
        have HE : Hid (RawW wr rb s (pos s (bla l)) 0 0) := by show RawW _ _ _ _ _ _; rw [HB.out, bla_cons hb]; exact HJ.out
        rw [hb] at hbe
        simp only [Bool.false_eq, Bool.or_eq_false_iff] at hbe
        obtain ⟨⟨⟨b1, b2⟩, b3⟩, b4⟩ := hbe
        rw [← hg] at b1 b2 b3 b4
        clear hat hpos HB HS HJ hg HP hb
        go_wp2_with fail
        go_quiet (fail)
        go_wp2_with fail
        go_end0
        exact ⟨rfl, (HE.out).below (belowN (Below.refl _ _) _), (HK.out).to (Ow.ofBelow rb (belowN (Below.refl _ _) _))⟩
      | true =>
        have HN : Hid (bla l = bla t) := by show _ = _; rw [HB.out, bla_skip hb]
        have HT := hide (HS.out).tail
        rw [hb] at hbe
        rw [← hg] at hbe
        clear HB HS hg hb
        have hb4 : (((s[pos s (c :: t)].toNat : Int) == 9) = true) ∨ (((s[pos s (c :: t)].toNat : Int) == 9) = false ∧ ((s[pos s (c :: t)].toNat : Int) == 10) = true) ∨ (((s[pos s (c :: t)].toNat : Int) == 9) = false ∧ ((s[pos s (c :: t)].toNat : Int) == 10) = false ∧ ((s[pos s (c :: t)].toNat : Int) == 13) = true) ∨ (((s[pos s (c :: t)].toNat : Int) == 9) = false ∧ ((s[pos s (c :: t)].toNat : Int) == 10) = false ∧ ((s[pos s (c :: t)].toNat : Int) == 13) = false ∧ ((s[pos s (c :: t)].toNat : Int) == 32) = true) := by
          revert hbe
          cases ((s[pos s (c :: t)].toNat : Int) == 9) <;> cases ((s[pos s (c :: t)].toNat : Int) == 10) <;> cases ((s[pos s (c :: t)].toNat : Int) == 13) <;> cases ((s[pos s (c :: t)].toNat : Int) == 32) <;> simp
        clear hbe
        rcases hb4 with b1 | ⟨b1, b2⟩ | ⟨b1, b2, b3⟩ | ⟨b1, b2, b3, b4⟩
        all_goals
          go_wp2_with fail
          go_quiet (fail)
          go_wp2_with fail
          refine ⟨⟨t, HT, HN, ?_, ?_⟩, ?_⟩
          · show RawW _ _ _ _ _ _
            have := ((HJ.out).below (belowN (Below.refl _ _) nq)).set1 ((pos s t : Nat) : Int)
            rw [HP.out] at this ⊢
            exact this
          · exact Ow.set ((HK.out).to (Ow.ofBelow rb (belowN (Below.refl _ _) _))) 1 _
          · have := (((HJ.out).below (belowN (Below.refl _ _) nq)).set1 ((pos s t : Nat) : Int)).at
            rw [HP.out] at this
            rw [hat]
            have e := HP.out
            first | (erw [this]; omega) | omega
end Go.Proofs.YthdbnafiindgbaaGreatDoor
/- The document's reader of messages: signs and words. -/
namespace Go.Proofs.YthdbnafiindgbaaGreatDoor
open Go.RowKit
open Wi

/-- What is left behind a sign that may be there. -/
def signL (c : UInt8) (l : List UInt8) : List UInt8 := (sign c l).getD (bla l)
theorem signL_some {c : UInt8} {l t : List UInt8} (h : sign c l = some t) : signL c l = t := by unfold signL; rw [h]; rfl
theorem signL_none {c : UInt8} {l : List UInt8} (h : sign c l = none) : signL c l = bla l := by unfold signL; rw [h]; rfl
theorem signL_sfx (c : UInt8) (l : List UInt8) : signL c l <:+ l := by
  cases h : sign c l with
  | none => rw [signL_none h]; exact bla_sfx l
  | some t => rw [signL_some h]; exact sign_sfx h
theorem RawW.drew {w : World} {rb : Nat} {s : ByteArray} {i e b : Int} (h : RawW w rb s i e b) (n : Nat) : RawW (w.drewN n) rb s i e b := h.below (belowN (Below.refl _ _) n)
theorem Ow.drew {a w : World} {rb : Nat} (h : Ow rb a w) (n : Nat) : Ow rb a (w.drewN n) := h.to (Ow.ofBelow rb (belowN (Below.refl _ _) n))

set_option maxRecDepth 100000 in
set_option maxHeartbeats 4000000 in
theorem wsign_any (rb : Nat) (s : ByteArray) (l : List UInt8) (c : UInt8) (k : Nat) (hk : c.toNat = k) (w : World) (hs : s.size ≤ 1073741824) (hl : Sfx s l) (h : RawW w rb s (pos s l) 0 0) :
    Calls Tryz.prog 33 #[.pointer (some ⟨rb, 0, none⟩), .int .u8 (k : Int)] w fun en w' => en = .returned (.bool (sign c l).isSome) ∧ RawW w' rb s (pos s (signL c l)) 0 0 ∧ Ow rb w w' := by
  have HR := hide h
  have HL := hide hl
  clear h hl
  go_enter Tryz.func33, Tryz.ntmps33
  go_wp2_with fail
  refine (wblank_any rb s l _ hs HL.out HR.out).mono ?_
  rintro e w1 ⟨rfl, h1, k1⟩
  have H1 := hide h1
  have K1 := hide k1
  have HL1 := hide ((HL.out).mono (bla_sfx l))
  have HC : Hid (∀ x t, bla l = x :: t → sign c l = if x = c then some t else none) := by
    intro x t e; unfold sign; rw [e]
  have HZ : Hid (bla l = [] → sign c l = none) := by intro e; unfold sign; rw [e]
  have HS : Hid (sign c l = none → signL c l = bla l) := fun e => signL_none e
  have HS2 : Hid (∀ t, sign c l = some t → signL c l = t) := fun t e => signL_some e
  clear k1 h1 HR
  generalize bla l = l1 at *
  obtain ⟨⟨c0, c1, c2, c3⟩, f1, f2, f3⟩ := (H1.out).facts
  cases l1 with
  | nil =>
    have i1 : decide (pos s [] < s.size) = false := by rw [pos_nil]; simp
    have HE := hide ((HZ.out) rfl)
    clear HC HS2
    go_wp2_with fail
    go_quiet (fail)
    go_wp2_with fail
    go_ret
    refine ⟨retbw ?_, ?_, (K1.out).drew _⟩
    · rw [HE.out]; rfl
    · rw [(HS.out) HE.out]; exact (H1.out).drew _
  | cons x t =>
    obtain ⟨hi, hg⟩ := (HL1.out).getD (k := 0) (by simp)
    simp only [Nat.add_zero, List.getElem_cons_zero] at hi hg
    have i1 : decide (pos s (x :: t) < s.size) = true := by simp; omega
    have i2 : (0 : Int) ≤ (pos s (x :: t) : Int) := Int.natCast_nonneg _
    have i3 : (pos s (x :: t) : Int) < (s.size : Int) := by omega
    have HP := hide (pos_cons HL1.out)
    have HX := hide ((HC.out) x t rfl)
    by_cases hx : x = c
    · have b1 : ((s[pos s (x :: t)].toNat : Int) == (k : Int)) = true := by rw [hg, hx, hk]; simp
      have HE : Hid (sign c l = some t) := by show _ = _; rw [HX.out, if_pos hx]
      clear HC HZ HS HX hx hg hk
      go_wp2_with fail
      go_quiet (fail)
      go_wp2_with fail
      go_ret
      refine ⟨retbw ?_, ?_, Ow.set ((K1.out).drew _) 1 _⟩
      · rw [HE.out]; rfl
      · rw [(HS2.out) t HE.out]
        have := ((H1.out).drew nq).set1 ((pos s t : Nat) : Int)
        rw [HP.out] at this ⊢
        exact this
    · have b1 : ((s[pos s (x :: t)].toNat : Int) == (k : Int)) = false := by
        rw [hg, ← hk]; simp; intro e; exact hx (UInt8.toNat_inj.1 (by omega))
      have HE : Hid (sign c l = none) := by show _ = _; rw [HX.out, if_neg hx]
      clear HC HZ HX hx hg hk HS2
      go_wp2_with fail
      go_quiet (fail)
      go_wp2_with fail
      go_ret
      refine ⟨retbw ?_, ?_, (K1.out).drew _⟩
      · rw [HE.out]; rfl
      · rw [(HS.out) HE.out]; exact (H1.out).drew _

theorem RawW.alloc {w : World} {rb : Nat} {s : ByteArray} {i e b : Int} (h : RawW w rb s i e b) (o : Obj) : RawW (w.alloc o) rb s i e b := h.below ((Below.refl _ w).alloc (Nat.le_refl _) o)
/-- A plain value that is made when a word or a number has been read. -/
theorem GvJ.made {w W : World} {rb N : Nat} {s : ByteArray} {k n : Int} {t l : List UInt8} (hk : Ow rb w W) (hl : Sfx s l) (hr : RawW W rb s (pos s l) 0 0) (hN : N = W.heap.size) : GvJ w rb s (.ok (.mk k n t [] []) l) (.pointer (some ⟨N, 0, none⟩)) (W.alloc (jcell k n t (.slice none 0 0) (.slice none 0 0))) := by
  subst hN
  exact ⟨Kp.alloc hk _, hl, hr.alloc _, IsJ.plain (heap_alloc_new _ _) ⟨hk.size, by simp⟩⟩
theorem jzero (k n : Int) : (.cells #[.int .i64 k, .int .i64 n, .string ⟨#[]⟩, .slice none 0 0, .slice none 0 0] 36 (0, 0) : Obj) = jcell k n [] (.slice none 0 0) (.slice none 0 0) := rfl
theorem word_yes {s X : ByteArray} {l : List UInt8} {k n : Int} (hl : Sfx s l) (h : s.extract (pos s l) (pos s l + X.size) = X) : word (bs X) k n l = .ok (.mk k n [] [] []) (l.drop X.size) := by
  have h2 := congrArg bs h
  rw [bs_cut, List.drop_take, hl.eq, show pos s l + X.size - pos s l = X.size by omega] at h2
  unfold word
  rw [if_pos, bs_len]
  rw [List.isPrefixOf_iff_prefix, ← h2]
  exact List.take_prefix _ _
theorem word_no {s X : ByteArray} {l : List UInt8} {k n : Int} (hl : Sfx s l) (h : X.size ≤ l.length → ¬ s.extract (pos s l) (pos s l + X.size) = X) : word (bs X) k n l = .bad 3 l.length := by
  unfold word
  rw [if_neg]
  intro e
  have e1 := List.isPrefixOf_iff_prefix.1 e
  have e2 : X.size ≤ l.length := by have := e1.length_le; rw [bs_len] at this; exact this
  refine h e2 (bs_inj ?_)
  rw [bs_cut, List.drop_take, hl.eq]
  have e3 := List.prefix_iff_eq_take.1 e1
  rw [bs_len] at e3
  rw [show pos s l + X.size - pos s l = X.size by omega]
  exact e3.symm
set_option maxRecDepth 100000 in
set_option maxHeartbeats 4000000 in
theorem wword_any (rb : Nat) (s : ByteArray) (l : List UInt8) (X : ByteArray) (k n : Int) (w : World) (hs : s.size ≤ 1073741824) (hxl : X.size ≤ 10) (hl : Sfx s l) (h : RawW w rb s (pos s l) 0 0) :
    Calls Tryz.prog 18 #[.pointer (some ⟨rb, 0, none⟩), .string X, .int .i64 k, .int .i64 n] w fun en w' => ∃ v, en = .returned v ∧ Hid (GvJ w rb s (word (bs X) k n l) v w') := by
  have HR := hide h
  have HL := hide hl
  have hpos := hl.pos
  obtain ⟨⟨c0, c1, c2, c3⟩, f1, f2, f3⟩ := h.facts
  clear h hl
  go_enter Tryz.func18, Tryz.ntmps18
  by_cases h1 : X.size ≤ l.length
  case neg =>
    have i1 : decide ((s.size : Int) < (pos s l : Int) + (X.size : Int)) = true := by simp; omega
    have HE := hide (word_no (k := k) (n := n) HL.out (fun e => absurd e h1))
    go_wp2_with fail
    go_quiet (fail)
    go_wp2_with fail
    refine (wfail_any rb s _ _ 3 _ _ ((HR.out).drew nq)).mono ?_
    rintro e w1 ⟨rfl, g1, g2⟩
    have G1 := hide g1
    have G2 := hide g2
    clear g1 g2
    go_wp2_with fail
    go_ret
    refine ⟨_, rfl, ?_⟩
    show GvJ _ _ _ _ _ _
    rw [HE.out]
    exact ⟨(Ow.ofBelow rb (belowN (Below.refl _ w) nq)).to G2.out, pos s l, by omega, by decide, G1.out⟩
  case pos =>
  have i1 : decide ((s.size : Int) < (pos s l : Int) + (X.size : Int)) = false := by simp; omega
  have i2 : (0 : Int) ≤ (pos s l : Int) := Int.natCast_nonneg _
  have i3 : (pos s l : Int) ≤ (pos s l : Int) + (X.size : Int) := by omega
  have i4 : (pos s l : Int) + (X.size : Int) ≤ (s.size : Int) := by omega
  by_cases h2 : s.extract (pos s l) (pos s l + X.size) = X
  case neg =>
    have HE := hide (word_no (k := k) (n := n) HL.out (fun _ => h2))
    have i5 : ((s.extract (pos s l) (pos s l + X.size)).toList == X.toList) = false := by rw [sb_eq]; simpa using h2
    go_wp2_with fail
    go_quiet (fail)
    go_wp2_with fail
    refine (wfail_any rb s _ _ 3 _ _ ((HR.out).drew nq)).mono ?_
    rintro e w1 ⟨rfl, g1, g2⟩
    have G1 := hide g1
    have G2 := hide g2
    clear g1 g2
    go_wp2_with fail
    go_ret
    refine ⟨_, rfl, ?_⟩
    show GvJ _ _ _ _ _ _
    rw [HE.out]
    exact ⟨(Ow.ofBelow rb (belowN (Below.refl _ w) nq)).to G2.out, pos s l, by omega, by decide, G1.out⟩
  case pos =>
    have HE := hide (word_yes (k := k) (n := n) HL.out h2)
    have i5 : ((s.extract (pos s l) (pos s l + X.size)).toList == X.toList) = true := by rw [sb_eq]; simpa using h2
    have HP := hide (pos_drop HL.out h1)
    go_wp2_with fail
    go_quiet (fail)
    go_wp2_with fail
    go_ret
    refine ⟨_, rfl, ?_⟩
    show GvJ _ _ _ _ _ _
    rw [HE.out]
    have hr := ((HR.out).drew nq).set1 ((pos s (l.drop X.size) : Nat) : Int)
    have hk : Ow rb w ((w.drewN nq).setCell ⟨rb, 1, none⟩ (.int .i64 ((pos s (l.drop X.size) : Nat) : Int))) := Ow.set (Ow.ofBelow rb (belowN (Below.refl _ w) nq)) 1 _
    have := GvJ.made (k := k) (n := n) (t := []) (N := w.heap.size) hk ((HL.out).drop X.size) hr (by simp)
    rw [HP.out, Int.natCast_add] at this
    exact this
end Go.Proofs.YthdbnafiindgbaaGreatDoor
