/- The program's reader of messages: its place, blanks, signs. -/
import Derived.Test.YthdbnafiindgbaaGreatDoorWk0
import Derived.Test.YthdbnafiindgbaaGreatDoorWma0
import Derived.Test.YthdbnafiindgbaaGreatDoorWna0
import Derived.WalkLawsBesides
namespace Go.Proofs.YthdbnafiindgbaaGreatDoor
open Go.RowKit
open Wi

/-- A source's block. -/
def RawS (w : World) (sb : Nat) (s : ByteArray) (i d : Int) : Prop := w.heap[sb]? = some (.cells #[.string s, .int .i64 i, .int .i64 d] 40 (0, 0))
theorem RawS.facts {w : World} {sb : Nat} {s : ByteArray} {i d : Int} (h : RawS w sb s i d) : (w.cell? ⟨sb, 0, none⟩ = some (.string s) ∧ w.cell? ⟨sb, 1, none⟩ = some (.int .i64 i) ∧ w.cell? ⟨sb, 2, none⟩ = some (.int .i64 d)) ∧ w.frozen? ⟨sb, 1, none⟩ = false ∧ w.frozen? ⟨sb, 2, none⟩ = false := by
  unfold RawS at h
  refine ⟨⟨?_, ?_, ?_⟩, ?_, ?_⟩ <;> simp [World.cell?, World.frozen?, h]
theorem RawS.set1 {w : World} {sb : Nat} {s : ByteArray} {i d : Int} (h : RawS w sb s i d) (y : Int) : RawS (w.setCell ⟨sb, 1, none⟩ (.int .i64 y)) sb s y d := set_blkB h 1 _
theorem RawS.set2 {w : World} {sb : Nat} {s : ByteArray} {i d : Int} (h : RawS w sb s i d) (y : Int) : RawS (w.setCell ⟨sb, 2, none⟩ (.int .i64 y)) sb s i y := set_blkB h 2 _
theorem RawS.lt {w : World} {sb : Nat} {s : ByteArray} {i d : Int} (h : RawS w sb s i d) : sb < w.heap.size := heap_lt h
theorem RawS.keep {S : Nat → Prop} {w w' : World} {sb : Nat} {s : ByteArray} {i d : Int} (h : RawS w sb s i d) (hk : Kp S w w') (hn : ¬ S sb) : RawS w' sb s i d := hk.heap h hn
theorem RawS.below {w w' : World} {sb : Nat} {s : ByteArray} {i d : Int} (h : RawS w sb s i d) (hk : Below w.heap.size w w') : RawS w' sb s i d := h.keep (Kp.ofBelow hk (fun _ => False)) id
theorem RawS.drew {w : World} {sb : Nat} {s : ByteArray} {i d : Int} (h : RawS w sb s i d) (n : Nat) : RawS (w.drewN n) sb s i d := h.below (belowN (Below.refl _ _) n)
def atS (sb : Nat) (w : World) : Nat := match w.cell? ⟨sb, 1, none⟩ with | some (.int _ n) => n.toNat | _ => 0
theorem RawS.at {w : World} {sb : Nat} {s : ByteArray} {i : Nat} {d : Int} (h : RawS w sb s i d) : atS sb w = i := by
  unfold atS
  rw [h.facts.1.2.1]; simp
theorem Ow.drewN {a w : World} {rb : Nat} (h : Ow rb a w) (n : Nat) : Ow rb a (w.drewN n) := h.to (Ow.ofBelow rb (belowN (Below.refl _ _) n))
/-- The reading ends by a panic: where, and what is wrong. -/
abbrev flt (n e : Int) : Ending := .panicked [{ v := .iface 52 (.agg #[.int .i64 n, .int .i64 e]), recovered := false }]
/-- The next byte; at the end 0. -/
def hdB (l : List UInt8) : Nat := match l with | [] => 0 | c :: _ => c.toNat
def lsb (s : ByteArray) : Prop := s.size ≤ 1073741824

set_option maxRecDepth 100000 in
set_option maxHeartbeats 1000000 in
theorem onext_any (sb : Nat) (s : ByteArray) (l : List UInt8) (d : Int) (w : World) (hl : Sfx s l) (h : RawS w sb s (pos s l) d) :
    Calls Tryz.prog 23 #[.pointer (some ⟨sb, 0, none⟩)] w fun en w' => en = .returned (.int .u8 (hdB l : Nat)) ∧ ∃ m, w' = w.drewN m := by
  obtain ⟨⟨c0, c1, c2⟩, -, -⟩ := h.facts
  cases l with
  | nil =>
    have e0 : pos s [] = s.size := pos_nil s
    rw [e0] at c1
    have i1 : ((s.size : Int) == (s.size : Int)) = true := by simp
    clear h hl e0
    go_enter Tryz.func23, Tryz.ntmps23
    go_wp2_with fail
    go_quiet (fail)
    go_wp2_with fail
    go_ret
    exact ⟨rfl, _, rfl⟩
  | cons c t =>
    obtain ⟨hi, hg⟩ := hl.getD (k := 0) (by simp)
    simp only [Nat.add_zero, List.getElem_cons_zero] at hi hg
    have HH : Hid (hdB (c :: t) = c.toNat) := rfl
    rw [HH.out]
    generalize pos s (c :: t) = n at *
    have i1 : ((n : Int) == (s.size : Int)) = false := by simp; omega
    have i2 : (0 : Int) ≤ (n : Int) := by omega
    have i3 : (n : Int) < (s.size : Int) := by omega
    have i4 : ¬ n = s.size := by omega
    clear h hl HH
    go_enter Tryz.func23, Tryz.ntmps23
    go_wp2_with fail
    go_quiet (fail)
    revert nq
    intro n1
    go_wp2_with fail
    go_quiet (fail)
    go_wp2_with fail
    go_ret
    refine ⟨?_, n1 + nq, ?_⟩
    · rw [← hg]; rfl
    · simp
set_option maxRecDepth 100000 in
theorem isBlank_any (n : Nat) (w : World) : Calls Tryz.prog 30 #[.int .u8 (n : Int)] w fun e w' => e = .returned (.bool (n == 32 || n == 9 || n == 10 || n == 13)) ∧ w' = w := by
  have h0 : ∀ k : Nat, ((n : Int) == (k : Int)) = (n == k) := fun k => by rw [Bool.eq_iff_iff]; simp; omega
  have h1 : ((n : Int) == 32) = (n == 32) := h0 32
  have h2 : ((n : Int) == 9) = (n == 9) := h0 9
  have h3 : ((n : Int) == 10) = (n == 10) := h0 10
  have h4 : ((n : Int) == 13) = (n == 13) := h0 13
  clear h0
  generalize (n : Int) = ni at *
  cases g1 : (n == 32) <;> cases g2 : (n == 9) <;> cases g3 : (n == 10) <;> cases g4 : (n == 13)
  all_goals
    rw [g1] at h1; rw [g2] at h2; rw [g3] at h3; rw [g4] at h4
    clear g1 g2 g3 g4
    go_enter Tryz.func30, Tryz.ntmps30
    go_wp2
    go_ret
    exact ⟨rfl, rfl⟩
set_option maxRecDepth 100000 in
theorem isBl_hd (l : List UInt8) : (hdB l == 32 || hdB l == 9 || hdB l == 10 || hdB l == 13) = (match l with | [] => false | c :: _ => isBl c) := by
  cases l with
  | nil => rfl
  | cons c t =>
    have : ∀ k : Fin 256, (k.val == 32 || k.val == 9 || k.val == 10 || k.val == 13) = isBl (UInt8.ofNat k.val) := by decide
    have h := this ⟨c.toNat, c.toNat_lt⟩
    simpa [hdB] using h
set_option maxRecDepth 100000 in
set_option maxHeartbeats 2000000 in
theorem oblanks_any (sb : Nat) (s : ByteArray) (l : List UInt8) (d : Int) (w : World) (hs : s.size ≤ 1073741824) (hl : Sfx s l) (h : RawS w sb s (pos s l) d) :
    Calls Tryz.prog 16 #[.pointer (some ⟨sb, 0, none⟩)] w fun en w' => en = .returned (.tuple #[]) ∧ RawS w' sb s (pos s (bla l)) d ∧ Ow sb w w' := by
  have HR := hide h
  have HL := hide hl
  clear h hl
  go_enter Tryz.func16, Tryz.ntmps16
  go_wp2_with fail
  go_loopw [] (fun wr => ∃ l' : List UInt8, Hid (Sfx s l') ∧ Hid (bla l = bla l') ∧ Hid (RawS wr sb s (pos s l') d) ∧ Hid (Ow sb w wr)) (fun wr => s.size - atS sb wr)
  case atStart => exact ⟨l, HL, (rfl : bla l = bla l), HR, Kp.refl _ w⟩
  case round =>
    obtain ⟨l', HS, HB, HJ, HK⟩ := hrel
    have hat := (HJ.out).at
    have HNX := hide (onext_any sb s l' d wr HS.out HJ.out)
    have HBL := hide (isBl_hd l')
    cases l' with
    | nil =>
      have HE : Hid (bla l = []) := HB.out
      clear HB hat
      go_wp2_with fail
      refine (HNX.out).mono ?_
      rintro e w2 ⟨rfl, m, rfl⟩
      have HIB := hide (isBlank_any (hdB []) (wr.drewN m))
      rw [HBL.out] at HIB
      go_wp2_with fail
      refine (HIB.out).mono ?_
      rintro e w3 ⟨rfl, rfl⟩
      go_wp2_with fail
      go_end0
      refine ⟨rfl, ?_, (HK.out).drewN m⟩
      rw [HE.out]; exact (HJ.out).drew m
    | cons c t =>
      have HP := hide (pos_cons HS.out)
      have hi := (HS.out).le
      simp only [List.length_cons] at hi
      cases hb : isBl c with
      | false =>
        have HE : Hid (bla l = c :: t) := by show _ = _; rw [HB.out, bla_cons hb]
        go_wp2_with fail
        refine (HNX.out).mono ?_
        rintro e w2 ⟨rfl, m, rfl⟩
        have HIB := hide (isBlank_any (hdB (c :: t)) (wr.drewN m))
        rw [HBL.out] at HIB
        simp only [hb] at HIB
        clear hat HB
        go_wp2_with fail
        refine (HIB.out).mono ?_
        rintro e w3 ⟨rfl, rfl⟩
        go_wp2_with fail
        go_end0
        refine ⟨rfl, ?_, (HK.out).drewN m⟩
        rw [HE.out]; exact (HJ.out).drew m
      | true =>
        have HE : Hid (bla l = bla t) := by show _ = _; rw [HB.out, bla_skip hb]
        have HT := hide (HS.out).tail
        have hpos : pos s (c :: t) + t.length + 1 = s.size := by have := (HS.out).pos; simp only [List.length_cons] at this; omega
        go_wp2_with fail
        refine (HNX.out).mono ?_
        rintro e w2 ⟨rfl, m, rfl⟩
        have HIB := hide (isBlank_any (hdB (c :: t)) (wr.drewN m))
        rw [HBL.out] at HIB
        simp only [hb] at HIB
        have HJ2 := hide ((HJ.out).drew m)
        have HK2 := hide ((HK.out).drewN m)
        obtain ⟨⟨c0, c1, c2⟩, f1, -⟩ := (HJ2.out).facts
        clear HB HJ HK HNX
        generalize wr.drewN m = w2 at *
        go_wp2_with fail
        refine (HIB.out).mono ?_
        rintro e w3 ⟨rfl, rfl⟩
        go_wp2_with fail
        have HJ3 := ((HJ2.out).set1 ((pos s t : Nat) : Int))
        rw [HP.out] at HJ3
        refine ⟨⟨t, HT, HE, ?_, ?_⟩, ?_⟩
        · show RawS _ _ _ _ _
          rw [HP.out]; exact HJ3
        · exact Ow.set HK2.out 1 _
        · have := RawS.at (i := pos s (c :: t) + 1) HJ3
          rw [hat]
          first | (erw [this]; omega) | omega
end Go.Proofs.YthdbnafiindgbaaGreatDoor
/- The program's reader of messages: signs, words, numbers. -/
namespace Go.Proofs.YthdbnafiindgbaaGreatDoor
open Go.RowKit
open Wi

/-- What is left behind a sign that may be there. -/
def sgL (c : UInt8) (l : List UInt8) : List UInt8 := (sign c l).getD (bla l)
theorem sgL_some {c : UInt8} {l t : List UInt8} (h : sign c l = some t) : sgL c l = t := by unfold sgL; rw [h]; rfl
theorem sgL_none {c : UInt8} {l : List UInt8} (h : sign c l = none) : sgL c l = bla l := by unfold sgL; rw [h]; rfl
theorem sgL_sfx (c : UInt8) (l : List UInt8) : sgL c l <:+ l := by
  cases h : sign c l with
  | none => rw [sgL_none h]; exact bla_sfx l
  | some t => rw [sgL_some h]; exact sign_sfx h
set_option maxRecDepth 100000 in
theorem ostop_any (sb : Nat) (s : ByteArray) (i d : Int) (w : World) (h : RawS w sb s i d) :
    Calls Tryz.prog 17 #[.pointer (some ⟨sb, 0, none⟩)] w fun en w' => en = flt i 3 ∧ w' = w := by
  obtain ⟨⟨c0, c1, c2⟩, -, -⟩ := h.facts
  clear h
  go_enter Tryz.func17, Tryz.ntmps17
  go_wp2
  exact ⟨rfl, rfl, rfl⟩
set_option maxRecDepth 100000 in
set_option maxHeartbeats 1000000 in
theorem ohas_any (sb : Nat) (s : ByteArray) (l : List UInt8) (d : Int) (c : UInt8) (k : Nat) (hk : c.toNat = k) (hk0 : k ≠ 0) (w : World) (hs : s.size ≤ 1073741824) (hl : Sfx s l) (h : RawS w sb s (pos s l) d) :
    Calls Tryz.prog 59 #[.pointer (some ⟨sb, 0, none⟩), .int .u8 (k : Int)] w fun en w' => en = .returned (.bool (sign c l).isSome) ∧ RawS w' sb s (pos s (sgL c l)) d ∧ Ow sb w w' := by
  have HBL := hide (oblanks_any sb s l d w hs hl h)
  have HL1 := hide (hl.mono (bla_sfx l))
  have HC : Hid (sign c l = match bla l with | [] => none | x :: t => if x = c then some t else none) := rfl
  have HS : Hid (sign c l = none → sgL c l = bla l) := fun e => sgL_none e
  have HS2 : Hid (∀ t, sign c l = some t → sgL c l = t) := fun t e => sgL_some e
  clear h hl
  generalize sign c l = sg at *
  generalize sgL c l = rl at *
  generalize bla l = b at *
  go_enter Tryz.func59, Tryz.ntmps59
  go_wp2_with fail
  refine (HBL.out).mono ?_
  rintro e w1 ⟨rfl, h1, k1⟩
  have HN := hide (onext_any sb s b d w1 HL1.out h1)
  have HR1 := hide h1
  have HK1 := hide k1
  clear h1 k1 HBL
  by_cases hx : ∃ t, b = c :: t
  · obtain ⟨t, rfl⟩ := hx
    have hsg : sg = some t := by have := HC.out; simpa using this
    subst hsg
    have hrl : rl = t := (HS2.out) t rfl
    subst hrl
    have HP := hide (pos_cons HL1.out)
    have hlt := (HL1.out).pos
    simp only [List.length_cons] at hlt
    have hh : hdB (c :: rl) = k := hk
    rw [hh] at HN
    go_wp2_with fail
    refine (HN.out).mono ?_
    rintro e w2 ⟨rfl, m, rfl⟩
    have HR2 := hide ((HR1.out).drew m)
    have HK2 := hide ((HK1.out).drewN m)
    obtain ⟨⟨c0, c1, c2⟩, f1, -⟩ := (HR2.out).facts
    clear HR1 HK1 HN
    generalize w1.drewN m = w2 at *
    go_wp2_with fail
    go_ret
    have := (HR2.out).set1 ((pos s rl : Nat) : Int)
    rw [HP.out] at this ⊢
    exact ⟨rfl, this, Ow.set HK2.out 1 _⟩
  · have hsg : sg = none := by
      have := HC.out
      cases b with
      | nil => exact this
      | cons x t =>
        simp only at this
        rw [if_neg (fun e => hx ⟨t, by rw [e]⟩)] at this
        exact this
    subst hsg
    have hrl : rl = b := (HS.out) rfl
    subst hrl
    have hh : hdB rl ≠ k := by
      intro e
      cases rl with
      | nil => exact hk0 e.symm
      | cons x t => exact hx ⟨t, by rw [show x = c from UInt8.toNat_inj.1 (by rw [hk]; exact e)]⟩
    have b1 : ((hdB rl : Int) == (k : Int)) = false := by simp; omega
    have b2 : ((hdB rl : Int) != (k : Int)) = true := by rw [bne, b1]; rfl
    have b3 : ¬ hdB rl = k := hh
    clear hx hh
    generalize hdB rl = hd at *
    go_wp2_with fail
    refine (HN.out).mono ?_
    rintro e w2 ⟨rfl, m, rfl⟩
    go_wp2_with fail
    go_ret
    exact ⟨rfl, (HR1.out).drew m, (HK1.out).drewN m⟩
/-- What comes of something that has to be next: the place behind it, or a fault. -/
def OkS (w : World) (sb : Nat) (s : ByteArray) (d : Int) (r : Option (List UInt8)) (bad : List UInt8) (en : Ending) (w' : World) : Prop :=
  Ow sb w w' ∧ match r with
  | some t => en = .returned (.tuple #[]) ∧ RawS w' sb s (pos s t) d
  | none => en = flt (pos s bad : Nat) 3
set_option maxRecDepth 100000 in
set_option maxHeartbeats 1000000 in
theorem osign_any (sb : Nat) (s : ByteArray) (l : List UInt8) (d : Int) (c : UInt8) (k : Nat) (hk : c.toNat = k) (hk0 : k ≠ 0) (w : World) (hs : s.size ≤ 1073741824) (hl : Sfx s l) (h : RawS w sb s (pos s l) d) :
    Calls Tryz.prog 49 #[.pointer (some ⟨sb, 0, none⟩), .int .u8 (k : Int)] w fun en w' => OkS w sb s d (sign c l) (bla l) en w' := by
  have HH := hide (ohas_any sb s l d c k hk hk0 w hs hl h)
  clear h hl hk hk0
  cases hsg : sign c l with
  | some t =>
    rw [hsg, sgL_some hsg] at HH
    clear hsg
    go_enter Tryz.func49, Tryz.ntmps49
    go_wp2_with fail
    refine (HH.out).mono ?_
    rintro e w1 ⟨rfl, h1, k1⟩
    have HR := hide h1
    have HK := hide k1
    clear h1 k1 HH
    go_wp2_with fail
    go_end0
    exact ⟨HK.out, rfl, HR.out⟩
  | none =>
    rw [hsg, sgL_none hsg] at HH
    clear hsg
    go_enter Tryz.func49, Tryz.ntmps49
    go_wp2_with fail
    refine (HH.out).mono ?_
    rintro e w1 ⟨rfl, h1, k1⟩
    have HR := hide (ostop_any sb s _ d w1 h1)
    have HK := hide k1
    clear h1 k1 HH
    go_wp2_with fail
    refine (HR.out).mono ?_
    rintro e w2 ⟨rfl, rfl⟩
    go_wp2_with fail
    exact ⟨rfl, HK.out, rfl⟩
theorem hasPrefix_dec (x p : ByteArray) : (p.size ≤ x.size ∧ x.extract 0 p.size = p) ↔ (bs p).isPrefixOf (bs x) = true := by
  rw [List.isPrefixOf_iff_prefix, List.prefix_iff_eq_take, bs_len]
  constructor
  · rintro ⟨-, h⟩
    have := congrArg bs h
    rw [bs_take] at this
    exact this.symm
  · intro h
    refine ⟨?_, ?_⟩
    · have := congrArg List.length h
      rw [List.length_take, bs_len, bs_len] at this
      omega
    · apply bs_inj; rw [bs_take]; exact h.symm
set_option maxRecDepth 100000 in
set_option maxHeartbeats 1000000 in
theorem hasPrefix_any (x p : ByteArray) (w : World) (hp : p.size ≤ 1073741824) : Calls Tryz.prog 38 #[.string x, .string p] w fun e w' => e = .returned (.bool ((bs p).isPrefixOf (bs x))) ∧ w' = w := by
  have HD := hide (hasPrefix_dec x p)
  by_cases h : p.size ≤ x.size
  · have i1 : decide ((p.size : Int) ≤ (x.size : Int)) = true := by simp; omega
    have i2 : (p.size : Int) ≤ (x.size : Int) := by omega
    have i3 : (0 : Int) ≤ (p.size : Int) := by omega
    have HE : Hid (((x.extract 0 p.size).toList == p.toList) = (bs p).isPrefixOf (bs x)) := by
      show _ = _
      rw [sb_eq, Bool.eq_iff_iff, decide_eq_true_iff, ← HD.out]
      exact ⟨fun e => ⟨h, e⟩, fun e => e.2⟩
    generalize (bs p).isPrefixOf (bs x) = R at *
    clear HD h
    go_enter Tryz.func38, Tryz.ntmps38
    go_wp2
    go_ret
    exact ⟨retbw HE.out, rfl⟩
  · have i1 : decide ((p.size : Int) ≤ (x.size : Int)) = false := by simp; omega
    have i2 : ¬ (p.size : Int) ≤ (x.size : Int) := by omega
    have HE : Hid (false = (bs p).isPrefixOf (bs x)) := by
      show _ = _
      cases hh : (bs p).isPrefixOf (bs x) with
      | false => rfl
      | true => exact absurd ((HD.out).2 hh).1 h
    generalize (bs p).isPrefixOf (bs x) = R at *
    clear HD h
    go_enter Tryz.func38, Tryz.ntmps38
    go_wp2
    go_ret
    exact ⟨retbw HE.out, rfl⟩
theorem bs_sfx {s : ByteArray} {l : List UInt8} (h : Sfx s l) : bs (s.extract (pos s l) s.size) = l := by rw [bs_drop]; exact h.eq
set_option maxRecDepth 100000 in
set_option maxHeartbeats 1000000 in
theorem oword_any (sb : Nat) (s : ByteArray) (l : List UInt8) (d : Int) (X : ByteArray) (hX : X.size ≤ 10) (w : World) (hs : s.size ≤ 1073741824) (hl : Sfx s l) (h : RawS w sb s (pos s l) d) :
    Calls Tryz.prog 24 #[.pointer (some ⟨sb, 0, none⟩), .string X] w fun en w' => OkS w sb s d (if (bs X).isPrefixOf l = true then some (l.drop X.size) else none) l en w' := by
  obtain ⟨⟨c0, c1, c2⟩, f1, -⟩ := h.facts
  have hpos := hl.pos
  have hle := hl.le
  have HX : Hid (∀ W, Calls Tryz.prog 38 #[.string (s.extract (pos s l) s.size), .string X] W fun e w' => e = .returned (.bool ((bs X).isPrefixOf l)) ∧ ∃ m, w' = W.drewN m) := by
    intro W
    have := hasPrefix_any (s.extract (pos s l) s.size) X W (by omega)
    rw [bs_sfx hl] at this
    refine this.mono ?_
    rintro e w' ⟨rfl, rfl⟩
    exact ⟨rfl, 0, rfl⟩
  have HR := hide h
  have HPD : Hid (∀ k, k ≤ l.length → pos s (l.drop k) = pos s l + k) := fun k hk => pos_drop hl hk
  have HPL : Hid ((bs X).isPrefixOf l = true → X.size ≤ l.length) := fun e => by
    have := (List.isPrefixOf_iff_prefix.1 e).length_le
    rwa [bs_len] at this
  have i2 : (0 : Int) ≤ (pos s l : Int) := by omega
  have i3 : (pos s l : Int) ≤ (s.size : Int) := by omega
  clear h hl
  generalize hpq : pos s l = q at *
  cases hb : (bs X).isPrefixOf l with
  | true =>
    rw [hb] at HX
    have hXl := (HPL.out) hb
    have HP := hide ((HPD.out) X.size hXl)
    rw [if_pos rfl]
    clear hb HPL HPD
    go_enter Tryz.func24, Tryz.ntmps24
    go_wp2_with fail
    go_quiet ((go_at_call 38; exact Calls.quiet_of ((HX.out) _)))
    go_wp2_with fail
    go_end0
    have := ((HR.out).drew nq).set1 ((pos s (l.drop X.size) : Nat) : Int)
    rw [HP.out, Int.natCast_add] at this
    refine ⟨Ow.set (Ow.ofBelow sb (belowN (Below.refl _ w) nq)) 1 _, rfl, ?_⟩
    rw [HP.out, Int.natCast_add]; exact this
  | false =>
    rw [hb] at HX
    rw [if_neg (by decide)]
    clear hb HPL HPD
    go_enter Tryz.func24, Tryz.ntmps24
    go_wp2_with fail
    go_quiet ((go_at_call 38; exact Calls.quiet_of ((HX.out) _)))
    have HST := hide (ostop_any sb s _ d _ ((HR.out).drew nq))
    go_wp2_with fail
    refine (HST.out).mono ?_
    rintro e w2 ⟨rfl, rfl⟩
    go_wp2_with fail
    exact ⟨rfl, Ow.ofBelow sb (belowN (Below.refl _ w) nq), by rw [hpq]⟩
end Go.Proofs.YthdbnafiindgbaaGreatDoor
