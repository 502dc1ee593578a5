/- The program's reader of messages: a value. (written by wip/tools/wire_gen/genot.py) -/
import Derived.Test.YthdbnafiindgbaaGreatDoorWos
import Derived.Test.YthdbnafiindgbaaGreatDoorWod
namespace Go.Proofs.YthdbnafiindgbaaGreatDoor
open Go.RowKit
open Wi

/-- The block of a value that is being read. -/
def VB (w : World) (V : Nat) (a b c d e : Value) : Prop := w.heap[V]? = some (.cells #[a, b, c, d, e] 25 (0, 0))
theorem VB.cells {w : World} {V : Nat} {a b c d e : Value} (h : VB w V a b c d e) : w.cell? ⟨V, 0, none⟩ = some a ∧ w.cell? ⟨V, 1, none⟩ = some b ∧ w.cell? ⟨V, 2, none⟩ = some c ∧ w.cell? ⟨V, 3, none⟩ = some d ∧ w.cell? ⟨V, 4, none⟩ = some e ∧ ∀ i, w.frozen? ⟨V, i, none⟩ = false := by
  unfold VB at h
  refine ⟨?_, ?_, ?_, ?_, ?_, fun i => ?_⟩ <;> simp [World.cell?, World.frozen?, h]
/-- While a value is read: where, and what is known of it. -/
structure QV (w : World) (sb : Nat) (s : ByteArray) (dd : Int) (V : Nat) (l : List UInt8) (a b c d e : Value) (w' : World) : Prop where
  src : RawS w' sb s (pos s l) dd
  vb : VB w' V a b c d e
  ow : Ow sb w w'
  es : Es w'
  hV : w.heap.size = V
  sV : sb < V
  gV : 1 < V
  ne : sb ≠ 1
theorem QV.on {w w1 w2 : World} {sb : Nat} {s : ByteArray} {dd : Int} {V : Nat} {l l2 : List UInt8} {a b c d e : Value} (h : QV w sb s dd V l a b c d e w1) (k : Ow sb w1 w2) (r : RawS w2 sb s (pos s l2) dd) : QV w sb s dd V l2 a b c d e w2 :=
  ⟨r, k.heap h.vb (fun e => by have := h.sV; omega), h.ow.to k, h.es.ow k h.ne, h.hV, h.sV, h.gV, h.ne⟩
theorem QV.kpV {w w1 : World} {sb : Nat} {s : ByteArray} {dd : Int} {V : Nat} {l : List UInt8} {a b c d e : Value} (_ : QV w sb s dd V l a b c d e w1) (i : Nat) (x : Value) : Kp (fun q => q = V) w1 (w1.setCell ⟨V, i, none⟩ x) := Kp.setCell (S := fun q => q = V) (p := ⟨V, i, none⟩) (Kp.refl _ w1) (fun _ => rfl) x
theorem QV.set0 {w w1 : World} {sb : Nat} {s : ByteArray} {dd : Int} {V : Nat} {l : List UInt8} {a b c d e : Value} (h : QV w sb s dd V l a b c d e w1) (x : Value) : QV w sb s dd V l x b c d e (w1.setCell ⟨V, 0, none⟩ x) := by
  have k := h.kpV 0 x
  have h1 := h.sV
  have h2 := h.gV
  have h3 := h.hV
  exact ⟨h.src.keep k (fun e => by omega), set_blkB h.vb 0 x, Kp.trans h.ow k (fun q hq e => by have : q = V := e; omega), h.es.keep k (fun e => by omega), h.hV, h.sV, h.gV, h.ne⟩
theorem QV.set1 {w w1 : World} {sb : Nat} {s : ByteArray} {dd : Int} {V : Nat} {l : List UInt8} {a b c d e : Value} (h : QV w sb s dd V l a b c d e w1) (x : Value) : QV w sb s dd V l a x c d e (w1.setCell ⟨V, 1, none⟩ x) := by
  have k := h.kpV 1 x
  have h1 := h.sV
  have h2 := h.gV
  have h3 := h.hV
  exact ⟨h.src.keep k (fun e => by omega), set_blkB h.vb 1 x, Kp.trans h.ow k (fun q hq e => by have : q = V := e; omega), h.es.keep k (fun e => by omega), h.hV, h.sV, h.gV, h.ne⟩
theorem QV.set2 {w w1 : World} {sb : Nat} {s : ByteArray} {dd : Int} {V : Nat} {l : List UInt8} {a b c d e : Value} (h : QV w sb s dd V l a b c d e w1) (x : Value) : QV w sb s dd V l a b x d e (w1.setCell ⟨V, 2, none⟩ x) := by
  have k := h.kpV 2 x
  have h1 := h.sV
  have h2 := h.gV
  have h3 := h.hV
  exact ⟨h.src.keep k (fun e => by omega), set_blkB h.vb 2 x, Kp.trans h.ow k (fun q hq e => by have : q = V := e; omega), h.es.keep k (fun e => by omega), h.hV, h.sV, h.gV, h.ne⟩
theorem QV.set3 {w w1 : World} {sb : Nat} {s : ByteArray} {dd : Int} {V : Nat} {l : List UInt8} {a b c d e : Value} (h : QV w sb s dd V l a b c d e w1) (x : Value) : QV w sb s dd V l a b c x e (w1.setCell ⟨V, 3, none⟩ x) := by
  have k := h.kpV 3 x
  have h1 := h.sV
  have h2 := h.gV
  have h3 := h.hV
  exact ⟨h.src.keep k (fun e => by omega), set_blkB h.vb 3 x, Kp.trans h.ow k (fun q hq e => by have : q = V := e; omega), h.es.keep k (fun e => by omega), h.hV, h.sV, h.gV, h.ne⟩
theorem QV.set4 {w w1 : World} {sb : Nat} {s : ByteArray} {dd : Int} {V : Nat} {l : List UInt8} {a b c d e : Value} (h : QV w sb s dd V l a b c d e w1) (x : Value) : QV w sb s dd V l a b c d x (w1.setCell ⟨V, 4, none⟩ x) := by
  have k := h.kpV 4 x
  have h1 := h.sV
  have h2 := h.gV
  have h3 := h.hV
  exact ⟨h.src.keep k (fun e => by omega), set_blkB h.vb 4 x, Kp.trans h.ow k (fun q hq e => by have : q = V := e; omega), h.es.keep k (fun e => by omega), h.hV, h.sV, h.gV, h.ne⟩
theorem IsX.offV {w w1 : World} {sb : Nat} {s : ByteArray} {dd : Int} {V : Nat} {l : List UInt8} {a b c d e : Value} (h : QV w sb s dd V l a b c d e w1) {v : Value} {j : J} {B : Nat} (hx : IsX w1 (fun q => B ≤ q) v j) (hB : V < B) (i : Nat) (x : Value) : IsX (w1.setCell ⟨V, i, none⟩ x) (fun q => B ≤ q) v j :=
  hx.keep (h.kpV i x) (fun q hq e => by have : q = V := e; omega)
set_option maxRecDepth 100000 in
set_option maxHeartbeats 4000000 in
theorem oval_null (d : Nat) (sb : Nat) (s : ByteArray) (l : List UInt8) (t : List UInt8) (w : World) (hs : s.size ≤ 1073741824) (hl : Sfx s l) (h : RawS w sb s (pos s l) (40 - (d : Int))) (hE : Es w) (hne : sb ≠ 1) (hb : bla l = 110 :: t) :
    Calls Tryz.prog 15 #[.pointer (some ⟨sb, 0, none⟩)] w fun en w' => OkV w sb s (40 - (d : Int)) (val d l) en w' := by
  generalize 40 - (d : Int) = dd at *
  have hal := (Below.refl _ w).alloc (Nat.le_refl _) (.cells #[.int .i64 0, .int .i64 0, .string ⟨#[]⟩, .slice none 0 0, .slice none 0 0] 25)
  have HQ0 : Hid (QV w sb s dd w.heap.size l (.int .i64 0) (.int .i64 0) (.string ⟨#[]⟩) (.slice none 0 0) (.slice none 0 0) (w.alloc (.cells #[.int .i64 0, .int .i64 0, .string ⟨#[]⟩, .slice none 0 0, .slice none 0 0] 25))) := ⟨h.below hal, heap_alloc_new w _, Ow.ofBelow sb hal, hE.below hal, rfl, h.lt, hE.lt, hne⟩
  have HB := hide (oblanks_any sb s l _ _ hs hl (HQ0.out).src)
  have HL1 := hide (hl.mono (bla_sfx l))
  have hps := (HL1.out).pos
  clear h hE hl hal hne
  have HD : Hid (val d l = if (bs ⟨#[110, 117, 108, 108]⟩).isPrefixOf (110 :: t) = true then .ok (.mk 0 0 [] [] []) ((110 :: t).drop 4) else .bad 3 (t.length + 1)) := by
    show _ = _
    rw [val_brk, valW, hb]
    rfl
  rw [hb] at HB HL1 hps
  clear hb
  go_enter Tryz.func15, Tryz.ntmps15
  go_wp2_with fail
  refine (HB.out).mono ?_
  rintro en w1 ⟨rfl, r1, k1⟩
  have HQ1 := hide ((HQ0.out).on k1 r1)
  clear r1 k1 HB HQ0
  generalize hVV : w.heap.size = V at *
  have HN := hide (onext_any sb s _ _ w1 HL1.out (HQ1.out).src)
  have hh : hdB (110 :: t) = 110 := rfl
  rw [hh] at HN
  clear hh
  go_wp2_with fail
  refine (HN.out).mono ?_
  rintro en w2 ⟨rfl, m, rfl⟩
  have HQ2 := hide ((HQ1.out).on (Ow.ofBelow sb (belowN (Below.refl _ w1) m)) (((HQ1.out).src).drew m))
  clear HN HQ1
  generalize w1.drewN m = w2 at *
  obtain ⟨a0, a1, a2, a3, a4, a5⟩ := (HQ2.out).vb.cells
  have hV2 : V < w2.heap.size := heap_lt (HQ2.out).vb
  have HQ3 := hide ((HQ2.out))
  have HW := hide (oword_any sb s _ _ ⟨#[110, 117, 108, 108]⟩ (by decide) _ hs HL1.out (HQ3.out).src)
  go_wp2_with fail
  refine (HW.out).mono ?_
  clear HW
  cases hp : (bs ⟨#[110, 117, 108, 108]⟩).isPrefixOf (110 :: t) with
  | true =>
    rw [hp, if_pos rfl] at HD
    rintro en w4 ⟨k4, h4⟩
    rw [if_pos rfl] at h4
    obtain ⟨rfl, r4⟩ := h4
    have HQ4 := hide ((HQ3.out).on k4 r4)
    clear k4 r4 HQ3 HQ2 hp a0 a1 a2 a3 a4 a5
    obtain ⟨a0, a1, a2, a3, a4, a5⟩ := (HQ4.out).vb.cells
    have HQF := hide ((((((HQ4.out).set0 (.int .i64 0)).set1 (.int .i64 0)).set2 (.string ⟨#[]⟩)).set3 (.slice none 0 0)).set4 (.slice none 0 0))
    have HF : Hid (OkV w sb s dd (val d l) (.returned (.agg #[.int .i64 0, .int .i64 0, .string ⟨#[]⟩, .slice none 0 0, .slice none 0 0])) (((((w4.setCell ⟨V, 0, none⟩ (.int .i64 0)).setCell ⟨V, 1, none⟩ (.int .i64 0)).setCell ⟨V, 2, none⟩ (.string ⟨#[]⟩)).setCell ⟨V, 3, none⟩ (.slice none 0 0)).setCell ⟨V, 4, none⟩ (.slice none 0 0))) := by
      show OkV _ _ _ _ _ _ _
      rw [HD.out]
      exact ⟨(HQF.out).ow, _, rfl, (.plain _ _ 0 0 []), (HQF.out).src⟩
    clear HD
    go_wp2_with fail
    clear HQ4 a0 a1 a2 a3 a4 a5
    generalize (((((w4.setCell ⟨V, 0, none⟩ (.int .i64 0)).setCell ⟨V, 1, none⟩ (.int .i64 0)).setCell ⟨V, 2, none⟩ (.string ⟨#[]⟩)).setCell ⟨V, 3, none⟩ (.slice none 0 0)).setCell ⟨V, 4, none⟩ (.slice none 0 0)) = wF at *
    obtain ⟨x0, x1, x2, x3, x4, -⟩ := (HQF.out).vb.cells
    exact bodyPost_ret (v := .agg #[.int .i64 0, .int .i64 0, .string ⟨#[]⟩, .slice none 0 0, .slice none 0 0]) (by simp [results, Tryz.results15, go_sem, x0, x1, x2, x3, x4]) rfl HF.out
  | false =>
    rw [hp, if_neg (by decide)] at HD
    rintro en w4 ⟨k4, h4⟩
    rw [if_neg (by decide)] at h4
    obtain rfl := h4
    have HF : Hid (OkV w sb s dd (val d l) (flt (pos s (110 :: t) : Nat) 3) w4) := by
      show OkV _ _ _ _ _ _ _
      rw [HD.out]
      refine ⟨((HQ3.out).ow).to k4, ?_⟩
      show flt _ _ = flt _ _
      rw [show s.size - (t.length + 1) = pos s (110 :: t) by simp only [List.length_cons] at hps; omega]; rfl
    clear k4 HQ3 HQ2 HD
    go_wp2_with fail
    exact ⟨rfl, HF.out⟩
set_option maxRecDepth 100000 in
set_option maxHeartbeats 4000000 in
theorem oval_false (d : Nat) (sb : Nat) (s : ByteArray) (l : List UInt8) (t : List UInt8) (w : World) (hs : s.size ≤ 1073741824) (hl : Sfx s l) (h : RawS w sb s (pos s l) (40 - (d : Int))) (hE : Es w) (hne : sb ≠ 1) (hb : bla l = 102 :: t) :
    Calls Tryz.prog 15 #[.pointer (some ⟨sb, 0, none⟩)] w fun en w' => OkV w sb s (40 - (d : Int)) (val d l) en w' := by
  generalize 40 - (d : Int) = dd at *
  have hal := (Below.refl _ w).alloc (Nat.le_refl _) (.cells #[.int .i64 0, .int .i64 0, .string ⟨#[]⟩, .slice none 0 0, .slice none 0 0] 25)
  have HQ0 : Hid (QV w sb s dd w.heap.size l (.int .i64 0) (.int .i64 0) (.string ⟨#[]⟩) (.slice none 0 0) (.slice none 0 0) (w.alloc (.cells #[.int .i64 0, .int .i64 0, .string ⟨#[]⟩, .slice none 0 0, .slice none 0 0] 25))) := ⟨h.below hal, heap_alloc_new w _, Ow.ofBelow sb hal, hE.below hal, rfl, h.lt, hE.lt, hne⟩
  have HB := hide (oblanks_any sb s l _ _ hs hl (HQ0.out).src)
  have HL1 := hide (hl.mono (bla_sfx l))
  have hps := (HL1.out).pos
  clear h hE hl hal hne
  have HD : Hid (val d l = if (bs ⟨#[102, 97, 108, 115, 101]⟩).isPrefixOf (102 :: t) = true then .ok (.mk 1 0 [] [] []) ((102 :: t).drop 5) else .bad 3 (t.length + 1)) := by
    show _ = _
    rw [val_brk, valW, hb]
    rfl
  rw [hb] at HB HL1 hps
  clear hb
  go_enter Tryz.func15, Tryz.ntmps15
  go_wp2_with fail
  refine (HB.out).mono ?_
  rintro en w1 ⟨rfl, r1, k1⟩
  have HQ1 := hide ((HQ0.out).on k1 r1)
  clear r1 k1 HB HQ0
  generalize hVV : w.heap.size = V at *
  have HN := hide (onext_any sb s _ _ w1 HL1.out (HQ1.out).src)
  have hh : hdB (102 :: t) = 102 := rfl
  rw [hh] at HN
  clear hh
  go_wp2_with fail
  refine (HN.out).mono ?_
  rintro en w2 ⟨rfl, m, rfl⟩
  have HQ2 := hide ((HQ1.out).on (Ow.ofBelow sb (belowN (Below.refl _ w1) m)) (((HQ1.out).src).drew m))
  clear HN HQ1
  generalize w1.drewN m = w2 at *
  obtain ⟨a0, a1, a2, a3, a4, a5⟩ := (HQ2.out).vb.cells
  have hV2 : V < w2.heap.size := heap_lt (HQ2.out).vb
  have HQ3 := hide ((HQ2.out).set0 (.int .i64 1))
  have HW := hide (oword_any sb s _ _ ⟨#[102, 97, 108, 115, 101]⟩ (by decide) _ hs HL1.out (HQ3.out).src)
  go_wp2_with fail
  refine (HW.out).mono ?_
  clear HW
  cases hp : (bs ⟨#[102, 97, 108, 115, 101]⟩).isPrefixOf (102 :: t) with
  | true =>
    rw [hp, if_pos rfl] at HD
    rintro en w4 ⟨k4, h4⟩
    rw [if_pos rfl] at h4
    obtain ⟨rfl, r4⟩ := h4
    have HQ4 := hide ((HQ3.out).on k4 r4)
    clear k4 r4 HQ3 HQ2 hp a0 a1 a2 a3 a4 a5
    obtain ⟨a0, a1, a2, a3, a4, a5⟩ := (HQ4.out).vb.cells
    have HQF := hide ((((((HQ4.out).set0 (.int .i64 1)).set1 (.int .i64 0)).set2 (.string ⟨#[]⟩)).set3 (.slice none 0 0)).set4 (.slice none 0 0))
    have HF : Hid (OkV w sb s dd (val d l) (.returned (.agg #[.int .i64 1, .int .i64 0, .string ⟨#[]⟩, .slice none 0 0, .slice none 0 0])) (((((w4.setCell ⟨V, 0, none⟩ (.int .i64 1)).setCell ⟨V, 1, none⟩ (.int .i64 0)).setCell ⟨V, 2, none⟩ (.string ⟨#[]⟩)).setCell ⟨V, 3, none⟩ (.slice none 0 0)).setCell ⟨V, 4, none⟩ (.slice none 0 0))) := by
      show OkV _ _ _ _ _ _ _
      rw [HD.out]
      exact ⟨(HQF.out).ow, _, rfl, (.plain _ _ 1 0 []), (HQF.out).src⟩
    clear HD
    go_wp2_with fail
    clear HQ4 a0 a1 a2 a3 a4 a5
    generalize (((((w4.setCell ⟨V, 0, none⟩ (.int .i64 1)).setCell ⟨V, 1, none⟩ (.int .i64 0)).setCell ⟨V, 2, none⟩ (.string ⟨#[]⟩)).setCell ⟨V, 3, none⟩ (.slice none 0 0)).setCell ⟨V, 4, none⟩ (.slice none 0 0)) = wF at *
    obtain ⟨x0, x1, x2, x3, x4, -⟩ := (HQF.out).vb.cells
    exact bodyPost_ret (v := .agg #[.int .i64 1, .int .i64 0, .string ⟨#[]⟩, .slice none 0 0, .slice none 0 0]) (by simp [results, Tryz.results15, go_sem, x0, x1, x2, x3, x4]) rfl HF.out
  | false =>
    rw [hp, if_neg (by decide)] at HD
    rintro en w4 ⟨k4, h4⟩
    rw [if_neg (by decide)] at h4
    obtain rfl := h4
    have HF : Hid (OkV w sb s dd (val d l) (flt (pos s (102 :: t) : Nat) 3) w4) := by
      show OkV _ _ _ _ _ _ _
      rw [HD.out]
      refine ⟨((HQ3.out).ow).to k4, ?_⟩
      show flt _ _ = flt _ _
      rw [show s.size - (t.length + 1) = pos s (102 :: t) by simp only [List.length_cons] at hps; omega]; rfl
    clear k4 HQ3 HQ2 HD
    go_wp2_with fail
    exact ⟨rfl, HF.out⟩
set_option maxRecDepth 100000 in
set_option maxHeartbeats 4000000 in
theorem oval_true (d : Nat) (sb : Nat) (s : ByteArray) (l : List UInt8) (t : List UInt8) (w : World) (hs : s.size ≤ 1073741824) (hl : Sfx s l) (h : RawS w sb s (pos s l) (40 - (d : Int))) (hE : Es w) (hne : sb ≠ 1) (hb : bla l = 116 :: t) :
    Calls Tryz.prog 15 #[.pointer (some ⟨sb, 0, none⟩)] w fun en w' => OkV w sb s (40 - (d : Int)) (val d l) en w' := by
  generalize 40 - (d : Int) = dd at *
  have hal := (Below.refl _ w).alloc (Nat.le_refl _) (.cells #[.int .i64 0, .int .i64 0, .string ⟨#[]⟩, .slice none 0 0, .slice none 0 0] 25)
  have HQ0 : Hid (QV w sb s dd w.heap.size l (.int .i64 0) (.int .i64 0) (.string ⟨#[]⟩) (.slice none 0 0) (.slice none 0 0) (w.alloc (.cells #[.int .i64 0, .int .i64 0, .string ⟨#[]⟩, .slice none 0 0, .slice none 0 0] 25))) := ⟨h.below hal, heap_alloc_new w _, Ow.ofBelow sb hal, hE.below hal, rfl, h.lt, hE.lt, hne⟩
  have HB := hide (oblanks_any sb s l _ _ hs hl (HQ0.out).src)
  have HL1 := hide (hl.mono (bla_sfx l))
  have hps := (HL1.out).pos
  clear h hE hl hal hne
  have HD : Hid (val d l = if (bs ⟨#[116, 114, 117, 101]⟩).isPrefixOf (116 :: t) = true then .ok (.mk 1 1 [] [] []) ((116 :: t).drop 4) else .bad 3 (t.length + 1)) := by
    show _ = _
    rw [val_brk, valW, hb]
    rfl
  rw [hb] at HB HL1 hps
  clear hb
  go_enter Tryz.func15, Tryz.ntmps15
  go_wp2_with fail
  refine (HB.out).mono ?_
  rintro en w1 ⟨rfl, r1, k1⟩
  have HQ1 := hide ((HQ0.out).on k1 r1)
  clear r1 k1 HB HQ0
  generalize hVV : w.heap.size = V at *
  have HN := hide (onext_any sb s _ _ w1 HL1.out (HQ1.out).src)
  have hh : hdB (116 :: t) = 116 := rfl
  rw [hh] at HN
  clear hh
  go_wp2_with fail
  refine (HN.out).mono ?_
  rintro en w2 ⟨rfl, m, rfl⟩
  have HQ2 := hide ((HQ1.out).on (Ow.ofBelow sb (belowN (Below.refl _ w1) m)) (((HQ1.out).src).drew m))
  clear HN HQ1
  generalize w1.drewN m = w2 at *
  obtain ⟨a0, a1, a2, a3, a4, a5⟩ := (HQ2.out).vb.cells
  have hV2 : V < w2.heap.size := heap_lt (HQ2.out).vb
  have HQ3 := hide (((HQ2.out).set0 (.int .i64 1)).set1 (.int .i64 1))
  have HW := hide (oword_any sb s _ _ ⟨#[116, 114, 117, 101]⟩ (by decide) _ hs HL1.out (HQ3.out).src)
  go_wp2_with fail
  refine (HW.out).mono ?_
  clear HW
  cases hp : (bs ⟨#[116, 114, 117, 101]⟩).isPrefixOf (116 :: t) with
  | true =>
    rw [hp, if_pos rfl] at HD
    rintro en w4 ⟨k4, h4⟩
    rw [if_pos rfl] at h4
    obtain ⟨rfl, r4⟩ := h4
    have HQ4 := hide ((HQ3.out).on k4 r4)
    clear k4 r4 HQ3 HQ2 hp a0 a1 a2 a3 a4 a5
    obtain ⟨a0, a1, a2, a3, a4, a5⟩ := (HQ4.out).vb.cells
    have HQF := hide ((((((HQ4.out).set0 (.int .i64 1)).set1 (.int .i64 1)).set2 (.string ⟨#[]⟩)).set3 (.slice none 0 0)).set4 (.slice none 0 0))
    have HF : Hid (OkV w sb s dd (val d l) (.returned (.agg #[.int .i64 1, .int .i64 1, .string ⟨#[]⟩, .slice none 0 0, .slice none 0 0])) (((((w4.setCell ⟨V, 0, none⟩ (.int .i64 1)).setCell ⟨V, 1, none⟩ (.int .i64 1)).setCell ⟨V, 2, none⟩ (.string ⟨#[]⟩)).setCell ⟨V, 3, none⟩ (.slice none 0 0)).setCell ⟨V, 4, none⟩ (.slice none 0 0))) := by
      show OkV _ _ _ _ _ _ _
      rw [HD.out]
      exact ⟨(HQF.out).ow, _, rfl, (.plain _ _ 1 1 []), (HQF.out).src⟩
    clear HD
    go_wp2_with fail
    clear HQ4 a0 a1 a2 a3 a4 a5
    generalize (((((w4.setCell ⟨V, 0, none⟩ (.int .i64 1)).setCell ⟨V, 1, none⟩ (.int .i64 1)).setCell ⟨V, 2, none⟩ (.string ⟨#[]⟩)).setCell ⟨V, 3, none⟩ (.slice none 0 0)).setCell ⟨V, 4, none⟩ (.slice none 0 0)) = wF at *
    obtain ⟨x0, x1, x2, x3, x4, -⟩ := (HQF.out).vb.cells
    exact bodyPost_ret (v := .agg #[.int .i64 1, .int .i64 1, .string ⟨#[]⟩, .slice none 0 0, .slice none 0 0]) (by simp [results, Tryz.results15, go_sem, x0, x1, x2, x3, x4]) rfl HF.out
  | false =>
    rw [hp, if_neg (by decide)] at HD
    rintro en w4 ⟨k4, h4⟩
    rw [if_neg (by decide)] at h4
    obtain rfl := h4
    have HF : Hid (OkV w sb s dd (val d l) (flt (pos s (116 :: t) : Nat) 3) w4) := by
      show OkV _ _ _ _ _ _ _
      rw [HD.out]
      refine ⟨((HQ3.out).ow).to k4, ?_⟩
      show flt _ _ = flt _ _
      rw [show s.size - (t.length + 1) = pos s (116 :: t) by simp only [List.length_cons] at hps; omega]; rfl
    clear k4 HQ3 HQ2 HD
    go_wp2_with fail
    exact ⟨rfl, HF.out⟩
end Go.Proofs.YthdbnafiindgbaaGreatDoor
