/- A Reader of frames: what a line does. -/
import Derived.Test.YtcibflndpckkkaaDoorWnb
import Derived.Test.YtcibflndpckkkaaDoorWkm
namespace Go.Proofs.YtcibflndpckkkaaDoor
open Go.RowKit
open Wi
variable {w w' : World} {B : Nat} {lv : Value} {line : List UInt8} {told : Bool} {len : Int} {inB : Bool} {p bv : Value} {body : List UInt8} {wv : Value}

/-- An error of the program's. -/
abbrev faV (x : Nat) : Value := .iface 64 (.int .i64 (x : Int))
/-- Nothing is left, but what is wrong. -/
theorem set_rd {B : Nat} {x0 x1 x2 x3 x4 x5 x6 : Value} (h : w.heap[B]? = some (.cells #[x0, x1, x2, x3, x4, x5, x6] 72 (0, 0))) (a0 a1 a2 a3 a4 a5 a6 : Value) :
    ((((((((w.setCell ⟨B, 0, none⟩ a0).setCell ⟨B, 1, none⟩ a1).setCell ⟨B, 2, none⟩ a2).setCell ⟨B, 3, none⟩ a3).setCell ⟨B, 4, none⟩ a4).setCell ⟨B, 5, none⟩ a5).setCell ⟨B, 6, none⟩ a6)).heap[B]? = some (.cells #[a0, a1, a2, a3, a4, a5, a6] 72 (0, 0)) := by
  have h0 : (w.setCell ⟨B, 0, none⟩ a0).heap[B]? = some (.cells #[a0, x1, x2, x3, x4, x5, x6] 72 (0, 0)) := set_blkB h 0 a0
  have h1 := set_blkB h0 1 a1
  have h2 := set_blkB h1 2 a2
  have h3 := set_blkB h2 3 a3
  have h4 := set_blkB h3 4 a4
  have h5 := set_blkB h4 5 a5
  exact set_blkB h5 6 a6
theorem kset {a w : World} {B : Nat} (h : Kp (fun q => q = B) a w) (j : Nat) (v : Value) : Kp (fun q => q = B) a (w.setCell ⟨B, j, none⟩ v) := Kp.setCell (S := fun q => q = B) (p := ⟨B, j, none⟩) h (fun _ => rfl) _
set_option maxRecDepth 100000 in
set_option maxHeartbeats 2000000 in
theorem fail_any (x : Nat) (h : RdS w B lv line told len inB p bv body wv) :
    Calls Tryd.prog 45 #[.pointer (some ⟨B, 0, none⟩), .int .i64 (x : Int)] w fun e w' => e = .returned (.tuple #[]) ∧ RdS w' B (.slice none 0 0) [] false 0 false (.pointer none) (.slice none 0 0) [] (faV x) ∧ Fk B w w' := by
  obtain ⟨c0, c1, c2, c3, c4, c5, c6⟩ := h.cells
  have f0 := h.frz 0
  have f1 := h.frz 1
  have f2 := h.frz 2
  have f3 := h.frz 3
  have f4 := h.frz 4
  have f5 := h.frz 5
  have f6 := h.frz 6
  have HB := hide h.bd.blk
  clear h
  go_enter Tryd.func45, Tryd.ntmps45
  go_wp2_with fail
  go_end0
  have k := kset (kset (kset (kset (kset (kset (kset (Kp.refl (fun q => q = B) w) 0 (.slice none 0 0)) 1 (.bool false)) 2 (.int .i64 0)) 3 (.bool false)) 4 (.pointer none)) 5 (.slice none 0 0)) 6 (faV x)
  refine ⟨rfl, ⟨⟨set_rd HB.out _ _ _ _ _ _ _, .inl rfl, World.ownsRow_nil _ _ _ _, fun _ => rfl⟩, World.ownsRow_nil _ _ _ _, fun _ hk => by cases hk⟩, k.mono (fun q _ e => ?_)⟩
  have e : q = B := e
  rw [e]; exact ⟨Nat.le_refl _, _, _, _, HB.out, .inl rfl⟩
/-- What has come of a Reader: a line that has not ended, a length, a body; or an error. -/
inductive Sta where
  | line (l : List UInt8) (size : Int)
  | body (b : List UInt8) (size : Int)
  | bad (x : Nat)
/-- A Reader that is in a state. -/
def IsRd (w : World) (B : Nat) : Sta → Prop
  | .line l size => ∃ lv told len p, RdS w B lv l told len false p (.slice none 0 0) [] .nilIface ∧ told = decide (0 ≤ size) ∧ (0 ≤ size → len = size)
  | .body b size => ∃ lv told p bv, RdS w B lv [] told size true p bv b .nilIface ∧ 0 ≤ size
  | .bad x => RdS w B (.slice none 0 0) [] false 0 false (.pointer none) (.slice none 0 0) [] (faV x)
theorem IsRd.below {s : Sta} (h : IsRd w B s) (hb : Below w.heap.size w w') : IsRd w' B s := by
  cases s with
  | line l size => obtain ⟨lv, told, len, p, h, r⟩ := h; exact ⟨lv, told, len, p, h.below hb, r⟩
  | body b size => obtain ⟨lv, told, p, bv, h, r⟩ := h; exact ⟨lv, told, p, bv, h.below hb, r⟩
  | bad x => exact RdS.below h hb
/-- What a line's end does. -/
def endSta (a : List UInt8) (size : Int) : Sta :=
  if a = [] then (if size < 0 then .bad 3 else .body [] size)
  else if lenOf a = -2 then .bad 3 else .line [] (if 0 ≤ lenOf a then lenOf a else size)
set_option maxRecDepth 100000 in
set_option maxHeartbeats 2000000 in
theorem endLines_any {size : Int} (h : IsRd w B (.line [] size)) :
    Calls Tryd.prog 65 #[.pointer (some ⟨B, 0, none⟩)] w fun e w' => e = .returned (.tuple #[]) ∧ IsRd w' B (endSta [] size) ∧ Fk B w w' := by
  obtain ⟨lv, told, len, p, hr, ht, hl⟩ := h
  obtain ⟨c0, c1, c2, c3, c4, c5, c6⟩ := hr.cells
  have f3 := hr.frz 3
  have HR := hide hr
  have HF := hide (fail_any 3 hr)
  clear hr
  by_cases hs : size < 0
  · have ht' : told = false := by rw [ht]; simp; omega
    subst ht'
    have HE : Hid (endSta [] size = .bad 3) := by show _ = _; unfold endSta; rw [if_pos rfl, if_pos hs]
    clear ht hl hs
    go_enter Tryd.func65, Tryd.ntmps65
    go_wp2_with fail
    refine (HF.out).mono ?_
    rintro e w2 ⟨rfl, h2, k2⟩
    go_wp2_with fail
    first | go_end0 | refine bodyPost_ret (results_none rfl _ _ _) rfl ?_
    refine ⟨rfl, ?_, k2⟩
    rw [HE.out]; exact h2
  · have ht' : told = true := by rw [ht]; simp; omega
    subst ht'
    have HE : Hid (endSta [] size = .body [] size) := by show _ = _; unfold endSta; rw [if_pos rfl, if_neg hs]
    have hl' := hl (by omega)
    subst hl'
    have HZ : Hid (0 ≤ len) := by show _ ≤ _; omega
    clear ht hl hs
    go_enter Tryd.func65, Tryd.ntmps65
    go_wp2_with fail
    first | go_end0 | refine bodyPost_ret (results_none rfl _ _ _) rfl ?_
    obtain ⟨h1, h2⟩ := (HR.out).field 3 (.bool true) (told' := true) (len' := len) (inB' := true) rfl
    refine ⟨rfl, ?_, h2⟩
    rw [HE.out]
    exact ⟨lv, true, p, _, h1, HZ.out⟩
theorem lenOf_cut {a : List UInt8} : lenOf a = if cutC a = false then -2 else if cutA a ≠ sLen then -1 else match lenR (cutB a) with | some n => (n : Int) | none => -2 := by
  unfold cutC cutA lenR
  by_cases h : a.dropWhile notColon = []
  · rw [lenOf_none h]; simp [h]
  · simp only [h, not_false_eq_true, decide_true, Bool.true_eq_false, if_false]
    by_cases h2 : a.takeWhile notColon = sLen
    case neg => rw [lenOf_other h h2, if_pos h2]
    rw [if_neg (by simpa using h2)]
    have e1 : cutB a = (a.dropWhile notColon).drop 1 := rfl
    have e2 : (cutB a).drop 1 = (a.dropWhile notColon).drop 2 := by rw [e1, List.drop_drop]
    have e3 : ((cutB a).head? = some 32 ∨ cutB a = []) ∨ ¬ (cutB a).head? = some 32 := by
      by_cases h : (cutB a).head? = some 32
      · exact .inl (.inl h)
      · exact .inr h
    have e4 : (a.dropWhile notColon).getD 1 0 = (cutB a).headD 0 := by
      rw [e1]
      cases a.dropWhile notColon with
      | nil => rfl
      | cons x t => cases t <;> rfl
    unfold lenOf
    rw [if_neg h, if_neg (by simpa using h2), ← e2, e4]
    generalize cutB a = r
    cases r with
    | nil => simp
    | cons c t =>
      simp only [List.drop_succ_cons, List.drop_zero, List.headD_cons, List.head?_cons, Option.some.injEq]
      by_cases hc : c = 32
      · subst hc
        by_cases ht : t = []
        · simp [ht]
        · by_cases h10 : 10 < t.length
          · simp [ht, h10]
          · have : ¬ (t.length < 1) := by have := List.length_pos_iff.2 ht; omega
            simp only [this, h10, ht, ne_eq, not_true_eq_false, or_self, if_false]
            by_cases hall : t.all isDig = true <;> simp [hall]
      · simp [hc]
end Go.Proofs.YtcibflndpckkkaaDoor
