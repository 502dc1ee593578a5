/- The reader of a tree in memory: what is next. -/
import Derived.Test.YtpoipoencbieeaaDoorXb
import Derived.Test.YtpoipoencbieeaaDoorTa
import Derived.Deep.QuietTactic
namespace Go.Proofs.YtpoipoencbieeaaDoor
open Go.RowKit
open M

/-- A reader's block. -/
def RawT (w : World) (rb : Nat) (s : ByteArray) (tv : Value) (a n k : Int) (wd : ByteArray) (dp : Int) : Prop := w.heap[rb]? = some (.cells #[.string s, tv, .int .i64 a, .int .i64 n, .int .i64 k, .string wd, .int .i64 dp] 60 (0, 0))
theorem RawT.facts {w : World} {rb : Nat} {s wd : ByteArray} {tv : Value} {a n k dp : Int} (h : RawT w rb s tv a n k wd dp) :
    (w.cell? ⟨rb, 0, none⟩ = some (.string s) ∧ w.cell? ⟨rb, 1, none⟩ = some tv ∧ w.cell? ⟨rb, 2, none⟩ = some (.int .i64 a) ∧ w.cell? ⟨rb, 3, none⟩ = some (.int .i64 n) ∧ w.cell? ⟨rb, 4, none⟩ = some (.int .i64 k) ∧ w.cell? ⟨rb, 5, none⟩ = some (.string wd) ∧ w.cell? ⟨rb, 6, none⟩ = some (.int .i64 dp)) ∧
    (w.frozen? ⟨rb, 0, none⟩ = false ∧ w.frozen? ⟨rb, 1, none⟩ = false ∧ w.frozen? ⟨rb, 2, none⟩ = false ∧ w.frozen? ⟨rb, 3, none⟩ = false ∧ w.frozen? ⟨rb, 4, none⟩ = false ∧ w.frozen? ⟨rb, 5, none⟩ = false ∧ w.frozen? ⟨rb, 6, none⟩ = false) := by
  unfold RawT at h
  refine ⟨⟨?_, ?_, ?_, ?_, ?_, ?_, ?_⟩, ?_, ?_, ?_, ?_, ?_, ?_, ?_⟩ <;> simp [World.cell?, World.frozen?, h]
theorem RawT.lt {w : World} {rb : Nat} {s wd : ByteArray} {tv : Value} {a n k dp : Int} (h : RawT w rb s tv a n k wd dp) : rb < w.heap.size := heap_lt h
theorem RawT.keep {S : Nat → Prop} {w w' : World} {rb : Nat} {s wd : ByteArray} {tv : Value} {a n k dp : Int} (h : RawT w rb s tv a n k wd dp) (hk : Kp S w w') (hn : ¬ S rb) : RawT w' rb s tv a n k wd dp := hk.heap h hn
theorem RawT.below {w w' : World} {rb : Nat} {s wd : ByteArray} {tv : Value} {a n k dp : Int} (h : RawT w rb s tv a n k wd dp) (hk : Below w.heap.size w w') : RawT w' rb s tv a n k wd dp := h.keep (Kp.ofBelow hk (fun _ => False)) id
theorem RawT.set2 {w : World} {rb : Nat} {s wd : ByteArray} {tv : Value} {a n k dp : Int} (h : RawT w rb s tv a n k wd dp) (y : Int) : RawT (w.setCell ⟨rb, 2, none⟩ (.int .i64 y)) rb s tv y n k wd dp := by
  unfold RawT at h ⊢
  simp [World.setCell, Array.getElem?_modify, h]
theorem RawT.set3 {w : World} {rb : Nat} {s wd : ByteArray} {tv : Value} {a n k dp : Int} (h : RawT w rb s tv a n k wd dp) (y : Int) : RawT (w.setCell ⟨rb, 3, none⟩ (.int .i64 y)) rb s tv a y k wd dp := by
  unfold RawT at h ⊢
  simp [World.setCell, Array.getElem?_modify, h]
theorem RawT.set4 {w : World} {rb : Nat} {s wd : ByteArray} {tv : Value} {a n k dp : Int} (h : RawT w rb s tv a n k wd dp) (y : Int) : RawT (w.setCell ⟨rb, 4, none⟩ (.int .i64 y)) rb s tv a n y wd dp := by
  unfold RawT at h ⊢
  simp [World.setCell, Array.getElem?_modify, h]
theorem RawT.set5 {w : World} {rb : Nat} {s wd : ByteArray} {tv : Value} {a n k dp : Int} (h : RawT w rb s tv a n k wd dp) (y : ByteArray) : RawT (w.setCell ⟨rb, 5, none⟩ (.string y)) rb s tv a n k y dp := by
  unfold RawT at h ⊢
  simp [World.setCell, Array.getElem?_modify, h]
theorem RawT.set6 {w : World} {rb : Nat} {s wd : ByteArray} {tv : Value} {a n k dp : Int} (h : RawT w rb s tv a n k wd dp) (y : Int) : RawT (w.setCell ⟨rb, 6, none⟩ (.int .i64 y)) rb s tv a n k wd y := by
  unfold RawT at h ⊢
  simp [World.setCell, Array.getElem?_modify, h]

/-- Is a token a space or a remark? -/
def qk (t : Tk) : Bool := t.kind == 1 || t.kind == 2
theorem isQuiet_any (k : Int) (w : World) : Calls Tryd.prog 37 #[.int .i64 k] w fun e w' => e = .returned (.bool (decide (k = 1 ∨ k = 2))) ∧ w' = w := by
  by_cases h1 : k = 1
  · subst h1
    go_enter Tryd.func37, Tryd.ntmps37
    go_wp2_with fail
    go_ret
    exact ⟨rfl, rfl⟩
  · have i1 : (k == 1) = false := by simpa using h1
    by_cases h2 : k = 2
    · subst h2
      go_enter Tryd.func37, Tryd.ntmps37
      go_wp2_with fail
      go_ret
      exact ⟨rfl, rfl⟩
    · have i2 : (k == 2) = false := by simpa using h2
      have HD : Hid (decide (k = 1 ∨ k = 2) = false) := by show _ = _; simp [h1, h2]
      rw [HD.out]
      clear h1 h2
      go_enter Tryd.func37, Tryd.ntmps37
      go_wp2_with fail
      go_ret
      exact ⟨rfl, rfl⟩

set_option maxRecDepth 100000 in
set_option maxHeartbeats 4000000 in
theorem nextFrom_any (rb : Nat) (s wd : ByteArray) (tv : Value) (L : List Tk) (a n k dp : Int) (w : World) (h : RawT w rb s tv a n k wd dp) (hT : IsT w tv L) (hL : L.length ≤ 1073741824) (p : Nat) (hp : p ≤ 1073741824) (q : Nat) (HQ : Hid (p + ((L.drop p).takeWhile qk).length = q)) :
    Calls Tryd.prog 29 #[.pointer (some ⟨rb, 0, none⟩), .int .i64 p] w fun e w' => e = .returned (.int .i64 q) ∧ Below w.heap.size w w' := by
  have HR := hide h
  have HT := hide hT
  obtain ⟨ao, cap, rfl, hc1, hc2, -⟩ := hT
  clear h
  go_enter Tryd.func29, Tryd.ntmps29
  go_wp2_with fail
  go_loopw [1] (fun v wr => ∃ j : Nat, v = .int .i64 ((p + j : Nat) : Int) ∧ p + j ≤ p + L.length ∧ Hid (((L.drop p).takeWhile qk).length = j + ((L.drop (p + j)).takeWhile qk).length) ∧ Hid (Below w.heap.size w wr)) (fun v _ => p + L.length - (intOf v).toNat)
  case atStart => exact ⟨0, rfl, by omega, (by show _ = _; simp), Below.refl _ w⟩
  case round =>
    obtain ⟨j, rfl, hj, HJ, HB⟩ := hrel
    obtain ⟨⟨c0, c1, c2, c3, c4, c5, c6⟩, -⟩ := ((HR.out).below HB.out).facts
    have hjb : p + j ≤ 2147483648 := by omega
    generalize hm : p + j = m at *
    have HM := hide hm
    clear hm
    by_cases hlt : m < L.length
    case neg =>
      have i1 : decide (m < L.length) = false := by simp; omega
      have i2 : decide ((m : Int) < (L.length : Int)) = false := by simp; omega
      have HE : Hid (q = m) := by
        have h0 := HQ.out
        have h1 := HJ.out
        have h2 := HM.out
        rw [(List.drop_eq_nil_iff.2 (by omega) : L.drop m = [])] at h1
        show _ = _
        simp at h1; omega
      obtain rfl := HE.out
      go_wp2_with fail
      go_ret
      exact ⟨rfl, HB.out⟩
    obtain ⟨b', o', t, rfl, ht, q1, q2, q3⟩ := (HT.out).get HB.out hlt
    have i1 : decide (m < L.length) = true := by simp; omega
    have i2 : decide ((m : Int) < (L.length : Int)) = true := by simp; omega
    have hd : L.drop m = t :: L.drop (m + 1) := drop_at ht
    by_cases hq : qk t = true
    · have i3 : decide ((t.kind : Int) = 1 ∨ (t.kind : Int) = 2) = true := by
        unfold qk at hq; simp at hq ⊢; omega
      have HJ' : Hid (((L.drop p).takeWhile qk).length = (j + 1) + ((L.drop (m + 1)).takeWhile qk).length) := by
        have h1 := HJ.out
        show _ = _
        rw [hd, List.takeWhile_cons_of_pos hq, List.length_cons] at h1; omega
      clear hd hq ht
      go_wp2_with fail
      refine (isQuiet_any _ _).mono ?_
      rintro e w2 ⟨rfl, rfl⟩
      go_wp2_with fail
      refine ⟨⟨j + 1, ?_, by have := HM.out; omega, ?_, HB.out⟩, by simp only [intOf]; omega⟩
      · rw [show p + (j + 1) = m + 1 by have := HM.out; omega]; rfl
      · rw [show p + (j + 1) = m + 1 by have := HM.out; omega]; exact HJ'
    · have hq' : qk t = false := by simpa using hq
      have i3 : decide ((t.kind : Int) = 1 ∨ (t.kind : Int) = 2) = false := by
        unfold qk at hq'; simp at hq' ⊢; omega
      have HE : Hid (q = m) := by
        have h0 := HQ.out
        have h1 := HJ.out
        have h2 := HM.out
        rw [hd, List.takeWhile_cons_of_neg (by simpa using hq')] at h1
        show _ = _
        simp at h1; omega
      obtain rfl := HE.out
      clear hd hq ht hq'
      go_wp2_with fail
      refine (isQuiet_any _ _).mono ?_
      rintro e w2 ⟨rfl, rfl⟩
      go_wp2_with fail
      go_ret
      exact ⟨rfl, HB.out⟩
end Go.Proofs.YtpoipoencbieeaaDoor
