/- The program's printer: numbers, words, commas. -/
import Derived.Test.YthdbnafiindgbaaDoorWmf
import Derived.Test.YthdbnafiindgbaaDoorWmc
import Derived.Test.YthdbnafiindgbaaDoorWjb
namespace Go.Proofs.YthdbnafiindgbaaDoor
open Go.RowKit
open Wi

theorem decDigits_digs (n : Nat) : Lib.decDigits n = digs n := by
  induction n using Nat.strongRecOn with
  | _ n ih =>
    rw [Lib.decDigits, digs]
    by_cases h : n < 10
    · rw [dif_pos h, if_pos h]
    · rw [dif_neg h, if_neg h, ih (n / 10) (by omega)]
theorem itoa_digsZ (n : Int) : Lib.itoa n = digsZ n := by
  unfold Lib.itoa digsZ
  split
  · rw [decDigits_digs]
  · rw [decDigits_digs]; congr 1; omega
/-- The table of the powers of ten stands where it was laid. -/
def Tb (w : World) : Prop := Lib.TabIs Tryd.prog w "internal/strconv.uint64pow10" .u64 Lib.pow10Tab
theorem Tb.below {w w' : World} (h : Tb w) (hb : Below w.heap.size w w') : Tb w' := by
  unfold Tb Lib.TabIs World.var? at *
  revert h
  cases hg : Tryd.prog.globalNamed "internal/strconv.uint64pow10" with
  | none => intro h; exact h
  | some g =>
    intro h
    simp only [Option.bind_some] at h ⊢
    have hlt : g < w.heap.size := by
      rcases Nat.lt_or_ge g w.heap.size with h1 | h1
      · exact h1
      · rw [Array.getElem?_eq_none h1] at h; cases h
    rw [hb.block g hlt]; exact h
theorem itoa_any (n : Int) (h0 : -9223372036854775808 ≤ n) (h1 : n ≤ 9223372036854775807) (w : World) (ht : Tb w) :
    Calls Tryd.prog 29 #[.int .i64 n] w fun e w' => e = .returned (.string (ba (digsZ n))) ∧ Below w.heap.size w w' := by
  refine (Any.strconv_Itoa Tryd.layM171 n h0 h1 w ht).mono ?_
  rintro e w' ⟨rfl, k, os, rfl⟩
  refine ⟨by rw [itoa_digsZ]; rfl, rfl, rfl, rfl, by simp [Go.«Sort».grow], fun q hq => ?_⟩
  simp [Go.«Sort».grow, Array.getElem?_append, hq]
set_option maxRecDepth 100000 in
theorem fbool_any (b : Bool) (w : World) : Calls Tryd.prog 32 #[.bool b] w fun e w' => e = .returned (.string (ba (if b then sTrue else sFalse))) ∧ w' = w := by
  cases b
  · go_enter Tryd.func32, Tryd.ntmps32
    go_wp2
    go_ret
    exact ⟨rfl, rfl⟩
  · go_enter Tryd.func32, Tryd.ntmps32
    go_wp2
    go_ret
    exact ⟨rfl, rfl⟩
/-- What a comma adds ahead of the k-th part. -/
def com (k : Nat) : List UInt8 := if k = 0 then [] else [44]
set_option maxRecDepth 100000 in
theorem comma_any (k : Nat) (hk : k ≤ 1073741824) {w wr : World} {B : Nat} {l : List UInt8} {bv : Value} (h : Pt w B bv l wr) (hl : l.length ≤ 1099511627776) :
    Calls Tryd.prog 51 #[.pointer (some ⟨B, 0, none⟩), .int .i64 (k : Int)] wr fun e w' => e = .returned (.tuple #[]) ∧ Hid (Pt w B bv (l ++ com k) w') := by
  have HB := hide (h.byte prH 44 hl _ (Below.refl _ _))
  have HP := hide h
  clear h
  cases k with
  | zero =>
    go_enter Tryd.func51, Tryd.ntmps51
    go_wp2_with fail
    go_end0
    refine ⟨rfl, ?_⟩
    show Pt _ _ _ _ _
    simpa [com] using HP.out
  | succ k =>
    have i1 : decide ((0 : Int) < ((k + 1 : Nat) : Int)) = true := by simp
    have i2 : (0 : Int) < ((k + 1 : Nat) : Int) := by omega
    have HC : Hid (com (k + 1) = [44]) := by show _ = _; simp [com]
    generalize ((k + 1 : Nat) : Int) = kk at *
    go_enter Tryd.func51, Tryd.ntmps51
    go_wp2_with fail
    refine (HB.out).mono ?_
    rintro e w2 ⟨rfl, H2⟩
    go_wp2_with fail
    go_end0
    refine ⟨rfl, ?_⟩
    show Pt _ _ _ _ _
    rw [HC.out]; exact H2.out
end Go.Proofs.YthdbnafiindgbaaDoor
