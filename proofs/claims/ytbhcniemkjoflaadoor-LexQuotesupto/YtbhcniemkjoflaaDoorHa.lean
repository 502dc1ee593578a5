/- strings.ContainsRune of the signs of one character. -/
import Derived.Test.YtbhcniemkjoflaaDoorGd
import Derived.Laws.RangeString
import Derived.Laws.Runes
import Derived.Lib.Bytealg
namespace Go.Proofs.YtbhcniemkjoflaaDoor
open Go.RowKit
open M
theorem indexByte_none (c : UInt8) : ∀ l : List UInt8, (∀ x ∈ l, x ≠ c) → Lib.indexByte l c = -1
  | [], _ => rfl
  | x :: l, h => by
    have h1 := h x (by simp)
    have h2 := indexByte_none c l (fun y hy => h y (by simp [hy]))
    simp [Lib.indexByte, h1, h2]
/-- All bytes of a string are characters of one byte. -/
def Asc (s : ByteArray) : Prop := ∀ (k : Nat) (h : k < s.size), (s[k]'h).toNat < 128

set_option maxHeartbeats 4000000 in
set_option maxRecDepth 1000000 in
theorem indexRune_bad (c : Int) (s : ByteArray) (w : World) (h1 : 128 ≤ c) (h2 : c ≠ 65533) (hv : Lib.validRune c = false) :
    Calls Tryd.prog 88 #[.string s, .int .i32 c] w fun e w' => e = .returned (.int .i64 (-1)) ∧ Below w.heap.size w w' := by
  have b1 : decide (c < 128) = false := by simpa using h1
  have b2 : (c == 65533) = false := by simpa using h2
  have b3 : 0 ≤ c := by omega
  clear h2
  go_enter Tryd.func88, Tryd.ntmps88
  go_wp2_with ((go_at_call 76; refine (Tryd.utf8_ValidRune _ _).mono ?_; rintro e w' ⟨rfl, rfl⟩))
  go_ret
  exact ⟨rfl, Below.refl _ _⟩

set_option maxHeartbeats 4000000 in
set_option maxRecDepth 1000000 in
theorem indexRune_fit (c : Int) (s : ByteArray) (ha : Asc s) (hs : s.size ≤ 1000) (w : World) (h1 : 128 ≤ c) (h2 : c ≠ 65533) (hv : Lib.validRune c = true) :
    Calls Tryd.prog 88 #[.string s, .int .i32 c] w fun e w' => e = .returned (.int .i64 (-1)) ∧ Below w.heap.size w w' := by
  have b1 : decide (c < 128) = false := by simpa using h1
  have b2 : (c == 65533) = false := by simpa using h2
  have b3 : 0 ≤ c := by omega
  clear h2
  have hv' : Utf8.valid c = true := by
    simp only [Lib.validRune, decide_eq_true_eq] at hv
    simp only [Utf8.valid, Bool.or_eq_true, Bool.and_eq_true, decide_eq_true_eq]; omega
  obtain ⟨hE2, hE4, hEl⟩ := encode_facts c hv' h1
  clear hv'
  have i1 : (0 : Int) ≤ ((Utf8.encode c).size : Int) - 1 := by omega
  have i2 : ((Utf8.encode c).size : Int) - 1 < ((Utf8.encode c).size : Int) := by omega
  have hl := hEl (by omega)
  go_enter Tryd.func88, Tryd.ntmps88
  go_wp2_with ((go_at_call 76; refine (Tryd.utf8_ValidRune _ _).mono ?_; rintro e w' ⟨rfl, rfl⟩))
  go_step3
  go_wp2_with fail
  go_loopw [9] (fun i wr => i = .int .i64 (((Utf8.encode c).size : Int) - 1) ∧ Below w'.heap.size w' wr) (fun _ _ => 0)
  case atStart => exact ⟨rfl, Below.refl _ _⟩
  case round =>
    obtain ⟨rfl, hB⟩ := hrel
    by_cases hlt : ((Utf8.encode c).size : Int) - 1 < (s.size : Int)
    · go_wp2_with fail
      go_step3
      go_wp2_with fail
      obtain ⟨m, hm⟩ : ∃ m, (Utf8.encode c).size = m + 1 := ⟨(Utf8.encode c).size - 1, by omega⟩
      have em : ((Utf8.encode c).size : Int) - 1 = (m : Int) := by omega
      have m1 : m < s.size := by omega
      have m2 : m < (Utf8.encode c).size := by omega
      have m3 : (s[m]'m1).toNat < 128 := ha m m1
      have m4 : 128 ≤ ((Utf8.encode c)[m]'m2).toNat := by
        have e1 : (Utf8.encode c).size - 1 = m := by omega
        simp only [e1] at hl; exact hl
      have m5 : (((s[m]'m1).toNat : Int) == (((Utf8.encode c)[m]'m2).toNat : Int)) = false := by simp; omega
      rw [em]
      have HM := hide hm
      clear hEl hl i1 i2 hlt em hm m3
      go_quiet (fail)
      go_wp2_with fail
      obtain ⟨n, hn⟩ : ∃ n, n = m + 1 := ⟨_, rfl⟩
      have m6 : n ≤ s.size := by omega
      have hw : IntKind.i64.wrap ((m : Int) + 1) = (n : Int) := by rw [wrap_small _ (by omega) (by omega)]; omega
      have hix : Lib.indexByte (s.extract n s.size).data.toList (((Utf8.encode c)[m]'m2).toNat : Int).toNat.toUInt8 = -1 := by
        refine indexByte_none _ _ (fun x hx e => ?_)
        have hx2 : x ∈ bs s := by
          have hb : (s.extract n s.size).data.toList = (bs s).drop n := bs_drop s n
          rw [hb] at hx; exact List.mem_of_mem_drop hx
        obtain ⟨k, hk, hke⟩ := List.getElem_of_mem hx2
        rw [bs_len] at hk
        have h9 := ha k hk
        have h10 : (bs s)[k]'(by rw [bs_len]; exact hk) = s[k]'hk := rfl
        rw [h10] at hke
        rw [hke, e] at h9
        simp at h9
        omega
      have HN := hide hn
      clear hn
      have hB2 := belowN hB nq
      clear hB
      generalize wr.drewN nq = w3 at hB2 ⊢
      go_quiet ((go_at_call 97; exact Calls.quiet_of_same (Tryd.strings_IndexByte _ _ _)))
      simp only [hix]
      clear hix
      go_wp2_with fail
      rw [Exit.noGoto_ret]
      go_wp2_with fail
      rw [Exit.noGoto_ret]
      go_ret
      exact ⟨rfl, belowN hB2 _⟩
    · go_wp2_with fail
      go_ret
      exact ⟨rfl, hB⟩

set_option maxHeartbeats 4000000 in
set_option maxRecDepth 1000000 in
theorem indexRune_err (s : ByteArray) (ha : Asc s) (w : World) :
    Calls Tryd.prog 88 #[.string s, .int .i32 65533] w fun e w' => e = .returned (.int .i64 (-1)) ∧ Below w.heap.size w w' := by
  go_enter Tryd.func88, Tryd.ntmps88
  go_wp2_with ((go_at_call 76; refine (Tryd.utf8_ValidRune _ _).mono ?_; rintro e w' ⟨rfl, rfl⟩))
  go_loopw [5] (fun n w' => ∃ (pos : Nat), w' = w.iter s pos ∧ pos ≤ s.size) (fun _ w' => s.size - w'.iterPos w.heap.size)
  case atStart => exact ⟨0, rfl, Nat.zero_le _⟩
  case round =>
    obtain ⟨pos, rfl, hb⟩ := hrel
    by_cases hp : pos < s.size
    · have hasc := ha pos hp
      have hnx : ∀ ty, (Instr.next (.pointer (some ⟨w.heap.size, 0, none⟩)) true ty).run Tryd.prog (w.iter s pos) = _ := fun ty => run_next_ascii w s pos ty hp hasc
      have hne : (((s[pos]'hp).toNat : Int) == 65533) = false := by simp; omega
      go_wp2_with fail
      go_roundw
      case rel => exact ⟨pos + 1, rfl, by omega⟩
      case measure => simp; omega
    · have hnx : ∀ ty, (Instr.next (.pointer (some ⟨w.heap.size, 0, none⟩)) true ty).run Tryd.prog (w.iter s pos) = _ := fun ty => run_next_end w s pos ty hp
      go_wp2_with fail
      go_ret
      exact ⟨rfl, ((Below.refl _ _).alloc (Nat.le_refl _) _)⟩

theorem asc_signs : Asc ⟨#[40, 41, 91, 93, 44, 59, 61, 60, 43, 45, 42, 46, 63]⟩ := by
  have : ∀ k : Fin 13, ((⟨#[40, 41, 91, 93, 44, 59, 61, 60, 43, 45, 42, 46, 63]⟩ : ByteArray)[k.val]'k.isLt).toNat < 128 := by decide
  exact fun k h => this ⟨k, h⟩
set_option maxRecDepth 100000 in
theorem sign_ascii : ∀ n : Fin 128, decide (0 ≤ Lib.indexByte [40, 41, 91, 93, 44, 59, 61, 60, 43, 45, 42, 46, 63] (UInt8.ofNat n.val)) = isSg (n.val : Int) := by decide
theorem isSg_hi {c : Int} (h : 128 ≤ c) : isSg c = false := by
  unfold isSg; rw [decide_eq_false_iff_not]; simp; omega

theorem indexRune_hi (c : Int) (w : World) (h1 : 128 ≤ c) :
    Calls Tryd.prog 88 #[.string ⟨#[40, 41, 91, 93, 44, 59, 61, 60, 43, 45, 42, 46, 63]⟩, .int .i32 c] w fun e w' => e = .returned (.int .i64 (-1)) ∧ Below w.heap.size w w' := by
  by_cases h2 : c = 65533
  · subst h2; exact indexRune_err _ asc_signs w
  · cases hv : Lib.validRune c
    · exact indexRune_bad c _ w h1 h2 hv
    · exact indexRune_fit c _ asc_signs (by decide) w h1 h2 hv

set_option maxHeartbeats 4000000 in
theorem contains_any (c : Int) (w : World) (h0 : 0 ≤ c) :
    Calls Tryd.prog 73 #[.string ⟨#[40, 41, 91, 93, 44, 59, 61, 60, 43, 45, 42, 46, 63]⟩, .int .i32 c] w fun e w' => e = .returned (.bool (isSg c)) ∧ Below w.heap.size w w' := by
  by_cases h1 : c < 128
  · refine (Tryd.strings_ContainsRune_ascii _ c w h0 h1).mono ?_
    rintro e w' ⟨rfl, rfl⟩
    obtain ⟨n, rfl⟩ : ∃ n : Nat, c = (n : Int) := ⟨c.toNat, by omega⟩
    exact ⟨retb (sign_ascii ⟨n, by omega⟩), Below.refl _ _⟩
  · rw [isSg_hi (by omega)]
    go_enter Tryd.func73, Tryd.ntmps73
    go_wp2_with ((go_at_call 88; refine (indexRune_hi c _ (by omega)).mono ?_; rintro e w1 ⟨rfl, hb⟩))
    go_ret
    exact ⟨rfl, hb⟩
end Go.Proofs.YtbhcniemkjoflaaDoor
