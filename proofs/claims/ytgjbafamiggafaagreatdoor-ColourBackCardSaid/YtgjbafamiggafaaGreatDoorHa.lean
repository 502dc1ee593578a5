/- strings.ContainsRune of the signs of one character. -/
import Derived.Test.YtgjbafamiggafaaGreatDoorGa
import Derived.Laws.RangeString
import Derived.Laws.Runes
import Derived.Lib.Bytealg
namespace Go.Proofs.YtgjbafamiggafaaGreatDoor
open Go.RowKit
open M
theorem indexByte_none (c : UInt8) : ∀ l : List UInt8, (∀ x ∈ l, x ≠ c) → Lib.indexByte l c = -1
  | [], _ => rfl
  | x :: l, h => by
    have h1 := h x (by simp)
    have h2 := indexByte_none c l (fun y hy => h y (by simp [hy]))
    simp [Lib.indexByte, h1, h2]
/-- All bytes of a string are characters of one byte. -/
def Asc (s : ByteArray) : Prop := ∀ (k : Nat) (h : k < s.size), (s[k]'h).toNat < 128

set_option maxHeartbeats 4000000 in
set_option maxRecDepth 1000000 in
theorem indexRune_bad (c : Int) (s : ByteArray) (w : World) (h1 : 128 ≤ c) (h2 : c ≠ 65533) (hv : Lib.validRune c = false) :
    Calls Tryz.prog 100 #[.string s, .int .i32 c] w fun e w' => e = .returned (.int .i64 (-1)) ∧ Below w.heap.size w w' := by
  have b1 : decide (c < 128) = false := by simpa using h1
  have b2 : (c == 65533) = false := by simpa using h2
  have b3 : 0 ≤ c := by omega
  clear h2
  go_enter Tryz.func100, Tryz.ntmps100
  go_wp2_with ((go_at_call 119; refine (Tryz.utf8_ValidRune _ _).mono ?_; rintro e w' ⟨rfl, rfl⟩))
  go_ret
  exact ⟨rfl, Below.refl _ _⟩

set_option maxHeartbeats 4000000 in
set_option maxRecDepth 1000000 in
theorem indexRune_fit (c : Int) (s : ByteArray) (ha : Asc s) (hs : s.size ≤ 1000) (w : World) (h1 : 128 ≤ c) (h2 : c ≠ 65533) (hv : Lib.validRune c = true) :
    Calls Tryz.prog 100 #[.string s, .int .i32 c] w fun e w' => e = .returned (.int .i64 (-1)) ∧ Below w.heap.size w w' := by
  have b1 : decide (c < 128) = false := by simpa using h1
  have b2 : (c == 65533) = false := by simpa using h2
  have b3 : 0 ≤ c := by omega
  clear h2
  have hv' : Utf8.valid c = true := by
    simp only [Lib.validRune, decide_eq_true_eq] at hv
    simp only [Utf8.valid, Bool.or_eq_true, Bool.and_eq_true, decide_eq_true_eq]; omega
  obtain ⟨hE2, hE4, hEl⟩ := encode_facts c hv' h1
  clear hv'
  have i1 : (0 : Int) ≤ ((Utf8.encode c).size : Int) - 1 := by omega
  have i2 : ((Utf8.encode c).size : Int) - 1 < ((Utf8.encode c).size : Int) := by omega
  have hl := hEl (by omega)
  go_enter Tryz.func100, Tryz.ntmps100
  go_wp2_with ((go_at_call 119; refine (Tryz.utf8_ValidRune _ _).mono ?_; rintro e w' ⟨rfl, rfl⟩))
  go_step3
  go_wp2_with fail
  go_loopw [9] (fun i wr => i = .int .i64 (((Utf8.encode c).size : Int) - 1) ∧ Below w'.heap.size w' wr) (fun _ _ => 0)
  case atStart => exact ⟨rfl, Below.refl _ _⟩
  case round =>
    obtain ⟨rfl, hB⟩ := hrel
    by_cases hlt : ((Utf8.encode c).size : Int) - 1 < (s.size : Int)
    · go_wp2_with fail
      go_step3
      go_wp2_with fail
      obtain ⟨m, hm⟩ : ∃ m, (Utf8.encode c).size = m + 1 := ⟨(Utf8.encode c).size - 1, by omega⟩
      have em : ((Utf8.encode c).size : Int) - 1 = (m : Int) := by omega
      have m1 : m < s.size := by omega
      have m2 : m < (Utf8.encode c).size := by omega
      have m3 : (s[m]'m1).toNat < 128 := ha m m1
      have m4 : 128 ≤ ((Utf8.encode c)[m]'m2).toNat := by
        have e1 : (Utf8.encode c).size - 1 = m := by omega
        simp only [e1] at hl; exact hl
      have m5 : (((s[m]'m1).toNat : Int) == (((Utf8.encode c)[m]'m2).toNat : Int)) = false := by simp; omega
      rw [em]
      have HM := hide hm
      clear hEl hl i1 i2 hlt em hm m3
      go_quiet (fail)
      go_wp2_with fail
      obtain ⟨n, hn⟩ : ∃ n, n = m + 1 := ⟨_, rfl⟩
      have m6 : n ≤ s.size := by omega
      have hw : IntKind.i64.wrap ((m : Int) + 1) = (n : Int) := by rw [wrap_small _ (by omega) (by omega)]; omega
      have hix : Lib.indexByte (s.extract n s.size).data.toList (((Utf8.encode c)[m]'m2).toNat : Int).toNat.toUInt8 = -1 := by
        refine indexByte_none _ _ (fun x hx e => ?_)
        have hx2 : x ∈ bs s := by
          have hb : (s.extract n s.size).data.toList = (bs s).drop n := bs_drop s n
          rw [hb] at hx; exact List.mem_of_mem_drop hx
        obtain ⟨k, hk, hke⟩ := List.getElem_of_mem hx2
        rw [bs_len] at hk
        have h9 := ha k hk
        have h10 : (bs s)[k]'(by rw [bs_len]; exact hk) = s[k]'hk := rfl
        rw [h10] at hke
        rw [hke, e] at h9
        simp at h9
        omega
      have HN := hide hn
      clear hn
      have hB2 := belowN hB nq
      clear hB
      generalize wr.drewN nq = w3 at hB2 ⊢
      go_quiet ((go_at_call 118; exact Calls.quiet_of_same (Tryz.strings_IndexByte _ _ _)))
      simp only [hix]
      clear hix
      go_wp2_with fail
      rw [Exit.noGoto_ret]
      go_wp2_with fail
      rw [Exit.noGoto_ret]
      go_ret
      exact ⟨rfl, belowN hB2 _⟩
    · go_wp2_with fail
      go_ret
      exact ⟨rfl, hB⟩

set_option maxHeartbeats 4000000 in
set_option maxRecDepth 1000000 in
theorem indexRune_err (s : ByteArray) (ha : Asc s) (w : World) :
    Calls Tryz.prog 100 #[.string s, .int .i32 65533] w fun e w' => e = .returned (.int .i64 (-1)) ∧ Below w.heap.size w w' := by
  go_enter Tryz.func100, Tryz.ntmps100
  go_wp2_with ((go_at_call 119; refine (Tryz.utf8_ValidRune _ _).mono ?_; rintro e w' ⟨rfl, rfl⟩))
  go_loopw [5] (fun n w' => ∃ (pos : Nat), w' = w.iter s pos ∧ pos ≤ s.size) (fun _ w' => s.size - w'.iterPos w.heap.size)
  case atStart => exact ⟨0, rfl, Nat.zero_le _⟩
  case round =>
    obtain ⟨pos, rfl, hb⟩ := hrel
    by_cases hp : pos < s.size
    · have hasc := ha pos hp
      have hnx : ∀ ty, (Instr.next (.pointer (some ⟨w.heap.size, 0, none⟩)) true ty).run Tryz.prog (w.iter s pos) = _ := fun ty => run_next_ascii w s pos ty hp hasc
      have hne : (((s[pos]'hp).toNat : Int) == 65533) = false := by simp; omega
      go_wp2_with fail
      go_roundw
      case rel => exact ⟨pos + 1, rfl, by omega⟩
      case measure => simp; omega
    · have hnx : ∀ ty, (Instr.next (.pointer (some ⟨w.heap.size, 0, none⟩)) true ty).run Tryz.prog (w.iter s pos) = _ := fun ty => run_next_end w s pos ty hp
      go_wp2_with fail
      go_ret
      exact ⟨rfl, ((Below.refl _ _).alloc (Nat.le_refl _) _)⟩

theorem asc_signs : Asc ⟨#[40, 41, 91, 93, 44, 59, 61, 60, 43, 45, 42, 46, 63]⟩ := by
  have : ∀ k : Fin 13, ((⟨#[40, 41, 91, 93, 44, 59, 61, 60, 43, 45, 42, 46, 63]⟩ : ByteArray)[k.val]'k.isLt).toNat < 128 := by decide
  exact fun k h => this ⟨k, h⟩
set_option maxRecDepth 100000 in
theorem sign_ascii : ∀ n : Fin 128, decide (0 ≤ Lib.indexByte [40, 41, 91, 93, 44, 59, 61, 60, 43, 45, 42, 46, 63] (UInt8.ofNat n.val)) = isSg (n.val : Int) := by decide
theorem isSg_hi {c : Int} (h : 128 ≤ c) : isSg c = false := by
  unfold isSg; rw [decide_eq_false_iff_not]; simp; omega

theorem indexRune_hi (c : Int) (w : World) (h1 : 128 ≤ c) :
    Calls Tryz.prog 100 #[.string ⟨#[40, 41, 91, 93, 44, 59, 61, 60, 43, 45, 42, 46, 63]⟩, .int .i32 c] w fun e w' => e = .returned (.int .i64 (-1)) ∧ Below w.heap.size w w' := by
  by_cases h2 : c = 65533
  · subst h2; exact indexRune_err _ asc_signs w
  · cases hv : Lib.validRune c
    · exact indexRune_bad c _ w h1 h2 hv
    · exact indexRune_fit c _ asc_signs (by decide) w h1 h2 hv

set_option maxHeartbeats 4000000 in
theorem contains_any (c : Int) (w : World) (h0 : 0 ≤ c) :
    Calls Tryz.prog 78 #[.string ⟨#[40, 41, 91, 93, 44, 59, 61, 60, 43, 45, 42, 46, 63]⟩, .int .i32 c] w fun e w' => e = .returned (.bool (isSg c)) ∧ Below w.heap.size w w' := by
  by_cases h1 : c < 128
  · refine (Tryz.strings_ContainsRune_ascii _ c w h0 h1).mono ?_
    rintro e w' ⟨rfl, rfl⟩
    obtain ⟨n, rfl⟩ : ∃ n : Nat, c = (n : Int) := ⟨c.toNat, by omega⟩
    exact ⟨retb (sign_ascii ⟨n, by omega⟩), Below.refl _ _⟩
  · rw [isSg_hi (by omega)]
    go_enter Tryz.func78, Tryz.ntmps78
    go_wp2_with ((go_at_call 100; refine (indexRune_hi c _ (by omega)).mono ?_; rintro e w1 ⟨rfl, hb⟩))
    go_ret
    exact ⟨rfl, hb⟩
end Go.Proofs.YtgjbafamiggafaaGreatDoor
/- Is a text a word of the language? -/
namespace Go.Proofs.YtgjbafamiggafaaGreatDoor
open Go.RowKit
open M

theorem str_ne {s : ByteArray} {l : List UInt8} (h : ¬ s = ⟨l.toArray⟩) : (s.toList == l) = false := by
  rw [ByteArray.toList_eq, beq_eq_false_iff_ne]
  exact fun e => h (bs_inj (by rw [show bs s = l from e]; simp [bs]))
theorem word_yes {s : ByteArray} (h : bs s ∈ words) : wordB (bs s) = true := by unfold wordB; exact decide_eq_true h
theorem word_no {s : ByteArray} (h : bs s ∉ words) : wordB (bs s) = false := by unfold wordB; exact decide_eq_false h

set_option maxHeartbeats 4000000 in
theorem word_any (s : ByteArray) (w : World) : Calls Tryz.prog 79 #[.string s] w fun e w' => e = .returned (.bool (wordB (bs s))) ∧ w' = w := by
  by_cases h0 : s = ⟨#[117, 115, 101]⟩
  · subst h0
    rw [word_yes (by decide)]
    go_enter Tryz.func79, Tryz.ntmps79
    go_wp2
    go_ret
    exact ⟨rfl, rfl⟩
  by_cases h1 : s = ⟨#[97, 115]⟩
  · subst h1
    rw [word_yes (by decide)]
    go_enter Tryz.func79, Tryz.ntmps79
    go_wp2
    go_ret
    exact ⟨rfl, rfl⟩
  by_cases h2 : s = ⟨#[112, 117, 98]⟩
  · subst h2
    rw [word_yes (by decide)]
    go_enter Tryz.func79, Tryz.ntmps79
    go_wp2
    go_ret
    exact ⟨rfl, rfl⟩
  by_cases h3 : s = ⟨#[100, 101, 102]⟩
  · subst h3
    rw [word_yes (by decide)]
    go_enter Tryz.func79, Tryz.ntmps79
    go_wp2
    go_ret
    exact ⟨rfl, rfl⟩
  by_cases h4 : s = ⟨#[108, 101, 116]⟩
  · subst h4
    rw [word_yes (by decide)]
    go_enter Tryz.func79, Tryz.ntmps79
    go_wp2
    go_ret
    exact ⟨rfl, rfl⟩
  by_cases h5 : s = ⟨#[105, 110]⟩
  · subst h5
    rw [word_yes (by decide)]
    go_enter Tryz.func79, Tryz.ntmps79
    go_wp2
    go_ret
    exact ⟨rfl, rfl⟩
  by_cases h6 : s = ⟨#[105, 102]⟩
  · subst h6
    rw [word_yes (by decide)]
    go_enter Tryz.func79, Tryz.ntmps79
    go_wp2
    go_ret
    exact ⟨rfl, rfl⟩
  by_cases h7 : s = ⟨#[116, 104, 101, 110]⟩
  · subst h7
    rw [word_yes (by decide)]
    go_enter Tryz.func79, Tryz.ntmps79
    go_wp2
    go_ret
    exact ⟨rfl, rfl⟩
  by_cases h8 : s = ⟨#[101, 108, 115, 101]⟩
  · subst h8
    rw [word_yes (by decide)]
    go_enter Tryz.func79, Tryz.ntmps79
    go_wp2
    go_ret
    exact ⟨rfl, rfl⟩
  by_cases h9 : s = ⟨#[102, 117, 110]⟩
  · subst h9
    rw [word_yes (by decide)]
    go_enter Tryz.func79, Tryz.ntmps79
    go_wp2
    go_ret
    exact ⟨rfl, rfl⟩
  by_cases h10 : s = ⟨#[116, 114, 117, 101]⟩
  · subst h10
    rw [word_yes (by decide)]
    go_enter Tryz.func79, Tryz.ntmps79
    go_wp2
    go_ret
    exact ⟨rfl, rfl⟩
  by_cases h11 : s = ⟨#[102, 97, 108, 115, 101]⟩
  · subst h11
    rw [word_yes (by decide)]
    go_enter Tryz.func79, Tryz.ntmps79
    go_wp2
    go_ret
    exact ⟨rfl, rfl⟩
  have HN : Hid (wordB (bs s) = false) := by
    refine word_no (fun h => ?_)
    simp only [words, List.mem_cons, List.not_mem_nil, or_false] at h
    rcases h with h | h | h | h | h | h | h | h | h | h | h | h
    · exact h0 (bs_inj h)
    · exact h1 (bs_inj h)
    · exact h2 (bs_inj h)
    · exact h3 (bs_inj h)
    · exact h4 (bs_inj h)
    · exact h5 (bs_inj h)
    · exact h6 (bs_inj h)
    · exact h7 (bs_inj h)
    · exact h8 (bs_inj h)
    · exact h9 (bs_inj h)
    · exact h10 (bs_inj h)
    · exact h11 (bs_inj h)
  have b0 : (s.toList == [117, 115, 101]) = false := str_ne h0
  have b1 : (s.toList == [97, 115]) = false := str_ne h1
  have b2 : (s.toList == [112, 117, 98]) = false := str_ne h2
  have b3 : (s.toList == [100, 101, 102]) = false := str_ne h3
  have b4 : (s.toList == [108, 101, 116]) = false := str_ne h4
  have b5 : (s.toList == [105, 110]) = false := str_ne h5
  have b6 : (s.toList == [105, 102]) = false := str_ne h6
  have b7 : (s.toList == [116, 104, 101, 110]) = false := str_ne h7
  have b8 : (s.toList == [101, 108, 115, 101]) = false := str_ne h8
  have b9 : (s.toList == [102, 117, 110]) = false := str_ne h9
  have b10 : (s.toList == [116, 114, 117, 101]) = false := str_ne h10
  have b11 : (s.toList == [102, 97, 108, 115, 101]) = false := str_ne h11
  clear h0 h1 h2 h3 h4 h5 h6 h7 h8 h9 h10 h11
  go_enter Tryz.func79, Tryz.ntmps79
  go_wp2
  go_ret
  exact ⟨retb HN.out.symm, rfl⟩
end Go.Proofs.YtgjbafamiggafaaGreatDoor
/- What kind of token begins where a reader is: spaces. -/
namespace Go.Proofs.YtgjbafamiggafaaGreatDoor
open Go.RowKit
open M

theorem ne_sp {t : List UInt8} (h : isSp (cc t) = true) : t ≠ [] := by rintro rfl; rw [cc_nil] at h; revert h; decide
theorem ne_dg {t : List UInt8} (h : isDg (cc t) = true) : t ≠ [] := by rintro rfl; rw [cc_nil] at h; revert h; decide
theorem ne_nm {t : List UInt8} (h : isNm (cc t) = true) : t ≠ [] := by rintro rfl; rw [cc_nil] at h; revert h; decide
/-- What holds at a label of kind: characters of one sort are passed. -/
def JS (b : Nat) (s : ByteArray) (p : Nat) (c0 : Int) (w : World) (P : Int → Bool) (T L : Nat) (l n : Nat) (a' : Act) (w' : World) : Prop :=
  ∃ (q : Nat) (u5 u6 u7 u8 u9 u10 u11 u12 u13 u14 u15 u16 u17 u65 u66 u67 u68 u69 u70 u71 : Value), a' = { tmps := #[.pointer (some ⟨b, 0, none⟩), undef, .int .i64 0, .int .i64 (p : Int), .int .i32 c0, u5, u6, u7, u8, u9, u10, u11, u12, u13, u14, u15, u16, u17, undef, undef, undef, undef, undef, undef, undef, undef, undef, undef, undef, undef, undef, undef, undef, undef, undef, undef, undef, undef, undef, undef, undef, undef, undef, undef, undef, undef, undef, undef, undef, undef, undef, undef, undef, undef, undef, undef, undef, undef, undef, undef, undef, undef, undef, undef, undef, u65, u66, u67, u68, u69, u70, u71, undef, undef, undef, undef, undef, undef, undef, undef, undef, undef, undef, undef, undef, undef, undef, undef, undef, undef, undef, undef, undef, undef, undef, undef, undef, undef, undef, undef, undef, undef, undef, undef, undef, undef, undef, undef, undef, undef, undef, undef, undef, undef, undef, undef, undef, undef, undef, undef, undef, undef, undef, undef, undef], defers := [] } ∧ Rdr w' b s q ∧ On b w w' ∧ p ≤ q ∧ p + T = q + skip P ((bs s).drop q) ∧ l = L ∧ n = s.size - q

set_option maxHeartbeats 4000000 in
theorem kind_space (b : Nat) (s : ByteArray) (p : Nat) (w : World) (h : Rdr w b s p) (hp : p < s.size) (hc : isSp (cc ((bs s).drop p)) = true) :
    Calls Tryz.prog 46 #[.pointer (some ⟨b, 0, none⟩)] w fun e w' => e = .returned (.int .i64 1) ∧ Rdr w' b s (p + (sz ((bs s).drop p) + skip isSp (nx ((bs s).drop p)))) ∧ On b w w' := by
  obtain ⟨⟨c0, c1, c2, c3⟩, f0, f1, f2, f3⟩ := h.raw.facts
  have hs := h.big
  have HZ := hide (sz_pos (drop_ne hp))
  go_enter Tryz.func46, Tryz.ntmps46
  go_wp2_with fail
  refine wp_scope_many (JS b s p (cc ((bs s).drop p)) w isSp (sz ((bs s).drop p) + skip isSp (nx ((bs s).drop p))) 0) ?_ ?_
  · go_wp2_with fail
    go_quiet (fail)
    go_wp2_with (first | (go_at_call 71; refine (pass_any b s p _ (h.drewN _)).mono ?_; rintro e w1 ⟨rfl, r1, k1⟩) | (go_at_call 72; refine (isSpace_any _ _).mono ?_; rintro e w' ⟨rfl, rfl⟩) | (go_at_call 73; refine (isLetter_any _ _).mono ?_; rintro e w' ⟨rfl, rfl⟩) | (go_at_call 74; refine (isDigit_any _ _).mono ?_; rintro e w' ⟨rfl, rfl⟩))
    go_step3
    have := HZ.out
    exact ⟨s.size - (p + sz ((bs s).drop p)), p + sz ((bs s).drop p), _, _, _, _, _, _, _, _, _, _, _, _, _, _, _, _, _, _, _, _, rfl, r1, (On.drewN b w nq).to k1, by omega, by rw [nx_drop]; omega, rfl, rfl⟩
  · rintro l n a' w' ⟨q, u5, u6, u7, u8, u9, u10, u11, u12, u13, u14, u15, u16, u17, u65, u66, u67, u68, u69, u70, u71, rfl, hr, hk, hpq, hT, rfl, rfl⟩
    refine ⟨_, rfl, ?_⟩
    have hq := hr.le
    clear c0 c1 c2 c3 f0 f1 f2 f3
    obtain ⟨⟨c0, c1, c2, c3⟩, f0, f1, f2, f3⟩ := hr.raw.facts
    have HP2 := hide (pass_any b s q w' hr)
    have HH := hide (And.intro hr (And.intro hk hT))
    clear hr hk hT
    cases hx : isSp (cc ((bs s).drop q))
    · have HN := hide (skip_no (p := isSp) hx)
      go_wp2_with (first | (go_at_call 71; refine (HP2.out).mono ?_; rintro e w1 ⟨rfl, r1, k1⟩) | (go_at_call 72; refine (isSpace_any _ _).mono ?_; rintro e w' ⟨rfl, rfl⟩) | (go_at_call 73; refine (isLetter_any _ _).mono ?_; rintro e w' ⟨rfl, rfl⟩) | (go_at_call 74; refine (isDigit_any _ _).mono ?_; rintro e w' ⟨rfl, rfl⟩))
      simp only [Jumps]
      go_ret
      obtain ⟨hr, hk, hT⟩ := HH.out
      rw [HN.out] at hT
      refine ⟨rfl, ?_, hk⟩
      rw [hT]; exact hr
    · have HN := hide (skip_yes (p := isSp) (t := (bs s).drop q) (ne_sp hx) hx)
      have HZ2 := hide (sz_pos (l := (bs s).drop q) (ne_sp hx))
      go_wp2_with (first | (go_at_call 71; refine (HP2.out).mono ?_; rintro e w1 ⟨rfl, r1, k1⟩) | (go_at_call 72; refine (isSpace_any _ _).mono ?_; rintro e w' ⟨rfl, rfl⟩) | (go_at_call 73; refine (isLetter_any _ _).mono ?_; rintro e w' ⟨rfl, rfl⟩) | (go_at_call 74; refine (isDigit_any _ _).mono ?_; rintro e w' ⟨rfl, rfl⟩))
      go_step3
      obtain ⟨hr, hk, hT⟩ := HH.out
      rw [HN.out, nx_drop (bs s) q] at hT
      have := HZ2.out
      have hz := r1.le
      exact ⟨s.size - (q + sz ((bs s).drop q)), by omega, q + sz ((bs s).drop q), _, _, _, _, _, _, _, _, _, _, _, _, _, _, _, _, _, _, _, _, rfl, r1, hk.to k1, by omega, by omega, rfl, rfl⟩
end Go.Proofs.YtgjbafamiggafaaGreatDoor
/- What kind of token begins where a reader is: numbers. -/
namespace Go.Proofs.YtgjbafamiggafaaGreatDoor
open Go.RowKit
open M
/-- What holds at a label of kind: characters of one sort are passed. -/
def JD (b : Nat) (s : ByteArray) (p : Nat) (c0 : Int) (w : World) (P : Int → Bool) (T L : Nat) (l n : Nat) (a' : Act) (w' : World) : Prop :=
  ∃ (q : Nat) (u5 u6 u7 u8 u9 u10 u11 u12 u13 u14 u15 u16 u17 u18 u19 u20 u21 u22 u23 u97 u98 u99 u100 u101 u102 u103 : Value), a' = { tmps := #[.pointer (some ⟨b, 0, none⟩), undef, .int .i64 0, .int .i64 (p : Int), .int .i32 c0, u5, u6, u7, u8, u9, u10, u11, u12, u13, u14, u15, u16, u17, u18, u19, u20, u21, u22, u23, undef, undef, undef, undef, undef, undef, undef, undef, undef, undef, undef, undef, undef, undef, undef, undef, undef, undef, undef, undef, undef, undef, undef, undef, undef, undef, undef, undef, undef, undef, undef, undef, undef, undef, undef, undef, undef, undef, undef, undef, undef, undef, undef, undef, undef, undef, undef, undef, undef, undef, undef, undef, undef, undef, undef, undef, undef, undef, undef, undef, undef, undef, undef, undef, undef, undef, undef, undef, undef, undef, undef, undef, undef, u97, u98, u99, u100, u101, u102, u103, undef, undef, undef, undef, undef, undef, undef, undef, undef, undef, undef, undef, undef, undef, undef, undef, undef, undef, undef, undef, undef], defers := [] } ∧ Rdr w' b s q ∧ On b w w' ∧ p ≤ q ∧ p + T = q + skip P ((bs s).drop q) ∧ l = L ∧ n = s.size - q

set_option maxHeartbeats 4000000 in
theorem kind_digit (b : Nat) (s : ByteArray) (p : Nat) (w : World) (h : Rdr w b s p) (hp : p < s.size) (h1 : isSp (cc ((bs s).drop p)) = false) (h2 : isLt (cc ((bs s).drop p)) = false) (hc : isDg (cc ((bs s).drop p)) = true) :
    Calls Tryz.prog 46 #[.pointer (some ⟨b, 0, none⟩)] w fun e w' => e = .returned (.int .i64 (if 18 < sz ((bs s).drop p) + skip isDg (nx ((bs s).drop p)) then 8 else 5 : Nat)) ∧ Rdr w' b s (p + (sz ((bs s).drop p) + skip isDg (nx ((bs s).drop p)))) ∧ On b w w' := by
  obtain ⟨⟨c0, c1, c2, c3⟩, f0, f1, f2, f3⟩ := h.raw.facts
  have hs := h.big
  have HZ := hide (sz_pos (drop_ne hp))
  go_enter Tryz.func46, Tryz.ntmps46
  go_wp2_with fail
  refine wp_scope_many (JD b s p (cc ((bs s).drop p)) w isDg (sz ((bs s).drop p) + skip isDg (nx ((bs s).drop p))) 2) ?_ ?_
  · go_wp2_with fail
    go_quiet (fail)
    go_wp2_with (first | (go_at_call 71; refine (pass_any b s p _ (h.drewN _)).mono ?_; rintro e w1 ⟨rfl, r1, k1⟩) | (go_at_call 72; refine (isSpace_any _ _).mono ?_; rintro e w' ⟨rfl, rfl⟩) | (go_at_call 73; refine (isLetter_any _ _).mono ?_; rintro e w' ⟨rfl, rfl⟩) | (go_at_call 74; refine (isDigit_any _ _).mono ?_; rintro e w' ⟨rfl, rfl⟩))
    go_step3
    have := HZ.out
    exact ⟨s.size - (p + sz ((bs s).drop p)), p + sz ((bs s).drop p), _, _, _, _, _, _, _, _, _, _, _, _, _, _, _, _, _, _, _, _, _, _, _, _, _, _, rfl, r1, (On.drewN b w nq).to k1, by omega, by rw [nx_drop]; omega, rfl, rfl⟩
  · rintro l n a' w' ⟨q, u5, u6, u7, u8, u9, u10, u11, u12, u13, u14, u15, u16, u17, u18, u19, u20, u21, u22, u23, u97, u98, u99, u100, u101, u102, u103, rfl, hr, hk, hpq, hT, rfl, rfl⟩
    refine ⟨_, rfl, ?_⟩
    have hq := hr.le
    clear c0 c1 c2 c3 f0 f1 f2 f3
    obtain ⟨⟨c0, c1, c2, c3⟩, f0, f1, f2, f3⟩ := hr.raw.facts
    have HP2 := hide (pass_any b s q w' hr)
    have HH := hide (And.intro hr (And.intro hk hT))
    clear hr hk hT
    cases hx : isDg (cc ((bs s).drop q))
    · have HN := hide (skip_no (p := isDg) hx)
      have hT2 := (HH.out).2.2
      rw [HN.out] at hT2
      by_cases h18 : (18 : Int) < (q : Int) - (p : Int)
      · go_wp2_with (first | (go_at_call 71; refine (HP2.out).mono ?_; rintro e w1 ⟨rfl, r1, k1⟩) | (go_at_call 72; refine (isSpace_any _ _).mono ?_; rintro e w' ⟨rfl, rfl⟩) | (go_at_call 73; refine (isLetter_any _ _).mono ?_; rintro e w' ⟨rfl, rfl⟩) | (go_at_call 74; refine (isDigit_any _ _).mono ?_; rintro e w' ⟨rfl, rfl⟩))
        simp only [Jumps]
        go_ret
        obtain ⟨hr, hk, hT⟩ := HH.out
        refine ⟨reti (a := 8) (by rw [if_pos (by omega)]; rfl), ?_, hk⟩
        rw [hT2]; exact hr
      · go_wp2_with (first | (go_at_call 71; refine (HP2.out).mono ?_; rintro e w1 ⟨rfl, r1, k1⟩) | (go_at_call 72; refine (isSpace_any _ _).mono ?_; rintro e w' ⟨rfl, rfl⟩) | (go_at_call 73; refine (isLetter_any _ _).mono ?_; rintro e w' ⟨rfl, rfl⟩) | (go_at_call 74; refine (isDigit_any _ _).mono ?_; rintro e w' ⟨rfl, rfl⟩))
        simp only [Jumps]
        go_ret
        obtain ⟨hr, hk, hT⟩ := HH.out
        refine ⟨reti (a := 5) (by rw [if_neg (by omega)]; rfl), ?_, hk⟩
        rw [hT2]; exact hr
    · have HN := hide (skip_yes (p := isDg) (t := (bs s).drop q) (ne_dg hx) hx)
      have HZ2 := hide (sz_pos (l := (bs s).drop q) (ne_dg hx))
      go_wp2_with (first | (go_at_call 71; refine (HP2.out).mono ?_; rintro e w1 ⟨rfl, r1, k1⟩) | (go_at_call 72; refine (isSpace_any _ _).mono ?_; rintro e w' ⟨rfl, rfl⟩) | (go_at_call 73; refine (isLetter_any _ _).mono ?_; rintro e w' ⟨rfl, rfl⟩) | (go_at_call 74; refine (isDigit_any _ _).mono ?_; rintro e w' ⟨rfl, rfl⟩))
      go_step3
      obtain ⟨hr, hk, hT⟩ := HH.out
      rw [HN.out, nx_drop (bs s) q] at hT
      have := HZ2.out
      have hz := r1.le
      exact ⟨s.size - (q + sz ((bs s).drop q)), by omega, q + sz ((bs s).drop q), _, _, _, _, _, _, _, _, _, _, _, _, _, _, _, _, _, _, _, _, _, _, _, _, _, _, rfl, r1, hk.to k1, by omega, by omega, rfl, rfl⟩
end Go.Proofs.YtgjbafamiggafaaGreatDoor
/- What kind of token begins where a reader is: remarks up to the end of a line. -/
namespace Go.Proofs.YtgjbafamiggafaaGreatDoor
open Go.RowKit
open M

/-- What holds at a label of kind: characters of one sort are passed. -/
def JL (b : Nat) (s : ByteArray) (p : Nat) (c0 : Int) (w : World) (P : Int → Bool) (T L : Nat) (l n : Nat) (a' : Act) (w' : World) : Prop :=
  ∃ (q : Nat) (u5 u6 u7 u8 u9 u10 u11 u12 u13 u14 u15 u16 u17 u18 u19 u20 u21 u22 u23 u24 u25 u26 u29 u30 u31 u32 u33 u34 u35 u36 u37 u38 u43 u44 u45 u46 u47 u48 u49 u50 u51 u52 u111 u112 u113 u114 u115 u116 u117 u118 u119 u120 u121 u122 u123 u124 : Value), a' = { tmps := #[.pointer (some ⟨b, 0, none⟩), undef, .int .i64 0, .int .i64 (p : Int), .int .i32 c0, u5, u6, u7, u8, u9, u10, u11, u12, u13, u14, u15, u16, u17, u18, u19, u20, u21, u22, u23, u24, u25, u26, undef, undef, u29, u30, u31, u32, u33, u34, u35, u36, u37, u38, undef, undef, undef, undef, u43, u44, u45, u46, u47, u48, u49, u50, u51, u52, undef, undef, undef, undef, undef, undef, undef, undef, undef, undef, undef, undef, undef, undef, undef, undef, undef, undef, undef, undef, undef, undef, undef, undef, undef, undef, undef, undef, undef, undef, undef, undef, undef, undef, undef, undef, undef, undef, undef, undef, undef, undef, undef, undef, undef, undef, undef, undef, undef, undef, undef, undef, undef, undef, undef, undef, undef, undef, u111, u112, u113, u114, u115, u116, u117, u118, u119, u120, u121, u122, u123, u124], defers := [] } ∧ Rdr w' b s q ∧ On b w w' ∧ p ≤ q ∧ p + T = q + skip P ((bs s).drop q) ∧ l = L ∧ n = s.size - q

set_option maxHeartbeats 4000000 in
theorem kind_line (b : Nat) (s : ByteArray) (p : Nat) (w : World) (h : Rdr w b s p) (hp : p < s.size) (hc : cc ((bs s).drop p) = 45) (hc1 : cc ((bs s).drop (p + 1)) = 45) :
    Calls Tryz.prog 46 #[.pointer (some ⟨b, 0, none⟩)] w fun e w' => e = .returned (.int .i64 2) ∧ Rdr w' b s (p + (1 + skip isLn ((bs s).drop (p + 1)))) ∧ On b w w' := by
  obtain ⟨⟨c0, c1, c2, c3⟩, f0, f1, f2, f3⟩ := h.raw.facts
  have hs := h.big
  have z1 : sz ((bs s).drop p) = 1 := sz_cc (by omega) (by omega)
  have eN : nx ((bs s).drop p) = (bs s).drop (p + 1) := by rw [nx_drop, z1]
  have HP := hide (fun w2 (h' : Rdr w2 b s p) => pass_any b s p w2 h')
  rw [z1] at HP
  have EN := hide eN
  have Z1 := hide z1
  have hsp : isSp (cc ((bs s).drop p)) = false := by rw [hc]; decide
  have hlt : isLt (cc ((bs s).drop p)) = false := by rw [hc]; decide
  have hdg : isDg (cc ((bs s).drop p)) = false := by rw [hc]; decide
  rw [hc] at hsp hlt hdg c2
  clear z1 eN
  go_enter Tryz.func46, Tryz.ntmps46
  go_wp2_with fail
  refine wp_scope_many (JL b s p 45 w isLn (1 + skip isLn ((bs s).drop (p + 1))) 3) ?_ ?_
  · go_wp2_with fail
    go_quiet (fail)
    go_wp2_with (first | (go_at_call 71; refine (HP.out _ (h.drewN _)).mono ?_; rintro e w1 ⟨rfl, r1, k1⟩; obtain ⟨⟨d0, d1, d2, d3⟩, -⟩ := r1.raw.facts; rw [hc1] at d2) | (go_at_call 72; refine (isSpace_any _ _).mono ?_; rintro e w' ⟨rfl, rfl⟩) | (go_at_call 73; refine (isLetter_any _ _).mono ?_; rintro e w' ⟨rfl, rfl⟩) | (go_at_call 74; refine (isDigit_any _ _).mono ?_; rintro e w' ⟨rfl, rfl⟩))
    go_step3
    exact ⟨s.size - (p + 1), p + 1, _, _, _, _, _, _, _, _, _, _, _, _, _, _, _, _, _, _, _, _, _, _, _, _, _, _, _, _, _, _, _, _, _, _, _, _, _, _, _, _, _, _, _, _, _, _, _, _, _, _, _, _, _, _, _, _, rfl, r1, (On.drewN b w nq).to k1, by omega, by omega, rfl, rfl⟩
  · rintro l n a' w' ⟨q, u5, u6, u7, u8, u9, u10, u11, u12, u13, u14, u15, u16, u17, u18, u19, u20, u21, u22, u23, u24, u25, u26, u29, u30, u31, u32, u33, u34, u35, u36, u37, u38, u43, u44, u45, u46, u47, u48, u49, u50, u51, u52, u111, u112, u113, u114, u115, u116, u117, u118, u119, u120, u121, u122, u123, u124, rfl, hr, hk, hpq, hT, rfl, rfl⟩
    refine ⟨_, rfl, ?_⟩
    have hq := hr.le
    clear c0 c1 c2 c3 f0 f1 f2 f3
    obtain ⟨⟨c0, c1, c2, c3⟩, f0, f1, f2, f3⟩ := hr.raw.facts
    have HP2 := hide (pass_any b s q w' hr)
    have HH := hide (And.intro hr (And.intro hk hT))
    clear hr hk hT
    by_cases g1 : cc ((bs s).drop q) = 10
    · have HN := hide (skip_no (p := isLn) (t := (bs s).drop q) (by rw [g1]; rfl))
      rw [g1] at c2
      go_wp2_with (first | (go_at_call 71; refine (HP2.out).mono ?_; rintro e w1 ⟨rfl, r1, k1⟩) | (go_at_call 72; refine (isSpace_any _ _).mono ?_; rintro e w' ⟨rfl, rfl⟩) | (go_at_call 73; refine (isLetter_any _ _).mono ?_; rintro e w' ⟨rfl, rfl⟩) | (go_at_call 74; refine (isDigit_any _ _).mono ?_; rintro e w' ⟨rfl, rfl⟩))
      simp only [Jumps]
      go_ret
      obtain ⟨hr, hk, hT⟩ := HH.out
      rw [HN.out] at hT
      refine ⟨rfl, ?_, hk⟩
      rw [hT]; exact hr
    by_cases g2 : cc ((bs s).drop q) = -1
    · have HN := hide (skip_nil isLn)
      have HE := hide (cc_ne.1 g2)
      rw [g2] at c2
      clear g1 g2
      go_wp2_with (first | (go_at_call 71; refine (HP2.out).mono ?_; rintro e w1 ⟨rfl, r1, k1⟩) | (go_at_call 72; refine (isSpace_any _ _).mono ?_; rintro e w' ⟨rfl, rfl⟩) | (go_at_call 73; refine (isLetter_any _ _).mono ?_; rintro e w' ⟨rfl, rfl⟩) | (go_at_call 74; refine (isDigit_any _ _).mono ?_; rintro e w' ⟨rfl, rfl⟩))
      simp only [Jumps]
      go_ret
      obtain ⟨hr, hk, hT⟩ := HH.out
      rw [HE.out, HN.out] at hT
      refine ⟨rfl, ?_, hk⟩
      rw [hT]; exact hr
    have hx : isLn (cc ((bs s).drop q)) = true := by simp [isLn, g1]
    have hne : (bs s).drop q ≠ [] := fun e => g2 (cc_ne.2 e)
    have b1 : (cc ((bs s).drop q) != 10) = true := by simpa using g1
    have b2 : (cc ((bs s).drop q) != -1) = true := by simpa using g2
    clear g1 g2
    have HN := hide (skip_yes (p := isLn) (t := (bs s).drop q) hne hx)
    have HZ2 := hide (sz_pos (l := (bs s).drop q) hne)
    go_wp2_with (first | (go_at_call 71; refine (HP2.out).mono ?_; rintro e w1 ⟨rfl, r1, k1⟩) | (go_at_call 72; refine (isSpace_any _ _).mono ?_; rintro e w' ⟨rfl, rfl⟩) | (go_at_call 73; refine (isLetter_any _ _).mono ?_; rintro e w' ⟨rfl, rfl⟩) | (go_at_call 74; refine (isDigit_any _ _).mono ?_; rintro e w' ⟨rfl, rfl⟩))
    go_step3
    obtain ⟨hr, hk, hT⟩ := HH.out
    rw [HN.out, nx_drop (bs s) q] at hT
    have := HZ2.out
    have hz := r1.le
    exact ⟨s.size - (q + sz ((bs s).drop q)), by omega, q + sz ((bs s).drop q), _, _, _, _, _, _, _, _, _, _, _, _, _, _, _, _, _, _, _, _, _, _, _, _, _, _, _, _, _, _, _, _, _, _, _, _, _, _, _, _, _, _, _, _, _, _, _, _, _, _, _, _, _, _, _, _, rfl, r1, hk.to k1, by omega, by omega, rfl, rfl⟩
end Go.Proofs.YtgjbafamiggafaaGreatDoor
/- What kind of token begins where a reader is: names and words. -/
namespace Go.Proofs.YtgjbafamiggafaaGreatDoor
open Go.RowKit
open M
/-- What holds at a label of kind: characters of one sort are passed. -/
def JM (b : Nat) (s : ByteArray) (p : Nat) (c0 : Int) (w : World) (P : Int → Bool) (T L : Nat) (l n : Nat) (a' : Act) (w' : World) : Prop :=
  ∃ (q : Nat) (u5 u6 u7 u8 u9 u10 u11 u12 u13 u14 u15 u16 u17 u18 u19 u20 u72 u73 u74 u75 u76 u77 u78 u79 u80 u81 u82 u83 u84 u85 : Value), a' = { tmps := #[.pointer (some ⟨b, 0, none⟩), undef, .int .i64 0, .int .i64 (p : Int), .int .i32 c0, u5, u6, u7, u8, u9, u10, u11, u12, u13, u14, u15, u16, u17, u18, u19, u20, undef, undef, undef, undef, undef, undef, undef, undef, undef, undef, undef, undef, undef, undef, undef, undef, undef, undef, undef, undef, undef, undef, undef, undef, undef, undef, undef, undef, undef, undef, undef, undef, undef, undef, undef, undef, undef, undef, undef, undef, undef, undef, undef, undef, undef, undef, undef, undef, undef, undef, undef, u72, u73, u74, u75, u76, u77, u78, u79, u80, u81, u82, u83, u84, u85, undef, undef, undef, undef, undef, undef, undef, undef, undef, undef, undef, undef, undef, undef, undef, undef, undef, undef, undef, undef, undef, undef, undef, undef, undef, undef, undef, undef, undef, undef, undef, undef, undef, undef, undef, undef, undef, undef, undef], defers := [] } ∧ Rdr w' b s q ∧ On b w w' ∧ p ≤ q ∧ p + T = q + skip P ((bs s).drop q) ∧ l = L ∧ n = s.size - q

set_option maxHeartbeats 4000000 in
theorem kind_name (b : Nat) (s : ByteArray) (p : Nat) (w : World) (h : Rdr w b s p) (hp : p < s.size) (h1 : isSp (cc ((bs s).drop p)) = false) (hc : isLt (cc ((bs s).drop p)) = true) :
    Calls Tryz.prog 46 #[.pointer (some ⟨b, 0, none⟩)] w fun e w' => e = .returned (.int .i64 (if wordB (((bs s).drop p).take (sz ((bs s).drop p) + skip isNm (nx ((bs s).drop p)))) then 4 else 3 : Nat)) ∧ Rdr w' b s (p + (sz ((bs s).drop p) + skip isNm (nx ((bs s).drop p)))) ∧ On b w w' := by
  obtain ⟨⟨c0, c1, c2, c3⟩, f0, f1, f2, f3⟩ := h.raw.facts
  have hs := h.big
  have HZ := hide (sz_pos (drop_ne hp))
  go_enter Tryz.func46, Tryz.ntmps46
  go_wp2_with fail
  refine wp_scope_many (JM b s p (cc ((bs s).drop p)) w isNm (sz ((bs s).drop p) + skip isNm (nx ((bs s).drop p))) 1) ?_ ?_
  · go_wp2_with fail
    go_quiet (fail)
    go_wp2_with (first | (go_at_call 71; refine (pass_any b s p _ (h.drewN _)).mono ?_; rintro e w1 ⟨rfl, r1, k1⟩) | (go_at_call 72; refine (isSpace_any _ _).mono ?_; rintro e w' ⟨rfl, rfl⟩) | (go_at_call 73; refine (isLetter_any _ _).mono ?_; rintro e w' ⟨rfl, rfl⟩) | (go_at_call 74; refine (isDigit_any _ _).mono ?_; rintro e w' ⟨rfl, rfl⟩))
    go_step3
    have := HZ.out
    exact ⟨s.size - (p + sz ((bs s).drop p)), p + sz ((bs s).drop p), _, _, _, _, _, _, _, _, _, _, _, _, _, _, _, _, _, _, _, _, _, _, _, _, _, _, _, _, _, _, rfl, r1, (On.drewN b w nq).to k1, by omega, by rw [nx_drop]; omega, rfl, rfl⟩
  · rintro l n a' w' ⟨q, u5, u6, u7, u8, u9, u10, u11, u12, u13, u14, u15, u16, u17, u18, u19, u20, u72, u73, u74, u75, u76, u77, u78, u79, u80, u81, u82, u83, u84, u85, rfl, hr, hk, hpq, hT, rfl, rfl⟩
    refine ⟨_, rfl, ?_⟩
    have hq := hr.le
    clear c0 c1 c2 c3 f0 f1 f2 f3
    obtain ⟨⟨c0, c1, c2, c3⟩, f0, f1, f2, f3⟩ := hr.raw.facts
    have HP2 := hide (pass_any b s q w' hr)
    have HH := hide (And.intro hr (And.intro hk hT))
    clear hr hk hT
    have hnm : isNm (cc ((bs s).drop q)) = (isLt (cc ((bs s).drop q)) || isDg (cc ((bs s).drop q))) := rfl
    cases hl : isLt (cc ((bs s).drop q))
    · cases hd : isDg (cc ((bs s).drop q))
      · have hx : isNm (cc ((bs s).drop q)) = false := by rw [hnm, hl, hd]; rfl
        have HN := hide (skip_no (p := isNm) hx)
        have hT2 := (HH.out).2.2
        rw [HN.out] at hT2
        have hw : wordB (((bs s).drop p).take (sz ((bs s).drop p) + skip isNm (nx ((bs s).drop p)))) = wordB (bs (s.extract p q)) := by
          rw [bs_cut, List.drop_take, show q - p = sz ((bs s).drop p) + skip isNm (nx ((bs s).drop p)) by omega]
        have HW := hide hw
        clear hw hnm hx
        have HT2 := hide hT2
        clear hT2
        cases hwd : wordB (bs (s.extract p q))
        · have HV := hide hwd
          go_wp2_with (first | (go_at_call 71; refine (HP2.out).mono ?_; rintro e w1 ⟨rfl, r1, k1⟩) | (go_at_call 72; refine (isSpace_any _ _).mono ?_; rintro e w' ⟨rfl, rfl⟩) | (go_at_call 73; refine (isLetter_any _ _).mono ?_; rintro e w' ⟨rfl, rfl⟩) | (go_at_call 74; refine (isDigit_any _ _).mono ?_; rintro e w' ⟨rfl, rfl⟩))
          go_quiet ((go_at_call 79; exact Calls.quiet_of_same (word_any _ _)))
          simp only [hwd]
          go_wp2_with fail
          simp only [Jumps]
          go_ret
          obtain ⟨hr, hk, hT⟩ := HH.out
          refine ⟨reti (a := 3) (by rw [HW.out, HV.out]; rfl), ?_, hk.to (On.drewN b _ nq)⟩
          rw [HT2.out]; exact hr.drewN _
        · have HV := hide hwd
          go_wp2_with (first | (go_at_call 71; refine (HP2.out).mono ?_; rintro e w1 ⟨rfl, r1, k1⟩) | (go_at_call 72; refine (isSpace_any _ _).mono ?_; rintro e w' ⟨rfl, rfl⟩) | (go_at_call 73; refine (isLetter_any _ _).mono ?_; rintro e w' ⟨rfl, rfl⟩) | (go_at_call 74; refine (isDigit_any _ _).mono ?_; rintro e w' ⟨rfl, rfl⟩))
          go_quiet ((go_at_call 79; exact Calls.quiet_of_same (word_any _ _)))
          simp only [hwd]
          go_wp2_with fail
          simp only [Jumps]
          go_ret
          obtain ⟨hr, hk, hT⟩ := HH.out
          refine ⟨reti (a := 4) (by rw [HW.out, HV.out]; rfl), ?_, hk.to (On.drewN b _ nq)⟩
          rw [HT2.out]; exact hr.drewN _
      · have hx : isNm (cc ((bs s).drop q)) = true := by rw [hnm, hl, hd]; rfl
        clear hnm
        have HN := hide (skip_yes (p := isNm) (t := (bs s).drop q) (ne_nm hx) hx)
        have HZ2 := hide (sz_pos (l := (bs s).drop q) (ne_nm hx))
        go_wp2_with (first | (go_at_call 71; refine (HP2.out).mono ?_; rintro e w1 ⟨rfl, r1, k1⟩) | (go_at_call 72; refine (isSpace_any _ _).mono ?_; rintro e w' ⟨rfl, rfl⟩) | (go_at_call 73; refine (isLetter_any _ _).mono ?_; rintro e w' ⟨rfl, rfl⟩) | (go_at_call 74; refine (isDigit_any _ _).mono ?_; rintro e w' ⟨rfl, rfl⟩))
        go_step3
        obtain ⟨hr, hk, hT⟩ := HH.out
        rw [HN.out, nx_drop (bs s) q] at hT
        have := HZ2.out
        have hz := r1.le
        exact ⟨s.size - (q + sz ((bs s).drop q)), by omega, q + sz ((bs s).drop q), _, _, _, _, _, _, _, _, _, _, _, _, _, _, _, _, _, _, _, _, _, _, _, _, _, _, _, _, _, _, rfl, r1, hk.to k1, by omega, by omega, rfl, rfl⟩
    · have hx : isNm (cc ((bs s).drop q)) = true := by rw [hnm, hl]; rfl
      clear hnm
      have HN := hide (skip_yes (p := isNm) (t := (bs s).drop q) (ne_nm hx) hx)
      have HZ2 := hide (sz_pos (l := (bs s).drop q) (ne_nm hx))
      go_wp2_with (first | (go_at_call 71; refine (HP2.out).mono ?_; rintro e w1 ⟨rfl, r1, k1⟩) | (go_at_call 72; refine (isSpace_any _ _).mono ?_; rintro e w' ⟨rfl, rfl⟩) | (go_at_call 73; refine (isLetter_any _ _).mono ?_; rintro e w' ⟨rfl, rfl⟩) | (go_at_call 74; refine (isDigit_any _ _).mono ?_; rintro e w' ⟨rfl, rfl⟩))
      go_step3
      obtain ⟨hr, hk, hT⟩ := HH.out
      rw [HN.out, nx_drop (bs s) q] at hT
      have := HZ2.out
      have hz := r1.le
      exact ⟨s.size - (q + sz ((bs s).drop q)), by omega, q + sz ((bs s).drop q), _, _, _, _, _, _, _, _, _, _, _, _, _, _, _, _, _, _, _, _, _, _, _, _, _, _, _, _, _, _, rfl, r1, hk.to k1, by omega, by omega, rfl, rfl⟩
end Go.Proofs.YtgjbafamiggafaaGreatDoor
