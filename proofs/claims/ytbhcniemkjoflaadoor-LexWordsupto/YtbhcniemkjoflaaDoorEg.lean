/- The document's own question: is a text a word? -/
import Derived.Test.YtbhcniemkjoflaaDoorWd
import Derived.Handy
namespace Go.Proofs.YtbhcniemkjoflaaDoor
open Go.RowKit
open M

theorem str_ne' {s : ByteArray} {l : List UInt8} (h : ¬ s = ⟨l.toArray⟩) : (l == s.toList) = false := by
  rw [ByteArray.toList_eq, beq_eq_false_iff_ne]
  exact fun e => h (bs_inj (by rw [show bs s = l from e.symm]; simp [bs]))

set_option maxRecDepth 100000 in
set_option maxHeartbeats 8000000 in
theorem refWord_any (s : ByteArray) (w : World) : Calls Tryd.prog 15 #[.string s] w fun e w' => e = .returned (.bool (wordB (bs s))) ∧ Below w.heap.size w w' := by
  by_cases h0 : s = ⟨#[117, 115, 101]⟩
  · subst h0
    rw [word_yes (by decide)]
    go_enter Tryd.func15, Tryd.ntmps15
    go_wp2
    go_rounds 1
    go_ret
    exact ⟨rfl, (Below.refl _ _).alloc (Nat.le_refl _) _⟩
  by_cases h1 : s = ⟨#[97, 115]⟩
  · subst h1
    rw [word_yes (by decide)]
    go_enter Tryd.func15, Tryd.ntmps15
    go_wp2
    go_rounds 2
    go_ret
    exact ⟨rfl, (Below.refl _ _).alloc (Nat.le_refl _) _⟩
  by_cases h2 : s = ⟨#[112, 117, 98]⟩
  · subst h2
    rw [word_yes (by decide)]
    go_enter Tryd.func15, Tryd.ntmps15
    go_wp2
    go_rounds 3
    go_ret
    exact ⟨rfl, (Below.refl _ _).alloc (Nat.le_refl _) _⟩
  by_cases h3 : s = ⟨#[100, 101, 102]⟩
  · subst h3
    rw [word_yes (by decide)]
    go_enter Tryd.func15, Tryd.ntmps15
    go_wp2
    go_rounds 4
    go_ret
    exact ⟨rfl, (Below.refl _ _).alloc (Nat.le_refl _) _⟩
  by_cases h4 : s = ⟨#[108, 101, 116]⟩
  · subst h4
    rw [word_yes (by decide)]
    go_enter Tryd.func15, Tryd.ntmps15
    go_wp2
    go_rounds 5
    go_ret
    exact ⟨rfl, (Below.refl _ _).alloc (Nat.le_refl _) _⟩
  by_cases h5 : s = ⟨#[105, 110]⟩
  · subst h5
    rw [word_yes (by decide)]
    go_enter Tryd.func15, Tryd.ntmps15
    go_wp2
    go_rounds 6
    go_ret
    exact ⟨rfl, (Below.refl _ _).alloc (Nat.le_refl _) _⟩
  by_cases h6 : s = ⟨#[105, 102]⟩
  · subst h6
    rw [word_yes (by decide)]
    go_enter Tryd.func15, Tryd.ntmps15
    go_wp2
    go_rounds 7
    go_ret
    exact ⟨rfl, (Below.refl _ _).alloc (Nat.le_refl _) _⟩
  by_cases h7 : s = ⟨#[116, 104, 101, 110]⟩
  · subst h7
    rw [word_yes (by decide)]
    go_enter Tryd.func15, Tryd.ntmps15
    go_wp2
    go_rounds 8
    go_ret
    exact ⟨rfl, (Below.refl _ _).alloc (Nat.le_refl _) _⟩
  by_cases h8 : s = ⟨#[101, 108, 115, 101]⟩
  · subst h8
    rw [word_yes (by decide)]
    go_enter Tryd.func15, Tryd.ntmps15
    go_wp2
    go_rounds 9
    go_ret
    exact ⟨rfl, (Below.refl _ _).alloc (Nat.le_refl _) _⟩
  by_cases h9 : s = ⟨#[102, 117, 110]⟩
  · subst h9
    rw [word_yes (by decide)]
    go_enter Tryd.func15, Tryd.ntmps15
    go_wp2
    go_rounds 10
    go_ret
    exact ⟨rfl, (Below.refl _ _).alloc (Nat.le_refl _) _⟩
  by_cases h10 : s = ⟨#[116, 114, 117, 101]⟩
  · subst h10
    rw [word_yes (by decide)]
    go_enter Tryd.func15, Tryd.ntmps15
    go_wp2
    go_rounds 11
    go_ret
    exact ⟨rfl, (Below.refl _ _).alloc (Nat.le_refl _) _⟩
  by_cases h11 : s = ⟨#[102, 97, 108, 115, 101]⟩
  · subst h11
    rw [word_yes (by decide)]
    go_enter Tryd.func15, Tryd.ntmps15
    go_wp2
    go_rounds 12
    go_ret
    exact ⟨rfl, (Below.refl _ _).alloc (Nat.le_refl _) _⟩
  have HN : Hid (wordB (bs s) = false) := by
    refine word_no (fun h => ?_)
    simp only [words, List.mem_cons, List.not_mem_nil, or_false] at h
    rcases h with h | h | h | h | h | h | h | h | h | h | h | h
    · exact h0 (bs_inj h)
    · exact h1 (bs_inj h)
    · exact h2 (bs_inj h)
    · exact h3 (bs_inj h)
    · exact h4 (bs_inj h)
    · exact h5 (bs_inj h)
    · exact h6 (bs_inj h)
    · exact h7 (bs_inj h)
    · exact h8 (bs_inj h)
    · exact h9 (bs_inj h)
    · exact h10 (bs_inj h)
    · exact h11 (bs_inj h)
  have b0 : ([117, 115, 101] == s.toList) = false := str_ne' h0
  have b1 : ([97, 115] == s.toList) = false := str_ne' h1
  have b2 : ([112, 117, 98] == s.toList) = false := str_ne' h2
  have b3 : ([100, 101, 102] == s.toList) = false := str_ne' h3
  have b4 : ([108, 101, 116] == s.toList) = false := str_ne' h4
  have b5 : ([105, 110] == s.toList) = false := str_ne' h5
  have b6 : ([105, 102] == s.toList) = false := str_ne' h6
  have b7 : ([116, 104, 101, 110] == s.toList) = false := str_ne' h7
  have b8 : ([101, 108, 115, 101] == s.toList) = false := str_ne' h8
  have b9 : ([102, 117, 110] == s.toList) = false := str_ne' h9
  have b10 : ([116, 114, 117, 101] == s.toList) = false := str_ne' h10
  have b11 : ([102, 97, 108, 115, 101] == s.toList) = false := str_ne' h11
  clear h0 h1 h2 h3 h4 h5 h6 h7 h8 h9 h10 h11
  go_enter Tryd.func15, Tryd.ntmps15
  go_wp2
  go_rounds 13
  go_ret
  exact ⟨retb HN.out.symm, (Below.refl _ _).alloc (Nat.le_refl _) _⟩
end Go.Proofs.YtbhcniemkjoflaaDoor
