/- Plain mathematics of characters in a list of bytes: how a list is taken apart. -/
import Derived.Lib.DecodeN
namespace Go.Proofs.YtgjbafamiggafaaGreatDoor
namespace M
open Go.Lib (decodeN)

/-- The character that a list begins with, and how many bytes it has. -/
def dec (l : List UInt8) : Nat × Nat :=
  if l.length = 0 then (65533, 0) else decodeN l.length (l.getD 0 0).toNat (l.getD 1 0).toNat (l.getD 2 0).toNat (l.getD 3 0).toNat
def sz (l : List UInt8) : Nat := (dec l).2
def ch (l : List UInt8) : Nat := (dec l).1

theorem dec_nil : dec [] = (65533, 0) := rfl
theorem sz_nil : sz [] = 0 := rfl

theorem decodeN_sz (n a b c d : Nat) (hn : 0 < n) : 1 ≤ (decodeN n a b c d).2 ∧ (decodeN n a b c d).2 ≤ 4 ∧ (decodeN n a b c d).2 ≤ n := by
  unfold decodeN
  repeat' split
  all_goals (simp only; omega)

theorem sz_pos {l : List UInt8} (h : l ≠ []) : 1 ≤ sz l := by
  have : 0 < l.length := List.length_pos_iff.2 h
  simp only [sz, dec, if_neg (by omega : ¬ l.length = 0)]
  exact (decodeN_sz _ _ _ _ _ this).1
theorem sz_le4 (l : List UInt8) : sz l ≤ 4 := by
  unfold sz dec
  split
  · simp
  · exact (decodeN_sz _ _ _ _ _ (by omega)).2.1
theorem sz_le (l : List UInt8) : sz l ≤ l.length := by
  unfold sz dec
  split
  · simp
  · exact (decodeN_sz _ _ _ _ _ (by omega)).2.2

/-- What a decoding of more than one byte says of the bytes. -/
theorem decodeN_multi (n a b c d : Nat) (ha : a < 256) (hb : b < 256) (hc : c < 256) (hd : d < 256) (h : 1 < (decodeN n a b c d).2) :
    192 ≤ a ∧ (128 ≤ b ∧ b < 192) ∧ (2 < (decodeN n a b c d).2 → 128 ≤ c ∧ c < 192) ∧ (3 < (decodeN n a b c d).2 → 128 ≤ d ∧ d < 192) ∧ 128 ≤ (decodeN n a b c d).1 ∧ (decodeN n a b c d).1 ≤ 1114111 := by
  revert h
  unfold decodeN
  repeat' split
  all_goals (simp only; intro h; refine ⟨?_, ?_, ?_, ?_, ?_, ?_⟩ <;> omega)

theorem decodeN_one (n a b c d : Nat) (h : (decodeN n a b c d).2 = 1) : (a < 128 ∧ (decodeN n a b c d).1 = a) ∨ (128 ≤ a ∧ (decodeN n a b c d).1 = 65533) := by
  revert h
  unfold decodeN
  repeat' split
  all_goals (intro h; dsimp only at h ⊢; first | (left; constructor <;> omega) | (right; constructor <;> omega) | omega)

theorem decodeN_ascii (n a b c d : Nat) (h : a < 128) : decodeN n a b c d = (a, 1) := by
  unfold decodeN; rw [if_pos h]

/-- A decoding of k bytes stands by these k alone. -/
theorem decodeN_two (n m a b c d c' d' : Nat) (h : (decodeN n a b c d).2 = 2) (hm : 2 ≤ m) : decodeN m a b c' d' = decodeN n a b c d := by
  revert h
  unfold decodeN
  repeat' split
  all_goals (first | (intro h; exfalso; simp only at h; omega) | (intro _; rfl) | (intro _; exfalso; omega))
theorem decodeN_three (n m a b c d d' : Nat) (h : (decodeN n a b c d).2 = 3) (hm : 3 ≤ m) : decodeN m a b c d' = decodeN n a b c d := by
  revert h
  unfold decodeN
  repeat' split
  all_goals (first | (intro h; exfalso; simp only at h; omega) | (intro _; rfl) | (intro _; exfalso; omega))
theorem decodeN_four (n m a b c d : Nat) (h : (decodeN n a b c d).2 = 4) (hm : 4 ≤ m) : decodeN m a b c d = decodeN n a b c d := by
  revert h
  unfold decodeN
  repeat' split
  all_goals (first | (intro h; exfalso; simp only at h; omega) | (intro _; rfl) | (intro _; exfalso; omega))

theorem toNat_lt (x : UInt8) : x.toNat < 256 := x.toNat_lt
theorem getD_append (a b : List UInt8) (i : Nat) (h : i < a.length) : (a ++ b).getD i 0 = a.getD i 0 := by
  simp only [List.getD_eq_getElem?_getD, List.getElem?_append_left h]

/-- A character of several bytes that stands wholly in a beginning stands in the whole. -/
theorem dec_append_of_multi {a b : List UInt8} (h : 1 < sz a) : dec (a ++ b) = dec a := by
  have hl := sz_le a
  have hne : ¬ a.length = 0 := by omega
  have hne' : ¬ (a ++ b).length = 0 := by rw [List.length_append]; omega
  unfold sz at h hl
  unfold dec at h hl ⊢
  rw [if_neg hne] at h hl ⊢
  rw [if_neg hne']
  have h4 := (decodeN_sz a.length (a.getD 0 0).toNat (a.getD 1 0).toNat (a.getD 2 0).toNat (a.getD 3 0).toNat (by omega)).2.1
  have hl2 : 2 ≤ a.length := by omega
  rw [getD_append a b 0 (by omega), getD_append a b 1 (by omega)]
  have hL : a.length ≤ (a ++ b).length := by simp
  have h3 : (decodeN a.length (a.getD 0 0).toNat (a.getD 1 0).toNat (a.getD 2 0).toNat (a.getD 3 0).toNat).2 = 2 ∨ (decodeN a.length (a.getD 0 0).toNat (a.getD 1 0).toNat (a.getD 2 0).toNat (a.getD 3 0).toNat).2 = 3 ∨ (decodeN a.length (a.getD 0 0).toNat (a.getD 1 0).toNat (a.getD 2 0).toNat (a.getD 3 0).toNat).2 = 4 := by omega
  rcases h3 with h3 | h3 | h3
  · exact decodeN_two _ _ _ _ _ _ _ _ h3 (by omega)
  · rw [getD_append a b 2 (by omega)]
    exact decodeN_three _ _ _ _ _ _ _ h3 (by omega)
  · rw [getD_append a b 2 (by omega), getD_append a b 3 (by omega)]
    exact decodeN_four _ _ _ _ _ _ h3 (by omega)

theorem head_cases {l : List UInt8} (h : l ≠ []) (h1 : sz l = 1) : ((l.getD 0 0).toNat < 128 ∧ ch l = (l.getD 0 0).toNat) ∨ (128 ≤ (l.getD 0 0).toNat ∧ ch l = 65533) := by
  have hne : ¬ l.length = 0 := by have := List.length_pos_iff.2 h; omega
  unfold sz dec at h1; unfold ch dec
  rw [if_neg hne] at h1 ⊢
  exact decodeN_one _ _ _ _ _ h1
theorem multi {l : List UInt8} (h : 1 < sz l) : 192 ≤ (l.getD 0 0).toNat ∧ (∀ i, 1 ≤ i → i < sz l → 128 ≤ (l.getD i 0).toNat ∧ (l.getD i 0).toNat < 192) ∧ 128 ≤ ch l ∧ ch l ≤ 1114111 := by
  have hl := sz_le l
  have h4 := sz_le4 l
  have hne : ¬ l.length = 0 := by omega
  unfold sz dec at h h4 hl ⊢; unfold ch dec
  rw [if_neg hne] at h h4 hl ⊢
  obtain ⟨a, b, c, d, e, f⟩ := decodeN_multi _ _ _ _ _ (toNat_lt _) (toNat_lt _) (toNat_lt _) (toNat_lt _) h
  refine ⟨a, fun i hi hi2 => ?_, e, f⟩
  have h5 : i = 1 ∨ i = 2 ∨ i = 3 := by omega
  rcases h5 with rfl | rfl | rfl
  · exact b
  · exact c hi2
  · exact d hi2

/-- What stands wholly in a beginning is what the beginning begins with. -/
theorem dec_prefix {a b : List UInt8} (h : a ≠ []) (hs : sz (a ++ b) ≤ a.length) : dec a = dec (a ++ b) := by
  by_cases hm : 1 < sz a
  · exact (dec_append_of_multi hm).symm
  have p1 : sz a = 1 := by have := sz_pos h; omega
  have ha0 : 0 < a.length := List.length_pos_iff.2 h
  have hab : a ++ b ≠ [] := by simp [h]
  by_cases hk : 1 < sz (a ++ b)
  · -- its bytes lie in a
    exfalso
    have hna : ¬ a.length = 0 := by omega
    have hnab : ¬ (a ++ b).length = 0 := by rw [List.length_append]; omega
    have hL : a.length ≤ (a ++ b).length := by simp
    have h4 := sz_le4 (a ++ b)
    have hcase : sz (a ++ b) = 2 ∨ sz (a ++ b) = 3 ∨ sz (a ++ b) = 4 := by omega
    unfold sz dec at p1 hcase hs
    rw [if_neg hna] at p1
    rw [if_neg hnab] at hcase hs
    rw [getD_append a b 0 (by omega)] at hcase hs
    rcases hcase with hc | hc | hc
    · rw [hc] at hs
      rw [getD_append a b 1 (by omega)] at hc
      have := decodeN_two _ a.length _ _ _ _ (a.getD 2 0).toNat (a.getD 3 0).toNat hc (by omega)
      rw [this] at p1; omega
    · rw [hc] at hs
      rw [getD_append a b 1 (by omega), getD_append a b 2 (by omega)] at hc
      have := decodeN_three _ a.length _ _ _ _ (a.getD 3 0).toNat hc (by omega)
      rw [this] at p1; omega
    · rw [hc] at hs
      rw [getD_append a b 1 (by omega), getD_append a b 2 (by omega), getD_append a b 3 (by omega)] at hc
      have := decodeN_four _ a.length _ _ _ _ hc (by omega)
      rw [this] at p1; omega
  · have p2 : sz (a ++ b) = 1 := by have := sz_pos hab; omega
    have e0 := getD_append a b 0 ha0
    have c1 := head_cases h p1
    have c2 := head_cases hab p2
    rw [e0] at c2
    have hch : ch a = ch (a ++ b) := by omega
    unfold ch at hch; unfold sz at p1 p2
    exact Prod.ext hch (by rw [p1, p2])

theorem ch_ten {l : List UInt8} (h : l ≠ []) : ch l = 10 ↔ (l.getD 0 0).toNat = 10 := by
  by_cases hm : 1 < sz l
  · have := multi hm; omega
  · have p := head_cases h (by have := sz_pos h; omega)
    omega
theorem sz_ascii {l : List UInt8} (h : l ≠ []) (h1 : (l.getD 0 0).toNat < 128) : sz l = 1 := by
  by_cases hm : 1 < sz l
  · have := multi hm; omega
  · have := sz_pos h; omega
end M
end Go.Proofs.YtgjbafamiggafaaGreatDoor
