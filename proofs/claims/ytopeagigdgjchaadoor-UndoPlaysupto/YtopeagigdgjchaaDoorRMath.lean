/- Plain mathematics of characters in a list of bytes: how a list is taken apart, where it may be cut, and sums over its characters. -/
import Derived.Lib.DecodeN
namespace Go.Proofs.YtopeagigdgjchaaDoor.Rp
namespace M
open Go.Lib (decodeN)

/-- The character that a list begins with, and how many bytes it has. -/
def dec (l : List UInt8) : Nat × Nat :=
  if l.length = 0 then (65533, 0) else decodeN l.length (l.getD 0 0).toNat (l.getD 1 0).toNat (l.getD 2 0).toNat (l.getD 3 0).toNat
def sz (l : List UInt8) : Nat := (dec l).2
def ch (l : List UInt8) : Nat := (dec l).1

theorem dec_nil : dec [] = (65533, 0) := rfl
theorem sz_nil : sz [] = 0 := rfl

theorem decodeN_sz (n a b c d : Nat) (hn : 0 < n) : 1 ≤ (decodeN n a b c d).2 ∧ (decodeN n a b c d).2 ≤ 4 ∧ (decodeN n a b c d).2 ≤ n := by
  unfold decodeN
  repeat' split
  all_goals (simp only; omega)

theorem sz_pos {l : List UInt8} (h : l ≠ []) : 1 ≤ sz l := by
  have : 0 < l.length := List.length_pos_iff.2 h
  simp only [sz, dec, if_neg (by omega : ¬ l.length = 0)]
  exact (decodeN_sz _ _ _ _ _ this).1
theorem sz_le4 (l : List UInt8) : sz l ≤ 4 := by
  unfold sz dec
  split
  · simp
  · exact (decodeN_sz _ _ _ _ _ (by omega)).2.1
theorem sz_le (l : List UInt8) : sz l ≤ l.length := by
  unfold sz dec
  split
  · simp
  · exact (decodeN_sz _ _ _ _ _ (by omega)).2.2

/-- What a decoding of more than one byte says of the bytes. -/
theorem decodeN_multi (n a b c d : Nat) (ha : a < 256) (hb : b < 256) (hc : c < 256) (hd : d < 256) (h : 1 < (decodeN n a b c d).2) :
    192 ≤ a ∧ (128 ≤ b ∧ b < 192) ∧ (2 < (decodeN n a b c d).2 → 128 ≤ c ∧ c < 192) ∧ (3 < (decodeN n a b c d).2 → 128 ≤ d ∧ d < 192) ∧ 128 ≤ (decodeN n a b c d).1 ∧ (decodeN n a b c d).1 ≤ 1114111 := by
  revert h
  unfold decodeN
  repeat' split
  all_goals (simp only; intro h; refine ⟨?_, ?_, ?_, ?_, ?_, ?_⟩ <;> omega)

theorem decodeN_one (n a b c d : Nat) (h : (decodeN n a b c d).2 = 1) : (a < 128 ∧ (decodeN n a b c d).1 = a) ∨ (128 ≤ a ∧ (decodeN n a b c d).1 = 65533) := by
  revert h
  unfold decodeN
  repeat' split
  all_goals (intro h; dsimp only at h ⊢; first | (left; constructor <;> omega) | (right; constructor <;> omega) | omega)

theorem decodeN_ascii (n a b c d : Nat) (h : a < 128) : decodeN n a b c d = (a, 1) := by
  unfold decodeN; rw [if_pos h]

/-- A decoding of k bytes stands by these k alone. -/
theorem decodeN_two (n m a b c d c' d' : Nat) (h : (decodeN n a b c d).2 = 2) (hm : 2 ≤ m) : decodeN m a b c' d' = decodeN n a b c d := by
  revert h
  unfold decodeN
  repeat' split
  all_goals (first | (intro h; exfalso; simp only at h; omega) | (intro _; rfl) | (intro _; exfalso; omega))
theorem decodeN_three (n m a b c d d' : Nat) (h : (decodeN n a b c d).2 = 3) (hm : 3 ≤ m) : decodeN m a b c d' = decodeN n a b c d := by
  revert h
  unfold decodeN
  repeat' split
  all_goals (first | (intro h; exfalso; simp only at h; omega) | (intro _; rfl) | (intro _; exfalso; omega))
theorem decodeN_four (n m a b c d : Nat) (h : (decodeN n a b c d).2 = 4) (hm : 4 ≤ m) : decodeN m a b c d = decodeN n a b c d := by
  revert h
  unfold decodeN
  repeat' split
  all_goals (first | (intro h; exfalso; simp only at h; omega) | (intro _; rfl) | (intro _; exfalso; omega))

theorem toNat_lt (x : UInt8) : x.toNat < 256 := x.toNat_lt
theorem getD_append (a b : List UInt8) (i : Nat) (h : i < a.length) : (a ++ b).getD i 0 = a.getD i 0 := by
  simp only [List.getD_eq_getElem?_getD, List.getElem?_append_left h]

/-- A character of several bytes that stands wholly in a beginning stands in the whole. -/
theorem dec_append_of_multi {a b : List UInt8} (h : 1 < sz a) : dec (a ++ b) = dec a := by
  have hl := sz_le a
  have hne : ¬ a.length = 0 := by omega
  have hne' : ¬ (a ++ b).length = 0 := by rw [List.length_append]; omega
  unfold sz at h hl
  unfold dec at h hl ⊢
  rw [if_neg hne] at h hl ⊢
  rw [if_neg hne']
  have h4 := (decodeN_sz a.length (a.getD 0 0).toNat (a.getD 1 0).toNat (a.getD 2 0).toNat (a.getD 3 0).toNat (by omega)).2.1
  have hl2 : 2 ≤ a.length := by omega
  rw [getD_append a b 0 (by omega), getD_append a b 1 (by omega)]
  have hL : a.length ≤ (a ++ b).length := by simp
  have h3 : (decodeN a.length (a.getD 0 0).toNat (a.getD 1 0).toNat (a.getD 2 0).toNat (a.getD 3 0).toNat).2 = 2 ∨ (decodeN a.length (a.getD 0 0).toNat (a.getD 1 0).toNat (a.getD 2 0).toNat (a.getD 3 0).toNat).2 = 3 ∨ (decodeN a.length (a.getD 0 0).toNat (a.getD 1 0).toNat (a.getD 2 0).toNat (a.getD 3 0).toNat).2 = 4 := by omega
  rcases h3 with h3 | h3 | h3
  · exact decodeN_two _ _ _ _ _ _ _ _ h3 (by omega)
  · rw [getD_append a b 2 (by omega)]
    exact decodeN_three _ _ _ _ _ _ _ h3 (by omega)
  · rw [getD_append a b 2 (by omega), getD_append a b 3 (by omega)]
    exact decodeN_four _ _ _ _ _ _ h3 (by omega)

theorem head_cases {l : List UInt8} (h : l ≠ []) (h1 : sz l = 1) : ((l.getD 0 0).toNat < 128 ∧ ch l = (l.getD 0 0).toNat) ∨ (128 ≤ (l.getD 0 0).toNat ∧ ch l = 65533) := by
  have hne : ¬ l.length = 0 := by have := List.length_pos_iff.2 h; omega
  unfold sz dec at h1; unfold ch dec
  rw [if_neg hne] at h1 ⊢
  exact decodeN_one _ _ _ _ _ h1
theorem multi {l : List UInt8} (h : 1 < sz l) : 192 ≤ (l.getD 0 0).toNat ∧ (∀ i, 1 ≤ i → i < sz l → 128 ≤ (l.getD i 0).toNat ∧ (l.getD i 0).toNat < 192) ∧ 128 ≤ ch l ∧ ch l ≤ 1114111 := by
  have hl := sz_le l
  have h4 := sz_le4 l
  have hne : ¬ l.length = 0 := by omega
  unfold sz dec at h h4 hl ⊢; unfold ch dec
  rw [if_neg hne] at h h4 hl ⊢
  obtain ⟨a, b, c, d, e, f⟩ := decodeN_multi _ _ _ _ _ (toNat_lt _) (toNat_lt _) (toNat_lt _) (toNat_lt _) h
  refine ⟨a, fun i hi hi2 => ?_, e, f⟩
  have h5 : i = 1 ∨ i = 2 ∨ i = 3 := by omega
  rcases h5 with rfl | rfl | rfl
  · exact b
  · exact c hi2
  · exact d hi2

/-- What stands wholly in a beginning is what the beginning begins with. -/
theorem dec_prefix {a b : List UInt8} (h : a ≠ []) (hs : sz (a ++ b) ≤ a.length) : dec a = dec (a ++ b) := by
  by_cases hm : 1 < sz a
  · exact (dec_append_of_multi hm).symm
  have p1 : sz a = 1 := by have := sz_pos h; omega
  have ha0 : 0 < a.length := List.length_pos_iff.2 h
  have hab : a ++ b ≠ [] := by simp [h]
  by_cases hk : 1 < sz (a ++ b)
  · -- its bytes lie in a
    exfalso
    have hna : ¬ a.length = 0 := by omega
    have hnab : ¬ (a ++ b).length = 0 := by rw [List.length_append]; omega
    have hL : a.length ≤ (a ++ b).length := by simp
    have h4 := sz_le4 (a ++ b)
    have hcase : sz (a ++ b) = 2 ∨ sz (a ++ b) = 3 ∨ sz (a ++ b) = 4 := by omega
    unfold sz dec at p1 hcase hs
    rw [if_neg hna] at p1
    rw [if_neg hnab] at hcase hs
    rw [getD_append a b 0 (by omega)] at hcase hs
    rcases hcase with hc | hc | hc
    · rw [hc] at hs
      rw [getD_append a b 1 (by omega)] at hc
      have := decodeN_two _ a.length _ _ _ _ (a.getD 2 0).toNat (a.getD 3 0).toNat hc (by omega)
      rw [this] at p1; omega
    · rw [hc] at hs
      rw [getD_append a b 1 (by omega), getD_append a b 2 (by omega)] at hc
      have := decodeN_three _ a.length _ _ _ _ (a.getD 3 0).toNat hc (by omega)
      rw [this] at p1; omega
    · rw [hc] at hs
      rw [getD_append a b 1 (by omega), getD_append a b 2 (by omega), getD_append a b 3 (by omega)] at hc
      have := decodeN_four _ a.length _ _ _ _ hc (by omega)
      rw [this] at p1; omega
  · have p2 : sz (a ++ b) = 1 := by have := sz_pos hab; omega
    have e0 := getD_append a b 0 ha0
    have c1 := head_cases h p1
    have c2 := head_cases hab p2
    rw [e0] at c2
    have hch : ch a = ch (a ++ b) := by omega
    unfold ch at hch; unfold sz at p1 p2
    exact Prod.ext hch (by rw [p1, p2])

theorem ch_ten {l : List UInt8} (h : l ≠ []) : ch l = 10 ↔ (l.getD 0 0).toNat = 10 := by
  by_cases hm : 1 < sz l
  · have := multi hm; omega
  · have p := head_cases h (by have := sz_pos h; omega)
    omega
theorem sz_ascii {l : List UInt8} (h : l ≠ []) (h1 : (l.getD 0 0).toNat < 128) : sz l = 1 := by
  by_cases hm : 1 < sz l
  · have := multi hm; omega
  · have := sz_pos h; omega

/-- A list may be cut at m: no character goes on across it. -/
def Bd (l : List UInt8) (m : Nat) : Prop := ∀ p, p < m → p + sz (l.drop p) ≤ m

theorem bd_zero (l : List UInt8) : Bd l 0 := fun p h => by omega
theorem bd_len (l : List UInt8) : Bd l l.length := fun p h => by
  have := sz_le (l.drop p); simp at this; omega

/-- Sums over characters. -/
def fS (g : Nat × Nat → Nat) : Nat → List UInt8 → Nat
  | 0, _ => 0
  | n + 1, l => if l.length = 0 then 0 else g (dec l) + fS g n (l.drop (sz l))
def S (g : Nat × Nat → Nat) (l : List UInt8) : Nat := fS g l.length l

theorem fS_fuel (g : Nat × Nat → Nat) (n : Nat) : ∀ (m : Nat) (l : List UInt8), l.length ≤ n → l.length ≤ m → fS g n l = fS g m l := by
  induction n with
  | zero => 
    intro m l h1 _
    have : l.length = 0 := by omega
    cases m with
    | zero => rfl
    | succ m => simp [fS, this]
  | succ n ih =>
    intro m l h1 h2
    cases m with
    | zero =>
      have : l.length = 0 := by omega
      simp [fS, this]
    | succ m =>
      by_cases h0 : l.length = 0
      · simp [fS, h0]
      · have hp : 1 ≤ sz l := sz_pos (by intro h; rw [h] at h0; exact h0 rfl)
        simp only [fS, if_neg h0]
        rw [ih m (l.drop (sz l)) (by simp; omega) (by simp; omega)]
theorem S_nil (g : Nat × Nat → Nat) : S g [] = 0 := rfl
theorem S_cons (g : Nat × Nat → Nat) {l : List UInt8} (h : l ≠ []) : S g l = g (dec l) + S g (l.drop (sz l)) := by
  have h0 : 0 < l.length := List.length_pos_iff.2 h
  have hp := sz_pos h
  unfold S
  obtain ⟨n, hn⟩ : ∃ n, l.length = n + 1 := ⟨l.length - 1, by omega⟩
  rw [fS_fuel g l.length (n + 1) l (by omega) (by omega)]
  simp only [fS, if_neg (by omega : ¬ l.length = 0)]
  rw [fS_fuel g n (l.drop (sz l)).length _ (by simp; omega) (by omega)]

theorem bd_drop {l : List UInt8} {m n : Nat} (h : Bd l m) (_hn : n ≤ m) : Bd (l.drop n) (m - n) := fun p hp => by
  have := h (n + p) (by omega)
  rw [List.drop_drop]
  omega

theorem S_append (g : Nat × Nat → Nat) (k : Nat) : ∀ (a b : List UInt8), a.length ≤ k → Bd (a ++ b) a.length → S g (a ++ b) = S g a + S g b := by
  induction k with
  | zero =>
    intro a b h _
    have : a = [] := List.eq_nil_of_length_eq_zero (by omega)
    subst this; simp [S_nil]
  | succ k ih =>
    intro a b h hb
    by_cases ha : a = []
    · subst ha; simp [S_nil]
    have ha0 : 0 < a.length := List.length_pos_iff.2 ha
    have hz : sz (a ++ b) ≤ a.length := by have := hb 0 ha0; simpa using this
    have hd := dec_prefix ha hz
    have hsz : sz a = sz (a ++ b) := by unfold sz; rw [hd]
    have hp : 1 ≤ sz a := sz_pos ha
    rw [S_cons g (by simp [ha] : a ++ b ≠ []), S_cons g ha, hd, ← hsz]
    have e : (a ++ b).drop (sz a) = a.drop (sz a) ++ b := List.drop_append_of_le_length (by omega)
    have hb' : Bd (a.drop (sz a) ++ b) (a.drop (sz a)).length := by
      have := bd_drop (n := sz a) hb (by omega)
      rw [e] at this
      simpa using this
    rw [e, ih (a.drop (sz a)) b (by simp; omega) hb']
    omega

/-- The four measures: characters, units; bytes and bytes 10 need no taking apart. -/
def un (c : Nat) : Nat := if c > 65535 then 2 else 1
def br (c : Nat) : Nat := if c = 10 then 1 else 0
def gr : Nat × Nat → Nat := fun _ => 1
def gu : Nat × Nat → Nat := fun x => un x.1
theorem un_le (c : Nat) : 1 ≤ un c ∧ un c ≤ 2 := by unfold un; split <;> omega
theorem br_le (c : Nat) : br c ≤ 1 := by unfold br; split <;> omega
def nr (l : List UInt8) : Nat := S gr l
def nu (l : List UInt8) : Nat := S gu l
def nb (l : List UInt8) : Nat := l.count 10

theorem nr_append {a b : List UInt8} (h : Bd (a ++ b) a.length) : nr (a ++ b) = nr a + nr b := S_append gr _ a b (Nat.le_refl _) h
theorem nu_append {a b : List UInt8} (h : Bd (a ++ b) a.length) : nu (a ++ b) = nu a + nu b := S_append gu _ a b (Nat.le_refl _) h
theorem nb_append (a b : List UInt8) : nb (a ++ b) = nb a + nb b := by simp [nb, List.count_append]

theorem S_le (g : Nat × Nat → Nat) (c : Nat) (hg : ∀ l, l ≠ [] → g (dec l) ≤ c * sz l) (k : Nat) : ∀ l : List UInt8, l.length ≤ k → S g l ≤ c * l.length := by
  induction k with
  | zero =>
    intro l h
    have : l = [] := List.eq_nil_of_length_eq_zero (by omega)
    subst this; simp [S_nil]
  | succ k ih =>
    intro l h
    by_cases hl : l = []
    · subst hl; simp [S_nil]
    have hp := sz_pos hl
    have hz := sz_le l
    have h1 := hg l hl
    have h2 := ih (l.drop (sz l)) (by simp; omega)
    rw [S_cons g hl]
    simp only [List.length_drop] at h2
    have h3 : c * sz l + c * (l.length - sz l) = c * l.length := by rw [← Nat.mul_add]; congr 1; omega
    omega
theorem nr_le (l : List UInt8) : nr l ≤ l.length := by
  have := S_le gr 1 (fun l h => by have := sz_pos h; simp [gr]; omega) _ l (Nat.le_refl _)
  unfold nr; omega
theorem nu_le (l : List UInt8) : nu l ≤ 2 * l.length := by
  have := S_le gu 2 (fun l h => by have := sz_pos h; have := (un_le (dec l).1).2; show un (dec l).1 ≤ _; omega) _ l (Nat.le_refl _)
  unfold nu; omega
theorem nb_le (l : List UInt8) : nb l ≤ l.length := List.count_le_length

/-- Bytes 10 in a first character. -/
theorem nb_step {l : List UInt8} (h : l ≠ []) : nb l = br (ch l) + nb (l.drop (sz l)) := by
  unfold br
  have hz := sz_le l
  have hp := sz_pos h
  have e : l = l.take (sz l) ++ l.drop (sz l) := (List.take_append_drop _ _).symm
  have : nb l = nb (l.take (sz l)) + nb (l.drop (sz l)) := by
    have h2 := nb_append (l.take (sz l)) (l.drop (sz l))
    rw [← e] at h2; exact h2
  rw [this]
  congr 1
  by_cases hm : 1 < sz l
  · have hM := multi hm
    rw [if_neg (by omega)]
    unfold nb
    rw [List.count_eq_zero]
    intro hmem
    obtain ⟨i, hi, hx⟩ := List.mem_iff_getElem.1 hmem
    simp only [List.length_take] at hi
    have hg : l.getD i 0 = 10 := by
      rw [List.getElem_take] at hx
      simp only [List.getD_eq_getElem?_getD, List.getElem?_eq_getElem (by omega : i < l.length), Option.getD_some, hx]
    by_cases hi0 : i = 0
    · subst hi0; have := hM.1; rw [hg] at this; simp at this
    · have := (hM.2.1 i (by omega) (by omega)).1; rw [hg] at this; simp at this
  · have h1 : sz l = 1 := by omega
    have ht := ch_ten h
    cases l with
    | nil => exact absurd rfl h
    | cons x r =>
      rw [h1]
      simp only [List.take_succ_cons, List.take_zero]
      simp only [List.getD_eq_getElem?_getD, List.getElem?_cons_zero, Option.getD_some] at ht
      unfold nb
      by_cases hx : x = 10
      · subst hx; rw [if_pos (ht.2 rfl)]; rfl
      · rw [if_neg (fun hc => hx (UInt8.toNat_inj.1 (by rw [ht.1 hc]; rfl)))]
        simp [hx]

theorem nr_step {l : List UInt8} (h : l ≠ []) : nr l = 1 + nr (l.drop (sz l)) := S_cons gr h
theorem nu_step {l : List UInt8} (h : l ≠ []) : nu l = un (ch l) + nu (l.drop (sz l)) := S_cons gu h

/-! Where a text is cut in two. -/
def begAt (l : List UInt8) (at' : Nat) : Nat :=
  if 1 ≤ at' ∧ 1 < sz (l.drop (at' - 1)) then at' - 1
  else if 2 ≤ at' ∧ 2 < sz (l.drop (at' - 2)) then at' - 2
  else if 3 ≤ at' ∧ 3 < sz (l.drop (at' - 3)) then at' - 3
  else at'

theorem getD_drop (l : List UInt8) (p i : Nat) : (l.drop p).getD i 0 = l.getD (p + i) 0 := by
  simp [List.getD_eq_getElem?_getD, List.getElem?_drop]

theorem bd_of_lead {l : List UInt8} {q k : Nat} (hk : 1 ≤ k) (h : k < sz (l.drop q)) : Bd l q := fun p hp => by
  have h1 := (multi (l := l.drop q) (by omega)).1
  rw [getD_drop] at h1
  by_cases hc : p + sz (l.drop p) ≤ q
  · exact hc
  · exfalso
    have h2 := ((multi (l := l.drop p) (by omega)).2.1 (q - p) (by omega) (by omega)).2
    rw [getD_drop, show p + (q - p) = q + 0 from by omega] at h2
    omega

theorem begAt_bd (l : List UInt8) (a : Nat) : Bd l (begAt l a) := by
  unfold begAt
  split
  · rename_i h; exact bd_of_lead (by omega) h.2
  split
  · rename_i h; exact bd_of_lead (k := 2) (by omega) h.2
  split
  · rename_i h; exact bd_of_lead (k := 3) (by omega) h.2
  rename_i h1 h2 h3
  intro p hp
  by_cases hc : p + sz (l.drop p) ≤ a
  · exact hc
  · exfalso
    have h4 := sz_le4 (l.drop p)
    have : p = a - 1 ∨ p = a - 2 ∨ p = a - 3 := by omega
    rcases this with rfl | rfl | rfl
    · exact h1 ⟨by omega, by omega⟩
    · by_cases e : a - 2 = a - 1
      · exact h1 ⟨by omega, by rw [← e]; omega⟩
      · exact h2 ⟨by omega, by omega⟩
    · by_cases e : a - 3 = a - 2
      · by_cases e' : a - 2 = a - 1
        · exact h1 ⟨by omega, by rw [← e', ← e]; omega⟩
        · exact h2 ⟨by omega, by rw [← e]; omega⟩
      · exact h3 ⟨by omega, by omega⟩
theorem begAt_le (l : List UInt8) (a : Nat) : begAt l a ≤ a ∧ a ≤ begAt l a + 3 := by
  unfold begAt
  repeat' split
  all_goals omega

/-- One character on. -/
theorem bd_next {l : List UInt8} {k : Nat} (h : Bd l k) : Bd l (k + sz (l.drop k)) := fun p hp => by
  by_cases hpk : p < k
  · have := h p hpk; omega
  by_cases hpe : p = k
  · subst hpe; omega
  · have hm : 1 < sz (l.drop k) := by omega
    have h1 := (multi hm).2.1 (p - k) (by omega) (by omega)
    rw [getD_drop, show k + (p - k) = p + 0 from by omega, ← getD_drop] at h1
    by_cases h2 : 1 < sz (l.drop p)
    · have := (multi h2).1; omega
    · omega

/-! Cutting and joining. -/
theorem bd_take {l : List UInt8} {m n : Nat} (h : Bd l m) (_hmn : m ≤ n) : Bd (l.take n) m := fun p hp => by
  have h1 := h p hp
  by_cases hc : p + sz ((l.take n).drop p) ≤ m
  · exact hc
  · exfalso
    have hl := sz_le ((l.take n).drop p)
    have e : l.drop p = (l.take n).drop p ++ l.drop n := by
      by_cases hpl : p ≤ (l.take n).length
      · conv => lhs; rw [← List.take_append_drop n l]
        rw [List.drop_append_of_le_length hpl]
      · simp only [List.length_drop] at hl
        omega
    have hz : sz (l.drop p) = sz ((l.take n).drop p) := by
      by_cases hm : 1 < sz ((l.take n).drop p)
      · unfold sz; rw [e, dec_append_of_multi hm]
      · omega
    omega

/-- The beginning of a text, and one character more. -/
theorem take_next {l : List UInt8} {k : Nat} (h : Bd l k) (hk : k < l.length) :
    nb (l.take (k + sz (l.drop k))) = nb (l.take k) + br (ch (l.drop k)) ∧ nr (l.take (k + sz (l.drop k))) = nr (l.take k) + 1 ∧ nu (l.take (k + sz (l.drop k))) = nu (l.take k) + un (ch (l.drop k)) := by
  have hne : l.drop k ≠ [] := by intro e; have := congrArg List.length e; simp at this; omega
  have hz := sz_le (l.drop k)
  have hp := sz_pos hne
  have e : l.take (k + sz (l.drop k)) = l.take k ++ (l.drop k).take (sz (l.drop k)) := by
    rw [List.take_add]
  have hb : Bd (l.take k ++ (l.drop k).take (sz (l.drop k))) (l.take k).length := by
    rw [← e]
    have := bd_take (n := k + sz (l.drop k)) h (by omega)
    rwa [List.length_take, Nat.min_eq_left (by omega)]
  have hne2 : (l.drop k).take (sz (l.drop k)) ≠ [] := by intro e; have := congrArg List.length e; simp at this; omega
  have hd : dec ((l.drop k).take (sz (l.drop k))) = dec (l.drop k) := by
    have := dec_prefix (a := (l.drop k).take (sz (l.drop k))) (b := (l.drop k).drop (sz (l.drop k))) hne2 (by rw [List.take_append_drop, List.length_take]; omega)
    rwa [List.take_append_drop] at this
  have hs : sz ((l.drop k).take (sz (l.drop k))) = sz (l.drop k) := congrArg Prod.snd hd
  have hc : ch ((l.drop k).take (sz (l.drop k))) = ch (l.drop k) := congrArg Prod.fst hd
  have hr : ((l.drop k).take (sz (l.drop k))).drop (sz (l.drop k)) = [] := by
    apply List.drop_eq_nil_of_le; rw [List.length_take]; omega
  rw [e, nb_append, nr_append hb, nu_append hb, nb_step hne2, nr_step hne2, nu_step hne2, hs, hc, hr]
  exact ⟨rfl, rfl, rfl⟩

/-- Regrouping: from (a b) c to a (b c). -/
theorem bd_assoc_l {a b c : List UInt8} (h1 : Bd (a ++ b) a.length) (h2 : Bd (a ++ b ++ c) (a ++ b).length) : Bd (a ++ (b ++ c)) a.length ∧ Bd (b ++ c) b.length := by
  constructor
  · intro p hp
    rw [← List.append_assoc]
    have k2 := h2 p (by simp; omega)
    have k1 := h1 p hp
    have e : (a ++ b ++ c).drop p = (a ++ b).drop p ++ c := List.drop_append_of_le_length (by simp; omega)
    rw [e] at k2 ⊢
    have hd := dec_prefix (a := (a ++ b).drop p) (b := c) (by intro h; have := congrArg List.length h; simp at this; omega) (by simp only [List.length_drop]; omega)
    unfold sz at k1 ⊢; rw [← hd]; exact k1
  · have := bd_drop (n := a.length) h2 (by simp)
    rw [List.append_assoc, List.drop_left] at this
    simpa using this
/-- Regrouping: from a (b c) to (a b) c. -/
theorem bd_assoc_r {a b c : List UInt8} (h1 : Bd (b ++ c) b.length) (h2 : Bd (a ++ (b ++ c)) a.length) : Bd (a ++ b ++ c) (a ++ b).length ∧ Bd (a ++ b) a.length := by
  constructor
  · intro p hp
    by_cases hpa : p < a.length
    · have := h2 p hpa; rw [← List.append_assoc] at this; rw [List.length_append]; omega
    · have k := h1 (p - a.length) (by simp at hp; omega)
      rw [List.append_assoc]
      have e : (a ++ (b ++ c)).drop p = (b ++ c).drop (p - a.length) := by
        rw [List.drop_append, List.drop_eq_nil_of_le (by omega)]; simp
      rw [e]; simp; omega
  · have := bd_take (n := (a ++ b).length) h2 (by simp)
    rw [← List.append_assoc, List.take_left] at this
    exact this
end M
end Go.Proofs.YtopeagigdgjchaaDoor.Rp
