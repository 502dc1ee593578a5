/- Plain mathematics of places: there and back. -/
import Derived.Test.YtijikgghakhhaaaDoorWn
namespace Go.Proofs.YtijikgghakhhaaaDoor
open M

theorem nr_pos {m : List UInt8} (h : m ≠ []) : 1 ≤ nr m := by rw [nr_step h]; omega
theorem nu_pos {m : List UInt8} (h : m ≠ []) : 1 ≤ nu m := by rw [nu_step h]; have := (un_le (ch m)).1; omega

theorem take_split {l : List UInt8} {j k : Nat} (hj : Bd l j) (h : j ≤ k) (hk : k ≤ l.length) :
    nb (l.take k) = nb (l.take j) + nb ((l.drop j).take (k - j)) ∧ nr (l.take k) = nr (l.take j) + nr ((l.drop j).take (k - j)) ∧ nu (l.take k) = nu (l.take j) + nu ((l.drop j).take (k - j)) := by
  have e : l.take k = l.take j ++ (l.drop j).take (k - j) := by
    rw [← List.take_add]; congr 1; omega
  have hb : Bd (l.take j ++ (l.drop j).take (k - j)) (l.take j).length := by
    rw [← e, List.length_take, Nat.min_eq_left (by omega)]
    exact bd_take hj h
  rw [e, nb_append, nr_append hb, nu_append hb]
  exact ⟨rfl, rfl, rfl⟩
theorem take_mono {l : List UInt8} {j k : Nat} (hj : Bd l j) (h : j ≤ k) (hk : k ≤ l.length) : nb (l.take j) ≤ nb (l.take k) ∧ nr (l.take j) ≤ nr (l.take k) ∧ nu (l.take j) ≤ nu (l.take k) := by
  have := take_split hj h hk; omega
theorem take_lt {l : List UInt8} {j k : Nat} (hj : Bd l j) (h : j < k) (hk : k ≤ l.length) : nr (l.take j) < nr (l.take k) ∧ nu (l.take j) < nu (l.take k) := by
  have h1 := take_split hj (by omega : j ≤ k) hk
  have hne : (l.drop j).take (k - j) ≠ [] := by intro e; have := congrArg List.length e; simp at this; omega
  have := nr_pos hne; have := nu_pos hne
  omega

/-- How far it fits, is one place. -/
theorem found_unique {l : List UInt8} {fit : Nat → Nat → Nat → Nat → Bool}
    (mono : ∀ j k, Bd l j → j ≤ k → k ≤ l.length → fit k (nb (l.take k)) (nr (l.take k)) (nu (l.take k)) = true → fit j (nb (l.take j)) (nr (l.take j)) (nu (l.take j)) = true)
    {k1 k2 : Nat} (h1 : Found l fit k1) (h2 : Found l fit k2) : k1 = k2 := by
  have key : ∀ a b, Found l fit a → Found l fit b → ¬ a < b := by
    intro a b ha hb hlt
    have hla := hb.le
    have hn := ha.no (by omega)
    have hle := hb.bd a hlt
    have hy := hb.yes (by omega)
    have := mono _ b (bd_next ha.bd) hle hla hy
    rw [hn] at this; cases this
  have := key _ _ h1 h2
  have := key _ _ h2 h1
  omega
theorem mono_nb (l : List UInt8) (x : Int) : ∀ j k, Bd l j → j ≤ k → k ≤ l.length → (fun _ b _ _ => decide ((b : Int) ≤ x) : Nat → Nat → Nat → Nat → Bool) k (nb (l.take k)) (nr (l.take k)) (nu (l.take k)) = true → (fun _ b _ _ => decide ((b : Int) ≤ x) : Nat → Nat → Nat → Nat → Bool) j (nb (l.take j)) (nr (l.take j)) (nu (l.take j)) = true := by
  intro j k hj h hk hy
  have := (take_mono hj h hk).1
  simp only [decide_eq_true_eq] at hy ⊢
  omega
theorem mono_nr (l : List UInt8) (x : Int) : ∀ j k, Bd l j → j ≤ k → k ≤ l.length → (fun _ _ c _ => decide ((c : Int) ≤ x) : Nat → Nat → Nat → Nat → Bool) k (nb (l.take k)) (nr (l.take k)) (nu (l.take k)) = true → (fun _ _ c _ => decide ((c : Int) ≤ x) : Nat → Nat → Nat → Nat → Bool) j (nb (l.take j)) (nr (l.take j)) (nu (l.take j)) = true := by
  intro j k hj h hk hy
  have := (take_mono hj h hk).2.1
  simp only [decide_eq_true_eq] at hy ⊢
  omega
theorem mono_nu (l : List UInt8) (x : Int) : ∀ j k, Bd l j → j ≤ k → k ≤ l.length → (fun _ _ _ d => decide ((d : Int) ≤ x) : Nat → Nat → Nat → Nat → Bool) k (nb (l.take k)) (nr (l.take k)) (nu (l.take k)) = true → (fun _ _ _ d => decide ((d : Int) ≤ x) : Nat → Nat → Nat → Nat → Bool) j (nb (l.take j)) (nr (l.take j)) (nu (l.take j)) = true := by
  intro j k hj h hk hy
  have := (take_mono hj h hk).2.2
  simp only [decide_eq_true_eq] at hy ⊢
  omega

theorem LE.unique {l : List UInt8} {x : Int} {j k : Nat} (h1 : LE l x j) (h2 : LE l x k) : j = k := found_unique (mono_nb l x) h1 h2
theorem LB.unique {l : List UInt8} {x j k : Nat} (h1 : LB l x j) (h2 : LB l x k) : j = k := by
  rcases h1 with ⟨h0, rfl⟩ | ⟨h0, a, ha, rfl⟩
  · rcases h2 with ⟨_, rfl⟩ | ⟨h0', _⟩
    · rfl
    · omega
  · rcases h2 with ⟨h0', _⟩ | ⟨_, b, hb, rfl⟩
    · omega
    · rw [LE.unique ha hb]

/-- A place in a line stands between the line's two ends. -/
theorem between {l : List UInt8} {k b e : Nat} (hk : k ≤ l.length) (hbk : Bd l k) (hb : LB l (nb (l.take k)) b) (he : LE l ((nb (l.take k) : Nat) : Int) e) : b ≤ k ∧ k ≤ e := by
  have hn : nb (l.take k) ≤ nb l := by
    have := nb_append (l.take k) (l.drop k); rw [List.take_append_drop] at this; omega
  constructor
  · rcases hb with ⟨h0, rfl⟩ | ⟨h0, j, hj, rfl⟩
    · omega
    · by_cases h : j < k
      · omega
      · exfalso
        have h1 := (hj.ten (hj.lt (by omega))).1
        have h2 := (take_mono hbk (by omega : k ≤ j) hj.le).1
        omega
  · by_cases h : e < k
    · exfalso
      obtain ⟨h1, h2, h3⟩ := he.ten (by omega)
      have h4 := bd_next he.bd
      have h5 := (take_next he.bd (by omega)).1
      rw [h2] at h4 h5
      have h6 := (take_mono h4 (by omega : e + 1 ≤ k) hk).1
      rw [h5, h3] at h6
      have : br 10 = 1 := rfl
      omega
    · omega

theorem back_units {l : List UInt8} {k b z : Nat} (hk : k ≤ l.length) (hbk : Bd l k) (hb : LB l (nb (l.take k)) b)
    (h : Tell l (fun _ _ _ d => d) (nb (l.take k) : Nat) ((nu (l.take k) : Int) - (nu (l.take b) : Int)) z) : z = k := by
  have hn : nb (l.take k) ≤ nb l := by
    have := nb_append (l.take k) (l.drop k); rw [List.take_append_drop] at this; omega
  rcases h with ⟨h, _⟩ | ⟨h, _⟩ | ⟨_, _, b', e, hb', he, h⟩
  · omega
  · omega
  · rw [Int.toNat_natCast] at hb' he
    obtain rfl := LB.unique hb hb'
    have hbt := between hk hbk hb he
    have hbb := (hb.facts hn).2.1
    have hm := (take_mono hbb hbt.1 hk).2.2
    have hN : (max ((nu (l.take k) : Int) - (nu (l.take b) : Int)) 0).toNat + nu (l.take b) = nu (l.take k) := by omega
    dsimp only at h
    rw [hN] at h
    rcases h with ⟨h, rfl⟩ | ⟨h, hf⟩
    · by_cases hlt : k < z
      · have := (take_lt hbk hlt he.le).2; omega
      · omega
    · refine found_unique (mono_nu l _) hf ⟨hk, hbk, fun _ => by simp, fun hkl => ?_⟩
      have := (take_lt hbk (by have := sz_pos (l := l.drop k) (by intro e; have := congrArg List.length e; simp at this; omega); omega : k < k + sz (l.drop k)) (by have := sz_le (l.drop k); rw [List.length_drop] at this; omega)).2
      simp; omega
theorem back_runes {l : List UInt8} {k b z : Nat} (hk : k ≤ l.length) (hbk : Bd l k) (hb : LB l (nb (l.take k)) b)
    (h : Tell l (fun _ _ c _ => c) (nb (l.take k) : Nat) ((nr (l.take k) : Int) - (nr (l.take b) : Int)) z) : z = k := by
  have hn : nb (l.take k) ≤ nb l := by
    have := nb_append (l.take k) (l.drop k); rw [List.take_append_drop] at this; omega
  rcases h with ⟨h, _⟩ | ⟨h, _⟩ | ⟨_, _, b', e, hb', he, h⟩
  · omega
  · omega
  · rw [Int.toNat_natCast] at hb' he
    obtain rfl := LB.unique hb hb'
    have hbt := between hk hbk hb he
    have hbb := (hb.facts hn).2.1
    have hm := (take_mono hbb hbt.1 hk).2.1
    have hN : (max ((nr (l.take k) : Int) - (nr (l.take b) : Int)) 0).toNat + nr (l.take b) = nr (l.take k) := by omega
    dsimp only at h
    rw [hN] at h
    rcases h with ⟨h, rfl⟩ | ⟨h, hf⟩
    · by_cases hlt : k < z
      · have := (take_lt hbk hlt he.le).1; omega
      · omega
    · refine found_unique (mono_nr l _) hf ⟨hk, hbk, fun _ => by simp, fun hkl => ?_⟩
      have := (take_lt hbk (by have := sz_pos (l := l.drop k) (by intro e; have := congrArg List.length e; simp at this; omega); omega : k < k + sz (l.drop k)) (by have := sz_le (l.drop k); rw [List.length_drop] at this; omega)).1
      simp; omega

/-- The character in which a byte stands. -/
theorem found_at {l : List UInt8} {x : Int} {k : Nat} (h : Found l (fun a _ _ _ => decide ((a : Int) ≤ x)) k) :
    ((l.length : Int) ≤ max x 0 → k = l.length) ∧ (max x 0 < (l.length : Int) → k < l.length ∧ (k : Int) ≤ max x 0 ∧ max x 0 < (k : Int) + (sz (l.drop k) : Int)) := by
  have hle := h.le
  constructor
  · intro hx
    by_cases hk : k < l.length
    · have hn := h.no hk
      have hz := sz_le (l.drop k)
      rw [List.length_drop] at hz
      simp only [decide_eq_false_iff_not] at hn
      omega
    · omega
  · intro hx
    have hk : k < l.length := by
      by_cases hk : k < l.length
      · exact hk
      · have hy := h.yes (by omega)
        simp only [decide_eq_true_eq] at hy
        omega
    have hn := h.no hk
    simp only [decide_eq_false_iff_not] at hn
    have hp := sz_pos (l := l.drop k) (by intro e; have := congrArg List.length e; simp at this; omega)
    refine ⟨hk, ?_, by omega⟩
    by_cases h0 : 0 < k
    · have hy := h.yes h0
      simp only [decide_eq_true_eq] at hy
      omega
    · omega
end Go.Proofs.YtijikgghakhhaaaDoor
