/- Plain mathematics: a token hangs on its own bytes and on four behind it. -/
import Derived.Test.YtpoipoencbieeaaDoorCb
namespace Go.Proofs.YtpoipoencbieeaaDoor
namespace M
open Go.Lib (decodeN)

theorem decodeN_big {n m : Nat} (a b c d : Nat) (hn : 4 ≤ n) (hm : 4 ≤ m) : decodeN n a b c d = decodeN m a b c d := by
  have e1 : (1 < n) = (1 < m) := propext ⟨fun _ => by omega, fun _ => by omega⟩
  have e2 : (2 < n) = (2 < m) := propext ⟨fun _ => by omega, fun _ => by omega⟩
  have e3 : (3 < n) = (3 < m) := propext ⟨fun _ => by omega, fun _ => by omega⟩
  unfold decodeN
  simp only [e1, e2, e3]
theorem dec_loc {a b : List UInt8} (h : 4 ≤ a.length) : dec (a ++ b) = dec a := by
  unfold dec
  rw [getD_append _ _ _ (by omega), getD_append _ _ _ (by omega), getD_append _ _ _ (by omega), getD_append _ _ _ (by omega), List.length_append, if_neg (by omega), if_neg (by omega)]
  exact decodeN_big _ _ _ _ (by omega) h
theorem cc_loc {a b : List UInt8} (h : 4 ≤ a.length) : cc (a ++ b) = cc a := by
  have h1 : a ≠ [] := by rintro rfl; simp at h
  have h2 : a ++ b ≠ [] := by simp [h1]
  rw [cc_some h1, cc_some h2]; unfold ch; rw [dec_loc h]
theorem sz_loc {a b : List UInt8} (h : 4 ≤ a.length) : sz (a ++ b) = sz a := by unfold sz; rw [dec_loc h]
theorem nx_loc {a b : List UInt8} (h : 4 ≤ a.length) : nx (a ++ b) = nx a ++ b := by
  unfold nx; rw [sz_loc h, List.drop_append_of_le_length (sz_le a)]
theorem nx_lth (a : List UInt8) : (nx a).length = a.length - sz a := by have := nx_len a; omega

theorem skip_loc (p : Int → Bool) (n : Nat) : ∀ a b b' : List UInt8, a.length ≤ n → skip p (a ++ b) + 4 ≤ a.length → skip p (a ++ b') = skip p (a ++ b) := by
  induction n with
  | zero => intro a b b' h1 h2; omega
  | succ n ih =>
    intro a b b' h1 h2
    have h4 : 4 ≤ a.length := by omega
    have hn : a ≠ [] := by rintro rfl; simp at h4
    have hn1 : a ++ b ≠ [] := by simp [hn]
    have hn2 : a ++ b' ≠ [] := by simp [hn]
    have hs := sz_pos hn
    have hl := nx_lth a
    cases hp : p (cc a)
    · rw [skip_no (t := a ++ b) (by rw [cc_loc h4]; exact hp), skip_no (t := a ++ b') (by rw [cc_loc h4]; exact hp)]
    · rw [skip_yes hn1 (by rw [cc_loc h4]; exact hp), nx_loc h4, sz_loc h4] at h2 ⊢
      rw [skip_yes hn2 (by rw [cc_loc h4]; exact hp), nx_loc h4, sz_loc h4, ih (nx a) b b' (by omega) (by omega)]
theorem hexs_loc (n : Nat) : ∀ (c : Int) (a b b' : List UInt8), (hexs n c (a ++ b)).2 + 4 ≤ a.length → hexs n c (a ++ b') = hexs n c (a ++ b) := by
  induction n with
  | zero => intro c a b b' _; rfl
  | succ n ih =>
    intro c a b b' h
    have h4 : 4 ≤ a.length := by omega
    unfold hexs at h ⊢
    rw [cc_loc h4, nx_loc h4] at h ⊢
    rw [cc_loc h4, nx_loc h4]
    by_cases g : 0 ≤ hexOf (cc a)
    · rw [if_pos g] at h ⊢
      rw [if_pos g]
      have g1 := hexOf_ascii g
      have z := sz_cc (t := a) (by omega) (by omega)
      have hl := nx_lth a
      simp only at h
      rw [ih _ (nx a) b b' (by omega)]
    · rw [if_neg g, if_neg g]
theorem code_loc (a b b' : List UInt8) (h : (code (a ++ b)).2.2 + 4 ≤ a.length) : code (a ++ b') = code (a ++ b) := by
  have h4 : 4 ≤ a.length := by omega
  unfold code at h ⊢
  rw [cc_loc h4, nx_loc h4] at h ⊢
  rw [cc_loc h4, nx_loc h4]
  by_cases g : cc a = 123
  · rw [if_pos g] at h ⊢
    rw [if_pos g]
    have z := sz_cc (t := a) (by omega) (by omega)
    have hl := nx_lth a
    have hj : (hexs 6 0 (nx a ++ b)).2 + 4 ≤ (nx a).length := by
      split at h
      · simp only at h; omega
      · simp only at h; omega
    rw [hexs_loc 6 0 (nx a) b b' hj]
    have e : ∀ q : List UInt8, cc ((nx a ++ q).drop (hexs 6 0 (nx a ++ b)).2) = cc ((nx a).drop (hexs 6 0 (nx a ++ b)).2) := by
      intro q
      rw [List.drop_append_of_le_length (by omega)]
      exact cc_loc (by rw [List.length_drop]; omega)
    rw [e b, e b']
  · rw [if_neg g, if_neg g]
theorem taken_loc (a b b' : List UInt8) (h : (taken (a ++ b)).2.2 + 4 ≤ a.length) : taken (a ++ b') = taken (a ++ b) := by
  have h4 : 4 ≤ a.length := by omega
  by_cases hu : cc a = 117
  · have z := sz_cc (t := a) (by omega) (by omega)
    have hl := nx_lth a
    unfold taken at h ⊢
    rw [cc_loc h4, nx_loc h4, if_neg (by omega), if_neg (by omega), if_neg (by omega), if_neg (by omega), if_pos hu] at h ⊢
    rw [cc_loc h4, nx_loc h4, if_neg (by omega), if_neg (by omega), if_neg (by omega), if_neg (by omega), if_pos hu]
    simp only at h
    rw [code_loc (nx a) b b' (by omega)]
  · unfold taken
    rw [cc_loc h4, cc_loc h4, if_neg hu, if_neg hu, sz_loc h4, sz_loc h4]
theorem quo_loc (n : Nat) : ∀ (k : Nat) (a b b' : List UInt8), a.length ≤ n → (quo k (a ++ b)).2 + 4 ≤ a.length → quo k (a ++ b') = quo k (a ++ b) := by
  induction n with
  | zero => intro k a b b' h1 h2; omega
  | succ n ih =>
    intro k a b b' h1 h2
    have h4 : 4 ≤ a.length := by omega
    have hn : a ≠ [] := by rintro rfl; simp at h4
    have hs := sz_pos hn
    have hl := nx_lth a
    have e1 : cc (a ++ b) = cc a := cc_loc h4
    have e2 : cc (a ++ b') = cc a := cc_loc h4
    have e0 : cc a ≠ -1 := fun e => hn (cc_ne.1 e)
    by_cases g10 : cc a = 10
    · rw [quo_end (.inr (e1.trans g10)), quo_end (.inr (e2.trans g10))]
    by_cases g34 : cc a = 34
    · rw [quo_shut (e1.trans g34), quo_shut (e2.trans g34)]
    by_cases g92 : cc a = 92
    · have z := sz_cc (t := a) (by omega) (by omega)
      rw [quo_slash (e1.trans g92), nx_loc h4] at h2 ⊢
      rw [quo_slash (e2.trans g92), nx_loc h4]
      simp only at h2
      have ht := taken_loc (nx a) b b' (by omega)
      rw [ht]
      have d1 : (nx a ++ b).drop (taken (nx a ++ b)).2.2 = (nx a).drop (taken (nx a ++ b)).2.2 ++ b := List.drop_append_of_le_length (by omega)
      have d2 : (nx a ++ b').drop (taken (nx a ++ b)).2.2 = (nx a).drop (taken (nx a ++ b)).2.2 ++ b' := List.drop_append_of_le_length (by omega)
      rw [d1] at h2 ⊢
      rw [d2, ih _ _ b b' (by rw [List.length_drop]; omega) (by rw [List.length_drop]; omega)]
    · rw [quo_on (t := a ++ b) (by rw [e1]; exact e0) (by rw [e1]; exact g10) (by rw [e1]; exact g34) (by rw [e1]; exact g92), nx_loc h4, sz_loc h4] at h2 ⊢
      rw [quo_on (t := a ++ b') (by rw [e2]; exact e0) (by rw [e2]; exact g10) (by rw [e2]; exact g34) (by rw [e2]; exact g92), nx_loc h4, sz_loc h4]
      simp only at h2
      rw [ih k (nx a) b b' (by omega) (by omega)]
theorem nest_loc (n : Nat) : ∀ (d : Nat) (a b b' : List UInt8), a.length ≤ n → (nest d (a ++ b)).2 + 4 ≤ a.length → nest d (a ++ b') = nest d (a ++ b) := by
  induction n with
  | zero => intro k a b b' h1 h2; omega
  | succ n ih =>
    intro k a b b' h1 h2
    have h4 : 4 ≤ a.length := by omega
    have hn : a ≠ [] := by rintro rfl; simp at h4
    have hs := sz_pos hn
    have hl := nx_lth a
    have e1 : cc (a ++ b) = cc a := cc_loc h4
    have e2 : cc (a ++ b') = cc a := cc_loc h4
    have n1 : nx (a ++ b) = nx a ++ b := nx_loc h4
    have n2 : nx (a ++ b') = nx a ++ b' := nx_loc h4
    have e0 : cc a ≠ -1 := fun e => hn (cc_ne.1 e)
    by_cases g : cc a = 123 ∨ cc a = 45
    · have z := sz_cc (t := a) (by omega) (by omega)
      have h5 : 4 ≤ (nx a).length := by
        have : 1 ≤ (nest k (a ++ b)).2 := by
          rcases g with g | g
          · by_cases q : cc (nx (a ++ b)) = 45
            · rw [nest_open (e1.trans g) q]; simp only; omega
            · rw [nest_brace (e1.trans g) q]; simp only; omega
          · by_cases q : cc (nx (a ++ b)) = 125
            · by_cases hd : k ≤ 1
              · rw [nest_last (e1.trans g) q hd]; simp
              · rw [nest_shut (e1.trans g) q hd]; simp only; omega
            · rw [nest_dash (e1.trans g) q]; simp only; omega
        omega
      have hn' : nx a ≠ [] := by intro e; rw [e] at h5; simp at h5
      have hs' := sz_pos hn'
      have hl' := nx_lth (nx a)
      have f1 : cc (nx (a ++ b)) = cc (nx a) := by rw [n1]; exact cc_loc h5
      have f2 : cc (nx (a ++ b')) = cc (nx a) := by rw [n2]; exact cc_loc h5
      have m1 : nx (nx (a ++ b)) = nx (nx a) ++ b := by rw [n1]; exact nx_loc h5
      have m2 : nx (nx (a ++ b')) = nx (nx a) ++ b' := by rw [n2]; exact nx_loc h5
      rcases g with g | g
      · by_cases q : cc (nx a) = 45
        · have z' := sz_cc (t := nx a) (by omega) (by omega)
          rw [nest_open (e1.trans g) (f1.trans q), m1] at h2 ⊢
          rw [nest_open (e2.trans g) (f2.trans q), m2]
          simp only at h2
          rw [ih _ (nx (nx a)) b b' (by omega) (by omega)]
        · rw [nest_brace (e1.trans g) (by rw [f1]; exact q), n1] at h2 ⊢
          rw [nest_brace (e2.trans g) (by rw [f2]; exact q), n2]
          simp only at h2
          rw [ih _ (nx a) b b' (by omega) (by omega)]
      · by_cases q : cc (nx a) = 125
        · have z' := sz_cc (t := nx a) (by omega) (by omega)
          by_cases hd : k ≤ 1
          · rw [nest_last (e1.trans g) (f1.trans q) hd, nest_last (e2.trans g) (f2.trans q) hd]
          · rw [nest_shut (e1.trans g) (f1.trans q) hd, m1] at h2 ⊢
            rw [nest_shut (e2.trans g) (f2.trans q) hd, m2]
            simp only at h2
            rw [ih _ (nx (nx a)) b b' (by omega) (by omega)]
        · rw [nest_dash (e1.trans g) (by rw [f1]; exact q), n1] at h2 ⊢
          rw [nest_dash (e2.trans g) (by rw [f2]; exact q), n2]
          simp only at h2
          rw [ih _ (nx a) b b' (by omega) (by omega)]
    · have g1 : cc a ≠ 123 := fun e => g (.inl e)
      have g2 : cc a ≠ 45 := fun e => g (.inr e)
      rw [nest_on (t := a ++ b) (by rw [e1]; exact e0) (by rw [e1]; exact g1) (by rw [e1]; exact g2), n1, sz_loc h4] at h2 ⊢
      rw [nest_on (t := a ++ b') (by rw [e2]; exact e0) (by rw [e2]; exact g1) (by rw [e2]; exact g2), n2, sz_loc h4]
      simp only at h2
      rw [ih _ (nx a) b b' (by omega) (by omega)]
theorem sz_tok {t : List UInt8} (h : t ≠ []) : sz t ≤ (tok t).2 := by
  have h0 : cc t ≠ -1 := fun e => h (cc_ne.1 e)
  have h1 : 0 ≤ cc t := by have := (cc_le t).1; omega
  unfold tok
  split
  · simp only; omega
  split
  · simp only; omega
  split
  · simp only; omega
  split
  · rename_i g; have := sz_cc (t := t) (by omega) (by omega); simp only; omega
  split
  · rename_i g; have := sz_cc (t := t) (by omega) (by omega); simp only; omega
  split
  · rename_i g; have := sz_cc (t := t) (by omega) (by omega); simp only; omega
  split
  · rename_i g
    unfold isPr at g
    have g := of_decide_eq_true g
    have := sz_cc (t := t) (by omega) (by omega); simp only; omega
  split
  · rename_i g
    unfold isSg at g
    have g := of_decide_eq_true g
    simp only [List.mem_cons, List.not_mem_nil, or_false] at g
    have := sz_cc (t := t) (by omega) (by omega); simp only; omega
  · exact Nat.le_refl _
/-- A token hangs on its own bytes and on four behind it. -/
theorem tok_loc {a b b' : List UInt8} (h : (tok (a ++ b)).2 + 4 ≤ a.length) : tok (a ++ b') = tok (a ++ b) := by
  have h4 : 4 ≤ a.length := by omega
  have hn : a ≠ [] := by rintro rfl; simp at h4
  have hs := sz_tok (t := a ++ b) (by simp [hn])
  rw [sz_loc h4] at hs
  have hl := nx_lth a
  have h5 : 4 ≤ (nx a).length := by omega
  have hl' := nx_lth (nx a)
  have zz := sz_pos hn
  have c2 : ∀ q, cc (nx a ++ q) = cc (nx a) := fun q => cc_loc h5
  have m2 : ∀ q, nx (nx a ++ q) = nx (nx a) ++ q := fun q => nx_loc h5
  unfold tok at h ⊢
  rw [cc_loc h4, nx_loc h4, sz_loc h4, c2, m2] at h ⊢
  rw [cc_loc h4, nx_loc h4, sz_loc h4, c2, m2]
  by_cases g1 : isSp (cc a) = true
  · rw [if_pos g1] at h ⊢
    rw [if_pos g1, skip_loc _ _ (nx a) b b' (Nat.le_refl _) (by simp only at h; omega)]
  rw [if_neg g1] at h ⊢
  rw [if_neg g1]
  by_cases g2 : isLt (cc a) = true
  · rw [if_pos g2] at h ⊢
    simp only at h
    rw [if_pos g2, skip_loc _ _ (nx a) b b' (Nat.le_refl _) (by omega), List.take_append_of_le_length (by omega), List.take_append_of_le_length (by omega)]
  rw [if_neg g2] at h ⊢
  rw [if_neg g2]
  by_cases g3 : isDg (cc a) = true
  · rw [if_pos g3] at h ⊢
    simp only at h
    rw [if_pos g3, skip_loc _ _ (nx a) b b' (Nat.le_refl _) (by omega)]
  rw [if_neg g3] at h ⊢
  rw [if_neg g3]
  by_cases g4 : cc a = 34
  · rw [if_pos g4] at h ⊢
    simp only at h
    have z := sz_cc (t := a) (by omega) (by omega)
    rw [if_pos g4, quo_loc _ 6 (nx a) b b' (Nat.le_refl _) (by omega)]
  rw [if_neg g4] at h ⊢
  rw [if_neg g4]
  by_cases g5 : cc a = 123 ∧ cc (nx a) = 45
  · rw [if_pos g5] at h ⊢
    simp only at h
    have z := sz_cc (t := a) (by omega) (by omega)
    have z' := sz_cc (t := nx a) (by omega) (by omega)
    rw [if_pos g5, nest_loc _ 1 (nx (nx a)) b b' (Nat.le_refl _) (by omega)]
  rw [if_neg g5] at h ⊢
  rw [if_neg g5]
  by_cases g6 : cc a = 45 ∧ cc (nx a) = 45
  · rw [if_pos g6] at h ⊢
    simp only at h
    have z := sz_cc (t := a) (by omega) (by omega)
    rw [if_pos g6, skip_loc _ _ (nx a) b b' (Nat.le_refl _) (by omega)]
  rw [if_neg g6, if_neg g6]
end M
end Go.Proofs.YtpoipoencbieeaaDoor
