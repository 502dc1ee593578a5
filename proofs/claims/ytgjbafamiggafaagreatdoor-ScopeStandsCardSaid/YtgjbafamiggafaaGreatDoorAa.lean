/- Plain mathematics: a token hangs on its own bytes and on four behind it. -/
import Derived.Test.YtgjbafamiggafaaGreatDoorCb
namespace Go.Proofs.YtgjbafamiggafaaGreatDoor
namespace M
open Go.Lib (decodeN)

theorem decodeN_big {n m : Nat} (a b c d : Nat) (hn : 4 ≤ n) (hm : 4 ≤ m) : decodeN n a b c d = decodeN m a b c d := by
  have e1 : (1 < n) = (1 < m) := propext ⟨fun _ => by omega, fun _ => by omega⟩
  have e2 : (2 < n) = (2 < m) := propext ⟨fun _ => by omega, fun _ => by omega⟩
  have e3 : (3 < n) = (3 < m) := propext ⟨fun _ => by omega, fun _ => by omega⟩
  unfold decodeN
  simp only [e1, e2, e3]
theorem dec_loc {a b : List UInt8} (h : 4 ≤ a.length) : dec (a ++ b) = dec a := by
  unfold dec
  rw [getD_append _ _ _ (by omega), getD_append _ _ _ (by omega), getD_append _ _ _ (by omega), getD_append _ _ _ (by omega), List.length_append, if_neg (by omega), if_neg (by omega)]
  exact decodeN_big _ _ _ _ (by omega) h
theorem cc_loc {a b : List UInt8} (h : 4 ≤ a.length) : cc (a ++ b) = cc a := by
  have h1 : a ≠ [] := by rintro rfl; simp at h
  have h2 : a ++ b ≠ [] := by simp [h1]
  rw [cc_some h1, cc_some h2]; unfold ch; rw [dec_loc h]
theorem sz_loc {a b : List UInt8} (h : 4 ≤ a.length) : sz (a ++ b) = sz a := by unfold sz; rw [dec_loc h]
theorem nx_loc {a b : List UInt8} (h : 4 ≤ a.length) : nx (a ++ b) = nx a ++ b := by
  unfold nx; rw [sz_loc h, List.drop_append_of_le_length (sz_le a)]
theorem nx_lth (a : List UInt8) : (nx a).length = a.length - sz a := by have := nx_len a; omega

theorem skip_loc (p : Int → Bool) (n : Nat) : ∀ a b b' : List UInt8, a.length ≤ n → skip p (a ++ b) + 4 ≤ a.length → skip p (a ++ b') = skip p (a ++ b) := by
  induction n with
  | zero => intro a b b' h1 h2; omega
  | succ n ih =>
    intro a b b' h1 h2
    have h4 : 4 ≤ a.length := by omega
    have hn : a ≠ [] := by rintro rfl; simp at h4
    have hn1 : a ++ b ≠ [] := by simp [hn]
    have hn2 : a ++ b' ≠ [] := by simp [hn]
    have hs := sz_pos hn
    have hl := nx_lth a
    cases hp : p (cc a)
    · rw [skip_no (t := a ++ b) (by rw [cc_loc h4]; exact hp), skip_no (t := a ++ b') (by rw [cc_loc h4]; exact hp)]
    · rw [skip_yes hn1 (by rw [cc_loc h4]; exact hp), nx_loc h4, sz_loc h4] at h2 ⊢
      rw [skip_yes hn2 (by rw [cc_loc h4]; exact hp), nx_loc h4, sz_loc h4, ih (nx a) b b' (by omega) (by omega)]
theorem hexs_loc (n : Nat) : ∀ (c : Int) (a b b' : List UInt8), (hexs n c (a ++ b)).2 + 4 ≤ a.length → hexs n c (a ++ b') = hexs n c (a ++ b) := by
  induction n with
  | zero => intro c a b b' _; rfl
  | succ n ih =>
    intro c a b b' h
    have h4 : 4 ≤ a.length := by omega
    unfold hexs at h ⊢
    rw [cc_loc h4, nx_loc h4] at h ⊢
    rw [cc_loc h4, nx_loc h4]
    by_cases g : 0 ≤ hexOf (cc a)
    · rw [if_pos g] at h ⊢
      rw [if_pos g]
      have g1 := hexOf_ascii g
      have z := sz_cc (t := a) (by omega) (by omega)
      have hl := nx_lth a
      simp only at h
      rw [ih _ (nx a) b b' (by omega)]
    · rw [if_neg g, if_neg g]
theorem code_loc (a b b' : List UInt8) (h : (code (a ++ b)).2.2 + 4 ≤ a.length) : code (a ++ b') = code (a ++ b) := by
  have h4 : 4 ≤ a.length := by omega
  unfold code at h ⊢
  rw [cc_loc h4, nx_loc h4] at h ⊢
  rw [cc_loc h4, nx_loc h4]
  by_cases g : cc a = 123
  · rw [if_pos g] at h ⊢
    rw [if_pos g]
    have z := sz_cc (t := a) (by omega) (by omega)
    have hl := nx_lth a
    have hj : (hexs 6 0 (nx a ++ b)).2 + 4 ≤ (nx a).length := by
      split at h
      · simp only at h; omega
      · simp only at h; omega
    rw [hexs_loc 6 0 (nx a) b b' hj]
    have e : ∀ q : List UInt8, cc ((nx a ++ q).drop (hexs 6 0 (nx a ++ b)).2) = cc ((nx a).drop (hexs 6 0 (nx a ++ b)).2) := by
      intro q
      rw [List.drop_append_of_le_length (by omega)]
      exact cc_loc (by rw [List.length_drop]; omega)
    rw [e b, e b']
  · rw [if_neg g, if_neg g]
theorem taken_loc (a b b' : List UInt8) (h : (taken (a ++ b)).2.2 + 4 ≤ a.length) : taken (a ++ b') = taken (a ++ b) := by
  have h4 : 4 ≤ a.length := by omega
  by_cases hu : cc a = 117
  · have z := sz_cc (t := a) (by omega) (by omega)
    have hl := nx_lth a
    unfold taken at h ⊢
    rw [cc_loc h4, nx_loc h4, if_neg (by omega), if_neg (by omega), if_neg (by omega), if_neg (by omega), if_pos hu] at h ⊢
    rw [cc_loc h4, nx_loc h4, if_neg (by omega), if_neg (by omega), if_neg (by omega), if_neg (by omega), if_pos hu]
    simp only at h
    rw [code_loc (nx a) b b' (by omega)]
  · unfold taken
    rw [cc_loc h4, cc_loc h4, if_neg hu, if_neg hu, sz_loc h4, sz_loc h4]
theorem quo_loc (n : Nat) : ∀ (k : Nat) (a b b' : List UInt8), a.length ≤ n → (quo k (a ++ b)).2 + 4 ≤ a.length → quo k (a ++ b') = quo k (a ++ b) := by
  induction n with
  | zero => intro k a b b' h1 h2; omega
  | succ n ih =>
    intro k a b b' h1 h2
    have h4 : 4 ≤ a.length := by omega
    have hn : a ≠ [] := by rintro rfl; simp at h4
    have hs := sz_pos hn
    have hl := nx_lth a
    have e1 : cc (a ++ b) = cc a := cc_loc h4
    have e2 : cc (a ++ b') = cc a := cc_loc h4
    have e0 : cc a ≠ -1 := fun e => hn (cc_ne.1 e)
    by_cases g10 : cc a = 10
    · rw [quo_end (.inr (e1.trans g10)), quo_end (.inr (e2.trans g10))]
    by_cases g34 : cc a = 34
    · rw [quo_shut (e1.trans g34), quo_shut (e2.trans g34)]
    by_cases g92 : cc a = 92
    · have z := sz_cc (t := a) (by omega) (by omega)
      rw [quo_slash (e1.trans g92), nx_loc h4] at h2 ⊢
      rw [quo_slash (e2.trans g92), nx_loc h4]
      simp only at h2
      have ht := taken_loc (nx a) b b' (by omega)
      rw [ht]
      have d1 : (nx a ++ b).drop (taken (nx a ++ b)).2.2 = (nx a).drop (taken (nx a ++ b)).2.2 ++ b := List.drop_append_of_le_length (by omega)
      have d2 : (nx a ++ b').drop (taken (nx a ++ b)).2.2 = (nx a).drop (taken (nx a ++ b)).2.2 ++ b' := List.drop_append_of_le_length (by omega)
      rw [d1] at h2 ⊢
      rw [d2, ih _ _ b b' (by rw [List.length_drop]; omega) (by rw [List.length_drop]; omega)]
    · rw [quo_on (t := a ++ b) (by rw [e1]; exact e0) (by rw [e1]; exact g10) (by rw [e1]; exact g34) (by rw [e1]; exact g92), nx_loc h4, sz_loc h4] at h2 ⊢
      rw [quo_on (t := a ++ b') (by rw [e2]; exact e0) (by rw [e2]; exact g10) (by rw [e2]; exact g34) (by rw [e2]; exact g92), nx_loc h4, sz_loc h4]
      simp only at h2
      rw [ih k (nx a) b b' (by omega) (by omega)]
theorem nest_loc (n : Nat) : ∀ (d : Nat) (a b b' : List UInt8), a.length ≤ n → (nest d (a ++ b)).2 + 4 ≤ a.length → nest d (a ++ b') = nest d (a ++ b) := by
  induction n with
  | zero => intro k a b b' h1 h2; omega
  | succ n ih =>
    intro k a b b' h1 h2
    have h4 : 4 ≤ a.length := by omega
    have hn : a ≠ [] := by rintro rfl; simp at h4
    have hs := sz_pos hn
    have hl := nx_lth a
    have e1 : cc (a ++ b) = cc a := cc_loc h4
    have e2 : cc (a ++ b') = cc a := cc_loc h4
    have n1 : nx (a ++ b) = nx a ++ b := nx_loc h4
    have n2 : nx (a ++ b') = nx a ++ b' := nx_loc h4
    have e0 : cc a ≠ -1 := fun e => hn (cc_ne.1 e)
    by_cases g : cc a = 123 ∨ cc a = 45
    · have z := sz_cc (t := a) (by omega) (by omega)
      have h5 : 4 ≤ (nx a).length := by
        have : 1 ≤ (nest k (a ++ b)).2 := by
          rcases g with g | g
          · by_cases q : cc (nx (a ++ b)) = 45
            · rw [nest_open (e1.trans g) q]; simp only; omega
            · rw [nest_brace (e1.trans g) q]; simp only; omega
          · by_cases q : cc (nx (a ++ b)) = 125
            · by_cases hd : k ≤ 1
              · rw [nest_last (e1.trans g) q hd]; simp
              · rw [nest_shut (e1.trans g) q hd]; simp only; omega
            · rw [nest_dash (e1.trans g) q]; simp only; omega
        omega
      have hn' : nx a ≠ [] := by intro e; rw [e] at h5; simp at h5
      have hs' := sz_pos hn'
      have hl' := nx_lth (nx a)
      have f1 : cc (nx (a ++ b)) = cc (nx a) := by rw [n1]; exact cc_loc h5
      have f2 : cc (nx (a ++ b')) = cc (nx a) := by rw [n2]; exact cc_loc h5
      have m1 : nx (nx (a ++ b)) = nx (nx a) ++ b := by rw [n1]; exact nx_loc h5
      have m2 : nx (nx (a ++ b')) = nx (nx a) ++ b' := by rw [n2]; exact nx_loc h5
      rcases g with g | g
      · by_cases q : cc (nx a) = 45
        · have z' := sz_cc (t := nx a) (by omega) (by omega)
          rw [nest_open (e1.trans g) (f1.trans q), m1] at h2 ⊢
          rw [nest_open (e2.trans g) (f2.trans q), m2]
          simp only at h2
          rw [ih _ (nx (nx a)) b b' (by omega) (by omega)]
        · rw [nest_brace (e1.trans g) (by rw [f1]; exact q), n1] at h2 ⊢
          rw [nest_brace (e2.trans g) (by rw [f2]; exact q), n2]
          simp only at h2
          rw [ih _ (nx a) b b' (by omega) (by omega)]
      · by_cases q : cc (nx a) = 125
        · have z' := sz_cc (t := nx a) (by omega) (by omega)
          by_cases hd : k ≤ 1
          · rw [nest_last (e1.trans g) (f1.trans q) hd, nest_last (e2.trans g) (f2.trans q) hd]
          · rw [nest_shut (e1.trans g) (f1.trans q) hd, m1] at h2 ⊢
            rw [nest_shut (e2.trans g) (f2.trans q) hd, m2]
            simp only at h2
            rw [ih _ (nx (nx a)) b b' (by omega) (by omega)]
        · rw [nest_dash (e1.trans g) (by rw [f1]; exact q), n1] at h2 ⊢
          rw [nest_dash (e2.trans g) (by rw [f2]; exact q), n2]
          simp only at h2
          rw [ih _ (nx a) b b' (by omega) (by omega)]
    · have g1 : cc a ≠ 123 := fun e => g (.inl e)
      have g2 : cc a ≠ 45 := fun e => g (.inr e)
      rw [nest_on (t := a ++ b) (by rw [e1]; exact e0) (by rw [e1]; exact g1) (by rw [e1]; exact g2), n1, sz_loc h4] at h2 ⊢
      rw [nest_on (t := a ++ b') (by rw [e2]; exact e0) (by rw [e2]; exact g1) (by rw [e2]; exact g2), n2, sz_loc h4]
      simp only at h2
      rw [ih _ (nx a) b b' (by omega) (by omega)]
theorem sz_tok {t : List UInt8} (h : t ≠ []) : sz t ≤ (tok t).2 := by
  have h0 : cc t ≠ -1 := fun e => h (cc_ne.1 e)
  have h1 : 0 ≤ cc t := by have := (cc_le t).1; omega
  unfold tok
  split
  · simp only; omega
  split
  · simp only; omega
  split
  · simp only; omega
  split
  · rename_i g; have := sz_cc (t := t) (by omega) (by omega); simp only; omega
  split
  · rename_i g; have := sz_cc (t := t) (by omega) (by omega); simp only; omega
  split
  · rename_i g; have := sz_cc (t := t) (by omega) (by omega); simp only; omega
  split
  · rename_i g
    unfold isPr at g
    have g := of_decide_eq_true g
    have := sz_cc (t := t) (by omega) (by omega); simp only; omega
  split
  · rename_i g
    unfold isSg at g
    have g := of_decide_eq_true g
    simp only [List.mem_cons, List.not_mem_nil, or_false] at g
    have := sz_cc (t := t) (by omega) (by omega); simp only; omega
  · exact Nat.le_refl _
/-- A token hangs on its own bytes and on four behind it. -/
theorem tok_loc {a b b' : List UInt8} (h : (tok (a ++ b)).2 + 4 ≤ a.length) : tok (a ++ b') = tok (a ++ b) := by
  have h4 : 4 ≤ a.length := by omega
  have hn : a ≠ [] := by rintro rfl; simp at h4
  have hs := sz_tok (t := a ++ b) (by simp [hn])
  rw [sz_loc h4] at hs
  have hl := nx_lth a
  have h5 : 4 ≤ (nx a).length := by omega
  have hl' := nx_lth (nx a)
  have zz := sz_pos hn
  have c2 : ∀ q, cc (nx a ++ q) = cc (nx a) := fun q => cc_loc h5
  have m2 : ∀ q, nx (nx a ++ q) = nx (nx a) ++ q := fun q => nx_loc h5
  unfold tok at h ⊢
  rw [cc_loc h4, nx_loc h4, sz_loc h4, c2, m2] at h ⊢
  rw [cc_loc h4, nx_loc h4, sz_loc h4, c2, m2]
  by_cases g1 : isSp (cc a) = true
  · rw [if_pos g1] at h ⊢
    rw [if_pos g1, skip_loc _ _ (nx a) b b' (Nat.le_refl _) (by simp only at h; omega)]
  rw [if_neg g1] at h ⊢
  rw [if_neg g1]
  by_cases g2 : isLt (cc a) = true
  · rw [if_pos g2] at h ⊢
    simp only at h
    rw [if_pos g2, skip_loc _ _ (nx a) b b' (Nat.le_refl _) (by omega), List.take_append_of_le_length (by omega), List.take_append_of_le_length (by omega)]
  rw [if_neg g2] at h ⊢
  rw [if_neg g2]
  by_cases g3 : isDg (cc a) = true
  · rw [if_pos g3] at h ⊢
    simp only at h
    rw [if_pos g3, skip_loc _ _ (nx a) b b' (Nat.le_refl _) (by omega)]
  rw [if_neg g3] at h ⊢
  rw [if_neg g3]
  by_cases g4 : cc a = 34
  · rw [if_pos g4] at h ⊢
    simp only at h
    have z := sz_cc (t := a) (by omega) (by omega)
    rw [if_pos g4, quo_loc _ 6 (nx a) b b' (Nat.le_refl _) (by omega)]
  rw [if_neg g4] at h ⊢
  rw [if_neg g4]
  by_cases g5 : cc a = 123 ∧ cc (nx a) = 45
  · rw [if_pos g5] at h ⊢
    simp only at h
    have z := sz_cc (t := a) (by omega) (by omega)
    have z' := sz_cc (t := nx a) (by omega) (by omega)
    rw [if_pos g5, nest_loc _ 1 (nx (nx a)) b b' (Nat.le_refl _) (by omega)]
  rw [if_neg g5] at h ⊢
  rw [if_neg g5]
  by_cases g6 : cc a = 45 ∧ cc (nx a) = 45
  · rw [if_pos g6] at h ⊢
    simp only at h
    have z := sz_cc (t := a) (by omega) (by omega)
    rw [if_pos g6, skip_loc _ _ (nx a) b b' (Nat.le_refl _) (by omega)]
  rw [if_neg g6, if_neg g6]
end M
end Go.Proofs.YtgjbafamiggafaaGreatDoor
/- Plain mathematics: the tokens of a text in which a piece is replaced. -/
namespace Go.Proofs.YtgjbafamiggafaaGreatDoor
namespace M

/-- A token elsewhere. -/
def mv (g : Int) (t : Tk) : Tk := ⟨t.kind, ((t.pos : Int) + g).toNat, t.len⟩
theorem toks_mv (n : Nat) : ∀ (g : Int) (p q : Nat) (t : List UInt8), t.length ≤ n → (q : Int) = p + g → toks q t = (toks p t).map (mv g) := by
  induction n with
  | zero =>
    intro g p q t h _
    have : t = [] := List.length_eq_zero_iff.1 (by omega)
    subst this; rw [toks_nil, toks_nil]; rfl
  | succ n ih =>
    intro g p q t h e
    by_cases h0 : t = []
    · subst h0; rw [toks_nil, toks_nil]; rfl
    · have hb := tok_bounds h0
      rw [toks_cons h0, toks_cons (a := p) h0, List.map_cons, ih g (p + (tok t).2) (q + (tok t).2) _ (by rw [List.length_drop]; omega) (by omega)]
      congr 1
      unfold mv; congr 1; simp only; omega
/-- The tokens that begin at a place or behind it. -/
def beg (c : Int) (L : List Tk) : List Tk := L.dropWhile (fun t => decide ((t.pos : Int) < c))
theorem toks_ge (n : Nat) : ∀ (p : Nat) (t : List UInt8), t.length ≤ n → ∀ k ∈ toks p t, p ≤ k.pos ∧ k.pos + k.len ≤ p + t.length ∧ 1 ≤ k.len := by
  induction n with
  | zero =>
    intro p t h k hk
    have : t = [] := List.length_eq_zero_iff.1 (by omega)
    subst this; rw [toks_nil] at hk; cases hk
  | succ n ih =>
    intro p t h k hk
    by_cases h0 : t = []
    · subst h0; rw [toks_nil] at hk; cases hk
    · have hb := tok_bounds h0
      rw [toks_cons h0] at hk
      rcases List.mem_cons.1 hk with rfl | hk
      · simp only; omega
      · have := ih _ _ (by rw [List.length_drop]; omega) k hk
        rw [List.length_drop] at this; omega
theorem beg_form (n : Nat) : ∀ (p : Nat) (t : List UInt8) (c : Int), t.length ≤ n → ∃ q, p ≤ q ∧ q ≤ p + t.length ∧ beg c (toks p t) = toks q (t.drop (q - p)) ∧ (c ≤ (q : Int) ∨ q = p + t.length) := by
  induction n with
  | zero =>
    intro p t c h
    have : t = [] := List.length_eq_zero_iff.1 (by omega)
    subst this
    exact ⟨p, Nat.le_refl _, by simp, by simp [toks_nil, beg], .inr (by simp)⟩
  | succ n ih =>
    intro p t c h
    by_cases h0 : t = []
    · subst h0
      exact ⟨p, Nat.le_refl _, by simp, by simp [toks_nil, beg], .inr (by simp)⟩
    · have hb := tok_bounds h0
      by_cases hc : (p : Int) < c
      · obtain ⟨q, h1, h2, h3, h4⟩ := ih (p + (tok t).2) (t.drop (tok t).2) c (by rw [List.length_drop]; omega)
        rw [List.length_drop] at h2 h4
        refine ⟨q, by omega, by omega, ?_, by omega⟩
        rw [toks_cons h0]
        unfold beg at h3 ⊢
        rw [List.dropWhile_cons_of_pos (by simpa using hc), h3, List.drop_drop]
        congr 2; omega
      · refine ⟨p, Nat.le_refl _, by omega, ?_, .inl (by omega)⟩
        rw [Nat.sub_self, List.drop_zero]
        rw [toks_cons h0]
        unfold beg
        rw [List.dropWhile_cons_of_neg (by simpa using hc)]
theorem beg_beg {c c' : Int} (h : c ≤ c') : ∀ L : List Tk, beg c' (beg c L) = beg c' L
  | [] => rfl
  | t :: L => by
    by_cases h1 : (t.pos : Int) < c
    · have e1 : beg c (t :: L) = beg c L := by unfold beg; exact List.dropWhile_cons_of_pos (by simpa using h1)
      have e2 : beg c' (t :: L) = beg c' L := by unfold beg; exact List.dropWhile_cons_of_pos (by simp; omega)
      rw [e1, e2, beg_beg h L]
    · have e1 : beg c (t :: L) = t :: L := by unfold beg; exact List.dropWhile_cons_of_neg (by simpa using h1)
      rw [e1]
theorem beg_mem {c : Int} {L : List Tk} {k : Tk} (hk : k ∈ L) (hc : c ≤ (k.pos : Int)) : k ∈ beg c L := by
  induction L with
  | nil => cases hk
  | cons t L ih =>
    by_cases h1 : (t.pos : Int) < c
    · have e1 : beg c (t :: L) = beg c L := by unfold beg; exact List.dropWhile_cons_of_pos (by simpa using h1)
      rw [e1]
      rcases List.mem_cons.1 hk with rfl | hk
      · omega
      · exact ih hk
    · have e1 : beg c (t :: L) = t :: L := by unfold beg; exact List.dropWhile_cons_of_neg (by simpa using h1)
      rw [e1]; exact hk
theorem beg_sub {c : Int} {L : List Tk} {k : Tk} (hk : k ∈ beg c L) : k ∈ L := (List.dropWhile_sublist _).subset hk

/-- What is read anew, and what stays behind it. -/
def anw (g : Int) (old : List Tk) (a : Nat) (t : List UInt8) : List Tk × List Tk :=
  if _h : t = [] then ([], beg (a - g) old)
  else if (beg (a - g) old).head?.map (fun k => (k.pos : Int)) = some (a - g) then ([], beg (a - g) old)
  else (⟨(tok t).1, a, (tok t).2⟩ :: (anw g (beg (a - g) old) (a + (tok t).2) (t.drop (tok t).2)).1, (anw g (beg (a - g) old) (a + (tok t).2) (t.drop (tok t).2)).2)
termination_by t.length
decreasing_by
  all_goals
    have := tok_bounds _h
    simp only [List.length_drop]; omega
theorem anw_end {g : Int} {old : List Tk} {a : Nat} : anw g old a [] = ([], beg (a - g) old) := by rw [anw]; simp
theorem anw_stop {g : Int} {old : List Tk} {a : Nat} {t : List UInt8} (h : (beg (a - g) old).head?.map (fun k => (k.pos : Int)) = some (a - g)) : anw g old a t = ([], beg (a - g) old) := by
  rw [anw]; split
  · rfl
  · first | rfl | rw [if_pos h]
theorem anw_on {g : Int} {old : List Tk} {a : Nat} {t : List UInt8} (h0 : t ≠ []) (h : (beg (a - g) old).head?.map (fun k => (k.pos : Int)) ≠ some (a - g)) :
    anw g old a t = (⟨(tok t).1, a, (tok t).2⟩ :: (anw g (beg (a - g) old) (a + (tok t).2) (t.drop (tok t).2)).1, (anw g (beg (a - g) old) (a + (tok t).2) (t.drop (tok t).2)).2) := by
  conv => lhs; rw [anw]
  rw [dif_neg h0, if_neg h]

/-- Two texts that are the same behind a place. -/
structure Same (T N : List UInt8) (to : Nat) (g : Int) : Prop where
  len : (N.length : Int) = T.length + g
  le : to ≤ T.length
  same : ∀ (q r : Nat), to ≤ q → (r : Int) = q + g → N.drop r = T.drop q

theorem anw_toks {T N : List UInt8} {to : Nat} {g : Int} (hS : Same T N to g) (n : Nat) : ∀ (q a : Nat), to ≤ q → (N.drop a).length ≤ n →
    toks a (N.drop a) = (anw g (toks q (T.drop q)) a (N.drop a)).1 ++ (anw g (toks q (T.drop q)) a (N.drop a)).2.map (mv g) := by
  induction n with
  | zero =>
    intro q a hq hn
    have h0 : N.drop a = [] := List.length_eq_zero_iff.1 (by omega)
    obtain ⟨q', h1, h2, h3, h4⟩ := beg_form _ q (T.drop q) (a - g) (Nat.le_refl _)
    rw [h0, anw_end, toks_nil, h3, List.drop_drop]
    have hl := hS.len
    have ht := hS.le
    rw [List.drop_eq_nil_iff] at h0
    rw [List.length_drop] at h2 h4
    rw [show T.drop (q + (q' - q)) = [] by rw [List.drop_eq_nil_iff]; omega, toks_nil]; rfl
  | succ n ih =>
    intro q a hq hn
    obtain ⟨q', h1, h2, h3, h4⟩ := beg_form _ q (T.drop q) (a - g) (Nat.le_refl _)
    rw [List.drop_drop, show q + (q' - q) = q' by omega] at h3
    have hl := hS.len
    have ht := hS.le
    rw [List.length_drop] at h2 h4
    by_cases h0 : N.drop a = []
    · rw [h0, anw_end, toks_nil, h3]
      rw [List.drop_eq_nil_iff] at h0
      rw [show T.drop q' = [] by rw [List.drop_eq_nil_iff]; omega, toks_nil]; rfl
    · by_cases hs : (beg (a - g) (toks q (T.drop q))).head?.map (fun k => (k.pos : Int)) = some (a - g)
      · rw [anw_stop hs, h3]
        rw [h3] at hs
        by_cases hq0 : T.drop q' = []
        · rw [hq0, toks_nil] at hs; cases hs
        · rw [toks_cons hq0] at hs
          have e : (q' : Int) = a - g := by simpa using hs
          rw [hS.same q' a (by omega) (by omega), List.nil_append]
          exact toks_mv _ g q' a _ (Nat.le_refl _) (by omega)
      · have hb := tok_bounds h0
        rw [List.length_drop] at hn
        rw [anw_on h0 hs, toks_cons h0, h3, List.drop_drop]
        have := ih q' (a + (tok (N.drop a)).2) (by omega) (by rw [List.length_drop]; have := List.length_pos_iff.2 h0; rw [List.length_drop] at this; omega)
        rw [this]; rfl

/-- The document's count of what is read anew. -/
def cnt (g : Int) (L : List Tk) (to : Nat) (a : Nat) (t : List UInt8) : Nat :=
  if _h : t = [] then 0 else if (to : Int) ≤ a - g ∧ ∃ k ∈ L, (k.pos : Int) = a - g then 0 else 1 + cnt g L to (a + (tok t).2) (t.drop (tok t).2)
termination_by t.length
decreasing_by
  all_goals
    have := tok_bounds _h
    simp only [List.length_drop]; omega
theorem stop_iff {T : List UInt8} {to : Nat} {c v : Int} (h1 : (to : Int) ≤ c) (h2 : c ≤ v ∨ c = to) :
    (beg v (beg c (toks 0 T))).head?.map (fun k => (k.pos : Int)) = some v ↔ (to : Int) ≤ v ∧ ∃ k ∈ toks 0 T, (k.pos : Int) = v := by
  obtain ⟨q, a1, a2, a3, a4⟩ := beg_form _ 0 T c (Nat.le_refl _)
  simp only [Nat.sub_zero, Nat.zero_add] at a2 a3 a4
  obtain ⟨q', b1, b2, b3, b4⟩ := beg_form _ q (T.drop q) v (Nat.le_refl _)
  rw [List.drop_drop, show q + (q' - q) = q' by omega] at b3
  rw [List.length_drop] at b2 b4
  constructor
  · intro h
    rw [a3, b3] at h
    by_cases hq0 : T.drop q' = []
    · rw [hq0, toks_nil] at h; cases h
    · have hm : ∀ k ∈ toks q' (T.drop q'), k ∈ toks 0 T := fun k hk => beg_sub (c := c) (by rw [a3]; exact beg_sub (c := v) (by rw [b3]; exact hk))
      have hlt : q' < T.length := by
        rcases Nat.lt_or_ge q' T.length with g | g
        · exact g
        · exact absurd (List.drop_eq_nil_iff.2 g) hq0
      rw [toks_cons hq0] at h hm
      have e : (q' : Int) = v := by simpa using h
      exact ⟨by omega, _, hm _ (List.mem_cons_self ..), e⟩
  · rintro ⟨h, k, hk, e⟩
    have hcv : c ≤ v := by omega
    have hk1 : k ∈ toks q' (T.drop q') := by rw [← b3, ← a3, beg_beg hcv]; exact beg_mem hk (by omega)
    have hk2 := toks_ge _ _ _ (Nat.le_refl _) k hk1
    have hk3 := toks_ge _ _ _ (Nat.le_refl _) k hk
    rw [a3, b3]
    by_cases hq0 : T.drop q' = []
    · rw [hq0, toks_nil] at hk1; cases hk1
    · rw [toks_cons hq0]
      simp only [List.head?_cons, Option.map_some, Option.some.injEq]
      omega
theorem cnt_anw {T N : List UInt8} {to : Nat} {g : Int} (n : Nat) : ∀ (c : Int) (a : Nat), (to : Int) ≤ c → (c ≤ a - g ∨ c = to) → (N.drop a).length ≤ n →
    cnt g (toks 0 T) to a (N.drop a) = (anw g (beg c (toks 0 T)) a (N.drop a)).1.length := by
  induction n with
  | zero =>
    intro c a _ _ hn
    have h0 : N.drop a = [] := List.length_eq_zero_iff.1 (by omega)
    rw [h0, anw_end, cnt]; simp
  | succ n ih =>
    intro c a h1 h2 hn
    by_cases h0 : N.drop a = []
    · rw [h0, anw_end, cnt]; simp
    · have hi := stop_iff (T := T) (v := (a : Int) - g) h1 h2
      by_cases hs : (beg (a - g) (beg c (toks 0 T))).head?.map (fun k => (k.pos : Int)) = some (a - g)
      · rw [anw_stop hs, cnt, dif_neg h0, if_pos (hi.1 hs)]; rfl
      · have hb := tok_bounds h0
        have hp := List.length_pos_iff.2 h0
        rw [List.length_drop] at hp hn
        rw [anw_on h0 hs, cnt, dif_neg h0, if_neg (fun e => hs (hi.2 e)), List.drop_drop]
        simp only [List.length_cons]
        have hlen : (N.drop (a + (tok (N.drop a)).2)).length ≤ n := by rw [List.length_drop]; omega
        by_cases hv : c ≤ a - g
        · rw [beg_beg hv, ih (a - g) (a + (tok (N.drop a)).2) (by omega) (.inl (by omega)) hlen]; omega
        · have hc : c = to := by omega
          have e : beg (a - g) (beg c (toks 0 T)) = beg c (toks 0 T) := by
            obtain ⟨q, a1, a2, a3, a4⟩ := beg_form _ 0 T c (Nat.le_refl _)
            rw [a3]
            simp only [Nat.sub_zero, Nat.zero_add] at a2 a4 ⊢
            by_cases hq0 : T.drop q = []
            · rw [hq0, toks_nil]; rfl
            · have hlt : q < T.length := by
                rcases Nat.lt_or_ge q T.length with g | g
                · exact g
                · exact absurd (List.drop_eq_nil_iff.2 g) hq0
              rw [toks_cons hq0]
              unfold beg
              exact List.dropWhile_cons_of_neg (by simp; omega)
          rw [e, ih c (a + (tok (N.drop a)).2) (by omega) (.inr hc) hlen]; omega
end M
end Go.Proofs.YtgjbafamiggafaaGreatDoor
/- Plain mathematics: what stays ahead; all tokens of a text in which a piece is replaced. -/
namespace Go.Proofs.YtgjbafamiggafaaGreatDoor
namespace M

/-- The tokens that stay ahead of a place. -/
def ahd (f : Nat) (L : List Tk) : List Tk := L.takeWhile (fun t => decide (t.pos + t.len + 4 ≤ f))
/-- Where the last of some tokens ends. -/
def endF (p : Nat) (L : List Tk) : Nat := L.foldl (fun _ t => t.pos + t.len) p
theorem endF_nil (p : Nat) : endF p [] = p := rfl
theorem endF_cons (p : Nat) (t : Tk) (L : List Tk) : endF p (t :: L) = endF (t.pos + t.len) L := rfl
theorem endF_last (p : Nat) (t : Tk) (L : List Tk) : endF p (L ++ [t]) = t.pos + t.len := by unfold endF; rw [List.foldl_append]; rfl
theorem endF_get {p : Nat} {L : List Tk} (h : L ≠ []) : ∃ t, L[L.length - 1]? = some t ∧ endF p L = t.pos + t.len := by
  have hl := List.length_pos_iff.2 h
  refine ⟨L[L.length - 1]'(by omega), by simp, ?_⟩
  have e := List.dropLast_concat_getLast h
  conv => lhs; rw [← e]
  rw [endF_last, List.getLast_eq_getElem]

theorem ahd_toks (a b b' : List UInt8) (n : Nat) : ∀ p : Nat, ((a ++ b).drop p).length ≤ n →
    toks p ((a ++ b).drop p) = ahd a.length (toks p ((a ++ b).drop p)) ++ toks (endF p (ahd a.length (toks p ((a ++ b).drop p)))) ((a ++ b).drop (endF p (ahd a.length (toks p ((a ++ b).drop p))))) ∧
    toks p ((a ++ b').drop p) = ahd a.length (toks p ((a ++ b).drop p)) ++ toks (endF p (ahd a.length (toks p ((a ++ b).drop p)))) ((a ++ b').drop (endF p (ahd a.length (toks p ((a ++ b).drop p))))) := by
  induction n with
  | zero =>
    intro p hn
    have h0 : (a ++ b).drop p = [] := List.length_eq_zero_iff.1 (by omega)
    rw [h0, toks_nil, show ahd a.length [] = [] from rfl, endF_nil, h0, toks_nil]
    exact ⟨rfl, rfl⟩
  | succ n ih =>
    intro p hn
    by_cases h0 : (a ++ b).drop p = []
    · rw [h0, toks_nil, show ahd a.length [] = [] from rfl, endF_nil, h0, toks_nil]
      exact ⟨rfl, rfl⟩
    · have hb := tok_bounds h0
      rw [toks_cons h0]
      by_cases hc : p + (tok ((a ++ b).drop p)).2 + 4 ≤ a.length
      · have e1 : ∀ q : List UInt8, (a ++ q).drop p = a.drop p ++ q := fun q => List.drop_append_of_le_length (by omega)
        have hl : (a.drop p).length = a.length - p := List.length_drop ..
        have ht : tok ((a ++ b').drop p) = tok ((a ++ b).drop p) := by
          rw [e1 b', e1 b]
          exact tok_loc (by rw [← e1 b, hl]; omega)
        have h0' : (a ++ b').drop p ≠ [] := by
          rw [e1]; intro e
          have := congrArg List.length e
          rw [List.length_append, hl] at this; simp at this; omega
        have hp := List.length_pos_iff.2 h0
        obtain ⟨i1, i2⟩ := ih (p + (tok ((a ++ b).drop p)).2) (by rw [List.length_drop] at hn hp ⊢; omega)
        have ea : ∀ L : List Tk, ahd a.length (⟨(tok ((a ++ b).drop p)).1, p, (tok ((a ++ b).drop p)).2⟩ :: L) = ⟨(tok ((a ++ b).drop p)).1, p, (tok ((a ++ b).drop p)).2⟩ :: ahd a.length L := by
          intro L; unfold ahd; exact List.takeWhile_cons_of_pos (by simpa using hc)
        rw [ea, endF_cons, List.drop_drop, toks_cons h0', ht, List.drop_drop]
        refine ⟨?_, ?_⟩
        · rw [List.cons_append, ← i1]
        · rw [List.cons_append, ← i2]
      · have ea : ∀ L : List Tk, ahd a.length (⟨(tok ((a ++ b).drop p)).1, p, (tok ((a ++ b).drop p)).2⟩ :: L) = [] := by
          intro L; unfold ahd; exact List.takeWhile_cons_of_neg (by simpa using hc)
        rw [ea, endF_nil]
        exact ⟨by rw [List.nil_append, toks_cons h0], by rw [List.nil_append]⟩

/-- A text in which a piece is replaced. -/
def rep (T X : List UInt8) (f to : Nat) : List UInt8 := T.take f ++ X ++ T.drop to
theorem rep_same {T X : List UInt8} {f to : Nat} {g : Int} (h1 : f ≤ to) (h2 : to ≤ T.length) (hg : g = X.length - ((to : Int) - f)) : Same T (rep T X f to) to g := by
  have hl : (T.take f ++ X).length = f + X.length := by rw [List.length_append, List.length_take]; omega
  refine ⟨?_, h2, ?_⟩
  · unfold rep
    rw [List.length_append, hl, List.length_drop]; omega
  · intro q r hq hr
    unfold rep
    rw [List.drop_append, hl, show (T.take f ++ X).drop r = [] by rw [List.drop_eq_nil_iff, hl]; omega, List.nil_append, List.drop_drop]
    congr 1; omega
/-- What is kept up is what would be made anew; and how much of it is read. -/
theorem rep_toks {T X : List UInt8} {f to : Nat} {g : Int} (h1 : f ≤ to) (h2 : to ≤ T.length) (hg : g = X.length - ((to : Int) - f)) :
    toks 0 (rep T X f to) = ahd f (toks 0 T) ++ (anw g (beg to (toks 0 T)) (endF 0 (ahd f (toks 0 T))) ((rep T X f to).drop (endF 0 (ahd f (toks 0 T))))).1 ++ (anw g (beg to (toks 0 T)) (endF 0 (ahd f (toks 0 T))) ((rep T X f to).drop (endF 0 (ahd f (toks 0 T))))).2.map (mv g) ∧
    cnt g (toks 0 T) to (endF 0 (ahd f (toks 0 T))) ((rep T X f to).drop (endF 0 (ahd f (toks 0 T)))) = (anw g (beg to (toks 0 T)) (endF 0 (ahd f (toks 0 T))) ((rep T X f to).drop (endF 0 (ahd f (toks 0 T))))).1.length := by
  have hS := rep_same (X := X) h1 h2 hg
  have hlf : (T.take f).length = f := by rw [List.length_take]; omega
  have e1 : T = T.take f ++ T.drop f := (List.take_append_drop f T).symm
  have e2 : rep T X f to = T.take f ++ (X ++ T.drop to) := by unfold rep; rw [List.append_assoc]
  have ha := (ahd_toks (T.take f) (T.drop f) (X ++ T.drop to) _ 0 (Nat.le_refl _)).2
  rw [← e1, ← e2, hlf] at ha
  simp only [List.drop_zero] at ha
  obtain ⟨q, a1, a2, a3, a4⟩ := beg_form _ 0 T to (Nat.le_refl _)
  simp only [Nat.sub_zero, Nat.zero_add] at a2 a3 a4
  refine ⟨?_, cnt_anw _ to _ (Int.le_refl _) (.inr rfl) (Nat.le_refl _)⟩
  conv => lhs; rw [ha]
  rw [List.append_assoc, a3]
  congr 1
  exact anw_toks hS _ q _ (by omega) (Nat.le_refl _)
end M
end Go.Proofs.YtgjbafamiggafaaGreatDoor
