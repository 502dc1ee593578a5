/- Plain mathematics: the tokens of a text in which a piece is replaced. -/
import Derived.Test.YtpoipoencbieeaaDoorAa
namespace Go.Proofs.YtpoipoencbieeaaDoor
namespace M

/-- A token elsewhere. -/
def mv (g : Int) (t : Tk) : Tk := ⟨t.kind, ((t.pos : Int) + g).toNat, t.len⟩
theorem toks_mv (n : Nat) : ∀ (g : Int) (p q : Nat) (t : List UInt8), t.length ≤ n → (q : Int) = p + g → toks q t = (toks p t).map (mv g) := by
  induction n with
  | zero =>
    intro g p q t h _
    have : t = [] := List.length_eq_zero_iff.1 (by omega)
    subst this; rw [toks_nil, toks_nil]; rfl
  | succ n ih =>
    intro g p q t h e
    by_cases h0 : t = []
    · subst h0; rw [toks_nil, toks_nil]; rfl
    · have hb := tok_bounds h0
      rw [toks_cons h0, toks_cons (a := p) h0, List.map_cons, ih g (p + (tok t).2) (q + (tok t).2) _ (by rw [List.length_drop]; omega) (by omega)]
      congr 1
      unfold mv; congr 1; simp only; omega
/-- The tokens that begin at a place or behind it. -/
def beg (c : Int) (L : List Tk) : List Tk := L.dropWhile (fun t => decide ((t.pos : Int) < c))
theorem toks_ge (n : Nat) : ∀ (p : Nat) (t : List UInt8), t.length ≤ n → ∀ k ∈ toks p t, p ≤ k.pos ∧ k.pos + k.len ≤ p + t.length ∧ 1 ≤ k.len := by
  induction n with
  | zero =>
    intro p t h k hk
    have : t = [] := List.length_eq_zero_iff.1 (by omega)
    subst this; rw [toks_nil] at hk; cases hk
  | succ n ih =>
    intro p t h k hk
    by_cases h0 : t = []
    · subst h0; rw [toks_nil] at hk; cases hk
    · have hb := tok_bounds h0
      rw [toks_cons h0] at hk
      rcases List.mem_cons.1 hk with rfl | hk
      · simp only; omega
      · have := ih _ _ (by rw [List.length_drop]; omega) k hk
        rw [List.length_drop] at this; omega
theorem beg_form (n : Nat) : ∀ (p : Nat) (t : List UInt8) (c : Int), t.length ≤ n → ∃ q, p ≤ q ∧ q ≤ p + t.length ∧ beg c (toks p t) = toks q (t.drop (q - p)) ∧ (c ≤ (q : Int) ∨ q = p + t.length) := by
  induction n with
  | zero =>
    intro p t c h
    have : t = [] := List.length_eq_zero_iff.1 (by omega)
    subst this
    exact ⟨p, Nat.le_refl _, by simp, by simp [toks_nil, beg], .inr (by simp)⟩
  | succ n ih =>
    intro p t c h
    by_cases h0 : t = []
    · subst h0
      exact ⟨p, Nat.le_refl _, by simp, by simp [toks_nil, beg], .inr (by simp)⟩
    · have hb := tok_bounds h0
      by_cases hc : (p : Int) < c
      · obtain ⟨q, h1, h2, h3, h4⟩ := ih (p + (tok t).2) (t.drop (tok t).2) c (by rw [List.length_drop]; omega)
        rw [List.length_drop] at h2 h4
        refine ⟨q, by omega, by omega, ?_, by omega⟩
        rw [toks_cons h0]
        unfold beg at h3 ⊢
        rw [List.dropWhile_cons_of_pos (by simpa using hc), h3, List.drop_drop]
        congr 2; omega
      · refine ⟨p, Nat.le_refl _, by omega, ?_, .inl (by omega)⟩
        rw [Nat.sub_self, List.drop_zero]
        rw [toks_cons h0]
        unfold beg
        rw [List.dropWhile_cons_of_neg (by simpa using hc)]
theorem beg_beg {c c' : Int} (h : c ≤ c') : ∀ L : List Tk, beg c' (beg c L) = beg c' L
  | [] => rfl
  | t :: L => by
    by_cases h1 : (t.pos : Int) < c
    · have e1 : beg c (t :: L) = beg c L := by unfold beg; exact List.dropWhile_cons_of_pos (by simpa using h1)
      have e2 : beg c' (t :: L) = beg c' L := by unfold beg; exact List.dropWhile_cons_of_pos (by simp; omega)
      rw [e1, e2, beg_beg h L]
    · have e1 : beg c (t :: L) = t :: L := by unfold beg; exact List.dropWhile_cons_of_neg (by simpa using h1)
      rw [e1]
theorem beg_mem {c : Int} {L : List Tk} {k : Tk} (hk : k ∈ L) (hc : c ≤ (k.pos : Int)) : k ∈ beg c L := by
  induction L with
  | nil => cases hk
  | cons t L ih =>
    by_cases h1 : (t.pos : Int) < c
    · have e1 : beg c (t :: L) = beg c L := by unfold beg; exact List.dropWhile_cons_of_pos (by simpa using h1)
      rw [e1]
      rcases List.mem_cons.1 hk with rfl | hk
      · omega
      · exact ih hk
    · have e1 : beg c (t :: L) = t :: L := by unfold beg; exact List.dropWhile_cons_of_neg (by simpa using h1)
      rw [e1]; exact hk
theorem beg_sub {c : Int} {L : List Tk} {k : Tk} (hk : k ∈ beg c L) : k ∈ L := (List.dropWhile_sublist _).subset hk

/-- What is read anew, and what stays behind it. -/
def anw (g : Int) (old : List Tk) (a : Nat) (t : List UInt8) : List Tk × List Tk :=
  if _h : t = [] then ([], beg (a - g) old)
  else if (beg (a - g) old).head?.map (fun k => (k.pos : Int)) = some (a - g) then ([], beg (a - g) old)
  else (⟨(tok t).1, a, (tok t).2⟩ :: (anw g (beg (a - g) old) (a + (tok t).2) (t.drop (tok t).2)).1, (anw g (beg (a - g) old) (a + (tok t).2) (t.drop (tok t).2)).2)
termination_by t.length
decreasing_by
  all_goals
    have := tok_bounds _h
    simp only [List.length_drop]; omega
theorem anw_end {g : Int} {old : List Tk} {a : Nat} : anw g old a [] = ([], beg (a - g) old) := by rw [anw]; simp
theorem anw_stop {g : Int} {old : List Tk} {a : Nat} {t : List UInt8} (h : (beg (a - g) old).head?.map (fun k => (k.pos : Int)) = some (a - g)) : anw g old a t = ([], beg (a - g) old) := by
  rw [anw]; split
  · rfl
  · first | rfl | rw [if_pos h]
theorem anw_on {g : Int} {old : List Tk} {a : Nat} {t : List UInt8} (h0 : t ≠ []) (h : (beg (a - g) old).head?.map (fun k => (k.pos : Int)) ≠ some (a - g)) :
    anw g old a t = (⟨(tok t).1, a, (tok t).2⟩ :: (anw g (beg (a - g) old) (a + (tok t).2) (t.drop (tok t).2)).1, (anw g (beg (a - g) old) (a + (tok t).2) (t.drop (tok t).2)).2) := by
  conv => lhs; rw [anw]
  rw [dif_neg h0, if_neg h]

/-- Two texts that are the same behind a place. -/
structure Same (T N : List UInt8) (to : Nat) (g : Int) : Prop where
  len : (N.length : Int) = T.length + g
  le : to ≤ T.length
  same : ∀ (q r : Nat), to ≤ q → (r : Int) = q + g → N.drop r = T.drop q

theorem anw_toks {T N : List UInt8} {to : Nat} {g : Int} (hS : Same T N to g) (n : Nat) : ∀ (q a : Nat), to ≤ q → (N.drop a).length ≤ n →
    toks a (N.drop a) = (anw g (toks q (T.drop q)) a (N.drop a)).1 ++ (anw g (toks q (T.drop q)) a (N.drop a)).2.map (mv g) := by
  induction n with
  | zero =>
    intro q a hq hn
    have h0 : N.drop a = [] := List.length_eq_zero_iff.1 (by omega)
    obtain ⟨q', h1, h2, h3, h4⟩ := beg_form _ q (T.drop q) (a - g) (Nat.le_refl _)
    rw [h0, anw_end, toks_nil, h3, List.drop_drop]
    have hl := hS.len
    have ht := hS.le
    rw [List.drop_eq_nil_iff] at h0
    rw [List.length_drop] at h2 h4
    rw [show T.drop (q + (q' - q)) = [] by rw [List.drop_eq_nil_iff]; omega, toks_nil]; rfl
  | succ n ih =>
    intro q a hq hn
    obtain ⟨q', h1, h2, h3, h4⟩ := beg_form _ q (T.drop q) (a - g) (Nat.le_refl _)
    rw [List.drop_drop, show q + (q' - q) = q' by omega] at h3
    have hl := hS.len
    have ht := hS.le
    rw [List.length_drop] at h2 h4
    by_cases h0 : N.drop a = []
    · rw [h0, anw_end, toks_nil, h3]
      rw [List.drop_eq_nil_iff] at h0
      rw [show T.drop q' = [] by rw [List.drop_eq_nil_iff]; omega, toks_nil]; rfl
    · by_cases hs : (beg (a - g) (toks q (T.drop q))).head?.map (fun k => (k.pos : Int)) = some (a - g)
      · rw [anw_stop hs, h3]
        rw [h3] at hs
        by_cases hq0 : T.drop q' = []
        · rw [hq0, toks_nil] at hs; cases hs
        · rw [toks_cons hq0] at hs
          have e : (q' : Int) = a - g := by simpa using hs
          rw [hS.same q' a (by omega) (by omega), List.nil_append]
          exact toks_mv _ g q' a _ (Nat.le_refl _) (by omega)
      · have hb := tok_bounds h0
        rw [List.length_drop] at hn
        rw [anw_on h0 hs, toks_cons h0, h3, List.drop_drop]
        have := ih q' (a + (tok (N.drop a)).2) (by omega) (by rw [List.length_drop]; have := List.length_pos_iff.2 h0; rw [List.length_drop] at this; omega)
        rw [this]; rfl

/-- The document's count of what is read anew. -/
def cnt (g : Int) (L : List Tk) (to : Nat) (a : Nat) (t : List UInt8) : Nat :=
  if _h : t = [] then 0 else if (to : Int) ≤ a - g ∧ ∃ k ∈ L, (k.pos : Int) = a - g then 0 else 1 + cnt g L to (a + (tok t).2) (t.drop (tok t).2)
termination_by t.length
decreasing_by
  all_goals
    have := tok_bounds _h
    simp only [List.length_drop]; omega
theorem stop_iff {T : List UInt8} {to : Nat} {c v : Int} (h1 : (to : Int) ≤ c) (h2 : c ≤ v ∨ c = to) :
    (beg v (beg c (toks 0 T))).head?.map (fun k => (k.pos : Int)) = some v ↔ (to : Int) ≤ v ∧ ∃ k ∈ toks 0 T, (k.pos : Int) = v := by
  obtain ⟨q, a1, a2, a3, a4⟩ := beg_form _ 0 T c (Nat.le_refl _)
  simp only [Nat.sub_zero, Nat.zero_add] at a2 a3 a4
  obtain ⟨q', b1, b2, b3, b4⟩ := beg_form _ q (T.drop q) v (Nat.le_refl _)
  rw [List.drop_drop, show q + (q' - q) = q' by omega] at b3
  rw [List.length_drop] at b2 b4
  constructor
  · intro h
    rw [a3, b3] at h
    by_cases hq0 : T.drop q' = []
    · rw [hq0, toks_nil] at h; cases h
    · have hm : ∀ k ∈ toks q' (T.drop q'), k ∈ toks 0 T := fun k hk => beg_sub (c := c) (by rw [a3]; exact beg_sub (c := v) (by rw [b3]; exact hk))
      have hlt : q' < T.length := by
        rcases Nat.lt_or_ge q' T.length with g | g
        · exact g
        · exact absurd (List.drop_eq_nil_iff.2 g) hq0
      rw [toks_cons hq0] at h hm
      have e : (q' : Int) = v := by simpa using h
      exact ⟨by omega, _, hm _ (List.mem_cons_self ..), e⟩
  · rintro ⟨h, k, hk, e⟩
    have hcv : c ≤ v := by omega
    have hk1 : k ∈ toks q' (T.drop q') := by rw [← b3, ← a3, beg_beg hcv]; exact beg_mem hk (by omega)
    have hk2 := toks_ge _ _ _ (Nat.le_refl _) k hk1
    have hk3 := toks_ge _ _ _ (Nat.le_refl _) k hk
    rw [a3, b3]
    by_cases hq0 : T.drop q' = []
    · rw [hq0, toks_nil] at hk1; cases hk1
    · rw [toks_cons hq0]
      simp only [List.head?_cons, Option.map_some, Option.some.injEq]
      omega
theorem cnt_anw {T N : List UInt8} {to : Nat} {g : Int} (n : Nat) : ∀ (c : Int) (a : Nat), (to : Int) ≤ c → (c ≤ a - g ∨ c = to) → (N.drop a).length ≤ n →
    cnt g (toks 0 T) to a (N.drop a) = (anw g (beg c (toks 0 T)) a (N.drop a)).1.length := by
  induction n with
  | zero =>
    intro c a _ _ hn
    have h0 : N.drop a = [] := List.length_eq_zero_iff.1 (by omega)
    rw [h0, anw_end, cnt]; simp
  | succ n ih =>
    intro c a h1 h2 hn
    by_cases h0 : N.drop a = []
    · rw [h0, anw_end, cnt]; simp
    · have hi := stop_iff (T := T) (v := (a : Int) - g) h1 h2
      by_cases hs : (beg (a - g) (beg c (toks 0 T))).head?.map (fun k => (k.pos : Int)) = some (a - g)
      · rw [anw_stop hs, cnt, dif_neg h0, if_pos (hi.1 hs)]; rfl
      · have hb := tok_bounds h0
        have hp := List.length_pos_iff.2 h0
        rw [List.length_drop] at hp hn
        rw [anw_on h0 hs, cnt, dif_neg h0, if_neg (fun e => hs (hi.2 e)), List.drop_drop]
        simp only [List.length_cons]
        have hlen : (N.drop (a + (tok (N.drop a)).2)).length ≤ n := by rw [List.length_drop]; omega
        by_cases hv : c ≤ a - g
        · rw [beg_beg hv, ih (a - g) (a + (tok (N.drop a)).2) (by omega) (.inl (by omega)) hlen]; omega
        · have hc : c = to := by omega
          have e : beg (a - g) (beg c (toks 0 T)) = beg c (toks 0 T) := by
            obtain ⟨q, a1, a2, a3, a4⟩ := beg_form _ 0 T c (Nat.le_refl _)
            rw [a3]
            simp only [Nat.sub_zero, Nat.zero_add] at a2 a4 ⊢
            by_cases hq0 : T.drop q = []
            · rw [hq0, toks_nil]; rfl
            · have hlt : q < T.length := by
                rcases Nat.lt_or_ge q T.length with g | g
                · exact g
                · exact absurd (List.drop_eq_nil_iff.2 g) hq0
              rw [toks_cons hq0]
              unfold beg
              exact List.dropWhile_cons_of_neg (by simp; omega)
          rw [e, ih c (a + (tok (N.drop a)).2) (by omega) (.inr hc) hlen]; omega
end M
end Go.Proofs.YtpoipoencbieeaaDoor
