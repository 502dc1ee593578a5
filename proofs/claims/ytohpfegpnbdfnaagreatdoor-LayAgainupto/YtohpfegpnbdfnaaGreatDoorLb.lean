/- Plain mathematics: a token that was read somewhere is read again. -/
import Derived.Test.YtohpfegpnbdfnaaGreatDoorAa
namespace Go.Proofs.YtohpfegpnbdfnaaGreatDoor
namespace M
theorem nest_pos {d : Nat} {t : List UInt8} (h : (nest d t).1 = 2) : 2 ≤ (nest d t).2 := by
  generalize hn : t.length = n
  induction n using Nat.strongRecOn generalizing d t with
  | ind n ih =>
    by_cases h0 : cc t = -1
    · have := cc_ne.1 h0; subst this; rw [nest_end] at h; exact absurd h (by decide)
    have hs := sz_pos_cc h0
    have h1 := nx_len t
    have h1' := nx_len (nx t)
    by_cases h3 : cc t = 123
    · by_cases h4 : cc (nx t) = 45
      · rw [nest_open h3 h4]; simp only; omega
      · rw [nest_brace h3 h4] at h ⊢
        have := ih _ (by omega) (d := d) (t := nx t) h rfl
        simp only; omega
    by_cases h3' : cc t = 45
    · by_cases h4 : cc (nx t) = 125
      · by_cases hd : d ≤ 1
        · rw [nest_last h3' h4 hd]; exact Nat.le_refl _
        · rw [nest_shut h3' h4 hd]; simp only; omega
      · rw [nest_dash h3' h4] at h ⊢
        have := ih _ (by omega) (d := d) (t := nx t) h rfl
        simp only; omega
    · rw [nest_on h0 h3 h3'] at h ⊢
      have := ih _ (by omega) (d := d) (t := nx t) h rfl
      simp only; omega
theorem q125 : (125 : UInt8).toNat < 128 := by decide
/-- A remark that is shut is so, whatever stands behind. -/
theorem nest_nd (n : Nat) : ∀ (d : Nat) (z r0 : List UInt8), z.length ≤ n → Nd 125 z → nest d (z ++ r0) = (2, z.length) → ∀ r, nest d (z ++ r) = (2, z.length) := by
  induction n with
  | zero => intro d z r0 h hz; obtain ⟨y, rfl⟩ := hz; simp at h
  | succ n ih =>
    intro d z r0 h hz hq r
    have hne : z ≠ [] := by obtain ⟨y, rfl⟩ := hz; simp
    obtain ⟨f1, f2, f3⟩ := cc_of (r := r) hne (dec_nd q125 hz)
    obtain ⟨e1, e2, e3⟩ := cc_of (r := r0) hne (dec_nd q125 hz)
    have hn := nx_len z
    have hs := sz_pos hne
    have h0 : cc z ≠ -1 := fun e => hne (cc_ne.1 e)
    by_cases hz1 : z = [125]
    · exfalso
      subst hz1
      have hc : cc ([125] : List UInt8) = 125 := (cc_byte q125).1
      rw [nest_on (by rw [e1, hc]; decide) (by rw [e1, hc]; decide) (by rw [e1, hc]; decide)] at hq
      have q1 := congrArg Prod.fst hq
      have q2 := congrArg Prod.snd hq
      simp only at q1 q2
      have := nest_pos q1
      rw [List.length_singleton] at q2; omega
    have hm := nd_nx hz q125 hz1
    have hnn : nx z ≠ [] := by obtain ⟨y, e⟩ := hm; rw [e]; simp
    obtain ⟨f4, f5, f6⟩ := cc_of (r := r) hnn (dec_nd q125 hm)
    obtain ⟨e4, e5, e6⟩ := cc_of (r := r0) hnn (dec_nd q125 hm)
    have hn' := nx_len (nx z)
    have hs' := sz_pos hnn
    by_cases h3 : cc z = 123
    · have z1 := sz_cc (t := z) (by omega) (by omega)
      by_cases h4 : cc (nx z) = 45
      · have z2 := sz_cc (t := nx z) (by omega) (by omega)
        have hz2 : nx z ≠ [125] := by intro e; rw [e, (cc_byte q125).1] at h4; exact absurd h4 (by decide)
        rw [nest_open (by rw [e1]; exact h3) (by rw [e3, e4]; exact h4), e3, e6] at hq
        rw [nest_open (by rw [f1]; exact h3) (by rw [f3, f4]; exact h4), f3, f6]
        have q1 := congrArg Prod.fst hq
        have q2 := congrArg Prod.snd hq
        simp only at q1 q2
        rw [ih _ (nx (nx z)) r0 (by omega) (nd_nx hm q125 hz2) (Prod.ext q1 (by simp only; omega)) r]
        simp only [Prod.mk.injEq, true_and]; omega
      · rw [nest_brace (by rw [e1]; exact h3) (by rw [e3, e4]; exact h4), e3] at hq
        rw [nest_brace (by rw [f1]; exact h3) (by rw [f3, f4]; exact h4), f3]
        have q1 := congrArg Prod.fst hq
        have q2 := congrArg Prod.snd hq
        simp only at q1 q2
        rw [ih _ (nx z) r0 (by omega) hm (Prod.ext q1 (by simp only; omega)) r]
        simp only [Prod.mk.injEq, true_and]; omega
    by_cases h3' : cc z = 45
    · have z1 := sz_cc (t := z) (by omega) (by omega)
      by_cases h4 : cc (nx z) = 125
      · have z2 := sz_cc (t := nx z) (by omega) (by omega)
        by_cases hd : d ≤ 1
        · rw [nest_last (by rw [e1]; exact h3') (by rw [e3, e4]; exact h4) hd] at hq
          rw [nest_last (by rw [f1]; exact h3') (by rw [f3, f4]; exact h4) hd]; exact hq
        · rw [nest_shut (by rw [e1]; exact h3') (by rw [e3, e4]; exact h4) hd, e3, e6] at hq
          rw [nest_shut (by rw [f1]; exact h3') (by rw [f3, f4]; exact h4) hd, f3, f6]
          have q1 := congrArg Prod.fst hq
          have q2 := congrArg Prod.snd hq
          simp only at q1 q2
          have hz2 : nx z ≠ [125] := by
            intro e
            have hp := nest_pos q1
            have hl := congrArg List.length e
            simp only [List.length_singleton] at hl
            omega
          rw [ih _ (nx (nx z)) r0 (by omega) (nd_nx hm q125 hz2) (Prod.ext q1 (by simp only; omega)) r]
          simp only [Prod.mk.injEq, true_and]; omega
      · rw [nest_dash (by rw [e1]; exact h3') (by rw [e3, e4]; exact h4), e3] at hq
        rw [nest_dash (by rw [f1]; exact h3') (by rw [f3, f4]; exact h4), f3]
        have q1 := congrArg Prod.fst hq
        have q2 := congrArg Prod.snd hq
        simp only at q1 q2
        rw [ih _ (nx z) r0 (by omega) hm (Prod.ext q1 (by simp only; omega)) r]
        simp only [Prod.mk.injEq, true_and]; omega
    · rw [nest_on (by rw [e1]; exact h0) (by rw [e1]; exact h3) (by rw [e1]; exact h3'), e2, e3] at hq
      rw [nest_on (by rw [f1]; exact h0) (by rw [f1]; exact h3) (by rw [f1]; exact h3'), f2, f3]
      have q1 := congrArg Prod.fst hq
      have q2 := congrArg Prod.snd hq
      simp only at q1 q2
      rw [ih _ (nx z) r0 (by omega) hm (Prod.ext q1 (by simp only; omega)) r]
      simp only [Prod.mk.injEq, true_and]; omega
/-- With what a remark, and a text, ends. -/
theorem nd_take {c : UInt8} {t : List UInt8} {n : Nat} (hn : Nd c ((nx t).take n)) : Nd c (t.take (sz t + n)) := by
  obtain ⟨z, hz⟩ := hn
  refine ⟨t.take (sz t) ++ z, ?_⟩
  rw [List.append_assoc, ← hz]
  unfold nx
  rw [List.take_add]
theorem nest_last2 (n : Nat) : ∀ (d : Nat) (t : List UInt8), t.length ≤ n → (nest d t).1 = 2 → Nd 125 (t.take (nest d t).2) := by
  induction n with
  | zero => intro d t h h1; have : t = [] := List.eq_nil_of_length_eq_zero (by omega); subst this; rw [nest_end] at h1; exact absurd h1 (by decide)
  | succ n ih =>
    intro d t h h1
    by_cases h0 : cc t = -1
    · have := cc_ne.1 h0; subst this; rw [nest_end] at h1; exact absurd h1 (by decide)
    have hs := sz_pos_cc h0
    have h2 := nx_len t
    have h2' := nx_len (nx t)
    by_cases h3 : cc t = 123
    · have z1 := sz_cc (t := t) (by omega) (by omega)
      by_cases h4 : cc (nx t) = 45
      · have z2 := sz_cc (t := nx t) (by omega) (by omega)
        rw [nest_open h3 h4] at h1 ⊢
        have := nd_take (t := nx t) (ih _ (nx (nx t)) (by omega) h1)
        rw [z2] at this
        have := nd_take (t := t) this
        rw [z1, ← Nat.add_assoc] at this
        exact this
      · rw [nest_brace h3 h4] at h1 ⊢
        have := nd_take (t := t) (ih _ (nx t) (by omega) h1)
        rw [z1] at this
        exact this
    by_cases h3' : cc t = 45
    · have z1 := sz_cc (t := t) (by omega) (by omega)
      by_cases h4 : cc (nx t) = 125
      · have z2 := sz_cc (t := nx t) (by omega) (by omega)
        by_cases hd : d ≤ 1
        · rw [nest_last h3' h4 hd]
          obtain ⟨n1, n2⟩ := (cc_is (c := 125) (by decide)).1 (show cc (nx t) = ((125 : Nat) : Int) from h4)
          have : Nd 125 ((nx t).take 1) := by
            cases hc : nx t with
            | nil => exact absurd hc n1
            | cons b u =>
              rw [hc] at n2
              simp at n2
              exact ⟨[], by simp; exact UInt8.toNat_inj.1 n2⟩
          have := nd_take (t := t) this
          rw [z1] at this
          exact this
        · rw [nest_shut h3' h4 hd] at h1 ⊢
          have := nd_take (t := nx t) (ih _ (nx (nx t)) (by omega) h1)
          rw [z2] at this
          have := nd_take (t := t) this
          rw [z1, ← Nat.add_assoc] at this
          exact this
      · rw [nest_dash h3' h4] at h1 ⊢
        have := nd_take (t := t) (ih _ (nx t) (by omega) h1)
        rw [z1] at this
        exact this
    · rw [nest_on h0 h3 h3'] at h1 ⊢
      exact nd_take (t := t) (ih _ (nx t) (by omega) h1)
theorem nd_drop {c : UInt8} {t : List UInt8} {m n : Nat} (hn : Nd c ((t.drop m).take n)) : Nd c (t.take (m + n)) := by
  obtain ⟨z, hz⟩ := hn
  refine ⟨t.take m ++ z, ?_⟩
  rw [List.append_assoc, ← hz, List.take_add]
theorem quo_last2 (n : Nat) : ∀ (k : Nat) (t : List UInt8), t.length ≤ n → (quo k t).1 ≠ 8 → Nd 34 (t.take (quo k t).2) := by
  induction n with
  | zero => intro k t h h1; have : t = [] := List.eq_nil_of_length_eq_zero (by omega); subst this; rw [quo_end (.inl cc_nil)] at h1; exact absurd rfl h1
  | succ n ih =>
    intro k t h h1
    by_cases h0 : cc t = -1 ∨ cc t = 10
    · rw [quo_end h0] at h1; exact absurd rfl h1
    have hs := sz_pos_cc (t := t) (fun e => h0 (.inl e))
    have h2 := nx_len t
    by_cases h3 : cc t = 34
    · rw [quo_shut h3]
      obtain ⟨n1, n2⟩ := (cc_is (c := 34) (by decide)).1 (show cc t = ((34 : Nat) : Int) from h3)
      cases t with
      | nil => exact absurd rfl n1
      | cons b u =>
        simp at n2
        exact ⟨[], by simp; exact UInt8.toNat_inj.1 n2⟩
    by_cases h4 : cc t = 92
    · have z1 := sz_cc (t := t) (by omega) (by omega)
      rw [quo_slash h4] at h1 ⊢
      have ht := taken_le (nx t)
      have := nd_drop (ih _ ((nx t).drop (taken (nx t)).2.2) (by simp; omega) h1)
      have := nd_take (t := t) this
      rw [z1, ← Nat.add_assoc] at this
      exact this
    · rw [quo_on (fun e => h0 (.inl e)) (fun e => h0 (.inr e)) h3 h4] at h1 ⊢
      exact nd_take (t := t) (ih _ (nx t) (by omega) h1)
end M
end Go.Proofs.YtohpfegpnbdfnaaGreatDoor
/- Plain mathematics: a token that was read somewhere is read again, whatever of these stands behind it. -/
namespace Go.Proofs.YtohpfegpnbdfnaaGreatDoor
namespace M
theorem sg_cc {c : Int} (h : isSg c = true) : c ≠ 123 ∧ c ≠ 34 ∧ isSp c = false ∧ isLt c = false ∧ isDg c = false := by
  unfold isSg at h
  simp only [decide_eq_true_eq, List.mem_cons, List.not_mem_nil, or_false] at h
  rcases h with h | h | h | h | h | h | h | h | h | h | h | h | h <;> subst h <;> decide
theorem ascii_cons {t : List UInt8} {c : Nat} (hc : c < 128) (h : cc t = (c : Int)) : ∃ b u, t = b :: u ∧ b.toNat = c := by
  obtain ⟨n1, n2⟩ := (cc_is hc).1 h
  cases t with
  | nil => exact absurd rfl n1
  | cons b u => exact ⟨b, u, rfl, by simpa using n2⟩
/-- What stands behind a character of x, if that is a small one, is in x, too. -/
theorem second {y r0 : List UInt8} {c : Nat} (hc : c < 128) (hy : y ≠ []) (h : cc (y ++ r0) = (c : Int)) : ∃ u, ∀ r, cc (y ++ r) = (c : Int) ∧ sz (y ++ r) = 1 ∧ nx (y ++ r) = u ++ r ∧ u.length + 1 = y.length := by
  obtain ⟨b, v, e, hb⟩ := ascii_cons hc h
  cases y with
  | nil => exact absurd rfl hy
  | cons a u =>
    rw [List.cons_append] at e
    injection e with e1 e2
    subst e1
    refine ⟨u, fun r => ?_⟩
    obtain ⟨g1, g2, g3⟩ := cc_byte (b := a) (u := u ++ r) (by omega)
    rw [List.cons_append]
    exact ⟨by rw [g1, hb], g2, g3, rfl⟩
theorem tok_again {x r0 r : List UInt8} {k : Nat} (hx : x ≠ []) (h : tok (x ++ r0) = (k, x.length)) (hk : k ≠ 8) (h1 : k ≠ 1) (hr : Ok r) (h2 : k = 2 → ∃ u, r = 10 :: u) : tok (x ++ r) = (k, x.length) := by
  have hs := sz_tok (t := x ++ r0) (by simp [hx])
  rw [h] at hs
  have hd := (dec_prefix (a := x) (b := r0) hx hs).symm
  obtain ⟨e1, e2, e3⟩ := cc_of hx hd
  obtain ⟨f1, f2, f3⟩ := cc_of hx (dec_lo hx hr.lo)
  have hn := nx_len x
  have hp := sz_pos hx
  obtain ⟨g1, g2, g3⟩ := dg_no hr
  unfold tok at h ⊢
  rw [e1, e2, e3] at h
  rw [f1, f2, f3]
  by_cases a1 : isSp (cc x) = true
  · rw [if_pos a1] at h; exact absurd (congrArg Prod.fst h).symm h1
  rw [if_neg a1] at h ⊢
  by_cases a2 : isLt (cc x) = true
  · rw [if_pos a2] at h ⊢
    have q2 : sz x + skip isNm (nx x ++ r0) = x.length := congrArg Prod.snd h
    have q3 := skip_all _ (nx x) r0 (Nat.le_refl _) (by omega) r hr.lo g2
    rw [q2, List.take_left'  rfl] at h
    rw [q3, show sz x + (nx x).length = x.length by omega, List.take_left' rfl]
    exact h
  rw [if_neg a2] at h ⊢
  by_cases a3 : isDg (cc x) = true
  · rw [if_pos a3] at h ⊢
    have q2 : sz x + skip isDg (nx x ++ r0) = x.length := congrArg Prod.snd h
    have q3 := skip_all _ (nx x) r0 (Nat.le_refl _) (by omega) r hr.lo g1
    rw [q2] at h
    rw [q3, show sz x + (nx x).length = x.length by omega]
    exact h
  rw [if_neg a3] at h ⊢
  by_cases a4 : cc x = 34
  · rw [if_pos a4] at h ⊢
    have z1 := sz_cc (t := x) (by omega) (by omega)
    have q1 := congrArg Prod.fst h
    have q2 := congrArg Prod.snd h
    simp only at q1 q2
    have hl := quo_last2 _ 6 (nx x ++ r0) (Nat.le_refl _) (by rw [q1]; exact hk)
    have q3 : (quo 6 (nx x ++ r0)).2 = (nx x).length := by omega
    rw [q3, List.take_left' rfl] at hl
    rw [quo_nd _ 6 k (nx x) r0 (Nat.le_refl _) hl (Prod.ext q1 q3) hk r]
    simp only [Prod.mk.injEq, true_and]; omega
  rw [if_neg a4] at h ⊢
  have hone : ∀ (y : List UInt8), nx x = y → y = [] → x.length = sz x := fun y e1 e2 => by rw [e1, e2] at hn; simp at hn; omega
  by_cases a5 : cc x = 123 ∧ cc (nx x ++ r0) = 45
  · rw [if_pos a5] at h
    have z1 := sz_cc (t := x) (by omega) (by omega)
    have q1 := congrArg Prod.fst h
    have q2 := congrArg Prod.snd h
    simp only at q1 q2
    have q0 := (nest_le _ 1 (nx (nx x ++ r0)) (Nat.le_refl _)).2
    have k2 : k = 2 := by omega
    subst k2
    have hpos := nest_pos q1
    have hne : nx x ≠ [] := fun e => by have := hone _ rfl e; omega
    obtain ⟨u, hu⟩ := second (c := 45) (by decide) hne a5.2
    obtain ⟨-, -, u1, u4⟩ := hu r0
    obtain ⟨v1, -, v3, -⟩ := hu r
    rw [u1] at q1 q2 hpos
    have hl := nest_last2 _ 1 (u ++ r0) (Nat.le_refl _) q1
    have q3 : (nest 1 (u ++ r0)).2 = u.length := by omega
    rw [q3, List.take_left' rfl] at hl
    rw [if_pos ⟨a5.1, v1⟩, v3, nest_nd _ 1 u r0 (Nat.le_refl _) hl (Prod.ext q1 q3) r]
    simp only [Prod.mk.injEq, true_and]; omega
  rw [if_neg a5] at h
  by_cases a6 : cc x = 45 ∧ cc (nx x ++ r0) = 45
  · rw [if_pos a6] at h
    have z1 := sz_cc (t := x) (by omega) (by omega)
    have q1 : 2 = k := congrArg Prod.fst h
    have q2 : 1 + skip isLn (nx x ++ r0) = x.length := congrArg Prod.snd h
    subst q1
    obtain ⟨v, rfl⟩ := h2 rfl
    have hsk : 0 < skip isLn (nx x ++ r0) := by
      rw [skip_yes (fun e => by rw [e, cc_nil] at a6; exact absurd a6.2 (by decide)) (by rw [a6.2]; decide)]
      have := sz_pos_cc (t := nx x ++ r0) (by rw [a6.2]; decide)
      omega
    have hne : nx x ≠ [] := fun e => by have := hone _ rfl e; omega
    obtain ⟨u, hu⟩ := second (c := 45) (by decide) hne a6.2
    obtain ⟨v1, -, -, -⟩ := hu (10 :: v)
    have c10 : isLn (cc (10 :: v)) = false := by rw [(cc_byte (b := 10) (u := v) (by decide)).1]; decide
    have q3 := skip_all _ (nx x) r0 (Nat.le_refl _) (by omega) (10 :: v) hr.lo c10
    rw [if_neg (by rw [a6.1]; intro e; exact absurd e.1 (by decide)), if_pos ⟨a6.1, v1⟩, q3]
    simp only [Prod.mk.injEq, true_and]; omega
  rw [if_neg a6] at h
  by_cases a7 : isPr (cc x) (cc (nx x ++ r0)) = true
  · rw [if_pos a7] at h
    have q1 : 7 = k := congrArg Prod.fst h
    have q2 : 2 = x.length := congrArg Prod.snd h
    subst q1
    have hlo : (cc x = 61 ∨ cc x = 43) ∧ ∃ c : Nat, c < 128 ∧ c ≠ 45 ∧ cc (nx x ++ r0) = (c : Int) := by
      have a7' := a7
      unfold isPr at a7'
      simp only [decide_eq_true_eq] at a7'
      rcases a7' with ⟨b1, b2 | b2⟩ | ⟨b1, b2⟩
      · exact ⟨.inl b1, 62, by decide, by decide, b2⟩
      · exact ⟨.inl b1, 61, by decide, by decide, b2⟩
      · exact ⟨.inr b1, 43, by decide, by decide, b2⟩
    obtain ⟨hcx, c, hc, hc45, hcc⟩ := hlo
    have z1 := sz_cc (t := x) (by omega) (by omega)
    have hne : nx x ≠ [] := fun e => by have := hone _ rfl e; omega
    obtain ⟨u, hu⟩ := second hc hne hcc
    obtain ⟨v1, -, -, -⟩ := hu r
    rw [hcc] at a7
    rw [if_neg (by omega), if_neg (by omega), v1, if_pos a7]
    simp only [Prod.mk.injEq, true_and]; omega
  rw [if_neg a7] at h
  by_cases a8 : isSg (cc x) = true
  · rw [if_pos a8] at h
    have q1 : 7 = k := congrArg Prod.fst h
    have q2 : 1 = x.length := congrArg Prod.snd h
    subst q1
    obtain ⟨s1, s2, -⟩ := sg_cc a8
    have hne : nx x = [] := List.eq_nil_of_length_eq_zero (by omega)
    have hcr := hr.cc
    rw [hne, List.nil_append]
    have hpr : ¬ isPr (cc x) (cc r) = true := by
      unfold isPr; simp only [decide_eq_true_eq]; omega
    rw [if_neg (fun e => s1 e.1), if_neg (by omega), if_neg hpr, if_pos a8]
    simp only [Prod.mk.injEq, true_and]; omega
  · rw [if_neg a8] at h; exact absurd (congrArg Prod.fst h).symm hk
/-- A bracket, or a point, is one whatever stands behind it. -/
theorem tok_bracket {b : UInt8} (hb : b = 40 ∨ b = 91 ∨ b = 46) (r : List UInt8) : tok (b :: r) = (7, 1) := by
  obtain ⟨g1, g2, g3⟩ := cc_byte (b := b) (u := r) (by rcases hb with rfl | rfl | rfl <;> decide)
  unfold tok
  rw [g1, g2, g3]
  rcases hb with rfl | rfl | rfl <;> simp [isSp, isLt, isDg, isPr, isSg]
/-- A blank, or a byte 10. -/
theorem tok_space {b : UInt8} (hb : b = 32 ∨ b = 10) (r : List UInt8) : tok (b :: r) = (1, 1 + skip isSp r) := by
  obtain ⟨g1, g2, g3⟩ := cc_byte (b := b) (u := r) (by rcases hb with rfl | rfl <;> decide)
  unfold tok
  rw [g1, g2, g3]
  rcases hb with rfl | rfl <;> simp [isSp]
end M
end Go.Proofs.YtohpfegpnbdfnaaGreatDoor
