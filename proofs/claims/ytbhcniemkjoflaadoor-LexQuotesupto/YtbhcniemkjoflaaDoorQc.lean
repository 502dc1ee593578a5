/- Plain mathematics of quoting: what is quoted is one text, and stands for what was quoted. -/
import Derived.Test.YtbhcniemkjoflaaDoorQa
namespace Go.Proofs.YtbhcniemkjoflaaDoor
open M

theorem cc_c (x : UInt8) (r : List UInt8) (h : x.toNat < 128) : cc (x :: r) = (x.toNat : Int) ∧ sz (x :: r) = 1 ∧ nx (x :: r) = r := by
  have := cc_lo (t := x :: r) (by simp) (by simpa using h)
  simpa using this
theorem quo_conts (k j : Nat) : ∀ u : List UInt8, j ≤ u.length → (∀ i, i < j → 128 ≤ (u.getD i 0).toNat ∧ (u.getD i 0).toNat < 192) → quo k u = ((quo k (u.drop j)).1, j + (quo k (u.drop j)).2) := by
  induction j with
  | zero => intro u _ _; simp
  | succ j ih =>
    intro u hl h
    have hne : u ≠ [] := by intro e; subst e; simp at hl
    have h0 := h 0 (by omega)
    have hz := sz_cont hne h0.1 h0.2
    have hc := cc_hi hne h0.1
    rw [quo_on (by omega) (by omega) (by omega) (by omega), show nx u = u.drop 1 by unfold nx; rw [hz], hz]
    rw [ih (u.drop 1) (by simp; omega) (fun i hi => by have := h (i + 1) (by omega); simpa [List.getD_eq_getElem?_getD, List.getElem?_drop, Nat.add_comm] using this), List.drop_drop, show 1 + j = j + 1 by omega]
    simp only [Prod.mk.injEq, true_and]; omega
theorem quo_high {k : Nat} {x : UInt8} {r : List UInt8} (h : 128 ≤ x.toNat) : quo k (x :: r) = ((quo k r).1, 1 + (quo k r).2) := by
  have h0 : x :: r ≠ [] := by simp
  have hc := cc_hi h0 (by simpa using h)
  have hz := sz_le (x :: r)
  have hp := sz_pos h0
  rw [quo_on (by omega) (by omega) (by omega) (by omega)]
  unfold nx
  by_cases hm : 1 < sz (x :: r)
  · have hq := quo_conts k (sz (x :: r) - 1) r (by simp at hz; omega) (fun i hi => conts hm i hi)
    have hd : (x :: r).drop (sz (x :: r)) = r.drop (sz (x :: r) - 1) := by
      obtain ⟨m, hm'⟩ : ∃ m, sz (x :: r) = m + 1 := ⟨sz (x :: r) - 1, by omega⟩
      rw [hm']; rfl
    rw [hd, hq]
    simp only [Prod.mk.injEq, true_and]; omega
  · rw [show sz (x :: r) = 1 by omega]; rfl
theorem unq_conts (j : Nat) : ∀ u : List UInt8, j ≤ u.length → (∀ i, i < j → 128 ≤ (u.getD i 0).toNat ∧ (u.getD i 0).toNat < 192) → unq u = u.take j ++ unq (u.drop j) := by
  induction j with
  | zero => intro u _ _; simp
  | succ j ih =>
    intro u hl h
    cases u with
    | nil => simp at hl
    | cons y v =>
      have hne : y :: v ≠ [] := by simp
      have h0 := h 0 (by omega)
      have hz := sz_cont hne h0.1 h0.2
      have hc := cc_hi hne h0.1
      rw [unq_on hne (by omega), show nx (y :: v) = v by unfold nx; rw [hz]; rfl, hz]
      rw [ih v (by simp at hl; omega) (fun i hi => by have := h (i + 1) (by omega); simpa using this)]
      rfl
theorem unq_high {x : UInt8} {r : List UInt8} (h : 128 ≤ x.toNat) : unq (x :: r) = x :: unq r := by
  have h0 : x :: r ≠ [] := by simp
  have hc := cc_hi h0 (by simpa using h)
  have hz := sz_le (x :: r)
  have hp := sz_pos h0
  rw [unq_on h0 (by omega)]
  unfold nx
  obtain ⟨m, hm'⟩ : ∃ m, sz (x :: r) = m + 1 := ⟨sz (x :: r) - 1, by omega⟩
  by_cases hm : 1 < sz (x :: r)
  · have hq := unq_conts m r (by simp at hz; omega) (fun i hi => conts hm i (by omega))
    rw [hm', hq]; rfl
  · rw [show sz (x :: r) = 1 by omega]; rfl

theorem hxd_ok : ∀ n : Fin 16, hexOf ((hxd n.val).toNat : Int) = (n.val : Int) ∧ (hxd n.val).toNat < 128 := by decide
theorem hexs_stop {n : Nat} {c : Int} {r : List UInt8} : hexs n c (125 :: r) = (c, 0) := by
  cases n with
  | zero => rfl
  | succ n =>
    have := (cc_c 125 r (by decide)).1
    unfold hexs
    rw [this, if_neg (by decide)]
theorem hexs_dig {n d : Nat} (hd : d < 16) {c : Int} {r : List UInt8} : hexs (n + 1) c (hxd d :: r) = ((hexs n (c * 16 + d) r).1, (hexs n (c * 16 + d) r).2 + 1) := by
  have h := hxd_ok ⟨d, hd⟩
  simp only at h
  obtain ⟨h1, h2, h3⟩ := cc_c (hxd d) r h.2
  conv => lhs; unfold hexs
  rw [h1, h.1, h3, if_pos (by omega)]
theorem hexs_hx {c : Nat} (hc : c < 256) {r : List UInt8} : hexs 6 0 (hx c ++ 125 :: r) = ((c : Int), (hx c).length) := by
  unfold hx
  by_cases h : c < 16
  · rw [if_pos h]
    show hexs (5 + 1) 0 (hxd c :: 125 :: r) = _
    rw [hexs_dig h, hexs_stop]
    simp
  · rw [if_neg h]
    show hexs (5 + 1) 0 (hxd (c / 16) :: hxd (c % 16) :: 125 :: r) = _
    rw [hexs_dig (by omega)]
    rw [show (5 : Nat) = 4 + 1 from rfl, hexs_dig (by omega), hexs_stop]
    simp; omega
theorem taken_hx {c : Nat} (hc : c < 256) {r : List UInt8} : taken (117 :: 123 :: (hx c ++ 125 :: r)) = ((c : Int), true, 3 + (hx c).length) := by
  obtain ⟨a1, a2, a3⟩ := cc_c 117 (123 :: (hx c ++ 125 :: r)) (by decide)
  obtain ⟨b1, b2, b3⟩ := cc_c 123 (hx c ++ 125 :: r) (by decide)
  have a1' : cc (117 :: 123 :: (hx c ++ 125 :: r)) = 117 := a1
  have b1' : cc (123 :: (hx c ++ 125 :: r)) = 123 := b1
  have hd : (hx c ++ 125 :: r).drop (hx c).length = 125 :: r := List.drop_left
  have hl : (hx c).length ≠ 0 := by unfold hx; split <;> simp
  have e125 : cc (125 :: r) = 125 := (cc_c 125 r (by decide)).1
  have hv : Lib.validRune (c : Int) = true := by unfold Lib.validRune; rw [decide_eq_true_iff]; omega
  have ec : code (123 :: (hx c ++ 125 :: r)) = ((c : Int), true, 2 + (hx c).length) := by
    unfold code
    rw [if_pos b1', b3, hexs_hx hc]
    simp only
    rw [if_neg (by rw [hd, e125]; simp [hl]), hv]
  unfold taken
  rw [a1', if_neg (by omega), if_neg (by omega), if_neg (by omega), if_neg (by omega), if_pos rfl, a3, ec]
  simp only [Prod.mk.injEq, true_and]; omega
theorem drop3 {c : Nat} {r : List UInt8} : (117 :: 123 :: (hx c ++ 125 :: r) : List UInt8).drop (3 + (hx c).length) = r := by
  rw [show 3 + (hx c).length = (hx c).length + 1 + 1 + 1 by omega]
  show ((hx c ++ 125 :: r).drop ((hx c).length + 1)) = r
  rw [← List.drop_drop, List.drop_left]; rfl
theorem taken_chr {x : UInt8} {v : Int} {r : List UInt8} (h : (x = 110 ∧ v = 10) ∨ (x = 116 ∧ v = 9) ∨ (x = 34 ∧ v = 34) ∨ (x = 92 ∧ v = 92)) : taken (x :: r) = (v, true, 1) := by
  rcases h with ⟨rfl, rfl⟩ | ⟨rfl, rfl⟩ | ⟨rfl, rfl⟩ | ⟨rfl, rfl⟩
  · have e : cc (110 :: r) = 110 := (cc_c 110 r (by decide)).1
    unfold taken; rw [e]; rfl
  · have e : cc (116 :: r) = 116 := (cc_c 116 r (by decide)).1
    unfold taken; rw [e]; rfl
  · have e : cc (34 :: r) = 34 := (cc_c 34 r (by decide)).1
    unfold taken; rw [e]; rfl
  · have e : cc (92 :: r) = 92 := (cc_c 92 r (by decide)).1
    unfold taken; rw [e]; rfl
theorem slash_step {k : Nat} {u : List UInt8} {v : Int} {m : Nat} (h : taken u = (v, true, m)) : quo k (92 :: u) = ((quo k (u.drop m)).1, 1 + m + (quo k (u.drop m)).2) ∧ unq (92 :: u) = Lib.encodeRune v ++ unq (u.drop m) := by
  obtain ⟨a1, a2, a3⟩ := cc_c 92 u (by decide)
  have a1' : cc (92 :: u) = 92 := a1
  refine ⟨?_, ?_⟩
  · rw [quo_slash a1', a3, h]; rfl
  · rw [unq_esc a1', a3, h]
theorem enc_one {n : Nat} (h : n < 128) : Lib.encodeRune (n : Int) = [UInt8.ofNat n] := by
  unfold Lib.encodeRune
  rw [Lib.encodeRuneZ_one (by omega) (by omega)]; rfl

/-- A quoted byte in a text: how far it goes, and what it stands for. -/
theorem qb_step (x : UInt8) (k : Nat) (r : List UInt8) : quo k (qb x ++ r) = ((quo k r).1, (qb x).length + (quo k r).2) ∧ unq (qb x ++ r) = x :: unq r := by
  have hxe : x = UInt8.ofNat x.toNat := by simp
  unfold qb
  by_cases h1 : x.toNat = 10
  · rw [if_pos h1]
    have := slash_step (k := k) (taken_chr (x := 110) (v := 10) (r := r) (.inl ⟨rfl, rfl⟩))
    have e : x = 10 := by rw [hxe, h1]; rfl
    exact ⟨this.1, by rw [e]; exact this.2⟩
  rw [if_neg h1]
  by_cases h2 : x.toNat = 9
  · rw [if_pos h2]
    have := slash_step (k := k) (taken_chr (x := 116) (v := 9) (r := r) (.inr (.inl ⟨rfl, rfl⟩)))
    have e : x = 9 := by rw [hxe, h2]; rfl
    exact ⟨this.1, by rw [e]; exact this.2⟩
  rw [if_neg h2]
  by_cases h3 : x.toNat = 34 ∨ x.toNat = 92
  · rw [if_pos h3]
    rcases h3 with h3 | h3
    · have e : x = 34 := by rw [hxe, h3]; rfl
      have := slash_step (k := k) (taken_chr (x := 34) (v := 34) (r := r) (.inr (.inr (.inl ⟨rfl, rfl⟩))))
      rw [e]; exact ⟨this.1, this.2⟩
    · have e : x = 92 := by rw [hxe, h3]; rfl
      have := slash_step (k := k) (taken_chr (x := 92) (v := 92) (r := r) (.inr (.inr (.inr ⟨rfl, rfl⟩))))
      rw [e]; exact ⟨this.1, this.2⟩
  rw [if_neg h3]
  by_cases h4 : x.toNat < 32 ∨ x.toNat = 127
  · rw [if_pos h4]
    have hlt := x.toNat_lt
    have := slash_step (k := k) (taken_hx (c := x.toNat) (r := r) (by omega))
    rw [drop3] at this
    have el : ([92, 117, 123] ++ hx x.toNat ++ [125] ++ r : List UInt8) = 92 :: 117 :: 123 :: (hx x.toNat ++ 125 :: r) := by simp
    rw [el]
    refine ⟨?_, ?_⟩
    · rw [this.1]; simp only [Prod.mk.injEq, true_and, List.length_append, List.length_cons, List.length_nil]; omega
    · rw [this.2, enc_one (by omega)]; simp
  rw [if_neg h4]
  by_cases h5 : x.toNat < 128
  · obtain ⟨a1, a2, a3⟩ := cc_c x r h5
    refine ⟨?_, ?_⟩
    · show quo k (x :: r) = _
      rw [quo_one (by omega) (by omega) (by omega) (by omega) (by omega)]; rfl
    · show unq (x :: r) = _
      rw [unq_on (by simp) (by omega), a2, a3]; rfl
  · exact ⟨quo_high (by omega), unq_high (by omega)⟩
theorem qt_step : ∀ (l : List UInt8) (k : Nat) (r : List UInt8), quo k (qt l ++ r) = ((quo k r).1, (qt l).length + (quo k r).2) ∧ unq (qt l ++ r) = l ++ unq r
  | [], k, r => by simp [qt]
  | x :: l, k, r => by
    have ih := qt_step l k r
    have e : qt (x :: l) ++ r = qb x ++ (qt l ++ r) := by unfold qt; simp
    have hb := qb_step x k (qt l ++ r)
    have el : (qt (x :: l)).length = (qb x).length + (qt l).length := by unfold qt; simp
    rw [e, hb.1, hb.2, ih.1, ih.2, el]
    refine ⟨?_, rfl⟩
    simp only [Prod.mk.injEq, true_and]; omega
theorem quo_all (l : List UInt8) (k : Nat) : quo k (qt l ++ [34]) = (k, (qt l).length + 1) := by
  rw [(qt_step l k [34]).1, quo_shut (cc_c 34 [] (by decide)).1]
theorem unq_all (l : List UInt8) : unq (qt l) = l := by
  have := (qt_step l 6 []).2
  rw [List.append_nil, unq_nil, List.append_nil] at this; exact this
/-- What is quoted is one text. -/
theorem tok_quote (l : List UInt8) : M.tok (34 :: (qt l ++ [34])) = (6, (34 :: (qt l ++ [34])).length) := by
  obtain ⟨a1, a2, a3⟩ := cc_c 34 (qt l ++ [34]) (by decide)
  have a1' : cc (34 :: (qt l ++ [34])) = 34 := a1
  unfold M.tok
  rw [a1', if_neg (by decide), if_neg (by decide), if_neg (by decide), if_pos rfl, a3, quo_all]
  simp; omega
end Go.Proofs.YtbhcniemkjoflaaDoor
