/- Package tree: the last parts of a root. -/
import Derived.Test.YtkampoaceipngaaGreatDoorZt
import Derived.Test.YtkampoaceipngaaGreatDoorYg
import Derived.BigQuiet
namespace Go.Proofs.YtkampoaceipngaaGreatDoor
open Go.RowKit
open M

theorem IsK.keep {S : Nat → Prop} {w w' : World} {D : Nat → Prop} (hk : Kp S w w') (hD : ∀ q, D q → ¬ S q) {v : Value} {p : X.Part} (h : IsK w D v p) : IsK w' D v p := by
  cases h with
  | leaf k x => exact .leaf k x
  | kid N n k qs hn h => exact .kid N n k qs hn (h.keep hk hD)
theorem IsK.mono {w : World} {D D' : Nat → Prop} (hD : ∀ q, D q → D' q) {v : Value} {p : X.Part} (h : IsK w D v p) : IsK w D' v p := by
  cases h with
  | leaf k x => exact .leaf k x
  | kid N n k qs hn h => exact .kid N n k qs hn (h.mono hD)
theorem IsKs.keep {S : Nat → Prop} {w w' : World} {D : Nat → Prop} (hk : Kp S w w') (hD : ∀ q, D q → ¬ S q) {v : Value} {ps : List X.Part} (h : IsKs w D v ps) : IsKs w' D v ps := by
  obtain ⟨ao, cap, vs, e, h1, h2, hr, hp⟩ := h.ex
  exact ⟨ao, cap, vs, e, h1, h2, fun i hi => by obtain ⟨g, o, x1, x2, x3⟩ := hr i hi; exact ⟨g, o, x1, x2, hk.cellv x3 (hD _ x2)⟩, fun i p hp' => (hp i p hp').keep hk hD⟩
/-- The parts from one on. -/
theorem IsKs.cut {w : World} {D : Nat → Prop} {ao : Option Addr} {cap : Nat} {ps : List X.Part} (h : IsKs w D (.slice ao ps.length cap) ps) {j : Nat} (hj : j ≤ ps.length) : IsKs w D (.slice (ao.map fun x => x.add j) (ps.length - j) (cap - j)) (ps.drop j) := by
  obtain ⟨ao', cap', vs, e, h1, h2, hr, hp⟩ := h.ex
  obtain ⟨rfl, -, rfl⟩ := Value.slice.inj e
  refine ⟨_, _, fun i => vs (j + i), by rw [List.length_drop], by rw [List.length_drop]; omega, by omega, fun i hi => ?_, fun i p hp' => ?_⟩
  · rw [List.length_drop] at hi
    obtain ⟨g, o, x1, x2, x3⟩ := hr (j + i) (by omega)
    exact ⟨g, o + j, by rw [x1, Option.map_some, Addr.add_lit], x2, by rw [Nat.add_assoc]; exact x3⟩
  · rw [List.getElem?_drop] at hp'
    exact hp _ _ hp'
/-- One part, in a row of its own. -/
theorem one_isKs {w wr : World} {D : Nat → Prop} {v : Value} {p : X.Part} (hB : Below w.heap.size w wr) (hk : IsK w D v p) (ty : TypeId) : IsKs (wr.alloc (.cells #[v] ty)) (fun q => D q ∨ q = wr.heap.size) (.slice (some ⟨wr.heap.size, 0, none⟩) 1 1) [p] := by
  refine ⟨_, 1, fun _ => v, rfl, Nat.le_refl _, by decide, fun i hi => ?_, fun i q hq => ?_⟩
  · obtain rfl : i = 0 := by simp at hi; exact hi
    exact ⟨_, _, rfl, .inr rfl, by rw [cell_of_row _ _ 0 _ _ _ (heap_alloc_new wr _)]; rfl⟩
  · have hb : Below w.heap.size w (wr.alloc (.cells #[v] ty)) := hB.alloc hB.size _
    have h1 := (hk.keep (Kp.ofBelow hb (fun _ => False)) (fun _ _ => id)).mono (D' := fun q => D q ∨ q = wr.heap.size) (fun q => .inl)
    cases i with
    | zero => cases hq; exact h1
    | succ i => cases hq
theorem pls_one (p : X.Part) : (X.pls [p]).length = (X.pl p).length := by rw [X.pls, X.pls, List.append_nil]
set_option maxRecDepth 100000 in
set_option maxHeartbeats 1000000 in
theorem ending_any (w : World) (D : Nat → Prop) (rv : Value) (ps : List X.Part) (T : Nat) (h : IsKs w D rv ps) (hl : (X.pls ps).length ≤ 1073741824) (hpl : ps.length ≤ 1073741824) (hT : T ≤ 1073741824) :
    Calls Tryz.prog 35 #[rv, .int .i64 T] w fun e w' => ∃ rv' i, e = .returned rv' ∧ i ≤ ps.length ∧ Hid (IsKs w' D rv' (ps.drop i)) ∧ Hid ((X.pls (ps.drop i)).length ≤ T) ∧ Hid (i = 0 ∨ T < (X.pls (ps.drop (i - 1))).length) ∧ Below w.heap.size w w' := by
  have HI := hide h
  obtain ⟨ao, cap, vs, rfl, hcap, hcm, hr, hp⟩ := h.ex
  have HR := hide hr
  have HP := hide hp
  clear hr hp h
  go_enter Tryz.func35, Tryz.ntmps35
  go_wp2_with fail
  go_loopw [1, 5] (fun t v wr => ∃ (j tk : Nat), t = .int .i64 tk ∧ v = .int .i64 j ∧ j ≤ ps.length ∧ Hid ((X.pls (ps.drop j)).length + tk = T) ∧ Hid (Below w.heap.size w wr)) (fun _ v _ => (intOf v).toNat)
  case atStart => exact ⟨ps.length, T, rfl, rfl, Nat.le_refl _, (by show _ = _; simp [X.pls]), Below.refl _ _⟩
  case round =>
    obtain ⟨j, tk, rfl, rfl, hjl, HQ, HBl⟩ := hrel
    have htk : tk ≤ 1073741824 := by have := HQ.out; omega
    by_cases hj : j = 0
    · subst hj
      have HE : Hid (IsKs wr D (.slice ao ps.length cap) (ps.drop 0)) := by
        have := (HI.out).keep (Kp.ofBelow HBl.out (fun _ => False)) (fun _ _ => id)
        rwa [← List.drop_zero (l := ps)] at this
      have HL : Hid ((X.pls (ps.drop 0)).length ≤ T) := by show _ ≤ _; have := HQ.out; omega
      go_wp2_with fail
      go_ret
      exact ⟨_, 0, rfl, Nat.zero_le _, HE, HL, (.inl rfl : _ ∨ _), HBl.out⟩
    · have i1 : decide (0 < (j : Int)) = true := by simp; omega
      have i2 : decide ((j : Int) > 0) = true := by simp; omega
      have hlt : j - 1 < ps.length := by omega
      obtain ⟨g, o, rfl, hDg, hcell⟩ := (HR.out) (j - 1) hlt
      have hka := Kp.ofBelow HBl.out (fun _ => False)
      have p0 := hka.cellv hcell id
      have e1 : ((j : Int) - 1) = ((j - 1 : Nat) : Int) := by omega
      have hi1 : (0 : Int) ≤ ((j - 1 : Nat) : Int) := Int.natCast_nonneg _
      have hi2 : ((j - 1 : Nat) : Int) < (ps.length : Int) := by omega
      have hk := (HP.out) (j - 1) _ (List.getElem?_eq_getElem hlt)
      obtain ⟨ty, x, hv⟩ := hk.part.iface
      rw [hv] at p0 hk hcell
      have HK := hide hk
      have hst := pls_drop hlt
      rw [Nat.sub_add_cancel (by omega)] at hst
      have hln : (X.pl ps[j - 1]).length ≤ 1073741824 := by
        have h1 := X.pls_take_drop ps (j - 1)
        omega
      have HC := hide hcell
      have hq := HQ.out
      clear hcell hka hv hk
      generalize ps[j - 1] = pj at *
      have hpo := pls_one pj
      generalize hnn : (X.pl pj).length = n at *
      clear hnn
      have HPO := hide hpo
      have hkA : ∀ (W : World) (ob : Obj), Below w.heap.size w W → Below w.heap.size w (W.alloc ob) := fun W ob h => h.alloc h.size _
      have HKA := hide hkA
      clear hkA hpo
      by_cases hc : n ≤ tk
      · have i3 : decide ((n : Int) ≤ (tk : Int)) = true := by simp; omega
        have HN : Hid ((X.pls (ps.drop (j - 1))).length + (tk - n) = T) := by show _ = _; omega
        have e2 : ((tk : Int) - (n : Int)) = ((tk - n : Nat) : Int) := by omega
        clear hq hst HQ
        go_wp2_with fail
        refine (tokensOf_any _ _ _ [pj] (one_isKs HBl.out HK.out _) (by rw [HPO.out]; exact hln) (by simp)).mono ?_
        rintro e w1 ⟨rfl, k1⟩
        rw [HPO.out]
        have HB1 : Hid (Below w.heap.size w w1) := by
          exact ((HKA.out) wr _ HBl.out).trans (k1.mono ((HKA.out) wr _ HBl.out).size)
        have p1 := (Kp.ofBelow HB1.out (fun _ => False)).cellv HC.out id
        clear k1 p0
        go_wp2_with fail
        refine (tokensOf_any _ _ _ [pj] (one_isKs HB1.out HK.out _) (by rw [HPO.out]; exact hln) (by simp)).mono ?_
        rintro e w2 ⟨rfl, k2⟩
        rw [HPO.out]
        have HB2 : Hid (Below w.heap.size w w2) := by
          exact ((HKA.out) w1 _ HB1.out).trans (k2.mono ((HKA.out) w1 _ HB1.out).size)
        clear k2 p1
        go_wp2_with fail
        exact ⟨⟨j - 1, tk - n, by go_num, by go_num, by omega, HN, HB2⟩, by simp only [intOf]; omega⟩
      · have i3 : decide ((n : Int) ≤ (tk : Int)) = false := by simp; omega
        have HL : Hid ((X.pls (ps.drop j)).length ≤ T) := by show _ ≤ _; omega
        have HM : Hid (j = 0 ∨ T < (X.pls (ps.drop (j - 1))).length) := by show _ ∨ _; right; omega
        clear hq hst HQ
        go_wp2_with fail
        refine (tokensOf_any _ _ _ [pj] (one_isKs HBl.out HK.out _) (by rw [HPO.out]; exact hln) (by simp)).mono ?_
        rintro e w1 ⟨rfl, k1⟩
        rw [HPO.out]
        have HB1 : Hid (Below w.heap.size w w1) := by
          exact ((HKA.out) wr _ HBl.out).trans (k1.mono ((HKA.out) wr _ HBl.out).size)
        have HE : Hid (IsKs w1 D (.slice (some ⟨g, o + j, none⟩) (ps.length - j) (cap - j)) (ps.drop j)) := by
          have h1 := ((HI.out).cut hjl).keep (Kp.ofBelow HB1.out (fun _ => False)) (fun _ _ => id)
          rwa [Option.map_some, Addr.add_lit] at h1
        clear k1 p0
        by_cases hcj : cap = j
        · subst hcj
          have HE2 : Hid (IsKs w1 D (.slice (some ⟨g, o, none⟩) 0 0) (ps.drop cap)) := by
            have e3 : ps.drop cap = [] := List.drop_eq_nil_of_le (by omega)
            rw [e3]
            exact ⟨_, 0, fun _ => .bool false, rfl, Nat.le_refl _, by omega, fun i hi => absurd hi (Nat.not_lt_zero _), fun i p h => by cases h⟩
          clear HE
          go_wp2_with fail
          go_ret
          exact ⟨_, cap, rfl, hjl, HE2, HL, HM, HB1.out⟩
        · go_wp2_with fail
          go_ret
          exact ⟨_, j, rfl, hjl, HE, HL, HM, HB1.out⟩
end Go.Proofs.YtkampoaceipngaaGreatDoor
/- Package tree: the first kids of an old root are kept. -/
namespace Go.Proofs.YtkampoaceipngaaGreatDoor
open Go.RowKit
open M

set_option maxRecDepth 100000 in
set_option maxHeartbeats 4000000 in
theorem nextFrom_same (rb : Nat) (s wd : ByteArray) (tv : Value) (L : List Tk) (a n k dp : Int) (w : World) (h : RawT w rb s tv a n k wd dp) (hT : IsT w tv L) (hL : L.length ≤ 1073741824) (p : Nat) (hp : p ≤ 1073741824) (q : Nat) (HQ : Hid (p + ((L.drop p).takeWhile qk).length = q)) :
    Calls Tryz.prog 62 #[.pointer (some ⟨rb, 0, none⟩), .int .i64 p] w fun e w' => e = .returned (.int .i64 q) ∧ w' = w := by
  have HR := hide h
  have HT := hide hT
  obtain ⟨ao, cap, rfl, hc1, hc2, -⟩ := hT
  clear h
  go_enter Tryz.func62, Tryz.ntmps62
  go_wp2_with fail
  go_loopw [1] (fun v wr => ∃ j : Nat, v = .int .i64 ((p + j : Nat) : Int) ∧ p + j ≤ p + L.length ∧ Hid (((L.drop p).takeWhile qk).length = j + ((L.drop (p + j)).takeWhile qk).length) ∧ Hid (wr = w)) (fun v _ => p + L.length - (intOf v).toNat)
  case atStart => exact ⟨0, rfl, by omega, (by show _ = _; simp), (rfl : _ = _)⟩
  case round =>
    obtain ⟨j, rfl, hj, HJ, HB⟩ := hrel
    have hww : wr = w := HB.out
    subst hww
    obtain ⟨⟨c0, c1, c2, c3, c4, c5, c6⟩, -⟩ := (HR.out).facts
    have hjb : p + j ≤ 2147483648 := by omega
    generalize hm : p + j = m at *
    have HM := hide hm
    clear hm
    by_cases hlt : m < L.length
    case neg =>
      have i1 : decide (m < L.length) = false := by simp; omega
      have i2 : decide ((m : Int) < (L.length : Int)) = false := by simp; omega
      have HE : Hid (q = m) := by
        have h0 := HQ.out
        have h1 := HJ.out
        have h2 := HM.out
        rw [(List.drop_eq_nil_iff.2 (by omega) : L.drop m = [])] at h1
        show _ = _
        simp at h1; omega
      obtain rfl := HE.out
      go_wp2_with fail
      go_ret
      exact ⟨rfl, rfl⟩
    obtain ⟨b', o', t, rfl, ht, q1, q2, q3⟩ := (HT.out).get (Below.refl _ _) hlt
    have i1 : decide (m < L.length) = true := by simp; omega
    have i2 : decide ((m : Int) < (L.length : Int)) = true := by simp; omega
    have hd : L.drop m = t :: L.drop (m + 1) := drop_at ht
    by_cases hq : qk t = true
    · have i3 : decide ((t.kind : Int) = 1 ∨ (t.kind : Int) = 2) = true := by
        unfold qk at hq; simp at hq ⊢; omega
      have HJ' : Hid (((L.drop p).takeWhile qk).length = (j + 1) + ((L.drop (m + 1)).takeWhile qk).length) := by
        have h1 := HJ.out
        show _ = _
        rw [hd, List.takeWhile_cons_of_pos hq, List.length_cons] at h1; omega
      clear hd hq ht
      go_wp2_with fail
      refine (isQuiet_any _ _).mono ?_
      rintro e w2 ⟨rfl, rfl⟩
      go_wp2_with fail
      refine ⟨⟨j + 1, ?_, by have := HM.out; omega, ?_, (by first | exact (rfl : _ = _) | exact hide trivial)⟩, by simp only [intOf]; omega⟩
      · rw [show p + (j + 1) = m + 1 by have := HM.out; omega]; rfl
      · rw [show p + (j + 1) = m + 1 by have := HM.out; omega]; exact HJ'
    · have hq' : qk t = false := by simpa using hq
      have i3 : decide ((t.kind : Int) = 1 ∨ (t.kind : Int) = 2) = false := by
        unfold qk at hq'; simp at hq' ⊢; omega
      have HE : Hid (q = m) := by
        have h0 := HQ.out
        have h1 := HJ.out
        have h2 := HM.out
        rw [hd, List.takeWhile_cons_of_neg (by simpa using hq')] at h1
        show _ = _
        simp at h1; omega
      obtain rfl := HE.out
      clear hd hq ht hq'
      go_wp2_with fail
      refine (isQuiet_any _ _).mono ?_
      rintro e w2 ⟨rfl, rfl⟩
      go_wp2_with fail
      go_ret
      exact ⟨rfl, rfl⟩

/-- How many tokens the first parts have. -/
def tkn (ps : List X.Part) (j : Nat) : Nat := (X.pls (ps.take j)).length
theorem tkn_succ {ps : List X.Part} {j : Nat} (h : j < ps.length) : tkn ps (j + 1) = tkn ps j + (X.pl ps[j]).length := by
  unfold tkn
  rw [List.take_succ_eq_append_getElem h, X.pls_append, List.length_append, pls_one]
/-- A kid is kept. -/
def kept (L : List Tk) (ps : List X.Part) (A i : Nat) : Prop := (∃ k qs, ps[i]? = some (.br k qs)) ∧ nxI L (tkn ps (i + 1)) < A
/-- Where keep stands. -/
structure InK (w : World) (rb : Nat) (s : ByteArray) (L : List Tk) (tv : Value) (B : Nat) (rv : Value) (ps : List X.Part) (D : Nat → Prop) (A j : Nat) (rvj : Value) (vsj : List Value) (wr : World) : Prop where
  wk : Wk wr rb s L tv (tkn ps j) 0 B 2 rvj vsj (ps.take j) D
  ks : ∀ (i : Nat) (p : X.Part), (ps.take j)[i]? = some p → ∃ v, vsj[i]? = some v ∧ IsK wr D v p
  al : ∀ i, i < j → kept L ps A i
  kp : Kp (Sr rb B rv) w wr
  ow : ∀ g, rvj.ownBlock = some g → rv.ownBlock = some g ∨ w.heap.size ≤ g
theorem InK.below {w : World} {rb : Nat} {s : ByteArray} {L : List Tk} {tv : Value} {B : Nat} {rv : Value} {ps : List X.Part} {D : Nat → Prop} {A j : Nat} {rvj : Value} {vsj : List Value} {wr w' : World} (h : InK w rb s L tv B rv ps D A j rvj vsj wr) (hb : Below wr.heap.size wr w') : InK w rb s L tv B rv ps D A j rvj vsj w' :=
  ⟨h.wk.below hb, fun i p hp => by obtain ⟨v, h1, h2⟩ := h.ks i p hp; exact ⟨v, h1, h2.keep (Kp.ofBelow hb (fun _ => False)) (fun _ _ => id)⟩, h.al, h.kp.trans (Kp.ofBelow hb (fun _ => False)) (fun _ _ h => h.elim), h.ow⟩
/-- A kid is laid down. -/
theorem keep_add {w : World} {rb : Nat} {s : ByteArray} {L : List Tk} {tv : Value} {B : Nat} {rv : Value} {ps : List X.Part} {D : Nat → Prop} {A j : Nat} {rvj : Value} {vsj : List Value} {wr w6 : World} {rv6 : Value} {N n k : Nat} {qs : List X.Part} (h : InK w rb s L tv B rv ps D A j rvj vsj wr)
    (b6 : Bran w6 B 2 rv6 (vsj ++ [.iface 63 (.agg #[.pointer (some ⟨N, 0, none⟩), .int .i64 n])])) (o6 : ∀ g, rv6.ownBlock = some g → rvj.ownBlock = some g ∨ wr.heap.size ≤ g) (k6 : Kp (Sb B rvj) wr w6) (hD : ∀ q, D q → ¬ Sr rb B rv q) (hk : IsP w D (.iface 54 (.pointer (some ⟨N, 0, none⟩))) (.br k qs)) (hn : n = (X.pls qs).length) :
    Wk w6 rb s L tv (tkn ps j) 0 B 2 rv6 (vsj ++ [.iface 63 (.agg #[.pointer (some ⟨N, 0, none⟩), .int .i64 n])]) (ps.take j ++ [.br k qs]) D ∧ (∀ (i : Nat) (p : X.Part), (ps.take j ++ [.br k qs])[i]? = some p → ∃ v, (vsj ++ [.iface 63 (.agg #[.pointer (some ⟨N, 0, none⟩), .int .i64 n])])[i]? = some v ∧ IsK w6 D v p) ∧ Kp (Sr rb B rv) w w6 ∧ (∀ g, rv6.ownBlock = some g → rv.ownBlock = some g ∨ w.heap.size ≤ g) := by
  have hS : ∀ q, D q → ¬ Sb B rvj q := by
    rintro q hq (e | e)
    · exact h.wk.sep.2.1 (e ▸ hq)
    · exact (h.wk.sepG q e).1 hq
  have hp : IsP w6 D (.iface 54 (.pointer (some ⟨N, 0, none⟩))) (.br k qs) := (hk.keep h.kp hD).keep k6 hS
  refine ⟨h.wk.added b6 o6 k6 (.kid N n _ hn hp), fun i p hi => ?_, h.kp.trans k6 (fun i hi e => ?_), fun g hg => ?_⟩
  · have hl := h.wk.len
    rcases Nat.lt_or_ge i (ps.take j).length with g | g
    · rw [List.getElem?_append_left g] at hi
      obtain ⟨v, h1, h2⟩ := h.ks i p hi
      exact ⟨v, by rw [List.getElem?_append_left (by omega)]; exact h1, h2.keep k6 hS⟩
    · rw [List.getElem?_append_right g] at hi
      have e0 : i - (ps.take j).length = 0 := by
        rcases Nat.eq_zero_or_pos (i - (ps.take j).length) with h | h
        · exact h
        · rw [List.getElem?_eq_none (by simpa using Nat.succ_le_of_lt h)] at hi; cases hi
      rw [e0] at hi
      cases hi
      refine ⟨_, by rw [List.getElem?_append_right (by omega), hl, e0]; rfl, .kid N n k qs hn hp⟩
  · rcases e with e | e
    · exact .inr (.inl e)
    · rcases h.ow i e with e | e
      · exact .inr (.inr e)
      · omega
  · rcases o6 g hg with e | e
    · exact h.ow g e
    · exact .inr (Nat.le_trans h.kp.size e)
theorem keep_pass {w : World} {rb : Nat} {s : ByteArray} {L : List Tk} {tv : Value} {B : Nat} {rv : Value} {ps : List X.Part} {D : Nat → Prop} {A j : Nat} {vs6 : List Value} {w6 w7 : World} {rv6 : Value} {n k : Nat} {qs : List X.Part}
    (h : Wk w6 rb s L tv (tkn ps j) 0 B 2 rv6 vs6 (ps.take j ++ [.br k qs]) D ∧ (∀ (i : Nat) (p : X.Part), (ps.take j ++ [.br k qs])[i]? = some p → ∃ v, vs6[i]? = some v ∧ IsK w6 D v p) ∧ Kp (Sr rb B rv) w w6 ∧ (∀ g, rv6.ownBlock = some g → rv.ownBlock = some g ∨ w.heap.size ≤ g))
    (k7 : On rb w6 w7) (r7 : RdrT w7 rb s L tv (tkn ps j + n) 0) (hn : tkn ps j + n = tkn ps (j + 1)) (hlt : j < ps.length) (hpe : ps[j] = .br k qs) (hal : ∀ i, i < j + 1 → kept L ps A i) : InK w rb s L tv B rv ps D A (j + 1) rv6 vs6 w7 := by
  obtain ⟨h1, h2, h3, h4⟩ := h
  have ht : ps.take (j + 1) = ps.take j ++ [.br k qs] := by rw [List.take_succ_eq_append_getElem hlt, hpe]
  have hD : ∀ q, D q → ¬ q = rb := fun q hq e => h1.sep.1 (e ▸ hq)
  refine ⟨by rw [ht, ← hn]; exact h1.moved k7 r7, fun i p hi => ?_, hal, h3.trans k7 (fun i _ e => .inl e), h4⟩
  rw [ht] at hi
  obtain ⟨v, x1, x2⟩ := h2 i p hi
  exact ⟨v, x1, x2.keep k7 hD⟩
set_option maxRecDepth 100000 in
set_option maxHeartbeats 1000000 in
theorem keep_any (w : World) (rb : Nat) (s : ByteArray) (L : List Tk) (tv : Value) (B : Nat) (rv : Value) (D : Nat → Prop) (rvo : Value) (ps : List X.Part) (A : Nat) (hS : TokS s L) (hA : A ≤ L.length) (h : Wk w rb s L tv 0 0 B 2 rv [] [] D) (ho : IsKs w D rvo ps) (hpl : ps.length ≤ 1073741824) (hl : (X.pls ps).length ≤ 268435456) :
    Calls Tryz.prog 33 #[.pointer (some ⟨rb, 0, none⟩), .pointer (some ⟨B, 0, none⟩), rvo, .int .i64 A] w fun e w' => e = .returned (.tuple #[]) ∧ ∃ j rvj vsj, j ≤ ps.length ∧ Hid (InK w rb s L tv B rv ps D A j rvj vsj w') ∧ Hid (j < ps.length → ¬ kept L ps A j) := by
  have HW := hide h
  obtain ⟨ao, cap, vs, rfl, hcap, hcm, hr, hp⟩ := ho.ex
  have hsz := hS.len
  have hD : ∀ q, D q → ¬ Sr rb B rv q := by
    intro q hq e
    rcases e with e | e | e
    · exact h.sep.1 (e ▸ hq)
    · exact h.sep.2.1 (e ▸ hq)
    · exact (h.sepG q e).1 hq
  have HD := hide hD
  have HR := hide hr
  have HP := hide hp
  have H0 : Hid (InK w rb s L tv B rv ps D A 0 rv [] w) := (⟨h, fun i p hp' => by simp at hp', fun i hi => absurd hi (Nat.not_lt_zero _), Kp.refl _ _, fun g hg => .inl hg⟩ : InK _ _ _ _ _ _ _ _ _ _ _ _ _ _)
  clear hr hp h hD ho
  go_enter Tryz.func33, Tryz.ntmps33
  go_wp2_with fail
  go_loopw [14] (fun v wr => ∃ (j : Nat) (rvj : Value) (vsj : List Value), v = .int .i64 j ∧ j ≤ ps.length ∧ Hid (InK w rb s L tv B rv ps D A j rvj vsj wr)) (fun v _ => ps.length - (intOf v).toNat)
  case atStart => exact ⟨0, rv, [], rfl, Nat.zero_le _, H0⟩
  case round =>
    obtain ⟨j, rvj, vsj, rfl, hjl, HI⟩ := hrel
    by_cases hlt : j < ps.length
    case neg =>
      have i1 : decide (j < ps.length) = false := by simp; omega
      have i2 : decide ((j : Int) < (ps.length : Int)) = false := by simp; omega
      go_wp2_with fail
      go_end0
      exact ⟨rfl, j, rvj, vsj, hjl, HI, (fun h => absurd h hlt : _ → _)⟩
    have i1 : decide (j < ps.length) = true := by simp; omega
    have i2 : decide ((j : Int) < (ps.length : Int)) = true := by simp; omega
    have hpj : ps[j]? = some ps[j] := List.getElem?_eq_getElem hlt
    have hst := tkn_succ hlt
    have hk := (HP.out) j _ hpj
    obtain ⟨g, o, rfl, hDg, hcell⟩ := (HR.out) j hlt
    have p0 := ((HI.out).kp).cellv hcell ((HD.out) g hDg)
    have hi1 : (0 : Int) ≤ (j : Int) := Int.natCast_nonneg _
    have hi2 : (j : Int) < (ps.length : Int) := by omega
    clear hcell
    have hle2 := X.pls_take_drop ps (j + 1)
    have hle3 : tkn ps (j + 1) ≤ 268435456 := by unfold tkn; omega
    clear hle2
    generalize hpe : ps[j] = pj at *
    generalize vs j = vj at *
    cases hk with
    | leaf k x =>
      have hta := ta_kid0 (.int .i64 k) (.int .i64 x.length)
      have HN : Hid (j < ps.length → ¬ kept L ps A j) := by
        show _ → _
        intro _ e
        obtain ⟨⟨k', qs, e1⟩, -⟩ := e
        rw [hpj] at e1
        cases e1
      have HI2 : ∀ o : Obj, ∀ m, Hid (InK w rb s L tv B rv ps D A j rvj vsj ((wr.alloc o).drewN m)) := fun o m => by
        have hb : Below wr.heap.size wr ((wr.alloc o).drewN m) := belowN ((Below.refl _ wr).alloc (Nat.le_refl _) o) m
        exact (HI.out).below hb
      have HI2' := hide HI2
      clear hst hpj hpe hle3 HI2
      go_wp2_with fail
      go_quiet (fail)
      go_wp2_with fail
      refine bodyPost_ret (results_none rfl _ _ _) rfl ?_
      exact ⟨rfl, j, rvj, vsj, hjl, (HI2'.out) _ _, HN⟩
    | kid N n k qs hn h =>
      have hta := ta_kid1 (.pointer (some ⟨N, 0, none⟩)) (.int .i64 n)
      have hn2 : tkn ps j + n = tkn ps (j + 1) := by rw [hst, hn]; rfl
      have HKd := hide h
      have HNn := hide hn
      clear hst h hn
      go_wp2_with fail
      have HI1 : Hid (InK w rb s L tv B rv ps D A j rvj vsj (wr.alloc (.cells #[.pointer (some ⟨N, 0, none⟩), .int .i64 n] 63))) := (HI.out).below ((Below.refl _ wr).alloc (Nat.le_refl _) _)
      have x0 := cell_of_row _ _ 0 _ _ _ (heap_alloc_new wr (.cells #[.pointer (some ⟨N, 0, none⟩), .int .i64 n] 63))
      have x1 := cell_of_row _ _ 1 _ _ _ (heap_alloc_new wr (.cells #[.pointer (some ⟨N, 0, none⟩), .int .i64 n] 63))
      have hkB := (HI.out).wk.bra.lt
      have hkO : ∀ q, rvj.ownBlock = some q → q < wr.heap.size := fun q e => (owns_ge (HI.out).wk.bra.row q e).2
      have HKO := hide hkO
      generalize hW : wr.alloc (.cells #[.pointer (some ⟨N, 0, none⟩), .int .i64 n] 63) = W1 at *
      generalize wr.heap.size = kb at *
      have y0 : W1.cell? ⟨kb, 0, none⟩ = some (.pointer (some ⟨N, 0, none⟩)) := x0
      have y1 : W1.cell? ⟨kb, 1, none⟩ = some (.int .i64 n) := x1
      clear hW x0 x1 hkO
      obtain ⟨⟨c0, c1, c2, c3, c4, c5, c6⟩, f0, f1, f2, f3, f4, f5, f6⟩ := (HI1.out).wk.rdr.raw.facts
      have hw3 : IntKind.i64.wrap ((tkn ps j : Int) + (n : Int)) = ((tkn ps (j + 1) : Nat) : Int) := by
        rw [← hn2, Int.natCast_add]
        rw [IntKind.wrap_i64]
        omega
      have HQs : ∀ m, Hid (Calls Tryz.prog 62 #[.pointer (some ⟨rb, 0, none⟩), .int .i64 (tkn ps (j + 1))] (W1.drewN m) fun e w' => e = .returned (.int .i64 (nxI L (tkn ps (j + 1)))) ∧ w' = W1.drewN m) := fun m => by
        have hb := (HI1.out).below (belowN (Below.refl _ W1) m)
        exact nextFrom_same rb s _ tv L _ _ _ 0 _ hb.wk.rdr.raw hb.wk.rdr.row (by omega) (tkn ps (j + 1)) (by omega) _ (rfl : _ = _)
      have HQ := hide HQs
      clear HQs
      generalize hqq : nxI L (tkn ps (j + 1)) = q at *
      by_cases hc : A ≤ q
      · have i3 : decide ((A : Int) ≤ (q : Int)) = true := by simp; omega
        have i4 : decide ((q : Int) ≥ (A : Int)) = true := by simp; omega
        go_quiet ((go_at_call 62; exact Calls.quiet_of_same ((HQ.out) _).out))
        go_wp2_with fail
        refine bodyPost_ret (results_none rfl _ _ _) rfl ?_
        refine ⟨rfl, j, rvj, vsj, hjl, (HI1.out).below (belowN (Below.refl _ W1) _), ?_⟩
        show _ → _
        intro _ e
        have := e.2
        omega
      · have i3 : decide ((A : Int) ≤ (q : Int)) = false := by simp; omega
        have i4 : decide ((q : Int) ≥ (A : Int)) = false := by simp; omega
        go_quiet ((go_at_call 62; exact Calls.quiet_of_same ((HQ.out) _).out))
        go_wp2_with fail
        have HI3 := hide (fun m => (HI1.out).below (belowN (Below.refl _ W1) m))
        have hvl : vsj.length ≤ 1073741824 := by rw [(HI1.out).wk.len, List.length_take]; omega
        refine (add_any B 2 rvj vsj 63 _ _ ((HI3.out) _).wk.bra (fun g hg => (((HI1.out).wk).sepG g hg).2.2) hvl).mono ?_
        rintro e w6 ⟨rfl, rv6, b6, o6, k6⟩
        have hqt : tkn ps j + n ≤ L.length := by
          have : tkn ps (j + 1) ≤ q := by rw [← hqq]; unfold nxI; omega
          omega
        have z1 : w6.cell? ⟨kb, 1, none⟩ = some (.int .i64 n) := k6.cellv y1 (by
          rintro (e | e)
          · simp at e; omega
          · have := (HKO.out) _ e; simp at this)
        have HW6 := hide (keep_add ((HI3.out) _) b6 o6 k6 HD.out HKd.out HNn.out)
        have HR6 := hide ((HW6.out).1.rdr)
        clear y0 y1 k6 b6 o6 c0 c1 c2 c3 c4 c5 c6 f0 f1 f2 f3 f4 f5 f6
        go_wp2_with fail
        refine (tpass_any rb n s L tv (tkn ps j) 0 w6 hS HR6.out hqt).mono ?_
        rintro e w7 ⟨rfl, r7, k7⟩
        have HN7 : Hid (InK w rb s L tv B rv ps D A (j + 1) rv6 (vsj ++ [.iface 63 (.agg #[.pointer (some ⟨N, 0, none⟩), .int .i64 n])]) w7) := keep_pass (HW6.out) k7 r7 hn2 hlt hpe (by
          intro i hi
          rcases Nat.lt_or_ge i j with h | h
          · exact (HI.out).al i h
          · obtain rfl : i = j := by omega
            exact ⟨⟨k, qs, hpj⟩, by omega⟩)
        clear r7 k7
        go_wp2_with fail
        exact ⟨⟨j + 1, rv6, _, by go_num, by omega, HN7⟩, by simp only [intOf]; omega⟩
end Go.Proofs.YtkampoaceipngaaGreatDoor
