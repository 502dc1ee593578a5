/- The document's Anew: facts ahead of its walk. -/
import Derived.Test.YtkampoaceipngaaGreatDoorYu
import Derived.Test.YtkampoaceipngaaGreatDoorYs
import Derived.Test.YtkampoaceipngaaGreatDoorZn
import Derived.Deep.DeepCutAuto
namespace Go.Proofs.YtkampoaceipngaaGreatDoor
open Go.RowKit
open M
/-- A node's kind in memory. -/
theorem isM_kind {w : World} {lo hi : Nat} {v : Value} {p : X.Part} {i : Int} (h : IsM w lo hi v (X.put p i)) : ∃ (Ni kd : Nat), v = .pointer (some ⟨Ni, 0, none⟩) ∧ w.cell? ⟨Ni, 0, none⟩ = some (.int .i64 kd) ∧ ((∃ k x, p = .leaf k x) → kd = 0) ∧ (∀ k qs, p = .br k qs → kd = k) := by
  cases p with
  | leaf k x =>
    rw [X.put] at h
    cases h with
    | mk _ _ N _ _ _ qs at0 en fr tt la ao cap vs L H hN hbk hc hr hs hp =>
      exact ⟨N, 0, rfl, (Nd.facts hbk).1.1, fun _ => rfl, fun _ _ e => by cases e⟩
  | miss m =>
    rw [X.put] at h
    cases h with
    | mk _ _ N _ _ _ qs at0 en fr tt la ao cap vs L H hN hbk hc hr hs hp =>
      exact ⟨N, 1, rfl, (Nd.facts hbk).1.1, fun ⟨_, _, e⟩ => (by cases e), fun _ _ e => by cases e⟩
  | br k ps =>
    rw [X.put] at h
    cases h with
    | mk _ _ N _ _ _ qs at0 en fr tt la ao cap vs L H hN hbk hc hr hs hp =>
      exact ⟨N, k, rfl, (Nd.facts hbk).1.1, fun ⟨_, _, e⟩ => (by cases e), fun _ _ e => by cases e; rfl⟩
/-- A root of the document in memory, its kids. -/
theorem isM_root {w : World} {lo hi : Nat} {v : Value} {ps : List X.Part} {i : Int} (h : IsM w lo hi v (X.put (.br 2 ps) i)) : ∃ (No cap : Nat) (ao : Option Addr) (vs : Nat → Value), v = .pointer (some ⟨No, 0, none⟩) ∧ w.cell? ⟨No, 3, none⟩ = some (.slice ao ps.length cap) ∧ (∀ j, j < ps.length → ∃ g, ao = some ⟨g, 0, none⟩ ∧ w.cell? ⟨g, j, none⟩ = some (vs j)) ∧ (∀ (j : Nat) (p : X.Part), ps[j]? = some p → ∃ l u i', IsM w l u (vs j) (X.put p i')) := by
  rw [X.put] at h
  cases h with
  | mk _ _ N _ _ _ qs at0 en fr tt la ao cap vs L H hN hbk hc hr hs hp =>
    rw [X.puts_len] at hbk hr
    refine ⟨N, cap, ao, vs, rfl, (Nd.facts hbk).1.2.2.2.1, fun j hj => ?_, fun j p hj => ?_⟩
    · obtain ⟨g, e1, -, -, -, -, e2⟩ := hr j hj
      exact ⟨g, e1, e2⟩
    · obtain ⟨i', hi'⟩ := X.puts_get ps i (-1) (-1) (2 == 1) j p hj
      exact ⟨_, _, i', hp j _ hi'⟩
/-- Where the loop over the old kids stands. -/
structure InAn (Lo : List Tk) (ps : List X.Part) (A nk i kp : Nat) (st : Bool) : Prop where
  al : ∀ i, i < kp → kept Lo ps A i
  yes : st = true → kp = min i nk
  no : st = false → kp < min i nk ∧ ¬ kept Lo ps A kp
theorem InAn.le {Lo : List Tk} {ps : List X.Part} {A nk i kp : Nat} {st : Bool} (h : InAn Lo ps A nk i kp st) : kp ≤ min i nk := by
  cases st with
  | true => exact Nat.le_of_eq (h.yes rfl)
  | false => exact Nat.le_of_lt (h.no rfl).1
theorem InAn.leaf {Lo : List Tk} {ps : List X.Part} {A nk i kp : Nat} {st : Bool} (h : InAn Lo ps A nk i kp st) (hi : nk ≤ i) : InAn Lo ps A nk (i + 1) kp st :=
  ⟨h.al, fun e => by rw [h.yes e]; omega, fun e => by obtain ⟨h1, h2⟩ := h.no e; exact ⟨by omega, h2⟩⟩
theorem InAn.gone {Lo : List Tk} {ps : List X.Part} {A nk i kp : Nat} (h : InAn Lo ps A nk i kp false) : InAn Lo ps A nk (i + 1) kp false :=
  ⟨h.al, fun e => (by cases e), fun e => by obtain ⟨h1, h2⟩ := h.no e; exact ⟨by omega, h2⟩⟩
theorem InAn.more {Lo : List Tk} {ps : List X.Part} {A nk i kp : Nat} (h : InAn Lo ps A nk i kp true) (hi : i < nk) (hk : kept Lo ps A i) : kp = i ∧ InAn Lo ps A nk (i + 1) (kp + 1) true := by
  have h1 := h.yes rfl
  have h2 : kp = i := by omega
  refine ⟨h2, fun i' hi' => ?_, fun _ => by omega, fun e => by cases e⟩
  rcases Nat.lt_or_ge i' kp with g | g
  · exact h.al i' g
  · obtain rfl : i' = i := by omega
    exact hk
theorem InAn.stop {Lo : List Tk} {ps : List X.Part} {A nk i kp : Nat} (h : InAn Lo ps A nk i kp true) (hi : i < nk) (hk : ¬ kept Lo ps A i) : InAn Lo ps A nk (i + 1) kp false := by
  have h1 := h.yes rfl
  have h2 : kp = i := by omega
  exact ⟨h.al, fun e => (by cases e), fun _ => ⟨by omega, by rw [h2]; exact hk⟩⟩
/-- How many kids stay. -/
theorem InAn.done {s : ByteArray} {A nk i kp : Nat} {st : Bool} (h : InAn (toks 0 (bs s)) (X.fileL (X.xt (bs s))) A nk i kp st) (hi : i = (X.fileL (X.xt (bs s))).length) (hA : A ≤ (toks 0 (bs s)).length) (hnk : nk ≤ (X.fileL (X.xt (bs s))).length) (hq : ∀ t ∈ (X.xt (bs s)).drop (tkn (X.fileL (X.xt (bs s))) nk), X.quiet t = true) (hl : ∀ i p, nk ≤ i → (X.fileL (X.xt (bs s)))[i]? = some p → ∃ k x, p = .leaf k x)
    {j : Nat} (hj : ∀ i, i < j → kept (toks 0 (bs s)) (X.fileL (X.xt (bs s))) A i) (hjl : j ≤ (X.fileL (X.xt (bs s))).length) (hn : j < (X.fileL (X.xt (bs s))).length → ¬ kept (toks 0 (bs s)) (X.fileL (X.xt (bs s))) A j) : kp = j ∧ (0 < kp → kp < nk) := by
  have hm : min i nk = nk := by omega
  have key : ∀ i, kept (toks 0 (bs s)) (X.fileL (X.xt (bs s))) A i → i + 1 < nk := fun i hk => kept_lt hA hq hl hk
  cases st with
  | true =>
    have h1 := h.yes rfl
    rw [hm] at h1
    have h0 : nk = 0 := by
      rcases Nat.eq_zero_or_pos nk with g | g
      · exact g
      · have := key (nk - 1) (h.al (nk - 1) (by omega)); omega
    have hj0 : j = 0 := by
      rcases Nat.eq_zero_or_pos j with g | g
      · exact g
      · have := key 0 (hj 0 g); omega
    exact ⟨by omega, fun e => by omega⟩
  | false =>
    obtain ⟨h1, h2⟩ := h.no rfl
    rw [hm] at h1
    refine ⟨?_, fun _ => h1⟩
    rcases Nat.lt_trichotomy kp j with g | g | g
    · exact absurd (hj kp g) h2
    · exact g
    · exact absurd (h.al j g) (hn (by omega))
/-- The count by the document's own look for an old kid. -/
theorem AgC.doc {s N : ByteArray} {A b c nk : Nat} (hst : X.Stays (X.xt (bs s)) (X.xt (bs N)) (toks 0 (bs s)) (toks 0 (bs N)) A b) (hnk : nk ≤ (X.fileL (X.xt (bs s))).length) (hq : ∀ t ∈ (X.xt (bs s)).drop (tkn (X.fileL (X.xt (bs s))) nk), X.quiet t = true) (h : AgC s N A b c) :
    ∃ j, (∀ i, i < j → kept (toks 0 (bs s)) (X.fileL (X.xt (bs s))) A i) ∧ j ≤ (X.fileL (X.xt (bs s))).length ∧ (j < (X.fileL (X.xt (bs s))).length → ¬ kept (toks 0 (bs s)) (X.fileL (X.xt (bs s))) A j) ∧ X.Cnt (DBeg (X.fileL (X.xt (bs s))) nk (toks 0 (bs s)).length b) (remT N (toks 0 (bs N)) (tkn (X.fileL (X.xt (bs s))) j)) c := by
  obtain ⟨j, i0, h1, h2, h3, h4, h5, h6, h7⟩ := h
  refine ⟨j, fun i hi => (kept_iff hst _ i).1 (h1 i hi), h2, fun hj e => h3 hj ((kept_iff hst _ j).2 e), ?_⟩
  rw [remT_drop]
  refine h7.congr fun x hx => ?_
  rw [List.drop_drop] at hx ⊢
  rw [← xt_len]
  exact begs_iff hst hnk hq h4 h5 h6 _ hx
end Go.Proofs.YtkampoaceipngaaGreatDoor
/- The document's Anew: the walk. -/
namespace Go.Proofs.YtkampoaceipngaaGreatDoor
open Go.RowKit
open M
theorem infoI : (Tryz.prog.info? 3).map (fun i => (i.zero, i.size, i.bytes)) = some (some (.int .i64 0), 1, 8) := by kernel_rfl
/-- The places at which the first kids begin. -/
def bgv (ps : List X.Part) (m : Nat) : List Value := (List.range m).map fun j => .int .i64 (tkn ps j)
theorem bgv_len (ps : List X.Part) (m : Nat) : (bgv ps m).length = m := by unfold bgv; simp
theorem bgv_succ (ps : List X.Part) (m : Nat) : bgv ps m ++ [.int .i64 (tkn ps m)] = bgv ps (m + 1) := by unfold bgv; rw [List.range_succ, List.map_append]; rfl
theorem bgv_get {ps : List X.Part} {m j : Nat} (h : j < m) : (bgv ps m)[j]? = some (.int .i64 (tkn ps j)) := by unfold bgv; rw [List.getElem?_map, List.getElem?_range h]; rfl
theorem bgv_form {w : World} {base nk : Nat} {bb : Value} {ps : List X.Part} (h : w.ownsRow base 3 1 bb nk (bgv ps nk)) : ∃ aob capb, bb = .slice aob nk capb ∧ ∀ i, i < nk → ∃ g, aob = some ⟨g, 0, none⟩ ∧ g < w.heap.size ∧ w.cell? ⟨g, i, none⟩ = some (.int .i64 (tkn ps i)) := by
  have hc := h
  have hg := owns_ge h
  rcases h.2 with ⟨rfl, h0⟩ | ⟨g, cap, cur, rfl, -⟩
  · subst h0
    exact ⟨none, 0, rfl, fun i hi => absurd hi (Nat.not_lt_zero _)⟩
  · refine ⟨_, _, rfl, fun i hi => ⟨g, rfl, (hg g rfl).2, ?_⟩⟩
    have := hc.cells (g := g) rfl i _ (bgv_get hi)
    rwa [Addr.add_lit, Nat.zero_add] at this
set_option maxRecDepth 100000 in
set_option maxHeartbeats 4000000 in
theorem anew_any (s Y : ByteArray) (f u : Nat) (w : World) (hs : s.size ≤ 16777216) (hY : Y.size ≤ 16777216) (h1 : f ≤ u) (h2 : u ≤ s.size) (N : ByteArray) (HN : Hid (N = s.extract 0 f ++ Y ++ s.extract u s.size)) (A S : List Tk)
    (HA : Hid (anw ((Y.size : Int) - ((u : Int) - f)) (beg u (toks 0 (bs s))) (endF 0 (ahd f (toks 0 (bs s)))) ((rep (bs s) (bs Y) f u).drop (endF 0 (ahd f (toks 0 (bs s))))) = (A, S))) (c : Nat) (hc : AgC s N (ahd f (toks 0 (bs s))).length S.length c) :
    Calls Tryz.prog 15 #[.string s, .int .i64 f, .int .i64 u, .string Y] w fun e w' => e = .returned (.int .i64 c) ∧ Below w.heap.size w w' := by
  obtain ⟨i0, hi0, hz0, hz1, hz2⟩ := info_parts infoI
  have hNs : N.size = f + Y.size + (s.size - u) := by rw [HN.out]; exact rep_size s Y h1 h2
  have hNb : bs N = rep (bs s) (bs Y) f u := by rw [HN.out]; exact rep_bs s Y f u
  obtain ⟨hSt, -⟩ := X.rep_stays (T := bs s) (X := bs Y) (f := f) (u := u) h1 (by rw [bs_len]; exact h2) (A' := A) (S := S) (by rw [bs_len]; exact HA.out)
  rw [← hNb] at hSt
  clear hNb
  have hS := toks_S N (by omega)
  have hlo := toks_len _ 0 (bs s) (Nat.le_refl _)
  rw [bs_len] at hlo
  have hln := toks_len _ 0 (bs N) (Nat.le_refl _)
  rw [bs_len] at hln
  have hAo := hSt.ao
  have hbo := hSt.bo
  rw [xt_len] at hbo
  have hbn := hSt.bn
  rw [xt_len] at hbn
  obtain ⟨nk, k1, k2, k3, k4, -⟩ := X.fileL_shape _ (X.xt (bs s)) (Nat.le_refl _) (xt_kinds s)
  obtain ⟨j, j1, j2, j3, j4⟩ := AgC.doc hSt k1 k4 hc
  have HStay := hide (stay2_any s Y f u w (by omega) (by omega) h1 h2 A S HA)
  have HPar := fun W => hide (parse_any s W (by omega))
  have HDone : Hid (∀ i kp st, i = (X.fileL (X.xt (bs s))).length → InAn (toks 0 (bs s)) (X.fileL (X.xt (bs s))) (ahd f (toks 0 (bs s))).length nk i kp st → kp = j ∧ (0 < kp → kp < nk)) := fun i kp st hi h => h.done hi hAo k1 k4 k3 j1 j2 j3
  have HLv : Hid (∀ i p, (X.fileL (X.xt (bs s)))[i]? = some p → LeavesOk p ∧ (∀ k qs, p = .br k qs → k ≠ 0)) := fun i p hp => by
    have hko := X.koks_mem _ i p (by have := X.file_kok (X.xt (bs s)); rw [X.file, X.kok] at this; exact this.2) hp
    have hsz := X.file_psz (X.xt (bs s))
    have hsz2 : X.psz (X.file (X.xt (bs s))) = 1 + X.pssz (X.fileL (X.xt (bs s))) := by show X.psz (.br 2 _) = _; rw [X.psz]; rfl
    have hm := X.pssz_mem _ i p hp
    rw [xt_len] at hsz
    have hil : i < (X.fileL (X.xt (bs s))).length := by
      rcases Nat.lt_or_ge i (X.fileL (X.xt (bs s))).length with g | g
      · exact g
      · rw [List.getElem?_eq_none g] at hp; cases hp
    have hpe : (X.fileL (X.xt (bs s)))[i] = p := Option.some.inj ((List.getElem?_eq_getElem hil).symm.trans hp)
    have hpd := pls_drop hil
    have hpd2 := pls_drop_le (X.fileL (X.xt (bs s))) i
    rw [X.fileL_lvs, xt_len] at hpd2
    rw [hpe] at hpd
    refine ⟨rleaves_any _ p (Nat.le_refl _) (by omega) (by omega) hko, fun k qs e => ?_⟩
    subst e
    rw [X.kok] at hko
    exact hko.1
  have hpl : (X.fileL (X.xt (bs s))).length ≤ 117440512 := by
    have := fileL_len (X.xt (bs s))
    rw [xt_len] at this; omega
  have htk : ∀ i, tkn (X.fileL (X.xt (bs s))) i ≤ (toks 0 (bs s)).length := fun i => by
    have := tkn_drop (ts := X.xt (bs s)) i
    rw [xt_len] at this; omega
  have HTk := hide htk
  have hjt : j < nk ∨ j = 0 → tkn (X.fileL (X.xt (bs s))) j ≤ (toks 0 (bs N)).length := fun _ => by
    rcases Nat.eq_zero_or_pos j with g | g
    · subst g; unfold tkn; simp [X.pls]
    · have h5 := ((kept_iff hSt _ (j - 1)).2 (j1 (j - 1) (by omega))).2
      rw [show j - 1 + 1 = j by omega] at h5
      have h6 := hSt.an
      unfold nxI at h5
      omega
  have HJt := hide hjt
  have HK2 := hide k2
  have HK3 := hide k3
  have HCn := hide j4
  clear hSt k2 k3 k4 j1 j2 j3 j4 hc htk hjt
  generalize hal : (ahd f (toks 0 (bs s))).length = al at *
  generalize hps : X.fileL (X.xt (bs s)) = ps at *
  have HPs := hide hps
  clear hps hal
  have hf : f ≤ s.size := by omega
  have hf' : (f : Int) ≤ (s.size : Int) := by omega
  have hu' : (u : Int) ≤ (s.size : Int) := by omega
  go_enter Tryz.func15, Tryz.ntmps15
  go_wp2_with fail
  refine (HStay.out).mono ?_
  rintro e w1 ⟨rfl, k1'⟩
  have K1 := hide k1'
  clear k1' HStay
  go_wp2_with fail
  refine ((HPar w1).out).mono ?_
  rintro e w2 ⟨No, lo, hi, rfl, H2⟩
  obtain ⟨hm2, hlo2, k2⟩ := H2.out
  have hfe : X.file (X.xt (bs s)) = .br 2 ps := by rw [← HPs.out]; rfl
  rw [hfe] at hm2
  obtain ⟨No', cap0, ao0, vs0, hno, hc0, hk0, hp0⟩ := isM_root hm2
  obtain rfl : No = No' := by cases hno; rfl
  have K2 := hide ((K1.out).trans (k2.mono (K1.out).size))
  have C0 := hide hc0
  have HK0 := hide hk0
  have HP0 := hide hp0
  clear hm2 hlo2 k2 hno hc0 hk0 hp0 H2 hfe K1
  go_wp2_with fail
  go_quiet (fail)
  rw [← HN.out]
  have K3 : Hid (Below w2.heap.size w2 (w2.drewN nq)) := belowN (Below.refl _ w2) nq
  generalize w2.drewN nq = w3 at *
  go_wp2_with fail
  refine (refTokens_any s w3 (by omega)).mono ?_
  rintro e w4 ⟨v4, rfl, O4, k4⟩
  have K4 : Hid (Below w2.heap.size w2 w4) := (K3.out).trans (k4.mono (K3.out).size)
  have T4 := hide (IsT.ofOwns O4)
  clear O4 k4 K3
  obtain ⟨ao4, cap4, rfl, -⟩ := T4.out
  go_wp2_with fail
  refine (refTokens_any N w4 (by omega)).mono ?_
  rintro e w5 ⟨v5, rfl, O5, k5⟩
  have K5 : Hid (Below w2.heap.size w2 w5) := (K4.out).trans (k5.mono (K4.out).size)
  have T45 := hide ((T4.out).below k5)
  have T5 := hide (IsT.ofOwns O5)
  have HO5 := hide (owns_ge O5)
  clear O5 k5 K4 T4
  obtain ⟨ao5, cap5, hv5, -⟩ := T5.out
  subst hv5
  have K05 : Hid (Below w.heap.size w w5) := (K2.out).trans ((K5.out).mono (K2.out).size)
  have hc5 := (Kp.ofBelow K5.out (fun _ => False)).cellv C0.out id
  have C5 := hide hc5
  have HK5 : Hid (∀ j, j < ps.length → ∃ g, ao0 = some ⟨g, 0, none⟩ ∧ w5.cell? ⟨g, j, none⟩ = some (vs0 j)) := fun j hj => by
    obtain ⟨g, e1, e2⟩ := (HK0.out) j hj
    exact ⟨g, e1, (Kp.ofBelow K5.out (fun _ => False)).cellv e2 id⟩
  have HP5 : Hid (∀ (j : Nat) (p : X.Part), ps[j]? = some p → ∃ l u i', IsM w5 l u (vs0 j) (X.put p i')) := fun j p hp => by
    obtain ⟨l, u, i', h⟩ := (HP0.out) j p hp
    exact ⟨l, u, i', h.keep (Kp.ofBelow K5.out (fun _ => False)) (fun _ _ _ => id)⟩
  clear hc5 C0 HK0 HP0 K5 K2
  go_wp2_with fail
  go_loopw [16, 17, 18, 19, 20] (fun kv av bv sv iv wr => ∃ (i kp : Nat) (st : Bool) (bb : Value), kv = .int .i64 kp ∧ av = .int .i64 (tkn ps (min i nk)) ∧ bb = bv ∧ sv = .bool st ∧ iv = .int .i64 i ∧ i ≤ ps.length ∧ Hid (InAn (toks 0 (bs s)) ps al nk i kp st) ∧ Hid (wr.ownsRow w5.heap.size 3 1 bb (min i nk) (bgv ps (min i nk))) ∧ Hid (Below w5.heap.size w5 wr)) (fun _ _ _ _ iv _ => ps.length - (intOf iv).toNat)
  case atStart => exact ⟨0, 0, true, _, rfl, rfl, rfl, rfl, rfl, Nat.zero_le _, ⟨fun i hi => absurd hi (Nat.not_lt_zero _), fun _ => by omega, fun e => by cases e⟩, (by rw [Nat.zero_min]; exact World.ownsRow_nil _ _ _ _), Below.refl _ _⟩
  case round =>
    obtain ⟨i, kp, st, bb, rfl, rfl, rfl, rfl, rfl, hil, HIn, HRow, HB⟩ := hrel
    have m3 := (Kp.ofBelow HB.out (fun _ => False)).cellv C5.out id
    by_cases hlt : i < ps.length
    case neg =>
      have i5 : decide (i < ps.length) = false := by simp; omega
      have i6 : decide ((i : Int) < (ps.length : Int)) = false := by simp; omega
      obtain ⟨hkj, hkn⟩ := (HDone.out) i kp st (by omega) HIn.out
      subst hkj
      have hmn : min i nk = nk := by omega
      rw [hmn] at HRow ⊢
      obtain ⟨aob, capb, rfl, hbg⟩ := bgv_form HRow.out
      have hrbs : w5.heap.size ≤ wr.heap.size := (HB.out).size
      have HR0 : Hid (RdM (wr.alloc (.cells #[.string N, .slice ao5 (toks 0 (bs N)).length cap5, .int .i64 0, .int .i64 0, .bool false] 74)) wr.heap.size N (toks 0 (bs N)) (.slice ao5 (toks 0 (bs N)).length cap5) 0 0) := by
        have kR : Below wr.heap.size wr (wr.alloc (.cells #[.string N, .slice ao5 (toks 0 (bs N)).length cap5, .int .i64 0, .int .i64 0, .bool false] 74)) := (Below.refl _ wr).alloc (Nat.le_refl _) _
        exact ⟨⟨false, heap_alloc_new wr _⟩, ((T5.out).below HB.out).below kR, Nat.zero_le _, fun q e => by have := (HO5.out) q e; exact ⟨by omega, by simp; omega⟩⟩
      have HBg : Hid (∀ i, i < nk → ∃ g, aob = some ⟨g, 0, none⟩ ∧ g < wr.heap.size ∧ (wr.alloc (.cells #[.string N, .slice ao5 (toks 0 (bs N)).length cap5, .int .i64 0, .int .i64 0, .bool false] 74)).cell? ⟨g, i, none⟩ = some (.int .i64 (tkn ps i))) := fun i hi => by
        obtain ⟨g, e1, e2, e3⟩ := hbg i hi
        have kR : Below wr.heap.size wr (wr.alloc (.cells #[.string N, .slice ao5 (toks 0 (bs N)).length cap5, .int .i64 0, .int .i64 0, .bool false] 74)) := (Below.refl _ wr).alloc (Nat.le_refl _) _
        exact ⟨g, e1, e2, (Kp.ofBelow kR (fun _ => False)).cellv e3 id⟩
      have HB6 : Hid (Below w.heap.size w (wr.alloc (.cells #[.string N, .slice ao5 (toks 0 (bs N)).length cap5, .int .i64 0, .int .i64 0, .bool false] 74))) := by
        have h := (K05.out).trans ((HB.out).mono (K05.out).size)
        exact h.trans (((Below.refl _ wr).alloc (Nat.le_refl _) _).mono h.size)
      have hrb : w.heap.size ≤ wr.heap.size := by have := (K05.out).size; omega
      clear hbg HIn HRow HDone
      go_upto_if 124 with fail
      generalize wr.alloc (.cells #[.string N, .slice ao5 (toks 0 (bs N)).length cap5, .int .i64 0, .int .i64 0, .bool false] 74) = W6 at *
      generalize wr.heap.size = rb at *
      go_cut [] (fun wx => Hid (RdM wx rb N (toks 0 (bs N)) (.slice ao5 (toks 0 (bs N)).length cap5) (tkn ps kp) 0) ∧ Hid (Kp (fun q => q = rb) W6 wx))
      case first =>
        by_cases hj0 : kp = 0
        · subst hj0
          go_wp2_with fail
          go_meet
          case rel => exact ⟨HR0, Kp.refl _ _⟩
        · have hjn := hkn (by omega)
          have i7 : decide (0 < kp) = true := by simp; omega
          have i8 : decide ((kp : Int) > 0) = true := by simp; omega
          have i8b : decide ((0 : Int) < (kp : Int)) = true := by simp; omega
          have i9 : decide (kp < nk) = true := by simp; omega
          have i10 : decide ((kp : Int) < (nk : Int)) = true := by simp; omega
          obtain ⟨g, rfl, hgl, hgc⟩ := (HBg.out) kp hjn
          obtain ⟨cc, hraw⟩ := (HR0.out).raw
          obtain ⟨⟨c0, c1, c2, c3⟩, f2, -⟩ := hraw.facts
          have hi3 : (0 : Int) ≤ (kp : Int) := Int.natCast_nonneg _
          have hi4 : (kp : Int) < (nk : Int) := by omega
          have hgr : g ≠ rb := by omega
          have hgc2 : ∀ v, (W6.setCell ⟨rb, 2, none⟩ v).cell? ⟨g, kp, none⟩ = some (.int .i64 (tkn ps kp)) := fun v => by
            rw [World.cell?_setCell_other _ _ _ _ (by simp <;> omega)]; exact hgc
          have HRw := hide hraw
          clear hraw
          go_wp2_with fail
          go_meet
          case rel =>
            have hr2 := ((HRw.out).set2 ((toks 0 (bs s)).length : Int)).set2 (tkn ps kp : Int)
            have hon : Kp (fun q => q = rb) W6 ((W6.setCell ⟨rb, 2, none⟩ (.int .i64 (toks 0 (bs s)).length)).setCell ⟨rb, 2, none⟩ (.int .i64 (tkn ps kp))) := On.set (On.set (Kp.refl _ W6) 2 _) 2 _
            exact ⟨(HR0.out).moved hon hr2 ((HJt.out) (.inl hjn)), hon⟩
      case rest =>
        obtain ⟨HR1, HK1⟩ := hcut
        clear HR0
        have HLn : Hid (∀ a, (remT N (toks 0 (bs N)) a).length = (toks 0 (bs N)).length - a) := fun a => by unfold remT; simp
        have hgoal : Hid (∀ w', Kp (fun q => q = rb) W6 w' → Below w.heap.size w w') := fun w' hk => (HB6.out).trans (Kp.below hk (HB6.out).size (fun k e => by omega))
        go_wp2_with fail
        refine (rkind_any rb N (toks 0 (bs N)) _ (tkn ps kp) 0 wc hS HR1.out).mono ?_
        rintro e w7 ⟨rfl, k7⟩
        have HR7 := hide ((HR1.out).below k7)
        have HK7 : Hid (Kp (fun q => q = rb) W6 w7) := (HK1.out).trans (Kp.ofBelow k7 (fun _ => False)) (fun _ _ h => h.elim)
        clear k7 HR1 HK1
        go_wp2_with fail
        go_loopw [25, 26] (fun cv kv wx => ∃ (c' a : Nat), cv = .int .i64 c' ∧ kv = .int .i64 (X.kindN (remT N (toks 0 (bs N)) a)) ∧ c' ≤ a ∧ Hid (RdM wx rb N (toks 0 (bs N)) (.slice ao5 (toks 0 (bs N)).length cap5) a 0) ∧ Hid (∀ n, X.Cnt (DBeg ps nk (toks 0 (bs s)).length S.length) (remT N (toks 0 (bs N)) a) n → X.Cnt (DBeg ps nk (toks 0 (bs s)).length S.length) (remT N (toks 0 (bs N)) (tkn ps kp)) (c' + n)) ∧ Hid (Kp (fun q => q = rb) W6 wx)) (fun _ _ wx => (toks 0 (bs N)).length - atM rb wx)
        case atStart => exact ⟨0, tkn ps kp, rfl, rfl, Nat.zero_le _, HR7, (fun n hn => by rw [Nat.zero_add]; exact hn), HK7⟩
        case round =>
          obtain ⟨c', a, rfl, rfl, hca, HRx, HCnx, HKx⟩ := hrel
          clear HR7 HK7
          have hal2 := (HRx.out).le
          have hatx : atM rb wr = a := (HRx.out).at
          cases hk : ((X.kindN (remT N (toks 0 (bs N)) a) : Int) == 0) with
          | true =>
            have e0 : (X.kindN (remT N (toks 0 (bs N)) a) == 0) = true := (nb _ 0).symm.trans hk
            have n0 : ((X.kindN (remT N (toks 0 (bs N)) a) : Int) != 0) = false := by simp [bne, hk]
            have n1 : (X.kindN (remT N (toks 0 (bs N)) a) : Int) = 0 := by simpa using hk
            have HE : Hid (c' = c) := by
              have h5 := (HCnx.out) 0 (.none _ e0)
              rw [Nat.add_zero] at h5
              exact h5.det HCn.out
            go_wp2_with fail
            go_ret
            exact ⟨retn HE.out, (hgoal.out) _ HKx.out⟩
          | false =>
            have e0 : (X.kindN (remT N (toks 0 (bs N)) a) == 0) = false := (nb _ 0).symm.trans hk
            have n0 : ((X.kindN (remT N (toks 0 (bs N)) a) : Int) != 0) = true := by simp [bne, hk]
            have n1 : ¬ (X.kindN (remT N (toks 0 (bs N)) a) : Int) = 0 := by simpa using hk
            have HKN := hide e0
            obtain ⟨cc, hraw⟩ := (HRx.out).raw
            obtain ⟨⟨c0, c1, c2, c3⟩, -, -⟩ := hraw.facts
            clear hraw
            by_cases hge : (toks 0 (bs N)).length - S.length ≤ a
            case neg =>
              have i7 : decide (((toks 0 (bs N)).length : Int) - (S.length : Int) ≤ (a : Int)) = false := by simp; omega
              have i8 : decide ((a : Int) ≥ ((toks 0 (bs N)).length : Int) - (S.length : Int)) = false := by simp; omega
              have HNP : Hid (¬ DBeg ps nk (toks 0 (bs s)).length S.length ((toks 0 (bs N)).length - a)) := by
                rintro ⟨h5, -⟩; omega
              have HItem := hide (ritem_any N (toks 0 (bs N)) hS rb _ a wr (HRx.out) e0)
              go_wp2_with fail
              refine (HItem.out).mono ?_
              rintro e w9 ⟨Nn, rfl, HGv⟩
              obtain ⟨a9, r9, e9, -, on9⟩ := HGv.out
              have HR9 := hide r9
              have HK9 : Hid (Kp (fun q => q = rb) W6 w9) := (HKx.out).trans on9 (fun i _ e => e)
              have hlt9 := X.kid_lt HKN.out
              rw [← e9, (HLn.out), (HLn.out)] at hlt9
              have hle9 := (HR9.out).le
              have HCn9 : Hid (∀ n, X.Cnt (DBeg ps nk (toks 0 (bs s)).length S.length) (remT N (toks 0 (bs N)) a9) n → X.Cnt (DBeg ps nk (toks 0 (bs s)).length S.length) (remT N (toks 0 (bs N)) (tkn ps kp)) (c' + 1 + n)) := fun n hn => by
                rw [Nat.add_assoc, Nat.add_comm 1 n]
                refine (HCnx.out) (n + 1) (.on _ n HKN.out ?_ ?_)
                · rw [(HLn.out)]; exact HNP.out
                · rw [← e9]; exact hn
              have hca9 : c' + 1 ≤ a9 := by omega
              have hc9b : c' + 1 ≤ 1073741824 := by omega
              clear r9 on9 HGv HItem e9
              go_wp2_with fail
              refine (rkind_any rb N (toks 0 (bs N)) _ a9 0 w9 hS HR9.out).mono ?_
              rintro e w10 ⟨rfl, k10⟩
              have HR10 := hide ((HR9.out).below k10)
              have HK10 : Hid (Kp (fun q => q = rb) W6 w10) := (HK9.out).trans (Kp.ofBelow k10 (fun _ => False)) (fun _ _ h => h.elim)
              clear k10 HR9 HK9
              go_wp2_with fail
              exact ⟨⟨c' + 1, a9, by go_num, rfl, hca9, HR10, HCn9, HK10⟩, by rw [hatx, (HR10.out).at]; omega⟩
            have i7 : decide (((toks 0 (bs N)).length : Int) - (S.length : Int) ≤ (a : Int)) = true := by simp; omega
            have i8 : decide ((a : Int) ≥ ((toks 0 (bs N)).length : Int) - (S.length : Int)) = true := by simp; omega
            obtain ⟨w8, hw8⟩ : ∃ w8, w8 = wr := ⟨_, rfl⟩
            subst hw8
            go_wp2_with fail
            go_loopw [27] (fun v wx => ∃ jj : Nat, v = .int .i64 jj ∧ jj ≤ nk ∧ Hid (∀ i, i < jj → tkn ps i + ((toks 0 (bs N)).length - a) ≠ (toks 0 (bs s)).length) ∧ Hid (Below w8.heap.size w8 wx)) (fun v _ => nk - (intOf v).toNat)
            case atStart => exact ⟨0, rfl, Nat.zero_le _, (fun i hi => absurd hi (Nat.not_lt_zero _)), Below.refl _ _⟩
            case round =>
              obtain ⟨jj, rfl, hjj, HNe, HBx⟩ := hrel
              have HRy := hide ((HRx.out).below HBx.out)
              have HKy : Hid (Kp (fun q => q = rb) W6 wr) := (HKx.out).trans (Kp.ofBelow HBx.out (fun _ => False)) (fun _ _ h => h.elim)
              clear c0 c1 c2 c3
              obtain ⟨cc2, hraw⟩ := (HRy.out).raw
              obtain ⟨⟨c0, c1, c2, c3⟩, -, -⟩ := hraw.facts
              clear hraw
              by_cases hjl : jj < nk
              case neg =>
                have i9 : decide (jj < nk) = false := by simp; omega
                have i10 : decide ((jj : Int) < (nk : Int)) = false := by simp; omega
                have HNP : Hid (¬ DBeg ps nk (toks 0 (bs s)).length S.length ((toks 0 (bs N)).length - a)) := by
                  rintro ⟨-, i, hi, h5⟩
                  exact (HNe.out) i (by omega) h5
                have HItem := hide (ritem_any N (toks 0 (bs N)) hS rb _ a wr (HRy.out) e0)
                clear HKx
                have HKx := HKy
                go_wp2_with fail
                refine (HItem.out).mono ?_
                rintro e w9 ⟨Nn, rfl, HGv⟩
                obtain ⟨a9, r9, e9, -, on9⟩ := HGv.out
                have HR9 := hide r9
                have HK9 : Hid (Kp (fun q => q = rb) W6 w9) := (HKx.out).trans on9 (fun i _ e => e)
                have hlt9 := X.kid_lt HKN.out
                rw [← e9, (HLn.out), (HLn.out)] at hlt9
                have hle9 := (HR9.out).le
                have HCn9 : Hid (∀ n, X.Cnt (DBeg ps nk (toks 0 (bs s)).length S.length) (remT N (toks 0 (bs N)) a9) n → X.Cnt (DBeg ps nk (toks 0 (bs s)).length S.length) (remT N (toks 0 (bs N)) (tkn ps kp)) (c' + 1 + n)) := fun n hn => by
                  rw [Nat.add_assoc, Nat.add_comm 1 n]
                  refine (HCnx.out) (n + 1) (.on _ n HKN.out ?_ ?_)
                  · rw [(HLn.out)]; exact HNP.out
                  · rw [← e9]; exact hn
                have hca9 : c' + 1 ≤ a9 := by omega
                have hc9b : c' + 1 ≤ 1073741824 := by omega
                clear r9 on9 HGv HItem e9
                go_wp2_with fail
                refine (rkind_any rb N (toks 0 (bs N)) _ a9 0 w9 hS HR9.out).mono ?_
                rintro e w10 ⟨rfl, k10⟩
                have HR10 := hide ((HR9.out).below k10)
                have HK10 : Hid (Kp (fun q => q = rb) W6 w10) := (HK9.out).trans (Kp.ofBelow k10 (fun _ => False)) (fun _ _ h => h.elim)
                clear k10 HR9 HK9
                go_wp2_with fail
                exact ⟨⟨c' + 1, a9, by go_num, rfl, hca9, HR10, HCn9, HK10⟩, by rw [hatx, (HR10.out).at]; omega⟩
              have i9 : decide (jj < nk) = true := by simp; omega
              have i10 : decide ((jj : Int) < (nk : Int)) = true := by simp; omega
              obtain ⟨g, rfl, hgl, hgc⟩ := (HBg.out) jj hjl
              have p5 := (HKy.out).cellv hgc (by simp; omega)
              have hi3 : (0 : Int) ≤ (jj : Int) := Int.natCast_nonneg _
              have hi4 : (jj : Int) < (nk : Int) := by omega
              have ht5 := (HTk.out) jj
              by_cases heq : tkn ps jj + ((toks 0 (bs N)).length - a) = (toks 0 (bs s)).length
              · have i11 : ((tkn ps jj : Int) == (a : Int) - ((toks 0 (bs N)).length : Int) + ((toks 0 (bs s)).length : Int)) = true := by simp; omega
                have HE : Hid (c' = c) := by
                  have h5 := (HCnx.out) 0 (.stop _ e0 ⟨by rw [(HLn.out)]; omega, jj, hjl, by rw [(HLn.out)]; exact heq⟩)
                  rw [Nat.add_zero] at h5
                  exact h5.det HCn.out
                clear heq
                go_wp2_with fail
                go_quiet (fail)
                go_wp2_with fail
                go_ret
                exact ⟨retn HE.out, (hgoal.out) _ ((HKy.out).trans (Kp.ofBelow (belowN (Below.refl _ wr) _) (fun _ => False)) (fun _ _ h => h.elim))⟩
              · have i11 : ((tkn ps jj : Int) == (a : Int) - ((toks 0 (bs N)).length : Int) + ((toks 0 (bs s)).length : Int)) = false := by simp; omega
                have HNe2 : Hid (∀ i, i < jj + 1 → tkn ps i + ((toks 0 (bs N)).length - a) ≠ (toks 0 (bs s)).length) := fun i hi => by
                  rcases Nat.lt_or_ge i jj with g | g
                  · exact (HNe.out) i g
                  · obtain rfl : i = jj := by omega
                    exact heq
                clear heq
                go_wp2_with fail
                go_quiet (fail)
                go_wp2_with fail
                exact ⟨⟨jj + 1, by go_num, by omega, HNe2, belowN HBx.out _⟩, by simp only [intOf]; omega⟩
    have i5 : decide (i < ps.length) = true := by simp; omega
    have i6 : decide ((i : Int) < (ps.length : Int)) = true := by simp; omega
    have hi1 : (0 : Int) ≤ (i : Int) := Int.natCast_nonneg _
    have hi2 : (i : Int) < (ps.length : Int) := by omega
    have hpi : ps[i]? = some ps[i] := List.getElem?_eq_getElem hlt
    obtain ⟨g, rfl, q4⟩ := (HK5.out) i hlt
    have p4 := (Kp.ofBelow HB.out (fun _ => False)).cellv q4 id
    obtain ⟨l, u', i', hM⟩ := (HP5.out) i _ hpi
    have hMw := hM.keep (Kp.ofBelow HB.out (fun _ => False)) (fun _ _ _ => id)
    obtain ⟨Ni, kd, hv, ck, hkl, hkb⟩ := isM_kind hMw
    rw [hv] at p4 hMw
    have HMw := hide hMw
    clear q4 hM hMw hv
    by_cases hin : i < nk
    case neg =>
      obtain ⟨k, x, hbr⟩ := (HK3.out) i _ (by omega) hpi
      obtain rfl := hkl ⟨k, x, hbr⟩
      have HIn2 : Hid (InAn (toks 0 (bs s)) ps al nk (i + 1) kp st) := (HIn.out).leaf (by omega)
      have e1 : min (i + 1) nk = min i nk := by omega
      have HRow2 : Hid (wr.ownsRow w5.heap.size 3 1 bb (min (i + 1) nk) (bgv ps (min (i + 1) nk))) := by rw [e1]; exact HRow.out
      clear hkb hkl hbr hpi HMw
      go_wp2_with fail
      exact ⟨⟨i + 1, kp, st, bb, rfl, by rw [e1], rfl, rfl, by go_num, by omega, HIn2, HRow2, HB⟩, by simp only [intOf]; omega⟩
    obtain ⟨k, qs, hbr⟩ := (HK2.out) i hin
    have hpe : ps[i] = .br k qs := Option.some.inj (hpi.symm.trans hbr)
    obtain rfl : kd = k := hkb k qs hpe
    obtain ⟨hlo, hnz⟩ := (HLv.out) i _ hpi
    have hk0 : kd ≠ 0 := hnz kd qs hpe
    have iz : ((kd : Int) == 0) = false := by simp; omega
    have HLe := hide (hlo l u' _ i' wr HMw.out)
    have hts := tkn_succ hlt
    have hm1 : min i nk = i := by omega
    have hm2 : min (i + 1) nk = i + 1 := by omega
    rw [hm1] at HRow ⊢
    have hb1 := (HTk.out) i
    have hb2 := (HTk.out) (i + 1)
    generalize (X.pl ps[i]).length = n at *
    have HTs := hide hts
    have htb : tkn ps i + n ≤ 1073741824 := by omega
    have htl : tkn ps i ≤ 1073741824 := by omega
    clear hts hlo hnz hkb hkl hbr hpe hpi HMw
    generalize ht1 : tkn ps i = t1 at *
    go_wp2_with fail
    refine (HLe.out).mono ?_
    rintro e w6 ⟨rfl, k6⟩
    have HB6 : Hid (Below w5.heap.size w5 w6) := (HB.out).trans (k6.mono (HB.out).size)
    have HRow6 : Hid (w6.ownsRow w5.heap.size 3 1 bb i (bgv ps i)) := Kp.owns (Kp.ofBelow k6 (fun _ => False)) HRow.out (fun _ _ => id)
    clear k6 HLe HRow HB p4 m3 ck
    have hkl2 := (HIn.out).le
    go_upto_if 75 with fail
    go_cut [16, 19] (fun kv sv wx => ∃ (kp2 : Nat) (st2 : Bool), kv = .int .i64 kp2 ∧ sv = .bool st2 ∧ Hid (InAn (toks 0 (bs s)) ps al nk (i + 1) kp2 st2) ∧ wx = w6)
    case first =>
      cases st with
      | false =>
        go_wp2_with fail
        go_meet
        case rel => exact ⟨kp, false, rfl, rfl, (HIn.out).gone, rfl⟩
      | true =>
        have hkpb : kp + 1 ≤ 1073741824 := by omega
        go_wp2_with fail
        go_loopw [23] (fun v wx => ∃ m : Nat, v = .int .i64 m ∧ m ≤ (toks 0 (bs s)).length ∧ Hid (nxI (toks 0 (bs s)) (t1 + n) = nxI (toks 0 (bs s)) m) ∧ wx = w6) (fun v _ => (toks 0 (bs s)).length - (intOf v).toNat)
        case atStart => exact ⟨t1 + n, by go_num, by have := HTs.out; omega, (rfl : _ = _), rfl⟩
        case round =>
          obtain ⟨m, rfl, hm, HJ, rfl⟩ := hrel
          by_cases hml : m < (toks 0 (bs s)).length
          case neg =>
            have i7 : decide (m < (toks 0 (bs s)).length) = false := by simp; omega
            have i8 : decide ((m : Int) < ((toks 0 (bs s)).length : Int)) = false := by simp; omega
            have HNo : Hid (¬ kept (toks 0 (bs s)) ps al i) := by
              intro e
              have h5 := e.2
              rw [HTs.out, HJ.out, show m = (toks 0 (bs s)).length by omega, nxI_over] at h5
              omega
            clear HJ
            go_wp2_with fail
            go_meet
            case rel => exact ⟨kp, false, rfl, rfl, (HIn.out).stop hin HNo.out, rfl⟩
          obtain ⟨b', o', t, rfl, ht, q1, q2, q3⟩ := (T45.out).get HB6.out hml
          have i7 : decide (m < (toks 0 (bs s)).length) = true := by simp; omega
          have i8 : decide ((m : Int) < ((toks 0 (bs s)).length : Int)) = true := by simp; omega
          have hi3 : (0 : Int) ≤ (m : Int) := Int.natCast_nonneg _
          have hi4 : (m : Int) < ((toks 0 (bs s)).length : Int) := by omega
          cases z1 : ((t.kind : Int) == 1) with
          | true =>
            have HN2 : Hid (nxI (toks 0 (bs s)) (t1 + n) = nxI (toks 0 (bs s)) (m + 1)) := by
              show _ = _
              rw [HJ.out]; exact nxI_quiet ht (by unfold qk; simp at z1 ⊢; omega)
            clear ht HJ
            go_wp2_with fail
            exact ⟨⟨m + 1, by go_num, by omega, HN2, (by first | exact rfl | trivial)⟩, by simp only [intOf]; omega⟩
          | false =>
            cases z2 : ((t.kind : Int) == 2) with
            | true =>
              have HN2 : Hid (nxI (toks 0 (bs s)) (t1 + n) = nxI (toks 0 (bs s)) (m + 1)) := by
                show _ = _
                rw [HJ.out]; exact nxI_quiet ht (by unfold qk; simp at z2 ⊢; omega)
              clear ht HJ
              go_wp2_with fail
              exact ⟨⟨m + 1, by go_num, by omega, HN2, (by first | exact rfl | trivial)⟩, by simp only [intOf]; omega⟩
            | false =>
              have HE : Hid (nxI (toks 0 (bs s)) (t1 + n) = m) := by
                show _ = _
                rw [HJ.out]; exact nxI_here ht (by unfold qk; simp at z1 z2 ⊢; omega)
              clear HJ
              by_cases hka : m < al
              · have i9 : decide (m < al) = true := by simp; omega
                have i10 : decide ((m : Int) < (al : Int)) = true := by simp; omega
                have HYes : Hid (kept (toks 0 (bs s)) ps al i) := ⟨(HK2.out) i hin, by rw [HTs.out, HE.out]; exact hka⟩
                clear ht
                go_wp2_with fail
                go_meet
                case rel => exact ⟨kp + 1, true, by go_num, rfl, ((HIn.out).more hin HYes.out).2, rfl⟩
              · have i9 : decide (m < al) = false := by simp; omega
                have i10 : decide ((m : Int) < (al : Int)) = false := by simp; omega
                have HNo : Hid (¬ kept (toks 0 (bs s)) ps al i) := by
                  intro e
                  have h5 := e.2
                  rw [HTs.out, HE.out] at h5
                  exact hka h5
                clear ht
                go_wp2_with fail
                go_meet
                case rel => exact ⟨kp, false, rfl, rfl, (HIn.out).stop hin HNo.out, rfl⟩
    case rest =>
      obtain ⟨kp2, st2, rfl, rfl, HIn2, rfl⟩ := hcut
      have hil2 : i ≤ 117440512 := by omega
      have hsz6 := (HB6.out).size
      go_wp2_with (at_builtin; refine wpList_append_lies _ rfl _ _ 99 rfl w5.heap.size 3 i0 _ 1 8 Tryz.underlying99 hi0 hz0 hz1 hz2 rfl (by decide) bb i _ rfl ((HRow6.out).alloc _) ⟨wc.heap.size, 0, none⟩ 1 1 [.int .i64 t1] rfl rfl (World.news_of_block (cs := #[.int .i64 t1]) (heap_alloc_new wc _)) (by simp [Value.oneCell']) (by omega) (by unfold maxLen; omega) (by omega) (by simp; omega) (wc.heap.size + 1) (by simp) ?_; intro g7 cap7 w7 hown7 hgrow7 hat7 hlt7; have HW7 := hide hown7; have HG7 := hide hgrow7; clear hown7 hgrow7)
      have HB7 : Hid (Below w5.heap.size w5 w7) := by
        have hA : Kp (fun q => bb.ownBlock = some q) wc w7 := Kp.grown (Kp.alloc (Kp.refl _ wc) _) HG7.out (fun k e _ => e)
        exact (HB6.out).trans (Kp.below hA (HB6.out).size (fun k e => (owns_ge (HRow6.out) k e).1))
      go_wp2_with fail
      go_roundw
      case rel =>
        refine ⟨i + 1, kp2, st2, _, rfl, by rw [hm2, HTs.out]; go_num, rfl, rfl, by go_num, by omega, HIn2, ?_, HB7⟩
        rw [hm2, ← bgv_succ, ht1]
        exact HW7.out
      case measure => simp [intOf]; omega
end Go.Proofs.YtkampoaceipngaaGreatDoor
