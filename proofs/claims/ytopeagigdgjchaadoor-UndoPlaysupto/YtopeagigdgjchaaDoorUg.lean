/- Two histories side by side: that they tell the same, and that they go on so. -/
import Derived.Test.YtopeagigdgjchaaDoorUf
import Derived.Test.YtopeagigdgjchaaDoorEb
namespace Go.Proofs.YtopeagigdgjchaaDoor
open Go.RowKit
open EM

theorem owns_slice {w : World} {B : Nat} {v : Value} {l : List Nat} (h : w.ownsRow B 3 1 v l.length (ints l)) : ∃ ao cap, v = .slice ao l.length cap ∧ l.length ≤ cap ∧ cap ≤ maxLen ∧ ∀ i, i < l.length → ∃ g, ao = some ⟨g, 0, none⟩ ∧ g < w.heap.size := by
  rcases owns_form h with ⟨rfl, e⟩ | ⟨g, cap, rfl, h1, h2, h3⟩
  · exact ⟨none, 0, by rw [e], by omega, by unfold maxLen; omega, fun i hi => by omega⟩
  · exact ⟨_, cap, rfl, h1, h2, fun i _ => ⟨g, rfl, h3⟩⟩
set_option maxHeartbeats 1000000 in
theorem sameInts_any (w : World) (B1 B2 : Nat) (va vb : Value) (l : List Nat) (ha : w.ownsRow B1 3 1 va l.length (ints l)) (hb : w.ownsRow B2 3 1 vb l.length (ints l)) (hl : l.length ≤ 1073741824) :
    Calls Tryd.prog 18 #[va, vb] w fun e w' => e = .returned (.bool true) ∧ Below w.heap.size w w' := by
  have HA := hide ha
  have HB := hide hb
  obtain ⟨ao, ca, rfl, a1, a2, a3⟩ := owns_slice ha
  obtain ⟨bo, cb, rfl, b1, b2, b3⟩ := owns_slice hb
  have A3 := hide a3
  have B3 := hide b3
  clear ha hb a3 b3
  go_enter Tryd.func18, Tryd.ntmps18
  go_wp2_with fail
  go_loopw [5] (fun i wr => ∃ k : Nat, k ≤ l.length ∧ i = .int .i64 k ∧ Below w.heap.size w wr) (fun i _ => l.length - (intOf i).toNat)
  case atStart => exact ⟨0, Nat.zero_le _, rfl, Below.refl _ _⟩
  case round =>
    obtain ⟨k, hk, rfl, hB⟩ := hrel
    by_cases hlt : k < l.length
    · obtain ⟨x, hx⟩ : ∃ x, l[k]? = some x := ⟨_, List.getElem?_eq_getElem hlt⟩
      obtain ⟨g, rfl, hg⟩ := A3.out k hlt
      obtain ⟨g', rfl, hg'⟩ := B3.out k hlt
      have cx := kcb hB hg (ints_at HA.out hx)
      have cy := kcb hB hg' (ints_at HB.out hx)
      have z1 : (0 : Int) ≤ (k : Int) := by omega
      have z2 : (k : Int) < (l.length : Int) := by omega
      clear hx
      go_wp2_with fail
      go_quiet (fail)
      go_wp2_with fail
      refine ⟨⟨k + 1, by omega, by go_num, belowN hB _⟩, by simp [intOf]; omega⟩
    · go_wp2_with fail
      go_ret
      exact ⟨rfl, hB⟩
/-- The two histories tell the same. -/
structure Rel (S : List Sta) (Ts : List By) (Fs : List Int) : Prop where
  len : Ts.length = S.length
  flen : Fs.length = S.length
  tx : ∀ (i : Nat) (s : Sta), S[i]? = some s → Ts[i]? = some s.l
  fz : Fs[0]? = some (-1)
  fs : ∀ (i : Nat) (s : Sta), S[i]? = some s → i ≠ 0 → Fs[i]? = some (s.f : Int)
  nx : ∀ (i : Nat) (s : Sta), S[i]? = some s → s.nx = nxs Fs i
  lt : ∀ s ∈ S, s.f < S.length
theorem Rel.one (r : Nat) (l : By) : Rel [⟨r, l, 0, .slice none 0 0, []⟩] [l] [-1] := by
  have h1 : ∀ (i : Nat) (s : Sta), ([⟨r, l, 0, .slice none 0 0, []⟩] : List Sta)[i]? = some s → i = 0 ∧ s = ⟨r, l, 0, .slice none 0 0, []⟩ := by
    intro i s hs
    cases i with
    | zero => exact ⟨rfl, by simpa using hs.symm⟩
    | succ i => simp at hs
  refine ⟨rfl, rfl, fun i s hs => ?_, rfl, fun i s hs h0 => ?_, fun i s hs => ?_, fun s hs => ?_⟩
  · obtain ⟨rfl, rfl⟩ := h1 i s hs; rfl
  · exact absurd (h1 i s hs).1 h0
  · obtain ⟨rfl, rfl⟩ := h1 i s hs; rfl
  · obtain rfl := List.mem_singleton.1 hs
    show (0 : Nat) < 1
    omega
theorem nxsT_append {Fs : List Int} {x : Int} {a k : Nat} (hk : k ≤ Fs.length) : nxsT (Fs ++ [x]) a k = nxsT Fs a k := by
  unfold nxsT
  apply List.filter_congr
  intro i hi
  have hi' : i < k := List.mem_range.1 hi
  rw [List.getElem?_append_left (by omega)]
theorem nxs_append (Fs : List Int) (x : Int) (a : Nat) : nxs (Fs ++ [x]) a = nxs Fs a ++ (if x = (a : Int) then [Fs.length] else []) := by
  have hl : (Fs ++ [x]).length = Fs.length + 1 := by simp
  have hx : (Fs ++ [x])[Fs.length]? = some x := by simp
  unfold nxs
  rw [hl]
  by_cases h : x = (a : Int)
  · rw [if_pos h, nxsT_yes (by rw [hx, h]), nxsT_append (Nat.le_refl _)]
  · rw [if_neg h, nxsT_no (by rw [hx]; intro e; exact h (Option.some.inj e)), nxsT_append (Nat.le_refl _), List.append_nil]
/-- One more state, on both sides. -/
theorem Rel.more {S : List Sta} {Ts : List By} {Fs : List Int} (R : Rel S Ts Fs) {a : Nat} {s : Sta} (hs : S[a]? = some s) (v1 : Value) (q : Nat) (t : By) :
    Rel (S.set a { s with v := v1, nx := s.nx ++ [S.length] } ++ [⟨q, t, a, .slice none 0 0, []⟩]) (Ts ++ [t]) (Fs ++ [(a : Int)]) := by
  have ha : a < S.length := (List.getElem?_eq_some_iff.1 hs).1
  obtain ⟨len, flen, tx, fz, fs, nx, lt⟩ := R
  have key : ∀ (i : Nat) (u : Sta), (S.set a { s with v := v1, nx := s.nx ++ [S.length] } ++ [⟨q, t, a, .slice none 0 0, []⟩])[i]? = some u →
      (i < S.length ∧ ∃ u0, S[i]? = some u0 ∧ u.l = u0.l ∧ u.f = u0.f ∧ u.nx = u0.nx ++ (if (a : Int) = (i : Int) then [S.length] else [])) ∨ (i = S.length ∧ u = ⟨q, t, a, .slice none 0 0, []⟩) := by
    intro i u hu
    rcases Nat.lt_or_ge i S.length with hi | hi
    · left
      rw [List.getElem?_append_left (by simpa using hi)] at hu
      refine ⟨hi, ?_⟩
      by_cases hai : a = i
      · subst hai
        rw [List.getElem?_set_self ha] at hu
        cases hu
        exact ⟨s, hs, rfl, rfl, by simp⟩
      · rw [List.getElem?_set_ne hai] at hu
        exact ⟨u, hu, rfl, rfl, by rw [if_neg (by omega), List.append_nil]⟩
    · right
      rw [List.getElem?_append_right (by simpa using hi), List.length_set] at hu
      have h0 : i - S.length = 0 := by
        have := (List.getElem?_eq_some_iff.1 hu).1
        simp at this
        omega
      rw [h0] at hu
      exact ⟨by omega, by simpa using hu.symm⟩
  refine ⟨by simp [len], by simp [flen], fun i u hu => ?_, ?_, fun i u hu h0 => ?_, fun i u hu => ?_, fun u hu => ?_⟩
  · rcases key i u hu with ⟨hi, u0, h1, h2, _⟩ | ⟨hi, rfl⟩
    · rw [List.getElem?_append_left (by omega), h2]; exact tx i u0 h1
    · rw [hi, ← len]; simp
  · have : 0 < Fs.length := by omega
    rw [List.getElem?_append_left this]; exact fz
  · rcases key i u hu with ⟨hi, u0, h1, _, h3, _⟩ | ⟨hi, rfl⟩
    · rw [List.getElem?_append_left (by omega), h3]; exact fs i u0 h1 h0
    · rw [hi, ← flen]; simp
  · rcases key i u hu with ⟨hi, u0, h1, _, _, h4⟩ | ⟨hi, rfl⟩
    · rw [h4, nx i u0 h1, nxs_append, flen]
    · show [] = _
      rw [nxs_append, if_neg (by omega), List.append_nil]
      unfold nxs nxsT
      symm
      rw [List.filter_eq_nil_iff]
      intro j hj hd
      have hj' : j < Fs.length := List.mem_range.1 hj
      have hd' : Fs[j]? = some ((i : Nat) : Int) := by simpa using hd
      by_cases h0 : j = 0
      · rw [h0, fz] at hd'
        have := Option.some.inj hd'
        omega
      · have hjS : j < S.length := by omega
        have hsj := List.getElem?_eq_getElem hjS
        rw [fs j _ hsj h0] at hd'
        have := Option.some.inj hd'
        have := lt _ (List.mem_of_getElem? hsj)
        omega
  · obtain ⟨i, hi⟩ := List.getElem?_of_mem hu
    rw [List.length_append, List.length_set, List.length_singleton]
    rcases key i u hi with ⟨_, u0, h1, _, h3, _⟩ | ⟨_, rfl⟩
    · have := lt u0 (List.mem_of_getElem? h1); omega
    · show a < _; omega
theorem nxs_get {S : List Sta} {Ts : List By} {Fs : List Int} (R : Rel S Ts Fs) {a : Nat} {s : Sta} (hs : S[a]? = some s) (w' : Nat) : s.nx[w']? = (nxs Fs a)[w']? := by rw [R.nx a s hs]
end Go.Proofs.YtopeagigdgjchaaDoor
