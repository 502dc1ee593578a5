/- Tokens stand side by side from a text's beginning to its end. -/
import Derived.Test.YtgpfmnaglbbebaaDoorTa
namespace Go.Proofs.YtgpfmnaglbbebaaDoor
open Go.RowKit
open M

theorem IsT.get {w wr : World} {ao : Option Addr} {n cap : Nat} {L : List Tk} (h : IsT w (.slice ao n cap) L) (hb : Below w.heap.size w wr) {k : Nat} (hk : k < L.length) :
    ∃ b o t, ao = some ⟨b, o, none⟩ ∧ L[k]? = some t ∧ wr.cell? ⟨b, o + k * 3, none⟩ = some (.int .i64 t.kind) ∧ wr.cell? ⟨b, o + k * 3 + 1, none⟩ = some (.int .i64 t.pos) ∧ wr.cell? ⟨b, o + k * 3 + 2, none⟩ = some (.int .i64 t.len) := by
  obtain ⟨_, _, e, _, _, h3⟩ := h.below hb
  cases e
  obtain ⟨b, o, ha, h4⟩ := h3 k hk
  obtain ⟨q1, q2, q3⟩ := h4 L[k] (List.getElem?_eq_getElem hk)
  exact ⟨b, o, L[k], ha, List.getElem?_eq_getElem hk, q1, q2, q3⟩

theorem drop_at {L : List Tk} {k : Nat} {t : Tk} (h : L[k]? = some t) : L.drop k = t :: L.drop (k + 1) := by
  have hk : k < L.length := by
    rcases Nat.lt_or_ge k L.length with h' | h'
    · exact h'
    · rw [List.getElem?_eq_none h'] at h; cases h
  rw [List.getElem?_eq_getElem hk] at h
  cases h
  exact List.drop_eq_getElem_cons hk

/-- The next token of a row, where the row goes on as the text does. -/
theorem tile_next {l : List UInt8} {L : List Tk} {k a : Nat} {t : Tk} (h : L.drop k = toks a (l.drop a)) (ha : a ≤ l.length) (ht : L[k]? = some t) :
    t.pos = a ∧ t.kind = (tok (l.drop a)).1 ∧ t.len = (tok (l.drop a)).2 ∧ l.drop a ≠ [] ∧ 1 ≤ t.kind ∧ t.kind ≤ 8 ∧ 1 ≤ t.len ∧ a + t.len ≤ l.length ∧ L.drop (k + 1) = toks (a + t.len) (l.drop (a + t.len)) := by
  rw [drop_at ht] at h
  by_cases h0 : l.drop a = []
  · rw [h0, toks_nil] at h; cases h
  · rw [toks_cons h0] at h
    injection h with h1 h2
    have hb := tok_bounds h0
    rw [List.length_drop] at hb
    subst h1
    refine ⟨rfl, rfl, rfl, h0, hb.1, hb.2.1, hb.2.2.1, by simp only; omega, ?_⟩
    rw [h2, List.drop_drop]
theorem tile_end {l : List UInt8} {L : List Tk} {k a : Nat} (h : L.drop k = toks a (l.drop a)) (ha : a ≤ l.length) (hk : L.length ≤ k) : a = l.length := by
  rw [List.drop_eq_nil_of_le hk] at h
  by_cases h0 : l.drop a = []
  · have := congrArg List.length h0; simp at this; omega
  · rw [toks_cons h0] at h; cases h

set_option maxRecDepth 100000 in
set_option maxHeartbeats 4000000 in
theorem tiles_any (s : ByteArray) (w : World) (hT : Tabs w) (hs : s.size ≤ 1073741824) :
    Calls Tryd.prog 4 #[.string s] w fun e w' => e = .returned (.bool true) ∧ Below w.heap.size w w' := by
  have hLl : (toks 0 (bs s)).length ≤ s.size := by have := toks_len _ 0 (bs s) (Nat.le_refl _); rw [bs_len] at this; exact this
  go_enter Tryd.func4, Tryd.ntmps4
  go_wp2_with fail
  refine (tokens_any s _ hT hs).mono ?_
  rintro e w1 ⟨v, rfl, hown, k1⟩
  have HT := hide (IsT.ofOwns hown)
  have K1 := hide k1
  have hz := k1.size
  clear hown k1
  obtain ⟨ao, cap, rfl, hc1, hc2, -⟩ := HT.out
  have hL : (toks 0 (bs s)).drop 0 = toks 0 ((bs s).drop 0) := by simp
  revert hL hLl HT hc1
  generalize toks 0 (bs s) = L
  intro hLl HT hc1 hL
  have HL := hide hL
  clear hL
  go_wp2_with fail
  go_loopw [4, 5] (fun a i wr => ∃ k A : Nat, k ≤ L.length ∧ i = .int .i64 k ∧ a = .int .i64 A ∧ A ≤ s.size ∧ Hid (L.drop k = toks A ((bs s).drop A)) ∧ Below w1.heap.size w1 wr) (fun _ i _ => L.length - (intOf i).toNat)
  case atStart => exact ⟨0, 0, Nat.zero_le _, rfl, rfl, Nat.zero_le _, HL, Below.refl _ _⟩
  case round =>
    obtain ⟨k, A, hk, rfl, rfl, hA, HD, hB⟩ := hrel
    by_cases hlt : k < L.length
    · obtain ⟨b, o, t, rfl, ht, q1, q2, q3⟩ := (HT.out).get hB hlt
      obtain ⟨e1, e2, e3, e4, e5, e6, e7, e8, e9⟩ := tile_next HD.out (by rw [bs_len]; exact hA) ht
      rw [bs_len] at e8
      have HN := hide (And.intro e1 e9)
      rw [e1] at q2
      clear e1 e2 e3 e4 e9 ht
      have i5 : ¬ (t.kind : Int) < 1 := by omega
      have i6 : ¬ (8 : Int) < (t.kind : Int) := by omega
      have i7 : ¬ (t.len : Int) < 1 := by omega
      have hi2 : (k : Int) < (L.length : Int) := by omega
      go_wp2_with fail
      go_quiet (fail)
      go_wp2_with fail
      go_roundw
      case rel => exact ⟨k + 1, A + t.len, by omega, by go_num, by go_num, by omega, (HN.out).2, belowN hB _⟩
      case measure => simp [intOf]; omega
    · have HE := hide (tile_end HD.out (by rw [bs_len]; exact hA) (by omega))
      have hAe : ((A : Int) == (s.size : Int)) = true := by have := HE.out; rw [bs_len] at this; simp [this]
      clear HE
      go_wp2_with fail
      go_ret
      exact ⟨by rfl, (K1.out).trans (hB.mono hz)⟩
end Go.Proofs.YtgpfmnaglbbebaaDoor
