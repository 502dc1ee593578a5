/- The token that begins where a reader is. -/
import Derived.Test.YtbhcniemkjoflaaDoorIa
import Derived.Test.YtbhcniemkjoflaaDoorIc
import Derived.Test.YtbhcniemkjoflaaDoorId
import Derived.Test.YtbhcniemkjoflaaDoorIe
namespace Go.Proofs.YtbhcniemkjoflaaDoor
open Go.RowKit
open M

theorem kind_any (b : Nat) (s : ByteArray) (p : Nat) (w : World) (h : Rdr w b s p) (hp : p < s.size) :
    Calls Tryd.prog 49 #[.pointer (some ⟨b, 0, none⟩)] w fun e w' => e = .returned (.int .i64 (tok ((bs s).drop p)).1) ∧ Rdr w' b s (p + (tok ((bs s).drop p)).2) ∧ On b w w' := by
  cases h1 : isSp (cc ((bs s).drop p))
  case true =>
    rw [show tok ((bs s).drop p) = (1, sz ((bs s).drop p) + skip isSp (nx ((bs s).drop p))) by unfold tok; rw [h1]; rfl]
    exact kind_space b s p w h hp h1
  cases h2 : isLt (cc ((bs s).drop p))
  case true =>
    rw [show tok ((bs s).drop p) = (if wordB (((bs s).drop p).take (sz ((bs s).drop p) + skip isNm (nx ((bs s).drop p)))) then 4 else 3, sz ((bs s).drop p) + skip isNm (nx ((bs s).drop p))) by unfold tok; rw [h1, h2]; rfl]
    exact kind_name b s p w h hp h1 h2
  cases h3 : isDg (cc ((bs s).drop p))
  case true =>
    rw [show tok ((bs s).drop p) = (if 18 < sz ((bs s).drop p) + skip isDg (nx ((bs s).drop p)) then 8 else 5, sz ((bs s).drop p) + skip isDg (nx ((bs s).drop p))) by unfold tok; rw [h1, h2, h3]; rfl]
    exact kind_digit b s p w h hp h1 h2 h3
  by_cases h4 : cc ((bs s).drop p) = 34
  · rw [show tok ((bs s).drop p) = ((quo 6 (nx ((bs s).drop p))).1, 1 + (quo 6 (nx ((bs s).drop p))).2) by unfold tok; rw [h1, h2, h3, if_neg (by simp), if_neg (by simp), if_neg (by simp), if_pos h4]]
    exact kind_quote b s p w h h4
  by_cases h5 : cc ((bs s).drop p) = 123 ∧ cc (nx ((bs s).drop p)) = 45
  · have z1 : sz ((bs s).drop p) = 1 := sz_cc (by omega) (by omega)
    have e1 : nx ((bs s).drop p) = (bs s).drop (p + 1) := by rw [nx_drop, z1]
    have z2 : sz ((bs s).drop (p + 1)) = 1 := by rw [← e1]; exact sz_cc (by omega) (by omega)
    have e2 : nx (nx ((bs s).drop p)) = (bs s).drop (p + 2) := by rw [e1, nx_drop, z2]
    rw [show tok ((bs s).drop p) = ((nest 1 ((bs s).drop (p + 2))).1, 2 + (nest 1 ((bs s).drop (p + 2))).2) by unfold tok; rw [h1, h2, h3, if_neg (by simp), if_neg (by simp), if_neg (by simp), if_neg h4, if_pos h5, e2]]
    exact kind_nest b s p w h h5.1 (by rw [← e1]; exact h5.2)
  by_cases h6 : cc ((bs s).drop p) = 45 ∧ cc (nx ((bs s).drop p)) = 45
  · have z1 : sz ((bs s).drop p) = 1 := sz_cc (by omega) (by omega)
    have e1 : nx ((bs s).drop p) = (bs s).drop (p + 1) := by rw [nx_drop, z1]
    rw [show tok ((bs s).drop p) = (2, 1 + skip isLn ((bs s).drop (p + 1))) by unfold tok; rw [h1, h2, h3, if_neg (by simp), if_neg (by simp), if_neg (by simp), if_neg h4, if_neg h5, if_pos h6, e1]]
    exact kind_line b s p w h hp h6.1 (by rw [← e1]; exact h6.2)
  cases h7 : isPr (cc ((bs s).drop p)) (cc (nx ((bs s).drop p)))
  case true =>
    have h8 : cc ((bs s).drop p) = 61 ∨ cc ((bs s).drop p) = 43 := by
      have := h7; unfold isPr at this; simp only [decide_eq_true_eq] at this; omega
    have z1 : sz ((bs s).drop p) = 1 := sz_cc (by omega) (by omega)
    have e1 : nx ((bs s).drop p) = (bs s).drop (p + 1) := by rw [nx_drop, z1]
    rw [show tok ((bs s).drop p) = (7, 2) by unfold tok; rw [h1, h2, h3, if_neg (by simp), if_neg (by simp), if_neg (by simp), if_neg h4, if_neg h5, if_neg h6, if_pos h7]]
    exact kind_pair b s p w h (by rw [← e1]; exact h7) h8
  have key := kind_short b s p w h hp h1 h2 h3 h4 h5 h6 h7
  have hpos : 0 ≤ cc ((bs s).drop p) := by rw [cc_some (drop_ne hp)]; omega
  cases h8 : isSg (cc ((bs s).drop p))
  case true =>
    have z1 : sz ((bs s).drop p) = 1 := by
      have := h8; unfold isSg at this; simp only [decide_eq_true_eq, List.mem_cons, List.not_mem_nil, or_false] at this
      exact sz_cc (by omega) (by omega)
    rw [show tok ((bs s).drop p) = (7, 1) by unfold tok; rw [h1, h2, h3, if_neg (by simp), if_neg (by simp), if_neg (by simp), if_neg h4, if_neg h5, if_neg h6, if_neg (by rw [h7]; simp), if_pos h8]]
    rw [h8, z1] at key
    exact key
  case false =>
    rw [show tok ((bs s).drop p) = (8, sz ((bs s).drop p)) by unfold tok; rw [h1, h2, h3, if_neg (by simp), if_neg (by simp), if_neg (by simp), if_neg h4, if_neg h5, if_neg h6, if_neg (by rw [h7]; simp), if_neg (by rw [h8]; simp)]]
    rw [h8] at key
    exact key

theorem tok_drop_le {s : ByteArray} {p : Nat} (h : p < s.size) : p + (tok ((bs s).drop p)).2 ≤ s.size := by
  have := (tok_bounds (drop_ne h)).2.2.2; simp [bs_len] at this; omega

theorem Rdr.keep {S : Nat → Prop} {w w' : World} {b : Nat} {s : ByteArray} {p : Nat} (h : Rdr w b s p) (hk : Kp S w w') (hn : ¬ S b) (h7 : ∀ k, k < 4 → ¬ S k) : Rdr w' b s p := ⟨h.raw.keep hk hn, h.tabs.keep hk h7, h.old, h.le, h.big⟩
theorem On.newset {b : Nat} {a w : World} (h : On b a w) {n : Nat} (hn : a.heap.size ≤ n) (i : Nat) (v : Value) : On b a (w.setCell ⟨n, i, none⟩ v) := Kp.setCell h (p := ⟨n, i, none⟩) (fun hl => by have : n < a.heap.size := hl; omega) v
/-- A block of three cells: a token in memory. -/
def Blk3 (w : World) (b : Nat) (x0 x1 x2 : Value) : Prop := w.heap[b]? = some (.cells #[x0, x1, x2] 29 (0, 0))
theorem Blk3.new (w : World) (x0 x1 x2 : Value) : Blk3 (w.alloc (.cells #[x0, x1, x2] 29)) w.heap.size x0 x1 x2 := by
  show (w.heap.push _)[w.heap.size]? = _
  simp
theorem Blk3.facts {w : World} {b : Nat} {x0 x1 x2 : Value} (h : Blk3 w b x0 x1 x2) :
    (w.cell? ⟨b, 0, none⟩ = some x0 ∧ w.cell? ⟨b, 1, none⟩ = some x1 ∧ w.cell? ⟨b, 2, none⟩ = some x2) ∧
    (w.frozen? ⟨b, 0, none⟩ = false ∧ w.frozen? ⟨b, 1, none⟩ = false ∧ w.frozen? ⟨b, 2, none⟩ = false) := by
  unfold Blk3 at h
  refine ⟨⟨?_, ?_, ?_⟩, ?_, ?_, ?_⟩ <;> simp [World.cell?, World.frozen?, h]

set_option maxHeartbeats 4000000 in
theorem token_any (b : Nat) (s : ByteArray) (p : Nat) (w : World) (h : Rdr w b s p) (hp : p < s.size) :
    Calls Tryd.prog 26 #[.pointer (some ⟨b, 0, none⟩)] w fun e w' => e = .returned (.agg #[.int .i64 (tok ((bs s).drop p)).1, .int .i64 p, .int .i64 (tok ((bs s).drop p)).2]) ∧ Rdr w' b s (p + (tok ((bs s).drop p)).2) ∧ On b w w' := by
  have hs := h.big
  have HT := hide (tok_drop_le hp)
  have h' : Rdr (w.alloc (.cells #[.int .i64 0, .int .i64 0, .int .i64 0] 29)) b s p := h.below ((Below.refl _ _).alloc (Nat.le_refl _) _)
  have hbl : b < w.heap.size := h.raw.lt
  obtain ⟨⟨c0, c1, c2, c3⟩, f0, f1, f2, f3⟩ := h.raw.facts
  go_enter Tryd.func26, Tryd.ntmps26
  go_wp2_with fail
  refine (kind_any b s p _ h' hp).mono ?_
  rintro e w1 ⟨rfl, r1, k1⟩
  obtain ⟨⟨d0, d1, d2, d3⟩, -⟩ := r1.raw.facts
  have g0 : Blk3 w1 w.heap.size (.int .i64 0) (.int .i64 0) (.int .i64 0) := Kp.heap k1 (Blk3.new w _ _ _) (by omega)
  obtain ⟨⟨x0, x1, x2⟩, y0, y1, y2⟩ := g0.facts
  have R1 := hide r1
  have K1 := hide k1
  clear r1 k1 g0
  have hT := HT.out
  have e1 : ((p + (tok ((bs s).drop p)).2 : Nat) : Int) - (p : Int) = ((tok ((bs s).drop p)).2 : Int) := by omega
  go_wp2_with fail
  have e2 : (p : Int) + ((tok ((bs s).drop p)).2 : Int) - (p : Int) = ((tok ((bs s).drop p)).2 : Int) := by omega
  rw [e2]
  have k0 : On b w w1 := Kp.trans (Kp.alloc (Kp.refl _ w) _) K1.out (fun _ _ e => e)
  have h7 := h.tabs.2
  have q1 : Kp (fun k => k = w.heap.size) w1 (((w1.setCell ⟨w.heap.size, 0, none⟩ (.int .i64 (tok ((bs s).drop p)).1)).setCell ⟨w.heap.size, 1, none⟩ (.int .i64 p)).setCell ⟨w.heap.size, 2, none⟩ (.int .i64 (tok ((bs s).drop p)).2)) :=
    ((On.set (Kp.refl _ w1) 0 _).set 1 _).set 2 _
  exact bodyPost_ret (v := .agg #[.int .i64 (tok ((bs s).drop p)).1, .int .i64 p, .int .i64 (tok ((bs s).drop p)).2]) (by simp [results, Tryd.results26, go_sem, x0, x1, x2]) rfl
    ⟨rfl, (R1.out).keep q1 (by omega) (fun k hk => by omega), ((k0.newset (Nat.le_refl _) 0 _).newset (Nat.le_refl _) 1 _).newset (Nat.le_refl _) 2 _⟩
end Go.Proofs.YtbhcniemkjoflaaDoor
