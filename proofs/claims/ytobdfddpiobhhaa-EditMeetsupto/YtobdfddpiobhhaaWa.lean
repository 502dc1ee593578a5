/- The writer of plain spans: a span is begun and ended. -/
import Derived.Test.YtobdfddpiobhhaaBb
import Derived.Test.YtobdfddpiobhhaaFc
namespace Go.Proofs.Ytobdfddpiobhhaa
open Go.RowKit
open EM
def Wr.txt (W : Wr) : By := match W.o with | none => [] | some (_, s) => s
def Wr.opn (W : Wr) : Bool := W.o.isSome
/-- A writer in memory. F: the blocks that are its own. -/
structure IsW (B : Nat) (w : World) (b : Nat) (W : Wr) (F : Nat → Prop) : Prop where
  h : ∃ sv p bv, ∃ fr : Nat, WB w b sv (.int .i64 W.a) (.bool (Wr.opn W)) (.int .i64 fr) p bv ∧ w.ownsRow B 32 3 sv W.l.length ((W.l.map raw).flatMap Rw.vals) ∧ BU w B b p bv (Wr.txt W) ∧ (∀ f s, W.o = some (f, s) → fr = f) ∧ fr ≤ 1099511627776 ∧
    (∀ k, sv.ownBlock = some k → F k ∧ k ≠ b ∧ bv.ownBlock ≠ some k) ∧ (∀ k, bv.ownBlock = some k → F k ∧ k ≠ b)
  f : F b
  lt : ∀ k, F k → B ≤ k ∧ k < w.heap.size
theorem IsW.keep {T F : Nat → Prop} {B : Nat} {w w' : World} {b : Nat} {W : Wr} (h : IsW B w b W F) (hk : Kp T w w') (hd : ∀ k, F k → ¬ T k) : IsW B w' b W F := by
  obtain ⟨⟨sv, p, bv, fr, h1, h2, h3, h4, h5, h6, h7⟩, f, lt⟩ := h
  refine ⟨⟨sv, p, bv, fr, h1.kp hk (hd b f), hk.owns h2 (fun k hkk => hd k (h6 k hkk).1), ?_, h4, h5, h6, h7⟩, f, fun k hkk => ⟨(lt k hkk).1, Nat.lt_of_lt_of_le (lt k hkk).2 hk.size⟩⟩
  rcases h3 with h3 | ⟨e1, e2, e3, e4⟩
  · exact .inl h3
  · exact .inr ⟨e1, e2, hk.owns e3 (fun k hkk => hd k (h7 k hkk).1), e4⟩
theorem IsW.more {F F' : Nat → Prop} {B : Nat} {w : World} {b : Nat} {W : Wr} (h : IsW B w b W F) (hF : ∀ k, F k → F' k) (hl : ∀ k, F' k → B ≤ k ∧ k < w.heap.size) : IsW B w b W F' := by
  obtain ⟨⟨sv, p, bv, fr, h1, h2, h3, h4, h5, h6, h7⟩, f, lt⟩ := h
  exact ⟨⟨sv, p, bv, fr, h1, h2, h3, h4, h5, fun k hk => ⟨hF k (h6 k hk).1, (h6 k hk).2⟩, fun k hk => ⟨hF k (h7 k hk).1, (h7 k hk).2⟩⟩, hF b f, hl⟩
set_option maxHeartbeats 1000000 in
theorem begin_any (B b : Nat) (w : World) (W : Wr) (F : Nat → Prop) (h : IsW B w b W F) (ha : W.a ≤ 1099511627776) :
    Calls Try.prog 30 #[.pointer (some ⟨b, 0, none⟩)] w fun e w' => e = .returned (.tuple #[]) ∧ IsW B w' b W.beg F ∧ Kp (fun k => k = b) w w' ∧ w'.heap.size = w.heap.size := by
  obtain ⟨⟨sv, p, bv, fr, h1, h2, h3, h4, h5, h6, h7⟩, f, lt⟩ := h
  obtain ⟨c0, c1, c2, c3, c4, c5⟩ := h1.cells
  have f2 := h1.frozen 2
  have f3 := h1.frozen 3
  cases ho : W.o with
  | some q =>
    have e1 : W.beg = W := by unfold Wr.beg; simp [ho]
    have e2 : Wr.opn W = true := by simp [Wr.opn, ho]
    have HW := hide (show IsW B w b W.beg F by rw [e1]; exact ⟨⟨sv, p, bv, fr, h1, h2, h3, h4, h5, h6, h7⟩, f, lt⟩)
    rw [e2] at c2
    clear h1 h2 h3 h4 h6 h7 lt e1 e2
    go_enter Try.func30, Try.ntmps30
    go_wp2_with fail
    go_end0
    exact ⟨rfl, HW.out, Kp.refl _ _, rfl⟩
  | none =>
    have e2 : Wr.opn W = false := by simp [Wr.opn, ho]
    have e3 : Wr.txt W = [] := by simp [Wr.txt, ho]
    have e1 : W.beg = ⟨W.l, W.a, some (W.a, [])⟩ := by unfold Wr.beg; simp [ho]
    have K := hide (show Kp (fun k => k = b) w ((w.setCell ⟨b, 2, none⟩ (.bool true)).setCell ⟨b, 3, none⟩ (.int .i64 W.a)) from (Kp.one w b 2 _).setCell (p := ⟨b, 3, none⟩) (fun _ => rfl) _)
    have HW := hide (show IsW B ((w.setCell ⟨b, 2, none⟩ (.bool true)).setCell ⟨b, 3, none⟩ (.int .i64 W.a)) b W.beg F by
      rw [e1]
      refine ⟨⟨sv, p, bv, W.a, (h1.set2 _).set3 _, (K.out).owns h2 (fun k hk => (h6 k hk).2.1), ?_, fun f s h => by simp only [Option.some.injEq, Prod.mk.injEq] at h; exact h.1, ha, h6, h7⟩, f, fun k hk => ⟨(lt k hk).1, by have := (lt k hk).2; simp only [set_size]; exact this⟩⟩
      rw [e3] at h3
      show BU _ B b p bv []
      rcases h3 with h3 | ⟨_, h3, _⟩
      · exact .inl h3
      · exact absurd rfl h3)
    rw [e2] at c2
    clear h1 h2 h3 h4 h6 h7 lt e1 e2 e3
    go_enter Try.func30, Try.ntmps30
    go_wp2_with fail
    go_end0
    exact ⟨rfl, HW.out, K.out, by simp only [set_size]⟩
end Go.Proofs.Ytobdfddpiobhhaa
