/- The document's own token at a place. -/
import Derived.Test.YtbhcniemkjoflaaDoorFc
import Derived.Test.YtbhcniemkjoflaaDoorFd
import Derived.Test.YtbhcniemkjoflaaDoorFe
import Derived.Test.YtbhcniemkjoflaaDoorFf
namespace Go.Proofs.YtbhcniemkjoflaaDoor
open Go.RowKit
open M

theorem one_any (s : ByteArray) (p : Nat) (w : World) (hs : s.size ≤ 1073741824) (hp : p < s.size) :
    Calls Tryd.prog 27 #[.string s, .int .i64 p] w fun e w' => e = .returned (.agg #[.int .i64 (tok ((bs s).drop p)).1, .int .i64 p, .int .i64 (tok ((bs s).drop p)).2]) ∧ Below w.heap.size w w' := by
  have hne := drop_ne hp
  cases h1 : isSp (cc ((bs s).drop p))
  case true =>
    rw [show tok ((bs s).drop p) = (1, sz ((bs s).drop p) + skip isSp (nx ((bs s).drop p))) by unfold M.tok; rw [h1]; rfl]
    have := one_space s p w hs hp h1
    rw [skip_yes hne h1] at this
    exact this
  cases h2 : isLt (cc ((bs s).drop p))
  case true =>
    rw [show tok ((bs s).drop p) = (wk (((bs s).drop p).take (sz ((bs s).drop p) + skip isNm (nx ((bs s).drop p)))), sz ((bs s).drop p) + skip isNm (nx ((bs s).drop p))) by unfold M.tok wk; rw [h1, h2]; rfl]
    have := one_name s p w hs hp h2
    rw [isNm_first hne h2] at this
    exact this
  cases h3 : isDg (cc ((bs s).drop p))
  case true =>
    rw [show tok ((bs s).drop p) = (dk (sz ((bs s).drop p) + skip isDg (nx ((bs s).drop p))), sz ((bs s).drop p) + skip isDg (nx ((bs s).drop p))) by unfold M.tok dk; rw [h1, h2, h3]; rfl]
    have h3' : 48 ≤ cc ((bs s).drop p) ∧ cc ((bs s).drop p) ≤ 57 := by unfold isDg at h3; exact of_decide_eq_true h3
    have := one_digit s p w hs hp h3'.1 h3'.2
    rw [skip_yes hne h3] at this
    exact this
  by_cases h4 : cc ((bs s).drop p) = 34
  · have z1 : sz ((bs s).drop p) = 1 := sz_cc (by omega) (by omega)
    rw [show tok ((bs s).drop p) = ((quo 6 ((bs s).drop (p + 1))).1, 1 + (quo 6 ((bs s).drop (p + 1))).2) by unfold M.tok; rw [h1, h2, h3, if_neg (by simp), if_neg (by simp), if_neg (by simp), if_pos h4, nx_at z1]]
    exact one_quote s p w hs hp h4
  by_cases h5 : cc ((bs s).drop p) = 123 ∧ cc (nx ((bs s).drop p)) = 45
  · have z1 : sz ((bs s).drop p) = 1 := sz_cc (by omega) (by omega)
    have e1 := nx_at z1
    have h52 : cc ((bs s).drop (p + 1)) = 45 := by rw [← e1]; exact h5.2
    have z2 : sz ((bs s).drop (p + 1)) = 1 := sz_cc (by omega) (by omega)
    have e2 : nx (nx ((bs s).drop p)) = (bs s).drop (p + 2) := by rw [e1, nx_at z2]
    rw [show tok ((bs s).drop p) = ((nest 1 ((bs s).drop (p + 2))).1, 2 + (nest 1 ((bs s).drop (p + 2))).2) by unfold M.tok; rw [h1, h2, h3, if_neg (by simp), if_neg (by simp), if_neg (by simp), if_neg h4, if_pos h5, e2]]
    exact one_open s p w hs hp h5.1 h52
  by_cases h6 : cc ((bs s).drop p) = 45 ∧ cc (nx ((bs s).drop p)) = 45
  · have z1 : sz ((bs s).drop p) = 1 := sz_cc (by omega) (by omega)
    have e1 := nx_at z1
    rw [show tok ((bs s).drop p) = (2, 1 + skip isLn (nx ((bs s).drop p))) by unfold M.tok; rw [h1, h2, h3, if_neg (by simp), if_neg (by simp), if_neg (by simp), if_neg h4, if_neg h5, if_pos h6]]
    have := one_line s p w hs hp h6.1 (by rw [← e1]; exact h6.2)
    rw [← skip_ln _ _ (Nat.le_refl _), skip_yes hne (by rw [h6.1]; decide), z1] at this
    exact this
  have n1 : ∀ b, sz ((bs s).drop p) = 1 → (cc ((bs s).drop (p + 1)) = b ↔ cc (nx ((bs s).drop p)) = b) := fun b z => by rw [nx_at z]
  have hh : hasB s p 123 45 = false := by
    unfold hasB; refine decide_eq_false (fun e => h5 ⟨e.1, ?_⟩)
    exact (n1 _ (sz_cc (by omega) (by omega))).1 e.2
  have hh0 : hasB s p 45 45 = false := by
    unfold hasB; refine decide_eq_false (fun e => h6 ⟨e.1, ?_⟩)
    exact (n1 _ (sz_cc (by omega) (by omega))).1 e.2
  cases h7 : isPr (cc ((bs s).drop p)) (cc (nx ((bs s).drop p)))
  case true =>
    rw [show tok ((bs s).drop p) = (7, 2) by unfold M.tok; rw [h1, h2, h3, if_neg (by simp), if_neg (by simp), if_neg (by simp), if_neg h4, if_neg h5, if_neg h6, if_pos h7]]
    have h8 := h7
    unfold isPr at h8
    have h9 := of_decide_eq_true h8
    have z1 : sz ((bs s).drop p) = 1 := sz_cc (by omega) (by omega)
    rcases h9 with ⟨a, b | b⟩ | ⟨a, b⟩
    · exact one_61_62 s p w hs hp a ((n1 _ z1).2 b)
    · exact one_61_61 s p w hs hp a ((n1 _ z1).2 b)
    · exact one_43_43 s p w hs hp a ((n1 _ z1).2 b)
  have h7' : ¬ ((cc ((bs s).drop p) = 61 ∧ (cc (nx ((bs s).drop p)) = 62 ∨ cc (nx ((bs s).drop p)) = 61)) ∨ (cc ((bs s).drop p) = 43 ∧ cc (nx ((bs s).drop p)) = 43)) := by unfold isPr at h7; exact of_decide_eq_false h7
  have p1 : hasB s p 61 62 = false := by
    unfold hasB; refine decide_eq_false (fun e => h7' (.inl ⟨e.1, .inl ?_⟩))
    exact (n1 _ (sz_cc (by omega) (by omega))).1 e.2
  have p2 : hasB s p 61 61 = false := by
    unfold hasB; refine decide_eq_false (fun e => h7' (.inl ⟨e.1, .inr ?_⟩))
    exact (n1 _ (sz_cc (by omega) (by omega))).1 e.2
  have p3 : hasB s p 43 43 = false := by
    unfold hasB; refine decide_eq_false (fun e => h7' (.inr ⟨e.1, ?_⟩))
    exact (n1 _ (sz_cc (by omega) (by omega))).1 e.2
  cases h8 : isSg (cc ((bs s).drop p))
  case true =>
    rw [show tok ((bs s).drop p) = (7, 1) by unfold M.tok; rw [h1, h2, h3, if_neg (by simp), if_neg (by simp), if_neg (by simp), if_neg h4, if_neg h5, if_neg h6, if_neg (by rw [h7]; simp), if_pos h8]]
    exact one_sign s p w hs hp h1 h2 h3 h4 h8 hh hh0 p1 p2 p3
  case false =>
    rw [show tok ((bs s).drop p) = (8, sz ((bs s).drop p)) by unfold M.tok; rw [h1, h2, h3, if_neg (by simp), if_neg (by simp), if_neg (by simp), if_neg h4, if_neg h5, if_neg h6, if_neg (by rw [h7]; simp), if_neg (by rw [h8]; simp)]]
    exact one_bad s p w hs hp h1 h2 h3 h4 h8 hh hh0 p1 p2 p3
end Go.Proofs.YtbhcniemkjoflaaDoor
