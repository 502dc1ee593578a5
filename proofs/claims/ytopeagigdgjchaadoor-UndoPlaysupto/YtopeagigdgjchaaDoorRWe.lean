/- Trees that hold a text: what they are, and that pair makes one of two. -/
import Derived.Test.YtopeagigdgjchaaDoorRWd
namespace Go.Proofs.YtopeagigdgjchaaDoor.Rp
open Go.RowKit
open M

/-- The tree at block b holds l and has height h; f bounds its depth. -/
def Tr (w : World) : Nat → Nat → List UInt8 → Nat → Prop
  | 0, _, _, _ => False
  | f + 1, b, l, h =>
    (∃ t, Node w b none none t 0 l.length (nb l) (nr l) (nu l) ∧ bs t = l ∧ h = 0 ∧ l ≠ [] ∧ l.length ≤ 512) ∨
    (∃ bl br l1 l2 h1 h2, Node w b (some ⟨bl, 0, none⟩) (some ⟨br, 0, none⟩) ByteArray.empty h l.length (nb l) (nr l) (nu l) ∧ l = l1 ++ l2 ∧ Bd l l1.length ∧ h = max h1 h2 + 1 ∧ Tr w f bl l1 h1 ∧ Tr w f br l2 h2)
def IsT (w : World) (b : Nat) (l : List UInt8) (h : Nat) : Prop := ∃ f, Tr w f b l h

theorem Tr.mono {w : World} (f : Nat) : ∀ {g b : Nat} {l : List UInt8} {h : Nat}, f ≤ g → Tr w f b l h → Tr w g b l h := by
  induction f with
  | zero => intro g b l h _ k; exact absurd k (fun k => k)
  | succ f ih =>
    intro g b l h hg k
    obtain ⟨g, rfl⟩ : ∃ g', g = g' + 1 := ⟨g - 1, by omega⟩
    rcases k with k | ⟨bl, br, l1, l2, h1, h2, kn, e, hb, hh, t1, t2⟩
    · exact Or.inl k
    · exact Or.inr ⟨bl, br, l1, l2, h1, h2, kn, e, hb, hh, ih (by omega) t1, ih (by omega) t2⟩

theorem Tr.below {w w' : World} (hb : Below w.heap.size w w') (f : Nat) : ∀ {b : Nat} {l : List UInt8} {h : Nat}, Tr w f b l h → Tr w' f b l h := by
  induction f with
  | zero => intro b l h k; exact absurd k (fun k => k)
  | succ f ih =>
    intro b l h k
    rcases k with ⟨t, kn, r⟩ | ⟨bl, br, l1, l2, h1, h2, kn, e, hbd, hh, t1, t2⟩
    · exact Or.inl ⟨t, kn.below hb, r⟩
    · exact Or.inr ⟨bl, br, l1, l2, h1, h2, kn.below hb, e, hbd, hh, ih t1, ih t2⟩
theorem IsT.below {w w' : World} {b : Nat} {l : List UInt8} {h : Nat} (k : IsT w b l h) (hb : Below w.heap.size w w') : IsT w' b l h := by
  obtain ⟨f, k⟩ := k; exact ⟨f, k.below hb⟩

theorem IsT.leaf {w : World} {b : Nat} {t : ByteArray} {l : List UInt8} (k : Node w b none none t 0 l.length (nb l) (nr l) (nu l)) (e : bs t = l) (h1 : l ≠ []) (h2 : l.length ≤ 512) : IsT w b l 0 :=
  ⟨1, Or.inl ⟨t, k, e, rfl, h1, h2⟩⟩
theorem IsT.node {w : World} {b bl br : Nat} {l1 l2 : List UInt8} {h1 h2 : Nat} (k : Node w b (some ⟨bl, 0, none⟩) (some ⟨br, 0, none⟩) ByteArray.empty (max h1 h2 + 1) (l1 ++ l2).length (nb (l1 ++ l2)) (nr (l1 ++ l2)) (nu (l1 ++ l2)))
    (hb : Bd (l1 ++ l2) l1.length) (t1 : IsT w bl l1 h1) (t2 : IsT w br l2 h2) : IsT w b (l1 ++ l2) (max h1 h2 + 1) := by
  obtain ⟨f, t1⟩ := t1
  obtain ⟨g, t2⟩ := t2
  exact ⟨max f g + 1, Or.inr ⟨bl, br, l1, l2, h1, h2, k, rfl, hb, rfl, t1.mono _ (by omega), t2.mono _ (by omega)⟩⟩

theorem IsT.cases {w : World} {b : Nat} {l : List UInt8} {h : Nat} (k : IsT w b l h) :
    (∃ t, Node w b none none t 0 l.length (nb l) (nr l) (nu l) ∧ bs t = l ∧ h = 0 ∧ l ≠ [] ∧ l.length ≤ 512) ∨
    (∃ bl br l1 l2 h1 h2, Node w b (some ⟨bl, 0, none⟩) (some ⟨br, 0, none⟩) ByteArray.empty h l.length (nb l) (nr l) (nu l) ∧ l = l1 ++ l2 ∧ Bd l l1.length ∧ h = max h1 h2 + 1 ∧ IsT w bl l1 h1 ∧ IsT w br l2 h2) := by
  obtain ⟨f, k⟩ := k
  cases f with
  | zero => exact absurd k (fun k => k)
  | succ f =>
    rcases k with k | ⟨bl, br, l1, l2, h1, h2, kn, e, hbd, hh, t1, t2⟩
    · exact Or.inl k
    · exact Or.inr ⟨bl, br, l1, l2, h1, h2, kn, e, hbd, hh, ⟨f, t1⟩, ⟨f, t2⟩⟩

/-- What any tree's node says. -/
theorem IsT.any {w : World} {b : Nat} {l : List UInt8} {h : Nat} (k : IsT w b l h) : ∃ vl vr t, Node w b vl vr t h l.length (nb l) (nr l) (nu l) := by
  rcases k.cases with ⟨t, kn, _, rfl, _⟩ | ⟨bl, br, l1, l2, h1, h2, kn, _⟩
  · exact ⟨_, _, _, kn⟩
  · exact ⟨_, _, _, kn⟩

theorem Tr.size {w : World} (f : Nat) : ∀ {b : Nat} {l : List UInt8} {h : Nat}, Tr w f b l h → h + 1 ≤ l.length := by
  induction f with
  | zero => intro b l h k; exact absurd k (fun k => k)
  | succ f ih =>
    intro b l h k
    rcases k with ⟨t, kn, _, rfl, hne, _⟩ | ⟨bl, br, l1, l2, h1, h2, kn, rfl, hbd, rfl, t1, t2⟩
    · have := List.length_pos_iff.2 hne; omega
    · have := ih t1; have := ih t2; simp only [List.length_append]; omega
theorem IsT.size {w : World} {b : Nat} {l : List UInt8} {h : Nat} (k : IsT w b l h) : h + 1 ≤ l.length := by
  obtain ⟨f, k⟩ := k; exact Tr.size f k

theorem pair_any (a b : Nat) (l1 l2 : List UInt8) (h1 h2 : Nat) (w : World) (ta : IsT w a l1 h1) (tb : IsT w b l2 h2) (hbd : Bd (l1 ++ l2) l1.length) (hs : (l1 ++ l2).length ≤ 1125899906842624) :
    Calls Tryd.prog 58 #[.pointer (some ⟨a, 0, none⟩), .pointer (some ⟨b, 0, none⟩)] w fun e w' => ∃ c, e = .returned (.pointer (some ⟨c, 0, none⟩)) ∧ IsT w' c (l1 ++ l2) (max h1 h2 + 1) ∧ Below w.heap.size w w' := by
  obtain ⟨vl, vr, t, ka⟩ := ta.any
  obtain ⟨ul, ur, s, kb⟩ := tb.any
  have s1 := ta.size
  have s2 := tb.size
  rw [List.length_append] at hs
  have := nb_le l1; have := nr_le l1; have := nu_le l1; have := nb_le l2; have := nr_le l2; have := nu_le l2
  refine (pair_raw a b vl vr ul ur t s h1 _ _ _ _ h2 _ _ _ _ w ka kb (by omega) (by omega) (by omega) (by omega) (by omega) (by omega) (by omega) (by omega) (by omega) (by omega)).mono ?_
  rintro e w' ⟨c, rfl, hc, hn, hb⟩
  refine ⟨c, rfl, ?_, hb⟩
  rw [← List.length_append, ← nb_append, ← nr_append hbd, ← nu_append hbd] at hn
  exact IsT.node hn hbd (ta.below hb) (tb.below hb)
end Go.Proofs.YtopeagigdgjchaaDoor.Rp
