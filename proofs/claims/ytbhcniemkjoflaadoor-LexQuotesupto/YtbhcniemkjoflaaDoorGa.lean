/- Scopes with several labels; a remark within remarks is gone through. -/
import Derived.Test.YtbhcniemkjoflaaDoorRb
import Derived.WalkMore
import Derived.ScopeJumps
namespace Go.Proofs.YtbhcniemkjoflaaDoor
open Go.RowKit
open M

/-- As Q; by a goto: what J says of its label. -/
def Jumps (J : Nat → Act → World → Prop) (Q : Exit → Act → World → Prop) : Exit → Act → World → Prop
  | .goto l, a, w => J l a w
  | e, a, w => Q e a w

/-- A scope whose run jumps to labels of it: J says what holds at each jump, with a number that becomes less. -/
theorem wp_scope_many {P : Program} {a : Act} {w : World} {Q : Exit → Act → World → Prop} {c : Code} (J : Nat → Nat → Act → World → Prop)
    (first : c.wp P (Jumps (fun l a w => ∃ n, J l n a w) Q) a w)
    (pass : ∀ l n a w, J l n a w → ∃ rest, findLabel c l = some rest ∧ rest.wp P (Jumps (fun l' a' w' => ∃ n', n' < n ∧ J l' n' a' w') Q) a w) : (Code.scope c).wp P Q a w := by
  intro b k cs
  have key : ∀ n l a w, J l n a w → ∃ e a' w', Q e a' w' ∧ ∀ rest, findLabel c l = some rest → Arrives P (lone (b.at a (.code rest :: .inScope c :: k)) cs w) b k cs e a' w' := by
    intro n
    induction n using Nat.strongRecOn with
    | _ n ih =>
      intro l a w hJ
      obtain ⟨rest, hf, hp⟩ := pass l n a w hJ
      obtain ⟨e, a₁, w₁, hq, harr⟩ := hp b (.inScope c :: k) cs
      cases e with
      | normal => exact ⟨.normal, a₁, w₁, hq, fun r hr => by rw [hf] at hr; cases hr; exact Steps.trans harr (.one step_inScope)⟩
      | exit id => exact ⟨.exit id, a₁, w₁, hq, fun r hr => by rw [hf] at hr; cases hr; exact fun k' hk => harr k' (by simp [exitTo, hk])⟩
      | goto l' =>
        obtain ⟨n', hlt, hJ'⟩ := hq
        obtain ⟨e₂, a₂, w₂, hq₂, harr₂⟩ := ih n' hlt l' a₁ w₁ hJ'
        obtain ⟨rest', hf', _⟩ := pass l' n' a₁ w₁ hJ'
        have hg : gotoIn l' (.inScope c :: k) = some (.code rest' :: .inScope c :: k) := by simp [gotoIn, hf']
        exact ⟨e₂, a₂, w₂, hq₂, fun r hr => by rw [hf] at hr; cases hr; exact .of_steps (harr _ hg) (harr₂ rest' hf')⟩
      | ret => exact ⟨_, a₁, w₁, hq, fun r hr => by rw [hf] at hr; cases hr; exact harr⟩
      | panic ch => exact ⟨_, a₁, w₁, hq, fun r hr => by rw [hf] at hr; cases hr; exact harr⟩
      | outgrown => exact ⟨_, a₁, w₁, hq, fun r hr => by rw [hf] at hr; cases hr; exact harr⟩
  obtain ⟨e, a₁, w₁, hq, harr⟩ := first b (.inScope c :: k) cs
  cases e with
  | normal => exact ⟨.normal, a₁, w₁, hq, .head step_scope (Steps.trans harr (.one step_inScope))⟩
  | exit id => exact ⟨.exit id, a₁, w₁, hq, fun k' hk => .head step_scope (harr k' (by simp [exitTo, hk]))⟩
  | goto l' =>
    obtain ⟨n, hJ'⟩ := hq
    obtain ⟨rest', hf', _⟩ := pass l' n a₁ w₁ hJ'
    obtain ⟨e₂, a₂, w₂, hq₂, harr₂⟩ := key n l' a₁ w₁ hJ'
    have hg : gotoIn l' (.inScope c :: k) = some (.code rest' :: .inScope c :: k) := by simp [gotoIn, hf']
    exact ⟨e₂, a₂, w₂, hq₂, .of_steps (.head step_scope (harr _ hg)) (harr₂ rest' hf')⟩
  | ret => exact ⟨_, a₁, w₁, hq, .of_steps (.one step_scope) harr⟩
  | panic ch => exact ⟨_, a₁, w₁, hq, .of_steps (.one step_scope) harr⟩
  | outgrown => exact ⟨_, a₁, w₁, hq, .of_steps (.one step_scope) harr⟩

theorem Jumps.imp {J J' : Nat → Act → World → Prop} {Q : Exit → Act → World → Prop} (h : ∀ l a w, J l a w → J' l a w) : ∀ (e : Exit) (a : Act) (w : World), Jumps J Q e a w → Jumps J' Q e a w := fun e a w x => by
  cases e <;> first | exact h _ _ _ x | exact x

/-- The same, where the run comes to the label L first. -/
theorem wp_scope_from {P : Program} {a : Act} {w : World} {Q : Exit → Act → World → Prop} {c rest0 : Code} (J : Nat → Nat → Act → World → Prop) (L : Nat) (hf : findLabel c L = some (Code.seq .skip rest0))
    (inside : ∀ n a w, J L n a w → rest0.wp P (Jumps (fun l' a' w' => ∃ n', n' < n ∧ J l' n' a' w') Q) a w)
    (others : ∀ l n a w, l ≠ L → J l n a w → ∃ rest, findLabel c l = some rest ∧ rest.wp P (Jumps (fun l' a' w' => ∃ n', n' < n ∧ J l' n' a' w') Q) a w)
    (first : (∀ n a w, J L n a w → rest0.wp P (Jumps (fun l a w => ∃ n, J l n a w) Q) a w) → c.wp P (Jumps (fun l a w => ∃ n, J l n a w) Q) a w) : (Code.scope c).wp P Q a w := by
  refine wp_scope_many J (first fun n a w h => Code.wp_mono (Jumps.imp fun l a w ⟨n', _, h'⟩ => ⟨n', h'⟩) (inside n a w h)) ?_
  intro l n a w h
  by_cases hl : l = L
  · subst hl; exact ⟨_, hf, wp_seq (wp_skip (inside n a w h))⟩
  · exact others l n a w hl h
end Go.Proofs.YtbhcniemkjoflaaDoor
