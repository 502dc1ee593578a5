/- Goroutine 0 and one child walk side by side. -/
import Derived.Test.YtdlnlcjmjgbikaaQq
namespace Go.Proofs.Ytdlnlcjmjgbikaa
open Go Go.Conc
open Go.ConcN (sumTo upd sumTo_upd upd_ne upd_same)

section
variable {P : Program} {Q : Machine → Outcome → World → Trace → Prop} {c n : Nat} {T : Nat → Nat → Trace → Prop}
theorem at_at (w : World) (d d' : Nat) : (w.at d).at d' = w.at d' := rfl
theorem at_self (w : World) : w.at w.drawn = w := rfl

/-- Those who only leave are in nobody's way. -/
theorem duo_lay {a b : Goroutine} {w : World} {k kc : Nat} (hTs : ∀ k kc t ops, T k kc t → Slip c ops → T k kc (t ++ ops))
    (hA : a.status = .running ∨ (a.status = .blocked ∧ ∀ g g' d, woken P g g' (w.at d) a = a)) (hB : b.status = .running ∨ (b.status = .blocked ∧ ∀ g g' d, woken P g g' (w.at d) b = b)) (hr : a.status = .running ∨ b.status = .running)
    (m0 : a.status = .running → ∀ d gs sl t q, gs.size = n → gs[0]? = some a → gs[c]? = some b → Lv P c t gs q → T k kc t → ∃ m' ops, runT P (crowd gs (w.at d) sl) 0 = (.next m', ops) ∧ Wd P Q m' (t ++ ops))
    (mc : b.status = .running → ∀ d gs sl t q, gs.size = n → gs[0]? = some a → gs[c]? = some b → Lv P c t gs q → T k kc t → ∃ m' ops, runT P (crowd gs (w.at d) sl) c = (.next m', ops) ∧ Wd P Q m' (t ++ ops)) :
    ∀ M gs d sl t q, sumTo gs.size q ≤ M → gs.size = n → gs[0]? = some a → gs[c]? = some b → Lv P c t gs q → T k kc t → Wd P Q (crowd gs (w.at d) sl) t := by
  have key : ∀ M gs d sl t q, sumTo gs.size q ≤ M → gs.size = n → gs[0]? = some a → gs[c]? = some b → Lv P c t gs q → T k kc t →
      (∀ gs' d' sl' t' q', sumTo gs'.size q' < M → gs'.size = n → gs'[0]? = some a → gs'[c]? = some b → Lv P c t' gs' q' → T k kc t' → Wd P Q (crowd gs' (w.at d') sl') t') → Wd P Q (crowd gs (w.at d) sl) t := by
    intro M gs d sl t q hM hn h0 hc hL hT ih
    have one : ∀ i g, (i = 0 ∨ i = c) → gs[i]? = some g → g = a ∨ g = b := fun i g hi hg => by
      rcases hi with rfl | rfl
      · exact .inl (Option.some.inj (hg.symm.trans h0))
      · exact .inr (Option.some.inj (hg.symm.trans hc))
    obtain ⟨d1, sl1, h | ⟨gs', q', ops, h1, h2, h3, h4, h5, h6⟩⟩ := crowd_move (w := w.at d) (sl := sl) (c := c)
      (fun i g hi hg => by
        rcases one i g hi hg with rfl | rfl
        · exact hA.imp id (·.1)
        · exact hB.imp id (·.1))
      (by rcases hr with h | h
          · exact ⟨0, a, .inl rfl, h0, h⟩
          · exact ⟨c, b, .inr rfl, hc, h⟩)
      (fun i x g g' d' hi hx hnr => by
        rcases one i x hi hx with rfl | rfl
        · exact (hA.resolve_left hnr).2 g g' d'
        · exact (hB.resolve_left hnr).2 g g' d') hL
    · obtain ⟨i, g, hi, hg, hgr, hs⟩ := h
      rw [at_at] at hs
      rcases hi with rfl | rfl
      · obtain rfl : g = a := Option.some.inj (hg.symm.trans h0)
        obtain ⟨m', ops, hm, hw⟩ := m0 hgr d1 gs sl1 t q hn h0 hc hL hT
        exact .step (hs.trans hm) hw
      · obtain rfl : g = b := Option.some.inj (hg.symm.trans hc)
        obtain ⟨m', ops, hm, hw⟩ := mc hgr d1 gs sl1 t q hn h0 hc hL hT
        exact .step (hs.trans hm) hw
    · rw [at_at] at h1
      exact .step h1 (ih gs' d1 sl1 (t ++ ops) q' (by rw [h2]; omega) (h2.trans hn) ((h3 0 (.inl rfl)).trans h0) ((h3 c (.inr rfl)).trans hc) h4 (hTs _ _ _ _ hT h6))
  intro M
  induction M with
  | zero => exact fun gs d sl t q hM hn h0 hc hL hT => key 0 gs d sl t q hM hn h0 hc hL hT fun _ _ _ _ _ h => absurd h (Nat.not_lt_zero _)
  | succ M ih => exact fun gs d sl t q hM hn h0 hc hL hT => key _ gs d sl t q hM hn h0 hc hL hT fun gs' d' sl' t' q' h => ih gs' d' sl' t' q' (Nat.le_of_lt_succ h)

variable {R0 Rc : World → World → Prop} {D0 Dc : World → World → Array Event → Prop} {Stop0 Stopc : Nat → Goroutine → World → Prop}
/-- How one may stand who stops. -/
def Stands (P : Program) (a : Goroutine) (w : World) : Prop := a.status = .running ∨ (a.status = .blocked ∧ ∀ g g', woken P g g' w a = a)
/-- What is asked of the two walks. -/
structure Duo (P : Program) (c : Nat) (T : Nat → Nat → Trace → Prop) (R0 Rc : World → World → Prop) (D0 Dc : World → World → Array Event → Prop) (Stop0 Stopc : Nat → Goroutine → World → Prop) : Prop where
  pos : c ≠ 0
  at0 : ∀ w d, R0 w (w.at d)
  atc : ∀ w d, Rc w (w.at d)
  trans0 : ∀ a b c, R0 a b → R0 b c → R0 a c
  transc : ∀ a b c, Rc a b → Rc b c → Rc a c
  lets0 : ∀ w w' es, D0 w w' es → Rc w w'
  letsc : ∀ w w' es, Dc w w' es → R0 w w'
  t0 : ∀ k kc t w w' es fn pos, T k kc t → D0 w w' es → T (deafBehind k es) kc (t ++ MemOp.ofEvents 0 fn pos es)
  tc : ∀ k kc t w w' es fn pos, T k kc t → Dc w w' es → T k (deafBehind kc es) (t ++ MemOp.ofEvents c fn pos es)
  ts : ∀ k kc t ops, T k kc t → Slip c ops → T k kc (t ++ ops)
  st0 : ∀ k a w, Stop0 k a w → Stands P a w
  stc : ∀ k a w, Stopc k a w → Stands P a w
  live : ∀ k a w k' b, Stop0 k a w → Stopc k' b w → a.status = .running ∨ b.status = .running

theorem Pr.stands {main : Bool} {R : World → World → Prop} {D : World → World → Array Event → Prop} {Stop : Nat → Goroutine → World → Prop} {k : Nat} {a : Goroutine} {w : World} (hat : ∀ w d, R w (w.at d)) (hS : ∀ k a w, Stop k a w → Stands P a w) (h : Pr P main R D Stop k a w) :
    a.status = .running ∨ (a.status = .blocked ∧ (∀ w1, R w w1 → Stop k a w1) ∧ ∀ g g' w1, R w w1 → woken P g g' w1 a = a) := by
  cases h with
  | stop h =>
    rcases hS _ _ _ (h w (by have := hat w w.drawn; rwa [at_self] at this)) with hr | ⟨hb, _⟩
    · exact .inl hr
    · refine .inr ⟨hb, h, fun g g' w1 h1 => ?_⟩
      rcases hS _ _ _ (h w1 h1) with hr | ⟨_, hw⟩
      · rw [hb] at hr; cases hr
      · exact hw g g'
  | step _ _ _ hr _ _ _ => exact .inl hr
theorem Pr.woken_eq {main : Bool} {R : World → World → Prop} {D : World → World → Array Event → Prop} {Stop : Nat → Goroutine → World → Prop} {k : Nat} {a : Goroutine} {w w1 : World} (hat : ∀ w d, R w (w.at d)) (hS : ∀ k a w, Stop k a w → Stands P a w) (h : Pr P main R D Stop k a w) (h1 : R w w1) (g g' : Goroutine) :
    woken P g g' w1 a = a := by
  rcases h.stands hat hS with hr | ⟨_, _, hw⟩
  · exact woken_run hr
  · exact hw g g' w1 h1

/-- The two walk to where they stop, and on from there. -/
theorem duo_fin (H : Duo P c T R0 Rc D0 Dc Stop0 Stopc)
    (h0 : ∀ k kc gs a b w sl t q, gs.size = n → gs[0]? = some a → gs[c]? = some b → (∀ w1, R0 w w1 → Stop0 k a w1) → a.status = .running → Pr P false Rc Dc Stopc kc b w → Lv P c t gs q → T k kc t → ∃ m' ops, runT P (crowd gs w sl) 0 = (.next m', ops) ∧ Wd P Q m' (t ++ ops))
    (hc : ∀ k kc gs a b w sl t q, gs.size = n → gs[0]? = some a → gs[c]? = some b → (∀ w1, Rc w w1 → Stopc kc b w1) → b.status = .running → Pr P true R0 D0 Stop0 k a w → Lv P c t gs q → T k kc t → ∃ m' ops, runT P (crowd gs w sl) c = (.next m', ops) ∧ Wd P Q m' (t ++ ops))
    {k : Nat} {a : Goroutine} {w : World} (ha : Pr P true R0 D0 Stop0 k a w) :
    ∀ w0, R0 w w0 → ∀ kc b, Pr P false Rc Dc Stopc kc b w0 → ∀ gs sl t q, gs.size = n → gs[0]? = some a → gs[c]? = some b → Lv P c t gs q → T k kc t → Wd P Q (crowd gs w0 sl) t := by
  have hpos := H.pos
  have self0 : ∀ w, R0 w w := fun w => by have := H.at0 w w.drawn; rwa [at_self] at this
  have selfc : ∀ w, Rc w w := fun w => by have := H.atc w w.drawn; rwa [at_self] at this
  have cne : (c == 0) = false := by simpa using hpos
  -- the child's walk, where goroutine 0's next step is in hand
  have inner : ∀ {k : Nat} {a : Goroutine} {w : World}, Pr P true R0 D0 Stop0 k a w →
      (∀ w1, R0 w w1 → a.status = .running → ∀ kc b, Pr P false Rc Dc Stopc kc b w1 → ∀ gs sl t q, gs.size = n → gs[0]? = some a → gs[c]? = some b → Lv P c t gs q → T k kc t → ∃ m' ops, runT P (crowd gs w1 sl) 0 = (.next m', ops) ∧ Wd P Q m' (t ++ ops)) →
      ∀ {kc : Nat} {b : Goroutine} {wb : World}, Pr P false Rc Dc Stopc kc b wb → ∀ w1, Rc wb w1 → R0 w w1 → ∀ gs sl t q, gs.size = n → gs[0]? = some a → gs[c]? = some b → Lv P c t gs q → T k kc t → Wd P Q (crowd gs w1 sl) t := by
    intro k a w ha hm kc b wb hb
    induction hb with
    | stop hs =>
      rename_i kc b wb
      intro w1 hc1 h01 gs sl t q hn g0 gc hL hT
      have hb' : Pr P false Rc Dc Stopc kc b w1 := Pr.rely H.transc (.stop hs) hc1
      have ha' := Pr.rely H.trans0 ha h01
      refine duo_lay (w := w1) H.ts ((ha'.stands H.at0 H.st0).imp id fun h => ⟨h.1, fun g g' d => h.2.2 g g' _ (H.at0 _ _)⟩) ((hb'.stands H.atc H.stc).imp id fun h => ⟨h.1, fun g g' d => h.2.2 g g' _ (H.atc _ _)⟩) ?_
        (fun hr d gs sl t q hn g0 gc hL hT => hm (w1.at d) (H.trans0 _ _ _ h01 (H.at0 _ _)) hr kc b (hb'.rely H.transc (H.atc _ _)) gs sl t q hn g0 gc hL hT)
        (fun hr d gs sl t q hn g0 gc hL hT => hc k kc gs a b (w1.at d) sl t q hn g0 gc (fun w2 h2 => hs w2 (H.transc _ _ _ (H.transc _ _ _ hc1 (H.atc _ d)) h2)) hr (ha'.rely H.trans0 (H.at0 _ _)) hL hT)
        _ gs w1.drawn sl t q (Nat.le_refl _) hn g0 gc hL hT
      rcases ha'.stands H.at0 H.st0 with h | ⟨_, h, _⟩
      · exact .inl h
      · exact H.live _ _ _ _ _ (h w1 (self0 w1)) (hs w1 hc1)
    | step f u e hr hs hd hk ih =>
      rename_i kc b wb
      intro w1 hc1 h01 gs sl t q hn g0 gc hL hT
      have hb' : Pr P false Rc Dc Stopc kc b w1 := Pr.rely H.transc (.step f u e hr hs hd hk) hc1
      have ha' := Pr.rely H.trans0 ha h01
      refine duo_lay (w := w1) H.ts ((ha'.stands H.at0 H.st0).imp id fun h => ⟨h.1, fun g g' d => h.2.2 g g' _ (H.at0 _ _)⟩) (.inl hr) (.inr hr)
        (fun hr d gs sl t q hn g0 gc hL hT => hm (w1.at d) (H.trans0 _ _ _ h01 (H.at0 _ _)) hr kc b (hb'.rely H.transc (H.atc _ _)) gs sl t q hn g0 gc hL hT)
        (fun _ d gs sl t q hn g0 gc hL hT => ?_)
        _ gs w1.drawn sl t q (Nat.le_refl _) hn g0 gc hL hT
      have hcd := H.transc _ _ _ hc1 (H.atc w1 d)
      have h0d := H.trans0 _ _ _ (H.trans0 _ _ _ h01 (H.at0 w1 d)) (H.letsc _ _ _ (hd _ hcd))
      have hcl : c < gs.size := (Array.getElem?_eq_some_iff.1 gc).1
      obtain ⟨gs', r1, r2, r3, r4, r5⟩ := crowd_act (i := c) (c := c) (sl := sl) gc (.inr rfl) (by rw [cne]; exact hs _ hcd) hL hcl
      refine ⟨_, _, r1, ih _ hcd _ (selfc _) h0d gs' sl _ q (r2.trans hn) ?_ r3 r5 (H.tc _ _ _ _ _ _ _ _ hT (hd _ hcd))⟩
      rw [r4 0 a (Ne.symm hpos) g0, ha.woken_eq H.at0 H.st0 h0d]
  induction ha with
  | stop hs =>
    intro w0 hw0 kc b hb
    refine inner (.stop hs) ?_ hb w0 (selfc _) hw0
    intro w1 h1 hr kc b hb gs sl t q hn g0 gc hL hT
    exact h0 _ kc gs _ b w1 sl t q hn g0 gc (fun w2 h2 => hs w2 (H.trans0 _ _ _ h1 h2)) hr hb hL hT
  | step f u e hr hs hd hk ih =>
    rename_i k a w
    intro w0 hw0 kc b hb
    refine inner (.step f u e hr hs hd hk) ?_ hb w0 (selfc _) hw0
    intro w1 h1 _ kc b hb gs sl t q hn g0 gc hL hT
    have hcl : c < gs.size := (Array.getElem?_eq_some_iff.1 gc).1
    obtain ⟨gs', r1, r2, r3, r4, r5⟩ := crowd_act (i := 0) (c := c) (sl := sl) g0 (.inl rfl) (hs _ h1) hL hcl
    have hcu := H.lets0 _ _ _ (hd _ h1)
    refine ⟨_, _, r1, ih _ h1 _ (self0 _) kc b (hb.rely H.transc hcu) gs' sl _ q (r2.trans hn) r3 ?_ r5 (H.t0 _ _ _ _ _ _ _ _ hT (hd _ h1))⟩
    rw [r4 c b hpos gc, hb.woken_eq H.atc H.stc hcu]
end
end Go.Proofs.Ytdlnlcjmjgbikaa
/- What comes to its end in one goroutine is a walk of the program's, whatever the others do to the blocks that are left out. -/
namespace Go.Proofs.Ytdlnlcjmjgbikaa
open Go Go.Conc

section
variable (Q : Program) (base : List Frame) (R : Frame → List Frame → World → Prop)
/-- One step on, whatever the answers. -/
def Nx (fr1 : Frame) (c1 : List Frame) (v1 : World) (fr : Frame) (c : List Frame) (v : World) : Prop :=
  ¬ R fr c v ∧ ∃ τ d es, stepG Q true (G fr (c ++ base)) (re v τ d) = .go (G fr1 (c1 ++ base)) v1 es
/-- Some steps on. -/
inductive Pth (fr1 : Frame) (c1 : List Frame) (v1 : World) : Frame → List Frame → World → Prop
  | one {fr : Frame} {c : List Frame} {v : World} : Nx Q base R fr1 c1 v1 fr c v → Pth fr1 c1 v1 fr c v
  | more {fr2 : Frame} {c2 : List Frame} {v2 : World} {fr : Frame} {c : List Frame} {v : World} : Nx Q base R fr2 c2 v2 fr c v → Pth fr1 c1 v1 fr2 c2 v2 → Pth fr1 c1 v1 fr c v
end
section
variable {Q : Program} {base : List Frame} {R : Frame → List Frame → World → Prop}
theorem Ends.next {fr fr1 : Frame} {c c1 : List Frame} {v v1 : World} (h : Ends Q base R fr c v) (hn : Nx Q base R fr1 c1 v1 fr c v) : Ends Q base R fr1 c1 v1 := by
  obtain ⟨hr, τ, d, es, hs⟩ := hn
  cases h with
  | stop h => exact absurd h hr
  | step f l u e hl h k =>
    obtain ⟨rfl, rfl, rfl⟩ := go_inj (hs.symm.trans (h τ d))
    exact k τ d
theorem Ends.path {fr fr1 : Frame} {c c1 : List Frame} {v v1 : World} (h : Ends Q base R fr c v) (hn : Pth Q base R fr1 c1 v1 fr c v) : Ends Q base R fr1 c1 v1 := by
  induction hn with
  | one hn => exact h.next hn
  | more hn _ ih => exact ih (h.next hn)
/-- Whoever may lean on all that comes behind may lean on it. -/
theorem ends_ind {M : Frame → List Frame → World → Prop} (hM : ∀ fr c v, Ends Q base R fr c v → (∀ fr1 c1 v1, Pth Q base R fr1 c1 v1 fr c v → M fr1 c1 v1) → M fr c v)
    {fr : Frame} {c : List Frame} {v : World} (h : Ends Q base R fr c v) : M fr c v := by
  suffices H : M fr c v ∧ ∀ fr1 c1 v1, Pth Q base R fr1 c1 v1 fr c v → M fr1 c1 v1 from H.1
  have both : ∀ {fr : Frame} {c : List Frame} {v : World}, Ends Q base R fr c v → (∀ fr1 c1 v1, Pth Q base R fr1 c1 v1 fr c v → M fr1 c1 v1) → M fr c v ∧ ∀ fr1 c1 v1, Pth Q base R fr1 c1 v1 fr c v → M fr1 c1 v1 :=
    fun he h => ⟨hM _ _ _ he h, h⟩
  induction h with
  | stop h =>
    refine both (.stop h) fun fr1 c1 v1 hp => ?_
    cases hp with
    | one hn => exact absurd h hn.1
    | more hn _ => exact absurd h hn.1
  | step f l u e hl h k ih =>
    refine both (.step f l u e hl h k) fun fr1 c1 v1 hp => ?_
    cases hp with
    | one hn =>
      obtain ⟨_, τ, d, es, hs⟩ := hn
      obtain ⟨rfl, rfl, rfl⟩ := go_inj (hs.symm.trans (h τ d))
      exact (ih τ d).1
    | more hn hp =>
      obtain ⟨_, τ, d, es, hs⟩ := hn
      obtain ⟨rfl, rfl, rfl⟩ := go_inj (hs.symm.trans (h τ d))
      exact (ih τ d).2 _ _ _ hp
end

/-- What others may do: to the blocks X, and to the count of draws. -/
structure RX (X : Nat → Prop) (w w1 : World) : Prop where
  size : w1.heap.size = w.heap.size
  same : ∀ r, ¬ X r → w1.heap[r]? = w.heap[r]?
  os : w1.os = w.os
  output : w1.output = w.output
/-- What a step does: the blocks X stand; it lists nothing that touches them. -/
structure DX (X : Nat → Prop) (w w1 : World) : Prop where
  keeps : Kx X w w1
  tape : w1.tape = w.tape
section
variable {X : Nat → Prop} {v w w1 w2 : World}
theorem RX.refl (w : World) : RX X w w := ⟨rfl, fun _ _ => rfl, rfl, rfl⟩
theorem RX.trans (h : RX X w w1) (k : RX X w1 w2) : RX X w w2 := ⟨k.size.trans h.size, fun r hr => (k.same r hr).trans (h.same r hr), k.os.trans h.os, k.output.trans h.output⟩
theorem RX.at (w : World) (d : Nat) : RX X w (w.at d) := ⟨rfl, fun _ _ => rfl, rfl, rfl⟩
theorem Rel.rx (h : Rel X v w) (k : RX X w w1) : Rel X v w1 := ⟨h.size.trans k.size.symm, fun r hr => (h.same r hr).trans (k.same r hr).symm, h.pois, h.os.trans k.os.symm, h.output.trans k.output.symm⟩
theorem Rel.re (h : Rel X v w) (τ : Nat → Question → Nat) (d : Nat) : Rel X (re v τ d) w := ⟨h.size, h.same, h.pois, h.os, h.output⟩
end

section
variable (P Q : Program) (X : Nat → Prop) (St : List TypeId) (Macro Far : FuncId → Prop) (I : Frame → List Frame → World → Prop) (base baseP cb : List Frame) (R : Frame → List Frame → World → Prop)
/-- Where the walk stops: the frame at the bottom leaves, or one of some functions is entered. -/
inductive StopX (k0 k : Nat) : Goroutine → World → Prop
  | leaves {fr fr' : Frame} {v w : World} : k = k0 → FrR P St Q fr fr' → fr.mode ≠ .run → fr.defers = [] → I fr' [] v → Rel X v w → Gd v → Ends Q base R fr' cb v → StopX k0 k (G fr baseP) w
  | enters {f : FuncId} {args : Array Value} {kind : CallKind} {cs cs' : List Frame} {v w : World} : k = k0 → Far f → kind = .normal ∨ kind = .deferred → I (Frame.enter Q f args kind) cs' v → All2 (FrR P St Q) cs cs' → Rel X v w → Gd v → Ends Q base R (Frame.enter Q f args kind) (cs' ++ cb) v →
      StopX k0 k (G (Frame.enter P f args kind) (cs ++ baseP)) w
/-- A frame and its callers beside the program's; I: what is kept of them. -/
def Beside (k : Nat) (Rw : World → World → Prop) (D : World → World → Array Event → Prop) (main : Bool) (fr' : Frame) (c' : List Frame) (v : World) : Prop :=
  ∀ fr cs cs' w, c' = cs' ++ cb → I fr' cs' v → TopR P Q St Macro fr fr' → All2 (FrR P St Q) cs cs' → Rel X v w → Gd v → Pr P main Rw D (StopX P Q X St Far I base baseP cb R k) k (G fr (cs ++ baseP)) w
end

section
variable {P Q : Program} {X : Nat → Prop} {St : List TypeId} {Macro Far : FuncId → Prop} {I : Frame → List Frame → World → Prop} {base baseP cb : List Frame} {R : Frame → List Frame → World → Prop} {Rw : World → World → Prop} {D : World → World → Array Event → Prop} {main : Bool} {k : Nat}
theorem deaf_ev {es : Array Event} (h : ∀ e ∈ es, Ev X e) (k : Nat) : deafBehind k es = k := deafBehind_still (fun e he => by
  have := h e he
  obtain ⟨loc, wr, sy⟩ := e
  constructor <;> (rintro rfl; exact this)) k
theorem Pr.mk {Stop : Nat → Goroutine → World → Prop} {a : Goroutine} {w : World} (hr : a.status = .running) (h : ∀ w1, Rw w w1 → ∃ g w2 es, stepG P main a w1 = .go g w2 es ∧ D w1 w2 es ∧ Pr P main Rw D Stop (deafBehind k es) g w2) : Pr P main Rw D Stop k a w := by
  have h' : ∀ w1, ∃ (x : Goroutine × World × Array Event), Rw w w1 → stepG P main a w1 = .go x.1 x.2.1 x.2.2 ∧ D w1 x.2.1 x.2.2 ∧ Pr P main Rw D Stop (deafBehind k x.2.2) x.1 x.2.1 := by
    intro w1
    by_cases h1 : Rw w w1
    · obtain ⟨g, w2, es, k1, k2, k3⟩ := h w1 h1
      exact ⟨(g, w2, es), fun _ => ⟨k1, k2, k3⟩⟩
    · exact ⟨(a, w1, #[]), fun h => absurd h h1⟩
  exact .step (fun w1 => (Classical.choose (h' w1)).1) (fun w1 => (Classical.choose (h' w1)).2.1) (fun w1 => (Classical.choose (h' w1)).2.2) hr (fun w1 h1 => (Classical.choose_spec (h' w1) h1).1) (fun w1 h1 => (Classical.choose_spec (h' w1) h1).2.1) (fun w1 h1 => (Classical.choose_spec (h' w1) h1).2.2)
/-- ████ WHAT COMES TO ITS END IN ONE GOROUTINE IS A WALK. ████ -/
theorem pr_of_ends (B : Bodies P Q St Macro) (E : Env P Q X St) (hRw : ∀ w w1, Rw w w1 → RX X w w1 ∧ w1.tape = w.tape)
    (hD : ∀ w w1 es, DX X w w1 → (∀ e ∈ es, Ev X e) → D w w1 es) (hR : ∀ fr c v, R fr c v → c = [] ∧ fr.mode ≠ .run ∧ fr.defers = [])
    (hI : ∀ fr fr' cs cs' fr1 c1 v v1, FrR P St Q fr fr' → All2 (FrR P St Q) cs cs' → cs ≠ [] ∨ fr.mode = .run ∨ fr.defers ≠ [] → I fr' cs' v → Gd v → Nx Q base R fr1 (c1 ++ cb) v1 fr' (cs' ++ cb) v → I fr1 c1 v1)
    (hM : ∀ f args kind cs cs' v w, Macro f → ¬ Far f → kind = .normal ∨ kind = .deferred → I (Frame.enter Q f args kind) cs' v → All2 (FrR P St Q) cs cs' → Rel X v w → Gd v → Ends Q base R (Frame.enter Q f args kind) (cs' ++ cb) v →
      (∀ fr1 c1 v1, Pth Q base R fr1 c1 v1 (Frame.enter Q f args kind) (cs' ++ cb) v → Beside P Q X St Macro Far I base baseP cb R k Rw D main fr1 c1 v1) → Pr P main Rw D (StopX P Q X St Far I base baseP cb R k) k (G (Frame.enter P f args kind) (cs ++ baseP)) w)
    {fr' : Frame} {c' : List Frame} {v : World} (h : Ends Q base R fr' c' v) : Beside P Q X St Macro Far I base baseP cb R k Rw D main fr' c' v := by
  refine ends_ind (M := Beside P Q X St Macro Far I base baseP cb R k Rw D main) (fun fr' c' v he ih => ?_) h
  intro fr cs cs' w ec hi ht hcs hw hg
  subst ec
  cases ht with
  | enters f args kind hm hk =>
    by_cases hf : Far f
    · exact .stop fun w1 h1 => .enters rfl hf hk hi hcs (hw.rx (hRw _ _ h1).1) hg he
    · exact hM f args kind cs cs' v w hm hf hk hi hcs hw hg he ih
  | plain hfr =>
    by_cases hl : cs ≠ [] ∨ fr.mode = .run ∨ fr.defers ≠ []
    · have hsim := sim_step (main := main) (base := baseP) (base' := cb ++ base) B E hfr hcs hl
      have hnR : ¬ R fr' (cs' ++ cb) v := fun hr => by
        obtain ⟨h1, h2, h3⟩ := hR _ _ _ hr
        rcases hl with h | h | h
        · exact h (List.eq_nil_of_length_eq_zero (by rw [hcs.size, (List.append_eq_nil_iff.1 h1).1]; rfl))
        · exact h2 (hfr.mode.trans h)
        · exact h (hfr.defers.symm.trans h3)
      cases he with
      | stop hr => exact absurd hr hnR
      | step f l u e hl' hs hk =>
        have key : ∀ w1, Rw w w1 → ∃ g w2 es, stepG P main (G fr (cs ++ baseP)) w1 = .go g w2 es ∧ D w1 w2 es ∧ Pr P main Rw D (StopX P Q X St Far I base baseP cb R k) (deafBehind k es) g w2 := by
          intro w1 h1
          obtain ⟨hx, _⟩ := hRw _ _ h1
          have hr1 : Rel X (re v w1.tape w1.drawn) w1 := (hw.rx hx).re _ _
          have hs1 := hs w1.tape w1.drawn
          rw [List.append_assoc] at hs1
          rcases hsim (re v w1.tape w1.drawn) (hg.re _ _) with ⟨o, v1, es, hend⟩ | ⟨fr1', c1', v1, es', n, hgo, hon, hg1, hP⟩
          · rw [hend] at hs1; cases hs1
          · obtain ⟨fr1, c1, w2, es, hp, ht1, hc1, hr2, hon2, hkx, hev⟩ := hP w1 hr1 (fun _ _ _ => rfl)
            rw [← List.append_assoc, ← List.append_assoc] at hgo
            have hi1 := hI _ _ _ _ _ _ _ _ hfr hcs hl hi hg ⟨hnR, w1.tape, w1.drawn, es', hgo⟩
            refine ⟨_, w2, es, hp, hD _ _ _ ⟨hkx, hon2.1⟩ hev, ?_⟩
            rw [deaf_ev hev k]
            exact ih fr1' (c1' ++ cb) v1 (.one ⟨hnR, w1.tape, w1.drawn, es', hgo⟩) fr1 c1 c1' w2 rfl hi1 ht1 hc1 hr2 hg1
        exact Pr.mk rfl key
    · have hl1 : cs = [] ∧ fr.mode ≠ .run ∧ fr.defers = [] := by
        refine ⟨Classical.byContradiction fun h => hl (.inl h), fun h => hl (.inr (.inl h)), Classical.byContradiction fun h => hl (.inr (.inr h))⟩
      obtain ⟨rfl, h2, h3⟩ := hl1
      cases hcs
      exact .stop fun w1 h1 => .leaves rfl hfr h2 h3 hi (hw.rx (hRw _ _ h1).1) hg he
end
end Go.Proofs.Ytdlnlcjmjgbikaa
