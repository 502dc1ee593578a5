/- A crowd in which number 0 and, it may be, number c act, and all others only leave. -/
import Derived.Test.YtdlnlcjmjgbikaaQm
import Derived.Conc.TokenTrace
namespace Go.Proofs.Ytdlnlcjmjgbikaa
open Go Go.Conc
open Go.ConcN (sumTo upd sumTo_upd upd_ne upd_same)

/-- All but number 0 and number c only leave. -/
structure Lv (P : Program) (c : Nat) (t : Trace) (gs : Array Goroutine) (q : Nat → Nat) : Prop where
  old : ∀ i g, i ≠ 0 → i ≠ c → gs[i]? = some g → QuitsD P (q i) (Deaf t i) g
  above : ∀ j, gs.size ≤ j → Deaf t j = 0
/-- What one who only leaves lists. -/
def Slip (c : Nat) (ops : Trace) : Prop := ∃ i fn pos es, i ≠ 0 ∧ i ≠ c ∧ ops = MemOp.ofEvents i fn pos es ∧ ∀ e ∈ es, Event.mute e = true

section
variable {P : Program} {c : Nat} {t : Trace} {gs : Array Goroutine} {q : Nat → Nat} {w : World} {sl : Option (Nat × Nat)}
theorem ofEvents_g {g : Nat} {fn : FuncId} {pos : String} {es : Array Event} : ∀ op ∈ MemOp.ofEvents g fn pos es, op.g = g := fun op hop => by obtain ⟨e, _, rfl⟩ := Go.Conc.mem_ofEvents hop; rfl
theorem Slip.g0 {ops : Trace} (h : Slip c ops) : ∀ op ∈ ops, op.g ≠ 0 ∧ op.g ≠ c := by
  obtain ⟨i, fn, pos, es, h0, hc, rfl, _⟩ := h
  intro op hop
  rw [ofEvents_g op hop]
  exact ⟨h0, hc⟩
theorem Slip.touch {ops : Trace} (h : Slip c ops) : ∀ op ∈ ops, op.act.touch? = none := by
  obtain ⟨i, fn, pos, es, h0, hc, rfl, hm⟩ := h
  intro op hop
  obtain ⟨e, he, rfl⟩ := Go.Conc.mem_ofEvents hop
  exact touch_mute (hm e he)
theorem Slip.deaf {ops : Trace} (h : Slip c ops) (t : Trace) (j : Nat) (hj : j = 0 ∨ j = c) : Deaf (t ++ ops) j = Deaf t j := by
  obtain ⟨i, fn, pos, es, h0, hc, rfl, _⟩ := h
  exact Deaf_other t (g' := i) (by rcases hj with rfl | rfl <;> assumption) _ ofEvents_g

/-- Who moves. -/
theorem crowd_move (hA : ∀ i g, (i = 0 ∨ i = c) → gs[i]? = some g → g.status = .running ∨ g.status = .blocked) (some1 : ∃ i g, (i = 0 ∨ i = c) ∧ gs[i]? = some g ∧ g.status = .running)
    (hW : ∀ i b g g' d, (i = 0 ∨ i = c) → gs[i]? = some b → b.status ≠ .running → woken P g g' (w.at d) b = b) (hL : Lv P c t gs q) :
    ∃ d sl', (∃ i g, (i = 0 ∨ i = c) ∧ gs[i]? = some g ∧ g.status = .running ∧ stepT P (crowd gs w sl) = runT P (crowd gs (w.at d) sl') i) ∨
      ∃ gs' q' ops, stepT P (crowd gs w sl) = (.next (crowd gs' (w.at d) sl'), ops) ∧ gs'.size = gs.size ∧ (∀ i, i = 0 ∨ i = c → gs'[i]? = gs[i]?) ∧ Lv P c (t ++ ops) gs' q' ∧
        sumTo gs.size q' < sumTo gs.size q ∧ Slip c ops := by
  have haw : ∀ g ∈ gs, awake g := by
    intro g hg
    obtain ⟨i, hi, rfl⟩ := Array.mem_iff_getElem.1 hg
    by_cases h : i = 0 ∨ i = c
    · exact awake_of ((hA i _ h (Array.getElem?_eq_getElem hi)).elim .inl fun x => .inr (.inl x))
    · exact awake_of ((hL.old i _ (fun e => h (.inl e)) (fun e => h (.inr e)) (Array.getElem?_eq_getElem hi)).status.elim .inl fun x => .inr (.inr x))
  obtain ⟨i0, g0, _, hi0, hg0⟩ := some1
  obtain ⟨i, g, d, sl', hi, hg, hst⟩ := crowd_pick (P := P) (w := w) (sl := sl) haw ⟨i0, g0, hi0, hg0⟩
  refine ⟨d, sl', ?_⟩
  by_cases h : i = 0 ∨ i = c
  · exact .inl ⟨i, g, h, hi, hg, hst⟩
  · have h0 : i ≠ 0 := fun e => h (.inl e)
    have hc : i ≠ c := fun e => h (.inr e)
    have hq := hL.old i g h0 hc hi
    have hi0 : (i == 0) = false := by simp; omega
    have hlt : i < gs.size := (Array.getElem?_eq_some_iff.1 hi).1
    cases hqi : q i with
    | zero => rw [hqi] at hq; rw [hq.1] at hg; cases hg
    | succ k =>
      rw [hqi] at hq
      rcases hq with ⟨hf, _⟩ | ⟨_, g', es, hm, hstp, hq'⟩
      · rw [hf] at hg; cases hg
      have hrun := runT_crowd_go (P := P) (sl := sl') (i := i) hi (by rw [hi0]; exact hstp (w.at d))
      have hsum : sumTo gs.size (upd q i k) + (k + 1) = sumTo gs.size q + k := by
        have := sumTo_upd q k id hlt
        simpa [hqi] using this
      refine .inr ⟨_, upd q i k, _, hst.trans hrun, by simp, fun j hj => ?_, ⟨fun j x hj0 hjc hx => ?_, fun j hj => ?_⟩, by omega, i, _, _, es, h0, hc, rfl, hm⟩
      · have hne : i ≠ j := fun e => h (e ▸ hj)
        rw [Array.getElem?_setIfInBounds_ne hne, Array.getElem?_map]
        cases hb : gs[j]? with
        | none => rfl
        | some b =>
          simp only [Option.map_some]
          by_cases hbr : b.status = .running
          · rw [woken_run hbr]
          · rw [hW j b g g' d hj hb hbr]
      · by_cases hji : i = j
        · subst hji
          rw [Array.getElem?_setIfInBounds_self_of_lt (by simpa using hlt)] at hx
          obtain rfl := Option.some.inj hx
          rw [upd_same, Deaf_own]
          exact hq'
        · rw [Array.getElem?_setIfInBounds_ne hji, Array.getElem?_map] at hx
          obtain ⟨y, hy, rfl⟩ := Option.map_eq_some_iff.1 hx
          have hqj := hL.old j y hj0 hjc hy
          rw [woken_quitsD hqj, upd_ne q k (Ne.symm hji), Deaf_other t hji _ ofEvents_g]
          exact hqj
      · rw [Deaf_other t (g' := i) (by simp at hj; omega) _ ofEvents_g]
        exact hL.above j (by simpa using hj)

/-- One who acts has gone on. -/
theorem crowd_act {i : Nat} {g g' : Goroutine} {w w' : World} {es : Array Event} (hi : gs[i]? = some g) (hic : i = 0 ∨ i = c) (h : stepG P (i == 0) g w = .go g' w' es) (hL : Lv P c t gs q) (hlt : c < gs.size) :
    ∃ gs', runT P (crowd gs w sl) i = (.next (crowd gs' w' sl), MemOp.ofEvents i g.frame.fn g.frame.place es) ∧ gs'.size = gs.size ∧ gs'[i]? = some g' ∧
      (∀ j b, j ≠ i → gs[j]? = some b → gs'[j]? = some (woken P g g' w' b)) ∧ Lv P c (t ++ MemOp.ofEvents i g.frame.fn g.frame.place es) gs' q := by
  have hlti : i < gs.size := (Array.getElem?_eq_some_iff.1 hi).1
  refine ⟨_, runT_crowd_go (P := P) (sl := sl) hi h, by simp, by simp [hlti], fun j b hj hb => ?_, fun j x hj0 hjc hx => ?_, fun j hj => ?_⟩
  · rw [Array.getElem?_setIfInBounds_ne (Ne.symm hj), Array.getElem?_map, hb]
    rfl
  · have hne : i ≠ j := by rcases hic with rfl | rfl <;> exact Ne.symm (by assumption)
    rw [Array.getElem?_setIfInBounds_ne hne, Array.getElem?_map] at hx
    obtain ⟨y, hy, rfl⟩ := Option.map_eq_some_iff.1 hx
    have hq := hL.old j y hj0 hjc hy
    rw [woken_quitsD hq, Deaf_other t hne _ ofEvents_g]
    exact hq
  · rw [Deaf_other t (g' := i) (by simp at hj; omega) _ ofEvents_g]
    exact hL.above j (by simpa using hj)
end

/-- A walk of one goroutine, whatever the others do that R lets; k: how many of its 'disable's stand open. -/
inductive Pr (P : Program) (main : Bool) (R : World → World → Prop) (D : World → World → Array Event → Prop) (Stop : Nat → Goroutine → World → Prop) : Nat → Goroutine → World → Prop
  | stop {k : Nat} {a : Goroutine} {w : World} : (∀ w1, R w w1 → Stop k a w1) → Pr P main R D Stop k a w
  | step {k : Nat} {a : Goroutine} {w : World} (f : World → Goroutine) (u : World → World) (e : World → Array Event) : a.status = .running → (∀ w1, R w w1 → stepG P main a w1 = .go (f w1) (u w1) (e w1)) →
      (∀ w1, R w w1 → D w1 (u w1) (e w1)) → (∀ w1, R w w1 → Pr P main R D Stop (deafBehind k (e w1)) (f w1) (u w1)) → Pr P main R D Stop k a w
section
variable {P : Program} {main : Bool} {R : World → World → Prop} {D : World → World → Array Event → Prop} {Stop Stop' : Nat → Goroutine → World → Prop} {k : Nat} {a : Goroutine} {w : World}
theorem Pr.rely (hR : ∀ a b c, R a b → R b c → R a c) (h : Pr P main R D Stop k a w) {w1 : World} (h1 : R w w1) : Pr P main R D Stop k a w1 := by
  cases h with
  | stop h => exact .stop fun w2 h2 => h w2 (hR _ _ _ h1 h2)
  | step f u e hr hs hd hk => exact .step f u e hr (fun w2 h2 => hs w2 (hR _ _ _ h1 h2)) (fun w2 h2 => hd w2 (hR _ _ _ h1 h2)) fun w2 h2 => hk w2 (hR _ _ _ h1 h2)
theorem Pr.then (h : Pr P main R D Stop k a w) (hS : ∀ k a w, (∀ w1, R w w1 → Stop k a w1) → Pr P main R D Stop' k a w) : Pr P main R D Stop' k a w := by
  induction h with
  | stop h => exact hS _ _ _ h
  | step f u e hr hs hd _ ih => exact .step f u e hr hs hd ih
theorem Pr.mono (h : Pr P main R D Stop k a w) (hS : ∀ k a w, Stop k a w → Stop' k a w) : Pr P main R D Stop' k a w := by
  induction h with
  | stop h => exact .stop fun w1 h1 => hS _ _ _ (h w1 h1)
  | step f u e hr hs hd _ ih => exact .step f u e hr hs hd ih
theorem Pr.runs (hR0 : ∀ w, R w w) (hS : ∀ k a w, Stop k a w → a.status = .running) (h : Pr P main R D Stop k a w) : a.status = .running := by
  cases h with
  | stop h => exact hS _ _ _ (h w (hR0 w))
  | step f u e hr _ _ _ => exact hr
end
end Go.Proofs.Ytdlnlcjmjgbikaa
/- Goroutine 0 acts alone, all others only leave. -/
namespace Go.Proofs.Ytdlnlcjmjgbikaa
open Go Go.Conc
open Go.ConcN (sumTo upd sumTo_upd upd_ne upd_same)

/-- The run ends well from here. -/
inductive Wd (P : Program) (Q : Machine → Outcome → World → Trace → Prop) : Machine → Trace → Prop
  | stop {m : Machine} {t : Trace} {o : Outcome} {w : World} {ops : Array MemOp} : stepT P m = (.ended o w, ops) → Q m o w (t ++ ops) → Wd P Q m t
  | step {m m' : Machine} {t : Trace} {ops : Array MemOp} : stepT P m = (.next m', ops) → Wd P Q m' (t ++ ops) → Wd P Q m t
theorem wd_run {P : Program} {Q : Machine → Outcome → World → Trace → Prop} {m : Machine} {t : Trace} (h : Wd P Q m t) :
    ∃ n last o w t', runNT P (n + 1) m t = (.ended o w, t') ∧ runN P n m = .next last ∧ step P last = .ended o w ∧ Q last o w t' := by
  induction h with
  | stop hs hq => exact ⟨0, _, _, _, _, by simp [runNT, hs], rfl, by simp [step, hs], hq⟩
  | step hs _ ih =>
    obtain ⟨n, last, o, w, t', h1, h2, h3, h4⟩ := ih
    exact ⟨n + 1, last, o, w, t', by rw [runNT_succ_next hs]; exact h1, by rw [runN_succ_next hs]; exact h2, h3, h4⟩

/-- What goroutine 0 may list: a shunned place it touches atomically at most. -/
def EvS (Shun : Loc → Prop) (e : Event) : Prop := ∀ x, (MemAct.ofEvent e).touch? = some x → Shun x.loc → x.kind ≠ .plain
/-- What is held of the list between two calls that start others: k of goroutine 0's 'disable's stand open. -/
structure Tr (Shun : Loc → Prop) (k : Nat) (t : Trace) : Prop where
  clean : ∀ said, ¬ Race said t
  known : ∀ i a, touchAt t i = some a → a.loc.isMemory = true → Knows t 0 i ∨ (Shun a.loc ∧ a.kind = .atomic)
  over : t.HandedOver
  hears : Deaf t 0 = k
section
variable {Shun : Loc → Prop} {k c : Nat} {t : Trace}
theorem Tr.own (h : Tr Shun k t) {fn : FuncId} {pos : String} {es : Array Event} (hes : ∀ e ∈ es, EvS Shun e) : Tr Shun (deafBehind k es) (t ++ MemOp.ofEvents 0 fn pos es) := by
  have hu : ∀ op ∈ MemOp.ofEvents 0 fn pos es, op.g = 0 := ofEvents_g
  have hs : ∀ op ∈ MemOp.ofEvents 0 fn pos es, ∀ b, op.act.touch? = some b → Shun b.loc → b.kind ≠ .plain := fun op hop b hb => by
    obtain ⟨e, he, rfl⟩ := Go.Conc.mem_ofEvents hop
    exact hes e he b hb
  refine ⟨fun said => noRace_append (h.clean said) hu fun i a ha op hop b hb hc => ?_, fun i a ha hm => ?_, handedOver_app h.over fun op hop => .inl (hu op hop), by rw [Deaf_own, h.hears]⟩
  · rcases h.known i a ha hc.2.1 with hk | ⟨hsa, hka⟩
    · exact hk
    · have hkb := hs op hop b hb (hc.1 ▸ hsa)
      obtain ⟨_, _, _, hcase⟩ := hc
      rw [hka] at hcase
      rcases hcase with x | x | ⟨_, x, _⟩
      · cases x
      · exact absurd x hkb
      · cases x
  · obtain ⟨x, hx, hxa⟩ := touch_of ha
    rcases getElem?_append_cases hx with ⟨_, hx'⟩ | ⟨_, hxu⟩
    · exact (h.known i a (by rw [touchAt_of hx']; exact hxa) hm).imp (·.app _) id
    · have := knows_own hx
      rw [hu x hxu] at this
      exact .inl this
theorem Tr.slip (h : Tr Shun k t) {ops : Trace} (hs : Slip c ops) : Tr Shun k (t ++ ops) := by
  have hn := hs.touch
  refine ⟨fun said => noRace_appendMute (h.clean said) hn, fun i a ha hm => ?_, handedOver_app h.over fun op hop => .inr (hn op hop), (hs.deaf t 0 (.inl rfl)).trans h.hears⟩
  obtain ⟨x, hx, hxa⟩ := touch_of ha
  rcases getElem?_append_cases hx with ⟨_, hx'⟩ | ⟨_, hxu⟩
  · exact (h.known i a (by rw [touchAt_of hx']; exact hxa) hm).imp (·.app _) id
  · rw [hn x hxu] at hxa; cases hxa
end

section
variable {P : Program} {Q : Machine → Outcome → World → Trace → Prop} {Shun : Loc → Prop} {D : World → World → Array Event → Prop} {Stop : Nat → Goroutine → World → Prop}
theorem AtRel.at {w w1 : World} (h : AtRel w w1) (d : Nat) : AtRel w (w1.at d) := by
  obtain ⟨_, rfl⟩ := h
  exact ⟨d, rfl⟩
/-- Who only leaves is in nobody's way. -/
theorem solo_move {gs : Array Goroutine} {a : Goroutine} {w : World} {sl : Option (Nat × Nat)} {t : Trace} {q : Nat → Nat} (h0 : gs[0]? = some a) (hr : a.status = .running) (hL : Lv P 0 t gs q) :
    ∃ d sl', stepT P (crowd gs w sl) = runT P (crowd gs (w.at d) sl') 0 ∨
      ∃ gs' q' ops, stepT P (crowd gs w sl) = (.next (crowd gs' (w.at d) sl'), ops) ∧ gs'.size = gs.size ∧ gs'[0]? = some a ∧ Lv P 0 (t ++ ops) gs' q' ∧ sumTo gs.size q' < sumTo gs.size q ∧ Slip 0 ops := by
  have one : ∀ i g, (i = 0 ∨ i = 0) → gs[i]? = some g → g = a := fun i g hi hg => by
    rcases hi with rfl | rfl <;> exact Option.some.inj (hg.symm.trans h0)
  obtain ⟨d, sl', h⟩ := crowd_move (w := w) (sl := sl) (c := 0) (fun i g hi hg => by rw [one i g hi hg]; exact .inl hr) ⟨0, a, .inl rfl, h0, hr⟩ (fun i b g g' d hi hb hn => by rw [one i b hi hb] at hn; exact absurd hr hn) hL
  refine ⟨d, sl', h.imp (fun ⟨i, g, hi, hg, _, hs⟩ => ?_) fun ⟨gs', q', ops, h1, h2, h3, h4, h5, h6⟩ => ⟨gs', q', ops, h1, h2, (h3 0 (.inl rfl)).trans h0, h4, h5, h6⟩⟩
  have : i = 0 := by omega
  rw [hs, this]
/-- Goroutine 0's walk comes to where it stops. -/
theorem solo_fin (hD : ∀ w w' es, D w w' es → ∀ e ∈ es, EvS Shun e) {n : Nat}
    (hK : ∀ k gs a w sl t q, gs.size = n → gs[0]? = some a → (∀ w1, AtRel w w1 → Stop k a w1) → Lv P 0 t gs q → Tr Shun k t → Wd P Q (crowd gs w sl) t) {k : Nat} {a : Goroutine} {w : World} (h : Pr P true AtRel D Stop k a w) :
    ∀ gs sl t q, gs.size = n → gs[0]? = some a → Lv P 0 t gs q → Tr Shun k t → Wd P Q (crowd gs w sl) t := by
  suffices H : ∀ M gs w0 sl t q, AtRel w w0 → sumTo gs.size q ≤ M → gs.size = n → gs[0]? = some a → Lv P 0 t gs q → Tr Shun k t → Wd P Q (crowd gs w0 sl) t from
    fun gs sl t q hn h0 hL hT => H _ gs w sl t q (atRel_refl w) (Nat.le_refl _) hn h0 hL hT
  induction h with
  | stop hs => exact fun M gs w0 sl t q hw _ hn h0 hL hT => hK _ gs _ w0 sl t q hn h0 (fun w1 h1 => hs w1 (atRel_trans _ _ _ hw h1)) hL hT
  | step f u e hr hs hd _ ih =>
    rename_i k a w
    intro M
    induction M with
    | zero =>
      intro gs w0 sl t q hw hM hn h0 hL hT
      obtain ⟨d, sl', h | ⟨gs', q', ops, h1, h2, h3, h4, h5, h6⟩⟩ := solo_move (w := w0) (sl := sl) h0 hr hL
      · have hw' := AtRel.at hw d
        obtain ⟨gs', h1, h2, h3, _, h5⟩ := crowd_act (i := 0) (c := 0) (sl := sl') h0 (.inl rfl) (hs _ hw') hL (Array.getElem?_eq_some_iff.1 h0).1
        exact .step (h.trans h1) (ih _ hw' _ gs' (u (w0.at d)) sl' _ q (atRel_refl _) (Nat.le_refl _) (h2.trans hn) h3 h5 (hT.own (hD _ _ _ (hd _ hw'))))
      · omega
    | succ M ihM =>
      intro gs w0 sl t q hw hM hn h0 hL hT
      obtain ⟨d, sl', h | ⟨gs', q', ops, h1, h2, h3, h4, h5, h6⟩⟩ := solo_move (w := w0) (sl := sl) h0 hr hL
      · have hw' := AtRel.at hw d
        obtain ⟨gs', h1, h2, h3, _, h5⟩ := crowd_act (i := 0) (c := 0) (sl := sl') h0 (.inl rfl) (hs _ hw') hL (Array.getElem?_eq_some_iff.1 h0).1
        exact .step (h.trans h1) (ih _ hw' _ gs' (u (w0.at d)) sl' _ q (atRel_refl _) (Nat.le_refl _) (h2.trans hn) h3 h5 (hT.own (hD _ _ _ (hd _ hw'))))
      · exact .step h1 (ihM gs' (w0.at d) sl' (t ++ ops) q' (AtRel.at hw d) (by rw [h2]; omega) (h2.trans hn) h3 h4 (hT.slip h6))

/-- Goroutine 0 stands at the step that ends the run. -/
def AtStop (P : Program) (Shun : Loc → Prop) (Post : Value → World → Prop) (k : Nat) (g : Goroutine) (w : World) : Prop :=
  k = 0 ∧ g.status = .running ∧ ∃ v es, stepG P true g w = .ended (.done v) w es ∧ (∀ e ∈ es, EvS Shun e) ∧ deafBehind 0 es = 0 ∧ Post v w
/-- The run ends, well. -/
theorem end_fin {Post : Value → World → Prop} {k : Nat} {gs : Array Goroutine} {a : Goroutine} {w : World} {sl : Option (Nat × Nat)} {t : Trace} {q : Nat → Nat} (h0 : gs[0]? = some a)
    (hs : ∀ w1, AtRel w w1 → AtStop P Shun Post k a w1) (hL : Lv P 0 t gs q) (hT : Tr Shun k t) : Wd P (Good P Post) (crowd gs w sl) t := by
  suffices H : ∀ M gs w0 sl t q, AtRel w w0 → sumTo gs.size q ≤ M → gs[0]? = some a → Lv P 0 t gs q → Tr Shun k t → Wd P (Good P Post) (crowd gs w0 sl) t from H _ gs w sl t q (atRel_refl w) (Nat.le_refl _) h0 hL hT
  have hr := (hs w (atRel_refl w)).2.1
  have key : ∀ gs w0 sl sl' t q d, AtRel w w0 → gs[0]? = some a → Lv P 0 t gs q → Tr Shun k t → stepT P (crowd gs w0 sl) = runT P (crowd gs (w0.at d) sl') 0 → Wd P (Good P Post) (crowd gs w0 sl) t := by
    intro gs w0 sl sl' t q d hw h0 hL hT h
    obtain ⟨rfl, _, v, es, he, hes, hdf, hp⟩ := hs _ (AtRel.at hw d)
    have hrun := runT_many_ended (P := P) (sl := sl') (i := 0) h0 (show stepG P (0 == 0) a (w0.at d) = _ from he)
    have hT' := hT.own (fn := a.frame.fn) (pos := a.frame.place) hes
    refine .stop (h.trans hrun) ⟨v, rfl, hp, hT'.clean, hT'.over, ⟨fun x hx => ?_, rfl⟩, fun j x hx hj => ?_⟩
    · obtain ⟨j, hj⟩ := List.mem_iff_getElem?.1 hx
      rw [List.getElem?_drop] at hj
      exact ⟨_, (hL.old (1 + j) x (by omega) (by omega) (by simpa [crowd] using hj)).leaves⟩
    · have hq := hL.old j x (by omega) (by omega) hx
      refine ⟨q j, ?_⟩
      have e : (t ++ MemOp.ofEvents 0 a.frame.fn a.frame.place es).deaf j (t ++ MemOp.ofEvents 0 a.frame.fn a.frame.place es).size = Deaf t j :=
        Deaf_other t (g := j) (g' := 0) (by omega) _ ofEvents_g
      rw [e]
      exact hq.hears _
  intro M
  induction M with
  | zero =>
    intro gs w0 sl t q hw hM h0 hL hT
    obtain ⟨d, sl', h | ⟨gs', q', ops, h1, h2, h3, h4, h5, h6⟩⟩ := solo_move (w := w0) (sl := sl) h0 hr hL
    · exact key gs w0 sl sl' t q d hw h0 hL hT h
    · omega
  | succ M ih =>
    intro gs w0 sl t q hw hM h0 hL hT
    obtain ⟨d, sl', h | ⟨gs', q', ops, h1, h2, h3, h4, h5, h6⟩⟩ := solo_move (w := w0) (sl := sl) h0 hr hL
    · exact key gs w0 sl sl' t q d hw h0 hL hT h
    · exact .step h1 (ih gs' (w0.at d) sl' (t ++ ops) q' (AtRel.at hw d) (by rw [h2]; omega) h3 h4 (hT.slip h6))
end
end Go.Proofs.Ytdlnlcjmjgbikaa
