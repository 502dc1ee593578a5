/- The join: goroutine 0's last steps in Wait, all others only leaving. -/
import Derived.Test.YtdlnlcjmjgbikaaRu
import Derived.Test.YtdlnlcjmjgbikaaRs
namespace Go.Proofs.Ytdlnlcjmjgbikaa
open Go Go.Conc
open Go.ConcN (sumTo)
open Go.ConcX (WgAt KK stA smA DC0)

/-- The box that goroutine 0 reads in company. -/
def BoxB (N : Nat) (l : Loc) : Prop := l = .cell ⟨N + 2, 0, none⟩
/-- A step of goroutine 0's in company: the world stands. -/
def D0w (N : Nat) (w w' : World) (es : Array Event) : Prop := w' = w ∧ ∀ e ∈ es, E0 (BoxB N) N e
theorem dc0_d0 {N : Nat} (a b : World) (e : Array Event) (h : DC0 a b e) : D0w N a b e ∧ ∀ k, deafBehind k e = k := by
  obtain ⟨rfl, rfl⟩ := h
  exact ⟨⟨rfl, by simp⟩, fun k => rfl⟩
theorem at_wt (N : Nat) (w w1 : World) (h : AtRel w w1) : WT N w w1 := by
  obtain ⟨d, rfl⟩ := h
  exact fun st sm h => ⟨st, sm, h, .inl rfl⟩
/-- The list once the child only leaves. -/
def T3s (Shun : Loc → Prop) (N c p k : Nat) (t : Trace) : Prop := ∃ kc, T3 Shun (BoxB N) N c p k kc t
section
variable {Shun : Loc → Prop} {N c p k : Nat} {t : Trace}
theorem T3s.own0 (F : Far Shun (BoxB N) (Grp N)) (hc : c ≠ 0) (h : T3s Shun N c p k t) {fn : FuncId} {pos : String} {es : Array Event} (he : ∀ e ∈ es, E0 (BoxB N) N e) : T3s Shun N c p (deafBehind k es) (t ++ MemOp.ofEvents 0 fn pos es) := by
  obtain ⟨kc, h⟩ := h
  exact ⟨kc, h.own0 F hc he⟩
theorem T3s.slip (F : Far Shun (BoxB N) (Grp N)) (hc : c ≠ 0) (h : T3s Shun N c p k t) {ops : Trace} (hs : Slip 0 ops) : T3s Shun N c p k (t ++ ops) := by
  obtain ⟨kc, h⟩ := h
  have hs' := hs
  obtain ⟨i, fn, pos, es, h0, _, rfl, hm⟩ := hs
  by_cases hic : i = c
  · subst hic
    exact ⟨_, h.muteC F hc fun e he => by
      have h1 := slip_rel (a := stA (N + 3)) hs' ⟨i, fn, pos, .ofEvent e⟩ (by rw [ofEvents_eq]; exact Array.mem_map.2 ⟨e, he, rfl⟩)
      exact h1⟩
  · exact ⟨kc, h.slip ⟨i, fn, pos, es, h0, hic, rfl, hm⟩⟩
end
section
variable {P : Program} {Q : Machine → Outcome → World → Trace → Prop} {T : Nat → Trace → Prop} {D : World → World → Array Event → Prop} {Stop : Nat → Goroutine → World → Prop}
/-- Goroutine 0 walks to a stop whose step is known. -/
theorem solo_run (hT0 : ∀ k t w w' es fn pos, T k t → D w w' es → T (deafBehind k es) (t ++ MemOp.ofEvents 0 fn pos es)) (hTs : ∀ k t ops, T k t → Slip 0 ops → T k (t ++ ops)) {n : Nat} (hr : ∀ k a w, Stop k a w → a.status = .running)
    (hK : ∀ k gs a w sl t q, gs.size = n → gs[0]? = some a → (∀ w1, AtRel w w1 → Stop k a w1) → Lv P 0 t gs q → T k t → ∃ m' ops, runT P (crowd gs w sl) 0 = (.next m', ops) ∧ Wd P Q m' (t ++ ops)) {k : Nat} {a : Goroutine} {w : World} (h : Pr P true AtRel D Stop k a w) :
    ∀ gs sl t q, gs.size = n → gs[0]? = some a → Lv P 0 t gs q → T k t → Wd P Q (crowd gs w sl) t :=
  solo_gen hT0 hTs (fun k gs a w sl t q hn h0 hs hL hT =>
    solo_one (T := T) (k := k) (w := w) hTs (hr _ _ _ (hs w (atRel_refl w))) (fun gs w1 sl t q hn h0 h1 hL hT => hK k gs a w1 sl t q hn h0 (fun w2 h2 => hs w2 (atRel_trans _ _ _ h1 h2)) hL hT) gs sl t q hn h0 hL hT) h
/-- A step of goroutine 0's, taken. -/
theorem step0 {c n : Nat} {gs : Array Goroutine} {a a' : Goroutine} {w w' : World} {sl : Option (Nat × Nat)} {t : Trace} {q : Nat → Nat} {es : Array Event} (hn : gs.size = n) (h0 : gs[0]? = some a) (hs : stepG P true a w = .go a' w' es) (hL : Lv P c t gs q) (hlt : c < gs.size)
    (h : ∀ gs', gs'.size = n → gs'[0]? = some a' → (∀ j b, j ≠ 0 → gs[j]? = some b → gs'[j]? = some (woken P a a' w' b)) → Lv P c (t ++ MemOp.ofEvents 0 a.frame.fn a.frame.place es) gs' q → Wd P Q (crowd gs' w' sl) (t ++ MemOp.ofEvents 0 a.frame.fn a.frame.place es)) :
    ∃ m' ops, runT P (crowd gs w sl) 0 = (.next m', ops) ∧ Wd P Q m' (t ++ ops) := by
  obtain ⟨gs', h1, h2, h3, h4, h5⟩ := crowd_act (i := 0) (c := c) (sl := sl) h0 (.inl rfl) hs hL hlt
  exact ⟨_, _, h1, h gs' (h2.trans hn) h3 h4 h5⟩
end

noncomputable section
section
variable {P : Program} {Q : Machine → Outcome → World → Trace → Prop} {Shun : Loc → Prop} {N c p n : Nat} {g1 : Goroutine} {Z : World → Prop}
/-- What is done behind the join. -/
def EndsWell (P : Program) (Q : Machine → Outcome → World → Trace → Prop) (Shun : Loc → Prop) (N n : Nat) (g1 : Goroutine) (Z : World → Prop) : Prop :=
  ∀ gs w sl t q, gs.size = n → gs[0]? = some g1 → Z w → Tr (fun l => Shun l ∨ BoxB N l ∨ Grp N l) 0 t → Lv P 0 t gs q → Wd P Q (crowd gs w sl) t
/-- Z hangs on no draw. -/
structure Zk (N : Nat) (Z : World → Prop) : Prop where
  at_ : ∀ w d, Z w → Z (w.at d)
  grp : ∀ w b (v : Value), b = N + 3 → ∀ i, Z w → Z (w.setCell ⟨b, i, none⟩ v)
  asd : ∀ w w', Z w → Go.Conc.Aside (N + 4) w w' → Z w'
theorem Zk.rel (hZ : Zk N Z) {w w1 : World} (h : Z w) (r : AtRel w w1) : Z w1 := by
  obtain ⟨d, rfl⟩ := r
  exact hZ.at_ _ _ h
theorem e0_mark {m : Mark} (hm : (MemAct.mark m).touch? = none) (hr : m ≠ .release (stA (N + 3))) : ∀ e ∈ (#[⟨.mark m, false, true⟩] : Array Event), E0 (BoxB N) N e := by
  intro e he
  rw [Array.mem_singleton] at he
  subst he
  refine ⟨fun x hx => ?_, fun e => ?_⟩
  · rw [show MemAct.ofEvent (⟨.mark m, false, true⟩ : Event) = .mark m from rfl, hm] at hx; cases hx
  · exact hr (by injection e)
theorem e0_atom {a : Addr} {y : Bool} (ha : a.block = N + 3) : E0 (BoxB N) N ⟨.cell a, y, true⟩ := by
  refine ⟨fun x hx => ?_, by simp [MemAct.ofEvent]⟩
  cases hx
  exact .inr ⟨.inl ⟨a, rfl, ha⟩, by simp⟩
theorem keepZ (hZ : Zk N Z) : (∀ a b : World, Z a → AtRel a b → Z b) ∧ ∀ a b e, Z a → D0w N a b e → Z b :=
  ⟨fun _ _ h r => hZ.rel h r, fun _ _ _ h d => by rw [d.1]; exact h⟩
/-- FROM 'enable' ON: the join. -/
theorem ke_step (F : Far Shun (BoxB N) (Grp N)) (hc : c ≠ 0) (hZ : Zk N Z) (hE : EndsWell P Q Shun N n g1 Z) {gs : Array Goroutine} {a : Goroutine} {w : World} {sl : Option (Nat × Nat)} {t : Trace} {q : Nat → Nat} (hn : gs.size = n) (h0 : gs[0]? = some a) (hs : SKe P N g1 a w) (hz : Z w) (hL : Lv P 0 t gs q) (hT : T3s Shun N c p 1 t) :
    ∃ m' ops, runT P (crowd gs w sl) 0 = (.next m', ops) ∧ Wd P Q m' (t ++ ops) := by
  have hT0 : ∀ k t w w' es fn pos, T3s Shun N c p k t → D0w N w w' es → T3s Shun N c p (deafBehind k es) (t ++ MemOp.ofEvents 0 fn pos es) := fun _ _ _ _ _ _ _ h d => h.own0 F hc d.2
  have hTs : ∀ k t ops, T3s Shun N c p k t → Slip 0 ops → T3s Shun N c p k (t ++ ops) := fun _ _ _ h s => h.slip F hc s
  obtain ⟨_, a', hst, m, hg⟩ := hs
  refine step0 hn h0 hst hL (by have := (Array.getElem?_eq_some_iff.1 h0).1; omega) fun gs' hn' h0' _ hL' => ?_
  have hT' := hT.own0 F hc (fn := a.frame.fn) (pos := a.frame.place) (e0_mark (m := .enable) rfl (by simp))
  rw [show deafBehind 1 #[⟨.mark .enable, false, true⟩] = 0 from rfl] at hT'
  -- to 'acquire'
  have hp := (goes_pr (R' := AtRel) (D' := D0w N) (fun _ _ r => at_wt N _ _ r) dc0_d0 (k := 0) hg).keep (F := Z) (keepZ hZ).1 (keepZ hZ).2 hz
  refine solo_run (n := n) hT0 hTs (fun k a w h => h.1.2.1) (fun k gs a w sl t q hn h0 hs hL hT => ?_) hp gs' sl _ q hn' h0' hL' hT'
  obtain ⟨⟨rfl, _, a', hst, m, hg⟩, hz⟩ := hs w (atRel_refl w)
  refine step0 hn h0 hst hL (by have := (Array.getElem?_eq_some_iff.1 h0).1; omega) fun gs' hn' h0' _ hL' => ?_
  obtain ⟨kc, hT⟩ := hT
  obtain ⟨r, h2, h3, h4⟩ := hT.rel
  have e : MemOp.ofEvents 0 a.frame.fn a.frame.place #[⟨.mark (.acquire (stA (N + 3))), false, true⟩] = #[⟨0, a.frame.fn, a.frame.place, .mark (.acquire (stA (N + 3)))⟩] := by rw [ofEvents_eq]; simp [MemAct.ofEvent]
  have hJ := hT.t1.co.join hT.t1.k0 h2 h3 h4 (y := ⟨0, a.frame.fn, a.frame.place, .mark (.acquire (stA (N + 3)))⟩) ⟨rfl, rfl⟩
  have e2 : t.push ⟨0, a.frame.fn, a.frame.place, .mark (.acquire (stA (N + 3)))⟩ = t ++ MemOp.ofEvents 0 a.frame.fn a.frame.place #[⟨.mark (.acquire (stA (N + 3))), false, true⟩] := by rw [e]; simp
  rw [e2] at hJ
  -- behind it
  have hp := (goes_pr (R' := AtRel) (D' := DC0) (fun _ _ r => at_wt N _ _ r) (fun a b e h => ⟨h, (dc0_d0 (N := N) a b e h).2⟩) (k := 0) hg).keep (F := Z) (fun _ _ h r => hZ.rel h r) (fun _ _ _ h d => by rw [d.1]; exact h) hz
  refine solo_gen (T := fun k t => k = 0 ∧ Tr (fun l => Shun l ∨ BoxB N l ∨ Grp N l) 0 t) (n := n) (fun k t w w' es fn pos ht hd => ?_) (fun k t ops ht hs => ⟨ht.1, ht.2.slip hs⟩) (fun k gs a w sl t q hn h0 hs hL hT => ?_) hp gs' sl _ q hn' h0' hL' ⟨rfl, hJ⟩
  · rw [hd.2, ofEvents_nil, Array.append_empty]
    exact ⟨ht.1, ht.2⟩
  · obtain ⟨⟨_, rfl⟩, hz⟩ := hs w (atRel_refl w)
    exact hE gs w sl t q hn h0 hz hT.2 hL
theorem fin_ke (F : Far Shun (BoxB N) (Grp N)) (hc : c ≠ 0) (hZ : Zk N Z) (hE : EndsWell P Q Shun N n g1 Z) {a : Goroutine} {w : World} (h : Pr P true AtRel (D0w N) (fun k a w => k = 1 ∧ SKe P N g1 a w) 1 a w) (hw : Z w) :
    ∀ gs sl t q, gs.size = n → gs[0]? = some a → Lv P 0 t gs q → T3s Shun N c p 1 t → Wd P Q (crowd gs w sl) t := by
  have hT0 : ∀ k t w w' es fn pos, T3s Shun N c p k t → D0w N w w' es → T3s Shun N c p (deafBehind k es) (t ++ MemOp.ofEvents 0 fn pos es) := fun _ _ _ _ _ _ _ h d => h.own0 F hc d.2
  have hTs : ∀ k t ops, T3s Shun N c p k t → Slip 0 ops → T3s Shun N c p k (t ++ ops) := fun _ _ _ h s => h.slip F hc s
  refine solo_run hT0 hTs (fun k a w h => h.1.2.1) (fun k gs a w sl t q hn h0 hs hL hT => ?_) (h.keep (F := Z) (keepZ hZ).1 (keepZ hZ).2 hw)
  obtain ⟨⟨rfl, hs1⟩, hz⟩ := hs w (atRel_refl w)
  exact ke_step F hc hZ hE hn h0 hs1 hz hL hT
/-- FROM the semaphore on, which has been released. -/
theorem fin_sem (F : Far Shun (BoxB N) (Grp N)) (hc : c ≠ 0) (hZ : Zk N Z) (hE : EndsWell P Q Shun N n g1 Z) {a : Goroutine} {w : World} {k : Nat} (h : Pr P true AtRel (D0w N) (fun k a w => k = 1 ∧ SW3 P N g1 a w) k a w) (hw : Z w) (hg : WgAt 103 (N + 3) w 0 1) :
    ∀ gs sl t q, gs.size = n → gs[0]? = some a → Lv P 0 t gs q → T3s Shun N c p k t → Wd P Q (crowd gs w sl) t := by
  have hT0 : ∀ k t w w' es fn pos, T3s Shun N c p k t → D0w N w w' es → T3s Shun N c p (deafBehind k es) (t ++ MemOp.ofEvents 0 fn pos es) := fun _ _ _ _ _ _ _ h d => h.own0 F hc d.2
  have hTs : ∀ k t ops, T3s Shun N c p k t → Slip 0 ops → T3s Shun N c p k (t ++ ops) := fun _ _ _ h s => h.slip F hc s
  have keep2 : (∀ a b : World, (Z a ∧ WgAt 103 (N + 3) a 0 1) → AtRel a b → (Z b ∧ WgAt 103 (N + 3) b 0 1)) ∧ ∀ a b e, (Z a ∧ WgAt 103 (N + 3) a 0 1) → D0w N a b e → (Z b ∧ WgAt 103 (N + 3) b 0 1) :=
    ⟨fun _ _ h r => ⟨hZ.rel h.1 r, by obtain ⟨d, rfl⟩ := r; exact h.2⟩, fun _ _ _ h d => by rw [d.1]; exact h⟩
  refine solo_run hT0 hTs (fun k a w h => h.1.2.1) (fun k gs a w sl t q hn h0 hs hL hT => ?_) (h.keep (F := fun w => Z w ∧ WgAt 103 (N + 3) w 0 1) keep2.1 keep2.2 ⟨hw, hg⟩)
  obtain ⟨⟨rfl, _, _, _, h4⟩, hz, hwg⟩ := hs w (atRel_refl w)
  obtain ⟨a', hst, m, hgo⟩ := h4 hwg
  refine step0 hn h0 hst hL (by have := (Array.getElem?_eq_some_iff.1 h0).1; omega) fun gs' hn' h0' _ hL' => ?_
  have hT' := hT.own0 F hc (fn := a.frame.fn) (pos := a.frame.place) (es := semEvents (smA (N + 3))) (by
    intro e he
    simp only [semEvents, List.mem_toArray, List.mem_cons, List.not_mem_nil, or_false] at he
    rcases he with rfl | rfl | rfl | rfl
    · exact e0_mark (m := .disable) rfl (by simp) _ (by simp)
    · exact e0_atom rfl
    · exact e0_atom rfl
    · exact e0_mark (m := .enable) rfl (by simp) _ (by simp))
  rw [show deafBehind 1 (semEvents (smA (N + 3))) = 1 from rfl] at hT'
  have hz' : Z (w.setCell (smA (N + 3)) (.int .u32 0)) := hZ.grp w (N + 3) _ rfl 1 hz
  have hp := (goes_pr (R' := AtRel) (D' := D0w N) (fun _ _ r => r) dc0_d0 (k := 1) hgo).keep (F := Z) (keepZ hZ).1 (keepZ hZ).2 hz'
  refine solo_run (n := n) hT0 hTs (fun k a w h => h.1.2.1) (fun k gs a w sl t q hn h0 hs hL hT => ?_) hp gs' sl _ q hn' h0' hL' hT'
  obtain ⟨⟨rfl, _, a', hst, m, hg⟩, hz⟩ := hs w (atRel_refl w)
  refine step0 hn h0 hst hL (by have := (Array.getElem?_eq_some_iff.1 h0).1; omega) fun gs' hn' h0' _ hL' => ?_
  have hT' := hT.own0 F hc (fn := a.frame.fn) (pos := a.frame.place) (es := #[⟨.cell (stA (N + 3)), false, true⟩]) (by
    intro e he
    rw [Array.mem_singleton] at he
    subst he
    exact e0_atom rfl)
  rw [show deafBehind 1 #[⟨.cell (stA (N + 3)), false, true⟩] = 1 from rfl] at hT'
  exact fin_ke F hc hZ hE (goes_pr (R' := AtRel) (D' := D0w N) (fun _ _ r => at_wt N _ _ r) dc0_d0 (k := 1) hg) hz gs' sl _ q hn' h0' hL' hT'
/-- What goroutine 0 suffers from the child. -/
def RG (N : Nat) (w w1 : World) : Prop := w1.heap[N + 1]? = w.heap[N + 1]? ∧ w1.heap[N + 2]? = w.heap[N + 2]? ∧ WT N w w1
/-- Where goroutine 0 stops that is not yet registered. -/
def Sg1 (P : Program) (N : Nat) (b : Frame) (A : Act) (ops : Array Oper) (i : Nat) (rest : List Nat) (K : List Item) (cs : List Frame) (k : Nat) (a : Goroutine) (w : World) : Prop :=
  k = 1 ∧ (SW2 P (RG N) N b A ops i rest K cs a w ∨ (SKe P N (back b A ops i rest K cs) a w ∧ (WgAt 103 (N + 3) w 0 0 ∨ WgAt 103 (N + 3) w 0 1)))
theorem Sg1.run {b : Frame} {A : Act} {ops : Array Oper} {i : Nat} {rest : List Nat} {K : List Item} {cs : List Frame} {k : Nat} {a : Goroutine} {w : World} (h : Sg1 P N b A ops i rest K cs k a w) : a.status = .running := by
  rcases h.2 with h | h
  · exact h.1
  · exact h.1.1
theorem e0_rd : ∀ e ∈ (#[⟨.cell (stA (N + 3)), false, true⟩] : Array Event), E0 (BoxB N) N e := by
  intro e he
  rw [Array.mem_singleton] at he
  subst he
  exact e0_atom rfl
/-- The child has counted it down, nobody being registered. -/
theorem fin_g1 (H : Go.Conc.Lib.WgLib P lnk) {b : Frame} {A : Act} {ops : Array Oper} {i : Nat} {rest : List Nat} {K : List Item} {cs : List Frame} (F : Far Shun (BoxB N) (Grp N)) (hc : c ≠ 0) (hZ : Zk N Z) (hE : EndsWell P Q Shun N n (back b A ops i rest K cs) Z) {k : Nat} {a : Goroutine} {w : World}
    (h : Pr P true AtRel (D0w N) (Sg1 P N b A ops i rest K cs) k a w) (hw : Z w) (hg : WgAt 103 (N + 3) w 0 0) :
    ∀ gs sl t q, gs.size = n → gs[0]? = some a → Lv P 0 t gs q → T3s Shun N c p k t → Wd P Q (crowd gs w sl) t := by
  have hT0 : ∀ k t w w' es fn pos, T3s Shun N c p k t → D0w N w w' es → T3s Shun N c p (deafBehind k es) (t ++ MemOp.ofEvents 0 fn pos es) := fun _ _ _ _ _ _ _ h d => h.own0 F hc d.2
  have hTs : ∀ k t ops, T3s Shun N c p k t → Slip 0 ops → T3s Shun N c p k (t ++ ops) := fun _ _ _ h s => h.slip F hc s
  have keep2 : (∀ a b : World, (Z a ∧ WgAt 103 (N + 3) a 0 0) → AtRel a b → (Z b ∧ WgAt 103 (N + 3) b 0 0)) ∧ ∀ a b e, (Z a ∧ WgAt 103 (N + 3) a 0 0) → D0w N a b e → (Z b ∧ WgAt 103 (N + 3) b 0 0) :=
    ⟨fun _ _ h r => ⟨hZ.rel h.1 r, by obtain ⟨d, rfl⟩ := r; exact h.2⟩, fun _ _ _ h d => by rw [d.1]; exact h⟩
  refine solo_run hT0 hTs (fun k a w h => h.1.run) (fun k gs a w sl t q hn h0 hs hL hT => ?_) (h.keep (F := fun w => Z w ∧ WgAt 103 (N + 3) w 0 0) keep2.1 keep2.2 ⟨hw, hg⟩)
  obtain ⟨⟨rfl, hs1⟩, hz, hwg⟩ := hs w (atRel_refl w)
  rcases hs1 with ⟨_, _, hmiss⟩ | ⟨hs1, _⟩
  rotate_left
  · exact ke_step F hc hZ hE hn h0 hs1 hz hL hT
  obtain ⟨a', hst, m, hgo⟩ := hmiss 0 hwg
  refine step0 hn h0 hst hL (by have := (Array.getElem?_eq_some_iff.1 h0).1; omega) fun gs' hn' h0' _ hL' => ?_
  have hT' := hT.own0 F hc (fn := a.frame.fn) (pos := a.frame.place) e0_rd
  rw [show deafBehind 1 #[⟨.cell (stA (N + 3)), false, true⟩] = 1 from rfl] at hT'
  -- to the head of the loop, and on to the load
  have hp := (goes_pr (R' := AtRel) (D' := D0w N) (fun _ _ r => at_wt N _ _ r) dc0_d0 (k := 1) hgo).keep (F := fun w => Z w ∧ WgAt 103 (N + 3) w 0 0) keep2.1 keep2.2 ⟨hz, hwg⟩
  have hp2 : Pr P true AtRel (D0w N) (fun k a w => k = 1 ∧ SW1 P AtRel N b A ops i rest K cs a w) 1 a' w := by
    refine hp.then fun k a w hs => ?_
    obtain ⟨⟨rfl, hh⟩, _, hg⟩ := hs w (atRel_refl w)
    obtain ⟨n1, hgo1⟩ := head_load (R := AtRel) H (fun _ _ r => at_wt N _ _ r) hh (.inr (.inl hg))
    exact goes_pr (R' := AtRel) (D' := D0w N) (fun _ _ r => r) dc0_d0 hgo1
  refine solo_run (n := n) hT0 hTs (fun k a w h => h.1.2.1) (fun k gs a w sl t q hn h0 hs hL hT => ?_) (hp2.keep (F := fun w => Z w ∧ WgAt 103 (N + 3) w 0 0) keep2.1 keep2.2 ⟨hz, hwg⟩) gs' sl _ q hn' h0' hL' hT'
  obtain ⟨⟨rfl, _, _, h0z⟩, hz, hwg⟩ := hs w (atRel_refl w)
  obtain ⟨a', hst, m, hgo⟩ := h0z 0 hwg
  refine step0 hn h0 hst hL (by have := (Array.getElem?_eq_some_iff.1 h0).1; omega) fun gs' hn' h0' _ hL' => ?_
  have hT' := hT.own0 F hc (fn := a.frame.fn) (pos := a.frame.place) e0_rd
  rw [show deafBehind 1 #[⟨.cell (stA (N + 3)), false, true⟩] = 1 from rfl] at hT'
  exact fin_ke F hc hZ hE (goes_pr (R' := AtRel) (D' := D0w N) (fun _ _ r => at_wt N _ _ r) dc0_d0 (k := 1) hgo) hz gs' sl _ q hn' h0' hL' hT'
end
end
end Go.Proofs.Ytdlnlcjmjgbikaa
