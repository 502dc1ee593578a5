/- The library's WaitGroup, as the program has it. -/
import Derived.Test.YtdlnlcjmjgbikaaRh
import Derived.Conc.FxGenDone
import Derived.Conc.FxGenWait
import Derived.Conc.FxGenLone
import Derived.Conc.CrowdComm
namespace Go.Proofs.Ytdlnlcjmjgbikaa
open Go Go.Conc

noncomputable section
abbrev lnk : Go.Conc.Lib.WgLink := { add := 43, done := 45, wait := 47, relMerge := 37, disable := 32, enable := 34, inBubble := 60, associate := 61, fatal := 62, uOr := 63, uAdd := 64, raceRead := 65, uLoad := 66, uStore := 67, disassociate := 68, semrelease := 69, acquire := 35, isAssociated := 74, uCas := 75, raceWrite := 76, semacquire := 77, orU64 := 82, addU64 := 83, loadU64 := 84, storeU64 := 85, casU64 := 90, tWgP := 117, tUP := 92, tAssoc := 118, tWg := 103, tAU := 101, tU64 := 99, tUint := 110, tU32 := 48, tPU32 := 113, tPAU := 140, tPU64 := 142, tNoCopy := 47, tANoCopy := 55, tAlign64 := 79 }
theorem wgLib : Go.Conc.Lib.WgLib Try.prog lnk :=
  ⟨Try.func43, Try.func45, Try.func47, Try.func37, Try.func32, Try.func34, Try.func60, Try.func61, Try.func62, Try.func63, Try.func64, Try.func65, Try.func66, Try.func67, Try.func68, Try.func69, Try.func35, Try.func74, Try.func75, Try.func76, Try.func77, Try.func82, Try.func83, Try.func84, Try.func85, Try.func90, Try.underlying117, Try.runUnderlying117, Try.sizeOf117, Try.isAgg117, Try.zeroValue117, Try.underlying92, Try.runUnderlying92, Try.sizeOf92, Try.isAgg92, Try.zeroValue92, Try.underlying118, Try.runUnderlying118, Try.sizeOf118, Try.isAgg118, Try.zeroValue118, Try.underlying103, Try.runUnderlying103, Try.sizeOf103, Try.isAgg103, Try.zeroValue103, Try.underlying101, Try.runUnderlying101, Try.sizeOf101, Try.isAgg101, Try.zeroValue101, Try.underlying99, Try.runUnderlying99, Try.sizeOf99, Try.isAgg99, Try.zeroValue99, Try.underlying110, Try.runUnderlying110, Try.sizeOf110, Try.isAgg110, Try.zeroValue110, Try.underlying48, Try.runUnderlying48, Try.sizeOf48, Try.isAgg48, Try.zeroValue48, Try.underlying113, Try.runUnderlying113, Try.sizeOf113, Try.isAgg113, Try.zeroValue113, Try.underlying140, Try.runUnderlying140, Try.sizeOf140, Try.isAgg140, Try.zeroValue140, Try.underlying142, Try.runUnderlying142, Try.sizeOf142, Try.isAgg142, Try.zeroValue142, Try.underlying0, Try.runUnderlying0, Try.sizeOf0, Try.isAgg0, Try.zeroValue0, Try.underlying3, Try.runUnderlying3, Try.sizeOf3, Try.isAgg3, Try.zeroValue3, Try.underlying4, Try.runUnderlying4, Try.sizeOf4, Try.isAgg4, Try.zeroValue4, Try.underlying9, Try.runUnderlying9, Try.sizeOf9, Try.isAgg9, Try.zeroValue9, Try.underlying20, Try.runUnderlying20, Try.sizeOf20, Try.isAgg20, Try.zeroValue20, Try.underlying21, Try.runUnderlying21, Try.sizeOf21, Try.isAgg21, Try.zeroValue21, (by kernel_rfl), (by kernel_rfl)⟩
end
end Go.Proofs.Ytdlnlcjmjgbikaa
/- Walks: what is kept of them; two that walk while one of them sleeps. -/
namespace Go.Proofs.Ytdlnlcjmjgbikaa
open Go Go.Conc
open Go.ConcN (sumTo upd sumTo_upd upd_ne upd_same)

section
variable {P : Program} {main : Bool} {R R' : World → World → Prop} {D D' : World → World → Array Event → Prop} {Stop Stop' : Nat → Goroutine → World → Prop} {k : Nat} {a : Goroutine} {w : World}
/-- Less is suffered, more is let by. -/
theorem Pr.anti (hR : ∀ a b, R' a b → R a b) (hD : ∀ a b e, D a b e → D' a b e) (h : Pr P main R D Stop k a w) : Pr P main R' D' Stop k a w := by
  induction h with
  | stop h => exact .stop fun w1 h1 => h w1 (hR _ _ h1)
  | step f u e hr hs hd _ ih => exact .step f u e hr (fun w1 h1 => hs w1 (hR _ _ h1)) (fun w1 h1 => hD _ _ _ (hd w1 (hR _ _ h1))) fun w1 h1 => ih w1 (hR _ _ h1)
/-- What is kept is known where it stops. -/
theorem Pr.keep {F : World → Prop} (hR : ∀ a b, F a → R a b → F b) (hD : ∀ a b e, F a → D a b e → F b) (h : Pr P main R D Stop k a w) (hw : F w) : Pr P main R D (fun k a w => Stop k a w ∧ F w) k a w := by
  induction h with
  | stop h => exact .stop fun w1 h1 => ⟨h w1 h1, hR _ _ hw h1⟩
  | step f u e hr hs hd _ ih => exact .step f u e hr hs hd fun w1 h1 => ih w1 h1 (hD _ _ _ (hR _ _ hw h1) (hd w1 h1))
/-- The library's walk. -/
theorem goes_pr {S : Goroutine → World → Prop} (hR : ∀ a b, R' a b → R a b) (hD : ∀ a b e, D a b e → D' a b e ∧ ∀ k, deafBehind k e = k) : ∀ {n : Nat} {a : Goroutine} {w : World}, Goes P main R D S n a w → Pr P main R' D' (fun k' a w => k' = k ∧ S a w) k a w
  | 0, _, _, h => .stop fun w1 h1 => ⟨rfl, h w1 (hR _ _ h1)⟩
  | n + 1, _, _, h => by
    rcases h with h | ⟨hr, h⟩
    · exact .stop fun w1 h1 => ⟨rfl, h w1 (hR _ _ h1)⟩
    · refine Pr.mk hr fun w1 h1 => ?_
      have := h w1 (hR _ _ h1)
      revert this
      cases stepG P main _ w1 <;> simp only [GStep.goes, false_imp_iff]
      rename_i g' w' es
      rintro ⟨d, hg⟩
      obtain ⟨d1, d2⟩ := hD _ _ _ d
      refine ⟨g', w', es, rfl, d1, ?_⟩
      rw [d2]
      exact goes_pr hR hD hg
end

section
variable {P : Program} {Q : Machine → Outcome → World → Trace → Prop} {T : Nat → Trace → Prop} {D : World → World → Array Event → Prop} {Stop : Nat → Goroutine → World → Prop}
/-- Goroutine 0 walks, all others only leave; T: what is held of the list. -/
theorem solo_gen (hT0 : ∀ k t w w' es fn pos, T k t → D w w' es → T (deafBehind k es) (t ++ MemOp.ofEvents 0 fn pos es)) (hTs : ∀ k t ops, T k t → Slip 0 ops → T k (t ++ ops)) {n : Nat}
    (hK : ∀ k gs a w sl t q, gs.size = n → gs[0]? = some a → (∀ w1, AtRel w w1 → Stop k a w1) → Lv P 0 t gs q → T k t → Wd P Q (crowd gs w sl) t) {k : Nat} {a : Goroutine} {w : World} (h : Pr P true AtRel D Stop k a w) :
    ∀ gs sl t q, gs.size = n → gs[0]? = some a → Lv P 0 t gs q → T k t → Wd P Q (crowd gs w sl) t := by
  suffices H : ∀ M gs w0 sl t q, AtRel w w0 → sumTo gs.size q ≤ M → gs.size = n → gs[0]? = some a → Lv P 0 t gs q → T k t → Wd P Q (crowd gs w0 sl) t from
    fun gs sl t q hn h0 hL hT => H _ gs w sl t q (atRel_refl w) (Nat.le_refl _) hn h0 hL hT
  induction h with
  | stop hs => exact fun M gs w0 sl t q hw _ hn h0 hL hT => hK _ gs _ w0 sl t q hn h0 (fun w1 h1 => hs w1 (atRel_trans _ _ _ hw h1)) hL hT
  | step f u e hr hs hd _ ih =>
    rename_i k a w _
    have key : ∀ gs w0 sl sl' t q d, AtRel w w0 → gs.size = n → gs[0]? = some a → Lv P 0 t gs q → T k t → stepT P (crowd gs w0 sl) = runT P (crowd gs (w0.at d) sl') 0 → Wd P Q (crowd gs w0 sl) t := by
      intro gs w0 sl sl' t q d hw hn h0 hL hT h
      have hw' := AtRel.at hw d
      obtain ⟨gs', h1, h2, h3, _, h5⟩ := crowd_act (i := 0) (c := 0) (sl := sl') h0 (.inl rfl) (hs _ hw') hL (Array.getElem?_eq_some_iff.1 h0).1
      exact .step (h.trans h1) (ih _ hw' _ gs' (u (w0.at d)) sl' _ q (atRel_refl _) (Nat.le_refl _) (h2.trans hn) h3 h5 (hT0 _ _ _ _ _ _ _ hT (hd _ hw')))
    intro M
    induction M with
    | zero =>
      intro gs w0 sl t q hw hM hn h0 hL hT
      obtain ⟨d, sl', h | ⟨gs', q', ops, h1, h2, h3, h4, h5, h6⟩⟩ := solo_move (w := w0) (sl := sl) h0 hr hL
      · exact key gs w0 sl sl' t q d hw hn h0 hL hT h
      · omega
    | succ M ihM =>
      intro gs w0 sl t q hw hM hn h0 hL hT
      obtain ⟨d, sl', h | ⟨gs', q', ops, h1, h2, h3, h4, h5, h6⟩⟩ := solo_move (w := w0) (sl := sl) h0 hr hL
      · exact key gs w0 sl sl' t q d hw hn h0 hL hT h
      · exact .step h1 (ihM gs' (w0.at d) sl' (t ++ ops) q' (AtRel.at hw d) (by rw [h2]; omega) (h2.trans hn) h3 h4 (hTs _ _ _ hT h6))
/-- Who only leaves is in nobody's way: goroutine 0 stands at one step of its own that is known. -/
theorem solo_one (hT0 : ∀ k t ops, T k t → Slip 0 ops → T k (t ++ ops)) {n k : Nat} {a : Goroutine} {w : World} (hr : a.status = .running)
    (hK : ∀ gs w1 sl t q, gs.size = n → gs[0]? = some a → AtRel w w1 → Lv P 0 t gs q → T k t → ∃ m' ops, runT P (crowd gs w1 sl) 0 = (.next m', ops) ∧ Wd P Q m' (t ++ ops)) :
    ∀ gs sl t q, gs.size = n → gs[0]? = some a → Lv P 0 t gs q → T k t → Wd P Q (crowd gs w sl) t := by
  suffices H : ∀ M gs w0 sl t q, AtRel w w0 → sumTo gs.size q ≤ M → gs.size = n → gs[0]? = some a → Lv P 0 t gs q → T k t → Wd P Q (crowd gs w0 sl) t from
    fun gs sl t q hn h0 hL hT => H _ gs w sl t q (atRel_refl w) (Nat.le_refl _) hn h0 hL hT
  intro M
  induction M with
  | zero =>
    intro gs w0 sl t q hw hM hn h0 hL hT
    obtain ⟨d, sl', h | ⟨gs', q', ops, h1, h2, h3, h4, h5, h6⟩⟩ := solo_move (w := w0) (sl := sl) h0 hr hL
    · obtain ⟨m', ops, e, hwd⟩ := hK gs (w0.at d) sl' t q hn h0 (AtRel.at hw d) hL hT
      exact .step (h.trans e) hwd
    · omega
  | succ M ihM =>
    intro gs w0 sl t q hw hM hn h0 hL hT
    obtain ⟨d, sl', h | ⟨gs', q', ops, h1, h2, h3, h4, h5, h6⟩⟩ := solo_move (w := w0) (sl := sl) h0 hr hL
    · obtain ⟨m', ops, e, hwd⟩ := hK gs (w0.at d) sl' t q hn h0 (AtRel.at hw d) hL hT
      exact .step (h.trans e) hwd
    · exact .step h1 (ihM gs' (w0.at d) sl' (t ++ ops) q' (AtRel.at hw d) (by rw [h2]; omega) (h2.trans hn) h3 h4 (hT0 _ _ _ hT h6))
end
end Go.Proofs.Ytdlnlcjmjgbikaa
/- Goroutine 0 sleeps at the group's semaphore, or has been let try again, while the child walks. -/
namespace Go.Proofs.Ytdlnlcjmjgbikaa
open Go Go.Conc
open Go.ConcN (sumTo upd sumTo_upd upd_ne upd_same)

section
variable {P : Program} {c : Nat} {t : Trace} {gs : Array Goroutine} {q : Nat → Nat} {w : World} {sl : Option (Nat × Nat)}
/-- Who moves; who sleeps may be let try again. -/
theorem crowd_move2 (hA : ∀ i g, (i = 0 ∨ i = c) → gs[i]? = some g → g.status = .running ∨ g.status = .blocked) (some1 : ∃ i g, (i = 0 ∨ i = c) ∧ gs[i]? = some g ∧ g.status = .running) (hL : Lv P c t gs q) :
    ∃ d sl', (∃ i g, (i = 0 ∨ i = c) ∧ gs[i]? = some g ∧ g.status = .running ∧ stepT P (crowd gs w sl) = runT P (crowd gs (w.at d) sl') i) ∨
      ∃ gs' q' ops g g', stepT P (crowd gs w sl) = (.next (crowd gs' (w.at d) sl'), ops) ∧ gs'.size = gs.size ∧ (∀ i, i = 0 ∨ i = c → gs'[i]? = (gs[i]?).map (woken P g g' (w.at d))) ∧ Lv P c (t ++ ops) gs' q' ∧
        sumTo gs.size q' < sumTo gs.size q ∧ Slip c ops := by
  have haw : ∀ g ∈ gs, awake g := by
    intro g hg
    obtain ⟨i, hi, rfl⟩ := Array.mem_iff_getElem.1 hg
    by_cases h : i = 0 ∨ i = c
    · exact awake_of ((hA i _ h (Array.getElem?_eq_getElem hi)).elim .inl fun x => .inr (.inl x))
    · exact awake_of ((hL.old i _ (fun e => h (.inl e)) (fun e => h (.inr e)) (Array.getElem?_eq_getElem hi)).status.elim .inl fun x => .inr (.inr x))
  obtain ⟨i0, g0, _, hi0, hg0⟩ := some1
  obtain ⟨i, g, d, sl', hi, hg, hst⟩ := crowd_pick (P := P) (w := w) (sl := sl) haw ⟨i0, g0, hi0, hg0⟩
  refine ⟨d, sl', ?_⟩
  by_cases h : i = 0 ∨ i = c
  · exact .inl ⟨i, g, h, hi, hg, hst⟩
  · have h0 : i ≠ 0 := fun e => h (.inl e)
    have hc : i ≠ c := fun e => h (.inr e)
    have hq := hL.old i g h0 hc hi
    have hi0 : (i == 0) = false := by simp; omega
    have hlt : i < gs.size := (Array.getElem?_eq_some_iff.1 hi).1
    cases hqi : q i with
    | zero => rw [hqi] at hq; rw [hq.1] at hg; cases hg
    | succ k =>
      rw [hqi] at hq
      rcases hq with ⟨hf, _⟩ | ⟨_, g', es, hm, hstp, hq'⟩
      · rw [hf] at hg; cases hg
      have hrun := runT_crowd_go (P := P) (sl := sl') (i := i) hi (by rw [hi0]; exact hstp (w.at d))
      have hsum : sumTo gs.size (upd q i k) + (k + 1) = sumTo gs.size q + k := by
        have := sumTo_upd q k id hlt
        simpa [hqi] using this
      refine .inr ⟨_, upd q i k, _, g, g', hst.trans hrun, by simp, fun j hj => ?_, ⟨fun j x hj0 hjc hx => ?_, fun j hj => ?_⟩, by omega, i, _, _, es, h0, hc, rfl, hm⟩
      · have hne : i ≠ j := fun e => h (e ▸ hj)
        rw [Array.getElem?_setIfInBounds_ne hne, Array.getElem?_map]
      · by_cases hji : i = j
        · subst hji
          rw [Array.getElem?_setIfInBounds_self_of_lt (by simpa using hlt)] at hx
          obtain rfl := Option.some.inj hx
          rw [upd_same, Deaf_own]
          exact hq'
        · rw [Array.getElem?_setIfInBounds_ne hji, Array.getElem?_map] at hx
          obtain ⟨y, hy, rfl⟩ := Option.map_eq_some_iff.1 hx
          have hqj := hL.old j y hj0 hjc hy
          rw [woken_quitsD hqj, upd_ne q k (Ne.symm hji), Deaf_other t hji _ ofEvents_g]
          exact hqj
      · rw [Deaf_other t (g' := i) (by simp at hj; omega) _ ofEvents_g]
        exact hL.above j (by simpa using hj)
end

section
variable {P : Program} {Q : Machine → Outcome → World → Trace → Prop} {c n : Nat} {T : Nat → Nat → Trace → Prop} {Rc : World → World → Prop} {Dc : World → World → Array Event → Prop} {Stopc : Nat → Goroutine → World → Prop} {S : World → Prop}
/-- Asleep, or let try again. -/
def Sleeps (a x : Goroutine) : Prop := x = a ∨ x = { a with status := .blocked }
theorem Sleeps.woken {a x : Goroutine} (hr : a.status = .running) (ho : a.offers = none) (h : Sleeps a x) (g g' : Goroutine) (w : World) : Sleeps a (woken P g g' w x) := by
  rcases h with rfl | rfl
  · rw [woken_run hr]; exact .inl rfl
  · unfold Go.Conc.woken
    split
    · left
      obtain ⟨f, cs, s, d, o⟩ := a
      simp only at hr ho
      subst hr ho
      rfl
    · exact .inr rfl
theorem ofEvents_nil (g : Nat) (fn : FuncId) (pos : String) : MemOp.ofEvents g fn pos #[] = #[] := by rw [ofEvents_eq]; simp
/-- What is asked of the child's walk while goroutine 0 sleeps. -/
structure Nap (P : Program) (c : Nat) (T : Nat → Nat → Trace → Prop) (Rc : World → World → Prop) (Dc : World → World → Array Event → Prop) (Stopc : Nat → Goroutine → World → Prop) (S : World → Prop) (a : Goroutine) : Prop where
  pos : c ≠ 0
  run : a.status = .running
  off : a.offers = none
  blk : ∀ w, S w → stepG P true a w = .go { a with status := .blocked } w #[]
  at_ : ∀ w d, Rc w (w.at d)
  trans : ∀ a b c, Rc a b → Rc b c → Rc a c
  sat : ∀ w d, S w → S (w.at d)
  sd : ∀ w w' es, S w → Dc w w' es → S w'
  tc : ∀ k kc t w w' es fn pos, T k kc t → Dc w w' es → T k (deafBehind kc es) (t ++ MemOp.ofEvents c fn pos es)
  ts : ∀ k kc t ops, T k kc t → Slip c ops → T k kc (t ++ ops)
  stc : ∀ k b w, Stopc k b w → b.status = .running
/-- The child walks to where it stops, and on from there. -/
theorem nap_fin {a : Goroutine} (H : Nap P c T Rc Dc Stopc S a)
    (hc : ∀ k kc gs x b w sl t q, gs.size = n → gs[0]? = some x → Sleeps a x → gs[c]? = some b → (∀ w1, Rc w w1 → Stopc kc b w1) → S w → Lv P c t gs q → T k kc t → ∃ m' ops, runT P (crowd gs w sl) c = (.next m', ops) ∧ Wd P Q m' (t ++ ops))
    {kc : Nat} {b : Goroutine} {w : World} (hb : Pr P false Rc Dc Stopc kc b w) :
    ∀ w0, Rc w w0 → S w0 → ∀ gs sl t q x k, gs.size = n → gs[0]? = some x → Sleeps a x → gs[c]? = some b → Lv P c t gs q → T k kc t → Wd P Q (crowd gs w0 sl) t := by
  have self : ∀ w, Rc w w := fun w => by have := H.at_ w w.drawn; rwa [at_self] at this
  have cne : (c == 0) = false := by simpa using H.pos
  -- the child's next step is in hand
  have lay : ∀ {kc : Nat} {b : Goroutine} {w : World}, b.status = .running → (∀ w1, Rc w w1 → S w1 → ∀ gs sl t q x k, gs.size = n → gs[0]? = some x → Sleeps a x → gs[c]? = some b → Lv P c t gs q → T k kc t → ∃ m' ops, runT P (crowd gs w1 sl) c = (.next m', ops) ∧ Wd P Q m' (t ++ ops)) →
      ∀ M w0, Rc w w0 → S w0 → ∀ gs sl t q x k, 2 * sumTo gs.size q + (if x.status = .running then 1 else 0) ≤ M → gs.size = n → gs[0]? = some x → Sleeps a x → gs[c]? = some b → Lv P c t gs q → T k kc t → Wd P Q (crowd gs w0 sl) t := by
    intro kc b w hbr hm M
    induction M with
    | zero =>
      intro w0 h0 hS gs sl t q x k hM hn g0 hx gc hL hT
      obtain ⟨d, sl1, h | ⟨gs', q', ops, g, g', h1, h2, h3, h4, h5, h6⟩⟩ := crowd_move2 (P := P) (w := w0) (sl := sl) (c := c) (fun i g hi hg => by
        rcases hi with rfl | rfl
        · obtain rfl := Option.some.inj (hg.symm.trans g0)
          rcases hx with rfl | rfl
          · exact .inl H.run
          · exact .inr rfl
        · obtain rfl := Option.some.inj (hg.symm.trans gc)
          exact .inl hbr) ⟨c, b, .inr rfl, gc, hbr⟩ hL
      · obtain ⟨i, g, hi, hg, hgr, hs⟩ := h
        have hi' : i = c := by
          rcases hi with rfl | rfl
          · exfalso
            obtain rfl := Option.some.inj (hg.symm.trans g0)
            rw [if_pos hgr] at hM; omega
          · rfl
        rw [hi'] at hs
        obtain ⟨m', ops, e, hw⟩ := hm (w0.at d) (H.trans _ _ _ h0 (H.at_ _ _)) (H.sat _ _ hS) gs sl1 t q x k hn g0 hx gc hL hT
        exact .step (hs.trans e) hw
      · omega
    | succ M ih =>
      intro w0 h0 hS gs sl t q x k hM hn g0 hx gc hL hT
      have hcl : c < gs.size := (Array.getElem?_eq_some_iff.1 gc).1
      obtain ⟨d, sl1, h | ⟨gs', q', ops, g, g', h1, h2, h3, h4, h5, h6⟩⟩ := crowd_move2 (P := P) (w := w0) (sl := sl) (c := c) (fun i g hi hg => by
        rcases hi with rfl | rfl
        · obtain rfl := Option.some.inj (hg.symm.trans g0)
          rcases hx with rfl | rfl
          · exact .inl H.run
          · exact .inr rfl
        · obtain rfl := Option.some.inj (hg.symm.trans gc)
          exact .inl hbr) ⟨c, b, .inr rfl, gc, hbr⟩ hL
      · obtain ⟨i, g, hi, hg, hgr, hs⟩ := h
        have h0d := H.trans _ _ _ h0 (H.at_ w0 d)
        have hSd := H.sat w0 d hS
        rcases hi with rfl | rfl
        · obtain rfl := Option.some.inj (hg.symm.trans g0)
          have hga : g = a := by
            rcases hx with rfl | rfl
            · rfl
            · cases hgr
          subst hga
          obtain ⟨gs', r1, r2, r3, r4, r5⟩ := crowd_act (i := 0) (c := c) (sl := sl1) g0 (.inl rfl) (H.blk _ hSd) hL hcl
          rw [ofEvents_nil] at r1 r5
          refine .step (hs.trans r1) ?_
          rw [Array.append_empty] at r5 ⊢
          have hcc : gs'[c]? = some b := by
            rw [r4 c b H.pos gc]
            unfold Go.Conc.woken
            simp
          refine ih (w0.at d) h0d hSd gs' sl1 t q _ k ?_ (r2.trans hn) r3 (.inr rfl) hcc r5 hT
          rw [if_pos hgr] at hM
          rw [r2, if_neg (by simp)]
          omega
        · obtain ⟨m', ops, e, hw⟩ := hm (w0.at d) h0d hSd gs sl1 t q x k hn g0 hx gc hL hT
          exact .step (hs.trans e) hw
      · have g0' := h3 0 (.inl rfl)
        have gc' := h3 c (.inr rfl)
        rw [g0] at g0'
        rw [gc, Option.map_some, woken_run hbr] at gc'
        refine .step h1 (ih (w0.at d) (H.trans _ _ _ h0 (H.at_ w0 d)) (H.sat w0 d hS) gs' sl1 (t ++ ops) q' _ k ?_ (h2.trans hn) g0' (hx.woken H.run H.off g g' _) gc' h4 (H.ts _ _ _ _ hT h6))
        rw [h2]
        split <;> split at hM <;> omega
  induction hb with
  | stop hs =>
    intro w0 h0 hS gs sl t q x k hn g0 hx gc hL hT
    exact lay (H.stc _ _ _ (hs _ (self _))) (fun w1 h1 hS1 gs sl t q x k hn g0 hx gc hL hT => hc _ _ gs x _ w1 sl t q hn g0 hx gc (fun w2 h2 => hs w2 (H.trans _ _ _ h1 h2)) hS1 hL hT) _ w0 h0 hS gs sl t q x k (Nat.le_refl _) hn g0 hx gc hL hT
  | step f u e hr hs hd _ ih =>
    intro w0 h0 hS gs sl t q x k hn g0 hx gc hL hT
    refine lay hr (fun w1 h1 hS1 gs sl t q x k hn g0 hx gc hL hT => ?_) _ w0 h0 hS gs sl t q x k (Nat.le_refl _) hn g0 hx gc hL hT
    have hcl : c < gs.size := (Array.getElem?_eq_some_iff.1 gc).1
    obtain ⟨gs', r1, r2, r3, r4, r5⟩ := crowd_act (i := c) (c := c) (sl := sl) gc (.inr rfl) (by rw [cne]; exact hs _ h1) hL hcl
    refine ⟨_, _, r1, ih _ h1 _ (self _) (H.sd _ _ _ hS1 (hd _ h1)) gs' sl _ q _ k (r2.trans hn) (r4 0 x (Ne.symm H.pos) g0) (hx.woken H.run H.off _ _ _) r3 r5 (H.tc _ _ _ _ _ _ _ _ hT (hd _ h1))⟩
end
end Go.Proofs.Ytdlnlcjmjgbikaa
/- The list: where the two meet at a channel. -/
namespace Go.Proofs.Ytdlnlcjmjgbikaa
open Go Go.Conc

section
variable {Shun Box Grp Box' Grp' : Loc → Prop} {a : Addr} {c p ch : Nat} {t : Trace}
theorem get_app4 (t : Trace) (x1 x2 x3 x4 : MemOp) : (t ++ #[x1, x2, x3, x4])[t.size]? = some x1 ∧ (t ++ #[x1, x2, x3, x4])[t.size + 1]? = some x2 ∧ (t ++ #[x1, x2, x3, x4])[t.size + 2]? = some x3 ∧ (t ++ #[x1, x2, x3, x4])[t.size + 3]? = some x4 := by
  refine ⟨?_, ?_, ?_, ?_⟩ <;> rw [Array.getElem?_append_right (by omega)] <;> simp
theorem deaf_at (t u v : Trace) (g : Nat) (hu : ∀ op ∈ u, op.act ≠ .mark .disable ∧ op.act ≠ .mark .enable) : (t ++ u ++ v).deaf g (t.size + u.size) = Deaf t g := by
  have e : t.size + u.size = (t ++ u).size := by simp
  rw [e, deaf_old (Nat.le_refl _)]
  exact Go.ConcX.Deaf_keep t g u hu
/-- THE TWO MEET: behind it both know all. -/
theorem Co.meet (h : Co Shun Box Grp a c p t) (h0 : Deaf t 0 = 0) (hk : Deaf t c = 0) {x1 x2 x3 x4 : MemOp} (e1 : x1.g = 0 ∧ x1.act = .send ch 0) (e2 : x2.g = c ∧ x2.act = .recv ch 0 0) (e3 : x3.g = 0 ∧ x3.act = .sendDone ch 0) (e4 : x4.g = c ∧ x4.act = .recvDone ch 0) :
    Co Shun Box' Grp' a c (t ++ #[x1, x2, x3, x4]).size (t ++ #[x1, x2, x3, x4]) := by
  obtain ⟨i1, i2, i3, i4⟩ := get_app4 t x1 x2 x3 x4
  have hmk : ∀ op ∈ (#[x1, x2, x3, x4] : Trace), op.act.touch? = none ∧ op.act ≠ .mark .disable ∧ op.act ≠ .mark .enable := by
    intro op hop
    simp only [List.mem_toArray, List.mem_cons, List.not_mem_nil, or_false] at hop
    rcases hop with rfl | rfl | rfl | rfl
    · rw [e1.2]; exact ⟨rfl, by simp, by simp⟩
    · rw [e2.2]; exact ⟨rfl, by simp, by simp⟩
    · rw [e3.2]; exact ⟨rfl, by simp, by simp⟩
    · rw [e4.2]; exact ⟨rfl, by simp, by simp⟩
  have d : ∀ (u v : Trace), #[x1, x2, x3, x4] = u ++ v → ∀ g, (t ++ #[x1, x2, x3, x4]).deaf g (t.size + u.size) = Deaf t g := by
    intro u v e g
    rw [e, ← Array.append_assoc]
    exact deaf_at t u v g fun op hop => (hmk op (by rw [e]; exact Array.mem_append_left _ hop)).2
  have hh0 : (t ++ #[x1, x2, x3, x4]).heard t.size := ⟨0, by rw [g?_of i1, e1.1], by have := d #[] #[x1, x2, x3, x4] (by simp) 0; simpa [h0] using this⟩
  have hh1 : (t ++ #[x1, x2, x3, x4]).heard (t.size + 1) := ⟨c, by rw [g?_of i2, e2.1], by have := d #[x1] #[x2, x3, x4] (by simp) c; simpa [hk] using this⟩
  have hh2 : (t ++ #[x1, x2, x3, x4]).heard (t.size + 2) := ⟨0, by rw [g?_of i3, e3.1], by have := d #[x1, x2] #[x3, x4] (by simp) 0; simpa [h0] using this⟩
  have hh3 : (t ++ #[x1, x2, x3, x4]).heard (t.size + 3) := ⟨c, by rw [g?_of i4, e4.1], by have := d #[x1, x2, x3] #[x4] (by simp) c; simpa [hk] using this⟩
  have edgeC : HappensBefore (t ++ #[x1, x2, x3, x4]) t.size (t.size + 3) := .single (.inr ⟨.handOver (c := ch) (k := 0) (by rw [act?_of i1, e1.2]) (by rw [act?_of i4, e4.2]), hh0, hh3⟩)
  have edge0 : HappensBefore (t ++ #[x1, x2, x3, x4]) (t.size + 1) (t.size + 2) := .single (.inr ⟨.room (c := ch) (k := 0) (cap := 0) (by rw [act?_of i2, e2.2]) (by rw [act?_of i3, e3.2]), hh1, hh2⟩)
  have knowC : ∀ i op, t[i]? = some op → op.g = 0 → Knows (t ++ #[x1, x2, x3, x4]) c i := by
    intro i op hop hg
    have hi : i < t.size := lt_size_of_getElem? hop
    exact ⟨t.size + 3, x4, i4, e4.1, .inr (.trans (.single (.inl ⟨hi, 0, by rw [g?_old hi, g?_of hop, hg], by rw [g?_of i1, e1.1]⟩)) edgeC)⟩
  have know0 : ∀ i op, t[i]? = some op → op.g = c → HappensBefore (t ++ #[x1, x2, x3, x4]) i (t.size + 2) := by
    intro i op hop hg
    have hi : i < t.size := lt_size_of_getElem? hop
    exact .trans (.single (.inl ⟨by omega, c, by rw [g?_old hi, g?_of hop, hg], by rw [g?_of i2, e2.1]⟩)) edge0
  have g3 : (t ++ #[x1, x2, x3, x4]).g? (t.size + 2) = some 0 := by rw [g?_of i3, e3.1]
  refine ⟨fun said => noRace_appendMute (h.clean said) fun op hop => (hmk op hop).1, fun i x hi hx hm => ?_, fun i op hi ho => ?_, fun i g hi hg hn hcn => ?_, Nat.le_refl _⟩
  · obtain ⟨op, ho, hox⟩ := touch_of hx
    rcases getElem?_append_cases ho with ⟨hlt, ho'⟩ | ⟨_, hou⟩
    · rcases Nat.lt_or_ge i p with hip | hip
      · exact (h.old i x hip (by rw [touchAt_of ho']; exact hox) hm).imp (fun k => ⟨k.1.app _, k.2.app _⟩) id
      · rcases (h.new i op hip ho').1 with ⟨hg, _⟩ | ⟨hg, _⟩ | ⟨_, hno⟩
        · have := knows_own (t := t) ho'
          rw [hg] at this
          exact .inl ⟨this.app _, knowC i op ho' hg⟩
        · have := knows_own (t := t) ho'
          rw [hg] at this
          exact .inl ⟨⟨t.size + 2, x3, i3, e3.1, .inr (know0 i op ho' hg)⟩, this.app _⟩
        · rw [hno] at hox; cases hox
    · rw [(hmk op hou).1] at hox; cases hox
  · have := lt_size_of_getElem? ho
    omega
  · rcases Nat.lt_or_ge i t.size with hlt | hge
    · rw [g?_old hlt] at hg
      rw [counts_old hlt] at hcn
      rcases Nat.lt_or_ge i p with hip | hip
      · obtain ⟨j, hj, hb⟩ := h.over i g hip hg hn hcn
        have hjl : j < t.size := by
          unfold Trace.g? at hj
          obtain ⟨z, hz, _⟩ := Option.map_eq_some_iff.1 hj
          exact lt_size_of_getElem? hz
        exact ⟨j, by rw [g?_old hjl]; exact hj, hb_app _ hb⟩
      · have hop : t[i]? = some t[i] := Array.getElem?_eq_getElem hlt
        have hgi : t[i].g = g := by rw [g?_of hop] at hg; exact Option.some.inj hg
        rcases (h.new i _ hip hop).1 with ⟨hg0, _⟩ | ⟨hgc, _⟩ | ⟨_, hno⟩
        · exact absurd (hgi.symm.trans hg0) hn
        · exact ⟨t.size + 2, g3, know0 i _ hop hgc⟩
        · obtain ⟨x, hx, _⟩ := hcn
          rw [act?_of hop] at hx
          rw [show (some t[i].act).bind (·.touch?) = t[i].act.touch? from rfl, hno] at hx
          cases hx
    · obtain ⟨x, hx, _⟩ := hcn
      obtain ⟨op, ho, hox⟩ := touch_of hx
      rcases getElem?_append_cases ho with ⟨hl, _⟩ | ⟨_, hou⟩
      · omega
      · rw [(hmk op hou).1] at hox; cases hox
end
end Go.Proofs.Ytdlnlcjmjgbikaa
