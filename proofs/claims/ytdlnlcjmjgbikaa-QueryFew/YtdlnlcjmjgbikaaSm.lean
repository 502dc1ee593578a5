/- THE WHOLE: what the one goroutine brings to a good end, the program does. -/
import Derived.Test.YtdlnlcjmjgbikaaSi
namespace Go.Proofs.Ytdlnlcjmjgbikaa
open Go Go.Conc
open Go.ConcN (sumTo upd upd_ne upd_same)
open Go.ConcX (WgAt KK stA smA DC0 RCa KCa)

noncomputable section
theorem ev_es {Shun : Loc → Prop} {X : Nat → Prop} (hS : ShX Shun X) {e : Event} (h : EvM X e) : EvS Shun e := by
  obtain ⟨l, wr, sy⟩ := e
  intro x hx hs
  exfalso
  cases l with
  | cell a =>
    have hn : ¬ X a.block := by rcases h with h | h | h | ⟨_, _, h | h⟩ <;> first | exact h | cases h
    have e : x.loc = .cell a := by cases hx; rfl
    rw [e] at hs
    rcases hS _ hs with ⟨b, e, hb⟩ | ⟨r, e, _⟩ <;> cases e
    exact hn hb
  | obj r =>
    have hn : ¬ X r := by rcases h with h | h | h | ⟨_, _, h | h⟩ <;> first | exact h | cases h
    have e : x.loc = .obj r := by cases wr <;> cases sy <;> cases hx <;> rfl
    rw [e] at hs
    rcases hS _ hs with ⟨b, e, hb⟩ | ⟨r, e, hr⟩ <;> cases e
    exact hn hr
  | mark m =>
    rcases h with h | h | h | ⟨a, ha, h | h⟩
    · cases m <;> first | exact (h : False).elim | cases hx
    · cases h; cases hx
    · cases h; cases hx
    · cases h; cases hx
    · cases h; cases hx
  | _ => rcases h with h | h | h | ⟨_, _, h | h⟩ <;> first | exact (h : False).elim | cases h
theorem shx5 {Shun : Loc → Prop} {X : Nat → Prop} {N : Nat} (hS : ShX Shun X) : ShX (fun l => Shun l ∨ BoxB N l ∨ Grp N l) (X5 X N) := by
  intro l hl
  rcases hl with hl | hl | ⟨b, rfl, hb⟩ | rfl
  · rcases hS l hl with ⟨a, e, h⟩ | ⟨r, e, h⟩
    · exact .inl ⟨a, e, .inl h⟩
    · exact .inr ⟨r, e, .inl h⟩
  · cases hl
    exact .inl ⟨_, rfl, .inr ⟨by simp, by simp⟩⟩
  · exact .inl ⟨b, rfl, .inr ⟨by omega, by omega⟩⟩
  · exact .inr ⟨_, rfl, .inr ⟨by omega, by omega⟩⟩
/-- A caller, behind the leaving of serve. -/
def left (kd : CallKind) (a : Frame) : Frame := if kd = .normal then a.finish (.tuple #[]) else { a with mode := settle a.mode }
theorem left_rel {kd : CallKind} {a a' : Frame} (h : FrR Try.prog sts Sq.prog a a') : FrR Try.prog sts Sq.prog (left kd a) (left kd a') := by
  unfold left
  split
  · exact finish_rel h _
  · rw [h.mode]; exact mode_rel h _
theorem left_step {p : Program} {f : Func} (hf : p.funcs[27]? = some f) (hr : f.results = #[]) {main : Bool} {kd : CallKind} (hk : kd = .normal ∨ kd = .deferred) {A : Act} (hA : A.defers = []) (a : Frame) (c : List Frame) (w : World) :
    stepG p main (G { (baseK 27 kd).at A [] with mode := .returning } (a :: c)) w = .go (G (left kd a) c) w #[] := by
  obtain ⟨T, ds⟩ := A
  simp only at hA
  subst hA
  have e : ∀ w, (results f T).runT p w #[] = (.ok (.tuple #[]) w, #[]) := by
    intro w
    simp [results, hr]
  rw [show ({ (baseK 27 kd).at ⟨T, []⟩ [] with mode := .returning } : Frame) = ⟨27, T, [], [], .returning, kd, none⟩ from rfl]
  rcases hk with rfl | rfl
  · simp [G, stepG, unwind, doReturn, hf, e, GStep.after, left, Go.Conc.seen_none, -Sem.runT_eq]
  · simp only [G, stepG, unwind, doReturn, hf, e, GStep.after]
    simp [left, Go.Conc.seen_none]
    exact settle_frame a

section
variable (Q : Machine → Outcome → World → Trace → Prop) (base baseP : List Frame) (R : Frame → List Frame → World → Prop) (X0 : Nat → Prop) (W0 : World)
/-- All ends well from a state beside this one. -/
def Runs (fr' : Frame) (c' : List Frame) (v : World) : Prop :=
  ∀ (X : Nat → Prop) (Shun : Loc → Prop) (fr : Frame) (cs : List Frame) (w : World) (n : Nat), (∀ r, X r → Sq.prog.globals.size ≤ r) → ShX Shun X → W0.heap.size ≤ w.heap.size → (∀ r, X r → r < W0.heap.size → X0 r) → Sanes fr' c' →
    TopR Try.prog Sq.prog sts Mac fr fr' → All2 (FrR Try.prog sts Sq.prog) cs c' → Rel X v w → Gd v → (∀ r, X0 r → X r) → Kept X0 W0 w →
    ∀ gs sl t q, gs.size = n → gs[0]? = some (G fr (cs ++ baseP)) → Lv Try.prog 0 t gs q → Tr Shun 0 t → Wd Try.prog Q (crowd gs w sl) t
/-- All ends well where the frame at the bottom leaves. -/
def EndsAll : Prop := ∀ (X : Nat → Prop) (Shun : Loc → Prop) (fr fr' : Frame) (v w : World) (gs : Array Goroutine) (sl : Option (Nat × Nat)) (t : Trace) (q : Nat → Nat), ShX Shun X → FrR Try.prog sts Sq.prog fr fr' → fr.mode ≠ .run → fr.defers = [] → Rel X v w → Gd v → (∀ r, X0 r → X r) → (∀ r, X r → r < W0.heap.size → X0 r) → Kept X0 W0 w →
  Ends Sq.prog base R fr' [] v → gs[0]? = some (G fr baseP) → Lv Try.prog 0 t gs q → Tr Shun 0 t → Wd Try.prog Q (crowd gs w sl) t
end
variable {Q : Machine → Outcome → World → Trace → Prop} {base baseP : List Frame} {R : Frame → List Frame → World → Prop} {X0 : Nat → Prop} {W0 : World}
/-- Behind a call of serve. -/
theorem serve_left {X : Nat → Prop} (hgl0 : Sq.prog.globals.size ≤ W0.heap.size) (hXB : ∀ r, X r → r < W0.heap.size → X0 r) (h0X : ∀ r, X0 r → X r) (hR : ∀ fr c v, R fr c v → c = [] ∧ fr.mode = .returning ∧ fr.defers = []) (hR27 : ∀ fr c v, R fr c v → fr.fn ≠ 27) {kd : CallKind} (hk : kd = .normal ∨ kd = .deferred) {args : Array Value} {cs cs' : List Frame} {v : World} {Shun : Loc → Prop} {N n : Nat} (hX : ∀ r, X r → Sq.prog.globals.size ≤ r) (hN : W0.heap.size ≤ N) (hS : ShX Shun X)
    (hcs : All2 (FrR Try.prog sts Sq.prog) cs cs') (hsan : Sanes (Frame.enter Sq.prog 27 args kd) cs')
    (ih : ∀ fr1 c1 v1, Pth Sq.prog base R fr1 c1 v1 (Frame.enter Sq.prog 27 args kd) cs' v → Runs Q baseP X0 W0 fr1 c1 v1) {sA : Act} {sf : Nat → Value} (A : Act) (hsl : Sl sA sf) (hA : A.defers = []) :
    EndsWell Try.prog Q Shun N n (back (baseK 27 kd) A ops15 0 [] [] (cs ++ baseP)) (ZqK X0 W0 X N fun v' => ∃ x, Ends Sq.prog base R (((baseK 27 kd).at sA [.inRegion ops4 [0]]).finish x) cs' v' ∧ Pth Sq.prog base R (((baseK 27 kd).at sA [.inRegion ops4 [0]]).finish x) cs' v' (Frame.enter Sq.prog 27 args kd) cs' v) := by
  intro gs w sl t q hn h0 hz hT hL
  obtain ⟨⟨v', hrel, hg, x, hends, hpth⟩, hkk⟩ := hz
  obtain ⟨fn, hf, hb, _, hres⟩ := serve_at
  have hRm : ∀ fr c v, R fr c v → fr.mode ≠ .run := fun fr c v h => by rw [(hR fr c v h).2.1]; simp
  -- the one goroutine
  rw [Frame.finish_at] at hends hpth
  obtain ⟨sf1, s1⟩ : ∃ sf1, Sl (sA.put (((ops4[0]?).bind (·.dst))) x) sf1 := by
    obtain ⟨o, ho, hd⟩ : ∃ o, ops4[0]? = some o ∧ o.dst = some 13 := ⟨_, rfl, rfl⟩
    rw [ho, Option.bind_some, hd]
    exact ⟨_, hsl.put 13 x (by decide)⟩
  generalize (sA.put (((ops4[0]?).bind (·.dst))) x) = sB at hends hpth s1
  have g0 := Got.start hends
  have g1 := (g0.ctl hRm rfl stepG_region_end).ctl hRm rfl stepG_end
  obtain ⟨qa, c1, rfl⟩ : ∃ qa c1, cs' = qa :: c1 := by
    cases cs' with
    | cons qa c1 => exact ⟨qa, c1, rfl⟩
    | nil =>
      exfalso
      cases g1.ends with
      | stop h => exact hR27 _ _ _ h rfl
      | step f l u e hl hs hk =>
        rcases hl with hl | hl | hl
        · exact hl rfl
        · cases hl
        · exact hl s1.defers
  have g2 := g1.go (fun h => hR27 _ _ _ h rfl) (left_step (main := true) hf hres hk s1.defers qa (c1 ++ base) v')
  cases hcs with
  | @cons pa _ cs1 _ hpa hcs =>
  -- the program
  have hp : Pr Try.prog true AtRel (D1 (fun l => Shun l ∨ BoxB N l ∨ Grp N l)) (fun k a1 w1 => k = 0 ∧ a1 = G (left kd pa) (cs1 ++ baseP) ∧ AtRel w w1) 0 (back (baseK 27 kd) A ops15 0 [] [] ((pa :: cs1) ++ baseP)) w := by
    have hA' : (A.put ((ops15[0]?).bind (·.dst)) (.tuple #[])).defers = [] := by
      obtain ⟨o, ho, hd⟩ : ∃ o, ops15[0]? = some o ∧ o.dst = some 29 := ⟨_, rfl, rfl⟩
      rw [ho, Option.bind_some, hd]
      exact hA
    refine At.ctl rfl (fun _ => stepG_region_end) ?_
    refine At.ctl rfl (fun _ => stepG_end) ?_
    refine At.ctl rfl (fun w1 => left_step (p := Try.prog) (main := true) Try.func27 rfl hk hA' pa (cs1 ++ baseP) w1) ?_
    exact .stop fun w1 r1 => ⟨rfl, rfl, r1⟩
  refine solo_fin (D := D1 (fun l => Shun l ∨ BoxB N l ∨ Grp N l)) (n := n) (fun w w' es h => h) (fun k gs a w1 sl t q hn h0 hs hL hT => ?_) hp gs sl t q hn h0 hL hT
  obtain ⟨rfl, rfl, d, rfl⟩ := hs w1 (atRel_refl w1)
  have hN1 : N < w.heap.size := by
    have := (Array.getElem?_eq_some_iff.1 (hrel.pois N (.inr ⟨Nat.le_refl _, by omega⟩))).1
    have := hrel.size
    omega
  refine ih _ _ _ (IM.next (.inr hpth) ?_) (X5 X N) (fun l => Shun l ∨ BoxB N l ∨ Grp N l) (left kd pa) cs1 (w.at d) n (fun r hr => ?_) (shx5 hS) (by show _ ≤ w.heap.size; omega) (fun r hr hl => by
    rcases hr with hr | hr
    · exact hXB r hr hl
    · omega) ?_ (.plain (left_rel hpa)) hcs (rel_same hrel rfl (fun _ _ => rfl) rfl rfl) hg (fun r hr => .inl (h0X r hr)) hkk gs sl t q hn h0 hL hT
  · rcases g2.from_ with ⟨_, e, _⟩ | hp
    · exfalso
      have := congrArg List.length e
      simp at this
    · exact hp
  · rcases hr with hr | hr
    · exact hX r hr
    · omega
  · intro a ha
    rcases List.mem_cons.1 ha with rfl | ha
    · have h1 := hsan qa (by simp)
      unfold left
      split
      · have : (qa.finish (.tuple #[])).mode = qa.mode := by unfold Frame.finish; split <;> rfl
        rw [this]
        exact h1
      · exact sane_settle h1
    · exact hsan a (by simp [ha])
/-- ████ THE WHOLE. ████ -/
theorem all_runs (hgl0 : Sq.prog.globals.size ≤ W0.heap.size) (hR : ∀ fr c v, R fr c v → c = [] ∧ fr.mode = .returning ∧ fr.defers = []) (hR27 : ∀ fr c v, R fr c v → fr.fn ≠ 27) (hEnd : EndsAll Q base baseP R X0 W0) {fr' : Frame} {c' : List Frame} {v : World} (h : Ends Sq.prog base R fr' c' v) : Runs Q baseP X0 W0 fr' c' v := by
  refine ends_ind (M := Runs Q baseP X0 W0) (fun fr' c' v he ih => ?_) h
  intro X Shun fr cs w n hX hS hgl hXB hsan ht hcs hw hg h0X hk0 gs sl t q hn h0 hL hT
  have hp := main_pr (Rw := AtRel) (k := 0) (baseP := baseP) hX (fun w w1 h => by obtain ⟨d, rfl⟩ := h; exact ⟨.at w d, rfl⟩) (fun fr c v h => ⟨(hR fr c v h).1, by rw [(hR fr c v h).2.1]; simp, (hR fr c v h).2.2⟩) hsan he ht hcs hw hg
  have hp := hp.keep (F := fun w => W0.heap.size ≤ w.heap.size ∧ Kept X0 W0 w) (fun a b h r => by obtain ⟨d, rfl⟩ := r; exact h) (fun a b e h d => ⟨Nat.le_trans h.1 d.1.keeps.1, h.2.step fun r hr => d.1.keeps.2 r (h0X r hr)⟩) ⟨hgl, hk0⟩
  refine solo_fin (n := n) (fun w w' es h e he => ev_es hS (h.2 e he)) (fun k gs a w1 sl t q hn h0 hs hL hT => ?_) hp gs sl t q hn h0 hL hT
  obtain ⟨hst, hgl1, hk1⟩ := hs w1 (atRel_refl w1)
  cases hst with
  | leaves hk hfr hm hd hI hrel hgv hends =>
    subst hk
    exact hEnd X Shun _ _ _ w1 gs sl t q hS hfr hm hd hrel hgv h0X hXB hk1 hends h0 hL hT
  | @enters f args kd cs1 cs1' v1 _ hk hf hkd hI hcs1 hrel hgv hends =>
    subst hk hf
    rw [List.append_nil] at hends
    refine serve_runs (n := n) h0X hkd hX hS hR hends (frr_owns hcs1) hI.1 hrel hgv (Nat.le_trans hgl0 hgl1) hk1 (fun sA sf A hsl hA => ?_) gs sl t q hn h0 hL hT
    exact serve_left hgl0 hXB h0X hR hR27 hkd hX hgl1 hS hcs1 hI.1 (fun fr1 c1 v1 hp => ih _ _ _ (IM.next hI.2 hp)) A hsl hA
end
end Go.Proofs.Ytdlnlcjmjgbikaa
