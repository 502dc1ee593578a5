/- The worker's end: Done. -/
import Derived.Test.YtdlnlcjmjgbikaaRr
namespace Go.Proofs.Ytdlnlcjmjgbikaa
open Go Go.Conc
open Go.ConcX (WgAt KK stA smA DC0)

/-- The group's places, and the channel. -/
def Grp (N : Nat) (l : Loc) : Prop := (∃ a : Addr, l = .cell a ∧ a.block = N + 3) ∨ l = .obj (N + 1)
/-- What the child may list. -/
def EC (Shun Box : Loc → Prop) (N : Nat) (e : Event) : Prop :=
  (∀ x, (MemAct.ofEvent e).touch? = some x → (¬ Box x.loc ∧ ¬ Grp N x.loc ∧ (Shun x.loc → x.kind ≠ .plain)) ∨ (Box x.loc ∧ x.write = false) ∨ (Grp N x.loc ∧ x.kind = .atomic)) ∧ MemAct.ofEvent e ≠ .mark (.release (stA (N + 3)))
@[reducible] def shyC (N : Nat) (Shun Box : Loc → Prop) (hC : ∀ a : Addr, a.block = N + 4 → ¬ Shun (.cell a) ∧ ¬ Box (.cell a)) : Go.ConcX.Shy (N + 3) (N + 4) where
  ok act := ∀ x, act.touch? = some x → (∃ a : Addr, x.loc = .cell a ∧ a.block = N + 3) ∨ (¬ Box x.loc ∧ ¬ Grp N x.loc ∧ (Shun x.loc → x.kind ≠ .plain)) ∨ (Box x.loc ∧ x.write = false) ∨ (Grp N x.loc ∧ x.kind = .atomic)
  atomicWg a wr ha x hx := by cases hx; exact .inl ⟨a, rfl, ha⟩
  readWg a ha x hx := by cases hx; exact .inl ⟨a, rfl, ha⟩
  writeWg a ha x hx := by cases hx; exact .inl ⟨a, rfl, ha⟩
  theirs a wr ha x hx := by
    cases hx
    refine .inr (.inl ⟨(hC a ha).2, ?_, fun hs => absurd hs (hC a ha).1⟩)
    rintro (⟨a', e, h⟩ | e)
    · cases e; omega
    · cases e
  disable x hx := by cases hx
  enable x hx := by cases hx
  relMerge x hx := by cases hx
  acquire x hx := by cases hx
  go1 x hx := by cases hx
  start x hx := by cases hx
  stop _ _ := False
/-- The child's steps ahead of its release. -/
def Dd (Shun Box : Loc → Prop) (N : Nat) (w w' : World) (es : Array Event) : Prop := Go.Conc.Aside (N + 4) w w' ∧ ∀ e ∈ es, EC Shun Box N e
noncomputable section
theorem done_enter (x : Value) : Frame.enter Try.prog 45 #[x] .deferred = (Go.Conc.baseD 45).at ⟨#[x, undef, undef, undef], []⟩ [.code (Go.ConcX.Gen.body_done lnk)] := by
  simp [Frame.enter, Frame.at, wgLib.f_done, Go.Conc.baseD]
  exact ⟨rfl, rfl⟩
theorem tail_quits {A : Act} (hA : A.defers = []) : QuitsD Try.prog 2 0 (G { (baseK 44 .deferred).at A [] with mode := .returning } [bornF]) := by
  refine QuitsD.ctl (g' := G bornF []) rfl (fun w => ?_) ?_
  · simp [G, stepG, unwind, doReturn, results, Frame.at, bornF, hA, Try.func44, Try.f44, seen, GStep.after, goexitEntry]
  refine QuitsD.ctl (g' := { G bornF [] with status := .finished }) rfl (fun w => ?_) ⟨rfl, rfl⟩
  simp [G, stepG, unwind, bornF, goexitEntry, Frame.catches]
  rfl
/-- Its type of cells. -/
@[reducible] def pay : Go.ConcX.Payload := ⟨3⟩
variable {Shun Box : Loc → Prop} {N : Nat} {R : World → World → Prop}
/-- To the release. -/
theorem worker_done (hC : ∀ a : Addr, a.block = N + 4 → ¬ Shun (.cell a) ∧ ¬ Box (.cell a)) {A : Act} (hA : A.defers = [dcall 45 #[.pointer (some ⟨N + 3, 0, none⟩)]]) {w : World}
    (hR : ∀ w w1, R w w1 → Go.ConcX.RCa 103 (N + 3) (N + 5) w w1) (hK : ∀ w1, R w w1 → Go.ConcX.KCa 103 (N + 3) w1 ∧ w1.heap[N + 4]? = some (.cells #[.int .i64 0] 3)) :
    letI := pay
    letI := shyC N Shun Box hC
    Pr Try.prog false R (Dd Shun Box N) (fun k a w => k = 0 ∧ Go.ConcX.AtR0 Try.prog 103 (N + 3) (N + 4) (N + 5) [.int .i64 0] a w) 0 (G { (baseK 44 .deferred).at A [] with mode := .returning } [bornF]) w := by
  letI := pay
  letI := shyC N Shun Box hC
  have step : ∀ w, stepG Try.prog false (G { (baseK 44 .deferred).at A [] with mode := .returning } [bornF]) w = .go (G (Frame.enter Try.prog 45 #[.pointer (some ⟨N + 3, 0, none⟩)] .deferred) [{ (baseK 44 .deferred).at ⟨A.tmps, []⟩ [] with mode := .returning }, bornF]) w #[] := by
    intro w
    have h1 := unwind_defer (p := Try.prog) (fn := 44) (tmps := A.tmps) (todo := []) (d := dcall 45 #[.pointer (some ⟨N + 3, 0, none⟩)]) (defers := []) (m := .returning) (kind := .deferred) (cs := [bornF]) (w := w) false rfl rfl
    have h2 := deferred_eq (p := Try.prog) (fn := 44) (tmps := A.tmps) (todo := []) (d := dcall 45 #[.pointer (some ⟨N + 3, 0, none⟩)]) (defers := []) (m := .returning) (kind := .deferred) (cs := [bornF]) (w := w) rfl rfl
      (.ok (.enter 45 #[.pointer (some ⟨N + 3, 0, none⟩)]) w) (es := #[]) (call_enter Try.func45 (by decide) rfl _ w #[]) trivial (fun _ _ e => by cases e; trivial)
    rw [show ({ (baseK 44 .deferred).at A [] with mode := .returning } : Frame) = ⟨44, A.tmps, [], [dcall 45 #[.pointer (some ⟨N + 3, 0, none⟩)]], .returning, .deferred, none⟩ from by simp [Frame.at, hA]]
    refine (h1.trans h2).trans ?_
    simp only [dOut, Go.Conc.seen_none]
    rfl
  have hD : ∀ a b e, Go.ConcX.DCs (fun _ => False) (N + 3) (N + 4) a b e → Dd Shun Box N a b e ∧ ∀ k, deafBehind k e = k := by
    intro a b es ⟨h1, he⟩
    refine ⟨⟨h1, fun e hm => ?_⟩, fun k => deafBehind_still (fun e hm => ⟨(he e hm).2.1, (he e hm).2.2.1⟩) k⟩
    obtain ⟨_, h2, h3, h4⟩ := (he e hm).1 0 ""
    refine ⟨fun x hx => ?_, h3⟩
    rcases h4 x hx with ⟨ad, hl, hb⟩ | h
    · refine .inr (.inr ⟨.inl ⟨ad, hl, hb⟩, ?_⟩)
      obtain ⟨_, h5, _⟩ := h2 x hx
      obtain ⟨h6, h7⟩ := h5 (.inl ⟨ad, hl, hb⟩)
      cases hk : x.kind with
      | plain => exact absurd hk h6
      | said => exact absurd (h7 hk) (by decide)
      | atomic => rfl
    · exact h
  refine Pr.mk rfl fun w1 h1 => ⟨_, w1, #[], step w1, ⟨.refl _ _, by simp⟩, ?_⟩
  rw [show deafBehind 0 #[] = 0 from rfl, done_enter]
  obtain ⟨k1, k2⟩ := hK w1 h1
  have hg := @Go.ConcX.Gen.doneD pay lnk Try.prog wgLib (fun _ => False) (N + 3) (N + 4) (N + 5) (shyC N Shun Box hC) [.int .i64 0] (by omega) (by omega) (by omega) { (baseK 44 .deferred).at ⟨A.tmps, []⟩ [] with mode := .returning } [bornF] 2 rfl (tail_quits rfl) w1 ⟨k1, fun _ => k2⟩
  exact goes_pr (R' := R) hR hD hg
end
end Go.Proofs.Ytdlnlcjmjgbikaa
/- The list in company, step by step. -/
namespace Go.Proofs.Ytdlnlcjmjgbikaa
open Go Go.Conc
open Go.ConcX (WgAt KK stA smA DC0)

/-- What goroutine 0 may list in company. -/
def E0 (Box : Loc → Prop) (N : Nat) (e : Event) : Prop :=
  (∀ x, (MemAct.ofEvent e).touch? = some x → (Box x.loc ∧ x.write = false) ∨ (Grp N x.loc ∧ x.kind ≠ .plain)) ∧ MemAct.ofEvent e ≠ .mark (.release (stA (N + 3)))
/-- The list, ahead of the release. -/
structure T1 (Shun Box : Loc → Prop) (N c p k kc : Nat) (t : Trace) : Prop where
  co : Co Shun Box (Grp N) (stA (N + 3)) c p t
  k0 : Deaf t 0 = k
  kc : Deaf t c = kc
/-- The list, behind the release. -/
structure T3 (Shun Box : Loc → Prop) (N c p k kc : Nat) (t : Trace) : Prop where
  t1 : T1 Shun Box N c p k kc t
  rel : ∃ r, Go.ConcN.RelBy (stA (N + 3)) t c r ∧ p ≤ r ∧ ∀ i op, r < i → t[i]? = some op → op.g = c → ∀ x, op.act.touch? = some x → Grp N x.loc ∧ x.kind = .atomic
section
variable {Shun Box : Loc → Prop} {N c p k kc : Nat} {t : Trace} {fn : FuncId} {pos : String} {es : Array Event}
theorem T1.own0 (F : Far Shun Box (Grp N)) (hc : c ≠ 0) (h : T1 Shun Box N c p k kc t) (he : ∀ e ∈ es, E0 Box N e) : T1 Shun Box N c p (deafBehind k es) kc (t ++ MemOp.ofEvents 0 fn pos es) := by
  refine ⟨h.co.app F hc (g := 0) (.inl rfl) fun op hop => ?_, by rw [Deaf_own, h.k0], by rw [Deaf_other t (g' := 0) (Ne.symm hc) _ ofEvents_g]; exact h.kc⟩
  obtain ⟨e, hm, rfl⟩ := Go.Conc.mem_ofEvents hop
  exact ⟨rfl, fun _ => (he e hm).1, fun e => absurd e (Ne.symm hc), (he e hm).2⟩
theorem T1.ownC (F : Far Shun Box (Grp N)) (hc : c ≠ 0) (h : T1 Shun Box N c p k kc t) (he : ∀ e ∈ es, EC Shun Box N e) : T1 Shun Box N c p k (deafBehind kc es) (t ++ MemOp.ofEvents c fn pos es) := by
  refine ⟨h.co.app F hc (g := c) (.inr rfl) fun op hop => ?_, by rw [Deaf_other t (g' := c) hc _ ofEvents_g]; exact h.k0, by rw [Deaf_own, h.kc]⟩
  obtain ⟨e, hm, rfl⟩ := Go.Conc.mem_ofEvents hop
  exact ⟨rfl, fun e => absurd e hc, fun _ => (he e hm).1, (he e hm).2⟩
theorem slip_rel {ops : Trace} {a : Addr} (hs : Slip c ops) : ∀ op ∈ ops, op.act.touch? = none ∧ op.act ≠ .mark (.release a) := by
  intro op hop
  refine ⟨hs.touch op hop, ?_⟩
  obtain ⟨i, fn, pos, es, h0, hc, rfl, hm⟩ := hs
  obtain ⟨e, he, rfl⟩ := Go.Conc.mem_ofEvents hop
  have := hm e he
  obtain ⟨l, x, y⟩ := e
  rintro e2
  cases l with
  | mark m =>
    cases e2
    cases this
  | obj r => cases x <;> cases y <;> cases e2
  | _ => cases e2
theorem T1.slip (h : T1 Shun Box N c p k kc t) {ops : Trace} (hs : Slip c ops) : T1 Shun Box N c p k kc (t ++ ops) :=
  ⟨h.co.mute (slip_rel hs), (hs.deaf t 0 (.inl rfl)).trans h.k0, (hs.deaf t c (.inr rfl)).trans h.kc⟩
/-- What is not the child's. -/
theorem T3.other (h : T3 Shun Box N c p k kc t) {k' kc' : Nat} {u : Trace} (h1 : T1 Shun Box N c p k' kc' (t ++ u)) (hu : ∀ op ∈ u, op.g ≠ c) : T3 Shun Box N c p k' kc' (t ++ u) := by
  obtain ⟨r, h2, h3, h4⟩ := h.rel
  refine ⟨h1, r, h2.app fun i hi hg => ?_, h3, fun i op hi ho hg => ?_⟩
  · exfalso
    obtain ⟨op, ho, e⟩ := Option.map_eq_some_iff.1 hg
    rcases getElem?_append_cases ho with ⟨hl, _⟩ | ⟨_, hm⟩
    · omega
    · exact hu op hm e
  · rcases getElem?_append_cases ho with ⟨_, ho'⟩ | ⟨_, hm⟩
    · exact h4 i op hi ho' hg
    · exact absurd hg (hu op hm)
theorem T3.own0 (F : Far Shun Box (Grp N)) (hc : c ≠ 0) (h : T3 Shun Box N c p k kc t) (he : ∀ e ∈ es, E0 Box N e) : T3 Shun Box N c p (deafBehind k es) kc (t ++ MemOp.ofEvents 0 fn pos es) :=
  h.other (h.t1.own0 F hc he) fun op hop => by rw [ofEvents_g op hop]; exact Ne.symm hc
theorem T3.slip (h : T3 Shun Box N c p k kc t) {ops : Trace} (hs : Slip c ops) : T3 Shun Box N c p k kc (t ++ ops) :=
  h.other (h.t1.slip hs) fun op hop => (hs.g0 op hop).2
/-- The child's, that touch nothing. -/
theorem T3.muteC (F : Far Shun Box (Grp N)) (hc : c ≠ 0) (h : T3 Shun Box N c p k kc t) (he : ∀ e ∈ es, (MemAct.ofEvent e).touch? = none ∧ MemAct.ofEvent e ≠ .mark (.release (stA (N + 3)))) : T3 Shun Box N c p k (deafBehind kc es) (t ++ MemOp.ofEvents c fn pos es) := by
  obtain ⟨r, h2, h3, h4⟩ := h.rel
  have hn : ∀ op ∈ MemOp.ofEvents c fn pos es, op.act.touch? = none := fun op hop => by
    obtain ⟨e, hm, rfl⟩ := Go.Conc.mem_ofEvents hop
    exact (he e hm).1
  refine ⟨h.t1.ownC F hc fun e hm => ⟨fun x hx => (by rw [(he e hm).1] at hx; cases hx), (he e hm).2⟩, r, h2.app fun i hi hg hcn => ?_, h3, fun i op hi ho hg x hx => ?_⟩
  · obtain ⟨x, hx, _⟩ := hcn
    obtain ⟨op, ho, hox⟩ := touch_of hx
    rcases getElem?_append_cases ho with ⟨hl, _⟩ | ⟨_, hm⟩
    · omega
    · rw [hn op hm] at hox; cases hox
  · rcases getElem?_append_cases ho with ⟨_, ho'⟩ | ⟨_, hm⟩
    · exact h4 i op hi ho' hg x hx
    · rw [hn op hm] at hx; cases hx
theorem deaf_in (t u : Trace) (g : Nat) (hu : ∀ op ∈ u, op.act ≠ .mark .disable ∧ op.act ≠ .mark .enable) (j : Nat) (hj : j ≤ u.size) : (t ++ u).deaf g (t.size + j) = Deaf t g := by
  have e : u = (u.toList.take j).toArray ++ (u.toList.drop j).toArray := by simp
  have h := deaf_at t (u.toList.take j).toArray (u.toList.drop j).toArray g fun op hop => hu op (by rw [e]; exact Array.mem_append_left _ hop)
  rw [Array.append_assoc, ← e] at h
  rwa [show (u.toList.take j).toArray.size = j by simp; omega] at h
/-- The child's atomic steps, deaf. -/
theorem T3.deafC (F : Far Shun Box (Grp N)) (hc : c ≠ 0) (h : T3 Shun Box N c p k (kc + 1) t) {y : Bool} {a : Addr} (ha : a.block = N + 3) (b2 : Option Bool) (he : es = (match b2 with
      | none => #[⟨.cell a, y, true⟩]
      | some z => #[⟨.cell a, y, true⟩, ⟨.cell a, z, true⟩])) : T3 Shun Box N c p k (kc + 1) (t ++ MemOp.ofEvents c fn pos es) := by
  obtain ⟨r, h2, h3, h4⟩ := h.rel
  have hE : ∀ e ∈ es, ∃ z, e = ⟨.cell a, z, true⟩ := by
    intro e hm
    rw [he] at hm
    cases b2 with
    | none => simp at hm; exact ⟨_, hm⟩
    | some z => simp at hm; rcases hm with rfl | rfl <;> exact ⟨_, rfl⟩
  have hd : deafBehind (kc + 1) es = kc + 1 := deafBehind_still (fun e hm => by obtain ⟨z, rfl⟩ := hE e hm; simp) _
  have ht : ∀ e ∈ es, ∀ x, (MemAct.ofEvent e).touch? = some x → Grp N x.loc ∧ x.kind = .atomic := by
    intro e hm x hx
    obtain ⟨z, rfl⟩ := hE e hm
    cases hx
    exact ⟨.inl ⟨a, rfl, ha⟩, rfl⟩
  have h1 := h.t1.ownC (fn := fn) (pos := pos) F hc (es := es) fun e hm => ⟨fun x hx => .inr (.inr (ht e hm x hx)), by obtain ⟨z, rfl⟩ := hE e hm; simp [MemAct.ofEvent]⟩
  rw [hd] at h1
  refine ⟨h1, r, h2.app fun i hi hg hcn => ?_, h3, fun i op hi ho hg x hx => ?_⟩
  · obtain ⟨x, hx, _, hk⟩ := hcn
    obtain ⟨op, ho, hox⟩ := touch_of hx
    rcases getElem?_append_cases ho with ⟨hl, _⟩ | ⟨_, hm⟩
    · omega
    · obtain ⟨e, hme, rfl⟩ := Go.Conc.mem_ofEvents hm
      rcases hk with hk | ⟨g, hg', hz⟩
      · exact hk (ht e hme x hox).2
      · rw [hg] at hg'
        cases hg'
        have hlt : i < t.size + (MemOp.ofEvents c fn pos es).size := by
          have := lt_size_of_getElem? ho
          simpa using this
        have e1 := deaf_in t (MemOp.ofEvents c fn pos es) c (fun op hop => by
          obtain ⟨e, hm, rfl⟩ := Go.Conc.mem_ofEvents hop
          obtain ⟨z, rfl⟩ := hE e hm
          simp [MemAct.ofEvent]) (i - t.size) (by omega)
        rw [show t.size + (i - t.size) = i by omega, h.t1.kc] at e1
        omega
  · rcases getElem?_append_cases ho with ⟨_, ho'⟩ | ⟨_, hm⟩
    · exact h4 i op hi ho' hg x hx
    · obtain ⟨e, hme, rfl⟩ := Go.Conc.mem_ofEvents hm
      exact ht e hme x hx
end
end Go.Proofs.Ytdlnlcjmjgbikaa
/- Two goroutines walk side by side, and something of the world is kept. -/
namespace Go.Proofs.Ytdlnlcjmjgbikaa
open Go Go.Conc
open Go.ConcN (sumTo upd sumTo_upd upd_ne upd_same)

section
variable {P : Program} {Q : Machine → Outcome → World → Trace → Prop} {c n : Nat} {T : Nat → Nat → Trace → Prop}
variable {R0 Rc : World → World → Prop} {D0 Dc : World → World → Array Event → Prop} {Stop0 Stopc : Nat → Goroutine → World → Prop}
/-- What is asked of the two walks. -/
structure Duo2 (P : Program) (c : Nat) (T : Nat → Nat → Trace → Prop) (I : World → Prop) (R0 Rc : World → World → Prop) (D0 Dc : World → World → Array Event → Prop) (Stop0 Stopc : Nat → Goroutine → World → Prop) : Prop where
  pos : c ≠ 0
  at0 : ∀ w d, R0 w (w.at d)
  atc : ∀ w d, Rc w (w.at d)
  trans0 : ∀ a b c, R0 a b → R0 b c → R0 a c
  transc : ∀ a b c, Rc a b → Rc b c → Rc a c
  lets0 : ∀ w w' es, D0 w w' es → Rc w w'
  letsc : ∀ w w' es, Dc w w' es → R0 w w'
  t0 : ∀ k kc t w w' es fn pos, T k kc t → D0 w w' es → T (deafBehind k es) kc (t ++ MemOp.ofEvents 0 fn pos es)
  tc : ∀ k kc t w w' es fn pos, T k kc t → Dc w w' es → T k (deafBehind kc es) (t ++ MemOp.ofEvents c fn pos es)
  ts : ∀ k kc t ops, T k kc t → Slip c ops → T k kc (t ++ ops)
  st0 : ∀ k a w, Stop0 k a w → Stands P a w
  stc : ∀ k a w, Stopc k a w → Stands P a w
  live : ∀ k a w k' b, Stop0 k a w → Stopc k' b w → a.status = .running ∨ b.status = .running
  iat : ∀ w d, I w → I (w.at d)
  i0 : ∀ w w' es, I w → D0 w w' es → I w'
  ic : ∀ w w' es, I w → Dc w w' es → I w'

/-- The two walk to where they stop, and on from there. -/
theorem duo2_fin {I : World → Prop} (H : Duo2 P c T I R0 Rc D0 Dc Stop0 Stopc)
    (h0 : ∀ k kc gs a b w sl t q, I w → gs.size = n → gs[0]? = some a → gs[c]? = some b → (∀ w1, R0 w w1 → Stop0 k a w1) → a.status = .running → Pr P false Rc Dc Stopc kc b w → Lv P c t gs q → T k kc t → ∃ m' ops, runT P (crowd gs w sl) 0 = (.next m', ops) ∧ Wd P Q m' (t ++ ops))
    (hc : ∀ k kc gs a b w sl t q, I w → gs.size = n → gs[0]? = some a → gs[c]? = some b → (∀ w1, Rc w w1 → Stopc kc b w1) → b.status = .running → Pr P true R0 D0 Stop0 k a w → Lv P c t gs q → T k kc t → ∃ m' ops, runT P (crowd gs w sl) c = (.next m', ops) ∧ Wd P Q m' (t ++ ops))
    {k : Nat} {a : Goroutine} {w : World} (ha : Pr P true R0 D0 Stop0 k a w) :
    ∀ w0, R0 w w0 → I w0 → ∀ kc b, Pr P false Rc Dc Stopc kc b w0 → ∀ gs sl t q, gs.size = n → gs[0]? = some a → gs[c]? = some b → Lv P c t gs q → T k kc t → Wd P Q (crowd gs w0 sl) t := by
  have hpos := H.pos
  have self0 : ∀ w, R0 w w := fun w => by have := H.at0 w w.drawn; rwa [at_self] at this
  have selfc : ∀ w, Rc w w := fun w => by have := H.atc w w.drawn; rwa [at_self] at this
  have cne : (c == 0) = false := by simpa using hpos
  -- the child's walk, where goroutine 0's next step is in hand
  have inner : ∀ {k : Nat} {a : Goroutine} {w : World}, Pr P true R0 D0 Stop0 k a w →
      (∀ w1, R0 w w1 → I w1 → a.status = .running → ∀ kc b, Pr P false Rc Dc Stopc kc b w1 → ∀ gs sl t q, gs.size = n → gs[0]? = some a → gs[c]? = some b → Lv P c t gs q → T k kc t → ∃ m' ops, runT P (crowd gs w1 sl) 0 = (.next m', ops) ∧ Wd P Q m' (t ++ ops)) →
      ∀ {kc : Nat} {b : Goroutine} {wb : World}, Pr P false Rc Dc Stopc kc b wb → ∀ w1, Rc wb w1 → R0 w w1 → I w1 → ∀ gs sl t q, gs.size = n → gs[0]? = some a → gs[c]? = some b → Lv P c t gs q → T k kc t → Wd P Q (crowd gs w1 sl) t := by
    intro k a w ha hm kc b wb hb
    induction hb with
    | stop hs =>
      rename_i kc b wb
      intro w1 hc1 h01 hI1 gs sl t q hn g0 gc hL hT
      have hb' : Pr P false Rc Dc Stopc kc b w1 := Pr.rely H.transc (.stop hs) hc1
      have ha' := Pr.rely H.trans0 ha h01
      refine duo_lay (w := w1) H.ts ((ha'.stands H.at0 H.st0).imp id fun h => ⟨h.1, fun g g' d => h.2.2 g g' _ (H.at0 _ _)⟩) ((hb'.stands H.atc H.stc).imp id fun h => ⟨h.1, fun g g' d => h.2.2 g g' _ (H.atc _ _)⟩) ?_
        (fun hr d gs sl t q hn g0 gc hL hT => hm (w1.at d) (H.trans0 _ _ _ h01 (H.at0 _ _)) (H.iat _ _ hI1) hr kc b (hb'.rely H.transc (H.atc _ _)) gs sl t q hn g0 gc hL hT)
        (fun hr d gs sl t q hn g0 gc hL hT => hc k kc gs a b (w1.at d) sl t q (H.iat _ _ hI1) hn g0 gc (fun w2 h2 => hs w2 (H.transc _ _ _ (H.transc _ _ _ hc1 (H.atc _ d)) h2)) hr (ha'.rely H.trans0 (H.at0 _ _)) hL hT)
        _ gs w1.drawn sl t q (Nat.le_refl _) hn g0 gc hL hT
      rcases ha'.stands H.at0 H.st0 with h | ⟨_, h, _⟩
      · exact .inl h
      · exact H.live _ _ _ _ _ (h w1 (self0 w1)) (hs w1 hc1)
    | step f u e hr hs hd hk ih =>
      rename_i kc b wb
      intro w1 hc1 h01 hI1 gs sl t q hn g0 gc hL hT
      have hb' : Pr P false Rc Dc Stopc kc b w1 := Pr.rely H.transc (.step f u e hr hs hd hk) hc1
      have ha' := Pr.rely H.trans0 ha h01
      refine duo_lay (w := w1) H.ts ((ha'.stands H.at0 H.st0).imp id fun h => ⟨h.1, fun g g' d => h.2.2 g g' _ (H.at0 _ _)⟩) (.inl hr) (.inr hr)
        (fun hr d gs sl t q hn g0 gc hL hT => hm (w1.at d) (H.trans0 _ _ _ h01 (H.at0 _ _)) (H.iat _ _ hI1) hr kc b (hb'.rely H.transc (H.atc _ _)) gs sl t q hn g0 gc hL hT)
        (fun _ d gs sl t q hn g0 gc hL hT => ?_)
        _ gs w1.drawn sl t q (Nat.le_refl _) hn g0 gc hL hT
      have hcd := H.transc _ _ _ hc1 (H.atc w1 d)
      have h0d := H.trans0 _ _ _ (H.trans0 _ _ _ h01 (H.at0 w1 d)) (H.letsc _ _ _ (hd _ hcd))
      have hcl : c < gs.size := (Array.getElem?_eq_some_iff.1 gc).1
      obtain ⟨gs', r1, r2, r3, r4, r5⟩ := crowd_act (i := c) (c := c) (sl := sl) gc (.inr rfl) (by rw [cne]; exact hs _ hcd) hL hcl
      refine ⟨_, _, r1, ih _ hcd _ (selfc _) h0d (H.ic _ _ _ (H.iat _ _ hI1) (hd _ hcd)) gs' sl _ q (r2.trans hn) ?_ r3 r5 (H.tc _ _ _ _ _ _ _ _ hT (hd _ hcd))⟩
      rw [r4 0 a (Ne.symm hpos) g0, ha.woken_eq H.at0 H.st0 h0d]
  induction ha with
  | stop hs =>
    intro w0 hw0 hI0 kc b hb
    refine inner (.stop hs) ?_ hb w0 (selfc _) hw0 hI0
    intro w1 h1 hI1 hr kc b hb gs sl t q hn g0 gc hL hT
    exact h0 _ kc gs _ b w1 sl t q hI1 hn g0 gc (fun w2 h2 => hs w2 (H.trans0 _ _ _ h1 h2)) hr hb hL hT
  | step f u e hr hs hd hk ih =>
    rename_i k a w
    intro w0 hw0 hI0 kc b hb
    refine inner (.step f u e hr hs hd hk) ?_ hb w0 (selfc _) hw0 hI0
    intro w1 h1 hI1 _ kc b hb gs sl t q hn g0 gc hL hT
    have hcl : c < gs.size := (Array.getElem?_eq_some_iff.1 gc).1
    obtain ⟨gs', r1, r2, r3, r4, r5⟩ := crowd_act (i := 0) (c := c) (sl := sl) g0 (.inl rfl) (hs _ h1) hL hcl
    have hcu := H.lets0 _ _ _ (hd _ h1)
    refine ⟨_, _, r1, ih _ h1 _ (self0 _) (H.i0 _ _ _ hI1 (hd _ h1)) kc b (hb.rely H.transc hcu) gs' sl _ q (r2.trans hn) r3 ?_ r5 (H.t0 _ _ _ _ _ _ _ _ hT (hd _ h1))⟩
    rw [r4 c b hpos gc, hb.woken_eq H.atc H.stc hcu]
end
end Go.Proofs.Ytdlnlcjmjgbikaa
