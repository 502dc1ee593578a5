/- Lock and Unlock, in one goroutine: the store, and out. -/
import Derived.Test.YtdlnlcjmjgbikaaQt
namespace Go.Proofs.Ytdlnlcjmjgbikaa
open Go Go.Conc

noncomputable section
variable {base : List Frame} {R : Frame → List Frame → World → Prop}
/-- An operation that gives nothing, or at which the run ends. -/
theorem Got.operU {fr0 : Frame} {c0 c : List Frame} {v0 v : World} {b : Frame} {a : Act} {ops : Array Oper} {i : Nat} {rest : List Nat} {k : List Item} {o : Oper} {r : Result Unit} {s : Sem Unit} (hk : b.kind ≠ .early) (hR : ∀ fr c v, R fr c v → fr.mode ≠ .run)
    (h : Got Sq.prog base R fr0 c0 v0 (b.at a (.inRegion ops (i :: rest) :: k)) c v) (ho : ops[i]? = some o) (hgd : o.guard = none) (hs : execOp a.eval o = s >>= fun _ => pure .skip) (hr : s.run Sq.prog v = r) :
    (∃ x v1, r = .ok x v1 ∧ Got Sq.prog base R fr0 c0 v0 (b.at (a.put o.dst undef) (.inRegion ops rest :: k)) c v1) ∨ ∃ h v1, r = .halt h v1 ∧ ¬ Hard h := by
  have hw : Region.wanted o (yielded ops a.tmps) = true := by simp [Region.wanted, hgd]
  have hn : ¬ R (b.at a (.inRegion ops (i :: rest) :: k)) c v := fun h => hR _ _ _ h rfl
  cases hr' : s.run Sq.prog v with
  | ok x v1 =>
    refine .inl ⟨x, v1, hr.symm.trans hr', h.go hn (stepG_none ho hw hk ?_)⟩
    rw [hs, Sem.run_bind, hr']
    simp only [Result.andThen, Sem.run_pure]
  | halt hh v1 =>
    refine .inr ⟨hh, v1, hr.symm.trans hr', fun hard => ?_⟩
    have hrun : (execOp a.eval o).runT Sq.prog v #[] = (.halt hh v1, (execOp a.eval o).events Sq.prog v #[]) := by
      rw [Sem.runT_eq, hs, Sem.run_bind, hr']
      simp only [Result.andThen]
    have e := stepG_oper (P := Sq.prog) (main := true) (b := b) (a := a) (rest := rest) (k := k) (cs := c ++ base) (w := v) ho hw
    rcases hard with ⟨m, rfl⟩ | ⟨u, rfl⟩
    · obtain ⟨o', w2, es2, e2⟩ := apply_stuck (fn := b.fn) (tmps := a.tmps) (ops := ops) (i := i) (rest := rest) (k := k) (defers := a.defers) (kind := b.kind) (cs := c ++ base) hrun
      exact h.alive hn (e.trans e2)
    · obtain ⟨o', w2, es2, e2⟩ := apply_unsupported (fn := b.fn) (tmps := a.tmps) (ops := ops) (i := i) (rest := rest) (k := k) (defers := a.defers) (kind := b.kind) (cs := c ++ base) sq_bodies hrun
      exact h.alive hn (e.trans e2)
theorem store_run (p : Addr) (y : Int) (z : Value) (v : World) (hc : v.cell? p = some z) : (v.frozen? p = false ∧ (Instr.storeAt 21 (.pointer (some p)) (.int .i32 y)).run Sq.prog v = .ok () (v.setCell p (.int .i32 y))) ∨
    ∃ h, Hard h ∧ (Instr.storeAt 21 (.pointer (some p)) (.int .i32 y)).run Sq.prog v = .halt h v := by
  cases hf : v.frozen? p with
  | false =>
    refine .inl ⟨rfl, ?_⟩
    simp [Instr.storeAt, Instr.sureAddr, storeVar, storeCells, Value.cells, Result.andThen, Addr.add, store, Sem.run, hc, hf]
  | true =>
    refine .inr ⟨.unsupported (.unsafePointer "a write to bytes that a string shares"), .inr ⟨_, rfl⟩, ?_⟩
    simp [Instr.storeAt, Instr.sureAddr, storeVar, storeCells, Value.cells, Result.andThen, Addr.add, store, Sem.run, hc, hf]
/-- What a mutex' function comes to. -/
theorem mu_end (y : Int) {b : Frame} (hk : b.kind ≠ .early) (hR : ∀ fr c v, R fr c v → fr.mode ≠ .run) {T1 : Array Value} (hT : 5 < T1.size) {p : Addr} (e4 : T1.getD 4 undef = .pointer (some p)) {fr0 : Frame} {c0 c : List Frame} {v0 v : World} {z : Value} (hc : v.cell? p = some z)
    (h : Got Sq.prog base R fr0 c0 v0 (b.at ⟨T1.setIfInBounds 5 (.bool true), []⟩ [.code (.region 1 #[opq 0 none (.store 21 (.tmp 4) (.const (.int .i32 y))) 0, opq 1 (some 5) (.move (.const (.tuple #[]))) 0] false)]) c v) :
    v.frozen? p = false ∧ Got Sq.prog base R fr0 c0 v0 { b.at ⟨T1.setIfInBounds 5 (.tuple #[]), []⟩ [] with mode := .returning } c (v.setCell p (.int .i32 y)) := by
  have h1 := h.ctl hR rfl stepG_region
  have e5 : Act.eval ⟨T1.setIfInBounds 5 (.bool true), []⟩ (.tmp 4) = .pointer (some p) := (put_get T1 5 _ [] 4 hT).trans (show (if 5 = 4 then _ else Act.eval ⟨T1, []⟩ (.tmp 4)) = _ by rw [if_neg (by omega)]; exact e4)
  rcases h1.operU (i := 0) (rest := [1]) hk hR rfl rfl (s := Instr.storeAt 21 (.pointer (some p)) (.int .i32 y)) ((rfl : _ = (Instr.storeAt 21 (Act.eval ⟨T1.setIfInBounds 5 (.bool true), []⟩ (.tmp 4)) (.int .i32 y) >>= fun _ => pure Next.skip)).trans (by rw [e5])) rfl with ⟨u, v1, e, h2⟩ | ⟨hh, v1, e, hd⟩
  rotate_left
  · exfalso
    rcases store_run p y z v hc with ⟨_, hp⟩ | ⟨m, hm, hp⟩ <;> rw [hp] at e <;> cases e
    exact hd hm
  rcases store_run p y z v hc with ⟨hf, hp⟩ | ⟨m, hm, hp⟩ <;> rw [hp] at e <;> cases e
  refine ⟨hf, ?_⟩
  replace h2 : Got Sq.prog base R fr0 c0 v0 (b.at ⟨T1.setIfInBounds 5 (.bool true), []⟩ _) c _ := h2
  rcases h2.oper (i := 1) (rest := []) hk hR rfl rfl (s := pure (.tuple #[])) rfl rfl with ⟨z, v1, e, h3⟩ | ⟨hh, v1, e, _⟩
  rotate_left
  · cases e
  obtain ⟨rfl, rfl⟩ := ok_pure e
  replace h3 : Got Sq.prog base R fr0 c0 v0 (b.at ⟨(T1.setIfInBounds 5 (.bool true)).setIfInBounds 5 (.tuple #[]), []⟩ _) c _ := h3
  rw [show (T1.setIfInBounds 5 (.bool true)).setIfInBounds 5 (.tuple #[]) = T1.setIfInBounds 5 (.tuple #[]) by simp] at h3
  have h4 := h3.ctl hR rfl stepG_region_end
  exact h4.ctl hR rfl stepG_end
end
end Go.Proofs.Ytdlnlcjmjgbikaa
/- Lock and Unlock, in one goroutine, from their entry. -/
namespace Go.Proofs.Ytdlnlcjmjgbikaa
open Go Go.Conc

noncomputable section
variable {base : List Frame} {R : Frame → List Frame → World → Prop}
/-- The frame of a function of this number. -/
abbrev baseK (f : FuncId) (kind : CallKind) : Frame := { (default : Frame) with fn := f, kind := kind }
/-- Its places at the entry. -/
abbrev room6 (args : Array Value) : Array Value := args ++ Array.replicate (6 - args.size) undef
theorem room6_size (args : Array Value) : 5 < (room6 args).size := by simp; omega
theorem enterK {P : Program} {f : FuncId} {fn : Func} {c : Code} (args : Array Value) (kind : CallKind) (hf : P.funcs[f]? = some fn) (hb : fn.body = some c) (hn : fn.ntmps = 6) :
    Frame.enter P f args kind = (baseK f kind).at ⟨room6 args, []⟩ [.code c] := by
  simp [Frame.enter, Frame.at, hf, hb, hn]
theorem e4_of (T : Array Value) (hT : 5 < T.size) (q : Value) : (((T.setIfInBounds 2 q).setIfInBounds 3 q).setIfInBounds 4 q).getD 4 undef = q := by
  have := put_get ((T.setIfInBounds 2 q).setIfInBounds 3 q) 4 q [] 4 (by simp; omega)
  simpa [Act.put, Act.eval] using this
/-- What Lock (0, 1) and Unlock (1, 0) come from and come to. -/
theorem mu_all (x y : Int) {f : FuncId} {fn : Func} (hf : Sq.prog.funcs[f]? = some fn) (hb : fn.body = some (muC x y)) (hn : fn.ntmps = 6) {kind : CallKind} (hk : kind ≠ .early) (hR : ∀ fr c v, R fr c v → fr.mode ≠ .run) (args : Array Value)
    {c : List Frame} {v : World} (hg : Gd v) (h : Ends Sq.prog base R (Frame.enter Sq.prog f args kind) c v) :
    ∃ p, (room6 args).getD 0 undef = .pointer (some p) ∧ v.cell? p = some (.int .i32 x) ∧ v.frozen? p = false ∧
      Pth Sq.prog base R { (baseK f kind).at ⟨((((room6 args).setIfInBounds 2 (.pointer (some p))).setIfInBounds 3 (.pointer (some p))).setIfInBounds 4 (.pointer (some p))).setIfInBounds 5 (.tuple #[]), []⟩ [] with mode := .returning } c (v.setCell p (.int .i32 y))
        (Frame.enter Sq.prog f args kind) c v := by
  have he := enterK args kind hf hb hn
  have h0 := Got.start h
  rw [he] at h0
  obtain ⟨p, T1, e0, hc, hT1, h1⟩ := mu_got x y (b := baseK f kind) hk hR (room6_size args) hg h0
  have s1 : 5 < T1.size := by
    rw [hT1, Array.size_setIfInBounds, Array.size_setIfInBounds, Array.size_setIfInBounds]
    exact room6_size args
  have e4 : T1.getD 4 undef = .pointer (some p) := by
    rw [hT1]
    exact e4_of _ (room6_size args) _
  obtain ⟨hz, h2⟩ := mu_end y (b := baseK f kind) hk hR s1 e4 hc h1
  refine ⟨p, e0, hc, hz, ?_⟩
  rw [← hT1, he]
  rcases h2.from_ with ⟨e, _, _⟩ | hp
  · exact absurd (congrArg Frame.mode e) (by simp [Frame.at])
  · exact hp
theorem lock_at : ∃ fn, Sq.prog.funcs[14]? = some fn ∧ fn.body = some (muC 0 1) ∧ fn.ntmps = 6 := by
  refine ⟨_, (sq_func 14).trans (congrArg (Option.map (seqFn 14)) Try.func14), ?_, ?_⟩
  · kernel_rfl
  · kernel_rfl
theorem unlock_at : ∃ fn, Sq.prog.funcs[15]? = some fn ∧ fn.body = some (muC 1 0) ∧ fn.ntmps = 6 := by
  refine ⟨_, (sq_func 15).trans (congrArg (Option.map (seqFn 15)) Try.func15), ?_, ?_⟩
  · kernel_rfl
  · kernel_rfl
end
end Go.Proofs.Ytdlnlcjmjgbikaa
/- Lock and Unlock, the program's own: their first steps. -/
namespace Go.Proofs.Ytdlnlcjmjgbikaa
open Go Go.Conc

section
variable {P : Program} {main : Bool} {Rw : World → World → Prop} {D : World → World → Array Event → Prop} {Stop : Nat → Goroutine → World → Prop} {F F' : World → Prop} {k : Nat} {a a' : Goroutine} {es : Array Event}
/-- From every world of which F is known it is a walk. -/
def Walks (P : Program) (main : Bool) (Rw : World → World → Prop) (D : World → World → Array Event → Prop) (Stop : Nat → Goroutine → World → Prop) (F : World → Prop) (k : Nat) (a : Goroutine) : Prop := ∀ w, F w → Pr P main Rw D Stop k a w
/-- One step, that may turn the world. -/
theorem Walks.turn (hF : ∀ w w1, F w → Rw w w1 → F w1) (u : World → World) (hr : a.status = .running) (hs : ∀ w, F w → stepG P main a w = .go a' (u w) es) (hd : ∀ w, F w → D w (u w) es) (hu : ∀ w, F w → F' (u w))
    (h : Walks P main Rw D Stop F' (deafBehind k es) a') : Walks P main Rw D Stop F k a := fun _ hw =>
  Pr.mk hr fun w1 h1 => ⟨a', u w1, es, hs w1 (hF _ _ hw h1), hd w1 (hF _ _ hw h1), h _ (hu _ (hF _ _ hw h1))⟩
/-- One step. -/
theorem Walks.one (hF : ∀ w w1, F w → Rw w w1 → F w1) (hr : a.status = .running) (hs : ∀ w, F w → stepG P main a w = .go a' w es) (hd : ∀ w, F w → D w w es) (h : Walks P main Rw D Stop F (deafBehind k es) a') : Walks P main Rw D Stop F k a :=
  Walks.turn hF id hr hs hd (fun _ h => h) h
/-- One step that lists nothing. -/
theorem Walks.ctl (hF : ∀ w w1, F w → Rw w w1 → F w1) (hd : ∀ w, D w w #[]) (hs : ∀ w, F w → stepG P main a w = .go a' w) (hr : a.status = .running) (h : Walks P main Rw D Stop F k a') : Walks P main Rw D Stop F k a :=
  Walks.one hF hr hs (fun w _ => hd w) h
/-- An operation that gives a value and touches nothing. -/
theorem Walks.val {b : Frame} {A : Act} {ops : Array Oper} {i : Nat} {rest : List Nat} {K : List Item} {cs : List Frame} {o : Oper} (hF : ∀ w w1, F w → Rw w w1 → F w1) (hd : ∀ w, D w w #[]) (hk : b.kind ≠ .early) (ho : ops[i]? = some o) (hg : o.guard = none) (x : Value)
    (hr : ∀ w, F w → (execOp A.eval o).run P w = .ok (.value x) w) (he : ∀ w, F w → (execOp A.eval o).events P w #[] = #[])
    (h : Walks P main Rw D Stop F k (G (b.at (A.put o.dst x) (.inRegion ops rest :: K)) cs)) : Walks P main Rw D Stop F k (G (b.at A (.inRegion ops (i :: rest) :: K)) cs) :=
  Walks.ctl hF hd (fun w hw => by rw [stepG_value ho (by simp [Region.wanted, hg]) hk (hr w hw)]; unfold listed; rw [he w hw, Go.Conc.seen_none]) rfl h
end
noncomputable section
variable {main : Bool} {Rw : World → World → Prop} {D : World → World → Array Event → Prop} {Stop : Nat → Goroutine → World → Prop} {F : World → Prop} {k : Nat}
/-- To the call of the inner mutex' function. -/
theorem mu_in {g : FuncId} {ops : Array Oper} {b : Frame} {T : Array Value} (hT : 5 < T.size) {p : Addr} (h0 : T.getD 0 undef = .pointer (some p)) (hk : b.kind ≠ .early) {cs : List Frame} {at1 : Array TypeId} {ps : String × String × String × String} {es : Array Edge × Array Edge × Array Edge × Array Edge} {t3 : TypeId}
    (hops : ops = #[⟨some 2, .move (.tmp 0), t3, ps.1, es.1, none⟩, ⟨some 3, .nilCheck (.tmp 2), 0, ps.2.1, es.2.1, none⟩, ⟨some 4, .fieldAddr 52 (.tmp 3) 1, 0, ps.2.2.1, es.2.2.1, none⟩, ⟨some 5, .call ⟨.value (.func g), #[.tmp 4], at1⟩, 0, ps.2.2.2, es.2.2.2, none⟩])
    (hcall : ∀ args w es, (callFunc g args).runT Try.prog w es = (.ok (.enter g args) w, es)) (hF : ∀ w w1, F w → Rw w w1 → F w1) (hd : ∀ w, D w w #[])
    (h : Walks Try.prog main Rw D Stop F k (G (Frame.enter Try.prog g #[.pointer (some p)] .normal) (b.at ⟨((T.setIfInBounds 2 (.pointer (some p))).setIfInBounds 3 (.pointer (some p))).setIfInBounds 4 (.pointer (some p)), []⟩ [.inRegion ops [3]] :: cs))) :
    Walks Try.prog main Rw D Stop F k (G (b.at ⟨T, []⟩ [.code (.region 0 ops false)]) cs) := by
  refine Walks.ctl (a' := G (b.at ⟨T, []⟩ [.inRegion ops [0, 1, 2, 3]]) cs) hF hd (fun w _ => ?_) rfl ?_
  · subst hops; exact stepG_region
  refine Walks.val (i := 0) (rest := [1, 2, 3]) hF hd hk (by subst hops; rfl) rfl (.pointer (some p)) (fun w _ => ?_) (fun w _ => rfl) ?_
  · rw [← h0]; rfl
  subst hops
  have e2 : Act.eval ⟨T.setIfInBounds 2 (.pointer (some p)), []⟩ (.tmp 2) = .pointer (some p) := (put_get T 2 _ [] 2 (by omega)).trans (by simp)
  refine Walks.val (A := ⟨T.setIfInBounds 2 (.pointer (some p)), []⟩) (i := 1) (rest := [2, 3]) hF hd hk rfl rfl (.pointer (some p)) (fun w _ => ?_) (fun w _ => ?_) ?_
  · simp [execOp, e2]
  · simp [execOp, e2]
  have e3 : Act.eval ⟨(T.setIfInBounds 2 (.pointer (some p))).setIfInBounds 3 (.pointer (some p)), []⟩ (.tmp 3) = .pointer (some p) := (put_get (T.setIfInBounds 2 (.pointer (some p))) 3 _ [] 3 (by simp; omega)).trans (by simp)
  refine Walks.val (A := ⟨(T.setIfInBounds 2 (.pointer (some p))).setIfInBounds 3 (.pointer (some p)), []⟩) (i := 2) (rest := [3]) hF hd hk rfl rfl (.pointer (some p)) (fun w _ => ?_) (fun w _ => ?_) ?_
  · simp [execOp, e3, Instr.fieldAt, Instr.sureAddr, fieldPlace, Addr.add]
  · simp [execOp, e3, Instr.fieldAt, Instr.sureAddr, fieldPlace, Addr.add]
  have e4 : Act.eval ⟨((T.setIfInBounds 2 (.pointer (some p))).setIfInBounds 3 (.pointer (some p))).setIfInBounds 4 (.pointer (some p)), []⟩ (.tmp 4) = .pointer (some p) := (put_get ((T.setIfInBounds 2 (.pointer (some p))).setIfInBounds 3 (.pointer (some p))) 4 _ [] 4 (by simp; omega)).trans (by simp)
  have hc : ∀ w, (callFunc g #[.pointer (some p)]).run Try.prog w = .ok (.enter g #[.pointer (some p)]) w := fun w => by
    have := hcall #[.pointer (some p)] w #[]
    rw [Sem.runT_eq] at this
    exact congrArg Prod.fst this
  have hv : ∀ w, (callFunc g #[.pointer (some p)]).events Try.prog w #[] = #[] := fun w => by
    have := hcall #[.pointer (some p)] w #[]
    rw [Sem.runT_eq] at this
    exact congrArg Prod.snd this
  refine Walks.ctl hF hd (fun w _ => ?_) rfl h
  let A : Act := ⟨((T.setIfInBounds 2 (.pointer (some p))).setIfInBounds 3 (.pointer (some p))).setIfInBounds 4 (.pointer (some p)), []⟩
  let o : Oper := ⟨some 5, .call ⟨.value (.func g), #[.tmp 4], at1⟩, 0, ps.2.2.2, es.2.2.2, none⟩
  have hx : execOp A.eval o = callFunc g #[.pointer (some p)] := (execOp_call_func (a := A) (o := o) (f := g) rfl).trans (by rw [show (#[Operand.tmp 4].map A.eval) = #[A.eval (.tmp 4)] by simp, show A.eval (.tmp 4) = .pointer (some p) from e4])
  have hs := stepG_enter (P := Try.prog) (main := main) (b := b) (a := A) (i := 3) (rest := []) (k := []) (cs := cs) (w := w) (o := o) (f := g) (args := #[.pointer (some p)]) (w' := w)
    (ops := #[⟨some 2, .move (.tmp 0), t3, ps.1, es.1, none⟩, ⟨some 3, .nilCheck (.tmp 2), 0, ps.2.1, es.2.1, none⟩, ⟨some 4, .fieldAddr 52 (.tmp 3) 1, 0, ps.2.2.1, es.2.2.1, none⟩, o]) rfl (by simp [Region.wanted, o]) hk (by rw [hx]; exact hc w)
  rw [show listed Try.prog b.fn A o w = #[] by unfold listed; rw [hx, hv w, Go.Conc.seen_none]] at hs
  exact hs
end
end Go.Proofs.Ytdlnlcjmjgbikaa
/- A call of a function without a body, in a walk. -/
namespace Go.Proofs.Ytdlnlcjmjgbikaa
open Go Go.Conc

section
variable {P : Program} {main : Bool} {Rw : World → World → Prop} {D : World → World → Array Event → Prop} {Stop : Nat → Goroutine → World → Prop} {F F' : World → Prop} {k : Nat}
theorem Walks.ext {b : Frame} {A : Act} {ops : Array Oper} {i : Nat} {rest : List Nat} {K : List Item} {cs : List Frame} {o : Oper} {f : FuncId} {fn : Func} {xs : Array Operand} {ats : Array TypeId} {e : Array Value → Sem Value} {v : Value} {evs : Array Event}
    (hF : ∀ w w1, F w → Rw w w1 → F w1) (hk : b.kind ≠ .early) (ho : ops[i]? = some o) (hg : o.guard = none) (hop : o.op = .call { callee := .value (.func f), args := xs, argTypes := ats })
    (hf : P.funcs[f]? = some fn) (hname : (fn.name == "runtime.NumGoroutine") = false) (hb : fn.body.isNone = true) (hn : Extern.findNext fn = none) (he : Extern.find fn = some e) (u : World → World)
    (hrun : ∀ w, F w → (e (xs.map A.eval)).run P w = .ok v (u w)) (hev : ∀ w, F w → (e (xs.map A.eval)).events P w #[⟨.mark (.extern f), false, true⟩] = #[⟨.mark (.extern f), false, true⟩] ++ evs)
    (hs : ∀ x ∈ evs, x.sync = true ∧ ∀ g, x.loc ≠ .mark (.extern g)) (hd : ∀ w, F w → D w (u w) evs) (hu : ∀ w, F w → F' (u w))
    (h : Walks P main Rw D Stop F' (deafBehind k evs) (G (b.at (A.put o.dst v) (.inRegion ops rest :: K)) cs)) : Walks P main Rw D Stop F k (G (b.at A (.inRegion ops (i :: rest) :: K)) cs) :=
  Walks.turn hF u rfl (fun w hw => stepG_entry ho (by simp [Region.wanted, hg]) hk hop hf hname hb hn he (hrun w hw) (hev w hw) hs) hd hu h
end
noncomputable section
variable {main : Bool} {Rw : World → World → Prop} {D : World → World → Array Event → Prop} {Stop : Nat → Goroutine → World → Prop} {F : World → Prop} {k : Nat}
/-- What 'race.Disable()' and 'race.Enable()' list. -/
theorem Walks.mark0 (m : Mark) {b : Frame} {A : Act} {ops : Array Oper} {i : Nat} {rest : List Nat} {K : List Item} {cs : List Frame} {o : Oper} {f : FuncId} {fn : Func} {ats : Array TypeId}
    (hF : ∀ w w1, F w → Rw w w1 → F w1) (hk : b.kind ≠ .early) (ho : ops[i]? = some o) (hg : o.guard = none) (hop : o.op = .call { callee := .value (.func f), args := #[], argTypes := ats })
    (hf : Try.prog.funcs[f]? = some fn) (hname : (fn.name == "runtime.NumGoroutine") = false) (hb : fn.body.isNone = true) (hn : Extern.findNext fn = none) (he : Extern.find fn = some (fun _ => do mark m; pure Extern.Race.none_)) (hm : ∀ g, m ≠ .extern g)
    (hd : ∀ w, F w → D w w #[⟨.mark m, false, true⟩])
    (h : Walks Try.prog main Rw D Stop F (deafBehind k #[⟨.mark m, false, true⟩]) (G (b.at (A.put o.dst (.tuple #[])) (.inRegion ops rest :: K)) cs)) : Walks Try.prog main Rw D Stop F k (G (b.at A (.inRegion ops (i :: rest) :: K)) cs) :=
  Walks.ext (v := .tuple #[]) (evs := #[⟨.mark m, false, true⟩]) hF hk ho hg hop hf hname hb hn he id (fun w _ => by simp [Extern.Race.none_]) (fun w _ => by simp) (fun x hx => by
    simp only [List.mem_toArray, List.mem_cons, List.not_mem_nil, or_false] at hx
    subst hx
    exact ⟨rfl, fun g e => hm g (by injection e)⟩) (fun w hw => hd w hw) (fun _ h => h) h
end
end Go.Proofs.Ytdlnlcjmjgbikaa
/- The inner mutex' Lock: up to where it may be heard no more. -/
namespace Go.Proofs.Ytdlnlcjmjgbikaa
open Go Go.Conc

noncomputable section
variable {main : Bool} {Rw : World → World → Prop} {D : World → World → Array Event → Prop} {Stop : Nat → Goroutine → World → Prop} {F : World → Prop} {k : Nat}
/-- C: the code behind 'race.Disable()'. -/
theorem ilock_a {p : Addr} {cs : List Frame} {C : Code} {ps : String} (hb : Try.f23.body = some (.seq (.region 0 #[⟨some 2, .call ⟨.value (.func 32), #[], #[]⟩, 0, ps, #[], none⟩] false) C))
    (hF : ∀ w w1, F w → Rw w w1 → F w1) (hd : ∀ w, D w w #[]) (hd1 : ∀ w, F w → D w w #[⟨.mark .disable, false, true⟩])
    (h : Walks Try.prog main Rw D Stop F (k + 1) (G ((Go.Conc.base 23).at ⟨#[.pointer (some p), undef, .tuple #[], undef, undef, undef, undef, undef, undef, undef, undef, undef, undef], []⟩ [.code C]) cs)) :
    Walks Try.prog main Rw D Stop F k (G (Frame.enter Try.prog 23 #[.pointer (some p)] .normal) cs) := by
  rw [enter_at (fn := Try.f23) #[.pointer (some p)] Try.func23 hb]
  refine Walks.ctl (a' := G ((Go.Conc.base 23).at ⟨#[.pointer (some p), undef, undef, undef, undef, undef, undef, undef, undef, undef, undef, undef, undef], []⟩ _) cs) hF hd (fun w _ => stepG_seq) rfl ?_
  refine Walks.ctl hF hd (fun w _ => stepG_region) rfl ?_
  refine Walks.mark0 .disable (i := 0) (rest := []) (fn := Try.f32) hF (by decide) rfl rfl rfl Try.func32 (by kernel_rfl) (by kernel_rfl) (by kernel_rfl) (by kernel_rfl) (fun g => by simp) hd1 ?_
  exact Walks.ctl hF hd (fun w _ => stepG_region_end) rfl h
end
end Go.Proofs.Ytdlnlcjmjgbikaa
