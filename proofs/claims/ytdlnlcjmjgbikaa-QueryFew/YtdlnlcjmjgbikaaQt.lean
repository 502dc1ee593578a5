/- What sq's tables say, the program's say. -/
import Derived.Test.YtdlnlcjmjgbikaaQr
namespace Go.Proofs.Ytdlnlcjmjgbikaa
open Go Go.Conc

section
variable {P Q : Program}
theorem run_uns {α : Type} (u : Unsupported) (w : World) : (unsupported u : Sem α).run Q w = (unsupported u : Sem α).run P w := rfl
theorem kin_run_underlying (h : Kin P Q) (t : TypeId) (w : World) : (underlying t).run Q w = (underlying t).run P w := by
  simp only [underlying, Sem.run_bind, run_program, Result.andThen, h.underlying]
  cases P.underlying t <;> simp
theorem kin_run_typeInfo (h : Kin P Q) (t : TypeId) (w : World) : (typeInfo t).run Q w = (typeInfo t).run P w := by
  simp only [typeInfo, Sem.run_bind, run_program, Result.andThen, h.info]
  cases P.info? t <;> simp
theorem kin_run_sizeOf (h : Kin P Q) (t : TypeId) (w : World) : (sizeOf t).run Q w = (sizeOf t).run P w := by
  simp only [sizeOf, Sem.run_bind, kin_run_typeInfo h]
  cases (typeInfo t).run P w <;> simp [Result.andThen]
theorem bind_same {α β : Type} {s : Sem α} {f : α → Sem β} (w : World) (h : ∀ w, s.run Q w = s.run P w) (hf : ∀ a w, (f a).run Q w = (f a).run P w) : (s >>= f).run Q w = (s >>= f).run P w := by
  simp only [Sem.run_bind, h]
  generalize s.run P w = r
  cases r with
  | ok a w' => simp only [Result.andThen, hf]
  | halt _ _ => simp only [Result.andThen]
theorem kin_run_isAgg (h : Kin P Q) (t : TypeId) (w : World) : (isAgg t).run Q w = (isAgg t).run P w := by
  unfold isAgg
  refine bind_same w (kin_run_underlying h t) fun i w => ?_
  split
  · simp only [Sem.run_pure]
  · simp only [Sem.run_pure]
  · simp only [Sem.run_pure]
theorem kin_run_zeroValue (h : Kin P Q) (t : TypeId) (w : World) : (zeroValue t).run Q w = (zeroValue t).run P w := by
  unfold zeroValue
  refine bind_same w (kin_run_typeInfo h t) fun i w => ?_
  split
  · simp only [Sem.run_pure]
  · exact run_uns _ _
end
noncomputable section
@[simp] theorem sq_under (t : TypeId) : Sq.prog.underlying t = Try.prog.underlying t := sq_kin.underlying t
@[simp] theorem sq_info (t : TypeId) : Sq.prog.info? t = Try.prog.info? t := sq_kin.info t
@[simp] theorem sq_tables : Sq.prog.toTables = Try.prog.toTables := rfl
@[simp] theorem sq_run_underlying (t : TypeId) (w : World) : (underlying t).run Sq.prog w = (underlying t).run Try.prog w := kin_run_underlying sq_kin t w
@[simp] theorem sq_run_typeInfo (t : TypeId) (w : World) : (typeInfo t).run Sq.prog w = (typeInfo t).run Try.prog w := kin_run_typeInfo sq_kin t w
@[simp] theorem sq_run_sizeOf (t : TypeId) (w : World) : (sizeOf t).run Sq.prog w = (sizeOf t).run Try.prog w := kin_run_sizeOf sq_kin t w
@[simp] theorem sq_run_zeroValue (t : TypeId) (w : World) : (zeroValue t).run Sq.prog w = (zeroValue t).run Try.prog w := kin_run_zeroValue sq_kin t w
@[simp] theorem sq_run_isAgg (t : TypeId) (w : World) : (isAgg t).run Sq.prog w = (isAgg t).run Try.prog w := kin_run_isAgg sq_kin t w
/-- The field of a sync.Mutex lies where she lies. -/
theorem field_run (x : Value) (v : World) : (∃ p, x = .pointer (some p) ∧ (Instr.fieldAt 52 x 1).run Sq.prog v = .ok (.pointer (some p)) v) ∨ ∃ m, (Instr.fieldAt 52 x 1).run Sq.prog v = .halt (.stuck m) v := by
  by_cases hx : ∃ p, x = .pointer (some p)
  · obtain ⟨p, rfl⟩ := hx
    refine .inl ⟨p, rfl, ?_⟩
    simp [Instr.fieldAt, Instr.sureAddr, fieldPlace, Addr.add, Result.andThen]
  · refine .inr ⟨ "an address expected (no nilCheck in front?)", ?_⟩
    have hs : Instr.sureAddr x = stuck "an address expected (no nilCheck in front?)" := by
      unfold Instr.sureAddr
      split
      · exact absurd ⟨_, rfl⟩ hx
      · rfl
    simp [Instr.fieldAt, hs, Result.andThen, stuck]
end
end Go.Proofs.Ytdlnlcjmjgbikaa
/- Steps of Lock and Unlock, in one goroutine. -/
namespace Go.Proofs.Ytdlnlcjmjgbikaa
open Go Go.Conc
noncomputable section
/-- Halts at which a run ends. -/
def Hard (h : Halt) : Prop := (∃ m, h = .stuck m) ∨ ∃ u, h = .unsupported u
theorem load_run (p : Addr) (v : World) (hg : Gd v) : (∃ z, v.cell? p = some z ∧ (Instr.loadAt 21 (.pointer (some p))).run Sq.prog v = .ok z v) ∨ ∃ h, Hard h ∧ (Instr.loadAt 21 (.pointer (some p))).run Sq.prog v = .halt h v := by
  cases hc : v.cell? p with
  | some z =>
    refine .inl ⟨z, rfl, ?_⟩
    simp [Instr.loadAt, Instr.sureAddr, loadVar, Result.andThen, hc]
  | none =>
    right
    have hfar : v.farLoad Sq.prog p (Mode.plain == Mode.atomic) = .error (v.noCell p "load: no such cell") := by
      unfold World.farLoad
      split
      · rename_i a u e
        exact absurd e (hg _ _ trivial)
      · rfl
    refine ⟨v.noCell p "load: no such cell", ?_, ?_⟩
    · unfold World.noCell
      split
      · exact .inr ⟨_, rfl⟩
      · exact .inr ⟨_, rfl⟩
      · exact .inl ⟨_, rfl⟩
    · simp [Instr.loadAt, Instr.sureAddr, loadVar, Result.andThen, hc, hfar]
theorem eql_run (z : Value) (x : Int) (a b : Operand) (v : World) : (∃ n, z = .int .i32 n ∧ (do eqGuard .eql bad a b z (.int .i32 x); binOp .eql bad z (.int .i32 x) : Sem Value).run Sq.prog v = .ok (.bool (n == x)) v) ∨
    ∃ h, Hard h ∧ (do eqGuard .eql bad a b z (.int .i32 x); binOp .eql bad z (.int .i32 x) : Sem Value).run Sq.prog v = .halt h v := by
  have hg : Sq.prog.eqGuardType Sq.prog.depth bad = false := guardType_bad sq_bad
  have hu : (underlying bad).run Sq.prog v = .halt (.stuck "no such type") v := by
    simp only [underlying, Sem.run_bind, run_program, Result.andThen]
    rw [show Sq.prog.underlying bad = none by unfold Program.underlying; rw [sq_bad]]
    rfl
  have he : ∀ z, (Op.equal bad z (.int .i32 x)).run Sq.prog v = .halt (.stuck "no such type") v := by
    intro z
    show (Op.equalIn (9999 + 1) bad z (.int .i32 x)).run Sq.prog v = _
    unfold Op.equalIn
    simp only [Sem.run_bind, hu, Result.andThen]
  cases z with
  | int k n =>
    by_cases hk : k = .i32
    · subst hk
      refine .inl ⟨n, rfl, ?_⟩
      simp [eqGuard, binOp, Op.intCmp]
    · exact .inr ⟨.stuck "BinOp: operands of different kinds", .inl ⟨_, rfl⟩, by simp [eqGuard, binOp, hk, stuck]⟩
  | _ => exact .inr ⟨.stuck "no such type", .inl ⟨_, rfl⟩, by simp [eqGuard, binOp, he]⟩
/-! ### along a world -/
section
variable {Q : Program} {base : List Frame} {R : Frame → List Frame → World → Prop}
theorem Pth.snoc {fr0 fr1 fr2 : Frame} {c0 c1 c2 : List Frame} {v0 v1 v2 : World} (h : Pth Q base R fr1 c1 v1 fr0 c0 v0) (hn : Nx Q base R fr2 c2 v2 fr1 c1 v1) : Pth Q base R fr2 c2 v2 fr0 c0 v0 := by
  induction h with
  | one h => exact .more h (.one hn)
  | more h _ ih => exact .more h ih
/-- Here, coming from there. -/
structure Got (Q : Program) (base : List Frame) (R : Frame → List Frame → World → Prop) (fr0 : Frame) (c0 : List Frame) (v0 : World) (fr : Frame) (c : List Frame) (v : World) : Prop where
  ends : Ends Q base R fr c v
  from_ : (fr = fr0 ∧ c = c0 ∧ v = v0) ∨ Pth Q base R fr c v fr0 c0 v0
theorem Got.start {fr : Frame} {c : List Frame} {v : World} (h : Ends Q base R fr c v) : Got Q base R fr c v fr c v := ⟨h, .inl ⟨rfl, rfl, rfl⟩⟩
theorem Got.go {fr0 fr fr1 : Frame} {c0 c c1 : List Frame} {v0 v v1 : World} {es : Array Event} (h : Got Q base R fr0 c0 v0 fr c v) (hn : ¬ R fr c v) (hs : stepG Q true (G fr (c ++ base)) v = .go (G fr1 (c1 ++ base)) v1 es) : Got Q base R fr0 c0 v0 fr1 c1 v1 := by
  have nx : Nx Q base R fr1 c1 v1 fr c v := ⟨hn, v.tape, v.drawn, es, hs⟩
  refine ⟨h.ends.next nx, .inr ?_⟩
  rcases h.from_ with ⟨rfl, rfl, rfl⟩ | hp
  · exact .one nx
  · exact hp.snoc nx
theorem Got.alive {fr0 fr : Frame} {c0 c : List Frame} {v0 v : World} {o : Outcome} {w : World} {es : Array Event} (h : Got Q base R fr0 c0 v0 fr c v) (hn : ¬ R fr c v) (hs : stepG Q true (G fr (c ++ base)) v = .ended o w es) : False := by
  cases h.ends with
  | stop h => exact hn h
  | step f l u e hl hg k =>
    have := hg v.tape v.drawn
    rw [re_self, hs] at this
    cases this
end
end
end Go.Proofs.Ytdlnlcjmjgbikaa
/- Lock and Unlock, in one goroutine: what they come from and come to. -/
namespace Go.Proofs.Ytdlnlcjmjgbikaa
open Go Go.Conc

noncomputable section
variable {base : List Frame} {R : Frame → List Frame → World → Prop}
/-- An operation that gives a value, or at which the run ends. -/
theorem Got.oper {fr0 : Frame} {c0 c : List Frame} {v0 v : World} {b : Frame} {a : Act} {ops : Array Oper} {i : Nat} {rest : List Nat} {k : List Item} {o : Oper} {r : Result Value} {s : Sem Value} (hk : b.kind ≠ .early) (hR : ∀ fr c v, R fr c v → fr.mode ≠ .run)
    (h : Got Sq.prog base R fr0 c0 v0 (b.at a (.inRegion ops (i :: rest) :: k)) c v) (ho : ops[i]? = some o) (hgd : o.guard = none) (hs : execOp a.eval o = s >>= fun x => pure (.value x)) (hr : s.run Sq.prog v = r) :
    (∃ x v1, r = .ok x v1 ∧ Got Sq.prog base R fr0 c0 v0 (b.at (a.put o.dst x) (.inRegion ops rest :: k)) c v1) ∨ ∃ h v1, r = .halt h v1 ∧ ¬ Hard h := by
  have hw : Region.wanted o (yielded ops a.tmps) = true := by simp [Region.wanted, hgd]
  have hn : ¬ R (b.at a (.inRegion ops (i :: rest) :: k)) c v := fun h => hR _ _ _ h rfl
  cases hr' : s.run Sq.prog v with
  | ok x v1 =>
    refine .inl ⟨x, v1, hr.symm.trans hr', h.go hn (stepG_value ho hw hk ?_)⟩
    rw [hs, Sem.run_bind, hr']
    simp only [Result.andThen, Sem.run_pure]
  | halt hh v1 =>
    refine .inr ⟨hh, v1, hr.symm.trans hr', fun hard => ?_⟩
    have hrun : (execOp a.eval o).runT Sq.prog v #[] = (.halt hh v1, (execOp a.eval o).events Sq.prog v #[]) := by
      rw [Sem.runT_eq, hs, Sem.run_bind, hr']
      simp only [Result.andThen]
    have e := stepG_oper (P := Sq.prog) (main := true) (b := b) (a := a) (rest := rest) (k := k) (cs := c ++ base) (w := v) ho hw
    rcases hard with ⟨m, rfl⟩ | ⟨u, rfl⟩
    · obtain ⟨o', w2, es2, e2⟩ := apply_stuck (fn := b.fn) (tmps := a.tmps) (ops := ops) (i := i) (rest := rest) (k := k) (defers := a.defers) (kind := b.kind) (cs := c ++ base) hrun
      exact h.alive hn (e.trans e2)
    · obtain ⟨o', w2, es2, e2⟩ := apply_unsupported (fn := b.fn) (tmps := a.tmps) (ops := ops) (i := i) (rest := rest) (k := k) (defers := a.defers) (kind := b.kind) (cs := c ++ base) sq_bodies hrun
      exact h.alive hn (e.trans e2)
theorem Got.ctl {fr0 fr fr1 : Frame} {c0 c : List Frame} {v0 v : World} (hR : ∀ fr c v, R fr c v → fr.mode ≠ .run) (h : Got Sq.prog base R fr0 c0 v0 fr c v) (hm : fr.mode = .run) (hs : stepG Sq.prog true (G fr (c ++ base)) v = .go (G fr1 (c ++ base)) v) : Got Sq.prog base R fr0 c0 v0 fr1 c v :=
  h.go (fun hr => hR _ _ _ hr hm) hs
theorem put_get (T : Array Value) (d : Nat) (x : Value) (ds : List Deferred) (j : Nat) (hd : d < T.size) : (Act.put ⟨T, ds⟩ (some d) x).eval (.tmp j) = if d = j then x else Act.eval ⟨T, ds⟩ (.tmp j) := by
  simp only [Act.put, Act.eval, Array.getD_eq_getD_getElem?, Array.getElem?_setIfInBounds]
  by_cases h : d = j
  · subst h; simp [hd]
  · simp [h]
theorem ok_pure {z z' : Value} {v v1 : World} (e : (pure z : Sem Value).run Sq.prog v = .ok z' v1) : z' = z ∧ v1 = v := by
  rw [Sem.run_pure] at e
  injection e with e1 e2
  exact ⟨e1.symm, e2.symm⟩
theorem hard_stuck (m : String) : Hard (.stuck m) := .inl ⟨m, rfl⟩
/-- What a mutex' function comes from, and comes to: ahead of the store. -/
theorem mu_got (x y : Int) {b : Frame} (hk : b.kind ≠ .early) (hR : ∀ fr c v, R fr c v → fr.mode ≠ .run) {T : Array Value} (hT : 5 < T.size) {fr0 : Frame} {c0 c : List Frame} {v0 v : World} (hg : Gd v)
    (h : Got Sq.prog base R fr0 c0 v0 (b.at ⟨T, []⟩ [.code (muC x y)]) c v) :
    ∃ p T1, T.getD 0 undef = .pointer (some p) ∧ v.cell? p = some (.int .i32 x) ∧ T1 = (((T.setIfInBounds 2 (.pointer (some p))).setIfInBounds 3 (.pointer (some p))).setIfInBounds 4 (.pointer (some p))) ∧
      Got Sq.prog base R fr0 c0 v0 (b.at ⟨T1.setIfInBounds 5 (.bool true), []⟩ [.code (.region 1 #[opq 0 none (.store 21 (.tmp 4) (.const (.int .i32 y))) 0, opq 1 (some 5) (.move (.const (.tuple #[]))) 0] false)]) c v := by
  have h1 := h.ctl hR rfl stepG_seq
  have h2 := h1.ctl hR rfl stepG_region
  rcases h2.oper (i := 0) (rest := [1, 2, 3, 4]) hk hR rfl rfl (s := pure ((Act.mk T []).eval (.tmp 0))) rfl rfl with ⟨z, v1, e, h3⟩ | ⟨hh, v1, e, _⟩
  rotate_left
  · cases e
  obtain ⟨ez, rfl⟩ := ok_pure e
  replace h3 : Got Sq.prog base R fr0 c0 v0 (b.at ⟨T.setIfInBounds 2 z, []⟩ _) c v1 := h3
  rcases h3.oper (i := 1) (rest := [2, 3, 4]) hk hR rfl rfl (s := pure ((Act.mk (T.setIfInBounds 2 z) []).eval (.tmp 2))) rfl rfl with ⟨z2, v2, e, h4⟩ | ⟨hh, v2, e, _⟩
  rotate_left
  · cases e
  obtain ⟨ez2, rfl⟩ := ok_pure e
  replace ez2 : z2 = z := ez2.trans ((put_get T 2 z [] 2 (by omega)).trans (by simp))
  subst ez2
  replace h4 : Got Sq.prog base R fr0 c0 v0 (b.at ⟨(T.setIfInBounds 2 z2).setIfInBounds 3 z2, []⟩ _) c v2 := h4
  have e3 : Act.eval ⟨(T.setIfInBounds 2 z2).setIfInBounds 3 z2, []⟩ (.tmp 3) = z2 := (put_get (T.setIfInBounds 2 z2) 3 z2 [] 3 (by simp; omega)).trans (by simp)
  rcases h4.oper (i := 2) (rest := [3, 4]) hk hR rfl rfl (s := Instr.fieldAt 52 z2 1) ((rfl : _ = (Instr.fieldAt 52 (Act.eval ⟨(T.setIfInBounds 2 z2).setIfInBounds 3 z2, []⟩ (.tmp 3)) 1 >>= fun x => pure (Next.value x))).trans (by rw [e3])) rfl with ⟨z3, v3, e, h5⟩ | ⟨hh, v3, e, hd⟩
  rotate_left
  · exfalso
    rcases field_run z2 v2 with ⟨p, _, hp⟩ | ⟨m, hp⟩ <;> rw [hp] at e <;> cases e
    exact hd (hard_stuck m)
  rcases field_run z2 v2 with ⟨p, hz, hp⟩ | ⟨m, hp⟩ <;> rw [hp] at e <;> cases e
  subst hz
  replace h5 : Got Sq.prog base R fr0 c0 v0 (b.at ⟨((T.setIfInBounds 2 (.pointer (some p))).setIfInBounds 3 (.pointer (some p))).setIfInBounds 4 (.pointer (some p)), []⟩ _) c v2 := h5
  generalize hT1 : ((T.setIfInBounds 2 (.pointer (some p))).setIfInBounds 3 (.pointer (some p))).setIfInBounds 4 (.pointer (some p)) = T1 at h5
  have s1 : 5 < T1.size := by rw [← hT1]; simpa using hT
  have e4 : Act.eval ⟨T1, []⟩ (.tmp 4) = .pointer (some p) := by
    rw [← hT1]
    exact (put_get ((T.setIfInBounds 2 (.pointer (some p))).setIfInBounds 3 (.pointer (some p))) 4 _ [] 4 (by simp; omega)).trans (by simp)
  rcases h5.oper (i := 3) (rest := [4]) hk hR rfl rfl (s := Instr.loadAt 21 (.pointer (some p))) ((rfl : _ = (Instr.loadAt 21 (Act.eval ⟨T1, []⟩ (.tmp 4)) >>= fun x => pure (Next.value x))).trans (by rw [e4])) rfl with ⟨z4, v4, e, h6⟩ | ⟨hh, v4, e, hd⟩
  rotate_left
  · exfalso
    rcases load_run p v2 hg with ⟨u, _, hp⟩ | ⟨m, hm, hp⟩ <;> rw [hp] at e <;> cases e
    exact hd hm
  rcases load_run p v2 hg with ⟨u, hc, hp⟩ | ⟨m, hm, hp⟩ <;> rw [hp] at e <;> cases e
  replace h6 : Got Sq.prog base R fr0 c0 v0 (b.at ⟨T1.setIfInBounds 5 z4, []⟩ _) c v2 := h6
  have e5 : Act.eval ⟨T1.setIfInBounds 5 z4, []⟩ (.tmp 5) = z4 := (put_get T1 5 z4 [] 5 s1).trans (by simp)
  rcases h6.oper (i := 4) (rest := []) hk hR rfl rfl (s := do eqGuard .eql bad (.tmp 5) (.const (.int .i32 x)) z4 (.int .i32 x); binOp .eql bad z4 (.int .i32 x)) ((rfl : _ = ((do eqGuard .eql bad (.tmp 5) (.const (.int .i32 x)) (Act.eval ⟨T1.setIfInBounds 5 z4, []⟩ (.tmp 5)) (.int .i32 x); binOp .eql bad (Act.eval ⟨T1.setIfInBounds 5 z4, []⟩ (.tmp 5)) (.int .i32 x)) >>= fun x => pure (Next.value x))).trans (by rw [e5])) rfl with ⟨z5, v5, e, h7⟩ | ⟨hh, v5, e, hd⟩
  rotate_left
  · exfalso
    rcases eql_run z4 x (.tmp 5) (.const (.int .i32 x)) v2 with ⟨n, _, hp⟩ | ⟨m, hm, hp⟩ <;> rw [hp] at e <;> cases e
    exact hd hm
  rcases eql_run z4 x (.tmp 5) (.const (.int .i32 x)) v2 with ⟨n, hn, hp⟩ | ⟨m, hm, hp⟩ <;> rw [hp] at e <;> cases e
  subst hn
  replace h7 : Got Sq.prog base R fr0 c0 v0 (b.at ⟨(T1.setIfInBounds 5 (.int .i32 n)).setIfInBounds 5 (.bool (n == x)), []⟩ _) c v2 := h7
  rw [show (T1.setIfInBounds 5 (.int .i32 n)).setIfInBounds 5 (.bool (n == x)) = T1.setIfInBounds 5 (.bool (n == x)) by simp] at h7
  have h8 := h7.ctl hR rfl stepG_region_end
  have h9 := h8.ctl hR rfl stepG_seq
  have e6 : Act.eval ⟨T1.setIfInBounds 5 (.bool (n == x)), []⟩ (.tmp 5) = .bool (n == x) := (put_get T1 5 _ [] 5 s1).trans (by simp)
  have h10 := h9.ctl hR rfl (stepG_cond e6)
  by_cases hnx : n = x
  · subst hnx
    simp only [beq_self_eq_true, if_true] at h10
    have h11 := h10.ctl hR rfl stepG_skip
    exact ⟨p, T1, ez.symm, hc, hT1.symm, h11⟩
  · exfalso
    have hf : (n == x) = false := by simpa using hnx
    rw [hf] at h10
    simp only [Bool.false_eq_true, if_false] at h10
    exact h10.alive (fun hr => hR _ _ _ hr rfl) (by simp [G, stepG, stepG.exec, Frame.at]; exact ⟨rfl, rfl, rfl⟩)
end
end Go.Proofs.Ytdlnlcjmjgbikaa
