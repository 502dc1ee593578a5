/- The child's walk, and goroutine 0's between two calls that start workers. -/
import Derived.Test.YtdlnlcjmjgbikaaRg
namespace Go.Proofs.Ytdlnlcjmjgbikaa
open Go Go.Conc

theorem dm_of {X : Nat → Prop} {w w1 : World} {es : Array Event} (h : DX X w w1) (he : ∀ e ∈ es, Ev X e) : DM X w w1 es := ⟨h, fun e h => .inl (he e h)⟩
noncomputable section
/-- What is kept of the child: it has come from 'st' too. -/
def IC (base : List Frame) (R : Frame → List Frame → World → Prop) (cb : List Frame) (fr0 : Frame) (v0 : World) (fr : Frame) (cs : List Frame) (v : World) : Prop := StI fr cs ∧ Sanes fr (cs ++ cb) ∧ ((fr = fr0 ∧ cs ++ cb = cb ∧ v = v0) ∨ Pth Sq.prog base R fr (cs ++ cb) v fr0 cb v0)
section
variable {base : List Frame} {R : Frame → List Frame → World → Prop}
theorem Pth.trans {Q : Program} {fr1 fr2 fr : Frame} {c1 c2 c : List Frame} {v1 v2 v : World} (h : Pth Q base R fr1 c1 v1 fr2 c2 v2) (k : Pth Q base R fr2 c2 v2 fr c v) : Pth Q base R fr1 c1 v1 fr c v := by
  induction k with
  | one hn => exact .more hn h
  | more hn _ ih => exact .more hn ih
theorem IM.next {fr0 fr fr1 : Frame} {c0 cs c1 : List Frame} {v0 v v1 : World} (h : (fr = fr0 ∧ cs = c0 ∧ v = v0) ∨ Pth Sq.prog base R fr cs v fr0 c0 v0) (k : Pth Sq.prog base R fr1 c1 v1 fr cs v) : Pth Sq.prog base R fr1 c1 v1 fr0 c0 v0 := by
  rcases h with ⟨rfl, rfl, rfl⟩ | h
  · exact k
  · exact k.trans h
end
section
variable {Rw : World → World → Prop} {k : Nat} {X : Nat → Prop} {base baseP cb : List Frame} {R : Frame → List Frame → World → Prop}
theorem all2_round {c c' : List Frame} (h : All2 (FrR Try.prog sts Sq.prog) c c') : ∀ a ∈ c', a.roundOf = none := owns_round (frr_owns h)
/-- A step keeps them sane. -/
theorem sanes_step {fr fr' : Frame} {cs cs' cb : List Frame} {fr1 : Frame} {c1 : List Frame} {v v1 : World} (h : FrR Try.prog sts Sq.prog fr fr') (hc : All2 (FrR Try.prog sts Sq.prog) cs cs') (hcb : ∀ a ∈ cb, a.roundOf = none) (hl : cs ≠ [] ∨ fr.mode = .run ∨ fr.defers ≠ []) (hs : Sanes fr' (cs' ++ cb)) (hg : Gd v)
    (hn : Nx Sq.prog base R fr1 c1 v1 fr' (cs' ++ cb) v) : Sanes fr1 c1 := by
  obtain ⟨_, τ, d, es, hst⟩ := hn
  refine (pan_step (frr_own h) (fun a ha => ?_) ?_ (hg.re τ d) hst hs).1
  · rcases List.mem_append.1 ha with ha | ha
    · exact all2_round hc a ha
    · exact hcb a ha
  · rcases hl with h1 | h1 | h1
    · refine .inl fun e => h1 (List.eq_nil_of_length_eq_zero ?_)
      rw [hc.size, (List.append_eq_nil_iff.1 e).1]; rfl
    · exact .inr (.inl (h.mode.trans h1))
    · exact .inr (.inr (by rw [h.defers]; exact h1))
theorem ret_sane {f : FuncId} {kind : CallKind} {T : Array Value} {args : Array Value} {c : List Frame} (h : Sanes (Frame.enter Sq.prog f args kind) c) : Sanes { (baseK f kind).at ⟨T, []⟩ [] with mode := .returning } c := by
  intro a ha
  rcases List.mem_cons.1 ha with rfl | ha
  · intro l e; cases e
  · exact h a (by simp [ha])
theorem ret_sti {f : FuncId} {kind : CallKind} {T : Array Value} {args : Array Value} {c : List Frame} (hf : slt f = []) (h : StI (Frame.enter Sq.prog f args kind) c) : StI { (baseK f kind).at ⟨T, []⟩ [] with mode := .returning } c :=
  h.put (InvF.mk h.top.fn (fun s (hs : s ∈ slt f) => absurd hs (by rw [hf]; simp)) (fun i (hi : i ∈ []) => absurd hi (by simp)) (fun d (hd : d ∈ []) => absurd hd (by simp))) rfl rfl

/-- ████ THE CHILD BRINGS A CELL UP TO DATE. ████ -/
theorem child_pr (hX : ∀ r, X r → Sq.prog.globals.size ≤ r) (hRw : ∀ w w1, Rw w w1 → RX X w w1 ∧ w1.tape = w.tape) (hR : ∀ fr c v, R fr c v → c = [] ∧ fr.mode ≠ .run ∧ fr.defers = []) (hcb : ∀ a ∈ cb, a.roundOf = none) {args : Array Value} {v w : World}
    (hsa : Sanes (Frame.enter Sq.prog 46 args .normal) cb) (h : Ends Sq.prog base R (Frame.enter Sq.prog 46 args .normal) cb v) (hw : Rel X v w) (hg : Gd v) :
    Pr Try.prog false Rw (DM X) (StopX Try.prog Sq.prog X sts (fun _ => False) (IC base R cb (Frame.enter Sq.prog 46 args .normal) v) base baseP cb R k) k (G (Frame.enter Try.prog 46 args .normal) baseP) w := by
  have hb := pr_of_ends (cb := cb) (baseP := baseP) (Far := fun _ => False) (I := IC base R cb (Frame.enter Sq.prog 46 args .normal) v) (main := false) (k := k) (D := DM X) sq_bodies (sq_env hX) hRw (fun _ _ _ => dm_of) hR
    (fun fr fr' cs cs' fr1 c1 v v1 hfr hcs hl hi hg hn => by
      refine ⟨?_, sanes_step hfr hcs hcb hl hi.2.1 hg hn, .inr (IM.next hi.2.2 (.one hn))⟩
      obtain ⟨_, τ, d, es, hst⟩ := hn
      rw [List.append_assoc, List.append_assoc] at hst
      exact sti_step hfr hcs hl hi.1 (hg.re τ d) hst)
    (fun f args kind cs cs' v w hm hf hk hi hcs hw hg he ih => by
      rcases hm with rfl | rfl | rfl
      · exact lock_pr hRw (fun fr c v h => (hR fr c v h).2.1) hk hcs hw hg (fun T v1 hp => ⟨ret_sti rfl hi.1, ret_sane hi.2.1, .inr (IM.next hi.2.2 hp)⟩) he ih
      · exact unlock_pr hRw (fun fr c v h => (hR fr c v h).2.1) hk hcs hw hg (fun T v1 hp => ⟨ret_sti rfl hi.1, ret_sane hi.2.1, .inr (IM.next hi.2.2 hp)⟩) he ih
      · exact absurd hi.1.top.fn (show ¬ (27 : Nat) ∈ alw by decide)) h
  obtain ⟨fn, hf, hbd⟩ : ∃ fn, Sq.prog.funcs[46]? = some fn ∧ fn.body.isSome = true := ⟨_, (sq_func 46).trans (congrArg (Option.map (seqFn 46)) Try.func46), by kernel_rfl⟩
  exact hb _ [] [] w rfl ⟨.nil (inv_enter (g := 46) (by decide) args (fun s (hs : s ∈ []) => absurd hs (by simp)) .normal) rfl rfl, hsa, .inl ⟨rfl, rfl, rfl⟩⟩ (enter_rel sq_bodies args (.inl rfl) hf hbd) .nil hw hg

/-- What is kept of goroutine 0: it has come from 'st'. -/
def IM (base : List Frame) (R : Frame → List Frame → World → Prop) (fr0 : Frame) (c0 : List Frame) (v0 : World) (fr : Frame) (cs : List Frame) (v : World) : Prop := Sanes fr cs ∧ ((fr = fr0 ∧ cs = c0 ∧ v = v0) ∨ Pth Sq.prog base R fr cs v fr0 c0 v0)
/-- ████ GOROUTINE 0, UP TO THE NEXT CALL THAT STARTS WORKERS. ████ -/
theorem main_pr (hX : ∀ r, X r → Sq.prog.globals.size ≤ r) (hRw : ∀ w w1, Rw w w1 → RX X w w1 ∧ w1.tape = w.tape) (hR : ∀ fr c v, R fr c v → c = [] ∧ fr.mode ≠ .run ∧ fr.defers = [])
    {fr0 : Frame} {c0 : List Frame} {v0 : World} (hsa : Sanes fr0 c0) (h : Ends Sq.prog base R fr0 c0 v0) {fr : Frame} {cs : List Frame} {w : World} (ht : TopR Try.prog Sq.prog sts Mac fr fr0) (hcs : All2 (FrR Try.prog sts Sq.prog) cs c0) (hw : Rel X v0 w) (hg : Gd v0) :
    Pr Try.prog true Rw (DM X) (StopX Try.prog Sq.prog X sts (fun f => f = 27) (IM base R fr0 c0 v0) base baseP [] R k) k (G fr (cs ++ baseP)) w := by
  have hb := pr_of_ends (cb := []) (baseP := baseP) (Far := fun f => f = 27) (I := IM base R fr0 c0 v0) (main := true) (k := k) (D := DM X) sq_bodies (sq_env hX) hRw (fun _ _ _ => dm_of) hR
    (fun fr fr' cs cs' fr1 c1 v v1 hfr hcs hl hi hg hn => by
      refine ⟨sanes_step hfr hcs (fun a (ha : a ∈ []) => absurd ha (by simp)) hl (by simpa using hi.1) hg (by simpa using hn), .inr (IM.next hi.2 (.one (by simpa using hn)))⟩)
    (fun f args kind cs cs' v w hm hf hk hi hcs hw hg he ih => by
      rcases hm with rfl | rfl | rfl
      · exact lock_pr hRw (fun fr c v h => (hR fr c v h).2.1) hk hcs hw hg (fun T v1 hp => ⟨ret_sane hi.1, .inr (IM.next hi.2 (by simpa using hp))⟩) he ih
      · exact unlock_pr hRw (fun fr c v h => (hR fr c v h).2.1) hk hcs hw hg (fun T v1 hp => ⟨ret_sane hi.1, .inr (IM.next hi.2 (by simpa using hp))⟩) he ih
      · exact absurd rfl hf) h
  exact hb _ cs c0 w (by simp) ⟨hsa, .inl ⟨rfl, rfl, rfl⟩⟩ ht hcs hw hg
end
end
end Go.Proofs.Ytdlnlcjmjgbikaa
/- round.serve, in one goroutine: up to the call. -/
namespace Go.Proofs.Ytdlnlcjmjgbikaa
open Go Go.Conc

/-- What the places hold. -/
structure Sl (A : Act) (f : Nat → Value) : Prop where
  defers : A.defers = []
  size : 30 ≤ A.tmps.size
  get : ∀ j, A.tmps.getD j undef = f j
def up (f : Nat → Value) (d : Nat) (x : Value) : Nat → Value := fun j => if j = d then x else f j
@[simp] theorem up_at (f : Nat → Value) (d : Nat) (x : Value) (j : Nat) : up f d x j = if j = d then x else f j := rfl
theorem Sl.put {A : Act} {f : Nat → Value} (h : Sl A f) (d : Nat) (x : Value) (hd : d < 30) : Sl (A.put (some d) x) (up f d x) := by
  refine ⟨h.defers, by simpa [Act.put] using h.size, fun j => ?_⟩
  have hs := h.size
  simp only [Act.put, up_at, Array.getD_eq_getD_getElem?, Array.getElem?_setIfInBounds]
  by_cases e : d = j
  · subst e
    rw [if_pos rfl, if_pos (by omega), if_pos rfl]; rfl
  · rw [if_neg e, if_neg (fun h => e h.symm)]
    have := h.get j
    rwa [Array.getD_eq_getD_getElem?] at this
theorem Sl.eval {A : Act} {f : Nat → Value} (h : Sl A f) (j : Nat) : A.eval (.tmp j) = f j := h.get j

/-- A block of nobody's. -/
def blk (v : World) : World := v.alloc psn
noncomputable section
theorem range_run (v : World) : (Instr.range 9 (.string .empty)).run Sq.prog v = .ok (.pointer (some ⟨v.heap.size, 0, none⟩)) (blk v) := by
  simp only [Instr.range, Sem.run_bind, sq_run_underlying, Try.runUnderlying9, Result.andThen, Sem.run_pure]
  rfl
theorem eql64_run (z : Value) (x : Int) (a b : Operand) (v : World) : (∃ n, z = .int .i64 n ∧ (do eqGuard .eql bad a b z (.int .i64 x); binOp .eql bad z (.int .i64 x) : Sem Value).run Sq.prog v = .ok (.bool (n == x)) v) ∨
    ∃ h, Hard h ∧ (do eqGuard .eql bad a b z (.int .i64 x); binOp .eql bad z (.int .i64 x) : Sem Value).run Sq.prog v = .halt h v := by
  have hu : (underlying bad).run Sq.prog v = .halt (.stuck "no such type") v := by
    simp only [underlying, Sem.run_bind, run_program, Result.andThen]
    rw [show Sq.prog.underlying bad = none by unfold Program.underlying; rw [sq_bad]]
    rfl
  have he : ∀ z, (Op.equal bad z (.int .i64 x)).run Sq.prog v = .halt (.stuck "no such type") v := by
    intro z
    show (Op.equalIn (9999 + 1) bad z (.int .i64 x)).run Sq.prog v = _
    unfold Op.equalIn
    simp only [Sem.run_bind, hu, Result.andThen]
  cases z with
  | int k n =>
    by_cases hk : k = .i64
    · subst hk
      refine .inl ⟨n, rfl, ?_⟩
      simp [eqGuard, binOp, Op.intCmp]
    · exact .inr ⟨.stuck "BinOp: operands of different kinds", .inl ⟨_, rfl⟩, by simp [eqGuard, binOp, hk, stuck]⟩
  | _ => exact .inr ⟨.stuck "no such type", .inl ⟨_, rfl⟩, by simp [eqGuard, binOp, he]⟩
theorem len23_run (z : Value) (v : World) : (∃ b n c, z = .slice b n c ∧ (Builtin.len_ #[23] 3 #[z]).run Sq.prog v = .ok (.int .i64 n) v) ∨ ∃ m, (Builtin.len_ #[23] 3 #[z]).run Sq.prog v = .halt (.stuck m) v := by
  by_cases hz : ∃ b n c, z = .slice b n c
  · obtain ⟨b, n, c, rfl⟩ := hz
    exact .inl ⟨b, n, c, rfl, by simp [Builtin.len_, Try.runUnderlying23, Result.andThen, goInt]⟩
  · refine .inr ⟨ "len: string, array, pointer to array, slice, map or channel expected", ?_⟩
    cases z <;> first | exact absurd ⟨_, _, _, rfl⟩ hz | simp [Builtin.len_, Try.runUnderlying23, Result.andThen, stuck]
theorem nil23_run (b : Option Addr) (n c : Nat) (x y : Operand) (v : World) : (do eqGuard .eql 23 x y (.slice b n c) (.slice none 0 0); binOp .eql 23 (.slice b n c) (.slice none 0 0) : Sem Value).run Sq.prog v = .ok (.bool b.isNone) v := by
  have he : (Op.equal 23 (.slice b n c) (.slice none 0 0)).run Sq.prog v = .ok b.isNone v := by
    show (Op.equalIn (9999 + 1) 23 (.slice b n c) (.slice none 0 0)).run Sq.prog v = _
    unfold Op.equalIn
    simp only [Sem.run_bind, sq_run_underlying, Try.runUnderlying23, Result.andThen]
    cases b <;> simp
  simp [eqGuard, binOp, he, Result.andThen]
theorem index23_run (a : Addr) (c : Nat) (v : World) : (Instr.indexAt 23 (.slice (some a) 1 c) (.int .i64 0)).run Sq.prog v = .ok (.pointer (some a)) v := by
  simp [Instr.indexAt, asIntOf, Try.runUnderlying23, Try.sizeOf3, Result.andThen, Addr.add]
theorem load3_run (p : Addr) (v : World) (hg : Gd v) : (∃ z, v.cell? p = some z ∧ (Instr.loadAt 3 (.pointer (some p))).run Sq.prog v = .ok z v) ∨ ∃ h, Hard h ∧ (Instr.loadAt 3 (.pointer (some p))).run Sq.prog v = .halt h v := by
  cases hc : v.cell? p with
  | some z =>
    refine .inl ⟨z, rfl, ?_⟩
    simp [Instr.loadAt, Instr.sureAddr, loadVar, Result.andThen, hc]
  | none =>
    right
    have hfar : v.farLoad Sq.prog p (Mode.plain == Mode.atomic) = .error (v.noCell p "load: no such cell") := by
      unfold World.farLoad
      split
      · rename_i a u e
        exact absurd e (hg _ _ trivial)
      · rfl
    refine ⟨v.noCell p "load: no such cell", ?_, ?_⟩
    · unfold World.noCell
      split
      · exact .inr ⟨_, rfl⟩
      · exact .inr ⟨_, rfl⟩
      · exact .inl ⟨_, rfl⟩
    · simp [Instr.loadAt, Instr.sureAddr, loadVar, Result.andThen, hc, hfar]
theorem field84_run (x : Value) (v : World) : (∃ p q, x = .pointer (some p) ∧ (Instr.fieldAt 84 x 1).run Sq.prog v = .ok q v) ∨ ∃ m, (Instr.fieldAt 84 x 1).run Sq.prog v = .halt (.stuck m) v := by
  by_cases hx : ∃ p, x = .pointer (some p)
  · obtain ⟨p, rfl⟩ := hx
    refine .inl ⟨p, ?_⟩
    simp [Instr.fieldAt, Instr.sureAddr, fieldPlace, Addr.add, Result.andThen, Try.runUnderlying84]
  · refine .inr ⟨ "an address expected (no nilCheck in front?)", ?_⟩
    have hs : Instr.sureAddr x = stuck "an address expected (no nilCheck in front?)" := by
      unfold Instr.sureAddr
      split
      · exact absurd ⟨_, rfl⟩ hx
      · rfl
    simp [Instr.fieldAt, hs, Result.andThen, stuck]
end
end Go.Proofs.Ytdlnlcjmjgbikaa
/- round.serve, in one goroutine: its way to the call of bring, and behind it. -/
namespace Go.Proofs.Ytdlnlcjmjgbikaa
open Go Go.Conc

/-- The places at the entry. -/
abbrev room30 (args : Array Value) : Array Value := args ++ Array.replicate (30 - args.size) undef
theorem enter30 {P : Program} {f : FuncId} {fn : Func} {c : Code} (args : Array Value) (kd : CallKind) (hf : P.funcs[f]? = some fn) (hb : fn.body = some c) (hn : fn.ntmps = 30) :
    Frame.enter P f args kd = (baseK f kd).at ⟨room30 args, []⟩ [.code c] := by
  simp [Frame.enter, Frame.at, hf, hb, hn]
theorem room30_sl (args : Array Value) : Sl ⟨room30 args, []⟩ (fun j => (room30 args).getD j undef) := ⟨rfl, by simp; omega, fun _ => rfl⟩
noncomputable section
theorem serve_at : ∃ fn, Sq.prog.funcs[27]? = some fn ∧ fn.body = some serveC ∧ fn.ntmps = 30 ∧ fn.results = #[] := by
  refine ⟨_, (sq_func 27).trans (congrArg (Option.map (seqFn 27)) Try.func27), ?_, ?_, ?_⟩
  · kernel_rfl
  · kernel_rfl
  · kernel_rfl
/-- The region of the call. -/
abbrev ops4 : Array Oper := #[opq 0 (some 13) (.call ⟨.value (.func 46), #[.tmp 0, .const (.int .i64 0), .tmp 12], #[75, 3, 3]⟩) 64]
variable {base : List Frame} {R : Frame → List Frame → World → Prop}
theorem call46 (args : Array Value) (w : World) (es : Array Event) : (callFunc 46 args).runT Sq.prog w es = (.ok (.enter 46 args) w, es) := by
  cases kind 46 with
  | white f0 hw hP hn b hb hQ => exact call_enter hQ hn rfl args w es
  | mac f0 b hm => exact absurd hm (by simp [Mac])
  | ext f0 he => exact absurd he (by decide)
  | nope hQ =>
    have e := sq_func 46
    rw [hQ, Try.func46] at e
    have e2 : (some nopeF).map (fun x : Func => x.body.isSome) = (Option.map (seqFn 46) (some Try.f46)).map (fun x => x.body.isSome) := congrArg (Option.map fun x : Func => x.body.isSome) e
    rw [show (Option.map (seqFn 46) (some Try.f46)).map (fun x => x.body.isSome) = some true by kernel_rfl] at e2
    cases e2
  | none hP hQ => rw [Try.func46] at hP; cases hP

theorem call46_run (args : Array Value) (w : World) : (callFunc 46 args).run Sq.prog w = .ok (.enter 46 args) w := by
  have := call46 args w #[]
  rw [Sem.runT_eq] at this
  injection this
/-- ████ SERVE'S WAY TO THE CALL OF BRING. ████ -/
theorem serve_got {args : Array Value} {kd : CallKind} (hk : kd ≠ .early) (hR : ∀ fr c v, R fr c v → fr.mode ≠ .run) {c : List Frame} {v : World} (hg : Gd v) (h : Ends Sq.prog base R (Frame.enter Sq.prog 27 args kd) c v) :
    ∃ rp a cap kv A f v5, (room30 args).getD 0 undef = .pointer (some rp) ∧ (room30 args).getD 1 undef = .slice (some a) 1 cap ∧ (room30 args).getD 2 undef = .int .i64 1 ∧ v5 = blk (blk (blk (blk (blk v)))) ∧ v5.cell? a = some kv ∧ Sl A f ∧
      Got Sq.prog base R (Frame.enter Sq.prog 27 args kd) c v (Frame.enter Sq.prog 46 #[(room30 args).getD 0 undef, .int .i64 0, kv] .normal) ((baseK 27 kd).at A [.inRegion ops4 [0]] :: c) v5 := by
  obtain ⟨fn, hf, hb, hn, _⟩ := serve_at
  have he := enter30 args kd hf hb hn
  have hK : (baseK 27 kd).kind ≠ .early := hk
  have h0 := Got.start h
  rw [he] at h0 ⊢
  have s0 := room30_sl args
  generalize (fun j => (room30 args).getD j undef) = f0 at s0
  have g0 : (room30 args).getD 0 undef = f0 0 := s0.get 0
  have g1 : (room30 args).getD 1 undef = f0 1 := s0.get 1
  have g2 : (room30 args).getD 2 undef = f0 2 := s0.get 2
  rw [g0, g1, g2]
  generalize hA0 : (⟨room30 args, []⟩ : Act) = A0 at h0 s0 ⊢
  have h1 := h0.ctl hR rfl stepG_seq
  have h2 := h1.ctl hR rfl stepG_region
  -- five blanks
  have blank1 : ∀ {A : Act} {f : Nat → Value} {i d : Nat} {ops : Array Oper} {rest : List Nat} {k : List Item} {v' : World} {o : Oper}, ops[i]? = some o → o.guard = none → o.dst = some d → o.op = blank → d < 30 → Sl A f →
      Got Sq.prog base R ((baseK 27 kd).at A0 [.code serveC]) c v ((baseK 27 kd).at A (.inRegion ops (i :: rest) :: k)) c v' →
      ∃ A' x, Sl A' (up f d x) ∧ Got Sq.prog base R ((baseK 27 kd).at A0 [.code serveC]) c v ((baseK 27 kd).at A' (.inRegion ops rest :: k)) c (blk v') := by
    intro A f i d ops rest k v' o ho hgd hd hop hdl hs hh
    have hx : execOp A.eval o = (Instr.range 9 (.string .empty) >>= fun x => pure (.value x)) := by
      unfold execOp
      rw [hop]
      rfl
    rcases hh.oper hK hR ho hgd hx rfl with ⟨z, v1, e, h3⟩ | ⟨hh, v1, e, _⟩
    · rw [range_run] at e
      cases e
      rw [hd] at h3
      exact ⟨_, _, hs.put d _ hdl, h3⟩
    · rw [range_run] at e; cases e
  obtain ⟨A1, x1, s1, h3⟩ := blank1 rfl rfl rfl rfl (by decide) s0 h2
  obtain ⟨A2, x2, s2, h4⟩ := blank1 rfl rfl rfl rfl (by decide) s1 h3
  obtain ⟨A3, x3, s3, h5⟩ := blank1 rfl rfl rfl rfl (by decide) s2 h4
  obtain ⟨A4, x4, s4, h6⟩ := blank1 rfl rfl rfl rfl (by decide) s3 h5
  obtain ⟨A5, x5, s5, h7⟩ := blank1 rfl rfl rfl rfl (by decide) s4 h6
  clear h0 h1 h2 h3 h4 h5 h6 s1 s2 s3 s4
  generalize hv5 : blk (blk (blk (blk (blk v)))) = v5 at h7
  have hg5 : Gd v5 := by
    rw [← hv5]
    have hb : ∀ v, Gd v → Gd (blk v) := fun v h => h.push (fun h => h)
    exact hb _ (hb _ (hb _ (hb _ (hb _ hg))))
  have h8 := (h7.ctl hR rfl stepG_region_end).ctl hR rfl stepG_seq
  have h9 := h8.ctl hR rfl stepG_region
  -- workers
  have e2 : A5.eval (.tmp 2) = f0 2 := (s5.eval 2).trans (by simp)
  rcases h9.oper (i := 0) (rest := []) hK hR rfl rfl (s := do eqGuard .eql bad (.tmp 2) (.const (.int .i64 1)) (A5.eval (.tmp 2)) (.int .i64 1); binOp .eql bad (A5.eval (.tmp 2)) (.int .i64 1)) rfl rfl with ⟨z, v1, e, h10⟩ | ⟨hh, v1, e, hd⟩
  rotate_left
  · exfalso
    rcases eql64_run (A5.eval (.tmp 2)) 1 (.tmp 2) (.const (.int .i64 1)) v5 with ⟨n, _, hp⟩ | ⟨m, hm, hp⟩ <;> rw [hp] at e <;> cases e
    exact hd hm
  rcases eql64_run (A5.eval (.tmp 2)) 1 (.tmp 2) (.const (.int .i64 1)) v5 with ⟨n, hw, hpp⟩ | ⟨m, hm, hpp⟩ <;> rw [hpp] at e <;> cases e
  have s6 := s5.put 8 (.bool (n == 1)) (by decide)
  replace h10 : Got Sq.prog base R _ c v ((baseK 27 kd).at (A5.put (some 8) (.bool (n == 1))) _) c v5 := h10
  generalize A5.put (some 8) (.bool (n == 1)) = A6 at s6 h10
  have h11 := (h10.ctl hR rfl stepG_region_end).ctl hR rfl stepG_seq
  have h12 := h11.ctl hR rfl (stepG_cond (t := (n == 1)) ((s6.eval 8).trans (by simp)))
  have hn1 : n = 1 := by
    refine Classical.byContradiction fun hne => ?_
    have hf : (n == 1) = false := by simpa using hne
    rw [hf] at h12
    simp only [Bool.false_eq_true, if_false] at h12
    exact h12.alive (fun hr => hR _ _ _ hr rfl) (by simp [G, stepG, stepG.exec, Frame.at]; exact ⟨rfl, rfl, rfl⟩)
  subst hn1
  simp only [beq_self_eq_true, if_true] at h12
  have h13 := (h12.ctl hR rfl stepG_skip).ctl hR rfl stepG_seq
  have h14 := h13.ctl hR rfl stepG_region
  clear h7 h8 h9 h10 h11 h12 h13
  -- keys
  have e1 : A6.eval (.tmp 1) = f0 1 := (s6.eval 1).trans (by simp)
  have em : #[Operand.tmp 1].map A6.eval = #[A6.eval (.tmp 1)] := by simp
  rcases h14.oper (i := 0) (rest := [1, 2]) hK hR rfl rfl (s := Builtin.len_ #[23] 3 (#[Operand.tmp 1].map A6.eval)) rfl rfl with ⟨z, v1, e, h15⟩ | ⟨hh, v1, e, hd⟩
  rotate_left
  · exfalso
    rw [em] at e
    rcases len23_run (A6.eval (.tmp 1)) v5 with ⟨b, m, cp, _, hp⟩ | ⟨m, hp⟩ <;> rw [hp] at e <;> cases e
    exact hd (hard_stuck m)
  rw [em] at e
  rcases len23_run (A6.eval (.tmp 1)) v5 with ⟨b, m, cp, hsl, hpp⟩ | ⟨m, hpp⟩ <;> rw [hpp] at e <;> cases e
  have s7 := s6.put 9 (.int .i64 m) (by decide)
  replace h15 : Got Sq.prog base R _ c v ((baseK 27 kd).at (A6.put (some 9) (.int .i64 m)) _) c v5 := h15
  generalize A6.put (some 9) (.int .i64 m) = A7 at s7 h15
  rcases h15.oper (i := 1) (rest := [2]) hK hR rfl rfl (s := do eqGuard .eql bad (.tmp 9) (.const (.int .i64 1)) (A7.eval (.tmp 9)) (.int .i64 1); binOp .eql bad (A7.eval (.tmp 9)) (.int .i64 1)) rfl rfl with ⟨z, v1, e, h16⟩ | ⟨hh, v1, e, hd⟩
  rotate_left
  · exfalso
    rcases eql64_run (A7.eval (.tmp 9)) 1 (.tmp 9) (.const (.int .i64 1)) v5 with ⟨n, _, hp⟩ | ⟨m, hm, hp⟩ <;> rw [hp] at e <;> cases e
    exact hd hm
  rcases eql64_run (A7.eval (.tmp 9)) 1 (.tmp 9) (.const (.int .i64 1)) v5 with ⟨n, hn9, hpp⟩ | ⟨m, hm, hpp⟩ <;> rw [hpp] at e <;> cases e
  obtain rfl : (m : Int) = n := by
    have := (s7.eval 9).symm.trans hn9
    simp only [up_at, if_true] at this
    injection this
  have s8 := s7.put 10 (.bool ((m : Int) == 1)) (by decide)
  replace h16 : Got Sq.prog base R _ c v ((baseK 27 kd).at (A7.put (some 10) (.bool ((m : Int) == 1))) _) c v5 := h16
  generalize A7.put (some 10) (.bool ((m : Int) == 1)) = A8 at s8 h16
  have e8 : A8.eval (.tmp 1) = .slice b m cp := (s8.eval 1).trans ((by simp : _ = f0 1).trans (e1.symm.trans hsl))
  rcases h16.oper (i := 2) (rest := []) hK hR rfl rfl (s := do eqGuard .eql 23 (.tmp 1) (.const (.slice none 0 0)) (A8.eval (.tmp 1)) (.slice none 0 0); binOp .eql 23 (A8.eval (.tmp 1)) (.slice none 0 0)) rfl rfl with ⟨z, v1, e, h17⟩ | ⟨hh, v1, e, hd⟩
  rotate_left
  · exfalso
    rw [e8, nil23_run] at e; cases e
  rw [e8, nil23_run] at e
  cases e
  have s9 := s8.put 14 (.bool b.isNone) (by decide)
  replace h17 : Got Sq.prog base R _ c v ((baseK 27 kd).at (A8.put (some 14) (.bool b.isNone)) _) c v5 := h17
  generalize A8.put (some 14) (.bool b.isNone) = A9 at s9 h17
  have h18 := (h17.ctl hR rfl stepG_region_end).ctl hR rfl stepG_seq
  have h19 := h18.ctl hR rfl (stepG_cond (t := ((m : Int) == 1)) ((s9.eval 10).trans (by simp)))
  obtain rfl : m = 1 := by
    refine Classical.byContradiction fun hne => ?_
    have hf : ((m : Int) == 1) = false := by simp; omega
    rw [hf] at h19
    simp only [Bool.false_eq_true, if_false] at h19
    exact h19.alive (fun hr => hR _ _ _ hr rfl) (by simp [G, stepG, stepG.exec, Frame.at]; exact ⟨rfl, rfl, rfl⟩)
  rw [show (((1 : Nat) : Int) == 1) = true from rfl] at h19
  simp only [if_true] at h19
  have h20 := (h19.ctl hR rfl stepG_skip).ctl hR rfl stepG_seq
  have h21 := h20.ctl hR rfl (stepG_cond (t := b.isNone) ((s9.eval 14).trans (by simp)))
  cases b with
  | none =>
    exfalso
    simp only [Option.isNone_none, if_true] at h21
    exact h21.alive (fun hr => hR _ _ _ hr rfl) (by simp [G, stepG, stepG.exec, Frame.at]; exact ⟨rfl, rfl, rfl⟩)
  | some a =>
    simp only [Option.isNone_some, Bool.false_eq_true, if_false] at h21
    have h22 := (h21.ctl hR rfl stepG_skip).ctl hR rfl stepG_seq
    have h23 := h22.ctl hR rfl stepG_region
    clear h14 h15 h16 h17 h18 h19 h20 h21 h22
    have e9 : A9.eval (.tmp 1) = .slice (some a) 1 cp := (s9.eval 1).trans ((by simp : _ = f0 1).trans (e1.symm.trans hsl))
    rcases h23.oper (i := 0) (rest := [1, 2]) hK hR rfl rfl (s := Instr.indexAt 23 (A9.eval (.tmp 1)) (.int .i64 0)) rfl rfl with ⟨z, v1, e, h24⟩ | ⟨hh, v1, e, hd⟩
    rotate_left
    · exfalso
      rw [e9, index23_run] at e; cases e
    rw [e9, index23_run] at e
    cases e
    have s10 := s9.put 11 (.pointer (some a)) (by decide)
    replace h24 : Got Sq.prog base R _ c v ((baseK 27 kd).at (A9.put (some 11) (.pointer (some a))) _) c v5 := h24
    generalize A9.put (some 11) (.pointer (some a)) = A10 at s10 h24
    have e10 : A10.eval (.tmp 11) = .pointer (some a) := (s10.eval 11).trans (by simp)
    rcases h24.oper (i := 1) (rest := [2]) hK hR rfl rfl (s := Instr.loadAt 3 (A10.eval (.tmp 11))) rfl rfl with ⟨z, v1, e, h25⟩ | ⟨hh, v1, e, hd⟩
    rotate_left
    · exfalso
      rw [e10] at e
      rcases load3_run a v5 hg5 with ⟨u, _, hp⟩ | ⟨m, hm, hp⟩ <;> rw [hp] at e <;> cases e
      exact hd hm
    rw [e10] at e
    rcases load3_run a v5 hg5 with ⟨kv, hcell, hpp⟩ | ⟨m, hm, hpp⟩ <;> rw [hpp] at e <;> cases e
    have s11 := s10.put 12 z (by decide)
    replace h25 : Got Sq.prog base R _ c v ((baseK 27 kd).at (A10.put (some 12) z) _) c v5 := h25
    generalize A10.put (some 12) z = A10b at s11 h25
    have e0 : A10b.eval (.tmp 0) = f0 0 := (s11.eval 0).trans (by simp)
    rcases h25.oper (i := 2) (rest := []) hK hR rfl rfl (s := Instr.fieldAt 84 (A10b.eval (.tmp 0)) 1) rfl rfl with ⟨zz, v1, e, h25⟩ | ⟨hh, v1, e, hd⟩
    rotate_left
    · exfalso
      rcases field84_run (A10b.eval (.tmp 0)) v5 with ⟨p, q, _, hp⟩ | ⟨m, hp⟩ <;> rw [hp] at e <;> cases e
      exact hd (hard_stuck m)
    rcases field84_run (A10b.eval (.tmp 0)) v5 with ⟨rp, q, hrp, hpp⟩ | ⟨m, hpp⟩ <;> rw [hpp] at e <;> cases e
    have hr0 := e0.symm.trans hrp
    have s11 := s11.put 15 zz (by decide)
    replace h25 : Got Sq.prog base R _ c v ((baseK 27 kd).at (A10b.put (some 15) zz) _) c v5 := h25
    generalize A10b.put (some 15) zz = A11 at s11 h25
    have h26 := (h25.ctl hR rfl stepG_region_end).ctl hR rfl stepG_region
    refine ⟨rp, a, cp, z, A11, _, v5, hr0, by rw [← hsl, e1], by rw [← hw, e2], rfl, hcell, s11, ?_⟩
    have hx : execOp A11.eval (opq 0 (some 13) (.call ⟨.value (.func 46), #[.tmp 0, .const (.int .i64 0), .tmp 12], #[75, 3, 3]⟩) 64) = callFunc 46 #[f0 0, .int .i64 0, z] := by
      refine (execOp_call_func (a := A11) (f := 46) rfl).trans ?_
      have q0 : A11.eval (.tmp 0) = f0 0 := (s11.eval 0).trans (by simp)
      have q1 : A11.eval (.tmp 12) = z := (s11.eval 12).trans (by simp)
      rw [show (#[Operand.tmp 0, .const (.int .i64 0), .tmp 12].map A11.eval) = #[A11.eval (.tmp 0), .int .i64 0, A11.eval (.tmp 12)] by simp [Act.eval], q0, q1]
    exact h26.go (c1 := (baseK 27 kd).at A11 [.inRegion ops4 [0]] :: c) (fun hr => hR _ _ _ hr rfl) (stepG_enter (k := []) rfl (by simp [Region.wanted]) hK ((congrArg (fun s : Sem Next => s.run Sq.prog v5) hx).trans (call46_run _ _)))
end
end Go.Proofs.Ytdlnlcjmjgbikaa
