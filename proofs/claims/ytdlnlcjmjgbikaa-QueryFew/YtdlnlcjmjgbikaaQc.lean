/- Operators. -/
import Derived.Test.YtdlnlcjmjgbikaaQb
namespace Go.Proofs.Ytdlnlcjmjgbikaa
open Go Go.Conc

section
variable {P Q : Program} {X : Nat → Prop}

theorem t_arith (op : BinOp) (k : FloatKind) (x y : Nat) : Tm P Q X (Op.floatArith op k x y) (Op.floatArith op k x y) := by
  unfold Op.floatArith
  repeat' (with_reducible first | exact tp _ | exact ts _ _ | exact tm_choose _ | refine tb ?_ fun _ => ?_ | split | dsimp only)
theorem t_fcmp (op : BinOp) (k : FloatKind) (x y : Nat) : Tm P Q X (Op.floatCmp op k x y) (Op.floatCmp op k x y) := by
  unfold Op.floatCmp
  split <;> first | exact tp _ | exact ts _ _
theorem t_ff (s : FloatKind) (x : Nat) (d : FloatKind) : Tm P Q X (Conv.floatToFloat s x d) (Conv.floatToFloat s x d) := by
  unfold Conv.floatToFloat
  repeat' (with_reducible first | exact tp _ | exact ts _ _ | exact tm_choose _ | refine tb ?_ fun _ => ?_ | refine tite ?_ ?_ | split | dsimp only)
theorem t_carith (op : BinOp) (k : FloatKind) (x y : Nat) : Tm P Q X (Op.Complex.arith op k x y) (Op.Complex.arith op k x y) := by
  unfold Op.Complex.arith
  refine tb (t_arith _ _ _ _) fun v => ?_
  split
  · exact tp _
  · exact ts _ _
theorem t_ccmp (op : BinOp) (k : FloatKind) (x y : Nat) : Tm P Q X (Op.Complex.cmp op k x y) (Op.Complex.cmp op k x y) := tb (t_fcmp _ _ _ _) fun v => t_asBool v
theorem t_cconv (s : FloatKind) (x : Nat) (d : FloatKind) : Tm P Q X (Op.Complex.conv s x d) (Op.Complex.conv s x d) := by
  unfold Op.Complex.conv
  split
  · exact tp _
  · refine tb (t_ff _ _ _) fun v => ?_
    split
    · exact tp _
    · exact ts _ _
theorem t_cadd (x y : Nat) : Tm P Q X (Op.Complex.add x y) (Op.Complex.add x y) := t_carith _ _ _ _
theorem t_csub (x y : Nat) : Tm P Q X (Op.Complex.sub x y) (Op.Complex.sub x y) := t_carith _ _ _ _
theorem t_cmul (x y : Nat) : Tm P Q X (Op.Complex.mul x y) (Op.Complex.mul x y) := t_carith _ _ _ _
theorem t_cquo (x y : Nat) : Tm P Q X (Op.Complex.quo x y) (Op.Complex.quo x y) := t_carith _ _ _ _
theorem t_complex (op : BinOp) (k : FloatKind) (a b c d : Nat) : Tm P Q X (Op.complexOp op k a b c d) (Op.complexOp op k a b c d) := by
  have h1 : ∀ a b c d, Tm P Q X (Op.Complex.product a b c d) (Op.Complex.product a b c d) := fun a b c d => by
    unfold Op.Complex.product
    repeat' (with_reducible first | exact tp _ | exact t_cadd _ _ | exact t_csub _ _ | exact t_cmul _ _ | refine tb ?_ fun _ => ?_)
  have h2 : ∀ s a b c d, Tm P Q X (Op.Complex.corrected s a b c d) (Op.Complex.corrected s a b c d) := fun s a b c d => by
    unfold Op.Complex.corrected
    repeat' (with_reducible first | exact tp _ | exact t_cadd _ _ | exact t_csub _ _ | exact t_cmul _ _ | refine tb ?_ fun _ => ?_)
  have h3 : ∀ a b c d, Tm P Q X (Op.Complex.quotient a b c d) (Op.Complex.quotient a b c d) := fun a b c d => by
    unfold Op.Complex.quotient
    repeat' (with_reducible first | exact tp _ | exact t_cadd _ _ | exact t_csub _ _ | exact t_cmul _ _ | exact t_cquo _ _ | exact t_ccmp _ _ _ _ | exact h2 _ _ _ _ _ | refine tb ?_ fun _ => ?_ | refine tmap ?_ | refine tite ?_ ?_ | split | dsimp only)
  unfold Op.complexOp
  repeat' (with_reducible first | exact tp _ | exact ts _ _ | exact t_carith _ _ _ _ | exact t_cconv _ _ _ | exact t_ccmp _ _ _ _ | exact h1 _ _ _ _ | exact h3 _ _ _ _ | refine tb ?_ fun _ => ?_ | refine tmap ?_ | refine tite ?_ ?_ | split | dsimp only)
theorem t_stringOp (op : BinOp) (x y : ByteArray) : Tm P Q X (Op.stringOp op x y) (Op.stringOp op x y) := by
  unfold Op.stringOp
  dsimp only
  split <;> first | exact tp _ | exact ts _ _ | exact tite (tu _ _) (tp _)
theorem t_shift (hT : Kin P Q) (op : BinOp) (k : IntKind) (x : Int) (j : IntKind) (y : Int) : Tm P Q X (Op.shift op k x j y) (Op.shift op k x j y) := by
  unfold Op.shift
  refine tite (t_runtimePanic hT _) ?_
  dsimp only
  split <;> first | exact tp _ | exact ts _ _
theorem t_intOps (hT : Kin P Q) (op : BinOp) (k : IntKind) (a b : Int) : Tm P Q X (match op with
    | .add | .sub | .mul => Op.intArith op k a b
    | .quo | .rem => Op.intDiv op k a b
    | .and | .or | .xor | .andNot => Op.intBits op k a b
    | _ => Op.intCmp op a b) (match op with
    | .add | .sub | .mul => Op.intArith op k a b
    | .quo | .rem => Op.intDiv op k a b
    | .and | .or | .xor | .andNot => Op.intBits op k a b
    | _ => Op.intCmp op a b) := by
  cases op <;> first | exact tp _ | exact ts _ _ | (unfold Op.intDiv; exact tite (t_runtimePanic hT _) (tp _))

theorem run_bad (hB : Q.info? bad = none) (v : World) (es : Array Event) : (underlying bad).runT Q v es = (.halt (.stuck "no such type") v, es) := by
  have h : Q.underlying bad = none := by unfold Program.underlying; rw [hB]
  show Sem.runT Q (match Q.underlying bad with
    | some d => pure d
    | none => stuck "no such type") v es = _
  rw [h]
  rfl
theorem tm_bad {α : Type} {f' : TypeDesc → Sem α} (hB : Q.info? bad = none) (s : Sem α) : Tm P Q X (underlying bad >>= f') s := by
  intro v es hg
  have e : (underlying bad >>= f').runT Q v es = (.halt (.stuck "no such type") v, es) := by
    show Sem.runT Q (Sem.bind _ _) v es = _
    rw [Sem.runT_bind', run_bad hB]
  rw [e]
  exact ⟨trivial, hg, 0, .refl v, fun _ _ _ => trivial⟩

/-- Where an address stands for a number and no byte of it may be asked, no answer is claimed. -/
theorem t_number (hT : Kin P Q) (hX : ∀ r, X r → Q.globals.size ≤ r) (n : Addr) (hn : ¬ X n.block) : Tm P Q X (behindNumber n) (behindNumber n) := by
  unfold behindNumber numberAt
  have hr := hT
  have hr2 := hX
  refine tb ?_ fun o => tp _
  show Tm P Q X (.shape n.block fun s => _) (.shape n.block fun s => _)
  refine tm_shape _ (fun s => ?_) (fun h => absurd h hn)
  refine tite (tp _) (tb (tm_getObj _ hn) fun o => ?_)
  split <;> exact tp _

theorem run_number (n : Addr) (v : World) (es : Array Event) : (∃ r es', (behindNumber n).runT Q v es = (.ok r v, es')) ∨ ∃ m es', (behindNumber n).runT Q v es = (.halt (.stuck m) v, es') := by
  have key : (∃ r es', (numberAt n.block).runT Q v es = (.ok r v, es')) ∨ ∃ m es', (numberAt n.block).runT Q v es = (.halt (.stuck m) v, es') := by
    unfold numberAt
    show (∃ r es', Sem.runT Q (.shape n.block fun s => _) v es = (.ok r v, es')) ∨ ∃ m es', Sem.runT Q (.shape n.block fun s => _) v es = (.halt (.stuck m) v, es')
    simp only [Sem.runT, Sem.bind]
    split
    · exact .inl ⟨_, _, rfl⟩
    · show (∃ r es', Sem.runT Q (.getObj n.block fun s => _) v es = (.ok r v, es')) ∨ ∃ m es', Sem.runT Q (.getObj n.block fun s => _) v es = (.halt (.stuck m) v, es')
      simp only [Sem.runT]
      split
      · exact .inr ⟨_, _, rfl⟩
      · rename_i o _ _
        refine .inl ?_
        cases o <;> exact ⟨_, _, rfl⟩
      · exact .inr ⟨_, _, rfl⟩
  unfold behindNumber
  rcases key with ⟨r, es', h⟩ | ⟨m, es', h⟩
  · exact .inl ⟨_, es', by show (Sem.bind _ _).runT Q v es = _; rw [Sem.runT_bind', h]; rfl⟩
  · exact .inr ⟨m, es', by show (Sem.bind _ _).runT Q v es = _; rw [Sem.runT_bind', h]⟩
theorem run_number_x {v w : World} (h : Rel X v w) {n : Addr} (hn : X n.block) (es : Array Event) : ∃ es', (behindNumber n).runT Q v es = (.ok (n, false) v, es') := by
  have key : ∃ es', (numberAt n.block).runT Q v es = (.ok none v, es') := by
    unfold numberAt
    show ∃ es', Sem.runT Q (.shape n.block fun s => _) v es = _
    simp only [Sem.runT, World.shape?, h.pois _ hn, psn, Sem.bind]
    show ∃ es', Sem.runT Q (.getObj n.block fun s => _) v es = _
    simp only [Sem.runT, h.pois _ hn, psn]
    exact ⟨_, rfl⟩
  obtain ⟨es', key⟩ := key
  unfold behindNumber
  refine ⟨es', ?_⟩
  show (Sem.bind _ _).runT Q v es = _
  rw [Sem.runT_bind', key]
  rfl

theorem t_viewAt (r : Nat) (hr : ¬ X r) : Tm P Q X (viewAt r) (viewAt r) := by
  unfold viewAt
  show Tm P Q X (.shape r fun s => _) (.shape r fun s => _)
  refine tm_shape _ (fun s => ?_) (fun h => absurd h hr)
  refine tite (tp _) (tb (tm_getObj _ hr) fun o => ?_)
  split <;> exact tp _
theorem t_noView (a : Addr) (hr : ¬ X a.block) : Tm P Q X (noView a) (noView a) := by
  unfold noView
  exact tb (t_viewAt _ hr) fun o => tite (tu _ _) (tp _)
theorem Kin.bo (hT : Kin P Q) (d : Nat) (t : TypeId) (o : Nat) : byteOfCell Q d t o = byteOfCell P d t o := by
  obtain ⟨T, F⟩ := P
  obtain ⟨T', F'⟩ := Q
  obtain rfl : T = T' := hT
  exact kin_bo T F' F d t o
theorem t_byteOf (hT : Kin P Q) (a : Addr) (hr : ¬ X a.block) : Tm P Q X (byteOf a) (byteOf a) := by
  unfold byteOf
  split
  · exact tp _
  · refine tprog (tb (t_noView a hr) fun _ => ?_)
    show Tm P Q X (.shape a.block fun s => _) (.shape a.block fun s => _)
    refine tm_shape _ (fun s => ?_) (fun h => absurd h hr)
    have e1 : ∀ t, Q.cellsOf t = P.cellsOf t := fun t => by unfold Program.cellsOf; rw [show Q.toTables = P.toTables from hT.symm]
    have e2 : ∀ t, Q.bytesOf t = P.bytesOf t := fun t => by unfold Program.bytesOf; rw [show Q.toTables = P.toTables from hT.symm]
    have e3 : Q.depth = P.depth := by unfold Program.depth; rw [show Q.toTables = P.toTables from hT.symm]
    show Tm P Q X (Sem.bind (.pure s) _) (Sem.bind (.pure s) _)
    simp only [Sem.bind, e1, e2, e3, hT.bo]
    split
    · refine tite (tp _) ?_
      split
      · exact tp _
      · exact ts _ _
    · exact ts _ _
theorem t_twoPlaces (hT : Kin P Q) (hX : ∀ r, X r → Q.globals.size ≤ r) (a b : Addr) : Tm P Q X (Op.twoPlaces a b) (Op.twoPlaces a b) := by
  unfold Op.twoPlaces
  refine tprog ?_
  rw [show P.globals = Q.globals by rw [show P.toTables = Q.toTables from hT]]
  by_cases hc : (a.block != b.block || decide (a.block ≥ Q.globals.size)) = true
  · rw [if_pos hc]
    exact tm_unsupported _ _
  · rw [if_neg hc]
    simp only [Bool.or_eq_true, bne_iff_ne, ne_eq, decide_eq_true_eq, not_or, Decidable.not_not, Nat.not_le] at hc
    have ha : ¬ X a.block := fun h => by have := hX _ h; omega
    have hb : ¬ X b.block := by rw [← hc.1]; exact ha
    exact tb (t_byteOf hT a ha) fun _ => tb (t_byteOf hT b hb) fun _ => tp _

theorem run_places {v : World} {a b : Addr} (h : a.block ≠ b.block ∨ Q.globals.size ≤ a.block) (es : Array Event) : (Op.twoPlaces a b).runT Q v es = (.halt (.unsupported .addressObserved) v, es) := by
  unfold Op.twoPlaces
  show Sem.runT Q (if (a.block != b.block || decide (a.block ≥ Q.globals.size)) = true then _ else _) v es = _
  rw [if_pos (by simpa using h)]
  rfl

/-- Two addresses that stand for numbers. -/
theorem t_two {α : Type} (hT : Kin P Q) (hX : ∀ r, X r → Q.globals.size ≤ r) (a b : Addr) (f : Nat × Nat → Sem α) (hf : ∀ x, Tm P Q X (f x) (f x)) (hf0 : ∀ x, Tm Q Q (fun _ => False) (f x) (f x)) :
    Tm P Q X (do let r ← behindNumber a; let q ← behindNumber b; Op.twoPlaces r.1 q.1 >>= f) (do let r ← behindNumber a; let q ← behindNumber b; Op.twoPlaces r.1 q.1 >>= f) := by
  by_cases hx : X a.block ∨ X b.block
  · refine tm_dead ?_ fun v w es hg hw => ?_
    · exact tb (t_number rfl (fun _ h => h.elim) _ (fun h => h)) fun r => tb (t_number rfl (fun _ h => h.elim) _ (fun h => h)) fun q => tb (t_twoPlaces rfl (fun _ h => h.elim) _ _) hf0
    · show Dead ((Sem.bind _ fun r => Sem.bind _ fun q => Sem.bind _ _).runT Q v es).1
      rcases run_number (Q := Q) a v es with ⟨r, e1, h1⟩ | ⟨m, e1, h1⟩
      · rcases run_number (Q := Q) b v e1 with ⟨q, e2, h2⟩ | ⟨m, e2, h2⟩
        · have hd : r.1.block ≠ q.1.block ∨ Q.globals.size ≤ r.1.block := by
            rcases hx with hx | hx
            · obtain ⟨e', h1'⟩ := run_number_x (Q := Q) hw hx es
              rw [h1'] at h1
              cases h1
              exact .inr (hX _ hx)
            · obtain ⟨e', h2'⟩ := run_number_x (Q := Q) hw hx e1
              rw [h2'] at h2
              cases h2
              by_cases e : r.1.block = b.block
              · exact .inr (by rw [e]; exact hX _ hx)
              · exact .inl e
          rw [Sem.runT_bind', h1]
          simp only
          rw [Sem.runT_bind', h2]
          simp only
          rw [Sem.runT_bind', run_places hd]
          trivial
        · rw [Sem.runT_bind', h1]
          simp only
          rw [Sem.runT_bind', h2]
          trivial
      · rw [Sem.runT_bind', h1]
        trivial
  · simp only [not_or] at hx
    exact tb (t_number hT hX _ hx.1) fun r => tb (t_number hT hX _ hx.2) fun q => tb (t_twoPlaces hT hX _ _) hf

theorem t_addrMod (hT : Kin P Q) (k : IntKind) (a : Addr) (n : Int) : Tm P Q X (Op.addrMod k a n) (Op.addrMod k a n) := by
  unfold Op.addrMod
  show Tm P Q X (.shape a.block fun s => _) (.shape a.block fun s => _)
  by_cases ha : X a.block
  · refine tm_dead ?_ fun v w es hg hw => ?_
    · refine tm_shape _ (fun s => ?_) (fun h => h.elim)
      show Tm Q Q _ (Sem.bind (.pure s) _) (Sem.bind (.pure s) _)
      simp only [Sem.bind]
      split
      · refine tb (t_typeInfo rfl _) fun i => ?_
        refine tite (tb (tu _ _) fun _ => tb (t_byteOf rfl _ (fun h => h)) fun _ => tp _) (tb (t_byteOf rfl _ (fun h => h)) fun _ => tp _)
      · exact tu _ _
    · simp only [Sem.runT, World.shape?, hw.pois _ ha, psn]
      trivial
  · refine tm_shape _ (fun s => ?_) (fun h => absurd h ha)
    show Tm P Q X (Sem.bind (.pure s) _) (Sem.bind (.pure s) _)
    simp only [Sem.bind]
    split
    · refine tb (t_typeInfo hT _) fun i => ?_
      refine tite (tb (tu _ _) fun _ => tb (t_byteOf hT _ ha) fun _ => tp _) (tb (t_byteOf hT _ ha) fun _ => tp _)
    · exact tu _ _
theorem t_mod (hT : Kin P Q) (hX : ∀ r, X r → Q.globals.size ≤ r) (k : IntKind) (a : Addr) (n : Int) :
    Tm P Q X (do let r ← behindNumber a; Op.addrMod k r.1 n) (do let r ← behindNumber a; Op.addrMod k r.1 n) := by
  by_cases ha : X a.block
  · refine tm_dead ?_ fun v w es hg hw => ?_
    · exact tb (t_number rfl (fun _ h => h.elim) _ (fun h => h)) fun r => t_addrMod rfl _ _ _
    · show Dead ((Sem.bind _ _).runT Q v es).1
      obtain ⟨e', h1⟩ := run_number_x (Q := Q) hw ha es
      rw [Sem.runT_bind', h1]
      show Dead (Sem.runT Q (Op.addrMod k a n) v e').1
      unfold Op.addrMod
      show Dead (Sem.runT Q (.shape a.block fun s => _) v e').1
      simp only [Sem.runT, World.shape?, hw.pois _ ha, psn]
      trivial
  · exact tb (t_number hT hX _ ha) fun r => t_addrMod hT _ _ _

theorem t_equal_bad (hB : Q.info? bad = none) (a b : Value) (s : Sem Bool) : Tm P Q X (Op.equal bad a b) s := by
  show Tm P Q X (Op.equalIn (9999 + 1) bad a b) s
  unfold Op.equalIn
  exact tm_bad hB s
theorem t_moved_bad (hB : Q.info? bad = none) (a b : Value) (s : Sem Value) : Tm P Q X (movedNumber bad a b) s := by
  unfold movedNumber
  exact tm_bad hB s

/-- An operator on numbers: the sequential program's bears no type. -/
theorem t_binOp (hT : Kin P Q) (hB : Q.info? bad = none) (hX : ∀ r, X r → Q.globals.size ≤ r) (op : BinOp) (t : TypeId) (a b : Value) : Tm P Q X (binOp op bad a b) (binOp op t a b) := by
  unfold binOp
  split
  · exact t_shift hT _ _ _ _ _
  · exact t_shift hT _ _ _ _ _
  · exact tite (ts _ _) (t_intOps hT _ _ _ _)
  · refine tite (ts _ _) ?_
    split <;> first | exact t_arith _ _ _ _ | exact t_fcmp _ _ _ _
  · exact tite (ts _ _) (t_complex _ _ _ _ _ _)
  · exact t_stringOp _ _ _
  · exact tb (t_equal_bad hB _ _ _) fun _ => tp _
  · exact tb (t_equal_bad hB _ _ _) fun _ => tp _
  · exact tm_bad hB _
  · exact t_moved_bad hB _ _ _
  · exact t_moved_bad hB _ _ _
  · exact t_two hT hX _ _ (fun p => pure (Value.int .u64 (IntKind.u64.wrap ((p.1 : Int) - p.2)))) (fun _ => tp _) (fun _ => tp _)
  · exact t_two hT hX _ _ (fun p => pure (Value.bool (decide (p.1 < p.2)))) (fun _ => tp _) (fun _ => tp _)
  · exact t_two hT hX _ _ (fun p => pure (Value.bool (decide (p.1 ≤ p.2)))) (fun _ => tp _) (fun _ => tp _)
  · exact t_two hT hX _ _ (fun p => pure (Value.bool (decide (p.1 > p.2)))) (fun _ => tp _) (fun _ => tp _)
  · exact t_two hT hX _ _ (fun p => pure (Value.bool (decide (p.1 ≥ p.2)))) (fun _ => tp _) (fun _ => tp _)
  · exact t_mod hT hX _ _ _
  · exact t_mod hT hX _ _ _
  · exact t_mod hT hX _ _ _
  · exact tu _ _
  · exact tu _ _
  · exact ts _ _

/-- A literal nil. -/
def nilC : Operand → Bool
  | .const .nilIface | .const (.pointer none) | .const (.slice none _ _) | .const .nilFunc | .const (.chan none) | .const (.map none) => true
  | _ => false

theorem t_eq_nil (hT : Kin P Q) (t : TypeId) (a b : Value) (h : b = .nilIface ∨ b = .pointer none ∨ (∃ n c, b = .slice none n c) ∨ b = .nilFunc ∨ b = .chan none ∨ b = .map none) : Tm P Q X (Op.equal t a b) (Op.equal t a b) := by
  show Tm P Q X (Op.equalIn (9999 + 1) t a b) (Op.equalIn (9999 + 1) t a b)
  unfold Op.equalIn
  refine tb (t_underlying hT t) fun d => ?_
  rcases h with rfl | rfl | ⟨n, c, rfl⟩ | rfl | rfl | rfl
  all_goals
    cases d <;> try exact ts _ _
    all_goals
      cases a <;> try exact ts _ _
      all_goals first | exact tp _ | exact tu _ _ | (rename_i o; cases o <;> first | exact tp _ | exact tu _ _ | exact ts _ _) | (rename_i o _ _; cases o <;> first | exact tp _ | exact tu _ _ | exact ts _ _)
end
end Go.Proofs.Ytdlnlcjmjgbikaa
