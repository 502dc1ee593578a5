/- Comparing; what an operation must be, and what the sequential program has in its place. -/
import Derived.Test.YtdlnlcjmjgbikaaQc
namespace Go.Proofs.Ytdlnlcjmjgbikaa
open Go Go.Conc

def isEq : BinOp → Bool
  | .eql | .neq => true
  | _ => false
def intTy (P : Program) (t : TypeId) : Bool := match P.underlying t with | some (.int _) => true | _ => false

section
variable {P Q : Program} {X : Nat → Prop}

theorem guard_no {op : BinOp} (h : isEq op = false) (t : TypeId) (x y : Operand) (a b : Value) : eqGuard op t x y a b = pure () := by
  cases op <;> first | rfl | cases h
theorem depth_pos (P : Program) : ∃ n, P.depth = n + 1 := ⟨_, rfl⟩
theorem guardType_int {t : TypeId} (h : intTy P t = true) : P.eqGuardType P.depth t = false := by
  obtain ⟨n, hn⟩ := depth_pos P
  rw [hn]
  unfold Program.eqGuardType
  unfold intTy at h
  split at h
  · rename_i hh; rw [hh]
  · cases h
theorem guardType_bad (hB : Q.info? bad = none) : Q.eqGuardType Q.depth bad = false := by
  obtain ⟨n, hn⟩ := depth_pos Q
  rw [hn]
  unfold Program.eqGuardType
  rw [show Q.underlying bad = none by unfold Program.underlying; rw [hB]]

theorem t_guardIn_bad (hB : Q.info? bad = none) (a b : Value) (s : Sem Bool) : Tm P Q X (Op.eqGuardIn Op.maxDepth bad a b) s := by
  show Tm P Q X (Op.eqGuardIn (9999 + 1) bad a b) s
  unfold Op.eqGuardIn
  exact tm_bad hB s
theorem t_guardIn_nil (hT : Kin P Q) (t : TypeId) : Tm P Q X (Op.eqGuardIn Op.maxDepth t .nilIface .nilIface) (Op.eqGuardIn Op.maxDepth t .nilIface .nilIface) := by
  show Tm P Q X (Op.eqGuardIn (9999 + 1) t .nilIface .nilIface) (Op.eqGuardIn (9999 + 1) t .nilIface .nilIface)
  unfold Op.eqGuardIn
  refine tb (t_underlying hT t) fun d => ?_
  cases d <;> exact tp _

theorem t_guard (hT : Kin P Q) (op : BinOp) (t : TypeId) (x y : Operand) (a b : Value) (h : ∀ c d, a = .agg c → b = .agg d → Q.eqGuardType Q.depth t = false ∧ P.eqGuardType P.depth t = false) : Tm P Q X (eqGuard op t x y a b) (eqGuard op t x y a b) := by
  unfold eqGuard
  refine tite (tp _) ?_
  split
  · refine tite (tp _) ?_
    exact tb (t_guardIn_nil hT t) fun r => tite (tu _ _) (tp _)
  · obtain ⟨h1, h2⟩ := h _ _ rfl rfl
    show Tm P Q X (if (!Q.eqGuardType Q.depth t) = true then pure () else _) (if (!P.eqGuardType P.depth t) = true then pure () else _)
    rw [h1, h2]
    exact tp _
  · exact tp _
theorem t_guard_int (hT : Kin P Q) (hB : Q.info? bad = none) (op : BinOp) (t : TypeId) (ht : isEq op = true → intTy P t = true) (x y : Operand) (a b : Value) : Tm P Q X (eqGuard op bad x y a b) (eqGuard op t x y a b) := by
  have _ := hT
  cases hop : isEq op with
  | false => rw [guard_no hop, guard_no hop]; exact tp _
  | true =>
    unfold eqGuard
    refine tite (tp _) ?_
    split
    · refine tite (tp _) ?_
      exact tb (t_guardIn_bad hB _ _ _) fun r => tite (tu _ _) (tp _)
    · show Tm P Q X (if (!Q.eqGuardType Q.depth bad) = true then pure () else _) (if (!P.eqGuardType P.depth t) = true then pure () else _)
      rw [guardType_bad hB, guardType_int (ht hop)]
      exact tp _
    · exact tp _

theorem t_forIn {α β : Type} (f : α → β → Sem (ForInStep β)) (hf : ∀ a b, Tm P Q X (f a b) (f a b)) (l : Array α) (b : β) : Tm P Q X (forIn l b f) (forIn l b f) := by
  rw [← Array.forIn_toList]
  induction l.toList generalizing b with
  | nil => rw [List.forIn_nil]; exact tp _
  | cons a l ih =>
    rw [List.forIn_cons]
    refine tb (hf a b) fun s => ?_
    cases s with
    | done b => exact tp _
    | yield b => exact ih b

/-- A kind of numbers that is not the library's own mark of copies. -/
def plainInt (P : Program) (t : TypeId) : Bool := intTy P t && (match P.info? t with
  | some { desc := .named "sync.copyChecker" _, .. } => false
  | _ => true)

theorem tm_congr {α : Type} {s1' s2' s1 s2 : Sem α} (h' : ∀ v es, s1'.runT Q v es = s2'.runT Q v es) (h : ∀ w es, s1.runT P w es = s2.runT P w es) (k : Tm P Q X s2' s2) : Tm P Q X s1' s1 := by
  intro v es hg
  rw [h']
  obtain ⟨k1, k2, n, k3, k4⟩ := k v es hg
  exact ⟨k1, k2, n, k3, fun w hw ha => by rw [h]; exact k4 w hw ha⟩
theorem run_underlying {p : Program} {t : TypeId} {d : TypeDesc} (h : p.underlying t = some d) {α : Type} (f : TypeDesc → Sem α) (v : World) (es : Array Event) : (underlying t >>= f).runT p v es = (f d).runT p v es := by
  have e : (underlying t).runT p v es = (.ok d v, es) := by
    show Sem.runT p (match p.underlying t with
      | some d => pure d
      | none => stuck "no such type") v es = _
    rw [h]
    rfl
  show (Sem.bind _ _).runT p v es = _
  rw [Sem.runT_bind', e]
theorem run_typeInfo {p : Program} {t : TypeId} {d : TypeInfo} (h : p.info? t = some d) {α : Type} (f : TypeInfo → Sem α) (v : World) (es : Array Event) : (typeInfo t >>= f).runT p v es = (f d).runT p v es := by
  have e : (typeInfo t).runT p v es = (.ok d v, es) := by
    show Sem.runT p (match p.info? t with
      | some d => pure d
      | none => stuck "no such type") v es = _
    rw [h]
    rfl
  show (Sem.bind _ _).runT p v es = _
  rw [Sem.runT_bind', e]
theorem Kin.info (hT : Kin P Q) (t : TypeId) : Q.info? t = P.info? t := by rw [show Q.toTables = P.toTables from hT.symm]

/-- Two numbers of which at least one is none: no answer, or what their places say. -/
theorem t_eq_addr (hT : Kin P Q) (hX : ∀ r, X r → Q.globals.size ≤ r) (t : TypeId) (i : TypeInfo) (hi : P.info? t = some i) (hn : ∀ u, i.desc ≠ .named "sync.copyChecker" u) (a b : Addr) :
    let f : Addr × Bool → Addr × Bool → Sem Bool := fun r q => do
      if r.1.block == q.1.block && r.1.block < (← program).globals.size then return (← byteOf r.1) == (← byteOf q.1)
      let .named "sync.copyChecker" _ := (← typeInfo t).desc | unsupported .addressObserved
      if r.1 == q.1 then pure true else unsupported .addressObserved
    Tm P Q X (do let r ← behindNumber a; let q ← behindNumber b; f r q) (do let r ← behindNumber a; let q ← behindNumber b; f r q) := by
  intro f
  have hiQ : Q.info? t = some i := by rw [hT.info, hi]
  have hg : P.globals = Q.globals := by rw [show P.toTables = Q.toTables from hT]
  -- what follows where no byte is asked
  have late : ∀ (p : Program), p.info? t = some i → ∀ (v : World) (es : Array Event) (x : Bool), (typeInfo t >>= fun i => match i.desc with
      | .named "sync.copyChecker" _ => if x = true then pure true else unsupported .addressObserved
      | _ => (unsupported .addressObserved : Sem Bool)).runT p v es = (.halt (.unsupported .addressObserved) v, es) := by
    intro p hp v es x
    rw [run_typeInfo hp]
    split
    · rename_i hd; exact absurd hd (hn _)
    · rfl
  have core : ∀ (X : Nat → Prop) (P : Program), Kin P Q → P.info? t = some i → (∀ r, X r → Q.globals.size ≤ r) → ∀ r q, Tm P Q X (f r q) (f r q) := by
    intro X P hT hi hX r q
    have hg : P.globals = Q.globals := by rw [show P.toTables = Q.toTables from hT]
    show Tm P Q X (if (r.1.block == q.1.block && decide (r.1.block < Q.globals.size)) = true then _ else _) (if (r.1.block == q.1.block && decide (r.1.block < P.globals.size)) = true then _ else _)
    rw [hg]
    by_cases hc : (r.1.block == q.1.block && decide (r.1.block < Q.globals.size)) = true
    · rw [if_pos hc]
      simp only [Bool.and_eq_true, beq_iff_eq, decide_eq_true_eq] at hc
      have h1 : ¬ X r.1.block := fun h => by have := hX _ h; omega
      have h2 : ¬ X q.1.block := by rw [← hc.1]; exact h1
      exact tb (t_byteOf hT _ h1) fun _ => tb (t_byteOf hT _ h2) fun _ => tp _
    · rw [if_neg hc]
      refine tm_congr (s2' := unsupported .addressObserved) (s2 := unsupported .addressObserved) (fun v es => ?_) (fun v es => ?_) (tu _ _)
      · exact late Q hiQ v es _
      · exact late P hi v es _
  by_cases hx : X a.block ∨ X b.block
  · refine tm_dead ?_ fun v w es hg hw => ?_
    · exact tb (t_number rfl (fun _ h => h.elim) _ (fun h => h)) fun r => tb (t_number rfl (fun _ h => h.elim) _ (fun h => h)) fun q => core _ Q rfl hiQ (fun _ h => h.elim) r q
    · show Dead ((Sem.bind _ fun r => Sem.bind _ fun q => _).runT Q v es).1
      rcases run_number (Q := Q) a v es with ⟨r, e1, h1⟩ | ⟨m, e1, h1⟩
      · rcases run_number (Q := Q) b v e1 with ⟨q, e2, h2⟩ | ⟨m, e2, h2⟩
        · have hd : (r.1.block == q.1.block && decide (r.1.block < Q.globals.size)) = false := by
            rcases hx with hx | hx
            · obtain ⟨e', h1'⟩ := run_number_x (Q := Q) hw hx es
              rw [h1'] at h1
              cases h1
              have := hX _ hx
              simp only [Bool.and_eq_false_iff, decide_eq_false_iff_not]
              exact .inr (by omega)
            · obtain ⟨e', h2'⟩ := run_number_x (Q := Q) hw hx e1
              rw [h2'] at h2
              cases h2
              have := hX _ hx
              by_cases e : r.1.block = b.block
              · simp only [Bool.and_eq_false_iff, decide_eq_false_iff_not]
                exact .inr (by omega)
              · simp [e]
          rw [Sem.runT_bind', h1]
          simp only
          rw [Sem.runT_bind', h2]
          simp only
          show Dead (Sem.runT Q (if (r.1.block == q.1.block && decide (r.1.block < Q.globals.size)) = true then _ else _) v e2).1
          rw [hd]
          have := late Q hiQ v e2 (r.1 == q.1)
          exact this ▸ trivial
        · rw [Sem.runT_bind', h1]
          simp only
          rw [Sem.runT_bind', h2]
          trivial
      · rw [Sem.runT_bind', h1]
        trivial
  · simp only [not_or] at hx
    exact tb (t_number hT hX _ hx.1) fun r => tb (t_number hT hX _ hx.2) fun q => core X P hT hi hX r q

theorem t_eq_int (hT : Kin P Q) (hX : ∀ r, X r → Q.globals.size ≤ r) (d : Nat) (t : TypeId) (ht : plainInt P t = true) (a b : Value) : Tm P Q X (Op.equalIn (d + 1) t a b) (Op.equalIn (d + 1) t a b) := by
  unfold plainInt at ht
  simp only [Bool.and_eq_true] at ht
  obtain ⟨h1, h2⟩ := ht
  unfold intTy at h1
  split at h1
  case h_2 => cases h1
  rename_i k hk
  obtain ⟨i, hi⟩ : ∃ i, P.info? t = some i := by
    cases h : P.info? t with
    | none => unfold Program.underlying at hk; rw [h] at hk; cases hk
    | some i => exact ⟨i, rfl⟩
  have hn : ∀ u, i.desc ≠ .named "sync.copyChecker" u := by
    intro u hu
    rw [hi] at h2
    obtain ⟨_, _, _, _, _, _, _, _, _, _⟩ := i
    simp only at hu
    subst hu
    simp at h2
  have hkQ : Q.underlying t = some (.int k) := by rw [hT.underlying, hk]
  unfold Op.equalIn
  refine tm_congr (fun v es => run_underlying hkQ _ v es) (fun v es => run_underlying hk _ v es) ?_
  split <;> first
    | contradiction
    | exact tp _ | exact tu _ _ | exact ts _ _ | exact tite (tp _) (ts _ _) | exact t_eq_addr hT hX t i hi hn _ _

/-- A struct all of whose parts are numbers. -/
structure NumStruct (P Q : Program) (t : TypeId) : Prop where
  guard : P.eqGuardType P.depth t = false
  guardQ : Q.eqGuardType Q.depth t = false
  stood : P.stoodInHeld t = false
  stoodQ : Q.stoodInHeld t = false
  parts : ∃ fs, P.underlying t = some (.struct fs) ∧ ∀ f ∈ fs, plainInt P f.type = true

theorem t_forIn2 {α β : Type} (f : α → β → Sem (ForInStep β)) (l : Array α) (hf : ∀ a ∈ l, ∀ b, Tm P Q X (f a b) (f a b)) (b : β) : Tm P Q X (forIn l b f) (forIn l b f) := by
  rw [← Array.forIn_toList]
  have hf' : ∀ a ∈ l.toList, ∀ b, Tm P Q X (f a b) (f a b) := fun a ha => hf a (by simpa using ha)
  revert hf'
  generalize l.toList = k
  intro hf'
  induction k generalizing b with
  | nil => rw [List.forIn_nil]; exact tp _
  | cons a k ih =>
    rw [List.forIn_cons]
    refine tb (hf' a (by simp) b) fun s => ?_
    cases s with
    | done b => exact tp _
    | yield b => exact ih b fun x hx => hf' x (by simp [hx])

theorem t_eq_struct (hT : Kin P Q) (hX : ∀ r, X r → Q.globals.size ≤ r) (t : TypeId) (ht : NumStruct P Q t) (a b : Value) : Tm P Q X (Op.equal t a b) (Op.equal t a b) := by
  show Tm P Q X (Op.equalIn (9998 + 1 + 1) t a b) (Op.equalIn (9998 + 1 + 1) t a b)
  obtain ⟨fs, hf, hp⟩ := ht.parts
  have hfQ : Q.underlying t = some (.struct fs) := by rw [hT.underlying, hf]
  rw [Op.equalIn]
  refine tm_congr (fun v es => run_underlying hfQ _ v es) (fun v es => run_underlying hf _ v es) ?_
  split <;> first
    | contradiction
    | exact ts _ _ | skip
  rename_i fields xs ys he
  cases he
  show Tm P Q X (if Q.stoodInHeld t = true then _ else _) (if P.stoodInHeld t = true then _ else _)
  rw [ht.stood, ht.stoodQ]
  refine tb (t_forIn2 _ _ (fun f hf b => ?_) _) fun r => ?_
  · refine tite (tb (t_part hT _ _ _) fun x => tb (t_part hT _ _ _) fun y => tb (t_eq_int hT hX _ _ (hp f hf) _ _) fun z => ?_) (tp _)
    exact tite (tp _) (tp _)
  · dsimp only
    split <;> exact tp _
end
end Go.Proofs.Ytdlnlcjmjgbikaa
/- Calls; what an operation must be, and what the sequential program has in its place. -/
namespace Go.Proofs.Ytdlnlcjmjgbikaa
open Go Go.Conc

section
variable {P Q : Program} {X : Nat → Prop}

theorem t_floatToInt (k : FloatKind) (b : Nat) (d : IntKind) : Tm P Q X (Conv.floatToInt k b d) (Conv.floatToInt k b d) := by
  unfold Conv.floatToInt
  dsimp only
  split
  · exact tite (tp _) (tb (tm_choose _) fun _ => tp _)
  · exact tb (tm_choose _) fun _ => tp _
theorem t_convert (hT : Kin P Q) (s d : TypeId) (hs : intTy P s = true) (hd : intTy P d = true) (x : Value) : Tm P Q X (convert s d x) (convert s d x) := by
  unfold intTy at hs hd
  split at hs
  case h_2 => cases hs
  rename_i k hk
  split at hd
  case h_2 => cases hd
  rename_i j hj
  have hkQ : Q.underlying s = some (.int k) := by rw [hT.underlying, hk]
  have hjQ : Q.underlying d = some (.int j) := by rw [hT.underlying, hj]
  unfold convert
  refine tm_congr (fun v es => run_underlying hkQ _ v es) (fun v es => run_underlying hk _ v es) ?_
  refine tm_congr (fun v es => run_underlying hjQ _ v es) (fun v es => run_underlying hj _ v es) ?_
  split <;> first
    | contradiction
    | exact tp _ | exact tu _ _ | exact t_floatToInt _ _ _
theorem run_byteOf_x {v w : World} (h : Rel X v w) {a : Addr} (ha : X a.block) (hs : a.spot = none) (es : Array Event) : ∃ es', (byteOf a).runT Q v es = (.halt (.stuck "byteOf: no such block") v, es') := by
  have key : ∃ es', (viewAt a.block).runT Q v es = (.ok none v, es') := by
    unfold viewAt
    show ∃ es', Sem.runT Q (.shape a.block fun s => _) v es = _
    simp only [Sem.runT, World.shape?, h.pois _ ha, psn, Sem.bind]
    show ∃ es', Sem.runT Q (.getObj a.block fun s => _) v es = _
    simp only [Sem.runT, h.pois _ ha, psn]
    exact ⟨_, rfl⟩
  obtain ⟨es', key⟩ := key
  have k2 : (noView a).runT Q v es = (.ok () v, es') := by
    unfold noView
    show Sem.runT Q (Sem.bind (viewAt a.block) _) v es = _
    rw [Sem.runT_bind', key]
    rfl
  refine ⟨es', ?_⟩
  unfold byteOf
  rw [hs]
  show Sem.runT Q (Sem.bind (noView a) _) v es = _
  rw [Sem.runT_bind', k2]
  show Sem.runT Q (.shape a.block fun s => _) v es' = _
  simp only [Sem.runT, World.shape?, h.pois _ ha, psn]
  rfl
theorem t_partAt (hT : Kin P Q) (a : Addr) (c n : Nat) : Tm P Q X (partAt a c n) (partAt a c n) := by
  by_cases ha : X a.block
  · refine tm_dead ?_ fun v w es hg hw => ?_
    · exact tb (t_byteOf rfl _ fun h => h) fun b => tb (t_byteOf rfl _ fun h => h) fun d => tp _
    · obtain ⟨e1, k1⟩ := run_byteOf_x (Q := Q) hw (a := { block := a.block, off := a.off + c }) ha rfl es
      show Dead (Sem.runT Q (Sem.bind (byteOf a) fun b => Sem.bind (byteOf { block := a.block, off := a.off + c }) _) v es).1
      cases hs : a.spot with
      | none =>
        obtain ⟨e2, k2⟩ := run_byteOf_x (Q := Q) hw ha hs es
        rw [Sem.runT_bind', k2]
        trivial
      | some z =>
        rw [Sem.runT_bind', show (byteOf a).runT Q v es = (.ok z v, es) from by unfold byteOf; rw [hs]; rfl]
        simp only
        rw [Sem.runT_bind', k1]
        trivial
  · exact tb (t_byteOf hT _ ha) fun b => tb (t_byteOf hT _ ha) fun d => tp _
theorem t_fieldPlace (hT : Kin P Q) (a : Addr) (f : Field) : Tm P Q X (fieldPlace a f) (fieldPlace a f) := by
  unfold fieldPlace
  exact tb (t_sizeOf hT _) fun n => tite (t_partAt hT _ _ _) (tp _)
theorem t_fieldAt (hT : Kin P Q) (s : TypeId) (x : Value) (f : Nat) : Tm P Q X (Instr.fieldAt s x f) (Instr.fieldAt s x f) := by
  unfold Instr.fieldAt
  refine tb (t_underlying hT s) fun d => ?_
  split
  · split
    · exact tb (t_sureAddr x) fun a => tb (t_fieldPlace hT _ _) fun p => tp _
    · exact ts _ _
  · exact ts _ _
theorem t_get (hT : Kin P Q) (t : TypeId) (x : Place) : Tm P Q X (x.get t) (x.get t) := by
  cases x with
  | val v => exact tp _
  | var a => exact t_loadVar hT _ _
theorem t_wrapNil (hT : Kin P Q) (ts' : Array TypeId) (t : TypeId) (p s n : Value) : Tm P Q X (Builtin.ssaWrapNilChk_ ts' t #[p, s, n]) (Builtin.ssaWrapNilChk_ ts' t #[p, s, n]) := by
  unfold Builtin.ssaWrapNilChk_
  cases s with
  | string s =>
    cases n with
    | string n =>
      cases p with
      | pointer p =>
        cases p with
        | none =>
          show Tm P Q X (choose (.extern "ssa:wrapnilchk.dereferenced" 2) >>= _) (choose (.extern "ssa:wrapnilchk.dereferenced" 2) >>= _)
          refine tb (tm_choose _) fun c => ?_
          dsimp only
          repeat' (with_reducible first
            | exact tp _ | exact ts _ _ | exact tu _ _ | exact tg _ | exact t_asInt _ | exact t_asIntOf _ | exact t_asBool _ | exact t_sureAddr _ | exact t_asAddr hT _ | exact t_runtimePanic hT _ | exact t_boundsPanic hT _ _ _ _ | exact t_typeInfo hT _ | exact t_sizeOf hT _ | exact t_zeroValue hT _
            | exact t_underlying hT _ | exact t_elemOf hT _ | exact t_part hT _ _ _ | exact t_newRow _ _ | exact t_newVar _ _ | exact t_askRoom _ | exact tm_choose _ | exact t_loadCells hT _ _ | exact t_storeCells hT _ _ _ | exact t_loadVar hT _ _ | exact t_storeVar hT _ _ _
            | refine tb ?_ fun _ => ?_ | refine tmap ?_ | refine tite ?_ ?_ | split | dsimp only)
        | some a => exact tp _
      | _ => exact ts _ _
    | _ => exact ts _ _
  | _ => cases n <;> exact ts _ _
theorem t_receiverAt (hT : Kin P Q) (t : TypeId) (x : Place) (b : Bool) (w : Option String) : Tm P Q X (receiverAt t x b w) (receiverAt t x b w) := by
  unfold receiverAt
  repeat' (with_reducible first
    | exact tp _ | exact ts _ _ | exact tu _ _ | exact tg _ | exact t_asInt _ | exact t_asIntOf _ | exact t_asBool _ | exact t_sureAddr _ | exact t_asAddr hT _ | exact t_runtimePanic hT _ | exact t_boundsPanic hT _ _ _ _ | exact t_typeInfo hT _ | exact t_sizeOf hT _ | exact t_zeroValue hT _
    | exact t_underlying hT _ | exact t_elemOf hT _ | exact t_part hT _ _ _ | exact t_newRow _ _ | exact t_newVar _ _ | exact t_askRoom _ | exact tm_choose _ | exact t_loadCells hT _ _ | exact t_storeCells hT _ _ _ | exact t_loadVar hT _ _ | exact t_storeVar hT _ _ _ | exact t_get hT _ _ | exact t_wrapNil hT _ _ _ _ _
    | refine tb ?_ fun _ => ?_ | refine tmap ?_ | refine tite ?_ ?_ | split | dsimp only)

theorem t_follow (hT : Kin P Q) (l : List FieldStep) : ∀ t x, Tm P Q X (follow l t x) (follow l t x) := by
  induction l with
  | nil => exact fun t x => tp _
  | cons s l ih =>
    intro t x
    unfold follow
    repeat' (with_reducible first
      | exact tp _ | exact ts _ _ | exact tu _ _ | exact tg _ | exact t_asInt _ | exact t_asIntOf _ | exact t_asBool _ | exact t_sureAddr _ | exact t_asAddr hT _ | exact t_runtimePanic hT _ | exact t_boundsPanic hT _ _ _ _ | exact t_typeInfo hT _ | exact t_sizeOf hT _ | exact t_zeroValue hT _
      | exact t_underlying hT _ | exact t_elemOf hT _ | exact t_part hT _ _ _ | exact t_newRow _ _ | exact t_newVar _ _ | exact t_askRoom _ | exact tm_choose _ | exact t_loadCells hT _ _ | exact t_storeCells hT _ _ _ | exact t_loadVar hT _ _ | exact t_storeVar hT _ _ _ | exact t_get hT _ _ | exact t_fieldPlace hT _ _ | exact ih _ _
      | refine tb ?_ fun _ => ?_ | refine tmap ?_ | refine tite ?_ ?_ | split | dsimp only)
theorem t_receiverVia (hT : Kin P Q) (t : TypeId) (v : Value) (p : Array FieldStep) (b : Bool) : Tm P Q X (receiverVia t v p b) (receiverVia t v p b) := by
  unfold receiverVia
  refine tb (t_follow hT _ _ _) fun r => ?_
  exact t_receiverAt hT _ _ _ _
theorem t_method (hT : Kin P Q) (n : Nat) : ∀ t v name, Tm P Q X (method n t v name) (method n t v name) := by
  induction n with
  | zero => exact fun t v name => tu _ _
  | succ n ih =>
    intro t v name
    unfold method
    repeat' (with_reducible first
      | exact tp _ | exact ts _ _ | exact tu _ _ | exact tg _ | exact t_asInt _ | exact t_asIntOf _ | exact t_asBool _ | exact t_sureAddr _ | exact t_asAddr hT _ | exact t_runtimePanic hT _ | exact t_boundsPanic hT _ _ _ _ | exact t_typeInfo hT _ | exact t_sizeOf hT _ | exact t_zeroValue hT _
      | exact t_underlying hT _ | exact t_elemOf hT _ | exact t_part hT _ _ _ | exact t_newRow _ _ | exact t_newVar _ _ | exact t_askRoom _ | exact tm_choose _ | exact t_loadCells hT _ _ | exact t_storeCells hT _ _ _ | exact t_loadVar hT _ _ | exact t_storeVar hT _ _ _ | exact t_get hT _ _ | exact t_follow hT _ _ _ | exact t_receiverAt hT _ _ _ _ | exact ih _ _ _
      | refine tb ?_ fun _ => ?_ | refine tmap ?_ | refine tite ?_ ?_ | split | dsimp only)
theorem t_followBlind (hT : Kin P Q) (l : List FieldStep) : ∀ t x, Tm P Q X (followBlind l t x) (followBlind l t x) := by
  induction l with
  | nil => exact fun t x => tp _
  | cons s l ih =>
    intro t x
    unfold followBlind
    repeat' (with_reducible first
      | exact tp _ | exact ts _ _ | exact tu _ _ | exact tg _ | exact t_asInt _ | exact t_asIntOf _ | exact t_asBool _ | exact t_sureAddr _ | exact t_asAddr hT _ | exact t_runtimePanic hT _ | exact t_boundsPanic hT _ _ _ _ | exact t_typeInfo hT _ | exact t_sizeOf hT _ | exact t_zeroValue hT _
      | exact t_underlying hT _ | exact t_elemOf hT _ | exact t_part hT _ _ _ | exact t_newRow _ _ | exact t_newVar _ _ | exact t_askRoom _ | exact tm_choose _ | exact t_loadCells hT _ _ | exact t_storeCells hT _ _ _ | exact t_loadVar hT _ _ | exact t_storeVar hT _ _ _ | exact ih _ _
      | refine tb ?_ fun _ => ?_ | refine tmap ?_ | refine tite ?_ ?_ | split | dsimp only)
theorem t_nilAhead (hT : Kin P Q) (n : Nat) : ∀ t v name, Tm P Q X (nilAhead n t v name) (nilAhead n t v name) := by
  induction n with
  | zero => exact fun t v name => tp _
  | succ n ih =>
    intro t v name
    unfold nilAhead
    repeat' (with_reducible first
      | exact tp _ | exact ts _ _ | exact tu _ _ | exact tg _ | exact t_asInt _ | exact t_asIntOf _ | exact t_asBool _ | exact t_sureAddr _ | exact t_asAddr hT _ | exact t_runtimePanic hT _ | exact t_boundsPanic hT _ _ _ _ | exact t_typeInfo hT _ | exact t_sizeOf hT _ | exact t_zeroValue hT _
      | exact t_underlying hT _ | exact t_elemOf hT _ | exact t_part hT _ _ _ | exact t_newRow _ _ | exact t_newVar _ _ | exact t_askRoom _ | exact tm_choose _ | exact t_loadCells hT _ _ | exact t_storeCells hT _ _ _ | exact t_loadVar hT _ _ | exact t_storeVar hT _ _ _ | exact t_followBlind hT _ _ _ | exact ih _ _ _
      | refine tb ?_ fun _ => ?_ | refine tmap ?_ | refine tite ?_ ?_ | split | dsimp only)
theorem t_yield (l : Nat) (args : Array Value) (s : Sem Next) : Tm P Q X (Instr.yield l args) s := by
  intro v es hg
  have e : ∃ m, (Instr.yield l args).runT Q v es = (.halt (.stuck m) v, es) ∨ ∃ es', (Instr.yield l args).runT Q v es = (.halt (.stuck m) v, es') := by
    unfold Instr.yield
    have k : ∃ m es', (Instr.getLoop l).runT Q v es = (.halt (.stuck m) v, es') := by
      unfold Instr.getLoop
      show ∃ m es', Sem.runT Q (.getObj l fun o => _) v es = _
      simp only [Sem.runT]
      split
      · exact ⟨_, _, rfl⟩
      · rename_i o ho hh
        cases o with
        | loop l' => exact absurd hh (hg l _ trivial)
        | _ => exact ⟨_, _, rfl⟩
      · exact ⟨_, _, rfl⟩
    obtain ⟨m, es', k⟩ := k
    refine ⟨m, .inr ⟨es', ?_⟩⟩
    show Sem.runT Q (Sem.bind (Instr.getLoop l) _) v es = _
    rw [Sem.runT_bind', k]
  obtain ⟨m, h | ⟨es', h⟩⟩ := e
  · rw [h]; exact ⟨trivial, hg, 0, .refl v, fun _ _ _ => trivial⟩
  · rw [h]; exact ⟨trivial, hg, 0, .refl v, fun _ _ _ => trivial⟩
end
end Go.Proofs.Ytdlnlcjmjgbikaa
