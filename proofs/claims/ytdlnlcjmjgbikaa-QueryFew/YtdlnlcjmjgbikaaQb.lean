/- The operations that the sequential program's functions are made of do the same in both worlds. -/
import Derived.Test.YtdlnlcjmjgbikaaQa
namespace Go.Proofs.Ytdlnlcjmjgbikaa
open Go Go.Conc

section
variable {P Q : Program} {X : Nat → Prop}

theorem tb {α β : Type} {s' s : Sem α} {f' f : α → Sem β} (h : Tm P Q X s' s) (hf : ∀ a, Tm P Q X (f' a) (f a)) : Tm P Q X (s' >>= f') (s >>= f) := tm_bind h hf
theorem tp {α : Type} (a : α) : Tm P Q X (pure a) (pure a) := tm_pure a
theorem ts {α : Type} (m : String) (s : Sem α) : Tm P Q X (stuck m) s := tm_stuck m s
theorem tu {α : Type} (u : Unsupported) (s : Sem α) : Tm P Q X (unsupported u) s := tm_unsupported u s
theorem tg {α : Type} (x : Value) : Tm P Q X (α := α) (goPanic x) (goPanic x) := tm_panic x
theorem tmap {α β : Type} {s' s : Sem α} {f : α → β} (h : Tm P Q X s' s) : Tm P Q X (f <$> s') (f <$> s) := tm_bind h fun _ => tm_pure _
theorem tite {α : Type} {c : Prop} [Decidable c] {a' a b' b : Sem α} (h1 : Tm P Q X a' a) (h2 : Tm P Q X b' b) : Tm P Q X (if c then a' else b') (if c then a else b) := by
  split
  · exact h1
  · exact h2
theorem tprog {α : Type} {f' f : Program → Sem α} (h : Tm P Q X (f' Q) (f P)) : Tm P Q X (program >>= f') (program >>= f) := h

/-- No answer, and no panic. -/
def Dead {α : Type} : Result α → Prop
  | .halt (.panic _) _ => False
  | .halt _ _ => True
  | .ok _ _ => False

/-- Where the sequential program gives no answer if a block of X is met. -/
theorem tm_dead {α : Type} {s' s : Sem α} (h : Tm Q Q (fun _ => False) s' s') (hd : ∀ v w es, Gd v → Rel X v w → Dead (s'.runT Q v es).1) : Tm P Q X s' s := by
  intro v es hg
  obtain ⟨h1, h2, n, h3, _⟩ := h v es hg
  refine ⟨h1, h2, n, h3, fun w hw _ => ?_⟩
  have := hd v w es hg hw
  revert this
  generalize s'.runT Q v es = y
  obtain ⟨y1, y2⟩ := y
  cases y1 with
  | ok a v1 => exact fun h => h.elim
  | halt hh v1 => cases hh <;> first | exact fun h => h.elim | exact fun _ => trivial

theorem t_getObj {α : Type} (r : Nat) {f : Obj → Sem α} (hf : ∀ o, Tm P Q X (f o) (f o)) (hf0 : ∀ o, Tm Q Q (fun _ => False) (f o) (f o)) (hx : ∀ v es, Dead ((f psn).runT Q v es).1) : Tm P Q X (getObj r >>= f) (getObj r >>= f) := by
  by_cases hr : X r
  · refine tm_dead (tb (tm_getObj r fun h => h) hf0) fun v w es hg hw => ?_
    show Dead ((Sem.bind (getObj r) f).runT Q v es).1
    rw [Sem.runT_bind', show (getObj r).runT Q v es = (.ok psn v, es.push ⟨.obj r, false, false⟩) from by
      simp only [getObj, Sem.runT, hw.pois r hr]
      rfl]
    exact hx _ _
  · exact tb (tm_getObj r hr) hf
theorem t_typeInfo (hT : Kin P Q) (t : TypeId) : Tm P Q X (typeInfo t) (typeInfo t) := by
  unfold typeInfo
  refine tprog ?_
  rw [show Q.info? t = P.info? t by rw [show Q.toTables = P.toTables from hT.symm]]
  split
  · exact tp _
  · exact ts _ _
theorem Kin.underlying (hT : Kin P Q) (t : TypeId) : Q.underlying t = P.underlying t := by
  obtain ⟨T, F⟩ := P
  obtain ⟨T', F'⟩ := Q
  obtain rfl : T = T' := hT
  rfl
theorem t_underlying (hT : Kin P Q) (t : TypeId) : Tm P Q X (underlying t) (underlying t) := by
  unfold underlying
  refine tprog ?_
  rw [hT.underlying t]
  split
  · exact tp _
  · exact ts _ _
theorem t_zeroValue (hT : Kin P Q) (t : TypeId) : Tm P Q X (zeroValue t) (zeroValue t) := by
  unfold zeroValue
  refine tb (t_typeInfo hT t) fun i => ?_
  split
  · exact tp _
  · exact tu _ _
theorem t_sizeOf (hT : Kin P Q) (t : TypeId) : Tm P Q X (sizeOf t) (sizeOf t) := by
  unfold sizeOf
  exact tb (t_typeInfo hT t) fun i => tp _
theorem t_isAgg (hT : Kin P Q) (t : TypeId) : Tm P Q X (isAgg t) (isAgg t) := by
  unfold isAgg
  refine tb (t_underlying hT t) fun i => ?_
  split <;> exact tp _
theorem t_loadCellsFrom (hT : Kin P Q) (a : Addr) (n : Nat) : ∀ i acc, Tm P Q X (loadCellsFrom a i n acc) (loadCellsFrom a i n acc) := by
  induction n with
  | zero => exact fun i acc => tp _
  | succ n ih => exact fun i acc => tb (tm_load hT _ _) fun v => ih _ _
theorem t_loadCells (hT : Kin P Q) (a : Addr) (n : Nat) : Tm P Q X (loadCells a n) (loadCells a n) := t_loadCellsFrom hT a n 0 #[]
theorem t_storeCells (hT : Kin P Q) (a : Addr) (vs : List Value) : ∀ i, Tm P Q X (storeCells a vs i) (storeCells a vs i) := by
  induction vs with
  | nil => exact fun i => tp _
  | cons v vs ih => exact fun i => tb (tm_store hT _ _ _) fun _ => ih _
theorem t_loadVar (hT : Kin P Q) (t : TypeId) (a : Addr) : Tm P Q X (loadVar t a) (loadVar t a) := by
  unfold loadVar
  refine tb (t_isAgg hT t) fun b => ?_
  split
  · exact tb (t_sizeOf hT t) fun n => tb (t_loadCells hT a n) fun c => tp _
  · exact tm_load hT _ _
theorem t_storeVar (hT : Kin P Q) (t : TypeId) (a : Addr) (v : Value) : Tm P Q X (storeVar t a v) (storeVar t a v) := by
  unfold storeVar
  refine tb (t_sizeOf hT t) fun n => ?_
  split
  · exact tb (ts _ _) fun _ => t_storeCells hT _ _ _
  · exact t_storeCells hT _ _ _
theorem t_newRow (e : TypeId) (c : Array Value) : Tm P Q X (newRow e c) (newRow e c) := tb (tm_new _ fun h => h) fun _ => tp _
theorem t_newVar (e : TypeId) (v : Value) : Tm P Q X (newVar e v) (newVar e v) := t_newRow _ _
theorem t_sureAddr (v : Value) : Tm P Q X (Instr.sureAddr v) (Instr.sureAddr v) := by
  unfold Instr.sureAddr
  split
  · exact tp _
  · exact ts _ _
theorem t_elemOf (hT : Kin P Q) (t : TypeId) : Tm P Q X (elemOf t) (elemOf t) := by
  unfold elemOf
  refine tb (t_underlying hT t) fun d => ?_
  split
  · exact tp _
  · exact ts _ _
theorem t_part (hT : Kin P Q) (t : TypeId) (cs : Array Value) (off : Nat) : Tm P Q X (part t cs off) (part t cs off) := by
  unfold part
  refine tb (t_isAgg hT t) fun b => ?_
  split
  · exact tb (t_sizeOf hT t) fun n => tp _
  · split
    · exact tp _
    · exact ts _ _
theorem t_runtimePanic {α : Type} (hT : Kin P Q) (e : RuntimeError) : Tm P Q X (α := α) (runtimePanic e) (runtimePanic e) := by
  unfold runtimePanic
  refine tprog ?_
  rw [show Q.rt = P.rt by rw [show Q.toTables = P.toTables from hT.symm]]
  have ht : ∀ t, typeHandle Q t = typeHandle P t := fun t => by unfold typeHandle; rw [show Q.toTables = P.toTables from hT.symm]
  simp only [ht]
  split
  · exact tg _
  · exact tg _
  · exact tg _
  · exact tg _
  · exact tb (t_elemOf hT _) fun e => tb (t_newVar _ _) fun r => tg _
  · exact tb (t_elemOf hT _) fun e => tb (t_newVar _ _) fun r => tg _
  · exact tg _
theorem t_asAddr (hT : Kin P Q) (v : Value) : Tm P Q X (asAddr v) (asAddr v) := by
  unfold asAddr
  split
  · exact tp _
  · exact t_runtimePanic hT _
  · exact ts _ _
theorem t_asIntOf (v : Value) : Tm P Q X (asIntOf v) (asIntOf v) := by
  unfold asIntOf
  split
  · exact tp _
  · exact tu _ _
  · exact ts _ _
theorem t_asInt (v : Value) : Tm P Q X (asInt v) (asInt v) := tb (t_asIntOf v) fun _ => tp _
theorem t_asBool (v : Value) : Tm P Q X (asBool v) (asBool v) := by
  unfold asBool
  split
  · exact tp _
  · exact ts _ _
theorem t_boundsPanic {α : Type} (hT : Kin P Q) (k : IntKind) (x y : Int) (c : BoundsCode) : Tm P Q X (α := α) (boundsPanic k x y c) (boundsPanic k x y c) := by
  unfold boundsPanic
  dsimp only
  split
  · exact tb (tmap (tm_choose _)) fun _ => t_runtimePanic hT _
  · exact tb (tp _) fun _ => t_runtimePanic hT _
theorem t_askRoom (n : Nat) : Tm P Q X (askRoom n) (askRoom n) := by
  unfold askRoom
  split
  · exact tm_mark _ trivial
  · exact tp _

theorem t_alloc (hT : Kin P Q) (e : TypeId) : Tm P Q X (Instr.alloc e true (.tuple #[])) (Instr.alloc e true (.tuple #[])) :=
  tb (t_zeroValue hT e) fun _ => tb (t_newVar _ _) fun _ => tp _
theorem t_box (e : TypeId) (v : Value) : Tm P Q X (Instr.box e v) (Instr.box e v) := tb (t_newVar _ _) fun _ => tp _

theorem t_mapM {α β : Type} (f : α → Sem β) (hf : ∀ a, Tm P Q X (f a) (f a)) (l : Array α) : Tm P Q X (l.mapM f) (l.mapM f) := by
  rw [Array.mapM_eq_mapM_toList]
  refine tmap ?_
  induction l.toList with
  | nil => exact tp _
  | cons a l ih => rw [List.mapM_cons]; exact tb (hf a) fun b => tb ih fun bs => tp _

theorem t_build (hT : Kin P Q) (t : TypeId) (parts : Array (Nat × Value)) : Tm P Q X (Instr.build t parts) (Instr.build t parts) := by
  unfold Instr.build
  refine tb (t_zeroValue hT t) fun z => tb (t_underlying hT t) fun d => ?_
  split
  · refine tb (t_mapM _ (fun f => tb (t_sizeOf hT _) fun n => tp _) _) fun ps => ?_
    split
    · exact tp _
    · exact ts _ _
  · refine tb (t_sizeOf hT _) fun n => ?_
    split
    · exact tp _
    · exact ts _ _
  · exact ts _ _
theorem t_buildSlice (hT : Kin P Q) (t : TypeId) (len : Nat) (parts : Array (Nat × Value)) : Tm P Q X (Instr.buildSlice t len parts) (Instr.buildSlice t len parts) := by
  unfold Instr.buildSlice
  repeat' (with_reducible first
    | exact tp _ | exact ts _ _ | exact tu _ _ | exact tg _ | exact t_asInt _ | exact t_asIntOf _ | exact t_asBool _ | exact t_sureAddr _ | exact t_asAddr hT _ | exact t_runtimePanic hT _ | exact t_boundsPanic hT _ _ _ _ | exact t_typeInfo hT _ | exact t_sizeOf hT _ | exact t_zeroValue hT _
    | exact t_underlying hT _ | exact t_elemOf hT _ | exact t_part hT _ _ _ | exact t_newRow _ _ | exact t_newVar _ _ | exact t_askRoom _ | exact tm_choose _ | exact t_loadCells hT _ _ | exact t_storeCells hT _ _ _ | exact t_loadVar hT _ _ | exact t_storeVar hT _ _ _
    | refine tb ?_ fun _ => ?_ | refine tmap ?_ | refine tite ?_ ?_ | split | dsimp only)
theorem t_extract (v : Value) (i : Nat) : Tm P Q X (Instr.extract v i) (Instr.extract v i) := by
  unfold Instr.extract
  split
  · split
    · exact tp _
    · exact ts _ _
  · exact ts _ _
theorem t_makeInterface (hT : Kin P Q) (t : TypeId) (v : Value) : Tm P Q X (Instr.makeInterface t v) (Instr.makeInterface t v) := by
  unfold Instr.makeInterface
  refine tb (t_underlying hT t) fun d => ?_
  split
  · exact ts _ _
  · exact tp _
theorem t_unary (o : UnOp) (v : Value) : Tm P Q X (Op.unary o v) (Op.unary o v) := by
  unfold Op.unary
  split
  · unfold Op.intArith; exact tp _
  · unfold Op.intBits; exact tp _
  · exact tp _
  · exact tp _
  · exact tp _
  · exact tu _ _
  · exact tu _ _
  · exact ts _ _
theorem t_makeChan (hT : Kin P Q) (t : TypeId) (v : Value) : Tm P Q X (Instr.makeChan t v) (Instr.makeChan t v) := by
  unfold Instr.makeChan
  refine tb (t_asInt v) fun n => tb (t_underlying hT t) fun d => ?_
  split
  · refine tb (t_typeInfo hT _) fun i => ?_
    split
    · exact tb (t_runtimePanic hT _) fun _ => tb (tm_new _ fun h => h) fun _ => tp _
    · exact tb (tm_new _ fun h => h) fun _ => tp _
  · exact ts _ _
theorem t_makeSlice (hT : Kin P Q) (t : TypeId) (l c : Value) : Tm P Q X (Instr.makeSlice t l c) (Instr.makeSlice t l c) := by
  unfold Instr.makeSlice
  repeat' (with_reducible first
    | exact tp _ | exact ts _ _ | exact tu _ _ | exact tg _ | exact t_asInt _ | exact t_asIntOf _ | exact t_asBool _ | exact t_sureAddr _ | exact t_asAddr hT _ | exact t_runtimePanic hT _ | exact t_boundsPanic hT _ _ _ _ | exact t_typeInfo hT _ | exact t_sizeOf hT _ | exact t_zeroValue hT _
    | exact t_underlying hT _ | exact t_elemOf hT _ | exact t_part hT _ _ _ | exact t_newRow _ _ | exact t_newVar _ _ | exact t_askRoom _ | exact tm_choose _ | exact t_loadCells hT _ _ | exact t_storeCells hT _ _ _ | exact t_loadVar hT _ _ | exact t_storeVar hT _ _ _
    | refine tb ?_ fun _ => ?_ | refine tmap ?_ | refine tite ?_ ?_ | split | dsimp only)
theorem t_sliceBound (hT : Kin P Q) (x : Value) (y : Nat) (c : BoundsCode) : Tm P Q X (Instr.sliceBound x y c) (Instr.sliceBound x y c) := by
  unfold Instr.sliceBound
  repeat' (with_reducible first
    | exact tp _ | exact ts _ _ | exact tu _ _ | exact tg _ | exact t_asInt _ | exact t_asIntOf _ | exact t_asBool _ | exact t_sureAddr _ | exact t_asAddr hT _ | exact t_runtimePanic hT _ | exact t_boundsPanic hT _ _ _ _ | exact t_typeInfo hT _ | exact t_sizeOf hT _ | exact t_zeroValue hT _
    | exact t_underlying hT _ | exact t_elemOf hT _ | exact t_part hT _ _ _ | exact t_newRow _ _ | exact t_newVar _ _ | exact t_askRoom _ | exact tm_choose _ | exact t_loadCells hT _ _ | exact t_storeCells hT _ _ _ | exact t_loadVar hT _ _ | exact t_storeVar hT _ _ _
    | refine tb ?_ fun _ => ?_ | refine tmap ?_ | refine tite ?_ ?_ | split | dsimp only)
theorem t_sliceBounds (hT : Kin P Q) (b : Bool) (n m : Nat) (l h x : Option Value) : Tm P Q X (Instr.sliceBounds b n m l h x) (Instr.sliceBounds b n m l h x) := by
  unfold Instr.sliceBounds
  repeat' (with_reducible first
    | exact tp _ | exact ts _ _ | exact tu _ _ | exact tg _ | exact t_asInt _ | exact t_asIntOf _ | exact t_asBool _ | exact t_sureAddr _ | exact t_asAddr hT _ | exact t_runtimePanic hT _ | exact t_boundsPanic hT _ _ _ _ | exact t_typeInfo hT _ | exact t_sizeOf hT _ | exact t_zeroValue hT _
    | exact t_underlying hT _ | exact t_elemOf hT _ | exact t_part hT _ _ _ | exact t_newRow _ _ | exact t_newVar _ _ | exact t_askRoom _ | exact tm_choose _ | exact t_loadCells hT _ _ | exact t_storeCells hT _ _ _ | exact t_loadVar hT _ _ | exact t_storeVar hT _ _ _ | exact t_sliceBound hT _ _ _
    | refine tb ?_ fun _ => ?_ | refine tmap ?_ | refine tite ?_ ?_ | split | dsimp only)
theorem t_slice (hT : Kin P Q) (t : TypeId) (v : Value) (l h x : Option Value) : Tm P Q X (Instr.slice t v l h x) (Instr.slice t v l h x) := by
  unfold Instr.slice
  repeat' (with_reducible first
    | exact tp _ | exact ts _ _ | exact tu _ _ | exact tg _ | exact t_asInt _ | exact t_asIntOf _ | exact t_asBool _ | exact t_sureAddr _ | exact t_asAddr hT _ | exact t_runtimePanic hT _ | exact t_boundsPanic hT _ _ _ _ | exact t_typeInfo hT _ | exact t_sizeOf hT _ | exact t_zeroValue hT _
    | exact t_underlying hT _ | exact t_elemOf hT _ | exact t_part hT _ _ _ | exact t_newRow _ _ | exact t_newVar _ _ | exact t_askRoom _ | exact tm_choose _ | exact t_loadCells hT _ _ | exact t_storeCells hT _ _ _ | exact t_loadVar hT _ _ | exact t_storeVar hT _ _ _ | exact t_sliceBounds hT _ _ _ _ _ _
    | refine tb ?_ fun _ => ?_ | refine tmap ?_ | refine tite ?_ ?_ | split | dsimp only)
theorem t_sliceAt (hT : Kin P Q) (t : TypeId) (v : Value) (l h x : Option Value) : Tm P Q X (Instr.sliceAt t v l h x) (Instr.sliceAt t v l h x) := by
  unfold Instr.sliceAt
  repeat' (with_reducible first
    | exact tp _ | exact ts _ _ | exact tu _ _ | exact tg _ | exact t_asInt _ | exact t_asIntOf _ | exact t_asBool _ | exact t_sureAddr _ | exact t_asAddr hT _ | exact t_runtimePanic hT _ | exact t_boundsPanic hT _ _ _ _ | exact t_typeInfo hT _ | exact t_sizeOf hT _ | exact t_zeroValue hT _
    | exact t_underlying hT _ | exact t_elemOf hT _ | exact t_part hT _ _ _ | exact t_newRow _ _ | exact t_newVar _ _ | exact t_askRoom _ | exact tm_choose _ | exact t_loadCells hT _ _ | exact t_storeCells hT _ _ _ | exact t_loadVar hT _ _ | exact t_storeVar hT _ _ _ | exact t_sliceBounds hT _ _ _ _ _ _ | exact t_slice hT _ _ _ _ _
    | refine tb ?_ fun _ => ?_ | refine tmap ?_ | refine tite ?_ ?_ | split | dsimp only)
theorem t_indexAt (hT : Kin P Q) (t : TypeId) (v i : Value) : Tm P Q X (Instr.indexAt t v i) (Instr.indexAt t v i) := by
  unfold Instr.indexAt
  repeat' (with_reducible first
    | exact tp _ | exact ts _ _ | exact tu _ _ | exact tg _ | exact t_asInt _ | exact t_asIntOf _ | exact t_asBool _ | exact t_sureAddr _ | exact t_asAddr hT _ | exact t_runtimePanic hT _ | exact t_boundsPanic hT _ _ _ _ | exact t_typeInfo hT _ | exact t_sizeOf hT _ | exact t_zeroValue hT _
    | exact t_underlying hT _ | exact t_elemOf hT _ | exact t_part hT _ _ _ | exact t_newRow _ _ | exact t_newVar _ _ | exact t_askRoom _ | exact tm_choose _ | exact t_loadCells hT _ _ | exact t_storeCells hT _ _ _ | exact t_loadVar hT _ _ | exact t_storeVar hT _ _ _
    | refine tb ?_ fun _ => ?_ | refine tmap ?_ | refine tite ?_ ?_ | split | dsimp only)
theorem t_lenOf (v : Value) : Tm P Q X (Builtin.lenOf v) (Builtin.lenOf v) := by
  unfold Builtin.lenOf
  split
  · exact tp _
  · exact tp _
  · exact ts _ _
theorem t_firstCells (hT : Kin P Q) (m n : Nat) (v : Value) : Tm P Q X (Builtin.firstCells m n v) (Builtin.firstCells m n v) := by
  unfold Builtin.firstCells
  repeat' (with_reducible first
    | exact tp _ | exact ts _ _ | exact tu _ _ | exact tg _ | exact t_asInt _ | exact t_asIntOf _ | exact t_asBool _ | exact t_sureAddr _ | exact t_asAddr hT _ | exact t_runtimePanic hT _ | exact t_boundsPanic hT _ _ _ _ | exact t_typeInfo hT _ | exact t_sizeOf hT _ | exact t_zeroValue hT _
    | exact t_underlying hT _ | exact t_elemOf hT _ | exact t_part hT _ _ _ | exact t_newRow _ _ | exact t_newVar _ _ | exact t_askRoom _ | exact tm_choose _ | exact t_loadCells hT _ _ | exact t_storeCells hT _ _ _ | exact t_loadVar hT _ _ | exact t_storeVar hT _ _ _
    | refine tb ?_ fun _ => ?_ | refine tmap ?_ | refine tite ?_ ?_ | split | dsimp only)
theorem rd_holds (a : Addr) (n : Nat) (v : World) (es : Array Event) : ∃ b, (Builtin.holdsCells a n).runT Q v es = (.ok b v, es) := by
  unfold Builtin.holdsCells
  show ∃ b, Sem.runT Q (.shape a.block fun s => _) v es = _
  simp only [Sem.runT]
  cases v.shape? a.block with
  | none => exact ⟨_, rfl⟩
  | some s => exact ⟨_, rfl⟩
theorem rd_bind {α β : Type} {s : Sem α} {f : α → Sem β} {v : World} {es : Array Event} (h : ∃ b, s.runT Q v es = (.ok b v, es)) (hf : ∀ a, ∃ b, (f a).runT Q v es = (.ok b v, es)) : ∃ b, (s >>= f).runT Q v es = (.ok b v, es) := by
  obtain ⟨a, ha⟩ := h
  obtain ⟨b, hb⟩ := hf a
  refine ⟨b, ?_⟩
  show (s.bind f).runT Q v es = _
  rw [Sem.runT_bind', ha]
  exact hb
theorem rd_pure {α : Type} (a : α) (v : World) (es : Array Event) : ∃ b, (pure a : Sem α).runT Q v es = (.ok b v, es) := ⟨a, rfl⟩
theorem rd_share (m k n : Nat) (b : Option Addr) (x : Value) (v : World) (es : Array Event) : ∃ y, (Builtin.mayShare m k n b x).runT Q v es = (.ok y v, es) := by
  have hfr : ∀ a, ∃ y, (frozen a).runT Q v es = (.ok y v, es) := fun a => ⟨_, rfl⟩
  have hj : ∀ there : Bool, ∃ y, (if (!there) = true then pure true else match x with
      | .slice (some c) _ _ => do pure (!(← Builtin.holdsCells c (n * m)) || b.any (·.block == c.block))
      | _ => pure false : Sem Bool).runT Q v es = (.ok y v, es) := by
    intro t
    split
    · exact rd_pure _ _ _
    · split
      · exact rd_bind (rd_holds _ _ _ _) fun _ => rd_pure _ _ _
      · exact rd_pure _ _ _
  unfold Builtin.mayShare
  dsimp only
  split
  · exact rd_bind (rd_pure _ _ _) fun t => hj t
  · exact rd_bind (rd_holds _ _ _ _) fun _ => rd_bind (hfr _) fun _ => rd_bind (rd_pure _ _ _) fun t => hj t
/-- Where the row is too great no answer is claimed: whether it may be shared is asked of memory there. -/
theorem t_deadShare {α : Type} (m k n : Nat) (b : Option Addr) (x : Value) (u : Unsupported) (s : Sem α) :
    Tm P Q X (do if (!(← Builtin.mayShare m k n b x)) = true then do mark .noRoom; unsupported u else unsupported u) s := by
  intro v es hg
  obtain ⟨y, hy⟩ := rd_share (Q := Q) m k n b x v es
  have e : (do if (!(← Builtin.mayShare m k n b x)) = true then do mark .noRoom; unsupported u else unsupported u : Sem α).runT Q v es = (if (!y) = true then do mark .noRoom; unsupported u else unsupported u : Sem α).runT Q v es := by
    show (Sem.bind _ _).runT Q v es = _
    rw [Sem.runT_bind', hy]
  rw [e]
  cases y
  · exact ⟨trivial, hg, 0, .refl v, fun _ _ _ => trivial⟩
  · exact ⟨trivial, hg, 0, .refl v, fun _ _ _ => trivial⟩
theorem t_copy (hT : Kin P Q) (ts' : Array TypeId) (t : TypeId) (args : Array Value) : Tm P Q X (Builtin.copy_ ts' t args) (Builtin.copy_ ts' t args) := by
  unfold Builtin.copy_
  repeat' (with_reducible first
    | exact tp _ | exact ts _ _ | exact tu _ _ | exact tg _ | exact t_asInt _ | exact t_asIntOf _ | exact t_asBool _ | exact t_sureAddr _ | exact t_asAddr hT _ | exact t_runtimePanic hT _ | exact t_boundsPanic hT _ _ _ _ | exact t_typeInfo hT _ | exact t_sizeOf hT _ | exact t_zeroValue hT _
    | exact t_underlying hT _ | exact t_elemOf hT _ | exact t_part hT _ _ _ | exact t_newRow _ _ | exact t_newVar _ _ | exact t_askRoom _ | exact tm_choose _ | exact t_loadCells hT _ _ | exact t_storeCells hT _ _ _ | exact t_loadVar hT _ _ | exact t_storeVar hT _ _ _ | exact t_lenOf _ | exact t_firstCells hT _ _ _
    | refine tb ?_ fun _ => ?_ | refine tmap ?_ | refine tite ?_ ?_ | split | dsimp only)
theorem t_lenObj (r : Nat) {f : Obj → Sem Value} (hf : ∀ o, (∃ v, f o = pure v) ∨ ∃ m, f o = stuck m) (hx : ∃ m, f psn = stuck m) : Tm P Q X (getObj r >>= f) (getObj r >>= f) := by
  have key : ∀ (P : Program) (X : Nat → Prop) o, Tm P Q X (f o) (f o) := by
    intro P X o
    rcases hf o with ⟨v, e⟩ | ⟨m, e⟩
    · rw [e]; exact tp _
    · rw [e]; exact ts _ _
  refine t_getObj r (key P X) (key Q _) fun v es => ?_
  obtain ⟨m, e⟩ := hx
  rw [e]
  trivial
theorem t_len (hT : Kin P Q) (ts' : Array TypeId) (t : TypeId) (args : Array Value) : Tm P Q X (Builtin.len_ ts' t args) (Builtin.len_ ts' t args) := by
  unfold Builtin.len_
  split
  · refine tb (t_underlying hT _) fun d => ?_
    split
    · exact tp _
    · exact tp _
    · refine tb (t_underlying hT _) fun d => ?_
      split
      · exact tp _
      · exact ts _ _
    · exact tp _
    · exact tp _
    · exact tp _
    · exact t_lenObj _ (fun o => by cases o <;> first | exact .inl ⟨_, rfl⟩ | exact .inr ⟨_, rfl⟩) ⟨_, rfl⟩
    · exact t_lenObj _ (fun o => by cases o <;> first | exact .inl ⟨_, rfl⟩ | exact .inr ⟨_, rfl⟩) ⟨_, rfl⟩
    · exact ts _ _
  · exact ts _ _
theorem t_closeOf (hT : Kin P Q) (r : Nat) : Tm P Q X (do
    let .chan room buf closed sent received timer ← getObj r | stuck "close: no channel in this block"
    if closed then runtimePanic (.plain "close of closed channel")
    setObj r (.chan room buf true sent received timer)
    pure (Value.tuple #[])) (do
    let .chan room buf closed sent received timer ← getObj r | stuck "close: no channel in this block"
    if closed then runtimePanic (.plain "close of closed channel")
    setObj r (.chan room buf true sent received timer)
    pure (Value.tuple #[])) := by
  have key : ∀ (P : Program) (X : Nat → Prop), Kin P Q → ¬ X r → ∀ o : Obj, Tm P Q X (match o with
      | .chan room buf closed sent received timer => if closed = true then do
          runtimePanic (.plain "close of closed channel")
          setObj r (.chan room buf true sent received timer)
          pure (Value.tuple #[])
        else do
          setObj r (.chan room buf true sent received timer)
          pure (Value.tuple #[])
      | _ => stuck "close: no channel in this block") (match o with
      | .chan room buf closed sent received timer => if closed = true then do
          runtimePanic (.plain "close of closed channel")
          setObj r (.chan room buf true sent received timer)
          pure (Value.tuple #[])
        else do
          setObj r (.chan room buf true sent received timer)
          pure (Value.tuple #[])
      | _ => stuck "close: no channel in this block") := by
    intro P X hT hr o
    split
    · exact tite (tb (t_runtimePanic hT _) fun _ => tb (tm_setObj _ _ hr fun h => h) fun _ => tp _) (tb (tm_setObj _ _ hr fun h => h) fun _ => tp _)
    · exact ts _ _
  by_cases hr : X r
  · refine tm_dead (tb (tm_getObj r fun h => h) fun o => key Q _ rfl (fun h => h) o) fun v w es hg hw => ?_
    show Dead ((Sem.bind (getObj r) _).runT Q v es).1
    rw [Sem.runT_bind', show (getObj r).runT Q v es = (.ok psn v, es.push ⟨.obj r, false, false⟩) from by
      simp only [getObj, Sem.runT, hw.pois r hr]
      rfl]
    trivial
  · exact tb (tm_getObj r hr) fun o => key P X hT hr o
theorem t_close (hT : Kin P Q) (ts' : Array TypeId) (t : TypeId) (args : Array Value) : Tm P Q X (Builtin.close_ ts' t args) (Builtin.close_ ts' t args) := by
  unfold Builtin.close_
  obtain ⟨l⟩ := args
  rcases l with _ | ⟨x, _ | ⟨y, l⟩⟩
  · exact ts _ _
  · cases x with
    | chan c =>
      cases c with
      | none => exact t_runtimePanic hT _
      | some r => exact t_closeOf hT r
    | _ => exact ts _ _
  · cases x <;> exact ts _ _
theorem t_append (hT : Kin P Q) (ts' : Array TypeId) (t : TypeId) (args : Array Value) : Tm P Q X (Builtin.append_ ts' t args) (Builtin.append_ ts' t args) := by
  unfold Builtin.append_
  repeat' (with_reducible first
    | exact tp _ | exact ts _ _ | exact tu _ _ | exact tg _ | exact t_asInt _ | exact t_asIntOf _ | exact t_asBool _ | exact t_sureAddr _ | exact t_asAddr hT _ | exact t_runtimePanic hT _ | exact t_boundsPanic hT _ _ _ _ | exact t_typeInfo hT _ | exact t_sizeOf hT _ | exact t_zeroValue hT _
    | exact t_underlying hT _ | exact t_elemOf hT _ | exact t_part hT _ _ _ | exact t_newRow _ _ | exact t_newVar _ _ | exact t_askRoom _ | exact tm_choose _ | exact t_loadCells hT _ _ | exact t_storeCells hT _ _ _ | exact t_loadVar hT _ _ | exact t_storeVar hT _ _ _ | exact t_lenOf _ | exact t_firstCells hT _ _ _ | exact t_deadShare _ _ _ _ _ _ _
    | refine tb ?_ fun _ => ?_ | refine tmap ?_ | refine tite ?_ ?_ | split | dsimp only)
end
end Go.Proofs.Ytdlnlcjmjgbikaa
