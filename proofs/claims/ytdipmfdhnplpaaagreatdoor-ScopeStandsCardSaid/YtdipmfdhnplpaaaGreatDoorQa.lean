/- Package scope: maps of texts to numbers in memory. -/
import Derived.Test.YtdipmfdhnplpaaaGreatDoorPb
import Derived.Test.YtdipmfdhnplpaaaGreatDoorVyd
import Derived.Maps.OwnSet
import Derived.Deep.QuietTactic
namespace Go.Proofs.YtdipmfdhnplpaaaGreatDoor
open Go.RowKit
open M
open Go.Maps (Keyed)
theorem keyS : Keyed Tryz.prog 9 := Go.Maps.string_keyed Tryz.underlying9
theorem zeroI (w : World) : (zeroValue 3).run Tryz.prog w = .ok (.int .i64 0) w := by kernel_rfl
/-- A map of texts to numbers: at most so many entries, and what it gives at a text. -/
def Mp (w : World) (b n : Nat) (g : List UInt8 → Option Nat) : Prop :=
  ∃ D : DataW Unit, w.ownsMap Tryz.prog 9 (plainElem Tryz.prog 3) b n D ∧ ∀ x : List UInt8, Maps.has D (.string x) = (g x).isSome ∧ ∀ i, g x = some i → D.atKey (.string x) (.lit (.int .i64 0)) = .lit (.int .i64 i)
theorem Mp.lt {w : World} {b n : Nat} {g : List UInt8 → Option Nat} (h : Mp w b n g) : b < w.heap.size := by
  obtain ⟨D, h1, -⟩ := h
  exact h1.lt
theorem Mp.made (w : World) : Mp (w.alloc (.map #[] 0)) w.heap.size 0 (fun _ => none) :=
  ⟨.map [], World.ownsMap_made w _ _ _, fun x => ⟨rfl, fun i h => by cases h⟩⟩
theorem Mp.keep {S : Nat → Prop} {w w' : World} {b n : Nat} {g : List UInt8 → Option Nat} (h : Mp w b n g) (hk : Kp S w w') (hn : ¬ S b) : Mp w' b n g := by
  obtain ⟨D, ⟨es, clock, hb, r⟩, h2⟩ := h
  exact ⟨D, ⟨es, clock, hk.heap hb hn, r⟩, h2⟩
theorem Mp.below {w w' : World} {b n : Nat} {g : List UInt8 → Option Nat} (h : Mp w b n g) (hk : Below w.heap.size w w') : Mp w' b n g := h.keep (Kp.ofBelow hk (fun _ => False)) id
theorem Mp.obj {w : World} {b n : Nat} {g : List UInt8 → Option Nat} (h : Mp w b n g) : ∃ es clock, w.heap[b]? = some (.map es clock) := by
  obtain ⟨D, ⟨es, clock, hb, r⟩, h2⟩ := h
  exact ⟨es, clock, hb⟩
theorem Mp.congr {w : World} {b n : Nat} {g g' : List UInt8 → Option Nat} (h : Mp w b n g) (e : ∀ x, g x = g' x) : Mp w b n g' := by
  have : g = g' := funext e
  rw [← this]; exact h
theorem ba_key {k : List UInt8} (hk : k.length ≤ maxLen) : keyOf Tryz.prog 9 (.string (ba k)) = some (.string k) := by
  have := Go.WideMaps.keyOf_string_mk Tryz.underlying9 (s := ba k) (by rw [ba_size]; exact hk)
  rw [this]
  simp [ba]
theorem Mp.run_ok {w : World} {b n : Nat} {g : List UInt8 → Option Nat} (h : Mp w b n g) {k : List UInt8} (hk : k.length ≤ maxLen) :
    (Instr.lookup 47 (.map (some b)) (.string (ba k)) true).run Tryz.prog w = .ok (.tuple #[.int .i64 (((g k).getD 0 : Nat) : Int), .bool (g k).isSome]) w := by
  obtain ⟨D, h1, h2⟩ := h
  obtain ⟨v, ps, hr, hv⟩ := h1.look_ok keyS Tryz.underlying47 (zeroI w) (plainElem_int Tryz.underlying3 (by decide)) (ba_key hk)
  obtain ⟨c, rfl, hc, -⟩ := plainElem_int_inv Tryz.underlying3 hv
  have hc1 : D.atKey (.string k) (.lit (.int .i64 0)) = .lit (.int .i64 c) := congrArg Prod.fst hc
  rw [hr, (h2 k).1]
  cases hg : g k with
  | none =>
    have := Maps.atKey_of_not_has (D := D) (k := .string k) (by rw [(h2 k).1, hg]; rfl) (.lit (.int .i64 0))
    rw [this] at hc1
    cases hc1
    rfl
  | some i =>
    rw [(h2 k).2 i hg] at hc1
    cases hc1
    rfl
theorem Mp.run_no {w : World} {b n : Nat} {g : List UInt8 → Option Nat} (h : Mp w b n g) {k : List UInt8} (hk : k.length ≤ maxLen) :
    (Instr.lookup 47 (.map (some b)) (.string (ba k)) false).run Tryz.prog w = .ok (.int .i64 (((g k).getD 0 : Nat) : Int)) w := by
  obtain ⟨D, h1, h2⟩ := h
  obtain ⟨c, hr, hc1, -⟩ := h1.lookup_int keyS Tryz.underlying47 Tryz.underlying3 (zeroI w) (ba_key hk)
  rw [hr]
  cases hg : g k with
  | none =>
    have := Maps.atKey_of_not_has (D := D) (k := .string k) (by rw [(h2 k).1, hg]; rfl) (.lit (.int .i64 0))
    rw [this] at hc1
    cases hc1
    rfl
  | some i =>
    rw [(h2 k).2 i hg] at hc1
    cases hc1
    rfl
/-- Another number at a text. -/
def upd (g : List UInt8 → Option Nat) (k : List UInt8) (i : Nat) : List UInt8 → Option Nat := fun x => if x = k then some i else g x
theorem Mp.run_put {w : World} {b n : Nat} {g : List UInt8 → Option Nat} (h : Mp w b n g) (hn : n < maxLen) {k : List UInt8} (hk : k.length ≤ maxLen) {i : Nat} (hi : i ≤ 9223372036854775807) :
    ∃ w', (Instr.mapUpdate 47 (.map (some b)) (.string (ba k)) (.int .i64 i)).run Tryz.prog w = .ok () w' ∧ Mp w' b (n + 1) (upd g k i) ∧ Kp (fun q => q = b) w w' := by
  obtain ⟨D, h1, h2⟩ := h
  obtain ⟨w', hr, ho, hg⟩ := h1.update keyS Tryz.underlying47 hn (ba_key hk) (plainElem_int Tryz.underlying3 (a := (i : Int)) (WalkArith.wf_i64 (by omega)))
  refine ⟨w', hr, ⟨_, ho, fun x => ?_⟩, (Kp.refl _ w).grown hg (fun q e _ => by cases e; rfl)⟩
  unfold upd
  by_cases hx : x = k
  · subst hx
    rw [if_pos rfl]
    exact ⟨Maps.has_put_same h1.isMap (k := .string x) (show WideAt.IsKeyLit (.string x) from trivial) _, fun j hj => by cases hj; exact Maps.atKey_put_same h1.isMap (k := .string x) (show WideAt.IsKeyLit (.string x) from trivial) _ _⟩
  · rw [if_neg hx]
    have hne : (Lit.string x) ≠ .string k := fun e => hx (by cases e; rfl)
    refine ⟨by rw [Maps.has_put_other hne]; exact (h2 x).1, fun j hj => ?_⟩
    rw [Maps.atKey_put_other hne]
    exact (h2 x).2 j hj
/-- A store into such a map, at the operation. -/
theorem wpList_put_mp (w : World) {ops : Array Oper} {rest : List Oper} {o : Oper} {a : Act} {Q : Exit → Act → World → Prop} (hg : o.guard = none) (m x v : Operand) (hop : o.op = Op.mapUpdate 47 m x v) (b n : Nat) (g : List UInt8 → Option Nat)
    (hm : a.eval m = .map (some b)) (h : Mp w b n g) (hn : n < maxLen) (k : List UInt8) (hk : k.length ≤ maxLen) (i : Nat) (hi : i ≤ 9223372036854775807) (hx : a.eval x = .string (ba k)) (hv : a.eval v = .int .i64 i)
    (hK : ∀ w', Mp w' b (n + 1) (upd g k i) → Kp (fun q => q = b) w w' → wpList Tryz.prog ops Q rest (a.put o.dst undef) w') :
    wpList Tryz.prog ops Q (o :: rest) a w := by
  refine wpList_plain hg fun K' hK' => ?_
  obtain ⟨w', hrun, r1, r2⟩ := h.run_put hn hk hi
  unfold Oper.wp
  simp [execOp, hop, hm, hx, hv, hrun, Result.andThen]
  exact hK' _ _ (hK w' r1 r2)
/-- A look into such a map, at the operation. -/
theorem wpList_look_mp (w : World) {ops : Array Oper} {rest : List Oper} {o : Oper} {a : Act} {Q : Exit → Act → World → Prop} (hg : o.guard = none) (m x : Operand) (hop : o.op = Op.lookup 47 m x true) (b n : Nat) (g : List UInt8 → Option Nat)
    (hm : a.eval m = .map (some b)) (h : Mp w b n g) (k : List UInt8) (hk : k.length ≤ maxLen) (hx : a.eval x = .string (ba k))
    (hK : wpList Tryz.prog ops Q rest (a.put o.dst (.tuple #[.int .i64 (((g k).getD 0 : Nat) : Int), .bool (g k).isSome])) w) :
    wpList Tryz.prog ops Q (o :: rest) a w := by
  refine wpList_plain hg fun K' hK' => ?_
  have hrun := h.run_ok hk
  unfold Oper.wp
  simp [execOp, hop, hm, hx, hrun, Result.andThen]
  exact hK' _ _ hK
end Go.Proofs.YtdipmfdhnplpaaaGreatDoor
/- Package scope: a workspace in memory. -/
namespace Go.Proofs.YtdipmfdhnplpaaaGreatDoor
open Go.RowKit
open M
/-- Where the things of a workspace lie. -/
structure Lay where
  wb : Nat
  mb : Nat
  fv : Value
  fb : Nat → Nat
  nb : Nat → Nat
  iv : Nat → Value
  gb : Nat → Nat
/-- The blocks that are turned while names are told. -/
def Lay.S (L : Lay) (n : Nat) (q : Nat) : Prop := q = L.wb ∨ ∃ i, i < n ∧ q = L.gb i
/-- What is known of all files. -/
structure St (w : World) (L : Lay) (fs : List X.Fl) : Prop where
  n : fs.length ≤ 16
  mp : ∃ k, Mp w L.mb k (X.modI fs)
  ms : ¬ L.S fs.length L.mb
  fl : ∃ ao cap, L.fv = .slice ao fs.length cap ∧ fs.length ≤ cap ∧ cap ≤ maxLen ∧ ∀ i, i < fs.length → ∃ g, ao = some ⟨g, 0, none⟩ ∧ ¬ L.S fs.length g ∧ w.cell? ⟨g, i, none⟩ = some (.pointer (some ⟨L.fb i, 0, none⟩))
  fi : ∀ i, i < fs.length → w.heap[L.fb i]? = some (.cells #[L.iv i, .map (some (L.nb i)), .slice (some ⟨L.gb i, 0, none⟩) (X.itemsOf fs i).length (X.itemsOf fs i).length] 86 (0, 0)) ∧ ¬ L.S fs.length (L.fb i)
  nm : ∀ i, i < fs.length → (∃ k, Mp w (L.nb i) k (X.topI (X.itemsOf fs i))) ∧ ¬ L.S fs.length (L.nb i)
  its : ∀ i, i < fs.length → ∃ lo hi, IsIts w lo hi (L.iv i) (X.itemsOf fs i) ∧ hi ≤ w.heap.size ∧ ∀ q, lo ≤ q → q < hi → ¬ L.S fs.length q
  bd : ∀ i it, it ∈ X.itemsOf fs i → X.itB 268435456 it
  il : ∀ i, (X.itemsOf fs i).length ≤ 268435456
  wl : L.wb < w.heap.size
  gl : ∀ i, i < fs.length → L.gb i < w.heap.size ∧ L.gb i ≠ L.wb ∧ ∀ j, j < fs.length → L.gb i = L.gb j → i = j
/-- The cells of a name that is told. -/
def uv (u : X.U) : List Value := [.int .i64 u.f, .int .i64 u.i, .int .i64 u.s, .int .i64 u.tf, .int .i64 u.tt, .int .i64 u.e]
def uvs (us : List X.U) : List Value := us.flatMap uv
theorem uvs_len (us : List X.U) : (uvs us).length = us.length * 6 := by
  induction us with
  | nil => rfl
  | cons u us ih => show (uv u ++ uvs us).length = _; rw [List.length_append, ih, List.length_cons]; show 6 + _ = _; omega
theorem uvs_app (a b : List X.U) : uvs (a ++ b) = uvs a ++ uvs b := List.flatMap_append
theorem uvs_one (u : X.U) : uvs [u] = uv u := by show uv u ++ [] = _; rw [List.append_nil]
/-- What is remembered of the uses: a state, and an answer. -/
abbrev Mem := Nat → Nat → Nat × X.An
/-- A workspace while names are told. -/
structure Run (w0 : World) (L : Lay) (fs : List X.Fl) (M : Mem) (us : List X.U) (w : World) : Prop where
  st : St w0 L fs
  kp : Kp (L.S fs.length) w0 w
  ws : ∃ nv, w.heap[L.wb]? = some (.cells #[.map (some L.mb), L.fv, nv] 50 (0, 0)) ∧ w.ownsRow w0.heap.size 44 6 nv us.length (uvs us)
  fd : ∀ i, i < fs.length → ∃ arr, w.heap[L.gb i]? = some (.cells arr 148 (0, 0)) ∧ arr.size = (X.itemsOf fs i).length * 4 ∧ ∀ k, k < (X.itemsOf fs i).length →
    arr[k * 4]? = some (.int .i64 (M i k).1) ∧ arr[k * 4 + 1]? = some (.int .i64 (M i k).2.1) ∧ arr[k * 4 + 2]? = some (.int .i64 (M i k).2.2.1) ∧ arr[k * 4 + 3]? = some (.int .i64 (M i k).2.2.2)
  lim : us.length ≤ 1073741824
/-- A block of names that are told. -/
def UseB (w : World) (q : Nat) : Prop := ∃ cs d, w.heap[q]? = some (.cells cs 44 d)
/-- The blocks that a call may turn. -/
def Lay.Sx (L : Lay) (n B : Nat) (w : World) (q : Nat) : Prop := L.S n q ∨ (B ≤ q ∧ UseB w q)
def Kx (L : Lay) (n B : Nat) (w w' : World) : Prop := Kp (L.Sx n B w) w w'
theorem Kx.refl (L : Lay) (n B : Nat) (w : World) : Kx L n B w w := Kp.refl _ w
theorem Kx.trans {L : Lay} {n B : Nat} {a b c : World} (h1 : Kx L n B a b) (h2 : Kx L n B b c) : Kx L n B a c := by
  refine Kp.trans h1 h2 (fun i hi hs => ?_)
  rcases hs with hs | ⟨hB, cs, d, hu⟩
  · exact .inl hs
  · rcases Classical.em (L.Sx n B a i) with g | g
    · exact g
    · exact .inr ⟨hB, cs, d, by rw [← Kp.block h1 i hi g]; exact hu⟩
theorem Kx.ofBelow {L : Lay} {n B : Nat} {w w' : World} (h : Below w.heap.size w w') : Kx L n B w w' := Kp.ofBelow h _
theorem Kx.alloc {L : Lay} {n B : Nat} {a w : World} (h : Kx L n B a w) (o : Obj) : Kx L n B a (w.alloc o) := Kp.alloc h o
theorem Kx.drew {L : Lay} {n B : Nat} {a w : World} (h : Kx L n B a w) : Kx L n B a w.drew := Kp.drew h
theorem Kx.st {L : Lay} {n : Nat} {w0 w w' : World} (h : Kx L n w0.heap.size w w') (hk : Kp (L.S n) w0 w) : Kp (L.S n) w0 w' := by
  refine Kp.trans hk h (fun i hi hs => ?_)
  rcases hs with hs | ⟨hB, -⟩
  · exact hs
  · omega
/-- A block that is no block of names, and made behind the workspace, stays. -/
theorem Kx.made {L : Lay} {n B : Nat} {w w' : World} (h : Kx L n B w w') (hS : ∀ q, L.S n q → q < B) {b : Nat} {o : Obj} (hb : w.heap[b]? = some o) (hB : B ≤ b) (ho : ∀ cs d, o ≠ .cells cs 44 d) : w'.heap[b]? = some o :=
  Kp.heap h hb (fun hs => by
    rcases hs with hs | ⟨-, cs, d, hu⟩
    · have := hS b hs; omega
    · rw [hb] at hu; exact ho cs d (Option.some.inj hu))
theorem St.lt {w : World} {L : Lay} {fs : List X.Fl} (h : St w L fs) : ∀ q, L.S fs.length q → q < w.heap.size := by
  intro q hq
  rcases hq with rfl | ⟨i, hi, rfl⟩
  · exact h.wl
  · exact (h.gl i hi).1
variable {w0 : World} {L : Lay} {fs : List X.Fl} {M : Mem} {us : List X.U} {w : World}
theorem Run.size (h : Run w0 L fs M us w) : w0.heap.size ≤ w.heap.size := h.kp.size
/-- New blocks alone have come about. -/
theorem Run.below (h : Run w0 L fs M us w) {w' : World} (hb : Below w.heap.size w w') : Run w0 L fs M us w' := by
  have hk := Kp.ofBelow hb (fun _ => False)
  refine ⟨h.st, h.kp.trans hk (fun _ _ => False.elim), ?_, ?_, h.lim⟩
  · obtain ⟨nv, h1, h2⟩ := h.ws
    exact ⟨nv, hk.heap h1 id, hk.owns h2 (fun _ _ => id)⟩
  · intro i hi
    obtain ⟨arr, h1, h2⟩ := h.fd i hi
    exact ⟨arr, hk.heap h1 id, h2⟩
theorem Run.alloc (h : Run w0 L fs M us w) (o : Obj) : Run w0 L fs M us (w.alloc o) := h.below ((Below.refl _ w).alloc (Nat.le_refl _) o)
theorem Run.mods (h : Run w0 L fs M us w) : ∃ k, Mp w L.mb k (X.modI fs) := by
  obtain ⟨k, hm⟩ := h.st.mp
  exact ⟨k, hm.keep h.kp h.st.ms⟩
theorem Run.named (h : Run w0 L fs M us w) {i : Nat} (hi : i < fs.length) : ∃ k, Mp w (L.nb i) k (X.topI (X.itemsOf fs i)) := by
  obtain ⟨⟨k, hm⟩, hs⟩ := h.st.nm i hi
  exact ⟨k, hm.keep h.kp hs⟩
theorem Run.file (h : Run w0 L fs M us w) {i : Nat} (hi : i < fs.length) : w.heap[L.fb i]? = some (.cells #[L.iv i, .map (some (L.nb i)), .slice (some ⟨L.gb i, 0, none⟩) (X.itemsOf fs i).length (X.itemsOf fs i).length] 86 (0, 0)) := by
  obtain ⟨hm, hs⟩ := h.st.fi i hi
  exact h.kp.heap hm hs
theorem Run.files (h : Run w0 L fs M us w) {i : Nat} (hi : i < fs.length) : ∃ g cap, L.fv = .slice (some ⟨g, 0, none⟩) fs.length cap ∧ fs.length ≤ cap ∧ cap ≤ maxLen ∧ w.cell? ⟨g, i, none⟩ = some (.pointer (some ⟨L.fb i, 0, none⟩)) := by
  obtain ⟨ao, cap, h1, h2, h3, h4⟩ := h.st.fl
  obtain ⟨g, rfl, hs, hc⟩ := h4 i hi
  exact ⟨g, cap, h1, h2, h3, h.kp.cellv hc hs⟩
theorem Run.its (h : Run w0 L fs M us w) {i : Nat} (hi : i < fs.length) : ∃ lo hi, IsIts w lo hi (L.iv i) (X.itemsOf fs i) ∧ hi ≤ w0.heap.size ∧ ∀ q, lo ≤ q → q < hi → ¬ L.S fs.length q := by
  obtain ⟨lo, hi, h1, h2, h3⟩ := h.st.its i hi
  obtain ⟨ao, cap, vs, e, c1, c2, c3, c4⟩ := h1.ex
  exact ⟨lo, hi, ⟨ao, cap, vs, e, c1, c2, fun j hj => by obtain ⟨g, x1, x2, x3, x4⟩ := c3 j hj; exact ⟨g, x1, x2, x3, h.kp.cellv x4 (h3 g x2 x3)⟩, fun j e hj => (c4 j e hj).keep h.kp h3⟩, h2, h3⟩
/-- One item of a file. -/
theorem Run.item (h : Run w0 L fs M us w) {i k : Nat} {it : X.It} (hi : i < fs.length) (hk : (X.itemsOf fs i)[k]? = some it) : ∃ g cap v lo hi, L.iv i = .slice (some ⟨g, 0, none⟩) (X.itemsOf fs i).length cap ∧ (X.itemsOf fs i).length ≤ cap ∧ cap ≤ maxLen ∧ w.cell? ⟨g, k, none⟩ = some v ∧ IsIt w lo hi v it ∧ hi ≤ w0.heap.size ∧ ∀ q, lo ≤ q → q < hi → ¬ L.S fs.length q := by
  obtain ⟨lo, hi', h1, h2, h3⟩ := h.its hi
  obtain ⟨ao, cap, vs, e, c1, c2, c3, c4⟩ := h1.ex
  have hkl : k < (X.itemsOf fs i).length := by
    rcases Nat.lt_or_ge k (X.itemsOf fs i).length with g | g
    · exact g
    · rw [List.getElem?_eq_none g] at hk; cases hk
  obtain ⟨g, rfl, -, -, x4⟩ := c3 k hkl
  exact ⟨g, cap, vs k, lo, hi', e, c1, c2, x4, c4 k it hk, h2, h3⟩
/-- The cells of the workspace. -/
theorem Run.cells (h : Run w0 L fs M us w) : ∃ nv, w.cell? ⟨L.wb, 0, none⟩ = some (.map (some L.mb)) ∧ w.cell? ⟨L.wb, 1, none⟩ = some L.fv ∧ w.cell? ⟨L.wb, 2, none⟩ = some nv ∧ w.frozen? ⟨L.wb, 2, none⟩ = false ∧ w.ownsRow w0.heap.size 44 6 nv us.length (uvs us) := by
  obtain ⟨nv, h1, h2⟩ := h.ws
  exact ⟨nv, cell_of_row w _ 0 _ _ _ h1, cell_of_row w _ 1 _ _ _ h1, cell_of_row w _ 2 _ _ _ h1, frozen_of_row w _ 2 _ _ h1, h2⟩
theorem item_lt {i k : Nat} {it : X.It} (hk : (X.itemsOf fs i)[k]? = some it) : i < fs.length ∧ k < (X.itemsOf fs i).length := by
  refine ⟨X.itemsOf_lt hk, ?_⟩
  rcases Nat.lt_or_ge k (X.itemsOf fs i).length with g | g
  · exact g
  · rw [List.getElem?_eq_none g] at hk; cases hk
theorem Run.itB (h : Run w0 L fs M us w) {i k : Nat} {it : X.It} (hk : (X.itemsOf fs i)[k]? = some it) : X.itB 268435456 it := h.st.bd i it (List.mem_of_getElem? hk)
end Go.Proofs.YtdipmfdhnplpaaaGreatDoor
/- Package scope: nowhere, wrong, find. -/
namespace Go.Proofs.YtdipmfdhnplpaaaGreatDoor
open Go.RowKit
open M
theorem res_place {fn : Func} {t : Tmp} (h : fn.results = #[.cell t 146]) (tmps : Array Value) (W : World) {b : Nat} {x n : Int} (ht : tmps[t]?.getD undef = .pointer (some ⟨b, 0, none⟩)) (hb : W.heap[b]? = some (.cells #[.int .i64 x, .int .i64 n] 146 (0, 0))) :
    (results fn tmps).run Tryz.prog W = .ok (.agg #[.int .i64 x, .int .i64 n]) W := by
  have m0 := cell_of_row W _ 0 _ _ _ hb
  have m1 := cell_of_row W _ 1 _ _ _ hb
  simp [results, h, go_sem, ht, m0, m1]
theorem res_ans {fn : Func} {t : Tmp} (h : fn.results = #[.cell t 148]) (tmps : Array Value) (W : World) {b : Nat} {x1 x2 x3 x4 : Int} (ht : tmps[t]?.getD undef = .pointer (some ⟨b, 0, none⟩)) (hb : W.heap[b]? = some (.cells #[.int .i64 x1, .int .i64 x2, .int .i64 x3, .int .i64 x4] 148 (0, 0))) :
    (results fn tmps).run Tryz.prog W = .ok (.agg #[.int .i64 x1, .int .i64 x2, .int .i64 x3, .int .i64 x4]) W := by
  have m0 := cell_of_row W _ 0 _ _ _ hb
  have m1 := cell_of_row W _ 1 _ _ _ hb
  have m2 := cell_of_row W _ 2 _ _ _ hb
  have m3 := cell_of_row W _ 3 _ _ _ hb
  simp [results, h, go_sem, ht, m0, m1, m2, m3]
theorem nowhere_any (w : World) : Calls Tryz.prog 94 #[] w fun e w' => e = .returned (.agg #[.int .i64 (-1), .int .i64 (-1)]) ∧ Below w.heap.size w w' := by
  go_enter Tryz.func94, Tryz.ntmps94
  go_wp2_with fail
  exact bodyPost_ret (res_place rfl _ _ (b := w.heap.size) rfl (heap_alloc_new w _)) rfl ⟨rfl, (Below.refl _ w).alloc (Nat.le_refl _) _⟩
set_option maxRecDepth 100000 in
theorem wrong_any (er : Nat) (w : World) : Calls Tryz.prog 95 #[.int .i64 er] w fun e w' => e = .returned (.agg #[.int .i64 2, .int .i64 (-1), .int .i64 (-1), .int .i64 er]) ∧ Below w.heap.size w w' := by
  go_enter Tryz.func95, Tryz.ntmps95
  go_wp2_with fail
  refine (nowhere_any _).mono ?_
  rintro e w2 ⟨rfl, H2⟩
  have HB : Hid (Kp (fun _ => False) w w2) := (Kp.refl _ w).alloc _ |>.trans (Kp.ofBelow H2 (fun _ => False)) (fun _ _ => id)
  have HH : w2.heap[w.heap.size]? = some (.cells #[.int .i64 0, .int .i64 0, .int .i64 0, .int .i64 0] 148 (0, 0)) := (Kp.ofBelow H2 (fun _ => False)).heap (heap_alloc_new w _) id
  clear H2
  have c0 := cell_of_row w2 _ 0 _ _ _ HH
  have c1 := cell_of_row w2 _ 1 _ _ _ HH
  have c2 := cell_of_row w2 _ 2 _ _ _ HH
  have c3 := cell_of_row w2 _ 3 _ _ _ HH
  have z0 := frozen_of_row w2 _ 0 _ _ HH
  have z1 := frozen_of_row w2 _ 1 _ _ HH
  have z2 := frozen_of_row w2 _ 2 _ _ HH
  have z3 := frozen_of_row w2 _ 3 _ _ HH
  have HHH := hide HH
  clear HH
  go_wp2_with fail
  exact bodyPost_ret (res_ans rfl _ _ (b := w.heap.size) rfl (set4_own HHH.out)) rfl ⟨rfl, (Kp.set4 HB.out (Nat.le_refl _) _ _ _ _).below (Nat.le_refl _) (fun _ => False.elim)⟩
/-- Blocks around an expression. -/
inductive IsBk (w : World) (B : Nat) : Value → List (List X.Nm) → Prop
  | nil : IsBk w B (.pointer none) []
  | cons (b m k : Nat) (ns : List X.Nm) (v : Value) (sc : List (List X.Nm)) (hB : B ≤ b) (hm : B ≤ m) (h : w.heap[b]? = some (.cells #[.map (some m), v] 218 (0, 0))) (hp : Mp w m k (X.first ns)) (ho : IsBk w B v sc) : IsBk w B (.pointer (some ⟨b, 0, none⟩)) (ns :: sc)
theorem IsBk.keep {L : Lay} {n B : Nat} {w w' : World} (hk : Kx L n B w w') (hS : ∀ q, L.S n q → q < B) {v : Value} {sc : List (List X.Nm)} (h : IsBk w B v sc) : IsBk w' B v sc := by
  induction h with
  | nil => exact .nil
  | cons b m k ns v sc hB hm h hp ho ih =>
    refine .cons b m k ns v sc hB hm (hk.made hS h hB (fun cs d e => by cases e)) ?_ ih
    obtain ⟨es, clock, hb⟩ := hp.obj
    exact hp.keep hk (fun hs => by
      rcases hs with hs | ⟨-, cs, d, hu⟩
      · have := hS m hs; omega
      · rw [hb] at hu; cases hu)
theorem IsBk.blw {B : Nat} {w w' : World} (hk : Below w.heap.size w w') {v : Value} {sc : List (List X.Nm)} (h : IsBk w B v sc) : IsBk w' B v sc := by
  induction h with
  | nil => exact .nil
  | cons b m k ns v sc hB hm h hp ho ih => exact .cons b m k ns v sc hB hm ((Kp.ofBelow hk (fun _ => False)).heap h id) (hp.below hk) ih
theorem IsBk.len {w : World} {B : Nat} {v : Value} {sc sc' : List (List X.Nm)} (h : IsBk w B v sc) (h' : IsBk w B v sc') : sc.length = sc'.length := by
  induction h generalizing sc' with
  | nil => cases h' with | nil => rfl
  | cons b m k ns v sc hB hm h hp ho ih =>
    cases h' with
    | cons _ m' k' ns' v' sc' _ _ h2 hp2 ho2 =>
      rw [h] at h2
      cases h2
      rw [List.length_cons, List.length_cons, ih ho2]
noncomputable def bkLen (w : World) (B : Nat) (v : Value) : Nat := open Classical in if h : ∃ sc, IsBk w B v sc then (Classical.choose h).length else 0
theorem bkLen_eq {w : World} {B : Nat} {v : Value} {sc : List (List X.Nm)} (h : IsBk w B v sc) : bkLen w B v = sc.length := by
  unfold bkLen
  rw [dif_pos ⟨sc, h⟩]
  exact IsBk.len (Classical.choose_spec (⟨sc, h⟩ : ∃ sc, IsBk w B v sc)) h
set_option maxRecDepth 100000 in
theorem find_any (B : Nat) (bv : Value) (sc : List (List X.Nm)) (x : List UInt8) (w : World) (h : IsBk w B bv sc) (hx : x.length ≤ maxLen) :
    Calls Tryz.prog 127 #[bv, .string (ba x)] w fun e w' => e = .returned (.tuple #[.int .i64 (((X.sight sc x).getD 0 : Nat) : Int), .bool (X.sight sc x).isSome]) ∧ w' = w := by
  have HB := hide h
  clear h
  generalize hA : X.sight sc x = A
  have HQ := hide hA
  clear hA
  go_enter Tryz.func127, Tryz.ntmps127
  go_wp2_with fail
  go_loopw [0] (fun av wr => ∃ sc', wr = w ∧ Hid (IsBk w B av sc') ∧ Hid (X.sight sc' x = A)) (fun av _ => bkLen w B av)
  case atStart => exact ⟨sc, rfl, HB, HQ⟩
  case round =>
    obtain ⟨sc', rfl, HI, HS⟩ := hrel
    clear HB HQ
    have hlen := bkLen_eq HI.out
    have hcs : (u0 = .pointer none ∧ sc' = []) ∨ ∃ b m k ns v sc2, u0 = .pointer (some ⟨b, 0, none⟩) ∧ sc' = ns :: sc2 ∧ wr.heap[b]? = some (.cells #[.map (some m), v] 218 (0, 0)) ∧ Mp wr m k (X.first ns) ∧ IsBk wr B v sc2 := by
      cases HI.out with
      | nil => exact .inl ⟨rfl, rfl⟩
      | cons b m k ns v sc hB hm h hp ho => exact .inr ⟨b, m, k, ns, v, sc, rfl, rfl, h, hp, ho⟩
    rcases hcs with ⟨rfl, rfl⟩ | ⟨b, m, k, ns, v, sc2, rfl, rfl, hb, hp, ho⟩
    · go_wp2_with fail
      go_ret2
      refine ⟨?_, rfl⟩
      rw [← HS.out]
      rfl
    · have c0 := cell_of_row wr _ 0 _ _ _ hb
      have c1 := cell_of_row wr _ 1 _ _ _ hb
      have hrun := hp.run_ok hx
      have hl2 := bkLen_eq ho
      have HO := hide ho
      cases hf : X.first ns x with
      | some i =>
        rw [hf] at hrun
        have hrun' : (Instr.lookup 47 (.map (some m)) (.string (ba x)) true).run Tryz.prog wr = .ok (.tuple #[.int .i64 (i : Nat), .bool true]) wr := hrun
        have HS2 : Hid (A = some i) := by rw [← HS.out, X.sight, hf]; exact hide rfl
        clear hrun hp ho HI HS hb hf hlen hl2 HO
        go_wp2_with fail
        go_ret2
        refine ⟨?_, rfl⟩
        rw [HS2.out]
        rfl
      | none =>
        rw [hf] at hrun
        have hrun' : (Instr.lookup 47 (.map (some m)) (.string (ba x)) true).run Tryz.prog wr = .ok (.tuple #[.int .i64 0, .bool false]) wr := hrun
        have HS2 : Hid (X.sight sc2 x = A) := by rw [← HS.out]; rw [X.sight, hf]; exact hide rfl
        clear hrun hp ho HI HS hb hf
        go_wp2_with fail
        exact ⟨⟨sc2, trivial, HO, HS2⟩, by rw [hlen, hl2]; simp⟩
end Go.Proofs.YtdipmfdhnplpaaaGreatDoor
