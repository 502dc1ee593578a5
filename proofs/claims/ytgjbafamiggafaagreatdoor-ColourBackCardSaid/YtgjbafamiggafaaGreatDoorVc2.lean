/- Package syntax: what stands ahead of a row is counted in a block of its own; a row; what a reader may turn. -/
import Derived.Test.YtgjbafamiggafaaGreatDoorVb
import Derived.Test.YtgjbafamiggafaaGreatDoorWzw
import Derived.Deep.AppendLies
import Derived.Deep.CutBlock
import Derived.Deep.DeepCutAuto
import Derived.Deep.RegionHeld3
namespace Go.Proofs.YtgjbafamiggafaaGreatDoor
open Go.RowKit
open M

/-- How many beginnings have been counted. -/
def nbg (ab : Nat) (w : World) : Nat := match w.cell? ⟨ab, 1, none⟩ with | some (.slice _ n _) => n | _ => 0
/-- What has been passed: how many bytes; the row of beginnings, where the last token ends and how much is missing are there, whatever they are. -/
structure Psd (w : World) (D : Nat → Prop) (ab i : Nat) : Prop where
  ex : ∃ (bv : Value) (bl : List Int) (en gp : Int), w.heap[ab]? = some (.cells #[.int .i64 i, bv, .int .i64 en, .int .i64 gp] 97 (0, 0)) ∧ w.ownsRow (ab + 1) 3 1 bv bl.length (bl.map (Value.int .i64)) ∧ bl.length ≤ i ∧ ∀ q, bv.ownBlock = some q → ¬ D q
theorem owns_slice {w : World} {B : Nat} {T : TypeId} {k : Nat} {v : Value} {n : Nat} {xs : List Value} (h : w.ownsRow B T k v n xs) : ∃ o c, v = .slice o n c ∧ n ≤ maxLen := by
  rcases h.2 with ⟨rfl, rfl⟩ | ⟨g, cap, cur, rfl, -, -, h1, h2, -⟩
  · exact ⟨none, 0, rfl, Nat.zero_le _⟩
  · exact ⟨_, cap, rfl, by omega⟩
theorem owns_typed {w : World} {B : Nat} {T : TypeId} {k : Nat} {v : Value} {n : Nat} {xs : List Value} (h : w.ownsRow B T k v n xs) {q : Nat} (hq : v.ownBlock = some q) : B ≤ q ∧ ∃ c f, w.heap[q]? = some (.cells c T f) := by
  rcases h.2 with ⟨rfl, -⟩ | ⟨g, cap, cur, rfl, hge, hg, -⟩
  · cases hq
  · obtain rfl : g = q := by simpa [Value.ownBlock] using hq
    exact ⟨hge, cur, _, hg⟩
theorem nbg_of {w : World} {ab : Nat} {a b c : Value} {o : Option Addr} {n m : Nat} {t : TypeId} {f : Nat × Nat} (h : w.heap[ab]? = some (.cells #[a, .slice o n m, b, c] t f)) : nbg ab w = n := by
  unfold nbg
  rw [cell_of_row w _ 1 _ _ _ h]; rfl
/-- What a row's reader may turn: the row, what has been passed, and rows of numbers made behind that. -/
def Sw (w : World) (D : Nat → Prop) (rb ab q : Nat) : Prop := q = rb ∨ q = ab ∨ (ab < q ∧ ¬ D q ∧ ∃ c f, w.heap[q]? = some (.cells c 3 f))
structure Kq (D : Nat → Prop) (rb ab : Nat) (w w' : World) : Prop where
  kp : Kp (Sw w D rb ab) w w'
  le : nbg ab w ≤ nbg ab w'
theorem Kq.size {D : Nat → Prop} {rb ab : Nat} {w w' : World} (h : Kq D rb ab w w') : w.heap.size ≤ w'.heap.size := h.kp.size
theorem Kq.refl (D : Nat → Prop) (rb ab : Nat) (w : World) : Kq D rb ab w w := ⟨Kp.refl _ _, Nat.le_refl _⟩
theorem Kq.trans {D : Nat → Prop} {rb ab : Nat} {w w1 w2 : World} (h : Kq D rb ab w w1) (k : Kq D rb ab w1 w2) : Kq D rb ab w w2 :=
  ⟨Kp.trans h.kp k.kp (fun q hq e => by
    rcases e with e | e | ⟨e, e1, c, f, hc⟩
    · exact .inl e
    · exact .inr (.inl e)
    · by_cases hs : Sw w D rb ab q
      · exact hs
      · exact .inr (.inr ⟨e, e1, c, f, by rw [← h.kp.block q hq hs]; exact hc⟩)), Nat.le_trans h.le k.le⟩
theorem nbg_kp {S : Nat → Prop} {w w' : World} {ab : Nat} (k : Kp S w w') (ha : ab < w.heap.size) (h : ¬ S ab) : nbg ab w' = nbg ab w := by
  unfold nbg
  rw [k.cell (p := ⟨ab, 1, none⟩) ha h]
/-- Only what is new was turned. -/
theorem Kq.ofKp {S : Nat → Prop} {D : Nat → Prop} {rb ab : Nat} {w w' : World} (k : Kp S w w') (ha : ab < w.heap.size) (h : ∀ q, q < w.heap.size → ¬ S q) : Kq D rb ab w w' := ⟨k.mono (fun q hq e => absurd e (h q hq)), Nat.le_of_eq (nbg_kp k ha (h _ ha)).symm⟩
theorem Kq.ofBelow {D : Nat → Prop} {rb ab : Nat} {w w' : World} (k : Below w.heap.size w w') (ha : ab < w.heap.size) : Kq D rb ab w w' := Kq.ofKp (Kp.ofBelow k (fun _ => False)) ha (fun _ _ => id)
theorem Kq.set {D : Nat → Prop} {rb ab : Nat} {w W : World} (h : Kq D rb ab w W) (ha : ab < w.heap.size) {b : Nat} (hb : w.heap.size ≤ b) (k : Nat) (v : Value) : Kq D rb ab w (W.setCell ⟨b, k, none⟩ v) :=
  ⟨Kp.setCell (p := ⟨b, k, none⟩) h.kp (fun e => absurd e (by simpa using hb)) v, by
    refine Nat.le_trans h.le (Nat.le_of_eq (nbg_kp (S := fun q => q = b) (On.set (Kp.refl _ W) k v) (Nat.lt_of_lt_of_le ha h.size) ?_).symm)
    omega⟩
/-- Another row's block is in the frame's place. -/
theorem Kq.inner {D : Nat → Prop} {rb kb ab : Nat} {w W W' : World} (h : Kq D rb ab w W) (k : Kq D kb ab W W') (hk : w.heap.size ≤ kb) : Kq D rb ab w W' :=
  ⟨Kp.trans h.kp k.kp (fun q hq e => by
    rcases e with e | e | ⟨e, e1, c, f, hc⟩
    · omega
    · exact .inr (.inl e)
    · by_cases hs : Sw w D rb ab q
      · exact hs
      · exact .inr (.inr ⟨e, e1, c, f, by rw [← h.kp.block q hq hs]; exact hc⟩)), Nat.le_trans h.le k.le⟩
theorem sw_not {w : World} {D : Nat → Prop} {rb ab b : Nat} {c : Array Value} {T : TypeId} {f : Nat × Nat} (h : w.heap[b]? = some (.cells c T f)) (hT : T ≠ 3) (h1 : b ≠ rb) (h2 : b ≠ ab) : ¬ Sw w D rb ab b := fun e => by
  rcases e with e | e | ⟨-, -, c', f', e⟩
  · exact h1 e
  · exact h2 e
  · rw [h] at e
    injection e with e
    injection e with e1 e2
    exact hT e2
theorem Kq.heap {D : Nat → Prop} {rb ab : Nat} {w w' : World} (k : Kq D rb ab w w') {b : Nat} {c : Array Value} {T : TypeId} {f : Nat × Nat} (h : w.heap[b]? = some (.cells c T f)) (hT : T ≠ 3) (h1 : b ≠ rb) (h2 : b ≠ ab) : w'.heap[b]? = some (.cells c T f) := k.kp.heap h (sw_not h hT h1 h2)
theorem Kq.owns {D : Nat → Prop} {rb ab : Nat} {w w' : World} (k : Kq D rb ab w w') {B : Nat} {T : TypeId} {m : Nat} {v : Value} {n : Nat} {xs : List Value} (h : w.ownsRow B T m v n xs) (hT : T ≠ 3) (h1 : ∀ g, v.ownBlock = some g → g ≠ rb ∧ g ≠ ab) : w'.ownsRow B T m v n xs :=
  k.kp.owns h (fun q hq => by
    obtain ⟨-, c, f, hc⟩ := owns_typed h hq
    exact sw_not hc hT (h1 q hq).1 (h1 q hq).2)
theorem Kq.nds {D : Nat → Prop} {rb ab : Nat} {w w' : World} (k : Kq D rb ab w w') {v : Value} {ps : List X.Part} (h : NdS w D v ps) (h1 : ¬ D rb) (h2 : ¬ D ab) : NdS w' D v ps := h.keep k.kp (fun q hq e => by
  rcases e with e | e | ⟨-, e, -⟩
  · exact h1 (e ▸ hq)
  · exact h2 (e ▸ hq)
  · exact e hq)
theorem Psd.keep {S : Nat → Prop} {w w' : World} {D : Nat → Prop} {ab i : Nat} (h : Psd w D ab i) (k : Kp S w w') (h1 : ¬ S ab) (h2 : ∀ q c f, ab < q → w.heap[q]? = some (.cells c 3 f) → ¬ S q) : Psd w' D ab i := by
  obtain ⟨bv, bl, en, gp, hb, ho, hn, hd⟩ := h.ex
  refine ⟨bv, bl, en, gp, k.heap hb h1, k.owns ho (fun q hq => ?_), hn, hd⟩
  obtain ⟨hge, c, f, hc⟩ := owns_typed ho hq
  exact h2 q c f (by omega) hc
theorem Psd.below {w w' : World} {D : Nat → Prop} {ab i : Nat} (h : Psd w D ab i) (k : Below w.heap.size w w') : Psd w' D ab i := h.keep (Kp.ofBelow k (fun _ => False)) id (fun _ _ _ _ _ => id)
theorem Psd.lt {w : World} {D : Nat → Prop} {ab i : Nat} (h : Psd w D ab i) : ab < w.heap.size := by
  obtain ⟨bv, bl, en, gp, hb, -⟩ := h.ex
  exact heap_lt hb
/-- A row: what is left of the kids of a node, and what stands ahead. -/
structure IsRw (w : World) (D : Nat → Prop) (rb ab : Nat) (ps : List X.Part) (i : Nat) : Prop where
  blk : ∃ v, w.heap[rb]? = some (.cells #[.pointer (some ⟨ab, 0, none⟩), v] 103 (0, 0)) ∧ NdS w D v ps
  psd : Psd w D ab i
  sep : rb ≠ ab ∧ ¬ D rb ∧ ¬ D ab
  byt : X.Gd ps
theorem IsRw.lt {w : World} {D : Nat → Prop} {rb ab : Nat} {ps : List X.Part} {i : Nat} (h : IsRw w D rb ab ps i) : rb < w.heap.size ∧ ab < w.heap.size := by
  obtain ⟨v, e, -⟩ := h.blk
  exact ⟨heap_lt e, h.psd.lt⟩
theorem IsRw.keep {S : Nat → Prop} {w w' : World} {D : Nat → Prop} {rb ab : Nat} {ps : List X.Part} {i : Nat} (h : IsRw w D rb ab ps i) (hk : Kp S w w') (h1 : ¬ S rb) (h2 : ¬ S ab) (hD : ∀ q, D q → ¬ S q) (hI : ∀ q c f, ab < q → w.heap[q]? = some (.cells c 3 f) → ¬ S q) : IsRw w' D rb ab ps i := by
  obtain ⟨v, e, hn⟩ := h.blk
  exact ⟨⟨v, hk.heap e h1, hn.keep hk hD⟩, h.psd.keep hk h2 hI, h.sep, h.byt⟩
theorem IsRw.below {w w' : World} {D : Nat → Prop} {rb ab : Nat} {ps : List X.Part} {i : Nat} (h : IsRw w D rb ab ps i) (hk : Below w.heap.size w w') : IsRw w' D rb ab ps i := h.keep (Kp.ofBelow hk (fun _ => False)) id id (fun _ _ => id) (fun _ _ _ _ _ => id)
/-- A block of another kind was turned. -/
theorem IsRw.on {w w' : World} {D : Nat → Prop} {rb ab : Nat} {ps : List X.Part} {i : Nat} (h : IsRw w D rb ab ps i) {b : Nat} (hk : Kp (fun q => q = b) w w') {c : Array Value} {T : TypeId} {f : Nat × Nat} (hb : w.heap[b]? = some (.cells c T f)) (hT : T ≠ 3) (h1 : rb ≠ b) (h2 : ab ≠ b) (hD : ¬ D b) : IsRw w' D rb ab ps i :=
  h.keep hk h1 h2 (fun q hq e => hD (e ▸ hq)) (fun q c' f' _ e e' => by
    subst e'
    rw [hb] at e
    injection e with e
    injection e with e1 e2
    exact hT e2)
/-- Another row of the same tree, when this one was gone through. -/
theorem IsRw.other {w w' : World} {D : Nat → Prop} {rb kb ab : Nat} {ps qs : List X.Part} {i j : Nat} (h : IsRw w D rb ab ps i) (k : Kq D kb ab w w') (hk : IsRw w' D kb ab qs j) (hn : rb ≠ kb) : IsRw w' D rb ab ps j := by
  obtain ⟨v, e, hv⟩ := h.blk
  exact ⟨⟨v, k.heap e (by decide) hn h.sep.1, k.nds hv hk.sep.2.1 hk.sep.2.2⟩, hk.psd, h.sep, h.byt⟩
/-- A block that was made is not turned. -/
theorem Kq.new {D : Nat → Prop} {w W W' : World} {rb ab : Nat} (hk : Kq D rb ab W W') (h1 : rb < w.heap.size) (h2 : ab < w.heap.size) {c : Array Value} {T : TypeId} {f : Nat × Nat} (h : W.heap[w.heap.size]? = some (.cells c T f)) (hT : T ≠ 3) : W'.heap[w.heap.size]? = some (.cells c T f) := hk.heap h hT (by omega) (by omega)
theorem Kq.made {D : Nat → Prop} {w W W' : World} {rb ab : Nat} (hk : Kq D rb ab W W') (h1 : rb < w.heap.size) (h2 : ab < w.heap.size) {b : Nat} (hb : w.heap.size ≤ b) {c : Array Value} {T : TypeId} {f : Nat × Nat} (h : W.heap[b]? = some (.cells c T f)) (hT : T ≠ 3) : W'.heap[b]? = some (.cells c T f) := hk.heap h hT (by omega) (by omega)
theorem Kq.more {D : Nat → Prop} {rb ab : Nat} {w W W' : World} (h : Kq D rb ab w W) (k : Below W.heap.size W W') (ha : ab < w.heap.size) : Kq D rb ab w W' := h.trans (Kq.ofBelow k (Nat.lt_of_lt_of_le ha h.size))
theorem Kq.over {S : Nat → Prop} {D : Nat → Prop} {rb ab : Nat} {w W W' : World} (h : Kq D rb ab w W) (k : Kp S W W') (ha : ab < w.heap.size) (hS : ∀ q, q < w.heap.size → ¬ S q) : Kq D rb ab w W' := ⟨Kp.trans h.kp k (fun q hq e => absurd e (hS q hq)), Nat.le_trans h.le (Nat.le_of_eq (nbg_kp k (Nat.lt_of_lt_of_le ha h.size) (hS _ ha)).symm)⟩
theorem not_int {w : World} {b : Nat} {c : Array Value} {T : TypeId} {f : Nat × Nat} (h : w.heap[b]? = some (.cells c T f)) (hT : T ≠ 3) : ¬ ∃ c' f', w.heap[b]? = some (.cells c' 3 f') := fun ⟨c', f', e⟩ => by
  rw [h] at e
  injection e with e
  injection e with e1 e2
  exact hT e2
/-- Of what was made a reader turns rows of numbers alone. -/
theorem Sw.int {w : World} {D : Nat → Prop} {rb ab lo : Nat} (h1 : rb < lo) (h2 : ab < lo) {i : Nat} (hi : lo ≤ i) (h : Sw w D rb ab i) : ∃ c f, w.heap[i]? = some (.cells c 3 f) := by
  rcases h with e | e | ⟨-, -, e⟩
  · omega
  · omega
  · exact e
theorem Kq.wide {D : Nat → Prop} {rb ab : Nat} {w w' : World} (h : Kq D ab ab w w') : Kq D rb ab w w' := ⟨h.kp.mono (fun q _ e => by
  rcases e with e | e | e
  · exact .inr (.inl e)
  · exact .inr (.inl e)
  · exact .inr (.inr e)), h.le⟩
theorem Kq.set2 {D : Nat → Prop} {rb ab : Nat} {w W : World} (h : Kq D rb ab w W) (ha : ab < w.heap.size) {b : Nat} (hb : w.heap.size ≤ b) (x0 x1 : Value) : Kq D rb ab w ((W.setCell ⟨b, 0, none⟩ x0).setCell ⟨b, 1, none⟩ x1) := (h.set ha hb 0 x0).set ha hb 1 x1
theorem Kq.set4 {D : Nat → Prop} {rb ab : Nat} {w W : World} (h : Kq D rb ab w W) (ha : ab < w.heap.size) {b : Nat} (hb : w.heap.size ≤ b) (x0 x1 x2 x3 : Value) : Kq D rb ab w ((((W.setCell ⟨b, 0, none⟩ x0).setCell ⟨b, 1, none⟩ x1).setCell ⟨b, 2, none⟩ x2).setCell ⟨b, 3, none⟩ x3) := (((h.set ha hb 0 x0).set ha hb 1 x1).set ha hb 2 x2).set ha hb 3 x3
end Go.Proofs.YtgjbafamiggafaaGreatDoor
/- Package syntax, at the code since bcf6f60: a token is counted. -/
namespace Go.Proofs.YtgjbafamiggafaaGreatDoor
open Go.RowKit
open M

theorem infoI : (Tryz.prog.info? 3).map (fun i => (i.zero, i.size, i.bytes)) = some (some (.int .i64 0), 1, 8) := by kernel_rfl
theorem infoF {f : Option TypeInfo} {z : Value} {n m : Nat} (h : f.map (fun i => (i.zero, i.size, i.bytes)) = some (some z, n, m)) : ∃ i, f = some i ∧ i.zero = some z ∧ i.size = n ∧ i.bytes = m := by
  cases f with
  | none => cases h
  | some i =>
    simp only [Option.map_some, Option.some.injEq, Prod.mk.injEq] at h
    exact ⟨i, rfl, h.1, h.2.1, h.2.2⟩
theorem setB {W : World} {b : Nat} {vs : Array Value} {ty : TypeId} (h : W.heap[b]? = some (.cells vs ty (0, 0))) (k : Nat) (v : Value) : (W.setCell ⟨b, k, none⟩ v).heap[b]? = some (.cells (vs.setIfInBounds k v) ty (0, 0)) := by simp [World.setCell, Array.getElem?_modify, h]
theorem frzB {W : World} {b : Nat} {c : Array Value} {t : TypeId} (h : W.heap[b]? = some (.cells c t (0, 0))) (k : Nat) : W.frozen? ⟨b, k, none⟩ = false := by simp [World.frozen?, h]
theorem z10 {z : Nat} (h : (z == 10) = true) : z = 10 := by simpa using h
set_option maxRecDepth 100000 in
set_option maxHeartbeats 4000000 in
theorem pcount_any (ab i tk : Nat) (x : ByteArray) (a4 : Option Addr) (a5 a6 : Nat) (w : World) (D : Nat → Prop) (h : Psd w D ab i) (hi : i + x.size ≤ 1073741824) (hx : 0 < x.size) (hDl : ∀ q, D q → q < w.heap.size) :
    Calls Tryz.prog 88 #[.pointer (some ⟨ab, 0, none⟩), .agg #[.int .i64 0, .int .i64 tk, .string x, .slice a4 a5 a6]] w fun e w' => e = .returned (.tuple #[]) ∧ Hid (Psd w' D ab (i + x.size) ∧ Kq D ab ab w w') := by
  obtain ⟨bv, bl, en, gp, hb, ho, hn, hbD⟩ := h.ex
  clear h
  obtain ⟨bo, bc, hbv, -⟩ := owns_slice ho
  have hn0 : Hid (nbg ab w = bl.length) := by
    rw [hbv] at hb
    exact nbg_of hb
  have HBv := hide hbv
  clear hbv
  generalize hxs : bl.map (Value.int .i64) = xs at *
  generalize hnn : bl.length = n at *
  have HXs := hide hxs
  have HNn := hide hnn
  clear hxs hnn
  have HBD := hide hbD
  have HDl := hide hDl
  clear hbD hDl
  have k0 : Below w.heap.size w (w.alloc (.cells #[.int .i64 0, .int .i64 tk, .string x, .slice a4 a5 a6] 100)) := (Below.refl _ w).alloc (Nat.le_refl _) _
  have hN := heap_alloc_new w (.cells #[.int .i64 0, .int .i64 tk, .string x, .slice a4 a5 a6] 100)
  have q0 := Kp.ofBelow k0 (fun _ => False)
  have hb0 := q0.heap hb id
  have ho0 := q0.owns ho (fun _ _ => id)
  have hal := heap_lt hb
  have K0 := hide (Kp.ofBelow k0 (Sw w D ab ab))
  clear k0 q0
  go_enter Tryz.func88, Tryz.ntmps88
  go_upto_region 1 with fail
  generalize hW : w.alloc (.cells #[.int .i64 0, .int .i64 tk, .string x, .slice a4 a5 a6] 100) = w1 at *
  generalize hB : w.heap.size = B at hN ⊢
  have c0 := cell_of_row w1 _ 0 _ _ _ hb0
  have n2 := cell_of_row w1 _ 2 _ _ _ hN
  have f0 := frzB hb0 0
  go_wp2_with fail
  refine wpZ_start (S := fun w' => w'.cell? ⟨ab, 0, none⟩ = some (.int .i64 i) ∧ w'.cell? ⟨B, 2, none⟩ = some (.string x)) (Z := fun j => j == 10) (by kernel_rfl) ?_
  have hS : w1.drew.cell? ⟨ab, 0, none⟩ = some (.int .i64 i) ∧ w1.drew.cell? ⟨B, 2, none⟩ = some (.string x) := ⟨c0, n2⟩
  have hb1 : w1.drew.heap[ab]? = some (.cells #[.int .i64 i, bv, .int .i64 en, .int .i64 gp] 97 (0, 0)) := hb0
  have hN1 : w1.drew.heap[B]? = some (.cells #[.int .i64 0, .int .i64 tk, .string x, .slice a4 a5 a6] 100 (0, 0)) := hN
  have ho1 : w1.drew.ownsRow (ab + 1) 3 1 bv n xs := ho0.drew
  have K1 := hide ((K0.out).drew)
  clear c0 n2 f0 hb0 hN ho0 K0 hW
  generalize w1.drew = w2 at *
  have f0 := frzB hb1 0
  refine wpZ_take (i := 0) (dn := 9) (v := ?_) rfl rfl (by kernel_rfl) (fun z hz => by obtain rfl := z10 hz; kernel_rfl) (by kernel_rfl) (by kernel_rfl) (fun _ _ _ h => h) (Or.inl ⟨by rfl, ?_⟩) hS ?_
  rotate_left
  · (intro wx hSw; (try dsimp only at hSw); obtain ⟨hSw1, hSw2⟩ := hSw; go_simp; try (with_reducible rfl))
  simp only [Act.put, List.setIfInBounds_toArray, List.set_cons_zero, List.set_cons_succ]
  refine wpZ_take (i := 1) (dn := 10) (v := ?_) rfl rfl (by kernel_rfl) (fun z hz => by obtain rfl := z10 hz; kernel_rfl) (by kernel_rfl) (by kernel_rfl) (fun _ _ _ h => h) (Or.inl ⟨by rfl, ?_⟩) hS ?_
  rotate_left
  · (intro wx hSw; (try dsimp only at hSw); obtain ⟨hSw1, hSw2⟩ := hSw; go_simp; try (with_reducible rfl))
  simp only [Act.put, List.setIfInBounds_toArray, List.set_cons_zero, List.set_cons_succ]
  refine wpZ_take (i := 2) (dn := 11) (v := ?_) rfl rfl (by kernel_rfl) (fun z hz => by obtain rfl := z10 hz; kernel_rfl) (by kernel_rfl) (by kernel_rfl) (fun _ _ _ h => h) (Or.inl ⟨by rfl, ?_⟩) hS ?_
  rotate_left
  · (intro wx hSw; (try dsimp only at hSw); obtain ⟨hSw1, hSw2⟩ := hSw; go_simp; try (with_reducible rfl))
  simp only [Act.put, List.setIfInBounds_toArray, List.set_cons_zero, List.set_cons_succ]
  refine wpZ_take (i := 3) (dn := 12) (v := ?_) rfl rfl (by kernel_rfl) (fun z hz => by obtain rfl := z10 hz; kernel_rfl) (by kernel_rfl) (by kernel_rfl) (fun _ _ _ h => h) (Or.inl ⟨by rfl, ?_⟩) hS ?_
  rotate_left
  · (intro wx hSw; (try dsimp only at hSw); obtain ⟨hSw1, hSw2⟩ := hSw; go_simp; try (with_reducible rfl))
  simp only [Act.put, List.setIfInBounds_toArray, List.set_cons_zero, List.set_cons_succ]
  refine wpZ_take (i := 4) (dn := 13) (v := ?_) rfl rfl (by kernel_rfl) (fun z hz => by obtain rfl := z10 hz; kernel_rfl) (by kernel_rfl) (by kernel_rfl) (fun _ _ _ h => h) (Or.inl ⟨by rfl, ?_⟩) hS ?_
  rotate_left
  · (intro wx hSw; (try dsimp only at hSw); obtain ⟨hSw1, hSw2⟩ := hSw; go_simp; try (with_reducible rfl))
  simp only [Act.put, List.setIfInBounds_toArray, List.set_cons_zero, List.set_cons_succ]
  refine wpZ_take (i := 5) (dn := 14) (v := ?_) rfl rfl (by kernel_rfl) (fun z hz => by obtain rfl := z10 hz; kernel_rfl) (by kernel_rfl) (by kernel_rfl) (fun _ _ _ h => h) (Or.inl ⟨by rfl, ?_⟩) hS ?_
  rotate_left
  · (intro wx hSw; (try dsimp only at hSw); obtain ⟨hSw1, hSw2⟩ := hSw; go_simp; try (with_reducible rfl))
  simp only [Act.put, List.setIfInBounds_toArray, List.set_cons_zero, List.set_cons_succ]
  refine wpZ_take (i := 6) (dn := 15) (v := ?_) rfl rfl (by kernel_rfl) (fun z hz => by obtain rfl := z10 hz; kernel_rfl) (by kernel_rfl) (by kernel_rfl) (fun _ _ _ h => h) (Or.inl ⟨by rfl, ?_⟩) hS ?_
  rotate_left
  · (intro wx hSw; (try dsimp only at hSw); obtain ⟨hSw1, hSw2⟩ := hSw; go_simp; try (with_reducible rfl))
  simp only [Act.put, List.setIfInBounds_toArray, List.set_cons_zero, List.set_cons_succ]
  refine wpZ_take (i := 7) (dn := 16) (v := ?_) rfl rfl (by kernel_rfl) (fun z hz => by obtain rfl := z10 hz; kernel_rfl) (by kernel_rfl) (by kernel_rfl) (fun _ _ _ h => h) (Or.inl ⟨by rfl, ?_⟩) hS ?_
  rotate_left
  · (intro wx hSw; (try dsimp only at hSw); obtain ⟨hSw1, hSw2⟩ := hSw; go_simp; try (with_reducible rfl))
  simp only [Act.put, List.setIfInBounds_toArray, List.set_cons_zero, List.set_cons_succ]
  refine wpZ_one (i := 8) (by kernel_rfl) rfl (fun K' hK' => ?_)
  go_simp
  refine hK'.out _ _ (fun _ => hS) (fun _ => ?_)
  clear hK' K'
  refine wpZ_one (i := 9) (by kernel_rfl) rfl (fun K' hK' => ?_)
  go_simp
  refine hK'.out _ _ (fun _ => hS) (fun _ => ?_)
  clear hK' K'
  refine wpZ_one (i := 10) (by kernel_rfl) rfl (fun K' hK' => ?_)
  go_simp
  refine hK'.out _ _ (fun h => absurd h (by decide)) (fun _ => wpZ_end (by kernel_rfl) ?_)
  clear hK' K'
  have hwr : IntKind.i64.wrap ((i : Int) + (x.size : Int)) = ((i + x.size : Nat) : Int) := by
    rw [IntKind.wrap_i64]; omega
  rw [hwr]
  have hBa : ¬ ab = B := by omega
  have kS : Kp (fun q => q = ab) w2 (w2.setCell ⟨ab, 0, none⟩ (.int .i64 ((i + x.size : Nat) : Int))) := Kp.setCell (S := fun q => q = ab) (p := ⟨ab, 0, none⟩) (Kp.refl _ w2) (fun _ => rfl) _
  have hb3 := setB hb1 0 (.int .i64 ((i + x.size : Nat) : Int))
  have hN3 := kS.heap hN1 (fun e => hBa e.symm)
  have hag : ∀ q, bv.ownBlock = some q → q ≠ ab := fun q hq e => by
    rcases ho1.2 with ⟨rfl, -⟩ | ⟨g, cap, cur, rfl, hge, -⟩
    · cases hq
    · obtain rfl : g = q := by simpa [Value.ownBlock] using hq
      omega
  have ho3 := kS.owns ho1 (fun q hq e => hag q hq e)
  have K3 := hide (Kp.trans (K1.out) kS (fun q _ e => .inl e))
  clear kS hb1 hN1 ho1 K1 hwr f0 hS hb ho
  generalize w2.setCell ⟨ab, 0, none⟩ (.int .i64 ((i + x.size : Nat) : Int)) = w3 at *
  have hb3' : w3.heap[ab]? = some (.cells #[.int .i64 ((i + x.size : Nat) : Int), bv, .int .i64 en, .int .i64 gp] 97 (0, 0)) := by simpa using hb3
  clear hb3
  have m0 := cell_of_row w3 _ 0 _ _ _ hN3
  have m1 := cell_of_row w3 _ 1 _ _ _ hN3
  have m2 := cell_of_row w3 _ 2 _ _ _ hN3
  have m3 := cell_of_row w3 _ 3 _ _ _ hN3
  go_wp2_with fail
  refine (syQuiet_any 0 tk x a4 a5 a6 _).mono ?_
  rintro e w4 ⟨rfl, k4⟩
  have q4 := Kp.ofBelow k4 (fun _ => False)
  have hb4 := q4.heap hb3' id
  have ho4 := q4.owns ho3 (fun _ _ => id)
  have K4 := hide (Kp.trans (K3.out) q4 (fun _ _ e => e.elim))
  have hs4 := (K4.out).size
  clear m0 m1 m2 m3 q4 k4 hb3' ho3 K3 hN3
  by_cases hq : (tk == 1 || tk == 2) = true
  · rw [show ((0 : Nat) == 0 && (tk == 1 || tk == 2)) = true by rw [hq]; rfl]
    clear hq
    go_wp2_with fail
    go_end0
    have hq4 : nbg ab w4 = n := by
      rw [HBv.out] at hb4
      exact nbg_of hb4
    refine ⟨rfl, ⟨bv, bl, en, gp, hb4, by rw [HXs.out, HNn.out]; exact ho4, by have := HNn.out; omega, HBD.out⟩, K4.out, ?_⟩
    have h1 := hn0.out
    omega
  · rw [show ((0 : Nat) == 0 && (tk == 1 || tk == 2)) = false by simpa using hq]
    clear hq
    have c1 := cell_of_row w4 _ 1 _ _ _ hb4
    obtain ⟨ii, hii, hi0, hi1, hi2⟩ := infoF infoI
    have hab : ab + 1 ≤ w4.heap.size := by omega
    have HO4 := hide ho4
    go_wp2_with (at_builtin; refine wpList_append_lies _ rfl _ _ 95 rfl (ab + 1) 3 ii _ 1 8 Tryz.underlying95 hii hi0 hi1 hi2 rfl (by decide) bv n _ rfl ((HO4.out).alloc _) ⟨w4.heap.size, 0, none⟩ 1 1 [.int .i64 i] rfl rfl (World.news_of_block (cs := #[.int .i64 i]) (heap_alloc_new w4 _)) (by simp [Value.oneCell']) (by omega) (by unfold maxLen; omega) (by omega) (by simp; omega) (w4.heap.size + 1) (by simp) ?_; intro g5 cap5 w5 hown5 hgrow5 hat5 hlt5; have HO5 := hide hown5; have HG5 := hide hgrow5; have HA5 := hide hat5; have kG : Kp (fun q => bv.ownBlock = some q) w4 w5 := Kp.grown (Kp.alloc (Kp.refl _ w4) _) hgrow5 (fun q e _ => e); have hb5 := kG.heap hb4 (fun e => hag ab e rfl); have r0 := cell_of_row w5 _ 0 _ _ _ hb5; have r1 := cell_of_row w5 _ 1 _ _ _ hb5; have r2 := cell_of_row w5 _ 2 _ _ _ hb5; have f1 := frzB hb5 1; have f2 := frzB hb5 2; have KG := hide kG; have HB5 := hide hb5; clear hown5 hgrow5 hat5 hlt5 kG hb5)
    have hown : ∀ q, bv.ownBlock = some q → ab < q ∧ ∃ c f, w4.heap[q]? = some (.cells c 3 f) := fun q hq => by
      rcases (HO4.out).2 with ⟨rfl, -⟩ | ⟨g, cap, cur, rfl, hge, hg, -⟩
      · cases hq
      · obtain rfl : g = q := by simpa [Value.ownBlock] using hq
        exact ⟨by omega, cur, _, hg⟩
    have hga : g5 ≠ ab := fun e => (HA5.out).elim (fun h => hag g5 h e) (fun h => by omega)
    have kF : Kp (fun q => q = ab) w5 ((w5.setCell ⟨ab, 1, none⟩ (.slice (some ⟨g5, 0, none⟩) (n + 1) cap5)).setCell ⟨ab, 2, none⟩ (.int .i64 ((i + x.size : Nat) : Int))) := Kp.setCell (S := fun q => q = ab) (p := ⟨ab, 2, none⟩) (Kp.setCell (S := fun q => q = ab) (p := ⟨ab, 1, none⟩) (Kp.refl _ w5) (fun _ => rfl) _) (fun _ => rfl) _
    have HF : Hid (Psd ((w5.setCell ⟨ab, 1, none⟩ (.slice (some ⟨g5, 0, none⟩) (n + 1) cap5)).setCell ⟨ab, 2, none⟩ (.int .i64 ((i + x.size : Nat) : Int))) D ab (i + x.size) ∧ Kq D ab ab w ((w5.setCell ⟨ab, 1, none⟩ (.slice (some ⟨g5, 0, none⟩) (n + 1) cap5)).setCell ⟨ab, 2, none⟩ (.int .i64 ((i + x.size : Nat) : Int)))) := by
      have hbF : ((w5.setCell ⟨ab, 1, none⟩ (.slice (some ⟨g5, 0, none⟩) (n + 1) cap5)).setCell ⟨ab, 2, none⟩ (.int .i64 ((i + x.size : Nat) : Int))).heap[ab]? = some (.cells #[.int .i64 ((i + x.size : Nat) : Int), .slice (some ⟨g5, 0, none⟩) (n + 1) cap5, .int .i64 ((i + x.size : Nat) : Int), .int .i64 gp] 97 (0, 0)) := by
        have := setB (setB HB5.out 1 (.slice (some ⟨g5, 0, none⟩) (n + 1) cap5)) 2 (.int .i64 ((i + x.size : Nat) : Int))
        simpa using this
      show Psd _ _ _ _ ∧ Kq _ _ _ _ _
      have hnn := HNn.out
      have hxs := HXs.out
      refine ⟨⟨Value.slice (some ⟨g5, 0, none⟩) (n + 1) cap5, bl ++ [(i : Int)], ((i + x.size : Nat) : Int), gp, hbF, ?_, by rw [List.length_append, hnn]; show n + 1 ≤ _; omega, fun q hq hd => ?_⟩, ?_, ?_⟩
      · rw [List.length_append, List.map_append, hnn, hxs]
        exact kF.owns HO5.out (fun q hq e => hga (by have h1 : some g5 = some q := hq; injection h1 with h1; have : q = ab := e; omega))
      · have h1 : some g5 = some q := hq
        injection h1 with h1
        subst h1
        rcases HA5.out with h2 | h2
        · exact (HBD.out) _ h2 hd
        · have := (HDl.out) _ hd
          omega
      · refine Kp.trans K4.out (Kp.trans (S := Sw w4 D ab ab) (Kp.mono KG.out (fun q _ e => .inr (.inr ⟨(hown q e).1, (HBD.out) q e, (hown q e).2⟩))) kF (fun q _ e => .inl e)) (fun q hq e => ?_)
        rcases e with e | e | ⟨e, e1, c, f, hc⟩
        · exact .inl e
        · exact .inr (.inl e)
        · by_cases hs : Sw w D ab ab q
          · exact hs
          · exact .inr (.inr ⟨e, e1, c, f, by rw [← (K4.out).block q hq hs]; exact hc⟩)
      · rw [nbg_of hbF]
        have h1 := hn0.out
        omega
    clear hb4 ho4 HO4 HO5 HG5 HA5 KG HB5 kF K4 hown
    rw [Int.natCast_add] at HF
    go_end0
    exact ⟨rfl, HF.out⟩
end Go.Proofs.YtgjbafamiggafaaGreatDoor
