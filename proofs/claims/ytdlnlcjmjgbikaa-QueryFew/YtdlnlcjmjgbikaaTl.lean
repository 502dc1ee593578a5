/- A round in memory. -/
import Derived.Test.YtdlnlcjmjgbikaaTh
import Derived.Deep.OwnRows
namespace Go.Proofs.Ytdlnlcjmjgbikaa
open Go Go.Conc Go.RowKit Go.Deep

noncomputable section
/-- n cells of a block, none frozen, by a function. -/
def Mem (w : World) (b n : Nat) (f : Nat → Value) : Prop := ∀ i, i < n → w.cell? ⟨b, i, none⟩ = some (f i) ∧ w.frozen? ⟨b, i, none⟩ = false
namespace Mem
variable {w w' : World} {b n : Nat} {f g : Nat → Value}
theorem cell (h : Mem w b n f) {i : Nat} (hi : i < n) : w.cell? ⟨b, i, none⟩ = some (f i) := (h i hi).1
theorem frozen (h : Mem w b n f) {i : Nat} (hi : i < n) : w.frozen? ⟨b, i, none⟩ = false := (h i hi).2
theorem congr (h : Mem w b n f) (e : ∀ i, i < n → f i = g i) : Mem w b n g := fun i hi => by rw [← e i hi]; exact h i hi
theorem set (h : Mem w b n f) (i : Nat) (v : Value) : Mem (w.setCell ⟨b, i, none⟩ v) b n (upf f i v) := fun j hj => by
  rw [World.frozen?_setCell]
  refine ⟨?_, (h j hj).2⟩
  by_cases e : j = i
  · subst e
    rw [upf_same]
    exact World.cell?_setCell_same _ _ _ (h j hj).1
  · rw [upf_ne _ _ e, World.cell?_setCell_other _ _ _ _ (fun e' => e (congrArg Addr.off e').symm)]
    exact (h j hj).1
theorem oth (h : Mem w b n f) (a : Addr) (ha : a.block ≠ b) (v : Value) : Mem (w.setCell a v) b n f := fun j hj => by
  rw [World.frozen?_setCell, World.cell?_setCell_other _ _ _ _ (fun e' => ha (congrArg Addr.block e'))]
  exact h j hj
theorem blk (h : Mem w b n f) (e : b < w.heap.size → w'.heap[b]? = w.heap[b]?) : Mem w' b n f := fun j hj => by
  have hb : b < w.heap.size := World.block_lt_of_cell? w ⟨b, j, none⟩ (h j hj).1
  rw [World.cell?_of_block (w := w) (e hb), World.frozen?_of_block (w := w) (e hb)]
  exact h j hj
theorem drew (h : Mem w b n f) : Mem w.drew b n f := h
theorem alloc (h : Mem w b n f) (o : Obj) : Mem (w.alloc o) b n f := h.blk fun hb => blk_alloc_lt _ _ _ hb
end Mem

/-- All blocks but those of M are as they were. -/
structure Keep (M : Nat → Prop) (w w' : World) : Prop where
  os : w'.os = w.os
  output : w'.output = w.output
  size : w.heap.size ≤ w'.heap.size
  block : ∀ b, b < w.heap.size → ¬ M b → w'.heap[b]? = w.heap[b]?
namespace Keep
variable {M M' : Nat → Prop} {w w' w'' : World}
theorem refl (M : Nat → Prop) (w : World) : Keep M w w := ⟨rfl, rfl, Nat.le_refl _, fun _ _ _ => rfl⟩
theorem trans (h : Keep M w w') (k : Keep M w' w'') : Keep M w w'' := ⟨k.os.trans h.os, k.output.trans h.output, Nat.le_trans h.size k.size, fun b hb hM => (k.block b (Nat.lt_of_lt_of_le hb h.size) hM).trans (h.block b hb hM)⟩
theorem wide (h : Keep M w w') (hM : ∀ b, b < w.heap.size → M b → M' b) : Keep M' w w' := ⟨h.os, h.output, h.size, fun b hb hn => h.block b hb fun m => hn (hM b hb m)⟩
theorem set (h : Keep M w w') (a : Addr) (ha : M a.block) (v : Value) : Keep M w (w'.setCell a v) :=
  h.trans ⟨rfl, rfl, by simp, fun b _ hM => blk_setCell_other _ _ _ _ fun e => hM (e ▸ ha)⟩
/-- A store into what is new. -/
theorem setNew (h : Keep M w w') (a : Addr) (ha : w.heap.size ≤ a.block) (v : Value) : Keep M w (w'.setCell a v) :=
  ⟨h.os, h.output, by simpa using h.size, fun b hb hM => (blk_setCell_other _ _ _ _ (by omega)).trans (h.block b hb hM)⟩
theorem alloc (h : Keep M w w') (o : Obj) : Keep M w (w'.alloc o) :=
  h.trans ⟨rfl, rfl, by simp, fun b hb _ => blk_alloc_lt _ _ _ hb⟩
theorem drew (h : Keep M w w') : Keep M w w'.drew := h.trans ⟨rfl, rfl, Nat.le_refl _, fun _ _ _ => rfl⟩
theorem at_ (h : Keep M w w') (d : Nat) : Keep M w (w'.at d) := h.trans ⟨rfl, rfl, Nat.le_refl _, fun _ _ _ => rfl⟩
theorem cell (h : Keep M w w') {a : Addr} (hM : ¬ M a.block) {x : Value} (hc : w.cell? a = some x) : w'.cell? a = some x := by
  rw [World.cell?_of_block (w := w) (h.block _ (World.block_lt_of_cell? w a hc) hM)]
  exact hc
theorem mem (h : Keep M w w') {b n : Nat} (hM : ¬ M b) {f : Nat → Value} (hm : Mem w b n f) : Mem w' b n f := hm.blk fun hb => h.block b hb hM
end Keep

/-- Where a round lies. -/
structure QY where
  r : Nat
  cb : Nat
  mb : Nat
  rb : Nat
  fb : Nat
  hb : Nat
  db : Nat
  wb : Nat
  cc : Nat
  mc : Nat
  rc : Nat
  fc : Nat
  hc : Nat
  dc : Nat
  wc : Nat
  sema : Value
  lk : Nat → Nat
  lc : Nat → Nat
/-- The blocks that a round writes to. -/
def QY.mut (Y : QY) (b : Nat) : Prop := b = Y.r ∨ b = Y.mb ∨ b = Y.rb ∨ b = Y.fb ∨ b = Y.hb ∨ b = Y.db ∨ b = Y.wb
/-- The round itself. -/
def QY.rv (Y : QY) (n : Nat) (left st : Int) : Nat → Value
  | 0 => .slice (some ⟨Y.cb, 0, none⟩) n Y.cc
  | 1 => .slice (some ⟨Y.mb, 0, none⟩) n Y.mc
  | 2 => .slice (some ⟨Y.rb, 0, none⟩) n Y.rc
  | 3 => .int .i64 left
  | 4 => .int .i32 st
  | 5 => Y.sema
  | 6 => .slice (some ⟨Y.fb, 0, none⟩) n Y.fc
  | 7 => .slice (some ⟨Y.hb, 0, none⟩) n Y.hc
  | 8 => .slice (some ⟨Y.db, 0, none⟩) n Y.dc
  | _ => .slice (some ⟨Y.wb, 0, none⟩) 1 Y.wc
/-- What a rule looks at. -/
def QR.looks (R : QR) (k : Nat) : List Int := if R.op k = 0 then [] else if R.op k = 5 then [R.a k] else if R.op k = 4 then [R.a k, R.b k, R.c k] else [R.a k, R.b k]
/-- A cell whose rule has been looked at. -/
structure CellAt (R : QR) (Y : QY) (w : World) (k : Nat) : Prop where
  op : w.cell? ⟨Y.cb, k * 8, none⟩ = some (.int .i64 (R.op k))
  a : w.cell? ⟨Y.cb, k * 8 + 1, none⟩ = some (.int .i64 (R.a k))
  b : w.cell? ⟨Y.cb, k * 8 + 2, none⟩ = some (.int .i64 (R.b k))
  c : w.cell? ⟨Y.cb, k * 8 + 3, none⟩ = some (.int .i64 (R.c k))
  once : w.cell? ⟨Y.cb, k * 8 + 4, none⟩ = some (.int .u32 1)
  looks : R.op k ≠ 0 → w.cell? ⟨Y.cb, k * 8 + 7, none⟩ = some (.slice (some ⟨Y.lk k, 0, none⟩) (R.looks k).length (Y.lc k))
  at_ : R.op k ≠ 0 → ∀ i (h : i < (R.looks k).length), w.cell? ⟨Y.lk k, i, none⟩ = some (.int .i64 (R.looks k)[i])
/-- A memory. -/
structure MemAt (w : World) (b o : Nat) (m : QM) (v : Value) : Prop where
  ran : w.cell? ⟨b, o, none⟩ = some (.bool m.ran) ∧ w.frozen? ⟨b, o, none⟩ = false
  num : w.cell? ⟨b, o + 1, none⟩ = some (.int .i64 m.out.num) ∧ w.frozen? ⟨b, o + 1, none⟩ = false
  err : w.cell? ⟨b, o + 2, none⟩ = some (.int .i64 m.out.err) ∧ w.frozen? ⟨b, o + 2, none⟩ = false
  led : w.cell? ⟨b, o + 3, none⟩ = some v ∧ w.frozen? ⟨b, o + 3, none⟩ = false
/-- What a rule was led to. -/
def LedIs (M : Nat → Prop) (w : World) (v : Value) (l : List QL) : Prop :=
  (l = [] ∧ ∃ a cap, v = .slice a 0 cap) ∨ ∃ b cap, v = .slice (some ⟨b, 0, none⟩) l.length cap ∧ l.length ≤ 2 ∧ ¬ M b ∧ b < w.heap.size ∧ ∀ i (h : i < l.length), w.cell? ⟨b, i * 3, none⟩ = some (.int .i64 l[i].key) ∧ w.cell? ⟨b, i * 3 + 1, none⟩ = some (.int .i64 l[i].had.num) ∧ w.cell? ⟨b, i * 3 + 2, none⟩ = some (.int .i64 l[i].had.err)
theorem LedIs.keep {M M' : Nat → Prop} {w w' : World} {v : Value} {l : List QL} (h : LedIs M w v l) (k : Keep M' w w') (hs : ∀ b, M' b → M b) : LedIs M w' v l := by
  rcases h with h | ⟨b, cap, e, h2, hM, hb, hl⟩
  · exact .inl h
  · have hn : ¬ M' b := fun m => hM (hs b m)
    exact .inr ⟨b, cap, e, h2, hM, Nat.lt_of_lt_of_le hb k.size, fun i hi => ⟨k.cell hn (hl i hi).1, k.cell hn (hl i hi).2.1, k.cell hn (hl i hi).2.2⟩⟩
theorem LedIs.mono {M M' : Nat → Prop} {w : World} {v : Value} {l : List QL} (h : LedIs M w v l) (hM : ∀ b, b < w.heap.size → M' b → M b) : LedIs M' w v l := by
  rcases h with h | ⟨b, cap, e, h2, hM', hb, hl⟩
  · exact .inl h
  · exact .inr ⟨b, cap, e, h2, fun m => hM' (hM b hb m), hb, hl⟩
theorem MemAt.blk {w w' : World} {b o : Nat} {m : QM} {v : Value} (h : MemAt w b o m v) (e : b < w.heap.size → w'.heap[b]? = w.heap[b]?) : MemAt w' b o m v := by
  have hb : b < w.heap.size := World.block_lt_of_cell? w _ h.ran.1
  obtain ⟨h0, h1, h2, h3⟩ := h
  constructor <;> (rw [World.cell?_of_block (w := w) (e hb), World.frozen?_of_block (w := w) (e hb)]; assumption)
theorem MemAt.oth {w : World} {b o : Nat} {m : QM} {v : Value} (h : MemAt w b o m v) (a : Addr) (ha : a.block ≠ b) (x : Value) : MemAt (w.setCell a x) b o m v := h.blk fun _ => blk_setCell_other _ _ _ _ (fun e => ha e.symm)
theorem CellAt.keep {R : QR} {Y : QY} {M : Nat → Prop} {w w' : World} {k : Nat} (h : CellAt R Y w k) (hc : ¬ M Y.cb) (hl : R.op k ≠ 0 → ¬ M (Y.lk k)) (e : Keep M w w') : CellAt R Y w' k :=
  ⟨e.cell hc h.op, e.cell hc h.a, e.cell hc h.b, e.cell hc h.c, e.cell hc h.once, fun h0 => e.cell hc (h.looks h0), fun h0 i hi => e.cell (hl h0) (h.at_ h0 i hi)⟩

/-- The blocks of a round differ. -/
structure QY.Ok (Y : QY) (R : QR) : Prop where
  nodup : [Y.r, Y.mb, Y.rb, Y.fb, Y.hb, Y.db, Y.wb].Nodup
  cb : ¬ Y.mut Y.cb
  lk : ∀ k, k < R.n → R.op k ≠ 0 → ¬ Y.mut (Y.lk k)
/-- What a round's memories and channels do not lie in: what it writes to, and what others hold for themselves. -/
def QY.out (Y : QY) (X : Nat → Prop) (b : Nat) : Prop := Y.mut b ∨ X b
/-- A ROUND IN MEMORY; ch: the channels of the cells in hand; X: blocks that others hold for themselves. -/
structure Rd (R : QR) (Y : QY) (X : Nat → Prop) (ch : Nat → Nat) (w : World) (S : QS) : Prop where
  r : Mem w Y.r 10 (Y.rv R.n S.left 0)
  cells : ∀ k, k < R.n → CellAt R Y w k
  mems : ∀ k, k < R.n → ∃ v, MemAt w Y.mb (k * 4) (S.mem k) v ∧ LedIs (Y.out X) w v (S.mem k).led
  runs : Mem w Y.rb R.n (fun k => .int .i64 (S.rn k))
  fresh : Mem w Y.fb R.n (fun k => .bool (S.fr k))
  hands : Mem w Y.hb R.n (fun k => .int .i64 (if S.hd k then 0 else -1))
  done : ∀ k, k < R.n → ∃ u, w.cell? ⟨Y.db, k, none⟩ = some u ∧ w.frozen? ⟨Y.db, k, none⟩ = false ∧ (S.hd k = true → u = .chan (some (ch k)))
  opn : ∀ k, k < R.n → S.hd k = true → ¬ Y.out X (ch k) ∧ w.heap[ch k]? = some (.chan 0 #[] false 0 0 false)
  inj : ∀ i j, i < R.n → j < R.n → S.hd i = true → S.hd j = true → ch i = ch j → i = j
  waits : Mem w Y.wb 1 (fun _ => .int .i64 (-1))
  priv : ∀ b, X b → b < w.heap.size ∧ ¬ Y.mut b ∧ b ≠ Y.cb ∧ ∀ k, k < R.n → R.op k ≠ 0 → b ≠ Y.lk k
variable {X : Nat → Prop} {R : QR} {Y : QY} {ch : Nat → Nat} {w w' : World} {S : QS}
/-- Nothing of it was written to. -/
theorem Rd.keepX (h : Rd R Y X ch w S) (k : Keep X w w') : Rd R Y X ch w' S := by
  have hx : ∀ b, Y.mut b → ¬ X b := fun b hm hx => (h.priv b hx).2.1 hm
  have hr := hx _ (.inl rfl)
  have hmb := hx Y.mb (.inr (.inl rfl))
  have hrb := hx Y.rb (.inr (.inr (.inl rfl)))
  have hfb := hx Y.fb (.inr (.inr (.inr (.inl rfl))))
  have hhb := hx Y.hb (.inr (.inr (.inr (.inr (.inl rfl)))))
  have hdb := hx Y.db (.inr (.inr (.inr (.inr (.inr (.inl rfl))))))
  have hwb := hx Y.wb (.inr (.inr (.inr (.inr (.inr (.inr rfl))))))
  refine ⟨k.mem hr h.r, fun i hi => (h.cells i hi).keep (fun hx => (h.priv _ hx).2.2.1 rfl) (fun h0 hx => (h.priv _ hx).2.2.2 i hi h0 rfl) k, fun i hi => ?_, k.mem hrb h.runs, k.mem hfb h.fresh, k.mem hhb h.hands, fun i hi => ?_, fun i hi hh => ?_, h.inj, k.mem hwb h.waits,
    fun b hb => ⟨Nat.lt_of_lt_of_le (h.priv b hb).1 k.size, (h.priv b hb).2⟩⟩
  · obtain ⟨v, h1, h2⟩ := h.mems i hi
    exact ⟨v, h1.blk fun hb => k.block _ hb hmb, h2.keep k fun _ hx => .inr hx⟩
  · obtain ⟨u, h1, h2, h3⟩ := h.done i hi
    have hb := World.block_lt_of_cell? w _ h1
    exact ⟨u, k.cell hdb h1, by rw [World.frozen?_of_block (w := w) (k.block _ hb hdb)]; exact h2, h3⟩
  · obtain ⟨hm, hc⟩ := h.opn i hi hh
    refine ⟨hm, (k.block (ch i) ?_ fun hx => hm (.inr hx)).trans hc⟩
    exact (Array.getElem?_eq_some_iff.1 hc).1
theorem Rd.keep (h : Rd R Y X ch w S) (k : Keep (fun _ => False) w w') : Rd R Y X ch w' S := h.keepX (k.wide fun _ _ h => h.elim)
/-- Fewer blocks are held. -/
theorem Rd.fewer {X' : Nat → Prop} (h : Rd R Y X ch w S) (hs : ∀ b, X' b → X b) : Rd R Y X' ch w S :=
  { h with
    mems := fun i hi => by
      obtain ⟨v, h1, h2⟩ := h.mems i hi
      exact ⟨v, h1, h2.mono fun b _ hb => hb.elim .inl fun hx => .inr (hs b hx)⟩
    opn := fun i hi hh => ⟨fun ho => (h.opn i hi hh).1 (ho.elim .inl fun hx => .inr (hs _ hx)), (h.opn i hi hh).2⟩
    priv := fun b hb => h.priv b (hs b hb) }
/-- The blocks that differ, one by one. -/
structure QY.Ne (Y : QY) : Prop where
  a1 : Y.r ≠ Y.mb ∧ Y.mb ≠ Y.r
  a2 : Y.r ≠ Y.rb ∧ Y.rb ≠ Y.r
  a3 : Y.r ≠ Y.fb ∧ Y.fb ≠ Y.r
  a4 : Y.r ≠ Y.hb ∧ Y.hb ≠ Y.r
  a5 : Y.r ≠ Y.db ∧ Y.db ≠ Y.r
  a6 : Y.r ≠ Y.wb ∧ Y.wb ≠ Y.r
  b1 : Y.mb ≠ Y.rb ∧ Y.rb ≠ Y.mb
  b2 : Y.mb ≠ Y.fb ∧ Y.fb ≠ Y.mb
  b3 : Y.mb ≠ Y.hb ∧ Y.hb ≠ Y.mb
  b4 : Y.mb ≠ Y.db ∧ Y.db ≠ Y.mb
  b5 : Y.mb ≠ Y.wb ∧ Y.wb ≠ Y.mb
  c1 : Y.rb ≠ Y.fb ∧ Y.fb ≠ Y.rb
  c2 : Y.rb ≠ Y.hb ∧ Y.hb ≠ Y.rb
  c3 : Y.rb ≠ Y.db ∧ Y.db ≠ Y.rb
  c4 : Y.rb ≠ Y.wb ∧ Y.wb ≠ Y.rb
  d1 : Y.fb ≠ Y.hb ∧ Y.hb ≠ Y.fb
  d2 : Y.fb ≠ Y.db ∧ Y.db ≠ Y.fb
  d3 : Y.fb ≠ Y.wb ∧ Y.wb ≠ Y.fb
  e1 : Y.hb ≠ Y.db ∧ Y.db ≠ Y.hb
  e2 : Y.hb ≠ Y.wb ∧ Y.wb ≠ Y.hb
  f1 : Y.db ≠ Y.wb ∧ Y.wb ≠ Y.db
theorem QY.Ok.ne (h : Y.Ok R) : Y.Ne := by
  have := h.nodup
  simp only [List.nodup_cons, List.mem_cons, List.not_mem_nil, or_false, not_or] at this
  obtain ⟨⟨a1, a2, a3, a4, a5, a6⟩, ⟨b1, b2, b3, b4, b5⟩, ⟨c1, c2, c3, c4⟩, ⟨d1, d2, d3⟩, ⟨e1, e2⟩, f1, _⟩ := this
  constructor <;> (refine ⟨?_, Ne.symm ?_⟩ <;> assumption)
end
end Go.Proofs.Ytdlnlcjmjgbikaa
/- release: a cell that is brought up to date. -/
namespace Go.Proofs.Ytdlnlcjmjgbikaa
open Go Go.Conc Go.RowKit

noncomputable section
variable {R : QR} {Y : QY} {w : World} {S : QS} {k : Nat}
set_option maxRecDepth 100000 in
set_option maxHeartbeats 4000000 in
theorem release_cells {r fb hb db wb n fc hc dc wc ch : Nat} {u1 u2 : Value} (hk : k < n)
    (h4 : w.cell? ⟨r, 4, none⟩ = some (.int .i32 0)) (z4 : w.frozen? ⟨r, 4, none⟩ = false)
    (h6 : w.cell? ⟨r, 6, none⟩ = some (.slice (some ⟨fb, 0, none⟩) n fc)) (hf : w.cell? ⟨fb, k, none⟩ = some u1) (zf : w.frozen? ⟨fb, k, none⟩ = false)
    (h7 : w.cell? ⟨r, 7, none⟩ = some (.slice (some ⟨hb, 0, none⟩) n hc)) (hh : w.cell? ⟨hb, k, none⟩ = some u2) (zh : w.frozen? ⟨hb, k, none⟩ = false)
    (h9 : w.cell? ⟨r, 9, none⟩ = some (.slice (some ⟨wb, 0, none⟩) 1 wc)) (hw : w.cell? ⟨wb, 0, none⟩ = some (.int .i64 (-1)))
    (h8 : w.cell? ⟨r, 8, none⟩ = some (.slice (some ⟨db, 0, none⟩) n dc)) (hd : w.cell? ⟨db, k, none⟩ = some (.chan (some ch)))
    (hc : (((w.setCell ⟨r, 4, none⟩ (.int .i32 1)).setCell ⟨fb, k, none⟩ (.bool true)).setCell ⟨hb, k, none⟩ (.int .i64 (-1))).heap[ch]? = some (.chan 0 #[] false 0 0 false))
    (n1 : r ≠ fb ∧ fb ≠ r) (n2 : r ≠ hb ∧ hb ≠ r) (n3 : r ≠ db ∧ db ≠ r) (n4 : r ≠ wb ∧ wb ≠ r) (n5 : fb ≠ hb ∧ hb ≠ fb) (n6 : fb ≠ db ∧ db ≠ fb) (n7 : fb ≠ wb ∧ wb ≠ fb) (n8 : hb ≠ db ∧ db ≠ hb) (n9 : hb ≠ wb ∧ wb ≠ hb) (hcr : r ≠ ch) :
    Calls Sq.prog 73 #[.pointer (some ⟨r, 0, none⟩), .int .i64 k] w fun e w' => e = .returned (.tuple #[]) ∧ ∃ W : World, W = ((w.setCell ⟨r, 4, none⟩ (.int .i32 1)).setCell ⟨fb, k, none⟩ (.bool true)).setCell ⟨hb, k, none⟩ (.int .i64 (-1)) ∧ w' = ({ W with heap := W.heap.setIfInBounds ch (.chan 0 #[] true 0 0 false) } : World).setCell ⟨r, 4, none⟩ (.int .i32 0) := by
  have hk1 : ((-1 : Int) == (k : Int)) = false := by simp
  obtain ⟨p1, q1⟩ := n1
  obtain ⟨p2, q2⟩ := n2
  obtain ⟨p3, q3⟩ := n3
  obtain ⟨p4, q4⟩ := n4
  obtain ⟨p5, q5⟩ := n5
  obtain ⟨p6, q6⟩ := n6
  obtain ⟨p7, q7⟩ := n7
  obtain ⟨p8, q8⟩ := n8
  obtain ⟨p9, q9⟩ := n9
  go_enter_defers Sq.func73, Sq.ntmps73
  go_wp2_with fail
  refine (qlock_any ⟨r, 4, none⟩ w h4 z4).mono ?_
  rintro e w1 ⟨rfl, rfl⟩
  go_wp2_with fail
  refine wp_loop_rounds 2 ?_
  rw [rounds_succ]
  go_wp2_with fail
  rw [rounds_succ]
  go_wp2_with fail
  have c4 : (((w.setCell ⟨r, 4, none⟩ (.int .i32 1)).setCell ⟨fb, k, none⟩ (.bool true)).setCell ⟨hb, k, none⟩ (.int .i64 (-1))).cell? ⟨r, 4, none⟩ = some (.int .i32 1) := by
    rw [World.cell?_setCell_other _ _ _ _ (fun e => q2 (congrArg Addr.block e)), World.cell?_setCell_other _ _ _ _ (fun e => q1 (congrArg Addr.block e))]
    exact World.cell?_setCell_same _ _ _ h4
  have z4' : (((w.setCell ⟨r, 4, none⟩ (.int .i32 1)).setCell ⟨fb, k, none⟩ (.bool true)).setCell ⟨hb, k, none⟩ (.int .i64 (-1))).frozen? ⟨r, 4, none⟩ = false := by simp [z4]
  generalize hW : ((w.setCell ⟨r, 4, none⟩ (.int .i32 1)).setCell ⟨fb, k, none⟩ (.bool true)).setCell ⟨hb, k, none⟩ (.int .i64 (-1)) = W at hc c4 z4' ⊢
  rw [run_close_open _ _ hc]
  go_wp2_with fail
  have eb : ({ W with heap := W.heap.setIfInBounds ch (.chan 0 #[] true 0 0 false) } : World).heap[r]? = W.heap[r]? := by simp [hcr.symm]
  refine leaves_cons (f := 15) (args := #[.pointer (some ⟨r, 4, none⟩)]) (by simp) (by simp [invoke]) ?_
  refine (qunlock_d ⟨r, 4, none⟩ .returning _ ((World.cell?_of_block (w := W) eb).trans c4) ((World.frozen?_of_block (w := W) eb).trans z4')).mono ?_
  rintro e u' w3 ⟨rfl, rfl, rfl⟩
  exact ⟨_, by simp [results, Sq.f73], rfl, W, hW.symm, rfl⟩
end
end Go.Proofs.Ytdlnlcjmjgbikaa
/- take and release, of a round. -/
namespace Go.Proofs.Ytdlnlcjmjgbikaa
open Go Go.Conc Go.RowKit Go.Deep

noncomputable section
variable {R : QR} {Y : QY} {X : Nat → Prop} {ch : Nat → Nat} {w w' : World} {S : QS} {k : Nat}
theorem mut_r (Y : QY) : Y.mut Y.r := .inl rfl
theorem mut_mb (Y : QY) : Y.mut Y.mb := .inr (.inl rfl)
theorem mut_rb (Y : QY) : Y.mut Y.rb := .inr (.inr (.inl rfl))
theorem mut_fb (Y : QY) : Y.mut Y.fb := .inr (.inr (.inr (.inl rfl)))
theorem mut_hb (Y : QY) : Y.mut Y.hb := .inr (.inr (.inr (.inr (.inl rfl))))
theorem mut_db (Y : QY) : Y.mut Y.db := .inr (.inr (.inr (.inr (.inr (.inl rfl)))))
theorem mut_wb (Y : QY) : Y.mut Y.wb := .inr (.inr (.inr (.inr (.inr (.inr rfl)))))
theorem rv_again (Y : QY) (n : Nat) (l : Int) (x : Value) : ∀ i, upf (upf (Y.rv n l 0) 4 x) 4 (.int .i32 0) i = Y.rv n l 0 i := fun i => by
  rw [upf_upf]
  exact congrFun (upf_eta (Y.rv n l 0) 4 (.int .i32 0) rfl) i
/-- What is in blocks that a round does not write to, and memories, fresh: as they were, if so is the rest. -/
theorem Rd.rest (hY : Y.Ok R) (h : Rd R Y X ch w S) (kp : Keep Y.mut w w') (hm : w'.heap[Y.mb]? = w.heap[Y.mb]?) : (∀ k, k < R.n → CellAt R Y w' k) ∧ ∀ k, k < R.n → ∃ v, MemAt w' Y.mb (k * 4) (S.mem k) v ∧ LedIs (Y.out X) w' v (S.mem k).led :=
  ⟨fun i hi => (h.cells i hi).keep hY.cb (hY.lk i hi) kp, fun i hi => by
    obtain ⟨v, h1, h2⟩ := h.mems i hi
    exact ⟨v, h1.blk fun _ => hm, h2.keep kp fun _ hm => .inl hm⟩⟩
theorem Rd.chans (h : Rd R Y X ch w S) (kp : Keep Y.mut w w') : ∀ k, k < R.n → S.hd k = true → ¬ Y.out X (ch k) ∧ w'.heap[ch k]? = some (.chan 0 #[] false 0 0 false) := fun i hi hh => by
  obtain ⟨hm, hc⟩ := h.opn i hi hh
  exact ⟨hm, (kp.block (ch i) (Array.getElem?_eq_some_iff.1 hc).1 fun m => hm (.inl m)).trans hc⟩
theorem Rd.privs {M : Nat → Prop} (h : Rd R Y X ch w S) (kp : Keep M w w') : ∀ b, X b → b < w'.heap.size ∧ ¬ Y.mut b ∧ b ≠ Y.cb ∧ ∀ k, k < R.n → R.op k ≠ 0 → b ≠ Y.lk k := fun b hb => ⟨Nat.lt_of_lt_of_le (h.priv b hb).1 kp.size, (h.priv b hb).2⟩
theorem Rd.dones (h : Rd R Y X ch w S) (e : w'.heap[Y.db]? = w.heap[Y.db]?) : ∀ k, k < R.n → ∃ u, w'.cell? ⟨Y.db, k, none⟩ = some u ∧ w'.frozen? ⟨Y.db, k, none⟩ = false ∧ (S.hd k = true → u = .chan (some (ch k))) := fun i hi => by
  obtain ⟨u, h1, h2, h3⟩ := h.done i hi
  exact ⟨u, (World.cell?_of_block (w := w) e).trans h1, (World.frozen?_of_block (w := w) e).trans h2, h3⟩
/-- Locked and unlocked. -/
theorem Rd.again (hY : Y.Ok R) (h : Rd R Y X ch w S) (x : Value) : Rd R Y X ch ((w.setCell ⟨Y.r, 4, none⟩ x).setCell ⟨Y.r, 4, none⟩ (.int .i32 0)) S ∧ Keep Y.mut w ((w.setCell ⟨Y.r, 4, none⟩ x).setCell ⟨Y.r, 4, none⟩ (.int .i32 0)) := by
  have kp : Keep Y.mut w ((w.setCell ⟨Y.r, 4, none⟩ x).setCell ⟨Y.r, 4, none⟩ (.int .i32 0)) := ((Keep.refl _ _).set ⟨Y.r, 4, none⟩ (mut_r Y) _).set ⟨Y.r, 4, none⟩ (mut_r Y) _
  have o : ∀ b, b ≠ Y.r → ((w.setCell ⟨Y.r, 4, none⟩ x).setCell ⟨Y.r, 4, none⟩ (.int .i32 0)).heap[b]? = w.heap[b]? := fun b hb => (blk_setCell_other _ _ _ _ hb).trans (blk_setCell_other _ _ _ _ hb)
  have n := hY.ne
  obtain ⟨h1, h2⟩ := h.rest hY kp (o _ n.a1.2)
  exact ⟨⟨((h.r.set 4 x).set 4 (.int .i32 0)).congr fun i _ => rv_again _ _ _ _ i, h1, h2, h.runs.blk fun _ => o _ n.a2.2, h.fresh.blk fun _ => o _ n.a3.2, h.hands.blk fun _ => o _ n.a4.2, h.dones (o _ n.a5.2), h.chans kp, h.inj, h.waits.blk fun _ => o _ n.a6.2, h.privs kp⟩, kp⟩
theorem rd_ready (hY : Y.Ok R) (h : Rd R Y X ch w S) (hk : k < R.n) (hf : S.fr k = true) :
    Calls Sq.prog 70 #[.pointer (some ⟨Y.r, 0, none⟩), .int .i64 0, .int .i64 k] w fun e w' => e = .returned (.tuple #[.int .i64 0, .chan none]) ∧ Rd R Y X ch w' S ∧ Keep Y.mut w w' := by
  refine (take_ready (s := 0) (h.r.cell (i := 4) (by decide)) (h.r.frozen (i := 4) (by decide)) (h.r.cell (i := 6) (by decide)) hk (by rw [h.fresh.cell hk, hf]) hY.ne.a3.2).mono ?_
  rintro e w' ⟨rfl, rfl⟩
  exact ⟨rfl, h.again hY _⟩
theorem rd_ring (hY : Y.Ok R) (h : Rd R Y X ch w S) (hk : k < R.n) (hf : S.fr k = false) (hh : S.hd k = true) :
    Calls Sq.prog 70 #[.pointer (some ⟨Y.r, 0, none⟩), .int .i64 0, .int .i64 k] w fun e w' => e = .returned (.tuple #[.int .i64 3, .chan none]) ∧ Rd R Y X ch w' S ∧ Keep Y.mut w w' := by
  refine (take_ring (s := 0) (h.r.cell (i := 4) (by decide)) (h.r.frozen (i := 4) (by decide)) (h.r.cell (i := 6) (by decide)) hk (by rw [h.fresh.cell hk, hf]) hY.ne.a3.2 (h.r.cell (i := 7) (by decide)) (by rw [h.hands.cell hk, hh]; rfl) hY.ne.a4.2).mono ?_
  rintro e w' ⟨rfl, rfl⟩
  exact ⟨rfl, h.again hY _⟩
theorem rd_taken (hY : Y.Ok R) (h : Rd R Y X ch w S) (hk : k < R.n) (hf : S.fr k = false) (hh : S.hd k = false) :
    Calls Sq.prog 70 #[.pointer (some ⟨Y.r, 0, none⟩), .int .i64 0, .int .i64 k] w fun e w' => e = .returned (.tuple #[.int .i64 1, .chan none]) ∧ Rd R Y X (upf ch k w.heap.size) w' (taken S k) ∧ Keep Y.mut w w' := by
  obtain ⟨u, d1, d2, d3⟩ := h.done k hk
  have n := hY.ne
  refine (take_taken (s := 0) (h.r.cell (i := 4) (by decide)) (h.r.frozen (i := 4) (by decide)) (h.r.cell (i := 6) (by decide)) hk (by rw [h.fresh.cell hk, hf]) hY.ne.a3.2 (h.r.cell (i := 7) (by decide)) (by rw [h.hands.cell hk, hh]; rfl) (h.hands.frozen hk) hY.ne.a4.2 (h.r.cell (i := 8) (by decide)) d1 d2 n.a5.2 n.e1.2).mono ?_
  rintro e w' ⟨rfl, W, hW, rfl⟩
  refine ⟨rfl, ?_⟩
  have hs : W.heap.size = w.heap.size := by rw [hW]; simp
  rw [hs]
  have k1 : Keep Y.mut w W := hW ▸ ((Keep.refl _ _).set ⟨Y.r, 0 + 4, none⟩ (mut_r Y) _).set ⟨Y.hb, k, none⟩ (mut_hb Y) _
  have k2 : Keep Y.mut w ((((W.setCell ⟨Y.db, k, none⟩ (.chan (some w.heap.size))).alloc (.chan 0 #[] false 0 0 false)).drew).setCell ⟨Y.r, 0 + 4, none⟩ (.int .i32 0)) := (((k1.set ⟨Y.db, k, none⟩ (mut_db Y) _).alloc _).drew).set ⟨Y.r, 0 + 4, none⟩ (mut_r Y) _
  have o : ∀ b, b < w.heap.size → b ≠ Y.r → b ≠ Y.hb → b ≠ Y.db → ((((W.setCell ⟨Y.db, k, none⟩ (.chan (some w.heap.size))).alloc (.chan 0 #[] false 0 0 false)).drew).setCell ⟨Y.r, 0 + 4, none⟩ (.int .i32 0)).heap[b]? = w.heap[b]? := fun b hb h1 h2 h3 => by
    rw [blk_setCell_other _ _ _ _ h1]
    show (World.alloc _ _).heap[b]? = _
    rw [blk_alloc_lt _ _ _ (by simpa [hs] using hb), blk_setCell_other _ _ _ _ h3, hW, blk_setCell_other _ _ _ _ h2, blk_setCell_other _ _ _ _ h1]
  have fresh : (((((W.setCell ⟨Y.db, k, none⟩ (.chan (some w.heap.size))).alloc (.chan 0 #[] false 0 0 false)).drew).setCell ⟨Y.r, 0 + 4, none⟩ (.int .i32 0)).heap[w.heap.size]? = some (.chan 0 #[] false 0 0 false)) := by
    have hr := World.block_lt_of_cell? w _ (h.r.cell (i := 4) (by decide))
    rw [blk_setCell_other _ _ _ _ (by show w.heap.size ≠ Y.r; have : Y.r < w.heap.size := hr; omega)]
    show (World.alloc _ _).heap[w.heap.size]? = _
    have := heap_alloc_new (W.setCell ⟨Y.db, k, none⟩ (.chan (some w.heap.size))) (.chan 0 #[] false 0 0 false)
    rwa [World.size_setCell, hs] at this
  have hmut : ¬ Y.mut w.heap.size := by
    have q := fun (b : Nat) (c : Value) (i : Nat) (hc : w.cell? ⟨b, i, none⟩ = some c) => World.block_lt_of_cell? w ⟨b, i, none⟩ hc
    have q1 := q _ _ _ (h.r.cell (i := 4) (by decide))
    obtain ⟨v, m1, _⟩ := h.mems k hk
    have q2 := q _ _ _ m1.ran.1
    have q3 := q _ _ _ (h.runs.cell hk)
    have q4 := q _ _ _ (h.fresh.cell hk)
    have q5 := q _ _ _ (h.hands.cell hk)
    have q6 := q _ _ _ d1
    have q7 := q _ _ _ (h.waits.cell (i := 0) (by decide))
    simp only at q1 q2 q3 q4 q5 q6 q7
    unfold QY.mut
    omega
  refine ⟨?_, k2⟩
  obtain ⟨r1, r2⟩ := h.rest hY k2 (by
    obtain ⟨v, m1, _⟩ := h.mems k hk
    exact o _ (World.block_lt_of_cell? w _ m1.ran.1) n.a1.2 n.b3.1 n.b4.1)
  refine ⟨?_, r1, r2, h.runs.blk fun hb => o _ hb n.a2.2 n.c2.1 n.c3.1, h.fresh.blk fun hb => o _ hb n.a3.2 n.d1.1 n.d2.1, ?_, ?_, ?_, ?_, h.waits.blk fun hb => o _ hb n.a6.2 n.e2.2 n.f1.2, h.privs k2⟩
  · subst hW
    have := (((((h.r.set 4 (.int .i32 1)).oth ⟨Y.hb, k, none⟩ n.a4.2 (.int .i64 0)).oth ⟨Y.db, k, none⟩ n.a5.2 (.chan (some w.heap.size))).alloc (.chan 0 #[] false 0 0 false)).drew.set 4 (.int .i32 0))
    exact this.congr fun i _ => rv_again _ _ _ _ i
  · subst hW
    have := (((((h.hands.oth ⟨Y.r, 4, none⟩ n.a4.1 (.int .i32 1)).set k (.int .i64 0)).oth ⟨Y.db, k, none⟩ n.e1.2 (.chan (some w.heap.size))).alloc (.chan 0 #[] false 0 0 false)).drew.oth ⟨Y.r, 4, none⟩ n.a4.1 (.int .i32 0))
    refine this.congr fun i _ => ?_
    dsimp only [upf, taken]
    split
    · simp
    · rfl
  · intro j hj
    obtain ⟨u', c1, c2, c3⟩ := h.done j hj
    have hdb := World.block_lt_of_cell? w _ d1
    by_cases e : j = k
    · subst e
      refine ⟨.chan (some w.heap.size), ?_, ?_, fun _ => by rw [upf_same]⟩
      · rw [World.cell?_setCell_other _ _ _ _ (fun e => n.a5.1 (congrArg Addr.block e))]
        show (World.alloc _ _).cell? _ = _
        rw [(alloc_cell _ _ _ (by simpa [hs] using hdb)).1]
        refine World.cell?_setCell_same _ _ _ (u := u) ?_
        rw [hW, World.cell?_setCell_other _ _ _ _ (fun e => n.e1.1 (congrArg Addr.block e)), World.cell?_setCell_other _ _ _ _ (fun e => n.a5.1 (congrArg Addr.block e))]
        exact d1
      · rw [World.frozen?_setCell]
        show (World.alloc _ _).frozen? _ = _
        rw [(alloc_cell _ _ _ (by simpa [hs] using hdb)).2, World.frozen?_setCell, hW, World.frozen?_setCell, World.frozen?_setCell]
        exact d2
    · refine ⟨u', ?_, ?_, fun hh' => ?_⟩
      · rw [World.cell?_setCell_other _ _ _ _ (fun e => n.a5.1 (congrArg Addr.block e))]
        show (World.alloc _ _).cell? _ = _
        rw [(alloc_cell _ _ _ (by simpa [hs] using hdb)).1, World.cell?_setCell_other _ _ _ _ (fun e' => e (congrArg Addr.off e').symm), hW, World.cell?_setCell_other _ _ _ _ (fun e => n.e1.1 (congrArg Addr.block e)), World.cell?_setCell_other _ _ _ _ (fun e => n.a5.1 (congrArg Addr.block e))]
        exact c1
      · rw [World.frozen?_setCell]
        show (World.alloc _ _).frozen? _ = _
        rw [(alloc_cell _ _ _ (by simpa [hs] using hdb)).2, World.frozen?_setCell, hW, World.frozen?_setCell, World.frozen?_setCell]
        exact c2
      · rw [upf_ne _ _ e]
        exact c3 (by simpa [taken, upf_ne _ _ e] using hh')
  · intro j hj hh'
    by_cases e : j = k
    · subst e
      rw [upf_same]
      exact ⟨fun m => m.elim hmut fun hx => Nat.lt_irrefl _ (h.priv _ hx).1, fresh⟩
    · rw [upf_ne _ _ e]
      exact h.chans k2 j hj (by simpa [taken, upf_ne _ _ e] using hh')
  · intro i j hi hj h1 h2 he
    have lt : ∀ i, i < R.n → i ≠ k → (taken S k).hd i = true → ch i < w.heap.size := fun i hi hn h1 => (Array.getElem?_eq_some_iff.1 (h.opn i hi (by simpa [taken, upf_ne _ _ hn] using h1)).2).1
    by_cases e1 : i = k
    · by_cases e2 : j = k
      · omega
      · subst e1
        rw [upf_same, upf_ne _ _ e2] at he
        have := lt j hj e2 h2
        omega
    · by_cases e2 : j = k
      · subst e2
        rw [upf_same, upf_ne _ _ e1] at he
        have := lt i hi e1 h1
        omega
      · rw [upf_ne _ _ e1, upf_ne _ _ e2] at he
        exact h.inj i j hi hj (by simpa [taken, upf_ne _ _ e1] using h1) (by simpa [taken, upf_ne _ _ e2] using h2) he
end
end Go.Proofs.Ytdlnlcjmjgbikaa
