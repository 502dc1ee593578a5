/- What a call may turn: blocks of its own, or named ones. -/
import Derived.WalkKit
import Derived.Below
import Derived.Lib.Builder
import Derived.Lib.Strings
import Derived.Lib.IndexBytes
import Derived.Deep.Draws
namespace Go.Proofs.YtbhcniemkjoflaaDoor
open Go.RowKit

theorem hide {p : Prop} (h : p) : Hid p := h
theorem belowN {B : Nat} {a w : World} (h : Below B a w) (n : Nat) : Below B a (w.drewN n) := h.trans ⟨rfl, rfl, rfl, Nat.le_refl _, fun _ _ => rfl⟩
theorem bcell {W w1 : World} (hb : Below W.heap.size W w1) : (∀ b o, b < W.heap.size → w1.cell? ⟨b, o, none⟩ = W.cell? ⟨b, o, none⟩) ∧ (∀ b o, b < W.heap.size → w1.frozen? ⟨b, o, none⟩ = W.frozen? ⟨b, o, none⟩) :=
  ⟨fun b o h => hb.cell (p := ⟨b, o, none⟩) h, fun b o h => hb.frozen (p := ⟨b, o, none⟩) h⟩
theorem kcb {w w1 : World} (hb : Below w.heap.size w w1) {b o : Nat} {v : Value} (hl : b < w.heap.size) (h : w.cell? ⟨b, o, none⟩ = some v) : w1.cell? ⟨b, o, none⟩ = some v :=
  ((bcell hb).1 b o hl).trans h
/-- A string's bytes. -/
def bs (s : ByteArray) : List UInt8 := s.data.toList
theorem bs_len (s : ByteArray) : (bs s).length = s.size := by cases s; simp [bs, ByteArray.size]
theorem bs_inj {a b : ByteArray} (h : bs a = bs b) : a = b := by
  cases a with
  | mk x =>
    cases b with
    | mk y => unfold bs at h; simp at h; rw [h]
theorem bs_append (a b : ByteArray) : bs (a ++ b) = bs a ++ bs b := by
  unfold bs; rw [ByteArray.data_append, Array.toList_append]
theorem bs_cut (s : ByteArray) (a b : Nat) : bs (s.extract a b) = ((bs s).take b).drop a := by
  unfold bs; rw [Lib.extract_data, List.drop_take]
theorem bs_drop (s : ByteArray) (a : Nat) : bs (s.extract a s.size) = (bs s).drop a := Lib.extract_to_end s a
theorem bs_take (s : ByteArray) (a : Nat) : bs (s.extract 0 a) = (bs s).take a := by
  unfold bs; rw [Lib.extract_data]; simp
/-- The string of bytes. -/
def ba (l : List UInt8) : ByteArray := ⟨l.toArray⟩
theorem bs_ba (l : List UInt8) : bs (ba l) = l := by simp [bs, ba]
theorem ba_bs (s : ByteArray) : ba (bs s) = s := bs_inj (bs_ba _)
theorem ba_size (l : List UInt8) : (ba l).size = l.length := by simp [ba, ByteArray.size]

/-- Blocks that are not in S are as they were; the streams are as they were; no block has gone. -/
structure Kp (S : Nat → Prop) (w w' : World) : Prop where
  os : w'.os = w.os
  tape : w'.tape = w.tape
  output : w'.output = w.output
  size : w.heap.size ≤ w'.heap.size
  block : ∀ k, k < w.heap.size → ¬ S k → w'.heap[k]? = w.heap[k]?

theorem Kp.refl (S : Nat → Prop) (w : World) : Kp S w w := ⟨rfl, rfl, rfl, Nat.le_refl _, fun _ _ _ => rfl⟩
theorem Kp.trans {S T : Nat → Prop} {a b c : World} (h : Kp S a b) (k : Kp T b c) (hT : ∀ i, i < a.heap.size → T i → S i) : Kp S a c :=
  ⟨k.os.trans h.os, k.tape.trans h.tape, k.output.trans h.output, Nat.le_trans h.size k.size, fun i hi hn => (k.block i (Nat.lt_of_lt_of_le hi h.size) (fun ht => hn (hT i hi ht))).trans (h.block i hi hn)⟩
theorem Kp.mono {S T : Nat → Prop} {a b : World} (h : Kp S a b) (hT : ∀ i, i < a.heap.size → S i → T i) : Kp T a b :=
  ⟨h.os, h.tape, h.output, h.size, fun i hi hn => h.block i hi (fun hs => hn (hT i hi hs))⟩
theorem Kp.drew {S : Nat → Prop} {a w : World} (h : Kp S a w) : Kp S a w.drew := ⟨h.os, h.tape, h.output, h.size, h.block⟩
theorem Kp.alloc {S : Nat → Prop} {a w : World} (h : Kp S a w) (o : Obj) : Kp S a (w.alloc o) :=
  ⟨h.os, h.tape, h.output, Nat.le_trans h.size (by simp), fun k hk hn => (Below.heap_alloc w o k (Nat.lt_of_lt_of_le hk h.size)).trans (h.block k hk hn)⟩
theorem Kp.setCell {S : Nat → Prop} {a w : World} (h : Kp S a w) {p : Addr} (hp : p.block < a.heap.size → S p.block) (u : Value) : Kp S a (w.setCell p u) :=
  ⟨h.os, h.tape, h.output, by simpa [World.setCell] using h.size, fun k hk hn => (Below.heap_setCell w p u k (fun e => hn (e ▸ hp (e ▸ hk)))).trans (h.block k hk hn)⟩
theorem Kp.grown {S : Nat → Prop} {a w w' : World} {row : Option Nat} (h : Kp S a w) (hg : w.grownBy w' row) (hr : ∀ k, row = some k → k < a.heap.size → S k) : Kp S a w' :=
  ⟨hg.os.trans h.os, hg.tape.trans h.tape, hg.output.trans h.output, Nat.le_trans h.size hg.size, fun k hk hn => (hg.block k (Nat.lt_of_lt_of_le hk h.size) (fun e => hn (hr k e.symm hk))).trans (h.block k hk hn)⟩
theorem Kp.below {S : Nat → Prop} {w w' : World} (h : Kp S w w') {B : Nat} (hB : B ≤ w.heap.size) (hS : ∀ k, S k → B ≤ k) : Below B w w' :=
  ⟨h.os, h.tape, h.output, h.size, fun k hk => h.block k (Nat.lt_of_lt_of_le hk hB) (fun hs => by have := hS k hs; omega)⟩
theorem Kp.ofBelow {w w' : World} (h : Below w.heap.size w w') (S : Nat → Prop) : Kp S w w' := ⟨h.os, h.tape, h.output, h.size, fun k hk _ => h.block k hk⟩
theorem Kp.ofBelowB {B : Nat} {w w' : World} (h : Below B w w') {S : Nat → Prop} (hS : ∀ k, B ≤ k → k < w.heap.size → S k) : Kp S w w' :=
  ⟨h.os, h.tape, h.output, h.size, fun k hk hn => h.block k (by rcases Nat.lt_or_ge k B with h1 | h1; exact h1; exact absurd (hS k h1 hk) hn)⟩
theorem Kp.cell {S : Nat → Prop} {w w' : World} (h : Kp S w w') {p : Addr} (hp : p.block < w.heap.size) (hn : ¬ S p.block) : w'.cell? p = w.cell? p := World.cell?_of_block (w := w) (h.block p.block hp hn)
theorem Kp.frozen {S : Nat → Prop} {w w' : World} (h : Kp S w w') {p : Addr} (hp : p.block < w.heap.size) (hn : ¬ S p.block) : w'.frozen? p = w.frozen? p := World.frozen?_of_block (w := w) (h.block p.block hp hn)
theorem Kp.cellv {S : Nat → Prop} {w w' : World} (h : Kp S w w') {p : Addr} {v : Value} (hc : w.cell? p = some v) (hn : ¬ S p.block) : w'.cell? p = some v :=
  (h.cell (World.block_lt_of_cell? w p hc) hn).trans hc
theorem heap_lt {w : World} {b : Nat} {o : Obj} (h : w.heap[b]? = some o) : b < w.heap.size := by
  rcases Nat.lt_or_ge b w.heap.size with h' | h'
  · exact h'
  · simp [Array.getElem?_eq_none h'] at h
theorem Kp.heap {S : Nat → Prop} {w w' : World} (h : Kp S w w') {b : Nat} {o : Obj} (hb : w.heap[b]? = some o) (hn : ¬ S b) : w'.heap[b]? = some o :=
  (h.block b (heap_lt hb) hn).trans hb
theorem Kp.owns {S : Nat → Prop} {w w' : World} (h : Kp S w w') {base : Nat} {e : TypeId} {size : Nat} {v : Value} {n : Nat} {xs : List Value} (ho : w.ownsRow base e size v n xs) (hn : ∀ k, v.ownBlock = some k → ¬ S k) : w'.ownsRow base e size v n xs := by
  refine ⟨ho.1, ?_⟩
  rcases ho.2 with hn' | ⟨g, cap, cur, rfl, hb, hgg, rest⟩
  · exact .inl hn'
  · exact .inr ⟨g, cap, cur, rfl, hb, h.heap hgg (hn g (by simp [Value.ownBlock])), rest⟩

/-- A raw span: as the program has it. -/
structure Rw where
  f : Int
  t : Int
  s : ByteArray
def Rw.vals (r : Rw) : List Value := [.int .i64 r.f, .int .i64 r.t, .string r.s]
/-- A slice of spans that can be read. -/
def IsL (w : World) (v : Value) (L : List Rw) : Prop :=
  ∃ ao cap, v = .slice ao L.length cap ∧ L.length ≤ cap ∧ L.length ≤ 1125899906842624 ∧ cap ≤ maxLen ∧ (∀ i, i < L.length → ∃ b o, ao = some ⟨b, o, none⟩ ∧ ∀ r, L[i]? = some r →
    w.cell? ⟨b, o + i * 3, none⟩ = some (.int .i64 r.f) ∧ w.cell? ⟨b, o + i * 3 + 1, none⟩ = some (.int .i64 r.t) ∧ w.cell? ⟨b, o + i * 3 + 2, none⟩ = some (.string r.s))
theorem IsL.keep {S : Nat → Prop} {w w' : World} {v : Value} {L : List Rw} (h : IsL w v L) (hk : Kp S w w') (hn : ∀ k, v.ownBlock = some k → ¬ S k) : IsL w' v L := by
  obtain ⟨ao, cap, rfl, h1, h2, h2', h3⟩ := h
  refine ⟨ao, cap, rfl, h1, h2, h2', fun i hi => ?_⟩
  obtain ⟨b, o, rfl, ha⟩ := h3 i hi
  refine ⟨b, o, rfl, fun r hr => ?_⟩
  obtain ⟨q1, q2, q3⟩ := ha r hr
  have hs : ¬ S b := hn b rfl
  exact ⟨hk.cellv q1 hs, hk.cellv q2 hs, hk.cellv q3 hs⟩
theorem IsL.below {w w' : World} {v : Value} {L : List Rw} (h : IsL w v L) (hk : Below w.heap.size w w') : IsL w' v L :=
  h.keep (Kp.ofBelow hk (fun _ => False)) (fun _ _ => id)
theorem IsL.get {w wr : World} {ao : Option Addr} {n cap : Nat} {L : List Rw} (h : IsL w (.slice ao n cap) L) (hb : Below w.heap.size w wr) {k : Nat} (hk : k < L.length) :
    ∃ b o r, ao = some ⟨b, o, none⟩ ∧ L[k]? = some r ∧ wr.cell? ⟨b, o + k * 3, none⟩ = some (.int .i64 r.f) ∧ wr.cell? ⟨b, o + k * 3 + 1, none⟩ = some (.int .i64 r.t) ∧ wr.cell? ⟨b, o + k * 3 + 2, none⟩ = some (.string r.s) ∧ b < w.heap.size := by
  have h' := h
  obtain ⟨_, _, e, _, _, _, h3⟩ := h.below hb
  obtain ⟨_, _, e', _, _, _, h3'⟩ := h'
  cases e
  cases e'
  obtain ⟨b, o, ha, h4⟩ := h3 k hk
  obtain ⟨q1, q2, q3⟩ := h4 L[k] (List.getElem?_eq_getElem hk)
  obtain ⟨b', o', ha', h4'⟩ := h3' k hk
  rw [ha] at ha'
  cases ha'
  exact ⟨b, o, L[k], ha, List.getElem?_eq_getElem hk, q1, q2, q3, World.block_lt_of_cell? w ⟨b, o + k * 3, none⟩ (h4' L[k] (List.getElem?_eq_getElem hk)).1⟩
/-- A row of spans that is owned can be read. -/
theorem IsL.ofOwns {w : World} {base : Nat} {e : TypeId} {v : Value} {L : List Rw} (h : w.ownsRow base e 3 v L.length (L.flatMap Rw.vals)) (hl : L.length ≤ 1125899906842624) : IsL w v L := by
  have hc := fun g hg => h.cells (g := g) hg
  rcases h.2 with ⟨rfl, h0⟩ | ⟨g, cap, cur, rfl, hb, hg, hn, hm, hs, ht⟩
  · exact ⟨none, 0, by rw [h0], by omega, hl, by unfold maxLen; omega, fun i hi => by omega⟩
  · refine ⟨_, cap, rfl, hn, hl, hm, fun i hi => ⟨_, _, rfl, fun r hr => ?_⟩⟩
    have key : ∀ j, j < 3 → (L.flatMap Rw.vals)[i * 3 + j]? = r.vals[j]? := by
      intro j hj
      clear hc h hb hg hn hm hs ht hl hi
      induction L generalizing i with
      | nil => simp at hr
      | cons a L ih =>
        cases i with
        | zero =>
          obtain rfl : a = r := by simpa using hr
          rw [List.flatMap_cons, List.getElem?_append_left (by simp [Rw.vals]; omega)]; simp
        | succ i =>
          rw [List.flatMap_cons, List.getElem?_append_right (by simp [Rw.vals]; omega)]
          rw [show (i + 1) * 3 + j - (Rw.vals a).length = i * 3 + j by simp [Rw.vals]; omega]
          exact ih i (by simpa using hr)
    have hc' := hc g rfl
    have ad : ∀ n, (⟨g, 0, none⟩ : Addr).add n = ⟨g, 0 + n, none⟩ := by intro n; unfold Addr.add; split <;> simp_all
    have c0 := hc' (i * 3) _ ((key 0 (by omega)).trans rfl)
    have c1 := hc' (i * 3 + 1) _ ((key 1 (by omega)).trans rfl)
    have c2 := hc' (i * 3 + 2) _ ((key 2 (by omega)).trans rfl)
    rw [ad] at c0 c1 c2
    exact ⟨c0, by rw [Nat.add_assoc]; exact c1, by rw [Nat.add_assoc]; exact c2⟩
end Go.Proofs.YtbhcniemkjoflaaDoor
