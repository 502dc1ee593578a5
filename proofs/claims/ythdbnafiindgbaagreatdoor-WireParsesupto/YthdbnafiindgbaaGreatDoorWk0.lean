/- What the document's reader and writer of messages and the program's share: places in a text, values in memory, rows. -/
import Derived.Test.YthdbnafiindgbaaGreatDoorKa
import Derived.Test.YthdbnafiindgbaaGreatDoorWja
import Derived.Test.YthdbnafiindgbaaGreatDoorProg
import Derived.BigQuiet
import Derived.Deep.AppendLies
import Derived.Handy
import Derived.Laws.BytesArg
import Derived.Lib.RuneBytes
import Derived.Lib.Small
import Derived.Maps.AppendAt
namespace Go.Proofs.YthdbnafiindgbaaGreatDoor
open Go.RowKit
open Wi

/-- What may turn: one block. -/
abbrev Ow (rb : Nat) (w w' : World) : Prop := Kp (fun q => q = rb) w w'
theorem Ow.set {a w : World} {rb : Nat} (h : Ow rb a w) (o : Nat) (v : Value) : Ow rb a (w.setCell ⟨rb, o, none⟩ v) := Kp.setCell h (fun _ => rfl) v
theorem Ow.ofBelow {w w' : World} (rb : Nat) (h : Below w.heap.size w w') : Ow rb w w' := Kp.ofBelow h _
theorem Ow.to {rb : Nat} {a b c : World} (h : Ow rb a b) (k : Ow rb b c) : Ow rb a c := Kp.trans h k (fun _ _ e => e)

/-- A list is what is left of a text from a place on. -/
def Sfx (s : ByteArray) (l : List UInt8) : Prop := l <:+ bs s
def pos (s : ByteArray) (l : List UInt8) : Nat := s.size - l.length
theorem Sfx.all (s : ByteArray) : Sfx s (bs s) := List.suffix_rfl
theorem Sfx.le {s : ByteArray} {l : List UInt8} (h : Sfx s l) : l.length ≤ s.size := by have := h.length_le; rw [bs_len] at this; exact this
theorem Sfx.pos {s : ByteArray} {l : List UInt8} (h : Sfx s l) : pos s l + l.length = s.size := by have := h.le; unfold Go.Proofs.YthdbnafiindgbaaGreatDoor.pos; omega
theorem Sfx.mono {s : ByteArray} {l l' : List UInt8} (h : Sfx s l) (h' : l' <:+ l) : Sfx s l' := h'.trans h
theorem Sfx.tail {s : ByteArray} {c : UInt8} {t : List UInt8} (h : Sfx s (c :: t)) : Sfx s t := h.mono (List.suffix_cons c t)
theorem Sfx.drop {s : ByteArray} {l : List UInt8} (h : Sfx s l) (k : Nat) : Sfx s (l.drop k) := h.mono (List.drop_suffix k l)
theorem Sfx.eq {s : ByteArray} {l : List UInt8} (h : Sfx s l) : (bs s).drop (Go.Proofs.YthdbnafiindgbaaGreatDoor.pos s l) = l := by
  obtain ⟨a, ha⟩ := h
  have h1 : Go.Proofs.YthdbnafiindgbaaGreatDoor.pos s l = a.length := by unfold Go.Proofs.YthdbnafiindgbaaGreatDoor.pos; rw [← bs_len, ← ha, List.length_append]; omega
  rw [h1, ← ha, List.drop_left]
theorem Sfx.getD {s : ByteArray} {l : List UInt8} (h : Sfx s l) {k : Nat} (hk : k < l.length) : ∃ hi : Go.Proofs.YthdbnafiindgbaaGreatDoor.pos s l + k < s.size, s[Go.Proofs.YthdbnafiindgbaaGreatDoor.pos s l + k] = l[k] := by
  have h1 := h.pos
  have hi : Go.Proofs.YthdbnafiindgbaaGreatDoor.pos s l + k < s.size := by omega
  refine ⟨hi, ?_⟩
  have h2 : (bs s)[Go.Proofs.YthdbnafiindgbaaGreatDoor.pos s l + k]? = l[k]? := by
    conv => rhs; rw [← h.eq]
    rw [List.getElem?_drop]
  rw [List.getElem?_eq_getElem (by rw [bs_len]; exact hi), List.getElem?_eq_getElem hk] at h2
  have h3 := Option.some.inj h2
  rw [← h3]
  rfl
theorem pos_nil (s : ByteArray) : pos s [] = s.size := by simp [pos]
theorem pos_cons {s : ByteArray} {c : UInt8} {t : List UInt8} (h : Sfx s (c :: t)) : pos s t = pos s (c :: t) + 1 := by
  have := h.le; unfold pos; simp at this ⊢; omega
theorem pos_drop {s : ByteArray} {l : List UInt8} (h : Sfx s l) {k : Nat} (hk : k ≤ l.length) : pos s (l.drop k) = pos s l + k := by
  have := h.le; unfold pos; simp; omega
theorem bla_sfx (l : List UInt8) : bla l <:+ l := List.dropWhile_suffix _
theorem sign_sfx {c : UInt8} {l t : List UInt8} (h : sign c l = some t) : t <:+ l := by
  have := sign_some.1 h
  exact (List.suffix_cons c t).trans (this ▸ bla_sfx l)

/-- The cells of a value. -/
def jcell (k n : Int) (t : List UInt8) (kv rv : Value) : Obj := .cells #[.int .i64 k, .int .i64 n, .string (ba t), kv, rv] 36 (0, 0)
/-- A value in memory, in blocks of A. -/
inductive IsJ (w : World) (A : Nat → Prop) : Value → J → Prop
  | mk (N : Nat) (k n : Int) (t : List UInt8) (ks : List (List UInt8)) (kids : List J) (ao bo : Option Addr) (cap bcap : Nat) (vs : Nat → Value)
      (hA : A N) (hb : w.heap[N]? = some (jcell k n t (.slice ao ks.length cap) (.slice bo kids.length bcap))) (hc : ks.length ≤ cap ∧ cap ≤ maxLen) (hd : kids.length ≤ bcap ∧ bcap ≤ maxLen)
      (hk : ∀ (i : Nat) (x : List UInt8), ks[i]? = some x → ∃ g, ao = some ⟨g, 0, none⟩ ∧ A g ∧ w.cell? ⟨g, i, none⟩ = some (.string (ba x)))
      (hr : ∀ i, i < kids.length → ∃ g, bo = some ⟨g, 0, none⟩ ∧ A g ∧ w.cell? ⟨g, i, none⟩ = some (vs i))
      (hp : ∀ (i : Nat) (j : J), kids[i]? = some j → IsJ w A (vs i) j) : IsJ w A (.pointer (some ⟨N, 0, none⟩)) (.mk k n t ks kids)
theorem IsJ.keep {S A : Nat → Prop} {w w' : World} (hk : Kp S w w') {v : Value} {j : J} (h : IsJ w A v j) : (∀ i, A i → ¬ S i) → IsJ w' A v j := by
  induction h with
  | mk N k n t ks kids ao bo cap bcap vs hA hb hc hd hk' hr hp ih =>
    intro hS
    refine .mk N k n t ks kids ao bo cap bcap vs hA (hk.heap hb (hS N hA)) hc hd (fun i x hx => ?_) (fun i hi => ?_) (fun i j hj => ih i j hj hS)
    · obtain ⟨g, h1, h2, h3⟩ := hk' i x hx
      exact ⟨g, h1, h2, hk.cellv h3 (hS g h2)⟩
    · obtain ⟨g, h1, h2, h3⟩ := hr i hi
      exact ⟨g, h1, h2, hk.cellv h3 (hS g h2)⟩
theorem IsJ.mono {A A' : Nat → Prop} {w : World} {v : Value} {j : J} (h : IsJ w A v j) (hA' : ∀ i, A i → A' i) : IsJ w A' v j := by
  induction h with
  | mk N k n t ks kids ao bo cap bcap vs hA hb hc hd hk' hr hp ih =>
    refine .mk N k n t ks kids ao bo cap bcap vs (hA' _ hA) hb hc hd (fun i x hx => ?_) (fun i hi => ?_) ih
    · obtain ⟨g, h1, h2, h3⟩ := hk' i x hx
      exact ⟨g, h1, hA' g h2, h3⟩
    · obtain ⟨g, h1, h2, h3⟩ := hr i hi
      exact ⟨g, h1, hA' g h2, h3⟩
theorem IsJ.kept {A : Nat → Prop} {w w' : World} (hk : Below w.heap.size w w') {v : Value} {j : J} (h : IsJ w A v j) : IsJ w' A v j := h.keep (Kp.ofBelow hk (fun _ => False)) (fun _ _ => id)
/-- A value without keys and kids. -/
theorem IsJ.plain {w : World} {A : Nat → Prop} {N : Nat} {k n : Int} {t : List UInt8} (hb : w.heap[N]? = some (jcell k n t (.slice none 0 0) (.slice none 0 0))) (hA : A N) : IsJ w A (.pointer (some ⟨N, 0, none⟩)) (.mk k n t [] []) :=
  .mk N k n t [] [] none none 0 0 (fun _ => undef) hA hb ⟨Nat.le_refl _, Nat.zero_le _⟩ ⟨Nat.le_refl _, Nat.zero_le _⟩ (fun i x h => by simp at h) (fun i h => by simp at h) (fun i j h => by simp at h)

theorem retbw {a b : Bool} (h : a = b) : Ending.returned (.bool a) = .returned (.bool b) := by rw [h]
theorem sb_eq (a b : ByteArray) : (a.toList == b.toList) = decide (a = b) := by
  rw [Lib.toList_data, Lib.toList_data, Bool.eq_iff_iff, beq_iff_eq, decide_eq_true_iff]
  exact ⟨fun h => bs_inj h, fun h => by rw [h]⟩
theorem isDig_eq (c : UInt8) : isDig c = (decide ((48 : Int) ≤ (c.toNat : Int)) && decide ((c.toNat : Int) ≤ (57 : Int))) := by
  unfold isDig
  rw [Bool.eq_iff_iff]; simp; omega
/-- So many digits of a number have been read. -/
structure Digs (b ds l : List UInt8) (n : Int) : Prop where
  eq : b = ds ++ l
  dig : ∀ c ∈ ds, isDig c = true
  num : n = (numOf (ds.take 18) : Int)
theorem Digs.start (b : List UInt8) : Digs b [] b 0 := ⟨rfl, fun _ h => by simp at h, rfl⟩
theorem numOf_lt2 {l : List UInt8} (hl : ∀ c ∈ l, isDig c = true) : ∀ k, l.length ≤ k → numOf l < 10 ^ k := by
  intro k hk
  have : ∀ (l : List UInt8), (∀ c ∈ l, isDig c = true) → ∀ a : Nat, l.foldl (fun n c => n * 10 + (c.toNat - 48)) a < (a + 1) * 10 ^ l.length := by
    intro l
    induction l with
    | nil => intro _ a; simp
    | cons c l ih =>
      intro hl a
      have hc := hl c (by simp)
      simp only [isDig, Bool.and_eq_true, decide_eq_true_eq] at hc
      have := ih (fun c h => hl c (by simp [h])) (a * 10 + (c.toNat - 48))
      simp only [List.foldl_cons, List.length_cons]
      refine Nat.lt_of_lt_of_le this ?_
      rw [Nat.pow_succ, ← Nat.mul_assoc, Nat.mul_right_comm]
      exact Nat.mul_le_mul_right _ (by omega)
  have h1 := this l hl 0
  have h2 : 10 ^ l.length ≤ 10 ^ k := Nat.pow_le_pow_right (by decide) hk
  unfold numOf
  omega
theorem Digs.pos {s : ByteArray} {b ds l : List UInt8} {n : Int} (h : Digs b ds l n) (hb : Sfx s b) : Sfx s l ∧ pos s l = pos s b + ds.length := by
  have h1 : l = b.drop ds.length := by rw [h.eq, List.drop_left]
  rw [h1]
  exact ⟨hb.drop _, pos_drop hb (by rw [h.eq]; simp)⟩
theorem digs_first {s : ByteArray} {b ds l : List UInt8} {n : Int} (h : Digs b ds l n) (hb : Sfx s b) (hl : 0 < ds.length) : ∃ hi : pos s b < s.size, ∀ x, ds.head? = some x → s[pos s b] = x := by
  cases ds with
  | nil => simp at hl
  | cons d ds =>
    have hlen : 0 < b.length := by rw [h.eq]; simp
    obtain ⟨hi, hg⟩ := hb.getD hlen
    simp only [Nat.add_zero] at hi hg
    refine ⟨hi, fun x hx => ?_⟩
    rw [hg]
    cases hx
    have := h.eq
    subst this
    rfl
theorem q2' {s : ByteArray} {b ds l : List UInt8} {n : Int} (h : Digs b ds l n) (hb : Sfx s b) (hl : 0 < ds.length) {hi : pos s b < s.size} : some s[pos s b] = ds.head? := by
  cases ds with
  | nil => simp at hl
  | cons d ds => exact congrArg some ((digs_first h hb hl).2 d rfl)

theorem reti {a b : Int} (h : a = b) : Ending.returned (.int .i64 a) = .returned (.int .i64 b) := by rw [h]
theorem infoB : (Tryz.prog.info? 5).map (fun i => (i.zero, i.size, i.bytes)) = some (some (.int .u8 0), 1, 1) := by kernel_rfl
theorem infoW {f : Option TypeInfo} {z : Value} {n m : Nat} (h : f.map (fun i => (i.zero, i.size, i.bytes)) = some (some z, n, m)) : ∃ i, f = some i ∧ i.zero = some z ∧ i.size = n ∧ i.bytes = m := by
  cases f with
  | none => simp at h
  | some i => simp at h; exact ⟨i, rfl, h⟩
theorem owns_geW {w : World} {base : Nat} {e : TypeId} {size : Nat} {v : Value} {n : Nat} {xs : List Value} (h : w.ownsRow base e size v n xs) : ∀ k, v.ownBlock = some k → base ≤ k ∧ k < w.heap.size := by
  intro k hk
  rcases h.2 with ⟨rfl, -⟩ | ⟨g, cap, cur, rfl, hge, hcur, -⟩
  · simp [Value.ownBlock] at hk
  · simp [Value.ownBlock] at hk
    subst hk
    exact ⟨hge, heap_lt hcur⟩
theorem str_bytesW (l : List UInt8) : strOfNums (l.map fun x => (x.toNat : Int)) = ba l := by
  unfold strOfNums ba
  congr 1
  simp only [List.map_map]
  have : ((fun n : Int => UInt8.ofNat n.toNat) ∘ fun x : UInt8 => (x.toNat : Int)) = id := by funext x; simp
  first
    | rw [this, List.map_id]
    | simp
theorem bc_lenW (l : List UInt8) : (Lib.byteCells l).length = l.length * 1 := by simp [Lib.byteCells]
theorem bc_oneW (l : List UInt8) : ∀ u ∈ Lib.byteCells l, u.oneCell' = true := by
  intro u hu
  simp only [Lib.byteCells, List.mem_map] at hu
  obtain ⟨x, -, rfl⟩ := hu
  rfl
def strv (l : List (List UInt8)) : List Value := l.map fun x => .string (ba x)
theorem strv_snoc (l : List (List UInt8)) (x : List UInt8) : strv (l ++ [x]) = strv l ++ [.string (ba x)] := by simp [strv]
/-- The value that is being made: its block, its keys and its kids, each in memory of its own. -/
structure InM (w0 : World) (rb N : Nat) (k n : Int) (t : List UInt8) (kv rv : Value) (ks : List (List UInt8)) (kids : List J) (vl : List Value) (A : Nat → Prop) (w : World) : Prop where
  blk : w.heap[N]? = some (jcell k n t kv rv)
  keys : w.ownsRow w0.heap.size 9 1 kv ks.length (strv ks)
  row : w.ownsRow w0.heap.size 30 1 rv kids.length vl
  kid : ∀ (i : Nat) (j : J), kids[i]? = some j → ∃ v, vl[i]? = some v ∧ IsJ w A v j
  sep : ∀ q, A q → w0.heap.size ≤ q ∧ q < w.heap.size ∧ q ≠ N ∧ kv.ownBlock ≠ some q ∧ rv.ownBlock ≠ some q
  kvN : kv.ownBlock ≠ some N
  rvN : rv.ownBlock ≠ some N
  krv : ∀ q, kv.ownBlock = some q → rv.ownBlock ≠ some q
  lo : w0.heap.size ≤ N
  ow : Ow rb w0 w
  rbl : rb < w0.heap.size
theorem InM.keep {S : Nat → Prop} {w0 w w' : World} {rb N : Nat} {k n : Int} {t : List UInt8} {kv rv : Value} {ks : List (List UInt8)} {kids : List J} {vl : List Value} {A : Nat → Prop} (h : InM w0 rb N k n t kv rv ks kids vl A w) (hk : Kp S w w') (hS : ∀ q, S q → q < w.heap.size → q = rb) : InM w0 rb N k n t kv rv ks kids vl A w' := by
  have hN := heap_lt h.blk
  have hne : ∀ q, w0.heap.size ≤ q → q < w.heap.size → ¬ S q := fun q h1 h2 hs => by have := hS q hs h2; have := h.rbl; omega
  have ho : ∀ {e : TypeId} {n : Nat} {v : Value} {m : Nat} {xs : List Value}, w.ownsRow w0.heap.size e n v m xs → ∀ q, v.ownBlock = some q → ¬ S q := fun hr q e => hne q (owns_geW hr q e).1 (owns_geW hr q e).2
  exact { h with
    blk := hk.heap h.blk (hne N h.lo hN)
    keys := hk.owns h.keys (ho h.keys)
    row := hk.owns h.row (ho h.row)
    kid := fun i j hj => by
      obtain ⟨v, h1, h2⟩ := h.kid i j hj
      exact ⟨v, h1, h2.keep hk (fun q hq => hne q (h.sep q hq).1 (h.sep q hq).2.1)⟩
    sep := fun q hq => by
      obtain ⟨h1, h2, h3⟩ := h.sep q hq
      exact ⟨h1, Nat.lt_of_lt_of_le h2 hk.size, h3⟩
    ow := Kp.trans h.ow hk (fun q hq hs => hS q hs (Nat.lt_of_lt_of_le hq h.ow.size)) }
theorem InM.on {w0 w w' : World} {rb N : Nat} {k n : Int} {t : List UInt8} {kv rv : Value} {ks : List (List UInt8)} {kids : List J} {vl : List Value} {A : Nat → Prop} (h : InM w0 rb N k n t kv rv ks kids vl A w) (hk : Ow rb w w') : InM w0 rb N k n t kv rv ks kids vl A w' :=
  h.keep hk (fun _ e _ => e)
theorem InM.below {w0 w w' : World} {rb N : Nat} {k n : Int} {t : List UInt8} {kv rv : Value} {ks : List (List UInt8)} {kids : List J} {vl : List Value} {A : Nat → Prop} (h : InM w0 rb N k n t kv rv ks kids vl A w) (hk : Below w.heap.size w w') : InM w0 rb N k n t kv rv ks kids vl A w' :=
  h.on (Ow.ofBelow rb hk)
theorem jcell_set3 {w : World} {N : Nat} {k n : Int} {t : List UInt8} {kv rv x : Value} (h : w.heap[N]? = some (jcell k n t kv rv)) : (w.setCell ⟨N, 3, none⟩ x).heap[N]? = some (jcell k n t x rv) := by
  simp [World.setCell, Array.getElem?_modify, h, jcell]
/-- A row that is owned, cell by cell. -/
theorem owns_cells {w : World} {base : Nat} {e : TypeId} {v : Value} {n : Nat} {xs : List Value} (h : w.ownsRow base e 1 v n xs) : ∃ ao cap, v = .slice ao n cap ∧ n ≤ cap ∧ cap ≤ maxLen ∧ ∀ (i : Nat) (x : Value), xs[i]? = some x → ∃ g, ao = some ⟨g, 0, none⟩ ∧ v.ownBlock = some g ∧ w.cell? ⟨g, i, none⟩ = some x := by
  have hc := fun g hg => h.cells (g := g) hg
  have hl := h.1
  rcases h.2 with ⟨rfl, h0⟩ | ⟨g, cap, cur, rfl, hb, hg, hn, hm, hs, ht⟩
  · subst h0
    refine ⟨none, 0, rfl, Nat.le_refl _, Nat.zero_le _, fun i x hx => ?_⟩
    rw [List.length_eq_zero_iff.1 (by omega : xs.length = 0)] at hx
    simp at hx
  · refine ⟨_, cap, rfl, hn, hm, fun i x hx => ⟨g, rfl, rfl, ?_⟩⟩
    have := hc g rfl i x hx
    rwa [Addr.add_lit, Nat.zero_add] at this
theorem IsJ.ptr {w : World} {A : Nat → Prop} {v : Value} {j : J} (h : IsJ w A v j) : ∃ N, v = .pointer (some ⟨N, 0, none⟩) := by
  cases h with
  | mk N => exact ⟨N, rfl⟩
theorem infoP : (Tryz.prog.info? 30).map (fun i => (i.zero, i.size, i.bytes)) = some (some (.pointer none), 1, 8) := by kernel_rfl
theorem infoS : (Tryz.prog.info? 9).map (fun i => (i.zero, i.size, i.bytes)) = some (some (.string ⟨#[]⟩), 1, 16) := by kernel_rfl
theorem jcell_facts {w : World} {N : Nat} {k n : Int} {t : List UInt8} {kv rv : Value} (h : w.heap[N]? = some (jcell k n t kv rv)) : (w.cell? ⟨N, 0, none⟩ = some (.int .i64 k) ∧ w.cell? ⟨N, 3, none⟩ = some kv ∧ w.cell? ⟨N, 4, none⟩ = some rv) ∧ w.frozen? ⟨N, 0, none⟩ = false ∧ w.frozen? ⟨N, 3, none⟩ = false ∧ w.frozen? ⟨N, 4, none⟩ = false := by
  unfold jcell at h
  refine ⟨⟨?_, ?_, ?_⟩, ?_, ?_, ?_⟩ <;> simp [World.cell?, World.frozen?, h]
/-- A row's own block, told by its address. -/
theorem lies {v' : Value} {w : World} {B : Nat} {v : Value} (h : v'.ownBlock = v.ownBlock ∨ v'.ownBlock = some B) (hB : w.heap.size ≤ B) : v'.ownBlock = v.ownBlock ∨ ∃ q, v'.ownBlock = some q ∧ w.heap.size ≤ q :=
  h.imp id (fun e => ⟨B, e, hB⟩)
/-- Append a kid: what the operation gives, where the row of one lies in the block just made. -/
theorem run_addKid {w0 w : World} {rb N : Nat} {k n : Int} {t : List UInt8} {kv rv v : Value} {ks : List (List UInt8)} {kids : List J} {vl : List Value} {A : Nat → Prop} (h : InM w0 rb N k n t kv rv ks kids vl A w) (hl : kids.length ≤ 1073741824) (hv : v.oneCell' = true) :
    ∃ rv' w1, (Builtin.append_ #[34, 34] 34 #[rv, .slice (some ⟨w.heap.size, 0, none⟩) 1 1]).run Tryz.prog (w.alloc (.cells #[v] 30)) = .ok rv' w1 ∧ w1.ownsRow w0.heap.size 30 1 rv' (kids.length + 1) (vl ++ [v]) ∧ Kp (fun q => rv.ownBlock = some q) w w1 ∧ (rv'.ownBlock = rv.ownBlock ∨ ∃ q, rv'.ownBlock = some q ∧ w.heap.size ≤ q) := by
  obtain ⟨i0, hi0, hz0, hz1, hz2⟩ := infoW infoP
  have h' := h.below ((Below.refl _ w).alloc (Nat.le_refl _) (.cells #[v] 30))
  obtain ⟨rv', w1, a1, a2, a3, -, a5⟩ := run_append_own_at (P := Tryz.prog) (w.alloc (.cells #[v] 30)) w0.heap.size 34 34 30 i0 _ 1 8 Tryz.underlying34 hi0 hz0 hz1 hz2 rfl (by decide) rv kids.length vl h'.row ⟨w.heap.size, 0, none⟩ 1 1 [v] rfl (World.news_of_block (heap_alloc_new w _)) (by simpa using hv) (by unfold maxLen; omega) (by omega) h'.ow.size
  refine ⟨rv', w1, a1, a2, ?_, lies a5 (by simp)⟩
  exact Kp.grown (Kp.alloc (Kp.refl _ w) _) a3 (fun q e _ => e)
end Go.Proofs.YthdbnafiindgbaaGreatDoor
