/- The document's reader of messages: what a text is made of. -/
import Derived.Test.YthdbnafiindgbaaGreatDoorWk0
import Derived.Test.YthdbnafiindgbaaGreatDoorWka
import Derived.Test.YthdbnafiindgbaaGreatDoorWkf
import Derived.Laws.BytesArg
import Derived.Deep.AppendLies
namespace Go.Proofs.YthdbnafiindgbaaGreatDoor
open Go.RowKit
open Wi

/-- A row of bytes that is made while a reader reads. -/
def InBW (w0 : World) (rb : Nat) (v : Value) (out : List UInt8) (w : World) : Prop := w.ownsRow w0.heap.size 5 1 v out.length (Lib.byteCells out) ∧ Ow rb w0 w ∧ rb < w0.heap.size
theorem InBW.keep {S : Nat → Prop} {w0 w w' : World} {rb : Nat} {v : Value} {out : List UInt8} (h : InBW w0 rb v out w) (hk : Kp S w w') (hS : ∀ k, S k → k = rb ∨ w.heap.size ≤ k) : InBW w0 rb v out w' :=
  ⟨hk.owns h.1 (fun k e hs => by have := owns_geW h.1 k e; have := h.2.2; rcases hS k hs with e' | e' <;> omega), Kp.trans h.2.1 hk (fun i hi hs => by have := h.2.1.size; rcases hS i hs with e' | e' <;> omega), h.2.2⟩
theorem InBW.on {w0 w w' : World} {rb : Nat} {v : Value} {out : List UInt8} (h : InBW w0 rb v out w) (hk : Ow rb w w') : InBW w0 rb v out w' := h.keep hk (fun _ e => .inl e)
theorem InBW.below {w0 w w' : World} {rb : Nat} {v : Value} {out : List UInt8} (h : InBW w0 rb v out w) (hk : Below w.heap.size w w') : InBW w0 rb v out w' := h.on (Ow.ofBelow rb hk)
theorem InBW.drew {w0 w : World} {rb : Nat} {v : Value} {out : List UInt8} (h : InBW w0 rb v out w) (n : Nat) : InBW w0 rb v out (w.drewN n) := h.below (belowN (Below.refl _ w) n)
theorem InBW.alloc {w0 w : World} {rb : Nat} {v : Value} {out : List UInt8} (h : InBW w0 rb v out w) (o : Obj) : InBW w0 rb v out (w.alloc o) := h.below ((Below.refl _ w).alloc (Nat.le_refl _) o)
theorem InBW.more {w0 w w5 : World} {rb : Nat} {v v' : Value} {out new : List UInt8} {cs : Array Value} (h : InBW w0 rb v out w) (hown : w5.ownsRow w0.heap.size 5 1 v' (out.length + new.length) (Lib.byteCells out ++ Lib.byteCells new)) (hg : (w.alloc (.cells cs 5)).grownBy w5 v.ownBlock) : InBW w0 rb v' (out ++ new) w5 ∧ Kp (fun k => v.ownBlock = some k) w w5 := by
  have kW : Kp (fun k => v.ownBlock = some k) w w5 := Kp.grown (Kp.alloc (Kp.refl _ w) _) hg (fun k e _ => e)
  have hge := owns_geW h.1
  exact ⟨⟨by rw [List.length_append, Lib.byteCells_append]; exact hown, Kp.trans h.2.1 kW (fun i hi e => by have := hge i e; omega), h.2.2⟩, kW⟩
theorem InBW.raw {w0 w w5 : World} {rb : Nat} {v : Value} {out : List UInt8} {s : ByteArray} {i e b : Int} (h : InBW w0 rb v out w) (hk : Kp (fun k => v.ownBlock = some k) w w5) (hr : RawW w rb s i e b) : RawW w5 rb s i e b :=
  hr.keep hk (fun e => by have := owns_geW h.1 rb e; have := h.2.2; omega)
theorem InBW.cell {w0 w : World} {rb : Nat} {g n cap : Nat} {out : List UInt8} (h : InBW w0 rb (.slice (some ⟨g, 0, none⟩) n cap) out w) : ∀ i, i < out.length → w.cell? ⟨g, 0 + i, none⟩ = some (.int .u8 ((out.map fun x => (x.toNat : Int)).getD i 0)) := by
  intro i hi
  have hc := h.1.cells (g := g) rfl i (.int .u8 (out[i]'hi).toNat) (by simp [Lib.byteCells, hi])
  have ad : ∀ n, (⟨g, 0, none⟩ : Addr).add n = ⟨g, 0 + n, none⟩ := by intro n; unfold Addr.add; split <;> simp_all
  rw [ad] at hc
  rw [hc]; simp [List.getD_eq_getElem?_getD, hi]
theorem encW_pos (r : Int) : 0 < (Lib.encodeRune r).length ∧ (Lib.encodeRune r).length ≤ 4 := by
  have := Lib.encodeRuneZ_length r
  simp only [Lib.encodeRune, List.length_map]; omega

/-- What has come of a text that was read. -/
def GvT (w : World) (rb : Nat) (s : ByteArray) (r : Res (List UInt8)) (v : Value) (w' : World) : Prop :=
  Ow rb w w' ∧ match r with
  | .ok x l => v = .string (ba x) ∧ Sfx s l ∧ RawW w' rb s (pos s l) 0 0
  | .bad e n => v = .string ⟨#[]⟩ ∧ ∃ i : Nat, i ≤ s.size + 12 ∧ e ≠ 0 ∧ RawW w' rb s i e ((s.size - n : Nat) : Int)

/-! ## Escapes of one sign -/
def namesL : List UInt8 := [34, 92, 47, 98, 102, 110, 114, 116]
def meansL : List UInt8 := [34, 92, 47, 8, 12, 10, 13, 9]
def idxI (c : UInt8) : Nat → Int
  | 0 => -1
  | k + 1 => if namesL.getD k 0 = c then (k : Int) else idxI c k
set_option maxRecDepth 100000 in
theorem idx_one (c : UInt8) : one c = if 0 ≤ idxI c 8 then some (meansL.getD (idxI c 8).toNat 0) else none := by
  have : ∀ k : Fin 256, one (UInt8.ofNat k.val) = if 0 ≤ idxI (UInt8.ofNat k.val) 8 then some (meansL.getD (idxI (UInt8.ofNat k.val) 8).toNat 0) else none := by decide
  have := this ⟨c.toNat, c.toNat_lt⟩
  simpa using this
theorem idx_le (c : UInt8) : ∀ k, -1 ≤ idxI c k ∧ idxI c k < k := by
  intro k
  induction k with
  | zero => unfold idxI; omega
  | succ k ih => unfold idxI; split <;> omega
def oneI (l : List UInt8) (k : Nat) : Int := match l[1]? with | some x => idxI x k | none => -1
theorem oneI_le (l : List UInt8) (k : Nat) : -1 ≤ oneI l k ∧ oneI l k < k + 1 := by
  unfold oneI
  split
  · have := idx_le (by assumption) k; omega
  · omega
theorem esc_is {l : List UInt8} {m : Nat} (h : oneI l 8 = (m : Int)) : esc l = some ([meansL.getD m 0], 2) ∧ 2 ≤ l.length ∧ m < 8 := by
  unfold oneI at h
  cases hx : l[1]? with
  | none => rw [hx] at h; simp at h
  | some x =>
    rw [hx] at h
    simp only at h
    have hlen : 1 < l.length := by
      rcases Nat.lt_or_ge 1 l.length with g | g
      · exact g
      · rw [List.getElem?_eq_none g] at hx; cases hx
    have h1 := idx_one x
    rw [h, if_pos (Int.natCast_nonneg _), Int.toNat_natCast] at h1
    have h2 : l.getD 1 0 = x := by rw [List.getD_eq_getElem?_getD, hx]; rfl
    have h3 := idx_le x 8
    refine ⟨?_, by omega, by omega⟩
    unfold esc
    rw [if_pos hlen, h2, h1]
theorem esc_no {l : List UInt8} (h : oneI l 8 = -1) : esc l = match hx l with
    | none => none
    | some n =>
      if 55296 ≤ n ∧ n ≤ 56319 then match hx (l.drop 6) with
        | none => none
        | some m => if 56320 ≤ m ∧ m ≤ 57343 then some (Lib.encodeRune ((65536 + (n - 55296) * 1024 + m - 56320 : Nat) : Int), 12) else none
      else if 56320 ≤ n ∧ n ≤ 57343 then none else some (Lib.encodeRune (n : Int), 6) := by
  have h0 : (if 1 < l.length then one (l.getD 1 0) else none) = none := by
    split
    · next hlen =>
      unfold oneI at h
      rw [List.getElem?_eq_getElem hlen] at h
      simp only at h
      have h2 : l.getD 1 0 = l[1] := by rw [List.getD_eq_getElem?_getD, List.getElem?_eq_getElem hlen]; rfl
      rw [h2, idx_one, h, if_neg (by decide)]
    · rfl
  unfold esc
  rw [h0]
  rfl
/-- What stands so many bytes behind. -/
structure Aft (s : ByteArray) (l : List UInt8) (k : Nat) (l' : List UInt8) : Prop where
  sfx : Sfx s l'
  pos : pos s l' = pos s l + k
  len : l'.length + k = l.length
theorem Aft.drop {s : ByteArray} {l : List UInt8} (h : Sfx s l) {k : Nat} (hk : k ≤ l.length) : Aft s l k (l.drop k) := ⟨h.drop k, pos_drop h hk, by simp; omega⟩
/-- All ways of an escape of digits. -/
inductive EscW (s : ByteArray) (l : List UInt8) : Prop
  | none (h : hx l = Option.none) (e : esc l = Option.none)
  | low (n : Nat) (l6 : List UInt8) (h : hx l = some n) (hn : 56320 ≤ n ∧ n ≤ 57343) (a : Aft s l 6 l6) (e : esc l = Option.none)
  | plain (n : Nat) (l6 : List UInt8) (h : hx l = some n) (hn : n < 55296 ∨ 57343 < n) (hb : n < 65536) (a : Aft s l 6 l6) (e : esc l = some (Lib.encodeRune (n : Int), 6)) (d : l.drop 6 = l6)
  | half (n : Nat) (l6 : List UInt8) (h : hx l = some n) (hn : 55296 ≤ n ∧ n ≤ 56319) (a : Aft s l 6 l6) (h2 : hx l6 = Option.none) (e : esc l = Option.none)
  | bad (n m : Nat) (l6 : List UInt8) (h : hx l = some n) (hn : 55296 ≤ n ∧ n ≤ 56319) (a : Aft s l 6 l6) (h2 : hx l6 = some m) (hm : m < 56320 ∨ 57343 < m) (hb : m < 65536) (e : esc l = Option.none)
  | two (n m : Nat) (l6 l12 : List UInt8) (h : hx l = some n) (hn : 55296 ≤ n ∧ n ≤ 56319) (a : Aft s l 6 l6) (h2 : hx l6 = some m) (hm : 56320 ≤ m ∧ m ≤ 57343) (a2 : Aft s l6 6 l12) (e : esc l = some (Lib.encodeRune (65536 + ((n : Int) - 55296) * 1024 + (m : Int) - 56320), 12)) (d : l.drop 12 = l12)
theorem escW {s : ByteArray} {l : List UInt8} (hl : Sfx s l) (h0 : oneI l 8 = -1) : EscW s l := by
  have he := esc_no h0
  cases hx1 : hx l with
  | none => exact .none hx1 (by rw [he, hx1])
  | some n =>
    obtain ⟨hn, h6⟩ := dhx_lt hx1
    have a := Aft.drop hl h6
    rw [hx1] at he
    simp only at he
    by_cases hDC : 56320 ≤ n ∧ n ≤ 57343
    · exact .low n _ hx1 hDC a (by rw [he, if_neg (by omega), if_pos hDC])
    by_cases hD8 : 55296 ≤ n ∧ n ≤ 56319
    · rw [if_pos hD8] at he
      cases hx2 : hx (l.drop 6) with
      | none => exact .half n _ hx1 hD8 a hx2 (by rw [he, hx2])
      | some m =>
        obtain ⟨hm, h12⟩ := dhx_lt hx2
        rw [hx2] at he
        simp only at he
        by_cases hin : 56320 ≤ m ∧ m ≤ 57343
        · refine .two n m _ _ hx1 hD8 a hx2 hin (Aft.drop a.sfx h12) ?_ (by rw [List.drop_drop])
          rw [he, if_pos hin, show ((65536 + (n - 55296) * 1024 + m - 56320 : Nat) : Int) = 65536 + ((n : Int) - 55296) * 1024 + (m : Int) - 56320 by omega]
        · exact .bad n m _ hx1 hD8 a hx2 (by omega) hm (by rw [he, if_neg hin])
    · exact .plain n _ hx1 (by omega) hn a (by rw [he, if_neg hD8, if_neg hDC]) rfl
theorem Aft.fin {s : ByteArray} {l l' out : List UInt8} {k : Nat} (a : Aft s l k l') (hk : 4 ≤ k) (hlen : out.length + l.length ≤ s.size) : ∀ j, j ≤ 4 → out.length + j + l'.length ≤ s.size := fun j hj => by
  have := a.len; omega
theorem Aft.mes {s : ByteArray} {l l' : List UInt8} {k : Nat} (a : Aft s l k l') (hk : 0 < k) : s.size - Go.Proofs.YthdbnafiindgbaaGreatDoor.pos s l' < s.size - Go.Proofs.YthdbnafiindgbaaGreatDoor.pos s l := by
  have h1 := a.pos
  have h2 := a.len
  have h3 := a.sfx.pos
  omega
theorem Aft.trans {s : ByteArray} {l l' l'' : List UInt8} {k j : Nat} (a : Aft s l k l') (b : Aft s l' j l'') : Aft s l (k + j) l'' := ⟨b.sfx, by have := a.pos; have := b.pos; omega, by have := a.len; have := b.len; omega⟩
theorem few4 {s : ByteArray} {out l : List UInt8} (hlen : out.length + l.length ≤ s.size) (hs : s.size ≤ 1073741824) : out.length + 4 ≤ 1073741828 := by omega
end Go.Proofs.YthdbnafiindgbaaGreatDoor
