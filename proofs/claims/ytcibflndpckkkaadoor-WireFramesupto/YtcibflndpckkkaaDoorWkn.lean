/- The document's frames: how far bodies and lines have been looked for, and a row of texts that is made. -/
import Derived.Test.YtcibflndpckkkaaDoorWkm
namespace Go.Proofs.YtcibflndpckkkaaDoor
open Go.RowKit
open Wi

/-- How far bodies have been found. -/
structure FrI (L : List UInt8) (out : List (List UInt8)) (size : Int) (l : List UInt8) : Prop where
  out : (fr (-1) L).out = out ++ (fr size l).out
  e : (fr (-1) L).e = (fr size l).e
theorem FrI.start (L : List UInt8) : FrI L [] (-1) L := ⟨rfl, rfl⟩
theorem FrI.end {L : List UInt8} {out : List (List UInt8)} {size : Int} {l : List UInt8} {x : Fr} (h : FrI L out size l) (e : fr size l = x) (ho : x.out = []) : (fr (-1) L).out = out ∧ (fr (-1) L).e = x.e :=
  ⟨by rw [h.out, e, ho, List.append_nil], by rw [h.e, e]⟩
/-- How far the end of a line has been looked for. -/
structure Ln (l a l' : List UInt8) : Prop where
  eq : l = a ++ l'
  cut : cutLine l = match cutLine l' with
    | none => none
    | some (x, r) => some (a ++ x, r)
theorem Ln.start (l : List UInt8) : Ln l [] l := ⟨rfl, by cases cutLine l with
  | none => rfl
  | some x => rfl⟩
theorem Ln.next {l a t : List UInt8} {c : UInt8} (h : Ln l a (c :: t)) (hc : ¬ (c = 13 ∧ t.head? = some 10)) : Ln l (a ++ [c]) t := by
  refine ⟨by rw [h.eq]; simp, ?_⟩
  rw [h.cut, cutLine, if_neg hc]
  cases cutLine t with
  | none => rfl
  | some x => simp
theorem Ln.none {l a l' : List UInt8} (h : Ln l a l') (hl : l'.length ≤ 1) : cutLine l = none := by
  rw [h.cut]
  cases l' with
  | nil => rfl
  | cons c t =>
    have : t = [] := by simpa using hl
    subst this
    simp [cutLine]
theorem Ln.some {l a r : List UInt8} (h : Ln l a (13 :: 10 :: r)) : cutLine l = some (a, r) := by
  rw [h.cut]; simp [cutLine]
theorem lenOf_le (l : List UInt8) : -2 ≤ lenOf l ∧ lenOf l ≤ 9999999999 := by
  unfold lenOf
  split
  · omega
  split
  · omega
  split
  · omega
  · next h =>
    split
    · next hd =>
      have := numOf_lt2 (l := (l.dropWhile notColon).drop 2) (fun c hc => List.all_eq_true.1 hd c hc) 10 (by omega)
      have e : (10 : Nat) ^ 10 = 10000000000 := by decide
      omega
    · omega
/-- A row of texts that is made. -/
def InS (w0 : World) (v : Value) (out : List (List UInt8)) (w : World) : Prop := w.ownsRow w0.heap.size 9 1 v out.length (out.map fun x => Value.string (ba x)) ∧ Below w0.heap.size w0 w
theorem InS.more {w0 w w5 : World} {v v' : Value} {out : List (List UInt8)} {x : List UInt8} {cs : Array Value} (h : InS w0 v out w) (hown : w5.ownsRow w0.heap.size 9 1 v' (out.length + 1) ((out.map fun x => Value.string (ba x)) ++ [.string (ba x)])) (hg : (w.alloc (.cells cs 9)).grownBy w5 v.ownBlock) : InS w0 v' (out ++ [x]) w5 := by
  refine ⟨by rw [List.length_append, List.map_append]; exact hown, ?_⟩
  have hge := owns_geW h.1
  have hz := h.2.size
  have kW : Kp (fun k => v.ownBlock = some k) w w5 := Kp.grown (Kp.alloc (Kp.refl _ w) _) hg (fun k e _ => e)
  exact h.2.trans (kW.below hz (fun k e => (hge k e).1))
theorem ret_ve {v : Value} {a b : Int} (h : a = b) : Ending.returned (.tuple #[v, .int .i64 a]) = .returned (.tuple #[v, .int .i64 b]) := by rw [h]
/-- What Frames gives. -/
def GvS (w : World) (s : ByteArray) (e : Ending) (w' : World) : Prop := ∃ v, e = .returned (.tuple #[v, .int .i64 ((fr (-1) (bs s)).e : Int)]) ∧ InS w v (fr (-1) (bs s)).out w'

end Go.Proofs.YtcibflndpckkkaaDoor
