/- Rows of bytes that the document's own lexer makes. -/
import Derived.Test.YtbhcniemkjoflaaDoorQa
import Derived.Test.YtbhcniemkjoflaaDoorTa
import Derived.Test.YtbhcniemkjoflaaDoorEa
import Derived.Test.YtbhcniemkjoflaaDoorGc
import Derived.Laws.BytesArg
namespace Go.Proofs.YtbhcniemkjoflaaDoor
open Go.RowKit
open M

theorem info5 : (Tryd.prog.info? 5).map (fun i => (i.zero, i.size, i.bytes)) = some (some (.int .u8 0), 1, 1) := by kernel_rfl
/-- A row of bytes that is made. -/
def InB (w0 : World) (v : Value) (out : List UInt8) (w : World) : Prop := w.ownsRow w0.heap.size 5 1 v out.length (Lib.byteCells out) ∧ Below w0.heap.size w0 w
theorem InB.first (w : World) (x : UInt8) : InB w (.slice (some ⟨w.heap.size, 0, none⟩) 1 1) [x] (w.alloc (.cells #[.int .u8 x.toNat] 5)) := by
  refine ⟨⟨rfl, .inr ⟨w.heap.size, 1, #[.int .u8 x.toNat], rfl, Nat.le_refl _, ?_, Nat.le_refl _, by unfold maxLen; omega, rfl, rfl⟩⟩, (Below.refl _ _).alloc (Nat.le_refl _) _⟩
  show (w.heap.push _)[w.heap.size]? = _
  simp
theorem InB.more {w0 w w5 : World} {v v' : Value} {out new : List UInt8} {cs : Array Value} (h : InB w0 v out w) (hown : w5.ownsRow w0.heap.size 5 1 v' (out.length + new.length) (Lib.byteCells out ++ Lib.byteCells new)) (hg : (w.alloc (.cells cs 5)).grownBy w5 v.ownBlock) : InB w0 v' (out ++ new) w5 := by
  refine ⟨by rw [List.length_append, Lib.byteCells_append]; exact hown, ?_⟩
  have hge := owns_ge h.1
  have hz := h.2.size
  have kW : Kp (fun k => v.ownBlock = some k) w w5 := Kp.grown (Kp.alloc (Kp.refl _ w) _) hg (fun k e _ => e)
  exact h.2.trans (kW.below hz (fun k e => (hge k e).1))
theorem InB.more' {w0 w w5 : World} {v v' : Value} {out new : List UInt8} {cs : Array Value} {n : Nat} (h : InB w0 v out w) (hn : out.length = n) (hown : w5.ownsRow w0.heap.size 5 1 v' (n + new.length) (Lib.byteCells out ++ Lib.byteCells new)) (hg : (w.alloc (.cells cs 5)).grownBy w5 v.ownBlock) : InB w0 v' (out ++ new) w5 := h.more (by rw [hn]; exact hown) hg
theorem InB.row {w0 w : World} {v : Value} {out : List UInt8} {n : Nat} (h : InB w0 v out w) (hn : out.length = n) : w.ownsRow w0.heap.size 5 1 v n (Lib.byteCells out) := by rw [← hn]; exact h.1
theorem ret_str {a a' : ByteArray} (h : a = a') : Ending.returned (.string a) = .returned (.string a') := by rw [h]
theorem str_bytes (l : List UInt8) : strOfNums (l.map fun x => (x.toNat : Int)) = ba l := by
  unfold strOfNums ba
  congr 1
  simp only [List.map_map]
  have : ((fun n : Int => UInt8.ofNat n.toNat) ∘ fun x : UInt8 => (x.toNat : Int)) = id := by funext x; simp
  first
    | rw [this, List.map_id]
    | simp
theorem InB.cell {w0 w : World} {g n cap : Nat} {out : List UInt8} (h : InB w0 (.slice (some ⟨g, 0, none⟩) n cap) out w) : ∀ i, i < out.length → w.cell? ⟨g, 0 + i, none⟩ = some (.int .u8 ((out.map fun x => (x.toNat : Int)).getD i 0)) := by
  intro i hi
  have hc := h.1.cells (g := g) rfl i (.int .u8 (out[i]'hi).toNat) (by simp [Lib.byteCells, hi])
  have ad : ∀ n, (⟨g, 0, none⟩ : Addr).add n = ⟨g, 0 + n, none⟩ := by intro n; unfold Addr.add; split <;> simp_all
  rw [ad] at hc
  rw [hc]; simp [List.getD_eq_getElem?_getD, hi]
theorem hex_at : ∀ k : Fin 16, (((⟨#[48, 49, 50, 51, 52, 53, 54, 55, 56, 57, 97, 98, 99, 100, 101, 102]⟩ : ByteArray)[k.val]'k.isLt).toNat : Int) = ((hxd k.val).toNat : Int) := by decide
end Go.Proofs.YtbhcniemkjoflaaDoor
