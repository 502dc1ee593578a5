/- The document's writer of messages: texts in quotes. -/
import Derived.Test.YthdbnafiindgbaaDoorWk0
import Derived.Test.YthdbnafiindgbaaDoorWjb
import Derived.Deep.CutBlock
import Derived.Deep.DeepCutAuto
import Derived.Lib.AppendZeros
import Derived.Deep.RegionHeld3
import Derived.Deep.AppendLies
namespace Go.Proofs.YthdbnafiindgbaaDoor
open Go.RowKit
open Wi

/-- A row of bytes of one's own. -/
def OutB (w0 : World) (v : Value) (out : List UInt8) (w : World) : Prop := w.ownsRow w0.heap.size 5 1 v out.length (Lib.byteCells out) ∧ Below w0.heap.size w0 w
theorem OutB.put {w0 w : World} {v : Value} {out : List UInt8} (h : OutB w0 v out w) (new : List UInt8) (hl : out.length + new.length ≤ 17179869184) :
    ∃ v' w1, (Builtin.append_ #[53, 53] 53 #[v, .slice (some ⟨w.heap.size, 0, none⟩) new.length new.length]).run Tryd.prog (w.alloc (.cells (Lib.byteCells new).toArray 5)) = .ok v' w1 ∧ OutB w0 v' (out ++ new) w1 := by
  obtain ⟨i0, hi0, hz0, hz1, hz2⟩ := infoW infoB
  have hb := h.2.alloc h.2.size (.cells (Lib.byteCells new).toArray 5)
  have ho := (Kp.ofBelow ((Below.refl _ w).alloc (Nat.le_refl _) (.cells (Lib.byteCells new).toArray 5)) (fun _ => False)).owns h.1 (fun _ _ => id)
  obtain ⟨v', w1, a1, a2, a3, -⟩ := run_append_own (P := Tryd.prog) (w.alloc (.cells (Lib.byteCells new).toArray 5)) w0.heap.size 53 53 5 i0 _ 1 1 Tryd.underlying53 hi0 hz0 hz1 hz2 rfl (by decide) v out.length (Lib.byteCells out) ho ⟨w.heap.size, 0, none⟩ new.length new.length (Lib.byteCells new) (bc_lenW new) (World.news_of_block (heap_alloc_new w _)) (bc_oneW new) (by unfold maxLen; omega) (by omega) hb.size
  refine ⟨v', w1, a1, ?_, hb.grown a3 hb.size (fun k hk => (owns_geW ho k hk).1)⟩
  rw [List.length_append, Lib.byteCells_append]; exact a2
theorem hexc_lt (n : Nat) (h : n < 16) : ∃ hi : n < (⟨#[48, 49, 50, 51, 52, 53, 54, 55, 56, 57, 97, 98, 99, 100, 101, 102]⟩ : ByteArray).size, (⟨#[48, 49, 50, 51, 52, 53, 54, 55, 56, 57, 97, 98, 99, 100, 101, 102]⟩ : ByteArray)[n] = hexc n := by
  have : ∀ k : Fin 16, (⟨#[48, 49, 50, 51, 52, 53, 54, 55, 56, 57, 97, 98, 99, 100, 101, 102]⟩ : ByteArray).data[k.val]? = some (hexc k.val) := by decide
  have hi : n < (⟨#[48, 49, 50, 51, 52, 53, 54, 55, 56, 57, 97, 98, 99, 100, 101, 102]⟩ : ByteArray).size := h
  refine ⟨hi, ?_⟩
  have h2 := this ⟨n, h⟩
  rw [Array.getElem?_eq_getElem hi] at h2
  exact Option.some.inj h2

theorem owns_cellsB {w : World} {base : Nat} {e : TypeId} {v : Value} {n : Nat} {xs : List Value} (h : w.ownsRow base e 1 v n xs) : ∃ ao cap, v = .slice ao n cap ∧ True := by
  rcases h.2 with ⟨rfl, h0⟩ | ⟨g, cap, cur, rfl, -⟩
  · subst h0; exact ⟨none, 0, rfl, trivial⟩
  · exact ⟨_, cap, rfl, trivial⟩
theorem OutB.cell {w0 w : World} {g n cap : Nat} {out : List UInt8} (h : OutB w0 (.slice (some ⟨g, 0, none⟩) n cap) out w) : ∀ i, i < out.length → w.cell? ⟨g, 0 + i, none⟩ = some (.int .u8 ((out.map fun x => (x.toNat : Int)).getD i 0)) := by
  intro i hi
  have hc := h.1.cells (g := g) rfl i (.int .u8 (out[i]'hi).toNat) (by simp [Lib.byteCells, hi])
  rw [Addr.add_lit] at hc
  rw [hc]; simp [hi]
theorem quoteB_len (c : UInt8) : (quoteB c).length ≤ 6 := by unfold quoteB; (repeat' split) <;> simp
theorem quoteA_len (l : List UInt8) : (quoteA l).length ≤ l.length * 6 := by
  induction l with
  | nil => simp [quoteA]
  | cons c l ih =>
    have := quoteB_len c
    unfold quoteA at ih ⊢
    rw [List.flatMap_cons, List.length_append, List.length_cons]; omega
theorem c_eqB {c k : UInt8} {n : Int} (hn : (k.toNat : Int) = n) : ((c.toNat : Int) == n) = decide (c = k) := by
  rw [Bool.eq_iff_iff, ← hn]; simp
  exact ⟨fun e => UInt8.toNat_inj.1 (by omega), fun e => by rw [e]⟩

end Go.Proofs.YthdbnafiindgbaaDoor
