/- The document's reader of messages: a list. -/
import Derived.Test.YthdbnafiindgbaaGreatDoorWk0
import Derived.Test.YthdbnafiindgbaaGreatDoorWko
import Derived.Test.YthdbnafiindgbaaGreatDoorWkh
namespace Go.Proofs.YthdbnafiindgbaaGreatDoor
open Go.RowKit
open Wi

theorem val_bla (d : Nat) (l : List UInt8) : val d (bla l) = val d l := by
  cases d <;> simp only [val, valW, bla_blank]
theorem keyIf_bla (m : Bool) (ks : List (List UInt8)) (l : List UInt8) (hm : m = true) : keyIf m ks (bla l) = keyIf m ks l := by
  subst hm; simp only [keyIf, key, bla_blank, if_true]
theorem items_bla (d : Nat) (m : Bool) (f : Nat) (ks : List (List UInt8)) (kids : List J) (l : List UInt8) : items (val d) m f ks kids (bla l) = items (val d) m f ks kids l := by
  cases f with
  | zero => rfl
  | succ f =>
    cases m with
    | true => simp only [items, keyIf_bla true ks l rfl]
    | false => simp only [items, keyIf, Bool.false_eq_true, if_false, val_bla]
/-- What Value does, with d levels left. -/
def ValC (d : Nat) : Prop := ∀ (rb : Nat) (s : ByteArray) (l : List UInt8) (w : World), s.size ≤ 1073741824 → Sfx s l → RawW w rb s (pos s l) 0 0 →
  Calls Tryz.prog 9 #[.pointer (some ⟨rb, 0, none⟩), .int .i64 (40 - (d : Int))] w fun en w' => ∃ v, en = .returned v ∧ Hid (GvJ w rb s (val d l) v w')
theorem run_addKey {w0 w : World} {rb N : Nat} {k n : Int} {t : List UInt8} {kv rv : Value} {ks : List (List UInt8)} {kids : List J} {vl : List Value} {A : Nat → Prop} (x : List UInt8) (h : InM w0 rb N k n t kv rv ks kids vl A w) (hl : ks.length ≤ 1073741824) :
    ∃ kv' w1, (Builtin.append_ #[22, 22] 22 #[kv, .slice (some ⟨w.heap.size, 0, none⟩) 1 1]).run Tryz.prog (w.alloc (.cells #[.string (ba x)] 9)) = .ok kv' w1 ∧ w1.ownsRow w0.heap.size 9 1 kv' (ks.length + 1) (strv ks ++ [.string (ba x)]) ∧ Kp (fun q => kv.ownBlock = some q) w w1 ∧ (kv'.ownBlock = kv.ownBlock ∨ ∃ q, kv'.ownBlock = some q ∧ w.heap.size ≤ q) := by
  obtain ⟨i0, hi0, hz0, hz1, hz2⟩ := infoW infoS
  have h' := h.below ((Below.refl _ w).alloc (Nat.le_refl _) (.cells #[.string (ba x)] 9))
  obtain ⟨kv', w1, a1, a2, a3, -, a5⟩ := run_append_own_at (P := Tryz.prog) (w.alloc (.cells #[.string (ba x)] 9)) w0.heap.size 22 22 9 i0 _ 1 16 Tryz.underlying22 hi0 hz0 hz1 hz2 rfl (by decide) kv ks.length (strv ks) h'.keys ⟨w.heap.size, 0, none⟩ 1 1 [.string (ba x)] rfl (World.news_of_block (heap_alloc_new w _)) (by simp [Value.oneCell']) (by unfold maxLen; omega) (by omega) h'.ow.size
  refine ⟨kv', w1, a1, a2, ?_, lies a5 (by simp)⟩
  exact Kp.grown (Kp.alloc (Kp.refl _ w) _) a3 (fun q e _ => e)
end Go.Proofs.YthdbnafiindgbaaGreatDoor
