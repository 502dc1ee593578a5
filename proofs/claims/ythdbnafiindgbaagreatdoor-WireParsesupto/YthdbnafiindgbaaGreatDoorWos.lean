/- Values as the program makes them, in blocks that are told. -/
import Derived.Test.YthdbnafiindgbaaGreatDoorWoq
import Derived.Test.YthdbnafiindgbaaGreatDoorWld0
namespace Go.Proofs.YthdbnafiindgbaaGreatDoor
open Go.RowKit
open Wi

/-- The five cells of a value. -/
abbrev Five := Value × Value × Value × Value × Value
abbrev fiveV (f : Five) : Value := .agg #[f.1, f.2.1, f.2.2.1, f.2.2.2.1, f.2.2.2.2]
abbrev fiveL (f : Five) : List Value := [f.1, f.2.1, f.2.2.1, f.2.2.2.1, f.2.2.2.2]
/-- A value that lies in some blocks. -/
inductive IsX (w : World) (A : Nat → Prop) : Value → J → Prop
  | mk (k n : Int) (t : List UInt8) (ks : List (List UInt8)) (kids : List J) (ao bo : Option Addr) (cap bcap : Nat) (f : Nat → Five)
      (hc : ks.length ≤ cap ∧ cap ≤ maxLen) (hd : kids.length ≤ bcap ∧ bcap ≤ maxLen)
      (hk : ∀ (i : Nat) (x : List UInt8), ks[i]? = some x → ∃ g, ao = some ⟨g, 0, none⟩ ∧ A g ∧ w.cell? ⟨g, i, none⟩ = some (.string (ba x)))
      (hr : ∀ i, i < kids.length → ∃ g, bo = some ⟨g, 0, none⟩ ∧ A g ∧ w.cell? ⟨g, i * 5, none⟩ = some (f i).1 ∧ w.cell? ⟨g, i * 5 + 1, none⟩ = some (f i).2.1 ∧ w.cell? ⟨g, i * 5 + 2, none⟩ = some (f i).2.2.1 ∧ w.cell? ⟨g, i * 5 + 3, none⟩ = some (f i).2.2.2.1 ∧ w.cell? ⟨g, i * 5 + 4, none⟩ = some (f i).2.2.2.2)
      (hp : ∀ (i : Nat) (j : J), kids[i]? = some j → IsX w A (fiveV (f i)) j) :
      IsX w A (.agg #[.int .i64 k, .int .i64 n, .string (ba t), .slice ao ks.length cap, .slice bo kids.length bcap]) (.mk k n t ks kids)
theorem IsX.keep {S A : Nat → Prop} {w w' : World} (q : Kp S w w') {v : Value} {j : J} (h : IsX w A v j) : (∀ i, A i → ¬ S i) → IsX w' A v j := by
  induction h with
  | mk k n t ks kids ao bo cap bcap f hc hd hk hr hp ih =>
    intro hS
    refine .mk k n t ks kids ao bo cap bcap f hc hd (fun i x hx => ?_) (fun i hi => ?_) (fun i j hj => ih i j hj hS)
    · obtain ⟨g, e, a, h1⟩ := hk i x hx
      exact ⟨g, e, a, q.cellv h1 (hS g a)⟩
    · obtain ⟨g, e, a, a0, a1, a2, a3, a4⟩ := hr i hi
      have hg := hS g a
      exact ⟨g, e, a, q.cellv a0 hg, q.cellv a1 hg, q.cellv a2 hg, q.cellv a3 hg, q.cellv a4 hg⟩
theorem IsX.mono {A A' : Nat → Prop} {w : World} {v : Value} {j : J} (h : IsX w A v j) (hA : ∀ i, A i → i < w.heap.size → A' i) : IsX w A' v j := by
  induction h with
  | mk k n t ks kids ao bo cap bcap f hc hd hk hr hp ih =>
    refine .mk k n t ks kids ao bo cap bcap f hc hd (fun i x hx => ?_) (fun i hi => ?_) ih
    · obtain ⟨g, e, a, h1⟩ := hk i x hx
      exact ⟨g, e, hA g a (World.block_lt_of_cell? w ⟨g, i, none⟩ h1), h1⟩
    · obtain ⟨g, e, a, a0, r⟩ := hr i hi
      exact ⟨g, e, hA g a (World.block_lt_of_cell? w ⟨g, i * 5, none⟩ a0), a0, r⟩
theorem IsX.shape {w : World} {A : Nat → Prop} {v : Value} {j : J} (h : IsX w A v j) : ∃ f : Five, v = fiveV f := by
  cases h with
  | mk k n t ks kids ao bo cap bcap f hc hd hk hr hp => exact ⟨(_, _, _, _, _), rfl⟩
theorem IsX.plain (w : World) (A : Nat → Prop) (k n : Int) (t : List UInt8) : IsX w A (.agg #[.int .i64 k, .int .i64 n, .string (ba t), .slice none 0 0, .slice none 0 0]) (.mk k n t [] []) :=
  .mk k n t [] [] none none 0 0 (fun _ => (undef, undef, undef, undef, undef)) ⟨Nat.le_refl _, Nat.zero_le _⟩ ⟨Nat.le_refl _, Nat.zero_le _⟩ (fun i x h => by simp at h) (fun i h => by simp at h) (fun i j h => by simp at h)
/-- What comes of a value. -/
def OkV (w : World) (sb : Nat) (s : ByteArray) (d : Int) (r : Res J) (en : Ending) (w' : World) : Prop :=
  Ow sb w w' ∧ match r with
  | .ok j t => ∃ v, en = .returned v ∧ IsX w' (fun q => w.heap.size ≤ q) v j ∧ RawS w' sb s (pos s t) d
  | .bad e n => en = flt (s.size - n : Nat) e
/-- What value does, with d levels left. -/
def VC (d : Nat) : Prop := ∀ (sb : Nat) (s : ByteArray) (l : List UInt8) (w : World), s.size ≤ 1073741824 → Sfx s l → RawS w sb s (pos s l) (40 - (d : Int)) → Es w → sb ≠ 1 →
  Calls Tryz.prog 15 #[.pointer (some ⟨sb, 0, none⟩)] w fun en w' => OkV w sb s (40 - (d : Int)) (val d l) en w'
/-- What comes of a list: its kids. -/
def OkLs (w : World) (sb : Nat) (s : ByteArray) (d : Int) (r : Res J) (en : Ending) (w' : World) : Prop :=
  Ow sb w w' ∧ match r with
  | .ok j t => ∃ rv, en = .returned rv ∧ IsX w' (fun q => w.heap.size ≤ q) (.agg #[.int .i64 4, .int .i64 0, .string (ba []), .slice none 0 0, rv]) j ∧ RawS w' sb s (pos s t) d
  | .bad e n => en = flt (s.size - n : Nat) e
/-- What comes of a map: its keys and its kids. -/
def OkPs (w : World) (sb : Nat) (s : ByteArray) (d : Int) (r : Res J) (en : Ending) (w' : World) : Prop :=
  Ow sb w w' ∧ match r with
  | .ok j t => ∃ kv rv, en = .returned (.tuple #[kv, rv]) ∧ IsX w' (fun q => w.heap.size ≤ q) (.agg #[.int .i64 5, .int .i64 0, .string (ba []), kv, rv]) j ∧ RawS w' sb s (pos s t) d
  | .bad e n => en = flt (s.size - n : Nat) e
/-- What stands in brackets, with d levels left. -/
def brkR (d : Nat) (m : Bool) (t : List UInt8) : Res J := match d with | 0 => .bad 12 (t.length + 1) | d + 1 => manyW (val d) m t
theorem val_brk (d : Nat) (l : List UInt8) : val d l = valW (brkR d) l := by cases d <;> rfl
def LC (d : Nat) : Prop := ∀ (sb : Nat) (s : ByteArray) (c : UInt8) (t : List UInt8) (w : World), s.size ≤ 1073741824 → Sfx s (c :: t) → RawS w sb s (pos s (c :: t)) (40 - (d : Int)) → Es w → sb ≠ 1 →
  Calls Tryz.prog 28 #[.pointer (some ⟨sb, 0, none⟩)] w fun en w' => OkLs w sb s (40 - (d : Int)) (brkR d false t) en w'
def PC (d : Nat) : Prop := ∀ (sb : Nat) (s : ByteArray) (c : UInt8) (t : List UInt8) (w : World), s.size ≤ 1073741824 → Sfx s (c :: t) → RawS w sb s (pos s (c :: t)) (40 - (d : Int)) → Es w → sb ≠ 1 →
  Calls Tryz.prog 29 #[.pointer (some ⟨sb, 0, none⟩)] w fun en w' => OkPs w sb s (40 - (d : Int)) (brkR d true t) en w'
end Go.Proofs.YthdbnafiindgbaaGreatDoor
