/- A Reader of frames in memory. -/
import Derived.Test.YtcibflndpckkkaaDoorWma
import Derived.Test.YtcibflndpckkkaaDoorWna
import Derived.Deep.RegionHeld3
namespace Go.Proofs.YtcibflndpckkkaaDoor
open Go.RowKit
open Wi

/-- What a Reader may turn: blocks of these types. -/
def RTy (t : TypeId) : Prop := t = 72 ∨ t = 5
abbrev Fk (B : Nat) (w w' : World) : Prop := Kp (fun q => B ≤ q ∧ ∃ c t fz, w.heap[q]? = some (.cells c t fz) ∧ RTy t) w w'
theorem Fk.trans {B : Nat} {a b c : World} (h : Fk B a b) (k : Fk B b c) : Fk B a c :=
  Kp.trans h k (fun i hi ⟨hB, cs, t, fz, e, ht⟩ => Classical.byContradiction fun hn => hn ⟨hB, cs, t, fz, (h.block i hi hn) ▸ e, ht⟩)
theorem Fk.below {B : Nat} {a b : World} (h : Below a.heap.size a b) : Fk B a b := Kp.ofBelow h _
theorem Fk.toBelow {B : Nat} {a b : World} (h : Fk B a b) (hB : B ≤ a.heap.size) : Below B a b := Kp.below h hB (fun _ e => e.1)
theorem Fk.owns {B : Nat} {w w' : World} (h : Fk B w w') {base : Nat} {e : TypeId} {size : Nat} {v : Value} {n : Nat} {xs : List Value} (ho : w.ownsRow base e size v n xs) (he : ¬ RTy e) : w'.ownsRow base e size v n xs :=
  Kp.owns h ho (fun q hq ⟨_, c, t, fz, e1, ht⟩ => by
    obtain ⟨-, c', hc'⟩ := own_tyB ho hq
    exact he (cells_tyB e1 hc' ▸ ht))
/-- A Reader's block. -/
abbrev rdf (lv : Value) (told : Bool) (len : Int) (inB : Bool) (wv : Value) (p v : Value) : Array Value := #[lv, .bool told, .int .i64 len, .bool inB, p, v, wv]
theorem rdH (lv : Value) (told : Bool) (len : Int) (inB : Bool) (wv : Value) : Host (rdf lv told len inB wv) 72 4 7 := ⟨fun _ _ => rfl, fun _ _ => rfl, fun _ _ _ => rfl, fun _ _ _ => rfl, fun _ _ => rfl, by decide, by kernel_rfl, by decide⟩
/-- A Reader: a line that has not ended, a length, a body. -/
structure RdS (w : World) (B : Nat) (lv : Value) (line : List UInt8) (told : Bool) (len : Int) (inB : Bool) (p bv : Value) (body : List UInt8) (wv : Value) : Prop where
  bd : BdG (rdf lv told len inB wv) 72 4 w B body p bv
  row : w.ownsRow B 5 1 lv line.length (Lib.byteCells line)
  apart : ∀ k, lv.ownBlock = some k → bv.ownBlock ≠ some k
variable {w w' : World} {B : Nat} {lv : Value} {line : List UInt8} {told : Bool} {len : Int} {inB : Bool} {p bv : Value} {body : List UInt8} {wv : Value}
theorem RdS.cells (h : RdS w B lv line told len inB p bv body wv) : w.cell? ⟨B, 0, none⟩ = some lv ∧ w.cell? ⟨B, 1, none⟩ = some (.bool told) ∧ w.cell? ⟨B, 2, none⟩ = some (.int .i64 len) ∧ w.cell? ⟨B, 3, none⟩ = some (.bool inB) ∧ w.cell? ⟨B, 4, none⟩ = some p ∧ w.cell? ⟨B, 5, none⟩ = some bv ∧ w.cell? ⟨B, 6, none⟩ = some wv :=
  ⟨cell_blk h.bd.blk rfl, cell_blk h.bd.blk rfl, cell_blk h.bd.blk rfl, cell_blk h.bd.blk rfl, cell_blk h.bd.blk rfl, cell_blk h.bd.blk rfl, cell_blk h.bd.blk rfl⟩
theorem RdS.frz (h : RdS w B lv line told len inB p bv body wv) (j : Nat) : w.frozen? ⟨B, j, none⟩ = false := by simp [World.frozen?, h.bd.blk]
theorem RdS.below (h : RdS w B lv line told len inB p bv body wv) (hb : Below w.heap.size w w') : RdS w' B lv line told len inB p bv body wv :=
  ⟨h.bd.below hb, (Kp.ofBelow hb (fun _ => False)).owns h.row (fun _ _ => id), h.apart⟩
theorem RdS.drew (h : RdS w B lv line told len inB p bv body wv) (n : Nat) : RdS (w.drewN n) B lv line told len inB p bv body wv := h.below (belowN (Below.refl _ w) n)
theorem RdS.linefar (h : RdS w B lv line told len inB p bv body wv) : ∀ k, lv.ownBlock = some k → k ≠ B := fun k hk e => by
  obtain ⟨-, c, hc⟩ := own_tyB h.row hk
  rw [e] at hc
  exact absurd (cells_tyB hc h.bd.blk) (by decide)
theorem RdS.lt (h : RdS w B lv line told len inB p bv body wv) : B < w.heap.size := heap_lt h.bd.blk
/-- What a Builder's write leaves of a Reader. -/
theorem RdS.wrote (h : RdS w B lv line told len inB p bv body wv) {body' : List UInt8} (hw : BdT (rdf lv told len inB wv) 72 4 w B bv body' w') : (∃ p' bv', RdS w' B lv line told len inB p' bv' body' wv) ∧ Fk B w w' := by
  obtain ⟨p', bv', g, a, k⟩ := hw
  refine ⟨⟨p', bv', g, k.owns h.row (fun q hq e => ?_), fun q hq e => ?_⟩, k.mono (fun q hq e => ?_)⟩
  · rcases e with e | e
    · exact h.linefar q hq e
    · exact h.apart q hq e
  · rcases a q e with e | e
    · exact h.apart q hq e
    · obtain ⟨-, c, hc⟩ := own_tyB h.row hq
      have := heap_lt hc
      omega
  · rcases e with e | e
    · have e : q = B := e
      rw [e]; exact ⟨Nat.le_refl _, _, _, _, h.bd.blk, .inl rfl⟩
    · obtain ⟨hq, c, hc⟩ := own_tyB h.bd.row e
      exact ⟨hq, _, _, _, hc, .inr rfl⟩
/-- A field is set. -/
theorem RdS.field (h : RdS w B lv line told len inB p bv body wv) (j : Nat) (v : Value) {told' : Bool} {len' : Int} {inB' : Bool} (hj : (rdf lv told len inB wv p bv).setIfInBounds j v = rdf lv told' len' inB' wv p bv) : RdS (w.setCell ⟨B, j, none⟩ v) B lv line told' len' inB' p bv body wv ∧ Fk B w (w.setCell ⟨B, j, none⟩ v) := by
  have k : Kp (fun q => q = B) w (w.setCell ⟨B, j, none⟩ v) := Kp.setCell (S := fun q => q = B) (p := ⟨B, j, none⟩) (Kp.refl _ w) (fun _ => rfl) _
  refine ⟨⟨⟨?_, h.bd.adr, k.owns h.bd.row (fun q hq e => h.bd.far (rdH _ _ _ _ _) (by rw [hq, e])), h.bd.nil⟩, k.owns h.row (fun q hq e => h.linefar q hq e), h.apart⟩, k.mono (fun q _ e => ?_)⟩
  · have := set_blkB h.bd.blk j v
    rw [hj] at this; exact this
  · have e : q = B := e
    rw [e]; exact ⟨Nat.le_refl _, _, _, _, h.bd.blk, .inl rfl⟩

set_option maxRecDepth 100000 in
set_option maxHeartbeats 2000000 in
theorem isWhole_any (h : RdS w B lv line told len inB p bv body wv) :
    Calls Tryd.prog 25 #[.pointer (some ⟨B, 0, none⟩)] w fun e w' => e = .returned (.bool (inB && ((body.length : Int) == len))) ∧ ∃ m, w' = w.drewN m := by
  obtain ⟨c0, c1, c2, c3, c4, c5, c6⟩ := h.cells
  have HL : Hid (∀ m, Calls Tryd.prog 41 #[.pointer (some ⟨B, 4, none⟩)] (w.drewN m) fun e w' => e = .returned (.int .i64 (body.length : Int)) ∧ ∃ m2, w' = (w.drewN m).drewN m2) := fun m => by
    refine (wlen_any (rdH _ _ _ _ _) B body p bv _ (h.drew m).bd).mono ?_
    rintro e w' ⟨rfl, rfl⟩
    exact ⟨rfl, 0, rfl⟩
  clear h
  cases inB with
  | false =>
    go_enter Tryd.func25, Tryd.ntmps25
    go_wp2_with fail
    go_quiet ((go_at_call 41; exact Calls.quiet_of ((HL.out) _)))
    go_wp2_with fail
    go_ret
    exact ⟨rfl, _, rfl⟩
  | true =>
    go_enter Tryd.func25, Tryd.ntmps25
    go_wp2_with fail
    go_quiet ((go_at_call 41; exact Calls.quiet_of ((HL.out) _)))
    go_wp2_with fail
    go_ret
    exact ⟨by simp, _, rfl⟩
end Go.Proofs.YtcibflndpckkkaaDoor
