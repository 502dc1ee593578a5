/- Spans gone through from behind. -/
import Derived.RangeFuncNested
import Derived.RangeFuncBound
import Derived.RangeFuncCalls
import Derived.RangeFuncLeaves
import Derived.Shelf.Abstract
import Derived.Shelf.RegionOpen
import Derived.WalkKit
import Derived.OwnWalkIn
import Derived.TacticsInMore
import Derived.LoopNIn
import Derived.LoopIn
import Derived.Test.YtopeagigdgjchaaDoorFa
namespace Go.Proofs.YtopeagigdgjchaaDoor
open Go.RowKit Go.Shelf
attribute [local go_sem] Oper.semAt_some

/-- A span that comes, with its place. -/
abbrev Sx := { x : Nat × Rw // x.2.s.size ≤ 1048576 }
def encS (x : Sx) : Array Value := #[.int .i64 (x.1.1 : Int), .agg #[.int .i64 x.1.2.f, .int .i64 x.1.2.t, .string x.1.2.s]]
def smallL (L : List Rw) : Prop := ∀ r ∈ L, r.s.size ≤ 1048576
/-- What comes j rounds behind the first. -/
def nthB (L : List Rw) (hL : smallL L) (j : Nat) : Sx :=
  ⟨(L.length - 1 - j, (L[L.length - 1 - j]?).getD ⟨0, 0, .empty⟩), by
    cases h : L[L.length - 1 - j]? with
    | none => show (0 : Nat) ≤ 1048576; omega
    | some r => exact hL r (List.mem_of_getElem? h)⟩
theorem nthB_at {L : List Rw} (hL : smallL L) {j : Nat} {r : Rw} (hj : L[j]? = some r) : encS (nthB L hL (L.length - 1 - j)) = #[.int .i64 (j : Int), .agg #[.int .i64 r.f, .int .i64 r.t, .string r.s]] := by
  have hlt : j < L.length := by
    rcases Nat.lt_or_ge j L.length with h | h
    · exact h
    · rw [List.getElem?_eq_none h] at hj; cases hj
  have e : L.length - 1 - (L.length - 1 - j) = j := by omega
  simp only [encS, nthB, e, hj, Option.getD_some]
def upto {α : Type} (f : Nat → α) (k : Nat) : List α := (List.range k).map f
theorem upto_succ {α : Type} (f : Nat → α) (k : Nat) : upto f (k + 1) = upto f k ++ [f k] := by simp [upto, List.range_succ]
theorem upto_length {α : Type} (f : Nat → α) (k : Nat) : (upto f k).length = k := by simp [upto]

/-- What a round keeps for the one who gives the spans: what lay ahead, and the box of the spans. -/
def KB (n₀ Bs : Nat) (A B : World) : Prop := Below n₀ A B ∧ B.heap[Bs]? = A.heap[Bs]?
theorem KB.refl (n₀ Bs : Nat) (A : World) : KB n₀ Bs A A := ⟨Below.refl _ _, rfl⟩
theorem KB.trans {n₀ Bs : Nat} {A B C : World} (h : KB n₀ Bs A B) (k : KB n₀ Bs B C) : KB n₀ Bs A C := ⟨h.1.trans k.1, k.2.trans h.2⟩
theorem KB.put {n₀ Bs : Nat} {w : World} (hn : n₀ ≤ w.heap.size) (hB : Bs < w.heap.size) (W : World) (l : Nat) (o o' : Obj) (hl : w.heap.size ≤ l) (h : W.heap[l]? = some o) (h1 : o.isCells = false) (h2 : o.isWalk = false) : KB n₀ Bs W (W.putObj l o') :=
  ⟨belowK_b hn W l o o' hl h h1 h2, (belowK_b (n₀ := Bs + 1) (w := w) (by omega) W l o o' hl h h1 h2).block Bs (by omega)⟩

set_option maxRecDepth 100000 in
set_option maxHeartbeats 2000000 in
theorem back1_in (F : Fence) (n : Nat) (h43 : F.fn 43) (hro : F.round = none) (hn : 1 ≤ n) (l Bs n₀ cap : Nat) (ao : Option Addr) (L : List Rw) (hL : smallL L) (hlen : L.length ≤ 1048576) (J Jx : List Sx → World → Prop)
    (hY : ∀ pre x W, J pre W → pre.length < L.length → YieldAt F (n - 1) Tryd.prog l (encS x) W fun e W' =>
      (e = .returned (.bool true) ∧ J (pre ++ [x]) W' ∧ KB n₀ Bs W W') ∨ (e = .returned (.bool false) ∧ Jx (pre ++ [x]) W'))
    (W : World) (hBs : W.heap[Bs]? = some (.cells #[.slice ao L.length cap] 30 (0, 0))) (hc : IsL W (.slice ao L.length cap) L) (hn0 : ∀ b o, ao = some ⟨b, o, none⟩ → L.length ≠ 0 → b < n₀) (h0 : J [] W) :
    CallsIn F n Tryd.prog 43 #[.func (.yield l) #[] #[], .pointer (some ⟨Bs, 0, none⟩)] W fun e W' => (∃ v, e = .returned v) ∧
      ((∃ ys, ys = upto (nthB L hL) L.length ∧ J ys W') ∨ (∃ pre, (∃ k, k ≤ L.length ∧ pre = upto (nthB L hL) k) ∧ Jx pre W')) := by
  have hb0 : W.cell? ⟨Bs, 0, none⟩ = some (.slice ao L.length cap) := by simp [World.cell?, hBs]
  have HC := hide hc
  have hc' := hc
  obtain ⟨_, _, e, hcap, _, hcm, _⟩ := hc'
  cases e
  clear hc
  refine callsIn_of_wp Tryd.func43 rfl h43 ?_ hro
  simp only [Tryd.ntmps43, List.size_toArray, List.length_cons, List.length_nil, Nat.reduceAdd, Nat.reduceSub, Array.replicate_succ, Array.replicate_zero, List.push_toArray, List.append_toArray, List.nil_append, List.cons_append]
  gi_wp2
  gi_loopw [3] (fun i wr => ((∃ j : Nat, j < L.length ∧ i = .int .i64 j ∧ Hid (J (upto (nthB L hL) (L.length - 1 - j)) wr)) ∨ (i = .int .i64 (-1) ∧ Hid (J (upto (nthB L hL) L.length) wr))) ∧ KB n₀ Bs W wr)
    (fun i _ => (intOf i + 1).toNat)
  case atStart =>
    refine ⟨?_, KB.refl _ _ _⟩
    by_cases hz : L.length = 0
    · refine .inr ⟨by rw [hz]; rfl, ?_⟩
      show J _ _
      rw [hz]; exact h0
    · refine .inl ⟨L.length - 1, by omega, ?_, ?_⟩
      · congr 1; omega
      · show J _ _
        rw [Nat.sub_self]; exact h0
  case round =>
    obtain ⟨hrel, hk⟩ := hrel
    have hbr : wr.cell? ⟨Bs, 0, none⟩ = some (.slice ao L.length cap) := by simp [World.cell?, hk.2, hBs]
    rcases hrel with ⟨j, hj, rfl, HJ⟩ | ⟨rfl, HJ⟩
    · have hcr : IsL wr (.slice ao L.length cap) L := (HC.out).keep (Kp.ofBelowB hk.1 (S := fun k => n₀ ≤ k) (fun k h _ => h)) (fun k e h => by
        cases ao with
        | none => cases e
        | some a =>
          obtain ⟨b, o, _, ea, _⟩ := (HC.out).get (Below.refl _ _) hj
          have := hn0 b o ea (by omega)
          cases ea
          cases e
          have h' : n₀ ≤ b := h
          omega)
      obtain ⟨b, o, r, rfl, hr, q1, q2, q3, hbl⟩ := hcr.get (Below.refl _ _) hj
      obtain ⟨fn, tmps, assign, body, hy, hR⟩ := hY _ (nthB L hL (L.length - 1 - j)) wr HJ.out (by rw [upto_length]; omega)
      rw [nthB_at hL hr] at hy
      have hi1 : (0 : Int) ≤ (j : Int) := Int.natCast_nonneg _
      have hi2 : (j : Int) < (L.length : Int) := by omega
      have HR := hide hR
      have HRr := hide hr
      clear hr hR hcr
      gi_wp2
      refine (HR.out).mono ?_
      rintro e W3 (⟨rfl, hJ3, hk3⟩ | ⟨rfl, hJx3⟩)
      · have HJ3 := hide hJ3
        clear hJ3
        gi_wp2
        go_roundw
        case rel =>
          refine ⟨?_, hk.trans hk3⟩
          cases j with
          | zero =>
            refine .inr ⟨rfl, ?_⟩
            have := HJ3.out
            rw [← upto_succ] at this
            rwa [show L.length - 1 - 0 + 1 = L.length by omega] at this
          | succ j =>
            refine .inl ⟨j, by omega, by go_num, ?_⟩
            have := HJ3.out
            rw [← upto_succ] at this
            rwa [show L.length - 1 - (j + 1) + 1 = L.length - 1 - j by omega] at this
        case measure => simp [intOf]
      · gi_wp2
        refine bodyPost_ret (results_none rfl _ _ _) rfl ?_
        exact ⟨⟨_, rfl⟩, .inr ⟨_, ⟨L.length - 1 - j + 1, by omega, (upto_succ _ _).symm⟩, hJx3⟩⟩
    · gi_wp2
      go_end0
      exact ⟨⟨_, rfl⟩, .inl ⟨_, rfl, HJ.out⟩⟩
set_option maxHeartbeats 1000000 in
theorem back_any (a : Option Addr) (len cap : Nat) (w : World) :
    Calls Tryd.prog 29 #[.slice a len cap] w fun e w' => e = .returned (.func (.func 43) #[] #[.pointer (some ⟨w.heap.size, 0, none⟩)]) ∧ w' = w.alloc (.cells #[.slice a len cap] 30) := by
  go_enter Tryd.func29, Tryd.ntmps29
  go_wp2
  go_ret
  exact ⟨rfl, rfl⟩
theorem back_stops (F : Fence) (n : Nat) (h43 : F.fn 43) (hro : F.round = none) (hn : 1 ≤ n) (Bs n₀ cap : Nat) (ao : Option Addr) (L : List Rw) (hL : smallL L) (hlen : L.length ≤ 1048576) (w : World)
    (hBs : w.heap[Bs]? = some (.cells #[.slice ao L.length cap] 30 (0, 0))) (hc : IsL w (.slice ao L.length cap) L) (hn0 : ∀ b o, ao = some ⟨b, o, none⟩ → L.length ≠ 0 → b < n₀) :
    SeqStopsK F n Tryd.prog 43 #[.pointer (some ⟨Bs, 0, none⟩)] encS (KB n₀ Bs) (fun ys => ys = upto (nthB L hL) L.length) (fun pre => ∃ k, k ≤ L.length ∧ pre = upto (nthB L hL) k) L.length w := fun l J Jx W hW _ _ hY h0 =>
  back1_in F n h43 hro hn l Bs n₀ cap ao L hL hlen J Jx hY W ((hW.block Bs (heap_lt hBs)).trans hBs) (hc.below hW) hn0 h0
end Go.Proofs.YtopeagigdgjchaaDoor
