/- Two hands: two cursors and two writers. -/
import Derived.Test.YtobdfddpiobhhaaCf
namespace Go.Proofs.Ytobdfddpiobhhaa
open Go.RowKit
open EM
/-- Two cursors and two writers, apart from one another. -/
structure M4 (B : Nat) (w wr : World) (c d b b' : Nat) (A D : List St) (U V : Wr) (FA FD FU FV : Nat → Prop) : Prop where
  m : M3 B w wr c d b A D U FA FD FU
  v : IsW B wr b' V FV
  av : ∀ k, FA k → ¬ FV k
  dv : ∀ k, FD k → ¬ FV k
  uv : ∀ k, FU k → ¬ FV k
section
variable {B : Nat} {w wr w1 : World} {c d b b' : Nat} {A D A' : List St} {U V W' : Wr} {FA FD FU FV : Nat → Prop}
theorem M4.base (h : M4 B w wr c d b b' A D U V FA FD FU FV) : B ≤ wr.heap.size := h.m.a.base
theorem M4.swap (h : M4 B w wr c d b b' A D U V FA FD FU FV) : M4 B w wr c d b' b A D V U FA FD FV FU :=
  ⟨⟨h.m.a, h.m.d, h.v, h.m.ad, h.av, h.dv, h.m.be⟩, h.m.w_, h.m.aw, h.m.dw, fun k h1 h2 => h.uv k h2 h1⟩
theorem M4.onA (h : M4 B w wr c d b b' A D U V FA FD FU FV) (h1 : IsC B w1 c A' (fun k => FA k ∨ (wr.heap.size ≤ k ∧ k < w1.heap.size))) (hK : Kp FA wr w1) :
    M4 B w w1 c d b b' A' D U V (fun k => FA k ∨ (wr.heap.size ≤ k ∧ k < w1.heap.size)) FD FU FV := by
  refine ⟨h.m.onA h1 hK, h.v.keep hK (fun k hk hh => h.av k hh hk), fun k hk hh => ?_, h.dv, h.uv⟩
  rcases hk with hk | hk
  · exact h.av k hk hh
  · have := (h.v.lt k hh).2; omega
theorem M4.onD (h : M4 B w wr c d b b' A D U V FA FD FU FV) (h1 : IsC B w1 d A' (fun k => FD k ∨ (wr.heap.size ≤ k ∧ k < w1.heap.size))) (hK : Kp FD wr w1) :
    M4 B w w1 c d b b' A A' U V FA (fun k => FD k ∨ (wr.heap.size ≤ k ∧ k < w1.heap.size)) FU FV := by
  refine ⟨h.m.onD h1 hK, h.v.keep hK (fun k hk hh => h.dv k hh hk), h.av, fun k hk hh => ?_, h.uv⟩
  rcases hk with hk | hk
  · exact h.dv k hk hh
  · have := (h.v.lt k hh).2; omega
theorem M4.onU (h : M4 B w wr c d b b' A D U V FA FD FU FV) (h1 : IsW B w1 b W' (fun k => FU k ∨ (wr.heap.size ≤ k ∧ k < w1.heap.size))) (hK : Kp FU wr w1) :
    M4 B w w1 c d b b' A D W' V FA FD (fun k => FU k ∨ (wr.heap.size ≤ k ∧ k < w1.heap.size)) FV := by
  refine ⟨h.m.onW h1 hK, h.v.keep hK (fun k hk hh => h.uv k hh hk), h.av, h.dv, fun k hk hh => ?_⟩
  rcases hk with hk | hk
  · exact h.uv k hk hh
  · have := (h.v.lt k hh).2; omega
theorem M4.keep (h : M4 B w wr c d b b' A D U V FA FD FU FV) (hb : Below wr.heap.size wr w1) : M4 B w w1 c d b b' A D U V FA FD FU FV :=
  ⟨h.m.keep hb, h.v.keep (Kp.ofBelow hb (fun _ => False)) (fun _ _ => id), h.av, h.dv, h.uv⟩
end
/-- A writer that has not much. -/
def Sm (W : Wr) (N : Nat) : Prop := Wr.small W N N ∧ tot W.l + (Wr.txt W).length ≤ N
theorem Sm.add {W : Wr} {N : Nat} (h : Sm W N) (s : St) (n : Nat) (hn : 0 < n) (hs : s.c ≤ n) : Sm (W.add s) (N + n) :=
  ⟨Wr.small_mono (Wr.small_add W s N N h.1) (by omega) (by omega), Nat.le_trans (Wr.tot_add W s N h.2) (by omega)⟩
theorem Sm.mono {W : Wr} {N N' : Nat} (h : Sm W N) (hN : N ≤ N') : Sm W N' := ⟨Wr.small_mono h.1 hN hN, Nat.le_trans h.2 hN⟩
theorem Sm.addIf {W : Wr} {N : Nat} (h : Sm W N) (o s : St) (n : Nat) (hn : 0 < n) (hs : s.c ≤ n) : Sm (W.addIf o s) (N + n) := by
  unfold Wr.addIf
  split
  · exact h.add s n hn hs
  · exact h.mono (by omega)
set_option maxRecDepth 100000 in
set_option maxHeartbeats 4000000 in
theorem putIn_any (B : Nat) (w wr : World) (c d b b' : Nat) (A D : List St) (U V : Wr) (FA FD FU FV : Nat → Prop) (s : St) (N : Nat) (h : M4 B w wr c d b b' A D U V FA FD FU FV) (hu : Sm U N) (hv : Sm V N) (hN : N + s.c ≤ 1099511627776) :
    Calls Try.prog 20 #[stV s, .pointer (some ⟨b, 0, none⟩), .pointer (some ⟨b', 0, none⟩)] wr fun e w' => e = .returned (.tuple #[]) ∧ ∃ FU' FV', M4 B w w' c d b b' A D (U.add s) (V.add (.stay s.c)) FA FD FU' FV' := by
  have H := hide (h.keep ((Below.refl _ wr).alloc (Nat.le_refl _) (.cells #[.int .i64 s.k, .int .i64 s.c, .string (ba s.s)] 43)))
  have HS := hide (show SB (wr.alloc (.cells #[.int .i64 s.k, .int .i64 s.c, .string (ba s.s)] 43)) wr.heap.size s from heap_alloc_new wr _)
  have HU := hide hu
  have HV := hide hv
  have HL := hide (show ¬ FU wr.heap.size from fun hf => by have := (h.m.w_.lt _ hf).2; omega)
  clear h hu hv
  unfold stV
  go_enter Try.func20, Try.ntmps20
  go_wp2_with fail
  refine (add_any B b _ U FU s N N (H.out).m.w_ (H.out).base (HU.out).1 hN (by omega)).mono ?_
  rintro e w1 ⟨rfl, h1, hk1⟩
  have HM1 := hide (((H.out).onU h1 hk1).swap)
  have S1 : SB w1 wr.heap.size s := hk1.heap HS.out HL.out
  obtain ⟨s0, s1, s2, sl⟩ := S1.cells
  clear h1 hk1 S1
  go_wp2_with fail
  refine (add_any B b' w1 V FV (.stay s.c) N N (HM1.out).m.w_ (HM1.out).base (HV.out).1 (show N + s.c ≤ 1099511627776 from hN) (by omega)).mono ?_
  rintro e w2 ⟨rfl, h2, hk2⟩
  have HM2 := hide (((HM1.out).onU h2 hk2).swap)
  clear h2 hk2
  go_wp2_with fail
  go_end0
  exact ⟨rfl, _, _, HM2.out⟩
end Go.Proofs.Ytobdfddpiobhhaa
