/- One edit for two: the walk. -/
import Derived.Test.YtobdfddpiobhhaaCd
import Derived.Test.YtobdfddpiobhhaaIa
namespace Go.Proofs.Ytobdfddpiobhhaa
open Go.RowKit
open EM
theorem IsW.newAt (B : Nat) (w : World) (hB : B ≤ w.heap.size) : IsW B (w.alloc (.cells #[.slice none 0 0, .int .i64 0, .bool false, .int .i64 0, .pointer none, .slice none 0 0] 56)) w.heap.size Wr.new (fun k => k = w.heap.size) := by
  refine ⟨⟨.slice none 0 0, .pointer none, .slice none 0 0, 0, heap_alloc_new w _, World.ownsRow_nil _ _ _ _, .inl ⟨rfl, rfl, rfl⟩, (fun _ _ h => by cases h), by omega, fun k hk => by simp [Value.ownBlock] at hk, fun k hk => by simp [Value.ownBlock] at hk⟩, rfl, fun k hk => ?_⟩
  subst hk
  simp
  exact hB
theorem IsC.base {B : Nat} {w : World} {c : Nat} {A : List St} {F : Nat → Prop} (h : IsC B w c A F) : B ≤ w.heap.size := Nat.le_trans (h.lt c h.f).1 (Nat.le_of_lt (h.lt c h.f).2)
/-- Two cursors and a writer, apart from one another. -/
structure M3 (B : Nat) (w wr : World) (c d b : Nat) (A D : List St) (W : Wr) (FA FD FW : Nat → Prop) : Prop where
  a : IsC B wr c A FA
  d : IsC B wr d D FD
  w_ : IsW B wr b W FW
  ad : ∀ k, FA k → ¬ FD k
  aw : ∀ k, FA k → ¬ FW k
  dw : ∀ k, FD k → ¬ FW k
  be : Below B w wr
theorem M3.onA {B : Nat} {w wr w1 : World} {c d b : Nat} {A D A' : List St} {W : Wr} {FA FD FW : Nat → Prop} (h : M3 B w wr c d b A D W FA FD FW) (h1 : IsC B w1 c A' (fun k => FA k ∨ (wr.heap.size ≤ k ∧ k < w1.heap.size))) (hK : Kp FA wr w1) :
    M3 B w w1 c d b A' D W (fun k => FA k ∨ (wr.heap.size ≤ k ∧ k < w1.heap.size)) FD FW := by
  refine ⟨h1, h.d.keep hK (fun k hk hh => h.ad k hh hk) (fun k hk => (h.a.lt k hk).1), h.w_.keep hK (fun k hk hh => h.aw k hh hk), fun k hk hh => ?_, fun k hk hh => ?_, h.dw, h.be.trans (hK.below h.a.base (fun k hk => (h.a.lt k hk).1))⟩
  · rcases hk with hk | hk
    · exact h.ad k hk hh
    · have := (h.d.lt k hh).2; omega
  · rcases hk with hk | hk
    · exact h.aw k hk hh
    · have := (h.w_.lt k hh).2; omega
theorem M3.onD {B : Nat} {w wr w1 : World} {c d b : Nat} {A D A' : List St} {W : Wr} {FA FD FW : Nat → Prop} (h : M3 B w wr c d b A D W FA FD FW) (h1 : IsC B w1 d A' (fun k => FD k ∨ (wr.heap.size ≤ k ∧ k < w1.heap.size))) (hK : Kp FD wr w1) :
    M3 B w w1 c d b A A' W FA (fun k => FD k ∨ (wr.heap.size ≤ k ∧ k < w1.heap.size)) FW := by
  refine ⟨h.a.keep hK (fun k hk hh => h.ad k hk hh) (fun k hk => (h.d.lt k hk).1), h1, h.w_.keep hK (fun k hk hh => h.dw k hh hk), fun k hk hh => ?_, h.aw, fun k hk hh => ?_, h.be.trans (hK.below h.a.base (fun k hk => (h.d.lt k hk).1))⟩
  · rcases hh with hh | hh
    · exact h.ad k hk hh
    · have := (h.a.lt k hk).2; omega
  · rcases hk with hk | hk
    · exact h.dw k hk hh
    · have := (h.w_.lt k hh).2; omega
theorem M3.onW {B : Nat} {w wr w1 : World} {c d b : Nat} {A D : List St} {W W' : Wr} {FA FD FW : Nat → Prop} (h : M3 B w wr c d b A D W FA FD FW) (h1 : IsW B w1 b W' (fun k => FW k ∨ (wr.heap.size ≤ k ∧ k < w1.heap.size))) (hK : Kp FW wr w1) :
    M3 B w w1 c d b A D W' FA FD (fun k => FW k ∨ (wr.heap.size ≤ k ∧ k < w1.heap.size)) := by
  refine ⟨h.a.keep hK (fun k hk hh => h.aw k hk hh) (fun k hk => (h.w_.lt k hk).1), h.d.keep hK (fun k hk hh => h.dw k hk hh) (fun k hk => (h.w_.lt k hk).1), h1, h.ad, fun k hk hh => ?_, fun k hk hh => ?_, h.be.trans (hK.below h.a.base (fun k hk => (h.w_.lt k hk).1))⟩
  · rcases hh with hh | hh
    · exact h.aw k hk hh
    · have := (h.a.lt k hk).2; omega
  · rcases hh with hh | hh
    · exact h.dw k hk hh
    · have := (h.d.lt k hk).2; omega
theorem M3.keep {B : Nat} {w wr w1 : World} {c d b : Nat} {A D : List St} {W : Wr} {FA FD FW : Nat → Prop} (h : M3 B w wr c d b A D W FA FD FW) (hb : Below wr.heap.size wr w1) : M3 B w w1 c d b A D W FA FD FW := by
  have hK : Kp (fun _ => False) wr w1 := Kp.ofBelow hb _
  exact ⟨h.a.keep hK (fun _ _ => id) (fun _ h => h.elim), h.d.keep hK (fun _ _ => id) (fun _ h => h.elim), h.w_.keep hK (fun _ _ => id), h.ad, h.aw, h.dw, h.be.trans (hb.mono h.a.base)⟩
theorem csum_left {A : List St} {n : Nat} (hf : fits A n) : csum (left A n) + (if A = [] then 0 else n) = csum A := by
  cases A with
  | nil => simp [left, csum]
  | cons s A =>
    simp only [left, fits] at hf ⊢
    split
    · rename_i h; simp [csum]; omega
    · simp [csum, tl_c]; omega
theorem csum_both {A D : List St} (pa : pos A) (pd : pos D) (h : ¬ (A = [] ∧ D = [])) : csum (left A (comm A D)) + csum (left D (comm A D)) + comm A D ≤ csum A + csum D ∧ 0 < comm A D := by
  obtain ⟨f1, f2⟩ := comm_fits A D
  have h1 := csum_left f1
  have h2 := csum_left f2
  refine ⟨?_, comm_pos A D pa pd h⟩
  by_cases hA : A = []
  · have hD : ¬ D = [] := fun e => h ⟨hA, e⟩
    rw [if_neg hD] at h2
    omega
  · rw [if_neg hA] at h1
    omega
theorem csum_mem {A : List St} {s : St} (h : s ∈ A) : s.c ≤ csum A := by
  induction A with
  | nil => cases h
  | cons t A ih =>
    have e : csum (t :: A) = t.c + csum A := by simp [csum]
    rcases List.mem_cons.1 h with rfl | h
    · omega
    · have := ih h; omega
theorem fol_c {p q : St} {n : Nat} (hp : p.c = n) (hq : q.c = n) : (fol p q).c ≤ n := by
  unfold fol
  split
  · omega
  · split
    · omega
    · simp [St.c]
theorem Wr.small_mono {W : Wr} {N M N' M' : Nat} (h : Wr.small W N M) (h1 : N ≤ N') (h2 : M ≤ M') : Wr.small W N' M' := ⟨Nat.le_trans h.1 h1, Nat.le_trans h.2.1 h1, Nat.le_trans h.2.2 h2⟩
/-- What holds at each round. -/
structure CI (B : Nat) (w wr : World) (c d b : Nat) (A D : List St) (W : Wr) (x T : By) (K : Nat) : Prop where
  m : ∃ FA FD FW, M3 B w wr c d b A D W FA FD FW
  sm : ∃ N, Wr.small W N N ∧ N + csum A + csum D ≤ K ∧ tot W.l + (Wr.txt W).length ≤ N
  iv : CInv x A D W T
theorem CI.next {B : Nat} {w wr w1 : World} {c d b : Nat} {A D A' D' : List St} {W : Wr} {x T : By} {K : Nat} {s : St} (h : CI B w wr c d b A D W x T K) (hm : ∃ FA FD FW, M3 B w w1 c d b A' D' (W.add s) FA FD FW)
    (n : Nat) (hn : 0 < n) (hs : s.c ≤ n) (hc : csum A' + csum D' + n ≤ csum A + csum D) (hv : CInv x A' D' (W.add s) T) : CI B w w1 c d b A' D' (W.add s) x T K := by
  obtain ⟨N, h1, h2, h3⟩ := h.sm
  have h4 := Wr.tot_add W s N h3
  exact ⟨hm, ⟨N + n, Wr.small_mono (Wr.small_add W s N N h1) (by omega) (by omega), by omega, by omega⟩, hv⟩
end Go.Proofs.Ytobdfddpiobhhaa
