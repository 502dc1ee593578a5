/- An edit is undone. -/
import Derived.Test.YtobdfddpiobhhaaPb
import Derived.Test.YtobdfddpiobhhaaHa
namespace Go.Proofs.Ytobdfddpiobhhaa
open Go.RowKit
open EM
theorem ba_slice (s : ByteArray) (a b : Nat) : s.extract a b = ba (((bs s).take b).drop a) := bs_inj (by rw [bs_cut, bs_ba])
theorem mk_spans (n : Nat) (hn : n ≤ 1099511627776) (W : World) : ∃ A : Array Value, A.size = n * 3 ∧ (Instr.makeSlice 22 (.int .i64 0) (.int .i64 n)).run Try.prog W = .ok (.slice (some ⟨W.heap.size, 0, none⟩) 0 n) (W.alloc (.cells A 32)) := by
  obtain ⟨i, hi, z0, z1, z2⟩ := info_parts info32
  refine ⟨madeCells (Value.agg #[.int .i64 0, .int .i64 0, .string .empty]).cells (n * i.size), by rw [size_madeCells, z1], ?_⟩
  have := run_make (P := Try.prog) W 22 32 i _ Try.underlying22 hi z0 .i64 .i64 0 n (by omega) (by omega) (by rw [z2]; omega) (by omega)
  simpa using this
theorem owns_base {w : World} {base base' : Nat} {e : TypeId} {size : Nat} {v : Value} {n : Nat} {xs : List Value} (h : w.ownsRow base e size v n xs) (hb : base' ≤ base) : w.ownsRow base' e size v n xs := by
  refine ⟨h.1, ?_⟩
  rcases h.2 with h | ⟨g, cap, cur, e1, e2, r⟩
  · exact .inl h
  · exact .inr ⟨g, cap, cur, e1, Nat.le_trans hb e2, r⟩
theorem tot_inv (x : By) (a q n : Nat) (L : List Sp) (h : Ok a n L) : tot (inv x a q L) ≤ n - a := by
  induction L generalizing a q with
  | nil => simp [inv, tot]
  | cons c L ih =>
    have h1 := ih c.t (q + (c.f - a) + c.s.length) h.2.2
    have h2 := h.1
    have h3 := h.2.1
    have h4 := h.2.2.le
    have e : tot (inv x a q (c :: L)) = (((x.take c.t).drop c.f).length) + tot (inv x c.t (q + (c.f - a) + c.s.length) L) := by simp [inv, tot]
    rw [e, List.length_drop, List.length_take]
    omega
end Go.Proofs.Ytobdfddpiobhhaa
