/- Steps of a history that come in, and what both sides keep. -/
import Derived.Test.YtopeagigdgjchaaDoorUg
namespace Go.Proofs.YtopeagigdgjchaaDoor
open Go.RowKit
open EM

/-- A step: what is asked, a number, spans. -/
structure Stp where
  op : Int
  n : Int
  v : Value
  L : List Rw
/-- A slice of steps that can be read. -/
def IsQ (w : World) (u : Value) (Q : List Stp) : Prop :=
  ∃ ao cap, u = .slice ao Q.length cap ∧ Q.length ≤ cap ∧ cap ≤ maxLen ∧ ∀ (i : Nat) (x : Stp), Q[i]? = some x → IsL w x.v x.L ∧ ∃ b o, ao = some ⟨b, o, none⟩ ∧ b < w.heap.size ∧
    w.cell? ⟨b, o + i * 3, none⟩ = some (.int .i64 x.op) ∧ w.cell? ⟨b, o + i * 3 + 1, none⟩ = some (.int .i64 x.n) ∧ w.cell? ⟨b, o + i * 3 + 2, none⟩ = some x.v
def wt (Q : List Stp) : Nat := (Q.map fun x => x.L.length + totR x.L).sum
theorem wt_take {Q : List Stp} {i : Nat} {x : Stp} (h : Q[i]? = some x) : wt (Q.take (i + 1)) = wt (Q.take i) + (x.L.length + totR x.L) := by
  rw [List.take_add_one, h]
  simp [wt]
theorem wt_le (Q : List Stp) (i : Nat) : wt (Q.take i) ≤ wt Q := by
  have h := List.take_append_drop i Q
  have : wt (Q.take i ++ Q.drop i) = wt (Q.take i) + wt (Q.drop i) := by unfold wt; rw [List.map_append, List.sum_append]
  rw [h] at this
  omega
/-- Both sides. -/
structure Two (w : World) (h r : Nat) (v : Value) (S : List Sta) (vt vf : Value) (Ts : List By) (Fs : List Int) (a : Nat) (W : World) : Prop where
  H : IsH W w.heap.size h v S a
  G : IsG W w.heap.size r vt vf Ts Fs a
  R : Rel S Ts Fs
  ap : ∀ k, FpH h v S k → ¬ FpG r vt vf k
  bl : Below w.heap.size w W
theorem Two.below {w : World} {h r : Nat} {v : Value} {S : List Sta} {vt vf : Value} {Ts : List By} {Fs : List Int} {a : Nat} {W W' : World} (T : Two w h r v S vt vf Ts Fs a W) (hb : Below W.heap.size W W') : Two w h r v S vt vf Ts Fs a W' :=
  ⟨T.H.below hb, T.G.below hb, T.R, T.ap, T.bl.trans (hb.mono T.bl.size)⟩
/-- What turns one new block turns neither. -/
theorem Two.store {w : World} {h r : Nat} {v : Value} {S : List Sta} {vt vf : Value} {Ts : List By} {Fs : List Int} {a : Nat} {W0 W : World} (T0 : Two w h r v S vt vf Ts Fs a W0) (T : Two w h r v S vt vf Ts Fs a W) {g j : Nat} {u : Value} (hg : W0.heap.size ≤ g) {cs : Array Value} (hc : W.heap[g]? = some (.cells cs 3 (0, 0))) :
    Two w h r v S vt vf Ts Fs a (W.setCell ⟨g, j, none⟩ u) := by
  have K : Kp (fun k => k = g) W (W.setCell ⟨g, j, none⟩ u) := (Kp.refl (fun k => k = g) W).setCell (p := ⟨g, j, none⟩) (fun _ => rfl) _
  have hR : RK W (W.setCell ⟨g, j, none⟩ u) := fun k cs' t ht hk => K.heap hk (fun e => by
    have e' : k = g := e
    rw [e', hc] at hk
    cases hk
    rcases ht with h | h <;> cases h)
  have h1 : ∀ k, FpH h v S k → ¬ (k = g) := fun k hk e => by have := T0.H.fp_lt hk; omega
  have h2 : ∀ k, FpG r vt vf k → ¬ (k = g) := fun k hk e => by
    obtain ⟨_, _, h3, _⟩ := T0.G.typed hk
    have := heap_lt h3; omega
  have hs := T0.bl.size
  exact ⟨T.H.keep K h1 hR, T.G.keep K h2, T.R, T.ap, T.bl.setCell (p := ⟨g, j, none⟩) (by show w.heap.size ≤ g; omega) _⟩
/-- The first side has gone on, the second not yet. -/
theorem Two.first {w : World} {h r : Nat} {v : Value} {S : List Sta} {vt vf : Value} {Ts : List By} {Fs : List Int} {a : Nat} {W W' : World} (T : Two w h r v S vt vf Ts Fs a W) (K : Kp (FpH h v S) W W') : IsG W' w.heap.size r vt vf Ts Fs a ∧ Below w.heap.size w W' :=
  ⟨T.G.keep K (fun k hk hf => T.ap k hf hk), T.bl.trans (T.H.keepsB K T.bl.size)⟩
theorem IsG.keepsB {w w' : World} {B r : Nat} {vt vf : Value} {Ts : List By} {Fs : List Int} {a : Nat} (G : IsG w B r vt vf Ts Fs a) (K : Kp (FpG r vt vf) w w') (hB : B ≤ w.heap.size) : Below B w w' :=
  K.below hB (fun k hk => by obtain ⟨_, _, _, _, h⟩ := G.typed hk; exact h)
/-- The second side goes on. -/
theorem Two.second {w : World} {h r : Nat} {v v' : Value} {S S' : List Sta} {vt vf vt' vf' : Value} {Ts Ts' : List By} {Fs Fs' : List Int} {a a' : Nat} {W W1 W2 : World} (T : Two w h r v S vt vf Ts Fs a W)
    (H1 : IsH W1 w.heap.size h v' S' a') (F1 : ∀ k, FpH h v' S' k → FpH h v S k ∨ W.heap.size ≤ k) (G1 : IsG W1 w.heap.size r vt vf Ts Fs a) (b1 : Below w.heap.size w W1)
    (G2 : IsG W2 w.heap.size r vt' vf' Ts' Fs' a') (K2 : Kp (FpG r vt vf) W1 W2) (F2 : ∀ k, FpG r vt' vf' k → FpG r vt vf k ∨ W1.heap.size ≤ k) (R : Rel S' Ts' Fs') : Two w h r v' S' vt' vf' Ts' Fs' a' W2 := by
  have ap1 : ∀ k, FpH h v' S' k → ¬ FpG r vt vf k := fun k hk hg => by
    rcases F1 k hk with h1 | h1
    · exact T.ap k h1 hg
    · obtain ⟨_, _, h3, _⟩ := T.G.typed hg
      have := heap_lt h3; omega
  refine ⟨H1.keep K2 ap1 (G1.rk K2), G2, R, fun k hk hg => ?_, b1.trans (G1.keepsB K2 b1.size)⟩
  rcases F2 k hg with h1 | h1
  · exact ap1 k hk h1
  · have := H1.fp_lt hk; omega
/-- What the rounds keep. -/
def Inv (w : World) (n0 : Nat) (Q : List Stp) (h r i : Nat) (W : World) : Prop :=
  ∃ v S vt vf Ts Fs a, Two w h r v S vt vf Ts Fs a W ∧ S.length ≤ i + 1 ∧ ∀ s ∈ S, s.l.length ≤ n0 + wt (Q.take i)
theorem Inv.same {w : World} {n0 : Nat} {Q : List Stp} {h r k : Nat} {v : Value} {S : List Sta} {vt vf : Value} {Ts : List By} {Fs : List Int} {a : Nat} {W : World} {x : Stp} (T : Two w h r v S vt vf Ts Fs a W) (hSl : S.length ≤ k + 1) (hSt : ∀ s ∈ S, s.l.length ≤ n0 + wt (Q.take k)) (hx : Q[k]? = some x) : Inv w n0 Q h r (k + 1) W :=
  ⟨v, S, vt, vf, Ts, Fs, a, T, by omega, fun s hs => by have := hSt s hs; rw [wt_take hx]; omega⟩
theorem Inv.more {w : World} {n0 : Nat} {Q : List Stp} {h r k : Nat} {v v3 : Value} {S : List Sta} {vt vf vt5 vf5 : Value} {Ts : List By} {Fs : List Int} {a : Nat} {W W3 W4 W5 : World} {x : Stp} {sa : Sta} {u : Value} {q : Nat} {Ls : List Sp}
    (T : Two w h r v S vt vf Ts Fs a W) (hSl : S.length ≤ k + 1) (hSt : ∀ s ∈ S, s.l.length ≤ n0 + wt (Q.take k)) (hx : Q[k]? = some x) (hsa : S[a]? = some sa) (hok : Ok 0 sa.l.length Ls) (htt : totR x.L = tot Ls)
    (H3 : IsH W3 w.heap.size h v3 (S.set a { sa with v := u, nx := sa.nx ++ [S.length] } ++ [⟨q, app sa.l 0 Ls, a, .slice none 0 0, []⟩]) S.length)
    (F3 : ∀ k, FpH h v3 (S.set a { sa with v := u, nx := sa.nx ++ [S.length] } ++ [⟨q, app sa.l 0 Ls, a, .slice none 0 0, []⟩]) k → FpH h v S k ∨ W.heap.size ≤ k) (hb4 : Below W3.heap.size W3 W4)
    (G4 : IsG W4 w.heap.size r vt vf Ts Fs a) (B4 : Below w.heap.size w W4) (G5 : IsG W5 w.heap.size r vt5 vf5 (Ts ++ [app sa.l 0 Ls]) (Fs ++ [(a : Int)]) Ts.length) (K5 : Kp (FpG r vt vf) W4 W5) (F5 : ∀ k, FpG r vt5 vf5 k → FpG r vt vf k ∨ W4.heap.size ≤ k) :
    Inv w n0 Q h r (k + 1) W5 := by
  rw [T.R.len] at G5
  refine ⟨v3, _, vt5, vf5, _, _, S.length, T.second (H3.below hb4) F3 G4 B4 G5 K5 F5 (T.R.more hsa u q _), by simp; omega, fun s hs => ?_⟩
  rw [wt_take hx]
  have h1 := hSt sa (List.mem_of_getElem? hsa)
  rcases List.mem_append.1 hs with hs | hs
  · rcases List.mem_or_eq_of_mem_set hs with hs | rfl
    · have := hSt s hs; omega
    · show sa.l.length ≤ _; omega
  · obtain rfl := List.mem_singleton.1 hs
    have := app_len sa.l 0 Ls hok
    show (app sa.l 0 Ls).length ≤ _
    omega
theorem ownsRow_below_own {w w' : World} {B : Nat} {e : TypeId} {size : Nat} {v : Value} {n : Nat} {xs : List Value} (h : w.ownsRow B e size v n xs) (hb : Below w.heap.size w w') : w'.ownsRow B e size v n xs :=
  (Kp.ofBelow hb (fun _ => False)).owns h (fun _ _ => id)
theorem errT_belowB {w w' : World} {B : Nat} (h : ErrT w) (hb : Below B w w') (hB : 0 < B) : ErrT w' :=
  ⟨(hb.cell (p := ⟨0, 0, none⟩) hB).trans h.1, Nat.lt_of_lt_of_le h.2 hb.size⟩
theorem start_inv (s : ByteArray) (Q : List Stp) (w w1 : World) (h r0 : Nat) (v : Value) (H1 : IsH w1 w.heap.size h v [⟨r0, bs s, 0, .slice none 0 0, []⟩] 0) (hb1 : Below w.heap.size w w1) :
    Inv w s.size Q h (w1.heap.size + 1 + 1) 0 (((w1.alloc (.cells #[.string s] 9)).alloc (.cells #[.int .i64 (-1)] 3)).alloc (.cells #[.slice (some ⟨w1.heap.size, 0, none⟩) 1 1, .slice (some ⟨w1.heap.size + 1, 0, none⟩) 1 1, .int .i64 0] 29)) := by
  have hA : Below w1.heap.size w1 (((w1.alloc (.cells #[.string s] 9)).alloc (.cells #[.int .i64 (-1)] 3)).alloc (.cells #[.slice (some ⟨w1.heap.size, 0, none⟩) 1 1, .slice (some ⟨w1.heap.size + 1, 0, none⟩) 1 1, .int .i64 0] 29)) := (((Below.refl _ w1).alloc (Nat.le_refl _) _).alloc (by simp) _).alloc (by simp; omega) _
  have b3 := heap_alloc_new ((w1.alloc (.cells #[.string s] 9)).alloc (.cells #[.int .i64 (-1)] 3)) (.cells #[.slice (some ⟨w1.heap.size, 0, none⟩) 1 1, .slice (some ⟨w1.heap.size + 1, 0, none⟩) 1 1, .int .i64 0] 29)
  have b2' : ((w1.alloc (.cells #[.string s] 9)).alloc (.cells #[.int .i64 (-1)] 3)).heap[w1.heap.size + 1]? = some (.cells #[.int .i64 (-1)] 3 (0, 0)) := by
    have := heap_alloc_new (w1.alloc (.cells #[.string s] 9)) (.cells #[.int .i64 (-1)] 3)
    rwa [World.size_alloc] at this
  have b2 := (Below.heap_alloc ((w1.alloc (.cells #[.string s] 9)).alloc (.cells #[.int .i64 (-1)] 3)) (.cells #[.slice (some ⟨w1.heap.size, 0, none⟩) 1 1, .slice (some ⟨w1.heap.size + 1, 0, none⟩) 1 1, .int .i64 0] 29) (w1.heap.size + 1) (by simp)).trans b2'
  have b1 := (Below.heap_alloc ((w1.alloc (.cells #[.string s] 9)).alloc (.cells #[.int .i64 (-1)] 3)) (.cells #[.slice (some ⟨w1.heap.size, 0, none⟩) 1 1, .slice (some ⟨w1.heap.size + 1, 0, none⟩) 1 1, .int .i64 0] 29) w1.heap.size (by simp; omega)).trans ((Below.heap_alloc (w1.alloc (.cells #[.string s] 9)) (.cells #[.int .i64 (-1)] 3) w1.heap.size (by simp)).trans (heap_alloc_new w1 (.cells #[.string s] 9)))
  rw [World.size_alloc, World.size_alloc] at b3
  have hz := hb1.size
  have hls := bs_len s
  refine ⟨v, _, .slice (some ⟨w1.heap.size, 0, none⟩) 1 1, .slice (some ⟨w1.heap.size + 1, 0, none⟩) 1 1, [bs s], [-1], 0, ⟨H1.below hA, ⟨b3, ⟨by simp [strs], .inr ⟨_, _, _, rfl, hz, b1, by simp, by unfold maxLen; omega, by simp, ?_⟩⟩, ⟨by simp [zs], .inr ⟨_, _, _, rfl, by omega, b2, by simp, by unfold maxLen; omega, by simp, by simp [zs]⟩⟩, rfl, by simp, by omega⟩, Rel.one _ _, ?_, hb1.trans (hA.mono hz)⟩, by simp, ?_⟩
  · simp [strs, ba_bs]
  · intro k hk hg
    have := H1.fp_lt hk
    rcases hg with e | e | e
    · omega
    · have e' : w1.heap.size = k := Option.some.inj e
      omega
    · have e' : w1.heap.size + 1 = k := Option.some.inj e
      omega
  · intro t ht
    obtain rfl := List.mem_singleton.1 ht
    show (bs s).length ≤ _
    omega
end Go.Proofs.YtopeagigdgjchaaDoor
