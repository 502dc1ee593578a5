/- The document's history in memory: what it tells, and what it makes. -/
import Derived.Test.YtopeagigdgjchaaDoorUe
import Derived.Deep.AppendLies
namespace Go.Proofs.YtopeagigdgjchaaDoor
open Go.RowKit
open EM

def zs (l : List Int) : List Value := l.map fun (n : Int) => Value.int .i64 n
def strs (l : List By) : List Value := l.map fun (t : By) => Value.string (ba t)
/-- Those that come from a state. -/
def nxsT (Fs : List Int) (a k : Nat) : List Nat := (List.range k).filter (fun i => decide (Fs[i]? = some (a : Int)))
def nxs (Fs : List Int) (a : Nat) : List Nat := nxsT Fs a Fs.length
theorem nxsT_yes {Fs : List Int} {a k : Nat} (h : Fs[k]? = some (a : Int)) : nxsT Fs a (k + 1) = nxsT Fs a k ++ [k] := by
  simp [nxsT, List.range_succ, List.filter_append, h]
theorem nxsT_no {Fs : List Int} {a k : Nat} (h : Fs[k]? ≠ some (a : Int)) : nxsT Fs a (k + 1) = nxsT Fs a k := by
  simp [nxsT, List.range_succ, List.filter_append, h]
theorem nxsT_len (Fs : List Int) (a k : Nat) : (nxsT Fs a k).length ≤ k := by
  have := List.length_filter_le (fun i => decide (Fs[i]? = some (a : Int))) (List.range k)
  simpa [nxsT] using this
def FpG (r : Nat) (vt vf : Value) (k : Nat) : Prop := k = r ∨ vt.ownBlock = some k ∨ vf.ownBlock = some k
/-- The document's history. -/
structure IsG (w : World) (B r : Nat) (vt vf : Value) (Ts : List By) (Fs : List Int) (a : Nat) : Prop where
  blk : w.heap[r]? = some (.cells #[vt, vf, .int .i64 (a : Int)] 29 (0, 0))
  tx : w.ownsRow B 9 1 vt Ts.length (strs Ts)
  fr : w.ownsRow B 3 1 vf Fs.length (zs Fs)
  len : Fs.length = Ts.length
  lt : a < Ts.length
  base : B ≤ r
theorem IsG.typed {w : World} {B r : Nat} {vt vf : Value} {Ts : List By} {Fs : List Int} {a : Nat} (G : IsG w B r vt vf Ts Fs a) {k : Nat} (hk : FpG r vt vf k) : ∃ cs t, w.heap[k]? = some (.cells cs t (0, 0)) ∧ (t = 29 ∨ t = 9 ∨ t = 3) ∧ B ≤ k := by
  rcases hk with rfl | hk | hk
  · exact ⟨_, _, G.blk, .inl rfl, G.base⟩
  · obtain ⟨cs, h1, h2⟩ := owns_block G.tx hk; exact ⟨cs, _, h1, .inr (.inl rfl), h2⟩
  · obtain ⟨cs, h1, h2⟩ := owns_block G.fr hk; exact ⟨cs, _, h1, .inr (.inr rfl), h2⟩
theorem IsG.rk {w w' : World} {B r : Nat} {vt vf : Value} {Ts : List By} {Fs : List Int} {a : Nat} (G : IsG w B r vt vf Ts Fs a) (K : Kp (FpG r vt vf) w w') : RK w w' := fun k cs t ht hk =>
  K.heap hk (fun hf => by
    obtain ⟨_, t', h1, h2, _⟩ := G.typed hf
    rw [hk] at h1
    cases h1
    rcases ht with rfl | rfl <;> rcases h2 with h | h | h <;> cases h)
theorem IsG.keep {w w' : World} {B r : Nat} {vt vf : Value} {Ts : List By} {Fs : List Int} {a : Nat} (G : IsG w B r vt vf Ts Fs a) {T : Nat → Prop} (K : Kp T w w') (hT : ∀ k, FpG r vt vf k → ¬ T k) : IsG w' B r vt vf Ts Fs a where
  blk := K.heap G.blk (hT r (.inl rfl))
  tx := K.owns G.tx (fun k e => hT k (.inr (.inl e)))
  fr := K.owns G.fr (fun k e => hT k (.inr (.inr e)))
  len := G.len
  lt := G.lt
  base := G.base
theorem IsG.below {w w' : World} {B r : Nat} {vt vf : Value} {Ts : List By} {Fs : List Int} {a : Nat} (G : IsG w B r vt vf Ts Fs a) (hb : Below w.heap.size w w') : IsG w' B r vt vf Ts Fs a :=
  G.keep (Kp.ofBelow hb (fun _ => False)) (fun _ _ => id)
theorem IsG.froze {w : World} {B r : Nat} {vt vf : Value} {Ts : List By} {Fs : List Int} {a : Nat} (G : IsG w B r vt vf Ts Fs a) :
    (w.cell? ⟨r, 0, none⟩ = some vt ∧ w.cell? ⟨r, 1, none⟩ = some vf ∧ w.cell? ⟨r, 2, none⟩ = some (.int .i64 (a : Int))) ∧ w.frozen? ⟨r, 0, none⟩ = false ∧ w.frozen? ⟨r, 1, none⟩ = false ∧ w.frozen? ⟨r, 2, none⟩ = false := by
  refine ⟨⟨?_, ?_, ?_⟩, ?_, ?_, ?_⟩ <;> simp [World.cell?, World.frozen?, G.blk]
theorem IsG.formF {w : World} {B r : Nat} {vt vf : Value} {Ts : List By} {Fs : List Int} {a : Nat} (G : IsG w B r vt vf Ts Fs a) : ∃ g cap, vf = .slice (some ⟨g, 0, none⟩) Fs.length cap ∧ Fs.length ≤ cap ∧ cap ≤ maxLen ∧ g < w.heap.size := by
  rcases owns_form G.fr with ⟨_, e⟩ | h
  · have := G.lt; have := G.len; omega
  · exact h
theorem IsG.formT {w : World} {B r : Nat} {vt vf : Value} {Ts : List By} {Fs : List Int} {a : Nat} (G : IsG w B r vt vf Ts Fs a) : ∃ g cap, vt = .slice (some ⟨g, 0, none⟩) Ts.length cap ∧ Ts.length ≤ cap ∧ cap ≤ maxLen ∧ g < w.heap.size := by
  rcases owns_form G.tx with ⟨_, e⟩ | h
  · have := G.lt; omega
  · exact h
theorem IsG.atF {w : World} {B r g n cap : Nat} {vt : Value} {Ts : List By} {Fs : List Int} {a : Nat} (G : IsG w B r vt (.slice (some ⟨g, 0, none⟩) n cap) Ts Fs a) {i : Nat} {x : Int} (hi : Fs[i]? = some x) : w.cell? ⟨g, i, none⟩ = some (.int .i64 x) := by
  have := G.fr.cells (g := g) rfl i (.int .i64 x) (by simp [zs, hi])
  rwa [add0] at this
theorem IsG.atT {w : World} {B r g n cap : Nat} {vf : Value} {Ts : List By} {Fs : List Int} {a : Nat} (G : IsG w B r (.slice (some ⟨g, 0, none⟩) n cap) vf Ts Fs a) {i : Nat} {x : By} (hi : Ts[i]? = some x) : w.cell? ⟨g, i, none⟩ = some (.string (ba x)) := by
  have := G.tx.cells (g := g) rfl i (.string (ba x)) (by simp [strs, hi])
  rwa [add0] at this
theorem ints_snoc (l : List Nat) (k : Nat) : ints (l ++ [k]) = ints l ++ [.int .i64 (k : Int)] := by simp [ints]
set_option maxRecDepth 100000 in
set_option maxHeartbeats 2000000 in
theorem refNext_any (w : World) (B r : Nat) (vt vf : Value) (Ts : List By) (Fs : List Int) (a : Nat) (G : IsG w B r vt vf Ts Fs a) (hl : Ts.length ≤ 1073741824) :
    Calls Tryd.prog 6 #[.pointer (some ⟨r, 0, none⟩)] w fun e w' => ∃ v', e = .returned v' ∧ w'.ownsRow w.heap.size 3 1 v' (nxs Fs a).length (ints (nxs Fs a)) ∧ Below w.heap.size w w' := by
  obtain ⟨i0, hi0, hz0, hz1, hz2⟩ := info_parts info3
  obtain ⟨g, cap, rfl, hc1, hc2, hg⟩ := G.formF
  have hlen := G.len
  have HG := hide G
  have hl' : Fs.length ≤ 1073741824 := by omega
  have HLE := hide hlen
  clear G hlen
  go_enter Tryd.func6, Tryd.ntmps6
  go_wp2_with fail
  go_loopw [3, 4] (fun v i wr => ∃ k : Nat, k ≤ Fs.length ∧ i = .int .i64 k ∧ Hid (wr.ownsRow w.heap.size 3 1 v (nxsT Fs a k).length (ints (nxsT Fs a k))) ∧ Below w.heap.size w wr) (fun _ i _ => Fs.length - (intOf i).toNat)
  case atStart => exact ⟨0, Nat.zero_le _, rfl, World.ownsRow_nil _ _ _ _, Below.refl _ _⟩
  case round =>
    obtain ⟨k, hk, rfl, HO, hB⟩ := hrel
    have Gr := (HG.out).below hB
    obtain ⟨⟨c0, c1, c2⟩, _⟩ := Gr.froze
    by_cases hlt : k < Fs.length
    · obtain ⟨x, hx⟩ : ∃ x, Fs[k]? = some x := ⟨_, List.getElem?_eq_getElem hlt⟩
      have cx := Gr.atF hx
      have z1 : (0 : Int) ≤ (k : Int) := by omega
      have z2 : (k : Int) < (Fs.length : Int) := by omega
      have hsz := hB.size
      clear Gr
      by_cases hxa : x = (a : Int)
      · have hb : (x == (a : Int)) = true := by simpa using hxa
        have HN := hide (nxsT_yes (a := a) (k := k) (by rw [hx, hxa]))
        have hln := nxsT_len Fs a k
        have hown := HO.out
        have HX := hide hx
        clear hx hxa HO
        go_wp2_with fail
        go_quiet (fail)
        have hown2 : (wr.drewN nq).ownsRow w.heap.size 3 1 u3 (nxsT Fs a k).length (ints (nxsT Fs a k)) := hown
        have hB2 : Below w.heap.size w (wr.drewN nq) := belowN hB nq
        have hz2' : (wr.drewN nq).heap.size = wr.heap.size := rfl
        obtain ⟨W, hW⟩ : ∃ W, wr.drewN nq = W := ⟨_, rfl⟩
        rw [hW] at hown2 hB2 hz2' ⊢
        have HO2 := hide hown2
        have hszW := hB2.size
        clear hW hown hown2 hz2' c0 c1 c2 cx
        go_wp2_with (at_builtin; refine wpList_append_lies _ rfl _ _ 27 rfl w.heap.size 3 i0 (.int .i64 0) 1 8 Tryd.underlying27 hi0 hz0 hz1 hz2 rfl (by decide) u3 (nxsT Fs a k).length (ints (nxsT Fs a k)) rfl ((HO2.out).alloc _) ⟨W.heap.size, 0, none⟩ 1 1 [.int .i64 (k : Int)] rfl rfl (World.news_of_block (cs := #[.int .i64 (k : Int)]) (heap_alloc_new W _)) (by simp [Value.oneCell']) (by omega) (by unfold maxLen; omega) (by omega) (by simp; omega) (W.heap.size + 1) (by simp) ?_; intro g1 cap1 w5 hown5 hgrow5 hat5 hlt5)
        refine ⟨⟨k + 1, by omega, by go_num, ?_, (hB2.alloc hszW _).grown hgrow5 (by simp; omega) (fun j hj => ((HO2.out).lt j hj).1)⟩, by simp [intOf]; omega⟩
        show w5.ownsRow _ _ _ _ _ _
        rw [HN.out, List.length_append, List.length_singleton, ints_snoc]
        exact hown5
      · have hb : (x == (a : Int)) = false := by simpa using hxa
        have HN := hide (nxsT_no (Fs := Fs) (a := a) (k := k) (by rw [hx]; intro e; exact hxa (Option.some.inj e)))
        have HX := hide hx
        clear hx hxa
        go_wp2_with fail
        go_quiet (fail)
        go_wp2_with fail
        refine ⟨⟨k + 1, by omega, by go_num, ?_, belowN hB _⟩, by simp [intOf]; omega⟩
        show World.ownsRow _ _ _ _ _ _ _
        rw [HN.out]
        exact HO.out
    · have hkl : k = Fs.length := by omega
      have HQ := hide (show wr.ownsRow w.heap.size 3 1 u3 (nxs Fs a).length (ints (nxs Fs a)) by have := HO.out; rw [hkl] at this; exact this)
      clear hkl Gr
      go_wp2_with fail
      go_ret
      exact ⟨_, rfl, HQ.out, hB⟩
theorem strs_snoc (l : List By) (t : By) : strs (l ++ [t]) = strs l ++ [.string (ba t)] := by simp [strs]
theorem zs_snoc (l : List Int) (k : Int) : zs (l ++ [k]) = zs l ++ [.int .i64 k] := by simp [zs]
theorem IsG.moved {w : World} {B r : Nat} {vt vf : Value} {Ts : List By} {Fs : List Int} {a : Nat} (G : IsG w B r vt vf Ts Fs a) {b : Nat} (hb : b < Ts.length) :
    IsG (w.setCell ⟨r, 2, none⟩ (.int .i64 (b : Int))) B r vt vf Ts Fs b ∧ Kp (FpG r vt vf) w (w.setCell ⟨r, 2, none⟩ (.int .i64 (b : Int))) := by
  have K1 : Kp (fun k => k = r) w (w.setCell ⟨r, 2, none⟩ (.int .i64 (b : Int))) := (Kp.refl (fun k => k = r) w).setCell (p := ⟨r, 2, none⟩) (fun _ => rfl) _
  have hne : ∀ {n : Nat} {e : TypeId} {size : Nat} {u : Value} {xs : List Value}, w.ownsRow B e size u n xs → e ≠ 29 → ∀ k, u.ownBlock = some k → ¬ (k = r) := by
    intro n e size u xs ho hne k hk e'
    obtain ⟨cs, h1, _⟩ := owns_block ho hk
    rw [e', G.blk] at h1
    cases h1
    exact hne rfl
  refine ⟨⟨?_, K1.owns G.tx (hne G.tx (by decide)), K1.owns G.fr (hne G.fr (by decide)), G.len, hb, G.base⟩, K1.mono (fun _ _ e => .inl e)⟩
  simp [World.setCell, Array.getElem?_modify, G.blk]
set_option maxHeartbeats 1000000 in
theorem refDo_no (w : World) (B r : Nat) (vt vf : Value) (Ts : List By) (Fs : List Int) (a : Nat) (t : By) (u : Value) (L : List Rw) (G : IsG w B r vt vf Ts Fs a) (ht : Ts[a]? = some t) (hu : IsL w u L) (hf : flt t.length L ≠ 0) :
    Calls Tryd.prog 9 #[.pointer (some ⟨r, 0, none⟩), u] w fun e w' => e = .returned (.int .i64 (flt t.length L)) ∧ Below w.heap.size w w' := by
  obtain ⟨g, cap, rfl, hc1, hc2, hg⟩ := G.formT
  obtain ⟨⟨c0, c1, c2⟩, _⟩ := G.froze
  have cx := G.atT ht
  have hlt := G.lt
  have hr := heap_lt G.blk
  have HU := hide hu
  have HF := hide hf
  have z1 : (0 : Int) ≤ (a : Int) := by omega
  have z2 : (a : Int) < (Ts.length : Int) := by omega
  have HSZ := hide (ba_size t)
  have hf1 : (flt ((ba t).size : Int) L == 0) = false := by rw [ba_size]; simpa using hf
  have HF1 := hide (show flt ((ba t).size : Int) L ≠ 0 by rw [ba_size]; exact hf)
  clear G ht hu hf
  have hu' := HU.out
  obtain ⟨ao, uc, rfl, _, _, _, _⟩ := hu'
  go_enter Tryd.func9, Tryd.ntmps9
  go_wp2_with fail
  go_region_held3 (fun w' => w'.cell? ⟨r, 0, none⟩ = some (.slice (some ⟨g, 0, none⟩) Ts.length cap) ∧ w'.cell? ⟨r, 2, none⟩ = some (.int .i64 (a : Int)) ∧ w'.cell? ⟨g, a, none⟩ = some (.string (ba t)))
    (first | go_keep | exact ⟨Rp.kc hb1 hr c0, Rp.kc hb1 hr c2, Rp.kc hb1 hg cx⟩)
    ((go_at_call 22; refine (refApply_no (ba t) (.slice ao L.length uc) L _ (by exact HU.out) HF1.out).mono ?_; rintro e w1 ⟨rfl, hb1⟩))
  all_goals
    go_wp2_with fail
    go_ret
    exact ⟨by rw [HSZ.out]; rfl, (Below.refl _ w).drew.trans hb1⟩
/-- The document's history, but for what its numbers are. -/
structure IsK (w : World) (B r : Nat) (vt vf : Value) (Ts : List By) (Fs : List Int) (a : Int) : Prop where
  blk : w.heap[r]? = some (.cells #[vt, vf, .int .i64 a] 29 (0, 0))
  tx : w.ownsRow B 9 1 vt Ts.length (strs Ts)
  fr : w.ownsRow B 3 1 vf Fs.length (zs Fs)
  base : B ≤ r
theorem IsG.core {w : World} {B r : Nat} {vt vf : Value} {Ts : List By} {Fs : List Int} {a : Nat} (G : IsG w B r vt vf Ts Fs a) : IsK w B r vt vf Ts Fs a := ⟨G.blk, G.tx, G.fr, G.base⟩
theorem IsK.keep {w w' : World} {B r : Nat} {vt vf : Value} {Ts : List By} {Fs : List Int} {a : Int} (G : IsK w B r vt vf Ts Fs a) {T : Nat → Prop} (K : Kp T w w') (hT : ∀ k, FpG r vt vf k → ¬ T k) : IsK w' B r vt vf Ts Fs a where
  blk := K.heap G.blk (hT r (.inl rfl))
  tx := K.owns G.tx (fun k e => hT k (.inr (.inl e)))
  fr := K.owns G.fr (fun k e => hT k (.inr (.inr e)))
  base := G.base
theorem IsK.below {w w' : World} {B r : Nat} {vt vf : Value} {Ts : List By} {Fs : List Int} {a : Int} (G : IsK w B r vt vf Ts Fs a) (hb : Below w.heap.size w w') : IsK w' B r vt vf Ts Fs a :=
  G.keep (Kp.ofBelow hb (fun _ => False)) (fun _ _ => id)
theorem IsK.froze {w : World} {B r : Nat} {vt vf : Value} {Ts : List By} {Fs : List Int} {a : Int} (G : IsK w B r vt vf Ts Fs a) :
    (w.cell? ⟨r, 0, none⟩ = some vt ∧ w.cell? ⟨r, 1, none⟩ = some vf ∧ w.cell? ⟨r, 2, none⟩ = some (.int .i64 a)) ∧ w.frozen? ⟨r, 0, none⟩ = false ∧ w.frozen? ⟨r, 1, none⟩ = false ∧ w.frozen? ⟨r, 2, none⟩ = false := by
  refine ⟨⟨?_, ?_, ?_⟩, ?_, ?_, ?_⟩ <;> simp [World.cell?, World.frozen?, G.blk]
theorem IsK.nr {w : World} {B r : Nat} {vt vf : Value} {Ts : List By} {Fs : List Int} {a : Int} (G : IsK w B r vt vf Ts Fs a) : vt.ownBlock ≠ some r ∧ vf.ownBlock ≠ some r ∧ ∀ k, vt.ownBlock = some k → vf.ownBlock ≠ some k := by
  refine ⟨fun e => ?_, fun e => ?_, fun k e1 e2 => ?_⟩
  · obtain ⟨cs, h1, _⟩ := owns_block G.tx e
    rw [G.blk] at h1; cases h1
  · obtain ⟨cs, h1, _⟩ := owns_block G.fr e
    rw [G.blk] at h1; cases h1
  · obtain ⟨cs, h1, _⟩ := owns_block G.tx e1
    obtain ⟨cs', h2, _⟩ := owns_block G.fr e2
    rw [h1] at h2; cases h2
/-- What is read behind an append to one of the two rows. -/
theorem IsK.spot {w w7 : World} {B r : Nat} {vt vf : Value} {Ts : List By} {Fs : List Int} {a : Int} (G : IsK w B r vt vf Ts Fs a) {row : Option Nat} (hgrow : w.grownBy w7 row) (hr : row ≠ some r) :
    (w7.cell? ⟨r, 0, none⟩ = some vt ∧ w7.cell? ⟨r, 1, none⟩ = some vf ∧ w7.cell? ⟨r, 2, none⟩ = some (.int .i64 a)) ∧ w7.frozen? ⟨r, 0, none⟩ = false ∧ w7.frozen? ⟨r, 1, none⟩ = false ∧ w7.frozen? ⟨r, 2, none⟩ = false := by
  have K7 : Kp (fun k => row = some k) w w7 := (Kp.refl _ w).grown hgrow (fun k e _ => e)
  have b7 := K7.heap G.blk hr
  refine ⟨⟨?_, ?_, ?_⟩, ?_, ?_, ?_⟩ <;> simp [World.cell?, World.frozen?, b7]
theorem IsK.addT {w w7 : World} {B r : Nat} {vt vf : Value} {Ts : List By} {Fs : List Int} {a : Int} (G : IsK w B r vt vf Ts Fs a) {t : By} {g2 n2 c2 : Nat}
    (hown : w7.ownsRow B 9 1 (.slice (some ⟨g2, 0, none⟩) n2 c2) (Ts.length + 1) (strs Ts ++ [.string (ba t)])) (hgrow : w.grownBy w7 vt.ownBlock) (hat : vt.ownBlock = some g2 ∨ w.heap.size ≤ g2) :
    IsK (w7.setCell ⟨r, 0, none⟩ (.slice (some ⟨g2, 0, none⟩) n2 c2)) B r (.slice (some ⟨g2, 0, none⟩) n2 c2) vf (Ts ++ [t]) Fs a ∧
    Kp (FpG r vt vf) w (w7.setCell ⟨r, 0, none⟩ (.slice (some ⟨g2, 0, none⟩) n2 c2)) ∧ ∀ k, FpG r (.slice (some ⟨g2, 0, none⟩) n2 c2) vf k → FpG r vt vf k ∨ w.heap.size ≤ k := by
  obtain ⟨n1, n2', n3⟩ := G.nr
  have K7 : Kp (fun k => vt.ownBlock = some k) w w7 := (Kp.refl _ w).grown hgrow (fun k e _ => e)
  have K8 : Kp (fun k => vt.ownBlock = some k ∨ k = r) w (w7.setCell ⟨r, 0, none⟩ (.slice (some ⟨g2, 0, none⟩) n2 c2)) := (K7.mono (fun _ _ e => .inl e)).setCell (p := ⟨r, 0, none⟩) (fun _ => .inr rfl) _
  have b7 := K7.heap G.blk n1
  have hg2r : g2 ≠ r := by
    intro e
    rcases hat with e' | e'
    · rw [e] at e'; exact n1 e'
    · have := heap_lt G.blk; omega
  refine ⟨⟨?_, ?_, ?_, G.base⟩, K8.mono (fun k _ e => ?_), fun k hk => ?_⟩
  · simp [World.setCell, Array.getElem?_modify, b7]
  · rw [List.length_append, List.length_singleton, strs_snoc]
    exact ownsRow_setCell_other hown (by intro e; cases e; exact hg2r rfl) _
  · refine K8.owns G.fr (fun k e hk => ?_)
    rcases hk with hk | hk
    · exact n3 k hk e
    · rw [hk] at e; exact n2' e
  · rcases e with e | e
    · exact .inr (.inl e)
    · exact .inl e
  · rcases hk with e | e | e
    · exact .inl (.inl e)
    · cases e
      rcases hat with e' | e'
      · exact .inl (.inr (.inl e'))
      · exact .inr e'
    · exact .inl (.inr (.inr e))
theorem IsK.addF {w w7 : World} {B r : Nat} {vt vf : Value} {Ts : List By} {Fs : List Int} {a : Int} (G : IsK w B r vt vf Ts Fs a) {x : Int} {g2 n2 c2 : Nat}
    (hown : w7.ownsRow B 3 1 (.slice (some ⟨g2, 0, none⟩) n2 c2) (Fs.length + 1) (zs Fs ++ [.int .i64 x])) (hgrow : w.grownBy w7 vf.ownBlock) (hat : vf.ownBlock = some g2 ∨ w.heap.size ≤ g2) :
    IsK (w7.setCell ⟨r, 1, none⟩ (.slice (some ⟨g2, 0, none⟩) n2 c2)) B r vt (.slice (some ⟨g2, 0, none⟩) n2 c2) Ts (Fs ++ [x]) a ∧
    Kp (FpG r vt vf) w (w7.setCell ⟨r, 1, none⟩ (.slice (some ⟨g2, 0, none⟩) n2 c2)) ∧ ∀ k, FpG r vt (.slice (some ⟨g2, 0, none⟩) n2 c2) k → FpG r vt vf k ∨ w.heap.size ≤ k := by
  obtain ⟨n1, n2', n3⟩ := G.nr
  have K7 : Kp (fun k => vf.ownBlock = some k) w w7 := (Kp.refl _ w).grown hgrow (fun k e _ => e)
  have K8 : Kp (fun k => vf.ownBlock = some k ∨ k = r) w (w7.setCell ⟨r, 1, none⟩ (.slice (some ⟨g2, 0, none⟩) n2 c2)) := (K7.mono (fun _ _ e => .inl e)).setCell (p := ⟨r, 1, none⟩) (fun _ => .inr rfl) _
  have b7 := K7.heap G.blk n2'
  have hg2r : g2 ≠ r := by
    intro e
    rcases hat with e' | e'
    · rw [e] at e'; exact n2' e'
    · have := heap_lt G.blk; omega
  refine ⟨⟨?_, ?_, ?_, G.base⟩, K8.mono (fun k _ e => ?_), fun k hk => ?_⟩
  · simp [World.setCell, Array.getElem?_modify, b7]
  · refine K8.owns G.tx (fun k e hk => ?_)
    rcases hk with hk | hk
    · exact n3 k e hk
    · rw [hk] at e; exact n1 e
  · rw [List.length_append, List.length_singleton, zs_snoc]
    exact ownsRow_setCell_other hown (by intro e; cases e; exact hg2r rfl) _
  · rcases e with e | e
    · exact .inr (.inr e)
    · exact .inl e
  · rcases hk with e | e | e
    · exact .inl (.inl e)
    · exact .inl (.inr (.inl e))
    · cases e
      rcases hat with e' | e'
      · exact .inl (.inr (.inr e'))
      · exact .inr e'
theorem IsK.moved {w : World} {B r : Nat} {vt vf : Value} {Ts : List By} {Fs : List Int} {a : Int} (G : IsK w B r vt vf Ts Fs a) (b : Int) :
    IsK (w.setCell ⟨r, 2, none⟩ (.int .i64 b)) B r vt vf Ts Fs b ∧ Kp (FpG r vt vf) w (w.setCell ⟨r, 2, none⟩ (.int .i64 b)) := by
  obtain ⟨n1, n2', n3⟩ := G.nr
  have K1 : Kp (fun k => k = r) w (w.setCell ⟨r, 2, none⟩ (.int .i64 b)) := (Kp.refl (fun k => k = r) w).setCell (p := ⟨r, 2, none⟩) (fun _ => rfl) _
  refine ⟨⟨?_, K1.owns G.tx (fun k e h => by rw [h] at e; exact n1 e), K1.owns G.fr (fun k e h => by rw [h] at e; exact n2' e), G.base⟩, K1.mono (fun _ _ e => .inl e)⟩
  simp [World.setCell, Array.getElem?_modify, G.blk]
set_option maxRecDepth 100000 in
set_option maxHeartbeats 4000000 in
theorem refDo_yes (w : World) (B r : Nat) (vt vf : Value) (Ts : List By) (Fs : List Int) (a : Nat) (t : By) (u : Value) (Ls : List Sp) (G : IsG w B r vt vf Ts Fs a) (ht : Ts[a]? = some t) (hu : IsL w u (Ls.map raw)) (hok : Ok 0 t.length Ls)
    (htl : t.length ≤ 1048576) (htt : tot Ls ≤ 1048576) (hTl : Ts.length ≤ 1073741824) (hBw : B ≤ w.heap.size) :
    Calls Tryd.prog 9 #[.pointer (some ⟨r, 0, none⟩), u] w fun e w' => e = .returned (.int .i64 0) ∧ ∃ vt' vf', IsG w' B r vt' vf' (Ts ++ [app t 0 Ls]) (Fs ++ [(a : Int)]) Ts.length ∧
      Kp (FpG r vt vf) w w' ∧ ∀ k, FpG r vt' vf' k → FpG r vt vf k ∨ w.heap.size ≤ k := by
  obtain ⟨i0, hi0, hz0, hz1, hz2⟩ := info_parts info3
  obtain ⟨j0, hj0, hy0, hy1, hy2⟩ := info_parts info9
  obtain ⟨g, cap, rfl, hc1, hc2, hg⟩ := G.formT
  obtain ⟨⟨c0, c1, c2⟩, f0, f1, f2⟩ := G.froze
  have cx := G.atT ht
  have hlt := G.lt
  have hr := heap_lt G.blk
  have HU := hide hu
  have HG := hide G
  have z1 : (0 : Int) ≤ (a : Int) := by omega
  have z2 : (a : Int) < (Ts.length : Int) := by omega
  have HSZ := hide (ba_size t)
  have HOK := hide (show Ok 0 (ba t).size Ls by rw [ba_size]; exact hok)
  have hbt : (ba t).size ≤ 1048576 := by rw [ba_size]; exact htl
  clear G ht hu hok
  have hu' := HU.out
  obtain ⟨L, hL⟩ : ∃ L, Ls.map raw = L := ⟨_, rfl⟩
  rw [hL] at hu'
  obtain ⟨ao, uc, rfl, _, _, _, _⟩ := hu'
  have HL := hide hL
  clear hL
  go_enter Tryd.func9, Tryd.ntmps9
  go_wp2_with fail
  go_region_held3 (fun w' => w'.cell? ⟨r, 0, none⟩ = some (.slice (some ⟨g, 0, none⟩) Ts.length cap) ∧ w'.cell? ⟨r, 2, none⟩ = some (.int .i64 (a : Int)) ∧ w'.cell? ⟨g, a, none⟩ = some (.string (ba t)))
    (first | go_keep | exact ⟨Rp.kc hb1 hr c0, Rp.kc hb1 hr c2, Rp.kc hb1 hg cx⟩)
    ((go_at_call 22; refine (refApply_yes (ba t) (.slice ao L.length uc) Ls _ (by exact HU.out) hbt (by omega) HOK.out).mono ?_; rintro e w1 ⟨rfl, hb1⟩))
  all_goals
    have B1 : Below w.heap.size w w1 := (Below.refl _ w).drew.trans hb1
    rw [bs_ba]
    obtain ⟨t2, ht2⟩ : ∃ t2, app t 0 Ls = t2 := ⟨_, rfl⟩
    rw [ht2]
    have HT2 := hide ht2
    have HG1 := hide ((HG.out).core.below B1)
    obtain ⟨⟨d0, d1, d2⟩, e0, e1, e2⟩ := (HG1.out).froze
    have hz := B1.size
    have hrow := hide (HG1.out).tx
    clear hb1 ht2 c0 c1 c2 f0 f1 f2 cx
    go_wp2_with (at_builtin; refine wpList_append_lies _ rfl _ _ 26 rfl B 9 j0 (.string .empty) 1 16 Tryd.underlying26 hj0 hy0 hy1 hy2 rfl (by decide) (.slice (some ⟨g, 0, none⟩) Ts.length cap) Ts.length (strs Ts) rfl ((hrow.out).alloc _) ⟨w1.heap.size, 0, none⟩ 1 1 [.string (ba t2)] rfl rfl (World.news_of_block (cs := #[.string (ba t2)]) (heap_alloc_new w1 _)) (by simp [Value.oneCell']) (by omega) (by unfold maxLen; omega) (by omega) (by simp; omega) (w1.heap.size + 1) (by simp) ?_)
    intro g1 cap1 w5 hown5 hgrow5 hat5 hlt5
    have BA : Below w1.heap.size w1 (w1.alloc (.cells #[.string (ba t2)] 9)) := (Below.refl _ w1).alloc (Nat.le_refl _) _
    have KA := (HG1.out).below BA
    obtain ⟨⟨m0, m1, m2⟩, m3, m4, m5⟩ := KA.spot hgrow5 KA.nr.1
    have HN := hide (KA.addT hown5 hgrow5 (by rcases hat5 with e | e; exact .inl e; exact .inr (by simp; omega)))
    have KPA : Kp (FpG r (.slice (some ⟨g, 0, none⟩) Ts.length cap) vf) w (w1.alloc (.cells #[.string (ba t2)] 9)) := Kp.ofBelow (B1.trans (BA.mono B1.size)) _
    have HKA := hide KPA
    clear KA KPA hown5 hgrow5 hat5 d0 d1 d2 e0 e1 e2
    go_wp2_with fail
    obtain ⟨w6, hw6⟩ : ∃ w6, w5.setCell ⟨r, 0, none⟩ (.slice (some ⟨g1, 0, none⟩) (Ts.length + 1) cap1) = w6 := ⟨_, rfl⟩
    rw [hw6] at HN ⊢
    have C6 := (HN.out).1
    obtain ⟨⟨c0, c1, c2⟩, f0, f1, f2⟩ := C6.froze
    have HC6 := hide C6
    have HO6 := hide C6.fr
    have hr6 : r < w6.heap.size := heap_lt C6.blk
    have hz6 : w1.heap.size + 1 ≤ w6.heap.size := by have := (HN.out).2.1.size; simpa using this
    have hlf := (HG.out).len
    have hlf' : Fs.length ≤ 1073741824 := by omega
    have hB6 : B ≤ w6.heap.size := by omega
    have HLF := hide hlf
    obtain ⟨gf, capf, hvf, _, _, _⟩ := (HG.out).formF
    have HVF := hide hvf
    have hnf : vf.ownBlock ≠ some r := C6.nr.2.1
    have HNF := hide hnf
    clear hw6 m0 m1 m2 m3 m4 m5 C6 hlf hvf hnf
    go_region_law (refine step_append_lies _ (by rfl) _ _ _ (by rfl) B 3 i0 _ 1 8 Tryd.underlying27 hi0 hz0 hz1 hz2 rfl (by omega) vf Fs.length (zs Fs) (by rfl) ((HO6.out).alloc _) ⟨w6.heap.size, 0, none⟩ 1 1 [.int .i64 (a : Int)] (by rfl) (by rfl) (World.news_of_block (cs := #[.int .i64 (a : Int)]) (t := 3) (fr := (0, 0)) (heap_alloc_new w6 _)) (by simp [Value.oneCell']) (by omega) (by unfold maxLen; omega) (by omega) (by simp; omega) (w6.heap.size + 1) (by simp) ?_; intro g2 cap2 w7 hown7 hgrow7 hat7 hlt7; obtain ⟨⟨m0, m1, m2⟩, m3, m4, m5⟩ := IsK.spot ((HC6.out).below (by first | exact ((Below.refl _ _).alloc (Nat.le_refl _) _).drew | exact ((Below.refl _ _).drew.alloc (Nat.le_refl _) _) | exact (Below.refl _ _).alloc (Nat.le_refl _) _)) hgrow7 HNF.out)
    all_goals
      obtain ⟨W, BW, hgW, hzW⟩ : ∃ W, Below w6.heap.size w6 W ∧ W.grownBy w7 vf.ownBlock ∧ W.heap.size = w6.heap.size + 1 := ⟨_, by first | exact ((Below.refl _ _).alloc (Nat.le_refl _) _).drew | exact ((Below.refl _ _).drew.alloc (Nat.le_refl _) _) | exact (Below.refl _ _).alloc (Nat.le_refl _) _, hgrow7, by simp [World.drew]⟩
      have HSt := hide (((HC6.out).below BW).addF hown7 hgW (by rcases hat7 with e | e; exact .inl e; exact .inr (by omega)))
      have HZW := hide hzW
      clear hown7 hgrow7 hat7 hgW hzW
      go_wp2_with fail
      go_ret
      obtain ⟨C8, K8, F8⟩ := HSt.out
      obtain ⟨C9, K9⟩ := C8.moved (Ts.length : Int)
      obtain ⟨_, K6, F6⟩ := HN.out
      have KA := HKA.out
      have sz4 := KA.size
      have sz6 := K6.size
      have szW := BW.size
      have FF : ∀ k, FpG r (.slice (some ⟨g1, 0, none⟩) (Ts.length + 1) cap1) (.slice (some ⟨g2, 0, none⟩) (Fs.length + 1) cap2) k → FpG r (.slice (some ⟨g, 0, none⟩) Ts.length cap) vf k ∨ w.heap.size ≤ k := by
        intro k hk
        rcases F8 k hk with hk | hk
        · rcases F6 k hk with hk | hk
          · exact .inl hk
          · exact .inr (by omega)
        · exact .inr (by omega)
      have KK : Kp (FpG r (.slice (some ⟨g, 0, none⟩) Ts.length cap) vf) w W := (KA.trans K6 (fun _ _ h => h)).trans (Kp.ofBelow BW (fun _ => False)) (fun _ _ h => h.elim)
      have K8' := KK.trans K8 (fun k hk h1 => by
        rcases F6 k h1 with h2 | h2
        · exact h2
        · omega)
      have K9' := K8'.trans K9 (fun k hk h1 => by
        rcases FF k h1 with h2 | h2
        · exact h2
        · omega)
      have hlf := HLF.out
      refine ⟨rfl, .slice (some ⟨g1, 0, none⟩) (Ts.length + 1) cap1, .slice (some ⟨g2, 0, none⟩) (Fs.length + 1) cap2, ?_, K9', FF⟩
      rw [HT2.out]
      exact ⟨C9.blk, C9.tx, C9.fr, by simp [hlf], by simp, C9.base⟩
end Go.Proofs.YtopeagigdgjchaaDoor
