/- A Builder that is a field of a writer: it is written, read and emptied. -/
import Derived.Test.YtobdfddpiobhhaaGb
import Derived.Shelf.Strings.Builder1
namespace Go.Proofs.Ytobdfddpiobhhaa
open Go.RowKit
open EM

/-- Where the new row lies: the old block, or a new one. -/
theorem append_str_at (w : World) (base : Nat) (t u ty e : TypeId) (i : TypeInfo) (ht : Try.prog.underlying t = some (.slice e)) (hu : Try.prog.underlying u = some .string) (hi : Try.prog.info? e = some i) (hz : i.zero = some (.int .u8 0))
    (hsize : i.size = 1) (hby : i.bytes = 1) (v : Value) (n : Nat) (xs : List Value) (hown : w.ownsRow base e 1 v n xs) (s : ByteArray) (h0 : 0 < s.size)
    (hbytes : n + s.size ≤ 140737488355328) (hbase : base ≤ w.heap.size) :
    ∃ v' w', (Builtin.append_ #[t, u] ty #[v, .string s]).run Try.prog w = .ok v' w' ∧ w'.ownsRow base e 1 v' (n + s.size) (xs ++ Lib.strCells s) ∧ w.grownBy w' v.ownBlock ∧ (∃ g cap, v' = .slice (some ⟨g, 0, none⟩) (n + s.size) cap ∧ (v.ownBlock = some g ∨ g = w.heap.size)) := by
  have h63 : n + s.size ≤ maxLen := by unfold maxLen; omega
  obtain ⟨v', w', hr, h2, h3, _⟩ := Lib.run_append_own_string (P := Try.prog) w base t u ty e i ht hu hi hz hsize hby v n xs hown s h63 hbytes hbase
  refine ⟨v', w', hr, h2, h3, ?_⟩
  have hxl : xs.length = n := by simpa using hown.1
  rcases hown.2 with ⟨rfl, rfl⟩ | ⟨g, cap, cur, rfl, hbg, hg, hnc, hcm, hcs, htake⟩
  · have hr2 := run_append_nil_string (P := Try.prog) w t u ty e i (.int .u8 0) ht hu hi hz s h0 (by omega) (by rw [hby]; omega)
    rw [hr2] at hr
    injection hr with h1 _
    exact ⟨_, _, by rw [← h1, Nat.zero_add], .inr rfl⟩
  · by_cases hroom : n + s.size ≤ cap
    · have hr2 := Lib.run_append_room_string (P := Try.prog) w t u ty e i ht hu hi hsize g n cap cur hg s hroom (by rw [hcs]; omega)
      rw [hr2] at hr
      injection hr with h1 _
      exact ⟨_, _, h1.symm, .inl rfl⟩
    · have holds : ∀ j u, xs[j]? = some u → w.cell? ((⟨g, 0, none⟩ : Addr).add j) = some u := hown.cells (g := g) rfl
      have hr2 := Lib.run_append_grow_string (P := Try.prog) w t u ty e i (.int .u8 0) ht hu hi hz ⟨g, 0, none⟩ n cap xs (by rw [hsize]; simpa using hxl) holds s (by omega) (by omega) (by rw [hby]; exact growslice_fits (by omega) (by omega))
      rw [hr2] at hr
      injection hr with h1 _
      exact ⟨_, _, h1.symm, .inr rfl⟩
theorem wpList_append_str_at (w : World) {ops : Array Oper} {rest : List Oper} {o : Oper} {a : Act} {Q : Exit → Act → World → Prop} (hgd : o.guard = none) (sl x : Operand) (t u : TypeId)
    (ho : o.op = .call { callee := .builtin .append, args := #[sl, x], argTypes := #[t, u] })
    (base : Nat) (e : TypeId) (i : TypeInfo) (ht : Try.prog.underlying t = some (.slice e)) (hu : Try.prog.underlying u = some .string) (hi : Try.prog.info? e = some i) (hz : i.zero = some (.int .u8 0))
    (hsize : i.size = 1) (hby : i.bytes = 1) (v : Value) (n : Nat) (xs : List Value) (hs : a.eval sl = v) (hown : w.ownsRow base e 1 v n xs) (s : ByteArray) (hx : a.eval x = .string s) (h0 : 0 < s.size)
    (hbytes : n + s.size ≤ 140737488355328) (hbase : base ≤ w.heap.size)
    (h : ∀ g cap w', w'.ownsRow base e 1 (.slice (some ⟨g, 0, none⟩) (n + s.size) cap) (n + s.size) (xs ++ Lib.strCells s) → w.grownBy w' v.ownBlock → (v.ownBlock = some g ∨ g = w.heap.size) → wpList Try.prog ops Q rest (a.put o.dst (.slice (some ⟨g, 0, none⟩) (n + s.size) cap)) w') : wpList Try.prog ops Q (o :: rest) a w := by
  refine wpList_plain hgd fun K hK => ?_
  obtain ⟨v', w', hr, h2, h3, g, cap, rfl, h4⟩ := append_str_at w base t u o.type e i ht hu hi hz hsize hby v n xs hown s h0 hbytes hbase
  unfold Oper.wp execOp
  simp only [ho, resolve, invoke, builtin, Sem.run_bind, Sem.run_pure, Result.andThen_ok, List.map_toArray, List.map_cons, List.map_nil, hs, hx, hr]
  exact hK _ _ (h g cap w' h2 h3 h4)

/-- A writer's block. -/
def WB (w : World) (b : Nat) (sv at_ op fr p bv : Value) : Prop := w.heap[b]? = some (.cells #[sv, at_, op, fr, p, bv] 56 (0, 0))
theorem WB.cells {w : World} {b : Nat} {sv at_ op fr p bv : Value} (h : WB w b sv at_ op fr p bv) :
    w.cell? ⟨b, 0, none⟩ = some sv ∧ w.cell? ⟨b, 1, none⟩ = some at_ ∧ w.cell? ⟨b, 2, none⟩ = some op ∧ w.cell? ⟨b, 3, none⟩ = some fr ∧ w.cell? ⟨b, 4, none⟩ = some p ∧ w.cell? ⟨b, 5, none⟩ = some bv := by
  unfold WB at h
  refine ⟨?_, ?_, ?_, ?_, ?_, ?_⟩ <;> (rw [Lib.cell_of_heap h]; rfl)
theorem WB.frozen {w : World} {b : Nat} {sv at_ op fr p bv : Value} (h : WB w b sv at_ op fr p bv) (j : Nat) : w.frozen? ⟨b, j, none⟩ = false := Lib.frozen_of_heap h j
theorem WB.lt {w : World} {b : Nat} {sv at_ op fr p bv : Value} (h : WB w b sv at_ op fr p bv) : b < w.heap.size := heap_lt h
theorem WB.set0 {w : World} {b : Nat} {sv at_ op fr p bv : Value} (h : WB w b sv at_ op fr p bv) (y : Value) : WB (w.setCell ⟨b, 0, none⟩ y) b y at_ op fr p bv := by
  unfold WB at h ⊢; simp [World.setCell, Array.getElem?_modify, h]
theorem WB.set1 {w : World} {b : Nat} {sv at_ op fr p bv : Value} (h : WB w b sv at_ op fr p bv) (y : Value) : WB (w.setCell ⟨b, 1, none⟩ y) b sv y op fr p bv := by
  unfold WB at h ⊢; simp [World.setCell, Array.getElem?_modify, h]
theorem WB.set2 {w : World} {b : Nat} {sv at_ op fr p bv : Value} (h : WB w b sv at_ op fr p bv) (y : Value) : WB (w.setCell ⟨b, 2, none⟩ y) b sv at_ y fr p bv := by
  unfold WB at h ⊢; simp [World.setCell, Array.getElem?_modify, h]
theorem WB.set3 {w : World} {b : Nat} {sv at_ op fr p bv : Value} (h : WB w b sv at_ op fr p bv) (y : Value) : WB (w.setCell ⟨b, 3, none⟩ y) b sv at_ op y p bv := by
  unfold WB at h ⊢; simp [World.setCell, Array.getElem?_modify, h]
theorem WB.set4 {w : World} {b : Nat} {sv at_ op fr p bv : Value} (h : WB w b sv at_ op fr p bv) (y : Value) : WB (w.setCell ⟨b, 4, none⟩ y) b sv at_ op fr y bv := by
  unfold WB at h ⊢; simp [World.setCell, Array.getElem?_modify, h]
theorem WB.set5 {w : World} {b : Nat} {sv at_ op fr p bv : Value} (h : WB w b sv at_ op fr p bv) (y : Value) : WB (w.setCell ⟨b, 5, none⟩ y) b sv at_ op fr p y := by
  unfold WB at h ⊢; simp [World.setCell, Array.getElem?_modify, h]
theorem WB.kp {S : Nat → Prop} {w w' : World} {b : Nat} {sv at_ op fr p bv : Value} (h : WB w b sv at_ op fr p bv) (hk : Kp S w w') (hn : ¬ S b) : WB w' b sv at_ op fr p bv := hk.heap h hn

theorem Kp.one (W : World) (b o : Nat) (y : Value) : Kp (fun k => k = b) W (W.setCell ⟨b, o, none⟩ y) := (Kp.refl (fun k => k = b) W).setCell (p := ⟨b, o, none⟩) (fun _ => rfl) y
theorem sizeBuilder : (Try.prog.info? 37).map (·.size) = some 2 := by kernel_rfl
theorem lies4 : liesAt Try.prog Try.prog.depth 56 (6 / Try.prog.cellsOf 56) 4 37 1 = true := by kernel_rfl
theorem info5 : (Try.prog.info? 5).map (fun i => (i.zero, i.size, i.bytes)) = some (some (.int .u8 0), 1, 1) := by kernel_rfl
theorem cells5 : Try.prog.cellsOf 5 = 1 := by kernel_rfl

set_option maxHeartbeats 1000000 in
set_option maxRecDepth 100000 in
theorem copyCheck_used (b : Nat) (w : World) (h0 : w.cell? ⟨b, 4, none⟩ = some (.pointer (some ⟨b, 4, none⟩))) :
    Calls Try.prog 15 #[.pointer (some ⟨b, 4, none⟩)] w fun e w' => e = .returned (.tuple #[]) ∧ w' = w := by
  obtain ⟨j, hj, _⟩ := Option.map_eq_some_iff.1 sizeBuilder
  go_enter Try.func15, Try.ntmps15
  go_wp2
  rw [Lib.run_neq_ptr_same w _ Try.underlying34 hj]
  go_wp2
  go_end0
  exact ⟨rfl, rfl⟩
set_option maxHeartbeats 1000000 in
set_option maxRecDepth 100000 in
theorem copyCheck_fresh (b : Nat) (w : World) (h0 : w.cell? ⟨b, 4, none⟩ = some (.pointer none)) (hsh : w.shape? b = some (56, 6)) (hfz : w.frozen? ⟨b, 4, none⟩ = false) :
    Calls Try.prog 15 #[.pointer (some ⟨b, 4, none⟩)] w fun e w' => e = .returned (.tuple #[]) ∧ w' = w.setCell ⟨b, 4, none⟩ (.pointer (some ⟨b, 4, none⟩)) := by
  obtain ⟨j, hj, hjs⟩ := Option.map_eq_some_iff.1 sizeBuilder
  go_enter Try.func15, Try.ntmps15
  go_wp2
  rw [Lib.run_to_unsafe w ⟨b, 4, none⟩ Try.underlying34 Try.underlying65 hj (by rw [hjs]; decide) hsh (by show 4 < 6; decide)]
  simp only [Result.andThen]
  rw [Oper.upon_value]
  go_wp2
  rw [run_callFunc_extern Try.func26 (by kernel_rfl) (by kernel_rfl) (by kernel_rfl) (e := Extern.AbiNoEscape.same) (by kernel_rfl)]
  rw [Lib.run_noEscape]
  simp only [Result.andThen]
  rw [Oper.upon_value]
  go_wp2
  rw [Lib.run_from_unsafe w ⟨b, 4, none⟩ Try.underlying65 Try.underlying34 hj hsh lies4]
  simp only [Result.andThen]
  rw [Oper.upon_value]
  go_wp2
  go_end0
  exact ⟨rfl, rfl⟩
/-- A writer's Builder: fresh and empty, or in use. -/
def BU (w : World) (B b : Nat) (p bv : Value) (l : List UInt8) : Prop :=
  (p = .pointer none ∧ bv = .slice none 0 0 ∧ l = []) ∨ (p = .pointer (some ⟨b, 4, none⟩) ∧ l ≠ [] ∧ w.ownsRow B 5 1 bv l.length (Lib.byteCells l) ∧ bv.ownBlock ≠ some b)
theorem copyCheck_any (b : Nat) (w : World) {sv at_ op fr p bv : Value} (h : WB w b sv at_ op fr p bv) (hp : p = .pointer none ∨ p = .pointer (some ⟨b, 4, none⟩)) :
    Calls Try.prog 15 #[.pointer (some ⟨b, 4, none⟩)] w fun e w' => e = .returned (.tuple #[]) ∧ WB w' b sv at_ op fr (.pointer (some ⟨b, 4, none⟩)) bv ∧ Kp (fun k => k = b) w w' ∧ w'.heap.size = w.heap.size := by
  have hc := h.cells
  rcases hp with rfl | rfl
  · refine (copyCheck_fresh b w hc.2.2.2.2.1 (by unfold WB at h; simp [World.shape?, h]) (h.frozen 4)).mono ?_
    rintro e w' ⟨rfl, rfl⟩
    exact ⟨rfl, h.set4 _, Kp.one w b 4 _, set_size _ _ _⟩
  · refine (copyCheck_used b w hc.2.2.2.2.1).mono ?_
    rintro e w' ⟨rfl, rfl⟩
    exact ⟨rfl, h, Kp.refl _ _, rfl⟩

set_option maxHeartbeats 2000000 in
set_option maxRecDepth 100000 in
theorem writeIn (B b : Nat) (w : World) {sv at_ op fr p bv : Value} (l : List UInt8) (s : ByteArray) (h : WB w b sv at_ op fr p bv) (hu : BU w B b p bv l) (h0 : 0 < s.size) (hlen : l.length + s.size ≤ 140737488355328) (hBw : B ≤ w.heap.size) (hBb : B ≤ b) :
    Calls Try.prog 11 #[.pointer (some ⟨b, 4, none⟩), .string s] w fun e w' => e = .returned (.tuple #[.int .i64 s.size, .nilIface]) ∧ ∃ bv', WB w' b sv at_ op fr (.pointer (some ⟨b, 4, none⟩)) bv' ∧ BU w' B b (.pointer (some ⟨b, 4, none⟩)) bv' (l ++ bs s) ∧
      (∀ k, bv'.ownBlock = some k → bv.ownBlock = some k ∨ w.heap.size ≤ k) ∧ Kp (fun k => k = b ∨ bv.ownBlock = some k) w w' := by
  obtain ⟨i0, hi, hz0, hz1, hz2⟩ := info_parts info5
  have hp : p = .pointer none ∨ p = .pointer (some ⟨b, 4, none⟩) := by rcases hu with ⟨h, _⟩ | ⟨h, _⟩; exact .inl h; exact .inr h
  have hown0 : w.ownsRow B 5 1 bv l.length (Lib.byteCells l) := by
    rcases hu with ⟨_, rfl, rfl⟩ | ⟨_, _, h, _⟩
    · exact World.ownsRow_nil _ _ _ _
    · exact h
  have hne : bv.ownBlock ≠ some b := by
    rcases hu with ⟨_, rfl, _⟩ | ⟨_, _, _, h⟩
    · simp [Value.ownBlock]
    · exact h
  have Hu := hide hu
  have Hown0 := hide hown0
  clear hu hown0
  go_enter Try.func11, Try.ntmps11
  go_wp2_with fail
  refine (copyCheck_any b w h hp).mono ?_
  rintro e w1 ⟨rfl, h1, hk1, hsz⟩
  have hown : w1.ownsRow B 5 1 bv l.length (Lib.byteCells l) := hk1.owns Hown0.out (fun k hk e => hne (e ▸ hk))
  have c1 := h1.cells.2.2.2.2.2
  have hbw1 : B ≤ w1.heap.size := by omega
  go_wp2_with (at_builtin; refine wpList_append_str_at _ rfl _ _ 35 9 rfl B 5 i0 Try.underlying35 Try.underlying9 hi hz0 hz1 hz2 _ _ _ rfl hown s rfl h0 hlen hbw1 ?_)
  intro g cap w2 hown' hgrow hat
  have h2 : WB w2 b sv at_ op fr (.pointer (some ⟨b, 4, none⟩)) bv := (hgrow.block b h1.lt (fun e => hne e.symm)).trans h1
  have d5 := h2.cells.2.2.2.2.2
  have f5 := h2.frozen 5
  go_wp2
  go_ret2
  have hgb : g ≠ b := by
    rcases hat with hg | hg
    · rintro rfl; exact hne hg
    · have := h1.lt; omega
  refine ⟨rfl, _, h2.set5 _, .inr ⟨rfl, ?_, ?_, by simpa [Value.ownBlock] using hgb⟩, ?_, ?_⟩
  · intro hl
    have := congrArg List.length hl
    simp only [List.length_append, List.length_nil, bs_len] at this
    omega
  · have e1 : Lib.byteCells (l ++ bs s) = Lib.byteCells l ++ Lib.strCells s := by
      have : Lib.strCells s = Lib.byteCells (bs s) := rfl
      rw [this]; simp [Lib.byteCells]
    rw [e1, List.length_append, bs_len]
    exact (Kp.one w2 b 5 _).owns hown' (fun k hk e => by simp only [Value.ownBlock, Option.some.injEq] at hk; omega)
  · intro k hk
    simp only [Value.ownBlock, Option.some.injEq] at hk
    subst hk
    rcases hat with hg | hg
    · exact .inl hg
    · exact .inr (by omega)
  · have k1 : Kp (fun k => k = b ∨ bv.ownBlock = some k) w w1 := hk1.mono (fun i _ h => .inl h)
    have k2 : Kp (fun k => k = b ∨ bv.ownBlock = some k) w w2 := k1.grown hgrow (fun k hk _ => .inr hk)
    exact k2.setCell (p := ⟨b, 5, none⟩) (fun _ => .inl rfl) _
set_option maxHeartbeats 1000000 in
theorem resetIn (b : Nat) (w : World) {sv at_ op fr p bv : Value} (h : WB w b sv at_ op fr p bv) :
    Calls Try.prog 31 #[.pointer (some ⟨b, 4, none⟩)] w fun e w' => e = .returned (.tuple #[]) ∧ WB w' b sv at_ op fr (.pointer none) (.slice none 0 0) ∧ Kp (fun k => k = b) w w' ∧ w'.heap.size = w.heap.size := by
  obtain ⟨_, _, _, _, c4, c5⟩ := h.cells
  have f4 := h.frozen 4
  have f5 := h.frozen 5
  go_enter Try.func31, Try.ntmps31
  go_wp2_with fail
  go_end0
  refine ⟨rfl, (h.set4 _).set5 _, ?_, by simp only [set_size]⟩
  exact (Kp.one w b 4 _).setCell (p := ⟨b, 5, none⟩) (fun _ => rfl) _
end Go.Proofs.Ytobdfddpiobhhaa
