/- release, of a round. -/
import Derived.Test.YtdlnlcjmjgbikaaTl
namespace Go.Proofs.Ytdlnlcjmjgbikaa
open Go Go.Conc Go.RowKit Go.Deep

noncomputable section
variable {R : QR} {Y : QY} {X : Nat → Prop} {ch : Nat → Nat} {w w' : World} {S : QS} {k : Nat}
theorem setObj_keep {M : Nat → Prop} (w : World) (c : Nat) (o : Obj) (h : M c) : Keep M w { w with heap := w.heap.setIfInBounds c o } :=
  ⟨rfl, rfl, by simp, fun b _ hM => by
    have : b ≠ c := fun e => hM (e ▸ h)
    simp [this.symm]⟩
theorem rd_release (hY : Y.Ok R) (h : Rd R Y X ch w S) (hk : k < R.n) (hh : S.hd k = true) :
    Calls Sq.prog 73 #[.pointer (some ⟨Y.r, 0, none⟩), .int .i64 k] w fun e w' => e = .returned (.tuple #[]) ∧ Rd R Y X ch w' (releasedM S k) ∧ Keep (fun b => Y.mut b ∨ b = ch k) w w' := by
  have n := hY.ne
  obtain ⟨u, d1, d2, d3⟩ := h.done k hk
  rw [d3 hh] at d1
  obtain ⟨cm, co⟩ := h.opn k hk hh
  have hcr : ∀ b, Y.mut b → b ≠ ch k := fun b hb e => cm (.inl (e ▸ hb))
  refine (release_cells hk (h.r.cell (i := 4) (by decide)) (h.r.frozen (i := 4) (by decide)) (h.r.cell (i := 6) (by decide)) (h.fresh.cell hk) (h.fresh.frozen hk) (h.r.cell (i := 7) (by decide)) (h.hands.cell hk) (h.hands.frozen hk)
    (h.r.cell (i := 9) (by decide)) (h.waits.cell (i := 0) (by decide)) (h.r.cell (i := 8) (by decide)) d1 ?_ n.a3 n.a4 n.a5 n.a6 n.d1 n.d2 n.d3 n.e1 n.e2 (hcr _ (mut_r Y))).mono ?_
  · rw [blk_setCell_other _ _ _ _ (hcr _ (mut_hb Y)).symm, blk_setCell_other _ _ _ _ (hcr _ (mut_fb Y)).symm, blk_setCell_other _ _ _ _ (hcr _ (mut_r Y)).symm]
    exact co
  rintro e w' ⟨rfl, W, hW, rfl⟩
  refine ⟨rfl, ?_⟩
  have k1 : Keep Y.mut w W := hW ▸ (((Keep.refl _ _).set ⟨Y.r, 4, none⟩ (mut_r Y) _).set ⟨Y.fb, k, none⟩ (mut_fb Y) _).set ⟨Y.hb, k, none⟩ (mut_hb Y) _
  have o1 : ∀ b, b ≠ Y.r → b ≠ Y.fb → b ≠ Y.hb → W.heap[b]? = w.heap[b]? := fun b h1 h2 h3 => by
    rw [hW, blk_setCell_other _ _ _ _ h3, blk_setCell_other _ _ _ _ h2, blk_setCell_other _ _ _ _ h1]
  have oc : ∀ b, b ≠ ch k → ({ W with heap := W.heap.setIfInBounds (ch k) (.chan 0 #[] true 0 0 false) } : World).heap[b]? = W.heap[b]? := fun b hb => by simp [hb.symm]
  have kc : Keep (fun b => Y.mut b ∨ b = ch k) W { W with heap := W.heap.setIfInBounds (ch k) (.chan 0 #[] true 0 0 false) } := setObj_keep _ _ _ (.inr rfl)
  have r4 := ((h.r.set 4 (.int .i32 1)).oth ⟨Y.fb, k, none⟩ n.a3.2 (.bool true)).oth ⟨Y.hb, k, none⟩ n.a4.2 (.int .i64 (-1))
  have f4 := ((h.fresh.oth ⟨Y.r, 4, none⟩ n.a3.1 (.int .i32 1)).set k (.bool true)).oth ⟨Y.hb, k, none⟩ n.d1.2 (.int .i64 (-1))
  have g4 := ((h.hands.oth ⟨Y.r, 4, none⟩ n.a4.1 (.int .i32 1)).oth ⟨Y.fb, k, none⟩ n.d1.1 (.bool true)).set k (.int .i64 (-1))
  rw [← hW] at r4 f4 g4
  have k2 := (k1.wide (M' := fun b => Y.mut b ∨ b = ch k) fun _ _ h => .inl h).trans kc
  generalize hV : ({ W with heap := W.heap.setIfInBounds (ch k) (.chan 0 #[] true 0 0 false) } : World) = V at oc k2 ⊢
  have k3 : Keep (fun b => Y.mut b ∨ b = ch k) w (V.setCell ⟨Y.r, 4, none⟩ (.int .i32 0)) := k2.set ⟨Y.r, 4, none⟩ (.inl (mut_r Y)) _
  have o : ∀ b, b ≠ Y.r → b ≠ Y.fb → b ≠ Y.hb → b ≠ ch k → (V.setCell ⟨Y.r, 4, none⟩ (.int .i32 0)).heap[b]? = w.heap[b]? := fun b h1 h2 h3 h4 => by
    rw [blk_setCell_other _ _ _ _ h1, oc _ h4, o1 _ h1 h2 h3]
  refine ⟨?_, k3⟩
  have kcell : ∀ b, b ≠ ch k → ¬ Y.mut b → ¬ (Y.mut b ∨ b = ch k) := fun b h1 h2 h3 => h3.elim h2 h1
  have nc : ∀ b i, (∃ x, w.cell? ⟨b, i, none⟩ = some x) → b ≠ ch k := fun b i ⟨x, hx⟩ e => by
    subst e
    unfold World.cell? at hx
    rw [co] at hx
    cases hx
  refine ⟨?_, fun j hj => ?_, fun j hj => ?_, h.runs.blk fun _ => o _ n.a2.2 n.c1.1 n.c2.1 (hcr _ (mut_rb Y)), ?_, ?_, fun j hj => ?_, fun j hj hh' => ?_, fun i j hi hj h1 h2 he => ?_, h.waits.blk fun _ => o _ n.a6.2 n.d3.2 n.e2.2 (hcr _ (mut_wb Y)), h.privs k3⟩
  · have := (r4.blk (w' := V) fun _ => oc _ (hcr _ (mut_r Y))).set 4 (.int .i32 0)
    exact this.congr fun i _ => rv_again _ _ _ _ i
  · have c := h.cells j hj
    refine c.keep (kcell _ (nc _ _ ⟨_, c.op⟩) hY.cb) (fun h0 => ?_) k3
    refine kcell _ (nc _ 0 ⟨_, c.at_ h0 0 ?_⟩) (hY.lk j hj h0)
    unfold QR.looks
    rw [if_neg h0]
    split
    · simp
    · split <;> simp
  · obtain ⟨v, m1, m2⟩ := h.mems j hj
    refine ⟨v, m1.blk fun _ => o _ n.a1.2 n.b2.1 n.b3.1 (hcr _ (mut_mb Y)), ?_⟩
    rcases m2 with m2 | ⟨b, cap, e, h2, hM, hb, hl⟩
    · exact .inl m2
    · by_cases hz : ((releasedM S k).mem j).led.length = 0
      · refine .inl ⟨List.length_eq_zero_iff.1 hz, _, cap, by rw [e, ← hz]; rfl⟩
      · have hn : b ≠ ch k := nc _ _ ⟨_, (hl 0 (Nat.pos_of_ne_zero hz)).1⟩
        exact .inr ⟨b, cap, e, h2, hM, Nat.lt_of_lt_of_le hb k3.size, fun i hi => ⟨k3.cell (kcell _ hn fun m => hM (.inl m)) (hl i hi).1, k3.cell (kcell _ hn fun m => hM (.inl m)) (hl i hi).2.1, k3.cell (kcell _ hn fun m => hM (.inl m)) (hl i hi).2.2⟩⟩
  · have := (f4.blk (w' := V) fun _ => oc _ (hcr _ (mut_fb Y))).oth ⟨Y.r, 4, none⟩ n.a3.1 (.int .i32 0)
    refine this.congr fun i _ => ?_
    dsimp only [upf, releasedM]
    split <;> rfl
  · have := (g4.blk (w' := V) fun _ => oc _ (hcr _ (mut_hb Y))).oth ⟨Y.r, 4, none⟩ n.a4.1 (.int .i32 0)
    refine this.congr fun i _ => ?_
    dsimp only [upf, releasedM]
    split <;> simp
  · obtain ⟨u', c1, c2, c3⟩ := h.done j hj
    have e := o Y.db n.a5.2 n.d2.2 n.e1.2 (hcr _ (mut_db Y))
    refine ⟨u', (World.cell?_of_block (w := w) e).trans c1, (World.frozen?_of_block (w := w) e).trans c2, fun hh' => c3 ?_⟩
    by_cases ej : j = k
    · subst ej; exact hh
    · simpa [releasedM, upf_ne _ _ ej] using hh'
  · have ej : j ≠ k := fun ej => by subst ej; simp [releasedM, upf_same] at hh'
    have hj' : S.hd j = true := by simpa [releasedM, upf_ne _ _ ej] using hh'
    obtain ⟨q1, q2⟩ := h.opn j hj hj'
    refine ⟨q1, (k3.block _ (Array.getElem?_eq_some_iff.1 q2).1 ?_).trans q2⟩
    exact kcell _ (fun e => ej (h.inj j k hj hk hj' hh e)) fun m => q1 (.inl m)
  · have e1 : i ≠ k := fun ej => by subst ej; simp [releasedM, upf_same] at h1
    have e2 : j ≠ k := fun ej => by subst ej; simp [releasedM, upf_same] at h2
    exact h.inj i j hi hj (by simpa [releasedM, upf_ne _ _ e1] using h1) (by simpa [releasedM, upf_ne _ _ e2] using h2) he
end
end Go.Proofs.Ytdlnlcjmjgbikaa
/- What run does besides: counts, cells to be led to, what is reckoned. -/
namespace Go.Proofs.Ytdlnlcjmjgbikaa
open Go Go.Conc Go.RowKit Go.Deep

noncomputable section
variable {R : QR} {Y : QY} {X : Nat → Prop} {ch : Nat → Nat} {w w' : World} {S : QS} {k : Nat}
theorem Rd.mut_lt (h : Rd R Y X ch w S) (hk : k < R.n) (b : Nat) (hb : Y.mut b) : b < w.heap.size := by
  have q := fun (b : Nat) (c : Value) (i : Nat) (hc : w.cell? ⟨b, i, none⟩ = some c) => World.block_lt_of_cell? w ⟨b, i, none⟩ hc
  have q1 := q _ _ _ (h.r.cell (i := 4) (by decide))
  obtain ⟨v, m1, _⟩ := h.mems k hk
  obtain ⟨u, d1, _⟩ := h.done k hk
  have q2 := q _ _ _ m1.ran.1
  have q3 := q _ _ _ (h.runs.cell hk)
  have q4 := q _ _ _ (h.fresh.cell hk)
  have q5 := q _ _ _ (h.hands.cell hk)
  have q6 := q _ _ _ d1
  have q7 := q _ _ _ (h.waits.cell (i := 0) (by decide))
  simp only at q1 q2 q3 q4 q5 q6 q7
  unfold QY.mut at hb
  omega
/-- A block that is new is held. -/
theorem Rd.holdG (h : Rd R Y X ch w S) (hk : k < R.n) (k1 : Keep (fun _ => False) w w') {g : Nat} (hg : w.heap.size ≤ g ∧ g < w'.heap.size) : Rd R Y (fun b => X b ∨ b = g) ch w' S := by
  have h' := h.keep k1
  have hlk : ∀ j, j < R.n → R.op j ≠ 0 → Y.lk j < w.heap.size := fun j hj h0 => by
    have c := (h.cells j hj).at_ h0 0 (by unfold QR.looks; rw [if_neg h0]; split; · simp
                                          · split <;> simp)
    exact World.block_lt_of_cell? w _ c
  exact { h' with
    mems := fun i hi => by
      obtain ⟨v, h1, h2⟩ := h.mems i hi
      refine ⟨v, h1.blk fun hb => k1.block _ hb id, ?_⟩
      refine LedIs.keep (h2.mono fun b hb ho => ?_) k1 fun _ => False.elim
      rcases ho with ho | ho | rfl
      · exact .inl ho
      · exact .inr ho
      · exact absurd hb (Nat.not_lt.2 hg.1)
    opn := fun i hi hh => ⟨fun ho => by
      obtain ⟨h1, h2⟩ := h.opn i hi hh
      rcases ho with ho | ho | ho
      · exact h1 (.inl ho)
      · exact h1 (.inr ho)
      · have := (Array.getElem?_eq_some_iff.1 h2).1
        omega, (h'.opn i hi hh).2⟩
    priv := fun b hb => by
      rcases hb with hb | rfl
      · exact h'.priv b hb
      · refine ⟨hg.2, fun hm => ?_, fun e => ?_, fun j hj h0 e => ?_⟩
        · have := h.mut_lt hk _ hm
          omega
        · have : Y.cb < w.heap.size := World.block_lt_of_cell? w _ (h.cells k hk).op
          omega
        · have := hlk j hj h0
          omega }
theorem Rd.hold (h : Rd R Y X ch w S) (hk : k < R.n) (o : Obj) : Rd R Y (fun b => X b ∨ b = w.heap.size) ch (w.alloc o) S := h.holdG hk ((Keep.refl _ _).alloc _) (by simp)
theorem rd_left (hY : Y.Ok R) (h : Rd R Y X ch w S) :
    Calls Sq.prog 87 #[.pointer (some ⟨Y.r, 3, none⟩), .int .i64 (-1)] w fun e w' => e = .returned (.int .i64 (wrap64 (S.left + -1))) ∧ Rd R Y X ch w' { S with left := wrap64 (S.left + -1) } ∧ Keep Y.mut w w' := by
  refine (aadd_any ⟨Y.r, 3, none⟩ S.left (-1) w (h.r.cell (i := 3) (by decide)) (h.r.frozen (i := 3) (by decide))).mono ?_
  rintro e w' ⟨rfl, rfl⟩
  have n := hY.ne
  have kp : Keep Y.mut w (w.setCell ⟨Y.r, 3, none⟩ (.int .i64 (wrap64 (S.left + -1)))) := (Keep.refl _ _).set ⟨Y.r, 3, none⟩ (mut_r Y) _
  have o : ∀ b, b ≠ Y.r → (w.setCell ⟨Y.r, 3, none⟩ (.int .i64 (wrap64 (S.left + -1)))).heap[b]? = w.heap[b]? := fun b hb => blk_setCell_other _ _ _ _ hb
  obtain ⟨h1, h2⟩ := h.rest hY kp (o _ n.a1.2)
  refine ⟨rfl, ⟨(h.r.set 3 _).congr fun i hi => ?_, h1, h2, h.runs.blk fun _ => o _ n.a2.2, h.fresh.blk fun _ => o _ n.a3.2, h.hands.blk fun _ => o _ n.a4.2, h.dones (o _ n.a5.2), h.chans kp, h.inj, h.waits.blk fun _ => o _ n.a6.2, h.privs kp⟩, kp⟩
  have : i = 0 ∨ i = 1 ∨ i = 2 ∨ i = 3 ∨ i = 4 ∨ i = 5 ∨ i = 6 ∨ i = 7 ∨ i = 8 ∨ i = 9 := by omega
  rcases this with rfl | rfl | rfl | rfl | rfl | rfl | rfl | rfl | rfl | rfl <;> rfl
theorem rd_ran (hY : Y.Ok R) (h : Rd R Y X ch w S) (hk : k < R.n) :
    Calls Sq.prog 87 #[.pointer (some ⟨Y.rb, k, none⟩), .int .i64 1] w fun e w' => e = .returned (.int .i64 (wrap64 (S.rn k + 1))) ∧ Rd R Y X ch w' { S with rn := upf S.rn k (wrap64 (S.rn k + 1)) } ∧ Keep Y.mut w w' := by
  refine (aadd_any ⟨Y.rb, k, none⟩ (S.rn k) 1 w (h.runs.cell hk) (h.runs.frozen hk)).mono ?_
  rintro e w' ⟨rfl, rfl⟩
  have n := hY.ne
  have kp : Keep Y.mut w (w.setCell ⟨Y.rb, k, none⟩ (.int .i64 (wrap64 (S.rn k + 1)))) := (Keep.refl _ _).set ⟨Y.rb, k, none⟩ (mut_rb Y) _
  have o : ∀ b, b ≠ Y.rb → (w.setCell ⟨Y.rb, k, none⟩ (.int .i64 (wrap64 (S.rn k + 1)))).heap[b]? = w.heap[b]? := fun b hb => blk_setCell_other _ _ _ _ hb
  obtain ⟨h1, h2⟩ := h.rest hY kp (o _ n.b1.1)
  refine ⟨rfl, ⟨h.r.blk fun _ => o _ n.a2.1, h1, h2, (h.runs.set k _).congr fun i hi => ?_, h.fresh.blk fun _ => o _ n.c1.2, h.hands.blk fun _ => o _ n.c2.2, h.dones (o _ n.c3.2), h.chans kp, h.inj, h.waits.blk fun _ => o _ n.c4.2, h.privs kp⟩, kp⟩
  dsimp only [upf]
  split <;> rfl
theorem looks_len {R : QR} {k : Nat} (h0 : R.op k ≠ 0) : 0 < (R.looks k).length := by
  unfold QR.looks
  rw [if_neg h0]
  split
  · simp
  · split <;> simp
theorem looks0 {R : QR} {k : Nat} (h0 : R.op k ≠ 0) (h : 0 < (R.looks k).length) : (R.looks k)[0] = R.a k := by
  revert h
  unfold QR.looks
  rw [if_neg h0]
  split
  · simp
  · split <;> simp
/-- The first cell to which a rule is led. -/
theorem next_first (c : CellAt R Y w k) (h0 : R.op k ≠ 0) : Calls Sq.prog 88 #[.pointer (some ⟨Y.cb, k * 8, none⟩), .slice none 0 0] w fun e w' => e = .returned (.tuple #[.int .i64 (R.a k), .bool true]) ∧ w' = w := by
  have hl := looks_len h0
  have hx := c.at_ h0 0 hl
  rw [looks0 h0 hl] at hx
  by_cases h4 : R.op k = 4
  · have h7 := c.looks h0
    have e3 : (R.looks k).length = 3 := by unfold QR.looks; simp [h4]
    rw [e3] at h7
    exact next_pick0 (h4 ▸ c.op) c.once h7 hx
  · exact next_more c.op h4 c.once (c.looks h0) hl hx
/-- The second one. -/
theorem next_second {g cap : Nat} {num : Int} (c : CellAt R Y w k) (h0 : R.op k ≠ 0) (h5 : R.op k ≠ 5) (hg : w.cell? ⟨g, 0 + 1, none⟩ = some (.int .i64 num)) (err : Int) : Calls Sq.prog 88 #[.pointer (some ⟨Y.cb, k * 8, none⟩), .slice (some ⟨g, 0, none⟩) 1 cap] w fun e w' => e = .returned (.tuple #[.int .i64 (secM R k ⟨num, err⟩), .bool true]) ∧ w' = w := by
  by_cases h4 : R.op k = 4
  · have h7 := c.looks h0
    have e3 : (R.looks k).length = 3 := by unfold QR.looks; simp [h4]
    rw [e3] at h7
    have := next_pick1 (h4 ▸ c.op) c.b c.c c.once h7 hg (cap := cap)
    unfold secM
    rw [if_pos h4]
    exact this
  · have e2 : R.looks k = [R.a k, R.b k] := by unfold QR.looks; rw [if_neg h0, if_neg h5, if_neg h4]
    have hx := c.at_ h0 1 (by rw [e2]; simp)
    have hx2 : (R.looks k)[1]'(by rw [e2]; simp) = R.b k := by simp [e2]
    rw [hx2] at hx
    unfold secM
    rw [if_neg h4]
    exact next_more c.op h4 c.once (c.looks h0) (by rw [e2]; simp) hx
theorem next_low {la : Option Addr} {cap : Nat} (c : CellAt R Y w k) (h5 : R.op k = 5) : Calls Sq.prog 88 #[.pointer (some ⟨Y.cb, k * 8, none⟩), .slice la 1 cap] w fun e w' => (∃ x, e = .returned (.tuple #[.int .i64 x, .bool false])) ∧ w' = w := by
  have h7 := c.looks (by omega)
  have e1 : (R.looks k).length = 1 := by unfold QR.looks; simp [h5]
  rw [e1] at h7
  refine (next_end c.op (by omega) c.once h7).mono ?_
  rintro e w' ⟨rfl, rfl⟩
  exact ⟨⟨_, rfl⟩, rfl⟩
/-- There is no third one. -/
theorem next_third {g cap : Nat} {num : Int} (c : CellAt R Y w k) (h0 : R.op k ≠ 0) (h5 : R.op k ≠ 5) (hg : w.cell? ⟨g, 0 + 1, none⟩ = some (.int .i64 num)) : Calls Sq.prog 88 #[.pointer (some ⟨Y.cb, k * 8, none⟩), .slice (some ⟨g, 0, none⟩) 2 cap] w fun e w' => (∃ x, e = .returned (.tuple #[.int .i64 x, .bool false])) ∧ w' = w := by
  have h7 := c.looks h0
  by_cases h4 : R.op k = 4
  · have e3 : (R.looks k).length = 3 := by unfold QR.looks; simp [h4]
    rw [e3] at h7
    refine (next_pick2 (h4 ▸ c.op) c.b c.c c.once h7 hg (cap := cap)).mono ?_
    rintro e w' ⟨rfl, rfl⟩
    exact ⟨⟨_, rfl⟩, rfl⟩
  · have e2 : (R.looks k).length = 2 := by unfold QR.looks; rw [if_neg h0, if_neg h5, if_neg h4]; rfl
    rw [e2] at h7
    refine (next_end c.op h4 c.once h7).mono ?_
    rintro e w' ⟨rfl, rfl⟩
    exact ⟨⟨_, rfl⟩, rfl⟩
theorem reckon_any {g cap : Nat} {f l : Int} (c : CellAt R Y w k) (h0 : R.op k ≠ 0) (h5 : R.op k ≠ 5) (hr : 0 ≤ R.op k ∧ R.op k ≤ 5) (hf : w.cell? ⟨g, 0 + 1, none⟩ = some (.int .i64 f)) (hl : w.cell? ⟨g, 0 + 4, none⟩ = some (.int .i64 l)) :
    Calls Sq.prog 89 #[.pointer (some ⟨Y.cb, k * 8, none⟩), .slice (some ⟨g, 0, none⟩) 2 cap] w fun e w' => e = .returned (.int .i64 (rk (R.op k) f l)) ∧ ∃ d, w' = w.at d := by
  have : R.op k = 1 ∨ R.op k = 2 ∨ R.op k = 3 ∨ R.op k = 4 := by omega
  rcases this with h | h | h | h
  · rw [h]; exact reckon_add (h ▸ c.op) hf hl
  · rw [h]; exact reckon_mul (h ▸ c.op) hf hl
  · rw [h]; exact reckon_less (h ▸ c.op) hf hl
  · rw [h]; exact reckon_pick (h ▸ c.op) hf hl
end
end Go.Proofs.Ytdlnlcjmjgbikaa
