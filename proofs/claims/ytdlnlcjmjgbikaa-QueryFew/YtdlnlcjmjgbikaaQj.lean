/- The sequential program by itself: its frames are related to themselves; what it does on every tape, it does whatever answer comes. -/
import Derived.Test.YtdlnlcjmjgbikaaQi
namespace Go.Proofs.Ytdlnlcjmjgbikaa
open Go Go.Conc

section
variable {P Q : Program} {X : Nat → Prop} {St : List TypeId} {Macro : FuncId → Prop}

theorem intTy_kin (hT : Kin P Q) (t : TypeId) : intTy Q t = intTy P t := by unfold intTy; rw [hT.underlying]
theorem cut_ok (hT : Kin P Q) (hB : Q.info? bad = none) (o : Oper) (h : okOp P St o = true) : okOp Q St (cutOp P o) = true ∧ cutOp Q (cutOp P o) = cutOp P o := by
  have hb : intTy Q bad = false := by
    unfold intTy
    rw [show Q.underlying bad = none by unfold Program.underlying; rw [hB]]
  obtain ⟨dst, op, type, pos, after, guard⟩ := o
  unfold okOp at h
  unfold cutOp
  dsimp only at h ⊢
  cases op <;> first | exact ⟨h, rfl⟩ | cases h | skip
  case range t x =>
    cases x with
    | const v => cases v with
      | string s => exact ⟨rfl, rfl⟩
      | _ => cases h
    | _ => cases h
  · rename_i op t x y z
    dsimp only at h ⊢
    by_cases hc : (!isEq op || intTy P t) = true
    · rw [if_pos hc]
      refine ⟨by simp [okOp], ?_⟩
      dsimp only
      rw [hb]
      split <;> rfl
    · rw [if_neg hc]
      refine ⟨by simpa [okOp, intTy_kin hT] using h, ?_⟩
      dsimp only
      rw [intTy_kin hT, if_neg hc]
  · rename_i s d x
    exact ⟨by simpa [okOp, intTy_kin hT] using h, rfl⟩
theorem cut_ops (hT : Kin P Q) (hB : Q.info? bad = none) (ops : Array Oper) (h : ops.all (okOp P St) = true) : (ops.map (cutOp P)).all (okOp Q St) = true ∧ (ops.map (cutOp P)).map (cutOp Q) = ops.map (cutOp P) := by
  have h' := Array.all_eq_true_iff_forall_mem.1 h
  refine ⟨Array.all_eq_true_iff_forall_mem.2 fun o ho => ?_, ?_⟩
  · obtain ⟨o', ho', rfl⟩ := Array.mem_map.1 ho
    exact (cut_ok hT hB o' (h' o' ho')).1
  · rw [Array.map_map]
    apply Array.map_congr_left
    intro o ho
    exact (cut_ok hT hB o (h' o ho)).2
theorem cut_cut (hT : Kin P Q) (hB : Q.info? bad = none) (c : Code) : cutCode Q St (cutCode P St c) = cutCode P St c := by
  induction c with
  | region id ops d =>
    by_cases h : ops.all (okOp P St) = true
    · obtain ⟨h1, h2⟩ := cut_ops hT hB ops h
      simp only [cutCode, h, if_true, h1, h2]
    · simp only [cutCode, h]
      rfl
  | seq a b iha ihb => simp only [cutCode, iha, ihb]
  | cond c a b iha ihb => simp only [cutCode, iha, ihb]
  | block id b ih => simp only [cutCode, ih]
  | loop b ih => simp only [cutCode, ih]
  | _ => rfl

/-- A frame of the sequential program's own. -/
abbrev Own (Q : Program) (St : List TypeId) (fr : Frame) : Prop := FrR Q St Q fr fr
def Owns (Q : Program) (St : List TypeId) (cs : List Frame) : Prop := All2 (FrR Q St Q) cs cs

/-- A world with another tape. -/
def re (v : World) (τ : Nat → Question → Nat) (d : Nat) : World := { v with tape := τ, drawn := d }
@[simp] theorem re_heap (w : World) (τ : Nat → Question → Nat) (d : Nat) : (re w τ d).heap = w.heap := rfl
@[simp] theorem re_tape (w : World) (τ : Nat → Question → Nat) (d : Nat) : (re w τ d).tape = τ := rfl
@[simp] theorem re_drawn (w : World) (τ : Nat → Question → Nat) (d : Nat) : (re w τ d).drawn = d := rfl
@[simp] theorem re_re (w : World) (τ τ' : Nat → Question → Nat) (d d' : Nat) : re (re w τ d) τ' d' = re w τ' d' := rfl
theorem re_self (w : World) : re w w.tape w.drawn = w := rfl
theorem Gd.re {v : World} (h : Gd v) (τ : Nat → Question → Nat) (d : Nat) : Gd (re v τ d) := h

theorem All2.fun {α β : Type} {R : α → β → Prop} (hR : ∀ a b c, R a b → R a c → b = c) {l : List α} {k : List β} (h : All2 R l k) : ∀ {m : List β}, All2 R l m → k = m := by
  induction h with
  | nil => intro m h; cases h; rfl
  | cons a _ ih => intro m h; cases h with | cons b h => rw [hR _ _ _ a b, ih h]
theorem ItR.fun {a b c : Item} (h : ItR P St a b) (k : ItR P St a c) : b = c := by
  cases h <;> cases k <;> rfl
theorem FrR.fun {a b c : Frame} (h : FrR P St Q a b) (k : FrR P St Q a c) : b = c := by
  have ht := All2.fun (R := ItR P St) (fun _ _ _ h k => ItR.fun h k) h.todo k.todo
  have e1 := h.fn.trans k.fn.symm
  have e2 := h.tmps.trans k.tmps.symm
  have e3 := h.defers.trans k.defers.symm
  have e4 := h.mode.trans k.mode.symm
  have e5 := h.kind.trans k.kind.symm
  have e6 := h.round'.trans k.round'.symm
  obtain ⟨b1, b2, b3, b4, b5, b6, b7⟩ := b
  obtain ⟨c1, c2, c3, c4, c5, c6, c7⟩ := c
  simp only at ht e1 e2 e3 e4 e5 e6
  subst ht e1 e2 e3 e4 e5 e6
  rfl
theorem Rel.eq {v w : World} (h : Rel (fun _ => False) v w) : w.heap = v.heap := by
  apply Array.ext_getElem?
  intro i
  exact (h.same i fun h => h).symm
theorem rel_re (v : World) (τ : Nat → Question → Nat) (d : Nat) : Rel (fun _ => False) v (re v τ d) := ⟨rfl, fun _ _ => rfl, fun _ h => h.elim, rfl, rfl⟩

/-- A step of its own hangs on the answers alone that it asks for. -/
theorem own_step (B : Bodies Q Q St (fun _ => False)) (E : Env Q Q (fun _ => False) St) {fr : Frame} {c base : List Frame} (h : Own Q St fr) (hc : Owns Q St c) (hl : c ≠ [] ∨ fr.mode = .run ∨ fr.defers ≠ []) (v : World) (hg : Gd v) :
    (∃ o v1 es, stepG Q true (G fr (c ++ base)) v = .ended o v1 es) ∨
    ∃ fr1 c1 v1 es n, stepG Q true (G fr (c ++ base)) v = .go (G fr1 (c1 ++ base)) v1 es ∧ On v v1 n ∧ Gd v1 ∧ Own Q St fr1 ∧ Owns Q St c1 ∧
      ∀ τ d, (∀ j q, j < n → τ (d + j) q = v.tape (v.drawn + j) q) → ∃ es', stepG Q true (G fr (c ++ base)) (re v τ d) = .go (G fr1 (c1 ++ base)) (re v1 τ (d + n)) es' := by
  have S : ∀ v, Gd v → _ := sim_step (main := true) (base := base) (base' := base) B E h hc hl
  rcases S v hg with he | ⟨fr1, c1, v1, es, n, h1, h2, h3, h4⟩
  · exact .inl he
  · have self : ∀ w, Rel (fun _ => False) v w → Ag v w n → ∃ fr2 c2 w2 es2, stepG Q true (G fr (c ++ base)) w = .go (G fr2 (c2 ++ base)) w2 es2 ∧ FrR Q St Q fr2 fr1 ∧ All2 (FrR Q St Q) c2 c1 ∧ Rel (fun _ => False) v1 w2 ∧ On w w2 n := by
      intro w hw ha
      obtain ⟨fr2, c2, w2, es2, k1, k2, k3, k4, k5, _⟩ := h4 w hw ha
      cases k2 with
      | plain k2 => exact ⟨fr2, c2, w2, es2, k1, k2, k3, k4, k5⟩
      | enters _ _ _ hm => exact hm.elim
    have inj : ∀ {a b : Frame} {l k : List Frame} {x y : World} {e f : Array Event}, GStep.go (G a (l ++ base)) x e = .go (G b (k ++ base)) y f → a = b ∧ l = k ∧ x = y := by
      intro a b l k x y e f hh
      injection hh with e1 e2 e3
      exact ⟨congrArg Goroutine.frame e1, List.append_cancel_right (congrArg Goroutine.callers e1), e2⟩
    -- what is related to it is itself
    have own1 : Own Q St fr1 ∧ Owns Q St c1 := by
      obtain ⟨fr2, c2, w2, es2, k1, k2, k3, k4, k5⟩ := self v (.refl v) (fun j q hj => rfl)
      obtain ⟨rfl, rfl, rfl⟩ := inj (h1.symm.trans k1)
      exact ⟨k2, k3⟩
    refine .inr ⟨fr1, c1, v1, es, n, h1, h2, h3, own1.1, own1.2, fun τ d ht => ?_⟩
    obtain ⟨fr2, c2, w2, es2, k1, k2, k3, k4, k5⟩ := self (re v τ d) (rel_re v τ d) (fun j q hj => by simpa using ht j q hj)
    have o2 : Own Q St fr2 ∧ Owns Q St c2 := by
      rcases S (re v τ d) (hg.re τ d) with ⟨o, x, y, he⟩ | ⟨fr3, c3, v3, es3, n3, g1, g2, g3, g4⟩
      · rw [he] at k1; cases k1
      · obtain ⟨fr4, c4, w4, es4, m1, m2, m3, m4, m5, _⟩ := g4 (re v τ d) (.refl _) (fun j q hj => rfl)
        obtain ⟨rfl, rfl, rfl⟩ := inj (g1.symm.trans m1)
        obtain ⟨rfl, rfl, rfl⟩ := inj (g1.symm.trans k1)
        cases m2 with
        | plain m2 => exact ⟨m2, m3⟩
        | enters _ _ _ hm => exact hm.elim
    obtain rfl : fr2 = fr1 := FrR.fun o2.1 k2
    obtain rfl : c2 = c1 := All2.fun (R := FrR Q St Q) (fun _ _ _ h k => FrR.fun h k) o2.2 k3
    have hw : w2 = re v1 τ (d + n) := by
      have a1 := k4.eq
      have a2 := k4.os
      have a3 := k4.output
      have a4 := k5.1
      have a5 := k5.2
      obtain ⟨b1, b2, b3, b4, b5⟩ := w2
      simp only [re_tape, re_drawn] at a1 a2 a3 a4 a5
      subst a1 a2 a3 a4 a5
      rfl
    rw [hw] at k1
    exact ⟨es2, k1⟩
end
end Go.Proofs.Ytdlnlcjmjgbikaa
/- What comes to an end on every tape comes to it whatever answers come. -/
namespace Go.Proofs.Ytdlnlcjmjgbikaa
open Go Go.Conc

section
variable (Q : Program) (base : List Frame) (R : Frame → List Frame → World → Prop)
/-- Whatever answers come, it comes to this. -/
inductive Ends : Frame → List Frame → World → Prop
  | stop {fr : Frame} {c : List Frame} {v : World} : R fr c v → Ends fr c v
  | step {fr : Frame} {c : List Frame} {v : World} (f : (Nat → Question → Nat) → Nat → Frame) (l : (Nat → Question → Nat) → Nat → List Frame) (u : (Nat → Question → Nat) → Nat → World) (e : (Nat → Question → Nat) → Nat → Array Event)
      (hl : c ≠ [] ∨ fr.mode = .run ∨ fr.defers ≠ []) (h : ∀ τ d, stepG Q true (G fr (c ++ base)) (re v τ d) = .go (G (f τ d) (l τ d ++ base)) (u τ d) (e τ d)) (k : ∀ τ d, Ends (f τ d) (l τ d) (u τ d)) : Ends fr c v
/-- Within so many steps. -/
def Rch : Nat → Frame → List Frame → World → Prop
  | 0, fr, c, v => R fr c v
  | n + 1, fr, c, v => R fr c v ∨ ((c ≠ [] ∨ fr.mode = .run ∨ fr.defers ≠ []) ∧ ∃ fr1 c1 v1 es, stepG Q true (G fr (c ++ base)) v = .go (G fr1 (c1 ++ base)) v1 es ∧ Rch n fr1 c1 v1)
end

section
variable {Q : Program} {base : List Frame} {R : Frame → List Frame → World → Prop} {St : List TypeId}

theorem go_inj {a b : Frame} {l k : List Frame} {x y : World} {e f : Array Event} (hh : GStep.go (G a (l ++ base)) x e = .go (G b (k ++ base)) y f) : a = b ∧ l = k ∧ x = y := by
  injection hh with e1 e2 e3
  exact ⟨congrArg Goroutine.frame e1, List.append_cancel_right (congrArg Goroutine.callers e1), e2⟩

theorem rch_shift (B : Bodies Q Q St (fun _ => False)) (E : Env Q Q (fun _ => False) St) (hR : ∀ fr c v τ d, R fr c v → R fr c (re v τ d)) (n : Nat) : ∀ {fr : Frame} {c : List Frame} {v : World} {τ τ' : Nat → Question → Nat} {d d' : Nat}, Own Q St fr → Owns Q St c → Gd v →
    (∀ j q, τ' (d' + j) q = τ (d + j) q) → Rch Q base R n fr c (re v τ d) → Rch Q base R n fr c (re v τ' d') := by
  induction n with
  | zero => exact fun {fr c v τ τ' d d'} _ _ _ _ h => by have := hR _ _ _ τ' d' h; rw [re_re] at this; exact this
  | succ n ih =>
    intro fr c v τ τ' d d' ho hos hg ht h
    rcases h with h | ⟨hl, fr1, c1, v1, es, h1, h2⟩
    · exact .inl (by have := hR _ _ _ τ' d' h; simpa using this)
    · rcases own_step (base := base) B E ho hos hl (re v τ d) (hg.re τ d) with ⟨o, x, y, he⟩ | ⟨fr2, c2, v2, es2, m, k1, k2, k3, k4, k5, k6⟩
      · rw [he] at h1; cases h1
      · obtain ⟨rfl, rfl, rfl⟩ := go_inj (h1.symm.trans k1)
        obtain ⟨es', k7⟩ := k6 τ' d' (fun j q _ => by simpa using ht j q)
        refine .inr ⟨hl, _, _, _, _, k7, ?_⟩
        have e : v1 = re v1 τ (d + m) := by
          have a := k2.1
          have b := k2.2
          simp only [re_tape, re_drawn] at a b
          rw [← a, ← b]
          rfl
        rw [e] at h2
        exact ih k4 k5 k3 (fun j q => by rw [Nat.add_assoc, Nat.add_assoc]; exact ht (m + j) q) h2

/-- On every tape it comes to its end. -/
def All (Q : Program) (base : List Frame) (R : Frame → List Frame → World → Prop) (fr : Frame) (c : List Frame) (v : World) : Prop := ∀ τ d, ∃ n, Rch Q base R n fr c (re v τ d)

/-- A step, some answers being given, keeps that. -/
theorem All.step (B : Bodies Q Q St (fun _ => False)) (E : Env Q Q (fun _ => False) St) (hR : ∀ fr c v τ d, R fr c v → R fr c (re v τ d)) {fr : Frame} {c : List Frame} {v : World} (ho : Own Q St fr) (hos : Owns Q St c) (hg : Gd v) (h : All Q base R fr c v) (hn : ¬ R fr c v) (τ : Nat → Question → Nat) (d : Nat) :
    (c ≠ [] ∨ fr.mode = .run ∨ fr.defers ≠ []) ∧ ∃ fr1 c1 v1 es n, stepG Q true (G fr (c ++ base)) (re v τ d) = .go (G fr1 (c1 ++ base)) v1 es ∧ On (re v τ d) v1 n ∧ Gd v1 ∧ Own Q St fr1 ∧ Owns Q St c1 ∧ All Q base R fr1 c1 v1 ∧
      ∀ τ' d', (∀ j q, j < n → τ' (d' + j) q = τ (d + j) q) → ∃ es', stepG Q true (G fr (c ++ base)) (re v τ' d') = .go (G fr1 (c1 ++ base)) (re v1 τ' (d' + n)) es' := by
  have hnR : ∀ τ d, ¬ R fr c (re v τ d) := fun τ d h => hn (by have := hR _ _ _ v.tape v.drawn h; simpa [re_self] using this)
  have first : ∀ τ d, (c ≠ [] ∨ fr.mode = .run ∨ fr.defers ≠ []) ∧ ∃ n fr1 c1 v1 es, stepG Q true (G fr (c ++ base)) (re v τ d) = .go (G fr1 (c1 ++ base)) v1 es ∧ Rch Q base R n fr1 c1 v1 := by
    intro τ d
    obtain ⟨n, hr⟩ := h τ d
    cases n with
    | zero => exact absurd hr (hnR τ d)
    | succ n =>
      rcases hr with hr | ⟨hl, fr1, c1, v1, es, h1, h2⟩
      · exact absurd hr (hnR τ d)
      · exact ⟨hl, n, fr1, c1, v1, es, h1, h2⟩
  obtain ⟨hl, _⟩ := first τ d
  refine ⟨hl, ?_⟩
  rcases own_step (base := base) B E ho hos hl (re v τ d) (hg.re τ d) with ⟨o, x, y, he⟩ | ⟨fr2, c2, v2, es2, m, k1, k2, k3, k4, k5, k6⟩
  · obtain ⟨_, n, fr1, c1, v1, es, h1, _⟩ := first τ d
    rw [he] at h1; cases h1
  · refine ⟨fr2, c2, v2, es2, m, k1, k2, k3, k4, k5, fun τ1 d1 => ?_, fun τ' d' ht => ?_⟩
    · -- the answers given, and then those of any tape
      let T : Nat → Question → Nat := fun x q => if x < m then τ (d + x) q else τ1 (d1 + (x - m)) q
      obtain ⟨_, n, fr1, c1, v1, es, h1, h2⟩ := first T 0
      obtain ⟨es', k7⟩ := k6 T 0 (fun j q hj => by
        simp only [re_tape, re_drawn, Nat.zero_add, T]
        rw [if_pos hj])
      rw [re_re] at k7
      obtain ⟨rfl, rfl, rfl⟩ := go_inj (h1.symm.trans k7)
      refine ⟨n, rch_shift B E hR n k4 k5 k3 (fun j q => ?_) h2⟩
      simp only [Nat.zero_add, T]
      rw [if_neg (by omega), Nat.add_sub_cancel_left]
    · obtain ⟨es', k7⟩ := k6 τ' d' (fun j q hj => by simpa using ht j q hj)
      exact ⟨es', by simpa using k7⟩

/-- A state of the sequential program by itself, on its way. -/
structure Sta (Q : Program) (base : List Frame) (R : Frame → List Frame → World → Prop) (St : List TypeId) where
  fr : Frame
  c : List Frame
  v : World
  own : Own Q St fr
  owns : Owns Q St c
  gd : Gd v
  all : All Q base R fr c v

/-- ████ WHAT COMES TO ITS END ON EVERY TAPE COMES TO IT WHATEVER ANSWERS COME. ████ -/
theorem ends_of_all (B : Bodies Q Q St (fun _ => False)) (E : Env Q Q (fun _ => False) St) (hR : ∀ fr c v τ d, R fr c v → R fr c (re v τ d)) (s0 : Sta Q base R St) : Ends Q base R s0.fr s0.c s0.v := by
  classical
  apply Classical.byContradiction
  intro h0
  -- from a state that does not, some answers lead to another one that does not
  have next : ∀ s : { s : Sta Q base R St // ¬ Ends Q base R s.fr s.c s.v }, ∃ x : (Nat → Question → Nat) × Nat × Nat × { s : Sta Q base R St // ¬ Ends Q base R s.fr s.c s.v }, ∀ τ' d', (∀ j q, j < x.2.2.1 → τ' (d' + j) q = x.1 (x.2.1 + j) q) →
      ∃ es', stepG Q true (G s.1.fr (s.1.c ++ base)) (re s.1.v τ' d') = .go (G x.2.2.2.1.fr (x.2.2.2.1.c ++ base)) (re x.2.2.2.1.v τ' (d' + x.2.2.1)) es' := by
    rintro ⟨s, hs⟩
    have hnr : ¬ R s.fr s.c s.v := fun h => hs (.stop h)
    have st := fun τ d => All.step B E hR s.own s.owns s.gd s.all hnr τ d
    apply Classical.byContradiction
    intro hno
    have good : ∀ τ d, ∃ x : Frame × List Frame × World × Array Event, stepG Q true (G s.fr (s.c ++ base)) (re s.v τ d) = .go (G x.1 (x.2.1 ++ base)) x.2.2.1 x.2.2.2 ∧ Ends Q base R x.1 x.2.1 x.2.2.1 := by
      intro τ d
      obtain ⟨_, fr1, c1, v1, es, n, k1, k2, k3, k4, k5, k6, k7⟩ := st τ d
      refine ⟨(fr1, c1, v1, es), k1, ?_⟩
      apply Classical.byContradiction
      intro hbad
      exact hno ⟨(τ, d, n, ⟨⟨fr1, c1, v1, k4, k5, k3, k6⟩, hbad⟩), k7⟩
    refine hs (.step (fun τ d => (Classical.choose (good τ d)).1) (fun τ d => (Classical.choose (good τ d)).2.1) (fun τ d => (Classical.choose (good τ d)).2.2.1) (fun τ d => (Classical.choose (good τ d)).2.2.2) (st s.v.tape s.v.drawn).1
      (fun τ d => (Classical.choose_spec (good τ d)).1) (fun τ d => (Classical.choose_spec (good τ d)).2))
  obtain ⟨F, hF⟩ := Classical.axiomOfChoice next
  let τ := fun s => (F s).1
  let d := fun s => (F s).2.1
  let m := fun s => (F s).2.2.1
  let t := fun s => (F s).2.2.2
  have ht : ∀ s τ' d', (∀ j q, j < m s → τ' (d' + j) q = τ s (d s + j) q) → ∃ es', stepG Q true (G s.1.fr (s.1.c ++ base)) (re s.1.v τ' d') = .go (G (t s).1.fr ((t s).1.c ++ base)) (re (t s).1.v τ' (d' + m s)) es' := hF
  let s : Nat → { s : Sta Q base R St // ¬ Ends Q base R s.fr s.c s.v } := fun n => Nat.rec ⟨s0, h0⟩ (fun _ x => t x) n
  let D : Nat → Nat := fun n => Nat.rec 0 (fun i x => x + m (s i)) n
  have hD : ∀ i, D (i + 1) = D i + m (s i) := fun i => rfl
  have hmono : ∀ i k, D i ≤ D (i + k) := by
    intro i k
    induction k with
    | zero => exact Nat.le_refl _
    | succ k ih => rw [← Nat.add_assoc, hD]; omega
  -- the answers put together
  let T : Nat → Question → Nat := fun x q => if h : ∃ i, D i ≤ x ∧ x < D (i + 1) then τ (s (Classical.choose h)) (d (s (Classical.choose h)) + (x - D (Classical.choose h))) q else 0
  have hT : ∀ i j q, j < m (s i) → T (D i + j) q = τ (s i) (d (s i) + j) q := by
    intro i j q hj
    have hx : ∃ k, D k ≤ D i + j ∧ D i + j < D (k + 1) := ⟨i, by omega, by rw [hD]; omega⟩
    have hk := Classical.choose_spec hx
    have e : Classical.choose hx = i := by
      generalize Classical.choose hx = k at hk
      rcases Nat.lt_trichotomy k i with h | h | h
      · have := hmono (k + 1) (i - (k + 1))
        rw [show k + 1 + (i - (k + 1)) = i by omega] at this
        omega
      · exact h
      · have := hmono (i + 1) (k - (i + 1))
        rw [show i + 1 + (k - (i + 1)) = k by omega, hD] at this
        omega
    simp only [T]
    rw [dif_pos hx, e, Nat.add_sub_cancel_left]
  have run : ∀ n i, ¬ Rch Q base R n (s i).1.fr (s i).1.c (re (s i).1.v T (D i)) := by
    intro n
    induction n with
    | zero =>
      intro i h
      refine (s i).2 (.stop ?_)
      have := hR _ _ _ (s i).1.v.tape (s i).1.v.drawn h
      rw [re_re, re_self] at this
      exact this
    | succ n ih =>
      intro i h
      rcases h with h | ⟨_, fr1, c1, v1, es, h1, h2⟩
      · refine (s i).2 (.stop ?_)
        have := hR _ _ _ (s i).1.v.tape (s i).1.v.drawn h
        rw [re_re, re_self] at this
        exact this
      · obtain ⟨es', h3⟩ := ht (s i) T (D i) (fun j q hj => hT i j q hj)
        obtain ⟨rfl, rfl, rfl⟩ := go_inj (h1.symm.trans h3)
        exact ih (i + 1) h2
  obtain ⟨n, hn⟩ := s0.all T 0
  exact run n 0 hn
end
end Go.Proofs.Ytdlnlcjmjgbikaa
