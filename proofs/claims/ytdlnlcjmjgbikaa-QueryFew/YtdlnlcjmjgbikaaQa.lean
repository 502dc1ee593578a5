/- Two programs that part in their functions alone, two worlds that part in some blocks (X) and on the tape: what a piece of the machine does in both. -/
import Derived.Conc.Beside
namespace Go.Proofs.Ytdlnlcjmjgbikaa
open Go Go.Conc

/-- A world that is further on by n answers, on the same tape. -/
def On (w w' : World) (n : Nat) : Prop := w'.tape = w.tape ∧ w'.drawn = w.drawn + n
theorem On.refl (w : World) : On w w 0 := ⟨rfl, rfl⟩
theorem On.trans {a b c : World} {n m : Nat} (h : On a b n) (k : On b c m) : On a c (n + m) := ⟨k.1.trans h.1, by rw [k.2, h.2, Nat.add_assoc]⟩

/-- The next n answers are the same. -/
def Ag (v w : World) (n : Nat) : Prop := ∀ j q, j < n → w.tape (w.drawn + j) q = v.tape (v.drawn + j) q
theorem Ag.mono {v w : World} {n m : Nat} (h : Ag v w n) (hm : m ≤ n) : Ag v w m := fun j q hj => h j q (Nat.lt_of_lt_of_le hj hm)
theorem Ag.on {v v' w w' : World} {n m : Nat} (h : Ag v w (n + m)) (a : On v v' n) (b : On w w' n) : Ag v' w' m := by
  intro j q hj
  rw [a.1, a.2, b.1, b.2, Nat.add_assoc, Nat.add_assoc]
  exact h (n + j) q (by omega)

/-- The number of no type. -/
def bad : TypeId := 1000000000000
/-- What the sequential program's world has in the blocks X: nothing that can be read, and of which no size is told. -/
def psn : Obj := .stringIter .empty 0

/-- v: the world of the sequential program; in the blocks X it holds nothing that can be read. -/
structure Rel (X : Nat → Prop) (v w : World) : Prop where
  size : v.heap.size = w.heap.size
  same : ∀ r, ¬ X r → v.heap[r]? = w.heap[r]?
  pois : ∀ r, X r → v.heap[r]? = some psn
  os : v.os = w.os
  output : v.output = w.output

theorem Rel.refl (v : World) : Rel (fun _ => False) v v := ⟨rfl, fun _ _ => rfl, fun _ h => h.elim, rfl, rfl⟩

/-- The blocks X are as they were. -/
def Kx (X : Nat → Prop) (w w' : World) : Prop := w.heap.size ≤ w'.heap.size ∧ ∀ r, X r → w'.heap[r]? = w.heap[r]?
theorem Kx.refl (X : Nat → Prop) (w : World) : Kx X w w := ⟨Nat.le_refl _, fun _ _ => rfl⟩
theorem Kx.trans {X : Nat → Prop} {a b c : World} (h : Kx X a b) (k : Kx X b c) : Kx X a c := ⟨Nat.le_trans h.1 k.1, fun r hr => (k.2 r hr).trans (h.2 r hr)⟩

/-- A loop over a function that is under way, or memory seen as another type. -/
def Odd : Obj → Prop
  | .loop _ => True
  | .view _ _ => True
  | _ => False
/-- None such lies in it. -/
def Gd (v : World) : Prop := ∀ (r : Nat) (o : Obj), Odd o → v.heap[r]? ≠ some o
theorem Gd.push {v : World} (h : Gd v) {o : Obj} (ho : ¬ Odd o) : Gd { v with heap := v.heap.push o } := by
  intro r x hx e
  simp only [Array.getElem?_push] at e
  split at e
  · exact ho (Option.some.inj e ▸ hx)
  · exact h r x hx e
theorem Gd.put {v : World} (h : Gd v) {b : Nat} {o : Obj} (ho : ¬ Odd o) : Gd { v with heap := v.heap.setIfInBounds b o } := by
  intro r x hx e
  simp only [Array.getElem?_setIfInBounds] at e
  split at e
  · split at e
    · exact ho (Option.some.inj e ▸ hx)
    · cases e
  · exact h r x hx e

/-- What may be listed: no block of X is touched; no mark but that of a function without a body, and of room. -/
def Ev (X : Nat → Prop) (e : Event) : Prop :=
  match e.loc with
  | .cell a => ¬ X a.block
  | .obj r => ¬ X r
  | .mark (.extern _) => True
  | .mark .noRoom => True
  | _ => False

/-- The list has grown by such entries. -/
def Evs (X : Nat → Prop) (es es' : Array Event) : Prop := ∃ u, es' = es ++ u ∧ ∀ e ∈ u, Ev X e
theorem Evs.refl (X : Nat → Prop) (es : Array Event) : Evs X es es := ⟨#[], by simp, by simp⟩
theorem Evs.trans {X : Nat → Prop} {a b c : Array Event} (h : Evs X a b) (k : Evs X b c) : Evs X a c := by
  obtain ⟨u, rfl, hu⟩ := h
  obtain ⟨u', rfl, hu'⟩ := k
  exact ⟨u ++ u', by simp, fun e he => (Array.mem_append.1 he).elim (hu e) (hu' e)⟩
theorem Evs.one {X : Nat → Prop} (es : Array Event) {e : Event} (h : Ev X e) : Evs X es (es.push e) := ⟨#[e], by simp, by simpa using h⟩

section
variable (P Q : Program) (X : Nat → Prop)

def Met {α : Type} (es : Array Event) (w : World) (n : Nat) : Result α × Array Event → Result α × Array Event → Prop
  | (.ok a v', es'), r => ∃ w', r = (.ok a w', es') ∧ Rel X v' w' ∧ On w w' n ∧ Kx X w w' ∧ Evs X es es'
  | (.halt (.panic x) v', es'), r => ∃ w', r = (.halt (.panic x) w', es') ∧ Rel X v' w' ∧ On w w' n ∧ Kx X w w' ∧ Evs X es es'
  | (.halt _ _, _), _ => True

/-- How it may end. -/
def Fine {α : Type} : Result α → Prop
  | .ok _ _ => True
  | .halt (.panic _) _ => True
  | .halt (.stuck _) _ => True
  | .halt (.unsupported _) _ => True
  | .halt _ _ => False

def resW {α : Type} : Result α → World
  | .ok _ w => w
  | .halt _ w => w

/-- What s' does under Q, s does under P. -/
def Tm {α : Type} (s' s : Sem α) : Prop := ∀ (v : World) (es : Array Event), Gd v → Fine (s'.runT Q v es).1 ∧ Gd (resW (s'.runT Q v es).1) ∧ ∃ n, On v (resW (s'.runT Q v es).1) n ∧
  ∀ w, Rel X v w → Ag v w n → Met X es w n (s'.runT Q v es) (s.runT P w es)
end

section
variable {P Q : Program} {X : Nat → Prop}

theorem tm_pure {α : Type} (a : α) : Tm P Q X (.pure a) (.pure a) :=
  fun v es hg => ⟨trivial, hg, 0, .refl v, fun w h _ => ⟨w, rfl, h, .refl w, .refl X w, .refl X es⟩⟩

theorem tm_stuck {α : Type} (m : String) (s : Sem α) : Tm P Q X (.halt (.stuck m)) s := fun v _ hg => ⟨trivial, hg, 0, .refl v, fun _ _ _ => trivial⟩
theorem tm_unsupported {α : Type} (u : Unsupported) (s : Sem α) : Tm P Q X (.halt (.unsupported u)) s := fun v _ hg => ⟨trivial, hg, 0, .refl v, fun _ _ _ => trivial⟩
theorem tm_panic {α : Type} (x : Value) : Tm P Q X (α := α) (.halt (.panic x)) (.halt (.panic x)) :=
  fun v es hg => ⟨trivial, hg, 0, .refl v, fun w h _ => ⟨w, rfl, h, .refl w, .refl X w, .refl X es⟩⟩

theorem tm_bind {α β : Type} {s' s : Sem α} {f' f : α → Sem β} (h : Tm P Q X s' s) (hf : ∀ a, Tm P Q X (f' a) (f a)) : Tm P Q X (s'.bind f') (s.bind f) := by
  intro v es hg
  obtain ⟨hfine, hg1, n, hon, hm⟩ := h v es hg
  rw [Sem.runT_bind' Q s' f' v es]
  cases hr : s'.runT Q v es with
  | mk r es1 =>
    rw [hr] at hfine hg1 hon hm
    cases r with
    | ok a v1 =>
      obtain ⟨hfine2, hg2, n2, hon2, hm2⟩ := hf a v1 es1 hg1
      refine ⟨hfine2, hg2, n + n2, hon.trans hon2, fun w hw ha => ?_⟩
      obtain ⟨w1, e1, r1, o1, k1, v1'⟩ := hm w hw (ha.mono (by omega))
      have hx := hm2 w1 r1 (ha.on hon o1)
      rw [Sem.runT_bind' P s f w es, e1]
      simp only
      revert hx
      generalize (f' a).runT Q v1 es1 = y
      obtain ⟨y1, y2⟩ := y
      cases y1 with
      | ok b v2 =>
        rintro ⟨w2, e2, r2, o2, k2, v2'⟩
        exact ⟨w2, e2, r2, o1.trans o2, k1.trans k2, v1'.trans v2'⟩
      | halt hh v2 =>
        cases hh with
        | panic x =>
          rintro ⟨w2, e2, r2, o2, k2, v2'⟩
          exact ⟨w2, e2, r2, o1.trans o2, k1.trans k2, v1'.trans v2'⟩
        | _ => exact fun _ => trivial
    | halt hh v1 =>
      refine ⟨by cases hh <;> exact hfine, hg1, n, hon, fun w hw ha => ?_⟩
      have hx := hm w hw ha
      cases hh with
      | panic x =>
        obtain ⟨w1, e1, r1, o1, k1, v1'⟩ := hx
        rw [Sem.runT_bind' P s f w es, e1]
        exact ⟨w1, rfl, r1, o1, k1, v1'⟩
      | _ => trivial

theorem Rel.low {v w : World} (h : Rel X v w) {r : Nat} (hx : X r) : r < v.heap.size := by
  have := h.pois r hx
  exact (Array.getElem?_eq_some_iff.1 this).1
theorem Rel.noCell {v w : World} (h : Rel X v w) {a : Addr} (hx : X a.block) : v.cell? a = none := by
  simp [World.cell?, h.pois _ hx, psn]
theorem Rel.cell {v w : World} (h : Rel X v w) {a : Addr} (hx : ¬ X a.block) : w.cell? a = v.cell? a := by
  simp [World.cell?, h.same _ hx]
theorem Rel.frozen {v w : World} (h : Rel X v w) {a : Addr} (hx : ¬ X a.block) : w.frozen? a = v.frozen? a := by
  simp [World.frozen?, h.same _ hx]
theorem Rel.shape {v w : World} (h : Rel X v w) {r : Nat} (hx : ¬ X r) : w.shape? r = v.shape? r := by
  simp [World.shape?, h.same _ hx]

theorem tm_mark (m : Mark) (hm : Ev X ⟨.mark m, false, true⟩) : Tm P Q X (mark m) (mark m) :=
  fun v es hg => ⟨trivial, hg, 0, .refl v, fun w h _ => ⟨w, rfl, h, .refl w, .refl X w, .one es hm⟩⟩

theorem tm_program {α : Type} {k' k : Program → Sem α} (h : Tm P Q X (k' Q) (k P)) : Tm P Q X (.program k') (.program k) := h

theorem tm_choose (q : Question) : Tm P Q X (choose q) (choose q) := by
  intro v es hg
  by_cases hq : q.forced = true
  · simp only [choose, Sem.runT, hq, if_true]
    exact ⟨trivial, hg, 0, .refl v, fun w h _ => ⟨w, rfl, h, .refl w, .refl X w, .refl X es⟩⟩
  · simp only [choose, Sem.runT, hq]
    refine ⟨trivial, hg, 1, ⟨rfl, rfl⟩, fun w h ha => ⟨{ w with drawn := w.drawn + 1 }, ?_, ⟨h.size, h.same, h.pois, h.os, h.output⟩, ⟨rfl, rfl⟩, ⟨Nat.le_refl _, fun _ _ => rfl⟩, .refl X es⟩⟩
    have := ha 0 q (by omega)
    simp only [Nat.add_zero] at this
    simp [this]

theorem tm_new (o : Obj) (ho : ¬ Odd o) : Tm P Q X (newObj o) (newObj o) := by
  intro v es hg
  refine ⟨trivial, hg.push ho, 0, ⟨rfl, rfl⟩, fun w h _ => ⟨{ w with heap := w.heap.push o }, ?_, ?_, ⟨rfl, rfl⟩, ⟨by simp, fun r hr => ?_⟩, .refl X es⟩⟩
  · simp only [newObj, Sem.runT, h.size]
  · refine ⟨by simp [h.size], fun r hr => ?_, fun r hr => ?_, h.os, h.output⟩
    · simp only [Array.getElem?_push, h.size, h.same r hr]
    · have := h.low hr
      simp only [Array.getElem?_push]
      rw [if_neg (by omega)]
      exact h.pois r hr
  · have := h.low hr
    have := h.size
    simp only [Array.getElem?_push]
    rw [if_neg (by omega)]

theorem tm_shape {α : Type} {k' k : Option (TypeId × Nat) → Sem α} (r : Nat) (h : ∀ s, Tm P Q X (k' s) (k s)) (hx : X r → ∀ s, Tm P Q X (k' none) (k s)) : Tm P Q X (.shape r k') (.shape r k) := by
  intro v es hg
  obtain ⟨h1, hg1, n, h2, h3⟩ := h (v.shape? r) v es hg
  refine ⟨h1, hg1, n, h2, fun w hw ha => ?_⟩
  by_cases hr : X r
  · obtain ⟨_, _, n', g2, g3⟩ := hx hr (w.shape? r) v es hg
    have e : v.shape? r = none := by simp [World.shape?, hw.pois r hr, psn]
    simp only [Sem.runT, e] at h2 h3 ⊢
    have : n = n' := by have a := h2.2; have b := g2.2; omega
    subst this
    exact g3 w hw ha
  · simp only [Sem.runT, hw.shape hr]
    exact h3 w hw ha

theorem tm_frozen {α : Type} {k' k : Bool → Sem α} (a : Addr) (h : ∀ s, Tm P Q X (k' s) (k s)) (hx : X a.block → ∀ s, Tm P Q X (k' false) (k s)) : Tm P Q X (.frozen a k') (.frozen a k) := by
  intro v es hg
  obtain ⟨h1, hg1, n, h2, h3⟩ := h (v.frozen? a) v es hg
  refine ⟨h1, hg1, n, h2, fun w hw ha => ?_⟩
  by_cases hr : X a.block
  · obtain ⟨_, _, n', g2, g3⟩ := hx hr (w.frozen? a) v es hg
    have e : v.frozen? a = false := by simp [World.frozen?, hw.pois _ hr, psn]
    simp only [Sem.runT, e] at h2 h3 ⊢
    have : n = n' := by have a := h2.2; have b := g2.2; omega
    subst this
    exact g3 w hw ha
  · simp only [Sem.runT, hw.frozen hr]
    exact h3 w hw ha

theorem tm_getObj (r : Nat) (hr : ¬ X r) : Tm P Q X (getObj r) (getObj r) := by
  intro v es hg
  simp only [getObj, Sem.runT]
  split
  · exact ⟨trivial, hg, 0, .refl v, fun _ _ _ => trivial⟩
  · rename_i o ho hne
    refine ⟨trivial, hg, 0, .refl v, fun w h _ => ⟨w, ?_, h, .refl w, .refl X w, .one es ?_⟩⟩
    · rw [← h.same r hr, hne]
      cases o <;> first | rfl | exact absurd rfl (ho _ _ _)
    · exact hr
  · exact ⟨trivial, hg, 0, .refl v, fun _ _ _ => trivial⟩

theorem tm_setObj (r : Nat) (o : Obj) (hr : ¬ X r) (hol : ¬ Odd o) : Tm P Q X (setObj r o) (setObj r o) := by
  intro v es hg
  simp only [setObj, Sem.runT]
  split
  · exact ⟨trivial, hg, 0, .refl v, fun _ _ _ => trivial⟩
  · rename_i o' ho hne
    refine ⟨trivial, hg.put hol, 0, ⟨rfl, rfl⟩, fun w h _ => ?_⟩
    refine ⟨{ w with heap := w.heap.setIfInBounds r o }, ?_, ⟨by simp [h.size], fun k hk => ?_, fun k hk => ?_, h.os, h.output⟩, ⟨rfl, rfl⟩, ⟨by simp, fun k hk => ?_⟩, .one es hr⟩
    · rw [← h.same r hr, hne]
      cases o' <;> first | rfl | exact absurd rfl (ho _ _ _)
    · simp only [Array.getElem?_setIfInBounds, h.size, h.same k hk]
    · rw [Array.getElem?_setIfInBounds_ne (fun e => hr (by rw [e]; exact hk))]
      exact h.pois k hk
    · rw [Array.getElem?_setIfInBounds_ne (fun e => hr (by rw [e]; exact hk))]
  · exact ⟨trivial, hg, 0, .refl v, fun _ _ _ => trivial⟩

theorem seen_none {p : Program} {w : World} {at_ : Addr} {u : TypeId} {k : Addr} {m : Bool} {r : Array Value × TypeId × (Nat × Nat) × Nat × Value × List (Nat × Nat × List UInt8)}
    (h : w.heap[at_.block]? = some psn) : w.seen p at_ u k m ≠ .ok r := by
  intro e
  unfold World.seen at e
  cases h1 : (k.spot.isSome || at_.spot.isSome)
  case true => simp [h1, bind, Except.bind] at e
  cases h2 : plainCell p p.depth u k.off with
  | none => simp [h1, h2] at e
  | some like =>
  cases h3 : like.bytes? with
  | none => simp [h1, h2, h3] at e
  | some bs =>
  cases h4 : byteOfCell p p.depth u k.off with
  | none => simp [h1, h2, h3, h4] at e
  | some β => simp [h1, h2, h3, h4, h, psn] at e

theorem seen_same {p : Program} {v w : World} {at_ : Addr} {u : TypeId} {k : Addr} {m : Bool} (h : w.heap[at_.block]? = v.heap[at_.block]?) : w.seen p at_ u k m = v.seen p at_ u k m := by
  unfold World.seen
  rw [h]

theorem viewLoad_rel {p : Program} {v w : World} {at_ : Addr} {u : TypeId} {k : Addr} {m : Bool} {r : Value × List Addr} (hw : Rel X v w) (h : v.viewLoad p at_ u k m = .ok r) :
    w.viewLoad p at_ u k m = .ok r ∧ ¬ X at_.block ∧ ∀ a ∈ r.2, a.block = at_.block := by
  have hx : ¬ X at_.block := fun hx => by
    unfold World.viewLoad at h
    cases hs : v.seen p at_ u k m with
    | error _ => simp [hs, bind, Except.bind] at h
    | ok r => exact seen_none (hw.pois _ hx) hs
  refine ⟨?_, hx, ?_⟩
  · rw [← h]
    unfold World.viewLoad
    rw [seen_same (hw.same _ hx).symm]
  · unfold World.viewLoad at h
    cases hs : v.seen p at_ u k m with
    | error _ => simp [hs, bind, Except.bind] at h
    | ok y =>
      obtain ⟨y1, y2, y3, y4, y5, y6⟩ := y
      simp only [hs, bind, Except.bind] at h
      split at h
      · cases h
        intro a ha
        obtain ⟨z, _, rfl⟩ := List.mem_map.1 ha
        rfl
      · cases h

theorem viewStore_rel {p : Program} {v v1 w : World} {at_ : Addr} {u : TypeId} {k : Addr} {x : Value} {m : Bool} {l : List Addr} (hw : Rel X v w) (h : v.viewStore p at_ u k x m = .ok (v1, l)) :
    ∃ c e f, v1 = { v with heap := v.heap.setIfInBounds at_.block (.cells c e f) } ∧ w.viewStore p at_ u k x m = .ok ({ w with heap := w.heap.setIfInBounds at_.block (.cells c e f) }, l) ∧ ¬ X at_.block ∧ ∀ a ∈ l, a.block = at_.block := by
  have hx : ¬ X at_.block := fun hx => by
    unfold World.viewStore at h
    cases ht : tight p p.depth u
    · simp [ht, bind, Except.bind] at h
    cases hs : v.seen p at_ u k m with
    | error _ => simp [ht, hs, bind, Except.bind] at h
    | ok r => exact seen_none (hw.pois _ hx) hs
  unfold World.viewStore at h ⊢
  rw [seen_same (hw.same _ hx).symm]
  cases ht : tight p p.depth u
  · simp [ht, bind, Except.bind] at h
  cases hs : v.seen p at_ u k m with
  | error _ => simp [ht, hs, bind, Except.bind] at h
  | ok y =>
    obtain ⟨y1, y2, y3, y4, y5, y6⟩ := y
    cases hb : x.bytes? with
    | none => simp [ht, hs, hb, bind, Except.bind] at h
    | some bs =>
      simp only [ht, hs, hb, bind, Except.bind, Bool.not_true, if_false, Bool.false_eq_true, pure, Except.pure] at h ⊢
      split at h
      · cases h
      · rename_i hl
        rw [if_neg hl]
        split at h
        · cases h
        · cases h
          refine ⟨_, _, _, rfl, rfl, hx, fun a ha => ?_⟩
          obtain ⟨z, _, rfl⟩ := List.mem_map.1 ha
          rfl

theorem evs_cells {es : Array Event} {l : List Addr} {wr sy : Bool} {b : Nat} (hb : ¬ X b) (hl : ∀ a ∈ l, a.block = b) : Evs X es (es ++ l.toArray.map (⟨.cell ·, wr, sy⟩)) := by
  refine ⟨_, rfl, fun e he => ?_⟩
  simp only [List.map_toArray, List.mem_toArray, List.mem_map] at he
  obtain ⟨a, ha, rfl⟩ := he
  show ¬ X a.block
  rw [hl a ha]
  exact hb

end

/-! ### What the tables alone decide is the same for both programs. -/
section
variable (T : Tables) (F F' : Array Func)
theorem kin_bo : ∀ d t o, byteOfCell ⟨T, F⟩ d t o = byteOfCell ⟨T, F'⟩ d t o := by
  intro d
  induction d with
  | zero => intros; rfl
  | succ d ih => intro t o; simp only [byteOfCell, ih]; rfl
theorem kin_pc : ∀ d t o, plainCell ⟨T, F⟩ d t o = plainCell ⟨T, F'⟩ d t o := by
  intro d
  induction d with
  | zero => intros; rfl
  | succ d ih => intro t o; simp only [plainCell, ih]; rfl
theorem kin_ch : ∀ d t o, cellHolding ⟨T, F⟩ d t o = cellHolding ⟨T, F'⟩ d t o := by
  intro d
  induction d with
  | zero => intros; rfl
  | succ d ih => intro t o; simp only [cellHolding, ih]; rfl
theorem kin_ti : ∀ d t, tight ⟨T, F⟩ d t = tight ⟨T, F'⟩ d t := by
  intro d
  induction d with
  | zero => intros; rfl
  | succ d ih => intro t; simp only [tight, ih]; rfl
theorem kin_sc (c : Array Value) (e : TypeId) : ∀ f x s, seenCells ⟨T, F⟩ c e f x s = seenCells ⟨T, F'⟩ c e f x s := by
  intro d
  induction d with
  | zero => intros; rfl
  | succ d ih => intro t o; simp only [seenCells, ih, kin_ch T F F']; rfl
theorem kin_se (w : World) (a : Addr) (u : TypeId) (k : Addr) (m : Bool) : World.seen ⟨T, F⟩ w a u k m = World.seen ⟨T, F'⟩ w a u k m := by
  unfold World.seen; simp only [kin_pc T F F', kin_bo T F F', kin_sc T F F']; rfl
theorem kin_vl (w : World) (a : Addr) (u : TypeId) (k : Addr) (m : Bool) : World.viewLoad ⟨T, F⟩ w a u k m = World.viewLoad ⟨T, F'⟩ w a u k m := by
  unfold World.viewLoad; simp only [kin_se T F F']
theorem kin_vs (w : World) (a : Addr) (u : TypeId) (k : Addr) (x : Value) (m : Bool) : World.viewStore ⟨T, F⟩ w a u k x m = World.viewStore ⟨T, F'⟩ w a u k x m := by
  unfold World.viewStore; simp only [kin_se T F F', kin_ti T F F']; rfl
end

/-- Two programs that part in their functions alone. -/
def Kin (P Q : Program) : Prop := P.toTables = Q.toTables

section
variable {P Q : Program} {X : Nat → Prop}

theorem Kin.viewLoad (h : Kin P Q) (w : World) (a : Addr) (u : TypeId) (k : Addr) (m : Bool) : w.viewLoad P a u k m = w.viewLoad Q a u k m := by
  obtain ⟨T, F⟩ := P
  obtain ⟨T', F'⟩ := Q
  obtain rfl : T = T' := h
  exact kin_vl T F F' w a u k m
theorem Kin.viewStore (h : Kin P Q) (w : World) (a : Addr) (u : TypeId) (k : Addr) (x : Value) (m : Bool) : w.viewStore P a u k x m = w.viewStore Q a u k x m := by
  obtain ⟨T, F⟩ := P
  obtain ⟨T', F'⟩ := Q
  obtain rfl : T = T' := h
  exact kin_vs T F F' w a u k x m

theorem farLoad_rel {v w : World} {a : Addr} {m : Bool} {r : Value × List Addr} (hT : Kin P Q) (hw : Rel X v w) (h : v.farLoad Q a m = .ok r) :
    w.farLoad P a m = .ok r ∧ ∃ b, ¬ X b ∧ ∀ a ∈ r.2, a.block = b := by
  unfold World.farLoad at h ⊢
  by_cases hx : X a.block
  · rw [hw.pois _ hx] at h
    cases h
  rw [← hw.same _ hx]
  generalize v.heap[a.block]? = y at h ⊢
  split at h
  · split at h
    · rename_i r' hr'
      cases h
      rw [← hT.viewLoad] at hr'
      obtain ⟨e1, e2, e3⟩ := viewLoad_rel hw hr'
      rw [e1]
      exact ⟨rfl, _, e2, e3⟩
    · cases h
  · cases h

theorem farStore_rel {v v1 w : World} {a : Addr} {x : Value} {m : Bool} {l : List Addr} (hT : Kin P Q) (hw : Rel X v w) (h : v.farStore Q a x m = .ok (v1, l)) :
    ∃ b c e f, v1 = { v with heap := v.heap.setIfInBounds b (.cells c e f) } ∧ w.farStore P a x m = .ok ({ w with heap := w.heap.setIfInBounds b (.cells c e f) }, l) ∧ ¬ X b ∧ ∀ a ∈ l, a.block = b := by
  unfold World.farStore at h ⊢
  by_cases hx : X a.block
  · rw [hw.pois _ hx] at h
    cases h
  rw [← hw.same _ hx]
  generalize v.heap[a.block]? = y at h ⊢
  split at h
  · split at h
    · rename_i r' hr'
      cases h
      rw [← hT.viewStore] at hr'
      obtain ⟨c, e, f, e0, e1, e2, e3⟩ := viewStore_rel hw hr'
      rw [e1]
      exact ⟨_, c, e, f, e0, rfl, e2, e3⟩
    · cases h
  · cases h

theorem farStore_own {v v1 : World} {a : Addr} {x : Value} {m : Bool} {l : List Addr} (h : v.farStore Q a x m = .ok (v1, l)) : ∃ b c e f, v1 = { v with heap := v.heap.setIfInBounds b (.cells c e f) } := by
  obtain ⟨b, c, e, f, e1, _⟩ := farStore_rel (P := Q) (Q := Q) (X := fun _ => False) rfl (.refl v) h
  exact ⟨b, c, e, f, e1⟩

theorem Rel.put {v w : World} (h : Rel X v w) {b : Nat} (hb : ¬ X b) (o : Obj) : Rel X { v with heap := v.heap.setIfInBounds b o } { w with heap := w.heap.setIfInBounds b o } := by
  refine ⟨by simp [h.size], fun k hk => ?_, fun k hk => ?_, h.os, h.output⟩
  · simp only [Array.getElem?_setIfInBounds, h.size, h.same k hk]
  · rw [Array.getElem?_setIfInBounds_ne (fun e => hb (by rw [e]; exact hk))]
    exact h.pois k hk
theorem Kx.put (w : World) {b : Nat} (hb : ¬ X b) (o : Obj) : Kx X w { w with heap := w.heap.setIfInBounds b o } := by
  refine ⟨by simp, fun k hk => ?_⟩
  simp only
  rw [Array.getElem?_setIfInBounds_ne (fun e => hb (by rw [e]; exact hk))]

theorem setCell_put (w : World) (a : Addr) (x : Value) : ∃ o, w.setCell a x = { w with heap := w.heap.setIfInBounds a.block o } ∧ ∀ w' : World, w'.heap[a.block]? = w.heap[a.block]? → w'.setCell a x = { w' with heap := w'.heap.setIfInBounds a.block o } := by
  refine ⟨match w.heap[a.block]? with
    | some (.cells c elem frozen) => .cells (if a.spot.isSome then c else c.setIfInBounds a.off x) elem frozen
    | some o => o
    | none => default, ?_⟩
  have key : ∀ w' : World, w'.heap[a.block]? = w.heap[a.block]? → w'.setCell a x = { w' with heap := w'.heap.setIfInBounds a.block (match w.heap[a.block]? with
    | some (.cells c elem frozen) => .cells (if a.spot.isSome then c else c.setIfInBounds a.off x) elem frozen
    | some o => o
    | none => default) } := by
    intro w' hw'
    rw [← hw']
    unfold World.setCell
    congr 1
    apply Array.ext_getElem?
    intro i
    simp only [Array.getElem?_modify, Array.getElem?_setIfInBounds]
    by_cases hi : a.block = i
    · subst hi
      simp only [if_true]
      by_cases hlt : a.block < w'.heap.size
      · rw [if_pos hlt, Array.getElem?_eq_getElem hlt]
        generalize w'.heap[a.block] = z
        cases z <;> rfl
      · rw [if_neg hlt, Array.getElem?_eq_none (by omega)]
        rfl
    · simp [hi]
  exact ⟨key w rfl, key⟩

theorem tm_load (hT : Kin P Q) (a : Addr) (m : Mode) : Tm P Q X (load a m) (load a m) := by
  intro v es hg
  simp only [load, Sem.runT]
  split
  · rename_i x hx
    refine ⟨trivial, hg, 0, .refl v, fun w h _ => ⟨w, ?_, h, .refl w, .refl X w, ?_⟩⟩
    · have ha : ¬ X a.block := fun ha => by rw [h.noCell ha] at hx; cases hx
      rw [h.cell ha, hx]
    · have ha : ¬ X a.block := fun ha => by rw [h.noCell ha] at hx; cases hx
      exact .one es ha
  · rename_i hx
    split
    · rename_i x l hr
      refine ⟨trivial, hg, 0, .refl v, fun w h _ => ?_⟩
      obtain ⟨e1, b, hb, hl⟩ := farLoad_rel hT h hr
      refine ⟨w, ?_, h, .refl w, .refl X w, evs_cells hb hl⟩
      have : w.cell? a = none := by
        by_cases ha : X a.block
        · unfold World.farLoad at hr
          rw [h.pois _ ha] at hr
          cases hr
        · rw [h.cell ha, hx]
      rw [this]
      simp only [e1]
    · rename_i hh hr
      refine ⟨?_, hg, 0, .refl v, fun w h _ => ?_⟩
      all_goals
        unfold World.farLoad at hr
        split at hr
        · split at hr
          · cases hr
          · cases hr; trivial
        · cases hr
          unfold World.noCell
          split <;> trivial

theorem noCell_fine (w : World) (a : Addr) (m : String) : Fine (α := Unit) (.halt (w.noCell a m) w) := by
  unfold World.noCell
  split <;> trivial

theorem setCell_loop {v : World} (hg : Gd v) {a : Addr} {x : Value} {r : Nat} {o : Obj} (ho : Odd o) (e : (v.setCell a x).heap[r]? = some o) : False := by
  simp only [World.setCell, Array.getElem?_modify] at e
  split at e
  · cases hz : v.heap[r]? with
    | none => rw [hz] at e; cases e
    | some z =>
      rw [hz] at e
      cases z <;> first | (cases e; exact ho.elim) | (cases e; exact hg r _ ho hz)
  · exact hg r o ho e

theorem tm_store (hT : Kin P Q) (a : Addr) (x : Value) (m : Mode) : Tm P Q X (store a x m) (store a x m) := by
  intro v es hg
  by_cases hag : (∃ c, x = .agg c) ∨ ∃ c, x = .tuple c
  · rcases hag with ⟨c, rfl⟩ | ⟨c, rfl⟩
    · exact ⟨trivial, hg, 0, .refl v, fun w h _ => trivial⟩
    · exact ⟨trivial, hg, 0, .refl v, fun w h _ => trivial⟩
  have h1 : ∀ c, x ≠ .agg c := fun c e => hag (.inl ⟨c, e⟩)
  have h2 : ∀ c, x ≠ .tuple c := fun c e => hag (.inr ⟨c, e⟩)
  have hrun : ∀ (p : Program) (u : World), (store a x m).runT p u es = match u.cell? a with
      | some _ => if u.frozen? a then (.halt (.unsupported (.unsafePointer "a write to bytes that a string shares")) u, es) else (.ok () (u.setCell a x), es.push ⟨.cell a, true, m == .atomic⟩)
      | none => match u.farStore p a x (m == .atomic) with
        | .ok (u', touched) => (.ok () u', es ++ touched.toArray.map (⟨.cell ·, true, m == .atomic⟩))
        | .error h => (.halt h u, es) := by
    intro p u
    unfold store
    cases x <;> first | exact absurd rfl (h1 _) | exact absurd rfl (h2 _) | (simp only [Sem.runT]; rfl)
  rw [hrun]
  cases hx : v.cell? a with
  | some y =>
    simp only
    split
    · exact ⟨trivial, hg, 0, .refl v, fun w h _ => trivial⟩
    · rename_i hf
      refine ⟨trivial, ?_, 0, ⟨rfl, rfl⟩, fun w h _ => ?_⟩
      · intro r o ho e
        exact setCell_loop hg ho e
      have ha : ¬ X a.block := fun ha => by rw [h.noCell ha] at hx; cases hx
      obtain ⟨o, e1, e2⟩ := setCell_put v a x
      refine ⟨w.setCell a x, ?_, ?_, ⟨rfl, rfl⟩, ?_, .one es ha⟩
      · rw [hrun, h.cell ha, hx]
        simp only [h.frozen ha, hf]
        rfl
      · rw [e1, e2 w (h.same _ ha).symm]
        exact h.put ha o
      · rw [e2 w (h.same _ ha).symm]
        exact .put w ha o
  | none =>
    simp only
    split
    · rename_i v1 l hr
      refine ⟨trivial, ?_, 0, ?_, fun w h _ => ?_⟩
      · obtain ⟨b, c, e, f, e1⟩ := farStore_own hr
        rw [e1]
        exact hg.put fun h => h
      · have : v1.tape = v.tape ∧ v1.drawn = v.drawn := by
          obtain ⟨b, c, e, f, e1⟩ := farStore_own hr
          rw [e1]
          exact ⟨rfl, rfl⟩
        exact ⟨this.1, by rw [show (resW (Result.ok () v1)) = v1 from rfl, this.2]; rfl⟩
      · obtain ⟨b, c, e, f, e1, e2, e3, e4⟩ := farStore_rel hT h hr
        have hn : w.cell? a = none := by
          by_cases ha : X a.block
          · unfold World.farStore at hr
            rw [h.pois _ ha] at hr
            cases hr
          · rw [h.cell ha, hx]
        refine ⟨{ w with heap := w.heap.setIfInBounds b (.cells c e f) }, ?_, ?_, ⟨rfl, rfl⟩, .put w e3 _, evs_cells e3 e4⟩
        · rw [hrun, hn]
          simp only [e2]
        · rw [e1]
          exact h.put e3 _
    · rename_i hh hr
      have hfine : Fine (α := Unit) (.halt hh v) := by
        unfold World.farStore at hr
        split at hr
        · split at hr
          · cases hr
          · cases hr; trivial
        · cases hr
          exact noCell_fine v a _
      refine ⟨hfine, hg, 0, .refl v, fun w h _ => ?_⟩
      cases hh with
      | panic px =>
        exfalso
        unfold World.farStore at hr
        split at hr
        · split at hr <;> cases hr
        · unfold World.noCell at hr
          split at hr <;> cases hr
      | _ => trivial
end
end Go.Proofs.Ytdlnlcjmjgbikaa
