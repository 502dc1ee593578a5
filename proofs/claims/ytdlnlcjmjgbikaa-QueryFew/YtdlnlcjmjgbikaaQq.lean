/- The list while goroutine 0 and one child act: from the go statement to the join. -/
import Derived.Test.YtdlnlcjmjgbikaaQo
import Derived.Conc.CrowdTrace
namespace Go.Proofs.Ytdlnlcjmjgbikaa
open Go Go.Conc

section
variable (Shun Box Grp : Loc → Prop)
/-- What goroutine 0 may do in company: it reads boxes, it touches the group's cells, but not plainly. -/
def Ok0 (op : MemOp) : Prop := ∀ x, op.act.touch? = some x → (Box x.loc ∧ x.write = false) ∨ (Grp x.loc ∧ x.kind ≠ .plain)
/-- What the child may do: whatever it likes elsewhere; it reads boxes; it touches the group's cells atomically. -/
def OkC (op : MemOp) : Prop := ∀ x, op.act.touch? = some x → (¬ Box x.loc ∧ ¬ Grp x.loc ∧ (Shun x.loc → x.kind ≠ .plain)) ∨ (Box x.loc ∧ x.write = false) ∨ (Grp x.loc ∧ x.kind = .atomic)
/-- The list, p: where the company begins; a: the group's place for releases. -/
structure Co (a : Addr) (c p : Nat) (t : Trace) : Prop where
  clean : ∀ said, ¬ Race said t
  old : ∀ i x, i < p → touchAt t i = some x → x.loc.isMemory = true → (Knows t 0 i ∧ Knows t c i) ∨ (Shun x.loc ∧ x.kind = .atomic)
  new : ∀ i op, p ≤ i → t[i]? = some op → ((op.g = 0 ∧ Ok0 Box Grp op) ∨ (op.g = c ∧ OkC Shun Box Grp op) ∨ (op.g ≠ 0 ∧ op.act.touch? = none)) ∧ op.act ≠ .mark (.release a)
  over : ∀ i g, i < p → t.g? i = some g → g ≠ 0 → t.counts i → ∃ j, t.g? j = some 0 ∧ HappensBefore t i j
  size : p ≤ t.size
/-- The families lie apart. -/
structure Far : Prop where
  box : ∀ l, Box l → ¬ Grp l
  shunB : ∀ l, Shun l → ¬ Box l
  shunG : ∀ l, Shun l → ¬ Grp l
end

section
variable {Shun Box Grp : Loc → Prop} {a : Addr} {c p : Nat} {t u : Trace}
theorem Co.app (F : Far Shun Box Grp) (hc : c ≠ 0) (h : Co Shun Box Grp a c p t) {g : Nat} (hg : g = 0 ∨ g = c) (hu : ∀ op ∈ u, op.g = g ∧ (g = 0 → Ok0 Box Grp op) ∧ (g = c → OkC Shun Box Grp op) ∧ op.act ≠ .mark (.release a)) : Co Shun Box Grp a c p (t ++ u) := by
  have hnew : ∀ op ∈ u, ((op.g = 0 ∧ Ok0 Box Grp op) ∨ (op.g = c ∧ OkC Shun Box Grp op) ∨ (op.g ≠ 0 ∧ op.act.touch? = none)) ∧ op.act ≠ .mark (.release a) := fun op hop => by
    obtain ⟨h1, h2, h3, h4⟩ := hu op hop
    refine ⟨?_, h4⟩
    rcases hg with rfl | rfl
    · exact .inl ⟨h1, h2 rfl⟩
    · exact .inr (.inl ⟨h1, h3 rfl⟩)
  refine ⟨fun said => noRace_append (h.clean said) (fun op hop => (hu op hop).1) fun i x hx op hop b hb hcf => ?_, fun i x hi hx hm => ?_, fun i op hi ho => ?_, fun i g' hi hg' hn hcn => ?_, by simp; have := h.size; omega⟩
  · obtain ⟨y, hy, hyx⟩ := touch_of hx
    obtain ⟨hloc, hmem, hwr, hkind⟩ := hcf
    obtain ⟨hog, ho0, hoc, _⟩ := hu op hop
    rcases Nat.lt_or_ge i p with hlt | hge
    · rcases h.old i x hlt hx hmem with ⟨k0, kc⟩ | ⟨hs, ha⟩
      · rcases hg with rfl | rfl
        · exact k0
        · exact kc
      · exfalso
        have hbp : b.kind = .plain := by
          rw [ha] at hkind
          rcases hkind with x | x | ⟨_, x, _⟩
          · cases x
          · exact x
          · cases x
        rw [hloc] at hs
        rcases hg with rfl | rfl
        · rcases ho0 rfl b hb with ⟨hB, _⟩ | ⟨hG, _⟩
          · exact F.shunB _ hs hB
          · exact F.shunG _ hs hG
        · rcases hoc rfl b hb with ⟨_, _, hk⟩ | ⟨hB, _⟩ | ⟨hG, _⟩
          · exact hk hs hbp
          · exact F.shunB _ hs hB
          · exact F.shunG _ hs hG
    · -- both in company
      have clash : ∀ x y : Touch, x.loc = y.loc → (x.write = true ∨ y.write = true) → ((Box x.loc ∧ x.write = false) ∨ (Grp x.loc ∧ x.kind ≠ .plain)) →
          ((¬ Box y.loc ∧ ¬ Grp y.loc ∧ (Shun y.loc → y.kind ≠ .plain)) ∨ (Box y.loc ∧ y.write = false) ∨ (Grp y.loc ∧ y.kind = .atomic)) → Grp x.loc ∧ x.kind ≠ .plain ∧ y.kind = .atomic := by
        intro x y e hw h1 h2
        rw [e] at h1 ⊢
        rcases h1 with ⟨b1, w1⟩ | ⟨g1, k1⟩ <;> rcases h2 with ⟨nb, ng, _⟩ | ⟨b2, w2⟩ | ⟨g2, k2⟩
        · exact absurd b1 nb
        · rcases hw with hw | hw
          · rw [w1] at hw; cases hw
          · rw [w2] at hw; cases hw
        · exact absurd g2 (F.box _ b1)
        · exact absurd g1 ng
        · exact absurd g1 (F.box _ b2)
        · exact ⟨g1, k1, k2⟩
      rcases (h.new i y hge hy).1 with ⟨hy0, hok⟩ | ⟨hyc, hok⟩ | ⟨_, hno⟩
      · rcases hg with rfl | rfl
        · exact hy0 ▸ knows_own hy
        · exfalso
          obtain ⟨_, k1, k2⟩ := clash x b hloc hwr (hok x hyx) (hoc rfl b hb)
          rw [k2] at hkind
          rcases hkind with z | z | ⟨_, _, z⟩
          · exact k1 z
          · cases z
          · cases z
      · rcases hg with rfl | rfl
        · exfalso
          obtain ⟨_, k1, k2⟩ := clash b x hloc.symm hwr.symm (ho0 rfl b hb) (hok x hyx)
          rw [k2] at hkind
          rcases hkind with z | z | ⟨_, z, _⟩
          · cases z
          · exact k1 z
          · cases z
        · exact hyc ▸ knows_own hy
      · rw [hno] at hyx; cases hyx
  · have hlt : i < t.size := Nat.lt_of_lt_of_le hi h.size
    rw [touchAt_old hlt] at hx
    exact (h.old i x hi hx hm).imp (fun k => ⟨k.1.app _, k.2.app _⟩) id
  · rcases getElem?_append_cases ho with ⟨_, ho'⟩ | ⟨_, hou⟩
    · exact h.new i op hi ho'
    · exact hnew op hou
  · have hlt : i < t.size := Nat.lt_of_lt_of_le hi h.size
    rw [g?_old hlt] at hg'
    rw [counts_old hlt] at hcn
    obtain ⟨j, hj, hb⟩ := h.over i g' hi hg' hn hcn
    have hjl : j < t.size := by
      unfold Trace.g? at hj
      obtain ⟨z, hz, _⟩ := Option.map_eq_some_iff.1 hj
      exact lt_size_of_getElem? hz
    exact ⟨j, by rw [g?_old hjl]; exact hj, hb_app u hb⟩
/-- Operations that touch nothing: of who only leaves; of those who meet at a channel. -/
theorem Co.mute (h : Co Shun Box Grp a c p t) (hu : ∀ op ∈ u, op.act.touch? = none ∧ op.act ≠ .mark (.release a)) : Co Shun Box Grp a c p (t ++ u) := by
  refine ⟨fun said => noRace_appendMute (h.clean said) fun op hop => (hu op hop).1, fun i x hi hx hm => ?_, fun i op hi ho => ?_, fun i g' hi hg' hn hcn => ?_, by simp; have := h.size; omega⟩
  · have hlt : i < t.size := Nat.lt_of_lt_of_le hi h.size
    rw [touchAt_old hlt] at hx
    exact (h.old i x hi hx hm).imp (fun k => ⟨k.1.app _, k.2.app _⟩) id
  · rcases getElem?_append_cases ho with ⟨_, ho'⟩ | ⟨_, hou⟩
    · exact h.new i op hi ho'
    · refine ⟨?_, (hu op hou).2⟩
      by_cases h0 : op.g = 0
      · exact .inl ⟨h0, fun x hx => by rw [(hu op hou).1] at hx; cases hx⟩
      · exact .inr (.inr ⟨h0, (hu op hou).1⟩)
  · have hlt : i < t.size := Nat.lt_of_lt_of_le hi h.size
    rw [g?_old hlt] at hg'
    rw [counts_old hlt] at hcn
    obtain ⟨j, hj, hb⟩ := h.over i g' hi hg' hn hcn
    have hjl : j < t.size := by
      unfold Trace.g? at hj
      obtain ⟨z, hz, _⟩ := Option.map_eq_some_iff.1 hj
      exact lt_size_of_getElem? hz
    exact ⟨j, by rw [g?_old hjl]; exact hj, hb_app u hb⟩
/-- The go statement. -/
theorem co_fork (h : Tr Shun 0 t) (hk : Deaf t c = 0) {x y : MemOp} (hx : x.g = 0 ∧ x.act = .go c) (hy : y.g = c ∧ y.act = .start) : Co Shun Box Grp a c t.size (t ++ #[x, y]) := by
  have hnt : ∀ op ∈ #[x, y], op.act.touch? = none := by
    intro op hop
    simp only [List.mem_toArray, List.mem_cons, List.not_mem_nil, or_false] at hop
    rcases hop with rfl | rfl
    · rw [hx.2]; rfl
    · rw [hy.2]; rfl
  refine ⟨fun said => noRace_appendMute (h.clean said) hnt, fun i z hi hz hm => ?_, fun i op hi ho => ?_, fun i g hi hg hn hc => ?_, by simp⟩
  · rw [touchAt_old hi] at hz
    exact (h.known i z hz hm).imp (fun k => ⟨k.app _, Go.ConcN.fork_knows hx hy h.hears hk k⟩) id
  · rcases getElem?_append_cases ho with ⟨hlt, _⟩ | ⟨_, hou⟩
    · omega
    · have hn := hnt op hou
      simp only [List.mem_toArray, List.mem_cons, List.not_mem_nil, or_false] at hou
      refine ⟨?_, by rcases hou with rfl | rfl <;> simp [hx.2, hy.2]⟩
      by_cases h0 : op.g = 0
      · exact .inl ⟨h0, fun x hx => by rw [hn] at hx; cases hx⟩
      · exact .inr (.inr ⟨h0, hn⟩)
  · rw [g?_old hi] at hg
    rw [counts_old hi] at hc
    obtain ⟨j, hj, hb⟩ := h.over i g hg hn hc
    have hjl : j < t.size := by
      unfold Trace.g? at hj
      obtain ⟨z, hz, _⟩ := Option.map_eq_some_iff.1 hj
      exact lt_size_of_getElem? hz
    exact ⟨j, by rw [g?_old hjl]; exact hj, hb_app _ hb⟩
/-- The join: goroutine 0 says 'acquire' behind the child's 'release'. -/
theorem Co.join (h : Co Shun Box Grp a c p t) (h0 : Deaf t 0 = 0) {r : Nat} (hr : Go.ConcN.RelBy a t c r) (hp : p ≤ r) (hG : ∀ i op, r < i → t[i]? = some op → op.g = c → ∀ x, op.act.touch? = some x → Grp x.loc ∧ x.kind = .atomic)
    {y : MemOp} (hy : y.g = 0 ∧ y.act = .mark (.acquire a)) : Tr (fun l => Shun l ∨ Box l ∨ Grp l) 0 (t.push y) := by
  have hrl : r < t.size := lt_of_act? hr.act
  have hyn : y.act.touch? = none := by rw [hy.2]; rfl
  have e : t.push y = t ++ #[y] := by simp
  have hyp : (t ++ #[y])[t.size]? = some y := by rw [Array.getElem?_append_right (Nat.le_refl _)]; simp
  rw [e]
  have edge : HappensBefore (t ++ #[y]) r t.size := .single (.inr ⟨.marked (a := a) hrl (.inr (by rw [act?_old hrl]; exact hr.act)) (by rw [act?_of hyp, hy.2]) (fun k hk1 hk2 => by
      rw [act?_old hk2]
      intro hk
      obtain ⟨op, ho, hoa⟩ := Option.map_eq_some_iff.1 hk
      exact (h.new k op (by omega) ho).2 hoa), (heard_old hrl).2 hr.heard, ⟨0, by simp [Trace.g?, hy.1], by rw [deaf_old (Nat.le_refl _)]; exact h0⟩⟩)
  have upto : ∀ i, i ≤ r → t.g? i = some c → HappensBefore (t ++ #[y]) i t.size := by
    intro i hi hg
    rcases Nat.lt_or_ge i r with hlt | hge
    · exact .trans (.single (.inl ⟨hlt, c, by rw [g?_old (by omega)]; exact hg, by rw [g?_old hrl]; exact hr.g⟩)) edge
    · obtain rfl : i = r := by omega
      exact edge
  have hyg : (t ++ #[y]).g? t.size = some 0 := by simp [Trace.g?, hy.1]
  refine ⟨fun said => noRace_appendMute (h.clean said) (by simpa using hyn), fun i x hx hm => ?_, fun i g hg hn hcn => ?_, ?_⟩
  · obtain ⟨op, ho, hox⟩ := touch_of hx
    rcases getElem?_append_cases ho with ⟨hlt, ho'⟩ | ⟨_, hou⟩
    · rcases Nat.lt_or_ge i p with hip | hip
      · rcases h.old i x hip (by rw [touchAt_of ho']; exact hox) hm with ⟨k0, _⟩ | ⟨hs, ha⟩
        · exact .inl (k0.app _)
        · exact .inr ⟨.inl hs, ha⟩
      · rcases (h.new i op hip ho').1 with ⟨hg, _⟩ | ⟨hg, hok⟩ | ⟨_, hno⟩
        · exact .inl (hg ▸ knows_own ho)
        · rcases Nat.lt_or_ge r i with hri | hri
          · obtain ⟨g1, k1⟩ := hG i op hri ho' hg x hox
            exact .inr ⟨.inr (.inr g1), k1⟩
          · exact .inl ⟨t.size, y, hyp, hy.1, .inr (upto i hri (by rw [g?_of ho', hg]))⟩
        · rw [hno] at hox; cases hox
    · simp only [List.mem_toArray, List.mem_cons, List.not_mem_nil, or_false] at hou
      rw [hou, hyn] at hox; cases hox
  · rcases Nat.lt_or_ge i t.size with hlt | hge
    · rw [g?_old hlt] at hg
      rw [counts_old hlt] at hcn
      rcases Nat.lt_or_ge i p with hip | hip
      · obtain ⟨j, hj, hb⟩ := h.over i g hip hg hn hcn
        have hjl : j < t.size := by
          unfold Trace.g? at hj
          obtain ⟨z, hz, _⟩ := Option.map_eq_some_iff.1 hj
          exact lt_size_of_getElem? hz
        exact ⟨j, by rw [g?_old hjl]; exact hj, hb_app _ hb⟩
      · have hop : t[i]? = some t[i] := Array.getElem?_eq_getElem hlt
        have hgi : t[i].g = g := by rw [g?_of hop] at hg; exact Option.some.inj hg
        rcases (h.new i _ hip hop).1 with ⟨hg0, _⟩ | ⟨hgc, _⟩ | ⟨_, hno⟩
        · exact absurd (hgi.symm.trans hg0) hn
        · have hgc' : t.g? i = some c := by rw [g?_of hop, hgc]
          rcases Nat.lt_or_ge r i with hri | hri
          · exact absurd hcn (hr.after i hri hgc')
          · exact ⟨t.size, hyg, upto i hri hgc'⟩
        · obtain ⟨x, hx, _⟩ := hcn
          rw [act?_of hop] at hx
          rw [show (some t[i].act).bind (·.touch?) = t[i].act.touch? from rfl, hno] at hx
          cases hx
    · obtain ⟨x, hx, _⟩ := hcn
      obtain ⟨op, ho, hox⟩ := touch_of hx
      rcases getElem?_append_cases ho with ⟨hlt, _⟩ | ⟨_, hou⟩
      · omega
      · simp only [List.mem_toArray, List.mem_cons, List.not_mem_nil, or_false] at hou
        rw [hou, hyn] at hox; cases hox
  · have := Deaf_append t 0 [y]
    simp only [List.foldl_cons, List.foldl_nil] at this
    rw [show t ++ #[y] = t ++ [y].toArray from rfl, this, h0]
    unfold deafStep
    rw [hy.2]
end
end Go.Proofs.Ytdlnlcjmjgbikaa
