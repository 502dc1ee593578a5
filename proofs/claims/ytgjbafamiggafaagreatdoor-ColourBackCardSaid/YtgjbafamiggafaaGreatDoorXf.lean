/- Parts of a tree in memory. -/
import Derived.Test.YtgjbafamiggafaaGreatDoorXc
import Derived.Test.YtgjbafamiggafaaGreatDoorKa
import Derived.Laws.AppendOwn
import Derived.Laws.OwnMore
import Derived.Deep.AppendLies
namespace Go.Proofs.YtgjbafamiggafaaGreatDoor
open Go.RowKit
open M

/-- A part in memory; D: the blocks that finished parts lie in. -/
inductive IsP (w : World) (D : Nat → Prop) : Value → X.Part → Prop
  | leaf (k : Nat) (x : List UInt8) : IsP w D (.iface 196 (.agg #[.int .i64 k, .int .i64 x.length])) (.leaf k x)
  | miss (m : List UInt8) : IsP w D (.iface 265 (.string (ba m))) (.miss m)
  | br (k N cap : Nat) (ao : Option Addr) (vs : Nat → Value) (ps : List X.Part) (hN : D N)
      (hb : w.heap[N]? = some (.cells #[.int .i64 k, .slice ao ps.length cap] 113 (0, 0))) (hc : ps.length ≤ cap ∧ cap ≤ maxLen)
      (hr : ∀ i, i < ps.length → ∃ g, ao = some ⟨g, 0, none⟩ ∧ D g ∧ w.cell? ⟨g, i, none⟩ = some (vs i))
      (hp : ∀ (i : Nat) (p : X.Part), ps[i]? = some p → IsP w D (vs i) p) : IsP w D (.iface 110 (.pointer (some ⟨N, 0, none⟩))) (.br k ps)
  | kid (N n : Nat) (p : X.Part) (hn : n = (X.pl p).length) (h : IsP w D (.iface 110 (.pointer (some ⟨N, 0, none⟩))) p) : IsP w D (.iface 118 (.agg #[.pointer (some ⟨N, 0, none⟩), .int .i64 n])) p
theorem IsP.mono {w : World} {D D' : Nat → Prop} (hD : ∀ q, D q → D' q) {v : Value} {p : X.Part} (h : IsP w D v p) : IsP w D' v p := by
  induction h with
  | leaf k x => exact .leaf k x
  | miss m => exact .miss m
  | br k N cap ao vs ps hN hb hc hr hp ih =>
    exact .br k N cap ao vs ps (hD _ hN) hb hc (fun i hi => by obtain ⟨g, h1, h2, h3⟩ := hr i hi; exact ⟨g, h1, hD _ h2, h3⟩) ih
  | kid N n p hn h ih => exact .kid N n p hn ih
theorem IsP.keep {S : Nat → Prop} {w w' : World} {D : Nat → Prop} (hk : Kp S w w') (hD : ∀ q, D q → ¬ S q) {v : Value} {p : X.Part} (h : IsP w D v p) : IsP w' D v p := by
  induction h with
  | leaf k x => exact .leaf k x
  | miss m => exact .miss m
  | br k N cap ao vs ps hN hb hc hr hp ih =>
    exact .br k N cap ao vs ps hN (hk.heap hb (hD _ hN)) hc (fun i hi => by obtain ⟨g, h1, h2, h3⟩ := hr i hi; exact ⟨g, h1, h2, hk.cellv h3 (hD _ h2)⟩) ih
  | kid N n p hn h ih => exact .kid N n p hn ih

/-- Values that are parts, one by one. -/
def Each (w : World) (D : Nat → Prop) (vs : List Value) (ps : List X.Part) : Prop := ∀ (i : Nat) (p : X.Part), ps[i]? = some p → ∃ v, vs[i]? = some v ∧ IsP w D v p
theorem Each.mono {w : World} {D D' : Nat → Prop} (hD : ∀ q, D q → D' q) {vs : List Value} {ps : List X.Part} (h : Each w D vs ps) : Each w D' vs ps :=
  fun i p hp => by obtain ⟨v, h1, h2⟩ := h i p hp; exact ⟨v, h1, h2.mono hD⟩
theorem Each.keep {S : Nat → Prop} {w w' : World} {D : Nat → Prop} (hk : Kp S w w') (hD : ∀ q, D q → ¬ S q) {vs : List Value} {ps : List X.Part} (h : Each w D vs ps) : Each w' D vs ps :=
  fun i p hp => by obtain ⟨v, h1, h2⟩ := h i p hp; exact ⟨v, h1, h2.keep hk hD⟩
theorem Each.nil (w : World) (D : Nat → Prop) : Each w D [] [] := fun i p hp => by simp at hp
theorem Each.snoc {w : World} {D : Nat → Prop} {vs : List Value} {ps : List X.Part} (h : Each w D vs ps) (hl : vs.length = ps.length) {v : Value} {p : X.Part} (hp : IsP w D v p) : Each w D (vs ++ [v]) (ps ++ [p]) := by
  intro i q hq
  by_cases hi : i < ps.length
  · rw [List.getElem?_append_left hi] at hq
    obtain ⟨u, h1, h2⟩ := h i q hq
    exact ⟨u, by rw [List.getElem?_append_left (by omega)]; exact h1, h2⟩
  · rw [List.getElem?_append_right (by omega)] at hq
    have h0 : i - ps.length = 0 := by
      rcases Nat.eq_zero_or_pos (i - ps.length) with g | g
      · exact g
      · rw [List.getElem?_eq_none (by simp; omega)] at hq; cases hq
    rw [h0] at hq
    obtain rfl : p = q := by simpa using hq
    exact ⟨v, by rw [List.getElem?_append_right (by omega), hl, h0]; rfl, hp⟩

/-- A branch's block and its row. -/
structure Bran (w : World) (B : Nat) (k : Nat) (rv : Value) (vs : List Value) : Prop where
  blk : w.heap[B]? = some (.cells #[.int .i64 k, rv] 113 (0, 0))
  row : w.ownsRow 0 163 1 rv vs.length vs
theorem Bran.lt {w : World} {B k : Nat} {rv : Value} {vs : List Value} (h : Bran w B k rv vs) : B < w.heap.size := heap_lt h.blk
theorem Bran.keep {S : Nat → Prop} {w w' : World} {B k : Nat} {rv : Value} {vs : List Value} (h : Bran w B k rv vs) (hk : Kp S w w') (hB : ¬ S B) (hg : ∀ g, rv.ownBlock = some g → ¬ S g) : Bran w' B k rv vs :=
  ⟨hk.heap h.blk hB, hk.owns h.row hg⟩
theorem Bran.facts {w : World} {B k : Nat} {rv : Value} {vs : List Value} (h : Bran w B k rv vs) :
    (w.cell? ⟨B, 0, none⟩ = some (.int .i64 k) ∧ w.cell? ⟨B, 1, none⟩ = some rv) ∧ (w.frozen? ⟨B, 0, none⟩ = false ∧ w.frozen? ⟨B, 1, none⟩ = false) := by
  have h := h.blk
  refine ⟨⟨?_, ?_⟩, ?_, ?_⟩ <;> simp [World.cell?, World.frozen?, h]
theorem infoP : (Tryz.prog.info? 163).map (fun i => (i.zero, i.size, i.bytes)) = some (some .nilIface, 1, 16) := by kernel_rfl
/-- What a branch's reader may turn. -/
def Sb (B : Nat) (rv : Value) (q : Nat) : Prop := q = B ∨ rv.ownBlock = some q

set_option maxRecDepth 100000 in
set_option maxHeartbeats 4000000 in
theorem add_any (B k : Nat) (rv : Value) (vs : List Value) (ty : TypeId) (x : Value) (w : World) (h : Bran w B k rv vs) (hg : ∀ g, rv.ownBlock = some g → g ≠ B) (hl : vs.length ≤ 1073741824) :
    Calls Tryz.prog 42 #[.pointer (some ⟨B, 0, none⟩), .iface ty x] w fun e w' => e = .returned (.tuple #[]) ∧ ∃ rv', Bran w' B k rv' (vs ++ [.iface ty x]) ∧ (∀ g, rv'.ownBlock = some g → rv.ownBlock = some g ∨ w.heap.size ≤ g) ∧ Kp (Sb B rv) w w' := by
  obtain ⟨i0, hi0, hz0, hz1, hz2⟩ := info_parts infoP
  obtain ⟨⟨c0, c1⟩, f0, f1⟩ := h.facts
  have HB := hide h
  have hbl := h.lt
  have HG := hide hg
  clear h hg
  go_enter Tryz.func42, Tryz.ntmps42
  go_wp2_with (at_builtin; refine wpList_append_lies _ rfl _ _ 111 rfl 0 163 i0 _ 1 16 Tryz.underlying111 hi0 hz0 hz1 hz2 rfl (by decide) rv vs.length _ rfl ((HB.out).row.alloc _) ⟨w.heap.size, 0, none⟩ 1 1 [.iface ty x] rfl rfl (World.news_of_block (cs := #[.iface ty x]) (heap_alloc_new w _)) (by simp [Value.oneCell']) (by omega) (by unfold maxLen; omega) (by omega) (Nat.zero_le _) (w.heap.size + 1) (by simp) ?_; intro g cap5 w5 hown5 hgrow5 hat5 hlt5; have x1 : w5.cell? ⟨B, 1, none⟩ = some rv := (hgrow5.cell_far ⟨B, 1, none⟩ (by simp; omega) (fun e => (HG.out) B e.symm rfl)).trans (Lib.cell?_alloc_some _ c1); have x2 : w5.frozen? ⟨B, 1, none⟩ = false := (hgrow5.frozen_far ⟨B, 1, none⟩ (by simp; omega) (fun e => (HG.out) B e.symm rfl)).trans ((World.frozen?_alloc_old _ _ ⟨B, 1, none⟩ (Nat.ne_of_lt hbl)).trans f1); have HW5 := hide hown5; have HG5 := hide hgrow5; clear hown5 hgrow5)
  go_end0
  have hk1 : Kp (Sb B rv) w w5 := Kp.grown (Kp.alloc (Kp.refl _ w) _) HG5.out (fun k e _ => .inr e)
  have hk : Kp (Sb B rv) w (w5.setCell ⟨B, 1, none⟩ (.slice (some ⟨g, 0, none⟩) (vs.length + 1) cap5)) := Kp.setCell hk1 (p := ⟨B, 1, none⟩) (fun _ => .inl rfl) _
  have hgB : g ≠ B := by
    rcases hat5 with e | e
    · exact (HG.out) g e
    · omega
  refine ⟨rfl, .slice (some ⟨g, 0, none⟩) (vs.length + 1) cap5, ⟨?_, ?_⟩, ?_, hk⟩
  · have h5 : w5.heap[B]? = some (.cells #[.int .i64 k, rv] 113 (0, 0)) := (HG5.out).block B (by simp; omega) (fun e => (HG.out) B e.symm rfl) |>.trans ((heap_alloc_old w _ hbl).trans (HB.out).blk)
    simp [World.setCell, Array.getElem?_modify, h5]
  · rw [List.length_append]
    exact ownsRow_setCell_other HW5.out (by simp [Value.ownBlock]; omega) _
  · intro q hq
    simp only [Value.ownBlock, Option.some.injEq] at hq
    subst hq
    rcases hat5 with e | e
    · exact .inl e
    · exact .inr (by omega)
end Go.Proofs.YtgjbafamiggafaaGreatDoor
/- A reader at work on a branch; tokens become leaves. -/
namespace Go.Proofs.YtgjbafamiggafaaGreatDoor
open Go.RowKit
open M

/-- A reader at work on a branch. -/
structure Wk (w : World) (rb : Nat) (s : ByteArray) (L : List Tk) (tv : Value) (a dp B k : Nat) (rv : Value) (vs : List Value) (ps : List X.Part) (D : Nat → Prop) : Prop where
  rdr : RdrT w rb s L tv a dp
  bra : Bran w B k rv vs
  len : vs.length = ps.length
  each : Each w D vs ps
  dlt : ∀ q, D q → q < w.heap.size
  sep : ¬ D rb ∧ ¬ D B ∧ B ≠ rb
  sepG : ∀ g, rv.ownBlock = some g → ¬ D g ∧ g ≠ rb ∧ g ≠ B
  sepT : ∀ q, tv.ownBlock = some q → ¬ D q ∧ q ≠ B ∧ rv.ownBlock ≠ some q ∧ q < w.heap.size
/-- What may turn. -/
def Sr (rb B : Nat) (rv : Value) (q : Nat) : Prop := q = rb ∨ Sb B rv q
/-- What has come about. -/
def Done (w : World) (rb : Nat) (s : ByteArray) (L : List Tk) (tv : Value) (dp B k : Nat) (rv : Value) (ps' : List X.Part) (ts' : List X.Tok) (D : Nat → Prop) (w' : World) : Prop :=
  ∃ a' rv' vs' D', Wk w' rb s L tv a' dp B k rv' vs' ps' D' ∧ remT s L a' = ts' ∧ (∀ q, D q → D' q) ∧ (∀ q, D' q → D q ∨ w.heap.size ≤ q) ∧ (∀ g, rv'.ownBlock = some g → rv.ownBlock = some g ∨ w.heap.size ≤ g) ∧ Kp (Sr rb B rv) w w'

/-- What has come about, the parts that were there being the same values. -/
def DoneV (w : World) (rb : Nat) (s : ByteArray) (L : List Tk) (tv : Value) (dp B k : Nat) (rv : Value) (vs : List Value) (ps' : List X.Part) (ts' : List X.Tok) (D : Nat → Prop) (w' : World) : Prop :=
  ∃ a' rv' us, Wk w' rb s L tv a' dp B k rv' (vs ++ us) ps' D ∧ remT s L a' = ts' ∧ (∀ g, rv'.ownBlock = some g → rv.ownBlock = some g ∨ w.heap.size ≤ g) ∧ Kp (Sr rb B rv) w w'
theorem DoneV.done {w : World} {rb : Nat} {s : ByteArray} {L : List Tk} {tv : Value} {dp B k : Nat} {rv : Value} {vs : List Value} {ps' : List X.Part} {ts' : List X.Tok} {D : Nat → Prop} {w' : World} (h : DoneV w rb s L tv dp B k rv vs ps' ts' D w') : Done w rb s L tv dp B k rv ps' ts' D w' := by
  obtain ⟨a', rv', us, h1, h2, h3, h4⟩ := h
  exact ⟨a', rv', _, D, h1, h2, fun _ => id, fun _ => .inl, h3, h4⟩

theorem Wk.keep {S : Nat → Prop} {w w' : World} {rb : Nat} {s : ByteArray} {L : List Tk} {tv : Value} {a dp B k : Nat} {rv : Value} {vs : List Value} {ps : List X.Part} {D : Nat → Prop} (h : Wk w rb s L tv a dp B k rv vs ps D) (hk : Kp S w w')
    (h1 : ¬ S rb) (h2 : ¬ S B) (h3 : ∀ g, rv.ownBlock = some g → ¬ S g) (h4 : ∀ q, D q → ¬ S q) (h5 : ∀ q, tv.ownBlock = some q → ¬ S q) : Wk w' rb s L tv a dp B k rv vs ps D :=
  ⟨h.rdr.keep hk h1 h5, h.bra.keep hk h2 h3, h.len, h.each.keep hk h4, fun q hq => Nat.lt_of_lt_of_le (h.dlt q hq) hk.size, h.sep, h.sepG, fun q hq => by obtain ⟨a1, a2, a3, a4⟩ := h.sepT q hq; exact ⟨a1, a2, a3, Nat.lt_of_lt_of_le a4 hk.size⟩⟩
theorem Wk.below {w w' : World} {rb : Nat} {s : ByteArray} {L : List Tk} {tv : Value} {a dp B k : Nat} {rv : Value} {vs : List Value} {ps : List X.Part} {D : Nat → Prop} (h : Wk w rb s L tv a dp B k rv vs ps D) (hk : Below w.heap.size w w') : Wk w' rb s L tv a dp B k rv vs ps D :=
  h.keep (Kp.ofBelow hk (fun _ => False)) id id (fun _ _ => id) (fun _ _ => id) (fun _ _ => id)

/-- One more part. -/
theorem Wk.added {w w' : World} {rb : Nat} {s : ByteArray} {L : List Tk} {tv : Value} {a dp B k : Nat} {rv rv' v : Value} {vs : List Value} {ps : List X.Part} {p : X.Part} {D : Nat → Prop} (h : Wk w rb s L tv a dp B k rv vs ps D)
    (hb : Bran w' B k rv' (vs ++ [v])) (hr : ∀ g, rv'.ownBlock = some g → rv.ownBlock = some g ∨ w.heap.size ≤ g) (hk : Kp (Sb B rv) w w') (hp : IsP w' D v p) : Wk w' rb s L tv a dp B k rv' (vs ++ [v]) (ps ++ [p]) D := by
  have hD : ∀ q, D q → ¬ Sb B rv q := by
    intro q hq e
    rcases e with rfl | e
    · exact h.sep.2.1 hq
    · exact (h.sepG q e).1 hq
  have hbl := h.bra.lt
  have hrl := h.rdr.raw.lt
  refine ⟨h.rdr.keep hk ?_ ?_, hb, by rw [List.length_append, List.length_append, h.len]; rfl, (h.each.keep hk hD).snoc h.len hp, fun q hq => Nat.lt_of_lt_of_le (h.dlt q hq) hk.size, h.sep, ?_, ?_⟩
  · rintro (e | e)
    · exact h.sep.2.2 e.symm
    · exact (h.sepG rb e).2.1 rfl
  · intro q hq e
    obtain ⟨a1, a2, a3, a4⟩ := h.sepT q hq
    rcases e with e | e
    · exact a2 e
    · exact a3 e
  · intro g hg
    rcases hr g hg with e | e
    · exact h.sepG g e
    · exact ⟨fun hd => by have := h.dlt g hd; omega, by omega, by omega⟩
  · intro q hq
    obtain ⟨a1, a2, a3, a4⟩ := h.sepT q hq
    refine ⟨a1, a2, fun e => ?_, Nat.lt_of_lt_of_le a4 hk.size⟩
    rcases hr q e with e | e
    · exact a3 e
    · omega

/-- The reader alone has moved. -/
theorem Wk.moved {w w' : World} {rb : Nat} {s : ByteArray} {L : List Tk} {tv : Value} {a dp B k : Nat} {rv : Value} {vs : List Value} {ps : List X.Part} {D : Nat → Prop} (h : Wk w rb s L tv a dp B k rv vs ps D) (hk : On rb w w') {a' dp' : Nat} (hr : RdrT w' rb s L tv a' dp') : Wk w' rb s L tv a' dp' B k rv vs ps D := by
  refine ⟨hr, h.bra.keep hk h.sep.2.2 (fun g hg e => (h.sepG g hg).2.1 e), h.len, h.each.keep hk (fun q hq e => ?_), fun q hq => Nat.lt_of_lt_of_le (h.dlt q hq) hk.size, h.sep, h.sepG, fun q hq => ?_⟩
  · subst e; exact h.sep.1 hq
  · obtain ⟨a1, a2, a3, a4⟩ := h.sepT q hq
    exact ⟨a1, a2, a3, Nat.lt_of_lt_of_le a4 hk.size⟩
/-- The loop over tokens that become leaves. -/
structure InLv (w : World) (rb : Nat) (s : ByteArray) (L : List Tk) (tv : Value) (a dp B k : Nat) (rv : Value) (vs : List Value) (ps : List X.Part) (D : Nat → Prop) (j : Nat) (rvj : Value) (vsj : List Value) (wr : World) : Prop where
  wk : Wk wr rb s L tv a dp B k rvj vsj (ps ++ ((L.drop a).take j).map (fun t => X.lf (X.tkx (bs s) t))) D
  own : ∀ g, rvj.ownBlock = some g → rv.ownBlock = some g ∨ w.heap.size ≤ g
  kp : Kp (Sb B rv) w wr
  pre : ∃ us, vsj = vs ++ us
theorem InLv.done {w wr w' : World} {rb : Nat} {s : ByteArray} {L : List Tk} {tv : Value} {a dp B k : Nat} {rv : Value} {vs : List Value} {ps : List X.Part} {D : Nat → Prop} {j : Nat} {rvj : Value} {vsj : List Value} (h : InLv w rb s L tv a dp B k rv vs ps D j rvj vsj wr) {e : Nat} (hj : j = e - a) (hr : RdrT w' rb s L tv e dp) (hk : On rb wr w') :
    DoneV w rb s L tv dp B k rv vs (ps ++ ((L.drop a).take (e - a)).map (fun t => X.lf (X.tkx (bs s) t))) (remT s L e) D w' := by
  subst hj
  obtain ⟨us, rfl⟩ := h.pre
  refine ⟨e, rvj, us, h.wk.moved hk hr, rfl, h.own, ?_⟩
  refine Kp.trans (Kp.mono h.kp (fun i _ e => .inr e)) hk (fun i hi e => .inl e)
theorem IsT.cut {w : World} {ao : Option Addr} {n cap : Nat} {L : List Tk} (h : IsT w (.slice ao n cap) L) {a e : Nat} (h1 : a ≤ e) (h2 : e ≤ L.length) : IsT w (.slice (ao.map (fun x => x.add (a * 3))) (e - a) (cap - a)) ((L.drop a).take (e - a)) := by
  obtain ⟨ao', cap', e', g1, g2, g3⟩ := h
  injection e' with e1 e2 e3
  subst e1; subst e3
  have hl : ((L.drop a).take (e - a)).length = e - a := by rw [List.length_take, List.length_drop]; omega
  refine ⟨_, cap - a, by rw [hl], by rw [hl]; omega, by omega, fun i hi => ?_⟩
  rw [hl] at hi
  obtain ⟨b, o, rfl, ha⟩ := g3 (a + i) (by omega)
  refine ⟨b, o + a * 3, by rw [Option.map_some, Addr.add_lit], fun t ht => ?_⟩
  rw [List.getElem?_take_of_lt (by omega), List.getElem?_drop] at ht
  have := ha t ht
  rw [show o + (a + i) * 3 = o + a * 3 + i * 3 by omega] at this
  exact this
theorem own_add (ao : Option Addr) (x n n' c c' : Nat) : (Value.slice (ao.map (fun y => y.add x)) n c).ownBlock = (Value.slice ao n' c').ownBlock := by
  cases ao with
  | none => rfl
  | some y => simp only [Option.map_some, Value.ownBlock]; unfold Addr.add; split <;> rfl
/-- What a chain of additions may turn. -/
theorem Kp.chain {w w1 w2 : World} {B : Nat} {rv rv1 : Value} (h1 : Kp (Sb B rv) w w1) (hr : ∀ g, rv1.ownBlock = some g → rv.ownBlock = some g ∨ w.heap.size ≤ g) (h2 : Kp (Sb B rv1) w1 w2) : Kp (Sb B rv) w w2 :=
  Kp.trans h1 h2 (fun i hi e => by
    rcases e with e | e
    · exact .inl e
    · rcases hr i e with e | e
      · exact .inr e
      · omega)
theorem lf_part (w : World) (D : Nat → Prop) {s : ByteArray} {t : Tk} (h : t.pos + t.len ≤ s.size) : IsP w D (.iface 196 (.agg #[.int .i64 t.kind, .int .i64 t.len])) (X.lf (X.tkx (bs s) t)) := by
  have : (((bs s).drop t.pos).take t.len).length = t.len := by rw [List.length_take, List.length_drop, bs_len]; omega
  have h2 := IsP.leaf (w := w) (D := D) t.kind (((bs s).drop t.pos).take t.len)
  rw [this] at h2
  exact h2

set_option maxRecDepth 100000 in
set_option maxHeartbeats 4000000 in
theorem leavesV_any (rb : Nat) (s : ByteArray) (L : List Tk) (tv : Value) (a dp B k : Nat) (rv : Value) (vs : List Value) (ps : List X.Part) (D : Nat → Prop) (w : World) (hS : TokS s L) (h : Wk w rb s L tv a dp B k rv vs ps D) (e : Nat) (h1 : a ≤ e) (h2 : e ≤ L.length) (hr : ps.length + (e - a) ≤ 1073741824) :
    Calls Tryz.prog 69 #[.pointer (some ⟨rb, 0, none⟩), .pointer (some ⟨B, 0, none⟩), .int .i64 e] w fun en w' => en = .returned (.tuple #[]) ∧ Hid (DoneV w rb s L tv dp B k rv vs (ps ++ ((L.drop a).take (e - a)).map (fun t => X.lf (X.tkx (bs s) t))) (remT s L e) D w') := by
  obtain ⟨⟨c0, c1, c2, c3, c4, c5, c6⟩, -⟩ := h.rdr.raw.facts
  have HK := hide h
  have hl1 := hS.size
  have hl2 := hS.len
  have hal := h.rdr.le
  obtain ⟨ao, cap, rfl, hc1, hc2, -⟩ := h.rdr.row
  clear h
  have j1 : (a : Int) ≤ (e : Int) := by omega
  have j2 : (e : Int) ≤ (cap : Int) := by omega
  have j3 : e ≤ cap := by omega
  go_enter Tryz.func69, Tryz.ntmps69
  go_wp2_with fail
  have HI0 : Hid (InLv w rb s L (.slice ao L.length cap) a dp B k rv vs ps D 0 rv vs w) := ⟨by simpa using HK.out, fun g hg => .inl hg, Kp.refl _ _, [], (List.append_nil _).symm⟩
  by_cases hca : cap = a
  · have hea : e = a := by omega
    subst hea
    go_quiet (fail)
    go_wp2_with fail
    refine wp_loop_rounds 1 ?_
    rw [rounds_succ]
    have HI1 : Hid (InLv w rb s L (.slice ao L.length cap) e dp B k rv vs ps D 0 rv vs (w.drewN nq)) := ⟨(HI0.out).wk.below (belowN (Below.refl _ w) nq), fun g hg => .inl hg, Kp.mono (On.drewN B w nq) (fun i _ e => .inl e), [], (List.append_nil _).symm⟩
    clear HI0
    generalize w.drewN nq = W at *
    clear c0 c1 c2 c3 c4 c5 c6
    obtain ⟨⟨c0, c1, c2, c3, c4, c5, c6⟩, f0, f1, f2, f3, f4, f5, f6⟩ := (HI1.out).wk.rdr.raw.facts
    go_wp2_with fail
    refine (tlook_any rb s _ L (.slice ao L.length cap) e dp _ _ _ hS ((HI1.out).wk.rdr.raw.set2 (e : Int)) ((HI1.out).wk.rdr.row.keep (On.set (Kp.refl _ W) 2 _) (fun k hk => (HI1.out).wk.rdr.own k hk)) h2 (HI1.out).wk.rdr.own).mono ?_
    rintro e' w2 ⟨rfl, r2, k2⟩
    go_wp2_with fail
    go_end0
    exact ⟨rfl, (HI1.out).done (by omega) r2 (On.to (On.set (Kp.refl _ W) 2 _) k2)⟩
  · go_quiet (fail)
    go_wp2_with fail
    have HC : Hid (IsT w (.slice (ao.map (fun x => x.add (a * 3))) (e - a) (cap - a)) ((L.drop a).take (e - a))) := ((HK.out).rdr.row).cut h1 h2
    have hob := own_add ao (a * 3) (e - a) L.length (cap - a) cap
    have hll : ((L.drop a).take (e - a)).length = e - a := by rw [List.length_take, List.length_drop]; omega
    generalize hsv : ao.map (fun x => x.add (a * 3)) = ao2 at *
    clear hsv
    go_loopw [19] (fun v wr => ∃ (j : Nat) (rvj : Value) (vsj : List Value), v = .int .i64 j ∧ j ≤ e - a ∧ Hid (InLv w rb s L (.slice ao L.length cap) a dp B k rv vs ps D j rvj vsj wr)) (fun v _ => e - a - (intOf v).toNat)
    case atStart =>
      exact ⟨0, rv, vs, rfl, Nat.zero_le _, ⟨(HI0.out).wk.below (belowN (Below.refl _ w) nq), fun g hg => .inl hg, Kp.mono (On.drewN B w nq) (fun i _ e => .inl e), [], (List.append_nil _).symm⟩⟩
    case round =>
      obtain ⟨j, rvj, vsj, rfl, hj, HI⟩ := hrel
      clear c0 c1 c2 c3 c4 c5 c6
      by_cases hlt : j < e - a
      case neg =>
        have i1 : decide (j < e - a) = false := by simp; omega
        have i2 : decide ((j : Int) < ((e - a : Nat) : Int)) = false := by simp; omega
        obtain ⟨⟨c0, c1, c2, c3, c4, c5, c6⟩, f0, f1, f2, f3, f4, f5, f6⟩ := (HI.out).wk.rdr.raw.facts
        go_wp2_with fail
        refine (tlook_any rb s _ L (.slice ao L.length cap) e dp _ _ _ hS ((HI.out).wk.rdr.raw.set2 (e : Int)) ((HI.out).wk.rdr.row.keep (On.set (Kp.refl _ wr) 2 _) (fun k hk => (HI.out).wk.rdr.own k hk)) h2 (HI.out).wk.rdr.own).mono ?_
        rintro e' w2 ⟨rfl, r2, k2⟩
        go_wp2_with fail
        go_end0
        exact ⟨rfl, (HI.out).done (by omega) r2 (On.to (On.set (Kp.refl _ wr) 2 _) k2)⟩
      have hkeep : IsT wr (.slice ao2 (e - a) (cap - a)) ((L.drop a).take (e - a)) := (HC.out).keep (HI.out).kp (fun q hq h => by
        obtain ⟨a1, a2, a3, a4⟩ := (HK.out).sepT q (hob ▸ hq)
        rcases h with h | h
        · exact a2 h
        · exact a3 h)
      obtain ⟨b', o', t, rfl, ht, q1, q2, q3⟩ := hkeep.get (Below.refl _ wr) (by rw [hll]; exact hlt)
      have htL : L[a + j]? = some t := by
        rw [List.getElem?_take_of_lt (by omega), List.getElem?_drop] at ht; exact ht
      have hfit := (hS.fit t (List.mem_of_getElem? htL)).1
      have i1 : decide (j < e - a) = true := by simp; omega
      have i2 : decide ((j : Int) < ((e - a : Nat) : Int)) = true := by simp; omega
      have hlj : vsj.length ≤ 1073741824 := by
        rw [(HI.out).wk.len, List.length_append, List.length_map, List.length_take]; omega
      clear hkeep
      go_wp2_with fail
      have kA : Below wr.heap.size wr (wr.alloc (Obj.cells #[Value.int IntKind.i64 t.kind, Value.int IntKind.i64 t.pos, Value.int IntKind.i64 t.len] 55)) := (Below.refl _ wr).alloc (Nat.le_refl _) _
      have hWA := (HI.out).wk.below kA
      have HWA := hide hWA
      refine (add_any B k rvj vsj 196 _ _ hWA.bra (fun g hg => (hWA.sepG g hg).2.2) hlj).mono ?_
      rintro e' w2 ⟨rfl, rv2, b2, o2, k2⟩
      clear hWA
      have HN : Hid (InLv w rb s L (.slice ao L.length cap) a dp B k rv vs ps D (j + 1) rv2 (vsj ++ [.iface 196 (.agg #[.int .i64 t.kind, .int .i64 t.len])]) w2) := by
        have hw := (HWA.out).added b2 o2 k2 (lf_part w2 D (s := s) (t := t) hfit)
        have hl : (ps ++ ((L.drop a).take j).map (fun t => X.lf (X.tkx (bs s) t))) ++ [X.lf (X.tkx (bs s) t)] = ps ++ ((L.drop a).take (j + 1)).map (fun t => X.lf (X.tkx (bs s) t)) := by
          rw [List.append_assoc, List.take_add_one, List.getElem?_drop, htL]; simp
        rw [hl] at hw
        have hz := (HI.out).kp.size
        obtain ⟨us, hus⟩ := (HI.out).pre
        refine ⟨hw, fun g hg => ?_, Kp.chain (Kp.alloc (HI.out).kp _) (HI.out).own k2, us ++ [_], by rw [hus, List.append_assoc]⟩
        rcases o2 g hg with e | e
        · exact (HI.out).own g e
        · exact .inr (by simp at e; omega)
      clear b2 o2 k2 HWA kA ht htL q1 q2 q3
      go_wp2_with fail
      exact ⟨⟨j + 1, rv2, _, by go_num, by omega, HN⟩, by simp only [intOf]; omega⟩
theorem leaves_any (rb : Nat) (s : ByteArray) (L : List Tk) (tv : Value) (a dp B k : Nat) (rv : Value) (vs : List Value) (ps : List X.Part) (D : Nat → Prop) (w : World) (hS : TokS s L) (h : Wk w rb s L tv a dp B k rv vs ps D) (e : Nat) (h1 : a ≤ e) (h2 : e ≤ L.length) (hr : ps.length + (e - a) ≤ 1073741824) :
    Calls Tryz.prog 69 #[.pointer (some ⟨rb, 0, none⟩), .pointer (some ⟨B, 0, none⟩), .int .i64 e] w fun en w' => en = .returned (.tuple #[]) ∧ Hid (Done w rb s L tv dp B k rv (ps ++ ((L.drop a).take (e - a)).map (fun t => X.lf (X.tkx (bs s) t))) (remT s L e) D w') :=
  (leavesV_any rb s L tv a dp B k rv vs ps D w hS h e h1 h2 hr).mono fun _ _ hh => ⟨hh.1, (hh.2.out).done⟩
end Go.Proofs.YtgjbafamiggafaaGreatDoor
