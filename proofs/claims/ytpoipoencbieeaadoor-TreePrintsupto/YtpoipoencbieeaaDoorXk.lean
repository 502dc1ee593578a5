/- The last part of a branch goes into a new one. -/
import Derived.Test.YtpoipoencbieeaaDoorXj
namespace Go.Proofs.YtpoipoencbieeaaDoor
open Go.RowKit
open M

theorem IsP.iface {w : World} {D : Nat → Prop} {v : Value} {p : X.Part} (h : IsP w D v p) : ∃ ty x, v = .iface ty x := by
  cases h with
  | leaf k x => exact ⟨_, _, rfl⟩
  | miss m => exact ⟨_, _, rfl⟩
  | br k N cap ao vs ps hN hb hc hr hp => exact ⟨_, _, rfl⟩
  | kid N n p h => exact ⟨_, _, rfl⟩
/-- The last of some parts. -/
theorem Wk.last {w : World} {rb : Nat} {s : ByteArray} {L : List Tk} {tv : Value} {a dp B k : Nat} {rv : Value} {vs : List Value} {ps : List X.Part} {p : X.Part} {D : Nat → Prop} (h : Wk w rb s L tv a dp B k rv vs (ps ++ [p]) D) :
    ∃ vs0 ty x, vs = vs0 ++ [.iface ty x] ∧ vs0.length = ps.length ∧ Each w D vs0 ps ∧ IsP w D (.iface ty x) p := by
  have hl := h.len
  rw [List.length_append, List.length_singleton] at hl
  obtain ⟨v, h1, h2⟩ := h.each ps.length p (by rw [List.getElem?_append_right (Nat.le_refl _), Nat.sub_self]; rfl)
  obtain ⟨ty, x, rfl⟩ := h2.iface
  have e : vs = vs.take ps.length ++ [.iface ty x] := by
    conv => lhs; rw [← List.take_append_drop ps.length vs]
    congr 1
    rw [List.drop_eq_getElem_cons (by omega), List.drop_eq_nil_iff.2 (by omega)]
    congr 1
    exact Option.some.inj ((List.getElem?_eq_getElem (by omega)).symm.trans h1)
  refine ⟨vs.take ps.length, ty, x, e, by rw [List.length_take]; omega, fun i q hq => ?_, h2⟩
  have hi : i < ps.length := by
    rcases Nat.lt_or_ge i ps.length with g | g
    · exact g
    · rw [List.getElem?_eq_none g] at hq; cases hq
  obtain ⟨u, h3, h4⟩ := h.each i q (by rw [List.getElem?_append_left hi]; exact hq)
  exact ⟨u, by rw [List.getElem?_take_of_lt hi]; exact h3, h4⟩

set_option maxRecDepth 100000 in
set_option maxHeartbeats 4000000 in
theorem wrap_any (rb : Nat) (s : ByteArray) (L : List Tk) (tv : Value) (a dp B k : Nat) (rv : Value) (vs : List Value) (ps : List X.Part) (p : X.Part) (D : Nat → Prop) (w : World) (h : Wk w rb s L tv a dp B k rv vs (ps ++ [p]) D) (hl : ps.length + 1 ≤ 1073741824) (kd : Nat) :
    Calls Tryd.prog 72 #[.pointer (some ⟨B, 0, none⟩), .int .i64 kd] w fun e w' => ∃ N rvn v, e = .returned (.pointer (some ⟨N, 0, none⟩)) ∧ Hid (Opn w rb s L tv B k rv ps D N rvn w' ∧ Wk w' rb s L tv a dp N kd rvn [v] [p] D) := by
  have HK := hide h
  obtain ⟨vs0, ty, x, rfl, hl0, he0, hp0⟩ := h.last
  obtain ⟨⟨c0, c1⟩, f0, f1⟩ := h.bra.facts
  obtain ⟨g, cap, rfl, -, hgl⟩ := h.bra.row.form (by simp)
  have hlen : (vs0 ++ [Value.iface ty x]).length = ps.length + 1 := by simp [hl0]
  rw [hlen] at c1
  have x1 : w.cell? ⟨g, ps.length, none⟩ = some (.iface ty x) := by
    have := h.bra.row.cells (g := g) rfl ps.length (.iface ty x) (by rw [List.getElem?_append_right (by omega), hl0, Nat.sub_self]; rfl)
    rwa [Addr.add_lit, Nat.zero_add] at this
  have x2 : w.frozen? ⟨g, ps.length, none⟩ = false := h.bra.row.frozenAt _
  have HE0 := hide he0
  have HP0 := hide hp0
  have hbl := h.bra.lt
  have hgB := (h.sepG g rfl).2.2
  clear h he0 hp0
  go_enter Tryd.func72, Tryd.ntmps72
  go_wp2_with fail
  go_ret
  refine ⟨w.heap.size + 1, .slice (some ⟨w.heap.size, 0, none⟩) 1 1, .iface ty x, rfl, ?_⟩
  have h := HK.out
  have hrl := h.rdr.raw.lt
  have k0 : Kp (fun q => q = g) w (w.setCell ⟨g, ps.length, none⟩ (.iface 33 (.pointer (some ⟨w.heap.size + 1, 0, none⟩)))) := Kp.setCell (Kp.refl (fun q => q = g) w) (p := ⟨g, ps.length, none⟩) (fun _ => rfl) _
  have hset := (h.bra.row.stored ps.length (.iface 33 (.pointer (some ⟨w.heap.size + 1, 0, none⟩)))).1
  have hse : (vs0 ++ [Value.iface ty x]).set ps.length (.iface 33 (.pointer (some ⟨w.heap.size + 1, 0, none⟩))) = vs0 ++ [.iface 33 (.pointer (some ⟨w.heap.size + 1, 0, none⟩))] := by
    rw [List.set_append_right _ _ (by omega), hl0, Nat.sub_self]; rfl
  rw [hse] at hset
  have hs0 : (w.setCell ⟨g, ps.length, none⟩ (.iface 33 (.pointer (some ⟨w.heap.size + 1, 0, none⟩)))).heap.size = w.heap.size := by simp
  generalize w.setCell ⟨g, ps.length, none⟩ (.iface 33 (.pointer (some ⟨w.heap.size + 1, 0, none⟩))) = W0 at *
  have k2 : Kp (fun q => q = g) w ((W0.alloc (Obj.cells #[Value.iface ty x] 62)).alloc (Obj.cells #[Value.int IntKind.i64 kd, Value.slice (some ⟨w.heap.size, 0, none⟩) 1 1] 36)) := Kp.alloc (Kp.alloc k0 _) _
  have hr1 : ((W0.alloc (Obj.cells #[Value.iface ty x] 62)).alloc (Obj.cells #[Value.int IntKind.i64 kd, Value.slice (some ⟨w.heap.size, 0, none⟩) 1 1] 36)).heap[w.heap.size]? = some (.cells #[.iface ty x] 62 (0, 0)) := by
    rw [← hs0]
    exact (heap_alloc_old (W0.alloc _) _ (show W0.heap.size < _ by simp)).trans (heap_alloc_new W0 _)
  have hr2 : ((W0.alloc (Obj.cells #[Value.iface ty x] 62)).alloc (Obj.cells #[Value.int IntKind.i64 kd, Value.slice (some ⟨w.heap.size, 0, none⟩) 1 1] 36)).heap[w.heap.size + 1]? = some (.cells #[.int .i64 kd, .slice (some ⟨w.heap.size, 0, none⟩) 1 1] 36 (0, 0)) := by
    have := heap_alloc_new (W0.alloc (Obj.cells #[Value.iface ty x] 62)) (Obj.cells #[Value.int IntKind.i64 kd, Value.slice (some ⟨w.heap.size, 0, none⟩) 1 1] 36)
    rwa [World.size_alloc, hs0] at this
  have hown := (hset.alloc (Obj.cells #[Value.iface ty x] 62)).alloc (Obj.cells #[Value.int IntKind.i64 kd, Value.slice (some ⟨w.heap.size, 0, none⟩) 1 1] 36)
  have hsz : ((W0.alloc (Obj.cells #[Value.iface ty x] 62)).alloc (Obj.cells #[Value.int IntKind.i64 kd, Value.slice (some ⟨w.heap.size, 0, none⟩) 1 1] 36)).heap.size = w.heap.size + 2 := by simp [hs0]
  generalize (W0.alloc (Obj.cells #[Value.iface ty x] 62)).alloc (Obj.cells #[Value.int IntKind.i64 kd, Value.slice (some ⟨w.heap.size, 0, none⟩) 1 1] 36) = W at *
  have hDg : ∀ q, D q → ¬ (q = g) := fun q hq e => (h.sepG g rfl).1 (e ▸ hq)
  refine ⟨⟨a, dp, _, _, _, vs0, h, ⟨k2.heap h.bra.blk (fun e => hgB e.symm), ?_⟩, hl0, (HE0.out).keep k2 hDg, fun q hq => .inl hq, Kp.mono k2 (fun i _ e => .inr (.inr (by rw [e]; rfl))), by omega, by omega, fun q hq => ?_⟩, ?_⟩
  · have e : (vs0 ++ [Value.iface 33 (.pointer (some ⟨w.heap.size + 1, 0, none⟩))]).length = (vs0 ++ [Value.iface ty x]).length := by simp
    rw [e]; exact hown
  · simp only [Value.ownBlock, Option.some.injEq] at hq ⊢
    subst hq
    exact ⟨Nat.le_refl _, fun e => by have e2 : g = w.heap.size := Option.some.inj e; omega⟩
  · refine ⟨h.rdr.keep k2 (fun e => (h.sepG g rfl).2.1 e.symm) (fun q hq e => (h.sepT q hq).2.2.1 (by rw [e]; rfl)), ⟨hr2, ⟨by simp, .inr ⟨w.heap.size, 1, #[.iface ty x], rfl, Nat.zero_le _, hr1, Nat.le_refl _, by unfold maxLen; omega, rfl, rfl⟩⟩⟩, rfl, ?_, fun q hq => by have := h.dlt q hq; omega, ⟨h.sep.1, fun hd => by have := h.dlt _ hd; omega, by omega⟩, fun q hq => ?_, fun q hq => ?_⟩
    · have := (Each.nil W D).snoc rfl ((HP0.out).keep k2 hDg)
      exact this
    · simp only [Value.ownBlock, Option.some.injEq] at hq
      subst hq
      exact ⟨fun hd => by have := h.dlt _ hd; omega, by omega, by omega⟩
    · obtain ⟨a1, a2, a3, a4⟩ := h.sepT q hq
      exact ⟨a1, by omega, (fun e => by simp only [Value.ownBlock, Option.some.injEq] at e; omega), by omega⟩
end Go.Proofs.YtpoipoencbieeaaDoor
/- One level deeper. -/
namespace Go.Proofs.YtpoipoencbieeaaDoor
open Go.RowKit
open M

theorem RdrT.deep {w : World} {rb : Nat} {s : ByteArray} {L : List Tk} {tv : Value} {a dp : Nat} (h : RdrT w rb s L tv a dp) (d2 : Nat) : RdrT (w.setCell ⟨rb, 6, none⟩ (.int .i64 d2)) rb s L tv a d2 :=
  ⟨h.raw.set6 _, h.row.keep (On.set (Kp.refl _ w) 6 _) (fun k hk e => h.own k hk e), h.le, h.own⟩
theorem Done.deep {w w4 : World} {rb : Nat} {s : ByteArray} {L : List Tk} {tv : Value} {dp B k : Nat} {rv : Value} {ps : List X.Part} {ts : List X.Tok} {D : Nat → Prop} (h : Done w rb s L tv dp B k rv ps ts D w4) (d2 : Nat) : Done w rb s L tv d2 B k rv ps ts D (w4.setCell ⟨rb, 6, none⟩ (.int .i64 d2)) := by
  obtain ⟨a', rv', vs', D', h1, h2, h3, h4, h5, h6⟩ := h
  have hOn : On rb w4 (w4.setCell ⟨rb, 6, none⟩ (.int .i64 d2)) := On.set (Kp.refl _ w4) 6 _
  exact ⟨a', rv', vs', D', h1.moved hOn (h1.rdr.deep d2), h2, h3, h4, h5, Kp.trans h6 hOn (fun i _ e => .inl e)⟩
/-- What was read, and then more of it. -/
theorem Done.then {w w1 : World} {rb : Nat} {s : ByteArray} {L : List Tk} {tv : Value} {dp B k : Nat} {rv : Value} {ps1 : List X.Part} {ts1 : List X.Tok} {D : Nat → Prop} {fn : FuncId} {F : X.R} {ok : List X.Tok → Prop} {Q : Ending → World → Prop}
    (h : Done w rb s L tv dp B k rv ps1 ts1 D w1) (hF : Reads fn F ok s L dp) (hok : ok ts1) (hl : ps1.length + (F ts1).1.length ≤ 1073741824)
    (hQ : ∀ w2, Hid (Done w rb s L tv dp B k rv (ps1 ++ (F ts1).1) (F ts1).2 D w2) → Q (.returned (.tuple #[])) w2) :
    Calls Tryd.prog fn #[.pointer (some ⟨rb, 0, none⟩), .pointer (some ⟨B, 0, none⟩)] w1 Q := by
  obtain ⟨a1, rv1, vs1, D1, g1, rfl, g3, g4, g5, g6⟩ := h
  refine (hF rb tv a1 B k rv1 vs1 ps1 D1 w1 g1 hok hl).mono ?_
  rintro e w2 ⟨rfl, H2⟩
  exact hQ w2 (Done.trans g3 g4 g5 g6 H2.out)

set_option maxRecDepth 100000 in
set_option maxHeartbeats 4000000 in
theorem nest_any (s : ByteArray) (L : List Tk) (dp : Nat) (hS : TokS s L) (hdp : dp ≤ 1000) (fn : FuncId) (hen : ∀ args w, (callFunc fn args).run Tryd.prog w = .ok (.enter fn args) w) (I : X.R) (hI : Reads fn I (fun _ => True) s L (dp + 1))
    (rb : Nat) (tv : Value) (a B k : Nat) (rv : Value) (vs : List Value) (ps : List X.Part) (D : Nat → Prop) (w : World) (h : Wk w rb s L tv a dp B k rv vs ps D) (hn : X.nxt (remT s L a) ≠ none) (kd : Nat) (hl : ps.length + 1 ≤ 1073741824) (hl2 : (X.andThen X.take I (remT s L a)).1.length ≤ 1073741824) :
    Calls Tryd.prog 55 #[.pointer (some ⟨rb, 0, none⟩), .pointer (some ⟨B, 0, none⟩), .int .i64 kd, .func (.func fn) #[.pointer (some ⟨rb, 0, none⟩)] #[]] w fun en w' => en = .returned (.tuple #[]) ∧ Hid (Done w rb s L tv dp B k rv (ps ++ (X.node kd (X.andThen X.take I) (remT s L a)).1) (X.node kd (X.andThen X.take I) (remT s L a)).2 D w') := by
  have hlA : (X.take (remT s L a)).1.length + (I (X.take (remT s L a)).2).1.length ≤ 1073741824 := by
    have : (X.andThen X.take I (remT s L a)).1.length = (X.take (remT s L a)).1.length + (I (X.take (remT s L a)).2).1.length := by simp [X.andThen]
    omega
  clear hl2
  have HH := hide h
  clear h
  go_enter Tryd.func55, Tryd.ntmps55
  go_wp2_with fail
  refine (grow_any rb s L tv a dp B k rv vs ps D w HH.out (by omega) kd).mono ?_
  rintro e w1 ⟨rfl, H1⟩
  obtain ⟨⟨c0, c1, c2, c3, c4, c5, c6⟩, f0, f1, f2, f3, f4, f5, f6⟩ := (H1.out).2.rdr.raw.facts
  go_wp2_with fail
  have hOn : On rb w1 (w1.setCell ⟨rb, 6, none⟩ (.int .i64 ((dp : Int) + 1))) := On.set (Kp.refl _ w1) 6 _
  have HO2 := hide ((H1.out).1.moved hOn)
  have HW2 : Hid (Wk (w1.setCell ⟨rb, 6, none⟩ (.int .i64 ((dp : Int) + 1))) rb s L tv a (dp + 1) w.heap.size kd (.slice none 0 0) [] [] D) := (H1.out).2.moved hOn (by have := (H1.out).2.rdr.deep (dp + 1); rw [Int.natCast_add] at this; exact this)
  clear c0 c1 c2 c3 c4 c5 c6 f0 f1 f2 f3 f4 f5 f6 hOn H1
  generalize w1.setCell ⟨rb, 6, none⟩ (.int .i64 ((dp : Int) + 1)) = W2 at *
  refine (take_any s L (dp + 1) hS rb tv a w.heap.size kd (.slice none 0 0) [] [] D W2 HW2.out hn (by simp; omega)).mono ?_
  rintro e w3 ⟨rfl, H3⟩
  rw [List.nil_append] at H3
  go_wp2_with fail
  refine Done.then (H3.out) hI trivial (by omega) ?_
  intro w4 H4
  have HD : Hid (∃ a4 : Nat, RawT w4 rb s tv a4 (nxI L a4) (X.kindN (remT s L a4)) (ba (X.wordN (remT s L a4))) ((dp + 1 : Nat) : Int)) := by
    obtain ⟨a4, _, _, _, g1, _⟩ := H4.out
    exact ⟨a4, g1.rdr.raw⟩
  obtain ⟨a4, hraw⟩ := HD.out
  obtain ⟨⟨c0, c1, c2, c3, c4, c5, c6⟩, f0, f1, f2, f3, f4, f5, f6⟩ := hraw.facts
  rw [Int.natCast_add] at c6
  have HC : Hid (Done w rb s L tv dp B k rv (ps ++ (X.node kd (X.andThen X.take I) (remT s L a)).1) (X.node kd (X.andThen X.take I) (remT s L a)).2 D (w4.setCell ⟨rb, 6, none⟩ (.int .i64 dp))) := (HO2.out).close (H4.out.deep dp)
  clear H4 H3 HD hraw HO2 HW2
  go_wp2_with fail
  go_end0
  exact ⟨rfl, by simpa using HC⟩
end Go.Proofs.YtpoipoencbieeaaDoor
/- Steps of a reader, one behind the other. -/
namespace Go.Proofs.YtpoipoencbieeaaDoor
open Go.RowKit
open M

/-- Texts laid as a row. -/
def strA (ss : List (List UInt8)) : Array Value := (ss.map (fun x => Value.string (ba x))).toArray
theorem strRow_all (w : World) (ss : List (List UInt8)) (hl : ss.length ≤ 1073741824) : StrRow (w.alloc (Obj.cells (strA ss) 9)) w.heap.size ss := by
  refine ⟨fun i z hz => ?_, hl⟩
  rw [cell_of_row _ _ i _ _ _ (heap_alloc_new w _)]
  unfold strA
  simp [hz]
theorem Done.isNext {w w1 : World} {rb : Nat} {s : ByteArray} {L : List Tk} {tv : Value} {dp B k : Nat} {rv : Value} {ps1 : List X.Part} {ts1 : List X.Tok} {D : Nat → Prop} {Q : Ending → World → Prop}
    (h : Done w rb s L tv dp B k rv ps1 ts1 D w1) (ss : List (List UInt8)) (hl : ss.length ≤ 1073741824)
    (hQ : ∀ w2, Hid (Done w rb s L tv dp B k rv ps1 ts1 D w2) → Q (.returned (.bool (ss.any (fun x => X.pN x ts1)))) w2) :
    Calls Tryd.prog 30 #[.pointer (some ⟨rb, 0, none⟩), .slice (some ⟨w1.heap.size, 0, none⟩) ss.length ss.length] (w1.alloc (Obj.cells (strA ss) 9)) Q := by
  obtain ⟨a1, rv1, vs1, D1, g1, rfl, g3, g4, g5, g6⟩ := h
  have kA : Below w1.heap.size w1 (w1.alloc (Obj.cells (strA ss) 9)) := (Below.refl _ w1).alloc (Nat.le_refl _) _
  refine (isNext_any rb s L tv a1 dp _ (g1.below kA).rdr w1.heap.size ss (strRow_all w1 ss hl)).mono ?_
  rintro e w2 ⟨rfl, k2⟩
  have hk : Below w1.heap.size w1 w2 := kA.trans (k2.mono (by simp))
  exact hQ w2 ⟨a1, rv1, vs1, D1, g1.below hk, rfl, g3, g4, g5, Kp.trans g6 (Kp.ofBelow hk (fun _ => False)) (fun _ _ h => h.elim)⟩
theorem Done.want {w w1 : World} {rb : Nat} {s : ByteArray} {L : List Tk} {tv : Value} {dp B k : Nat} {rv : Value} {ps1 : List X.Part} {ts1 : List X.Tok} {D : Nat → Prop} {Q : Ending → World → Prop}
    (h : Done w rb s L tv dp B k rv ps1 ts1 D w1) (hS : TokS s L) (ss : List (List UInt8)) (hx : ∀ x ∈ ss, x ≠ []) (hl1 : ss.length ≤ 1073741824) (hl : ps1.length + (X.wantsP ss ts1).1.length ≤ 1073741824)
    (hQ : ∀ w2, Hid (Done w rb s L tv dp B k rv (ps1 ++ (X.wantsP ss ts1).1) (X.wantsP ss ts1).2 D w2) → Q (.returned (.tuple #[])) w2) :
    Calls Tryd.prog 38 #[.pointer (some ⟨rb, 0, none⟩), .pointer (some ⟨B, 0, none⟩), .slice (some ⟨w1.heap.size, 0, none⟩) ss.length ss.length] (w1.alloc (Obj.cells (strA ss) 9)) Q := by
  obtain ⟨a1, rv1, vs1, D1, g1, rfl, g3, g4, g5, g6⟩ := h
  have kA : Below w1.heap.size w1 (w1.alloc (Obj.cells (strA ss) 9)) := (Below.refl _ w1).alloc (Nat.le_refl _) _
  have hbl := g1.bra.lt
  have hrl := g1.rdr.raw.lt
  refine (want_any s L dp hS rb tv a1 B k rv1 vs1 ps1 D1 _ (g1.below kA) w1.heap.size ss (strRow_all w1 ss hl1) hx ⟨by omega, by omega, fun e => by have := (owns_ge g1.bra.row _ e).2; omega, by simp⟩ hl).mono ?_
  rintro e w2 ⟨rfl, H2⟩
  refine hQ w2 (Done.trans g3 g4 g5 (Kp.trans g6 (Kp.ofBelow kA (fun _ => False)) (fun _ _ h => h.elim)) ?_)
  obtain ⟨a2, rv2, vs2, D2, f1, f2, f3, f4, f5, f6⟩ := H2.out
  refine ⟨a2, rv2, vs2, D2, f1, f2, f3, fun q hq => ?_, fun g hg => ?_, f6⟩
  · exact f4 q hq
  · exact f5 g hg
theorem Done.start {w : World} {rb : Nat} {s : ByteArray} {L : List Tk} {tv : Value} {a dp B k : Nat} {rv : Value} {vs : List Value} {ps : List X.Part} {D : Nat → Prop} (h : Wk w rb s L tv a dp B k rv vs ps D) : Hid (Done w rb s L tv dp B k rv ps (remT s L a) D w) := Done.refl h
theorem Done.good {w w1 : World} {rb : Nat} {s : ByteArray} {L : List Tk} {tv : Value} {dp B k : Nat} {rv : Value} {ps1 : List X.Part} {ts1 : List X.Tok} {D : Nat → Prop} (h : Done w rb s L tv dp B k rv ps1 ts1 D w1) (hS : TokS s L) : X.Good ts1 := by
  obtain ⟨a1, rv1, vs1, D1, g1, rfl, -⟩ := h
  exact hS.rem a1
end Go.Proofs.YtpoipoencbieeaaDoor
