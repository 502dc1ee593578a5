/- Things with signs between them. -/
import Derived.Test.YtpoipoencbieeaaDoorXq
namespace Go.Proofs.YtpoipoencbieeaaDoor
open Go.RowKit Go.Shelf
open M

set_option maxRecDepth 100000 in
set_option maxHeartbeats 400000 in
theorem binary_any {s : ByteArray} {L : List Tk} {dp : Nat} (hS : TokS s L) {fn : FuncId} (hen : ∀ args w, (callFunc fn args).run Tryd.prog w = .ok (.enter fn args) w) {O : X.R} (hO : Reads fn O (fun _ => True) s L dp)
    (rb : Nat) (tv : Value) (a B k : Nat) (rv : Value) (vs : List Value) (ps : List X.Part) (p : X.Part) (D : Nat → Prop) (w : World) (h : Wk w rb s L tv a dp B k rv vs (ps ++ [p]) D) (hn : X.nxt (remT s L a) ≠ none) (hl : ps.length + 1 ≤ 1073741824) (hl2 : 1 + (X.andThen X.take O (remT s L a)).1.length ≤ 1073741824) :
    Calls Tryd.prog 64 #[.pointer (some ⟨rb, 0, none⟩), .pointer (some ⟨B, 0, none⟩), .func (.func fn) #[.pointer (some ⟨rb, 0, none⟩)] #[]] w fun en w' => en = .returned (.tuple #[]) ∧ Hid (Done w rb s L tv dp B k rv (ps ++ [.br 10 ([p] ++ (X.andThen X.take O (remT s L a)).1)]) (X.andThen X.take O (remT s L a)).2 D w') := by
  rw [X.len_andThen] at hl2
  have HH := hide h
  have HO := hide hO
  clear h hO
  go_enter Tryd.func64, Tryd.ntmps64
  go_wp2_with fail
  refine (wrap_any rb s L tv a dp B k rv vs ps p D w HH.out hl 10).mono ?_
  rintro e w1 ⟨N, rvn, v, rfl, H1⟩
  have HOp := hide (H1.out).1
  have H2 := Done.start (H1.out).2
  clear H1
  go_wp2_with fail
  refine Done.then (H2.out) (take_any s L dp hS) hn (by simp; omega) ?_
  intro w3 H3
  go_wp2_with fail
  refine Done.then (H3.out) (HO.out) trivial (by simp; omega) ?_
  intro w4 H4
  go_wp2_with fail
  go_end0
  refine ⟨rfl, ?_⟩
  rw [List.append_assoc] at H4
  exact (HOp.out).close H4.out
theorem Done.binary {w w1 : World} {rb : Nat} {s : ByteArray} {L : List Tk} {tv : Value} {dp B k : Nat} {rv : Value} {ps1 : List X.Part} {p : X.Part} {ts1 : List X.Tok} {D : Nat → Prop} {Q : Ending → World → Prop} (h : Done w rb s L tv dp B k rv (ps1 ++ [p]) ts1 D w1) (hS : TokS s L)
    {fn : FuncId} (hen : ∀ args w, (callFunc fn args).run Tryd.prog w = .ok (.enter fn args) w) {O : X.R} (hO : Reads fn O (fun _ => True) s L dp) (hn : X.nxt ts1 ≠ none) (hl : ps1.length + 1 ≤ 1073741824) (hl2 : 1 + (X.andThen X.take O ts1).1.length ≤ 1073741824)
    (hQ : ∀ w2, Hid (Done w rb s L tv dp B k rv (ps1 ++ [.br 10 ([p] ++ (X.andThen X.take O ts1).1)]) (X.andThen X.take O ts1).2 D w2) → Q (.returned (.tuple #[])) w2) :
    Calls Tryd.prog 64 #[.pointer (some ⟨rb, 0, none⟩), .pointer (some ⟨B, 0, none⟩), .func (.func fn) #[.pointer (some ⟨rb, 0, none⟩)] #[]] w1 Q := by
  obtain ⟨a1, rv1, vs1, D1, g1, rfl, g3, g4, g5, g6⟩ := h
  refine (binary_any hS hen hO rb tv a1 B k rv1 vs1 ps1 p D1 w1 g1 hn hl hl2).mono ?_
  rintro e w2 ⟨rfl, H2⟩
  exact hQ w2 (Done.trans g3 g4 g5 g6 H2.out)
theorem Done.isNextRow {w w1 : World} {rb : Nat} {s : ByteArray} {L : List Tk} {tv : Value} {dp B k : Nat} {rv : Value} {ps1 : List X.Part} {ts1 : List X.Tok} {D : Nat → Prop} {Q : Ending → World → Prop}
    (h : Done w rb s L tv dp B k rv ps1 ts1 D w1) {c : Nat} {ss : List (List UInt8)} (hs : StrRow w c ss) (hc : c ≠ rb ∧ c ≠ B ∧ rv.ownBlock ≠ some c)
    (hQ : ∀ w2, Hid (Done w rb s L tv dp B k rv ps1 ts1 D w2) → Q (.returned (.bool (ss.any (fun x => X.pN x ts1)))) w2) :
    Calls Tryd.prog 30 #[.pointer (some ⟨rb, 0, none⟩), .slice (some ⟨c, 0, none⟩) ss.length ss.length] w1 Q := by
  obtain ⟨a1, rv1, vs1, D1, g1, rfl, g3, g4, g5, g6⟩ := h
  have hs1 : StrRow w1 c ss := ⟨fun i x hx => g6.cellv (hs.cells i x hx) (by
    rintro (e | e | e)
    · exact hc.1 e
    · exact hc.2.1 e
    · exact hc.2.2 e), hs.len⟩
  refine (isNext_any rb s L tv a1 dp _ g1.rdr c ss hs1).mono ?_
  rintro e w2 ⟨rfl, k2⟩
  exact hQ w2 ⟨a1, rv1, vs1, D1, g1.below k2, rfl, g3, g4, g5, Kp.trans g6 (Kp.ofBelow k2 (fun _ => False)) (fun _ _ h => h.elim)⟩

set_option maxRecDepth 100000 in
set_option maxHeartbeats 400000 in
theorem row_any {s : ByteArray} {L : List Tk} {dp : Nat} (hS : TokS s L) {fn : FuncId} (hen : ∀ args w, (callFunc fn args).run Tryd.prog w = .ok (.enter fn args) w) {O : X.R} (hO : Reads fn O (fun _ => True) s L dp) (hsh : X.Shr O) (h1 : X.One1 O)
    (ss : List (List UInt8)) (ok : List X.Tok → Bool) (hok : ∀ ts, X.Good ts → ss.any (fun x => X.pN x ts) = ok ts) (hok2 : ∀ ts, ok ts = true → X.nxt ts ≠ none)
    (rb : Nat) (tv : Value) (a B k : Nat) (rv : Value) (vs : List Value) (ps : List X.Part) (D : Nat → Prop) (w : World) (h : Wk w rb s L tv a dp B k rv vs ps D) (c : Nat) (hs : StrRow w c ss) (hc : c ≠ rb ∧ c ≠ B ∧ rv.ownBlock ≠ some c) (hl : ps.length + 1 ≤ 1073741824) :
    Calls Tryd.prog 70 #[.pointer (some ⟨rb, 0, none⟩), .pointer (some ⟨B, 0, none⟩), .func (.func fn) #[.pointer (some ⟨rb, 0, none⟩)] #[], .slice (some ⟨c, 0, none⟩) ss.length ss.length] w fun en w' => en = .returned (.tuple #[]) ∧ Hid (Done w rb s L tv dp B k rv (ps ++ (X.row O ok (remT s L a)).1) (X.row O ok (remT s L a)).2 D w') := by
  have H := Done.start h
  have HO := hide hO
  have HS := hide hs
  have HC := hide hc
  have hL := hS.len
  have hO1 := h1.len (remT s L a)
  clear h hO hs hc
  go_enter Tryd.func70, Tryd.ntmps70
  go_wp2_with fail
  refine Done.then (H.out) (HO.out) trivial (by omega) ?_
  intro w1 H1
  obtain ⟨p0, hp0⟩ := h1 (remT s L a)
  rw [hp0] at H1
  go_wp2_with fail
  go_loopw [] (fun wr => ∃ (p : X.Part) (ts1 : List X.Tok), Hid (Done w rb s L tv dp B k rv (ps ++ [p]) ts1 D wr) ∧ Hid (X.row O ok (remT s L a) = X.rowL O ok [p] ts1)) (fun wr => L.length - atT rb wr)
  case atStart => exact ⟨p0, _, H1, by show _ = _; rw [X.row_eq, hp0]⟩
  case round =>
    obtain ⟨p, ts1, H3, HE⟩ := hrel
    have hg1 := (H3.out).good hS
    have hlen1 := (H3.out).len
    go_wp2_with fail
    refine Done.isNextRow (H3.out) (HS.out) (HC.out) ?_
    intro w4 H4
    rw [hok ts1 hg1]
    cases hc2 : ok ts1 with
    | true =>
      have hn := hok2 ts1 hc2
      have hcap := (X.Cap.take.andThen (h1.cap hsh)).le ts1
      go_wp2_with fail
      refine Done.binary (H4.out) hS hen (HO.out) hn hl (by omega) ?_
      intro w5 H5
      go_wp2_with fail
      refine ⟨⟨_, _, H5, ?_⟩, ?_⟩
      · show _ = _
        rw [HE.out, X.rowL_yes hsh hok2 hc2]
      · rw [(H5.out).at, (H3.out).at]
        have := X.take_lt hn
        have := hsh.le (X.take ts1).2
        show (O (X.take ts1).2).2.length < _
        omega
    | false =>
      have hx : X.row O ok (remT s L a) = ([p], ts1) := by rw [HE.out, X.rowL_no hc2]
      go_wp2_with fail
      go_end0
      refine ⟨rfl, ?_⟩
      rw [hx]
      exact H4
theorem Done.row {w w1 : World} {rb : Nat} {s : ByteArray} {L : List Tk} {tv : Value} {dp B k : Nat} {rv : Value} {ps1 : List X.Part} {ts1 : List X.Tok} {D : Nat → Prop} {Q : Ending → World → Prop} (h : Done w rb s L tv dp B k rv ps1 ts1 D w1) (hS : TokS s L)
    {fn : FuncId} (hen : ∀ args w, (callFunc fn args).run Tryd.prog w = .ok (.enter fn args) w) {O : X.R} (hO : Reads fn O (fun _ => True) s L dp) (hsh : X.Shr O) (h1 : X.One1 O)
    (ss : List (List UInt8)) (hl1 : ss.length ≤ 1073741824) (ok : List X.Tok → Bool) (hok : ∀ ts, X.Good ts → ss.any (fun x => X.pN x ts) = ok ts) (hok2 : ∀ ts, ok ts = true → X.nxt ts ≠ none) (hl : ps1.length + 1 ≤ 1073741824)
    (hQ : ∀ w2, Hid (Done w rb s L tv dp B k rv (ps1 ++ (X.row O ok ts1).1) (X.row O ok ts1).2 D w2) → Q (.returned (.tuple #[])) w2) :
    Calls Tryd.prog 70 #[.pointer (some ⟨rb, 0, none⟩), .pointer (some ⟨B, 0, none⟩), .func (.func fn) #[.pointer (some ⟨rb, 0, none⟩)] #[], .slice (some ⟨w1.heap.size, 0, none⟩) ss.length ss.length] (w1.alloc (Obj.cells (strA ss) 9)) Q := by
  obtain ⟨a1, rv1, vs1, D1, g1, rfl, g3, g4, g5, g6⟩ := h
  have kA : Below w1.heap.size w1 (w1.alloc (Obj.cells (strA ss) 9)) := (Below.refl _ w1).alloc (Nat.le_refl _) _
  have hbl := g1.bra.lt
  have hrl := g1.rdr.raw.lt
  refine (row_any hS hen hO hsh h1 ss ok hok hok2 rb tv a1 B k rv1 vs1 ps1 D1 _ (g1.below kA) w1.heap.size (strRow_all w1 ss hl1) ⟨by omega, by omega, fun e => by have := (owns_ge g1.bra.row _ e).2; omega⟩ hl).mono ?_
  rintro e w2 ⟨rfl, H2⟩
  exact hQ w2 (Done.trans g3 g4 g5 (Kp.trans g6 (Kp.ofBelow kA (fun _ => False)) (fun _ _ h => h.elim)) H2.out)
end Go.Proofs.YtpoipoencbieeaaDoor
