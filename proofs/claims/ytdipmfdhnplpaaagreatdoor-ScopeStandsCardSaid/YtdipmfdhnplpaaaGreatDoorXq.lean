/- What stands within brackets and behind words, if expressions can be read one level deeper. -/
import Derived.Test.YtdipmfdhnplpaaaGreatDoorXo
import Derived.Shelf.Abstract
namespace Go.Proofs.YtdipmfdhnplpaaaGreatDoor
open Go.RowKit Go.Shelf
open M

theorem en_name : ∀ args w, (callFunc 154 args).run Tryz.prog w = .ok (.enter 154 args) w := enters_of Tryz.func154 (by kernel_rfl) rfl
theorem en_expr : ∀ args w, (callFunc 145 args).run Tryz.prog w = .ok (.enter 145 args) w := enters_of Tryz.func145 (by kernel_rfl) rfl

theorem X.len_andThen (f g : X.R) (ts : List X.Tok) : (X.andThen f g ts).1.length = (f ts).1.length + (g (f ts).2).1.length := by simp [X.andThen]

theorem Done.several {w w1 : World} {rb : Nat} {s : ByteArray} {L : List Tk} {tv : Value} {dp B k : Nat} {rv : Value} {ps1 : List X.Part} {ts1 : List X.Tok} {D : Nat → Prop} {Q : Ending → World → Prop} (h : Done w rb s L tv dp B k rv ps1 ts1 D w1) (hS : TokS s L)
    {fn : FuncId} (hen : ∀ args w, (callFunc fn args).run Tryz.prog w = .ok (.enter fn args) w) {O : X.R} (hO : Reads fn O (fun _ => True) s L dp) (hsh : X.Shr O) (e : List UInt8) (he : e ∈ X.signs) (hl : ps1.length + (X.several O e ts1).1.length ≤ 1073741824)
    (hQ : ∀ w2, Hid (Done w rb s L tv dp B k rv (ps1 ++ (X.several O e ts1).1) (X.several O e ts1).2 D w2) → Q (.returned (.tuple #[])) w2) :
    Calls Tryz.prog 153 #[.pointer (some ⟨rb, 0, none⟩), .pointer (some ⟨B, 0, none⟩), .func (.func fn) #[.pointer (some ⟨rb, 0, none⟩)] #[], .string (ba e)] w1 Q := by
  have hF := several_any s L dp hS fn hen O hO hsh e he
  exact Done.thenA (args := fun rb B => #[.pointer (some ⟨rb, 0, none⟩), .pointer (some ⟨B, 0, none⟩), .func (.func fn) #[.pointer (some ⟨rb, 0, none⟩)] #[], .string (ba e)]) h hF trivial hl hQ

section
variable {s : ByteArray} {L : List Tk} {dp : Nat} (hS : TokS s L) {E : X.R} (hE : Reads 145 E (fun _ => True) s L dp) (hsh : X.Shr E)
include hS hE hsh

set_option maxRecDepth 100000 in
set_option maxHeartbeats 400000 in
theorem args_any : Reads 175 (X.several E [41]) (fun _ => True) s L dp := by
  intro rb tv a B k rv vs ps D w h _ hl
  have H := Done.start h
  have HE := hide hE
  clear h hE
  go_enter Tryz.func175, Tryz.ntmps175
  go_wp2_with fail
  refine Done.several (H.out) hS en_expr HE.out hsh [41] (by decide) hl ?_
  intro w1 H1
  go_wp2_with fail
  go_end0
  exact ⟨rfl, H1⟩
set_option maxRecDepth 100000 in
set_option maxHeartbeats 400000 in
theorem list_any : Reads 177 (X.several E [93]) (fun _ => True) s L dp := by
  intro rb tv a B k rv vs ps D w h _ hl
  have H := Done.start h
  have HE := hide hE
  clear h hE
  go_enter Tryz.func177, Tryz.ntmps177
  go_wp2_with fail
  refine Done.several (H.out) hS en_expr HE.out hsh [93] (by decide) hl ?_
  intro w1 H1
  go_wp2_with fail
  go_end0
  exact ⟨rfl, H1⟩
set_option maxRecDepth 100000 in
set_option maxHeartbeats 400000 in
omit hsh in
theorem group_any : Reads 176 (X.andThen E (X.want [41])) (fun _ => True) s L dp := by
  intro rb tv a B k rv vs ps D w h _ hl
  have H := Done.start h
  have HE := hide hE
  clear h hE
  rw [X.len_andThen] at hl
  go_enter Tryz.func176, Tryz.ntmps176
  go_wp2_with fail
  refine Done.then (H.out) (HE.out) trivial (by omega) ?_
  intro w1 H1
  have e1 : X.wantsP [[41]] (E (remT s L a)).2 = X.want [41] (E (remT s L a)).2 := by rw [X.wantsP_one, X.wantP_sign ((H1.out).good hS) (.inr (by decide))]
  go_wp2_with fail
  refine Done.want (H1.out) hS [[41]] (by simp) (by simp) (by rw [e1, List.length_append]; omega) ?_
  intro w2 H2
  rw [e1] at H2
  go_wp2_with fail
  go_end0
  exact ⟨rfl, by show Done _ _ _ _ _ _ _ _ _ _ _ _ _; rw [List.append_assoc] at H2; exact H2.out⟩
end
end Go.Proofs.YtdipmfdhnplpaaaGreatDoor
/- Lets, choices, funs and their names, if expressions can be read one level deeper. -/
namespace Go.Proofs.YtdipmfdhnplpaaaGreatDoor
open Go.RowKit Go.Shelf
open M
namespace X
theorem andThen_congr {f f' g g' : R} {ts : List Tok} (h1 : f ts = f' ts) (h2 : g (f' ts).2 = g' (f' ts).2) : andThen f g ts = andThen f' g' ts := by
  unfold andThen; rw [h1, h2]
theorem wants_sign {x : List UInt8} (hs : x ∈ words ∨ x ∈ signs) {ts : List Tok} (hg : Good ts) : wantsP [x] ts = want x ts := by rw [wantsP_one, wantP_sign hg hs]
theorem wants_name {ts : List Tok} (hg : Good ts) : wantsP [sName] ts = wname ts := by rw [wantsP_one, wantP_name hg]
theorem wants_cons_name {xs : List (List UInt8)} {g : R} {ts : List Tok} (hg : Good ts) (h : wantsP xs (wname ts).2 = g (wname ts).2) : wantsP (sName :: xs) ts = andThen wname g ts := andThen_congr (wantP_name hg) h
theorem wants_cons_sign {x : List UInt8} (hs : x ∈ words ∨ x ∈ signs) {xs : List (List UInt8)} {g : R} {ts : List Tok} (hg : Good ts) (h : wantsP xs (want x ts).2 = g (want x ts).2) : wantsP (x :: xs) ts = andThen (want x) g ts := andThen_congr (wantP_sign hg hs) h
end X

set_option maxRecDepth 100000 in
set_option maxHeartbeats 400000 in
theorem params_any {s : ByteArray} {L : List Tk} {dp : Nat} (hS : TokS s L) : Reads 144 X.params (fun _ => True) s L dp := by
  intro rb tv a B k rv vs ps D w h _ hl
  have hg := hS.rem a
  have hn := name_any s L dp hS
  have hlen : (remT s L a).length ≤ L.length := (Done.refl h).len
  have hL := hS.len
  have hc := ((X.Cap.want [40]).andThen (X.Cap.wname.several [41])).le (remT s L a)
  rw [X.len_andThen] at hc
  have hl1 : ps.length + 1 ≤ 1073741824 := hl
  have HH := hide h
  have HNm := hide hn
  clear h hn hl
  have e1 := X.wants_sign (x := [40]) (.inr (by decide)) hg
  go_enter Tryz.func144, Tryz.ntmps144
  go_wp2_with fail
  refine (grow_any rb s L tv a dp B k rv vs ps D w HH.out (by omega) 6).mono ?_
  rintro e w1 ⟨rfl, H1⟩
  have HO := hide (H1.out).1
  have H2 := Done.start (H1.out).2
  clear H1
  go_wp2_with fail
  refine Done.want (H2.out) hS [[40]] (by simp) (by simp) (by rw [e1]; simp; omega) ?_
  intro w3 H3
  rw [e1, List.nil_append] at H3
  go_wp2_with fail
  refine Done.several (H3.out) hS en_name (HNm.out) X.Shr.wname [41] (by decide) (by omega) ?_
  intro w4 H4
  go_wp2_with fail
  go_end0
  exact ⟨rfl, (HO.out).close H4.out⟩

section
variable {s : ByteArray} {L : List Tk} {dp : Nat} (hS : TokS s L) {E : X.R} (hE : Reads 145 E (fun _ => True) s L dp)
include hS hE
set_option maxRecDepth 100000 in
set_option maxHeartbeats 400000 in
theorem let_any : Reads 156 (X.andThen X.wname (X.andThen (X.want [61]) (X.andThen E (X.andThen (X.want [105, 110]) E)))) (fun _ => True) s L dp := by
  intro rb tv a B k rv vs ps D w h _ hl
  have H := Done.start h
  have hg := hS.rem a
  have HE := hide hE
  clear h hE
  have e1 : X.wantsP [X.sName, [61]] (remT s L a) = X.andThen X.wname (X.want [61]) (remT s L a) := X.wants_cons_name hg (X.wants_sign (.inr (by decide)) (X.Shr.wname.good hg))
  have e0 : X.andThen X.wname (X.andThen (X.want [61]) (X.andThen E (X.andThen (X.want [105, 110]) E))) = X.andThen (X.andThen X.wname (X.want [61])) (X.andThen E (X.andThen (X.want [105, 110]) E)) := (X.andThen_assoc _ _ _).symm
  rw [e0] at hl ⊢
  rw [X.len_andThen, X.len_andThen E, X.len_andThen (X.want [105, 110])] at hl
  generalize hF : X.andThen X.wname (X.want [61]) = F at *
  go_enter Tryz.func156, Tryz.ntmps156
  go_wp2_with fail
  refine Done.want (H.out) hS [X.sName, [61]] (by simp [X.sName]) (by simp) (by rw [e1]; omega) ?_
  intro w1 H1
  rw [e1] at H1
  go_wp2_with fail
  refine Done.then (H1.out) (HE.out) trivial (by rw [List.length_append]; omega) ?_
  intro w2 H2
  have e2 := X.wants_sign (x := [105, 110]) (.inl (by decide)) ((H2.out).good hS)
  go_wp2_with fail
  refine Done.want (H2.out) hS [[105, 110]] (by simp) (by simp) (by rw [e2, List.length_append, List.length_append]; omega) ?_
  intro w3 H3
  rw [e2] at H3
  go_wp2_with fail
  refine Done.then (H3.out) (HE.out) trivial (by simp only [List.length_append]; omega) ?_
  intro w4 H4
  go_wp2_with fail
  go_end0
  refine ⟨rfl, ?_⟩
  simp only [List.append_assoc] at H4
  exact H4
set_option maxRecDepth 100000 in
set_option maxHeartbeats 400000 in
theorem choice_any : Reads 157 (X.andThen E (X.andThen (X.want [116, 104, 101, 110]) (X.andThen E (X.andThen (X.want [101, 108, 115, 101]) E)))) (fun _ => True) s L dp := by
  intro rb tv a B k rv vs ps D w h _ hl
  have H := Done.start h
  have HE := hide hE
  clear h hE
  rw [X.len_andThen, X.len_andThen (X.want _), X.len_andThen E, X.len_andThen (X.want _)] at hl
  go_enter Tryz.func157, Tryz.ntmps157
  go_wp2_with fail
  refine Done.then (H.out) (HE.out) trivial (by omega) ?_
  intro w1 H1
  have e1 := X.wants_sign (x := [116, 104, 101, 110]) (.inl (by decide)) ((H1.out).good hS)
  go_wp2_with fail
  refine Done.want (H1.out) hS [[116, 104, 101, 110]] (by simp) (by simp) (by rw [e1]; simp only [List.length_append]; omega) ?_
  intro w2 H2
  rw [e1] at H2
  go_wp2_with fail
  refine Done.then (H2.out) (HE.out) trivial (by simp only [List.length_append]; omega) ?_
  intro w3 H3
  have e2 := X.wants_sign (x := [101, 108, 115, 101]) (.inl (by decide)) ((H3.out).good hS)
  go_wp2_with fail
  refine Done.want (H3.out) hS [[101, 108, 115, 101]] (by simp) (by simp) (by rw [e2]; simp only [List.length_append]; omega) ?_
  intro w4 H4
  rw [e2] at H4
  go_wp2_with fail
  refine Done.then (H4.out) (HE.out) trivial (by simp only [List.length_append]; omega) ?_
  intro w5 H5
  go_wp2_with fail
  go_end0
  refine ⟨rfl, ?_⟩
  simp only [List.append_assoc] at H5
  exact H5
set_option maxRecDepth 100000 in
set_option maxHeartbeats 400000 in
theorem fun_any : Reads 158 (X.andThen X.params (X.andThen (X.want [61, 62]) E)) (fun _ => True) s L dp := by
  intro rb tv a B k rv vs ps D w h _ hl
  have H := Done.start h
  have HE := hide hE
  have HP := hide (params_any (s := s) (L := L) (dp := dp) hS)
  clear h hE
  rw [X.len_andThen, X.len_andThen (X.want _)] at hl
  generalize hF : X.params = F at *
  go_enter Tryz.func158, Tryz.ntmps158
  go_wp2_with fail
  refine Done.then (H.out) (HP.out) trivial (by omega) ?_
  intro w1 H1
  have e1 := X.wants_sign (x := [61, 62]) (.inr (by decide)) ((H1.out).good hS)
  go_wp2_with fail
  refine Done.want (H1.out) hS [[61, 62]] (by simp) (by simp) (by rw [e1]; simp only [List.length_append]; omega) ?_
  intro w2 H2
  rw [e1] at H2
  go_wp2_with fail
  refine Done.then (H2.out) (HE.out) trivial (by simp only [List.length_append]; omega) ?_
  intro w3 H3
  go_wp2_with fail
  go_end0
  refine ⟨rfl, ?_⟩
  simp only [List.append_assoc] at H3
  exact H3
end
end Go.Proofs.YtdipmfdhnplpaaaGreatDoor
/- Things with signs between them. -/
namespace Go.Proofs.YtdipmfdhnplpaaaGreatDoor
open Go.RowKit Go.Shelf
open M

set_option maxRecDepth 100000 in
set_option maxHeartbeats 400000 in
theorem binary_any {s : ByteArray} {L : List Tk} {dp : Nat} (hS : TokS s L) {fn : FuncId} (hen : ∀ args w, (callFunc fn args).run Tryz.prog w = .ok (.enter fn args) w) {O : X.R} (hO : Reads fn O (fun _ => True) s L dp)
    (rb : Nat) (tv : Value) (a B k : Nat) (rv : Value) (vs : List Value) (ps : List X.Part) (p : X.Part) (D : Nat → Prop) (w : World) (h : Wk w rb s L tv a dp B k rv vs (ps ++ [p]) D) (hn : X.nxt (remT s L a) ≠ none) (hl : ps.length + 1 ≤ 1073741824) (hl2 : 1 + (X.andThen X.take O (remT s L a)).1.length ≤ 1073741824) :
    Calls Tryz.prog 166 #[.pointer (some ⟨rb, 0, none⟩), .pointer (some ⟨B, 0, none⟩), .func (.func fn) #[.pointer (some ⟨rb, 0, none⟩)] #[]] w fun en w' => en = .returned (.tuple #[]) ∧ Hid (Done w rb s L tv dp B k rv (ps ++ [.br 10 ([p] ++ (X.andThen X.take O (remT s L a)).1)]) (X.andThen X.take O (remT s L a)).2 D w') := by
  rw [X.len_andThen] at hl2
  have HH := hide h
  have HO := hide hO
  clear h hO
  go_enter Tryz.func166, Tryz.ntmps166
  go_wp2_with fail
  refine (wrap_any rb s L tv a dp B k rv vs ps p D w HH.out hl 10).mono ?_
  rintro e w1 ⟨N, rvn, v, rfl, H1⟩
  have HOp := hide (H1.out).1
  have H2 := Done.start (H1.out).2
  clear H1
  go_wp2_with fail
  refine Done.then (H2.out) (take_any s L dp hS) hn (by simp; omega) ?_
  intro w3 H3
  go_wp2_with fail
  refine Done.then (H3.out) (HO.out) trivial (by simp; omega) ?_
  intro w4 H4
  go_wp2_with fail
  go_end0
  refine ⟨rfl, ?_⟩
  rw [List.append_assoc] at H4
  exact (HOp.out).close H4.out
theorem Done.binary {w w1 : World} {rb : Nat} {s : ByteArray} {L : List Tk} {tv : Value} {dp B k : Nat} {rv : Value} {ps1 : List X.Part} {p : X.Part} {ts1 : List X.Tok} {D : Nat → Prop} {Q : Ending → World → Prop} (h : Done w rb s L tv dp B k rv (ps1 ++ [p]) ts1 D w1) (hS : TokS s L)
    {fn : FuncId} (hen : ∀ args w, (callFunc fn args).run Tryz.prog w = .ok (.enter fn args) w) {O : X.R} (hO : Reads fn O (fun _ => True) s L dp) (hn : X.nxt ts1 ≠ none) (hl : ps1.length + 1 ≤ 1073741824) (hl2 : 1 + (X.andThen X.take O ts1).1.length ≤ 1073741824)
    (hQ : ∀ w2, Hid (Done w rb s L tv dp B k rv (ps1 ++ [.br 10 ([p] ++ (X.andThen X.take O ts1).1)]) (X.andThen X.take O ts1).2 D w2) → Q (.returned (.tuple #[])) w2) :
    Calls Tryz.prog 166 #[.pointer (some ⟨rb, 0, none⟩), .pointer (some ⟨B, 0, none⟩), .func (.func fn) #[.pointer (some ⟨rb, 0, none⟩)] #[]] w1 Q := by
  obtain ⟨a1, rv1, vs1, D1, g1, rfl, g3, g4, g5, g6⟩ := h
  refine (binary_any hS hen hO rb tv a1 B k rv1 vs1 ps1 p D1 w1 g1 hn hl hl2).mono ?_
  rintro e w2 ⟨rfl, H2⟩
  exact hQ w2 (Done.trans g3 g4 g5 g6 H2.out)
theorem Done.isNextRow {w w1 : World} {rb : Nat} {s : ByteArray} {L : List Tk} {tv : Value} {dp B k : Nat} {rv : Value} {ps1 : List X.Part} {ts1 : List X.Tok} {D : Nat → Prop} {Q : Ending → World → Prop}
    (h : Done w rb s L tv dp B k rv ps1 ts1 D w1) {c : Nat} {ss : List (List UInt8)} (hs : StrRow w c ss) (hc : c ≠ rb ∧ c ≠ B ∧ rv.ownBlock ≠ some c)
    (hQ : ∀ w2, Hid (Done w rb s L tv dp B k rv ps1 ts1 D w2) → Q (.returned (.bool (ss.any (fun x => X.pN x ts1)))) w2) :
    Calls Tryz.prog 122 #[.pointer (some ⟨rb, 0, none⟩), .slice (some ⟨c, 0, none⟩) ss.length ss.length] w1 Q := by
  obtain ⟨a1, rv1, vs1, D1, g1, rfl, g3, g4, g5, g6⟩ := h
  have hs1 : StrRow w1 c ss := ⟨fun i x hx => g6.cellv (hs.cells i x hx) (by
    rintro (e | e | e)
    · exact hc.1 e
    · exact hc.2.1 e
    · exact hc.2.2 e), hs.len⟩
  refine (isNext_any rb s L tv a1 dp _ g1.rdr c ss hs1).mono ?_
  rintro e w2 ⟨rfl, k2⟩
  exact hQ w2 ⟨a1, rv1, vs1, D1, g1.below k2, rfl, g3, g4, g5, Kp.trans g6 (Kp.ofBelow k2 (fun _ => False)) (fun _ _ h => h.elim)⟩

set_option maxRecDepth 100000 in
set_option maxHeartbeats 400000 in
theorem row_any {s : ByteArray} {L : List Tk} {dp : Nat} (hS : TokS s L) {fn : FuncId} (hen : ∀ args w, (callFunc fn args).run Tryz.prog w = .ok (.enter fn args) w) {O : X.R} (hO : Reads fn O (fun _ => True) s L dp) (hsh : X.Shr O) (h1 : X.One1 O)
    (ss : List (List UInt8)) (ok : List X.Tok → Bool) (hok : ∀ ts, X.Good ts → ss.any (fun x => X.pN x ts) = ok ts) (hok2 : ∀ ts, ok ts = true → X.nxt ts ≠ none)
    (rb : Nat) (tv : Value) (a B k : Nat) (rv : Value) (vs : List Value) (ps : List X.Part) (D : Nat → Prop) (w : World) (h : Wk w rb s L tv a dp B k rv vs ps D) (c : Nat) (hs : StrRow w c ss) (hc : c ≠ rb ∧ c ≠ B ∧ rv.ownBlock ≠ some c) (hl : ps.length + 1 ≤ 1073741824) :
    Calls Tryz.prog 169 #[.pointer (some ⟨rb, 0, none⟩), .pointer (some ⟨B, 0, none⟩), .func (.func fn) #[.pointer (some ⟨rb, 0, none⟩)] #[], .slice (some ⟨c, 0, none⟩) ss.length ss.length] w fun en w' => en = .returned (.tuple #[]) ∧ Hid (Done w rb s L tv dp B k rv (ps ++ (X.row O ok (remT s L a)).1) (X.row O ok (remT s L a)).2 D w') := by
  have H := Done.start h
  have HO := hide hO
  have HS := hide hs
  have HC := hide hc
  have hL := hS.len
  have hO1 := h1.len (remT s L a)
  clear h hO hs hc
  go_enter Tryz.func169, Tryz.ntmps169
  go_wp2_with fail
  refine Done.then (H.out) (HO.out) trivial (by omega) ?_
  intro w1 H1
  obtain ⟨p0, hp0⟩ := h1 (remT s L a)
  rw [hp0] at H1
  go_wp2_with fail
  go_loopw [] (fun wr => ∃ (p : X.Part) (ts1 : List X.Tok), Hid (Done w rb s L tv dp B k rv (ps ++ [p]) ts1 D wr) ∧ Hid (X.row O ok (remT s L a) = X.rowL O ok [p] ts1)) (fun wr => L.length - atT rb wr)
  case atStart => exact ⟨p0, _, H1, by show _ = _; rw [X.row_eq, hp0]⟩
  case round =>
    obtain ⟨p, ts1, H3, HE⟩ := hrel
    have hg1 := (H3.out).good hS
    have hlen1 := (H3.out).len
    go_wp2_with fail
    refine Done.isNextRow (H3.out) (HS.out) (HC.out) ?_
    intro w4 H4
    rw [hok ts1 hg1]
    cases hc2 : ok ts1 with
    | true =>
      have hn := hok2 ts1 hc2
      have hcap := (X.Cap.take.andThen (h1.cap hsh)).le ts1
      go_wp2_with fail
      refine Done.binary (H4.out) hS hen (HO.out) hn hl (by omega) ?_
      intro w5 H5
      go_wp2_with fail
      refine ⟨⟨_, _, H5, ?_⟩, ?_⟩
      · show _ = _
        rw [HE.out, X.rowL_yes hsh hok2 hc2]
      · rw [(H5.out).at, (H3.out).at]
        have := X.take_lt hn
        have := hsh.le (X.take ts1).2
        show (O (X.take ts1).2).2.length < _
        omega
    | false =>
      have hx : X.row O ok (remT s L a) = ([p], ts1) := by rw [HE.out, X.rowL_no hc2]
      go_wp2_with fail
      go_end0
      refine ⟨rfl, ?_⟩
      rw [hx]
      exact H4
theorem Done.row {w w1 : World} {rb : Nat} {s : ByteArray} {L : List Tk} {tv : Value} {dp B k : Nat} {rv : Value} {ps1 : List X.Part} {ts1 : List X.Tok} {D : Nat → Prop} {Q : Ending → World → Prop} (h : Done w rb s L tv dp B k rv ps1 ts1 D w1) (hS : TokS s L)
    {fn : FuncId} (hen : ∀ args w, (callFunc fn args).run Tryz.prog w = .ok (.enter fn args) w) {O : X.R} (hO : Reads fn O (fun _ => True) s L dp) (hsh : X.Shr O) (h1 : X.One1 O)
    (ss : List (List UInt8)) (hl1 : ss.length ≤ 1073741824) (ok : List X.Tok → Bool) (hok : ∀ ts, X.Good ts → ss.any (fun x => X.pN x ts) = ok ts) (hok2 : ∀ ts, ok ts = true → X.nxt ts ≠ none) (hl : ps1.length + 1 ≤ 1073741824)
    (hQ : ∀ w2, Hid (Done w rb s L tv dp B k rv (ps1 ++ (X.row O ok ts1).1) (X.row O ok ts1).2 D w2) → Q (.returned (.tuple #[])) w2) :
    Calls Tryz.prog 169 #[.pointer (some ⟨rb, 0, none⟩), .pointer (some ⟨B, 0, none⟩), .func (.func fn) #[.pointer (some ⟨rb, 0, none⟩)] #[], .slice (some ⟨w1.heap.size, 0, none⟩) ss.length ss.length] (w1.alloc (Obj.cells (strA ss) 9)) Q := by
  obtain ⟨a1, rv1, vs1, D1, g1, rfl, g3, g4, g5, g6⟩ := h
  have kA : Below w1.heap.size w1 (w1.alloc (Obj.cells (strA ss) 9)) := (Below.refl _ w1).alloc (Nat.le_refl _) _
  have hbl := g1.bra.lt
  have hrl := g1.rdr.raw.lt
  refine (row_any hS hen hO hsh h1 ss ok hok hok2 rb tv a1 B k rv1 vs1 ps1 D1 _ (g1.below kA) w1.heap.size (strRow_all w1 ss hl1) ⟨by omega, by omega, fun e => by have := (owns_ge g1.bra.row _ e).2; omega⟩ hl).mono ?_
  rintro e w2 ⟨rfl, H2⟩
  exact hQ w2 (Done.trans g3 g4 g5 (Kp.trans g6 (Kp.ofBelow kA (fun _ => False)) (fun _ _ h => h.elim)) H2.out)
end Go.Proofs.YtdipmfdhnplpaaaGreatDoor
