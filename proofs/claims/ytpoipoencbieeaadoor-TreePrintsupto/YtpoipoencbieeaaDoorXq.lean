/- What stands within brackets and behind words, if expressions can be read one level deeper. -/
import Derived.Test.YtpoipoencbieeaaDoorXo
import Derived.Shelf.Abstract
namespace Go.Proofs.YtpoipoencbieeaaDoor
open Go.RowKit Go.Shelf
open M

theorem en_name : ∀ args w, (callFunc 54 args).run Tryd.prog w = .ok (.enter 54 args) w := enters_of Tryd.func54 (by kernel_rfl) rfl
theorem en_expr : ∀ args w, (callFunc 40 args).run Tryd.prog w = .ok (.enter 40 args) w := enters_of Tryd.func40 (by kernel_rfl) rfl

theorem X.len_andThen (f g : X.R) (ts : List X.Tok) : (X.andThen f g ts).1.length = (f ts).1.length + (g (f ts).2).1.length := by simp [X.andThen]

theorem Done.several {w w1 : World} {rb : Nat} {s : ByteArray} {L : List Tk} {tv : Value} {dp B k : Nat} {rv : Value} {ps1 : List X.Part} {ts1 : List X.Tok} {D : Nat → Prop} {Q : Ending → World → Prop} (h : Done w rb s L tv dp B k rv ps1 ts1 D w1) (hS : TokS s L)
    {fn : FuncId} (hen : ∀ args w, (callFunc fn args).run Tryd.prog w = .ok (.enter fn args) w) {O : X.R} (hO : Reads fn O (fun _ => True) s L dp) (hsh : X.Shr O) (e : List UInt8) (he : e ∈ X.signs) (hl : ps1.length + (X.several O e ts1).1.length ≤ 1073741824)
    (hQ : ∀ w2, Hid (Done w rb s L tv dp B k rv (ps1 ++ (X.several O e ts1).1) (X.several O e ts1).2 D w2) → Q (.returned (.tuple #[])) w2) :
    Calls Tryd.prog 53 #[.pointer (some ⟨rb, 0, none⟩), .pointer (some ⟨B, 0, none⟩), .func (.func fn) #[.pointer (some ⟨rb, 0, none⟩)] #[], .string (ba e)] w1 Q := by
  have hF := several_any s L dp hS fn hen O hO hsh e he
  exact Done.thenA (args := fun rb B => #[.pointer (some ⟨rb, 0, none⟩), .pointer (some ⟨B, 0, none⟩), .func (.func fn) #[.pointer (some ⟨rb, 0, none⟩)] #[], .string (ba e)]) h hF trivial hl hQ

section
variable {s : ByteArray} {L : List Tk} {dp : Nat} (hS : TokS s L) {E : X.R} (hE : Reads 40 E (fun _ => True) s L dp) (hsh : X.Shr E)
include hS hE hsh

set_option maxRecDepth 100000 in
set_option maxHeartbeats 400000 in
theorem args_any : Reads 78 (X.several E [41]) (fun _ => True) s L dp := by
  intro rb tv a B k rv vs ps D w h _ hl
  have H := Done.start h
  have HE := hide hE
  clear h hE
  go_enter Tryd.func78, Tryd.ntmps78
  go_wp2_with fail
  refine Done.several (H.out) hS en_expr HE.out hsh [41] (by decide) hl ?_
  intro w1 H1
  go_wp2_with fail
  go_end0
  exact ⟨rfl, H1⟩
set_option maxRecDepth 100000 in
set_option maxHeartbeats 400000 in
theorem list_any : Reads 80 (X.several E [93]) (fun _ => True) s L dp := by
  intro rb tv a B k rv vs ps D w h _ hl
  have H := Done.start h
  have HE := hide hE
  clear h hE
  go_enter Tryd.func80, Tryd.ntmps80
  go_wp2_with fail
  refine Done.several (H.out) hS en_expr HE.out hsh [93] (by decide) hl ?_
  intro w1 H1
  go_wp2_with fail
  go_end0
  exact ⟨rfl, H1⟩
set_option maxRecDepth 100000 in
set_option maxHeartbeats 400000 in
omit hsh in
theorem group_any : Reads 79 (X.andThen E (X.want [41])) (fun _ => True) s L dp := by
  intro rb tv a B k rv vs ps D w h _ hl
  have H := Done.start h
  have HE := hide hE
  clear h hE
  rw [X.len_andThen] at hl
  go_enter Tryd.func79, Tryd.ntmps79
  go_wp2_with fail
  refine Done.then (H.out) (HE.out) trivial (by omega) ?_
  intro w1 H1
  have e1 : X.wantsP [[41]] (E (remT s L a)).2 = X.want [41] (E (remT s L a)).2 := by rw [X.wantsP_one, X.wantP_sign ((H1.out).good hS) (.inr (by decide))]
  go_wp2_with fail
  refine Done.want (H1.out) hS [[41]] (by simp) (by simp) (by rw [e1, List.length_append]; omega) ?_
  intro w2 H2
  rw [e1] at H2
  go_wp2_with fail
  go_end0
  exact ⟨rfl, by show Done _ _ _ _ _ _ _ _ _ _ _ _ _; rw [List.append_assoc] at H2; exact H2.out⟩
end
end Go.Proofs.YtpoipoencbieeaaDoor
/- Lets, choices, funs and their names, if expressions can be read one level deeper. -/
namespace Go.Proofs.YtpoipoencbieeaaDoor
open Go.RowKit Go.Shelf
open M
namespace X
theorem andThen_congr {f f' g g' : R} {ts : List Tok} (h1 : f ts = f' ts) (h2 : g (f' ts).2 = g' (f' ts).2) : andThen f g ts = andThen f' g' ts := by
  unfold andThen; rw [h1, h2]
theorem wants_sign {x : List UInt8} (hs : x ∈ words ∨ x ∈ signs) {ts : List Tok} (hg : Good ts) : wantsP [x] ts = want x ts := by rw [wantsP_one, wantP_sign hg hs]
theorem wants_name {ts : List Tok} (hg : Good ts) : wantsP [sName] ts = wname ts := by rw [wantsP_one, wantP_name hg]
theorem wants_cons_name {xs : List (List UInt8)} {g : R} {ts : List Tok} (hg : Good ts) (h : wantsP xs (wname ts).2 = g (wname ts).2) : wantsP (sName :: xs) ts = andThen wname g ts := andThen_congr (wantP_name hg) h
theorem wants_cons_sign {x : List UInt8} (hs : x ∈ words ∨ x ∈ signs) {xs : List (List UInt8)} {g : R} {ts : List Tok} (hg : Good ts) (h : wantsP xs (want x ts).2 = g (want x ts).2) : wantsP (x :: xs) ts = andThen (want x) g ts := andThen_congr (wantP_sign hg hs) h
end X

set_option maxRecDepth 100000 in
set_option maxHeartbeats 400000 in
theorem params_any {s : ByteArray} {L : List Tk} {dp : Nat} (hS : TokS s L) : Reads 39 X.params (fun _ => True) s L dp := by
  intro rb tv a B k rv vs ps D w h _ hl
  have hg := hS.rem a
  have hn := name_any s L dp hS
  have hlen : (remT s L a).length ≤ L.length := (Done.refl h).len
  have hL := hS.len
  have hc := ((X.Cap.want [40]).andThen (X.Cap.wname.several [41])).le (remT s L a)
  rw [X.len_andThen] at hc
  have hl1 : ps.length + 1 ≤ 1073741824 := hl
  have HH := hide h
  have HNm := hide hn
  clear h hn hl
  have e1 := X.wants_sign (x := [40]) (.inr (by decide)) hg
  go_enter Tryd.func39, Tryd.ntmps39
  go_wp2_with fail
  refine (grow_any rb s L tv a dp B k rv vs ps D w HH.out (by omega) 6).mono ?_
  rintro e w1 ⟨rfl, H1⟩
  have HO := hide (H1.out).1
  have H2 := Done.start (H1.out).2
  clear H1
  go_wp2_with fail
  refine Done.want (H2.out) hS [[40]] (by simp) (by simp) (by rw [e1]; simp; omega) ?_
  intro w3 H3
  rw [e1, List.nil_append] at H3
  go_wp2_with fail
  refine Done.several (H3.out) hS en_name (HNm.out) X.Shr.wname [41] (by decide) (by omega) ?_
  intro w4 H4
  go_wp2_with fail
  go_end0
  exact ⟨rfl, (HO.out).close H4.out⟩

section
variable {s : ByteArray} {L : List Tk} {dp : Nat} (hS : TokS s L) {E : X.R} (hE : Reads 40 E (fun _ => True) s L dp)
include hS hE
set_option maxRecDepth 100000 in
set_option maxHeartbeats 400000 in
theorem let_any : Reads 56 (X.andThen X.wname (X.andThen (X.want [61]) (X.andThen E (X.andThen (X.want [105, 110]) E)))) (fun _ => True) s L dp := by
  intro rb tv a B k rv vs ps D w h _ hl
  have H := Done.start h
  have hg := hS.rem a
  have HE := hide hE
  clear h hE
  have e1 : X.wantsP [X.sName, [61]] (remT s L a) = X.andThen X.wname (X.want [61]) (remT s L a) := X.wants_cons_name hg (X.wants_sign (.inr (by decide)) (X.Shr.wname.good hg))
  have e0 : X.andThen X.wname (X.andThen (X.want [61]) (X.andThen E (X.andThen (X.want [105, 110]) E))) = X.andThen (X.andThen X.wname (X.want [61])) (X.andThen E (X.andThen (X.want [105, 110]) E)) := (X.andThen_assoc _ _ _).symm
  rw [e0] at hl ⊢
  rw [X.len_andThen, X.len_andThen E, X.len_andThen (X.want [105, 110])] at hl
  generalize hF : X.andThen X.wname (X.want [61]) = F at *
  go_enter Tryd.func56, Tryd.ntmps56
  go_wp2_with fail
  refine Done.want (H.out) hS [X.sName, [61]] (by simp [X.sName]) (by simp) (by rw [e1]; omega) ?_
  intro w1 H1
  rw [e1] at H1
  go_wp2_with fail
  refine Done.then (H1.out) (HE.out) trivial (by rw [List.length_append]; omega) ?_
  intro w2 H2
  have e2 := X.wants_sign (x := [105, 110]) (.inl (by decide)) ((H2.out).good hS)
  go_wp2_with fail
  refine Done.want (H2.out) hS [[105, 110]] (by simp) (by simp) (by rw [e2, List.length_append, List.length_append]; omega) ?_
  intro w3 H3
  rw [e2] at H3
  go_wp2_with fail
  refine Done.then (H3.out) (HE.out) trivial (by simp only [List.length_append]; omega) ?_
  intro w4 H4
  go_wp2_with fail
  go_end0
  refine ⟨rfl, ?_⟩
  simp only [List.append_assoc] at H4
  exact H4
set_option maxRecDepth 100000 in
set_option maxHeartbeats 400000 in
theorem choice_any : Reads 57 (X.andThen E (X.andThen (X.want [116, 104, 101, 110]) (X.andThen E (X.andThen (X.want [101, 108, 115, 101]) E)))) (fun _ => True) s L dp := by
  intro rb tv a B k rv vs ps D w h _ hl
  have H := Done.start h
  have HE := hide hE
  clear h hE
  rw [X.len_andThen, X.len_andThen (X.want _), X.len_andThen E, X.len_andThen (X.want _)] at hl
  go_enter Tryd.func57, Tryd.ntmps57
  go_wp2_with fail
  refine Done.then (H.out) (HE.out) trivial (by omega) ?_
  intro w1 H1
  have e1 := X.wants_sign (x := [116, 104, 101, 110]) (.inl (by decide)) ((H1.out).good hS)
  go_wp2_with fail
  refine Done.want (H1.out) hS [[116, 104, 101, 110]] (by simp) (by simp) (by rw [e1]; simp only [List.length_append]; omega) ?_
  intro w2 H2
  rw [e1] at H2
  go_wp2_with fail
  refine Done.then (H2.out) (HE.out) trivial (by simp only [List.length_append]; omega) ?_
  intro w3 H3
  have e2 := X.wants_sign (x := [101, 108, 115, 101]) (.inl (by decide)) ((H3.out).good hS)
  go_wp2_with fail
  refine Done.want (H3.out) hS [[101, 108, 115, 101]] (by simp) (by simp) (by rw [e2]; simp only [List.length_append]; omega) ?_
  intro w4 H4
  rw [e2] at H4
  go_wp2_with fail
  refine Done.then (H4.out) (HE.out) trivial (by simp only [List.length_append]; omega) ?_
  intro w5 H5
  go_wp2_with fail
  go_end0
  refine ⟨rfl, ?_⟩
  simp only [List.append_assoc] at H5
  exact H5
set_option maxRecDepth 100000 in
set_option maxHeartbeats 400000 in
theorem fun_any : Reads 58 (X.andThen X.params (X.andThen (X.want [61, 62]) E)) (fun _ => True) s L dp := by
  intro rb tv a B k rv vs ps D w h _ hl
  have H := Done.start h
  have HE := hide hE
  have HP := hide (params_any (s := s) (L := L) (dp := dp) hS)
  clear h hE
  rw [X.len_andThen, X.len_andThen (X.want _)] at hl
  generalize hF : X.params = F at *
  go_enter Tryd.func58, Tryd.ntmps58
  go_wp2_with fail
  refine Done.then (H.out) (HP.out) trivial (by omega) ?_
  intro w1 H1
  have e1 := X.wants_sign (x := [61, 62]) (.inr (by decide)) ((H1.out).good hS)
  go_wp2_with fail
  refine Done.want (H1.out) hS [[61, 62]] (by simp) (by simp) (by rw [e1]; simp only [List.length_append]; omega) ?_
  intro w2 H2
  rw [e1] at H2
  go_wp2_with fail
  refine Done.then (H2.out) (HE.out) trivial (by simp only [List.length_append]; omega) ?_
  intro w3 H3
  go_wp2_with fail
  go_end0
  refine ⟨rfl, ?_⟩
  simp only [List.append_assoc] at H3
  exact H3
end
end Go.Proofs.YtpoipoencbieeaaDoor
