/- The kids of a root. -/
import Derived.Test.YtpoipoencbieeaaDoorXv
namespace Go.Proofs.YtpoipoencbieeaaDoor
open Go.RowKit Go.Shelf
open M

set_option maxRecDepth 100000 in
set_option maxHeartbeats 300000 in
theorem def_any {s : ByteArray} {L : List Tk} (hS : TokS s L) : ReadsK 33 X.defR 4 s L 0 := by
  intro w w1 rb tv B k rv ps ts D h hl
  obtain ⟨b0, b1⟩ := h.bfacts
  have hg := h.good hS
  have H := hide (h.setKind 4)
  have HE := hide (expression_any hS 65 0 rfl)
  have HPa := hide (params_any (s := s) (L := L) (dp := 0) hS)
  obtain ⟨M, hM⟩ : ∃ M : X.R, M = fun ts => if X.isN [40] ts then X.params ts else ([], ts) := ⟨_, rfl⟩
  have e0 : X.defR = X.andThen (X.andThen (X.want X.sDef) X.wname) (X.andThen M (X.andThen (X.want [61]) (X.andThen (X.expr 65) (X.want [59])))) := by
    unfold X.defR; rw [hM]; simp only [X.andThen_assoc]
  rw [e0] at hl ⊢
  rw [X.len_andThen, X.len_andThen M, X.len_andThen (X.want [61]), X.len_andThen (X.expr 65)] at hl
  have e1 : X.wantsP [X.sDef, X.sName] ts = X.andThen (X.want X.sDef) X.wname ts :=
    X.wants_cons_sign (.inl (by decide)) hg (X.wants_name ((X.Shr.want _).good hg))
  generalize X.andThen (X.want X.sDef) X.wname = F at *
  generalize X.expr 65 = E at *
  have HM : Hid (∀ ts, M ts = if X.isN [40] ts then X.params ts else ([], ts)) := fun ts => by rw [hM]
  clear h hM e0
  have hz : (w1.setCell ⟨B, 0, none⟩ (.int .i64 ((4 : Nat) : Int))).heap.size = w1.heap.size := by simp
  go_enter Tryd.func33, Tryd.ntmps33
  go_wp2_with fail
  rw [show (Value.int IntKind.i64 4) = .int .i64 ((4 : Nat) : Int) from rfl] at *
  generalize w1.setCell ⟨B, 0, none⟩ (.int .i64 ((4 : Nat) : Int)) = W at *
  rw [← hz]
  refine Done.want (H.out) hS [X.sDef, X.sName] (by simp [X.sDef, X.sName]) (by simp) (by rw [e1]; omega) ?_
  intro w2 H2
  rw [e1] at H2
  have hg2 := (H2.out).good hS
  have eA : [[40]].any (fun x => X.pN x (F ts).2) = X.isN [40] (F ts).2 := by simp [X.pN_sign hg2 (.inr (by decide : [40] ∈ X.signs))]
  go_wp2_with fail
  refine Done.isNext (H2.out) [[40]] (by simp) ?_
  intro w3 H3
  rw [eA]
  cases hA : X.isN [40] (F ts).2 with
  | true =>
    have hm : M (F ts).2 = X.params (F ts).2 := by rw [HM.out, hA, if_pos rfl]
    generalize X.params = PA at *
    go_wp2_with fail
    refine Done.then (H3.out) (HPa.out) trivial (by rw [← hm, List.length_append]; omega) ?_
    intro w4 H4
    rw [← hm] at H4
    have e3 := X.wants_sign (x := [61]) (.inr (by decide)) ((H4.out).good hS)
    go_wp2_with fail
    refine Done.want (H4.out) hS [[61]] (by simp) (by simp) (by rw [e3]; simp only [List.length_append]; omega) ?_
    intro w5 H5
    rw [e3] at H5
    go_wp2_with fail
    refine Done.then (H5.out) (HE.out) trivial (by simp only [List.length_append]; omega) ?_
    intro w6 H6
    have e4 := X.wants_sign (x := [59]) (.inr (by decide)) ((H6.out).good hS)
    go_wp2_with fail
    refine Done.want (H6.out) hS [[59]] (by simp) (by simp) (by rw [e4]; simp only [List.length_append]; omega) ?_
    intro w7 H7
    rw [e4] at H7
    go_wp2_with fail
    go_end0
    refine ⟨rfl, ?_⟩
    simp only [List.append_assoc] at H7
    exact H7
  | false =>
    have hm : M (F ts).2 = ([], (F ts).2) := by rw [HM.out, hA, if_neg (by simp)]
    have H4 : Hid (Done w rb s L tv 0 B 4 rv (ps ++ (F ts).1 ++ (M (F ts).2).1) (M (F ts).2).2 D w3) := by
      rw [hm, List.append_nil]; exact H3
    clear hm H3
    have e3 := X.wants_sign (x := [61]) (.inr (by decide)) ((H4.out).good hS)
    go_wp2_with fail
    refine Done.want (H4.out) hS [[61]] (by simp) (by simp) (by rw [e3]; simp only [List.length_append]; omega) ?_
    intro w5 H5
    rw [e3] at H5
    go_wp2_with fail
    refine Done.then (H5.out) (HE.out) trivial (by simp only [List.length_append]; omega) ?_
    intro w6 H6
    have e4 := X.wants_sign (x := [59]) (.inr (by decide)) ((H6.out).good hS)
    go_wp2_with fail
    refine Done.want (H6.out) hS [[59]] (by simp) (by simp) (by rw [e4]; simp only [List.length_append]; omega) ?_
    intro w7 H7
    rw [e4] at H7
    go_wp2_with fail
    go_end0
    refine ⟨rfl, ?_⟩
    simp only [List.append_assoc] at H7
    exact H7

theorem Done.thenK {w w1 : World} {rb : Nat} {s : ByteArray} {L : List Tk} {tv : Value} {dp B k : Nat} {rv : Value} {ps1 : List X.Part} {ts1 : List X.Tok} {D : Nat → Prop} {fn : FuncId} {F : X.R} {k2 : Nat} {Q : Ending → World → Prop}
    (h : Done w rb s L tv dp B k rv ps1 ts1 D w1) (hF : ReadsK fn F k2 s L dp) (hl : ps1.length + (F ts1).1.length ≤ 1073741824)
    (hQ : ∀ w2, Hid (Done w rb s L tv dp B k2 rv (ps1 ++ (F ts1).1) (F ts1).2 D w2) → Q (.returned (.tuple #[])) w2) :
    Calls Tryd.prog fn #[.pointer (some ⟨rb, 0, none⟩), .pointer (some ⟨B, 0, none⟩)] w1 Q := by
  refine (hF w w1 rb tv B k rv ps1 ts1 D h hl).mono ?_
  rintro e w2 ⟨rfl, H2⟩
  exact hQ w2 H2

set_option maxRecDepth 100000 in
set_option maxHeartbeats 300000 in
theorem item_any {s : ByteArray} {L : List Tk} (hS : TokS s L) (w w1 : World) (rb : Nat) (tv : Value) (B k : Nat) (rv : Value) (ps : List X.Part) (ts : List X.Tok) (D : Nat → Prop) (h : Done w rb s L tv 0 B k rv ps ts D w1) (hst : X.starts ts = true) (hl : ps.length + (X.kid ts).2.1.length ≤ 1073741824) :
    Calls Tryd.prog 22 #[.pointer (some ⟨rb, 0, none⟩), .pointer (some ⟨B, 0, none⟩)] w1 fun en w' => en = .returned (.tuple #[]) ∧ Hid (Done w rb s L tv 0 B (X.kid ts).1 rv (ps ++ (X.kid ts).2.1) (X.kid ts).2.2 D w') := by
  have hg := h.good hS
  have H := hide h
  have HU := hide (use_any (s := s) (L := L) (dp := 0) hS)
  have HDf := hide (def_any hS)
  have HK : Hid (X.kid ts = if X.isN X.sUse (X.optPub ts).2 then (3, X.andThen X.optPub X.useR ts) else (4, X.andThen X.optPub X.defR ts)) := by
    show _ = _
    rw [X.kid_eq, hst, if_pos rfl]
  have HO : Hid (X.optPub ts = if X.isN X.sPub ts then X.take ts else ([], ts)) := (rfl : _ = _)
  have eA : [X.sPub].any (fun x => X.pN x ts) = X.isN X.sPub ts := by simp [X.pN_sign hg (.inl (by decide : X.sPub ∈ words))]
  clear h
  generalize X.kid ts = KD at *
  have hlu : X.isN X.sUse (X.optPub ts).2 = true → ps.length + ((X.optPub ts).1.length + (X.useR (X.optPub ts).2).1.length) ≤ 1073741824 := fun e => by
    have := HK.out; rw [e, if_pos rfl] at this; rw [this] at hl
    rw [X.len_andThen] at hl; exact hl
  have hld : X.isN X.sUse (X.optPub ts).2 = false → ps.length + ((X.optPub ts).1.length + (X.defR (X.optPub ts).2).1.length) ≤ 1073741824 := fun e => by
    have := HK.out; rw [e, if_neg (by simp)] at this; rw [this] at hl
    rw [X.len_andThen] at hl; exact hl
  have hlo : ps.length + (X.optPub ts).1.length ≤ 1073741824 := by
    cases e : X.isN X.sUse (X.optPub ts).2 with
    | true => have := hlu e; omega
    | false => have := hld e; omega
  generalize X.useR = U at *
  generalize X.defR = Df at *
  generalize hop : X.optPub = OP at *
  clear hop
  go_enter Tryd.func22, Tryd.ntmps22
  go_wp2_with fail
  refine Done.isNext (H.out) [X.sPub] (by simp) ?_
  intro w2 H2
  rw [eA]
  cases hA : X.isN X.sPub ts with
  | true =>
    have ho : OP ts = X.take ts := by rw [HO.out, hA, if_pos rfl]
    go_wp2_with fail
    refine Done.then (H2.out) (take_any s L 0 hS) (X.isN_next hA) (by rw [← ho]; exact hlo) ?_
    intro w3 H3
    rw [← ho] at H3
    have eB : [X.sUse].any (fun x => X.pN x (OP ts).2) = X.isN X.sUse (OP ts).2 := by simp [X.pN_sign ((H3.out).good hS) (.inl (by decide : X.sUse ∈ words))]
    go_wp2_with fail
    refine Done.isNext (H3.out) [X.sUse] (by simp) ?_
    intro w4 H4
    rw [eB]
    cases hB : X.isN X.sUse (OP ts).2 with
    | true =>
      have h9 := hlu hB
      go_wp2_with fail
      refine Done.thenK (H4.out) (HU.out) (by rw [List.length_append]; omega) ?_
      intro w5 H5
      go_wp2_with fail
      go_end0
      refine ⟨rfl, ?_⟩
      have hp := HK.out
      rw [hB, if_pos rfl] at hp
      rw [hp]
      rw [List.append_assoc] at H5
      exact H5
    | false =>
      have h9 := hld hB
      go_wp2_with fail
      refine Done.thenK (H4.out) (HDf.out) (by rw [List.length_append]; omega) ?_
      intro w5 H5
      go_wp2_with fail
      go_end0
      refine ⟨rfl, ?_⟩
      have hp := HK.out
      rw [hB, if_neg (by simp)] at hp
      rw [hp]
      rw [List.append_assoc] at H5
      exact H5
  | false =>
    have ho : OP ts = ([], ts) := by rw [HO.out, hA, if_neg (by simp)]
    have H3 : Hid (Done w rb s L tv 0 B k rv (ps ++ (OP ts).1) (OP ts).2 D w2) := by rw [ho, List.append_nil]; exact H2
    have eB : [X.sUse].any (fun x => X.pN x (OP ts).2) = X.isN X.sUse (OP ts).2 := by simp [X.pN_sign ((H3.out).good hS) (.inl (by decide : X.sUse ∈ words))]
    go_wp2_with fail
    refine Done.isNext (H3.out) [X.sUse] (by simp) ?_
    intro w4 H4
    rw [eB]
    cases hB : X.isN X.sUse (OP ts).2 with
    | true =>
      have h9 := hlu hB
      go_wp2_with fail
      refine Done.thenK (H4.out) (HU.out) (by rw [List.length_append]; omega) ?_
      intro w5 H5
      go_wp2_with fail
      go_end0
      refine ⟨rfl, ?_⟩
      have hp := HK.out
      rw [hB, if_pos rfl] at hp
      rw [hp]
      rw [List.append_assoc] at H5
      exact H5
    | false =>
      have h9 := hld hB
      go_wp2_with fail
      refine Done.thenK (H4.out) (HDf.out) (by rw [List.length_append]; omega) ?_
      intro w5 H5
      go_wp2_with fail
      go_end0
      refine ⟨rfl, ?_⟩
      have hp := HK.out
      rw [hB, if_neg (by simp)] at hp
      rw [hp]
      rw [List.append_assoc] at H5
      exact H5

end Go.Proofs.YtpoipoencbieeaaDoor
