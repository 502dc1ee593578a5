/- Parts and calls of an expression, if expressions can be read one level deeper. -/
import Derived.Test.YtpoipoencbieeaaDoorXs
namespace Go.Proofs.YtpoipoencbieeaaDoor
open Go.RowKit Go.Shelf
open M

/-- A branch has been opened: what is read into it, and what comes of it. -/
def OpD (w : World) (rb : Nat) (s : ByteArray) (L : List Tk) (tv : Value) (dp B k : Nat) (rv : Value) (ps0 : List X.Part) (ts1 : List X.Tok) (D : Nat → Prop) (kd N : Nat) (cps0 : List X.Part) (w2 : World) : Prop :=
  ∃ (D1 : Nat → Prop) (rvn : Value), Done w2 rb s L tv dp N kd rvn cps0 ts1 D1 w2 ∧ ∀ cps ts' w4 dp', Done w2 rb s L tv dp' N kd rvn cps ts' D1 w4 → Done w rb s L tv dp' B k rv (ps0 ++ [.br kd cps]) ts' D w4
theorem Done.grow {w w1 : World} {rb : Nat} {s : ByteArray} {L : List Tk} {tv : Value} {dp B k : Nat} {rv : Value} {ps1 : List X.Part} {ts1 : List X.Tok} {D : Nat → Prop} {Q : Ending → World → Prop} (h : Done w rb s L tv dp B k rv ps1 ts1 D w1) (hl : ps1.length ≤ 1073741824) (kd : Nat)
    (hQ : ∀ N w2, Hid (OpD w rb s L tv dp B k rv ps1 ts1 D kd N [] w2) → Q (.returned (.pointer (some ⟨N, 0, none⟩))) w2) :
    Calls Tryd.prog 52 #[.pointer (some ⟨B, 0, none⟩), .int .i64 kd] w1 Q := by
  obtain ⟨a1, rv1, vs1, D1, g1, rfl, g3, g4, g5, g6⟩ := h
  refine (grow_any rb s L tv a1 dp B k rv1 vs1 ps1 D1 w1 g1 hl kd).mono ?_
  rintro e w2 ⟨rfl, H2⟩
  exact hQ _ w2 ⟨D1, _, Done.refl (H2.out).2, fun cps ts' w4 dp' hd => Done.trans g3 g4 g5 g6 ((H2.out).1.close hd)⟩
theorem Done.wrap {w w1 : World} {rb : Nat} {s : ByteArray} {L : List Tk} {tv : Value} {dp B k : Nat} {rv : Value} {ps1 : List X.Part} {p : X.Part} {ts1 : List X.Tok} {D : Nat → Prop} {Q : Ending → World → Prop} (h : Done w rb s L tv dp B k rv (ps1 ++ [p]) ts1 D w1) (hl : ps1.length + 1 ≤ 1073741824) (kd : Nat)
    (hQ : ∀ N w2, Hid (OpD w rb s L tv dp B k rv ps1 ts1 D kd N [p] w2) → Q (.returned (.pointer (some ⟨N, 0, none⟩))) w2) :
    Calls Tryd.prog 72 #[.pointer (some ⟨B, 0, none⟩), .int .i64 kd] w1 Q := by
  obtain ⟨a1, rv1, vs1, D1, g1, rfl, g3, g4, g5, g6⟩ := h
  refine (wrap_any rb s L tv a1 dp B k rv1 vs1 ps1 p D1 w1 g1 hl kd).mono ?_
  rintro e w2 ⟨N, rvn, v, rfl, H2⟩
  exact hQ N w2 ⟨D1, rvn, Done.refl (H2.out).2, fun cps ts' w4 dp' hd => Done.trans g3 g4 g5 g6 ((H2.out).1.close hd)⟩
theorem Done.nest {w w1 : World} {rb : Nat} {s : ByteArray} {L : List Tk} {tv : Value} {dp B k : Nat} {rv : Value} {ps1 : List X.Part} {ts1 : List X.Tok} {D : Nat → Prop} {Q : Ending → World → Prop} (h : Done w rb s L tv dp B k rv ps1 ts1 D w1) (hS : TokS s L) (hdp : dp ≤ 1000)
    {fn : FuncId} (hen : ∀ args w, (callFunc fn args).run Tryd.prog w = .ok (.enter fn args) w) {I : X.R} (hI : Reads fn I (fun _ => True) s L (dp + 1)) (hn : X.nxt ts1 ≠ none) (kd : Nat) (hl : ps1.length + 1 ≤ 1073741824) (hl2 : (X.andThen X.take I ts1).1.length ≤ 1073741824)
    (hQ : ∀ w2, Hid (Done w rb s L tv dp B k rv (ps1 ++ (X.node kd (X.andThen X.take I) ts1).1) (X.node kd (X.andThen X.take I) ts1).2 D w2) → Q (.returned (.tuple #[])) w2) :
    Calls Tryd.prog 55 #[.pointer (some ⟨rb, 0, none⟩), .pointer (some ⟨B, 0, none⟩), .int .i64 kd, .func (.func fn) #[.pointer (some ⟨rb, 0, none⟩)] #[]] w1 Q := by
  obtain ⟨a1, rv1, vs1, D1, g1, rfl, g3, g4, g5, g6⟩ := h
  refine (nest_any s L dp hS hdp fn hen I hI rb tv a1 B k rv1 vs1 ps1 D1 w1 g1 hn kd hl hl2).mono ?_
  rintro e w2 ⟨rfl, H2⟩
  exact hQ w2 (Done.trans g3 g4 g5 g6 H2.out)
/-- Something is missing. -/
theorem Done.lack {w w1 : World} {rb : Nat} {s : ByteArray} {L : List Tk} {tv : Value} {dp B k : Nat} {rv : Value} {ps1 : List X.Part} {ts1 : List X.Tok} {D : Nat → Prop} {Q : Ending → World → Prop} (h : Done w rb s L tv dp B k rv ps1 ts1 D w1) (m : List UInt8) (hl : ps1.length ≤ 1073741824)
    (hQ : ∀ w2, Hid (Done w rb s L tv dp B k rv (ps1 ++ [.miss m]) ts1 D w2) → Q (.returned (.tuple #[])) w2) :
    Calls Tryd.prog 11 #[.pointer (some ⟨B, 0, none⟩), .iface 92 (.string (ba m))] w1 Q := by
  obtain ⟨a1, rv1, vs1, D1, g1, rfl, g3, g4, g5, g6⟩ := h
  refine (add_any B k rv1 vs1 92 (.string (ba m)) w1 g1.bra (fun g hg => (g1.sepG g hg).2.2) (by rw [g1.len]; exact hl)).mono ?_
  rintro e w2 ⟨rfl, rv2, b2, o2, k2⟩
  refine hQ w2 (Done.trans g3 g4 g5 g6 ⟨a1, rv2, _, D1, g1.added b2 o2 k2 (IsP.miss m), rfl, fun _ => id, fun q hq => .inl hq, o2, Kp.mono k2 (fun i _ e => .inr e)⟩)
theorem Done.kind {w w1 : World} {rb : Nat} {s : ByteArray} {L : List Tk} {tv : Value} {dp B k : Nat} {rv : Value} {ps1 : List X.Part} {ts1 : List X.Tok} {D : Nat → Prop} (h : Done w rb s L tv dp B k rv ps1 ts1 D w1) : w1.cell? ⟨rb, 4, none⟩ = some (.int .i64 (X.kindN ts1)) ∧ w1.cell? ⟨rb, 6, none⟩ = some (.int .i64 dp) := by
  obtain ⟨a1, rv1, vs1, D1, g1, rfl, -⟩ := h
  obtain ⟨⟨c0, c1, c2, c3, c4, c5, c6⟩, -⟩ := g1.rdr.raw.facts
  exact ⟨c4, c6⟩
theorem en_args : ∀ args w, (callFunc 78 args).run Tryd.prog w = .ok (.enter 78 args) w := enters_of Tryd.func78 (by kernel_rfl) rfl
theorem en_list : ∀ args w, (callFunc 80 args).run Tryd.prog w = .ok (.enter 80 args) w := enters_of Tryd.func80 (by kernel_rfl) rfl
theorem en_group : ∀ args w, (callFunc 79 args).run Tryd.prog w = .ok (.enter 79 args) w := enters_of Tryd.func79 (by kernel_rfl) rfl

section
variable {s : ByteArray} {L : List Tk} {dp : Nat} (hS : TokS s L) (hdp : dp ≤ 1000) {E : X.R} (hE : Reads 40 E (fun _ => True) s L (dp + 1)) (hsh : X.Shr E) (h1 : X.One1 E)
include hS hdp hE hsh h1
set_option maxRecDepth 100000 in
set_option maxHeartbeats 1000000 in
theorem part_any : Reads 77 (X.part E) (fun _ => True) s L dp := by
  intro rb tv a B k rv vs ps D w h _ hl
  have hl0 : ps.length + 1 ≤ 1073741824 := by rw [(X.One1.part E).len] at hl; exact hl
  have H := Done.start h
  have hg := hS.rem a
  have HG := hide (group_any hS hE)
  have HL := hide (list_any hS hE hsh)
  have hlen := (H.out).len
  have hL := hS.len
  have cT := X.Cap.take.le (remT s L a)
  have cG := (X.Cap.take.andThen ((h1.cap hsh).andThen (X.Cap.want [41]))).le (remT s L a)
  have cL := (X.Cap.take.andThen ((h1.cap hsh).several [93])).le (remT s L a)
  obtain ⟨c4, c6⟩ := (H.out).kind
  clear h hl hE
  generalize hts : remT s L a = ts at *
  have HP : Hid (X.part E ts = if X.kindN ts == 5 then X.node 15 X.take ts else if X.kindN ts == 6 then X.node 16 X.take ts else if X.isN [116, 114, 117, 101] ts || X.isN [102, 97, 108, 115, 101] ts then X.node 17 X.take ts
    else if X.kindN ts == 3 then X.node 18 X.take ts else if X.isN [63] ts then X.node 19 X.take ts else if X.isN [40] ts then X.node 14 (X.andThen X.take (X.andThen E (X.want [41]))) ts else if X.isN [91] ts then X.node 13 (X.andThen X.take (X.several E [93])) ts else ([.miss X.sExpr], ts)) := (rfl : _ = _)
  have kI : ∀ n : Nat, ((X.kindN ts : Int) == (n : Int)) = (X.kindN ts == n) := fun n => by rw [Bool.eq_iff_iff]; simp; omega
  have i5 : ((X.kindN ts : Int) == 5) = (X.kindN ts == 5) := kI 5
  have i6 : ((X.kindN ts : Int) == 6) = (X.kindN ts == 6) := kI 6
  clear kI
  generalize X.part E ts = PE at *
  go_enter Tryd.func77, Tryd.ntmps77
  cases h5 : (X.kindN ts == 5) with
  | true =>
    rw [h5] at i5
    go_wp2_with fail
    refine Done.grow (H.out) (by omega) 15 ?_
    intro N w2 HOp
    obtain ⟨D1, rvn, hst, hcl⟩ := HOp.out
    have HST := hide hst
    have HCL := hide hcl
    clear hst hcl HOp
    go_wp2_with fail
    refine Done.then (HST.out) (take_any s L dp hS) (X.kindN_next (by decide) h5) (by simp; omega) ?_
    intro w3 H3
    have HF := hide ((HCL.out) _ _ _ _ H3.out)
    clear HST HCL H3
    go_wp2_with fail
    go_end0
    refine ⟨rfl, ?_⟩
    have hp := HP.out
    rw [h5, if_pos rfl] at hp
    rw [hp]
    exact HF
  | false =>
    rw [h5] at i5
    cases h6 : (X.kindN ts == 6) with
    | true =>
      rw [h6] at i6
      go_wp2_with fail
      refine Done.grow (H.out) (by omega) 16 ?_
      intro N w2 HOp
      obtain ⟨D1, rvn, hst, hcl⟩ := HOp.out
      have HST := hide hst
      have HCL := hide hcl
      clear hst hcl HOp
      go_wp2_with fail
      refine Done.then (HST.out) (take_any s L dp hS) (X.kindN_next (by decide) h6) (by simp; omega) ?_
      intro w3 H3
      have HF := hide ((HCL.out) _ _ _ _ H3.out)
      clear HST HCL H3
      go_wp2_with fail
      go_end0
      refine ⟨rfl, ?_⟩
      have hp := HP.out
      rw [h5, if_neg (by simp), h6, if_pos rfl] at hp
      rw [hp]
      exact HF
    | false =>
      rw [h6] at i6
      go_wp2_with fail
      have eA : [[116, 114, 117, 101], [102, 97, 108, 115, 101]].any (fun x => X.pN x ts) = (X.isN [116, 114, 117, 101] ts || X.isN [102, 97, 108, 115, 101] ts) := by simp [X.pN_sign hg (.inl (by decide : [116, 114, 117, 101] ∈ words)), X.pN_sign hg (.inl (by decide : [102, 97, 108, 115, 101] ∈ words))]
      refine Done.isNext (H.out) [[116, 114, 117, 101], [102, 97, 108, 115, 101]] (by simp) ?_
      intro wA HA
      rw [eA]
      clear eA c4 c6 H i5 i6
      cases hA : (X.isN [116, 114, 117, 101] ts || X.isN [102, 97, 108, 115, 101] ts) with
      | true =>
        go_wp2_with fail
        refine Done.grow (HA.out) (by omega) 17 ?_
        intro N w2 HOp
        obtain ⟨D1, rvn, hst, hcl⟩ := HOp.out
        have HST := hide hst
        have HCL := hide hcl
        clear hst hcl HOp
        go_wp2_with fail
        refine Done.then (HST.out) (take_any s L dp hS) (by rcases Bool.or_eq_true_iff.1 hA with g | g <;> exact X.isN_next g) (by simp; omega) ?_
        intro w3 H3
        have HF := hide ((HCL.out) _ _ _ _ H3.out)
        clear HST HCL H3
        go_wp2_with fail
        go_end0
        refine ⟨rfl, ?_⟩
        have hp := HP.out
        rw [h5, if_neg (by simp), h6, if_neg (by simp), hA, if_pos rfl] at hp
        rw [hp]
        exact HF
      | false =>
        go_wp2_with fail
        have eB : [X.sName].any (fun x => X.pN x ts) = (X.kindN ts == 3) := by simp [X.pN_name hg]
        refine Done.isNext (HA.out) [X.sName] (by simp) ?_
        intro wB HB
        rw [eB]
        clear eB HA
        cases hB : (X.kindN ts == 3) with
        | true =>
          go_wp2_with fail
          refine Done.grow (HB.out) (by omega) 18 ?_
          intro N w2 HOp
          obtain ⟨D1, rvn, hst, hcl⟩ := HOp.out
          have HST := hide hst
          have HCL := hide hcl
          clear hst hcl HOp
          go_wp2_with fail
          refine Done.then (HST.out) (take_any s L dp hS) (X.kindN_next (by decide) hB) (by simp; omega) ?_
          intro w3 H3
          have HF := hide ((HCL.out) _ _ _ _ H3.out)
          clear HST HCL H3
          go_wp2_with fail
          go_end0
          refine ⟨rfl, ?_⟩
          have hp := HP.out
          rw [h5, if_neg (by simp), h6, if_neg (by simp), hA, if_neg (by simp), hB, if_pos rfl] at hp
          rw [hp]
          exact HF
        | false =>
          go_wp2_with fail
          have eC : [[63]].any (fun x => X.pN x ts) = X.isN [63] ts := by simp [X.pN_sign hg (.inr (by decide : [63] ∈ X.signs))]
          refine Done.isNext (HB.out) [[63]] (by simp) ?_
          intro wC HC
          rw [eC]
          clear eC HB
          cases hC : X.isN [63] ts with
          | true =>
            go_wp2_with fail
            refine Done.grow (HC.out) (by omega) 19 ?_
            intro N w2 HOp
            obtain ⟨D1, rvn, hst, hcl⟩ := HOp.out
            have HST := hide hst
            have HCL := hide hcl
            clear hst hcl HOp
            go_wp2_with fail
            refine Done.then (HST.out) (take_any s L dp hS) (X.isN_next hC) (by simp; omega) ?_
            intro w3 H3
            have HF := hide ((HCL.out) _ _ _ _ H3.out)
            clear HST HCL H3
            go_wp2_with fail
            go_end0
            refine ⟨rfl, ?_⟩
            have hp := HP.out
            rw [h5, if_neg (by simp), h6, if_neg (by simp), hA, if_neg (by simp), hB, if_neg (by simp), hC, if_pos rfl] at hp
            rw [hp]
            exact HF
          | false =>
            go_wp2_with fail
            have eD : [[40]].any (fun x => X.pN x ts) = X.isN [40] ts := by simp [X.pN_sign hg (.inr (by decide : [40] ∈ X.signs))]
            refine Done.isNext (HC.out) [[40]] (by simp) ?_
            intro wD HD
            rw [eD]
            clear eD HC
            cases hD : X.isN [40] ts with
            | true =>
              go_wp2_with fail
              refine Done.nest (HD.out) hS hdp en_group (HG.out) (X.isN_next hD) 14 hl0 (by omega) ?_
              intro w3 HF
              clear HD
              go_wp2_with fail
              go_end0
              refine ⟨rfl, ?_⟩
              have hp := HP.out
              rw [h5, if_neg (by simp), h6, if_neg (by simp), hA, if_neg (by simp), hB, if_neg (by simp), hC, if_neg (by simp), hD, if_pos rfl] at hp
              rw [hp]
              exact HF
            | false =>
              go_wp2_with fail
              have eE : [[91]].any (fun x => X.pN x ts) = X.isN [91] ts := by simp [X.pN_sign hg (.inr (by decide : [91] ∈ X.signs))]
              refine Done.isNext (HD.out) [[91]] (by simp) ?_
              intro wE HE
              rw [eE]
              clear eE HD
              cases hE : X.isN [91] ts with
              | true =>
                go_wp2_with fail
                refine Done.nest (HE.out) hS hdp en_list (HL.out) (X.isN_next hE) 13 hl0 (by omega) ?_
                intro w3 HF
                clear HE
                go_wp2_with fail
                go_end0
                refine ⟨rfl, ?_⟩
                have hp := HP.out
                rw [h5, if_neg (by simp), h6, if_neg (by simp), hA, if_neg (by simp), hB, if_neg (by simp), hC, if_neg (by simp), hD, if_neg (by simp), hE, if_pos rfl] at hp
                rw [hp]
                exact HF
              | false =>
                go_wp2_with fail
                refine Done.lack (HE.out) X.sExpr (by omega) ?_
                intro w3 HF
                clear HE
                go_wp2_with fail
                go_end0
                refine ⟨rfl, ?_⟩
                have hp := HP.out
                rw [h5, if_neg (by simp), h6, if_neg (by simp), hA, if_neg (by simp), hB, if_neg (by simp), hC, if_neg (by simp), hD, if_neg (by simp), hE, if_neg (by simp)] at hp
                rw [hp]
                exact HF
end
end Go.Proofs.YtpoipoencbieeaaDoor
