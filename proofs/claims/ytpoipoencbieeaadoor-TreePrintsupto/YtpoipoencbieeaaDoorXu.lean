/- Expressions. -/
import Derived.Test.YtpoipoencbieeaaDoorXt
namespace Go.Proofs.YtpoipoencbieeaaDoor
open Go.RowKit Go.Shelf
open M

theorem en_call : ∀ args w, (callFunc 75 args).run Tryd.prog w = .ok (.enter 75 args) w := enters_of Tryd.func75 (by kernel_rfl) rfl
theorem en_product : ∀ args w, (callFunc 71 args).run Tryd.prog w = .ok (.enter 71 args) w := enters_of Tryd.func71 (by kernel_rfl) rfl
theorem en_sum : ∀ args w, (callFunc 63 args).run Tryd.prog w = .ok (.enter 63 args) w := enters_of Tryd.func63 (by kernel_rfl) rfl
theorem en_let : ∀ args w, (callFunc 56 args).run Tryd.prog w = .ok (.enter 56 args) w := enters_of Tryd.func56 (by kernel_rfl) rfl
theorem en_choice : ∀ args w, (callFunc 57 args).run Tryd.prog w = .ok (.enter 57 args) w := enters_of Tryd.func57 (by kernel_rfl) rfl
theorem en_fun : ∀ args w, (callFunc 58 args).run Tryd.prog w = .ok (.enter 58 args) w := enters_of Tryd.func58 (by kernel_rfl) rfl

section
variable {s : ByteArray} {L : List Tk} {dp : Nat} (hS : TokS s L) (hdp : dp ≤ 1000) {E : X.R} (hE : Reads 40 E (fun _ => True) s L (dp + 1)) (hsh : X.Shr E) (h1 : X.One1 E)
include hS hdp hE hsh h1
set_option maxRecDepth 100000 in
set_option maxHeartbeats 1000000 in
theorem call_any : Reads 75 (X.call E) (fun _ => True) s L dp := by
  intro rb tv a B k rv vs ps D w h _ hl
  have hl0 : ps.length + 1 ≤ 1073741824 := by rw [(X.One1.call E).len] at hl; exact hl
  have H := Done.start h
  have HP := hide (part_any hS hdp hE hsh h1)
  have HA := hide (args_any hS hE hsh)
  have hL := hS.len
  have hO1 := (X.One1.part E).len (remT s L a)
  obtain ⟨p0, hp0⟩ := X.One1.part E (remT s L a)
  have HC0 : Hid (X.call E (remT s L a) = X.callL E [p0] (X.part E (remT s L a)).2) := by
    show X.callGo E _ _ _ = _
    rw [hp0]; rfl
  clear h hl hE
  generalize X.call E (remT s L a) = CE at *
  go_enter Tryd.func75, Tryd.ntmps75
  go_wp2_with fail
  refine Done.then (H.out) (HP.out) trivial (by omega) ?_
  intro w1 H1
  rw [hp0] at H1
  go_wp2_with fail
  go_loopw [] (fun wr => ∃ (p : X.Part) (ts1 : List X.Tok), Hid (Done w rb s L tv dp B k rv (ps ++ [p]) ts1 D wr) ∧ Hid (CE = X.callL E [p] ts1)) (fun wr => L.length - atT rb wr)
  case atStart => exact ⟨p0, _, H1, HC0⟩
  case round =>
    obtain ⟨p, ts1, H3, HE⟩ := hrel
    have hg1 := (H3.out).good hS
    have hlen1 := (H3.out).len
    have eA : [[40]].any (fun x => X.pN x ts1) = X.isN [40] ts1 := by simp [X.pN_sign hg1 (.inr (by decide : [40] ∈ X.signs))]
    go_wp2_with fail
    refine Done.isNext (H3.out) [[40]] (by simp) ?_
    intro w4 H4
    rw [eA]
    cases hc2 : X.isN [40] ts1 with
    | true =>
      have hn := X.isN_next hc2
      have hcap := (X.Cap.take.andThen ((h1.cap hsh).several [41])).le ts1
      go_wp2_with fail
      refine Done.wrap (H4.out) hl0 11 ?_
      intro N w5 HOp
      obtain ⟨D1, rvn, hst, hcl⟩ := HOp.out
      have HST := hide hst
      have HCL := hide hcl
      clear hst hcl HOp
      go_wp2_with fail
      refine Done.nest (HST.out) hS hdp en_args (HA.out) hn 12 (by simp) (by omega) ?_
      intro w6 H6
      have HF := hide ((HCL.out) _ _ _ _ H6.out)
      go_wp2_with fail
      refine ⟨⟨_, _, HF, ?_⟩, ?_⟩
      · show _ = _
        rw [HE.out, X.callL_yes hsh hc2]; rfl
      · rw [(HF.out).at, (H3.out).at]
        exact X.args_lt hsh hn
    | false =>
      have hx : CE = ([p], ts1) := by rw [HE.out, X.callL_no hc2]
      go_wp2_with fail
      go_end0
      refine ⟨rfl, ?_⟩
      rw [hx]
      exact H4
set_option maxRecDepth 100000 in
set_option maxHeartbeats 1000000 in
theorem product_any : Reads 71 (X.product E) (fun _ => True) s L dp := by
  intro rb tv a B k rv vs ps D w h _ hl
  have hl0 : ps.length + 1 ≤ 1073741824 := by rw [(X.One1.product E).len] at hl; exact hl
  have H := Done.start h
  have HC := hide (call_any hS hdp hE hsh h1)
  clear h hl hE
  go_enter Tryd.func71, Tryd.ntmps71
  go_wp2_with fail
  refine Done.row (H.out) hS en_call (HC.out) hsh.call (X.One1.call E) [[42]] (by simp) (X.isN [42]) (fun ts hg => by simp [X.pN_sign hg (.inr (by decide : [42] ∈ X.signs))]) (fun ts h => X.isN_next h) hl0 ?_
  intro w1 H1
  go_wp2_with fail
  go_end0
  exact ⟨rfl, H1⟩
set_option maxRecDepth 100000 in
set_option maxHeartbeats 1000000 in
theorem sum_any : Reads 63 (X.sum E) (fun _ => True) s L dp := by
  intro rb tv a B k rv vs ps D w h _ hl
  have hl0 : ps.length + 1 ≤ 1073741824 := by rw [(X.One1.sum E).len] at hl; exact hl
  have H := Done.start h
  have HC := hide (product_any hS hdp hE hsh h1)
  clear h hl hE
  go_enter Tryd.func63, Tryd.ntmps63
  go_wp2_with fail
  refine Done.row (H.out) hS en_product (HC.out) hsh.product (X.One1.product E) [[43], [45], [43, 43]] (by simp) (fun ts => X.isN [43] ts || X.isN [45] ts || X.isN [43, 43] ts) (fun ts hg => by simp [X.pN_sign hg (.inr (by decide : [43] ∈ X.signs)), X.pN_sign hg (.inr (by decide : [45] ∈ X.signs)), X.pN_sign hg (.inr (by decide : [43, 43] ∈ X.signs)), Bool.or_assoc]) (fun ts h => by
    rcases Bool.or_eq_true_iff.1 h with g | g
    · rcases Bool.or_eq_true_iff.1 g with g | g <;> exact X.isN_next g
    · exact X.isN_next g) hl0 ?_
  intro w1 H1
  go_wp2_with fail
  go_end0
  exact ⟨rfl, H1⟩
set_option maxRecDepth 100000 in
set_option maxHeartbeats 1000000 in
theorem comparison_any : Reads 59 (X.comparison E) (fun _ => True) s L dp := by
  intro rb tv a B k rv vs ps D w h _ hl
  have hl0 : ps.length + 1 ≤ 1073741824 := by rw [(X.One1.comparison E).len] at hl; exact hl
  have H := Done.start h
  have HC := hide (sum_any hS hdp hE hsh h1)
  have hL := hS.len
  have hO1 := (X.One1.sum E).len (remT s L a)
  obtain ⟨p0, hp0⟩ := X.One1.sum E (remT s L a)
  have HX : Hid (X.comparison E (remT s L a) = if X.isN [61, 61] (X.sum E (remT s L a)).2 || X.isN [60] (X.sum E (remT s L a)).2 then ([.br 10 ((X.sum E (remT s L a)).1 ++ (X.andThen X.take (X.sum E) (X.sum E (remT s L a)).2).1)], (X.andThen X.take (X.sum E) (X.sum E (remT s L a)).2).2) else X.sum E (remT s L a)) := (rfl : _ = _)
  have hcp : X.Cap (X.sum E) 1 := (X.One1.sum E).cap hsh.sum
  clear h hl hE
  generalize X.comparison E (remT s L a) = CE at *
  generalize X.sum E = SE at *
  go_enter Tryd.func59, Tryd.ntmps59
  go_wp2_with fail
  refine Done.then (H.out) (HC.out) trivial (by omega) ?_
  intro w1 H1
  rw [hp0] at H1
  have hg1 := (H1.out).good hS
  have hlen1 := (H1.out).len
  have hcap := (X.Cap.take.andThen hcp).le (SE (remT s L a)).2
  have eA : [[61, 61], [60]].any (fun x => X.pN x (SE (remT s L a)).2) = (X.isN [61, 61] (SE (remT s L a)).2 || X.isN [60] (SE (remT s L a)).2) := by simp [X.pN_sign hg1 (.inr (by decide : [61, 61] ∈ X.signs)), X.pN_sign hg1 (.inr (by decide : [60] ∈ X.signs))]
  go_wp2_with fail
  refine Done.isNext (H1.out) [[61, 61], [60]] (by simp) ?_
  intro w2 H2
  rw [eA]
  cases hc : (X.isN [61, 61] (SE (remT s L a)).2 || X.isN [60] (SE (remT s L a)).2) with
  | true =>
    go_wp2_with fail
    refine Done.binary (H2.out) hS en_sum (HC.out) (by rcases Bool.or_eq_true_iff.1 hc with g | g <;> exact X.isN_next g) hl0 (by omega) ?_
    intro w3 H3
    go_wp2_with fail
    go_end0
    refine ⟨rfl, ?_⟩
    have hp := HX.out
    rw [hc, if_pos rfl] at hp
    rw [hp, hp0]
    exact H3
  | false =>
    go_wp2_with fail
    go_end0
    refine ⟨rfl, ?_⟩
    have hp := HX.out
    rw [hc, if_neg (by simp)] at hp
    rw [hp, hp0]
    exact H2
end

set_option maxRecDepth 100000 in
set_option maxHeartbeats 1000000 in
theorem expression_any {s : ByteArray} {L : List Tk} (hS : TokS s L) : ∀ (n dp : Nat), dp + n = 65 → Reads 40 (X.expr n) (fun _ => True) s L dp := by
  intro n
  induction n with
  | zero =>
    intro dp hd rb tv a B k rv vs ps D w h _ hl
    have H := Done.start h
    obtain ⟨c4, c6⟩ := (H.out).kind
    have i1 : decide ((dp : Int) > 64) = true := by simp; omega
    have i2 : decide (64 < dp) = true := by simp; omega
    have hl0 : ps.length + 1 ≤ 1073741824 := hl
    clear h hl
    go_enter Tryd.func40, Tryd.ntmps40
    go_wp2_with fail
    refine Done.lack (H.out) X.sExpr (by omega) ?_
    intro w1 H1
    go_wp2_with fail
    go_end0
    exact ⟨rfl, H1⟩
  | succ n ih =>
    intro dp hd rb tv a B k rv vs ps D w h _ hl
    have hl0 : ps.length + 1 ≤ 1073741824 := by rw [(X.One1.expr (n + 1)).len] at hl; exact hl
    have hE := ih (dp + 1) (by omega)
    have hsh := X.Shr.expr n
    have h1 := X.One1.expr n
    have hdp : dp ≤ 1000 := by omega
    have H := Done.start h
    have hg := hS.rem a
    have HLt := hide (let_any hS hE)
    have HCh := hide (choice_any hS hE)
    have HFn := hide (fun_any hS hE)
    have HCp := hide (comparison_any hS hdp hE hsh h1)
    have hlen := (H.out).len
    have hL := hS.len
    have c1 := (X.Cap.take.andThen (X.Cap.wname.andThen ((X.Cap.want [61]).andThen ((h1.cap hsh).andThen ((X.Cap.want [105, 110]).andThen (h1.cap hsh)))))).le (remT s L a)
    have c2 := (X.Cap.take.andThen ((h1.cap hsh).andThen ((X.Cap.want [116, 104, 101, 110]).andThen ((h1.cap hsh).andThen ((X.Cap.want [101, 108, 115, 101]).andThen (h1.cap hsh)))))).le (remT s L a)
    have c3 := (X.Cap.take.andThen (((show X.Cap X.params 1 from X.One1.cap (X.One1.node _ 6) X.Shr.params)).andThen ((X.Cap.want [61, 62]).andThen (h1.cap hsh)))).le (remT s L a)
    have c5 := (X.One1.comparison (X.expr n)).len (remT s L a)
    obtain ⟨c4, c6⟩ := (H.out).kind
    have i1 : decide ((dp : Int) > 64) = false := by simp; omega
    have i2 : decide (64 < dp) = false := by simp; omega
    have HX : Hid (X.expr (n + 1) (remT s L a) = if X.isN [108, 101, 116] (remT s L a) then X.node 7 (X.andThen X.take (X.andThen X.wname (X.andThen (X.want [61]) (X.andThen (X.expr n) (X.andThen (X.want [105, 110]) (X.expr n)))))) (remT s L a)
      else if X.isN [105, 102] (remT s L a) then X.node 8 (X.andThen X.take (X.andThen (X.expr n) (X.andThen (X.want [116, 104, 101, 110]) (X.andThen (X.expr n) (X.andThen (X.want [101, 108, 115, 101]) (X.expr n)))))) (remT s L a)
      else if X.isN [102, 117, 110] (remT s L a) then X.node 9 (X.andThen X.take (X.andThen X.params (X.andThen (X.want [61, 62]) (X.expr n)))) (remT s L a)
      else X.comparison (X.expr n) (remT s L a)) := (rfl : _ = _)
    clear h hl hE ih hd
    generalize X.expr (n + 1) (remT s L a) = CE at *
    generalize X.expr n = E at *
    have eA : [[108, 101, 116]].any (fun x => X.pN x (remT s L a)) = X.isN [108, 101, 116] (remT s L a) := by simp [X.pN_sign hg (.inl (by decide : [108, 101, 116] ∈ words))]
    have eB : [[105, 102]].any (fun x => X.pN x (remT s L a)) = X.isN [105, 102] (remT s L a) := by simp [X.pN_sign hg (.inl (by decide : [105, 102] ∈ words))]
    have eC : [[102, 117, 110]].any (fun x => X.pN x (remT s L a)) = X.isN [102, 117, 110] (remT s L a) := by simp [X.pN_sign hg (.inl (by decide : [102, 117, 110] ∈ words))]
    generalize remT s L a = ts at *
    go_enter Tryd.func40, Tryd.ntmps40
    go_wp2_with fail
    refine Done.isNext (H.out) [[108, 101, 116]] (by simp) ?_
    intro wA HA
    rw [eA]
    clear eA c4 c6 H i1 i2
    cases hA : X.isN [108, 101, 116] ts with
    | true =>
      go_wp2_with fail
      refine Done.nest (HA.out) hS hdp en_let (HLt.out) (X.isN_next hA) 7 hl0 (by omega) ?_
      intro w1 H1
      go_wp2_with fail
      go_end0
      refine ⟨rfl, ?_⟩
      have hp := HX.out
      rw [hA, if_pos rfl] at hp
      rw [hp]
      exact H1
    | false =>
      go_wp2_with fail
      refine Done.isNext (HA.out) [[105, 102]] (by simp) ?_
      intro wB HB
      rw [eB]
      clear eB HA
      cases hB : X.isN [105, 102] ts with
      | true =>
        go_wp2_with fail
        refine Done.nest (HB.out) hS hdp en_choice (HCh.out) (X.isN_next hB) 8 hl0 (by omega) ?_
        intro w1 H1
        go_wp2_with fail
        go_end0
        refine ⟨rfl, ?_⟩
        have hp := HX.out
        rw [hA, if_neg (by simp), hB, if_pos rfl] at hp
        rw [hp]
        exact H1
      | false =>
        go_wp2_with fail
        refine Done.isNext (HB.out) [[102, 117, 110]] (by simp) ?_
        intro wC HC
        rw [eC]
        clear eC HB
        cases hC : X.isN [102, 117, 110] ts with
        | true =>
          go_wp2_with fail
          refine Done.nest (HC.out) hS hdp en_fun (HFn.out) (X.isN_next hC) 9 hl0 (by omega) ?_
          intro w1 H1
          go_wp2_with fail
          go_end0
          refine ⟨rfl, ?_⟩
          have hp := HX.out
          rw [hA, if_neg (by simp), hB, if_neg (by simp), hC, if_pos rfl] at hp
          rw [hp]
          exact H1
        | false =>
          go_wp2_with fail
          refine Done.then (HC.out) (HCp.out) trivial (by omega) ?_
          intro w1 H1
          go_wp2_with fail
          go_end0
          refine ⟨rfl, ?_⟩
          have hp := HX.out
          rw [hA, if_neg (by simp), hB, if_neg (by simp), hC, if_neg (by simp)] at hp
          rw [hp]
          exact H1
end Go.Proofs.YtpoipoencbieeaaDoor
