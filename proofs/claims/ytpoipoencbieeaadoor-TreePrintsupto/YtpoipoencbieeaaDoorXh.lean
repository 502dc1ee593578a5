/- What is next is taken; some things are wanted. -/
import Derived.Test.YtpoipoencbieeaaDoorXg
namespace Go.Proofs.YtpoipoencbieeaaDoor
open Go.RowKit
open M

theorem take_rem {s : ByteArray} {L : List Tk} {a : Nat} : X.take (remT s L a) = (((L.drop a).take (nxI L a + 1 - a)).map (fun t => X.lf (X.tkx (bs s) t)), remT s L (nxI L a + 1)) := by
  unfold X.take
  rw [rem_take, rem_drop]
  have e1 : nxI L a + 1 - a = ((L.drop a).takeWhile qk).length + 1 := by unfold nxI; omega
  have e2 : (L.drop a).take ((L.drop a).takeWhile qk).length = (L.drop a).takeWhile qk := (List.prefix_iff_eq_take.1 (List.takeWhile_prefix _)).symm
  rw [e1, List.take_add, e2, List.drop_drop]
  refine Prod.ext ?_ ?_
  · show List.map X.lf _ = _
    unfold remT nxI
    rw [← List.map_take, ← List.map_append, List.map_map]; rfl
  · show List.drop 1 _ = _
    unfold remT
    rw [← List.map_drop, List.drop_drop]
theorem has_next {s : ByteArray} {L : List Tk} {a : Nat} (h : X.nxt (remT s L a) ≠ none) : nxI L a < L.length := by
  rw [nxt_rem] at h
  rcases Nat.lt_or_ge (nxI L a) L.length with g | g
  · exact g
  · rw [List.getElem?_eq_none g] at h; exact absurd rfl h

/-- One behind the other. -/
theorem Done.trans {w w1 w2 : World} {rb : Nat} {s : ByteArray} {L : List Tk} {tv : Value} {dp B k : Nat} {rv rv1 : Value} {ps2 : List X.Part} {ts2 : List X.Tok} {D D1 : Nat → Prop}
    (hD : ∀ q, D q → D1 q) (hN : ∀ q, D1 q → D q ∨ w.heap.size ≤ q) (hr : ∀ g, rv1.ownBlock = some g → rv.ownBlock = some g ∨ w.heap.size ≤ g) (hk : Kp (Sr rb B rv) w w1) (h : Done w1 rb s L tv dp B k rv1 ps2 ts2 D1 w2) : Done w rb s L tv dp B k rv ps2 ts2 D w2 := by
  obtain ⟨a', rv', vs', D', h1, h2, h3, h4, h5, h6⟩ := h
  have hz := hk.size
  refine ⟨a', rv', vs', D', h1, h2, fun q hq => h3 q (hD q hq), fun q hq => ?_, fun g hg => ?_, Kp.trans hk h6 (fun i hi e => ?_)⟩
  · rcases h4 q hq with e | e
    · exact hN q e
    · exact .inr (by omega)
  · rcases h5 g hg with e | e
    · exact hr g e
    · exact .inr (by omega)
  · rcases e with e | e | e
    · exact .inl e
    · exact .inr (.inl e)
    · rcases hr i e with e | e
      · exact .inr (.inr e)
      · omega
/-- A function that reads on into a branch. -/
def Reads (fn : FuncId) (F : X.R) (ok : List X.Tok → Prop) (s : ByteArray) (L : List Tk) (dp : Nat) : Prop :=
  ∀ (rb : Nat) (tv : Value) (a B k : Nat) (rv : Value) (vs : List Value) (ps : List X.Part) (D : Nat → Prop) (w : World), Wk w rb s L tv a dp B k rv vs ps D → ok (remT s L a) → ps.length + (F (remT s L a)).1.length ≤ 1073741824 →
    Calls Tryd.prog fn #[.pointer (some ⟨rb, 0, none⟩), .pointer (some ⟨B, 0, none⟩)] w fun en w' => en = .returned (.tuple #[]) ∧ Hid (Done w rb s L tv dp B k rv (ps ++ (F (remT s L a)).1) (F (remT s L a)).2 D w')

set_option maxRecDepth 100000 in
set_option maxHeartbeats 4000000 in
theorem take_any (s : ByteArray) (L : List Tk) (dp : Nat) (hS : TokS s L) : Reads 31 X.take (fun ts => X.nxt ts ≠ none) s L dp := by
  intro rb tv a B k rv vs ps D w h hn hl
  have hlt := has_next hn
  have ha := nxI_ge L a
  rw [take_rem] at hl ⊢
  simp only [List.length_map, List.length_take, List.length_drop] at hl
  obtain ⟨⟨c0, c1, c2, c3, c4, c5, c6⟩, -⟩ := h.rdr.raw.facts
  have hl2 := hS.len
  have HC := hide (leaves_any rb s L tv a dp B k rv vs ps D w hS h (nxI L a + 1) (by omega) (by omega) (by omega))
  rw [Int.natCast_add] at HC
  clear h hn
  go_enter Tryd.func31, Tryd.ntmps31
  go_wp2_with fail
  refine (HC.out).mono ?_
  rintro e w1 ⟨rfl, H1⟩
  go_wp2_with fail
  go_end0
  exact ⟨rfl, H1⟩
set_option maxRecDepth 100000 in
set_option maxHeartbeats 4000000 in
theorem rest_any (s : ByteArray) (L : List Tk) (dp : Nat) (hS : TokS s L) : Reads 13 (fun ts => (ts.map X.lf, [])) (fun _ => True) s L dp := by
  intro rb tv a B k rv vs ps D w h _ hl
  have ha := h.rdr.le
  have e1 : (remT s L a).map X.lf = ((L.drop a).take (L.length - a)).map (fun t => X.lf (X.tkx (bs s) t)) := by
    unfold remT
    rw [List.map_map, List.take_of_length_le (by rw [List.length_drop]; omega)]; rfl
  have e2 : remT s L L.length = [] := by unfold remT; simp
  simp only [e1, List.length_map, List.length_take, List.length_drop] at hl ⊢
  obtain ⟨⟨c0, c1, c2, c3, c4, c5, c6⟩, -⟩ := h.rdr.raw.facts
  have hl2 := hS.len
  have HC := hide (leaves_any rb s L tv a dp B k rv vs ps D w hS h L.length ha (Nat.le_refl _) (by omega))
  rw [e2] at HC
  obtain ⟨ao, cap, rfl, hc1, hc2, -⟩ := h.rdr.row
  clear h e1 e2
  go_enter Tryd.func13, Tryd.ntmps13
  go_wp2_with fail
  refine (HC.out).mono ?_
  rintro e w1 ⟨rfl, H1⟩
  go_wp2_with fail
  go_end0
  exact ⟨rfl, H1⟩
end Go.Proofs.YtpoipoencbieeaaDoor
/- Some things are wanted, one behind the other. -/
namespace Go.Proofs.YtpoipoencbieeaaDoor
open Go.RowKit
open M
namespace X
theorem andThen_assoc (f g h : R) : andThen (andThen f g) h = andThen f (andThen g h) := by
  funext ts; simp [andThen]
def nilR : R := fun ts => ([], ts)
theorem nil_andThen (f : R) : andThen nilR f = f := by funext ts; simp [andThen, nilR]
theorem andThen_nil (f : R) : andThen f nilR = f := by funext ts; simp [andThen, nilR]
/-- As the program wants something. -/
def wantP (x : List UInt8) : R := fun ts => if pN x ts then take ts else ([.miss x], ts)
def wantsP : List (List UInt8) → R
  | [] => nilR
  | x :: xs => andThen (wantP x) (wantsP xs)
theorem wantsP_append : ∀ (l r : List (List UInt8)), wantsP (l ++ r) = andThen (wantsP l) (wantsP r)
  | [], r => (nil_andThen _).symm
  | x :: l, r => by rw [List.cons_append, wantsP, wantsP_append l r, wantsP, andThen_assoc]
theorem wantsP_le (ss : List (List UInt8)) (j : Nat) (ts : List Tok) : (wantsP (ss.take j) ts).1.length ≤ (wantsP ss ts).1.length := by
  have : wantsP ss = andThen (wantsP (ss.take j)) (wantsP (ss.drop j)) := by rw [← wantsP_append, List.take_append_drop]
  rw [this]; simp [andThen]
theorem wantsP_snoc {ss : List (List UInt8)} {j : Nat} {x : List UInt8} (h : ss[j]? = some x) (ts : List Tok) : wantsP (ss.take (j + 1)) ts = ((wantsP (ss.take j) ts).1 ++ (wantP x (wantsP (ss.take j) ts).2).1, (wantP x (wantsP (ss.take j) ts).2).2) := by
  rw [List.take_add_one, h, wantsP_append]
  show andThen _ (wantsP [x]) ts = _
  rw [wantsP, wantsP, andThen_nil]; rfl
theorem pN_next {x : List UInt8} {ts : List Tok} (hx : x ≠ []) (h : pN x ts = true) : nxt ts ≠ none := by
  intro e
  unfold pN wordN kindN at h
  rw [e] at h
  simp [hx] at h
end X
theorem strRow_one (w : World) (x : List UInt8) : StrRow (w.alloc (Obj.cells #[Value.string (ba x)] 9)) w.heap.size [x] := by
  refine ⟨fun i z hz => ?_, by simp⟩
  rcases Nat.eq_zero_or_pos i with rfl | g
  · obtain rfl : x = z := by simpa using hz
    rw [cell_of_row _ _ 0 _ _ _ (heap_alloc_new w _)]; rfl
  · rw [List.getElem?_eq_none (by simp; omega)] at hz; cases hz
theorem Done.refl {w : World} {rb : Nat} {s : ByteArray} {L : List Tk} {tv : Value} {a dp B k : Nat} {rv : Value} {vs : List Value} {ps : List X.Part} {D : Nat → Prop} (h : Wk w rb s L tv a dp B k rv vs ps D) : Done w rb s L tv dp B k rv ps (remT s L a) D w :=
  ⟨a, rv, vs, D, h, rfl, fun _ => id, fun _ hq => .inl hq, fun _ hg => .inl hg, Kp.refl _ _⟩

set_option maxRecDepth 100000 in
set_option maxHeartbeats 4000000 in
theorem want_any (s : ByteArray) (L : List Tk) (dp : Nat) (hS : TokS s L) (rb : Nat) (tv : Value) (a B k : Nat) (rv : Value) (vs : List Value) (ps : List X.Part) (D : Nat → Prop) (w : World) (h : Wk w rb s L tv a dp B k rv vs ps D)
    (c : Nat) (ss : List (List UInt8)) (hs : StrRow w c ss) (hx : ∀ x ∈ ss, x ≠ []) (hc : c ≠ rb ∧ c ≠ B ∧ rv.ownBlock ≠ some c ∧ c < w.heap.size) (hl : ps.length + (X.wantsP ss (remT s L a)).1.length ≤ 1073741824) :
    Calls Tryd.prog 38 #[.pointer (some ⟨rb, 0, none⟩), .pointer (some ⟨B, 0, none⟩), .slice (some ⟨c, 0, none⟩) ss.length ss.length] w fun en w' => en = .returned (.tuple #[]) ∧ Hid (Done w rb s L tv dp B k rv (ps ++ (X.wantsP ss (remT s L a)).1) (X.wantsP ss (remT s L a)).2 D w') := by
  have HS := hide hs
  have HX := hide hx
  have hln := hs.len
  have HD0 : Hid (Done w rb s L tv dp B k rv (ps ++ (X.wantsP (ss.take 0) (remT s L a)).1) (X.wantsP (ss.take 0) (remT s L a)).2 D w) := by
    show Done _ _ _ _ _ _ _ _ _ _ _ _ _
    simp only [List.take_zero, X.wantsP, X.nilR, List.append_nil]
    exact Done.refl h
  clear h hs hx
  go_enter Tryd.func38, Tryd.ntmps38
  go_wp2_with fail
  obtain ⟨hc1, hc2, hc3, hc4⟩ := hc
  have HC3 := hide hc3
  clear hc3
  go_loopw [10] (fun v wr => ∃ j : Nat, v = .int .i64 j ∧ j ≤ ss.length ∧ Hid (Done w rb s L tv dp B k rv (ps ++ (X.wantsP (ss.take j) (remT s L a)).1) (X.wantsP (ss.take j) (remT s L a)).2 D wr)) (fun v _ => ss.length - (intOf v).toNat)
  case atStart => exact ⟨0, rfl, Nat.zero_le _, HD0⟩
  case round =>
    obtain ⟨j, rfl, hj, HJ⟩ := hrel
    clear HD0
    by_cases hlt : j < ss.length
    case neg =>
      have hje : j = ss.length := by omega
      subst hje
      rw [List.take_length] at HJ
      have i1 : decide (ss.length < ss.length) = false := by simp
      have i2 : decide ((ss.length : Int) < (ss.length : Int)) = false := by simp
      go_wp2_with fail
      go_end0
      exact ⟨rfl, HJ⟩
    obtain ⟨x, hxj⟩ : ∃ x, ss[j]? = some x := ⟨ss[j], List.getElem?_eq_getElem hlt⟩
    have hxn : x ≠ [] := (HX.out) x (List.mem_of_getElem? hxj)
    have i1 : decide (j < ss.length) = true := by simp; omega
    have i2 : decide ((j : Int) < (ss.length : Int)) = true := by simp; omega
    obtain ⟨a', rv', vs', D', g1, g2, g3, g4, g5, g6⟩ := HJ.out
    have y0 : wr.cell? ⟨c, j, none⟩ = some (.string (ba x)) := g6.cellv ((HS.out).cells j x hxj) (by
      rintro (e | e | e)
      · exact hc1 e
      · exact hc2 e
      · exact (HC3.out) e)
    have HW := hide g1
    have HG3 := hide g3
    have HG4 := hide g4
    have HG5 := hide g5
    have HG6 := hide g6
    have HT := hide g2
    have HSN := hide (X.wantsP_snoc hxj (remT s L a))
    have hle := X.wantsP_le ss (j + 1) (remT s L a)
    clear g1 g2 g3 g4 g5 g6 HJ hxj
    go_wp2_with fail
    have kA : Below wr.heap.size wr (wr.alloc (Obj.cells #[Value.string (ba x)] 9)) := (Below.refl _ wr).alloc (Nat.le_refl _) _
    have hrow := strRow_one wr x
    have HWA := hide ((HW.out).below kA)
    have HKA := hide kA
    refine (isNext_any rb s L tv a' dp _ (HWA.out).rdr wr.heap.size [x] hrow).mono ?_
    rintro e w2 ⟨rfl, k2⟩
    have HW2 := hide ((HWA.out).below k2)
    have hk2 : Below wr.heap.size wr w2 := (HKA.out).trans (k2.mono (by simp))
    have HK2 := hide hk2
    have e0 : [x].any (fun x => X.pN x (remT s L a')) = X.pN x (remT s L a') := by simp
    rw [e0]
    clear e0 kA hrow k2 hk2 HWA HKA
    have HDK : Hid (Kp (Sr rb B rv) w w2) := Kp.trans (HG6.out) (Kp.ofBelow (HK2.out) (fun _ => False)) (fun _ _ h => h.elim)
    cases hp : X.pN x (remT s L a') with
    | true =>
      have e1 : X.wantP x (X.wantsP (ss.take j) (remT s L a)).2 = X.take (remT s L a') := by
        rw [← HT.out]; unfold X.wantP; rw [if_pos hp]
      rw [e1] at HSN
      rw [HSN.out, List.length_append] at hle
      go_wp2_with fail
      refine (take_any s L dp hS rb tv a' B k rv' vs' _ D' w2 (HW2.out) (X.pN_next hxn hp) (by rw [List.length_append]; omega)).mono ?_
      rintro e w3 ⟨rfl, H3⟩
      have HJ : Hid (Done w rb s L tv dp B k rv (ps ++ (X.wantsP (ss.take (j + 1)) (remT s L a)).1) (X.wantsP (ss.take (j + 1)) (remT s L a)).2 D w3) := by
        rw [HSN.out, ← List.append_assoc]
        exact Done.trans HG3.out HG4.out HG5.out HDK.out H3.out
      clear H3 HSN e1
      go_wp2_with fail
      exact ⟨⟨j + 1, by go_num, by omega, HJ⟩, by simp only [intOf]; omega⟩
    | false =>
      have e1 : X.wantP x (X.wantsP (ss.take j) (remT s L a)).2 = ([.miss x], remT s L a') := by
        rw [← HT.out]; unfold X.wantP; rw [if_neg (by rw [hp]; simp)]
      rw [e1] at HSN
      rw [HSN.out, List.length_append] at hle
      have hvl : vs'.length ≤ 1073741824 := by rw [(HW2.out).len, List.length_append]; omega
      go_wp2_with fail
      refine (add_any B k rv' vs' 92 (.string (ba x)) w2 (HW2.out).bra (fun g hg => ((HW2.out).sepG g hg).2.2) hvl).mono ?_
      rintro e w3 ⟨rfl, rv3, b3, o3, k3⟩
      have HJ : Hid (Done w rb s L tv dp B k rv (ps ++ (X.wantsP (ss.take (j + 1)) (remT s L a)).1) (X.wantsP (ss.take (j + 1)) (remT s L a)).2 D w3) := by
        rw [HSN.out, ← List.append_assoc]
        have hw := (HW2.out).added b3 o3 k3 (IsP.miss x)
        exact Done.trans HG3.out HG4.out HG5.out HDK.out ⟨a', rv3, _, D', hw, rfl, fun _ => id, fun _ hq => .inl hq, o3, Kp.mono k3 (fun i _ e => .inr e)⟩
      clear b3 o3 k3 HSN e1
      go_wp2_with fail
      exact ⟨⟨j + 1, by go_num, by omega, HJ⟩, by simp only [intOf]; omega⟩
end Go.Proofs.YtpoipoencbieeaaDoor
