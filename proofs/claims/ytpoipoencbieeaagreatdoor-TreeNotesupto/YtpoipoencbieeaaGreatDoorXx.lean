/- Junk, and the kids of a root. -/
import Derived.Test.YtpoipoencbieeaaGreatDoorXv
namespace Go.Proofs.YtpoipoencbieeaaGreatDoor
open Go.RowKit Go.Shelf
open M

set_option maxRecDepth 100000 in
set_option maxHeartbeats 300000 in
theorem junk_any {s : ByteArray} {L : List Tk} (hS : TokS s L) : ReadsK 44 X.junkL 5 s L 0 := by
  intro w w1 rb tv B k rv ps ts D h hl
  obtain ⟨b0, b1⟩ := h.bfacts
  have H := hide (h.setKind 5)
  have hL := hS.len
  have hz : (w1.setCell ⟨B, 0, none⟩ (.int .i64 ((5 : Nat) : Int))).heap.size = w1.heap.size := by simp
  clear h
  go_enter Tryz.func44, Tryz.ntmps44
  go_wp2_with fail
  rw [show (Value.int IntKind.i64 5) = .int .i64 ((5 : Nat) : Int) from rfl] at *
  generalize w1.setCell ⟨B, 0, none⟩ (.int .i64 ((5 : Nat) : Int)) = W at *
  have hcj := X.Cap.junkL
  go_loopw [4] (fun v wr => ∃ (b : Bool) (acc : List X.Part) (ts1 : List X.Tok), v = .bool b ∧ Hid (Done w rb s L tv 0 B 5 rv (ps ++ acc) ts1 D wr) ∧ Hid (X.junkL ts = if b then (acc, ts1) else (acc ++ (X.junkL ts1).1, (X.junkL ts1).2))) (fun _ wr => L.length - atT rb wr)
  case atStart => exact ⟨false, [], ts, rfl, by rw [List.append_nil]; exact H, by show _ = _; simp⟩
  case round =>
    obtain ⟨b, acc, ts1, rfl, H3, HE⟩ := hrel
    have hlen1 := (H3.out).len
    cases b with
    | true =>
      go_wp2_with fail
      go_end0
      refine ⟨rfl, ?_⟩
      have hp : X.junkL ts = (acc, ts1) := by have := HE.out; simpa using this
      rw [hp]
      exact H3
    | false =>
      have hp : X.junkL ts = (acc ++ (X.junkL ts1).1, (X.junkL ts1).2) := by have := HE.out; rwa [if_neg (by simp)] at this
      have hla : ps.length + (acc.length + (X.junkL ts1).1.length) ≤ 1073741824 := by rw [hp] at hl; simpa using hl
      have HPP := hide hp
      clear hp HE
      have kI : (X.kindN ts1 != 0) = !(X.kindN ts1 == 0) := rfl
      go_wp2_with fail
      refine Done.more (H3.out) ?_
      rw [kI]
      cases hk : (X.kindN ts1 == 0) with
      | true =>
        have hj := X.junkL_no (ts := ts1) (by rw [hk]; rfl)
        go_wp2_with fail
        go_end0
        refine ⟨rfl, ?_⟩
        rw [HPP.out, hj, List.append_nil]
        exact H3
      | false =>
        go_wp2_with fail
        refine Done.atItem (H3.out) hS ?_
        intro w4 H4
        cases hs : X.starts ts1 with
        | true =>
          have hj := X.junkL_no (ts := ts1) (by rw [hs, Bool.or_true])
          go_wp2_with fail
          go_end0
          refine ⟨rfl, ?_⟩
          rw [HPP.out, hj, List.append_nil]
          exact H4
        | false =>
          have hj := X.junkL_yes (ts := ts1) (by rw [hk, hs]; rfl)
          have hn := X.kind_next hk
          have hlt := X.take_lt hn
          have eA : [[59]].any (fun x => X.pN x ts1) = X.isN [59] ts1 := by simp [X.pN_sign ((H4.out).good hS) (.inr (by decide : [59] ∈ X.signs))]
          have hlb : (X.take ts1).1.length ≤ (X.junkL ts1).1.length := by
            rw [hj]; split
            · exact Nat.le_refl _
            · rw [X.len_andThen]; omega
          go_wp2_with fail
          refine Done.isNext (H4.out) [[59]] (by simp) ?_
          intro w5 H5
          rw [eA]
          go_wp2_with fail
          refine Done.then (H5.out) (take_any s L 0 hS) hn (by rw [List.length_append]; omega) ?_
          intro w6 H6
          go_wp2_with fail
          refine ⟨⟨X.isN [59] ts1, acc ++ (X.take ts1).1, (X.take ts1).2, rfl, by rw [← List.append_assoc]; exact H6, ?_⟩, by rw [(H6.out).at, (H3.out).at]; exact hlt⟩
          show _ = _
          rw [HPP.out, hj]
          cases X.isN [59] ts1 <;> simp [X.andThen]
theorem kid_cap (ts : List X.Tok) : (X.kid ts).2.1.length ≤ 6 + 2 * ts.length := by
  rw [X.kid_eq]
  split
  · split
    · have := (X.Cap.optPub.andThen X.Cap.useR).le ts; simpa using this
    · have := (X.Cap.optPub.andThen X.Cap.defR).le ts; simpa using this
  · have := X.Cap.junkL.le ts
    show (X.junkL ts).1.length ≤ _
    omega

theorem kid_le (ts : List X.Tok) : (X.kid ts).2.2.length ≤ ts.length := by
  rw [X.kid_eq]
  split
  · split
    · exact (X.Shr.optPub.andThen X.Shr.useR).le ts
    · exact (X.Shr.optPub.andThen X.Shr.defR).le ts
  · exact (X.Shr.junkGo ts.length).le ts
/-- A kid of the root, as a value. -/
def kidV (N n : Nat) : Value := .agg #[.pointer (some ⟨N, 0, none⟩), .int .i64 n]
theorem kid_end {w W w3 w4 : World} {rb : Nat} {s : ByteArray} {L : List Tk} {tv : Value} {D : Nat → Prop} {k : Nat} {ps : List X.Part} {ts : List X.Tok} (kA : Below w.heap.size w W) (hsz : W.heap.size = w.heap.size + 2) (hrl : rb < w.heap.size) (hD : ∀ q, D q → q < w.heap.size) (hT : ∀ q, tv.ownBlock = some q → ¬ D q ∧ q < w.heap.size)
    (h : Done W rb s L tv 0 (w.heap.size + 1) k (.slice none 0 0) ps ts D w3) (k34 : Kp (fun q => q = w.heap.size) w3 w4) :
    ∃ (D' : Nat → Prop) (a' : Nat), RdrT w4 rb s L tv a' 0 ∧ remT s L a' = ts ∧ IsP w4 D' (.iface 54 (.pointer (some ⟨w.heap.size + 1, 0, none⟩))) (.br k ps) ∧ (∀ q, D q → D' q) ∧ (∀ q, D' q → D q ∨ w.heap.size ≤ q) ∧ (∀ q, D' q → q < w4.heap.size) ∧ On rb w w4 := by
  obtain ⟨a', rv3, vs3, D3, g1, g2, g3, g4, g5, g6⟩ := h
  have hz3 := g6.size
  have hz4 := k34.size
  have hg5 : ∀ g, rv3.ownBlock = some g → W.heap.size ≤ g := fun g hg => by
    rcases g5 g hg with e | e
    · cases e
    · exact e
  have hD3 : ∀ q, (D3 q ∨ q = w.heap.size + 1 ∨ rv3.ownBlock = some q) → D q ∨ w.heap.size < q := by
    rintro q (e | e | e)
    · rcases g4 q e with h | h
      · exact .inl h
      · exact .inr (by omega)
    · exact .inr (by omega)
    · exact .inr (by have := hg5 q e; omega)
  refine ⟨_, a', g1.rdr.keep k34 (fun e => by omega) (fun q hq e => by have := (hT q hq).2; omega), g2, g1.part.keep k34 (fun q hq e => ?_), fun q hq => .inl (g3 q hq), fun q hq => ?_, fun q hq => ?_, ?_⟩
  · rcases hD3 q hq with h | h
    · have := hD q h; omega
    · omega
  · rcases hD3 q hq with h | h
    · exact .inl h
    · exact .inr (by omega)
  · rcases hq with e | e | e
    · have := g1.dlt q e; omega
    · omega
    · have := (owns_ge g1.bra.row q e).2; omega
  · refine Kp.trans (Kp.trans (Kp.ofBelow kA (fun q => q = rb)) g6 (fun i hi e => ?_)) k34 (fun i hi e => by omega)
    rcases e with e | e | e
    · exact e
    · omega
    · cases e
set_option maxRecDepth 100000 in
set_option maxHeartbeats 300000 in
theorem kid_any {s : ByteArray} {L : List Tk} (hS : TokS s L) (rb : Nat) (tv : Value) (a : Nat) (w : World) (hr : RdrT w rb s L tv a 0) (D : Nat → Prop) (hD : ∀ q, D q → q < w.heap.size) (hDr : ¬ D rb) (hT : ∀ q, tv.ownBlock = some q → ¬ D q ∧ q < w.heap.size) :
    Calls Tryz.prog 22 #[.pointer (some ⟨rb, 0, none⟩)] w fun en w' => ∃ (N : Nat) (D' : Nat → Prop) (a' : Nat), en = .returned (kidV N ((remT s L a).length - (X.kid (remT s L a)).2.2.length)) ∧ Hid (RdrT w' rb s L tv a' 0 ∧ remT s L a' = (X.kid (remT s L a)).2.2 ∧ IsP w' D' (.iface 54 (.pointer (some ⟨N, 0, none⟩))) (.br (X.kid (remT s L a)).1 (X.kid (remT s L a)).2.1) ∧ (∀ q, D q → D' q) ∧ (∀ q, D' q → D q ∨ w.heap.size ≤ q) ∧ (∀ q, D' q → q < w'.heap.size) ∧ On rb w w') := by
  have hle := hr.le
  have hrl := hr.raw.lt
  have kA : Below w.heap.size w ((w.alloc (Obj.cells #[.pointer none, .int .i64 0] 63)).alloc (Obj.cells #[.int .i64 0, .slice none 0 0] 57)) := ((Below.refl _ w).alloc (Nat.le_refl _) _).alloc (by simp) _
  have hlen : (remT s L a).length = L.length - a := by unfold remT; simp
  have hL := hS.len
  have hcap := kid_cap (remT s L a)
  have hsz : ((w.alloc (Obj.cells #[.pointer none, .int .i64 0] 63)).alloc (Obj.cells #[.int .i64 0, .slice none 0 0] 57)).heap.size = w.heap.size + 2 := by simp
  have hnew : ((w.alloc (Obj.cells #[.pointer none, .int .i64 0] 63)).alloc (Obj.cells #[.int .i64 0, .slice none 0 0] 57)).heap[w.heap.size + 1]? = some (.cells #[.int .i64 0, .slice none 0 0] 57 (0, 0)) := by
    have := heap_alloc_new (w.alloc (Obj.cells #[.pointer none, .int .i64 0] 63)) (Obj.cells #[.int .i64 0, .slice none 0 0] 57)
    rwa [World.size_alloc] at this
  have hres : ((w.alloc (Obj.cells #[.pointer none, .int .i64 0] 63)).alloc (Obj.cells #[.int .i64 0, .slice none 0 0] 57)).heap[w.heap.size]? = some (.cells #[.pointer none, .int .i64 0] 63 (0, 0)) :=
    (heap_alloc_old (w.alloc _) _ (show w.heap.size < _ by simp)).trans (heap_alloc_new w _)
  obtain ⟨⟨c0, c1, c2, c3, c4, c5, c6⟩, -⟩ := hr.raw.facts
  have HJ := hide (junk_any hS)
  have HR := hide hr
  clear hr
  go_enter Tryz.func22, Tryz.ntmps22
  go_wp2_with fail
  generalize (w.alloc (Obj.cells #[.pointer none, .int .i64 0] 63)).alloc (Obj.cells #[.int .i64 0, .slice none 0 0] 57) = W at *
  have HW : Hid (Done W rb s L tv 0 (w.heap.size + 1) 0 (.slice none 0 0) [] (remT s L a) D W) := by
    refine Done.refl (a := a) (vs := []) ⟨(HR.out).below kA, ⟨hnew, World.ownsRow_nil _ _ _ _⟩, rfl, Each.nil _ _, fun q hq => ?_, ⟨hDr, fun hd => ?_, ?_⟩, (fun g hg => by cases hg), fun q hq => ?_⟩
    · have := hD q hq; omega
    · have := hD _ hd; omega
    · omega
    · obtain ⟨h1, h2⟩ := hT q hq
      exact ⟨h1, by omega, (fun e => by cases e), by omega⟩
  refine Done.atItem (HW.out) hS ?_
  intro w2 H2
  cases hst : X.starts (remT s L a) with
  | true =>
    go_wp2_with fail
    refine (item_any hS W w2 rb tv (w.heap.size + 1) 0 (.slice none 0 0) [] (remT s L a) D H2.out hst (by simp; omega)).mono ?_
    rintro e w3 ⟨rfl, H3⟩
    rw [List.nil_append] at H3
    have hle3 := kid_le (remT s L a)
    have HQ : Hid (∃ a3 : Nat, a ≤ a3 ∧ (remT s L a).length - (X.kid (remT s L a)).2.2.length = a3 - a ∧ w3.cell? ⟨rb, 2, none⟩ = some (.int .i64 a3) ∧ a3 ≤ L.length) := by
      obtain ⟨a3, rv3, vs3, D3, g1, g2, -⟩ := H3.out
      obtain ⟨⟨z0, z1, z2, -⟩, -⟩ := g1.rdr.raw.facts
      have hl3 : (remT s L a3).length = L.length - a3 := by unfold remT; simp
      have hle4 := g1.rdr.le
      rw [← g2] at hle3 ⊢
      exact ⟨a3, by omega, by omega, z2, hle4⟩
    have hres3 : w3.heap[w.heap.size]? = some (.cells #[.pointer none, .int .i64 0] 63 (0, 0)) := by
      obtain ⟨a3, rv3, vs3, D3, g1, g2, g3, g4, g5, g6⟩ := H3.out
      exact g6.heap hres (by
        rintro (e | e | e)
        · omega
        · omega
        · cases e)
    obtain ⟨a3, q1, q2, q3, q4⟩ := HQ.out
    have r0 : w3.cell? ⟨w.heap.size, 0, none⟩ = some (.pointer none) := cell_of_row w3 _ 0 _ _ _ hres3
    have r1 : w3.cell? ⟨w.heap.size, 1, none⟩ = some (.int .i64 0) := cell_of_row w3 _ 1 _ _ _ hres3
    have r2 : w3.frozen? ⟨w.heap.size, 0, none⟩ = false := by simp [World.frozen?, hres3]
    have r3 : w3.frozen? ⟨w.heap.size, 1, none⟩ = false := by simp [World.frozen?, hres3]
    clear HQ hres3 hnew hres c0 c1 c2 c3 c4 c5 c6
    have HF : Hid (∃ (D' : Nat → Prop) (a' : Nat), RdrT ((w3.setCell ⟨w.heap.size, 0, none⟩ (.pointer (some ⟨w.heap.size + 1, 0, none⟩))).setCell ⟨w.heap.size, 1, none⟩ (.int .i64 ((a3 : Int) - (a : Int)))) rb s L tv a' 0 ∧ remT s L a' = (X.kid (remT s L a)).2.2 ∧ IsP ((w3.setCell ⟨w.heap.size, 0, none⟩ (.pointer (some ⟨w.heap.size + 1, 0, none⟩))).setCell ⟨w.heap.size, 1, none⟩ (.int .i64 ((a3 : Int) - (a : Int)))) D' (.iface 54 (.pointer (some ⟨w.heap.size + 1, 0, none⟩))) (.br (X.kid (remT s L a)).1 (X.kid (remT s L a)).2.1) ∧ (∀ q, D q → D' q) ∧ (∀ q, D' q → D q ∨ w.heap.size ≤ q) ∧ (∀ q, D' q → q < ((w3.setCell ⟨w.heap.size, 0, none⟩ (.pointer (some ⟨w.heap.size + 1, 0, none⟩))).setCell ⟨w.heap.size, 1, none⟩ (.int .i64 ((a3 : Int) - (a : Int)))).heap.size) ∧ On rb w ((w3.setCell ⟨w.heap.size, 0, none⟩ (.pointer (some ⟨w.heap.size + 1, 0, none⟩))).setCell ⟨w.heap.size, 1, none⟩ (.int .i64 ((a3 : Int) - (a : Int))))) := kid_end kA hsz hrl hD hT H3.out (On.set (On.set (Kp.refl _ w3) 0 _) 1 _)
    go_wp2_with fail
    obtain ⟨D', a', hF⟩ := HF.out
    have e9 : ((a3 : Int) - (a : Int)) = (((remT s L a).length - (X.kid (remT s L a)).2.2.length : Nat) : Int) := by rw [q2]; omega
    exact bodyPost_ret (v := .agg #[.pointer (some ⟨w.heap.size + 1, 0, none⟩), .int .i64 ((a3 : Int) - (a : Int))]) (by simp [results, Tryz.results22, go_sem, r0, r1]) rfl ⟨w.heap.size + 1, D', a', by unfold kidV; rw [← e9], hF⟩
  | false =>
    go_wp2_with fail
    refine Done.thenK (H2.out) (HJ.out) (by have := X.Cap.junkL.le (remT s L a); simp; omega) ?_
    intro w3 H3'
    have ek : X.kid (remT s L a) = (5, X.junkL (remT s L a)) := by rw [X.kid_eq, hst, if_neg (by simp)]
    have H3 : Hid (Done W rb s L tv 0 (w.heap.size + 1) (X.kid (remT s L a)).1 (.slice none 0 0) (X.kid (remT s L a)).2.1 (X.kid (remT s L a)).2.2 D w3) := by
      rw [ek]; rw [List.nil_append] at H3'; exact H3'
    clear H3' ek
    have hle3 := kid_le (remT s L a)
    have HQ : Hid (∃ a3 : Nat, a ≤ a3 ∧ (remT s L a).length - (X.kid (remT s L a)).2.2.length = a3 - a ∧ w3.cell? ⟨rb, 2, none⟩ = some (.int .i64 a3) ∧ a3 ≤ L.length) := by
      obtain ⟨a3, rv3, vs3, D3, g1, g2, -⟩ := H3.out
      obtain ⟨⟨z0, z1, z2, -⟩, -⟩ := g1.rdr.raw.facts
      have hl3 : (remT s L a3).length = L.length - a3 := by unfold remT; simp
      have hle4 := g1.rdr.le
      rw [← g2] at hle3 ⊢
      exact ⟨a3, by omega, by omega, z2, hle4⟩
    have hres3 : w3.heap[w.heap.size]? = some (.cells #[.pointer none, .int .i64 0] 63 (0, 0)) := by
      obtain ⟨a3, rv3, vs3, D3, g1, g2, g3, g4, g5, g6⟩ := H3.out
      exact g6.heap hres (by
        rintro (e | e | e)
        · omega
        · omega
        · cases e)
    obtain ⟨a3, q1, q2, q3, q4⟩ := HQ.out
    have r0 : w3.cell? ⟨w.heap.size, 0, none⟩ = some (.pointer none) := cell_of_row w3 _ 0 _ _ _ hres3
    have r1 : w3.cell? ⟨w.heap.size, 1, none⟩ = some (.int .i64 0) := cell_of_row w3 _ 1 _ _ _ hres3
    have r2 : w3.frozen? ⟨w.heap.size, 0, none⟩ = false := by simp [World.frozen?, hres3]
    have r3 : w3.frozen? ⟨w.heap.size, 1, none⟩ = false := by simp [World.frozen?, hres3]
    clear HQ hres3 hnew hres c0 c1 c2 c3 c4 c5 c6
    have HF : Hid (∃ (D' : Nat → Prop) (a' : Nat), RdrT ((w3.setCell ⟨w.heap.size, 0, none⟩ (.pointer (some ⟨w.heap.size + 1, 0, none⟩))).setCell ⟨w.heap.size, 1, none⟩ (.int .i64 ((a3 : Int) - (a : Int)))) rb s L tv a' 0 ∧ remT s L a' = (X.kid (remT s L a)).2.2 ∧ IsP ((w3.setCell ⟨w.heap.size, 0, none⟩ (.pointer (some ⟨w.heap.size + 1, 0, none⟩))).setCell ⟨w.heap.size, 1, none⟩ (.int .i64 ((a3 : Int) - (a : Int)))) D' (.iface 54 (.pointer (some ⟨w.heap.size + 1, 0, none⟩))) (.br (X.kid (remT s L a)).1 (X.kid (remT s L a)).2.1) ∧ (∀ q, D q → D' q) ∧ (∀ q, D' q → D q ∨ w.heap.size ≤ q) ∧ (∀ q, D' q → q < ((w3.setCell ⟨w.heap.size, 0, none⟩ (.pointer (some ⟨w.heap.size + 1, 0, none⟩))).setCell ⟨w.heap.size, 1, none⟩ (.int .i64 ((a3 : Int) - (a : Int)))).heap.size) ∧ On rb w ((w3.setCell ⟨w.heap.size, 0, none⟩ (.pointer (some ⟨w.heap.size + 1, 0, none⟩))).setCell ⟨w.heap.size, 1, none⟩ (.int .i64 ((a3 : Int) - (a : Int))))) := kid_end kA hsz hrl hD hT H3.out (On.set (On.set (Kp.refl _ w3) 0 _) 1 _)
    go_wp2_with fail
    obtain ⟨D', a', hF⟩ := HF.out
    have e9 : ((a3 : Int) - (a : Int)) = (((remT s L a).length - (X.kid (remT s L a)).2.2.length : Nat) : Int) := by rw [q2]; omega
    exact bodyPost_ret (v := .agg #[.pointer (some ⟨w.heap.size + 1, 0, none⟩), .int .i64 ((a3 : Int) - (a : Int))]) (by simp [results, Tryz.results22, go_sem, r0, r1]) rfl ⟨w.heap.size + 1, D', a', by unfold kidV; rw [← e9], hF⟩
end Go.Proofs.YtpoipoencbieeaaGreatDoor
