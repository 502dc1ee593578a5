/- The kinds of a tree's nodes, as the law tells them. -/
import Derived.Test.YtohpfegpnbdfnaaGreatDoorXz
import Derived.Shelf.Spec.SlicesGrow
namespace Go.Proofs.YtohpfegpnbdfnaaGreatDoor
open Go.RowKit
open M
namespace X
mutual
/-- The kinds of the nodes of a part, leaves aside; behind each -1. -/
def knd : Part → List Int
  | .leaf _ _ => []
  | .miss _ => [1, -1]
  | .br k ps => (k : Int) :: (knds ps ++ [-1])
def knds : List Part → List Int
  | [] => []
  | p :: ps => knd p ++ knds ps
end
theorem knds_append (l r : List Part) : knds (l ++ r) = knds l ++ knds r := by
  induction l with
  | nil => rfl
  | cons p l ih => rw [List.cons_append, knds, ih, knds, List.append_assoc]
theorem knds_take {ps : List Part} {j : Nat} {p : Part} (h : ps[j]? = some p) : knds (ps.take (j + 1)) = knds (ps.take j) ++ knd p := by
  rw [List.take_add_one, h, Option.toList_some, knds_append, knds, knds, List.append_nil]
mutual
theorem knd_len : ∀ p : Part, (knd p).length ≤ 2 * psz p
  | .leaf _ _ => by rw [knd]; simp
  | .miss _ => by rw [knd, psz]; simp
  | .br k ps => by
    have := knds_len ps
    rw [knd, psz]; simp; omega
theorem knds_len : ∀ ps : List Part, (knds ps).length ≤ 2 * pssz ps
  | [] => by rw [knds]; simp
  | p :: ps => by
    have := knd_len p
    have := knds_len ps
    rw [knds, pssz, List.length_append]; omega
end
theorem lt_some {α : Type} {l : List α} {i : Nat} {a : α} (h : l[i]? = some a) : i < l.length := by
  rcases Nat.lt_or_ge i l.length with g | g
  · exact g
  · rw [List.getElem?_eq_none g] at h; cases h
theorem knds_mem {ps : List Part} {j : Nat} {p : Part} (h : ps[j]? = some p) : (knds (ps.take j)).length + (knd p).length ≤ (knds ps).length := by
  have e : ps = ps.take j ++ (p :: ps.drop (j + 1)) := by
    have h1 := (List.take_append_drop j ps).symm
    have h2 : ps.drop j = p :: ps.drop (j + 1) := by
      rw [List.drop_eq_getElem_cons (lt_some h)]
      congr 1
      exact Option.some.inj ((List.getElem?_eq_getElem (lt_some h)).symm.trans h)
    rw [h2] at h1; exact h1
  have : (knds ps).length = (knds (ps.take j ++ (p :: ps.drop (j + 1)))).length := by rw [← e]
  rw [knds_append, knds, List.length_append, List.length_append] at this
  omega
end X
theorem infoIn : (Tryz.prog.info? 3).map (fun i => (i.zero, i.size, i.bytes)) = some (some (.int .i64 0), 1, 8) := by kernel_rfl
def iv (n : Int) : Value := .int .i64 n
/-- A row of numbers that the call has made. -/
def IsI (w : World) (base : Nat) (rv : Value) (xs : List Int) : Prop := w.ownsRow base 3 1 rv xs.length (xs.map iv)
theorem under {w wr : World} {base b o : Nat} {v : Value} (hb : b < base) (hk : Below base w wr) (hc : w.cell? ⟨b, o, none⟩ = some v) : wr.cell? ⟨b, o, none⟩ = some v := (Kp.ofBelowB hk (S := fun q => base ≤ q) (fun _ h _ => h)).cellv hc (fun (e : base ≤ b) => by omega)
/-- A row may lie elsewhere now, but then in a block that is new. -/
def Mv (w : World) (rv rv' : Value) : Prop := ∀ q, rv'.ownBlock = some q → rv.ownBlock = some q ∨ w.heap.size ≤ q
/-- What kinds does with a part. -/
def KQ (p : X.Part) : Prop := ∀ (w : World) (D : Nat → Prop) (v : Value) (base : Nat) (rv : Value) (xs : List Int), IsN w D v p → (∀ q, D q → q < base) → IsI w base rv xs → base ≤ w.heap.size → xs.length + (X.knd p).length ≤ 1073741823 →
  Calls Tryz.prog 14 #[v, rv] w fun e w' => ∃ rv', e = .returned rv' ∧ Hid (IsI w' base rv' (xs ++ X.knd p) ∧ Kp (fun q => rv.ownBlock = some q) w w' ∧ Mv w rv rv')
set_option maxRecDepth 100000 in
set_option maxHeartbeats 4000000 in
theorem kinds_leaf (k : Nat) (x : List UInt8) : KQ (.leaf k x) := by
  intro w D v base rv xs h hD hI hb hn
  cases h with
  | leaf _ _ =>
  have HF : Hid (IsI (w.alloc (.cells #[.int .i64 0, .int .i64 k, .string (ba x), .slice none 0 0] 38)) base rv (xs ++ X.knd (.leaf k x)) ∧ Kp (fun q => rv.ownBlock = some q) w (w.alloc (.cells #[.int .i64 0, .int .i64 k, .string (ba x), .slice none 0 0] 38)) ∧ Mv w rv rv) := by
    rw [X.knd, List.append_nil]
    exact ⟨hI.alloc _, (Kp.refl _ w).alloc _, fun q h => .inl h⟩
  clear hI
  go_enter Tryz.func14, Tryz.ntmps14
  go_wp2_with fail
  go_ret
  exact ⟨_, rfl, HF⟩
theorem lt_some' {w : World} {b : Nat} {o : Obj} (h : w.heap[b]? = some o) : b < w.heap.size := by
  rcases Nat.lt_or_ge b w.heap.size with g | g
  · exact g
  · rw [Array.getElem?_eq_none g] at h; cases h
/-- The loop over the kids: the row so far, the node itself in its block, what is kept. -/
structure InK (w : World) (base : Nat) (rv : Value) (bx : Obj) (xs : List Int) (ps : List X.Part) (j : Nat) (rvj : Value) (wr : World) : Prop where
  row : IsI wr base rvj (xs ++ X.knds (ps.take j))
  kp : Kp (fun q => rv.ownBlock = some q) w wr
  mv : Mv w rv rvj
  ne : rvj.ownBlock ≠ some w.heap.size
  box : wr.heap[w.heap.size]? = some bx
set_option maxRecDepth 100000 in
set_option maxHeartbeats 4000000 in
theorem kinds_node {w : World} {base : Nat} {rv : Value} {xs : List Int} (k : Nat) (hk : k ≠ 0) (sv : ByteArray) (ao : Option Addr) (cap : Nat) (c0 c1 c2 c3 : Nat → Value) (ps : List X.Part) (hc : ps.length ≤ cap ∧ cap ≤ maxLen)
    (hr : ∀ i, i < ps.length → ∃ g, ao = some ⟨g, 0, none⟩ ∧ g < base ∧ w.cell? ⟨g, i * 4, none⟩ = some (c0 i) ∧ w.cell? ⟨g, i * 4 + 1, none⟩ = some (c1 i) ∧ w.cell? ⟨g, i * 4 + 2, none⟩ = some (c2 i) ∧ w.cell? ⟨g, i * 4 + 3, none⟩ = some (c3 i))
    (hcall : ∀ j, j < ps.length → ∃ p, ps[j]? = some p ∧ ∀ (W : World) (rvj : Value) (ys : List Int), Kp (fun q => rv.ownBlock = some q) w W → IsI W base rvj ys → ys.length + (X.knd p).length ≤ 1073741823 → Calls Tryz.prog 14 #[.agg #[c0 j, c1 j, c2 j, c3 j], rvj] W fun e w' => ∃ rv', e = .returned rv' ∧ Hid (IsI w' base rv' (ys ++ X.knd p) ∧ Kp (fun q => rvj.ownBlock = some q) W w' ∧ Mv W rvj rv'))
    (hI : IsI w base rv xs) (hb : base ≤ w.heap.size) (hn : xs.length + (X.knds ps).length + 2 ≤ 1073741823) (hpl : ps.length ≤ 1073741823) :
    Calls Tryz.prog 14 #[.agg #[.int .i64 k, .int .i64 0, .string sv, .slice ao ps.length cap], rv] w fun e w' => ∃ rv', e = .returned rv' ∧ Hid (IsI w' base rv' (xs ++ ((k : Int) :: (X.knds ps ++ [-1]))) ∧ Kp (fun q => rv.ownBlock = some q) w w' ∧ Mv w rv rv') := by
  obtain ⟨i0, hi0, hz0, hz1, hz2⟩ := info_parts infoIn
  have hge := owns_ge hI
  have k0 : ((k : Int) == 0) = false := by simp; omega
  have HI := hide hI
  have HR := hide hr
  have HC := hide hcall
  have hrb : ∀ q, rv.ownBlock = some q → q < w.heap.size := fun q hq => (hge q hq).2
  have HRB := hide hrb
  have HGE := hide hge
  have hcap := hc.1
  clear hI hr hcall hge hrb hc
  go_enter Tryz.func14, Tryz.ntmps14
  go_wp2_with (at_builtin; refine wpList_append_lies _ rfl _ _ 40 rfl base 3 i0 _ 1 8 Tryz.underlying40 hi0 hz0 hz1 hz2 rfl (by decide) rv xs.length _ rfl (((HI.out : w.ownsRow _ _ _ _ _ _).alloc _).alloc _) ⟨w.heap.size + 1, 0, none⟩ 1 1 [.int .i64 k] rfl rfl (World.news_of_block (cs := #[.int .i64 k]) (by have := heap_alloc_new (w.alloc (.cells #[.int .i64 k, .int .i64 0, .string sv, .slice ao ps.length cap] 38)) (.cells #[.int .i64 k] 3); simpa using this)) (by simp [Value.oneCell']) (by omega) (by unfold maxLen; omega) (by omega) (by simp; omega) (w.heap.size + 2) (by simp) ?_; intro g5 cap5 w5 hown5 hgrow5 hat5 hlt5; have HO5 := hide hown5; have HG5 := hide hgrow5; have HA5 := hide hat5; clear hown5 hgrow5 hat5 hlt5)
  generalize hbx : Obj.cells #[.int .i64 k, .int .i64 0, .string sv, .slice ao ps.length cap] 38 = bx at *
  have HI0 : Hid (InK w base rv bx (xs ++ [(k : Int)]) ps 0 (.slice (some ⟨g5, 0, none⟩) (xs.length + 1) cap5) w5) := by
    have kW : Kp (fun q => rv.ownBlock = some q) ((w.alloc bx).alloc (.cells #[.int .i64 k] 3)) w5 := Kp.grown (Kp.refl _ _) HG5.out (fun q e _ => e)
    refine ⟨?_, Kp.trans (((Kp.refl _ w).alloc _).alloc _) kW (fun _ _ h => h), fun q hq => ?_, fun e => ?_, ?_⟩
    · show w5.ownsRow _ _ _ _ _ _
      rw [List.take_zero, X.knds, List.append_nil, List.length_append, List.length_singleton, List.map_append]; exact HO5.out
    · simp only [Value.ownBlock, Option.some.injEq] at hq
      subst hq
      rcases HA5.out with h | h
      · exact .inl h
      · exact .inr (by omega)
    · simp only [Value.ownBlock, Option.some.injEq] at e
      rcases HA5.out with h | h
      · have := (HRB.out) _ h; omega
      · omega
    · have h1 : ((w.alloc bx).alloc (.cells #[.int .i64 k] 3)).heap[w.heap.size]? = some bx := Kp.heap (Kp.alloc (Kp.refl (fun _ => False) (w.alloc bx)) _) (heap_alloc_new w bx) id
      exact Kp.heap kW h1 (fun e => by have := (HRB.out) _ e; omega)
  clear HO5 HG5 HA5 HI
  go_loopw [1, 5] (fun a v wr => ∃ (j : Nat) (rvj : Value), a = rvj ∧ v = .int .i64 j ∧ j ≤ ps.length ∧ Hid (InK w base rv bx (xs ++ [(k : Int)]) ps j rvj wr)) (fun _ v _ => ps.length - (intOf v).toNat)
  case atStart => exact ⟨0, _, rfl, rfl, Nat.zero_le _, HI0⟩
  case round =>
    clear HI0
    obtain ⟨j, rvj, rfl, rfl, hj, HJ⟩ := hrel
    have hbx2 : wr.heap[w.heap.size]? = some (.cells #[.int .i64 k, .int .i64 0, .string sv, .slice ao ps.length cap] 38) := by rw [hbx]; exact (HJ.out).box
    have y3 : wr.cell? ⟨w.heap.size, 3, none⟩ = some (.slice ao ps.length cap) := by rw [cell_of_row wr _ 3 _ _ _ hbx2]; rfl
    have hwr := (HJ.out).kp.size
    clear hbx2
    by_cases hlt : j < ps.length
    case neg =>
      obtain rfl : j = ps.length := by omega
      have i1 : decide (ps.length < ps.length) = false := by simp
      have i2 : decide ((ps.length : Int) < (ps.length : Int)) = false := by simp
      have HRow : Hid (wr.ownsRow base 3 1 u1 (xs ++ [(k : Int)] ++ X.knds ps).length ((xs ++ [(k : Int)] ++ X.knds ps).map iv)) := by
        have h := (HJ.out).row
        rw [List.take_length] at h
        exact h
      have hlen : (xs ++ [(k : Int)] ++ X.knds ps).length = xs.length + 1 + (X.knds ps).length := by simp; omega
      have HLen := hide hlen
      clear hlen
      generalize hZ : xs ++ [(k : Int)] ++ X.knds ps = Z at *
      have hzl : Z.length + 1 ≤ 1073741823 := by have := HLen.out; omega
      have hbw : base ≤ wr.heap.size := by omega
      go_wp2_with (at_builtin; refine wpList_append_lies _ rfl _ _ 40 rfl base 3 i0 _ 1 8 Tryz.underlying40 hi0 hz0 hz1 hz2 rfl (by decide) u1 Z.length _ rfl ((HRow.out).alloc _) ⟨wr.heap.size, 0, none⟩ 1 1 [.int .i64 (-1)] rfl rfl (World.news_of_block (cs := #[.int .i64 (-1)]) (heap_alloc_new wr _)) (by simp [Value.oneCell']) (by omega) (by unfold maxLen; omega) (by omega) (by simp; omega) (wr.heap.size + 1) (by simp) ?_; intro g6 cap6 w6 hown6 hgrow6 hat6 hlt6; have HO6 := hide hown6; have HG6 := hide hgrow6; have HA6 := hide hat6; clear hown6 hgrow6 hat6 hlt6)
      have HF : Hid (IsI w6 base (.slice (some ⟨g6, 0, none⟩) (Z.length + 1) cap6) (xs ++ ((k : Int) :: (X.knds ps ++ [-1]))) ∧ Kp (fun q => rv.ownBlock = some q) w w6 ∧ Mv w rv (.slice (some ⟨g6, 0, none⟩) (Z.length + 1) cap6)) := by
        have eZ : xs ++ ((k : Int) :: (X.knds ps ++ [-1])) = Z ++ [-1] := by rw [← hZ]; simp
        have kW : Kp (fun q => u1.ownBlock = some q) wr w6 := Kp.grown (Kp.alloc (Kp.refl _ wr) _) HG6.out (fun q e _ => e)
        refine ⟨?_, (HJ.out).kp.trans kW (fun q hq e => ?_), fun q hq => ?_⟩
        · show w6.ownsRow _ _ _ _ _ _
          rw [eZ, List.length_append, List.length_singleton, List.map_append]; exact HO6.out
        · rcases (HJ.out).mv q e with h | h
          · exact h
          · omega
        · simp only [Value.ownBlock, Option.some.injEq] at hq
          subst hq
          rcases HA6.out with h | h
          · exact (HJ.out).mv _ h
          · exact .inr (by omega)
      go_ret
      exact ⟨_, rfl, HF⟩
    have i1 : decide (j < ps.length) = true := by simp; omega
    have i2 : decide ((j : Int) < (ps.length : Int)) = true := by simp; omega
    have hi1 : (0 : Int) ≤ (j : Int) := Int.natCast_nonneg _
    have hi2 : (j : Int) < (ps.length : Int) := by omega
    obtain ⟨g, rfl, hgB, q0, q1, q2, q3⟩ := (HR.out) j hlt
    have hng : ¬ rv.ownBlock = some g := fun e => by have := ((HGE.out) _ e).1; omega
    have p0 := (HJ.out).kp.cellv q0 hng
    have p1 := (HJ.out).kp.cellv q1 hng
    have p2 := (HJ.out).kp.cellv q2 hng
    have p3 := (HJ.out).kp.cellv q3 hng
    have hgl : g < wr.heap.size := by omega
    obtain ⟨p, hpj, hcj⟩ := (HC.out) j hlt
    have hlen := X.knds_mem hpj
    have HC1 := hide (hcj wr u1 _ (HJ.out).kp (HJ.out).row (by simp only [List.length_append, List.length_singleton]; omega))
    have hstep := X.knds_take hpj
    clear q0 q1 q2 q3 hcj hlen hng
    go_wp2_with fail
    refine (HC1.out).mono ?_
    rintro e w7 ⟨rv7, rfl, H7⟩
    have HN : Hid (InK w base rv bx (xs ++ [(k : Int)]) ps (j + 1) rv7 w7) := by
      obtain ⟨h1, h2, h3⟩ := H7.out
      refine ⟨?_, (HJ.out).kp.trans h2 (fun q hq e => ?_), fun q hq => ?_, fun e => ?_, ?_⟩
      · rw [hstep, ← List.append_assoc]; exact h1
      · rcases (HJ.out).mv q e with h | h
        · exact h
        · omega
      · rcases h3 q hq with h | h
        · exact (HJ.out).mv q h
        · exact .inr (by omega)
      · rcases h3 _ e with h | h
        · exact (HJ.out).ne h
        · have := lt_some' (HJ.out).box; omega
      · exact Kp.heap h2 (HJ.out).box (fun e => (HJ.out).ne e)
    clear hstep HC1 H7 HJ
    go_wp2_with fail
    exact ⟨⟨j + 1, _, rfl, by go_num, by omega, HN⟩, by simp only [intOf]; omega⟩
end Go.Proofs.YtohpfegpnbdfnaaGreatDoor
