/- sort.Search, laid at this program; the tokens that end by a place, and those that begin at one. -/
import Derived.Shelf.SlSorted.Search
import Derived.Test.YtkampoaceipngaaGreatDoorOa
import Derived.Deep.RegionHeld3
import Derived.Deep.Cut
namespace Go.Proofs
open Go.Shelf
def Tryz.laysO16_ren : Go.Shelf.Ren := ⟨fun | 16 => 82 | n => n, fun | 3 => 3 | 4 => 4 | 35 => 133 | 38 => 159 | n => n, fun | n => n⟩
theorem Tryz.laysO16 : SlLaysO.n16 Tryz.prog Tryz.laysO16_ren := {
  mixed := by kernel_rfl
  f16 := Tryz.func82.trans (congrArg some (by kernel_rfl))
  t3 := Tryz.underlying3
  a3 := Tryz.isAgg3
  z3 := Tryz.sizeOf3
  v3 := Tryz.zeroValue3
  t4 := Tryz.underlying4
  a4 := Tryz.isAgg4
  z4 := Tryz.sizeOf4
  v4 := Tryz.zeroValue4
  t35 := Tryz.underlying133
  a35 := Tryz.isAgg133
  z35 := Tryz.sizeOf133
  v35 := Tryz.zeroValue133
  t38 := Tryz.underlying159
  a38 := Tryz.isAgg159
  z38 := Tryz.sizeOf159
  v38 := Tryz.zeroValue159 }
end Go.Proofs
namespace Go.Proofs.YtkampoaceipngaaGreatDoor
open Go.RowKit
open M
set_option maxRecDepth 100000 in
set_option maxHeartbeats 4000000 in
theorem endBy_fn (b1 b2 : Nat) (v : Value) (L : List Tk) (c : Int) (w : World) (i : Nat) (t : Tk) (p1 : w.cell? ⟨b1, 0, none⟩ = some v) (p2 : w.cell? ⟨b2, 0, none⟩ = some (.int .i64 c)) (H : Hid (IsT w v L)) (hi : i < L.length) (ht : L[i]? = some t) (hb : t.pos + t.len ≤ 4294967296) :
    Calls Tryz.prog 85 #[.int .i64 i, .pointer (some ⟨b1, 0, none⟩), .pointer (some ⟨b2, 0, none⟩)] w fun e w' => e = .returned (.bool (decide (c < (t.pos : Int) + t.len))) ∧ ∃ n, w' = w.drewN n := by
  obtain ⟨ao, cap, rfl, hc1, hc2, -⟩ := H.out
  obtain ⟨b, o, t', rfl, ht', q1, q2, q3⟩ := (H.out).get (Below.refl _ w) (k := i) hi
  obtain rfl : t = t' := Option.some.inj (ht.symm.trans ht')
  clear ht ht'
  have hi9 : i ≤ 9223372036854775806 := by unfold maxLen at hc2; omega
  go_enter Tryz.func85, Tryz.ntmps85
  go_wp2_with fail
  go_region
  all_goals go_wp2_with fail
  all_goals go_ret
  all_goals exact ⟨rfl, 1, rfl⟩
set_option maxRecDepth 100000 in
set_option maxHeartbeats 4000000 in
theorem begAt_fn (b1 b2 : Nat) (v : Value) (L : List Tk) (c : Int) (w : World) (i : Nat) (t : Tk) (p1 : w.cell? ⟨b1, 0, none⟩ = some v) (p2 : w.cell? ⟨b2, 0, none⟩ = some (.int .i64 c)) (H : Hid (IsT w v L)) (hi : i < L.length) (ht : L[i]? = some t) :
    Calls Tryz.prog 83 #[.int .i64 i, .pointer (some ⟨b1, 0, none⟩), .pointer (some ⟨b2, 0, none⟩)] w fun e w' => e = .returned (.bool (decide (c ≤ (t.pos : Int)))) ∧ ∃ n, w' = w.drewN n := by
  obtain ⟨ao, cap, rfl, hc1, hc2, -⟩ := H.out
  obtain ⟨b, o, t', rfl, ht', q1, q2, q3⟩ := (H.out).get (Below.refl _ w) (k := i) hi
  obtain rfl : t = t' := Option.some.inj (ht.symm.trans ht')
  clear ht ht'
  have hi9 : i ≤ 9223372036854775806 := by unfold maxLen at hc2; omega
  go_enter Tryz.func83, Tryz.ntmps83
  go_wp2_with fail
  go_region
  all_goals go_wp2_with fail
  all_goals go_ret
  all_goals exact ⟨rfl, 1, rfl⟩
end Go.Proofs.YtkampoaceipngaaGreatDoor
/- The search over some tokens: how many are not yet so. -/
namespace Go.Proofs.YtkampoaceipngaaGreatDoor
open Go.RowKit Go.Shelf
open M

/-- Once so, so ever after. -/
def Mono (pr : Tk → Bool) (L : List Tk) : Prop := ∀ (i j : Nat) (t t' : Tk), i ≤ j → L[i]? = some t → L[j]? = some t' → pr t = true → pr t' = true
def prAt (pr : Tk → Bool) (L : List Tk) (i : Nat) : Bool := match L[i]? with | some t => pr t | none => true
theorem prAt_some {pr : Tk → Bool} {L : List Tk} {i : Nat} {t : Tk} (h : L[i]? = some t) : prAt pr L i = pr t := by unfold prAt; rw [h]
theorem count_range (pr : Tk → Bool) : ∀ L : List Tk, (List.range L.length).countP (fun i => !prAt pr L i) = L.countP (fun t => !pr t)
  | [] => rfl
  | t :: L => by
    rw [List.length_cons, List.range_succ_eq_map, List.countP_cons, List.countP_map, List.countP_cons]
    congr 1
    exact count_range pr L
theorem Mono.tail {pr : Tk → Bool} {t : Tk} {L : List Tk} (h : Mono pr (t :: L)) : Mono pr L := by
  intro i j a b hij ha hb
  exact h (i + 1) (j + 1) a b (by omega) (by simpa using ha) (by simpa using hb)
theorem mono_count {pr : Tk → Bool} : ∀ {L : List Tk}, Mono pr L → L.take (L.countP (fun t => !pr t)) = L.takeWhile (fun t => !pr t) ∧ L.drop (L.countP (fun t => !pr t)) = L.dropWhile (fun t => !pr t)
  | [], _ => ⟨rfl, rfl⟩
  | t :: L, h => by
    cases hp : pr t
    · have ih := mono_count h.tail
      rw [List.countP_cons, List.takeWhile_cons, List.dropWhile_cons, hp]
      simp only [Bool.not_false, if_true, List.take_succ_cons, List.drop_succ_cons]
      exact ⟨by rw [ih.1], ih.2⟩
    · have hz : L.countP (fun t => !pr t) = 0 := by
        rw [List.countP_eq_zero]
        intro a ha
        obtain ⟨j, hj, rfl⟩ := List.getElem_of_mem ha
        have := h 0 (j + 1) t L[j] (by omega) rfl (by simp [hj]) hp
        simp [this]
      rw [List.countP_cons, List.takeWhile_cons, List.dropWhile_cons, hp, hz]
      simp

theorem search_at (fn : Nat) (eg : ∀ args w, (callFunc fn args).run Tryz.prog w = .ok (.enter fn args) w) (pr : Tk → Bool) (cb : Array Value) (L : List Tk) (W : World) (hL : L.length ≤ 1073741824)
    (hf : ∀ (W' : World) (i : Nat) (t : Tk), Below W.heap.size W W' → L[i]? = some t → Calls Tryz.prog fn (#[.int .i64 i] ++ cb) W' fun e w' => e = .returned (.bool (pr t)) ∧ ∃ n, w' = W'.drewN n)
    (hm : Mono pr L) :
    Calls Tryz.prog 82 #[.int .i64 L.length, .func (.func fn) #[] cb] W fun e w' => e = .returned (.int .i64 (L.countP (fun t => !pr t))) ∧ Below W.heap.size W w' := by
  have hS := Any.sort_Search Tryz.laysO16 fn cb L.length (prAt pr L) W eg (by omega) ?_ ?_
  · refine hS.mono ?_
    rintro e w' ⟨rfl, q, os, rfl⟩
    refine ⟨by rw [count_range], below_grown_sl _ W q os (Nat.le_refl _)⟩
  · intro m os i hi
    have ht := List.getElem?_eq_getElem hi
    rw [prAt_some ht]
    refine (hf _ i _ (below_grown_sl _ W m os (Nat.le_refl _)) ht).mono ?_
    rintro e w' ⟨rfl, n, rfl⟩
    exact ⟨rfl, n, #[], by rw [Sort.grow_empty]⟩
  · intro a b hab hb ha
    have h1 := List.getElem?_eq_getElem (show a < L.length by omega)
    have h2 := List.getElem?_eq_getElem hb
    rw [prAt_some h1] at ha
    rw [prAt_some h2]
    exact hm a b _ _ hab h1 h2 ha
theorem eg60 : ∀ args w, (callFunc 85 args).run Tryz.prog w = .ok (.enter 85 args) w := enters_of Tryz.func85 (by kernel_rfl) rfl
theorem eg61 : ∀ args w, (callFunc 83 args).run Tryz.prog w = .ok (.enter 83 args) w := enters_of Tryz.func83 (by kernel_rfl) rfl
end Go.Proofs.YtkampoaceipngaaGreatDoor
/- The tokens that end by a place, and those that begin at one. -/
namespace Go.Proofs.YtkampoaceipngaaGreatDoor
open Go.RowKit Go.Shelf
open M

theorem IsT.take {w : World} {ao : Option Addr} {n cap : Nat} {L : List Tk} (h : IsT w (.slice ao n cap) L) {k : Nat} (hk : k ≤ L.length) : IsT w (.slice ao k cap) (L.take k) := by
  obtain ⟨ao', cap', e, h1, h2, h3⟩ := h
  injection e with e1 e2 e3
  subst e1; subst e3
  have hl : (L.take k).length = k := by rw [List.length_take]; omega
  refine ⟨ao, cap, by rw [hl], by rw [hl]; omega, h2, fun i hi => ?_⟩
  rw [hl] at hi
  obtain ⟨b, o, e, ha⟩ := h3 i (by omega)
  exact ⟨b, o, e, fun t ht => ha t (by rw [List.getElem?_take_of_lt hi] at ht; exact ht)⟩

theorem IsT.drop0 {w : World} {ao : Option Addr} {n cap : Nat} {L : List Tk} (_h : IsT w (.slice ao n cap) L) {k : Nat} (hk : L.length ≤ k) : IsT w (.slice ao (L.length - k) 0) (L.drop k) := by
  have e : L.drop k = [] := List.drop_eq_nil_iff.2 hk
  rw [e, show L.length - k = 0 by omega]
  exact ⟨ao, 0, rfl, Nat.le_refl _, Nat.zero_le _, fun i hi => by simp at hi⟩
theorem add_block (x : Addr) (n : Nat) : (x.add n).block = x.block := by unfold Addr.add; split <;> rfl
theorem IsT.drop {w : World} {ao : Option Addr} {n cap : Nat} {L : List Tk} (h : IsT w (.slice ao n cap) L) {k : Nat} (hk : k ≤ L.length) : IsT w (.slice (ao.map (fun x => x.add (k * 3))) (L.length - k) (cap - k)) (L.drop k) := by
  obtain ⟨ao', cap', e, h1, h2, h3⟩ := h
  injection e with e1 e2 e3
  subst e1; subst e3
  have hl : (L.drop k).length = L.length - k := List.length_drop
  refine ⟨_, cap - k, by rw [hl], by rw [hl]; omega, by omega, fun i hi => ?_⟩
  rw [hl] at hi
  obtain ⟨b, o, rfl, ha⟩ := h3 (k + i) (by omega)
  refine ⟨b, o + k * 3, by rw [Option.map_some, Addr.add_lit], fun t ht => ?_⟩
  rw [List.getElem?_drop] at ht
  have := ha t ht
  rw [show o + (k + i) * 3 = o + k * 3 + i * 3 by omega] at this
  exact this

set_option maxRecDepth 100000 in
set_option maxHeartbeats 4000000 in
theorem endingBy_any (v : Value) (L : List Tk) (c : Int) (w : World) (h : IsT w v L) (hL : L.length ≤ 1073741824) (hb : ∀ t ∈ L, t.pos + t.len ≤ 4294967296) (hm : Mono (fun t => decide (c < (t.pos : Int) + t.len)) L) :
    Calls Tryz.prog 61 #[v, .int .i64 c] w fun e w' => ∃ v', e = .returned v' ∧ Hid (IsT w' v' (L.takeWhile (fun t => !decide (c < (t.pos : Int) + t.len))) ∧ (v'.ownBlock = v.ownBlock)) ∧ Below w.heap.size w w' := by
  have H := hide h
  have HBd := hide hb
  have HM := hide hm
  clear hm hb
  obtain ⟨ao, cap, rfl, hc1, hc2, -⟩ := h
  go_enter Tryz.func61, Tryz.ntmps61
  go_upto_region 1 with fail
  have B0 : Below w.heap.size w ((w.alloc (Obj.cells #[Value.slice ao L.length cap] 93)).alloc (Obj.cells #[Value.int IntKind.i64 c] 3)) := ((Below.refl _ w).alloc (Nat.le_refl _) _).alloc (by simp) _
  have p1 : ((w.alloc (Obj.cells #[Value.slice ao L.length cap] 93)).alloc (Obj.cells #[Value.int IntKind.i64 c] 3)).cell? ⟨w.heap.size, 0, none⟩ = some (.slice ao L.length cap) := cell_alloc_sl _ (cell_new_sl w _ _)
  have p2 : ((w.alloc (Obj.cells #[Value.slice ao L.length cap] 93)).alloc (Obj.cells #[Value.int IntKind.i64 c] 3)).cell? ⟨w.heap.size + 1, 0, none⟩ = some (.int .i64 c) := by
    have := cell_new_sl (w.alloc (Obj.cells #[Value.slice ao L.length cap] 93)) (.int .i64 c) 3
    rw [World.size_alloc] at this; exact this
  have HT := hide ((H.out).below B0)
  generalize (w.alloc (Obj.cells #[Value.slice ao L.length cap] 93)).alloc (Obj.cells #[Value.int IntKind.i64 c] 3) = W at *
  have HS : ∀ W' : World, Below W.heap.size W W' → Calls Tryz.prog 82 #[.int .i64 L.length, .func (.func 85) #[] #[.pointer (some ⟨w.heap.size, 0, none⟩), .pointer (some ⟨w.heap.size + 1, 0, none⟩)]] W' fun e w' => e = .returned (.int .i64 (L.countP (fun t => !decide (c < (t.pos : Int) + t.len)))) ∧ Below W'.heap.size W' w' := by
    intro W' hW
    refine search_at 85 eg60 (fun t => decide (c < (t.pos : Int) + t.len)) _ L W' hL ?_ HM.out
    intro W2 i t h2 ht
    have h3 : Below W.heap.size W W2 := hW.trans (h2.mono hW.size)
    have k3 := Kp.ofBelow h3 (fun _ => False)
    have hi : i < L.length := by
      rcases Nat.lt_or_ge i L.length with g | g
      · exact g
      · rw [List.getElem?_eq_none g] at ht; cases ht
    exact endBy_fn _ _ _ L c W2 i t (k3.cellv p1 id) (k3.cellv p2 id) ((HT.out).below h3) hi ht ((HBd.out) t (List.mem_of_getElem? ht))
  have HSS := hide HS
  have hk : L.countP (fun t => !decide (c < (t.pos : Int) + t.len)) ≤ L.length := List.countP_le_length
  have HK := hide (mono_count HM.out).1
  clear HS
  generalize L.countP (fun t => !decide (c < (t.pos : Int) + t.len)) = k at *
  have y1 : (k : Int) ≤ (cap : Int) := by omega
  have y2 : (0 : Int) ≤ (k : Int) := by omega
  have y3 : k ≤ cap := by omega
  have y4 : (k : Int) ≤ (L.length : Int) := by omega
  go_region_held3 (fun w' => w'.cell? ⟨w.heap.size, 0, none⟩ = some (.slice ao L.length cap)) (first | exact p1 | exact (Kp.ofBelow kS (fun _ => False)).cellv p1 id)
    ((go_at_call 82; refine ((HSS.out) _ ?_).mono ?_; (first | exact Below.refl _ W | exact (Below.refl _ W).drew); rintro e w3 ⟨rfl, kS⟩))
  all_goals go_wp2_with fail
  go_ret
  have kW : Below W.heap.size W w3 := ((Below.refl _ W).drew).trans kS
  exact ⟨_, rfl, ⟨by rw [← HK.out]; exact ((HT.out).below kW).take hk, by cases ao <;> rfl⟩, B0.trans (kW.mono B0.size)⟩

set_option maxRecDepth 100000 in
set_option maxHeartbeats 4000000 in
theorem beginningAt_any (v : Value) (L : List Tk) (c : Int) (w : World) (h : IsT w v L) (hL : L.length ≤ 1073741824) (hm : Mono (fun t => decide (c ≤ (t.pos : Int))) L) :
    Calls Tryz.prog 59 #[v, .int .i64 c] w fun e w' => ∃ v', e = .returned v' ∧ Hid (IsT w' v' (L.dropWhile (fun t => !decide (c ≤ (t.pos : Int)))) ∧ (v'.ownBlock = v.ownBlock)) ∧ Below w.heap.size w w' := by
  have H := hide h
  have HM := hide hm
  clear hm
  obtain ⟨ao, cap, rfl, hc1, hc2, -⟩ := h
  go_enter Tryz.func59, Tryz.ntmps59
  go_upto_region 1 with fail
  have B0 : Below w.heap.size w ((w.alloc (Obj.cells #[Value.slice ao L.length cap] 93)).alloc (Obj.cells #[Value.int IntKind.i64 c] 3)) := ((Below.refl _ w).alloc (Nat.le_refl _) _).alloc (by simp) _
  have p1 : ((w.alloc (Obj.cells #[Value.slice ao L.length cap] 93)).alloc (Obj.cells #[Value.int IntKind.i64 c] 3)).cell? ⟨w.heap.size, 0, none⟩ = some (.slice ao L.length cap) := cell_alloc_sl _ (cell_new_sl w _ _)
  have p2 : ((w.alloc (Obj.cells #[Value.slice ao L.length cap] 93)).alloc (Obj.cells #[Value.int IntKind.i64 c] 3)).cell? ⟨w.heap.size + 1, 0, none⟩ = some (.int .i64 c) := by
    have := cell_new_sl (w.alloc (Obj.cells #[Value.slice ao L.length cap] 93)) (.int .i64 c) 3
    rw [World.size_alloc] at this; exact this
  have HT := hide ((H.out).below B0)
  generalize (w.alloc (Obj.cells #[Value.slice ao L.length cap] 93)).alloc (Obj.cells #[Value.int IntKind.i64 c] 3) = W at *
  have HS : ∀ W' : World, Below W.heap.size W W' → Calls Tryz.prog 82 #[.int .i64 L.length, .func (.func 83) #[] #[.pointer (some ⟨w.heap.size, 0, none⟩), .pointer (some ⟨w.heap.size + 1, 0, none⟩)]] W' fun e w' => e = .returned (.int .i64 (L.countP (fun t => !decide (c ≤ (t.pos : Int))))) ∧ Below W'.heap.size W' w' := by
    intro W' hW
    refine search_at 83 eg61 (fun t => decide (c ≤ (t.pos : Int))) _ L W' hL ?_ HM.out
    intro W2 i t h2 ht
    have h3 : Below W.heap.size W W2 := hW.trans (h2.mono hW.size)
    have k3 := Kp.ofBelow h3 (fun _ => False)
    have hi : i < L.length := by
      rcases Nat.lt_or_ge i L.length with g | g
      · exact g
      · rw [List.getElem?_eq_none g] at ht; cases ht
    exact begAt_fn _ _ _ L c W2 i t (k3.cellv p1 id) (k3.cellv p2 id) ((HT.out).below h3) hi ht
  have HSS := hide HS
  have hk : L.countP (fun t => !decide (c ≤ (t.pos : Int))) ≤ L.length := List.countP_le_length
  have HK := hide (mono_count HM.out).2
  clear HS
  generalize L.countP (fun t => !decide (c ≤ (t.pos : Int))) = k at *
  have y1 : (k : Int) ≤ (cap : Int) := by omega
  have y2 : (0 : Int) ≤ (k : Int) := by omega
  have y3 : k ≤ cap := by omega
  have y4 : (k : Int) ≤ (L.length : Int) := by omega
  go_region_held3 (fun w' => w'.cell? ⟨w.heap.size, 0, none⟩ = some (.slice ao L.length cap)) (first | exact p1 | exact (Kp.ofBelow kS (fun _ => False)).cellv p1 id)
    ((go_at_call 82; refine ((HSS.out) _ ?_).mono ?_; (first | exact Below.refl _ W | exact (Below.refl _ W).drew); rintro e w3 ⟨rfl, kS⟩))
  all_goals go_wp2_with fail
  all_goals go_ret
  all_goals have kW : Below W.heap.size W w3 := ((Below.refl _ W).drew).trans kS
  · exact ⟨_, rfl, ⟨by rw [← HK.out]; exact ((HT.out).below kW).drop0 (by omega), by cases ao <;> rfl⟩, B0.trans (kW.mono B0.size)⟩
  · exact ⟨_, rfl, ⟨by rw [← HK.out]; exact ((HT.out).below kW).drop hk, by cases ao with | none => rfl | some x => exact congrArg some (add_block x _)⟩, B0.trans (kW.mono B0.size)⟩
end Go.Proofs.YtkampoaceipngaaGreatDoor
/- Plain mathematics: places and ends of tokens grow; the two questions of the search. -/
namespace Go.Proofs.YtkampoaceipngaaGreatDoor
open M

theorem toks_grow (n : Nat) : ∀ (p : Nat) (l : List UInt8), l.length ≤ n → ∀ (i j : Nat) (t t' : Tk), i ≤ j → (toks p l)[i]? = some t → (toks p l)[j]? = some t' → t.pos ≤ t'.pos ∧ t.pos + t.len ≤ t'.pos + t'.len := by
  induction n with
  | zero =>
    intro p l h i j t t' _ ht
    have : l = [] := List.length_eq_zero_iff.1 (by omega)
    subst this; rw [toks_nil] at ht; simp at ht
  | succ n ih =>
    intro p l h i j t t' hij ht ht'
    by_cases h0 : l = []
    · subst h0; rw [toks_nil] at ht; simp at ht
    · have hb := tok_bounds h0
      have hd : (l.drop (tok l).2).length ≤ n := by rw [List.length_drop]; omega
      rw [toks_cons h0] at ht ht'
      cases j with
      | zero =>
        obtain rfl : i = 0 := by omega
        rw [ht] at ht'; cases ht'; exact ⟨Nat.le_refl _, Nat.le_refl _⟩
      | succ j =>
        rw [List.getElem?_cons_succ] at ht'
        cases i with
        | zero =>
          rw [List.getElem?_cons_zero] at ht
          cases ht
          have := toks_ge _ _ _ hd t' (List.mem_of_getElem? ht')
          simp only; omega
        | succ i =>
          rw [List.getElem?_cons_succ] at ht
          exact ih _ _ hd i j t t' (by omega) ht ht'
theorem mono_end (c : Int) (p : Nat) (l : List UInt8) : Mono (fun t => decide (c < (t.pos : Int) + t.len)) (toks p l) := by
  intro i j t t' hij ht ht' h
  have := toks_grow _ p l (Nat.le_refl _) i j t t' hij ht ht'
  simp only [decide_eq_true_eq] at h ⊢
  omega
theorem mono_beg (c : Int) (p : Nat) (l : List UInt8) : Mono (fun t => decide (c ≤ (t.pos : Int))) (toks p l) := by
  intro i j t t' hij ht ht' h
  have := toks_grow _ p l (Nat.le_refl _) i j t t' hij ht ht'
  simp only [decide_eq_true_eq] at h ⊢
  omega
theorem ahd_is (f : Nat) (L : List Tk) : L.takeWhile (fun t => !decide ((f : Int) - 4 < (t.pos : Int) + t.len)) = ahd f L := by
  unfold ahd; congr 1; funext t
  by_cases h : t.pos + t.len + 4 ≤ f
  · rw [decide_eq_true h, decide_eq_false (by omega)]; rfl
  · rw [decide_eq_false h, decide_eq_true (by omega)]; rfl
theorem beg_is (c : Int) (L : List Tk) : L.dropWhile (fun t => !decide (c ≤ (t.pos : Int))) = beg c L := by
  unfold beg; congr 1; funext t
  by_cases h : (t.pos : Int) < c
  · rw [decide_eq_true h, decide_eq_false (by omega)]; rfl
  · rw [decide_eq_false h, decide_eq_true (by omega)]; rfl
end Go.Proofs.YtkampoaceipngaaGreatDoor
/- What is read anew, till a token would begin where an old one does. -/
namespace Go.Proofs.YtkampoaceipngaaGreatDoor
open Go.RowKit
open M

theorem beg_len (c : Int) (L : List Tk) : (beg c L).length ≤ L.length := (List.dropWhile_sublist _).length_le
theorem beg_toks (c : Int) {L : List Tk} (h : ∃ p l, L = toks p l) : ∃ p l, beg c L = toks p l := by
  obtain ⟨p, l, rfl⟩ := h
  obtain ⟨q, -, -, h3, -⟩ := beg_form _ p l c (Nat.le_refl _)
  exact ⟨q, _, h3⟩
/-- Where the loop that reads anew stands. -/
structure InUn (w0 : World) (B b : Nat) (s : ByteArray) (ov0 : Value) (n0 : Nat) (L0 Lo : List Tk) (q : Nat) (ov va : Value) (w : World) : Prop where
  rdr : Rdr w b s q
  row : w.ownsRow B 118 3 va L0.length (L0.flatMap tkv)
  far : b < B
  on : On b w0 w
  le : L0.length ≤ q
  old : IsT w ov Lo
  own : ov.ownBlock = ov0.ownBlock
  form : ∃ p l, Lo = toks p l
  len : Lo.length ≤ n0

set_option maxRecDepth 100000 in
set_option maxHeartbeats 4000000 in
theorem until_any (b : Nat) (s : ByteArray) (q0 : Nat) (ov0 : Value) (Lo0 : List Tk) (G : Int) (w : World) (hr : Rdr w b s q0) (hs : s.size ≤ 1073741824) (ho : IsT w ov0 Lo0) (hf : ∃ p l, Lo0 = toks p l) (hn : Lo0.length ≤ 1073741824)
    (hne : ∀ k, ov0.ownBlock = some k → k ≠ b ∧ k < w.heap.size) (hg1 : G ≤ 4294967296) (hg2 : -4294967296 ≤ G) (A S : List Tk) (HA : Hid (anw G Lo0 q0 ((bs s).drop q0) = (A, S))) :
    Calls Tryz.prog 58 #[.pointer (some ⟨b, 0, none⟩), ov0, .int .i64 G] w fun e w' => ∃ va vs, e = .returned (.tuple #[va, vs]) ∧ Hid (w'.ownsRow w.heap.size 118 3 va A.length (A.flatMap tkv) ∧ IsT w' vs S ∧ vs.ownBlock = ov0.ownBlock ∧ On b w w') := by
  obtain ⟨i0, hi0, hz0, hz1, hz2⟩ := info_parts info29
  have hbl := hr.raw.lt
  have HI0 : Hid (InUn w w.heap.size b s ov0 1073741824 [] Lo0 q0 ov0 (.slice none 0 0) w) := ⟨hr, World.ownsRow_nil _ _ _ _, hbl, Kp.refl _ _, Nat.zero_le _, ho, rfl, hf, hn⟩
  have HNE := hide hne
  have h7 := hr.tabs.2
  clear hr ho hf hn hne
  go_enter Tryz.func58, Tryz.ntmps58
  go_wp2_with fail
  go_loopw [1, 6] (fun vo va wr => ∃ (L0 Lo : List Tk) (q : Nat), Hid (InUn w w.heap.size b s ov0 1073741824 L0 Lo q vo va wr ∧ A = L0 ++ (anw G Lo q ((bs s).drop q)).1 ∧ S = (anw G Lo q ((bs s).drop q)).2)) (fun _ va _ => s.size - lenOf va)
  case atStart => exact ⟨[], Lo0, q0, ⟨HI0.out, by rw [HA.out]; rfl, by rw [HA.out]⟩⟩
  case round =>
    obtain ⟨L0, Lo, q, HI⟩ := hrel
    have hq := (HI.out).1.rdr.le
    have hl0 := (HI.out).1.le
    obtain ⟨⟨c0, c1, c2, c3⟩, -⟩ := (HI.out).1.rdr.raw.facts
    have HM : Hid (Mono (fun t => decide ((q : Int) - G ≤ (t.pos : Int))) Lo) := by
      obtain ⟨p, l, rfl⟩ := (HI.out).1.form
      exact mono_beg _ p l
    go_wp2_with fail
    refine (beginningAt_any u1 Lo ((q : Int) - G) _ (HI.out).1.old (HI.out).1.len HM.out).mono ?_
    rintro e w2 ⟨v2, rfl, H2, k2⟩
    rw [beg_is] at H2
    have HO2 : Hid (v2.ownBlock = ov0.ownBlock) := (H2.out).2.trans (HI.out).1.own
    have HT2 : Hid (IsT w2 v2 (beg ((q : Int) - G) Lo)) := (H2.out).1
    have HR2 : Hid (Rdr w2 b s q) := (HI.out).1.rdr.below k2
    have HW2 : Hid (w2.ownsRow w.heap.size 118 3 u6 L0.length (L0.flatMap tkv)) := Kp.owns (Kp.ofBelow k2 (fun _ => False)) (HI.out).1.row (fun _ _ => id)
    have HN2 : Hid (On b w w2) := (HI.out).1.on.to (On.ofBelow b k2)
    have HF2 := hide (beg_toks ((q : Int) - G) (HI.out).1.form)
    have hL2 : (beg ((q : Int) - G) Lo).length ≤ 1073741824 := Nat.le_trans (beg_len _ _) (HI.out).1.len
    have HE := hide (HI.out).2
    obtain ⟨⟨d0, d1, d2, d3⟩, -⟩ := (HR2.out).raw.facts
    clear c0 c1 c2 c3 k2 H2 HI HM
    obtain ⟨ao, cap, rfl, hc1, hc2, -⟩ := HT2.out
    have hB : ∃ L2, beg ((q : Int) - G) Lo = L2 := ⟨_, rfl⟩
    obtain ⟨L2, hB⟩ := hB
    rw [hB] at HT2 HF2 hL2 hc1 HO2
    rw [hB]
    have HB := hide hB
    clear hB
    by_cases hlt : q < s.size
    case neg =>
      have hqe : q = s.size := by omega
      have HD : Hid ((bs s).drop q = []) := by show _ = _; rw [hqe, ← bs_len]; simp
      rw [HD.out, cc_nil] at d2
      clear hqe
      go_wp2_with fail
      go_region
      all_goals go_wp2_with fail
      all_goals go_ret2
      all_goals
        have e0 := HE.out
        rw [HD.out, anw_end] at e0
        refine ⟨_, _, rfl, ?_⟩
        obtain ⟨rfl, rfl⟩ := e0
        rw [List.append_nil, HB.out]
        first | exact ⟨HW2.out, HT2.out, HO2.out, HN2.out⟩ | exact ⟨HW2.out, HT2.out, HO2.out, Kp.drew HN2.out⟩
    have hne : (cc ((bs s).drop q) == -1) = false := by
      have := drop_ne hlt
      simp only [beq_eq_false_iff_ne, ne_eq, cc_ne]
      exact this
    have HW2R : Hid (w2.ownsRow w.heap.size 118 3 u6 L0.length (L0.flatMap tkv)) := HW2
    have HT : Hid ((∀ k, L2.head? ≠ some k ∨ (k.pos : Int) ≠ (q : Int) - G) → A = (L0 ++ [⟨(tok ((bs s).drop q)).1, q, (tok ((bs s).drop q)).2⟩]) ++ (anw G L2 (q + (tok ((bs s).drop q)).2) ((bs s).drop (q + (tok ((bs s).drop q)).2))).1 ∧ S = (anw G L2 (q + (tok ((bs s).drop q)).2) ((bs s).drop (q + (tok ((bs s).drop q)).2))).2) := by
      intro hh
      have e0 := HE.out
      have hst : (beg ((q : Int) - G) Lo).head?.map (fun k => (k.pos : Int)) ≠ some ((q : Int) - G) := by
        rw [HB.out]
        cases L2 with
        | nil => simp
        | cons k L => 
          have := hh k
          simp at this ⊢; exact this
      rw [anw_on (drop_ne hlt) hst, List.drop_drop, HB.out] at e0
      refine ⟨?_, e0.2⟩
      rw [e0.1]; simp
    have hcase : (L2 = [] ∨ ∃ k L, L2 = k :: L ∧ (k.pos : Int) ≠ (q : Int) - G) ∨ ∃ k L, L2 = k :: L ∧ (k.pos : Int) = (q : Int) - G := by
      cases L2 with
      | nil => exact .inl (.inl rfl)
      | cons k L => 
        by_cases h : (k.pos : Int) = (q : Int) - G
        · exact .inr ⟨k, L, rfl, h⟩
        · exact .inl (.inr ⟨k, L, rfl, h⟩)
    rcases hcase with (rfl | ⟨k, L, rfl, hk⟩) | ⟨k, L, rfl, hk⟩
    rotate_left 2
    · obtain ⟨b', o', t', rfl, ht', q1, q2, q3⟩ := (HT2.out).get (Below.refl _ w2) (k := 0) (by simp)
      obtain rfl : k = t' := by simpa using ht'
      rw [Nat.zero_mul, Nat.add_zero] at q1 q2 q3
      have i1 : ((k.pos : Int) == (q : Int) - G) = true := by simp [hk]
      have i2 : 0 < (k :: L).length := by simp
      generalize hZ : (k :: L).length = Z at *
      clear ht' hk
      go_wp2_with fail
      go_region
      all_goals go_wp2_with fail
      all_goals go_ret2
      all_goals
        have e0 := HE.out
        have hst : (beg ((q : Int) - G) Lo).head?.map (fun k => (k.pos : Int)) = some ((q : Int) - G) := by
          rw [HB.out]; simpa using i1
        rw [anw_stop hst, HB.out] at e0
        refine ⟨_, _, rfl, ?_⟩
        obtain ⟨rfl, rfl⟩ := e0
        rw [List.append_nil]
        rw [← hZ] at HT2 HO2 ⊢
        first | exact ⟨HW2.out, HT2.out, HO2.out, HN2.out⟩ | exact ⟨HW2.out, HT2.out, HO2.out, Kp.drew HN2.out⟩
    rotate_left
    · obtain ⟨b', o', t', rfl, ht', q1, q2, q3⟩ := (HT2.out).get (Below.refl _ w2) (k := 0) (by simp)
      obtain rfl : k = t' := by simpa using ht'
      rw [Nat.zero_mul, Nat.add_zero] at q1 q2 q3
      have i1 : ((k.pos : Int) == (q : Int) - G) = false := by simp [hk]
      have i2 : 0 < (k :: L).length := by simp
      have HT3 : Hid (A = (L0 ++ [⟨(tok ((bs s).drop q)).1, q, (tok ((bs s).drop q)).2⟩]) ++ (anw G (k :: L) (q + (tok ((bs s).drop q)).2) ((bs s).drop (q + (tok ((bs s).drop q)).2))).1 ∧ S = (anw G (k :: L) (q + (tok ((bs s).drop q)).2) ((bs s).drop (q + (tok ((bs s).drop q)).2))).2) := (HT.out) (fun k' => by
        by_cases e : k = k'
        · subst e; exact .inr hk
        · exact .inl (by simpa using e))
      clear ht' hk HT HB
      generalize hX : k :: L = X at *
      generalize hZ : X.length = Z at *
      clear hX
      subst hZ
      go_wp2_with fail
      go_region
      all_goals go_wp2_with fail
      have kk0 : On b w2 w2.drew := Kp.drew (Kp.refl _ w2)
      refine (token_any b s q _ ((HR2.out).drewN 1) hlt).mono ?_
      rintro e w3 ⟨rfl, r3, k3⟩
      have kk : On b w2 w3 := kk0.to k3
      have HO := hide (Kp.owns kk HW2.out (fun k hk e => by have := (owns_ge HW2.out k hk).1; omega))
      have HT4 := hide ((HT2.out).keep kk (fun k hk => ((HNE.out) k (by rw [← HO2.out]; exact hk)).1))
      have hsz3 : w.heap.size ≤ w3.heap.size := Nat.le_trans (HN2.out).size kk.size
      have HK := hide (And.intro r3 kk)
      clear r3 k3 kk kk0 d0 d1 d2 d3
      go_wp2_with (at_builtin; refine wpList_append_lies _ rfl _ _ 93 rfl w.heap.size 118 i0 _ 3 24 Tryz.underlying93 hi0 hz0 hz1 hz2 rfl (by decide) u6 L0.length _ rfl ((HO.out).alloc _) ⟨w3.heap.size, 0, none⟩ 1 1 (tkv ⟨(tok ((bs s).drop q)).1, q, (tok ((bs s).drop q)).2⟩) rfl rfl (World.news_of_block (cs := #[.int .i64 (tok ((bs s).drop q)).1, .int .i64 q, .int .i64 (tok ((bs s).drop q)).2]) (heap_alloc_new w3 _)) (by simp [Value.oneCell', tkv]) (by omega) (by unfold maxLen; omega) (by omega) (by simp; omega) (w3.heap.size + 1) (by simp) ?_; intro g cap5 w5 hown5 hgrow5 hat5 hlt5)
      have hrow := HO.out
      have hge := owns_ge hrow
      obtain ⟨r3, kk⟩ := HK.out
      have kW : Kp (fun k => u6.ownBlock = some k) w3 w5 := Kp.grown (Kp.alloc (Kp.refl _ w3) _) hgrow5 (fun k e _ => e)
      have hb := tok_bounds (drop_ne hlt)
      refine ⟨⟨L0 ++ [⟨(tok ((bs s).drop q)).1, q, (tok ((bs s).drop q)).2⟩], X, q + (tok ((bs s).drop q)).2, ⟨⟨r3.keep kW (fun e => by have := (hge _ e).1; omega) (fun k hk e => by have := (hge _ e).1; omega), ?_, hbl, ?_, ?_, ?_, HO2.out, HF2.out, hL2⟩, HT3.out⟩⟩, ?_⟩
      · rw [toks_flat, List.length_append]; exact hown5
      · exact Kp.trans ((HN2.out).to kk) kW (fun i hi e => by have := (hge _ e).1; omega)
      · rw [List.length_append]; simp only [List.length_singleton]; omega
      · exact (HT4.out).keep kW (fun k hk e => by
          have h1 := (hge _ e).1
          have h2 := ((HNE.out) k (by rw [← HO2.out]; exact hk)).2
          omega)
      · rw [owns_len hrow]; simp only [lenOf]; omega
    · have HT5 : Hid (∀ X : List Tk, X = [] → A = (L0 ++ [⟨(tok ((bs s).drop q)).1, q, (tok ((bs s).drop q)).2⟩]) ++ (anw G X (q + (tok ((bs s).drop q)).2) ((bs s).drop (q + (tok ((bs s).drop q)).2))).1 ∧ S = (anw G X (q + (tok ((bs s).drop q)).2) ((bs s).drop (q + (tok ((bs s).drop q)).2))).2) := by
        intro X hX; subst hX
        exact (HT.out) (fun k' => .inl (by simp))
      obtain ⟨X, hX⟩ : ∃ X : List Tk, X = [] := ⟨_, rfl⟩
      have HT3 := hide ((HT5.out) X hX)
      clear HT HB HT5
      rw [← hX] at HT2 HF2 hL2 HO2 hc1 ⊢
      have i2 : X.length = 0 := by rw [hX]; rfl
      have i3 : (decide (0 < X.length)) = false := by simp [i2]
      clear hX i2
      go_wp2_with fail
      go_region
      all_goals go_wp2_with fail
      have kk0 : On b w2 w2.drew := Kp.drew (Kp.refl _ w2)
      refine (token_any b s q _ ((HR2.out).drewN 1) hlt).mono ?_
      rintro e w3 ⟨rfl, r3, k3⟩
      have kk : On b w2 w3 := kk0.to k3
      have HO := hide (Kp.owns kk HW2.out (fun k hk e => by have := (owns_ge HW2.out k hk).1; omega))
      have HT4 := hide ((HT2.out).keep kk (fun k hk => ((HNE.out) k (by rw [← HO2.out]; exact hk)).1))
      have hsz3 : w.heap.size ≤ w3.heap.size := Nat.le_trans (HN2.out).size kk.size
      have HK := hide (And.intro r3 kk)
      clear r3 k3 kk kk0 d0 d1 d2 d3
      go_wp2_with (at_builtin; refine wpList_append_lies _ rfl _ _ 93 rfl w.heap.size 118 i0 _ 3 24 Tryz.underlying93 hi0 hz0 hz1 hz2 rfl (by decide) u6 L0.length _ rfl ((HO.out).alloc _) ⟨w3.heap.size, 0, none⟩ 1 1 (tkv ⟨(tok ((bs s).drop q)).1, q, (tok ((bs s).drop q)).2⟩) rfl rfl (World.news_of_block (cs := #[.int .i64 (tok ((bs s).drop q)).1, .int .i64 q, .int .i64 (tok ((bs s).drop q)).2]) (heap_alloc_new w3 _)) (by simp [Value.oneCell', tkv]) (by omega) (by unfold maxLen; omega) (by omega) (by simp; omega) (w3.heap.size + 1) (by simp) ?_; intro g cap5 w5 hown5 hgrow5 hat5 hlt5)
      have hrow := HO.out
      have hge := owns_ge hrow
      obtain ⟨r3, kk⟩ := HK.out
      have kW : Kp (fun k => u6.ownBlock = some k) w3 w5 := Kp.grown (Kp.alloc (Kp.refl _ w3) _) hgrow5 (fun k e _ => e)
      have hb := tok_bounds (drop_ne hlt)
      refine ⟨⟨L0 ++ [⟨(tok ((bs s).drop q)).1, q, (tok ((bs s).drop q)).2⟩], X, q + (tok ((bs s).drop q)).2, ⟨⟨r3.keep kW (fun e => by have := (hge _ e).1; omega) (fun k hk e => by have := (hge _ e).1; omega), ?_, hbl, ?_, ?_, ?_, HO2.out, HF2.out, hL2⟩, HT3.out⟩⟩, ?_⟩
      · rw [toks_flat, List.length_append]; exact hown5
      · exact Kp.trans ((HN2.out).to kk) kW (fun i hi e => by have := (hge _ e).1; omega)
      · rw [List.length_append]; simp only [List.length_singleton]; omega
      · exact (HT4.out).keep kW (fun k hk e => by
          have h1 := (hge _ e).1
          have h2 := ((HNE.out) k (by rw [← HO2.out]; exact hk)).2
          omega)
      · rw [owns_len hrow]; simp only [lenOf]; omega
end Go.Proofs.YtkampoaceipngaaGreatDoor
