/- The tokens that end by a place, and those that begin at one. -/
import Derived.Test.YtgpfmnaglbbebaaDoorSs
namespace Go.Proofs.YtgpfmnaglbbebaaDoor
open Go.RowKit Go.Shelf
open M

theorem IsT.take {w : World} {ao : Option Addr} {n cap : Nat} {L : List Tk} (h : IsT w (.slice ao n cap) L) {k : Nat} (hk : k ≤ L.length) : IsT w (.slice ao k cap) (L.take k) := by
  obtain ⟨ao', cap', e, h1, h2, h3⟩ := h
  injection e with e1 e2 e3
  subst e1; subst e3
  have hl : (L.take k).length = k := by rw [List.length_take]; omega
  refine ⟨ao, cap, by rw [hl], by rw [hl]; omega, h2, fun i hi => ?_⟩
  rw [hl] at hi
  obtain ⟨b, o, e, ha⟩ := h3 i (by omega)
  exact ⟨b, o, e, fun t ht => ha t (by rw [List.getElem?_take_of_lt hi] at ht; exact ht)⟩

theorem IsT.drop0 {w : World} {ao : Option Addr} {n cap : Nat} {L : List Tk} (_h : IsT w (.slice ao n cap) L) {k : Nat} (hk : L.length ≤ k) : IsT w (.slice ao (L.length - k) 0) (L.drop k) := by
  have e : L.drop k = [] := List.drop_eq_nil_iff.2 hk
  rw [e, show L.length - k = 0 by omega]
  exact ⟨ao, 0, rfl, Nat.le_refl _, Nat.zero_le _, fun i hi => by simp at hi⟩
theorem add_block (x : Addr) (n : Nat) : (x.add n).block = x.block := by unfold Addr.add; split <;> rfl
theorem IsT.drop {w : World} {ao : Option Addr} {n cap : Nat} {L : List Tk} (h : IsT w (.slice ao n cap) L) {k : Nat} (hk : k ≤ L.length) : IsT w (.slice (ao.map (fun x => x.add (k * 3))) (L.length - k) (cap - k)) (L.drop k) := by
  obtain ⟨ao', cap', e, h1, h2, h3⟩ := h
  injection e with e1 e2 e3
  subst e1; subst e3
  have hl : (L.drop k).length = L.length - k := List.length_drop
  refine ⟨_, cap - k, by rw [hl], by rw [hl]; omega, by omega, fun i hi => ?_⟩
  rw [hl] at hi
  obtain ⟨b, o, rfl, ha⟩ := h3 (k + i) (by omega)
  refine ⟨b, o + k * 3, by rw [Option.map_some, Addr.add_lit], fun t ht => ?_⟩
  rw [List.getElem?_drop] at ht
  have := ha t ht
  rw [show o + (k + i) * 3 = o + k * 3 + i * 3 by omega] at this
  exact this

set_option maxRecDepth 100000 in
set_option maxHeartbeats 4000000 in
theorem endingBy_any (v : Value) (L : List Tk) (c : Int) (w : World) (h : IsT w v L) (hL : L.length ≤ 1073741824) (hb : ∀ t ∈ L, t.pos + t.len ≤ 4294967296) (hm : Mono (fun t => decide (c < (t.pos : Int) + t.len)) L) :
    Calls Tryd.prog 60 #[v, .int .i64 c] w fun e w' => ∃ v', e = .returned v' ∧ Hid (IsT w' v' (L.takeWhile (fun t => !decide (c < (t.pos : Int) + t.len))) ∧ (v'.ownBlock = v.ownBlock)) ∧ Below w.heap.size w w' := by
  have H := hide h
  have HBd := hide hb
  have HM := hide hm
  clear hm hb
  obtain ⟨ao, cap, rfl, hc1, hc2, -⟩ := h
  go_enter Tryd.func60, Tryd.ntmps60
  go_upto_region 1 with fail
  have B0 : Below w.heap.size w ((w.alloc (Obj.cells #[Value.slice ao L.length cap] 22)).alloc (Obj.cells #[Value.int IntKind.i64 c] 3)) := ((Below.refl _ w).alloc (Nat.le_refl _) _).alloc (by simp) _
  have p1 : ((w.alloc (Obj.cells #[Value.slice ao L.length cap] 22)).alloc (Obj.cells #[Value.int IntKind.i64 c] 3)).cell? ⟨w.heap.size, 0, none⟩ = some (.slice ao L.length cap) := cell_alloc_sl _ (cell_new_sl w _ _)
  have p2 : ((w.alloc (Obj.cells #[Value.slice ao L.length cap] 22)).alloc (Obj.cells #[Value.int IntKind.i64 c] 3)).cell? ⟨w.heap.size + 1, 0, none⟩ = some (.int .i64 c) := by
    have := cell_new_sl (w.alloc (Obj.cells #[Value.slice ao L.length cap] 22)) (.int .i64 c) 3
    rw [World.size_alloc] at this; exact this
  have HT := hide ((H.out).below B0)
  generalize (w.alloc (Obj.cells #[Value.slice ao L.length cap] 22)).alloc (Obj.cells #[Value.int IntKind.i64 c] 3) = W at *
  have HS : ∀ W' : World, Below W.heap.size W W' → Calls Tryd.prog 61 #[.int .i64 L.length, .func (.func 81) #[] #[.pointer (some ⟨w.heap.size, 0, none⟩), .pointer (some ⟨w.heap.size + 1, 0, none⟩)]] W' fun e w' => e = .returned (.int .i64 (L.countP (fun t => !decide (c < (t.pos : Int) + t.len)))) ∧ Below W'.heap.size W' w' := by
    intro W' hW
    refine search_at 81 eg60 (fun t => decide (c < (t.pos : Int) + t.len)) _ L W' hL ?_ HM.out
    intro W2 i t h2 ht
    have h3 : Below W.heap.size W W2 := hW.trans (h2.mono hW.size)
    have k3 := Kp.ofBelow h3 (fun _ => False)
    have hi : i < L.length := by
      rcases Nat.lt_or_ge i L.length with g | g
      · exact g
      · rw [List.getElem?_eq_none g] at ht; cases ht
    exact endBy_fn _ _ _ L c W2 i t (k3.cellv p1 id) (k3.cellv p2 id) ((HT.out).below h3) hi ht ((HBd.out) t (List.mem_of_getElem? ht))
  have HSS := hide HS
  have hk : L.countP (fun t => !decide (c < (t.pos : Int) + t.len)) ≤ L.length := List.countP_le_length
  have HK := hide (mono_count HM.out).1
  clear HS
  generalize L.countP (fun t => !decide (c < (t.pos : Int) + t.len)) = k at *
  have y1 : (k : Int) ≤ (cap : Int) := by omega
  have y2 : (0 : Int) ≤ (k : Int) := by omega
  have y3 : k ≤ cap := by omega
  have y4 : (k : Int) ≤ (L.length : Int) := by omega
  go_region_held3 (fun w' => w'.cell? ⟨w.heap.size, 0, none⟩ = some (.slice ao L.length cap)) (first | exact p1 | exact (Kp.ofBelow kS (fun _ => False)).cellv p1 id)
    ((go_at_call 61; refine ((HSS.out) _ ?_).mono ?_; (first | exact Below.refl _ W | exact (Below.refl _ W).drew); rintro e w3 ⟨rfl, kS⟩))
  all_goals go_wp2_with fail
  go_ret
  have kW : Below W.heap.size W w3 := ((Below.refl _ W).drew).trans kS
  exact ⟨_, rfl, ⟨by rw [← HK.out]; exact ((HT.out).below kW).take hk, by cases ao <;> rfl⟩, B0.trans (kW.mono B0.size)⟩

set_option maxRecDepth 100000 in
set_option maxHeartbeats 4000000 in
theorem beginningAt_any (v : Value) (L : List Tk) (c : Int) (w : World) (h : IsT w v L) (hL : L.length ≤ 1073741824) (hm : Mono (fun t => decide (c ≤ (t.pos : Int))) L) :
    Calls Tryd.prog 44 #[v, .int .i64 c] w fun e w' => ∃ v', e = .returned v' ∧ Hid (IsT w' v' (L.dropWhile (fun t => !decide (c ≤ (t.pos : Int)))) ∧ (v'.ownBlock = v.ownBlock)) ∧ Below w.heap.size w w' := by
  have H := hide h
  have HM := hide hm
  clear hm
  obtain ⟨ao, cap, rfl, hc1, hc2, -⟩ := h
  go_enter Tryd.func44, Tryd.ntmps44
  go_upto_region 1 with fail
  have B0 : Below w.heap.size w ((w.alloc (Obj.cells #[Value.slice ao L.length cap] 22)).alloc (Obj.cells #[Value.int IntKind.i64 c] 3)) := ((Below.refl _ w).alloc (Nat.le_refl _) _).alloc (by simp) _
  have p1 : ((w.alloc (Obj.cells #[Value.slice ao L.length cap] 22)).alloc (Obj.cells #[Value.int IntKind.i64 c] 3)).cell? ⟨w.heap.size, 0, none⟩ = some (.slice ao L.length cap) := cell_alloc_sl _ (cell_new_sl w _ _)
  have p2 : ((w.alloc (Obj.cells #[Value.slice ao L.length cap] 22)).alloc (Obj.cells #[Value.int IntKind.i64 c] 3)).cell? ⟨w.heap.size + 1, 0, none⟩ = some (.int .i64 c) := by
    have := cell_new_sl (w.alloc (Obj.cells #[Value.slice ao L.length cap] 22)) (.int .i64 c) 3
    rw [World.size_alloc] at this; exact this
  have HT := hide ((H.out).below B0)
  generalize (w.alloc (Obj.cells #[Value.slice ao L.length cap] 22)).alloc (Obj.cells #[Value.int IntKind.i64 c] 3) = W at *
  have HS : ∀ W' : World, Below W.heap.size W W' → Calls Tryd.prog 61 #[.int .i64 L.length, .func (.func 62) #[] #[.pointer (some ⟨w.heap.size, 0, none⟩), .pointer (some ⟨w.heap.size + 1, 0, none⟩)]] W' fun e w' => e = .returned (.int .i64 (L.countP (fun t => !decide (c ≤ (t.pos : Int))))) ∧ Below W'.heap.size W' w' := by
    intro W' hW
    refine search_at 62 eg61 (fun t => decide (c ≤ (t.pos : Int))) _ L W' hL ?_ HM.out
    intro W2 i t h2 ht
    have h3 : Below W.heap.size W W2 := hW.trans (h2.mono hW.size)
    have k3 := Kp.ofBelow h3 (fun _ => False)
    have hi : i < L.length := by
      rcases Nat.lt_or_ge i L.length with g | g
      · exact g
      · rw [List.getElem?_eq_none g] at ht; cases ht
    exact begAt_fn _ _ _ L c W2 i t (k3.cellv p1 id) (k3.cellv p2 id) ((HT.out).below h3) hi ht
  have HSS := hide HS
  have hk : L.countP (fun t => !decide (c ≤ (t.pos : Int))) ≤ L.length := List.countP_le_length
  have HK := hide (mono_count HM.out).2
  clear HS
  generalize L.countP (fun t => !decide (c ≤ (t.pos : Int))) = k at *
  have y1 : (k : Int) ≤ (cap : Int) := by omega
  have y2 : (0 : Int) ≤ (k : Int) := by omega
  have y3 : k ≤ cap := by omega
  have y4 : (k : Int) ≤ (L.length : Int) := by omega
  go_region_held3 (fun w' => w'.cell? ⟨w.heap.size, 0, none⟩ = some (.slice ao L.length cap)) (first | exact p1 | exact (Kp.ofBelow kS (fun _ => False)).cellv p1 id)
    ((go_at_call 61; refine ((HSS.out) _ ?_).mono ?_; (first | exact Below.refl _ W | exact (Below.refl _ W).drew); rintro e w3 ⟨rfl, kS⟩))
  all_goals go_wp2_with fail
  all_goals go_ret
  all_goals have kW : Below W.heap.size W w3 := ((Below.refl _ W).drew).trans kS
  · exact ⟨_, rfl, ⟨by rw [← HK.out]; exact ((HT.out).below kW).drop0 (by omega), by cases ao <;> rfl⟩, B0.trans (kW.mono B0.size)⟩
  · exact ⟨_, rfl, ⟨by rw [← HK.out]; exact ((HT.out).below kW).drop hk, by cases ao with | none => rfl | some x => exact congrArg some (add_block x _)⟩, B0.trans (kW.mono B0.size)⟩
end Go.Proofs.YtgpfmnaglbbebaaDoor
