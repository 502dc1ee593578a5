/- The search over some tokens: how many are not yet so. -/
import Derived.Test.YtgpfmnaglbbebaaDoorSr
namespace Go.Proofs.YtgpfmnaglbbebaaDoor
open Go.RowKit Go.Shelf
open M

/-- Once so, so ever after. -/
def Mono (pr : Tk → Bool) (L : List Tk) : Prop := ∀ (i j : Nat) (t t' : Tk), i ≤ j → L[i]? = some t → L[j]? = some t' → pr t = true → pr t' = true
def prAt (pr : Tk → Bool) (L : List Tk) (i : Nat) : Bool := match L[i]? with | some t => pr t | none => true
theorem prAt_some {pr : Tk → Bool} {L : List Tk} {i : Nat} {t : Tk} (h : L[i]? = some t) : prAt pr L i = pr t := by unfold prAt; rw [h]
theorem count_range (pr : Tk → Bool) : ∀ L : List Tk, (List.range L.length).countP (fun i => !prAt pr L i) = L.countP (fun t => !pr t)
  | [] => rfl
  | t :: L => by
    rw [List.length_cons, List.range_succ_eq_map, List.countP_cons, List.countP_map, List.countP_cons]
    congr 1
    exact count_range pr L
theorem Mono.tail {pr : Tk → Bool} {t : Tk} {L : List Tk} (h : Mono pr (t :: L)) : Mono pr L := by
  intro i j a b hij ha hb
  exact h (i + 1) (j + 1) a b (by omega) (by simpa using ha) (by simpa using hb)
theorem mono_count {pr : Tk → Bool} : ∀ {L : List Tk}, Mono pr L → L.take (L.countP (fun t => !pr t)) = L.takeWhile (fun t => !pr t) ∧ L.drop (L.countP (fun t => !pr t)) = L.dropWhile (fun t => !pr t)
  | [], _ => ⟨rfl, rfl⟩
  | t :: L, h => by
    cases hp : pr t
    · have ih := mono_count h.tail
      rw [List.countP_cons, List.takeWhile_cons, List.dropWhile_cons, hp]
      simp only [Bool.not_false, if_true, List.take_succ_cons, List.drop_succ_cons]
      exact ⟨by rw [ih.1], ih.2⟩
    · have hz : L.countP (fun t => !pr t) = 0 := by
        rw [List.countP_eq_zero]
        intro a ha
        obtain ⟨j, hj, rfl⟩ := List.getElem_of_mem ha
        have := h 0 (j + 1) t L[j] (by omega) rfl (by simp [hj]) hp
        simp [this]
      rw [List.countP_cons, List.takeWhile_cons, List.dropWhile_cons, hp, hz]
      simp

theorem search_at (fn : Nat) (eg : ∀ args w, (callFunc fn args).run Tryd.prog w = .ok (.enter fn args) w) (pr : Tk → Bool) (cb : Array Value) (L : List Tk) (W : World) (hL : L.length ≤ 1073741824)
    (hf : ∀ (W' : World) (i : Nat) (t : Tk), Below W.heap.size W W' → L[i]? = some t → Calls Tryd.prog fn (#[.int .i64 i] ++ cb) W' fun e w' => e = .returned (.bool (pr t)) ∧ ∃ n, w' = W'.drewN n)
    (hm : Mono pr L) :
    Calls Tryd.prog 61 #[.int .i64 L.length, .func (.func fn) #[] cb] W fun e w' => e = .returned (.int .i64 (L.countP (fun t => !pr t))) ∧ Below W.heap.size W w' := by
  have hS := Any.sort_Search Tryd.laysO16 fn cb L.length (prAt pr L) W eg (by omega) ?_ ?_
  · refine hS.mono ?_
    rintro e w' ⟨rfl, q, os, rfl⟩
    refine ⟨by rw [count_range], below_grown_sl _ W q os (Nat.le_refl _)⟩
  · intro m os i hi
    have ht := List.getElem?_eq_getElem hi
    rw [prAt_some ht]
    refine (hf _ i _ (below_grown_sl _ W m os (Nat.le_refl _)) ht).mono ?_
    rintro e w' ⟨rfl, n, rfl⟩
    exact ⟨rfl, n, #[], by rw [Sort.grow_empty]⟩
  · intro a b hab hb ha
    have h1 := List.getElem?_eq_getElem (show a < L.length by omega)
    have h2 := List.getElem?_eq_getElem hb
    rw [prAt_some h1] at ha
    rw [prAt_some h2]
    exact hm a b _ _ hab h1 h2 ha
theorem eg60 : ∀ args w, (callFunc 81 args).run Tryd.prog w = .ok (.enter 81 args) w := enters_of Tryd.func81 (by kernel_rfl) rfl
theorem eg61 : ∀ args w, (callFunc 62 args).run Tryd.prog w = .ok (.enter 62 args) w := enters_of Tryd.func62 (by kernel_rfl) rfl
end Go.Proofs.YtgpfmnaglbbebaaDoor
