/- The law ScopeStands. -/
import Derived.Test.YtgjbafamiggafaaGreatDoorJvf
import Derived.Lib.SliceRun
import Derived.Test.YtgjbafamiggafaaGreatDoorJt
namespace Go.Proofs.YtgjbafamiggafaaGreatDoor
open Go.RowKit
open M
theorem IsAF.one {w : World} (n t : ByteArray) : IsAF (w.alloc (.cells #[.string n, .string t] 37)) (w.alloc (.cells #[.string n, .string t] 37)).heap.size (some ⟨w.heap.size, 0, none⟩) [⟨n, t⟩] := fun j a hj => by
  match j with
  | 0 =>
    simp at hj
    subst hj
    have h0 := heap_alloc_new w (.cells #[.string n, .string t] 37)
    exact ⟨_, _, rfl, by simp, cell_of_row _ _ 0 _ _ _ h0, cell_of_row _ _ 1 _ _ _ h0⟩
  | j + 1 => simp at hj
end Go.Proofs.YtgjbafamiggafaaGreatDoor
/- The law ScopeStands. -/
namespace Go.Proofs.YtgjbafamiggafaaGreatDoor
open Go.RowKit
open M
theorem uvs_get : ∀ (us : List X.U) (i : Nat) (u : X.U), us[i]? = some u → ∀ j, j < 6 → (uvs us)[i * 6 + j]? = (uv u)[j]?
  | [], i, u, h, j, hj => by simp at h
  | a :: us, 0, u, h, j, hj => by
    simp at h
    subst h
    show (uv a ++ uvs us)[0 * 6 + j]? = _
    rw [List.getElem?_append_left (by show 0 * 6 + j < 6; omega), Nat.zero_mul, Nat.zero_add]
  | a :: us, i + 1, u, h, j, hj => by
    show (uv a ++ uvs us)[(i + 1) * 6 + j]? = _
    rw [List.getElem?_append_right (by show 6 ≤ (i + 1) * 6 + j; omega)]
    have : (i + 1) * 6 + j - (uv a).length = i * 6 + j := by show (i + 1) * 6 + j - 6 = _; omega
    rw [this]
    exact uvs_get us i u (by simpa using h) j hj
/-- Names that are told, in a slice. -/
theorem use_cells {w : World} {base : Nat} {nv : Value} {us : List X.U} (h : w.ownsRow base 31 6 nv us.length (uvs us)) {i : Nat} {u : X.U} (hu : us[i]? = some u) : ∃ g cap, nv = .slice (some ⟨g, 0, none⟩) us.length cap ∧ us.length ≤ cap ∧ cap ≤ maxLen ∧ g < w.heap.size ∧ w.cell? ⟨g, i * 6, none⟩ = some (.int .i64 u.f) ∧ w.cell? ⟨g, i * 6 + 1, none⟩ = some (.int .i64 u.i) ∧ w.cell? ⟨g, i * 6 + 2, none⟩ = some (.int .i64 u.s) ∧ w.cell? ⟨g, i * 6 + 3, none⟩ = some (.int .i64 u.tf) ∧ w.cell? ⟨g, i * 6 + 4, none⟩ = some (.int .i64 u.tt) ∧ w.cell? ⟨g, i * 6 + 5, none⟩ = some (.int .i64 u.e) := by
  have hil : i < us.length := by
    rcases Nat.lt_or_ge i us.length with g | g
    · exact g
    · rw [List.getElem?_eq_none g] at hu; cases hu
  obtain ⟨g, cap, rfl, -, hlt⟩ := h.form (by omega)
  rcases h.2 with ⟨e, -⟩ | ⟨g', cap', cur, e, -, -, hn, hm, -, -⟩
  · cases e
  · cases e
    have hc : ∀ j, j < 6 → w.cell? ⟨g, i * 6 + j, none⟩ = (uv u)[j]? := fun j hj => (h.cellAt (i * 6 + j) (by omega)).trans (uvs_get us i u hu j hj)
    exact ⟨g, cap, rfl, hn, hm, hlt, hc 0 (by omega), hc 1 (by omega), hc 2 (by omega), hc 3 (by omega), hc 4 (by omega), hc 5 (by omega)⟩
end Go.Proofs.YtgjbafamiggafaaGreatDoor
/- Package colour: sort.Search, the search that halves. -/
namespace Go.Proofs.YtgjbafamiggafaaGreatDoor
open Go.RowKit
open M
/-- The search that halves. -/
def srch (P : Nat → Bool) : Nat → Nat → Nat → Nat
  | 0, i, _ => i
  | k + 1, i, j => if i < j then (if P ((i + j) / 2) then srch P k i ((i + j) / 2) else srch P k ((i + j) / 2 + 1) j) else i
theorem srch_le (P : Nat → Bool) : ∀ (k i j : Nat), i ≤ j → i ≤ srch P k i j ∧ srch P k i j ≤ j
  | 0, i, j, h => ⟨Nat.le_refl _, h⟩
  | k + 1, i, j, h => by
    rw [srch]
    by_cases hij : i < j
    · rw [if_pos hij]
      by_cases hp : P ((i + j) / 2) = true
      · rw [if_pos hp]
        have := srch_le P k i ((i + j) / 2) (by omega)
        omega
      · rw [if_neg hp]
        have := srch_le P k ((i + j) / 2 + 1) j (by omega)
        omega
    · rw [if_neg hij]; omega
/-- Who is content with more comes no later. -/
theorem srch_mono {P Q : Nat → Bool} (h : ∀ i, Q i = true → P i = true) : ∀ (k i j : Nat), i ≤ j → srch P k i j ≤ srch Q k i j
  | 0, _, _, _ => Nat.le_refl _
  | k + 1, i, j, hle => by
    rw [srch, srch]
    by_cases hij : i < j
    · rw [if_pos hij, if_pos hij]
      by_cases hp : P ((i + j) / 2) = true
      · rw [if_pos hp]
        by_cases hq : Q ((i + j) / 2) = true
        · rw [if_pos hq]; exact srch_mono h k i _ (by omega)
        · rw [if_neg hq]
          have h1 := srch_le P k i ((i + j) / 2) (by omega)
          have h2 := srch_le Q k ((i + j) / 2 + 1) j (by omega)
          omega
      · rw [if_neg hp, if_neg (fun e => hp (h _ e))]
        exact srch_mono h k _ j (by omega)
    · rw [if_neg hij, if_neg hij]; exact Nat.le_refl _
theorem srch_same (P : Nat → Bool) : ∀ (k k' i j : Nat), j - i ≤ k → j - i ≤ k' → srch P k i j = srch P k' i j
  | 0, 0, _, _, _, _ => rfl
  | 0, k' + 1, i, j, h, _ => by rw [srch, srch, if_neg (by omega)]
  | k + 1, 0, i, j, _, h => by rw [srch, srch, if_neg (by omega)]
  | k + 1, k' + 1, i, j, h, h' => by
    rw [srch, srch]
    by_cases hij : i < j
    · rw [if_pos hij, if_pos hij, srch_same P k k' i _ (by omega) (by omega), srch_same P k k' _ j (by omega) (by omega)]
    · rw [if_neg hij, if_neg hij]
set_option maxRecDepth 100000 in
set_option maxHeartbeats 4000000 in
theorem search_any (n x y z : Nat) (P : Nat → Bool) (w : World) (hn : n ≤ 1073741824) (hf : ∀ (i : Nat) (W : World), i < n → Below w.heap.size w W → Calls Tryz.prog 123 #[.int .i64 i, .pointer (some ⟨x, 0, none⟩), .pointer (some ⟨y, 0, none⟩), .pointer (some ⟨z, 0, none⟩)] W fun e w' => e = .returned (.bool (P i)) ∧ Below W.heap.size W w') :
    Calls Tryz.prog 122 #[.int .i64 n, .func (.func 123) #[] #[.pointer (some ⟨x, 0, none⟩), .pointer (some ⟨y, 0, none⟩), .pointer (some ⟨z, 0, none⟩)]] w fun e w' => e = .returned (.int .i64 (srch P n 0 n : Nat)) ∧ Below w.heap.size w w' := by
  have HF := hide hf
  clear hf
  go_enter Tryz.func122, Tryz.ntmps122
  go_wp2_with fail
  go_loopw [5, 6] (fun a b wr => ∃ i j : Nat, a = .int .i64 i ∧ b = .int .i64 j ∧ i ≤ j ∧ j ≤ n ∧ Hid (∀ k, j - i ≤ k → srch P n 0 n = srch P k i j) ∧ Hid (Below w.heap.size w wr)) (fun a b _ => (intOf b).toNat - (intOf a).toNat)
  case atStart => exact ⟨0, n, rfl, rfl, Nat.zero_le _, Nat.le_refl _, fun k hk => srch_same P n k 0 n (by omega) hk, Below.refl _ w⟩
  case round =>
    obtain ⟨i, j, rfl, rfl, hij, hjn, HS, HB⟩ := hrel
    by_cases h : i < j
    · have h1 : (i : Int) < (j : Int) := by omega
      have h2 : (i : Int) + (j : Int) ≤ 9223372036854775807 := by omega
      have h3 : ((i : Int) + (j : Int)) / 2 = (((i + j) / 2 : Nat) : Int) := by omega
      have hC := (HF.out) ((i + j) / 2) wr (by omega) HB.out
      have hm1 : (i + j) / 2 < j := by omega
      have hm2 : i ≤ (i + j) / 2 := by omega
      have HS2 : Hid (∀ k, j - i ≤ k + 1 → srch P n 0 n = if P ((i + j) / 2) = true then srch P k i ((i + j) / 2) else srch P k ((i + j) / 2 + 1) j) := fun k hk => by
        rw [(HS.out) (k + 1) hk, srch, if_pos h]
      generalize (i + j) / 2 = m at *
      have HC := hide hC
      clear hC HS
      go_wp2_with fail
      refine (HC.out).mono ?_
      rintro e w2 ⟨rfl, B2⟩
      have HB2 : Hid (Below w.heap.size w w2) := (HB.out).trans (B2.mono (HB.out).size)
      clear HC B2 HB
      cases hp : P m with
      | true =>
        rw [hp] at HS2
        have HS3 : Hid (∀ k, m - i ≤ k → srch P n 0 n = srch P k i m) := fun k hk => by
          have := (HS2.out) (k + (j - i)) (by omega)
          rw [if_pos rfl] at this
          rw [this]
          exact srch_same P _ _ i m (by omega) hk
        clear HS2
        go_wp2_with fail
        exact ⟨⟨i, m, rfl, by simp, hm2, by omega, HS3, HB2⟩, by simp [intOf]; omega⟩
      | false =>
        rw [hp] at HS2
        have HS3 : Hid (∀ k, j - (m + 1) ≤ k → srch P n 0 n = srch P k (m + 1) j) := fun k hk => by
          have := (HS2.out) (k + (j - i)) (by omega)
          rw [if_neg (by simp)] at this
          rw [this]
          exact srch_same P _ _ (m + 1) j (by omega) hk
        clear HS2
        go_wp2_with fail
        exact ⟨⟨m + 1, j, by simp, rfl, by omega, hjn, HS3, HB2⟩, by simp [intOf]; omega⟩
    · obtain rfl : i = j := by omega
      have hd : ¬ (i : Int) < (i : Int) := by omega
      have HE : Hid (srch P n 0 n = i) := by
        have := (HS.out) 0 (by omega)
        rw [srch] at this
        exact this
      clear HS
      go_wp2_with fail
      go_ret
      exact ⟨by rw [HE.out]; rfl, HB.out⟩
end Go.Proofs.YtgjbafamiggafaaGreatDoor
/- Package scope: the names that begin in a piece of a file. -/
namespace Go.Proofs.YtgjbafamiggafaaGreatDoor
open Go.RowKit
open M
/-- Names in a slice. -/
def IsUs (w : World) (B : Nat) (ao : Option Addr) (us : List X.U) : Prop := ∀ (j : Nat) (u : X.U), us[j]? = some u → ∃ b o, ao = some ⟨b, o, none⟩ ∧ b < B ∧ w.cell? ⟨b, o + j * 6, none⟩ = some (.int .i64 u.f) ∧ w.cell? ⟨b, o + j * 6 + 1, none⟩ = some (.int .i64 u.i) ∧ w.cell? ⟨b, o + j * 6 + 2, none⟩ = some (.int .i64 u.s) ∧ w.cell? ⟨b, o + j * 6 + 3, none⟩ = some (.int .i64 u.tf) ∧ w.cell? ⟨b, o + j * 6 + 4, none⟩ = some (.int .i64 u.tt) ∧ w.cell? ⟨b, o + j * 6 + 5, none⟩ = some (.int .i64 u.e)
theorem kcB {w w' : World} {B : Nat} (h : Below B w w') {b o : Nat} (hb : b < B) {v : Value} (c : w.cell? ⟨b, o, none⟩ = some v) : w'.cell? ⟨b, o, none⟩ = some v := (h.cell (p := ⟨b, o, none⟩) hb).trans c
theorem IsUs.below {w w' : World} {B : Nat} {ao : Option Addr} {us : List X.U} (h : IsUs w B ao us) (hk : Below B w w') : IsUs w' B ao us := fun j u hj => by
  obtain ⟨b, o, e1, e2, c0, c1, c2, c3, c4, c5⟩ := h j u hj
  exact ⟨b, o, e1, e2, kcB hk e2 c0, kcB hk e2 c1, kcB hk e2 c2, kcB hk e2 c3, kcB hk e2 c4, kcB hk e2 c5⟩
/-- Does a name begin behind a place? -/
def past1 (us : List X.U) (f a : Int) (i : Nat) : Bool := match us[i]? with | some u => decide (f < (u.f : Int)) || (decide ((u.f : Int) = f) && decide (a < (u.i : Int))) | none => false
set_option maxRecDepth 100000 in
set_option maxHeartbeats 4000000 in
theorem upTo1_any (us : List X.U) (ao : Option Addr) (cap : Nat) (f a : Int) (i x y z : Nat) (w : World) (hi : i < us.length) (h : IsUs w w.heap.size ao us) (hx : w.cell? ⟨x, 0, none⟩ = some (.slice ao us.length cap)) (hy : w.cell? ⟨y, 0, none⟩ = some (.int .i64 f)) (hz : w.cell? ⟨z, 0, none⟩ = some (.int .i64 a)) :
    Calls Tryz.prog 123 #[.int .i64 i, .pointer (some ⟨x, 0, none⟩), .pointer (some ⟨y, 0, none⟩), .pointer (some ⟨z, 0, none⟩)] w fun e w' => e = .returned (.bool (past1 us f a i)) ∧ Below w.heap.size w w' := by
  obtain ⟨u, hu⟩ : ∃ u, us[i]? = some u := ⟨us[i], List.getElem?_eq_getElem hi⟩
  obtain ⟨b, o, rfl, hb, c0, c1, c2, c3, c4, c5⟩ := h i u hu
  have hi1 : (i : Int) < (us.length : Int) := by omega
  have hp : past1 us f a i = (decide (f < (u.f : Int)) || (decide ((u.f : Int) = f) && decide (a < (u.i : Int)))) := by unfold past1; rw [hu]
  rw [hp]
  have HB : Hid (Below w.heap.size w (w.alloc (.cells #[.int .i64 u.f, .int .i64 u.i, .int .i64 u.s, .int .i64 u.tf, .int .i64 u.tt, .int .i64 u.e] 31))) := (Below.refl _ w).alloc (Nat.le_refl _) _
  have hy' := Lib.cell?_alloc_some (.cells #[.int .i64 u.f, .int .i64 u.i, .int .i64 u.s, .int .i64 u.tf, .int .i64 u.tt, .int .i64 u.e] 31) hy
  have hz' := Lib.cell?_alloc_some (.cells #[.int .i64 u.f, .int .i64 u.i, .int .i64 u.s, .int .i64 u.tf, .int .i64 u.tt, .int .i64 u.e] 31) hz
  clear hp h hu
  by_cases h1 : f < (u.f : Int)
  · go_enter Tryz.func123, Tryz.ntmps123
    go_wp2_with fail
    go_ret
    exact ⟨by simp [h1], HB.out⟩
  · by_cases h2 : (u.f : Int) = f
    · subst h2
      go_enter Tryz.func123, Tryz.ntmps123
      go_wp2_with fail
      go_ret
      exact ⟨by simp, HB.out⟩
    · have q2 : ((u.f : Int) == f) = false := by simpa using h2
      go_enter Tryz.func123, Tryz.ntmps123
      go_wp2_with fail
      go_ret
      exact ⟨by simp [h1], HB.out⟩
/-- How many names begin up to a place. -/
def upN (us : List X.U) (f a : Int) : Nat := srch (past1 us f a) us.length 0 us.length
theorem upN_le (us : List X.U) (f a : Int) : upN us f a ≤ us.length := (srch_le _ _ 0 _ (Nat.zero_le _)).2
theorem upN_mono (us : List X.U) (f : Int) {a b : Int} (h : a ≤ b) : upN us f a ≤ upN us f b := srch_mono (fun i hi => by
  unfold past1 at hi ⊢
  cases hu : us[i]? with
  | none => rw [hu] at hi; cases hi
  | some u =>
    rw [hu] at hi
    simp at hi ⊢
    omega) _ 0 _ (Nat.zero_le _)
theorem IsUs.wide {w : World} {B B' : Nat} {ao : Option Addr} {us : List X.U} (h : IsUs w B ao us) (hb : B ≤ B') : IsUs w B' ao us := fun j u hj => by
  obtain ⟨b, o, e1, e2, e3⟩ := h j u hj
  exact ⟨b, o, e1, Nat.lt_of_lt_of_le e2 hb, e3⟩
set_option maxRecDepth 100000 in
set_option maxHeartbeats 4000000 in
theorem upTo_any (us : List X.U) (ao : Option Addr) (cap : Nat) (f a : Int) (w : World) (h : IsUs w w.heap.size ao us) (hl : us.length ≤ 1073741824) (hc : us.length ≤ cap) :
    Calls Tryz.prog 101 #[.slice ao us.length cap, .int .i64 f, .int .i64 a] w fun e w' => e = .returned (.slice ao (upN us f a) cap) ∧ Below w.heap.size w w' := by
  have kW : Below w.heap.size w (((w.alloc (.cells #[.slice ao us.length cap] 24)).alloc (.cells #[.int .i64 f] 3)).alloc (.cells #[.int .i64 a] 3)) := (((Below.refl _ w).alloc (Nat.le_refl _) _).alloc (by simp) _).alloc (by simp; omega) _
  have x0 : (((w.alloc (.cells #[.slice ao us.length cap] 24)).alloc (.cells #[.int .i64 f] 3)).alloc (.cells #[.int .i64 a] 3)).cell? ⟨w.heap.size, 0, none⟩ = some (.slice ao us.length cap) := Lib.cell?_alloc_some _ (Lib.cell?_alloc_some _ (cell_of_row _ _ 0 _ _ _ (heap_alloc_new w _)))
  have y0 : (((w.alloc (.cells #[.slice ao us.length cap] 24)).alloc (.cells #[.int .i64 f] 3)).alloc (.cells #[.int .i64 a] 3)).cell? ⟨w.heap.size + 1, 0, none⟩ = some (.int .i64 f) := Lib.cell?_alloc_some _ (by simp)
  have z0 : (((w.alloc (.cells #[.slice ao us.length cap] 24)).alloc (.cells #[.int .i64 f] 3)).alloc (.cells #[.int .i64 a] 3)).cell? ⟨w.heap.size + 2, 0, none⟩ = some (.int .i64 a) := by have := cell_of_row _ _ 0 _ _ _ (heap_alloc_new ((w.alloc (.cells #[.slice ao us.length cap] 24)).alloc (.cells #[.int .i64 f] 3)) (.cells #[.int .i64 a] 3)); simpa using this
  have hsz : (((w.alloc (.cells #[.slice ao us.length cap] 24)).alloc (.cells #[.int .i64 f] 3)).alloc (.cells #[.int .i64 a] 3)).heap.size = w.heap.size + 3 := by simp
  have hle := upN_le us f a
  have HC : Hid (Calls Tryz.prog 122 #[.int .i64 us.length, .func (.func 123) #[] #[.pointer (some ⟨w.heap.size, 0, none⟩), .pointer (some ⟨w.heap.size + 1, 0, none⟩), .pointer (some ⟨w.heap.size + 2, 0, none⟩)]] (((w.alloc (.cells #[.slice ao us.length cap] 24)).alloc (.cells #[.int .i64 f] 3)).alloc (.cells #[.int .i64 a] 3)).drew fun e w' => e = .returned (.int .i64 (upN us f a)) ∧ Below (((w.alloc (.cells #[.slice ao us.length cap] 24)).alloc (.cells #[.int .i64 f] 3)).alloc (.cells #[.int .i64 a] 3)).heap.size (((w.alloc (.cells #[.slice ao us.length cap] 24)).alloc (.cells #[.int .i64 f] 3)).alloc (.cells #[.int .i64 a] 3)).drew w') :=
    search_any us.length _ _ _ (past1 us f a) _ hl (fun i W' hi hb => upTo1_any us ao cap f a i _ _ _ W' hi ((h.below (kW.drew.trans (hb.mono (by show w.heap.size ≤ (((w.alloc (.cells #[.slice ao us.length cap] 24)).alloc (.cells #[.int .i64 f] 3)).alloc (.cells #[.int .i64 a] 3)).heap.size; omega)))).wide (by have := hb.size; have : (((w.alloc (.cells #[.slice ao us.length cap] 24)).alloc (.cells #[.int .i64 f] 3)).alloc (.cells #[.int .i64 a] 3)).drew.heap.size = w.heap.size + 3 := hsz; omega)) (kcb hb (by show _ < (((w.alloc (.cells #[.slice ao us.length cap] 24)).alloc (.cells #[.int .i64 f] 3)).alloc (.cells #[.int .i64 a] 3)).heap.size; omega) x0) (kcb hb (by show _ < (((w.alloc (.cells #[.slice ao us.length cap] 24)).alloc (.cells #[.int .i64 f] 3)).alloc (.cells #[.int .i64 a] 3)).heap.size; omega) y0) (kcb hb (by show _ < (((w.alloc (.cells #[.slice ao us.length cap] 24)).alloc (.cells #[.int .i64 f] 3)).alloc (.cells #[.int .i64 a] 3)).heap.size; omega) z0))
  have HKW := hide kW
  clear h kW y0 z0
  generalize hn : upN us f a = n at *
  clear hn
  go_enter Tryz.func101, Tryz.ntmps101
  go_wp2_with fail
  have hadd : w.heap.size + 1 + 1 = w.heap.size + 2 := rfl
  simp only [hadd]
  generalize (((w.alloc (.cells #[.slice ao us.length cap] 24)).alloc (.cells #[.int .i64 f] 3)).alloc (.cells #[.int .i64 a] 3)) = W at *
  refine wpTo_start (S := fun w' => w'.cell? ⟨w.heap.size, 0, none⟩ = some (.slice ao us.length cap)) (z := 6) (by kernel_rfl) ?_
  have hS : W.drew.cell? ⟨w.heap.size, 0, none⟩ = some (.slice ao us.length cap) := x0
  iterate 3 (refine wpTo_nx0 (v := ?_) rfl rfl (by kernel_rfl) (by kernel_rfl) (by kernel_rfl) (by kernel_rfl) (fun _ _ _ h => h) (Or.inl ⟨by rfl, ?_⟩) hS ?_; rotate_left; (· (intro wx hSw; (try dsimp only at hSw); go_simp; try (with_reducible rfl))); simp only [Act.put, List.setIfInBounds_toArray, List.set_cons_zero, List.set_cons_succ])
  refine wpTo_one (i := 3) (by kernel_rfl) rfl (fun K hK => ?_)
  go_simp
  refine hK.out _ _ (fun _ => hS) (fun _ => ?_)
  clear hK K
  refine wpTo_one (i := 4) (by kernel_rfl) rfl (fun K hK => ?_)
  go_simp
  refine (HC.out).mono ?_
  rintro e w2 ⟨rfl, B2⟩
  have HB2 : Hid (Below w.heap.size w w2) := ((HKW.out).drew).trans (B2.mono (HKW.out).size)
  have hS2 := kcB B2 (by omega) hS
  dsimp only
  refine hK.out _ _ (fun _ => hS2) (fun _ => ?_)
  clear hK K hS B2 HC
  have hS := hS2
  have hi1 : (n : Int) ≤ (cap : Int) := by omega
  have hi2 : n ≤ cap := by omega
  refine wpTo_one (i := 5) (by kernel_rfl) rfl (fun K hK => ?_)
  go_simp
  refine hK.out _ _ (fun _ => hS) (fun _ => ?_)
  clear hK K
  refine wpTo_one (i := 6) (by kernel_rfl) rfl (fun K hK => ?_)
  go_simp
  refine hK.out _ _ (fun h => absurd rfl h) (fun _ => wpTo_end (by kernel_rfl) ?_)
  clear hK K hS hS2
  go_wp2_with fail
  go_ret
  exact ⟨rfl, HB2.out⟩
end Go.Proofs.YtgjbafamiggafaaGreatDoor
/- Package scope: Within; package colour: nameAt. -/
namespace Go.Proofs.YtgjbafamiggafaaGreatDoor
open Go.RowKit
open M
theorem srch_true (P : Nat → Bool) : ∀ (k i j : Nat), j - i ≤ k → i ≤ j → srch P k i j < j → P (srch P k i j) = true
  | 0, i, j, h, hij, hr => by rw [srch] at hr; omega
  | k + 1, i, j, h, hij, hr => by
    rw [srch] at hr ⊢
    by_cases hlt : i < j
    · rw [if_pos hlt] at hr ⊢
      by_cases hp : P ((i + j) / 2) = true
      · rw [if_pos hp] at hr ⊢
        have hle := srch_le P k i ((i + j) / 2) (by omega)
        rcases Nat.lt_or_ge (srch P k i ((i + j) / 2)) ((i + j) / 2) with g | g
        · exact srch_true P k i _ (by omega) (by omega) g
        · have : srch P k i ((i + j) / 2) = (i + j) / 2 := by omega
          rw [this]; exact hp
      · rw [if_neg hp] at hr ⊢
        exact srch_true P k _ j (by omega) (by omega) hr
    · rw [if_neg hlt] at hr; omega
theorem srch_false (P : Nat → Bool) (N : Nat) (hm : ∀ a b, a ≤ b → b < N → P a = true → P b = true) : ∀ (k i j : Nat), j ≤ N → ∀ x, i ≤ x → x < srch P k i j → P x = false
  | 0, i, j, hj, x, h1, h2 => by rw [srch] at h2; omega
  | k + 1, i, j, hj, x, h1, h2 => by
    rw [srch] at h2
    by_cases hlt : i < j
    · rw [if_pos hlt] at h2
      by_cases hp : P ((i + j) / 2) = true
      · rw [if_pos hp] at h2
        exact srch_false P N hm k i _ (by omega) x h1 h2
      · rw [if_neg hp] at h2
        rcases Nat.lt_or_ge ((i + j) / 2) x with g | g
        · exact srch_false P N hm k _ j hj x (by omega) h2
        · cases hx : P x with
          | false => rfl
          | true => exact absurd (hm x _ g (by omega) hx) hp
    · rw [if_neg hlt] at h2; omega
theorem past1_mono {us : List X.U} (h : us.Pairwise X.Ahd) (f a : Int) : ∀ i j, i ≤ j → j < us.length → past1 us f a i = true → past1 us f a j = true := by
  intro i j hij hj hp
  rcases Nat.lt_or_ge i j with g | g
  · have hp2 := List.pairwise_iff_getElem.1 h i j (by omega) hj g
    unfold past1 at hp ⊢
    rw [List.getElem?_eq_getElem (show i < us.length by omega)] at hp
    rw [List.getElem?_eq_getElem hj]
    unfold X.Ahd at hp2
    simp at hp ⊢
    omega
  · have : i = j := by omega
    subst this
    exact hp
/-- The name at a place, where there is one. -/
theorem upN_at {us : List X.U} (h : us.Pairwise X.Ahd) {f a : Int} (hlt : upN us f (a - 1) < upN us f a) : ∃ u, us[upN us f (a - 1)]? = some u ∧ (u.f : Int) = f ∧ (u.i : Int) = a := by
  have hl := upN_le us f a
  have hil : upN us f (a - 1) < us.length := by omega
  refine ⟨us[upN us f (a - 1)], List.getElem?_eq_getElem hil, ?_⟩
  have h1 : past1 us f (a - 1) (upN us f (a - 1)) = true := srch_true _ _ 0 _ (by omega) (Nat.zero_le _) hil
  have h2 : past1 us f a (upN us f (a - 1)) = false := srch_false _ us.length (past1_mono h f a) _ 0 _ (Nat.le_refl _) _ (Nat.zero_le _) hlt
  generalize upN us f (a - 1) = r at *
  unfold past1 at h1 h2
  rw [List.getElem?_eq_getElem hil] at h1 h2
  simp at h1 h2
  omega
/-- What a search for a name gives: nothing, or the name. -/
def Got (us : List X.U) (f a : Int) (ao : Option Addr) (m : Nat) (w' : World) : Prop := m = 0 ∨ ∃ u b o, 0 < m ∧ u ∈ us ∧ (u.f : Int) = f ∧ (u.i : Int) = a ∧ ao = some ⟨b, o, none⟩ ∧ w'.cell? ⟨b, o, none⟩ = some (.int .i64 u.f) ∧ w'.cell? ⟨b, o + 1, none⟩ = some (.int .i64 u.i) ∧ w'.cell? ⟨b, o + 2, none⟩ = some (.int .i64 u.s) ∧ w'.cell? ⟨b, o + 3, none⟩ = some (.int .i64 u.tf) ∧ w'.cell? ⟨b, o + 4, none⟩ = some (.int .i64 u.tt) ∧ w'.cell? ⟨b, o + 5, none⟩ = some (.int .i64 u.e)
/-- What Within gives. -/
def WRes (us : List X.U) (f a : Int) (w : World) (e : Ending) (w' : World) : Prop := ∃ ao' m cap', e = .returned (.slice ao' m cap') ∧ Hid (Below w.heap.size w w' ∧ m ≤ us.length ∧ Got us f a ao' m w')
set_option maxRecDepth 100000 in
set_option maxHeartbeats 4000000 in
theorem within_any (us : List X.U) (ao : Option Addr) (cap : Nat) (f a : Int) (w : World) (h : IsUs w w.heap.size ao us) (hs : us.Pairwise X.Ahd) (hl : us.length ≤ 1073741824) (hc : us.length ≤ cap) (ha : 0 ≤ a) (ha2 : a ≤ 4294967296) :
    Calls Tryz.prog 80 #[.slice ao us.length cap, .int .i64 f, .int .i64 a, .int .i64 (a + 1)] w fun e w' => WRes us f a w e w' := by
  have q1 : -9223372036854775808 ≤ a - 1 := by omega
  have q2 : a - 1 ≤ 9223372036854775807 := by omega
  have HC1 := hide (upTo_any us ao cap f (a - 1) w h hl hc)
  have HC2 : Hid (∀ W, Below w.heap.size w W → Calls Tryz.prog 101 #[.slice ao us.length cap, .int .i64 f, .int .i64 a] W fun e w' => e = .returned (.slice ao (upN us f a) cap) ∧ Below W.heap.size W w') := fun W hW => upTo_any us ao cap f a W ((h.below hW).wide hW.size) hl hc
  have hle := upN_mono us f (show a - 1 ≤ a by omega)
  have hle2 := upN_le us f a
  have HG : Hid (∀ w', Below w.heap.size w w' → Got us f a (Option.map (fun x => x.add (upN us f (a - 1) * 6)) ao) (upN us f a - upN us f (a - 1)) w') := fun w' hb => by
    rcases Nat.lt_or_ge (upN us f (a - 1)) (upN us f a) with g | g
    · obtain ⟨u, hu, h1, h2⟩ := upN_at hs g
      obtain ⟨b, o, rfl, -, c0, c1, c2, c3, c4, c5⟩ := (h.below hb) _ u hu
      refine .inr ⟨u, b, o + upN us f (a - 1) * 6, by omega, List.mem_of_getElem? hu, h1, h2, ?_, c0, c1, c2, c3, c4, c5⟩
      rw [Option.map_some, Addr.add_lit]
    · exact .inl (by omega)
  clear h hs
  generalize upN us f (a - 1) = n1 at *
  generalize upN us f a = n2 at *
  go_enter Tryz.func80, Tryz.ntmps80
  go_wp2_with fail
  refine (HC1.out).mono ?_
  rintro e w1 ⟨rfl, B1⟩
  have HC3 := hide ((HC2.out) w1 B1)
  have HB1 := hide B1
  clear HC1 HC2 B1
  have q3 : (a + 1 - 1) = a := by omega
  go_wp2_with fail
  refine (HC3.out).mono ?_
  rintro e w2 ⟨rfl, B2⟩
  have HF : Hid (Below w.heap.size w w2) := (HB1.out).trans (B2.mono (HB1.out).size)
  have hi1 : (n1 : Int) ≤ (n2 : Int) := by omega
  have hi2 : (n2 : Int) ≤ (cap : Int) := by omega
  clear HC3 B2 HB1
  go_wp2_with fail
  · go_ret
    exact ⟨_, _, _, rfl, HF.out, by omega, .inl (by omega)⟩
  · go_ret
    exact ⟨_, _, _, rfl, HF.out, by omega, (HG.out) w2 HF.out⟩
theorem set6_own {W : World} {b : Nat} {x0 x1 x2 x3 x4 x5 y0 y1 y2 y3 y4 y5 : Value} {t : TypeId} (h : W.heap[b]? = some (.cells #[y0, y1, y2, y3, y4, y5] t (0, 0))) : ((((((W.setCell ⟨b, 0, none⟩ x0).setCell ⟨b, 1, none⟩ x1).setCell ⟨b, 2, none⟩ x2).setCell ⟨b, 3, none⟩ x3).setCell ⟨b, 4, none⟩ x4).setCell ⟨b, 5, none⟩ x5).heap[b]? = some (.cells #[x0, x1, x2, x3, x4, x5] t (0, 0)) := by
  simp [World.setCell, Array.getElem?_modify, h]
theorem kset6 {S : Nat → Prop} {w W : World} (hk : Kp S w W) {b : Nat} (hb : w.heap.size ≤ b) (x0 x1 x2 x3 x4 x5 : Value) : Kp S w ((((((W.setCell ⟨b, 0, none⟩ x0).setCell ⟨b, 1, none⟩ x1).setCell ⟨b, 2, none⟩ x2).setCell ⟨b, 3, none⟩ x3).setCell ⟨b, 4, none⟩ x4).setCell ⟨b, 5, none⟩ x5) :=
  Kp.setCell (p := ⟨b, 5, none⟩) (Kp.setCell (p := ⟨b, 4, none⟩) (kset4 hk hb x0 x1 x2 x3) (fun h => absurd h (by simpa using hb)) _) (fun h => absurd h (by simpa using hb)) _
/-- What nameAt gives. -/
def NRes (us : List X.U) (f a : Int) (w : World) (e : Ending) (w' : World) : Prop := ∃ (u : X.U) (ok : Bool), e = .returned (.tuple #[.agg #[.int .i64 u.f, .int .i64 u.i, .int .i64 u.s, .int .i64 u.tf, .int .i64 u.tt, .int .i64 u.e], .bool ok]) ∧ Hid (Below w.heap.size w w' ∧ (ok = true → u ∈ us ∧ (u.f : Int) = f ∧ (u.i : Int) = a) ∧ (ok = false → u = ⟨0, 0, 0, 0, 0, 0⟩))
theorem res_use {fn : Func} {t t2 : Tmp} (h : fn.results = #[.cell t 31, .tmp t2]) (tmps : Array Value) (W : World) {b : Nat} {u : X.U} {ok : Bool} (ht : tmps[t]?.getD undef = .pointer (some ⟨b, 0, none⟩)) (ht2 : tmps[t2]?.getD undef = .bool ok) (hb : W.heap[b]? = some (.cells #[.int .i64 u.f, .int .i64 u.i, .int .i64 u.s, .int .i64 u.tf, .int .i64 u.tt, .int .i64 u.e] 31 (0, 0))) :
    (results fn tmps).run Tryz.prog W = .ok (.tuple #[.agg #[.int .i64 u.f, .int .i64 u.i, .int .i64 u.s, .int .i64 u.tf, .int .i64 u.tt, .int .i64 u.e], .bool ok]) W := by
  have m0 := cell_of_row W _ 0 _ _ _ hb
  have m1 := cell_of_row W _ 1 _ _ _ hb
  have m2 := cell_of_row W _ 2 _ _ _ hb
  have m3 := cell_of_row W _ 3 _ _ _ hb
  have m4 := cell_of_row W _ 4 _ _ _ hb
  have m5 := cell_of_row W _ 5 _ _ _ hb
  simp [results, h, go_sem, ht, ht2, m0, m1, m2, m3, m4, m5]
set_option maxRecDepth 100000 in
set_option maxHeartbeats 4000000 in
theorem nameAt_any (us : List X.U) (ao : Option Addr) (cap : Nat) (f a : Int) (w : World) (h : IsUs w w.heap.size ao us) (hs : us.Pairwise X.Ahd) (hl : us.length ≤ 1073741824) (hc : us.length ≤ cap) (ha : 0 ≤ a) (ha2 : a ≤ 4294967296) :
    Calls Tryz.prog 48 #[.slice ao us.length cap, .int .i64 f, .int .i64 a] w fun e w' => NRes us f a w e w' := by
  have q1 : a + 1 ≤ 9223372036854775807 := by omega
  have q2 : -9223372036854775808 ≤ a + 1 := by omega
  have kA : Below w.heap.size w (w.alloc (.cells #[.int .i64 0, .int .i64 0, .int .i64 0, .int .i64 0, .int .i64 0, .int .i64 0] 31)) := (Below.refl _ w).alloc (Nat.le_refl _) _
  have HC := hide (within_any us ao cap f a _ ((h.below kA).wide kA.size) hs hl hc ha ha2)
  have hZ := heap_alloc_new w (.cells #[.int .i64 0, .int .i64 0, .int .i64 0, .int .i64 0, .int .i64 0, .int .i64 0] 31)
  have hsz : (w.alloc (.cells #[.int .i64 0, .int .i64 0, .int .i64 0, .int .i64 0, .int .i64 0, .int .i64 0] 31)).heap.size = w.heap.size + 1 := by simp
  have HZ := hide hZ
  have HK := hide kA
  clear h hs kA hZ
  go_enter Tryz.func48, Tryz.ntmps48
  go_wp2_with fail
  generalize w.alloc (.cells #[.int .i64 0, .int .i64 0, .int .i64 0, .int .i64 0, .int .i64 0, .int .i64 0] 31) = W at *
  refine (HC.out).mono ?_
  rintro e w2 ⟨ao', m, cap', rfl, X2⟩
  obtain ⟨B2, hm, hg⟩ := X2.out
  have hZ2 := (Kp.ofBelow B2 (fun _ => False)).heap HZ.out id
  have kB : Kp (fun _ => False) w w2 := (Kp.ofBelow HK.out (fun _ => False)).trans (Kp.ofBelow B2 (fun _ => False)) (fun _ _ => id)
  have HKB := hide kB
  have z0 := cell_of_row w2 _ 0 _ _ _ hZ2
  have z1 := cell_of_row w2 _ 1 _ _ _ hZ2
  have z2 := cell_of_row w2 _ 2 _ _ _ hZ2
  have z3 := cell_of_row w2 _ 3 _ _ _ hZ2
  have z4 := cell_of_row w2 _ 4 _ _ _ hZ2
  have z5 := cell_of_row w2 _ 5 _ _ _ hZ2
  have y0 := frozen_of_row w2 _ 0 _ _ hZ2
  have y1 := frozen_of_row w2 _ 1 _ _ hZ2
  have y2 := frozen_of_row w2 _ 2 _ _ hZ2
  have y3 := frozen_of_row w2 _ 3 _ _ hZ2
  have y4 := frozen_of_row w2 _ 4 _ _ hZ2
  have y5 := frozen_of_row w2 _ 5 _ _ hZ2
  have HZ2 := hide hZ2
  clear HC X2 HZ kB hZ2 B2
  rcases hg with rfl | ⟨u, b, o, hm1, hu, e1, e2, rfl, c0, c1, c2, c3, c4, c5⟩
  · go_wp2_with fail
    exact bodyPost_ret (res_use (u := ⟨0, 0, 0, 0, 0, 0⟩) rfl _ _ (b := w.heap.size) rfl rfl (set6_own HZ2.out)) rfl ⟨_, _, rfl, (kset6 HKB.out (Nat.le_refl _) _ _ _ _ _ _).below (Nat.le_refl _) (fun _ => False.elim), fun h => (by cases h), fun _ => rfl⟩
  · have E1 := hide e1
    have E2 := hide e2
    clear e1 e2
    have hm2 : ((m : Int) == 0) = false := by simp; omega
    have hm3 : (0 : Int) < (m : Int) := by omega
    go_wp2_with fail
    exact bodyPost_ret (res_use (u := u) rfl _ _ (b := w.heap.size) rfl rfl (set6_own HZ2.out)) rfl ⟨_, _, rfl, (kset6 HKB.out (Nat.le_refl _) _ _ _ _ _ _).below (Nat.le_refl _) (fun _ => False.elim), fun _ => ⟨hu, E1.out, E2.out⟩, fun h => (by cases h)⟩
end Go.Proofs.YtgjbafamiggafaaGreatDoor
/- Package colour: what a name is. -/
namespace Go.Proofs.YtgjbafamiggafaaGreatDoor
open Go.RowKit
open M
/-- The two tables of package colour. -/
structure Tk (w : World) : Prop where
  tok : ∀ i, i < 9 → ∃ n : Int, w.cell? ⟨0, i, none⟩ = some (.int .i64 n)
  t3 : w.cell? ⟨0, 3, none⟩ = some (.int .i64 13)
  nam : ∀ i, i < 6 → ∃ n : Int, w.cell? ⟨1, i, none⟩ = some (.int .i64 n)
  sz : 2 ≤ w.heap.size
theorem Tk.below {w w' : World} {B : Nat} (h : Tk w) (hk : Below B w w') (hB : 2 ≤ B) : Tk w' :=
  ⟨fun i hi => by obtain ⟨n, hn⟩ := h.tok i hi; exact ⟨n, kcB hk (by omega) hn⟩, kcB hk (by omega) h.t3, fun i hi => by obtain ⟨n, hn⟩ := h.nam i hi; exact ⟨n, kcB hk (by omega) hn⟩, by have := hk.size; have := h.sz; omega⟩
/-- What is known of all names. -/
structure Nms (us : List X.U) : Prop where
  srt : us.Pairwise X.Ahd
  len : us.length ≤ 1073741824
  kind : ∀ u ∈ us, u.s ≤ 6
  std : ∀ u ∈ us, 0 ≤ u.tt → u.tt ≤ 4294967296 ∧ ∀ v ∈ us, (v.f : Int) = u.tf → (v.i : Int) = u.tt → v.s ≤ 2
set_option maxRecDepth 100000 in
set_option maxHeartbeats 4000000 in
theorem isLost_any (u : X.U) (w : World) : Calls Tryz.prog 81 #[.agg #[.int .i64 u.f, .int .i64 u.i, .int .i64 u.s, .int .i64 u.tf, .int .i64 u.tt, .int .i64 u.e]] w fun e w' => e = .returned (.bool (decide ((u.s = 6 ∨ u.s = 5) ∧ u.tt < 0))) ∧ Below w.heap.size w w' := by
  have HB : Hid (Below w.heap.size w (w.alloc (.cells #[.int .i64 u.f, .int .i64 u.i, .int .i64 u.s, .int .i64 u.tf, .int .i64 u.tt, .int .i64 u.e] 31))) := (Below.refl _ w).alloc (Nat.le_refl _) _
  by_cases h6 : u.s = 6
  · have q6 : ((u.s : Int) == 6) = true := by simp [h6]
    have H6 := hide h6
    clear h6
    go_enter Tryz.func81, Tryz.ntmps81
    go_wp2_with fail
    go_ret
    exact ⟨by simp [H6.out], HB.out⟩
  · have q6 : ((u.s : Int) == 6) = false := by simp; omega
    by_cases h5 : u.s = 5
    · have q5 : ((u.s : Int) == 5) = true := by simp [h5]
      have H5 := hide h5
      clear h5
      go_enter Tryz.func81, Tryz.ntmps81
      go_wp2_with fail
      go_ret
      exact ⟨by simp [H5.out], HB.out⟩
    · have q5 : ((u.s : Int) == 5) = false := by simp; omega
      go_enter Tryz.func81, Tryz.ntmps81
      go_wp2_with fail
      go_ret
      exact ⟨by simp [h5, h6], HB.out⟩
/-- A number, and nothing below is turned. -/
def Num (w : World) (e : Ending) (w' : World) : Prop := ∃ n : Int, e = .returned (.int .i64 n) ∧ Below w.heap.size w w'
set_option maxRecDepth 100000 in
set_option maxHeartbeats 4000000 in
theorem nameKind_any (us : List X.U) (ao : Option Addr) (cap : Nat) (u : X.U) (w : World) (hu : u ∈ us) (hK : Tk w) (h : IsUs w w.heap.size ao us) (hN : Nms us) (hc : us.length ≤ cap) :
    Calls Tryz.prog 49 #[.slice ao us.length cap, .agg #[.int .i64 u.f, .int .i64 u.i, .int .i64 u.s, .int .i64 u.tf, .int .i64 u.tt, .int .i64 u.e]] w fun e w' => Num w e w' := by
  have kA : Below w.heap.size w (w.alloc (.cells #[.int .i64 u.f, .int .i64 u.i, .int .i64 u.s, .int .i64 u.tf, .int .i64 u.tt, .int .i64 u.e] 31)) := (Below.refl _ w).alloc (Nat.le_refl _) _
  have hA := heap_alloc_new w (.cells #[.int .i64 u.f, .int .i64 u.i, .int .i64 u.s, .int .i64 u.tf, .int .i64 u.tt, .int .i64 u.e] 31)
  have hsz : (w.alloc (.cells #[.int .i64 u.f, .int .i64 u.i, .int .i64 u.s, .int .i64 u.tf, .int .i64 u.tt, .int .i64 u.e] 31)).heap.size = w.heap.size + 1 := by simp
  by_cases he : u.e = 0
  · have HL := hide (isLost_any u (w.alloc (.cells #[.int .i64 u.f, .int .i64 u.i, .int .i64 u.s, .int .i64 u.tf, .int .i64 u.tt, .int .i64 u.e] 31)))
    have qe : ((u.e : Int) != 0) = false := by simp [he]
    clear he
    by_cases hlost : (u.s = 6 ∨ u.s = 5) ∧ u.tt < 0
    · rw [decide_eq_true hlost] at HL
      have HK := hide kA
      clear hA kA h hN hK hlost
      go_enter Tryz.func49, Tryz.ntmps49
      go_wp2_with fail
      refine (HL.out).mono ?_
      rintro e w2 ⟨rfl, B2⟩
      have HF : Hid (Below w.heap.size w w2) := (HK.out).trans (B2.mono (HK.out).size)
      clear HL B2
      go_wp2_with fail
      go_ret
      exact ⟨_, rfl, HF.out⟩
    · rw [decide_eq_false hlost] at HL
      by_cases h6 : u.s = 6
      · have htt : 0 ≤ u.tt := by
          rcases Int.lt_or_le u.tt 0 with g | g
          · exact absurd ⟨.inl h6, g⟩ hlost
          · exact g
        obtain ⟨hst1, hst2⟩ := hN.std u hu htt
        have HNA : Hid (∀ W, Below w.heap.size w W → Calls Tryz.prog 48 #[.slice ao us.length cap, .int .i64 u.tf, .int .i64 u.tt] W fun e w' => NRes us u.tf u.tt W e w') := fun W hW => nameAt_any us ao cap u.tf u.tt W ((h.below hW).wide hW.size) hN.srt hN.len hc htt hst1
        have HKD := hide hN.kind
        have HST := hide hst2
        have HTk := hide hK
        have HA := hide hA
        have HK := hide kA
        have q6 : ((u.s : Int) == 6) = true := by simp [h6]
        clear hA kA h hN hK hst2 h6 htt hlost
        go_enter Tryz.func49, Tryz.ntmps49
        go_wp2_with fail
        refine (HL.out).mono ?_
        rintro e w2 ⟨rfl, B2⟩
        have hb2 : Below w.heap.size w w2 := (HK.out).trans (B2.mono (HK.out).size)
        have hA2 := (Kp.ofBelow B2 (fun _ => False)).heap HA.out id
        have hl2 := heap_lt hA2
        have c2 : w2.cell? ⟨w.heap.size, 2, none⟩ = some (.int .i64 u.s) := cell_of_row w2 _ 2 _ _ _ hA2
        have c3 : w2.cell? ⟨w.heap.size, 3, none⟩ = some (.int .i64 u.tf) := cell_of_row w2 _ 3 _ _ _ hA2
        have c4 : w2.cell? ⟨w.heap.size, 4, none⟩ = some (.int .i64 u.tt) := cell_of_row w2 _ 4 _ _ _ hA2
        have HC := hide ((HNA.out) w2 hb2)
        have HA2 := hide hA2
        have HB2 := hide hb2
        clear HL B2 HNA hA2 hb2 HA
        go_wp2_with fail
        refine (HC.out).mono ?_
        rintro e w3 ⟨v, ok, rfl, X3⟩
        obtain ⟨B3, x1, x2⟩ := X3.out
        have hv : v.s ≤ 5 := by
          cases ok with
          | true =>
            obtain ⟨y1, y2, y3⟩ := x1 rfl
            have := (HST.out) v y1 y2 y3
            omega
          | false => rw [x2 rfl]; show 0 ≤ 5; omega
        have hA3 := (Kp.ofBelow B3 (fun _ => False)).heap HA2.out id
        have hb3 : Below w.heap.size w w3 := (HB2.out).trans (B3.mono (HB2.out).size)
        have k4 : Kp (fun q => q = w.heap.size) w3 ((((((w3.setCell ⟨w.heap.size, 0, none⟩ (.int .i64 v.f)).setCell ⟨w.heap.size, 1, none⟩ (.int .i64 v.i)).setCell ⟨w.heap.size, 2, none⟩ (.int .i64 v.s)).setCell ⟨w.heap.size, 3, none⟩ (.int .i64 v.tf)).setCell ⟨w.heap.size, 4, none⟩ (.int .i64 v.tt)).setCell ⟨w.heap.size, 5, none⟩ (.int .i64 v.e)) := On.set (On.set (On.set (On.set (On.set (On.set (Kp.refl _ w3) 0 _) 1 _) 2 _) 3 _) 4 _) 5 _
        have hb4 := hb3.trans (k4.below hb3.size (fun q e => by omega))
        obtain ⟨n, hn⟩ := ((HTk.out).below hb4 (HTk.out).sz).nam v.s (by omega)
        have d2 := cell_of_row _ _ 2 _ _ _ (set6_own (x0 := .int .i64 v.f) (x1 := .int .i64 v.i) (x2 := .int .i64 v.s) (x3 := .int .i64 v.tf) (x4 := .int .i64 v.tt) (x5 := .int .i64 v.e) hA3)
        have c30 := cell_of_row w3 _ 0 _ _ _ hA3
        have c31 := cell_of_row w3 _ 1 _ _ _ hA3
        have c32 := cell_of_row w3 _ 2 _ _ _ hA3
        have c33 := cell_of_row w3 _ 3 _ _ _ hA3
        have c34 := cell_of_row w3 _ 4 _ _ _ hA3
        have c35 := cell_of_row w3 _ 5 _ _ _ hA3
        have y0 := frozen_of_row w3 _ 0 _ _ hA3
        have y1 := frozen_of_row w3 _ 1 _ _ hA3
        have y2 := frozen_of_row w3 _ 2 _ _ hA3
        have y3 := frozen_of_row w3 _ 3 _ _ hA3
        have y4 := frozen_of_row w3 _ 4 _ _ hA3
        have y5 := frozen_of_row w3 _ 5 _ _ hA3
        have HF := hide hb4
        have hv2 : (v.s : Int) < 6 := by omega
        have HD := hide d2
        have HN := hide hn
        clear HC X3 B3 x1 x2 hA3 hb3 k4 hb4 HST HKD HTk c2 c3 c4 d2 hn
        go_upto_region 5 with fail
        have d2 := HD.out
        have hn := HN.out
        clear c30 c31 c32 c33 c34 c35 y0 y1 y2 y3 y4 y5 HD HN
        generalize ((((((w3.setCell ⟨w.heap.size, 0, none⟩ (.int .i64 v.f)).setCell ⟨w.heap.size, 1, none⟩ (.int .i64 v.i)).setCell ⟨w.heap.size, 2, none⟩ (.int .i64 v.s)).setCell ⟨w.heap.size, 3, none⟩ (.int .i64 v.tf)).setCell ⟨w.heap.size, 4, none⟩ (.int .i64 v.tt)).setCell ⟨w.heap.size, 5, none⟩ (.int .i64 v.e)) = W4 at *
        have d2' : W4.cell? ⟨w.heap.size, 2, none⟩ = some (.int .i64 v.s) := d2
        clear d2
        go_wp2_with fail
        go_ret
        exact ⟨_, rfl, HF.out⟩
      · have hs5 : u.s ≤ 5 := by have := hN.kind u hu; omega
        have q6 : ((u.s : Int) == 6) = false := by simp; omega
        have hv2 : (u.s : Int) < 6 := by omega
        have HTk := hide hK
        have HA := hide hA
        have HK := hide kA
        clear hA kA h hN hK h6 hlost
        go_enter Tryz.func49, Tryz.ntmps49
        go_wp2_with fail
        refine (HL.out).mono ?_
        rintro e w2 ⟨rfl, B2⟩
        have hb2 : Below w.heap.size w w2 := (HK.out).trans (B2.mono (HK.out).size)
        have hA2 := (Kp.ofBelow B2 (fun _ => False)).heap HA.out id
        have c2 : w2.cell? ⟨w.heap.size, 2, none⟩ = some (.int .i64 u.s) := cell_of_row w2 _ 2 _ _ _ hA2
        obtain ⟨n, hn⟩ := ((HTk.out).below hb2 (HTk.out).sz).nam u.s (by omega)
        have HF := hide hb2
        clear HL B2 hA2 hb2 HA HTk
        go_wp2_with fail
        go_ret
        exact ⟨_, rfl, HF.out⟩
  · have qe : ((u.e : Int) != 0) = true := by simp; omega
    have HF := hide kA
    clear hA kA h hN hK he
    go_enter Tryz.func49, Tryz.ntmps49
    go_wp2_with fail
    go_ret
    exact ⟨_, rfl, HF.out⟩
end Go.Proofs.YtgjbafamiggafaaGreatDoor
