/- The program's reader of messages: one kid of a list. -/
import Derived.Test.YthdbnafiindgbaaGreatDoorWow
import Derived.Test.YthdbnafiindgbaaGreatDoorWzw
import Derived.Deep.AppendLies
namespace Go.Proofs.YthdbnafiindgbaaGreatDoor
open Go.RowKit
open Wi

theorem z678 {z : Nat} (h : (z == 6 || z == 7 || z == 8) = true) : z = 6 ∨ z = 7 ∨ z = 8 := by
  simp only [Bool.or_eq_true, beq_iff_eq] at h
  omega
set_option maxRecDepth 100000 in
set_option maxHeartbeats 4000000 in
theorem olist1_bad (d : Nat) (hV : VC d) (w0 : World) (sb K P : Nat) (s : ByteArray) (w : World) (kids : List J) (l : List UInt8) (hs : s.size ≤ 1073741824) (hl : Sfx s l) (h : LS w0 sb K P (fun _ => False) s (40 - (d : Int)) w kids l) (e n : Nat) (hv : val d l = .bad e n) :
    Calls Tryz.prog 46 #[.pointer (some ⟨K, 0, none⟩), .pointer (some ⟨P, 0, none⟩)] w fun en w' => OkP (LS w0 sb K P (fun _ => False) s (40 - (d : Int))) (Ow sb w0) s (stpL d kids l) en w' := by
  have HE : Hid (stpL d kids l = .bad e n) := by show _ = _; unfold stpL; rw [hv]
  obtain ⟨rv, eK, hk⟩ := h.row
  obtain ⟨x1, x2, x3, rfl⟩ : ∃ x y z, rv = .slice x y z := (hk.isX).rows.2
  have cK : w.cell? ⟨K, 0, none⟩ = some (.slice x1 x2 x3) := by simp [World.cell?, eK]
  have cP : w.cell? ⟨P, 0, none⟩ = some (.pointer (some ⟨sb, 0, none⟩)) := by simp [World.cell?, h.pc]
  have HC : Hid (∀ W, Below w.heap.size w W → Calls Tryz.prog 15 #[.pointer (some ⟨sb, 0, none⟩)] W fun en w' => en = flt (s.size - n : Nat) e ∧ Ow sb w0 w') := by
    intro W hW
    refine (hV sb s l W hs hl (h.src.below hW) (h.es.below hW) h.ne).mono ?_
    intro en w' h2
    unfold OkV at h2
    rw [hv] at h2
    exact ⟨h2.2, h.ow.to ((Ow.ofBelow sb hW).to h2.1)⟩
  clear hv eK hk h hV
  go_enter Tryz.func46, Tryz.ntmps46
  refine wpZ_start (S := fun w' => w'.cell? ⟨K, 0, none⟩ = some (.slice x1 x2 x3) ∧ w'.cell? ⟨P, 0, none⟩ = some (.pointer (some ⟨sb, 0, none⟩))) (Z := fun j => j == 6 || j == 7 || j == 8) (by kernel_rfl) ?_
  have hS : w.drew.cell? ⟨K, 0, none⟩ = some (.slice x1 x2 x3) ∧ w.drew.cell? ⟨P, 0, none⟩ = some (.pointer (some ⟨sb, 0, none⟩)) := ⟨cK, cP⟩
  have HW : Hid (Below w.heap.size w w.drew) := (Below.refl _ w).drew
  clear cK cP
  generalize w.drew = w1 at *
  refine wpZ_take (i := 0) (dn := 2) (v := ?_) rfl rfl (by kernel_rfl) (fun z hz => by rcases z678 hz with rfl | rfl | rfl <;> kernel_rfl) (by kernel_rfl) (by kernel_rfl) (fun _ _ _ h => h) (Or.inl ⟨by rfl, ?_⟩) hS ?_
  rotate_left
  · (intro wx hSw; (try dsimp only at hSw); obtain ⟨hSw1, hSw2⟩ := hSw; go_simp; try (with_reducible rfl))
  simp only [Act.put, List.setIfInBounds_toArray, List.set_cons_zero, List.set_cons_succ]
  refine wpZ_take (i := 1) (dn := 3) (v := ?_) rfl rfl (by kernel_rfl) (fun z hz => by rcases z678 hz with rfl | rfl | rfl <;> kernel_rfl) (by kernel_rfl) (by kernel_rfl) (fun _ _ _ h => h) (Or.inl ⟨by rfl, ?_⟩) hS ?_
  rotate_left
  · (intro wx hSw; (try dsimp only at hSw); obtain ⟨hSw1, hSw2⟩ := hSw; go_simp; try (with_reducible rfl))
  simp only [Act.put, List.setIfInBounds_toArray, List.set_cons_zero, List.set_cons_succ]
  refine wpZ_take (i := 3) (dn := 5) (v := ?_) rfl rfl (by kernel_rfl) (fun z hz => by rcases z678 hz with rfl | rfl | rfl <;> kernel_rfl) (by kernel_rfl) (by kernel_rfl) (fun _ _ _ h => h) (Or.inl ⟨by rfl, ?_⟩) hS ?_
  rotate_left
  · (intro wx hSw; (try dsimp only at hSw); obtain ⟨hSw1, hSw2⟩ := hSw; go_simp; try (with_reducible rfl))
  simp only [Act.put, List.setIfInBounds_toArray, List.set_cons_zero, List.set_cons_succ]
  refine wpZ_two (i := 2) (k := 4) (by kernel_rfl) rfl rfl (fun K' hK' => ?_) (fun K' hK' => ?_)
  · go_simp
    refine ((HC.out) w1 HW.out).mono ?_
    rintro en w2 ⟨rfl, k2⟩
    refine ⟨rfl, ?_⟩
    unfold OkP
    rw [HE.out]
    exact ⟨rfl, k2⟩
  · go_simp
    have hS2 : (w1.alloc (.cells #[.int .i64 0, .int .i64 0, .string ⟨#[]⟩, .slice none 0 0, .slice none 0 0] 25)).cell? ⟨K, 0, none⟩ = some (.slice x1 x2 x3) ∧ (w1.alloc (.cells #[.int .i64 0, .int .i64 0, .string ⟨#[]⟩, .slice none 0 0, .slice none 0 0] 25)).cell? ⟨P, 0, none⟩ = some (.pointer (some ⟨sb, 0, none⟩)) := by
      have q := Kp.ofBelow ((Below.refl _ w1).alloc (Nat.le_refl _) (.cells #[.int .i64 0, .int .i64 0, .string ⟨#[]⟩, .slice none 0 0, .slice none 0 0] 25)) (fun _ => False)
      exact ⟨q.cellv hS.1 id, q.cellv hS.2 id⟩
    have HW2 : Hid (Below w.heap.size w (w1.alloc (.cells #[.int .i64 0, .int .i64 0, .string ⟨#[]⟩, .slice none 0 0, .slice none 0 0] 25))) := (HW.out).alloc (HW.out).size _
    refine hK'.out _ _ (fun _ => hS2) (fun _ => ?_)
    clear hK' K'
    refine wpZ_one (i := 2) (by kernel_rfl) rfl (fun K' hK' => ?_)
    go_simp
    refine ((HC.out) _ HW2.out).mono ?_
    rintro en w2 ⟨rfl, k2⟩
    refine ⟨rfl, ?_⟩
    unfold OkP
    rw [HE.out]
    exact ⟨rfl, k2⟩
end Go.Proofs.YthdbnafiindgbaaGreatDoor
/- The program's reader of messages: a kid is put behind the others. -/
namespace Go.Proofs.YthdbnafiindgbaaGreatDoor
open Go.RowKit
open Wi

theorem row_set {w : World} {B : Nat} {e : TypeId} {size g n cap : Nat} {xs : List Value} (h : w.ownsRow B e size (.slice (some ⟨g, 0, none⟩) n cap) n xs) (i : Nat) (u : Value) : (w.setCell ⟨g, i, none⟩ u).ownsRow B e size (.slice (some ⟨g, 0, none⟩) n cap) n (xs.set i u) := by
  refine ⟨by rw [List.length_set]; exact h.1, ?_⟩
  rcases h.2 with ⟨e, -⟩ | ⟨g', cap', cur, e1, hb, hg, hn, hm, hs, ht⟩
  · cases e
  · injection e1 with e2 e3 e4
    injection e2 with e2
    injection e2 with e5 e6
    subst e5 e4
    refine .inr ⟨g, cap, cur.setIfInBounds i u, rfl, hb, set_blkB hg i u, hn, hm, by simpa using hs, ?_⟩
    rw [Array.toList_setIfInBounds, List.take_set, ht]
/-- Five cells are put into a row whose last element is another one. -/
theorem row_five {w : World} {B : Nat} {e : TypeId} {g n cap : Nat} {xs : List Value} {a b c d f : Value} (o : Nat) (ho : o = xs.length) (h : w.ownsRow B e 5 (.slice (some ⟨g, 0, none⟩) n cap) n (xs ++ [a, b, c, d, f])) (p q r s t : Value) :
    (((((w.setCell ⟨g, o, none⟩ p).setCell ⟨g, o + 1, none⟩ q).setCell ⟨g, o + 2, none⟩ r).setCell ⟨g, o + 3, none⟩ s).setCell ⟨g, o + 4, none⟩ t).ownsRow B e 5 (.slice (some ⟨g, 0, none⟩) n cap) n (xs ++ [p, q, r, s, t]) := by
  have := row_set (row_set (row_set (row_set (row_set h o p) (o + 1) q) (o + 2) r) (o + 3) s) (o + 4) t
  subst ho
  have e : (((((xs ++ [a, b, c, d, f]).set xs.length p).set (xs.length + 1) q).set (xs.length + 2) r).set (xs.length + 3) s).set (xs.length + 4) t = xs ++ [p, q, r, s, t] := by
    simp
  rwa [e] at this
/-- A kid is put behind the others: what is left to show of the list. -/
theorem LS.put {w0 : World} {sb K P : Nat} {X : Nat → Prop} {s : ByteArray} {dd : Int} {w : World} {kids : List J} {l t : List UInt8} (h : LS w0 sb K P X s dd w kids l) (hX : ∀ q, X q → q < w.heap.size) {rv : Value} {vl : List Five} (eK : w.heap[K]? = some (.cells #[rv] 23 (0, 0)))
    (ho : w.ownsRow w0.heap.size 25 5 rv kids.length (vl.flatMap fiveL)) (hl : vl.length = kids.length) (hk : ∀ (i : Nat) (j : J), kids[i]? = some j → ∃ f, vl[i]? = some f ∧ IsX w (fun q => w0.heap.size ≤ q ∧ q ≠ K ∧ q ≠ P ∧ rv.ownBlock ≠ some q ∧ ¬ X q) (fiveV f) j)
    {w3 w5 w6 : World} {f : Five} {j : J} {g cap : Nat} {xs : List Value} (k3 : Ow sb w w3) (hx : IsX w3 (fun q => w.heap.size ≤ q) (fiveV f) j) (hr : RawS w3 sb s (pos s t) dd)
    (hown : w5.ownsRow w0.heap.size 25 5 (.slice (some ⟨g, 0, none⟩) (kids.length + 1) cap) (kids.length + 1) xs) (hgrow : w3.grownBy w5 rv.ownBlock) (hat : rv.ownBlock = some g ∨ g = w3.heap.size)
    (k6 : Kp (fun q => q = g ∨ q = K) w5 w6) (e6 : w6.heap[K]? = some (.cells #[.slice (some ⟨g, 0, none⟩) (kids.length + 1) cap] 23 (0, 0)))
    (o6 : w6.ownsRow w0.heap.size 25 5 (.slice (some ⟨g, 0, none⟩) (kids.length + 1) cap) (kids.length + 1) (vl.flatMap fiveL ++ fiveL f)) : LS w0 sb K P X s dd w6 (kids ++ [j]) t := by
  have a1 := h.hK
  have a2 := h.hP
  have a3 := h.sl
  have a4 := h.el
  have a5 := h.KP
  have hKl : K < w.heap.size := heap_lt eK
  have hPl : P < w.heap.size := heap_lt h.pc
  have hkd : Kd w0 w K P X rv kids := ⟨vl, ho, hl, hk⟩
  have hrK := LS.rvK eK hkd
  have hrP : rv.ownBlock ≠ some P := fun he => by
    obtain ⟨-, c, hc⟩ := own_tyB ho he
    exact absurd (cells_tyB hc h.pc) (by decide)
  have hrg : ∀ q, rv.ownBlock = some q → w0.heap.size ≤ q ∧ q < w.heap.size := fun q hq => owns_geW ho q hq
  have hs3 := k3.size
  have hgg : w0.heap.size ≤ g := (owns_geW hown g rfl).1
  have hgK : g ≠ K := fun e => hat.elim (fun h1 => hrK (by rw [h1, e])) (fun h1 => by omega)
  have hgP : g ≠ P := fun e => hat.elim (fun h1 => hrP (by rw [h1, e])) (fun h1 => by omega)
  have k35 : Kp (fun q => rv.ownBlock = some q) w3 w5 := Kp.grown (Kp.refl _ w3) hgrow (fun k hk _ => hk)
  have n1 : ¬ rv.ownBlock = some sb := fun e => by have := (hrg _ e).1; omega
  have n2 : ¬ (sb = g ∨ sb = K) := fun e => by rcases e with e | e <;> omega
  have n3 : ¬ rv.ownBlock = some 1 := fun e => by have := (hrg _ e).1; omega
  have n4 : ¬ (1 = g ∨ 1 = K) := fun e => by rcases e with e | e <;> omega
  refine ⟨(hr.keep k35 n1).keep k6 n2, ((h.es.ow k3 h.ne).keep k35 n3).keep k6 n4, h.ne, ?_, ⟨_, e6, vl ++ [f], ?_, by simp [hl], ?_⟩, a1, a2, a5, a3, a4, ?_⟩
  · exact k6.heap (k35.heap (k3.heap h.pc (fun e => by omega)) hrP) (fun e => e.elim (fun e => hgP e.symm) (fun e => a5 e.symm))
  · have : (vl ++ [f]).flatMap fiveL = vl.flatMap fiveL ++ fiveL f := by simp
    rw [this, List.length_append]
    exact o6
  · intro i x hi
    rcases Nat.lt_trichotomy i kids.length with hlt | heq | hgt
    · rw [List.getElem?_append_left hlt] at hi
      obtain ⟨f0, e0, hx0⟩ := hk i x hi
      refine ⟨f0, by rw [List.getElem?_append_left (by omega)]; exact e0, ?_⟩
      have h1 : IsX w (fun q => w0.heap.size ≤ q ∧ q ≠ K ∧ q ≠ P ∧ rv.ownBlock ≠ some q ∧ q < w.heap.size ∧ ¬ X q) (fiveV f0) x := hx0.mono (fun q hq hlt => ⟨hq.1, hq.2.1, hq.2.2.1, hq.2.2.2.1, hlt, hq.2.2.2.2⟩)
      have hqg : ∀ q, rv.ownBlock ≠ some q → q < w.heap.size → q ≠ g := fun q h1 h2 e => hat.elim (fun h3 => h1 (by rw [h3, e])) (fun h3 => by omega)
      refine (((h1.keep k3 (fun q hq e => by have : q = sb := e; omega)).keep k35 (fun q hq => hq.2.2.2.1)).keep k6 (fun q hq e => e.elim (fun e => hqg q hq.2.2.2.1 hq.2.2.2.2.1 e) (fun e => hq.2.1 e))).mono (fun q hq _ => ⟨hq.1, hq.2.1, hq.2.2.1, fun e => hqg q hq.2.2.2.1 hq.2.2.2.2.1 ?_, hq.2.2.2.2.2⟩)
      have : some g = some q := e
      injection this with this
      exact this.symm
    · subst heq
      rw [List.getElem?_append_right (Nat.le_refl _), Nat.sub_self] at hi
      obtain rfl : j = x := by simpa using hi
      refine ⟨f, by rw [← hl, List.getElem?_append_right (Nat.le_refl _), Nat.sub_self]; rfl, ?_⟩
      have h1 : IsX w3 (fun q => w.heap.size ≤ q ∧ q < w3.heap.size) (fiveV f) j := hx.mono (fun q hq hlt => ⟨hq, hlt⟩)
      have hqg : ∀ q, w.heap.size ≤ q → q < w3.heap.size → q ≠ g := fun q h1 h2 e => hat.elim (fun h3 => by have := (hrg _ h3).2; omega) (fun h3 => by omega)
      have h0 := h.ow.size
      refine ((h1.keep k35 (fun q hq e => by have := (hrg _ e).2; omega)).keep k6 (fun q hq e => e.elim (fun e => hqg q hq.1 hq.2 e) (fun e => by omega))).mono (fun q hq _ => ⟨by omega, by omega, by omega, fun e => hqg q hq.1 hq.2 ?_, fun hx => by have := hX q hx; omega⟩)
      have : some g = some q := e
      injection this with this
      exact this.symm
    · rw [List.getElem?_eq_none (by simp; omega)] at hi; cases hi
  · refine Kp.trans (Kp.grown (h.ow.to k3) hgrow (fun k hk hlt => ?_)) k6 (fun i hi e => ?_)
    · have := (hrg _ hk).1; omega
    · rcases e with e | e <;> omega
theorem Kp.five (w : World) (g o : Nat) (p q r s t : Value) : Kp (fun x => x = g) w (((((w.setCell ⟨g, o, none⟩ p).setCell ⟨g, o + 1, none⟩ q).setCell ⟨g, o + 2, none⟩ r).setCell ⟨g, o + 3, none⟩ s).setCell ⟨g, o + 4, none⟩ t) :=
  Kp.setCell (S := fun x => x = g) (Kp.setCell (S := fun x => x = g) (Kp.setCell (S := fun x => x = g) (Kp.setCell (S := fun x => x = g) (Kp.setCell (S := fun x => x = g) (Kp.refl _ w) (fun _ => rfl) _) (fun _ => rfl) _) (fun _ => rfl) _) (fun _ => rfl) _) (fun _ => rfl) _
theorem own_blk {w : World} {B : Nat} {e : TypeId} {size g n cap : Nat} {xs : List Value} (h : w.ownsRow B e size (.slice (some ⟨g, 0, none⟩) n cap) n xs) : ∃ cur, w.heap[g]? = some (.cells cur e (0, 0)) ∧ n * size ≤ cur.size := by
  rcases h.2 with ⟨e, -⟩ | ⟨g', cap', cur, e1, hb, hg, hn, hm, hs, ht⟩
  · cases e
  · injection e1 with e2 e3 e4
    injection e2 with e2
    injection e2 with e5 e6
    subst e5 e4
    exact ⟨cur, hg, by rw [hs]; exact Nat.mul_le_mul_right _ hn⟩
theorem IsX.shape5 {w : World} {A : Nat → Prop} {v : Value} {j : J} (h : IsX w A v j) : ∃ (k n : Int) (t : ByteArray) (a : Option Addr) (b c : Nat) (a' : Option Addr) (b' c' : Nat), v = fiveV (.int .i64 k, .int .i64 n, .string t, .slice a b c, .slice a' b' c') := by
  cases h with
  | mk k n t ks kids ao bo cap bcap f hc hd hk hr hp => exact ⟨_, _, _, _, _, _, _, _, _, rfl⟩
/-- The cells of the last element of a row. -/
theorem own_last {w : World} {B : Nat} {e : TypeId} {g n cap : Nat} {xs : List Value} {a b c d f : Value} (o : Nat) (ho : xs.length = o) (h : w.ownsRow B e 5 (.slice (some ⟨g, 0, none⟩) n cap) n (xs ++ [a, b, c, d, f])) :
    (w.cell? ⟨g, o, none⟩ = some a ∧ w.cell? ⟨g, o + 1, none⟩ = some b ∧ w.cell? ⟨g, o + 2, none⟩ = some c ∧ w.cell? ⟨g, o + 3, none⟩ = some d ∧ w.cell? ⟨g, o + 4, none⟩ = some f) ∧ ∀ i, w.frozen? ⟨g, i, none⟩ = false := by
  obtain ⟨cur, hcur, -⟩ := own_blk h
  have hc : ∀ (k : Nat) (x : Value), (xs ++ [a, b, c, d, f])[k]? = some x → w.cell? ⟨g, k, none⟩ = some x := fun k x hx => by
    have := h.cells (g := g) rfl k x hx
    rwa [Addr.add_lit, Nat.zero_add] at this
  subst ho
  refine ⟨⟨hc _ _ ?_, hc _ _ ?_, hc _ _ ?_, hc _ _ ?_, hc _ _ ?_⟩, fun i => by simp [World.frozen?, hcur]⟩ <;> simp
theorem infoJs : (Tryz.prog.info? 25).map (fun i => (i.zero, i.size, i.bytes)) = some (some (.agg #[.int .i64 0, .int .i64 0, .string ⟨#[]⟩, .slice none 0 0, .slice none 0 0]), 5, 80) := by kernel_rfl
end Go.Proofs.YthdbnafiindgbaaGreatDoor
