/- The program's reader of messages: a map. -/
import Derived.Test.YthdbnafiindgbaaGreatDoorWpe
namespace Go.Proofs.YthdbnafiindgbaaGreatDoor
open Go.RowKit
open Wi

theorem heap5 (w : World) (a b c d e : Obj) : (((((w.alloc a).alloc b).alloc c).alloc d).alloc e).heap[w.heap.size]? = some a ∧ (((((w.alloc a).alloc b).alloc c).alloc d).alloc e).heap[w.heap.size + 1]? = some b ∧ (((((w.alloc a).alloc b).alloc c).alloc d).alloc e).heap[w.heap.size + 2]? = some c ∧ (((((w.alloc a).alloc b).alloc c).alloc d).alloc e).heap[w.heap.size + 3]? = some d ∧ (((((w.alloc a).alloc b).alloc c).alloc d).alloc e).heap[w.heap.size + 4]? = some e := by
  refine ⟨?_, ?_, ?_, ?_, ?_⟩
  · rw [Below.heap_alloc _ _ _ (by simp; omega), Below.heap_alloc _ _ _ (by simp; omega), Below.heap_alloc _ _ _ (by simp; omega), Below.heap_alloc _ _ _ (by simp)]; exact heap_alloc_new w _
  · rw [Below.heap_alloc _ _ _ (by simp), Below.heap_alloc _ _ _ (by simp), Below.heap_alloc _ _ _ (by simp)]
    have := heap_alloc_new (w.alloc a) b
    simpa using this
  · rw [Below.heap_alloc _ _ _ (by simp), Below.heap_alloc _ _ _ (by simp)]
    have := heap_alloc_new ((w.alloc a).alloc b) c
    simpa using this
  · rw [Below.heap_alloc _ _ _ (by simp)]
    have := heap_alloc_new (((w.alloc a).alloc b).alloc c) d
    simpa using this
  · have := heap_alloc_new ((((w.alloc a).alloc b).alloc c).alloc d) e
    simpa using this
theorem setCell_id {w : World} {b : Nat} {v : Value} {T : TypeId} (h : w.heap[b]? = some (.cells #[v] T (0, 0))) : w.setCell ⟨b, 0, none⟩ v = w := by
  have e : (w.setCell ⟨b, 0, none⟩ v).heap = w.heap := by
    apply Array.ext_getElem?
    intro i
    by_cases hi : i = b
    · subst hi
      rw [set_blkB h 0 v, h]
      simp
    · exact Below.heap_setCell _ _ _ _ hi
  cases w
  simp only [World.setCell] at e ⊢
  rw [e]
theorem IsX.kidsOf {w : World} {A : Nat → Prop} {v1 v2 v3 v4 rv : Value} {k n : Int} {t : List UInt8} {ks : List (List UInt8)} {kids : List J} (h : IsX w A (.agg #[v1, v2, v3, v4, rv]) (.mk k n t ks kids)) : ∃ (bo : Option Addr) (bcap : Nat) (f : Nat → Five), rv = .slice bo kids.length bcap ∧ (kids.length ≤ bcap ∧ bcap ≤ maxLen) ∧
    (∀ i, i < kids.length → ∃ g, bo = some ⟨g, 0, none⟩ ∧ A g ∧ w.cell? ⟨g, i * 5, none⟩ = some (f i).1 ∧ w.cell? ⟨g, i * 5 + 1, none⟩ = some (f i).2.1 ∧ w.cell? ⟨g, i * 5 + 2, none⟩ = some (f i).2.2.1 ∧ w.cell? ⟨g, i * 5 + 3, none⟩ = some (f i).2.2.2.1 ∧ w.cell? ⟨g, i * 5 + 4, none⟩ = some (f i).2.2.2.2) ∧
    ∀ (i : Nat) (j : J), kids[i]? = some j → IsX w A (fiveV (f i)) j := by
  cases h with
  | mk _ _ _ _ _ ao bo cap bcap f hc hd hk hr hp => exact ⟨bo, bcap, f, rfl, hd, hr, hp⟩
/-- A map whose keys and kids lie in rows. -/
theorem PS.isX {w0 w : World} {K P : Nat} {X : Nat → Prop} {rv kv : Value} {ks : List (List UInt8)} {kids : List J} (hr : w.ownsRow w0.heap.size 9 1 kv ks.length (strv ks)) (h : Kd w0 w K P X rv kids) : IsX w (fun q => w0.heap.size ≤ q) (.agg #[.int .i64 5, .int .i64 0, .string (ba []), kv, rv]) (.mk 5 0 [] ks kids) := by
  have hx := h.isX
  obtain ⟨ao, cap, rfl, hcap, hcm, hao⟩ : ∃ ao cap, kv = .slice ao ks.length cap ∧ ks.length ≤ cap ∧ cap ≤ maxLen ∧ (0 < ks.length → ∃ g, ao = some ⟨g, 0, none⟩) := by
    rcases hr.2 with ⟨e, h0⟩ | ⟨g, cap, cur, e, hb, hg, hn, hm, hs, ht⟩
    · exact ⟨none, 0, by rw [e, h0], by omega, Nat.zero_le _, fun h => by omega⟩
    · exact ⟨_, cap, e, hn, hm, fun _ => ⟨g, rfl⟩⟩
  obtain ⟨bo, bcap, f, rfl, hd, hr', hp⟩ := hx.kidsOf
  refine .mk 5 0 [] ks kids ao bo cap bcap f ⟨hcap, hcm⟩ hd (fun i x hx => ?_) hr' hp
  have hi : i < ks.length := by
    rcases Nat.lt_or_ge i ks.length with h | h
    · exact h
    · rw [List.getElem?_eq_none h] at hx; cases hx
  obtain ⟨g, rfl⟩ := hao (by omega)
  refine ⟨g, rfl, (owns_geW hr g rfl).1, ?_⟩
  have := hr.cells (g := g) rfl i (.string (ba x)) (by simp [strv, hx])
  rwa [Addr.add_lit, Nat.zero_add] at this
/-- A map that is read, with how many kids it may have. -/
def PSb (w0 : World) (sb KK K P M mb : Nat) (s : ByteArray) (dd : Int) (w : World) (x : KJ) (l : List UInt8) : Prop := PS w0 sb KK K P M mb s dd w x l ∧ x.2.length + l.length ≤ s.size ∧ x.1.length + l.length ≤ s.size
theorem opairs1_any (d : Nat) (hV : VC d) (w0 : World) (sb KK K P M mb : Nat) (s : ByteArray) (hs : s.size ≤ 1073741824) (w : World) (x : KJ) (l : List UInt8) (hl : Sfx s l) (h : PSb w0 sb KK K P M mb s (40 - (d : Int)) w x l) :
    Calls Tryz.prog 47 #[.pointer (some ⟨KK, 0, none⟩), .pointer (some ⟨P, 0, none⟩), .pointer (some ⟨M, 0, none⟩), .pointer (some ⟨K, 0, none⟩)] w fun en w' => OkP (PSb w0 sb KK K P M mb s (40 - (d : Int))) (Ow sb w0) s (stpP d x l) en w' := by
  obtain ⟨ks, kids⟩ := x
  have key : Calls Tryz.prog 47 #[.pointer (some ⟨KK, 0, none⟩), .pointer (some ⟨P, 0, none⟩), .pointer (some ⟨M, 0, none⟩), .pointer (some ⟨K, 0, none⟩)] w fun en w' => OkP (PS w0 sb KK K P M mb s (40 - (d : Int))) (Ow sb w0) s (stpP d (ks, kids) l) en w' := by
    cases hk : keyR ks l with
    | bad e n => exact opairs1_key d w0 sb KK K P M mb s w ks kids l hs hl h.2.2 h.1 e n hk
    | ok k r => exact opairs1_ok d hV w0 sb KK K P M mb s w ks kids l hs hl h.2.1 h.2.2 h.1 k r hk
  refine key.mono (fun en w' h2 => ?_)
  unfold OkP at h2 ⊢
  cases hst : stpP d (ks, kids) l with
  | bad e n => rw [hst] at h2; exact h2
  | ok x' l' =>
    rw [hst] at h2
    obtain ⟨a1, a2, a3⟩ := stpP_len hst
    have b1 := h.2.1
    have b2 := h.2.2
    simp only at a2 a3 b1 b2
    exact ⟨h2.1, h2.2, by omega, by omega⟩
set_option maxRecDepth 100000 in
set_option maxHeartbeats 4000000 in
theorem opairs_any (d : Nat) (hd : d + 1 ≤ 40) (hV : VC d) : PC (d + 1) := by
  intro sb s c t w hs hl h hE hne
  have hdd : 40 - ((d + 1 : Nat) : Int) + 1 = 40 - (d : Int) := by omega
  have hd0 : 0 ≤ 40 - ((d + 1 : Nat) : Int) := by omega
  have hd1 : 40 - ((d + 1 : Nat) : Int) < 40 := by omega
  have HM : Hid (brkR (d + 1) true t = Res.to (fun y => .mk 5 0 [] y.1 y.2) (partsR (stpP d) 125 ([], []) t)) := many_partsP d t
  have hP1 := fun (w0 : World) (sb KK K P M mb : Nat) => opairs1_any d hV w0 sb KK K P M mb s hs
  rw [← hdd] at hP1
  generalize 40 - ((d + 1 : Nat) : Int) = dd at *
  have hmf : ∀ (fn : Fn) (first cap : Array Value) (w : World), (Instr.makeFunc fn first cap).run Tryz.prog w = .ok (.func fn first cap) w := fun _ _ _ _ => rfl
  have HPT := hide (oparts_pairs sb s dd 125 125 (.pointer (some ⟨w.heap.size + 1, 0, none⟩)) (.pointer (some ⟨w.heap.size, 0, none⟩)) (.pointer (some ⟨w.heap.size + 4, 0, none⟩)) (.pointer (some ⟨w.heap.size + 2, 0, none⟩)) (stpP d) (PSb w sb (w.heap.size + 1) (w.heap.size + 2) w.heap.size (w.heap.size + 4) (w.heap.size + 3) s) (Ow sb w) hs rfl (by decide) hd0 hd1
    (fun _ _ _ _ h => by obtain ⟨kv, -, h⟩ := h.1; exact h.src) (fun _ _ _ _ h d' w' l' hsf k r => ⟨h.1.on d' w' l' k r, by have := hsf.length_le; have := h.2.1; omega, by have := hsf.length_le; have := h.2.2; omega⟩) (fun _ _ _ _ h => by obtain ⟨kv, -, h⟩ := h.1; exact h.ow) (fun _ _ h k => h.to k)
    (fun w1 x l hsf h1 => hP1 w sb _ _ _ _ _ w1 x l hsf h1)
    (fun x l x' l' e => ⟨(stpP_len e).1, stpP_sfx e⟩) (fun x l => stpP_blank d x l) ([], []) c t)
  have hal1 := (Below.refl _ w).alloc (Nat.le_refl _) (.cells #[.pointer (some ⟨sb, 0, none⟩)] 50)
  have hal2 := hal1.alloc (by simp) (.cells #[.slice none 0 0] 22)
  have hal3 := hal2.alloc (by simp; omega) (.cells #[.slice none 0 0] 23)
  have hal4 := hal3.alloc (by simp; omega) (.map #[] 0)
  have hal5 := hal4.alloc (by simp; omega) (.cells #[.map (some (w.heap.size + 3))] 93)
  have hms := Ms.made (((w.alloc (.cells #[.pointer (some ⟨sb, 0, none⟩)] 50)).alloc (.cells #[.slice none 0 0] 22)).alloc (.cells #[.slice none 0 0] 23))
  obtain ⟨e0, e1, e2, e3, e4⟩ := heap5 w (.cells #[.pointer (some ⟨sb, 0, none⟩)] 50) (.cells #[.slice none 0 0] 22) (.cells #[.slice none 0 0] 23) (.map #[] 0) (.cells #[.map (some (w.heap.size + 3))] 93)
  have hmm : ∀ W : World, (Instr.makeMap 93 none).run Tryz.prog W = .ok (.map (some W.heap.size)) (W.alloc (.map #[] 0)) := fun W => by kernel_rfl
  have HLS : Hid (PSb w sb (w.heap.size + 1) (w.heap.size + 2) w.heap.size (w.heap.size + 4) (w.heap.size + 3) s dd (((((w.alloc (.cells #[.pointer (some ⟨sb, 0, none⟩)] 50)).alloc (.cells #[.slice none 0 0] 22)).alloc (.cells #[.slice none 0 0] 23)).alloc (.map #[] 0)).alloc (.cells #[.map (some (w.heap.size + 3))] 93)) ([], []) (c :: t)) := by
    refine ⟨⟨.slice none 0 0, ⟨e1, ⟨rfl, .inl ⟨rfl, rfl⟩⟩, e4, ?_, by omega, by omega, by omega⟩, ⟨h.below hal5, hE.below hal5, hne, e0, ⟨.slice none 0 0, e2, [], ⟨rfl, .inl ⟨rfl, rfl⟩⟩, rfl, fun i j hj => by simp at hj⟩, by omega, by omega, by omega, h.lt, hE.lt, Ow.ofBelow sb hal5⟩⟩, by have := hl.le; simpa using this, by have := hl.le; simpa using this⟩
    have h4 := hms.below ((Below.refl _ _).alloc (Nat.le_refl _) (.cells #[.map (some (w.heap.size + 3))] 93))
    have e : (((w.alloc (.cells #[.pointer (some ⟨sb, 0, none⟩)] 50)).alloc (.cells #[.slice none 0 0] 22)).alloc (.cells #[.slice none 0 0] 23)).heap.size = w.heap.size + 3 := by simp
    rwa [e] at h4
  have HC := hide ((HPT.out) _ hl HLS.out)
  have hpcell : (((((w.alloc (.cells #[.pointer (some ⟨sb, 0, none⟩)] 50)).alloc (.cells #[.slice none 0 0] 22)).alloc (.cells #[.slice none 0 0] 23)).alloc (.map #[] 0)).alloc (.cells #[.map (some (w.heap.size + 3))] 93)).cell? ⟨w.heap.size, 0, none⟩ = some (.pointer (some ⟨sb, 0, none⟩)) := by simp [World.cell?, e0]
  clear HPT hP1 h hE hne hal1 hal2 hal3 hal4 hal5 hl hdd hd0 hd1 hms e0 e1 e2 e3 e4 hV
  go_enter Tryz.func29, Tryz.ntmps29
  go_wp2_with fail
  refine (HC.out).mono ?_
  clear HC HLS hpcell
  cases hp : partsR (stpP d) 125 ([], []) t with
  | bad e n =>
    rw [hp] at HM
    rintro en w3 ⟨rfl, k3⟩
    have HF : Hid (OkPs w sb s dd (brkR (d + 1) true t) (flt (s.size - n : Nat) e) w3) := by
      show OkPs _ _ _ _ _ _ _
      rw [HM.out]
      exact ⟨k3, rfl⟩
    clear HM hp k3
    go_wp2_with fail
    exact ⟨rfl, HF.out⟩
  | ok x r =>
    rw [hp] at HM
    rintro en w3 ⟨rfl, ⟨kv, h1, h3⟩, -⟩
    obtain ⟨rv, e3, hk3⟩ := h3.row
    have e1 := h1.kc
    have HF : Hid (OkPs w sb s dd (brkR (d + 1) true t) (.returned (.tuple #[kv, rv])) w3.drew) := by
      show OkPs _ _ _ _ _ _ _
      rw [HM.out]
      have bd : Below w3.heap.size w3 w3.drew := (Below.refl _ w3).drew
      exact ⟨h3.ow.to (Ow.ofBelow sb bd), kv, rv, rfl, (PS.isX h1.kr hk3).keep (Kp.ofBelow bd (fun _ => False)) (fun _ _ => id), h3.src.below bd⟩
    have HX1 : Hid (w3.drew.heap[w.heap.size + 1]? = some (.cells #[kv] 22 (0, 0))) := e1
    have HX2 : Hid (w3.drew.heap[w.heap.size + 1 + 1]? = some (.cells #[rv] 23 (0, 0))) := e3
    obtain ⟨p1, p2, p3, rfl⟩ : ∃ x y z, rv = .slice x y z := (hk3.isX).rows.2
    obtain ⟨q1, q2, q3, rfl⟩ : ∃ x y z, kv = .slice x y z := by
      rcases h1.kr.2 with ⟨e, -⟩ | ⟨g, cap, cur, e, -⟩ <;> exact ⟨_, _, _, e⟩
    clear HM hp h3 h1 e1 e3 hk3
    go_wp2_with fail
    refine wpZ_start (S := fun w' => w'.cell? ⟨w.heap.size + 1, 0, none⟩ = some (.slice q1 q2 q3) ∧ w'.cell? ⟨w.heap.size + 1 + 1, 0, none⟩ = some (.slice p1 p2 p3)) (Z := fun _ => false) (by kernel_rfl) ?_
    generalize w3.drew = w4 at *
    generalize hn1 : w.heap.size + 1 = n1 at *
    have c1 : w4.cell? ⟨n1, 0, none⟩ = some (.slice q1 q2 q3) := by simp [World.cell?, HX1.out]
    have c2 : w4.cell? ⟨n1 + 1, 0, none⟩ = some (.slice p1 p2 p3) := by simp [World.cell?, HX2.out]
    have f1 : w4.frozen? ⟨n1, 0, none⟩ = false := by simp [World.frozen?, HX1.out]
    have f2 : w4.frozen? ⟨n1 + 1, 0, none⟩ = false := by simp [World.frozen?, HX2.out]
    have s1 := setCell_id HX1.out
    have s2 := setCell_id HX2.out
    have hS : w4.cell? ⟨n1, 0, none⟩ = some (.slice q1 q2 q3) ∧ w4.cell? ⟨n1 + 1, 0, none⟩ = some (.slice p1 p2 p3) := ⟨c1, c2⟩
    refine wpZ_take (i := 0) (dn := 9) (v := ?_) rfl rfl (by kernel_rfl) (fun z hz => by cases hz) (by kernel_rfl) (by kernel_rfl) (fun _ _ _ h => h) (Or.inl ⟨by rfl, ?_⟩) hS ?_
    rotate_left
    · (intro wx hSw; (try dsimp only at hSw); obtain ⟨hSw1, hSw2⟩ := hSw; go_simp; try (with_reducible rfl))
    simp only [Act.put, List.setIfInBounds_toArray, List.set_cons_zero, List.set_cons_succ]
    refine wpZ_take (i := 1) (dn := 10) (v := ?_) rfl rfl (by kernel_rfl) (fun z hz => by cases hz) (by kernel_rfl) (by kernel_rfl) (fun _ _ _ h => h) (Or.inl ⟨by rfl, ?_⟩) hS ?_
    rotate_left
    · (intro wx hSw; (try dsimp only at hSw); obtain ⟨hSw1, hSw2⟩ := hSw; go_simp; try (with_reducible rfl))
    simp only [Act.put, List.setIfInBounds_toArray, List.set_cons_zero, List.set_cons_succ]
    refine wpZ_one (i := 2) (by kernel_rfl) rfl (fun K' hK' => ?_)
    go_simp
    refine hK'.out _ _ (fun _ => hS) (fun _ => ?_)
    clear hK' K'
    refine wpZ_one (i := 3) (by kernel_rfl) rfl (fun K' hK' => ?_)
    go_simp
    refine hK'.out _ _ (fun _ => hS) (fun _ => wpZ_end (by kernel_rfl) ?_)
    clear hK' K'
    go_wp2_with fail
    exact bodyPost_ret (by simp [results, Tryz.results29, go_sem, c1, c2]) rfl HF.out
set_option maxRecDepth 100000 in
set_option maxHeartbeats 4000000 in
theorem opairs_full : PC 0 := by
  intro sb s c t w hs hl h hE hne
  have hmf : ∀ (fn : Fn) (first cap : Array Value) (w : World), (Instr.makeFunc fn first cap).run Tryz.prog w = .ok (.func fn first cap) w := fun _ _ _ _ => rfl
  have hmm : ∀ W : World, (Instr.makeMap 93 none).run Tryz.prog W = .ok (.map (some W.heap.size)) (W.alloc (.map #[] 0)) := fun W => by kernel_rfl
  have hal1 := (Below.refl _ w).alloc (Nat.le_refl _) (.cells #[.pointer (some ⟨sb, 0, none⟩)] 50)
  have hal2 := hal1.alloc (by simp) (.cells #[.slice none 0 0] 22)
  have hal3 := hal2.alloc (by simp; omega) (.cells #[.slice none 0 0] 23)
  have hal4 := hal3.alloc (by simp; omega) (.map #[] 0)
  have hal5 := hal4.alloc (by simp; omega) (.cells #[.map (some (w.heap.size + 3))] 93)
  obtain ⟨e0, -⟩ := heap5 w (.cells #[.pointer (some ⟨sb, 0, none⟩)] 50) (.cells #[.slice none 0 0] 22) (.cells #[.slice none 0 0] 23) (.map #[] 0) (.cells #[.map (some (w.heap.size + 3))] 93)
  have HC := hide (oparts_full sb s (c :: t) (.int .u8 125) (.func (.func 47) #[] #[.pointer (some ⟨w.heap.size + 1, 0, none⟩), .pointer (some ⟨w.heap.size, 0, none⟩), .pointer (some ⟨w.heap.size + 4, 0, none⟩), .pointer (some ⟨w.heap.size + 2, 0, none⟩)]) _ (h.below hal5))
  have hps := hl.pos
  have HK := hide (Ow.ofBelow sb hal5)
  have hpcell : (((((w.alloc (.cells #[.pointer (some ⟨sb, 0, none⟩)] 50)).alloc (.cells #[.slice none 0 0] 22)).alloc (.cells #[.slice none 0 0] 23)).alloc (.map #[] 0)).alloc (.cells #[.map (some (w.heap.size + 3))] 93)).cell? ⟨w.heap.size, 0, none⟩ = some (.pointer (some ⟨sb, 0, none⟩)) := by simp [World.cell?, e0]
  clear h hE hne hal1 hal2 hal3 hal4 hal5 hl e0
  go_enter Tryz.func29, Tryz.ntmps29
  go_wp2_with fail
  refine (HC.out).mono ?_
  rintro en w3 ⟨rfl, rfl⟩
  have HF : Hid (OkPs w sb s 40 (brkR 0 true t) (flt (pos s (c :: t) : Nat) 12) (((((w.alloc (.cells #[.pointer (some ⟨sb, 0, none⟩)] 50)).alloc (.cells #[.slice none 0 0] 22)).alloc (.cells #[.slice none 0 0] 23)).alloc (.map #[] 0)).alloc (.cells #[.map (some (w.heap.size + 3))] 93))) := by
    refine ⟨HK.out, ?_⟩
    show flt _ _ = flt _ _
    rw [show s.size - (t.length + 1) = pos s (c :: t) by simp only [List.length_cons] at hps; omega]; rfl
  clear HC HK hpcell
  go_wp2_with fail
  exact ⟨rfl, HF.out⟩
end Go.Proofs.YthdbnafiindgbaaGreatDoor
