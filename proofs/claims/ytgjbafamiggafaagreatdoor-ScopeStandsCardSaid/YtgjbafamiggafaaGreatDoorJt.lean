/- Package scope: what is known of one file. -/
import Derived.Test.YtgjbafamiggafaaGreatDoorJq
import Derived.Test.YtgjbafamiggafaaGreatDoorVx
import Derived.Laws.MakeOwn
namespace Go.Proofs.YtgjbafamiggafaaGreatDoor
open Go.RowKit
open M
theorem infoA : (Tryz.prog.info? 177).map (fun i => (i.zero, i.size, i.bytes)) = some (some (.agg #[.int .i64 0, .int .i64 0, .int .i64 0, .int .i64 0]), 4, 32) := by kernel_rfl
theorem mk_ans (n : Nat) (hn : n ≤ 268435456) : ∃ A : Array Value, A.size = n * 4 ∧ (∀ g, g < n * 4 → A[g]? = some (.int .i64 0)) ∧ ∀ W : World, (Instr.makeSlice 130 (.int .i64 n) (.int .i64 n)).run Tryz.prog W = .ok (.slice (some ⟨W.heap.size, 0, none⟩) n n) (W.alloc (.cells A 177)) := by
  obtain ⟨i, hi, z0, z1, z2⟩ := info_parts infoA
  refine ⟨madeCells (Value.agg #[.int .i64 0, .int .i64 0, .int .i64 0, .int .i64 0]).cells (n * i.size), by rw [size_madeCells, z1], fun g hg => ?_, fun W => ?_⟩
  · rw [z1]
    have h4 : g % 4 = 0 ∨ g % 4 = 1 ∨ g % 4 = 2 ∨ g % 4 = 3 := by omega
    rcases h4 with e | e | e | e <;> simp [madeCells, Value.cells, hg, e]
  · have := run_make (P := Tryz.prog) W 130 177 i _ Tryz.underlying130 hi z0 .i64 .i64 n n (by omega) (Int.le_refl _) (by rw [z2]; omega) (by omega)
    simpa using this
namespace X
theorem topI_snoc {l : List It} {j : Nat} {it : It} (h : l[j]? = some it) (x : List UInt8) : topI (l.take (j + 1)) x = match topI (l.take j) x with | some i => some i | none => if x ≠ [] ∧ (called it).1 = x then some j else none := by
  have hj : j < l.length := by
    rcases Nat.lt_or_ge j l.length with g | g
    · exact g
    · rw [List.getElem?_eq_none g] at h; cases h
  unfold topI
  by_cases hx : x = []
  · simp [hx]
  · rw [if_neg hx, if_neg hx, take_snoc h, List.findIdx?_append]
    cases hf : (l.take j).findIdx? (fun it => (called it).1 == x) with
    | some i => simp
    | none =>
      by_cases e : (called it).1 = x
      · have e2 : ((called it).1 == x) = true := by simpa using e
        simp [List.findIdx?_cons, e, hx, List.length_take]
        omega
      · have e2 : ((called it).1 == x) = false := by simpa using e
        simp [List.findIdx?_cons, e2, e]
end X
/-- What is known of one file, in memory. -/
structure IsF (w w' : World) (iv : Value) (its : List X.It) : Prop where
  blk : w'.heap[w.heap.size + 2]? = some (.cells #[iv, .map (some w.heap.size), .slice (some ⟨w.heap.size + 1, 0, none⟩) its.length its.length] 132 (0, 0))
  mp : ∃ k, Mp w' w.heap.size k (X.topI its)
  ans : ∃ A, w'.heap[w.heap.size + 1]? = some (.cells A 177 (0, 0)) ∧ A.size = its.length * 4 ∧ ∀ g, g < its.length * 4 → A[g]? = some (.int .i64 0)
  bl : Below w.heap.size w w'
theorem IsIts.blw {w w' : World} {lo hi : Nat} {rv : Value} {es : List X.It} {S : Nat → Prop} (h : IsIts w lo hi rv es) (hk : Kp S w w') (hS : ∀ q, lo ≤ q → q < hi → ¬ S q) : IsIts w' lo hi rv es := by
  obtain ⟨ao, cap, vs, e, c1, c2, c3, c4⟩ := h.ex
  exact ⟨ao, cap, vs, e, c1, c2, fun j hj => by obtain ⟨g, x1, x2, x3, x4, c, f, x5⟩ := c3 j hj; exact ⟨g, x1, x2, x3, hk.cellv x4 (hS g x2 x3), c, f, hk.heap x5 (hS g x2 x3)⟩, fun j e hj => (c4 j e hj).keep hk hS⟩
/-- Where the items of a file get their names. -/
structure InR (W : World) (nb : Nat) (its : List X.It) (j : Nat) (wr : World) : Prop where
  kp : Kp (fun q => q = nb) W wr
  mp : Mp wr nb j (X.topI (its.take j))
theorem InR.more {W : World} {nb : Nat} {its : List X.It} {j : Nat} {wr w2 : World} {it : X.It} (h : InR W nb its j wr) (he : its[j]? = some it) (hk : Kp (fun q => q = nb) wr w2) {k : Nat} {g : List UInt8 → Option Nat} (hm : Mp w2 nb k g) (hk1 : k ≤ j + 1) (hg : ∀ x, g x = match X.topI (its.take j) x with | some i => some i | none => if x ≠ [] ∧ (X.called it).1 = x then some j else none) : InR W nb its (j + 1) w2 := by
  refine ⟨h.kp.trans hk (fun _ _ e => e), ?_⟩
  obtain ⟨D, o1, o2⟩ := hm
  exact Mp.congr ⟨D, o1.mono hk1, o2⟩ (fun x => by rw [hg x, X.topI_snoc he])
set_option maxRecDepth 100000 in
set_option maxHeartbeats 8000000 in
theorem fileOf_any (lo hi : Nat) (iv : Value) (its : List X.It) (w : World) (hits : IsIts w lo hi iv its) (hhi : hi ≤ w.heap.size) (hlen : its.length ≤ 268435456) (hB : ∀ it ∈ its, X.itB 268435456 it) :
    Calls Tryz.prog 32 #[iv] w fun e w' => e = .returned (.pointer (some ⟨w.heap.size + 2, 0, none⟩)) ∧ Hid (IsF w w' iv its) := by
  obtain ⟨A, hA1, hA2, hA3⟩ := mk_ans its.length hlen
  have hmm := mkMap
  obtain ⟨ao, cap, vs, hrv, z2, z3, z4, z5⟩ := hits.ex
  subst hrv
  have HBd := hide hB
  have Z4 := hide z4
  have Z5 := hide z5
  clear hB z4 z5 hits
  go_enter Tryz.func32, Tryz.ntmps32
  go_upto_region 2 with fail
  have kW : Below w.heap.size w (((w.alloc (.map #[] 0)).alloc (.cells A 177)).alloc (.cells #[.slice ao its.length cap, .map (some w.heap.size), .slice (some ⟨w.heap.size + 1, 0, none⟩) its.length its.length] 132)) := (((Below.refl _ w).alloc (Nat.le_refl _) _).alloc (by simp) _).alloc (by simp; omega) _
  have hM0 : Mp (((w.alloc (.map #[] 0)).alloc (.cells A 177)).alloc (.cells #[.slice ao its.length cap, .map (some w.heap.size), .slice (some ⟨w.heap.size + 1, 0, none⟩) its.length its.length] 132)) w.heap.size 0 (X.topI (its.take 0)) := by
    refine Mp.congr ((Mp.made w).below (((Below.refl _ _).alloc (Nat.le_refl _) _).alloc (by simp) _)) (fun x => ?_)
    rw [List.take_zero]
    unfold X.topI
    split <;> rfl
  have hA0 : (((w.alloc (.map #[] 0)).alloc (.cells A 177)).alloc (.cells #[.slice ao its.length cap, .map (some w.heap.size), .slice (some ⟨w.heap.size + 1, 0, none⟩) its.length its.length] 132)).heap[w.heap.size + 1]? = some (.cells A 177 (0, 0)) := by
    refine (heap_alloc_old _ _ (by simp)).trans ?_
    have := heap_alloc_new (w.alloc (.map #[] 0)) (.cells A 177)
    simpa using this
  have hF0 : (((w.alloc (.map #[] 0)).alloc (.cells A 177)).alloc (.cells #[.slice ao its.length cap, .map (some w.heap.size), .slice (some ⟨w.heap.size + 1, 0, none⟩) its.length its.length] 132)).heap[w.heap.size + 2]? = some (.cells #[.slice ao its.length cap, .map (some w.heap.size), .slice (some ⟨w.heap.size + 1, 0, none⟩) its.length its.length] 132 (0, 0)) := by
    have := heap_alloc_new ((w.alloc (.map #[] 0)).alloc (.cells A 177)) (.cells #[.slice ao its.length cap, .map (some w.heap.size), .slice (some ⟨w.heap.size + 1, 0, none⟩) its.length its.length] 132)
    simpa using this
  have hwsz : (((w.alloc (.map #[] 0)).alloc (.cells A 177)).alloc (.cells #[.slice ao its.length cap, .map (some w.heap.size), .slice (some ⟨w.heap.size + 1, 0, none⟩) its.length its.length] 132)).heap.size = w.heap.size + 3 := by simp
  have HKW := hide kW
  have HF0 := hide hF0
  have HA0 := hide hA0
  have HI0 : Hid (InR (((w.alloc (.map #[] 0)).alloc (.cells A 177)).alloc (.cells #[.slice ao its.length cap, .map (some w.heap.size), .slice (some ⟨w.heap.size + 1, 0, none⟩) its.length its.length] 132)) w.heap.size its 0 (((w.alloc (.map #[] 0)).alloc (.cells A 177)).alloc (.cells #[.slice ao its.length cap, .map (some w.heap.size), .slice (some ⟨w.heap.size + 1, 0, none⟩) its.length its.length] 132))) := ⟨Kp.refl _ _, hM0⟩
  have HSZ := hide hwsz
  clear kW hM0 hF0 hA0 hmm hA3 hwsz
  generalize (((w.alloc (.map #[] 0)).alloc (.cells A 177)).alloc (.cells #[.slice ao its.length cap, .map (some w.heap.size), .slice (some ⟨w.heap.size + 1, 0, none⟩) its.length its.length] 132)) = W at *
  go_wp2_with fail
  go_loopw [18] (fun v wr => ∃ j : Nat, v = .int .i64 j ∧ j ≤ its.length ∧ Hid (InR W w.heap.size its j wr)) (fun v _ => its.length - (intOf v).toNat)
  case atStart => exact ⟨0, rfl, Nat.zero_le _, HI0⟩
  case round =>
    obtain ⟨j, rfl, hj, HI⟩ := hrel
    clear HI0
    have k2r : Kp (fun q => q = w.heap.size) w wr := Kp.trans (Kp.ofBelow HKW.out _) (HI.out).kp (fun _ _ e => e)
    have hav : ∀ q, lo ≤ q → q < hi → ¬ q = w.heap.size := fun q _ h e => by omega
    by_cases hjl : j < its.length
    · obtain ⟨it, he⟩ : ∃ it, its[j]? = some it := ⟨its[j], List.getElem?_eq_getElem hjl⟩
      obtain ⟨g, hao, y1, y2, y3, -⟩ := (Z4.out) j hjl
      have hi1 : (j : Int) < (its.length : Int) := by omega
      have y4 := k2r.cellv y3 (hav g y1 y2)
      have hIs := ((Z5.out) j it he).keep k2r hav
      obtain ⟨q1, q2⟩ := called_B ((HBd.out) it (List.mem_of_getElem? he))
      have hlen2 : (X.called it).1.length ≤ maxLen := by unfold maxLen; omega
      obtain ⟨b, hcase⟩ := called_of hIs
      have hFr := (HI.out).kp.heap HF0.out (by omega)
      have f1 := cell_of_row wr _ 1 _ _ _ hFr
      have hfl := heap_lt hFr
      have hwr : w.heap.size + 3 ≤ wr.heap.size := by have := (HI.out).kp.size; have := HSZ.out; omega
      subst hao
      clear y3 hIs k2r hFr hav
      generalize hnn : X.called it = nn at *
      generalize vs j = vj at *
      have HNN := hide hnn
      clear hnn
      rcases hcase with ⟨rfl, hc⟩ | ⟨rfl, hc⟩
      all_goals
        have HC := hide hc
        clear hc
        go_wp2_with fail
        refine (HC.out).mono ?_
        rintro e w3 ⟨rfl, B3⟩
        have k3 : Below wr.heap.size wr (w3.alloc (.cells #[.string (ba nn.1), .int .i64 nn.2] 136)) := B3.alloc B3.size _
        have hmp3 := (HI.out).mp.below (k3.drew)
        have hrun := hmp3.run_ok hlen2
        have f13 := kcb k3 hfl f1
        have HN3 := hide (heap_alloc_new w3 (.cells #[.string (ba nn.1), .int .i64 nn.2] 136))
        have n03 := cell_of_row _ _ 0 _ _ _ HN3.out
        have n13 := cell_of_row _ _ 1 _ _ _ HN3.out
        have hw3 : wr.heap.size ≤ w3.heap.size := B3.size
        have hw4 : (w3.alloc (.cells #[.string (ba nn.1), .int .i64 nn.2] 136)).heap.size = w3.heap.size + 1 := by simp
        have HK3 := hide k3
        have HM3 := hide hmp3
        clear k3 hmp3 HC B3
        cases htp : X.topI (its.take j) nn.1 with
        | some i =>
          rw [htp] at hrun
          have hrun' : (Instr.lookup 59 (.map (some w.heap.size)) (.string (ba nn.1)) true).run Tryz.prog (w3.alloc (.cells #[.string (ba nn.1), .int .i64 nn.2] 136)).drew = .ok (.tuple #[.int .i64 (i : Nat), .bool true]) (w3.alloc (.cells #[.string (ba nn.1), .int .i64 nn.2] 136)).drew := hrun
          have HI3 : Hid (InR W w.heap.size its (j + 1) (w3.alloc (.cells #[.string (ba nn.1), .int .i64 nn.2] 136)).drew) := (HI.out).more he (Kp.ofBelow (HK3.out).drew _) HM3.out (by omega) (fun x => by
            cases hx : X.topI (its.take j) x with
            | some i => rfl
            | none =>
              have : ¬ (x ≠ [] ∧ (X.called it).1 = x) := fun e => by rw [HNN.out] at e; rw [← e.2, htp] at hx; cases hx
              show _ = if _ then _ else _
              rw [if_neg this])
          clear hrun HM3 HK3 HI hw4
          go_wp2_with fail
          generalize w3.alloc (.cells #[.string (ba nn.1), .int .i64 nn.2] 136) = W4 at *
          go_region_held3 (fun w' => w'.cell? ⟨w.heap.size + 2, 1, none⟩ = some (.map (some w.heap.size)) ∧ w'.cell? ⟨w3.heap.size, 0, none⟩ = some (.string (ba nn.1)) ∧ (Instr.lookup 59 (.map (some w.heap.size)) (.string (ba nn.1)) true).run Tryz.prog w' = .ok (.tuple #[.int .i64 (i : Nat), .bool true]) w')
            (first | (with_reducible exact ⟨f13, n03, hrun'⟩) | go_keep)
            (fail)
          clear hrun' f13 n03 n13
          go_wp2_with fail
          exact ⟨⟨j + 1, by simp, by omega, HI3⟩, by simp [intOf]; omega⟩
        | none =>
          rw [htp] at hrun
          have hrun' : (Instr.lookup 59 (.map (some w.heap.size)) (.string (ba nn.1)) true).run Tryz.prog (w3.alloc (.cells #[.string (ba nn.1), .int .i64 nn.2] 136)).drew = .ok (.tuple #[.int .i64 0, .bool false]) (w3.alloc (.cells #[.string (ba nn.1), .int .i64 nn.2] 136)).drew := hrun
          clear hrun
          go_wp2_with fail
          generalize w3.alloc (.cells #[.string (ba nn.1), .int .i64 nn.2] 136) = W4 at *
          go_region_held3 (fun w' => w'.cell? ⟨w.heap.size + 2, 1, none⟩ = some (.map (some w.heap.size)) ∧ w'.cell? ⟨w3.heap.size, 0, none⟩ = some (.string (ba nn.1)) ∧ (Instr.lookup 59 (.map (some w.heap.size)) (.string (ba nn.1)) true).run Tryz.prog w' = .ok (.tuple #[.int .i64 0, .bool false]) w')
            (first | (with_reducible exact ⟨f13, n03, hrun'⟩) | go_keep)
            (fail)
          have f14 : W4.drew.cell? ⟨w.heap.size + 2, 1, none⟩ = some (.map (some w.heap.size)) := f13
          have n04 : W4.drew.cell? ⟨w3.heap.size, 0, none⟩ = some (.string (ba nn.1)) := n03
          have n14 : W4.drew.cell? ⟨w3.heap.size, 1, none⟩ = some (.int .i64 nn.2) := n13
          have HK4 : Hid (Below wr.heap.size wr W4.drew) := (HK3.out).drew
          have hs4 : W4.drew.heap.size = w3.heap.size + 1 := hw4
          clear hrun' f13 n03 n13 hw4 HK3 HN3
          generalize W4.drew = Wd at *
          by_cases hn : nn.1 = []
          · have e1 : nn.1.isEmpty = true := by rw [hn]; rfl
            have HC5 := hide (nameMissing_is nn.1 nn.2 Wd true e1)
            have HH : Hid (∀ x, X.topI (its.take j) x = match X.topI (its.take j) x with | some i => some i | none => if x ≠ [] ∧ (X.called it).1 = x then some j else none) := fun x => by
              cases hx : X.topI (its.take j) x with
              | some i => rfl
              | none =>
                have : ¬ (x ≠ [] ∧ (X.called it).1 = x) := fun e => by rw [HNN.out] at e; exact e.1 (e.2.symm.trans hn)
                show _ = if _ then _ else _
                rw [if_neg this]
            clear hn
            go_wp2_with fail
            refine (HC5.out).mono ?_
            rintro e w5 ⟨rfl, B5⟩
            have HI5 : Hid (InR W w.heap.size its (j + 1) w5) := (HI.out).more he (Kp.ofBelow ((HK4.out).trans (B5.mono (HK4.out).size)) _) ((HM3.out).below B5) (by omega) HH.out
            clear B5 HC5 HI HM3 HK4 f14 n04 n14
            go_wp2_with fail
            exact ⟨⟨j + 1, by simp, by omega, HI5⟩, by simp [intOf]; omega⟩
          · have e1 : nn.1.isEmpty = false := by cases hx : nn.1 with | nil => exact absurd hx hn | cons a l => rfl
            have HC5 := hide (nameMissing_is nn.1 nn.2 Wd false e1)
            have HH : Hid (∀ x, upd (X.topI (its.take j)) nn.1 j x = match X.topI (its.take j) x with | some i => some i | none => if x ≠ [] ∧ (X.called it).1 = x then some j else none) := fun x => by
              unfold upd
              rw [HNN.out]
              by_cases e : x = nn.1
              · subst e
                rw [if_pos rfl, htp]
                show _ = if _ then _ else _
                rw [if_pos ⟨hn, rfl⟩]
              · rw [if_neg e]
                cases hx : X.topI (its.take j) x with
                | some i => rfl
                | none =>
                  show _ = if _ then _ else _
                  rw [if_neg (fun e2 => e e2.2.symm)]
            clear hn
            go_wp2_with fail
            refine (HC5.out).mono ?_
            rintro e w5 ⟨rfl, B5⟩
            have f15 := kcb B5 (by omega) f14
            have n05 := kcb B5 (by omega) n04
            have HK5 : Hid (Below wr.heap.size wr w5) := (HK4.out).trans (B5.mono (HK4.out).size)
            have HM5 : Hid (Mp w5.drew w.heap.size j (X.topI (its.take j))) := ((HM3.out).below B5).below ((Below.refl _ w5).drew)
            have hjm : j < maxLen := by unfold maxLen; omega
            have hn2 : j ≤ 9223372036854775807 := by omega
            clear B5 HC5 HM3 HK4 f14 n04 n14
            go_wp2_with fail
            refine wpTo_start (S := fun w' => w'.cell? ⟨w.heap.size + 2, 1, none⟩ = some (.map (some w.heap.size)) ∧ w'.cell? ⟨w3.heap.size, 0, none⟩ = some (.string (ba nn.1))) (z := 7) (by kernel_rfl) ?_
            have hS : w5.drew.cell? ⟨w.heap.size + 2, 1, none⟩ = some (.map (some w.heap.size)) ∧ w5.drew.cell? ⟨w3.heap.size, 0, none⟩ = some (.string (ba nn.1)) := ⟨f15, n05⟩
            iterate 7 (refine wpTo_nx0 (v := ?_) rfl rfl (by kernel_rfl) (by kernel_rfl) (by kernel_rfl) (by kernel_rfl) (fun _ _ _ h => h) (Or.inl ⟨by rfl, ?_⟩) hS ?_; rotate_left; (· (intro wx hSw; (try dsimp only at hSw); go_simp; try (with_reducible rfl))); simp only [Act.put, List.setIfInBounds_toArray, List.set_cons_zero, List.set_cons_succ])
            refine wpTo_one (i := 7) (by kernel_rfl) rfl (fun K hK => ?_)
            refine step_put_mp (by rfl) _ _ _ (by rfl) w.heap.size j (X.topI (its.take j)) (by rfl) HM5.out hjm nn.1 hlen2 j hn2 (by rfl) (by rfl) ?_
            intro w6 hmp6 hk6
            refine hK.out _ _ (fun h => absurd rfl h) (fun _ => wpTo_end (by kernel_rfl) ?_)
            clear hK K hS
            have HI6 : Hid (InR W w.heap.size its (j + 1) w6) := (HI.out).more he (Kp.trans (Kp.ofBelow (HK5.out).drew _) hk6 (fun _ _ e => e)) hmp6 (Nat.le_refl _) HH.out
            clear hmp6 hk6 HM5 HK5 HI f15 n05
            go_wp2_with fail
            exact ⟨⟨j + 1, by simp, by omega, HI6⟩, by simp [intOf]; omega⟩
    · obtain rfl : j = its.length := by omega
      have hd1 : ¬ (its.length : Int) < (its.length : Int) := by omega
      have HF : Hid (IsF w wr (.slice ao its.length cap) its) := by
        have hk := (HI.out).kp
        refine ⟨hk.heap HF0.out (by omega), ⟨its.length, ?_⟩, ⟨A, hk.heap HA0.out (by omega), hA1, hA2⟩, k2r.below (Nat.le_refl _) (fun q e => by omega)⟩
        have := (HI.out).mp
        rw [List.take_length] at this
        exact this
      clear HI k2r hav
      go_wp2_with fail
      go_ret
      exact ⟨rfl, HF⟩
end Go.Proofs.YtgjbafamiggafaaGreatDoor
