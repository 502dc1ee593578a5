/- Package scope: what is known of one file. -/
import Derived.Test.YtgjbafamiggafaaGreatDoorJq
import Derived.Test.YtgjbafamiggafaaGreatDoorVv
import Derived.Laws.MakeOwn
import Derived.Test.YtgjbafamiggafaaGreatDoorJk
namespace Go.Proofs.YtgjbafamiggafaaGreatDoor
open Go.RowKit
open M
theorem infoA : (Tryz.prog.info? 177).map (fun i => (i.zero, i.size, i.bytes)) = some (some (.agg #[.int .i64 0, .int .i64 0, .int .i64 0, .int .i64 0]), 4, 32) := by kernel_rfl
theorem mk_ans (n : Nat) (hn : n ≤ 268435456) : ∃ A : Array Value, A.size = n * 4 ∧ (∀ g, g < n * 4 → A[g]? = some (.int .i64 0)) ∧ ∀ W : World, (Instr.makeSlice 130 (.int .i64 n) (.int .i64 n)).run Tryz.prog W = .ok (.slice (some ⟨W.heap.size, 0, none⟩) n n) (W.alloc (.cells A 177)) := by
  obtain ⟨i, hi, z0, z1, z2⟩ := info_parts infoA
  refine ⟨madeCells (Value.agg #[.int .i64 0, .int .i64 0, .int .i64 0, .int .i64 0]).cells (n * i.size), by rw [size_madeCells, z1], fun g hg => ?_, fun W => ?_⟩
  · rw [z1]
    have h4 : g % 4 = 0 ∨ g % 4 = 1 ∨ g % 4 = 2 ∨ g % 4 = 3 := by omega
    rcases h4 with e | e | e | e <;> simp [madeCells, Value.cells, hg, e]
  · have := run_make (P := Tryz.prog) W 130 177 i _ Tryz.underlying130 hi z0 .i64 .i64 n n (by omega) (Int.le_refl _) (by rw [z2]; omega) (by omega)
    simpa using this
namespace X
theorem topI_snoc {l : List It} {j : Nat} {it : It} (h : l[j]? = some it) (x : List UInt8) : topI (l.take (j + 1)) x = match topI (l.take j) x with | some i => some i | none => if x ≠ [] ∧ (called it).1 = x then some j else none := by
  have hj : j < l.length := by
    rcases Nat.lt_or_ge j l.length with g | g
    · exact g
    · rw [List.getElem?_eq_none g] at h; cases h
  unfold topI
  by_cases hx : x = []
  · simp [hx]
  · rw [if_neg hx, if_neg hx, take_snoc h, List.findIdx?_append]
    cases hf : (l.take j).findIdx? (fun it => (called it).1 == x) with
    | some i => simp
    | none =>
      by_cases e : (called it).1 = x
      · have e2 : ((called it).1 == x) = true := by simpa using e
        simp [List.findIdx?_cons, e, hx, List.length_take]
        omega
      · have e2 : ((called it).1 == x) = false := by simpa using e
        simp [List.findIdx?_cons, e2, e]
end X
/-- What is known of one file, in memory. -/
structure IsF (w w' : World) (iv : Value) (its : List X.It) : Prop where
  blk : w'.heap[w.heap.size + 2]? = some (.cells #[iv, .map (some w.heap.size), .slice (some ⟨w.heap.size + 1, 0, none⟩) its.length its.length] 132 (0, 0))
  mp : ∃ k, Mp w' w.heap.size k (X.topI its)
  ans : ∃ A, w'.heap[w.heap.size + 1]? = some (.cells A 177 (0, 0)) ∧ A.size = its.length * 4 ∧ ∀ g, g < its.length * 4 → A[g]? = some (.int .i64 0)
  bl : Below w.heap.size w w'
theorem IsIts.blw {w w' : World} {lo hi : Nat} {rv : Value} {es : List X.It} {S : Nat → Prop} (h : IsIts w lo hi rv es) (hk : Kp S w w') (hS : ∀ q, lo ≤ q → q < hi → ¬ S q) : IsIts w' lo hi rv es := by
  obtain ⟨ao, cap, vs, e, c1, c2, c3, c4⟩ := h.ex
  exact ⟨ao, cap, vs, e, c1, c2, fun j hj => by obtain ⟨g, x1, x2, x3, x4, c, f, x5⟩ := c3 j hj; exact ⟨g, x1, x2, x3, hk.cellv x4 (hS g x2 x3), c, f, hk.heap x5 (hS g x2 x3)⟩, fun j e hj => (c4 j e hj).keep hk hS⟩
/-- Where the items of a file get their names. -/
structure InR (W : World) (nb : Nat) (its : List X.It) (j : Nat) (wr : World) : Prop where
  kp : Kp (fun q => q = nb) W wr
  mp : Mp wr nb j (X.topI (its.take j))
theorem InR.more {W : World} {nb : Nat} {its : List X.It} {j : Nat} {wr w2 : World} {it : X.It} (h : InR W nb its j wr) (he : its[j]? = some it) (hk : Kp (fun q => q = nb) wr w2) {k : Nat} {g : List UInt8 → Option Nat} (hm : Mp w2 nb k g) (hk1 : k ≤ j + 1) (hg : ∀ x, g x = match X.topI (its.take j) x with | some i => some i | none => if x ≠ [] ∧ (X.called it).1 = x then some j else none) : InR W nb its (j + 1) w2 := by
  refine ⟨h.kp.trans hk (fun _ _ e => e), ?_⟩
  obtain ⟨D, o1, o2⟩ := hm
  exact Mp.congr ⟨D, o1.mono hk1, o2⟩ (fun x => by rw [hg x, X.topI_snoc he])
set_option maxRecDepth 100000 in
set_option maxHeartbeats 8000000 in
theorem fileOf_any (lo hi : Nat) (iv : Value) (its : List X.It) (w : World) (hits : IsIts w lo hi iv its) (hhi : hi ≤ w.heap.size) (hlen : its.length ≤ 268435456) (hB : ∀ it ∈ its, X.itB 268435456 it) :
    Calls Tryz.prog 32 #[iv] w fun e w' => e = .returned (.pointer (some ⟨w.heap.size + 2, 0, none⟩)) ∧ Hid (IsF w w' iv its) := by
  obtain ⟨A, hA1, hA2, hA3⟩ := mk_ans its.length hlen
  have hmm := mkMap
  obtain ⟨ao, cap, vs, hrv, z2, z3, z4, z5⟩ := hits.ex
  subst hrv
  have HBd := hide hB
  have Z4 := hide z4
  have Z5 := hide z5
  clear hB z4 z5 hits
  go_enter Tryz.func32, Tryz.ntmps32
  go_upto_region 2 with fail
  have kW : Below w.heap.size w (((w.alloc (.map #[] 0)).alloc (.cells A 177)).alloc (.cells #[.slice ao its.length cap, .map (some w.heap.size), .slice (some ⟨w.heap.size + 1, 0, none⟩) its.length its.length] 132)) := (((Below.refl _ w).alloc (Nat.le_refl _) _).alloc (by simp) _).alloc (by simp; omega) _
  have hM0 : Mp (((w.alloc (.map #[] 0)).alloc (.cells A 177)).alloc (.cells #[.slice ao its.length cap, .map (some w.heap.size), .slice (some ⟨w.heap.size + 1, 0, none⟩) its.length its.length] 132)) w.heap.size 0 (X.topI (its.take 0)) := by
    refine Mp.congr ((Mp.made w).below (((Below.refl _ _).alloc (Nat.le_refl _) _).alloc (by simp) _)) (fun x => ?_)
    rw [List.take_zero]
    unfold X.topI
    split <;> rfl
  have hA0 : (((w.alloc (.map #[] 0)).alloc (.cells A 177)).alloc (.cells #[.slice ao its.length cap, .map (some w.heap.size), .slice (some ⟨w.heap.size + 1, 0, none⟩) its.length its.length] 132)).heap[w.heap.size + 1]? = some (.cells A 177 (0, 0)) := by
    refine (heap_alloc_old _ _ (by simp)).trans ?_
    have := heap_alloc_new (w.alloc (.map #[] 0)) (.cells A 177)
    simpa using this
  have hF0 : (((w.alloc (.map #[] 0)).alloc (.cells A 177)).alloc (.cells #[.slice ao its.length cap, .map (some w.heap.size), .slice (some ⟨w.heap.size + 1, 0, none⟩) its.length its.length] 132)).heap[w.heap.size + 2]? = some (.cells #[.slice ao its.length cap, .map (some w.heap.size), .slice (some ⟨w.heap.size + 1, 0, none⟩) its.length its.length] 132 (0, 0)) := by
    have := heap_alloc_new ((w.alloc (.map #[] 0)).alloc (.cells A 177)) (.cells #[.slice ao its.length cap, .map (some w.heap.size), .slice (some ⟨w.heap.size + 1, 0, none⟩) its.length its.length] 132)
    simpa using this
  have hwsz : (((w.alloc (.map #[] 0)).alloc (.cells A 177)).alloc (.cells #[.slice ao its.length cap, .map (some w.heap.size), .slice (some ⟨w.heap.size + 1, 0, none⟩) its.length its.length] 132)).heap.size = w.heap.size + 3 := by simp
  have HKW := hide kW
  have HF0 := hide hF0
  have HA0 := hide hA0
  have HI0 : Hid (InR (((w.alloc (.map #[] 0)).alloc (.cells A 177)).alloc (.cells #[.slice ao its.length cap, .map (some w.heap.size), .slice (some ⟨w.heap.size + 1, 0, none⟩) its.length its.length] 132)) w.heap.size its 0 (((w.alloc (.map #[] 0)).alloc (.cells A 177)).alloc (.cells #[.slice ao its.length cap, .map (some w.heap.size), .slice (some ⟨w.heap.size + 1, 0, none⟩) its.length its.length] 132))) := ⟨Kp.refl _ _, hM0⟩
  have HSZ := hide hwsz
  clear kW hM0 hF0 hA0 hmm hA3 hwsz
  generalize (((w.alloc (.map #[] 0)).alloc (.cells A 177)).alloc (.cells #[.slice ao its.length cap, .map (some w.heap.size), .slice (some ⟨w.heap.size + 1, 0, none⟩) its.length its.length] 132)) = W at *
  go_wp2_with fail
  go_loopw [18] (fun v wr => ∃ j : Nat, v = .int .i64 j ∧ j ≤ its.length ∧ Hid (InR W w.heap.size its j wr)) (fun v _ => its.length - (intOf v).toNat)
  case atStart => exact ⟨0, rfl, Nat.zero_le _, HI0⟩
  case round =>
    obtain ⟨j, rfl, hj, HI⟩ := hrel
    clear HI0
    have k2r : Kp (fun q => q = w.heap.size) w wr := Kp.trans (Kp.ofBelow HKW.out _) (HI.out).kp (fun _ _ e => e)
    have hav : ∀ q, lo ≤ q → q < hi → ¬ q = w.heap.size := fun q _ h e => by omega
    by_cases hjl : j < its.length
    · obtain ⟨it, he⟩ : ∃ it, its[j]? = some it := ⟨its[j], List.getElem?_eq_getElem hjl⟩
      obtain ⟨g, hao, y1, y2, y3, -⟩ := (Z4.out) j hjl
      have hi1 : (j : Int) < (its.length : Int) := by omega
      have y4 := k2r.cellv y3 (hav g y1 y2)
      have hIs := ((Z5.out) j it he).keep k2r hav
      obtain ⟨q1, q2⟩ := called_B ((HBd.out) it (List.mem_of_getElem? he))
      have hlen2 : (X.called it).1.length ≤ maxLen := by unfold maxLen; omega
      obtain ⟨b, hcase⟩ := called_of hIs
      have hFr := (HI.out).kp.heap HF0.out (by omega)
      have f1 := cell_of_row wr _ 1 _ _ _ hFr
      have hfl := heap_lt hFr
      have hwr : w.heap.size + 3 ≤ wr.heap.size := by have := (HI.out).kp.size; have := HSZ.out; omega
      subst hao
      clear y3 hIs k2r hFr hav
      generalize hnn : X.called it = nn at *
      generalize vs j = vj at *
      have HNN := hide hnn
      clear hnn
      rcases hcase with ⟨rfl, hc⟩ | ⟨rfl, hc⟩
      all_goals
        have HC := hide hc
        clear hc
        go_wp2_with fail
        refine (HC.out).mono ?_
        rintro e w3 ⟨rfl, B3⟩
        have k3 : Below wr.heap.size wr (w3.alloc (.cells #[.string (ba nn.1), .int .i64 nn.2] 136)) := B3.alloc B3.size _
        have hmp3 := (HI.out).mp.below (k3.drew)
        have hrun := hmp3.run_ok hlen2
        have f13 := kcb k3 hfl f1
        have HN3 := hide (heap_alloc_new w3 (.cells #[.string (ba nn.1), .int .i64 nn.2] 136))
        have n03 := cell_of_row _ _ 0 _ _ _ HN3.out
        have n13 := cell_of_row _ _ 1 _ _ _ HN3.out
        have hw3 : wr.heap.size ≤ w3.heap.size := B3.size
        have hw4 : (w3.alloc (.cells #[.string (ba nn.1), .int .i64 nn.2] 136)).heap.size = w3.heap.size + 1 := by simp
        have HK3 := hide k3
        have HM3 := hide hmp3
        clear k3 hmp3 HC B3
        cases htp : X.topI (its.take j) nn.1 with
        | some i =>
          rw [htp] at hrun
          have hrun' : (Instr.lookup 59 (.map (some w.heap.size)) (.string (ba nn.1)) true).run Tryz.prog (w3.alloc (.cells #[.string (ba nn.1), .int .i64 nn.2] 136)).drew = .ok (.tuple #[.int .i64 (i : Nat), .bool true]) (w3.alloc (.cells #[.string (ba nn.1), .int .i64 nn.2] 136)).drew := hrun
          have HI3 : Hid (InR W w.heap.size its (j + 1) (w3.alloc (.cells #[.string (ba nn.1), .int .i64 nn.2] 136)).drew) := (HI.out).more he (Kp.ofBelow (HK3.out).drew _) HM3.out (by omega) (fun x => by
            cases hx : X.topI (its.take j) x with
            | some i => rfl
            | none =>
              have : ¬ (x ≠ [] ∧ (X.called it).1 = x) := fun e => by rw [HNN.out] at e; rw [← e.2, htp] at hx; cases hx
              show _ = if _ then _ else _
              rw [if_neg this])
          clear hrun HM3 HK3 HI hw4
          go_wp2_with fail
          generalize w3.alloc (.cells #[.string (ba nn.1), .int .i64 nn.2] 136) = W4 at *
          go_region_held3 (fun w' => w'.cell? ⟨w.heap.size + 2, 1, none⟩ = some (.map (some w.heap.size)) ∧ w'.cell? ⟨w3.heap.size, 0, none⟩ = some (.string (ba nn.1)) ∧ (Instr.lookup 59 (.map (some w.heap.size)) (.string (ba nn.1)) true).run Tryz.prog w' = .ok (.tuple #[.int .i64 (i : Nat), .bool true]) w')
            (first | (with_reducible exact ⟨f13, n03, hrun'⟩) | go_keep)
            (fail)
          clear hrun' f13 n03 n13
          go_wp2_with fail
          exact ⟨⟨j + 1, by simp, by omega, HI3⟩, by simp [intOf]; omega⟩
        | none =>
          rw [htp] at hrun
          have hrun' : (Instr.lookup 59 (.map (some w.heap.size)) (.string (ba nn.1)) true).run Tryz.prog (w3.alloc (.cells #[.string (ba nn.1), .int .i64 nn.2] 136)).drew = .ok (.tuple #[.int .i64 0, .bool false]) (w3.alloc (.cells #[.string (ba nn.1), .int .i64 nn.2] 136)).drew := hrun
          clear hrun
          go_wp2_with fail
          generalize w3.alloc (.cells #[.string (ba nn.1), .int .i64 nn.2] 136) = W4 at *
          go_region_held3 (fun w' => w'.cell? ⟨w.heap.size + 2, 1, none⟩ = some (.map (some w.heap.size)) ∧ w'.cell? ⟨w3.heap.size, 0, none⟩ = some (.string (ba nn.1)) ∧ (Instr.lookup 59 (.map (some w.heap.size)) (.string (ba nn.1)) true).run Tryz.prog w' = .ok (.tuple #[.int .i64 0, .bool false]) w')
            (first | (with_reducible exact ⟨f13, n03, hrun'⟩) | go_keep)
            (fail)
          have f14 : W4.drew.cell? ⟨w.heap.size + 2, 1, none⟩ = some (.map (some w.heap.size)) := f13
          have n04 : W4.drew.cell? ⟨w3.heap.size, 0, none⟩ = some (.string (ba nn.1)) := n03
          have n14 : W4.drew.cell? ⟨w3.heap.size, 1, none⟩ = some (.int .i64 nn.2) := n13
          have HK4 : Hid (Below wr.heap.size wr W4.drew) := (HK3.out).drew
          have hs4 : W4.drew.heap.size = w3.heap.size + 1 := hw4
          clear hrun' f13 n03 n13 hw4 HK3 HN3
          generalize W4.drew = Wd at *
          by_cases hn : nn.1 = []
          · have e1 : nn.1.isEmpty = true := by rw [hn]; rfl
            have HC5 := hide (nameMissing_is nn.1 nn.2 Wd true e1)
            have HH : Hid (∀ x, X.topI (its.take j) x = match X.topI (its.take j) x with | some i => some i | none => if x ≠ [] ∧ (X.called it).1 = x then some j else none) := fun x => by
              cases hx : X.topI (its.take j) x with
              | some i => rfl
              | none =>
                have : ¬ (x ≠ [] ∧ (X.called it).1 = x) := fun e => by rw [HNN.out] at e; exact e.1 (e.2.symm.trans hn)
                show _ = if _ then _ else _
                rw [if_neg this]
            clear hn
            go_wp2_with fail
            refine (HC5.out).mono ?_
            rintro e w5 ⟨rfl, B5⟩
            have HI5 : Hid (InR W w.heap.size its (j + 1) w5) := (HI.out).more he (Kp.ofBelow ((HK4.out).trans (B5.mono (HK4.out).size)) _) ((HM3.out).below B5) (by omega) HH.out
            clear B5 HC5 HI HM3 HK4 f14 n04 n14
            go_wp2_with fail
            exact ⟨⟨j + 1, by simp, by omega, HI5⟩, by simp [intOf]; omega⟩
          · have e1 : nn.1.isEmpty = false := by cases hx : nn.1 with | nil => exact absurd hx hn | cons a l => rfl
            have HC5 := hide (nameMissing_is nn.1 nn.2 Wd false e1)
            have HH : Hid (∀ x, upd (X.topI (its.take j)) nn.1 j x = match X.topI (its.take j) x with | some i => some i | none => if x ≠ [] ∧ (X.called it).1 = x then some j else none) := fun x => by
              unfold upd
              rw [HNN.out]
              by_cases e : x = nn.1
              · subst e
                rw [if_pos rfl, htp]
                show _ = if _ then _ else _
                rw [if_pos ⟨hn, rfl⟩]
              · rw [if_neg e]
                cases hx : X.topI (its.take j) x with
                | some i => rfl
                | none =>
                  show _ = if _ then _ else _
                  rw [if_neg (fun e2 => e e2.2.symm)]
            clear hn
            go_wp2_with fail
            refine (HC5.out).mono ?_
            rintro e w5 ⟨rfl, B5⟩
            have f15 := kcb B5 (by omega) f14
            have n05 := kcb B5 (by omega) n04
            have HK5 : Hid (Below wr.heap.size wr w5) := (HK4.out).trans (B5.mono (HK4.out).size)
            have HM5 : Hid (Mp w5.drew w.heap.size j (X.topI (its.take j))) := ((HM3.out).below B5).below ((Below.refl _ w5).drew)
            have hjm : j < maxLen := by unfold maxLen; omega
            have hn2 : j ≤ 9223372036854775807 := by omega
            clear B5 HC5 HM3 HK4 f14 n04 n14
            go_wp2_with fail
            refine wpTo_start (S := fun w' => w'.cell? ⟨w.heap.size + 2, 1, none⟩ = some (.map (some w.heap.size)) ∧ w'.cell? ⟨w3.heap.size, 0, none⟩ = some (.string (ba nn.1))) (z := 7) (by kernel_rfl) ?_
            have hS : w5.drew.cell? ⟨w.heap.size + 2, 1, none⟩ = some (.map (some w.heap.size)) ∧ w5.drew.cell? ⟨w3.heap.size, 0, none⟩ = some (.string (ba nn.1)) := ⟨f15, n05⟩
            iterate 7 (refine wpTo_nx0 (v := ?_) rfl rfl (by kernel_rfl) (by kernel_rfl) (by kernel_rfl) (by kernel_rfl) (fun _ _ _ h => h) (Or.inl ⟨by rfl, ?_⟩) hS ?_; rotate_left; (· (intro wx hSw; (try dsimp only at hSw); go_simp; try (with_reducible rfl))); simp only [Act.put, List.setIfInBounds_toArray, List.set_cons_zero, List.set_cons_succ])
            refine wpTo_one (i := 7) (by kernel_rfl) rfl (fun K hK => ?_)
            refine step_put_mp (by rfl) _ _ _ (by rfl) w.heap.size j (X.topI (its.take j)) (by rfl) HM5.out hjm nn.1 hlen2 j hn2 (by rfl) (by rfl) ?_
            intro w6 hmp6 hk6
            refine hK.out _ _ (fun h => absurd rfl h) (fun _ => wpTo_end (by kernel_rfl) ?_)
            clear hK K hS
            have HI6 : Hid (InR W w.heap.size its (j + 1) w6) := (HI.out).more he (Kp.trans (Kp.ofBelow (HK5.out).drew _) hk6 (fun _ _ e => e)) hmp6 (Nat.le_refl _) HH.out
            clear hmp6 hk6 HM5 HK5 HI f15 n05
            go_wp2_with fail
            exact ⟨⟨j + 1, by simp, by omega, HI6⟩, by simp [intOf]; omega⟩
    · obtain rfl : j = its.length := by omega
      have hd1 : ¬ (its.length : Int) < (its.length : Int) := by omega
      have HF : Hid (IsF w wr (.slice ao its.length cap) its) := by
        have hk := (HI.out).kp
        refine ⟨hk.heap HF0.out (by omega), ⟨its.length, ?_⟩, ⟨A, hk.heap HA0.out (by omega), hA1, hA2⟩, k2r.below (Nat.le_refl _) (fun q e => by omega)⟩
        have := (HI.out).mp
        rw [List.take_length] at this
        exact this
      clear HI k2r hav
      go_wp2_with fail
      go_ret
      exact ⟨rfl, HF⟩
end Go.Proofs.YtgjbafamiggafaaGreatDoor
/- Package scope: the files of a workspace, as they are read. -/
namespace Go.Proofs.YtgjbafamiggafaaGreatDoor
open Go.RowKit
open M
namespace X
theorem btw_len : ∀ (l : List U) (lo hi : Nat), Between lo hi l → l.length ≤ hi - lo
  | [], lo, hi, _ => Nat.zero_le _
  | a :: l, lo, hi, h => by
    obtain ⟨h1, h2⟩ := h
    rw [List.pairwise_cons] at h1
    have ha := h2 a (by simp)
    have := btw_len l (a.i + 1) hi ⟨h1.2, fun u hu => ⟨h1.1 u hu, (h2 u (by simp [hu])).2⟩⟩
    rw [List.length_cons]; omega
/-- The text of a closed fact of the law, and its items. -/
def T0 : List UInt8 := [100, 101, 102, 32, 120, 32, 61, 32, 49, 59]
def I0 : List It := [.dfn false ([120], 4) none (.lit 15 [49])]
theorem file0 : fileL (xt T0) = [.br 4 [.leaf 4 [100, 101, 102], .leaf 1 [32], .leaf 3 [120], .leaf 1 [32], .leaf 7 [61], .br 15 [.leaf 1 [32], .leaf 5 [49]], .leaf 7 [59]]] := by kernel_rfl
theorem qu0 : ∀ q ∈ [Part.leaf 1 [32]], lq q = true := fun q hq => by rw [List.mem_singleton.1 hq]; rfl
theorem rdf0 : Rdf (fileL (xt T0)) 0 I0 := by
  rw [file0]
  refine Rdf.item (.br 4 ([] ++ ([.leaf 4 [100, 101, 102]] ++ ([.leaf 1 [32], .leaf 3 [120]] ++ ([] ++ ([.leaf 1 [32], .leaf 7 [61]] ++ ([.br 15 [.leaf 1 [32], .leaf 5 [49]]] ++ [.leaf 7 [59]]))))))) [] 0 _ [] ?_ (.leaves [] _ (fun q hq => by cases hq))
  exact .dfn [] [.leaf 4 [100, 101, 102]] [.leaf 1 [32], .leaf 3 [120]] [] [.leaf 1 [32], .leaf 7 [61]] (.br 15 [.leaf 1 [32], .leaf 5 [49]]) [.leaf 7 [59]] 0 false ([120], 4) none (.lit 15 [49]) .no (.inl ⟨4, [100, 101, 102], [], ⟨rfl, fun q hq => (by cases hq), by decide⟩, by decide⟩) (.name _ [120] [.leaf 1 [32]] 3 ⟨rfl, qu0, by decide⟩) (.no _) (.inl ⟨7, [61], [.leaf 1 [32]], ⟨rfl, qu0, by decide⟩⟩) (.lit 15 5 [49] _ [.leaf 1 [32]] _ (by decide) ⟨rfl, qu0, by decide⟩) (.inl ⟨7, [59], [], ⟨rfl, fun q hq => (by cases hq), by decide⟩⟩)
/-- The items of a text. -/
noncomputable def itsT (x : List UInt8) : List It := open Classical in if x = T0 then I0 else if h : ∃ its, Rdf (fileL (xt x)) 0 its then Classical.choose h else []
theorem itsT_rdf (x : List UInt8) : Rdf (fileL (xt x)) 0 (itsT x) := by
  have h : ∃ its, Rdf (fileL (xt x)) 0 its := file_rdf _ (xt x) (Nat.le_refl _) (fun t ht e => by have := (xt_fits x t ht).2.2.2.1; omega) 0
  unfold itsT
  by_cases e : x = T0
  · rw [if_pos e, e]; exact rdf0
  · rw [if_neg e, dif_pos h]
    exact Classical.choose_spec h
end X
noncomputable def fsOf (l : List AF) : List X.Fl := l.map fun a => (bs a.n, X.itsT (bs a.t))
theorem fsOf_get {l : List AF} {i : Nat} {a : AF} (h : l[i]? = some a) : X.itemsOf (fsOf l) i = X.itsT (bs a.t) := by
  unfold X.itemsOf fsOf
  rw [List.getD_eq_getElem?_getD, List.getElem?_map, h]
  rfl
theorem fsOf_len (l : List AF) : (fsOf l).length = l.length := by unfold fsOf; rw [List.length_map]
theorem fsOf_none {l : List AF} {i : Nat} (h : l.length ≤ i) : X.itemsOf (fsOf l) i = [] := by
  unfold X.itemsOf fsOf
  rw [List.getD_eq_getElem?_getD, List.getElem?_map, List.getElem?_eq_none h]
  rfl
/-- Texts that are not too long. -/
def Short (l : List AF) : Prop := ∀ a ∈ l, a.t.size ≤ 20000
theorem short_pz {x : List UInt8} (h : x.length ≤ 20000) : X.pz (X.fileL (X.xt x)) ≤ 20000 ∧ X.pssz (X.fileL (X.xt x)) ≤ 268435456 := by
  have hb : X.pb (X.file (X.xt x)) = x := by rw [X.file_keeps, X.xt_tb]
  refine ⟨by rw [pz_file, hb]; exact h, ?_⟩
  have hll : (X.xt x).length ≤ x.length := by
    have := toks_len _ 0 x (Nat.le_refl _)
    unfold X.xt; rw [List.length_map]; exact this
  have h1 := X.file_psz (X.xt x)
  have h3 : X.psz (X.file (X.xt x)) = 1 + X.pssz (X.fileL (X.xt x)) := rfl
  omega
theorem its_rdf {l : List AF} (i : Nat) : ∃ ps, X.Rdf ps 0 (X.itemsOf (fsOf l) i) := by
  rcases Nat.lt_or_ge i l.length with g | g
  · rw [fsOf_get (List.getElem?_eq_getElem g)]
    exact ⟨_, X.itsT_rdf _⟩
  · rw [fsOf_none g]
    exact ⟨[], .leaves [] 0 (fun q hq => by cases hq)⟩
theorem its_bd {l : List AF} (h : Short l) (i : Nat) : (∀ it ∈ X.itemsOf (fsOf l) i, X.itB 268435456 it) ∧ (X.itemsOf (fsOf l) i).length ≤ 268435456 ∧ ∀ fs f, (X.itsU fs f 0 (X.itemsOf (fsOf l) i)).length ≤ 20000 := by
  rcases Nat.lt_or_ge i l.length with g | g
  · have ha := List.getElem?_eq_getElem g
    rw [fsOf_get ha]
    have hr := X.itsT_rdf (bs l[i].t)
    obtain ⟨p1, p2⟩ := short_pz (x := bs l[i].t) (by rw [bs_len]; exact h _ (List.getElem_mem g))
    refine ⟨X.rdf_B hr (by omega) p2, ?_, fun fs f => ?_⟩
    · have h1 := rdf_len hr
      have h2 := pssz_len (X.fileL (X.xt (bs l[i].t)))
      omega
    · have := X.btw_len _ _ _ (X.itsU_btw (fs := fs) (f := f) hr 0)
      omega
  · rw [fsOf_none g]
    exact ⟨fun it hit => (by cases hit), Nat.zero_le _, fun fs f => (by rw [X.itsU]; exact Nat.zero_le _)⟩
/-- The names of the first files. -/
def usT (fs : List X.Fl) (j : Nat) : List X.U := (List.range j).flatMap fun f => X.itsU fs f 0 (X.itemsOf fs f)
theorem usT_snoc (fs : List X.Fl) (j : Nat) : usT fs (j + 1) = usT fs j ++ X.itsU fs j 0 (X.itemsOf fs j) := by
  unfold usT
  rw [List.range_succ, List.flatMap_append]
  simp
theorem usT_len {l : List AF} (h : Short l) : ∀ j, (usT (fsOf l) j).length ≤ j * 20000
  | 0 => Nat.zero_le _
  | j + 1 => by
    rw [usT_snoc, List.length_append]
    have := usT_len h j
    have := (its_bd h j).2.2 (fsOf l) j
    omega
/-- Names that are names are not empty. -/
theorem nmOk_ne {s : ByteArray} (h : nmOk s = true) : bs s ≠ [] := by
  intro e
  unfold nmOk at h
  rw [e] at h
  simp [aloneB] at h
theorem fltN_ok {l : List AF} : ∀ {seen : List (List UInt8)}, fltN l seen = 0 → (∀ a ∈ l, nmOk a.n = true) ∧ (l.map (fun a => bs a.n)).Pairwise (· ≠ ·) ∧ ∀ a ∈ l, bs a.n ∉ seen := by
  induction l with
  | nil => intro seen _; exact ⟨fun a h => (by cases h), List.Pairwise.nil, fun a h => (by cases h)⟩
  | cons a l ih =>
    intro seen h
    rw [fltN] at h
    cases hn : nmOk a.n with
    | false => rw [hn] at h; simp at h
    | true =>
      rw [hn, if_pos rfl] at h
      by_cases hm : bs a.n ∈ seen
      · rw [if_pos hm] at h; cases h
      · rw [if_neg hm] at h
        obtain ⟨h1, h2, h3⟩ := ih h
        refine ⟨fun b hb => ?_, ?_, fun b hb => ?_⟩
        · rcases List.mem_cons.1 hb with rfl | hb
          · exact hn
          · exact h1 b hb
        · rw [List.map_cons, List.pairwise_cons]
          refine ⟨fun x hx e => ?_, h2⟩
          obtain ⟨b, hb, rfl⟩ := List.mem_map.1 hx
          exact h3 b hb (by rw [← e]; simp)
        · rcases List.mem_cons.1 hb with rfl | hb
          · exact hm
          · exact fun e => h3 b hb (by simp [e])
theorem modI_idx {l : List AF} (h : ∀ a ∈ l, nmOk a.n = true) (x : List UInt8) : X.modI (fsOf l) x = idxN l x := by
  have e1 : (fsOf l).findIdx? (fun f => f.1 == x) = idxN l x := by
    unfold fsOf idxN
    rw [List.findIdx?_map]
    rfl
  unfold X.modI
  by_cases hx : x = []
  · rw [if_pos hx]
    cases hi : idxN l x with
    | none => rfl
    | some i =>
      exfalso
      have := (idxN_mem l x).1 (by rw [hi]; rfl)
      obtain ⟨a, ha, e⟩ := List.mem_map.1 this
      exact nmOk_ne (h a ha) (e.trans hx)
  · rw [if_neg hx, e1]
/-- Files that have been read, in memory. -/
structure IsFs (w : World) (B : Nat) (rv : Value) (l : List AF) (IV : Nat → Value) (Lo Hi : Nat → Nat) : Prop where
  ex : ∃ (ao : Option Addr) (cap : Nat), rv = .slice ao l.length cap ∧ l.length ≤ cap ∧ cap ≤ maxLen ∧ ∀ (j : Nat) (a : AF), l[j]? = some a → ∃ g, ao = some ⟨g, 0, none⟩ ∧ g < w.heap.size ∧ B ≤ g ∧ w.cell? ⟨g, j * 2, none⟩ = some (.string a.n) ∧ w.cell? ⟨g, j * 2 + 1, none⟩ = some (IV j)
  its : ∀ (j : Nat) (a : AF), l[j]? = some a → IsIts w (Lo j) (Hi j) (IV j) (X.itsT (bs a.t)) ∧ B ≤ Lo j ∧ Hi j ≤ w.heap.size
/-- Where files are read. -/
structure InFs (w : World) (l : List AF) (j : Nat) (rv : Value) (vs : List Value) (IV : Nat → Value) (Lo Hi : Nat → Nat) (wr : World) : Prop where
  bl : Below w.heap.size w wr
  row : wr.ownsRow w.heap.size 70 2 rv j vs
  len : vs.length = j * 2
  val : ∀ i a, i < j → l[i]? = some a → vs[i * 2]? = some (.string a.n) ∧ vs[i * 2 + 1]? = some (IV i)
  its : ∀ i a, i < j → l[i]? = some a → IsIts wr (Lo i) (Hi i) (IV i) (X.itsT (bs a.t)) ∧ w.heap.size ≤ Lo i ∧ Hi i ≤ wr.heap.size
  far : ∀ g, rv.ownBlock = some g → ∀ i, i < j → ¬ (Lo i ≤ g ∧ g < Hi i)
theorem InFs.more {w : World} {l : List AF} {j : Nat} {rv : Value} {vs : List Value} {IV : Nat → Value} {Lo Hi : Nat → Nat} {wr w2 w6 w7 : World} {a : AF} {iv : Value} {lo g cap : Nat} (h : InFs w l j rv vs IV Lo Hi wr) (ha : l[j]? = some a) (hb2 : Below wr.heap.size wr w2) (hlo : wr.heap.size ≤ lo) (hits : IsIts w2 lo w2.heap.size iv (X.itsT (bs a.t))) (hb6 : Below w2.heap.size w2 w6)
    (hown : w7.ownsRow w.heap.size 70 2 (.slice (some ⟨g, 0, none⟩) (j + 1) cap) (j + 1) (vs ++ [.string a.n, iv])) (hgrow : w6.grownBy w7 rv.ownBlock) (hat : rv.ownBlock = some g ∨ g = w6.heap.size) :
    InFs w l (j + 1) (.slice (some ⟨g, 0, none⟩) (j + 1) cap) (vs ++ [.string a.n, iv]) (fun i => if i = j then iv else IV i) (fun i => if i = j then lo else Lo i) (fun i => if i = j then w2.heap.size else Hi i) w7 := by
  have s2 := hb2.size
  have s6 := hb6.size
  have s0 := h.bl.size
  have hown0 : ∀ q, rv.ownBlock = some q → w.heap.size ≤ q ∧ q < wr.heap.size := fun q hq => owns_ge h.row q hq
  have k67 : Kp (fun q => rv.ownBlock = some q) w6 w7 := (Kp.refl _ w6).grown hgrow (fun q e _ => e)
  have k27 : Kp (fun q => rv.ownBlock = some q) w2 w7 := (Kp.ofBelow hb6 _).trans k67 (fun _ _ e => e)
  have kr7 : Kp (fun q => rv.ownBlock = some q) wr w7 := (Kp.ofBelow hb2 _).trans k27 (fun _ _ e => e)
  have s7 := k67.size
  refine ⟨h.bl.trans (kr7.below s0 (fun q e => (hown0 q e).1)), hown, by rw [List.length_append, h.len]; show _ + 2 = _; omega, fun i b hi hb => ?_, fun i b hi hb => ?_, fun q hq i hi => ?_⟩
  · by_cases hij : i = j
    · subst hij
      rw [ha] at hb
      cases hb
      rw [if_pos rfl, List.getElem?_append_right (by rw [h.len]; exact Nat.le_refl _), List.getElem?_append_right (by rw [h.len]; omega), h.len]
      exact ⟨by rw [Nat.sub_self]; rfl, by rw [Nat.add_sub_cancel_left]; rfl⟩
    · rw [if_neg hij]
      have := h.val i b (by omega) hb
      rw [List.getElem?_append_left (by rw [h.len]; omega), List.getElem?_append_left (by rw [h.len]; omega)]
      exact this
  · by_cases hij : i = j
    · subst hij
      rw [ha] at hb
      cases hb
      rw [if_pos rfl, if_pos rfl, if_pos rfl]
      exact ⟨hits.blw k27 (fun q h1 _ e => by have := (hown0 q e).2; omega), by omega, by omega⟩
    · rw [if_neg hij, if_neg hij, if_neg hij]
      obtain ⟨b1, b2, b3⟩ := h.its i b (by omega) hb
      exact ⟨b1.blw kr7 (fun q h1 h2 e => h.far q e i (by omega) ⟨h1, h2⟩), b2, by omega⟩
  · obtain rfl : q = g := by cases hq; rfl
    by_cases hij : i = j
    · rw [if_pos hij, if_pos hij]
      rcases hat with e | e
      · have := (hown0 _ e).2
        omega
      · omega
    · rw [if_neg hij, if_neg hij]
      rcases hat with e | e
      · exact h.far _ e i (by omega)
      · have hil : i < l.length := by
          have : j < l.length := by
            rcases Nat.lt_or_ge j l.length with g | g
            · exact g
            · rw [List.getElem?_eq_none g] at ha; cases ha
          omega
        have := (h.its i l[i] (by omega) (List.getElem?_eq_getElem hil)).2.2
        omega
theorem InFs.done {w : World} {l : List AF} {rv : Value} {vs : List Value} {IV : Nat → Value} {Lo Hi : Nat → Nat} {wr : World} (h : InFs w l l.length rv vs IV Lo Hi wr) : IsFs wr w.heap.size rv l IV Lo Hi := by
  have hlt : ∀ {j : Nat} {a : AF}, l[j]? = some a → j < l.length := fun {j a} ha => by
    rcases Nat.lt_or_ge j l.length with g | g
    · exact g
    · rw [List.getElem?_eq_none g] at ha; cases ha
  refine ⟨?_, fun j a ha => h.its j a (hlt ha) ha⟩
  have hr := h.row
  have hc := fun g hg => hr.cells (g := g) hg
  rcases hr.2 with ⟨e, h0⟩ | ⟨g, cap, cur, e, hge, hgg, hnn, hm, -, -⟩
  · exact ⟨none, 0, by rw [h0]; exact e, by rw [h0]; exact Nat.le_refl _, by unfold maxLen; omega, fun j a ha => by have := hlt ha; omega⟩
  · refine ⟨_, cap, e, hnn, hm, fun j a ha => ⟨g, rfl, heap_lt hgg, hge, ?_, ?_⟩⟩
    · have := hc g (by rw [e]; rfl) _ _ (h.val j a (hlt ha) ha).1
      rwa [Addr.add_lit, Nat.zero_add] at this
    · have := hc g (by rw [e]; rfl) _ _ (h.val j a (hlt ha) ha).2
      rwa [Addr.add_lit, Nat.zero_add] at this
/-- Where a workspace is opened. -/
structure InW (w : World) (l : List AF) (mb wb : Nat) (j : Nat) (Bf : Nat → Nat) (IV : Nat → Value) (fv : Value) (wr : World) : Prop where
  bl : Below w.heap.size w wr
  blk : wr.heap[wb]? = some (.cells #[.map (some mb), fv] 87 (0, 0))
  mp : Mp wr mb j (idxN (l.take j))
  row : wr.ownsRow w.heap.size 88 1 fv j ((List.range j).map fun i => .pointer (some ⟨Bf i + 2, 0, none⟩))
  far : ∀ g, fv.ownBlock = some g → g ≠ mb ∧ g ≠ wb ∧ ∀ i, i < j → ¬ (Bf i ≤ g ∧ g ≤ Bf i + 2)
  ord : ∀ i, i < j → wb < Bf i ∧ mb < Bf i ∧ Bf i + 2 < wr.heap.size
  asc : ∀ i i', i < i' → i' < j → Bf i + 2 < Bf i'
  fil : ∀ i a, i < j → l[i]? = some a → wr.heap[Bf i + 2]? = some (.cells #[IV i, .map (some (Bf i)), .slice (some ⟨Bf i + 1, 0, none⟩) (X.itsT (bs a.t)).length (X.itsT (bs a.t)).length] 132 (0, 0)) ∧ (∃ k, Mp wr (Bf i) k (X.topI (X.itsT (bs a.t)))) ∧ ∃ A, wr.heap[Bf i + 1]? = some (.cells A 177 (0, 0)) ∧ A.size = (X.itsT (bs a.t)).length * 4 ∧ ∀ g, g < (X.itsT (bs a.t)).length * 4 → A[g]? = some (.int .i64 0)
end Go.Proofs.YtgjbafamiggafaaGreatDoor
/- Plain mathematics: as what names stand there, and in which order they are told. -/
namespace Go.Proofs.YtgjbafamiggafaaGreatDoor
open M
namespace X
theorem tellU_kind {f : Nat} {n : Nm} {s : Nat} {a : An} (hs : s ≤ 6) : ∀ u ∈ tellU f n s a, u.s ≤ 6 := by
  intro u hu
  unfold tellU at hu
  split at hu
  · cases hu
  · obtain rfl := List.mem_singleton.1 hu; exact hs
theorem parU_kind {f : Nat} : ∀ (ns seen : List Nm), ∀ u ∈ parU f seen ns, u.s ≤ 6
  | [], _, u, h => by cases h
  | n :: ns, seen, u, h => by
    rw [parU] at h
    rcases List.mem_append.1 h with g | g
    · exact tellU_kind (by decide) u g
    · exact parU_kind ns _ u g
mutual
theorem exU_kind {f : Nat} {top : List UInt8 → An} : ∀ (e : Ex) (sc : List (List Nm)), ∀ u ∈ exU f top sc e, u.s ≤ 6
  | .lit _ _, sc => fun u hu => by rw [exU] at hu; cases hu
  | .hole _, sc => fun u hu => by rw [exU] at hu; cases hu
  | .missing, sc => fun u hu => by rw [exU] at hu; cases hu
  | .var n, sc => by rw [exU]; exact tellU_kind (by decide)
  | .lett n v b, sc => fun u hu => by
    rw [exU] at hu
    rcases List.mem_append.1 hu with g | g
    · exact tellU_kind (by decide) u g
    · rcases List.mem_append.1 g with g | g
      · exact exU_kind v sc u g
      · exact exU_kind b _ u g
  | .ite a b c, sc => fun u hu => by
    rw [exU] at hu
    rcases List.mem_append.1 hu with g | g
    · exact exU_kind a sc u g
    · rcases List.mem_append.1 g with g | g
      · exact exU_kind b sc u g
      · exact exU_kind c sc u g
  | .fn ns b, sc => fun u hu => by
    rw [exU] at hu
    rcases List.mem_append.1 hu with g | g
    · exact parU_kind ns _ u g
    · exact exU_kind b _ u g
  | .bin a _ b, sc => fun u hu => by
    rw [exU] at hu
    rcases List.mem_append.1 hu with g | g
    · exact exU_kind a sc u g
    · exact exU_kind b sc u g
  | .call a l, sc => fun u hu => by
    rw [exU] at hu
    rcases List.mem_append.1 hu with g | g
    · exact exU_kind a sc u g
    · exact exUs_kind l sc u g
  | .list l, sc => fun u hu => by
    rw [exU] at hu
    exact exUs_kind l sc u hu
  | .group e, sc => fun u hu => by
    rw [exU] at hu
    exact exU_kind e sc u hu
theorem exUs_kind {f : Nat} {top : List UInt8 → An} : ∀ (es : List Ex) (sc : List (List Nm)), ∀ u ∈ exUs f top sc es, u.s ≤ 6
  | [], sc => fun u hu => by rw [exUs] at hu; cases hu
  | e :: es, sc => fun u hu => by
    rw [exUs] at hu
    rcases List.mem_append.1 hu with g | g
    · exact exU_kind e sc u g
    · exact exUs_kind es sc u g
end
theorem itU_kind {fs : List Fl} {f k : Nat} (it : It) : ∀ u ∈ itU fs f k it, u.s ≤ 6 := by
  intro u hu
  cases it with
  | use p m n gs a =>
    simp only [itU] at hu
    rcases List.mem_append.1 hu with g | g
    · exact tellU_kind (by decide) u g
    · rcases List.mem_append.1 g with g | g
      · exact tellU_kind (by decide) u g
      · exact tellU_kind (by decide) u g
  | dfn p n ps b =>
    simp only [itU] at hu
    rcases List.mem_append.1 hu with g | g
    · exact tellU_kind (by decide) u g
    · rcases List.mem_append.1 g with g | g
      · exact parU_kind _ _ u g
      · exact exU_kind b _ u g
theorem itsU_kind {fs : List Fl} {f : Nat} : ∀ (l : List It) (k : Nat), ∀ u ∈ itsU fs f k l, u.s ≤ 6
  | [], k, u, h => by rw [itsU] at h; cases h
  | a :: l, k, u, h => by
    rw [itsU] at h
    rcases List.mem_append.1 h with g | g
    · exact itU_kind a u g
    · exact itsU_kind l _ u g
theorem allU_kind {fs : List Fl} : ∀ u ∈ allU fs, u.s ≤ 6 := by
  intro u hu
  unfold allU at hu
  obtain ⟨f, -, h⟩ := List.mem_flatMap.1 hu
  exact itsU_kind _ _ u h
/-- One name is told ahead of another. -/
def Ahd (a b : U) : Prop := a.f < b.f ∨ (a.f = b.f ∧ a.i < b.i)
theorem allU_sorted {fs : List Fl} (h : ∀ f, f < fs.length → ∃ ps, Rdf ps 0 (itemsOf fs f)) : (allU fs).Pairwise Ahd := by
  unfold allU
  rw [List.pairwise_flatMap]
  refine ⟨fun f hf => ?_, ?_⟩
  · obtain ⟨ps, hr⟩ := h f (List.mem_range.1 hf)
    have := (itsU_btw (fs := fs) (f := f) hr 0).1
    refine List.Pairwise.imp_of_mem ?_ this
    intro a b ha hb hab
    exact .inr ⟨(itsU_file ha).trans (itsU_file hb).symm, hab⟩
  · refine List.Pairwise.imp ?_ (List.pairwise_lt_range (n := fs.length))
    intro a b hab x hx y hy
    left
    rw [itsU_file hx, itsU_file hy]
    exact hab
theorem allU_bd {fs : List Fl} {N : Nat} (h : ∀ f, f < fs.length → ∃ ps, Rdf ps 0 (itemsOf fs f) ∧ pz ps ≤ N) : ∀ u ∈ allU fs, u.i < N := by
  intro u hu
  unfold allU at hu
  obtain ⟨f, hf, hm⟩ := List.mem_flatMap.1 hu
  obtain ⟨ps, hr, hp⟩ := h f (List.mem_range.1 hf)
  have := ((itsU_btw (fs := fs) (f := f) hr 0).2 u hm).2
  omega
end X
end Go.Proofs.YtgjbafamiggafaaGreatDoor
