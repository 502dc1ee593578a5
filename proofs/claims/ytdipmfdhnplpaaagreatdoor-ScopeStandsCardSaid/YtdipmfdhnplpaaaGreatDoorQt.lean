/- Package scope: what is known of one file. -/
import Derived.Test.YtdipmfdhnplpaaaGreatDoorQs
import Derived.Test.YtdipmfdhnplpaaaGreatDoorVv
import Derived.Laws.MakeOwn
import Derived.Test.YtdipmfdhnplpaaaGreatDoorQk
namespace Go.Proofs.YtdipmfdhnplpaaaGreatDoor
open Go.RowKit
open M
theorem infoA : (Tryz.prog.info? 148).map (fun i => (i.zero, i.size, i.bytes)) = some (some (.agg #[.int .i64 0, .int .i64 0, .int .i64 0, .int .i64 0]), 4, 32) := by kernel_rfl
theorem mk_ans (n : Nat) (hn : n ≤ 268435456) : ∃ A : Array Value, A.size = n * 4 ∧ (∀ g, g < n * 4 → A[g]? = some (.int .i64 0)) ∧ ∀ W : World, (Instr.makeSlice 84 (.int .i64 n) (.int .i64 n)).run Tryz.prog W = .ok (.slice (some ⟨W.heap.size, 0, none⟩) n n) (W.alloc (.cells A 148)) := by
  obtain ⟨i, hi, z0, z1, z2⟩ := info_parts infoA
  refine ⟨madeCells (Value.agg #[.int .i64 0, .int .i64 0, .int .i64 0, .int .i64 0]).cells (n * i.size), by rw [size_madeCells, z1], fun g hg => ?_, fun W => ?_⟩
  · rw [z1]
    have h4 : g % 4 = 0 ∨ g % 4 = 1 ∨ g % 4 = 2 ∨ g % 4 = 3 := by omega
    rcases h4 with e | e | e | e <;> simp [madeCells, Value.cells, hg, e]
  · have := run_make (P := Tryz.prog) W 84 148 i _ Tryz.underlying84 hi z0 .i64 .i64 n n (by omega) (Int.le_refl _) (by rw [z2]; omega) (by omega)
    simpa using this
namespace X
theorem topI_snoc {l : List It} {j : Nat} {it : It} (h : l[j]? = some it) (x : List UInt8) : topI (l.take (j + 1)) x = match topI (l.take j) x with | some i => some i | none => if x ≠ [] ∧ (called it).1 = x then some j else none := by
  have hj : j < l.length := by
    rcases Nat.lt_or_ge j l.length with g | g
    · exact g
    · rw [List.getElem?_eq_none g] at h; cases h
  unfold topI
  by_cases hx : x = []
  · simp [hx]
  · rw [if_neg hx, if_neg hx, take_snoc h, List.findIdx?_append]
    cases hf : (l.take j).findIdx? (fun it => (called it).1 == x) with
    | some i => simp
    | none =>
      by_cases e : (called it).1 = x
      · have e2 : ((called it).1 == x) = true := by simpa using e
        simp [List.findIdx?_cons, e, hx, List.length_take]
        omega
      · have e2 : ((called it).1 == x) = false := by simpa using e
        simp [List.findIdx?_cons, e2, e]
end X
/-- What is known of one file, in memory. -/
structure IsF (w w' : World) (fb hi : Nat) (iv : Value) (its : List X.It) : Prop where
  blk : w'.heap[hi + 1]? = some (.cells #[iv, .map (some hi), .slice (some ⟨hi + 2, 0, none⟩) its.length its.length] 86 (0, 0))
  eq : fb = hi + 1
  mp : ∃ k, Mp w' hi k (X.topI its)
  itm : ∃ lo, w.heap.size ≤ lo ∧ lo ≤ hi ∧ IsIts w' lo hi iv its
  ans : ∃ A, w'.heap[hi + 2]? = some (.cells A 148 (0, 0)) ∧ A.size = its.length * 4 ∧ ∀ g, g < its.length * 4 → A[g]? = some (.int .i64 0)
  bl : Below w.heap.size w w'
  le : w.heap.size ≤ hi
theorem IsIts.blw {w w' : World} {lo hi : Nat} {rv : Value} {es : List X.It} {S : Nat → Prop} (h : IsIts w lo hi rv es) (hk : Kp S w w') (hS : ∀ q, lo ≤ q → q < hi → ¬ S q) : IsIts w' lo hi rv es := by
  obtain ⟨ao, cap, vs, e, c1, c2, c3, c4⟩ := h.ex
  exact ⟨ao, cap, vs, e, c1, c2, fun j hj => by obtain ⟨g, x1, x2, x3, x4⟩ := c3 j hj; exact ⟨g, x1, x2, x3, hk.cellv x4 (hS g x2 x3)⟩, fun j e hj => (c4 j e hj).keep hk hS⟩
/-- Where the items of a file get their names. -/
structure InR (W : World) (nb : Nat) (its : List X.It) (j : Nat) (wr : World) : Prop where
  kp : Kp (fun q => q = nb) W wr
  mp : Mp wr nb j (X.topI (its.take j))
theorem InR.more {W : World} {nb : Nat} {its : List X.It} {j : Nat} {wr w2 : World} {it : X.It} (h : InR W nb its j wr) (he : its[j]? = some it) (hk : Kp (fun q => q = nb) wr w2) {k : Nat} {g : List UInt8 → Option Nat} (hm : Mp w2 nb k g) (hk1 : k ≤ j + 1) (hg : ∀ x, g x = match X.topI (its.take j) x with | some i => some i | none => if x ≠ [] ∧ (X.called it).1 = x then some j else none) : InR W nb its (j + 1) w2 := by
  refine ⟨h.kp.trans hk (fun _ _ e => e), ?_⟩
  obtain ⟨D, o1, o2⟩ := hm
  exact Mp.congr ⟨D, o1.mono hk1, o2⟩ (fun x => by rw [hg x, X.topI_snoc he])
set_option maxRecDepth 100000 in
set_option maxHeartbeats 8000000 in
theorem scRead_any (s : ByteArray) (its : List X.It) (w : World) (hT : Tabs w) (hs : s.size ≤ 20000) (hf : X.Rdf (X.fileL (X.xt (bs s))) 0 its) :
    Calls Tryz.prog 13 #[.string s] w fun e w' => ∃ fb hi iv, e = .returned (.pointer (some ⟨fb, 0, none⟩)) ∧ Hid (IsF w w' fb hi iv its) := by
  have hll : (X.xt (bs s)).length ≤ s.size := by
    have := toks_len _ 0 (bs s) (Nat.le_refl _)
    rw [bs_len] at this
    unfold X.xt; rw [List.length_map]; exact this
  have hz : X.psz (X.file (X.xt (bs s))) ≤ 268435456 := by have := X.file_psz (X.xt (bs s)); omega
  have hb : X.pb (X.file (X.xt (bs s))) = bs s := by rw [X.file_keeps, X.xt_tb]
  have hlen : its.length ≤ 268435456 := by
    have h1 := rdf_len hf
    have h2 := pssz_len (X.fileL (X.xt (bs s)))
    have h3 : X.psz (X.file (X.xt (bs s))) = 1 + X.pssz (X.fileL (X.xt (bs s))) := rfl
    omega
  have hB : ∀ it ∈ its, X.itB 268435456 it := X.rdf_B hf (by rw [pz_file, hb, bs_len]; omega) (by
    have h3 : X.psz (X.file (X.xt (bs s))) = 1 + X.pssz (X.fileL (X.xt (bs s))) := rfl
    omega)
  have HN := hide (newTree_any s w hT (by omega))
  have HRd : Hid (∀ tb W, IsTr W tb s → Calls Tryz.prog 26 #[.pointer (some ⟨tb, 0, none⟩)] W fun en w' => ∃ rv, en = .returned rv ∧ Hid (IsIts w' W.heap.size w'.heap.size rv its ∧ Below W.heap.size W w')) := fun tb W h => syRead_any tb s its W h hz hb (by omega) hf
  obtain ⟨A, hA1, hA2, hA3⟩ := mk_ans its.length hlen
  have hmm := mkMap
  have HBd := hide hB
  clear hll hz hb hf hT hB
  go_enter Tryz.func13, Tryz.ntmps13
  go_wp2_with fail
  refine (HN.out).mono ?_
  rintro e w1 ⟨tb, rfl, H1⟩
  go_wp2_with fail
  refine ((HRd.out) tb w1 (H1.out).1).mono ?_
  rintro e w2 ⟨rv, rfl, H2⟩
  obtain ⟨ao, cap, vs, hrv, z2, z3, z4, z5⟩ := (H2.out).1.ex
  subst hrv
  have B1 := hide (H1.out).2
  have B2 := hide (H2.out).2
  have HIT := hide (H2.out).1
  have Z4 := hide z4
  have Z5 := hide z5
  clear H1 H2 HN HRd z4 z5
  go_upto_region 3 with fail
  have kW : Below w2.heap.size w2 (((w2.alloc (.map #[] 0)).alloc (.cells #[.slice ao its.length cap, .map (some w2.heap.size), .slice (some ⟨w2.heap.size + 1 + 1, 0, none⟩) its.length its.length] 86)).alloc (.cells A 148)) := (((Below.refl _ w2).alloc (Nat.le_refl _) _).alloc (by simp) _).alloc (by simp; omega) _
  have hM0 : Mp (((w2.alloc (.map #[] 0)).alloc (.cells #[.slice ao its.length cap, .map (some w2.heap.size), .slice (some ⟨w2.heap.size + 1 + 1, 0, none⟩) its.length its.length] 86)).alloc (.cells A 148)) w2.heap.size 0 (X.topI (its.take 0)) := by
    refine Mp.congr ((Mp.made w2).below (((Below.refl _ _).alloc (Nat.le_refl _) _).alloc (by simp) _)) (fun x => ?_)
    rw [List.take_zero]
    unfold X.topI
    split <;> rfl
  have hF0 : (((w2.alloc (.map #[] 0)).alloc (.cells #[.slice ao its.length cap, .map (some w2.heap.size), .slice (some ⟨w2.heap.size + 1 + 1, 0, none⟩) its.length its.length] 86)).alloc (.cells A 148)).heap[w2.heap.size + 1]? = some (.cells #[.slice ao its.length cap, .map (some w2.heap.size), .slice (some ⟨w2.heap.size + 1 + 1, 0, none⟩) its.length its.length] 86 (0, 0)) := by
    refine (heap_alloc_old _ _ (by simp)).trans ?_
    have := heap_alloc_new (w2.alloc (.map #[] 0)) (.cells #[.slice ao its.length cap, .map (some w2.heap.size), .slice (some ⟨w2.heap.size + 1 + 1, 0, none⟩) its.length its.length] 86)
    simpa using this
  have hA0 : (((w2.alloc (.map #[] 0)).alloc (.cells #[.slice ao its.length cap, .map (some w2.heap.size), .slice (some ⟨w2.heap.size + 1 + 1, 0, none⟩) its.length its.length] 86)).alloc (.cells A 148)).heap[w2.heap.size + 2]? = some (.cells A 148 (0, 0)) := by
    have := heap_alloc_new ((w2.alloc (.map #[] 0)).alloc (.cells #[.slice ao its.length cap, .map (some w2.heap.size), .slice (some ⟨w2.heap.size + 1 + 1, 0, none⟩) its.length its.length] 86)) (.cells A 148)
    simpa using this
  have hwsz : (((w2.alloc (.map #[] 0)).alloc (.cells #[.slice ao its.length cap, .map (some w2.heap.size), .slice (some ⟨w2.heap.size + 1 + 1, 0, none⟩) its.length its.length] 86)).alloc (.cells A 148)).heap.size = w2.heap.size + 3 := by simp
  have g0 := cell_of_row _ _ 0 _ _ _ hF0
  have HKW := hide kW
  have HF0 := hide hF0
  have HA0 := hide hA0
  have HI0 : Hid (InR (((w2.alloc (.map #[] 0)).alloc (.cells #[.slice ao its.length cap, .map (some w2.heap.size), .slice (some ⟨w2.heap.size + 1 + 1, 0, none⟩) its.length its.length] 86)).alloc (.cells A 148)) w2.heap.size its 0 (((w2.alloc (.map #[] 0)).alloc (.cells #[.slice ao its.length cap, .map (some w2.heap.size), .slice (some ⟨w2.heap.size + 1 + 1, 0, none⟩) its.length its.length] 86)).alloc (.cells A 148))) := ⟨Kp.refl _ _, hM0⟩
  have HSZ := hide hwsz
  clear kW hM0 hF0 hA0 hmm hA3 hwsz
  generalize ((w2.alloc (.map #[] 0)).alloc (.cells #[.slice ao its.length cap, .map (some w2.heap.size), .slice (some ⟨w2.heap.size + 1 + 1, 0, none⟩) its.length its.length] 86)).alloc (.cells A 148) = W at *
  go_wp2_with fail
  go_loopw [29] (fun v wr => ∃ j : Nat, v = .int .i64 j ∧ j ≤ its.length ∧ Hid (InR W w2.heap.size its j wr)) (fun v _ => its.length - (intOf v).toNat)
  case atStart => exact ⟨0, rfl, Nat.zero_le _, HI0⟩
  case round =>
    obtain ⟨j, rfl, hj, HI⟩ := hrel
    clear HI0
    have k2r : Kp (fun q => q = w2.heap.size) w2 wr := Kp.trans (Kp.ofBelow HKW.out _) (HI.out).kp (fun _ _ e => e)
    have hav : ∀ q, w1.heap.size ≤ q → q < w2.heap.size → ¬ q = w2.heap.size := fun q _ h e => by omega
    by_cases hjl : j < its.length
    · obtain ⟨it, he⟩ : ∃ it, its[j]? = some it := ⟨its[j], List.getElem?_eq_getElem hjl⟩
      obtain ⟨g, hao, y1, y2, y3⟩ := (Z4.out) j hjl
      have hi1 : (j : Int) < (its.length : Int) := by omega
      have y4 := k2r.cellv y3 (hav g y1 y2)
      have hIs := ((Z5.out) j it he).keep k2r hav
      obtain ⟨q1, q2⟩ := called_B ((HBd.out) it (List.mem_of_getElem? he))
      have hlen2 : (X.called it).1.length ≤ maxLen := by unfold maxLen; omega
      obtain ⟨b, hcase⟩ := called_of hIs
      have hFr := (HI.out).kp.heap HF0.out (by omega)
      have f1 := cell_of_row wr _ 1 _ _ _ hFr
      have hfl := heap_lt hFr
      have hwr : w2.heap.size + 3 ≤ wr.heap.size := by have := (HI.out).kp.size; have := HSZ.out; omega
      subst hao
      clear y3 hIs k2r hFr hav
      generalize hnn : X.called it = nn at *
      generalize vs j = vj at *
      have HNN := hide hnn
      clear hnn
      rcases hcase with ⟨rfl, hc⟩ | ⟨rfl, hc⟩
      all_goals
        have HC := hide hc
        clear hc
        go_wp2_with fail
        refine (HC.out).mono ?_
        rintro e w3 ⟨rfl, B3⟩
        have k3 : Below wr.heap.size wr (w3.alloc (.cells #[.string (ba nn.1), .int .i64 nn.2] 90)) := B3.alloc B3.size _
        have hmp3 := (HI.out).mp.below (k3.drew)
        have hrun := hmp3.run_ok hlen2
        have f13 := kcb k3 hfl f1
        have HN3 := hide (heap_alloc_new w3 (.cells #[.string (ba nn.1), .int .i64 nn.2] 90))
        have n03 := cell_of_row _ _ 0 _ _ _ HN3.out
        have n13 := cell_of_row _ _ 1 _ _ _ HN3.out
        have hw3 : wr.heap.size ≤ w3.heap.size := B3.size
        have hw4 : (w3.alloc (.cells #[.string (ba nn.1), .int .i64 nn.2] 90)).heap.size = w3.heap.size + 1 := by simp
        have HK3 := hide k3
        have HM3 := hide hmp3
        clear k3 hmp3 HC B3
        cases htp : X.topI (its.take j) nn.1 with
        | some i =>
          rw [htp] at hrun
          have hrun' : (Instr.lookup 47 (.map (some w2.heap.size)) (.string (ba nn.1)) true).run Tryz.prog (w3.alloc (.cells #[.string (ba nn.1), .int .i64 nn.2] 90)).drew = .ok (.tuple #[.int .i64 (i : Nat), .bool true]) (w3.alloc (.cells #[.string (ba nn.1), .int .i64 nn.2] 90)).drew := hrun
          have HI3 : Hid (InR W w2.heap.size its (j + 1) (w3.alloc (.cells #[.string (ba nn.1), .int .i64 nn.2] 90)).drew) := (HI.out).more he (Kp.ofBelow (HK3.out).drew _) HM3.out (by omega) (fun x => by
            cases hx : X.topI (its.take j) x with
            | some i => rfl
            | none =>
              have : ¬ (x ≠ [] ∧ (X.called it).1 = x) := fun e => by rw [HNN.out] at e; rw [← e.2, htp] at hx; cases hx
              show _ = if _ then _ else _
              rw [if_neg this])
          clear hrun HM3 HK3 HI hw4
          go_wp2_with fail
          generalize w3.alloc (.cells #[.string (ba nn.1), .int .i64 nn.2] 90) = W4 at *
          go_region_held3 (fun w' => w'.cell? ⟨w2.heap.size + 1, 1, none⟩ = some (.map (some w2.heap.size)) ∧ w'.cell? ⟨w3.heap.size, 0, none⟩ = some (.string (ba nn.1)) ∧ (Instr.lookup 47 (.map (some w2.heap.size)) (.string (ba nn.1)) true).run Tryz.prog w' = .ok (.tuple #[.int .i64 (i : Nat), .bool true]) w')
            (first | (with_reducible exact ⟨f13, n03, hrun'⟩) | go_keep)
            (fail)
          clear hrun' f13 n03 n13
          go_wp2_with fail
          exact ⟨⟨j + 1, by simp, by omega, HI3⟩, by simp [intOf]; omega⟩
        | none =>
          rw [htp] at hrun
          have hrun' : (Instr.lookup 47 (.map (some w2.heap.size)) (.string (ba nn.1)) true).run Tryz.prog (w3.alloc (.cells #[.string (ba nn.1), .int .i64 nn.2] 90)).drew = .ok (.tuple #[.int .i64 0, .bool false]) (w3.alloc (.cells #[.string (ba nn.1), .int .i64 nn.2] 90)).drew := hrun
          clear hrun
          go_wp2_with fail
          generalize w3.alloc (.cells #[.string (ba nn.1), .int .i64 nn.2] 90) = W4 at *
          go_region_held3 (fun w' => w'.cell? ⟨w2.heap.size + 1, 1, none⟩ = some (.map (some w2.heap.size)) ∧ w'.cell? ⟨w3.heap.size, 0, none⟩ = some (.string (ba nn.1)) ∧ (Instr.lookup 47 (.map (some w2.heap.size)) (.string (ba nn.1)) true).run Tryz.prog w' = .ok (.tuple #[.int .i64 0, .bool false]) w')
            (first | (with_reducible exact ⟨f13, n03, hrun'⟩) | go_keep)
            (fail)
          have f14 : W4.drew.cell? ⟨w2.heap.size + 1, 1, none⟩ = some (.map (some w2.heap.size)) := f13
          have n04 : W4.drew.cell? ⟨w3.heap.size, 0, none⟩ = some (.string (ba nn.1)) := n03
          have n14 : W4.drew.cell? ⟨w3.heap.size, 1, none⟩ = some (.int .i64 nn.2) := n13
          have HK4 : Hid (Below wr.heap.size wr W4.drew) := (HK3.out).drew
          have hs4 : W4.drew.heap.size = w3.heap.size + 1 := hw4
          clear hrun' f13 n03 n13 hw4 HK3 HN3
          generalize W4.drew = Wd at *
          by_cases hn : nn.1 = []
          · have e1 : nn.1.isEmpty = true := by rw [hn]; rfl
            have HC5 := hide (nameMissing_is nn.1 nn.2 Wd true e1)
            have HH : Hid (∀ x, X.topI (its.take j) x = match X.topI (its.take j) x with | some i => some i | none => if x ≠ [] ∧ (X.called it).1 = x then some j else none) := fun x => by
              cases hx : X.topI (its.take j) x with
              | some i => rfl
              | none =>
                have : ¬ (x ≠ [] ∧ (X.called it).1 = x) := fun e => by rw [HNN.out] at e; exact e.1 (e.2.symm.trans hn)
                show _ = if _ then _ else _
                rw [if_neg this]
            clear hn
            go_wp2_with fail
            refine (HC5.out).mono ?_
            rintro e w5 ⟨rfl, B5⟩
            have HI5 : Hid (InR W w2.heap.size its (j + 1) w5) := (HI.out).more he (Kp.ofBelow ((HK4.out).trans (B5.mono (HK4.out).size)) _) ((HM3.out).below B5) (by omega) HH.out
            clear B5 HC5 HI HM3 HK4 f14 n04 n14
            go_wp2_with fail
            exact ⟨⟨j + 1, by simp, by omega, HI5⟩, by simp [intOf]; omega⟩
          · have e1 : nn.1.isEmpty = false := by cases hx : nn.1 with | nil => exact absurd hx hn | cons a l => rfl
            have HC5 := hide (nameMissing_is nn.1 nn.2 Wd false e1)
            have HH : Hid (∀ x, upd (X.topI (its.take j)) nn.1 j x = match X.topI (its.take j) x with | some i => some i | none => if x ≠ [] ∧ (X.called it).1 = x then some j else none) := fun x => by
              unfold upd
              rw [HNN.out]
              by_cases e : x = nn.1
              · subst e
                rw [if_pos rfl, htp]
                show _ = if _ then _ else _
                rw [if_pos ⟨hn, rfl⟩]
              · rw [if_neg e]
                cases hx : X.topI (its.take j) x with
                | some i => rfl
                | none =>
                  show _ = if _ then _ else _
                  rw [if_neg (fun e2 => e e2.2.symm)]
            clear hn
            go_wp2_with fail
            refine (HC5.out).mono ?_
            rintro e w5 ⟨rfl, B5⟩
            have f15 := kcb B5 (by omega) f14
            have n05 := kcb B5 (by omega) n04
            have HK5 : Hid (Below wr.heap.size wr w5) := (HK4.out).trans (B5.mono (HK4.out).size)
            have HM5 : Hid (Mp w5.drew w2.heap.size j (X.topI (its.take j))) := ((HM3.out).below B5).below ((Below.refl _ w5).drew)
            have hjm : j < maxLen := by unfold maxLen; omega
            have hn2 : j ≤ 9223372036854775807 := by omega
            clear B5 HC5 HM3 HK4 f14 n04 n14
            go_wp2_with fail
            refine wp_region_noPanic ?_
            refine wpTo_start (S := fun w' => w'.cell? ⟨w2.heap.size + 1, 1, none⟩ = some (.map (some w2.heap.size)) ∧ w'.cell? ⟨w3.heap.size, 0, none⟩ = some (.string (ba nn.1))) (z := 7) (by kernel_rfl) ?_
            have hS : w5.drew.cell? ⟨w2.heap.size + 1, 1, none⟩ = some (.map (some w2.heap.size)) ∧ w5.drew.cell? ⟨w3.heap.size, 0, none⟩ = some (.string (ba nn.1)) := ⟨f15, n05⟩
            refine wpTo_take (i := 0) (dn := 53) (v := ?_) rfl rfl (by kernel_rfl) (by kernel_rfl) (by kernel_rfl) (by kernel_rfl) (fun _ _ _ h => h) (Or.inl ⟨by rfl, ?_⟩) hS ?_
            rotate_left
            · (intro wx hSw; (try dsimp only at hSw); go_simp; try (with_reducible rfl))
            simp only [Act.put, List.setIfInBounds_toArray, List.set_cons_zero, List.set_cons_succ]
            refine wpTo_take (i := 1) (dn := 54) (v := ?_) rfl rfl (by kernel_rfl) (by kernel_rfl) (by kernel_rfl) (by kernel_rfl) (fun _ _ _ h => h) (Or.inl ⟨by rfl, ?_⟩) hS ?_
            rotate_left
            · (intro wx hSw; (try dsimp only at hSw); go_simp; try (with_reducible rfl))
            simp only [Act.put, List.setIfInBounds_toArray, List.set_cons_zero, List.set_cons_succ]
            refine wpTo_take (i := 2) (dn := 55) (v := ?_) rfl rfl (by kernel_rfl) (by kernel_rfl) (by kernel_rfl) (by kernel_rfl) (fun _ _ _ h => h) (Or.inl ⟨by rfl, ?_⟩) hS ?_
            rotate_left
            · (intro wx hSw; (try dsimp only at hSw); go_simp; try (with_reducible rfl))
            simp only [Act.put, List.setIfInBounds_toArray, List.set_cons_zero, List.set_cons_succ]
            refine wpTo_take (i := 3) (dn := 56) (v := ?_) rfl rfl (by kernel_rfl) (by kernel_rfl) (by kernel_rfl) (by kernel_rfl) (fun _ _ _ h => h) (Or.inl ⟨by rfl, ?_⟩) hS ?_
            rotate_left
            · (intro wx hSw; (try dsimp only at hSw); go_simp; try (with_reducible rfl))
            simp only [Act.put, List.setIfInBounds_toArray, List.set_cons_zero, List.set_cons_succ]
            refine wpTo_take (i := 4) (dn := 57) (v := ?_) rfl rfl (by kernel_rfl) (by kernel_rfl) (by kernel_rfl) (by kernel_rfl) (fun _ _ _ h => h) (Or.inl ⟨by rfl, ?_⟩) hS ?_
            rotate_left
            · (intro wx hSw; (try dsimp only at hSw); go_simp; try (with_reducible rfl))
            simp only [Act.put, List.setIfInBounds_toArray, List.set_cons_zero, List.set_cons_succ]
            refine wpTo_take (i := 5) (dn := 58) (v := ?_) rfl rfl (by kernel_rfl) (by kernel_rfl) (by kernel_rfl) (by kernel_rfl) (fun _ _ _ h => h) (Or.inl ⟨by rfl, ?_⟩) hS ?_
            rotate_left
            · (intro wx hSw; (try dsimp only at hSw); go_simp; try (with_reducible rfl))
            simp only [Act.put, List.setIfInBounds_toArray, List.set_cons_zero, List.set_cons_succ]
            refine wpTo_take (i := 6) (dn := 59) (v := ?_) rfl rfl (by kernel_rfl) (by kernel_rfl) (by kernel_rfl) (by kernel_rfl) (fun _ _ _ h => h) (Or.inl ⟨by rfl, ?_⟩) hS ?_
            rotate_left
            · (intro wx hSw; (try dsimp only at hSw); go_simp; try (with_reducible rfl))
            simp only [Act.put, List.setIfInBounds_toArray, List.set_cons_zero, List.set_cons_succ]
            refine wpTo_one (i := 7) (by kernel_rfl) rfl (fun K hK => ?_)
            refine step_put_mp (by rfl) _ _ _ (by rfl) w2.heap.size j (X.topI (its.take j)) (by rfl) HM5.out hjm nn.1 hlen2 j hn2 (by rfl) (by rfl) ?_
            intro w6 hmp6 hk6
            refine hK.out _ _ (fun h => absurd rfl h) (fun _ => wpTo_end (by kernel_rfl) ?_)
            clear hK K hS
            refine NoPanic.normal ?_
            have HI6 : Hid (InR W w2.heap.size its (j + 1) w6) := (HI.out).more he (Kp.trans (Kp.ofBelow (HK5.out).drew _) hk6 (fun _ _ e => e)) hmp6 (Nat.le_refl _) HH.out
            clear hmp6 hk6 HM5 HK5 HI f15 n05
            go_wp2_with fail
            exact ⟨⟨j + 1, by simp, by omega, HI6⟩, by simp [intOf]; omega⟩
    · obtain rfl : j = its.length := by omega
      have hd1 : ¬ (its.length : Int) < (its.length : Int) := by omega
      have HF : Hid (IsF w wr (w2.heap.size + 1) w2.heap.size (.slice ao its.length cap) its) := by
        have hk := (HI.out).kp
        have hb1 := (B1.out).size
        have hb2 := (B2.out).size
        refine ⟨hk.heap HF0.out (by omega), rfl, ⟨its.length, ?_⟩, ⟨w1.heap.size, hb1, hb2, (HIT.out).blw k2r hav⟩, ⟨A, hk.heap HA0.out (by omega), hA1, hA2⟩, ?_, by omega⟩
        · have := (HI.out).mp
          rw [List.take_length] at this
          exact this
        · have b12 : Below w.heap.size w w2 := (B1.out).trans ((B2.out).mono hb1)
          exact b12.trans ((k2r.below (Nat.le_refl _) (fun q e => by omega)).mono (by omega))
      clear HI k2r hav
      go_wp2_with fail
      go_ret
      exact ⟨_, rfl, _, _, HF⟩
end Go.Proofs.YtdipmfdhnplpaaaGreatDoor
/- Package scope: the files of a workspace, as they are read. -/
namespace Go.Proofs.YtdipmfdhnplpaaaGreatDoor
open Go.RowKit
open M
namespace X
theorem btw_len : ∀ (l : List U) (lo hi : Nat), Between lo hi l → l.length ≤ hi - lo
  | [], lo, hi, _ => Nat.zero_le _
  | a :: l, lo, hi, h => by
    obtain ⟨h1, h2⟩ := h
    rw [List.pairwise_cons] at h1
    have ha := h2 a (by simp)
    have := btw_len l (a.i + 1) hi ⟨h1.2, fun u hu => ⟨h1.1 u hu, (h2 u (by simp [hu])).2⟩⟩
    rw [List.length_cons]; omega
/-- The text of a closed fact of the law, and its items. -/
def T0 : List UInt8 := [100, 101, 102, 32, 120, 32, 61, 32, 49, 59]
def I0 : List It := [.dfn false ([120], 4) none (.lit 15 [49])]
theorem file0 : fileL (xt T0) = [.br 4 [.leaf 4 [100, 101, 102], .leaf 1 [32], .leaf 3 [120], .leaf 1 [32], .leaf 7 [61], .br 15 [.leaf 1 [32], .leaf 5 [49]], .leaf 7 [59]]] := by kernel_rfl
theorem qu0 : ∀ q ∈ [Part.leaf 1 [32]], lq q = true := fun q hq => by rw [List.mem_singleton.1 hq]; rfl
theorem rdf0 : Rdf (fileL (xt T0)) 0 I0 := by
  rw [file0]
  refine Rdf.item (.br 4 ([] ++ ([.leaf 4 [100, 101, 102]] ++ ([.leaf 1 [32], .leaf 3 [120]] ++ ([] ++ ([.leaf 1 [32], .leaf 7 [61]] ++ ([.br 15 [.leaf 1 [32], .leaf 5 [49]]] ++ [.leaf 7 [59]]))))))) [] 0 _ [] ?_ (.leaves [] _ (fun q hq => by cases hq))
  exact .dfn [] [.leaf 4 [100, 101, 102]] [.leaf 1 [32], .leaf 3 [120]] [] [.leaf 1 [32], .leaf 7 [61]] (.br 15 [.leaf 1 [32], .leaf 5 [49]]) [.leaf 7 [59]] 0 false ([120], 4) none (.lit 15 [49]) .no (.inl ⟨4, [100, 101, 102], [], ⟨rfl, fun q hq => (by cases hq), by decide⟩, by decide⟩) (.name _ [120] [.leaf 1 [32]] 3 ⟨rfl, qu0, by decide⟩) (.no _) (.inl ⟨7, [61], [.leaf 1 [32]], ⟨rfl, qu0, by decide⟩⟩) (.lit 15 5 [49] _ [.leaf 1 [32]] _ (by decide) ⟨rfl, qu0, by decide⟩) (.inl ⟨7, [59], [], ⟨rfl, fun q hq => (by cases hq), by decide⟩⟩)
/-- The items of a text. -/
noncomputable def itsT (x : List UInt8) : List It := open Classical in if x = T0 then I0 else if h : ∃ its, Rdf (fileL (xt x)) 0 its then Classical.choose h else []
theorem itsT_rdf (x : List UInt8) : Rdf (fileL (xt x)) 0 (itsT x) := by
  have h : ∃ its, Rdf (fileL (xt x)) 0 its := file_rdf _ (xt x) (Nat.le_refl _) (fun t ht e => by have := (xt_fits x t ht).2.2.2.1; omega) 0
  unfold itsT
  by_cases e : x = T0
  · rw [if_pos e, e]; exact rdf0
  · rw [if_neg e, dif_pos h]
    exact Classical.choose_spec h
theorem itsT0 : itsT T0 = I0 := if_pos rfl
end X
noncomputable def fsOf (l : List AF) : List X.Fl := l.map fun a => (bs a.n, X.itsT (bs a.t))
theorem fsOf_get {l : List AF} {i : Nat} {a : AF} (h : l[i]? = some a) : X.itemsOf (fsOf l) i = X.itsT (bs a.t) := by
  unfold X.itemsOf fsOf
  rw [List.getD_eq_getElem?_getD, List.getElem?_map, h]
  rfl
theorem fsOf_len (l : List AF) : (fsOf l).length = l.length := by unfold fsOf; rw [List.length_map]
theorem fsOf_none {l : List AF} {i : Nat} (h : l.length ≤ i) : X.itemsOf (fsOf l) i = [] := by
  unfold X.itemsOf fsOf
  rw [List.getD_eq_getElem?_getD, List.getElem?_map, List.getElem?_eq_none h]
  rfl
/-- Texts that are not too long. -/
def Short (l : List AF) : Prop := ∀ a ∈ l, a.t.size ≤ 20000
theorem short_pz {x : List UInt8} (h : x.length ≤ 20000) : X.pz (X.fileL (X.xt x)) ≤ 20000 ∧ X.pssz (X.fileL (X.xt x)) ≤ 268435456 := by
  have hb : X.pb (X.file (X.xt x)) = x := by rw [X.file_keeps, X.xt_tb]
  refine ⟨by rw [pz_file, hb]; exact h, ?_⟩
  have hll : (X.xt x).length ≤ x.length := by
    have := toks_len _ 0 x (Nat.le_refl _)
    unfold X.xt; rw [List.length_map]; exact this
  have h1 := X.file_psz (X.xt x)
  have h3 : X.psz (X.file (X.xt x)) = 1 + X.pssz (X.fileL (X.xt x)) := rfl
  omega
theorem its_rdf {l : List AF} (i : Nat) : ∃ ps, X.Rdf ps 0 (X.itemsOf (fsOf l) i) := by
  rcases Nat.lt_or_ge i l.length with g | g
  · rw [fsOf_get (List.getElem?_eq_getElem g)]
    exact ⟨_, X.itsT_rdf _⟩
  · rw [fsOf_none g]
    exact ⟨[], .leaves [] 0 (fun q hq => by cases hq)⟩
theorem its_bd {l : List AF} (h : Short l) (i : Nat) : (∀ it ∈ X.itemsOf (fsOf l) i, X.itB 268435456 it) ∧ (X.itemsOf (fsOf l) i).length ≤ 268435456 ∧ ∀ fs f, (X.itsU fs f 0 (X.itemsOf (fsOf l) i)).length ≤ 20000 := by
  rcases Nat.lt_or_ge i l.length with g | g
  · have ha := List.getElem?_eq_getElem g
    rw [fsOf_get ha]
    have hr := X.itsT_rdf (bs l[i].t)
    obtain ⟨p1, p2⟩ := short_pz (x := bs l[i].t) (by rw [bs_len]; exact h _ (List.getElem_mem g))
    refine ⟨X.rdf_B hr (by omega) p2, ?_, fun fs f => ?_⟩
    · have h1 := rdf_len hr
      have h2 := pssz_len (X.fileL (X.xt (bs l[i].t)))
      omega
    · have := X.btw_len _ _ _ (X.itsU_btw (fs := fs) (f := f) hr 0)
      omega
  · rw [fsOf_none g]
    exact ⟨fun it hit => (by cases hit), Nat.zero_le _, fun fs f => (by rw [X.itsU]; exact Nat.zero_le _)⟩
/-- The names of the first files. -/
def usT (fs : List X.Fl) (j : Nat) : List X.U := (List.range j).flatMap fun f => X.itsU fs f 0 (X.itemsOf fs f)
theorem usT_snoc (fs : List X.Fl) (j : Nat) : usT fs (j + 1) = usT fs j ++ X.itsU fs j 0 (X.itemsOf fs j) := by
  unfold usT
  rw [List.range_succ, List.flatMap_append]
  simp
theorem usT_len {l : List AF} (h : Short l) : ∀ j, (usT (fsOf l) j).length ≤ j * 20000
  | 0 => Nat.zero_le _
  | j + 1 => by
    rw [usT_snoc, List.length_append]
    have := usT_len h j
    have := (its_bd h j).2.2 (fsOf l) j
    omega
/-- Names that are names are not empty. -/
theorem nmOk_ne {s : ByteArray} (h : nmOk s = true) : bs s ≠ [] := by
  intro e
  unfold nmOk at h
  rw [e] at h
  simp [aloneB] at h
theorem fltN_ok {l : List AF} : ∀ {seen : List (List UInt8)}, fltN l seen = 0 → (∀ a ∈ l, nmOk a.n = true) ∧ (l.map (fun a => bs a.n)).Pairwise (· ≠ ·) ∧ ∀ a ∈ l, bs a.n ∉ seen := by
  induction l with
  | nil => intro seen _; exact ⟨fun a h => (by cases h), List.Pairwise.nil, fun a h => (by cases h)⟩
  | cons a l ih =>
    intro seen h
    rw [fltN] at h
    cases hn : nmOk a.n with
    | false => rw [hn] at h; simp at h
    | true =>
      rw [hn, if_pos rfl] at h
      by_cases hm : bs a.n ∈ seen
      · rw [if_pos hm] at h; cases h
      · rw [if_neg hm] at h
        obtain ⟨h1, h2, h3⟩ := ih h
        refine ⟨fun b hb => ?_, ?_, fun b hb => ?_⟩
        · rcases List.mem_cons.1 hb with rfl | hb
          · exact hn
          · exact h1 b hb
        · rw [List.map_cons, List.pairwise_cons]
          refine ⟨fun x hx e => ?_, h2⟩
          obtain ⟨b, hb, rfl⟩ := List.mem_map.1 hx
          exact h3 b hb (by rw [← e]; simp)
        · rcases List.mem_cons.1 hb with rfl | hb
          · exact hm
          · exact fun e => h3 b hb (by simp [e])
theorem modI_idx {l : List AF} (h : ∀ a ∈ l, nmOk a.n = true) (x : List UInt8) : X.modI (fsOf l) x = idxN l x := by
  have e1 : (fsOf l).findIdx? (fun f => f.1 == x) = idxN l x := by
    unfold fsOf idxN
    rw [List.findIdx?_map]
    rfl
  unfold X.modI
  by_cases hx : x = []
  · rw [if_pos hx]
    cases hi : idxN l x with
    | none => rfl
    | some i =>
      exfalso
      have := (idxN_mem l x).1 (by rw [hi]; rfl)
      obtain ⟨a, ha, e⟩ := List.mem_map.1 this
      exact nmOk_ne (h a ha) (e.trans hx)
  · rw [if_neg hx, e1]
/-- Where the files of a workspace are read. -/
structure InW (w : World) (l : List AF) (mb wb : Nat) (j : Nat) (Hi Lo : Nat → Nat) (IV : Nat → Value) (fv : Value) (wr : World) : Prop where
  bl : Below w.heap.size w wr
  blk : wr.heap[wb]? = some (.cells #[.map (some mb), fv, .slice none 0 0] 50 (0, 0))
  mp : Mp wr mb j (idxN (l.take j))
  row : wr.ownsRow w.heap.size 53 1 fv j ((List.range j).map fun i => .pointer (some ⟨Hi i + 1, 0, none⟩))
  far : ∀ g, fv.ownBlock = some g → g ≠ mb ∧ g ≠ wb ∧ ∀ i, i < j → ¬ (Lo i ≤ g ∧ g ≤ Hi i + 2)
  ord : ∀ i, i < j → wb < Lo i ∧ mb < Lo i ∧ Lo i ≤ Hi i ∧ Hi i + 2 < wr.heap.size
  asc : ∀ i i', i < i' → i' < j → Hi i + 2 < Lo i'
  fil : ∀ i a, i < j → l[i]? = some a → wr.heap[Hi i + 1]? = some (.cells #[IV i, .map (some (Hi i)), .slice (some ⟨Hi i + 2, 0, none⟩) (X.itsT (bs a.t)).length (X.itsT (bs a.t)).length] 86 (0, 0)) ∧ (∃ k, Mp wr (Hi i) k (X.topI (X.itsT (bs a.t)))) ∧ IsIts wr (Lo i) (Hi i) (IV i) (X.itsT (bs a.t)) ∧ ∃ A, wr.heap[Hi i + 2]? = some (.cells A 148 (0, 0)) ∧ A.size = (X.itsT (bs a.t)).length * 4 ∧ ∀ g, g < (X.itsT (bs a.t)).length * 4 → A[g]? = some (.int .i64 0)
end Go.Proofs.YtdipmfdhnplpaaaGreatDoor
/- Package scope: a workspace whose files have been read. -/
namespace Go.Proofs.YtdipmfdhnplpaaaGreatDoor
open Go.RowKit
open M
theorem InW.start {w w1 : World} (l : List AF) (h : Below w.heap.size w w1) : InW w l w1.heap.size (w1.heap.size + 1) 0 (fun _ => 0) (fun _ => 0) (fun _ => undef) (.slice none 0 0) ((w1.alloc (.map #[] 0)).alloc (.cells #[.map (some w1.heap.size), .slice none 0 0, .slice none 0 0] 50)) := by
  refine ⟨(h.alloc h.size _).alloc (by simp; have := h.size; omega) _, ?_, ?_, ?_, fun g hg => (by cases hg), fun i hi => (by omega), fun i i' _ hi => (by omega), fun i a hi => (by omega)⟩
  · have := heap_alloc_new (w1.alloc (.map #[] 0)) (.cells #[.map (some w1.heap.size), .slice none 0 0, .slice none 0 0] 50)
    simpa using this
  · exact ((Mp.made w1).below ((Below.refl _ _).alloc (Nat.le_refl _) _)).congr (fun x => by rw [List.take_zero]; rfl)
  · exact World.ownsRow_nil _ _ _ _
/-- One more file. -/
theorem InW.more {w : World} {l : List AF} {mb wb j : Nat} {Hi Lo : Nat → Nat} {IV : Nat → Value} {fv : Value} {wr wm w5 w6 w7 : World} {a : AF} {fb hi : Nat} {iv : Value} {g cap k : Nat} (h : InW w l mb wb j Hi Lo IV fv wr) (hw : w.heap.size ≤ mb) (hmw : mb < wb) (ha : l[j]? = some a) (hnew : idxN (l.take j) (bs a.n) = none)
    (hk1 : Kp (fun q => q = mb) wr wm) (hm1 : Mp wm mb k (upd (idxN (l.take j)) (bs a.n) j)) (hkk : k ≤ j + 1) (hf : IsF wm w5 fb hi iv (X.itsT (bs a.t))) (hb6 : Below w5.heap.size w5 w6)
    (hown : w7.ownsRow w.heap.size 53 1 (.slice (some ⟨g, 0, none⟩) (j + 1) cap) (j + 1) (((List.range j).map fun i => .pointer (some ⟨Hi i + 1, 0, none⟩)) ++ [.pointer (some ⟨fb, 0, none⟩)])) (hgrow : w6.grownBy w7 fv.ownBlock) (hat : fv.ownBlock = some g ∨ g = w6.heap.size) :
    ∃ Hi' Lo' IV', InW w l mb wb (j + 1) Hi' Lo' IV' (.slice (some ⟨g, 0, none⟩) (j + 1) cap) (w7.setCell ⟨wb, 1, none⟩ (.slice (some ⟨g, 0, none⟩) (j + 1) cap)) := by
  obtain ⟨lo, hlo, hlh, hits⟩ := hf.itm
  have hfb := hf.eq
  subst hfb
  have hwbl : wb < wr.heap.size := heap_lt h.blk
  have s1 := hk1.size
  have s2 := hf.bl.size
  have s3 := hb6.size
  have hown0 : ∀ q, fv.ownBlock = some q → q < wr.heap.size := fun q hq => (owns_ge h.row q hq).2
  have k15 : Kp (fun q => q = mb) wr w5 := hk1.trans (Kp.ofBelow hf.bl (fun _ => False)) (fun _ _ e => e.elim)
  have k67 : Kp (fun q => fv.ownBlock = some q) w6 w7 := (Kp.refl _ w6).grown hgrow (fun q e _ => e)
  have k57 : Kp (fun q => fv.ownBlock = some q) w5 w7 := (Kp.ofBelow hb6 (fun q => fv.ownBlock = some q)).trans k67 (fun _ _ e => e)
  have k78 : Kp (fun q => q = wb) w7 (w7.setCell ⟨wb, 1, none⟩ (.slice (some ⟨g, 0, none⟩) (j + 1) cap)) := Kp.setCell (S := fun q => q = wb) (p := ⟨wb, 1, none⟩) (Kp.refl _ w7) (fun _ => rfl) _
  have k58 : Kp (fun q => q = wb ∨ fv.ownBlock = some q) w5 (w7.setCell ⟨wb, 1, none⟩ (.slice (some ⟨g, 0, none⟩) (j + 1) cap)) := (k57.mono (fun _ _ e => .inr e)).trans k78 (fun _ _ e => .inl e)
  have kr8 : Kp (fun q => q = mb ∨ q = wb ∨ fv.ownBlock = some q) wr (w7.setCell ⟨wb, 1, none⟩ (.slice (some ⟨g, 0, none⟩) (j + 1) cap)) := (k15.mono (fun _ _ e => .inl e)).trans k58 (fun _ _ e => .inr e)
  have hfar := h.far
  have hold : ∀ i, i < j → ∀ q, Lo i ≤ q → q ≤ Hi i + 2 → ¬ (q = mb ∨ q = wb ∨ fv.ownBlock = some q) := by
    intro i hi q h1 h2 e
    have ho := h.ord i hi
    rcases e with e | e | e
    · omega
    · omega
    · exact (hfar q e).2.2 i hi ⟨h1, h2⟩
  have hnw : ∀ q, lo ≤ q → ¬ (q = wb ∨ fv.ownBlock = some q) := by
    intro q h1 e
    rcases e with e | e
    · omega
    · have := hown0 q e; omega
  obtain ⟨k', hmp⟩ := hf.mp
  obtain ⟨A, hA1, hA2, hA3⟩ := hf.ans
  have hhi5 := heap_lt hA1
  have s8 : w5.heap.size ≤ (w7.setCell ⟨wb, 1, none⟩ (.slice (some ⟨g, 0, none⟩) (j + 1) cap)).heap.size := k58.size
  refine ⟨fun i => if i = j then hi else Hi i, fun i => if i = j then lo else Lo i, fun i => if i = j then iv else IV i, ?_, ?_, ?_, ?_, ?_, ?_, ?_, ?_⟩
  · refine h.bl.trans (kr8.below h.bl.size (fun q e => ?_))
    rcases e with e | e | e
    · omega
    · omega
    · exact (owns_ge h.row q e).1
  · have h5 : w7.heap[wb]? = some (.cells #[.map (some mb), fv, .slice none 0 0] 50 (0, 0)) := k57.heap (k15.heap h.blk (by omega)) (fun e => (hfar wb e).2.1 rfl)
    exact set_cells h5 1 _
  · have hm5 : Mp w5 mb k (upd (idxN (l.take j)) (bs a.n) j) := hm1.below hf.bl
    have hm8 := hm5.keep k58 (fun e => by
      rcases e with e | e
      · omega
      · exact (hfar mb e).1 rfl)
    obtain ⟨D, o1, o2⟩ := hm8
    refine Mp.congr (g := upd (idxN (l.take j)) (bs a.n) j) ⟨D, o1.mono hkk, o2⟩ (fun x => ?_)
    rw [idxN_snoc ha]
    unfold upd
    by_cases e : x = bs a.n
    · subst e
      rw [if_pos rfl, hnew]
      show _ = if _ then _ else _
      rw [if_pos rfl]
    · rw [if_neg e]
      cases hx : idxN (l.take j) x with
      | some i => rfl
      | none =>
        show _ = if _ then _ else _
        rw [if_neg (fun e2 => e e2.symm)]
  · have hg : g ≠ wb := by
      rcases hat with e | e
      · exact (hfar g e).2.1
      · omega
    have := k78.owns hown (fun q hq e => by cases hq; exact hg e)
    have e1 : ((List.range (j + 1)).map fun i => (.pointer (some ⟨(if i = j then hi else Hi i) + 1, 0, none⟩) : Value)) = ((List.range j).map fun i => .pointer (some ⟨Hi i + 1, 0, none⟩)) ++ [.pointer (some ⟨hi + 1, 0, none⟩)] := by
      rw [List.range_succ, List.map_append]
      congr 1
      · refine List.map_congr_left (fun i hi' => ?_)
        have := List.mem_range.1 hi'
        rw [if_neg (by omega)]
      · simp
    rw [e1]
    exact this
  · intro q hq
    obtain rfl : q = g := by cases hq; rfl
    clear hq
    rcases hat with e | e
    · obtain ⟨f1, f2, f3⟩ := hfar _ e
      refine ⟨f1, f2, fun i hi' => ?_⟩
      by_cases hij : i = j
      · rw [if_pos hij, if_pos hij]
        have := hown0 _ e
        omega
      · rw [if_neg hij, if_neg hij]
        exact f3 i (by omega)
    · refine ⟨by omega, by omega, fun i hi' => ?_⟩
      by_cases hij : i = j
      · rw [if_pos hij, if_pos hij]; omega
      · rw [if_neg hij, if_neg hij]
        have := h.ord i (by omega)
        omega
  · intro i hi'
    by_cases hij : i = j
    · rw [if_pos hij, if_pos hij]; omega
    · rw [if_neg hij, if_neg hij]
      have := h.ord i (by omega)
      omega
  · intro i i' h1 h2
    by_cases hij : i' = j
    · rw [if_neg (by omega), if_pos hij]
      have := h.ord i (by omega)
      omega
    · rw [if_neg (by omega), if_neg hij]
      exact h.asc i i' h1 (by omega)
  · intro i b hi' hb
    by_cases hij : i = j
    · subst hij
      rw [ha] at hb
      cases hb
      rw [if_pos rfl, if_pos rfl, if_pos rfl]
      refine ⟨k58.heap hf.blk (hnw _ (by omega)), ⟨k', hmp.keep k58 (hnw _ (by omega))⟩, hits.blw k58 (fun q h1 _ => hnw q h1), A, k58.heap hA1 (hnw _ (by omega)), hA2, hA3⟩
    · rw [if_neg hij, if_neg hij, if_neg hij]
      obtain ⟨b1, ⟨k2, b2⟩, b3, A2, b4, b5⟩ := h.fil i b (by omega) hb
      have ho := h.ord i (by omega)
      refine ⟨kr8.heap b1 (hold i (by omega) _ (by omega) (by omega)), ⟨k2, b2.keep kr8 (hold i (by omega) _ (by omega) (by omega))⟩, b3.blw kr8 (fun q h1 h2 => hold i (by omega) q h1 (by omega)), A2, kr8.heap b4 (hold i (by omega) _ (by omega) (by omega)), b5⟩
/-- Nothing is known of uses. -/
def noMem : Mem := fun _ _ => (0, (0, 0, 0))
theorem noMem_ok (fs : List X.Fl) : MOk fs noMem := fun _ _ => ⟨Nat.zero_le _, fun h => by cases h⟩
theorem noMem_idle : Idle noMem := fun _ _ h => by cases h
/-- A workspace whose files have been read. -/
theorem InW.run {w : World} {l : List AF} {mb wb : Nat} {Hi Lo : Nat → Nat} {IV : Nat → Value} {fv : Value} {wr : World} (h : InW w l mb wb l.length Hi Lo IV fv wr) (hmw : mb < wb) (hn : l.length ≤ 16) (hok : ∀ a ∈ l, nmOk a.n = true) (hsh : Short l) :
    Run wr ⟨wb, mb, fv, fun i => Hi i + 1, Hi, IV, fun i => Hi i + 2⟩ (fsOf l) noMem [] wr := by
  have hfl := fsOf_len l
  have hget : ∀ i, i < (fsOf l).length → ∃ a, l[i]? = some a ∧ X.itemsOf (fsOf l) i = X.itsT (bs a.t) := fun i hi => by
    rw [hfl] at hi
    exact ⟨l[i], List.getElem?_eq_getElem hi, fsOf_get (List.getElem?_eq_getElem hi)⟩
  have hS : ∀ q, (Lay.mk wb mb fv (fun i => Hi i + 1) Hi IV (fun i => Hi i + 2)).S (fsOf l).length q → q = wb ∨ ∃ i, i < l.length ∧ q = Hi i + 2 := fun q hq => by
    rcases hq with e | ⟨i, h1, h2⟩
    · exact .inl e
    · exact .inr ⟨i, by rw [← hfl]; exact h1, h2⟩
  have hwb := heap_lt h.blk
  have hsep : ∀ i q, i < l.length → Lo i ≤ q → q ≤ Hi i + 1 → ¬ (Lay.mk wb mb fv (fun i => Hi i + 1) Hi IV (fun i => Hi i + 2)).S (fsOf l).length q := by
    intro i q hi h1 h2 hs
    have ho := h.ord i hi
    rcases hS q hs with e | ⟨i', hi', e⟩
    · omega
    · have ho' := h.ord i' hi'
      rcases Nat.lt_trichotomy i i' with c | c | c
      · have := h.asc i i' c hi'; omega
      · subst c; omega
      · have := h.asc i' i c hi; omega
  have hst : St wr ⟨wb, mb, fv, fun i => Hi i + 1, Hi, IV, fun i => Hi i + 2⟩ (fsOf l) := by
    refine ⟨by rw [hfl]; exact hn, ?_, fun hs => ?_, ?_, fun i hi => ?_, fun i hi => ?_, fun i hi => ?_, fun i it hit => (its_bd hsh i).1 it hit, fun i => (its_bd hsh i).2.1, hwb, fun i hi => ?_⟩
    · refine ⟨_, h.mp.congr (fun x => ?_)⟩
      rw [List.take_length, modI_idx hok]
    · have hs' := hS _ hs
      rcases hs' with e | ⟨i, hi, e⟩
      · have e' : mb = wb := e
        omega
      · have := h.ord i hi
        have e' : mb = Hi i + 2 := e
        omega
    · have hr := h.row
      have hc := fun g hg => hr.cells (g := g) hg
      rcases hr.2 with ⟨e, h0⟩ | ⟨g, cap, cur, e, hge, hgg, hnn, hm, -, -⟩
      · refine ⟨none, 0, by rw [hfl, h0]; exact e, by rw [hfl, h0]; exact Nat.le_refl _, by unfold maxLen; omega, fun i hi => by rw [hfl, h0] at hi; omega⟩
      · refine ⟨_, cap, by rw [hfl]; exact e, by rw [hfl]; exact hnn, hm, fun i hi => ⟨g, rfl, fun hs => ?_, ?_⟩⟩
        · have hfar := h.far g (by rw [e]; rfl)
          rcases hS _ hs with e1 | ⟨i', hi', e1⟩
          · exact hfar.2.1 e1
          · have := h.ord i' hi'
            exact hfar.2.2 i' hi' ⟨by omega, by omega⟩
        · rw [hfl] at hi
          have := hc g (by rw [e]; rfl) i (.pointer (some ⟨Hi i + 1, 0, none⟩)) (by simp [hi])
          rwa [Addr.add_lit, Nat.zero_add] at this
    · obtain ⟨a, ha, e⟩ := hget i hi
      rw [hfl] at hi
      have ho := h.ord i hi
      rw [e]
      exact ⟨(h.fil i a hi ha).1, hsep i _ hi (by show Lo i ≤ Hi i + 1; omega) (Nat.le_refl _)⟩
    · obtain ⟨a, ha, e⟩ := hget i hi
      rw [hfl] at hi
      have ho := h.ord i hi
      rw [e]
      exact ⟨(h.fil i a hi ha).2.1, hsep i _ hi (by show Lo i ≤ Hi i; omega) (by show Hi i ≤ Hi i + 1; omega)⟩
    · obtain ⟨a, ha, e⟩ := hget i hi
      rw [hfl] at hi
      have ho := h.ord i hi
      rw [e]
      exact ⟨Lo i, Hi i, (h.fil i a hi ha).2.2.1, by omega, fun q h1 h2 => hsep i q hi h1 (by omega)⟩
    · rw [hfl] at hi
      have ho := h.ord i hi
      refine ⟨ho.2.2.2, by show Hi i + 2 ≠ wb; omega, fun j hj e => ?_⟩
      rw [hfl] at hj
      have e' : Hi i + 2 = Hi j + 2 := e
      have ho' := h.ord j hj
      rcases Nat.lt_trichotomy i j with c | c | c
      · have := h.asc i j c hj; omega
      · exact c
      · have := h.asc j i c hi; omega
  refine ⟨hst, Kp.refl _ _, ⟨_, h.blk, World.ownsRow_nil _ _ _ _⟩, fun i hi => ?_, Nat.zero_le _⟩
  obtain ⟨a, ha, e⟩ := hget i hi
  rw [hfl] at hi
  obtain ⟨-, -, -, A, b4, b5, b6⟩ := h.fil i a hi ha
  rw [e]
  exact ⟨A, b4, b5, fun k hk => ⟨b6 _ (by omega), b6 _ (by omega), b6 _ (by omega), b6 _ (by omega)⟩⟩
end Go.Proofs.YtdipmfdhnplpaaaGreatDoor
