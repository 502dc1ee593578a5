/- Package colour: places, and how many units a text has. -/
import Derived.Test.YtgjbafamiggafaaGreatDoorCze
import Derived.Laws.RangeAny
import Derived.Lib.OthersKept
namespace Go.Proofs.YtgjbafamiggafaaGreatDoor
open Go.RowKit
open M
/-- One unit or two. -/
def UNum (w : World) (e : Ending) (w' : World) : Prop := ∃ n : Nat, e = .returned (.int .i64 n) ∧ n ≤ 2 ∧ w' = w
theorem units_any (c : Int) (w : World) : Calls Tryz.prog 47 #[.int .i32 c] w fun e w' => UNum w e w' := by
  by_cases h : 65535 < c
  · go_enter Tryz.func47, Tryz.ntmps47
    go_wp2_with fail
    go_ret
    exact ⟨2, rfl, by omega, rfl⟩
  · go_enter Tryz.func47, Tryz.ntmps47
    go_wp2_with fail
    go_ret
    exact ⟨1, rfl, by omega, rfl⟩
theorem dec_step (s : ByteArray) (pos : Nat) (h : pos < s.size) : 1 ≤ (Utf8.decode s pos).2 := by
  by_cases ha : (s[pos]'h).toNat < 128
  · rw [decode_ascii s pos h ha]; exact Nat.le_refl _
  · exact (decode_high s pos h (by omega)).2
theorem iterPos_of {w : World} {k : Nat} {s : ByteArray} {pos : Nat} (h : w.heap[k]? = some (.stringIter s pos)) : w.iterPos k = pos := by
  unfold World.iterPos
  rw [h]
set_option maxRecDepth 100000 in
set_option maxHeartbeats 4000000 in
theorem unitsOf_any (s : ByteArray) (w : World) (hs : s.size ≤ 1073741824) : Calls Tryz.prog 27 #[.string s] w fun e w' => Num w e w' := by
  have hI0 : (w.iter s 0).heap[w.heap.size]? = some (.stringIter s 0) := World.iter_heap w s 0
  have hB0 : Below w.heap.size w (w.iter s 0) := (Below.refl _ w).alloc (Nat.le_refl _) _
  have HI0 : Hid ((w.iter s 0).heap[w.heap.size]? = some (.stringIter s 0) ∧ Below w.heap.size w (w.iter s 0)) := ⟨hI0, hB0⟩
  clear hI0 hB0
  go_enter Tryz.func27, Tryz.ntmps27
  go_wp2_with fail
  generalize w.iter s 0 = W0 at *
  go_loopw [3] (fun v wr => ∃ n pos : Nat, v = .int .i64 n ∧ n ≤ 2 * pos ∧ Hid (wr.heap[w.heap.size]? = some (.stringIter s pos) ∧ Below w.heap.size w wr)) (fun _ w' => s.size - w'.iterPos w.heap.size)
  case atStart => exact ⟨0, 0, rfl, Nat.zero_le _, HI0⟩
  case round =>
    obtain ⟨n, pos, rfl, hn, HI⟩ := hrel
    clear HI0
    by_cases hp : pos < s.size
    · have hnx := fun ty => Lib.run_next_any_at (P := Tryz.prog) wr w.heap.size s pos ty (HI.out).1 hp
      have hst := dec_step s pos hp
      have HI2 : Hid ((wr.iterAt w.heap.size s (pos + (Utf8.decode s pos).2)).heap[w.heap.size]? = some (.stringIter s (pos + (Utf8.decode s pos).2)) ∧ Below w.heap.size w (wr.iterAt w.heap.size s (pos + (Utf8.decode s pos).2))) := ⟨Lib.iterAt_heap _ _ _ _ _ (HI.out).1, Lib.below_iterAt (HI.out).2 (Nat.le_refl _) _ _⟩
      have HM : Hid (wr.iterPos w.heap.size = pos) := iterPos_of (HI.out).1
      have HM2 := hide (iterPos_of (HI2.out).1)
      have HU := hide (units_any (Utf8.decode s pos).1 (wr.iterAt w.heap.size s (pos + (Utf8.decode s pos).2)))
      clear HI
      generalize (Utf8.decode s pos).1 = c at *
      generalize (Utf8.decode s pos).2 = d at *
      generalize wr.iterAt w.heap.size s (pos + d) = W2 at *
      go_wp2_with fail
      refine (HU.out).mono ?_
      rintro e w3 ⟨m, rfl, hm, rfl⟩
      have h1 : (n : Int) + (m : Int) ≤ 9223372036854775807 := by omega
      clear hnx HU
      go_wp2_with fail
      refine ⟨⟨n + m, pos + d, by simp, by omega, HI2⟩, ?_⟩
      rw [HM.out, HM2.out]
      omega
    · have hnx := fun ty => Lib.run_next_end_at (P := Tryz.prog) wr w.heap.size s pos ty (HI.out).1 hp
      have HF := hide (HI.out).2
      clear HI
      go_wp2_with fail
      go_ret
      exact ⟨_, rfl, HF.out⟩
end Go.Proofs.YtgjbafamiggafaaGreatDoor
/- Package colour: places. -/
namespace Go.Proofs.YtgjbafamiggafaaGreatDoor
open Go.RowKit
open M
/-- Two numbers. -/
def BRes (w : World) (e : Ending) (w' : World) : Prop := ∃ a b : Int, e = .returned (.tuple #[.int .i64 a, .int .i64 b]) ∧ Below w.heap.size w w'
set_option maxRecDepth 100000 in
set_option maxHeartbeats 4000000 in
theorem pbehind_any (a b c d : Nat) (w : World) (ha : a ≤ 4294967296) (hb : b ≤ 4294967296) (hc : c ≤ 4294967296) (hd : d ≤ 4294967296) :
    Calls Tryz.prog 26 #[.agg #[.int .i64 a, .int .i64 b], .agg #[.int .i64 c, .int .i64 d]] w fun e w' => BRes w e w' := by
  have q1 : -9223372036854775808 ≤ (b : Int) - (d : Int) := by omega
  have q2 : (b : Int) - (d : Int) ≤ 9223372036854775807 := by omega
  have q3 : -9223372036854775808 ≤ (a : Int) - (c : Int) := by omega
  have q4 : (a : Int) - (c : Int) ≤ 9223372036854775807 := by omega
  have kA : Below w.heap.size w ((w.alloc (.cells #[.int .i64 a, .int .i64 b] 49)).alloc (.cells #[.int .i64 c, .int .i64 d] 49)) := ((Below.refl _ w).alloc (Nat.le_refl _) _).alloc (by simp) _
  have HK := hide kA
  have hA := heap_alloc_new (w.alloc (.cells #[.int .i64 a, .int .i64 b] 49)) (.cells #[.int .i64 c, .int .i64 d] 49)
  have hB := (heap_alloc_old (w.alloc (.cells #[.int .i64 a, .int .i64 b] 49)) (.cells #[.int .i64 c, .int .i64 d] 49) (by simp)).trans (heap_alloc_new w (.cells #[.int .i64 a, .int .i64 b] 49))
  rw [show (w.alloc (.cells #[.int .i64 a, .int .i64 b] 49)).heap.size = w.heap.size + 1 by simp] at hA
  have x0 := cell_of_row _ _ 0 _ _ _ hB
  have x1 := cell_of_row _ _ 1 _ _ _ hB
  have y0 := cell_of_row _ _ 0 _ _ _ hA
  have y1 := cell_of_row _ _ 1 _ _ _ hA
  clear kA hA hB
  by_cases h : a = c
  · subst h
    go_enter Tryz.func26, Tryz.ntmps26
    go_upto_region 2 with fail
    generalize (w.alloc (.cells #[.int .i64 a, .int .i64 b] 49)).alloc (.cells #[.int .i64 a, .int .i64 d] 49) = W at *
    go_quiet (fail)
    go_wp2_with fail
    go_ret2
    exact ⟨_, _, rfl, belowN HK.out _⟩
  · have q : ((a : Int) == (c : Int)) = false := by simp; omega
    go_enter Tryz.func26, Tryz.ntmps26
    go_upto_region 3 with fail
    generalize (w.alloc (.cells #[.int .i64 a, .int .i64 b] 49)).alloc (.cells #[.int .i64 c, .int .i64 d] 49) = W at *
    go_quiet (fail)
    go_wp2_with fail
    go_ret2
    exact ⟨_, _, rfl, belowN HK.out _⟩
theorem res_pl {fn : Func} {t : Tmp} (h : fn.results = #[.cell t 49]) (tmps : Array Value) (W : World) {b : Nat} {x n : Int} (ht : tmps[t]?.getD undef = .pointer (some ⟨b, 0, none⟩)) (hb : W.heap[b]? = some (.cells #[.int .i64 x, .int .i64 n] 49 (0, 0))) :
    (results fn tmps).run Tryz.prog W = .ok (.agg #[.int .i64 x, .int .i64 n]) W := by
  have m0 := cell_of_row W _ 0 _ _ _ hb
  have m1 := cell_of_row W _ 1 _ _ _ hb
  simp [results, h, go_sem, ht, m0, m1]
theorem wrapN {a b : Nat} (h : a + b ≤ 9223372036854775807) : IntKind.i64.wrap ((a : Int) + (b : Int)) = ((a + b : Nat) : Int) := by
  rw [IntKind.wrap_i64]
  omega
/-- A place that is not far. -/
def PRes (a b k : Nat) (w : World) (e : Ending) (w' : World) : Prop := ∃ a' b' : Nat, e = .returned (.agg #[.int .i64 a', .int .i64 b']) ∧ Hid (a' ≤ a + k ∧ b' ≤ b + 2 * k ∧ Below w.heap.size w w')
/-- While the characters are gone through. -/
structure InPl (w : World) (s : ByteArray) (x y pos : Nat) (wr : World) : Prop where
  pl : wr.heap[w.heap.size]? = some (.cells #[.int .i64 x, .int .i64 y] 49 (0, 0))
  rs : wr.heap[w.heap.size + 1]? = some (.cells #[.int .i64 0, .int .i64 0] 49 (0, 0))
  it : wr.heap[w.heap.size + 2]? = some (.stringIter s pos)
  bl : Below w.heap.size w wr
theorem InPl.at (w : World) (s : ByteArray) (x y pos p2 : Nat) (wr : World) (h : InPl w s x y pos wr) : InPl w s x y p2 (wr.iterAt (w.heap.size + 2) s p2) :=
  ⟨(Lib.iterAt_other _ _ _ _ _ (by omega)).trans h.pl, (Lib.iterAt_other _ _ _ _ _ (by omega)).trans h.rs, Lib.iterAt_heap _ _ _ _ _ h.it, Lib.below_iterAt h.bl (by omega) _ _⟩
theorem InPl.set1 {w : World} {s : ByteArray} {x y pos : Nat} {wr : World} (h : InPl w s x y pos wr) (z : Nat) : InPl w s x z pos (wr.setCell ⟨w.heap.size, 1, none⟩ (.int .i64 z)) := by
  have k : Kp (fun q => q = w.heap.size) wr (wr.setCell ⟨w.heap.size, 1, none⟩ (.int .i64 z)) := On.set (Kp.refl _ wr) 1 _
  exact ⟨set_cells h.pl 1 _, k.heap h.rs (by omega), (k.heap h.it (by omega)), h.bl.trans (k.below h.bl.size (fun q e => by omega))⟩
theorem InPl.set2 {w : World} {s : ByteArray} {x y pos : Nat} {wr : World} (h : InPl w s x y pos wr) (x2 y2 : Nat) : InPl w s x2 y2 pos ((wr.setCell ⟨w.heap.size, 0, none⟩ (.int .i64 x2)).setCell ⟨w.heap.size, 1, none⟩ (.int .i64 y2)) := by
  have k : Kp (fun q => q = w.heap.size) wr ((wr.setCell ⟨w.heap.size, 0, none⟩ (.int .i64 x2)).setCell ⟨w.heap.size, 1, none⟩ (.int .i64 y2)) := On.set (On.set (Kp.refl _ wr) 0 _) 1 _
  exact ⟨set_cells (set_cells h.pl 0 _) 1 _, k.heap h.rs (by omega), (k.heap h.it (by omega)), h.bl.trans (k.below h.bl.size (fun q e => by omega))⟩
set_option maxRecDepth 100000 in
set_option maxHeartbeats 4000000 in
theorem past_any (a b : Nat) (s : ByteArray) (w : World) (ha : a ≤ 4294967296) (hb : b ≤ 4294967296) (hs : s.size ≤ 1073741824) :
    Calls Tryz.prog 29 #[.agg #[.int .i64 a, .int .i64 b], .string s] w fun e w' => PRes a b s.size w e w' := by
  have HI0 : Hid (InPl w s a b 0 (((w.alloc (.cells #[.int .i64 a, .int .i64 b] 49)).alloc (.cells #[.int .i64 0, .int .i64 0] 49)).iter s 0)) := by
    refine ⟨?_, ?_, ?_, ((((Below.refl _ w).alloc (Nat.le_refl _) _).alloc (by simp) _).alloc (by simp; omega) _)⟩
    · exact (heap_alloc_old _ _ (by simp; omega)).trans ((heap_alloc_old _ _ (by simp)).trans (heap_alloc_new w _))
    · refine (heap_alloc_old _ _ (by simp)).trans ?_
      have := heap_alloc_new (w.alloc (.cells #[.int .i64 a, .int .i64 b] 49)) (.cells #[.int .i64 0, .int .i64 0] 49)
      simpa using this
    · have := World.iter_heap ((w.alloc (.cells #[.int .i64 a, .int .i64 b] 49)).alloc (.cells #[.int .i64 0, .int .i64 0] 49)) s 0
      rw [show ((w.alloc (.cells #[.int .i64 a, .int .i64 b] 49)).alloc (.cells #[.int .i64 0, .int .i64 0] 49)).heap.size = w.heap.size + 2 by simp] at this
      exact this
  go_enter Tryz.func29, Tryz.ntmps29
  go_wp2_with fail
  generalize (((w.alloc (.cells #[.int .i64 a, .int .i64 b] 49)).alloc (.cells #[.int .i64 0, .int .i64 0] 49)).iter s 0) = W0 at *
  have hadd : w.heap.size + 1 + 1 = w.heap.size + 2 := rfl
  simp only [hadd]
  go_loopw [] (fun wr => ∃ x y pos k : Nat, k ≤ pos ∧ k ≤ s.size ∧ x ≤ a + k ∧ y ≤ b + 2 * k ∧ Hid (InPl w s x y pos wr)) (fun w' => s.size - w'.iterPos (w.heap.size + 2))
  case atStart => exact ⟨a, b, 0, 0, Nat.le_refl _, Nat.zero_le _, Nat.le_refl _, Nat.le_refl _, HI0⟩
  case round =>
    obtain ⟨x, y, pos, k, hkp, hks, hx, hy, HI⟩ := hrel
    clear HI0
    by_cases hp : pos < s.size
    · have hnx := fun ty => Lib.run_next_any_at (P := Tryz.prog) wr (w.heap.size + 2) s pos ty (HI.out).it hp
      have hst := dec_step s pos hp
      have HI2 := hide ((HI.out).at w s x y pos (pos + (Utf8.decode s pos).2) wr)
      have HM : Hid (wr.iterPos (w.heap.size + 2) = pos) := iterPos_of (HI.out).it
      have HU := hide (fun W => units_any (Utf8.decode s pos).1 W)
      clear HI
      generalize (Utf8.decode s pos).1 = c at *
      generalize (Utf8.decode s pos).2 = d at *
      generalize wr.iterAt (w.heap.size + 2) s (pos + d) = W2 at *
      have x0 : W2.cell? ⟨w.heap.size, 0, none⟩ = some (.int .i64 x) := cell_of_row W2 _ 0 _ _ _ (HI2.out).pl
      have x1 : W2.cell? ⟨w.heap.size, 1, none⟩ = some (.int .i64 y) := cell_of_row W2 _ 1 _ _ _ (HI2.out).pl
      have z0 := frozen_of_row W2 _ 0 _ _ (HI2.out).pl
      have z1 := frozen_of_row W2 _ 1 _ _ (HI2.out).pl
      by_cases hc : (c : Int) = 10
      · have q : ((c : Int) == 10) = true := by simp [hc]
        have hx1 : (x : Int) + 1 ≤ 9223372036854775807 := by omega
        have HI3 := hide ((HI2.out).set2 (x + 1) 0)
        have HM3 := hide (iterPos_of (HI3.out).it)
        clear HI2 HU hc
        go_wp2_with fail
        exact ⟨⟨x + 1, 0, pos + d, k + 1, by omega, by omega, by omega, by omega, HI3⟩, Nat.lt_of_le_of_lt (Nat.le_of_eq (congrArg (s.size - ·) HM3.out)) (by rw [HM.out]; omega)⟩
      · have q : ((c : Int) == 10) = false := by simpa using hc
        have HC := hide ((HU.out) W2.drew)
        clear HU hc x0 z0
        go_upto_region 6 with fail
        go_wp2_with fail
        refine wpTo_start (S := fun w' => w'.cell? ⟨w.heap.size, 1, none⟩ = some (.int .i64 y)) (z := 6) (by kernel_rfl) ?_
        have hS : W2.drew.cell? ⟨w.heap.size, 1, none⟩ = some (.int .i64 y) := x1
        iterate 3 (refine wpTo_nx0 (v := ?_) rfl rfl (by kernel_rfl) (by kernel_rfl) (by kernel_rfl) (by kernel_rfl) (fun _ _ _ h => h) (Or.inl ⟨by rfl, ?_⟩) hS ?_; rotate_left; (· (intro wx hSw; (try dsimp only at hSw); go_simp; try (with_reducible rfl))); simp only [Act.put, List.setIfInBounds_toArray, List.set_cons_zero, List.set_cons_succ])
        refine wpTo_one (i := 3) (by kernel_rfl) rfl (fun K hK => ?_)
        go_simp
        refine (HC.out).mono ?_
        rintro e w3 ⟨m, rfl, hm, rfl⟩
        dsimp only
        refine hK.out _ _ (fun _ => hS) (fun _ => ?_)
        clear hK K HC hnx
        have h1 : (y : Int) + (m : Int) ≤ 9223372036854775807 := by omega
        have hw : IntKind.i64.wrap ((y : Int) + (m : Int)) = ((y + m : Nat) : Int) := wrapN (by omega)
        refine wpTo_one (i := 4) (by kernel_rfl) rfl (fun K hK => ?_)
        go_simp
        refine hK.out _ _ (fun _ => hS) (fun _ => ?_)
        clear hK K
        refine wpTo_one (i := 5) (by kernel_rfl) rfl (fun K hK => ?_)
        go_simp
        refine hK.out _ _ (fun _ => hS) (fun _ => ?_)
        clear hK K
        have x1' : W2.drew.cell? ⟨w.heap.size, 1, none⟩ = some (.int .i64 y) := x1
        have z1' : W2.drew.frozen? ⟨w.heap.size, 1, none⟩ = false := z1
        have HI3 : Hid (InPl w s x (y + m) (pos + d) (W2.setCell ⟨w.heap.size, 1, none⟩ (.int .i64 (y + m : Nat))).drew) := ⟨((HI2.out).set1 (y + m)).pl, ((HI2.out).set1 (y + m)).rs, ((HI2.out).set1 (y + m)).it, ((HI2.out).set1 (y + m)).bl.drew⟩
        have HM3 := hide (iterPos_of (HI3.out).it)
        clear HI2 x1 z1
        refine wpTo_one (i := 6) (by kernel_rfl) rfl (fun K hK => ?_)
        go_simp
        refine hK.out _ _ (fun h => absurd rfl h) (fun _ => wpTo_end (by kernel_rfl) ?_)
        clear hK K hS
        go_wp2_with fail
        exact ⟨⟨x, y + m, pos + d, k + 1, by omega, by omega, by omega, by omega, HI3⟩, Nat.lt_of_le_of_lt (Nat.le_of_eq (congrArg (s.size - ·) HM3.out)) (by rw [HM.out]; omega)⟩
    · have hnx := fun ty => Lib.run_next_end_at (P := Tryz.prog) wr (w.heap.size + 2) s pos ty (HI.out).it hp
      have x0 : wr.cell? ⟨w.heap.size, 0, none⟩ = some (.int .i64 x) := cell_of_row wr _ 0 _ _ _ (HI.out).pl
      have x1 : wr.cell? ⟨w.heap.size, 1, none⟩ = some (.int .i64 y) := cell_of_row wr _ 1 _ _ _ (HI.out).pl
      have y0 := cell_of_row wr _ 0 _ _ _ (HI.out).rs
      have y1 := cell_of_row wr _ 1 _ _ _ (HI.out).rs
      have z0 := frozen_of_row wr _ 0 _ _ (HI.out).rs
      have z1 := frozen_of_row wr _ 1 _ _ (HI.out).rs
      have HR : Hid (((wr.setCell ⟨w.heap.size + 1, 0, none⟩ (.int .i64 x)).setCell ⟨w.heap.size + 1, 1, none⟩ (.int .i64 y)).heap[w.heap.size + 1]? = some (.cells #[.int .i64 x, .int .i64 y] 49 (0, 0))) := set_cells (set_cells (HI.out).rs 0 _) 1 _
      have HB : Hid (Below w.heap.size w ((wr.setCell ⟨w.heap.size + 1, 0, none⟩ (.int .i64 x)).setCell ⟨w.heap.size + 1, 1, none⟩ (.int .i64 y))) := by
        have k : Kp (fun q => q = w.heap.size + 1) wr ((wr.setCell ⟨w.heap.size + 1, 0, none⟩ (.int .i64 x)).setCell ⟨w.heap.size + 1, 1, none⟩ (.int .i64 y)) := On.set (On.set (Kp.refl _ wr) 0 _) 1 _
        exact (HI.out).bl.trans (k.below (HI.out).bl.size (fun q e => by omega))
      clear HI
      go_wp2_with fail
      exact bodyPost_ret (res_pl rfl _ _ (b := w.heap.size + 1) rfl HR.out) rfl ⟨x, y, rfl, by omega, by omega, HB.out⟩
end Go.Proofs.YtgjbafamiggafaaGreatDoor
/- Package colour: a token is told. -/
namespace Go.Proofs.YtgjbafamiggafaaGreatDoor
open Go.RowKit
open M
theorem infoCo : (Tryz.prog.info? 42).map (fun i => (i.zero, i.size, i.bytes)) = some (some (.agg #[.int .i64 0, .int .i64 0, .int .i64 0, .int .i64 0]), 4, 32) := by kernel_rfl
/-- A colour, and a row of them. -/
abbrev Co := Int × Int × Int × Int
def cov (c : Co) : List Value := [.int .i64 c.1, .int .i64 c.2.1, .int .i64 c.2.2.1, .int .i64 c.2.2.2]
def covs (cs : List Co) : List Value := cs.flatMap cov
/-- Who goes through the tokens, in memory. -/
structure PtB (us : List X.U) (ao : Option Addr) (cap : Nat) (fi : Int) (pb B : Nat) (hl hu ll lu : Nat) (cs : List Co) (w : World) : Prop where
  blk : ∃ av, w.heap[pb]? = some (.cells #[.slice ao us.length cap, .int .i64 fi, .int .i64 hl, .int .i64 hu, .int .i64 ll, .int .i64 lu, av] 51 (0, 0)) ∧ w.ownsRow B 42 4 av cs.length (covs cs)
  lt : pb < B
  le : B ≤ w.heap.size
/-- What may be turned. -/
def ColB (w : World) (q : Nat) : Prop := ∃ c f, w.heap[q]? = some (.cells c 42 f)
def Kf (pb B : Nat) (w w' : World) : Prop := Kp (fun q => q = pb ∨ (B ≤ q ∧ ColB w q)) w w'
variable {us : List X.U} {ao : Option Addr} {cap : Nat} {fi : Int} {pb B hl hu ll lu : Nat} {cs : List Co} {w w' : World}
theorem Kf.trans {a b c : World} (h1 : Kf pb B a b) (h2 : Kf pb B b c) : Kf pb B a c := by
  refine Kp.trans h1 h2 (fun i hi hs => ?_)
  rcases hs with hs | ⟨hB, cs, d, hu⟩
  · exact .inl hs
  · rcases Classical.em (i = pb ∨ (B ≤ i ∧ ColB a i)) with g | g
    · exact g
    · exact .inr ⟨hB, cs, d, by rw [← Kp.block h1 i hi g]; exact hu⟩
theorem Kf.ofBelow (h : Below w.heap.size w w') : Kf pb B w w' := Kp.ofBelow h _
theorem Kf.low (h : Kf pb B w w') (hp : pb < B) (hw : pb ≤ w.heap.size) : Below pb w w' := Kp.below h hw (fun q e => by rcases e with e | e; exact Nat.le_of_eq e.symm; have := e.1; omega)
theorem PtB.blw (h : PtB us ao cap fi pb B hl hu ll lu cs w) (hk : Below w.heap.size w w') : PtB us ao cap fi pb B hl hu ll lu cs w' := by
  obtain ⟨av, h1, h2⟩ := h.blk
  exact ⟨⟨av, (Kp.ofBelow hk (fun _ => False)).heap h1 id, (Kp.ofBelow hk (fun _ => False)).owns h2 (fun _ _ => id)⟩, h.lt, Nat.le_trans h.le hk.size⟩
/-- The place ahead is turned. -/
theorem PtB.here (h : PtB us ao cap fi pb B hl hu ll lu cs w) (x y : Nat) : PtB us ao cap fi pb B x y ll lu cs ((w.setCell ⟨pb, 2, none⟩ (.int .i64 x)).setCell ⟨pb, 3, none⟩ (.int .i64 y)) ∧ Kf pb B w ((w.setCell ⟨pb, 2, none⟩ (.int .i64 x)).setCell ⟨pb, 3, none⟩ (.int .i64 y)) := by
  obtain ⟨av, h1, h2⟩ := h.blk
  have k : Kp (fun q => q = pb) w ((w.setCell ⟨pb, 2, none⟩ (.int .i64 x)).setCell ⟨pb, 3, none⟩ (.int .i64 y)) := On.set (On.set (Kp.refl _ w) 2 _) 3 _
  exact ⟨⟨⟨av, set_cells (set_cells h1 2 _) 3 _, k.owns h2 (fun q hq e => by have := (owns_ge h2 q hq).1; have := h.lt; omega)⟩, h.lt, Nat.le_trans h.le k.size⟩, Kp.mono k (fun _ _ e => .inl e)⟩
/-- The place of the last one is turned. -/
theorem PtB.last (h : PtB us ao cap fi pb B hl hu ll lu cs w) : PtB us ao cap fi pb B hl hu hl hu cs ((w.setCell ⟨pb, 4, none⟩ (.int .i64 hl)).setCell ⟨pb, 5, none⟩ (.int .i64 hu)) ∧ Kf pb B w ((w.setCell ⟨pb, 4, none⟩ (.int .i64 hl)).setCell ⟨pb, 5, none⟩ (.int .i64 hu)) := by
  obtain ⟨av, h1, h2⟩ := h.blk
  have k : Kp (fun q => q = pb) w ((w.setCell ⟨pb, 4, none⟩ (.int .i64 hl)).setCell ⟨pb, 5, none⟩ (.int .i64 hu)) := On.set (On.set (Kp.refl _ w) 4 _) 5 _
  exact ⟨⟨⟨av, set_cells (set_cells h1 4 _) 5 _, k.owns h2 (fun q hq e => by have := (owns_ge h2 q hq).1; have := h.lt; omega)⟩, h.lt, Nat.le_trans h.le k.size⟩, Kp.mono k (fun _ _ e => .inl e)⟩
/-- What comes of a token. -/
def TRes (us : List X.U) (ao : Option Addr) (cap : Nat) (fi : Int) (pb B hl hu ll lu kd k : Nat) (cs : List Co) (w w' : World) : Prop :=
  ∃ (x y x2 y2 : Nat) (cs2 : List Co), PtB us ao cap fi pb B x y x2 y2 (cs ++ cs2) w' ∧ Kf pb B w w' ∧ x ≤ hl + k ∧ y ≤ hu + 2 * k ∧ ((x2 = ll ∧ y2 = lu) ∨ (x2 = hl ∧ y2 = hu)) ∧ cs2.length ≤ 1 ∧ (us = [] → kd = 3 → ∃ a b c, cs2 = [(a, b, c, 13)])
set_option maxRecDepth 100000 in
set_option maxHeartbeats 8000000 in
theorem token_space (kd at_ ln : Nat) (s : ByteArray) (h1 : kd = 1) (h : PtB us ao cap fi pb B hl hu ll lu cs w) (hhl : hl ≤ 4294967296) (hhu : hu ≤ 4294967296) (hs : s.size ≤ 1073741824) :
    Calls Tryz.prog 15 #[.pointer (some ⟨pb, 0, none⟩), .agg #[.int .i64 kd, .int .i64 at_, .int .i64 ln], .string s] w fun e w' => e = .returned (.tuple #[]) ∧ Hid (TRes us ao cap fi pb B hl hu ll lu kd s.size cs w w') := by
  have kA : Below w.heap.size w (w.alloc (.cells #[.int .i64 kd, .int .i64 at_, .int .i64 ln] 55)) := (Below.refl _ w).alloc (Nat.le_refl _) _
  have q1 : ((kd : Int) != 1) = false := by simp [h1]
  have hA := h.blw kA
  obtain ⟨av, b1, -⟩ := hA.blk
  have hpl := heap_lt b1
  have c2 := cell_of_row _ _ 2 _ _ _ b1
  have c3 := cell_of_row _ _ 3 _ _ _ b1
  have HK3 : Hid (kd = 3 → False) := fun e => by omega
  have HA := hide hA
  have HKA : Hid (Kf pb B w (w.alloc (.cells #[.int .i64 kd, .int .i64 at_, .int .i64 ln] 55))) := Kf.ofBelow kA
  clear kA hA b1 h h1
  go_enter Tryz.func15, Tryz.ntmps15
  go_upto_region 5 with fail
  generalize w.alloc (.cells #[.int .i64 kd, .int .i64 at_, .int .i64 ln] 55) = W at *
  have HC := hide (past_any hl hu s W hhl hhu hs)
  go_wp2_with fail
  refine (HC.out).mono ?_
  rintro e w9 ⟨x, y, rfl, X9⟩
  obtain ⟨hx, hy, B9⟩ := X9.out
  have hP9 := (HA.out).blw B9
  obtain ⟨av9, b9, -⟩ := hP9.blk
  have d2 := cell_of_row w9 _ 2 _ _ _ b9
  have d3 := cell_of_row w9 _ 3 _ _ _ b9
  have e2 := frozen_of_row w9 _ 2 _ _ b9
  have e3 := frozen_of_row w9 _ 3 _ _ b9
  have HF : Hid (TRes us ao cap fi pb B hl hu ll lu kd s.size cs w ((w9.setCell ⟨pb, 2, none⟩ (.int .i64 x)).setCell ⟨pb, 3, none⟩ (.int .i64 y))) := by
    have hh := hP9.here x y
    have hkk := ((HKA.out).trans (Kf.ofBelow B9)).trans hh.2
    exact ⟨x, y, ll, lu, [], by rw [List.append_nil]; exact hh.1, hkk, hx, hy, .inl ⟨rfl, rfl⟩, Nat.zero_le _, fun _ e => ((HK3.out) e).elim⟩
  clear HC X9 B9 hP9 b9
  go_wp2_with fail
  go_end0
  exact ⟨rfl, HF⟩
theorem covs_app (a b : List Co) : covs (a ++ b) = covs a ++ covs b := List.flatMap_append
/-- One more colour. -/
theorem PtB.more (h : PtB us ao cap fi pb B hl hu ll lu cs w) {w6 w7 : World} (hb6 : Below w.heap.size w w6) {av : Value} (hav : w.cell? ⟨pb, 6, none⟩ = some av) (c : Co) {g cap7 : Nat} (hown : w7.ownsRow B 42 4 (.slice (some ⟨g, 0, none⟩) (cs.length + 1) cap7) (cs.length + 1) (covs cs ++ cov c)) (hgrow : w6.grownBy w7 av.ownBlock) :
    PtB us ao cap fi pb B hl hu ll lu (cs ++ [c]) (w7.setCell ⟨pb, 6, none⟩ (.slice (some ⟨g, 0, none⟩) (cs.length + 1) cap7)) ∧ Kf pb B w (w7.setCell ⟨pb, 6, none⟩ (.slice (some ⟨g, 0, none⟩) (cs.length + 1) cap7)) := by
  obtain ⟨av', h1, h2⟩ := h.blk
  have e0 := cell_of_row w _ 6 _ _ _ h1
  rw [hav] at e0
  obtain rfl : av = av' := Option.some.inj e0
  have hge : ∀ q, av.ownBlock = some q → B ≤ q := fun q hq => (owns_ge h2 q hq).1
  have hlt := h.lt
  have k67 : Kp (fun q => av.ownBlock = some q) w6 w7 := (Kp.refl _ w6).grown hgrow (fun q e _ => e)
  have kw7 : Kp (fun q => av.ownBlock = some q) w w7 := (Kp.ofBelow hb6 _).trans k67 (fun _ _ e => e)
  have b7 := kw7.heap h1 (fun e => by have := hge _ e; omega)
  have k78 : Kp (fun q => q = pb) w7 (w7.setCell ⟨pb, 6, none⟩ (.slice (some ⟨g, 0, none⟩) (cs.length + 1) cap7)) := On.set (Kp.refl _ w7) 6 _
  refine ⟨⟨⟨_, set_cells b7 6 _, ?_⟩, hlt, Nat.le_trans h.le (Nat.le_trans kw7.size k78.size)⟩, Kp.trans (Kp.mono kw7 (fun q _ e => .inr ⟨hge q e, (owns_typed h2 e).2⟩)) k78 (fun _ _ e => .inl e)⟩
  have e1 : (cs ++ [c]).length = cs.length + 1 := by simp
  have e2 : covs (cs ++ [c]) = covs cs ++ cov c := by rw [covs_app]; show _ ++ (cov c ++ []) = _; rw [List.append_nil]
  rw [e1, e2]
  exact k78.owns hown (fun q hq e => by have := (owns_ge hown q hq).1; omega)
set_option maxRecDepth 100000 in
set_option maxHeartbeats 16000000 in
theorem token_told (kd at_ ln : Nat) (s : ByteArray) (h1 : kd ≠ 1) (hkd : kd < 9) (hat : at_ ≤ 4294967296) (h : PtB us ao cap fi pb B hl hu ll lu cs w) (hTk : Tk w) (hU : IsUs w pb ao us) (hN : Nms us) (hc : us.length ≤ cap) (hhl : hl ≤ 4294967296) (hhu : hu ≤ 4294967296) (hll : ll ≤ 4294967296) (hlu : lu ≤ 4294967296) (hs : s.size ≤ 1073741824) (hcs : cs.length ≤ 1073741824) :
    Calls Tryz.prog 15 #[.pointer (some ⟨pb, 0, none⟩), .agg #[.int .i64 kd, .int .i64 at_, .int .i64 ln], .string s] w fun e w' => e = .returned (.tuple #[]) ∧ Hid (TRes us ao cap fi pb B hl hu ll lu kd s.size cs w w') := by
  have kA : Below w.heap.size w (w.alloc (.cells #[.int .i64 kd, .int .i64 at_, .int .i64 ln] 55)) := (Below.refl _ w).alloc (Nat.le_refl _) _
  have q1 : ((kd : Int) != 1) = true := by simp; omega
  have hpw : pb < w.heap.size := Nat.lt_of_lt_of_le h.lt h.le
  have hpB := h.lt
  have hBw := h.le
  have HKD : Hid (∀ W, Below w.heap.size w W → Calls Tryz.prog 28 #[.pointer (some ⟨pb, 0, none⟩), .agg #[.int .i64 kd, .int .i64 at_, .int .i64 ln]] W fun e w' => KNum us kd W e w') := fun W hW => by
    obtain ⟨av, b1, -⟩ := (h.blw hW).blk
    exact ckind_any us ao cap fi pb kd at_ ln W (hTk.below hW hTk.sz) (((hU.wide (Nat.le_of_lt hpw)).below hW).wide hW.size) hN hc ⟨cell_of_row W _ 0 _ _ _ b1, cell_of_row W _ 1 _ _ _ b1, heap_lt b1⟩ hkd hat
  have hT := heap_alloc_new w (.cells #[.int .i64 kd, .int .i64 at_, .int .i64 ln] 55)
  have hA := h.blw kA
  obtain ⟨av, b1, o1⟩ := hA.blk
  have c2 := cell_of_row _ _ 2 _ _ _ b1
  have c3 := cell_of_row _ _ 3 _ _ _ b1
  have c4 := cell_of_row _ _ 4 _ _ _ b1
  have c5 := cell_of_row _ _ 5 _ _ _ b1
  obtain ⟨aa, an, ac, rfl⟩ : ∃ aa an ac, av = .slice aa an ac := by
    rcases o1.2 with ⟨e, -⟩ | ⟨g', cap', cur, e, -⟩
    · exact ⟨_, _, _, e⟩
    · exact ⟨_, _, _, e⟩
  have hsz : w.heap.size < (w.alloc (.cells #[.int .i64 kd, .int .i64 at_, .int .i64 ln] 55)).heap.size := by simp
  have HC1 := hide (pbehind_any hl hu ll lu (w.alloc (.cells #[.int .i64 kd, .int .i64 at_, .int .i64 ln] 55)).drew hhl hhu hll hlu)
  have H0 := hide h
  have HA := hide b1
  have HT := hide hT
  have HK := hide kA
  obtain ⟨i0, hi0, hz0, hz1, hz2⟩ := info_parts infoCo
  clear kA hA b1 o1 h h1 hU hN hTk hT
  go_enter Tryz.func15, Tryz.ntmps15
  go_upto_region 2 with fail
  generalize w.alloc (.cells #[.int .i64 kd, .int .i64 at_, .int .i64 ln] 55) = W at *
  go_wp2_with fail
  refine wpTo_start (S := fun w' => w'.cell? ⟨pb, 2, none⟩ = some (.int .i64 hl) ∧ w'.cell? ⟨pb, 3, none⟩ = some (.int .i64 hu) ∧ w'.cell? ⟨pb, 4, none⟩ = some (.int .i64 ll) ∧ w'.cell? ⟨pb, 5, none⟩ = some (.int .i64 lu)) (z := 13) (by kernel_rfl) ?_
  have hS : W.drew.cell? ⟨pb, 2, none⟩ = some (.int .i64 hl) ∧ W.drew.cell? ⟨pb, 3, none⟩ = some (.int .i64 hu) ∧ W.drew.cell? ⟨pb, 4, none⟩ = some (.int .i64 ll) ∧ W.drew.cell? ⟨pb, 5, none⟩ = some (.int .i64 lu) := ⟨c2, c3, c4, c5⟩
  iterate 8 (refine wpTo_nx0 (v := ?_) rfl rfl (by kernel_rfl) (by kernel_rfl) (by kernel_rfl) (by kernel_rfl) (fun _ _ _ h => h) (Or.inl ⟨by rfl, ?_⟩) hS ?_; rotate_left; (· (intro wx hSw; (try dsimp only at hSw); go_simp; try (with_reducible rfl))); simp only [Act.put, List.setIfInBounds_toArray, List.set_cons_zero, List.set_cons_succ])
  refine wpTo_one (i := 8) (by kernel_rfl) rfl (fun K hK => ?_)
  go_simp
  refine (HC1.out).mono ?_
  rintro e w2 ⟨a, b, rfl, B2⟩
  have hb2 : Below W.heap.size W w2 := ((Below.refl _ W).drew).trans B2
  have hpW : pb < W.heap.size := by omega
  dsimp only
  refine hK.out _ _ (fun _ => ⟨kcb hb2 hpW c2, kcb hb2 hpW c3, kcb hb2 hpW c4, kcb hb2 hpW c5⟩) (fun hS2 => ?_)
  clear hS hK K HC1
  have hS := hS2 (by decide)
  clear hS2
  iterate 3 (refine wpTo_nx0 (v := ?_) rfl rfl (by kernel_rfl) (by kernel_rfl) (by kernel_rfl) (by kernel_rfl) (fun _ _ _ h => h) (Or.inl ⟨by rfl, ?_⟩) hS ?_; rotate_left; (· (intro wx hSw; (try dsimp only at hSw); go_simp; try (with_reducible rfl))); simp only [Act.put, List.setIfInBounds_toArray, List.set_cons_zero, List.set_cons_succ])
  refine wpTo_one (i := 12) (by kernel_rfl) rfl (fun K hK => ?_)
  go_simp
  refine hK.out _ _ (fun _ => hS) (fun _ => ?_)
  clear hK K
  refine wpTo_one (i := 13) (by kernel_rfl) rfl (fun K hK => ?_)
  go_simp
  refine hK.out _ _ (fun h => absurd rfl h) (fun _ => wpTo_end (by kernel_rfl) ?_)
  clear hK K hS c2 c3 c4 c5
  have kb2 : Below w.heap.size w w2 := (HK.out).trans (hb2.mono (HK.out).size)
  have hT2 := (Kp.ofBelow hb2 (fun _ => False)).heap HT.out id
  have hA2 := (Kp.ofBelow hb2 (fun _ => False)).heap HA.out id
  have p6 : w2.cell? ⟨pb, 6, none⟩ = some (.slice aa an ac) := cell_of_row w2 _ 6 _ _ _ hA2
  have t0 : w2.cell? ⟨w.heap.size, 0, none⟩ = some (.int .i64 kd) := cell_of_row w2 _ 0 _ _ _ hT2
  have t1 : w2.cell? ⟨w.heap.size, 1, none⟩ = some (.int .i64 at_) := cell_of_row w2 _ 1 _ _ _ hT2
  have t2 : w2.cell? ⟨w.heap.size, 2, none⟩ = some (.int .i64 ln) := cell_of_row w2 _ 2 _ _ _ hT2
  have hl2 := heap_lt hT2
  have hpl2 := heap_lt hA2
  have HB2 := hide kb2
  have HU := hide (unitsOf_any s w2.drew hs)
  clear hT2 hA2 kb2 hb2 B2 HT HA HK
  go_wp2_with fail
  refine wpTo_start (S := fun w' => w'.cell? ⟨pb, 6, none⟩ = some (.slice aa an ac) ∧ w'.cell? ⟨w.heap.size, 0, none⟩ = some (.int .i64 kd) ∧ w'.cell? ⟨w.heap.size, 1, none⟩ = some (.int .i64 at_) ∧ w'.cell? ⟨w.heap.size, 2, none⟩ = some (.int .i64 ln)) (z := 17) (by kernel_rfl) ?_
  have hS : w2.drew.cell? ⟨pb, 6, none⟩ = some (.slice aa an ac) ∧ w2.drew.cell? ⟨w.heap.size, 0, none⟩ = some (.int .i64 kd) ∧ w2.drew.cell? ⟨w.heap.size, 1, none⟩ = some (.int .i64 at_) ∧ w2.drew.cell? ⟨w.heap.size, 2, none⟩ = some (.int .i64 ln) := ⟨p6, t0, t1, t2⟩
  iterate 8 (refine wpTo_nx0 (v := ?_) rfl rfl (by kernel_rfl) (by kernel_rfl) (by kernel_rfl) (by kernel_rfl) (fun _ _ _ h => h) (Or.inl ⟨by rfl, ?_⟩) hS ?_; rotate_left; (· (intro wx hSw; (try dsimp only at hSw); go_simp; try (with_reducible rfl))); simp only [Act.put, List.setIfInBounds_toArray, List.set_cons_zero, List.set_cons_succ])
  refine wpTo_take (i := 9) (dn := 32) (v := ?_) rfl rfl (by kernel_rfl) (by kernel_rfl) (by kernel_rfl) (by kernel_rfl) (fun _ _ _ h => h) (Or.inl ⟨by rfl, ?_⟩) hS ?_
  rotate_left
  · (intro wx hSw; (try dsimp only at hSw); go_simp; try (with_reducible rfl))
  simp only [Act.put, List.setIfInBounds_toArray, List.set_cons_zero, List.set_cons_succ]
  refine wpTo_take (i := 10) (dn := 33) (v := ?_) rfl rfl (by kernel_rfl) (by kernel_rfl) (by kernel_rfl) (by kernel_rfl) (fun _ _ _ h => h) (Or.inl ⟨by rfl, ?_⟩) hS ?_
  rotate_left
  · (intro wx hSw; (try dsimp only at hSw); go_simp; try (with_reducible rfl))
  simp only [Act.put, List.setIfInBounds_toArray, List.set_cons_zero, List.set_cons_succ]
  refine wpTo_one (i := 8) (by kernel_rfl) rfl (fun K hK => ?_)
  go_simp
  refine (HU.out).mono ?_
  rintro e w3 ⟨n, rfl, B3⟩
  have hb3 : Below w2.heap.size w2 w3 := ((Below.refl _ w2).drew).trans B3
  have kb3 : Below w.heap.size w w3 := (HB2.out).trans (hb3.mono (HB2.out).size)
  have HKC := hide ((HKD.out) w3 kb3)
  have hs3 := hb3.size
  have p63 := kcb hb3 hpl2 p6
  have t03 := kcb hb3 hl2 t0
  have t13 := kcb hb3 hl2 t1
  have t23 := kcb hb3 hl2 t2
  dsimp only
  refine hK.out _ _ (fun _ => ⟨p63, t03, t13, t23⟩) (fun hS2 => ?_)
  clear hS hK K HU HKD
  have hS := hS2 (by decide)
  clear hS2
  refine wpTo_one (i := 11) (by kernel_rfl) rfl (fun K hK => ?_)
  go_simp
  refine (HKC.out).mono ?_
  rintro e w4 ⟨m, rfl, B4, h13⟩
  have HP4 := hide ((H0.out).blw (kb3.trans (B4.mono kb3.size)))
  have HB4 := hide (kb3.trans (B4.mono kb3.size))
  have HKF4 : Hid (Kf pb B w w4) := Kf.ofBelow (kb3.trans (B4.mono kb3.size))
  have H13 := hide h13
  have hs4 := B4.size
  have p64 := kcb B4 (by omega) p63
  have t04 := kcb B4 (by omega) t03
  have t14 := kcb B4 (by omega) t13
  have t24 := kcb B4 (by omega) t23
  dsimp only
  refine hK.out _ _ (fun _ => ⟨p64, t04, t14, t24⟩) (fun hS2 => ?_)
  clear hS hK K HKC B4 kb3 hb3 B3 h13 p6 t0 t1 t2 p63 t03 t13 t23
  have hS := hS2 (by decide)
  clear hS2
  refine wpTo_one (i := 12) (by kernel_rfl) rfl (fun K hK => ?_)
  go_simp
  refine hK.out _ _ (fun _ => hS) (fun _ => ?_)
  clear hK K
  refine wpTo_one (i := 13) (by kernel_rfl) rfl (fun K hK => ?_)
  go_simp
  refine hK.out _ _ (fun _ => by first | go_keep | (dsimp only; go_keep)) (fun hS2 => ?_)
  clear hS hK K
  have hS := hS2 (by decide)
  clear hS2
  have HO : Hid (w4.ownsRow B 42 4 (.slice aa an ac) cs.length (covs cs)) := by
    obtain ⟨av, b4, o4⟩ := (HP4.out).blk
    have := cell_of_row w4 _ 6 _ _ _ b4
    rw [p64] at this
    cases Option.some.inj this
    exact o4
  have hB4 : B ≤ w4.heap.size := (HP4.out).le
  refine wpTo_one (i := 14) (by kernel_rfl) rfl (fun K hK => ?_)
  refine step_append_lies _ (by rfl) _ _ _ (by rfl) B 42 i0 _ 4 32 Tryz.underlying33 hi0 hz0 hz1 hz2 rfl (by omega) (.slice aa an ac) cs.length _ (by rfl) ((HO.out).alloc _)
    ⟨w4.heap.size, 0, none⟩ 1 1 (cov (a, b, n, m)) (by rfl) (by rfl) (World.news_of_block (cs := #[.int .i64 a, .int .i64 b, .int .i64 n, .int .i64 m]) (t := 42) (fr := (0, 0)) (heap_alloc_new w4 _)) (by simp [Value.oneCell', cov])
    (by omega) (by unfold maxLen; omega) (by omega) (by simp; omega) (w4.heap.size + 1) (by simp) ?_
  intro g cap7 w7 hown7 hgrow7 hat7 hlt7
  have hq : ∀ q, (Value.slice aa an ac).ownBlock = some q → B ≤ q ∧ q < w.heap.size := by
    obtain ⟨av, b0, o0⟩ := (H0.out).blk
    have e6 := kcb HB4.out hpw (cell_of_row w _ 6 _ _ _ b0)
    rw [p64] at e6
    cases Option.some.inj e6
    exact fun q hq => owns_ge o0 q hq
  have hn1 : some pb ≠ (Value.slice aa an ac).ownBlock := fun e => by have := hq _ e.symm; omega
  have hn2 : some w.heap.size ≠ (Value.slice aa an ac).ownBlock := fun e => by have := hq _ e.symm; omega
  have hw4 : w.heap.size < w4.heap.size := by omega
  have y0 : w7.cell? ⟨pb, 6, none⟩ = some (.slice aa an ac) := (hgrow7.cell_far ⟨pb, 6, none⟩ (by simp; omega) hn1).trans hS.1
  have y1 := (hgrow7.cell_far ⟨w.heap.size, 0, none⟩ (by simp; omega) hn2).trans hS.2.1
  have y2 := (hgrow7.cell_far ⟨w.heap.size, 1, none⟩ (by simp; omega) hn2).trans hS.2.2.1
  have y3 := (hgrow7.cell_far ⟨w.heap.size, 2, none⟩ (by simp; omega) hn2).trans hS.2.2.2
  have x6 : w7.frozen? ⟨pb, 6, none⟩ = false := by
    obtain ⟨av, b4, o4⟩ := (HP4.out).blk
    exact (hgrow7.frozen_far ⟨pb, 6, none⟩ (by simp; omega) hn1).trans ((World.frozen?_alloc_old _ _ ⟨pb, 6, none⟩ (by simp; omega)).trans (frozen_of_row w4 _ 6 _ _ b4))
  show K (Act.put _ (some 37) _) w7
  refine hK.out _ _ (fun _ => ⟨y0, y1, y2, y3⟩) (fun hS2 => ?_)
  clear hS hK K
  have hS := hS2 (by decide)
  clear hS2
  simp only [Act.put, List.setIfInBounds_toArray, List.set_cons_zero, List.set_cons_succ]
  refine wpTo_one (i := 15) (by kernel_rfl) rfl (fun K hK => ?_)
  go_simp
  refine hK.out _ _ (fun _ => hS) (fun _ => ?_)
  clear hK K
  refine wpTo_one (i := 16) (by kernel_rfl) rfl (fun K hK => ?_)
  go_simp
  refine hK.out _ _ (fun _ => hS) (fun _ => ?_)
  clear hK K
  have hMo := (HP4.out).more ((Below.refl _ w4).alloc (Nat.le_refl _) (.cells #[.int .i64 a, .int .i64 b, .int .i64 n, .int .i64 m] 42)) p64 (a, b, n, m) hown7 hgrow7
  have HP8 := hide hMo.1
  have HKF8 : Hid (Kf pb B w (w7.setCell ⟨pb, 6, none⟩ (.slice (some ⟨g, 0, none⟩) (cs.length + 1) cap7))) := (HKF4.out).trans hMo.2
  refine wpTo_one (i := 17) (by kernel_rfl) rfl (fun K hK => ?_)
  go_simp
  refine hK.out _ _ (fun h => absurd rfl h) (fun _ => wpTo_end (by kernel_rfl) ?_)
  clear hK K hS y0 y1 y2 y3 x6 hown7 hgrow7 hat7 hlt7 hMo HO HP4 p64 t04 t14 t24 hn1 hn2 hq HB4 HKF4 H0 HB2 hsz
  generalize w7.setCell ⟨pb, 6, none⟩ (.slice (some ⟨g, 0, none⟩) (cs.length + 1) cap7) = W8 at *
  obtain ⟨av8, b8, -⟩ := (HP8.out).blk
  have c2 : W8.cell? ⟨pb, 2, none⟩ = some (.int .i64 hl) := cell_of_row W8 _ 2 _ _ _ b8
  have c3 : W8.cell? ⟨pb, 3, none⟩ = some (.int .i64 hu) := cell_of_row W8 _ 3 _ _ _ b8
  have c4 := cell_of_row W8 _ 4 _ _ _ b8
  have c5 := cell_of_row W8 _ 5 _ _ _ b8
  have z4 := frozen_of_row W8 _ 4 _ _ b8
  have z5 := frozen_of_row W8 _ 5 _ _ b8
  have hLa := (HP8.out).last
  have HP9 := hide hLa.1
  have HKF9 : Hid (Kf pb B w ((W8.setCell ⟨pb, 4, none⟩ (.int .i64 hl)).setCell ⟨pb, 5, none⟩ (.int .i64 hu))) := (HKF8.out).trans hLa.2
  clear b8 hLa HP8 HKF8
  go_upto_region 5 with fail
  clear c2 c3 c4 c5 z4 z5
  generalize (W8.setCell ⟨pb, 4, none⟩ (.int .i64 hl)).setCell ⟨pb, 5, none⟩ (.int .i64 hu) = W9 at *
  obtain ⟨av9, b9, -⟩ := (HP9.out).blk
  have c2 : W9.cell? ⟨pb, 2, none⟩ = some (.int .i64 hl) := cell_of_row W9 _ 2 _ _ _ b9
  have c3 : W9.cell? ⟨pb, 3, none⟩ = some (.int .i64 hu) := cell_of_row W9 _ 3 _ _ _ b9
  have HC := hide (past_any hl hu s W9 hhl hhu hs)
  clear b9
  go_wp2_with fail
  refine (HC.out).mono ?_
  rintro e w9 ⟨x, y, rfl, X9⟩
  obtain ⟨hx, hy, B9⟩ := X9.out
  have hP9 := (HP9.out).blw B9
  obtain ⟨av9, b9, -⟩ := hP9.blk
  have d2 := cell_of_row w9 _ 2 _ _ _ b9
  have d3 := cell_of_row w9 _ 3 _ _ _ b9
  have e2 := frozen_of_row w9 _ 2 _ _ b9
  have e3 := frozen_of_row w9 _ 3 _ _ b9
  have HF : Hid (TRes us ao cap fi pb B hl hu ll lu kd s.size cs w ((w9.setCell ⟨pb, 2, none⟩ (.int .i64 x)).setCell ⟨pb, 3, none⟩ (.int .i64 y))) := by
    have hh := hP9.here x y
    have hkk := ((HKF9.out).trans (Kf.ofBelow B9)).trans hh.2
    exact ⟨x, y, hl, hu, [(a, b, n, m)], hh.1, hkk, hx, hy, .inr ⟨rfl, rfl⟩, Nat.le_refl _, fun e1 e2 => ⟨a, b, n, by rw [(H13.out) e1 e2]⟩⟩
  clear HC X9 B9 hP9 b9
  go_wp2_with fail
  go_end0
  exact ⟨rfl, HF⟩
end Go.Proofs.YtgjbafamiggafaaGreatDoor
