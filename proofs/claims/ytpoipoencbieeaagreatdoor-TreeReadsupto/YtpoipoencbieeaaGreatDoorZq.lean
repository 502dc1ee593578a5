/- The law TreeReads. -/
import Derived.Test.YtpoipoencbieeaaGreatDoorZn
import Derived.Test.YtpoipoencbieeaaGreatDoorZp
import Derived.Test.YtpoipoencbieeaaGreatDoorXz
namespace Go.Proofs.YtpoipoencbieeaaGreatDoor
open Go.RowKit
open M
set_option maxRecDepth 100000 in
set_option maxHeartbeats 1000000 in
theorem reads_any (s : ByteArray) (w : World) (hT : Tabs w) (hs : s.size ≤ 134217728) :
    Calls Tryz.prog 3 #[.string s] w fun e w' => e = .returned (.bool true) ∧ Below w.heap.size w w' := by
  have hll : (X.xt (bs s)).length ≤ s.size := by
    have := toks_len _ 0 (bs s) (Nat.le_refl _)
    rw [bs_len] at this
    unfold X.xt; rw [List.length_map]; exact this
  have hz : X.psz (X.file (X.xt (bs s))) ≤ 1073741824 := by have := X.file_psz (X.xt (bs s)); omega
  have hb : X.pb (X.file (X.xt (bs s))) = bs s := by rw [X.file_keeps, X.xt_tb]
  have HR := hide (fun tb W h => root_any tb s W h hz hb hs)
  have HS := hide (same_any _ (X.file (X.xt (bs s))) (Nat.le_refl _) hz)
  clear hb hll
  go_enter Tryz.func3, Tryz.ntmps3
  go_wp2_with fail
  refine (newTree_any s w hT hs).mono ?_
  rintro e w1 ⟨tb, rfl, H1⟩
  go_wp2_with fail
  refine ((HR.out) tb w1 (H1.out).1).mono ?_
  rintro e w2 ⟨nv, rfl, H2⟩
  obtain ⟨a1, a2, a3, a4, a5, a6, hq⟩ := (H2.out.choose_spec).1.shape
  replace hq : nv = .agg #[.int .i64 a1, .int .i64 a2, .string a3, .slice a4 a5 a6] := hq
  subst hq
  go_wp2_with fail
  have kA : ∀ o : Obj, Below w2.heap.size w2 (w2.alloc o) := fun o => (Below.refl _ w2).alloc (Nat.le_refl _) _
  have HKA := hide kA
  have hblk : (w2.alloc (.cells #[.int .i64 a1, .int .i64 a2, .string a3, .slice a4 a5 a6] 26)).heap[w2.heap.size]? = some (.cells #[.int .i64 a1, .int .i64 a2, .string a3, .slice a4 a5 a6] 26 (0, 0)) := heap_alloc_new w2 _
  have HBlk := hide hblk
  obtain ⟨E, g1, g2, g3⟩ := H2.out
  have HN := hide (g1.kept (Kp.ofBelow (kA (.cells #[.int .i64 a1, .int .i64 a2, .string a3, .slice a4 a5 a6] 26)) (fun _ => False)) (fun _ h => h.elim))
  have HB3 : Hid (Below w.heap.size w (w2.alloc (.cells #[.int .i64 a1, .int .i64 a2, .string a3, .slice a4 a5 a6] 26))) := ((H1.out).2.trans (g3.mono (H1.out).2.size)).trans ((kA _).mono (Nat.le_trans (H1.out).2.size g3.size))
  clear hblk kA g1 g2 g3 H2 HKA
  refine (parse_any s _ hs).mono ?_
  rintro e w3 ⟨N, lo, hi, rfl, H3⟩
  have hk3 := Kp.ofBelow (H3.out).2.2 (fun _ => False)
  have hres := hk3.heap HBlk.out id
  have m0 := cell_of_row w3 _ 0 _ _ _ hres
  have m1 := cell_of_row w3 _ 1 _ _ _ hres
  have m2 := cell_of_row w3 _ 2 _ _ _ hres
  have m3 := cell_of_row w3 _ 3 _ _ _ hres
  have HN3 := hide ((HN.out).kept hk3 (fun _ h => h.elim))
  have HB4 : Hid (Below w.heap.size w w3) := (HB3.out).trans ((H3.out).2.2.mono (HB3.out).size)
  clear hk3 hres HN HB3 HBlk
  go_wp2_with fail
  refine ((HS.out) E lo hi _ _ 0 w3 HN3.out (H3.out).1).mono ?_
  rintro e w4 ⟨rfl, k4⟩
  have HB5 : Hid (Below w.heap.size w w4) := (HB4.out).trans (k4.mono (HB4.out).size)
  clear k4
  go_wp2_with fail
  go_ret
  exact ⟨rfl, HB5.out⟩
end Go.Proofs.YtpoipoencbieeaaGreatDoor
