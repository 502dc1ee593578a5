/- New. -/
import Derived.Test.YtdlnlcjmjgbikaaUi1
import Derived.LoopTactic
namespace Go.Proofs.Ytdlnlcjmjgbikaa
open Go Go.Conc Go.RowKit Go.Deep

noncomputable section
variable {w w' : World} {k : Nat}
theorem mk_rows {P : Program} (t e : TypeId) (z : Value) (size bytes : Nat) (ht : P.underlying t = some (.slice e)) (hinfo : (P.info? e).map (fun i => (i.zero, i.size, i.bytes)) = some (some z, size, bytes)) (n : Nat) (hbytes : bytes * n ≤ 281474976710656) (h63 : n ≤ 9223372036854775807) (w : World) :
    (Instr.makeSlice t (.int .i64 (n : Int)) (.int .i64 (n : Int))).run P w = .ok (.slice (some ⟨w.heap.size, 0, none⟩) n n) (w.alloc (.cells (madeCells z.cells (n * size)) e)) := by
  obtain ⟨i, hi, hzz⟩ := Option.map_eq_some_iff.1 hinfo
  simp only [Prod.mk.injEq] at hzz
  obtain ⟨hz, hs, hb⟩ := hzz
  have hb' : (i.bytes : Int) * (n : Int) ≤ 281474976710656 := by
    have h : ((i.bytes * n : Nat) : Int) ≤ 281474976710656 := by rw [hb]; omega
    rwa [Int.natCast_mul] at h
  have hr := run_make (P := P) w t e i z ht hi hz .i64 .i64 n n (by omega) (Int.le_refl _) hb' (by omega)
  simp only [Int.toNat_natCast, hs] at hr
  exact hr
/-- A new cell's cells. -/
def cellZ : Array Value := #[.int .i64 0, .int .i64 0, .int .i64 0, .int .i64 0, .int .u32 0, .int .i32 0, .int .u32 0, .slice none 0 0]
def memZ : Array Value := #[.bool false, .int .i64 0, .int .i64 0, .slice none 0 0]
set_option maxRecDepth 100000 in
theorem info61 : (Sq.prog.info? 61).map (fun i => (i.zero, i.size, i.bytes)) = some (some (.agg cellZ), 8, 72) := by kernel_rfl
theorem info67 : (Sq.prog.info? 67).map (fun i => (i.zero, i.size, i.bytes)) = some (some (.agg memZ), 4, 48) := by kernel_rfl
/-- A sheet's blocks, new. -/
structure NF (n cb mb fb rb sh : Nat) (w w1 : World) : Prop where
  s : w1.heap[sh]? = some (.cells #[.int .i32 0, .int .u32 0, .slice (some ⟨cb, 0, none⟩) n n, .slice (some ⟨mb, 0, none⟩) n n, .slice (some ⟨fb, 0, none⟩) n n, .slice (some ⟨rb, 0, none⟩) n n] 54)
  c : w1.heap[cb]? = some (.cells (madeCells cellZ (n * 8)) 61)
  m : w1.heap[mb]? = some (.cells (madeCells memZ (n * 4)) 67)
  f : w1.heap[fb]? = some (.cells (madeCells #[.bool false] n) 4)
  r : w1.heap[rb]? = some (.cells (madeCells #[.int .i64 0] n) 3)
  kp : Keep (fun _ => False) w w1
  ge : w.heap.size ≤ cb ∧ w.heap.size ≤ mb ∧ w.heap.size ≤ fb ∧ w.heap.size ≤ rb ∧ w.heap.size ≤ sh
  ne : (sh ≠ cb ∧ sh ≠ mb ∧ sh ≠ fb ∧ sh ≠ rb) ∧ (cb ≠ mb ∧ cb ≠ fb ∧ cb ≠ rb) ∧ (mb ≠ fb ∧ mb ≠ rb) ∧ fb ≠ rb
theorem fiveU {o1 o2 o3 o4 o5 : Obj} : ((((((w.alloc o1).alloc o2).alloc o3).alloc o4).alloc o5).drew).heap[w.heap.size]? = some o1 ∧ ((((((w.alloc o1).alloc o2).alloc o3).alloc o4).alloc o5).drew).heap[w.heap.size + 1]? = some o2 ∧ ((((((w.alloc o1).alloc o2).alloc o3).alloc o4).alloc o5).drew).heap[w.heap.size + 1 + 1]? = some o3 ∧
    ((((((w.alloc o1).alloc o2).alloc o3).alloc o4).alloc o5).drew).heap[w.heap.size + 1 + 1 + 1]? = some o4 ∧ ((((((w.alloc o1).alloc o2).alloc o3).alloc o4).alloc o5).drew).heap[w.heap.size + 1 + 1 + 1 + 1]? = some o5 ∧ Keep (fun _ => False) w ((((((w.alloc o1).alloc o2).alloc o3).alloc o4).alloc o5).drew) := by
  refine ⟨?_, ?_, ?_, ?_, ?_, ((((((Keep.refl _ w).alloc _).alloc _).alloc _).alloc _).alloc _).drew⟩
  · show (World.alloc _ _).heap[_]? = _
    rw [blk_alloc_lt _ _ _ (by simp <;> omega), blk_alloc_lt _ _ _ (by simp <;> omega), blk_alloc_lt _ _ _ (by simp <;> omega), blk_alloc_lt _ _ _ (by simp)]
    exact heap_alloc_new w o1
  · show (World.alloc _ _).heap[_]? = _
    rw [blk_alloc_lt _ _ _ (by simp <;> omega), blk_alloc_lt _ _ _ (by simp <;> omega), blk_alloc_lt _ _ _ (by simp)]
    have := heap_alloc_new (w.alloc o1) o2
    simpa using this
  · show (World.alloc _ _).heap[_]? = _
    rw [blk_alloc_lt _ _ _ (by simp <;> omega), blk_alloc_lt _ _ _ (by simp)]
    have := heap_alloc_new ((w.alloc o1).alloc o2) o3
    simpa using this
  · show (World.alloc _ _).heap[_]? = _
    rw [blk_alloc_lt _ _ _ (by simp)]
    have := heap_alloc_new (((w.alloc o1).alloc o2).alloc o3) o4
    simpa using this
  · show (World.alloc _ _).heap[_]? = _
    have := heap_alloc_new ((((w.alloc o1).alloc o2).alloc o3).alloc o4) o5
    simpa using this
/-- The rules, as they came. -/
def RulesAt (w : World) (R : QR) (ro : Option Addr) : Prop := ∀ k, k < R.n → ∃ b o, ro = some ⟨b, o, none⟩ ∧ w.cell? ⟨b, o + k * 4, none⟩ = some (.int .i64 (R.op k)) ∧ w.cell? ⟨b, o + k * 4 + 1, none⟩ = some (.int .i64 (R.a k)) ∧ w.cell? ⟨b, o + k * 4 + 2, none⟩ = some (.int .i64 (R.b k)) ∧ w.cell? ⟨b, o + k * 4 + 3, none⟩ = some (.int .i64 (R.c k))
def zeroT (R : QR) : QT := ⟨fun k => R.op k == 0, fun _ => ⟨false, ⟨0, 0⟩, []⟩, fun _ => 0⟩
/-- What New answers. -/
def NewPost (R : QR) (w : World) (e : Ending) (w' : World) : Prop := Keep (fun _ => False) w w' ∧ ((∃ x, e = .returned (.tuple #[.pointer none, .iface 36 x]) ∧ ¬ (R.n < 65 ∧ ∀ k, k < R.n → goodRule R.n (R.op k) (R.a k) (R.b k) (R.c k))) ∨ ∃ Z : QZ, e = .returned (.tuple #[.pointer (some ⟨Z.sh, 0, none⟩), .nilIface]) ∧ R.n < 65 ∧ Z.Ok R ∧ R.Ok ∧ Sh R Z 0 w' (zeroT R) ∧ ∀ b, Z.mut b → w.heap.size ≤ b)
/-- While the rules are laid. -/
structure NLoop (R : QR) (cb : Nat) (w1 wr : World) (j : Nat) : Prop where
  kp : Keep (fun b => b = cb) w1 wr
  done : ∃ lk lc : Nat → Nat, ∀ i, i < j → CellAt R { r := 0, cb := cb, mb := 0, rb := 0, fb := 0, hb := 0, db := 0, wb := 0, cc := 0, mc := 0, rc := 0, fc := 0, hc := 0, dc := 0, wc := 0, sema := .int .i64 0, lk := lk, lc := lc } wr i ∧ (R.op i ≠ 0 → w1.heap.size ≤ lk i) ∧ goodRule R.n (R.op i) (R.a i) (R.b i) (R.c i)
  rest : ∀ i, i < R.n → j ≤ i → NewCell wr cb i 0 0 0 0
  fz : ∀ i, wr.frozen? ⟨cb, i, none⟩ = false
theorem made_cell {cb n : Nat} (h : w.heap[cb]? = some (.cells (madeCells cellZ (n * 8)) 61)) {i : Nat} (hi : i < n) : NewCell w cb i 0 0 0 0 := by
  have f : ∀ j v, j < 8 → cellZ[j]? = some v → w.cell? ⟨cb, i * 8 + j, none⟩ = some v := fun j v hj hv => by
    have hlt : i * 8 + j < n * 8 := by omega
    have hm : (i * 8 + j) % cellZ.size = j := by
      show (i * 8 + j) % 8 = j
      omega
    simp only [World.cell?, h]
    simp only [madeCells, Array.getElem?_map, Array.getElem?_range, hlt, if_true, Option.map_some, hm]
    simp [getElem!_def, hv]
  refine ⟨f 0 _ (by decide) rfl, f 1 _ (by decide) rfl, f 2 _ (by decide) rfl, f 3 _ (by decide) rfl, f 4 _ (by decide) rfl, f 5 _ (by decide) rfl, f 7 _ (by decide) rfl, fun j => ?_⟩
  simp [World.frozen?, h]
theorem upto4 {t : Nat} (h : t < 4) : t = 0 ∨ t = 1 ∨ t = 2 ∨ t = 3 := by omega
/-- A rule is laid into its cell. -/
theorem laid {cb j : Nat} {op x y z : Int} {o : Obj} {W : World} (c : NewCell w cb j 0 0 0 0) (hW : W = (((((w.setCell ⟨cb, j * 8, none⟩ (.int .i64 op)).setCell ⟨cb, j * 8 + 1, none⟩ (.int .i64 x)).setCell ⟨cb, j * 8 + 2, none⟩ (.int .i64 y)).setCell ⟨cb, j * 8 + 3, none⟩ (.int .i64 z)).alloc o).drew) :
    NewCell W cb j op x y z ∧ Keep (fun b => b = cb) w W ∧ (∀ i, (i < j * 8 ∨ j * 8 + 4 ≤ i) → W.cell? ⟨cb, i, none⟩ = w.cell? ⟨cb, i, none⟩) ∧ ∀ i, W.frozen? ⟨cb, i, none⟩ = w.frozen? ⟨cb, i, none⟩ := by
  have hb : cb < w.heap.size := World.block_lt_of_cell? w _ c.h0
  have ac := fun i => alloc_cell ((((w.setCell ⟨cb, j * 8, none⟩ (.int .i64 op)).setCell ⟨cb, j * 8 + 1, none⟩ (.int .i64 x)).setCell ⟨cb, j * 8 + 2, none⟩ (.int .i64 y)).setCell ⟨cb, j * 8 + 3, none⟩ (.int .i64 z)) o ⟨cb, i, none⟩ (by simpa using hb)
  have hk : Keep (fun b => b = cb) w W := hW ▸ ((Keep.set (M := fun b => b = cb) (Keep.set (M := fun b => b = cb) (Keep.set (M := fun b => b = cb) (Keep.set (M := fun b => b = cb) (Keep.refl _ _) ⟨cb, j * 8, none⟩ rfl _) ⟨cb, j * 8 + 1, none⟩ rfl _) ⟨cb, j * 8 + 2, none⟩ rfl _) ⟨cb, j * 8 + 3, none⟩ rfl _).alloc _).drew
  have oc : ∀ i, (i < j * 8 ∨ j * 8 + 4 ≤ i) → W.cell? ⟨cb, i, none⟩ = w.cell? ⟨cb, i, none⟩ := fun i hi => by
    rw [hW, World.cell?_drew, (ac _).1]
    rw [World.cell?_setCell_other _ _ _ _ (off_ne (by omega)), World.cell?_setCell_other _ _ _ _ (off_ne (by omega)), World.cell?_setCell_other _ _ _ _ (off_ne (by omega)), World.cell?_setCell_other _ _ _ _ (off_ne (by omega))]
  have of : ∀ i, W.frozen? ⟨cb, i, none⟩ = w.frozen? ⟨cb, i, none⟩ := fun i => by
    rw [hW, World.frozen?_drew, (ac _).2]
    rw [World.frozen?_setCell, World.frozen?_setCell, World.frozen?_setCell, World.frozen?_setCell]
  have d0 : W.cell? ⟨cb, j * 8, none⟩ = some (.int .i64 op) := by
    rw [hW, World.cell?_drew, (ac _).1]
    rw [World.cell?_setCell_other _ _ _ _ (off_ne (by omega)), World.cell?_setCell_other _ _ _ _ (off_ne (by omega)), World.cell?_setCell_other _ _ _ _ (off_ne (by omega))]
    exact World.cell?_setCell_same _ _ _ c.h0
  have d1 : W.cell? ⟨cb, j * 8 + 1, none⟩ = some (.int .i64 x) := by
    rw [hW, World.cell?_drew, (ac _).1]
    rw [World.cell?_setCell_other _ _ _ _ (off_ne (by omega)), World.cell?_setCell_other _ _ _ _ (off_ne (by omega))]
    refine World.cell?_setCell_same _ _ _ (u := .int .i64 0) ?_
    rw [World.cell?_setCell_other _ _ _ _ (off_ne (by omega))]
    exact c.h1
  have d2 : W.cell? ⟨cb, j * 8 + 2, none⟩ = some (.int .i64 y) := by
    rw [hW, World.cell?_drew, (ac _).1]
    rw [World.cell?_setCell_other _ _ _ _ (off_ne (by omega))]
    refine World.cell?_setCell_same _ _ _ (u := .int .i64 0) ?_
    rw [World.cell?_setCell_other _ _ _ _ (off_ne (by omega)), World.cell?_setCell_other _ _ _ _ (off_ne (by omega))]
    exact c.h2
  have d3 : W.cell? ⟨cb, j * 8 + 3, none⟩ = some (.int .i64 z) := by
    rw [hW, World.cell?_drew, (ac _).1]
    refine World.cell?_setCell_same _ _ _ (u := .int .i64 0) ?_
    rw [World.cell?_setCell_other _ _ _ _ (off_ne (by omega)), World.cell?_setCell_other _ _ _ _ (off_ne (by omega)), World.cell?_setCell_other _ _ _ _ (off_ne (by omega))]
    exact c.h3
  exact ⟨⟨d0, d1, d2, d3, (oc _ (by omega)).trans c.h4, (oc _ (by omega)).trans c.h5, (oc _ (by omega)).trans c.h7, fun i => (of _).trans (c.hz i)⟩, hk, oc, of⟩
theorem NLoop.step {R : QR} {cb j : Nat} {w1 wr W w2 : World} (h : NLoop R cb w1 wr j) (hcb : cb < w1.heap.size) (c : NewCell W cb j (R.op j) (R.a j) (R.b j) (R.c j)) (kW : Keep (fun b => b = cb) wr W) (oc : ∀ i, (i < j * 8 ∨ j * 8 + 4 ≤ i) → W.cell? ⟨cb, i, none⟩ = wr.cell? ⟨cb, i, none⟩) (of : ∀ i, W.frozen? ⟨cb, i, none⟩ = wr.frozen? ⟨cb, i, none⟩)
    (kw : Keep (fun b => b = cb) W w2) (hg : goodRule R.n (R.op j) (R.a j) (R.b j) (R.c j)) (hl : Looked W w2 cb j (R.op j) (R.a j) (R.b j) (R.c j)) : NLoop R cb w1 w2 (j + 1) := by
  obtain ⟨v, l4, l7, li, lo, lf, ln⟩ := hl
  obtain ⟨lk, lc, hd⟩ := h.done
  have kk := kW.trans kw
  have o2 : ∀ i, (i < j * 8 ∨ j * 8 + 8 ≤ i) → w2.cell? ⟨cb, i, none⟩ = wr.cell? ⟨cb, i, none⟩ := fun i hi => (lo i (by omega) (by omega)).trans (oc i (by omega))
  have hv : ∃ lb cp, R.op j ≠ 0 → v = .slice (some ⟨lb, 0, none⟩) (lookL (R.op j) (R.a j) (R.b j) (R.c j)).length cp ∧ ∀ i (h : i < (lookL (R.op j) (R.a j) (R.b j) (R.c j)).length), w2.cell? ⟨lb, i, none⟩ = some (.int .i64 (lookL (R.op j) (R.a j) (R.b j) (R.c j))[i]) := by
    rcases li with ⟨e, _⟩ | ⟨lb, cp, e, hc⟩
    · refine ⟨0, 0, fun h0 => ?_⟩
      have := looks_len (R := R) (k := j) h0
      rw [show (R.looks j) = lookL (R.op j) (R.a j) (R.b j) (R.c j) from rfl, e] at this
      exact absurd this (Nat.lt_irrefl _)
    · exact ⟨lb, cp, fun _ => ⟨e, hc⟩⟩
  obtain ⟨lb, cp, hv⟩ := hv
  refine ⟨h.kp.trans kk, ⟨upf lk j lb, upf lc j cp, fun i hi => ?_⟩, fun i hi hji => ?_, fun i => (lf i).trans ((of i).trans (h.fz i))⟩
  · by_cases e : i = j
    · subst e
      refine ⟨⟨(lo _ (by omega) (by omega)).trans c.h0, (lo _ (by omega) (by omega)).trans c.h1, (lo _ (by omega) (by omega)).trans c.h2, (lo _ (by omega) (by omega)).trans c.h3, l4, fun h0 => ?_, fun h0 t ht => ?_⟩, fun h0 => ?_, hg⟩
      · show w2.cell? ⟨cb, i * 8 + 7, none⟩ = some (.slice (some ⟨upf lk i lb i, 0, none⟩) (lookL (R.op i) (R.a i) (R.b i) (R.c i)).length (upf lc i cp i))
        rw [upf_same, upf_same, ← (hv h0).1]
        exact l7
      · show w2.cell? ⟨upf lk i lb i, t, none⟩ = _
        rw [upf_same]
        exact (hv h0).2 t ht
      · rw [upf_same]
        exact Nat.le_trans (Nat.le_trans h.kp.size kW.size) (ln lb _ cp (hv h0).1)
    · have hij : i < j := by omega
      obtain ⟨ca, hb, hgi⟩ := hd i hij
      refine ⟨⟨(o2 _ (by omega)).trans ca.op, (o2 _ (by omega)).trans ca.a, (o2 _ (by omega)).trans ca.b, (o2 _ (by omega)).trans ca.c, (o2 _ (by omega)).trans ca.once, fun h0 => ?_, fun h0 t ht => ?_⟩, fun h0 => ?_, hgi⟩
      · show w2.cell? ⟨cb, i * 8 + 7, none⟩ = some (.slice (some ⟨upf lk j lb i, 0, none⟩) (R.looks i).length (upf lc j cp i))
        rw [upf_ne _ _ e, upf_ne _ _ e]
        exact (o2 _ (by omega)).trans (ca.looks h0)
      · show w2.cell? ⟨upf lk j lb i, t, none⟩ = _
        rw [upf_ne _ _ e]
        have := hb h0
        exact kk.cell (show ¬ lk i = cb by omega) (ca.at_ h0 t ht)
      · rw [upf_ne _ _ e]
        exact hb h0
  · have q := h.rest i hi (by omega)
    exact ⟨(o2 _ (by omega)).trans q.h0, (o2 _ (by omega)).trans q.h1, (o2 _ (by omega)).trans q.h2, (o2 _ (by omega)).trans q.h3, (o2 _ (by omega)).trans q.h4, (o2 _ (by omega)).trans q.h5, (o2 _ (by omega)).trans q.h7, fun t => (lf _).trans ((of _).trans (q.hz t))⟩
theorem made_one {b n : Nat} {t : TypeId} {z : Value} (h : w.heap[b]? = some (.cells (madeCells #[z] n) t)) : Mem w b n (fun _ => z) := fun i hi => by
  refine ⟨?_, by simp [World.frozen?, h]⟩
  simp only [World.cell?, h]
  simp [madeCells, hi, Nat.mod_one]
theorem made_mem {b n : Nat} (h : w.heap[b]? = some (.cells (madeCells memZ (n * 4)) 67)) {k : Nat} (hk : k < n) : MemAt w b (k * 4) ⟨false, ⟨0, 0⟩, []⟩ (.slice none 0 0) := by
  have f : ∀ j v, j < 4 → memZ[j]? = some v → w.cell? ⟨b, k * 4 + j, none⟩ = some v ∧ w.frozen? ⟨b, k * 4 + j, none⟩ = false := fun j v hj hv => by
    refine ⟨?_, by simp [World.frozen?, h]⟩
    have hlt : k * 4 + j < n * 4 := by omega
    have hm : (k * 4 + j) % memZ.size = j := by
      show (k * 4 + j) % 4 = j
      omega
    simp only [World.cell?, h]
    simp only [madeCells, Array.getElem?_map, Array.getElem?_range, hlt, if_true, Option.map_some, hm]
    simp [getElem!_def, hv]
  exact ⟨f 0 _ (by decide) rfl, f 1 _ (by decide) rfl, f 2 _ (by decide) rfl, f 3 _ (by decide) rfl⟩
/-- The sheet, when all rules are laid. -/
theorem new_sheet {R : QR} {cb mb fb rb sh : Nat} {w0 w1 wr : World} (nf : NF R.n cb mb fb rb sh w0 w1) (h : NLoop R cb w1 wr R.n) : ∃ Z : QZ, Z.sh = sh ∧ Z.Ok R ∧ R.Ok ∧ Sh R Z 0 wr { zeroT R with fr := fun _ => false } ∧ ∀ b, Z.mut b → w0.heap.size ≤ b := by
  obtain ⟨lk, lc, hd⟩ := h.done
  obtain ⟨⟨n1, n2, n3, n4⟩, ⟨n5, n6, n7⟩, ⟨n8, n9⟩, n10⟩ := nf.ne
  obtain ⟨q1, q2, q3, q4, q5⟩ := nf.ge
  have bl : ∀ {b : Nat} {o : Obj}, w1.heap[b]? = some o → b < w1.heap.size := fun h => (Array.getElem?_eq_some_iff.1 h).1
  have b1 := bl nf.s
  have b2 := bl nf.m
  have b3 := bl nf.f
  have b4 := bl nf.r
  have hg : ∀ k, k < R.n → goodRule R.n (R.op k) (R.a k) (R.b k) (R.c k) := fun k hk => (hd k hk).2.2
  refine ⟨⟨sh, cb, mb, fb, rb, R.n, R.n, R.n, R.n, .int .u32 0, lk, lc⟩, rfl, ?_, ?_, ?_, ?_⟩
  · refine ⟨⟨n2, n2.symm⟩, ⟨n3, n3.symm⟩, ⟨n4, n4.symm⟩, ⟨n8, n8.symm⟩, ⟨n9, n9.symm⟩, ⟨n10, n10.symm⟩, ?_, fun k hk h0 => ?_⟩
    · rintro (e | e | e | e)
      · exact n1 e.symm
      · exact n5 e
      · exact n6 e
      · exact n7 e
    · have := (hd k hk).2.1 h0
      have hl : w1.heap.size ≤ lk k := this
      rintro (e | e | e | e)
      · have : lk k = sh := e; omega
      · have : lk k = mb := e; omega
      · have : lk k = fb := e; omega
      · have : lk k = rb := e; omega
  · have gb : ∀ {k : Nat} (x : Int), k < R.n → x ∈ lookL (R.op k) (R.a k) (R.b k) (R.c k) → 0 ≤ x ∧ x < R.n := fun x hk hx => by
      have := (hg _ hk).2 x hx
      unfold badN at this
      omega
    refine ⟨fun k hk => (hg k hk).1, fun k hk h0 => gb _ hk ?_, fun k hk h0 h5 => gb _ hk ?_, fun k hk h4 => gb _ hk ?_⟩
    · unfold lookL
      rw [if_neg h0]
      split
      · simp
      · split <;> simp
    · unfold lookL
      rw [if_neg h0, if_neg h5]
      split <;> simp
    · unfold lookL
      rw [if_neg (by omega), if_neg (by omega), if_pos h4]
      simp
  · refine ⟨?_, fun k hk => ?_, fun k hk => ⟨.slice none 0 0, ?_, .inl ⟨rfl, none, 0, rfl⟩⟩, ?_, ?_⟩
    · refine h.kp.mem n1 fun i hi => ⟨?_, by simp [World.frozen?, nf.s]⟩
      have : i = 0 ∨ i = 1 ∨ i = 2 ∨ i = 3 ∨ i = 4 ∨ i = 5 := by omega
      simp only [World.cell?, nf.s]
      rcases this with rfl | rfl | rfl | rfl | rfl | rfl <;> rfl
    · have c := (hd k hk).1
      exact ⟨c.op, c.a, c.b, c.c, c.once, c.looks, c.at_⟩
    · exact (made_mem nf.m hk).blk fun hb => h.kp.block _ hb n5.symm
    · exact h.kp.mem n6.symm (made_one nf.f)
    · exact h.kp.mem n7.symm (made_one nf.r)
  · rintro b (rfl | rfl | rfl | rfl)
    · exact q5
    · exact q2
    · exact q3
    · exact q4
end
end Go.Proofs.Ytdlnlcjmjgbikaa
