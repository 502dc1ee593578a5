/- sound: is a rule one? -/
import Derived.Test.YtdlnlcjmjgbikaaUg1
namespace Go.Proofs.Ytdlnlcjmjgbikaa
open Go Go.Conc Go.RowKit Go.Deep

noncomputable section
variable {w w' : World} {k : Nat}
/-- A slice of numbers. -/
def Ints (w : World) (v : Value) (L : List Int) : Prop := (L = [] ∧ v = .slice none 0 0) ∨ ∃ lb cap, v = .slice (some ⟨lb, 0, none⟩) L.length cap ∧ ∀ i (h : i < L.length), w.cell? ⟨lb, i, none⟩ = some (.int .i64 L[i])
def badN (n : Nat) (x : Int) : Prop := x < 0 ∨ (n : Int) ≤ x
set_option maxRecDepth 100000 in
set_option maxHeartbeats 2000000 in
theorem index_any {sh cb n cc : Nat} (h : w.cell? ⟨sh, 2, none⟩ = some (.slice (some ⟨cb, 0, none⟩) n cc)) {v : Value} {L : List Int} (hv : Ints w v L) (hL : L.length ≤ 3) : Calls Sq.prog 25 #[v, .func (.func 16) #[.pointer (some ⟨sh, 0, none⟩)] #[]] w fun e w' => (∃ x : Int, e = .returned (.int .i64 x) ∧ (0 ≤ x ↔ ∃ y ∈ L, badN n y)) ∧ w' = w := by
  suffices ∀ Pp : Ending → World → Prop, Hid (∀ x : Int, (0 ≤ x ↔ ∃ y ∈ L, badN n y) → Pp (.returned (.int .i64 x)) w) → Calls Sq.prog 25 #[v, .func (.func 16) #[.pointer (some ⟨sh, 0, none⟩)] #[]] w Pp from this _ (hide fun x hx => ⟨⟨x, rfl, hx⟩, rfl⟩)
  intro Pp HP
  rcases hv with ⟨rfl, rfl⟩ | ⟨lb, cap, rfl, hl⟩
  · have HE := hide (HP.out (-1) (by simp))
    go_enter Sq.func25, Sq.ntmps25
    go_wp2_with fail
    refine wp_loop_rounds 1 ?_
    rw [rounds_succ]
    go_wp2_with fail
    exact HE.out
  · obtain ⟨N, hN⟩ : ∃ N, L.length = N := ⟨_, rfl⟩
    have HL := hide hl
    have HN := hide hN
    rw [hN]
    rw [hN] at hL
    clear hl hN
    go_enter Sq.func25, Sq.ntmps25
    go_wp2_with fail
    go_loopw [8] (fun iv wr => ∃ j : Nat, iv = .int .i64 j ∧ j ≤ N ∧ wr = w ∧ Hid (∀ i (h : i < L.length), i < j → ¬ badN n L[i])) (fun iv _ => N - ivn iv)
    case atStart => exact ⟨0, rfl, Nat.zero_le _, rfl, hide fun i h h2 => absurd h2 (Nat.not_lt_zero _)⟩
    case round =>
      obtain ⟨j, rfl, hj, rfl, HI⟩ := hrel
      by_cases hlt : j < N
      · have hjl : j < L.length := by rw [HN.out]; exact hlt
        have hc := HL.out j hjl
        obtain ⟨x, hx⟩ : ∃ x, L[j] = x := ⟨_, rfl⟩
        rw [hx] at hc
        by_cases hb : badN n x
        · have LK := hide (lacks_any h x)
          rw [decide_eq_true (show x < 0 ∨ (n : Int) ≤ x from hb)] at LK
          have HE := hide (HP.out j ⟨fun _ => ⟨x, hx ▸ List.getElem_mem hjl, hb⟩, fun _ => by omega⟩)
          clear hx hjl hb
          go_wp2_with fail
          refine LK.out.mono ?_
          rintro e w2 ⟨rfl, rfl⟩
          go_wp2_with fail
          exact HE.out
        · have LK := hide (lacks_any h x)
          rw [decide_eq_false (show ¬ (x < 0 ∨ (n : Int) ≤ x) from hb)] at LK
          have HI2 : Hid (∀ i (h : i < L.length), i < j + 1 → ¬ badN n L[i]) := hide fun i h h2 => by
            by_cases e : i = j
            · subst e; rw [hx]; exact hb
            · exact HI.out i h (by omega)
          clear hx hjl hb HI
          go_wp2_with fail
          refine LK.out.mono ?_
          rintro e w2 ⟨rfl, rfl⟩
          go_wp2_with fail
          refine ⟨⟨j + 1, rfl, hlt, trivial, HI2⟩, ?_⟩
          simp only [ivn]
          omega
      · obtain rfl : j = N := by omega
        have HE := hide (HP.out (-1) ⟨fun h => absurd h (by decide), fun ⟨y, hy, hb⟩ => by
          obtain ⟨i, hi, rfl⟩ := List.getElem_of_mem hy
          exact absurd hb (HI.out i hi (by rw [← HN.out]; exact hi))⟩)
        clear HI
        go_wp2_with fail
        exact HE.out
set_option maxRecDepth 100000 in
set_option maxHeartbeats 1000000 in
theorem contains_any {sh cb n cc : Nat} (h : w.cell? ⟨sh, 2, none⟩ = some (.slice (some ⟨cb, 0, none⟩) n cc)) {v : Value} {L : List Int} (hv : Ints w v L) (hL : L.length ≤ 3) : Calls Sq.prog 17 #[v, .func (.func 16) #[.pointer (some ⟨sh, 0, none⟩)] #[]] w fun e w' => (∃ b : Bool, e = .returned (.bool b) ∧ (b = true ↔ ∃ y ∈ L, badN n y)) ∧ w' = w := by
  have IX := hide (index_any h hv hL)
  obtain ⟨a, m, cp, rfl⟩ : ∃ a m cp, v = .slice a m cp := by
    rcases hv with ⟨_, rfl⟩ | ⟨lb, cap, rfl, _⟩ <;> exact ⟨_, _, _, rfl⟩
  suffices ∀ Pp : Ending → World → Prop, Hid (∀ b : Bool, (b = true ↔ ∃ y ∈ L, badN n y) → Pp (.returned (.bool b)) w) → Calls Sq.prog 17 #[.slice a m cp, .func (.func 16) #[.pointer (some ⟨sh, 0, none⟩)] #[]] w Pp from this _ (hide fun x hx => ⟨⟨x, rfl, hx⟩, rfl⟩)
  intro Pp HP
  clear h hv
  go_enter Sq.func17, Sq.ntmps17
  go_wp2_with fail
  refine IX.out.mono ?_
  rintro e w2 ⟨⟨x, rfl, hx⟩, rfl⟩
  have HE := hide (HP.out (decide (0 ≤ x)) (by simpa using hx))
  clear hx
  go_wp2_with fail
  exact HE.out
/-- What a rule looks at. -/
def lookL (op x y z : Int) : List Int := if op = 0 then [] else if op = 5 then [x] else if op = 4 then [x, y, z] else [x, y]
theorem lookL_len (op x y z : Int) : (lookL op x y z).length ≤ 3 := by
  unfold lookL
  split
  · simp
  · split
    · simp
    · split <;> simp
def LookEnd (cb k : Nat) (L : List Int) (wl w1 : World) : Prop := ∃ v, w1.cell? ⟨cb, k * 8 + 7, none⟩ = some v ∧ Ints w1 v L ∧ (∀ i, i ≠ k * 8 + 7 → w1.cell? ⟨cb, i, none⟩ = wl.cell? ⟨cb, i, none⟩) ∧ (∀ i, w1.frozen? ⟨cb, i, none⟩ = wl.frozen? ⟨cb, i, none⟩) ∧ Keep (fun b => b = cb) wl w1 ∧ ∀ lb n c, v = .slice (some ⟨lb, 0, none⟩) n c → wl.heap.size ≤ lb
theorem off_ne {cb i j : Nat} (h : i ≠ j) : (⟨cb, i, none⟩ : Addr) ≠ ⟨cb, j, none⟩ := fun e => h (congrArg Addr.off e)
theorem lookEnd_new {cb k : Nat} {wl : World} {u : Value} {L : List Int} {vs : Array Value} (hu : wl.cell? ⟨cb, k * 8 + 7, none⟩ = some u) (hL : ∀ i (h : i < L.length), vs[i]? = some (.int .i64 L[i])) :
    LookEnd cb k L wl ((wl.setCell ⟨cb, k * 8 + 7, none⟩ (.slice (some ⟨wl.heap.size, 0, none⟩) L.length L.length)).alloc (.cells vs 3)) := by
  have hb : cb < wl.heap.size := World.block_lt_of_cell? wl _ hu
  have hs : (wl.setCell ⟨cb, k * 8 + 7, none⟩ (.slice (some ⟨wl.heap.size, 0, none⟩) L.length L.length)).heap.size = wl.heap.size := by simp
  have ac := fun i => alloc_cell (wl.setCell ⟨cb, k * 8 + 7, none⟩ (.slice (some ⟨wl.heap.size, 0, none⟩) L.length L.length)) (.cells vs 3) ⟨cb, i, none⟩ (by rw [hs]; exact hb)
  refine ⟨.slice (some ⟨wl.heap.size, 0, none⟩) L.length L.length, ?_, .inr ⟨wl.heap.size, L.length, rfl, fun i hi => ?_⟩, fun i hi => ?_, fun i => ?_, (Keep.set (M := fun b => b = cb) (Keep.refl _ _) ⟨cb, k * 8 + 7, none⟩ rfl _).alloc _, fun lb n c e => ?_⟩
  · rw [(ac _).1]
    exact World.cell?_setCell_same _ _ _ hu
  · have := World.cell?_alloc_new (wl.setCell ⟨cb, k * 8 + 7, none⟩ (.slice (some ⟨wl.heap.size, 0, none⟩) L.length L.length)) vs 3 i
    rw [hs] at this
    rw [this]
    exact hL i hi
  · rw [(ac _).1, World.cell?_setCell_other _ _ _ _ (off_ne (Ne.symm hi))]
  · rw [(ac _).2, World.frozen?_setCell]
  · cases e
    exact Nat.le_refl _
theorem LookEnd.drew {cb k : Nat} {L : List Int} {wl w1 : World} (h : LookEnd cb k L wl w1) : LookEnd cb k L wl w1.drew := by
  obtain ⟨v, h1, h2, h3, h4, h5, h6⟩ := h
  exact ⟨v, h1, h2, h3, h4, h5.drew, h6⟩
theorem look_any {cb k : Nat} {op x y z : Int} {u : Value} (hop : 0 ≤ op ∧ op ≤ 5) (h0 : w.cell? ⟨cb, k * 8, none⟩ = some (.int .i64 op)) (h1 : w.cell? ⟨cb, k * 8 + 1, none⟩ = some (.int .i64 x)) (h2 : w.cell? ⟨cb, k * 8 + 2, none⟩ = some (.int .i64 y)) (h3 : w.cell? ⟨cb, k * 8 + 3, none⟩ = some (.int .i64 z)) (h7 : w.cell? ⟨cb, k * 8 + 7, none⟩ = some u) (z7 : w.frozen? ⟨cb, k * 8 + 7, none⟩ = false) (hu : op = 0 → u = .slice none 0 0) :
    Calls Sq.prog 31 #[.pointer (some ⟨cb, k * 8, none⟩)] w fun e w1 => e = .returned (.tuple #[]) ∧ LookEnd cb k (lookL op x y z) w w1 := by
  have hb : cb < w.heap.size := World.block_lt_of_cell? w _ h7
  have : op = 0 ∨ op = 1 ∨ op = 2 ∨ op = 3 ∨ op = 4 ∨ op = 5 := by omega
  have two : ∀ i (h : i < [x, y].length), (#[Value.int .i64 x, .int .i64 y] : Array Value)[i]? = some (.int .i64 [x, y][i]) := fun i h => by
    have : i = 0 ∨ i = 1 := by simp at h; omega
    rcases this with rfl | rfl <;> rfl
  have three : ∀ i (h : i < [x, y, z].length), (#[Value.int .i64 x, .int .i64 y, .int .i64 z] : Array Value)[i]? = some (.int .i64 [x, y, z][i]) := fun i h => by
    have : i = 0 ∨ i = 1 ∨ i = 2 := by simp at h; omega
    rcases this with rfl | rfl | rfl <;> rfl
  have one : ∀ i (h : i < [x].length), (#[Value.int .i64 x] : Array Value)[i]? = some (.int .i64 [x][i]) := fun i h => by
    obtain rfl : i = 0 := by simpa using h
    rfl
  rcases this with rfl | rfl | rfl | rfl | rfl | rfl
  · refine (look_input cb (k * 8) w h0).mono ?_
    rintro e w1 ⟨rfl, rfl⟩
    refine ⟨rfl, u, h7, .inl ⟨rfl, hu rfl⟩, fun _ _ => rfl, fun _ => rfl, Keep.refl _ _, fun lb n c e => ?_⟩
    rw [hu rfl] at e
    cases e
  · refine (look_add cb (k * 8) x y u w h0 h1 h2 h7 z7 hb).mono ?_
    rintro e w1 ⟨rfl, rfl⟩
    exact ⟨rfl, (lookEnd_new (L := [x, y]) h7 two).drew⟩
  · refine (look_mul cb (k * 8) x y u w h0 h1 h2 h7 z7 hb).mono ?_
    rintro e w1 ⟨rfl, rfl⟩
    exact ⟨rfl, (lookEnd_new (L := [x, y]) h7 two).drew⟩
  · refine (look_less cb (k * 8) x y u w h0 h1 h2 h7 z7 hb).mono ?_
    rintro e w1 ⟨rfl, rfl⟩
    exact ⟨rfl, (lookEnd_new (L := [x, y]) h7 two).drew⟩
  · refine (look_pick cb (k * 8) x y z u w h0 h1 h2 h3 h7 z7 hb).mono ?_
    rintro e w1 ⟨rfl, rfl⟩
    exact ⟨rfl, (lookEnd_new (L := [x, y, z]) h7 three).drew⟩
  · refine (look_low cb (k * 8) x u w h0 h1 h7 z7 hb).mono ?_
    rintro e w1 ⟨rfl, rfl⟩
    exact ⟨rfl, lookEnd_new (L := [x]) h7 one⟩
/-- A cell's rule is looked at for the first time. -/
theorem looks_new {cb k : Nat} {op x y z : Int} {u : Value} (hop : 0 ≤ op ∧ op ≤ 5) (h0 : w.cell? ⟨cb, k * 8, none⟩ = some (.int .i64 op)) (h1 : w.cell? ⟨cb, k * 8 + 1, none⟩ = some (.int .i64 x)) (h2 : w.cell? ⟨cb, k * 8 + 2, none⟩ = some (.int .i64 y)) (h3 : w.cell? ⟨cb, k * 8 + 3, none⟩ = some (.int .i64 z))
    (h4 : w.cell? ⟨cb, k * 8 + 4, none⟩ = some (.int .u32 0)) (h5 : w.cell? ⟨cb, k * 8 + 5, none⟩ = some (.int .i32 0)) (h7 : w.cell? ⟨cb, k * 8 + 7, none⟩ = some u) (hz : ∀ i, w.frozen? ⟨cb, k * 8 + i, none⟩ = false) (hu : op = 0 → u = .slice none 0 0) :
    Calls Sq.prog 22 #[.pointer (some ⟨cb, k * 8, none⟩)] w fun e w' => ∃ v, e = .returned v ∧ w'.cell? ⟨cb, k * 8 + 4, none⟩ = some (.int .u32 1) ∧ w'.cell? ⟨cb, k * 8 + 7, none⟩ = some v ∧ Ints w' v (lookL op x y z) ∧ (∀ i, i ≠ k * 8 + 4 → i ≠ k * 8 + 7 → w'.cell? ⟨cb, i, none⟩ = w.cell? ⟨cb, i, none⟩) ∧ (∀ i, w'.frozen? ⟨cb, i, none⟩ = w.frozen? ⟨cb, i, none⟩) ∧ Keep (fun b => b = cb) w w' ∧ ∀ lb n c, v = .slice (some ⟨lb, 0, none⟩) n c → w.heap.size ≤ lb := by
  have hb : cb < w.heap.size := World.block_lt_of_cell? w _ h7
  have n := fun (i j : Nat) (h : i ≠ j) => (off_ne (cb := cb) (show k * 8 + i ≠ k * 8 + j by omega))
  refine looksAt_new cb (k * 8) w (fun v w' => w'.cell? ⟨cb, k * 8 + 4, none⟩ = some (.int .u32 1) ∧ w'.cell? ⟨cb, k * 8 + 7, none⟩ = some v ∧ Ints w' v (lookL op x y z) ∧ (∀ i, i ≠ k * 8 + 4 → i ≠ k * 8 + 7 → w'.cell? ⟨cb, i, none⟩ = w.cell? ⟨cb, i, none⟩) ∧ (∀ i, w'.frozen? ⟨cb, i, none⟩ = w.frozen? ⟨cb, i, none⟩) ∧ Keep (fun b => b = cb) w w' ∧ ∀ lb n c, v = .slice (some ⟨lb, 0, none⟩) n c → w.heap.size ≤ lb) h4 ?_
  have hl : ∀ i, i ≠ 5 → (w.setCell ⟨cb, k * 8 + 4 + 1, none⟩ (.int .i32 1)).cell? ⟨cb, k * 8 + i, none⟩ = w.cell? ⟨cb, k * 8 + i, none⟩ := fun i hi => World.cell?_setCell_other _ _ _ _ (n 5 i (Ne.symm hi))
  have hfz : ∀ i, (w.setCell ⟨cb, k * 8 + 4 + 1, none⟩ (.int .i32 1)).frozen? ⟨cb, i, none⟩ = w.frozen? ⟨cb, i, none⟩ := fun i => World.frozen?_setCell _ _ _ _
  refine doSlow_any cb (k * 8 + 4) 31 (.pointer (some ⟨cb, k * 8, none⟩)) w (fun w' => ∃ v, w'.cell? ⟨cb, k * 8 + 7, none⟩ = some v ∧ w'.cell? ⟨cb, k * 8 + 4, none⟩ = some (.int .u32 1) ∧ w'.cell? ⟨cb, k * 8 + 7, none⟩ = some v ∧ Ints w' v (lookL op x y z) ∧ (∀ i, i ≠ k * 8 + 4 → i ≠ k * 8 + 7 → w'.cell? ⟨cb, i, none⟩ = w.cell? ⟨cb, i, none⟩) ∧ (∀ i, w'.frozen? ⟨cb, i, none⟩ = w.frozen? ⟨cb, i, none⟩) ∧ Keep (fun b => b = cb) w w' ∧ ∀ lb n c, v = .slice (some ⟨lb, 0, none⟩) n c → w.heap.size ≤ lb) h4 h5 (hz 5) (fun args w => by simp) ?_
  refine (look_any hop ((hl 0 (by decide)).trans h0) ((hl 1 (by decide)).trans h1) ((hl 2 (by decide)).trans h2) ((hl 3 (by decide)).trans h3) ((hl 7 (by decide)).trans h7) ((hfz _).trans (hz 7)) hu).mono ?_
  rintro e w1 ⟨rfl, v, e7, ei, eo, ef, ek, en⟩
  have c4 : w1.cell? ⟨cb, k * 8 + 4, none⟩ = some (.int .u32 0) := (eo _ (by omega)).trans ((hl 4 (by decide)).trans h4)
  have c5 : w1.cell? ⟨cb, k * 8 + 4 + 1, none⟩ = some (.int .i32 1) := (eo (k * 8 + 4 + 1) (by omega)).trans (World.cell?_setCell_same _ _ _ h5)
  refine ⟨rfl, c4, (ef _).trans ((hfz _).trans (hz 4)), c5, (ef _).trans ((hfz _).trans (hz 5)), v, ?_⟩
  have kk : Keep (fun b => b = cb) w1 (((w1.setCell ⟨cb, k * 8 + 4, none⟩ (.int .u32 1)).drew).setCell ⟨cb, k * 8 + 4 + 1, none⟩ (.int .i32 0)) := Keep.set (M := fun b => b = cb) (Keep.set (M := fun b => b = cb) (Keep.refl _ _) ⟨cb, k * 8 + 4, none⟩ rfl _).drew ⟨cb, k * 8 + 4 + 1, none⟩ rfl _
  have oo : ∀ i, i ≠ k * 8 + 4 → i ≠ k * 8 + 4 + 1 → (((w1.setCell ⟨cb, k * 8 + 4, none⟩ (.int .u32 1)).drew).setCell ⟨cb, k * 8 + 4 + 1, none⟩ (.int .i32 0)).cell? ⟨cb, i, none⟩ = w1.cell? ⟨cb, i, none⟩ := fun i h4 h5 => by
    rw [World.cell?_setCell_other _ _ _ _ (off_ne (Ne.symm h5))]
    show (w1.setCell ⟨cb, k * 8 + 4, none⟩ (.int .u32 1)).cell? _ = _
    rw [World.cell?_setCell_other _ _ _ _ (off_ne (Ne.symm h4))]
  have w7 := (oo (k * 8 + 7) (by omega) (by omega)).trans e7
  refine ⟨w7, ?_, w7, ?_, fun i h4' h7' => ?_, fun i => ?_, (Keep.set (M := fun b => b = cb) (Keep.refl _ _) ⟨cb, k * 8 + 4 + 1, none⟩ rfl _).trans (ek.trans kk), fun lb nn c ev => by simpa using en lb nn c ev⟩
  · rw [World.cell?_setCell_other _ _ _ _ (off_ne (by omega))]
    show (w1.setCell ⟨cb, k * 8 + 4, none⟩ (.int .u32 1)).cell? _ = _
    exact World.cell?_setCell_same _ _ _ c4
  · rcases ei with ei | ⟨lb, cap, rfl, ei⟩
    · exact .inl ei
    · have hlb : w.heap.size ≤ lb := by simpa using en lb _ _ rfl
      exact .inr ⟨lb, cap, rfl, fun i hi => kk.cell (show ¬ lb = cb by omega) (ei i hi)⟩
  · by_cases e5 : i = k * 8 + 4 + 1
    · subst e5
      rw [show k * 8 + 4 + 1 = k * 8 + 5 from rfl] at *
      rw [h5]
      refine World.cell?_setCell_same _ _ _ (u := .int .i32 1) ?_
      show (w1.setCell ⟨cb, k * 8 + 4, none⟩ (.int .u32 1)).cell? _ = _
      rw [World.cell?_setCell_other _ _ _ _ (off_ne (by omega))]
      exact c5
    · rw [oo i h4' e5, eo i h7', World.cell?_setCell_other _ _ _ _ (off_ne (Ne.symm e5))]
  · rw [World.frozen?_setCell]
    show (w1.setCell ⟨cb, k * 8 + 4, none⟩ (.int .u32 1)).frozen? _ = _
    rw [World.frozen?_setCell, ef, hfz]
end
end Go.Proofs.Ytdlnlcjmjgbikaa
/- sound. -/
namespace Go.Proofs.Ytdlnlcjmjgbikaa
open Go Go.Conc Go.RowKit Go.Deep

noncomputable section
variable {w w' : World} {k : Nat}
/-- A rule has been looked at: what is known of its cell behind that. -/
def Looked (w w' : World) (cb k : Nat) (op x y z : Int) : Prop := ∃ v, w'.cell? ⟨cb, k * 8 + 4, none⟩ = some (.int .u32 1) ∧ w'.cell? ⟨cb, k * 8 + 7, none⟩ = some v ∧ Ints w' v (lookL op x y z) ∧ (∀ i, i ≠ k * 8 + 4 → i ≠ k * 8 + 7 → w'.cell? ⟨cb, i, none⟩ = w.cell? ⟨cb, i, none⟩) ∧ (∀ i, w'.frozen? ⟨cb, i, none⟩ = w.frozen? ⟨cb, i, none⟩) ∧ ∀ lb n c, v = .slice (some ⟨lb, 0, none⟩) n c → w.heap.size ≤ lb
/-- A new cell, its rule laid. -/
structure NewCell (w : World) (cb k : Nat) (op x y z : Int) : Prop where
  h0 : w.cell? ⟨cb, k * 8, none⟩ = some (.int .i64 op)
  h1 : w.cell? ⟨cb, k * 8 + 1, none⟩ = some (.int .i64 x)
  h2 : w.cell? ⟨cb, k * 8 + 2, none⟩ = some (.int .i64 y)
  h3 : w.cell? ⟨cb, k * 8 + 3, none⟩ = some (.int .i64 z)
  h4 : w.cell? ⟨cb, k * 8 + 4, none⟩ = some (.int .u32 0)
  h5 : w.cell? ⟨cb, k * 8 + 5, none⟩ = some (.int .i32 0)
  h7 : w.cell? ⟨cb, k * 8 + 7, none⟩ = some (.slice none 0 0)
  hz : ∀ i, w.frozen? ⟨cb, k * 8 + i, none⟩ = false
def goodRule (n : Nat) (op x y z : Int) : Prop := (0 ≤ op ∧ op ≤ 5) ∧ ∀ t ∈ lookL op x y z, ¬ badN n t
set_option maxRecDepth 100000 in
set_option maxHeartbeats 2000000 in
theorem sound_any {sh cb n cc : Nat} {op x y z : Int} (h : w.cell? ⟨sh, 2, none⟩ = some (.slice (some ⟨cb, 0, none⟩) n cc)) (hne : sh ≠ cb) (hk : k < n) (c : NewCell w cb k op x y z) :
    Calls Sq.prog 12 #[.pointer (some ⟨sh, 0, none⟩), .int .i64 k] w fun e w' => ∃ b : Bool, e = .returned (.bool b) ∧ Keep (fun b => b = cb) w w' ∧ (b = true → goodRule n op x y z ∧ Looked w w' cb k op x y z) ∧ (b = false → ¬ goodRule n op x y z) := by
  suffices ∀ Pp : Ending → World → Prop, Hid (∀ e w', (∃ b : Bool, e = .returned (.bool b) ∧ Keep (fun b => b = cb) w w' ∧ (b = true → goodRule n op x y z ∧ Looked w w' cb k op x y z) ∧ (b = false → ¬ goodRule n op x y z)) → Pp e w') → Calls Sq.prog 12 #[.pointer (some ⟨sh, 0, none⟩), .int .i64 k] w Pp from this _ (hide fun _ _ h => h)
  intro Pp HP
  have h0 := c.h0
  by_cases hop : 0 ≤ op ∧ op ≤ 5
  · obtain ⟨o1, o2⟩ := hop
    have LN := hide (looks_new ⟨o1, o2⟩ c.h0 c.h1 c.h2 c.h3 c.h4 c.h5 c.h7 c.hz fun _ => rfl)
    have H := hide h
    have O := hide (And.intro o1 o2)
    clear c
    go_enter Sq.func12, Sq.ntmps12
    go_wp2_with fail
    refine LN.out.mono ?_
    rintro e w1 ⟨v, rfl, l4, l7, li, lo, lf, lk, ln⟩
    have CN := hide (contains_any (lk.cell (a := ⟨sh, 2, none⟩) hne H.out) li (lookL_len _ _ _ _))
    have LL := hide (And.intro lk (⟨v, l4, l7, li, lo, lf, ln⟩ : Looked w w1 cb k op x y z))
    clear l4 l7 li lo lf lk ln LN
    go_wp2_with fail
    refine CN.out.mono ?_
    rintro e w2 ⟨⟨b, rfl, hb⟩, rfl⟩
    have HE := hide (HP.out (.returned (.bool (!b))) w2 ⟨!b, rfl, LL.out.1, fun hb2 => ⟨⟨O.out, fun t ht hbad => by
      have : b = true := hb.2 ⟨t, ht, hbad⟩
      rw [this] at hb2
      cases hb2⟩, LL.out.2⟩, fun hb2 hg => by
        have : b = true := by simpa using hb2
        obtain ⟨t, ht, hbad⟩ := hb.1 this
        exact hg.2 t ht hbad⟩)
    clear hb
    go_wp2_with fail
    exact HE.out
  · have HE := hide (HP.out (.returned (.bool false)) w ⟨false, rfl, Keep.refl _ _, fun h => by (cases h), fun _ hg => hop hg.1⟩)
    clear c
    by_cases o1 : 0 ≤ op
    · have o2 : ¬ op ≤ 5 := fun o2 => hop ⟨o1, o2⟩
      clear hop
      go_enter Sq.func12, Sq.ntmps12
      go_wp2_with fail
      exact HE.out
    · clear hop
      go_enter Sq.func12, Sq.ntmps12
      go_wp2_with fail
      exact HE.out
end
end Go.Proofs.Ytdlnlcjmjgbikaa
