/- A new round. -/
import Derived.Test.YtdlnlcjmjgbikaaUd2
namespace Go.Proofs.Ytdlnlcjmjgbikaa
open Go Go.Conc Go.RowKit Go.Deep

noncomputable section
variable {R : QR} {Z : QZ} {st most : Int} {w0 w w' : World} {T : QT} {lv : Nat → Value}
theorem Sh.rf (h : Sh R Z st w T) (h0 : 0 < R.n) (hn : R.n < 65) : ∃ lv, RF R Z st T lv w ∧ ∀ k, k < R.n → LedIs Z.mut w (lv k) (T.mem k).led := by
  have hx : ∀ k, ∃ v, k < R.n → MemAt w Z.mb (k * 4) (T.mem k) v ∧ LedIs Z.mut w v (T.mem k).led := fun k => by
    by_cases hk : k < R.n
    · obtain ⟨v, h1⟩ := h.mems k hk
      exact ⟨v, fun _ => h1⟩
    · exact ⟨undef, fun h => absurd h hk⟩
  obtain ⟨lv, hlv⟩ := Classical.axiomOfChoice hx
  exact ⟨lv, ⟨h, h0, hn, fun k hk => ⟨(hlv k hk).1, led_slice (hlv k hk).2⟩⟩, fun k hk => (hlv k hk).2⟩
theorem RF.drew (h : RF R Z st T lv w) : RF R Z st T lv w.drew := ⟨h.s.new (Keep.refl _ _).drew, h.h0, h.hn, fun k hk => ⟨(h.m k hk).1.blk fun _ => rfl, (h.m k hk).2⟩⟩
theorem sq_mixed : Sq.prog.follows .mixedOrders = true := by kernel_rfl
theorem arr52 (xs : Array Value) (h : xs.size = 52) : xs = #[xs.getD 0 undef, xs.getD 1 undef, xs.getD 2 undef, xs.getD 3 undef, xs.getD 4 undef, xs.getD 5 undef, xs.getD 6 undef, xs.getD 7 undef, xs.getD 8 undef, xs.getD 9 undef, xs.getD 10 undef, xs.getD 11 undef, xs.getD 12 undef, xs.getD 13 undef, xs.getD 14 undef, xs.getD 15 undef, xs.getD 16 undef, xs.getD 17 undef, xs.getD 18 undef, xs.getD 19 undef, xs.getD 20 undef, xs.getD 21 undef, xs.getD 22 undef, xs.getD 23 undef, xs.getD 24 undef, xs.getD 25 undef, xs.getD 26 undef, xs.getD 27 undef, xs.getD 28 undef, xs.getD 29 undef, xs.getD 30 undef, xs.getD 31 undef, xs.getD 32 undef, xs.getD 33 undef, xs.getD 34 undef, xs.getD 35 undef, xs.getD 36 undef, xs.getD 37 undef, xs.getD 38 undef, xs.getD 39 undef, xs.getD 40 undef, xs.getD 41 undef, xs.getD 42 undef, xs.getD 43 undef, xs.getD 44 undef, xs.getD 45 undef, xs.getD 46 undef, xs.getD 47 undef, xs.getD 48 undef, xs.getD 49 undef, xs.getD 50 undef, xs.getD 51 undef] := by
  refine Array.ext (by rw [h]; rfl) fun i h1 h2 => ?_
  have hi : i < 52 := h ▸ h1
  have e : xs[i] = xs.getD i undef := by simp [h1]
  rw [e]
  have : i = 0 ∨ i = 1 ∨ i = 2 ∨ i = 3 ∨ i = 4 ∨ i = 5 ∨ i = 6 ∨ i = 7 ∨ i = 8 ∨ i = 9 ∨ i = 10 ∨ i = 11 ∨ i = 12 ∨ i = 13 ∨ i = 14 ∨ i = 15 ∨ i = 16 ∨ i = 17 ∨ i = 18 ∨ i = 19 ∨ i = 20 ∨ i = 21 ∨ i = 22 ∨ i = 23 ∨ i = 24 ∨ i = 25 ∨ i = 26 ∨ i = 27 ∨ i = 28 ∨ i = 29 ∨ i = 30 ∨ i = 31 ∨ i = 32 ∨ i = 33 ∨ i = 34 ∨ i = 35 ∨ i = 36 ∨ i = 37 ∨ i = 38 ∨ i = 39 ∨ i = 40 ∨ i = 41 ∨ i = 42 ∨ i = 43 ∨ i = 44 ∨ i = 45 ∨ i = 46 ∨ i = 47 ∨ i = 48 ∨ i = 49 ∨ i = 50 ∨ i = 51 := by omega
  rcases this with rfl | rfl | rfl | rfl | rfl | rfl | rfl | rfl | rfl | rfl | rfl | rfl | rfl | rfl | rfl | rfl | rfl | rfl | rfl | rfl | rfl | rfl | rfl | rfl | rfl | rfl | rfl | rfl | rfl | rfl | rfl | rfl | rfl | rfl | rfl | rfl | rfl | rfl | rfl | rfl | rfl | rfl | rfl | rfl | rfl | rfl | rfl | rfl | rfl | rfl | rfl | rfl <;> rfl
set_option maxRecDepth 100000 in
set_option maxHeartbeats 4000000 in
theorem round_raw (F : RF R Z st T lv w) : Calls Sq.prog 26 #[.pointer (some ⟨Z.sh, 0, none⟩), .int .i64 1, .int .i64 most] w fun e w' => ∃ r c w1 w2, e = .returned (.pointer (some ⟨r, 0, none⟩)) ∧ w.heap.size ≤ r ∧ w2.heap[r]? = some (.cells c 84 (0, 0)) ∧ w1.heap.size ≤ r ∧ RV R Z T lv w.drew c w1 ∧ Keep (fun _ => False) w1 w2 ∧ Keep (fun _ => False) w w2 ∧ w' = w2.setCell ⟨r, 3, none⟩ (.int .i64 most) := by
  suffices ∀ Pp : Ending → World → Prop, Hid (∀ e w', (∃ r c w1 w2, e = .returned (.pointer (some ⟨r, 0, none⟩)) ∧ w.heap.size ≤ r ∧ w2.heap[r]? = some (.cells c 84 (0, 0)) ∧ w1.heap.size ≤ r ∧ RV R Z T lv w.drew c w1 ∧ Keep (fun _ => False) w1 w2 ∧ Keep (fun _ => False) w w2 ∧ w' = w2.setCell ⟨r, 3, none⟩ (.int .i64 most)) → Pp e w') → Calls Sq.prog 26 #[.pointer (some ⟨Z.sh, 0, none⟩), .int .i64 1, .int .i64 most] w Pp from this _ (hide fun _ _ h => h)
  intro Pp HP
  have HF := hide F.drew
  clear F
  go_enter Sq.func26, Sq.ntmps26
  go_wp2_with fail
  refine wp_region_any sq_mixed ?_
  refine wpAny_inv (RJ R Z T lv most w.drew) (chk_ac rops_chk) (chk_g rops_chk) (fun d a w1 i o h _ ho hu ha => round_step HF.out h ho hu ha) (fun d a w1 h hd => ?_) _ _ _ _ (by rw [rops_size]; rfl) (Nat.le_trans (List.countP_le_length) (by rw [List.length_range, rops_size]; exact Nat.le_refl _)) ?_
  · have e7 : RB R Z T lv w.drew (a.tmps.getD 7 undef) w1 := h.c 38 (by decide) (hd 38 (by rw [rops_size]; decide))
    obtain ⟨r, c, wv, e7, hr0, hr1, hr2, hrv, hk⟩ := e7
    have hkp := h.kp
    obtain ⟨tmps, defers⟩ := a
    obtain rfl : defers = [] := h.df
    have e := arr52 tmps h.sz
    have t0 := h.t0
    have t2 := h.t2
    simp only at e7 t0 t2
    rw [e7, t0, t2] at e
    rw [e]
    clear h e7 t0 t2 e hd
    generalize tmps.getD 1 undef = y1
    generalize tmps.getD 3 undef = y3
    generalize tmps.getD 4 undef = y4
    generalize tmps.getD 5 undef = y5
    generalize tmps.getD 6 undef = y6
    generalize tmps.getD 8 undef = y8
    generalize tmps.getD 9 undef = y9
    generalize tmps.getD 10 undef = y10
    generalize tmps.getD 11 undef = y11
    generalize tmps.getD 12 undef = y12
    generalize tmps.getD 13 undef = y13
    generalize tmps.getD 14 undef = y14
    generalize tmps.getD 15 undef = y15
    generalize tmps.getD 16 undef = y16
    generalize tmps.getD 17 undef = y17
    generalize tmps.getD 18 undef = y18
    generalize tmps.getD 19 undef = y19
    generalize tmps.getD 20 undef = y20
    generalize tmps.getD 21 undef = y21
    generalize tmps.getD 22 undef = y22
    generalize tmps.getD 23 undef = y23
    generalize tmps.getD 24 undef = y24
    generalize tmps.getD 25 undef = y25
    generalize tmps.getD 26 undef = y26
    generalize tmps.getD 27 undef = y27
    generalize tmps.getD 28 undef = y28
    generalize tmps.getD 29 undef = y29
    generalize tmps.getD 30 undef = y30
    generalize tmps.getD 31 undef = y31
    generalize tmps.getD 32 undef = y32
    generalize tmps.getD 33 undef = y33
    generalize tmps.getD 34 undef = y34
    generalize tmps.getD 35 undef = y35
    generalize tmps.getD 36 undef = y36
    generalize tmps.getD 37 undef = y37
    generalize tmps.getD 38 undef = y38
    generalize tmps.getD 39 undef = y39
    generalize tmps.getD 40 undef = y40
    generalize tmps.getD 41 undef = y41
    generalize tmps.getD 42 undef = y42
    generalize tmps.getD 43 undef = y43
    generalize tmps.getD 44 undef = y44
    generalize tmps.getD 45 undef = y45
    generalize tmps.getD 46 undef = y46
    generalize tmps.getD 47 undef = y47
    generalize tmps.getD 48 undef = y48
    generalize tmps.getD 49 undef = y49
    generalize tmps.getD 50 undef = y50
    generalize tmps.getD 51 undef = y51
    have c3 : w1.cell? ⟨r, 3, none⟩ = some (.int .i64 0) := by
      obtain ⟨_, _, _, _, _, _, rfl, _⟩ := hrv
      simp [World.cell?, hr1, roundV]
    have z3 : w1.frozen? ⟨r, 3, none⟩ = false := by simp [World.frozen?, hr1]
    have HE := hide (HP.out (.returned (.pointer (some ⟨r, 0, none⟩))) _ ⟨r, c, wv, w1, rfl, hr0, hr1, hr2, hrv, hk, (Keep.refl _ w).drew.trans hkp, rfl⟩)
    clear hr0 hr1 hr2 hrv hk hkp
    go_wp2_with fail
    refine (astore_any ⟨r, 3, none⟩ most _ w1 c3 z3).mono ?_
    rintro e w2 ⟨rfl, rfl⟩
    go_wp2_with fail
    exact HE.out
  · refine ⟨rfl, rfl, rfl, rfl, rfl, Keep.refl _ _, fun i hi hd => ?_, fun i j hi hj _ _ _ hd => ?_⟩
    · exfalso
      rw [Array.getD_eq_getD_getElem?, Array.getElem?_replicate] at hd
      split at hd <;> cases hd
    · exfalso
      rw [Array.getD_eq_getD_getElem?, Array.getElem?_replicate] at hd
      split at hd <;> cases hd
end
end Go.Proofs.Ytdlnlcjmjgbikaa
/- A new round, of a sheet. -/
namespace Go.Proofs.Ytdlnlcjmjgbikaa
open Go Go.Conc Go.RowKit Go.Deep

noncomputable section
variable {R : QR} {Z : QZ} {st most : Int} {w0 w w' : World} {T : QT} {lv : Nat → Value}
/-- What the sheet holds for itself while a round goes. -/
def QZ.priv (Z : QZ) (b : Nat) : Prop := b = Z.sh ∨ b = Z.rb
/-- A round's beginning. -/
def startS (T : QT) (most : Int) : QS := ⟨T.fr, fun _ => false, fun _ => 0, most, T.mem⟩
theorem looks_lt (hs : Sh R Z st w T) {k : Nat} (hk : k < R.n) (h0 : R.op k ≠ 0) : Z.lk k < w.heap.size := World.block_lt_of_cell? w ⟨Z.lk k, 0, none⟩ ((hs.cells k hk).at_ h0 0 (looks_len h0))
theorem round_any (hZ : Z.Ok R) (h : Sh R Z st w T) (h0 : 0 < R.n) (hn : R.n < 65) (most : Int) : Calls Sq.prog 26 #[.pointer (some ⟨Z.sh, 0, none⟩), .int .i64 1, .int .i64 most] w fun e w' => ∃ Y : QY, e = .returned (.pointer (some ⟨Y.r, 0, none⟩)) ∧ Y.Ok R ∧ Rd R Y Z.priv (fun _ => 0) w' (startS T most) ∧ Keep (fun _ => False) w w' ∧ (∀ b, Y.mut b → w.heap.size ≤ b) ∧ Y.cb = Z.cb ∧ Y.cc = Z.cc ∧ Y.lk = Z.lk ∧ Y.lc = Z.lc := by
  obtain ⟨lv, F, hled⟩ := h.rf h0 hn
  refine (round_raw (most := most) F).mono ?_
  rintro e w' ⟨r, c, wv, w2, rfl, hr0, hr1, hr2, ⟨x8, x14, x19, x26, x32, x35, rfl, m8, m14, m19, m26, m32, m35, hnd⟩, k12, kw2, rfl⟩
  obtain ⟨g8, c8, rfl, a8, b8, q8⟩ := m8
  obtain ⟨g14, c14, rfl, a14, b14, q14⟩ := m14
  obtain ⟨g19, c19, rfl, a19, b19, q19⟩ := m19
  obtain ⟨g26, c26, rfl, a26, b26, q26⟩ := m26
  obtain ⟨g32, c32, rfl, a32, b32, q32⟩ := m32
  obtain ⟨g35, c35, rfl, a35, b35, q35⟩ := m35
  simp only [Value.ownBlock, List.nodup_cons, List.mem_cons, List.not_mem_nil, or_false, not_or, List.nodup_nil, and_true, not_false_eq_true, Option.some.injEq] at hnd
  have a8' : w.heap.size ≤ g8 := a8
  have a14' : w.heap.size ≤ g14 := a14
  have a19' : w.heap.size ≤ g19 := a19
  have a26' : w.heap.size ≤ g26 := a26
  have a32' : w.heap.size ≤ g32 := a32
  have a35' : w.heap.size ≤ g35 := a35
  have hrs := (Array.getElem?_eq_some_iff.1 hr1).1
  let Y : QY := { r := r, cb := Z.cb, mb := g8, rb := g14, fb := g19, hb := g26, db := g32, wb := g35, cc := Z.cc, mc := c8, rc := c14, fc := c19, hc := c26, dc := c32, wc := c35, sema := .int .u32 0, lk := Z.lk, lc := Z.lc }
  have hmut : ∀ b, Y.mut b → w.heap.size ≤ b := fun b hb => by
    rcases hb with rfl | rfl | rfl | rfl | rfl | rfl | rfl
    · exact hr0
    · exact a8'
    · exact a14'
    · exact a19'
    · exact a26'
    · exact a32'
    · exact a35'
  have hcb : Z.cb < w.heap.size := World.block_lt_of_cell? w _ (h.cells 0 h0).op
  have hsh : Z.sh < w.heap.size := World.block_lt_of_cell? w _ (h.s.cell (i := 0) (by decide))
  have hrb : Z.rb < w.heap.size := World.block_lt_of_cell? w _ (h.runs.cell h0)
  have kf : Keep (fun _ => False) w (w2.setCell ⟨r, 3, none⟩ (.int .i64 most)) := kw2.setNew ⟨r, 3, none⟩ hr0 _
  have kv : Keep (fun b => b = r) wv (w2.setCell ⟨r, 3, none⟩ (.int .i64 most)) := Keep.set (M := fun b => b = r) (k12.wide fun _ _ => False.elim) ⟨r, 3, none⟩ rfl _
  have tr : ∀ {g n f}, g < wv.heap.size → Mem wv g n f → Mem (w2.setCell ⟨r, 3, none⟩ (.int .i64 most)) g n f := fun hg hm => kv.mem (by omega) hm
  have hlk : ∀ k, k < R.n → R.op k ≠ 0 → Z.lk k < w.heap.size := fun k hk h0 => looks_lt h hk h0
  refine ⟨Y, rfl, ⟨?_, fun hm => by have : w.heap.size ≤ Z.cb := hmut _ hm; omega, fun k hk h0 hm => by have : w.heap.size ≤ Z.lk k := hmut _ hm; have := hlk k hk h0; omega⟩, ?_, kf, hmut, rfl, rfl, rfl, rfl⟩
  · show [r, g8, g14, g19, g26, g32, g35].Nodup
    simp only [List.nodup_cons, List.mem_cons, List.not_mem_nil, or_false, not_or, List.nodup_nil, and_true, not_false_eq_true]
    refine ⟨⟨by omega, by omega, by omega, by omega, by omega, by omega⟩, hnd⟩
  · refine ⟨?_, fun k hk => ?_, fun k hk => ?_, tr b14 q14, tr b19 q19, ?_, fun k hk => ?_, fun k hk hh => ?_, fun i j hi hj hh => ?_, tr b35 q35, fun b hb => ?_⟩
    · have hm : Mem w2 r 10 (Y.rv R.n 0 0) := fun i hi => by
        refine ⟨?_, by simp [World.frozen?, hr1]⟩
        have : i = 0 ∨ i = 1 ∨ i = 2 ∨ i = 3 ∨ i = 4 ∨ i = 5 ∨ i = 6 ∨ i = 7 ∨ i = 8 ∨ i = 9 := by omega
        unfold World.cell?
        rw [hr1]
        rcases this with rfl | rfl | rfl | rfl | rfl | rfl | rfl | rfl | rfl | rfl <;> rfl
      refine (hm.set 3 (.int .i64 most)).congr fun i hi => ?_
      have : i = 0 ∨ i = 1 ∨ i = 2 ∨ i = 3 ∨ i = 4 ∨ i = 5 ∨ i = 6 ∨ i = 7 ∨ i = 8 ∨ i = 9 := by omega
      rcases this with rfl | rfl | rfl | rfl | rfl | rfl | rfl | rfl | rfl | rfl <;> rfl
    · have c := (h.cells k hk).keep (M := fun _ => False) id (fun _ => id) kf
      exact ⟨c.op, c.a, c.b, c.c, c.once, c.looks, c.at_⟩
    · have q := tr b8 q8
      refine ⟨lv k, ?_, ?_⟩
      · show MemAt _ g8 (k * 4) (T.mem k) (lv k)
        have f : ∀ i, i < 4 → (w2.setCell ⟨r, 3, none⟩ (.int .i64 most)).cell? ⟨g8, k * 4 + i, none⟩ = some (memF T lv (k * 4 + i)) ∧ (w2.setCell ⟨r, 3, none⟩ (.int .i64 most)).frozen? ⟨g8, k * 4 + i, none⟩ = false := fun i hi => q (k * 4 + i) (by show k * 4 + i < R.n * 4; omega)
        have f0 := f 0 (by decide)
        have f1 := f 1 (by decide)
        have f2 := f 2 (by decide)
        have f3 := f 3 (by decide)
        unfold memF at f0 f1 f2 f3
        rw [if_pos (by omega), show (k * 4 + 0) / 4 = k by omega] at f0
        rw [if_neg (by omega), if_pos (by omega), show (k * 4 + 1) / 4 = k by omega] at f1
        rw [if_neg (by omega), if_neg (by omega), if_pos (by omega), show (k * 4 + 2) / 4 = k by omega] at f2
        rw [if_neg (by omega), if_neg (by omega), if_neg (by omega), show (k * 4 + 3) / 4 = k by omega] at f3
        exact ⟨f0, f1, f2, f3⟩
      · refine LedIs.keep ((hled k hk).mono fun b hb ho => ?_) kf fun _ => False.elim
        rcases ho with ho | rfl | rfl
        · have := hmut b ho
          omega
        · exact zm_sh Z
        · exact zm_rb Z
    · exact (tr b26 q26).congr fun _ _ => rfl
    · have q := tr b32 q32 k hk
      exact ⟨_, q.1, q.2, fun h => by cases h⟩
    · cases hh
    · cases hh
    · rcases hb with rfl | rfl
      · exact ⟨Nat.lt_of_lt_of_le hsh kf.size, fun hm => by have := hmut _ hm; omega, fun (e : Z.sh = Z.cb) => hZ.cb (e ▸ zm_sh Z), fun k hk h0 (e : Z.sh = Z.lk k) => hZ.lk k hk h0 (e ▸ zm_sh Z)⟩
      · exact ⟨Nat.lt_of_lt_of_le hrb kf.size, fun hm => by have := hmut _ hm; omega, fun (e : Z.rb = Z.cb) => hZ.cb (e ▸ zm_rb Z), fun k hk h0 (e : Z.rb = Z.lk k) => hZ.lk k hk h0 (e ▸ zm_rb Z)⟩
end
end Go.Proofs.Ytdlnlcjmjgbikaa
