/- Package syntax: the kids of a node, a name. -/
import Derived.Test.YtgjbafamiggafaaGreatDoorVd
namespace Go.Proofs.YtgjbafamiggafaaGreatDoor
open Go.RowKit
open M
theorem fld_kids (a b : Int) (c : ByteArray) (a4 : Option Addr) (a5 a6 : Nat) (w : World) : (Instr.field 100 (.agg #[.int .i64 a, .int .i64 b, .string c, .slice a4 a5 a6]) 3).run Tryz.prog w = .ok (.slice a4 a5 a6) w := by kernel_rfl
set_option maxRecDepth 100000 in
set_option maxHeartbeats 2000000 in
theorem wenter_any (D : Nat → Prop) (rb ab : Nat) (p : X.Part) (ps : List X.Part) (i : Nat) (w : World) (h : IsRw w D rb ab (p :: ps) i) (hi : i + X.nln p ≤ 1073741824) (hDl : ∀ q, D q → q < w.heap.size) :
    Calls Tryz.prog 58 #[.pointer (some ⟨rb, 0, none⟩)] w fun e w' => ∃ a4 a5 a6, e = .returned (.agg #[.pointer (some ⟨ab, 0, none⟩), .slice a4 a5 a6]) ∧ Hid (NdS w' D (.slice a4 a5 a6) (X.kids p) ∧ IsRw w' D rb ab ps (i + X.nln p) ∧ Kq D rb ab w w') := by
  obtain ⟨hr, ha⟩ := h.lt
  have hsep := h.sep
  have kA : Below w.heap.size w (w.alloc (.cells #[.pointer none, .slice none 0 0] 103)) := (Below.refl _ w).alloc (Nat.le_refl _) _
  have HZ : Hid ((w.alloc (.cells #[.pointer none, .slice none 0 0] 103)).heap[w.heap.size]? = some (.cells #[.pointer none, .slice none 0 0] 103 (0, 0))) := heap_alloc_new w _
  have hR1 := h.below kA
  have HR1 := hide hR1
  obtain ⟨v, hb, -⟩ := hR1.blk
  have c0 := cell_of_row _ _ 0 _ _ _ hb
  have HKA := hide kA
  have hsz : (w.alloc (.cells #[.pointer none, .slice none 0 0] 103)).heap.size = w.heap.size + 1 := by simp
  clear h kA hR1 hb
  go_enter Tryz.func58, Tryz.ntmps58
  go_wp2_with fail
  generalize w.alloc (.cells #[.pointer none, .slice none 0 0] 103) = W1 at *
  have c0' : W1.cell? ⟨rb, 0, none⟩ = some (.pointer (some ⟨ab, 0, none⟩)) := c0
  have z0 : W1.cell? ⟨w.heap.size, 0, none⟩ = some (.pointer none) := cell_of_row _ _ 0 _ _ _ HZ.out
  have z1 : W1.cell? ⟨w.heap.size, 1, none⟩ = some (.slice none 0 0) := cell_of_row _ _ 1 _ _ _ HZ.out
  clear c0
  have HL : Hid (∀ W, Below W1.heap.size W1 W → Calls Tryz.prog 57 #[.pointer (some ⟨rb, 0, none⟩)] W fun e w' => ∃ a4 a5 a6, e = .returned (.agg #[.int .i64 (X.nk p), .int .i64 (X.ntk p), .string (ba (X.ntx p)), .slice a4 a5 a6]) ∧ Hid (NdS w' D (.slice a4 a5 a6) (X.kids p) ∧ IsRw w' D rb ab ps (i + X.nln p) ∧ Kq D rb ab W w')) := fun W hW => wleave_any D rb ab p ps i W ((HR1.out).below hW) hi (fun q hq => by have := hDl q hq; have := hW.size; omega)
  have HF : Hid (∀ w2 a4 a5 a6, NdS w2 D (.slice a4 a5 a6) (X.kids p) ∧ IsRw w2 D rb ab ps (i + X.nln p) ∧ Kq D rb ab W1.drew w2 → w2.cell? ⟨rb, 0, none⟩ = some (.pointer (some ⟨ab, 0, none⟩)) ∧ w2.heap[w.heap.size]? = some (.cells #[.pointer none, .slice none 0 0] 103 (0, 0)) ∧ Kq D rb ab w w2) := fun w2 a4 a5 a6 hx => by
    obtain ⟨v, e, -⟩ := hx.2.1.blk
    have hk1 : Kq D rb ab W1 w2 := (Kq.ofBelow ((Below.refl _ W1).drew) (by omega)).trans hx.2.2
    exact ⟨cell_of_row _ _ 0 _ _ _ e, hk1.new hr ha HZ.out (by decide), (Kq.ofBelow HKA.out ha).trans hk1⟩
  have hnr : ¬ rb = w.heap.size := by omega
  have hfl := fld_kids
  go_region_held3 (fun w' => w'.cell? ⟨rb, 0, none⟩ = some (.pointer (some ⟨ab, 0, none⟩)))
    (first | (with_reducible exact c0') | (with_reducible exact KK) | (with_reducible exact KK2) | go_keep)
    ((go_at_call 57; refine ((HL.out) _ ?_).mono ?_; exact (Below.refl _ W1).drew; rintro e w2 ⟨a4, a5, a6, rfl, H2⟩; obtain ⟨KK, hz2, hkp2⟩ := (HF.out) w2 a4 a5 a6 H2.out; have y0 : w2.cell? ⟨w.heap.size, 0, none⟩ = some (.pointer none) := cell_of_row _ _ 0 _ _ _ hz2; have y1 : w2.cell? ⟨w.heap.size, 1, none⟩ = some (.slice none 0 0) := cell_of_row _ _ 1 _ _ _ hz2; have q0 : w2.frozen? ⟨w.heap.size, 0, none⟩ = false := (by simp [World.frozen?, hz2]); have q1 : w2.frozen? ⟨w.heap.size, 1, none⟩ = false := (by simp [World.frozen?, hz2]); have HZ2 := hide hz2; have HK2 := hide hkp2; have KK2 : ∀ x y, ((w2.setCell ⟨w.heap.size, 0, none⟩ x).setCell ⟨w.heap.size, 1, none⟩ y).cell? ⟨rb, 0, none⟩ = some (.pointer (some ⟨ab, 0, none⟩)) := fun x y => (by rw [World.cell?_setCell_other _ _ _ _ (by simp), World.cell?_setCell_other _ _ _ _ (by simp)]; exact KK)))
  clear y0 y1 q0 q1 KK KK2 z0 z1 c0'
  go_wp2_with fail
  refine bodyPost_ret (res_row rfl _ _ (b := w.heap.size) rfl (set2_own HZ2.out)) rfl ⟨a4, a5, a6, rfl, ?_⟩
  obtain ⟨x1, x2, x3⟩ := H2.out
  have hk4 : Kp (fun q => q = w.heap.size) w2 ((w2.setCell ⟨w.heap.size, 0, none⟩ (.pointer (some ⟨ab, 0, none⟩))).setCell ⟨w.heap.size, 1, none⟩ (.slice a4 a5 a6)) := On.set (On.set (Kp.refl _ w2) 0 _) 1 _
  have hD' : ∀ q, D q → ¬ q = w.heap.size := fun q hq e => by have := hDl q hq; omega
  exact ⟨x1.keep hk4 hD', x2.on hk4 HZ2.out (by decide) (by omega) (by omega) (fun hd => hD' _ hd rfl), Kq.set2 HK2.out ha (Nat.le_refl _) _ _⟩
set_option maxRecDepth 100000 in
set_option maxHeartbeats 2000000 in
theorem wname_any (D : Nat → Prop) (rb ab : Nat) (n : List X.Part) (nm : X.Nm) (ps : List X.Part) (i : Nat) (w : World) (h : IsRw w D rb ab (n ++ ps) i) (hn : X.Nmp n i nm) (hi : i + X.pz (n ++ ps) ≤ 1073741824) (hpl : (n ++ ps).length ≤ 1073741824) (hDl : ∀ q, D q → q < w.heap.size) :
    Calls Tryz.prog 61 #[.pointer (some ⟨rb, 0, none⟩)] w fun e w' => e = .returned (.agg #[.string (ba nm.1), .int .i64 nm.2]) ∧ Hid (IsRw w' D rb ab ps (i + X.pz n) ∧ Kq D rb ab w w') := by
  obtain ⟨hr, ha⟩ := h.lt
  have key : ∃ qs p, X.Tk0 n qs p ∧ ((X.nk p = 0 ∧ nm.1 = X.ntx p ∧ nm.2 = i + X.pz qs) ∨ (X.nk p = 1 ∧ nm = ([], 0))) := by
    cases hn with
    | name _ x qs _ h => exact ⟨qs, _, h.tk0, .inl ⟨rfl, rfl, rfl⟩⟩
    | miss _ => exact ⟨[], .miss X.sName, ⟨rfl, fun q hq => (by cases hq), rfl, rfl⟩, .inr ⟨rfl, rfl⟩⟩
  obtain ⟨qs, p, ht, hcs⟩ := key
  have kA : Below w.heap.size w (w.alloc (.cells #[.string ⟨#[]⟩, .int .i64 0] 136)) := (Below.refl _ w).alloc (Nat.le_refl _) _
  have HZ : Hid ((w.alloc (.cells #[.string ⟨#[]⟩, .int .i64 0] 136)).heap[w.heap.size]? = some (.cells #[.string ⟨#[]⟩, .int .i64 0] 136 (0, 0))) := heap_alloc_new w _
  have HM := hide (wmore_any D rb ab (n ++ ps) i _ (h.below kA) hi hpl (fun q hq => Nat.lt_of_lt_of_le (hDl q hq) kA.size))
  have hd := ht.drop ps
  rw [hd.1, hd.2] at HM
  have HKA := hide kA
  have hpz : X.pz n = X.pz qs + X.pz [p] := by rw [ht.eq, X.pz_app]
  have hln := ht.ln
  rw [X.pz_app] at hi
  clear h kA hd hn
  go_enter Tryz.func61, Tryz.ntmps61
  go_wp2_with fail
  refine (HM.out).mono ?_
  rintro e w2 ⟨rfl, H2⟩
  have HDl2 : ∀ q, D q → q < w2.heap.size := fun q hq => Nat.lt_of_lt_of_le (hDl q hq) (Nat.le_trans (HKA.out).size (H2.out).2.size)
  have HZ2 : Hid (w2.heap[w.heap.size]? = _) := (H2.out).2.new hr ha HZ.out (by decide)
  have HK2 : Hid (Kq D rb ab w w2) := (Kq.ofBelow HKA.out ha).trans (H2.out).2
  obtain ⟨v, hb, -⟩ := (H2.out).1.blk
  have c0 := cell_of_row _ _ 0 _ _ _ hb
  obtain ⟨bv2, bl2, en2, gp2, hps2, -⟩ := (H2.out).1.psd.ex
  have d0 := cell_of_row _ _ 0 _ _ _ hps2
  have HL := hide (wleave_any D rb ab p ps (i + X.pz qs) w2 (H2.out).1 (by omega) HDl2)
  have hw2 : w.heap.size + 1 ≤ w2.heap.size := by have := (H2.out).2.size; simp at this; omega
  clear HM HKA H2 HZ hb hps2
  go_wp2_with fail
  refine (HL.out).mono ?_
  rintro e w3 ⟨a4, a5, a6, rfl, H3⟩
  have hZ3 := (H3.out).2.2.new hr ha HZ2.out (by decide)
  have HZ3 := hide hZ3
  have HK3 : Hid (Kq D rb ab w w3) := (HK2.out).trans (H3.out).2.2
  have HR3 := hide (H3.out).2.1
  have hw3 : w.heap.size + 1 ≤ w3.heap.size := by have := (H3.out).2.2.size; omega
  have e0 : w3.cell? ⟨w.heap.size, 0, none⟩ = some (.string ⟨#[]⟩) := cell_of_row w3 _ 0 _ _ _ hZ3
  have e1 : w3.cell? ⟨w.heap.size, 1, none⟩ = some (.int .i64 0) := cell_of_row w3 _ 1 _ _ _ hZ3
  have q0 : w3.frozen? ⟨w.heap.size, 0, none⟩ = false := by simp [World.frozen?, hZ3]
  have q1 : w3.frozen? ⟨w.heap.size, 1, none⟩ = false := by simp [World.frozen?, hZ3]
  have e0' : ∀ o, (w3.alloc o).cell? ⟨w.heap.size, 0, none⟩ = some (.string ⟨#[]⟩) := fun o => Lib.cell?_alloc_some _ e0
  have e1' : ∀ o, (w3.alloc o).cell? ⟨w.heap.size, 1, none⟩ = some (.int .i64 0) := fun o => Lib.cell?_alloc_some _ e1
  have q0' : ∀ o, (w3.alloc o).frozen? ⟨w.heap.size, 0, none⟩ = false := fun o => (World.frozen?_alloc_old _ _ ⟨w.heap.size, 0, none⟩ (by simp; omega)).trans q0
  have q1' : ∀ o, (w3.alloc o).frozen? ⟨w.heap.size, 1, none⟩ = false := fun o => (World.frozen?_alloc_old _ _ ⟨w.heap.size, 1, none⟩ (by simp; omega)).trans q1
  clear HL HK2 HZ2 H3 hZ3 c0 d0 e0 e1 q0 q1
  have HFin : Hid (∀ (o : Obj) (x y : Value), IsRw (((w3.alloc o).setCell ⟨w.heap.size, 0, none⟩ x).setCell ⟨w.heap.size, 1, none⟩ y) D rb ab ps (i + X.pz n) ∧ Kq D rb ab w (((w3.alloc o).setCell ⟨w.heap.size, 0, none⟩ x).setCell ⟨w.heap.size, 1, none⟩ y) ∧ (((w3.alloc o).setCell ⟨w.heap.size, 0, none⟩ x).setCell ⟨w.heap.size, 1, none⟩ y).heap[w.heap.size]? = some (.cells #[x, y] 136 (0, 0))) := fun o x y => by
    have kB : Below w3.heap.size w3 (w3.alloc o) := (Below.refl _ w3).alloc (Nat.le_refl _) _
    have hk4 : Kp (fun q => q = w.heap.size) (w3.alloc o) (((w3.alloc o).setCell ⟨w.heap.size, 0, none⟩ x).setCell ⟨w.heap.size, 1, none⟩ y) := On.set (On.set (Kp.refl _ _) 0 _) 1 _
    have hR := ((HR3.out).below kB).on hk4 ((heap_alloc_old w3 o (by omega)).trans HZ3.out) (by decide) (by omega) (by omega) (fun hd => by have := hDl _ hd; omega)
    rw [hln] at hR
    refine ⟨by rw [hpz, ← Nat.add_assoc]; exact hR, Kq.set2 ((HK3.out).more kB ha) ha (Nat.le_refl _) _ _, set2_own ((heap_alloc_old w3 o (by omega)).trans HZ3.out)⟩
  rcases hcs with ⟨h0, h1, h2⟩ | ⟨h0, h1⟩
  · have iz : ((X.nk p : Int) == 0) = true := by rw [h0]; rfl
    have H1 := hide h1
    have H2 := hide h2
    clear h1 h2
    rw [h0]
    go_wp2_with fail
    obtain ⟨z1, z2, z3⟩ := (HFin.out) (.cells #[.int .i64 0, .int .i64 (X.ntk p), .string (ba (X.ntx p)), .slice a4 a5 a6] 100) (.string (ba (X.ntx p))) (.int .i64 ((i : Int) + (X.pz qs : Int)))
    refine bodyPost_ret (res_name rfl _ _ (b := w.heap.size) rfl z3) rfl ⟨by rw [H1.out, H2.out, Int.natCast_add], z1, z2⟩
  · have iz : ((X.nk p : Int) == 0) = false := by rw [h0]; rfl
    have H1 := hide h1
    clear h1
    rw [h0]
    go_wp2_with fail
    obtain ⟨z1, z2, z3⟩ := (HFin.out) (.cells #[.int .i64 1, .int .i64 (X.ntk p), .string (ba (X.ntx p)), .slice a4 a5 a6] 100) (.string ⟨#[]⟩) (.int .i64 0)
    refine bodyPost_ret (res_name rfl _ _ (b := w.heap.size) rfl z3) rfl ⟨by rw [H1.out]; rfl, z1, z2⟩
end Go.Proofs.YtgjbafamiggafaaGreatDoor
/- Package syntax: a word, if it is there; the names of an NParams. -/
namespace Go.Proofs.YtgjbafamiggafaaGreatDoor
open Go.RowKit
open M
theorem ba_list (z : List UInt8) : (ba z).toList = z := by rw [ByteArray.toList_eq]; exact bs_ba z
theorem ba_ne {x y : List UInt8} (h : x ≠ y) : ((ba x).toList != (ba y).toList) = true ∧ ((ba x).toList == (ba y).toList) = false ∧ ¬ (ba x).toList = (ba y).toList ∧ ¬ ba x = ba y := by
  rw [ba_list, ba_list]
  exact ⟨by simpa using h, by simpa using h, h, fun e => h (by rw [← ba_list x, ← ba_list y, e])⟩
set_option maxRecDepth 100000 in
set_option maxHeartbeats 2000000 in
theorem whas_any (D : Nat → Prop) (rb ab : Nat) (t qs : List X.Part) (p : X.Part) (ps : List X.Part) (i : Nat) (x : List UInt8) (w : World) (h : IsRw w D rb ab (t ++ ps) i) (ht : X.Tk0 t qs p) (hp : (∃ k, p = .leaf k x) ∨ (∃ k y, p = .leaf k y ∧ y ≠ x) ∨ X.nk p ≠ 0) (hi : i + X.pz (t ++ ps) ≤ 1073741824) (hpl : (t ++ ps).length ≤ 1073741824) (hDl : ∀ q, D q → q < w.heap.size) :
    Calls Tryz.prog 59 #[.pointer (some ⟨rb, 0, none⟩), .string (ba x)] w fun e w' => ((∃ k, p = .leaf k x) → e = .returned (.bool true) ∧ Hid (IsRw w' D rb ab ps (i + X.pz t) ∧ Kq D rb ab w w')) ∧ (¬ (∃ k, p = .leaf k x) → e = .returned (.bool false) ∧ Hid (IsRw w' D rb ab (p :: ps) (i + X.pz qs) ∧ Kq D rb ab w w')) := by
  have HM := hide (wmore_any D rb ab (t ++ ps) i w h hi hpl hDl)
  have hd := ht.drop ps
  rw [hd.1, hd.2] at HM
  have hpz : X.pz t = X.pz qs + X.pz [p] := by rw [ht.eq, X.pz_app]
  have hln := ht.ln
  rw [X.pz_app] at hi
  clear h hd
  go_enter Tryz.func59, Tryz.ntmps59
  go_wp2_with fail
  refine (HM.out).mono ?_
  rintro e w2 ⟨rfl, H2⟩
  have hdt : decide (p :: ps ≠ []) = true := by simp
  rw [hdt]
  have HDl2 : ∀ q, D q → q < w2.heap.size := fun q hq => Nat.lt_of_lt_of_le (hDl q hq) (H2.out).2.size
  obtain ⟨v, hb, hn⟩ := (H2.out).1.blk
  have c1 := cell_of_row _ _ 1 _ _ _ hb
  obtain ⟨g, o, cap, kv, rfl, hD, y0, y1, y2, y3, hkk, -, hc1, hc2, -, -⟩ := hn.head
  have hi1 : (0 : Int) < ((ps.length + 1 : Nat) : Int) := by omega
  have hi2 : 0 < ps.length + 1 := by omega
  have HL := hide (wleave_any D rb ab p ps (i + X.pz qs) w2 (H2.out).1 (by omega) HDl2)
  have HR2 := hide (H2.out)
  clear HM H2 hb hn hkk hdt y1 y3
  rcases hp with ⟨k, rfl⟩ | ⟨k, y, rfl, hne⟩ | hne
  · have iz : ((X.nk (.leaf k x) : Int) != 0) = false := rfl
    have y0' : w2.cell? ⟨g, o, none⟩ = some (.int .i64 0) := y0
    have y2' : w2.cell? ⟨g, o + 2, none⟩ = some (.string (ba x)) := y2
    have i3 : ((ba x).toList != (ba x).toList) = false := by simp
    clear y0 y2
    go_wp2_with fail
    refine (HL.out).mono ?_
    rintro e w3 ⟨a4, a5, a6, rfl, H3⟩
    have HR3 : Hid (IsRw w3 D rb ab ps (i + X.pz t) ∧ Kq D rb ab w w3) := by
      obtain ⟨-, z2, z3⟩ := H3.out
      rw [hln] at z2
      rw [hpz, ← Nat.add_assoc]
      exact ⟨z2, (HR2.out).2.trans z3⟩
    clear H3 HL y0' y2' c1
    go_wp2_with fail
    go_ret
    exact ⟨fun _ => ⟨rfl, HR3⟩, fun e => absurd ⟨k, rfl⟩ e⟩
  · have y0' : w2.cell? ⟨g, o, none⟩ = some (.int .i64 0) := y0
    have y2' : w2.cell? ⟨g, o + 2, none⟩ = some (.string (ba y)) := y2
    obtain ⟨i3, i4, i5, i6⟩ := ba_ne hne
    clear y0 y2
    go_wp2_with fail
    go_ret
    exact ⟨fun ⟨k', e⟩ => by cases e; exact absurd rfl hne, fun _ => ⟨rfl, HR2.out⟩⟩
  · have iz : ((X.nk p : Int) != 0) = true := by simp; omega
    go_wp2_with fail
    go_ret
    exact ⟨fun ⟨k', e⟩ => by subst e; exact absurd rfl hne, fun _ => ⟨rfl, HR2.out⟩⟩
end Go.Proofs.YtgjbafamiggafaaGreatDoor
/- Package syntax: the names of an NParams. -/
namespace Go.Proofs.YtgjbafamiggafaaGreatDoor
open Go.RowKit
open M
/-- Is a part a name, or does it stand where one should? -/
def X.nmq : X.Part → Bool
  | .leaf k _ => k == 3
  | .miss m => m == X.sName
  | .br _ _ => false
set_option maxRecDepth 100000 in
set_option maxHeartbeats 1000000 in
theorem syName_any (p : X.Part) (a4 : Option Addr) (a5 a6 : Nat) (w : World) :
    Calls Tryz.prog 89 #[.agg #[.int .i64 (X.nk p), .int .i64 (X.ntk p), .string (ba (X.ntx p)), .slice a4 a5 a6]] w fun e w' => e = .returned (.bool (X.nmq p)) ∧ Below w.heap.size w w' := by
  have HKA : ∀ a b c, Hid (Below w.heap.size w (w.alloc (.cells #[.int .i64 a, .int .i64 b, .string c, .slice a4 a5 a6] 100))) := fun a b c => (Below.refl _ w).alloc (Nat.le_refl _) _
  have HKA' := hide HKA
  clear HKA
  cases p with
  | leaf k x =>
    by_cases h3 : k = 3
    · subst h3
      show Calls Tryz.prog 89 #[.agg #[.int .i64 0, .int .i64 3, .string (ba x), .slice a4 a5 a6]] w fun e w' => e = .returned (.bool true) ∧ Below w.heap.size w w'
      go_enter Tryz.func89, Tryz.ntmps89
      go_wp2_with fail
      go_ret
      exact ⟨rfl, ((HKA'.out) _ _ _).out⟩
    · have j3 : ((k : Int) == 3) = false := by simp; omega
      have k3 : X.nmq (.leaf k x) = false := by show (k == 3) = false; simp; omega
      rw [k3]
      show Calls Tryz.prog 89 #[.agg #[.int .i64 0, .int .i64 k, .string (ba x), .slice a4 a5 a6]] w fun e w' => e = .returned (.bool false) ∧ Below w.heap.size w w'
      go_enter Tryz.func89, Tryz.ntmps89
      go_wp2_with fail
      go_ret
      exact ⟨rfl, ((HKA'.out) _ _ _).out⟩
  | miss m =>
    by_cases hm : m = X.sName
    · subst hm
      show Calls Tryz.prog 89 #[.agg #[.int .i64 1, .int .i64 0, .string (ba X.sName), .slice a4 a5 a6]] w fun e w' => e = .returned (.bool true) ∧ Below w.heap.size w w'
      have e1 : ((ba X.sName).toList == [110, 97, 109, 101]) = true := by rw [ba_list]; rfl
      go_enter Tryz.func89, Tryz.ntmps89
      go_wp2_with fail
      go_ret
      exact ⟨rfl, ((HKA'.out) _ _ _).out⟩
    · obtain ⟨i3, i4, i5, i6⟩ := ba_ne hm
      have k3 : X.nmq (.miss m) = false := by show (m == X.sName) = false; simpa using hm
      have i4' : ((ba m).toList == [110, 97, 109, 101]) = false := by rw [ba_list]; exact k3
      rw [k3]
      show Calls Tryz.prog 89 #[.agg #[.int .i64 1, .int .i64 0, .string (ba m), .slice a4 a5 a6]] w fun e w' => e = .returned (.bool false) ∧ Below w.heap.size w w'
      go_enter Tryz.func89, Tryz.ntmps89
      go_wp2_with fail
      go_ret
      exact ⟨rfl, ((HKA'.out) _ _ _).out⟩
  | br k ps =>
    by_cases h0 : k = 0
    · subst h0
      show Calls Tryz.prog 89 #[.agg #[.int .i64 0, .int .i64 0, .string (ba []), .slice a4 a5 a6]] w fun e w' => e = .returned (.bool false) ∧ Below w.heap.size w w'
      go_enter Tryz.func89, Tryz.ntmps89
      go_wp2_with fail
      go_ret
      exact ⟨rfl, ((HKA'.out) _ _ _).out⟩
    · by_cases h1 : k = 1
      · subst h1
        have e1 : ((ba []).toList == [110, 97, 109, 101]) = false := by rw [ba_list]; rfl
        show Calls Tryz.prog 89 #[.agg #[.int .i64 1, .int .i64 0, .string (ba []), .slice a4 a5 a6]] w fun e w' => e = .returned (.bool false) ∧ Below w.heap.size w w'
        go_enter Tryz.func89, Tryz.ntmps89
        go_wp2_with fail
        go_ret
        exact ⟨rfl, ((HKA'.out) _ _ _).out⟩
      · have j0 : ((k : Int) == 0) = false := by simp; omega
        have j1 : ((k : Int) == 1) = false := by simp; omega
        show Calls Tryz.prog 89 #[.agg #[.int .i64 k, .int .i64 0, .string (ba []), .slice a4 a5 a6]] w fun e w' => e = .returned (.bool false) ∧ Below w.heap.size w w'
        go_enter Tryz.func89, Tryz.ntmps89
        go_wp2_with fail
        go_ret
        exact ⟨rfl, ((HKA'.out) _ _ _).out⟩
/-- Names in a row. -/
def nmv (ns : List X.Nm) : List Value := ns.flatMap fun n => [.string (ba n.1), .int .i64 n.2]
theorem nmv_snoc (ns : List X.Nm) (n : X.Nm) : nmv (ns ++ [n]) = nmv ns ++ [.string (ba n.1), .int .i64 n.2] := by unfold nmv; rw [List.flatMap_append]; rfl
theorem nmv_get : ∀ {ns : List X.Nm} {j : Nat} {n : X.Nm}, ns[j]? = some n → (nmv ns)[j * 2]? = some (.string (ba n.1)) ∧ (nmv ns)[j * 2 + 1]? = some (.int .i64 n.2)
  | [], j, n, h => by simp at h
  | a :: ns, 0, n, h => by cases h; exact ⟨rfl, rfl⟩
  | a :: ns, j + 1, n, h => by
    have := nmv_get (ns := ns) (j := j) (n := n) (by simpa using h)
    have e : nmv (a :: ns) = [.string (ba a.1), .int .i64 a.2] ++ nmv ns := rfl
    rw [e, show (j + 1) * 2 = j * 2 + 2 by omega, show j * 2 + 2 + 1 = j * 2 + 1 + 2 by omega]
    exact this
/-- An NParams in memory, in blocks from lo up to hi. -/
structure IsPar (w : World) (lo hi pb : Nat) (ns : List X.Nm) : Prop where
  bd : lo ≤ pb ∧ pb < hi
  ex : ∃ ao cap, w.heap[pb]? = some (.cells #[.slice ao ns.length cap] 186 (0, 0)) ∧ ns.length ≤ cap ∧ cap ≤ maxLen ∧ ∀ (j : Nat) (n : X.Nm), ns[j]? = some n → ∃ g, ao = some ⟨g, 0, none⟩ ∧ lo ≤ g ∧ g < hi ∧ w.cell? ⟨g, j * 2, none⟩ = some (.string (ba n.1)) ∧ w.cell? ⟨g, j * 2 + 1, none⟩ = some (.int .i64 n.2) ∧ ∃ c f, w.heap[g]? = some (.cells c 136 f)
theorem IsPar.keepi {S : Nat → Prop} {w w' : World} (hk : Kp S w w') {lo hi pb : Nat} {ns : List X.Nm} (h : IsPar w lo hi pb ns) (hS : ∀ i, lo ≤ i → i < hi → S i → ∃ c f, w.heap[i]? = some (.cells c 3 f)) : IsPar w' lo hi pb ns := by
  obtain ⟨ao, cap, h1, h2, h3, h4⟩ := h.ex
  refine ⟨h.bd, ao, cap, hk.heap h1 (fun e => not_int h1 (by decide) (hS _ h.bd.1 h.bd.2 e)), h2, h3, fun j n hj => ?_⟩
  obtain ⟨g, e1, e2, e3, e4, e5, c, f, e6⟩ := h4 j n hj
  have hg : ¬ S g := fun e => not_int e6 (by decide) (hS g e2 e3 e)
  exact ⟨g, e1, e2, e3, hk.cellv e4 hg, hk.cellv e5 hg, c, f, hk.heap e6 hg⟩
theorem IsPar.keep {S : Nat → Prop} {w w' : World} (hk : Kp S w w') {lo hi pb : Nat} {ns : List X.Nm} (h : IsPar w lo hi pb ns) (hS : ∀ i, lo ≤ i → i < hi → ¬ S i) : IsPar w' lo hi pb ns := h.keepi hk (fun i h1 h2 e => absurd e (hS i h1 h2))
theorem IsPar.keepq {D : Nat → Prop} {rb ab : Nat} {w w' : World} (hk : Kq D rb ab w w') {lo hi pb : Nat} {ns : List X.Nm} (h : IsPar w lo hi pb ns) (h1 : rb < lo) (h2 : ab < lo) : IsPar w' lo hi pb ns := h.keepi hk.kp (fun _ hi _ e => e.int h1 h2 hi)
theorem isPar_of {w : World} {lo pb : Nat} {rv : Value} {ns : List X.Nm} (hb : w.heap[pb]? = some (.cells #[rv] 186 (0, 0))) (ho : w.ownsRow lo 136 2 rv ns.length (nmv ns)) (hlo : lo ≤ pb) : IsPar w lo w.heap.size pb ns := by
  have hg := owns_ge ho
  have hc := fun g hg => ho.cells (g := g) hg
  rcases ho.2 with ⟨rfl, h0⟩ | ⟨g, cap, cur, rfl, -, -, hn, hm, -, -⟩
  · have hns : ns = [] := List.length_eq_zero_iff.1 h0
    subst hns
    exact ⟨⟨hlo, heap_lt hb⟩, none, 0, hb, Nat.le_refl _, by unfold maxLen; omega, fun j n hj => by simp at hj⟩
  · refine ⟨⟨hlo, heap_lt hb⟩, _, cap, hb, hn, hm, fun j n hj => ⟨g, rfl, (hg g rfl).1, (hg g rfl).2, ?_, ?_, (owns_typed ho rfl).2⟩⟩
    · have := hc g rfl _ _ (nmv_get hj).1
      rwa [Addr.add_lit, Nat.zero_add] at this
    · have := hc g rfl _ _ (nmv_get hj).2
      rwa [Addr.add_lit, Nat.zero_add] at this
theorem nms_quiet {l : List X.Part} {k : Nat} {ns : List X.Nm} (h : X.Nms l k ns) : X.Nms (l.dropWhile X.lq) (k + X.pz (l.takeWhile X.lq)) ns := by
  induction h with
  | nil i => exact .nil _
  | name x ps i ns h ih =>
    rw [List.dropWhile_cons_of_neg (by simp [X.lq]), List.takeWhile_cons_of_neg (by simp [X.lq])]
    exact .name x ps i ns h
  | leaf k x ps i ns hk h ih =>
    cases hq : X.lq (.leaf k x) with
    | true =>
      rw [List.dropWhile_cons_of_pos hq, List.takeWhile_cons_of_pos hq, X.pz_cons, X.pz_leaf, ← Nat.add_assoc]
      exact ih
    | false =>
      rw [List.dropWhile_cons_of_neg (by rw [hq]; simp), List.takeWhile_cons_of_neg (by rw [hq]; simp)]
      exact .leaf k x ps i ns hk h
  | lack ps i ns h ih =>
    rw [List.dropWhile_cons_of_neg (by simp [X.lq]), List.takeWhile_cons_of_neg (by simp [X.lq])]
    exact .lack ps i ns h
  | miss m ps i ns hm h ih =>
    rw [List.dropWhile_cons_of_neg (by simp [X.lq]), List.takeWhile_cons_of_neg (by simp [X.lq])]
    exact .miss m ps i ns hm h
/-- The first one of the parts of an NParams. -/
theorem nms_head {p : X.Part} {l : List X.Part} {k : Nat} {ns : List X.Nm} (h : X.Nms (p :: l) k ns) (hq : X.lq p = false) : (X.nmq p = true ∧ ∃ nm ns', ns = nm :: ns' ∧ X.Nmp [p] k nm ∧ X.Nms l (k + X.pz [p]) ns') ∨ (X.nmq p = false ∧ X.nln p = X.pz [p] ∧ X.Nms l (k + X.pz [p]) ns) := by
  cases h with
  | name x _ _ ns h =>
    refine .inl ⟨rfl, _, ns, rfl, ?_, by rw [X.pz_leaf]; exact h⟩
    have := X.Nmp.name [.leaf 3 x] x [] k ⟨rfl, fun q hq => (by cases hq), by omega⟩
    rw [X.pz_nil] at this
    exact this
  | leaf k2 x _ _ _ hk h => exact .inr ⟨by show (k2 == 3) = false; simpa using hk, (X.pz_leaf k2 x).symm, by rw [X.pz_leaf]; exact h⟩
  | lack _ _ ns h => exact .inl ⟨rfl, _, ns, rfl, .miss k, h⟩
  | miss m _ _ _ hm h => exact .inr ⟨by show (m == X.sName) = false; simpa using hm, rfl, h⟩
/-- Where the reading of an NParams stands. -/
structure InPr (w : World) (D : Nat → Prop) (rb ab pb : Nat) (ps : List X.Part) (ns : List X.Nm) (tot : Nat) (kb : Nat) (l : List X.Part) (k : Nat) (acc : List X.Nm) (rv : Value) (wr : World) : Prop where
  rw : IsRw wr D kb ab l k
  nms : ∃ ns', X.Nms l k ns' ∧ ns = acc ++ ns'
  out : ∃ v, wr.heap[rb]? = some (.cells #[.pointer (some ⟨ab, 0, none⟩), v] 103 (0, 0)) ∧ NdS wr D v ps
  par : wr.heap[pb]? = some (.cells #[rv] 186 (0, 0))
  own : wr.ownsRow w.heap.size 136 2 rv acc.length (nmv acc)
  new : w.heap.size ≤ kb ∧ w.heap.size ≤ pb ∧ kb ≠ pb ∧ (∀ g, rv.ownBlock = some g → g ≠ kb ∧ g ≠ pb)
  kp : Kq D rb ab w wr
  pos : k + X.pz l = tot
theorem InPr.step {w : World} {D : Nat → Prop} {rb ab pb : Nat} {ps : List X.Part} {ns : List X.Nm} {tot kb : Nat} {l : List X.Part} {k : Nat} {acc : List X.Nm} {rv : Value} {wr : World} (h : InPr w D rb ab pb ps ns tot kb l k acc rv wr) {w2 : World} {l2 : List X.Part} {k2 : Nat} (hr : rb < w.heap.size) (ha : ab < w.heap.size) (hne : rb ≠ ab) (hk : Kq D kb ab wr w2) (hw : IsRw w2 D kb ab l2 k2) (hn : ∃ ns', X.Nms l2 k2 ns' ∧ ns = acc ++ ns') (hp : k2 + X.pz l2 = tot) : InPr w D rb ab pb ps ns tot kb l2 k2 acc rv w2 := by
  obtain ⟨v, e, hv⟩ := h.out
  obtain ⟨n1, n2, n3, n4⟩ := h.new
  refine ⟨hw, hn, ⟨v, hk.heap e (by decide) (by omega) hne, hk.nds hv hw.sep.2.1 hw.sep.2.2⟩, hk.heap h.par (by decide) (by omega) (by omega), hk.owns h.own (by decide) (fun g hg => ⟨(n4 g hg).1, ?_⟩), h.new, h.kp.inner hk n1, hp⟩
  have := (owns_ge h.own g hg).1
  omega
/-- The row is copied into another variable. -/
theorem InPr.copy {w : World} {D : Nat → Prop} {rb ab pb : Nat} {ps : List X.Part} {ns : List X.Nm} {tot kb : Nat} {l : List X.Part} {k : Nat} {acc : List X.Nm} {rv : Value} {wr : World} (h : InPr w D rb ab pb ps ns tot kb l k acc rv wr) (hDlt : ∀ {q}, D q → q < w.heap.size) (ha : ab < w.heap.size) {v : Value} (hb : wr.heap[kb]? = some (.cells #[.pointer (some ⟨ab, 0, none⟩), v] 103 (0, 0))) : InPr w D rb ab pb ps ns tot wr.heap.size l k acc rv (wr.alloc (.cells #[.pointer (some ⟨ab, 0, none⟩), v] 103)) := by
  have kB : Below wr.heap.size wr (wr.alloc (.cells #[.pointer (some ⟨ab, 0, none⟩), v] 103)) := (Below.refl _ wr).alloc (Nat.le_refl _) _
  have hk := Kp.ofBelow kB (fun _ => False)
  obtain ⟨v0, e0, hn0⟩ := h.out
  obtain ⟨v', e1, hn1⟩ := h.rw.blk
  obtain rfl : v' = v := by
    rw [hb] at e1
    cases e1; rfl
  have hpl := heap_lt h.par
  have hkl := heap_lt hb
  have hs := h.kp.size
  refine ⟨⟨⟨v', heap_alloc_new wr _, hn1.keep hk (fun _ _ => id)⟩, h.rw.psd.below kB, ⟨by have := h.rw.psd.lt; omega, ?_, h.rw.sep.2.2⟩, h.rw.byt⟩, h.nms, ⟨v0, hk.heap e0 id, hn0.keep hk (fun _ _ => id)⟩, hk.heap h.par id, hk.owns h.own (fun _ _ => id), ⟨hs, h.new.2.1, by omega, fun g hg => ⟨?_, (h.new.2.2.2 g hg).2⟩⟩, h.kp.more kB ha, h.pos⟩
  · intro hd
    have := hDlt hd
    omega
  · have := (owns_ge h.own g hg).2; omega
end Go.Proofs.YtgjbafamiggafaaGreatDoor
