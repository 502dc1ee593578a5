/- The document's reader: something is wanted; steps one behind the other. -/
import Derived.Test.YtpoipoencbieeaaGreatDoorZw
namespace Go.Proofs.YtpoipoencbieeaaGreatDoor
open Go.RowKit
open M

theorem old1 {W : World} {b i : Nat} {v : Value} {o1 : Obj} (hb : b < W.heap.size) (h : W.cell? ⟨b, i, none⟩ = some v) : (W.alloc o1).cell? ⟨b, i, none⟩ = some v := kcb ((Below.refl _ W).alloc (Nat.le_refl _) o1) hb h
theorem old2' {W : World} {b i : Nat} {v : Value} {o1 o2 : Obj} (hb : b < W.heap.size) (h : W.cell? ⟨b, i, none⟩ = some v) : ((W.alloc o1).alloc o2).cell? ⟨b, i, none⟩ = some v := kcb (((Below.refl _ W).alloc (Nat.le_refl _) o1).alloc (by simp) o2) hb h
/-- What is missing is put into the node. -/
theorem WkM.missed {w w5 : World} {rb : Nat} {s : ByteArray} {L : List Tk} {tv : Value} {a dp lo B k : Nat} {rv : Value} {vs : List Value} {ps : List X.Part} {Lo Hi : Nat → Nat} {g cap : Nat} (h : WkM w rb s L tv a dp lo B k rv vs ps Lo Hi) (x : List UInt8)
    (hgrow : ((w.alloc (mcell 1 0 x (.slice none 0 0) 0 0 0 0 false)).alloc (.cells #[.pointer (some ⟨w.heap.size, 0, none⟩)] 28)).grownBy w5 rv.ownBlock) (hown : w5.ownsRow lo 28 1 (.slice (some ⟨g, 0, none⟩) (vs.length + 1) cap) (vs.length + 1) (vs ++ [.pointer (some ⟨w.heap.size, 0, none⟩)])) (hat : rv.ownBlock = some g ∨ g = w.heap.size + 2) :
    DnM w rb s L tv dp lo B k rv (ps ++ [.miss x]) (remT s L a) (w5.setCell ⟨B, 3, none⟩ (.slice (some ⟨g, 0, none⟩) (vs.length + 1) cap)) := by
  have kN : ∀ o1 o2 : Obj, Below w.heap.size w ((w.alloc o1).alloc o2) := fun o1 o2 => ((Below.refl _ w).alloc (Nat.le_refl _) o1).alloc (by simp) o2
  have hblk : ((w.alloc (mcell 1 0 x (.slice none 0 0) 0 0 0 0 false)).alloc (.cells #[.pointer (some ⟨w.heap.size, 0, none⟩)] 28)).heap[w.heap.size]? = some (mcell 1 0 x (.slice none 0 0) 0 0 0 0 false) := (heap_alloc_old _ _ (by simp)).trans (heap_alloc_new w _)
  exact h.put (On.ofBelow rb (kN _ _)) (h.rdr.below (kN _ _)) (IsM.miss hblk) (Nat.le_refl _) (by simp) hgrow hown (hat.imp id (fun e => by rw [e]; simp))
/-- Facts for a walk that puts something into a node. -/
theorem WkM.forPut {w : World} {rb : Nat} {s : ByteArray} {L : List Tk} {tv : Value} {a dp lo B k : Nat} {rv : Value} {vs : List Value} {ps : List X.Part} {Lo Hi : Nat → Nat} (h : WkM w rb s L tv a dp lo B k rv vs ps Lo Hi) :
    w.cell? ⟨B, 3, none⟩ = some rv ∧ w.frozen? ⟨B, 3, none⟩ = false ∧ B < w.heap.size ∧ lo ≤ w.heap.size ∧ Hid (some B ≠ rv.ownBlock) ∧ Hid (vs.length = ps.length) :=
  ⟨h.nd.facts.2.1, h.nd.facts.2.2.2, h.nd.lt, Nat.le_trans h.nd.ge (Nat.le_of_lt h.nd.lt), fun e => h.nd.ne e.symm, h.nd.kds.len⟩
set_option maxRecDepth 100000 in
set_option maxHeartbeats 1000000 in
theorem rwant_any (s : ByteArray) (L : List Tk) (dp : Nat) (hS : TokS s L) (x : List UInt8) (rb : Nat) (tv : Value) (a lo B k : Nat) (rv : Value) (vs : List Value) (ps : List X.Part) (Lo Hi : Nat → Nat) (w : World) (h : WkM w rb s L tv a dp lo B k rv vs ps Lo Hi) (hl : ps.length + (X.want x (remT s L a)).1.length ≤ 1073741824) :
    Calls Tryz.prog 51 #[.pointer (some ⟨rb, 0, none⟩), .pointer (some ⟨B, 0, none⟩), .string (ba x)] w fun en w' => en = .returned (.tuple #[]) ∧ Hid (DnM w rb s L tv dp lo B k rv (ps ++ (X.want x (remT s L a)).1) (X.want x (remT s L a)).2 w') := by
  obtain ⟨i0, hi0, hz0, hz1, hz2⟩ := info_parts infoM
  have HW := hide h
  have HI := hide (ris_any rb s L tv a dp x w hS h.rdr)
  clear h
  cases hp : X.isN x (remT s L a) with
  | true =>
    have e1 : X.want x (remT s L a) = X.take (remT s L a) := by unfold X.want; rw [if_pos hp]
    rw [e1] at hl ⊢
    rw [hp] at HI
    clear e1 hp
    go_enter Tryz.func51, Tryz.ntmps51
    go_wp2_with fail
    refine (HI.out).mono ?_
    rintro e w1 ⟨rfl, k1⟩
    have HW1 := hide ((HW.out).below k1)
    have HK1 := hide k1
    clear k1
    go_wp2_with fail
    refine (rtake_any s L dp hS rb tv a lo B k rv vs ps Lo Hi w1 (HW1.out) trivial hl).mono ?_
    rintro e w2 ⟨rfl, H2⟩
    go_wp2_with fail
    go_end0
    exact ⟨rfl, DnM.trans (fun _ hg => .inl hg) (Kp.ofBelow HK1.out _) H2.out⟩
  | false =>
    have e1 : X.want x (remT s L a) = ([.miss x], remT s L a) := by unfold X.want; rw [if_neg (by rw [hp]; simp)]
    rw [e1] at hl ⊢
    rw [hp] at HI
    clear e1 hp
    go_enter Tryz.func51, Tryz.ntmps51
    go_wp2_with fail
    refine (HI.out).mono ?_
    rintro e w1 ⟨rfl, k1⟩
    have HW1 := hide ((HW.out).below k1)
    have HK1 := hide k1
    clear k1
    obtain ⟨b3, f3, hbl, hlo, HN, hvl⟩ := (HW1.out).forPut
    simp only [List.length_singleton] at hl
    have hvb : vs.length ≤ 1073741823 := by rw [hvl.out]; omega
    go_wp2_with (at_builtin; refine wpList_append_lies _ rfl _ _ 75 rfl lo 28 i0 _ 1 8 Tryz.underlying75 hi0 hz0 hz1 hz2 rfl (by decide) rv vs.length _ rfl (((HW1.out).nd.row.alloc _).alloc _) ⟨w1.heap.size + 1, 0, none⟩ 1 1 [.pointer (some ⟨w1.heap.size, 0, none⟩)] rfl rfl (World.news_of_block (cs := #[.pointer (some ⟨w1.heap.size, 0, none⟩)]) (at_new (w1.alloc _) _ (World.size_alloc w1 _))) (by simp [Value.oneCell']) (by omega) (by unfold maxLen; omega) (by omega) (by simp; omega) (w1.heap.size + 2) (by simp) ?_; intro g cap5 w5 hown5 hgrow5 hat5 hlt5; have x1 : w5.cell? ⟨B, 3, none⟩ = some rv := (hgrow5.cell_far ⟨B, 3, none⟩ (by simp; omega) (HN.out)).trans (old2' hbl b3); have x2 : w5.frozen? ⟨B, 3, none⟩ = false := (hgrow5.frozen_far ⟨B, 3, none⟩ (by simp; omega) (HN.out)).trans ((World.frozen?_alloc_old _ _ ⟨B, 3, none⟩ (by simp; omega)).trans ((World.frozen?_alloc_old _ _ ⟨B, 3, none⟩ (by simp; omega)).trans f3)); have HX := hide ((HW1.out).missed x hgrow5 hown5 hat5); clear hown5 hgrow5)
    go_end0
    exact ⟨rfl, DnM.trans (fun _ hg => .inl hg) (Kp.ofBelow HK1.out _) HX.out⟩
set_option maxRecDepth 100000 in
set_option maxHeartbeats 1000000 in
theorem rname_any (s : ByteArray) (L : List Tk) (dp : Nat) (hS : TokS s L) : ReadsM 52 X.wname (fun _ => True) s L dp := by
  intro rb tv a lo B k rv vs ps Lo Hi w h _ hl
  obtain ⟨i0, hi0, hz0, hz1, hz2⟩ := info_parts infoM
  have HW := hide h
  have HI := hide (rkind_any rb s L tv a dp w hS h.rdr)
  clear h
  cases hp : (X.kindN (remT s L a) == 3) with
  | true =>
    have e1 : X.wname (remT s L a) = X.take (remT s L a) := by unfold X.wname; rw [if_pos hp]
    rw [e1] at hl ⊢
    have hk : X.kindN (remT s L a) = 3 := by simpa using hp
    rw [hk] at HI
    clear e1 hp hk
    go_enter Tryz.func52, Tryz.ntmps52
    go_wp2_with fail
    refine (HI.out).mono ?_
    rintro e w1 ⟨rfl, k1⟩
    have HW1 := hide ((HW.out).below k1)
    have HK1 := hide k1
    clear k1
    go_wp2_with fail
    refine (rtake_any s L dp hS rb tv a lo B k rv vs ps Lo Hi w1 (HW1.out) trivial hl).mono ?_
    rintro e w2 ⟨rfl, H2⟩
    go_wp2_with fail
    go_end0
    exact ⟨rfl, DnM.trans (fun _ hg => .inl hg) (Kp.ofBelow HK1.out _) H2.out⟩
  | false =>
    have e1 : X.wname (remT s L a) = ([.miss X.sName], remT s L a) := by unfold X.wname; rw [if_neg (by rw [hp]; simp)]
    rw [e1] at hl ⊢
    have hk : ((X.kindN (remT s L a) : Int) == 3) = false := by rw [← hp, Bool.eq_iff_iff]; simp; omega
    clear e1 hp
    go_enter Tryz.func52, Tryz.ntmps52
    go_wp2_with fail
    refine (HI.out).mono ?_
    rintro e w1 ⟨rfl, k1⟩
    have HW1 := hide ((HW.out).below k1)
    have HK1 := hide k1
    clear k1
    obtain ⟨b3, f3, hbl, hlo, HN, hvl⟩ := (HW1.out).forPut
    simp only [List.length_singleton] at hl
    have hvb : vs.length ≤ 1073741823 := by rw [hvl.out]; omega
    go_wp2_with (at_builtin; refine wpList_append_lies _ rfl _ _ 75 rfl lo 28 i0 _ 1 8 Tryz.underlying75 hi0 hz0 hz1 hz2 rfl (by decide) rv vs.length _ rfl (((HW1.out).nd.row.alloc _).alloc _) ⟨w1.heap.size + 1, 0, none⟩ 1 1 [.pointer (some ⟨w1.heap.size, 0, none⟩)] rfl rfl (World.news_of_block (cs := #[.pointer (some ⟨w1.heap.size, 0, none⟩)]) (at_new (w1.alloc _) _ (World.size_alloc w1 _))) (by simp [Value.oneCell']) (by omega) (by unfold maxLen; omega) (by omega) (by simp; omega) (w1.heap.size + 2) (by simp) ?_; intro g cap5 w5 hown5 hgrow5 hat5 hlt5; have x1 : w5.cell? ⟨B, 3, none⟩ = some rv := (hgrow5.cell_far ⟨B, 3, none⟩ (by simp; omega) (HN.out)).trans (old2' hbl b3); have x2 : w5.frozen? ⟨B, 3, none⟩ = false := (hgrow5.frozen_far ⟨B, 3, none⟩ (by simp; omega) (HN.out)).trans ((World.frozen?_alloc_old _ _ ⟨B, 3, none⟩ (by simp; omega)).trans ((World.frozen?_alloc_old _ _ ⟨B, 3, none⟩ (by simp; omega)).trans f3)); have HX := hide ((HW1.out).missed X.sName hgrow5 hown5 hat5); clear hown5 hgrow5)
    go_end0
    exact ⟨rfl, DnM.trans (fun _ hg => .inl hg) (Kp.ofBelow HK1.out _) HX.out⟩
end Go.Proofs.YtpoipoencbieeaaGreatDoor
/- The document's reader: steps one behind the other; a node within a node. -/
namespace Go.Proofs.YtpoipoencbieeaaGreatDoor
open Go.RowKit
open M

theorem DnM.go {w w1 : World} {rb : Nat} {s : ByteArray} {L : List Tk} {tv : Value} {dp lo B k : Nat} {rv : Value} {ps1 : List X.Part} {ts1 : List X.Tok} (h : DnM w rb s L tv dp lo B k rv ps1 ts1 w1) {fn : FuncId} {F : X.R} (hR : ReadsM fn F (fun _ => True) s L dp) (hb : ps1.length + (F ts1).1.length ≤ 1073741824) :
    Calls Tryz.prog fn #[.pointer (some ⟨rb, 0, none⟩), .pointer (some ⟨B, 0, none⟩)] w1 fun en w2 => en = .returned (.tuple #[]) ∧ Hid (DnM w rb s L tv dp lo B k rv (ps1 ++ (F ts1).1) (F ts1).2 w2) := by
  obtain ⟨a', rv', vs', Lo', Hi', g1, rfl, g3, g4⟩ := h
  exact (hR rb tv a' lo B k rv' vs' ps1 Lo' Hi' w1 g1 trivial hb).mono (fun e w2 h => ⟨h.1, DnM.trans g3 g4 h.2.out⟩)
theorem DnM.want {w w1 : World} {rb : Nat} {s : ByteArray} {L : List Tk} {tv : Value} {dp lo B k : Nat} {rv : Value} {ps1 : List X.Part} {ts1 : List X.Tok} (h : DnM w rb s L tv dp lo B k rv ps1 ts1 w1) (hS : TokS s L) (x : List UInt8) (hb : ps1.length + (X.want x ts1).1.length ≤ 1073741824) :
    Calls Tryz.prog 51 #[.pointer (some ⟨rb, 0, none⟩), .pointer (some ⟨B, 0, none⟩), .string (ba x)] w1 fun en w2 => en = .returned (.tuple #[]) ∧ Hid (DnM w rb s L tv dp lo B k rv (ps1 ++ (X.want x ts1).1) (X.want x ts1).2 w2) := by
  obtain ⟨a', rv', vs', Lo', Hi', g1, rfl, g3, g4⟩ := h
  exact (rwant_any s L dp hS x rb tv a' lo B k rv' vs' ps1 Lo' Hi' w1 g1 hb).mono (fun e w2 h => ⟨h.1, DnM.trans g3 g4 h.2.out⟩)
theorem DnM.is {w w1 : World} {rb : Nat} {s : ByteArray} {L : List Tk} {tv : Value} {dp lo B k : Nat} {rv : Value} {ps1 : List X.Part} {ts1 : List X.Tok} (h : DnM w rb s L tv dp lo B k rv ps1 ts1 w1) (hS : TokS s L) (x : List UInt8) :
    Calls Tryz.prog 49 #[.pointer (some ⟨rb, 0, none⟩), .string (ba x)] w1 fun e w2 => e = .returned (.bool (X.isN x ts1)) ∧ Hid (DnM w rb s L tv dp lo B k rv ps1 ts1 w2) := by
  have h0 := h
  obtain ⟨a', rv', vs', Lo', Hi', g1, rfl, g3, g4⟩ := h
  exact (ris_any rb s L tv a' dp x w1 hS g1.rdr).mono (fun e w2 h => ⟨h.1, h0.next h.2⟩)
theorem DnM.at {w w1 : World} {rb : Nat} {s : ByteArray} {L : List Tk} {tv : Value} {dp lo B k : Nat} {rv : Value} {ps1 : List X.Part} {ts1 : List X.Tok} (h : DnM w rb s L tv dp lo B k rv ps1 ts1 w1) : L.length - atM rb w1 = ts1.length := by
  obtain ⟨a', rv', vs', Lo', Hi', g1, rfl, g3, g4⟩ := h
  rw [g1.rdr.at]; unfold remT; rw [List.length_map, List.length_drop]
theorem DnM.tlen {w w1 : World} {rb : Nat} {s : ByteArray} {L : List Tk} {tv : Value} {dp lo B k : Nat} {rv : Value} {ps1 : List X.Part} {ts1 : List X.Tok} (h : DnM w rb s L tv dp lo B k rv ps1 ts1 w1) : ts1.length ≤ L.length := by rw [← h.at]; omega
/-- A new node. -/
theorem RdM.new {w : World} {rb : Nat} {s : ByteArray} {L : List Tk} {tv : Value} {a dp : Nat} (h : RdM w rb s L tv a dp) (k : Nat) : DnM (w.alloc (mcell k 0 [] (.slice none 0 0) 0 0 0 0 false)) rb s L tv dp w.heap.size w.heap.size k (.slice none 0 0) [] (remT s L a) (w.alloc (mcell k 0 [] (.slice none 0 0) 0 0 0 0 false)) :=
  DnM.refl ⟨h.below ((Below.refl _ w).alloc (Nat.le_refl _) _), Mk.new w k, h.lt, fun q e => (h.own q e).2⟩
/-- What a reader has read: where it stands, the node. -/
def GvM (w : World) (rb : Nat) (s : ByteArray) (L : List Tk) (tv : Value) (dp : Nat) (p : X.Part) (ts' : List X.Tok) (N : Nat) (w' : World) : Prop :=
  ∃ a', RdM w' rb s L tv a' dp ∧ remT s L a' = ts' ∧ IsM w' w.heap.size w'.heap.size (.pointer (some ⟨N, 0, none⟩)) (X.raw p) ∧ On rb w w'
/-- A function that reads a node. -/
def GivesM (fn : FuncId) (args : Value → Array Value) (F : X.R) (s : ByteArray) (L : List Tk) (dp : Nat) : Prop :=
  ∀ (rb : Nat) (tv : Value) (a : Nat) (w : World), RdM w rb s L tv a dp → Calls Tryz.prog fn (args (.pointer (some ⟨rb, 0, none⟩))) w fun e w' => ∃ N p, e = .returned (.pointer (some ⟨N, 0, none⟩)) ∧ Hid ((F (remT s L a)).1 = [p]) ∧ Hid (GvM w rb s L tv dp p (F (remT s L a)).2 N w')
theorem GvM.at {w w1 : World} {rb : Nat} {s : ByteArray} {L : List Tk} {tv : Value} {dp N : Nat} {p : X.Part} {ts1 : List X.Tok} (h : GvM w rb s L tv dp p ts1 N w1) : L.length - atM rb w1 = ts1.length := by
  obtain ⟨a', g1, rfl, g3, g4⟩ := h
  rw [g1.at]; unfold remT; rw [List.length_map, List.length_drop]
theorem GvM.next {w w1 w2 : World} {rb : Nat} {s : ByteArray} {L : List Tk} {tv : Value} {dp N : Nat} {p : X.Part} {ts1 : List X.Tok} (h : GvM w rb s L tv dp p ts1 N w1) (hk : Below w1.heap.size w1 w2) : GvM w rb s L tv dp p ts1 N w2 := by
  obtain ⟨a', g1, g2, g3, g4⟩ := h
  exact ⟨a', g1.below hk, g2, (g3.kept hk).wide (Nat.le_refl _) hk.size, g4.to (On.ofBelow rb hk)⟩
theorem GvM.is {w w1 : World} {rb : Nat} {s : ByteArray} {L : List Tk} {tv : Value} {dp N : Nat} {p : X.Part} {ts1 : List X.Tok} (h : GvM w rb s L tv dp p ts1 N w1) (hS : TokS s L) (x : List UInt8) :
    Calls Tryz.prog 49 #[.pointer (some ⟨rb, 0, none⟩), .string (ba x)] w1 fun e w2 => e = .returned (.bool (X.isN x ts1)) ∧ Hid (GvM w rb s L tv dp p ts1 N w2) := by
  have h0 := h
  obtain ⟨a', g1, rfl, g3, g4⟩ := h
  exact (ris_any rb s L tv a' dp x w1 hS g1).mono (fun e w2 h => ⟨h.1, h0.next h.2⟩)
/-- A node that has been read is given. -/
theorem DnM.closed {w W w4 : World} {rb : Nat} {s : ByteArray} {L : List Tk} {tv : Value} {dp N k : Nat} {cps : List X.Part} {ts' : List X.Tok} {rvn : Value} (h : DnM W rb s L tv dp w.heap.size N k rvn cps ts' w4) (hk : On rb w W) (hr : ∀ g, rvn.ownBlock = some g → w.heap.size ≤ g) : GvM w rb s L tv dp (.br k cps) ts' N w4 := by
  obtain ⟨a', rv', vs', Lo', Hi', g1, g2, g3, g4⟩ := h
  have hge := g1.nd.ge
  refine ⟨a', g1.rdr, g2, g1.nd.done, Kp.trans hk g4 (fun i hi e => ?_)⟩
  rcases e with e | e | e
  · exact e
  · omega
  · have := hr i e; omega
/-- A node that has been read is put into another one. -/
theorem WkM.take {w W w5 : World} {rb : Nat} {s : ByteArray} {L : List Tk} {tv : Value} {a dp lo B k : Nat} {rv : Value} {vs : List Value} {ps : List X.Part} {Lo Hi : Nat → Nat} {g cap N : Nat} {p : X.Part} {ts' : List X.Tok} (h : WkM w rb s L tv a dp lo B k rv vs ps Lo Hi) (hg : GvM w rb s L tv dp p ts' N W) {o : Obj}
    (hgrow : (W.alloc o).grownBy w5 rv.ownBlock) (hown : w5.ownsRow lo 28 1 (.slice (some ⟨g, 0, none⟩) (vs.length + 1) cap) (vs.length + 1) (vs ++ [.pointer (some ⟨N, 0, none⟩)])) (hat : rv.ownBlock = some g ∨ g = W.heap.size + 1) :
    DnM w rb s L tv dp lo B k rv (ps ++ [p]) ts' (w5.setCell ⟨B, 3, none⟩ (.slice (some ⟨g, 0, none⟩) (vs.length + 1) cap)) := by
  obtain ⟨a', g1, rfl, g3, g4⟩ := hg
  have kN : Below W.heap.size W (W.alloc o) := (Below.refl _ W).alloc (Nat.le_refl _) o
  exact h.put (g4.to (On.ofBelow rb kN)) (g1.below kN) (g3.kept kN) (Nat.le_refl _) (by simp) hgrow hown (hat.imp id (fun e => by rw [e]; simp))
/-- Facts of a node while something is read for it. -/
theorem WkM.forTake {w W : World} {rb : Nat} {s : ByteArray} {L : List Tk} {tv : Value} {a dp lo B k : Nat} {rv : Value} {vs : List Value} {ps : List X.Part} {Lo Hi : Nat → Nat} {N : Nat} {p : X.Part} {ts' : List X.Tok} (h : WkM w rb s L tv a dp lo B k rv vs ps Lo Hi) (hg : GvM w rb s L tv dp p ts' N W) :
    W.cell? ⟨B, 3, none⟩ = some rv ∧ W.frozen? ⟨B, 3, none⟩ = false ∧ B < W.heap.size ∧ lo ≤ W.heap.size ∧ Hid (some B ≠ rv.ownBlock) ∧ Hid (vs.length = ps.length) ∧ Hid (W.ownsRow lo 28 1 rv vs.length vs) := by
  obtain ⟨a', g1, g2, g3, g4⟩ := hg
  have h2 : WkM W rb s L tv a' dp lo B k rv vs ps Lo Hi := h.moved g4 g1
  obtain ⟨a1, a2, a3, a4, a5, a6⟩ := h2.forPut
  exact ⟨a1, a2, a3, a4, a5, a6, h2.nd.row⟩
end Go.Proofs.YtpoipoencbieeaaGreatDoor
