/- A rune behind a row of bytes of one's own. (written by wip/tools/wire_gen/genol.py) -/
import Derived.Test.YthdbnafiindgbaaGreatDoorWma0
import Derived.Lib.RuneBytes
import Derived.Shelf.Strings.BuilderK
namespace Go.Proofs.YthdbnafiindgbaaGreatDoor
open Go.RowKit

/-- What has come of a row to which some cells were put. -/
def Apr (w : World) (B : Nat) (v : Value) (n : Nat) (xs cs : List Value) (e : Ending) (w' : World) : Prop := ∃ g cap, e = .returned (.slice (some ⟨g, 0, none⟩) (n + cs.length) cap) ∧ w'.ownsRow B 5 1 (.slice (some ⟨g, 0, none⟩) (n + cs.length) cap) (n + cs.length) (xs ++ cs) ∧ (∃ o, (w.alloc o).grownBy w' v.ownBlock) ∧ (v.ownBlock = some g ∨ w.heap.size ≤ g)
set_option maxHeartbeats 4000000 in
set_option maxRecDepth 100000 in
theorem apr_one (B : Nat) (v : Value) (n : Nat) (xs : List Value) (r : Int) (h0 : 0 ≤ r) (h1 : r ≤ 127) (w : World) (hown : w.ownsRow B 5 1 v n xs) (hlen : n ≤ 1099511627776) (hBw : B ≤ w.heap.size) :
    Calls Tryz.prog 57 #[v, .int .i32 r] w fun e w' => Apr w B v n xs [.int .u8 (r)] e w' := by
  obtain ⟨ib, hib, hb0, hb1, hb2⟩ := infoPt infoBB
  go_enter Tryz.func57, Tryz.ntmps57
  go_wp2_with (at_builtin; refine wpList_append_lies _ rfl _ _ 68 rfl B 5 ib _ 1 1 Tryz.underlying68 hib hb0 hb1 hb2 rfl (by decide) v n xs rfl (hown.alloc _) ⟨w.heap.size, 0, none⟩ 1 1 [.int .u8 (r)] rfl rfl (World.news_of_block (cs := #[.int .u8 (r)]) (heap_alloc_new w _)) (by simp [Value.oneCell']) (by omega) (by unfold maxLen; omega) (by omega) (by simp; omega) (w.heap.size + 1) (by simp) ?_; intro g5 cap5 w5 hown5 hgrow5 hat5 hlt5)
  have HO5 := hide hown5
  have HG5 := hide hgrow5
  have HA5 := hide hat5
  clear hown5 hgrow5 hat5 hlt5
  go_wp2
  go_ret
  exact ⟨g5, cap5, rfl, HO5.out, ⟨_, HG5.out⟩, (HA5.out).imp id (fun e => by omega)⟩
set_option maxHeartbeats 4000000 in
set_option maxRecDepth 100000 in
theorem apn_two (B : Nat) (v : Value) (n : Nat) (xs : List Value) (r : Int) (h0 : 128 ≤ r) (h1 : r ≤ 2047) (w : World) (hown : w.ownsRow B 5 1 v n xs) (hlen : n ≤ 1099511627776) (hBw : B ≤ w.heap.size) :
    Calls Tryz.prog 66 #[v, .int .i32 r] w fun e w' => Apr w B v n xs [.int .u8 (192 + r / 64), .int .u8 (128 + r % 64)] e w' := by
  obtain ⟨ib, hib, hb0, hb1, hb2⟩ := infoPt infoBB
  go_enter Tryz.func66, Tryz.ntmps66
  go_wp2_with (at_builtin; refine wpList_append_lies _ rfl _ _ 68 rfl B 5 ib _ 1 1 Tryz.underlying68 hib hb0 hb1 hb2 rfl (by decide) v n xs rfl (hown.alloc _) ⟨w.heap.size, 0, none⟩ 2 2 [.int .u8 (192 + r / 64), .int .u8 (128 + r % 64)] rfl rfl (World.news_of_block (cs := #[.int .u8 (192 + r / 64), .int .u8 (128 + r % 64)]) (heap_alloc_new w _)) (by simp [Value.oneCell']) (by omega) (by unfold maxLen; omega) (by omega) (by simp; omega) (w.heap.size + 1) (by simp) ?_; intro g5 cap5 w5 hown5 hgrow5 hat5 hlt5)
  have HO5 := hide hown5
  have HG5 := hide hgrow5
  have HA5 := hide hat5
  clear hown5 hgrow5 hat5 hlt5
  go_wp2
  go_ret
  exact ⟨g5, cap5, rfl, HO5.out, ⟨_, HG5.out⟩, (HA5.out).imp id (fun e => by omega)⟩
set_option maxHeartbeats 4000000 in
set_option maxRecDepth 100000 in
theorem apn_lo (B : Nat) (v : Value) (n : Nat) (xs : List Value) (r : Int) (h0 : 2048 ≤ r) (h1 : r < 55296) (w : World) (hown : w.ownsRow B 5 1 v n xs) (hlen : n ≤ 1099511627776) (hBw : B ≤ w.heap.size) :
    Calls Tryz.prog 66 #[v, .int .i32 r] w fun e w' => Apr w B v n xs [.int .u8 (224 + r / 4096), .int .u8 (128 + r / 64 % 64), .int .u8 (128 + r % 64)] e w' := by
  obtain ⟨ib, hib, hb0, hb1, hb2⟩ := infoPt infoBB
  go_enter Tryz.func66, Tryz.ntmps66
  go_wp2_with (at_builtin; refine wpList_append_lies _ rfl _ _ 68 rfl B 5 ib _ 1 1 Tryz.underlying68 hib hb0 hb1 hb2 rfl (by decide) v n xs rfl (hown.alloc _) ⟨w.heap.size, 0, none⟩ 3 3 [.int .u8 (224 + r / 4096), .int .u8 (128 + r / 64 % 64), .int .u8 (128 + r % 64)] rfl rfl (World.news_of_block (cs := #[.int .u8 (224 + r / 4096), .int .u8 (128 + r / 64 % 64), .int .u8 (128 + r % 64)]) (heap_alloc_new w _)) (by simp [Value.oneCell']) (by omega) (by unfold maxLen; omega) (by omega) (by simp; omega) (w.heap.size + 1) (by simp) ?_; intro g5 cap5 w5 hown5 hgrow5 hat5 hlt5)
  have HO5 := hide hown5
  have HG5 := hide hgrow5
  have HA5 := hide hat5
  clear hown5 hgrow5 hat5 hlt5
  go_wp2
  go_ret
  exact ⟨g5, cap5, rfl, HO5.out, ⟨_, HG5.out⟩, (HA5.out).imp id (fun e => by omega)⟩
set_option maxHeartbeats 4000000 in
set_option maxRecDepth 100000 in
theorem apn_hi (B : Nat) (v : Value) (n : Nat) (xs : List Value) (r : Int) (h0 : 57343 < r) (h1 : r ≤ 65535) (w : World) (hown : w.ownsRow B 5 1 v n xs) (hlen : n ≤ 1099511627776) (hBw : B ≤ w.heap.size) :
    Calls Tryz.prog 66 #[v, .int .i32 r] w fun e w' => Apr w B v n xs [.int .u8 (224 + r / 4096), .int .u8 (128 + r / 64 % 64), .int .u8 (128 + r % 64)] e w' := by
  obtain ⟨ib, hib, hb0, hb1, hb2⟩ := infoPt infoBB
  go_enter Tryz.func66, Tryz.ntmps66
  go_wp2_with (at_builtin; refine wpList_append_lies _ rfl _ _ 68 rfl B 5 ib _ 1 1 Tryz.underlying68 hib hb0 hb1 hb2 rfl (by decide) v n xs rfl (hown.alloc _) ⟨w.heap.size, 0, none⟩ 3 3 [.int .u8 (224 + r / 4096), .int .u8 (128 + r / 64 % 64), .int .u8 (128 + r % 64)] rfl rfl (World.news_of_block (cs := #[.int .u8 (224 + r / 4096), .int .u8 (128 + r / 64 % 64), .int .u8 (128 + r % 64)]) (heap_alloc_new w _)) (by simp [Value.oneCell']) (by omega) (by unfold maxLen; omega) (by omega) (by simp; omega) (w.heap.size + 1) (by simp) ?_; intro g5 cap5 w5 hown5 hgrow5 hat5 hlt5)
  have HO5 := hide hown5
  have HG5 := hide hgrow5
  have HA5 := hide hat5
  clear hown5 hgrow5 hat5 hlt5
  go_wp2
  go_ret
  exact ⟨g5, cap5, rfl, HO5.out, ⟨_, HG5.out⟩, (HA5.out).imp id (fun e => by omega)⟩
set_option maxHeartbeats 4000000 in
set_option maxRecDepth 100000 in
theorem apn_four (B : Nat) (v : Value) (n : Nat) (xs : List Value) (r : Int) (h0 : 65536 ≤ r) (h1 : r ≤ 1114111) (w : World) (hown : w.ownsRow B 5 1 v n xs) (hlen : n ≤ 1099511627776) (hBw : B ≤ w.heap.size) :
    Calls Tryz.prog 66 #[v, .int .i32 r] w fun e w' => Apr w B v n xs [.int .u8 (240 + r / 262144), .int .u8 (128 + r / 4096 % 64), .int .u8 (128 + r / 64 % 64), .int .u8 (128 + r % 64)] e w' := by
  obtain ⟨ib, hib, hb0, hb1, hb2⟩ := infoPt infoBB
  go_enter Tryz.func66, Tryz.ntmps66
  go_wp2_with (at_builtin; refine wpList_append_lies _ rfl _ _ 68 rfl B 5 ib _ 1 1 Tryz.underlying68 hib hb0 hb1 hb2 rfl (by decide) v n xs rfl (hown.alloc _) ⟨w.heap.size, 0, none⟩ 4 4 [.int .u8 (240 + r / 262144), .int .u8 (128 + r / 4096 % 64), .int .u8 (128 + r / 64 % 64), .int .u8 (128 + r % 64)] rfl rfl (World.news_of_block (cs := #[.int .u8 (240 + r / 262144), .int .u8 (128 + r / 4096 % 64), .int .u8 (128 + r / 64 % 64), .int .u8 (128 + r % 64)]) (heap_alloc_new w _)) (by simp [Value.oneCell']) (by omega) (by unfold maxLen; omega) (by omega) (by simp; omega) (w.heap.size + 1) (by simp) ?_; intro g5 cap5 w5 hown5 hgrow5 hat5 hlt5)
  have HO5 := hide hown5
  have HG5 := hide hgrow5
  have HA5 := hide hat5
  clear hown5 hgrow5 hat5 hlt5
  go_wp2
  go_ret
  exact ⟨g5, cap5, rfl, HO5.out, ⟨_, HG5.out⟩, (HA5.out).imp id (fun e => by omega)⟩
set_option maxRecDepth 100000 in
theorem apr_any (B : Nat) (v : Value) (n : Nat) (xs : List Value) (r : Int) (h0 : 0 ≤ r) (h1 : r ≤ 1114111) (h2 : ¬ (55296 ≤ r ∧ r ≤ 57343)) (w : World) (hown : w.ownsRow B 5 1 v n xs) (hlen : n ≤ 1099511627776) (hBw : B ≤ w.heap.size) :
    Calls Tryz.prog 57 #[v, .int .i32 r] w fun e w' => Apr w B v n xs (Lib.runeCells r) e w' := by
  by_cases c1 : r ≤ 127
  · have e : Lib.runeCells r = [.int .u8 r] := by simp [Lib.runeCells, Lib.encodeRuneZ_one h0 c1]
    rw [e]; exact apr_one B v n xs r h0 c1 w hown hlen hBw
  have HC : Hid (Calls Tryz.prog 66 #[v, .int .i32 r] w fun e w' => Apr w B v n xs (Lib.runeCells r) e w') := by
    show Calls _ _ _ _ _
    by_cases c2 : r ≤ 2047
    · have e : Lib.runeCells r = [.int .u8 (192 + r / 64), .int .u8 (128 + r % 64)] := by simp [Lib.runeCells, Lib.encodeRuneZ_two (show 128 ≤ r by omega) c2]
      rw [e]; exact apn_two B v n xs r (by omega) c2 w hown hlen hBw
    by_cases c3 : r ≤ 65535
    · have e : Lib.runeCells r = [.int .u8 (224 + r / 4096), .int .u8 (128 + r / 64 % 64), .int .u8 (128 + r % 64)] := by
        simp [Lib.runeCells, Lib.encodeRuneZ_three (r := r) (by omega)]
      rw [e]
      by_cases c4 : r < 55296
      · exact apn_lo B v n xs r (by omega) c4 w hown hlen hBw
      · exact apn_hi B v n xs r (by omega) c3 w hown hlen hBw
    · have e : Lib.runeCells r = [.int .u8 (240 + r / 262144), .int .u8 (128 + r / 4096 % 64), .int .u8 (128 + r / 64 % 64), .int .u8 (128 + r % 64)] := by simp [Lib.runeCells, Lib.encodeRuneZ_four (show 65536 ≤ r by omega) h1]
      rw [e]; exact apn_four B v n xs r (by omega) h1 w hown hlen hBw
  have i1 : 128 ≤ r := by omega
  clear hown c1 h2
  go_enter Tryz.func57, Tryz.ntmps57
  go_wp2_with fail
  refine (HC.out).mono ?_
  rintro e w1 ⟨g, cap, rfl, h3⟩
  have H3 := hide h3
  clear h3 HC
  go_wp2_with fail
  go_ret
  exact ⟨g, cap, rfl, H3.out⟩
end Go.Proofs.YthdbnafiindgbaaGreatDoor
/- A rune is written to a Builder; a Builder by itself. -/
namespace Go.Proofs.YthdbnafiindgbaaGreatDoor
open Go.RowKit

variable {f : Value → Value → Array Value} {T o n : Nat}
theorem runeCells_ne (r : Int) : 0 < (Lib.runeCells r).length := by
  unfold Lib.runeCells Lib.encodeRuneZ
  repeat' split
  all_goals simp
theorem enc_len (r : Int) : (Lib.encodeRune r).length = (Lib.runeCells r).length := by simp [Lib.encodeRune, Lib.runeCells]
set_option maxRecDepth 100000 in
set_option maxHeartbeats 8000000 in
theorem wrune_any (H : Host f T o n) (r : Int) (h0 : 0 ≤ r) (h1 : r ≤ 1114111) (h2 : ¬ (55296 ≤ r ∧ r ≤ 57343)) (B : Nat) (l : List UInt8) (p bv : Value) (w : World) (h : BdG f T o w B l p bv) (hl : l.length ≤ 1099511627776) :
    Calls Tryz.prog 43 #[.pointer (some ⟨B, o, none⟩), .int .i32 r] w fun e w' => (∃ v, e = .returned v) ∧ Hid (BdT f T o w B bv (l ++ Lib.encodeRune r) w') := by
  have HC := hide (check_bd H h)
  have HAP := hide (fun W hown hB => apr_any B bv l.length (Lib.byteCells l) r h0 h1 h2 W hown hl hB)
  have HRC := hide (Lib.byteCells_encodeRune r)
  have HRL := hide (enc_len r)
  have hrp := runeCells_ne r
  have hr4 := Lib.runeCells_le r
  clear h h0 h1 h2
  generalize Lib.runeCells r = RC at *
  go_enter Tryz.func43, Tryz.ntmps43
  go_wp2_with fail
  refine (HC.out).mono ?_
  rintro e w1 ⟨rfl, h1, k1, hz1⟩
  have HB := hide h1
  have HK := hide k1
  have HZ := hide hz1
  obtain ⟨q0, q1, f0, f1, -⟩ := h1.cells H
  have hBl : B < w1.heap.size := heap_lt h1.blk
  have hfar := h1.far H
  obtain ⟨ao, cap, rfl⟩ : ∃ ao cap, bv = .slice ao l.length cap := by
    rcases h1.row.2 with ⟨rfl, e⟩ | ⟨g, cap, cur, rfl, -⟩
    · exact ⟨none, 0, by rw [e]⟩
    · exact ⟨_, cap, rfl⟩
  have HA := hide ((HAP.out) w1 h1.row (by omega))
  clear h1 k1 hz1 HC HAP
  go_wp2_with fail
  refine (HA.out).mono ?_
  rintro e w6 ⟨g, cap6, rfl, o6, ⟨ob, g6⟩, a6⟩
  have HO6 := hide o6
  have HG6 := hide g6
  have HA6 := hide a6
  have hc6 : w6.frozen? ⟨B, o + 1, none⟩ = false := (g6.frozen_far ⟨B, o + 1, none⟩ (by simp; omega) hfar).trans ((World.frozen?_alloc_old _ _ ⟨B, o + 1, none⟩ (by simp; omega)).trans f1)
  have hd6 : w6.cell? ⟨B, o + 1, none⟩ = some (.slice ao l.length cap) := (g6.cell_far ⟨B, o + 1, none⟩ (by simp; omega) hfar).trans ((World.cell?_alloc_old _ _ ⟨B, o + 1, none⟩ (by simp; omega)).trans q1)
  clear o6 g6 a6 hfar HA
  have HF : Hid (BdT f T o w B (.slice ao l.length cap) (l ++ Lib.encodeRune r) (w6.setCell ⟨B, o + 1, none⟩ (.slice (some ⟨g, 0, none⟩) (l.length + RC.length) cap6))) := by
    refine (HB.out).put H HK.out ((Below.refl _ w1).alloc (Nat.le_refl _) ob) ?_ HG6.out (fun k hk => ?_) (fun e => absurd (List.append_eq_nil_iff.1 e).2 (fun e2 => by have := HRL.out; rw [e2, List.length_nil] at this; omega))
    · rw [List.length_append, Lib.byteCells_append, HRC.out, HRL.out]; exact HO6.out
    · obtain rfl : g = k := by simpa [Value.ownBlock] using hk
      rcases HA6.out with e | e
      · exact .inl e
      · exact .inr (by have := HZ.out; omega)
  clear HO6 HG6 HA6 HB HK HZ HRC HRL
  go_wp2_with fail
  go_ret2
  exact ⟨⟨_, rfl⟩, HF⟩
/-- A Builder that has a block by itself. -/
theorem bdH : Host (fun p v => #[p, v]) 89 0 2 where
  c0 := fun _ _ => rfl
  c1 := fun _ _ => rfl
  s0 := fun _ _ _ => rfl
  s1 := fun _ _ _ => rfl
  sz := fun _ _ => rfl
  lt := by decide
  lies := by kernel_rfl
  ne := by decide
end Go.Proofs.YthdbnafiindgbaaGreatDoor
