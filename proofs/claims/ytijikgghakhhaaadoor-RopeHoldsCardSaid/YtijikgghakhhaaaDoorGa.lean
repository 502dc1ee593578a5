/- A Builder that has room is written without growing; so Text gives every piece for which a Builder can be grown. -/
import Derived.Test.YtijikgghakhhaaaDoorWk
import Derived.Shelf.Strings.BuilderCap
namespace Go.Proofs.YtijikgghakhhaaaDoor
open Go.RowKit Go.Shelf
open M

/-- A text put behind what a slice holds, where the slice has room. -/
theorem run_append_room_own {P : Program} (w : World) (base : Nat) (t u ty e : TypeId) (i : TypeInfo) (ht : P.underlying t = some (.slice e)) (hu : P.underlying u = some .string) (hi : P.info? e = some i)
    (hsize : i.size = 1) (v : Value) (n : Nat) (xs : List Value) (hown : w.ownsRow base e 1 v n xs) (s : ByteArray) (h0 : 0 < s.size) (hroom : n + s.size ≤ v.capOf) :
    ∃ v' w', (Builtin.append_ #[t, u] ty #[v, .string s]).run P w = .ok v' w' ∧ w'.ownsRow base e 1 v' (n + s.size) (xs ++ Lib.strCells s) ∧ w.grownBy w' v.ownBlock ∧ v'.capOf = v.capOf := by
  have hxl : xs.length = n := by simpa using hown.1
  have hlen : (xs ++ Lib.strCells s).length = (n + s.size) * 1 := by rw [List.length_append, hxl, Lib.strCells_length, Nat.mul_one]
  rcases hown.2 with ⟨rfl, rfl⟩ | ⟨g, cap, cur, rfl, hbg, hg, hnc, hcm, hcs, htake⟩
  · simp only [Value.capOf] at hroom; omega
  · simp only [Value.capOf] at hroom
    have hcs' : cur.size = cap := by simpa using hcs
    have hr := Lib.run_append_room_string (P := P) w t u ty e i ht hu hi hsize g n cap cur hg s hroom (by omega)
    refine ⟨_, _, hr, ⟨hlen, .inr ⟨g, cap, _, rfl, hbg, setRow_heap w g cur _ e _ hg, hroom, hcm, ?_, ?_⟩⟩, ⟨rfl, rfl, rfl, by simp, fun k _ hk => setRow_other w g k _ (fun e => hk (by simp [Value.ownBlock, e]))⟩, rfl⟩
    · simp only [List.size_toArray, List.length_append, List.length_take, List.length_drop, Array.length_toList, Lib.strCells_length]
      omega
    · have ht' : cur.toList.take n = xs := by simpa using htake
      rw [ht', ← hlen]
      exact List.take_left

theorem wpList_append_room {P : Program} (w : World) {ops : Array Oper} {rest : List Oper} {o : Oper} {a : Act} {Q : Exit → Act → World → Prop} (hgd : o.guard = none) (sl x : Operand) (t u : TypeId)
    (ho : o.op = .call { callee := .builtin .append, args := #[sl, x], argTypes := #[t, u] })
    (base : Nat) (e : TypeId) (i : TypeInfo) (ht : P.underlying t = some (.slice e)) (hu : P.underlying u = some .string) (hi : P.info? e = some i)
    (hsize : i.size = 1) (v : Value) (n : Nat) (xs : List Value) (hs : a.eval sl = v) (hown : w.ownsRow base e 1 v n xs) (s : ByteArray) (hx : a.eval x = .string s) (h0 : 0 < s.size) (hroom : n + s.size ≤ v.capOf)
    (h : ∀ v' w', w'.ownsRow base e 1 v' (n + s.size) (xs ++ Lib.strCells s) → w.grownBy w' v.ownBlock → v'.capOf = v.capOf → wpList P ops Q rest (a.put o.dst v') w') : wpList P ops Q (o :: rest) a w := by
  refine wpList_plain hgd fun K hK => ?_
  obtain ⟨v', w', hr, h2, h3, h4⟩ := run_append_room_own (P := P) w base t u o.type e i ht hu hi hsize v n xs hown s h0 hroom
  unfold Oper.wp execOp
  simp only [ho, resolve, invoke, builtin, Sem.run_bind, Sem.run_pure, Result.andThen_ok, List.map_toArray, List.map_cons, List.map_nil, hs, hx, hr]
  exact hK _ _ (h v' w' h2 h3 h4)

/-- A Builder in use whose bytes may become as many as C without growing. -/
def Roomy (C B b : Nat) (acc : List Value) (w : World) : Prop := Lib.BuilderAt 57 5 B b (.pointer (some ⟨b, 0, none⟩)) acc w ∧ ∃ v, w.cell? ⟨b, 1, none⟩ = some v ∧ C ≤ v.capOf

set_option maxHeartbeats 2000000 in
set_option maxRecDepth 100000 in
theorem Builder_WriteString_room (C B b : Nat) (acc : List Value) (s : ByteArray) (w : World) (h : Roomy C B b acc w) (h0 : 0 < s.size) (hlen : acc.length + s.size ≤ C) (hBw : B ≤ w.heap.size) :
    Calls Tryd.prog 43 #[.pointer (some ⟨b, 0, none⟩), .string s] w fun e w' => e = .returned (.tuple #[.int .i64 s.size, .nilIface]) ∧ Roomy C B b (acc ++ Lib.strCells s) w' ∧ Below B w w' := by
  obtain ⟨i0, hi, hz0, hz1, hz2⟩ := info_parts Tryd.Builder_Extra_166.infoByte
  obtain ⟨h1, v0, hv0, hC⟩ := h
  have hc0 := h1.cell0
  obtain ⟨hB, v, hbk, hown, hne⟩ := h1
  have c1 : w.cell? ⟨b, 1, none⟩ = some v := by rw [Lib.cell_of_heap hbk]; rfl
  obtain rfl : v = v0 := Option.some.inj (c1.symm.trans hv0)
  have HC := hide hC
  clear hC hv0
  go_enter Tryd.func43, Tryd.ntmps43
  go_wp2_with fail
  refine (Any.Builder_copyCheck_used { Tryd.lays166 with } Tryd.Builder_Extra_166.toX72 b _ hc0).mono ?_
  rintro e w1 ⟨rfl, rfl⟩
  go_wp2_with (at_builtin; refine wpList_append_room _ rfl _ _ 55 9 rfl B 5 i0 Tryd.underlying55 Tryd.underlying9 hi hz1 _ _ _ rfl hown s rfl ?c3 ?c4 ?_)
  case c3 => exact h0
  case c4 => exact Nat.le_trans hlen HC.out
  intro v' w2 hown' hgrow hcapv
  have hlt : b < w1.heap.size := by
    rcases Nat.lt_or_ge b w1.heap.size with h' | h'
    · exact h'
    · simp [Array.getElem?_eq_none h'] at hbk
  have hb2 : w2.heap[b]? = some (.cells #[.pointer (some ⟨b, 0, none⟩), v] 57 (0, 0)) := by
    rw [hgrow.block b hlt (fun e => hne e.symm)]
    exact hbk
  have d0 : w2.cell? ⟨b, 0, none⟩ = some (.pointer (some ⟨b, 0, none⟩)) := by rw [Lib.cell_of_heap hb2]; rfl
  have d1 : w2.cell? ⟨b, 1, none⟩ = some v := by rw [Lib.cell_of_heap hb2]; rfl
  have f1 : w2.frozen? ⟨b, 1, none⟩ = false := Lib.frozen_of_heap hb2 1
  have HCV := hide hcapv
  clear hcapv
  obtain ⟨ao, n', cap, rfl⟩ : ∃ ao n' cap, v' = .slice ao n' cap := by
    rcases hown'.2 with ⟨hv, _⟩ | ⟨g, cap, cur, hv, _⟩
    · exact ⟨_, _, _, hv⟩
    · exact ⟨_, _, _, hv⟩
  go_wp2
  go_ret2
  refine ⟨rfl, ⟨?_, _, World.cell?_setCell_same _ _ _ d1, ?_⟩, ?_⟩
  · exact Lib.BuilderAt.put (T := 57) (e := 5) hB hb2 (bs' := acc ++ Lib.strCells s) (by simpa [Lib.strCells_length] using hown') (by decide)
  · rw [HCV.out]; exact HC.out
  · exact ((Below.refl B _).grown hgrow hBw (fun k hk => (hown.lt k hk).1)).setCell (p := ⟨b, 1, none⟩) hB _

theorem Tryd.Builder_Grow_cap (B b n : Nat) (w : World) (hB : B ≤ b) (hbk : w.heap[b]? = some (.cells #[.pointer none, .slice none 0 0] 57 (0, 0))) (hBw : B ≤ w.heap.size) (hn : n ≤ 281474976710656) :
    Calls Tryd.prog 23 #[.pointer (some ⟨b, 0, none⟩), .int .i64 n] w fun e w' => e = .returned (.tuple #[]) ∧ Roomy n B b [] w' ∧ Below B w w' := by
  refine (Any.Builder_Grow_fresh_cap Tryd.lays165 Tryd.Builder_Extra_165 B b n w hB hbk hBw hn).mono ?_
  rintro e w' ⟨rfl, ⟨h1, h2⟩, p, cap, hc, hle⟩
  exact ⟨rfl, ⟨h1, _, hc, hle⟩, h2⟩

def WriteOkC (C n : Nat) : Prop := ∀ (c : Nat) (l : List UInt8) (h : Nat) (w0 w : World) (B b : Nat) (acc : List UInt8) (x y : Int), h ≤ n → IsT w0 c l h → Below w0.heap.size w0 w → w0.heap.size ≤ B → B ≤ w.heap.size →
    Roomy C B b (Lib.byteCells acc) w → 0 ≤ x → y ≤ l.length → l.length ≤ 1125899906842624 → -1125899906842624 ≤ y → x ≤ 1125899906842624 → acc.length + (y - x).toNat ≤ C →
    Calls Tryd.prog 24 #[.pointer (some ⟨b, 0, none⟩), .pointer (some ⟨c, 0, none⟩), .int .i64 x, .int .i64 y] w fun e w' => e = .returned (.tuple #[]) ∧ Roomy C B b (Lib.byteCells (acc ++ (l.take y.toNat).drop x.toNat)) w' ∧ Below B w w'

set_option maxHeartbeats 400000 in
theorem write_leafC (C c b B : Nat) (l acc : List UInt8) (t : ByteArray) (a1 a2 a3 a4 : Nat) (x y : Nat) (w : World) (k : Node w c none none t 0 a1 a2 a3 a4) (ht : bs t = l) (hbu : Roomy C B b (Lib.byteCells acc) w)
    (hB : B ≤ w.heap.size) (hxy : x < y) (hy : y ≤ l.length) (hs : l.length ≤ 1125899906842624) (hlen : acc.length + (y - x) ≤ C) :
    Calls Tryd.prog 24 #[.pointer (some ⟨b, 0, none⟩), .pointer (some ⟨c, 0, none⟩), .int .i64 x, .int .i64 y] w fun e w' => e = .returned (.tuple #[]) ∧ Roomy C B b (Lib.byteCells (acc ++ (l.take y).drop x)) w' ∧ Below B w w' := by
  obtain ⟨c0, _, c2, _⟩ := k.facts
  have hl := bs_len t
  rw [ht] at hl
  have z0 : ¬ (y : Int) ≤ (x : Int) := by omega
  have z1 : (0 : Int) ≤ (x : Int) := by omega
  have z2 : (x : Int) ≤ (y : Int) := by omega
  have z3 : (y : Int) ≤ (t.size : Int) := by omega
  have z4 : x ≤ y := by omega
  have z5 : y ≤ t.size := by omega
  have z6 : (t.size : Int) ≤ 1125899906842624 := by omega
  have Hbu := hide hbu
  have Ht := hide ht
  clear hbu k ht hl
  go_enter Tryd.func24, Tryd.ntmps24
  go_wp2_with fail
  refine (isLeaf_any c none w c0).mono ?_
  rintro e w1 ⟨rfl, rfl⟩
  go_wp2_with fail
  refine (Builder_WriteString_room C B b (Lib.byteCells acc) (t.extract x y) _ (by exact Hbu.out) ?_ ?_ hB).mono ?_
  · have := bs_len (t.extract x y)
    rw [bs_cut, List.length_drop, List.length_take, bs_len] at this
    omega
  · rw [Lib.byteCells_length]
    have := bs_len (t.extract x y)
    rw [bs_cut, List.length_drop, List.length_take, bs_len] at this
    omega
  rintro e w2 ⟨rfl, hb2, hbl⟩
  go_wp2_with fail
  refine bodyPost_ret (results_none rfl _ _ _) rfl ?_
  refine ⟨rfl, ?_, hbl⟩
  have e1 : Lib.byteCells (acc ++ (l.take y).drop x) = Lib.byteCells acc ++ Lib.strCells (t.extract x y) := by
    have e2 : Lib.strCells (t.extract x y) = Lib.byteCells (bs (t.extract x y)) := rfl
    rw [e2, bs_cut, Ht.out]
    simp [Lib.byteCells]
  rw [e1]
  exact hb2

set_option maxHeartbeats 1000000 in
theorem write_nodeC (C n : Nat) (ih : WriteOkC C n) (c cl cr b B : Nat) (l1 l2 acc : List UInt8) (h h1 h2 : Nat) (x y : Nat) (w0 w : World)
    (k : ∃ t a1 a2 a3 a4, Node w0 c (some ⟨cl, 0, none⟩) (some ⟨cr, 0, none⟩) t h a1 a2 a3 a4) (hn1 : h1 ≤ n) (hn2 : h2 ≤ n) (t1 : IsT w0 cl l1 h1) (t2 : IsT w0 cr l2 h2) (h0 : Below w0.heap.size w0 w) (hB0 : w0.heap.size ≤ B) (hB : B ≤ w.heap.size)
    (hbu : Roomy C B b (Lib.byteCells acc) w)
    (hxy : x < y) (hy : y ≤ (l1 ++ l2).length) (hs : (l1 ++ l2).length ≤ 1125899906842624) (hlen : acc.length + (y - x) ≤ C) :
    Calls Tryd.prog 24 #[.pointer (some ⟨b, 0, none⟩), .pointer (some ⟨c, 0, none⟩), .int .i64 x, .int .i64 y] w fun e w' => e = .returned (.tuple #[]) ∧ Roomy C B b (Lib.byteCells (acc ++ ((l1 ++ l2).take y).drop x)) w' ∧ Below B w w' := by
  obtain ⟨t, a1, a2, a3, a4, k⟩ := k
  obtain ⟨c0, c1, _⟩ := (k.below h0).facts
  obtain ⟨_, _, _, kl⟩ := (t1.below h0).any
  obtain ⟨_, _, _, _, d4, _⟩ := kl.facts
  have kc' := k.lt
  obtain ⟨m0, m1, _⟩ := k.facts
  have Hm := hide (And.intro m0 m1)
  clear m0 m1
  have hs' := hs
  have hy' := hy
  simp only [List.length_append] at hs' hy'
  have z0 : ¬ (y : Int) ≤ (x : Int) := by omega
  have z1 : (y : Int) ≤ 1125899906842624 := by omega
  have z2 : (l1.length : Int) ≤ 1125899906842624 := by omega
  have Hbu := hide hbu
  have HT := hide (And.intro t1 t2)
  clear hbu k kl t1 t2
  go_enter Tryd.func24, Tryd.ntmps24
  go_wp2_with fail
  refine (isLeaf_any c _ w c0).mono ?_
  rintro e w1 ⟨rfl, hw⟩
  rw [hw]
  clear hw w1
  go_wp2_with fail
  refine (ih cl l1 h1 w0 w B b acc (x : Int) (min (y : Int) (l1.length : Int)) hn1 HT.out.1 h0 hB0 hB Hbu.out (by omega) (by omega) (by omega) (by omega) (by omega) (by omega)).mono ?_
  rintro e w2 ⟨rfl, hb2, hbl2⟩
  have B2 : Below w0.heap.size w0 w2 := h0.trans (hbl2.mono hB0)
  have hB2 : B ≤ w2.heap.size := Nat.le_trans hB hbl2.size
  have e0 := kcb B2 kc' Hm.out.1
  have e1 := kcb B2 kc' Hm.out.2
  have Hb2 := hide hb2
  clear hb2 c0 c1 d4
  go_wp2_with fail
  refine (ih cr l2 h2 w0 w2 B b _ (max (x : Int) (l1.length : Int) - (l1.length : Int)) ((y : Int) - (l1.length : Int)) hn2 HT.out.2 B2 hB0 hB2 Hb2.out (by omega) (by omega) (by omega) (by omega) (by omega) ?_).mono ?_
  · simp only [List.length_append, List.length_drop, List.length_take]
    omega
  rintro e w3 ⟨rfl, hb3, hbl3⟩
  go_wp2_with fail
  refine bodyPost_end (results_none rfl _ _ _) rfl ⟨rfl, ?_, hbl2.trans hbl3⟩
  rw [cut_append, ← List.append_assoc]
  have q1 : (min (y : Int) (l1.length : Int)).toNat = min y l1.length := by omega
  have q2 : ((y : Int) - (l1.length : Int)).toNat = y - l1.length := by omega
  have q3 : (max (x : Int) (l1.length : Int) - (l1.length : Int)).toNat = max x l1.length - l1.length := by omega
  rw [q1, q2, q3, Int.toNat_natCast] at hb3
  exact hb3

theorem write_okC (C n : Nat) : WriteOkC C n := by
  have main : ∀ n, (∀ m, m < n → WriteOkC C m) → WriteOkC C n := by
    intro n ih c l h w0 w B b acc x y hn t h0 hB0 hB hbu hx hy hs hy2 hx2 hlen
    by_cases hxy : y ≤ x
    · refine (write_none b _ x y w hxy).mono ?_
      rintro e w1 ⟨rfl, rfl⟩
      refine ⟨rfl, ?_, Below.refl _ _⟩
      rw [List.drop_eq_nil_of_le (by rw [List.length_take]; omega), List.append_nil]
      exact hbu
    · obtain ⟨x, rfl⟩ := Int.eq_ofNat_of_zero_le hx
      obtain ⟨y, rfl⟩ := Int.eq_ofNat_of_zero_le (by omega : 0 ≤ y)
      rw [Int.toNat_natCast, Int.toNat_natCast]
      rcases t.cases with ⟨tt, k, e, _, _⟩ | ⟨cl, cr, l1, l2, h1, h2, k, rfl, _, hh, t1, t2⟩
      · exact write_leafC C c b B l acc tt _ _ _ _ x y w (k.below h0) e hbu hB (by omega) (by omega) hs (by omega)
      · cases n with
        | zero => omega
        | succ n => exact write_nodeC C n (ih n (by omega)) c cl cr b B l1 l2 acc h h1 h2 x y w0 w ⟨_, _, _, _, _, k⟩ (by omega) (by omega) t1 t2 h0 hB0 hB hbu (by omega) (by omega) hs (by omega)
  have all : ∀ n, ∀ m, m < n → WriteOkC C m := by
    intro n
    induction n with
    | zero => intro m hm; omega
    | succ n ih => intro m hm; exact main m (fun k hk => ih k (by omega))
  exact all (n + 1) n (by omega)
/-- A tree that may be nil is written. -/
theorem write_anyC (C : Nat) (v : Option Addr) (l : List UInt8) (w0 w : World) (B b : Nat) (x y : Nat) (t : OT w0 v l) (h0 : Below w0.heap.size w0 w) (hB0 : w0.heap.size ≤ B) (hB : B ≤ w.heap.size)
    (hbu : Roomy C B b [] w) (hxy : x ≤ y) (hy : y ≤ l.length) (hs : l.length ≤ 1125899906842624) (hlen : y - x ≤ C) :
    Calls Tryd.prog 24 #[.pointer (some ⟨b, 0, none⟩), .pointer v, .int .i64 x, .int .i64 y] w fun e w' => e = .returned (.tuple #[]) ∧ Roomy C B b (Lib.byteCells ((l.take y).drop x)) w' ∧ Below B w w' := by
  rcases t with ⟨rfl, rfl⟩ | ⟨c, h, rfl, t⟩
  · refine (write_none b none x y w (by simp at hy; omega)).mono ?_
    rintro e w1 ⟨rfl, rfl⟩
    exact ⟨rfl, by simpa [Lib.byteCells] using hbu, Below.refl _ _⟩
  · have := write_okC C h c l h w0 w B b [] (x : Int) (y : Int) (Nat.le_refl _) t h0 hB0 hB (by simpa [Lib.byteCells] using hbu) (by omega) (by omega) hs (by omega) (by omega) (by simp; omega)
    rw [Int.toNat_natCast, Int.toNat_natCast, List.nil_append] at this
    exact this

set_option maxHeartbeats 1000000 in
theorem text_big (r : Nat) (l : List UInt8) (x y : Nat) (w : World) (k : IsR w r l) (hxy : x ≤ y) (hy : y ≤ l.length) (hs : l.length ≤ 1125899906842624) (hlen : y - x ≤ 281474976710656) :
    Calls Tryd.prog 9 #[.pointer (some ⟨r, 0, none⟩), .int .i64 x, .int .i64 y] w fun e w' => e = .returned (.string ⟨((l.take y).drop x).toArray⟩) ∧ Below w.heap.size w w' := by
  have hc := has_any r l x y w k
  rw [show hasB l.length x y = true from by simp [hasB]; omega] at hc
  have Hc := hide hc
  have Hk := hide k
  clear hc k
  have z1 : (x : Int) ≤ (y : Int) := by omega
  have z2 : (y : Int) ≤ 1125899906842624 := by omega
  go_enter Tryd.func9, Tryd.ntmps9
  go_wp2_with fail
  refine (Hc.out).mono ?_
  rintro e w1 ⟨rfl, hb1⟩
  have K1 := (Hk.out).below hb1
  obtain ⟨v, hcell, t, hr⟩ := K1.cell
  have Ht := hide t
  clear t K1
  go_wp2_with fail
  rw [show (y : Int) - (x : Int) = ((y - x : Nat) : Int) from by omega]
  refine (Tryd.Builder_Grow_cap w1.heap.size w1.heap.size (y - x) _ (Nat.le_refl _) (World.heap_alloc_new' w1 _) (by simp) (by omega)).mono ?_
  rintro e w2 ⟨rfl, hbu, hb2⟩
  have B1 : Below w1.heap.size w1 w2 := ((Below.refl _ w1).alloc (Nat.le_refl _) _).trans hb2
  have hcell2 := kcb B1 hr hcell
  have hz2 : w1.heap.size ≤ w2.heap.size := B1.size
  have Hbu := hide hbu
  clear hcell hbu
  go_wp2_with fail
  refine (write_anyC (y - x) v l w1 w2 w1.heap.size w1.heap.size x y Ht.out B1 (Nat.le_refl _) hz2 (Hbu.out) hxy hy hs (Nat.le_refl _)).mono ?_
  rintro e w3 ⟨rfl, hbu3, hb3⟩
  have Hbu3 := hide hbu3
  clear hbu3
  go_wp2_with fail
  refine (Tryd.Builder_String_any w1.heap.size w1.heap.size _ w3 (Or.inr (Hbu3.out).1) (Nat.le_trans hz2 hb3.size)).mono ?_
  rintro e w4 ⟨rfl, hb4⟩
  go_wp2_with fail
  go_ret
  exact ⟨rfl, hb1.trans ((B1.trans (hb3.trans hb4)).mono hb1.size)⟩

end Go.Proofs.YtijikgghakhhaaaDoor
