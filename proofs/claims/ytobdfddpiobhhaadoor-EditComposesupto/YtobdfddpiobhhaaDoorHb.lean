/- An edit is undone. -/
import Derived.Test.YtobdfddpiobhhaaDoorPb
import Derived.Test.YtobdfddpiobhhaaDoorHa
namespace Go.Proofs.YtobdfddpiobhhaaDoor
open Go.RowKit
open EM
theorem ba_slice (s : ByteArray) (a b : Nat) : s.extract a b = ba (((bs s).take b).drop a) := bs_inj (by rw [bs_cut, bs_ba])
theorem mk_spans (n : Nat) (hn : n ≤ 1099511627776) (W : World) : ∃ A : Array Value, A.size = n * 3 ∧ (Instr.makeSlice 22 (.int .i64 0) (.int .i64 n)).run Tryd.prog W = .ok (.slice (some ⟨W.heap.size, 0, none⟩) 0 n) (W.alloc (.cells A 53)) := by
  obtain ⟨i, hi, z0, z1, z2⟩ := info_parts info53
  refine ⟨madeCells (Value.agg #[.int .i64 0, .int .i64 0, .string .empty]).cells (n * i.size), by rw [size_madeCells, z1], ?_⟩
  have := run_make (P := Tryd.prog) W 22 53 i _ Tryd.underlying22 hi z0 .i64 .i64 0 n (by omega) (by omega) (by rw [z2]; omega) (by omega)
  simpa using this
set_option maxHeartbeats 1000000 in
theorem invert_no (s : ByteArray) (v : Value) (L : List Rw) (w : World) (h : IsL w v L) (hf : flt s.size L ≠ 0) :
    Calls Tryd.prog 18 #[.string s, v] w fun e w' => e = .returned (.tuple #[.slice none 0 0, errV (flt s.size L)]) ∧ Below w.heap.size w w' := by
  have H := hide h
  have HF := hide (show errV (flt s.size L) = .iface 55 (.int .i64 (flt s.size L)) from if_neg hf)
  clear h
  go_enter Tryd.func18, Tryd.ntmps18
  go_wp2_with fail
  refine (fault_any s.size v L w H.out).mono ?_
  rintro e w1 ⟨rfl, hb1⟩
  rw [HF.out]
  go_wp2_with fail
  go_ret2
  exact ⟨by rw [HF.out]; rfl, hb1⟩
theorem owns_base {w : World} {base base' : Nat} {e : TypeId} {size : Nat} {v : Value} {n : Nat} {xs : List Value} (h : w.ownsRow base e size v n xs) (hb : base' ≤ base) : w.ownsRow base' e size v n xs := by
  refine ⟨h.1, ?_⟩
  rcases h.2 with h | ⟨g, cap, cur, e1, e2, r⟩
  · exact .inl h
  · exact .inr ⟨g, cap, cur, e1, Nat.le_trans hb e2, r⟩
theorem tot_inv (x : By) (a q n : Nat) (L : List Sp) (h : Ok a n L) : tot (inv x a q L) ≤ n - a := by
  induction L generalizing a q with
  | nil => simp [inv, tot]
  | cons c L ih =>
    have h1 := ih c.t (q + (c.f - a) + c.s.length) h.2.2
    have h2 := h.1
    have h3 := h.2.1
    have h4 := h.2.2.le
    have e : tot (inv x a q (c :: L)) = (((x.take c.t).drop c.f).length) + tot (inv x c.t (q + (c.f - a) + c.s.length) L) := by simp [inv, tot]
    rw [e, List.length_drop, List.length_take]
    omega
set_option maxRecDepth 100000 in
set_option maxHeartbeats 4000000 in
theorem invert_yes (s : ByteArray) (v : Value) (Ls : List Sp) (w : World) (h : IsL w v (Ls.map raw)) (hs : s.size ≤ 1048576) (ht : tot Ls ≤ 1048576) (hl : Ls.length ≤ 1048576) (hok : Ok 0 s.size Ls) :
    Calls Tryd.prog 18 #[.string s, v] w fun e w' => ∃ v' P, e = .returned (.tuple #[v', .nilIface]) ∧ w'.ownsRow w.heap.size 53 3 v' P.length ((P.map raw).flatMap Rw.vals) ∧ P = EM.plainOf (inv (bs s) 0 0 Ls) ∧ Below w.heap.size w w' := by
  have H := hide h
  have HF := hide (show errV (flt s.size (Ls.map raw)) = .nilIface by rw [flt_Ok hok]; rfl)
  have HOK := hide hok
  have hx := h
  obtain ⟨ao, cap, rfl, hc, hl', hcm, _⟩ := hx
  simp only [List.length_map] at hc hl' H ⊢
  clear h hok
  go_enter Tryd.func18, Tryd.ntmps18
  go_wp2_with fail
  refine (fault_any s.size _ _ w H.out).mono ?_
  rintro e w1 ⟨rfl, hb1⟩
  rw [HF.out]
  obtain ⟨A, hA, hmk⟩ := mk_spans Ls.length (by omega) w1
  have HR0 := hide (show (w1.alloc (.cells A 53)).ownsRow w.heap.size 53 3 (.slice (some ⟨w1.heap.size, 0, none⟩) 0 Ls.length) 0 [] from World.ownsRow_made w1 A Ls.length hb1.size (by unfold maxLen; omega) hA)
  have hB0 : Below w.heap.size w (w1.alloc (.cells A 53)) := hb1.alloc hb1.size _
  obtain ⟨i0, hi0, hz0, hz1, hz2⟩ := info_parts info53
  go_wp2_with fail
  go_loopw [7, 8, 24] (fun bk gr ix wr => ∃ (k a q : Nat) (D : List Sp), k ≤ Ls.length ∧ ix = .int .i64 k ∧ gr = .int .i64 ((q : Int) - (a : Int)) ∧ D.length = k ∧ a ≤ s.size ∧ q + tot (Ls.drop k) ≤ a + tot Ls ∧
      Hid (inv (bs s) 0 0 Ls = D ++ inv (bs s) a q (Ls.drop k)) ∧ Hid (Ok a s.size (Ls.drop k)) ∧ Hid (wr.ownsRow w.heap.size 53 3 bk k ((D.map raw).flatMap Rw.vals)) ∧ Below w.heap.size w wr) (fun _ _ ix _ => Ls.length - (intOf ix).toNat)
  case atStart => exact ⟨0, 0, 0, [], Nat.zero_le _, rfl, rfl, rfl, Nat.zero_le _, by simp, rfl, HOK.out, HR0.out, hB0⟩
  case round =>
    clear HR0 hB0 hmk
    obtain ⟨k, a, q, D, hk, rfl, rfl, hD, ha, hq, HI, HO, HR, hB⟩ := hrel
    by_cases hlt : k < Ls.length
    · obtain ⟨b, o, r, rfl, hr, q1, q2, q3, hbl⟩ := (H.out).get hB (show k < (Ls.map raw).length by simpa using hlt)
      obtain ⟨c, hcc, rfl⟩ := raw_get hr
      simp only [raw] at q1 q2 q3
      have hdr : Ls.drop k = c :: Ls.drop (k + 1) := by
        rw [List.drop_eq_getElem_cons hlt]
        rw [List.getElem?_eq_getElem hlt] at hcc
        cases hcc; rfl
      have hok := HO.out
      rw [hdr] at hok hq
      have hle := hok.2.2.le
      have ha1 := hok.1
      have ha2 := hok.2.1
      have e2 : tot (c :: Ls.drop (k + 1)) = c.s.length + tot (Ls.drop (k + 1)) := by simp [tot]
      rw [e2] at hq
      have HOK2 := hide hok.2.2
      have HI2 := hide (show inv (bs s) 0 0 Ls = (D ++ [⟨q + (c.f - a), q + (c.f - a) + c.s.length, ((bs s).take c.t).drop c.f⟩]) ++ inv (bs s) c.t (q + (c.f - a) + c.s.length) (Ls.drop (k + 1)) by rw [HI.out, hdr]; simp [inv])
      have hs1 := ba_size c.s
      have g1 : (c.f : Int) + ((q : Int) - (a : Int)) = ((q + (c.f - a) : Nat) : Int) := by omega
      have g2 : ((q + (c.f - a) : Nat) : Int) + (c.s.length : Int) = ((q + (c.f - a) + c.s.length : Nat) : Int) := by omega
      have g3 : (q : Int) - (a : Int) + ((c.s.length : Int) - ((c.t : Int) - (c.f : Int))) = ((q + (c.f - a) + c.s.length : Nat) : Int) - (c.t : Int) := by omega
      have HG := hide (And.intro g1 (And.intro g2 g3))
      have hown := HR.out
      have hsz := hB.size
      have hbn : u7.ownBlock ≠ some wr.heap.size := fun e => by have := (hown.lt _ e).2; omega
      have y1 : (k : Int) < (Ls.length : Int) := by omega
      have y2 : (0 : Int) ≤ (c.f : Int) := by omega
      have y3 : (c.f : Int) ≤ (c.t : Int) := by omega
      have y4 : (c.t : Int) ≤ (s.size : Int) := by omega
      have y5 : (q : Int) ≤ 1099511627776 := by omega
      have y6 : (a : Int) ≤ 1099511627776 := by omega
      have y7 : ((ba c.s).size : Int) ≤ 1099511627776 := by omega
      have y8 : (s.size : Int) ≤ 1099511627776 := by omega
      clear hr hcc hok e2 g1 g2 g3 HI HO HR hdr
      go_upto_region 10 with fail
      rw [(HG.out).1]
      obtain ⟨Q, eQ⟩ : ∃ x, q + (c.f - a) = x := ⟨_, rfl⟩
      have yQ : (Q : Int) ≤ 1099511627776 := by omega
      rw [eQ] at HG HI2 ⊢
      have hown5 := hown.alloc (.cells #[.int .i64 c.f, .int .i64 c.t, .string (ba c.s)] 53)
      have hblk := heap_alloc_new wr (.cells #[.int .i64 c.f, .int .i64 c.t, .string (ba c.s)] 53)
      have hB5 : Below w.heap.size w (wr.alloc (.cells #[.int .i64 c.f, .int .i64 c.t, .string (ba c.s)] 53)) := hB.alloc hsz _
      have hz5 := World.size_alloc wr (.cells #[.int .i64 c.f, .int .i64 c.t, .string (ba c.s)] 53)
      generalize wr.alloc (.cells #[.int .i64 c.f, .int .i64 c.t, .string (ba c.s)] 53) = W5 at hown5 hblk hB5 hz5 ⊢
      have x0 : W5.cell? ⟨wr.heap.size, 0, none⟩ = some (.int .i64 c.f) := by rw [Lib.cell_of_heap hblk]; rfl
      have x1 : W5.cell? ⟨wr.heap.size, 1, none⟩ = some (.int .i64 c.t) := by rw [Lib.cell_of_heap hblk]; rfl
      have x2 : W5.cell? ⟨wr.heap.size, 2, none⟩ = some (.string (ba c.s)) := by rw [Lib.cell_of_heap hblk]; rfl
      have hlt5 : wr.heap.size < W5.heap.size := by omega
      have HZ5 := hide hz5
      have y9 : (c.s.length : Int) ≤ 1099511627776 := by omega
      clear q1 q2 q3 hblk hz5
      go_region_held3 (fun w' => w'.cell? ⟨wr.heap.size, 0, none⟩ = some (.int .i64 c.f) ∧ w'.cell? ⟨wr.heap.size, 1, none⟩ = some (.int .i64 c.t) ∧ w'.cell? ⟨wr.heap.size, 2, none⟩ = some (.string (ba c.s)))
        (first
          | go_keep
          | (go_split_ands
             refine ⟨?_, ?_, ?_⟩
             · (rw [hgrow.cell_far _ (by simp; omega) (Ne.symm hbn)]; assumption)
             · (rw [hgrow.cell_far _ (by simp; omega) (Ne.symm hbn)]; assumption)
             · (rw [hgrow.cell_far _ (by simp; omega) (Ne.symm hbn)]; assumption)))
        ((refine step_append_lies _ (by rfl) _ _ _ (by rfl) w.heap.size 53 i0 _ 3 32 Tryd.underlying22 hi0 hz0 hz1 hz2 rfl (by omega) u7 k _ (by rfl) ((hown5.alloc _).drew) ⟨W5.heap.size, 0, none⟩ 1 1 [.int .i64 Q, .int .i64 (IntKind.i64.wrap ((Q : Int) + (c.s.length : Int))), .string (s.extract c.f c.t)] (by rfl) (by rfl) (World.news_of_block (cs := #[.int .i64 Q, .int .i64 (IntKind.i64.wrap ((Q : Int) + (c.s.length : Int))), .string (s.extract c.f c.t)]) (t := 53) (fr := (0, 0)) (heap_alloc_new W5 _)) (by simp [Value.oneCell']) (by omega) (by unfold maxLen; omega) (by omega) (by simp; omega) (W5.heap.size + 1) (by simp) ?_; intro gg cap' w6 hown6 hgrow hat hlt6))
      rename_i hHeld
      obtain ⟨m0, m1, m2⟩ := hHeld
      have hw6 := hgrow.size
      have HB6 := hide (((hB5.alloc (by have := HZ5.out; omega) _).drew).grown hgrow (by simp; have := HZ5.out; omega) (fun k hk => (hown.lt k hk).1))
      have HO6 := hide hown6
      clear hown6 hgrow hown5 hB5
      go_wp2_with fail
      refine ⟨⟨k + 1, c.t, Q + c.s.length, D ++ [⟨Q, Q + c.s.length, ((bs s).take c.t).drop c.f⟩], by omega, by go_num, by rw [(HG.out).2.2], by simp [hD], by omega, by omega, HI2, HOK2, ?_, HB6.out⟩, by simp [intOf]; omega⟩
      have := HO6.out
      have hwr : IntKind.i64.wrap ((Q : Int) + (c.s.length : Int)) = (Q : Int) + (c.s.length : Int) := by rw [IntKind.wrap_i64]; omega
      rw [ba_slice, hwr, (HG.out).2.1] at this
      show w6.ownsRow _ _ _ _ _ _
      rw [List.map_append, List.flatMap_append]
      exact this
    · have hkl : k = Ls.length := by omega
      have hdr : Ls.drop k = [] := List.drop_eq_nil_of_le (by omega)
      have hDD : inv (bs s) 0 0 Ls = D := by rw [HI.out, hdr]; simp [inv]
      have hokx := HO.out
      have hLx : IsL wr u7 (D.map raw) := IsL.ofOwns (e := 53) (base := w.heap.size) (by rw [List.length_map, hD]; exact HR.out) (by rw [List.length_map]; omega)
      have hinv := inv_undo (bs s) Ls (by rw [bs_len]; exact HOK.out)
      have hbl := (HR.out).lt
      have hlen := app_len (bs s) 0 Ls (by rw [bs_len]; exact HOK.out)
      have htD : tot D ≤ 1048576 := by rw [← hDD]; exact Nat.le_trans (tot_inv (bs s) 0 0 s.size Ls (HOK.out)) (by omega)
      have hlb := bs_len s
      rw [hDD] at hinv
      have HX := hide (And.intro hLx (And.intro hbl (And.intro hinv (And.intro hlen (And.intro htD (And.intro hDD hlb))))))
      clear hdr hDD hokx hLx hinv hbl hlen htD hlb
      go_wp2_with fail
      refine (plainOf_any u7 D wr (HX.out).1 (fun k hk => ((HX.out).2.1 k hk).2) _ (HX.out).2.2.1.1 (by have := (HX.out).2.2.2.1; have := (HX.out).2.2.2.2.2.2; omega) (by have := (HX.out).2.2.2.2.1; omega) (by omega)).mono ?_
      rintro e w7 ⟨v', rfl, hown7, hb7⟩
      have HO7 := hide hown7
      clear hown7
      go_wp2_with fail
      go_ret2
      refine ⟨_, EM.plainOf D, rfl, ?_, by rw [(HX.out).2.2.2.2.2.1], hB.trans (hb7.mono hB.size)⟩
      exact owns_base HO7.out hB.size
end Go.Proofs.YtobdfddpiobhhaaDoor
