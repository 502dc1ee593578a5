/- Package colour: Colours. -/
import Derived.Test.YtgjbafamiggafaaGreatDoorCzf
namespace Go.Proofs.YtgjbafamiggafaaGreatDoor
open Go.RowKit
open M
theorem nms_of {l : List AF} (hsh : Short l) (hlen : (X.allU (fsOf l)).length ≤ 1073741824) : Nms (X.allU (fsOf l)) := by
  have hr : ∀ f, f < (fsOf l).length → ∃ ps, X.Rdf ps 0 (X.itemsOf (fsOf l) f) := fun f _ => its_rdf f
  have hb : ∀ u ∈ X.allU (fsOf l), u.i < 20001 := X.allU_bd (fun f hf => by
    rw [fsOf_len] at hf
    rw [fsOf_get (List.getElem?_eq_getElem hf)]
    have := (short_pz (x := bs l[f].t) (by rw [bs_len]; exact hsh _ (List.getElem_mem hf))).1
    exact ⟨_, X.itsT_rdf _, by omega⟩)
  refine ⟨X.allU_sorted hr, hlen, X.allU_kind, fun u hu h0 => ?_⟩
  obtain ⟨h1, h2⟩ := X.allU_stands hr u hu h0
  refine ⟨?_, fun v hv e1 e2 => (h2 v hv e1 e2).2.2⟩
  obtain ⟨v, hv⟩ := List.exists_mem_of_length_pos (by rw [h1]; exact Nat.one_pos : 0 < ((X.allU (fsOf l)).filter (fun v => decide ((v.f : Int) = u.tf ∧ (v.i : Int) = u.tt))).length)
  have hv1 := List.mem_filter.1 hv
  have := hb v hv1.1
  have := hv1.2
  simp at this
  omega
theorem usl_of {w : World} {base : Nat} {nv : Value} {us : List X.U} (h : w.ownsRow base 31 6 nv us.length (uvs us)) : ∃ ao cap, nv = .slice ao us.length cap ∧ us.length ≤ cap ∧ IsUs w w.heap.size ao us := by
  rcases h.2 with ⟨e, h0⟩ | ⟨g, cap, cur, e, -, -, hn, -, -, -⟩
  · refine ⟨none, 0, by rw [h0]; exact e, by omega, fun j u hj => ?_⟩
    have : us = [] := List.eq_nil_of_length_eq_zero h0
    rw [this] at hj; cases hj
  · refine ⟨some ⟨g, 0, none⟩, cap, e, hn, fun j u hj => ?_⟩
    obtain ⟨g', cap', e', -, -, hl, c0, c1, c2, c3, c4, c5⟩ := use_cells h hj
    rw [e] at e'
    cases e'
    exact ⟨g, 0, rfl, hl, by rw [Nat.zero_add]; exact c0, by rw [Nat.zero_add]; exact c1, by rw [Nat.zero_add]; exact c2, by rw [Nat.zero_add]; exact c3, by rw [Nat.zero_add]; exact c4, by rw [Nat.zero_add]; exact c5⟩
variable {us : List X.U} {ao : Option Addr} {cap : Nat} {fi : Int} {pb B hl hu ll lu : Nat} {cs : List Co} {w w' : World}
theorem ctoken_any (kd at_ ln : Nat) (s : ByteArray) (hkd : kd < 9) (hat : at_ ≤ 4294967296) (h : PtB us ao cap fi pb B hl hu ll lu cs w) (hTk : Go.Proofs.YtgjbafamiggafaaGreatDoor.Tk w) (hU : IsUs w pb ao us) (hN : Nms us) (hc : us.length ≤ cap) (hhl : hl ≤ 4294967296) (hhu : hu ≤ 4294967296) (hll : ll ≤ 4294967296) (hlu : lu ≤ 4294967296) (hs : s.size ≤ 1073741824) (hcs : cs.length ≤ 1073741824) :
    Calls Tryz.prog 15 #[.pointer (some ⟨pb, 0, none⟩), .agg #[.int .i64 kd, .int .i64 at_, .int .i64 ln], .string s] w fun e w' => e = .returned (.tuple #[]) ∧ Hid (TRes us ao cap fi pb B hl hu ll lu kd s.size cs w w') := by
  by_cases h1 : kd = 1
  · exact token_space kd at_ ln s h1 h hhl hhu hs
  · exact token_told kd at_ ln s h1 hkd hat h hTk hU hN hc hhl hhu hll hlu hs hcs
/-- While the tokens are gone through. -/
structure InC (us : List X.U) (ao : Option Addr) (cap : Nat) (fi : Int) (pb B : Nat) (w2 : World) (l : List UInt8) (L : List M.Tk) (j : Nat) (wr : World) : Prop where
  ex : ∃ (hl hu ll lu a : Nat) (cs : List Co), PtB us ao cap fi pb B hl hu ll lu cs wr ∧ a ≤ l.length ∧ L.drop j = toks a (l.drop a) ∧ hl ≤ a ∧ hu ≤ 2 * a ∧ ll ≤ a ∧ lu ≤ 2 * a ∧ cs.length ≤ j ∧ (us = [] → (∀ t ∈ L, t.kind = 3) → cs.length = j ∧ ∀ c ∈ cs, c.2.2.2 = 13)
  kf : Kf pb B w2 wr
theorem InC.step {w2 : World} {l : List UInt8} {L : List M.Tk} {j : Nat} {wr w4 : World} {t : M.Tk} {k a : Nat} (ht : L[j]? = some t) (hk : k = t.len) (ha : a ≤ l.length) (hd : L.drop j = toks a (l.drop a)) (hx : TRes us ao cap fi pb B hl hu ll lu t.kind k cs wr w4) (hf : Kf pb B w2 wr) (h1 : hl ≤ a) (h2 : hu ≤ 2 * a) (h3 : ll ≤ a) (h4 : lu ≤ 2 * a) (h5 : cs.length ≤ j) (h6 : us = [] → (∀ t ∈ L, t.kind = 3) → cs.length = j ∧ ∀ c ∈ cs, c.2.2.2 = 13) : InC us ao cap fi pb B w2 l L (j + 1) w4 := by
  obtain ⟨x, y, x2, y2, cs2, hp, hkf, hx1, hy1, hl2, hcl, h13⟩ := hx
  obtain ⟨-, -, -, -, -, -, -, q1, q2⟩ := tile_next hd ha ht
  refine ⟨⟨x, y, x2, y2, a + t.len, cs ++ cs2, hp, q1, q2, by omega, by omega, by omega, by omega, by rw [List.length_append]; omega, fun e1 e2 => ?_⟩, hf.trans hkf⟩
  obtain ⟨b1, b2⟩ := h6 e1 e2
  obtain ⟨u, v, z, rfl⟩ := h13 e1 (e2 t (List.mem_of_getElem? ht))
  refine ⟨by rw [List.length_append, b1]; rfl, fun c hc => ?_⟩
  rcases List.mem_append.1 hc with g | g
  · exact b2 c g
  · rw [List.mem_singleton.1 g]
/-- The cells of a token. -/
theorem tk_cells {w : World} {base : Nat} {v : Value} {L : List M.Tk} (h : w.ownsRow base 55 3 v L.length (L.flatMap tkv)) : ∃ ta tc, v = .slice ta L.length tc ∧ L.length ≤ tc ∧ ∀ (j : Nat) (t : M.Tk), L[j]? = some t → ∃ g, ta = some ⟨g, 0, none⟩ ∧ base ≤ g ∧ g < w.heap.size ∧ w.cell? ⟨g, j * 3, none⟩ = some (.int .i64 t.kind) ∧ w.cell? ⟨g, j * 3 + 1, none⟩ = some (.int .i64 t.pos) ∧ w.cell? ⟨g, j * 3 + 2, none⟩ = some (.int .i64 t.len) := by
  have hget : ∀ (L : List M.Tk) (j : Nat) (t : M.Tk), L[j]? = some t → ∀ k, k < 3 → (L.flatMap tkv)[j * 3 + k]? = (tkv t)[k]? := by
    intro L
    induction L with
    | nil => intro j t h; simp at h
    | cons a L ih =>
      intro j t h k hk
      rw [List.flatMap_cons]
      cases j with
      | zero =>
        simp at h
        subst h
        rw [List.getElem?_append_left (by show 0 * 3 + k < 3; omega), Nat.zero_mul, Nat.zero_add]
      | succ j =>
        rw [List.getElem?_append_right (by show 3 ≤ (j + 1) * 3 + k; omega)]
        have : (j + 1) * 3 + k - (tkv a).length = j * 3 + k := by show (j + 1) * 3 + k - 3 = _; omega
        rw [this]
        exact ih j t (by simpa using h) k hk
  rcases h.2 with ⟨e, h0⟩ | ⟨g, tc, cur, e, hge, hgg, hn, -, -, -⟩
  · refine ⟨none, 0, by rw [h0]; exact e, by omega, fun j t hj => ?_⟩
    have : L = [] := List.eq_nil_of_length_eq_zero h0
    rw [this] at hj; cases hj
  · refine ⟨some ⟨g, 0, none⟩, tc, e, hn, fun j t hj => ⟨g, rfl, hge, heap_lt hgg, ?_⟩⟩
    have hjl : j < L.length := by
      rcases Nat.lt_or_ge j L.length with q | q
      · exact q
      · rw [List.getElem?_eq_none q] at hj; cases hj
    subst e
    have hc : ∀ k, k < 3 → w.cell? ⟨g, j * 3 + k, none⟩ = (tkv t)[k]? := fun k hk => (h.cellAt (j * 3 + k) (by omega)).trans (hget L j t hj k hk)
    exact ⟨hc 0 (by omega), hc 1 (by omega), hc 2 (by omega)⟩
end Go.Proofs.YtgjbafamiggafaaGreatDoor
/- Package colour: Colours. -/
namespace Go.Proofs.YtgjbafamiggafaaGreatDoor
open Go.RowKit
open M
/-- What Colours gives: an error, or a row of colours. -/
def CRes (l : List AF) (fi : Int) (w : World) (e : Ending) (w' : World) : Prop :=
  (∃ r : Nat, e = .returned (.tuple #[.slice none 0 0, .iface 29 (.int .i64 r)]) ∧ Below w.heap.size w w' ∧ (fltF l = 0 → fi < 0 ∨ (l.length : Int) ≤ fi)) ∨
  (∃ nv cs, e = .returned (.tuple #[nv, .nilIface]) ∧ Hid (Below w.heap.size w w' ∧ w'.ownsRow w.heap.size 42 4 nv cs.length (covs cs) ∧ cs.length ≤ 20000 ∧ fltF l = 0 ∧ ∃ (i : Nat) (a : AF), fi = i ∧ l[i]? = some a ∧ (X.allU (fsOf l) = [] → (∀ t ∈ toks 0 (bs a.t), t.kind = 3) → cs.length = (toks 0 (bs a.t)).length ∧ ∀ c ∈ cs, c.2.2.2 = 13)))
set_option maxRecDepth 100000 in
set_option maxHeartbeats 16000000 in
theorem colours_any (ao : Option Addr) (cap : Nat) (l : List AF) (fi : Int) (w : World) (hT : Tabs w) (hTk : Go.Proofs.YtgjbafamiggafaaGreatDoor.Tk w) (h : IsAF w w.heap.size ao l) (hl : l.length ≤ cap) (hc : cap ≤ maxLen) :
    Calls Tryz.prog 8 #[.slice ao l.length cap, .int .i64 fi] w fun e w' => CRes l fi w e w' := by
  by_cases hf : fltF l = 0
  · have HR := hide (resolve_yes ao cap l w hT h hl hc hf)
    obtain ⟨hn16, hsh, -, -⟩ := fltF_ok hf
    by_cases hneg : fi < 0
    · have HG : Hid (fltF l = 0 → fi < 0 ∨ (l.length : Int) ≤ fi) := fun _ => .inl hneg
      clear h hT hTk hf
      go_enter Tryz.func8, Tryz.ntmps8
      go_wp2_with fail
      refine (HR.out).mono ?_
      rintro e w1 ⟨nv, rfl, X1⟩
      obtain ⟨na, nc, rfl, -⟩ := usl_of (X1.out).2.1
      have HF := hide (X1.out).1
      clear HR X1
      go_wp2_with fail
      go_ret2
      exact .inl ⟨1, rfl, HF.out, HG.out⟩
    · by_cases hbig : (l.length : Int) ≤ fi
      · have HG : Hid (fltF l = 0 → fi < 0 ∨ (l.length : Int) ≤ fi) := fun _ => .inr hbig
        clear h hT hTk hf
        go_enter Tryz.func8, Tryz.ntmps8
        go_wp2_with fail
        refine (HR.out).mono ?_
        rintro e w1 ⟨nv, rfl, X1⟩
        obtain ⟨na, nc, rfl, -⟩ := usl_of (X1.out).2.1
        have HF := hide (X1.out).1
        clear HR X1
        go_wp2_with fail
        go_ret2
        exact .inl ⟨1, rfl, HF.out, HG.out⟩
      · obtain ⟨i, rfl⟩ : ∃ i : Nat, fi = i := ⟨fi.toNat, by omega⟩
        have hil : i < l.length := by omega
        have hi1 : (i : Int) < (l.length : Int) := by omega
        obtain ⟨a, ha⟩ : ∃ a, l[i]? = some a := ⟨l[i], List.getElem?_eq_getElem hil⟩
        have hts : a.t.size ≤ 20000 := hsh a (List.mem_of_getElem? ha)
        have HT := hide hT
        have HTk := hide hTk
        have HL := hide h
        have HSH := hide hsh
        have HFL := hide hf
        have HHA := hide ha
        clear h hT hTk hf hsh ha
        go_enter Tryz.func8, Tryz.ntmps8
        go_wp2_with fail
        refine (HR.out).mono ?_
        rintro e w1 ⟨nv, rfl, X1⟩
        obtain ⟨na, nc, rfl, hnc, hU1⟩ := usl_of (X1.out).2.1
        have hb1 := (X1.out).1
        have hN := nms_of HSH.out (X1.out).2.2
        obtain ⟨b, o, e1, e2, e3, e4⟩ := (HL.out).below hb1 i a HHA.out
        subst e1
        have hbl : b < w1.heap.size := Nat.lt_of_lt_of_le e2 hb1.size
        generalize hus : X.allU (fsOf l) = us at *
        have HUS := hide hus
        clear hus HR X1 HL
        have kA : Below w1.heap.size w1 (w1.alloc (.cells #[.slice na us.length nc, .int .i64 (i : Nat), .int .i64 0, .int .i64 0, .int .i64 0, .int .i64 0, .slice none 0 0] 51)) := (Below.refl _ w1).alloc (Nat.le_refl _) _
        have hA := heap_alloc_new w1 (.cells #[.slice na us.length nc, .int .i64 (i : Nat), .int .i64 0, .int .i64 0, .int .i64 0, .int .i64 0, .slice none 0 0] 51)
        have f4 := kcb kA hbl e4
        have hbA : Below w.heap.size w (w1.alloc (.cells #[.slice na us.length nc, .int .i64 (i : Nat), .int .i64 0, .int .i64 0, .int .i64 0, .int .i64 0, .slice none 0 0] 51)) := hb1.trans (kA.mono hb1.size)
        have HTo := hide (tokens_any a.t _ ((HT.out).below hbA) (by omega))
        have HU := hide hU1
        have HN := hide hN
        have HA := hide hA
        have HBA := hide hbA
        have hpw : w.heap.size ≤ w1.heap.size := hb1.size
        have HKA := hide kA
        clear kA hA hbA hb1 hU1 hN
        go_wp2_with fail
        generalize w1.alloc (.cells #[.slice na us.length nc, .int .i64 (i : Nat), .int .i64 0, .int .i64 0, .int .i64 0, .int .i64 0, .slice none 0 0] 51) = W at *
        refine (HTo.out).mono ?_
        rintro e w2 ⟨tv, rfl, o2, B2⟩
        obtain ⟨ta, tc, rfl, htc, htk⟩ := tk_cells o2
        have hB : W.heap.size ≤ w2.heap.size := B2.size
        have hpW : w1.heap.size < W.heap.size := heap_lt HA.out
        have hk12 : Below w1.heap.size w1 w2 := (HKA.out).trans (B2.mono (HKA.out).size)
        have hk02 : Below w.heap.size w w2 := (HBA.out).trans (B2.mono (HBA.out).size)
        have HU2 := hide ((HU.out).below hk12)
        have HTk2 := hide ((HTk.out).below hk02 (HTk.out).sz)
        have HB02 := hide hk02
        have hz := (HTk.out).sz
        have hLl : (toks 0 (bs a.t)).length ≤ 20000 := by
          have := toks_len _ 0 (bs a.t) (Nat.le_refl _)
          rw [bs_len] at this
          omega
        have HI0 : Hid (InC us na nc (i : Nat) w1.heap.size w2.heap.size w2 (bs a.t) (toks 0 (bs a.t)) 0 w2) := ⟨⟨0, 0, 0, 0, 0, [], ⟨⟨_, (Kp.ofBelow B2 (fun _ => False)).heap HA.out id, World.ownsRow_nil _ _ _ _⟩, by omega, Nat.le_refl _⟩, Nat.zero_le _, by rw [List.drop_zero, List.drop_zero], Nat.le_refl _, Nat.le_refl _, Nat.le_refl _, Nat.le_refl _, Nat.le_refl _, fun _ _ => ⟨rfl, fun c hc => by cases hc⟩⟩, Kp.refl _ _⟩
        have HTC := hide htk
        clear htk o2 B2 hk12 hk02 HTo HU HTk HA HKA HBA f4 e3 e4
        generalize hL : toks 0 (bs a.t) = L at *
        have HLE := hide hL
        clear hL
        go_wp2_with fail
        go_loopw [40] (fun v wr => ∃ j : Nat, v = .int .i64 j ∧ j ≤ L.length ∧ Hid (InC us na nc (i : Nat) w1.heap.size w2.heap.size w2 (bs a.t) L j wr)) (fun v _ => L.length - (intOf v).toNat)
        case atStart => exact ⟨0, rfl, Nat.zero_le _, HI0⟩
        case round =>
          obtain ⟨j, rfl, hj, HI⟩ := hrel
          clear HI0
          by_cases hjl : j < L.length
          · obtain ⟨t, ht⟩ : ∃ t, L[j]? = some t := ⟨L[j], List.getElem?_eq_getElem hjl⟩
            obtain ⟨⟨hl', hu', ll', lu', p, cs, hp, hpl, hd, b1, b2, b3, b4, b5, b6⟩, hkf⟩ := HI.out
            obtain ⟨t1, -, -, -, t4, t5, t6, t7, -⟩ := tile_next hd hpl ht
            rw [bs_len] at hpl t7
            obtain ⟨g, e1, g1, g2, c0, c1, c2⟩ := (HTC.out) j t ht
            subst e1
            have hj1 : (j : Int) < (L.length : Int) := by omega
            have hg : ¬ (g = w1.heap.size ∨ (w2.heap.size ≤ g ∧ ColB w2 g)) := fun e => by rcases e with e | e; omega; have := e.1; omega
            have d0 := Kp.cellv hkf c0 hg
            have d1 := Kp.cellv hkf c1 hg
            have d2 := Kp.cellv hkf c2 hg
            have kB : Below wr.heap.size wr (wr.alloc (.cells #[.int .i64 t.kind, .int .i64 t.pos, .int .i64 t.len] 55)) := (Below.refl _ wr).alloc (Nat.le_refl _) _
            have hb := heap_alloc_new wr (.cells #[.int .i64 t.kind, .int .i64 t.pos, .int .i64 t.len] 55)
            have x0 : (wr.alloc (.cells #[.int .i64 t.kind, .int .i64 t.pos, .int .i64 t.len] 55)).cell? ⟨wr.heap.size, 0, none⟩ = some (.int .i64 t.kind) := cell_of_row _ _ 0 _ _ _ hb
            have x1 : (wr.alloc (.cells #[.int .i64 t.kind, .int .i64 t.pos, .int .i64 t.len] 55)).cell? ⟨wr.heap.size, 1, none⟩ = some (.int .i64 t.pos) := cell_of_row _ _ 1 _ _ _ hb
            have x2 : (wr.alloc (.cells #[.int .i64 t.kind, .int .i64 t.pos, .int .i64 t.len] 55)).cell? ⟨wr.heap.size, 2, none⟩ = some (.int .i64 t.len) := cell_of_row _ _ 2 _ _ _ hb
            have hlow : Below w1.heap.size w2 (wr.alloc (.cells #[.int .i64 t.kind, .int .i64 t.pos, .int .i64 t.len] 55)).drew := Kf.low (hkf.trans (Kf.ofBelow kB.drew)) (by omega) (by omega)
            have HCt : Hid (∀ s : ByteArray, s.size = t.len → Calls Tryz.prog 15 #[.pointer (some ⟨w1.heap.size, 0, none⟩), .agg #[.int .i64 t.kind, .int .i64 t.pos, .int .i64 t.len], .string s] (wr.alloc (.cells #[.int .i64 t.kind, .int .i64 t.pos, .int .i64 t.len] 55)).drew fun e w' => e = .returned (.tuple #[]) ∧ Hid (InC us na nc (i : Nat) w1.heap.size w2.heap.size w2 (bs a.t) L (j + 1) w' ∧ w'.heap[wr.heap.size]? = some (.cells #[.int .i64 t.kind, .int .i64 t.pos, .int .i64 t.len] 55 (0, 0)))) := fun s hs => by
              refine (ctoken_any t.kind t.pos t.len s (by omega) (by omega) (hp.blw kB.drew) ((HTk2.out).below hlow (by omega)) ((HU2.out).below hlow) HN.out hnc (by omega) (by omega) (by omega) (by omega) (by omega) (by omega)).mono ?_
              rintro e w4 ⟨rfl, X4⟩
              refine ⟨rfl, InC.step ht hs (by rw [bs_len]; exact hpl) hd X4.out (hkf.trans (Kf.ofBelow kB.drew)) b1 b2 b3 b4 b5 b6, ?_⟩
              obtain ⟨-, -, -, -, -, -, hkk, -⟩ := X4.out
              have hwz : w2.heap.size ≤ wr.heap.size := hp.le
              refine Kp.heap hkk (w := (wr.alloc (.cells #[.int .i64 t.kind, .int .i64 t.pos, .int .i64 t.len] 55)).drew) hb (fun e => ?_)
              rcases e with e | ⟨-, c, f, e⟩
              · omega
              · rw [show (wr.alloc (.cells #[.int .i64 t.kind, .int .i64 t.pos, .int .i64 t.len] 55)).drew.heap[wr.heap.size]? = _ from hb] at e
                cases e
            have s1 : (t.pos : Int) + (t.len : Int) ≤ 9223372036854775807 := by omega
            have s2 : t.pos + t.len ≤ a.t.size := by omega
            have s3 : (t.pos : Int) ≤ (t.pos : Int) + (t.len : Int) := by omega
            have s4 : (t.pos : Int) + (t.len : Int) ≤ (a.t.size : Int) := by omega
            have hw : IntKind.i64.wrap ((t.pos : Int) + (t.len : Int)) = ((t.pos + t.len : Nat) : Int) := wrapN (by omega)
            clear HI hp hd hkf kB hb hlow c0 c1 c2 b1 b2 b3 b4 b5 b6 t1
            go_upto_region 11 with fail
            generalize wr.alloc (.cells #[.int .i64 t.kind, .int .i64 t.pos, .int .i64 t.len] 55) = Wb at *
            clear d0 d1 d2
            go_wp2_with fail
            refine wpTo_start (S := fun w' => w'.cell? ⟨wr.heap.size, 0, none⟩ = some (.int .i64 t.kind) ∧ w'.cell? ⟨wr.heap.size, 1, none⟩ = some (.int .i64 t.pos) ∧ w'.cell? ⟨wr.heap.size, 2, none⟩ = some (.int .i64 t.len)) (z := 11) (by kernel_rfl) ?_
            have hS : Wb.drew.cell? ⟨wr.heap.size, 0, none⟩ = some (.int .i64 t.kind) ∧ Wb.drew.cell? ⟨wr.heap.size, 1, none⟩ = some (.int .i64 t.pos) ∧ Wb.drew.cell? ⟨wr.heap.size, 2, none⟩ = some (.int .i64 t.len) := ⟨x0, x1, x2⟩
            iterate 10 (refine wpTo_nx (v := ?_) rfl rfl (by kernel_rfl) (by decide) (by kernel_rfl) (by kernel_rfl) (fun _ _ _ h => h) (Or.inl ⟨by rfl, ?_⟩) hS ?_; rotate_left; (· (intro wx hSw; (try dsimp only at hSw); go_simp; try (with_reducible rfl))); simp only [Act.put, List.setIfInBounds_toArray, List.set_cons_zero, List.set_cons_succ])
            refine wpTo_one (i := 10) (by kernel_rfl) rfl (fun K hK => ?_)
            go_simp
            refine ((HCt.out) _ (by rw [ByteArray.size_extract]; omega)).mono ?_
            rintro e w4 ⟨rfl, X4⟩
            have hb4 := (X4.out).2
            have HI4 := hide (X4.out).1
            dsimp only
            refine hK.out _ _ (fun _ => ⟨cell_of_row w4 _ 0 _ _ _ hb4, cell_of_row w4 _ 1 _ _ _ hb4, cell_of_row w4 _ 2 _ _ _ hb4⟩) (fun _ => wpTo_end (by kernel_rfl) ?_)
            clear hK K hS X4 hb4 HCt x0 x1 x2
            go_wp2_with fail
            exact ⟨⟨j + 1, by simp, by omega, HI4⟩, by simp [intOf]; omega⟩
          · obtain rfl : j = L.length := by omega
            have hd1 : ¬ (L.length : Int) < (L.length : Int) := by omega
            obtain ⟨⟨hl', hu', ll', lu', p, cs, hp, hpl, hd, b1, b2, b3, b4, b5, b6⟩, hkf⟩ := HI.out
            obtain ⟨av, hb, ho⟩ := hp.blk
            have c6 : wr.cell? ⟨w1.heap.size, 6, none⟩ = some av := cell_of_row wr _ 6 _ _ _ hb
            obtain ⟨va, vn, vc, rfl⟩ : ∃ va vn vc, av = .slice va vn vc := by
              rcases ho.2 with ⟨e, -⟩ | ⟨g', cap', cur, e, -⟩
              · exact ⟨_, _, _, e⟩
              · exact ⟨_, _, _, e⟩
            have hws : w.heap.size ≤ w2.heap.size := (HB02.out).size
            have HF : Hid (Below w.heap.size w wr ∧ wr.ownsRow w.heap.size 42 4 (.slice va vn vc) cs.length (covs cs) ∧ cs.length ≤ 20000 ∧ fltF l = 0 ∧ ∃ (i2 : Nat) (a : AF), (i : Int) = i2 ∧ l[i2]? = some a ∧ (X.allU (fsOf l) = [] → (∀ t ∈ toks 0 (bs a.t), t.kind = 3) → cs.length = (toks 0 (bs a.t)).length ∧ ∀ c ∈ cs, c.2.2.2 = 13)) := by
              refine ⟨(HB02.out).trans (Kp.below hkf hws (fun q e => by rcases e with e | e; omega; have := e.1; omega)), ⟨ho.1, ?_⟩, by omega, HFL.out, i, a, rfl, HHA.out, fun e1 e2 => ?_⟩
              · rcases ho.2 with hh | ⟨g', cap', cur, e, e2, r⟩
                · exact .inl hh
                · exact .inr ⟨g', cap', cur, e, Nat.le_trans hws e2, r⟩
              · rw [HLE.out] at e2 ⊢
                rw [HUS.out] at e1
                exact b6 e1 e2
            clear HI hp hd hkf hb ho b1 b2 b3 b4 b5 b6
            go_wp2_with fail
            go_ret2
            exact .inr ⟨_, cs, rfl, HF⟩
  · have HR := hide (resolve_no ao cap l w hT h hl hc hf)
    have HG : Hid (fltF l = 0 → fi < 0 ∨ (l.length : Int) ≤ fi) := fun e => absurd e hf
    clear h hT hTk hf
    go_enter Tryz.func8, Tryz.ntmps8
    go_wp2_with fail
    refine (HR.out).mono ?_
    rintro e w1 ⟨rfl, B1⟩
    have HF := hide B1
    clear HR B1
    go_wp2_with fail
    go_ret2
    exact .inl ⟨_, rfl, HF.out, HG.out⟩
end Go.Proofs.YtgjbafamiggafaaGreatDoor
/- The law ColourBack: a closed fact, one file whose text is x. -/
namespace Go.Proofs.YtgjbafamiggafaaGreatDoor
open Go.RowKit
open M
namespace X
theorem fileX : fileL (xt [120]) = [.br 5 [.leaf 3 [120]]] := by kernel_rfl
theorem rdfX {its : List It} (h : Rdf (fileL (xt [120])) 0 its) : its = [] := by
  rw [fileX] at h
  cases h with
  | leaves _ _ h => rfl
  | junk qs ps i its hq h =>
    cases h with
    | leaves _ _ h => rfl
  | item p ps i it its hp h => cases hp
end X
def lx : List AF := [⟨⟨#[97]⟩, ⟨#[120]⟩⟩]
theorem fltX : fltF lx = 0 := by
  have h1 : nmOk ⟨#[97]⟩ = true := by
    unfold nmOk aloneB
    have : M.tok (bs ⟨#[97]⟩) = (3, (bs ⟨#[97]⟩).length) := by kernel_rfl
    rw [decide_eq_true (show (⟨#[97]⟩ : ByteArray).size ≤ 40 by decide), Bool.true_and]
    exact decide_eq_true ⟨by decide, this⟩
  unfold fltF lx
  rw [if_neg (by decide), if_neg (by decide), fltN, if_pos h1, if_neg (by simp), fltN]
theorem allX : X.allU (fsOf lx) = [] := by
  have h1 : X.itemsOf (fsOf lx) 0 = [] := by
    rw [fsOf_get (l := lx) (a := ⟨⟨#[97]⟩, ⟨#[120]⟩⟩) rfl]
    exact X.rdfX (X.itsT_rdf _)
  have e1 : (fsOf lx).length = 1 := fsOf_len lx
  unfold X.allU
  rw [e1]
  show X.itsU _ 0 0 (X.itemsOf (fsOf lx) 0) ++ [] = []
  rw [h1, X.itsU]
  rfl
theorem toksX : toks 0 (bs ⟨#[120]⟩) = [⟨3, 0, 1⟩] := by kernel_rfl
set_option maxRecDepth 100000 in
set_option maxHeartbeats 4000000 in
theorem lives2_any (w : World) (hT : Tabs w) (hTk : Go.Proofs.YtgjbafamiggafaaGreatDoor.Tk w) : Calls Tryz.prog 7 #[] w fun e w' => e = .returned (.bool true) ∧ Below w.heap.size w w' := by
  have kA : Below w.heap.size w (w.alloc (.cells #[.string ⟨#[97]⟩, .string ⟨#[120]⟩] 37)) := (Below.refl _ w).alloc (Nat.le_refl _) _
  have hR := colours_any (some ⟨w.heap.size, 0, none⟩) 1 lx 0 (w.alloc (.cells #[.string ⟨#[97]⟩, .string ⟨#[120]⟩] 37)) (hT.below kA) (hTk.below kA hTk.sz) (IsAF.one _ _) (Nat.le_refl _) (by unfold maxLen; omega)
  have HR : Hid (Calls Tryz.prog 8 #[.slice (some ⟨w.heap.size, 0, none⟩) 1 1, .int .i64 0] (w.alloc (.cells #[.string ⟨#[97]⟩, .string ⟨#[120]⟩] 37)) _) := hide hR
  have HKA := hide kA
  clear hR kA hT hTk
  go_enter Tryz.func7, Tryz.ntmps7
  go_wp2_with fail
  refine (HR.out).mono ?_
  rintro e w2 X2
  rcases X2 with ⟨r, rfl, B2, hg⟩ | ⟨nv, cs, rfl, X2⟩
  · exfalso
    rcases hg fltX with g | g
    · omega
    · have : (lx.length : Int) = 1 := rfl
      omega
  · obtain ⟨B2, ho, -, -, i, a, hi, ha, hx⟩ := X2.out
    obtain rfl : i = 0 := by omega
    obtain rfl : (⟨⟨#[97]⟩, ⟨#[120]⟩⟩ : AF) = a := Option.some.inj ha
    rw [toksX] at hx
    obtain ⟨hl1, h13⟩ := hx allX (fun t ht => by rw [List.mem_singleton.1 ht])
    obtain ⟨c, rfl⟩ : ∃ c, cs = [c] := by
      match cs, hl1 with
      | [c], _ => exact ⟨c, rfl⟩
    have hk := h13 c (by simp)
    obtain ⟨g, cap, rfl, -, -⟩ := ho.form (by simp)
    have c4 : w2.cell? ⟨g, 3, none⟩ = some (.int .i64 13) := by rw [← hk]; exact (ho.cellAt 3 (by simp)).trans rfl
    have HF : Hid (Below w.heap.size w w2) := (HKA.out).trans (B2.mono (HKA.out).size)
    clear X2 B2 ho HR HKA hx h13 hk hl1 ha hi
    go_wp2_with fail
    go_ret
    exact ⟨rfl, HF.out⟩
end Go.Proofs.YtgjbafamiggafaaGreatDoor
