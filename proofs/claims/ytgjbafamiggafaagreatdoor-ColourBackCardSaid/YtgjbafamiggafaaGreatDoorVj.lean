/- Package syntax: the names of an NParams: the walk. -/
import Derived.Test.YtgjbafamiggafaaGreatDoorVg
namespace Go.Proofs.YtgjbafamiggafaaGreatDoor
open Go.RowKit
open M
theorem infoNm : (Tryz.prog.info? 136).map (fun i => (i.zero, i.size, i.bytes)) = some (some (.agg #[.string ⟨#[]⟩, .int .i64 0]), 2, 24) := by kernel_rfl
/-- How many nodes the row has left to which this points. -/
def lenP (v : Value) (w : World) : Nat := match v with | .pointer (some a) => lenR a.block w | _ => 0
/-- A name has been laid down. -/
theorem InPr.named {w : World} {D : Nat → Prop} {rb ab pb : Nat} {ps : List X.Part} {ns : List X.Nm} {tot kb : Nat} {l : List X.Part} {k : Nat} {acc : List X.Nm} {rv : Value} {wr : World} (h : InPr w D rb ab pb ps ns tot kb l k acc rv wr) {w5 : World} {l2 : List X.Part} {k2 : Nat} (hr : rb < w.heap.size) (ha : ab < w.heap.size) (hD : ∀ q, D q → q < w.heap.size) (hne : rb ≠ ab) (hk : Kq D kb ab wr w5) (hw : IsRw w5 D kb ab l2 k2) {nm : X.Nm} (hn : ∃ ns', X.Nms l2 k2 ns' ∧ ns = (acc ++ [nm]) ++ ns') (hp : k2 + X.pz l2 = tot) (o : Obj) {g cap : Nat} {w6 : World}
    (hown : w6.ownsRow w.heap.size 136 2 (.slice (some ⟨g, 0, none⟩) (acc.length + 1) cap) (acc.length + 1) (nmv acc ++ [.string (ba nm.1), .int .i64 nm.2])) (hgrow : (w5.alloc o).grownBy w6 rv.ownBlock) (hat : rv.ownBlock = some g ∨ g = w5.heap.size + 1) :
    InPr w D rb ab pb ps ns tot kb l2 k2 (acc ++ [nm]) (.slice (some ⟨g, 0, none⟩) (acc.length + 1) cap) (w6.setCell ⟨pb, 0, none⟩ (.slice (some ⟨g, 0, none⟩) (acc.length + 1) cap)) := by
  obtain ⟨v, e, hv⟩ := h.out
  obtain ⟨n1, n2, n3, n4⟩ := h.new
  have hge := fun q hq => (owns_ge h.own q hq)
  have hpl := heap_lt h.par
  have hkl := h.rw.lt.1
  have hs5 := hk.size
  have hpar5 := hk.heap h.par (by decide) (fun e => n3 e.symm) (by omega)
  have hown5 := hk.owns h.own (by decide) (fun q hq => ⟨(n4 q hq).1, by have := (hge q hq).1; omega⟩)
  have hA : Kp (fun q => rv.ownBlock = some q ∨ q = pb) w5 w6 := Kp.grown (Kp.alloc (Kp.refl _ w5) o) hgrow (fun k e _ => .inl e)
  have hB : Kp (fun q => rv.ownBlock = some q ∨ q = pb) w5 (w6.setCell ⟨pb, 0, none⟩ (.slice (some ⟨g, 0, none⟩) (acc.length + 1) cap)) := Kp.setCell (p := ⟨pb, 0, none⟩) hA (fun _ => .inr rfl) _
  have hnS : ∀ q, q < w.heap.size → ¬ (rv.ownBlock = some q ∨ q = pb) := fun q hq e => by
    rcases e with e | e
    · have := (hge q e).1; omega
    · omega
  have hgp : g ≠ pb ∧ g ≠ kb := by
    rcases hat with e | e
    · exact ⟨(n4 g e).2, (n4 g e).1⟩
    · exact ⟨by omega, by omega⟩
  have hpar6 : w6.heap[pb]? = some (.cells #[rv] 186 (0, 0)) := (hgrow.block pb (by simp; omega) (fun e => (n4 pb e.symm).2 rfl)).trans ((heap_alloc_old w5 o (by omega)).trans hpar5)
  refine ⟨hw.keep hB (fun e => ?_) (hnS ab ha) (fun q hq => hnS q (hD q hq)) (fun q c f _ hc e => ?_), hn, ⟨v, hB.heap (hk.heap e (by decide) (by omega) hne) (hnS rb hr), (hk.nds hv hw.sep.2.1 hw.sep.2.2).keep hB (fun q hq => hnS q (hD q hq))⟩, ?_, ?_, ⟨n1, n2, n3, fun q hq => ?_⟩, (h.kp.inner hk n1).over hB ha hnS, hp⟩
  · rcases e with e | e
    · exact (n4 kb e).1 rfl
    · exact n3 e
  · rcases e with e | e
    · obtain ⟨-, c', f', hc'⟩ := owns_typed hown5 e
      exact not_int hc' (by decide) ⟨c, f, hc⟩
    · subst e
      exact not_int hpar5 (by decide) ⟨c, f, hc⟩
  · simp [World.setCell, Array.getElem?_modify, hpar6]
  · rw [nmv_snoc, List.length_append]
    exact ownsRow_setCell_other hown (by simp [Value.ownBlock]; exact hgp.1) _
  · simp only [Value.ownBlock, Option.some.injEq] at hq
    subst hq
    exact ⟨hgp.2, hgp.1⟩
set_option maxRecDepth 100000 in
set_option maxHeartbeats 4000000 in
theorem wparams_any (D : Nat → Prop) (rb ab : Nat) (qs : List X.Part) (ns : List X.Nm) (ps : List X.Part) (i : Nat) (w : World) (h : IsRw w D rb ab (.br 6 qs :: ps) i) (hn : X.Nms qs i ns) (hi : i + X.pz qs ≤ 1073741824) (hql : qs.length ≤ 268435456) (hnl : ns.length ≤ 268435456) (hDl : ∀ q, D q → q < w.heap.size) :
    Calls Tryz.prog 62 #[.pointer (some ⟨rb, 0, none⟩)] w fun e w' => ∃ pb, e = .returned (.pointer (some ⟨pb, 0, none⟩)) ∧ Hid (IsPar w' w.heap.size w'.heap.size pb ns ∧ IsRw w' D rb ab ps (i + X.pz qs) ∧ Kq D rb ab w w') := by
  obtain ⟨i0, hi0, hz0, hz1, hz2⟩ := info_parts infoNm
  obtain ⟨hr, ha⟩ := h.lt
  have hsep := h.sep
  have hgq := h.byt.br.2
  have hgp := h.byt.tail
  have kA : Below w.heap.size w (w.alloc (.cells #[.slice none 0 0] 186)) := (Below.refl _ w).alloc (Nat.le_refl _) _
  have HP1 : Hid ((w.alloc (.cells #[.slice none 0 0] 186)).heap[w.heap.size]? = some (.cells #[.slice none 0 0] 186 (0, 0))) := heap_alloc_new w _
  have HE := hide (wenter_any D rb ab (.br 6 qs) ps i _ (h.below kA) (by show i + 0 ≤ _; omega) (fun q hq => Nat.lt_of_lt_of_le (hDl q hq) kA.size))
  have HKA := hide kA
  have HDl := hide hDl
  have hsz : (w.alloc (.cells #[.slice none 0 0] 186)).heap.size = w.heap.size + 1 := by simp
  clear h kA hDl
  go_enter Tryz.func62, Tryz.ntmps62
  go_wp2_with fail
  generalize w.alloc (.cells #[.slice none 0 0] 186) = W1 at *
  refine (HE.out).mono ?_
  rintro e w2 ⟨a4, a5, a6, rfl, H2⟩
  have H2' : Hid (NdS w2 D (.slice a4 a5 a6) qs ∧ IsRw w2 D rb ab ps i ∧ Kq D rb ab W1 w2) := H2.out
  have hz2' : w.heap.size + 1 ≤ w2.heap.size := by have := (H2'.out).2.2.size; omega
  have HI0 : Hid (InPr w D rb ab w.heap.size ps ns (i + X.pz qs) w2.heap.size qs i [] (.slice none 0 0) (w2.alloc (.cells #[.pointer (some ⟨ab, 0, none⟩), .slice a4 a5 a6] 103))) := by
    obtain ⟨x1, x2, x3⟩ := H2'.out
    have kB : Below w2.heap.size w2 (w2.alloc (.cells #[.pointer (some ⟨ab, 0, none⟩), .slice a4 a5 a6] 103)) := (Below.refl _ w2).alloc (Nat.le_refl _) _
    have x2b := x2.below kB
    refine ⟨⟨⟨_, heap_alloc_new w2 _, x1.keep (Kp.ofBelow kB (fun _ => False)) (fun _ _ => id)⟩, x2b.psd, ⟨by omega, fun hd => by have := (HDl.out) _ hd; omega, x2.sep.2.2⟩, hgq⟩, ⟨ns, hn, rfl⟩, x2b.blk, ?_, World.ownsRow_nil _ _ _ _, ⟨by omega, Nat.le_refl _, by omega, fun g hg => by cases hg⟩, ?_, rfl⟩
    · exact (heap_alloc_old w2 _ (by omega)).trans (x3.new hr ha HP1.out (by decide))
    · exact ((Kq.ofBelow HKA.out ha).trans x3).more kB ha
  clear H2 H2' HE HP1 HKA
  go_wp2_with fail
  generalize w2.alloc (.cells #[.pointer (some ⟨ab, 0, none⟩), .slice a4 a5 a6] 103) = W2 at *
  go_loopw [4] (fun kv wr => ∃ (kb : Nat) (l : List X.Part) (k : Nat) (acc : List X.Nm) (rv : Value), kv = .pointer (some ⟨kb, 0, none⟩) ∧ l.length ≤ 268435456 ∧ Hid (InPr w D rb ab w.heap.size ps ns (i + X.pz qs) kb l k acc rv wr)) (fun kv wr => lenP kv wr)
  case atStart => exact ⟨w2.heap.size, qs, i, [], _, rfl, hql, HI0⟩
  case round =>
    obtain ⟨kb, l, k, acc, rv, rfl, hll, HI⟩ := hrel
    clear HI0
    have hlen : lenP (.pointer (some ⟨kb, 0, none⟩)) wr = l.length := (HI.out).rw.len
    have hpos := (HI.out).pos
    have HDw : ∀ q, D q → q < wr.heap.size := fun q hq => Nat.lt_of_lt_of_le ((HDl.out) q hq) (HI.out).kp.size
    have HM := hide (wmore_any D kb ab l k wr (HI.out).rw (by omega) (by omega) HDw)
    clear HDw
    go_wp2_with fail
    refine (HM.out).mono ?_
    rintro e w3 ⟨rfl, H3⟩
    have hpz : X.pz l = X.pz (l.takeWhile X.lq) + X.pz (l.dropWhile X.lq) := by rw [← X.pz_app, List.takeWhile_append_dropWhile]
    have hdl : (l.dropWhile X.lq).length ≤ l.length := (List.dropWhile_sublist _).length_le
    have HI3 : Hid (InPr w D rb ab w.heap.size ps ns (i + X.pz qs) kb (l.dropWhile X.lq) (k + X.pz (l.takeWhile X.lq)) acc rv w3) := by
      obtain ⟨ns', g1, g2⟩ := (HI.out).nms
      exact (HI.out).step hr ha hsep.1 (H3.out).2 (H3.out).1 ⟨ns', nms_quiet g1, g2⟩ (by omega)
    have hql' : ∀ p t, l.dropWhile X.lq = p :: t → X.lq p = false := fun p t e => by
      have := List.head?_dropWhile_not X.lq l
      rw [e] at this
      simpa using this
    clear HM H3 HI
    generalize l.dropWhile X.lq = l3 at *
    generalize k + X.pz (l.takeWhile X.lq) = k3 at *
    cases l3 with
    | nil =>
      have HF : Hid (IsPar w3 w.heap.size w3.heap.size w.heap.size ns ∧ IsRw w3 D rb ab ps (i + X.pz qs) ∧ Kq D rb ab w w3) := by
        obtain ⟨ns', g1, g2⟩ := (HI3.out).nms
        cases g1
        rw [List.append_nil] at g2
        subst g2
        have hp3 : k3 = i + X.pz qs := (HI3.out).pos
        refine ⟨isPar_of (HI3.out).par (HI3.out).own (Nat.le_refl _), ⟨(HI3.out).out, by rw [← hp3]; exact (HI3.out).rw.psd, hsep, hgp⟩, (HI3.out).kp⟩
      have hdf : decide (([] : List X.Part) ≠ []) = false := by simp
      rw [hdf]
      clear HI3
      go_wp2_with fail
      go_ret
      exact ⟨_, rfl, HF⟩
    | cons p l4 =>
      have hdt : decide (p :: l4 ≠ []) = true := by simp
      rw [hdt]
      clear hdt
      have hq := hql' p l4 rfl
      clear hql'
      obtain ⟨v, hb, hnn⟩ := (HI3.out).rw.blk
      have c1 := cell_of_row w3 _ 1 _ _ _ hb
      obtain ⟨g, o, cap, kv, rfl, hD, y0, y1, y2, y3, hkk, -, hc1, hc2, -, -⟩ := hnn.head
      obtain ⟨b4, b6, _, _, _, _, rfl, -⟩ := hkk.ex
      have hi1 : (0 : Int) < ((l4.length + 1 : Nat) : Int) := by omega
      have hi2 : 0 < l4.length + 1 := by omega
      have hpos3 := (HI3.out).pos
      rw [X.pz_cons] at hpos3
      rw [List.length_cons] at hdl
      have HHd := hide (fun ns' h => nms_head (p := p) (l := l4) (k := k3) (ns := ns') h hq)
      clear hb hnn hkk
      go_wp2_with fail
      refine (syName_any p _ _ _ w3).mono ?_
      rintro e w4 ⟨rfl, k4⟩
      have HI4 : Hid (InPr w D rb ab w.heap.size ps ns (i + X.pz qs) kb (p :: l4) k3 acc rv w4) := (HI3.out).step hr ha hsep.1 (Kq.ofBelow k4 (Nat.lt_of_lt_of_le ha (HI3.out).kp.size)) ((HI3.out).rw.below k4) (HI3.out).nms (HI3.out).pos
      clear k4 HI3 c1 y0 y1 y2 y3
      cases hnq : X.nmq p with
      | false =>
        have HN : Hid (X.nln p = X.pz [p] ∧ ∃ ns', X.Nms l4 (k3 + X.pz [p]) ns' ∧ ns = acc ++ ns') := by
          obtain ⟨ns', g1, g2⟩ := (HI4.out).nms
          rcases (HHd.out) ns' g1 with ⟨e, -⟩ | ⟨-, e2, e3⟩
          · rw [hnq] at e; cases e
          · exact ⟨e2, ns', e3, g2⟩
        have hln := (HN.out).1
        have HLv := hide (wleave_any D kb ab p l4 k3 w4 (HI4.out).rw (by omega) (fun q hq => Nat.lt_of_lt_of_le ((HDl.out) q hq) (HI4.out).kp.size))
        go_wp2_with fail
        refine (HLv.out).mono ?_
        rintro e w5 ⟨d4, d5, d6, rfl, H5⟩
        have HI5 : Hid (InPr w D rb ab w.heap.size ps ns (i + X.pz qs) kb l4 (k3 + X.pz [p]) acc rv w5) := by
          obtain ⟨-, z2, z3⟩ := H5.out
          rw [hln] at z2
          exact (HI4.out).step hr ha hsep.1 z3 z2 (HN.out).2 (by omega)
        clear H5 HLv HI4
        obtain ⟨v5, hb5, hn5⟩ := (HI5.out).rw.blk
        have c0 := cell_of_row w5 _ 0 _ _ _ hb5
        obtain ⟨f4, f6, _, _, _, _, rfl, -⟩ := hn5.ex
        have c1 := cell_of_row w5 _ 1 _ _ _ hb5
        have HI6 := hide ((HI5.out).copy (fun {q} hq => (HDl.out) q hq) ha (v := .slice f4 l4.length f6) hb5)
        clear hb5 hn5 HI5
        go_wp2_with fail
        refine ⟨⟨w5.heap.size, l4, k3 + X.pz [p], acc, rv, rfl, by omega, HI6⟩, ?_⟩
        have := (HI6.out).rw.len
        rw [hlen]
        show lenR w5.heap.size _ < _
        rw [this]; omega
      | true =>
        have HN : Hid (∃ nm, X.Nmp [p] k3 nm ∧ ∃ ns', X.Nms l4 (k3 + X.pz [p]) ns' ∧ ns = (acc ++ [nm]) ++ ns') := by
          obtain ⟨ns', g1, g2⟩ := (HI4.out).nms
          rcases (HHd.out) ns' g1 with ⟨-, nm, ns2, e1, e2, e3⟩ | ⟨e, -⟩
          · exact ⟨nm, e2, ns2, e3, by rw [g2, e1, List.append_assoc]; rfl⟩
          · rw [hnq] at e; cases e
        obtain ⟨nm, hnm, hns'⟩ := HN.out
        have HNs := hide hns'
        have hp0 : w4.cell? ⟨w.heap.size, 0, none⟩ = some rv := cell_of_row w4 _ 0 _ _ _ (HI4.out).par
        have hpf : w4.frozen? ⟨w.heap.size, 0, none⟩ = false := by have := (HI4.out).par; simp [World.frozen?, this]
        have HNm := hide (wname_any D kb ab [p] nm l4 k3 w4.drew ((HI4.out).rw.below ((Below.refl _ w4).drew)) hnm (by rw [X.pz_app]; omega) (by simp; omega) (fun q hq => Nat.lt_of_lt_of_le ((HDl.out) q hq) (HI4.out).kp.size))
        have hacc : acc.length ≤ 268435456 := by
          have := congrArg List.length hns'.choose_spec.2
          simp at this; omega
        have HAf : Hid (∀ w5, IsRw w5 D kb ab l4 (k3 + X.pz [p]) ∧ Kq D kb ab w4.drew w5 → w5.cell? ⟨w.heap.size, 0, none⟩ = some rv ∧ w5.frozen? ⟨w.heap.size, 0, none⟩ = false ∧ Kq D kb ab w4 w5 ∧ w5.ownsRow w.heap.size 136 2 rv acc.length (nmv acc) ∧ w.heap.size < w5.heap.size ∧ (∀ q, rv.ownBlock = some q → q ≠ w.heap.size)) := fun w5 hx => by
          have hkd : Kq D kb ab w4 w5 := (Kq.ofBelow ((Below.refl _ w4).drew) (Nat.lt_of_lt_of_le ha (HI4.out).kp.size)).trans hx.2
          obtain ⟨n1, n2, n3, n4⟩ := (HI4.out).new
          have hpar := hkd.heap (HI4.out).par (by decide) (fun e => n3 e.symm) (by omega)
          refine ⟨cell_of_row w5 _ 0 _ _ _ hpar, by simp [World.frozen?, hpar], hkd, hkd.owns (HI4.out).own (by decide) (fun g hg => ⟨(n4 g hg).1, ?_⟩), heap_lt hpar, fun q hq => (n4 q hq).2⟩
          have := (owns_ge (HI4.out).own g hg).1
          omega
        clear hnm hns' HHd HN
        go_wp2_with fail
        refine wp_region_noPanic ?_
        refine wpTo_start (S := fun w' => w'.cell? ⟨w.heap.size, 0, none⟩ = some rv) (z := 10) (by kernel_rfl) ?_
        have hS : w4.drew.cell? ⟨w.heap.size, 0, none⟩ = some rv := hp0
        refine wpTo_take (i := 0) (dn := 15) (v := ?_) rfl rfl (by kernel_rfl) (by kernel_rfl) (by kernel_rfl) (by kernel_rfl) (fun _ _ _ h => h) (Or.inl ⟨by rfl, ?_⟩) hS ?_
        rotate_left
        · (intro wx hSw; (try dsimp only at hSw); go_simp; try (with_reducible rfl))
        simp only [Act.put, List.setIfInBounds_toArray, List.set_cons_zero, List.set_cons_succ]
        refine wpTo_take (i := 1) (dn := 16) (v := ?_) rfl rfl (by kernel_rfl) (by kernel_rfl) (by kernel_rfl) (by kernel_rfl) (fun _ _ _ h => h) (Or.inl ⟨by rfl, ?_⟩) hS ?_
        rotate_left
        · (intro wx hSw; (try dsimp only at hSw); go_simp; try (with_reducible rfl))
        simp only [Act.put, List.setIfInBounds_toArray, List.set_cons_zero, List.set_cons_succ]
        refine wpTo_take (i := 2) (dn := 17) (v := ?_) rfl rfl (by kernel_rfl) (by kernel_rfl) (by kernel_rfl) (by kernel_rfl) (fun _ _ _ h => h) (Or.inl ⟨by rfl, ?_⟩) hS ?_
        rotate_left
        · (intro wx hSw; (try dsimp only at hSw); go_simp; try (with_reducible rfl))
        simp only [Act.put, List.setIfInBounds_toArray, List.set_cons_zero, List.set_cons_succ]
        refine wpTo_take (i := 3) (dn := 18) (v := ?_) rfl rfl (by kernel_rfl) (by kernel_rfl) (by kernel_rfl) (by kernel_rfl) (fun _ _ _ h => h) (Or.inl ⟨by rfl, ?_⟩) hS ?_
        rotate_left
        · (intro wx hSw; (try dsimp only at hSw); go_simp; try (with_reducible rfl))
        simp only [Act.put, List.setIfInBounds_toArray, List.set_cons_zero, List.set_cons_succ]
        refine wpTo_take (i := 4) (dn := 19) (v := ?_) rfl rfl (by kernel_rfl) (by kernel_rfl) (by kernel_rfl) (by kernel_rfl) (fun _ _ _ h => h) (Or.inl ⟨by rfl, ?_⟩) hS ?_
        rotate_left
        · (intro wx hSw; (try dsimp only at hSw); go_simp; try (with_reducible rfl))
        simp only [Act.put, List.setIfInBounds_toArray, List.set_cons_zero, List.set_cons_succ]
        refine wpTo_one (i := 5) (by kernel_rfl) rfl (fun K hK => ?_)
        go_simp
        refine (HNm.out).mono ?_
        rintro e w5 ⟨rfl, H5⟩
        obtain ⟨g0, g1, g2, g3, g4, g5⟩ := (HAf.out) w5 H5.out
        have HG2 := hide g2
        have HG3 := hide g3
        have HG5 := hide g5
        have g6 := g5
        clear g2 g3 g5 HAf HNm
        dsimp only
        refine hK.out _ _ (fun _ => g0) (fun hS2 => ?_)
        clear hS hK K hS2
        have hS : w5.cell? ⟨w.heap.size, 0, none⟩ = some rv := g0
        try simp only [Act.put, List.setIfInBounds_toArray, List.set_cons_zero, List.set_cons_succ]
        refine wpTo_one (i := 6) (by kernel_rfl) rfl (fun K hK => ?_)
        go_simp
        refine hK.out _ _ (fun _ => Lib.cell?_alloc_some _ g0) (fun hS2 => ?_)
        clear hS hK K hS2
        have hS := fun o => Lib.cell?_alloc_some (W := w5) o g0
        refine wpTo_one (i := 7) (by kernel_rfl) rfl (fun K hK => ?_)
        refine step_append_lies _ (by rfl) _ _ _ (by rfl) w.heap.size 136 i0 _ 2 24 Tryz.underlying184 hi0 hz0 hz1 hz2 rfl (by omega) rv acc.length _ (by rfl) ((HG3.out).alloc _)
            ⟨w5.heap.size, 0, none⟩ 1 1 [.string (ba nm.1), .int .i64 nm.2] (by rfl) (by rfl) (World.news_of_block (cs := #[.string (ba nm.1), .int .i64 nm.2]) (heap_alloc_new w5 _)) (by simp [Value.oneCell'])
            (by omega) (by unfold maxLen; omega) (by omega) (by simp; omega) (w5.heap.size + 1) (by simp) ?_
        intro g7 cap7 w7 hown7 hgrow7 hat7 hlt7
        have x1 : w7.cell? ⟨w.heap.size, 0, none⟩ = some rv := (hgrow7.cell_far ⟨w.heap.size, 0, none⟩ (by simp; omega) (fun e => (HG5.out) _ e.symm rfl)).trans (hS _)
        have x2 : w7.frozen? ⟨w.heap.size, 0, none⟩ = false := (hgrow7.frozen_far ⟨w.heap.size, 0, none⟩ (by simp; omega) (fun e => (HG5.out) _ e.symm rfl)).trans ((World.frozen?_alloc_old _ _ ⟨w.heap.size, 0, none⟩ (by simp; omega)).trans g1)
        have HI7 := hide ((HI4.out).named hr ha HDl.out hsep.1 HG2.out (H5.out).1 HNs.out (by omega) _ hown7 hgrow7 hat7)
        clear hown7 hgrow7
        show K (Act.put _ (some 22) _) w7
        refine hK.out _ _ (fun _ => x1) (fun hS2 => ?_)
        clear hS hK K hS2
        have hS : w7.cell? ⟨w.heap.size, 0, none⟩ = some rv := x1
        simp only [Act.put, List.setIfInBounds_toArray, List.set_cons_zero, List.set_cons_succ]
        refine wpTo_one (i := 8) (by kernel_rfl) rfl (fun K hK => ?_)
        go_simp
        refine hK.out _ _ (fun _ => hS) (fun _ => ?_)
        clear hK K
        refine wpTo_one (i := 9) (by kernel_rfl) rfl (fun K hK => ?_)
        go_simp
        refine hK.out _ _ (fun _ => hS) (fun _ => ?_)
        clear hK K
        refine wpTo_one (i := 10) (by kernel_rfl) rfl (fun K hK => ?_)
        go_simp
        refine hK.out _ _ (fun h => absurd rfl h) (fun _ => wpTo_end (by kernel_rfl) ?_)
        clear hK K
        refine NoPanic.normal ?_
        clear x1 x2 hS g0 g1
        generalize w7.setCell ⟨w.heap.size, 0, none⟩ (.slice (some ⟨g7, 0, none⟩) (acc.length + 1) cap7) = w8 at *
        obtain ⟨v8, hb8, hn8⟩ := (HI7.out).rw.blk
        have c0 := cell_of_row w8 _ 0 _ _ _ hb8
        obtain ⟨f4, f6, _, _, _, _, rfl, -⟩ := hn8.ex
        have c1 := cell_of_row w8 _ 1 _ _ _ hb8
        have HI9 := hide ((HI7.out).copy (fun {q} hq => (HDl.out) q hq) ha (v := .slice f4 l4.length f6) hb8)
        clear hb8 hn8 HI7
        go_wp2_with fail
        refine ⟨⟨w8.heap.size, l4, k3 + X.pz [p], acc ++ [nm], _, rfl, by omega, HI9⟩, ?_⟩
        have := (HI9.out).rw.len
        rw [hlen]
        show lenR w8.heap.size _ < _
        rw [this]; omega
end Go.Proofs.YtgjbafamiggafaaGreatDoor
/- Package syntax: expressions in memory. -/
namespace Go.Proofs.YtgjbafamiggafaaGreatDoor
open Go.RowKit
open M
/-- An expression in memory, with all that is in it, in blocks from lo up to hi. -/
inductive IsE (w : World) (lo hi : Nat) : Value → X.Ex → Prop
  | lit {m n : Int} {z : Bool} (b k : Nat) (x : List UInt8) (hb : lo ≤ b ∧ b < hi) (h : w.heap[b]? = some (.cells #[.int .i64 m, .int .i64 n, .bool z, .int .i64 k, .string (ba x)] 238 (0, 0))) : IsE w lo hi (.iface 236 (.pointer (some ⟨b, 0, none⟩))) (.lit k x)
  | hole {m n : Int} {z : Bool} (b i : Nat) (hb : lo ≤ b ∧ b < hi) (h : w.heap[b]? = some (.cells #[.int .i64 m, .int .i64 n, .bool z] 235 (0, 0))) : IsE w lo hi (.iface 234 (.pointer (some ⟨b, 0, none⟩))) (.hole i)
  | missing {m n : Int} {z : Bool} (b : Nat) (hb : lo ≤ b ∧ b < hi) (h : w.heap[b]? = some (.cells #[.int .i64 m, .int .i64 n, .bool z] 211 (0, 0))) : IsE w lo hi (.iface 209 (.pointer (some ⟨b, 0, none⟩))) .missing
  | var {m n : Int} {z : Bool} (b : Nat) (nm : X.Nm) (hb : lo ≤ b ∧ b < hi) (h : w.heap[b]? = some (.cells #[.int .i64 m, .int .i64 n, .bool z, .string (ba nm.1), .int .i64 nm.2] 233 (0, 0))) : IsE w lo hi (.iface 231 (.pointer (some ⟨b, 0, none⟩))) (.var nm)
  | lett {m n : Int} {z : Bool} (b : Nat) (nm : X.Nm) (v1 v2 : Value) (e1 e2 : X.Ex) (hb : lo ≤ b ∧ b < hi) (h : w.heap[b]? = some (.cells #[.int .i64 m, .int .i64 n, .bool z, .string (ba nm.1), .int .i64 nm.2, v1, v2] 260 (0, 0))) (h1 : IsE w lo hi v1 e1) (h2 : IsE w lo hi v2 e2) : IsE w lo hi (.iface 212 (.pointer (some ⟨b, 0, none⟩))) (.lett nm e1 e2)
  | ite {m n : Int} {z : Bool} (b : Nat) (v1 v2 v3 : Value) (e1 e2 e3 : X.Ex) (hb : lo ≤ b ∧ b < hi) (h : w.heap[b]? = some (.cells #[.int .i64 m, .int .i64 n, .bool z, v1, v2, v3] 218 (0, 0))) (h1 : IsE w lo hi v1 e1) (h2 : IsE w lo hi v2 e2) (h3 : IsE w lo hi v3 e3) : IsE w lo hi (.iface 216 (.pointer (some ⟨b, 0, none⟩))) (.ite e1 e2 e3)
  | fn {m n : Int} {z : Bool} (b pb : Nat) (ns : List X.Nm) (v : Value) (e : X.Ex) (hb : lo ≤ b ∧ b < hi) (h : w.heap[b]? = some (.cells #[.int .i64 m, .int .i64 n, .bool z, .pointer (some ⟨pb, 0, none⟩), v] 256 (0, 0))) (hp : IsPar w lo hi pb ns) (h1 : IsE w lo hi v e) : IsE w lo hi (.iface 219 (.pointer (some ⟨b, 0, none⟩))) (.fn ns e)
  | bin {m n : Int} {z : Bool} (b : Nat) (v1 v2 : Value) (x : List UInt8) (e1 e2 : X.Ex) (hb : lo ≤ b ∧ b < hi) (h : w.heap[b]? = some (.cells #[.int .i64 m, .int .i64 n, .bool z, v1, .string (ba x), v2] 262 (0, 0))) (h1 : IsE w lo hi v1 e1) (h2 : IsE w lo hi v2 e2) : IsE w lo hi (.iface 221 (.pointer (some ⟨b, 0, none⟩))) (.bin e1 x e2)
  | call {m n : Int} {z : Bool} (b : Nat) (v : Value) (e : X.Ex) (ao : Option Addr) (cap : Nat) (vs : Nat → Value) (es : List X.Ex) (hb : lo ≤ b ∧ b < hi) (h : w.heap[b]? = some (.cells #[.int .i64 m, .int .i64 n, .bool z, v, .slice ao es.length cap] 264 (0, 0))) (hc : es.length ≤ cap ∧ cap ≤ maxLen) (h1 : IsE w lo hi v e)
      (hr : ∀ j, j < es.length → ∃ g, ao = some ⟨g, 0, none⟩ ∧ lo ≤ g ∧ g < hi ∧ w.cell? ⟨g, j, none⟩ = some (vs j) ∧ ∃ c f, w.heap[g]? = some (.cells c 152 f)) (hp : ∀ (j : Nat) (e : X.Ex), es[j]? = some e → IsE w lo hi (vs j) e) : IsE w lo hi (.iface 223 (.pointer (some ⟨b, 0, none⟩))) (.call e es)
  | list {m n : Int} {z : Bool} (b : Nat) (ao : Option Addr) (cap : Nat) (vs : Nat → Value) (es : List X.Ex) (hb : lo ≤ b ∧ b < hi) (h : w.heap[b]? = some (.cells #[.int .i64 m, .int .i64 n, .bool z, .slice ao es.length cap] 227 (0, 0))) (hc : es.length ≤ cap ∧ cap ≤ maxLen)
      (hr : ∀ j, j < es.length → ∃ g, ao = some ⟨g, 0, none⟩ ∧ lo ≤ g ∧ g < hi ∧ w.cell? ⟨g, j, none⟩ = some (vs j) ∧ ∃ c f, w.heap[g]? = some (.cells c 152 f)) (hp : ∀ (j : Nat) (e : X.Ex), es[j]? = some e → IsE w lo hi (vs j) e) : IsE w lo hi (.iface 225 (.pointer (some ⟨b, 0, none⟩))) (.list es)
  | group {m n : Int} {z : Bool} (b : Nat) (v : Value) (e : X.Ex) (hb : lo ≤ b ∧ b < hi) (h : w.heap[b]? = some (.cells #[.int .i64 m, .int .i64 n, .bool z, v] 230 (0, 0))) (h1 : IsE w lo hi v e) : IsE w lo hi (.iface 228 (.pointer (some ⟨b, 0, none⟩))) (.group e)
theorem IsE.keepi {S : Nat → Prop} {w w' : World} (hk : Kp S w w') {lo hi : Nat} (hS : ∀ i, lo ≤ i → i < hi → S i → ∃ c f, w.heap[i]? = some (.cells c 3 f)) {v : Value} {e : X.Ex} (h : IsE w lo hi v e) : IsE w' lo hi v e := by
  have hp : ∀ {b : Nat} {c : Array Value} {T : TypeId} {f : Nat × Nat}, lo ≤ b ∧ b < hi → w.heap[b]? = some (.cells c T f) → T ≠ 3 → ¬ S b := fun hb h hT e => not_int h hT (hS _ hb.1 hb.2 e)
  have hq : ∀ {b : Nat} {c : Array Value} {T : TypeId} {f : Nat × Nat}, lo ≤ b ∧ b < hi → w.heap[b]? = some (.cells c T f) → T ≠ 3 → w'.heap[b]? = some (.cells c T f) := fun hb h hT => hk.heap h (hp hb h hT)
  induction h with
  | lit b k x hb h => exact .lit b k x hb (hq hb h (by decide))
  | hole b i hb h => exact .hole b i hb (hq hb h (by decide))
  | missing b hb h => exact .missing b hb (hq hb h (by decide))
  | var b n hb h => exact .var b n hb (hq hb h (by decide))
  | lett b n v1 v2 e1 e2 hb h h1 h2 i1 i2 => exact .lett b n v1 v2 e1 e2 hb (hq hb h (by decide)) i1 i2
  | ite b v1 v2 v3 e1 e2 e3 hb h h1 h2 h3 i1 i2 i3 => exact .ite b v1 v2 v3 e1 e2 e3 hb (hq hb h (by decide)) i1 i2 i3
  | fn b pb ns v e hb h hp h1 i1 => exact .fn b pb ns v e hb (hq hb h (by decide)) (hp.keepi hk hS) i1
  | bin b v1 v2 x e1 e2 hb h h1 h2 i1 i2 => exact .bin b v1 v2 x e1 e2 hb (hq hb h (by decide)) i1 i2
  | call b v e ao cap vs es hb h hc h1 hr hp' i1 ip => exact .call b v e ao cap vs es hb (hq hb h (by decide)) hc i1 (fun j hj => by obtain ⟨g, x1, x2, x3, x4, c, f, x5⟩ := hr j hj; exact ⟨g, x1, x2, x3, hk.cellv x4 (hp ⟨x2, x3⟩ x5 (by decide)), c, f, hq ⟨x2, x3⟩ x5 (by decide)⟩) ip
  | list b ao cap vs es hb h hc hr hp' ip => exact .list b ao cap vs es hb (hq hb h (by decide)) hc (fun j hj => by obtain ⟨g, x1, x2, x3, x4, c, f, x5⟩ := hr j hj; exact ⟨g, x1, x2, x3, hk.cellv x4 (hp ⟨x2, x3⟩ x5 (by decide)), c, f, hq ⟨x2, x3⟩ x5 (by decide)⟩) ip
  | group b v e hb h h1 i1 => exact .group b v e hb (hq hb h (by decide)) i1
theorem IsE.keep {S : Nat → Prop} {w w' : World} (hk : Kp S w w') {lo hi : Nat} (hS : ∀ i, lo ≤ i → i < hi → ¬ S i) {v : Value} {e : X.Ex} (h : IsE w lo hi v e) : IsE w' lo hi v e := h.keepi hk (fun i h1 h2 e => absurd e (hS i h1 h2))
theorem IsE.keepq {D : Nat → Prop} {rb ab : Nat} {w w' : World} (hk : Kq D rb ab w w') {lo hi : Nat} {v : Value} {e : X.Ex} (h : IsE w lo hi v e) (h1 : rb < lo) (h2 : ab < lo) : IsE w' lo hi v e := h.keepi hk.kp (fun _ hi _ e => e.int h1 h2 hi)
/-- Where an expression stands was said. -/
theorem stood3 {w : World} {b q : Nat} {T : TypeId} {m n m' n' : Int} {z z' : Bool} {r : List Value} (h : w.heap[q]? = some (.cells (List.toArray (.int .i64 m :: .int .i64 n :: .bool z :: r)) T (0, 0))) : ∃ m2 n2 z2, (((w.setCell ⟨b, 0, none⟩ (.int .i64 m')).setCell ⟨b, 1, none⟩ (.int .i64 n')).setCell ⟨b, 2, none⟩ (.bool z')).heap[q]? = some (.cells (List.toArray (.int .i64 m2 :: .int .i64 n2 :: .bool z2 :: r)) T (0, 0)) := by
  by_cases e : q = b
  · subst e
    exact ⟨m', n', z', by simp [World.setCell, Array.getElem?_modify, h]⟩
  · exact ⟨m, n, z, by rw [set_far e, set_far e, set_far e]; exact h⟩
theorem IsE.stood {w : World} {lo hi b : Nat} {c : Array Value} {T : TypeId} {f : Nat × Nat} (hb : w.heap[b]? = some (.cells c T f)) (hT : T ≠ 152 ∧ T ≠ 136 ∧ T ≠ 186) (m' n' : Int) (z' : Bool) {v : Value} {e : X.Ex} (h : IsE w lo hi v e) : IsE (((w.setCell ⟨b, 0, none⟩ (.int .i64 m')).setCell ⟨b, 1, none⟩ (.int .i64 n')).setCell ⟨b, 2, none⟩ (.bool z')) lo hi v e := by
  have hk : Kp (fun q => q = b) w (((w.setCell ⟨b, 0, none⟩ (.int .i64 m')).setCell ⟨b, 1, none⟩ (.int .i64 n')).setCell ⟨b, 2, none⟩ (.bool z')) := On.set (On.set (On.set (Kp.refl _ w) 0 _) 1 _) 2 _
  have ht : ∀ {g : Nat} {c' : Array Value} {T' : TypeId} {f' : Nat × Nat}, w.heap[g]? = some (.cells c' T' f') → T ≠ T' → ¬ g = b := fun h hne e => by
    subst e
    rw [hb] at h
    injection h with h
    injection h with h1 h2
    exact hne h2
  have hr' : ∀ {g j : Nat} {u : Value} {c' : Array Value} {f' : Nat × Nat}, w.cell? ⟨g, j, none⟩ = some u → w.heap[g]? = some (.cells c' 152 f') → (((w.setCell ⟨b, 0, none⟩ (.int .i64 m')).setCell ⟨b, 1, none⟩ (.int .i64 n')).setCell ⟨b, 2, none⟩ (.bool z')).cell? ⟨g, j, none⟩ = some u ∧ ∃ c f, (((w.setCell ⟨b, 0, none⟩ (.int .i64 m')).setCell ⟨b, 1, none⟩ (.int .i64 n')).setCell ⟨b, 2, none⟩ (.bool z')).heap[g]? = some (.cells c 152 f) := fun h1 h2 => ⟨hk.cellv h1 (ht h2 hT.1), _, _, hk.heap h2 (ht h2 hT.1)⟩
  induction h with
  | lit q k x hq h => obtain ⟨_, _, _, h'⟩ := stood3 h; exact .lit q k x hq h'
  | hole q i hq h => obtain ⟨_, _, _, h'⟩ := stood3 h; exact .hole q i hq h'
  | missing q hq h => obtain ⟨_, _, _, h'⟩ := stood3 h; exact .missing q hq h'
  | var q n hq h => obtain ⟨_, _, _, h'⟩ := stood3 h; exact .var q n hq h'
  | lett q n v1 v2 e1 e2 hq h h1 h2 i1 i2 => obtain ⟨_, _, _, h'⟩ := stood3 h; exact .lett q n v1 v2 e1 e2 hq h' i1 i2
  | ite q v1 v2 v3 e1 e2 e3 hq h h1 h2 h3 i1 i2 i3 => obtain ⟨_, _, _, h'⟩ := stood3 h; exact .ite q v1 v2 v3 e1 e2 e3 hq h' i1 i2 i3
  | fn q pb ns v e hq h hp h1 i1 =>
    obtain ⟨_, _, _, h'⟩ := stood3 h
    refine .fn q pb ns v e hq h' ?_ i1
    obtain ⟨ao, cap, x1, x2, x3, x4⟩ := hp.ex
    refine ⟨hp.bd, ao, cap, hk.heap x1 (ht x1 hT.2.2), x2, x3, fun j n hj => ?_⟩
    obtain ⟨g, y1, y2, y3, y4, y5, c', f', y6⟩ := x4 j n hj
    exact ⟨g, y1, y2, y3, hk.cellv y4 (ht y6 hT.2.1), hk.cellv y5 (ht y6 hT.2.1), c', f', hk.heap y6 (ht y6 hT.2.1)⟩
  | bin q v1 v2 x e1 e2 hq h h1 h2 i1 i2 => obtain ⟨_, _, _, h'⟩ := stood3 h; exact .bin q v1 v2 x e1 e2 hq h' i1 i2
  | call q v e ao cap vs es hq h hc h1 hr hp i1 ip =>
    obtain ⟨_, _, _, h'⟩ := stood3 h
    exact .call q v e ao cap vs es hq h' hc i1 (fun j hj => by obtain ⟨g, x1, x2, x3, x4, c, f, x5⟩ := hr j hj; exact ⟨g, x1, x2, x3, hr' x4 x5⟩) ip
  | list q ao cap vs es hq h hc hr hp ip =>
    obtain ⟨_, _, _, h'⟩ := stood3 h
    exact .list q ao cap vs es hq h' hc (fun j hj => by obtain ⟨g, x1, x2, x3, x4, c, f, x5⟩ := hr j hj; exact ⟨g, x1, x2, x3, hr' x4 x5⟩) ip
  | group q v e hq h h1 i1 => obtain ⟨_, _, _, h'⟩ := stood3 h; exact .group q v e hq h' i1
theorem IsPar.wide {w : World} {lo hi lo' hi' pb : Nat} {ns : List X.Nm} (h : IsPar w lo hi pb ns) (h1 : lo' ≤ lo) (h2 : hi ≤ hi') : IsPar w lo' hi' pb ns := by
  obtain ⟨ao, cap, x1, x2, x3, x4⟩ := h.ex
  have := h.bd
  exact ⟨⟨by omega, by omega⟩, ao, cap, x1, x2, x3, fun j n hj => by obtain ⟨g, e1, e2, e3, e4⟩ := x4 j n hj; exact ⟨g, e1, by omega, by omega, e4⟩⟩
theorem IsE.wide {w : World} {lo hi lo' hi' : Nat} (q1 : lo' ≤ lo) (q2 : hi ≤ hi') {v : Value} {e : X.Ex} (h : IsE w lo hi v e) : IsE w lo' hi' v e := by
  induction h with
  | lit b k x hb h => exact .lit b k x ⟨by omega, by omega⟩ h
  | hole b i hb h => exact .hole b i ⟨by omega, by omega⟩ h
  | missing b hb h => exact .missing b ⟨by omega, by omega⟩ h
  | var b n hb h => exact .var b n ⟨by omega, by omega⟩ h
  | lett b n v1 v2 e1 e2 hb h h1 h2 i1 i2 => exact .lett b n v1 v2 e1 e2 ⟨by omega, by omega⟩ h i1 i2
  | ite b v1 v2 v3 e1 e2 e3 hb h h1 h2 h3 i1 i2 i3 => exact .ite b v1 v2 v3 e1 e2 e3 ⟨by omega, by omega⟩ h i1 i2 i3
  | fn b pb ns v e hb h hp h1 i1 => exact .fn b pb ns v e ⟨by omega, by omega⟩ h (hp.wide q1 q2) i1
  | bin b v1 v2 x e1 e2 hb h h1 h2 i1 i2 => exact .bin b v1 v2 x e1 e2 ⟨by omega, by omega⟩ h i1 i2
  | call b v e ao cap vs es hb h hc h1 hr hp i1 ip => exact .call b v e ao cap vs es ⟨by omega, by omega⟩ h hc i1 (fun j hj => by obtain ⟨g, x1, x2, x3, x4⟩ := hr j hj; exact ⟨g, x1, by omega, by omega, x4⟩) ip
  | list b ao cap vs es hb h hc hr hp ip => exact .list b ao cap vs es ⟨by omega, by omega⟩ h hc (fun j hj => by obtain ⟨g, x1, x2, x3, x4⟩ := hr j hj; exact ⟨g, x1, by omega, by omega, x4⟩) ip
  | group b v e hb h h1 i1 => exact .group b v e ⟨by omega, by omega⟩ h i1
/-- The block of an expression. -/
theorem IsE.iface {w : World} {lo hi : Nat} {v : Value} {e : X.Ex} (h : IsE w lo hi v e) : ∃ ty b, v = .iface ty (.pointer (some ⟨b, 0, none⟩)) := by
  cases h <;> exact ⟨_, _, rfl⟩
/-- A row of the kids of a node that has been entered. -/
theorem rw_inner {w : World} {D : Nat → Prop} {ab : Nat} {qs : List X.Part} {i : Nat} {kv : Value} (hp : Psd w D ab i) (hk : NdS w D kv qs) (hq : X.Gd qs) (hd : ¬ D ab) (hDl : ∀ q, D q → q < w.heap.size) :
    IsRw (w.alloc (.cells #[.pointer (some ⟨ab, 0, none⟩), kv] 103)) D w.heap.size ab qs i := by
  have kB : Below w.heap.size w (w.alloc (.cells #[.pointer (some ⟨ab, 0, none⟩), kv] 103)) := (Below.refl _ w).alloc (Nat.le_refl _) _
  have := hp.lt
  exact ⟨⟨kv, heap_alloc_new w _, hk.keep (Kp.ofBelow kB (fun _ => False)) (fun _ _ => id)⟩, hp.below kB, ⟨by omega, fun h => by have := hDl _ h; omega, hd⟩, hq⟩
theorem rw_both {w2 : World} {D : Nat → Prop} {rb ab : Nat} {ps qs : List X.Part} {i : Nat} {kv : Value} (h : IsRw w2 D rb ab ps i) (hk : NdS w2 D kv qs) (hq : X.Gd qs) (hDl : ∀ q, D q → q < w2.heap.size) :
    IsRw (w2.alloc (.cells #[.pointer (some ⟨ab, 0, none⟩), kv] 103)) D w2.heap.size ab qs i ∧ ∀ (w3 : World) (l : List X.Part) (k : Nat), IsRw w3 D w2.heap.size ab l k → Kq D w2.heap.size ab (w2.alloc (.cells #[.pointer (some ⟨ab, 0, none⟩), kv] 103)) w3 → IsRw w3 D rb ab ps k ∧ Kq D rb ab w2 w3 := by
  have kB : Below w2.heap.size w2 (w2.alloc (.cells #[.pointer (some ⟨ab, 0, none⟩), kv] 103)) := (Below.refl _ w2).alloc (Nat.le_refl _) _
  obtain ⟨hrl, hal⟩ := h.lt
  exact ⟨rw_inner h.psd hk hq h.sep.2.2 hDl, fun w3 l k hw hkp => ⟨(h.below kB).other hkp hw (by omega), (Kq.ofBelow kB hal).inner hkp (Nat.le_refl _)⟩⟩
/-- What expression does of a part. -/
def ExOk (p : X.Part) : Prop := ∀ (e : X.Ex) (i : Nat) (D : Nat → Prop) (rb ab : Nat) (ps : List X.Part) (w : World), X.Rd p i e → IsRw w D rb ab (p :: ps) i → i + X.pz [p] ≤ 1073741824 → (∀ q, D q → q < w.heap.size) →
  Calls Tryz.prog 63 #[.pointer (some ⟨rb, 0, none⟩)] w fun en w' => ∃ v, en = .returned v ∧ Hid (IsE w' w.heap.size w'.heap.size v e ∧ IsRw w' D rb ab ps (i + X.pz [p]) ∧ Kq D rb ab w w')
end Go.Proofs.YtgjbafamiggafaaGreatDoor
