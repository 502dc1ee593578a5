/- Package tree: the tree of a text, its root's parts as values. -/
import Derived.Test.YtkampoaceipngaaGreatDoorYj
import Derived.Test.YtkampoaceipngaaGreatDoorYg
namespace Go.Proofs.YtkampoaceipngaaGreatDoor
open Go.RowKit Go.Shelf
open M

/-- Values that are parts of a root, one by one. -/
def Ks (w : World) (D : Nat → Prop) (vs : List Value) (ps : List X.Part) : Prop := ∀ (i : Nat) (p : X.Part), ps[i]? = some p → ∃ v, vs[i]? = some v ∧ IsK w D v p
theorem Ks.nil (w : World) (D : Nat → Prop) : Ks w D [] [] := fun i p hp => by simp at hp
theorem Ks.mono {w : World} {D D' : Nat → Prop} (hD : ∀ q, D q → D' q) {vs : List Value} {ps : List X.Part} (h : Ks w D vs ps) : Ks w D' vs ps :=
  fun i p hp => by obtain ⟨v, h1, h2⟩ := h i p hp; exact ⟨v, h1, h2.mono hD⟩
theorem Ks.keep {S : Nat → Prop} {w w' : World} {D : Nat → Prop} (hk : Kp S w w') (hD : ∀ q, D q → ¬ S q) {vs : List Value} {ps : List X.Part} (h : Ks w D vs ps) : Ks w' D vs ps :=
  fun i p hp => by obtain ⟨v, h1, h2⟩ := h i p hp; exact ⟨v, h1, h2.keep hk hD⟩
theorem Ks.snoc {w : World} {D : Nat → Prop} {vs : List Value} {ps : List X.Part} (h : Ks w D vs ps) (hl : vs.length = ps.length) {v : Value} {p : X.Part} (hp : IsK w D v p) : Ks w D (vs ++ [v]) (ps ++ [p]) := by
  intro i q hq
  by_cases hi : i < ps.length
  · rw [List.getElem?_append_left hi] at hq
    obtain ⟨u, h1, h2⟩ := h i q hq
    exact ⟨u, by rw [List.getElem?_append_left (by omega)]; exact h1, h2⟩
  · rw [List.getElem?_append_right (by omega)] at hq
    have h0 : i - ps.length = 0 := by
      rcases Nat.eq_zero_or_pos (i - ps.length) with g | g
      · exact g
      · rw [List.getElem?_eq_none (by simp; omega)] at hq; cases hq
    rw [h0] at hq
    obtain rfl : p = q := by simpa using hq
    exact ⟨v, by rw [List.getElem?_append_right (by omega), hl, h0]; rfl, hp⟩
/-- A leaf is a part of a root. -/
theorem IsP.leafK {w : World} {D : Nat → Prop} {v : Value} {k : Nat} {x : List UInt8} (h : IsP w D v (.leaf k x)) : IsK w D v (.leaf k x) := by
  generalize hp : X.Part.leaf k x = p at h
  cases h with
  | leaf k' x' => exact .leaf k' x'
  | miss m => cases hp
  | br k N cap ao vs ps hN hb hc hr hp' => cases hp
  | kid N n p hn h =>
    exfalso
    subst hp
    cases h
/-- Leaves behind the parts. -/
theorem Ks.leaves {w : World} {D : Nat → Prop} {vs us : List Value} {ps : List X.Part} {ts : List X.Tok} (h : Ks w D vs ps) (hl : vs.length = ps.length) (he : Each w D (vs ++ us) (ps ++ ts.map X.lf)) : Ks w D (vs ++ us) (ps ++ ts.map X.lf) := by
  intro i q hq
  by_cases hi : i < ps.length
  · rw [List.getElem?_append_left hi] at hq
    obtain ⟨u, h1, h2⟩ := h i q hq
    exact ⟨u, by rw [List.getElem?_append_left (by omega)]; exact h1, h2⟩
  · obtain ⟨u, h1, h2⟩ := he i q hq
    refine ⟨u, h1, ?_⟩
    rw [List.getElem?_append_right (by omega), List.getElem?_map] at hq
    cases ht : ts[i - ps.length]? with
    | none => rw [ht] at hq; cases hq
    | some t => rw [ht] at hq; cases hq; exact h2.leafK
/-- A root in memory. -/
structure IsRt (w : World) (D : Nat → Prop) (B : Nat) (ps : List X.Part) : Prop where
  ex : ∃ (ao : Option Addr) (cap : Nat) (vs : Nat → Value), w.heap[B]? = some (.cells #[.int .i64 2, .slice ao ps.length cap] 57 (0, 0)) ∧ D B ∧ ps.length ≤ cap ∧ cap ≤ maxLen ∧ (∀ i, i < ps.length → ∃ g, ao = some ⟨g, 0, none⟩ ∧ D g ∧ w.cell? ⟨g, i, none⟩ = some (vs i)) ∧ (∀ (i : Nat) (p : X.Part), ps[i]? = some p → IsK w D (vs i) p)
theorem IsRt.part {w : World} {D : Nat → Prop} {B : Nat} {ps : List X.Part} (h : IsRt w D B ps) : IsP w D (.iface 54 (.pointer (some ⟨B, 0, none⟩))) (.br 2 ps) := by
  obtain ⟨ao, cap, vs, h1, h2, h3, h4, h5, h6⟩ := h.ex
  exact .br 2 B cap ao vs ps h2 h1 ⟨h3, h4⟩ h5 fun i p hp => (h6 i p hp).part
theorem IsRt.row {w : World} {D : Nat → Prop} {B : Nat} {ps : List X.Part} (h : IsRt w D B ps) : ∃ rv, w.cell? ⟨B, 1, none⟩ = some rv ∧ IsKs w D rv ps := by
  obtain ⟨ao, cap, vs, h1, h2, h3, h4, h5, h6⟩ := h.ex
  refine ⟨_, cell_of_row _ _ 1 _ _ _ h1, ⟨ao, cap, vs, rfl, h3, h4, fun i hi => ?_, h6⟩⟩
  obtain ⟨g, g1, g2, g3⟩ := h5 i hi
  exact ⟨g, 0, g1, g2, by rw [Nat.zero_add]; exact g3⟩
theorem IsRt.keep {S : Nat → Prop} {w w' : World} {D : Nat → Prop} (hk : Kp S w w') (hD : ∀ q, D q → ¬ S q) {B : Nat} {ps : List X.Part} (h : IsRt w D B ps) : IsRt w' D B ps := by
  obtain ⟨ao, cap, vs, h1, h2, h3, h4, h5, h6⟩ := h.ex
  exact ⟨ao, cap, vs, hk.heap h1 (hD _ h2), h2, h3, h4, fun i hi => by obtain ⟨g, g1, g2, g3⟩ := h5 i hi; exact ⟨g, g1, g2, hk.cellv g3 (hD _ g2)⟩, fun i p hp => (h6 i p hp).keep hk hD⟩
theorem Bran.root {w : World} {B : Nat} {rv : Value} {vs : List Value} {ps : List X.Part} {D : Nat → Prop} (h : Bran w B 2 rv vs) (hl : vs.length = ps.length) (hk : Ks w D vs ps) : IsRt w (fun q => D q ∨ q = B ∨ rv.ownBlock = some q) B ps := by
  have hm : ∀ q, D q → (D q ∨ q = B ∨ rv.ownBlock = some q) := fun q hq => .inl hq
  obtain ⟨hb, hr⟩ := h
  rcases hr.2 with ⟨rfl, h0⟩ | ⟨g, cap, cur, rfl, -, hg, hn, hmx, hsz, ht⟩
  · have hp : ps = [] := List.length_eq_zero_iff.1 (by omega)
    subst hp
    exact ⟨none, 0, (fun _ => undef), hb, .inr (.inl rfl), Nat.le_refl _, by unfold maxLen; omega, (fun i hi => by simp at hi), (fun i p hp => by simp at hp)⟩
  · rw [hl] at hb hn
    refine ⟨some ⟨g, 0, none⟩, cap, (fun i => vs.getD i undef), hb, .inr (.inl rfl), hn, hmx, (fun i hi => ⟨g, rfl, .inr (.inr rfl), ?_⟩), (fun i p hp => ?_)⟩
    · have hv : vs[i]? = some (vs.getD i undef) := by
        rw [List.getD_eq_getElem?_getD, List.getElem?_eq_getElem (by omega)]; rfl
      have := hr.cells (g := g) rfl i _ hv
      rwa [Addr.add_lit, Nat.zero_add] at this
    · obtain ⟨v, h1, h2⟩ := hk i p hp
      have : vs.getD i undef = v := by rw [List.getD_eq_getElem?_getD, h1]; rfl
      show IsK _ _ (vs.getD i undef) p
      rw [this]
      exact h2.mono hm
/-- A tree in memory: its text, and its root, whose parts are kids and leaves. -/
structure IsTk (w : World) (tb : Nat) (s : ByteArray) : Prop where
  ex : ∃ (db : Nat) (dv : Value) (B : Nat) (D : Nat → Prop), w.cell? ⟨tb, 0, none⟩ = some (.pointer (some ⟨db, 0, none⟩)) ∧ w.cell? ⟨tb, 1, none⟩ = some (.pointer (some ⟨B, 0, none⟩)) ∧ IsD w db dv s ∧ IsRt w D B (X.fileL (X.xt (bs s))) ∧ (∀ q, D q → q < w.heap.size) ∧ db < w.heap.size ∧ (∀ k, dv.ownBlock = some k → k < w.heap.size)
theorem IsTk.tr {w : World} {tb : Nat} {s : ByteArray} (h : IsTk w tb s) : IsTr w tb s := by
  obtain ⟨db, dv, B, D, h1, h2, h3, h4, h5, -⟩ := h.ex
  exact ⟨db, dv, B, D, h1, h2, h3, h4.part, h5⟩
theorem IsTk.below {w w' : World} {tb : Nat} {s : ByteArray} (h : IsTk w tb s) (hk : Below w.heap.size w w') : IsTk w' tb s := by
  obtain ⟨db, dv, B, D, h1, h2, h3, h4, h5, h6, h7⟩ := h.ex
  have hk' := Kp.ofBelow hk (fun _ => False)
  exact ⟨db, dv, B, D, hk'.cellv h1 id, hk'.cellv h2 id, h3.below hk, h4.keep hk' (fun _ _ => id), fun q hq => Nat.lt_of_lt_of_le (h5 q hq) hk.size, Nat.lt_of_lt_of_le h6 hk.size, fun k e => Nat.lt_of_lt_of_le (h7 k e) hk.size⟩
set_option maxRecDepth 100000 in
set_option maxHeartbeats 300000 in
theorem newTreeK_any (s : ByteArray) (w : World) (hT : Tabs w) (hs : s.size ≤ 134217728) :
    Calls Tryz.prog 6 #[.string s] w fun e w' => ∃ tb, e = .returned (.pointer (some ⟨tb, 0, none⟩)) ∧ Hid (IsTk w' tb s ∧ Below w.heap.size w w') := by
  have hS := toks_S s (by omega)
  go_enter Tryz.func6, Tryz.ntmps6
  go_wp2_with fail
  refine (new_any s w hT (by omega)).mono ?_
  rintro e w1 ⟨db, rfl, H1⟩
  go_wp2_with fail
  obtain ⟨dv, g1, g2, g3, g4, g5⟩ := H1.out
  have HD := hide g3
  have K1 := hide g5
  have hdb := g2
  have HDV : Hid (∀ k, dv.ownBlock = some k → k < w1.heap.size) := fun k hk => by have := (g4 k hk).2; omega
  have kA : Below w1.heap.size w1 (w1.alloc (Obj.cells #[.int .i64 2, .slice none 0 0] 57)) := (Below.refl _ w1).alloc (Nat.le_refl _) _
  have hnew : (w1.alloc (Obj.cells #[.int .i64 2, .slice none 0 0] 57)).heap[w1.heap.size]? = some (.cells #[.int .i64 2, .slice none 0 0] 57 (0, 0)) := heap_alloc_new w1 _
  have hzA : (w1.alloc (Obj.cells #[.int .i64 2, .slice none 0 0] 57)).heap.size = w1.heap.size + 1 := by simp
  clear g1 g2 g3 g4 g5 H1
  refine (readerOf_any db dv s _ ((HD.out).below kA) (by omega)).mono ?_
  rintro e w3 ⟨rb, tv, rfl, H3⟩
  have HW : Hid (Wk w3 rb s (toks 0 (bs s)) tv 0 0 w1.heap.size 2 (.slice none 0 0) [] [] (fun _ => False)) := by
    obtain ⟨r1, r2, r3, r4⟩ := H3.out
    refine ⟨r1, ⟨(Kp.ofBelow r4 (fun _ => False)).heap hnew id, World.ownsRow_nil _ _ _ _⟩, rfl, Each.nil _ _, (fun q hq => hq.elim), ⟨id, id, by omega⟩, (fun g hg => by cases hg), fun q hq => ?_⟩
    have := r3 q hq
    exact ⟨id, by omega, (fun e => by cases e), this.2⟩
  have K3 : Hid (Below w.heap.size w w3) := (K1.out).trans ((kA.trans ((H3.out).2.2.2.mono (by omega))).mono (K1.out).size)
  have HD3 := hide (((HD.out).below kA).below (H3.out).2.2.2)
  have hrb := (H3.out).2.1
  have hz1 := (K1.out).size
  clear H3 hnew kA
  have hL := hS.len
  have e0 : remT s (toks 0 (bs s)) 0 = X.xt (bs s) := by unfold remT X.xt; simp
  go_wp2_with fail
  go_loopw [] (fun wr => ∃ (a : Nat) (rv : Value) (vs : List Value) (ps : List X.Part) (D : Nat → Prop), ps.length ≤ a ∧ Hid (Wk wr rb s (toks 0 (bs s)) tv a 0 w1.heap.size 2 rv vs ps D) ∧ Hid (Ks wr D vs ps) ∧ Hid (X.fileL (X.xt (bs s)) = ps ++ X.fileL (remT s (toks 0 (bs s)) a)) ∧ Hid (∀ g, rv.ownBlock = some g → w3.heap.size ≤ g) ∧ Hid (∀ q, D q → w3.heap.size ≤ q) ∧ Hid (Kp (fun q => q = rb ∨ q = w1.heap.size) w3 wr)) (fun wr => (toks 0 (bs s)).length - atT rb wr)
  case atStart => exact ⟨0, _, _, _, _, Nat.le_refl _, HW, Ks.nil _ _, (by show _ = _; rw [e0]; rfl), (fun g hg => by cases hg), (fun q hq => hq.elim), Kp.refl _ _⟩
  case round =>
    obtain ⟨a, rv, vs, ps, D, hpa, HWr, HKs, HE, HG, HDD, HK⟩ := hrel
    have hle := (HWr.out).rdr.le
    have kI : (X.kindN (remT s (toks 0 (bs s)) a) != 0) = !(X.kindN (remT s (toks 0 (bs s)) a) == 0) := rfl
    have hat : (toks 0 (bs s)).length - atT rb wr = (remT s (toks 0 (bs s)) a).length := (Done.refl (HWr.out)).at
    have hln : ∀ a, (remT s (toks 0 (bs s)) a).length = (toks 0 (bs s)).length - a := fun a => by unfold remT; simp
    go_wp2_with fail
    refine (more_any rb s (toks 0 (bs s)) tv a 0 wr (HWr.out).rdr).mono ?_
    rintro e w4 ⟨rfl, rfl⟩
    rw [kI]
    cases hk : (X.kindN (remT s (toks 0 (bs s)) a) == 0) with
    | false =>
      have hlt := X.kid_lt hk
      have HF := hide (X.fileL_yes hk)
      go_wp2_with fail
      refine (kid_any hS rb tv a w4 (HWr.out).rdr D (HWr.out).dlt (HWr.out).sep.1 (fun q hq => ⟨((HWr.out).sepT q hq).1, ((HWr.out).sepT q hq).2.2.2⟩)).mono ?_
      rintro e w5 ⟨N, D', a', rfl, H5⟩
      have HW5 : Hid (Wk w5 rb s (toks 0 (bs s)) tv a' 0 w1.heap.size 2 rv vs ps D') := (HWr.out).grown (H5.out).2.2.2.2.2.2 (H5.out).1 (H5.out).2.2.2.1 (H5.out).2.2.2.2.1 (H5.out).2.2.2.2.2.1
      have hvl : vs.length ≤ 1073741824 := by rw [(HWr.out).len]; omega
      unfold kidV
      generalize hnn : (remT s (toks 0 (bs s)) a).length - (X.kid (remT s (toks 0 (bs s)) a)).2.2.length = nn
      have HNN : Hid (nn = (X.pl (.br (X.kid (remT s (toks 0 (bs s)) a)).1 (X.kid (remT s (toks 0 (bs s)) a)).2.1)).length) := by
        have h := congrArg List.length (X.kid_lvs (remT s (toks 0 (bs s)) a))
        rw [List.length_append] at h
        show nn = (X.pls (X.kid (remT s (toks 0 (bs s)) a)).2.1).length
        omega
      clear hnn
      go_wp2_with fail
      refine (add_any w1.heap.size 2 rv vs 63 _ w5 (HW5.out).bra (fun g hg => ((HW5.out).sepG g hg).2.2) hvl).mono ?_
      rintro e w6 ⟨rfl, rv6, b6, o6, k6⟩
      have HN : Hid (∃ (a2 : Nat) (rv2 : Value) (vs2 : List Value) (ps2 : List X.Part) (D2 : Nat → Prop), a < a2 ∧ a2 ≤ (toks 0 (bs s)).length ∧ ps2.length ≤ a2 ∧ Hid (Wk w6 rb s (toks 0 (bs s)) tv a2 0 w1.heap.size 2 rv2 vs2 ps2 D2) ∧ Hid (Ks w6 D2 vs2 ps2) ∧ Hid (X.fileL (X.xt (bs s)) = ps2 ++ X.fileL (remT s (toks 0 (bs s)) a2)) ∧ Hid (∀ g, rv2.ownBlock = some g → w3.heap.size ≤ g) ∧ Hid (∀ q, D2 q → w3.heap.size ≤ q) ∧ Hid (Kp (fun q => q = rb ∨ q = w1.heap.size) w3 w6)) := by
        obtain ⟨f1, f2, f3, f4, f5, f6, f7⟩ := H5.out
        have hz34 := (HK.out).size
        have hz45 := f7.size
        have hpk : IsP w6 D' (.iface 63 (.agg #[.pointer (some ⟨N, 0, none⟩), .int .i64 nn])) (.br (X.kid (remT s (toks 0 (bs s)) a)).1 (X.kid (remT s (toks 0 (bs s)) a)).2.1) := .kid N nn _ HNN.out (f3.keep k6 (fun q hq e => by
          rcases e with e | e
          · subst e; exact (HW5.out).sep.2.1 hq
          · exact ((HW5.out).sepG q e).1 hq))
        have hw6 := (HW5.out).added b6 o6 k6 hpk
        have hS6 : ∀ q, D' q → ¬ Sb w1.heap.size rv q := fun q hq e => by
          rcases e with e | e
          · subst e; exact (HW5.out).sep.2.1 hq
          · exact ((HW5.out).sepG q e).1 hq
        have hks6 : Ks w6 D' _ _ := ((((HKs.out).keep f7 (fun q hq e => (HWr.out).sep.1 (e ▸ hq))).mono f4).keep k6 hS6).snoc (HWr.out).len (.kid N nn _ _ HNN.out (f3.keep k6 hS6))
        have hle' := f1.le
        have hlt' : a < a' := by
          rw [← f2, hln, hln] at hlt; omega
        refine ⟨a', rv6, _, _, D', hlt', hle', by rw [List.length_append]; simp; omega, hw6, hks6, ?_, fun g hg => ?_, fun q hq => ?_, ?_⟩
        · show _ = _
          rw [HE.out, HF.out, f2, List.append_assoc]; rfl
        · rcases o6 g hg with e | e
          · exact (HG.out) g e
          · omega
        · rcases f5 q hq with e | e
          · exact (HDD.out) q e
          · omega
        · refine Kp.trans (Kp.trans (HK.out) f7 (fun i _ e => .inl e)) k6 (fun i hi e => ?_)
          rcases e with e | e
          · exact .inr e
          · have := (HG.out) i e; omega
      clear b6 o6 k6 HW5 H5
      obtain ⟨a2, rv2, vs2, ps2, D2, n1, n2, n3, n4, nk, n5, n6, n7, n8⟩ := HN.out
      go_wp2_with fail
      refine ⟨⟨a2, rv2, vs2, ps2, D2, n3, n4, nk, n5, n6, n7, n8⟩, ?_⟩
      rw [hat, (Done.refl n4.out).at, hln, hln]; omega
    | true =>
      have HF := hide (X.fileL_no hk)
      go_wp2_with fail
      refine (restV_any s (toks 0 (bs s)) 0 hS rb tv a w1.heap.size 2 rv vs ps D w4 HWr.out (by simp only [List.length_map]; rw [hln]; omega)).mono ?_
      rintro e w5 ⟨rfl, H5⟩
      have HR : Hid (∃ D2 : Nat → Prop, IsRt w5 D2 w1.heap.size (X.fileL (X.xt (bs s))) ∧ (∀ q, D2 q → q < w5.heap.size) ∧ IsD w5 db dv s ∧ Below w.heap.size w w5) := by
        obtain ⟨a5, rv5, us, f1, f2, f5, f6⟩ := H5.out
        have hz34 := (HK.out).size
        have he : ps ++ (remT s (toks 0 (bs s)) a).map X.lf = X.fileL (X.xt (bs s)) := by rw [HE.out, HF.out]
        have hS5 : ∀ q, D q → ¬ Sr rb w1.heap.size rv q := fun q hq e => by
          rcases e with e | e | e
          · exact (HWr.out).sep.1 (e ▸ hq)
          · exact (HWr.out).sep.2.1 (e ▸ hq)
          · exact ((HWr.out).sepG q e).1 hq
        have hks := ((HKs.out).keep f6 hS5).leaves (HWr.out).len f1.each
        have hp := f1.bra.root f1.len hks
        rw [he] at hp
        have hkk : Kp (fun q => q = rb ∨ q = w1.heap.size) w3 w5 := Kp.trans (HK.out) f6 (fun i hi e => by
          rcases e with e | e | e
          · exact .inl e
          · exact .inr e
          · have := (HG.out) i e; omega)
        refine ⟨_, hp, ?_, ?_, ?_⟩
        · rintro q (e | e | e)
          · exact f1.dlt q e
          · subst e; exact f1.bra.lt
          · exact (owns_ge f1.bra.row q e).2
        · refine (HD3.out).keep hkk ?_ (fun k hk => ?_)
          · rintro (e | e) <;> omega
          · have := (HDV.out) k hk
            rintro (e | e) <;> omega
        · exact (K3.out).trans (Kp.below hkk (by have := (K3.out).size; omega) (fun k e => by rcases e with e | e <;> omega))
      have hz5 : w1.heap.size ≤ w5.heap.size := by
        obtain ⟨a5, rv5, us, f1, f2, f5, f6⟩ := H5.out
        have h6 := f6.size
        have h7 := (HWr.out).rdr.raw.lt
        omega
      clear H5
      go_wp2_with fail
      go_ret
      obtain ⟨D2, f1, f2, f3, f4⟩ := HR.out
      have kT : Below w5.heap.size w5 (w5.alloc (Obj.cells #[.pointer (some ⟨db, 0, none⟩), .pointer (some ⟨w1.heap.size, 0, none⟩)] 67)) := (Below.refl _ w5).alloc (Nat.le_refl _) _
      refine ⟨w5.heap.size, rfl, ⟨⟨db, dv, w1.heap.size, D2, ?_, ?_, f3.below kT, f1.keep (Kp.ofBelow kT (fun _ => False)) (fun _ _ => id), fun q hq => by have := f2 q hq; simp; omega, by simp; omega, fun k hk => by have := (HDV.out) k hk; simp; omega⟩⟩, f4.trans (kT.mono f4.size)⟩
      · rw [cell_of_row _ _ 0 _ _ _ (heap_alloc_new w5 _)]; rfl
      · rw [cell_of_row _ _ 1 _ _ _ (heap_alloc_new w5 _)]; rfl
end Go.Proofs.YtkampoaceipngaaGreatDoor
/- Package tree: kids are read until an old one begins. -/
namespace Go.Proofs.YtkampoaceipngaaGreatDoor
open Go.RowKit Go.Shelf
open M

/-- Where an old part begins, by how many tokens are left. -/
def X.Begs (ops : List X.Part) (m : Nat) : Prop := ∃ i, i ≤ ops.length ∧ (X.pls (ops.drop i)).length = m
/-- Where until stands. -/
structure InU (w : World) (rb : Nat) (s : ByteArray) (L : List Tk) (tv : Value) (B : Nat) (rv0 : Value) (D0 : Nat → Prop) (ops : List X.Part) (a0 C c a j : Nat) (rvo rv : Value) (vs : List Value) (ps : List X.Part) (D : Nat → Prop) (wr : World) : Prop where
  wk : Wk wr rb s L tv a 0 B 2 rv vs ps D
  ks : Ks wr D vs ps
  fl : X.fileL (remT s L 0) = ps ++ X.fileL (remT s L a)
  old : IsKs wr D0 rvo (ops.drop j)
  sk : ∀ i, i < j → L.length - a < (X.pls (ops.drop i)).length
  cn : ∀ n, X.Cnt (X.Begs ops) (remT s L a) n → X.Cnt (X.Begs ops) (remT s L a0) (c + n)
  own : ∀ g, rv.ownBlock = some g → rv0.ownBlock = some g ∨ w.heap.size ≤ g
  d1 : ∀ q, D0 q → D q
  d2 : ∀ q, D q → D0 q ∨ w.heap.size ≤ q
  kp : Kp (Sr rb B rv0) w wr
  jl : j ≤ ops.length
  ca : c ≤ a
  pa : ps.length ≤ C + a
theorem InU.below {w : World} {rb : Nat} {s : ByteArray} {L : List Tk} {tv : Value} {B : Nat} {rv0 : Value} {D0 : Nat → Prop} {ops : List X.Part} {a0 C c a j : Nat} {rvo rv : Value} {vs : List Value} {ps : List X.Part} {D : Nat → Prop} {wr wx : World} (h : InU w rb s L tv B rv0 D0 ops a0 C c a j rvo rv vs ps D wr) (hk : Below wr.heap.size wr wx) : InU w rb s L tv B rv0 D0 ops a0 C c a j rvo rv vs ps D wx :=
  ⟨h.wk.below hk, h.ks.keep (Kp.ofBelow hk (fun _ => False)) (fun _ _ => id), h.fl, h.old.keep (Kp.ofBelow hk (fun _ => False)) (fun _ _ => id), h.sk, h.cn, h.own, h.d1, h.d2, h.kp.trans (Kp.ofBelow hk (fun _ => False)) (fun _ _ h => h.elim), h.jl, h.ca, h.pa⟩
theorem InU.skip {w : World} {rb : Nat} {s : ByteArray} {L : List Tk} {tv : Value} {B : Nat} {rv0 : Value} {D0 : Nat → Prop} {ops : List X.Part} {a0 C c a j : Nat} {rvo rv rvo2 : Value} {vs : List Value} {ps : List X.Part} {D : Nat → Prop} {wr : World} (h : InU w rb s L tv B rv0 D0 ops a0 C c a j rvo rv vs ps D wr) (hj : j < ops.length) (hlt : L.length - a < (X.pls (ops.drop j)).length) (ho : IsKs wr D0 rvo2 (ops.drop (j + 1))) : InU w rb s L tv B rv0 D0 ops a0 C c a (j + 1) rvo2 rv vs ps D wr :=
  ⟨h.wk, h.ks, h.fl, ho, fun i hi => by
    rcases Nat.lt_or_ge i j with g | g
    · exact h.sk i g
    · obtain rfl : i = j := by omega
      exact hlt, h.cn, h.own, h.d1, h.d2, h.kp, hj, h.ca, h.pa⟩
/-- The old blocks are not turned. -/
theorem InU.far {w : World} {rb : Nat} {s : ByteArray} {L : List Tk} {tv : Value} {B : Nat} {rv0 : Value} {D0 : Nat → Prop} {ops : List X.Part} {a0 C c a j : Nat} {rvo rv : Value} {vs : List Value} {ps : List X.Part} {D : Nat → Prop} {wr : World} (h : InU w rb s L tv B rv0 D0 ops a0 C c a j rvo rv vs ps D wr) : ∀ q, D q → ¬ Sr rb B rv q := fun q hq e => by
  rcases e with e | e | e
  · exact h.wk.sep.1 (e ▸ hq)
  · exact h.wk.sep.2.1 (e ▸ hq)
  · exact (h.wk.sepG q e).1 hq
/-- A kid has been read. -/
theorem InU.more {w : World} {rb : Nat} {s : ByteArray} {L : List Tk} {tv : Value} {B : Nat} {rv0 : Value} {D0 : Nat → Prop} {ops : List X.Part} {a0 C c a j : Nat} {rvo rv : Value} {vs : List Value} {ps : List X.Part} {D : Nat → Prop} {wr : World} (h : InU w rb s L tv B rv0 D0 ops a0 C c a j rvo rv vs ps D wr)
    {w5 w6 : World} {N nn a' : Nat} {D' : Nat → Prop} {rv6 : Value} (hk : (X.kindN (remT s L a) == 0) = false) (hP : ¬ X.Begs ops (L.length - a))
    (f1 : RdrT w5 rb s L tv a' 0) (f2 : remT s L a' = (X.kid (remT s L a)).2.2) (f3 : IsP w5 D' (.iface 54 (.pointer (some ⟨N, 0, none⟩))) (.br (X.kid (remT s L a)).1 (X.kid (remT s L a)).2.1)) (f4 : ∀ q, D q → D' q) (f5 : ∀ q, D' q → D q ∨ wr.heap.size ≤ q) (f6 : ∀ q, D' q → q < w5.heap.size) (f7 : On rb wr w5)
    (hnn : nn = (X.pls (X.kid (remT s L a)).2.1).length)
    (b6 : Bran w6 B 2 rv6 (vs ++ [.iface 63 (.agg #[.pointer (some ⟨N, 0, none⟩), .int .i64 nn])])) (o6 : ∀ g, rv6.ownBlock = some g → rv.ownBlock = some g ∨ w5.heap.size ≤ g) (k6 : Kp (Sb B rv) w5 w6) :
    a < a' ∧ a' ≤ L.length ∧ InU w rb s L tv B rv0 D0 ops a0 C (c + 1) a' j rvo rv6 (vs ++ [.iface 63 (.agg #[.pointer (some ⟨N, 0, none⟩), .int .i64 nn])]) (ps ++ [.br (X.kid (remT s L a)).1 (X.kid (remT s L a)).2.1]) D' w6 := by
  have hlt := X.kid_lt hk
  have hln : ∀ a, (remT s L a).length = L.length - a := fun a => by unfold remT; simp
  have hle' := f1.le
  have hlt' : a < a' := by rw [← f2, hln, hln] at hlt; omega
  have hW5 : Wk w5 rb s L tv a' 0 B 2 rv vs ps D' := h.wk.grown f7 f1 f4 f5 f6
  have hS6 : ∀ q, D' q → ¬ Sb B rv q := fun q hq e => by
    rcases e with e | e
    · exact hW5.sep.2.1 (e ▸ hq)
    · exact (hW5.sepG q e).1 hq
  have hz := h.kp.size
  have hz5 := f7.size
  have hpk : IsP w6 D' (.iface 63 (.agg #[.pointer (some ⟨N, 0, none⟩), .int .i64 nn])) (.br (X.kid (remT s L a)).1 (X.kid (remT s L a)).2.1) := .kid N nn _ hnn (f3.keep k6 hS6)
  have hD05 : ∀ q, D0 q → ¬ q = rb := fun q hq e => h.wk.sep.1 (e ▸ h.d1 q hq)
  refine ⟨hlt', hle', hW5.added b6 o6 k6 hpk, ((((h.ks).keep f7 (fun q hq e => h.wk.sep.1 (e ▸ hq))).mono f4).keep k6 hS6).snoc h.wk.len (.kid N nn _ _ hnn (f3.keep k6 hS6)), ?_, (h.old.keep f7 hD05).keep k6 (fun q hq => hS6 q (f4 q (h.d1 q hq))), fun i hi => ?_, fun n hn => ?_, fun g hg => ?_, fun q hq => f4 q (h.d1 q hq), fun q hq => ?_, ?_, h.jl, ?_, ?_⟩
  · rw [h.fl, X.fileL_yes hk, f2, List.append_assoc]; rfl
  · have := h.sk i hi; omega
  · rw [Nat.add_assoc, Nat.add_comm 1 n]
    refine h.cn (n + 1) (.on _ n hk ?_ ?_)
    · rw [hln]; exact hP
    · rw [← f2]; exact hn
  · rcases o6 g hg with e | e
    · exact h.own g e
    · exact .inr (by omega)
  · rcases f5 q hq with e | e
    · exact h.d2 q e
    · exact .inr (by omega)
  · refine Kp.trans (Kp.trans h.kp f7 (fun i _ e => .inl e)) k6 (fun i hi e => ?_)
    rcases e with e | e
    · exact .inr (.inl e)
    · rcases h.own i e with e | e
      · exact .inr (.inr e)
      · omega
  · have := h.ca; omega
  · have := h.pa; rw [List.length_append]; simp; omega
/-- What until has made. -/
structure UnD (w : World) (rb : Nat) (s : ByteArray) (L : List Tk) (tv0 : Value) (B : Nat) (rv0 : Value) (D0 : Nat → Prop) (ops : List X.Part) (a0 c : Nat) (wr : World) : Prop where
  ex : ∃ (rv : Value) (vs : List Value) (D : Nat → Prop), Bran wr B 2 rv vs ∧ vs.length = (X.fileL (remT s L 0)).length ∧ Ks wr D vs (X.fileL (remT s L 0)) ∧ (∀ g, rv.ownBlock = some g → rv0.ownBlock = some g ∨ w.heap.size ≤ g) ∧ (∀ q, D q → D0 q ∨ w.heap.size ≤ q) ∧ (∀ q, D q → q < wr.heap.size)
  kp : Kp (Sr rb B rv0) w wr
  cn : X.Cnt (X.Begs ops) (remT s L a0) c
  rt : ∃ tv a', RdrT wr rb s L tv a' 0 ∧ tv = tv0
theorem InU.stop {w : World} {rb : Nat} {s : ByteArray} {L : List Tk} {tv : Value} {B : Nat} {rv0 : Value} {D0 : Nat → Prop} {ops : List X.Part} {a0 C c a j : Nat} {rvo rv : Value} {vs : List Value} {ps : List X.Part} {D : Nat → Prop} {wr : World} (h : InU w rb s L tv B rv0 D0 ops a0 C c a j rvo rv vs ps D wr) (hk : (X.kindN (remT s L a) == 0) = false) (heq : (X.pls (ops.drop j)).length = L.length - a) (hEnd : X.fileL (remT s L (L.length - (X.pls (ops.drop j)).length)) = ops.drop j)
    {news : List Value} (hnl : news.length = (ops.drop j).length) (hnk : Ks wr D0 news (ops.drop j)) {w6 : World} {rv6 : Value} (b6 : Bran w6 B 2 rv6 (vs ++ news)) (o6 : ∀ g, rv6.ownBlock = some g → rv.ownBlock = some g ∨ wr.heap.size ≤ g) (k6 : Kp (Sb B rv) wr w6) : UnD w rb s L tv B rv0 D0 ops a0 c w6 := by
  have hln : ∀ a, (remT s L a).length = L.length - a := fun a => by unfold remT; simp
  have hle := h.wk.rdr.le
  have hfl : X.fileL (remT s L 0) = ps ++ ops.drop j := by
    rw [h.fl]; congr 1
    rw [heq, show L.length - (L.length - a) = a by omega] at hEnd
    exact hEnd
  have hz := h.kp.size
  have hS6 : ∀ q, D q → ¬ Sb B rv q := fun q hq e => h.far q hq (.inr e)
  have hks : Ks w6 D (vs ++ news) (ps ++ ops.drop j) := by
    intro i p hp
    by_cases hi : i < ps.length
    · rw [List.getElem?_append_left hi] at hp
      obtain ⟨v, h1, h2⟩ := (h.ks.keep k6 hS6) i p hp
      exact ⟨v, by rw [List.getElem?_append_left (by rw [h.wk.len]; exact hi)]; exact h1, h2⟩
    · rw [List.getElem?_append_right (by omega)] at hp
      obtain ⟨v, h1, h2⟩ := ((hnk.mono h.d1).keep k6 hS6) _ p hp
      exact ⟨v, by rw [List.getElem?_append_right (by rw [h.wk.len]; omega), h.wk.len]; exact h1, h2⟩
  refine ⟨⟨rv6, _, D, b6, ?_, ?_, fun g hg => ?_, h.d2, fun q hq => Nat.lt_of_lt_of_le (h.wk.dlt q hq) k6.size⟩, ?_, ?_, ?_⟩
  · rw [hfl, List.length_append, List.length_append, h.wk.len, hnl]
  · rw [hfl]; exact hks
  · rcases o6 g hg with e | e
    · exact h.own g e
    · exact .inr (by omega)
  · refine Kp.trans h.kp k6 (fun i hi e => ?_)
    rcases e with e | e
    · exact .inr (.inl e)
    · rcases h.own i e with e | e
      · exact .inr (.inr e)
      · omega
  · have := h.cn 0 (.stop _ hk ⟨j, h.jl, by rw [heq, hln]⟩)
    rwa [Nat.add_zero] at this
  · refine ⟨tv, a, h.wk.rdr.keep k6 (fun e => ?_) (fun q hq e => ?_), rfl⟩
    · rcases e with e | e
      · exact h.wk.sep.2.2 e.symm
      · exact (h.wk.sepG rb e).2.1 rfl
    · obtain ⟨-, a2, a3, -⟩ := h.wk.sepT q hq
      rcases e with e | e
      · exact a2 e
      · exact a3 e
theorem InU.rest {w : World} {rb : Nat} {s : ByteArray} {L : List Tk} {tv : Value} {B : Nat} {rv0 : Value} {D0 : Nat → Prop} {ops : List X.Part} {a0 C c a j : Nat} {rvo rv : Value} {vs : List Value} {ps : List X.Part} {D : Nat → Prop} {wr : World} (h : InU w rb s L tv B rv0 D0 ops a0 C c a j rvo rv vs ps D wr) (hk : (X.kindN (remT s L a) == 0) = true) {w6 : World}
    (hd : DoneV wr rb s L tv 0 B 2 rv vs (ps ++ (remT s L a).map X.lf) [] D w6) : UnD w rb s L tv B rv0 D0 ops a0 c w6 := by
  obtain ⟨a5, rv5, us, f1, f2, f5, f6⟩ := hd
  have hfl : X.fileL (remT s L 0) = ps ++ (remT s L a).map X.lf := by rw [h.fl, X.fileL_no hk]
  have hz := h.kp.size
  refine ⟨⟨rv5, _, D, f1.bra, ?_, ?_, fun g hg => ?_, h.d2, f1.dlt⟩, ?_, ?_, ?_⟩
  · rw [hfl]; exact f1.len
  · rw [hfl]; exact (h.ks.keep f6 h.far).leaves h.wk.len f1.each
  · rcases f5 g hg with e | e
    · exact h.own g e
    · exact .inr (by omega)
  · refine Kp.trans h.kp f6 (fun i hi e => ?_)
    rcases e with e | e | e
    · exact .inl e
    · exact .inr (.inl e)
    · rcases h.own i e with e | e
      · exact .inr (.inr e)
      · omega
  · have := h.cn 0 (.none _ hk)
    rwa [Nat.add_zero] at this
  · exact ⟨tv, a5, f1.rdr, rfl⟩
end Go.Proofs.YtkampoaceipngaaGreatDoor
/- Package tree: kids are read until an old one begins: the walk. -/
namespace Go.Proofs.YtkampoaceipngaaGreatDoor
open Go.RowKit Go.Shelf
open M

theorem IsKs.form {w : World} {D : Nat → Prop} {rv : Value} {ps : List X.Part} (h : IsKs w D rv ps) : ∃ ao cap, rv = .slice ao ps.length cap := by
  obtain ⟨ao, cap, vs, e, -⟩ := h.ex
  exact ⟨ao, cap, e⟩
/-- The first part, and those behind it. -/
theorem IsKs.head {w : World} {D : Nat → Prop} {ao : Option Addr} {cap : Nat} {p : X.Part} {ps : List X.Part} (h : IsKs w D (.slice ao (ps.length + 1) cap) (p :: ps)) :
    ∃ g o ty x, ao = some ⟨g, o, none⟩ ∧ D g ∧ w.cell? ⟨g, o, none⟩ = some (.iface ty x) ∧ IsK w D (.iface ty x) p ∧ ps.length + 1 ≤ cap ∧ cap ≤ maxLen ∧
      (cap ≠ 1 → IsKs w D (.slice (some ⟨g, o + 1, none⟩) ps.length (cap - 1)) ps) ∧ (cap = 1 → IsKs w D (.slice (some ⟨g, o, none⟩) 0 0) ps ∧ ps = []) := by
  have hc := h.cut (ao := ao) (cap := cap) (ps := p :: ps) (j := 1) (by rw [List.length_cons]; omega)
  obtain ⟨ao', cap', vs, e, h1, h2, hr, hp⟩ := h.ex
  obtain ⟨rfl, -, rfl⟩ := Value.slice.inj e
  obtain ⟨g, o, rfl, hD, hcell⟩ := hr 0 (by rw [List.length_cons]; omega)
  have hk := hp 0 p rfl
  obtain ⟨ty, x, hv⟩ := hk.part.iface
  rw [hv] at hcell hk
  rw [List.length_cons] at h1
  refine ⟨g, o, ty, x, rfl, hD, hcell, hk, h1, h2, fun _ => ?_, fun e1 => ?_⟩
  · rw [Option.map_some, Addr.add_lit] at hc
    exact hc
  · have hps : ps = [] := List.length_eq_zero_iff.1 (by omega)
    subst hps
    exact ⟨⟨_, 0, fun _ => .bool false, rfl, Nat.le_refl _, by omega, fun i hi => absurd hi (Nat.not_lt_zero _), fun i p h => by cases h⟩, rfl⟩
/-- The parts as values. -/
theorem IsKs.vals {w : World} {D : Nat → Prop} {rv : Value} {ps : List X.Part} (h : IsKs w D rv ps) (h0 : ps ≠ []) : ∃ g o cap news, rv = .slice (some ⟨g, o, none⟩) ps.length cap ∧ news.length = ps.length ∧ Ks w D news ps ∧ (∀ j u, news[j]? = some u → w.cell? ((⟨g, o, none⟩ : Addr).add j) = some u) ∧ (∀ u ∈ news, u.oneCell' = true) := by
  obtain ⟨ao, cap, vs, rfl, h1, h2, hr, hp⟩ := h.ex
  have hpos : 0 < ps.length := List.length_pos_iff.2 h0
  obtain ⟨g, o, rfl, -, -⟩ := hr 0 hpos
  have hget : ∀ i, i < ps.length → ((List.range ps.length).map vs)[i]? = some (vs i) := fun i hi => by
    rw [List.getElem?_map, List.getElem?_range hi]; rfl
  refine ⟨g, o, cap, (List.range ps.length).map vs, rfl, by simp, fun i p hi => ?_, fun j u hj => ?_, fun u hu => ?_⟩
  · have hlt : i < ps.length := by
      rcases Nat.lt_or_ge i ps.length with g | g
      · exact g
      · rw [List.getElem?_eq_none g] at hi; cases hi
    exact ⟨vs i, hget i hlt, hp i p hi⟩
  · have hlt : j < ps.length := by
      rcases Nat.lt_or_ge j ps.length with g | g
      · exact g
      · rw [List.getElem?_eq_none (by simpa using g)] at hj; cases hj
    rw [hget j hlt] at hj
    cases hj
    obtain ⟨g', o', e, -, hc⟩ := hr j hlt
    cases e
    rw [Addr.add_lit]; exact hc
  · obtain ⟨i, hi, rfl⟩ := List.mem_map.1 hu
    have hlt : i < ps.length := by simpa using hi
    obtain ⟨ty, x, hv⟩ := (hp i _ (List.getElem?_eq_getElem hlt)).part.iface
    rw [hv]; rfl
/-- How long a slice is. -/
def slen : Value → Nat
  | .slice _ n _ => n
  | _ => 0
theorem drop_pos {ops : List X.Part} {j m : Nat} (h : m < (X.pls (ops.drop j)).length) : j < ops.length := by
  rcases Nat.lt_or_ge j ops.length with g | g
  · exact g
  · rw [List.drop_eq_nil_of_le g] at h; simp [X.pls] at h
theorem pls_drop_le (ops : List X.Part) (j : Nat) : (X.pls (ops.drop j)).length ≤ (X.pls ops).length := by
  have := X.pls_take_drop ops j; omega
theorem begs_mono {ops : List X.Part} {i j : Nat} (h : i ≤ j) : (X.pls (ops.drop j)).length ≤ (X.pls (ops.drop i)).length := by
  have := pls_drop_le (ops.drop i) (j - i)
  rwa [List.drop_drop, show i + (j - i) = j by omega] at this

set_option maxRecDepth 100000 in
set_option maxHeartbeats 4000000 in
theorem tuntil_any (w : World) (rb : Nat) (s : ByteArray) (L : List Tk) (tv : Value) (B : Nat) (rv : Value) (D : Nat → Prop) (rvo : Value) (ops : List X.Part) (a : Nat) (vs : List Value) (ps : List X.Part) (hS : TokS s L) (h : Wk w rb s L tv a 0 B 2 rv vs ps D) (hks : Ks w D vs ps) (hfl : X.fileL (remT s L 0) = ps ++ X.fileL (remT s L a)) (ho : IsKs w D rvo ops) (hpl : ops.length ≤ 268435456) (hl : (X.pls ops).length ≤ 268435456) (hps : ps.length ≤ 268435456)
    (hEnd : ∀ i, i ≤ ops.length → X.fileL (remT s L (L.length - (X.pls (ops.drop i)).length)) = ops.drop i) :
    Calls Tryz.prog 34 #[.pointer (some ⟨rb, 0, none⟩), .pointer (some ⟨B, 0, none⟩), rvo] w fun e w' => ∃ c : Nat, e = .returned (.int .i64 c) ∧ Hid (UnD w rb s L tv B rv D ops a c w') := by
  obtain ⟨i0, hi0, hz0, hz1, hz2⟩ := info_parts infoP
  have hsz := hS.len
  have HEnd := hide hEnd
  have HU0 : Hid (InU w rb s L tv B rv D ops a ps.length 0 a 0 rvo rv vs ps D w) := ⟨h, hks, hfl, by rw [List.drop_zero]; exact ho, fun i hi => absurd hi (Nat.not_lt_zero _), fun n hn => by rw [Nat.zero_add]; exact hn, fun g hg => .inl hg, fun _ => id, fun _ => .inl, Kp.refl _ _, Nat.zero_le _, Nat.zero_le _, by omega⟩
  have HO := hide ho
  obtain ⟨aov, capv, rfl⟩ := ho.form
  have hal := h.rdr.le
  clear h hks hfl ho hEnd
  have hln : ∀ a, (remT s L a).length = L.length - a := fun a => by unfold remT; simp
  have HLn := hide hln
  clear hln
  go_enter Tryz.func34, Tryz.ntmps34
  go_wp2_with fail
  refine (tokensOf_any w D _ ops HO.out (by omega) (by omega)).mono ?_
  rintro e w1 ⟨rfl, k1⟩
  have HU1 : Hid (InU w rb s L tv B rv D ops a ps.length 0 a 0 (.slice aov ops.length capv) rv vs ps D w1) := (HU0.out).below k1
  clear k1 HU0 HO
  go_wp2_with fail
  go_loopw [2, 7, 8] (fun ov cv lv wr => ∃ (c a' j : Nat) (rvo' rv' : Value) (vs' : List Value) (ps' : List X.Part) (D' : Nat → Prop), rvo' = ov ∧ cv = .int .i64 c ∧ lv = .int .i64 (X.pls (ops.drop j)).length ∧ Hid (InU w rb s L tv B rv D ops a ps.length c a' j rvo' rv' vs' ps' D' wr)) (fun _ _ _ wr => L.length - atT rb wr)
  case atStart => exact ⟨0, a, 0, _, rv, vs, ps, D, rfl, rfl, by rw [List.drop_zero], HU1⟩
  case round =>
    obtain ⟨c, a', j, rvo', rv', vs', ps', D', rfl, rfl, rfl, HI⟩ := hrel
    clear HU1
    have hle := (HI.out).wk.rdr.le
    have hca := (HI.out).ca
    have hpa := (HI.out).pa
    have hjl := (HI.out).jl
    have kI : (X.kindN (remT s L a') != 0) = !(X.kindN (remT s L a') == 0) := rfl
    have hat : L.length - atT rb wr = L.length - a' := (Done.refl ((HI.out).wk)).at.trans ((HLn.out) a')
    go_wp2_with fail
    refine (more_any rb s L tv a' 0 wr (HI.out).wk.rdr).mono ?_
    rintro e w4 ⟨rfl, rfl⟩
    rw [kI]
    clear kI
    cases hk : (X.kindN (remT s L a') == 0) with
    | true =>
      have hcl : c ≤ 1073741824 := by omega
      go_wp2_with fail
      refine (restV_any s L 0 hS rb tv a' B 2 rv' vs' ps' D' w4 (HI.out).wk (by rw [List.length_map, (HLn.out)]; omega)).mono ?_
      rintro e w5 ⟨rfl, H5⟩
      have HF : Hid (UnD w rb s L tv B rv D ops a c w5) := (HI.out).rest hk H5.out
      clear H5
      go_wp2_with fail
      go_ret
      exact ⟨c, rfl, HF⟩
    | false =>
      have HKN := hide hk
      obtain ⟨⟨c0, c1, c2, c3, c4, c5, c6⟩, f0, f1, f2, f3, f4, f5, f6⟩ := (HI.out).wk.rdr.raw.facts
      obtain ⟨aot, capt, htv, -⟩ := (HI.out).wk.rdr.row
      rw [htv] at c1
      go_wp2_with fail
      go_quiet (fail)
      have HI2 : Hid (InU w rb s L tv B rv D ops a ps.length c a' j rvo' rv' vs' ps' D' (w4.drewN nq)) := (HI.out).below (belowN (Below.refl _ w4) nq)
      have e0 : (L.length : Int) - (a' : Int) = ((L.length - a' : Nat) : Int) := by omega
      have hat2 : L.length - atT rb w4 = L.length - a' := hat
      clear c0 c1 c2 c3 c4 c5 c6 f0 f1 f2 f3 f4 f5 f6 htv HI hat
      generalize w4.drewN nq = W4 at *
      go_wp2_with fail
      try rw [e0]
      go_loopw [2, 8] (fun ov lv wr => ∃ (j2 : Nat) (rvo2 : Value), rvo2 = ov ∧ lv = .int .i64 (X.pls (ops.drop j2)).length ∧ j2 ≤ ops.length ∧ Hid (InU w rb s L tv B rv D ops a ps.length c a' j2 rvo2 rv' vs' ps' D' wr)) (fun ov _ _ => slen ov)
      case atStart => exact ⟨j, rvo', rfl, rfl, hjl, HI2⟩
      case round =>
        obtain ⟨j2, rvo2, rfl, rfl, hj2, HI3⟩ := hrel
        clear HI2
        have hpd := pls_drop_le ops j2
        by_cases hgt : L.length - a' < (X.pls (ops.drop j2)).length
        · have hj3 := drop_pos hgt
          have hd := List.drop_eq_getElem_cons hj3
          have hst := pls_drop hj3
          have ho := (HI3.out).old
          rw [hd] at ho
          obtain ⟨ao2, cap2, hrv⟩ := ho.form
          subst hrv
          rw [List.length_cons] at ho ⊢
          obtain ⟨g, o, ty, x, rfl, hDg, hcell, hk0, hc1, hc2, hn1, hn2⟩ := IsKs.head ho
          have HN1 := hide hn1
          have HN2 := hide hn2
          have HK0 := hide hk0
          have HSk : Hid (∀ (wx : World) (rvx : Value), Below wr.heap.size wr wx → IsKs wx D rvx (ops.drop (j2 + 1)) → InU w rb s L tv B rv D ops a ps.length c a' (j2 + 1) rvx rv' vs' ps' D' wx) := fun wx rvx hb hx => ((HI3.out).below hb).skip hj3 hgt hx
          have hln : (X.pl ops[j2]).length ≤ 1073741824 := by omega
          clear hn1 hn2 hk0 ho hd HI3
          generalize ops[j2] = pj at *
          have HPO := hide (pls_one pj)
          generalize hnn : (X.pl pj).length = n at *
          have hml : (ops.drop (j2 + 1)).length ≤ 268435456 := by rw [List.length_drop]; omega
          generalize hl3 : (X.pls (ops.drop (j2 + 1))).length = l3 at *
          generalize hl2 : (X.pls (ops.drop j2)).length = l2 at *
          generalize hm : (ops.drop (j2 + 1)).length = m at *
          have i0n : decide (L.length - a' < l2) = true := by simp; omega
          have i1 : decide (((L.length - a' : Nat) : Int) < (l2 : Int)) = true := by simp; omega
          have i2 : decide ((l2 : Int) > ((L.length - a' : Nat) : Int)) = true := by simp; omega
          have hi1 : (0 : Int) < ((m + 1 : Nat) : Int) := by omega
          have hi2 : 0 < m + 1 := by omega
          have e3 : (l2 : Int) - (n : Int) = (l3 : Int) := by omega
          have hl2b : l2 ≤ 268435456 := by omega
          have hl3b : l3 ≤ 268435456 := by omega
          clear hnn hl2 hm hpd hst hgt
          go_wp2_with fail
          refine (tokensOf_any _ _ _ [pj] (one_isKs (Below.refl _ wr) HK0.out _) (by rw [HPO.out]; exact hln) (by simp)).mono ?_
          rintro e w5 ⟨rfl, k5⟩
          rw [HPO.out]
          have HB5 : Hid (Below wr.heap.size wr w5) := by
            have hA : Below wr.heap.size wr (wr.alloc (.cells #[.iface ty x] 106)) := (Below.refl _ wr).alloc (Nat.le_refl _) _
            exact hA.trans (k5.mono hA.size)
          clear k5 hcell
          by_cases hcap : cap2 = 1
          · obtain ⟨hx1, hx2⟩ := (HN2.out) hcap
            have HX := hide (hx1.keep (Kp.ofBelow HB5.out (fun _ => False)) (fun _ _ => id))
            have hm0 : m = 0 := by omega
            subst hcap
            subst hm0
            clear hx1 hx2 HN1 HN2
            go_wp2_with fail
            exact ⟨⟨j2 + 1, _, rfl, by rw [hl3], hj3, (HSk.out) _ _ HB5.out HX.out⟩, by simp only [slen]; omega⟩
          · have HX := hide (((HN1.out) hcap).keep (Kp.ofBelow HB5.out (fun _ => False)) (fun _ _ => id))
            clear HN1 HN2
            go_wp2_with fail
            exact ⟨⟨j2 + 1, _, rfl, by rw [hl3], hj3, (HSk.out) _ _ HB5.out HX.out⟩, by simp only [slen]; omega⟩
        · have i0n : decide (L.length - a' < (X.pls (ops.drop j2)).length) = false := by simp; omega
          have i1 : decide (((L.length - a' : Nat) : Int) < ((X.pls (ops.drop j2)).length : Int)) = false := by simp; omega
          have i2 : decide (((X.pls (ops.drop j2)).length : Int) > ((L.length - a' : Nat) : Int)) = false := by simp; omega
          by_cases heq : (X.pls (ops.drop j2)).length = L.length - a'
          · have i3 : (((X.pls (ops.drop j2)).length : Int) == ((L.length - a' : Nat) : Int)) = true := by simp; omega
            have hlt0 : 0 < L.length - a' := by
              have := X.kid_lt HKN.out
              rw [(HLn.out)] at this; omega
            have hne : ops.drop j2 ≠ [] := by
              intro e
              rw [e] at heq
              simp [X.pls] at heq
              omega
            have HEn := hide ((HEnd.out) j2 hj2)
            obtain ⟨g, o, capo, news, hrv, hnl, hnk, hcells, hone⟩ := ((HI3.out).old).vals hne
            subst hrv
            obtain ⟨⟨c0, c1⟩, f0, f1⟩ := (HI3.out).wk.bra.facts
            have hbl := (HI3.out).wk.bra.lt
            have HG : Hid (∀ q, rv'.ownBlock = some q → q ≠ B) := fun q hq => ((HI3.out).wk.sepG q hq).2.2
            have hvl : vs'.length ≤ 805306368 := by rw [(HI3.out).wk.len]; omega
            have hml : (ops.drop j2).length ≤ 268435456 := by rw [List.length_drop]; omega
            have hm0 : 0 < (ops.drop j2).length := List.length_pos_iff.2 hne
            have HNl := hide hnl
            have HNk := hide hnk
            have HCe := hide hcells
            have HOn := hide hone
            have HEq := hide heq
            clear hnl hnk hcells hone hne heq hgt
            generalize hm : (ops.drop j2).length = m at *
            go_wp2_with (at_builtin; refine wpList_append_lies _ rfl _ _ 55 rfl 0 106 i0 _ 1 16 Tryz.underlying55 hi0 hz0 hz1 hz2 rfl (by decide) rv' vs'.length vs' rfl ((HI3.out).wk.bra.row) ⟨g, o, none⟩ m capo news rfl (by rw [HNl.out, Nat.mul_one]) (HCe.out) (HOn.out) hm0 (by unfold maxLen; omega) (by omega) (Nat.zero_le _) wr.heap.size rfl ?_; intro g5 cap5 w5 hown5 hgrow5 hat5 hlt5; have x1 : w5.cell? ⟨B, 1, none⟩ = some rv' := (hgrow5.cell_far ⟨B, 1, none⟩ hbl (fun e => (HG.out) B e.symm rfl)).trans c1; have x2 : w5.frozen? ⟨B, 1, none⟩ = false := (hgrow5.frozen_far ⟨B, 1, none⟩ hbl (fun e => (HG.out) B e.symm rfl)).trans f1; have HW5 := hide hown5; have HG5 := hide hgrow5; clear hown5 hgrow5)
            go_ret
            have hk1 : Kp (Sb B rv') wr w5 := Kp.grown (Kp.refl _ wr) HG5.out (fun k e _ => .inr e)
            have hk6 : Kp (Sb B rv') wr (w5.setCell ⟨B, 1, none⟩ (.slice (some ⟨g5, 0, none⟩) (vs'.length + m) cap5)) := Kp.setCell hk1 (p := ⟨B, 1, none⟩) (fun _ => .inl rfl) _
            have hgB : g5 ≠ B := by
              rcases hat5 with e | e
              · exact (HG.out) g5 e
              · omega
            have b6 : Bran (w5.setCell ⟨B, 1, none⟩ (.slice (some ⟨g5, 0, none⟩) (vs'.length + m) cap5)) B 2 (.slice (some ⟨g5, 0, none⟩) (vs'.length + m) cap5) (vs' ++ news) := by
              refine ⟨?_, ?_⟩
              · have h5 : w5.heap[B]? = some (.cells #[.int .i64 2, rv'] 57 (0, 0)) := (HG5.out).block B hbl (fun e => (HG.out) B e.symm rfl) |>.trans ((HI3.out).wk.bra).blk
                simp [World.setCell, Array.getElem?_modify, h5]
              · rw [List.length_append, HNl.out]
                exact ownsRow_setCell_other HW5.out (by simp [Value.ownBlock]; omega) _
            have o6 : ∀ q, (Value.slice (some ⟨g5, 0, none⟩) (vs'.length + m) cap5).ownBlock = some q → rv'.ownBlock = some q ∨ wr.heap.size ≤ q := by
              intro q hq
              simp only [Value.ownBlock, Option.some.injEq] at hq
              subst hq
              rcases hat5 with e | e
              · exact .inl e
              · exact .inr (by omega)
            exact ⟨c, rfl, (HI3.out).stop HKN.out HEq.out HEn.out (by rw [hm]; exact HNl.out) HNk.out b6 o6 hk6⟩
          · have i3 : (((X.pls (ops.drop j2)).length : Int) == ((L.length - a' : Nat) : Int)) = false := by simp; omega
            have HNB : Hid (¬ X.Begs ops (L.length - a')) := by
              rintro ⟨i, hi, e⟩
              rcases Nat.lt_or_ge i j2 with g | g
              · have := (HI3.out).sk i g; omega
              · have := begs_mono (ops := ops) g; omega
            have hcl : c + 1 ≤ 1073741824 := by omega
            go_wp2_with fail
            refine (kid_any hS rb tv a' wr (HI3.out).wk.rdr D' (HI3.out).wk.dlt (HI3.out).wk.sep.1 (fun q hq => ⟨((HI3.out).wk.sepT q hq).1, ((HI3.out).wk.sepT q hq).2.2.2⟩)).mono ?_
            rintro e w5 ⟨N, D5, a5, rfl, H5⟩
            have HW5 : Hid (Wk w5 rb s L tv a5 0 B 2 rv' vs' ps' D5) := (HI3.out).wk.grown (H5.out).2.2.2.2.2.2 (H5.out).1 (H5.out).2.2.2.1 (H5.out).2.2.2.2.1 (H5.out).2.2.2.2.2.1
            have hvl : vs'.length ≤ 1073741824 := by rw [(HI3.out).wk.len]; omega
            unfold kidV
            generalize hnn : (remT s L a').length - (X.kid (remT s L a')).2.2.length = nn
            have HNN : Hid (nn = (X.pls (X.kid (remT s L a')).2.1).length) := by
              have h := congrArg List.length (X.kid_lvs (remT s L a'))
              rw [List.length_append] at h
              show nn = (X.pls (X.kid (remT s L a')).2.1).length
              omega
            clear hnn
            go_wp2_with fail
            refine (add_any B 2 rv' vs' 63 _ w5 (HW5.out).bra (fun g hg => ((HW5.out).sepG g hg).2.2) hvl).mono ?_
            rintro e w6 ⟨rfl, rv6, b6, o6, k6⟩
            have HM := hide ((HI3.out).more HKN.out HNB.out (H5.out).1 (H5.out).2.1 (H5.out).2.2.1 (H5.out).2.2.2.1 (H5.out).2.2.2.2.1 (H5.out).2.2.2.2.2.1 (H5.out).2.2.2.2.2.2 HNN.out b6 o6 k6)
            clear b6 o6 k6 HW5 H5
            obtain ⟨n1, n2, n3⟩ := HM.out
            have HM3 := hide n3
            clear n3 HM
            go_wp2_with fail
            refine ⟨⟨c + 1, a5, j2, rvo2, rv6, _, _, D5, rfl, by go_num, rfl, HM3⟩, ?_⟩
            have h6 : L.length - atT rb w6 = L.length - a5 := (Done.refl ((HM3.out).wk)).at.trans ((HLn.out) a5)
            rw [hat2, h6]; omega
end Go.Proofs.YtkampoaceipngaaGreatDoor
