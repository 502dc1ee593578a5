/- The document's reader in memory: what is next. -/
import Derived.Test.YtohpfegpnbdfnaaGreatDoorXo
import Derived.Deep.RegionHeld3
namespace Go.Proofs.YtohpfegpnbdfnaaGreatDoor
open Go.RowKit
open M

/-- A reader's block. -/
def RawM (w : World) (rb : Nat) (s : ByteArray) (tv : Value) (a dp : Int) (c : Bool) : Prop := w.heap[rb]? = some (.cells #[.string s, tv, .int .i64 a, .int .i64 dp, .bool c] 111 (0, 0))
theorem RawM.facts {w : World} {rb : Nat} {s : ByteArray} {tv : Value} {a dp : Int} {c : Bool} (h : RawM w rb s tv a dp c) :
    (w.cell? ⟨rb, 0, none⟩ = some (.string s) ∧ w.cell? ⟨rb, 1, none⟩ = some tv ∧ w.cell? ⟨rb, 2, none⟩ = some (.int .i64 a) ∧ w.cell? ⟨rb, 3, none⟩ = some (.int .i64 dp)) ∧ (w.frozen? ⟨rb, 2, none⟩ = false ∧ w.frozen? ⟨rb, 3, none⟩ = false ∧ w.frozen? ⟨rb, 4, none⟩ = false) ∧ w.cell? ⟨rb, 4, none⟩ = some (.bool c) := by
  unfold RawM at h
  refine ⟨⟨?_, ?_, ?_, ?_⟩, ⟨?_, ?_, ?_⟩, ?_⟩ <;> simp [World.cell?, World.frozen?, h]
theorem RawM.set2 {w : World} {rb : Nat} {s : ByteArray} {tv : Value} {a dp : Int} {c : Bool} (h : RawM w rb s tv a dp c) (y : Int) : RawM (w.setCell ⟨rb, 2, none⟩ (.int .i64 y)) rb s tv y dp c := by
  unfold RawM at h ⊢
  simp [World.setCell, Array.getElem?_modify, h]
theorem RawM.set3 {w : World} {rb : Nat} {s : ByteArray} {tv : Value} {a dp : Int} {c : Bool} (h : RawM w rb s tv a dp c) (y : Int) : RawM (w.setCell ⟨rb, 3, none⟩ (.int .i64 y)) rb s tv a y c := by
  unfold RawM at h ⊢
  simp [World.setCell, Array.getElem?_modify, h]
theorem RawM.set4 {w : World} {rb : Nat} {s : ByteArray} {tv : Value} {a dp : Int} {c : Bool} (h : RawM w rb s tv a dp c) (y : Bool) : RawM (w.setCell ⟨rb, 4, none⟩ (.bool y)) rb s tv a dp y := by
  unfold RawM at h ⊢
  simp [World.setCell, Array.getElem?_modify, h]
/-- A reader that has taken so many tokens. -/
structure RdM (w : World) (rb : Nat) (s : ByteArray) (L : List Tk) (tv : Value) (a dp : Nat) : Prop where
  raw : ∃ c, RawM w rb s tv a dp c
  row : IsT w tv L
  le : a ≤ L.length
  own : ∀ k, tv.ownBlock = some k → k ≠ rb ∧ k < w.heap.size
theorem RdM.lt {w : World} {rb : Nat} {s : ByteArray} {L : List Tk} {tv : Value} {a dp : Nat} (h : RdM w rb s L tv a dp) : rb < w.heap.size := by obtain ⟨c, h1⟩ := h.raw; exact heap_lt h1
theorem RdM.keep {S : Nat → Prop} {w w' : World} {rb : Nat} {s : ByteArray} {L : List Tk} {tv : Value} {a dp : Nat} (h : RdM w rb s L tv a dp) (hk : Kp S w w') (hn : ¬ S rb) (ht : ∀ k, tv.ownBlock = some k → ¬ S k) : RdM w' rb s L tv a dp :=
  ⟨by obtain ⟨c, h1⟩ := h.raw; exact ⟨c, hk.heap h1 hn⟩, h.row.keep hk ht, h.le, fun k e => ⟨(h.own k e).1, Nat.lt_of_lt_of_le (h.own k e).2 hk.size⟩⟩
theorem RdM.below {w w' : World} {rb : Nat} {s : ByteArray} {L : List Tk} {tv : Value} {a dp : Nat} (h : RdM w rb s L tv a dp) (hk : Below w.heap.size w w') : RdM w' rb s L tv a dp := h.keep (Kp.ofBelow hk (fun _ => False)) id (fun _ _ => id)
theorem RdM.moved {w w' : World} {rb : Nat} {s : ByteArray} {L : List Tk} {tv : Value} {a dp a' dp' : Nat} {c : Bool} (h : RdM w rb s L tv a dp) (hk : On rb w w') (hr : RawM w' rb s tv a' dp' c) (ha : a' ≤ L.length) : RdM w' rb s L tv a' dp' :=
  ⟨⟨c, hr⟩, h.row.keep hk (fun k e e' => (h.own k e).1 e'), ha, fun k e => ⟨(h.own k e).1, Nat.lt_of_lt_of_le (h.own k e).2 hk.size⟩⟩

/-- Where the search for what is next goes on. -/
theorem nxI_quiet {L : List Tk} {a : Nat} {t : Tk} (h : L[a]? = some t) (hq : qk t = true) : nxI L a = nxI L (a + 1) := by
  have hd : L.drop a = t :: L.drop (a + 1) := by
    have hl : a < L.length := by
      rcases Nat.lt_or_ge a L.length with g | g
      · exact g
      · rw [List.getElem?_eq_none g] at h; cases h
    rw [List.drop_eq_getElem_cons hl]; congr 1
    exact Option.some.inj ((List.getElem?_eq_getElem hl).symm.trans h)
  unfold nxI
  rw [hd, List.takeWhile_cons, if_pos hq, List.length_cons]; omega
theorem nxI_here {L : List Tk} {a : Nat} {t : Tk} (h : L[a]? = some t) (hq : qk t = false) : nxI L a = a := by
  have hd : L.drop a = t :: L.drop (a + 1) := by
    have hl : a < L.length := by
      rcases Nat.lt_or_ge a L.length with g | g
      · exact g
      · rw [List.getElem?_eq_none g] at h; cases h
    rw [List.drop_eq_getElem_cons hl]; congr 1
    exact Option.some.inj ((List.getElem?_eq_getElem hl).symm.trans h)
  unfold nxI
  rw [hd, List.takeWhile_cons, if_neg (by rw [hq]; simp)]; rfl
theorem retn {a b : Nat} (h : a = b) : Ending.returned (.int .i64 (a : Int)) = Ending.returned (.int .i64 (b : Int)) := by rw [h]
theorem nxI_over {L : List Tk} : nxI L L.length = L.length := by unfold nxI; simp

set_option maxRecDepth 100000 in
set_option maxHeartbeats 1000000 in
theorem ahead_any (rb : Nat) (s : ByteArray) (L : List Tk) (tv : Value) (a dp : Nat) (w : World) (hS : TokS s L) (h : RdM w rb s L tv a dp) :
    Calls Tryz.prog 66 #[.pointer (some ⟨rb, 0, none⟩)] w fun e w' => e = .returned (.int .i64 (nxI L a)) ∧ Below w.heap.size w w' := by
  obtain ⟨c, hr⟩ := h.raw
  have HR := hide hr
  obtain ⟨⟨c0, c1, c2, c3⟩, -, -⟩ := hr.facts
  have hl2 := hS.len
  have HT := hide h.row
  have ha := h.le
  obtain ⟨ao, cap, rfl, hc1, hc2, -⟩ := h.row
  clear h hr hS
  go_enter Tryz.func66, Tryz.ntmps66
  go_wp2_with fail
  go_loopw [3] (fun v wr => ∃ m : Nat, v = .int .i64 m ∧ m ≤ L.length ∧ Hid (nxI L a = nxI L m) ∧ Hid (Below w.heap.size w wr)) (fun v _ => L.length - (intOf v).toNat)
  case atStart => exact ⟨a, rfl, ha, (rfl : nxI L a = nxI L a), Below.refl _ w⟩
  case round =>
    obtain ⟨m, rfl, hm, HJ, HB⟩ := hrel
    clear c0 c1 c2 c3
    obtain ⟨⟨c0, c1, c2, c3⟩, -, -⟩ := RawM.facts ((Kp.ofBelow (HB.out) (fun _ => False)).heap HR.out id)
    by_cases hlt : m < L.length
    case neg =>
      have i1 : decide (m < L.length) = false := by simp; omega
      have i2 : decide ((m : Int) < (L.length : Int)) = false := by simp; omega
      have HE : Hid (nxI L a = m) := by
        have hml : m = L.length := by omega
        show _ = _
        rw [HJ.out, hml, nxI_over]
      clear HJ
      go_wp2_with fail
      go_ret
      exact ⟨retn HE.out.symm, HB.out⟩
    obtain ⟨b', o', t, rfl, ht, q1, q2, q3⟩ := (HT.out).get HB.out hlt
    have i1 : decide (m < L.length) = true := by simp; omega
    have i2 : decide ((m : Int) < (L.length : Int)) = true := by simp; omega
    have hi1 : (0 : Int) ≤ (m : Int) := Int.natCast_nonneg _
    have hi2 : (m : Int) < (L.length : Int) := by omega
    cases k1 : ((t.kind : Int) == 1) with
    | true =>
      have HN : Hid (nxI L a = nxI L (m + 1)) := by
        show _ = _
        rw [HJ.out]; exact nxI_quiet ht (by unfold qk; simp at k1 ⊢; omega)
      clear ht HJ
      go_wp2_with fail
      exact ⟨⟨m + 1, by go_num, by omega, HN, HB⟩, by simp only [intOf]; omega⟩
    | false =>
      cases k2 : ((t.kind : Int) == 2) with
      | true =>
        have HN : Hid (nxI L a = nxI L (m + 1)) := by
          show _ = _
          rw [HJ.out]; exact nxI_quiet ht (by unfold qk; simp at k2 ⊢; omega)
        clear ht HJ
        go_wp2_with fail
        exact ⟨⟨m + 1, by go_num, by omega, HN, HB⟩, by simp only [intOf]; omega⟩
      | false =>
        have HN : Hid (nxI L a = m) := by
          show _ = _
          rw [HJ.out]; exact nxI_here ht (by unfold qk; simp at k1 k2 ⊢; omega)
        clear ht HJ
        go_wp2_with fail
        go_ret
        exact ⟨retn HN.out.symm, HB.out⟩
set_option maxRecDepth 100000 in
set_option maxHeartbeats 1000000 in
theorem rkind_any (rb : Nat) (s : ByteArray) (L : List Tk) (tv : Value) (a dp : Nat) (w : World) (hS : TokS s L) (h : RdM w rb s L tv a dp) :
    Calls Tryz.prog 45 #[.pointer (some ⟨rb, 0, none⟩)] w fun e w' => e = .returned (.int .i64 (X.kindN (remT s L a))) ∧ Below w.heap.size w w' := by
  have HR := hide h
  have hl2 := hS.len
  have hq := nxI_le h.le
  obtain ⟨ao, cap, rfl, hc1, hc2, -⟩ := h.row
  have HK := hide (kind_rem s L a)
  clear h
  go_enter Tryz.func45, Tryz.ntmps45
  go_wp2_with fail
  refine (ahead_any rb s L _ a dp w hS HR.out).mono ?_
  rintro e w1 ⟨rfl, k1⟩
  have HB := hide k1
  have HR1 := hide ((HR.out).below k1)
  clear k1 HR
  obtain ⟨c, hr⟩ := (HR1.out).raw
  obtain ⟨⟨c0, c1, c2, c3⟩, -, -⟩ := hr.facts
  clear hr
  by_cases hlt : nxI L a < L.length
  · obtain ⟨b', o', t, rfl, ht, q1, q2, q3⟩ := (HR1.out).row.get (Below.refl _ w1) hlt
    rw [ht] at HK
    have i1 : decide (L.length ≤ nxI L a) = false := by simp; omega
    have i2 : decide ((L.length : Int) ≤ (nxI L a : Int)) = false := by simp; omega
    have hi1 : (0 : Int) ≤ (nxI L a : Int) := Int.natCast_nonneg _
    have hi2 : (nxI L a : Int) < (L.length : Int) := by omega
    clear ht
    go_wp2_with fail
    go_ret
    exact ⟨retn HK.out.symm, HB.out⟩
  · have i1 : decide (L.length ≤ nxI L a) = true := by simp; omega
    have i2 : decide ((L.length : Int) ≤ (nxI L a : Int)) = true := by simp; omega
    have hnone : L[nxI L a]? = none := List.getElem?_eq_none (by omega)
    rw [hnone] at HK
    clear hnone
    go_wp2_with fail
    go_ret
    exact ⟨retn (b := X.kindN (remT s L a)) HK.out.symm, HB.out⟩
theorem isN_rem (s : ByteArray) (L : List Tk) (a : Nat) (x : List UInt8) : X.isN x (remT s L a) = match L[nxI L a]? with | some t => (t.kind == 4 || t.kind == 7) && ((bs s).drop t.pos).take t.len == x | none => false := by
  unfold X.isN
  rw [nxt_rem]
  cases L[nxI L a]? <;> rfl
set_option maxRecDepth 100000 in
set_option maxHeartbeats 1000000 in
theorem ris_any (rb : Nat) (s : ByteArray) (L : List Tk) (tv : Value) (a dp : Nat) (x : List UInt8) (w : World) (hS : TokS s L) (h : RdM w rb s L tv a dp) :
    Calls Tryz.prog 68 #[.pointer (some ⟨rb, 0, none⟩), .string (ba x)] w fun e w' => e = .returned (.bool (X.isN x (remT s L a))) ∧ Below w.heap.size w w' := by
  have HR := hide h
  have hl1 := hS.size
  have hl2 := hS.len
  have HF := hide hS.fit
  have hq := nxI_le h.le
  obtain ⟨ao, cap, rfl, hc1, hc2, -⟩ := h.row
  have HK := hide (isN_rem s L a x)
  clear h
  go_enter Tryz.func68, Tryz.ntmps68
  go_wp2_with fail
  refine (ahead_any rb s L _ a dp w hS HR.out).mono ?_
  rintro e w1 ⟨rfl, k1⟩
  have HB := hide k1
  have HR1 := hide ((HR.out).below k1)
  clear k1 HR hS
  obtain ⟨c, hr⟩ := (HR1.out).raw
  obtain ⟨⟨c0, c1, c2, c3⟩, -, -⟩ := hr.facts
  have hrl := heap_lt hr
  clear hr
  by_cases hlt : nxI L a < L.length
  · obtain ⟨b', o', t, rfl, ht, q1, q2, q3⟩ := (HR1.out).row.get (Below.refl _ w1) hlt
    obtain ⟨g1, g2, g3⟩ := (HF.out) t (List.mem_of_getElem? ht)
    rw [ht] at HK
    have i1 : decide (L.length ≤ nxI L a) = false := by simp; omega
    have i2 : decide ((L.length : Int) ≤ (nxI L a : Int)) = false := by simp; omega
    have hi1 : (0 : Int) ≤ (nxI L a : Int) := Int.natCast_nonneg _
    have hi2 : (nxI L a : Int) < (L.length : Int) := by omega
    have j1 : (t.pos : Int) ≤ (t.pos : Int) + (t.len : Int) := by omega
    have j2 : (t.pos : Int) + (t.len : Int) ≤ (s.size : Int) := by omega
    have j3 : t.pos ≤ s.size := by omega
    have tl : ∀ z : List UInt8, (ba z).toList = z := fun z => by rw [ByteArray.toList_eq]; exact bs_ba z
    have HX : Hid ((s.extract t.pos (t.pos + t.len)).toList = ((bs s).drop t.pos).take t.len) := by
      show _ = _
      rw [ByteArray.toList_eq]
      show bs _ = _
      rw [bs_cut, List.drop_take, Nat.add_sub_cancel_left]
    have HXX : Hid ((((bs s).drop t.pos).take t.len == x) = ((s.extract t.pos (t.pos + t.len)).toList == (ba x).toList)) := by
      show _ = _
      rw [HX.out, tl]
    have hbl : b' < w1.heap.size := World.block_lt_of_cell? _ _ q1
    clear ht tl HX
    have hnew : ∀ o : Obj, (w1.alloc o).cell? ⟨b', o' + nxI L a * 3, none⟩ = w1.cell? ⟨b', o' + nxI L a * 3, none⟩ := fun o => World.cell?_alloc_old _ _ _ (Nat.ne_of_lt hbl)
    cases k1 : ((t.kind : Int) == 4) with
    | true =>
      have HK2 : Hid (X.isN x (remT s L a) = ((s.extract t.pos (t.pos + t.len)).toList == (ba x).toList)) := by
        show _ = _
        rw [HK.out, ← HXX.out]
        have : (t.kind == 4) = true := by simp at k1 ⊢; omega
        simp only [this, Bool.true_or, Bool.true_and]
      have n1 : ((t.kind : Int) != 4) = false := by simp [bne, k1]
      have n2 : (t.kind : Int) = 4 := by simpa using k1
      clear HK HXX hnew
      go_wp2_with fail
      go_quiet (fail)
      go_wp2_with fail
      go_ret
      exact ⟨retb HK2.out.symm, (HB.out).trans ((belowN ((Below.refl _ w1).alloc (Nat.le_refl _) _) nq).mono (HB.out).size)⟩
    | false =>
      cases k2 : ((t.kind : Int) == 7) with
      | true =>
        have HK2 : Hid (X.isN x (remT s L a) = ((s.extract t.pos (t.pos + t.len)).toList == (ba x).toList)) := by
          show _ = _
          rw [HK.out, ← HXX.out]
          have : (t.kind == 7) = true := by simp at k2 ⊢; omega
          simp only [this, Bool.or_true, Bool.true_and]
        have n1 : ((t.kind : Int) != 4) = true := by simp [bne, k1]
        have n2 : ¬ (t.kind : Int) = 4 := by simpa using k1
        have n3 : ((t.kind : Int) != 7) = false := by simp [bne, k2]
        have n4 : (t.kind : Int) = 7 := by simpa using k2
        clear HK HXX hnew
        go_wp2_with fail
        go_quiet (fail)
        go_wp2_with fail
        go_ret
        exact ⟨retb HK2.out.symm, (HB.out).trans ((belowN ((Below.refl _ w1).alloc (Nat.le_refl _) _) nq).mono (HB.out).size)⟩
      | false =>
        have HK2 : Hid (X.isN x (remT s L a) = false) := by
          show _ = _
          rw [HK.out]
          have e1 : (t.kind == 4) = false := by simp at k1 ⊢; omega
          have e2 : (t.kind == 7) = false := by simp at k2 ⊢; omega
          simp only [e1, e2, Bool.or_self, Bool.false_and]
        have n1 : ((t.kind : Int) != 4) = true := by simp [bne, k1]
        have n2 : ¬ (t.kind : Int) = 4 := by simpa using k1
        have n3 : ((t.kind : Int) != 7) = true := by simp [bne, k2]
        have n4 : ¬ (t.kind : Int) = 7 := by simpa using k2
        clear HK HXX hnew
        go_wp2_with fail
        go_ret
        exact ⟨retb HK2.out.symm, HB.out⟩
  · have i1 : decide (L.length ≤ nxI L a) = true := by simp; omega
    have i2 : decide ((L.length : Int) ≤ (nxI L a : Int)) = true := by simp; omega
    have hnone : L[nxI L a]? = none := List.getElem?_eq_none (by omega)
    rw [hnone] at HK
    clear hnone
    go_wp2_with fail
    go_ret
    exact ⟨retb HK.out.symm, HB.out⟩
end Go.Proofs.YtohpfegpnbdfnaaGreatDoor
/- The document's reader at work on a node. -/
namespace Go.Proofs.YtohpfegpnbdfnaaGreatDoor
open Go.RowKit
open M

/-- One more kid for a node that is made. -/
theorem Mk.added {w w' : World} {lo B k : Nat} {rv rv' v : Value} {vs : List Value} {ps : List X.Part} {p : X.Part} {L H : Nat → Nat} {l u : Nat} (h : Mk w lo B k rv vs ps L H) (hp : IsM w l u v (X.raw p))
    (h1 : ∀ i, i < ps.length → H i ≤ l) (h2 : lo ≤ l) (h3 : u ≤ w.heap.size) (h4 : ¬ (l ≤ B ∧ B < u)) (h5 : ∀ g, rv.ownBlock = some g → ¬ (l ≤ g ∧ g < u))
    (hb : w'.heap[B]? = some (mcell k 0 [] rv' 0 0 0 0 false)) (hr : w'.ownsRow lo 52 1 rv' (vs ++ [v]).length (vs ++ [v])) (ho : ∀ g, rv'.ownBlock = some g → rv.ownBlock = some g ∨ w.heap.size ≤ g) (hk : Kp (fun q => q = B ∨ rv.ownBlock = some q) w w') :
    ∃ L' H', Mk w' lo B k rv' (vs ++ [v]) (ps ++ [p]) L' H' := by
  have hS : ∀ i, i < ps.length → ∀ q, L i ≤ q → q < H i → ¬ (q = B ∨ rv.ownBlock = some q) := by
    rintro i hi q e1 e2 (e | e)
    · have := (h.kds.sep i hi).2.2.2.1; subst e; exact this ⟨e1, e2⟩
    · exact (h.kds.sep i hi).2.2.2.2.1 q e ⟨e1, e2⟩
  have hP : ∀ i, l ≤ i → i < u → ¬ (i = B ∨ rv.ownBlock = some i) := by
    rintro i e1 e2 (e | e)
    · subst e; exact h4 ⟨e1, e2⟩
    · exact h5 i e ⟨e1, e2⟩
  have hbl := h.lt
  refine ⟨_, _, hb, hr, (h.kds.keep hk hS).snoc (hp.keep hk hP) h1 h2 (Nat.le_trans h3 hk.size) h4 (fun g hg => ?_), h.ge, fun e => ?_⟩
  · rcases ho g hg with e | e
    · exact ⟨h5 g e, fun i hi => (h.kds.sep i hi).2.2.2.2.1 g e⟩
    · exact ⟨by omega, fun i hi => by have := (h.kds.sep i hi).2.2.1; omega⟩
  · rcases ho B e with e | e
    · exact h.ne e
    · omega
/-- A reader at work on a node. -/
structure WkM (w : World) (rb : Nat) (s : ByteArray) (L : List Tk) (tv : Value) (a dp lo B k : Nat) (rv : Value) (vs : List Value) (ps : List X.Part) (Lo Hi : Nat → Nat) : Prop where
  rdr : RdM w rb s L tv a dp
  nd : Mk w lo B k rv vs ps Lo Hi
  rlt : rb < lo
  tlt : ∀ q, tv.ownBlock = some q → q < lo
/-- What may turn. -/
def Sm (rb B : Nat) (rv : Value) (q : Nat) : Prop := q = rb ∨ q = B ∨ rv.ownBlock = some q
/-- What has come about. -/
def DnM (w : World) (rb : Nat) (s : ByteArray) (L : List Tk) (tv : Value) (dp lo B k : Nat) (rv : Value) (ps' : List X.Part) (ts' : List X.Tok) (w' : World) : Prop :=
  ∃ a' rv' vs' Lo' Hi', WkM w' rb s L tv a' dp lo B k rv' vs' ps' Lo' Hi' ∧ remT s L a' = ts' ∧ (∀ g, rv'.ownBlock = some g → rv.ownBlock = some g ∨ w.heap.size ≤ g) ∧ Kp (Sm rb B rv) w w'
theorem DnM.refl {w : World} {rb : Nat} {s : ByteArray} {L : List Tk} {tv : Value} {a dp lo B k : Nat} {rv : Value} {vs : List Value} {ps : List X.Part} {Lo Hi : Nat → Nat} (h : WkM w rb s L tv a dp lo B k rv vs ps Lo Hi) : DnM w rb s L tv dp lo B k rv ps (remT s L a) w :=
  ⟨a, rv, vs, Lo, Hi, h, rfl, fun _ hg => .inl hg, Kp.refl _ _⟩
theorem DnM.trans {w w1 w2 : World} {rb : Nat} {s : ByteArray} {L : List Tk} {tv : Value} {dp lo B k1 : Nat} {rv rv1 : Value} {ps2 : List X.Part} {ts2 : List X.Tok}
    (hr : ∀ g, rv1.ownBlock = some g → rv.ownBlock = some g ∨ w.heap.size ≤ g) (hk : Kp (Sm rb B rv) w w1) (h : DnM w1 rb s L tv dp lo B k1 rv1 ps2 ts2 w2) : DnM w rb s L tv dp lo B k1 rv ps2 ts2 w2 := by
  obtain ⟨a', rv', vs', Lo', Hi', h1, h2, h3, h4⟩ := h
  have hz := hk.size
  refine ⟨a', rv', vs', Lo', Hi', h1, h2, fun g hg => ?_, Kp.trans hk h4 (fun i hi e => ?_)⟩
  · rcases h3 g hg with e | e
    · exact hr g e
    · exact .inr (by omega)
  · rcases e with e | e | e
    · exact .inl e
    · exact .inr (.inl e)
    · rcases hr i e with e | e
      · exact .inr (.inr e)
      · omega
theorem WkM.below {w w' : World} {rb : Nat} {s : ByteArray} {L : List Tk} {tv : Value} {a dp lo B k : Nat} {rv : Value} {vs : List Value} {ps : List X.Part} {Lo Hi : Nat → Nat} (h : WkM w rb s L tv a dp lo B k rv vs ps Lo Hi) (hk : Below w.heap.size w w') : WkM w' rb s L tv a dp lo B k rv vs ps Lo Hi :=
  ⟨h.rdr.below hk, h.nd.below hk, h.rlt, h.tlt⟩
/-- The reader alone has moved. -/
theorem WkM.moved {w w' : World} {rb : Nat} {s : ByteArray} {L : List Tk} {tv : Value} {a dp a' dp' lo B k : Nat} {rv : Value} {vs : List Value} {ps : List X.Part} {Lo Hi : Nat → Nat} (h : WkM w rb s L tv a dp lo B k rv vs ps Lo Hi) (hk : On rb w w') (hr : RdM w' rb s L tv a' dp') : WkM w' rb s L tv a' dp' lo B k rv vs ps Lo Hi :=
  ⟨hr, h.nd.keep hk (fun q e1 _ e => by have := h.rlt; omega), h.rlt, h.tlt⟩
theorem DnM.next {w w1 : World} {rb : Nat} {s : ByteArray} {L : List Tk} {tv : Value} {dp lo B k : Nat} {rv : Value} {ps1 : List X.Part} {ts1 : List X.Tok} (h : DnM w rb s L tv dp lo B k rv ps1 ts1 w1) {w2 : World} (hk : Below w1.heap.size w1 w2) : DnM w rb s L tv dp lo B k rv ps1 ts1 w2 := by
  obtain ⟨a', rv', vs', Lo', Hi', h1, h2, h3, h4⟩ := h
  exact ⟨a', rv', vs', Lo', Hi', h1.below hk, h2, h3, Kp.trans h4 (Kp.ofBelow hk (fun _ => False)) (fun _ _ e => e.elim)⟩
/-- A kid that has been read is put into the node. -/
theorem WkM.put {w W w5 : World} {rb : Nat} {s : ByteArray} {L : List Tk} {tv : Value} {a dp a' dp' lo B k : Nat} {rv v : Value} {vs : List Value} {ps : List X.Part} {p : X.Part} {Lo Hi : Nat → Nat} {l u g cap : Nat} (h : WkM w rb s L tv a dp lo B k rv vs ps Lo Hi) (hK : On rb w W) (hr : RdM W rb s L tv a' dp')
    (hp : IsM W l u v (X.raw p)) (hl : w.heap.size ≤ l) (hu : u ≤ W.heap.size) (hgrow : W.grownBy w5 rv.ownBlock) (hown : w5.ownsRow lo 52 1 (.slice (some ⟨g, 0, none⟩) (vs.length + 1) cap) (vs.length + 1) (vs ++ [v])) (hat : rv.ownBlock = some g ∨ W.heap.size ≤ g) :
    DnM w rb s L tv dp' lo B k rv (ps ++ [p]) (remT s L a') (w5.setCell ⟨B, 3, none⟩ (.slice (some ⟨g, 0, none⟩) (vs.length + 1) cap)) := by
  have hM : WkM W rb s L tv a' dp' lo B k rv vs ps Lo Hi := h.moved hK hr
  have hz := hK.size
  have hbl := h.nd.lt
  have hrl := h.rlt
  have hge := h.nd.ge
  have hrow := owns_ge h.nd.row
  have hne : rv.ownBlock ≠ some B := h.nd.ne
  have hgB : g ≠ B := by
    rcases hat with e | e
    · exact fun e' => hne (e' ▸ e)
    · omega
  have hk1 : Kp (fun q => q = B ∨ rv.ownBlock = some q) W w5 := Kp.grown (Kp.refl _ W) hgrow (fun k e _ => .inr e)
  have hk : Kp (fun q => q = B ∨ rv.ownBlock = some q) W (w5.setCell ⟨B, 3, none⟩ (.slice (some ⟨g, 0, none⟩) (vs.length + 1) cap)) := Kp.setCell hk1 (p := ⟨B, 3, none⟩) (fun _ => .inl rfl) _
  have hb5 : w5.heap[B]? = some (mcell k 0 [] rv 0 0 0 0 false) := (hgrow.block B (by omega) (fun e => hne e.symm)).trans hM.nd.blk
  have hb : (w5.setCell ⟨B, 3, none⟩ (.slice (some ⟨g, 0, none⟩) (vs.length + 1) cap)).heap[B]? = some (mcell k 0 [] (.slice (some ⟨g, 0, none⟩) (vs.length + 1) cap) 0 0 0 0 false) := by
    unfold mcell at hb5 ⊢
    simp [World.setCell, Array.getElem?_modify, hb5]
  have ho : ∀ q, (Value.slice (some ⟨g, 0, none⟩) (vs.length + 1) cap).ownBlock = some q → rv.ownBlock = some q ∨ W.heap.size ≤ q := by
    intro q hq
    simp only [Value.ownBlock, Option.some.injEq] at hq
    subst hq; exact hat
  obtain ⟨L', H', hm⟩ := hM.nd.added hp (fun i hi => by have := (h.nd.kds.sep i hi).2.2.1; omega) (by omega) hu (by omega) (fun g' hg' => by have := hrow g' hg'; omega) hb (by rw [List.length_append]; exact ownsRow_setCell_other hown (by simp [Value.ownBlock]; omega) _) ho hk
  have hS : ∀ q, (q = B ∨ rv.ownBlock = some q) → lo ≤ q := by
    rintro q (e | e)
    · omega
    · exact (hrow q e).1
  refine ⟨a', _, _, L', H', ⟨hr.keep hk (fun e => by have := hS _ e; omega) (fun q e e' => by have := hS _ e'; have := h.tlt q e; omega), hm, h.rlt, h.tlt⟩, rfl, fun q hq => ?_, Kp.trans (Kp.mono hK (fun i _ e => .inl e)) hk (fun i _ e => .inr e)⟩
  rcases ho q hq with e | e
  · exact .inl e
  · exact .inr (by omega)
/-- A function that reads on into a node. -/
def ReadsM (fn : FuncId) (F : X.R) (ok : List X.Tok → Prop) (s : ByteArray) (L : List Tk) (dp : Nat) : Prop :=
  ∀ (rb : Nat) (tv : Value) (a lo B k : Nat) (rv : Value) (vs : List Value) (ps : List X.Part) (Lo Hi : Nat → Nat) (w : World), WkM w rb s L tv a dp lo B k rv vs ps Lo Hi → ok (remT s L a) → ps.length + (F (remT s L a)).1.length ≤ 1073741824 →
    Calls Tryz.prog fn #[.pointer (some ⟨rb, 0, none⟩), .pointer (some ⟨B, 0, none⟩)] w fun en w' => en = .returned (.tuple #[]) ∧ Hid (DnM w rb s L tv dp lo B k rv (ps ++ (F (remT s L a)).1) (F (remT s L a)).2 w')
end Go.Proofs.YtohpfegpnbdfnaaGreatDoor
