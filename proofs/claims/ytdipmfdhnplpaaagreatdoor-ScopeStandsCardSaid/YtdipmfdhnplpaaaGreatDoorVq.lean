/- Package syntax: an expression, kind by kind. -/
import Derived.Test.YtdipmfdhnplpaaaGreatDoorVn
namespace Go.Proofs.YtdipmfdhnplpaaaGreatDoor
open Go.RowKit
open M
theorem nms_len {ps : List X.Part} {i : Nat} {ns : List X.Nm} (h : X.Nms ps i ns) : ns.length ≤ ps.length := by
  induction h with
  | nil i => exact Nat.le_refl _
  | name x ps i ns h ih => rw [List.length_cons, List.length_cons]; omega
  | leaf k x ps i ns hk h ih => rw [List.length_cons]; omega
  | lack ps i ns h ih => rw [List.length_cons, List.length_cons]; omega
  | miss m ps i ns hm h ih => rw [List.length_cons]; omega
theorem rds_len : ∀ (ps : List X.Part) {i : Nat} {es : List X.Ex}, X.Rds ps i es → es.length ≤ ps.length
  | [], i, es, h => by cases h; exact Nat.le_refl _
  | p :: ps, i, es, h => by
    cases h with
    | leaf _ _ _ _ _ h => have := rds_len ps h; rw [List.length_cons]; omega
    | miss _ _ _ _ _ h => have := rds_len ps h; rw [List.length_cons]; omega
    | cons _ _ _ e es _ h => have := rds_len ps h; rw [List.length_cons, List.length_cons]; omega
/-- What is known when a node has been entered. -/
structure Ent (w : World) (D : Nat → Prop) (rb ab : Nat) (ps qs : List X.Part) (i : Nat) (w2 : World) (kv : Value) : Prop where
  inn : IsRw (w2.alloc (.cells #[.pointer (some ⟨ab, 0, none⟩), kv] 124)) D w2.heap.size ab qs i
  out : ∀ (w3 : World) (l : List X.Part) (k : Nat), IsRw w3 D w2.heap.size ab l k → Kp (Sw w2.heap.size ab) (w2.alloc (.cells #[.pointer (some ⟨ab, 0, none⟩), kv] 124)) w3 → IsRw w3 D rb ab ps k ∧ Kp (Sw rb ab) w w3
  le : w.heap.size ≤ w2.heap.size
  dl : ∀ q, D q → q < (w2.alloc (.cells #[.pointer (some ⟨ab, 0, none⟩), kv] 124)).heap.size
  sz : (w2.alloc (.cells #[.pointer (some ⟨ab, 0, none⟩), kv] 124)).heap.size = w2.heap.size + 1
  bel : Below w2.heap.size w2 (w2.alloc (.cells #[.pointer (some ⟨ab, 0, none⟩), kv] 124))
theorem ent_of {w w2 : World} {D : Nat → Prop} {rb ab : Nat} {ps qs : List X.Part} {i : Nat} {kv : Value} (h : NdS w2 D kv qs ∧ IsRw w2 D rb ab ps i ∧ Kp (Sw rb ab) w w2) (hDl : ∀ q, D q → q < w.heap.size) : Ent w D rb ab ps qs i w2 kv := by
  obtain ⟨h1, h2, h3⟩ := h
  have hd : ∀ q, D q → q < w2.heap.size := fun q hq => Nat.lt_of_lt_of_le (hDl q hq) h3.size
  obtain ⟨a, b⟩ := rw_inner h2 h1 hd
  refine ⟨a, fun w3 l k x y => ?_, h3.size, fun q hq => by have := hd q hq; simp; omega, by simp, (Below.refl _ w2).alloc (Nat.le_refl _) _⟩
  obtain ⟨c, d⟩ := b w3 l k x y
  exact ⟨c, h3.trans d (fun _ _ e => e)⟩
set_option maxRecDepth 100000 in
set_option maxHeartbeats 4000000 in
theorem xlet_any (D : Nat → Prop) (rb ab : Nat) (t1 n t2 t3 : List X.Part) (p1 p2 : X.Part) (nm : X.Nm) (e1 e2 : X.Ex) (ps : List X.Part) (i : Nat) (w : World) (h : IsRw w D rb ab ((X.Part.br 7 (t1 ++ (n ++ (t2 ++ ([p1] ++ (t3 ++ [p2])))))) :: ps) i) (h1 : X.Tkp t1) (hn : X.Nmp n (i + X.pz t1) nm) (h2 : X.Tkp t2) (hv : X.Rd p1 (i + X.pz t1 + X.pz n + X.pz t2) e1) (h3 : X.Tkp t3) (hb : X.Rd p2 (i + X.pz t1 + X.pz n + X.pz t2 + X.pz [p1] + X.pz t3) e2) (H1 : ExOk p1) (H2 : ExOk p2) (hpl : (t1 ++ (n ++ (t2 ++ ([p1] ++ (t3 ++ [p2]))))).length ≤ 268435456) (hi : i + X.pz [(X.Part.br 7 (t1 ++ (n ++ (t2 ++ ([p1] ++ (t3 ++ [p2]))))))] ≤ 1073741824) (hDl : ∀ q, D q → q < w.heap.size) :
    Calls Tryz.prog 86 #[.pointer (some ⟨rb, 0, none⟩)] w fun en w' => ∃ v, en = .returned v ∧ Hid (IsE w' w.heap.size w'.heap.size v (.lett nm e1 e2) ∧ IsRw w' D rb ab ps (i + X.pz [(X.Part.br 7 (t1 ++ (n ++ (t2 ++ ([p1] ++ (t3 ++ [p2]))))))]) ∧ Kp (Sw rb ab) w w') := by
  obtain ⟨v0, hb0, hn0⟩ := h.blk
  have c1 := cell_of_row w _ 1 _ _ _ hb0
  obtain ⟨g, o, cap, kv, rfl, hD, y0, y1, y2, y3, hkk, -, hc1, hc2, -, -⟩ := hn0.head
  have y0' : w.cell? ⟨g, o, none⟩ = some (.int .i64 7) := y0
  have hi1 : (0 : Int) < ((ps.length + 1 : Nat) : Int) := by omega
  have hi2 : 0 < ps.length + 1 := by omega
  have HEn := hide (wenter_any D rb ab (X.Part.br 7 (t1 ++ (n ++ (t2 ++ ([p1] ++ (t3 ++ [p2])))))) ps i w h (by show i + 0 ≤ _; omega) hDl)
  have HDl := hide hDl
  rw [X.pz_br] at hi
  clear h hb0 hn0 hkk y0 y1 y2 y3 hDl
  go_enter Tryz.func86, Tryz.ntmps86
  go_wp2_with fail
  refine (HEn.out).mono ?_
  rintro en w2 ⟨a4, a5, a6, rfl, X2⟩
  have HT : Hid (Ent w D rb ab ps (t1 ++ (n ++ (t2 ++ ([p1] ++ (t3 ++ [p2]))))) i w2 (.slice a4 a5 a6)) := ent_of (X2.out) HDl.out
  clear HEn X2 c1 y0'
  have HC := hide (wlet_any D w2.heap.size ab t1 n t2 t3 p1 p2 nm e1 e2 i _ (HT.out).inn h1 hn h2 hv h3 hb H1 H2 hi (by omega) (HT.out).dl)
  clear h1 hn h2 hv h3 hb
  go_wp2_with fail
  refine (HC.out).mono ?_
  rintro en w4 ⟨b, rfl, X4⟩
  have HFin : Hid (IsE w4 w.heap.size w4.heap.size (.iface 208 (.pointer (some ⟨b, 0, none⟩))) (.lett nm e1 e2) ∧ IsRw w4 D rb ab ps (i + X.pz [(X.Part.br 7 (t1 ++ (n ++ (t2 ++ ([p1] ++ (t3 ++ [p2]))))))]) ∧ Kp (Sw rb ab) w w4) := by
    obtain ⟨z1, z2⟩ := (HT.out).out w4 [] _ (X4.out).2.1 (X4.out).2.2
    have := (HT.out).le
    have := (HT.out).sz
    rw [X.pz_br]
    exact ⟨(X4.out).1.wide (by omega) (Nat.le_refl _), z1, z2⟩
  clear HC X4 HT
  go_wp2_with fail
  go_ret
  exact ⟨_, rfl, HFin⟩
set_option maxRecDepth 100000 in
set_option maxHeartbeats 4000000 in
theorem xfun_any (D : Nat → Prop) (rb ab : Nat) (t1 qs t2 : List X.Part) (p : X.Part) (ns : List X.Nm) (e : X.Ex) (ps : List X.Part) (i : Nat) (w : World) (h : IsRw w D rb ab ((X.Part.br 9 (t1 ++ ([X.Part.br 6 qs] ++ (t2 ++ [p])))) :: ps) i) (h1 : X.Tkp t1) (hn : X.Nms qs (i + X.pz t1) ns) (h2 : X.Tkp t2) (hb : X.Rd p (i + X.pz t1 + X.pz qs + X.pz t2) e) (H1 : ExOk p) (hpl : (t1 ++ ([X.Part.br 6 qs] ++ (t2 ++ [p]))).length ≤ 268435456) (hql : qs.length ≤ 268435456) (hi : i + X.pz [(X.Part.br 9 (t1 ++ ([X.Part.br 6 qs] ++ (t2 ++ [p]))))] ≤ 1073741824) (hDl : ∀ q, D q → q < w.heap.size) :
    Calls Tryz.prog 86 #[.pointer (some ⟨rb, 0, none⟩)] w fun en w' => ∃ v, en = .returned v ∧ Hid (IsE w' w.heap.size w'.heap.size v (.fn ns e) ∧ IsRw w' D rb ab ps (i + X.pz [(X.Part.br 9 (t1 ++ ([X.Part.br 6 qs] ++ (t2 ++ [p]))))]) ∧ Kp (Sw rb ab) w w') := by
  obtain ⟨v0, hb0, hn0⟩ := h.blk
  have c1 := cell_of_row w _ 1 _ _ _ hb0
  obtain ⟨g, o, cap, kv, rfl, hD, y0, y1, y2, y3, hkk, -, hc1, hc2, -, -⟩ := hn0.head
  have y0' : w.cell? ⟨g, o, none⟩ = some (.int .i64 9) := y0
  have hi1 : (0 : Int) < ((ps.length + 1 : Nat) : Int) := by omega
  have hi2 : 0 < ps.length + 1 := by omega
  have HEn := hide (wenter_any D rb ab (X.Part.br 9 (t1 ++ ([X.Part.br 6 qs] ++ (t2 ++ [p])))) ps i w h (by show i + 0 ≤ _; omega) hDl)
  have HDl := hide hDl
  rw [X.pz_br] at hi
  have hnl := nms_len hn
  clear h hb0 hn0 hkk y0 y1 y2 y3 hDl
  go_enter Tryz.func86, Tryz.ntmps86
  go_wp2_with fail
  refine (HEn.out).mono ?_
  rintro en w2 ⟨a4, a5, a6, rfl, X2⟩
  have HT : Hid (Ent w D rb ab ps (t1 ++ ([X.Part.br 6 qs] ++ (t2 ++ [p]))) i w2 (.slice a4 a5 a6)) := ent_of (X2.out) HDl.out
  clear HEn X2 c1 y0'
  have HC := hide (wfun_any D w2.heap.size ab t1 qs t2 p ns e i _ (HT.out).inn h1 hn h2 hb H1 hi (by omega) hql (by omega) (HT.out).dl)
  clear h1 hn h2 hb
  go_wp2_with fail
  refine (HC.out).mono ?_
  rintro en w4 ⟨b, rfl, X4⟩
  have HFin : Hid (IsE w4 w.heap.size w4.heap.size (.iface 211 (.pointer (some ⟨b, 0, none⟩))) (.fn ns e) ∧ IsRw w4 D rb ab ps (i + X.pz [(X.Part.br 9 (t1 ++ ([X.Part.br 6 qs] ++ (t2 ++ [p]))))]) ∧ Kp (Sw rb ab) w w4) := by
    obtain ⟨z1, z2⟩ := (HT.out).out w4 [] _ (X4.out).2.1 (X4.out).2.2
    have := (HT.out).le
    have := (HT.out).sz
    rw [X.pz_br]
    exact ⟨(X4.out).1.wide (by omega) (Nat.le_refl _), z1, z2⟩
  clear HC X4 HT
  go_wp2_with fail
  go_ret
  exact ⟨_, rfl, HFin⟩
set_option maxRecDepth 100000 in
set_option maxHeartbeats 4000000 in
theorem xbin_any (D : Nat → Prop) (rb ab : Nat) (p1 p2 : X.Part) (t qs : List X.Part) (k : Nat) (x : List UInt8) (e1 e2 : X.Ex) (ps : List X.Part) (i : Nat) (w : World) (h : IsRw w D rb ab ((X.Part.br 10 ([p1] ++ (t ++ [p2]))) :: ps) i) (hl : X.Rd p1 i e1) (ht : X.Tk1 t k x qs) (hr2 : X.Rd p2 (i + X.pz [p1] + X.pz t) e2) (H1 : ExOk p1) (H2 : ExOk p2) (hpl : ([p1] ++ (t ++ [p2])).length ≤ 268435456) (hi : i + X.pz [(X.Part.br 10 ([p1] ++ (t ++ [p2])))] ≤ 1073741824) (hDl : ∀ q, D q → q < w.heap.size) :
    Calls Tryz.prog 86 #[.pointer (some ⟨rb, 0, none⟩)] w fun en w' => ∃ v, en = .returned v ∧ Hid (IsE w' w.heap.size w'.heap.size v (.bin e1 x e2) ∧ IsRw w' D rb ab ps (i + X.pz [(X.Part.br 10 ([p1] ++ (t ++ [p2])))]) ∧ Kp (Sw rb ab) w w') := by
  obtain ⟨v0, hb0, hn0⟩ := h.blk
  have c1 := cell_of_row w _ 1 _ _ _ hb0
  obtain ⟨g, o, cap, kv, rfl, hD, y0, y1, y2, y3, hkk, -, hc1, hc2, -, -⟩ := hn0.head
  have y0' : w.cell? ⟨g, o, none⟩ = some (.int .i64 10) := y0
  have hi1 : (0 : Int) < ((ps.length + 1 : Nat) : Int) := by omega
  have hi2 : 0 < ps.length + 1 := by omega
  have HEn := hide (wenter_any D rb ab (X.Part.br 10 ([p1] ++ (t ++ [p2]))) ps i w h (by show i + 0 ≤ _; omega) hDl)
  have HDl := hide hDl
  rw [X.pz_br] at hi
  clear h hb0 hn0 hkk y0 y1 y2 y3 hDl
  go_enter Tryz.func86, Tryz.ntmps86
  go_wp2_with fail
  refine (HEn.out).mono ?_
  rintro en w2 ⟨a4, a5, a6, rfl, X2⟩
  have HT : Hid (Ent w D rb ab ps ([p1] ++ (t ++ [p2])) i w2 (.slice a4 a5 a6)) := ent_of (X2.out) HDl.out
  clear HEn X2 c1 y0'
  have HC := hide (wbinary_any D w2.heap.size ab p1 p2 t qs k x e1 e2 i _ (HT.out).inn hl ht hr2 H1 H2 hi (by omega) (HT.out).dl)
  clear hl ht hr2
  go_wp2_with fail
  refine (HC.out).mono ?_
  rintro en w4 ⟨b, rfl, X4⟩
  have HFin : Hid (IsE w4 w.heap.size w4.heap.size (.iface 252 (.pointer (some ⟨b, 0, none⟩))) (.bin e1 x e2) ∧ IsRw w4 D rb ab ps (i + X.pz [(X.Part.br 10 ([p1] ++ (t ++ [p2])))]) ∧ Kp (Sw rb ab) w w4) := by
    obtain ⟨z1, z2⟩ := (HT.out).out w4 [] _ (X4.out).2.1 (X4.out).2.2
    have := (HT.out).le
    have := (HT.out).sz
    rw [X.pz_br]
    exact ⟨(X4.out).1.wide (by omega) (Nat.le_refl _), z1, z2⟩
  clear HC X4 HT
  go_wp2_with fail
  go_ret
  exact ⟨_, rfl, HFin⟩
set_option maxRecDepth 100000 in
set_option maxHeartbeats 4000000 in
theorem xcall_any (D : Nat → Prop) (rb ab : Nat) (p : X.Part) (gs : List X.Part) (e : X.Ex) (es : List X.Ex) (ps : List X.Part) (i : Nat) (w : World) (h : IsRw w D rb ab ((X.Part.br 11 ([p] ++ [X.Part.br 12 gs])) :: ps) i) (hc : X.Rd p i e) (hg : X.Rds gs (i + X.pz [p]) es) (H1 : ExOk p) (HE : ∀ q ∈ gs, ExOk q) (hql : gs.length ≤ 268435456) (hi : i + X.pz [(X.Part.br 11 ([p] ++ [X.Part.br 12 gs]))] ≤ 1073741824) (hDl : ∀ q, D q → q < w.heap.size) :
    Calls Tryz.prog 86 #[.pointer (some ⟨rb, 0, none⟩)] w fun en w' => ∃ v, en = .returned v ∧ Hid (IsE w' w.heap.size w'.heap.size v (.call e es) ∧ IsRw w' D rb ab ps (i + X.pz [(X.Part.br 11 ([p] ++ [X.Part.br 12 gs]))]) ∧ Kp (Sw rb ab) w w') := by
  obtain ⟨v0, hb0, hn0⟩ := h.blk
  have c1 := cell_of_row w _ 1 _ _ _ hb0
  obtain ⟨g, o, cap, kv, rfl, hD, y0, y1, y2, y3, hkk, -, hc1, hc2, -, -⟩ := hn0.head
  have y0' : w.cell? ⟨g, o, none⟩ = some (.int .i64 11) := y0
  have hi1 : (0 : Int) < ((ps.length + 1 : Nat) : Int) := by omega
  have hi2 : 0 < ps.length + 1 := by omega
  have HEn := hide (wenter_any D rb ab (X.Part.br 11 ([p] ++ [X.Part.br 12 gs])) ps i w h (by show i + 0 ≤ _; omega) hDl)
  have HDl := hide hDl
  rw [X.pz_br] at hi
  have hel := rds_len gs hg
  clear h hb0 hn0 hkk y0 y1 y2 y3 hDl
  go_enter Tryz.func86, Tryz.ntmps86
  go_wp2_with fail
  refine (HEn.out).mono ?_
  rintro en w2 ⟨a4, a5, a6, rfl, X2⟩
  have HT : Hid (Ent w D rb ab ps ([p] ++ [X.Part.br 12 gs]) i w2 (.slice a4 a5 a6)) := ent_of (X2.out) HDl.out
  clear HEn X2 c1 y0'
  have HC := hide (wcall_any D w2.heap.size ab p gs e es i _ (HT.out).inn hc hg H1 HE hi hql (by omega) (HT.out).dl)
  clear hc hg HE
  go_wp2_with fail
  refine (HC.out).mono ?_
  rintro en w4 ⟨b, rfl, X4⟩
  have HFin : Hid (IsE w4 w.heap.size w4.heap.size (.iface 254 (.pointer (some ⟨b, 0, none⟩))) (.call e es) ∧ IsRw w4 D rb ab ps (i + X.pz [(X.Part.br 11 ([p] ++ [X.Part.br 12 gs]))]) ∧ Kp (Sw rb ab) w w4) := by
    obtain ⟨z1, z2⟩ := (HT.out).out w4 [] _ (X4.out).2.1 (X4.out).2.2
    have := (HT.out).le
    have := (HT.out).sz
    rw [X.pz_br]
    exact ⟨(X4.out).1.wide (by omega) (Nat.le_refl _), z1, z2⟩
  clear HC X4 HT
  go_wp2_with fail
  go_ret
  exact ⟨_, rfl, HFin⟩
set_option maxRecDepth 100000 in
set_option maxHeartbeats 4000000 in
theorem xhole_any (D : Nat → Prop) (rb ab : Nat) (t qs : List X.Part) (k : Nat) (x : List UInt8) (ps : List X.Part) (i : Nat) (w : World) (h : IsRw w D rb ab ((X.Part.br 19 t) :: ps) i) (ht : X.Tk1 t k x qs) (hpl : t.length ≤ 268435456) (hi : i + X.pz [(X.Part.br 19 t)] ≤ 1073741824) (hDl : ∀ q, D q → q < w.heap.size) :
    Calls Tryz.prog 86 #[.pointer (some ⟨rb, 0, none⟩)] w fun en w' => ∃ v, en = .returned v ∧ Hid (IsE w' w.heap.size w'.heap.size v (.hole (i + X.pz qs)) ∧ IsRw w' D rb ab ps (i + X.pz [(X.Part.br 19 t)]) ∧ Kp (Sw rb ab) w w') := by
  obtain ⟨v0, hb0, hn0⟩ := h.blk
  have c1 := cell_of_row w _ 1 _ _ _ hb0
  obtain ⟨g, o, cap, kv, rfl, hD, y0, y1, y2, y3, hkk, -, hc1, hc2, -, -⟩ := hn0.head
  have y0' : w.cell? ⟨g, o, none⟩ = some (.int .i64 19) := y0
  have hi1 : (0 : Int) < ((ps.length + 1 : Nat) : Int) := by omega
  have hi2 : 0 < ps.length + 1 := by omega
  have HEn := hide (wenter_any D rb ab (X.Part.br 19 t) ps i w h (by show i + 0 ≤ _; omega) hDl)
  have HDl := hide hDl
  rw [X.pz_br] at hi
  clear h hb0 hn0 hkk y0 y1 y2 y3 hDl
  go_enter Tryz.func86, Tryz.ntmps86
  go_wp2_with fail
  refine (HEn.out).mono ?_
  rintro en w2 ⟨a4, a5, a6, rfl, X2⟩
  have HT : Hid (Ent w D rb ab ps t i w2 (.slice a4 a5 a6)) := ent_of (X2.out) HDl.out
  clear HEn X2 c1 y0'
  have HC := hide (whole_any D w2.heap.size ab t qs k x i _ (HT.out).inn ht hi (by omega) (HT.out).dl)
  clear ht
  go_wp2_with fail
  refine (HC.out).mono ?_
  rintro en w4 ⟨b, rfl, X4⟩
  have HFin : Hid (IsE w4 w.heap.size w4.heap.size (.iface 262 (.pointer (some ⟨b, 0, none⟩))) (.hole (i + X.pz qs)) ∧ IsRw w4 D rb ab ps (i + X.pz [(X.Part.br 19 t)]) ∧ Kp (Sw rb ab) w w4) := by
    obtain ⟨z1, z2⟩ := (HT.out).out w4 [] _ (X4.out).2.1 (X4.out).2.2
    have := (HT.out).le
    have := (HT.out).sz
    rw [X.pz_br]
    exact ⟨(X4.out).1.wide (by omega) (Nat.le_refl _), z1, z2⟩
  clear HC X4 HT
  go_wp2_with fail
  go_ret
  exact ⟨_, rfl, HFin⟩
set_option maxRecDepth 100000 in
set_option maxHeartbeats 4000000 in
theorem xvar_any (D : Nat → Prop) (rb ab : Nat) (t qs : List X.Part) (x : List UInt8) (ps : List X.Part) (i : Nat) (w : World) (h : IsRw w D rb ab ((X.Part.br 18 t) :: ps) i) (ht : X.Tk1 t 3 x qs) (hpl : t.length ≤ 268435456) (hi : i + X.pz [(X.Part.br 18 t)] ≤ 1073741824) (hDl : ∀ q, D q → q < w.heap.size) :
    Calls Tryz.prog 86 #[.pointer (some ⟨rb, 0, none⟩)] w fun en w' => ∃ v, en = .returned v ∧ Hid (IsE w' w.heap.size w'.heap.size v (.var (x, i + X.pz qs)) ∧ IsRw w' D rb ab ps (i + X.pz [(X.Part.br 18 t)]) ∧ Kp (Sw rb ab) w w') := by
  obtain ⟨v0, hb0, hn0⟩ := h.blk
  have c1 := cell_of_row w _ 1 _ _ _ hb0
  obtain ⟨g, o, cap, kv, rfl, hD, y0, y1, y2, y3, hkk, -, hc1, hc2, -, -⟩ := hn0.head
  have y0' : w.cell? ⟨g, o, none⟩ = some (.int .i64 18) := y0
  have hi1 : (0 : Int) < ((ps.length + 1 : Nat) : Int) := by omega
  have hi2 : 0 < ps.length + 1 := by omega
  have HEn := hide (wenter_any D rb ab (X.Part.br 18 t) ps i w h (by show i + 0 ≤ _; omega) hDl)
  have HDl := hide hDl
  rw [X.pz_br] at hi
  have hnm := X.Nmp.name t x qs i ht
  clear h hb0 hn0 hkk y0 y1 y2 y3 hDl
  go_enter Tryz.func86, Tryz.ntmps86
  go_wp2_with fail
  refine (HEn.out).mono ?_
  rintro en w2 ⟨a4, a5, a6, rfl, X2⟩
  have HT : Hid (Ent w D rb ab ps t i w2 (.slice a4 a5 a6)) := ent_of (X2.out) HDl.out
  clear HEn X2 c1 y0'
  have hin := (HT.out).inn
  rw [← List.append_nil t] at hin
  have HC := hide (wname_any D w2.heap.size ab t (x, i + X.pz qs) [] i _ hin hnm (by rw [List.append_nil]; exact hi) (by rw [List.append_nil]; omega) (HT.out).dl)
  clear ht hin hnm
  go_wp2_with fail
  refine (HC.out).mono ?_
  rintro en w4 ⟨rfl, X4⟩
  have K4 : Hid (IsRw w4 D rb ab ps (i + X.pz [(X.Part.br 18 t)]) ∧ Kp (Sw rb ab) w w4) := by
    rw [X.pz_br]
    exact (HT.out).out w4 [] _ (X4.out).1 (X4.out).2
  have hs4 := (K4.out).2.size
  have kB : Below w4.heap.size w4 (w4.alloc (.cells #[.string (ba x), .int .i64 ((i : Int) + (X.pz qs : Int))] 207)) := (Below.refl _ w4).alloc (Nat.le_refl _) _
  have HFin : Hid (IsE (w4.alloc (.cells #[.string (ba x), .int .i64 ((i : Int) + (X.pz qs : Int))] 207)) w.heap.size (w4.alloc (.cells #[.string (ba x), .int .i64 ((i : Int) + (X.pz qs : Int))] 207)).heap.size (.iface 203 (.pointer (some ⟨w4.heap.size, 0, none⟩))) (.var (x, i + X.pz qs)) ∧ IsRw (w4.alloc (.cells #[.string (ba x), .int .i64 ((i : Int) + (X.pz qs : Int))] 207)) D rb ab ps (i + X.pz [(X.Part.br 18 t)]) ∧ Kp (Sw rb ab) w (w4.alloc (.cells #[.string (ba x), .int .i64 ((i : Int) + (X.pz qs : Int))] 207))) := ⟨.var _ _ ⟨hs4, by simp⟩ (by rw [Int.natCast_add]; exact heap_alloc_new w4 _), (K4.out).1.below kB, (K4.out).2.trans (Kp.ofBelow kB (fun _ => False)) (fun _ _ h => h.elim)⟩
  clear HC X4 HT K4 kB
  go_wp2_with fail
  go_ret
  exact ⟨_, rfl, HFin⟩
set_option maxRecDepth 100000 in
set_option maxHeartbeats 4000000 in
theorem xlit_any (D : Nat → Prop) (rb ab : Nat) (t qs : List X.Part) (k u : Nat) (x : List UInt8) (ps : List X.Part) (i : Nat) (w : World) (h : IsRw w D rb ab ((X.Part.br k t) :: ps) i) (hk : 15 ≤ k ∧ k ≤ 17) (ht : X.Tk1 t u x qs) (hpl : t.length ≤ 268435456) (hi : i + X.pz [(X.Part.br k t)] ≤ 1073741824) (hDl : ∀ q, D q → q < w.heap.size) :
    Calls Tryz.prog 86 #[.pointer (some ⟨rb, 0, none⟩)] w fun en w' => ∃ v, en = .returned v ∧ Hid (IsE w' w.heap.size w'.heap.size v (.lit k x) ∧ IsRw w' D rb ab ps (i + X.pz [(X.Part.br k t)]) ∧ Kp (Sw rb ab) w w') := by
  obtain ⟨v0, hb0, hn0⟩ := h.blk
  have c1 := cell_of_row w _ 1 _ _ _ hb0
  obtain ⟨g, o, cap, kv, rfl, hD, y0, y1, y2, y3, hkk, -, hc1, hc2, -, -⟩ := hn0.head
  have y0' : w.cell? ⟨g, o, none⟩ = some (.int .i64 k) := y0
  have hi1 : (0 : Int) < ((ps.length + 1 : Nat) : Int) := by omega
  have hi2 : 0 < ps.length + 1 := by omega
  have HEn := hide (wenter_any D rb ab (X.Part.br k t) ps i w h (by show i + 0 ≤ _; omega) hDl)
  have HDl := hide hDl
  rw [X.pz_br] at hi
  have n1 : ((k : Int) == 1) = false := by simp; omega
  have n7 : ((k : Int) == 7) = false := by simp; omega
  have n8 : ((k : Int) == 8) = false := by simp; omega
  have n9 : ((k : Int) == 9) = false := by simp; omega
  have n10 : ((k : Int) == 10) = false := by simp; omega
  have n11 : ((k : Int) == 11) = false := by simp; omega
  have n13 : ((k : Int) == 13) = false := by simp; omega
  have n14 : ((k : Int) == 14) = false := by simp; omega
  have n18 : ((k : Int) == 18) = false := by simp; omega
  have n19 : ((k : Int) == 19) = false := by simp; omega
  clear h hb0 hn0 hkk y0 y1 y2 y3 hDl
  go_enter Tryz.func86, Tryz.ntmps86
  go_wp2_with fail
  refine (HEn.out).mono ?_
  rintro en w2 ⟨a4, a5, a6, rfl, X2⟩
  have HT : Hid (Ent w D rb ab ps t i w2 (.slice a4 a5 a6)) := ent_of (X2.out) HDl.out
  clear HEn X2 c1 y0'
  have hin := (HT.out).inn
  rw [← List.append_nil t] at hin
  have hT0 := ht.tk0
  have HC := hide (wpass_any D w2.heap.size ab t qs _ [] i _ hin hT0 (by rw [List.append_nil]; exact hi) (by rw [List.append_nil]; omega) (HT.out).dl)
  have hfl := fld_text
  clear ht hin hT0
  go_wp2_with fail
  refine (HC.out).mono ?_
  rintro en w4 ⟨f4, f5, f6, rfl, X4⟩
  have hnt : X.ntx (.leaf u x) = x := rfl
  rw [hnt]
  have K4 : Hid (IsRw w4 D rb ab ps (i + X.pz [(X.Part.br k t)]) ∧ Kp (Sw rb ab) w w4) := by
    rw [X.pz_br]
    exact (HT.out).out w4 [] _ (X4.out).1 (X4.out).2
  have hs4 := (K4.out).2.size
  have kB : Below w4.heap.size w4 (w4.alloc (.cells #[.int .i64 k, .string (ba x)] 266)) := (Below.refl _ w4).alloc (Nat.le_refl _) _
  have HFin : Hid (IsE (w4.alloc (.cells #[.int .i64 k, .string (ba x)] 266)) w.heap.size (w4.alloc (.cells #[.int .i64 k, .string (ba x)] 266)).heap.size (.iface 264 (.pointer (some ⟨w4.heap.size, 0, none⟩))) (.lit k x) ∧ IsRw (w4.alloc (.cells #[.int .i64 k, .string (ba x)] 266)) D rb ab ps (i + X.pz [(X.Part.br k t)]) ∧ Kp (Sw rb ab) w (w4.alloc (.cells #[.int .i64 k, .string (ba x)] 266))) := ⟨.lit _ k x ⟨hs4, by simp⟩ (heap_alloc_new w4 _), (K4.out).1.below kB, (K4.out).2.trans (Kp.ofBelow kB (fun _ => False)) (fun _ _ h => h.elim)⟩
  clear HC X4 HT K4 kB
  go_wp2_with fail
  go_ret
  exact ⟨_, rfl, HFin⟩
set_option maxRecDepth 100000 in
set_option maxHeartbeats 4000000 in
theorem xlist_any (D : Nat → Prop) (rb ab : Nat) (qs : List X.Part) (es : List X.Ex) (ps : List X.Part) (i : Nat) (w : World) (h : IsRw w D rb ab ((X.Part.br 13 qs) :: ps) i) (hr0 : X.Rds qs i es) (HE : ∀ p ∈ qs, ExOk p) (hql : qs.length ≤ 268435456) (hi : i + X.pz [(X.Part.br 13 qs)] ≤ 1073741824) (hDl : ∀ q, D q → q < w.heap.size) :
    Calls Tryz.prog 86 #[.pointer (some ⟨rb, 0, none⟩)] w fun en w' => ∃ v, en = .returned v ∧ Hid (IsE w' w.heap.size w'.heap.size v (.list es) ∧ IsRw w' D rb ab ps (i + X.pz [(X.Part.br 13 qs)]) ∧ Kp (Sw rb ab) w w') := by
  obtain ⟨v0, hb0, hn0⟩ := h.blk
  have c1 := cell_of_row w _ 1 _ _ _ hb0
  obtain ⟨g, o, cap, kv, rfl, hD, y0, y1, y2, y3, hkk, -, hc1, hc2, -, -⟩ := hn0.head
  have y0' : w.cell? ⟨g, o, none⟩ = some (.int .i64 13) := y0
  have hi1 : (0 : Int) < ((ps.length + 1 : Nat) : Int) := by omega
  have hi2 : 0 < ps.length + 1 := by omega
  have HEn := hide (wenter_any D rb ab (X.Part.br 13 qs) ps i w h (by show i + 0 ≤ _; omega) hDl)
  have HDl := hide hDl
  rw [X.pz_br] at hi
  have hel := rds_len qs hr0
  clear h hb0 hn0 hkk y0 y1 y2 y3 hDl
  go_enter Tryz.func86, Tryz.ntmps86
  go_wp2_with fail
  refine (HEn.out).mono ?_
  rintro en w2 ⟨a4, a5, a6, rfl, X2⟩
  have HT : Hid (Ent w D rb ab ps qs i w2 (.slice a4 a5 a6)) := ent_of (X2.out) HDl.out
  clear HEn X2 c1 y0'
  have HC := hide (wexpressions_any D w2.heap.size ab qs es i _ (HT.out).inn hr0 HE hi hql (by omega) (HT.out).dl)
  clear hr0 HE
  go_wp2_with fail
  refine (HC.out).mono ?_
  rintro en w4 ⟨rv, rfl, X4⟩
  obtain ⟨ao, cp, vs, hrv, hq1, hq2, hrr, hpp⟩ := (X4.out).1.ex
  subst hrv
  have hle2 := (HT.out).le
  have hsz2 := (HT.out).sz
  have K4 : Hid (IsRw w4 D rb ab ps (i + X.pz [(X.Part.br 13 qs)]) ∧ Kp (Sw rb ab) w w4) := by
    rw [X.pz_br]
    exact (HT.out).out w4 [] _ (X4.out).2.1 (X4.out).2.2
  have hs4 := (K4.out).2.size
  have kB : Below w4.heap.size w4 (w4.alloc (.cells #[.slice ao es.length cp] 258)) := (Below.refl _ w4).alloc (Nat.le_refl _) _
  have HFin : Hid (IsE (w4.alloc (.cells #[.slice ao es.length cp] 258)) w.heap.size (w4.alloc (.cells #[.slice ao es.length cp] 258)).heap.size (.iface 256 (.pointer (some ⟨w4.heap.size, 0, none⟩))) (.list es) ∧ IsRw (w4.alloc (.cells #[.slice ao es.length cp] 258)) D rb ab ps (i + X.pz [(X.Part.br 13 qs)]) ∧ Kp (Sw rb ab) w (w4.alloc (.cells #[.slice ao es.length cp] 258))) := ⟨.list _ ao cp vs es ⟨hs4, by simp⟩ (heap_alloc_new w4 _) ⟨hq1, hq2⟩ (fun j hj => by obtain ⟨q, e1, e2, e3, e4⟩ := hrr j hj; exact ⟨q, e1, by omega, by simp; omega, (Kp.ofBelow kB (fun _ => False)).cellv e4 id⟩) (fun j e' hj => ((hpp j e' hj).keep (Kp.ofBelow kB (fun _ => False)) (fun _ _ _ => id)).wide (by omega) (by simp)), (K4.out).1.below kB, (K4.out).2.trans (Kp.ofBelow kB (fun _ => False)) (fun _ _ h => h.elim)⟩
  clear HC X4 HT K4 kB hrr hpp
  go_wp2_with fail
  go_ret
  exact ⟨_, rfl, HFin⟩
set_option maxRecDepth 100000 in
set_option maxHeartbeats 4000000 in
theorem xgroup_any (D : Nat → Prop) (rb ab : Nat) (qs : List X.Part) (e : X.Ex) (ps : List X.Part) (i : Nat) (w : World) (h : IsRw w D rb ab ((X.Part.br 14 qs) :: ps) i) (hr0 : X.Rds qs i [e]) (HE : ∀ p ∈ qs, ExOk p) (hql : qs.length ≤ 268435456) (hi : i + X.pz [(X.Part.br 14 qs)] ≤ 1073741824) (hDl : ∀ q, D q → q < w.heap.size) :
    Calls Tryz.prog 86 #[.pointer (some ⟨rb, 0, none⟩)] w fun en w' => ∃ v, en = .returned v ∧ Hid (IsE w' w.heap.size w'.heap.size v (.group e) ∧ IsRw w' D rb ab ps (i + X.pz [(X.Part.br 14 qs)]) ∧ Kp (Sw rb ab) w w') := by
  obtain ⟨v0, hb0, hn0⟩ := h.blk
  have c1 := cell_of_row w _ 1 _ _ _ hb0
  obtain ⟨g, o, cap, kv, rfl, hD, y0, y1, y2, y3, hkk, -, hc1, hc2, -, -⟩ := hn0.head
  have y0' : w.cell? ⟨g, o, none⟩ = some (.int .i64 14) := y0
  have hi1 : (0 : Int) < ((ps.length + 1 : Nat) : Int) := by omega
  have hi2 : 0 < ps.length + 1 := by omega
  have HEn := hide (wenter_any D rb ab (X.Part.br 14 qs) ps i w h (by show i + 0 ≤ _; omega) hDl)
  have HDl := hide hDl
  rw [X.pz_br] at hi
  have hel := rds_len qs hr0
  clear h hb0 hn0 hkk y0 y1 y2 y3 hDl
  go_enter Tryz.func86, Tryz.ntmps86
  go_wp2_with fail
  refine (HEn.out).mono ?_
  rintro en w2 ⟨a4, a5, a6, rfl, X2⟩
  have HT : Hid (Ent w D rb ab ps qs i w2 (.slice a4 a5 a6)) := ent_of (X2.out) HDl.out
  clear HEn X2 c1 y0'
  have HC := hide (wexpressions_any D w2.heap.size ab qs [e] i _ (HT.out).inn hr0 HE hi hql (by omega) (HT.out).dl)
  clear hr0 HE
  go_wp2_with fail
  refine (HC.out).mono ?_
  rintro en w4 ⟨rv, rfl, X4⟩
  obtain ⟨ao, cp, vs, hrv, hq1, hq2, hrr, hpp⟩ := (X4.out).1.ex
  subst hrv
  have hle2 := (HT.out).le
  have hsz2 := (HT.out).sz
  obtain ⟨q, rfl, e2, e3, e4⟩ := hrr 0 (by simp)
  have hx := hpp 0 e rfl
  obtain ⟨y1, g1, hv1⟩ := hx.iface
  rw [hv1] at hx e4
  have K4 : Hid (IsRw w4 D rb ab ps (i + X.pz [(X.Part.br 14 qs)]) ∧ Kp (Sw rb ab) w w4) := by
    rw [X.pz_br]
    exact (HT.out).out w4 [] _ (X4.out).2.1 (X4.out).2.2
  have hs4 := (K4.out).2.size
  have kB : Below w4.heap.size w4 (w4.alloc (.cells #[.iface y1 (.pointer (some ⟨g1, 0, none⟩))] 261)) := (Below.refl _ w4).alloc (Nat.le_refl _) _
  have HFin : Hid (IsE (w4.alloc (.cells #[.iface y1 (.pointer (some ⟨g1, 0, none⟩))] 261)) w.heap.size (w4.alloc (.cells #[.iface y1 (.pointer (some ⟨g1, 0, none⟩))] 261)).heap.size (.iface 259 (.pointer (some ⟨w4.heap.size, 0, none⟩))) (.group e) ∧ IsRw (w4.alloc (.cells #[.iface y1 (.pointer (some ⟨g1, 0, none⟩))] 261)) D rb ab ps (i + X.pz [(X.Part.br 14 qs)]) ∧ Kp (Sw rb ab) w (w4.alloc (.cells #[.iface y1 (.pointer (some ⟨g1, 0, none⟩))] 261))) := ⟨.group _ _ e ⟨hs4, by simp⟩ (heap_alloc_new w4 _) ((hx.keep (Kp.ofBelow kB (fun _ => False)) (fun _ _ _ => id)).wide (by omega) (by simp)), (K4.out).1.below kB, (K4.out).2.trans (Kp.ofBelow kB (fun _ => False)) (fun _ _ h => h.elim)⟩
  clear HC X4 HT K4 kB hrr hpp hx
  go_wp2_with fail
  go_ret
  exact ⟨_, rfl, HFin⟩
set_option maxRecDepth 100000 in
set_option maxHeartbeats 4000000 in
theorem xite_any (D : Nat → Prop) (rb ab : Nat) (qs : List X.Part) (e1 e2 e3 : X.Ex) (ps : List X.Part) (i : Nat) (w : World) (h : IsRw w D rb ab ((X.Part.br 8 qs) :: ps) i) (hr0 : X.Rds qs i [e1, e2, e3]) (HE : ∀ p ∈ qs, ExOk p) (hql : qs.length ≤ 268435456) (hi : i + X.pz [(X.Part.br 8 qs)] ≤ 1073741824) (hDl : ∀ q, D q → q < w.heap.size) :
    Calls Tryz.prog 86 #[.pointer (some ⟨rb, 0, none⟩)] w fun en w' => ∃ v, en = .returned v ∧ Hid (IsE w' w.heap.size w'.heap.size v (.ite e1 e2 e3) ∧ IsRw w' D rb ab ps (i + X.pz [(X.Part.br 8 qs)]) ∧ Kp (Sw rb ab) w w') := by
  obtain ⟨v0, hb0, hn0⟩ := h.blk
  have c1 := cell_of_row w _ 1 _ _ _ hb0
  obtain ⟨g, o, cap, kv, rfl, hD, y0, y1, y2, y3, hkk, -, hc1, hc2, -, -⟩ := hn0.head
  have y0' : w.cell? ⟨g, o, none⟩ = some (.int .i64 8) := y0
  have hi1 : (0 : Int) < ((ps.length + 1 : Nat) : Int) := by omega
  have hi2 : 0 < ps.length + 1 := by omega
  have HEn := hide (wenter_any D rb ab (X.Part.br 8 qs) ps i w h (by show i + 0 ≤ _; omega) hDl)
  have HDl := hide hDl
  rw [X.pz_br] at hi
  have hel := rds_len qs hr0
  clear h hb0 hn0 hkk y0 y1 y2 y3 hDl
  go_enter Tryz.func86, Tryz.ntmps86
  go_wp2_with fail
  refine (HEn.out).mono ?_
  rintro en w2 ⟨a4, a5, a6, rfl, X2⟩
  have HT : Hid (Ent w D rb ab ps qs i w2 (.slice a4 a5 a6)) := ent_of (X2.out) HDl.out
  clear HEn X2 c1 y0'
  have HC := hide (wexpressions_any D w2.heap.size ab qs [e1, e2, e3] i _ (HT.out).inn hr0 HE hi hql (by omega) (HT.out).dl)
  clear hr0 HE
  go_wp2_with fail
  refine (HC.out).mono ?_
  rintro en w4 ⟨rv, rfl, X4⟩
  obtain ⟨ao, cp, vs, hrv, hq1, hq2, hrr, hpp⟩ := (X4.out).1.ex
  subst hrv
  have hle2 := (HT.out).le
  have hsz2 := (HT.out).sz
  obtain ⟨q, rfl, b2, b3, b4⟩ := hrr 0 (by simp)
  obtain ⟨q', hq', -, -, b5⟩ := hrr 1 (by simp)
  obtain ⟨q'', hq'', -, -, b6⟩ := hrr 2 (by simp)
  cases hq'
  cases hq''
  have hx := hpp 0 e1 rfl
  have hx2 := hpp 1 e2 rfl
  have hx3 := hpp 2 e3 rfl
  obtain ⟨y1, g1, hv1⟩ := hx.iface
  obtain ⟨y2, g2, hv2⟩ := hx2.iface
  obtain ⟨y3, g3, hv3⟩ := hx3.iface
  rw [hv1] at hx b4
  rw [hv2] at hx2 b5
  rw [hv3] at hx3 b6
  have K4 : Hid (IsRw w4 D rb ab ps (i + X.pz [(X.Part.br 8 qs)]) ∧ Kp (Sw rb ab) w w4) := by
    rw [X.pz_br]
    exact (HT.out).out w4 [] _ (X4.out).2.1 (X4.out).2.2
  have hs4 := (K4.out).2.size
  have kB : Below w4.heap.size w4 (w4.alloc (.cells #[.iface y1 (.pointer (some ⟨g1, 0, none⟩)), .iface y2 (.pointer (some ⟨g2, 0, none⟩)), .iface y3 (.pointer (some ⟨g3, 0, none⟩))] 250)) := (Below.refl _ w4).alloc (Nat.le_refl _) _
  have HFin : Hid (IsE (w4.alloc (.cells #[.iface y1 (.pointer (some ⟨g1, 0, none⟩)), .iface y2 (.pointer (some ⟨g2, 0, none⟩)), .iface y3 (.pointer (some ⟨g3, 0, none⟩))] 250)) w.heap.size (w4.alloc (.cells #[.iface y1 (.pointer (some ⟨g1, 0, none⟩)), .iface y2 (.pointer (some ⟨g2, 0, none⟩)), .iface y3 (.pointer (some ⟨g3, 0, none⟩))] 250)).heap.size (.iface 248 (.pointer (some ⟨w4.heap.size, 0, none⟩))) (.ite e1 e2 e3) ∧ IsRw (w4.alloc (.cells #[.iface y1 (.pointer (some ⟨g1, 0, none⟩)), .iface y2 (.pointer (some ⟨g2, 0, none⟩)), .iface y3 (.pointer (some ⟨g3, 0, none⟩))] 250)) D rb ab ps (i + X.pz [(X.Part.br 8 qs)]) ∧ Kp (Sw rb ab) w (w4.alloc (.cells #[.iface y1 (.pointer (some ⟨g1, 0, none⟩)), .iface y2 (.pointer (some ⟨g2, 0, none⟩)), .iface y3 (.pointer (some ⟨g3, 0, none⟩))] 250))) := ⟨.ite _ _ _ _ e1 e2 e3 ⟨hs4, by simp⟩ (heap_alloc_new w4 _) ((hx.keep (Kp.ofBelow kB (fun _ => False)) (fun _ _ _ => id)).wide (by omega) (by simp)) ((hx2.keep (Kp.ofBelow kB (fun _ => False)) (fun _ _ _ => id)).wide (by omega) (by simp)) ((hx3.keep (Kp.ofBelow kB (fun _ => False)) (fun _ _ _ => id)).wide (by omega) (by simp)), (K4.out).1.below kB, (K4.out).2.trans (Kp.ofBelow kB (fun _ => False)) (fun _ _ h => h.elim)⟩
  clear HC X4 HT K4 hrr hpp hx hx2 hx3
  have b4' : w4.cell? ⟨q, 0, none⟩ = some (.iface y1 (.pointer (some ⟨g1, 0, none⟩))) := b4
  have b5' : w4.cell? ⟨q, 1, none⟩ = some (.iface y2 (.pointer (some ⟨g2, 0, none⟩))) := b5
  have b6' : w4.cell? ⟨q, 2, none⟩ = some (.iface y3 (.pointer (some ⟨g3, 0, none⟩))) := b6
  have hq4 : q < w4.heap.size := World.block_lt_of_cell? _ _ b4'
  clear b4 b5 b6
  go_wp2_with fail
  go_region_held3 (fun w' => w'.cell? ⟨q, 0, none⟩ = some (.iface y1 (.pointer (some ⟨g1, 0, none⟩))) ∧ w'.cell? ⟨q, 1, none⟩ = some (.iface y2 (.pointer (some ⟨g2, 0, none⟩))) ∧ w'.cell? ⟨q, 2, none⟩ = some (.iface y3 (.pointer (some ⟨g3, 0, none⟩))))
    (first | (with_reducible exact ⟨b4', b5', b6'⟩) | (with_reducible exact ⟨Lib.cell?_alloc_some _ b4', Lib.cell?_alloc_some _ b5', Lib.cell?_alloc_some _ b6'⟩) | go_keep)
    (fail)
  go_wp2_with fail
  go_ret
  have kD := (Below.refl (w4.alloc (.cells #[.iface y1 (.pointer (some ⟨g1, 0, none⟩)), .iface y2 (.pointer (some ⟨g2, 0, none⟩)), .iface y3 (.pointer (some ⟨g3, 0, none⟩))] 250)).heap.size (w4.alloc (.cells #[.iface y1 (.pointer (some ⟨g1, 0, none⟩)), .iface y2 (.pointer (some ⟨g2, 0, none⟩)), .iface y3 (.pointer (some ⟨g3, 0, none⟩))] 250))).drew
  exact ⟨_, rfl, ((HFin.out).1.keep (Kp.ofBelow kD (fun _ => False)) (fun _ _ _ => id)), (HFin.out).2.1.below kD, (HFin.out).2.2.drew⟩
set_option maxRecDepth 100000 in
set_option maxHeartbeats 4000000 in
theorem xmissing_any (D : Nat → Prop) (rb ab : Nat)  (ps : List X.Part) (i : Nat) (w : World) (h : IsRw w D rb ab ((X.Part.miss X.sExpr) :: ps) i)  (hi : i + X.pz [(X.Part.miss X.sExpr)] ≤ 1073741824) (hDl : ∀ q, D q → q < w.heap.size) :
    Calls Tryz.prog 86 #[.pointer (some ⟨rb, 0, none⟩)] w fun en w' => ∃ v, en = .returned v ∧ Hid (IsE w' w.heap.size w'.heap.size v .missing ∧ IsRw w' D rb ab ps (i + X.pz [(X.Part.miss X.sExpr)]) ∧ Kp (Sw rb ab) w w') := by
  obtain ⟨v0, hb0, hn0⟩ := h.blk
  have c1 := cell_of_row w _ 1 _ _ _ hb0
  obtain ⟨g, o, cap, kv, rfl, hD, y0, y1, y2, y3, hkk, -, hc1, hc2, -, -⟩ := hn0.head
  have y0' : w.cell? ⟨g, o, none⟩ = some (.int .i64 1) := y0
  have hi1 : (0 : Int) < ((ps.length + 1 : Nat) : Int) := by omega
  have hi2 : 0 < ps.length + 1 := by omega
  have HEn := hide (wenter_any D rb ab (X.Part.miss X.sExpr) ps i w h (by show i + 0 ≤ _; omega) hDl)
  have HDl := hide hDl
  have hpz : X.pz [X.Part.miss X.sExpr] = 0 := rfl
  rw [hpz, Nat.add_zero]
  clear h hb0 hn0 hkk y0 y1 y2 y3 hDl
  go_enter Tryz.func86, Tryz.ntmps86
  go_wp2_with fail
  refine (HEn.out).mono ?_
  rintro en w2 ⟨a4, a5, a6, rfl, X2⟩
  have HT : Hid (Ent w D rb ab ps [] i w2 (.slice a4 a5 a6)) := ent_of (X2.out) HDl.out
  clear HEn X2 c1 y0'
  have K4 : Hid (IsRw (w2.alloc (.cells #[.pointer (some ⟨ab, 0, none⟩), .slice a4 a5 a6] 124)) D rb ab ps i ∧ Kp (Sw rb ab) w (w2.alloc (.cells #[.pointer (some ⟨ab, 0, none⟩), .slice a4 a5 a6] 124))) := (HT.out).out _ [] i (HT.out).inn (Kp.refl _ _)
  clear HT
  have HFin : Hid (∀ W o b, W.heap.size = b → IsRw W D rb ab ps i ∧ Kp (Sw rb ab) w W → IsE (W.alloc o) w.heap.size (W.alloc o).heap.size (.iface 244 (.pointer (some ⟨b, 0, none⟩))) .missing ∧ IsRw (W.alloc o) D rb ab ps i ∧ Kp (Sw rb ab) w (W.alloc o)) := fun W o b hb hK => by
    subst hb
    have hs4 := hK.2.size
    have kB : Below W.heap.size W (W.alloc o) := (Below.refl _ W).alloc (Nat.le_refl _) _
    exact ⟨.missing _ ⟨hs4, by simp⟩, hK.1.below kB, hK.2.trans (Kp.ofBelow kB (fun _ => False)) (fun _ _ h => h.elim)⟩
  go_wp2_with fail
  go_ret
  exact ⟨_, rfl, hide ((HFin.out) _ _ _ (by simp) K4.out)⟩
end Go.Proofs.YtdipmfdhnplpaaaGreatDoor
