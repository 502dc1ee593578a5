/- Package syntax: all kids of an expression, kind by kind. -/
import Derived.Test.YtgjbafamiggafaaGreatDoorVl
namespace Go.Proofs.YtgjbafamiggafaaGreatDoor
open Go.RowKit
open M
theorem nms_len {ps : List X.Part} {i : Nat} {ns : List X.Nm} (h : X.Nms ps i ns) : ns.length ≤ ps.length := by
  induction h with
  | nil i => exact Nat.le_refl _
  | name x ps i ns h ih => rw [List.length_cons, List.length_cons]; omega
  | leaf k x ps i ns hk h ih => rw [List.length_cons]; omega
  | lack ps i ns h ih => rw [List.length_cons, List.length_cons]; omega
  | miss m ps i ns hm h ih => rw [List.length_cons]; omega
theorem rds_len : ∀ (ps : List X.Part) {i : Nat} {es : List X.Ex}, X.Rds ps i es → es.length ≤ ps.length
  | [], i, es, h => by cases h; exact Nat.le_refl _
  | p :: ps, i, es, h => by
    cases h with
    | leaf _ _ _ _ _ h => have := rds_len ps h; rw [List.length_cons]; omega
    | miss _ _ _ _ _ h => have := rds_len ps h; rw [List.length_cons]; omega
    | cons _ _ _ e es _ h => have := rds_len ps h; rw [List.length_cons, List.length_cons]; omega
/-- What is known of the kids of a node. -/
structure Ent (w : World) (D : Nat → Prop) (ab : Nat) (qs : List X.Part) (i : Nat) (kv : Value) : Prop where
  inn : IsRw (w.alloc (.cells #[.pointer (some ⟨ab, 0, none⟩), kv] 103)) D w.heap.size ab qs i
  out : ∀ (w3 : World) (l : List X.Part) (k : Nat), IsRw w3 D w.heap.size ab l k → Kq D w.heap.size ab (w.alloc (.cells #[.pointer (some ⟨ab, 0, none⟩), kv] 103)) w3 → Psd w3 D ab k ∧ Kq D ab ab w w3
  dl : ∀ q, D q → q < (w.alloc (.cells #[.pointer (some ⟨ab, 0, none⟩), kv] 103)).heap.size
  sz : (w.alloc (.cells #[.pointer (some ⟨ab, 0, none⟩), kv] 103)).heap.size = w.heap.size + 1
  lt : ab < w.heap.size
theorem ent_of {w : World} {D : Nat → Prop} {ab : Nat} {qs : List X.Part} {i : Nat} {kv : Value} (hp : Psd w D ab i) (hk : NdS w D kv qs) (hg : X.Gd qs) (hd : ¬ D ab) (hDl : ∀ q, D q → q < w.heap.size) : Ent w D ab qs i kv := by
  have kB : Below w.heap.size w (w.alloc (.cells #[.pointer (some ⟨ab, 0, none⟩), kv] 103)) := (Below.refl _ w).alloc (Nat.le_refl _) _
  exact ⟨rw_inner hp hk hg hd hDl, fun w3 l k x y => ⟨x.psd, (Kq.ofBelow kB hp.lt).inner y (Nat.le_refl _)⟩, fun q hq => by have := hDl q hq; simp; omega, by simp, hp.lt⟩
set_option maxRecDepth 100000 in
set_option maxHeartbeats 4000000 in
theorem hlet_any (D : Nat → Prop) (ab : Nat) (a4 : Option Addr) (a5 a6 : Nat) (t1 n t2 t3 : List X.Part) (p1 p2 : X.Part) (nm : X.Nm) (e1 e2 : X.Ex) (i : Nat) (w : World) (hp : Psd w D ab i) (hk : NdS w D (.slice a4 a5 a6) (t1 ++ (n ++ (t2 ++ ([p1] ++ (t3 ++ [p2])))))) (hg : X.Gd (t1 ++ (n ++ (t2 ++ ([p1] ++ (t3 ++ [p2])))))) (hd : ¬ D ab) (h1 : X.Tkp t1) (hn : X.Nmp n (i + X.pz t1) nm) (h2 : X.Tkp t2) (hv : X.Rd p1 (i + X.pz t1 + X.pz n + X.pz t2) e1) (h3 : X.Tkp t3) (hb : X.Rd p2 (i + X.pz t1 + X.pz n + X.pz t2 + X.pz [p1] + X.pz t3) e2) (H1 : ExOk p1) (H2 : ExOk p2) (hpl : (t1 ++ (n ++ (t2 ++ ([p1] ++ (t3 ++ [p2]))))).length ≤ 268435456) (hi : i + X.pz (t1 ++ (n ++ (t2 ++ ([p1] ++ (t3 ++ [p2]))))) ≤ 1073741824) (hDl : ∀ q, D q → q < w.heap.size) :
    Calls Tryz.prog 90 #[.agg #[.pointer (some ⟨ab, 0, none⟩), .slice a4 a5 a6], .int .i64 7] w fun en w' => ∃ v, en = .returned v ∧ Hid (IsE w' w.heap.size w'.heap.size v (.lett nm e1 e2) ∧ Psd w' D ab (i + X.pz (t1 ++ (n ++ (t2 ++ ([p1] ++ (t3 ++ [p2])))))) ∧ Kq D ab ab w w') := by
  have HT := hide (ent_of hp hk hg hd hDl)
  have hsz := (HT.out).sz
  have hal := (HT.out).lt
  have HC := hide (wlet_any D w.heap.size ab t1 n t2 t3 p1 p2 nm e1 e2 i _ (HT.out).inn h1 hn h2 hv h3 hb H1 H2 hi (by omega) (HT.out).dl)
  clear h1 hn h2 hv h3 hb
  clear hp hk hg hd hDl
  go_enter Tryz.func90, Tryz.ntmps90
  go_wp2_with fail
  refine (HC.out).mono ?_
  rintro en w4 ⟨b, rfl, X4⟩
  have HFin : Hid (IsE w4 w.heap.size w4.heap.size (.iface 212 (.pointer (some ⟨b, 0, none⟩))) (.lett nm e1 e2) ∧ Psd w4 D ab (i + X.pz (t1 ++ (n ++ (t2 ++ ([p1] ++ (t3 ++ [p2])))))) ∧ Kq D ab ab w w4) := by
    obtain ⟨z1, z2⟩ := (HT.out).out w4 [] _ (X4.out).2.1 (X4.out).2.2
    exact ⟨(X4.out).1.wide (by omega) (Nat.le_refl _), z1, z2⟩
  clear HC X4 HT
  go_wp2_with fail
  go_ret
  exact ⟨_, rfl, HFin⟩
set_option maxRecDepth 100000 in
set_option maxHeartbeats 4000000 in
theorem hfun_any (D : Nat → Prop) (ab : Nat) (a4 : Option Addr) (a5 a6 : Nat) (t1 qs t2 : List X.Part) (p : X.Part) (ns : List X.Nm) (e : X.Ex) (i : Nat) (w : World) (hp : Psd w D ab i) (hk : NdS w D (.slice a4 a5 a6) (t1 ++ ([X.Part.br 6 qs] ++ (t2 ++ [p])))) (hg : X.Gd (t1 ++ ([X.Part.br 6 qs] ++ (t2 ++ [p])))) (hd : ¬ D ab) (h1 : X.Tkp t1) (hn : X.Nms qs (i + X.pz t1) ns) (h2 : X.Tkp t2) (hb : X.Rd p (i + X.pz t1 + X.pz qs + X.pz t2) e) (H1 : ExOk p) (hpl : (t1 ++ ([X.Part.br 6 qs] ++ (t2 ++ [p]))).length ≤ 268435456) (hql : qs.length ≤ 268435456) (hi : i + X.pz (t1 ++ ([X.Part.br 6 qs] ++ (t2 ++ [p]))) ≤ 1073741824) (hDl : ∀ q, D q → q < w.heap.size) :
    Calls Tryz.prog 90 #[.agg #[.pointer (some ⟨ab, 0, none⟩), .slice a4 a5 a6], .int .i64 9] w fun en w' => ∃ v, en = .returned v ∧ Hid (IsE w' w.heap.size w'.heap.size v (.fn ns e) ∧ Psd w' D ab (i + X.pz (t1 ++ ([X.Part.br 6 qs] ++ (t2 ++ [p])))) ∧ Kq D ab ab w w') := by
  have HT := hide (ent_of hp hk hg hd hDl)
  have hsz := (HT.out).sz
  have hal := (HT.out).lt
  have hnl := nms_len hn
  have HC := hide (wfun_any D w.heap.size ab t1 qs t2 p ns e i _ (HT.out).inn h1 hn h2 hb H1 hi (by omega) hql (by omega) (HT.out).dl)
  clear h1 hn h2 hb
  clear hp hk hg hd hDl
  go_enter Tryz.func90, Tryz.ntmps90
  go_wp2_with fail
  refine (HC.out).mono ?_
  rintro en w4 ⟨b, rfl, X4⟩
  have HFin : Hid (IsE w4 w.heap.size w4.heap.size (.iface 219 (.pointer (some ⟨b, 0, none⟩))) (.fn ns e) ∧ Psd w4 D ab (i + X.pz (t1 ++ ([X.Part.br 6 qs] ++ (t2 ++ [p])))) ∧ Kq D ab ab w w4) := by
    obtain ⟨z1, z2⟩ := (HT.out).out w4 [] _ (X4.out).2.1 (X4.out).2.2
    exact ⟨(X4.out).1.wide (by omega) (Nat.le_refl _), z1, z2⟩
  clear HC X4 HT
  go_wp2_with fail
  go_ret
  exact ⟨_, rfl, HFin⟩
set_option maxRecDepth 100000 in
set_option maxHeartbeats 4000000 in
theorem hbin_any (D : Nat → Prop) (ab : Nat) (a4 : Option Addr) (a5 a6 : Nat) (p1 p2 : X.Part) (t qs : List X.Part) (k : Nat) (x : List UInt8) (e1 e2 : X.Ex) (i : Nat) (w : World) (hp : Psd w D ab i) (hk : NdS w D (.slice a4 a5 a6) ([p1] ++ (t ++ [p2]))) (hg : X.Gd ([p1] ++ (t ++ [p2]))) (hd : ¬ D ab) (hl : X.Rd p1 i e1) (ht : X.Tk1 t k x qs) (hr2 : X.Rd p2 (i + X.pz [p1] + X.pz t) e2) (H1 : ExOk p1) (H2 : ExOk p2) (hpl : ([p1] ++ (t ++ [p2])).length ≤ 268435456) (hi : i + X.pz ([p1] ++ (t ++ [p2])) ≤ 1073741824) (hDl : ∀ q, D q → q < w.heap.size) :
    Calls Tryz.prog 90 #[.agg #[.pointer (some ⟨ab, 0, none⟩), .slice a4 a5 a6], .int .i64 10] w fun en w' => ∃ v, en = .returned v ∧ Hid (IsE w' w.heap.size w'.heap.size v (.bin e1 x e2) ∧ Psd w' D ab (i + X.pz ([p1] ++ (t ++ [p2]))) ∧ Kq D ab ab w w') := by
  have HT := hide (ent_of hp hk hg hd hDl)
  have hsz := (HT.out).sz
  have hal := (HT.out).lt
  have HC := hide (wbinary_any D w.heap.size ab p1 p2 t qs k x e1 e2 i _ (HT.out).inn hl ht hr2 H1 H2 hi (by omega) (HT.out).dl)
  clear hl ht hr2
  clear hp hk hg hd hDl
  go_enter Tryz.func90, Tryz.ntmps90
  go_wp2_with fail
  refine (HC.out).mono ?_
  rintro en w4 ⟨b, rfl, X4⟩
  have HFin : Hid (IsE w4 w.heap.size w4.heap.size (.iface 221 (.pointer (some ⟨b, 0, none⟩))) (.bin e1 x e2) ∧ Psd w4 D ab (i + X.pz ([p1] ++ (t ++ [p2]))) ∧ Kq D ab ab w w4) := by
    obtain ⟨z1, z2⟩ := (HT.out).out w4 [] _ (X4.out).2.1 (X4.out).2.2
    exact ⟨(X4.out).1.wide (by omega) (Nat.le_refl _), z1, z2⟩
  clear HC X4 HT
  go_wp2_with fail
  go_ret
  exact ⟨_, rfl, HFin⟩
set_option maxRecDepth 100000 in
set_option maxHeartbeats 4000000 in
theorem hcall_any (D : Nat → Prop) (ab : Nat) (a4 : Option Addr) (a5 a6 : Nat) (p : X.Part) (gs : List X.Part) (e : X.Ex) (es : List X.Ex) (i : Nat) (w : World) (hp : Psd w D ab i) (hk : NdS w D (.slice a4 a5 a6) ([p] ++ [X.Part.br 12 gs])) (hg : X.Gd ([p] ++ [X.Part.br 12 gs])) (hd : ¬ D ab) (hc : X.Rd p i e) (hgs : X.Rds gs (i + X.pz [p]) es) (H1 : ExOk p) (HE : ∀ q ∈ gs, ExOk q) (hql : gs.length ≤ 268435456) (hi : i + X.pz ([p] ++ [X.Part.br 12 gs]) ≤ 1073741824) (hDl : ∀ q, D q → q < w.heap.size) :
    Calls Tryz.prog 90 #[.agg #[.pointer (some ⟨ab, 0, none⟩), .slice a4 a5 a6], .int .i64 11] w fun en w' => ∃ v, en = .returned v ∧ Hid (IsE w' w.heap.size w'.heap.size v (.call e es) ∧ Psd w' D ab (i + X.pz ([p] ++ [X.Part.br 12 gs])) ∧ Kq D ab ab w w') := by
  have HT := hide (ent_of hp hk hg hd hDl)
  have hsz := (HT.out).sz
  have hal := (HT.out).lt
  have hel := rds_len gs hgs
  have HC := hide (wcall_any D w.heap.size ab p gs e es i _ (HT.out).inn hc hgs H1 HE hi hql (by omega) (HT.out).dl)
  clear hc hgs HE
  clear hp hk hg hd hDl
  go_enter Tryz.func90, Tryz.ntmps90
  go_wp2_with fail
  refine (HC.out).mono ?_
  rintro en w4 ⟨b, rfl, X4⟩
  have HFin : Hid (IsE w4 w.heap.size w4.heap.size (.iface 223 (.pointer (some ⟨b, 0, none⟩))) (.call e es) ∧ Psd w4 D ab (i + X.pz ([p] ++ [X.Part.br 12 gs])) ∧ Kq D ab ab w w4) := by
    obtain ⟨z1, z2⟩ := (HT.out).out w4 [] _ (X4.out).2.1 (X4.out).2.2
    exact ⟨(X4.out).1.wide (by omega) (Nat.le_refl _), z1, z2⟩
  clear HC X4 HT
  go_wp2_with fail
  go_ret
  exact ⟨_, rfl, HFin⟩
set_option maxRecDepth 100000 in
set_option maxHeartbeats 4000000 in
theorem hhole_any (D : Nat → Prop) (ab : Nat) (a4 : Option Addr) (a5 a6 : Nat) (t qs : List X.Part) (k : Nat) (x : List UInt8) (j : Nat) (i : Nat) (w : World) (hp : Psd w D ab i) (hk : NdS w D (.slice a4 a5 a6) t) (hg : X.Gd t) (hd : ¬ D ab) (ht : X.Tk1 t k x qs) (hpl : t.length ≤ 268435456) (hi : i + X.pz t ≤ 1073741824) (hDl : ∀ q, D q → q < w.heap.size) :
    Calls Tryz.prog 90 #[.agg #[.pointer (some ⟨ab, 0, none⟩), .slice a4 a5 a6], .int .i64 19] w fun en w' => ∃ v, en = .returned v ∧ Hid (IsE w' w.heap.size w'.heap.size v (.hole j) ∧ Psd w' D ab (i + X.pz t) ∧ Kq D ab ab w w') := by
  have HT := hide (ent_of hp hk hg hd hDl)
  have hsz := (HT.out).sz
  have hal := (HT.out).lt
  have hin := (HT.out).inn
  rw [← List.append_nil t] at hin
  have HC := hide (wpass_any D w.heap.size ab t qs _ [] i _ hin ht.tk0 (by rw [List.append_nil]; exact hi) (by rw [List.append_nil]; omega) (HT.out).dl)
  clear ht hin
  clear hp hk hg hd hDl
  go_enter Tryz.func90, Tryz.ntmps90
  go_wp2_with fail
  refine (HC.out).mono ?_
  rintro en w4 ⟨f4, f5, f6, rfl, X4⟩
  have K4 : Hid (Psd w4 D ab (i + X.pz t) ∧ Kq D ab ab w w4) := (HT.out).out w4 [] _ (X4.out).1 (X4.out).2
  have hs4 := (K4.out).2.size
  have kB : Below w4.heap.size w4 (w4.alloc (.cells #[.int .i64 0, .int .i64 0, .bool false] 235)) := (Below.refl _ w4).alloc (Nat.le_refl _) _
  have HFin : Hid (IsE (w4.alloc (.cells #[.int .i64 0, .int .i64 0, .bool false] 235)) w.heap.size (w4.alloc (.cells #[.int .i64 0, .int .i64 0, .bool false] 235)).heap.size (.iface 234 (.pointer (some ⟨w4.heap.size, 0, none⟩))) (.hole j) ∧ Psd (w4.alloc (.cells #[.int .i64 0, .int .i64 0, .bool false] 235)) D ab (i + X.pz t) ∧ Kq D ab ab w (w4.alloc (.cells #[.int .i64 0, .int .i64 0, .bool false] 235))) := ⟨.hole _ j ⟨hs4, by simp⟩ (heap_alloc_new w4 _), (K4.out).1.below kB, (K4.out).2.more kB hal⟩
  clear HC X4 HT K4 kB
  go_wp2_with fail
  go_ret
  exact ⟨_, rfl, HFin⟩
set_option maxRecDepth 100000 in
set_option maxHeartbeats 4000000 in
theorem hvar_any (D : Nat → Prop) (ab : Nat) (a4 : Option Addr) (a5 a6 : Nat) (t qs : List X.Part) (x : List UInt8) (i : Nat) (w : World) (hp : Psd w D ab i) (hk : NdS w D (.slice a4 a5 a6) t) (hg : X.Gd t) (hd : ¬ D ab) (ht : X.Tk1 t 3 x qs) (hpl : t.length ≤ 268435456) (hi : i + X.pz t ≤ 1073741824) (hDl : ∀ q, D q → q < w.heap.size) :
    Calls Tryz.prog 90 #[.agg #[.pointer (some ⟨ab, 0, none⟩), .slice a4 a5 a6], .int .i64 18] w fun en w' => ∃ v, en = .returned v ∧ Hid (IsE w' w.heap.size w'.heap.size v (.var (x, i + X.pz qs)) ∧ Psd w' D ab (i + X.pz t) ∧ Kq D ab ab w w') := by
  have HT := hide (ent_of hp hk hg hd hDl)
  have hsz := (HT.out).sz
  have hal := (HT.out).lt
  have hnm := X.Nmp.name t x qs i ht
  have hin := (HT.out).inn
  rw [← List.append_nil t] at hin
  have HC := hide (wname_any D w.heap.size ab t (x, i + X.pz qs) [] i _ hin hnm (by rw [List.append_nil]; exact hi) (by rw [List.append_nil]; omega) (HT.out).dl)
  clear ht hin hnm
  clear hp hk hg hd hDl
  go_enter Tryz.func90, Tryz.ntmps90
  go_wp2_with fail
  refine (HC.out).mono ?_
  rintro en w4 ⟨rfl, X4⟩
  have K4 : Hid (Psd w4 D ab (i + X.pz t) ∧ Kq D ab ab w w4) := (HT.out).out w4 [] _ (X4.out).1 (X4.out).2
  have hs4 := (K4.out).2.size
  have kB : Below w4.heap.size w4 (w4.alloc (.cells #[.int .i64 0, .int .i64 0, .bool false, .string (ba x), .int .i64 ((i : Int) + (X.pz qs : Int))] 233)) := (Below.refl _ w4).alloc (Nat.le_refl _) _
  have HFin : Hid (IsE (w4.alloc (.cells #[.int .i64 0, .int .i64 0, .bool false, .string (ba x), .int .i64 ((i : Int) + (X.pz qs : Int))] 233)) w.heap.size (w4.alloc (.cells #[.int .i64 0, .int .i64 0, .bool false, .string (ba x), .int .i64 ((i : Int) + (X.pz qs : Int))] 233)).heap.size (.iface 231 (.pointer (some ⟨w4.heap.size, 0, none⟩))) (.var (x, i + X.pz qs)) ∧ Psd (w4.alloc (.cells #[.int .i64 0, .int .i64 0, .bool false, .string (ba x), .int .i64 ((i : Int) + (X.pz qs : Int))] 233)) D ab (i + X.pz t) ∧ Kq D ab ab w (w4.alloc (.cells #[.int .i64 0, .int .i64 0, .bool false, .string (ba x), .int .i64 ((i : Int) + (X.pz qs : Int))] 233))) := ⟨.var _ _ ⟨hs4, by simp⟩ (by rw [Int.natCast_add]; exact heap_alloc_new w4 _), (K4.out).1.below kB, (K4.out).2.more kB hal⟩
  clear HC X4 HT K4 kB
  go_wp2_with fail
  go_ret
  exact ⟨_, rfl, HFin⟩
set_option maxRecDepth 100000 in
set_option maxHeartbeats 4000000 in
theorem hlit_any (D : Nat → Prop) (ab : Nat) (a4 : Option Addr) (a5 a6 : Nat) (t qs : List X.Part) (k u : Nat) (x : List UInt8) (i : Nat) (w : World) (hp : Psd w D ab i) (hk : NdS w D (.slice a4 a5 a6) t) (hg : X.Gd t) (hd : ¬ D ab) (hk2 : 15 ≤ k ∧ k ≤ 17) (ht : X.Tk1 t u x qs) (hpl : t.length ≤ 268435456) (hi : i + X.pz t ≤ 1073741824) (hDl : ∀ q, D q → q < w.heap.size) :
    Calls Tryz.prog 90 #[.agg #[.pointer (some ⟨ab, 0, none⟩), .slice a4 a5 a6], .int .i64 k] w fun en w' => ∃ v, en = .returned v ∧ Hid (IsE w' w.heap.size w'.heap.size v (.lit k x) ∧ Psd w' D ab (i + X.pz t) ∧ Kq D ab ab w w') := by
  have HT := hide (ent_of hp hk hg hd hDl)
  have hsz := (HT.out).sz
  have hal := (HT.out).lt
  have hin := (HT.out).inn
  rw [← List.append_nil t] at hin
  have HC := hide (wpass_any D w.heap.size ab t qs _ [] i _ hin ht.tk0 (by rw [List.append_nil]; exact hi) (by rw [List.append_nil]; omega) (HT.out).dl)
  have hfl := fld_text
  clear ht hin
  have n1 : ((k : Int) == 1) = false := by simp; omega
  have n7 : ((k : Int) == 7) = false := by simp; omega
  have n8 : ((k : Int) == 8) = false := by simp; omega
  have n9 : ((k : Int) == 9) = false := by simp; omega
  have n10 : ((k : Int) == 10) = false := by simp; omega
  have n11 : ((k : Int) == 11) = false := by simp; omega
  have n13 : ((k : Int) == 13) = false := by simp; omega
  have n14 : ((k : Int) == 14) = false := by simp; omega
  have n18 : ((k : Int) == 18) = false := by simp; omega
  have n19 : ((k : Int) == 19) = false := by simp; omega
  clear hp hk hg hd hDl
  go_enter Tryz.func90, Tryz.ntmps90
  go_wp2_with fail
  refine (HC.out).mono ?_
  rintro en w4 ⟨f4, f5, f6, rfl, X4⟩
  have hnt : X.ntx (.leaf u x) = x := rfl
  rw [hnt]
  have K4 : Hid (Psd w4 D ab (i + X.pz t) ∧ Kq D ab ab w w4) := (HT.out).out w4 [] _ (X4.out).1 (X4.out).2
  have hs4 := (K4.out).2.size
  have kB : Below w4.heap.size w4 (w4.alloc (.cells #[.int .i64 0, .int .i64 0, .bool false, .int .i64 k, .string (ba x)] 238)) := (Below.refl _ w4).alloc (Nat.le_refl _) _
  have HFin : Hid (IsE (w4.alloc (.cells #[.int .i64 0, .int .i64 0, .bool false, .int .i64 k, .string (ba x)] 238)) w.heap.size (w4.alloc (.cells #[.int .i64 0, .int .i64 0, .bool false, .int .i64 k, .string (ba x)] 238)).heap.size (.iface 236 (.pointer (some ⟨w4.heap.size, 0, none⟩))) (.lit k x) ∧ Psd (w4.alloc (.cells #[.int .i64 0, .int .i64 0, .bool false, .int .i64 k, .string (ba x)] 238)) D ab (i + X.pz t) ∧ Kq D ab ab w (w4.alloc (.cells #[.int .i64 0, .int .i64 0, .bool false, .int .i64 k, .string (ba x)] 238))) := ⟨.lit _ k x ⟨hs4, by simp⟩ (heap_alloc_new w4 _), (K4.out).1.below kB, (K4.out).2.more kB hal⟩
  clear HC X4 HT K4 kB
  go_wp2_with fail
  go_ret
  exact ⟨_, rfl, HFin⟩
set_option maxRecDepth 100000 in
set_option maxHeartbeats 4000000 in
theorem hlist_any (D : Nat → Prop) (ab : Nat) (a4 : Option Addr) (a5 a6 : Nat) (qs : List X.Part) (es : List X.Ex) (i : Nat) (w : World) (hp : Psd w D ab i) (hk : NdS w D (.slice a4 a5 a6) qs) (hg : X.Gd qs) (hd : ¬ D ab) (hr0 : X.Rds qs i es) (HE : ∀ p ∈ qs, ExOk p) (hql : qs.length ≤ 268435456) (hi : i + X.pz qs ≤ 1073741824) (hDl : ∀ q, D q → q < w.heap.size) :
    Calls Tryz.prog 90 #[.agg #[.pointer (some ⟨ab, 0, none⟩), .slice a4 a5 a6], .int .i64 13] w fun en w' => ∃ v, en = .returned v ∧ Hid (IsE w' w.heap.size w'.heap.size v (.list es) ∧ Psd w' D ab (i + X.pz qs) ∧ Kq D ab ab w w') := by
  have HT := hide (ent_of hp hk hg hd hDl)
  have hsz := (HT.out).sz
  have hal := (HT.out).lt
  have hel := rds_len qs hr0
  have HC := hide (wexpressions_any D w.heap.size ab qs es i _ (HT.out).inn hr0 HE hi hql (by omega) (HT.out).dl)
  clear hr0 HE
  clear hp hk hg hd hDl
  go_enter Tryz.func90, Tryz.ntmps90
  go_wp2_with fail
  refine (HC.out).mono ?_
  rintro en w4 ⟨rv, rfl, X4⟩
  obtain ⟨ao, cp, vs, hrv, hq1, hq2, hrr, hpp⟩ := (X4.out).1.ex
  subst hrv
  have K4 : Hid (Psd w4 D ab (i + X.pz qs) ∧ Kq D ab ab w w4) := (HT.out).out w4 [] _ (X4.out).2.1 (X4.out).2.2
  have hs4 := (K4.out).2.size
  have kB : Below w4.heap.size w4 (w4.alloc (.cells #[.int .i64 0, .int .i64 0, .bool false, .slice ao es.length cp] 227)) := (Below.refl _ w4).alloc (Nat.le_refl _) _
  have HFin : Hid (IsE (w4.alloc (.cells #[.int .i64 0, .int .i64 0, .bool false, .slice ao es.length cp] 227)) w.heap.size (w4.alloc (.cells #[.int .i64 0, .int .i64 0, .bool false, .slice ao es.length cp] 227)).heap.size (.iface 225 (.pointer (some ⟨w4.heap.size, 0, none⟩))) (.list es) ∧ Psd (w4.alloc (.cells #[.int .i64 0, .int .i64 0, .bool false, .slice ao es.length cp] 227)) D ab (i + X.pz qs) ∧ Kq D ab ab w (w4.alloc (.cells #[.int .i64 0, .int .i64 0, .bool false, .slice ao es.length cp] 227))) := ⟨.list _ ao cp vs es ⟨hs4, by simp⟩ (heap_alloc_new w4 _) ⟨hq1, hq2⟩ (fun j hj => by obtain ⟨q, e1, e2, e3, e4, c, f, e5⟩ := hrr j hj; exact ⟨q, e1, by omega, by simp; omega, (Kp.ofBelow kB (fun _ => False)).cellv e4 id, c, f, (Kp.ofBelow kB (fun _ => False)).heap e5 id⟩) (fun j e' hj => ((hpp j e' hj).keep (Kp.ofBelow kB (fun _ => False)) (fun _ _ _ => id)).wide (by omega) (by simp)), (K4.out).1.below kB, (K4.out).2.more kB hal⟩
  clear HC X4 HT K4 kB hrr hpp
  go_wp2_with fail
  go_ret
  exact ⟨_, rfl, HFin⟩
set_option maxRecDepth 100000 in
set_option maxHeartbeats 4000000 in
theorem hgroup_any (D : Nat → Prop) (ab : Nat) (a4 : Option Addr) (a5 a6 : Nat) (qs : List X.Part) (e : X.Ex) (i : Nat) (w : World) (hp : Psd w D ab i) (hk : NdS w D (.slice a4 a5 a6) qs) (hg : X.Gd qs) (hd : ¬ D ab) (hr0 : X.Rds qs i [e]) (HE : ∀ p ∈ qs, ExOk p) (hql : qs.length ≤ 268435456) (hi : i + X.pz qs ≤ 1073741824) (hDl : ∀ q, D q → q < w.heap.size) :
    Calls Tryz.prog 90 #[.agg #[.pointer (some ⟨ab, 0, none⟩), .slice a4 a5 a6], .int .i64 14] w fun en w' => ∃ v, en = .returned v ∧ Hid (IsE w' w.heap.size w'.heap.size v (.group e) ∧ Psd w' D ab (i + X.pz qs) ∧ Kq D ab ab w w') := by
  have HT := hide (ent_of hp hk hg hd hDl)
  have hsz := (HT.out).sz
  have hal := (HT.out).lt
  have hel := rds_len qs hr0
  have HC := hide (wexpressions_any D w.heap.size ab qs [e] i _ (HT.out).inn hr0 HE hi hql (by omega) (HT.out).dl)
  clear hr0 HE
  clear hp hk hg hd hDl
  go_enter Tryz.func90, Tryz.ntmps90
  go_wp2_with fail
  refine (HC.out).mono ?_
  rintro en w4 ⟨rv, rfl, X4⟩
  obtain ⟨ao, cp, vs, hrv, hq1, hq2, hrr, hpp⟩ := (X4.out).1.ex
  subst hrv
  obtain ⟨q, rfl, e2, e3, e4, -⟩ := hrr 0 (by simp)
  have hx := hpp 0 e rfl
  obtain ⟨y1, g1, hv1⟩ := hx.iface
  rw [hv1] at hx e4
  have K4 : Hid (Psd w4 D ab (i + X.pz qs) ∧ Kq D ab ab w w4) := (HT.out).out w4 [] _ (X4.out).2.1 (X4.out).2.2
  have hs4 := (K4.out).2.size
  have kB : Below w4.heap.size w4 (w4.alloc (.cells #[.int .i64 0, .int .i64 0, .bool false, .iface y1 (.pointer (some ⟨g1, 0, none⟩))] 230)) := (Below.refl _ w4).alloc (Nat.le_refl _) _
  have HFin : Hid (IsE (w4.alloc (.cells #[.int .i64 0, .int .i64 0, .bool false, .iface y1 (.pointer (some ⟨g1, 0, none⟩))] 230)) w.heap.size (w4.alloc (.cells #[.int .i64 0, .int .i64 0, .bool false, .iface y1 (.pointer (some ⟨g1, 0, none⟩))] 230)).heap.size (.iface 228 (.pointer (some ⟨w4.heap.size, 0, none⟩))) (.group e) ∧ Psd (w4.alloc (.cells #[.int .i64 0, .int .i64 0, .bool false, .iface y1 (.pointer (some ⟨g1, 0, none⟩))] 230)) D ab (i + X.pz qs) ∧ Kq D ab ab w (w4.alloc (.cells #[.int .i64 0, .int .i64 0, .bool false, .iface y1 (.pointer (some ⟨g1, 0, none⟩))] 230))) := ⟨.group _ _ e ⟨hs4, by simp⟩ (heap_alloc_new w4 _) ((hx.keep (Kp.ofBelow kB (fun _ => False)) (fun _ _ _ => id)).wide (by omega) (by simp)), (K4.out).1.below kB, (K4.out).2.more kB hal⟩
  clear HC X4 HT K4 kB hrr hpp hx
  go_wp2_with fail
  go_ret
  exact ⟨_, rfl, HFin⟩
set_option maxRecDepth 100000 in
set_option maxHeartbeats 4000000 in
theorem hite_any (D : Nat → Prop) (ab : Nat) (a4 : Option Addr) (a5 a6 : Nat) (qs : List X.Part) (e1 e2 e3 : X.Ex) (i : Nat) (w : World) (hp : Psd w D ab i) (hk : NdS w D (.slice a4 a5 a6) qs) (hg : X.Gd qs) (hd : ¬ D ab) (hr0 : X.Rds qs i [e1, e2, e3]) (HE : ∀ p ∈ qs, ExOk p) (hql : qs.length ≤ 268435456) (hi : i + X.pz qs ≤ 1073741824) (hDl : ∀ q, D q → q < w.heap.size) :
    Calls Tryz.prog 90 #[.agg #[.pointer (some ⟨ab, 0, none⟩), .slice a4 a5 a6], .int .i64 8] w fun en w' => ∃ v, en = .returned v ∧ Hid (IsE w' w.heap.size w'.heap.size v (.ite e1 e2 e3) ∧ Psd w' D ab (i + X.pz qs) ∧ Kq D ab ab w w') := by
  have HT := hide (ent_of hp hk hg hd hDl)
  have hsz := (HT.out).sz
  have hal := (HT.out).lt
  have hel := rds_len qs hr0
  have HC := hide (wexpressions_any D w.heap.size ab qs [e1, e2, e3] i _ (HT.out).inn hr0 HE hi hql (by omega) (HT.out).dl)
  clear hr0 HE
  clear hp hk hg hd hDl
  go_enter Tryz.func90, Tryz.ntmps90
  go_wp2_with fail
  refine (HC.out).mono ?_
  rintro en w4 ⟨rv, rfl, X4⟩
  obtain ⟨ao, cp, vs, hrv, hq1, hq2, hrr, hpp⟩ := (X4.out).1.ex
  subst hrv
  obtain ⟨q, rfl, b2, b3, b4, -⟩ := hrr 0 (by simp)
  obtain ⟨q', hq', -, -, b5, -⟩ := hrr 1 (by simp)
  obtain ⟨q'', hq'', -, -, b6, -⟩ := hrr 2 (by simp)
  cases hq'
  cases hq''
  have hx := hpp 0 e1 rfl
  have hx2 := hpp 1 e2 rfl
  have hx3 := hpp 2 e3 rfl
  obtain ⟨y1, g1, hv1⟩ := hx.iface
  obtain ⟨y2, g2, hv2⟩ := hx2.iface
  obtain ⟨y3, g3, hv3⟩ := hx3.iface
  rw [hv1] at hx b4
  rw [hv2] at hx2 b5
  rw [hv3] at hx3 b6
  have K4 : Hid (Psd w4 D ab (i + X.pz qs) ∧ Kq D ab ab w w4) := (HT.out).out w4 [] _ (X4.out).2.1 (X4.out).2.2
  have hs4 := (K4.out).2.size
  have kB : Below w4.heap.size w4 (w4.alloc (.cells #[.int .i64 0, .int .i64 0, .bool false, .iface y1 (.pointer (some ⟨g1, 0, none⟩)), .iface y2 (.pointer (some ⟨g2, 0, none⟩)), .iface y3 (.pointer (some ⟨g3, 0, none⟩))] 218)) := (Below.refl _ w4).alloc (Nat.le_refl _) _
  have HFin : Hid (IsE (w4.alloc (.cells #[.int .i64 0, .int .i64 0, .bool false, .iface y1 (.pointer (some ⟨g1, 0, none⟩)), .iface y2 (.pointer (some ⟨g2, 0, none⟩)), .iface y3 (.pointer (some ⟨g3, 0, none⟩))] 218)) w.heap.size (w4.alloc (.cells #[.int .i64 0, .int .i64 0, .bool false, .iface y1 (.pointer (some ⟨g1, 0, none⟩)), .iface y2 (.pointer (some ⟨g2, 0, none⟩)), .iface y3 (.pointer (some ⟨g3, 0, none⟩))] 218)).heap.size (.iface 216 (.pointer (some ⟨w4.heap.size, 0, none⟩))) (.ite e1 e2 e3) ∧ Psd (w4.alloc (.cells #[.int .i64 0, .int .i64 0, .bool false, .iface y1 (.pointer (some ⟨g1, 0, none⟩)), .iface y2 (.pointer (some ⟨g2, 0, none⟩)), .iface y3 (.pointer (some ⟨g3, 0, none⟩))] 218)) D ab (i + X.pz qs) ∧ Kq D ab ab w (w4.alloc (.cells #[.int .i64 0, .int .i64 0, .bool false, .iface y1 (.pointer (some ⟨g1, 0, none⟩)), .iface y2 (.pointer (some ⟨g2, 0, none⟩)), .iface y3 (.pointer (some ⟨g3, 0, none⟩))] 218))) := ⟨.ite _ _ _ _ e1 e2 e3 ⟨hs4, by simp⟩ (heap_alloc_new w4 _) ((hx.keep (Kp.ofBelow kB (fun _ => False)) (fun _ _ _ => id)).wide (by omega) (by simp)) ((hx2.keep (Kp.ofBelow kB (fun _ => False)) (fun _ _ _ => id)).wide (by omega) (by simp)) ((hx3.keep (Kp.ofBelow kB (fun _ => False)) (fun _ _ _ => id)).wide (by omega) (by simp)), (K4.out).1.below kB, (K4.out).2.more kB hal⟩
  clear HC X4 HT K4 hrr hpp hx hx2 hx3
  have b4' : w4.cell? ⟨q, 0, none⟩ = some (.iface y1 (.pointer (some ⟨g1, 0, none⟩))) := b4
  have b5' : w4.cell? ⟨q, 1, none⟩ = some (.iface y2 (.pointer (some ⟨g2, 0, none⟩))) := b5
  have b6' : w4.cell? ⟨q, 2, none⟩ = some (.iface y3 (.pointer (some ⟨g3, 0, none⟩))) := b6
  have hq4 : q < w4.heap.size := World.block_lt_of_cell? _ _ b4'
  clear b4 b5 b6
  go_wp2_with fail
  go_region_held3 (fun w' => w'.cell? ⟨q, 0, none⟩ = some (.iface y1 (.pointer (some ⟨g1, 0, none⟩))) ∧ w'.cell? ⟨q, 1, none⟩ = some (.iface y2 (.pointer (some ⟨g2, 0, none⟩))) ∧ w'.cell? ⟨q, 2, none⟩ = some (.iface y3 (.pointer (some ⟨g3, 0, none⟩))))
    (first | (with_reducible exact ⟨b4', b5', b6'⟩) | (with_reducible exact ⟨Lib.cell?_alloc_some _ b4', Lib.cell?_alloc_some _ b5', Lib.cell?_alloc_some _ b6'⟩) | go_keep)
    (fail)
  go_wp2_with fail
  go_ret
  have kD := (Below.refl (w4.alloc (.cells #[.int .i64 0, .int .i64 0, .bool false, .iface y1 (.pointer (some ⟨g1, 0, none⟩)), .iface y2 (.pointer (some ⟨g2, 0, none⟩)), .iface y3 (.pointer (some ⟨g3, 0, none⟩))] 218)).heap.size (w4.alloc (.cells #[.int .i64 0, .int .i64 0, .bool false, .iface y1 (.pointer (some ⟨g1, 0, none⟩)), .iface y2 (.pointer (some ⟨g2, 0, none⟩)), .iface y3 (.pointer (some ⟨g3, 0, none⟩))] 218))).drew
  exact ⟨_, rfl, ((HFin.out).1.keep (Kp.ofBelow kD (fun _ => False)) (fun _ _ _ => id)), (HFin.out).2.1.below kD, (HFin.out).2.2.more kD hal⟩
set_option maxRecDepth 100000 in
set_option maxHeartbeats 4000000 in
theorem hmissing_any (D : Nat → Prop) (ab : Nat) (a4 : Option Addr) (a5 a6 : Nat)  (i : Nat) (w : World) (hp : Psd w D ab i) (hk : NdS w D (.slice a4 a5 a6) []) (hg : X.Gd []) (hd : ¬ D ab)  (_hi : i + X.pz [] ≤ 1073741824) (hDl : ∀ q, D q → q < w.heap.size) :
    Calls Tryz.prog 90 #[.agg #[.pointer (some ⟨ab, 0, none⟩), .slice a4 a5 a6], .int .i64 1] w fun en w' => ∃ v, en = .returned v ∧ Hid (IsE w' w.heap.size w'.heap.size v .missing ∧ Psd w' D ab (i + X.pz []) ∧ Kq D ab ab w w') := by
  have HT := hide (ent_of hp hk hg hd hDl)
  have hsz := (HT.out).sz
  have hal := (HT.out).lt
  clear hp hk hg hd hDl
  go_enter Tryz.func90, Tryz.ntmps90
  have HFin : Hid (∀ W b, W.heap.size = b → Psd W D ab i ∧ Kq D ab ab w W → IsE (W.alloc (.cells #[.int .i64 0, .int .i64 0, .bool false] 211)) w.heap.size (W.alloc (.cells #[.int .i64 0, .int .i64 0, .bool false] 211)).heap.size (.iface 209 (.pointer (some ⟨b, 0, none⟩))) .missing ∧ Psd (W.alloc (.cells #[.int .i64 0, .int .i64 0, .bool false] 211)) D ab (i + X.pz []) ∧ Kq D ab ab w (W.alloc (.cells #[.int .i64 0, .int .i64 0, .bool false] 211))) := fun W b hb hK => by
    subst hb
    have hs4 := hK.2.size
    have kB : Below W.heap.size W (W.alloc (.cells #[.int .i64 0, .int .i64 0, .bool false] 211)) := (Below.refl _ W).alloc (Nat.le_refl _) _
    exact ⟨.missing _ ⟨hs4, by simp⟩ (heap_alloc_new W _), hK.1.below kB, hK.2.more kB hal⟩
  have K4 := hide ((HT.out).out _ [] i (HT.out).inn (Kq.refl _ _ _ _))
  clear HT
  go_wp2_with fail
  go_ret
  exact ⟨_, rfl, hide ((HFin.out) _ _ (by simp) K4.out)⟩
end Go.Proofs.YtgjbafamiggafaaGreatDoor
