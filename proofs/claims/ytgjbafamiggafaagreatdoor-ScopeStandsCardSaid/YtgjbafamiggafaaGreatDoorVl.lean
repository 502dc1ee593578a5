/- Package syntax: a let. -/
import Derived.Test.YtgjbafamiggafaaGreatDoorVj
namespace Go.Proofs.YtgjbafamiggafaaGreatDoor
open Go.RowKit
open M
theorem len_app {a b : List X.Part} {n : Nat} (h : (a ++ b).length ≤ n) : b.length ≤ n := by rw [List.length_append] at h; omega
set_option maxRecDepth 100000 in
set_option maxHeartbeats 4000000 in
theorem wlet_any (D : Nat → Prop) (kb ab : Nat) (t1 n t2 t3 : List X.Part) (p1 p2 : X.Part) (nm : X.Nm) (e1 e2 : X.Ex) (i : Nat) (w : World) (h : IsRw w D kb ab (t1 ++ (n ++ (t2 ++ ([p1] ++ (t3 ++ [p2]))))) i) (h1 : X.Tkp t1) (hn : X.Nmp n (i + X.pz t1) nm) (h2 : X.Tkp t2) (hv : X.Rd p1 (i + X.pz t1 + X.pz n + X.pz t2) e1) (h3 : X.Tkp t3) (hb : X.Rd p2 (i + X.pz t1 + X.pz n + X.pz t2 + X.pz [p1] + X.pz t3) e2) (H1 : ExOk p1) (H2 : ExOk p2)
    (hi : i + X.pz (t1 ++ (n ++ (t2 ++ ([p1] ++ (t3 ++ [p2]))))) ≤ 1073741824) (hpl : (t1 ++ (n ++ (t2 ++ ([p1] ++ (t3 ++ [p2]))))).length ≤ 1073741824) (hDl : ∀ q, D q → q < w.heap.size) :
    Calls Tryz.prog 108 #[.pointer (some ⟨kb, 0, none⟩)] w fun e w' => ∃ b, e = .returned (.pointer (some ⟨b, 0, none⟩)) ∧ Hid (IsE w' w.heap.size w'.heap.size (.iface 212 (.pointer (some ⟨b, 0, none⟩))) (.lett nm e1 e2) ∧ IsRw w' D kb ab [] (i + X.pz (t1 ++ (n ++ (t2 ++ ([p1] ++ (t3 ++ [p2])))))) ∧ Kq D kb ab w w') := by
  obtain ⟨hr, ha⟩ := h.lt
  obtain ⟨q1, r1, hT1⟩ := h1.tk0
  obtain ⟨q2, r2, hT2⟩ := h2.tk0
  obtain ⟨q3, r3, hT3⟩ := h3.tk0
  have hz : X.pz (t1 ++ (n ++ (t2 ++ ([p1] ++ (t3 ++ [p2]))))) = X.pz t1 + (X.pz n + (X.pz t2 + (X.pz [p1] + (X.pz t3 + X.pz [p2])))) := by rw [X.pz_app, X.pz_app, X.pz_app, X.pz_app, X.pz_app]
  have HC1 := hide (wpass_any D kb ab t1 q1 r1 _ i w h hT1 hi hpl hDl)
  have HDl : Hid (∀ W : World, w.heap.size ≤ W.heap.size → ∀ q, D q → q < W.heap.size) := fun W hW q hq => Nat.lt_of_lt_of_le (hDl q hq) hW
  have HN := hide hn
  have HV := hide hv
  have HB := hide hb
  rw [hz] at hi
  simp only [List.length_append] at hpl
  clear h h1 h2 h3 hDl hn hv hb
  go_enter Tryz.func108, Tryz.ntmps108
  go_wp2_with fail
  refine (HC1.out).mono ?_
  rintro e w1 ⟨_, _, _, rfl, X1⟩
  have HC2 := hide (wname_any D kb ab n nm _ (i + X.pz t1) w1 (X1.out).1 HN.out (by simp only [X.pz_app]; omega) (by simp only [List.length_append]; omega) ((HDl.out) w1 (X1.out).2.size))
  clear HC1
  go_wp2_with fail
  refine (HC2.out).mono ?_
  rintro e w2 ⟨rfl, X2⟩
  have K2 : Hid (Kq D kb ab w w2) := (X1.out).2.trans (X2.out).2
  have hs2 := (K2.out).size
  have kA : Below w2.heap.size w2 (w2.alloc (.cells #[.int .i64 0, .int .i64 0, .bool false, .string (ba nm.1), .int .i64 nm.2, .nilIface, .nilIface] 260)) := (Below.refl _ w2).alloc (Nat.le_refl _) _
  have hB3 : Hid ((w2.alloc (.cells #[.int .i64 0, .int .i64 0, .bool false, .string (ba nm.1), .int .i64 nm.2, .nilIface, .nilIface] 260)).heap[w2.heap.size]? = some (.cells #[.int .i64 0, .int .i64 0, .bool false, .string (ba nm.1), .int .i64 nm.2, .nilIface, .nilIface] 260 (0, 0))) := heap_alloc_new w2 _
  have K3 : Hid (Kq D kb ab w (w2.alloc (.cells #[.int .i64 0, .int .i64 0, .bool false, .string (ba nm.1), .int .i64 nm.2, .nilIface, .nilIface] 260))) := (K2.out).more kA ha
  have HC3 := hide (wpass_any D kb ab t2 q2 r2 _ (i + X.pz t1 + X.pz n) _ ((X2.out).1.below kA) hT2 (by simp only [X.pz_app]; omega) (by simp only [List.length_append]; omega) ((HDl.out) _ (K3.out).size))
  clear HC2 kA X1 X2 K2
  go_wp2_with fail
  generalize w2.alloc (.cells #[.int .i64 0, .int .i64 0, .bool false, .string (ba nm.1), .int .i64 nm.2, .nilIface, .nilIface] 260) = W3 at *
  generalize w2.heap.size = b at *
  refine (HC3.out).mono ?_
  rintro e w4 ⟨_, _, _, rfl, X4⟩
  have K4 : Hid (Kq D kb ab w w4) := (K3.out).trans (X4.out).2
  have hB4 := hide ((X4.out).2.made hr ha hs2 hB3.out (by decide))
  have HC4 := hide (H1 e1 (i + X.pz t1 + X.pz n + X.pz t2) D kb ab (t3 ++ [p2]) w4 HV.out (X4.out).1 (by omega) ((HDl.out) _ (K4.out).size))
  clear HC3 X4 K3 hB3
  go_wp2_with fail
  refine (HC4.out).mono ?_
  rintro e w5 ⟨v1, rfl, X5⟩
  obtain ⟨y1, g1, hv1⟩ := (X5.out).1.iface
  subst hv1
  have K5 : Hid (Kq D kb ab w w5) := (K4.out).trans (X5.out).2.2
  have hB5 := (X5.out).2.2.made hr ha hs2 hB4.out (by decide)
  have c2 := cell_of_row w5 _ 5 _ _ _ hB5
  have f2 : w5.frozen? ⟨b, 5, none⟩ = false := by simp [World.frozen?, hB5]
  have hbl4 : b < w4.heap.size := heap_lt hB4.out
  have HX5 : Hid (IsE (w5.setCell ⟨b, 5, none⟩ (.iface y1 (.pointer (some ⟨g1, 0, none⟩)))) w4.heap.size w5.heap.size (.iface y1 (.pointer (some ⟨g1, 0, none⟩))) e1 ∧ IsRw (w5.setCell ⟨b, 5, none⟩ (.iface y1 (.pointer (some ⟨g1, 0, none⟩)))) D kb ab (t3 ++ [p2]) (i + X.pz t1 + X.pz n + X.pz t2 + X.pz [p1]) ∧ (w5.setCell ⟨b, 5, none⟩ (.iface y1 (.pointer (some ⟨g1, 0, none⟩)))).heap[b]? = some (.cells #[.int .i64 0, .int .i64 0, .bool false, .string (ba nm.1), .int .i64 nm.2, .iface y1 (.pointer (some ⟨g1, 0, none⟩)), .nilIface] 260 (0, 0)) ∧ Kq D kb ab w (w5.setCell ⟨b, 5, none⟩ (.iface y1 (.pointer (some ⟨g1, 0, none⟩)))) ∧ (w5.setCell ⟨b, 5, none⟩ (.iface y1 (.pointer (some ⟨g1, 0, none⟩)))).heap.size = w5.heap.size) := by
    have hk : Kp (fun q => q = b) w5 (w5.setCell ⟨b, 5, none⟩ (.iface y1 (.pointer (some ⟨g1, 0, none⟩)))) := On.set (Kp.refl _ w5) 5 _
    refine ⟨(X5.out).1.keep hk (fun i h1 h2 e => by omega), (X5.out).2.1.on hk hB5 (by decide) (by omega) (by omega) (fun hd => ?_), by simp [World.setCell, Array.getElem?_modify, hB5], (K5.out).set ha hs2 _ _, by simp [World.setCell]⟩
    have := (HDl.out) w (Nat.le_refl _) _ hd
    omega
  have hs45 := (X5.out).2.2.size
  clear HC4 X5 K4 hB4 K5
  go_wp2_with fail
  generalize w5.setCell ⟨b, 5, none⟩ (.iface y1 (.pointer (some ⟨g1, 0, none⟩))) = W5 at *
  clear hB5 c2 f2
  have HC6 := hide (wpass_any D kb ab t3 q3 r3 [p2] (i + X.pz t1 + X.pz n + X.pz t2 + X.pz [p1]) W5 (HX5.out).2.1 hT3 (by simp only [X.pz_app]; omega) (by simp only [List.length_append]; omega) ((HDl.out) _ (HX5.out).2.2.2.1.size))
  refine (HC6.out).mono ?_
  rintro e w6 ⟨_, _, _, rfl, X6⟩
  have K6 : Hid (Kq D kb ab w w6) := (HX5.out).2.2.2.1.trans (X6.out).2
  have hs46 : w4.heap.size ≤ w5.heap.size := hs45
  have hE6 := hide ((HX5.out).1.keepq (X6.out).2 (Nat.lt_of_lt_of_le hr (by have := (HX5.out).2.2.2.1.size; omega)) (Nat.lt_of_lt_of_le ha (by have := (HX5.out).2.2.2.1.size; omega)))
  have hB6 := hide ((X6.out).2.made hr ha hs2 (HX5.out).2.2.1 (by decide))
  have hs56 : w5.heap.size ≤ w6.heap.size := by have := (X6.out).2.size; have := (HX5.out).2.2.2.2; omega
  have HC7 := hide (H2 e2 (i + X.pz t1 + X.pz n + X.pz t2 + X.pz [p1] + X.pz t3) D kb ab [] w6 HB.out (X6.out).1 (by omega) ((HDl.out) _ (K6.out).size))
  clear HC6 X6 HX5
  go_wp2_with fail
  refine (HC7.out).mono ?_
  rintro e w7 ⟨v2, rfl, X7⟩
  obtain ⟨y2, g2, hv2⟩ := (X7.out).1.iface
  subst hv2
  have K7 : Hid (Kq D kb ab w w7) := (K6.out).trans (X7.out).2.2
  have hB7 := (X7.out).2.2.made hr ha hs2 hB6.out (by decide)
  have c3 := cell_of_row w7 _ 6 _ _ _ hB7
  have f3 : w7.frozen? ⟨b, 6, none⟩ = false := by simp [World.frozen?, hB7]
  have HFin : Hid (IsE (w7.setCell ⟨b, 6, none⟩ (.iface y2 (.pointer (some ⟨g2, 0, none⟩)))) w.heap.size (w7.setCell ⟨b, 6, none⟩ (.iface y2 (.pointer (some ⟨g2, 0, none⟩)))).heap.size (.iface 212 (.pointer (some ⟨b, 0, none⟩))) (.lett nm e1 e2) ∧ IsRw (w7.setCell ⟨b, 6, none⟩ (.iface y2 (.pointer (some ⟨g2, 0, none⟩)))) D kb ab [] (i + X.pz (t1 ++ (n ++ (t2 ++ ([p1] ++ (t3 ++ [p2])))))) ∧ Kq D kb ab w (w7.setCell ⟨b, 6, none⟩ (.iface y2 (.pointer (some ⟨g2, 0, none⟩))))) := by
    have hk : Kp (fun q => q = b) w7 (w7.setCell ⟨b, 6, none⟩ (.iface y2 (.pointer (some ⟨g2, 0, none⟩)))) := On.set (Kp.refl _ w7) 6 _
    have hsz : (w7.setCell ⟨b, 6, none⟩ (.iface y2 (.pointer (some ⟨g2, 0, none⟩)))).heap.size = w7.heap.size := by simp [World.setCell]
    have hs67 := (X7.out).2.2.size
    have hw4 : w.heap.size ≤ w4.heap.size := by omega
    have hE7 := (hE6.out).keepq (X7.out).2.2 (Nat.lt_of_lt_of_le hr hw4) (Nat.lt_of_lt_of_le ha hw4)
    rw [hsz, hz]
    refine ⟨.lett (m := 0) (n := 0) (z := false) b nm _ _ e1 e2 ⟨hs2, by omega⟩ (by simp [World.setCell, Array.getElem?_modify, hB7]) ((hE7.keep hk (fun i h1 h2 e => by omega)).wide hw4 (by omega)) (((X7.out).1.keep hk (fun i h1 h2 e => by omega)).wide (by omega) (Nat.le_refl _)), ?_, (K7.out).set ha hs2 _ _⟩
    have hR := (X7.out).2.1.on hk hB7 (by decide) (by omega) (by omega) (fun hd => by have := (HDl.out) w (Nat.le_refl _) _ hd; omega)
    rw [show i + (X.pz t1 + (X.pz n + (X.pz t2 + (X.pz [p1] + (X.pz t3 + X.pz [p2]))))) = i + X.pz t1 + X.pz n + X.pz t2 + X.pz [p1] + X.pz t3 + X.pz [p2] by omega]
    exact hR
  clear HC7 X7 K7 hB7 hE6 hB6 K6
  go_wp2_with fail
  go_ret
  exact ⟨b, rfl, HFin.out⟩
end Go.Proofs.YtgjbafamiggafaaGreatDoor
/- Package syntax: a function, two with a sign between them. -/
namespace Go.Proofs.YtgjbafamiggafaaGreatDoor
open Go.RowKit
open M
set_option maxRecDepth 100000 in
set_option maxHeartbeats 4000000 in
theorem wfun_any (D : Nat → Prop) (kb ab : Nat) (t1 qs t2 : List X.Part) (p : X.Part) (ns : List X.Nm) (e : X.Ex) (i : Nat) (w : World) (h : IsRw w D kb ab (t1 ++ ([X.Part.br 6 qs] ++ (t2 ++ [p]))) i) (h1 : X.Tkp t1) (hn : X.Nms qs (i + X.pz t1) ns) (h2 : X.Tkp t2) (hb : X.Rd p (i + X.pz t1 + X.pz qs + X.pz t2) e) (H1 : ExOk p)
    (hi : i + X.pz (t1 ++ ([X.Part.br 6 qs] ++ (t2 ++ [p]))) ≤ 1073741824) (hpl : (t1 ++ ([X.Part.br 6 qs] ++ (t2 ++ [p]))).length ≤ 1073741824) (hql : qs.length ≤ 268435456) (hnl : ns.length ≤ 268435456) (hDl : ∀ q, D q → q < w.heap.size) :
    Calls Tryz.prog 110 #[.pointer (some ⟨kb, 0, none⟩)] w fun en w' => ∃ b, en = .returned (.pointer (some ⟨b, 0, none⟩)) ∧ Hid (IsE w' w.heap.size w'.heap.size (.iface 219 (.pointer (some ⟨b, 0, none⟩))) (.fn ns e) ∧ IsRw w' D kb ab [] (i + X.pz (t1 ++ ([X.Part.br 6 qs] ++ (t2 ++ [p])))) ∧ Kq D kb ab w w') := by
  obtain ⟨hr, ha⟩ := h.lt
  obtain ⟨q1, r1, hT1⟩ := h1.tk0
  obtain ⟨q2, r2, hT2⟩ := h2.tk0
  have hz : X.pz (t1 ++ ([X.Part.br 6 qs] ++ (t2 ++ [p]))) = X.pz t1 + (X.pz qs + (X.pz t2 + X.pz [p])) := by rw [X.pz_app, X.pz_app, X.pz_app, X.pz_br]
  have HC1 := hide (wpass_any D kb ab t1 q1 r1 _ i w h hT1 hi hpl hDl)
  have HDl : Hid (∀ W : World, w.heap.size ≤ W.heap.size → ∀ q, D q → q < W.heap.size) := fun W hW q hq => Nat.lt_of_lt_of_le (hDl q hq) hW
  have HN := hide hn
  have HB := hide hb
  rw [hz] at hi
  simp only [List.length_append, List.length_singleton] at hpl
  clear h h1 h2 hDl hn hb
  go_enter Tryz.func110, Tryz.ntmps110
  go_wp2_with fail
  refine (HC1.out).mono ?_
  rintro en w1 ⟨_, _, _, rfl, X1⟩
  have HC2 := hide (wparams_any D kb ab qs ns (t2 ++ [p]) (i + X.pz t1) w1 (X1.out).1 HN.out (by omega) hql hnl ((HDl.out) w1 (X1.out).2.size))
  clear HC1
  go_wp2_with fail
  refine (HC2.out).mono ?_
  rintro en w2 ⟨pb, rfl, X2⟩
  have K2 : Hid (Kq D kb ab w w2) := (X1.out).2.trans (X2.out).2.2
  have hs2 := (K2.out).size
  have hs1 := (X1.out).2.size
  have kA : Below w2.heap.size w2 (w2.alloc (.cells #[.int .i64 0, .int .i64 0, .bool false, .pointer (some ⟨pb, 0, none⟩), .nilIface] 256)) := (Below.refl _ w2).alloc (Nat.le_refl _) _
  have hB3 : Hid ((w2.alloc (.cells #[.int .i64 0, .int .i64 0, .bool false, .pointer (some ⟨pb, 0, none⟩), .nilIface] 256)).heap[w2.heap.size]? = some (.cells #[.int .i64 0, .int .i64 0, .bool false, .pointer (some ⟨pb, 0, none⟩), .nilIface] 256 (0, 0))) := heap_alloc_new w2 _
  have K3 : Hid (Kq D kb ab w (w2.alloc (.cells #[.int .i64 0, .int .i64 0, .bool false, .pointer (some ⟨pb, 0, none⟩), .nilIface] 256))) := (K2.out).more kA ha
  have hP3 : Hid (IsPar (w2.alloc (.cells #[.int .i64 0, .int .i64 0, .bool false, .pointer (some ⟨pb, 0, none⟩), .nilIface] 256)) w.heap.size w2.heap.size pb ns) := ((X2.out).1.wide hs1 (Nat.le_refl _)).keep (Kp.ofBelow kA (fun _ => False)) (fun _ _ _ => id)
  have HC3 := hide (wpass_any D kb ab t2 q2 r2 [p] (i + X.pz t1 + X.pz qs) _ ((X2.out).2.1.below kA) hT2 (by simp only [X.pz_app]; omega) (by simp only [List.length_append, List.length_singleton]; omega) ((HDl.out) _ (K3.out).size))
  clear HC2 kA X1 X2 K2
  go_wp2_with fail
  generalize w2.alloc (.cells #[.int .i64 0, .int .i64 0, .bool false, .pointer (some ⟨pb, 0, none⟩), .nilIface] 256) = W3 at *
  generalize w2.heap.size = b at *
  refine (HC3.out).mono ?_
  rintro en w4 ⟨_, _, _, rfl, X4⟩
  have K4 : Hid (Kq D kb ab w w4) := (K3.out).trans (X4.out).2
  have hB4 := hide ((X4.out).2.made hr ha hs2 hB3.out (by decide))
  have hP4 := hide ((hP3.out).keepq (X4.out).2 (Nat.lt_of_lt_of_le hr (Nat.le_refl _)) (Nat.lt_of_lt_of_le ha (Nat.le_refl _)))
  have HC4 := hide (H1 e (i + X.pz t1 + X.pz qs + X.pz t2) D kb ab [] w4 HB.out (X4.out).1 (by omega) ((HDl.out) _ (K4.out).size))
  clear HC3 X4 K3 hB3 hP3
  go_wp2_with fail
  refine (HC4.out).mono ?_
  rintro en w5 ⟨v1, rfl, X5⟩
  obtain ⟨y1, g1, hv1⟩ := (X5.out).1.iface
  subst hv1
  have K5 : Hid (Kq D kb ab w w5) := (K4.out).trans (X5.out).2.2
  have hB5 := (X5.out).2.2.made hr ha hs2 hB4.out (by decide)
  have c1 := cell_of_row w5 _ 4 _ _ _ hB5
  have f1 : w5.frozen? ⟨b, 4, none⟩ = false := by simp [World.frozen?, hB5]
  have hbl4 : b < w4.heap.size := heap_lt hB4.out
  have HFin : Hid (IsE (w5.setCell ⟨b, 4, none⟩ (.iface y1 (.pointer (some ⟨g1, 0, none⟩)))) w.heap.size (w5.setCell ⟨b, 4, none⟩ (.iface y1 (.pointer (some ⟨g1, 0, none⟩)))).heap.size (.iface 219 (.pointer (some ⟨b, 0, none⟩))) (.fn ns e) ∧ IsRw (w5.setCell ⟨b, 4, none⟩ (.iface y1 (.pointer (some ⟨g1, 0, none⟩)))) D kb ab [] (i + X.pz (t1 ++ ([X.Part.br 6 qs] ++ (t2 ++ [p])))) ∧ Kq D kb ab w (w5.setCell ⟨b, 4, none⟩ (.iface y1 (.pointer (some ⟨g1, 0, none⟩))))) := by
    have hk : Kp (fun q => q = b) w5 (w5.setCell ⟨b, 4, none⟩ (.iface y1 (.pointer (some ⟨g1, 0, none⟩)))) := On.set (Kp.refl _ w5) 4 _
    have hsz : (w5.setCell ⟨b, 4, none⟩ (.iface y1 (.pointer (some ⟨g1, 0, none⟩)))).heap.size = w5.heap.size := by simp [World.setCell]
    have hs45 := (X5.out).2.2.size
    have hP5 := (hP4.out).keepq (X5.out).2.2 (Nat.lt_of_lt_of_le hr (Nat.le_refl _)) (Nat.lt_of_lt_of_le ha (Nat.le_refl _))
    rw [hsz, hz]
    refine ⟨.fn (m := 0) (n := 0) (z := false) b pb ns _ e ⟨hs2, by omega⟩ (by simp [World.setCell, Array.getElem?_modify, hB5]) ((hP5.keep hk (fun i h1 h2 e => by omega)).wide (Nat.le_refl _) (by omega)) (((X5.out).1.keep hk (fun i h1 h2 e => by omega)).wide (by omega) (Nat.le_refl _)), ?_, (K5.out).set ha hs2 _ _⟩
    have hR := (X5.out).2.1.on hk hB5 (by decide) (by omega) (by omega) (fun hd => by have := (HDl.out) w (Nat.le_refl _) _ hd; omega)
    rw [show i + (X.pz t1 + (X.pz qs + (X.pz t2 + X.pz [p]))) = i + X.pz t1 + X.pz qs + X.pz t2 + X.pz [p] by omega]
    exact hR
  clear HC4 X5 K4 hB4 K5 hP4 hB5
  go_wp2_with fail
  go_ret
  exact ⟨b, rfl, HFin.out⟩
theorem fld_text (a b : Int) (c : ByteArray) (a4 : Option Addr) (a5 a6 : Nat) (w : World) : (Instr.field 100 (.agg #[.int .i64 a, .int .i64 b, .string c, .slice a4 a5 a6]) 2).run Tryz.prog w = .ok (.string c) w := by kernel_rfl
set_option maxRecDepth 100000 in
set_option maxHeartbeats 4000000 in
theorem wbinary_any (D : Nat → Prop) (kb ab : Nat) (p1 p2 : X.Part) (t qs : List X.Part) (k : Nat) (x : List UInt8) (e1 e2 : X.Ex) (i : Nat) (w : World) (h : IsRw w D kb ab ([p1] ++ (t ++ [p2])) i) (hl : X.Rd p1 i e1) (ht : X.Tk1 t k x qs) (hr2 : X.Rd p2 (i + X.pz [p1] + X.pz t) e2) (H1 : ExOk p1) (H2 : ExOk p2)
    (hi : i + X.pz ([p1] ++ (t ++ [p2])) ≤ 1073741824) (hpl : ([p1] ++ (t ++ [p2])).length ≤ 1073741824) (hDl : ∀ q, D q → q < w.heap.size) :
    Calls Tryz.prog 111 #[.pointer (some ⟨kb, 0, none⟩)] w fun en w' => ∃ b, en = .returned (.pointer (some ⟨b, 0, none⟩)) ∧ Hid (IsE w' w.heap.size w'.heap.size (.iface 221 (.pointer (some ⟨b, 0, none⟩))) (.bin e1 x e2) ∧ IsRw w' D kb ab [] (i + X.pz ([p1] ++ (t ++ [p2]))) ∧ Kq D kb ab w w') := by
  obtain ⟨hr, ha⟩ := h.lt
  have hT := ht.tk0
  have hz : X.pz ([p1] ++ (t ++ [p2])) = X.pz [p1] + (X.pz t + X.pz [p2]) := by rw [X.pz_app, X.pz_app]
  rw [hz] at hi
  simp only [List.length_append, List.length_singleton] at hpl
  have HC1 := hide (H1 e1 i D kb ab (t ++ [p2]) w hl h (by omega) hDl)
  have HDl : Hid (∀ W : World, w.heap.size ≤ W.heap.size → ∀ q, D q → q < W.heap.size) := fun W hW q hq => Nat.lt_of_lt_of_le (hDl q hq) hW
  have HB := hide hr2
  have hfl := fld_text
  clear h hDl hl hr2 ht
  go_enter Tryz.func111, Tryz.ntmps111
  go_wp2_with fail
  refine (HC1.out).mono ?_
  rintro en w2 ⟨v1, rfl, X2⟩
  obtain ⟨y1, g1, hv1⟩ := (X2.out).1.iface
  subst hv1
  have hs2 := (X2.out).2.2.size
  have kA : Below w2.heap.size w2 (w2.alloc (.cells #[.int .i64 0, .int .i64 0, .bool false, .iface y1 (.pointer (some ⟨g1, 0, none⟩)), .string ⟨#[]⟩, .nilIface] 262)) := (Below.refl _ w2).alloc (Nat.le_refl _) _
  have hB3 : Hid ((w2.alloc (.cells #[.int .i64 0, .int .i64 0, .bool false, .iface y1 (.pointer (some ⟨g1, 0, none⟩)), .string ⟨#[]⟩, .nilIface] 262)).heap[w2.heap.size]? = some (.cells #[.int .i64 0, .int .i64 0, .bool false, .iface y1 (.pointer (some ⟨g1, 0, none⟩)), .string ⟨#[]⟩, .nilIface] 262 (0, 0))) := heap_alloc_new w2 _
  have K3 : Hid (Kq D kb ab w (w2.alloc (.cells #[.int .i64 0, .int .i64 0, .bool false, .iface y1 (.pointer (some ⟨g1, 0, none⟩)), .string ⟨#[]⟩, .nilIface] 262))) := (X2.out).2.2.more kA ha
  have hE3 : Hid (IsE (w2.alloc (.cells #[.int .i64 0, .int .i64 0, .bool false, .iface y1 (.pointer (some ⟨g1, 0, none⟩)), .string ⟨#[]⟩, .nilIface] 262)) w.heap.size w2.heap.size (.iface y1 (.pointer (some ⟨g1, 0, none⟩))) e1) := (X2.out).1.keep (Kp.ofBelow kA (fun _ => False)) (fun _ _ _ => id)
  have HC3 := hide (wpass_any D kb ab t qs _ [p2] (i + X.pz [p1]) _ ((X2.out).2.1.below kA) hT (by simp only [X.pz_app]; omega) (by simp only [List.length_append, List.length_singleton]; omega) ((HDl.out) _ (K3.out).size))
  clear HC1 kA X2
  go_wp2_with fail
  generalize w2.alloc (.cells #[.int .i64 0, .int .i64 0, .bool false, .iface y1 (.pointer (some ⟨g1, 0, none⟩)), .string ⟨#[]⟩, .nilIface] 262) = W3 at *
  generalize w2.heap.size = b at *
  refine (HC3.out).mono ?_
  rintro en w4 ⟨a4, a5, a6, rfl, X4⟩
  have hB4 := (X4.out).2.made hr ha hs2 hB3.out (by decide)
  have c1 := cell_of_row w4 _ 4 _ _ _ hB4
  have f1 : w4.frozen? ⟨b, 4, none⟩ = false := by simp [World.frozen?, hB4]
  have hnt : X.ntx (.leaf k x) = x := rfl
  rw [hnt]
  have hbl3 : b < w4.heap.size := heap_lt hB4
  have HX5 : Hid (IsE (w4.setCell ⟨b, 4, none⟩ (.string (ba x))) w.heap.size b (.iface y1 (.pointer (some ⟨g1, 0, none⟩))) e1 ∧ IsRw (w4.setCell ⟨b, 4, none⟩ (.string (ba x))) D kb ab [p2] (i + X.pz [p1] + X.pz t) ∧ (w4.setCell ⟨b, 4, none⟩ (.string (ba x))).heap[b]? = some (.cells #[.int .i64 0, .int .i64 0, .bool false, .iface y1 (.pointer (some ⟨g1, 0, none⟩)), .string (ba x), .nilIface] 262 (0, 0)) ∧ Kq D kb ab w (w4.setCell ⟨b, 4, none⟩ (.string (ba x))) ∧ (w4.setCell ⟨b, 4, none⟩ (.string (ba x))).heap.size = w4.heap.size) := by
    have hk : Kp (fun q => q = b) w4 (w4.setCell ⟨b, 4, none⟩ (.string (ba x))) := On.set (Kp.refl _ w4) 4 _
    refine ⟨((hE3.out).keepq (X4.out).2 (Nat.lt_of_lt_of_le hr (Nat.le_refl _)) (Nat.lt_of_lt_of_le ha (Nat.le_refl _))).keep hk (fun i h1 h2 e => by omega), (X4.out).1.on hk hB4 (by decide) (by omega) (by omega) (fun hd => ?_), by simp [World.setCell, Array.getElem?_modify, hB4], ((K3.out).trans (X4.out).2).set ha hs2 _ _, by simp [World.setCell]⟩
    have := (HDl.out) w (Nat.le_refl _) _ hd
    omega
  clear HC3 X4 K3 hB3 hE3
  go_wp2_with fail
  generalize w4.setCell ⟨b, 4, none⟩ (.string (ba x)) = W5 at *
  clear hB4 c1 f1
  have HC7 := hide (H2 e2 (i + X.pz [p1] + X.pz t) D kb ab [] W5 HB.out (HX5.out).2.1 (by omega) ((HDl.out) _ (HX5.out).2.2.2.1.size))
  refine (HC7.out).mono ?_
  rintro en w7 ⟨v2, rfl, X7⟩
  obtain ⟨y2, g2, hv2⟩ := (X7.out).1.iface
  subst hv2
  have hB7 := (X7.out).2.2.made hr ha hs2 (HX5.out).2.2.1 (by decide)
  have c2 := cell_of_row w7 _ 5 _ _ _ hB7
  have f2 : w7.frozen? ⟨b, 5, none⟩ = false := by simp [World.frozen?, hB7]
  have HFin : Hid (IsE (w7.setCell ⟨b, 5, none⟩ (.iface y2 (.pointer (some ⟨g2, 0, none⟩)))) w.heap.size (w7.setCell ⟨b, 5, none⟩ (.iface y2 (.pointer (some ⟨g2, 0, none⟩)))).heap.size (.iface 221 (.pointer (some ⟨b, 0, none⟩))) (.bin e1 x e2) ∧ IsRw (w7.setCell ⟨b, 5, none⟩ (.iface y2 (.pointer (some ⟨g2, 0, none⟩)))) D kb ab [] (i + X.pz ([p1] ++ (t ++ [p2]))) ∧ Kq D kb ab w (w7.setCell ⟨b, 5, none⟩ (.iface y2 (.pointer (some ⟨g2, 0, none⟩))))) := by
    have hk : Kp (fun q => q = b) w7 (w7.setCell ⟨b, 5, none⟩ (.iface y2 (.pointer (some ⟨g2, 0, none⟩)))) := On.set (Kp.refl _ w7) 5 _
    have hsz : (w7.setCell ⟨b, 5, none⟩ (.iface y2 (.pointer (some ⟨g2, 0, none⟩)))).heap.size = w7.heap.size := by simp [World.setCell]
    have hs57 := (X7.out).2.2.size
    have hs5 := (HX5.out).2.2.2.2
    have hE7 := (HX5.out).1.keepq (X7.out).2.2 (Nat.lt_of_lt_of_le hr (Nat.le_refl _)) (Nat.lt_of_lt_of_le ha (Nat.le_refl _))
    rw [hsz, hz]
    refine ⟨.bin (m := 0) (n := 0) (z := false) b _ _ x e1 e2 ⟨hs2, by omega⟩ (by simp [World.setCell, Array.getElem?_modify, hB7]) ((hE7.keep hk (fun i h1 h2 e => by omega)).wide (Nat.le_refl _) (by omega)) (((X7.out).1.keep hk (fun i h1 h2 e => by omega)).wide (by omega) (Nat.le_refl _)), ?_, ((HX5.out).2.2.2.1.trans (X7.out).2.2).set ha hs2 _ _⟩
    have hR := (X7.out).2.1.on hk hB7 (by decide) (by omega) (by omega) (fun hd => by have := (HDl.out) w (Nat.le_refl _) _ hd; omega)
    rw [show i + (X.pz [p1] + (X.pz t + X.pz [p2])) = i + X.pz [p1] + X.pz t + X.pz [p2] by omega]
    exact hR
  clear HC7 X7 hB7 HX5
  go_wp2_with fail
  go_ret
  exact ⟨b, rfl, HFin.out⟩
end Go.Proofs.YtgjbafamiggafaaGreatDoor
