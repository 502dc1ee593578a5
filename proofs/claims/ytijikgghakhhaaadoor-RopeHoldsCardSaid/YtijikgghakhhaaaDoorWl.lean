/- What seek finds: the longest beginning that fits. -/
import Derived.Test.YtijikgghakhhaaaDoorWk
import Derived.Deep.LoopGhost
import Derived.Deep.DeepCutAuto
import Derived.Handy
namespace Go.Proofs.YtijikgghakhhaaaDoor
open Go.RowKit
open M

abbrev Meas (l : List UInt8) (a b c d : Nat) : Prop := l.length = a ∧ nb l = b ∧ nr l = c ∧ nu l = d

/-- A piece of a text that may be cut out, and a place in it. -/
theorem seg_dec {l pre cur post : List UInt8} (hl : l = pre ++ cur ++ post) (hb2 : Bd l (pre ++ cur).length) {k : Nat} (hk : k < cur.length) : dec (cur.drop k) = dec (l.drop (pre.length + k)) := by
  have e : l.drop (pre.length + k) = cur.drop k ++ post := by
    rw [hl, List.append_assoc, ← List.drop_drop, List.drop_left, List.drop_append_of_le_length (by omega)]
  have h := hb2 (pre.length + k) (by rw [List.length_append]; omega)
  rw [e] at h ⊢
  exact dec_prefix (by intro h; have := congrArg List.length h; simp at this; omega) (by rw [List.length_drop]; rw [List.length_append] at h; omega)
theorem seg_bd {l pre cur post : List UInt8} (hl : l = pre ++ cur ++ post) (hb1 : Bd l pre.length) (hb2 : Bd l (pre ++ cur).length) {k : Nat} (hk : k ≤ cur.length) (hbk : Bd cur k) : Bd l (pre.length + k) := fun p hp => by
  by_cases h : p < pre.length
  · have := hb1 p h; omega
  · have h1 := hbk (p - pre.length) (by omega)
    have h2 := seg_dec hl hb2 (k := p - pre.length) (by omega)
    have h3 : sz (cur.drop (p - pre.length)) = sz (l.drop p) := by
      have := congrArg Prod.snd h2
      rwa [show pre.length + (p - pre.length) = p from by omega] at this
    omega
theorem seg_sum {l pre cur post : List UInt8} (hl : l = pre ++ cur ++ post) (hb1 : Bd l pre.length) {k : Nat} (hk : k ≤ cur.length) :
    l.take (pre.length + k) = pre ++ cur.take k ∧ nb (pre ++ cur.take k) = nb pre + nb (cur.take k) ∧ nr (pre ++ cur.take k) = nr pre + nr (cur.take k) ∧ nu (pre ++ cur.take k) = nu pre + nu (cur.take k) := by
  have e : l.take (pre.length + k) = pre ++ cur.take k := by
    rw [hl, List.append_assoc, List.take_length_add_append, List.take_append_of_le_length hk]
  have hb : Bd (pre ++ cur.take k) pre.length := by
    rw [← e]; exact bd_take hb1 (by omega)
  exact ⟨e, nb_append _ _, nr_append hb, nu_append hb⟩

/-- How far seek comes. -/
structure Found (l : List UInt8) (fit : Nat → Nat → Nat → Nat → Bool) (k : Nat) : Prop where
  le : k ≤ l.length
  bd : Bd l k
  yes : 0 < k → fit k (nb (l.take k)) (nr (l.take k)) (nu (l.take k)) = true
  no : k < l.length → fit (k + sz (l.drop k)) (nb (l.take (k + sz (l.drop k)))) (nr (l.take (k + sz (l.drop k)))) (nu (l.take (k + sz (l.drop k)))) = false

/-- From a leaf to the whole text. -/
theorem found_leaf {l pre cur post : List UInt8} {fit : Nat → Nat → Nat → Nat → Bool} (hl : l = pre ++ cur ++ post) (hb1 : Bd l pre.length) (hb2 : Bd l (pre ++ cur).length)
    (hy : 0 < pre.length → fit pre.length (nb pre) (nr pre) (nu pre) = true) (hno : post ≠ [] → fit (pre ++ cur).length (nb (pre ++ cur)) (nr (pre ++ cur)) (nu (pre ++ cur)) = false) (hne : cur ≠ [])
    {k : Nat} (hk : k ≤ cur.length) (hbk : Bd cur k) (h1 : 0 < k → fit (pre.length + k) (nb pre + nb (cur.take k)) (nr pre + nr (cur.take k)) (nu pre + nu (cur.take k)) = true)
    (h2 : k < cur.length → fit (pre.length + (k + sz (cur.drop k))) (nb pre + nb (cur.take (k + sz (cur.drop k)))) (nr pre + nr (cur.take (k + sz (cur.drop k)))) (nu pre + nu (cur.take (k + sz (cur.drop k)))) = false) :
    Found l fit (pre.length + k) ∧ nb (l.take (pre.length + k)) = nb pre + nb (cur.take k) ∧ nr (l.take (pre.length + k)) = nr pre + nr (cur.take k) ∧ nu (l.take (pre.length + k)) = nu pre + nu (cur.take k) := by
  obtain ⟨e, e1, e2, e3⟩ := seg_sum hl hb1 hk
  have hcl : 0 < cur.length := List.length_pos_iff.2 hne
  have hll : l.length = pre.length + cur.length + post.length := by rw [hl]; simp [Nat.add_assoc]
  refine ⟨⟨by omega, seg_bd hl hb1 hb2 hk hbk, fun h => ?_, fun h => ?_⟩, by rw [e, e1], by rw [e, e2], by rw [e, e3]⟩
  · rw [e, e1, e2, e3]
    by_cases h0 : 0 < k
    · exact h1 h0
    · have : k = 0 := by omega
      subst this
      simp only [List.take_zero, Nat.add_zero]
      exact hy (by omega)
  · by_cases hkc : k < cur.length
    · have hz : sz (l.drop (pre.length + k)) = sz (cur.drop k) := (congrArg Prod.snd (seg_dec hl hb2 hkc)).symm
      have hle := sz_le (cur.drop k)
      rw [List.length_drop] at hle
      obtain ⟨f, f1, f2, f3⟩ := seg_sum hl hb1 (k := k + sz (cur.drop k)) (by omega)
      rw [hz, show pre.length + k + sz (cur.drop k) = pre.length + (k + sz (cur.drop k)) from by omega, f, f1, f2, f3]
      exact h2 hkc
    · exfalso
      have : k = cur.length := by omega
      subst this
      have hp : post ≠ [] := by intro e; rw [e] at hll; simp at hll; omega
      have a := hno hp
      have b := h1 (by omega)
      rw [List.take_of_length_le (Nat.le_refl _)] at b e1 e2 e3
      rw [List.length_append, e1, e2, e3, b] at a
      cases a

set_option maxHeartbeats 400000 in
theorem seek_nil (g : Nat) (lb : Array Value) (w : World) :
    Calls Tryd.prog 30 #[.pointer none, .func (.func g) #[] lb] w fun e w' => e = .returned (.agg #[.int .i64 0, .int .i64 0, .int .i64 0, .int .i64 0]) ∧ Below w.heap.size w w' := by
  go_enter Tryd.func30, Tryd.ntmps30
  go_wp2_with fail
  exact bodyPost_ret (v := .agg #[.int .i64 0, .int .i64 0, .int .i64 0, .int .i64 0]) (by simp [results, Tryd.results30, go_sem]) rfl ⟨rfl, ((Below.refl _ _).alloc (Nat.le_refl _) _).alloc (by simp) _⟩

theorem plus_keep (wr : World) (a1 a2 a3 a4 b1 b2 b3 b4 : Nat) (w : World) (hX : Below wr.heap.size wr w) (h1 : a1 ≤ 4503599627370496) (h2 : a2 ≤ 4503599627370496) (h3 : a3 ≤ 4503599627370496) (h4 : a4 ≤ 4503599627370496) (k1 : b1 ≤ 4503599627370496) (k2 : b2 ≤ 4503599627370496) (k3 : b3 ≤ 4503599627370496) (k4 : b4 ≤ 4503599627370496) :
    Calls Tryd.prog 47 #[.agg #[.int .i64 a1, .int .i64 a2, .int .i64 a3, .int .i64 a4], .agg #[.int .i64 b1, .int .i64 b2, .int .i64 b3, .int .i64 b4]] w fun e w' => e = .returned (.agg #[.int .i64 (a1 + b1), .int .i64 (a2 + b2), .int .i64 (a3 + b3), .int .i64 (a4 + b4)]) ∧ Below w.heap.size w w' ∧ Below wr.heap.size wr w' :=
  (plus_any a1 a2 a3 a4 b1 b2 b3 b4 w h1 h2 h3 h4 k1 k2 k3 k4).mono fun _ _ ⟨he, hb⟩ => ⟨he, hb, hX.trans (hb.mono hX.size)⟩
theorem newd (w : World) (x0 x1 x2 x3 : Value) : Blk4 ((w.alloc (.cells #[x0, x1, x2, x3] 51)).drew) w.heap.size x0 x1 x2 x3 := Blk4.new w x0 x1 x2 x3
theorem keep9 {wr X : World} (hX : Below wr.heap.size wr X) {c a l : Nat} {v0 v1 v2 v3 v4 v5 v6 v7 v8 : Value} (lc : c < wr.heap.size) (la : a < wr.heap.size) (ll : l < wr.heap.size)
    (q0 : wr.cell? ⟨c, 0, none⟩ = some v0) (c0 : wr.cell? ⟨a, 0, none⟩ = some v1) (c1 : wr.cell? ⟨a, 1, none⟩ = some v2) (c2 : wr.cell? ⟨a, 2, none⟩ = some v3) (c3 : wr.cell? ⟨a, 3, none⟩ = some v4)
    (r4 : wr.cell? ⟨l, 4, none⟩ = some v5) (r5 : wr.cell? ⟨l, 5, none⟩ = some v6) (r6 : wr.cell? ⟨l, 6, none⟩ = some v7) (r7 : wr.cell? ⟨l, 7, none⟩ = some v8) :
    X.cell? ⟨c, 0, none⟩ = some v0 ∧ X.cell? ⟨a, 0, none⟩ = some v1 ∧ X.cell? ⟨a, 1, none⟩ = some v2 ∧ X.cell? ⟨a, 2, none⟩ = some v3 ∧ X.cell? ⟨a, 3, none⟩ = some v4 ∧ X.cell? ⟨l, 4, none⟩ = some v5 ∧ X.cell? ⟨l, 5, none⟩ = some v6 ∧ X.cell? ⟨l, 6, none⟩ = some v7 ∧ X.cell? ⟨l, 7, none⟩ = some v8 :=
  ⟨kcb hX lc q0, kcb hX la c0, kcb hX la c1, kcb hX la c2, kcb hX la c3, kcb hX ll r4, kcb hX ll r5, kcb hX ll r6, kcb hX ll r7⟩

set_option maxHeartbeats 2000000 in
theorem seek_some (b0 h0 : Nat) (l : List UInt8) (g : Nat) (lb : Array Value) (fit : Nat → Nat → Nat → Nat → Bool) (w : World) (hT : Tabs w) (hF : Fits g lb fit w) (t0 : IsT w b0 l h0) (hs : l.length ≤ 1125899906842624) :
    Calls Tryd.prog 30 #[.pointer (some ⟨b0, 0, none⟩), .func (.func g) #[] lb] w fun e w' => ∃ k, Found l fit k ∧
      e = .returned (.agg #[.int .i64 k, .int .i64 (nb (l.take k)), .int .i64 (nr (l.take k)), .int .i64 (nu (l.take k))]) ∧ Below w.heap.size w w' := by
  have eg := hF.enters
  go_enter Tryd.func30, Tryd.ntmps30
  go_wp2_with fail
  go_loopg [0] (h0 + 1) (fun n p wr => ∃ (c : Nat) (cur : List UInt8) (h : Nat) (pre post : List UInt8), p = .pointer (some ⟨c, 0, none⟩) ∧ h + 1 = n ∧ IsT w c cur h ∧ l = pre ++ cur ++ post ∧ Bd l pre.length ∧ Bd l (pre ++ cur).length ∧
      Blk4 wr (w.heap.size + 1) (.int .i64 pre.length) (.int .i64 (nb pre)) (.int .i64 (nr pre)) (.int .i64 (nu pre)) ∧ Blk4 wr w.heap.size (.int .i64 0) (.int .i64 0) (.int .i64 0) (.int .i64 0) ∧
      Below w.heap.size w wr ∧ w.heap.size + 1 < wr.heap.size ∧
      (0 < pre.length → fit pre.length (nb pre) (nr pre) (nu pre) = true) ∧ (post ≠ [] → fit (pre ++ cur).length (nb (pre ++ cur)) (nr (pre ++ cur)) (nu (pre ++ cur)) = false))
  case atStart =>
    have HB : Below w.heap.size w ((w.alloc (Obj.cells #[Value.int IntKind.i64 0, Value.int IntKind.i64 0, Value.int IntKind.i64 0, Value.int IntKind.i64 0] 51)).alloc (Obj.cells #[Value.int IntKind.i64 0, Value.int IntKind.i64 0, Value.int IntKind.i64 0, Value.int IntKind.i64 0] 51)) := ((Below.refl _ w).alloc (Nat.le_refl _) _).alloc (by simp) _
    refine ⟨b0, l, h0, [], [], rfl, rfl, t0, by simp, bd_zero _, ?_, ?_, ?_, HB, by simp, fun h => absurd h (by simp), fun h => absurd rfl h⟩
    · rw [List.nil_append]; exact bd_len l
    · have := Blk4.new (w.alloc (.cells #[.int .i64 0, .int .i64 0, .int .i64 0, .int .i64 0] 51)) (.int .i64 0) (.int .i64 0) (.int .i64 0) (.int .i64 0)
      rwa [World.size_alloc] at this
    · exact (Blk4.new w _ _ _ _).alloc (by simp) _
  case round =>
    obtain ⟨c, cur, h, pre, post, rfl, hg, tc, hl, hb1, hb2, k1, k0, HB, hz, hy, hno⟩ := hrel
    rcases tc.cases with ⟨t, kn, ht, hh, hne, hle⟩ | ⟨cl, cr, l1, l2, h1, h2, kn, hcur, hbd, hh, tl, tr⟩
    · obtain ⟨q0, _, q2, _⟩ := (kn.below HB).facts
      have lc := kn.lt
      obtain ⟨⟨c0, c1, c2, c3⟩, _, _, _, _⟩ := k1.facts
      have hts : t.size = cur.length := by rw [← ht, bs_len]
      have hll : l.length = pre.length + cur.length + post.length := by rw [hl]; simp [Nat.add_assoc]
      have p1 := nb_le pre; have p2 := nr_le pre; have p3 := nu_le pre
      have HL := hide (And.intro hl (And.intro hb1 (And.intro hb2 (And.intro hy (And.intro hno (And.intro ht hts))))))
      have bt : t.size ≤ 1125899906842624 := by omega
      have b1 : pre.length ≤ 1125899906842624 := by omega
      have b2 : nb pre ≤ 1125899906842624 := by omega
      have b3 : nr pre ≤ 1125899906842624 := by omega
      have b4 : nu pre ≤ 2251799813685248 := by omega
      obtain ⟨A, eA⟩ : ∃ A, pre.length = A := ⟨_, rfl⟩
      obtain ⟨Bq, eB⟩ : ∃ A, nb pre = A := ⟨_, rfl⟩
      obtain ⟨C, eC⟩ : ∃ A, nr pre = A := ⟨_, rfl⟩
      obtain ⟨D, eD⟩ : ∃ A, nu pre = A := ⟨_, rfl⟩
      rw [eA] at c0 b1 k1; rw [eB] at c1 b2 k1; rw [eC] at c2 b3 k1; rw [eD] at c3 b4 k1
      have HE := hide (And.intro eA (And.intro eB (And.intro eC eD)))
      have hFr := hF.later HB
      have hTr := hT.below HB
      clear eA eB eC eD p1 p2 p3 hll hl hb1 hb2 hy hno ht hts kn tc hg hh
      go_wp2_with (go_at_call 42; refine (isLeaf_any c none wr q0).mono ?_; rintro e wx ⟨rfl, hwx⟩; rw [hwx]; clear hwx wx)
      have n1 : ¬ c = w.heap.size := by omega
      have n2 : ¬ w.heap.size = c := by omega
      have lc' : c < wr.heap.size := by omega
      have hz' : w.heap.size < wr.drew.heap.size := by show w.heap.size < wr.heap.size; omega
      have k0d : Blk4 wr.drew w.heap.size (.int .i64 0) (.int .i64 0) (.int .i64 0) (.int .i64 0) := k0
      go_region_held3 (fun w' => w'.cell? ⟨c, 2, none⟩ = some (.string t) ∧ w'.cell? ⟨w.heap.size + 1, 0, none⟩ = some (.int .i64 A) ∧ w'.cell? ⟨w.heap.size + 1, 1, none⟩ = some (.int .i64 Bq) ∧ w'.cell? ⟨w.heap.size + 1, 2, none⟩ = some (.int .i64 C) ∧ w'.cell? ⟨w.heap.size + 1, 3, none⟩ = some (.int .i64 D))
        (first | go_keep | exact ⟨kc hbA lc' q2, kc hbA hz c0, kc hbA hz c1, kc hbA hz c2, kc hbA hz c3⟩)
        ((go_at_call 48; refine (longest_any t A Bq C D g lb fit _ ?_ ?_ bt b1 b2 b3 b4).mono ?_; exact hTr.below ((Below.refl _ wr).drew); exact hFr.later ((Below.refl _ wr).drew); rintro e wA ⟨k, hk, hbk, rfl, hf1, hf2, hbA⟩; obtain ⟨⟨d0, d1, d2, d3⟩, f0, f1, f2, f3⟩ := (k0d.below hbA hz').facts))
      all_goals
        have Hf := hide (And.intro hf1 hf2)
        clear hf1 hf2
        go_wp2_with fail
        obtain ⟨hf1, hf2⟩ := Hf.out
        obtain ⟨hl, hb1, hb2, hy, hno, ht, hts⟩ := HL.out
        obtain ⟨eA, eB, eC, eD⟩ := HE.out
        rw [ht] at hbk hf1 hf2
        rw [hts] at hk hf2
        have hfd := found_leaf hl hb1 hb2 hy hno hne hk hbk (by rw [eA, eB, eC, eD]; exact hf1) (by rw [eA, eB, eC, eD]; exact hf2)
        refine bodyPost_ret (v := .agg #[.int .i64 (↑A + ↑k), .int .i64 (↑Bq + ↑(nb (List.take k (bs t)))), .int .i64 (↑C + ↑(nr (List.take k (bs t)))), .int .i64 (↑D + ↑(nu (List.take k (bs t))))]) (by simp [results, Tryd.results30, go_sem, d0, d1, d2, d3]) rfl ⟨pre.length + k, hfd.1, ?_, ?_⟩
        · rw [hfd.2.1, hfd.2.2.1, hfd.2.2.2, eA, eB, eC, eD, ht]
          rfl
        · exact below_set4 (HB.drew.trans (hbA.mono (by show _ ≤ wr.heap.size; omega))) (Nat.le_refl _) _ _ _ _
    · obtain ⟨q0, q1, _⟩ := (kn.below HB).facts
      obtain ⟨_, _, _, knl⟩ := tl.any
      obtain ⟨_, _, _, _, r4, r5, r6, r7⟩ := (knl.below HB).facts
      have lc := kn.lt
      have ll := knl.lt
      obtain ⟨⟨c0, c1, c2, c3⟩, _, _, _, _⟩ := k1.facts
      have hll : l.length = pre.length + cur.length + post.length := by rw [hl]; simp [Nat.add_assoc]
      have hcl : cur.length = l1.length + l2.length := by rw [hcur]; simp
      have p1 := nb_le pre; have p2 := nr_le pre; have p3 := nu_le pre
      have p4 := nb_le l1; have p5 := nr_le l1; have p6 := nu_le l1
      have sA : pre.length ≤ 1125899906842624 := by omega
      have sB : nb pre ≤ 1125899906842624 := by omega
      have sC : nr pre ≤ 1125899906842624 := by omega
      have sD : nu pre ≤ 2251799813685248 := by omega
      have tA : l1.length ≤ 1125899906842624 := by omega
      have tB : nb l1 ≤ 1125899906842624 := by omega
      have tC : nr l1 ≤ 1125899906842624 := by omega
      have tD : nu l1 ≤ 2251799813685248 := by omega
      have hseg := seg_sum hl hb1 (k := l1.length) (by omega)
      have hsegb := seg_bd hl hb1 hb2 (k := l1.length) (by omega) hbd
      rw [hcur, List.take_left] at hseg
      have HL := hide (And.intro hl (And.intro hb1 (And.intro hb2 (And.intro hy (And.intro hno (And.intro hcur (And.intro hh (And.intro hg (And.intro hseg hsegb)))))))))
      have HT := hide (And.intro tl tr)
      obtain ⟨A, eA⟩ : ∃ A, pre.length = A := ⟨_, rfl⟩
      obtain ⟨Bq, eB⟩ : ∃ A, nb pre = A := ⟨_, rfl⟩
      obtain ⟨C, eC⟩ : ∃ A, nr pre = A := ⟨_, rfl⟩
      obtain ⟨D, eD⟩ : ∃ A, nu pre = A := ⟨_, rfl⟩
      obtain ⟨A', fA⟩ : ∃ A, l1.length = A := ⟨_, rfl⟩
      obtain ⟨B', fB⟩ : ∃ A, nb l1 = A := ⟨_, rfl⟩
      obtain ⟨C', fC⟩ : ∃ A, nr l1 = A := ⟨_, rfl⟩
      obtain ⟨D', fD⟩ : ∃ A, nu l1 = A := ⟨_, rfl⟩
      rw [eA] at c0 sA k1; rw [eB] at c1 sB k1; rw [eC] at c2 sC k1; rw [eD] at c3 sD k1
      rw [fA] at r4 tA; rw [fB] at r5 tB; rw [fC] at r6 tC; rw [fD] at r7 tD
      have HE := hide (And.intro eA (And.intro eB (And.intro eC (And.intro eD (And.intro fA (And.intro fB (And.intro fC fD)))))))
      clear eA eB eC eD fA fB fC fD p1 p2 p3 p4 p5 p6 hll hcl hl hb1 hb2 hy hno hcur hh hg hseg hsegb hbd kn knl tc tl tr
      have lc' : c < wr.heap.size := by omega
      have ll' : cl < wr.heap.size := by omega
      go_upto_region 5 with (go_at_call 42; refine (isLeaf_any c _ wr q0).mono ?_; rintro e wx ⟨rfl, hwx⟩; rw [hwx]; clear hwx wx)
      go_cut [6] (fun s6 wx => ∃ q, s6 = .pointer (some ⟨q, 0, none⟩) ∧ wr.heap.size ≤ q ∧ q < wx.heap.size ∧ Blk4 wx q (.int .i64 (↑A + ↑A')) (.int .i64 (↑Bq + ↑B')) (.int .i64 (↑C + ↑C')) (.int .i64 (↑D + ↑D')) ∧ Below wr.heap.size wr wx)
      case first =>
        go_region_held3 (fun w' => w'.cell? ⟨c, 0, none⟩ = some (.pointer (some ⟨cl, 0, none⟩)) ∧ w'.cell? ⟨w.heap.size + 1, 0, none⟩ = some (.int .i64 A) ∧ w'.cell? ⟨w.heap.size + 1, 1, none⟩ = some (.int .i64 Bq) ∧ w'.cell? ⟨w.heap.size + 1, 2, none⟩ = some (.int .i64 C) ∧ w'.cell? ⟨w.heap.size + 1, 3, none⟩ = some (.int .i64 D) ∧ w'.cell? ⟨cl, 4, none⟩ = some (.int .i64 A') ∧ w'.cell? ⟨cl, 5, none⟩ = some (.int .i64 B') ∧ w'.cell? ⟨cl, 6, none⟩ = some (.int .i64 C') ∧ w'.cell? ⟨cl, 7, none⟩ = some (.int .i64 D'))
          (first | go_keep | (refine keep9 ?_ lc' hz ll' q0 c0 c1 c2 c3 r4 r5 r6 r7; go_grown))
          ((go_at_call 47; refine (plus_keep wr A Bq C D A' B' C' D' _ ?_ (by omega) (by omega) (by omega) (by omega) (by omega) (by omega) (by omega) (by omega)).mono ?_; go_grown; rintro e wA ⟨rfl, hbA, hXA⟩; have hXz := hXA.size; try (have kz := (newd wr (.int .i64 0) (.int .i64 0) (.int .i64 0) (.int .i64 0)).below hbA (by simp); obtain ⟨⟨z0, z1, z2, z3⟩, y0, y1, y2, y3⟩ := kz.facts)))
        · go_wp2_with fail
          go_meet
          case rel => exact ⟨wA.heap.size, rfl, hXz, by simp, Blk4.new wA _ _ _ _, hXA.alloc hXz _⟩
        · go_wp2_with fail
          go_meet
          case rel =>
            refine ⟨wr.heap.size, rfl, Nat.le_refl _, ?_, kz.set _ _ _ _, below_set4 hXA (Nat.le_refl _) _ _ _ _⟩
            show _ < (set4 wA wr.heap.size _ _ _ _).heap.size
            rw [size_set4]
            have := hbA.size
            simp only [World.size_drew, World.size_alloc] at this
            omega
      case rest =>
        obtain ⟨q, rfl, hq1, hq2, hq3, hq4⟩ := hcut
        obtain ⟨⟨v0, v1, v2, v3⟩, _, _, _, _⟩ := hq3.facts
        have HBc : Below w.heap.size w wc := HB.trans (hq4.mono (by omega))
        have hcall := hF.calls (A + A') (Bq + B') (C + C') (D + D') wc HBc (by omega) (by omega) (by omega) (by omega)
        simp only [Int.natCast_add] at hcall
        obtain ⟨y, hyq⟩ : ∃ y, fit (A + A') (Bq + B') (C + C') (D + D') = y := ⟨_, rfl⟩
        rw [hyq] at hcall
        have Hcall := hide hcall
        have Hyq := hide hyq
        clear hcall hyq
        go_wp2_with fail
        refine (Hcall.out).mono ?_
        rintro e w3 ⟨rfl, hb3⟩
        have X3 : Below wr.heap.size wr w3 := hq4.trans (hb3.mono hq4.size)
        have HB3 : Below w.heap.size w w3 := HB.trans (X3.mono (by omega))
        have m0 := kcb X3 lc' q0
        have m1 := kcb X3 lc' q1
        have kq := hq3.below hb3 hq2
        have ka := k1.below X3 hz
        have kr := k0.below X3 (by omega)
        obtain ⟨⟨g0, g1, g2, g3⟩, _, _, _, _⟩ := kq.facts
        obtain ⟨⟨d0, d1, d2, d3⟩, f0, f1, f2, f3⟩ := ka.facts
        have n1 : ¬ c = w.heap.size + 1 := by omega
        have n2 : ¬ w.heap.size + 1 = c := by omega
        have hz3 : w.heap.size + 1 < w3.heap.size := by have := X3.size; omega
        clear v0 v1 v2 v3 c0 c1 c2 c3 q0 q1 r4 r5 r6 r7
        cases y with
        | true =>
          go_wp2_with fail
          go_roundg (h2 + 1)
          case measure =>
            obtain ⟨_, _, _, _, _, _, hh, hg, _⟩ := HL.out
            omega
          case rel =>
            obtain ⟨hl, hb1, hb2, hy, hno, hcur, hh, hg, ⟨_, e1, e2, e3⟩, hsegb⟩ := HL.out
            obtain ⟨eA, eB, eC, eD, fA, fB, fC, fD⟩ := HE.out
            have el : (pre ++ l1).length = A + A' := by rw [List.length_append, eA, fA]
            have eb : nb (pre ++ l1) = Bq + B' := by rw [e1, eB, fB]
            have ec : nr (pre ++ l1) = C + C' := by rw [e2, eC, fC]
            have ed : nu (pre ++ l1) = D + D' := by rw [e3, eD, fD]
            refine ⟨cr, l2, h2, pre ++ l1, post, rfl, rfl, (HT.out).2, by rw [hl, hcur]; simp, ?_, ?_, ?_, ?_, ?_, ?_, ?_, ?_⟩
            · rw [List.length_append]; exact hsegb
            · rw [List.append_assoc, ← hcur]; exact hb2
            · rw [el, eb, ec, ed]
              simp only [Int.natCast_add]
              exact ka.set _ _ _ _
            · exact kr.other (by omega) _ _ _ _
            · exact below_set4 HB3 (by omega) _ _ _ _
            · show _ < (set4 w3 (w.heap.size + 1) _ _ _ _).heap.size
              rw [size_set4]; exact hz3
            · intro _
              rw [el, eb, ec, ed]
              exact Hyq.out
            · rw [List.append_assoc, ← hcur]; exact hno
        | false =>
          go_wp2_with fail
          go_roundg (h1 + 1)
          case measure =>
            obtain ⟨_, _, _, _, _, _, hh, hg, _⟩ := HL.out
            omega
          case rel =>
            obtain ⟨hl, hb1, hb2, hy, hno, hcur, hh, hg, ⟨_, e1, e2, e3⟩, hsegb⟩ := HL.out
            obtain ⟨eA, eB, eC, eD, fA, fB, fC, fD⟩ := HE.out
            have el : (pre ++ l1).length = A + A' := by rw [List.length_append, eA, fA]
            have eb : nb (pre ++ l1) = Bq + B' := by rw [e1, eB, fB]
            have ec : nr (pre ++ l1) = C + C' := by rw [e2, eC, fC]
            have ed : nu (pre ++ l1) = D + D' := by rw [e3, eD, fD]
            refine ⟨cl, l1, h1, pre, l2 ++ post, rfl, rfl, (HT.out).1, by rw [hl, hcur]; simp, hb1, ?_, ?_, kr, HB3, hz3, hy, ?_⟩
            · rw [List.length_append]; exact hsegb
            · rw [eA, eB, eC, eD]; exact ka
            · intro _
              rw [el, eb, ec, ed]
              exact Hyq.out

/-- seek, of a tree that may be nil. -/
theorem seek_any (v : Option Addr) (l : List UInt8) (g : Nat) (lb : Array Value) (fit : Nat → Nat → Nat → Nat → Bool) (w : World) (hT : Tabs w) (hF : Fits g lb fit w) (t : OT w v l) (hs : l.length ≤ 1125899906842624) :
    Calls Tryd.prog 30 #[.pointer v, .func (.func g) #[] lb] w fun e w' => ∃ k, Found l fit k ∧
      e = .returned (.agg #[.int .i64 k, .int .i64 (nb (l.take k)), .int .i64 (nr (l.take k)), .int .i64 (nu (l.take k))]) ∧ Below w.heap.size w w' := by
  rcases t with ⟨rfl, rfl⟩ | ⟨b, h, rfl, t⟩
  · refine (seek_nil g lb w).mono ?_
    rintro e w' ⟨rfl, hb⟩
    exact ⟨0, ⟨Nat.le_refl _, bd_zero _, fun h => absurd h (by omega), fun h => absurd h (by simp)⟩, rfl, hb⟩
  · exact seek_some b h l g lb fit w hT hF t hs
end Go.Proofs.YtijikgghakhhaaaDoor
