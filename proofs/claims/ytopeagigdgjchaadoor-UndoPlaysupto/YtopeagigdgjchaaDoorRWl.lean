/- What seek finds: the longest beginning that fits. -/
import Derived.Test.YtopeagigdgjchaaDoorRWk
import Derived.Deep.LoopGhost
import Derived.Deep.DeepCutAuto
import Derived.Handy
namespace Go.Proofs.YtopeagigdgjchaaDoor.Rp
open Go.RowKit
open M

abbrev Meas (l : List UInt8) (a b c d : Nat) : Prop := l.length = a ∧ nb l = b ∧ nr l = c ∧ nu l = d

/-- A piece of a text that may be cut out, and a place in it. -/
theorem seg_dec {l pre cur post : List UInt8} (hl : l = pre ++ cur ++ post) (hb2 : Bd l (pre ++ cur).length) {k : Nat} (hk : k < cur.length) : dec (cur.drop k) = dec (l.drop (pre.length + k)) := by
  have e : l.drop (pre.length + k) = cur.drop k ++ post := by
    rw [hl, List.append_assoc, ← List.drop_drop, List.drop_left, List.drop_append_of_le_length (by omega)]
  have h := hb2 (pre.length + k) (by rw [List.length_append]; omega)
  rw [e] at h ⊢
  exact dec_prefix (by intro h; have := congrArg List.length h; simp at this; omega) (by rw [List.length_drop]; rw [List.length_append] at h; omega)
theorem seg_bd {l pre cur post : List UInt8} (hl : l = pre ++ cur ++ post) (hb1 : Bd l pre.length) (hb2 : Bd l (pre ++ cur).length) {k : Nat} (hk : k ≤ cur.length) (hbk : Bd cur k) : Bd l (pre.length + k) := fun p hp => by
  by_cases h : p < pre.length
  · have := hb1 p h; omega
  · have h1 := hbk (p - pre.length) (by omega)
    have h2 := seg_dec hl hb2 (k := p - pre.length) (by omega)
    have h3 : sz (cur.drop (p - pre.length)) = sz (l.drop p) := by
      have := congrArg Prod.snd h2
      rwa [show pre.length + (p - pre.length) = p from by omega] at this
    omega
theorem seg_sum {l pre cur post : List UInt8} (hl : l = pre ++ cur ++ post) (hb1 : Bd l pre.length) {k : Nat} (hk : k ≤ cur.length) :
    l.take (pre.length + k) = pre ++ cur.take k ∧ nb (pre ++ cur.take k) = nb pre + nb (cur.take k) ∧ nr (pre ++ cur.take k) = nr pre + nr (cur.take k) ∧ nu (pre ++ cur.take k) = nu pre + nu (cur.take k) := by
  have e : l.take (pre.length + k) = pre ++ cur.take k := by
    rw [hl, List.append_assoc, List.take_length_add_append, List.take_append_of_le_length hk]
  have hb : Bd (pre ++ cur.take k) pre.length := by
    rw [← e]; exact bd_take hb1 (by omega)
  exact ⟨e, nb_append _ _, nr_append hb, nu_append hb⟩

/-- How far seek comes. -/
structure Found (l : List UInt8) (fit : Nat → Nat → Nat → Nat → Bool) (k : Nat) : Prop where
  le : k ≤ l.length
  bd : Bd l k
  yes : 0 < k → fit k (nb (l.take k)) (nr (l.take k)) (nu (l.take k)) = true
  no : k < l.length → fit (k + sz (l.drop k)) (nb (l.take (k + sz (l.drop k)))) (nr (l.take (k + sz (l.drop k)))) (nu (l.take (k + sz (l.drop k)))) = false

/-- From a leaf to the whole text. -/
theorem found_leaf {l pre cur post : List UInt8} {fit : Nat → Nat → Nat → Nat → Bool} (hl : l = pre ++ cur ++ post) (hb1 : Bd l pre.length) (hb2 : Bd l (pre ++ cur).length)
    (hy : 0 < pre.length → fit pre.length (nb pre) (nr pre) (nu pre) = true) (hno : post ≠ [] → fit (pre ++ cur).length (nb (pre ++ cur)) (nr (pre ++ cur)) (nu (pre ++ cur)) = false) (hne : cur ≠ [])
    {k : Nat} (hk : k ≤ cur.length) (hbk : Bd cur k) (h1 : 0 < k → fit (pre.length + k) (nb pre + nb (cur.take k)) (nr pre + nr (cur.take k)) (nu pre + nu (cur.take k)) = true)
    (h2 : k < cur.length → fit (pre.length + (k + sz (cur.drop k))) (nb pre + nb (cur.take (k + sz (cur.drop k)))) (nr pre + nr (cur.take (k + sz (cur.drop k)))) (nu pre + nu (cur.take (k + sz (cur.drop k)))) = false) :
    Found l fit (pre.length + k) ∧ nb (l.take (pre.length + k)) = nb pre + nb (cur.take k) ∧ nr (l.take (pre.length + k)) = nr pre + nr (cur.take k) ∧ nu (l.take (pre.length + k)) = nu pre + nu (cur.take k) := by
  obtain ⟨e, e1, e2, e3⟩ := seg_sum hl hb1 hk
  have hcl : 0 < cur.length := List.length_pos_iff.2 hne
  have hll : l.length = pre.length + cur.length + post.length := by rw [hl]; simp [Nat.add_assoc]
  refine ⟨⟨by omega, seg_bd hl hb1 hb2 hk hbk, fun h => ?_, fun h => ?_⟩, by rw [e, e1], by rw [e, e2], by rw [e, e3]⟩
  · rw [e, e1, e2, e3]
    by_cases h0 : 0 < k
    · exact h1 h0
    · have : k = 0 := by omega
      subst this
      simp only [List.take_zero, Nat.add_zero]
      exact hy (by omega)
  · by_cases hkc : k < cur.length
    · have hz : sz (l.drop (pre.length + k)) = sz (cur.drop k) := (congrArg Prod.snd (seg_dec hl hb2 hkc)).symm
      have hle := sz_le (cur.drop k)
      rw [List.length_drop] at hle
      obtain ⟨f, f1, f2, f3⟩ := seg_sum hl hb1 (k := k + sz (cur.drop k)) (by omega)
      rw [hz, show pre.length + k + sz (cur.drop k) = pre.length + (k + sz (cur.drop k)) from by omega, f, f1, f2, f3]
      exact h2 hkc
    · exfalso
      have : k = cur.length := by omega
      subst this
      have hp : post ≠ [] := by intro e; rw [e] at hll; simp at hll; omega
      have a := hno hp
      have b := h1 (by omega)
      rw [List.take_of_length_le (Nat.le_refl _)] at b e1 e2 e3
      rw [List.length_append, e1, e2, e3, b] at a
      cases a

theorem plus_keep (wr : World) (a1 a2 a3 a4 b1 b2 b3 b4 : Nat) (w : World) (hX : Below wr.heap.size wr w) (h1 : a1 ≤ 4503599627370496) (h2 : a2 ≤ 4503599627370496) (h3 : a3 ≤ 4503599627370496) (h4 : a4 ≤ 4503599627370496) (k1 : b1 ≤ 4503599627370496) (k2 : b2 ≤ 4503599627370496) (k3 : b3 ≤ 4503599627370496) (k4 : b4 ≤ 4503599627370496) :
    Calls Tryd.prog 65 #[.agg #[.int .i64 a1, .int .i64 a2, .int .i64 a3, .int .i64 a4], .agg #[.int .i64 b1, .int .i64 b2, .int .i64 b3, .int .i64 b4]] w fun e w' => e = .returned (.agg #[.int .i64 (a1 + b1), .int .i64 (a2 + b2), .int .i64 (a3 + b3), .int .i64 (a4 + b4)]) ∧ Below w.heap.size w w' ∧ Below wr.heap.size wr w' :=
  (plus_any a1 a2 a3 a4 b1 b2 b3 b4 w h1 h2 h3 h4 k1 k2 k3 k4).mono fun _ _ ⟨he, hb⟩ => ⟨he, hb, hX.trans (hb.mono hX.size)⟩
theorem newd (w : World) (x0 x1 x2 x3 : Value) : Blk4 ((w.alloc (.cells #[x0, x1, x2, x3] 93)).drew) w.heap.size x0 x1 x2 x3 := Blk4.new w x0 x1 x2 x3
theorem keep9 {wr X : World} (hX : Below wr.heap.size wr X) {c a l : Nat} {v0 v1 v2 v3 v4 v5 v6 v7 v8 : Value} (lc : c < wr.heap.size) (la : a < wr.heap.size) (ll : l < wr.heap.size)
    (q0 : wr.cell? ⟨c, 0, none⟩ = some v0) (c0 : wr.cell? ⟨a, 0, none⟩ = some v1) (c1 : wr.cell? ⟨a, 1, none⟩ = some v2) (c2 : wr.cell? ⟨a, 2, none⟩ = some v3) (c3 : wr.cell? ⟨a, 3, none⟩ = some v4)
    (r4 : wr.cell? ⟨l, 4, none⟩ = some v5) (r5 : wr.cell? ⟨l, 5, none⟩ = some v6) (r6 : wr.cell? ⟨l, 6, none⟩ = some v7) (r7 : wr.cell? ⟨l, 7, none⟩ = some v8) :
    X.cell? ⟨c, 0, none⟩ = some v0 ∧ X.cell? ⟨a, 0, none⟩ = some v1 ∧ X.cell? ⟨a, 1, none⟩ = some v2 ∧ X.cell? ⟨a, 2, none⟩ = some v3 ∧ X.cell? ⟨a, 3, none⟩ = some v4 ∧ X.cell? ⟨l, 4, none⟩ = some v5 ∧ X.cell? ⟨l, 5, none⟩ = some v6 ∧ X.cell? ⟨l, 6, none⟩ = some v7 ∧ X.cell? ⟨l, 7, none⟩ = some v8 :=
  ⟨kcb hX lc q0, kcb hX la c0, kcb hX la c1, kcb hX la c2, kcb hX la c3, kcb hX ll r4, kcb hX ll r5, kcb hX ll r6, kcb hX ll r7⟩

end Go.Proofs.YtopeagigdgjchaaDoor.Rp
