/- The program's reader of messages: Parse. -/
import Derived.Test.YthdbnafiindgbaaGreatDoorWpi
namespace Go.Proofs.YthdbnafiindgbaaGreatDoor
open Go.RowKit
open Wi

theorem omessage_any (sb : Nat) (s : ByteArray) (w : World) (hs : s.size ≤ 1073741824) (h : RawS w sb s 0 0) (hE : Es w) (hne : sb ≠ 1) :
    Calls Tryz.prog 8 #[.pointer (some ⟨sb, 0, none⟩)] w fun en w' => OkM w (Ow sb) s en w' := by
  cases hv : val 40 (bs s) with
  | bad e n => exact omessage_bad sb s w hs h hE hne e n hv
  | ok j r => exact omessage_ok sb s w hs h hE hne j r hv
abbrev NewW (a b : World) : Prop := Below a.heap.size a b
set_option maxRecDepth 100000 in
set_option maxHeartbeats 4000000 in
theorem oparse_any (s : ByteArray) (w : World) (hs : s.size ≤ 1073741824) (hE : Es w) :
    Calls Tryz.prog 4 #[.string s] w fun en w' => OkM w NewW s en w' := by
  have hal1 := (Below.refl _ w).alloc (Nat.le_refl _) (.cells #[.int .i64 0, .int .i64 0, .string ⟨#[]⟩, .slice none 0 0, .slice none 0 0] 25)
  have hal2 := hal1.alloc (by simp) (.cells #[.string s, .int .i64 0, .int .i64 0] 40)
  have hlt := hE.lt
  have hsz : ((w.alloc (.cells #[.int .i64 0, .int .i64 0, .string ⟨#[]⟩, .slice none 0 0, .slice none 0 0] 25)).alloc (.cells #[.string s, .int .i64 0, .int .i64 0] 40)).heap.size = w.heap.size + 1 + 1 := by simp
  have e2 : ((w.alloc (.cells #[.int .i64 0, .int .i64 0, .string ⟨#[]⟩, .slice none 0 0, .slice none 0 0] 25)).alloc (.cells #[.string s, .int .i64 0, .int .i64 0] 40)).heap[w.heap.size + 1]? = some (.cells #[.string s, .int .i64 0, .int .i64 0] 40 (0, 0)) := by
    have := heap_alloc_new (w.alloc (.cells #[.int .i64 0, .int .i64 0, .string ⟨#[]⟩, .slice none 0 0, .slice none 0 0] 25)) (.cells #[.string s, .int .i64 0, .int .i64 0] 40)
    simpa using this
  have e1 : ((w.alloc (.cells #[.int .i64 0, .int .i64 0, .string ⟨#[]⟩, .slice none 0 0, .slice none 0 0] 25)).alloc (.cells #[.string s, .int .i64 0, .int .i64 0] 40)).heap[w.heap.size]? = some (.cells #[.int .i64 0, .int .i64 0, .string ⟨#[]⟩, .slice none 0 0, .slice none 0 0] 25 (0, 0)) := by
    rw [Below.heap_alloc _ _ _ (by simp)]; exact heap_alloc_new w _
  have HM := hide (omessage_any (w.heap.size + 1) s ((w.alloc (.cells #[.int .i64 0, .int .i64 0, .string ⟨#[]⟩, .slice none 0 0, .slice none 0 0] 25)).alloc (.cells #[.string s, .int .i64 0, .int .i64 0] 40)) hs e2 (hE.below hal2) (by omega))
  have H1 := hide e1
  have HB := hide hal2
  clear hal1 hal2 e1 e2 hE
  go_enter Tryz.func4, Tryz.ntmps4
  go_wp2_with fail
  refine (HM.out).mono ?_
  rintro en w3 ⟨k3, h3⟩
  obtain ⟨v1, v2, v3, u1, u2, u3, y1, y2, y3, at', er, rfl, H3⟩ : ∃ (v1 v2 : Int) (v3 : ByteArray) (u1 : Option Addr) (u2 u3 : Nat) (y1 : Option Addr) (y2 y3 : Nat) (at' : Int) (er : Value), en = .returned (.tuple #[.agg #[.int .i64 v1, .int .i64 v2, .string v3, .slice u1 u2 u3, .slice y1 y2 y3], .int .i64 at', er]) ∧ Hid (match parse (bs s) with
      | .ok j _ => at' = 0 ∧ er = .nilIface ∧ IsX w3 (fun q => w.heap.size + 1 + 1 ≤ q) (.agg #[.int .i64 v1, .int .i64 v2, .string v3, .slice u1 u2 u3, .slice y1 y2 y3]) j
      | .bad e n => v1 = 0 ∧ v2 = 0 ∧ v3 = ⟨#[]⟩ ∧ (u1 = none ∧ u2 = 0 ∧ u3 = 0) ∧ (y1 = none ∧ y2 = 0 ∧ y3 = 0) ∧ at' = (s.size - n : Nat) ∧ er = .iface 47 (.int .i64 e)) := by
    cases hp : parse (bs s) with
    | ok j r =>
      rw [hp] at h3
      obtain ⟨v, rfl, hx⟩ := h3
      rw [hsz] at hx
      obtain ⟨v1, v2, v3, u1, u2, u3, y1, y2, y3, rfl⟩ := hx.shape5
      exact ⟨v1, v2, v3, u1, u2, u3, y1, y2, y3, 0, .nilIface, rfl, rfl, rfl, hx⟩
    | bad e n =>
      rw [hp] at h3
      exact ⟨0, 0, ⟨#[]⟩, none, 0, 0, none, 0, 0, _, _, h3, rfl, rfl, rfl, ⟨rfl, rfl, rfl⟩, ⟨rfl, rfl, rfl⟩, rfl, rfl⟩
  have h1 := k3.heap H1.out (fun e => by omega)
  have hs3 := k3.size
  rw [hsz] at hs3
  have hb3 : Below w.heap.size w w3 := (HB.out).trans (k3.below (by rw [hsz]; omega) (fun q e => by have : q = w.heap.size + 1 := e; omega))
  have c0 : w3.cell? ⟨w.heap.size, 0, none⟩ = some (.int .i64 0) := by simp [World.cell?, h1]
  have c1 : w3.cell? ⟨w.heap.size, 1, none⟩ = some (.int .i64 0) := by simp [World.cell?, h1]
  have c2 : w3.cell? ⟨w.heap.size, 2, none⟩ = some (.string ⟨#[]⟩) := by simp [World.cell?, h1]
  have c3 : w3.cell? ⟨w.heap.size, 3, none⟩ = some (.slice none 0 0) := by simp [World.cell?, h1]
  have c4 : w3.cell? ⟨w.heap.size, 4, none⟩ = some (.slice none 0 0) := by simp [World.cell?, h1]
  have f0 : ∀ k, w3.frozen? ⟨w.heap.size, k, none⟩ = false := fun k => by simp [World.frozen?, h1]
  have g0 := f0 0
  have g1 := f0 1
  have g2 := f0 2
  have g3 := f0 3
  have g4 := f0 4
  have kj : Kp (fun x => x = w.heap.size) w3 (((((w3.setCell ⟨w.heap.size, 0, none⟩ (.int .i64 v1)).setCell ⟨w.heap.size, 1, none⟩ (.int .i64 v2)).setCell ⟨w.heap.size, 2, none⟩ (.string v3)).setCell ⟨w.heap.size, 3, none⟩ (.slice u1 u2 u3)).setCell ⟨w.heap.size, 4, none⟩ (.slice y1 y2 y3)) := Kp.five w3 w.heap.size 0 _ _ _ _ _
  have ej : (((((w3.setCell ⟨w.heap.size, 0, none⟩ (.int .i64 v1)).setCell ⟨w.heap.size, 1, none⟩ (.int .i64 v2)).setCell ⟨w.heap.size, 2, none⟩ (.string v3)).setCell ⟨w.heap.size, 3, none⟩ (.slice u1 u2 u3)).setCell ⟨w.heap.size, 4, none⟩ (.slice y1 y2 y3)).heap[w.heap.size]? = some (.cells #[.int .i64 v1, .int .i64 v2, .string v3, .slice u1 u2 u3, .slice y1 y2 y3] 25 (0, 0)) := by
    have := set_blkB (set_blkB (set_blkB (set_blkB (set_blkB h1 0 (.int .i64 v1)) 1 (.int .i64 v2)) 2 (.string v3)) 3 (.slice u1 u2 u3)) 4 (.slice y1 y2 y3)
    simpa using this
  have HF : Hid (OkM w NewW s (.returned (.tuple #[.agg #[.int .i64 v1, .int .i64 v2, .string v3, .slice u1 u2 u3, .slice y1 y2 y3], .int .i64 at', er])) (((((w3.setCell ⟨w.heap.size, 0, none⟩ (.int .i64 v1)).setCell ⟨w.heap.size, 1, none⟩ (.int .i64 v2)).setCell ⟨w.heap.size, 2, none⟩ (.string v3)).setCell ⟨w.heap.size, 3, none⟩ (.slice u1 u2 u3)).setCell ⟨w.heap.size, 4, none⟩ (.slice y1 y2 y3))) := by
    show OkM _ _ _ _ _
    refine ⟨hb3.trans (kj.below (by omega) (fun q e => by have : q = w.heap.size := e; omega)), ?_⟩
    have h4 := H3.out
    cases hp : parse (bs s) with
    | ok j r =>
      rw [hp] at h4
      obtain ⟨rfl, rfl, hx⟩ := h4
      exact ⟨_, rfl, (hx.keep kj (fun q hq e => by have : q = w.heap.size := e; omega)).mono (fun q hq _ => by omega)⟩
    | bad e n =>
      rw [hp] at h4
      obtain ⟨rfl, rfl, rfl, ⟨rfl, rfl, rfl⟩, ⟨rfl, rfl, rfl⟩, rfl, rfl⟩ := h4
      rfl
  clear HM H1 HB h1 f0 kj hb3 H3 h3 k3
  have HEJ := hide ej
  clear ej
  go_wp2_with fail
  clear c0 c1 c2 c3 c4 g0 g1 g2 g3 g4
  generalize (((((w3.setCell ⟨w.heap.size, 0, none⟩ (.int .i64 v1)).setCell ⟨w.heap.size, 1, none⟩ (.int .i64 v2)).setCell ⟨w.heap.size, 2, none⟩ (.string v3)).setCell ⟨w.heap.size, 3, none⟩ (.slice u1 u2 u3)).setCell ⟨w.heap.size, 4, none⟩ (.slice y1 y2 y3)) = w4 at *
  have c0 : w4.cell? ⟨w.heap.size, 0, none⟩ = some (.int .i64 v1) := by simp [World.cell?, HEJ.out]
  have c1 : w4.cell? ⟨w.heap.size, 1, none⟩ = some (.int .i64 v2) := by simp [World.cell?, HEJ.out]
  have c2 : w4.cell? ⟨w.heap.size, 2, none⟩ = some (.string v3) := by simp [World.cell?, HEJ.out]
  have c3 : w4.cell? ⟨w.heap.size, 3, none⟩ = some (.slice u1 u2 u3) := by simp [World.cell?, HEJ.out]
  have c4 : w4.cell? ⟨w.heap.size, 4, none⟩ = some (.slice y1 y2 y3) := by simp [World.cell?, HEJ.out]
  exact bodyPost_ret (by simp [results, Tryz.results4, go_sem, c0, c1, c2, c3, c4]) rfl HF.out
end Go.Proofs.YthdbnafiindgbaaGreatDoor
/- Mathematics: how much a value weighs that was read; values that were read as the program tells them. -/
namespace Go.Proofs.YthdbnafiindgbaaGreatDoor
open Go.RowKit
open Wi

theorem txt_wt (n : Nat) : ∀ (a l : List UInt8), l.length ≤ n → ∀ x r, txt a l = .ok x r → x.length + 2 * r.length + 2 ≤ a.length + 2 * l.length := by
  induction n with
  | zero =>
    intro a l h x r hx
    have : l = [] := List.eq_nil_of_length_eq_zero (by omega)
    subst this
    rw [txt] at hx; cases hx
  | succ n ih =>
    intro a l h x r hx
    cases l with
    | nil => rw [txt] at hx; cases hx
    | cons c t =>
      have ht : t.length ≤ n := by simpa using h
      rw [txt] at hx
      split at hx
      · cases hx; simp; omega
      split at hx
      · cases hx
      split at hx
      · have := ih _ t ht x r hx; simp at this ⊢; omega
      · split at hx
        · cases hx
        · next b k he =>
          have h4 := esc_few he
          have h5 := esc_len he
          have := ih _ (t.drop (k - 1)) (by simp; omega) x r hx
          simp at this h5 ⊢; omega
def kwt (ks : List (List UInt8)) : Nat := (ks.map fun x => x.length * 7 + 10).sum
theorem key_wt {ks ks' : List (List UInt8)} {l l' : List UInt8} (h : key ks l = .ok ks' l') : kwt ks' + 40 * l'.length ≤ kwt ks + 40 * l.length := by
  unfold key at h
  have hb := bla_len l
  split at h
  · cases h
  · next c t hc =>
    rw [hc] at hb
    simp only [List.length_cons] at hb
    split at h
    · split at h
      · cases h
      · next k r ht =>
        have h1 := txt_wt t.length [] t (Nat.le_refl _) k r ht
        split at h
        · cases h
        split at h
        · next hs =>
          cases h
          have h2 := sign_len hs
          simp only [List.length_nil] at h1
          simp only [kwt, List.map_append, List.map_cons, List.map_nil, List.sum_append, List.sum_cons, List.sum_nil]
          omega
        · cases h
    · cases h
theorem keyIf_wt {m : Bool} {ks ks' : List (List UInt8)} {l l' : List UInt8} (h : keyIf m ks l = .ok ks' l') : kwt ks' + 40 * l'.length ≤ kwt ks + 40 * l.length := by
  unfold keyIf at h
  split at h
  · exact key_wt h
  · cases h; exact Nat.le_refl _
theorem wts_append (a b : List J) : wts (a ++ b) = wts a + wts b := by
  induction a with
  | nil => simp [wts]
  | cons x a ih => simp only [List.cons_append, wts, ih]; omega
theorem items_wt {v : List UInt8 → Res J} (hv : ∀ l j r, v l = .ok j r → wt j + 40 * r.length ≤ 40 * l.length) (m : Bool) (f : Nat) : ∀ ks kids (l : List UInt8) j r, items v m f ks kids l = .ok j r → wt j + 40 * r.length ≤ 40 + kwt ks + wts kids + 40 * l.length := by
  induction f with
  | zero => intro _ _ l j r h; cases h
  | succ f ih =>
    intro ks kids l j r h
    rw [items] at h
    split at h
    · cases h
    · next ks' l1 h1 =>
      have e1 := keyIf_wt h1
      split at h
      · cases h
      · next j2 l2 h2 =>
        have e2 := hv _ _ _ h2
        split at h
        · next h3 =>
          cases h
          have e3 := sign_len h3
          simp only [wt, wts_append, wts, List.length_nil]
          unfold kwt at e1 ⊢
          omega
        split at h
        · next h3 =>
          have e3 := sign_len h3
          have e4 := ih _ _ _ _ _ h
          simp only [wts_append, wts] at e4
          omega
        · cases h
theorem manyW_wt {v : List UInt8 → Res J} (hv : ∀ l j r, v l = .ok j r → wt j + 40 * r.length ≤ 40 * l.length) {m : Bool} {t r : List UInt8} {j : J} (h : manyW v m t = .ok j r) : wt j + 40 * r.length ≤ 40 + 40 * t.length := by
  unfold manyW at h
  split at h
  · next hs =>
    cases h
    have := sign_len hs
    simp [wt, wts]; omega
  · have := items_wt hv m _ _ _ _ _ _ h
    simp only [kwt, wts, List.map_nil, List.sum_nil] at this
    omega
theorem word_wt {s l r : List UInt8} {k n : Int} {j : J} (hs : s ≠ []) (h : word s k n l = .ok j r) : wt j + 40 * r.length ≤ 40 * l.length := by
  have h1 := (word_keeps hs k n l).1 _ _ h
  unfold word at h
  split at h
  · cases h
    simp [wt, wts] at h1 ⊢; omega
  · cases h
theorem numb_wt {l r : List UInt8} {j : J} (h : numb l = .ok j r) : wt j + 40 * r.length ≤ 40 * l.length := by
  have h1 := (numb_keeps l).1 _ _ h
  have h2 : wt j = 40 := by
    unfold numb at h
    simp only at h
    generalize (if l.head? = some 45 then l.tail else l) = b at h
    split at h
    · cases h
    split at h
    · cases h
    · cases h; simp [wt, wts]
  omega
theorem val_wt (d : Nat) : ∀ l j r, val d l = .ok j r → wt j + 40 * r.length ≤ 40 * l.length := by
  have key : ∀ (m : Bool → List UInt8 → Res J), (∀ b t j r, m b t = .ok j r → wt j + 40 * r.length ≤ 40 + 40 * t.length) → ∀ l j r, valW m l = .ok j r → wt j + 40 * r.length ≤ 40 * l.length := by
    intro m hm l j r h
    unfold valW at h
    have hb := bla_len l
    split at h
    · cases h
    · next c t hc =>
      rw [hc] at hb
      refine Nat.le_trans ?_ (Nat.mul_le_mul_left 40 hb)
      split at h
      · exact word_wt (by decide) h
      split at h
      · exact word_wt (by decide) h
      split at h
      · exact word_wt (by decide) h
      split at h
      · exact numb_wt h
      split at h
      · split at h
        · cases h
        · next x r2 ht =>
          cases h
          have h1 := txt_wt t.length [] t (Nat.le_refl _) _ _ ht
          have h2 := txt_ok ht
          simp only [wt, wts, List.length_nil, List.map_nil, List.sum_nil, List.length_cons] at h1 ⊢
          omega
      split at h
      · have := hm _ _ _ _ h
        simp only [List.length_cons]; omega
      · cases h
  induction d with
  | zero => exact key _ (fun b t j r h => by cases h)
  | succ d ih => exact key _ (fun b t j r h => manyW_wt ih h)
theorem parse_wt {s : List UInt8} {j : J} {r : List UInt8} (h : parse s = .ok j r) : wt j ≤ 40 * s.length := by
  unfold parse at h
  split at h
  · cases h
  · next hv =>
    have := val_wt 40 _ _ _ hv
    split at h
    · cases h; omega
    · cases h
theorem parse_err {s : List UInt8} {e n : Nat} (h : parse s = .bad e n) : n ≤ s.length ∧ e ≠ 0 := by
  unfold parse at h
  split at h
  · next hv =>
    cases h
    have := (val_keeps 40 s).2 _ _ hv
    exact ⟨this.1, by omega⟩
  · next j r hv =>
    split at h
    · cases h
    · next c t hc =>
      cases h
      have h1 := (val_keeps 40 s).1 _ _ hv
      have h2 := bla_len r
      rw [hc] at h2
      simp only [List.length_cons] at h2
      exact ⟨by omega, by decide⟩
theorem IsX.isA {w : World} {A : Nat → Prop} {v : Value} {j : J} (h : IsX w A v j) : IsA w v j := by
  induction h with
  | mk k n t ks kids ao bo cap bcap f hc hd hk hr hp ih =>
    refine .mk k n t ks kids _ bo bcap f ⟨ao, cap, rfl, hc.1, hc.2, fun i x hx => ?_⟩ hd (fun i hi => ?_) ih
    · obtain ⟨g, e, -, a⟩ := hk i x hx
      exact ⟨g, 0, e, by rw [Nat.zero_add]; exact a⟩
    · obtain ⟨g, e, -, a0, a1, a2, a3, a4⟩ := hr i hi
      refine ⟨g, 0, e, ?_, ?_, ?_, ?_, ?_⟩ <;> rw [Nat.zero_add] <;> assumption
end Go.Proofs.YthdbnafiindgbaaGreatDoor
