/- The program's reader of messages: the kids of a list, while they are read. -/
import Derived.Test.YthdbnafiindgbaaGreatDoorWor
import Derived.Test.YthdbnafiindgbaaGreatDoorWov
namespace Go.Proofs.YthdbnafiindgbaaGreatDoor
open Go.RowKit
open Wi

def Res.to {α β : Type} (f : α → β) (r : Res α) : Res β := match r with | .ok a l => .ok (f a) l | .bad e n => .bad e n
/-- One kid more. -/
def stpL (d : Nat) (kids : List J) (l : List UInt8) : Res (List J) := match val d l with | .ok j t => .ok (kids ++ [j]) t | .bad e n => .bad e n
theorem sign_two {a b : UInt8} {l t : List UInt8} (h : sign a l = some t) (hab : a ≠ b) : sign b l = none := by
  have := sign_some.1 h
  unfold sign
  rw [this]
  simp [hab]
theorem items_more (d : Nat) (f : Nat) : ∀ (kids : List J) (l : List UInt8), items (val d) false f [] kids l = Res.to (fun x => .mk 4 0 [] [] x) (moreR (stpL d) 93 f kids l) := by
  induction f with
  | zero => intro kids l; rfl
  | succ f ih =>
    intro kids l
    rw [items, moreR, show keyIf false [] l = .ok [] l from rfl, show stpL d kids l = (match val d l with | .ok j t => .ok (kids ++ [j]) t | .bad e n => .bad e n) from rfl]
    simp only
    cases hv : val d l with
    | bad e n => rfl
    | ok j l2 =>
      simp only
      cases h1 : sign 44 l2 with
      | some l3 =>
        rw [show sign (lastOf false) l2 = none from sign_two h1 (by decide)]
        simp only
        exact ih _ _
      | none =>
        cases h2 : sign 93 l2 with
        | some l3 => rw [show sign (lastOf false) l2 = some l3 from h2]; rfl
        | none => rw [show sign (lastOf false) l2 = none from h2]; rfl
theorem many_parts (d : Nat) (t : List UInt8) : manyW (val d) false t = Res.to (fun x => .mk 4 0 [] [] x) (partsR (stpL d) 93 [] t) := by
  unfold manyW partsR
  cases h : sign 93 t with
  | some l => rw [show sign (lastOf false) t = some l from h]; rfl
  | none => rw [show sign (lastOf false) t = none from h]; exact items_more d _ _ _
theorem val_blank (d : Nat) (l : List UInt8) : val d (bla l) = val d l := by
  cases d <;> simp only [val, valW, bla_blank]
theorem flat_len (vl : List Five) : (vl.flatMap fiveL).length = vl.length * 5 := by
  induction vl with
  | nil => rfl
  | cons a t ih => simp only [List.flatMap_cons, List.length_append, ih, List.length_cons, fiveL]; simp; omega
theorem flat_get {vl : List Five} {i : Nat} {f : Five} (h : vl[i]? = some f) : (vl.flatMap fiveL)[i * 5]? = some f.1 ∧ (vl.flatMap fiveL)[i * 5 + 1]? = some f.2.1 ∧ (vl.flatMap fiveL)[i * 5 + 2]? = some f.2.2.1 ∧ (vl.flatMap fiveL)[i * 5 + 3]? = some f.2.2.2.1 ∧ (vl.flatMap fiveL)[i * 5 + 4]? = some f.2.2.2.2 := by
  induction vl generalizing i with
  | nil => simp at h
  | cons a t ih =>
    cases i with
    | zero =>
      obtain rfl : a = f := by simpa using h
      simp [fiveL]
    | succ i =>
      have := ih (i := i) (by simpa using h)
      have e : ∀ r, (List.flatMap fiveL (a :: t))[(i + 1) * 5 + r]? = (t.flatMap fiveL)[i * 5 + r]? := by
        intro r
        rw [List.flatMap_cons, List.getElem?_append_right (by simp [fiveL]; omega)]
        congr 1
        simp [fiveL]; omega
      exact ⟨(e 0).trans this.1, (e 1).trans this.2.1, (e 2).trans this.2.2.1, (e 3).trans this.2.2.2.1, (e 4).trans this.2.2.2.2⟩
/-- Kids in a row of one's own. -/
def Kd (w0 w : World) (K P : Nat) (X : Nat → Prop) (rv : Value) (kids : List J) : Prop := ∃ vl : List Five, w.ownsRow w0.heap.size 25 5 rv kids.length (vl.flatMap fiveL) ∧ vl.length = kids.length ∧ ∀ (i : Nat) (j : J), kids[i]? = some j → ∃ f, vl[i]? = some f ∧ IsX w (fun q => w0.heap.size ≤ q ∧ q ≠ K ∧ q ≠ P ∧ rv.ownBlock ≠ some q ∧ ¬ X q) (fiveV f) j
theorem Kd.keep {S : Nat → Prop} {w0 w w' : World} {K P : Nat} {X : Nat → Prop} {rv : Value} {kids : List J} (h : Kd w0 w K P X rv kids) (k : Kp S w w') (hS : ∀ q, w0.heap.size ≤ q → q ≠ K → q ≠ P → ¬ X q → ¬ S q) (hr : ∀ q, rv.ownBlock = some q → ¬ S q) : Kd w0 w' K P X rv kids := by
  obtain ⟨vl, h1, h2, h3⟩ := h
  refine ⟨vl, k.owns h1 hr, h2, fun i j hj => ?_⟩
  obtain ⟨f, e, hx⟩ := h3 i j hj
  exact ⟨f, e, hx.keep k (fun q hq => hS q hq.1 hq.2.1 hq.2.2.1 hq.2.2.2.2)⟩
/-- While a list is read. -/
structure LS (w0 : World) (sb K P : Nat) (X : Nat → Prop) (s : ByteArray) (dd : Int) (w : World) (kids : List J) (l : List UInt8) : Prop where
  src : RawS w sb s (pos s l) dd
  es : Es w
  ne : sb ≠ 1
  pc : w.heap[P]? = some (.cells #[.pointer (some ⟨sb, 0, none⟩)] 50 (0, 0))
  row : ∃ rv, w.heap[K]? = some (.cells #[rv] 23 (0, 0)) ∧ Kd w0 w K P X rv kids
  hK : w0.heap.size ≤ K
  hP : w0.heap.size ≤ P
  KP : K ≠ P
  sl : sb < w0.heap.size
  el : 1 < w0.heap.size
  ow : Ow sb w0 w
theorem LS.on {w0 : World} {sb K P : Nat} {X : Nat → Prop} {s : ByteArray} {dd : Int} {w : World} {kids : List J} {l : List UInt8} (h : LS w0 sb K P X s dd w kids l) (d' : Int) (w' : World) (l' : List UInt8) (k : Ow sb w w') (r : RawS w' sb s (pos s l') d') : LS w0 sb K P X s d' w' kids l' := by
  have h1 := h.hK
  have h2 := h.hP
  have h3 := h.sl
  obtain ⟨rv, e, hk⟩ := h.row
  refine ⟨r, h.es.ow k h.ne, h.ne, k.heap h.pc (fun e => by omega), ⟨rv, k.heap e (fun e => by omega), hk.keep k (fun q hq _ _ _ e => by omega) (fun q hq e => ?_)⟩, h1, h2, h.KP, h3, h.el, h.ow.to k⟩
  obtain ⟨vl, ho, -⟩ := hk
  have := (owns_geW ho q hq).1
  omega
/-- What the reading of one kid does. -/
def L1C (d : Nat) : Prop := ∀ (w0 : World) (sb K P : Nat) (s : ByteArray) (w : World) (kids : List J) (l : List UInt8), s.size ≤ 1073741824 → Sfx s l → kids.length + l.length ≤ s.size → LS w0 sb K P (fun _ => False) s (40 - (d : Int)) w kids l →
  Calls Tryz.prog 46 #[.pointer (some ⟨K, 0, none⟩), .pointer (some ⟨P, 0, none⟩)] w fun en w' => OkP (LS w0 sb K P (fun _ => False) s (40 - (d : Int))) (Ow sb w0) s (stpL d kids l) en w'
/-- A list whose kids lie in a row. -/
theorem Kd.isX {w0 w : World} {K P : Nat} {X : Nat → Prop} {rv : Value} {kids : List J} (h : Kd w0 w K P X rv kids) : IsX w (fun q => w0.heap.size ≤ q) (.agg #[.int .i64 4, .int .i64 0, .string (ba []), .slice none 0 0, rv]) (.mk 4 0 [] [] kids) := by
  obtain ⟨vl, ho, hl, hk⟩ := h
  have hc := fun g hg => ho.cells (g := g) hg
  have hg := fun q hq => owns_geW ho q hq
  obtain ⟨ao, cap, rfl, hcap, hcm, hao⟩ : ∃ ao cap, rv = .slice ao kids.length cap ∧ kids.length ≤ cap ∧ cap ≤ maxLen ∧ (0 < kids.length → ∃ g, ao = some ⟨g, 0, none⟩) := by
    rcases ho.2 with ⟨e, h0⟩ | ⟨g, cap, cur, e, hb, hg, hn, hm, hs, ht⟩
    · exact ⟨none, 0, by rw [e, h0], by omega, Nat.zero_le _, fun h => by omega⟩
    · exact ⟨_, cap, e, hn, hm, fun _ => ⟨g, rfl⟩⟩
  let f : Nat → Five := fun i => vl.getD i (undef, undef, undef, undef, undef)
  have hf : ∀ i, i < kids.length → vl[i]? = some (f i) := fun i hi => by
    have : i < vl.length := by omega
    simp [f, List.getD, List.getElem?_eq_getElem this]
  refine .mk 4 0 [] [] kids none ao 0 cap f ⟨Nat.le_refl _, Nat.zero_le _⟩ ⟨hcap, hcm⟩ (fun i x h => by simp at h) (fun i hi => ?_) (fun i j hj => ?_)
  · obtain ⟨g, rfl⟩ := hao (by omega)
    have hgg := (hg g rfl).1
    obtain ⟨a0, a1, a2, a3, a4⟩ := flat_get (hf i hi)
    have hcc : ∀ (n : Nat) (x : Value), (vl.flatMap fiveL)[n]? = some x → w.cell? ⟨g, n, none⟩ = some x := fun n x hx => by
      have := hc g rfl n x hx
      rwa [Addr.add_lit, Nat.zero_add] at this
    exact ⟨g, rfl, hgg, hcc _ _ a0, hcc _ _ a1, hcc _ _ a2, hcc _ _ a3, hcc _ _ a4⟩
  · obtain ⟨f', e, hx⟩ := hk i j hj
    have hi : i < kids.length := by
      rcases Nat.lt_or_ge i kids.length with h | h
      · exact h
      · rw [List.getElem?_eq_none h] at hj; cases hj
    rw [hf i hi] at e
    cases e
    exact hx.mono (fun q hq _ => hq.1)
end Go.Proofs.YthdbnafiindgbaaGreatDoor
/- The program's reader of messages: a list. -/
namespace Go.Proofs.YthdbnafiindgbaaGreatDoor
open Go.RowKit
open Wi

/-- A list that is read, with how many kids it may have. -/
def LSb (w0 : World) (sb K P : Nat) (s : ByteArray) (dd : Int) (w : World) (kids : List J) (l : List UInt8) : Prop := LS w0 sb K P (fun _ => False) s dd w kids l ∧ kids.length + l.length ≤ s.size
theorem stpL_len {d : Nat} {kids kids' : List J} {l l' : List UInt8} (h : stpL d kids l = .ok kids' l') : l'.length < l.length ∧ kids'.length = kids.length + 1 := by
  unfold stpL at h
  cases hv : val d l with
  | bad e n => rw [hv] at h; cases h
  | ok j t =>
    rw [hv] at h
    cases h
    exact ⟨(val_keeps d l).1 _ _ hv, by simp⟩
theorem LS.rvK {w0 : World} {w : World} {K P : Nat} {X : Nat → Prop} {rv : Value} {kids : List J} (e : w.heap[K]? = some (.cells #[rv] 23 (0, 0))) (h : Kd w0 w K P X rv kids) : rv.ownBlock ≠ some K := fun he => by
  obtain ⟨vl, ho, -⟩ := h
  obtain ⟨-, c, hc⟩ := own_tyB ho he
  have := cells_tyB hc e
  exact absurd this (by decide)
set_option maxRecDepth 100000 in
set_option maxHeartbeats 4000000 in
theorem olist_any (d : Nat) (hd : d + 1 ≤ 40) (hL1 : L1C d) (hLs : ∀ kids kids' l l', stpL d kids l = .ok kids' l' → l' <:+ l) : LC (d + 1) := by
  intro sb s c t w hs hl h hE hne
  have hdd : 40 - ((d + 1 : Nat) : Int) + 1 = 40 - (d : Int) := by omega
  have hd0 : 0 ≤ 40 - ((d + 1 : Nat) : Int) := by omega
  have hd1 : 40 - ((d + 1 : Nat) : Int) < 40 := by omega
  have HM : Hid (brkR (d + 1) false t = Res.to (fun x => .mk 4 0 [] [] x) (partsR (stpL d) 93 [] t)) := many_parts d t
  unfold L1C at hL1
  rw [← hdd] at hL1
  generalize 40 - ((d + 1 : Nat) : Int) = dd at *
  have hmf : ∀ (fn : Fn) (first cap : Array Value) (w : World), (Instr.makeFunc fn first cap).run Tryz.prog w = .ok (.func fn first cap) w := fun _ _ _ _ => rfl
  have HPT := hide (oparts_list sb s dd 93 93 (.pointer (some ⟨w.heap.size + 1, 0, none⟩)) (.pointer (some ⟨w.heap.size, 0, none⟩)) (stpL d) (LSb w sb (w.heap.size + 1) w.heap.size s) (Ow sb w) hs rfl (by decide) hd0 hd1
    (fun _ _ _ _ h => h.1.src) (fun _ _ _ _ h d' w' l' hsf k r => ⟨h.1.on d' w' l' k r, by have := hsf.length_le; have := h.2; omega⟩) (fun _ _ _ _ h => h.1.ow) (fun _ _ h k => h.to k)
    (fun w1 x l hsf h1 => (hL1 w sb _ _ s w1 x l hs hsf h1.2 h1.1).mono (fun en w' h2 => by
      unfold OkP at h2 ⊢
      cases hst : stpL d x l with
      | bad e n => rw [hst] at h2; exact h2
      | ok x' l' =>
        rw [hst] at h2
        have := stpL_len hst
        exact ⟨h2.1, h2.2, by have := h1.2; omega⟩))
    (fun x l x' l' e => ⟨(stpL_len e).1, hLs _ _ _ _ e⟩) (fun x l => by unfold stpL; rw [val_blank]) [] c t)
  have hal1 := (Below.refl _ w).alloc (Nat.le_refl _) (.cells #[.pointer (some ⟨sb, 0, none⟩)] 50)
  have hal2 := hal1.alloc (by simp) (.cells #[.slice none 0 0] 23)
  have HLS : Hid (LSb w sb (w.heap.size + 1) w.heap.size s dd ((w.alloc (.cells #[.pointer (some ⟨sb, 0, none⟩)] 50)).alloc (.cells #[.slice none 0 0] 23)) [] (c :: t)) := by
    refine ⟨⟨h.below hal2, hE.below hal2, hne, ?_, ⟨.slice none 0 0, ?_, [], ⟨rfl, .inl ⟨rfl, rfl⟩⟩, rfl, fun i j hj => by simp at hj⟩, by omega, by omega, by omega, h.lt, hE.lt, Ow.ofBelow sb hal2⟩, by have := hl.le; simpa using this⟩
    · rw [Below.heap_alloc _ _ _ (by simp)]; exact heap_alloc_new w _
    · have := heap_alloc_new (w.alloc (.cells #[.pointer (some ⟨sb, 0, none⟩)] 50)) (.cells #[.slice none 0 0] 23)
      simpa using this
  have HC := hide ((HPT.out) _ hl HLS.out)
  have hpcell : ((w.alloc (.cells #[.pointer (some ⟨sb, 0, none⟩)] 50)).alloc (.cells #[.slice none 0 0] 23)).cell? ⟨w.heap.size, 0, none⟩ = some (.pointer (some ⟨sb, 0, none⟩)) := by
    simp [World.cell?, (HLS.out).1.pc]
  clear HPT hL1 hLs h hE hne hal1 hal2 hl hdd hd0 hd1
  go_enter Tryz.func28, Tryz.ntmps28
  go_wp2_with fail
  refine (HC.out).mono ?_
  clear HC HLS hpcell
  cases hp : partsR (stpL d) 93 [] t with
  | bad e n =>
    rw [hp] at HM
    rintro en w3 ⟨rfl, k3⟩
    have HF : Hid (OkLs w sb s dd (brkR (d + 1) false t) (flt (s.size - n : Nat) e) w3) := by
      show OkLs _ _ _ _ _ _ _
      rw [HM.out]
      exact ⟨k3, rfl⟩
    clear HM hp k3
    go_wp2_with fail
    exact ⟨rfl, HF.out⟩
  | ok kids r =>
    rw [hp] at HM
    rintro en w3 ⟨rfl, h3, -⟩
    obtain ⟨rv, e3, hk3⟩ := h3.row
    have hrk := LS.rvK e3 hk3
    have c0 : w3.cell? ⟨w.heap.size + 1, 0, none⟩ = some rv := by simp [World.cell?, e3]
    have f0 : w3.frozen? ⟨w.heap.size + 1, 0, none⟩ = false := by simp [World.frozen?, e3]
    have HF : Hid (OkLs w sb s dd (brkR (d + 1) false t) (.returned rv) (w3.setCell ⟨w.heap.size + 1, 0, none⟩ rv)) := by
      show OkLs _ _ _ _ _ _ _
      rw [HM.out]
      have k : Kp (fun q => q = w.heap.size + 1) w3 (w3.setCell ⟨w.heap.size + 1, 0, none⟩ rv) := Kp.setCell (S := fun q => q = w.heap.size + 1) (p := ⟨w.heap.size + 1, 0, none⟩) (Kp.refl _ w3) (fun _ => rfl) rv
      refine ⟨Kp.trans h3.ow k (fun q hq e => by have : q = w.heap.size + 1 := e; omega), rv, rfl, (hk3.keep k (fun q _ hq _ _ e => hq e) (fun q hq e => hrk (by rw [hq, e]))).isX, h3.src.keep k (fun e => by have := h3.sl; omega)⟩
    have x0 : (w3.setCell ⟨w.heap.size + 1, 0, none⟩ rv).cell? ⟨w.heap.size + 1, 0, none⟩ = some rv := by
      have := set_blkB e3 0 rv
      simp [World.cell?, this]
    obtain ⟨p1, p2, p3, rfl⟩ : ∃ x y z, rv = .slice x y z := (hk3.isX).rows.2
    clear HM hp h3 e3 hk3 hrk
    go_wp2_with fail
    exact bodyPost_ret (by simp [results, Tryz.results28, go_sem, x0]) rfl HF.out
set_option maxRecDepth 100000 in
set_option maxHeartbeats 4000000 in
theorem olist_full : LC 0 := by
  intro sb s c t w hs hl h hE hne
  have hmf : ∀ (fn : Fn) (first cap : Array Value) (w : World), (Instr.makeFunc fn first cap).run Tryz.prog w = .ok (.func fn first cap) w := fun _ _ _ _ => rfl
  have hal1 := (Below.refl _ w).alloc (Nat.le_refl _) (.cells #[.pointer (some ⟨sb, 0, none⟩)] 50)
  have hal2 := hal1.alloc (by simp) (.cells #[.slice none 0 0] 23)
  have HC := hide (oparts_full sb s (c :: t) (.int .u8 93) (.func (.func 46) #[] #[.pointer (some ⟨w.heap.size + 1, 0, none⟩), .pointer (some ⟨w.heap.size, 0, none⟩)]) _ (h.below hal2))
  have hps := hl.pos
  have HK := hide (Ow.ofBelow sb hal2)
  have hpcell : ((w.alloc (.cells #[.pointer (some ⟨sb, 0, none⟩)] 50)).alloc (.cells #[.slice none 0 0] 23)).cell? ⟨w.heap.size, 0, none⟩ = some (.pointer (some ⟨sb, 0, none⟩)) := by
    have : ((w.alloc (.cells #[.pointer (some ⟨sb, 0, none⟩)] 50)).alloc (.cells #[.slice none 0 0] 23)).heap[w.heap.size]? = some (.cells #[.pointer (some ⟨sb, 0, none⟩)] 50 (0, 0)) := by
      rw [Below.heap_alloc _ _ _ (by simp)]; exact heap_alloc_new w _
    simp [World.cell?, this]
  clear h hE hne hal1 hal2 hl
  go_enter Tryz.func28, Tryz.ntmps28
  go_wp2_with fail
  refine (HC.out).mono ?_
  rintro en w3 ⟨rfl, rfl⟩
  have HF : Hid (OkLs w sb s 40 (brkR 0 false t) (flt (pos s (c :: t) : Nat) 12) ((w.alloc (.cells #[.pointer (some ⟨sb, 0, none⟩)] 50)).alloc (.cells #[.slice none 0 0] 23))) := by
    refine ⟨HK.out, ?_⟩
    show flt _ _ = flt _ _
    rw [show s.size - (t.length + 1) = pos s (c :: t) by simp only [List.length_cons] at hps; omega]; rfl
  clear HC HK hpcell
  go_wp2_with fail
  exact ⟨rfl, HF.out⟩
end Go.Proofs.YthdbnafiindgbaaGreatDoor
/- Mathematics: what is left behind a reading is an end of what was there. -/
namespace Go.Proofs.YthdbnafiindgbaaGreatDoor
open Wi

theorem txt_sfx (n : Nat) : ∀ (a l : List UInt8), l.length ≤ n → ∀ x r, txt a l = .ok x r → r <:+ l := by
  induction n with
  | zero =>
    intro a l h x r hx
    have : l = [] := List.eq_nil_of_length_eq_zero (by omega)
    subst this
    rw [txt] at hx; cases hx
  | succ n ih =>
    intro a l h x r hx
    cases l with
    | nil => rw [txt] at hx; cases hx
    | cons c t =>
      have ht : t.length ≤ n := by simpa using h
      rw [txt] at hx
      split at hx
      · cases hx; exact List.suffix_cons c _
      split at hx
      · cases hx
      split at hx
      · exact (ih _ t ht x r hx).trans (List.suffix_cons c t)
      · split at hx
        · cases hx
        · next b k he => exact ((ih _ (t.drop (k - 1)) (by simp; omega) x r hx).trans (List.drop_suffix _ _)).trans (List.suffix_cons c t)
theorem numb_sfx {l r : List UInt8} {j : J} (h : numb l = .ok j r) : r <:+ l := by
  unfold numb at h
  simp only at h
  have hb : (if l.head? = some 45 then l.tail else l) <:+ l := by
    split
    · exact List.tail_suffix l
    · exact List.suffix_rfl
  generalize (if l.head? = some 45 then l.tail else l) = b at h hb
  split at h
  · cases h
  split at h
  · cases h
  · cases h; exact (List.dropWhile_suffix _).trans hb
theorem word_sfx {s l r : List UInt8} {k n : Int} {j : J} (h : word s k n l = .ok j r) : r <:+ l := by
  unfold word at h
  split at h
  · cases h; exact List.drop_suffix _ _
  · cases h
theorem key_sfx {ks ks' : List (List UInt8)} {l r : List UInt8} (h : key ks l = .ok ks' r) : r <:+ l := by
  unfold key at h
  have hb := bla_sfx l
  split at h
  · cases h
  · next c t hc =>
    rw [hc] at hb
    split at h
    · split at h
      · cases h
      · next k r2 ht =>
        have h1 := txt_sfx t.length [] t (Nat.le_refl _) k r2 ht
        split at h
        · cases h
        split at h
        · next hs => cases h; exact ((sign_sfx hs).trans h1).trans ((List.suffix_cons c t).trans hb)
        · cases h
    · cases h
theorem keyIf_sfx {m : Bool} {ks ks' : List (List UInt8)} {l r : List UInt8} (h : keyIf m ks l = .ok ks' r) : r <:+ l := by
  unfold keyIf at h
  split at h
  · exact key_sfx h
  · cases h; exact List.suffix_rfl
theorem items_sfx {v : List UInt8 → Res J} (hv : ∀ l j r, v l = .ok j r → r <:+ l) (m : Bool) (f : Nat) : ∀ ks kids (l : List UInt8) j r, items v m f ks kids l = .ok j r → r <:+ l := by
  induction f with
  | zero => intro _ _ l j r h; cases h
  | succ f ih =>
    intro ks kids l j r h
    rw [items] at h
    split at h
    · cases h
    · next ks' l1 h1 =>
      have e1 := keyIf_sfx h1
      split at h
      · cases h
      · next j2 l2 h2 =>
        have e2 := (hv _ _ _ h2).trans e1
        split at h
        · next h3 => cases h; exact (sign_sfx h3).trans e2
        split at h
        · next h3 => exact ((ih _ _ _ _ _ h).trans (sign_sfx h3)).trans e2
        · cases h
theorem manyW_sfx {v : List UInt8 → Res J} (hv : ∀ l j r, v l = .ok j r → r <:+ l) {m : Bool} {t r : List UInt8} {j : J} (h : manyW v m t = .ok j r) : r <:+ t := by
  unfold manyW at h
  split at h
  · next hs => cases h; exact sign_sfx hs
  · exact items_sfx hv m _ _ _ _ _ _ h
theorem val_sfx (d : Nat) : ∀ l j r, val d l = .ok j r → r <:+ l := by
  have key : ∀ (m : Bool → List UInt8 → Res J), (∀ b t j r, m b t = .ok j r → r <:+ t) → ∀ l j r, valW m l = .ok j r → r <:+ l := by
    intro m hm l j r h
    unfold valW at h
    have hb := bla_sfx l
    split at h
    · cases h
    · next c t hc =>
      rw [hc] at hb
      refine List.IsSuffix.trans ?_ hb
      split at h
      · exact word_sfx h
      split at h
      · exact word_sfx h
      split at h
      · exact word_sfx h
      split at h
      · exact numb_sfx h
      split at h
      · split at h
        · cases h
        · next x r2 ht => cases h; exact (txt_sfx t.length [] t (Nat.le_refl _) _ _ ht).trans (List.suffix_cons c t)
      split at h
      · exact (hm _ _ _ _ h).trans (List.suffix_cons c t)
      · cases h
  induction d with
  | zero => exact key _ (fun b t j r h => by cases h)
  | succ d ih => exact key _ (fun b t j r h => manyW_sfx ih h)
theorem stpL_sfx (d : Nat) (kids kids' : List J) (l l' : List UInt8) (h : stpL d kids l = .ok kids' l') : l' <:+ l := by
  unfold stpL at h
  cases hv : val d l with
  | bad e n => rw [hv] at h; cases h
  | ok j t => rw [hv] at h; cases h; exact val_sfx d l j _ hv
end Go.Proofs.YthdbnafiindgbaaGreatDoor
