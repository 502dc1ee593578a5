/- The program's reader of messages: keys and kids of a map, while they are read. -/
import Derived.Test.YthdbnafiindgbaaGreatDoorWpa
namespace Go.Proofs.YthdbnafiindgbaaGreatDoor
open Go.RowKit
open Wi

abbrev KJ := List (List UInt8) × List J
/-- One key and one kid more. -/
def stpP (d : Nat) (x : KJ) (l : List UInt8) : Res KJ := match key x.1 l with
  | .bad e n => .bad e n
  | .ok ks l1 => match val d l1 with | .ok j t => .ok (ks, x.2 ++ [j]) t | .bad e n => .bad e n
theorem items_moreP (d : Nat) (f : Nat) : ∀ (x : KJ) (l : List UInt8), items (val d) true f x.1 x.2 l = Res.to (fun y => .mk 5 0 [] y.1 y.2) (moreR (stpP d) 125 f x l) := by
  induction f with
  | zero => intro x l; rfl
  | succ f ih =>
    intro x l
    rw [items, moreR, show keyIf true x.1 l = key x.1 l from rfl]
    unfold stpP
    cases hk : key x.1 l with
    | bad e n => rfl
    | ok ks l1 =>
      simp only
      cases hv : val d l1 with
      | bad e n => rfl
      | ok j l2 =>
        simp only
        cases h1 : sign 44 l2 with
        | some l3 =>
          rw [show sign (lastOf true) l2 = none from sign_two h1 (by decide)]
          simp only
          exact ih (ks, x.2 ++ [j]) _
        | none =>
          cases h2 : sign 125 l2 with
          | some l3 => rw [show sign (lastOf true) l2 = some l3 from h2]; rfl
          | none => rw [show sign (lastOf true) l2 = none from h2]; rfl
theorem many_partsP (d : Nat) (t : List UInt8) : manyW (val d) true t = Res.to (fun y => .mk 5 0 [] y.1 y.2) (partsR (stpP d) 125 ([], []) t) := by
  unfold manyW partsR
  cases h : sign 125 t with
  | some l => rw [show sign (lastOf true) t = some l from h]; rfl
  | none => rw [show sign (lastOf true) t = none from h]; exact items_moreP d _ ([], []) _
theorem stpP_blank (d : Nat) (x : KJ) (l : List UInt8) : stpP d x (bla l) = stpP d x l := by
  unfold stpP
  rw [show key x.1 (bla l) = key x.1 l by simp only [key, bla_blank]]
theorem key_more {ks ks' : List (List UInt8)} {l l' : List UInt8} (h : key ks l = .ok ks' l') : ks'.length = ks.length + 1 := by
  rw [key_keyR] at h
  split at h
  · cases h
  · split at h
    · cases h; simp
    · cases h
theorem stpP_len {d : Nat} {x x' : KJ} {l l' : List UInt8} (h : stpP d x l = .ok x' l') : l'.length < l.length ∧ x'.1.length = x.1.length + 1 ∧ x'.2.length = x.2.length + 1 := by
  unfold stpP at h
  cases hk : key x.1 l with
  | bad e n => rw [hk] at h; cases h
  | ok ks l1 =>
    rw [hk] at h
    simp only at h
    cases hv : val d l1 with
    | bad e n => rw [hv] at h; cases h
    | ok j t =>
      rw [hv] at h
      cases h
      have h1 := (val_keeps d l1).1 _ _ hv
      have h2 := (key_keeps x.1 l).1 _ _ hk
      exact ⟨by omega, key_more hk, by simp⟩
theorem stpP_sfx {d : Nat} {x x' : KJ} {l l' : List UInt8} (h : stpP d x l = .ok x' l') : l' <:+ l := by
  unfold stpP at h
  cases hk : key x.1 l with
  | bad e n => rw [hk] at h; cases h
  | ok ks l1 =>
    rw [hk] at h
    simp only at h
    cases hv : val d l1 with
    | bad e n => rw [hv] at h; cases h
    | ok j t => rw [hv] at h; cases h; exact (val_sfx d l1 j _ hv).trans (key_sfx hk)
/-- The keys of a map, while it is read. -/
structure KS (w0 : World) (KK M mb : Nat) (w : World) (kv : Value) (ks : List (List UInt8)) : Prop where
  kc : w.heap[KK]? = some (.cells #[kv] 22 (0, 0))
  kr : w.ownsRow w0.heap.size 9 1 kv ks.length (strv ks)
  mc : w.heap[M]? = some (.cells #[.map (some mb)] 93 (0, 0))
  ms : Ms w mb ks.length ks
  hKK : w0.heap.size ≤ KK
  hM : w0.heap.size ≤ M
  hmb : w0.heap.size ≤ mb
/-- What belongs to the keys. -/
def XK (KK M mb : Nat) (kv : Value) : Nat → Prop := fun q => q = KK ∨ q = M ∨ q = mb ∨ kv.ownBlock = some q
theorem KS.lt {w0 w : World} {KK M mb : Nat} {kv : Value} {ks : List (List UInt8)} (h : KS w0 KK M mb w kv ks) : ∀ q, XK KK M mb kv q → q < w.heap.size := by
  rintro q (rfl | rfl | rfl | hq)
  · exact heap_lt h.kc
  · exact heap_lt h.mc
  · exact h.ms.lt
  · exact (owns_geW h.kr q hq).2
theorem KS.ge {w0 w : World} {KK M mb : Nat} {kv : Value} {ks : List (List UInt8)} (h : KS w0 KK M mb w kv ks) : ∀ q, XK KK M mb kv q → w0.heap.size ≤ q := by
  rintro q (rfl | rfl | rfl | hq)
  · exact h.hKK
  · exact h.hM
  · exact h.hmb
  · exact (owns_geW h.kr q hq).1
/-- What is of another type does not belong to the keys. -/
theorem KS.off {w0 w : World} {KK M mb : Nat} {kv : Value} {ks : List (List UInt8)} (h : KS w0 KK M mb w kv ks) {q : Nat} {c : Array Value} {t : TypeId} {fz : Nat × Nat} (hq : w.heap[q]? = some (.cells c t fz)) (h1 : t ≠ 22) (h2 : t ≠ 93) (h3 : t ≠ 9) : ¬ XK KK M mb kv q := by
  rintro (rfl | rfl | rfl | e)
  · exact h1 (cells_tyB hq h.kc)
  · exact h2 (cells_tyB hq h.mc)
  · exact h.ms.offc hq rfl
  · obtain ⟨-, c', hc⟩ := own_tyB h.kr e
    exact h3 (cells_tyB hq hc)
theorem KS.keep {S : Nat → Prop} {w0 w w' : World} {KK M mb : Nat} {kv : Value} {ks : List (List UInt8)} (h : KS w0 KK M mb w kv ks) (k : Kp S w w') (hS : ∀ q, XK KK M mb kv q → ¬ S q) : KS w0 KK M mb w' kv ks :=
  ⟨k.heap h.kc (hS _ (.inl rfl)), k.owns h.kr (fun q hq => hS q (.inr (.inr (.inr hq)))), k.heap h.mc (hS _ (.inr (.inl rfl))), h.ms.keep k (hS _ (.inr (.inr (.inl rfl)))), h.hKK, h.hM, h.hmb⟩
theorem LS.keepX {S X X' : Nat → Prop} {w0 w w' : World} {sb K P : Nat} {s : ByteArray} {dd d' : Int} {kids : List J} {l l' : List UInt8} (h : LS w0 sb K P X s dd w kids l) (k : Kp S w w') (r : RawS w' sb s (pos s l') d') (es : Es w')
    (hK : ¬ S K) (hP : ¬ S P) (hT : ∀ q c, w.heap[q]? = some (.cells c 25 (0, 0)) → ¬ S q) (hS : ∀ q, w0.heap.size ≤ q → ¬ X q → ¬ S q) (hX : ∀ q, q < w.heap.size → ¬ X q → ¬ X' q) (ow : Ow sb w0 w') : LS w0 sb K P X' s d' w' kids l' := by
  obtain ⟨rv, e, vl, ho, hl, hk⟩ := h.row
  refine ⟨r, es, h.ne, k.heap h.pc hP, ⟨rv, k.heap e hK, vl, k.owns ho (fun q hq => ?_), hl, fun i j hj => ?_⟩, h.hK, h.hP, h.KP, h.sl, h.el, ow⟩
  · obtain ⟨-, c, hc⟩ := own_tyB ho hq
    exact hT q c hc
  · obtain ⟨f, e, hx⟩ := hk i j hj
    refine ⟨f, e, ?_⟩
    have h1 : IsX w (fun q => w0.heap.size ≤ q ∧ q ≠ K ∧ q ≠ P ∧ rv.ownBlock ≠ some q ∧ ¬ X q ∧ q < w.heap.size) (fiveV f) j := hx.mono (fun q hq hlt => ⟨hq.1, hq.2.1, hq.2.2.1, hq.2.2.2.1, hq.2.2.2.2, hlt⟩)
    exact (h1.keep k (fun q hq => hS q hq.1 hq.2.2.2.2.1)).mono (fun q hq _ => ⟨hq.1, hq.2.1, hq.2.2.1, hq.2.2.2.1, hX q hq.2.2.2.2.2 hq.2.2.2.2.1⟩)
/-- While a map is read. -/
def PS (w0 : World) (sb KK K P M mb : Nat) (s : ByteArray) (dd : Int) (w : World) (x : KJ) (l : List UInt8) : Prop := ∃ kv, KS w0 KK M mb w kv x.1 ∧ LS w0 sb K P (XK KK M mb kv) s dd w x.2 l
theorem LS.srcOff {w0 w : World} {KK M mb sb K P : Nat} {kv : Value} {ks : List (List UInt8)} {X : Nat → Prop} {s : ByteArray} {dd : Int} {kids : List J} {l : List UInt8} (h : KS w0 KK M mb w kv ks) (h' : LS w0 sb K P X s dd w kids l) : ¬ XK KK M mb kv sb := fun e => by
  have := h.ge _ e
  have := h'.sl
  omega
theorem PS.on {w0 : World} {sb KK K P M mb : Nat} {s : ByteArray} {dd : Int} {w : World} {x : KJ} {l : List UInt8} (h : PS w0 sb KK K P M mb s dd w x l) (d' : Int) (w' : World) (l' : List UInt8) (k : Ow sb w w') (r : RawS w' sb s (pos s l') d') : PS w0 sb KK K P M mb s d' w' x l' := by
  obtain ⟨kv, h1, h2⟩ := h
  exact ⟨kv, h1.keep k (fun q hq e => LS.srcOff h1 h2 (by have : q = sb := e; rwa [← this])), h2.on d' w' l' k r⟩
/-- A key is put behind the others. -/
theorem PS.key {w0 : World} {sb KK K P M mb : Nat} {s : ByteArray} {dd : Int} {w : World} {ks : List (List UInt8)} {kids : List J} {l r : List UInt8} {kv : Value} (h : KS w0 KK M mb w kv ks) (h' : LS w0 sb K P (XK KK M mb kv) s dd w kids l)
    {k : List UInt8} {w1 w2 wz w5 : World} {g cap : Nat} (b1 : Below w.heap.size w w1) (k2 : Kp (fun q => q = sb ∨ q = mb) w1 w2) (hr : RawS w2 sb s (pos s r) dd) (hm : Ms w2 mb (ks.length + 1) (ks ++ [k])) (bz : Below w2.heap.size w2 wz)
    (hown : w5.ownsRow w0.heap.size 9 1 (.slice (some ⟨g, 0, none⟩) (ks.length + 1) cap) (ks.length + 1) (strv ks ++ [.string (ba k)])) (hgrow : wz.grownBy w5 kv.ownBlock) (hat : kv.ownBlock = some g ∨ g = wz.heap.size) :
    PS w0 sb KK K P M mb s dd (w5.setCell ⟨KK, 0, none⟩ (.slice (some ⟨g, 0, none⟩) (ks.length + 1) cap)) (ks ++ [k], kids) r := by
  have hge := h.ge
  have hlt := h.lt
  have a3 := h'.sl
  have a4 := h'.el
  have hKKm : KK ≠ mb := fun e => h.ms.offc h.kc e.symm
  have hMm : M ≠ mb := fun e => h.ms.offc h.mc e.symm
  have hKM : KK ≠ M := fun e => by
    have := cells_tyB (e ▸ h.kc) h.mc
    exact absurd this (by decide)
  have hvKK : kv.ownBlock ≠ some KK := fun e => by
    obtain ⟨-, c', hc⟩ := own_tyB h.kr e
    exact absurd (cells_tyB hc h.kc) (by decide)
  have hvM : kv.ownBlock ≠ some M := fun e => by
    obtain ⟨-, c', hc⟩ := own_tyB h.kr e
    exact absurd (cells_tyB hc h.mc) (by decide)
  have hvm : kv.ownBlock ≠ some mb := h.ms.off h.kr
  have s1 := b1.size
  have s2 := k2.size
  have sz := bz.size
  have hgw := (owns_geW hown g rfl).1
  have hgX : ∀ q, q < w.heap.size → kv.ownBlock ≠ some q → q ≠ g := fun q h1 h2 e => hat.elim (fun h3 => h2 (by rw [h3, e])) (fun h3 => by omega)
  have hgK : g ≠ KK := fun e => hgX KK (hlt _ (.inl rfl)) hvKK e.symm
  have k12 : Kp (fun q => q = sb ∨ q = mb) w w2 := Kp.trans (Kp.ofBelow b1 _) k2 (fun _ _ e => e)
  have kz : Kp (fun q => q = sb ∨ q = mb) w wz := Kp.trans k12 (Kp.ofBelow bz (fun _ => False)) (fun _ _ e => e.elim)
  have k5' : Kp (fun q => kv.ownBlock = some q) wz w5 := Kp.grown (Kp.refl _ wz) hgrow (fun k hk _ => hk)
  have k5 : Kp (fun q => q = sb ∨ q = mb ∨ kv.ownBlock = some q) w w5 := Kp.trans (kz.mono (fun _ _ e => e.elim .inl (fun e => .inr (.inl e)))) k5' (fun _ _ e => .inr (.inr e))
  have k6' : Kp (fun q => q = KK) w5 (w5.setCell ⟨KK, 0, none⟩ (.slice (some ⟨g, 0, none⟩) (ks.length + 1) cap)) := Kp.setCell (S := fun q => q = KK) (p := ⟨KK, 0, none⟩) (Kp.refl _ w5) (fun _ => rfl) _
  have k6 : Kp (fun q => q = sb ∨ q = mb ∨ kv.ownBlock = some q ∨ q = KK) w (w5.setCell ⟨KK, 0, none⟩ (.slice (some ⟨g, 0, none⟩) (ks.length + 1) cap)) := Kp.trans (k5.mono (fun _ _ e => by rcases e with e | e | e <;> simp [e])) k6' (fun _ _ e => by have : _ = KK := e; simp [this])
  have n1 : ∀ q, w0.heap.size ≤ q → ¬ XK KK M mb kv q → ¬ (q = sb ∨ q = mb ∨ kv.ownBlock = some q ∨ q = KK) := fun q hq hx e => by
    rcases e with e | e | e | e
    · omega
    · exact hx (.inr (.inr (.inl e)))
    · exact hx (.inr (.inr (.inr e)))
    · exact hx (.inl e)
  obtain ⟨rv, eK, vl, ho, -⟩ := h'.row
  have nsb : sb ≠ KK := fun e => by have := h.hKK; omega
  have nsm : sb ≠ mb := fun e => by have := h.hmb; omega
  have nvs : kv.ownBlock ≠ some sb := fun e => by have := (owns_geW h.kr _ e).1; omega
  refine ⟨.slice (some ⟨g, 0, none⟩) (ks.length + 1) cap, ⟨?_, ?_, ?_, ?_, h.hKK, h.hM, h.hmb⟩, h'.keepX k6 ?_ ?_ (n1 K h'.hK (h.off eK (by decide) (by decide) (by decide))) (n1 P h'.hP (h.off h'.pc (by decide) (by decide) (by decide))) ?_ n1 ?_ ?_⟩
  · have e5 : w5.heap[KK]? = some (.cells #[kv] 22 (0, 0)) := k5.heap h.kc (fun e => by
      rcases e with e | e | e
      · exact nsb e.symm
      · exact hKKm e
      · exact hvKK e)
    exact set_blkB e5 0 _
  · rw [strv_snoc, List.length_append]
    exact k6'.owns hown (fun q hq e => hgK (by have h1 : some g = some q := hq; injection h1 with h1; have : q = KK := e; omega))
  · exact k6.heap h.mc (fun e => by
      rcases e with e | e | e | e
      · have := h.hM; omega
      · exact hMm e
      · exact hvM e
      · exact hKM e.symm)
  · rw [List.length_append]
    exact ((hm.below bz).keep k5' hvm).keep k6' (fun e => hKKm e.symm)
  · exact ((hr.below bz).keep k5' nvs).keep k6' nsb
  · refine h'.es.keep k6 (fun e => ?_)
    rcases e with e | e | e | e
    · exact h'.ne e.symm
    · have := h.hmb; omega
    · have := (owns_geW h.kr _ e).1; omega
    · have := h.hKK; omega
  · intro q c hq
    by_cases hqs : q = sb
    · subst hqs
      exact absurd (cells_tyB hq h'.src) (by decide)
    · have := h.off hq (by decide) (by decide) (by decide)
      rintro (e | e | e | e)
      · exact hqs e
      · exact this (.inr (.inr (.inl e)))
      · exact this (.inr (.inr (.inr e)))
      · exact this (.inl e)
  · rintro q hq hx (e | e | e | e)
    · exact hx (.inl e)
    · exact hx (.inr (.inl e))
    · exact hx (.inr (.inr (.inl e)))
    · refine hgX q hq (fun e' => hx (.inr (.inr (.inr e')))) ?_
      have : some g = some q := e
      injection this with this
      exact this.symm
  · refine Kp.trans h'.ow k6 (fun q hq e => ?_)
    rcases e with e | e | e | e
    · exact e
    · have := h.hmb; omega
    · have := (owns_geW h.kr _ e).1; omega
    · have := h.hKK; omega
/-- A kid is put behind the others. -/
theorem PS.kid {w0 : World} {sb KK K P M mb : Nat} {s : ByteArray} {dd : Int} {w : World} {ks : List (List UInt8)} {kids : List J} {l t : List UInt8} {kv : Value} (h : KS w0 KK M mb w kv ks) (h' : LS w0 sb K P (XK KK M mb kv) s dd w kids l)
    {rv : Value} {vl : List Five} (eK : w.heap[K]? = some (.cells #[rv] 23 (0, 0)))
    (ho : w.ownsRow w0.heap.size 25 5 rv kids.length (vl.flatMap fiveL)) (hl : vl.length = kids.length) (hk : ∀ (i : Nat) (j : J), kids[i]? = some j → ∃ f, vl[i]? = some f ∧ IsX w (fun q => w0.heap.size ≤ q ∧ q ≠ K ∧ q ≠ P ∧ rv.ownBlock ≠ some q ∧ ¬ XK KK M mb kv q) (fiveV f) j)
    {w3 w5 w6 : World} {f : Five} {j : J} {g cap : Nat} {xs : List Value} (k3 : Ow sb w w3) (hx : IsX w3 (fun q => w.heap.size ≤ q) (fiveV f) j) (hr : RawS w3 sb s (pos s t) dd)
    (hown : w5.ownsRow w0.heap.size 25 5 (.slice (some ⟨g, 0, none⟩) (kids.length + 1) cap) (kids.length + 1) xs) (hgrow : w3.grownBy w5 rv.ownBlock) (hat : rv.ownBlock = some g ∨ g = w3.heap.size)
    (k6 : Kp (fun q => q = g ∨ q = K) w5 w6) (e6 : w6.heap[K]? = some (.cells #[.slice (some ⟨g, 0, none⟩) (kids.length + 1) cap] 23 (0, 0)))
    (o6 : w6.ownsRow w0.heap.size 25 5 (.slice (some ⟨g, 0, none⟩) (kids.length + 1) cap) (kids.length + 1) (vl.flatMap fiveL ++ fiveL f)) : PS w0 sb KK K P M mb s dd w6 (ks, kids ++ [j]) t := by
  refine ⟨kv, ?_, h'.put h.lt eK ho hl hk k3 hx hr hown hgrow hat k6 e6 o6⟩
  have k35 : Kp (fun q => rv.ownBlock = some q) w3 w5 := Kp.grown (Kp.refl _ w3) hgrow (fun k hk _ => hk)
  have s3 := k3.size
  refine ((h.keep k3 (fun q hq e => LS.srcOff h h' (by have : q = sb := e; rwa [← this]))).keep k35 (fun q hq e => ?_)).keep k6 (fun q hq e => ?_)
  · obtain ⟨-, c, hc⟩ := own_tyB ho e
    exact h.off hc (by decide) (by decide) (by decide) hq
  · rcases e with e | e
    · rcases hat with h3 | h3
      · obtain ⟨-, c, hc⟩ := own_tyB ho h3
        exact h.off hc (by decide) (by decide) (by decide) (e ▸ hq)
      · have := h.lt q hq; omega
    · exact h.off eK (by decide) (by decide) (by decide) (e ▸ hq)
end Go.Proofs.YthdbnafiindgbaaGreatDoor
