/- What edited makes of a rope. -/
import Derived.Test.YtopeagigdgjchaaDoorUa
import Derived.Test.YtopeagigdgjchaaDoorRRc
import Derived.Test.YtopeagigdgjchaaDoorHa
namespace Go.Proofs.YtopeagigdgjchaaDoor
open Go.RowKit Go.Shelf
open EM
attribute [local go_sem] Oper.semAt_some

theorem app_from (x : By) (a : Nat) (L : List Sp) (h : Ok a x.length L) : app x 0 L = x.take a ++ app x a L := by
  cases L with
  | nil => simp [app]
  | cons d L =>
    have h1 := h.1
    have e : x.take d.f = x.take a ++ (x.drop a).take (d.f - a) := by
      have := List.take_add (l := x) (i := a) (j := d.f - a)
      rw [show a + (d.f - a) = d.f by omega] at this
      exact this
    simp only [app, List.drop_zero, Nat.sub_zero, e, List.append_assoc]
theorem app_repl (x : By) (c : Sp) (L : List Sp) (a : Nat) (h : Ok a x.length (c :: L)) : app x 0 (c :: L) = Rp.repl (app x 0 L) c.s c.f c.t := by
  have h1 := h.2.1
  have h2 := h.2.2.le
  have e := app_from x c.t L h.2.2
  unfold Rp.repl
  rw [e, List.take_append_of_le_length (by simp; omega), List.take_take, Nat.min_eq_left h1, List.drop_append_of_le_length (by simp; omega)]
  simp [app]

/-- A world that keeps every rope. -/
def RK (w w' : World) : Prop := ∀ (k : Nat) (cs : Array Value) (t : TypeId), t = 71 ∨ t = 97 → w.heap[k]? = some (.cells cs t (0, 0)) → w'.heap[k]? = some (.cells cs t (0, 0))
theorem RK.tr {w w' : World} (hk : RK w w') (f : Nat) : ∀ {b : Nat} {l : List UInt8} {h : Nat}, Rp.Tr w f b l h → Rp.Tr w' f b l h := by
  induction f with
  | zero => intro b l h k; exact absurd k (fun k => k)
  | succ f ih =>
    intro b l h k
    rcases k with ⟨t, kn, r⟩ | ⟨bl, br, l1, l2, h1, h2, kn, e, hbd, hh, t1, t2⟩
    · exact Or.inl ⟨t, hk _ _ _ (.inr rfl) kn, r⟩
    · exact Or.inr ⟨bl, br, l1, l2, h1, h2, hk _ _ _ (.inr rfl) kn, e, hbd, hh, ih t1, ih t2⟩
theorem RK.ot {w w' : World} (hk : RK w w') {v : Option Addr} {l : List UInt8} (h : Rp.OT w v l) : Rp.OT w' v l := by
  rcases h with h | ⟨c, n, e, f, t⟩
  · exact .inl h
  · exact .inr ⟨c, n, e, f, hk.tr f t⟩
theorem RK.rope {w w' : World} (hk : RK w w') {r : Nat} {l : List UInt8} (h : Rp.IsR w r l) : Rp.IsR w' r l := by
  obtain ⟨v, h1, h2⟩ := h
  exact ⟨v, hk _ _ _ (.inl rfl) h1, hk.ot h2⟩
theorem RK.below {w w' : World} (h : Below w.heap.size w w') : RK w w' := fun k _ _ _ hk => (h.block k (heap_lt hk)).trans hk
theorem RK.grown {X Y : World} {row : Option Nat} (hg : X.grownBy Y row) (hr : ∀ r, row = some r → ∃ o : Obj, X.heap[r]? = some o ∧ o.isCells = false) : RK X Y := fun k cs t _ hk =>
  (hg.block k (heap_lt hk) (fun e => by
    obtain ⟨o, ho, hc⟩ := hr k e.symm
    rw [hk] at ho
    cases ho
    cases hc)).trans hk

theorem RK.set {W : World} {B : Nat} {t : TypeId} {v : Value} (h : Boxed W B t v) (h1 : t ≠ 71) (h2 : t ≠ 97) (u : Value) : RK W (W.setCell ⟨B, 0, none⟩ u) := fun k cs t' ht hk => by
  rw [Below.heap_setCell _ _ _ _ (fun e => ?_)]
  · exact hk
  · rw [show k = B from e, show W.heap[B]? = _ from h] at hk
    cases hk
    rcases ht with e | e
    · exact h1 e
    · exact h2 e
theorem Ok_drop {a n : Nat} {Ls : List Sp} (h : Ok a n Ls) (j : Nat) : ∃ b, Ok b n (Ls.drop j) := by
  induction j generalizing a Ls with
  | zero => exact ⟨a, by simpa using h⟩
  | succ j ih =>
    cases Ls with
    | nil => exact ⟨a, by simpa using h⟩
    | cons c L => simpa using ih h.2.2
theorem step_back {l : By} {Ls : List Sp} (hok : Ok 0 l.length Ls) {j : Nat} {c : Sp} (hj : Ls[j]? = some c) :
    c.f ≤ c.t ∧ c.t ≤ (app l 0 (Ls.drop (j + 1))).length ∧ Rp.repl (app l 0 (Ls.drop (j + 1))) c.s c.f c.t = app l 0 (Ls.drop j) := by
  have hlt : j < Ls.length := by
    rcases Nat.lt_or_ge j Ls.length with h | h
    · exact h
    · rw [List.getElem?_eq_none h] at hj; cases hj
  have hd : Ls.drop j = c :: Ls.drop (j + 1) := by
    rw [List.drop_eq_getElem_cons hlt]
    rw [List.getElem?_eq_getElem hlt] at hj
    cases hj
    rfl
  obtain ⟨b, hb⟩ := Ok_drop hok j
  rw [hd] at hb
  have h2 := hb.2.2.le
  refine ⟨hb.2.1, ?_, ?_⟩
  · rw [app_from l c.t _ hb.2.2, List.length_append, List.length_take]
    omega
  · rw [hd, app_repl l c _ b hb]
/-- What has come is what should. -/
def Rt (L : List Rw) (hL : smallL L) (pre : List Sx) : Prop := pre.length ≤ L.length ∧ pre = upto (nthB L hL) pre.length
theorem Rt.upto {L : List Rw} {hL : smallL L} {k : Nat} (hk : k ≤ L.length) : Rt L hL (upto (nthB L hL) k) := ⟨by rw [upto_length]; exact hk, by rw [upto_length]⟩
theorem Rt.snoc {Ls : List Sp} {L : List Rw} {hL : smallL L} (e : Ls.map raw = L) {pre : List Sx} {x : Sx} (h : Rt L hL (pre ++ [x])) :
    Rt L hL pre ∧ ∃ j c, Ls.length - pre.length = j + 1 ∧ Ls.length - (pre ++ [x]).length = j ∧ Ls[j]? = some c ∧ x.1.2 = raw c := by
  subst e
  obtain ⟨h1, h2⟩ := h
  have hl : (pre ++ [x]).length = pre.length + 1 := by simp
  rw [hl] at h1 h2
  rw [upto_succ] at h2
  rw [List.length_map] at h1
  obtain ⟨e1, e2⟩ := List.append_inj' h2 rfl
  refine ⟨⟨by rw [List.length_map]; omega, e1⟩, Ls.length - 1 - pre.length, ?_⟩
  have hlt : Ls.length - 1 - pre.length < Ls.length := by omega
  refine ⟨Ls[Ls.length - 1 - pre.length], by omega, by rw [hl]; omega, List.getElem?_eq_getElem hlt, ?_⟩
  have e3 : x = nthB (Ls.map raw) hL pre.length := by simpa using e2
  rw [e3]
  simp only [nthB, List.length_map]
  rw [List.getElem?_map, List.getElem?_eq_getElem hlt]
  rfl
theorem keepsFrom_below {B : Nat} {W W' : World} (h : Below W.heap.size W W') : KeepsFrom B W W' := ⟨h.size, fun k _ _ hk _ => (h.block k (heap_lt hk)).trans hk⟩

/-- What the rounds keep: a rope in its box, the results' boxes. -/
def EI (w : World) (l : By) (Ls : List Sp) (L : List Rw) (hL : smallL L) (M : Nat) (pre : List Sx) (W : World) : Prop :=
  (∃ q l', Boxed W w.heap.size 48 (.pointer (some ⟨q, 0, none⟩)) ∧ Rp.IsR W q l' ∧ l'.length ≤ l.length + pre.length * 1048576 ∧ (Rt L hL pre → l' = app l 0 (Ls.drop (Ls.length - pre.length)))) ∧
  Boxed W (w.heap.size + 1) 48 (.pointer none) ∧ Boxed W (w.heap.size + 1 + 1) 35 .nilIface ∧ Below w.heap.size w W ∧ M ≤ W.heap.size
theorem boxed_grown {X Y : World} {row : Option Nat} {B : Nat} {t : TypeId} {v : Value} (h : Boxed X B t v) (hg : X.grownBy Y row) (hr : ∀ r, row = some r → ∃ o : Obj, X.heap[r]? = some o ∧ o.isCells = false) : Boxed Y B t v :=
  boxed_own B t (fun (_ : Unit) => v) () X Y row h hg hr
theorem EI.own {w : World} {l : By} {Ls : List Sp} {L : List Rw} {hL : smallL L} {M B : Nat} (hB : w.heap.size ≤ B) : OwnFrom B (EI w l Ls L hL M) := by
  intro pre X Y row ⟨⟨q, l', b1, k, h1, h2⟩, b2, b3, hb, hM⟩ hg hr
  have hr' : ∀ r, row = some r → ∃ o : Obj, X.heap[r]? = some o ∧ o.isCells = false := fun r e => (hr r e).2
  exact ⟨⟨q, l', boxed_grown b1 hg hr', (RK.grown hg hr').rope k, h1, h2⟩, boxed_grown b2 hg hr', boxed_grown b3 hg hr',
    ownFrom_below (β := Unit) (Nat.le_refl _) hB () X Y row hb hg hr, Nat.le_trans hM hg.size⟩
set_option maxRecDepth 100000 in
set_option maxHeartbeats 2000000 in
theorem edited_yes (r : Nat) (l : By) (v : Value) (Ls : List Sp) (w : World) (hT : Rp.Tabs w) (kr : Rp.IsR w r l) (hv : IsL w v (Ls.map raw)) (hok : Ok 0 l.length Ls) (hs : l.length ≤ 1073741824) (hLl : Ls.length ≤ 1048576) (hLs : smallL (Ls.map raw)) :
    Calls Tryd.prog 20 #[.pointer (some ⟨r, 0, none⟩), v] w fun e w' => ∃ q, e = .returned (.tuple #[.pointer (some ⟨q, 0, none⟩), .nilIface]) ∧ Rp.IsR w' q (app l 0 Ls) ∧ Below w.heap.size w w' := by
  refine (callsIn_wide (n := 3)).1 ?_
  have HF := hide (flt_Ok hok)
  have hLn : (Ls.map raw).length = Ls.length := List.length_map ..
  obtain ⟨L, hL⟩ : ∃ L, Ls.map raw = L := ⟨_, rfl⟩
  rw [hL] at hv HF hLn
  have HV := hide hv
  obtain ⟨ao, cap, rfl, hcap, hlen, hcm, hx⟩ := hv
  clear hx
  have HLn := hide hLn
  have HL := hide hL
  have hll : L.length ≤ 1048576 := by omega
  clear hL hLn
  refine callsIn_of_wp_marks Tryd.func20 rfl trivial ?_ rfl
  simp only [Tryd.ntmps20, List.size_toArray, List.length_cons, List.length_nil, Nat.reduceAdd, Nat.reduceSub, Array.replicate_succ, Array.replicate_zero, List.push_toArray, List.append_toArray, List.nil_append, List.cons_append]
  gi_wp2_with fail
  have HOK := hide hok
  have HLS := hide hLs
  obtain ⟨W0, hW0⟩ : ∃ W0, ((w.alloc (.cells #[.pointer (some ⟨r, 0, none⟩)] 48)).alloc (.cells #[.pointer none] 48)).alloc (.cells #[.nilIface] 35) = W0 := ⟨_, rfl⟩
  have b0 : Boxed W0 w.heap.size 48 (.pointer (some ⟨r, 0, none⟩)) := by rw [← hW0]; exact ((Boxed.new w 48 _).alloc _).alloc _
  have b1 : Boxed W0 (w.heap.size + 1) 48 (.pointer none) := by
    rw [← hW0]
    have := (Boxed.new (w.alloc (.cells #[.pointer (some ⟨r, 0, none⟩)] 48)) 48 (.pointer none)).alloc (.cells #[.nilIface] 35)
    rwa [World.size_alloc] at this
  have b2 : Boxed W0 (w.heap.size + 1 + 1) 35 .nilIface := by
    rw [← hW0]
    have := Boxed.new ((w.alloc (.cells #[.pointer (some ⟨r, 0, none⟩)] 48)).alloc (.cells #[.pointer none] 48)) 35 .nilIface
    rwa [World.size_alloc, World.size_alloc] at this
  have hB0 : Below w.heap.size w W0 := by rw [← hW0]; exact (((Below.refl _ w).alloc (Nat.le_refl _) _).alloc (by simp) _).alloc (by simp; omega) _
  have hz0 : W0.heap.size = w.heap.size + 3 := by rw [← hW0]; simp
  rw [hW0]
  clear hW0
  have HK := hide kr
  clear hok kr
  refine ⟨trivial, (callsIn_wide.2 (Rp.len_any r l W0 ((HK.out).below hB0))).mono ?_⟩
  rintro e w1 ⟨rfl, hb1⟩
  gi_wp2_with fail
  have B1 : Below w.heap.size w w1 := hB0.trans (hb1.mono hB0.size)
  refine ⟨trivial, (callsIn_wide.2 (fault_any l.length _ L w1 ((HV.out).below B1))).mono ?_⟩
  rintro e w2 ⟨rfl, hb2⟩
  have B2 : Below w.heap.size w w2 := B1.trans (hb2.mono B1.size)
  have B02 : Below W0.heap.size W0 w2 := hb1.trans (hb2.mono hb1.size)
  rw [HF.out, show errV 0 = .nilIface from rfl]
  gi_wp2_with fail
  refine ⟨trivial, (callsIn_wide.2 (back_any ao _ cap w2)).mono ?_⟩
  rintro e w3 ⟨rfl, hw3⟩
  gi_wp2_with fail
  clear hw3 w3
  have hsl : smallL L := by rw [← HL.out]; exact HLS.out
  have hz2 := B02.size
  have c0 : Boxed w2 w.heap.size 48 (.pointer (some ⟨r, 0, none⟩)) := (B02.block _ (by omega)).trans b0
  have c1 : Boxed w2 (w.heap.size + 1) 48 (.pointer none) := (B02.block _ (by omega)).trans b1
  have c2 : Boxed w2 (w.heap.size + 1 + 1) 35 .nilIface := (B02.block _ (by omega)).trans b2
  have hBA : Below w2.heap.size w2 (w2.alloc (.cells #[.slice ao L.length cap] 30)) := (Below.refl _ _).alloc (Nat.le_refl _) _
  have hB3 : Below w.heap.size w (w2.alloc (.cells #[.slice ao L.length cap] 30)) := B2.alloc B2.size _
  have bN := Boxed.new w2 30 (.slice ao L.length cap)
  have hI0 : EI w l Ls L hsl (w2.heap.size + 1) [] (w2.alloc (.cells #[.slice ao L.length cap] 30)) :=
    ⟨⟨r, l, c0.alloc _, (HK.out).below hB3, by simp, fun _ => by simp [app]⟩, c1.alloc _, c2.alloc _, hB3, by simp⟩
  have HI0 := hide hI0
  have hvl : ∀ b o, ao = some ⟨b, o, none⟩ → L.length ≠ 0 → b < w.heap.size := by
    intro b o e hne
    obtain ⟨b', o', _, e', _, _, _, _, hb⟩ := (HV.out).get (Below.refl _ _) (show 0 < L.length by omega)
    rw [e] at e'
    cases e'
    exact hb
  have HVA := hide ((HV.out).below hB3)
  have hsz3 : (w2.alloc (.cells #[.slice ao L.length cap] 30)).heap.size = w2.heap.size + 1 := by simp
  obtain ⟨W3, hW3⟩ : ∃ W3, w2.alloc (.cells #[.slice ao L.length cap] 30) = W3 := ⟨_, rfl⟩
  rw [hW3] at HI0 bN hB3 HVA hsz3 ⊢
  clear hI0 hBA hW3
  refine wpIn_rangeFunc_ownH (F := Fence.wide) (n := 3) rfl (by omega) (gf := 43) (lb := #[.pointer (some ⟨w2.heap.size, 0, none⟩)]) rfl trivial (enters_of Tryd.func43 (by kernel_rfl) rfl)
    (back_stops Fence.wide (3 - 1) trivial rfl (by omega) w2.heap.size w.heap.size cap ao L hsl hll W3 bN HVA.out hvl) KB.trans (KB.put (by omega) (by omega)) (Below.refl _ _) (fun _ => rfl)
    (EI w l Ls L hsl (w2.heap.size + 1)) (fun _ pre _ => ¬ Rt L hsl pre) (EI.own (by omega)) (fun _ _ _ _ _ hs _ _ => hs) HI0.out
    (fun x a' W => ∃ Bx, w.heap.size + 2 < Bx ∧ W.heap[Bx]? = some (.cells #[.int .i64 x.1.2.f, .int .i64 x.1.2.t, .string x.1.2.s] 60 (0, 0)) ∧
      a' = { tmps := #[.pointer (some ⟨r, 0, none⟩), .slice ao L.length cap, .pointer (some ⟨w.heap.size, 0, none⟩), undef, .pointer (some ⟨w.heap.size + 1, 0, none⟩), .pointer (some ⟨w.heap.size + 1 + 1, 0, none⟩), .nilIface, undef, .pointer (some ⟨Bx, 0, none⟩), undef, undef,
          .pointer (some ⟨r, 0, none⟩), .int .i64 (List.length l), .slice ao L.length cap, .nilIface, .nilIface, .bool false, undef, .slice ao L.length cap, .func (.func 43) #[] #[.pointer (some ⟨w2.heap.size, 0, none⟩)],
          .int .i64 (x.1.1 : Int), .agg #[.int .i64 x.1.2.f, .int .i64 x.1.2.t, .string x.1.2.s], undef, undef, undef, undef, undef, undef, undef, undef, undef, undef, undef, undef, undef, undef, undef, undef], defers := [] })
    (fun x a' _ X Y row hs hg hr => by
      obtain ⟨Bx, h1, h2, h3⟩ := hs
      refine ⟨Bx, h1, (hg.block Bx (heap_lt h2) (fun e => ?_)).trans h2, h3⟩
      obtain ⟨o, ho, hc⟩ := (hr Bx e.symm).2
      rw [h2] at ho
      cases ho
      cases hc)
    ?assign ?body ?done ?stop
  case assign =>
    rintro lp pre x W K ⟨⟨q, lq, bq, kq, hq1, hq2⟩, bb1, bb2, hBW, hM⟩ hK
    unfold encS
    gi_wp2
    have hA : Below W.heap.size W (W.alloc (.cells #[.int .i64 x.1.2.f, .int .i64 x.1.2.t, .string x.1.2.s] 60)) := (Below.refl _ _).alloc (Nat.le_refl _) _
    have hlt := bb2.lt
    have hlW := hBW.size
    exact hK _ _ (keepsFrom_below hA) ⟨hA.mono hlW, hA.block _ (by omega)⟩ ⟨⟨q, lq, bq.alloc _, kq.below hA, hq1, hq2⟩, bb1.alloc _, bb2.alloc _, hBW.trans (hA.mono hlW), Nat.le_trans hM hA.size⟩ ⟨W.heap.size, by omega, heap_alloc_new W _, rfl⟩
  case body =>
    rintro lp pre x a' W hlp ⟨rec, hrec⟩ ⟨⟨q, lq, bq, kq, hq1, hq2⟩, bb1, bb2, hBW, hM⟩ ⟨Bx, hBx, bX, rfl⟩ hlt
    have d0 := bq.cell
    have x0 : W.cell? ⟨Bx, 0, none⟩ = some (.int .i64 x.1.2.f) := by simp [World.cell?, bX]
    have x1 : W.cell? ⟨Bx, 1, none⟩ = some (.int .i64 x.1.2.t) := by simp [World.cell?, bX]
    have x2 : W.cell? ⟨Bx, 2, none⟩ = some (.string x.1.2.s) := by simp [World.cell?, bX]
    have hlW := hBW.size
    have hlq : lq.length ≤ 562949953421312 := by
      have : pre.length * 1048576 ≤ 1048576 * 1048576 := Nat.mul_le_mul_right _ (by omega)
      omega
    have hT' := hT.below hBW
    have hxs := x.2
    have HX := hide hq2
    have HQ := hide (And.intro hq1 hxs)
    have HKQ := hide kq
    have HTT := hide hT'
    clear hq2 hq1 kq hT' hxs
    cases hh : Rp.hasB lq.length x.1.2.f x.1.2.t with
    | false =>
      have HH := hide hh
      clear hh
      gi_wp2_with fail
      refine ⟨trivial, (CallsIn.inRound lp (callsIn_wide.2 (Rp.replace_no q lq x.1.2.f x.1.2.t x.1.2.s W HKQ.out HH.out))).mono ?_⟩
      rintro e W1 ⟨rfl, hb1⟩
      have y1 : Boxed W1 (w.heap.size + 1) 48 (.pointer none) := (hb1.block _ bb1.lt).trans bb1
      have y2 : Boxed W1 (w.heap.size + 1 + 1) 35 .nilIface := (hb1.block _ bb2.lt).trans bb2
      have g1 := y1.cell
      have g2 := y2.cell
      have g3 := y1.frozen
      have g4 := y2.frozen
      gi_wp2
      refine ⟨(keepsFrom_below hb1).trans (((KeepsOthers.setCell _ _ _).from _).trans ((KeepsOthers.setCell _ _ _).from _)), fun hrt => ?_⟩
      obtain ⟨h1, j, c, e1, e2, e3, e4⟩ := hrt.snoc HL.out
      have el := HX.out h1
      rw [e1] at el
      obtain ⟨s1, s2, _⟩ := step_back HOK.out e3
      rw [← el] at s2
      have := HH.out
      rw [e4] at this
      have g : ¬ ((0 : Int) ≤ (c.f : Int) ∧ (c.f : Int) ≤ (c.t : Int) ∧ (c.t : Int) ≤ (lq.length : Int)) := of_decide_eq_false this
      omega
    | true =>
      have hh' : 0 ≤ x.1.2.f ∧ x.1.2.f ≤ x.1.2.t ∧ x.1.2.t ≤ (lq.length : Int) := by simpa [Rp.hasB] using hh
      obtain ⟨f, hf⟩ := Int.eq_ofNat_of_zero_le hh'.1
      obtain ⟨t, ht⟩ := Int.eq_ofNat_of_zero_le (by omega : 0 ≤ x.1.2.t)
      have hft : f ≤ t := by omega
      have htl : t ≤ lq.length := by omega
      have HFT := hide (And.intro hf ht)
      clear hh hh'
      rw [hf, ht]
      rw [hf] at x0
      rw [ht] at x1
      clear hf ht
      gi_wp2_with fail
      refine ⟨trivial, (CallsIn.inRound lp (callsIn_wide.2 (Rp.replace_yes q lq f t x.1.2.s W HTT.out HKQ.out hft htl hlq (by have := (HQ.out).2; omega)))).mono ?_⟩
      rintro e W1 ⟨q', rfl, kq', hb1⟩
      have HKQ' := hide kq'
      clear kq'
      have y0 : Boxed W1 w.heap.size 48 (.pointer (some ⟨q, 0, none⟩)) := (hb1.block _ bq.lt).trans bq
      have y1 : Boxed W1 (w.heap.size + 1) 48 (.pointer none) := (hb1.block _ bb1.lt).trans bb1
      have y2 : Boxed W1 (w.heap.size + 1 + 1) 35 .nilIface := (hb1.block _ bb2.lt).trans bb2
      have g1 := y0.cell
      have g3 := y0.frozen
      gi_wp2
      have hbW : Below w.heap.size W W1 := hb1.mono hlW
      have hz1 := hb1.size
      refine ⟨(keepsFrom_below hb1).trans ((KeepsOthers.setCell _ _ _).from _), ⟨hbW.setCell (p := ⟨w.heap.size, 0, none⟩) (Nat.le_refl _) _, ?_⟩, ⟨q', _, y0.set _, (RK.set y0 (by decide) (by decide) _).rope HKQ'.out, ?_, fun hrt => ?_⟩, y1.other (by omega) _, y2.other (by omega) _, (hBW.trans hbW).setCell (p := ⟨w.heap.size, 0, none⟩) (Nat.le_refl _) _, ?_⟩
      · rw [Below.heap_setCell _ _ _ _ (by show w2.heap.size ≠ w.heap.size; omega)]
        exact hb1.block _ (by omega)
      · rw [Rp.repl_len hft htl, Rp.bs_len, List.length_append, List.length_singleton, Nat.add_mul]
        have := (HQ.out).1
        have := (HQ.out).2
        omega
      · obtain ⟨h1, j, c, e1, e2, e3, e4⟩ := hrt.snoc HL.out
        have el := HX.out h1
        rw [e1] at el
        obtain ⟨s1, s2, s3⟩ := step_back HOK.out e3
        rw [e2, ← s3, el]
        have e5 := (HFT.out).1
        have e6 := (HFT.out).2
        rw [e4] at e5 e6
        have e7 : c.f = f := Int.ofNat_inj.1 e5
        have e8 : c.t = t := Int.ofNat_inj.1 e6
        have e9 : Rp.bs x.1.2.s = c.s := by rw [e4]; exact bs_ba c.s
        rw [e7, e8, e9]
      · simp only [World.setCell, Array.size_modify]; omega
  case done =>
    rintro D ys W hD rfl ⟨⟨q, lq, bq, kq, hq1, hq2⟩, bb1, bb2, hBW, hM⟩ hK
    have d0 := bq.cell
    have d1 := bb1.cell
    have d2 := bb2.cell
    have f1 := bb1.frozen
    have f2 := bb2.frozen
    gi_wp2
    have hK' := ((KeepsOthers.setCell W ⟨w.heap.size + 1, 0, none⟩ (.pointer (some ⟨q, 0, none⟩))).trans (KeepsOthers.setCell _ ⟨w.heap.size + 1 + 1, 0, none⟩ .nilIface)).same D _ hK rfl
    refine ⟨by simp, .inl ⟨_, _, rfl, run_takeDeferred hK', ?_⟩⟩
    have y1 := (bb1.set (.pointer (some ⟨q, 0, none⟩))).other (B' := w.heap.size + 1 + 1) (by omega) .nilIface
    have y2 := (bb2.other (B' := w.heap.size + 1) (by omega) (.pointer (some ⟨q, 0, none⟩))).set .nilIface
    have r1 := cell_kept y1.cell (grownBy_putObj' _ D (.deferred none)) (fun r e => by cases e; exact ⟨_, hK', rfl⟩)
    have r2 := cell_kept y2.cell (grownBy_putObj' _ D (.deferred none)) (fun r e => by cases e; exact ⟨_, hK', rfl⟩)
    have rk1 : RK W (W.setCell ⟨w.heap.size + 1, 0, none⟩ (.pointer (some ⟨q, 0, none⟩))) := RK.set bb1 (by decide) (by decide) _
    have rk2 : RK (W.setCell ⟨w.heap.size + 1, 0, none⟩ (.pointer (some ⟨q, 0, none⟩))) ((W.setCell ⟨w.heap.size + 1, 0, none⟩ (.pointer (some ⟨q, 0, none⟩))).setCell ⟨w.heap.size + 1 + 1, 0, none⟩ .nilIface) := RK.set (bb2.other (B' := w.heap.size + 1) (by omega) _) (by decide) (by decide) _
    have rk3 := RK.grown (grownBy_putObj' ((W.setCell ⟨w.heap.size + 1, 0, none⟩ (.pointer (some ⟨q, 0, none⟩))).setCell ⟨w.heap.size + 1 + 1, 0, none⟩ .nilIface) D (.deferred none)) (fun r e => by cases e; exact ⟨_, hK', rfl⟩)
    have kq' := rk3.rope (rk2.rope (rk1.rope kq))
    have el := hq2 (Rt.upto (Nat.le_refl _))
    rw [upto_length, HLn.out, Nat.sub_self, List.drop_zero] at el
    rw [el] at kq'
    refine ⟨.tuple #[.pointer (some ⟨q, 0, none⟩), .nilIface], ?_, q, rfl, kq', ?_⟩
    · simp [results, Tryd.f20, go_sem, r1, r2]
    · exact ((hBW.setCell (p := ⟨w.heap.size + 1, 0, none⟩) (by simp) _).setCell (p := ⟨w.heap.size + 1 + 1, 0, none⟩) (by simp; omega) _).trans (belowK_b (w := w) (Nat.le_refl _) _ D _ _ (by omega) hK' rfl rfl)
  case stop =>
    rintro D c pre W _ ⟨k, hk, rfl⟩ h _
    exact absurd (Rt.upto hk) h
set_option maxRecDepth 100000 in
set_option maxHeartbeats 2000000 in
theorem edited_no (r : Nat) (l : By) (v : Value) (L : List Rw) (w : World) (kr : Rp.IsR w r l) (hv : IsL w v L) (hf : flt l.length L ≠ 0) :
    Calls Tryd.prog 20 #[.pointer (some ⟨r, 0, none⟩), v] w fun e w' => e = .returned (.tuple #[.pointer none, .iface 64 (.int .i64 (flt l.length L))]) ∧ Below w.heap.size w w' := by
  refine (callsIn_wide (n := 3)).1 ?_
  have HV := hide hv
  obtain ⟨ao, cap, rfl, hcap, hlen, hcm, hx⟩ := hv
  clear hx
  have HF := hide hf
  clear hf
  refine callsIn_of_wp_marks Tryd.func20 rfl trivial ?_ rfl
  simp only [Tryd.ntmps20, List.size_toArray, List.length_cons, List.length_nil, Nat.reduceAdd, Nat.reduceSub, Array.replicate_succ, Array.replicate_zero, List.push_toArray, List.append_toArray, List.nil_append, List.cons_append]
  gi_wp2_with fail
  obtain ⟨W0, hW0⟩ : ∃ W0, ((w.alloc (.cells #[.pointer (some ⟨r, 0, none⟩)] 48)).alloc (.cells #[.pointer none] 48)).alloc (.cells #[.nilIface] 35) = W0 := ⟨_, rfl⟩
  have b1 : Boxed W0 (w.heap.size + 1) 48 (.pointer none) := by
    rw [← hW0]
    have := (Boxed.new (w.alloc (.cells #[.pointer (some ⟨r, 0, none⟩)] 48)) 48 (.pointer none)).alloc (.cells #[.nilIface] 35)
    rwa [World.size_alloc] at this
  have b2 : Boxed W0 (w.heap.size + 1 + 1) 35 .nilIface := by
    rw [← hW0]
    have := Boxed.new ((w.alloc (.cells #[.pointer (some ⟨r, 0, none⟩)] 48)).alloc (.cells #[.pointer none] 48)) 35 .nilIface
    rwa [World.size_alloc, World.size_alloc] at this
  have hB0 : Below w.heap.size w W0 := by rw [← hW0]; exact (((Below.refl _ w).alloc (Nat.le_refl _) _).alloc (by simp) _).alloc (by simp; omega) _
  have hz0 : W0.heap.size = w.heap.size + 3 := by rw [← hW0]; simp
  rw [hW0]
  clear hW0
  have HK := hide kr
  clear kr
  refine ⟨trivial, (callsIn_wide.2 (Rp.len_any r l W0 ((HK.out).below hB0))).mono ?_⟩
  rintro e w1 ⟨rfl, hb1⟩
  gi_wp2_with fail
  have B1 : Below w.heap.size w w1 := hB0.trans (hb1.mono hB0.size)
  refine ⟨trivial, (callsIn_wide.2 (fault_any l.length _ L w1 ((HV.out).below B1))).mono ?_⟩
  rintro e w2 ⟨rfl, hb2⟩
  have B2 : Below w.heap.size w w2 := B1.trans (hb2.mono B1.size)
  have B02 : Below W0.heap.size W0 w2 := hb1.trans (hb2.mono hb1.size)
  rw [show errV (flt l.length L) = .iface 64 (.int .i64 (flt l.length L)) from if_neg HF.out]
  obtain ⟨k, hk⟩ : ∃ k, flt l.length L = k := ⟨_, rfl⟩
  rw [hk]
  have HKK := hide hk
  clear hk
  have c1 : Boxed w2 (w.heap.size + 1) 48 (.pointer none) := (B02.block _ (by omega)).trans b1
  have c2 : Boxed w2 (w.heap.size + 1 + 1) 35 .nilIface := (B02.block _ (by omega)).trans b2
  have g1 := c1.cell
  have g2 := c2.cell
  have g3 := c1.frozen
  have g4 := c2.frozen
  gi_wp2_with fail
  have y1 := (c1.set (.pointer none)).other (B' := w.heap.size + 1 + 1) (by omega) (.iface 64 (.int .i64 k))
  have y2 := (c2.other (B' := w.heap.size + 1) (by omega) (.pointer none)).set (.iface 64 (.int .i64 k))
  have r1 := y1.cell
  have r2 := y2.cell
  refine ⟨.tuple #[.pointer none, .iface 64 (.int .i64 k)], ?_, by rw [HKK.out], ?_⟩
  · simp [results, Tryd.f20, go_sem, r1, r2]
  · exact (B2.setCell (p := ⟨w.heap.size + 1, 0, none⟩) (by simp) _).setCell (p := ⟨w.heap.size + 1 + 1, 0, none⟩) (by simp; omega) _
end Go.Proofs.YtopeagigdgjchaaDoor
