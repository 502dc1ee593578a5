/- Package syntax: every expression is read. -/
import Derived.Test.YtdipmfdhnplpaaaGreatDoorVq
import Derived.Test.YtdipmfdhnplpaaaGreatDoorVb
namespace Go.Proofs.YtdipmfdhnplpaaaGreatDoor
open Go.RowKit
open M
theorem pssz_app (l r : List X.Part) : X.pssz (l ++ r) = X.pssz l + X.pssz r := by
  induction l with
  | nil => show X.pssz r = 0 + X.pssz r; omega
  | cons p l ih => show X.psz p + X.pssz (l ++ r) = X.psz p + X.pssz l + X.pssz r; rw [ih]; omega
theorem pssz_one (p : X.Part) : X.pssz [p] = X.psz p := by show X.psz p + 0 = _; omega
theorem pssz_len (l : List X.Part) : l.length ≤ X.pssz l := by
  induction l with
  | nil => exact Nat.le_refl _
  | cons p l ih => show l.length + 1 ≤ X.psz p + X.pssz l; have := X.psz_pos p; omega
theorem pssz_mem (l : List X.Part) (p : X.Part) (h : p ∈ l) : X.psz p ≤ X.pssz l := by
  induction l with
  | nil => cases h
  | cons q l ih =>
    show _ ≤ X.psz q + X.pssz l
    rcases List.mem_cons.1 h with e | e
    · rw [e]; omega
    · have := ih e; omega
theorem psz_br (k : Nat) (l : List X.Part) : X.psz (.br k l) = 1 + X.pssz l := rfl
theorem expr_ok : ∀ (n : Nat) (p : X.Part), X.psz p ≤ n → X.psz p ≤ 268435456 → ExOk p
  | 0, p, h, _ => by have := X.psz_pos p; omega
  | n + 1, p, h, hM => by
    intro e i D rb ab ps w hr hw hi hD
    cases hr with
    | missing => exact xmissing_any D rb ab ps i w hw hi hD
    | lit k t x l qs _ hk ht =>
      rw [psz_br] at h hM
      have := pssz_len l
      exact xlit_any D rb ab l qs k t x ps i w hw hk ht (by omega) hi hD
    | var x l qs _ ht =>
      rw [psz_br] at h hM
      have := pssz_len l
      exact xvar_any D rb ab l qs x ps i w hw ht (by omega) hi hD
    | hole t x l qs _ ht =>
      rw [psz_br] at h hM
      have := pssz_len l
      exact xhole_any D rb ab l qs t x ps i w hw ht (by omega) hi hD
    | lett t1 m t2 t3 p1 p2 _ nm e1 e2 h1 hn h2 hv h3 hb =>
      rw [psz_br] at h hM
      have hl := pssz_len (t1 ++ (m ++ (t2 ++ ([p1] ++ (t3 ++ [p2])))))
      have q1 := pssz_mem (t1 ++ (m ++ (t2 ++ ([p1] ++ (t3 ++ [p2]))))) p1 (by simp)
      have q2 := pssz_mem (t1 ++ (m ++ (t2 ++ ([p1] ++ (t3 ++ [p2]))))) p2 (by simp)
      exact xlet_any D rb ab t1 m t2 t3 p1 p2 nm e1 e2 ps i w hw h1 hn h2 hv h3 hb (expr_ok n p1 (by omega) (by omega)) (expr_ok n p2 (by omega) (by omega)) (by omega) hi hD
    | ite l _ a b c hx =>
      rw [psz_br] at h hM
      have hl := pssz_len l
      exact xite_any D rb ab l a b c ps i w hw hx (fun q hq => expr_ok n q (by have := pssz_mem l q hq; omega) (by have := pssz_mem l q hq; omega)) (by omega) hi hD
    | fn t1 qs t2 p _ ns e h1 hn h2 hb =>
      rw [psz_br] at h hM
      have hl := pssz_len (t1 ++ ([X.Part.br 6 qs] ++ (t2 ++ [p])))
      have q1 := pssz_mem (t1 ++ ([X.Part.br 6 qs] ++ (t2 ++ [p]))) p (by simp)
      have q2 := pssz_mem (t1 ++ ([X.Part.br 6 qs] ++ (t2 ++ [p]))) (.br 6 qs) (by simp)
      rw [psz_br] at q2
      have hq := pssz_len qs
      exact xfun_any D rb ab t1 qs t2 p ns e ps i w hw h1 hn h2 hb (expr_ok n p (by omega) (by omega)) (by omega) (by omega) hi hD
    | bin p1 p2 t qs k x _ e1 e2 hl' ht hr2 =>
      rw [psz_br] at h hM
      have hl := pssz_len ([p1] ++ (t ++ [p2]))
      have q1 := pssz_mem ([p1] ++ (t ++ [p2])) p1 (by simp)
      have q2 := pssz_mem ([p1] ++ (t ++ [p2])) p2 (by simp)
      exact xbin_any D rb ab p1 p2 t qs k x e1 e2 ps i w hw hl' ht hr2 (expr_ok n p1 (by omega) (by omega)) (expr_ok n p2 (by omega) (by omega)) (by omega) hi hD
    | call p gs _ e es hc ha =>
      rw [psz_br] at h hM
      have q1 := pssz_mem ([p] ++ [X.Part.br 12 gs]) p (by simp)
      have q2 := pssz_mem ([p] ++ [X.Part.br 12 gs]) (.br 12 gs) (by simp)
      rw [psz_br] at q2
      have hq := pssz_len gs
      exact xcall_any D rb ab p gs e es ps i w hw hc ha (expr_ok n p (by omega) (by omega)) (fun q hq => expr_ok n q (by have := pssz_mem gs q hq; omega) (by have := pssz_mem gs q hq; omega)) (by omega) hi hD
    | list l _ es hx =>
      rw [psz_br] at h hM
      have hl := pssz_len l
      exact xlist_any D rb ab l es ps i w hw hx (fun q hq => expr_ok n q (by have := pssz_mem l q hq; omega) (by have := pssz_mem l q hq; omega)) (by omega) hi hD
    | group l _ e hx =>
      rw [psz_br] at h hM
      have hl := pssz_len l
      exact xgroup_any D rb ab l e ps i w hw hx (fun q hq => expr_ok n q (by have := pssz_mem l q hq; omega) (by have := pssz_mem l q hq; omega)) (by omega) hi hD
end Go.Proofs.YtdipmfdhnplpaaaGreatDoor
/- Package syntax: a `pub` and an `as`, which may be there. -/
namespace Go.Proofs.YtdipmfdhnplpaaaGreatDoor
open Go.RowKit
open M
namespace X
theorem tk0_one {t qs : List Part} {p : Part} (h : Tk0 t qs p) : Tk0 [p] [] p := ⟨rfl, fun q hq => (by cases hq), h.ne, h.ln⟩
theorem tk0_pz {t qs : List Part} {p : Part} (h : Tk0 t qs p) : pz t = pz qs + pz [p] := by rw [h.eq, pz_app]
theorem tkn_not {s : List UInt8} {t : List Part} (h : Tkn s t) : ∃ qs p, Tk0 t qs p ∧ ((∃ k y, p = .leaf k y ∧ y ≠ s) ∨ nk p ≠ 0) ∧ ¬ (∃ k, p = .leaf k s) := by
  rcases h with ⟨k, x, qs, h1, h2⟩ | ⟨m, rfl⟩
  · exact ⟨qs, _, h1.tk0, .inl ⟨k, x, rfl, h2⟩, fun ⟨k', e⟩ => by cases e; exact h2 rfl⟩
  · exact ⟨[], .miss m, ⟨rfl, fun q hq => (by cases hq), rfl, rfl⟩, .inr (by show (1 : Nat) ≠ 0; omega), fun ⟨k', e⟩ => by cases e⟩
end X
/-- What is left when a word was looked for: a token that comes next, in part passed. -/
structure Lf (w w' : World) (D : Nat → Prop) (rb ab : Nat) (t : List X.Part) (ps : List X.Part) (j : Nat) : Prop where
  ex : ∃ t' q' p' i', X.Tk0 t' q' p' ∧ IsRw w' D rb ab (t' ++ ps) i' ∧ i' + X.pz t' = j ∧ t'.length ≤ t.length
  kp : Kp (Sw rb ab) w w'
/-- A word that is not there. -/
theorem whas_no (D : Nat → Prop) (rb ab : Nat) (s : List UInt8) (t ps : List X.Part) (i : Nat) (w : World) (h : IsRw w D rb ab (t ++ ps) i) (ht : X.Tkn s t) (hi : i + X.pz (t ++ ps) ≤ 1073741824) (hpl : (t ++ ps).length ≤ 1073741824) (hDl : ∀ q, D q → q < w.heap.size) :
    Calls Tryz.prog 82 #[.pointer (some ⟨rb, 0, none⟩), .string (ba s)] w fun e w' => e = .returned (.bool false) ∧ Hid (Lf w w' D rb ab t ps (i + X.pz t)) := by
  obtain ⟨qs, p, h1, h2, h3⟩ := X.tkn_not ht
  refine (whas_any D rb ab t qs p ps i s w h h1 (.inr h2) hi hpl hDl).mono ?_
  rintro e w' ⟨-, H⟩
  obtain ⟨rfl, X1⟩ := H h3
  refine ⟨rfl, ⟨[p], [], p, i + X.pz qs, X.tk0_one h1, (X1.out).1, by rw [X.tk0_pz h1]; omega, ?_⟩, (X1.out).2⟩
  rw [h1.eq, List.length_append]
  exact Nat.le_add_left _ _
/-- A word that is there. -/
theorem whas_yes (D : Nat → Prop) (rb ab : Nat) (k : Nat) (s : List UInt8) (t qs ps : List X.Part) (i : Nat) (w : World) (h : IsRw w D rb ab (t ++ ps) i) (ht : X.Tk1 t k s qs) (hi : i + X.pz (t ++ ps) ≤ 1073741824) (hpl : (t ++ ps).length ≤ 1073741824) (hDl : ∀ q, D q → q < w.heap.size) :
    Calls Tryz.prog 82 #[.pointer (some ⟨rb, 0, none⟩), .string (ba s)] w fun e w' => e = .returned (.bool true) ∧ Hid (IsRw w' D rb ab ps (i + X.pz t) ∧ Kp (Sw rb ab) w w') := by
  refine (whas_any D rb ab t qs _ ps i s w h ht.tk0 (.inl ⟨k, rfl⟩) hi hpl hDl).mono ?_
  rintro e w' ⟨H, -⟩
  exact H ⟨k, rfl⟩
/-- A `pub`, if there is one, ahead of a token. -/
theorem wpub_any (D : Nat → Prop) (rb ab : Nat) (pb t ps : List X.Part) (pub : Bool) (i : Nat) (w : World) (h : IsRw w D rb ab (pb ++ (t ++ ps)) i) (hp : X.Pbp pb pub) (ht : X.Tkn X.sPub t) (hi : i + X.pz (pb ++ (t ++ ps)) ≤ 1073741824) (hpl : (pb ++ (t ++ ps)).length ≤ 1073741824) (hDl : ∀ q, D q → q < w.heap.size) :
    Calls Tryz.prog 82 #[.pointer (some ⟨rb, 0, none⟩), .string (ba X.sPub)] w fun e w' => e = .returned (.bool pub) ∧ Hid (Lf w w' D rb ab t ps (i + X.pz pb + X.pz t)) := by
  cases hp with
  | yes _ k qs h1 =>
    refine (whas_yes D rb ab k X.sPub pb qs (t ++ ps) i w h h1 hi hpl hDl).mono ?_
    rintro e w' ⟨rfl, X1⟩
    obtain ⟨qs', p', h2⟩ := ht.tkp.tk0
    exact ⟨rfl, ⟨t, qs', p', i + X.pz pb, h2, (X1.out).1, rfl, Nat.le_refl _⟩, (X1.out).2⟩
  | no =>
    exact whas_no D rb ab X.sPub t ps i w h ht hi hpl hDl
theorem Lf.pass {w w' : World} {D : Nat → Prop} {rb ab : Nat} {t ps : List X.Part} {j : Nat} (h : Lf w w' D rb ab t ps j) (hj : j + X.pz ps ≤ 1073741824) (hpl : (t ++ ps).length ≤ 1073741824) (hDl : ∀ q, D q → q < w'.heap.size) :
    Calls Tryz.prog 83 #[.pointer (some ⟨rb, 0, none⟩)] w' fun e w'' => ∃ a1 a2 a3 a4 a5 a6, e = .returned (.agg #[.int .i64 a1, .int .i64 a2, .string a3, .slice a4 a5 a6]) ∧ Hid (IsRw w'' D rb ab ps j ∧ Kp (Sw rb ab) w' w'') := by
  obtain ⟨t', q', p', i', x1, x2, x3, x4⟩ := h.ex
  refine (wpass_any D rb ab t' q' p' ps i' w' x2 x1 (by rw [X.pz_app]; omega) (by rw [List.length_append] at *; omega) hDl).mono ?_
  rintro e w'' ⟨a4, a5, a6, rfl, X1⟩
  rw [x3] at X1
  exact ⟨_, _, _, a4, a5, a6, rfl, X1⟩
end Go.Proofs.YtdipmfdhnplpaaaGreatDoor
/- Package syntax: a use. -/
namespace Go.Proofs.YtdipmfdhnplpaaaGreatDoor
open Go.RowKit
open M
/-- A block that was made while the kids of a node are gone through. -/
structure Bx (W0 W : World) (D : Nat → Prop) (kb ab : Nat) (ps : List X.Part) (i b : Nat) (o : Obj) : Prop where
  rw : IsRw W D kb ab ps i
  kp : Kp (Sw kb ab) W0 W
  bl : W.heap[b]? = some o
  nb : W0.heap.size ≤ b
  l1 : kb < W0.heap.size
  l2 : ab < W0.heap.size
  dl : ∀ q, D q → q < W0.heap.size
theorem Bx.go {W0 W W' : World} {D : Nat → Prop} {kb ab : Nat} {ps ps' : List X.Part} {i i' b : Nat} {o : Obj} (h : Bx W0 W D kb ab ps i b o) (hr : IsRw W' D kb ab ps' i') (hk : Kp (Sw kb ab) W W') : Bx W0 W' D kb ab ps' i' b o :=
  ⟨hr, h.kp.trans hk (fun _ _ e => e), hk.made h.l1 h.l2 h.nb h.bl, h.nb, h.l1, h.l2, h.dl⟩
theorem Bx.set {W0 W : World} {D : Nat → Prop} {kb ab : Nat} {ps : List X.Part} {i b : Nat} {o o' : Obj} (h : Bx W0 W D kb ab ps i b o) (k : Nat) (v : Value) (ho : (W.setCell ⟨b, k, none⟩ v).heap[b]? = some o') : Bx W0 (W.setCell ⟨b, k, none⟩ v) D kb ab ps i b o' := by
  have hk : Kp (fun q => q = b) W (W.setCell ⟨b, k, none⟩ v) := On.set (Kp.refl _ W) k _
  have h1 := h.l1
  have h2 := h.l2
  have h3 := h.nb
  refine ⟨h.rw.keep hk (by omega) (by omega) (fun q hq e => ?_), h.kp.trans hk (fun q hq e => by omega), ho, h.nb, h.l1, h.l2, h.dl⟩
  have := h.dl q hq
  omega
theorem set_cells {W : World} {b : Nat} {vs : Array Value} {ty : TypeId} (h : W.heap[b]? = some (.cells vs ty (0, 0))) (k : Nat) (v : Value) : (W.setCell ⟨b, k, none⟩ v).heap[b]? = some (.cells (vs.setIfInBounds k v) ty (0, 0)) := by simp [World.setCell, Array.getElem?_modify, h]
theorem Bx.put {W0 W : World} {D : Nat → Prop} {kb ab : Nat} {ps : List X.Part} {i b : Nat} {vs : Array Value} {ty : TypeId} (h : Bx W0 W D kb ab ps i b (.cells vs ty (0, 0))) (k : Nat) (v : Value) : Bx W0 (W.setCell ⟨b, k, none⟩ v) D kb ab ps i b (.cells (vs.setIfInBounds k v) ty (0, 0)) := h.set k v (set_cells h.bl k v)
theorem Bx.dn {W0 W : World} {D : Nat → Prop} {kb ab : Nat} {ps : List X.Part} {i b : Nat} {o : Obj} (h : Bx W0 W D kb ab ps i b o) : ∀ q, D q → q < W.heap.size := fun q hq => Nat.lt_of_lt_of_le (h.dl q hq) h.kp.size
theorem asp_or {ap : List X.Part} {i : Nat} {gs : Bool} {a : X.Nm} (h : X.Asp ap i gs a) : (∃ t n k qs, ap = t ++ n ∧ gs = true ∧ X.Tk1 t k X.sAs qs ∧ X.Nmp n (i + X.pz t) a) ∨ (ap = [] ∧ gs = false ∧ a = ([], 0)) := by
  cases h with
  | yes t n k qs _ _ h1 h2 => exact .inl ⟨t, n, k, qs, rfl, rfl, h1, h2⟩
  | no => exact .inr ⟨rfl, rfl, rfl⟩
/-- Items in memory. -/
inductive IsIt (w : World) (lo hi : Nat) : Value → X.It → Prop
  | use (b : Nat) (pub gs : Bool) (m n a : X.Nm) (hb : lo ≤ b ∧ b < hi) (h : w.heap[b]? = some (.cells #[.bool pub, .string (ba m.1), .int .i64 m.2, .string (ba n.1), .int .i64 n.2, .bool gs, .string (ba a.1), .int .i64 a.2] 144 (0, 0))) : IsIt w lo hi (.iface 94 (.pointer (some ⟨b, 0, none⟩))) (.use pub m n gs a)
  | dfn (b : Nat) (pub : Bool) (n : X.Nm) (pv : Value) (ps : Option (List X.Nm)) (v : Value) (e : X.Ex) (hb : lo ≤ b ∧ b < hi) (h : w.heap[b]? = some (.cells #[.bool pub, .string (ba n.1), .int .i64 n.2, pv, v] 157 (0, 0)))
      (hp : (ps = none ∧ pv = .pointer none) ∨ ∃ ns pb, ps = some ns ∧ pv = .pointer (some ⟨pb, 0, none⟩) ∧ IsPar w lo hi pb ns) (he : IsE w lo hi v e) : IsIt w lo hi (.iface 97 (.pointer (some ⟨b, 0, none⟩))) (.dfn pub n ps e)
set_option maxRecDepth 100000 in
set_option maxHeartbeats 4000000 in
theorem wuse_any (D : Nat → Prop) (rb ab : Nat) (pb t1 n1 t2 n2 ap t3 : List X.Part) (pub gs : Bool) (m n a : X.Nm) (ps : List X.Part) (i : Nat) (w : World) (h : IsRw w D rb ab (.br 3 (pb ++ (t1 ++ (n1 ++ (t2 ++ (n2 ++ (ap ++ t3)))))) :: ps) i)
    (hp : X.Pbp pb pub) (h1 : X.Tkn X.sPub t1) (hm : X.Nmp n1 (i + X.pz pb + X.pz t1) m) (h2 : X.Tkp t2) (hn : X.Nmp n2 (i + X.pz pb + X.pz t1 + X.pz n1 + X.pz t2) n) (ha : X.Asp ap (i + X.pz pb + X.pz t1 + X.pz n1 + X.pz t2 + X.pz n2) gs a) (h3 : X.Tkn X.sAs t3)
    (hi : i + X.pz (pb ++ (t1 ++ (n1 ++ (t2 ++ (n2 ++ (ap ++ t3)))))) ≤ 1073741824) (hpl : (pb ++ (t1 ++ (n1 ++ (t2 ++ (n2 ++ (ap ++ t3)))))).length ≤ 1073741824) (hDl : ∀ q, D q → q < w.heap.size) :
    Calls Tryz.prog 46 #[.pointer (some ⟨rb, 0, none⟩)] w fun e w' => ∃ b, e = .returned (.pointer (some ⟨b, 0, none⟩)) ∧ Hid (IsIt w' w.heap.size w'.heap.size (.iface 94 (.pointer (some ⟨b, 0, none⟩))) (.use pub m n gs a) ∧ IsRw w' D rb ab ps (i + X.pz (pb ++ (t1 ++ (n1 ++ (t2 ++ (n2 ++ (ap ++ t3))))))) ∧ Kp (Sw rb ab) w w') := by
  have hlt := hide h.lt
  obtain ⟨q2, r2, hT2⟩ := h2.tk0
  have hz : X.pz (pb ++ (t1 ++ (n1 ++ (t2 ++ (n2 ++ (ap ++ t3)))))) = X.pz pb + (X.pz t1 + (X.pz n1 + (X.pz t2 + (X.pz n2 + (X.pz ap + X.pz t3))))) := by rw [X.pz_app, X.pz_app, X.pz_app, X.pz_app, X.pz_app, X.pz_app]
  have HEn := hide (wenter_any D rb ab _ ps i w h (by show i + 0 ≤ _; omega) hDl)
  have HDl := hide hDl
  have HP := hide hp
  have HM := hide hm
  have HN := hide hn
  have HA := hide ha
  have H1 := hide h1
  have H3 := hide h3
  have hi' := hi
  have hpl' := hpl
  rw [hz] at hi
  simp only [List.length_append] at hpl
  clear h h1 h2 h3 hDl hn hm hp ha
  go_enter Tryz.func46, Tryz.ntmps46
  go_wp2_with fail
  refine (HEn.out).mono ?_
  rintro en w2 ⟨a4, a5, a6, rfl, X2⟩
  have HT : Hid (Ent w D rb ab ps _ i w2 (.slice a4 a5 a6)) := ent_of (X2.out) HDl.out
  clear HEn X2
  have HC1 := hide (wpub_any D w2.heap.size ab pb t1 _ pub i _ (HT.out).inn HP.out H1.out hi' hpl' (HT.out).dl)
  clear hi' hpl'
  go_wp2_with fail
  refine (HC1.out).mono ?_
  rintro en w3 ⟨rfl, X3⟩
  have kA : Below w3.heap.size w3 (w3.alloc (.cells #[.bool pub, .string ⟨#[]⟩, .int .i64 0, .string ⟨#[]⟩, .int .i64 0, .bool false, .string ⟨#[]⟩, .int .i64 0] 144)) := (Below.refl _ w3).alloc (Nat.le_refl _) _
  have kA' : Kp (Sw w2.heap.size ab) w3 (w3.alloc (.cells #[.bool pub, .string ⟨#[]⟩, .int .i64 0, .string ⟨#[]⟩, .int .i64 0, .bool false, .string ⟨#[]⟩, .int .i64 0] 144)) := Kp.ofBelow kA _
  have hL : Lf (w2.alloc (.cells #[.pointer (some ⟨ab, 0, none⟩), .slice a4 a5 a6] 124)) (w3.alloc (.cells #[.bool pub, .string ⟨#[]⟩, .int .i64 0, .string ⟨#[]⟩, .int .i64 0, .bool false, .string ⟨#[]⟩, .int .i64 0] 144)) D w2.heap.size ab t1 (n1 ++ (t2 ++ (n2 ++ (ap ++ t3)))) (i + X.pz pb + X.pz t1) := by
    obtain ⟨t', q', p', i', x1, x2, x3, x4⟩ := (X3.out).ex
    exact ⟨⟨t', q', p', i', x1, x2.below kA, x3, x4⟩, (X3.out).kp.trans kA' (fun _ _ e => e)⟩
  have hnw := (HT.out).inn.lt
  have hs3 := (X3.out).kp.size
  have HC4 := hide (hL.pass (by simp only [X.pz_app]; omega) (by simp only [List.length_append]; omega) (fun q hq => Nat.lt_of_lt_of_le ((HT.out).dl q hq) hL.kp.size))
  have HBx : Hid (∀ W' ps' i', IsRw W' D w2.heap.size ab ps' i' → Kp (Sw w2.heap.size ab) (w3.alloc (.cells #[.bool pub, .string ⟨#[]⟩, .int .i64 0, .string ⟨#[]⟩, .int .i64 0, .bool false, .string ⟨#[]⟩, .int .i64 0] 144)) W' → Bx (w2.alloc (.cells #[.pointer (some ⟨ab, 0, none⟩), .slice a4 a5 a6] 124)) W' D w2.heap.size ab ps' i' w3.heap.size (.cells #[.bool pub, .string ⟨#[]⟩, .int .i64 0, .string ⟨#[]⟩, .int .i64 0, .bool false, .string ⟨#[]⟩, .int .i64 0] 144 (0, 0))) := fun W' ps' i' hr' hk' =>
    ⟨hr', hL.kp.trans hk' (fun _ _ e => e), hk'.made hnw.1 hnw.2 hs3 (heap_alloc_new w3 _), hs3, hnw.1, hnw.2, (HT.out).dl⟩
  clear HC1 kA kA' hL X3
  go_wp2_with fail
  generalize w3.alloc (.cells #[.bool pub, .string ⟨#[]⟩, .int .i64 0, .string ⟨#[]⟩, .int .i64 0, .bool false, .string ⟨#[]⟩, .int .i64 0] 144) = W3 at *
  generalize w3.heap.size = b at *
  refine (HC4.out).mono ?_
  rintro en w4 ⟨_, _, _, _, _, _, rfl, X4⟩
  have B4 := hide ((HBx.out) _ _ _ (X4.out).1 (X4.out).2)
  clear HC4 HBx X4
  have HC5 := hide (wname_any D w2.heap.size ab n1 m _ _ w4 (B4.out).rw HM.out (by simp only [X.pz_app]; omega) (by simp only [List.length_append]; omega) (B4.out).dn)
  go_wp2_with fail
  refine (HC5.out).mono ?_
  rintro en w5 ⟨rfl, X5⟩
  have B5 := hide ((B4.out).go (X5.out).1 (X5.out).2)
  clear HC5 X5 B4
  have hb5 := (B5.out).bl
  have c5 := cell_of_row w5 _ 1 _ _ _ hb5
  have d5 := cell_of_row w5 _ 2 _ _ _ hb5
  have f5 : w5.frozen? ⟨b, 1, none⟩ = false := by simp [World.frozen?, hb5]
  have g5 : w5.frozen? ⟨b, 2, none⟩ = false := by simp [World.frozen?, hb5]
  have N5 : Hid (Bx (w2.alloc (.cells #[.pointer (some ⟨ab, 0, none⟩), .slice a4 a5 a6] 124)) ((w5.setCell ⟨b, 1, none⟩ (.string (ba m.1))).setCell ⟨b, 2, none⟩ (.int .i64 m.2)) D w2.heap.size ab _ _ b (.cells #[.bool pub, .string (ba m.1), .int .i64 m.2, .string ⟨#[]⟩, .int .i64 0, .bool false, .string ⟨#[]⟩, .int .i64 0] 144 (0, 0))) := ((B5.out).put 1 (.string (ba m.1))).put 2 (.int .i64 m.2)
  clear hb5 B5
  go_wp2_with fail
  clear c5 d5 f5 g5
  generalize (w5.setCell ⟨b, 1, none⟩ (.string (ba m.1))).setCell ⟨b, 2, none⟩ (.int .i64 m.2) = W5 at *
  have HC6 := hide (wpass_any D w2.heap.size ab t2 q2 r2 _ _ W5 (N5.out).rw hT2 (by simp only [X.pz_app]; omega) (by simp only [List.length_append]; omega) (N5.out).dn)
  refine (HC6.out).mono ?_
  rintro en w6 ⟨_, _, _, rfl, X6⟩
  have B6 := hide ((N5.out).go (X6.out).1 (X6.out).2)
  clear HC6 X6 N5
  have HC7 := hide (wname_any D w2.heap.size ab n2 n _ _ w6 (B6.out).rw HN.out (by simp only [X.pz_app]; omega) (by simp only [List.length_append]; omega) (B6.out).dn)
  go_wp2_with fail
  refine (HC7.out).mono ?_
  rintro en w7 ⟨rfl, X7⟩
  have B7 := hide ((B6.out).go (X7.out).1 (X7.out).2)
  clear HC7 X7 B6
  have hb7 := (B7.out).bl
  have c7 := cell_of_row w7 _ 3 _ _ _ hb7
  have d7 := cell_of_row w7 _ 4 _ _ _ hb7
  have f7 : w7.frozen? ⟨b, 3, none⟩ = false := by simp [World.frozen?, hb7]
  have g7 : w7.frozen? ⟨b, 4, none⟩ = false := by simp [World.frozen?, hb7]
  have N7 : Hid (Bx (w2.alloc (.cells #[.pointer (some ⟨ab, 0, none⟩), .slice a4 a5 a6] 124)) ((w7.setCell ⟨b, 3, none⟩ (.string (ba n.1))).setCell ⟨b, 4, none⟩ (.int .i64 n.2)) D w2.heap.size ab _ _ b (.cells #[.bool pub, .string (ba m.1), .int .i64 m.2, .string (ba n.1), .int .i64 n.2, .bool false, .string ⟨#[]⟩, .int .i64 0] 144 (0, 0))) := ((B7.out).put 3 (.string (ba n.1))).put 4 (.int .i64 n.2)
  clear hb7 B7
  go_wp2_with fail
  clear c7 d7 f7 g7
  generalize (w7.setCell ⟨b, 3, none⟩ (.string (ba n.1))).setCell ⟨b, 4, none⟩ (.int .i64 n.2) = W7 at *
  have ha := asp_or HA.out
  clear HA
  rcases ha with ⟨t, n', k, qs', eap, egs, hT, hn'⟩ | ⟨eap, egs, ea⟩
  · obtain ⟨q3, r3, hT3⟩ := (H3.out).tkp.tk0
    have hr7 := (N7.out).rw
    have hpa : X.pz ap = X.pz t + X.pz n' := by rw [eap, X.pz_app]
    have hla : ap.length = t.length + n'.length := by rw [eap, List.length_append]
    rw [eap, List.append_assoc] at hr7
    have HC8 := hide (whas_yes D w2.heap.size ab k X.sAs t qs' (n' ++ t3) _ W7 hr7 hT (by simp only [X.pz_app]; omega) (by simp only [List.length_append]; omega) (N7.out).dn)
    have HN' := hide hn'
    clear hr7 hn'
    refine (HC8.out).mono ?_
    rintro en w8 ⟨rfl, X8⟩
    have B8 := hide ((N7.out).go (X8.out).1 (X8.out).2)
    clear HC8 X8 N7
    have hb8 := (B8.out).bl
    have c8 := cell_of_row w8 _ 5 _ _ _ hb8
    have f8 : w8.frozen? ⟨b, 5, none⟩ = false := by simp [World.frozen?, hb8]
    have N8 : Hid (Bx (w2.alloc (.cells #[.pointer (some ⟨ab, 0, none⟩), .slice a4 a5 a6] 124)) (w8.setCell ⟨b, 5, none⟩ (.bool true)) D w2.heap.size ab _ _ b (.cells #[.bool pub, .string (ba m.1), .int .i64 m.2, .string (ba n.1), .int .i64 n.2, .bool true, .string ⟨#[]⟩, .int .i64 0] 144 (0, 0))) := (B8.out).put 5 (.bool true)
    have k8 : (w8.setCell ⟨b, 5, none⟩ (.bool true)).cell? ⟨b, 5, none⟩ = some (.bool true) := cell_of_row _ _ 5 _ _ _ (N8.out).bl
    clear hb8 B8
    have HC9 := hide (wname_any D w2.heap.size ab n' a _ _ _ (N8.out).rw HN'.out (by simp only [X.pz_app]; omega) (by simp only [List.length_append]; omega) (N8.out).dn)
    go_wp2_with fail
    clear c8 f8 k8
    generalize w8.setCell ⟨b, 5, none⟩ (.bool true) = W8 at *
    refine (HC9.out).mono ?_
    rintro en w9 ⟨rfl, X9⟩
    have B9 := hide ((N8.out).go (X9.out).1 (X9.out).2)
    clear HC9 X9 N8
    have hb9 := (B9.out).bl
    have c9 := cell_of_row w9 _ 6 _ _ _ hb9
    have d9 := cell_of_row w9 _ 7 _ _ _ hb9
    have f9 : w9.frozen? ⟨b, 6, none⟩ = false := by simp [World.frozen?, hb9]
    have g9 : w9.frozen? ⟨b, 7, none⟩ = false := by simp [World.frozen?, hb9]
    have N9 : Hid (Bx (w2.alloc (.cells #[.pointer (some ⟨ab, 0, none⟩), .slice a4 a5 a6] 124)) ((w9.setCell ⟨b, 6, none⟩ (.string (ba a.1))).setCell ⟨b, 7, none⟩ (.int .i64 a.2)) D w2.heap.size ab _ _ b (.cells #[.bool pub, .string (ba m.1), .int .i64 m.2, .string (ba n.1), .int .i64 n.2, .bool true, .string (ba a.1), .int .i64 a.2] 144 (0, 0))) := ((B9.out).put 6 (.string (ba a.1))).put 7 (.int .i64 a.2)
    clear hb9 B9
    go_wp2_with fail
    clear c9 d9 f9 g9
    generalize (w9.setCell ⟨b, 6, none⟩ (.string (ba a.1))).setCell ⟨b, 7, none⟩ (.int .i64 a.2) = W9 at *
    have hr9 := (N9.out).rw
    rw [← List.append_nil t3] at hr9
    have HC10 := hide (wpass_any D w2.heap.size ab t3 q3 r3 [] _ W9 hr9 hT3 (by rw [List.append_nil]; omega) (by rw [List.append_nil]; omega) (N9.out).dn)
    clear hr9
    refine (HC10.out).mono ?_
    rintro en w10 ⟨_, _, _, rfl, X10⟩
    have B10 := hide ((N9.out).go (X10.out).1 (X10.out).2)
    clear HC10 X10 N9
    have HFin : Hid (IsIt w10 w.heap.size w10.heap.size (.iface 94 (.pointer (some ⟨b, 0, none⟩))) (.use pub m n gs a) ∧ IsRw w10 D rb ab ps (i + X.pz (pb ++ (t1 ++ (n1 ++ (t2 ++ (n2 ++ (ap ++ t3))))))) ∧ Kp (Sw rb ab) w w10) := by
      obtain ⟨z1, z2⟩ := (HT.out).out w10 [] _ (B10.out).rw (B10.out).kp
      have hle := (HT.out).le
      have hsz := (HT.out).sz
      have hnb := (B10.out).nb
      rw [hz]
      rw [egs]
      refine ⟨.use b pub _ m n _ ⟨by omega, heap_lt (B10.out).bl⟩ (B10.out).bl, ?_, z2⟩
      rw [show i + (X.pz pb + (X.pz t1 + (X.pz n1 + (X.pz t2 + (X.pz n2 + (X.pz ap + X.pz t3)))))) = i + X.pz pb + X.pz t1 + X.pz n1 + X.pz t2 + X.pz n2 + X.pz t + X.pz n' + X.pz t3 by omega]
      exact z1
    go_wp2_with fail
    go_ret
    exact ⟨b, rfl, HFin⟩
  · have hr7 := (N7.out).rw
    have hpa : X.pz ap = 0 := by rw [eap]; rfl
    have hla : ap.length = 0 := by rw [eap]; rfl
    rw [eap, List.nil_append, ← List.append_nil t3] at hr7
    have HC8 := hide (whas_no D w2.heap.size ab X.sAs t3 [] _ W7 hr7 H3.out (by rw [List.append_nil]; omega) (by rw [List.append_nil]; omega) (N7.out).dn)
    clear hr7
    refine (HC8.out).mono ?_
    rintro en w8 ⟨rfl, X8⟩
    obtain ⟨t', q', p', i', x1, x2, x3, x4⟩ := (X8.out).ex
    have B8 := hide ((N7.out).go x2 (X8.out).kp)
    clear HC8 X8 N7 x2
    have hb8 := (B8.out).bl
    have c8 := cell_of_row w8 _ 5 _ _ _ hb8
    have f8 : w8.frozen? ⟨b, 5, none⟩ = false := by simp [World.frozen?, hb8]
    have N8 : Hid (Bx (w2.alloc (.cells #[.pointer (some ⟨ab, 0, none⟩), .slice a4 a5 a6] 124)) (w8.setCell ⟨b, 5, none⟩ (.bool false)) D w2.heap.size ab _ _ b (.cells #[.bool pub, .string (ba m.1), .int .i64 m.2, .string (ba n.1), .int .i64 n.2, .bool false, .string ⟨#[]⟩, .int .i64 0] 144 (0, 0))) := (B8.out).put 5 (.bool false)
    have k8 : (w8.setCell ⟨b, 5, none⟩ (.bool false)).cell? ⟨b, 5, none⟩ = some (.bool false) := cell_of_row _ _ 5 _ _ _ (N8.out).bl
    clear hb8 B8
    have HC9 := hide (wpass_any D w2.heap.size ab t' q' p' [] _ _ (N8.out).rw x1 (by rw [List.append_nil]; omega) (by rw [List.append_nil]; omega) (N8.out).dn)
    clear x1
    go_wp2_with fail
    clear c8 f8 k8
    generalize w8.setCell ⟨b, 5, none⟩ (.bool false) = W8 at *
    refine (HC9.out).mono ?_
    rintro en w9 ⟨_, _, _, rfl, X9⟩
    have B9 := hide ((N8.out).go (X9.out).1 (X9.out).2)
    clear HC9 X9 N8
    have HFin : Hid (IsIt w9 w.heap.size w9.heap.size (.iface 94 (.pointer (some ⟨b, 0, none⟩))) (.use pub m n gs a) ∧ IsRw w9 D rb ab ps (i + X.pz (pb ++ (t1 ++ (n1 ++ (t2 ++ (n2 ++ (ap ++ t3))))))) ∧ Kp (Sw rb ab) w w9) := by
      obtain ⟨z1, z2⟩ := (HT.out).out w9 [] _ (B9.out).rw (B9.out).kp
      have hle := (HT.out).le
      have hsz := (HT.out).sz
      have hnb := (B9.out).nb
      rw [hz]
      rw [egs, ea]
      refine ⟨.use b pub _ m n _ ⟨by omega, heap_lt (B9.out).bl⟩ (B9.out).bl, ?_, z2⟩
      rw [show i + (X.pz pb + (X.pz t1 + (X.pz n1 + (X.pz t2 + (X.pz n2 + (X.pz ap + X.pz t3)))))) = i' + X.pz t' by omega]
      exact z1
    go_wp2_with fail
    go_ret
    exact ⟨b, rfl, HFin⟩
end Go.Proofs.YtdipmfdhnplpaaaGreatDoor
/- Package syntax: a def. -/
namespace Go.Proofs.YtdipmfdhnplpaaaGreatDoor
open Go.RowKit
open M
/-- The parameters of a def, if it has some. -/
def IsPv (w : World) (lo hi : Nat) (pv : Value) (ps : Option (List X.Nm)) : Prop := (ps = none ∧ pv = .pointer none) ∨ ∃ ns pb, ps = some ns ∧ pv = .pointer (some ⟨pb, 0, none⟩) ∧ IsPar w lo hi pb ns
theorem IsPv.keep {S : Nat → Prop} {w w' : World} {lo hi : Nat} {pv : Value} {ps : Option (List X.Nm)} (h : IsPv w lo hi pv ps) (hk : Kp S w w') (hS : ∀ i, lo ≤ i → i < hi → ¬ S i) : IsPv w' lo hi pv ps := by
  rcases h with h | ⟨ns, pb, h1, h2, h3⟩
  · exact .inl h
  · exact .inr ⟨ns, pb, h1, h2, h3.keep hk hS⟩
theorem IsPv.wide {w : World} {lo hi lo' hi' : Nat} {pv : Value} {ps : Option (List X.Nm)} (h : IsPv w lo hi pv ps) (h1 : lo' ≤ lo) (h2 : hi ≤ hi') : IsPv w lo' hi' pv ps := by
  rcases h with h | ⟨ns, pb, a, b, c⟩
  · exact .inl h
  · exact .inr ⟨ns, pb, a, b, c.wide h1 h2⟩
theorem prp_or {pr : List X.Part} {i : Nat} {ps : Option (List X.Nm)} (h : X.Prp pr i ps) : (∃ qs ns, pr = [.br 6 qs] ∧ ps = some ns ∧ X.Nms qs i ns) ∨ (pr = [] ∧ ps = none) := by
  cases h with
  | yes qs _ ns h => exact .inl ⟨qs, ns, rfl, rfl, h⟩
  | no => exact .inr ⟨rfl, rfl⟩
theorem tkp_kind {t : List X.Part} (h : X.Tkp t) : ∃ qs p, X.Tk0 t qs p ∧ ((X.nk p : Int) == 6) = false := by
  rcases h with ⟨k, x, qs, h⟩ | ⟨m, rfl⟩
  · exact ⟨qs, _, h.tk0, rfl⟩
  · exact ⟨[], .miss m, ⟨rfl, fun q hq => (by cases hq), rfl, rfl⟩, rfl⟩
set_option maxRecDepth 100000 in
set_option maxHeartbeats 4000000 in
theorem wdef_any (D : Nat → Prop) (rb ab : Nat) (pb t1 n1 pr t2 t3 : List X.Part) (p : X.Part) (pub : Bool) (n : X.Nm) (pso : Option (List X.Nm)) (e : X.Ex) (ps : List X.Part) (i : Nat) (w : World) (h : IsRw w D rb ab (.br 4 (pb ++ (t1 ++ (n1 ++ (pr ++ (t2 ++ ([p] ++ t3)))))) :: ps) i)
    (hp : X.Pbp pb pub) (h1 : X.Tkn X.sPub t1) (hn : X.Nmp n1 (i + X.pz pb + X.pz t1) n) (hr : X.Prp pr (i + X.pz pb + X.pz t1 + X.pz n1) pso) (h2 : X.Tkp t2) (he : X.Rd p (i + X.pz pb + X.pz t1 + X.pz n1 + X.pz pr + X.pz t2) e) (h3 : X.Tkp t3) (HEx : ExOk p) (hql : ∀ qs, pr = [.br 6 qs] → qs.length ≤ 268435456)
    (hi : i + X.pz (pb ++ (t1 ++ (n1 ++ (pr ++ (t2 ++ ([p] ++ t3)))))) ≤ 1073741824) (hpl : (pb ++ (t1 ++ (n1 ++ (pr ++ (t2 ++ ([p] ++ t3)))))).length ≤ 1073741824) (hDl : ∀ q, D q → q < w.heap.size) :
    Calls Tryz.prog 47 #[.pointer (some ⟨rb, 0, none⟩)] w fun en w' => ∃ b, en = .returned (.pointer (some ⟨b, 0, none⟩)) ∧ Hid (IsIt w' w.heap.size w'.heap.size (.iface 97 (.pointer (some ⟨b, 0, none⟩))) (.dfn pub n pso e) ∧ IsRw w' D rb ab ps (i + X.pz (pb ++ (t1 ++ (n1 ++ (pr ++ (t2 ++ ([p] ++ t3))))))) ∧ Kp (Sw rb ab) w w') := by
  obtain ⟨q2, r2, hT2, hk2⟩ := tkp_kind h2
  obtain ⟨q3, r3, hT3⟩ := h3.tk0
  have hz : X.pz (pb ++ (t1 ++ (n1 ++ (pr ++ (t2 ++ ([p] ++ t3)))))) = X.pz pb + (X.pz t1 + (X.pz n1 + (X.pz pr + (X.pz t2 + (X.pz [p] + X.pz t3))))) := by rw [X.pz_app, X.pz_app, X.pz_app, X.pz_app, X.pz_app, X.pz_app]
  have hl1 : [p].length = 1 := rfl
  have HEn := hide (wenter_any D rb ab _ ps i w h (by show i + 0 ≤ _; omega) hDl)
  have HDl := hide hDl
  have HP := hide hp
  have HN := hide hn
  have HR := hide hr
  have HV := hide he
  have H1 := hide h1
  have hi' := hi
  have hpl' := hpl
  rw [hz] at hi
  simp only [List.length_append] at hpl
  clear h h1 h2 h3 hDl hn hp hr he
  go_enter Tryz.func47, Tryz.ntmps47
  go_wp2_with fail
  refine (HEn.out).mono ?_
  rintro en w2 ⟨a4, a5, a6, rfl, X2⟩
  have HT : Hid (Ent w D rb ab ps _ i w2 (.slice a4 a5 a6)) := ent_of (X2.out) HDl.out
  clear HEn X2
  have HC1 := hide (wpub_any D w2.heap.size ab pb t1 _ pub i _ (HT.out).inn HP.out H1.out hi' hpl' (HT.out).dl)
  clear hi' hpl'
  go_wp2_with fail
  refine (HC1.out).mono ?_
  rintro en w3 ⟨rfl, X3⟩
  have kA : Below w3.heap.size w3 (w3.alloc (.cells #[.bool pub, .string ⟨#[]⟩, .int .i64 0, .pointer none, .nilIface] 157)) := (Below.refl _ w3).alloc (Nat.le_refl _) _
  have kA' : Kp (Sw w2.heap.size ab) w3 (w3.alloc (.cells #[.bool pub, .string ⟨#[]⟩, .int .i64 0, .pointer none, .nilIface] 157)) := Kp.ofBelow kA _
  have hL : Lf (w2.alloc (.cells #[.pointer (some ⟨ab, 0, none⟩), .slice a4 a5 a6] 124)) (w3.alloc (.cells #[.bool pub, .string ⟨#[]⟩, .int .i64 0, .pointer none, .nilIface] 157)) D w2.heap.size ab t1 (n1 ++ (pr ++ (t2 ++ ([p] ++ t3)))) (i + X.pz pb + X.pz t1) := by
    obtain ⟨t', q', p', i', x1, x2, x3, x4⟩ := (X3.out).ex
    exact ⟨⟨t', q', p', i', x1, x2.below kA, x3, x4⟩, (X3.out).kp.trans kA' (fun _ _ e => e)⟩
  have hnw := (HT.out).inn.lt
  have hs3 := (X3.out).kp.size
  have HC4 := hide (hL.pass (by simp only [X.pz_app]; omega) (by simp only [List.length_append]; omega) (fun q hq => Nat.lt_of_lt_of_le ((HT.out).dl q hq) hL.kp.size))
  have HBx : Hid (∀ W' ps' i', IsRw W' D w2.heap.size ab ps' i' → Kp (Sw w2.heap.size ab) (w3.alloc (.cells #[.bool pub, .string ⟨#[]⟩, .int .i64 0, .pointer none, .nilIface] 157)) W' → Bx (w2.alloc (.cells #[.pointer (some ⟨ab, 0, none⟩), .slice a4 a5 a6] 124)) W' D w2.heap.size ab ps' i' w3.heap.size (.cells #[.bool pub, .string ⟨#[]⟩, .int .i64 0, .pointer none, .nilIface] 157 (0, 0))) := fun W' ps' i' hr' hk' =>
    ⟨hr', hL.kp.trans hk' (fun _ _ e => e), hk'.made hnw.1 hnw.2 hs3 (heap_alloc_new w3 _), hs3, hnw.1, hnw.2, (HT.out).dl⟩
  clear HC1 kA kA' hL X3
  go_wp2_with fail
  generalize w3.alloc (.cells #[.bool pub, .string ⟨#[]⟩, .int .i64 0, .pointer none, .nilIface] 157) = W3 at *
  generalize w3.heap.size = b at *
  refine (HC4.out).mono ?_
  rintro en w4 ⟨_, _, _, _, _, _, rfl, X4⟩
  have B4 := hide ((HBx.out) _ _ _ (X4.out).1 (X4.out).2)
  clear HC4 HBx X4
  have HC5 := hide (wname_any D w2.heap.size ab n1 n _ _ w4 (B4.out).rw HN.out (by simp only [X.pz_app]; omega) (by simp only [List.length_append]; omega) (B4.out).dn)
  go_wp2_with fail
  refine (HC5.out).mono ?_
  rintro en w5 ⟨rfl, X5⟩
  have B5 := hide ((B4.out).go (X5.out).1 (X5.out).2)
  clear HC5 X5 B4
  have hb5 := (B5.out).bl
  have c5 := cell_of_row w5 _ 1 _ _ _ hb5
  have d5 := cell_of_row w5 _ 2 _ _ _ hb5
  have f5 : w5.frozen? ⟨b, 1, none⟩ = false := by simp [World.frozen?, hb5]
  have g5 : w5.frozen? ⟨b, 2, none⟩ = false := by simp [World.frozen?, hb5]
  have N5 : Hid (Bx (w2.alloc (.cells #[.pointer (some ⟨ab, 0, none⟩), .slice a4 a5 a6] 124)) ((w5.setCell ⟨b, 1, none⟩ (.string (ba n.1))).setCell ⟨b, 2, none⟩ (.int .i64 n.2)) D w2.heap.size ab _ _ b (.cells #[.bool pub, .string (ba n.1), .int .i64 n.2, .pointer none, .nilIface] 157 (0, 0))) := ((B5.out).put 1 (.string (ba n.1))).put 2 (.int .i64 n.2)
  clear hb5 B5
  go_wp2_with fail
  clear c5 d5 f5 g5
  generalize (w5.setCell ⟨b, 1, none⟩ (.string (ba n.1))).setCell ⟨b, 2, none⟩ (.int .i64 n.2) = W5 at *
  have HC6 := hide (wmore_any D w2.heap.size ab _ _ W5 (N5.out).rw (by simp only [X.pz_app]; omega) (by simp only [List.length_append]; omega) (N5.out).dn)
  have hpr := prp_or HR.out
  clear HR
  rcases hpr with ⟨qs, ns, epr, eso, hns⟩ | ⟨epr, eso⟩
  · refine (HC6.out).mono ?_
    rintro en w6 ⟨hen, X6⟩
    have hdw : (pr ++ (t2 ++ ([p] ++ t3))).dropWhile X.lq = X.Part.br 6 qs :: (t2 ++ ([p] ++ t3)) ∧ (pr ++ (t2 ++ ([p] ++ t3))).takeWhile X.lq = [] := by rw [epr]; exact X.drop_quiet (qs := []) (fun q hq => (by cases hq)) rfl
    rw [hdw.1, hdw.2] at X6
    rw [hdw.1, show decide (X.Part.br 6 qs :: (t2 ++ ([p] ++ t3)) ≠ []) = true by simp] at hen
    subst hen
    have B6 := hide ((N5.out).go (X6.out).1 (X6.out).2)
    obtain ⟨v0, hb0, hn0⟩ := (X6.out).1.blk
    have c1 := cell_of_row w6 _ 1 _ _ _ hb0
    obtain ⟨g, o, cap, kv, rfl, hD, y0, y1, y2, y3, hkk, -, hc1, hc2, -, -⟩ := hn0.head
    have y0' : w6.cell? ⟨g, o, none⟩ = some (.int .i64 6) := y0
    have hi1 : (0 : Int) < ((((t2 ++ ([p] ++ t3))).length + 1 : Nat) : Int) := by omega
    have hi2 : 0 < ((t2 ++ ([p] ++ t3))).length + 1 := by omega
    clear HC6 X6 N5 hb0 hn0 hkk y0 y1 y2 y3 hdw
    have hns' : X.Nms qs (i + X.pz pb + X.pz t1 + X.pz n1 + X.pz []) ns := by rw [X.pz_nil, Nat.add_zero]; exact hns
    have hzq : X.pz pr = X.pz qs := by rw [epr, X.pz_br]
    have hz0 : X.pz [] = 0 := rfl
    have hq0 := hql qs epr
    have hq1 := nms_len hns
    have HC7 := hide (wparams_any D w2.heap.size ab qs ns _ _ w6 (B6.out).rw hns' (by omega) hq0 (by omega) (B6.out).dn)
    clear hns hns'
    have hb6 := heap_lt (B6.out).bl
    go_wp2_with fail
    refine (HC7.out).mono ?_
    rintro en w7 ⟨qb, rfl, X7⟩
    have B7 := hide ((B6.out).go (X7.out).2.1 (X7.out).2.2)
    have hs7 := (X7.out).2.2.size
    have hb7 := (B7.out).bl
    have c7 := cell_of_row w7 _ 3 _ _ _ hb7
    have f7 : w7.frozen? ⟨b, 3, none⟩ = false := by simp [World.frozen?, hb7]
    have B9 : Hid (Bx (w2.alloc (.cells #[.pointer (some ⟨ab, 0, none⟩), .slice a4 a5 a6] 124)) (w7.setCell ⟨b, 3, none⟩ (.pointer (some ⟨qb, 0, none⟩))) D w2.heap.size ab _ _ b (.cells #[.bool pub, .string (ba n.1), .int .i64 n.2, .pointer (some ⟨qb, 0, none⟩), .nilIface] 157 (0, 0))) := (B7.out).put 3 (.pointer (some ⟨qb, 0, none⟩))
    have hk7 : Kp (fun q => q = b) w7 (w7.setCell ⟨b, 3, none⟩ (.pointer (some ⟨qb, 0, none⟩))) := On.set (Kp.refl _ w7) 3 _
    have P9 : Hid (IsPv (w7.setCell ⟨b, 3, none⟩ (.pointer (some ⟨qb, 0, none⟩))) w6.heap.size w7.heap.size (.pointer (some ⟨qb, 0, none⟩)) pso) := .inr ⟨ns, qb, eso, rfl, (X7.out).1.keep hk7 (fun q l1 l2 e => by omega)⟩
    have hs9 := hk7.size
    have hj : i + X.pz pb + X.pz t1 + X.pz n1 + X.pz [] + X.pz qs + X.pz t2 = (i + X.pz pb + X.pz t1 + X.pz n1 + X.pz pr + X.pz t2) := by omega
    clear HC7 X7 B6 B7 hb7 hk7 c1 y0' hD hi1 hi2
    have hbW := heap_lt (B9.out).bl
    have HC10 := hide (wpass_any D w2.heap.size ab t2 q2 r2 ([p] ++ t3) _ _ (B9.out).rw hT2 (by simp only [X.pz_app]; omega) (by simp only [List.length_append]; omega) (B9.out).dn)
    go_wp2_with fail
    clear c7 f7
    generalize w7.setCell ⟨b, 3, none⟩ (.pointer (some ⟨qb, 0, none⟩)) = W7 at *
    refine (HC10.out).mono ?_
    rintro en w10 ⟨_, _, _, rfl, X10⟩
    rw [hj] at X10
    have B10 := hide ((B9.out).go (X10.out).1 (X10.out).2)
    have P10 := hide ((P9.out).keep (X10.out).2 (fun q l1 l2 e => by rcases e with e | e <;> omega))
    have hs10 := (X10.out).2.size
    clear HC10 X10 B9 P9
    have HC11 := hide (HEx e (i + X.pz pb + X.pz t1 + X.pz n1 + X.pz pr + X.pz t2) D w2.heap.size ab t3 w10 HV.out (B10.out).rw (by omega) (B10.out).dn)
    go_wp2_with fail
    refine (HC11.out).mono ?_
    rintro en w11 ⟨v, rfl, X11⟩
    obtain ⟨y1, g1, hv1⟩ := (X11.out).1.iface
    subst hv1
    have B11 := hide ((B10.out).go (X11.out).2.1 (X11.out).2.2)
    have hs11 := (X11.out).2.2.size
    have hb11 := (B11.out).bl
    have c11 := cell_of_row w11 _ 4 _ _ _ hb11
    have f11 : w11.frozen? ⟨b, 4, none⟩ = false := by simp [World.frozen?, hb11]
    have N11 : Hid (Bx (w2.alloc (.cells #[.pointer (some ⟨ab, 0, none⟩), .slice a4 a5 a6] 124)) (w11.setCell ⟨b, 4, none⟩ (.iface y1 (.pointer (some ⟨g1, 0, none⟩)))) D w2.heap.size ab _ _ b (.cells #[.bool pub, .string (ba n.1), .int .i64 n.2, .pointer (some ⟨qb, 0, none⟩), .iface y1 (.pointer (some ⟨g1, 0, none⟩))] 157 (0, 0))) := (B11.out).put 4 (.iface y1 (.pointer (some ⟨g1, 0, none⟩)))
    have hk11 : Kp (fun q => q = b) w11 (w11.setCell ⟨b, 4, none⟩ (.iface y1 (.pointer (some ⟨g1, 0, none⟩)))) := On.set (Kp.refl _ w11) 4 _
    have E11 := hide ((X11.out).1.keep hk11 (fun q l1 l2 e => by omega))
    have P11 := hide (((P10.out).keep (X11.out).2.2 (fun q l1 l2 e => by rcases e with e | e <;> omega)).keep hk11 (fun q l1 l2 e => by omega))
    have hs12 := hk11.size
    clear HC11 X11 B10 B11 hb11 hk11 P10
    go_wp2_with fail
    clear c11 f11
    generalize w11.setCell ⟨b, 4, none⟩ (.iface y1 (.pointer (some ⟨g1, 0, none⟩))) = W11 at *
    have hr11 := (N11.out).rw
    rw [← List.append_nil t3] at hr11
    have HC12 := hide (wpass_any D w2.heap.size ab t3 q3 r3 [] _ W11 hr11 hT3 (by rw [List.append_nil]; omega) (by rw [List.append_nil]; omega) (N11.out).dn)
    clear hr11
    refine (HC12.out).mono ?_
    rintro en w12 ⟨_, _, _, rfl, X12⟩
    have B12 := hide ((N11.out).go (X12.out).1 (X12.out).2)
    have HFin : Hid (IsIt w12 w.heap.size w12.heap.size (.iface 97 (.pointer (some ⟨b, 0, none⟩))) (.dfn pub n pso e) ∧ IsRw w12 D rb ab ps (i + X.pz (pb ++ (t1 ++ (n1 ++ (pr ++ (t2 ++ ([p] ++ t3))))))) ∧ Kp (Sw rb ab) w w12) := by
      obtain ⟨z1, z2⟩ := (HT.out).out w12 [] _ (B12.out).rw (B12.out).kp
      have hle := (HT.out).le
      have hsz := (HT.out).sz
      have hnb := (B12.out).nb
      have hs13 := (X12.out).2.size
      have E12 := (E11.out).keep (X12.out).2 (fun q l1 l2 e => by rcases e with e | e <;> omega)
      have P12 := (P11.out).keep (X12.out).2 (fun q l1 l2 e => by rcases e with e | e <;> omega)
      rw [hz]
      refine ⟨.dfn b pub n _ pso _ e ⟨by omega, heap_lt (B12.out).bl⟩ (B12.out).bl (P12.wide (by omega) (by omega)) (E12.wide (by omega) (by omega)), ?_, z2⟩
      rw [show i + (X.pz pb + (X.pz t1 + (X.pz n1 + (X.pz pr + (X.pz t2 + (X.pz [p] + X.pz t3)))))) = (i + X.pz pb + X.pz t1 + X.pz n1 + X.pz pr + X.pz t2) + X.pz [p] + X.pz t3 by omega]
      exact z1
    clear HC12 X12 N11 E11 P11 B12
    go_wp2_with fail
    go_ret
    exact ⟨b, rfl, HFin⟩
  · refine (HC6.out).mono ?_
    rintro en w6 ⟨hen, X6⟩
    have hdw : (pr ++ (t2 ++ ([p] ++ t3))).dropWhile X.lq = r2 :: ([p] ++ t3) ∧ (pr ++ (t2 ++ ([p] ++ t3))).takeWhile X.lq = q2 := by rw [epr]; exact hT2.drop _
    rw [hdw.1, hdw.2] at X6
    rw [hdw.1, show decide (r2 :: ([p] ++ t3) ≠ []) = true by simp] at hen
    subst hen
    have B6 := hide ((N5.out).go (X6.out).1 (X6.out).2)
    obtain ⟨v0, hb0, hn0⟩ := (X6.out).1.blk
    have c1 := cell_of_row w6 _ 1 _ _ _ hb0
    obtain ⟨g, o, cap, kv, rfl, hD, y0, y1, y2, y3, hkk, -, hc1, hc2, -, -⟩ := hn0.head
    have y0' : w6.cell? ⟨g, o, none⟩ = some (.int .i64 (X.nk r2 : Int)) := y0
    have hi1 : (0 : Int) < (((([p] ++ t3)).length + 1 : Nat) : Int) := by omega
    have hi2 : 0 < (([p] ++ t3)).length + 1 := by omega
    clear HC6 X6 N5 hb0 hn0 hkk y0 y1 y2 y3 hdw
    have hzq : X.pz pr = 0 := by rw [epr]; rfl
    have hz2 := X.tk0_pz hT2
    have hl2 : t2.length = q2.length + 1 := by rw [hT2.eq, List.length_append]; rfl
    have hl3 : [r2].length = 1 := rfl
    have hj : i + X.pz pb + X.pz t1 + X.pz n1 + X.pz q2 + X.pz [r2] = (i + X.pz pb + X.pz t1 + X.pz n1 + X.pz pr + X.pz t2) := by omega
    have B9 : Hid (Bx (w2.alloc (.cells #[.pointer (some ⟨ab, 0, none⟩), .slice a4 a5 a6] 124)) w6 D w2.heap.size ab ([r2] ++ ([p] ++ t3)) _ b (.cells #[.bool pub, .string (ba n.1), .int .i64 n.2, .pointer none, .nilIface] 157 (0, 0))) := B6.out
    have P9 : Hid (IsPv w6 (b + 1) (b + 1) (.pointer none) pso) := .inl ⟨eso, rfl⟩
    have hTr := X.tk0_one hT2
    clear B6
    have hbW := heap_lt (B9.out).bl
    have HC10 := hide (wpass_any D w2.heap.size ab [r2] [] r2 ([p] ++ t3) _ _ (B9.out).rw hTr (by simp only [X.pz_app]; omega) (by simp only [List.length_append]; omega) (B9.out).dn)
    go_wp2_with fail
    clear c1 y0' hD hi1 hi2
    refine (HC10.out).mono ?_
    rintro en w10 ⟨_, _, _, rfl, X10⟩
    rw [hj] at X10
    have B10 := hide ((B9.out).go (X10.out).1 (X10.out).2)
    have P10 := hide ((P9.out).keep (X10.out).2 (fun q l1 l2 e => by rcases e with e | e <;> omega))
    have hs10 := (X10.out).2.size
    clear HC10 X10 B9 P9
    have HC11 := hide (HEx e (i + X.pz pb + X.pz t1 + X.pz n1 + X.pz pr + X.pz t2) D w2.heap.size ab t3 w10 HV.out (B10.out).rw (by omega) (B10.out).dn)
    go_wp2_with fail
    refine (HC11.out).mono ?_
    rintro en w11 ⟨v, rfl, X11⟩
    obtain ⟨y1, g1, hv1⟩ := (X11.out).1.iface
    subst hv1
    have B11 := hide ((B10.out).go (X11.out).2.1 (X11.out).2.2)
    have hs11 := (X11.out).2.2.size
    have hb11 := (B11.out).bl
    have c11 := cell_of_row w11 _ 4 _ _ _ hb11
    have f11 : w11.frozen? ⟨b, 4, none⟩ = false := by simp [World.frozen?, hb11]
    have N11 : Hid (Bx (w2.alloc (.cells #[.pointer (some ⟨ab, 0, none⟩), .slice a4 a5 a6] 124)) (w11.setCell ⟨b, 4, none⟩ (.iface y1 (.pointer (some ⟨g1, 0, none⟩)))) D w2.heap.size ab _ _ b (.cells #[.bool pub, .string (ba n.1), .int .i64 n.2, .pointer none, .iface y1 (.pointer (some ⟨g1, 0, none⟩))] 157 (0, 0))) := (B11.out).put 4 (.iface y1 (.pointer (some ⟨g1, 0, none⟩)))
    have hk11 : Kp (fun q => q = b) w11 (w11.setCell ⟨b, 4, none⟩ (.iface y1 (.pointer (some ⟨g1, 0, none⟩)))) := On.set (Kp.refl _ w11) 4 _
    have E11 := hide ((X11.out).1.keep hk11 (fun q l1 l2 e => by omega))
    have P11 := hide (((P10.out).keep (X11.out).2.2 (fun q l1 l2 e => by rcases e with e | e <;> omega)).keep hk11 (fun q l1 l2 e => by omega))
    have hs12 := hk11.size
    clear HC11 X11 B10 B11 hb11 hk11 P10
    go_wp2_with fail
    clear c11 f11
    generalize w11.setCell ⟨b, 4, none⟩ (.iface y1 (.pointer (some ⟨g1, 0, none⟩))) = W11 at *
    have hr11 := (N11.out).rw
    rw [← List.append_nil t3] at hr11
    have HC12 := hide (wpass_any D w2.heap.size ab t3 q3 r3 [] _ W11 hr11 hT3 (by rw [List.append_nil]; omega) (by rw [List.append_nil]; omega) (N11.out).dn)
    clear hr11
    refine (HC12.out).mono ?_
    rintro en w12 ⟨_, _, _, rfl, X12⟩
    have B12 := hide ((N11.out).go (X12.out).1 (X12.out).2)
    have HFin : Hid (IsIt w12 w.heap.size w12.heap.size (.iface 97 (.pointer (some ⟨b, 0, none⟩))) (.dfn pub n pso e) ∧ IsRw w12 D rb ab ps (i + X.pz (pb ++ (t1 ++ (n1 ++ (pr ++ (t2 ++ ([p] ++ t3))))))) ∧ Kp (Sw rb ab) w w12) := by
      obtain ⟨z1, z2⟩ := (HT.out).out w12 [] _ (B12.out).rw (B12.out).kp
      have hle := (HT.out).le
      have hsz := (HT.out).sz
      have hnb := (B12.out).nb
      have hs13 := (X12.out).2.size
      have E12 := (E11.out).keep (X12.out).2 (fun q l1 l2 e => by rcases e with e | e <;> omega)
      have P12 := (P11.out).keep (X12.out).2 (fun q l1 l2 e => by rcases e with e | e <;> omega)
      rw [hz]
      refine ⟨.dfn b pub n _ pso _ e ⟨by omega, heap_lt (B12.out).bl⟩ (B12.out).bl (P12.wide (by omega) (by omega)) (E12.wide (by omega) (by omega)), ?_, z2⟩
      rw [show i + (X.pz pb + (X.pz t1 + (X.pz n1 + (X.pz pr + (X.pz t2 + (X.pz [p] + X.pz t3)))))) = (i + X.pz pb + X.pz t1 + X.pz n1 + X.pz pr + X.pz t2) + X.pz [p] + X.pz t3 by omega]
      exact z1
    clear HC12 X12 N11 E11 P11 B12
    go_wp2_with fail
    go_ret
    exact ⟨b, rfl, HFin⟩
end Go.Proofs.YtdipmfdhnplpaaaGreatDoor
