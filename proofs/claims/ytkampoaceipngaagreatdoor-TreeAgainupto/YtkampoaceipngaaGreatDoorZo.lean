/- The document's Put: where nodes stand. -/
import Derived.Test.YtkampoaceipngaaGreatDoorXo
import Derived.Test.YtkampoaceipngaaGreatDoorYd
import Derived.Deep.RegionHeld3
namespace Go.Proofs.YtkampoaceipngaaGreatDoor
open Go.RowKit
open M
namespace X
def Q.k : Q → Nat | .mk k _ _ _ _ _ _ _ _ => k
def Q.t : Q → Nat | .mk _ t _ _ _ _ _ _ _ => t
def Q.x : Q → List UInt8 | .mk _ _ x _ _ _ _ _ _ => x
def Q.qs : Q → List Q | .mk _ _ _ q _ _ _ _ _ => q
def Q.en : Q → Int | .mk _ _ _ _ _ e _ _ _ => e
def Q.fr : Q → Int | .mk _ _ _ _ _ _ f _ _ => f
def Q.tt : Q → Int | .mk _ _ _ _ _ _ _ t _ => t
def Q.la : Q → Bool | .mk _ _ _ _ _ _ _ _ l => l
mutual
/-- A part where it stands. -/
def put : Part → Int → Q
  | .leaf k x, i => .mk 0 k x [] i (i + x.length) (if k = 1 ∨ k = 2 then -1 else i) (if k = 1 ∨ k = 2 then -1 else i + x.length) false
  | .miss m, i => .mk 1 0 m [] i i (-1) (-1) true
  | .br k ps, i => .mk k 0 [] (puts ps i (-1) (-1) (k == 1)).1 i (puts ps i (-1) (-1) (k == 1)).2.1 (puts ps i (-1) (-1) (k == 1)).2.2.1 (puts ps i (-1) (-1) (k == 1)).2.2.2.1 (puts ps i (-1) (-1) (k == 1)).2.2.2.2
def puts : List Part → Int → Int → Int → Bool → List Q × Int × Int × Int × Bool
  | [], i, f, t, l => ([], i, f, t, l)
  | p :: ps, i, f, t, l => (put p i :: (puts ps (put p i).en (if f < 0 then (put p i).fr else f) (if (put p i).tt > t then (put p i).tt else t) (l || (put p i).la)).1, (puts ps (put p i).en (if f < 0 then (put p i).fr else f) (if (put p i).tt > t then (put p i).tt else t) (l || (put p i).la)).2)
end
mutual
theorem put_en : ∀ (p : Part) (i : Int), (put p i).en = i + (pb p).length
  | .leaf k x, i => by rw [put, pb]; rfl
  | .miss m, i => by rw [put, pb]; simp [Q.en]
  | .br k ps, i => by rw [put, pb]; exact puts_en ps i _ _ _
theorem puts_en : ∀ (ps : List Part) (i f t : Int) (l : Bool), (puts ps i f t l).2.1 = i + (psb ps).length
  | [], i, f, t, l => by rw [puts, psb]; simp
  | p :: ps, i, f, t, l => by
    rw [puts, psb]
    show (puts ps _ _ _ _).2.1 = _
    rw [puts_en ps, put_en p, List.length_append]; omega
end
theorem puts_len : ∀ (ps : List Part) (i f t : Int) (l : Bool), (puts ps i f t l).1.length = ps.length
  | [], i, f, t, l => by rw [puts]; rfl
  | p :: ps, i, f, t, l => by
    rw [puts]
    show (put p i :: (puts ps _ _ _ _).1).length = _
    rw [List.length_cons, puts_len ps, List.length_cons]
/-- Kids, one behind the other. -/
theorem puts_step {ps : List Part} {j : Nat} {p : Part} (h : ps[j]? = some p) (i f t : Int) (l : Bool) : puts (ps.drop j) i f t l = (put p i :: (puts (ps.drop (j + 1)) (put p i).en (if f < 0 then (put p i).fr else f) (if (put p i).tt > t then (put p i).tt else t) (l || (put p i).la)).1, (puts (ps.drop (j + 1)) (put p i).en (if f < 0 then (put p i).fr else f) (if (put p i).tt > t then (put p i).tt else t) (l || (put p i).la)).2) := by
  have hl : j < ps.length := by
    rcases Nat.lt_or_ge j ps.length with g | g
    · exact g
    · rw [List.getElem?_eq_none g] at h; cases h
  have hd : ps.drop j = p :: ps.drop (j + 1) := by
    rw [List.drop_eq_getElem_cons hl]; congr 1
    exact Option.some.inj ((List.getElem?_eq_getElem hl).symm.trans h)
  rw [hd, puts]
end X

/-- A node's block. -/
def Nd (w : World) (N k t : Nat) (x : List UInt8) (rv : Value) (i en fr tt : Int) (la : Bool) : Prop := w.heap[N]? = some (mcell k t x rv i en fr tt la)
theorem Nd.facts {w : World} {N k t : Nat} {x : List UInt8} {rv : Value} {i en fr tt : Int} {la : Bool} (h : Nd w N k t x rv i en fr tt la) :
    (w.cell? ⟨N, 0, none⟩ = some (.int .i64 k) ∧ w.cell? ⟨N, 1, none⟩ = some (.int .i64 t) ∧ w.cell? ⟨N, 2, none⟩ = some (.string (ba x)) ∧ w.cell? ⟨N, 3, none⟩ = some rv ∧ w.cell? ⟨N, 4, none⟩ = some (.int .i64 i) ∧ w.cell? ⟨N, 5, none⟩ = some (.int .i64 en) ∧ w.cell? ⟨N, 6, none⟩ = some (.int .i64 fr) ∧ w.cell? ⟨N, 7, none⟩ = some (.int .i64 tt) ∧ w.cell? ⟨N, 8, none⟩ = some (.bool la)) ∧
    (w.frozen? ⟨N, 4, none⟩ = false ∧ w.frozen? ⟨N, 5, none⟩ = false ∧ w.frozen? ⟨N, 6, none⟩ = false ∧ w.frozen? ⟨N, 7, none⟩ = false ∧ w.frozen? ⟨N, 8, none⟩ = false) := by
  unfold Nd mcell at h
  refine ⟨⟨?_, ?_, ?_, ?_, ?_, ?_, ?_, ?_, ?_⟩, ?_, ?_, ?_, ?_, ?_⟩ <;> simp [World.cell?, World.frozen?, h]
theorem Nd.set4 {w : World} {N k t : Nat} {x : List UInt8} {rv : Value} {i en fr tt : Int} {la : Bool} (h : Nd w N k t x rv i en fr tt la) (y : Int) : Nd (w.setCell ⟨N, 4, none⟩ (.int .i64 y)) N k t x rv y en fr tt la := by
  unfold Nd mcell at h ⊢
  simp [World.setCell, Array.getElem?_modify, h]
theorem Nd.set5 {w : World} {N k t : Nat} {x : List UInt8} {rv : Value} {i en fr tt : Int} {la : Bool} (h : Nd w N k t x rv i en fr tt la) (y : Int) : Nd (w.setCell ⟨N, 5, none⟩ (.int .i64 y)) N k t x rv i y fr tt la := by
  unfold Nd mcell at h ⊢
  simp [World.setCell, Array.getElem?_modify, h]
theorem Nd.set6 {w : World} {N k t : Nat} {x : List UInt8} {rv : Value} {i en fr tt : Int} {la : Bool} (h : Nd w N k t x rv i en fr tt la) (y : Int) : Nd (w.setCell ⟨N, 6, none⟩ (.int .i64 y)) N k t x rv i en y tt la := by
  unfold Nd mcell at h ⊢
  simp [World.setCell, Array.getElem?_modify, h]
theorem Nd.set7 {w : World} {N k t : Nat} {x : List UInt8} {rv : Value} {i en fr tt : Int} {la : Bool} (h : Nd w N k t x rv i en fr tt la) (y : Int) : Nd (w.setCell ⟨N, 7, none⟩ (.int .i64 y)) N k t x rv i en fr y la := by
  unfold Nd mcell at h ⊢
  simp [World.setCell, Array.getElem?_modify, h]
theorem Nd.set8 {w : World} {N k t : Nat} {x : List UInt8} {rv : Value} {i en fr tt : Int} {la : Bool} (h : Nd w N k t x rv i en fr tt la) (y : Bool) : Nd (w.setCell ⟨N, 8, none⟩ (.bool y)) N k t x rv i en fr tt y := by
  unfold Nd mcell at h ⊢
  simp [World.setCell, Array.getElem?_modify, h]
theorem IsM.node {w : World} {lo hi : Nat} {v : Value} {q : X.Q} (h : IsM w lo hi v q) : ∃ (N : Nat) (rv : Value) (i : Int), v = .pointer (some ⟨N, 0, none⟩) ∧ lo ≤ N ∧ N < hi ∧ Nd w N q.k q.t q.x rv i q.en q.fr q.tt q.la := by
  cases h with
  | mk _ _ N k t x qs at0 en fr tt la ao cap vs L H hN hb => exact ⟨N, _, at0, rfl, hN.1, hN.2, hb⟩
/-- What Put does of a part. -/
def PutOk (p : X.Part) : Prop := ∀ (lo hi : Nat) (v : Value) (i : Nat) (w : World), IsM w lo hi v (X.raw p) → i + (X.pb p).length ≤ 1073741824 →
  Calls Tryz.prog 29 #[v, .int .i64 i] w fun e w' => e = .returned (.int .i64 ((i + (X.pb p).length : Nat) : Int)) ∧ Hid (IsM w' lo hi v (X.put p i) ∧ Kp (fun q => lo ≤ q ∧ q < hi) w w')
theorem kn {w w' : World} {lo hi N : Nat} (h : Kp (fun q => q = N) w w') (h1 : lo ≤ N) (h2 : N < hi) : Kp (fun q => lo ≤ q ∧ q < hi) w w' := Kp.mono h (fun i _ e => by subst e; exact ⟨h1, h2⟩)
set_option maxRecDepth 100000 in
set_option maxHeartbeats 1000000 in
theorem put_leaf (k : Nat) (x : List UInt8) : PutOk (.leaf k x) := by
  intro lo hi v i w h hl
  rw [X.raw] at h
  cases h with
  | mk _ _ N _ _ _ qs at0 en fr tt la ao cap vs L H hN hb hc hr hs hp =>
  have HM : Hid (∀ (w' : World) (en fr tt : Int), Nd w' N 0 k x (.slice ao 0 cap) i en fr tt false → IsM w' lo hi (.pointer (some ⟨N, 0, none⟩)) (.mk 0 k x [] i en fr tt false)) := fun w' en fr tt h => .mk lo hi N 0 k x [] i en fr tt false ao cap vs L H hN h hc (fun i hi => by simp at hi) (fun i hi => by simp at hi) (fun i q hq => by simp at hq)
  have HB : Hid (Nd w N 0 k x (.slice ao 0 cap) 0 0 0 0 false) := hb
  rw [X.pb] at hl ⊢
  obtain ⟨⟨c0, c1, c2, c3, c4, c5, c6, c7, c8⟩, f4, f5, f6, f7, f8⟩ := (HB.out).facts
  have hbs : (ba x).size = x.length := ba_size x
  have HN1 := hide hN.1
  have HN2 := hide hN.2
  clear hb hc hr hs hp hN
  have HK : Hid (∀ (w' : World), Kp (fun q => q = N) w w' → Kp (fun q => lo ≤ q ∧ q < hi) w w') := fun w' h => kn h HN1.out HN2.out
  have HY : Hid ((k = 1 ∨ k = 2) → ∀ w', Nd w' N 0 k x (.slice ao 0 cap) i (i + x.length) (-1) (-1) false → IsM w' lo hi (.pointer (some ⟨N, 0, none⟩)) (X.put (.leaf k x) i)) := fun hq w' h => by
    rw [X.put, if_pos hq, if_pos hq]; exact (HM.out) _ _ _ _ h
  have HZ : Hid (¬ (k = 1 ∨ k = 2) → ∀ w', Nd w' N 0 k x (.slice ao 0 cap) i (i + x.length) i (i + x.length) false → IsM w' lo hi (.pointer (some ⟨N, 0, none⟩)) (X.put (.leaf k x) i)) := fun hq w' h => by
    rw [X.put, if_neg hq, if_neg hq]; exact (HM.out) _ _ _ _ h
  clear HM
  have HR : Hid (∀ (w' : World), (IsM w' lo hi (.pointer (some ⟨N, 0, none⟩)) (X.put (.leaf k x) i) ∧ Kp (fun q => lo ≤ q ∧ q < hi) w w') → ((.returned (.int .i64 ((i : Int) + (x.length : Int))) : Ending) = .returned (.int .i64 ((i + x.length : Nat) : Int)) ∧ Hid (IsM w' lo hi (.pointer (some ⟨N, 0, none⟩)) (X.put (.leaf k x) i) ∧ Kp (fun q => lo ≤ q ∧ q < hi) w w'))) := fun w' h => ⟨by rw [Int.natCast_add], h⟩
  clear HN1 HN2
  cases k1 : ((k : Int) == 1) with
  | true =>
    have n1 : ((k : Int) != 1) = false := by simp [bne, k1]
    have n2 : (k : Int) = 1 := by simpa using k1
    go_enter Tryz.func29, Tryz.ntmps29
    go_wp2_with fail
    go_ret
    exact (HR.out) _ ⟨(HY.out) (by omega) _ (((((HB.out).set4 _).set6 _).set7 _).set5 _), (HK.out) _ (On.set (On.set (On.set (On.set (Kp.refl _ w) 4 _) 6 _) 7 _) 5 _)⟩
  | false =>
    have n1 : ((k : Int) != 1) = true := by simp [bne, k1]
    have n2 : ¬ (k : Int) = 1 := by simpa using k1
    cases k2 : ((k : Int) == 2) with
    | true =>
      have n3 : ((k : Int) != 2) = false := by simp [bne, k2]
      have n4 : (k : Int) = 2 := by simpa using k2
      go_enter Tryz.func29, Tryz.ntmps29
      go_wp2_with fail
      go_ret
      exact (HR.out) _ ⟨(HY.out) (by omega) _ (((((HB.out).set4 _).set6 _).set7 _).set5 _), (HK.out) _ (On.set (On.set (On.set (On.set (Kp.refl _ w) 4 _) 6 _) 7 _) 5 _)⟩
    | false =>
      have n3 : ((k : Int) != 2) = true := by simp [bne, k2]
      have n4 : ¬ (k : Int) = 2 := by simpa using k2
      go_enter Tryz.func29, Tryz.ntmps29
      go_wp2_with fail
      go_ret
      exact (HR.out) _ ⟨(HZ.out) (by omega) _ (((((((HB.out).set4 _).set6 _).set7 _).set5 _).set6 _).set7 _), (HK.out) _ (On.set (On.set (On.set (On.set (On.set (On.set (Kp.refl _ w) 4 _) 6 _) 7 _) 5 _) 6 _) 7 _)⟩
/-- How the kids lie. -/
structure Lie (lo hi N : Nat) (ao : Option Addr) (L H : Nat → Nat) (n : Nat) : Prop where
  hN : lo ≤ N ∧ N < hi
  hs : ∀ i, i < n → lo ≤ L i ∧ L i ≤ H i ∧ H i ≤ hi ∧ ¬ (L i ≤ N ∧ N < H i) ∧ ∀ j, i < j → j < n → H i ≤ L j
  hg : ∀ g, ao = some ⟨g, 0, none⟩ → 0 < n → lo ≤ g ∧ g < hi ∧ g ≠ N ∧ ∀ j, j < n → ¬ (L j ≤ g ∧ g < H j)
theorem Lie.apart {lo hi N : Nat} {ao : Option Addr} {L H : Nat → Nat} {n : Nat} (h : Lie lo hi N ao L H n) {i j q : Nat} (hi : i < n) (hj : j < n) (hne : i ≠ j) (h1 : L i ≤ q) (h2 : q < H i) : ¬ (L j ≤ q ∧ q < H j) := by
  rcases Nat.lt_or_ge i j with g | g
  · have := (h.hs i hi).2.2.2.2 j g hj; omega
  · have := (h.hs j hj).2.2.2.2 i (by omega) hi; omega
theorem lt_of_some {α : Type} {l : List α} {i : Nat} {a : α} (h : l[i]? = some a) : i < l.length := by
  rcases Nat.lt_or_ge i l.length with g | g
  · exact g
  · rw [List.getElem?_eq_none g] at h; cases h
/-- The loop over the kids. -/
structure InPt (w : World) (N k lo hi : Nat) (ao : Option Addr) (cap : Nat) (vs : Nat → Value) (L H : Nat → Nat) (ps : List X.Part) (i0 : Nat) (j pos : Nat) (fr tt : Int) (la : Bool) (wr : World) : Prop where
  ex : ∃ qs : List X.Q, qs.length = j ∧ (∀ i q, qs[i]? = some q → IsM wr (L i) (H i) (vs i) q) ∧ X.puts ps i0 (-1) (-1) (k == 1) = (qs ++ (X.puts (ps.drop j) pos fr tt la).1, (X.puts (ps.drop j) pos fr tt la).2)
  nd : Nd wr N k 0 [] (.slice ao ps.length cap) i0 0 fr tt la
  todo : ∀ i p, j ≤ i → ps[i]? = some p → IsM wr (L i) (H i) (vs i) (X.raw p)
  row : ∀ i, i < ps.length → ∃ g, ao = some ⟨g, 0, none⟩ ∧ wr.cell? ⟨g, i, none⟩ = some (vs i)
  kp : Kp (fun q => lo ≤ q ∧ q < hi) w wr
  pos : pos + (X.psb (ps.drop j)).length = i0 + (X.psb ps).length
theorem InPt.next {w wr w2 W : World} {N k lo hi : Nat} {ao : Option Addr} {cap : Nat} {vs : Nat → Value} {L H : Nat → Nat} {ps : List X.Part} {i0 j pos : Nat} {fr tt : Int} {la : Bool} {p : X.Part} {fr' tt' : Int} {la' : Bool} (hL : Lie lo hi N ao L H ps.length) (h : InPt w N k lo hi ao cap vs L H ps i0 j pos fr tt la wr) (hp : ps[j]? = some p)
    (hm : IsM w2 (L j) (H j) (vs j) (X.put p pos)) (hk : Kp (fun q => L j ≤ q ∧ q < H j) wr w2) (hk2 : Kp (fun q => q = N) w2 W) (hn : Nd W N k 0 [] (.slice ao ps.length cap) i0 0 fr' tt' la')
    (e1 : fr' = if fr < 0 then (X.put p pos).fr else fr) (e2 : tt' = if (X.put p pos).tt > tt then (X.put p pos).tt else tt) (e3 : la' = (la || (X.put p pos).la)) : InPt w N k lo hi ao cap vs L H ps i0 (j + 1) (pos + (X.pb p).length) fr' tt' la' W := by
  have hjl := lt_of_some hp
  obtain ⟨qs, q1, q2, q3⟩ := h.ex
  obtain ⟨s1, s2, s3, s4, s5⟩ := hL.hs j hjl
  have hst := X.puts_step hp (pos : Int) fr tt la
  have hen : (X.put p pos).en = ((pos + (X.pb p).length : Nat) : Int) := by rw [X.put_en]; omega
  rw [← e1, ← e2, ← e3, hen] at hst
  have keepJ : ∀ {i : Nat} {q : X.Q}, i < ps.length → i ≠ j → IsM wr (L i) (H i) (vs i) q → IsM W (L i) (H i) (vs i) q := fun {i q} hi hne hq =>
    (hq.keep hk (fun x a1 a2 => hL.apart hi hjl hne a1 a2)).keep hk2 (fun x a1 a2 e => by subst e; exact (hL.hs i hi).2.2.2.1 ⟨a1, a2⟩)
  refine ⟨⟨qs ++ [X.put p pos], by rw [List.length_append, q1]; rfl, fun i q hq => ?_, ?_⟩, hn, fun i p' hi hp' => ?_, fun i hi => ?_, ?_, ?_⟩
  · by_cases hi : i < qs.length
    · rw [List.getElem?_append_left hi] at hq
      exact keepJ (by omega) (by omega) (q2 i q hq)
    · have hil := lt_of_some hq
      rw [List.length_append, List.length_singleton] at hil
      have : i = j := by omega
      subst this
      rw [List.getElem?_append_right (by omega), q1, Nat.sub_self] at hq
      obtain rfl : X.put p pos = q := by simpa using hq
      exact hm.keep hk2 (fun x a1 a2 e => by subst e; exact s4 ⟨a1, a2⟩)
  · rw [q3, hst]; simp
  · exact keepJ (lt_of_some hp') (by omega) (h.todo i p' (by omega) hp')
  · obtain ⟨g, g1, g2⟩ := h.row i hi
    obtain ⟨a1, a2, a3, a4⟩ := hL.hg g g1 (by omega)
    exact ⟨g, g1, hk2.cellv (hk.cellv g2 (a4 j hjl)) a3⟩
  · refine Kp.trans (Kp.trans h.kp hk (fun x _ e => ⟨by omega, by omega⟩)) hk2 (fun x _ e => ?_)
    subst e
    exact hL.hN
  · have hd : ps.drop j = p :: ps.drop (j + 1) := by
      rw [List.drop_eq_getElem_cons hjl]; congr 1
      exact Option.some.inj ((List.getElem?_eq_getElem hjl).symm.trans hp)
    have := h.pos
    rw [hd, X.psb, List.length_append] at this
    omega
theorem InPt.done {w wr W : World} {N k lo hi : Nat} {ao : Option Addr} {cap : Nat} {vs : Nat → Value} {L H : Nat → Nat} {ps : List X.Part} {i0 pos : Nat} {fr tt : Int} {la : Bool} (hL : Lie lo hi N ao L H ps.length) (hc : ps.length ≤ cap ∧ cap ≤ maxLen) (h : InPt w N k lo hi ao cap vs L H ps i0 ps.length pos fr tt la wr) (hk2 : Kp (fun q => q = N) wr W) (hn : Nd W N k 0 [] (.slice ao ps.length cap) i0 pos fr tt la) :
    pos = i0 + (X.psb ps).length ∧ IsM W lo hi (.pointer (some ⟨N, 0, none⟩)) (X.put (.br k ps) i0) ∧ Kp (fun q => lo ≤ q ∧ q < hi) w W := by
  obtain ⟨qs, q1, q2, q3⟩ := h.ex
  have hpos := h.pos
  rw [List.drop_length, X.puts, List.append_nil] at q3
  rw [List.drop_length, X.psb] at hpos
  refine ⟨by simpa using hpos, ?_, Kp.trans h.kp hk2 (fun x _ e => by subst e; exact hL.hN)⟩
  rw [X.put, q3]
  show IsM W lo hi _ (.mk k 0 [] qs i0 pos fr tt la)
  refine .mk lo hi N k 0 [] qs i0 pos fr tt la ao cap vs L H hL.hN (by rw [q1]; exact hn) (by rw [q1]; exact hc) (fun i hi => ?_) (by rw [q1]; exact hL.hs) (fun i q hq => ?_)
  · rw [q1] at hi
    obtain ⟨g, g1, g2⟩ := h.row i hi
    obtain ⟨a1, a2, a3, a4⟩ := hL.hg g g1 (by omega)
    exact ⟨g, g1, a1, a2, a3, by rw [q1]; exact a4, hk2.cellv g2 a3⟩
  · have hil := lt_of_some hq
    exact (q2 i q hq).keep hk2 (fun x a1 a2 e => by subst e; exact (hL.hs i (by omega)).2.2.2.1 ⟨a1, a2⟩)
set_option maxRecDepth 100000 in
set_option maxHeartbeats 1000000 in
theorem put_miss (m : List UInt8) : PutOk (.miss m) := by
  intro lo hi v i w h hl
  rw [X.raw] at h
  cases h with
  | mk _ _ N _ _ _ qs at0 en fr tt la ao cap vs L H hN hb hc hr hs hp =>
  have HM : Hid (∀ (w' : World), Nd w' N 1 0 m (.slice ao 0 cap) i i (-1) (-1) true → IsM w' lo hi (.pointer (some ⟨N, 0, none⟩)) (X.put (.miss m) i)) := fun w' h => by
    rw [X.put]
    exact .mk lo hi N 1 0 m [] i i (-1) (-1) true ao cap vs L H hN h hc (fun i hi => by simp at hi) (fun i hi => by simp at hi) (fun i q hq => by simp at hq)
  have HB : Hid (Nd w N 1 0 m (.slice ao 0 cap) 0 0 0 0 false) := hb
  have hpb : (X.pb (.miss m)).length = 0 := by rw [X.pb]; rfl
  rw [hpb, Nat.add_zero]
  obtain ⟨⟨c0, c1, c2, c3, c4, c5, c6, c7, c8⟩, f4, f5, f6, f7, f8⟩ := (HB.out).facts
  have HK : Hid (∀ (w' : World), Kp (fun q => q = N) w w' → Kp (fun q => lo ≤ q ∧ q < hi) w w') := fun w' h => kn h hN.1 hN.2
  clear hb hc hr hs hp hN hpb
  go_enter Tryz.func29, Tryz.ntmps29
  go_wp2_with fail
  refine wp_loop_rounds 1 ?_
  rw [rounds_succ]
  go_wp2_with fail
  go_ret
  exact ⟨rfl, (HM.out) _ ((((((HB.out).set4 _).set6 _).set7 _).set8 _).set5 _), (HK.out) _ (On.set (On.set (On.set (On.set (On.set (Kp.refl _ w) 4 _) 6 _) 7 _) 8 _) 5 _)⟩
set_option maxRecDepth 100000 in
set_option maxHeartbeats 4000000 in
theorem put_br (k : Nat) (ps : List X.Part) (hk0 : k ≠ 0) (ih : ∀ (j : Nat) (p : X.Part), ps[j]? = some p → PutOk p) (hpl : ps.length ≤ 1073741824) : PutOk (.br k ps) := by
  intro lo hi v i w h hl
  rw [X.pb] at hl ⊢
  have HIH := hide ih
  have h' := h
  rw [X.raw] at h'
  cases h' with
  | mk _ _ N _ _ _ qs at0 en fr tt la ao cap vs L H hN hb hc hr hs hp =>
  have hql : (X.raws ps).length = ps.length := by rw [X.raws_eq, List.length_map]
  rw [hql] at hb hc hr hs
  have HL : Hid (Lie lo hi N ao L H ps.length) := ⟨hN, hs, fun g hg h0 => by obtain ⟨g', e1, e2, e3, e4, e5, e6⟩ := hr 0 h0; rw [hg] at e1; obtain rfl : g = g' := (by simpa using e1); exact ⟨e2, e3, e4, e5⟩⟩
  have HC := hide hc
  have HB : Hid (Nd w N k 0 [] (.slice ao ps.length cap) 0 0 0 0 false) := hb
  have HT : Hid (∀ (j : Nat) (p : X.Part), ps[j]? = some p → IsM w (L j) (H j) (vs j) (X.raw p)) := fun j p hj => hp j _ (by rw [X.raws_eq, List.getElem?_map, hj]; rfl)
  have HRow : Hid (∀ j, j < ps.length → ∃ g, ao = some ⟨g, 0, none⟩ ∧ w.cell? ⟨g, j, none⟩ = some (vs j)) := fun j hj => by obtain ⟨g, e1, e2, e3, e4, e5, e6⟩ := hr j hj; exact ⟨g, e1, e6⟩
  obtain ⟨⟨c0, c1, c2, c3, c4, c5, c6, c7, c8⟩, f4, f5, f6, f7, f8⟩ := (HB.out).facts
  have hcap : ps.length ≤ cap := hc.1
  clear hb hc hr hs hp hN h hql ih
  have k0 : ((k : Int) == 0) = false := by simp; omega
  have HK1 : Hid (((k : Int) == 1) = (k == 1)) := by show _ = _; rw [Bool.eq_iff_iff]; simp; omega
  have HI0 : Hid (InPt w N k lo hi ao cap vs L H ps i 0 i (-1) (-1) (k == 1) ((((w.setCell ⟨N, 4, none⟩ (.int .i64 i)).setCell ⟨N, 6, none⟩ (.int .i64 (-1))).setCell ⟨N, 7, none⟩ (.int .i64 (-1))).setCell ⟨N, 8, none⟩ (.bool ((k : Int) == 1)))) := by
    have hkk : Kp (fun q => q = N) w ((((w.setCell ⟨N, 4, none⟩ (.int .i64 i)).setCell ⟨N, 6, none⟩ (.int .i64 (-1))).setCell ⟨N, 7, none⟩ (.int .i64 (-1))).setCell ⟨N, 8, none⟩ (.bool ((k : Int) == 1))) := On.set (On.set (On.set (On.set (Kp.refl _ w) 4 _) 6 _) 7 _) 8 _
    have hL := HL.out
    refine ⟨⟨[], rfl, fun i q hq => by simp at hq, by simp⟩, ?_, fun j p _ hj => ((HT.out) j p hj).keep hkk (fun x a1 a2 e => by subst e; exact (hL.hs j (lt_of_some hj)).2.2.2.1 ⟨a1, a2⟩), fun j hj => ?_, kn hkk hL.hN.1 hL.hN.2, by simp⟩
    · have := (((((HB.out).set4 (i : Int)).set6 (-1)).set7 (-1)).set8 ((k : Int) == 1))
      rw [HK1.out] at this ⊢
      exact this
    · obtain ⟨g, g1, g2⟩ := (HRow.out) j hj
      exact ⟨g, g1, hkk.cellv g2 (hL.hg g g1 (by omega)).2.2.1⟩
  clear HT HRow HK1 HB
  go_enter Tryz.func29, Tryz.ntmps29
  go_wp2_with fail
  go_loopw [1, 5] (fun a v wr => ∃ (j pos : Nat) (fr tt : Int) (la : Bool), a = .int .i64 pos ∧ v = .int .i64 j ∧ j ≤ ps.length ∧ Hid (InPt w N k lo hi ao cap vs L H ps i j pos fr tt la wr)) (fun _ v _ => ps.length - (intOf v).toNat)
  case atStart => exact ⟨0, i, -1, -1, _, rfl, rfl, Nat.zero_le _, HI0⟩
  case round =>
    clear HI0 c0 c1 c2 c3 c4 c5 c6 c7 c8 f4 f5 f6 f7 f8
    obtain ⟨j, pos, fr, tt, la, rfl, rfl, hj, HI⟩ := hrel
    obtain ⟨⟨c0, c1, c2, c3, c4, c5, c6, c7, c8⟩, f4, f5, f6, f7, f8⟩ := (HI.out).nd.facts
    by_cases hlt : j < ps.length
    case neg =>
      obtain rfl : j = ps.length := by omega
      have i1 : decide (ps.length < ps.length) = false := by simp
      have i2 : decide ((ps.length : Int) < (ps.length : Int)) = false := by simp
      have HF := hide (InPt.done HL.out HC.out HI.out (On.set (Kp.refl _ wr) 5 (.int .i64 (pos : Int))) ((HI.out).nd.set5 _))
      go_wp2_with fail
      go_ret
      exact ⟨retn (HF.out).1, (HF.out).2⟩
    have i1 : decide (j < ps.length) = true := by simp; omega
    have i2 : decide ((j : Int) < (ps.length : Int)) = true := by simp; omega
    have hi1 : (0 : Int) ≤ (j : Int) := Int.natCast_nonneg _
    have hi2 : (j : Int) < (ps.length : Int) := by omega
    obtain ⟨p, hpj⟩ : ∃ p, ps[j]? = some p := ⟨ps[j], List.getElem?_eq_getElem hlt⟩
    obtain ⟨g, rfl, hcell⟩ := (HI.out).row j hlt
    have hm := (HI.out).todo j p (Nat.le_refl _) hpj
    obtain ⟨Nj, rvj, ij, hvj, hNj1, hNj2, hndj⟩ := hm.node
    have hposb : pos + (X.pb p).length ≤ 1073741824 := by
      have h1 := (HI.out).pos
      have hd : ps.drop j = p :: ps.drop (j + 1) := by
        rw [List.drop_eq_getElem_cons hlt]; congr 1
        exact Option.some.inj ((List.getElem?_eq_getElem hlt).symm.trans hpj)
      rw [hd, X.psb, List.length_append] at h1
      omega
    have HCall := hide ((HIH.out) j p hpj (L j) (H j) (vs j) pos wr hm hposb)
    have HP := hide hpj
    rw [hvj] at hcell HCall
    have HVJ := hide hvj
    have hNN : ¬ N = Nj := by have := ((HL.out).hs j hlt).2.2.2.1; omega
    have hNN' : ¬ Nj = N := fun e => hNN e.symm
    have HNI : Hid (¬ (L j ≤ N ∧ N < H j)) := ((HL.out).hs j hlt).2.2.2.1
    clear hm hndj hvj hpj
    go_wp2_with fail
    refine (HCall.out).mono ?_
    rintro e w2 ⟨rfl, H2⟩
    have hm2 := (H2.out).1
    have hk2 := (H2.out).2
    obtain ⟨Nj2, rvj2, ij2, hvj2, -, -, hndj2⟩ := hm2.node
    obtain rfl : Nj = Nj2 := by simpa using hvj2
    rw [← HVJ.out] at hm2
    have HM2 := hide hm2
    have HK2 := hide hk2
    have HNd2 : Hid (Nd w2 N k 0 [] (.slice (some ⟨g, 0, none⟩) ps.length cap) i 0 fr tt la) := hk2.heap (HI.out).nd HNI.out
    have HNdj := hide hndj2
    clear hm2 hk2 hndj2 hvj2 H2 c0 c1 c2 c3 c4 c5 c6 c7 c8 f4 f5 f6 f7 f8 hcell HCall
    obtain ⟨⟨c0, c1, c2, c3, c4, c5, c6, c7, c8⟩, f4, f5, f6, f7, f8⟩ := (HNd2.out).facts
    obtain ⟨⟨d0, d1, d2, d3, d4, d5, d6, d7, d8⟩, -⟩ := (HNdj.out).facts
    have HNext := hide (fun (W : World) (fr' tt' : Int) (la' : Bool) => InPt.next (W := W) (fr' := fr') (tt' := tt') (la' := la') HL.out HI.out HP.out HM2.out HK2.out)
    clear HM2 HK2
    generalize X.put p pos = q at *
    by_cases hf : fr < 0
    · have i3 : decide (fr < 0) = true := by simpa using hf
      have HN3 : Hid (Nd (w2.setCell ⟨N, 6, none⟩ (.int .i64 q.fr)) N k 0 [] (.slice (some ⟨g, 0, none⟩) ps.length cap) i 0 q.fr tt la) := (HNd2.out).set6 _
      have HK3 : Hid (Kp (fun x => x = N) w2 (w2.setCell ⟨N, 6, none⟩ (.int .i64 q.fr))) := On.set (Kp.refl _ w2) 6 _
      have HE1 : Hid (q.fr = if fr < 0 then q.fr else fr) := by show _ = _; rw [if_pos hf]
      have HJ3 : Hid (Nd (w2.setCell ⟨N, 6, none⟩ (.int .i64 q.fr)) Nj q.k q.t q.x rvj2 ij2 q.en q.fr q.tt q.la) := (HK3.out).heap HNdj.out hNN'
      go_wp2_with fail
      clear c0 c1 c2 c3 c4 c5 c6 c7 c8 f4 f5 f6 f7 f8 d0 d1 d2 d3 d4 d5 d6 d7 d8 HNd2 HNdj hf i3
      generalize w2.setCell ⟨N, 6, none⟩ (.int .i64 q.fr) = W3 at *
      obtain ⟨⟨c0, c1, c2, c3, c4, c5, c6, c7, c8⟩, f4, f5, f6, f7, f8⟩ := (HN3.out).facts
      obtain ⟨⟨d0, d1, d2, d3, d4, d5, d6, d7, d8⟩, -⟩ := (HJ3.out).facts
      go_quiet (fail)
      have HN4 : Hid (Nd (W3.drewN nq) N k 0 [] (.slice (some ⟨g, 0, none⟩) ps.length cap) i 0 q.fr tt la) := HN3.out
      have HJ4 : Hid (Nd (W3.drewN nq) Nj q.k q.t q.x rvj2 ij2 q.en q.fr q.tt q.la) := HJ3.out
      have HK4 : Hid (Kp (fun x => x = N) w2 (W3.drewN nq)) := Kp.trans HK3.out (On.drewN N W3 nq) (fun _ _ e => e)
      clear c0 c1 c2 c3 c4 c5 c6 c7 c8 f4 f5 f6 f7 f8 d0 d1 d2 d3 d4 d5 d6 d7 d8 HN3 HJ3 HK3
      generalize W3.drewN nq = W4 at *
      obtain ⟨⟨c0, c1, c2, c3, c4, c5, c6, c7, c8⟩, f4, f5, f6, f7, f8⟩ := (HN4.out).facts
      obtain ⟨⟨d0, d1, d2, d3, d4, d5, d6, d7, d8⟩, -⟩ := (HJ4.out).facts
      by_cases ht : q.tt > tt
      · have i4 : decide (tt < q.tt) = true := by simpa using ht
        cases hla : q.la with
        | true =>
          go_wp2_with fail
          exact ⟨⟨j + 1, pos + (X.pb p).length, q.fr, q.tt, true, by go_num, by go_num, by omega, (HNext.out) _ _ _ _ (Kp.trans HK4.out (On.set (On.set (Kp.refl _ W4) 7 _) 8 _) (fun _ _ e => e)) (((HN4.out).set7 _).set8 _) HE1.out (by rw [if_pos ht]) (by rw [hla]; simp)⟩, by simp only [intOf]; omega⟩
        | false =>
          go_wp2_with fail
          exact ⟨⟨j + 1, pos + (X.pb p).length, q.fr, q.tt, la, by go_num, by go_num, by omega, (HNext.out) _ _ _ _ (Kp.trans HK4.out (On.set (Kp.refl _ W4) 7 _) (fun _ _ e => e)) ((HN4.out).set7 _) HE1.out (by rw [if_pos ht]) (by rw [hla]; simp)⟩, by simp only [intOf]; omega⟩
      · have i4 : decide (tt < q.tt) = false := by simpa using ht
        cases hla : q.la with
        | true =>
          go_wp2_with fail
          exact ⟨⟨j + 1, pos + (X.pb p).length, q.fr, tt, true, by go_num, by go_num, by omega, (HNext.out) _ _ _ _ (Kp.trans HK4.out (On.set (Kp.refl _ W4) 8 _) (fun _ _ e => e)) ((HN4.out).set8 _) HE1.out (by rw [if_neg ht]) (by rw [hla]; simp)⟩, by simp only [intOf]; omega⟩
        | false =>
          go_wp2_with fail
          exact ⟨⟨j + 1, pos + (X.pb p).length, q.fr, tt, la, by go_num, by go_num, by omega, (HNext.out) _ _ _ _ (Kp.trans HK4.out (Kp.refl _ W4) (fun _ _ e => e)) (HN4.out) HE1.out (by rw [if_neg ht]) (by rw [hla]; simp)⟩, by simp only [intOf]; omega⟩
    · have i3 : decide (fr < 0) = false := by simpa using hf
      have HN3 := hide HNd2.out
      have HK3 : Hid (Kp (fun x => x = N) w2 w2) := Kp.refl _ w2
      have HE1 : Hid (fr = if fr < 0 then q.fr else fr) := by show _ = _; rw [if_neg hf]
      have HJ3 := hide HNdj.out
      go_wp2_with fail
      clear c0 c1 c2 c3 c4 c5 c6 c7 c8 f4 f5 f6 f7 f8 d0 d1 d2 d3 d4 d5 d6 d7 d8 HNd2 HNdj hf i3
      obtain ⟨⟨c0, c1, c2, c3, c4, c5, c6, c7, c8⟩, f4, f5, f6, f7, f8⟩ := (HN3.out).facts
      obtain ⟨⟨d0, d1, d2, d3, d4, d5, d6, d7, d8⟩, -⟩ := (HJ3.out).facts
      go_quiet (fail)
      have HN4 : Hid (Nd (w2.drewN nq) N k 0 [] (.slice (some ⟨g, 0, none⟩) ps.length cap) i 0 fr tt la) := HN3.out
      have HJ4 : Hid (Nd (w2.drewN nq) Nj q.k q.t q.x rvj2 ij2 q.en q.fr q.tt q.la) := HJ3.out
      have HK4 : Hid (Kp (fun x => x = N) w2 (w2.drewN nq)) := Kp.trans HK3.out (On.drewN N w2 nq) (fun _ _ e => e)
      clear c0 c1 c2 c3 c4 c5 c6 c7 c8 f4 f5 f6 f7 f8 d0 d1 d2 d3 d4 d5 d6 d7 d8 HN3 HJ3 HK3
      generalize w2.drewN nq = W4 at *
      obtain ⟨⟨c0, c1, c2, c3, c4, c5, c6, c7, c8⟩, f4, f5, f6, f7, f8⟩ := (HN4.out).facts
      obtain ⟨⟨d0, d1, d2, d3, d4, d5, d6, d7, d8⟩, -⟩ := (HJ4.out).facts
      by_cases ht : q.tt > tt
      · have i4 : decide (tt < q.tt) = true := by simpa using ht
        cases hla : q.la with
        | true =>
          go_wp2_with fail
          exact ⟨⟨j + 1, pos + (X.pb p).length, fr, q.tt, true, by go_num, by go_num, by omega, (HNext.out) _ _ _ _ (Kp.trans HK4.out (On.set (On.set (Kp.refl _ W4) 7 _) 8 _) (fun _ _ e => e)) (((HN4.out).set7 _).set8 _) HE1.out (by rw [if_pos ht]) (by rw [hla]; simp)⟩, by simp only [intOf]; omega⟩
        | false =>
          go_wp2_with fail
          exact ⟨⟨j + 1, pos + (X.pb p).length, fr, q.tt, la, by go_num, by go_num, by omega, (HNext.out) _ _ _ _ (Kp.trans HK4.out (On.set (Kp.refl _ W4) 7 _) (fun _ _ e => e)) ((HN4.out).set7 _) HE1.out (by rw [if_pos ht]) (by rw [hla]; simp)⟩, by simp only [intOf]; omega⟩
      · have i4 : decide (tt < q.tt) = false := by simpa using ht
        cases hla : q.la with
        | true =>
          go_wp2_with fail
          exact ⟨⟨j + 1, pos + (X.pb p).length, fr, tt, true, by go_num, by go_num, by omega, (HNext.out) _ _ _ _ (Kp.trans HK4.out (On.set (Kp.refl _ W4) 8 _) (fun _ _ e => e)) ((HN4.out).set8 _) HE1.out (by rw [if_neg ht]) (by rw [hla]; simp)⟩, by simp only [intOf]; omega⟩
        | false =>
          go_wp2_with fail
          exact ⟨⟨j + 1, pos + (X.pb p).length, fr, tt, la, by go_num, by go_num, by omega, (HNext.out) _ _ _ _ (Kp.trans HK4.out (Kp.refl _ W4) (fun _ _ e => e)) (HN4.out) HE1.out (by rw [if_neg ht]) (by rw [hla]; simp)⟩, by simp only [intOf]; omega⟩
theorem put_any : ∀ (n : Nat) (p : X.Part), X.psz p ≤ n → X.psz p ≤ 1073741824 → X.kok p → PutOk p := by
  intro n
  induction n with
  | zero => intro p h; have := X.psz_pos p; omega
  | succ n ih =>
    intro p hn hb hk
    cases p with
    | leaf k x => exact put_leaf k x
    | miss m => exact put_miss m
    | br k ps =>
      rw [X.psz] at hn hb
      rw [X.kok] at hk
      have hl := X.pssz_len ps
      exact put_br k ps hk.1 (fun j p hj => by
        have := X.pssz_mem ps j p hj
        exact ih p (by omega) (by omega) (X.koks_mem ps j p hk.2 hj)) (by omega)
end Go.Proofs.YtkampoaceipngaaGreatDoor
/- Plain mathematics: what is wrong in a tree, as the document tells it. -/
namespace Go.Proofs.YtkampoaceipngaaGreatDoor
open M
namespace X
mutual
/-- What the document tells of a node. -/
def nq : Q → List Nt
  | .mk k t _ qs i en fr tt _ => (if k = 0 ∧ t = 8 then [(i, en, 3)] else []) ++ ((if k = 1 then [(i, i, 9)] else []) ++ ((if k = 5 then [(fr, tt, 3)] else []) ++ nqs qs))
def nqs : List Q → List Nt
  | [] => []
  | q :: qs => nq q ++ nqs qs
end
theorem puts_fr : ∀ (ps : List Part) (i f t : Int) (l : Bool), 0 ≤ f → (puts ps i f t l).2.2.1 = f
  | [], i, f, t, l, _ => by rw [puts]
  | p :: ps, i, f, t, l, h => by
    rw [puts]
    show (puts ps _ _ _ _).2.2.1 = f
    rw [if_neg (by omega)]; exact puts_fr ps _ _ _ _ h
theorem junk_fr : ∀ (ps : List Part) (i : Nat) (t : Int) (l : Bool), (∀ p ∈ ps, lv p = true) → (∃ p ∈ ps, ∃ k x, p = .leaf k x ∧ ¬ (k = 1 ∨ k = 2)) → (puts ps i (-1) t l).2.2.1 = ((i + qlen ps : Nat) : Int)
  | [], i, t, l, _, h => by obtain ⟨p, hp, -⟩ := h; cases hp
  | p :: ps, i, t, l, h1, h2 => by
    have hp := h1 p (List.mem_cons_self ..)
    cases p with
    | miss m => cases hp
    | br k qs => cases hp
    | leaf k x =>
      rw [puts]
      show (puts ps _ _ _ _).2.2.1 = _
      rw [if_pos (by omega : (-1 : Int) < 0), put_en, qlen]
      by_cases hk : k = 1 ∨ k = 2
      · have e1 : (put (.leaf k x) i).fr = -1 := by rw [put]; show (if k = 1 ∨ k = 2 then (-1 : Int) else i) = -1; rw [if_pos hk]
        rw [e1, if_pos hk]
        have h3 : ∃ p ∈ ps, ∃ k x, p = .leaf k x ∧ ¬ (k = 1 ∨ k = 2) := by
          obtain ⟨p, hp, k', x', e, hn⟩ := h2
          rcases List.mem_cons.1 hp with h | h
          · rw [h] at e; injection e with e3 e4; subst e3; exact absurd hk hn
          · exact ⟨p, h, k', x', e, hn⟩
        have := junk_fr ps (i + (pb (.leaf k x)).length) (if (put (.leaf k x) ↑i).tt > t then (put (.leaf k x) ↑i).tt else t) (l || (put (.leaf k x) ↑i).la) (fun q hq => h1 q (List.mem_cons_of_mem _ hq)) h3
        rw [Int.natCast_add] at this
        rw [this, pb]; omega
      · have e1 : (put (.leaf k x) i).fr = i := by rw [put]; show (if k = 1 ∨ k = 2 then (-1 : Int) else i) = i; rw [if_neg hk]
        rw [e1, if_neg hk, puts_fr _ _ _ _ _ (by omega)]; rfl
theorem junk_tt : ∀ (ps : List Part) (i : Nat) (f t : Int) (l : Bool), (∀ p ∈ ps, lv p = true) → (∃ m k x, ps = m ++ [.leaf k x] ∧ ¬ (k = 1 ∨ k = 2)) → t ≤ i → (puts ps i f t l).2.2.2.1 = ((i + (psb ps).length : Nat) : Int)
  | [], i, f, t, l, _, h, _ => by obtain ⟨m, k, x, e, -⟩ := h; simp at e
  | p :: ps, i, f, t, l, h1, h2, h3 => by
    have hp := h1 p (List.mem_cons_self ..)
    cases p with
    | miss m => cases hp
    | br k qs => cases hp
    | leaf k x =>
      rw [puts]
      show (puts ps _ _ _ _).2.2.2.1 = _
      rw [put_en, psb, pb, List.length_append]
      have e1 : (put (.leaf k x) i).tt = if k = 1 ∨ k = 2 then -1 else (i : Int) + x.length := by rw [put]; rfl
      rw [e1]
      obtain ⟨m, k', x', e, hn⟩ := h2
      cases m with
      | nil =>
        simp only [List.nil_append, List.cons.injEq] at e
        obtain ⟨e2, rfl⟩ := e
        injection e2 with e3 e4
        subst e3
        subst e4
        rw [puts, if_neg hn]
        show (if (i : Int) + x.length > t then (i : Int) + x.length else t) = _
        simp only [psb, List.length_nil]
        split <;> omega
      | cons q m =>
        simp only [List.cons_append, List.cons.injEq] at e
        have := junk_tt ps (i + x.length) (if f < 0 then (put (.leaf k x) ↑i).fr else f) (if (if k = 1 ∨ k = 2 then (-1 : Int) else (i : Int) + x.length) > t then (if k = 1 ∨ k = 2 then -1 else (i : Int) + x.length) else t) (l || (put (.leaf k x) ↑i).la) (fun q hq => h1 q (List.mem_cons_of_mem _ hq)) ⟨m, k', x', e.2, hn⟩ (by split <;> (try split) <;> omega)
        rw [Int.natCast_add] at this
        rw [this]; omega
mutual
/-- Both tell the same. -/
theorem nq_put : ∀ (p : Part) (i : Nat), kok p → jok p → nq (put p i) = nts p i
  | .leaf k x, i, _, _ => by
    rw [put, nq, nts, nqs]
    by_cases h : k = 8
    · simp [h]
    · simp [h]
  | .miss m, i, _, _ => by rw [put, nq, nts, nqs]; simp
  | .br k ps, i, hk, hj => by
    rw [kok] at hk
    rw [jok] at hj
    rw [put, nq, nts, nqs_puts ps i _ _ _ hk.2 hj.2]
    have h0 : ¬ (k = 0 ∧ (0 : Nat) = 8) := by omega
    rw [if_neg h0, List.nil_append]
    rw [if_neg hj.1.1, List.nil_append]
    by_cases h5 : k = 5
    · rw [if_pos h5, if_pos h5]
      obtain ⟨j1, j2⟩ := hj.1.2 h5
      obtain ⟨m, k', x', e, hn⟩ := j2
      rw [junk_fr ps i _ _ j1 ⟨_, by rw [e]; simp, k', x', rfl, hn⟩, junk_tt ps i _ _ _ j1 ⟨m, k', x', e, hn⟩ (by omega)]
    · rw [if_neg h5, if_neg h5]
theorem nqs_puts : ∀ (ps : List Part) (i : Nat) (f t : Int) (l : Bool), koks ps → joks ps → nqs (puts ps i f t l).1 = ntss ps i
  | [], i, f, t, l, _, _ => by rw [puts, nqs, ntss]
  | p :: ps, i, f, t, l, hk, hj => by
    rw [koks] at hk
    rw [joks] at hj
    rw [puts, ntss]
    show nqs (put p i :: (puts ps _ _ _ _).1) = _
    rw [nqs, nq_put p i hk.1 hj.1, put_en]
    have := nqs_puts ps (i + (pb p).length) (if f < 0 then (put p ↑i).fr else f) (if (put p ↑i).tt > t then (put p ↑i).tt else t) (l || (put p ↑i).la) hk.2 hj.2
    rw [Int.natCast_add] at this
    rw [this]
end
end X
end Go.Proofs.YtkampoaceipngaaGreatDoor
/- Are the program's node and the document's the same? -/
namespace Go.Proofs.YtkampoaceipngaaGreatDoor
open Go.RowKit
open M
theorem X.puts_get : ∀ (ps : List X.Part) (i f t : Int) (l : Bool) (j : Nat) (p : X.Part), ps[j]? = some p → ∃ i', (X.puts ps i f t l).1[j]? = some (X.put p i')
  | [], i, f, t, l, j, p, h => by simp at h
  | q :: ps, i, f, t, l, 0, p, h => by
    obtain rfl : q = p := by simpa using h
    exact ⟨i, by rw [X.puts]; rfl⟩
  | q :: ps, i, f, t, l, j + 1, p, h => by
    obtain ⟨i', h'⟩ := X.puts_get ps _ _ _ _ j p (by simpa using h)
    exact ⟨i', by rw [X.puts]; exact h'⟩
/-- What Node of package same does of a part. -/
def SameOk (p : X.Part) : Prop := ∀ (D : Nat → Prop) (lo hi : Nat) (v b : Value) (i : Int) (w : World), IsN w D v p → IsM w lo hi b (X.put p i) →
  Calls Tryz.prog 9 #[v, b] w fun e w' => e = .returned (.bool true) ∧ Below w.heap.size w w'
set_option maxRecDepth 100000 in
set_option maxHeartbeats 2000000 in
theorem node_same (k t : Nat) (x : List UInt8) (ao ao2 : Option Addr) (n cap cap2 N : Nat) (c0 c1 c2 c3 vs : Nat → Value) (at0 en fr tt : Int) (la : Bool) (w : World) (hn : n ≤ 1073741824) (hnd : Nd w N k t x (.slice ao2 n cap2) at0 en fr tt la)
    (hA : ∀ j, j < n → ∃ g, ao = some ⟨g, 0, none⟩ ∧ w.cell? ⟨g, j * 4, none⟩ = some (c0 j) ∧ w.cell? ⟨g, j * 4 + 1, none⟩ = some (c1 j) ∧ w.cell? ⟨g, j * 4 + 2, none⟩ = some (c2 j) ∧ w.cell? ⟨g, j * 4 + 3, none⟩ = some (c3 j))
    (hB : ∀ j, j < n → ∃ g, ao2 = some ⟨g, 0, none⟩ ∧ w.cell? ⟨g, j, none⟩ = some (vs j))
    (hCall : ∀ j, j < n → ∀ W, Below w.heap.size w W → Calls Tryz.prog 9 #[.agg #[c0 j, c1 j, c2 j, c3 j], vs j] W fun e w' => e = .returned (.bool true) ∧ Below W.heap.size W w') :
    Calls Tryz.prog 9 #[.agg #[.int .i64 k, .int .i64 t, .string (ba x), .slice ao n cap], .pointer (some ⟨N, 0, none⟩)] w fun e w' => e = .returned (.bool true) ∧ Below w.heap.size w w' := by
  have HA := hide hA
  have HB := hide hB
  have HCall := hide hCall
  have HND := hide hnd
  have hNl := heap_lt hnd
  clear hA hB hCall hnd
  have kA : Below w.heap.size w (w.alloc (.cells #[.int .i64 k, .int .i64 t, .string (ba x), .slice ao n cap] 26)) := (Below.refl _ w).alloc (Nat.le_refl _) _
  have HBlk : Hid ((w.alloc (.cells #[.int .i64 k, .int .i64 t, .string (ba x), .slice ao n cap] 26)).heap[w.heap.size]? = some (.cells #[.int .i64 k, .int .i64 t, .string (ba x), .slice ao n cap] 26 (0, 0))) := heap_alloc_new w _
  have HKA := hide kA
  clear kA
  go_enter Tryz.func9, Tryz.ntmps9
  go_wp2_with fail
  generalize w.alloc (.cells #[.int .i64 k, .int .i64 t, .string (ba x), .slice ao n cap] 26) = W at *
  have a0 : W.cell? ⟨w.heap.size, 0, none⟩ = some (.int .i64 k) := cell_of_row W _ 0 _ _ _ HBlk.out
  have a1 : W.cell? ⟨w.heap.size, 1, none⟩ = some (.int .i64 t) := cell_of_row W _ 1 _ _ _ HBlk.out
  have a2 : W.cell? ⟨w.heap.size, 2, none⟩ = some (.string (ba x)) := cell_of_row W _ 2 _ _ _ HBlk.out
  have a3 : W.cell? ⟨w.heap.size, 3, none⟩ = some (.slice ao n cap) := cell_of_row W _ 3 _ _ _ HBlk.out
  obtain ⟨⟨m0, m1, m2, m3, -⟩, -⟩ := Nd.facts ((Kp.ofBelow HKA.out (fun _ => False)).heap HND.out id)
  have i1 : ((k : Int) != (k : Int)) = false := by simp
  have i2 : ((t : Int) != (t : Int)) = false := by simp
  have i3 : ((ba x).toList != (ba x).toList) = false := by simp
  have i4 : ((n : Int) != (n : Int)) = false := by simp
  go_quiet (fail)
  go_wp2_with fail
  have hB0 : Below W.heap.size W (W.drewN nq) := belowN (Below.refl _ W) nq
  have hWl : w.heap.size < W.heap.size := heap_lt HBlk.out
  go_loopw [5] (fun v wr => ∃ j : Nat, v = .int .i64 j ∧ j ≤ n ∧ Hid (Below W.heap.size W wr)) (fun v _ => n - (intOf v).toNat)
  case atStart => exact ⟨0, rfl, Nat.zero_le _, hB0⟩
  case round =>
    obtain ⟨j, rfl, hj, HB2⟩ := hrel
    clear hB0 a0 a1 a2 a3 m0 m1 m2 m3 i1 i2 i3 i4
    have hkk := Kp.ofBelow HB2.out (fun _ => False)
    have a3 : wr.cell? ⟨w.heap.size, 3, none⟩ = some (.slice ao n cap) := hkk.cellv (cell_of_row W _ 3 _ _ _ HBlk.out) id
    obtain ⟨⟨m0, m1, m2, m3, -⟩, -⟩ := Nd.facts (hkk.heap ((Kp.ofBelow HKA.out (fun _ => False)).heap HND.out id) id)
    have HAll : Hid (Below w.heap.size w wr) := (HKA.out).trans ((HB2.out).mono (by omega))
    by_cases hlt : j < n
    case neg =>
      have i5 : decide (j < n) = false := by simp; omega
      have i6 : decide ((j : Int) < (n : Int)) = false := by simp; omega
      clear hkk
      go_wp2_with fail
      go_ret
      exact ⟨rfl, HAll.out⟩
    have i5 : decide (j < n) = true := by simp; omega
    have i6 : decide ((j : Int) < (n : Int)) = true := by simp; omega
    obtain ⟨gA, rfl, q0, q1, q2, q3⟩ := (HA.out) j hlt
    obtain ⟨gB, rfl, q4⟩ := (HB.out) j hlt
    have hka := Kp.ofBelow HAll.out (fun _ => False)
    have p0 := hka.cellv q0 id
    have p1 := hka.cellv q1 id
    have p2 := hka.cellv q2 id
    have p3 := hka.cellv q3 id
    have p4 := hka.cellv q4 id
    have hi1 : (0 : Int) ≤ (j : Int) := Int.natCast_nonneg _
    have hi2 : (j : Int) < (n : Int) := by omega
    have HC := hide ((HCall.out) j hlt)
    have hrw : w.heap.size ≤ wr.heap.size := (HAll.out).size
    clear q0 q1 q2 q3 q4 hka hkk
    go_wp2_with fail
    go_region_held3 (fun w' => w'.cell? ⟨w.heap.size, 3, none⟩ = some (.slice (some ⟨gA, 0, none⟩) n cap) ∧ w'.cell? ⟨gA, j * 4, none⟩ = some (c0 j) ∧ w'.cell? ⟨gA, j * 4 + 1, none⟩ = some (c1 j) ∧ w'.cell? ⟨gA, j * 4 + 2, none⟩ = some (c2 j) ∧ w'.cell? ⟨gA, j * 4 + 3, none⟩ = some (c3 j) ∧ w'.cell? ⟨N, 3, none⟩ = some (.slice (some ⟨gB, 0, none⟩) n cap2) ∧ w'.cell? ⟨gB, j, none⟩ = some (vs j))
      (first | (with_reducible exact ⟨kcb K2 (World.block_lt_of_cell? _ _ a3) a3, kcb K2 (World.block_lt_of_cell? _ _ p0) p0, kcb K2 (World.block_lt_of_cell? _ _ p1) p1, kcb K2 (World.block_lt_of_cell? _ _ p2) p2, kcb K2 (World.block_lt_of_cell? _ _ p3) p3, kcb K2 (World.block_lt_of_cell? _ _ m3) m3, kcb K2 (World.block_lt_of_cell? _ _ p4) p4⟩) | go_keep)
      ((go_at_call 9; refine ((HC.out) _ ?_).mono ?_; exact (HAll.out).drew; rintro e w5 ⟨rfl, k5⟩; have K2 : Below wr.heap.size wr w5 := ((Below.refl _ wr).drew).trans k5; have HK5 : Hid (Below W.heap.size W w5) := (HB2.out).trans (K2.mono (HB2.out).size)))
    go_wp2_with fail
    exact ⟨⟨j + 1, by go_num, by omega, HK5⟩, by simp only [intOf]; omega⟩
theorem same_any : ∀ (n : Nat) (p : X.Part), X.psz p ≤ n → X.psz p ≤ 1073741824 → SameOk p := by
  intro n
  induction n with
  | zero => intro p h; have := X.psz_pos p; omega
  | succ n ih =>
    intro p hn hb D lo hi v b i w h1 h2
    cases h1 with
    | leaf k x =>
      rw [X.put] at h2
      cases h2 with
      | mk _ _ N _ _ _ qs at0 en fr tt la ao cap vs L H hN hbk hc hr hs hp =>
        exact node_same 0 k x none ao 0 0 cap N (fun _ => undef) (fun _ => undef) (fun _ => undef) (fun _ => undef) (fun _ => undef) _ _ _ _ _ w (by omega) hbk (fun j hj => by omega) (fun j hj => by omega) (fun j hj => by omega)
    | miss m =>
      rw [X.put] at h2
      cases h2 with
      | mk _ _ N _ _ _ qs at0 en fr tt la ao cap vs L H hN hbk hc hr hs hp =>
        exact node_same 1 0 m none ao 0 0 cap N (fun _ => undef) (fun _ => undef) (fun _ => undef) (fun _ => undef) (fun _ => undef) _ _ _ _ _ w (by omega) hbk (fun j hj => by omega) (fun j hj => by omega) (fun j hj => by omega)
    | br k cap ao c0 c1 c2 c3 ps hc hr hp =>
      rw [X.put] at h2
      cases h2 with
      | mk _ _ N _ _ _ qs at0 en fr tt la ao2 cap2 vs L H hN hbk hc2 hr2 hs2 hp2 =>
        rw [X.puts_len] at hbk hr2
        rw [X.psz] at hn hb
        have hpl := X.pssz_len ps
        refine node_same k 0 [] ao ao2 ps.length cap cap2 N c0 c1 c2 c3 vs _ _ _ _ _ w (by omega) hbk (fun j hj => ?_) (fun j hj => ?_) (fun j hj W hW => ?_)
        · obtain ⟨g, e1, -, e2⟩ := hr j hj
          exact ⟨g, e1, e2⟩
        · obtain ⟨g, e1, -, -, -, -, e2⟩ := hr2 j hj
          exact ⟨g, e1, e2⟩
        · have hpj : ps[j]? = some ps[j] := List.getElem?_eq_getElem hj
          obtain ⟨i', hi'⟩ := X.puts_get ps i (-1) (-1) (k == 1) j _ hpj
          have := X.pssz_mem ps j _ hpj
          have hk := Kp.ofBelow hW (fun _ => False)
          exact ih ps[j] (by omega) (by omega) D (L j) (H j) _ _ i' W ((hp j _ hpj).kept hk (fun _ e => e.elim)) ((hp2 j _ hi').keep hk (fun _ _ _ => id))
end Go.Proofs.YtkampoaceipngaaGreatDoor
/- Are two nodes of the program the same? -/
namespace Go.Proofs.YtkampoaceipngaaGreatDoor
open Go.RowKit
open M
/-- What Nodes of package same does of a part. -/
def SamesOk (p : X.Part) : Prop := ∀ (D D2 : Nat → Prop) (v b : Value) (w : World), IsN w D v p → IsN w D2 b p →
  Calls Tryz.prog 17 #[v, b] w fun e w' => e = .returned (.bool true) ∧ Below w.heap.size w w'
set_option maxRecDepth 100000 in
set_option maxHeartbeats 2000000 in
theorem nodes_same (k t : Nat) (x : List UInt8) (ao ao2 : Option Addr) (n cap cap2 : Nat) (c0 c1 c2 c3 d0 d1 d2 d3 : Nat → Value) (w : World) (hn : n ≤ 1073741824)
    (hA : ∀ j, j < n → ∃ g, ao = some ⟨g, 0, none⟩ ∧ w.cell? ⟨g, j * 4, none⟩ = some (c0 j) ∧ w.cell? ⟨g, j * 4 + 1, none⟩ = some (c1 j) ∧ w.cell? ⟨g, j * 4 + 2, none⟩ = some (c2 j) ∧ w.cell? ⟨g, j * 4 + 3, none⟩ = some (c3 j))
    (hB : ∀ j, j < n → ∃ g, ao2 = some ⟨g, 0, none⟩ ∧ w.cell? ⟨g, j * 4, none⟩ = some (d0 j) ∧ w.cell? ⟨g, j * 4 + 1, none⟩ = some (d1 j) ∧ w.cell? ⟨g, j * 4 + 2, none⟩ = some (d2 j) ∧ w.cell? ⟨g, j * 4 + 3, none⟩ = some (d3 j))
    (hCall : ∀ j, j < n → ∀ W, Below w.heap.size w W → Calls Tryz.prog 17 #[.agg #[c0 j, c1 j, c2 j, c3 j], .agg #[d0 j, d1 j, d2 j, d3 j]] W fun e w' => e = .returned (.bool true) ∧ Below W.heap.size W w') :
    Calls Tryz.prog 17 #[.agg #[.int .i64 k, .int .i64 t, .string (ba x), .slice ao n cap], .agg #[.int .i64 k, .int .i64 t, .string (ba x), .slice ao2 n cap2]] w fun e w' => e = .returned (.bool true) ∧ Below w.heap.size w w' := by
  have HA := hide hA
  have HB := hide hB
  have HCall := hide hCall
  clear hA hB hCall
  have HKA : Hid (Below w.heap.size w ((w.alloc (.cells #[.int .i64 k, .int .i64 t, .string (ba x), .slice ao n cap] 26)).alloc (.cells #[.int .i64 k, .int .i64 t, .string (ba x), .slice ao2 n cap2] 26))) := ((Below.refl _ w).alloc (Nat.le_refl _) _).alloc (by simp) _
  have HBlk : Hid (((w.alloc (.cells #[.int .i64 k, .int .i64 t, .string (ba x), .slice ao n cap] 26)).alloc (.cells #[.int .i64 k, .int .i64 t, .string (ba x), .slice ao2 n cap2] 26)).heap[w.heap.size]? = some (.cells #[.int .i64 k, .int .i64 t, .string (ba x), .slice ao n cap] 26 (0, 0))) := (heap_alloc_old (w.alloc _) _ (show w.heap.size < _ by simp)).trans (heap_alloc_new w _)
  have HBlk2 : Hid (((w.alloc (.cells #[.int .i64 k, .int .i64 t, .string (ba x), .slice ao n cap] 26)).alloc (.cells #[.int .i64 k, .int .i64 t, .string (ba x), .slice ao2 n cap2] 26)).heap[w.heap.size + 1]? = some (.cells #[.int .i64 k, .int .i64 t, .string (ba x), .slice ao2 n cap2] 26 (0, 0))) := by
    have := heap_alloc_new (w.alloc (.cells #[.int .i64 k, .int .i64 t, .string (ba x), .slice ao n cap] 26)) (.cells #[.int .i64 k, .int .i64 t, .string (ba x), .slice ao2 n cap2] 26)
    rwa [World.size_alloc] at this
  go_enter Tryz.func17, Tryz.ntmps17
  go_wp2_with fail
  generalize (w.alloc (.cells #[.int .i64 k, .int .i64 t, .string (ba x), .slice ao n cap] 26)).alloc (.cells #[.int .i64 k, .int .i64 t, .string (ba x), .slice ao2 n cap2] 26) = W at *
  have a0 : W.cell? ⟨w.heap.size, 0, none⟩ = some (.int .i64 k) := cell_of_row W _ 0 _ _ _ HBlk.out
  have a1 : W.cell? ⟨w.heap.size, 1, none⟩ = some (.int .i64 t) := cell_of_row W _ 1 _ _ _ HBlk.out
  have a2 : W.cell? ⟨w.heap.size, 2, none⟩ = some (.string (ba x)) := cell_of_row W _ 2 _ _ _ HBlk.out
  have a3 : W.cell? ⟨w.heap.size, 3, none⟩ = some (.slice ao n cap) := cell_of_row W _ 3 _ _ _ HBlk.out
  have b0 : W.cell? ⟨w.heap.size + 1, 0, none⟩ = some (.int .i64 k) := cell_of_row W _ 0 _ _ _ HBlk2.out
  have b1 : W.cell? ⟨w.heap.size + 1, 1, none⟩ = some (.int .i64 t) := cell_of_row W _ 1 _ _ _ HBlk2.out
  have b2 : W.cell? ⟨w.heap.size + 1, 2, none⟩ = some (.string (ba x)) := cell_of_row W _ 2 _ _ _ HBlk2.out
  have b3 : W.cell? ⟨w.heap.size + 1, 3, none⟩ = some (.slice ao2 n cap2) := cell_of_row W _ 3 _ _ _ HBlk2.out
  have i1 : ((k : Int) != (k : Int)) = false := by simp
  have i2 : ((t : Int) != (t : Int)) = false := by simp
  have i3 : ((ba x).toList != (ba x).toList) = false := by simp
  have i4 : ((n : Int) != (n : Int)) = false := by simp
  have hB0 : Below W.heap.size W W := Below.refl _ W
  have hWl : w.heap.size < W.heap.size := heap_lt HBlk.out
  go_loopw [5] (fun v wr => ∃ j : Nat, v = .int .i64 j ∧ j ≤ n ∧ Hid (Below W.heap.size W wr)) (fun v _ => n - (intOf v).toNat)
  case atStart => exact ⟨0, rfl, Nat.zero_le _, hB0⟩
  case round =>
    obtain ⟨j, rfl, hj, HB2⟩ := hrel
    clear hB0 a0 a1 a2 a3 b0 b1 b2 b3 i1 i2 i3 i4
    have hkk := Kp.ofBelow HB2.out (fun _ => False)
    have a3 : wr.cell? ⟨w.heap.size, 3, none⟩ = some (.slice ao n cap) := hkk.cellv (cell_of_row W _ 3 _ _ _ HBlk.out) id
    have b3 : wr.cell? ⟨w.heap.size + 1, 3, none⟩ = some (.slice ao2 n cap2) := hkk.cellv (cell_of_row W _ 3 _ _ _ HBlk2.out) id
    have HAll : Hid (Below w.heap.size w wr) := (HKA.out).trans ((HB2.out).mono (by omega))
    by_cases hlt : j < n
    case neg =>
      have i5 : decide (j < n) = false := by simp; omega
      have i6 : decide ((j : Int) < (n : Int)) = false := by simp; omega
      clear hkk
      go_wp2_with fail
      go_ret
      exact ⟨rfl, HAll.out⟩
    have i5 : decide (j < n) = true := by simp; omega
    have i6 : decide ((j : Int) < (n : Int)) = true := by simp; omega
    obtain ⟨gA, rfl, q0, q1, q2, q3⟩ := (HA.out) j hlt
    obtain ⟨gB, rfl, r0, r1, r2, r3⟩ := (HB.out) j hlt
    have hka := Kp.ofBelow HAll.out (fun _ => False)
    have p0 := hka.cellv q0 id
    have p1 := hka.cellv q1 id
    have p2 := hka.cellv q2 id
    have p3 := hka.cellv q3 id
    have o0 := hka.cellv r0 id
    have o1 := hka.cellv r1 id
    have o2 := hka.cellv r2 id
    have o3 := hka.cellv r3 id
    have hi1 : (0 : Int) ≤ (j : Int) := Int.natCast_nonneg _
    have hi2 : (j : Int) < (n : Int) := by omega
    have HC := hide ((HCall.out) j hlt)
    have hrw : w.heap.size ≤ wr.heap.size := (HAll.out).size
    clear q0 q1 q2 q3 r0 r1 r2 r3 hka hkk
    go_wp2_with fail
    go_region_held3 (fun w' => w'.cell? ⟨w.heap.size, 3, none⟩ = some (.slice (some ⟨gA, 0, none⟩) n cap) ∧ w'.cell? ⟨gA, j * 4, none⟩ = some (c0 j) ∧ w'.cell? ⟨gA, j * 4 + 1, none⟩ = some (c1 j) ∧ w'.cell? ⟨gA, j * 4 + 2, none⟩ = some (c2 j) ∧ w'.cell? ⟨gA, j * 4 + 3, none⟩ = some (c3 j) ∧ w'.cell? ⟨w.heap.size + 1, 3, none⟩ = some (.slice (some ⟨gB, 0, none⟩) n cap2) ∧ w'.cell? ⟨gB, j * 4, none⟩ = some (d0 j) ∧ w'.cell? ⟨gB, j * 4 + 1, none⟩ = some (d1 j) ∧ w'.cell? ⟨gB, j * 4 + 2, none⟩ = some (d2 j) ∧ w'.cell? ⟨gB, j * 4 + 3, none⟩ = some (d3 j))
      (first | (with_reducible exact ⟨kcb K2 (World.block_lt_of_cell? _ _ a3) a3, kcb K2 (World.block_lt_of_cell? _ _ p0) p0, kcb K2 (World.block_lt_of_cell? _ _ p1) p1, kcb K2 (World.block_lt_of_cell? _ _ p2) p2, kcb K2 (World.block_lt_of_cell? _ _ p3) p3, kcb K2 (World.block_lt_of_cell? _ _ b3) b3, kcb K2 (World.block_lt_of_cell? _ _ o0) o0, kcb K2 (World.block_lt_of_cell? _ _ o1) o1, kcb K2 (World.block_lt_of_cell? _ _ o2) o2, kcb K2 (World.block_lt_of_cell? _ _ o3) o3⟩) | go_keep)
      ((go_at_call 17; refine ((HC.out) _ ?_).mono ?_; exact (HAll.out).drew; rintro e w5 ⟨rfl, k5⟩; have K2 : Below wr.heap.size wr w5 := ((Below.refl _ wr).drew).trans k5; have HK5 : Hid (Below W.heap.size W w5) := (HB2.out).trans (K2.mono (HB2.out).size)))
    go_wp2_with fail
    exact ⟨⟨j + 1, by go_num, by omega, HK5⟩, by simp only [intOf]; omega⟩
theorem sames_any : ∀ (n : Nat) (p : X.Part), X.psz p ≤ n → X.psz p ≤ 1073741824 → SamesOk p := by
  intro n
  induction n with
  | zero => intro p h; have := X.psz_pos p; omega
  | succ n ih =>
    intro p hn hb D D2 v b w h1 h2
    cases h1 with
    | leaf k x =>
      cases h2 with
      | leaf _ _ =>
        exact nodes_same 0 k x none none 0 0 0 (fun _ => undef) (fun _ => undef) (fun _ => undef) (fun _ => undef) (fun _ => undef) (fun _ => undef) (fun _ => undef) (fun _ => undef) w (by omega) (fun j hj => by omega) (fun j hj => by omega) (fun j hj => by omega)
    | miss m =>
      cases h2 with
      | miss _ =>
        exact nodes_same 1 0 m none none 0 0 0 (fun _ => undef) (fun _ => undef) (fun _ => undef) (fun _ => undef) (fun _ => undef) (fun _ => undef) (fun _ => undef) (fun _ => undef) w (by omega) (fun j hj => by omega) (fun j hj => by omega) (fun j hj => by omega)
    | br k cap ao c0 c1 c2 c3 ps hc hr hp =>
      cases h2 with
      | br _ cap2 ao2 d0 d1 d2 d3 _ hc2 hr2 hp2 =>
        rw [X.psz] at hn hb
        have hpl := X.pssz_len ps
        refine nodes_same k 0 [] ao ao2 ps.length cap cap2 c0 c1 c2 c3 d0 d1 d2 d3 w (by omega) (fun j hj => ?_) (fun j hj => ?_) (fun j hj W hW => ?_)
        · obtain ⟨g, e1, -, e2⟩ := hr j hj
          exact ⟨g, e1, e2⟩
        · obtain ⟨g, e1, -, e2⟩ := hr2 j hj
          exact ⟨g, e1, e2⟩
        · have hpj : ps[j]? = some ps[j] := List.getElem?_eq_getElem hj
          have := X.pssz_mem ps j _ hpj
          have hk := Kp.ofBelow hW (fun _ => False)
          exact ih ps[j] (by omega) (by omega) D D2 _ _ W ((hp j _ hpj).kept hk (fun _ e => e.elim)) ((hp2 j _ hpj).kept hk (fun _ e => e.elim))
end Go.Proofs.YtkampoaceipngaaGreatDoor
