/- Package syntax: expressions in memory. -/
import Derived.Test.YtdipmfdhnplpaaaGreatDoorVg
namespace Go.Proofs.YtdipmfdhnplpaaaGreatDoor
open Go.RowKit
open M
/-- An expression in memory, with all that is in it, in blocks from lo up to hi. -/
inductive IsE (w : World) (lo hi : Nat) : Value → X.Ex → Prop
  | lit (b k : Nat) (x : List UInt8) (hb : lo ≤ b ∧ b < hi) (h : w.heap[b]? = some (.cells #[.int .i64 k, .string (ba x)] 266 (0, 0))) : IsE w lo hi (.iface 264 (.pointer (some ⟨b, 0, none⟩))) (.lit k x)
  | hole (b i : Nat) (hb : lo ≤ b ∧ b < hi) (h : w.heap[b]? = some (.cells #[.int .i64 i] 287 (0, 0))) : IsE w lo hi (.iface 262 (.pointer (some ⟨b, 0, none⟩))) (.hole i)
  | missing (b : Nat) (hb : lo ≤ b ∧ b < hi) : IsE w lo hi (.iface 244 (.pointer (some ⟨b, 0, none⟩))) .missing
  | var (b : Nat) (n : X.Nm) (hb : lo ≤ b ∧ b < hi) (h : w.heap[b]? = some (.cells #[.string (ba n.1), .int .i64 n.2] 207 (0, 0))) : IsE w lo hi (.iface 203 (.pointer (some ⟨b, 0, none⟩))) (.var n)
  | lett (b : Nat) (n : X.Nm) (v1 v2 : Value) (e1 e2 : X.Ex) (hb : lo ≤ b ∧ b < hi) (h : w.heap[b]? = some (.cells #[.string (ba n.1), .int .i64 n.2, v1, v2] 275 (0, 0))) (h1 : IsE w lo hi v1 e1) (h2 : IsE w lo hi v2 e2) : IsE w lo hi (.iface 208 (.pointer (some ⟨b, 0, none⟩))) (.lett n e1 e2)
  | ite (b : Nat) (v1 v2 v3 : Value) (e1 e2 e3 : X.Ex) (hb : lo ≤ b ∧ b < hi) (h : w.heap[b]? = some (.cells #[v1, v2, v3] 250 (0, 0))) (h1 : IsE w lo hi v1 e1) (h2 : IsE w lo hi v2 e2) (h3 : IsE w lo hi v3 e3) : IsE w lo hi (.iface 248 (.pointer (some ⟨b, 0, none⟩))) (.ite e1 e2 e3)
  | fn (b pb : Nat) (ns : List X.Nm) (v : Value) (e : X.Ex) (hb : lo ≤ b ∧ b < hi) (h : w.heap[b]? = some (.cells #[.pointer (some ⟨pb, 0, none⟩), v] 214 (0, 0))) (hp : IsPar w lo hi pb ns) (h1 : IsE w lo hi v e) : IsE w lo hi (.iface 211 (.pointer (some ⟨b, 0, none⟩))) (.fn ns e)
  | bin (b : Nat) (v1 v2 : Value) (x : List UInt8) (e1 e2 : X.Ex) (hb : lo ≤ b ∧ b < hi) (h : w.heap[b]? = some (.cells #[v1, .string (ba x), v2] 283 (0, 0))) (h1 : IsE w lo hi v1 e1) (h2 : IsE w lo hi v2 e2) : IsE w lo hi (.iface 252 (.pointer (some ⟨b, 0, none⟩))) (.bin e1 x e2)
  | call (b : Nat) (v : Value) (e : X.Ex) (ao : Option Addr) (cap : Nat) (vs : Nat → Value) (es : List X.Ex) (hb : lo ≤ b ∧ b < hi) (h : w.heap[b]? = some (.cells #[v, .slice ao es.length cap] 285 (0, 0))) (hc : es.length ≤ cap ∧ cap ≤ maxLen) (h1 : IsE w lo hi v e)
      (hr : ∀ j, j < es.length → ∃ g, ao = some ⟨g, 0, none⟩ ∧ lo ≤ g ∧ g < hi ∧ w.cell? ⟨g, j, none⟩ = some (vs j)) (hp : ∀ (j : Nat) (e : X.Ex), es[j]? = some e → IsE w lo hi (vs j) e) : IsE w lo hi (.iface 254 (.pointer (some ⟨b, 0, none⟩))) (.call e es)
  | list (b : Nat) (ao : Option Addr) (cap : Nat) (vs : Nat → Value) (es : List X.Ex) (hb : lo ≤ b ∧ b < hi) (h : w.heap[b]? = some (.cells #[.slice ao es.length cap] 258 (0, 0))) (hc : es.length ≤ cap ∧ cap ≤ maxLen)
      (hr : ∀ j, j < es.length → ∃ g, ao = some ⟨g, 0, none⟩ ∧ lo ≤ g ∧ g < hi ∧ w.cell? ⟨g, j, none⟩ = some (vs j)) (hp : ∀ (j : Nat) (e : X.Ex), es[j]? = some e → IsE w lo hi (vs j) e) : IsE w lo hi (.iface 256 (.pointer (some ⟨b, 0, none⟩))) (.list es)
  | group (b : Nat) (v : Value) (e : X.Ex) (hb : lo ≤ b ∧ b < hi) (h : w.heap[b]? = some (.cells #[v] 261 (0, 0))) (h1 : IsE w lo hi v e) : IsE w lo hi (.iface 259 (.pointer (some ⟨b, 0, none⟩))) (.group e)
theorem IsE.keep {S : Nat → Prop} {w w' : World} (hk : Kp S w w') {lo hi : Nat} (hS : ∀ i, lo ≤ i → i < hi → ¬ S i) {v : Value} {e : X.Ex} (h : IsE w lo hi v e) : IsE w' lo hi v e := by
  induction h with
  | lit b k x hb h => exact .lit b k x hb (hk.heap h (hS b hb.1 hb.2))
  | hole b i hb h => exact .hole b i hb (hk.heap h (hS b hb.1 hb.2))
  | missing b hb => exact .missing b hb
  | var b n hb h => exact .var b n hb (hk.heap h (hS b hb.1 hb.2))
  | lett b n v1 v2 e1 e2 hb h h1 h2 i1 i2 => exact .lett b n v1 v2 e1 e2 hb (hk.heap h (hS b hb.1 hb.2)) i1 i2
  | ite b v1 v2 v3 e1 e2 e3 hb h h1 h2 h3 i1 i2 i3 => exact .ite b v1 v2 v3 e1 e2 e3 hb (hk.heap h (hS b hb.1 hb.2)) i1 i2 i3
  | fn b pb ns v e hb h hp h1 i1 => exact .fn b pb ns v e hb (hk.heap h (hS b hb.1 hb.2)) (hp.keep hk hS) i1
  | bin b v1 v2 x e1 e2 hb h h1 h2 i1 i2 => exact .bin b v1 v2 x e1 e2 hb (hk.heap h (hS b hb.1 hb.2)) i1 i2
  | call b v e ao cap vs es hb h hc h1 hr hp i1 ip => exact .call b v e ao cap vs es hb (hk.heap h (hS b hb.1 hb.2)) hc i1 (fun j hj => by obtain ⟨g, x1, x2, x3, x4⟩ := hr j hj; exact ⟨g, x1, x2, x3, hk.cellv x4 (hS g x2 x3)⟩) ip
  | list b ao cap vs es hb h hc hr hp ip => exact .list b ao cap vs es hb (hk.heap h (hS b hb.1 hb.2)) hc (fun j hj => by obtain ⟨g, x1, x2, x3, x4⟩ := hr j hj; exact ⟨g, x1, x2, x3, hk.cellv x4 (hS g x2 x3)⟩) ip
  | group b v e hb h h1 i1 => exact .group b v e hb (hk.heap h (hS b hb.1 hb.2)) i1
theorem IsPar.wide {w : World} {lo hi lo' hi' pb : Nat} {ns : List X.Nm} (h : IsPar w lo hi pb ns) (h1 : lo' ≤ lo) (h2 : hi ≤ hi') : IsPar w lo' hi' pb ns := by
  obtain ⟨ao, cap, x1, x2, x3, x4⟩ := h.ex
  have := h.bd
  exact ⟨⟨by omega, by omega⟩, ao, cap, x1, x2, x3, fun j n hj => by obtain ⟨g, e1, e2, e3, e4⟩ := x4 j n hj; exact ⟨g, e1, by omega, by omega, e4⟩⟩
theorem IsE.wide {w : World} {lo hi lo' hi' : Nat} (q1 : lo' ≤ lo) (q2 : hi ≤ hi') {v : Value} {e : X.Ex} (h : IsE w lo hi v e) : IsE w lo' hi' v e := by
  induction h with
  | lit b k x hb h => exact .lit b k x ⟨by omega, by omega⟩ h
  | hole b i hb h => exact .hole b i ⟨by omega, by omega⟩ h
  | missing b hb => exact .missing b ⟨by omega, by omega⟩
  | var b n hb h => exact .var b n ⟨by omega, by omega⟩ h
  | lett b n v1 v2 e1 e2 hb h h1 h2 i1 i2 => exact .lett b n v1 v2 e1 e2 ⟨by omega, by omega⟩ h i1 i2
  | ite b v1 v2 v3 e1 e2 e3 hb h h1 h2 h3 i1 i2 i3 => exact .ite b v1 v2 v3 e1 e2 e3 ⟨by omega, by omega⟩ h i1 i2 i3
  | fn b pb ns v e hb h hp h1 i1 => exact .fn b pb ns v e ⟨by omega, by omega⟩ h (hp.wide q1 q2) i1
  | bin b v1 v2 x e1 e2 hb h h1 h2 i1 i2 => exact .bin b v1 v2 x e1 e2 ⟨by omega, by omega⟩ h i1 i2
  | call b v e ao cap vs es hb h hc h1 hr hp i1 ip => exact .call b v e ao cap vs es ⟨by omega, by omega⟩ h hc i1 (fun j hj => by obtain ⟨g, x1, x2, x3, x4⟩ := hr j hj; exact ⟨g, x1, by omega, by omega, x4⟩) ip
  | list b ao cap vs es hb h hc hr hp ip => exact .list b ao cap vs es ⟨by omega, by omega⟩ h hc (fun j hj => by obtain ⟨g, x1, x2, x3, x4⟩ := hr j hj; exact ⟨g, x1, by omega, by omega, x4⟩) ip
  | group b v e hb h h1 i1 => exact .group b v e ⟨by omega, by omega⟩ h i1
theorem IsE.iface {w : World} {lo hi : Nat} {v : Value} {e : X.Ex} (h : IsE w lo hi v e) : ∃ ty b, v = .iface ty (.pointer (some ⟨b, 0, none⟩)) := by
  cases h <;> exact ⟨_, _, rfl⟩
/-- A row of the kids of a node that has been entered, beside the row that it stands in. -/
theorem rw_inner {w2 : World} {D : Nat → Prop} {rb ab : Nat} {ps qs : List X.Part} {i : Nat} {kv : Value} (h : IsRw w2 D rb ab ps i) (hk : NdS w2 D kv qs) (hDl : ∀ q, D q → q < w2.heap.size) :
    IsRw (w2.alloc (.cells #[.pointer (some ⟨ab, 0, none⟩), kv] 124)) D w2.heap.size ab qs i ∧ ∀ (w3 : World) (l : List X.Part) (k : Nat), IsRw w3 D w2.heap.size ab l k → Kp (Sw w2.heap.size ab) (w2.alloc (.cells #[.pointer (some ⟨ab, 0, none⟩), kv] 124)) w3 → IsRw w3 D rb ab ps k ∧ Kp (Sw rb ab) w2 w3 := by
  have kB : Below w2.heap.size w2 (w2.alloc (.cells #[.pointer (some ⟨ab, 0, none⟩), kv] 124)) := (Below.refl _ w2).alloc (Nat.le_refl _) _
  have hb := h.below kB
  obtain ⟨hrl, hal⟩ := h.lt
  refine ⟨⟨⟨kv, heap_alloc_new w2 _, hk.keep (Kp.ofBelow kB (fun _ => False)) (fun _ _ => id)⟩, hb.atb, ⟨by omega, fun hd => by have := hDl _ hd; omega, h.sep.2.2⟩⟩, fun w3 l k hw hkp => ?_⟩
  obtain ⟨v, e, hn⟩ := hb.blk
  have hne := h.sep.1
  refine ⟨⟨⟨v, hkp.heap e (fun e => by rcases e with e | e <;> omega), hn.keep hkp (fun q hq e => ?_)⟩, hw.atb, h.sep⟩, (Kp.ofBelow kB (Sw rb ab)).trans hkp (fun i hi e => ?_)⟩
  · rcases e with e | e
    · have := hDl q hq; omega
    · exact h.sep.2.2 (e ▸ hq)
  · rcases e with e | e
    · omega
    · exact .inr e
/-- What expression does of a part. -/
def ExOk (p : X.Part) : Prop := ∀ (e : X.Ex) (i : Nat) (D : Nat → Prop) (rb ab : Nat) (ps : List X.Part) (w : World), X.Rd p i e → IsRw w D rb ab (p :: ps) i → i + X.pz [p] ≤ 1073741824 → (∀ q, D q → q < w.heap.size) →
  Calls Tryz.prog 86 #[.pointer (some ⟨rb, 0, none⟩)] w fun en w' => ∃ v, en = .returned v ∧ Hid (IsE w' w.heap.size w'.heap.size v e ∧ IsRw w' D rb ab ps (i + X.pz [p]) ∧ Kp (Sw rb ab) w w')
end Go.Proofs.YtdipmfdhnplpaaaGreatDoor
/- Package syntax: a let. -/
namespace Go.Proofs.YtdipmfdhnplpaaaGreatDoor
open Go.RowKit
open M
/-- What was made stays when a row is gone through. -/
theorem Kp.made {w W W' : World} {rb ab : Nat} (hk : Kp (Sw rb ab) W W') (h1 : rb < w.heap.size) (h2 : ab < w.heap.size) {b : Nat} (hb : w.heap.size ≤ b) {o : Obj} (h : W.heap[b]? = some o) : W'.heap[b]? = some o := hk.heap h (fun e => by rcases e with e | e <;> omega)
theorem sw_made {w : World} {rb ab : Nat} (h1 : rb < w.heap.size) (h2 : ab < w.heap.size) {lo hi : Nat} (hl : w.heap.size ≤ lo) : ∀ i, lo ≤ i → i < hi → ¬ Sw rb ab i := fun i hi _ e => by rcases e with e | e <;> omega
theorem len_app {a b : List X.Part} {n : Nat} (h : (a ++ b).length ≤ n) : b.length ≤ n := by rw [List.length_append] at h; omega
set_option maxRecDepth 100000 in
set_option maxHeartbeats 4000000 in
theorem wlet_any (D : Nat → Prop) (kb ab : Nat) (t1 n t2 t3 : List X.Part) (p1 p2 : X.Part) (nm : X.Nm) (e1 e2 : X.Ex) (i : Nat) (w : World) (h : IsRw w D kb ab (t1 ++ (n ++ (t2 ++ ([p1] ++ (t3 ++ [p2]))))) i) (h1 : X.Tkp t1) (hn : X.Nmp n (i + X.pz t1) nm) (h2 : X.Tkp t2) (hv : X.Rd p1 (i + X.pz t1 + X.pz n + X.pz t2) e1) (h3 : X.Tkp t3) (hb : X.Rd p2 (i + X.pz t1 + X.pz n + X.pz t2 + X.pz [p1] + X.pz t3) e2) (H1 : ExOk p1) (H2 : ExOk p2)
    (hi : i + X.pz (t1 ++ (n ++ (t2 ++ ([p1] ++ (t3 ++ [p2]))))) ≤ 1073741824) (hpl : (t1 ++ (n ++ (t2 ++ ([p1] ++ (t3 ++ [p2]))))).length ≤ 1073741824) (hDl : ∀ q, D q → q < w.heap.size) :
    Calls Tryz.prog 114 #[.pointer (some ⟨kb, 0, none⟩)] w fun e w' => ∃ b, e = .returned (.pointer (some ⟨b, 0, none⟩)) ∧ Hid (IsE w' w.heap.size w'.heap.size (.iface 208 (.pointer (some ⟨b, 0, none⟩))) (.lett nm e1 e2) ∧ IsRw w' D kb ab [] (i + X.pz (t1 ++ (n ++ (t2 ++ ([p1] ++ (t3 ++ [p2])))))) ∧ Kp (Sw kb ab) w w') := by
  obtain ⟨hr, ha⟩ := h.lt
  obtain ⟨q1, r1, hT1⟩ := h1.tk0
  obtain ⟨q2, r2, hT2⟩ := h2.tk0
  obtain ⟨q3, r3, hT3⟩ := h3.tk0
  have hz : X.pz (t1 ++ (n ++ (t2 ++ ([p1] ++ (t3 ++ [p2]))))) = X.pz t1 + (X.pz n + (X.pz t2 + (X.pz [p1] + (X.pz t3 + X.pz [p2])))) := by rw [X.pz_app, X.pz_app, X.pz_app, X.pz_app, X.pz_app]
  have HC1 := hide (wpass_any D kb ab t1 q1 r1 _ i w h hT1 hi hpl hDl)
  have HDl : Hid (∀ W : World, w.heap.size ≤ W.heap.size → ∀ q, D q → q < W.heap.size) := fun W hW q hq => Nat.lt_of_lt_of_le (hDl q hq) hW
  have HN := hide hn
  have HV := hide hv
  have HB := hide hb
  rw [hz] at hi
  simp only [List.length_append] at hpl
  clear h h1 h2 h3 hDl hn hv hb
  go_enter Tryz.func114, Tryz.ntmps114
  go_wp2_with fail
  refine (HC1.out).mono ?_
  rintro e w1 ⟨_, _, _, rfl, X1⟩
  have HC2 := hide (wname_any D kb ab n nm _ (i + X.pz t1) w1 (X1.out).1 HN.out (by simp only [X.pz_app]; omega) (by simp only [List.length_append]; omega) ((HDl.out) w1 (X1.out).2.size))
  clear HC1
  go_wp2_with fail
  refine (HC2.out).mono ?_
  rintro e w2 ⟨rfl, X2⟩
  have K2 : Hid (Kp (Sw kb ab) w w2) := (X1.out).2.trans (X2.out).2 (fun _ _ e => e)
  have hs2 := (K2.out).size
  have kA : Below w2.heap.size w2 (w2.alloc (.cells #[.string (ba nm.1), .int .i64 nm.2, .nilIface, .nilIface] 275)) := (Below.refl _ w2).alloc (Nat.le_refl _) _
  have hB3 : Hid ((w2.alloc (.cells #[.string (ba nm.1), .int .i64 nm.2, .nilIface, .nilIface] 275)).heap[w2.heap.size]? = some (.cells #[.string (ba nm.1), .int .i64 nm.2, .nilIface, .nilIface] 275 (0, 0))) := heap_alloc_new w2 _
  have K3 : Hid (Kp (Sw kb ab) w (w2.alloc (.cells #[.string (ba nm.1), .int .i64 nm.2, .nilIface, .nilIface] 275))) := (K2.out).trans (Kp.ofBelow kA (fun _ => False)) (fun _ _ h => h.elim)
  have HC3 := hide (wpass_any D kb ab t2 q2 r2 _ (i + X.pz t1 + X.pz n) _ ((X2.out).1.below kA) hT2 (by simp only [X.pz_app]; omega) (by simp only [List.length_append]; omega) ((HDl.out) _ (K3.out).size))
  clear HC2 kA X1 X2 K2
  go_wp2_with fail
  generalize w2.alloc (.cells #[.string (ba nm.1), .int .i64 nm.2, .nilIface, .nilIface] 275) = W3 at *
  generalize w2.heap.size = b at *
  refine (HC3.out).mono ?_
  rintro e w4 ⟨_, _, _, rfl, X4⟩
  have K4 : Hid (Kp (Sw kb ab) w w4) := (K3.out).trans (X4.out).2 (fun _ _ e => e)
  have hB4 := hide ((X4.out).2.made hr ha hs2 hB3.out)
  have HC4 := hide (H1 e1 (i + X.pz t1 + X.pz n + X.pz t2) D kb ab (t3 ++ [p2]) w4 HV.out (X4.out).1 (by omega) ((HDl.out) _ (K4.out).size))
  clear HC3 X4 K3 hB3
  go_wp2_with fail
  refine (HC4.out).mono ?_
  rintro e w5 ⟨v1, rfl, X5⟩
  obtain ⟨y1, g1, hv1⟩ := (X5.out).1.iface
  subst hv1
  have K5 : Hid (Kp (Sw kb ab) w w5) := (K4.out).trans (X5.out).2.2 (fun _ _ e => e)
  have hB5 := (X5.out).2.2.made hr ha hs2 hB4.out
  have c2 := cell_of_row w5 _ 2 _ _ _ hB5
  have f2 : w5.frozen? ⟨b, 2, none⟩ = false := by simp [World.frozen?, hB5]
  have hbl4 : b < w4.heap.size := heap_lt hB4.out
  have HX5 : Hid (IsE (w5.setCell ⟨b, 2, none⟩ (.iface y1 (.pointer (some ⟨g1, 0, none⟩)))) w4.heap.size w5.heap.size (.iface y1 (.pointer (some ⟨g1, 0, none⟩))) e1 ∧ IsRw (w5.setCell ⟨b, 2, none⟩ (.iface y1 (.pointer (some ⟨g1, 0, none⟩)))) D kb ab (t3 ++ [p2]) (i + X.pz t1 + X.pz n + X.pz t2 + X.pz [p1]) ∧ (w5.setCell ⟨b, 2, none⟩ (.iface y1 (.pointer (some ⟨g1, 0, none⟩)))).heap[b]? = some (.cells #[.string (ba nm.1), .int .i64 nm.2, .iface y1 (.pointer (some ⟨g1, 0, none⟩)), .nilIface] 275 (0, 0)) ∧ Kp (Sw kb ab) w (w5.setCell ⟨b, 2, none⟩ (.iface y1 (.pointer (some ⟨g1, 0, none⟩)))) ∧ (w5.setCell ⟨b, 2, none⟩ (.iface y1 (.pointer (some ⟨g1, 0, none⟩)))).heap.size = w5.heap.size) := by
    have hk : Kp (fun q => q = b) w5 (w5.setCell ⟨b, 2, none⟩ (.iface y1 (.pointer (some ⟨g1, 0, none⟩)))) := On.set (Kp.refl _ w5) 2 _
    refine ⟨(X5.out).1.keep hk (fun i h1 h2 e => by omega), (X5.out).2.1.keep hk (by omega) (by omega) (fun q hq e => ?_), by simp [World.setCell, Array.getElem?_modify, hB5], Kp.setCell (p := ⟨b, 2, none⟩) (K5.out) (fun h => absurd h (by simpa using hs2)) _, by simp [World.setCell]⟩
    have := (HDl.out) w (Nat.le_refl _) q hq
    omega
  have hs45 := (X5.out).2.2.size
  clear HC4 X5 K4 hB4 K5
  go_wp2_with fail
  generalize w5.setCell ⟨b, 2, none⟩ (.iface y1 (.pointer (some ⟨g1, 0, none⟩))) = W5 at *
  clear hB5 c2 f2
  have HC6 := hide (wpass_any D kb ab t3 q3 r3 [p2] (i + X.pz t1 + X.pz n + X.pz t2 + X.pz [p1]) W5 (HX5.out).2.1 hT3 (by simp only [X.pz_app]; omega) (by simp only [List.length_append]; omega) ((HDl.out) _ (HX5.out).2.2.2.1.size))
  refine (HC6.out).mono ?_
  rintro e w6 ⟨_, _, _, rfl, X6⟩
  have K6 : Hid (Kp (Sw kb ab) w w6) := (HX5.out).2.2.2.1.trans (X6.out).2 (fun _ _ e => e)
  have hs46 : w4.heap.size ≤ w5.heap.size := hs45
  have hE6 := hide ((HX5.out).1.keep (X6.out).2 (sw_made hr ha (by have := (HX5.out).2.2.2.1.size; omega)))
  have hB6 := hide ((X6.out).2.made hr ha hs2 (HX5.out).2.2.1)
  have hs56 : w5.heap.size ≤ w6.heap.size := by have := (X6.out).2.size; have := (HX5.out).2.2.2.2; omega
  have HC7 := hide (H2 e2 (i + X.pz t1 + X.pz n + X.pz t2 + X.pz [p1] + X.pz t3) D kb ab [] w6 HB.out (X6.out).1 (by omega) ((HDl.out) _ (K6.out).size))
  clear HC6 X6 HX5
  go_wp2_with fail
  refine (HC7.out).mono ?_
  rintro e w7 ⟨v2, rfl, X7⟩
  obtain ⟨y2, g2, hv2⟩ := (X7.out).1.iface
  subst hv2
  have K7 : Hid (Kp (Sw kb ab) w w7) := (K6.out).trans (X7.out).2.2 (fun _ _ e => e)
  have hB7 := (X7.out).2.2.made hr ha hs2 hB6.out
  have c3 := cell_of_row w7 _ 3 _ _ _ hB7
  have f3 : w7.frozen? ⟨b, 3, none⟩ = false := by simp [World.frozen?, hB7]
  have HFin : Hid (IsE (w7.setCell ⟨b, 3, none⟩ (.iface y2 (.pointer (some ⟨g2, 0, none⟩)))) w.heap.size (w7.setCell ⟨b, 3, none⟩ (.iface y2 (.pointer (some ⟨g2, 0, none⟩)))).heap.size (.iface 208 (.pointer (some ⟨b, 0, none⟩))) (.lett nm e1 e2) ∧ IsRw (w7.setCell ⟨b, 3, none⟩ (.iface y2 (.pointer (some ⟨g2, 0, none⟩)))) D kb ab [] (i + X.pz (t1 ++ (n ++ (t2 ++ ([p1] ++ (t3 ++ [p2])))))) ∧ Kp (Sw kb ab) w (w7.setCell ⟨b, 3, none⟩ (.iface y2 (.pointer (some ⟨g2, 0, none⟩))))) := by
    have hk : Kp (fun q => q = b) w7 (w7.setCell ⟨b, 3, none⟩ (.iface y2 (.pointer (some ⟨g2, 0, none⟩)))) := On.set (Kp.refl _ w7) 3 _
    have hsz : (w7.setCell ⟨b, 3, none⟩ (.iface y2 (.pointer (some ⟨g2, 0, none⟩)))).heap.size = w7.heap.size := by simp [World.setCell]
    have hs67 := (X7.out).2.2.size
    have hw4 : w.heap.size ≤ w4.heap.size := by omega
    have hE7 := (hE6.out).keep (X7.out).2.2 (sw_made hr ha hw4)
    rw [hsz, hz]
    refine ⟨.lett b nm _ _ e1 e2 ⟨hs2, by omega⟩ (by simp [World.setCell, Array.getElem?_modify, hB7]) ((hE7.keep hk (fun i h1 h2 e => by omega)).wide hw4 (by omega)) (((X7.out).1.keep hk (fun i h1 h2 e => by omega)).wide (by omega) (Nat.le_refl _)), ?_, Kp.setCell (p := ⟨b, 3, none⟩) (K7.out) (fun h => absurd h (by simpa using hs2)) _⟩
    have hR := (X7.out).2.1.keep hk (by omega) (by omega) (fun q hq e => by have := (HDl.out) w (Nat.le_refl _) q hq; omega)
    rw [show i + (X.pz t1 + (X.pz n + (X.pz t2 + (X.pz [p1] + (X.pz t3 + X.pz [p2]))))) = i + X.pz t1 + X.pz n + X.pz t2 + X.pz [p1] + X.pz t3 + X.pz [p2] by omega]
    exact hR
  clear HC7 X7 K7 hB7 hE6 hB6 K6
  go_wp2_with fail
  go_ret
  exact ⟨b, rfl, HFin.out⟩
end Go.Proofs.YtdipmfdhnplpaaaGreatDoor
/- Package syntax: a function, two with a sign between them, a hole. -/
namespace Go.Proofs.YtdipmfdhnplpaaaGreatDoor
open Go.RowKit
open M
set_option maxRecDepth 100000 in
set_option maxHeartbeats 4000000 in
theorem wfun_any (D : Nat → Prop) (kb ab : Nat) (t1 qs t2 : List X.Part) (p : X.Part) (ns : List X.Nm) (e : X.Ex) (i : Nat) (w : World) (h : IsRw w D kb ab (t1 ++ ([X.Part.br 6 qs] ++ (t2 ++ [p]))) i) (h1 : X.Tkp t1) (hn : X.Nms qs (i + X.pz t1) ns) (h2 : X.Tkp t2) (hb : X.Rd p (i + X.pz t1 + X.pz qs + X.pz t2) e) (H1 : ExOk p)
    (hi : i + X.pz (t1 ++ ([X.Part.br 6 qs] ++ (t2 ++ [p]))) ≤ 1073741824) (hpl : (t1 ++ ([X.Part.br 6 qs] ++ (t2 ++ [p]))).length ≤ 1073741824) (hql : qs.length ≤ 268435456) (hnl : ns.length ≤ 268435456) (hDl : ∀ q, D q → q < w.heap.size) :
    Calls Tryz.prog 116 #[.pointer (some ⟨kb, 0, none⟩)] w fun en w' => ∃ b, en = .returned (.pointer (some ⟨b, 0, none⟩)) ∧ Hid (IsE w' w.heap.size w'.heap.size (.iface 211 (.pointer (some ⟨b, 0, none⟩))) (.fn ns e) ∧ IsRw w' D kb ab [] (i + X.pz (t1 ++ ([X.Part.br 6 qs] ++ (t2 ++ [p])))) ∧ Kp (Sw kb ab) w w') := by
  obtain ⟨hr, ha⟩ := h.lt
  obtain ⟨q1, r1, hT1⟩ := h1.tk0
  obtain ⟨q2, r2, hT2⟩ := h2.tk0
  have hz : X.pz (t1 ++ ([X.Part.br 6 qs] ++ (t2 ++ [p]))) = X.pz t1 + (X.pz qs + (X.pz t2 + X.pz [p])) := by rw [X.pz_app, X.pz_app, X.pz_app, X.pz_br]
  have HC1 := hide (wpass_any D kb ab t1 q1 r1 _ i w h hT1 hi hpl hDl)
  have HDl : Hid (∀ W : World, w.heap.size ≤ W.heap.size → ∀ q, D q → q < W.heap.size) := fun W hW q hq => Nat.lt_of_lt_of_le (hDl q hq) hW
  have HN := hide hn
  have HB := hide hb
  rw [hz] at hi
  simp only [List.length_append, List.length_singleton] at hpl
  clear h h1 h2 hDl hn hb
  go_enter Tryz.func116, Tryz.ntmps116
  go_wp2_with fail
  refine (HC1.out).mono ?_
  rintro en w1 ⟨_, _, _, rfl, X1⟩
  have HC2 := hide (wparams_any D kb ab qs ns (t2 ++ [p]) (i + X.pz t1) w1 (X1.out).1 HN.out (by omega) hql hnl ((HDl.out) w1 (X1.out).2.size))
  clear HC1
  go_wp2_with fail
  refine (HC2.out).mono ?_
  rintro en w2 ⟨pb, rfl, X2⟩
  have K2 : Hid (Kp (Sw kb ab) w w2) := (X1.out).2.trans (X2.out).2.2 (fun _ _ e => e)
  have hs2 := (K2.out).size
  have hs1 := (X1.out).2.size
  have kA : Below w2.heap.size w2 (w2.alloc (.cells #[.pointer (some ⟨pb, 0, none⟩), .nilIface] 214)) := (Below.refl _ w2).alloc (Nat.le_refl _) _
  have hB3 : Hid ((w2.alloc (.cells #[.pointer (some ⟨pb, 0, none⟩), .nilIface] 214)).heap[w2.heap.size]? = some (.cells #[.pointer (some ⟨pb, 0, none⟩), .nilIface] 214 (0, 0))) := heap_alloc_new w2 _
  have K3 : Hid (Kp (Sw kb ab) w (w2.alloc (.cells #[.pointer (some ⟨pb, 0, none⟩), .nilIface] 214))) := (K2.out).trans (Kp.ofBelow kA (fun _ => False)) (fun _ _ h => h.elim)
  have hP3 : Hid (IsPar (w2.alloc (.cells #[.pointer (some ⟨pb, 0, none⟩), .nilIface] 214)) w.heap.size w2.heap.size pb ns) := ((X2.out).1.wide hs1 (Nat.le_refl _)).keep (Kp.ofBelow kA (fun _ => False)) (fun _ _ _ => id)
  have HC3 := hide (wpass_any D kb ab t2 q2 r2 [p] (i + X.pz t1 + X.pz qs) _ ((X2.out).2.1.below kA) hT2 (by simp only [X.pz_app]; omega) (by simp only [List.length_append, List.length_singleton]; omega) ((HDl.out) _ (K3.out).size))
  clear HC2 kA X1 X2 K2
  go_wp2_with fail
  generalize w2.alloc (.cells #[.pointer (some ⟨pb, 0, none⟩), .nilIface] 214) = W3 at *
  generalize w2.heap.size = b at *
  refine (HC3.out).mono ?_
  rintro en w4 ⟨_, _, _, rfl, X4⟩
  have K4 : Hid (Kp (Sw kb ab) w w4) := (K3.out).trans (X4.out).2 (fun _ _ e => e)
  have hB4 := hide ((X4.out).2.made hr ha hs2 hB3.out)
  have hP4 := hide ((hP3.out).keep (X4.out).2 (sw_made hr ha (Nat.le_refl _)))
  have HC4 := hide (H1 e (i + X.pz t1 + X.pz qs + X.pz t2) D kb ab [] w4 HB.out (X4.out).1 (by omega) ((HDl.out) _ (K4.out).size))
  clear HC3 X4 K3 hB3 hP3
  go_wp2_with fail
  refine (HC4.out).mono ?_
  rintro en w5 ⟨v1, rfl, X5⟩
  obtain ⟨y1, g1, hv1⟩ := (X5.out).1.iface
  subst hv1
  have K5 : Hid (Kp (Sw kb ab) w w5) := (K4.out).trans (X5.out).2.2 (fun _ _ e => e)
  have hB5 := (X5.out).2.2.made hr ha hs2 hB4.out
  have c1 := cell_of_row w5 _ 1 _ _ _ hB5
  have f1 : w5.frozen? ⟨b, 1, none⟩ = false := by simp [World.frozen?, hB5]
  have hbl4 : b < w4.heap.size := heap_lt hB4.out
  have HFin : Hid (IsE (w5.setCell ⟨b, 1, none⟩ (.iface y1 (.pointer (some ⟨g1, 0, none⟩)))) w.heap.size (w5.setCell ⟨b, 1, none⟩ (.iface y1 (.pointer (some ⟨g1, 0, none⟩)))).heap.size (.iface 211 (.pointer (some ⟨b, 0, none⟩))) (.fn ns e) ∧ IsRw (w5.setCell ⟨b, 1, none⟩ (.iface y1 (.pointer (some ⟨g1, 0, none⟩)))) D kb ab [] (i + X.pz (t1 ++ ([X.Part.br 6 qs] ++ (t2 ++ [p])))) ∧ Kp (Sw kb ab) w (w5.setCell ⟨b, 1, none⟩ (.iface y1 (.pointer (some ⟨g1, 0, none⟩))))) := by
    have hk : Kp (fun q => q = b) w5 (w5.setCell ⟨b, 1, none⟩ (.iface y1 (.pointer (some ⟨g1, 0, none⟩)))) := On.set (Kp.refl _ w5) 1 _
    have hsz : (w5.setCell ⟨b, 1, none⟩ (.iface y1 (.pointer (some ⟨g1, 0, none⟩)))).heap.size = w5.heap.size := by simp [World.setCell]
    have hs45 := (X5.out).2.2.size
    have hP5 := (hP4.out).keep (X5.out).2.2 (sw_made hr ha (Nat.le_refl _))
    rw [hsz, hz]
    refine ⟨.fn b pb ns _ e ⟨hs2, by omega⟩ (by simp [World.setCell, Array.getElem?_modify, hB5]) ((hP5.keep hk (fun i h1 h2 e => by omega)).wide (Nat.le_refl _) (by omega)) (((X5.out).1.keep hk (fun i h1 h2 e => by omega)).wide (by omega) (Nat.le_refl _)), ?_, Kp.setCell (p := ⟨b, 1, none⟩) (K5.out) (fun h => absurd h (by simpa using hs2)) _⟩
    have hR := (X5.out).2.1.keep hk (by omega) (by omega) (fun q hq e => by have := (HDl.out) w (Nat.le_refl _) q hq; omega)
    rw [show i + (X.pz t1 + (X.pz qs + (X.pz t2 + X.pz [p]))) = i + X.pz t1 + X.pz qs + X.pz t2 + X.pz [p] by omega]
    exact hR
  clear HC4 X5 K4 hB4 K5 hP4 hB5
  go_wp2_with fail
  go_ret
  exact ⟨b, rfl, HFin.out⟩
theorem fld_text (a b : Int) (c : ByteArray) (a4 : Option Addr) (a5 a6 : Nat) (w : World) : (Instr.field 121 (.agg #[.int .i64 a, .int .i64 b, .string c, .slice a4 a5 a6]) 2).run Tryz.prog w = .ok (.string c) w := by kernel_rfl
set_option maxRecDepth 100000 in
set_option maxHeartbeats 4000000 in
theorem wbinary_any (D : Nat → Prop) (kb ab : Nat) (p1 p2 : X.Part) (t qs : List X.Part) (k : Nat) (x : List UInt8) (e1 e2 : X.Ex) (i : Nat) (w : World) (h : IsRw w D kb ab ([p1] ++ (t ++ [p2])) i) (hl : X.Rd p1 i e1) (ht : X.Tk1 t k x qs) (hr2 : X.Rd p2 (i + X.pz [p1] + X.pz t) e2) (H1 : ExOk p1) (H2 : ExOk p2)
    (hi : i + X.pz ([p1] ++ (t ++ [p2])) ≤ 1073741824) (hpl : ([p1] ++ (t ++ [p2])).length ≤ 1073741824) (hDl : ∀ q, D q → q < w.heap.size) :
    Calls Tryz.prog 117 #[.pointer (some ⟨kb, 0, none⟩)] w fun en w' => ∃ b, en = .returned (.pointer (some ⟨b, 0, none⟩)) ∧ Hid (IsE w' w.heap.size w'.heap.size (.iface 252 (.pointer (some ⟨b, 0, none⟩))) (.bin e1 x e2) ∧ IsRw w' D kb ab [] (i + X.pz ([p1] ++ (t ++ [p2]))) ∧ Kp (Sw kb ab) w w') := by
  obtain ⟨hr, ha⟩ := h.lt
  have hT := ht.tk0
  have hz : X.pz ([p1] ++ (t ++ [p2])) = X.pz [p1] + (X.pz t + X.pz [p2]) := by rw [X.pz_app, X.pz_app]
  rw [hz] at hi
  simp only [List.length_append, List.length_singleton] at hpl
  have HC1 := hide (H1 e1 i D kb ab (t ++ [p2]) w hl h (by omega) hDl)
  have HDl : Hid (∀ W : World, w.heap.size ≤ W.heap.size → ∀ q, D q → q < W.heap.size) := fun W hW q hq => Nat.lt_of_lt_of_le (hDl q hq) hW
  have HB := hide hr2
  have hfl := fld_text
  clear h hDl hl hr2 ht
  go_enter Tryz.func117, Tryz.ntmps117
  go_wp2_with fail
  refine (HC1.out).mono ?_
  rintro en w2 ⟨v1, rfl, X2⟩
  obtain ⟨y1, g1, hv1⟩ := (X2.out).1.iface
  subst hv1
  have hs2 := (X2.out).2.2.size
  have kA : Below w2.heap.size w2 (w2.alloc (.cells #[.iface y1 (.pointer (some ⟨g1, 0, none⟩)), .string ⟨#[]⟩, .nilIface] 283)) := (Below.refl _ w2).alloc (Nat.le_refl _) _
  have hB3 : Hid ((w2.alloc (.cells #[.iface y1 (.pointer (some ⟨g1, 0, none⟩)), .string ⟨#[]⟩, .nilIface] 283)).heap[w2.heap.size]? = some (.cells #[.iface y1 (.pointer (some ⟨g1, 0, none⟩)), .string ⟨#[]⟩, .nilIface] 283 (0, 0))) := heap_alloc_new w2 _
  have K3 : Hid (Kp (Sw kb ab) w (w2.alloc (.cells #[.iface y1 (.pointer (some ⟨g1, 0, none⟩)), .string ⟨#[]⟩, .nilIface] 283))) := (X2.out).2.2.trans (Kp.ofBelow kA (fun _ => False)) (fun _ _ h => h.elim)
  have hE3 : Hid (IsE (w2.alloc (.cells #[.iface y1 (.pointer (some ⟨g1, 0, none⟩)), .string ⟨#[]⟩, .nilIface] 283)) w.heap.size w2.heap.size (.iface y1 (.pointer (some ⟨g1, 0, none⟩))) e1) := (X2.out).1.keep (Kp.ofBelow kA (fun _ => False)) (fun _ _ _ => id)
  have HC3 := hide (wpass_any D kb ab t qs _ [p2] (i + X.pz [p1]) _ ((X2.out).2.1.below kA) hT (by simp only [X.pz_app]; omega) (by simp only [List.length_append, List.length_singleton]; omega) ((HDl.out) _ (K3.out).size))
  clear HC1 kA X2
  go_wp2_with fail
  generalize w2.alloc (.cells #[.iface y1 (.pointer (some ⟨g1, 0, none⟩)), .string ⟨#[]⟩, .nilIface] 283) = W3 at *
  generalize w2.heap.size = b at *
  refine (HC3.out).mono ?_
  rintro en w4 ⟨a4, a5, a6, rfl, X4⟩
  have hB4 := (X4.out).2.made hr ha hs2 hB3.out
  have c1 := cell_of_row w4 _ 1 _ _ _ hB4
  have f1 : w4.frozen? ⟨b, 1, none⟩ = false := by simp [World.frozen?, hB4]
  have hnt : X.ntx (.leaf k x) = x := rfl
  rw [hnt]
  have hbl3 : b < w4.heap.size := heap_lt hB4
  have HX5 : Hid (IsE (w4.setCell ⟨b, 1, none⟩ (.string (ba x))) w.heap.size b (.iface y1 (.pointer (some ⟨g1, 0, none⟩))) e1 ∧ IsRw (w4.setCell ⟨b, 1, none⟩ (.string (ba x))) D kb ab [p2] (i + X.pz [p1] + X.pz t) ∧ (w4.setCell ⟨b, 1, none⟩ (.string (ba x))).heap[b]? = some (.cells #[.iface y1 (.pointer (some ⟨g1, 0, none⟩)), .string (ba x), .nilIface] 283 (0, 0)) ∧ Kp (Sw kb ab) w (w4.setCell ⟨b, 1, none⟩ (.string (ba x))) ∧ (w4.setCell ⟨b, 1, none⟩ (.string (ba x))).heap.size = w4.heap.size) := by
    have hk : Kp (fun q => q = b) w4 (w4.setCell ⟨b, 1, none⟩ (.string (ba x))) := On.set (Kp.refl _ w4) 1 _
    refine ⟨((hE3.out).keep (X4.out).2 (sw_made hr ha (Nat.le_refl _))).keep hk (fun i h1 h2 e => by omega), (X4.out).1.keep hk (by omega) (by omega) (fun q hq e => ?_), by simp [World.setCell, Array.getElem?_modify, hB4], Kp.setCell (p := ⟨b, 1, none⟩) ((K3.out).trans (X4.out).2 (fun _ _ e => e)) (fun h => absurd h (by simpa using hs2)) _, by simp [World.setCell]⟩
    have := (HDl.out) w (Nat.le_refl _) q hq
    omega
  clear HC3 X4 K3 hB3 hE3
  go_wp2_with fail
  generalize w4.setCell ⟨b, 1, none⟩ (.string (ba x)) = W5 at *
  clear hB4 c1 f1
  have HC7 := hide (H2 e2 (i + X.pz [p1] + X.pz t) D kb ab [] W5 HB.out (HX5.out).2.1 (by omega) ((HDl.out) _ (HX5.out).2.2.2.1.size))
  refine (HC7.out).mono ?_
  rintro en w7 ⟨v2, rfl, X7⟩
  obtain ⟨y2, g2, hv2⟩ := (X7.out).1.iface
  subst hv2
  have hB7 := (X7.out).2.2.made hr ha hs2 (HX5.out).2.2.1
  have c2 := cell_of_row w7 _ 2 _ _ _ hB7
  have f2 : w7.frozen? ⟨b, 2, none⟩ = false := by simp [World.frozen?, hB7]
  have HFin : Hid (IsE (w7.setCell ⟨b, 2, none⟩ (.iface y2 (.pointer (some ⟨g2, 0, none⟩)))) w.heap.size (w7.setCell ⟨b, 2, none⟩ (.iface y2 (.pointer (some ⟨g2, 0, none⟩)))).heap.size (.iface 252 (.pointer (some ⟨b, 0, none⟩))) (.bin e1 x e2) ∧ IsRw (w7.setCell ⟨b, 2, none⟩ (.iface y2 (.pointer (some ⟨g2, 0, none⟩)))) D kb ab [] (i + X.pz ([p1] ++ (t ++ [p2]))) ∧ Kp (Sw kb ab) w (w7.setCell ⟨b, 2, none⟩ (.iface y2 (.pointer (some ⟨g2, 0, none⟩))))) := by
    have hk : Kp (fun q => q = b) w7 (w7.setCell ⟨b, 2, none⟩ (.iface y2 (.pointer (some ⟨g2, 0, none⟩)))) := On.set (Kp.refl _ w7) 2 _
    have hsz : (w7.setCell ⟨b, 2, none⟩ (.iface y2 (.pointer (some ⟨g2, 0, none⟩)))).heap.size = w7.heap.size := by simp [World.setCell]
    have hs57 := (X7.out).2.2.size
    have hs5 := (HX5.out).2.2.2.2
    have hE7 := (HX5.out).1.keep (X7.out).2.2 (sw_made hr ha (Nat.le_refl _))
    rw [hsz, hz]
    refine ⟨.bin b _ _ x e1 e2 ⟨hs2, by omega⟩ (by simp [World.setCell, Array.getElem?_modify, hB7]) ((hE7.keep hk (fun i h1 h2 e => by omega)).wide (Nat.le_refl _) (by omega)) (((X7.out).1.keep hk (fun i h1 h2 e => by omega)).wide (by omega) (Nat.le_refl _)), ?_, Kp.setCell (p := ⟨b, 2, none⟩) ((HX5.out).2.2.2.1.trans (X7.out).2.2 (fun _ _ e => e)) (fun h => absurd h (by simpa using hs2)) _⟩
    have hR := (X7.out).2.1.keep hk (by omega) (by omega) (fun q hq e => by have := (HDl.out) w (Nat.le_refl _) q hq; omega)
    rw [show i + (X.pz [p1] + (X.pz t + X.pz [p2])) = i + X.pz [p1] + X.pz t + X.pz [p2] by omega]
    exact hR
  clear HC7 X7 hB7 HX5
  go_wp2_with fail
  go_ret
  exact ⟨b, rfl, HFin.out⟩
set_option maxRecDepth 100000 in
set_option maxHeartbeats 2000000 in
theorem whole_any (D : Nat → Prop) (kb ab : Nat) (t qs : List X.Part) (k : Nat) (x : List UInt8) (i : Nat) (w : World) (h : IsRw w D kb ab t i) (ht : X.Tk1 t k x qs) (hi : i + X.pz t ≤ 1073741824) (hpl : t.length ≤ 1073741824) (hDl : ∀ q, D q → q < w.heap.size) :
    Calls Tryz.prog 119 #[.pointer (some ⟨kb, 0, none⟩)] w fun en w' => ∃ b, en = .returned (.pointer (some ⟨b, 0, none⟩)) ∧ Hid (IsE w' w.heap.size w'.heap.size (.iface 262 (.pointer (some ⟨b, 0, none⟩))) (.hole (i + X.pz qs)) ∧ IsRw w' D kb ab [] (i + X.pz t) ∧ Kp (Sw kb ab) w w') := by
  obtain ⟨hr, ha⟩ := h.lt
  have hT := ht.tk0
  have hd := hT.drop []
  rw [List.append_nil] at hd
  have HM := hide (wmore_any D kb ab t i w h hi hpl hDl)
  rw [hd.1, hd.2] at HM
  have hpz : X.pz t = X.pz qs + X.pz [.leaf k x] := by rw [hT.eq, X.pz_app]
  have hln := hT.ln
  have HDl : Hid (∀ W : World, w.heap.size ≤ W.heap.size → ∀ q, D q → q < W.heap.size) := fun W hW q hq => Nat.lt_of_lt_of_le (hDl q hq) hW
  clear h hd ht hDl
  go_enter Tryz.func119, Tryz.ntmps119
  go_wp2_with fail
  refine (HM.out).mono ?_
  rintro en w2 ⟨rfl, X2⟩
  obtain ⟨v, hb, -⟩ := (X2.out).1.blk
  have c0 := cell_of_row _ _ 0 _ _ _ hb
  have d0 := cell_of_row _ _ 0 _ _ _ (X2.out).1.atb
  have hs2 := (X2.out).2.size
  have kA : Below w2.heap.size w2 (w2.alloc (.cells #[.int .i64 ((i : Int) + (X.pz qs : Int))] 287)) := (Below.refl _ w2).alloc (Nat.le_refl _) _
  have hB3 : Hid ((w2.alloc (.cells #[.int .i64 ((i : Int) + (X.pz qs : Int))] 287)).heap[w2.heap.size]? = some (.cells #[.int .i64 ((i : Int) + (X.pz qs : Int))] 287 (0, 0))) := heap_alloc_new w2 _
  have HL := hide (wleave_any D kb ab (.leaf k x) [] (i + X.pz qs) _ ((X2.out).1.below kA) (by omega) ((HDl.out) _ (Nat.le_trans hs2 kA.size)))
  have K3 : Hid (Kp (Sw kb ab) w (w2.alloc (.cells #[.int .i64 ((i : Int) + (X.pz qs : Int))] 287))) := (X2.out).2.trans (Kp.ofBelow kA (fun _ => False)) (fun _ _ h => h.elim)
  clear HM hb X2 kA
  go_wp2_with fail
  generalize w2.alloc (.cells #[.int .i64 ((i : Int) + (X.pz qs : Int))] 287) = W3 at *
  generalize w2.heap.size = b at *
  refine (HL.out).mono ?_
  rintro en w4 ⟨_, _, _, rfl, X4⟩
  have HFin : Hid (IsE w4 w.heap.size w4.heap.size (.iface 262 (.pointer (some ⟨b, 0, none⟩))) (.hole (i + X.pz qs)) ∧ IsRw w4 D kb ab [] (i + X.pz t) ∧ Kp (Sw kb ab) w w4) := by
    obtain ⟨-, z2, z3⟩ := X4.out
    have hB4 := z3.made hr ha hs2 hB3.out
    rw [hln] at z2
    rw [hpz, ← Nat.add_assoc]
    exact ⟨.hole b _ ⟨hs2, heap_lt hB4⟩ (by rw [Int.natCast_add]; exact hB4), z2, (K3.out).trans z3 (fun _ _ e => e)⟩
  clear X4 HL hB3 K3 c0 d0
  go_wp2_with fail
  go_ret
  exact ⟨b, rfl, HFin.out⟩
end Go.Proofs.YtdipmfdhnplpaaaGreatDoor
