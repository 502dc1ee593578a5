/- The program's printer: what comes of a value; a list's kids. -/
import Derived.Test.YtcibflndpckkkaaDoorWmg
import Derived.Test.YtcibflndpckkkaaDoorWme
import Derived.Test.YtcibflndpckkkaaDoorWmb
import Derived.Test.YtcibflndpckkkaaDoorWld0
namespace Go.Proofs.YtcibflndpckkkaaDoor
open Go.RowKit
open Wi

/-- An error of the program's. -/
abbrev erV (x : Nat) : Value := .iface 64 (.int .i64 (x : Int))
/-- What has come of writing. -/
def PvE (r : Except Nat (List UInt8)) (w : World) (B : Nat) (bv : Value) (l : List UInt8) (e : Ending) (w' : World) : Prop :=
  ∃ v, e = .returned v ∧ match r with
  | .ok s => v = .nilIface ∧ Pt w B bv (l ++ s) w'
  | .error x => v = erV x ∧ Kp (fun q => q = B ∨ bv.ownBlock = some q) w w'
theorem BdT.kp {f : Value → Value → Array Value} {T o : Nat} {w w' : World} {B : Nat} {l : List UInt8} {bv : Value} (h : BdT f T o w B bv l w') : Kp (fun q => q = B ∨ bv.ownBlock = some q) w w' := by
  obtain ⟨-, -, -, -, h⟩ := h
  exact h
theorem Kp.via {w w1 w2 : World} {B : Nat} {bv bv1 : Value} (hk : Kp (fun q => q = B ∨ bv.ownBlock = some q) w w1) (ha : ∀ k, bv1.ownBlock = some k → bv.ownBlock = some k ∨ w.heap.size ≤ k) (k2 : Kp (fun q => q = B ∨ bv1.ownBlock = some q) w1 w2) : Kp (fun q => q = B ∨ bv.ownBlock = some q) w w2 :=
  Kp.trans hk k2 (fun i hi e => by
    rcases e with e | e
    · exact .inl e
    · rcases ha i e with e | e
      · exact .inr e
      · omega)
/-- What has come of it since an earlier world. -/
theorem PvE.via {r : Except Nat (List UInt8)} {w w1 w2 : World} {B : Nat} {p bv bv1 : Value} {l1 : List UInt8} {e : Ending} (h1 : Pb w1 B l1 p bv1) (ha : ∀ k, bv1.ownBlock = some k → bv.ownBlock = some k ∨ w.heap.size ≤ k) (hk : Kp (fun q => q = B ∨ bv.ownBlock = some q) w w1) (h2 : PvE r w1 B bv1 l1 e w2) : PvE r w B bv l1 e w2 := by
  obtain ⟨v, rfl, h⟩ := h2
  refine ⟨v, rfl, ?_⟩
  cases r with
  | ok s => exact ⟨h.1, BdT.trans h1 ha hk h.2⟩
  | error x => exact ⟨h.1, Kp.via hk ha h.2⟩
/-- What value does with so many levels left, of what stands in an earlier world. -/
def PvC (w0 : World) (d : Nat) : Prop := ∀ (j : J) (va : Value) (B : Nat) (l : List UInt8) (p bv : Value) (w : World), IsA w0 va j → Below w0.heap.size w0 w → w0.heap.size ≤ B → Pb w B l p bv → l.length + wt j ≤ 134217728 →
  Calls Tryd.prog 19 #[.pointer (some ⟨B, 0, none⟩), va, .int .i64 (40 - (d : Int))] w fun e w' => PvE (pr d j) w B bv l e w'
/-- .. at what was written since. -/
theorem PvC.at {w0 : World} {d : Nat} (h : PvC w0 d) {j : J} {va : Value} {B : Nat} {l : List UInt8} {bv : Value} {w wr : World} (ha : IsA w0 va j) (hb : Below w0.heap.size w0 w) (hB : w0.heap.size ≤ B) (hp : Pt w B bv l wr) (hl : l.length + wt j ≤ 134217728) (hbv : ∀ k, bv.ownBlock = some k → w0.heap.size ≤ k) :
    ∀ W, Below wr.heap.size wr W → Calls Tryd.prog 19 #[.pointer (some ⟨B, 0, none⟩), va, .int .i64 (40 - (d : Int))] W fun e w' => PvE (pr d j) w B bv l e w' := by
  intro W hW
  obtain ⟨p1, bv1, g1, a1, k1⟩ := hp.at hW
  have hbW : Below w0.heap.size w0 W := hb.trans (k1.below hb.size (fun k e => by
    rcases e with e | e
    · omega
    · exact hbv k e))
  refine (h j va B l p1 bv1 W ha hbW hB g1 hl).mono ?_
  intro e w' h'
  exact h'.via g1 a1 k1
theorem BdG.own {f : Value → Value → Array Value} {T o : Nat} {w : World} {B : Nat} {l : List UInt8} {p bv : Value} (h : BdG f T o w B l p bv) {n : Nat} (hB : n ≤ B) : ∀ k, bv.ownBlock = some k → n ≤ k := fun _ e => Nat.le_trans hB (own_tyB h.row e).1
/-- A kid, as it lies in memory. -/
theorem kid_shape {w0 : World} {v : Value × Value × Value × Value × Value} {j : J} (h : IsA w0 (.agg #[v.1, v.2.1, v.2.2.1, v.2.2.2.1, v.2.2.2.2]) j) : ∃ k n t u1 u2 u3 v1 v2 v3, v = (.int .i64 k, .int .i64 n, .string t, .slice u1 u2 u3, .slice v1 v2 v3) := by
  obtain ⟨k', n', t', kv', rv', hsh, ⟨u1, u2, u3, hkv⟩, ⟨v1, v2, v3, hrv⟩⟩ := h.shape
  injection hsh with hsh
  simp only [Array.mk.injEq, List.cons.injEq, and_true] at hsh
  obtain ⟨e0, e1, e2, e3, e4⟩ := hsh
  subst hkv hrv
  exact ⟨k', n', t', u1, u2, u3, v1, v2, v3, by rw [← e0, ← e1, ← e2, ← e3, ← e4]⟩
/-- A row of kids that stands in an earlier world. -/
def Kidz (w0 : World) (bo : Option Addr) (kids : List J) : Prop := ∀ (i : Nat) (j : J), kids[i]? = some j → ∃ g o k n t u1 u2 u3 v1 v2 v3, bo = some ⟨g, o, none⟩ ∧ IsA w0 (.agg #[.int .i64 k, .int .i64 n, .string t, .slice u1 u2 u3, .slice v1 v2 v3]) j ∧
  w0.cell? ⟨g, o + i * 5, none⟩ = some (.int .i64 k) ∧ w0.cell? ⟨g, o + i * 5 + 1, none⟩ = some (.int .i64 n) ∧ w0.cell? ⟨g, o + i * 5 + 2, none⟩ = some (.string t) ∧ w0.cell? ⟨g, o + i * 5 + 3, none⟩ = some (.slice u1 u2 u3) ∧ w0.cell? ⟨g, o + i * 5 + 4, none⟩ = some (.slice v1 v2 v3)
theorem kidz_of {w0 : World} {bo : Option Addr} {kids : List J} {f : Nat → Value × Value × Value × Value × Value} (hr : ∀ i, i < kids.length → ∃ g o, bo = some ⟨g, o, none⟩ ∧ w0.cell? ⟨g, o + i * 5, none⟩ = some (f i).1 ∧ w0.cell? ⟨g, o + i * 5 + 1, none⟩ = some (f i).2.1 ∧ w0.cell? ⟨g, o + i * 5 + 2, none⟩ = some (f i).2.2.1 ∧ w0.cell? ⟨g, o + i * 5 + 3, none⟩ = some (f i).2.2.2.1 ∧ w0.cell? ⟨g, o + i * 5 + 4, none⟩ = some (f i).2.2.2.2)
    (hp : ∀ (i : Nat) (j : J), kids[i]? = some j → IsA w0 (.agg #[(f i).1, (f i).2.1, (f i).2.2.1, (f i).2.2.2.1, (f i).2.2.2.2]) j) : Kidz w0 bo kids := by
  intro i j hj
  have hi : i < kids.length := by
    rcases Nat.lt_or_ge i kids.length with h | h
    · exact h
    · rw [List.getElem?_eq_none h] at hj; cases hj
  obtain ⟨g, o, e, a0, a1, a2, a3, a4⟩ := hr i hi
  have h := hp i j hj
  obtain ⟨k, n, t, u1, u2, u3, v1, v2, v3, hv⟩ := kid_shape h
  rw [hv] at h a0 a1 a2 a3 a4
  exact ⟨g, o, k, n, t, u1, u2, u3, v1, v2, v3, e, h, a0, a1, a2, a3, a4⟩
theorem wts_drop {kids : List J} {i : Nat} {j : J} (h : kids[i]? = some j) : wts (kids.drop i) = wt j + wts (kids.drop (i + 1)) ∧ kids.drop i = j :: kids.drop (i + 1) := by
  have hi : i < kids.length := by
    rcases Nat.lt_or_ge i kids.length with h' | h'
    · exact h'
    · rw [List.getElem?_eq_none h'] at h; cases h
  have e : kids.drop i = j :: kids.drop (i + 1) := by
    rw [List.getElem?_eq_getElem hi] at h
    rw [← Option.some.inj h]
    exact List.drop_eq_getElem_cons hi
  rw [e]; exact ⟨rfl, rfl⟩
end Go.Proofs.YtcibflndpckkkaaDoor
