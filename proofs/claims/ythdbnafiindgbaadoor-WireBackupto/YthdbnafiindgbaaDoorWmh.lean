/- The program's printer: what comes of a value; a list's kids. -/
import Derived.Test.YthdbnafiindgbaaDoorWmg
import Derived.Test.YthdbnafiindgbaaDoorWme
import Derived.Test.YthdbnafiindgbaaDoorWmb
import Derived.Test.YthdbnafiindgbaaDoorWld0
import Derived.Test.YthdbnafiindgbaaDoorWky
import Derived.Deep.CutBlock
import Derived.Deep.DeepCutAuto
namespace Go.Proofs.YthdbnafiindgbaaDoor
open Go.RowKit
open Wi

/-- An error of the program's. -/
abbrev erV (x : Nat) : Value := .iface 64 (.int .i64 (x : Int))
/-- What has come of writing. -/
def PvE (r : Except Nat (List UInt8)) (w : World) (B : Nat) (bv : Value) (l : List UInt8) (e : Ending) (w' : World) : Prop :=
  ∃ v, e = .returned v ∧ match r with
  | .ok s => v = .nilIface ∧ Pt w B bv (l ++ s) w'
  | .error x => v = erV x ∧ Kp (fun q => q = B ∨ bv.ownBlock = some q) w w'
theorem BdT.kp {f : Value → Value → Array Value} {T o : Nat} {w w' : World} {B : Nat} {l : List UInt8} {bv : Value} (h : BdT f T o w B bv l w') : Kp (fun q => q = B ∨ bv.ownBlock = some q) w w' := by
  obtain ⟨-, -, -, -, h⟩ := h
  exact h
theorem Kp.via {w w1 w2 : World} {B : Nat} {bv bv1 : Value} (hk : Kp (fun q => q = B ∨ bv.ownBlock = some q) w w1) (ha : ∀ k, bv1.ownBlock = some k → bv.ownBlock = some k ∨ w.heap.size ≤ k) (k2 : Kp (fun q => q = B ∨ bv1.ownBlock = some q) w1 w2) : Kp (fun q => q = B ∨ bv.ownBlock = some q) w w2 :=
  Kp.trans hk k2 (fun i hi e => by
    rcases e with e | e
    · exact .inl e
    · rcases ha i e with e | e
      · exact .inr e
      · omega)
/-- What has come of it since an earlier world. -/
theorem PvE.via {r : Except Nat (List UInt8)} {w w1 w2 : World} {B : Nat} {p bv bv1 : Value} {l1 : List UInt8} {e : Ending} (h1 : Pb w1 B l1 p bv1) (ha : ∀ k, bv1.ownBlock = some k → bv.ownBlock = some k ∨ w.heap.size ≤ k) (hk : Kp (fun q => q = B ∨ bv.ownBlock = some q) w w1) (h2 : PvE r w1 B bv1 l1 e w2) : PvE r w B bv l1 e w2 := by
  obtain ⟨v, rfl, h⟩ := h2
  refine ⟨v, rfl, ?_⟩
  cases r with
  | ok s => exact ⟨h.1, BdT.trans h1 ha hk h.2⟩
  | error x => exact ⟨h.1, Kp.via hk ha h.2⟩
/-- What value does with so many levels left, of what stands in an earlier world. -/
def PvC (w0 : World) (d : Nat) : Prop := ∀ (j : J) (va : Value) (B : Nat) (l : List UInt8) (p bv : Value) (w : World), IsA w0 va j → Below w0.heap.size w0 w → w0.heap.size ≤ B → Pb w B l p bv → l.length + wt j ≤ 134217728 →
  Calls Tryd.prog 19 #[.pointer (some ⟨B, 0, none⟩), va, .int .i64 (40 - (d : Int))] w fun e w' => PvE (pr d j) w B bv l e w'
/-- .. at what was written since. -/
theorem PvC.at {w0 : World} {d : Nat} (h : PvC w0 d) {j : J} {va : Value} {B : Nat} {l : List UInt8} {bv : Value} {w wr : World} (ha : IsA w0 va j) (hb : Below w0.heap.size w0 w) (hB : w0.heap.size ≤ B) (hp : Pt w B bv l wr) (hl : l.length + wt j ≤ 134217728) (hbv : ∀ k, bv.ownBlock = some k → w0.heap.size ≤ k) :
    ∀ W, Below wr.heap.size wr W → Calls Tryd.prog 19 #[.pointer (some ⟨B, 0, none⟩), va, .int .i64 (40 - (d : Int))] W fun e w' => PvE (pr d j) w B bv l e w' := by
  intro W hW
  obtain ⟨p1, bv1, g1, a1, k1⟩ := hp.at hW
  have hbW : Below w0.heap.size w0 W := hb.trans (k1.below hb.size (fun k e => by
    rcases e with e | e
    · omega
    · exact hbv k e))
  refine (h j va B l p1 bv1 W ha hbW hB g1 hl).mono ?_
  intro e w' h'
  exact h'.via g1 a1 k1
theorem BdG.own {f : Value → Value → Array Value} {T o : Nat} {w : World} {B : Nat} {l : List UInt8} {p bv : Value} (h : BdG f T o w B l p bv) {n : Nat} (hB : n ≤ B) : ∀ k, bv.ownBlock = some k → n ≤ k := fun _ e => Nat.le_trans hB (own_tyB h.row e).1
/-- A kid, as it lies in memory. -/
theorem kid_shape {w0 : World} {v : Value × Value × Value × Value × Value} {j : J} (h : IsA w0 (.agg #[v.1, v.2.1, v.2.2.1, v.2.2.2.1, v.2.2.2.2]) j) : ∃ k n t u1 u2 u3 v1 v2 v3, v = (.int .i64 k, .int .i64 n, .string t, .slice u1 u2 u3, .slice v1 v2 v3) := by
  obtain ⟨k', n', t', kv', rv', hsh, ⟨u1, u2, u3, hkv⟩, ⟨v1, v2, v3, hrv⟩⟩ := h.shape
  injection hsh with hsh
  simp only [Array.mk.injEq, List.cons.injEq, and_true] at hsh
  obtain ⟨e0, e1, e2, e3, e4⟩ := hsh
  subst hkv hrv
  exact ⟨k', n', t', u1, u2, u3, v1, v2, v3, by rw [← e0, ← e1, ← e2, ← e3, ← e4]⟩
/-- A row of kids that stands in an earlier world. -/
def Kidz (w0 : World) (bo : Option Addr) (kids : List J) : Prop := ∀ (i : Nat) (j : J), kids[i]? = some j → ∃ g o k n t u1 u2 u3 v1 v2 v3, bo = some ⟨g, o, none⟩ ∧ IsA w0 (.agg #[.int .i64 k, .int .i64 n, .string t, .slice u1 u2 u3, .slice v1 v2 v3]) j ∧
  w0.cell? ⟨g, o + i * 5, none⟩ = some (.int .i64 k) ∧ w0.cell? ⟨g, o + i * 5 + 1, none⟩ = some (.int .i64 n) ∧ w0.cell? ⟨g, o + i * 5 + 2, none⟩ = some (.string t) ∧ w0.cell? ⟨g, o + i * 5 + 3, none⟩ = some (.slice u1 u2 u3) ∧ w0.cell? ⟨g, o + i * 5 + 4, none⟩ = some (.slice v1 v2 v3)
theorem kidz_of {w0 : World} {bo : Option Addr} {kids : List J} {f : Nat → Value × Value × Value × Value × Value} (hr : ∀ i, i < kids.length → ∃ g o, bo = some ⟨g, o, none⟩ ∧ w0.cell? ⟨g, o + i * 5, none⟩ = some (f i).1 ∧ w0.cell? ⟨g, o + i * 5 + 1, none⟩ = some (f i).2.1 ∧ w0.cell? ⟨g, o + i * 5 + 2, none⟩ = some (f i).2.2.1 ∧ w0.cell? ⟨g, o + i * 5 + 3, none⟩ = some (f i).2.2.2.1 ∧ w0.cell? ⟨g, o + i * 5 + 4, none⟩ = some (f i).2.2.2.2)
    (hp : ∀ (i : Nat) (j : J), kids[i]? = some j → IsA w0 (.agg #[(f i).1, (f i).2.1, (f i).2.2.1, (f i).2.2.2.1, (f i).2.2.2.2]) j) : Kidz w0 bo kids := by
  intro i j hj
  have hi : i < kids.length := by
    rcases Nat.lt_or_ge i kids.length with h | h
    · exact h
    · rw [List.getElem?_eq_none h] at hj; cases hj
  obtain ⟨g, o, e, a0, a1, a2, a3, a4⟩ := hr i hi
  have h := hp i j hj
  obtain ⟨k, n, t, u1, u2, u3, v1, v2, v3, hv⟩ := kid_shape h
  rw [hv] at h a0 a1 a2 a3 a4
  exact ⟨g, o, k, n, t, u1, u2, u3, v1, v2, v3, e, h, a0, a1, a2, a3, a4⟩
theorem wts_drop {kids : List J} {i : Nat} {j : J} (h : kids[i]? = some j) : wts (kids.drop i) = wt j + wts (kids.drop (i + 1)) ∧ kids.drop i = j :: kids.drop (i + 1) := by
  have hi : i < kids.length := by
    rcases Nat.lt_or_ge i kids.length with h' | h'
    · exact h'
    · rw [List.getElem?_eq_none h'] at h; cases h
  have e : kids.drop i = j :: kids.drop (i + 1) := by
    rw [List.getElem?_eq_getElem hi] at h
    rw [← Option.some.inj h]
    exact List.drop_eq_getElem_cons hi
  rw [e]; exact ⟨rfl, rfl⟩
end Go.Proofs.YthdbnafiindgbaaDoor
/- The program's printer: lists. -/
namespace Go.Proofs.YthdbnafiindgbaaDoor
open Go.RowKit
open Wi

theorem prL_step {p : J → Except Nat (List UInt8)} {i : Nat} {j : J} {r : List J} {s : List UInt8} : prL p (i == 0) (j :: r) s = match p j with | .error e => .error e | .ok x => prL p (i + 1 == 0) r (s ++ com i ++ x) := by
  simp only [prL]
  cases p j with
  | error e => rfl
  | ok x =>
    have h1 : ((if (i == 0) = true then s else s ++ [44]) : List UInt8) = s ++ com i := by
      unfold com
      by_cases h : i = 0
      · simp [h]
      · simp [h]
    have h2 : (i + 1 == 0) = false := by simp
    rw [h1, h2]
theorem Kp.cellB {w w' : World} {B N o : Nat} {l : List UInt8} {p bv v : Value} (h : Kp (fun q => q = B ∨ bv.ownBlock = some q) w w') (hg : Pb w B l p bv) {c : Array Value} {T : TypeId} (hN : w.heap[N]? = some (.cells c T (0, 0))) (hT : T ≠ 57) (hT2 : T ≠ 5) (hc : c[o]? = some v) : w'.cell? ⟨N, o, none⟩ = some v := by
  refine h.cellv (cell_blk hN hc) (fun e => ?_)
  rcases e with e | e
  · have e : N = B := e
    rw [e] at hN
    exact hT (cells_tyB hN hg.blk)
  · obtain ⟨-, c', hc'⟩ := own_tyB hg.row e
    exact hT2 (cells_tyB hN hc')

set_option maxRecDepth 100000 in
set_option maxHeartbeats 4000000 in
theorem plist_any (w0 : World) (e : Nat) (ih : PvC w0 e) (kids : List J) (bo : Option Addr) (bcap B : Nat) (l : List UInt8) (p bv : Value) (w : World) (hkz : Kidz w0 bo kids) (hb : Below w0.heap.size w0 w) (hB : w0.heap.size ≤ B) (hp : Pb w B l p bv) (hl : l.length + 2 + wts kids ≤ 134217728) :
    Calls Tryd.prog 34 #[.pointer (some ⟨B, 0, none⟩), .slice bo kids.length bcap, .int .i64 (40 - (e : Int))] w fun en w' => PvE (prN (pr e) false [] kids) w B bv l en w' := by
  obtain ⟨dp, hdp⟩ : ∃ dp : Int, 40 - (e : Int) = dp := ⟨_, rfl⟩
  have HV := hide ih
  rw [hdp]
  have HDP := hide hdp
  have HKZ := hide hkz
  have HB := hide hb
  have HP := hide hp
  have HOW := hide (hp.own hB)
  have hkl : kids.length ≤ 134217728 := by have := wts_len kids; omega
  obtain ⟨R, hR⟩ : ∃ R, prN (pr e) false [] kids = R := ⟨_, rfl⟩
  rw [hR]
  have HR : Hid (R = match prL (pr e) (0 == 0) kids [91] with | .error x => .error x | .ok s => .ok (s ++ [93])) := by
    show _ = _; rw [← hR]; unfold prN; simp; cases prL (pr e) true kids [91] <;> rfl
  clear hR ih hdp hkz hb hp
  go_enter Tryd.func34, Tryd.ntmps34
  go_wp2_with fail
  refine ((BdT.refl HP.out).byte prH 91 (by omega) _ (Below.refl _ _)).mono ?_
  rintro en w1 ⟨rfl, H1⟩
  go_wp2_with fail
  go_loopw [16] (fun iv wr => ∃ i : Nat, iv = .int .i64 i ∧ i ≤ kids.length ∧ ∃ s : List UInt8, Hid (prL (pr e) (0 == 0) kids [91] = prL (pr e) (i == 0) (kids.drop i) s) ∧ Hid (Pt w B bv (l ++ s) wr) ∧ Hid (l.length + s.length + wts (kids.drop i) + 1 ≤ 134217728)) (fun iv _ => kids.length - (intOf iv).toNat)
  case atStart =>
    refine ⟨0, rfl, Nat.zero_le _, [91], ?_, H1, ?_⟩
    · show _ = _; rw [List.drop_zero]
    · show _ ≤ _; rw [List.drop_zero]; simp; omega
  case round =>
    obtain ⟨i, rfl, hi, s, HQ, HS, HL⟩ := hrel
    clear H1 HP hl
    by_cases hlt : i < kids.length
    case neg =>
      have i1 : decide ((i : Int) < (kids.length : Int)) = false := by simp; omega
      have i1' : decide (i < kids.length) = false := by simp; omega
      have HE : Hid (R = .ok (s ++ [93])) := by
        show _ = _
        rw [HR.out, HQ.out, List.drop_eq_nil_of_le (by omega)]; rfl
      clear hlt
      go_wp2_with fail
      refine ((HS.out).byte prH 93 (by have := HL.out; simp; omega) _ (Below.refl _ _)).mono ?_
      rintro en w3 ⟨rfl, H3⟩
      go_wp2_with fail
      go_ret
      refine ⟨_, rfl, ?_⟩
      rw [HE.out]
      refine ⟨rfl, ?_⟩
      rw [← List.append_assoc]; exact H3.out
    have i1 : decide ((i : Int) < (kids.length : Int)) = true := by simp; omega
    have i1' : decide (i < kids.length) = true := by simp; omega
    have i2 : (0 : Int) ≤ (i : Int) := by omega
    have i3 : (i : Int) < (kids.length : Int) := by omega
    obtain ⟨j, hj⟩ : ∃ j, kids[i]? = some j := ⟨_, List.getElem?_eq_getElem hlt⟩
    obtain ⟨g, o, k, n, t, u1, u2, u3, v1, v2, v3, rfl, hIA, a0, a1, a2, a3, a4⟩ := (HKZ.out) i j hj
    have HIA := hide hIA
    obtain ⟨wd, dr⟩ := wts_drop hj
    have HWD := hide wd
    have HDR := hide dr
    have hk := (HS.out).kp
    have q : Below w0.heap.size w0 wr := (HB.out).trans (hk.below (HB.out).size (fun k e => by
      rcases e with e | e
      · omega
      · exact (HOW.out) k e))
    have q' := Kp.ofBelow q (fun _ => False)
    replace a0 := q'.cellv a0 id
    replace a1 := q'.cellv a1 id
    replace a2 := q'.cellv a2 id
    replace a3 := q'.cellv a3 id
    replace a4 := q'.cellv a4 id
    clear q q' hk hIA wd dr hj hlt
    go_upto_region 5 with fail
    have hN := heap_alloc_new wr (.cells #[.int .i64 k, .int .i64 n, .string t, .slice u1 u2 u3, .slice v1 v2 v3] 25)
    have hBl : Below wr.heap.size wr (wr.alloc (.cells #[.int .i64 k, .int .i64 n, .string t, .slice u1 u2 u3, .slice v1 v2 v3] 25)) := (Below.refl _ wr).alloc (Nat.le_refl _) _
    have HS2 := hide ((HS.out).at hBl)
    generalize wr.heap.size = N at *
    generalize wr.alloc (.cells #[.int .i64 k, .int .i64 n, .string t, .slice u1 u2 u3, .slice v1 v2 v3] 25) = w2 at *
    clear a0 a1 a2 a3 a4 hBl HS
    obtain ⟨p2, bv2, g2, b2, k2⟩ := HS2.out
    have hll : (l ++ s).length ≤ 1099511627776 := by have := HL.out; simp; omega
    have HCM := hide (comma_any i (by omega) (BdT.refl g2) hll)
    have HG2 := hide g2
    have HB2 := hide b2
    have HK2 := hide k2
    have HN := hide hN
    clear g2 b2 k2 hN hll HS2
    go_wp2_with fail
    refine (HCM.out).mono ?_
    rintro en w3 ⟨rfl, H3⟩
    have k3 := (H3.out).kp
    have c0 := k3.cellB HG2.out HN.out (by decide) (by decide) (o := 0) rfl
    have c1 := k3.cellB HG2.out HN.out (by decide) (by decide) (o := 1) rfl
    have c2 := k3.cellB HG2.out HN.out (by decide) (by decide) (o := 2) rfl
    have c3 := k3.cellB HG2.out HN.out (by decide) (by decide) (o := 3) rfl
    have c4 := k3.cellB HG2.out HN.out (by decide) (by decide) (o := 4) rfl
    have HS3 := hide (BdT.trans HG2.out HB2.out HK2.out H3.out)
    have hcl : (com i).length ≤ 1 := by unfold com; split <;> simp
    have HVC := hide ((HV.out).at HIA.out HB.out hB HS3.out (by have := HL.out; have := HWD.out; simp; omega) HOW.out w3 (Below.refl _ _))
    rw [HDP.out] at HVC
    clear k3 H3 HCM HG2 HB2 HK2 HN
    go_wp2_with fail
    refine (HVC.out).mono ?_
    rintro en w4 ⟨v, rfl, hv⟩
    have HST := hide (prL_step (p := pr e) (i := i) (j := j) (r := kids.drop (i + 1)) (s := s))
    have HPL := hide (fun x => pr_len e j x)
    clear HVC c0 c1 c2 c3 c4 HS3 HIA HKZ
    generalize pr e j = r at *
    cases r with
    | error x =>
      obtain ⟨rfl, hk⟩ := hv
      have HE : Hid (R = .error x) := by
        show _ = _
        rw [HR.out, HQ.out, HDR.out, HST.out]
      have HK := hide hk
      clear hk HST HPL
      go_wp2_with fail
      go_ret
      refine ⟨_, rfl, ?_⟩
      rw [HE.out]
      exact ⟨rfl, HK.out⟩
    | ok x =>
      obtain ⟨rfl, hk⟩ := hv
      have HK := hide hk
      have HE : Hid (prL (pr e) (0 == 0) kids [91] = prL (pr e) (i + 1 == 0) (kids.drop (i + 1)) (s ++ com i ++ x)) := by
        show _ = _
        rw [HQ.out, HDR.out, HST.out]
      have HX := hide ((HPL.out) x rfl)
      clear hk HST HPL
      go_wp2_with fail
      refine ⟨⟨i + 1, by simp, by omega, s ++ com i ++ x, HE, ?_, ?_⟩, ?_⟩
      · show Pt _ _ _ _ _
        have := HK.out
        simp only [List.append_assoc] at this ⊢
        exact this
      · show _ ≤ _
        have := HL.out
        have := HWD.out
        have := HX.out
        simp; omega
      · show kids.length - (i + 1) < kids.length - i
        omega
end Go.Proofs.YthdbnafiindgbaaDoor
