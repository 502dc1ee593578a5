/- The program's printer: any value; Print. -/
import Derived.Test.YthdbnafiindgbaaDoorWmj
namespace Go.Proofs.YthdbnafiindgbaaDoor
open Go.RowKit
open Wi

theorem PvE.pre {r : Except Nat (List UInt8)} {w w1 w2 : World} {B : Nat} {p bv : Value} {l : List UInt8} {e : Ending} (hb : Below w.heap.size w w1) (h1 : Pb w1 B l p bv) (h2 : PvE r w1 B bv l e w2) : PvE r w B bv l e w2 :=
  h2.via h1 (fun _ e => .inl e) (Kp.ofBelow hb _)
/-- What is known ahead of a value's kind: its fields in a block of its own, and that they are sound. -/
structure PvI (w0 w : World) (B C : Nat) (l : List UInt8) (p bv : Value) (k n : Int) (t : ByteArray) (kv rv : Value) (w1 : World) : Prop where
  bel : Below w.heap.size w w1
  bd : Pb w1 B l p bv
  b0 : Below w0.heap.size w0 w1
  c0 : w1.cell? ⟨C, 0, none⟩ = some (.int .i64 k)
  c1 : w1.cell? ⟨C, 1, none⟩ = some (.int .i64 n)
  c2 : w1.cell? ⟨C, 2, none⟩ = some (.string t)
  c3 : w1.cell? ⟨C, 3, none⟩ = some kv
  c4 : w1.cell? ⟨C, 4, none⟩ = some rv
  blk : w1.heap[C]? = some (.cells #[.int .i64 k, .int .i64 n, .string t, kv, rv] 25 (0, 0))
theorem PvI.next {w0 w w1 w2 : World} {B C : Nat} {l : List UInt8} {p bv : Value} {k n : Int} {t : ByteArray} {kv rv : Value} (h : PvI w0 w B C l p bv k n t kv rv w1) (hb : Below w1.heap.size w1 w2) : PvI w0 w B C l p bv k n t kv rv w2 := by
  have q := Kp.ofBelow hb (fun _ => False)
  exact ⟨h.bel.trans (hb.mono h.bel.size), h.bd.below hb, h.b0.trans (hb.mono h.b0.size), q.cellv h.c0 id, q.cellv h.c1 id, q.cellv h.c2 id, q.cellv h.c3 id, q.cellv h.c4 id, q.heap h.blk id⟩
theorem PvI.new {w0 w : World} {B : Nat} {l : List UInt8} {p bv : Value} {k n : Int} {t : ByteArray} {kv rv : Value} (hb : Below w0.heap.size w0 w) (hp : Pb w B l p bv) : PvI w0 w B w.heap.size l p bv k n t kv rv (w.alloc (.cells #[.int .i64 k, .int .i64 n, .string t, kv, rv] 25)) := by
  have hk : Below w.heap.size w (w.alloc (.cells #[.int .i64 k, .int .i64 n, .string t, kv, rv] 25)) := (Below.refl _ w).alloc (Nat.le_refl _) _
  have hN := heap_alloc_new w (.cells #[.int .i64 k, .int .i64 n, .string t, kv, rv] 25)
  exact ⟨hk, hp.below hk, hb.trans (hk.mono hb.size), cell_blk hN rfl, cell_blk hN rfl, cell_blk hN rfl, cell_blk hN rfl, cell_blk hN rfl, hN⟩

theorem pr_kind (d : Nat) (k n : Int) (t : List UInt8) (ks : List (List UInt8)) (kids : List J) : pr d (.mk k n t ks kids) = if ownOk k n t ks kids.length = false then .error 3 else if k = 0 then .ok sNull else if k = 1 then (if n = 1 then .ok sTrue else .ok sFalse) else if k = 2 then .ok (digsZ n) else if k = 3 then .ok (quote t) else match d with
    | 0 => .error 12
    | e + 1 => prN (pr e) (k == 5) ks kids := by cases d <;> rfl
theorem own_range {k n : Int} {t : List UInt8} {ks : List (List UInt8)} {m : Nat} (h : ownOk k n t ks m = true) : k = 0 ∨ k = 1 ∨ k = 2 ∨ k = 3 ∨ k = 4 ∨ k = 5 := by
  by_cases h0 : k = 0 ∨ k = 1 ∨ k = 2 ∨ k = 3 ∨ k = 4 ∨ k = 5
  · exact h0
  · exfalso
    have : ownOk k n t ks m = false := by
      unfold ownOk
      rw [if_neg (by omega), if_neg (by omega), if_neg (by omega), if_neg (by omega), if_neg (by omega), if_neg (by omega)]
    rw [this] at h; cases h
theorem prN_lst (p : J → Except Nat (List UInt8)) (ks : List (List UInt8)) (kids : List J) : prN p false [] kids = prN p false ks kids := rfl
theorem own_num {n : Int} {t : List UInt8} {ks : List (List UInt8)} {m : Nat} (h : ownOk 2 n t ks m = true) : -999999999999999999 ≤ n ∧ n ≤ 999999999999999999 := by
  simp [ownOk] at h; omega
theorem own_keys {n : Int} {t : List UInt8} {ks : List (List UInt8)} {m : Nat} (h : ownOk 5 n t ks m = true) : ks.length = m := by
  simp [ownOk] at h; exact h.2
theorem PvI.str {w0 w w1 : World} {B C : Nat} {l : List UInt8} {p bv : Value} {k n : Int} {t : ByteArray} {kv rv : Value} (h : PvI w0 w B C l p bv k n t kv rv w1) (x : List UInt8) (hl : l.length + x.length ≤ 1099511627776) :
    ∀ W, Below w1.heap.size w1 W → Calls Tryd.prog 31 #[.pointer (some ⟨B, 0, none⟩), .string (ba x)] W fun e w' => (∃ v, e = .returned v) ∧ Hid (Pt w B bv (l ++ x) w') ∧ w'.cell? ⟨C, 1, none⟩ = some (.int .i64 n) := by
  intro W hW
  have h' := h.next hW
  refine (wstr_any prH x B l p bv W h'.bd hl).mono ?_
  rintro e w' ⟨hv, hw⟩
  exact ⟨hv, BdT.trans h'.bd (fun _ e => .inl e) (Kp.ofBelow h'.bel _) hw.out, (BdT.kp hw.out).cellB h'.bd h'.blk (by decide) (by decide) rfl⟩

set_option maxRecDepth 100000 in
set_option maxHeartbeats 4000000 in
theorem pvalue_W (w0 : World) (hT : Tb w0) (d : Nat) (hd : d ≤ 40) (ih : ∀ e, d = e + 1 → PvC w0 e) : PvC w0 d := by
  intro j va B l p bv w hIA hb hB hp hl
  have HT := hide hT
  have HIH := hide ih
  have HPR := hide (pr_len d j)
  cases hIA with
  | mk k n t ks kids kv bo bcap f hks hc hr hp' =>
  have HKZ := hide (kidz_of hr hp')
  have HKS := hide hks
  obtain ⟨ka, kc, rfl, -⟩ := hks
  have HSO := hide (fun W => sound_any k n t ks ka bo kc kids.length bcap W)
  have HI := hide (PvI.new (k := k) (n := n) (t := ba t) (kv := .slice ka ks.length kc) (rv := .slice bo kids.length bcap) hb hp)
  obtain ⟨R, hR⟩ : ∃ R, pr d (.mk k n t ks kids) = R := ⟨_, rfl⟩
  have HR := hide hR
  rw [hR] at HPR ⊢
  have hBp := hB
  have HHB := hide hb
  obtain ⟨dp, hdp⟩ : ∃ dp : Int, 40 - (d : Int) = dp := ⟨_, rfl⟩
  rw [hdp]
  have HDP := hide hdp
  clear hR ih hb hr hp' hc hT hp hdp
  go_enter Tryd.func19, Tryd.ntmps19
  go_upto_region 1 with fail
  generalize w.alloc (.cells #[.int .i64 k, .int .i64 n, .string (ba t), .slice ka ks.length kc, .slice bo kids.length bcap] 25) = w1 at *
  generalize w.heap.size = C at *
  obtain ⟨a0, a1, a2, a3, a4⟩ : _ ∧ _ ∧ _ ∧ _ ∧ _ := ⟨(HI.out).c0, (HI.out).c1, (HI.out).c2, (HI.out).c3, (HI.out).c4⟩
  go_wp2_with fail
  refine ((HSO.out) _).mono ?_
  rintro en w2 ⟨rfl, hb2⟩
  have HI2 := hide ((HI.out).next hb2)
  clear HI HSO hb2 a0 a1 a2 a3 a4
  have HKD := hide (pr_kind d k n t ks kids)
  rw [HR.out] at HKD
  obtain ⟨a0, a1, a2, a3, a4⟩ : _ ∧ _ ∧ _ ∧ _ ∧ _ := ⟨(HI2.out).c0, (HI2.out).c1, (HI2.out).c2, (HI2.out).c3, (HI2.out).c4⟩
  cases hok : ownOk k n t ks kids.length with
  | false =>
    have HE : Hid (R = .error 3) := by show _ = _; rw [HKD.out, if_pos hok]
    clear hok HKD
    go_wp2_with fail
    go_ret
    refine ⟨_, rfl, ?_⟩
    rw [HE.out]
    exact ⟨rfl, Kp.ofBelow (HI2.out).bel _⟩
  | true =>
  rw [hok, if_neg (by decide)] at HKD
  have HOK := hide hok
  have hrg := own_range hok
  have hwt : 40 + t.length * 7 + (ks.map fun x => x.length * 7 + 10).sum + wts kids ≤ 134217728 - l.length := by simp only [wt] at hl; omega
  clear hok
  rcases hrg with rfl | rfl | rfl | rfl | rfl | rfl
  · have HE : Hid (R = .ok sNull) := by show _ = _; rw [HKD.out, if_pos rfl]
    have HW := hide ((HI2.out).str sNull (by simp [sNull]; omega) _ (Below.refl _ _))
    clear HKD HKS HKZ HPR HR
    cases hq : (dp == 40)
    all_goals
      go_wp2_with fail
      refine (HW.out).mono ?_
      rintro en w3 ⟨⟨v, rfl⟩, H3, -⟩
      go_wp2_with fail
      go_ret
      refine ⟨_, rfl, ?_⟩
      rw [HE.out]
      exact ⟨rfl, H3.out⟩
  · have HE : Hid (R = .ok (if (n == 1) = true then sTrue else sFalse)) := by
      show _ = _; rw [HKD.out, if_neg (by decide), if_pos rfl]
      by_cases h : n = 1
      · rw [if_pos h, if_pos (by simpa using h)]
      · rw [if_neg h, if_neg (by simpa using h)]
    have hsl : (if (n == 1) = true then sTrue else sFalse).length ≤ 5 := by split <;> simp [sTrue, sFalse]
    have HW := hide ((HI2.out).str (if (n == 1) = true then sTrue else sFalse) (by omega))
    have HFB := hide (fun W => fbool_any (n == 1) W)
    obtain ⟨X, hX⟩ : ∃ X, (if (n == 1) = true then sTrue else sFalse) = X := ⟨_, rfl⟩
    rw [hX] at HW HFB HE
    clear HKD hsl hX HKS HKZ HPR HR
    cases hq : (dp == 40)
    all_goals
      go_wp2_with fail
      go_region_held3 (fun w' => w'.cell? ⟨C, 1, none⟩ = some (.int .i64 n)) (first | (with_reducible exact a1) | (with_reducible exact hc3) | exact a1) ((first | (go_at_call 32; refine ((HFB.out) _).mono ?_; rintro e w3 ⟨rfl, rfl⟩) | (go_at_call 31; refine ((HW.out) _ ?_).mono ?_; (first | exact (Below.refl _ w2).drew | exact Below.refl _ w2 | exact belowN (Below.refl _ w2) _); rintro e w3 ⟨⟨v, rfl⟩, H3, hc3⟩)))
      go_wp2_with fail
      go_ret
      refine ⟨_, rfl, ?_⟩
      rw [HE.out]
      exact ⟨rfl, H3.out⟩
  · have HE : Hid (R = .ok (digsZ n)) := by show _ = _; rw [HKD.out, if_neg (by decide), if_neg (by decide), if_pos rfl]
    have hnum := own_num HOK.out
    have hdl : (digsZ n).length ≤ 19 := by
      have := digs_len 18 n.natAbs (by omega)
      unfold digsZ
      split <;> simp <;> omega
    have HW := hide ((HI2.out).str (digsZ n) (by omega))
    have HIT : Hid (∀ W, Below w2.heap.size w2 W → Calls Tryd.prog 29 #[.int .i64 n] W fun e w' => e = .returned (.string (ba (digsZ n))) ∧ Below w2.heap.size w2 w' ∧ w'.cell? ⟨C, 1, none⟩ = some (.int .i64 n)) := by
      intro W hW
      have h' := (HI2.out).next hW
      refine (itoa_any n (by omega) (by omega) W ((HT.out).below h'.b0)).mono ?_
      rintro e w' ⟨rfl, hb⟩
      have h'' := h'.next hb
      exact ⟨rfl, hW.trans (hb.mono hW.size), h''.c1⟩
    clear HKD HKS HKZ HPR HR hdl hnum
    generalize digsZ n = X at *
    cases hq : (dp == 40)
    all_goals
      go_wp2_with fail
      go_region_held3 (fun w' => w'.cell? ⟨C, 1, none⟩ = some (.int .i64 n)) (first | (with_reducible exact a1) | (with_reducible exact hc4) | (with_reducible exact hc3) | exact a1) ((first | (go_at_call 29; refine ((HIT.out) _ ?_).mono ?_; (first | exact (Below.refl _ w2).drew | exact Below.refl _ w2 | exact belowN (Below.refl _ w2) _); rintro e w3 ⟨rfl, hb3, hc3⟩) | (go_at_call 31; refine ((HW.out) _ ?_).mono ?_; (first | exact hb3 | exact hb3.drew | exact belowN hb3 _); rintro e w4 ⟨⟨v, rfl⟩, H4, hc4⟩)))
      go_wp2_with fail
      go_ret
      refine ⟨_, rfl, ?_⟩
      rw [HE.out]
      exact ⟨rfl, H4.out⟩
  · have HE : Hid (R = .ok (quote t)) := by show _ = _; rw [HKD.out, if_neg (by decide), if_neg (by decide), if_neg (by decide), if_pos rfl]
    have HW := hide (pquoted_any t B l p bv w2 (HI2.out).bd (by omega))
    clear HKD HKS HKZ HPR HR
    cases hq : (dp == 40)
    all_goals
      go_wp2_with fail
      refine (HW.out).mono ?_
      rintro en w3 ⟨rfl, H3⟩
      go_wp2_with fail
      go_ret
      refine ⟨_, rfl, ?_⟩
      rw [HE.out]
      exact ⟨rfl, BdT.trans (HI2.out).bd (fun _ e => .inl e) (Kp.ofBelow (HI2.out).bel _) H3.out⟩
  · rw [if_neg (by decide), if_neg (by decide), if_neg (by decide), if_neg (by decide)] at HKD
    cases d with
    | zero =>
      have HE : Hid (R = .error 12) := HKD.out
      have hq : (dp == 40) = true := by have := HDP.out; simp; omega
      clear HKD HKS HKZ HPR HR
      go_wp2_with fail
      go_ret
      refine ⟨_, rfl, ?_⟩
      rw [HE.out]
      exact ⟨rfl, Kp.ofBelow (HI2.out).bel _⟩
    | succ e =>
      have HE : Hid (R = prN (pr e) false ks kids) := HKD.out
      have hq : (dp == 40) = false := by have := HDP.out; simp; omega
      have hdp0 : 0 ≤ dp := by have := HDP.out; omega
      have hdp1 : dp ≤ 40 := by have := HDP.out; omega
      have HC := hide ((plist_any w0 e ((HIH.out) e rfl) kids bo bcap B l p bv w2 HKZ.out (HI2.out).b0 hB (HI2.out).bd (by omega)).mono fun en w' h => PvE.pre (HI2.out).bel (HI2.out).bd h)
      have HDE : Hid (40 - (e : Int) = dp + 1) := by show _ = _; have := HDP.out; omega
      rw [HDE.out, prN_lst (pr e) ks kids, ← HE.out] at HC
      clear HKD HKS HKZ HPR HR HDE HIH HDP
      go_wp2_with fail
      refine (HC.out).mono ?_
      rintro en w3 ⟨v, rfl, h3⟩
      have H3 := hide h3
      clear h3 HC
      go_wp2_with fail
      go_ret
      exact ⟨v, rfl, H3.out⟩
  · rw [if_neg (by decide), if_neg (by decide), if_neg (by decide), if_neg (by decide)] at HKD
    cases d with
    | zero =>
      have HE : Hid (R = .error 12) := HKD.out
      have hq : (dp == 40) = true := by have := HDP.out; simp; omega
      clear HKD HKS HKZ HPR HR
      go_wp2_with fail
      go_ret
      refine ⟨_, rfl, ?_⟩
      rw [HE.out]
      exact ⟨rfl, Kp.ofBelow (HI2.out).bel _⟩
    | succ e =>
      have HE : Hid (R = prN (pr e) true ks kids) := HKD.out
      have hq : (dp == 40) = false := by have := HDP.out; simp; omega
      have hdp0 : 0 ≤ dp := by have := HDP.out; omega
      have hdp1 : dp ≤ 40 := by have := HDP.out; omega
      have HC := hide ((ppairs_any w0 e ((HIH.out) e rfl) ks kids (own_keys HOK.out) _ bo bcap B l p bv w2 HKS.out HKZ.out (HI2.out).b0 hB (HI2.out).bd (by omega)).mono fun en w' h => PvE.pre (HI2.out).bel (HI2.out).bd h)
      have HDE : Hid (40 - (e : Int) = dp + 1) := by show _ = _; have := HDP.out; omega
      rw [HDE.out, ← HE.out] at HC
      clear HKD HKS HKZ HPR HR HDE HIH HDP
      go_wp2_with fail
      refine (HC.out).mono ?_
      rintro en w3 ⟨v, rfl, h3⟩
      have H3 := hide h3
      clear h3 HC
      go_wp2_with fail
      go_ret
      exact ⟨v, rfl, H3.out⟩
/-- Any value. -/
theorem pvalue_any (w0 : World) (hT : Tb w0) (d : Nat) (hd : d ≤ 40) : PvC w0 d := by
  induction d with
  | zero => exact pvalue_W w0 hT 0 hd (fun e h => by omega)
  | succ d ih => exact pvalue_W w0 hT (d + 1) hd (fun e h => by obtain rfl : d = e := (by omega); exact ih (by omega))
end Go.Proofs.YthdbnafiindgbaaDoor
/- The program's Print. -/
namespace Go.Proofs.YthdbnafiindgbaaDoor
open Go.RowKit
open Wi

/-- What Print answers. -/
def prG (r : Except Nat (List UInt8)) : Value := match r with
  | .ok s => .tuple #[.string (ba s), .nilIface]
  | .error e => .tuple #[.string ⟨#[]⟩, erV e]
set_option maxRecDepth 100000 in
set_option maxHeartbeats 4000000 in
theorem printP_any (j : J) (va : Value) (w : World) (hT : Tb w) (hIA : IsA w va j) (hl : wt j ≤ 134217728) :
    Calls Tryd.prog 7 #[va] w fun e w' => e = .returned (prG (pr 40 j)) ∧ Below w.heap.size w w' := by
  obtain ⟨k, n, t, kv, rv, rfl, ⟨u1, u2, u3, rfl⟩, ⟨v1, v2, v3, rfl⟩⟩ := hIA.shape
  have HV := hide (pvalue_any w hT 40 (Nat.le_refl _))
  have HIA := hide hIA
  obtain ⟨R, hR⟩ : ∃ R, pr 40 j = R := ⟨_, rfl⟩
  rw [hR]
  have HR := hide hR
  clear hIA hT hR
  have k1 : Below w.heap.size w (w.alloc (.cells #[.int .i64 k, .int .i64 n, .string t, .slice u1 u2 u3, .slice v1 v2 v3] 25)) := (Below.refl _ w).alloc (Nat.le_refl _) _
  have hN := heap_alloc_new w (.cells #[.int .i64 k, .int .i64 n, .string t, .slice u1 u2 u3, .slice v1 v2 v3] 25)
  go_enter Tryd.func7, Tryd.ntmps7
  go_upto_region 1 with fail
  generalize w.alloc (.cells #[.int .i64 k, .int .i64 n, .string t, .slice u1 u2 u3, .slice v1 v2 v3] 25) = w1 at *
  generalize hC : w.heap.size = C at hN k1 ⊢
  rw [← hC] at k1
  have hg2 : Pb (w1.alloc (.cells #[.pointer none, .slice none 0 0] 57)) w1.heap.size [] (.pointer none) (.slice none 0 0) := ⟨heap_alloc_new w1 _, .inl rfl, World.ownsRow_nil _ _ _ _, fun _ => rfl⟩
  have k2 : Below w.heap.size w (w1.alloc (.cells #[.pointer none, .slice none 0 0] 57)) := k1.alloc k1.size _
  have q := Kp.ofBelow ((Below.refl _ w1).alloc (Nat.le_refl _) (.cells #[.pointer none, .slice none 0 0] 57)) (fun _ => False)
  have hN2 := q.heap hN id
  have a0 := cell_blk hN2 (j := 0) rfl
  have a1 := cell_blk hN2 (j := 1) rfl
  have a2 := cell_blk hN2 (j := 2) rfl
  have a3 := cell_blk hN2 (j := 3) rfl
  have a4 := cell_blk hN2 (j := 4) rfl
  have HB := hide k1.size
  have HG2 := hide hg2
  have HK2 := hide k2
  clear q hN2 hN k1 hg2 k2
  go_upto_region 2 with fail
  generalize w1.alloc (.cells #[.pointer none, .slice none 0 0] 57) = w2 at *
  have HB' : Hid (w.heap.size ≤ w1.heap.size) := HB.out
  clear HB
  generalize w1.heap.size = B at *
  have HC := hide ((HV.out) j _ B [] _ _ w2 HIA.out HK2.out HB'.out HG2.out (by simpa using hl))
  rw [show (40 : Int) - ((40 : Nat) : Int) = 0 by decide] at HC
  clear HV HIA
  go_wp2_with fail
  refine (HC.out).mono ?_
  rintro en w3 ⟨v, rfl, hv⟩
  clear HC a0 a1 a2 a3 a4
  have HBL : Hid (∀ W, Kp (fun q => q = B ∨ (Value.slice none 0 0).ownBlock = some q) w2 W → Below w.heap.size w W) := fun W hk => (HK2.out).trans (hk.below (HK2.out).size (fun q e => by
    rcases e with e | e
    · have := HB'.out; omega
    · cases e))
  rw [HR.out] at hv
  cases R with
  | error x =>
    obtain ⟨rfl, hk⟩ := hv
    have HK := hide ((HBL.out) _ hk)
    clear hk HBL HR
    go_wp2_with fail
    go_ret2
    exact ⟨rfl, HK.out⟩
  | ok s =>
    obtain ⟨rfl, p3, bv3, g3, a3, k3⟩ := hv
    have HST := hide (wstring_any prH B _ p3 bv3 w3 g3)
    have hbl3 := (HBL.out) _ k3
    have HF : Hid (∀ W, Kp (fun k => bv3.ownBlock = some k) w3 W → Below w.heap.size w W) := fun W hk => hbl3.trans (hk.below hbl3.size (fun q e => by
      rcases a3 q e with e | e
      · cases e
      · exact Nat.le_trans (HK2.out).size e))
    clear hbl3 g3 a3 k3 HBL HR
    go_wp2_with fail
    refine (HST.out).mono ?_
    rintro en w4 ⟨rfl, -, k4⟩
    have HK := hide ((HF.out) _ k4)
    clear k4 HF HST
    go_wp2_with fail
    go_ret2
    exact ⟨rfl, HK.out⟩
end Go.Proofs.YthdbnafiindgbaaDoor
