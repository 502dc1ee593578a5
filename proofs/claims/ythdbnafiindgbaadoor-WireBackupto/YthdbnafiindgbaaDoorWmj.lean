/- The program's printer: maps. -/
import Derived.Test.YthdbnafiindgbaaDoorWmh
namespace Go.Proofs.YthdbnafiindgbaaDoor
open Go.RowKit
open Wi

/-- A printer and the keys that its map has had. -/
def PM (w : World) (B : Nat) (bv : Value) (mb n : Nat) (S : List (List UInt8)) (l : List UInt8) (wr : World) : Prop := Pt w B bv l wr ∧ Ms wr mb n S
theorem PM.via {w wr : World} {B : Nat} {bv : Value} {mb n : Nat} {S : List (List UInt8)} {l : List UInt8} (h : PM w B bv mb n S l wr) :
    ∃ p1 bv1, Pb wr B l p1 bv1 ∧ (∀ l' w', Pt wr B bv1 l' w' → PM w B bv mb n S l' w') ∧ (∀ w', Kp (fun q => q = B ∨ bv1.ownBlock = some q) wr w' → Kp (fun q => q = B ∨ bv.ownBlock = some q) w w') := by
  obtain ⟨⟨p1, bv1, g1, a1, k1⟩, hm⟩ := h
  refine ⟨p1, bv1, g1, fun l' w' h' => ⟨BdT.trans g1 a1 k1 h', hm.keep h'.kp (fun e => ?_)⟩, fun w' k => Kp.via k1 a1 k⟩
  rcases e with e | e
  · exact hm.offc g1.blk e
  · exact hm.off g1.row e
theorem PM.at {w wr W : World} {B : Nat} {bv : Value} {mb n : Nat} {S : List (List UInt8)} {l : List UInt8} (h : PM w B bv mb n S l wr) (hb : Below wr.heap.size wr W) : PM w B bv mb n S l W := ⟨h.1.at hb, h.2.below hb⟩
/-- One key more. -/
theorem PM.key {w wr : World} {B : Nat} {bv : Value} {mb n : Nat} {S : List (List UInt8)} {l : List UInt8} (h : PM w B bv mb n S l wr) (hmb : w.heap.size ≤ mb) (hn : n < maxLen) {k : List UInt8} (hk : k.length ≤ maxLen) :
    ∃ w', (Instr.mapUpdate 97 (.map (some mb)) (.string (ba k)) (.agg #[])).run Tryd.prog wr = .ok () w' ∧ PM w B bv mb (n + 1) (S ++ [k]) l w' := by
  obtain ⟨⟨p1, bv1, g1, a1, k1⟩, hm⟩ := h
  obtain ⟨w', hr, h1, h2, h3⟩ := hm.run_put hn hk
  have f1 := hm.offc g1.blk
  have f2 := hm.off g1.row
  refine ⟨w', hr, ⟨p1, bv1, g1.keep h2 (fun e => f1 e.symm) (fun q hq e => f2 (by rw [hq, e])), a1, Kp.trans k1 h2 (fun i hi e => ?_)⟩, h1⟩
  have : i = mb := e
  omega
theorem take_nil_iff {α : Type} {ks : List α} {i : Nat} (h : i < ks.length) : (ks.take i = []) ↔ i = 0 := by
  cases i with
  | zero => simp
  | succ i =>
    cases ks with
    | nil => simp at h
    | cons a b => simp
theorem prM_step {p : J → Except Nat (List UInt8)} {ks : List (List UInt8)} {i : Nat} {k : List UInt8} {j : J} {r : List J} {s : List UInt8} (hk : ks[i]? = some k) : prM p (ks.take i) (ks.drop i) (j :: r) s = if k ∈ ks.take i then .error 5 else match p j with | .error e => .error e | .ok x => prM p (ks.take (i + 1)) (ks.drop (i + 1)) r (s ++ com i ++ quote k ++ [58] ++ x) := by
  have hi : i < ks.length := by
    rcases Nat.lt_or_ge i ks.length with h | h
    · exact h
    · rw [List.getElem?_eq_none h] at hk; cases hk
  have e1 : ks.drop i = k :: ks.drop (i + 1) := by
    rw [List.getElem?_eq_getElem hi] at hk
    rw [← Option.some.inj hk]
    exact List.drop_eq_getElem_cons hi
  have e2 : ks.take (i + 1) = ks.take i ++ [k] := by rw [List.take_add_one, hk]; rfl
  rw [e1, prM, e2]
  have e3 : ((if ks.take i = [] then s else s ++ [44]) : List UInt8) = s ++ com i := by
    unfold com
    by_cases h : i = 0
    · rw [if_pos ((take_nil_iff hi).2 h), if_pos h]; simp
    · rw [if_neg (fun e => h ((take_nil_iff hi).1 e)), if_neg h]
  rw [e3]
  split
  · rfl
  · cases p j with
    | error e => rfl
    | ok x => simp only [List.append_assoc]
theorem sum_drop {ks : List (List UInt8)} {i : Nat} {k : List UInt8} (h : ks[i]? = some k) : ((ks.drop i).map fun x => x.length * 7 + 10).sum = k.length * 7 + 10 + ((ks.drop (i + 1)).map fun x => x.length * 7 + 10).sum := by
  have hi : i < ks.length := by
    rcases Nat.lt_or_ge i ks.length with h' | h'
    · exact h'
    · rw [List.getElem?_eq_none h'] at h; cases h
  rw [List.getElem?_eq_getElem hi] at h
  rw [List.drop_eq_getElem_cons hi, Option.some.inj h]
  simp

set_option maxRecDepth 100000 in
set_option maxHeartbeats 4000000 in
theorem ppairs_any (w0 : World) (e : Nat) (ih : PvC w0 e) (ks : List (List UInt8)) (kids : List J) (hkk : ks.length = kids.length) (kv : Value) (bo : Option Addr) (bcap B : Nat) (l : List UInt8) (p bv : Value) (w : World) (hks : IsSt w0 kv ks) (hkz : Kidz w0 bo kids) (hb : Below w0.heap.size w0 w) (hB : w0.heap.size ≤ B) (hp : Pb w B l p bv) (hl : l.length + 2 + (ks.map fun x => x.length * 7 + 10).sum + wts kids ≤ 134217728) :
    Calls Tryd.prog 35 #[.pointer (some ⟨B, 0, none⟩), kv, .slice bo kids.length bcap, .int .i64 (40 - (e : Int))] w fun en w' => PvE (prN (pr e) true ks kids) w B bv l en w' := by
  obtain ⟨dp, hdp⟩ : ∃ dp : Int, 40 - (e : Int) = dp := ⟨_, rfl⟩
  have HV := hide ih
  rw [hdp]
  have HDP := hide hdp
  have HKZ := hide hkz
  have HB := hide hb
  have HOW := hide (hp.own hB)
  have hkl : kids.length ≤ 134217728 := by have := wts_len kids; omega
  obtain ⟨R, hR⟩ : ∃ R, prN (pr e) true ks kids = R := ⟨_, rfl⟩
  rw [hR]
  have HR : Hid (R = match prM (pr e) (ks.take 0) (ks.drop 0) (kids.drop 0) [123] with | .error x => .error x | .ok s => .ok (s ++ [125])) := by
    show _ = _; rw [← hR]; unfold prN; simp; cases prM (pr e) [] ks kids [123] <;> rfl
  have hPM : PM w B bv w.heap.size 0 (ks.take 0) l (w.alloc (.map #[] 0)) := ⟨(BdT.refl hp).at ((Below.refl _ w).alloc (Nat.le_refl _) _), by rw [List.take_zero]; exact Ms.made w⟩
  have HPM := hide hPM
  have hmb : w.heap.size ≤ w.heap.size := Nat.le_refl _
  obtain ⟨ka, kc, rfl, hkc1, hkc2, hkc⟩ := hks
  have HKC := hide hkc
  rw [hkk] at hkc1 ⊢
  have HKK := hide hkk
  clear hR ih hdp hkz hb hp hkc hPM hkk
  have hmm : ∀ (t : TypeId) (w : World), (Instr.makeMap t none).run Tryd.prog w = .ok (.map (some w.heap.size)) (w.alloc (.map #[] 0)) := fun _ _ => rfl
  go_enter Tryd.func35, Tryd.ntmps35
  go_upto_region 2 with fail
  generalize w.alloc (.map #[] 0) = w1 at *
  generalize hmq : w.heap.size = mb at hmb HPM
  have hmb' : w.heap.size ≤ mb := by omega
  clear hmm hmb hmq
  obtain ⟨p1, bv1, g1, s1, k1⟩ := (HPM.out).via
  have HS1 := hide s1
  have HW1 := hide (wbyte_any prH 123 B l p1 bv1 w1 g1 (by omega))
  clear s1 k1 g1 HPM
  go_wp2_with fail
  refine (HW1.out).mono ?_
  rintro en w2 ⟨rfl, H2⟩
  have HP2 := hide ((HS1.out) _ _ H2.out)
  clear HS1 HW1 H2
  go_wp2_with fail
  go_loopw [22] (fun iv wr => ∃ i : Nat, iv = .int .i64 i ∧ i ≤ kids.length ∧ ∃ s : List UInt8, Hid (prM (pr e) (ks.take 0) (ks.drop 0) (kids.drop 0) [123] = prM (pr e) (ks.take i) (ks.drop i) (kids.drop i) s) ∧ Hid (PM w B bv mb i (ks.take i) (l ++ s) wr) ∧ Hid (l.length + s.length + ((ks.drop i).map fun x => x.length * 7 + 10).sum + wts (kids.drop i) + 1 ≤ 134217728)) (fun iv _ => kids.length - (intOf iv).toNat)
  case atStart =>
    refine ⟨0, rfl, Nat.zero_le _, [123], ?_, HP2, ?_⟩
    · show _ = _; rfl
    · show _ ≤ _; rw [List.drop_zero, List.drop_zero]; simp; omega
  case round =>
    obtain ⟨i, rfl, hi, s, HQ, HS, HL⟩ := hrel
    clear HP2 hl
    by_cases hlt : i < kids.length
    case neg =>
      have i1 : decide ((i : Int) < (kids.length : Int)) = false := by simp; omega
      have i1' : decide (i < kids.length) = false := by simp; omega
      have HE : Hid (R = .ok (s ++ [125])) := by
        show _ = _
        have := HKK.out
        rw [HR.out, HQ.out, List.drop_eq_nil_of_le (by omega), List.drop_eq_nil_of_le (by omega)]; simp [prM]
      clear hlt
      go_wp2_with fail
      refine ((HS.out).1.byte prH 125 (by have := HL.out; simp; omega) _ (Below.refl _ _)).mono ?_
      rintro en w3 ⟨rfl, H3⟩
      go_wp2_with fail
      go_ret
      refine ⟨_, rfl, ?_⟩
      rw [HE.out]
      refine ⟨rfl, ?_⟩
      rw [← List.append_assoc]; exact H3.out
    have i1 : decide ((i : Int) < (kids.length : Int)) = true := by simp; omega
    have i1' : decide (i < kids.length) = true := by simp; omega
    have i2 : (0 : Int) ≤ (i : Int) := by omega
    have i3 : (i : Int) < (kids.length : Int) := by omega
    obtain ⟨j, hj⟩ : ∃ j, kids[i]? = some j := ⟨_, List.getElem?_eq_getElem hlt⟩
    obtain ⟨key, hkey⟩ : ∃ key, ks[i]? = some key := ⟨_, List.getElem?_eq_getElem (by have := HKK.out; omega)⟩
    obtain ⟨kg, ko, rfl, kcell⟩ := (HKC.out) i key hkey
    obtain ⟨wd, dr⟩ := wts_drop hj
    have HWD := hide wd
    have HDR := hide dr
    have HSD := hide (sum_drop hkey)
    have HST := hide (prM_step (p := pr e) (j := j) (r := kids.drop (i + 1)) (s := s) hkey)
    have hkeyl : key.length ≤ maxLen := by have := HL.out; have := HSD.out; unfold maxLen; omega
    have hk := (HS.out).1.kp
    have q : Below w0.heap.size w0 wr := (HB.out).trans (hk.below (HB.out).size (fun k e => by
      rcases e with e | e
      · omega
      · exact (HOW.out) k e))
    have q' := Kp.ofBelow q (fun _ => False)
    have a0 := q'.cellv kcell id
    have a0' : wr.cell? ⟨kg, ko + i * 1, none⟩ = some (.string (ba key)) := by rw [Nat.mul_one]; exact a0
    have hrun := (HS.out).2.run_ok hkeyl
    have HJ := hide hj
    have HKL := hide hkeyl
    clear q q' hk kcell wd dr hj hlt hkeyl
    by_cases hmem : key ∈ ks.take i
    case pos =>
      rw [decide_eq_true hmem] at hrun
      have HE : Hid (R = .error 5) := by
        show _ = _
        rw [HR.out, HQ.out, HDR.out, HST.out, if_pos hmem]
      have HK := hide (HS.out).1.kp
      clear hmem
      go_wp2_with fail
      go_ret
      refine ⟨_, rfl, ?_⟩
      rw [HE.out]
      exact ⟨rfl, Kp.alloc HK.out _⟩
    rw [decide_eq_false hmem] at hrun
    rw [if_neg hmem] at HST
    have hBl : Below wr.heap.size wr (wr.alloc (.cells #[] 98)) := (Below.refl _ wr).alloc (Nat.le_refl _) _
    obtain ⟨w5, hr5, hp5⟩ := ((HS.out).at hBl).key hmb' (by unfold maxLen; omega) HKL.out
    have hki : ks.take i ++ [key] = ks.take (i + 1) := by rw [List.take_add_one, hkey]; rfl
    rw [hki] at hp5
    have HP5 := hide hp5
    clear hmem hBl hp5 hki HS hkey
    have hkl7 : key.length * 7 + (l ++ s).length + 20 ≤ 134217728 + 20 := by have := HL.out; have := HSD.out; simp; omega
    obtain ⟨p5, bv5, g5, s5, k5⟩ := (HP5.out).via
    have HC5 := hide (comma_any i (by omega) (BdT.refl g5) (by omega))
    have HS5 := hide s5
    clear g5 s5 k5
    go_wp2_with fail
    refine (HC5.out).mono ?_
    rintro en w6 ⟨rfl, H6⟩
    have HP6 := hide ((HS5.out) _ _ H6.out)
    clear HC5 HS5 H6 HP5 hrun hr5 a0 a0'
    have hcl : (com i).length ≤ 1 := by unfold com; split <;> simp
    obtain ⟨p6, bv6, g6, s6, k6⟩ := (HP6.out).via
    have HC6 := hide (pquoted_any key B _ p6 bv6 w6 g6 (by simp at hkl7 ⊢; omega))
    have HS6 := hide s6
    clear g6 s6 k6
    go_wp2_with fail
    refine (HC6.out).mono ?_
    rintro en w7 ⟨rfl, H7⟩
    have HP7 := hide ((HS6.out) _ _ H7.out)
    clear HC6 HS6 H7 HP6
    have hql : (quote key).length ≤ key.length * 6 + 2 := by have := quoteA_len key; unfold quote; simp; omega
    obtain ⟨p7, bv7, g7, s7, k7⟩ := (HP7.out).via
    have HC7 := hide (wbyte_any prH 58 B _ p7 bv7 w7 g7 (by simp at hkl7 ⊢; omega))
    have HS7 := hide s7
    clear g7 s7 k7
    go_wp2_with fail
    refine (HC7.out).mono ?_
    rintro en w8 ⟨rfl, H8⟩
    have HP8 := hide ((HS7.out) _ _ H8.out)
    clear HC7 HS7 H8 HP7
    obtain ⟨g, o, k, n, t, u1, u2, u3, v1, v2, v3, rfl, hIA, a0, a1, a2, a3, a4⟩ := (HKZ.out) i j HJ.out
    have hk := (HP8.out).1.kp
    have q : Below w0.heap.size w0 w8 := (HB.out).trans (hk.below (HB.out).size (fun k e => by
      rcases e with e | e
      · omega
      · exact (HOW.out) k e))
    have q' := Kp.ofBelow q (fun _ => False)
    replace a0 := q'.cellv a0 id
    replace a1 := q'.cellv a1 id
    replace a2 := q'.cellv a2 id
    replace a3 := q'.cellv a3 id
    replace a4 := q'.cellv a4 id
    obtain ⟨p8, bv8, g8, s8, k8⟩ := (HP8.out).via
    have HVC := hide ((HV.out) j _ B _ p8 bv8 w8 hIA q hB g8 (by have := HL.out; have := HSD.out; have := HWD.out; simp; omega))
    rw [HDP.out] at HVC
    have HS8 := hide s8
    have HK8 := hide k8
    clear g8 s8 k8 q q' hk hIA HP8
    go_wp2_with fail
    refine (HVC.out).mono ?_
    rintro en w9 ⟨v, rfl, hv⟩
    have HPL := hide (fun x => pr_len e j x)
    clear HVC a0 a1 a2 a3 a4 HKZ
    generalize pr e j = r at *
    cases r with
    | error x =>
      obtain ⟨rfl, hk⟩ := hv
      have HE : Hid (R = .error x) := by
        show _ = _
        rw [HR.out, HQ.out, HDR.out, HST.out]
      have HK := hide ((HK8.out) _ hk)
      clear hk HST HPL HS8 HK8
      go_wp2_with fail
      go_ret
      refine ⟨_, rfl, ?_⟩
      rw [HE.out]
      exact ⟨rfl, HK.out⟩
    | ok x =>
      obtain ⟨rfl, hk⟩ := hv
      have HK := hide ((HS8.out) _ _ hk)
      have HE : Hid (prM (pr e) (ks.take 0) (ks.drop 0) (kids.drop 0) [123] = prM (pr e) (ks.take (i + 1)) (ks.drop (i + 1)) (kids.drop (i + 1)) (s ++ com i ++ quote key ++ [58] ++ x)) := by
        show _ = _
        rw [HQ.out, HDR.out, HST.out]
      have HX := hide ((HPL.out) x rfl)
      clear hk HST HPL HS8 HK8
      go_wp2_with fail
      refine ⟨⟨i + 1, by simp, by omega, s ++ com i ++ quote key ++ [58] ++ x, HE, ?_, ?_⟩, ?_⟩
      · show PM _ _ _ _ _ _ _ _
        have := HK.out
        simp only [List.append_assoc] at this ⊢
        exact this
      · show _ ≤ _
        have := HL.out
        have := HWD.out
        have := HSD.out
        have := HX.out
        simp only [List.length_append, List.length_singleton]; omega
      · show kids.length - (i + 1) < kids.length - i
        omega
end Go.Proofs.YthdbnafiindgbaaDoor
