/- The program's reader of frames: what a line says. -/
import Derived.Test.YtcibflndpckkkaaDoorWk0
import Derived.Test.YtcibflndpckkkaaDoorWkd
import Derived.Test.YtcibflndpckkkaaDoorWjd
import Derived.Test.YtcibflndpckkkaaDoorProg
import Derived.Lib.Bytealg
import Derived.Deep.CutBlock
import Derived.Deep.DeepCutAuto
namespace Go.Proofs.YtcibflndpckkkaaDoor
open Go.RowKit
open Wi

theorem index_colon (l : List UInt8) : Lib.indexByte l 58 = if l.dropWhile notColon = [] then -1 else ((l.takeWhile notColon).length : Int) := by
  induction l with
  | nil => rfl
  | cons c t ih =>
    unfold Lib.indexByte
    by_cases h : c = 58
    · subst h; simp [notColon]
    · have h1 : (c == 58) = false := by simpa using h
      have h2 : notColon c = true := by simp [notColon, h]
      rw [h1, List.dropWhile_cons_of_pos h2, List.takeWhile_cons_of_pos h2, ih]
      by_cases h3 : t.dropWhile notColon = []
      · simp [h3]
      · simp only [h3, if_false, List.length_cons]
        have : ((t.takeWhile notColon).length : Int) ≠ -1 := by omega
        simp [this]
set_option maxRecDepth 100000 in
set_option maxHeartbeats 1000000 in
theorem indexB_any (s : ByteArray) (w : World) : Calls Tryd.prog 111 #[.string s, .int .u8 58] w fun e w' => e = .returned (.int .i64 (Lib.indexByte (bs s) 58)) ∧ w' = w := by
  go_enter Tryd.func111, Tryd.ntmps111
  go_wp2
  rw [run_callFunc_extern Tryd.func122 (by kernel_rfl) (by kernel_rfl) (by kernel_rfl) (e := Extern.BytealgIndexByte.indexByte) (by kernel_rfl), Lib.run_indexByteString]
  simp only [Result.andThen]
  rw [Oper.upon_value]
  go_wp2
  go_ret
  exact ⟨rfl, rfl⟩
set_option maxRecDepth 100000 in
set_option maxHeartbeats 2000000 in
theorem index_any (s : ByteArray) (w : World) : Calls Tryd.prog 96 #[.string s, .string ⟨#[58]⟩] w fun e w' => e = .returned (.int .i64 (Lib.indexByte (bs s) 58)) ∧ w' = w := by
  by_cases h : s = ⟨#[58]⟩
  · subst h
    go_enter Tryd.func96, Tryd.ntmps96
    go_wp2_with fail
    go_ret
    exact ⟨rfl, rfl⟩
  · have h1 : ((⟨#[58]⟩ : ByteArray).toList == s.toList) = false := by
      rw [sb_eq]; simp; exact fun e => h e.symm
    have h2 : ¬ [58] = s.toList := by
      intro e
      rw [Lib.toList_data] at e
      exact h (bs_inj e.symm)
    have h3 : ([58] == s.toList) = false := by simpa using h2
    have HI := hide (indexB_any s w)
    generalize Lib.indexByte (bs s) 58 = R at *
    clear h
    go_enter Tryd.func96, Tryd.ntmps96
    go_wp2_with fail
    refine (HI.out).mono ?_
    rintro e w2 ⟨rfl, rfl⟩
    go_wp2_with fail
    go_ret
    exact ⟨rfl, rfl⟩
/-- What stands ahead of the first colon, and behind it. -/
def cutA (l : List UInt8) : List UInt8 := if l.dropWhile notColon = [] then l else l.takeWhile notColon
def cutB (l : List UInt8) : List UInt8 := (l.dropWhile notColon).drop 1
def cutC (l : List UInt8) : Bool := decide (¬ l.dropWhile notColon = [])
theorem cut_of {l : List UInt8} (h : ¬ l.dropWhile notColon = []) : l.take (l.takeWhile notColon).length = l.takeWhile notColon ∧ l.drop ((l.takeWhile notColon).length + 1) = (l.dropWhile notColon).drop 1 ∧ (l.takeWhile notColon).length + 1 ≤ l.length := by
  have e : l.takeWhile notColon ++ l.dropWhile notColon = l := List.takeWhile_append_dropWhile
  have hp := List.length_pos_iff.2 h
  have hl := congrArg List.length e
  rw [List.length_append] at hl
  refine ⟨?_, ?_, by omega⟩
  · conv => lhs; arg 2; rw [← e]
    rw [List.take_left]
  · conv => lhs; arg 2; rw [← e]
    rw [← List.drop_drop, List.drop_left]
set_option maxRecDepth 100000 in
set_option maxHeartbeats 2000000 in
theorem slCut_any (l : List UInt8) (hl : l.length ≤ 1073741824) (w : World) : Calls Tryd.prog 84 #[.string (ba l), .string ⟨#[58]⟩] w fun e w' => e = .returned (.tuple #[.string (ba (cutA l)), .string (ba (cutB l)), .bool (cutC l)]) ∧ ∃ m, w' = w.drewN m := by
  have HI := hide (index_any (ba l) w)
  rw [bs_ba, index_colon] at HI
  by_cases h : l.dropWhile notColon = []
  · rw [if_pos h] at HI
    have e1 : cutA l = l := by unfold cutA; rw [if_pos h]
    have e2 : cutB l = [] := by unfold cutB; rw [h]; rfl
    have e3 : cutC l = false := by unfold cutC; simp [h]
    rw [e1, e2, e3]
    clear h e1 e2 e3
    go_enter Tryd.func84, Tryd.ntmps84
    go_wp2_with fail
    refine (HI.out).mono ?_
    rintro e w2 ⟨rfl, rfl⟩
    go_wp2_with fail
    refine bodyPost_ret (v := .tuple #[.string (ba l), .string ⟨#[]⟩, .bool false]) (by simp [results, Tryd.results84, go_sem]) rfl ⟨rfl, 0, rfl⟩
  · rw [if_neg h] at HI
    obtain ⟨c1, c2, c3⟩ := cut_of h
    have e1 : cutA l = l.takeWhile notColon := by unfold cutA; rw [if_neg h]
    have e3 : cutC l = true := by unfold cutC; simp [h]
    have e4 : (ba l).extract 0 (l.takeWhile notColon).length = ba (cutA l) := by apply bs_inj; rw [bs_cut, bs_ba, bs_ba, List.drop_zero, c1, e1]
    have e5 : (ba l).extract ((l.takeWhile notColon).length + 1) (ba l).size = ba (cutB l) := by apply bs_inj; rw [bs_drop, bs_ba, bs_ba, c2]; rfl
    rw [e3, ← e4, ← e5]
    have hsz : (l.takeWhile notColon).length + 1 ≤ (ba l).size := by rw [ba_size]; exact c3
    have hsz2 : (ba l).size ≤ 1073741824 := by rw [ba_size]; exact hl
    clear e1 e3 e4 e5 c1 c2 c3 h
    generalize (l.takeWhile notColon).length = n at *
    generalize ba l = X at *
    have i1 : (0 : Int) ≤ (n : Int) := by omega
    have i2 : (n : Int) ≤ (X.size : Int) := by omega
    have i3 : (n : Int) + 1 ≤ (X.size : Int) := by omega
    go_enter Tryd.func84, Tryd.ntmps84
    go_wp2_with fail
    refine (HI.out).mono ?_
    rintro e w2 ⟨rfl, rfl⟩
    go_wp2_with fail
    go_quiet (fail)
    go_wp2_with fail
    refine bodyPost_ret (v := .tuple #[.string (X.extract 0 n), .string (X.extract (n + 1) X.size), .bool true]) (by simp [results, Tryd.results84, go_sem]) rfl ⟨rfl, _, rfl⟩
set_option maxRecDepth 100000 in
theorem cut_any (l : List UInt8) (hl : l.length ≤ 1073741824) (w : World) : Calls Tryd.prog 66 #[.string (ba l), .string ⟨#[58]⟩] w fun e w' => e = .returned (.tuple #[.string (ba (cutA l)), .string (ba (cutB l)), .bool (cutC l)]) ∧ ∃ m, w' = w.drewN m := by
  have HI := hide (slCut_any l hl w)
  clear hl
  go_enter Tryd.func66, Tryd.ntmps66
  go_wp2_with fail
  refine (HI.out).mono ?_
  rintro e w2 ⟨rfl, m, rfl⟩
  go_wp2_with fail
  refine bodyPost_ret (v := .tuple #[.string (ba (cutA l)), .string (ba (cutB l)), .bool (cutC l)]) (by simp [results, Tryd.results66, go_sem]) rfl ⟨rfl, m, rfl⟩
/-- Behind a blank, if there is one. -/
def spB (l : List UInt8) : List UInt8 := if l.head? = some 32 then l.drop 1 else l
set_option maxRecDepth 100000 in
set_option maxHeartbeats 2000000 in
theorem cutSp_any (l : List UInt8) (hl : l.length ≤ 1073741824) (w : World) : Calls Tryd.prog 85 #[.string (ba l), .string ⟨#[32]⟩] w fun e w' => e = .returned (.tuple #[.string (ba (spB l)), .bool (decide (l.head? = some 32))]) ∧ ∃ m, w' = w.drewN m := by
  cases l with
  | nil =>
    go_enter Tryd.func85, Tryd.ntmps85
    go_wp2
    go_ret2
    exact ⟨rfl, 0, rfl⟩
  | cons c t =>
    have hs : (ba (c :: t)).size = t.length + 1 := by rw [ba_size]; rfl
    have hex : (ba (c :: t)).extract 0 1 = ba [c] := by apply bs_inj; rw [bs_cut, bs_ba, bs_ba]; rfl
    have hex2 : (ba (c :: t)).extract 1 (ba (c :: t)).size = ba t := by apply bs_inj; rw [bs_drop, bs_ba, bs_ba]; rfl
    have i1 : decide ((1 : Int) ≤ ((ba (c :: t)).size : Int)) = true := by rw [hs]; simp; omega
    have i2 : (1 : Int) ≤ ((ba (c :: t)).size : Int) := by rw [hs]; omega
    have HS := hide hs
    by_cases hc : c = 32
    · subst hc
      have i3 : (((ba (32 :: t)).extract 0 1).toList == [32]) = true := by rw [hex, Lib.toList_data]; rfl
      have HE : Hid (spB (32 :: t) = t) := rfl
      rw [show decide ((32 :: t : List UInt8).head? = some 32) = true from rfl, HE.out, ← hex2]
      clear hs hex hex2 HE
      generalize ba (32 :: t) = X at *
      go_enter Tryd.func85, Tryd.ntmps85
      go_wp2
      go_ret2
      exact ⟨rfl, 0, rfl⟩
    · have i3 : (((ba (c :: t)).extract 0 1).toList == [32]) = false := by rw [hex, Lib.toList_data]; simp [ba, hc]
      have HE : Hid (spB (c :: t) = c :: t) := by show _ = _; unfold spB; rw [if_neg (by simpa using hc)]
      rw [show decide ((c :: t : List UInt8).head? = some 32) = false by simpa using hc, HE.out]
      clear hs hex hex2 HE
      generalize ba (c :: t) = X at *
      go_enter Tryd.func85, Tryd.ntmps85
      go_wp2
      go_ret2
      exact ⟨rfl, 0, rfl⟩
set_option maxRecDepth 100000 in
theorem isDigit_any (c : UInt8) (w : World) : Calls Tryd.prog 58 #[.int .u8 (c.toNat : Int)] w fun e w' => e = .returned (.bool (isDig c)) ∧ w' = w := by
  by_cases h1 : 48 ≤ c.toNat
  · by_cases h2 : c.toNat ≤ 57
    · have e : isDig c = true := by simp [isDig, h1, h2]
      have i1 : decide ((48 : Int) ≤ (c.toNat : Int)) = true := by simp; omega
      have i2 : decide ((c.toNat : Int) ≤ 57) = true := by simp; omega
      have j1 : (48 : Int) ≤ (c.toNat : Int) := by omega
      have j2 : (c.toNat : Int) ≤ 57 := by omega
      rw [e]
      clear e h1 h2
      generalize (c.toNat : Int) = ci at *
      go_enter Tryd.func58, Tryd.ntmps58
      go_wp2
      go_ret
      exact ⟨rfl, rfl⟩
    · have e : isDig c = false := by simp [isDig]; omega
      have i1 : decide ((48 : Int) ≤ (c.toNat : Int)) = true := by simp; omega
      have i2 : decide ((c.toNat : Int) ≤ 57) = false := by simp; omega
      have j1 : (48 : Int) ≤ (c.toNat : Int) := by omega
      have j2 : ¬ (c.toNat : Int) ≤ 57 := by omega
      rw [e]
      clear e h1 h2
      generalize (c.toNat : Int) = ci at *
      go_enter Tryd.func58, Tryd.ntmps58
      go_wp2
      go_ret
      exact ⟨rfl, rfl⟩
  · have e : isDig c = false := by simp [isDig]; omega
    have i1 : decide ((48 : Int) ≤ (c.toNat : Int)) = false := by simp; omega
    have j1 : ¬ (48 : Int) ≤ (c.toNat : Int) := by omega
    rw [e]
    clear e h1
    generalize (c.toNat : Int) = ci at *
    go_enter Tryd.func58, Tryd.ntmps58
    go_wp2
    go_ret
    exact ⟨rfl, rfl⟩
/-- What stands behind a length's colon: the length, if it is one. -/
def lenR (r : List UInt8) : Option Nat :=
  if ¬ r.head? = some 32 ∨ r.drop 1 = [] ∨ 10 < (r.drop 1).length then none else if (r.drop 1).all isDig = true then some (numOf (r.drop 1)) else none
def lenV (o : Option Nat) : Value := match o with
  | some n => .tuple #[.int .i64 (n : Int), .bool true]
  | none => .tuple #[.int .i64 0, .bool false]
theorem numOf_take {ds : List UInt8} {i : Nat} {c : UInt8} (h : ds[i]? = some c) : numOf (ds.take (i + 1)) = numOf (ds.take i) * 10 + (c.toNat - 48) := by
  rw [List.take_add_one, h]
  exact numOf_snoc _ _
set_option maxRecDepth 100000 in
set_option maxHeartbeats 2000000 in
theorem lengthOf_any (r : List UInt8) (hl : r.length ≤ 1073741824) (w : World) : Calls Tryd.prog 67 #[.string (ba r)] w fun e w' => e = .returned (lenV (lenR r)) ∧ ∃ m, w' = w.drewN m := by
  have HC := hide (cutSp_any r hl w)
  obtain ⟨R, hR⟩ : ∃ R, lenR r = R := ⟨_, rfl⟩
  rw [hR]
  have HR := hide hR
  clear hR
  by_cases h1 : r.head? = some 32
  case neg =>
    have hd : decide (r.head? = some 32) = false := decide_eq_false h1
    rw [hd] at HC
    have HE : Hid (R = none) := by show _ = _; rw [← HR.out]; unfold lenR; rw [if_pos (.inl h1)]
    clear h1 hd HR
    generalize ba (spB r) = X at *
    go_enter Tryd.func67, Tryd.ntmps67
    go_wp2_with fail
    refine (HC.out).mono ?_
    rintro e w2 ⟨rfl, m, rfl⟩
    go_wp2_with fail
    go_ret2
    refine ⟨?_, m, rfl⟩
    rw [HE.out]; rfl
  have hd : decide (r.head? = some 32) = true := decide_eq_true h1
  rw [hd] at HC
  have hsp : spB r = r.drop 1 := by unfold spB; rw [if_pos h1]
  rw [hsp] at HC
  have hdl : (r.drop 1).length ≤ 1073741824 := by simp; omega
  have HR2 : Hid (R = if r.drop 1 = [] ∨ 10 < (r.drop 1).length then none else if (r.drop 1).all isDig = true then some (numOf (r.drop 1)) else none) := by
    show _ = _; rw [← HR.out]; unfold lenR; simp [h1]
  clear h1 hd HR hsp
  generalize r.drop 1 = ds at *
  have hs : (ba ds).size = ds.length := ba_size ds
  by_cases h2 : ds = []
  · have HE : Hid (R = none) := by show _ = _; rw [HR2.out, if_pos (.inl h2)]
    subst h2
    have j2 : (ba []).toList.isEmpty = true := by rw [Lib.toList_data]; rfl
    have j2' : (ba []).toList = [] := by rw [Lib.toList_data]; rfl
    clear HR2
    go_enter Tryd.func67, Tryd.ntmps67
    go_wp2_with fail
    refine (HC.out).mono ?_
    rintro e w2 ⟨rfl, m, rfl⟩
    go_wp2_with fail
    go_ret2
    refine ⟨?_, m, rfl⟩
    rw [HE.out]; rfl
  have j2 : (ba ds).toList.isEmpty = false := by rw [Lib.toList_data]; cases ds with | nil => exact absurd rfl h2 | cons a b => rfl
  have j2' : ¬ (ba ds).toList = [] := by rw [Lib.toList_data]; exact h2
  by_cases h3 : 10 < ds.length
  · have HE : Hid (R = none) := by show _ = _; rw [HR2.out, if_pos (.inr h3)]
    have j3 : decide ((10 : Int) < ((ba ds).size : Int)) = true := by rw [hs]; simp; omega
    have j3' : (10 : Int) < ((ba ds).size : Int) := by rw [hs]; omega
    clear HR2 h2 h3 hs
    generalize ba ds = X at *
    go_enter Tryd.func67, Tryd.ntmps67
    go_wp2_with fail
    refine (HC.out).mono ?_
    rintro e w2 ⟨rfl, m, rfl⟩
    go_wp2_with fail
    go_ret2
    refine ⟨?_, m, rfl⟩
    rw [HE.out]; rfl
  rw [if_neg (fun h => h.elim h2 h3)] at HR2
  have j3 : decide ((10 : Int) < ((ba ds).size : Int)) = false := by rw [hs]; simp; omega
  have j3' : ¬ (10 : Int) < ((ba ds).size : Int) := by rw [hs]; omega
  have HXG : Hid (∀ i c, ds[i]? = some c → ∃ h : i < (ba ds).size, (ba ds)[i] = c) := by
    intro i c hc
    have hi : i < ds.length := by
      rcases Nat.lt_or_ge i ds.length with h | h
      · exact h
      · rw [List.getElem?_eq_none h] at hc; cases hc
    refine ⟨by rw [hs]; exact hi, ?_⟩
    rw [List.getElem?_eq_getElem hi] at hc
    rw [← Option.some.inj hc]
    simp [ba, ByteArray.getElem_eq_getElem_data]
  have HS := hide hs
  clear hs h2 h3
  generalize ba ds = X at *
  go_enter Tryd.func67, Tryd.ntmps67
  go_wp2_with fail
  refine (HC.out).mono ?_
  rintro e w2 ⟨rfl, m, rfl⟩
  go_wp2_with fail
  go_loopw [6, 26] (fun nv iv wr => ∃ i : Nat, iv = .int .i64 i ∧ nv = .int .i64 (numOf (ds.take i) : Nat) ∧ i ≤ X.size ∧ Hid (∀ c ∈ ds.take i, isDig c = true) ∧ wr = w.drewN m) (fun _ iv _ => X.size - (intOf iv).toNat)
  case atStart => exact ⟨0, rfl, rfl, Nat.zero_le _, (fun c hc => by simp at hc), rfl⟩
  case round =>
    obtain ⟨i, rfl, rfl, hi, HD, rfl⟩ := hrel
    by_cases hlt : i < X.size
    case neg =>
      have i1 : decide ((i : Int) < (X.size : Int)) = false := by simp; omega
      have i1' : decide (i < X.size) = false := by simp; omega
      have htk : ds.take i = ds := List.take_of_length_le (by have := HS.out; omega)
      have HE : Hid (R = some (numOf (ds.take i))) := by
        show _ = _
        have hd := HD.out
        rw [htk] at hd ⊢
        rw [HR2.out, if_pos (List.all_eq_true.2 hd)]
      clear hlt htk HR2
      go_wp2_with fail
      go_ret2
      refine ⟨?_, m, rfl⟩
      rw [HE.out]; rfl
    have i1 : decide ((i : Int) < (X.size : Int)) = true := by simp; omega
    have i1' : decide (i < X.size) = true := by simp; omega
    have i2 : (0 : Int) ≤ (i : Int) := by omega
    have i3 : (i : Int) < (X.size : Int) := by omega
    obtain ⟨c, hc⟩ : ∃ c, ds[i]? = some c := ⟨_, List.getElem?_eq_getElem (by have := HS.out; omega)⟩
    obtain ⟨hix, hxc⟩ := (HXG.out) i c hc
    have HNT := hide (numOf_take hc)
    have HDG := hide (fun W => isDigit_any X[i] W)
    have hnb : numOf (ds.take i) < 10000000000 := numOf_lt2 (HD.out) 10 (by simp; omega)
    have hcl := c.toNat_lt
    cases hdg : isDig c with
    | false =>
      have HE : Hid (R = none) := by
        show _ = _
        rw [HR2.out, if_neg]
        intro hall
        have := List.all_eq_true.1 hall c (List.mem_of_getElem? hc)
        rw [hdg] at this; cases this
      rw [hxc, hdg] at HDG
      clear hlt HR2 hdg hc
      go_wp2_with fail
      refine ((HDG.out) _).mono ?_
      rintro e w3 ⟨rfl, rfl⟩
      go_wp2_with fail
      go_ret2
      refine ⟨?_, m, rfl⟩
      rw [HE.out]; rfl
    | true =>
      have h48 : 48 ≤ c.toNat ∧ c.toNat ≤ 57 := by simpa [isDig] using hdg
      have HDN : Hid (∀ x ∈ ds.take (i + 1), isDig x = true) := by
        intro x hx
        rw [List.take_add_one, hc] at hx
        rcases List.mem_append.1 hx with h | h
        · exact (HD.out) x h
        · simp at h; rw [h]; exact hdg
      rw [hxc, hdg] at HDG
      have HNN : Hid ((numOf (ds.take i) : Int) * 10 + ((c.toNat : Int) - 48) = ((numOf (ds.take (i + 1)) : Nat) : Int)) := by show _ = _; rw [HNT.out]; omega
      clear hlt HR2 hdg hc HNT
      generalize hnn : numOf (ds.take i) = nn at *
      obtain ⟨ci, hci⟩ : ∃ ci : Int, (c.toNat : Int) = ci := ⟨_, rfl⟩
      have k1 : 48 ≤ ci := by omega
      have k2 : ci ≤ 57 := by omega
      rw [hci] at HNN HDG
      go_wp2_with fail
      refine ((HDG.out) _).mono ?_
      rintro e w3 ⟨rfl, rfl⟩
      clear HDG hcl h48
      go_wp2_with fail
      refine ⟨⟨i + 1, by simp, by rw [HNN.out], by omega, HDN, trivial⟩, ?_⟩
      show X.size - (i + 1) < X.size - i
      omega
end Go.Proofs.YtcibflndpckkkaaDoor
