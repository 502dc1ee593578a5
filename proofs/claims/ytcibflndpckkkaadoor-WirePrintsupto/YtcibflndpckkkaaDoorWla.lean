/- The document's writer of messages: maps. -/
import Derived.Test.YtcibflndpckkkaaDoorWkz
namespace Go.Proofs.YtcibflndpckkkaaDoor
open Go.RowKit
open Wi

theorem dropK_at {l : List (List UInt8)} {i : Nat} {j : List UInt8} (h : l[i]? = some j) : l.drop i = j :: l.drop (i + 1) := by
  have hi : i < l.length := by
    rcases Nat.lt_or_ge i l.length with g | g
    · exact g
    · rw [List.getElem?_eq_none g] at h; cases h
  rw [List.drop_eq_getElem_cons hi]; congr 1
  exact Option.some.inj ((List.getElem?_eq_getElem hi).symm.trans h)
def kwt (ks : List (List UInt8)) : Nat := (ks.map fun x => x.length * 7 + 10).sum
theorem kwt_at {l : List (List UInt8)} {i : Nat} {k : List UInt8} (h : l[i]? = some k) : kwt (l.drop i) = k.length * 7 + 10 + kwt (l.drop (i + 1)) := by
  rw [dropK_at h]; unfold kwt; simp
theorem kwt_le : ∀ (l : List (List UInt8)) (i : Nat), kwt (l.drop i) ≤ kwt l
  | [], i => by simp
  | a :: l, 0 => by simp
  | a :: l, i + 1 => by
    have := kwt_le l i
    rw [List.drop_succ_cons]
    unfold kwt at *; simp only [List.map_cons, List.sum_cons]; omega
theorem wts_le : ∀ (l : List J) (i : Nat), wts (l.drop i) ≤ wts l
  | [], i => by simp
  | a :: l, 0 => by simp
  | a :: l, i + 1 => by
    have := wts_le l i
    rw [List.drop_succ_cons]
    simp only [wts]; omega

set_option maxRecDepth 100000 in
set_option maxHeartbeats 2000000 in
theorem wprint_map (e : Nat) (he : e ≤ 39) (hP : PrC e) (w : World) (A : Nat → Prop) (N : Nat) (n : Int) (t : List UInt8) (ks : List (List UInt8)) (kids : List J) (ao bo : Option Addr) (cap bcap : Nat) (vs : Nat → Value)
    (hb : w.heap[N]? = some (jcell 5 n t (.slice ao ks.length cap) (.slice bo kids.length bcap))) (hln : ks.length + kids.length ≤ 134217728)
    (hk : ∀ (i : Nat) (x : List UInt8), ks[i]? = some x → ∃ g, ao = some ⟨g, 0, none⟩ ∧ A g ∧ w.cell? ⟨g, i, none⟩ = some (.string (ba x)))
    (hr : ∀ i, i < kids.length → ∃ g, bo = some ⟨g, 0, none⟩ ∧ A g ∧ w.cell? ⟨g, i, none⟩ = some (vs i)) (hp : ∀ (i : Nat) (j : J), kids[i]? = some j → IsJ w A (vs i) j)
    (hw : kwt ks + wts kids + 40 ≤ 134217728) (hok : ownOk 5 n t ks kids.length = true) :
    Calls Tryd.prog 9 #[.pointer (some ⟨N, 0, none⟩), .int .i64 (39 - (e : Int))] w fun en w' => en = .returned (prV (prN (pr e) true ks kids)) ∧ Below w.heap.size w w' := by
  obtain ⟨c0, c1, c2, c3, c4⟩ := jcell_all hb
  have z1 : ((ba t).toList == []) = decide (t = []) := by
    rw [ByteArray.toList_eq]
    show (bs (ba t) == []) = _
    rw [bs_ba, Bool.eq_iff_iff]; simp
  have z2 : ((ba t).toList != []) = !decide (t = []) := by rw [bne, z1]
  have z3 : (n == 0) = decide (n = 0) := by rw [Bool.eq_iff_iff]; simp
  have z4 : (n != 0) = !decide (n = 0) := by rw [bne, z3]
  have hf : decide (n = 0) = true ∧ decide (t = []) = true ∧ ks.length = kids.length := by
    revert hok; unfold ownOk; simp
    intro a b c; exact ⟨a, b, c⟩
  obtain ⟨y0, y1, y2⟩ := hf
  rw [y0] at z3 z4
  rw [y1] at z1 z2
  have z7 : ((ks.length : Int) != (kids.length : Int)) = false := by rw [y2]; simp
  have z7' : ((ks.length : Int) == (kids.length : Int)) = true := by rw [y2]; simp
  have dd : ((39 - (e : Int)) == 40) = false := by simp; omega
  have d1 : (39 - (e : Int)) + 1 = 40 - (e : Int) := by omega
  have HP := hide hP
  have HKk := hide hk
  have HRr := hide hr
  have HPp := hide hp
  have HB := hide hb
  have HY2 := hide y2
  obtain ⟨R0, hR0⟩ : ∃ R0, prM (pr e) [] ks kids [123] = R0 := ⟨_, rfl⟩
  rw [prN_map, hR0]
  have HR0 := hide hR0
  have HR1 : Hid (prM (pr e) (ks.take 0) (ks.drop 0) (kids.drop 0) [123] = R0) := by show _ = _; rw [List.take_zero, List.drop_zero, List.drop_zero]; exact HR0.out
  clear hP hr hp hb hok hR0 y0 y1 hk y2 HR0
  go_enter Tryd.func9, Tryd.ntmps9
  go_wp2_with fail
  go_quiet (fail)
  go_wp2_with fail
  revert nq
  intro n1
  go_quiet (fail)
  go_wp2_with fail
  have HK0 : Hid (Below w.heap.size w (w.drewN (n1 + nq))) := belowN (Below.refl _ w) _
  generalize w.drewN (n1 + nq) = w0 at *
  go_loopw [14, 15] (fun sv iv wr => ∃ (i : Nat) (S : List UInt8), sv = .string (ba S) ∧ iv = .int .i64 i ∧ i ≤ kids.length ∧ S.length + kwt (ks.drop i) + wts (kids.drop i) ≤ 2 + kwt ks + wts kids ∧ Hid (prM (pr e) (ks.take i) (ks.drop i) (kids.drop i) S = R0) ∧ Hid (Below w.heap.size w wr)) (fun _ iv _ => kids.length - (intOf iv).toNat)
  case atStart => exact ⟨0, [123], rfl, rfl, Nat.zero_le _, by simp <;> omega, HR1, HK0⟩
  case round =>
    obtain ⟨i, S, rfl, rfl, hi, hSl, HE, HK⟩ := hrel
    clear HR1 HK0
    have hSz : (ba S).size = S.length := ba_size S
    have hw0 := wts_le kids i
    have hk0 := kwt_le ks i
    obtain ⟨c0', c1', c2', c3', c4'⟩ := jcell_all ((Kp.ofBelow HK.out (fun _ => False)).heap HB.out id)
    by_cases hlt : i < kids.length
    case neg =>
      have i1 : decide ((i : Int) < (kids.length : Int)) = false := by simp; omega
      have i1' : decide (i < kids.length) = false := by simp; omega
      have HF : Hid (R0 = .ok S) := by
        have h1 := HE.out
        have h2 := HY2.out
        rw [List.drop_eq_nil_of_le (by omega : kids.length ≤ i), List.drop_eq_nil_of_le (by omega : ks.length ≤ i)] at h1
        rw [← h1]; rfl
      have ha : ba S ++ ⟨#[125]⟩ = ba (S ++ [125]) := ba_app S [125]
      clear hlt
      go_wp2_with fail
      go_ret2
      refine ⟨?_, HK.out⟩
      rw [HF.out]
      exact congrArg (fun x => Ending.returned (.tuple #[.string x, .int .i64 0])) ha
    obtain ⟨j, hj⟩ : ∃ j, kids[i]? = some j := ⟨_, List.getElem?_eq_getElem hlt⟩
    obtain ⟨k, hkk⟩ : ∃ k, ks[i]? = some k := ⟨_, List.getElem?_eq_getElem (by have := HY2.out; omega)⟩
    obtain ⟨g, hg1, hg2, hg3⟩ := (HRr.out) i hlt
    obtain ⟨gk, hk1, hk2, hk3⟩ := (HKk.out) i k hkk
    subst hg1 hk1
    have i1 : decide ((i : Int) < (kids.length : Int)) = true := by simp; omega
    have i1' : decide (i < kids.length) = true := by simp; omega
    have i2 : (i : Int) < (kids.length : Int) := by omega
    have i3 : (i : Int) < (ks.length : Int) := by have := HY2.out; omega
    obtain ⟨S1, hS1⟩ : ∃ S1, (if ks.take i = [] then S else S ++ [44]) = S1 := ⟨_, rfl⟩
    have hS1l : S1.length ≤ S.length + 1 := by rw [← hS1]; split <;> simp
    have hS1z : (ba S1).size = S1.length := ba_size S1
    have htk : (ks.take i = []) ↔ i = 0 := by
      have := HY2.out
      rw [← List.length_eq_zero_iff, List.length_take]; omega
    have HE2 : Hid (R0 = if k ∈ ks.take i then .error 5 else match pr e j with
        | .error e => .error e
        | .ok x => prM (pr e) (ks.take (i + 1)) (ks.drop (i + 1)) (kids.drop (i + 1)) (S1 ++ (quote k ++ [58]) ++ x)) := by
      show _ = _
      rw [← HE.out, drop_at hj, dropK_at hkk]
      simp only [prM, hS1]
      rw [List.take_add_one, hkk]
      rfl
    clear HE
    go_upto_if 186 with fail
    go_cut [14] (fun s14 wx => s14 = .string (ba S1) ∧ wx = wr)
    case first =>
      by_cases hi0 : i = 0
      · have q1 : decide ((0 : Int) < (i : Int)) = false := by simp; omega
        have q1' : decide (0 < i) = false := by simp; omega
        obtain rfl : S = S1 := by rw [← hS1, if_pos (htk.2 hi0)]
        go_wp2_with fail
        go_meet
        case rel => exact ⟨rfl, rfl⟩
      · have q1 : decide ((0 : Int) < (i : Int)) = true := by simp; omega
        have q1' : decide (0 < i) = true := by simp; omega
        obtain rfl : S ++ [44] = S1 := by rw [← hS1, if_neg (fun h => hi0 (htk.1 h))]
        have hc : ba S ++ ⟨#[44]⟩ = ba (S ++ [44]) := ba_app S [44]
        go_wp2_with fail
        go_meet
        case rel => exact ⟨congrArg Value.string hc, rfl⟩
    case rest =>
    obtain ⟨rfl, rfl⟩ := hcut
    have hkk3 := (Kp.ofBelow HK.out (fun _ => False)).cellv hk3 id
    have HCK : Hid (∀ (h : Nat) (x : List UInt8), ks[h]? = some x → wc.cell? ⟨gk, h, none⟩ = some (.string (ba x))) := by
      intro h x hx
      obtain ⟨g', e1, -, e3⟩ := (HKk.out) h x hx
      injection e1 with e1; injection e1 with e1
      subst e1
      exact (Kp.ofBelow HK.out (fun _ => False)).cellv e3 id
    go_upto_block 2 with fail
    go_cut [16] (fun _ wx => Hid (¬ k ∈ ks.take i) ∧ ∃ q, wx = wc.drewN q)
    case first =>
      go_wp2_with fail
      go_loopw [16] (fun hv wx => ∃ (h q : Nat), hv = .int .i64 h ∧ h ≤ i ∧ Hid (¬ k ∈ ks.take h) ∧ wx = wc.drewN q) (fun hv _ => i - (intOf hv).toNat)
      case atStart => exact ⟨0, 0, rfl, Nat.zero_le _, (by simp : ¬ k ∈ ks.take 0), rfl⟩
      case round =>
        obtain ⟨h, q, rfl, hhi, HNI, rfl⟩ := hrel
        by_cases hhl : h < i
        case neg =>
          have j1 : decide ((h : Int) < (i : Int)) = false := by simp; omega
          have j1' : decide (h < i) = false := by simp; omega
          obtain rfl : h = i := by omega
          clear hhl
          go_wp2_with fail
          go_meet
          case rel => exact ⟨HNI, q, rfl⟩
        have j1 : decide ((h : Int) < (i : Int)) = true := by simp; omega
        have j1' : decide (h < i) = true := by simp; omega
        obtain ⟨y, hy⟩ : ∃ y, ks[h]? = some y := ⟨_, List.getElem?_eq_getElem (by have := HY2.out; omega)⟩
        have p1 : wc.cell? ⟨gk, 0 + h * 1, none⟩ = some (.string (ba y)) := by rw [Nat.zero_add, Nat.mul_one]; exact (HCK.out) h y hy
        have p2 : wc.cell? ⟨gk, 0 + i * 1, none⟩ = some (.string (ba k)) := by rw [Nat.zero_add, Nat.mul_one]; exact (HCK.out) i k hkk
        have p1' := (HCK.out) h y hy
        have p2' := (HCK.out) i k hkk
        have j3 : (h : Int) < (ks.length : Int) := by omega
        by_cases hyk : y = k
        · have j4 : ((ba y).toList == (ba k).toList) = true := by rw [sb_eq, hyk]; simp
          have HEE : Hid (prV (endL 125 R0) = .tuple #[.string ⟨#[]⟩, .int .i64 5]) := by
            have hin : k ∈ ks.take i := by
              rw [← hyk]
              exact List.mem_of_getElem? (i := h) (by rw [List.getElem?_take_of_lt hhl]; exact hy)
            have := HE2.out; rw [if_pos hin] at this
            show _ = _
            rw [this]; rfl
          clear HE2 hyk HCK
          go_wp2_with fail
          go_quiet (fail)
          go_wp2_with fail
          go_ret2
          exact ⟨congrArg Ending.returned HEE.out.symm, belowN (belowN HK.out _) _⟩
        · have j4 : ((ba y).toList == (ba k).toList) = false := by
            rw [sb_eq]; simp; intro e; apply hyk
            have := congrArg bs e; rwa [bs_ba, bs_ba] at this
          have HN1 : Hid (¬ k ∈ ks.take (h + 1)) := by
            show ¬ _
            rw [List.take_add_one, hy]
            simp only [Option.toList_some, List.mem_append, List.mem_singleton]
            rintro (e | e)
            · exact (HNI.out) e
            · exact hyk e.symm
          clear HE2 hyk HCK
          go_wp2_with fail
          go_quiet (fail)
          go_wp2_with fail
          refine ⟨⟨h + 1, q + nq, by simp, by omega, HN1, rfl⟩, ?_⟩
          show i - (h + 1) < i - h
          omega
    case rest =>
    obtain ⟨HNI, q, rfl⟩ := hcut
    have HKd := hide (belowN HK.out q)
    generalize wc.drewN q = wd at *
    have p2' := (Kp.ofBelow HKd.out (fun _ => False)).cellv hk3 id
    have p2 : wd.cell? ⟨gk, 0 + i * 1, none⟩ = some (.string (ba k)) := by rw [Nat.zero_add, Nat.mul_one]; exact p2'
    obtain ⟨b0, b1, b2, b3, b4⟩ := jcell_all ((Kp.ofBelow HKd.out (fun _ => False)).heap HB.out id)
    have hkw := kwt_at hkk
    obtain ⟨hw1, hw2⟩ := wts_at kids i j hj
    have hkl : k.length * 7 + 10 ≤ 134217728 := by omega
    have HQ := hide (wquote_any (ba k) wd (by rw [ba_size]; omega))
    rw [bs_ba] at HQ
    have hql : (quote k).length ≤ k.length * 6 + 2 := by have := quoteA_len k; unfold quote; simp; omega
    have hqz : (ba (quote k)).size = (quote k).length := ba_size _
    have ha1 : ba S1 ++ ba (quote k) = ba (S1 ++ quote k) := ba_app _ _
    have ha2 : ba (S1 ++ quote k) ++ ⟨#[58]⟩ = ba (S1 ++ quote k ++ [58]) := ba_app _ [58]
    have haz : (ba (S1 ++ quote k)).size = S1.length + (quote k).length := by rw [ba_size, List.length_append]
    have HE3 : Hid (R0 = match pr e j with
        | .error e => .error e
        | .ok x => prM (pr e) (ks.take (i + 1)) (ks.drop (i + 1)) (kids.drop (i + 1)) (S1 ++ (quote k ++ [58]) ++ x)) := by
      have := HE2.out; rw [if_neg HNI.out] at this; exact this
    clear HE2 HNI HCK
    go_wp2_with fail
    refine (HQ.out).mono ?_
    rintro en w2 ⟨rfl, k2⟩
    have HK2 := hide ((HKd.out).trans (k2.mono (HKd.out).size))
    clear HQ k2 b0 b1 b2 b3 b4 p2 p2'
    obtain ⟨b0, b1, b2, b3, b4⟩ := jcell_all ((Kp.ofBelow HK2.out (fun _ => False)).heap HB.out id)
    have g3 := (Kp.ofBelow HK2.out (fun _ => False)).cellv hg3 id
    have g3' : w2.cell? ⟨g, 0 + i * 1, none⟩ = some (vs i) := by rw [Nat.zero_add, Nat.mul_one]; exact g3
    have hIJ := (HPp.out) i j hj
    obtain ⟨V, hV⟩ := hIJ.ptr
    rw [hV] at g3 g3' hIJ
    have HCALL := hide ((HP.out) w2 A _ j (hIJ.kept HK2.out) (by omega))
    have HGO : Hid (Calls Tryd.prog 9 #[.pointer (some ⟨V, 0, none⟩), .int .i64 (40 - (e : Int))] w2 fun en w' => ∃ x er, en = .returned (.tuple #[.string x, .int .i64 er]) ∧ Hid ((er ≠ 0 ∧ x = ⟨#[]⟩ ∧ prV (endL 125 R0) = .tuple #[.string ⟨#[]⟩, .int .i64 er]) ∨ (er = 0 ∧ ∃ X, x = ba X ∧ X.length + 1 ≤ wt j ∧ prM (pr e) (ks.take (i + 1)) (ks.drop (i + 1)) (kids.drop (i + 1)) (S1 ++ quote k ++ [58] ++ X) = R0)) ∧ Below w2.heap.size w2 w') := by
      refine (HCALL.out).mono ?_
      rintro en w' ⟨rfl, k⟩
      cases hpe : pr e j with
      | error er =>
        have h2 := HE3.out
        rw [hpe] at h2
        refine ⟨_, _, rfl, .inl ⟨?_, rfl, ?_⟩, k⟩
        · have := pr_err e j er hpe; omega
        · rw [h2]; rfl
      | ok X =>
        have h2 := HE3.out
        rw [hpe] at h2
        exact ⟨_, _, rfl, .inr ⟨rfl, X, rfl, pr_len e j X hpe, by rw [h2]; simp⟩, k⟩
    clear HCALL HE3 hIJ hg3
    generalize hS2 : S1 ++ quote k ++ [58] = S2 at *
    have hS2l : S2.length = S1.length + (quote k).length + 1 := by rw [← hS2]; simp; omega
    have hS2z : (ba S2).size = S2.length := ba_size _
    clear hS2
    go_wp2_with fail
    refine (HGO.out).mono ?_
    rintro en w3 ⟨x, er, rfl, HX, k3⟩
    have HK3 := hide ((HK2.out).trans (k3.mono (HK2.out).size))
    clear HGO k3
    rcases HX.out with ⟨he0, rfl, hpv⟩ | ⟨rfl, X, rfl, hXl, hpl⟩
    · have j1 : (er == 0) = false := by simpa using he0
      have HPV := hide hpv
      clear hpv HX he0
      go_wp2_with fail
      go_ret2
      exact ⟨congrArg Ending.returned HPV.out.symm, HK3.out⟩
    · have hXz : (ba X).size = X.length := ba_size X
      have ha : ba S2 ++ ba X = ba (S2 ++ X) := ba_app _ X
      have HPL := hide hpl
      clear hpl HX
      go_wp2_with fail
      refine ⟨⟨i + 1, S2 ++ X, congrArg Value.string ha, by simp, by omega, by rw [List.length_append]; omega, HPL, HK3.out⟩, ?_⟩
      show kids.length - (i + 1) < kids.length - i
      omega
end Go.Proofs.YtcibflndpckkkaaDoor
