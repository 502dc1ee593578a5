/- The document's writer of messages: lists. -/
import Derived.Test.YtcibflndpckkkaaDoorWky
import Derived.Test.YtcibflndpckkkaaDoorWk0
namespace Go.Proofs.YtcibflndpckkkaaDoor
open Go.RowKit
open Wi

theorem wts_at : ∀ (l : List J) (i : Nat) (j : J), l[i]? = some j → wts (l.drop i) = wt j + wts (l.drop (i + 1)) ∧ wts (l.drop i) ≤ wts l
  | [], i, j, h => by simp at h
  | a :: l, 0, j, h => by
    obtain rfl : a = j := by simpa using h
    simp [wts]
  | a :: l, i + 1, j, h => by
    have := wts_at l i j (by simpa using h)
    simp only [List.drop_succ_cons, wts]
    exact ⟨this.1, by omega⟩
theorem drop_at {l : List J} {i : Nat} {j : J} (h : l[i]? = some j) : l.drop i = j :: l.drop (i + 1) := by
  have hi : i < l.length := by
    rcases Nat.lt_or_ge i l.length with g | g
    · exact g
    · rw [List.getElem?_eq_none g] at h; cases h
  rw [List.drop_eq_getElem_cons hi]; congr 1
  exact Option.some.inj ((List.getElem?_eq_getElem hi).symm.trans h)
theorem prL_err {p : J → Except Nat (List UInt8)} (hp : ∀ j e, p j = .error e → e ≠ 0) : ∀ (l : List J) (f : Bool) (S : List UInt8) (e : Nat), prL p f l S = .error e → e ≠ 0
  | [], f, S, e, h => by simp [prL] at h
  | j :: r, f, S, e, h => by
    simp only [prL] at h
    split at h
    · rename_i e' he; cases h; exact hp j _ he
    · exact prL_err hp r _ _ e h
theorem prM_err {p : J → Except Nat (List UInt8)} (hp : ∀ j e, p j = .error e → e ≠ 0) : ∀ (ks : List (List UInt8)) (l : List J) (seen : List (List UInt8)) (S : List UInt8) (e : Nat), prM p seen ks l S = .error e → e ≠ 0
  | [], l, seen, S, e, h => by simp [prM] at h
  | k :: ks, [], seen, S, e, h => by simp [prM] at h
  | k :: ks, j :: r, seen, S, e, h => by
    simp only [prM] at h
    split at h
    · cases h; decide
    split at h
    · rename_i e' he; cases h; exact hp j _ he
    · exact prM_err hp ks r _ _ e h
theorem pr_err (d : Nat) : ∀ (j : J) (e : Nat), pr d j = .error e → e ≠ 0 := by
  have key : ∀ (m : Bool → List (List UInt8) → List J → Except Nat (List UInt8)), (∀ b ks kids e, m b ks kids = .error e → e ≠ 0) → ∀ (j : J) (e : Nat), prW m j = .error e → e ≠ 0 := by
    intro m hm j e h
    cases j with
    | mk k n t ks kids =>
    simp only [prW] at h
    split at h
    · cases h; decide
    split at h
    · cases h
    split at h
    · split at h <;> cases h
    split at h
    · cases h
    split at h
    · cases h
    · exact hm _ _ _ _ h
  induction d with
  | zero => exact key _ (fun b ks kids e h => by cases h; decide)
  | succ d ih =>
    refine key _ (fun b ks kids e h => ?_)
    unfold prN at h
    split at h
    · split at h
      · rename_i e' he; cases h; exact prM_err ih _ _ _ _ _ he
      · cases h
    · split at h
      · rename_i e' he; cases h; exact prL_err ih _ _ _ _ he
      · cases h
/-- What is written behind the last kid. -/
def endL (c : UInt8) (R : Except Nat (List UInt8)) : Except Nat (List UInt8) := match R with
  | .error e => .error e
  | .ok s => .ok (s ++ [c])
theorem prN_list (p : J → Except Nat (List UInt8)) (ks : List (List UInt8)) (kids : List J) : prN p false ks kids = endL 93 (prL p true kids [91]) := by
  unfold prN endL; simp only [Bool.false_eq_true, if_false]; cases prL p true kids [91] <;> rfl
theorem prN_map (p : J → Except Nat (List UInt8)) (ks : List (List UInt8)) (kids : List J) : prN p true ks kids = endL 125 (prM p [] ks kids [123]) := by
  unfold prN endL; simp only [if_true]; cases prM p [] ks kids [123] <;> rfl

set_option maxRecDepth 100000 in
set_option maxHeartbeats 2000000 in
theorem wprint_list (e : Nat) (he : e ≤ 39) (hP : PrC e) (w : World) (A : Nat → Prop) (N : Nat) (n : Int) (t : List UInt8) (ks : List (List UInt8)) (kids : List J) (ao bo : Option Addr) (cap bcap : Nat) (vs : Nat → Value)
    (hb : w.heap[N]? = some (jcell 4 n t (.slice ao ks.length cap) (.slice bo kids.length bcap))) (hln : ks.length + kids.length ≤ 134217728)
    (hr : ∀ i, i < kids.length → ∃ g, bo = some ⟨g, 0, none⟩ ∧ A g ∧ w.cell? ⟨g, i, none⟩ = some (vs i)) (hp : ∀ (i : Nat) (j : J), kids[i]? = some j → IsJ w A (vs i) j)
    (hw : wts kids + 40 ≤ 134217728) (hok : ownOk 4 n t ks kids.length = true) :
    Calls Tryd.prog 9 #[.pointer (some ⟨N, 0, none⟩), .int .i64 (39 - (e : Int))] w fun en w' => en = .returned (prV (prN (pr e) false ks kids)) ∧ Below w.heap.size w w' := by
  obtain ⟨c0, c1, c2, c3, c4⟩ := jcell_all hb
  have z1 : ((ba t).toList == []) = decide (t = []) := by
    rw [ByteArray.toList_eq]
    show (bs (ba t) == []) = _
    rw [bs_ba, Bool.eq_iff_iff]; simp
  have z2 : ((ba t).toList != []) = !decide (t = []) := by rw [bne, z1]
  have z3 : (n == 0) = decide (n = 0) := by rw [Bool.eq_iff_iff]; simp
  have z4 : (n != 0) = !decide (n = 0) := by rw [bne, z3]
  have hf : decide (n = 0) = true ∧ decide (t = []) = true ∧ ks.length = 0 := by
    revert hok; unfold ownOk; simp
    intro a b c; exact ⟨a, b, c⟩
  obtain ⟨y0, y1, y2⟩ := hf
  rw [y0] at z3 z4
  rw [y1] at z1 z2
  have z6 : decide ((0 : Int) < (ks.length : Int)) = false := by rw [y2]; rfl
  have z8 : decide (0 < ks.length) = false := by rw [y2]; rfl
  have dd : ((39 - (e : Int)) == 40) = false := by simp; omega
  have d1 : (39 - (e : Int)) + 1 = 40 - (e : Int) := by omega
  have HP := hide hP
  have HRr := hide hr
  have HPp := hide hp
  have HB := hide hb
  obtain ⟨R0, hR0⟩ : ∃ R0, prL (pr e) true kids [91] = R0 := ⟨_, rfl⟩
  rw [prN_list, hR0]
  have HR0 := hide hR0
  clear hP hr hp hb hok hR0 y0 y1
  go_enter Tryd.func9, Tryd.ntmps9
  go_wp2_with fail
  go_quiet (fail)
  go_wp2_with fail
  have HK0 : Hid (Below w.heap.size w (w.drewN nq)) := belowN (Below.refl _ w) nq
  generalize w.drewN nq = w0 at *
  go_loopw [14, 15] (fun sv iv wr => ∃ (i : Nat) (S : List UInt8), sv = .string (ba S) ∧ iv = .int .i64 i ∧ i ≤ kids.length ∧ S.length + wts (kids.drop i) ≤ 2 + wts kids ∧ Hid (prL (pr e) (i == 0) (kids.drop i) S = R0) ∧ Hid (Below w.heap.size w wr)) (fun _ iv _ => kids.length - (intOf iv).toNat)
  case atStart => exact ⟨0, [91], rfl, rfl, Nat.zero_le _, by simp <;> omega, HR0, HK0⟩
  case round =>
    obtain ⟨i, S, rfl, rfl, hi, hSl, HE, HK⟩ := hrel
    clear HR0 HK0
    have hSz : (ba S).size = S.length := ba_size S
    obtain ⟨c0', c1', c2', c3', c4'⟩ := jcell_all ((Kp.ofBelow HK.out (fun _ => False)).heap HB.out id)
    by_cases hlt : i < kids.length
    case neg =>
      have i1 : decide ((i : Int) < (kids.length : Int)) = false := by simp; omega
      have i1' : decide (i < kids.length) = false := by simp; omega
      have HF : Hid (R0 = .ok S) := by
        have := HE.out
        rw [List.drop_eq_nil_of_le (by omega)] at this
        rw [← this]; rfl
      have ha : ba S ++ ⟨#[93]⟩ = ba (S ++ [93]) := ba_app S [93]
      clear hlt
      go_wp2_with fail
      go_ret2
      refine ⟨?_, HK.out⟩
      rw [HF.out]
      exact congrArg (fun x => Ending.returned (.tuple #[.string x, .int .i64 0])) ha
    obtain ⟨j, hj⟩ : ∃ j, kids[i]? = some j := ⟨_, List.getElem?_eq_getElem hlt⟩
    obtain ⟨g, hg1, hg2, hg3⟩ := (HRr.out) i hlt
    subst hg1
    have i1 : decide ((i : Int) < (kids.length : Int)) = true := by simp; omega
    have i1' : decide (i < kids.length) = true := by simp; omega
    have i2 : (i : Int) < (kids.length : Int) := by omega
    have g3 := (Kp.ofBelow HK.out (fun _ => False)).cellv hg3 id
    have g3' : wr.cell? ⟨g, 0 + i * 1, none⟩ = some (vs i) := by rw [Nat.zero_add, Nat.mul_one]; exact g3
    have hIJ := (HPp.out) i j hj
    obtain ⟨V, hV⟩ := hIJ.ptr
    rw [hV] at g3 g3' hIJ
    obtain ⟨hw1, hw2⟩ := wts_at kids i j hj
    have hwj : wt j ≤ 134217728 := by omega
    have HIJ := hide (hIJ.kept HK.out)
    have HDR := hide (drop_at hj)
    have HCALL := hide ((HP.out) wr A _ j HIJ.out hwj)
    obtain ⟨S1, hS1⟩ : ∃ S1, (if (i == 0) = true then S else S ++ [44]) = S1 := ⟨_, rfl⟩
    have hS1l : S1.length ≤ S.length + 1 := by rw [← hS1]; split <;> simp
    have HE2 : Hid (R0 = match pr e j with
        | .error e => .error e
        | .ok x => prL (pr e) false (kids.drop (i + 1)) (S1 ++ x)) := by
      show _ = _
      rw [← HE.out, HDR.out]
      simp only [prL, hS1]
      cases pr e j <;> rfl
    have hS1z : (ba S1).size = S1.length := ba_size S1
    have HGO : Hid (Calls Tryd.prog 9 #[.pointer (some ⟨V, 0, none⟩), .int .i64 (40 - (e : Int))] wr fun en w' => ∃ x er, en = .returned (.tuple #[.string x, .int .i64 er]) ∧ Hid ((er ≠ 0 ∧ x = ⟨#[]⟩ ∧ prV (endL 93 R0) = .tuple #[.string ⟨#[]⟩, .int .i64 er]) ∨ (er = 0 ∧ ∃ X, x = ba X ∧ X.length + 1 ≤ wt j ∧ prL (pr e) false (kids.drop (i + 1)) (S1 ++ X) = R0)) ∧ Below wr.heap.size wr w') := by
      refine (HCALL.out).mono ?_
      rintro en w' ⟨rfl, k⟩
      cases hpe : pr e j with
      | error er =>
        have h2 := HE2.out
        rw [hpe] at h2
        refine ⟨_, _, rfl, .inl ⟨?_, rfl, ?_⟩, k⟩
        · have := pr_err e j er hpe; omega
        · rw [h2]; rfl
      | ok X =>
        have h2 := HE2.out
        rw [hpe] at h2
        exact ⟨_, _, rfl, .inr ⟨rfl, X, rfl, pr_len e j X hpe, h2.symm⟩, k⟩
    clear HCALL HE HE2 HIJ hIJ hg3 HDR
    by_cases hi0 : i = 0
    · subst hi0
      obtain rfl : S = S1 := by simpa using hS1
      go_wp2_with fail
      refine (HGO.out).mono ?_
      rintro en w2 ⟨x, er, rfl, HX, k2⟩
      have HK2 := hide ((HK.out).trans (k2.mono (HK.out).size))
      clear HGO k2
      rcases HX.out with ⟨he0, rfl, hpv⟩ | ⟨rfl, X, rfl, hXl, hpl⟩
      · have j1 : (er == 0) = false := by simpa using he0
        have HPV := hide hpv
        clear hpv HX he0
        go_wp2_with fail
        go_ret2
        exact ⟨congrArg Ending.returned HPV.out.symm, HK2.out⟩
      · have hXz : (ba X).size = X.length := ba_size X
        have ha : ba S ++ ba X = ba (S ++ X) := ba_app S X
        have HPL := hide hpl
        clear hpl HX
        go_wp2_with fail
        refine ⟨⟨1, S ++ X, congrArg Value.string ha, rfl, by omega, by have hw1' : wts (kids.drop 0) = wt j + wts (kids.drop 1) := hw1; rw [List.length_append]; omega, HPL, HK2.out⟩, ?_⟩
        show kids.length - 1 < kids.length - 0
        omega
    · have q1 : decide ((0 : Int) < (i : Int)) = true := by simp; omega
      have q1' : decide (0 < i) = true := by simp; omega
      obtain rfl : S ++ [44] = S1 := by rw [← hS1, if_neg (by simpa using hi0)]
      have hc : ba S ++ ⟨#[44]⟩ = ba (S ++ [44]) := ba_app S [44]
      go_wp2_with fail
      refine (HGO.out).mono ?_
      rintro en w2 ⟨x, er, rfl, HX, k2⟩
      have HK2 := hide ((HK.out).trans (k2.mono (HK.out).size))
      clear HGO k2
      rcases HX.out with ⟨he0, rfl, hpv⟩ | ⟨rfl, X, rfl, hXl, hpl⟩
      · have j1 : (er == 0) = false := by simpa using he0
        have HPV := hide hpv
        clear hpv HX he0
        go_wp2_with fail
        go_ret2
        exact ⟨congrArg Ending.returned HPV.out.symm, HK2.out⟩
      · have hXz : (ba X).size = X.length := ba_size X
        have ha : ba (S ++ [44]) ++ ba X = ba (S ++ [44] ++ X) := ba_app _ X
        have HPL := hide hpl
        clear hpl HX
        go_wp2_with fail
        refine ⟨⟨i + 1, S ++ [44] ++ X, ?_, by simp, by omega, by rw [List.length_append, List.length_append, List.length_singleton]; omega, ?_, HK2.out⟩, ?_⟩
        · simp
        · have h3 : (i + 1 == 0) = false := by simp
          show prL _ _ _ _ = _
          rw [h3]; exact HPL.out
        show kids.length - (i + 1) < kids.length - i
        omega
end Go.Proofs.YtcibflndpckkkaaDoor
