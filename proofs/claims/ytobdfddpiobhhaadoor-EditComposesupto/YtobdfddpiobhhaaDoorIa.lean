/- The law EditInverts answers true. -/
import Derived.Test.YtobdfddpiobhhaaDoorHb
import Derived.Test.YtobdfddpiobhhaaDoorEb
namespace Go.Proofs.YtobdfddpiobhhaaDoor
open Go.RowKit
open EM
theorem flt_val (n : Int) (L : List Rw) : flt n L = 0 ∨ flt n L = 1 ∨ flt n L = 2 := by
  unfold flt; split
  · exact .inr (.inl rfl)
  · split
    · exact .inr (.inr rfl)
    · exact .inl rfl
theorem inv_len (x : By) (a q : Nat) (L : List Sp) : (inv x a q L).length = L.length := by
  induction L generalizing a q with
  | nil => rfl
  | cons c L ih => simp [inv, ih]
theorem tot_snoc (L : List Sp) (c : Sp) : tot (L ++ [c]) = tot L + c.s.length := by simp [tot]
/-- How many bytes a writer's spans put in. -/
theorem Wr.tot_add (W : Wr) (s : St) (N : Nat) (h : tot W.l + (Wr.txt W).length ≤ N) : tot (W.add s).l + (Wr.txt (W.add s)).length ≤ N + s.c := by
  unfold Wr.add
  by_cases h0 : s.c = 0
  · rw [if_pos h0]; omega
  · rw [if_neg h0]
    cases ho : W.o with
    | none =>
      have e1 : Wr.txt W = [] := by simp [Wr.txt, ho]
      rw [e1] at h
      cases s with
      | stay n => simp only [Wr.fin, ho, Wr.go, St.c, Wr.txt]; simp at h ⊢; omega
      | put t => simp only [Wr.beg, Wr.say, ho, St.c, Wr.txt]; simp at h ⊢; omega
      | drop n => simp only [Wr.beg, ho, Wr.go, St.c, Wr.txt]; simp at h ⊢; omega
    | some q =>
      obtain ⟨f, x⟩ := q
      have e1 : Wr.txt W = x := by simp [Wr.txt, ho]
      rw [e1] at h
      cases s with
      | stay n => simp only [Wr.fin, ho, Wr.go, St.c, Wr.txt, tot_snoc]; simp at h ⊢; omega
      | put t =>
        simp only []
        split
        · simp only [Wr.say, ho, St.c, Wr.txt]; simp at h ⊢; omega
        · simp only [Wr.fin, Wr.beg, Wr.say, ho, St.c, Wr.txt, tot_snoc]; simp at h ⊢; omega
      | drop n => simp only [Wr.beg, ho, Wr.go, St.c, Wr.txt]; simp at h ⊢; omega
theorem Wr.adds_small (S : List St) (W : Wr) (N M K : Nat) (h : Wr.small W N M) (hk : tot W.l + (Wr.txt W).length ≤ K) : Wr.small (S.foldl Wr.add W) (N + csum S) (M + S.length) ∧ tot (S.foldl Wr.add W).l + (Wr.txt (S.foldl Wr.add W)).length ≤ K + csum S := by
  induction S generalizing W N M K with
  | nil => exact ⟨h, hk⟩
  | cons s S ih =>
    obtain ⟨i1, i2⟩ := ih (W.add s) (N + s.c) (M + 1) (K + s.c) (Wr.small_add W s N M h) (Wr.tot_add W s K hk)
    have e : csum (s :: S) = s.c + csum S := by simp [csum]
    rw [List.foldl_cons, e, List.length_cons]
    rw [show N + (s.c + csum S) = N + s.c + csum S by omega, show M + (S.length + 1) = M + 1 + S.length by omega, show K + (s.c + csum S) = K + s.c + csum S by omega]
    exact ⟨i1, i2⟩
theorem plain_small (L : List Sp) (n : Nat) (h : Ok 0 n L) : (EM.plainOf L).length ≤ 3 * L.length ∧ tot (EM.plainOf L) ≤ n + tot L := by
  obtain ⟨i1, i2⟩ := Wr.adds_small (sts 0 L) Wr.new 0 0 0 ⟨by simp [Wr.new], by simp [Wr.new, Wr.txt], by simp [Wr.new]⟩ (by simp [Wr.new, Wr.txt, tot])
  have h1 := len_sts 0 L
  have h2 := csum_sts 0 n L h
  unfold EM.plainOf Wr.spans
  generalize (sts 0 L).foldl Wr.add Wr.new = W at i1 i2
  obtain ⟨_, _, i3⟩ := i1
  unfold Wr.fin
  cases ho : W.o with
  | none => simp only [ho, Option.isSome_none, Bool.false_eq_true, if_false] at i3 ⊢; omega
  | some q =>
    obtain ⟨f, x⟩ := q
    have e1 : Wr.txt W = x := by simp [Wr.txt, ho]
    rw [e1] at i2
    simp only [ho, Option.isSome_some, if_true, tot_snoc, List.length_append, List.length_cons, List.length_nil] at i3 ⊢
    omega
set_option maxRecDepth 100000 in
set_option maxHeartbeats 4000000 in
theorem inverts_no (s : ByteArray) (v : Value) (L : List Rw) (w : World) (hE : ErrT w) (h : IsL w v L) (hl : L.length ≤ 1073741824) (hf : flt s.size L ≠ 0) :
    Calls Tryd.prog 5 #[.string s, v] w fun e w' => e = .returned (.bool true) ∧ Below w.heap.size w w' := by
  have H := hide h
  have hf1 : (flt (s.size : Int) L == 0) = false := by simpa using hf
  have HF := hide hf
  clear h hf
  go_enter Tryd.func5, Tryd.ntmps5
  go_wp2_with fail
  refine (spans_any v L w H.out hl).mono ?_
  rintro e w1 ⟨v1, rfl, ho1, hb1⟩
  have H1 := hide (IsL.ofOwns ho1 (by omega))
  have HL1 := hide ((H.out).below hb1)
  clear ho1
  go_wp2_with fail
  refine (refApply_no s v1 L w1 H1.out HF.out).mono ?_
  rintro e w2 ⟨rfl, hb2⟩
  have B2 : Below w.heap.size w w2 := hb1.trans (hb2.mono hb1.size)
  go_wp2_with fail
  refine (invert_no s v L w2 ((H.out).below B2) HF.out).mono ?_
  rintro e w3 ⟨rfl, hb3⟩
  have B3 : Below w.heap.size w w3 := B2.trans (hb3.mono B2.size)
  go_wp2_with fail
  refine (error_same (flt s.size L) w3 (hE.below B3)).mono ?_
  rintro e w4 ⟨rfl, hb4⟩
  go_wp2_with fail
  go_ret
  exact ⟨rfl, B3.trans (hb4.mono B3.size)⟩
set_option maxRecDepth 100000 in
set_option maxHeartbeats 4000000 in
theorem inverts_yes (s : ByteArray) (v : Value) (Ls : List Sp) (w : World) (hE : ErrT w) (h : IsL w v (Ls.map raw)) (hs : s.size ≤ 1048576) (ht : tot Ls ≤ 1048576) (hl : Ls.length ≤ 1048576) (hst : s.size + tot Ls ≤ 1048576) (hok : Ok 0 s.size Ls) :
    Calls Tryd.prog 5 #[.string s, v] w fun e w' => e = .returned (.bool true) ∧ Below w.heap.size w w' := by
  have H := hide h
  have hlb := bs_len s
  have HI := hide (inv_undo (bs s) Ls (by rw [hlb]; exact hok))
  have HL := hide (app_len (bs s) 0 Ls (by rw [hlb]; exact hok))
  have HP := hide (plainOf_app (inv (bs s) 0 0 Ls) (app (bs s) 0 Ls) (HI.out).1)
  have HPL := hide (plain_small (inv (bs s) 0 0 Ls) _ (HI.out).1)
  have HT := hide (tot_inv (bs s) 0 0 s.size Ls hok)
  have HIL := hide (inv_len (bs s) 0 0 Ls)
  have HOK := hide hok
  clear h hok
  go_enter Tryd.func5, Tryd.ntmps5
  go_wp2_with fail
  refine (spans_any v _ w H.out (by rw [List.length_map]; omega)).mono ?_
  rintro e w1 ⟨v1, rfl, ho1, hb1⟩
  have H1 := hide (IsL.ofOwns ho1 (by rw [List.length_map]; omega))
  clear ho1
  go_wp2_with fail
  refine (refApply_yes s v1 Ls w1 H1.out hs (by omega) HOK.out).mono ?_
  rintro e w2 ⟨rfl, hb2⟩
  have B2 : Below w.heap.size w w2 := hb1.trans (hb2.mono hb1.size)
  go_wp2_with fail
  refine (invert_yes s v Ls w2 ((H.out).below B2) hs ht hl HOK.out).mono ?_
  rintro e w3 ⟨v3, P, rfl, ho3, hP, hb3⟩
  have B3 : Below w.heap.size w w3 := B2.trans (hb3.mono B2.size)
  have HO3 := hide (And.intro ho3 hP)
  clear ho3 hP
  go_wp2_with fail
  refine (error_same 0 w3 (hE.below B3)).mono ?_
  rintro e w4 ⟨rfl, hb4⟩
  have B4 : Below w.heap.size w w4 := B3.trans (hb4.mono B3.size)
  have hPl : P.length ≤ 3145728 := by
    have h1 := (HPL.out).1
    rw [inv_len] at h1
    rw [(HO3.out).2]; omega
  have hPt : tot P ≤ 4194304 := by
    have h1 := (HPL.out).2
    have h2 := HT.out
    have h3 := HL.out
    rw [(HO3.out).2]; omega
  have H4 := hide ((IsL.ofOwns (L := P.map raw) (by rw [List.length_map]; exact (HO3.out).1) (by rw [List.length_map]; omega)).below hb4)
  have hOP : Ok 0 (ba (app (bs s) 0 Ls)).size P := by rw [ba_size, (HO3.out).2]; exact (HP.out).1
  have hAP : app (bs (ba (app (bs s) 0 Ls))) 0 P = bs s := by rw [bs_ba, (HO3.out).2, (HP.out).2, (HI.out).2]
  have hSZ : (ba (app (bs s) 0 Ls)).size ≤ 1048576 := by have := HL.out; rw [ba_size]; omega
  have HQ := hide (And.intro hOP hAP)
  clear hOP hAP
  go_wp2_with fail
  refine (spans_any v3 _ w4 H4.out (by rw [List.length_map]; omega)).mono ?_
  rintro e w5 ⟨v5, rfl, ho5, hb5⟩
  have B5 : Below w.heap.size w w5 := B4.trans (hb5.mono B4.size)
  have H5 := hide (IsL.ofOwns ho5 (by rw [List.length_map]; omega))
  clear ho5
  go_wp2_with fail
  refine (refApply_yes (ba (app (bs s) 0 Ls)) v5 P w5 H5.out hSZ (by omega) (HQ.out).1).mono ?_
  rintro e w6 ⟨rfl, hb6⟩
  rw [(HQ.out).2, ba_bs]
  go_wp2_with fail
  go_ret
  exact ⟨rfl, B5.trans (hb6.mono B5.size)⟩
theorem inverts_any (s : ByteArray) (v : Value) (L : List Rw) (w : World) (hE : ErrT w) (h : IsL w v L) (hs : s.size + (L.map fun r => r.s.size).sum ≤ 1048576) (hl : L.length ≤ 1048576) :
    Calls Tryd.prog 5 #[.string s, v] w fun e w' => e = .returned (.bool true) ∧ Below w.heap.size w w' := by
  by_cases hf : flt s.size L = 0
  · obtain ⟨Ls, rfl, hok⟩ := flt_split s.size L hf
    have e : ((Ls.map raw).map fun r => r.s.size).sum = tot Ls := by
      unfold tot
      rw [List.map_map]
      have : (fun c : Sp => c.s.length) = (fun r : Rw => r.s.size) ∘ raw := by funext c; simp [raw, ba_size]
      rw [this]
    rw [e] at hs
    rw [List.length_map] at hl
    exact inverts_yes s v Ls w hE h (by omega) (by omega) hl hs hok
  · exact inverts_no s v L w hE h (by omega) hf
end Go.Proofs.YtobdfddpiobhhaaDoor
