/- The document's own Stay: how many tokens stay. -/
import Derived.Test.YtkampoaceipngaaGreatDoorRp2
import Derived.Test.YtkampoaceipngaaGreatDoorSt
namespace Go.Proofs.YtkampoaceipngaaGreatDoor
open Go.RowKit
open M
namespace X
theorem toks_at (n : Nat) : ∀ (p : Nat) (l : List UInt8) (k : Nat) (t : Tk), l.length ≤ n → (toks p l)[k]? = some t → p ≤ t.pos ∧ (toks p l).drop k = toks t.pos (l.drop (t.pos - p)) := by
  induction n with
  | zero =>
    intro p l k t h hk
    obtain rfl : l = [] := List.length_eq_zero_iff.1 (by omega)
    rw [toks_nil] at hk; cases hk
  | succ n ih =>
    intro p l k t h hk
    by_cases h0 : l = []
    · subst h0; rw [toks_nil] at hk; cases hk
    · have hb := tok_bounds h0
      rw [toks_cons h0] at hk ⊢
      cases k with
      | zero =>
        cases hk
        refine ⟨Nat.le_refl _, ?_⟩
        show _ = toks p (l.drop (p - p))
        rw [Nat.sub_self, List.drop_zero, List.drop_zero, toks_cons h0]
      | succ k =>
        rw [List.getElem?_cons_succ] at hk
        obtain ⟨h1, h2⟩ := ih _ _ k t (by rw [List.length_drop]; omega) hk
        refine ⟨by omega, ?_⟩
        rw [List.drop_succ_cons, h2, List.drop_drop, show (tok l).2 + (t.pos - (p + (tok l).2)) = t.pos - p by omega]
theorem toks_len_any (p q : Nat) (l : List UInt8) : (toks p l).length = (toks q l).length := by
  rw [toks_mv _ ((p : Int) - q) q p l (Nat.le_refl _) (by omega), List.length_map]
theorem stop_len {T X : List UInt8} {f u : Nat} (h1 : f ≤ u) (h2 : u ≤ T.length) {k : Nat} {t : Tk} (hk : (toks 0 T)[k]? = some t) {a : Nat} (h3 : (u : Int) ≤ a - ((X.length : Int) - ((u : Int) - f))) (h4 : (t.pos : Int) = a - ((X.length : Int) - ((u : Int) - f))) : (toks a ((rep T X f u).drop a)).length = (toks 0 T).length - k := by
  have hS := rep_same (T := T) (X := X) h1 h2 (g := (X.length : Int) - ((u : Int) - f)) rfl
  rw [hS.same t.pos a (by omega) (by omega)]
  obtain ⟨-, h5⟩ := toks_at _ 0 T k t (Nat.le_refl _) hk
  rw [Nat.sub_zero] at h5
  rw [toks_len_any a t.pos, ← h5, List.length_drop]
theorem rest_len {T X : List UInt8} {f u : Nat} (h1 : f ≤ u) (h2 : u ≤ T.length) {A S : List Tk} (hA : anw ((X.length : Int) - ((u : Int) - f)) (beg u (toks 0 T)) (endF 0 (ahd f (toks 0 T))) ((rep T X f u).drop (endF 0 (ahd f (toks 0 T)))) = (A, S)) : (toks (endF 0 (ahd f (toks 0 T))) ((rep T X f u).drop (endF 0 (ahd f (toks 0 T))))).length = A.length + S.length := by
  obtain ⟨e1, -⟩ := rep_toks (X := X) h1 h2 (g := (X.length : Int) - ((u : Int) - f)) rfl
  rw [hA] at e1
  have hlf : (T.take f).length = f := by rw [List.length_take]; omega
  have e2 : T = T.take f ++ T.drop f := (List.take_append_drop f T).symm
  have e3 : rep T X f u = T.take f ++ (X ++ T.drop u) := by unfold rep; rw [List.append_assoc]
  have ha := (ahd_toks (T.take f) (T.drop f) (X ++ T.drop u) _ 0 (Nat.le_refl _)).2
  rw [← e2, ← e3, hlf] at ha
  simp only [List.drop_zero] at ha
  rw [ha] at e1
  have := congrArg List.length e1
  simp only [List.length_append, List.length_map] at this
  omega
theorem len_on {a c m : Nat} {t : List UInt8} (h0 : t ≠ []) (h : c + (toks a t).length = m) : c + 1 + (toks (a + (tok t).2) (t.drop (tok t).2)).length = m := by
  rw [toks_cons h0, List.length_cons] at h; omega
end X

set_option maxRecDepth 100000 in
set_option maxHeartbeats 4000000 in
theorem stay2_any (s Y : ByteArray) (f u : Nat) (w : World) (hs : s.size ≤ 536870912) (hX : Y.size ≤ 536870912) (h1 : f ≤ u) (h2 : u ≤ s.size) (A S : List Tk)
    (HA0 : Hid (anw ((Y.size : Int) - ((u : Int) - f)) (beg u (toks 0 (bs s))) (endF 0 (ahd f (toks 0 (bs s)))) ((rep (bs s) (bs Y) f u).drop (endF 0 (ahd f (toks 0 (bs s))))) = (A, S))) :
    Calls Tryz.prog 37 #[.string s, .int .i64 f, .int .i64 u, .string Y] w fun e w' => e = .returned (.tuple #[.int .i64 (ahd f (toks 0 (bs s))).length, .int .i64 S.length, .int .i64 A.length]) ∧ Below w.heap.size w w' := by
  have HC : Hid (cnt ((Y.size : Int) - ((u : Int) - f)) (toks 0 (bs s)) u (endF 0 (ahd f (toks 0 (bs s)))) ((rep (bs s) (bs Y) f u).drop (endF 0 (ahd f (toks 0 (bs s))))) = A.length) := by
    have := (rep_toks (T := bs s) (X := bs Y) (g := (Y.size : Int) - ((u : Int) - f)) h1 (by rw [bs_len]; exact h2) (by rw [bs_len])).2
    rw [HA0.out] at this; exact this
  have HM : Hid ((toks (endF 0 (ahd f (toks 0 (bs s)))) ((rep (bs s) (bs Y) f u).drop (endF 0 (ahd f (toks 0 (bs s)))))).length = A.length + S.length) := X.rest_len h1 (by rw [bs_len]; exact h2) (by rw [bs_len]; exact HA0.out)
  have HStop : Hid (∀ (k : Nat) (t : Tk) (a : Nat), (toks 0 (bs s))[k]? = some t → (u : Int) ≤ a - ((Y.size : Int) - ((u : Int) - f)) → (t.pos : Int) = a - ((Y.size : Int) - ((u : Int) - f)) → (toks a ((rep (bs s) (bs Y) f u).drop a)).length = (toks 0 (bs s)).length - k) := fun k t a hk h3 h4 => by
    refine X.stop_len (T := bs s) (X := bs Y) h1 (by rw [bs_len]; exact h2) hk (a := a) ?_ ?_
    · rw [bs_len]; exact h3
    · rw [bs_len]; exact h4
  clear HA0
  go_enter Tryz.func37, Tryz.ntmps37
  go_wp2_with fail
  refine (refTokens_any s _ (by omega)).mono ?_
  rintro e w1 ⟨v, rfl, hown, k1⟩
  have hT := IsT.ofOwns hown
  have K1 := hide k1
  have H1 := hide hT
  obtain ⟨ao, cap, rfl, hc1, hc2, -⟩ := hT
  clear k1 hown
  have hf : f ≤ s.size := by omega
  have hf' : (f : Int) ≤ (s.size : Int) := by omega
  have hu' : (u : Int) ≤ (s.size : Int) := by omega
  go_wp2_with fail
  go_region
  go_upto_block 0 with fail
  have hg : (f : Int) + (Y.size : Int) + ((s.size - u : Nat) : Int) - (s.size : Int) = (Y.size : Int) - ((u : Int) - f) := by omega
  rw [hg]
  have hNl : (s.extract 0 f ++ Y ++ s.extract u s.size).size = f + Y.size + (s.size - u) := by
    rw [← bs_len, bs_append, bs_append, bs_take, bs_drop, List.length_append, List.length_append, List.length_take, List.length_drop, bs_len, bs_len]; omega
  have hNb : bs (s.extract 0 f ++ Y ++ s.extract u s.size) = rep (bs s) (bs Y) f u := by rw [bs_append, bs_append, bs_take, bs_drop]; rfl
  rw [← hNb] at HC HM HStop
  generalize s.extract 0 f ++ Y ++ s.extract u s.size = N at *
  have hG1 : (Y.size : Int) - ((u : Int) - f) ≤ 536870912 := by omega
  have hG2 : -536870912 ≤ (Y.size : Int) - ((u : Int) - f) := by omega
  have hGN : (N.size : Int) = s.size + ((Y.size : Int) - ((u : Int) - f)) := by omega
  generalize (Y.size : Int) - ((u : Int) - f) = G at *
  have hLl := toks_len _ 0 (bs s) (Nat.le_refl _)
  rw [bs_len] at hLl
  have HG := hide (toks_ge _ 0 (bs s) (Nat.le_refl _))
  rw [bs_len] at HG
  generalize hL : toks 0 (bs s) = L at *
  have HLe := hide hL
  clear hL
  clear hNb hg
  go_cut [14] (fun s14 wx => ∃ k : Nat, s14 = .int .i64 k ∧ k ≤ L.length ∧ Hid (ahd f L = L.take k) ∧ Below w1.heap.size w1 wx)
  case first =>
    go_wp2_with fail
    go_loopw [14] (fun i wr => ∃ k : Nat, i = .int .i64 k ∧ k ≤ L.length ∧ Hid (ahd f L = L.take k ++ ahd f (L.drop k)) ∧ Below w1.heap.size w1 wr) (fun i _ => L.length - (intOf i).toNat)
    case atStart => exact ⟨0, rfl, Nat.zero_le _, (rfl : ahd f L = L.take 0 ++ ahd f (L.drop 0)), (Below.refl _ w1).drew⟩
    case round =>
      obtain ⟨k, rfl, hk, HA, hB⟩ := hrel
      by_cases hlt : k < L.length
      case neg =>
        have i1 : decide ((k : Int) < (L.length : Int)) = false := by simp; omega
        go_wp2_with fail
        go_region
        all_goals go_wp2_with fail
        all_goals go_meet
        all_goals case rel =>
          refine ⟨k, rfl, hk, ?_, (by first | exact hB | exact hB.drew)⟩
          show _ = _
          rw [HA.out, List.drop_eq_nil_iff.2 (by omega), show ahd f [] = [] from rfl, List.append_nil]
      obtain ⟨b, o, t, rfl, ht, q1, q2, q3⟩ := (H1.out).get hB (k := k) hlt
      have hT := (HG.out) t (List.mem_of_getElem? ht)
      have hd : L.drop k = t :: L.drop (k + 1) := by
        rw [List.drop_eq_getElem_cons hlt]; congr 1
        exact Option.some.inj ((List.getElem?_eq_getElem hlt).symm.trans ht)
      have i1 : decide ((k : Int) < (L.length : Int)) = true := by simp; omega
      rw [hd] at HA
      by_cases hc : t.pos + t.len + 4 ≤ f
      · have i2 : decide ((t.pos : Int) + (t.len : Int) + 4 ≤ (f : Int)) = true := by simp; omega
        have HA' : Hid (ahd f L = L.take (k + 1) ++ ahd f (L.drop (k + 1))) := by
          show _ = _
          rw [HA.out]
          have : ahd f (t :: L.drop (k + 1)) = t :: ahd f (L.drop (k + 1)) := by unfold ahd; exact List.takeWhile_cons_of_pos (by simpa using hc)
          rw [this, List.take_add_one, ht]; simp
        clear HA hd
        go_wp2_with fail
        go_region
        all_goals go_wp2_with fail
        go_roundw
        case rel => exact ⟨k + 1, by go_num, by omega, HA', hB.drew⟩
        case measure => simp [intOf]; omega
      · have i2 : decide ((t.pos : Int) + (t.len : Int) + 4 ≤ (f : Int)) = false := by simp; omega
        have HA' : Hid (ahd f L = L.take k) := by
          show _ = _
          rw [HA.out]
          have : ahd f (t :: L.drop (k + 1)) = [] := by unfold ahd; exact List.takeWhile_cons_of_neg (by simpa using hc)
          rw [this, List.append_nil]
        clear HA hd
        go_wp2_with fail
        go_region
        all_goals go_wp2_with fail
        all_goals go_meet
        all_goals (case rel => exact ⟨k, rfl, hk, HA', hB.drew⟩)
  case rest =>
    obtain ⟨k, rfl, hk, HA, hB⟩ := hcut
    have HB := hide hB
    clear hB
    go_upto_if 58 with fail
    go_cut [15] (fun s15 wx => s15 = .int .i64 (endF 0 (ahd f L)) ∧ Below w1.heap.size w1 wx)
    case first =>
      by_cases h0 : k = 0
      · subst h0
        go_wp2_with fail
        go_meet
        case rel => exact ⟨by rw [HA.out]; rfl, HB.out⟩
      · obtain ⟨m, rfl⟩ : ∃ m, k = m + 1 := ⟨k - 1, by omega⟩
        have hlt : m < L.length := by omega
        obtain ⟨b, o, t, rfl, ht, q1, q2, q3⟩ := (H1.out).get (HB.out) (k := m) hlt
        have hT := (HG.out) t (List.mem_of_getElem? ht)
        have HE : Hid (endF 0 (ahd f L) = t.pos + t.len) := by
          show _ = _
          rw [HA.out, List.take_add_one, ht]
          exact endF_last 0 t _
        go_wp2_with fail
        go_region
        all_goals go_wp2_with fail
        all_goals go_meet
        all_goals (case rel => exact ⟨by rw [HE.out]; go_num, (HB.out).drew⟩)
    case rest =>
      obtain ⟨rfl, hB2⟩ := hcut
      have HB2 := hide hB2
      have hal : (ahd f L).length = k := by
        rw [HA.out, List.length_take]; omega
      clear hB2 HB HA
      have he : endF 0 (ahd f L) ≤ N.size := Nat.le_trans (endF_le ahd_le) (by omega)
      have hZ := (K1.out).size
      have HZ := hide hZ
      clear hZ
      have HAL := hide hal
      clear hal
      generalize endF 0 (ahd f L) = a0 at *
      go_wp2_with fail
      go_loopw [15, 16, 17, 18] (fun x y _ _ wr => ∃ a c : Nat, x = .int .i64 a ∧ y = .int .i64 c ∧ a ≤ N.size ∧ c ≤ a ∧ Hid (A.length = c + cnt G L u a ((bs N).drop a)) ∧ Hid (c + (toks a ((bs N).drop a)).length = A.length + S.length) ∧ Hid (Below w1.heap.size w1 wr)) (fun x _ _ _ _ => N.size - (intOf x).toNat)
      case atStart => exact ⟨a0, 0, rfl, rfl, he, Nat.zero_le _, (by rw [Nat.zero_add]; exact HC.out.symm : A.length = 0 + cnt G L u a0 ((bs N).drop a0)), (by rw [Nat.zero_add]; exact HM.out : 0 + (toks a0 ((bs N).drop a0)).length = A.length + S.length), HB2⟩
      case round =>
        obtain ⟨a, c, rfl, rfl, ha, hca, HN, HMl, HB⟩ := hrel
        by_cases hlt : a < N.size
        case neg =>
          have i1 : decide ((a : Int) < (N.size : Int)) = false := by simp; omega
          have HE : Hid (A.length = c ∧ S.length = 0) := by
            have h5 := HN.out
            have h6 := HMl.out
            have h7 : (bs N).drop a = [] := by rw [List.drop_eq_nil_iff, bs_len]; omega
            rw [cnt_end h7] at h5
            rw [h7, toks_nil, List.length_nil] at h6
            show _ ∧ _
            omega
          go_wp2_with fail
          go_ret3
          exact ⟨by rw [HLe.out, HAL.out, (HE.out).1, (HE.out).2]; rfl, (K1.out).trans ((HB.out).mono HZ.out)⟩
        have i1 : decide ((a : Int) < (N.size : Int)) = true := by simp; omega
        by_cases hin : (u : Int) ≤ a - G
        case neg =>
          have j1 : decide ((f : Int) + (Y.size : Int) ≤ (a : Int)) = false := by simp; omega
          have HS : Hid (¬ ((u : Int) ≤ a - G ∧ ∃ k ∈ L, (k.pos : Int) = a - G)) := fun e => hin e.1
          go_wp2_with fail
          have hne := drop_ne hlt
          have HCN := hide (cnt_on (g := G) (L := L) (to_ := u) (a := a) hne HS.out)
          have htl := tok_drop_le hlt
          have hbd := tok_bounds hne
          have HML2 := hide (X.len_on hne HMl.out)
          rw [List.drop_drop] at HML2
          refine (one_any N a _ (by omega) hlt).mono ?_
          rintro e w2 ⟨rfl, k2⟩
          have HK := hide ((HB.out).trans (k2.mono (HB.out).size))
          clear k2 hne
          rw [List.drop_drop] at HCN
          generalize M.tok ((bs N).drop a) = T at *
          go_wp2_with fail
          go_roundw
          case rel => exact ⟨a + T.2, c + 1, by go_num, by go_num, htl, by omega, (by show _ = _; rw [HN.out, HCN.out]; omega), HML2, (HK.out).alloc (HK.out).size _⟩
          case measure => simp [intOf]; omega
        have j1 : decide ((f : Int) + (Y.size : Int) ≤ (a : Int)) = true := by simp; omega
        have j2 : decide ((u : Int) ≤ (a : Int) - G) = true := by simp; omega
        go_wp2_with fail
        go_loopw [17] (fun x wr => ∃ k : Nat, x = .int .i64 k ∧ k ≤ L.length ∧ Hid (∀ j t, j < k → L[j]? = some t → (t.pos : Int) ≠ a - G) ∧ Hid (Below w1.heap.size w1 wr)) (fun x _ => L.length - (intOf x).toNat)
        case atStart => exact ⟨0, rfl, Nat.zero_le _, (fun j t h _ => by omega), HB⟩
        case round =>
          obtain ⟨k, rfl, hk, HJ, HB4⟩ := hrel
          by_cases hkl : k < L.length
          case neg =>
            have i3 : decide ((k : Int) < (L.length : Int)) = false := by simp; omega
            have HS : Hid (¬ ((u : Int) ≤ a - G ∧ ∃ k ∈ L, (k.pos : Int) = a - G)) := by
              rintro ⟨-, t, ht, e⟩
              obtain ⟨j, hj, rfl⟩ := List.getElem_of_mem ht
              exact HJ.out j _ (by omega) (List.getElem?_eq_getElem hj) e
            go_wp2_with fail
            have hne := drop_ne hlt
            have HCN := hide (cnt_on (g := G) (L := L) (to_ := u) (a := a) hne HS.out)
            have htl := tok_drop_le hlt
            have hbd := tok_bounds hne
            have HML2 := hide (X.len_on hne HMl.out)
            rw [List.drop_drop] at HML2
            refine (one_any N a _ (by omega) hlt).mono ?_
            rintro e w2 ⟨rfl, k2⟩
            have HK := hide ((HB4.out).trans (k2.mono (HB4.out).size))
            clear k2 hne
            rw [List.drop_drop] at HCN
            generalize M.tok ((bs N).drop a) = T at *
            go_wp2_with fail
            go_roundw
            case rel => exact ⟨a + T.2, c + 1, by go_num, by go_num, htl, by omega, (by show _ = _; rw [HN.out, HCN.out]; omega), HML2, (HK.out).alloc (HK.out).size _⟩
            case measure => simp [intOf]; omega
          have i3 : decide ((k : Int) < (L.length : Int)) = true := by simp; omega
          obtain ⟨b, o, t, rfl, ht, q1, q2, q3⟩ := (H1.out).get (HB4.out) (k := k) hkl
          have hT := (HG.out) t (List.mem_of_getElem? ht)
          by_cases hp : (t.pos : Int) = a - G
          · have i4 : ((t.pos : Int) == (a : Int) - G) = true := by simpa using hp
            have HE : Hid (A.length = c ∧ S.length = L.length - k) := by
              have h5 := HN.out
              have h6 := HMl.out
              rw [cnt_stop ⟨hin, t, List.mem_of_getElem? ht, hp⟩] at h5
              rw [(HStop.out) k t a ht hin hp] at h6
              show _ ∧ _
              omega
            clear hp
            go_wp2_with fail
            go_ret3
            have e9 : ((L.length - k : Nat) : Int) = (L.length : Int) - (k : Int) := by omega
            exact ⟨by rw [HLe.out, HAL.out, (HE.out).1, (HE.out).2, e9]; rfl, (K1.out).trans ((HB4.out).mono HZ.out)⟩
          · have i4 : ((t.pos : Int) == (a : Int) - G) = false := by simpa using hp
            have HJ' : Hid (∀ j t, j < k + 1 → L[j]? = some t → (t.pos : Int) ≠ a - G) := by
              intro j t' hj ht'
              by_cases e : j = k
              · subst e; rw [ht] at ht'; cases ht'; exact hp
              · exact HJ.out j t' (by omega) ht'
            clear hp
            go_wp2_with fail
            go_roundw
            case rel => exact ⟨k + 1, by go_num, by omega, HJ', HB4⟩
            case measure => simp [intOf]; omega
end Go.Proofs.YtkampoaceipngaaGreatDoor
