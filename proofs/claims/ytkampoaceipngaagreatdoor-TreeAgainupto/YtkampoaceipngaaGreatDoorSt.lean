/- The document's own Stay. -/
import Derived.Test.YtkampoaceipngaaGreatDoorAa
import Derived.Test.YtkampoaceipngaaGreatDoorFh
import Derived.Deep.CutBlock
namespace Go.Proofs.YtkampoaceipngaaGreatDoor
open Go.RowKit
open M

theorem endF_le {A : List Tk} {m : Nat} (h : ∀ t ∈ A, t.pos + t.len ≤ m) : endF 0 A ≤ m := by
  by_cases h0 : A = []
  · subst h0; exact Nat.zero_le _
  · obtain ⟨t, h1, h2⟩ := endF_get (p := 0) h0
    rw [h2]; exact h t (List.mem_of_getElem? h1)
theorem ahd_le {f : Nat} {L : List Tk} : ∀ t ∈ ahd f L, t.pos + t.len ≤ f := by
  intro t ht
  have h1 : (ahd f L).all (fun t => decide (t.pos + t.len + 4 ≤ f)) = true := List.all_takeWhile
  have := List.all_eq_true.1 h1 t ht
  simp at this; omega
theorem cnt_end {g : Int} {L : List Tk} {to_ a : Nat} {t : List UInt8} (h : t = []) : cnt g L to_ a t = 0 := by subst h; rw [cnt]; simp
theorem cnt_stop {g : Int} {L : List Tk} {to_ a : Nat} {t : List UInt8} (h : (to_ : Int) ≤ a - g ∧ ∃ k ∈ L, (k.pos : Int) = a - g) : cnt g L to_ a t = 0 := by
  rw [cnt]; split
  · rfl
  · first | rfl | rw [if_pos h]
theorem cnt_on {g : Int} {L : List Tk} {to_ a : Nat} {t : List UInt8} (h0 : t ≠ []) (h : ¬ ((to_ : Int) ≤ a - g ∧ ∃ k ∈ L, (k.pos : Int) = a - g)) : cnt g L to_ a t = 1 + cnt g L to_ (a + (tok t).2) (t.drop (tok t).2) := by
  conv => lhs; rw [cnt]
  rw [dif_neg h0, if_neg h]
theorem ret_iii {a b c : Int} {n : Nat} (h : c = n) : ∃ x y : Int, Ending.returned (.tuple #[.int .i64 a, .int .i64 b, .int .i64 c]) = .returned (.tuple #[.int .i64 x, .int .i64 y, .int .i64 n]) := ⟨a, b, by rw [h]⟩

set_option maxRecDepth 100000 in
set_option maxHeartbeats 4000000 in
theorem stay_any (s X : ByteArray) (f u : Nat) (w : World) (hs : s.size ≤ 536870912) (hX : X.size ≤ 536870912) (h1 : f ≤ u) (h2 : u ≤ s.size)
    (cn : Nat) (HC : Hid (cnt ((X.size : Int) - ((u : Int) - f)) (toks 0 (bs s)) u (endF 0 (ahd f (toks 0 (bs s)))) ((rep (bs s) (bs X) f u).drop (endF 0 (ahd f (toks 0 (bs s))))) = cn)) :
    Calls Tryz.prog 37 #[.string s, .int .i64 f, .int .i64 u, .string X] w fun e w' => (∃ a k : Int, e = .returned (.tuple #[.int .i64 a, .int .i64 k, .int .i64 cn])) ∧ Below w.heap.size w w' := by
  go_enter Tryz.func37, Tryz.ntmps37
  go_wp2_with fail
  refine (refTokens_any s _ (by omega)).mono ?_
  rintro e w1 ⟨v, rfl, hown, k1⟩
  have hT := IsT.ofOwns hown
  have K1 := hide k1
  have H1 := hide hT
  obtain ⟨ao, cap, rfl, hc1, hc2, -⟩ := hT
  clear k1 hown
  have hf : f ≤ s.size := by omega
  have hf' : (f : Int) ≤ (s.size : Int) := by omega
  have hu' : (u : Int) ≤ (s.size : Int) := by omega
  go_wp2_with fail
  go_region
  go_upto_block 0 with fail
  have hg : (f : Int) + (X.size : Int) + ((s.size - u : Nat) : Int) - (s.size : Int) = (X.size : Int) - ((u : Int) - f) := by omega
  rw [hg]
  have hNl : (s.extract 0 f ++ X ++ s.extract u s.size).size = f + X.size + (s.size - u) := by
    rw [← bs_len, bs_append, bs_append, bs_take, bs_drop, List.length_append, List.length_append, List.length_take, List.length_drop, bs_len, bs_len]; omega
  have hNb : bs (s.extract 0 f ++ X ++ s.extract u s.size) = rep (bs s) (bs X) f u := by rw [bs_append, bs_append, bs_take, bs_drop]; rfl
  rw [← hNb] at HC
  generalize s.extract 0 f ++ X ++ s.extract u s.size = N at *
  have hG1 : (X.size : Int) - ((u : Int) - f) ≤ 536870912 := by omega
  have hG2 : -536870912 ≤ (X.size : Int) - ((u : Int) - f) := by omega
  have hGN : (N.size : Int) = s.size + ((X.size : Int) - ((u : Int) - f)) := by omega
  generalize (X.size : Int) - ((u : Int) - f) = G at *
  have hLl := toks_len _ 0 (bs s) (Nat.le_refl _)
  rw [bs_len] at hLl
  have HG := hide (toks_ge _ 0 (bs s) (Nat.le_refl _))
  rw [bs_len] at HG
  generalize toks 0 (bs s) = L at *
  clear hNb hg
  go_cut [14] (fun s14 wx => ∃ k : Nat, s14 = .int .i64 k ∧ k ≤ L.length ∧ Hid (ahd f L = L.take k) ∧ Below w1.heap.size w1 wx)
  case first =>
    go_wp2_with fail
    go_loopw [14] (fun i wr => ∃ k : Nat, i = .int .i64 k ∧ k ≤ L.length ∧ Hid (ahd f L = L.take k ++ ahd f (L.drop k)) ∧ Below w1.heap.size w1 wr) (fun i _ => L.length - (intOf i).toNat)
    case atStart => exact ⟨0, rfl, Nat.zero_le _, (rfl : ahd f L = L.take 0 ++ ahd f (L.drop 0)), (Below.refl _ w1).drew⟩
    case round =>
      obtain ⟨k, rfl, hk, HA, hB⟩ := hrel
      by_cases hlt : k < L.length
      case neg =>
        have i1 : decide ((k : Int) < (L.length : Int)) = false := by simp; omega
        go_wp2_with fail
        go_region
        all_goals go_wp2_with fail
        all_goals go_meet
        all_goals case rel =>
          refine ⟨k, rfl, hk, ?_, (by first | exact hB | exact hB.drew)⟩
          show _ = _
          rw [HA.out, List.drop_eq_nil_iff.2 (by omega), show ahd f [] = [] from rfl, List.append_nil]
      obtain ⟨b, o, t, rfl, ht, q1, q2, q3⟩ := (H1.out).get hB (k := k) hlt
      have hT := (HG.out) t (List.mem_of_getElem? ht)
      have hd : L.drop k = t :: L.drop (k + 1) := by
        rw [List.drop_eq_getElem_cons hlt]; congr 1
        exact Option.some.inj ((List.getElem?_eq_getElem hlt).symm.trans ht)
      have i1 : decide ((k : Int) < (L.length : Int)) = true := by simp; omega
      rw [hd] at HA
      by_cases hc : t.pos + t.len + 4 ≤ f
      · have i2 : decide ((t.pos : Int) + (t.len : Int) + 4 ≤ (f : Int)) = true := by simp; omega
        have HA' : Hid (ahd f L = L.take (k + 1) ++ ahd f (L.drop (k + 1))) := by
          show _ = _
          rw [HA.out]
          have : ahd f (t :: L.drop (k + 1)) = t :: ahd f (L.drop (k + 1)) := by unfold ahd; exact List.takeWhile_cons_of_pos (by simpa using hc)
          rw [this, List.take_add_one, ht]; simp
        clear HA hd
        go_wp2_with fail
        go_region
        all_goals go_wp2_with fail
        go_roundw
        case rel => exact ⟨k + 1, by go_num, by omega, HA', hB.drew⟩
        case measure => simp [intOf]; omega
      · have i2 : decide ((t.pos : Int) + (t.len : Int) + 4 ≤ (f : Int)) = false := by simp; omega
        have HA' : Hid (ahd f L = L.take k) := by
          show _ = _
          rw [HA.out]
          have : ahd f (t :: L.drop (k + 1)) = [] := by unfold ahd; exact List.takeWhile_cons_of_neg (by simpa using hc)
          rw [this, List.append_nil]
        clear HA hd
        go_wp2_with fail
        go_region
        all_goals go_wp2_with fail
        all_goals go_meet
        all_goals (case rel => exact ⟨k, rfl, hk, HA', hB.drew⟩)
  case rest =>
    obtain ⟨k, rfl, hk, HA, hB⟩ := hcut
    have HB := hide hB
    clear hB
    go_upto_if 58 with fail
    go_cut [15] (fun s15 wx => s15 = .int .i64 (endF 0 (ahd f L)) ∧ Below w1.heap.size w1 wx)
    case first =>
      by_cases h0 : k = 0
      · subst h0
        go_wp2_with fail
        go_meet
        case rel => exact ⟨by rw [HA.out]; rfl, HB.out⟩
      · obtain ⟨m, rfl⟩ : ∃ m, k = m + 1 := ⟨k - 1, by omega⟩
        have hlt : m < L.length := by omega
        obtain ⟨b, o, t, rfl, ht, q1, q2, q3⟩ := (H1.out).get (HB.out) (k := m) hlt
        have hT := (HG.out) t (List.mem_of_getElem? ht)
        have HE : Hid (endF 0 (ahd f L) = t.pos + t.len) := by
          show _ = _
          rw [HA.out, List.take_add_one, ht]
          exact endF_last 0 t _
        go_wp2_with fail
        go_region
        all_goals go_wp2_with fail
        all_goals go_meet
        all_goals (case rel => exact ⟨by rw [HE.out]; go_num, (HB.out).drew⟩)
    case rest =>
      obtain ⟨rfl, hB2⟩ := hcut
      have HB2 := hide hB2
      clear hB2 HB HA hk
      have he : endF 0 (ahd f L) ≤ N.size := Nat.le_trans (endF_le ahd_le) (by omega)
      have hZ := (K1.out).size
      have HZ := hide hZ
      clear hZ
      generalize endF 0 (ahd f L) = a0 at *
      go_wp2_with fail
      go_loopw [15, 16, 17, 18] (fun x y _ _ wr => ∃ a c : Nat, x = .int .i64 a ∧ y = .int .i64 c ∧ a ≤ N.size ∧ c ≤ a ∧ Hid (cn = c + cnt G L u a ((bs N).drop a)) ∧ Hid (Below w1.heap.size w1 wr)) (fun x _ _ _ _ => N.size - (intOf x).toNat)
      case atStart => exact ⟨a0, 0, rfl, rfl, he, Nat.zero_le _, (by rw [Nat.zero_add]; exact HC.out.symm : cn = 0 + cnt G L u a0 ((bs N).drop a0)), HB2⟩
      case round =>
        obtain ⟨a, c, rfl, rfl, ha, hca, HN, HB⟩ := hrel
        by_cases hlt : a < N.size
        case neg =>
          have i1 : decide ((a : Int) < (N.size : Int)) = false := by simp; omega
          have HE : Hid (cn = c) := by
            show _ = _
            have := HN.out
            rw [cnt_end (by rw [List.drop_eq_nil_iff, bs_len]; omega)] at this
            exact this
          go_wp2_with fail
          go_ret3
          exact ⟨ret_iii (by rw [HE.out]), (K1.out).trans ((HB.out).mono HZ.out)⟩
        have i1 : decide ((a : Int) < (N.size : Int)) = true := by simp; omega
        by_cases hin : (u : Int) ≤ a - G
        case neg =>
          have j1 : decide ((f : Int) + (X.size : Int) ≤ (a : Int)) = false := by simp; omega
          have HS : Hid (¬ ((u : Int) ≤ a - G ∧ ∃ k ∈ L, (k.pos : Int) = a - G)) := fun e => hin e.1
          go_wp2_with fail
          have hne := drop_ne hlt
          have HCN := hide (cnt_on (g := G) (L := L) (to_ := u) (a := a) hne HS.out)
          have htl := tok_drop_le hlt
          have hbd := tok_bounds hne
          refine (one_any N a _ (by omega) hlt).mono ?_
          rintro e w2 ⟨rfl, k2⟩
          have HK := hide ((HB.out).trans (k2.mono (HB.out).size))
          clear k2 hne
          rw [List.drop_drop] at HCN
          generalize M.tok ((bs N).drop a) = T at *
          go_wp2_with fail
          go_roundw
          case rel => exact ⟨a + T.2, c + 1, by go_num, by go_num, htl, by omega, (by show _ = _; rw [HN.out, HCN.out]; omega), (HK.out).alloc (HK.out).size _⟩
          case measure => simp [intOf]; omega
        have j1 : decide ((f : Int) + (X.size : Int) ≤ (a : Int)) = true := by simp; omega
        have j2 : decide ((u : Int) ≤ (a : Int) - G) = true := by simp; omega
        go_wp2_with fail
        go_loopw [17] (fun x wr => ∃ k : Nat, x = .int .i64 k ∧ k ≤ L.length ∧ Hid (∀ j t, j < k → L[j]? = some t → (t.pos : Int) ≠ a - G) ∧ Hid (Below w1.heap.size w1 wr)) (fun x _ => L.length - (intOf x).toNat)
        case atStart => exact ⟨0, rfl, Nat.zero_le _, (fun j t h _ => by omega), HB⟩
        case round =>
          obtain ⟨k, rfl, hk, HJ, HB4⟩ := hrel
          by_cases hkl : k < L.length
          case neg =>
            have i3 : decide ((k : Int) < (L.length : Int)) = false := by simp; omega
            have HS : Hid (¬ ((u : Int) ≤ a - G ∧ ∃ k ∈ L, (k.pos : Int) = a - G)) := by
              rintro ⟨-, t, ht, e⟩
              obtain ⟨j, hj, rfl⟩ := List.getElem_of_mem ht
              exact HJ.out j _ (by omega) (List.getElem?_eq_getElem hj) e
            go_wp2_with fail
            have hne := drop_ne hlt
            have HCN := hide (cnt_on (g := G) (L := L) (to_ := u) (a := a) hne HS.out)
            have htl := tok_drop_le hlt
            have hbd := tok_bounds hne
            refine (one_any N a _ (by omega) hlt).mono ?_
            rintro e w2 ⟨rfl, k2⟩
            have HK := hide ((HB4.out).trans (k2.mono (HB4.out).size))
            clear k2 hne
            rw [List.drop_drop] at HCN
            generalize M.tok ((bs N).drop a) = T at *
            go_wp2_with fail
            go_roundw
            case rel => exact ⟨a + T.2, c + 1, by go_num, by go_num, htl, by omega, (by show _ = _; rw [HN.out, HCN.out]; omega), (HK.out).alloc (HK.out).size _⟩
            case measure => simp [intOf]; omega
          have i3 : decide ((k : Int) < (L.length : Int)) = true := by simp; omega
          obtain ⟨b, o, t, rfl, ht, q1, q2, q3⟩ := (H1.out).get (HB4.out) (k := k) hkl
          have hT := (HG.out) t (List.mem_of_getElem? ht)
          by_cases hp : (t.pos : Int) = a - G
          · have i4 : ((t.pos : Int) == (a : Int) - G) = true := by simpa using hp
            have HE : Hid (cn = c) := by
              show _ = _
              have := HN.out
              rw [cnt_stop ⟨hin, t, List.mem_of_getElem? ht, hp⟩] at this
              exact this
            clear hp
            go_wp2_with fail
            go_ret3
            exact ⟨ret_iii (by rw [HE.out]), (K1.out).trans ((HB4.out).mono HZ.out)⟩
          · have i4 : ((t.pos : Int) == (a : Int) - G) = false := by simpa using hp
            have HJ' : Hid (∀ j t, j < k + 1 → L[j]? = some t → (t.pos : Int) ≠ a - G) := by
              intro j t' hj ht'
              by_cases e : j = k
              · subst e; rw [ht] at ht'; cases ht'; exact hp
              · exact HJ.out j t' (by omega) ht'
            clear hp
            go_wp2_with fail
            go_roundw
            case rel => exact ⟨k + 1, by go_num, by omega, HJ', HB4⟩
            case measure => simp [intOf]; omega
end Go.Proofs.YtkampoaceipngaaGreatDoor
