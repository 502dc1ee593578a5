/- What the document's own functions Rune and Place answer. -/
import Derived.Test.YtijikgghakhhaaaDoorFb
import Derived.Test.YtijikgghakhhaaaDoorFc
import Derived.Test.YtijikgghakhhaaaDoorBm
namespace Go.Proofs.YtijikgghakhhaaaDoor
open Go.RowKit
open M

theorem getD_bs (s : ByteArray) (k : Nat) (h : k < s.size) : (bs s).getD k 0 = s[k]'h := by
  unfold bs
  rw [List.getD_eq_getElem?_getD, List.getElem?_eq_getElem (by simpa using h)]
  rfl

theorem refRune_any (s : ByteArray) (w : World) (h : 0 < s.size) :
    Calls Tryd.prog 19 #[.string s] w fun e w' => e = .returned (.tuple #[.int .i64 (ch (bs s)), .int .i64 (sz (bs s))]) ∧ w' = w := by
  have hl := bs_len s
  have hd : dec (bs s) = Lib.decodeN s.size ((bs s).getD 0 0).toNat ((bs s).getD 1 0).toNat ((bs s).getD 2 0).toNat ((bs s).getD 3 0).toNat := by
    unfold dec; rw [if_neg (by omega), hl]
  unfold ch sz
  rw [hd, getD_bs s 0 h]
  have hA := (s[0]'h).toNat_lt
  by_cases c1 : (s[0]'h).toNat < 128
  · exact rune_c1 s w h _ _ _ _ rfl (by omega)
  by_cases c2 : (s[0]'h).toNat < 194
  · exact rune_lo s w h _ _ _ _ rfl (by omega) (by omega)
  by_cases c3 : (s[0]'h).toNat ≤ 223
  · by_cases h2 : s.size < 2
    · exact rune_s2 s w h _ _ _ _ rfl (by omega) (by omega) h2
    · rw [getD_bs s 1 (by omega)]
      exact rune_l2 s w h _ _ _ rfl (by omega) (by omega) (by omega) _ rfl
  by_cases c4 : (s[0]'h).toNat ≤ 239
  · by_cases h2 : s.size < 3
    · exact rune_s3 s w h _ _ _ _ rfl (by omega) (by omega) h2
    · rw [getD_bs s 1 (by omega), getD_bs s 2 (by omega)]
      exact rune_l3 s w h _ _ rfl (by omega) (by omega) (by omega) _ _ rfl rfl
  by_cases c5 : (s[0]'h).toNat ≤ 244
  · by_cases h2 : s.size < 4
    · exact rune_s4 s w h _ _ _ _ rfl (by omega) (by omega) h2
    · rw [getD_bs s 1 (by omega), getD_bs s 2 (by omega), getD_bs s 3 (by omega)]
      exact rune_l4 s w h _ rfl (by omega) (by omega) (by omega) _ _ _ rfl rfl rfl
  · exact rune_hi s w h _ _ _ _ rfl (by omega)

/-- Behind a byte 10 a line begins. -/
theorem LB.next {l : List UInt8} {k : Nat} (hk : k < l.length) (hb : Bd l k) (hc : ch (l.drop k) = 10) : LB l (nb (l.take (k + 1))) (k + 1) ∧ sz (l.drop k) = 1 := by
  have hne : l.drop k ≠ [] := by intro e; have := congrArg List.length e; simp at this; omega
  have h1 : sz (l.drop k) = 1 := sz_ascii hne (by have := (ch_ten hne).1 hc; omega)
  have ht := take_next hb hk
  rw [h1, hc] at ht
  have hbr : br 10 = 1 := rfl
  refine ⟨Or.inr ⟨by omega, k, ⟨by omega, hb, fun _ => ?_, fun _ => ?_⟩, rfl⟩, h1⟩
  · rw [decide_eq_true_eq]; omega
  · rw [h1, decide_eq_false_iff_not]; omega

/-- What the document's Place answers. -/
def PlaceOk (l : List UInt8) (x : Int) (e : Ending) : Prop := ∃ k b c u : Nat, Found l (fun a _ _ _ => decide ((a : Int) ≤ x)) k ∧ LB l (nb (l.take k)) b ∧ nr (l.take b) + c = nr (l.take k) ∧ nu (l.take b) + u = nu (l.take k) ∧
      e = .returned (.tuple #[.int .i64 (nb (l.take k)), .int .i64 c, .int .i64 u, .int .i64 k])

set_option maxHeartbeats 2000000 in
theorem refPlace_any (s : ByteArray) (x : Int) (w : World) (hs : s.size ≤ 1125899906842624) :
    Calls Tryd.prog 14 #[.string s, .int .i64 x] w fun e w' => PlaceOk (bs s) x e ∧ w' = w := by
  have hl := bs_len s
  go_enter Tryd.func14, Tryd.ntmps14
  go_wp2_with fail
  go_loop [8, 9, 10, 11] (fun p q r i => ∃ k b c u ln : Nat, k ≤ s.size ∧ i = .int .i64 k ∧ p = .int .i64 ln ∧ q = .int .i64 c ∧ r = .int .i64 u ∧ nb ((bs s).take k) = ln ∧ Bd (bs s) k ∧ LB (bs s) ln b ∧ nr ((bs s).take b) + c = nr ((bs s).take k) ∧ nu ((bs s).take b) + u = nu ((bs s).take k) ∧ (0 < k → (k : Int) ≤ x)) (fun _ _ _ i => s.size - (intOf i).toNat)
  case atStart => exact ⟨0, 0, 0, 0, 0, Nat.zero_le _, rfl, rfl, rfl, rfl, rfl, bd_zero _, Or.inl ⟨rfl, rfl⟩, rfl, rfl, fun h => absurd h (by omega)⟩
  case round =>
    obtain ⟨k, b, c, u, ln, hk, rfl, rfl, rfl, rfl, hln, hbd, hlb, hc, hu, hx⟩ := hrel
    have p1 := nb_le ((bs s).take k); have p2 := nr_le ((bs s).take k); have p3 := nu_le ((bs s).take k)
    rw [List.length_take, hl] at p1 p2 p3
    have b1 : ln ≤ 1125899906842624 := by omega
    have b2 : c ≤ 1125899906842624 := by omega
    have b3 : u ≤ 2251799813685248 := by omega
    have HH := hide (And.intro hln (And.intro hbd (And.intro hlb (And.intro hc (And.intro hu hx)))))
    clear hln hbd hlb hc hu hx p1 p2 p3
    by_cases hlt : k < s.size
    · have z1 : (k : Int) < (s.size : Int) := by omega
      have z2 : (k : Int) ≤ (s.size : Int) := by omega
      have z3 : (0 : Int) ≤ (k : Int) := by omega
      have hse : 0 < (s.extract k s.size).size := by rw [← bs_len, bs_drop, List.length_drop, hl]; omega
      go_wp2_with fail
      refine (refRune_any _ w hse).mono ?_
      rintro e w1 ⟨rfl, hw⟩
      rw [hw, bs_drop]
      clear hw w1
      have hne : (bs s).drop k ≠ [] := by intro e; have := congrArg List.length e; simp at this; omega
      have n1 := sz_pos hne
      have n2 := sz_le ((bs s).drop k)
      rw [List.length_drop, hl] at n2
      have n3 := sz_le4 ((bs s).drop k)
      have hcl := ch_le hne
      obtain ⟨n, en⟩ : ∃ n, sz ((bs s).drop k) = n := ⟨_, rfl⟩
      obtain ⟨q, eq⟩ : ∃ n, ch ((bs s).drop k) = n := ⟨_, rfl⟩
      rw [en] at n1 n2 n3; rw [eq] at hcl
      rw [en, eq]
      have HE := hide (And.intro en eq)
      clear en eq
      by_cases hout : x < (k : Int) + (n : Int)
      · go_wp2_with fail
        obtain ⟨hln, hbd, hlb, hc, hu, hx⟩ := HH.out
        refine bodyPost_ret (v := .tuple #[.int .i64 ln, .int .i64 c, .int .i64 u, .int .i64 k]) (by simp [results, Tryd.results14, go_sem]) rfl ⟨⟨k, b, c, u, ⟨by omega, hbd, fun h => ?_, fun h => ?_⟩, by rw [hln]; exact hlb, hc, hu, by rw [hln]⟩, rfl⟩
        · rw [decide_eq_true_eq]; exact hx h
        · rw [(HE.out).1, decide_eq_false_iff_not]; omega
      · have hun := un_le q
        have hout' : ¬ x < (k : Int) + (n : Int) := hout
        by_cases h10 : q = 10
        · have h10' : ((q : Int) == 10) = true := by rw [h10]; rfl
          have HU := hide h10
          clear h10
          go_wp2_with fail
          refine (refUnits_any q w).mono ?_
          rintro e w1 ⟨rfl, hw⟩
          rw [hw]
          clear hw w1
          go_wp2_with fail
          go_round
          case measure => simp [intOf]; omega
          case rel =>
            obtain ⟨hln, hbd, hlb, hc, hu, hx⟩ := HH.out
            obtain ⟨en, eq⟩ := HE.out
            have hnx := LB.next (by omega : k < (bs s).length) hbd (by rw [eq]; exact HU.out)
            have hz1 : n = 1 := by rw [← en]; exact hnx.2
            have ht := take_next hbd (by omega : k < (bs s).length)
            rw [en, eq, HU.out] at ht
            have hb' := bd_next hbd
            rw [en] at hb'
            have hbr : br 10 = 1 := rfl
            subst hz1
            refine ⟨k + 1, k + 1, 0, 0, ln + 1, by omega, by go_num, by go_num, rfl, rfl, by omega, hb', ?_, by omega, by omega, fun _ => by omega⟩
            have := hnx.1
            rwa [show nb ((bs s).take (k + 1)) = ln + 1 from by omega] at this
        · have h10' : ((q : Int) == 10) = false := by rw [beq_eq_false_iff_ne]; omega
          have HU := hide h10
          clear h10
          go_wp2_with fail
          refine (refUnits_any q w).mono ?_
          rintro e w1 ⟨rfl, hw⟩
          rw [hw]
          clear hw w1
          go_wp2_with fail
          go_round
          case measure => simp [intOf]; omega
          case rel =>
            obtain ⟨hln, hbd, hlb, hc, hu, hx⟩ := HH.out
            obtain ⟨en, eq⟩ := HE.out
            have ht := take_next hbd (by omega : k < (bs s).length)
            rw [en, eq] at ht
            have hb' := bd_next hbd
            rw [en] at hb'
            have hbr : br q = 0 := if_neg HU.out
            exact ⟨k + n, b, c + 1, u + un q, ln, by omega, by go_num, rfl, by go_num, by go_num, by omega, hb', hlb, by omega, by omega, fun _ => by omega⟩
    · have z1 : ¬ (k : Int) < (s.size : Int) := by omega
      go_wp2_with fail
      obtain ⟨hln, hbd, hlb, hc, hu, hx⟩ := HH.out
      refine bodyPost_ret (v := .tuple #[.int .i64 ln, .int .i64 c, .int .i64 u, .int .i64 k]) (by simp [results, Tryd.results14, go_sem]) rfl ⟨⟨k, b, c, u, ⟨by omega, hbd, fun h => ?_, fun h => ?_⟩, by rw [hln]; exact hlb, hc, hu, by rw [hln]⟩, rfl⟩
      · rw [decide_eq_true_eq]; exact hx h
      · omega
end Go.Proofs.YtijikgghakhhaaaDoor
