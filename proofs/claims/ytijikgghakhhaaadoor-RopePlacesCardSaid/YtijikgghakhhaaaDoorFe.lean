/- What the document's own function Find answers. -/
import Derived.Test.YtijikgghakhhaaaDoorFd
namespace Go.Proofs.YtijikgghakhhaaaDoor
open Go.RowKit
open M

/-- It fits up to some place. -/
theorem found_exists (l : List UInt8) (fit : Nat → Nat → Nat → Nat → Bool) : ∃ k, Found l fit k := by
  have main : ∀ n k, l.length - k ≤ n → k ≤ l.length → Bd l k → (0 < k → fit k (nb (l.take k)) (nr (l.take k)) (nu (l.take k)) = true) → ∃ k, Found l fit k := by
    intro n
    induction n with
    | zero => intro k h1 h2 hb hy; exact ⟨k, h2, hb, hy, fun h => by omega⟩
    | succ n ih =>
      intro k h1 h2 hb hy
      by_cases hk : k < l.length
      · have hne : l.drop k ≠ [] := by intro e; have := congrArg List.length e; simp at this; omega
        have hp := sz_pos hne
        have hz := sz_le (l.drop k)
        rw [List.length_drop] at hz
        cases hf : fit (k + sz (l.drop k)) (nb (l.take (k + sz (l.drop k)))) (nr (l.take (k + sz (l.drop k)))) (nu (l.take (k + sz (l.drop k)))) with
        | false => exact ⟨k, h2, hb, hy, fun _ => hf⟩
        | true => exact ih (k + sz (l.drop k)) (by omega) (by omega) (bd_next hb) (fun _ => hf)
      · exact ⟨k, h2, hb, hy, fun h => absurd h hk⟩
  exact main l.length 0 (by omega) (Nat.zero_le _) (bd_zero _) (fun h => absurd h (by omega))

/-- By characters, or by units. -/
def cm (cb : Bool) (l : List UInt8) : Nat := if cb then nr l else nu l
def cu (cb : Bool) (q : Nat) : Nat := if cb then 1 else un q
theorem cu_le (cb : Bool) (q : Nat) : 1 ≤ cu cb q ∧ cu cb q ≤ 2 := by unfold cu; have := un_le q; split <;> omega
theorem cm_next {l : List UInt8} {k : Nat} (cb : Bool) (h : Bd l k) (hk : k < l.length) : cm cb (l.take (k + sz (l.drop k))) = cm cb (l.take k) + cu cb (ch (l.drop k)) := by
  have := take_next h hk
  unfold cm cu
  cases cb
  · simp only [Bool.false_eq_true, if_false]; exact this.2.2
  · simp only [if_true]; exact this.2.1
theorem cm_mono {l : List UInt8} {j k : Nat} (cb : Bool) (hj : Bd l j) (h : j ≤ k) (hk : k ≤ l.length) : cm cb (l.take j) ≤ cm cb (l.take k) := by
  have := take_mono hj h hk
  unfold cm
  cases cb
  · simp only [Bool.false_eq_true, if_false]; exact this.2.2
  · simp only [if_true]; exact this.2.1

/-- At a byte of ASCII a text may be cut. -/
theorem bd_ascii {l : List UInt8} {q : Nat} (h : (l.getD q 0).toNat < 128) : Bd l q := fun p hp => by
  by_cases hc : p + sz (l.drop p) ≤ q
  · exact hc
  · exfalso
    have h2 := ((multi (l := l.drop p) (by omega)).2.1 (q - p) (by omega) (by omega)).1
    rw [getD_drop, show p + (q - p) = q from by omega] at h2
    omega

/-- Where the bytes 10 are counted out, a line begins. -/
theorem LB.of_count {l : List UInt8} {k L : Nat} (hk : k ≤ l.length) (hn : nb (l.take k) = L) (h : (L = 0 ∧ k = 0) ∨ (0 < k ∧ (l.getD (k - 1) 0).toNat = 10)) : LB l L k := by
  rcases h with h | ⟨h0, h10⟩
  · exact Or.inl h
  · have hbd : Bd l (k - 1) := bd_ascii (by omega)
    have hne : l.drop (k - 1) ≠ [] := by intro e; have := congrArg List.length e; simp at this; omega
    have hc : ch (l.drop (k - 1)) = 10 := (ch_ten hne).2 (by rw [getD_drop]; exact h10)
    have := (LB.next (by omega) hbd hc).1
    rw [show k - 1 + 1 = k from by omega, hn] at this
    exact this

/-- What Find comes to at a line that is there. -/
def FindOk (l : List UInt8) (cb : Bool) (L N z : Nat) : Prop := ∃ b k, LB l L b ∧ LE l (L : Int) k ∧
    ((cm cb (l.take k) ≤ N + cm cb (l.take b) ∧ z = k) ∨ (N + cm cb (l.take b) < cm cb (l.take k) ∧ Bd l z ∧ z < l.length ∧ cm cb (l.take z) ≤ N + cm cb (l.take b) ∧ N + cm cb (l.take b) < cm cb (l.take (z + sz (l.drop z)))))

theorem find_end {l : List UInt8} {cb : Bool} {L N b k : Nat} (hb : LB l L b) (hk : k ≤ l.length) (hbd : Bd l k) (hn : nb (l.take k) = L) (hH : cm cb (l.take k) ≤ N + cm cb (l.take b)) (he : k = l.length ∨ (k < l.length ∧ ch (l.drop k) = 10)) : FindOk l cb L N k := by
  refine ⟨b, k, hb, ⟨hk, hbd, fun _ => ?_, fun h => ?_⟩, Or.inl ⟨hH, rfl⟩⟩
  · rw [decide_eq_true_eq]; omega
  · rcases he with he | ⟨_, hc⟩
    · omega
    · have ht := (take_next hbd h).1
      rw [hc] at ht
      have : br 10 = 1 := rfl
      rw [decide_eq_false_iff_not]; omega
theorem find_mid {l : List UInt8} {cb : Bool} {L N b k : Nat} (hb : LB l L b) (hk : k < l.length) (hbd : Bd l k) (hn : nb (l.take k) = L) (hH : cm cb (l.take k) ≤ N + cm cb (l.take b)) (hc : ch (l.drop k) ≠ 10)
    (hu : N + cm cb (l.take b) < cm cb (l.take k) + cu cb (ch (l.drop k))) : FindOk l cb L N k := by
  obtain ⟨e, he⟩ := found_exists l (fun _ b _ _ => decide ((b : Int) ≤ (L : Int)))
  have he' : LE l (L : Int) e := he
  have hbt := between (by omega) hbd (by rw [hn]; exact hb) (by rw [hn]; exact he')
  have hlt : k < e := by
    by_cases h : k = e
    · exfalso
      have := (he'.ten (by omega)).2.2
      rw [← h] at this
      exact hc this
    · omega
  have h1 := he.bd k hlt
  have h2 := cm_next cb hbd hk
  have h3 := cm_mono cb (bd_next hbd) h1 he.le
  refine ⟨b, e, hb, he', Or.inr ⟨by omega, hbd, hk, hH, by omega⟩⟩

set_option maxHeartbeats 400000 in
theorem refFind_neg (s : ByteArray) (line n : Int) (cb : Bool) (w : World) (h : line < 0) :
    Calls Tryd.prog 17 #[.string s, .int .i64 line, .int .i64 n, .bool cb] w fun e w' => e = .returned (.int .i64 0) ∧ w' = w := by
  go_enter Tryd.func17, Tryd.ntmps17
  go_wp2_with fail
  go_ret
  exact ⟨rfl, rfl⟩

set_option maxHeartbeats 400000 in
theorem refFind_out (s : ByteArray) (line n : Int) (cb : Bool) (w : World) (hs : s.size ≤ 1125899906842624) (h0 : ¬ line < 0) (h : ((nb (bs s) + 1 : Nat) : Int) ≤ line) :
    Calls Tryd.prog 17 #[.string s, .int .i64 line, .int .i64 n, .bool cb] w fun e w' => e = .returned (.int .i64 s.size) ∧ w' = w := by
  go_enter Tryd.func17, Tryd.ntmps17
  go_wp2_with fail
  refine (refLines_any s w (by omega)).mono ?_
  rintro e w1 ⟨rfl, hw⟩
  rw [hw]
  clear hw w1
  go_wp2_with fail
  go_ret
  exact ⟨rfl, rfl⟩

set_option maxHeartbeats 2000000 in
theorem refFind_in (s : ByteArray) (L N : Nat) (cb : Bool) (w : World) (hs : s.size ≤ 1125899906842624) (h : L ≤ nb (bs s)) (hN : N ≤ 9223372036854775807) :
    Calls Tryd.prog 17 #[.string s, .int .i64 L, .int .i64 N, .bool cb] w fun e w' => (∃ z, FindOk (bs s) cb L N z ∧ e = .returned (.int .i64 z)) ∧ w' = w := by
  have hl := bs_len s
  have hn := nb_le (bs s)
  have z0 : ¬ (L : Int) < 0 := by omega
  have z2 : ¬ (nb (bs s) : Int) + 1 ≤ (L : Int) := by omega
  go_enter Tryd.func17, Tryd.ntmps17
  go_wp2_with fail
  refine (refLines_any s w (by omega)).mono ?_
  rintro e w1 ⟨rfl, hw⟩
  rw [hw]
  clear hw w1
  go_wp2_with fail
  go_loop [1, 10] (fun ln i => ∃ k y : Nat, k ≤ s.size ∧ ln = .int .i64 y ∧ i = .int .i64 k ∧ nb ((bs s).take k) + y = L ∧ (y = 0 → (L = 0 ∧ k = 0) ∨ (0 < k ∧ ((bs s).getD (k - 1) 0).toNat = 10))) (fun _ i => s.size - (intOf i).toNat)
  case atStart => exact ⟨0, L, Nat.zero_le _, rfl, rfl, by simp [nb], fun h => Or.inl ⟨h, rfl⟩⟩
  case round =>
    obtain ⟨k, y, hk, rfl, rfl, hy, hz⟩ := hrel
    have HY := hide (And.intro hy hz)
    by_cases hy0 : 0 < y
    · have hlt : k < s.size := by
        by_cases hlt : k < s.size
        · exact hlt
        · exfalso
          rw [List.take_of_length_le (by omega)] at hy
          omega
      have by' : y ≤ 1125899906842624 := by omega
      clear hy hz
      have HS := hide (nb_snoc s k hlt)
      have HG := hide (getD_bs s k hlt)
      by_cases h10 : ((s[k]'hlt).toNat : Int) = 10
      · have H10 := hide h10
        have h10' : (((s[k]'hlt).toNat : Int) == 10) = true := by rw [h10]; rfl
        clear h10
        go_wp2_with fail
        go_round
        case measure => simp [intOf]; omega
        case rel =>
          obtain ⟨hy, hz⟩ := HY.out
          have h1 := HS.out
          rw [if_pos H10.out] at h1
          refine ⟨k + 1, y - 1, by omega, by rw [Int.ofNat_sub (by omega)]; rfl, by go_num, by omega, fun _ => Or.inr ⟨by omega, ?_⟩⟩
          rw [show k + 1 - 1 = k from by omega, HG.out]
          have := H10.out
          omega
      · have H10 := hide h10
        have h10' : (((s[k]'hlt).toNat : Int) == 10) = false := by rw [beq_eq_false_iff_ne]; exact h10
        clear h10
        go_wp2_with fail
        go_round
        case measure => simp [intOf]; omega
        case rel =>
          obtain ⟨hy, hz⟩ := HY.out
          have h1 := HS.out
          rw [if_neg H10.out] at h1
          exact ⟨k + 1, y, by omega, rfl, by go_num, by omega, fun h => by omega⟩
    · have hy1 : y = 0 := by omega
      subst hy1
      have hlb : LB (bs s) L k := LB.of_count (by omega) (by omega) (hz rfl)
      have hnb : nb ((bs s).take k) = L := by omega
      have HB := hide (And.intro hlb hnb)
      clear hy hz hlb hnb HY
      go_wp2_with fail
      go_loop [2, 10] (fun hv i => ∃ j H : Nat, j ≤ s.size ∧ hv = .int .i64 H ∧ i = .int .i64 j ∧ H ≤ N ∧ Bd (bs s) j ∧ nb ((bs s).take j) = L ∧ H + cm cb ((bs s).take j) = N + cm cb ((bs s).take k)) (fun _ i => s.size - (intOf i).toNat)
      case atStart =>
        refine ⟨k, N, hk, rfl, rfl, Nat.le_refl _, ((HB.out).1.facts h).2.1, (HB.out).2, rfl⟩
      case round =>
        obtain ⟨j, H, hj, rfl, rfl, hHN, hbd, hnj, hH⟩ := hrel
        have HJ := hide (And.intro hbd (And.intro hnj hH))
        clear hbd hnj hH
        have bH : H ≤ 9223372036854775807 := by omega
        by_cases hlt : j < s.size
        · have z4 : (j : Int) < (s.size : Int) := by omega
          have z5 : (j : Int) ≤ (s.size : Int) := by omega
          have HG := hide (getD_bs s j hlt)
          have hne : (bs s).drop j ≠ [] := by intro e; have := congrArg List.length e; simp at this; omega
          by_cases h10 : ((s[j]'hlt).toNat : Int) = 10
          · have H10 := hide h10
            have h10' : (((s[j]'hlt).toNat : Int) == 10) = true := by rw [h10]; rfl
            have h10'' : (((s[j]'hlt).toNat : Int) != 10) = false := by rw [h10]; rfl
            clear h10
            go_wp2_with fail
            go_ret
            obtain ⟨hbd, hnj, hH⟩ := HJ.out
            refine ⟨⟨j, find_end (HB.out).1 (by omega) hbd hnj (by omega) (Or.inr ⟨by omega, (ch_ten hne).2 ?_⟩), rfl⟩, rfl⟩
            rw [getD_drop, Nat.add_zero, HG.out]
            have := H10.out
            omega
          · have H10 := hide h10
            have h10' : (((s[j]'hlt).toNat : Int) == 10) = false := by rw [beq_eq_false_iff_ne]; exact h10
            have h10'' : (((s[j]'hlt).toNat : Int) != 10) = true := by rw [bne_iff_ne]; exact h10
            clear h10
            have hse : 0 < (s.extract j s.size).size := by rw [← bs_len, bs_drop, List.length_drop, hl]; omega
            go_wp2_with fail
            refine (refRune_any _ w hse).mono ?_
            rintro e w1 ⟨rfl, hw⟩
            rw [hw, bs_drop]
            clear hw w1
            have n1 := sz_pos hne
            have n2 := sz_le ((bs s).drop j)
            rw [List.length_drop, hl] at n2
            have n3 := sz_le4 ((bs s).drop j)
            have hnt : ch ((bs s).drop j) ≠ 10 := by
              intro hc
              have := (ch_ten hne).1 hc
              rw [getD_drop, Nat.add_zero, HG.out] at this
              exact H10.out (by omega)
            obtain ⟨n, en⟩ : ∃ n, sz ((bs s).drop j) = n := ⟨_, rfl⟩
            obtain ⟨q, eq⟩ : ∃ n, ch ((bs s).drop j) = n := ⟨_, rfl⟩
            rw [en] at n1 n2 n3
            rw [en, eq]
            have HE := hide (And.intro en (And.intro eq hnt))
            clear en eq hnt
            go_wp2_with fail
            refine (refUnits_any q w).mono ?_
            rintro e w1 ⟨rfl, hw⟩
            rw [hw]
            clear hw w1
            have hun := un_le q
            obtain ⟨hu1, hu2⟩ := hun
            by_cases hcu : H < cu cb q
            · have fin : FindOk (bs s) cb L N j := by
                obtain ⟨hbd, hnj, hH⟩ := HJ.out
                obtain ⟨en, eq, hnt⟩ := HE.out
                exact find_mid (HB.out).1 (by omega) hbd hnj (by omega) hnt (by rw [eq]; omega)
              have Hfin := hide fin
              clear fin
              cases cb with
              | false =>
                have hcu' : (H : Int) < (un q : Int) := by have : cu false q = un q := rfl; omega
                clear hcu
                go_wp2_with fail
                go_ret
                exact ⟨⟨j, Hfin.out, rfl⟩, rfl⟩
              | true =>
                have hcu' : (H : Int) < 1 := by have : cu true q = 1 := rfl; omega
                clear hcu
                go_wp2_with fail
                go_ret
                exact ⟨⟨j, Hfin.out, rfl⟩, rfl⟩
            · have fin : Bd (bs s) (j + n) ∧ nb ((bs s).take (j + n)) = L ∧ cm cb ((bs s).take (j + n)) = cm cb ((bs s).take j) + cu cb q := by
                obtain ⟨hbd, hnj, hH⟩ := HJ.out
                obtain ⟨en, eq, hnt⟩ := HE.out
                have h1 := bd_next hbd
                have h2 := (take_next hbd (by omega : j < (bs s).length)).1
                have h3 := cm_next cb hbd (by omega : j < (bs s).length)
                rw [en] at h1 h2 h3
                rw [eq] at h2 h3
                have h4 : br q = 0 := if_neg (by rw [← eq]; exact hnt)
                exact ⟨h1, by omega, h3⟩
              have Hfin := hide fin
              clear fin
              cases cb with
              | false =>
                have hcu' : ¬ (H : Int) < (un q : Int) := by have : cu false q = un q := rfl; omega
                clear hcu
                go_wp2_with fail
                go_round
                case measure => simp [intOf]; omega
                case rel =>
                  obtain ⟨hbd, hnj, hH⟩ := HJ.out
                  obtain ⟨f1, f2, f3⟩ := Hfin.out
                  have : cu false q = un q := rfl
                  refine ⟨j + n, H - un q, by omega, by rw [Int.ofNat_sub (by omega)], by go_num, by omega, f1, f2, by omega⟩
              | true =>
                have hcu' : ¬ (H : Int) < 1 := by have : cu true q = 1 := rfl; omega
                clear hcu
                go_wp2_with fail
                go_round
                case measure => simp [intOf]; omega
                case rel =>
                  obtain ⟨hbd, hnj, hH⟩ := HJ.out
                  obtain ⟨f1, f2, f3⟩ := Hfin.out
                  have : cu true q = 1 := rfl
                  refine ⟨j + n, H - 1, by omega, by rw [Int.ofNat_sub (by omega)]; rfl, by go_num, by omega, f1, f2, by omega⟩
        · have z4 : ¬ (j : Int) < (s.size : Int) := by omega
          go_wp2_with fail
          go_ret
          obtain ⟨hbd, hnj, hH⟩ := HJ.out
          exact ⟨⟨j, find_end (HB.out).1 (by omega) hbd hnj (by omega) (Or.inl (by omega)), rfl⟩, rfl⟩

theorem same_units {l : List UInt8} {L N z y : Nat} (h1 : At' l (fun _ _ _ d => d) L N z) (h2 : FindOk l false L N y) : z = y := by
  obtain ⟨b, k, hb, hk, h⟩ := h1
  obtain ⟨b', k', hb', hk', h'⟩ := h2
  obtain rfl := LB.unique hb hb'
  obtain rfl := LE.unique hk hk'
  dsimp only at h
  have e : ∀ m, cm false m = nu m := fun _ => rfl
  simp only [e] at h'
  rcases h with ⟨h, rfl⟩ | ⟨h, hf⟩
  · rcases h' with ⟨_, rfl⟩ | ⟨h', _⟩
    · rfl
    · omega
  · rcases h' with ⟨h', _⟩ | ⟨_, q1, q2, q3, q4⟩
    · omega
    · exact found_unique (mono_nu l _) hf ⟨by omega, q1, fun _ => by rw [decide_eq_true_eq]; omega, fun _ => by rw [decide_eq_false_iff_not]; omega⟩
theorem same_runes {l : List UInt8} {L N z y : Nat} (h1 : At' l (fun _ _ c _ => c) L N z) (h2 : FindOk l true L N y) : z = y := by
  obtain ⟨b, k, hb, hk, h⟩ := h1
  obtain ⟨b', k', hb', hk', h'⟩ := h2
  obtain rfl := LB.unique hb hb'
  obtain rfl := LE.unique hk hk'
  dsimp only at h
  have e : ∀ m, cm true m = nr m := fun _ => rfl
  simp only [e] at h'
  rcases h with ⟨h, rfl⟩ | ⟨h, hf⟩
  · rcases h' with ⟨_, rfl⟩ | ⟨h', _⟩
    · rfl
    · omega
  · rcases h' with ⟨h', _⟩ | ⟨_, q1, q2, q3, q4⟩
    · omega
    · exact found_unique (mono_nr l _) hf ⟨by omega, q1, fun _ => by rw [decide_eq_true_eq]; omega, fun _ => by rw [decide_eq_false_iff_not]; omega⟩

/-- What Find answers, at any line: the same as At, and as RuneAt. -/
theorem refFind_any (s : ByteArray) (line n : Int) (cb : Bool) (w : World) (z : Nat) (hs : s.size ≤ 1125899906842624) (h0 : 0 ≤ n) (hn : n ≤ 9223372036854775807)
    (hz : Tell (bs s) (fun _ _ c d => if cb then c else d) line n z) :
    Calls Tryd.prog 17 #[.string s, .int .i64 line, .int .i64 n, .bool cb] w fun e w' => e = .returned (.int .i64 z) ∧ w' = w := by
  rcases hz with ⟨h, rfl⟩ | ⟨h, rfl⟩ | ⟨h1, h2, hat⟩
  · exact refFind_neg s line n cb w h
  · rw [bs_len]; exact refFind_out s line n cb w hs (by omega) h
  · obtain ⟨L, rfl⟩ := Int.eq_ofNat_of_zero_le h1
    obtain ⟨N, rfl⟩ := Int.eq_ofNat_of_zero_le h0
    rw [Int.toNat_natCast] at h2 hat
    rw [show (max (N : Int) 0).toNat = N from by omega] at hat
    refine (refFind_in s L N cb w hs h2 (by omega)).mono ?_
    rintro e w' ⟨⟨y, hy, rfl⟩, rfl⟩
    refine ⟨?_, rfl⟩
    cases cb with
    | false => rw [same_units hat hy]
    | true => rw [same_runes hat hy]
end Go.Proofs.YtijikgghakhhaaaDoor
