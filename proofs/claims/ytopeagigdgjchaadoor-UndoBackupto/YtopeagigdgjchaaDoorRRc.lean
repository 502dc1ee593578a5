/- What Replace gives. -/
import Derived.Test.YtopeagigdgjchaaDoorRRb
namespace Go.Proofs.YtopeagigdgjchaaDoor.Rp
open Go.RowKit
open M

/-- What comes of a text when a piece is replaced. -/
def repl (l m : List UInt8) (f t : Nat) : List UInt8 := l.take f ++ m ++ l.drop t
theorem repl_len {l m : List UInt8} {f t : Nat} (hft : f ≤ t) (ht : t ≤ l.length) : (repl l m f t).length = f + m.length + (l.length - t) := by
  unfold repl; simp only [List.length_append, List.length_take, List.length_drop]; omega

theorem repl_bdA {l m : List UInt8} {f t a : Nat} (hf : f ≤ l.length) (ha : a ≤ f - 3) (hb : Bd l a) : Bd (repl l m f t) a := fun p hp => by
  by_cases hc : p + sz ((repl l m f t).drop p) ≤ a
  · exact hc
  · exfalso
    have h4 := sz_le4 ((repl l m f t).drop p)
    have e : (repl l m f t).drop p = (l.take f).drop p ++ (m ++ l.drop t) := by
      unfold repl
      rw [List.append_assoc, List.drop_append_of_le_length (by rw [List.length_take]; omega)]
    have hne : (l.take f).drop p ≠ [] := by intro h; have := congrArg List.length h; simp at this; omega
    have hd := dec_prefix (a := (l.take f).drop p) (b := m ++ l.drop t) hne (by rw [← e, List.length_drop, List.length_take]; omega)
    rw [← e] at hd
    have hz : sz ((l.take f).drop p) = sz ((repl l m f t).drop p) := congrArg Prod.snd hd
    have e2 : l.drop p = (l.take f).drop p ++ l.drop f := by
      conv => lhs; rw [← List.take_append_drop f l]
      rw [List.drop_append_of_le_length (by rw [List.length_take]; omega)]
    have hd2 : dec (l.drop p) = dec ((l.take f).drop p) := by rw [e2]; exact dec_append_of_multi (by omega)
    have hz2 : sz (l.drop p) = sz ((l.take f).drop p) := congrArg Prod.snd hd2
    have := hb p hp
    omega

theorem repl_bdB {l m : List UInt8} {f t b : Nat} (hft : f ≤ t) (ht : t ≤ l.length) (hb0 : b ≤ l.length) (hb1 : min l.length (t + 3) ≤ b) (hb : Bd l b) : Bd (repl l m f t) (f + m.length + (b - t)) := fun p hp => by
  have hlen := repl_len (m := m) hft ht
  have hle := sz_le ((repl l m f t).drop p)
  rw [List.length_drop] at hle
  by_cases hc : p + sz ((repl l m f t).drop p) ≤ f + m.length + (b - t)
  · exact hc
  · exfalso
    have h4 := sz_le4 ((repl l m f t).drop p)
    by_cases hbl : b = l.length
    · omega
    · have e : (repl l m f t).drop p = l.drop (t + (p - (f + m.length))) := by
        unfold repl
        rw [List.drop_append, List.drop_eq_nil_of_le (by simp; omega), List.nil_append, List.drop_drop]
        congr 1
        simp; omega
      have := hb (t + (p - (f + m.length))) (by omega)
      rw [e] at hc
      omega

theorem repl_parts {l m : List UInt8} {f t a b : Nat} (ha : a ≤ f) (_hft : f ≤ t) (htb : t ≤ b) (hb : b ≤ l.length) :
    l.take a ++ ((l.take f).drop a ++ m ++ (l.take b).drop t) ++ l.drop b = repl l m f t := by
  have e1 : l.take a ++ (l.take f).drop a = l.take f := by
    have := List.take_append_drop a (l.take f)
    rwa [List.take_take, Nat.min_eq_left ha] at this
  have e2 : (l.take b).drop t ++ l.drop b = l.drop t := by
    have h := List.take_append_drop b l
    conv => rhs; rw [← h]
    rw [List.drop_append_of_le_length (by rw [List.length_take]; omega)]
  have e3 : l.take a ++ ((l.take f).drop a ++ m ++ (l.take b).drop t) ++ l.drop b = (l.take a ++ (l.take f).drop a) ++ m ++ ((l.take b).drop t ++ l.drop b) := by simp only [List.append_assoc]
  rw [e3, e1, e2]
  rfl

theorem cut_join {l : List UInt8} {a b c : Nat} (h1 : a ≤ b) (h2 : b ≤ c) (h3 : c ≤ l.length) : (l.take b).drop a ++ (l.take c).drop b = (l.take c).drop a := by
  have e : l.take b = (l.take c).take b := by rw [List.take_take, Nat.min_eq_left h2]
  rw [e]
  conv => rhs; rw [← List.take_append_drop b (l.take c)]
  rw [List.drop_append_of_le_length (by simp; omega)]

theorem bs_append (a b : ByteArray) : bs (a ++ b) = bs a ++ bs b := by
  unfold bs; rw [ByteArray.data_append, Array.toList_append]

set_option maxHeartbeats 400000 in
theorem replace_no (r : Nat) (l : List UInt8) (x y : Int) (m : ByteArray) (w : World) (k : IsR w r l) (h : hasB l.length x y = false) :
    Calls Tryd.prog 30 #[.pointer (some ⟨r, 0, none⟩), .int .i64 x, .int .i64 y, .string m] w fun e w' => e = .returned (.tuple #[.pointer none, .iface 64 (.int .i64 1)]) ∧ Below w.heap.size w w' := by
  have hc := has_any r l x y w k
  rw [h] at hc
  have Hc := hide hc
  clear hc h k
  go_enter Tryd.func30, Tryd.ntmps30
  go_wp2_with fail
  refine (Hc.out).mono ?_
  rintro e w1 ⟨rfl, hb1⟩
  go_wp2_with fail
  go_ret2
  exact ⟨rfl, hb1⟩

set_option maxHeartbeats 2000000 in
theorem replace_yes (r : Nat) (l : List UInt8) (f t : Nat) (m : ByteArray) (w : World) (hT : Tabs w) (k : IsR w r l) (hft : f ≤ t) (ht : t ≤ l.length) (hs : l.length ≤ 562949953421312) (hm : m.size ≤ 562949953421312) :
    Calls Tryd.prog 30 #[.pointer (some ⟨r, 0, none⟩), .int .i64 f, .int .i64 t, .string m] w fun e w' => ∃ q, e = .returned (.tuple #[.pointer (some ⟨q, 0, none⟩), .nilIface]) ∧ IsR w' q (repl l (bs m) f t) ∧ Below w.heap.size w w' := by
  have hc := has_any r l f t w k
  rw [show hasB l.length f t = true from by simp [hasB]; omega] at hc
  have Hc := hide hc
  have Hk := hide k
  clear hc k
  have z1 : (f : Int) ≤ 562949953421312 := by omega
  have z2 : (t : Int) ≤ 562949953421312 := by omega
  have z3 : (0 : Int) ≤ (f : Int) := by omega
  obtain ⟨low, hlow⟩ : ∃ x, f - 3 = x := ⟨_, rfl⟩
  obtain ⟨high, hhigh⟩ : ∃ x, min l.length (t + 3) = x := ⟨_, rfl⟩
  have elow : max 0 ((f : Int) - 3) = (low : Int) := by omega
  have ehigh : min (l.length : Int) ((t : Int) + 3) = (high : Int) := by omega
  have Hlh := hide (And.intro hlow hhigh)
  have bl : low ≤ f := by omega
  have bh : t ≤ high := by omega
  have bh2 : high ≤ l.length := by omega
  clear hlow hhigh
  go_enter Tryd.func30, Tryd.ntmps30
  go_wp2_with fail
  refine (Hc.out).mono ?_
  rintro e w1 ⟨rfl, hb1⟩
  have K1 := hide ((Hk.out).below hb1)
  go_wp2_with fail
  refine (len_any r l w1 K1.out).mono ?_
  rintro e w2 ⟨rfl, hb2⟩
  have B2 : Below w.heap.size w w2 := hb1.trans (hb2.mono hb1.size)
  obtain ⟨v, hcell, ot, hr⟩ := ((Hk.out).below B2).cell
  have K2 := hide (And.intro ((Hk.out).below B2) ot)
  clear ot
  go_wp2_with fail
  refine (head_any v l low w2 (K2.out).2 (by omega) (by omega)).mono ?_
  rintro e w3 ⟨va, sa, a, rfl, ha, hba, hoa, hea, hb3⟩
  have hcell3 := kcb hb3 hr hcell
  have hr3 : r < w3.heap.size := by have := hb3.size; omega
  have HA := hide (And.intro hba (And.intro hoa hea))
  clear hba hoa hea hcell
  go_wp2_with fail
  refine (tail_any v l high w3 ((K2.out).2.below hb3) bh2 (by omega)).mono ?_
  rintro e w4 ⟨vb, sb, b, rfl, hb0, hb1', hbb, hob, heb, hb4⟩
  have B4 : Below w2.heap.size w2 w4 := hb3.trans (hb4.mono hb3.size)
  have HBB := hide (And.intro hbb (And.intro hob heb))
  clear hbb hob heb hcell3
  go_wp2_with fail
  refine (text_yes r l low f w4 ((K2.out).1.below B4) bl (by omega) (by omega) (by omega)).mono ?_
  rintro e w5 ⟨rfl, hb5⟩
  have B5 : Below w2.heap.size w2 w5 := B4.trans (hb5.mono B4.size)
  obtain ⟨s1, es1⟩ : ∃ s1 : ByteArray, ⟨((l.take f).drop low).toArray⟩ = s1 := ⟨_, rfl⟩
  have bs1 : bs s1 = (l.take f).drop low := by rw [← es1]; simp [bs]
  have ls1 : s1.size ≤ 562949953421312 := by rw [← bs_len, bs1, List.length_drop, List.length_take]; omega
  have lsa : sa.size ≤ 562949953421312 := by rw [← bs_len, (HA.out).2.2, List.length_drop, List.length_take]; omega
  have lsb : sb.size ≤ 562949953421312 := by rw [← bs_len, (HBB.out).2.2, List.length_drop, List.length_take]; omega
  rw [es1]
  have Hs1 := hide bs1
  clear es1 bs1
  have w1' : ¬ 9223372036854775807 < ((sa.size + s1.size : Nat) : Int) := by omega
  go_wp2_with fail
  refine (text_yes r l t high w5 ((K2.out).1.below B5) bh bh2 (by omega) (by have := (Hlh.out).2; omega)).mono ?_
  rintro e w6 ⟨rfl, hb6⟩
  have B6 : Below w2.heap.size w2 w6 := B5.trans (hb6.mono B5.size)
  obtain ⟨s2, es2⟩ : ∃ s1 : ByteArray, ⟨((l.take high).drop t).toArray⟩ = s1 := ⟨_, rfl⟩
  have bs2 : bs s2 = (l.take high).drop t := by rw [← es2]; simp [bs]
  have ls2 : s2.size ≤ 562949953421312 := by rw [← bs_len, bs2, List.length_drop, List.length_take]; omega
  rw [es2]
  have Hs2 := hide bs2
  clear es2 bs2
  go_wp2_with fail
  obtain ⟨mid, emid⟩ : ∃ mid : ByteArray, sa ++ s1 ++ m ++ s2 ++ sb = mid := ⟨_, rfl⟩
  rw [emid]
  have bmid : bs mid = (l.take f).drop a ++ bs m ++ (l.take b).drop t := by
    rw [← emid, bs_append, bs_append, bs_append, bs_append, Hs1.out, Hs2.out, (HA.out).2.2, (HBB.out).2.2, cut_join ha bl (by omega), List.append_assoc, List.append_assoc, cut_join bh hb0 hb1', ← List.append_assoc]
  have lmid : mid.size = (f - a) + m.size + (b - t) := by
    rw [← bs_len, bmid]
    simp only [List.length_append, List.length_drop, List.length_take, bs_len]
    omega
  have Bw6 : Below w.heap.size w w6 := B2.trans (B6.mono B2.size)
  refine (build_any mid w6 (hT.below Bw6) (by omega)).mono ?_
  rintro e w7 ⟨vm, rfl, tm, hb7⟩
  have H7 := hide (And.intro tm bmid)
  clear tm bmid emid
  go_wp2_with fail
  have hrl := repl_len (m := bs m) hft ht
  rw [bs_len] at hrl
  have hlow3 : a ≤ f - 3 := by have := (Hlh.out).1; omega
  have hA := repl_bdA (l := l) (m := bs m) (t := t) (by omega) hlow3 (HA.out).1
  have hB := repl_bdB (m := bs m) hft ht hb1' (by have := (Hlh.out).2; omega) (HBB.out).1
  have hP := repl_parts (l := l) (m := bs m) (f := f) (t := t) (a := a) (b := b) (by omega) hft (by omega) hb1'
  rw [← (H7.out).2] at hP
  have l1 : (l.take a ++ bs mid).length = f + m.size + (b - t) := by
    rw [List.length_append, List.length_take, bs_len]; omega
  have j1 : Bd (l.take a ++ bs mid) (l.take a).length := by
    have e : l.take a ++ bs mid = (repl l (bs m) f t).take (l.take a ++ bs mid).length := by rw [← hP, List.take_left]
    rw [e, List.length_take, Nat.min_eq_left (by omega)]
    exact bd_take hA (by rw [l1]; omega)
  have B37 : Below w3.heap.size w3 w7 := (hb4.trans (hb5.mono hb4.size)).trans ((hb6.mono (Nat.le_trans hb4.size hb5.size)).trans (hb7.mono (Nat.le_trans hb4.size (Nat.le_trans hb5.size hb6.size))))
  have B47 : Below w4.heap.size w4 w7 := hb5.trans ((hb6.mono hb5.size).trans (hb7.mono (Nat.le_trans hb5.size hb6.size)))
  refine (join_any va vm (l.take a) (bs mid) w7 ((HA.out).2.1.below B37) (H7.out).1 j1 (by omega)).mono ?_
  rintro e w8 ⟨vj, rfl, tj, hb8⟩
  have H8 := hide tj
  clear tj
  go_wp2_with fail
  have j2 : Bd (l.take a ++ bs mid ++ l.drop b) (l.take a ++ bs mid).length := by
    rw [hP, l1, ← bs_len]; exact hB
  have B48 : Below w4.heap.size w4 w8 := B47.trans (hb8.mono B47.size)
  refine (join_any vj vb (l.take a ++ bs mid) (l.drop b) w8 H8.out ((HBB.out).2.1.below B48) j2 (by rw [hP]; omega)).mono ?_
  rintro e w9 ⟨vr, rfl, tr, hb9⟩
  rw [hP] at tr
  have H9 := hide tr
  clear tr hP l1 j1 j2 hA hB lmid hrl
  go_wp2_with fail
  go_ret2
  have Bw9 : Below w.heap.size w w9 := Bw6.trans ((hb7.mono Bw6.size).trans ((hb8.mono (Nat.le_trans Bw6.size hb7.size)).trans (hb9.mono (Nat.le_trans Bw6.size (Nat.le_trans hb7.size hb8.size)))))
  exact ⟨w9.heap.size, rfl, IsR.new H9.out, Bw9.alloc Bw9.size _⟩
end Go.Proofs.YtopeagigdgjchaaDoor.Rp
