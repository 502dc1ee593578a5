/- The document's own Unquote. -/
import Derived.Test.YtbhcniemkjoflaaDoorWb
import Derived.Test.YtbhcniemkjoflaaDoorWc
import Derived.Test.YtbhcniemkjoflaaDoorRp
import Derived.Test.YtbhcniemkjoflaaDoorEd
import Derived.Test.YtbhcniemkjoflaaDoorUb
namespace Go.Proofs.YtbhcniemkjoflaaDoor
open Go.RowKit
open M

theorem enc_pos (r : Int) : 0 < (Lib.encodeRune r).length := by
  have := Lib.encodeRuneZ_length r
  simp only [Lib.encodeRune, List.length_map]; omega
theorem bc_len (l : List UInt8) : (Lib.byteCells l).length = l.length * 1 := by simp [Lib.byteCells]
theorem bc_one (l : List UInt8) : ∀ u ∈ Lib.byteCells l, u.oneCell' = true := by
  intro u hu
  simp only [Lib.byteCells, List.mem_map] at hu
  obtain ⟨x, -, rfl⟩ := hu
  rfl

set_option maxRecDepth 100000 in
set_option maxHeartbeats 4000000 in
theorem refUnquote_yes (s : ByteArray) (w : World) (hs : s.size ≤ 1073741824) (ha : aloneB (bs s) 6 = true) :
    Calls Tryd.prog 17 #[.string s] w fun e w' => e = .returned (.tuple #[.string (ba (unq (((bs s).take (s.size - 1)).drop 1))), .bool true]) ∧ Below w.heap.size w w' := by
  obtain ⟨i0, hi0, hz0, hz1, hz2⟩ := info_parts info5
  go_enter Tryd.func17, Tryd.ntmps17
  go_wp2_with fail
  refine (refTokens_any s _ hs).mono ?_
  rintro e w1 ⟨v, rfl, hown, k1⟩
  have hT := IsT.ofOwns hown
  have K1 := hide k1
  have R1 := hide (Rd6.first ha)
  have ht := alone_toks.1 ha
  rw [ht] at hT
  have H1 := hide hT
  clear k1 hown
  obtain ⟨ao, cap, rfl, hc1, hc2, -⟩ := hT
  obtain ⟨b, o, t', rfl, ht', q1, q2, q3⟩ := (H1.out).get (Below.refl _ w1) (k := 0) (by simp)
  obtain rfl : (⟨6, 0, (bs s).length⟩ : Tk) = t' := by simpa using ht'
  simp only [Nat.zero_mul, Nat.add_zero] at q1 q2 q3
  clear ha ht ht'
  go_wp2_with fail
  go_loopw [5, 6, 7, 8, 9] (fun v i _ _ _ wr => ∃ (k : Nat) (out : List UInt8), i = .int .i64 k ∧ Hid (Rd6 s k) ∧ Hid (InB w1 v out wr) ∧ Hid (unq (((bs s).take (s.size - 1)).drop 1) = out ++ unq (((bs s).take (s.size - 1)).drop k))) (fun _ i _ _ _ _ => s.size - (intOf i).toNat)
  case atStart => exact ⟨1, [], rfl, R1, ⟨World.ownsRow_nil _ _ _ _, Below.refl _ _⟩, (rfl : unq (((bs s).take (s.size - 1)).drop 1) = [] ++ unq (((bs s).take (s.size - 1)).drop 1))⟩
  case round =>
    obtain ⟨k, out, rfl, HR, HB, HQ⟩ := hrel
    have hk := (HR.out).lt
    have hun : out.length ≤ 4 * s.size := by
      have h1 := congrArg List.length HQ.out
      rw [List.length_append] at h1
      have h3 := unq_len _ (((bs s).take (s.size - 1)).drop 1) (Nat.le_refl _)
      rw [List.length_drop, List.length_take, bs_len] at h3
      omega
    by_cases hlt : k + 1 < s.size
    case neg =>
      have HE := hide ((HR.out).last hlt)
      have i1 : decide ((k : Int) < (s.size : Int) - 1) = false := by simp; omega
      rcases (HB.out).1.2 with ⟨rfl, hn⟩ | ⟨g5, cap5, cur, rfl, -⟩
      · have HO := hide (List.eq_nil_of_length_eq_zero hn)
        go_wp2_with fail
        rw [run_convert_bytes_nil (P := Tryd.prog) _ 57 5 Tryd.underlying57 Tryd.underlying5 0 0 9 Tryd.underlying9]
        go_wp2_with fail
        go_ret2
        refine ⟨ret_sb ?_, (K1.out).trans ((HB.out).2.mono (K1.out).size)⟩
        rw [HQ.out, HE.out, HO.out]; rfl
      · go_wp2_with fail
        rw [run_convert_bytes_arg (P := Tryd.prog) _ 57 5 Tryd.underlying57 Tryd.underlying5 g5 0 _ cap5 (out.map fun x : UInt8 => (x.toNat : Int)) (by simp) (by intro i hi; exact InB.cell (HB.out) i (by simpa using hi)) 9 Tryd.underlying9]
        go_wp2_with fail
        go_ret2
        refine ⟨ret_sb ?_, (K1.out).trans ((HB.out).2.mono (K1.out).size)⟩
        rw [str_bytes, HQ.out, HE.out, List.append_nil]
    have i1 : decide ((k : Int) < (s.size : Int) - 1) = true := by simp; omega
    by_cases h92 : (s[k]'hk).toNat = 92
    · obtain ⟨c, m, he, hr', hm, hc0, hv, hu⟩ := (HR.out).slash hlt h92
      have HR' := hide hr'
      have HU := hide hu
      have hkm := hr'.lt
      clear hr' hu
      have i2 : (((s[k]'hk).toNat : Int) == 92) = true := by simp; omega
      have HX := hide (escape_any s k wr hs hk)
      rw [he] at HX
      have hc9 : c ≤ 16777215 := by
        have := (taken_bd ((bs s).drop (k + 1))).2
        unfold esc at he
        split at he
        · have e1 := congrArg Prod.fst he
          simp only at e1; omega
        · have e1 := congrArg Prod.fst he
          simp only at e1; omega
      clear he
      go_wp2_with fail
      refine (HX.out).mono ?_
      rintro e w2 ⟨rfl, hw⟩
      subst hw
      go_wp2_with fail
      refine (utf_any c _ hc0 hv).mono ?_
      rintro e w3 ⟨rfl, rfl⟩
      have he1 := enc_pos c
      have he4 := enc_len c
      go_wp2_with (at_builtin; refine wpList_append_lies _ rfl _ _ 57 rfl w1.heap.size 5 i0 _ 1 1 Tryd.underlying57 hi0 hz0 hz1 hz2 rfl (by decide) u5 (out).length _ rfl ((HB.out).1.alloc _) ⟨w2.heap.size, 0, none⟩ (Lib.encodeRune c).length (Lib.encodeRune c).length (Lib.byteCells (Lib.encodeRune c)) rfl (bc_len _) (World.news_of_block (cs := (Lib.byteCells (Lib.encodeRune c)).toArray) (heap_alloc_new w2 _)) (bc_one _) (by omega) (by unfold maxLen; omega) (by omega) (by have := (HB.out).2.size; simp; omega) (w2.heap.size + 1) (by simp) ?_; intro g5 cap5 w5 hown5 hgrow5 hat5 hlt5; have HBN := hide (InB.more (new := Lib.encodeRune c) (HB.out) hown5 hgrow5); clear hown5 hgrow5 hat5)
      go_roundw
      case rel => exact ⟨k + m, _, by go_num, HR', HBN.out, by show _ = _; rw [HQ.out, HU.out]; simp only [List.append_assoc]⟩
      case measure => simp [intOf]; omega
    · obtain ⟨hr', hu⟩ := (HR.out).plain hlt h92
      have HR' := hide hr'
      have HU := hide hu
      clear hr' hu
      have i2 : (((s[k]'hk).toNat : Int) == 92) = false := by simp; omega
      go_wp2_with (at_builtin; refine wpList_append_lies _ rfl _ _ 57 rfl w1.heap.size 5 i0 _ 1 1 Tryd.underlying57 hi0 hz0 hz1 hz2 rfl (by decide) u5 (out).length _ rfl ((HB.out).1.alloc _) ⟨wr.heap.size, 0, none⟩ 1 1 (Lib.byteCells [s[k]'hk]) rfl rfl (World.news_of_block (cs := #[.int .u8 (s[k]'hk).toNat]) (heap_alloc_new wr _)) (by simp [Value.oneCell', Lib.byteCells]) (by omega) (by unfold maxLen; omega) (by omega) (by have := (HB.out).2.size; simp; omega) (wr.heap.size + 1) (by simp) ?_; intro g5 cap5 w5 hown5 hgrow5 hat5 hlt5; have HBN := hide (InB.more (new := [s[k]'hk]) (HB.out) hown5 hgrow5); clear hown5 hgrow5 hat5)
      go_roundw
      case rel => exact ⟨k + 1, _, by go_num, HR', HBN.out, by show _ = _; rw [HQ.out, HU.out]; simp only [List.append_assoc, List.nil_append, List.cons_append]⟩
      case measure => simp [intOf]; omega

set_option maxRecDepth 100000 in
set_option maxHeartbeats 4000000 in
theorem refUnquote_no (s : ByteArray) (w : World) (hs : s.size ≤ 1073741824) (ha : aloneB (bs s) 6 = false) :
    Calls Tryd.prog 17 #[.string s] w fun e w' => e = .returned (.tuple #[.string ⟨#[]⟩, .bool false]) ∧ Below w.heap.size w w' := by
  go_enter Tryd.func17, Tryd.ntmps17
  go_wp2_with fail
  refine (refTokens_any s _ hs).mono ?_
  rintro e w1 ⟨v, rfl, hown, k1⟩
  have hT := IsT.ofOwns hown
  have H1 := hide hT
  have K1 := hide k1
  clear k1 hown
  rcases alone_not ha with hl | ⟨t, ht, hk⟩
  · obtain ⟨ao, cap, rfl, hc1, hc2, -⟩ := hT
    have i2 : (((toks 0 (bs s)).length : Int) != 1) = true := by simp; omega
    clear ha hl
    go_wp2_with fail
    go_ret2
    exact ⟨rfl, K1.out⟩
  · rw [ht] at hT H1
    obtain ⟨ao, cap, rfl, hc1, hc2, -⟩ := hT
    obtain ⟨b, o, t', rfl, ht', q1, q2, q3⟩ := (H1.out).get (Below.refl _ w1) (k := 0) (by simp)
    obtain rfl : t = t' := by simpa using ht'
    simp only [Nat.zero_mul, Nat.add_zero] at q1 q2 q3
    have i3 : ((t.kind : Int) != 6) = true := by simp; omega
    clear ha ht hk ht'
    go_wp2_with fail
    go_ret2
    exact ⟨rfl, K1.out⟩
end Go.Proofs.YtbhcniemkjoflaaDoor
