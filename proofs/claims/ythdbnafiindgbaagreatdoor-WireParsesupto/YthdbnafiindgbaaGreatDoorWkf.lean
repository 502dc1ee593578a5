/- The document's reader of messages: four digits of sixteen, and the bytes of a code point. -/
import Derived.Test.YthdbnafiindgbaaGreatDoorWk0
import Derived.Test.YthdbnafiindgbaaGreatDoorWka
import Derived.Lib.RuneBytes
import Derived.Lib.Small
import Derived.Handy
namespace Go.Proofs.YthdbnafiindgbaaGreatDoor
open Go.RowKit
open Wi

theorem ret_sl {a : Option Addr} {n n' : Nat} (h : n = n') : Ending.returned (.slice a n n) = .returned (.slice a n' n') := by rw [h]
set_option maxRecDepth 100000 in
set_option maxHeartbeats 4000000 in
theorem utf_any (c : Int) (w : World) (h0 : 0 ≤ c) (hv : Lib.validRune c = true) :
    Calls Tryz.prog 32 #[.int .i64 c] w fun e w' => e = .returned (.slice (some ⟨w.heap.size, 0, none⟩) (Lib.encodeRune c).length (Lib.encodeRune c).length) ∧ w' = w.alloc (.cells (Lib.byteCells (Lib.encodeRune c)).toArray 5) := by
  have hv' : (0 ≤ c ∧ c < 0xD800) ∨ (0xDFFF < c ∧ c ≤ 0x10FFFF) := by unfold Lib.validRune at hv; exact of_decide_eq_true hv
  by_cases h1 : c < 128
  · have HC : Hid (Lib.byteCells (Lib.encodeRune c) = [.int .u8 c]) := by
      show _ = _
      rw [Lib.byteCells_encodeRune, Lib.runeCells, Lib.encodeRuneZ_one h0 (by omega)]; rfl
    have HL : Hid ((Lib.encodeRune c).length = 1) := by show _ = _; unfold Lib.encodeRune; rw [Lib.encodeRuneZ_one h0 (by omega)]; rfl
    have hc1 : c ≤ 1114111 := by omega
    clear hv hv'
    go_enter Tryz.func32, Tryz.ntmps32
    go_wp2
    go_ret
    exact ⟨ret_sl HL.out.symm, by rw [HC.out]⟩
  by_cases h2 : c < 2048
  · have HC : Hid (Lib.byteCells (Lib.encodeRune c) = [.int .u8 (192 + c / 64), .int .u8 (128 + c % 64)]) := by
      show _ = _
      rw [Lib.byteCells_encodeRune, Lib.runeCells, Lib.encodeRuneZ_two (by omega) (by omega)]; rfl
    have HL : Hid ((Lib.encodeRune c).length = 2) := by show _ = _; unfold Lib.encodeRune; rw [Lib.encodeRuneZ_two (by omega) (by omega)]; rfl
    have hc1 : c ≤ 1114111 := by omega
    clear hv hv'
    go_enter Tryz.func32, Tryz.ntmps32
    go_wp2
    go_ret
    exact ⟨ret_sl HL.out.symm, by rw [HC.out]⟩
  by_cases h3 : c < 65536
  · have HC : Hid (Lib.byteCells (Lib.encodeRune c) = [.int .u8 (224 + c / 4096), .int .u8 (128 + c / 64 % 64), .int .u8 (128 + c % 64)]) := by
      show _ = _
      rw [Lib.byteCells_encodeRune, Lib.runeCells, Lib.encodeRuneZ_three (by omega)]; rfl
    have HL : Hid ((Lib.encodeRune c).length = 3) := by show _ = _; unfold Lib.encodeRune; rw [Lib.encodeRuneZ_three (by omega)]; rfl
    have hc1 : c ≤ 1114111 := by omega
    clear hv hv'
    go_enter Tryz.func32, Tryz.ntmps32
    go_wp2
    go_ret
    exact ⟨ret_sl HL.out.symm, by rw [HC.out]⟩
  have HC : Hid (Lib.byteCells (Lib.encodeRune c) = [.int .u8 (240 + c / 262144), .int .u8 (128 + c / 4096 % 64), .int .u8 (128 + c / 64 % 64), .int .u8 (128 + c % 64)]) := by
    show _ = _
    rw [Lib.byteCells_encodeRune, Lib.runeCells, Lib.encodeRuneZ_four (by omega) (by omega)]; rfl
  have HL : Hid ((Lib.encodeRune c).length = 4) := by show _ = _; unfold Lib.encodeRune; rw [Lib.encodeRuneZ_four (by omega) (by omega)]; rfl
  have hc1 : c ≤ 1114111 := by omega
  clear hv hv'
  go_enter Tryz.func32, Tryz.ntmps32
  go_wp2
  go_ret
  exact ⟨ret_sl HL.out.symm, by rw [HC.out]⟩

/-- What hex gives. -/
def hxI (l : List UInt8) : Int := match hx l with | some n => (n : Int) | none => -1
theorem dhexs_none {a t : List UInt8} (h : hexs t = none) : hexs (a ++ t) = none := by
  induction a with
  | nil => exact h
  | cons c a ih => rw [List.cons_append, hexs, ih]
theorem dhexs_lt (l : List UInt8) : ∀ n, hexs l = some n → n < 16 ^ l.length := by
  induction l with
  | nil => intro n h; cases h; simp
  | cons c t ih =>
    intro n h
    rw [hexs] at h
    cases ht : hexs t with
    | none => rw [ht] at h; cases h
    | some m =>
      rw [ht] at h
      cases hd : hexd c with
      | none => rw [hd] at h; cases h
      | some d =>
        rw [hd] at h
        cases h
        have h1 := ih m ht
        have h2 : d < 16 := by
          unfold hexd at hd
          repeat' split at hd
          all_goals (first | (cases hd; omega) | cases hd)
        rw [List.length_cons, Nat.pow_succ]
        omega
theorem dhx_lt {l : List UInt8} {n : Nat} (h : hx l = some n) : n < 65536 ∧ 6 ≤ l.length := by
  unfold hx at h
  split at h
  · next hc =>
    have := dhexs_lt _ n h
    rw [List.length_reverse, List.length_drop, List.length_take] at this
    have e : min 6 l.length - 2 = 4 := by omega
    rw [e] at this
    exact ⟨this, hc.1⟩
  · cases h
theorem hexs_step {l : List UInt8} {k n : Nat} (hk : k + 2 < l.length) (h : hexs ((l.take (k + 2)).drop 2).reverse = some n) :
    hexs ((l.take (k + 3)).drop 2).reverse = (hexd l[k + 2]).map (fun d => n * 16 + d) := by
  have e : (l.take (k + 3)).drop 2 = (l.take (k + 2)).drop 2 ++ [l[k + 2]] := by
    rw [List.take_add_one, List.getElem?_eq_getElem hk, Option.toList_some, List.drop_append_of_le_length (by simp; omega)]
  rw [e, List.reverse_append, List.reverse_singleton, List.singleton_append, hexs, h]
  cases hexd l[k + 2] <;> rfl
theorem hexs_over {l : List UInt8} {k : Nat} (hk : k + 2 < l.length) (hk4 : k < 4) {n : Nat} (h : hexs ((l.take (k + 2)).drop 2).reverse = some n) (hd : hexd l[k + 2] = none) : hexs ((l.take 6).drop 2).reverse = none := by
  have h1 := hexs_step hk h
  rw [hd] at h1
  have e : (l.take 6).drop 2 = (l.take (k + 3)).drop 2 ++ ((l.take 6).drop (k + 3)) := by
    have : l.take 6 = l.take (k + 3) ++ (l.take 6).drop (k + 3) := by
      conv => lhs; rw [← List.take_append_drop (k + 3) (l.take 6)]
      rw [List.take_take, Nat.min_eq_left (by omega)]
    conv => lhs; rw [this]
    rw [List.drop_append_of_le_length (by simp; omega)]
  rw [e, List.reverse_append]
  exact dhexs_none h1
theorem hexd_cases (c : UInt8) : (48 ≤ c.toNat ∧ c.toNat ≤ 57 ∧ hexd c = some (c.toNat - 48)) ∨ (¬ (48 ≤ c.toNat ∧ c.toNat ≤ 57) ∧ 97 ≤ c.toNat ∧ c.toNat ≤ 102 ∧ hexd c = some (c.toNat - 87)) ∨ (¬ (48 ≤ c.toNat ∧ c.toNat ≤ 57) ∧ ¬ (97 ≤ c.toNat ∧ c.toNat ≤ 102) ∧ 65 ≤ c.toNat ∧ c.toNat ≤ 70 ∧ hexd c = some (c.toNat - 55)) ∨ (¬ (48 ≤ c.toNat ∧ c.toNat ≤ 57) ∧ ¬ (97 ≤ c.toNat ∧ c.toNat ≤ 102) ∧ ¬ (65 ≤ c.toNat ∧ c.toNat ≤ 70) ∧ hexd c = none) := by
  unfold hexd
  by_cases h1 : 48 ≤ c.toNat ∧ c.toNat ≤ 57
  · exact .inl ⟨h1.1, h1.2, by rw [if_pos h1]⟩
  by_cases h2 : 97 ≤ c.toNat ∧ c.toNat ≤ 102
  · exact .inr (.inl ⟨h1, h2.1, h2.2, by rw [if_neg h1, if_pos h2]⟩)
  by_cases h3 : 65 ≤ c.toNat ∧ c.toNat ≤ 70
  · exact .inr (.inr (.inl ⟨h1, h2, h3.1, h3.2, by rw [if_neg h1, if_neg h2, if_pos h3]⟩))
  · exact .inr (.inr (.inr ⟨h1, h2, h3, by rw [if_neg h1, if_neg h2, if_neg h3]⟩))
end Go.Proofs.YthdbnafiindgbaaGreatDoor
/- The document's reader of messages: what four digits of sixteen say. -/
namespace Go.Proofs.YthdbnafiindgbaaGreatDoor
open Go.RowKit
open Wi

theorem hxI_none {l : List UInt8} (h : hx l = none) : hxI l = -1 := by unfold hxI; rw [h]
theorem hxI_some {l : List UInt8} {n : Nat} (h : hx l = some n) : hxI l = (n : Int) := by unfold hxI; rw [h]

set_option maxRecDepth 100000 in
set_option maxHeartbeats 4000000 in
theorem whex_any (rb : Nat) (s : ByteArray) (i e b : Int) (l : List UInt8) (w : World) (hs : s.size ≤ 1073741824) (hl : Sfx s l) (h : RawW w rb s i e b) :
    Calls Tryz.prog 31 #[.pointer (some ⟨rb, 0, none⟩), .int .i64 (pos s l)] w fun en w' => en = .returned (.int .i64 (hxI l)) ∧ Below w.heap.size w w' := by
  have HR := hide h
  have HL := hide hl
  have hpos := hl.pos
  obtain ⟨⟨c0, c1, c2, c3⟩, f1, f2, f3⟩ := h.facts
  clear h hl c1 c2 c3 f1 f2 f3
  go_enter Tryz.func31, Tryz.ntmps31
  by_cases h6 : 6 ≤ l.length
  case neg =>
    have i1 : decide ((s.size : Int) < (pos s l : Int) + 6) = true := by simp; omega
    have HE : Hid (hxI l = -1) := hxI_none (by unfold hx; rw [if_neg (fun e => h6 e.1)])
    clear h6
    go_wp2_with fail
    go_ret
    exact ⟨reti HE.out.symm, Below.refl _ w⟩
  case pos =>
  obtain ⟨a1, g1⟩ := (HL.out).getD (k := 0) (by omega)
  obtain ⟨a2, g2⟩ := (HL.out).getD (k := 1) (by omega)
  have i1 : decide ((s.size : Int) < (pos s l : Int) + 6) = false := by simp; omega
  have i2 : (0 : Int) ≤ (pos s l : Int) := Int.natCast_nonneg _
  have i3 : (pos s l : Int) < (s.size : Int) := by omega
  have i4 : (0 : Int) ≤ (pos s l : Int) + 1 := by omega
  have i5 : (pos s l : Int) + 1 < (s.size : Int) := by omega
  simp only [Nat.add_zero] at a1 g1
  have e1 : l.getD 0 0 = l[0] := by rw [List.getD_eq_getElem?_getD, List.getElem?_eq_getElem (by omega)]; rfl
  have e2 : l.getD 1 0 = l[1] := by rw [List.getD_eq_getElem?_getD, List.getElem?_eq_getElem (by omega)]; rfl
  by_cases h92 : l[0] = 92
  case neg =>
    have i6 : ((s[pos s l].toNat : Int) != 92) = true := by
      rw [g1]; simp; intro e; exact h92 (UInt8.toNat_inj.1 (by show _ = 92; omega))
    have HE : Hid (hxI l = -1) := hxI_none (by unfold hx; rw [if_neg (fun e => h92 (by rw [← e1]; exact e.2.1))])
    clear h6 g1 g2 e1 e2 h92
    go_wp2_with fail
    go_ret
    exact ⟨reti HE.out.symm, Below.refl _ w⟩
  case pos =>
  have i6 : ((s[pos s l].toNat : Int) != 92) = false := by rw [g1, h92]; rfl
  by_cases h117 : l[1] = 117
  case neg =>
    have i7 : ((s[pos s l + 1].toNat : Int) != 117) = true := by
      rw [g2]; simp; intro e; exact h117 (UInt8.toNat_inj.1 (by show _ = 117; omega))
    have HE : Hid (hxI l = -1) := hxI_none (by unfold hx; rw [if_neg (fun e => h117 (by rw [← e2]; exact e.2.2))])
    clear h6 g1 g2 e1 e2 h92 h117
    go_wp2_with fail
    go_ret
    exact ⟨reti HE.out.symm, Below.refl _ w⟩
  case pos =>
  have i7 : ((s[pos s l + 1].toNat : Int) != 117) = false := by rw [g2, h117]; rfl
  have HX : Hid (hx l = hexs ((l.take 6).drop 2).reverse) := by
    show _ = _; unfold hx; rw [if_pos ⟨h6, by rw [e1]; exact h92, by rw [e2]; exact h117⟩]
  clear g1 g2 e1 e2 h92 h117
  go_wp2_with fail
  clear i6 i7 i1 c0
  go_loopw [5, 6] (fun vn vk wr => ∃ k n : Nat, vn = .int .i64 n ∧ vk = .int .i64 ((pos s l : Int) + 2 + k) ∧ k ≤ 4 ∧ Hid (hexs ((l.take (k + 2)).drop 2).reverse = some n) ∧ n < 65536 ∧ Hid (Below w.heap.size w wr)) (fun _ vk _ => (pos s l + 6) - (intOf vk).toNat)
  case atStart => exact ⟨0, 0, rfl, by simp, by omega, by show hexs ((l.take 2).drop 2).reverse = some 0; rw [List.drop_eq_nil_of_le (by simp; omega)]; rfl, by omega, Below.refl _ w⟩
  case round =>
    obtain ⟨k, n, rfl, rfl, hk, HH, hn, HB⟩ := hrel
    have c0 := ((HR.out).below HB.out).facts.1.1
    by_cases hk4 : k < 4
    case neg =>
      obtain rfl : k = 4 := by omega
      have j1 : decide ((pos s l : Int) + 2 + ((4 : Nat) : Int) < (pos s l : Int) + 6) = false := by simp; omega
      have HE : Hid (hxI l = (n : Int)) := hxI_some (by rw [HX.out]; exact HH.out)
      clear HH HX
      go_wp2_with fail
      go_ret
      exact ⟨reti HE.out.symm, HB.out⟩
    case pos =>
    have j1 : decide ((pos s l : Int) + 2 + (k : Int) < (pos s l : Int) + 6) = true := by simp; omega
    have j2 : (0 : Int) ≤ (pos s l : Int) + 2 + (k : Int) := by omega
    have j3 : (pos s l : Int) + 2 + (k : Int) < (s.size : Int) := by omega
    have hkl : k + 2 < l.length := by omega
    have hb4 : n < 16 ^ k := by
      have := dhexs_lt _ n HH.out
      rw [List.length_reverse, List.length_drop, List.length_take] at this
      have e : min (k + 2) l.length - 2 = k := by omega
      rw [e] at this; exact this
    have hb5 : n * 16 + 15 < 65536 := by
      have : 16 ^ k ≤ 16 ^ 3 := Nat.pow_le_pow_right (by decide) (by omega)
      omega
    obtain ⟨a3, g3⟩ := (HL.out).getD (k := k + 2) hkl
    have a4 : pos s l + 2 + k < s.size := by omega
    have g4 : s[pos s l + 2 + k] = l[k + 2] := by rw [← g3]; congr 1; omega
    have HS := hide (hexs_step hkl HH.out)
    have HO := hide (fun hd => hexs_over hkl hk4 HH.out hd)
    have hc := hide (hexd_cases l[k + 2])
    have hb6 : (s[pos s l + 2 + k].toNat : Int) < 256 := by have := s[pos s l + 2 + k].toNat_lt; omega
    rw [← g4] at HS HO hc
    have HFin : Hid (∀ d, hexd s[pos s l + 2 + k] = some d → (n * 16 + d < 65536) ∧ Hid (hexs ((l.take (k + 1 + 2)).drop 2).reverse = some (n * 16 + d))) := by
      intro d hd
      have h1 := HS.out
      rw [hd] at h1
      replace h1 : hexs ((l.take (k + 3)).drop 2).reverse = some (n * 16 + d) := h1
      have h2 := dhexs_lt _ _ h1
      rw [List.length_reverse, List.length_drop, List.length_take] at h2
      have e : min (k + 3) l.length - 2 = k + 1 := by omega
      rw [e] at h2
      have h3 : 16 ^ (k + 1) ≤ 16 ^ 4 := Nat.pow_le_pow_right (by decide) (by omega)
      exact ⟨by omega, h1⟩
    have HNo : Hid (hexd s[pos s l + 2 + k] = none → hxI l = -1) := fun hd => hxI_none (by rw [HX.out]; exact (HO.out) hd)
    clear g3 g4 HH HS HO HX
    go_wp2_with fail
    all_goals first
      | (go_ret
         refine ⟨reti ?_, HB.out⟩
         rcases hc.out with ⟨d1, d2, hd⟩ | ⟨d1, d2, d3, hd⟩ | ⟨d1, d2, d3, d4, hd⟩ | ⟨d1, d2, d3, hd⟩
         · exfalso; omega
         · exfalso; omega
         · exfalso; omega
         · exact ((HNo.out) hd).symm)
      | (rcases hc.out with ⟨d1, d2, hd⟩ | ⟨d1, d2, d3, hd⟩ | ⟨d1, d2, d3, d4, hd⟩ | ⟨d1, d2, d3, hd⟩
         all_goals first
           | (exfalso; omega)
           | (refine ⟨⟨k + 1, _, ?_, by go_num, by omega, ((HFin.out) _ hd).2, ((HFin.out) _ hd).1, HB⟩, by simp only [intOf]; omega⟩
              congr 1; omega))
end Go.Proofs.YthdbnafiindgbaaGreatDoor
