/- A text in pieces (law7.cut). -/
import Derived.Test.YtcibflndpckkkaaDoorWle
namespace Go.Proofs.YtcibflndpckkkaaDoor
open Go.RowKit
open Wi

/-- A row of numbers that can be read. -/
def IsIv (w : World) (v : Value) (xs : List Int) : Prop := ∃ ao cap, v = .slice ao xs.length cap ∧ xs.length ≤ cap ∧ cap ≤ maxLen ∧ ∀ (i : Nat) (x : Int), xs[i]? = some x → ∃ g o, ao = some ⟨g, o, none⟩ ∧ w.cell? ⟨g, o + i, none⟩ = some (.int .i64 x)
/-- The pieces of a text from a place on. -/
def cutL (s : List UInt8) : Nat → List Int → List (List UInt8)
  | last, [] => [s.drop last]
  | last, c :: cs => if (last : Int) ≤ c ∧ c ≤ (s.length : Int) then (s.take c.toNat).drop last :: cutL s c.toNat cs else cutL s last cs
theorem cutL_join (s : List UInt8) : ∀ (cs : List Int) (last : Nat), last ≤ s.length → (cutL s last cs).flatten = s.drop last
  | [], last, _ => by simp [cutL]
  | c :: cs, last, h => by
    unfold cutL
    split
    · rename_i hc
      have h1 := cutL_join s cs c.toNat (by omega)
      rw [List.flatten_cons, h1]
      have e : s.drop last = (s.take c.toNat ++ s.drop c.toNat).drop last := by rw [List.take_append_drop]
      rw [e, List.drop_append_of_le_length (by rw [List.length_take]; omega)]
    · exact cutL_join s cs last h
theorem cutL_len (s : List UInt8) : ∀ (cs : List Int) (last : Nat), (cutL s last cs).length ≤ cs.length + 1
  | [], last => by simp [cutL]
  | c :: cs, last => by
    unfold cutL
    split
    · have := cutL_len s cs c.toNat; simp; omega
    · have := cutL_len s cs last; simp; omega
/-- One text more at the end of a row of one's own. -/
theorem run_addStr {w0 w : World} {v : Value} {out : List (List UInt8)} (x : ByteArray) (ho : w.ownsRow w0.heap.size 9 1 v out.length (strv out)) (hb : Below w0.heap.size w0 w) (hl : out.length ≤ 1073741824) :
    ∃ v' w1, (Builtin.append_ #[22, 22] 22 #[v, .slice (some ⟨w.heap.size, 0, none⟩) 1 1]).run Tryd.prog (w.alloc (.cells #[.string x] 9)) = .ok v' w1 ∧ w1.ownsRow w0.heap.size 9 1 v' (out.length + 1) (strv (out ++ [bs x])) ∧ Below w0.heap.size w0 w1 := by
  obtain ⟨i0, hi0, hz0, hz1, hz2⟩ := infoW infoS
  have hk := hb.alloc hb.size (.cells #[.string x] 9)
  have ho' := (Kp.ofBelow ((Below.refl _ w).alloc (Nat.le_refl _) (.cells #[.string x] 9)) (fun _ => False)).owns ho (fun _ _ => id)
  obtain ⟨v', w1, a1, a2, a3, -⟩ := run_append_own_at (P := Tryd.prog) (w.alloc (.cells #[.string x] 9)) w0.heap.size 22 22 9 i0 _ 1 16 Tryd.underlying22 hi0 hz0 hz1 hz2 rfl (by decide) v out.length (strv out) ho' ⟨w.heap.size, 0, none⟩ 1 1 [.string x] rfl (World.news_of_block (heap_alloc_new w _)) (by simp [Value.oneCell']) (by unfold maxLen; omega) (by omega) hk.size
  refine ⟨v', w1, a1, ?_, hk.grown a3 hk.size (fun q e => (owns_geW ho' q e).1)⟩
  rw [strv_snoc, ba_bs]; exact a2

set_option maxRecDepth 100000 in
set_option maxHeartbeats 2000000 in
theorem wcut_any (s : ByteArray) (cs : List Int) (v : Value) (w : World) (h : IsIv w v cs) (hc : cs.length ≤ 1073741000) :
    Calls Tryd.prog 14 #[.string s, v] w fun en w' => ∃ v', en = .returned v' ∧ Hid (w'.ownsRow w.heap.size 9 1 v' (cutL (bs s) 0 cs).length (strv (cutL (bs s) 0 cs))) ∧ Below w.heap.size w w' := by
  have HI := hide h
  obtain ⟨ao, cap, rfl, hcap, -, -⟩ := h
  obtain ⟨R, hR⟩ : ∃ R, cutL (bs s) 0 cs = R := ⟨_, rfl⟩
  rw [hR]
  have HR0 : Hid ([] ++ cutL (bs s) 0 (cs.drop 0) = R) := by show _ = _; rw [List.drop_zero, List.nil_append]; exact hR
  clear hR
  go_enter Tryd.func14, Tryd.ntmps14
  go_wp2_with fail
  go_loopw [5, 6, 7] (fun ov lv iv wr => ∃ (i last : Nat) (out : List (List UInt8)) (a : Option Addr) (c : Nat), ov = .slice a out.length c ∧ lv = .int .i64 last ∧ iv = .int .i64 i ∧ i ≤ cs.length ∧ last ≤ s.size ∧ out.length ≤ i ∧ Hid (out ++ cutL (bs s) last (cs.drop i) = R) ∧ Hid (wr.ownsRow w.heap.size 9 1 (.slice a out.length c) out.length (strv out)) ∧ Hid (Below w.heap.size w wr)) (fun _ _ iv _ => cs.length - (intOf iv).toNat)
  case atStart => exact ⟨0, 0, [], none, 0, rfl, rfl, rfl, Nat.zero_le _, Nat.zero_le _, Nat.le_refl _, HR0, World.ownsRow_nil _ _ _ _, Below.refl _ w⟩
  case round =>
    obtain ⟨i, last, out, a, c, rfl, rfl, rfl, hi, hla, hol, HE, HO, HK⟩ := hrel
    clear HR0
    have m1 : (0 : Int) ≤ (last : Int) := Int.natCast_nonneg _
    have m2 : (last : Int) ≤ (s.size : Int) := by omega
    by_cases hlt : i < cs.length
    case neg =>
      have i1 : decide ((i : Int) < (cs.length : Int)) = false := by simp; omega
      have i1' : decide (i < cs.length) = false := by simp; omega
      obtain ⟨v', w1, r1, o1, k1⟩ := run_addStr (s.extract last s.size) HO.out HK.out (by omega)
      have HF : Hid (w1.ownsRow w.heap.size 9 1 v' R.length (strv R)) := by
        have e : out ++ [bs (s.extract last s.size)] = R := by
          rw [← HE.out, List.drop_eq_nil_of_le (by omega), bs_drop]; rfl
        rw [e] at o1
        have e2 : out.length + 1 = R.length := by rw [← e]; simp
        rw [e2] at o1; exact o1
      have HK1 := hide k1
      clear hlt o1 k1
      go_wp2_with (at_builtin; refine Lib.wpList_append_run _ rfl _ _ _ _ rfl _ _ rfl rfl _ _ r1 ?_)
      go_ret
      exact ⟨_, rfl, HF, HK1.out⟩
    have i1 : decide ((i : Int) < (cs.length : Int)) = true := by simp; omega
    have i1' : decide (i < cs.length) = true := by simp; omega
    have i2 : (i : Int) < (cs.length : Int) := by omega
    obtain ⟨x, hx⟩ : ∃ x, cs[i]? = some x := ⟨_, List.getElem?_eq_getElem hlt⟩
    obtain ⟨ao', cap', ea, -, -, gx⟩ := HI.out
    obtain ⟨g, o, e1, p1⟩ := gx i x hx
    obtain ⟨rfl, -, rfl⟩ := Value.slice.inj ea
    subst e1
    clear ea gx
    have p0 := p1
    replace p1 := (Kp.ofBelow HK.out (fun _ => False)).cellv p1 id
    have p1' : wr.cell? ⟨g, o + i * 1, none⟩ = some (.int .i64 x) := by rw [Nat.mul_one]; exact p1
    have hdr : cs.drop i = x :: cs.drop (i + 1) := by
      rw [List.drop_eq_getElem_cons hlt]; congr 1
      exact Option.some.inj ((List.getElem?_eq_getElem hlt).symm.trans hx)
    have HE2 : Hid (out ++ (if (last : Int) ≤ x ∧ x ≤ (s.size : Int) then ((bs s).take x.toNat).drop last :: cutL (bs s) x.toNat (cs.drop (i + 1)) else cutL (bs s) last (cs.drop (i + 1))) = R) := by
      have h1 := HE.out
      rw [hdr] at h1
      unfold cutL at h1
      rw [bs_len] at h1
      exact h1
    clear HE hdr
    by_cases hc1 : (last : Int) ≤ x ∧ x ≤ (s.size : Int)
    · rw [if_pos hc1] at HE2
      have q1 : decide ((last : Int) ≤ x) = true := decide_eq_true hc1.1
      have q2 : decide (x ≤ (s.size : Int)) = true := decide_eq_true hc1.2
      obtain ⟨xn, rfl⟩ : ∃ n : Nat, x = n := ⟨x.toNat, by omega⟩
      rw [Int.toNat_natCast] at HE2
      have m3 : (last : Int) ≤ (xn : Int) := hc1.1
      have m4 : (xn : Int) ≤ (s.size : Int) := hc1.2
      have m5 : last ≤ xn := by omega
      have m6 : xn ≤ s.size := by omega
      obtain ⟨v', w1, r1, o1, k1⟩ := run_addStr (s.extract last xn) HO.out HK.out (by omega)
      obtain ⟨a', c', hv'⟩ : ∃ a c, v' = .slice a (out.length + 1) c := by
        obtain ⟨a, c, e, -⟩ := owns_cells o1
        exact ⟨a, c, e⟩
      subst hv'
      have hle : (out ++ [bs (s.extract last xn)]).length = out.length + 1 := by simp
      have HN : Hid (w1.ownsRow w.heap.size 9 1 (.slice a' (out ++ [bs (s.extract last xn)]).length c') (out ++ [bs (s.extract last xn)]).length (strv (out ++ [bs (s.extract last xn)]))) := by
        show World.ownsRow _ _ _ _ _ _ _
        rw [hle]; exact o1
      have HE3 : Hid ((out ++ [bs (s.extract last xn)]) ++ cutL (bs s) xn (cs.drop (i + 1)) = R) := by
        show _ = _
        rw [← HE2.out, bs_cut]; simp
      have HK1 := hide k1
      have p3 := (Kp.ofBelow k1 (fun _ => False)).cellv p0 id
      have p3' : w1.cell? ⟨g, o + i * 1, none⟩ = some (.int .i64 xn) := by rw [Nat.mul_one]; exact p3
      clear HE2 o1 k1 hc1 HO
      go_wp2_with (at_builtin; refine Lib.wpList_append_run _ rfl _ _ _ _ rfl _ _ rfl rfl _ _ r1 ?_)
      refine ⟨⟨i + 1, xn, out ++ [bs (s.extract last xn)], a', c', by rw [hle], rfl, by simp, by omega, by omega, by rw [hle]; omega, HE3, HN, HK1.out⟩, ?_⟩
      show cs.length - (i + 1) < cs.length - i
      omega
    · rw [if_neg hc1] at HE2
      have hcs : (decide ((last : Int) ≤ x) = false) ∨ (decide ((last : Int) ≤ x) = true ∧ decide (x ≤ (s.size : Int)) = false) := by
        simp only [decide_eq_true_eq, decide_eq_false_iff_not]; omega
      clear hc1
      rcases hcs with q1 | ⟨q1, q2⟩
      all_goals
        go_wp2_with fail
        refine ⟨⟨i + 1, last, out, a, c, rfl, rfl, by simp, by omega, hla, by omega, HE2, HO, HK⟩, ?_⟩
        show cs.length - (i + 1) < cs.length - i
        omega
end Go.Proofs.YtcibflndpckkkaaDoor
