/- The document's writer of messages: a text in quotes. -/
import Derived.Test.YtcibflndpckkkaaDoorWkv
namespace Go.Proofs.YtcibflndpckkkaaDoor
open Go.RowKit
open Wi

theorem step_runW {ops : Array Oper} {o : Oper} {a : Act} {K : Act → World → Prop} {Q : Exit → Act → World → Prop} {E : Prop} (w : World) (hgd : o.guard = none) (s x : Operand) (t ty : TypeId)
    (ho : o.op = .call { callee := .builtin .append, args := #[s, x], argTypes := #[t, t] }) (hty : o.type = ty) (v y : Value) (hs : a.eval s = v) (hx : a.eval x = y) (r : Value) (w' : World) (hr : (Builtin.append_ #[t, t] ty #[v, y]).run Tryd.prog w = .ok r w') (h : K (a.put o.dst r) w') :
    if Region.wanted o (yielded ops a.tmps) = true then Oper.wp Tryd.prog o a w K Q else E := by
  have hw : Region.wanted o (yielded ops a.tmps) = true := by simp [Region.wanted, hgd]
  rw [if_pos hw]
  subst hty
  unfold Oper.wp execOp
  simp only [ho, resolve, invoke, builtin, Sem.run_bind, Sem.run_pure, Result.andThen_ok, List.map_toArray, List.map_cons, List.map_nil, hs, hx, hr]
  exact h

set_option maxRecDepth 100000 in
set_option maxHeartbeats 2000000 in
theorem wquote_any (s : ByteArray) (w : World) (hs : s.size ≤ 1073741824) :
    Calls Tryd.prog 22 #[.string s] w fun en w' => en = .returned (.string (ba (quote (bs s)))) ∧ Below w.heap.size w w' := by
  have HO0 : Hid (OutB w (.slice (some ⟨w.heap.size, 0, none⟩) 1 1) [34] (w.alloc (.cells #[.int .u8 34] 5))) :=
    ⟨⟨rfl, .inr ⟨w.heap.size, 1, _, rfl, Nat.le_refl _, heap_alloc_new w _, Nat.le_refl _, by decide, rfl, rfl⟩⟩, (Below.refl _ w).alloc (Nat.le_refl _) _⟩
  go_enter Tryd.func22, Tryd.ntmps22
  go_wp2_with fail
  generalize w.alloc (.cells #[.int .u8 34] 5) = w0 at *
  go_loopw [4, 5] (fun ov iv wr => ∃ (n : Nat) (a : Option Addr) (k c : Nat), ov = .slice a k c ∧ iv = .int .i64 n ∧ n ≤ s.size ∧ Hid (OutB w (.slice a k c) (34 :: quoteA ((bs s).take n)) wr)) (fun _ iv _ => s.size - (intOf iv).toNat)
  case atStart => exact ⟨0, _, _, _, rfl, rfl, Nat.zero_le _, HO0⟩
  case round =>
    obtain ⟨n, a, k, c, rfl, rfl, hn, HO⟩ := hrel
    clear HO0
    by_cases hns : n < s.size
    case neg =>
      have i1 : decide ((n : Int) < (s.size : Int)) = false := by simp; omega
      have i1' : decide (n < s.size) = false := by simp; omega
      have HQ : Hid (34 :: quoteA ((bs s).take n) ++ [34] = quote (bs s)) := by
        show _ = _
        rw [List.take_of_length_le (by rw [bs_len]; omega)]; rfl
      have HLn : Hid ((34 :: quoteA ((bs s).take n)).length ≤ 1 + s.size * 6) := by
        have := quoteA_len ((bs s).take n)
        rw [List.length_take, bs_len] at this
        show _ ≤ _
        simp only [List.length_cons]; omega
      obtain ⟨v', w1, r1, o1⟩ := (HO.out).put [34] (by have := HLn.out; simp at this ⊢; omega)
      rw [HQ.out] at o1
      obtain ⟨g, c', rfl, hcl⟩ : ∃ g c', v' = .slice (some ⟨g, 0, none⟩) (quote (bs s)).length c' ∧ ∀ i, i < (quote (bs s)).length → w1.cell? ⟨g, 0 + i, none⟩ = some (.int .u8 (((quote (bs s)).map fun x => (x.toNat : Int)).getD i 0)) := by
        have hpos : 0 < (quote (bs s)).length := by unfold quote; simp
        obtain ⟨g, cap, e, -⟩ := o1.1.form hpos
        subst e
        exact ⟨g, cap, rfl, OutB.cell o1⟩
      have HK := hide o1.2
      clear HO o1 HQ HLn hns
      go_wp2_with (at_builtin; refine Lib.wpList_append_run _ rfl _ _ _ _ rfl _ _ rfl rfl _ _ r1 ?_)
      rw [run_convert_bytes_arg (P := Tryd.prog) _ 53 5 Tryd.underlying53 Tryd.underlying5 g 0 _ c' ((quote (bs s)).map fun x : UInt8 => (x.toNat : Int)) (by simp) (by intro i hi; exact hcl i (by simpa using hi)) 9 Tryd.underlying9]
      go_wp2_with fail
      go_ret
      exact ⟨congrArg (fun x => Ending.returned (.string x)) (str_bytesW _), HK.out⟩
    have i1 : decide ((n : Int) < (s.size : Int)) = true := by simp; omega
    have i1' : decide (n < s.size) = true := by simp; omega
    have i2 : (0 : Int) ≤ (n : Int) := Int.natCast_nonneg _
    have i3 : (n : Int) < (s.size : Int) := by omega
    have HST : Hid (34 :: quoteA ((bs s).take (n + 1)) = 34 :: quoteA ((bs s).take n) ++ quoteB s[n]) := by
      show _ = _
      have e : (bs s)[n]? = some s[n] := List.getElem?_eq_getElem (by rw [bs_len]; exact hns)
      rw [List.take_add_one, e]; simp [quoteA]
    have HLn : Hid ((34 :: quoteA ((bs s).take n)).length ≤ 1 + s.size * 6) := by
      have := quoteA_len ((bs s).take n)
      rw [List.length_take, bs_len] at this
      show _ ≤ _
      simp only [List.length_cons]; omega
    have e34 := c_eqB (c := s[n]) (k := 34) (n := 34) rfl
    have e92 := c_eqB (c := s[n]) (k := 92) (n := 92) rfl
    have e10 := c_eqB (c := s[n]) (k := 10) (n := 10) rfl
    have e13 := c_eqB (c := s[n]) (k := 13) (n := 13) rfl
    have e9 := c_eqB (c := s[n]) (k := 9) (n := 9) rfl
    by_cases h1 : s[n] = 34 ∨ s[n] = 92
    · have hc : (decide (s[n] = 34) = true) ∨ (decide (s[n] = 34) = false ∧ decide (s[n] = 92) = true) := by
        rcases h1 with e | e <;> rw [e] <;> decide
      have HQ : Hid (quoteB s[n] = [92, s[n]]) := by show _ = _; unfold quoteB; rw [if_pos h1]
      obtain ⟨v', w1, r1, o1⟩ := (HO.out).put [92, s[n]] (by have := HLn.out; simp at this ⊢; omega)
      obtain ⟨a', k', c', rfl⟩ : ∃ a k c, v' = .slice a k c := by obtain ⟨a, c, e, -⟩ := owns_cellsB o1.1; exact ⟨a, _, c, e⟩
      have HN : Hid (OutB w (.slice a' k' c') (34 :: quoteA ((bs s).take (n + 1))) w1) := by
        show OutB _ _ _ _
        rw [HST.out, HQ.out]; exact o1
      clear HO o1 HQ HST HLn
      clear h1 e10 e13 e9
      rcases hc with e | ⟨e, e'⟩
      · rw [e] at e34
        go_wp2_with (at_builtin; refine Lib.wpList_append_run _ rfl _ _ _ _ rfl _ _ rfl rfl _ _ r1 ?_)
        refine ⟨⟨n + 1, _, _, _, rfl, by simp, by omega, HN⟩, ?_⟩
        show s.size - (n + 1) < s.size - n
        omega
      · rw [e] at e34
        rw [e'] at e92
        go_wp2_with (at_builtin; refine Lib.wpList_append_run _ rfl _ _ _ _ rfl _ _ rfl rfl _ _ r1 ?_)
        refine ⟨⟨n + 1, _, _, _, rfl, by simp, by omega, HN⟩, ?_⟩
        show s.size - (n + 1) < s.size - n
        omega
    have f34 : ¬ s[n] = 34 := fun e => h1 (.inl e)
    have f92 : ¬ s[n] = 92 := fun e => h1 (.inr e)
    rw [decide_eq_false f34] at e34
    rw [decide_eq_false f92] at e92
    by_cases g10 : s[n] = 10
    · rw [decide_eq_true g10] at e10
      have HQ : Hid (quoteB s[n] = [92, 110]) := by show _ = _; unfold quoteB; rw [if_neg h1, if_pos g10]
      obtain ⟨v', w1, r1, o1⟩ := (HO.out).put [92, 110] (by have := HLn.out; simp at this ⊢; omega)
      obtain ⟨a', k', c', rfl⟩ : ∃ a k c, v' = .slice a k c := by obtain ⟨a, c, e, -⟩ := owns_cellsB o1.1; exact ⟨a, _, c, e⟩
      have HN : Hid (OutB w (.slice a' k' c') (34 :: quoteA ((bs s).take (n + 1))) w1) := by
        show OutB _ _ _ _
        rw [HST.out, HQ.out]; exact o1
      clear HO o1 HQ HST HLn
      go_wp2_with (at_builtin; refine Lib.wpList_append_run _ rfl _ _ _ _ rfl _ _ rfl rfl _ _ r1 ?_)
      refine ⟨⟨n + 1, _, _, _, rfl, by simp, by omega, HN⟩, ?_⟩
      show s.size - (n + 1) < s.size - n
      omega
    rw [decide_eq_false g10] at e10
    by_cases g13 : s[n] = 13
    · rw [decide_eq_true g13] at e13
      have HQ : Hid (quoteB s[n] = [92, 114]) := by show _ = _; unfold quoteB; rw [if_neg h1, if_neg g10, if_pos g13]
      obtain ⟨v', w1, r1, o1⟩ := (HO.out).put [92, 114] (by have := HLn.out; simp at this ⊢; omega)
      obtain ⟨a', k', c', rfl⟩ : ∃ a k c, v' = .slice a k c := by obtain ⟨a, c, e, -⟩ := owns_cellsB o1.1; exact ⟨a, _, c, e⟩
      have HN : Hid (OutB w (.slice a' k' c') (34 :: quoteA ((bs s).take (n + 1))) w1) := by
        show OutB _ _ _ _
        rw [HST.out, HQ.out]; exact o1
      clear HO o1 HQ HST HLn
      go_wp2_with (at_builtin; refine Lib.wpList_append_run _ rfl _ _ _ _ rfl _ _ rfl rfl _ _ r1 ?_)
      refine ⟨⟨n + 1, _, _, _, rfl, by simp, by omega, HN⟩, ?_⟩
      show s.size - (n + 1) < s.size - n
      omega
    rw [decide_eq_false g13] at e13
    by_cases g9 : s[n] = 9
    · rw [decide_eq_true g9] at e9
      have HQ : Hid (quoteB s[n] = [92, 116]) := by show _ = _; unfold quoteB; rw [if_neg h1, if_neg g10, if_neg g13, if_pos g9]
      obtain ⟨v', w1, r1, o1⟩ := (HO.out).put [92, 116] (by have := HLn.out; simp at this ⊢; omega)
      obtain ⟨a', k', c', rfl⟩ : ∃ a k c, v' = .slice a k c := by obtain ⟨a, c, e, -⟩ := owns_cellsB o1.1; exact ⟨a, _, c, e⟩
      have HN : Hid (OutB w (.slice a' k' c') (34 :: quoteA ((bs s).take (n + 1))) w1) := by
        show OutB _ _ _ _
        rw [HST.out, HQ.out]; exact o1
      clear HO o1 HQ HST HLn
      go_wp2_with (at_builtin; refine Lib.wpList_append_run _ rfl _ _ _ _ rfl _ _ rfl rfl _ _ r1 ?_)
      refine ⟨⟨n + 1, _, _, _, rfl, by simp, by omega, HN⟩, ?_⟩
      show s.size - (n + 1) < s.size - n
      omega
    rw [decide_eq_false g9] at e9
    by_cases g32 : s[n].toNat < 32
    case neg =>
      have j1 : decide ((s[n].toNat : Int) < 32) = false := by simp; omega
      have HQ : Hid (quoteB s[n] = [s[n]]) := by show _ = _; unfold quoteB; rw [if_neg h1, if_neg g10, if_neg g13, if_neg g9, if_neg g32]
      obtain ⟨v', w1, r1, o1⟩ := (HO.out).put [s[n]] (by have := HLn.out; simp at this ⊢; omega)
      obtain ⟨a', k', c', rfl⟩ : ∃ a k c, v' = .slice a k c := by obtain ⟨a, c, e, -⟩ := owns_cellsB o1.1; exact ⟨a, _, c, e⟩
      have HN : Hid (OutB w (.slice a' k' c') (34 :: quoteA ((bs s).take (n + 1))) w1) := by
        show OutB _ _ _ _
        rw [HST.out, HQ.out]; exact o1
      clear HO o1 HQ HST HLn
      go_wp2_with (at_builtin; refine Lib.wpList_append_run _ rfl _ _ _ _ rfl _ _ rfl rfl _ _ r1 ?_)
      refine ⟨⟨n + 1, _, _, _, rfl, by simp, by omega, HN⟩, ?_⟩
      show s.size - (n + 1) < s.size - n
      omega
    have j1 : decide ((s[n].toNat : Int) < 32) = true := by simp; omega
    obtain ⟨q, hq⟩ : ∃ q, s[n].toNat / 16 = q := ⟨_, rfl⟩
    obtain ⟨r, hr⟩ : ∃ r, s[n].toNat % 16 = r := ⟨_, rfl⟩
    have d1 : (s[n].toNat : Int) / 16 = (q : Int) := by omega
    have d2 : (s[n].toNat : Int) % 16 = (r : Int) := by omega
    have d3 : (s[n].toNat : Int).tdiv 16 = (q : Int) := by rw [Int.tdiv_eq_ediv_of_nonneg (by omega)]; exact d1
    have d4 : (s[n].toNat : Int).tmod 16 = (r : Int) := by rw [Int.tmod_eq_emod_of_nonneg (by omega)]; exact d2
    obtain ⟨hq1, hq2⟩ := hexc_lt q (by omega)
    obtain ⟨hr1, hr2⟩ := hexc_lt r (by omega)
    have d5 : (q : Int) < 16 := by omega
    have d6 : (r : Int) < 16 := by omega
    have d7 : (0 : Int) ≤ (q : Int) := Int.natCast_nonneg _
    have d8 : (0 : Int) ≤ (r : Int) := Int.natCast_nonneg _
    have d9 : IntKind.u8.wrap (q : Int) = (q : Int) := by simp [IntKind.wrap, IntKind.bits, IntKind.signed]; omega
    have d10 : IntKind.u8.wrap (r : Int) = (r : Int) := by simp [IntKind.wrap, IntKind.bits, IntKind.signed]; omega
    have HQ : Hid (quoteB s[n] = [92, 117, 48, 48, hexc q, hexc r]) := by show _ = _; unfold quoteB; rw [if_neg h1, if_neg g10, if_neg g13, if_neg g9, if_pos g32, hq, hr]
    have HOd : Hid (OutB w (.slice a k c) (34 :: quoteA ((bs s).take n)) wr.drew) := ⟨(Kp.ofBelow ((Below.refl _ wr).drew) (fun _ => False)).owns (HO.out).1 (fun _ _ => id), (HO.out).2.drew⟩
    obtain ⟨v', w1, r1, o1⟩ := (HOd.out).put [92, 117, 48, 48, hexc q, hexc r] (by have := HLn.out; simp at this ⊢; omega)
    obtain ⟨a', k', c', rfl⟩ : ∃ a k c, v' = .slice a k c := by obtain ⟨a, c, e, -⟩ := owns_cellsB o1.1; exact ⟨a, _, c, e⟩
    have HN : Hid (OutB w (.slice a' k' c') (34 :: quoteA ((bs s).take (n + 1))) w1) := by
      show OutB _ _ _ _
      rw [HST.out, HQ.out]; exact o1
    have R1 := hide r1
    clear HO HOd o1 HQ HST HLn r1 hq hr
    go_wp2_with fail
    go_region_held3 (fun _ => True) (exact trivial) ((refine step_runW _ (by rfl) _ _ 53 53 (by rfl) (by rfl) (.slice a k c) _ (by rfl) (by rfl) _ w1 R1.out ?_))
    all_goals go_wp2_with fail
    all_goals
      refine ⟨⟨n + 1, _, _, _, rfl, by simp, by omega, HN⟩, ?_⟩
      show s.size - (n + 1) < s.size - n
      omega
end Go.Proofs.YtcibflndpckkkaaDoor
