/- Package lay: any expression; a def; the lines of an item. -/
import Derived.Test.YtohpfegpnbdfnaaGreatDoorLpv
import Derived.Test.YtohpfegpnbdfnaaGreatDoorLr
namespace Go.Proofs.YtohpfegpnbdfnaaGreatDoor
open Go.RowKit
open M
/-- Any expression is laid out. -/
theorem gexpr_any (L : List X.Lf) (hL : L.length ≤ 268435456) (hF : (X.flt L).length ≤ 8589934592) : ∀ (m : Nat) (p : X.Part), X.psz p ≤ m → X.Sh p → XC L p := by
  intro m
  induction m with
  | zero => intro p h; have := X.psz_pos p; omega
  | succ m ih =>
    intro p hm hs
    have hs' := hs
    have key : ∀ {k : Nat} {ps : List X.Part}, X.psz (.br k ps) ≤ m + 1 → ∀ q ∈ X.pts ps, X.psz q ≤ m := fun {k ps} h q hq => by
      obtain ⟨j, hj⟩ := List.getElem?_of_mem ((List.mem_filter.1 hq).1)
      have := X.pssz_mem ps j q hj
      rw [X.psz] at h
      omega
    cases hs with
    | tok k t ps hk h => exact gexpr_tok L hL hF k ps hk hs'
    | lett ps a b c d p q h hp hq => exact gexpr_let L hL hF ps a b c d p q h hq (ih q (key hm q (by rw [h]; simp)) hq) hs'
    | ite ps a b c p q s h hc hp hq hs => exact gexpr_if L hL hF ps a b c p q s h hc hp hq hs (ih q (key hm q (by rw [h]; simp)) hq) (ih s (key hm s (by rw [h]; simp)) hs) hs'
    | fn ps a b qs p h hp => exact gexpr_fun L hL hF ps a b qs p h hp (ih p (key hm p (by rw [h]; simp)) hp) hs'
    | bin ps p a q h hp hq => exact gexpr_bin L hL hF ps a p q h hp hq (ih p (key hm p (by rw [h]; simp)) hp) (ih q (key hm q (by rw [h]; simp)) hq) hs'
    | call ps p qs h hp hb =>
      have hmq : X.psz (.br 12 qs) ≤ m + 1 := Nat.le_succ_of_le (key hm (.br 12 qs) (by rw [h]; simp))
      generalize hg : X.pts qs = l at hb
      cases hb with
      | none _ _ a b ha hb => exact gexpr_call0 L hL hF ps p qs h hp a b hg hs'
      | some _ _ a l ha hsa => exact gexpr_call L hL hF ps p qs h hp a l _ hg ha hsa (fun q hq hsq => ih q (key hmq q (by rw [hg]; exact List.mem_cons_of_mem _ hq)) hsq) hs'
    | list ps hb =>
      generalize hg : X.pts ps = l at hb
      cases hb with
      | none _ _ a b ha hb => exact gexpr_list0 L hL hF ps a b hg hs'
      | some _ _ a l ha hsa => exact gexpr_list L hL hF ps a l _ hg ha hsa (fun q hq hsq => ih q (key hm q (by rw [hg]; exact List.mem_cons_of_mem _ hq)) hsq) hs'
    | group ps a p b h ha hb hp => exact gexpr_group L hL hF ps a [p, X.lf b] _ h ha (.last _ p b hp hb) (fun q hq hsq => ih q (key hm q (by rw [h]; exact List.mem_cons_of_mem _ hq)) hsq) hs'
set_option maxRecDepth 100000 in
set_option maxHeartbeats 8000000 in
theorem gdef_any (L : List X.Lf) (hL : L.length ≤ 268435456) (ps M : List X.Part) (q : X.Part) (tz : X.Tok) (hsp : X.pts ps = M ++ [q, X.lf tz]) (hq : X.Sh q) (htz : tz.2 = [59]) (ih : XC L q) (w : World) (Q R : Nat) (rm : List (List UInt8)) (D : Nat → Prop) (v : Value) (hr : IsRow w R rm L) (hg : ∃ lv, IsPg w Q R [] lv) (h : IsPt w D 0 v (.br 4 ps)) (hA : L = X.fl false (.br 4 ps)) (hMn : X.nts' M ≠ []) (hd : 2 + X.dp q ≤ 522) :
    Calls Tryz.prog 63 #[.pointer (some ⟨Q, 0, none⟩), v] w fun e w' => e = .returned (.tuple #[]) ∧ Hid (∃ ls, X.RG L 0 L.length ls (X.flat M ++ ([10] ++ X.ex (X.nt q).length 2 q [59])) ∧ PgTo w Q R ls w') := by
  have hlz : X.lou tz = true := X.mem_pts hsp (by simp)
  have hnz : (X.nt (X.lf tz)).length = 1 := by rw [X.nt_lf, if_pos hlz]; rfl
  have hfl : L = X.fls false M ++ (X.fl false q ++ [(tz, false)]) := by
    rw [hA, X.fl_br, X.fls_pts, hsp]
    show X.fls false (M ++ [q, X.lf tz]) = _
    rw [X.fls_append, X.fls, X.fls_one, X.fl_lf hlz]; rfl
  have htk : X.tks (X.kidsOf (.br 4 ps)) = X.tks M ++ [q, X.lf tz] := by
    rw [show X.kidsOf (.br 4 ps) = ps from rfl, X.tks_pts, hsp, X.tks_append]
    congr 1
    refine X.tks_all (fun x hx => ?_)
    simp only [List.mem_cons, List.not_mem_nil, or_false] at hx
    rcases hx with rfl | rfl
    · exact hq.ne
    · exact X.nt_lf_ne hlz
  have hAt : X.Ats L 0 (X.fls false M ++ (X.fl false q ++ [(tz, false)])) := by rw [← hfl]; exact X.Ats.all L
  have hMl : (X.nts' (X.tks M)).length = (X.fls false M).length := by rw [X.nts_tks, X.fls_len]
  have hMf : X.fls false M ≠ [] := fun e => hMn (List.length_eq_zero_iff.1 (by rw [← X.fls_len false, e]; rfl))
  have hLl : L.length = (X.fls false M).length + ((X.nt q).length + 1) := by
    conv => lhs; rw [hfl]
    rw [List.length_append, List.length_append, X.fl_len]; rfl
  obtain ⟨ao, cap, hv, hc1, hc2, hk⟩ := h.kid
  obtain ⟨g, b1, b2, b3, rfl, ⟨cur, hgb⟩, c0, c1, c2, c3, hPq⟩ := hk (X.tks M).length q (by rw [htk, List.getElem?_append_right (Nat.le_refl _), Nat.sub_self]; rfl)
  have etk : (X.tks (X.kidsOf (.br 4 ps))).take (X.tks M).length = X.tks M := by rw [htk, List.take_left' rfl]
  rw [etk, hMl, Nat.zero_add] at c1 c2 hPq
  have hnl : (X.tks (X.kidsOf (.br 4 ps))).length = (X.tks M).length + 2 := by rw [htk, List.length_append]; rfl
  rw [hnl] at hv hc1
  subst hv
  generalize (X.tks M).length = ml at *
  have hnt0 : 0 + (X.nt (.br 4 ps)).length = L.length := by
    rw [hA, X.fl_len]; omega
  rw [hnt0]
  obtain ⟨LL, hLL⟩ : ∃ LL, LL = L.length := ⟨_, rfl⟩
  rw [← hLL, show X.kindOf (.br 4 ps) = 4 from rfl]
  obtain ⟨fq, hfq⟩ : ∃ fq, fq = (X.fls false M).length := ⟨_, rfl⟩
  rw [← hfq] at c1 c2 hPq
  generalize htq : fq + (X.nt q).length = tq at *
  have hgl := heap_lt hgb
  have hml : ml + 2 ≤ 9223372036854775807 := by unfold maxLen at hc2; omega
  have i1 : (0 : Int) ≤ (ml : Int) := Int.natCast_nonneg _
  have i2 : (ml : Int) < (ml : Int) + 2 := by omega
  have hw1 : IntKind.i64.wrap ((ml : Int) + 2 - 2) = (ml : Int) := by rw [IntKind.wrap_i64]; omega
  have hw2 : IntKind.i64.wrap (ml : Int) = (ml : Int) := by rw [IntKind.wrap_i64]; omega
  have HFQ := hide hfq
  have HTQ := hide htq
  have HLL := hide hLL
  have HR := hide hr
  have HG := hide hg
  have HQ := hide hPq
  have HAT := hide hAt
  have hbig : (X.nt q).length ≤ 268435455 := by omega
  have HFB : Hid (fq + (X.nt q).length ≤ 268435456) := by show _ ≤ _; omega
  have HEND : Hid (∀ l1, X.SG L fq (X.nt q).length l1 (X.ex (X.nt q).length 2 q) → X.RG L 0 L.length ([(0, 0, fq)] ++ X.cl l1) (X.flat M ++ ([10] ++ X.ex (X.nt q).length 2 q [59]))) := fun l1 h1 => by
    have h0 := X.RG.first (n := 0) (j := fq) hAt.left hMf (by omega) (by rw [hfq]; omega)
    have hz : L[fq + (X.nt q).length]? = some (tz, false) := by
      have h2 := hAt.right.right
      rw [X.fl_len, Nat.zero_add, ← hfq] at h2
      exact h2.get
    have h3 := h1.close hz (.inr htz)
    rw [hfq, ← Nat.zero_add (X.fls false M).length] at h3
    have h4 := h0.app h3
    have e1 : (X.fls false M).length + ((X.nt q).length + 1) = L.length := hLl.symm
    rw [e1] at h4
    have e2 : X.line 0 (X.flt (X.fls false M)) ++ X.ex (X.nt q).length 2 q (tz, false).1.2 = X.flat M ++ ([10] ++ X.ex (X.nt q).length 2 q [59]) := by
      show X.line 0 (X.flat M) ++ X.ex _ 2 q tz.2 = _
      rw [htz]
      unfold X.line
      simp
    rw [e2] at h4
    rw [hfq] at h4 ⊢
    exact h4
  clear h hk hr hg hPq hAt hsp hq htz hlz hnz hfl htk hMl hMf hLl hfq htq hLL hc1 hc2 etk hnl hnt0 hA hMn
  go_enter Tryz.func63, Tryz.ntmps63
  go_wp2_with fail
  have k2 : Below w.heap.size w ((w.alloc (.cells #[.int .i64 4, .int .i64 0, .int .i64 LL, .slice (some ⟨g, 0, none⟩) (ml + 2) cap] 95)).alloc (.cells #[.int .i64 (X.kindOf q), .int .i64 fq, .int .i64 tq, .slice b1 b2 b3] 95)) := ((Below.refl _ w).alloc (Nat.le_refl _) _).alloc (by simp) _
  have hb1 : ((w.alloc (.cells #[.int .i64 4, .int .i64 0, .int .i64 LL, .slice (some ⟨g, 0, none⟩) (ml + 2) cap] 95)).alloc (.cells #[.int .i64 (X.kindOf q), .int .i64 fq, .int .i64 tq, .slice b1 b2 b3] 95)).heap[w.heap.size + 1]? = some (.cells #[.int .i64 (X.kindOf q), .int .i64 fq, .int .i64 tq, .slice b1 b2 b3] 95 (0, 0)) := new_at _ _ (by simp)
  generalize ((w.alloc (.cells #[.int .i64 4, .int .i64 0, .int .i64 LL, .slice (some ⟨g, 0, none⟩) (ml + 2) cap] 95)).alloc (.cells #[.int .i64 (X.kindOf q), .int .i64 fq, .int .i64 tq, .slice b1 b2 b3] 95)) = W2 at *
  have c2' := Kp.ofBelow k2 (fun _ => False)
  obtain ⟨lv, hlv⟩ := HG.out
  refine (gadd_any 0 0 fq Q R [] W2 ⟨lv, hlv.below k2⟩ (by simp)).mono ?_
  rintro e w3 ⟨rfl, H3⟩
  have hb3 := (H3.out).2.heap hb1 PT.pt
  have HIH := hide (ih (X.nt q).length 2 fq w3 Q R rm D (.agg #[.int .i64 (X.kindOf q), .int .i64 fq, .int .i64 tq, .slice b1 b2 b3]) ([] ++ [(0, 0, fq)]) (((HR.out).below k2).keep (H3.out).2 (fun t ht => PT.rt ht)) (H3.out).1 (IsPt.fk (H3.out).2 PT.pt ((HQ.out).kept c2' (fun _ h => h.elim))) (by
    have h := (HAT.out).right.left
    rw [Nat.zero_add, ← HFQ.out] at h
    exact h) (Nat.le_refl _) hd (by simp; omega))
  have x0 := cell_of_row w3 _ 0 _ _ _ hb3
  have x1 := cell_of_row w3 _ 1 _ _ _ hb3
  have x2 := cell_of_row w3 _ 2 _ _ _ hb3
  have x3 := cell_of_row w3 _ 3 _ _ _ hb3
  have HK3 := hide (PgTo.from k2 H3.out)
  clear H3 hb3 hb1 k2 c2' hlv HG
  go_wp2_with fail
  refine (HIH.out).mono ?_
  rintro e w4 ⟨rfl, H4⟩
  obtain ⟨l1, h1, h2⟩ := H4.out
  have HS1 := hide h1
  have HP1 := hide h2
  have hl1 := h1.rg.len
  clear H4 h1 h2 HIH
  go_wp2_with fail
  refine (gclose_any Q R ([] ++ [(0, 0, fq)]) l1 w4 (HP1.out).1 (HS1.out).ne (by simp; omega) (fun x hx => by have := ((HS1.out).rg.inr x hx).2.2; have := HFB.out; omega)).mono ?_
  rintro e w5 ⟨rfl, H5⟩
  have HF : Hid (∃ ls, X.RG L 0 L.length ls (X.flat M ++ ([10] ++ X.ex (X.nt q).length 2 q [59])) ∧ PgTo w Q R ls w5) := ⟨_, (HEND.out) l1 HS1.out, PgTo.trans (PgTo.trans HK3.out HP1.out) H5.out⟩
  clear H5 HP1 HK3
  go_wp2_with fail
  go_end0
  rw [← HLL.out] at HF
  exact ⟨rfl, HF⟩
end Go.Proofs.YtohpfegpnbdfnaaGreatDoor
/- Package lay: the lines of an item. -/
namespace Go.Proofs.YtohpfegpnbdfnaaGreatDoor
open Go.RowKit
open M
/-- What lines gives of a kid of the root that was read. -/
def LinesOut (p : X.Part) : List UInt8 := if X.kindOf p = 0 then [] else X.item p
set_option maxRecDepth 100000 in
set_option maxHeartbeats 8000000 in
theorem alines_any (p : X.Part) (hk : X.KidW p) (hdp : X.dps (X.kidsOf p) ≤ 520) (L : List X.Lf) (hL : L.length ≤ 268435456) (hF : (X.flt L).length ≤ 8589934592) (hA : L = X.fl false p) (hne : X.quietP p = false → X.nt p ≠ []) (w : World) (R : Nat) (rm : List (List UInt8)) (D : Nat → Prop) (v : Value) (hr : IsRow w R rm L) (h : IsPt w D 0 v p) :
    Calls Tryz.prog 41 #[.pointer (some ⟨R, 0, none⟩), v] w fun e w' => ∃ (ls : List X.Lne) (lv : Value), e = .returned lv ∧ Hid (X.RG L 0 L.length ls (LinesOut p) ∧ w'.ownsRow w.heap.size 103 3 lv ls.length (lnv ls) ∧ Below w.heap.size w w') := by
  obtain ⟨ao, cap, hv, hc1, hc2, hkid⟩ := h.kid
  have hLl : L.length = (X.nt p).length := by rw [hA, X.fl_len]
  have HPT := hide h
  subst hv
  rw [Nat.zero_add, ← hLl] at HPT ⊢
  obtain ⟨LL, hLL⟩ : ∃ LL, LL = L.length := ⟨_, rfl⟩
  rw [← hLL] at HPT ⊢
  obtain ⟨kk, hkk⟩ : ∃ kk, kk = X.kindOf p := ⟨_, rfl⟩
  rw [← hkk] at HPT ⊢
  generalize (X.tks (X.kidsOf p)).length = nn at *
  have k2 : Below w.heap.size w ((w.alloc (.cells #[.int .i64 kk, .int .i64 0, .int .i64 LL, .slice ao nn cap] 95)).alloc (.cells #[.pointer (some ⟨R, 0, none⟩), .slice none 0 0] 141)) := ((Below.refl _ w).alloc (Nat.le_refl _) _).alloc (by simp) _
  have HK2 := hide k2
  have HR2 := hide (hr.below k2)
  have hbx : ((w.alloc (.cells #[.int .i64 kk, .int .i64 0, .int .i64 LL, .slice ao nn cap] 95)).alloc (.cells #[.pointer (some ⟨R, 0, none⟩), .slice none 0 0] 141)).heap[w.heap.size]? = some (.cells #[.int .i64 kk, .int .i64 0, .int .i64 LL, .slice ao nn cap] 95 (0, 0)) := (heap_alloc_old _ _ (by simp)).trans (heap_alloc_new w _)
  have hpg : IsPg ((w.alloc (.cells #[.int .i64 kk, .int .i64 0, .int .i64 LL, .slice ao nn cap] 95)).alloc (.cells #[.pointer (some ⟨R, 0, none⟩), .slice none 0 0] 141)) (w.heap.size + 1) R [] (.slice none 0 0) := ⟨new_at _ _ (by simp), World.ownsRow_nil _ _ _ _⟩
  have HP2 := hide ((HPT.out).kept (Kp.ofBelow k2 (fun _ => False)) (fun _ e => e.elim))
  have hz2 : ((w.alloc (.cells #[.int .i64 kk, .int .i64 0, .int .i64 LL, .slice ao nn cap] 95)).alloc (.cells #[.pointer (some ⟨R, 0, none⟩), .slice none 0 0] 141)).heap.size = w.heap.size + 2 := by simp
  have HBX := hide hbx
  have HPG := hide hpg
  have HLL := hide hLL
  have HZ2 := hide hz2
  -- how it ends
  have HEND : Hid (∀ (ls : List X.Lne) (w' : World), X.RG L 0 L.length ls (LinesOut p) → PgTo ((w.alloc (.cells #[.int .i64 kk, .int .i64 0, .int .i64 LL, .slice ao nn cap] 95)).alloc (.cells #[.pointer (some ⟨R, 0, none⟩), .slice none 0 0] 141)) (w.heap.size + 1) R ls w' → ∃ lv, w'.cell? ⟨w.heap.size + 1, 1, none⟩ = some lv ∧ Hid (X.RG L 0 L.length ls (LinesOut p) ∧ w'.ownsRow w.heap.size 103 3 lv ls.length (lnv ls) ∧ Below w.heap.size w w')) := fun ls w' hR hP => by
    obtain ⟨⟨lv, hlv⟩, hk⟩ := hP
    refine ⟨lv, cell_of_row w' _ 1 _ _ _ hlv.blk, hR, ?_, ?_⟩
    · rcases hlv.row with ⟨h1, h2 | ⟨g, cp, cur, e, hb, rest⟩⟩
      · exact ⟨h1, .inl h2⟩
      · exact ⟨h1, .inr ⟨g, cp, cur, e, by omega, rest⟩⟩
    · exact (HK2.out).trans (Kp.below hk (by have := HZ2.out; omega) (fun q hq => by have := hq.1; omega))
  have hRwl : X.KidW p → ((X.quietP p = true ∧ L = [] ∧ kk = 0) ∨ (X.quietP p = false ∧ L ≠ [] ∧ (kk = 3 ∨ kk = 4))) := fun hk => by
    rcases hk with hq | ⟨ps, rfl⟩ | ⟨ps, l, q, t, rfl, -⟩
    · refine .inl ⟨hq, ?_, ?_⟩
      · exact List.length_eq_zero_iff.1 (by rw [hLl, X.nt_quiet hq]; rfl)
      · cases p with
        | leaf k x => exact hkk
        | miss m => cases hq
        | br k ps => cases hq
    · exact .inr ⟨rfl, fun e => hne rfl (List.length_eq_zero_iff.1 (by rw [← hLl, e]; rfl)), .inl hkk⟩
    · exact .inr ⟨rfl, fun e => hne rfl (List.length_eq_zero_iff.1 (by rw [← hLl, e]; rfl)), .inr hkk⟩
  have HONE : Hid (X.quietP p = false → (kk = 3 ∨ X.chars (X.flt L) ≤ 80) → L ≠ [] → X.RG L 0 L.length [(0, 0, LL)] (LinesOut p)) := fun hq hc hn => by
    have h1 := X.RG.first (n := 0) (j := LL) (X.Ats.all L) hn (by omega) (by rw [hLL]; omega)
    have e1 : LinesOut p = X.line 0 (X.flt L) := by
      unfold LinesOut
      have hk0 : X.kindOf p ≠ 0 := by
        rcases hRwl hk with ⟨e, -⟩ | ⟨-, -, e⟩
        · rw [hq] at e; cases e
        · omega
      have hfl : X.flat [p] = X.flt L := by rw [X.flat_one, hA]
      rw [if_neg hk0]
      unfold X.item
      rw [if_pos (by rcases hc with e | e; exact .inl (by omega); exact .inr (by rw [hfl]; exact e)), hfl]
      rfl
    rw [e1]; exact h1
  have HFIT := hide (fun W (hI : IsRow W R rm L) (hn : L ≠ []) => afits_any L L 0 LL R rm W kk ao nn cap 80 hI (X.Ats.all L) hn (by rw [hLL]; omega) hL hF (by omega) (by omega))
  rcases hRwl hk with ⟨hq, hLe, hk0⟩ | ⟨hq, hLn, hk34⟩
  · -- nothing
    have e0 : ((kk : Int) == 4) = false := by rw [hk0]; rfl
    have hLL0 : LL = 0 := by rw [hLL, hLe]; rfl
    have i1 : decide ((0 : Int) < (LL : Int)) = false := by rw [hLL0]; rfl
    have i2 : decide (0 < LL) = false := by rw [hLL0]; rfl
    have HR0 : Hid (X.RG L 0 L.length [] (LinesOut p)) := by
      have : LinesOut p = [] := by unfold LinesOut; rw [if_pos (by omega)]
      rw [this, hLe]; exact X.RG.nil _ _
    obtain ⟨lv, hlv1, hlv2⟩ := (HEND.out) [] _ HR0.out ⟨⟨_, HPG.out⟩, FK.refl _ _ _⟩
    have HF := hlv2
    clear HEND HONE HFIT HR0 hRwl hLL hkk hk hkid hr h k2 hbx hpg hz2 hA hne hLl hLe hk0 hLL0 hlv2
    go_enter Tryz.func41, Tryz.ntmps41
    go_wp2_with fail
    go_ret
    refine ⟨[], lv, rfl, ?_⟩
    rw [← HLL.out] at HF
    exact HF
  have hLLp : 0 < LL := by rw [hLL]; exact List.length_pos_iff.2 hLn
  have j1 : decide ((0 : Int) < (LL : Int)) = true := by simp; omega
  have j2 : decide (0 < LL) = true := by simp; omega
  by_cases hk3 : kk = 3
  · have e0 : ((kk : Int) == 4) = false := by rw [hk3]; rfl
    have HR1 := hide ((HONE.out) hq (.inl hk3) hLn)
    clear HONE HFIT hRwl hLL hkk hk hkid hr h k2 hpg hz2 hA hne hLl hk34 hk3 hLLp
    have p1 := cell_of_row _ _ 1 _ _ _ hbx
    have p2 := cell_of_row _ _ 2 _ _ _ hbx
    clear hbx
    go_enter Tryz.func41, Tryz.ntmps41
    go_wp2_with fail
    refine (gadd_any 0 0 LL (w.heap.size + 1) R [] ((w.alloc (.cells #[.int .i64 kk, .int .i64 0, .int .i64 LL, .slice ao nn cap] 95)).alloc (.cells #[.pointer (some ⟨R, 0, none⟩), .slice none 0 0] 141)) ⟨_, HPG.out⟩ (by simp)).mono ?_
    rintro e w5 ⟨rfl, H5⟩
    obtain ⟨lv, hlv1, hlv2⟩ := (HEND.out) [(0, 0, LL)] w5 HR1.out (PgTo.from (Below.refl _ _) H5.out)
    have hl5 : w.heap.size + 1 < w5.heap.size := World.block_lt_of_cell? w5 _ hlv1
    clear H5
    go_wp2_with fail
    go_ret
    refine ⟨[(0, 0, LL)], lv, rfl, ?_⟩
    rw [← HLL.out] at hlv2
    exact hlv2
  have hk4 : kk = 4 := by omega
  have e0 : ((kk : Int) == 4) = true := by rw [hk4]; rfl
  have hz2' := hz2
  by_cases hfit : X.chars (X.flt L) ≤ 80
  · have c0 : decide ((X.chars (X.flt L) : Int) ≤ 80) = true := decide_eq_true (by omega)
    have HR1 := hide ((HONE.out) hq (.inr hfit) hLn)
    have HFT := hide ((HFIT.out) _ HR2.out hLn)
    rw [c0] at HFT
    clear HONE HFIT hRwl hLL hkk hk hkid hr h k2 hpg hz2 hz2' hA hne hLl hk34 hk3 hLLp hk4 hfit c0 hbx
    go_enter Tryz.func41, Tryz.ntmps41
    go_wp2_with fail
    generalize ((w.alloc (.cells #[.int .i64 kk, .int .i64 0, .int .i64 LL, .slice ao nn cap] 95)).alloc (.cells #[.pointer (some ⟨R, 0, none⟩), .slice none 0 0] 141)) = W2 at *
    refine (HFT.out).mono ?_
    rintro e w3 ⟨rfl, k3⟩
    have HK3 := hide k3
    have c3 := Kp.ofBelow k3 (fun _ => False)
    have hb3 := c3.heap HBX.out id
    have p1 := cell_of_row _ _ 1 _ _ _ hb3
    have p2 := cell_of_row _ _ 2 _ _ _ hb3
    have HPG3 := hide ((HPG.out).below k3)
    have hl3 : w.heap.size < w3.heap.size := heap_lt hb3
    clear k3 c3 hb3 HFT
    go_wp2_with fail
    refine (gadd_any 0 0 LL (w.heap.size + 1) R [] w3 ⟨_, HPG3.out⟩ (by simp)).mono ?_
    rintro e w5 ⟨rfl, H5⟩
    obtain ⟨lv, hlv1, hlv2⟩ := (HEND.out) [(0, 0, LL)] w5 HR1.out (PgTo.from HK3.out H5.out)
    have hl5 : w.heap.size + 1 < w5.heap.size := World.block_lt_of_cell? w5 _ hlv1
    clear H5
    go_wp2_with fail
    go_ret
    refine ⟨[(0, 0, LL)], lv, rfl, ?_⟩
    rw [← HLL.out] at hlv2
    exact hlv2
  · have c0 : decide ((X.chars (X.flt L) : Int) ≤ 80) = false := decide_eq_false (by omega)
    have HFT := hide ((HFIT.out) _ HR2.out hLn)
    rw [c0] at HFT
    obtain ⟨ps, l, q, t, hpe, d1, d2, d3, d4⟩ : ∃ ps l q t, p = .br 4 ps ∧ X.pts ps = l ++ [q, X.lf t] ∧ X.Sh q ∧ t.2 = [59] ∧ X.nts' l ≠ [] := by
      rcases hk with e | ⟨ps, rfl⟩ | e
      · rw [hq] at e; cases e
      · exact absurd hkk (by rw [hk4]; show ¬ (4 : Nat) = 3; decide)
      · exact e
    have hdq : 2 + X.dp q ≤ 522 := by
      rw [hpe] at hdp
      have h1 : X.dp q ≤ X.dps ps := X.dps_mem ((List.mem_filter.1 (show q ∈ X.pts ps by rw [d1]; simp)).1)
      have h2 : X.dps (X.kidsOf (.br 4 ps)) = X.dps ps := rfl
      omega
    have HTX : Hid (LinesOut p = X.flat l ++ ([10] ++ X.ex (X.nt q).length 2 q [59])) := by
      show _ = _
      unfold LinesOut
      rw [if_neg (by omega), hpe, X.item_def d1]
      rw [← hpe, X.flat_one, ← hA]; exact hfit
    have HP4 := HP2
    rw [hpe] at HP4
    have HD := hide (fun W v hr hg hp => gdef_any L hL ps l q t d1 d2 d3 (gexpr_any L hL hF _ q (Nat.le_refl _) d2) W (w.heap.size + 1) R rm D v hr hg hp (by rw [← hpe]; exact hA) d4 hdq)
    clear HONE HFIT hRwl hLL hkk hk hkid hr h k2 hpg hz2 hz2' hA hne hLl hk34 hk3 hLLp hk4 hfit c0 hbx d1 d2 d3 d4 hdq hdp hpe
    go_enter Tryz.func41, Tryz.ntmps41
    go_wp2_with fail
    generalize ((w.alloc (.cells #[.int .i64 kk, .int .i64 0, .int .i64 LL, .slice ao nn cap] 95)).alloc (.cells #[.pointer (some ⟨R, 0, none⟩), .slice none 0 0] 141)) = W2 at *
    refine (HFT.out).mono ?_
    rintro e w3 ⟨rfl, k3⟩
    have HK3 := hide k3
    have c3 := Kp.ofBelow k3 (fun _ => False)
    have hb3 := c3.heap HBX.out id
    have p0 := cell_of_row _ _ 0 _ _ _ hb3
    have p1 := cell_of_row _ _ 1 _ _ _ hb3
    have p2 := cell_of_row _ _ 2 _ _ _ hb3
    have p3 := cell_of_row _ _ 3 _ _ _ hb3
    have HPG3 := hide ((HPG.out).below k3)
    have HR3 := hide ((HR2.out).below k3)
    have HP5 := hide ((HP4.out).kept c3 (fun _ e => e.elim))
    have hl3 : w.heap.size < w3.heap.size := heap_lt hb3
    clear k3 c3 hb3 HFT
    go_wp2_with fail
    refine ((HD.out) w3 _ HR3.out ⟨_, HPG3.out⟩ HP5.out).mono ?_
    rintro e w5 ⟨rfl, H5⟩
    obtain ⟨ls, h51, h52⟩ := H5.out
    obtain ⟨lv, hlv1, hlv2⟩ := (HEND.out) ls w5 (by rw [HTX.out]; exact h51) (PgTo.from HK3.out h52)
    have hl5 : w.heap.size + 1 < w5.heap.size := World.block_lt_of_cell? w5 _ hlv1
    clear H5 h51 h52
    go_wp2_with fail
    go_ret
    refine ⟨ls, lv, rfl, ?_⟩
    rw [← HLL.out] at hlv2
    exact hlv2
end Go.Proofs.YtohpfegpnbdfnaaGreatDoor
