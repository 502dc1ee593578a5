/- A Reader of frames: Feed. -/
import Derived.Test.YtcibflndpckkkaaDoorWnh
namespace Go.Proofs.YtcibflndpckkkaaDoor
open Go.RowKit
open Wi
variable {w w' : World} {B : Nat}

/-- A text behind a row of texts. -/
theorem addTxt {base : Nat} {v : Value} {out : List (List UInt8)} (x : List UInt8) (ho : w.ownsRow base 9 1 v out.length (strv out)) (hb : base ≤ w.heap.size) (hl : out.length ≤ 1073741824) :
    ∃ v' w1, (Builtin.append_ #[22, 22] 22 #[v, .slice (some ⟨w.heap.size, 0, none⟩) 1 1]).run Tryd.prog (w.alloc (.cells #[.string (ba x)] 9)) = .ok v' w1 ∧ w1.ownsRow base 9 1 v' (out ++ [x]).length (strv (out ++ [x])) ∧ Kp (fun q => v.ownBlock = some q) w w1 ∧ (∃ ao cap, v' = .slice ao (out.length + 1) cap) := by
  obtain ⟨i0, hi0, hz0, hz1, hz2⟩ := infoW infoS
  have kb : Below w.heap.size w (w.alloc (.cells #[.string (ba x)] 9)) := (Below.refl _ w).alloc (Nat.le_refl _) _
  have ho' := (Kp.ofBelow kb (fun _ => False)).owns ho (fun _ _ => id)
  obtain ⟨v', w1, a1, a2, a3, -⟩ := run_append_own_at (P := Tryd.prog) (w.alloc (.cells #[.string (ba x)] 9)) base 22 22 9 i0 _ 1 16 Tryd.underlying22 hi0 hz0 hz1 hz2 rfl (by decide) v out.length (strv out) ho' ⟨w.heap.size, 0, none⟩ 1 1 [.string (ba x)] rfl (World.news_of_block (heap_alloc_new w _)) (by simp [Value.oneCell']) (by unfold maxLen; omega) (by omega) (by simp; omega)
  have ho2 : w1.ownsRow base 9 1 v' (out ++ [x]).length (strv (out ++ [x])) := by rw [strv_snoc, List.length_append]; exact a2
  refine ⟨v', w1, a1, ho2, Kp.grown (Kp.ofBelow kb _) a3 (fun k e _ => e), ?_⟩
  rcases ho2.2 with ⟨e, h0⟩ | ⟨g, cap, cur, e, -⟩
  · simp at h0
  · exact ⟨some ⟨g, 0, none⟩, cap, by rw [e]; simp⟩
/-- A Reader is kept by what turns a row of texts. -/
theorem RdS.kept {lv : Value} {line : List UInt8} {told : Bool} {len : Int} {inB : Bool} {p bv : Value} {body : List UInt8} {wv : Value} (h : RdS w B lv line told len inB p bv body wv) {base : Nat} {v : Value} {n : Nat} {xs : List Value} (ho : w.ownsRow base 9 1 v n xs) (hk : Kp (fun q => v.ownBlock = some q) w w') : RdS w' B lv line told len inB p bv body wv := by
  have hB : ¬ v.ownBlock = some B := fun e => by
    obtain ⟨-, c, hc⟩ := own_tyB ho e
    exact absurd (cells_tyB hc h.bd.blk) (by decide)
  have hy : ∀ {base2 : Nat} {v2 : Value} {n2 : Nat} {ys : List Value}, w.ownsRow base2 5 1 v2 n2 ys → ∀ q, v2.ownBlock = some q → ¬ v.ownBlock = some q := fun h2 q hq e => by
    obtain ⟨-, c, hc⟩ := own_tyB ho e
    obtain ⟨-, c2, hc2⟩ := own_tyB h2 hq
    exact absurd (cells_tyB hc hc2) (by decide)
  exact ⟨h.bd.keep hk hB (fun q hq => hy h.bd.row q hq), hk.owns h.row (fun q hq => hy h.row q hq), h.apart⟩
/-- A frame is begun. -/
theorem RdS.zero {lv : Value} {told : Bool} {len : Int} {inB : Bool} {p bv : Value} {wv : Value} (h : w.heap[B]? = some (.cells (rdf lv told len inB wv p bv) 72 (0, 0))) :
    RdS ((((((w.setCell ⟨B, 0, none⟩ (.slice none 0 0)).setCell ⟨B, 1, none⟩ (.bool false)).setCell ⟨B, 2, none⟩ (.int .i64 0)).setCell ⟨B, 3, none⟩ (.bool false)).setCell ⟨B, 4, none⟩ (.pointer none)).setCell ⟨B, 5, none⟩ (.slice none 0 0)) B (.slice none 0 0) [] false 0 false (.pointer none) (.slice none 0 0) [] wv ∧ Kp (fun q => q = B) w ((((((w.setCell ⟨B, 0, none⟩ (.slice none 0 0)).setCell ⟨B, 1, none⟩ (.bool false)).setCell ⟨B, 2, none⟩ (.int .i64 0)).setCell ⟨B, 3, none⟩ (.bool false)).setCell ⟨B, 4, none⟩ (.pointer none)).setCell ⟨B, 5, none⟩ (.slice none 0 0)) := by
  have h0 : (w.setCell ⟨B, 0, none⟩ (.slice none 0 0)).heap[B]? = some (.cells #[.slice none 0 0, .bool told, .int .i64 len, .bool inB, p, bv, wv] 72 (0, 0)) := set_blkB h 0 _
  have h1 := set_blkB h0 1 (.bool false)
  have h2 := set_blkB h1 2 (.int .i64 0)
  have h3 := set_blkB h2 3 (.bool false)
  have h4 := set_blkB h3 4 (.pointer none)
  have h5 := set_blkB h4 5 (.slice none 0 0)
  exact ⟨⟨⟨h5, .inl rfl, World.ownsRow_nil _ _ _ _, fun _ => rfl⟩, World.ownsRow_nil _ _ _ _, fun _ hk => by cases hk⟩, kset (kset (kset (kset (kset (kset (Kp.refl (fun q => q = B) w) 0 _) 1 _) 2 _) 3 _) 4 _) 5 _⟩
def lenS (v : Value) : Nat := match v with | .string s => s.size | _ => 0
def inW (B : Nat) (w : World) : Nat := match w.cell? ⟨B, 3, none⟩ with | some (.bool true) => 1 | _ => 0
/-- While a Reader is fed. -/
structure FdI (w : World) (B : Nat) (F : Fr) (N : Nat) (s : Sta) (c : List UInt8) (out : List (List UInt8)) (ov : Value) (wr : World) : Prop where
  ok : Sok s
  rd : IsRd wr B s
  row : wr.ownsRow w.heap.size 9 1 ov out.length (strv out)
  fk : Fk B w wr
  fo : F.out = out ++ (feed s c).out
  fe : F.e = (feed s c).e
  rest : F.e = 0 → F.sz = (feed s c).sz ∧ F.left = (feed s c).left
  len : out.length + (rep s).length + c.length ≤ N
/-- What Feed answers. -/
def FdE (w : World) (B : Nat) (F : Fr) (en : Ending) (w' : World) : Prop :=
  ∃ ov ev, en = .returned (.tuple #[ov, ev]) ∧ w'.ownsRow w.heap.size 9 1 ov F.out.length (strv F.out) ∧ Fk B w w' ∧
    ((F.e = 0 ∧ ev = .nilIface ∧ ∃ s, Sok s ∧ IsRd w' B s ∧ rep s = F.left ∧ siz s = F.sz ∧ ∀ x, s ≠ .bad x) ∨ (F.e ≠ 0 ∧ ev = faV F.e ∧ IsRd w' B (.bad F.e)))
theorem strRow {base : Nat} {v : Value} {n : Nat} {xs : List Value} (h : w.ownsRow base 9 1 v n xs) : ∃ ao cap, v = .slice ao n cap := by
  rcases h.2 with ⟨e, h0⟩ | ⟨g, cap, cur, e, -⟩
  · exact ⟨none, 0, by rw [e, h0]⟩
  · exact ⟨_, cap, e⟩

theorem FdI.answer {F : Fr} {N : Nat} {s : Sta} {c : List UInt8} {out : List (List UInt8)} {ov : Value} {wr W : World} (h : FdI w B F N s c out ov wr) (hb : Below wr.heap.size wr W) (ho : (feed s c).out = []) : W.ownsRow w.heap.size 9 1 ov F.out.length (strv F.out) ∧ Fk B w W ∧ IsRd W B s := by
  refine ⟨?_, h.fk.trans (Fk.below hb), h.rd.below hb⟩
  rw [h.fo, ho, List.append_nil]
  exact (Kp.ofBelow hb (fun _ => False)).owns h.row (fun _ _ => id)
theorem str_not_RTy : ¬ RTy 9 := by rintro (h | h) <;> revert h <;> decide
theorem FdI.own_ge {F : Fr} {N : Nat} {s : Sta} {c : List UInt8} {out : List (List UInt8)} {ov : Value} {wr : World} (h : FdI w B F N s c out ov wr) : ∀ q, ov.ownBlock = some q → w.heap.size ≤ q := fun _ e => (own_tyB h.row e).1
/-- A body is whole: it is told, and a frame is begun. -/
theorem FdI.whole {F : Fr} {N : Nat} {b : List UInt8} {size : Int} {c : List UInt8} {out : List (List UInt8)} {ov : Value} {wr w2 : World} {lv : Value} {told : Bool} {p bv : Value} (h : FdI w B F N (.body b size) c out ov wr) (hr : RdS wr B lv [] told size true p bv b .nilIface) (hw : (b.length : Int) = size) (hN : N ≤ 1073741824) (k2 : Kp (fun k => bv.ownBlock = some k) wr w2) :
    ∃ v' w3, (Builtin.append_ #[22, 22] 22 #[ov, .slice (some ⟨w2.heap.size, 0, none⟩) 1 1]).run Tryd.prog (w2.alloc (.cells #[.string (ba b)] 9)) = .ok v' w3 ∧ (∃ ao cap, v' = .slice ao (out.length + 1) cap) ∧ w3.heap[B]? = some (.cells (rdf lv told size true .nilIface p bv) 72 (0, 0)) ∧
      FdI w B F N (.line [] (-1)) c (out ++ [b]) v' ((((((w3.setCell ⟨B, 0, none⟩ (.slice none 0 0)).setCell ⟨B, 1, none⟩ (.bool false)).setCell ⟨B, 2, none⟩ (.int .i64 0)).setCell ⟨B, 3, none⟩ (.bool false)).setCell ⟨B, 4, none⟩ (.pointer none)).setCell ⟨B, 5, none⟩ (.slice none 0 0)) := by
  have hlen := h.len
  have hB2 := k2.heap hr.bd.blk (fun e => hr.bd.far (rdH _ _ _ _ _) e.symm)
  have ho2 : w2.ownsRow w.heap.size 9 1 ov out.length (strv out) := k2.owns h.row (fun q hq e => by
    obtain ⟨-, c1, hc1⟩ := own_tyB h.row hq
    obtain ⟨-, c2, hc2⟩ := own_tyB hr.bd.row e
    exact absurd (cells_tyB hc1 hc2) (by decide))
  have hsz : w.heap.size ≤ w2.heap.size := Nat.le_trans h.fk.size k2.size
  obtain ⟨v', w3, hrun, ho3, k3, hv⟩ := addTxt b ho2 hsz (by omega)
  have hB3 := k3.heap hB2 (fun e => by
    obtain ⟨-, c1, hc1⟩ := own_tyB ho2 e
    exact absurd (cells_tyB hc1 hB2) (by decide))
  obtain ⟨hz, kz⟩ := RdS.zero hB3
  have f2 : Fk B w w2 := h.fk.trans (k2.mono (fun q _ e => by
    obtain ⟨hq, c2, hc2⟩ := own_tyB hr.bd.row e
    exact ⟨hq, _, _, _, hc2, .inr rfl⟩))
  have f3 : Fk B w w3 := Kp.trans f2 k3 (fun q hq e => by have := (own_tyB ho2 e).1; omega)
  have f4 : Fk B w _ := f3.trans (kz.mono (fun q _ e => by
    have e : q = B := e
    rw [e]; exact ⟨Nat.le_refl _, _, _, _, hB3, .inl rfl⟩))
  have ho4 := kz.owns ho3 (fun q hq e => by
    have e : q = B := e
    obtain ⟨-, c1, hc1⟩ := own_tyB ho3 hq
    rw [e] at hc1
    exact absurd (cells_tyB hc1 hB3) (by decide))
  have hfd := feed_whole (b := b) (s := size) (by omega) hw c
  refine ⟨v', w3, hrun, hv, hB3, ⟨⟨rfl, by unfold tooLong; simp, by decide⟩, ⟨_, false, 0, _, hz, by decide, fun e => absurd e (by decide)⟩, ho4, f4, ?_, ?_, ?_, ?_⟩⟩
  · rw [h.fo, hfd, List.append_assoc]; rfl
  · rw [h.fe, hfd]
  · intro e
    have := h.rest e
    rw [hfd] at this; exact this
  · simp [rep] at hlen ⊢; omega

set_option maxRecDepth 100000 in
set_option maxHeartbeats 4000000 in
theorem feed_any (s : Sta) (c : List UInt8) (h : IsRd w B s) (hs : Sok s) (hl : (rep s).length + c.length ≤ 1073741824) :
    Calls Tryd.prog 15 #[.pointer (some ⟨B, 0, none⟩), .string (ba c)] w fun e w' => FdE w B (feed s c) e w' := by
  obtain ⟨F, hF⟩ : ∃ F, feed s c = F := ⟨_, rfl⟩
  rw [hF]
  have HI : Hid (FdI w B F 1073741824 s c [] (.slice none 0 0) w) := ⟨hs, h, World.ownsRow_nil _ _ _ _, Kp.refl _ w, by rw [hF]; rfl, by rw [hF], fun _ => by rw [hF]; exact ⟨rfl, rfl⟩, by simpa using hl⟩
  clear hF h hs hl
  go_enter Tryd.func15, Tryd.ntmps15
  go_wp2_with fail
  go_loopw [1, 6] (fun cv ov wr => ∃ s c out, cv = .string (ba c) ∧ Hid (FdI w B F 1073741824 s c out ov wr)) (fun cv _ wr => 2 * lenS cv + inW B wr)
  case atStart => exact ⟨s, c, [], rfl, HI⟩
  case round =>
    clear HI
    obtain ⟨s, c, out, rfl, HI⟩ := hrel
    obtain ⟨ao, cap, rfl⟩ := strRow (HI.out).row
    have hcl : lenS (.string (ba c)) = c.length := ba_size c
    have j0 : (ba c).toList.isEmpty = decide (c = []) := by rw [Lib.toList_data]; cases c <;> rfl
    cases s with
    | bad x =>
      obtain ⟨-, -, -, -, -, -, c6⟩ := RdS.cells (HI.out).rd
      go_wp2_with fail
      go_quiet (fail)
      go_wp2_with fail
      go_ret2
      obtain ⟨a1, a2, a3⟩ := (HI.out).answer (belowN (Below.refl _ wr) nq) rfl
      have hx : F.e = x := (HI.out).fe
      refine ⟨_, _, rfl, a1, a2, .inr ⟨by rw [hx]; exact (HI.out).ok, by rw [hx]; rfl, by rw [hx]; exact a3⟩⟩
    | body b size =>
      obtain ⟨lv, told, p, bv, hr, h0⟩ := (HI.out).rd
      obtain ⟨-, -, -, c3, -, -, c6⟩ := hr.cells
      have HRD := hide hr
      have HW := hide (isWhole_any hr)
      have hin : inW B wr = 1 := by unfold inW; rw [c3]
      clear hr
      by_cases hw : (b.length : Int) = size
      · rw [show (true && ((b.length : Int) == size)) = true by simp [hw]] at HW
        go_wp2_with fail
        refine (HW.out).mono ?_
        rintro en w1 ⟨rfl, m, rfl⟩
        have HST := hide (wstring_any (rdH _ _ _ _ _) B b p bv _ ((HRD.out).drew m).bd)
        clear HW
        go_wp2_with fail
        refine (HST.out).mono ?_
        rintro en w2 ⟨rfl, -, k2⟩
        have k2' : Kp (fun k => bv.ownBlock = some k) wr w2 := Kp.trans (Kp.ofBelow (belowN (Below.refl _ wr) m) _) k2 (fun _ _ e => e)
        obtain ⟨v', w3, hrun, ⟨ao', cap', rfl⟩, hB3, hI3⟩ := (HI.out).whole HRD.out hw (Nat.le_refl _) k2'
        have HI3 := hide hI3
        have z0 := cell_blk hB3 (j := 0) rfl
        have z1 := cell_blk hB3 (j := 1) rfl
        have z2 := cell_blk hB3 (j := 2) rfl
        have z3 := cell_blk hB3 (j := 3) rfl
        have z4 := cell_blk hB3 (j := 4) rfl
        have z5 := cell_blk hB3 (j := 5) rfl
        have y0 : ∀ j, w3.frozen? ⟨B, j, none⟩ = false := fun j => by simp [World.frozen?, hB3]
        have y1 := y0 0
        have y2 := y0 1
        have y3 := y0 2
        have y4 := y0 3
        have y5 := y0 4
        have y6 := y0 5
        have HM : Hid (inW B ((((((w3.setCell ⟨B, 0, none⟩ (.slice none 0 0)).setCell ⟨B, 1, none⟩ (.bool false)).setCell ⟨B, 2, none⟩ (.int .i64 0)).setCell ⟨B, 3, none⟩ (.bool false)).setCell ⟨B, 4, none⟩ (.pointer none)).setCell ⟨B, 5, none⟩ (.slice none 0 0)) = 0) := by
          show _ = _
          obtain ⟨lv, told, len, p, hr, -⟩ := hI3.rd
          unfold inW; rw [hr.cells.2.2.2.1]
        clear k2 k2' hI3 hB3 y0 HST HRD HI c3 c6
        go_wp2_with (at_builtin; refine Lib.wpList_append_run _ rfl _ _ _ _ rfl _ _ rfl rfl _ _ hrun ?_)
        go_wp2_with fail
        refine ⟨⟨.line [] (-1), c, out ++ [b], rfl, HI3⟩, ?_⟩
        rw [HM.out, hin]
        omega
      · have hbs : (b.length : Int) < size := by have := (HI.out).ok.1; omega
        rw [show (true && ((b.length : Int) == size)) = false by simp [hw]] at HW
        cases hc : c with
        | nil =>
          subst hc
          have j1 : (ba []).toList.isEmpty = true := by rw [j0]; rfl
          have j1' : (ba []).toList = [] := by simpa using j1
          clear j0
          go_wp2_with fail
          refine (HW.out).mono ?_
          rintro en w1 ⟨rfl, m, rfl⟩
          go_wp2_with fail
          go_ret2
          have hfn := feed_nil_body h0 hbs
          obtain ⟨a1, a2, a3⟩ := (HI.out).answer (belowN (Below.refl _ wr) m) (by rw [hfn])
          have he : F.e = 0 := by rw [(HI.out).fe, hfn]
          have hrs := (HI.out).rest he
          rw [hfn] at hrs
          exact ⟨_, _, rfl, a1, a2, .inl ⟨he, rfl, _, (HI.out).ok, a3, hrs.2.symm, hrs.1.symm, fun x e => by cases e⟩⟩
        | cons x t =>
          have j1 : (ba c).toList.isEmpty = false := by rw [j0, hc]; rfl
          have j1' : ¬ (ba c).toList = [] := by simpa using j1
          have hlen := (HI.out).len
          simp only [rep, List.length_cons] at hlen
          obtain ⟨n, hn⟩ : ∃ n : Nat, (n : Int) = min (c.length : Int) (size - b.length) := ⟨(min (c.length : Int) (size - b.length)).toNat, by omega⟩
          have hc1 : 1 ≤ c.length := by rw [hc]; simp
          have hn1 : 1 ≤ n := by omega
          have hnc : n ≤ c.length := by omega
          rw [← hc]
          have HT : Hid (∀ W, Below wr.heap.size wr W → Calls Tryd.prog 26 #[.pointer (some ⟨B, 0, none⟩), .string (ba c)] W fun e w' => e = .returned (.string (ba (c.drop n))) ∧ IsRd w' B (.body (b ++ c.take n) size) ∧ Fk B W w') := fun W hW =>
            takeBody_any c n ((HI.out).rd.below hW) hn (by omega) (by have := (HI.out).ok.2; omega)
          have c3m : ∀ m, (wr.drewN m).cell? ⟨B, 3, none⟩ = some (.bool true) := fun m => c3
          have HN := hide hn
          clear j0 hw hc hn
          go_wp2_with fail
          refine (HW.out).mono ?_
          rintro en w1 ⟨rfl, m, rfl⟩
          have c3' := c3m m
          have HB1 : Hid (Below wr.heap.size wr (wr.drewN m)) := belowN (Below.refl _ wr) m
          clear c3m
          generalize wr.drewN m = w1 at *
          go_wp2_with fail
          refine ((HT.out) _ HB1.out).mono ?_
          rintro en w2 ⟨rfl, h2, k2⟩
          have HI2 : Hid (FdI w B F 1073741824 (.body (b ++ c.take n) size) (c.drop n) out (.slice ao out.length cap) w2) := by
            have hfb := feed_body (b := b) (s := size) c n
            have hkk : Fk B wr w2 := (Fk.below HB1.out).trans k2
            refine ⟨⟨?_, (HI.out).ok.2⟩, h2, hkk.owns (HI.out).row str_not_RTy, (HI.out).fk.trans hkk, by rw [← hfb]; exact (HI.out).fo, by rw [← hfb]; exact (HI.out).fe, by rw [← hfb]; exact (HI.out).rest, ?_⟩
            · have := HN.out
              simp; omega
            · simp [rep]; omega
          have HM : Hid (inW B w2 = 1) := by
            show _ = _
            obtain ⟨lv, told, p, bv, hr, -⟩ := h2
            unfold inW; rw [hr.cells.2.2.2.1]
          clear h2 k2 HT HW c3 c3' c6
          go_wp2_with fail
          refine ⟨⟨.body (b ++ c.take n) size, c.drop n, out, rfl, HI2⟩, ?_⟩
          rw [HM.out, hin, hcl]
          have : lenS (.string (ba (c.drop n))) = (c.drop n).length := ba_size _
          rw [this, List.length_drop]
          omega
    | line l size =>
      obtain ⟨lv, told, len, p, hr, ht, hle⟩ := (HI.out).rd
      obtain ⟨-, -, -, c3, -, -, c6⟩ := hr.cells
      have HW := hide (isWhole_any hr)
      have hin : inW B wr = 0 := by unfold inW; rw [c3]
      rw [Bool.false_and] at HW
      clear hr ht hle
      cases hc : c with
      | nil =>
        subst hc
        have j1 : (ba []).toList.isEmpty = true := by rw [j0]; rfl
        have j1' : (ba []).toList = [] := by simpa using j1
        clear j0
        go_wp2_with fail
        refine (HW.out).mono ?_
        rintro en w1 ⟨rfl, m, rfl⟩
        go_wp2_with fail
        go_ret2
        have hfn := feed_nil_line (HI.out).ok
        obtain ⟨a1, a2, a3⟩ := (HI.out).answer (belowN (Below.refl _ wr) m) (by rw [hfn])
        have he : F.e = 0 := by rw [(HI.out).fe, hfn]
        have hrs := (HI.out).rest he
        rw [hfn] at hrs
        exact ⟨_, _, rfl, a1, a2, .inl ⟨he, rfl, _, (HI.out).ok, a3, hrs.2.symm, hrs.1.symm, fun x e => by cases e⟩⟩
      | cons x t =>
        have j1 : (ba c).toList.isEmpty = false := by rw [j0, hc]; rfl
        have j1' : ¬ (ba c).toList = [] := by simpa using j1
        have hlen := (HI.out).len
        simp only [rep] at hlen
        have hcne : c ≠ [] := by rw [hc]; simp
        have hc1 : 1 ≤ c.length := by rw [hc]; simp
        rw [← hc]
        have HT : Hid (∀ W, Below wr.heap.size wr W → Calls Tryd.prog 27 #[.pointer (some ⟨B, 0, none⟩), .string (ba c)] W fun e w' => e = .returned (.string (ba (takeL l size c).2)) ∧ IsRd w' B (takeL l size c).1 ∧ Fk B W w') := fun W hW =>
          takeLine_any l c ((HI.out).rd.below hW) (by omega)
        obtain ⟨t0, t1, t2, t3, t4, t5⟩ := takeL_feed size c l (HI.out).ok
        have t6 := takeL_rep size c l
        have HTK := hide (show Sok (takeL l size c).1 ∧ (takeL l size c).2.length < c.length ∧ _ ∧ _ ∧ _ from ⟨t0, t2 hcne, t3, t4, t5⟩)
        have HT6 := hide t6
        have c3m : ∀ m, (wr.drewN m).cell? ⟨B, 3, none⟩ = some (.bool false) := fun m => c3
        clear j0 hc t0 t1 t2 t3 t4 t5 t6
        generalize takeL l size c = K at *
        obtain ⟨s2, c2⟩ := K
        go_wp2_with fail
        refine (HW.out).mono ?_
        rintro en w1 ⟨rfl, m, rfl⟩
        have c3' := c3m m
        have HB1 : Hid (Below wr.heap.size wr (wr.drewN m)) := belowN (Below.refl _ wr) m
        clear c3m
        generalize wr.drewN m = w1 at *
        go_wp2_with fail
        refine ((HT.out) _ HB1.out).mono ?_
        rintro en w2 ⟨rfl, h2, k2⟩
        obtain ⟨t0, t2, t3, t4, t5⟩ := HTK.out
        have HI2 : Hid (FdI w B F 1073741824 s2 c2 out (.slice ao out.length cap) w2) := by
          have hkk : Fk B wr w2 := (Fk.below HB1.out).trans k2
          refine ⟨t0, h2, hkk.owns (HI.out).row str_not_RTy, (HI.out).fk.trans hkk, by rw [← t3]; exact (HI.out).fo, by rw [← t4]; exact (HI.out).fe, fun e => ?_, ?_⟩
          · have e2 := (HI.out).fe
            rw [e] at e2
            have := (HI.out).rest e
            rw [t5 e2.symm] at this; exact this
          · have := HT6.out
            omega
        have HM : Hid (inW B w2 ≤ 1) := by
          show _ ≤ _
          unfold inW; split <;> omega
        have HC2 : Hid (c2.length < c.length) := t2
        clear h2 k2 HT HW c3 c3' c6 HTK t0 t2 t3 t4 t5
        go_wp2_with fail
        refine ⟨⟨s2, c2, out, rfl, HI2⟩, ?_⟩
        rw [hin, hcl]
        have h1 : lenS (.string (ba c2)) = c2.length := ba_size _
        have h2 := HM.out
        have h3 := HC2.out
        rw [h1]
        omega
end Go.Proofs.YtcibflndpckkkaaDoor
