/- holds: what a cell remembers is still so. -/
import Derived.Test.YtdlnlcjmjgbikaaTo
import Derived.LoopTactic
import Derived.Laws.StructEq
namespace Go.Proofs.Ytdlnlcjmjgbikaa
open Go Go.Conc Go.RowKit Go.Deep

noncomputable section
/-- A fact that the walk does not see. -/
def Hid (p : Prop) : Prop := p
theorem hide {p : Prop} (h : p) : Hid p := h
theorem Hid.out {p : Prop} (h : Hid p) : p := h
/-- What is known behind a call that brings. -/
def Brought (R : QR) (Y : QY) (X : Nat → Prop) (ch : Nat → Nat) (S : QS) (w w' : World) (S' : QS) : Prop := ∃ ch', (∀ j, S.hd j = true → ch' j = ch j) ∧ Rd R Y X ch' w' S' ∧ Keep Y.mut w w'
def QO.v (o : QO) : Value := .agg #[.int .i64 o.num, .int .i64 o.err]
/-- The contract of bring, where fewer than m cells are not in hand. -/
def BringOk (R : QR) (Y : QY) (br : QS → Nat → QO × QS) (m : Nat) : Prop := ∀ (X : Nat → Prop) (S : QS) (ch : Nat → Nat) (w : World) (k : Nat), Rd R Y X ch w S → S.Ok R → offs R S < m → k < R.n →
  Calls Sq.prog 46 #[.pointer (some ⟨Y.r, 0, none⟩), .int .i64 0, .int .i64 k] w fun e w' => e = .returned (br S k).1.v ∧ Brought R Y X ch S w w' (br S k).2
def ivn : Value → Nat
  | .int _ n => n.toNat
  | _ => 0
variable {R : QR} {Y : QY} {X : Nat → Prop} {ch : Nat → Nat} {w w' : World} {S : QS} {k m : Nat} {br : QS → Nat → QO × QS}
theorem Brought.refl (h : Rd R Y X ch w S) : Brought R Y X ch S w w S := ⟨ch, fun _ _ => rfl, h, Keep.refl _ _⟩
theorem eq64 (a b c d : Int) (w : World) : (Op.equalIn 10000 64 (.agg #[.int .i64 a, .int .i64 b]) (.agg #[.int .i64 c, .int .i64 d])).run Sq.prog w = .ok (a == c && b == d) w := by
  have u3 := (sq_under 3).trans Try.underlying3
  have u36 := (sq_under 36).trans Try.underlying36
  have u64 := (sq_under 64).trans Try.underlying64
  have hS : Sq.prog.underlying 64 = some (.struct (Sq.prog.fieldsOf 64)) := by simp only [Program.fieldsOf, u64]
  have hp : Sq.prog.stoodInHeld 64 = false := by kernel_rfl
  rw [show (10000 : Nat) = 9999 + 1 from rfl, run_equalIn_agg w 9999 64 _ _ hS hp]
  simp only [Program.fieldsOf, u64]
  go_simp
  by_cases h1 : a = c <;> by_cases h2 : b = d <;> simp [h1, h2]
/-- Do outcomes differ? -/
def QO.nb (o : QO) (c d : Int) : Bool := !(o.num == c && o.err == d)
theorem QO.nb_yes {o : QO} {c d : Int} (h : o ≠ ⟨c, d⟩) : o.nb c d = true := by
  cases o with | mk a b =>
  unfold QO.nb
  simp only [ne_eq, QO.mk.injEq] at h
  by_cases h1 : a = c <;> by_cases h2 : b = d <;> simp [h1, h2]
  exact h ⟨h1, h2⟩
theorem QO.nb_no (c d : Int) : QO.nb ⟨c, d⟩ c d = false := by simp [QO.nb]
theorem neq64 (o : QO) (c d : Int) (w : World) : (binOp .neq 64 o.v (.agg #[.int .i64 c, .int .i64 d])).run Sq.prog w = .ok (.bool (o.nb c d)) w := by
  unfold QO.v QO.nb
  rw [run_neq_struct, eq64]
  rfl
theorem guard64 (o : QO) (x y : Operand) (c d : Int) (w : World) : (eqGuard .neq 64 x y o.v (.agg #[.int .i64 c, .int .i64 d])).run Sq.prog w = .ok () w :=
  run_eqGuard_agg _ _ _ _ _ _ _ (by kernel_rfl)
attribute [local simp] neq64 guard64
set_option maxRecDepth 100000 in
set_option maxHeartbeats 4000000 in
theorem holds_any (hB : BringOk R Y br m) (hbr : Brings R br) (h : Rd R Y X ch w S) (hS : S.Ok R) (hm : offs R S < m) (hk : k < R.n) :
    Calls Sq.prog 71 #[.pointer (some ⟨Y.r, 0, none⟩), .int .i64 0, .int .i64 k] w fun e w' => e = .returned (.bool ((holdsM br (S.mem k).led S).1 && ((holdsM br (S.mem k).led S).2.mem k).ran)) ∧ Brought R Y X ch S w w' (holdsM br (S.mem k).led S).2 := by
  obtain ⟨v, m1, m2⟩ := h.mems k hk
  have c1 := h.r.cell (i := 1) (by decide)
  have c3 := m1.led.1
  rcases m2 with ⟨e0, a, cap, rfl⟩ | ⟨b, cap, rfl, hl2, hM, hb, hl⟩
  · have c0 := m1.ran.1
    have HB := hide (Brought.refl h)
    rw [e0]
    simp only [holdsM, Bool.true_and]
    clear hB h hS hm e0 m1
    simp only [QY.rv] at c1
    go_enter Sq.func71, Sq.ntmps71
    go_wp2_with fail
    refine wp_loop_rounds 1 ?_
    rw [rounds_succ]
    go_wp2_with fail
    go_ret
    exact ⟨rfl, HB⟩
  · have HL := hide hl
    have HS := hide hS
    have HH := hide (Brought.refl h)
    have hk1 := hS.led k hk
    have HM : Hid (¬ Y.mut b) := hide fun m => hM (.inl m)
    have HB := hide hb
    generalize hP : (fun e w' => e = Ending.returned (.bool ((holdsM br (S.mem k).led S).1 && ((holdsM br (S.mem k).led S).2.mem k).ran)) ∧ Brought R Y X ch S w w' (holdsM br (S.mem k).led S).2) = P
    replace hP := hide hP
    obtain ⟨N, hN⟩ : ∃ N, (S.mem k).led.length = N := ⟨_, rfl⟩
    rw [hN] at c3 hl2
    have HN := hide hN
    clear hl hS hM hb h m1 hN
    simp only [QY.rv] at c1
    go_enter Sq.func71, Sq.ntmps71
    go_wp2_with fail
    go_loopw [18] (fun iv wr => ∃ j : Nat, iv = .int .i64 j ∧ j ≤ N ∧ Hid (∃ Sj, holdsM br ((S.mem k).led.drop j) Sj = holdsM br (S.mem k).led S ∧ Brought R Y X ch S w wr Sj ∧ Sj.Ok R ∧ Sj.hd = S.hd)) (fun iv _ => N - ivn iv)
    case atStart => exact ⟨0, rfl, Nat.zero_le _, ⟨S, rfl, HH.out, HS.out, rfl⟩⟩
    case round =>
      obtain ⟨j, rfl, hj, HI⟩ := hrel
      obtain ⟨Sj, hE, ⟨chj, hch, hrd, hkp⟩, hok, hhd⟩ := HI.out
      by_cases hlt : j < N
      · have hjn : j < (S.mem k).led.length := by rw [HN.out]; exact hlt
        have hl := HL.out j hjn
        have hkey := hk1 _ (List.getElem_mem hjn)
        obtain ⟨kk, hkk⟩ : ∃ kk : Nat, (S.mem k).led[j].key = kk := ⟨_, (Int.toNat_of_nonneg hkey.1).symm⟩
        have d0 := hkp.cell HM.out hl.1
        have d1 := hkp.cell HM.out hl.2.1
        have d2 := hkp.cell HM.out hl.2.2
        rw [hkk] at d0
        have HC : Hid (∀ wa, Keep (fun _ => False) wr wa → Calls Sq.prog 46 #[.pointer (some ⟨Y.r, 0, none⟩), .int .i64 0, .int .i64 kk] wa fun e w' => e = .returned (br Sj kk).1.v ∧ Brought R Y X chj Sj wa w' (br Sj kk).2) :=
          hide fun wa hwa => hB X Sj chj wa kk (hrd.keep hwa) hok (by rw [offs_hd hhd]; exact hm) (by omega)
        have hnm : ¬ Y.mut wr.heap.size := fun hm => by have := hrd.mut_lt hk _ hm; omega
        obtain ⟨xn, hxn⟩ : ∃ x, (S.mem k).led[j].had.num = x := ⟨_, rfl⟩
        obtain ⟨xe, hxe⟩ : ∃ x, (S.mem k).led[j].had.err = x := ⟨_, rfl⟩
        have hlj : (S.mem k).led[j] = ⟨kk, ⟨xn, xe⟩⟩ := by rw [← hkk, ← hxn, ← hxe]
        have hdrop : (S.mem k).led.drop j = (⟨kk, ⟨xn, xe⟩⟩ : QL) :: (S.mem k).led.drop (j + 1) := by rw [← hlj]; exact List.drop_eq_getElem_cons hjn
        rw [hdrop] at hE
        rw [hxn] at d1
        rw [hxe] at d2
        have HD := hide (And.intro hch (And.intro hrd (And.intro hkp (And.intro hok (And.intro hhd (And.intro hE (And.intro hnm (And.intro hkk hkey))))))))
        clear hch hrd hkp hok hhd hE hnm hkk hkey hl hB hm hk1 hxn hxe hlj hdrop HI
        have HE : Hid (∀ w1 c, Brought R Y X chj Sj ((wr.alloc (.cells c 147)).drew) w1 (br Sj kk).2 → c = #[.int .i64 kk, .int .i64 xn, .int .i64 xe] → w1.cell? ⟨wr.heap.size, 1, none⟩ = some (.int .i64 xn) ∧ w1.cell? ⟨wr.heap.size, 2, none⟩ = some (.int .i64 xe)) := hide fun w1 c hb1 hc => by
          obtain ⟨_, _, _, kp⟩ := hb1
          subst hc
          exact ⟨kp.cell HD.out.2.2.2.2.2.2.1 (by simp), kp.cell HD.out.2.2.2.2.2.2.1 (by simp)⟩
        go_wp2_with fail
        go_region_with (go_at_call 46; refine (HC.out _ (((Keep.refl _ _).alloc _).drew)).mono ?_; rintro e w1 ⟨rfl, hb1⟩; obtain ⟨g1, g2⟩ := HE.out _ _ hb1 rfl; replace hb1 := hide hb1)
        all_goals
          obtain ⟨hch, hrd, hkp, hok, hhd, hE, hnm, hkk, hkey⟩ := HD.out
          obtain ⟨ch2, hch2, hrd2, hkp2⟩ := hb1.out
          have hB2 : Brought R Y X ch S w w1 (br Sj kk).2 := ⟨ch2, fun i hi => (hch2 i (by rw [hhd]; exact hi)).trans (hch i hi), hrd2, hkp.trans (((Keep.refl _ _).alloc _).drew.trans hkp2)⟩
          by_cases hq : (br Sj kk).1 = ⟨xn, xe⟩
          · have hqb : (br Sj kk).1.nb xn xe = false := by rw [hq]; exact QO.nb_no _ _
            have hE2 : holdsM br ((S.mem k).led.drop (j + 1)) (br Sj kk).2 = holdsM br (S.mem k).led S := by
              rw [← hE]
              show _ = holdsM br (⟨kk, ⟨xn, xe⟩⟩ :: _) Sj
              rw [holdsM]
              simp only [Int.toNat_natCast, hq, if_true]
            have HX := hide (And.intro hE2 (And.intro hB2 (And.intro (hbr.ok hok (k := kk) (by omega)) ((hbr.hd Sj kk).trans hhd))))
            clear hq hE hch hrd hkp hok hhd hnm hkk hkey hE2 hB2 hch2 hrd2 hkp2
            rw [hqb]
            go_wp2_with fail
            refine ⟨⟨j + 1, rfl, hlt, hide ⟨_, HX.out⟩⟩, ?_⟩

            simp only [ivn]
            omega
          · have hqb : (br Sj kk).1.nb xn xe = true := QO.nb_yes hq
            have hE2 : holdsM br (S.mem k).led S = (false, (br Sj kk).2) := by
              rw [← hE]
              show holdsM br (⟨kk, ⟨xn, xe⟩⟩ :: _) Sj = _
              rw [holdsM]
              simp only [Int.toNat_natCast, hq, if_false]
            have HX := hide (And.intro hE2 hB2)
            clear hq hE hch hrd hkp hok hhd hnm hkk hkey hE2 hB2 hch2 hrd2 hkp2
            rw [hqb]
            go_wp2_with fail
            show P (.returned (.bool false)) w1
            rw [← hP.out]
            show _ = _ ∧ _
            rw [HX.out.1]
            exact ⟨rfl, HX.out.2⟩
      · obtain rfl : j = N := by omega
        have hE2 : Sj = (holdsM br (S.mem k).led S).2 ∧ (holdsM br (S.mem k).led S).1 = true := by
          rw [← hE, List.drop_eq_nil_of_le (by rw [HN.out]; exact Nat.le_refl _)]
          exact ⟨rfl, rfl⟩
        have c2 := hrd.r.cell (i := 1) (by decide)
        obtain ⟨v2, n1, _⟩ := hrd.mems k hk
        have c4 := n1.ran.1
        simp only [QY.rv] at c2
        have HX := hide (And.intro hE2 (⟨chj, hch, hrd, hkp⟩ : Brought R Y X ch S w wr Sj))
        clear hE hE2 hch hrd hkp hok hhd n1 hB hm hk1
        go_wp2_with fail
        show P (.returned (.bool _)) wr
        rw [← hP.out]
        obtain ⟨⟨e1, e2⟩, hb⟩ := HX.out
        show _ = _ ∧ _
        rw [e2, ← e1]
        exact ⟨rfl, hb⟩
end
end Go.Proofs.Ytdlnlcjmjgbikaa
