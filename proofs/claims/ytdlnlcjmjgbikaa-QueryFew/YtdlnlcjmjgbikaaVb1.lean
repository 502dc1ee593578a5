/- A sheet through the calls of a law. -/
import Derived.Test.YtdlnlcjmjgbikaaUl1
import Derived.LoopTactic
namespace Go.Proofs.Ytdlnlcjmjgbikaa
open Go Go.Conc Go.RowKit Go.Deep

noncomputable section
variable {R : QR} {w wr w' : World} {T T' : QT} {sh : Nat} {B : Nat → Prop}
/-- A sheet of the law's own, at sh; B: blocks of the law's that it does not touch. -/
def SI (R : QR) (B : Nat → Prop) (w : World) (sh : Nat) (wr : World) (T : QT) : Prop := ∃ Z : QZ, Z.Ok R ∧ Z.sh = sh ∧ Sh R Z 0 wr T ∧ Keep (fun _ => False) w wr ∧ (∀ b, Z.mut b → w.heap.size ≤ b) ∧ ∀ b, B b → ¬ Z.mut b ∧ b < wr.heap.size
/-- What the law has made is kept. -/
def PK (B : Nat → Prop) (w w' : World) : Prop := (∀ b n f, B b → Mem w b n f → Mem w' b n f) ∧ w.heap.size ≤ w'.heap.size
theorem SI.after {Z : QZ} (hs : Z.sh = sh) (hk : Keep (fun _ => False) w wr) (hm : ∀ b, Z.mut b → w.heap.size ≤ b) (hb : ∀ b, B b → ¬ Z.mut b ∧ b < wr.heap.size) (h : After R Z 0 wr w' T') : SI R B w sh w' T' ∧ PK B wr w' := by
  obtain ⟨Z', h1, h2, h3, h4, h5, _⟩ := h
  refine ⟨⟨Z', h1, h3.trans hs, h2, hk.after h4 hm, fun b hb' => ?_, fun b hb' => ⟨fun hm' => ?_, Nat.lt_of_lt_of_le (hb b hb').2 h4.size⟩⟩, fun b n f hB hmem => h4.mem (hb b hB).1 hmem, h4.size⟩
  · rcases h5 b hb' with h | h
    · exact hm b h
    · exact Nat.le_trans hk.size h
  · rcases h5 b hm' with h | h
    · exact (hb b hb').1 h
    · have := (hb b hb').2
      omega
theorem si_set (h : SI R B w sh wr T) (hn : R.n < 65) (k v : Int) : Calls Sq.prog 7 #[.pointer (some ⟨sh, 0, none⟩), .int .i64 k, .int .i64 v] wr fun e w' => ∃ x T', e = .returned x ∧ SI R B w sh w' T' ∧ PK B wr w' ∧ ((∃ kk : Nat, k = kk ∧ kk < R.n ∧ R.op kk = 0 ∧ x = .nilIface ∧ T' = setM R T kk v) ∨ ((∀ kk : Nat, k = kk → kk < R.n → R.op kk ≠ 0) ∧ x = .iface 36 (.int .i64 1) ∧ T' = T)) := by
  obtain ⟨Z, h1, rfl, h2, h3, h4, h5⟩ := h
  refine (set_any h1 h2 hn k v).mono ?_
  rintro e w' ⟨⟨kk, hk, hkn, h0, rfl, hs⟩ | ⟨hno, rfl, hs⟩, kp⟩
  · obtain ⟨a, b⟩ := SI.after rfl h3 h4 h5 (After.of h1 hs kp)
    exact ⟨_, _, rfl, a, b, .inl ⟨kk, hk, hkn, h0, rfl, rfl⟩⟩
  · obtain ⟨a, b⟩ := SI.after rfl h3 h4 h5 (After.of h1 hs kp)
    exact ⟨_, _, rfl, a, b, .inr ⟨hno, rfl, rfl⟩⟩
theorem si_get (h : SI R B w sh wr T) (hR : R.Ok) (hT : T.Ok R) (hn : R.n < 65) (k : Int) : Calls Sq.prog 11 #[.pointer (some ⟨sh, 0, none⟩), .int .i64 k] wr fun e w' => ∃ a b T', e = .returned (.tuple #[a, b]) ∧ SI R B w sh w' T' ∧ PK B wr w' ∧ ((∀ kk : Nat, k = kk → ¬ kk < R.n) ∧ T' = T ∨ ∃ kk : Nat, k = kk ∧ kk < R.n ∧ T' = askT R T 64 kk ∧ (((askT R T 64 kk).mem kk).out.err = 0 → a = .int .i64 ((askT R T 64 kk).mem kk).out.num ∧ b = .nilIface)) := by
  obtain ⟨Z, h1, rfl, h2, h3, h4, h5⟩ := h
  refine (get_any h1 hR h2 hT hn k).mono ?_
  rintro e w' (⟨hr, rfl, ha⟩ | ⟨kk, hk, hkn, _, ⟨hl, rfl, ha⟩ | ⟨hl, he, ha⟩⟩)
  · obtain ⟨a, b⟩ := SI.after rfl h3 h4 h5 ha
    exact ⟨_, _, _, rfl, a, b, .inl ⟨fun kk e => by omega, rfl⟩⟩
  · exact absurd hl (ask_facts hR (by omega) hT hkn).1
  · obtain ⟨a, b⟩ := SI.after rfl h3 h4 h5 ha
    rcases he with ⟨he, rfl⟩ | ⟨he, rfl⟩
    · exact ⟨_, _, _, rfl, a, b, .inr ⟨kk, hk, hkn, rfl, fun h => absurd h he⟩⟩
    · exact ⟨_, _, _, rfl, a, b, .inr ⟨kk, hk, hkn, rfl, fun _ => ⟨rfl, rfl⟩⟩⟩
theorem si_runs (h : SI R B w sh wr T) (hn : R.n < 65) : Calls Sq.prog 10 #[.pointer (some ⟨sh, 0, none⟩)] wr fun e w' => ∃ g c, e = .returned (.slice (some ⟨g, 0, none⟩) R.n c) ∧ Mem w' g R.n (fun k => .int .i64 (T.rn k)) ∧ SI R (fun b => B b ∨ b = g ∧ 0 < R.n) w sh w' T ∧ PK B wr w' := by
  obtain ⟨Z, h1, rfl, h2, h3, h4, h5⟩ := h
  refine (runs_any h1 h2 hn).mono ?_
  rintro e w' ⟨g, c, rfl, g1, g2, hm, hs, kp⟩
  obtain ⟨⟨Z', a1, a2, a3, a4, a5, a6⟩, b⟩ := SI.after rfl h3 h4 h5 (After.of h1 hs kp)
  refine ⟨g, c, rfl, hm, ⟨Z, h1, rfl, hs, a4, h4, fun b hb => ?_⟩, b⟩
  rcases hb with hb | ⟨rfl, hn0⟩
  · exact ⟨(h5 b hb).1, Nat.lt_of_lt_of_le (h5 b hb).2 kp.size⟩
  · refine ⟨fun hm' => ?_, g2⟩
    have hlt : b < wr.heap.size := by
      rcases hm' with rfl | rfl | rfl | rfl
      · exact World.block_lt_of_cell? wr _ (h2.s.cell (i := 0) (by decide))
      · obtain ⟨v, m1, _⟩ := h2.mems 0 hn0
        exact World.block_lt_of_cell? wr _ m1.ran.1
      · exact World.block_lt_of_cell? wr _ (h2.fresh.cell hn0)
      · exact World.block_lt_of_cell? wr _ (h2.runs.cell hn0)
    omega
theorem si_new {Z : QZ} (hZ : Z.Ok R) (h : Sh R Z 0 wr T) (kp : Keep (fun _ => False) w wr) (hm : ∀ b, Z.mut b → w.heap.size ≤ b) : SI R (fun _ => False) w Z.sh wr T := ⟨Z, hZ, rfl, h, kp, hm, fun _ h => h.elim⟩
/-- The rule that lives: what New is asked of. -/
def liveR : QR := ⟨2, fun k => if k = 1 then 5 else 0, fun _ => 0, fun _ => 0, fun _ => 0⟩
def liveT : QT := askT liveR (setM liveR (zeroT liveR) 0 7) 64 1
theorem live_out : (liveT.mem 1).out = ⟨3, 0⟩ := by kernel_rfl
theorem live_rn0 : liveT.rn 0 = 0 := by kernel_rfl
theorem live_rn1 : liveT.rn 1 = 1 := by kernel_rfl
theorem live_good : ∀ k, k < liveR.n → goodRule liveR.n (liveR.op k) (liveR.a k) (liveR.b k) (liveR.c k) := fun k hk => by
  have : k = 0 ∨ k = 1 := by have : k < 2 := hk; omega
  rcases this with rfl | rfl
  · exact ⟨by decide, fun t ht => by cases ht⟩
  · refine ⟨by decide, fun t ht => ?_⟩
    have : t = 0 := by simpa [lookL, liveR] using ht
    subst this
    unfold badN
    decide
set_option maxRecDepth 100000 in
set_option maxHeartbeats 4000000 in
theorem lives_any (w : World) : Calls Sq.prog 5 #[] w fun e w' => e = .returned (.bool true) ∧ Keep (fun _ => False) w w' := by
  suffices ∀ Pp : Ending → World → Prop, Hid (∀ w', Keep (fun _ => False) w w' → Pp (.returned (.bool true)) w') → Calls Sq.prog 5 #[] w Pp from this _ (hide fun _ h => ⟨rfl, h⟩)
  intro Pp HP
  have hr : RulesAt (w.alloc (.cells #[.int .i64 0, .int .i64 0, .int .i64 0, .int .i64 0, .int .i64 5, .int .i64 0, .int .i64 0, .int .i64 0] 41)) liveR (some ⟨w.heap.size, 0, none⟩) := fun k hk => by
    have : k = 0 ∨ k = 1 := by have : k < 2 := hk; omega
    refine ⟨w.heap.size, 0, rfl, ?_⟩
    rcases this with rfl | rfl
    · exact ⟨World.cell?_alloc_new _ _ _ _, World.cell?_alloc_new _ _ _ _, World.cell?_alloc_new _ _ _ _, World.cell?_alloc_new _ _ _ _⟩
    · exact ⟨World.cell?_alloc_new _ _ _ _, World.cell?_alloc_new _ _ _ _, World.cell?_alloc_new _ _ _ _, World.cell?_alloc_new _ _ _ _⟩
  have NW := hide (new_any (cap := 2) (show liveR.n = 2 from rfl) hr)
  have K0 : Hid (Keep (fun _ => False) w (w.alloc (.cells #[.int .i64 0, .int .i64 0, .int .i64 0, .int .i64 0, .int .i64 5, .int .i64 0, .int .i64 0, .int .i64 0] 41))) := hide ((Keep.refl _ _).alloc _)
  clear hr
  go_enter Sq.func5, Sq.ntmps5
  go_wp2_with fail
  refine NW.out.mono ?_
  rintro e w1 ⟨kp, ⟨x, rfl, hbad⟩ | ⟨Z, rfl, hn, hZ, hR, hs, hm⟩⟩
  · exact absurd ⟨by decide, live_good⟩ hbad
  · have si := si_new hZ hs (K0.out.trans kp) (fun b hb => Nat.le_trans K0.out.size (hm b hb))
    obtain ⟨sh, hsh⟩ : ∃ sh, Z.sh = sh := ⟨_, rfl⟩
    rw [hsh] at si ⊢
    have ST := hide (si_set si hn 0 7)
    have HH := hide (And.intro hR hn)
    clear kp hZ hs hm si hsh hR hn NW K0
    go_wp2_with fail
    refine ST.out.mono ?_
    rintro e w2 ⟨x, T2, rfl, si2, _, ⟨kk, hk, hkn, h0, rfl, rfl⟩ | ⟨hno, _⟩⟩
    · obtain rfl : kk = 0 := by omega
      have GT := hide (si_get si2 HH.out.1 (setM_ok (zero_ok liveR) 0 7) HH.out.2 1)
      clear si2 hk hkn h0 ST
      go_wp2_with fail
      refine GT.out.mono ?_
      rintro e w3 ⟨a, b, T3, rfl, si3, _, ⟨hno, _⟩ | ⟨kk, hk, hkn, rfl, ha⟩⟩
      · exact absurd (show 1 < liveR.n by decide) (hno 1 rfl)
      · obtain rfl : kk = 1 := by omega
        have ho := live_out
        obtain ⟨rfl, rfl⟩ := ha (by
          show ((liveT.mem 1).out).err = 0
          rw [ho])
        have hnum : ((askT liveR (setM liveR (zeroT liveR) 0 7) 64 1).mem 1).out.num = 3 := by
          show ((liveT.mem 1).out).num = 3
          rw [ho]
        rw [hnum]
        have RN := hide (si_runs si3 HH.out.2)
        clear si3 ha hk hkn hnum ho GT
        go_wp2_with fail
        refine RN.out.mono ?_
        rintro e w4 ⟨g, c, rfl, hmem, ⟨Z4, _, _, _, k4, _⟩, _⟩
        have c0 : w4.cell? ⟨g, 0, none⟩ = some (.int .i64 0) := by
          have := hmem.cell (i := 0) (by decide)
          rwa [show (askT liveR (setM liveR (zeroT liveR) 0 7) 64 1).rn 0 = 0 from live_rn0] at this
        have c1 : w4.cell? ⟨g, 1, none⟩ = some (.int .i64 1) := by
          have := hmem.cell (i := 1) (by decide)
          rwa [show (askT liveR (setM liveR (zeroT liveR) 0 7) 64 1).rn 1 = 1 from live_rn1] at this
        have hl2 : liveR.n = 2 := rfl
        rw [hl2]
        have HE := hide (HP.out w4 k4)
        clear hmem k4 RN hl2
        go_wp2_with fail
        exact HE.out
    · exact absurd (show liveR.op 0 = 0 from rfl) (hno 0 rfl (by decide))
end
end Go.Proofs.Ytdlnlcjmjgbikaa
/- The law QueryFew. -/
namespace Go.Proofs.Ytdlnlcjmjgbikaa
open Go Go.Conc Go.RowKit Go.Deep

noncomputable section
variable {R : QR} {w wr w' : World} {T T' : QT} {sh : Nat} {B : Nat → Prop}
def noB : Nat → Prop := fun _ => False
def LoopA (R : QR) (w : World) (sh : Nat) (wr : World) : Prop := ∃ T, SI R noB w sh wr T ∧ FewA R T ∧ ∀ k, T.rn k = 0
def LoopB (R : QR) (w : World) (sh : Nat) (j : Nat) (wr : World) : Prop := ∃ T, SI R noB w sh wr T ∧ FewA R T ∧ ∀ i, i < R.n → i < j → T.fr i = true
def LoopC (R : QR) (w : World) (sh ug : Nat) (u : Nat → Int) (same : Bool) (wr : World) : Prop := ∃ T, SI R (fun b => b = ug) w sh wr T ∧ FewB R u same T ∧ Mem wr ug R.n (fun k => .int .i64 (u k))
theorem SI.kp (h : SI R B w sh wr T) : Keep (fun _ => False) w wr := by
  obtain ⟨_, _, _, _, h, _⟩ := h
  exact h
theorem SI.sub {B' : Nat → Prop} (h : SI R B w sh wr T) (hs : ∀ b, B' b → B b) : SI R B' w sh wr T := by
  obtain ⟨Z, h1, h2, h3, h4, h5, h6⟩ := h
  exact ⟨Z, h1, h2, h3, h4, h5, fun b hb => h6 b (hs b hb)⟩
set_option maxRecDepth 100000 in
set_option maxHeartbeats 8000000 in
theorem few_any {ro fo : Option Addr} {n cap m fcap : Nat} (hRn : R.n = n) (hr : RulesAt w R ro) (hf : ∀ i, i < m → ∃ b o x, fo = some ⟨b, o, none⟩ ∧ w.cell? ⟨b, o + i, none⟩ = some (.int .i64 x)) (hm : m ≤ 9223372036854775807) (key v : Int) :
    Calls Sq.prog 4 #[.slice ro n cap, .slice fo m fcap, .int .i64 key, .int .i64 v] w fun e w' => e = .returned (.bool true) ∧ Keep (fun _ => False) w w' := by
  suffices ∀ Pp : Ending → World → Prop, Hid (∀ w', Keep (fun _ => False) w w' → Pp (.returned (.bool true)) w') → Calls Sq.prog 4 #[.slice ro n cap, .slice fo m fcap, .int .i64 key, .int .i64 v] w Pp from this _ (hide fun _ h => ⟨rfl, h⟩)
  intro Pp HP
  have LV := hide (lives_any w)
  have HR := hide (And.intro hRn (And.intro hr hf))
  clear hRn hr hf
  go_enter Sq.func4, Sq.ntmps4
  go_wp2_with fail
  refine LV.out.mono ?_
  rintro e w1 ⟨rfl, k1⟩
  have hr1 : RulesAt w1 R ro := fun k hk => by
    obtain ⟨b, o, e, c0, c1, c2, c3⟩ := HR.out.2.1 k hk
    exact ⟨b, o, e, k1.cell id c0, k1.cell id c1, k1.cell id c2, k1.cell id c3⟩
  have NW := hide (new_any (cap := cap) HR.out.1 hr1)
  replace k1 := hide k1
  clear hr1 LV
  go_wp2_with fail
  refine NW.out.mono ?_
  rintro e w2 ⟨kp, ⟨x, rfl, _⟩ | ⟨Z, rfl, hn, hZ, hR, hs, hge⟩⟩
  · have HE := hide (HP.out w2 (k1.out.trans kp))
    clear kp NW
    go_wp2_with fail
    exact HE.out
  · have si := si_new hZ hs (k1.out.trans kp) (fun b hb => Nat.le_trans k1.out.size (hge b hb))
    obtain ⟨sh, hsh⟩ : ∃ sh, Z.sh = sh := ⟨_, rfl⟩
    rw [hsh] at si ⊢
    have S0 : Hid (LoopA R w sh w2) := hide ⟨_, si, (few_zero R).1, (few_zero R).2⟩
    have HO := hide (And.intro hR hn)
    have hn2 : n < 65 := by rw [← HR.out.1]; exact hn
    clear kp hZ hs hge si hsh hR hn NW k1
    go_wp2_with fail
    go_loopw [12] (fun iv wr => ∃ j : Nat, iv = .int .i64 j ∧ j ≤ m ∧ Hid (LoopA R w sh wr)) (fun iv _ => m - ivn iv)
    case atStart => exact ⟨0, rfl, Nat.zero_le _, S0⟩
    case round =>
      obtain ⟨j, rfl, hj, HI⟩ := hrel
      by_cases hlt : j < m
      · obtain ⟨T, si, fa, hz⟩ := HI.out
        obtain ⟨b, o, x, hfo, hc⟩ := HR.out.2.2 j hlt
        have hc' := si.kp.cell id hc
        subst hfo
        have ST := hide (si_set si HO.out.2 j x)
        have FA := hide (And.intro fa hz)
        clear si fa hz hc HI S0
        go_wp2_with fail
        refine ST.out.mono ?_
        rintro e w3 ⟨y, T3, rfl, si3, _, hT3⟩
        have L3 : Hid (LoopA R w sh w3) := hide ⟨T3, si3, by
          rcases hT3 with ⟨kk, _, _, _, _, rfl⟩ | ⟨_, _, rfl⟩
          · exact few_set FA.out.1 FA.out.2 kk x
          · exact FA.out⟩
        clear si3 hT3 ST FA hc'
        go_wp2_with fail
        refine ⟨⟨j + 1, rfl, hlt, L3⟩, ?_⟩
        simp only [ivn]
        omega
      · obtain rfl : j = m := by omega
        have S1 : Hid (LoopB R w sh 0 wr) := hide (by
          obtain ⟨T, si, fa, _⟩ := HI.out
          exact ⟨T, si, fa, fun i _ h => absurd h (Nat.not_lt_zero _)⟩)
        clear HI S0
        go_wp2_with fail
        go_loopw [13] (fun iv wr => ∃ j : Nat, iv = .int .i64 j ∧ j ≤ n ∧ Hid (LoopB R w sh j wr)) (fun iv _ => n - ivn iv)
        case atStart => exact ⟨0, rfl, Nat.zero_le _, S1⟩
        case round =>
          obtain ⟨i, rfl, hi, HI⟩ := hrel
          by_cases hlt2 : i < n
          · obtain ⟨T, si, fa, hall⟩ := HI.out
            have hin : i < R.n := by rw [HR.out.1]; exact hlt2
            have GT := hide (si_get si HO.out.1 fa.ok HO.out.2 i)
            have FA := hide (And.intro fa (And.intro hall hin))
            clear si fa hall hin HI S1
            go_wp2_with fail
            refine GT.out.mono ?_
            rintro e w3 ⟨a, b, T3, rfl, si3, _, hT3⟩
            have L3 : Hid (LoopB R w sh (i + 1) w3) := hide (by
              obtain ⟨fa, hall, hin⟩ := FA.out
              rcases hT3 with ⟨hno, _⟩ | ⟨kk, hk, hkn, rfl, _⟩
              · exact absurd hin (hno i rfl)
              · obtain rfl : kk = i := by omega
                have hn64 : R.n ≤ 64 := by have := HO.out.2; omega
                obtain ⟨_, _, a1, _, a5⟩ := ask_facts HO.out.1 hn64 fa.ok hkn
                refine ⟨_, si3, few_ask HO.out.1 hn64 fa hkn, fun q hq hqi => ?_⟩
                by_cases e : q = kk
                · subst e; exact a5
                · exact (a1 q hq (hall q hq (by omega))).1)
            clear si3 hT3 GT FA
            go_wp2_with fail
            refine ⟨⟨i + 1, rfl, hlt2, L3⟩, ?_⟩
            simp only [ivn]
            omega
          · obtain rfl : i = n := by omega
            obtain ⟨T, si, fa, hall⟩ := HI.out
            have hall2 : ∀ q, q < R.n → T.fr q = true := fun q hq => hall q hq (by rw [← HR.out.1]; exact hq)
            have RN := hide (si_runs si HO.out.2)
            have FA := hide (And.intro fa hall2)
            clear si fa hall hall2 HI S1
            go_wp2_with fail
            refine RN.out.mono ?_
            rintro e w4 ⟨ug, uc, rfl, hum, si4, _⟩
            have GT := hide (si_get si4 HO.out.1 FA.out.1.ok HO.out.2 key)
            have HU := hide hum
            rw [HR.out.1]
            clear si4 RN hum
            go_wp2_with fail
            refine GT.out.mono ?_
            rintro e w5 ⟨wa, wb, T5, rfl, si5, pk5, hT5⟩
            -- what the sheet knows is what it knew
            have F5 : T5.Ok R ∧ (∀ q, q < R.n → T5.fr q = true ∧ T5.rn q = T.rn q ∧ T5.mem q = T.mem q) := by
              obtain ⟨fa, hall⟩ := FA.out
              have hn64 : R.n ≤ 64 := by have := HO.out.2; omega
              rcases hT5 with ⟨_, rfl⟩ | ⟨kk, _, hkn, rfl, _⟩
              · exact ⟨fa.ok, fun q hq => ⟨hall q hq, rfl, rfl⟩⟩
              · obtain ⟨_, ok, a1, _, _⟩ := ask_facts HO.out.1 hn64 fa.ok hkn
                refine ⟨ok, fun q hq => ?_⟩
                obtain ⟨b1, b2, b3⟩ := a1 q hq (hall q hq)
                refine ⟨b1, ?_, b3⟩
                rw [b2]
                exact wrap64_at _ (by have := fa.run q hq; omega)
            have SS := hide (si_set si5 HO.out.2 key v)
            have H5 := hide (And.intro F5 (And.intro pk5 hT5))
            clear si5 pk5 hT5 F5 GT
            go_wp2_with fail
            refine SS.out.mono ?_
            rintro e w6 ⟨y, T6, rfl, si6, pk6, ⟨kk, hk, hkn, h0, rfl, rfl⟩ | ⟨_, rfl, _⟩⟩
            · obtain ⟨⟨ok5, f5⟩, pk5, hT5⟩ := H5.out
              obtain ⟨fa, hall⟩ := FA.out
              have hn0 : 0 < R.n := by omega
              obtain ⟨nm, hnm⟩ : ∃ x, (T.mem kk).out.num = x := ⟨_, rfl⟩
              have hwa : wa = .int .i64 nm := by
                rcases hT5 with ⟨hno, _⟩ | ⟨k2, hk2, _, rfl, hv⟩
                · exact absurd hkn (hno kk hk)
                · obtain rfl : kk = k2 := by omega
                  have e5 := (f5 kk hkn).2.2
                  have := (hv (by rw [e5]; exact (fa.inp kk hkn h0).2.1)).1
                  rw [this, e5, hnm]
              have hmu6 : Mem w6 ug R.n (fun k => .int .i64 (T.rn k)) := pk6.1 _ _ _ (.inr ⟨rfl, hn0⟩) (pk5.1 _ _ _ (.inr ⟨rfl, hn0⟩) HU.out)
              have hrn6 : (setM R T5 kk v).rn = T5.rn := by unfold setM; split <;> rfl
              have fb : FewB R T.rn (decide (nm = v)) (setM R T5 kk v) := ⟨setM_ok ok5 kk v, fun q hq => .inl (by rw [hrn6]; exact (f5 q hq).2.1), fun q hq _ => by rw [hrn6]; exact (f5 q hq).2.1, fun hs q hq => by
                have hv : (T5.mem kk).out.num = v := by rw [(f5 kk hkn).2.2, hnm]; simpa using hs
                have : setM R T5 kk v = T5 := by unfold setM; rw [if_pos hv]
                rw [this]
                exact ⟨(f5 q hq).1, (f5 q hq).2.1⟩⟩
              have LC : Hid (LoopC R w sh ug T.rn (decide (nm = v)) w6) := hide ⟨_, si6.sub (fun b hb => .inr ⟨hb, hn0⟩), fb, hmu6⟩
              have HF := hide (And.intro fa hn0)
              subst hwa
              clear hk h0 hkn ok5 f5 pk5 hT5 fa hall hnm hmu6 hrn6 fb si6 pk6 H5 SS HU FA
              go_wp2_with fail
              go_loopw [17] (fun iv wr => ∃ j : Nat, iv = .int .i64 j ∧ j ≤ i ∧ Hid (LoopC R w sh ug T.rn (decide (nm = v)) wr)) (fun iv _ => i - ivn iv)
              case atStart => exact ⟨0, rfl, Nat.zero_le _, LC⟩
              case round =>
                obtain ⟨q, rfl, hq, HI⟩ := hrel
                by_cases hlt3 : q < i
                · obtain ⟨T7, si7, fb7, hm7⟩ := HI.out
                  have GT := hide (si_get si7 HO.out.1 fb7.ok HO.out.2 q)
                  have FB := hide (And.intro fb7 hm7)
                  clear si7 fb7 hm7 HI LC
                  go_wp2_with fail
                  refine GT.out.mono ?_
                  rintro e w8 ⟨a, b, T8, rfl, si8, pk8, hT8⟩
                  have L8 : Hid (LoopC R w sh ug T.rn (decide (nm = v)) w8) := hide (by
                    obtain ⟨fb7, hm7⟩ := FB.out
                    have hn64 : R.n ≤ 64 := by have := HO.out.2; omega
                    refine ⟨T8, si8, ?_, pk8.1 _ _ _ rfl hm7⟩
                    rcases hT8 with ⟨_, rfl⟩ | ⟨kk, _, hkn, rfl, _⟩
                    · exact fb7
                    · exact fewB_ask HO.out.1 hn64 (fun j hj => (HF.out.1.run j hj).imp id fun h => h.1) fb7 hkn)
                  clear si8 pk8 hT8 GT FB
                  go_wp2_with fail
                  refine ⟨⟨q + 1, rfl, hlt3, L8⟩, ?_⟩
                  simp only [ivn]
                  omega
                · obtain rfl : q = i := by omega
                  obtain ⟨T7, si7, fb7, hm7⟩ := HI.out
                  have RN := hide (si_runs si7 HO.out.2)
                  have FB := hide (And.intro fb7 hm7)
                  clear si7 fb7 hm7 HI LC
                  go_wp2_with fail
                  refine RN.out.mono ?_
                  rintro e w9 ⟨wg, wc, rfl, hwm, si9, pk9⟩
                  have hmu9 := pk9.1 _ _ _ rfl FB.out.2
                  have HE := hide (HP.out w9 si9.kp)
                  have H9 := hide (And.intro hwm (And.intro hmu9 si9.kp))
                  rw [HR.out.1]
                  clear hwm si9 pk9 hmu9 RN
                  go_wp2_with fail
                  go_loopw [19] (fun iv wr => ∃ j : Nat, iv = .int .i64 j ∧ j ≤ q ∧ Hid (Mem wr wg R.n (fun k => .int .i64 (T7.rn k)) ∧ Mem wr ug R.n (fun k => .int .i64 (T.rn k)) ∧ Keep (fun _ => False) w wr)) (fun iv _ => q - ivn iv)
                  case atStart => exact ⟨0, rfl, Nat.zero_le _, H9⟩
                  case round =>
                    obtain ⟨t, rfl, ht, HI⟩ := hrel
                    by_cases hlt4 : t < q
                    · obtain ⟨hw, hu, hk⟩ := HI.out
                      have htn : t < R.n := by rw [HR.out.1]; exact hlt4
                      have cw := hw.cell htn
                      have cu := hu.cell htn
                      obtain ⟨b, o, hro, c0, _⟩ := HR.out.2.1 t htn
                      have cr := hk.cell id c0
                      have hU := HF.out.1.run t htn
                      have hW := FB.out.1.run t htn
                      have hI := FB.out.1.inp t htn
                      have hUI := HF.out.1.inp t htn
                      have hS := FB.out.1.sm
                      subst hro
                      have ND : Hid (Mem wr.drew wg R.n (fun k => .int .i64 (T7.rn k)) ∧ Mem wr.drew ug R.n (fun k => .int .i64 (T.rn k)) ∧ Keep (fun _ => False) w wr.drew) := hide ⟨hw.drew, hu.drew, hk.drew⟩
                      have cases3 : (T.rn t = 0 ∨ T.rn t = 1) ∧ (T7.rn t = T.rn t ∨ T7.rn t = T.rn t + 1 ∧ nm ≠ v ∧ R.op t ≠ 0) ∧ (R.op t = 0 → T.rn t = 0) := by
                        refine ⟨hU.imp id fun h => h.1, ?_, fun h0 => (hUI h0).2.2⟩
                        rcases hW with h | ⟨h, _⟩
                        · exact .inl h
                        · refine .inr ⟨h, fun e => ?_, fun h0 => ?_⟩
                          · have := (hS (by simpa using e) t htn).2
                            omega
                          · have := hI h0
                            omega
                      generalize T.rn t = U at cu cases3
                      generalize T7.rn t = W at cw cases3
                      generalize R.op t = op at cr cases3
                      obtain ⟨q1, q2, q3⟩ := cases3
                      clear hw hu hk hU hW hI hUI hS c0 HI H9 htn HE
                      by_cases ho : op = 0
                      · obtain rfl := q3 ho
                        subst ho
                        have hW0 : W = 0 := q2.elim id fun h => absurd rfl h.2.2
                        subst hW0
                        clear q1 q2 q3
                        by_cases hv : nm = v
                        · subst hv
                          go_wp2_with fail
                          go_region
                          all_goals (go_wp2_with fail; exact ⟨⟨t + 1, rfl, hlt4, ND⟩, by simp only [ivn]; omega⟩)
                        · have hvb : (nm == v) = false := by simpa using hv
                          clear hv
                          go_wp2_with fail
                          go_region
                          all_goals (go_wp2_with fail; exact ⟨⟨t + 1, rfl, hlt4, ND⟩, by simp only [ivn]; omega⟩)
                      · have hob : (op == 0) = false := by simpa using ho
                        clear ho q3
                        rcases q1 with rfl | rfl
                        · rcases q2 with rfl | ⟨rfl, hv, _⟩
                          · by_cases hv : nm = v
                            · subst hv
                              go_wp2_with fail
                              go_region
                              all_goals (go_wp2_with fail; exact ⟨⟨t + 1, rfl, hlt4, ND⟩, by simp only [ivn]; omega⟩)
                            · have hvb : (nm == v) = false := by simpa using hv
                              clear hv
                              go_wp2_with fail
                              go_region
                              all_goals (go_wp2_with fail; exact ⟨⟨t + 1, rfl, hlt4, ND⟩, by simp only [ivn]; omega⟩)
                          · have hvb : (nm == v) = false := by simpa using hv
                            clear hv
                            simp only [Int.zero_add] at cw
                            go_wp2_with fail
                            go_region
                            all_goals (go_wp2_with fail; exact ⟨⟨t + 1, rfl, hlt4, ND⟩, by simp only [ivn]; omega⟩)
                        · rcases q2 with rfl | ⟨rfl, hv, _⟩
                          · by_cases hv : nm = v
                            · subst hv
                              go_wp2_with fail
                              go_region
                              all_goals (go_wp2_with fail; exact ⟨⟨t + 1, rfl, hlt4, ND⟩, by simp only [ivn]; omega⟩)
                            · have hvb : (nm == v) = false := by simpa using hv
                              clear hv
                              go_wp2_with fail
                              go_region
                              all_goals (go_wp2_with fail; exact ⟨⟨t + 1, rfl, hlt4, ND⟩, by simp only [ivn]; omega⟩)
                          · have hvb : (nm == v) = false := by simpa using hv
                            clear hv
                            simp only [show (1 : Int) + 1 = 2 from rfl] at cw
                            go_wp2_with fail
                            go_region
                            all_goals (go_wp2_with fail; exact ⟨⟨t + 1, rfl, hlt4, ND⟩, by simp only [ivn]; omega⟩)
                    · obtain rfl : t = q := by omega
                      have HE2 := hide (HP.out wr HI.out.2.2)
                      clear HI
                      go_wp2_with fail
                      exact HE2.out
            · have HE := hide (HP.out w6 si6.kp)
              clear si6 pk6 SS H5
              go_wp2_with fail
              exact HE.out
end
end Go.Proofs.Ytdlnlcjmjgbikaa
