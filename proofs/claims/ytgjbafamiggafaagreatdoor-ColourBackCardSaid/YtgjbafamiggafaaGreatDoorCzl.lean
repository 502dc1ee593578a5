/- Files laid behind a row of files. -/
import Derived.Test.YtgjbafamiggafaaGreatDoorCzi
import Derived.Test.YtgjbafamiggafaaGreatDoorCyc
import Derived.Deep.CutBlock
import Derived.Deep.DeepCutAuto
namespace Go.Proofs.YtgjbafamiggafaaGreatDoor
open Go.RowKit
open M
theorem infoAF : (Tryz.prog.info? 37).map (fun i => (i.zero, i.size, i.bytes)) = some (some (.agg #[.string ⟨#[]⟩, .string ⟨#[]⟩]), 2, 32) := by kernel_rfl
def fvs (l : List AF) : List Value := l.flatMap fun a => [.string a.n, .string a.t]
theorem fvs_len (l : List AF) : (fvs l).length = l.length * 2 := by
  induction l with
  | nil => rfl
  | cons a l ih => show ([Value.string a.n, .string a.t] ++ fvs l).length = (l.length + 1) * 2; rw [List.length_append, ih]; show 2 + _ = _; omega
theorem fvs_at : ∀ (l : List AF) (j : Nat) (u : Value), (fvs l)[j]? = some u → ∃ a, l[j / 2]? = some a ∧ ((j % 2 = 0 ∧ u = .string a.n) ∨ (j % 2 = 1 ∧ u = .string a.t))
  | [], j, u, h => by simp [fvs] at h
  | a :: l, 0, u, h => ⟨a, rfl, .inl ⟨rfl, (Option.some.inj h).symm⟩⟩
  | a :: l, 1, u, h => ⟨a, rfl, .inr ⟨rfl, (Option.some.inj h).symm⟩⟩
  | a :: l, j + 2, u, h => by
    obtain ⟨b, h1, h2⟩ := fvs_at l j u h
    rw [show (j + 2) / 2 = j / 2 + 1 by omega, show (j + 2) % 2 = j % 2 by omega]
    exact ⟨b, h1, h2⟩
set_option maxRecDepth 100000 in
theorem run_append_f (w : World) (B : Nat) (v : Value) (hown : w.ownsRow B 37 2 v 0 []) (ao : Option Addr) (cap : Nat) (l : List AF) (h : IsAF w w.heap.size ao l) (h0 : 0 < l.length) (hl : l.length ≤ 16) (hB : B ≤ w.heap.size) (ty : TypeId) :
    ∃ v' w', (Builtin.append_ #[22, 22] ty #[v, .slice ao l.length cap]).run Tryz.prog w = .ok v' w' ∧ w'.ownsRow B 37 2 v' l.length (fvs l) ∧ w.grownBy w' v.ownBlock := by
  obtain ⟨i0, hi0, hz0, hz1, hz2⟩ := info_parts infoAF
  obtain ⟨b, o, rfl, -⟩ := h 0 l[0] (List.getElem?_eq_getElem h0)
  have HN : ∀ j u, (fvs l)[j]? = some u → w.cell? ((⟨b, o, none⟩ : Addr).add j) = some u := by
    intro j u hu
    rw [Addr.add_lit]
    obtain ⟨a, ha, hc⟩ := fvs_at l j u hu
    obtain ⟨b', o', e, -, c0, c1⟩ := h _ a ha
    cases e
    rcases hc with ⟨hj, rfl⟩ | ⟨hj, rfl⟩
    · rw [show o + j = o + j / 2 * 2 by omega]; exact c0
    · rw [show o + j = o + j / 2 * 2 + 1 by omega]; exact c1
  have h1 : ∀ u ∈ fvs l, u.oneCell' = true := by
    intro u hu
    obtain ⟨a, -, hx⟩ := List.mem_flatMap.1 hu
    simp at hx
    rcases hx with rfl | rfl <;> rfl
  obtain ⟨v', w', a1, a2, a3, -⟩ := run_append_own (P := Tryz.prog) w B 22 ty 37 i0 _ 2 32 Tryz.underlying22 hi0 hz0 hz1 hz2 rfl (by decide) v 0 [] hown ⟨b, o, none⟩ l.length cap (fvs l) (fvs_len l) HN h1 (by unfold maxLen; omega) (by omega) hB
  exact ⟨v', w', a1, by simpa using a2, a3⟩
end Go.Proofs.YtgjbafamiggafaaGreatDoor
/- For the law ColourBack: a file's text made another one; what Patch gives of what Diff tells. -/
namespace Go.Proofs.YtgjbafamiggafaaGreatDoor
open Go.RowKit
open M
theorem fvs_set : ∀ (l : List AF) (i : Nat) (a : AF) (s : ByteArray), l[i]? = some a → (fvs l).set (i * 2 + 1) (.string s) = fvs (l.set i ⟨a.n, s⟩)
  | [], i, a, s, h => by simp at h
  | b :: l, 0, a, s, h => by
    obtain rfl : b = a := Option.some.inj h
    rfl
  | b :: l, i + 1, a, s, h => by
    have ih := fvs_set l i a s h
    show (([Value.string b.n, .string b.t] ++ fvs l).set ((i + 1) * 2 + 1) (.string s)) = [Value.string b.n, .string b.t] ++ fvs (l.set i ⟨a.n, s⟩)
    rw [← ih, show (i + 1) * 2 + 1 = (i * 2 + 1) + 1 + 1 by omega]
    rfl
theorem fvs_even : ∀ (l : List AF) (j : Nat) (a : AF), l[j]? = some a → (fvs l)[j * 2]? = some (.string a.n) ∧ (fvs l)[j * 2 + 1]? = some (.string a.t)
  | [], j, a, h => by simp at h
  | b :: l, 0, a, h => by
    obtain rfl : b = a := Option.some.inj h
    exact ⟨rfl, rfl⟩
  | b :: l, j + 1, a, h => by
    have ih := fvs_even l j a h
    rw [show (j + 1) * 2 = j * 2 + 1 + 1 by omega]
    exact ih
theorem af_owns {w : World} {B g n cap : Nat} {l : List AF} (hn : n = l.length) (h : w.ownsRow B 37 2 (.slice (some ⟨g, 0, none⟩) n cap) n (fvs l)) (hg : g < w.heap.size) : IsAF w w.heap.size (some ⟨g, 0, none⟩) l := by
  intro j a hj
  have hjl : j < l.length := by
    rcases Nat.lt_or_ge j l.length with q | q
    · exact q
    · rw [List.getElem?_eq_none q] at hj; cases hj
  obtain ⟨e1, e2⟩ := fvs_even l j a hj
  refine ⟨g, 0, rfl, hg, ?_, ?_⟩
  · rw [Nat.zero_add]; exact (h.cellAt (j * 2) (by omega)).trans e1
  · rw [Nat.zero_add]; exact (h.cellAt (j * 2 + 1) (by omega)).trans e2
theorem af_cap {w : World} {B g n cap : Nat} {xs : List Value} (h : w.ownsRow B 37 2 (.slice (some ⟨g, 0, none⟩) n cap) n xs) : n ≤ cap ∧ cap ≤ maxLen := by
  rcases h.2 with ⟨e, -⟩ | ⟨_, _, _, e, _, _, h1, h2, _⟩
  · cases e
  · cases e; exact ⟨h1, h2⟩
theorem diff_back (a b : List Cl) : a.take (pre a b) ++ ((b.drop (pre a b)).take (b.length - pre a b - suf a b (pre a b))) ++ a.drop (pre a b + (a.length - pre a b - suf a b (pre a b))) = b := by
  have h1 := pre_take a b (pre a b) (Nat.le_refl _)
  have h2 := pre_take (a.drop (pre a b)).reverse (b.drop (pre a b)).reverse (suf a b (pre a b)) (Nat.le_refl _)
  have h3 := suf_le a b (pre a b)
  generalize suf a b (pre a b) = m at *
  generalize pre a b = f at *
  rw [List.take_reverse, List.take_reverse, List.length_drop, List.length_drop] at h2
  have h4 := List.reverse_inj.1 h2
  rw [← List.drop_drop, h4, h1, List.append_assoc, List.take_append_drop, List.take_append_drop]
end Go.Proofs.YtgjbafamiggafaaGreatDoor
/- The law ColourBack. -/
namespace Go.Proofs.YtgjbafamiggafaaGreatDoor
open Go.RowKit
open M
set_option maxRecDepth 100000 in
set_option maxHeartbeats 16000000 in
theorem back_any (ao : Option Addr) (cap : Nat) (l : List AF) (fi : Int) (s : ByteArray) (w : World) (hT : Tabs w) (hTk : Go.Proofs.YtgjbafamiggafaaGreatDoor.Tk w) (h : IsAF w w.heap.size ao l) (hl : l.length ≤ cap) (hc : cap ≤ maxLen) :
    Calls Tryz.prog 4 #[.slice ao l.length cap, .int .i64 fi, .string s] w fun e w' => e = .returned (.bool true) ∧ Below w.heap.size w w' := by
  have HV := hide (lives2_any w hT hTk)
  have HCo : Hid (∀ (ao : Option Addr) (cap : Nat) (l : List AF) (W : World), Below w.heap.size w W → IsAF W W.heap.size ao l → l.length ≤ cap → cap ≤ maxLen → Calls Tryz.prog 8 #[.slice ao l.length cap, .int .i64 fi] W fun e w' => CRes l fi W e w') := fun ao cap l W hW h hl hc => colours_any ao cap l fi W (hT.below hW) (hTk.below hW hTk.sz) h hl hc
  have HL := hide h
  clear h hT hTk
  go_enter Tryz.func4, Tryz.ntmps4
  go_wp2_with fail
  refine (HV.out).mono ?_
  rintro e w1 ⟨rfl, B1⟩
  have HB1 := hide B1
  have HC := hide ((HCo.out) ao cap l w1 B1 (((HL.out).below B1).wide B1.size) hl hc)
  clear HV B1
  go_wp2_with fail
  refine (HC.out).mono ?_
  rintro e w2 X2
  rcases X2 with ⟨r, rfl, B2, -⟩ | ⟨nv, cs, rfl, X2⟩
  · have HF : Hid (Below w.heap.size w w2) := (HB1.out).trans (B2.mono (HB1.out).size)
    clear HC B2 HCo
    go_wp2_with fail
    go_ret
    exact ⟨rfl, HF.out⟩
  · obtain ⟨B2, ho, hc2, hf, i, a, rfl, ha, -⟩ := X2.out
    obtain ⟨hn16, -, -, -⟩ := fltF_ok hf
    have hil : i < l.length := by
      rcases Nat.lt_or_ge i l.length with g | g
      · exact g
      · rw [List.getElem?_eq_none g] at ha; cases ha
    have hi1 : ¬ (l.length : Int) ≤ (i : Int) := by omega
    obtain ⟨va, vc, rfl⟩ : ∃ va vc, nv = .slice va cs.length vc := by
      rcases ho.2 with ⟨e, h0⟩ | ⟨g', cap', cur, e, -⟩
      · exact ⟨none, 0, by rw [h0]; exact e⟩
      · exact ⟨_, _, e⟩
    have HO := hide ho
    have HB2 : Hid (Below w.heap.size w w2) := (HB1.out).trans (B2.mono (HB1.out).size)
    clear HC X2 B2 ho hf
    have HL2 := hide (((HL.out).below HB2.out).wide (HB2.out).size)
    have hb0 : Below w2.heap.size w2 (w2.alloc (.cells #[] 37)) := (Below.refl _ w2).alloc (Nat.le_refl _) _
    have hown0 : (w2.alloc (.cells #[] 37)).ownsRow w2.heap.size 37 2 (.slice (some ⟨w2.heap.size, 0, none⟩) 0 0) 0 [] := ⟨rfl, .inr ⟨_, 0, #[], rfl, Nat.le_refl _, heap_alloc_new _ _, Nat.le_refl _, Nat.zero_le _, rfl, rfl⟩⟩
    obtain ⟨v4, w4, ra, o4, g4⟩ := run_append_f _ _ _ hown0 ao cap l (((HL2.out).below hb0).wide hb0.size) (by omega) hn16 hb0.size 22
    obtain ⟨g, cap4, rfl, hle4, hlt4⟩ := o4.form (by omega)
    obtain ⟨o5, g5⟩ := o4.stored (i * 2 + 1) (.string s)
    rw [fvs_set l i a s ha] at o5
    obtain ⟨hc4, hc4'⟩ := af_cap o4
    have c4 : w4.cell? ⟨g, i * 2 + 1, none⟩ = some (.string a.t) := (o4.cellAt (i * 2 + 1) (by omega)).trans (fvs_even l i a ha).2
    have f4 : w4.frozen? ⟨g, i * 2 + 1, none⟩ = false := o4.frozenAt _
    have hb4 : Below w2.heap.size w2 w4 := hb0.grown g4 hb0.size (fun k hk => by cases hk; exact Nat.le_refl _)
    have hb5 : Below w2.heap.size w2 (w4.setCell ⟨g, i * 2 + 1, none⟩ (.string s)) := hb4.grown g5 hb4.size (fun k hk => by cases hk; exact hle4)
    have HB5 : Hid (Below w.heap.size w (w4.setCell ⟨g, i * 2 + 1, none⟩ (.string s))) := (HB2.out).trans (hb5.mono (HB2.out).size)
    have hsz5 : (w4.setCell ⟨g, i * 2 + 1, none⟩ (.string s)).heap.size = w4.heap.size := by simp
    have HC5 := hide ((HCo.out) (some ⟨g, 0, none⟩) cap4 (l.set i ⟨a.n, s⟩) _ HB5.out (af_owns (by rw [List.length_set]) o5 (by rw [hsz5]; exact hlt4)) (by rw [List.length_set]; exact hc4) hc4')
    rw [List.length_set] at HC5
    have HIa := hide ((IsC.ofOwns (L := cs) (show w2.ownsRow _ _ 4 _ cs.length (cs.flatMap clv) from HO.out) (by omega)).below hb5)
    have HB45 := hide hb5
    have i3 : (i : Int) < (l.length : Int) := by omega
    clear o4 g4 o5 g5 hb4 hb5 hsz5 hb0 hown0 HO HCo HL HL2 HB1 hc4 hc4'
    go_wp2_with (at_builtin; refine Lib.wpList_append_run _ rfl _ _ _ _ rfl _ _ rfl rfl _ _ ra ?_)
    refine (HC5.out).mono ?_
    rintro e w6 X6
    rcases X6 with ⟨r, rfl, B6, -⟩ | ⟨nv, cs2, rfl, X6⟩
    · have HF : Hid (Below w.heap.size w w6) := (HB5.out).trans (B6.mono (HB5.out).size)
      clear HC5 B6 HIa HB45 HB5 ra c4 f4
      go_wp2_with fail
      go_ret
      exact ⟨rfl, HF.out⟩
    · obtain ⟨B6, ho6, hc6, -⟩ := X6.out
      have HF : Hid (Below w.heap.size w w6) := (HB5.out).trans (B6.mono (HB5.out).size)
      have HA := hide ((HIa.out).below B6)
      have hb6 : IsC w6 nv cs2 := IsC.ofOwns (L := cs2) (show w6.ownsRow _ _ 4 _ cs2.length (cs2.flatMap clv) from ho6) (by omega)
      have HB := hide hb6
      have HD := hide (diff_any _ _ cs cs2 w6 HA.out hb6)
      obtain ⟨bo, cb, rfl, -⟩ := hb6
      clear X6 B6 ho6 HC5 HIa HB45 HB5 ra c4 f4 HB2
      have hp := pre_le cs cs2
      have hs := suf_le cs cs2 (pre cs cs2)
      have HDB := hide (diff_back cs cs2)
      generalize suf cs cs2 (pre cs cs2) = m at *
      generalize pre cs cs2 = f at *
      obtain ⟨p2, hp2⟩ : ∃ p2, cs.length - f - m = p2 := ⟨_, rfl⟩
      obtain ⟨q2, hq2⟩ : ∃ q2, cs2.length - f - m = q2 := ⟨_, rfl⟩
      have hPl : ((cs2.drop f).take q2).length = q2 := by rw [List.length_take, List.length_drop]; omega
      rw [hq2, hp2] at HDB HD
      generalize (cs2.drop f).take q2 = P at *
      go_wp2_with fail
      refine (HD.out).mono ?_
      rintro e w7 ⟨pv, rfl, HV, B7⟩
      have HF7 : Hid (Below w.heap.size w w7) := (HF.out).trans (B7.mono (HF.out).size)
      have HB7 := hide ((HB.out).below B7)
      have HP := hide (patch_yes _ _ cs P f p2 w7 ((HA.out).below B7) HV.out (by omega) (by omega))
      rw [HDB.out] at HP
      obtain ⟨po, cp, rfl, -⟩ := HV.out
      rw [hPl] at HP ⊢
      clear HD HDB B7 HF HA HB HV
      go_wp2_with fail
      refine (HP.out).mono ?_
      rintro e w8 ⟨rv, rfl, HR, B8⟩
      have HF8 : Hid (Below w.heap.size w w8) := (HF7.out).trans (B8.mono (HF7.out).size)
      have HB8 := hide ((HB7.out).below B8)
      obtain ⟨ro, cr, rfl, -⟩ := (HR.out)
      have d1 : (cs2.length == cs2.length) = true := by simp
      have d2 : decide ((cs2.length : Int) < (q2 : Int)) = false := by simp; omega
      have d2' : decide (cs2.length < q2) = false := by simp; omega
      have z1 : cs2.length ≤ 20000 := hc6
      clear HP B8 HF7 HB7 hp hs hp2 hq2 hPl
      go_wp2_with fail
      go_loopw [18] (fun v wr => ∃ n : Nat, v = .int .i64 n ∧ n ≤ cs2.length ∧ Hid (IsC wr (.slice ro cs2.length cr) cs2 ∧ IsC wr (.slice bo cs2.length cb) cs2) ∧ Hid (Below w.heap.size w wr)) (fun v _ => cs2.length - (intOf v).toNat)
      case atStart => exact ⟨0, rfl, Nat.zero_le _, ⟨HR.out, HB8.out⟩, HF8.out⟩
      case round =>
        obtain ⟨n, rfl, hn, HQ, HK⟩ := hrel
        by_cases g1 : n < cs2.length
        case neg =>
          have i1 : decide ((n : Int) < (cs2.length : Int)) = false := by simp; omega
          have j1 : decide (n < cs2.length) = false := by simp; omega
          clear g1
          go_wp2_with fail
          go_ret
          exact ⟨rfl, HK.out⟩
        have i1 : decide ((n : Int) < (cs2.length : Int)) = true := by simp; omega
        have j1 : decide (n < cs2.length) = true := by simp; omega
        have i4 : (n : Int) < (cs2.length : Int) := by omega
        obtain ⟨b1, o1, x, rfl, ex, p1, p2', p3, p4⟩ := ((HQ.out).1).get (k := n) g1
        obtain ⟨b2, o2, y, rfl, ey, q1, q2', q3, q4⟩ := ((HQ.out).2).get (k := n) g1
        obtain rfl : x = y := by rw [ex] at ey; exact Option.some.inj ey
        have e1 := fun W => neC W x x
        have e2 := guardC
        rw [decide_eq_true rfl, Bool.not_true] at e1
        have HQ' := hide (fun k => (⟨((HQ.out).1).below (belowN (Below.refl _ wr) k), ((HQ.out).2).below (belowN (Below.refl _ wr) k)⟩ : _ ∧ _))
        clear ex ey HQ
        go_wp2_with fail
        go_quiet (fail)
        go_wp2_with fail
        refine ⟨⟨n + 1, by simp, by omega, (HQ'.out) _, belowN HK.out _⟩, ?_⟩
        show cs2.length - (n + 1) < cs2.length - n
        omega
end Go.Proofs.YtgjbafamiggafaaGreatDoor
