/- The law UndoBack, walked: what is undone is as if it had not been, and can be done again. -/
import Derived.Test.YtopeagigdgjchaaDoorUd
namespace Go.Proofs.YtopeagigdgjchaaDoor
open Go.RowKit
open EM

def totR (L : List Rw) : Nat := (L.map fun r => r.s.size).sum
theorem totR_small {L : List Rw} (h : totR L ≤ 1048576) : smallL L := by
  intro r hr
  have : r.s.size ≤ (L.map fun r => r.s.size).sum := by
    clear h
    induction L with
    | nil => cases hr
    | cons c L ih =>
      rw [List.map_cons, List.sum_cons]
      rcases List.mem_cons.1 hr with rfl | hr
      · omega
      · have := ih hr; omega
  unfold totR at h
  omega
theorem totR_raw (Ls : List Sp) : totR (Ls.map raw) = tot Ls := by
  induction Ls with
  | nil => rfl
  | cons c L ih => simp only [totR, tot, List.map_cons, List.sum_cons, raw, ba_size] at ih ⊢; omega
theorem tabs_belowB {w w' : World} {B : Nat} (h : Rp.Tabs w) (hb : Below B w w') (hB : 4 ≤ B) : Rp.Tabs w' := by
  obtain ⟨⟨h1, h2⟩, h3⟩ := h
  have hc : ∀ b o, b < B → w'.cell? ⟨b, o, none⟩ = w.cell? ⟨b, o, none⟩ := fun b o h => hb.cell (p := ⟨b, o, none⟩) h
  refine ⟨⟨fun c hcc => ?_, fun i hi => ?_⟩, ?_⟩
  · rw [hc 2 c (by omega)]; exact h1 c hcc
  · rw [hc 3 _ (by omega), hc 3 _ (by omega)]; exact h2 i hi
  · have := hb.size; omega
theorem IsH.keepsB {w w' : World} {B h : Nat} {v : Value} {S : List Sta} {a : Nat} (H : IsH w B h v S a) (K : Kp (FpH h v S) w w') (hB : B ≤ w.heap.size) : Below B w w' :=
  K.below hB (fun k hk => by obtain ⟨_, _, _, _, h⟩ := H.typed hk; exact h)
theorem isL_belowB {w w' : World} {B : Nat} {v : Value} {L : List Rw} (h : IsL w v L) (hb : Below B w w') (hv : ∀ k, v.ownBlock = some k → k < B) : IsL w' v L :=
  h.keep (Kp.ofBelowB hb (S := fun k => B ≤ k) (fun _ h _ => h)) (fun k e h => by have := hv k e; have h' : B ≤ k := h; omega)
set_option maxRecDepth 100000 in
set_option maxHeartbeats 4000000 in
theorem undoBack_any (s : ByteArray) (va vb : Value) (La Lb : List Rw) (w : World) (hT : Rp.Tabs w) (ha : IsL w va La) (hb : IsL w vb Lb) (hva : ∀ k, va.ownBlock = some k → k < w.heap.size) (hvb : ∀ k, vb.ownBlock = some k → k < w.heap.size)
    (hz : s.size + La.length + totR La + Lb.length + totR Lb ≤ 1048576) :
    Calls Tryd.prog 4 #[.string s, va, vb] w fun e w' => e = .returned (.bool true) ∧ Below w.heap.size w w' := by
  have hls := bs_len s
  have h4 : 4 ≤ w.heap.size := hT.2
  have HA := hide ha
  have HB := hide hb
  have ha' := ha
  have hb' := hb
  obtain ⟨aa, ca, rfl, _, _, _, _⟩ := ha'
  obtain ⟨ab, cb, rfl, _, _, _, _⟩ := hb'
  have HVA := hide hva
  have HVB := hide hvb
  have HLS := hide hls
  clear ha hb hva hvb hls
  go_enter Tryd.func4, Tryd.ntmps4
  go_wp2_with fail
  refine (newH_any s w hT (by omega)).mono ?_
  rintro e w1 ⟨h, v, r, rfl, H1, hb1⟩
  have HH1 := hide H1
  clear H1
  have A1 := hide ((HA.out).below hb1)
  have B1 := hide ((HB.out).below hb1)
  have T1 := hT.below hb1
  have z1 := hb1.size
  go_wp2_with fail
  by_cases f1 : flt (bs s).length La = 0
  · obtain ⟨Ls1, e1, ok1⟩ := flt_split (bs s).length La f1
    have sm1 : smallL La := totR_small (by omega)
    have tt1 := totR_raw Ls1
    rw [← e1] at tt1
    have ll1 : La.length = Ls1.length := by rw [e1, List.length_map]
    have A1' : IsL w1 (.slice aa La.length ca) (Ls1.map raw) := by rw [← e1]; exact A1.out
    have sm1' : smallL (Ls1.map raw) := by rw [← e1]; exact sm1
    have al1 := app_len (bs s) 0 Ls1 ok1
    have hls := HLS.out
    have D := do_yes w1 w.heap.size h v _ 0 _ _ Ls1 T1 HH1.out rfl A1' ok1 (by show (bs s).length ≤ _; omega) (by omega) sm1' (by simp) (by simp) z1
    have HD := hide D
    clear D A1' sm1 sm1' f1 e1
    have HP := hide (And.intro tt1 (And.intro ll1 (And.intro al1 ok1)))
    clear tt1 ll1 al1 ok1 hls
    refine (HD.out).mono ?_
    rintro e w2 ⟨rfl, v2, q2, u2, H2, K2, F2⟩
    have b12 := (HH1.out).keepsB K2 z1
    have hb2 : Below w.heap.size w w2 := hb1.trans b12
    have T2 := tabs_belowB T1 b12 h4
    have B2 := hide (isL_belowB B1.out b12 HVB.out)
    have z2 := hb2.size
    obtain ⟨t1, ht1⟩ : ∃ t1, app (bs s) 0 Ls1 = t1 := ⟨_, rfl⟩
    have H2' : IsH w2 w.heap.size h v2 [⟨r, bs s, 0, u2, [1]⟩, ⟨q2, t1, 0, .slice none 0 0, []⟩] 1 := by rw [← ht1]; exact H2
    have lt1 : t1.length ≤ s.size + totR La := by
      have := (HP.out).2.2.1
      have := (HP.out).1
      have := HLS.out
      rw [ht1] at *
      omega
    have HH2 := hide H2'
    clear H2 H2' K2 F2 HD b12 ht1
    go_wp2_with fail
    refine (textH_any w2 w.heap.size h v2 _ 1 _ HH2.out rfl (by show t1.length ≤ _; omega)).mono ?_
    rintro e w3 ⟨rfl, hb3⟩
    have hb3' : Below w.heap.size w w3 := hb2.trans (hb3.mono hb2.size)
    have HH3 := hide ((HH2.out).below hb3)
    have T3 := T2.below hb3
    have B3 := hide ((B2.out).below hb3)
    have z3 := hb3'.size
    clear hb3 T2
    go_wp2_with fail
    by_cases f2 : flt t1.length Lb = 0
    · obtain ⟨Ls2, e2, ok2⟩ := flt_split t1.length Lb f2
      have sm2 : smallL Lb := totR_small (by omega)
      have tt2 := totR_raw Ls2
      rw [← e2] at tt2
      have ll2 : Lb.length = Ls2.length := by rw [e2, List.length_map]
      have B3' : IsL w3 (.slice ab Lb.length cb) (Ls2.map raw) := by rw [← e2]; exact B3.out
      have sm2' : smallL (Ls2.map raw) := by rw [← e2]; exact sm2
      have al2 := app_len t1 0 Ls2 ok2
      have D := do_yes w3 w.heap.size h v2 _ 1 _ _ Ls2 T3 HH3.out rfl B3' ok2 (by show t1.length ≤ _; omega) (by omega) sm2' (by simp) (by simp) z3
      have HD := hide D
      obtain ⟨t2, ht2⟩ : ∃ t2, app t1 0 Ls2 = t2 := ⟨_, rfl⟩
      have lt2 : t2.length ≤ s.size + totR La + totR Lb := by rw [← ht2]; omega
      have HT2 := hide ht2
      clear D B3' sm2 sm2' f2 e2 tt2 ll2 al2 ok2 ht2
      refine (HD.out).mono ?_
      rintro e w4 ⟨rfl, v4, q4, u4, H4, K4, F4⟩
      have b34 := (HH3.out).keepsB K4 z3
      have hb4 : Below w.heap.size w w4 := hb3'.trans b34
      have H4' : IsH w4 w.heap.size h v4 [⟨r, bs s, 0, u2, [1]⟩, ⟨q2, t1, 0, u4, [2]⟩, ⟨q4, t2, 1, .slice none 0 0, []⟩] 2 := by rw [← HT2.out]; exact H4
      have HH4 := hide H4'
      have z4 := hb4.size
      clear H4 H4' K4 F4 HD b34 HT2
      go_wp2_with fail
      refine (textH_any w4 w.heap.size h v4 _ 2 _ HH4.out rfl (by show t2.length ≤ _; omega)).mono ?_
      rintro e w5 ⟨rfl, hb5⟩
      have HH5 := hide ((HH4.out).below hb5)
      have hb5' : Below w.heap.size w w5 := hb4.trans (hb5.mono hb4.size)
      clear hb5
      go_wp2_with fail
      refine (undo_pos w5 w.heap.size h v4 _ 2 _ HH5.out rfl (by omega)).mono ?_
      rintro e w6 ⟨rfl, H6, K6⟩
      have hb6 : Below w.heap.size w w6 := hb5'.trans ((HH5.out).keepsB K6 hb5'.size)
      have HH6 := hide H6
      clear H6 K6
      go_wp2_with fail
      refine (textH_any w6 w.heap.size h v4 _ 1 _ HH6.out rfl (by show t1.length ≤ _; omega)).mono ?_
      rintro e w7 ⟨rfl, hb7⟩
      have HH7 := hide ((HH6.out).below hb7)
      have hb7' : Below w.heap.size w w7 := hb6.trans (hb7.mono hb6.size)
      clear hb7
      go_wp2_with fail
      refine (undo_pos w7 w.heap.size h v4 _ 1 _ HH7.out rfl (by omega)).mono ?_
      rintro e w8 ⟨rfl, H8, K8⟩
      have hb8 : Below w.heap.size w w8 := hb7'.trans ((HH7.out).keepsB K8 hb7'.size)
      have HH8 := hide H8
      clear H8 K8
      go_wp2_with fail
      refine (textH_any w8 w.heap.size h v4 _ 0 _ HH8.out rfl (by show (bs s).length ≤ _; have := HLS.out; omega)).mono ?_
      rintro e w9 ⟨rfl, hb9⟩
      have HH9 := hide ((HH8.out).below hb9)
      have hb9' : Below w.heap.size w w9 := hb8.trans (hb9.mono hb8.size)
      clear hb9
      rw [show ba (bs s) = s from ba_bs s]
      go_wp2_with fail
      refine (go_yes w9 w.heap.size h v4 _ 0 2 HH9.out (by simp)).mono ?_
      rintro e w10 ⟨rfl, H10, K10⟩
      have hb10 : Below w.heap.size w w10 := hb9'.trans ((HH9.out).keepsB K10 hb9'.size)
      have HH10 := hide H10
      clear H10 K10
      go_wp2_with fail
      refine (textH_any w10 w.heap.size h v4 _ 2 _ HH10.out rfl (by show t2.length ≤ _; omega)).mono ?_
      rintro e w11 ⟨rfl, hb11⟩
      obtain ⟨b1, hb1'⟩ : ∃ x, ba t1 = x := ⟨_, rfl⟩
      obtain ⟨b2, hb2'⟩ : ∃ x, ba t2 = x := ⟨_, rfl⟩
      rw [hb1', hb2']
      go_wp2_with fail
      go_ret
      exact ⟨by simp, hb10.trans (hb11.mono hb10.size)⟩
    · have D := do_no w3 w.heap.size h v2 _ 1 _ _ Lb HH3.out rfl B3.out f2
      have HD := hide D
      clear D f2
      refine (HD.out).mono ?_
      rintro e w4 ⟨rfl, hb4⟩
      clear HD
      go_wp2_with fail
      go_ret
      exact ⟨rfl, hb3'.trans (hb4.mono hb3'.size)⟩
  · have D := do_no w1 w.heap.size h v _ 0 _ _ La HH1.out rfl A1.out f1
    have HD := hide D
    clear D f1
    refine (HD.out).mono ?_
    rintro e w2 ⟨rfl, hb2⟩
    clear HD
    go_wp2_with fail
    go_ret
    exact ⟨rfl, hb1.trans (hb2.mono hb1.size)⟩
end Go.Proofs.YtopeagigdgjchaaDoor
