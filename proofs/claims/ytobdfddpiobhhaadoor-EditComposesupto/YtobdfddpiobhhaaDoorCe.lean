/- One edit for two: the walk. -/
import Derived.Test.YtobdfddpiobhhaaDoorCd
import Derived.Test.YtobdfddpiobhhaaDoorIa
namespace Go.Proofs.YtobdfddpiobhhaaDoor
open Go.RowKit
open EM
theorem IsW.newAt (B : Nat) (w : World) (hB : B ≤ w.heap.size) : IsW B (w.alloc (.cells #[.slice none 0 0, .int .i64 0, .bool false, .int .i64 0, .pointer none, .slice none 0 0] 82)) w.heap.size Wr.new (fun k => k = w.heap.size) := by
  refine ⟨⟨.slice none 0 0, .pointer none, .slice none 0 0, 0, heap_alloc_new w _, World.ownsRow_nil _ _ _ _, .inl ⟨rfl, rfl, rfl⟩, (fun _ _ h => by cases h), by omega, fun k hk => by simp [Value.ownBlock] at hk, fun k hk => by simp [Value.ownBlock] at hk⟩, rfl, fun k hk => ?_⟩
  subst hk
  simp
  exact hB
theorem IsC.base {B : Nat} {w : World} {c : Nat} {A : List St} {F : Nat → Prop} (h : IsC B w c A F) : B ≤ w.heap.size := Nat.le_trans (h.lt c h.f).1 (Nat.le_of_lt (h.lt c h.f).2)
/-- Two cursors and a writer, apart from one another. -/
structure M3 (B : Nat) (w wr : World) (c d b : Nat) (A D : List St) (W : Wr) (FA FD FW : Nat → Prop) : Prop where
  a : IsC B wr c A FA
  d : IsC B wr d D FD
  w_ : IsW B wr b W FW
  ad : ∀ k, FA k → ¬ FD k
  aw : ∀ k, FA k → ¬ FW k
  dw : ∀ k, FD k → ¬ FW k
  be : Below B w wr
theorem M3.onA {B : Nat} {w wr w1 : World} {c d b : Nat} {A D A' : List St} {W : Wr} {FA FD FW : Nat → Prop} (h : M3 B w wr c d b A D W FA FD FW) (h1 : IsC B w1 c A' (fun k => FA k ∨ (wr.heap.size ≤ k ∧ k < w1.heap.size))) (hK : Kp FA wr w1) :
    M3 B w w1 c d b A' D W (fun k => FA k ∨ (wr.heap.size ≤ k ∧ k < w1.heap.size)) FD FW := by
  refine ⟨h1, h.d.keep hK (fun k hk hh => h.ad k hh hk) (fun k hk => (h.a.lt k hk).1), h.w_.keep hK (fun k hk hh => h.aw k hh hk), fun k hk hh => ?_, fun k hk hh => ?_, h.dw, h.be.trans (hK.below h.a.base (fun k hk => (h.a.lt k hk).1))⟩
  · rcases hk with hk | hk
    · exact h.ad k hk hh
    · have := (h.d.lt k hh).2; omega
  · rcases hk with hk | hk
    · exact h.aw k hk hh
    · have := (h.w_.lt k hh).2; omega
theorem M3.onD {B : Nat} {w wr w1 : World} {c d b : Nat} {A D A' : List St} {W : Wr} {FA FD FW : Nat → Prop} (h : M3 B w wr c d b A D W FA FD FW) (h1 : IsC B w1 d A' (fun k => FD k ∨ (wr.heap.size ≤ k ∧ k < w1.heap.size))) (hK : Kp FD wr w1) :
    M3 B w w1 c d b A A' W FA (fun k => FD k ∨ (wr.heap.size ≤ k ∧ k < w1.heap.size)) FW := by
  refine ⟨h.a.keep hK (fun k hk hh => h.ad k hk hh) (fun k hk => (h.d.lt k hk).1), h1, h.w_.keep hK (fun k hk hh => h.dw k hh hk), fun k hk hh => ?_, h.aw, fun k hk hh => ?_, h.be.trans (hK.below h.a.base (fun k hk => (h.d.lt k hk).1))⟩
  · rcases hh with hh | hh
    · exact h.ad k hk hh
    · have := (h.a.lt k hk).2; omega
  · rcases hk with hk | hk
    · exact h.dw k hk hh
    · have := (h.w_.lt k hh).2; omega
theorem M3.onW {B : Nat} {w wr w1 : World} {c d b : Nat} {A D : List St} {W W' : Wr} {FA FD FW : Nat → Prop} (h : M3 B w wr c d b A D W FA FD FW) (h1 : IsW B w1 b W' (fun k => FW k ∨ (wr.heap.size ≤ k ∧ k < w1.heap.size))) (hK : Kp FW wr w1) :
    M3 B w w1 c d b A D W' FA FD (fun k => FW k ∨ (wr.heap.size ≤ k ∧ k < w1.heap.size)) := by
  refine ⟨h.a.keep hK (fun k hk hh => h.aw k hk hh) (fun k hk => (h.w_.lt k hk).1), h.d.keep hK (fun k hk hh => h.dw k hk hh) (fun k hk => (h.w_.lt k hk).1), h1, h.ad, fun k hk hh => ?_, fun k hk hh => ?_, h.be.trans (hK.below h.a.base (fun k hk => (h.w_.lt k hk).1))⟩
  · rcases hh with hh | hh
    · exact h.aw k hk hh
    · have := (h.a.lt k hk).2; omega
  · rcases hh with hh | hh
    · exact h.dw k hk hh
    · have := (h.d.lt k hk).2; omega
theorem M3.keep {B : Nat} {w wr w1 : World} {c d b : Nat} {A D : List St} {W : Wr} {FA FD FW : Nat → Prop} (h : M3 B w wr c d b A D W FA FD FW) (hb : Below wr.heap.size wr w1) : M3 B w w1 c d b A D W FA FD FW := by
  have hK : Kp (fun _ => False) wr w1 := Kp.ofBelow hb _
  exact ⟨h.a.keep hK (fun _ _ => id) (fun _ h => h.elim), h.d.keep hK (fun _ _ => id) (fun _ h => h.elim), h.w_.keep hK (fun _ _ => id), h.ad, h.aw, h.dw, h.be.trans (hb.mono h.a.base)⟩
theorem csum_left {A : List St} {n : Nat} (hf : fits A n) : csum (left A n) + (if A = [] then 0 else n) = csum A := by
  cases A with
  | nil => simp [left, csum]
  | cons s A =>
    simp only [left, fits] at hf ⊢
    split
    · rename_i h; simp [csum]; omega
    · simp [csum, tl_c]; omega
theorem csum_both {A D : List St} (pa : pos A) (pd : pos D) (h : ¬ (A = [] ∧ D = [])) : csum (left A (comm A D)) + csum (left D (comm A D)) + comm A D ≤ csum A + csum D ∧ 0 < comm A D := by
  obtain ⟨f1, f2⟩ := comm_fits A D
  have h1 := csum_left f1
  have h2 := csum_left f2
  refine ⟨?_, comm_pos A D pa pd h⟩
  by_cases hA : A = []
  · have hD : ¬ D = [] := fun e => h ⟨hA, e⟩
    rw [if_neg hD] at h2
    omega
  · rw [if_neg hA] at h1
    omega
theorem csum_mem {A : List St} {s : St} (h : s ∈ A) : s.c ≤ csum A := by
  induction A with
  | nil => cases h
  | cons t A ih =>
    have e : csum (t :: A) = t.c + csum A := by simp [csum]
    rcases List.mem_cons.1 h with rfl | h
    · omega
    · have := ih h; omega
theorem fol_c {p q : St} {n : Nat} (hp : p.c = n) (hq : q.c = n) : (fol p q).c ≤ n := by
  unfold fol
  split
  · omega
  · split
    · omega
    · simp [St.c]
theorem Wr.small_mono {W : Wr} {N M N' M' : Nat} (h : Wr.small W N M) (h1 : N ≤ N') (h2 : M ≤ M') : Wr.small W N' M' := ⟨Nat.le_trans h.1 h1, Nat.le_trans h.2.1 h1, Nat.le_trans h.2.2 h2⟩
/-- What holds at each round. -/
structure CI (B : Nat) (w wr : World) (c d b : Nat) (A D : List St) (W : Wr) (x T : By) (K : Nat) : Prop where
  m : ∃ FA FD FW, M3 B w wr c d b A D W FA FD FW
  sm : ∃ N, Wr.small W N N ∧ N + csum A + csum D ≤ K ∧ tot W.l + (Wr.txt W).length ≤ N
  iv : CInv x A D W T
theorem CI.next {B : Nat} {w wr w1 : World} {c d b : Nat} {A D A' D' : List St} {W : Wr} {x T : By} {K : Nat} {s : St} (h : CI B w wr c d b A D W x T K) (hm : ∃ FA FD FW, M3 B w w1 c d b A' D' (W.add s) FA FD FW)
    (n : Nat) (hn : 0 < n) (hs : s.c ≤ n) (hc : csum A' + csum D' + n ≤ csum A + csum D) (hv : CInv x A' D' (W.add s) T) : CI B w w1 c d b A' D' (W.add s) x T K := by
  obtain ⟨N, h1, h2, h3⟩ := h.sm
  have h4 := Wr.tot_add W s N h3
  exact ⟨hm, ⟨N + n, Wr.small_mono (Wr.small_add W s N N h1) (by omega) (by omega), by omega, by omega⟩, hv⟩
set_option maxRecDepth 100000 in
set_option maxHeartbeats 4000000 in
theorem composed_any (B : Nat) (w : World) (c d : Nat) (A D : List St) (FA FD : Nat → Prop) (x T : By) (hA : IsC B w c A FA) (hD : IsC B w d D FD) (hAD : ∀ k, FA k → ¬ FD k) (hB : B ≤ w.heap.size) (K : Nat) (hK : csum A + csum D ≤ K) (hK2 : K ≤ 1073741824) (hv : CInv x A D Wr.new T) :
    Calls Tryd.prog 29 #[.pointer (some ⟨c, 0, none⟩), .pointer (some ⟨d, 0, none⟩)] w fun e w' => ∃ v' W, e = .returned v' ∧ w'.ownsRow B 53 3 v' W.spans.length ((W.spans.map raw).flatMap Rw.vals) ∧ CInv x [] [] W T ∧ Wr.small W K K ∧ tot W.l + (Wr.txt W).length ≤ K ∧ Below B w w' := by
  have k0 : Kp (fun _ => False) w (w.alloc (.cells #[.slice none 0 0, .int .i64 0, .bool false, .int .i64 0, .pointer none, .slice none 0 0] 82)) := (Kp.refl _ _).alloc _
  have HI := hide (show CI B w (w.alloc (.cells #[.slice none 0 0, .int .i64 0, .bool false, .int .i64 0, .pointer none, .slice none 0 0] 82)) c d w.heap.size A D Wr.new x T K from
    ⟨⟨FA, FD, _, hA.keep k0 (fun _ _ => id) (fun _ h => h.elim), hD.keep k0 (fun _ _ => id) (fun _ h => h.elim), IsW.newAt B w hB, hAD, fun k hk e => by have := (hA.lt k hk).2; omega, fun k hk e => by have := (hD.lt k hk).2; omega, (Below.refl _ w).alloc hB _⟩, ⟨0, ⟨by simp [Wr.new], by simp [Wr.new, Wr.txt], by simp [Wr.new]⟩, by omega, by simp [Wr.new, Wr.txt, tot]⟩, hv⟩)
  clear k0 hA hD hv hAD hK FA FD
  go_enter Tryd.func29, Tryd.ntmps29
  go_wp2_with fail
  go_loopg [6] (csum A + csum D) (fun g p wr => ∃ (A D : List St) (W : Wr), csum A + csum D = g ∧ Hid (CI B w wr c d w.heap.size A D W x T K))
  case atStart => exact ⟨A, D, _, rfl, HI⟩
  case round =>
    clear HI A D
    obtain ⟨A, D, W, hg, HI⟩ := hrel
    obtain ⟨FA, FD, FW, hM⟩ := (HI.out).m
    have HM := hide hM
    have hBr := hM.a.base
    obtain ⟨N, hsm, hN, htt⟩ := (HI.out).sm
    have HSM := hide hsm
    have HTT := hide htt
    obtain ⟨a1, a2, al⟩ := hM.a.nows
    obtain ⟨d1, d2, dl⟩ := hM.d.nows
    clear hM hsm htt a2 d2
    cases A with
    | nil =>
      replace a1 : wr.cell? ⟨c, 1, none⟩ = some (.int .i64 0) := a1
      cases D with
      | nil =>
        go_wp2_with fail
        refine (ended_any B wr c [] FA (HM.out).a).mono ?_
        rintro e w' ⟨rfl, hw'⟩
        rw [hw']
        clear hw' w'
        go_wp2_with fail
        refine (ended_any B _ d [] FD (HM.out).d).mono ?_
        rintro e w' ⟨rfl, hw'⟩
        rw [hw']
        clear hw' w'
        go_wp2_with fail
        refine (edit_any B w.heap.size wr W FW (HM.out).w_ hBr (Nat.le_trans (HSM.out).1 (by omega)) (Nat.le_trans (Nat.le_trans (Nat.le_add_right _ _) (HSM.out).2.2) (by omega))).mono ?_
        rintro e w4 ⟨v', rfl, hown, hK⟩
        have HQ := hide (And.intro hown hK)
        clear hown hK
        go_wp2_with fail
        go_ret
        exact ⟨_, W, rfl, (HQ.out).1, (HI.out).iv, Wr.small_mono HSM.out (by omega) (by omega), Nat.le_trans HTT.out (by omega), (HM.out).be.trans ((HQ.out).2.below hBr (fun i hi => ((HM.out).w_.lt i hi).1))⟩
      | cons t D =>
        by_cases ht : t.k = 1
        · obtain ⟨t, rfl⟩ : ∃ x, t = .put x := by cases t with | put x => exact ⟨x, rfl⟩ | stay n => simp [St.k] at ht | drop n => simp [St.k] at ht
          replace d1 : wr.cell? ⟨d, 1, none⟩ = some (.int .i64 1) := d1
          clear ht
          go_wp2_with fail
          refine (ended_any B wr c [] FA (HM.out).a).mono ?_
          rintro e w' ⟨rfl, hw'⟩
          rw [hw']
          clear hw' w'
          go_wp2_with fail
          refine (ended_any B _ d (St.put t :: D) FD (HM.out).d).mono ?_
          rintro e w' ⟨rfl, hw'⟩
          rw [hw']
          clear hw' w'
          have hp := (HI.out).iv.pb (.put t) (by simp)
          have hcs : csum (St.put t :: D) = (St.put t).c + csum D := by simp [csum]
          go_wp2_with fail
          refine (whole_any B wr d (.put t) D FD (HM.out).d hBr (by have := csum_mem (A := St.put t :: D) (s := .put t) (by simp); omega)).mono ?_
          rintro e w1 ⟨rfl, h1, hk1⟩
          have HM1 := hide ((HM.out).onD h1 hk1)
          clear h1 hk1
          go_wp2_with fail
          refine (add_any B w.heap.size w1 W _ (.put t) N N (HM1.out).w_ (HM1.out).a.base HSM.out (by omega) (by omega)).mono ?_
          rintro e w2 ⟨rfl, h2, hk2⟩
          have HI2 := hide (CI.next HI.out ⟨_, _, _, (HM1.out).onW h2 hk2⟩ (St.put t).c hp (Nat.le_refl _) (by omega) (HI.out).iv.putB)
          clear h2 hk2
          go_wp2_with fail
          go_roundg (csum ([] : List St) + csum D)
          case measure => omega
          case rel => exact ⟨_, D, _, rfl, HI2⟩
        · replace d1 : wr.cell? ⟨d, 1, none⟩ = some (.int .i64 t.k) := d1
          have kd1 : ((t.k : Int) == 1) = false := by simp only [beq_eq_false_iff_ne, ne_eq]; omega
          have kd2 : ¬ (t.k : Int) = 1 := by omega
          go_wp2_with fail
          refine (ended_any B wr c [] FA (HM.out).a).mono ?_
          rintro e w' ⟨rfl, hw'⟩
          rw [hw']
          clear hw' w'
          go_wp2_with fail
          refine (ended_any B _ d (t :: D) FD (HM.out).d).mono ?_
          rintro e w' ⟨rfl, hw'⟩
          rw [hw']
          clear hw' w'
          go_wp2_with fail
          have hf := comm_fits ([] : List St) (t :: D)
          have hb := csum_both (HI.out).iv.pa (HI.out).iv.pb (by simp)
          refine (common_any B wr c d ([] : List St) (t :: D) FA FD (HM.out).a (HM.out).d).mono ?_
          rintro e w1 ⟨rfl, h1⟩
          have HM1 := hide ((HM.out).keep h1)
          clear h1
          have HV := hide ((HI.out).iv.both (by simp) (by intro u hu; simp at hu; subst hu; exact ht rfl))
          have hp1 := hide (piece_c ([] : List St) _ hf.1)
          have hp2 := hide (piece_c (t :: D) _ hf.2)
          have HFI := hide hf
          clear hf
          generalize hnn : comm ([] : List St) (t :: D) = n at hb hp1 hp2 HFI HV ⊢
          have HNN := hide hnn
          clear hnn
          go_wp2_with fail
          refine (pass_any B w1 c n ([] : List St) FA (HM1.out).a (HM1.out).a.base (HFI.out).1 (fun s hs => by have := csum_mem hs; omega)).mono ?_
          rintro e w2 ⟨rfl, h2, hk2⟩
          have HM2 := hide ((HM1.out).onA h2 hk2)
          clear h2 hk2
          generalize hpa : piece ([] : List St) n = pa at hp1 HV ⊢
          generalize hla : left ([] : List St) n = la at hb HV HM2
          have HPA := hide hpa
          have HLA := hide hla
          clear hpa hla
          go_wp2_with fail
          refine (pass_any B w2 d n (t :: D) FD (HM2.out).d (HM2.out).a.base (HFI.out).2 (fun s hs => by have := csum_mem hs; omega)).mono ?_
          rintro e w3 ⟨rfl, h3, hk3⟩
          have HM3 := hide ((HM2.out).onD h3 hk3)
          clear h3 hk3
          generalize hpd : piece (t :: D) n = pd at hp2 HV ⊢
          generalize hld : left (t :: D) n = ld at hb HV HM3
          have HPD := hide hpd
          have HLD := hide hld
          clear hpd hld
          go_wp2_with fail
          refine (followed_any pa pd w3).mono ?_
          rintro e w4 ⟨rfl, h4⟩
          have HM4 := hide ((HM3.out).keep h4)
          clear h4
          have hfc := fol_c hp1.out hp2.out
          go_wp2_with fail
          refine (add_any B w.heap.size w4 W _ (fol pa pd) N N (HM4.out).w_ (HM4.out).a.base HSM.out (by omega) (by omega)).mono ?_
          rintro e w5 ⟨rfl, h5, hk5⟩
          have HI2 := hide (CI.next HI.out ⟨_, _, _, (HM4.out).onW h5 hk5⟩ n hb.2 hfc (by omega) HV.out)
          clear h5 hk5
          go_wp2_with fail
          go_roundg (csum la + csum ld)
          case measure => omega
          case rel => exact ⟨la, ld, _, rfl, HI2⟩
    | cons s A =>
      by_cases hk : ∃ u D', D = St.put u :: D'
      · obtain ⟨t, D, rfl⟩ := hk
        replace d1 : wr.cell? ⟨d, 1, none⟩ = some (.int .i64 1) := d1
        go_wp2_with fail
        refine (ended_any B wr c (s :: A) FA (HM.out).a).mono ?_
        rintro e w' ⟨rfl, hw'⟩
        rw [hw']
        clear hw' w'
        have hp := (HI.out).iv.pb (.put t) (by simp)
        have hcs : csum (St.put t :: D) = (St.put t).c + csum D := by simp [csum]
        go_wp2_with fail
        refine (whole_any B wr d (.put t) D FD (HM.out).d hBr (by have := csum_mem (A := St.put t :: D) (s := .put t) (by simp); omega)).mono ?_
        rintro e w1 ⟨rfl, h1, hk1⟩
        have HM1 := hide ((HM.out).onD h1 hk1)
        clear h1 hk1
        go_wp2_with fail
        refine (add_any B w.heap.size w1 W _ (.put t) N N (HM1.out).w_ (HM1.out).a.base HSM.out (by omega) (by omega)).mono ?_
        rintro e w2 ⟨rfl, h2, hk2⟩
        have HI2 := hide (CI.next HI.out ⟨_, _, _, (HM1.out).onW h2 hk2⟩ (St.put t).c hp (Nat.le_refl _) (by omega) (HI.out).iv.putB)
        clear h2 hk2
        go_wp2_with fail
        go_roundg (csum (s :: A) + csum D)
        case measure => omega
        case rel => exact ⟨_, D, _, rfl, HI2⟩
      · have hk1 : ¬ (hdS D).k = 1 := by
          intro h; cases D with
          | nil => simp [hdS, St.k] at h
          | cons t D => cases t with
            | put u => exact hk ⟨u, D, rfl⟩
            | stay n => simp [hdS, St.k] at h
            | drop n => simp [hdS, St.k] at h
        have kd1 : (((hdS D).k : Int) == 1) = false := by simp only [beq_eq_false_iff_ne, ne_eq]; omega
        have kd2 : ¬ ((hdS D).k : Int) = 1 := by omega
        by_cases hs : s.k = 2
        · obtain ⟨n, rfl⟩ : ∃ x, s = .drop x := by cases s with | drop x => exact ⟨x, rfl⟩ | stay n => simp [St.k] at hs | put n => simp [St.k] at hs
          replace a1 : wr.cell? ⟨c, 1, none⟩ = some (.int .i64 2) := a1
          clear hs
          go_wp2_with fail
          refine (ended_any B wr c (St.drop n :: A) FA (HM.out).a).mono ?_
          rintro e w' ⟨rfl, hw'⟩
          rw [hw']
          clear hw' w'
          go_wp2_with fail
          refine (whole_any B wr c (.drop n) A FA (HM.out).a hBr (by have := csum_mem (A := St.drop n :: A) (s := .drop n) (by simp); omega)).mono ?_
          rintro e w1 ⟨rfl, h1, hk1⟩
          have HM1 := hide ((HM.out).onA h1 hk1)
          clear h1 hk1
          have hp := (HI.out).iv.pa (.drop n) (by simp)
          have hcs : csum (St.drop n :: A) = (St.drop n).c + csum A := by simp [csum]
          go_wp2_with fail
          refine (add_any B w.heap.size w1 W _ (.drop n) N N (HM1.out).w_ (HM1.out).a.base HSM.out (by omega) (by omega)).mono ?_
          rintro e w2 ⟨rfl, h2, hk2⟩
          have HI2 := hide (CI.next HI.out ⟨_, _, _, (HM1.out).onW h2 hk2⟩ (St.drop n).c hp (Nat.le_refl _) (by omega) (HI.out).iv.dropA)
          clear h2 hk2
          go_wp2_with fail
          go_roundg (csum A + csum D)
          case measure => omega
          case rel => exact ⟨A, _, _, rfl, HI2⟩
        · replace a1 : wr.cell? ⟨c, 1, none⟩ = some (.int .i64 s.k) := a1
          have ks1 : ((s.k : Int) == 2) = false := by simp only [beq_eq_false_iff_ne, ne_eq]; omega
          have ks2 : ¬ (s.k : Int) = 2 := by omega
          have HKD := hide hk
          clear hk
          go_wp2_with fail
          refine (ended_any B wr c (s :: A) FA (HM.out).a).mono ?_
          rintro e w' ⟨rfl, hw'⟩
          rw [hw']
          clear hw' w'
          go_wp2_with fail
          have hf := comm_fits (s :: A) D
          have hb := csum_both (HI.out).iv.pa (HI.out).iv.pb (by simp)
          refine (common_any B wr c d (s :: A) D FA FD (HM.out).a (HM.out).d).mono ?_
          rintro e w1 ⟨rfl, h1⟩
          have HM1 := hide ((HM.out).keep h1)
          clear h1
          have HV := hide ((HI.out).iv.both (by intro u hu; simp at hu; subst hu; exact hs rfl) (by intro u hu; cases D with | nil => simp at hu | cons t D => simp at hu; exact HKD.out ⟨u, D, by rw [hu]⟩))
          have hp1 := hide (piece_c (s :: A) _ hf.1)
          have hp2 := hide (piece_c D _ hf.2)
          have HFI := hide hf
          clear hf
          generalize hnn : comm (s :: A) D = n at hb hp1 hp2 HFI HV ⊢
          have HNN := hide hnn
          clear hnn
          go_wp2_with fail
          refine (pass_any B w1 c n (s :: A) FA (HM1.out).a (HM1.out).a.base (HFI.out).1 (fun s hs => by have := csum_mem hs; omega)).mono ?_
          rintro e w2 ⟨rfl, h2, hk2⟩
          have HM2 := hide ((HM1.out).onA h2 hk2)
          clear h2 hk2
          generalize hpa : piece (s :: A) n = pa at hp1 HV ⊢
          generalize hla : left (s :: A) n = la at hb HV HM2
          have HPA := hide hpa
          have HLA := hide hla
          clear hpa hla
          go_wp2_with fail
          refine (pass_any B w2 d n D FD (HM2.out).d (HM2.out).a.base (HFI.out).2 (fun s hs => by have := csum_mem hs; omega)).mono ?_
          rintro e w3 ⟨rfl, h3, hk3⟩
          have HM3 := hide ((HM2.out).onD h3 hk3)
          clear h3 hk3
          generalize hpd : piece D n = pd at hp2 HV ⊢
          generalize hld : left D n = ld at hb HV HM3
          have HPD := hide hpd
          have HLD := hide hld
          clear hpd hld
          go_wp2_with fail
          refine (followed_any pa pd w3).mono ?_
          rintro e w4 ⟨rfl, h4⟩
          have HM4 := hide ((HM3.out).keep h4)
          clear h4
          have hfc := fol_c hp1.out hp2.out
          go_wp2_with fail
          refine (add_any B w.heap.size w4 W _ (fol pa pd) N N (HM4.out).w_ (HM4.out).a.base HSM.out (by omega) (by omega)).mono ?_
          rintro e w5 ⟨rfl, h5, hk5⟩
          have HI2 := hide (CI.next HI.out ⟨_, _, _, (HM4.out).onW h5 hk5⟩ n hb.2 hfc (by omega) HV.out)
          clear h5 hk5
          go_wp2_with fail
          go_roundg (csum la + csum ld)
          case measure => omega
          case rel => exact ⟨la, ld, _, rfl, HI2⟩
end Go.Proofs.YtobdfddpiobhhaaDoor
