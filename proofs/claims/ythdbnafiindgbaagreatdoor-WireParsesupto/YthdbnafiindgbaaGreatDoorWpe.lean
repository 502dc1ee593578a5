/- The program's reader of messages: one key and one kid of a map. (written by wip/tools/wire_gen/genpe.py) -/
import Derived.Test.YthdbnafiindgbaaGreatDoorWpd
namespace Go.Proofs.YthdbnafiindgbaaGreatDoor
open Go.RowKit
open Wi

theorem z6 {z : Nat} (h : (z == 6) = true) : z = 6 := by simpa using h
set_option maxRecDepth 100000 in
set_option maxHeartbeats 8000000 in
theorem opairs1_key (d : Nat) (w0 : World) (sb KK K P M mb : Nat) (s : ByteArray) (w : World) (ks : List (List UInt8)) (kids : List J) (l : List UInt8) (hs : s.size ≤ 1073741824) (hl : Sfx s l) (hn' : ks.length + l.length ≤ s.size) (hp : PS w0 sb KK K P M mb s (40 - (d : Int)) w (ks, kids) l) (e n : Nat) (hk : keyR ks l = .bad e n) :
    Calls Tryz.prog 47 #[.pointer (some ⟨KK, 0, none⟩), .pointer (some ⟨P, 0, none⟩), .pointer (some ⟨M, 0, none⟩), .pointer (some ⟨K, 0, none⟩)] w fun en w' => OkP (PS w0 sb KK K P M mb s (40 - (d : Int))) (Ow sb w0) s (stpP d (ks, kids) l) en w' := by
  obtain ⟨kv, h, h'⟩ := hp
  obtain ⟨kao, kcp, rfl⟩ : ∃ ao cp, kv = .slice ao ks.length cp := by
    rcases h.kr.2 with ⟨e, h0⟩ | ⟨g, cap, cur, e, -⟩
    · exact ⟨none, 0, by rw [e]; show _ = Value.slice none ks.length 0; rw [h0]⟩
    · exact ⟨_, cap, e⟩
  have cKK : w.cell? ⟨KK, 0, none⟩ = some (.slice kao ks.length kcp) := by simp [World.cell?, h.kc]
  have cM : w.cell? ⟨M, 0, none⟩ = some (.map (some mb)) := by simp [World.cell?, h.mc]
  have cP : w.cell? ⟨P, 0, none⟩ = some (.pointer (some ⟨sb, 0, none⟩)) := by simp [World.cell?, h'.pc]
  have HE : Hid (stpP d (ks, kids) l = .bad e n) := by show _ = _; unfold stpP; rw [key_keyR]; simp only [hk]
  have HC : Hid (∀ W, Below w.heap.size w W → Calls Tryz.prog 48 #[.pointer (some ⟨sb, 0, none⟩), .map (some mb)] W fun en w' => en = flt (s.size - n : Nat) e ∧ Ow sb w0 w') := by
    intro W hW
    refine (okey_any sb mb s l _ ks ks.length W hs hl (h'.src.below hW) (h'.es.below hW) h'.ne (h.ms.below hW) (by omega)).mono ?_
    intro en w' h2
    unfold OkK at h2
    rw [hk] at h2
    refine ⟨h2.2, Kp.trans (h'.ow.to (Ow.ofBelow sb hW)) h2.1 (fun q hq e => e.elim id (fun e => ?_))⟩
    have := h.hmb; omega
  clear hk h h'
  go_enter Tryz.func47, Tryz.ntmps47
  go_wp2_with fail
  refine wpZ_start (S := fun w' => w'.cell? ⟨KK, 0, none⟩ = some (.slice kao ks.length kcp) ∧ w'.cell? ⟨P, 0, none⟩ = some (.pointer (some ⟨sb, 0, none⟩)) ∧ w'.cell? ⟨M, 0, none⟩ = some (.map (some mb))) (Z := fun j => j == 6) (by kernel_rfl) ?_
  have hS : w.drew.cell? ⟨KK, 0, none⟩ = some (.slice kao ks.length kcp) ∧ w.drew.cell? ⟨P, 0, none⟩ = some (.pointer (some ⟨sb, 0, none⟩)) ∧ w.drew.cell? ⟨M, 0, none⟩ = some (.map (some mb)) := ⟨cKK, cP, cM⟩
  have HW : Hid (Below w.heap.size w w.drew) := (Below.refl _ w).drew
  clear cKK cP cM
  generalize w.drew = w1 at *
  refine wpZ_take (i := 0) (dn := 4) (v := ?_) rfl rfl (by kernel_rfl) (fun z hz => by rcases z6 hz with rfl; kernel_rfl) (by kernel_rfl) (by kernel_rfl) (fun _ _ _ h => h) (Or.inl ⟨by rfl, ?_⟩) hS ?_
  rotate_left
  · (intro wx hSw; (try dsimp only at hSw); obtain ⟨hSw1, hSw2, hSw3⟩ := hSw; go_simp; try (with_reducible rfl))
  simp only [Act.put, List.setIfInBounds_toArray, List.set_cons_zero, List.set_cons_succ]
  refine wpZ_take (i := 1) (dn := 5) (v := ?_) rfl rfl (by kernel_rfl) (fun z hz => by rcases z6 hz with rfl; kernel_rfl) (by kernel_rfl) (by kernel_rfl) (fun _ _ _ h => h) (Or.inl ⟨by rfl, ?_⟩) hS ?_
  rotate_left
  · (intro wx hSw; (try dsimp only at hSw); obtain ⟨hSw1, hSw2, hSw3⟩ := hSw; go_simp; try (with_reducible rfl))
  simp only [Act.put, List.setIfInBounds_toArray, List.set_cons_zero, List.set_cons_succ]
  refine wpZ_take (i := 2) (dn := 6) (v := ?_) rfl rfl (by kernel_rfl) (fun z hz => by rcases z6 hz with rfl; kernel_rfl) (by kernel_rfl) (by kernel_rfl) (fun _ _ _ h => h) (Or.inl ⟨by rfl, ?_⟩) hS ?_
  rotate_left
  · (intro wx hSw; (try dsimp only at hSw); obtain ⟨hSw1, hSw2, hSw3⟩ := hSw; go_simp; try (with_reducible rfl))
  simp only [Act.put, List.setIfInBounds_toArray, List.set_cons_zero, List.set_cons_succ]
  refine wpZ_one (i := 3) (by kernel_rfl) rfl (fun K' hK' => ?_)
  go_simp
  refine ((HC.out) w1 HW.out).mono ?_
  rintro en w2 ⟨rfl, k2⟩
  refine ⟨rfl, ?_⟩
  unfold OkP
  rw [HE.out]
  exact ⟨rfl, k2⟩
theorem keyR_sfx {ks : List (List UInt8)} {l k r : List UInt8} (h : keyR ks l = .ok k r) : r <:+ l ∧ r.length < l.length ∧ k.length ≤ 4 * l.length := by
  unfold keyR at h
  have hb := bla_sfx l
  split at h
  · cases h
  · next c t hc =>
    rw [hc] at hb
    split at h
    · split at h
      · cases h
      · next k2 r2 ht =>
        have h1 := txt_sfx t.length [] t (Nat.le_refl _) k2 r2 ht
        have h2 := txt_ok ht
        have h3 := txt_max ht
        split at h
        · cases h
        · cases h
          have h4 := hb.length_le
          simp only [List.length_cons] at h4
          exact ⟨h1.trans ((List.suffix_cons c t).trans hb), by omega, by omega⟩
    · cases h
set_option maxRecDepth 100000 in
set_option maxHeartbeats 8000000 in
theorem opairs1_ok (d : Nat) (hV : VC d) (w0 : World) (sb KK K P M mb : Nat) (s : ByteArray) (wo : World) (ks : List (List UInt8)) (kids : List J) (l : List UInt8) (hs : s.size ≤ 1073741824) (hl : Sfx s l) (hn : kids.length + l.length ≤ s.size) (hn' : ks.length + l.length ≤ s.size) (hp : PS w0 sb KK K P M mb s (40 - (d : Int)) wo (ks, kids) l) (k r : List UInt8) (hk : keyR ks l = .ok k r) :
    Calls Tryz.prog 47 #[.pointer (some ⟨KK, 0, none⟩), .pointer (some ⟨P, 0, none⟩), .pointer (some ⟨M, 0, none⟩), .pointer (some ⟨K, 0, none⟩)] wo fun en wo' => OkP (PS w0 sb KK K P M mb s (40 - (d : Int))) (Ow sb w0) s (stpP d (ks, kids) l) en wo' := by
  obtain ⟨kv, h, h'⟩ := hp
  obtain ⟨kao, kcp, rfl⟩ : ∃ ao cp, kv = .slice ao ks.length cp := by
    rcases h.kr.2 with ⟨e, h0⟩ | ⟨g, cap, cur, e, -⟩
    · exact ⟨none, 0, by rw [e]; show _ = Value.slice none ks.length 0; rw [h0]⟩
    · exact ⟨_, cap, e⟩
  have cKK : wo.cell? ⟨KK, 0, none⟩ = some (.slice kao ks.length kcp) := by simp [World.cell?, h.kc]
  have cM : wo.cell? ⟨M, 0, none⟩ = some (.map (some mb)) := by simp [World.cell?, h.mc]
  have cP : wo.cell? ⟨P, 0, none⟩ = some (.pointer (some ⟨sb, 0, none⟩)) := by simp [World.cell?, h'.pc]
  obtain ⟨hsr, hrl, hkl⟩ := keyR_sfx hk
  have hl2 := hl.mono hsr
  have hll := hl.le
  have a1 := h'.hK
  have a2 := h'.hP
  have a3 := h'.sl
  have hw0 := h'.ow.size
  have HC0 : Hid (∀ W, Below wo.heap.size wo W → Calls Tryz.prog 48 #[.pointer (some ⟨sb, 0, none⟩), .map (some mb)] W fun en wo' => en = .returned (.string (ba k)) ∧ Kp (fun q => q = sb ∨ q = mb) W wo' ∧ RawS wo' sb s (pos s r) (40 - (d : Int)) ∧ Ms wo' mb (ks.length + 1) (ks ++ [k])) := by
    intro W hW
    refine (okey_any sb mb s l _ ks ks.length W hs hl (h'.src.below hW) (h'.es.below hW) h'.ne (h.ms.below hW) (by omega)).mono ?_
    intro en wo' h2
    unfold OkK at h2
    rw [hk] at h2
    exact ⟨h2.2.1, h2.1, h2.2.2.1, h2.2.2.2⟩
  obtain ⟨ib, hib, hb0, hb1, hb2⟩ := infoW infoS
  have hKKm : ¬ (KK = sb ∨ KK = mb) := fun e => e.elim (fun e => by have := h.hKK; omega) (fun e => h.ms.offc h.kc e.symm)
  have hMm : ¬ (M = sb ∨ M = mb) := fun e => e.elim (fun e => by have := h.hM; omega) (fun e => h.ms.offc h.mc e.symm)
  have hPm : ¬ (P = sb ∨ P = mb) := fun e => e.elim (fun e => by omega) (fun e => h.ms.offc h'.pc e.symm)
  have HO0 : Hid (wo.ownsRow w0.heap.size 9 1 (.slice kao ks.length kcp) ks.length (strv ks)) := h.kr
  have hrsb : (Value.slice kao ks.length kcp).ownBlock ≠ some sb := fun e => by have := (owns_geW h.kr _ e).1; omega
  have hrmb : (Value.slice kao ks.length kcp).ownBlock ≠ some mb := h.ms.off h.kr
  have hrKK : (Value.slice kao ks.length kcp).ownBlock ≠ some KK := fun e => by
    obtain ⟨-, c', hc⟩ := own_tyB h.kr e
    exact absurd (cells_tyB hc h.kc) (by decide)
  have hrM : (Value.slice kao ks.length kcp).ownBlock ≠ some M := fun e => by
    obtain ⟨-, c', hc⟩ := own_tyB h.kr e
    exact absurd (cells_tyB hc h.mc) (by decide)
  have hrP : (Value.slice kao ks.length kcp).ownBlock ≠ some P := fun e => by
    obtain ⟨-, c', hc⟩ := own_tyB h.kr e
    exact absurd (cells_tyB hc h'.pc) (by decide)
  have HKC : Hid (wo.heap[KK]? = some (.cells #[.slice kao ks.length kcp] 22 (0, 0))) := h.kc
  have HKL : Hid (KK < wo.heap.size ∧ P < wo.heap.size ∧ M < wo.heap.size) := ⟨heap_lt h.kc, heap_lt h'.pc, heap_lt h.mc⟩
  have HPK : Hid (∀ (w1 w2 wz w5 : World) (g cap : Nat), Below wo.heap.size wo w1 → Kp (fun q => q = sb ∨ q = mb) w1 w2 → RawS w2 sb s (pos s r) (40 - (d : Int)) → Ms w2 mb (ks.length + 1) (ks ++ [k]) → Below w2.heap.size w2 wz →
      w5.ownsRow w0.heap.size 9 1 (.slice (some ⟨g, 0, none⟩) (ks.length + 1) cap) (ks.length + 1) (strv ks ++ [.string (ba k)]) → wz.grownBy w5 (Value.slice kao ks.length kcp).ownBlock → ((Value.slice kao ks.length kcp).ownBlock = some g ∨ g = wz.heap.size) →
      PS w0 sb KK K P M mb s (40 - (d : Int)) (w5.setCell ⟨KK, 0, none⟩ (.slice (some ⟨g, 0, none⟩) (ks.length + 1) cap)) (ks ++ [k], kids) r) := fun w1 w2 wz w5 g cap b1 k2 hr hm bz hown hgrow hat => PS.key h h' b1 k2 hr hm bz hown hgrow hat
  have HSP : Hid (stpP d (ks, kids) l = match sign 58 r with | some r' => (match val d r' with | .ok j t => .ok (ks ++ [k], kids ++ [j]) t | .bad e n => .bad e n) | none => .bad 3 (bla r).length) := by
    show _ = _
    unfold stpP
    rw [key_keyR]
    simp only [hk]
    cases sign 58 r <;> rfl
  generalize stpP d (ks, kids) l = R at *
  clear h h' hk
  go_enter Tryz.func47, Tryz.ntmps47
  go_wp2_with fail
  refine wpZ_start (S := fun wo' => wo'.cell? ⟨KK, 0, none⟩ = some (.slice kao ks.length kcp) ∧ wo'.cell? ⟨P, 0, none⟩ = some (.pointer (some ⟨sb, 0, none⟩)) ∧ wo'.cell? ⟨M, 0, none⟩ = some (.map (some mb))) (Z := fun j => j == 6) (by kernel_rfl) ?_
  have hS : wo.drew.cell? ⟨KK, 0, none⟩ = some (.slice kao ks.length kcp) ∧ wo.drew.cell? ⟨P, 0, none⟩ = some (.pointer (some ⟨sb, 0, none⟩)) ∧ wo.drew.cell? ⟨M, 0, none⟩ = some (.map (some mb)) := ⟨cKK, cP, cM⟩
  have HW : Hid (Below wo.heap.size wo wo.drew) := (Below.refl _ wo).drew
  clear cKK cP cM
  generalize wo.drew = w1 at *
  refine wpZ_take (i := 0) (dn := 4) (v := ?_) rfl rfl (by kernel_rfl) (fun z hz => by rcases z6 hz with rfl; kernel_rfl) (by kernel_rfl) (by kernel_rfl) (fun _ _ _ h => h) (Or.inl ⟨by rfl, ?_⟩) hS ?_
  rotate_left
  · (intro wx hSw; (try dsimp only at hSw); obtain ⟨hSw1, hSw2, hSw3⟩ := hSw; go_simp; try (with_reducible rfl))
  simp only [Act.put, List.setIfInBounds_toArray, List.set_cons_zero, List.set_cons_succ]
  refine wpZ_take (i := 1) (dn := 5) (v := ?_) rfl rfl (by kernel_rfl) (fun z hz => by rcases z6 hz with rfl; kernel_rfl) (by kernel_rfl) (by kernel_rfl) (fun _ _ _ h => h) (Or.inl ⟨by rfl, ?_⟩) hS ?_
  rotate_left
  · (intro wx hSw; (try dsimp only at hSw); obtain ⟨hSw1, hSw2, hSw3⟩ := hSw; go_simp; try (with_reducible rfl))
  simp only [Act.put, List.setIfInBounds_toArray, List.set_cons_zero, List.set_cons_succ]
  refine wpZ_take (i := 2) (dn := 6) (v := ?_) rfl rfl (by kernel_rfl) (fun z hz => by rcases z6 hz with rfl; kernel_rfl) (by kernel_rfl) (by kernel_rfl) (fun _ _ _ h => h) (Or.inl ⟨by rfl, ?_⟩) hS ?_
  rotate_left
  · (intro wx hSw; (try dsimp only at hSw); obtain ⟨hSw1, hSw2, hSw3⟩ := hSw; go_simp; try (with_reducible rfl))
  simp only [Act.put, List.setIfInBounds_toArray, List.set_cons_zero, List.set_cons_succ]
  refine wpZ_one (i := 3) (by kernel_rfl) rfl (fun K' hK' => ?_)
  go_simp
  refine ((HC0.out) w1 HW.out).mono ?_
  rintro en w2 ⟨rfl, k2, hr2, hm2⟩
  have hS2 : w2.cell? ⟨KK, 0, none⟩ = some (.slice kao ks.length kcp) ∧ w2.cell? ⟨P, 0, none⟩ = some (.pointer (some ⟨sb, 0, none⟩)) ∧ w2.cell? ⟨M, 0, none⟩ = some (.map (some mb)) := ⟨k2.cellv hS.1 hKKm, k2.cellv hS.2.1 hPm, k2.cellv hS.2.2 hMm⟩
  show K' _ w2
  refine hK'.out _ _ (fun _ => hS2) (fun _ => ?_)
  clear hK' K'
  refine wpZ_one (i := 4) (by kernel_rfl) rfl (fun K' hK' => ?_)
  go_simp
  have bz : Below w2.heap.size w2 (w2.alloc (.cells #[.string (ba k)] 9)) := (Below.refl _ w2).alloc (Nat.le_refl _) _
  have kz : Kp (fun _ => False) w2 (w2.alloc (.cells #[.string (ba k)] 9)) := Kp.ofBelow bz _
  have hSz : (w2.alloc (.cells #[.string (ba k)] 9)).cell? ⟨KK, 0, none⟩ = some (.slice kao ks.length kcp) ∧ (w2.alloc (.cells #[.string (ba k)] 9)).cell? ⟨P, 0, none⟩ = some (.pointer (some ⟨sb, 0, none⟩)) ∧ (w2.alloc (.cells #[.string (ba k)] 9)).cell? ⟨M, 0, none⟩ = some (.map (some mb)) := ⟨kz.cellv hS2.1 id, kz.cellv hS2.2.1 id, kz.cellv hS2.2.2 id⟩
  have HZ : Hid ((w2.alloc (.cells #[.string (ba k)] 9)).heap[w2.heap.size]? = some (.cells #[.string (ba k)] 9 (0, 0))) := heap_alloc_new w2 _
  have HOz : Hid ((w2.alloc (.cells #[.string (ba k)] 9)).ownsRow w0.heap.size 9 1 (.slice kao ks.length kcp) ks.length (strv ks)) := kz.owns (k2.owns ((Kp.ofBelow HW.out (fun _ => False)).owns HO0.out (fun _ _ => id)) (fun q hq e => e.elim (fun e => hrsb (by rw [hq, e])) (fun e => hrmb (by rw [hq, e])))) (fun _ _ => id)
  have s1 := (HW.out).size
  have s2 := k2.size
  have sz := bz.size
  have hzw : w0.heap.size ≤ (w2.alloc (.cells #[.string (ba k)] 9)).heap.size := by omega
  have HPZ := hide ((HPK.out) w1 w2 (w2.alloc (.cells #[.string (ba k)] 9)))
  have HK2 := hide k2
  have HBZ := hide bz
  have HR2 := hide hr2
  have HM2 := hide hm2
  have eKz : Hid ((w2.alloc (.cells #[.string (ba k)] 9)).heap[KK]? = some (.cells #[.slice kao ks.length kcp] 22 (0, 0))) := kz.heap (k2.heap ((Kp.ofBelow HW.out (fun _ => False)).heap HKC.out id) hKKm) id
  refine hK'.out _ _ (fun _ => hSz) (fun _ => ?_)
  clear hK' K' k2 hr2 hm2 hS2 hS kz
  refine wpZ_one (i := 5) (by kernel_rfl) rfl (fun K' hK' => ?_)
  refine step_append_lies _ (by rfl) _ _ _ (by rfl) w0.heap.size 9 ib _ 1 16 Tryz.underlying22 hib hb0 hb1 hb2 rfl (by omega) (.slice kao ks.length kcp) ks.length (strv ks) (by rfl) HOz.out
    ⟨w2.heap.size, 0, none⟩ 1 1 [.string (ba k)] (by rfl) (by rfl) (World.news_of_block (cs := #[.string (ba k)]) (t := 9) (fr := (0, 0)) HZ.out) (by simp [Value.oneCell'])
    (by omega) (by unfold maxLen; omega) (by omega) hzw _ rfl ?_
  intro g cap w5 hown hgrow hat hlt
  have k5 : Kp (fun q => (Value.slice kao ks.length kcp).ownBlock = some q) (w2.alloc (.cells #[.string (ba k)] 9)) w5 := Kp.grown (Kp.refl _ _) hgrow (fun k hk _ => hk)
  have hS5 : w5.cell? ⟨KK, 0, none⟩ = some (.slice kao ks.length kcp) ∧ w5.cell? ⟨P, 0, none⟩ = some (.pointer (some ⟨sb, 0, none⟩)) ∧ w5.cell? ⟨M, 0, none⟩ = some (.map (some mb)) := ⟨k5.cellv hSz.1 hrKK, k5.cellv hSz.2.1 hrP, k5.cellv hSz.2.2 hrM⟩
  have eK5 := k5.heap eKz.out hrKK
  have fK5 : w5.frozen? ⟨KK, 0, none⟩ = false := by simp [World.frozen?, eK5]
  have cK5 := hS5.1
  have HP6 : Hid (PS w0 sb KK K P M mb s (40 - (d : Int)) (w5.setCell ⟨KK, 0, none⟩ (.slice (some ⟨g, 0, none⟩) (ks.length + 1) cap)) (ks ++ [k], kids) r) := (HPZ.out) w5 g cap HW.out HK2.out HR2.out HM2.out HBZ.out hown hgrow hat
  show K' (Act.put _ (some 9) _) w5
  refine hK'.out _ _ (fun _ => hS5) (fun _ => ?_)
  clear hK' K' hown hgrow hat eK5 hSz hS5 k5 hlt HOz HZ bz HPZ HK2 HBZ HR2 HM2 eKz HO0 HKC HKL HPK HC0
  simp only [Act.put, List.setIfInBounds_toArray, List.set_cons_zero, List.set_cons_succ]
  refine wpZ_one (i := 6) (by kernel_rfl) rfl (fun K' hK' => ?_)
  go_simp
  refine hK'.out _ _ (fun h => absurd h (by decide)) (fun _ => wpZ_end (by kernel_rfl) ?_)
  clear hK' K' cK5 fK5
  generalize w5.setCell ⟨KK, 0, none⟩ (.slice (some ⟨g, 0, none⟩) (ks.length + 1) cap) = w6 at *
  have HL2 := hide hl2
  have hps := (hl2.mono (bla_sfx r)).pos
  obtain ⟨kv6, hk6, hl6⟩ := HP6.out
  have cP6 : w6.cell? ⟨P, 0, none⟩ = some (.pointer (some ⟨sb, 0, none⟩)) := by simp [World.cell?, hl6.pc]
  have HSG := hide (osign_any sb s r (40 - (d : Int)) 58 58 rfl (by decide) w6 hs hl2 hl6.src)
  clear hk6 hl6 kv6 hl2 hl HW hKKm hMm hPm hrsb hrmb hrKK hrM hrP hib hb0 hb1 hb2 ib s1 s2 sz hzw
  generalize w2.heap.size = zb0
  go_wp2_with fail
  refine (HSG.out).mono ?_
  clear HSG cP6
  intro en w h7
  unfold OkS at h7
  cases hsg : sign 58 r with
  | none =>
    rw [hsg] at h7 HSP
    simp only at HSP
    obtain ⟨k7, rfl⟩ := h7
    have HF : Hid (OkP (PS w0 sb KK K P M mb s (40 - (d : Int))) (Ow sb w0) s R (flt (pos s (bla r) : Nat) 3) w) := by
      show OkP _ _ _ _ _ _
      rw [HSP.out]
      refine ⟨?_, ?_⟩
      · show flt _ _ = flt _ _
        rw [show s.size - (bla r).length = pos s (bla r) by omega]; rfl
      · obtain ⟨kv6, hk6, hl6⟩ := HP6.out
        exact hl6.ow.to k7
    clear HSP hsg k7 HP6
    go_wp2_with fail
    exact ⟨rfl, HF.out⟩
  | some r' =>
    rw [hsg] at h7 HSP
    simp only at HSP
    obtain ⟨k7, rfl, hr7⟩ := h7
    have hsl := sign_len hsg
    have hl7 : Sfx s r' := (HL2.out).mono (sign_sfx hsg)
    have HP7 := hide ((HP6.out).on _ w r' k7 hr7)
    clear hsg k7 hr7 HP6 HL2 hps
    obtain ⟨kv, hks, h⟩ := HP7.out
    obtain ⟨rv, eK, vl, ho, hvl, hk⟩ := h.row
    obtain ⟨ao, cp, rfl⟩ : ∃ ao cp, rv = .slice ao kids.length cp := by
      rcases ho.2 with ⟨e, h0⟩ | ⟨g, cap, cur, e, -⟩
      · exact ⟨none, 0, by rw [e]; show _ = Value.slice none kids.length 0; rw [h0]⟩
      · exact ⟨_, cap, e⟩
    have cK : w.cell? ⟨K, 0, none⟩ = some (.slice ao kids.length cp) := by simp [World.cell?, eK]
    have cP : w.cell? ⟨P, 0, none⟩ = some (.pointer (some ⟨sb, 0, none⟩)) := by simp [World.cell?, h.pc]
    cases hv : val d r' with
    | bad e n =>
      rw [hv] at HSP
      simp only at HSP
      have HC : Hid (∀ W, Below w.heap.size w W → Calls Tryz.prog 15 #[.pointer (some ⟨sb, 0, none⟩)] W fun en w' => en = flt (s.size - n : Nat) e ∧ Ow sb w0 w') := by
        intro W hW
        refine (hV sb s r' W hs hl7 (h.src.below hW) (h.es.below hW) h.ne).mono ?_
        intro en w' h2
        unfold OkV at h2
        rw [hv] at h2
        exact ⟨h2.2, h.ow.to ((Ow.ofBelow sb hW).to h2.1)⟩
      clear hv eK hk h hV hks ho HP7
      go_wp2_with fail
      refine wpZ_start (S := fun w' => w'.cell? ⟨K, 0, none⟩ = some (.slice ao kids.length cp) ∧ w'.cell? ⟨P, 0, none⟩ = some (.pointer (some ⟨sb, 0, none⟩))) (Z := fun j => j == 6 || j == 7 || j == 8) (by kernel_rfl) ?_
      have hS : w.drew.cell? ⟨K, 0, none⟩ = some (.slice ao kids.length cp) ∧ w.drew.cell? ⟨P, 0, none⟩ = some (.pointer (some ⟨sb, 0, none⟩)) := ⟨cK, cP⟩
      have HW : Hid (Below w.heap.size w w.drew) := (Below.refl _ w).drew
      clear cK cP
      generalize w.drew = w1 at *
      refine wpZ_take (i := 0) (dn := 12) (v := ?_) rfl rfl (by kernel_rfl) (fun z hz => by rcases z678 hz with rfl | rfl | rfl <;> kernel_rfl) (by kernel_rfl) (by kernel_rfl) (fun _ _ _ h => h) (Or.inl ⟨by rfl, ?_⟩) hS ?_
      rotate_left
      · (intro wx hSw; (try dsimp only at hSw); obtain ⟨hSw1, hSw2⟩ := hSw; go_simp; try (with_reducible rfl))
      simp only [Act.put, List.setIfInBounds_toArray, List.set_cons_zero, List.set_cons_succ]
      refine wpZ_take (i := 1) (dn := 13) (v := ?_) rfl rfl (by kernel_rfl) (fun z hz => by rcases z678 hz with rfl | rfl | rfl <;> kernel_rfl) (by kernel_rfl) (by kernel_rfl) (fun _ _ _ h => h) (Or.inl ⟨by rfl, ?_⟩) hS ?_
      rotate_left
      · (intro wx hSw; (try dsimp only at hSw); obtain ⟨hSw1, hSw2⟩ := hSw; go_simp; try (with_reducible rfl))
      simp only [Act.put, List.setIfInBounds_toArray, List.set_cons_zero, List.set_cons_succ]
      refine wpZ_take (i := 3) (dn := 15) (v := ?_) rfl rfl (by kernel_rfl) (fun z hz => by rcases z678 hz with rfl | rfl | rfl <;> kernel_rfl) (by kernel_rfl) (by kernel_rfl) (fun _ _ _ h => h) (Or.inl ⟨by rfl, ?_⟩) hS ?_
      rotate_left
      · (intro wx hSw; (try dsimp only at hSw); obtain ⟨hSw1, hSw2⟩ := hSw; go_simp; try (with_reducible rfl))
      simp only [Act.put, List.setIfInBounds_toArray, List.set_cons_zero, List.set_cons_succ]
      refine wpZ_two (i := 2) (k := 4) (by kernel_rfl) rfl rfl (fun K' hK' => ?_) (fun K' hK' => ?_)
      · go_simp
        refine ((HC.out) w1 HW.out).mono ?_
        rintro en w2 ⟨rfl, k2⟩
        refine ⟨rfl, ?_⟩
        unfold OkP
        rw [HSP.out]
        exact ⟨rfl, k2⟩
      · go_simp
        have hS2 : (w1.alloc (.cells #[.int .i64 0, .int .i64 0, .string ⟨#[]⟩, .slice none 0 0, .slice none 0 0] 25)).cell? ⟨K, 0, none⟩ = some (.slice ao kids.length cp) ∧ (w1.alloc (.cells #[.int .i64 0, .int .i64 0, .string ⟨#[]⟩, .slice none 0 0, .slice none 0 0] 25)).cell? ⟨P, 0, none⟩ = some (.pointer (some ⟨sb, 0, none⟩)) := by
          have q := Kp.ofBelow ((Below.refl _ w1).alloc (Nat.le_refl _) (.cells #[.int .i64 0, .int .i64 0, .string ⟨#[]⟩, .slice none 0 0, .slice none 0 0] 25)) (fun _ => False)
          exact ⟨q.cellv hS.1 id, q.cellv hS.2 id⟩
        have HW2 : Hid (Below w.heap.size w (w1.alloc (.cells #[.int .i64 0, .int .i64 0, .string ⟨#[]⟩, .slice none 0 0, .slice none 0 0] 25))) := (HW.out).alloc (HW.out).size _
        refine hK'.out _ _ (fun _ => hS2) (fun _ => ?_)
        clear hK' K'
        refine wpZ_one (i := 2) (by kernel_rfl) rfl (fun K' hK' => ?_)
        go_simp
        refine ((HC.out) _ HW2.out).mono ?_
        rintro en w2 ⟨rfl, k2⟩
        refine ⟨rfl, ?_⟩
        unfold OkP
        rw [HSP.out]
        exact ⟨rfl, k2⟩
    | ok j t =>
      rw [hv] at HSP
      simp only at HSP
      have HC : Hid (∀ W, Below w.heap.size w W → Calls Tryz.prog 15 #[.pointer (some ⟨sb, 0, none⟩)] W fun en w' => ∃ (v1 v2 : Int) (v3 : ByteArray) (u1 : Option Addr) (u2 u3 : Nat) (y1 : Option Addr) (y2 y3 : Nat), en = .returned (fiveV (.int .i64 v1, .int .i64 v2, .string v3, .slice u1 u2 u3, .slice y1 y2 y3)) ∧ Ow sb W w' ∧ IsX w' (fun q => w.heap.size ≤ q) (fiveV (.int .i64 v1, .int .i64 v2, .string v3, .slice u1 u2 u3, .slice y1 y2 y3)) j ∧ RawS w' sb s (pos s t) (40 - (d : Int))) := by
        intro W hW
        refine (hV sb s r' W hs hl7 (h.src.below hW) (h.es.below hW) h.ne).mono ?_
        intro en w' h2
        unfold OkV at h2
        rw [hv] at h2
        obtain ⟨k2, v, rfl, hx, hr⟩ := h2
        obtain ⟨_, _, _, _, _, _, _, _, _, rfl⟩ := hx.shape5
        exact ⟨_, _, _, _, _, _, _, _, _, rfl, k2, hx.mono (fun q hq _ => Nat.le_trans hW.size hq), hr⟩
      have HO : Hid (w.ownsRow w0.heap.size 25 5 (.slice ao kids.length cp) kids.length (vl.flatMap fiveL)) := ho
      have hfl : (vl.flatMap fiveL).length = kids.length * 5 := by rw [flat_len, hvl]
      have hKr : (Value.slice ao kids.length cp).ownBlock ≠ some K := LS.rvK eK ⟨vl, ho, hvl, hk⟩
      have hPr : (Value.slice ao kids.length cp).ownBlock ≠ some P := fun he => by
        obtain ⟨-, c, hc⟩ := own_tyB ho he
        exact absurd (cells_tyB hc h.pc) (by decide)
      have HF : Hid (∀ (w3 w5 w6 : World) (f : Five) (g cap : Nat) (xs : List Value), Ow sb w w3 → IsX w3 (fun q => w.heap.size ≤ q) (fiveV f) j → RawS w3 sb s (pos s t) (40 - (d : Int)) →
          w5.ownsRow w0.heap.size 25 5 (.slice (some ⟨g, 0, none⟩) (kids.length + 1) cap) (kids.length + 1) xs → w3.grownBy w5 (Value.slice ao kids.length cp).ownBlock → ((Value.slice ao kids.length cp).ownBlock = some g ∨ g = w3.heap.size) →
          Kp (fun q => q = g ∨ q = K) w5 w6 → w6.heap[K]? = some (.cells #[.slice (some ⟨g, 0, none⟩) (kids.length + 1) cap] 23 (0, 0)) →
          w6.ownsRow w0.heap.size 25 5 (.slice (some ⟨g, 0, none⟩) (kids.length + 1) cap) (kids.length + 1) (vl.flatMap fiveL ++ fiveL f) → OkP (PS w0 sb KK K P M mb s (40 - (d : Int))) (Ow sb w0) s R (.returned (.tuple #[])) w6) := by
        intro w3 w5 w6 f g cap xs k3 hx hr hown hgrow hat k6 e6 o6
        unfold OkP
        rw [HSP.out]
        exact ⟨rfl, PS.kid hks h eK ho hvl hk k3 hx hr hown hgrow hat k6 e6 o6⟩
      have HKK : Hid (w.heap[K]? = some (.cells #[.slice ao kids.length cp] 23 (0, 0))) := eK
      have hKl : K < w.heap.size := heap_lt eK
      have hPl : P < w.heap.size := heap_lt h.pc
      have hw0' := h.ow.size
      obtain ⟨ij, hij, hj0, hj1, hj2⟩ := infoW infoJs
      have hnl : kids.length ≤ 1073741824 := by omega
      clear hv eK ho hk h hV hks HP7 HSP
      go_wp2_with fail
      refine wpZ_start (S := fun w' => w'.cell? ⟨K, 0, none⟩ = some (.slice ao kids.length cp) ∧ w'.cell? ⟨P, 0, none⟩ = some (.pointer (some ⟨sb, 0, none⟩))) (Z := fun j => j == 6 || j == 7 || j == 8) (by kernel_rfl) ?_
      have hS : w.drew.cell? ⟨K, 0, none⟩ = some (.slice ao kids.length cp) ∧ w.drew.cell? ⟨P, 0, none⟩ = some (.pointer (some ⟨sb, 0, none⟩)) := ⟨cK, cP⟩
      have HW : Hid (Below w.heap.size w w.drew) := (Below.refl _ w).drew
      clear cK cP
      generalize w.drew = w1 at *
      refine wpZ_take (i := 0) (dn := 12) (v := ?_) rfl rfl (by kernel_rfl) (fun z hz => by rcases z678 hz with rfl | rfl | rfl <;> kernel_rfl) (by kernel_rfl) (by kernel_rfl) (fun _ _ _ h => h) (Or.inl ⟨by rfl, ?_⟩) hS ?_
      rotate_left
      · (intro wx hSw; (try dsimp only at hSw); obtain ⟨hSw1, hSw2⟩ := hSw; go_simp; try (with_reducible rfl))
      simp only [Act.put, List.setIfInBounds_toArray, List.set_cons_zero, List.set_cons_succ]
      refine wpZ_take (i := 1) (dn := 13) (v := ?_) rfl rfl (by kernel_rfl) (fun z hz => by rcases z678 hz with rfl | rfl | rfl <;> kernel_rfl) (by kernel_rfl) (by kernel_rfl) (fun _ _ _ h => h) (Or.inl ⟨by rfl, ?_⟩) hS ?_
      rotate_left
      · (intro wx hSw; (try dsimp only at hSw); obtain ⟨hSw1, hSw2⟩ := hSw; go_simp; try (with_reducible rfl))
      simp only [Act.put, List.setIfInBounds_toArray, List.set_cons_zero, List.set_cons_succ]
      refine wpZ_take (i := 3) (dn := 15) (v := ?_) rfl rfl (by kernel_rfl) (fun z hz => by rcases z678 hz with rfl | rfl | rfl <;> kernel_rfl) (by kernel_rfl) (by kernel_rfl) (fun _ _ _ h => h) (Or.inl ⟨by rfl, ?_⟩) hS ?_
      rotate_left
      · (intro wx hSw; (try dsimp only at hSw); obtain ⟨hSw1, hSw2⟩ := hSw; go_simp; try (with_reducible rfl))
      simp only [Act.put, List.setIfInBounds_toArray, List.set_cons_zero, List.set_cons_succ]
      refine wpZ_two (i := 2) (k := 4) (by kernel_rfl) rfl rfl (fun K' hK' => ?_) (fun K' hK' => ?_)
      · go_simp
        refine ((HC.out) w1 HW.out).mono ?_
        rintro en w2 ⟨v1, v2, v3, u1, u2, u3, y1, y2, y3, rfl, k2, hx2, hr2⟩
        have hS2 : w2.cell? ⟨K, 0, none⟩ = some (.slice ao kids.length cp) ∧ w2.cell? ⟨P, 0, none⟩ = some (.pointer (some ⟨sb, 0, none⟩)) := ⟨k2.cellv hS.1 (fun e => by have : K = sb := e; omega), k2.cellv hS.2 (fun e => by have : P = sb := e; omega)⟩
        show K' _ w2
        refine hK'.out _ _ (fun _ => hS2) (fun _ => ?_)
        clear hK' K'
        refine wpZ_one (i := 4) (by kernel_rfl) rfl (fun K' hK' => ?_)
        go_simp
        have hbz : Below w2.heap.size w2 (w2.alloc (.cells #[.int .i64 0, .int .i64 0, .string ⟨#[]⟩, .slice none 0 0, .slice none 0 0] 25)) := (Below.refl _ w2).alloc (Nat.le_refl _) _
        have hSz : (w2.alloc (.cells #[.int .i64 0, .int .i64 0, .string ⟨#[]⟩, .slice none 0 0, .slice none 0 0] 25)).cell? ⟨K, 0, none⟩ = some (.slice ao kids.length cp) ∧ (w2.alloc (.cells #[.int .i64 0, .int .i64 0, .string ⟨#[]⟩, .slice none 0 0, .slice none 0 0] 25)).cell? ⟨P, 0, none⟩ = some (.pointer (some ⟨sb, 0, none⟩)) := ⟨(Kp.ofBelow hbz (fun _ => False)).cellv hS2.1 id, (Kp.ofBelow hbz (fun _ => False)).cellv hS2.2 id⟩
        have KZ : Ow sb w (w2.alloc (.cells #[.int .i64 0, .int .i64 0, .string ⟨#[]⟩, .slice none 0 0, .slice none 0 0] 25)) := ((Ow.ofBelow sb HW.out).to k2).to (Ow.ofBelow sb hbz)
        have HXZ : Hid (IsX (w2.alloc (.cells #[.int .i64 0, .int .i64 0, .string ⟨#[]⟩, .slice none 0 0, .slice none 0 0] 25)) (fun q => w.heap.size ≤ q) (fiveV (.int .i64 v1, .int .i64 v2, .string v3, .slice u1 u2 u3, .slice y1 y2 y3)) j) := hx2.keep (Kp.ofBelow hbz (fun _ => False)) (fun _ _ => id)
        have HRZ : Hid (RawS (w2.alloc (.cells #[.int .i64 0, .int .i64 0, .string ⟨#[]⟩, .slice none 0 0, .slice none 0 0] 25)) sb s (pos s t) (40 - (d : Int))) := hr2.below hbz
        have HZ : Hid ((w2.alloc (.cells #[.int .i64 0, .int .i64 0, .string ⟨#[]⟩, .slice none 0 0, .slice none 0 0] 25)).heap[w2.heap.size]? = some (.cells #[.int .i64 0, .int .i64 0, .string ⟨#[]⟩, .slice none 0 0, .slice none 0 0] 25 (0, 0))) := heap_alloc_new w2 _
        refine hK'.out _ _ (fun _ => hSz) (fun _ => ?_)
        clear hK' K' hx2 hr2 k2 hS2 hS hbz
        generalize w2.heap.size = zb at *
        generalize w2.alloc (.cells #[.int .i64 0, .int .i64 0, .string ⟨#[]⟩, .slice none 0 0, .slice none 0 0] 25) = wz at *
        have HOz : Hid (wz.ownsRow w0.heap.size 25 5 (.slice ao kids.length cp) kids.length (vl.flatMap fiveL)) := KZ.owns HO.out (fun q hq e => by have := (owns_geW HO.out q hq).1; have : q = sb := e; omega)
        have hzw : w0.heap.size ≤ wz.heap.size := by have := KZ.size; omega
        refine wpZ_one (i := 5) (by kernel_rfl) rfl (fun K' hK' => ?_)
        refine step_append_lies _ (by rfl) _ _ _ (by rfl) w0.heap.size 25 ij _ 5 80 Tryz.underlying23 hij hj0 hj1 hj2 rfl (by omega) (.slice ao kids.length cp) kids.length (vl.flatMap fiveL) (by rfl) HOz.out
          ⟨zb, 0, none⟩ 1 1 [.int .i64 0, .int .i64 0, .string ⟨#[]⟩, .slice none 0 0, .slice none 0 0] (by rfl) (by rfl) (World.news_of_block (cs := #[.int .i64 0, .int .i64 0, .string ⟨#[]⟩, .slice none 0 0, .slice none 0 0]) (t := 25) (fr := (0, 0)) HZ.out) (by simp [Value.oneCell'])
          (by omega) (by unfold maxLen; omega) (by omega) hzw _ rfl ?_
        intro g cap w5 hown hgrow hat hlt
        have hKz : K < wz.heap.size := by have := KZ.size; omega
        have hPz : P < wz.heap.size := by have := KZ.size; omega
        have eK5 : w5.heap[K]? = some (.cells #[.slice ao kids.length cp] 23 (0, 0)) := (Kp.grown (Kp.refl (fun q => (Value.slice ao kids.length cp).ownBlock = some q) _) hgrow (fun k hk _ => hk)).heap (KZ.heap HKK.out (fun e => by have : K = sb := e; omega)) hKr
        have hP5 : w5.cell? ⟨P, 0, none⟩ = some (.pointer (some ⟨sb, 0, none⟩)) := (Kp.grown (Kp.refl (fun q => (Value.slice ao kids.length cp).ownBlock = some q) _) hgrow (fun k hk _ => hk)).cellv hSz.2 hPr
        have cK5 : w5.cell? ⟨K, 0, none⟩ = some (.slice ao kids.length cp) := by simp [World.cell?, eK5]
        have gK : ¬ g = K := fun e => hat.elim (fun h1 => hKr (by rw [h1, e])) (fun h1 => by omega)
        have gK' : ¬ K = g := fun e => gK e.symm
        have fK5 : w5.frozen? ⟨K, 0, none⟩ = false := by simp [World.frozen?, eK5]
        obtain ⟨⟨q0, q1, q2, q3, q4⟩, hfz⟩ := own_last _ hfl hown
        have z0 := hfz (kids.length * 5)
        have z1 := hfz (kids.length * 5 + 1)
        have z2 := hfz (kids.length * 5 + 2)
        have z3 := hfz (kids.length * 5 + 3)
        have z4 := hfz (kids.length * 5 + 4)
        clear hfz
        have HG := hide ((HF.out) wz w5)
        have HOW := hide hown
        have HGR := hide hgrow
        have HAT := hide hat
        have HKB := hide eK5
        show K' (Act.put _ (some 17) _) w5
        refine hK'.out _ _ (fun _ => ⟨cK5, hP5⟩) (fun _ => ?_)
        clear hK' K' hown hgrow hat eK5 HF HO HKK hSz hP5 hlt HOz
        simp only [Act.put, List.setIfInBounds_toArray, List.set_cons_zero, List.set_cons_succ]
        refine wpZ_two (i := 6) (k := 8) (by kernel_rfl) rfl rfl (fun K' hK' => ?_) (fun K' hK' => ?_)
        · go_simp
          rw [if_pos (by omega)]
          go_simp
          refine hK'.out _ _ (fun h => absurd h (by decide)) (fun _ => ?_)
          clear hK' K'
          refine wpZ_two (i := 7) (k := 8) (by kernel_rfl) rfl rfl (fun K' hK' => ?_) (fun K' hK' => ?_)
          · go_simp
            refine hK'.out _ _ (fun h => absurd h (by decide)) (fun _ => ?_)
            clear hK' K'
            refine wpZ_one (i := 8) (by kernel_rfl) rfl (fun K' hK' => ?_)
            go_simp
            refine hK'.out _ _ (fun h => absurd h (by decide)) (fun _ => wpZ_end (by kernel_rfl) ?_)
            clear hK' K'
            have o6 := row_five (kids.length * 5) hfl.symm HOW.out (.int .i64 v1) (.int .i64 v2) (.string v3) (.slice u1 u2 u3) (.slice y1 y2 y3)
            have k5 : Kp (fun q => q = g) w5 (((((w5.setCell ⟨g, kids.length * 5, none⟩ (.int .i64 v1)).setCell ⟨g, kids.length * 5 + 1, none⟩ (.int .i64 v2)).setCell ⟨g, kids.length * 5 + 2, none⟩ (.string v3)).setCell ⟨g, kids.length * 5 + 3, none⟩ (.slice u1 u2 u3)).setCell ⟨g, kids.length * 5 + 4, none⟩ (.slice y1 y2 y3)) := Kp.five _ _ _ _ _ _ _ _
            have e5 := k5.heap HKB.out gK'
            have k6 : Kp (fun q => q = g ∨ q = K) w5 ((((((w5.setCell ⟨g, kids.length * 5, none⟩ (.int .i64 v1)).setCell ⟨g, kids.length * 5 + 1, none⟩ (.int .i64 v2)).setCell ⟨g, kids.length * 5 + 2, none⟩ (.string v3)).setCell ⟨g, kids.length * 5 + 3, none⟩ (.slice u1 u2 u3)).setCell ⟨g, kids.length * 5 + 4, none⟩ (.slice y1 y2 y3)).setCell ⟨K, 0, none⟩ (.slice (some ⟨g, 0, none⟩) (kids.length + 1) cap)) := (k5.mono (fun _ _ e => .inl e)).setCell (p := ⟨K, 0, none⟩) (fun _ => .inr rfl) _
            refine bodyPost_ret (results_none rfl _ _ _) rfl (HG.out _ (.int .i64 v1, .int .i64 v2, .string v3, .slice u1 u2 u3, .slice y1 y2 y3) g cap _ KZ HXZ.out HRZ.out HOW.out HGR.out HAT.out k6 (set_blkB e5 0 _) ?_)
            exact (Kp.setCell (S := fun q => q = K) (p := ⟨K, 0, none⟩) (Kp.refl _ _) (fun _ => rfl) _).owns o6 (fun q hq e => gK (by have : some g = some q := hq; injection this with this; rw [this]; exact e))
          · go_simp
            refine hK'.out _ _ (fun h => absurd h (by decide)) (fun _ => ?_)
            clear hK' K'
            refine wpZ_one (i := 7) (by kernel_rfl) rfl (fun K' hK' => ?_)
            go_simp
            refine hK'.out _ _ (fun h => absurd h (by decide)) (fun _ => wpZ_end (by kernel_rfl) ?_)
            clear hK' K'
            have kk : Kp (fun q => q = K) w5 (w5.setCell ⟨K, 0, none⟩ (.slice (some ⟨g, 0, none⟩) (kids.length + 1) cap)) := Kp.setCell (S := fun q => q = K) (p := ⟨K, 0, none⟩) (Kp.refl _ _) (fun _ => rfl) _
            have o6 := row_five (kids.length * 5) hfl.symm (kk.owns HOW.out (fun q hq e => gK (by have : some g = some q := hq; injection this with this; rw [this]; exact e))) (.int .i64 v1) (.int .i64 v2) (.string v3) (.slice u1 u2 u3) (.slice y1 y2 y3)
            have k5 : Kp (fun q => q = g) (w5.setCell ⟨K, 0, none⟩ (.slice (some ⟨g, 0, none⟩) (kids.length + 1) cap)) ((((((w5.setCell ⟨K, 0, none⟩ (.slice (some ⟨g, 0, none⟩) (kids.length + 1) cap)).setCell ⟨g, kids.length * 5, none⟩ (.int .i64 v1)).setCell ⟨g, kids.length * 5 + 1, none⟩ (.int .i64 v2)).setCell ⟨g, kids.length * 5 + 2, none⟩ (.string v3)).setCell ⟨g, kids.length * 5 + 3, none⟩ (.slice u1 u2 u3)).setCell ⟨g, kids.length * 5 + 4, none⟩ (.slice y1 y2 y3)) := Kp.five _ _ _ _ _ _ _ _
            exact bodyPost_ret (results_none rfl _ _ _) rfl (HG.out _ (.int .i64 v1, .int .i64 v2, .string v3, .slice u1 u2 u3, .slice y1 y2 y3) g cap _ KZ HXZ.out HRZ.out HOW.out HGR.out HAT.out (Kp.trans (kk.mono (fun _ _ e => .inr e)) k5 (fun _ _ e => .inl e)) (k5.heap (set_blkB HKB.out 0 _) gK') o6)
        · go_simp
          refine hK'.out _ _ (fun h => absurd h (by decide)) (fun _ => ?_)
          clear hK' K'
          refine wpZ_one (i := 6) (by kernel_rfl) rfl (fun K' hK' => ?_)
          go_simp
          rw [if_pos (by omega)]
          go_simp
          refine hK'.out _ _ (fun h => absurd h (by decide)) (fun _ => ?_)
          clear hK' K'
          refine wpZ_one (i := 7) (by kernel_rfl) rfl (fun K' hK' => ?_)
          go_simp
          refine hK'.out _ _ (fun h => absurd h (by decide)) (fun _ => wpZ_end (by kernel_rfl) ?_)
          clear hK' K'
          have kk : Kp (fun q => q = K) w5 (w5.setCell ⟨K, 0, none⟩ (.slice (some ⟨g, 0, none⟩) (kids.length + 1) cap)) := Kp.setCell (S := fun q => q = K) (p := ⟨K, 0, none⟩) (Kp.refl _ _) (fun _ => rfl) _
          have o6 := row_five (kids.length * 5) hfl.symm (kk.owns HOW.out (fun q hq e => gK (by have : some g = some q := hq; injection this with this; rw [this]; exact e))) (.int .i64 v1) (.int .i64 v2) (.string v3) (.slice u1 u2 u3) (.slice y1 y2 y3)
          have k5 : Kp (fun q => q = g) (w5.setCell ⟨K, 0, none⟩ (.slice (some ⟨g, 0, none⟩) (kids.length + 1) cap)) ((((((w5.setCell ⟨K, 0, none⟩ (.slice (some ⟨g, 0, none⟩) (kids.length + 1) cap)).setCell ⟨g, kids.length * 5, none⟩ (.int .i64 v1)).setCell ⟨g, kids.length * 5 + 1, none⟩ (.int .i64 v2)).setCell ⟨g, kids.length * 5 + 2, none⟩ (.string v3)).setCell ⟨g, kids.length * 5 + 3, none⟩ (.slice u1 u2 u3)).setCell ⟨g, kids.length * 5 + 4, none⟩ (.slice y1 y2 y3)) := Kp.five _ _ _ _ _ _ _ _
          exact bodyPost_ret (results_none rfl _ _ _) rfl (HG.out _ (.int .i64 v1, .int .i64 v2, .string v3, .slice u1 u2 u3, .slice y1 y2 y3) g cap _ KZ HXZ.out HRZ.out HOW.out HGR.out HAT.out (Kp.trans (kk.mono (fun _ _ e => .inr e)) k5 (fun _ _ e => .inl e)) (k5.heap (set_blkB HKB.out 0 _) gK') o6)
      · go_simp
        have hbz : Below w1.heap.size w1 (w1.alloc (.cells #[.int .i64 0, .int .i64 0, .string ⟨#[]⟩, .slice none 0 0, .slice none 0 0] 25)) := (Below.refl _ w1).alloc (Nat.le_refl _) _
        have hS2 : (w1.alloc (.cells #[.int .i64 0, .int .i64 0, .string ⟨#[]⟩, .slice none 0 0, .slice none 0 0] 25)).cell? ⟨K, 0, none⟩ = some (.slice ao kids.length cp) ∧ (w1.alloc (.cells #[.int .i64 0, .int .i64 0, .string ⟨#[]⟩, .slice none 0 0, .slice none 0 0] 25)).cell? ⟨P, 0, none⟩ = some (.pointer (some ⟨sb, 0, none⟩)) := ⟨(Kp.ofBelow hbz (fun _ => False)).cellv hS.1 id, (Kp.ofBelow hbz (fun _ => False)).cellv hS.2 id⟩
        have HW2 : Hid (Below w.heap.size w (w1.alloc (.cells #[.int .i64 0, .int .i64 0, .string ⟨#[]⟩, .slice none 0 0, .slice none 0 0] 25))) := (HW.out).alloc (HW.out).size _
        have HZ1 : Hid ((w1.alloc (.cells #[.int .i64 0, .int .i64 0, .string ⟨#[]⟩, .slice none 0 0, .slice none 0 0] 25)).heap[w1.heap.size]? = some (.cells #[.int .i64 0, .int .i64 0, .string ⟨#[]⟩, .slice none 0 0, .slice none 0 0] 25 (0, 0))) := heap_alloc_new w1 _
        have hzz : sb < w1.heap.size := by have := (HW.out).size; omega
        refine hK'.out _ _ (fun _ => hS2) (fun _ => ?_)
        clear hK' K' hS hbz
        generalize w1.heap.size = zb at *
        generalize w1.alloc (.cells #[.int .i64 0, .int .i64 0, .string ⟨#[]⟩, .slice none 0 0, .slice none 0 0] 25) = wa at *
        refine wpZ_one (i := 2) (by kernel_rfl) rfl (fun K' hK' => ?_)

        go_simp
        refine ((HC.out) wa HW2.out).mono ?_
        rintro en w2 ⟨v1, v2, v3, u1, u2, u3, y1, y2, y3, rfl, k2, hx2, hr2⟩
        have hSz : w2.cell? ⟨K, 0, none⟩ = some (.slice ao kids.length cp) ∧ w2.cell? ⟨P, 0, none⟩ = some (.pointer (some ⟨sb, 0, none⟩)) := ⟨k2.cellv hS2.1 (fun e => by have : K = sb := e; omega), k2.cellv hS2.2 (fun e => by have : P = sb := e; omega)⟩
        show K' _ w2
        refine hK'.out _ _ (fun _ => hSz) (fun _ => ?_)
        clear hK' K'
        have KZ : Ow sb w w2 := (Ow.ofBelow sb HW2.out).to k2
        have HXZ := hide hx2
        have HRZ := hide hr2
        have HZ : Hid (w2.heap[zb]? = some (.cells #[.int .i64 0, .int .i64 0, .string ⟨#[]⟩, .slice none 0 0, .slice none 0 0] 25 (0, 0))) := k2.heap HZ1.out (fun e => by have : zb = sb := e; omega)
        clear hx2 hr2 k2 hS2 HZ1
        generalize w2 = wz at *
        have HOz : Hid (wz.ownsRow w0.heap.size 25 5 (.slice ao kids.length cp) kids.length (vl.flatMap fiveL)) := KZ.owns HO.out (fun q hq e => by have := (owns_geW HO.out q hq).1; have : q = sb := e; omega)
        have hzw : w0.heap.size ≤ wz.heap.size := by have := KZ.size; omega
        refine wpZ_one (i := 5) (by kernel_rfl) rfl (fun K' hK' => ?_)
        refine step_append_lies _ (by rfl) _ _ _ (by rfl) w0.heap.size 25 ij _ 5 80 Tryz.underlying23 hij hj0 hj1 hj2 rfl (by omega) (.slice ao kids.length cp) kids.length (vl.flatMap fiveL) (by rfl) HOz.out
          ⟨zb, 0, none⟩ 1 1 [.int .i64 0, .int .i64 0, .string ⟨#[]⟩, .slice none 0 0, .slice none 0 0] (by rfl) (by rfl) (World.news_of_block (cs := #[.int .i64 0, .int .i64 0, .string ⟨#[]⟩, .slice none 0 0, .slice none 0 0]) (t := 25) (fr := (0, 0)) HZ.out) (by simp [Value.oneCell'])
          (by omega) (by unfold maxLen; omega) (by omega) hzw _ rfl ?_
        intro g cap w5 hown hgrow hat hlt
        have hKz : K < wz.heap.size := by have := KZ.size; omega
        have hPz : P < wz.heap.size := by have := KZ.size; omega
        have eK5 : w5.heap[K]? = some (.cells #[.slice ao kids.length cp] 23 (0, 0)) := (Kp.grown (Kp.refl (fun q => (Value.slice ao kids.length cp).ownBlock = some q) _) hgrow (fun k hk _ => hk)).heap (KZ.heap HKK.out (fun e => by have : K = sb := e; omega)) hKr
        have hP5 : w5.cell? ⟨P, 0, none⟩ = some (.pointer (some ⟨sb, 0, none⟩)) := (Kp.grown (Kp.refl (fun q => (Value.slice ao kids.length cp).ownBlock = some q) _) hgrow (fun k hk _ => hk)).cellv hSz.2 hPr
        have cK5 : w5.cell? ⟨K, 0, none⟩ = some (.slice ao kids.length cp) := by simp [World.cell?, eK5]
        have gK : ¬ g = K := fun e => hat.elim (fun h1 => hKr (by rw [h1, e])) (fun h1 => by omega)
        have gK' : ¬ K = g := fun e => gK e.symm
        have fK5 : w5.frozen? ⟨K, 0, none⟩ = false := by simp [World.frozen?, eK5]
        obtain ⟨⟨q0, q1, q2, q3, q4⟩, hfz⟩ := own_last _ hfl hown
        have z0 := hfz (kids.length * 5)
        have z1 := hfz (kids.length * 5 + 1)
        have z2 := hfz (kids.length * 5 + 2)
        have z3 := hfz (kids.length * 5 + 3)
        have z4 := hfz (kids.length * 5 + 4)
        clear hfz
        have HG := hide ((HF.out) wz w5)
        have HOW := hide hown
        have HGR := hide hgrow
        have HAT := hide hat
        have HKB := hide eK5
        show K' (Act.put _ (some 17) _) w5
        refine hK'.out _ _ (fun _ => ⟨cK5, hP5⟩) (fun _ => ?_)
        clear hK' K' hown hgrow hat eK5 HF HO HKK hSz hP5 hlt HOz
        simp only [Act.put, List.setIfInBounds_toArray, List.set_cons_zero, List.set_cons_succ]
        refine wpZ_two (i := 6) (k := 8) (by kernel_rfl) rfl rfl (fun K' hK' => ?_) (fun K' hK' => ?_)
        · go_simp
          rw [if_pos (by omega)]
          go_simp
          refine hK'.out _ _ (fun h => absurd h (by decide)) (fun _ => ?_)
          clear hK' K'
          refine wpZ_two (i := 7) (k := 8) (by kernel_rfl) rfl rfl (fun K' hK' => ?_) (fun K' hK' => ?_)
          · go_simp
            refine hK'.out _ _ (fun h => absurd h (by decide)) (fun _ => ?_)
            clear hK' K'
            refine wpZ_one (i := 8) (by kernel_rfl) rfl (fun K' hK' => ?_)
            go_simp
            refine hK'.out _ _ (fun h => absurd h (by decide)) (fun _ => wpZ_end (by kernel_rfl) ?_)
            clear hK' K'
            have o6 := row_five (kids.length * 5) hfl.symm HOW.out (.int .i64 v1) (.int .i64 v2) (.string v3) (.slice u1 u2 u3) (.slice y1 y2 y3)
            have k5 : Kp (fun q => q = g) w5 (((((w5.setCell ⟨g, kids.length * 5, none⟩ (.int .i64 v1)).setCell ⟨g, kids.length * 5 + 1, none⟩ (.int .i64 v2)).setCell ⟨g, kids.length * 5 + 2, none⟩ (.string v3)).setCell ⟨g, kids.length * 5 + 3, none⟩ (.slice u1 u2 u3)).setCell ⟨g, kids.length * 5 + 4, none⟩ (.slice y1 y2 y3)) := Kp.five _ _ _ _ _ _ _ _
            have e5 := k5.heap HKB.out gK'
            have k6 : Kp (fun q => q = g ∨ q = K) w5 ((((((w5.setCell ⟨g, kids.length * 5, none⟩ (.int .i64 v1)).setCell ⟨g, kids.length * 5 + 1, none⟩ (.int .i64 v2)).setCell ⟨g, kids.length * 5 + 2, none⟩ (.string v3)).setCell ⟨g, kids.length * 5 + 3, none⟩ (.slice u1 u2 u3)).setCell ⟨g, kids.length * 5 + 4, none⟩ (.slice y1 y2 y3)).setCell ⟨K, 0, none⟩ (.slice (some ⟨g, 0, none⟩) (kids.length + 1) cap)) := (k5.mono (fun _ _ e => .inl e)).setCell (p := ⟨K, 0, none⟩) (fun _ => .inr rfl) _
            refine bodyPost_ret (results_none rfl _ _ _) rfl (HG.out _ (.int .i64 v1, .int .i64 v2, .string v3, .slice u1 u2 u3, .slice y1 y2 y3) g cap _ KZ HXZ.out HRZ.out HOW.out HGR.out HAT.out k6 (set_blkB e5 0 _) ?_)
            exact (Kp.setCell (S := fun q => q = K) (p := ⟨K, 0, none⟩) (Kp.refl _ _) (fun _ => rfl) _).owns o6 (fun q hq e => gK (by have : some g = some q := hq; injection this with this; rw [this]; exact e))
          · go_simp
            refine hK'.out _ _ (fun h => absurd h (by decide)) (fun _ => ?_)
            clear hK' K'
            refine wpZ_one (i := 7) (by kernel_rfl) rfl (fun K' hK' => ?_)
            go_simp
            refine hK'.out _ _ (fun h => absurd h (by decide)) (fun _ => wpZ_end (by kernel_rfl) ?_)
            clear hK' K'
            have kk : Kp (fun q => q = K) w5 (w5.setCell ⟨K, 0, none⟩ (.slice (some ⟨g, 0, none⟩) (kids.length + 1) cap)) := Kp.setCell (S := fun q => q = K) (p := ⟨K, 0, none⟩) (Kp.refl _ _) (fun _ => rfl) _
            have o6 := row_five (kids.length * 5) hfl.symm (kk.owns HOW.out (fun q hq e => gK (by have : some g = some q := hq; injection this with this; rw [this]; exact e))) (.int .i64 v1) (.int .i64 v2) (.string v3) (.slice u1 u2 u3) (.slice y1 y2 y3)
            have k5 : Kp (fun q => q = g) (w5.setCell ⟨K, 0, none⟩ (.slice (some ⟨g, 0, none⟩) (kids.length + 1) cap)) ((((((w5.setCell ⟨K, 0, none⟩ (.slice (some ⟨g, 0, none⟩) (kids.length + 1) cap)).setCell ⟨g, kids.length * 5, none⟩ (.int .i64 v1)).setCell ⟨g, kids.length * 5 + 1, none⟩ (.int .i64 v2)).setCell ⟨g, kids.length * 5 + 2, none⟩ (.string v3)).setCell ⟨g, kids.length * 5 + 3, none⟩ (.slice u1 u2 u3)).setCell ⟨g, kids.length * 5 + 4, none⟩ (.slice y1 y2 y3)) := Kp.five _ _ _ _ _ _ _ _
            exact bodyPost_ret (results_none rfl _ _ _) rfl (HG.out _ (.int .i64 v1, .int .i64 v2, .string v3, .slice u1 u2 u3, .slice y1 y2 y3) g cap _ KZ HXZ.out HRZ.out HOW.out HGR.out HAT.out (Kp.trans (kk.mono (fun _ _ e => .inr e)) k5 (fun _ _ e => .inl e)) (k5.heap (set_blkB HKB.out 0 _) gK') o6)
        · go_simp
          refine hK'.out _ _ (fun h => absurd h (by decide)) (fun _ => ?_)
          clear hK' K'
          refine wpZ_one (i := 6) (by kernel_rfl) rfl (fun K' hK' => ?_)
          go_simp
          rw [if_pos (by omega)]
          go_simp
          refine hK'.out _ _ (fun h => absurd h (by decide)) (fun _ => ?_)
          clear hK' K'
          refine wpZ_one (i := 7) (by kernel_rfl) rfl (fun K' hK' => ?_)
          go_simp
          refine hK'.out _ _ (fun h => absurd h (by decide)) (fun _ => wpZ_end (by kernel_rfl) ?_)
          clear hK' K'
          have kk : Kp (fun q => q = K) w5 (w5.setCell ⟨K, 0, none⟩ (.slice (some ⟨g, 0, none⟩) (kids.length + 1) cap)) := Kp.setCell (S := fun q => q = K) (p := ⟨K, 0, none⟩) (Kp.refl _ _) (fun _ => rfl) _
          have o6 := row_five (kids.length * 5) hfl.symm (kk.owns HOW.out (fun q hq e => gK (by have : some g = some q := hq; injection this with this; rw [this]; exact e))) (.int .i64 v1) (.int .i64 v2) (.string v3) (.slice u1 u2 u3) (.slice y1 y2 y3)
          have k5 : Kp (fun q => q = g) (w5.setCell ⟨K, 0, none⟩ (.slice (some ⟨g, 0, none⟩) (kids.length + 1) cap)) ((((((w5.setCell ⟨K, 0, none⟩ (.slice (some ⟨g, 0, none⟩) (kids.length + 1) cap)).setCell ⟨g, kids.length * 5, none⟩ (.int .i64 v1)).setCell ⟨g, kids.length * 5 + 1, none⟩ (.int .i64 v2)).setCell ⟨g, kids.length * 5 + 2, none⟩ (.string v3)).setCell ⟨g, kids.length * 5 + 3, none⟩ (.slice u1 u2 u3)).setCell ⟨g, kids.length * 5 + 4, none⟩ (.slice y1 y2 y3)) := Kp.five _ _ _ _ _ _ _ _
          exact bodyPost_ret (results_none rfl _ _ _) rfl (HG.out _ (.int .i64 v1, .int .i64 v2, .string v3, .slice u1 u2 u3, .slice y1 y2 y3) g cap _ KZ HXZ.out HRZ.out HOW.out HGR.out HAT.out (Kp.trans (kk.mono (fun _ _ e => .inr e)) k5 (fun _ _ e => .inl e)) (k5.heap (set_blkB HKB.out 0 _) gK') o6)
end Go.Proofs.YthdbnafiindgbaaGreatDoor
