/- sync.WaitGroup.Wait, in company with one who counts it down. -/
import Derived.Test.YtdlnlcjmjgbikaaRr
namespace Go.Proofs.Ytdlnlcjmjgbikaa
open Go Go.Conc Go.RowKit Go.Conc.Lib Go.ConcX.Gen
open Go.ConcX (WgAt KK stA smA DC0)

/-- How the group's two numbers may go. -/
def Wle (a b : Int × Int) : Prop := a = b ∨ (a = (KK, 0) ∧ (b = (0, 0) ∨ b = (0, 1))) ∨ (a = (KK + 1, 0) ∧ (b = (1, 0) ∨ b = (0, 0) ∨ b = (0, 1))) ∨ (a = (1, 0) ∧ (b = (0, 0) ∨ b = (0, 1))) ∨ (a = (0, 0) ∧ b = (0, 1))
def WT (N : Nat) (w w1 : World) : Prop := ∀ st sm, WgAt 103 (N + 3) w st sm → ∃ st' sm', WgAt 103 (N + 3) w1 st' sm' ∧ Wle (st, sm) (st', sm')
/-- Not yet registered. -/
def F1 (N : Nat) (w : World) : Prop := WgAt 103 (N + 3) w KK 0 ∨ WgAt 103 (N + 3) w 0 0 ∨ WgAt 103 (N + 3) w 0 1
/-- Registered. -/
def F2 (N : Nat) (w : World) : Prop := WgAt 103 (N + 3) w (KK + 1) 0 ∨ WgAt 103 (N + 3) w 1 0 ∨ WgAt 103 (N + 3) w 0 0 ∨ WgAt 103 (N + 3) w 0 1
theorem F1.step {N : Nat} {w w1 : World} (h : F1 N w) (r : WT N w w1) : F1 N w1 := by
  have k1 : (KK : Int) = 4294967296 := rfl
  have key : ∀ st sm, ((st = KK ∧ sm = 0) ∨ (st = 0 ∧ (sm = 0 ∨ sm = 1))) → WgAt 103 (N + 3) w st sm → F1 N w1 := by
    intro st sm hx hw
    obtain ⟨st', sm', h1, h2⟩ := r st sm hw
    unfold Wle at h2
    simp only [Prod.mk.injEq, k1] at h2 hx
    have : (st' = KK ∧ sm' = 0) ∨ (st' = 0 ∧ sm' = 0) ∨ (st' = 0 ∧ sm' = 1) := by rw [k1]; omega
    rcases this with ⟨rfl, rfl⟩ | ⟨rfl, rfl⟩ | ⟨rfl, rfl⟩
    · exact .inl h1
    · exact .inr (.inl h1)
    · exact .inr (.inr h1)
  rcases h with h | h | h
  · exact key _ _ (.inl ⟨rfl, rfl⟩) h
  · exact key _ _ (.inr ⟨rfl, .inl rfl⟩) h
  · exact key _ _ (.inr ⟨rfl, .inr rfl⟩) h
theorem F2.step {N : Nat} {w w1 : World} (h : F2 N w) (r : WT N w w1) : F2 N w1 := by
  have k1 : (KK : Int) = 4294967296 := rfl
  have key : ∀ st sm, ((st = KK + 1 ∧ sm = 0) ∨ (st = 1 ∧ sm = 0) ∨ (st = 0 ∧ (sm = 0 ∨ sm = 1))) → WgAt 103 (N + 3) w st sm → F2 N w1 := by
    intro st sm hx hw
    obtain ⟨st', sm', h1, h2⟩ := r st sm hw
    unfold Wle at h2
    simp only [Prod.mk.injEq, k1] at h2 hx
    have : (st' = KK + 1 ∧ sm' = 0) ∨ (st' = 1 ∧ sm' = 0) ∨ (st' = 0 ∧ sm' = 0) ∨ (st' = 0 ∧ sm' = 1) := by rw [k1]; omega
    rcases this with ⟨rfl, rfl⟩ | ⟨rfl, rfl⟩ | ⟨rfl, rfl⟩ | ⟨rfl, rfl⟩
    · exact .inl h1
    · exact .inr (.inl h1)
    · exact .inr (.inr (.inl h1))
    · exact .inr (.inr (.inr h1))
  rcases h with h | h | h | h
  · exact key _ _ (.inl ⟨rfl, rfl⟩) h
  · exact key _ _ (.inr (.inl ⟨rfl, rfl⟩)) h
  · exact key _ _ (.inr (.inr ⟨rfl, .inl rfl⟩)) h
  · exact key _ _ (.inr (.inr ⟨rfl, .inr rfl⟩)) h
theorem F1.cell {N : Nat} {w : World} (h : F1 N w) : ∃ v, w.cell? ⟨N + 3, 0, none⟩ = some v := by
  rcases h with x | x | x <;> exact ⟨_, x.cellSt⟩

noncomputable section
variable {R : World → World → Prop} {N : Nat} {cs : List Frame} {c : Frame}
/-- The group is there. -/
def F0 (N : Nat) (w : World) : Prop := ∃ st sm, WgAt 103 (N + 3) w st sm
theorem F0.step {w w1 : World} (h : F0 N w) (r : WT N w w1) : F0 N w1 := by
  obtain ⟨st, sm, h⟩ := h
  obtain ⟨st', sm', h', _⟩ := r st sm h
  exact ⟨st', sm', h'⟩
theorem F0.cell0 {w : World} (h : F0 N w) : ∃ v, w.cell? ⟨N + 3, 0, none⟩ = some v := by
  obtain ⟨st, sm, h⟩ := h
  exact ⟨_, h.cellSt⟩
theorem F0.cell1 {w : World} (h : F0 N w) : ∃ v, w.cell? ⟨N + 3, 1, none⟩ = some v := by
  obtain ⟨st, sm, h⟩ := h
  exact ⟨_, h.cellSm⟩
theorem F1.f0 {w : World} (h : F1 N w) : F0 N w := by rcases h with h | h | h <;> exact ⟨_, _, h⟩
theorem F2.f0 {w : World} (h : F2 N w) : F0 N w := by rcases h with h | h | h | h <;> exact ⟨_, _, h⟩
section
variable (P : Program)
/-- At 'acquire'. -/
def SAcq (N : Nat) (g1 : Goroutine) (g : Goroutine) (w : World) : Prop := g.status = .running ∧ ∃ g', stepG P true g w = .go g' w #[⟨.mark (.acquire (stA (N + 3))), false, true⟩] ∧ ∃ n, Goes P true (WT N) DC0 (fun g _ => g = g1) n g' w
/-- At 'enable'. -/
def SKe (N : Nat) (g1 : Goroutine) (g : Goroutine) (w : World) : Prop := g.status = .running ∧ ∃ g', stepG P true g w = .go g' w #[⟨.mark .enable, false, true⟩] ∧ ∃ n, Goes P true (WT N) DC0 (SAcq P N g1) n g' w
/-- The place behind the call. -/
abbrev back (b : Frame) (A : Act) (ops : Array Oper) (i : Nat) (rest : List Nat) (K : List Item) (cs : List Frame) : Goroutine := G (b.at (A.put ((ops[i]?).bind (·.dst)) (.tuple #[])) (.inRegion ops rest :: K)) cs
/-- At the head of the loop. -/
def AtHead (N : Nat) (b : Frame) (A : Act) (ops : Array Oper) (i : Nat) (rest : List Nat) (K : List Item) (cs : List Frame) (g : Goroutine) : Prop :=
  ∃ T : Array Value, g = G ((base 47).at ⟨T, []⟩ [.code (L7 lnk), .inLoop (L7 lnk), .inBlock 0]) (b.at A (.inRegion ops (i :: rest) :: K) :: cs) ∧ T.size = 84 ∧ T[0]? = some (.pointer (some ⟨N + 3, 0, none⟩))
/-- At the semaphore. -/
def SW3 (N : Nat) (g1 : Goroutine) (g : Goroutine) (w : World) : Prop :=
  g.status = .running ∧ g.offers = none ∧ ((∃ st, WgAt 103 (N + 3) w st 0) → stepG P true g w = .go { g with status := .blocked } w #[]) ∧
    (WgAt 103 (N + 3) w 0 1 → ∃ g', stepG P true g w = .go g' (w.setCell (smA (N + 3)) (.int .u32 0)) (semEvents (smA (N + 3))) ∧
      ∃ n, Goes P true AtRel DC0 (fun g w => g.status = .running ∧ ∃ g', stepG P true g w = .go g' w #[⟨.cell (stA (N + 3)), false, true⟩] ∧ ∃ n, Goes P true (WT N) DC0 (SKe P N g1) n g' w) n g' (w.setCell (smA (N + 3)) (.int .u32 0)))
/-- At 'race.Write'. -/
def SWr (R : World → World → Prop) (N : Nat) (g1 : Goroutine) (g : Goroutine) (w : World) : Prop :=
  g.status = .running ∧ ∃ g', stepG P true g w = .go g' w #[⟨.mark (.write (smA (N + 3))), false, true⟩] ∧ ∃ n, Goes P true R DC0 (SW3 P N g1) n g' w
/-- At the swap. -/
def SW2 (R : World → World → Prop) (N : Nat) (b : Frame) (A : Act) (ops : Array Oper) (i : Nat) (rest : List Nat) (K : List Item) (cs : List Frame) (g : Goroutine) (w : World) : Prop :=
  g.status = .running ∧ (WgAt 103 (N + 3) w KK 0 → ∃ g', stepG P true g w = .go g' (w.setCell (stA (N + 3)) (.int .u64 (KK + 1))) #[⟨.cell (stA (N + 3)), false, true⟩, ⟨.cell (stA (N + 3)), true, true⟩] ∧
      ∃ n, Goes P true R DC0 (SWr P R N (back b A ops i rest K cs)) n g' (w.setCell (stA (N + 3)) (.int .u64 (KK + 1)))) ∧
    (∀ sm, WgAt 103 (N + 3) w 0 sm → ∃ g', stepG P true g w = .go g' w #[⟨.cell (stA (N + 3)), false, true⟩] ∧ ∃ n, Goes P true (WT N) DC0 (fun g _ => AtHead N b A ops i rest K cs g) n g' w)
/-- At the load. -/
def SW1 (R : World → World → Prop) (N : Nat) (b : Frame) (A : Act) (ops : Array Oper) (i : Nat) (rest : List Nat) (K : List Item) (cs : List Frame) (g : Goroutine) (w : World) : Prop :=
  g.status = .running ∧ (WgAt 103 (N + 3) w KK 0 → ∃ g', stepG P true g w = .go g' w #[⟨.cell (stA (N + 3)), false, true⟩] ∧ ∃ n, Goes P true R DC0 (SW2 P R N b A ops i rest K cs) n g' w) ∧
    (∀ sm, WgAt 103 (N + 3) w 0 sm → ∃ g', stepG P true g w = .go g' w #[⟨.cell (stA (N + 3)), false, true⟩] ∧ ∃ n, Goes P true (WT N) DC0 (SKe P N (back b A ops i rest K cs)) n g' w)
end
variable {b : Frame} {A : Act} {ops : Array Oper} {i : Nat} {rest : List Nat} {K : List Item}
variable {P : Program}
set_option maxRecDepth 100000 in
set_option maxHeartbeats 8000000 in
/-- From the head of the loop to the load. -/
theorem head_load (H : WgLib P lnk) (hR : ∀ w w1, R w w1 → WT N w w1) {g : Goroutine} {w : World} (h : AtHead N b A ops i rest K cs g) (hF : F1 N w) :
    ∃ n, Goes P true R DC0 (SW1 P R N b A ops i rest K cs) n g w := by
  have rl : ∀ {w w1 : World}, F1 N w → R w w1 → F1 N w1 := fun h r => h.step (hR _ _ r)
  have rl2 : ∀ {w w1 : World}, F2 N w → R w w1 → F2 N w1 := fun h r => h.step (hR _ _ r)
  have rl4 : ∀ {w w1 : World}, WgAt 103 (N + 3) w 0 0 → AtRel w w1 → WgAt 103 (N + 3) w1 0 0 := fun h r => by obtain ⟨d, rfl⟩ := r; exact h
  have rt : ∀ {w w1 : World}, F0 N w → WT N w w1 → F0 N w1 := fun h r => h.step r
  obtain ⟨T, rfl, hT84, t0⟩ := h
  obtain ⟨v0, v1, v2, v3, v4, v5, v6, v7, v8, v9, v10, v11, v12, v13, v14, v15, v16, v17, v18, v19, v20, v21, v22, v23, v24, v25, v26, v27, v28, v29, v30, v31, v32, v33, v34, v35, v36, v37, v38, v39, v40, v41, v42, v43, v44, v45, v46, v47, v48, v49, v50, v51, v52, v53, v54, v55, v56, v57, v58, v59, v60, v61, v62, v63, v64, v65, v66, v67, v68, v69, v70, v71, v72, v73, v74, v75, v76, v77, v78, v79, v80, v81, v82, v83, rfl⟩ := array84 T hT84
  simp only [List.getElem?_toArray, List.getElem?_cons_zero, Option.some.injEq] at t0
  subst t0
  refine ⟨60, ?_⟩
  simp only [L7, body_wait, waitFn, Option.getD_some]
  lib_facts
  repeat (first | u_c stepG_seq rl hF | u_c stepG_block rl hF | u_c stepG_region_end rl hF | u_reg rl hF | u_call H.f_uLoad (nm_uLoad lnk) uLoadFn rl hF | u_op rl hF | u_skip rl hF)
  refine Goes.stop (fun w₁ h₁ => ?_)
  replace hF := rl hF h₁
  clear h₁
  refine ⟨rfl, fun hw => ?_, fun sm hw => ?_⟩
  · refine ⟨_, stepG_load_atomic (v := 4294967296) rfl rfl (by k_ne) rfl H.f_loadU64 (x_loadU64_n lnk) (x_loadU64_b lnk) (x_loadU64_x lnk) .u64 (x_loadU64_f lnk) rfl hw.cellSt, 60, ?_⟩
    clear hw
    walk_nrm
    repeat (first | u_c stepG_seq rl hF | u_c stepG_block rl hF | u_c stepG_region_end rl hF | u_reg rl hF | u_c stepG_ret' rl hF | u_leave1 H.f_uLoad rl hF | u_call H.f_uCas (nm_uCas lnk) uCasFn rl hF | u_cond true rl hF | u_cond false rl hF | u_c stepG_skip rl hF | u_op rl hF | u_skip rl hF)
    refine Goes.stop (fun w₂ h₂ => ?_)
    replace hF := rl hF h₂
    clear h₂
    refine ⟨rfl, fun hw => ?_, fun sm hw => ?_⟩
    · refine ⟨_, (stepG_cas_hit (v := 4294967296) (n := 4294967297) rfl rfl (by k_ne) rfl H.f_casU64 (x_casU64_n lnk) (x_casU64_b lnk) (x_casU64_x lnk) .u64 (x_casU64_f lnk) rfl rfl rfl hw.cellSt (hw.thaw 0)).trans (by rfl), 70, ?_⟩
      replace hF : F2 N (w₂.setCell (stA (N + 3)) (.int .u64 (KK + 1))) := .inl (hw.setSt _)
      clear hw
      walk_nrm
      repeat (first | u_c stepG_seq rl2 hF | u_c stepG_region_end rl2 hF | u_reg rl2 hF | u_c stepG_ret' rl2 hF | u_leave1 H.f_uCas rl2 hF | u_cond true rl2 hF | u_cond false rl2 hF | u_c stepG_skip rl2 hF | u_op rl2 hF | u_skip rl2 hF)
      u_conv H.underlying_tPU32 H.room_tU32 (F0.cell1 hF.f0).choose_spec rl2 hF
      refine Goes.stop (fun w₃ h₃ => ?_)
      replace hF := rl2 hF h₃
      clear h₃
      refine ⟨rfl, _, stepG_markAt .write (by simp) rfl rfl (by k_ne) rfl H.f_raceWrite (x_raceWrite_n lnk) (x_raceWrite_b lnk) (x_raceWrite_x lnk) (x_raceWrite_f lnk) (ad := ⟨_, 1, none⟩) (by simp [Act.eval] <;> rfl), 60, ?_⟩
      walk_nrm
      repeat (first | u_c stepG_seq rl2 hF | u_c stepG_region_end rl2 hF | u_reg rl2 hF | u_c stepG_block rl2 hF | u_cond true rl2 hF | u_cond false rl2 hF | u_c stepG_skip rl2 hF | u_op rl2 hF | u_skip rl2 hF)
      refine Goes.stop (fun w₄ h₄ => ?_)
      clear h₄ hF
      refine ⟨rfl, rfl, fun ⟨st, hw⟩ => stepG_semacquire_wait rfl rfl rfl H.f_semacquire (x_semacquire_n lnk) (x_semacquire_b lnk) (x_semacquire_x lnk) (x_semacquire_f lnk) (by simp [Act.eval, smA]) hw.cellSm, fun hf => ?_⟩
      refine ⟨_, (stepG_semacquire (n := 1) rfl rfl (by k_ne) rfl H.f_semacquire (x_semacquire_n lnk) (x_semacquire_b lnk) (x_semacquire_x lnk) (x_semacquire_f lnk) (by simp [Act.eval, smA]) hf.cellSm (by k_ne) (hf.thaw 1)).trans (by rfl), 60, ?_⟩
      have hF : WgAt 103 (N + 3) (w₄.setCell (smA (N + 3)) (.int .u32 0)) 0 0 := hf.setSm 0
      clear hf
      walk_nrm
      repeat (first | u_c stepG_seq rl4 hF | u_c stepG_region_end rl4 hF | u_reg rl4 hF | u_c stepG_inBlock rl4 hF | u_call H.f_uLoad (nm_uLoad lnk) uLoadFn rl4 hF | u_cond true rl4 hF | u_cond false rl4 hF | u_c stepG_skip rl4 hF | u_op rl4 hF | u_skip rl4 hF)
      refine Goes.stop (fun w₅ h₅ => ?_)
      replace hF := rl4 hF h₅
      clear h₅
      refine ⟨rfl, _, stepG_load_atomic (v := 0) rfl rfl (by k_ne) rfl H.f_loadU64 (x_loadU64_n lnk) (x_loadU64_b lnk) (x_loadU64_x lnk) .u64 (x_loadU64_f lnk) rfl hF.cellSt, 60, ?_⟩
      replace hF : F0 N w₅ := ⟨_, _, hF⟩
      walk_nrm
      repeat (first | u_c stepG_seq rt hF | u_c stepG_block rt hF | u_c stepG_region_end rt hF | u_reg rt hF | u_c stepG_ret' rt hF | u_leave1 H.f_uLoad rt hF | u_cond true rt hF | u_cond false rt hF | u_c stepG_skip rt hF | u_op rt hF | u_skip rt hF)
      refine Goes.stop (fun w₆ h₆ => ?_)
      replace hF := rt hF h₆
      clear h₆
      refine ⟨rfl, _, stepG_mark0 .enable (by simp) rfl rfl (by k_ne) rfl H.f_enable (x_enable_n lnk) (x_enable_b lnk) (x_enable_x lnk) (x_enable_f lnk), 60, ?_⟩
      walk_nrm
      repeat (first | u_c stepG_seq rt hF | u_c stepG_region_end rt hF | u_reg rt hF | u_op rt hF | u_skip rt hF)
      u_conv H.underlying_tWgP H.room_tWg (F0.cell0 hF).choose_spec rt hF
      refine Goes.stop (fun w₇ h₇ => ?_)
      replace hF := rt hF h₇
      clear h₇
      refine ⟨rfl, _, stepG_markAt .acquire (by simp) rfl rfl (by k_ne) rfl H.f_acquire (x_acquire_n lnk) (x_acquire_b lnk) (x_acquire_x lnk) (x_acquire_f lnk) (by simp [Act.eval, stA]), 60, ?_⟩
      walk_nrm
      repeat (first | u_c stepG_seq rt hF | u_c stepG_region_end rt hF | u_reg rt hF | u_c stepG_ret' rt hF | u_c stepG_skip rt hF | u_leave0 H.f_wait rt hF | u_cond true rt hF | u_cond false rt hF | u_op rt hF | u_skip rt hF)
      exact Goes.stop (fun _ _ => rfl)
    · refine ⟨_, stepG_cas_miss (v := 0) (old := 4294967296) (n := 4294967297) rfl rfl (by k_ne) rfl H.f_casU64 (x_casU64_n lnk) (x_casU64_b lnk) (x_casU64_x lnk) .u64 (x_casU64_f lnk) rfl rfl rfl hw.cellSt (hw.thaw 0) (by k_ne), 60, ?_⟩
      replace hF := hF.f0
      clear hw
      walk_nrm
      repeat (first | u_c stepG_seq rt hF | u_c stepG_region_end rt hF | u_reg rt hF | u_c stepG_ret' rt hF | u_leave1 H.f_uCas rt hF | u_cond true rt hF | u_cond false rt hF | u_c stepG_skip rt hF | u_c stepG_inBlock rt hF | u_op rt hF | u_skip rt hF)
      u_c stepG_inLoop rt hF
      exact Goes.stop (fun _ _ => ⟨_, rfl, by simp, by simp⟩)
  · refine ⟨_, stepG_load_atomic (v := 0) rfl rfl (by k_ne) rfl H.f_loadU64 (x_loadU64_n lnk) (x_loadU64_b lnk) (x_loadU64_x lnk) .u64 (x_loadU64_f lnk) rfl hw.cellSt, 60, ?_⟩
    replace hF := hF.f0
    clear hw
    walk_nrm
    repeat (first | u_c stepG_seq rt hF | u_c stepG_block rt hF | u_c stepG_region_end rt hF | u_reg rt hF | u_c stepG_ret' rt hF | u_leave1 H.f_uLoad rt hF | u_cond true rt hF | u_cond false rt hF | u_c stepG_skip rt hF | u_op rt hF | u_skip rt hF)
    refine Goes.stop (fun w₁ h₁ => ?_)
    replace hF := rt hF h₁
    clear h₁
    refine ⟨rfl, _, stepG_mark0 .enable (by simp) rfl rfl (by k_ne) rfl H.f_enable (x_enable_n lnk) (x_enable_b lnk) (x_enable_x lnk) (x_enable_f lnk), 60, ?_⟩
    walk_nrm
    repeat (first | u_c stepG_seq rt hF | u_c stepG_region_end rt hF | u_reg rt hF | u_op rt hF | u_skip rt hF)
    u_conv H.underlying_tWgP H.room_tWg (F0.cell0 hF).choose_spec rt hF
    refine Goes.stop (fun w₇ h₇ => ?_)
    replace hF := rt hF h₇
    clear h₇
    refine ⟨rfl, _, stepG_markAt .acquire (by simp) rfl rfl (by k_ne) rfl H.f_acquire (x_acquire_n lnk) (x_acquire_b lnk) (x_acquire_x lnk) (x_acquire_f lnk) (by simp [Act.eval, stA]), 60, ?_⟩
    walk_nrm
    repeat (first | u_c stepG_seq rt hF | u_c stepG_region_end rt hF | u_reg rt hF | u_c stepG_ret' rt hF | u_c stepG_skip rt hF | u_leave0 H.f_wait rt hF | u_cond true rt hF | u_cond false rt hF | u_op rt hF | u_skip rt hF)
    exact Goes.stop (fun _ _ => rfl)
end
end Go.Proofs.Ytdlnlcjmjgbikaa
