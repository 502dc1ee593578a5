/- Who panics in one goroutine goes on panicking. -/
import Derived.Test.YtdlnlcjmjgbikaaRf
namespace Go.Proofs.Ytdlnlcjmjgbikaa
open Go Go.Conc

/-- It panics, and nobody has recovered it. -/
def Un (m : FrameMode) : Prop := ∃ l : List PanicEntry, m = .panicking l ∧ l ≠ [] ∧ ∀ p ∈ l, p.recovered = false
theorem Un.settle {m : FrameMode} (h : Un m) : Un (settle m) := by
  obtain ⟨l, rfl, hne, hl⟩ := h
  cases l with
  | nil => exact absurd rfl hne
  | cons p l =>
    have := hl p (by simp)
    obtain ⟨x, r, g⟩ := p
    simp only at this
    subst this
    exact ⟨_, rfl, hne, hl⟩
theorem Un.raised {m : FrameMode} (h : Un m) {l : List PanicEntry} (hl : ∀ p ∈ l, p.recovered = false) : Un (raised m l) := by
  obtain ⟨l', rfl, hne, hl'⟩ := h
  refine ⟨l ++ l', rfl, by simp [hne], fun p hp => ?_⟩
  rcases List.mem_append.1 hp with hp | hp
  · exact hl p hp
  · exact hl' p hp
/-- All that panics among these has not been recovered. -/
def Sane (m : FrameMode) : Prop := ∀ l, m = .panicking l → l ≠ [] ∧ ∀ p ∈ l, p.recovered = false
theorem Sane.un {m : FrameMode} (h : Sane m) (hr : notRun m = true) (h2 : m ≠ .returning) : Un m := by
  cases m with
  | run => cases hr
  | returning => exact absurd rfl h2
  | panicking l => exact ⟨l, rfl, h l rfl⟩

noncomputable section
section
variable {base : List Frame} {v v1 : World} {es : Array Event} {fr1 : Frame} {c c1 : List Frame} {fn : FuncId} {tmps : Array Value} {defers : List Deferred} {kd : CallKind}
/-- A frame that runs: its callers stand. -/
theorem run_shape {fr fr' : Frame} (ho : FrR Sq.prog sts Sq.prog fr fr') (hm : fr'.mode = .run) (hg : Gd v) (hs : stepG Sq.prog true (G fr' (c ++ base)) v = .go (G fr1 (c1 ++ base)) v1 es) : (c1 = c ∧ Sane fr1.mode) ∨ (∃ a, a.mode = .run ∧ c1 = a :: c ∧ fr1.mode = .run) := by
  obtain ⟨fn, tmps, todo, defers, mode, kd, r⟩ := fr
  obtain ⟨fn', tmps', todo', defers', mode', kd', r'⟩ := fr'
  obtain ⟨h1, h2, h3, h4, h5, h6, h7, h8, h9, h10, h11⟩ := ho
  simp only at h1 h2 h3 h4 h5 h6 h7 h8 h9 h10 h11 hm
  subst h1 h3 h4 h6 h7 h9 h10 hm
  have hkd : (kd' == CallKind.early) = false := by rcases h8 with h | h <;> subst h <;> rfl
  have ctl : ∀ (t' : List Item) (m : FrameMode), m = .run ∨ m = .returning → stepG Sq.prog true (G ⟨fn', tmps', todo', defers', .run, kd', none⟩ (c ++ base)) v = .go (G ⟨fn', tmps', t', defers', m, kd', none⟩ (c ++ base)) v #[] → (c1 = c ∧ Sane fr1.mode) ∨ (∃ a, a.mode = .run ∧ c1 = a :: c ∧ fr1.mode = .run) := by
    intro t' m hm e
    obtain ⟨rfl, rfl⟩ := go_eq e hs
    exact .inl ⟨rfl, fun l e => by rcases hm with rfl | rfl <;> cases e⟩
  cases h11 with
  | nil => exact ctl [] .returning (.inr rfl) (by simp [G, stepG, stepG.exec])
  | @cons _ _ kk kk' a hk =>
    cases a with
    | inBlock id => exact ctl kk' .run (.inl rfl) (by simp [G, stepG, stepG.exec])
    | inLoop b => exact ctl (.code (cutCode Sq.prog sts b) :: .inLoop (cutCode Sq.prog sts b) :: kk') .run (.inl rfl) (by simp [G, stepG, stepG.exec])
    | code cd =>
      cases cd with
      | skip => exact ctl kk' .run (.inl rfl) (by simp [G, stepG, stepG.exec, cutCode])
      | region id ops d =>
        by_cases hops : ops.all (okOp Sq.prog sts) = true
        · have e : cutCode Sq.prog sts (.region id ops d) = .region id (ops.map (cutOp Sq.prog)) d := by simp only [cutCode, hops, if_true]
          rw [e] at hs ctl
          cases d with
          | false => exact ctl (.inRegion (ops.map (cutOp Sq.prog)) (List.range ops.size) :: kk') .run (.inl rfl) (by simp [G, stepG, stepG.exec])
          | true =>
            have hq : stepG Sq.prog true (G ⟨fn', tmps', .code (.region id (ops.map (cutOp Sq.prog)) true) :: kk', defers', .run, kd', none⟩ (c ++ base)) v = .go (G ⟨fn', tmps', .inRegion (ops.map (cutOp Sq.prog)) (Region.schedule (Sq.prog.follows .mixedOrders) (ops.map (cutOp Sq.prog)) (v.tape v.drawn (.order fn' id))) :: kk', defers', .run, kd', none⟩ (c ++ base)) { v with drawn := v.drawn + 1 } #[] := by
              simp [G, stepG, stepG.exec, choose, Sem.run, Question.forced, Question.cut]
            obtain ⟨rfl, rfl⟩ := go_eq hq hs
            exact .inl ⟨rfl, fun l e => by cases e⟩
        · have e : cutCode Sq.prog sts (.region id ops d) = .refuse "" := by simp only [cutCode, hops]; rfl
          rw [e] at hs
          exact (no_end hs ⟨_, _, _, by simp only [G, stepG, stepG.exec]; rfl⟩).elim
      | seq a b => exact ctl (.code (cutCode Sq.prog sts a) :: .code (cutCode Sq.prog sts b) :: kk') .run (.inl rfl) (by simp [G, stepG, stepG.exec, cutCode])
      | cond x a b =>
        cases hx : evT tmps' x with
        | bool y =>
          cases y
          · exact ctl (.code (cutCode Sq.prog sts b) :: kk') .run (.inl rfl) (by simp [G, stepG, stepG.exec, cutCode, eval_evT, hx])
          · exact ctl (.code (cutCode Sq.prog sts a) :: kk') .run (.inl rfl) (by simp [G, stepG, stepG.exec, cutCode, eval_evT, hx])
        | _ => exact (no_end hs ⟨_, _, _, by simp only [G, stepG, stepG.exec, cutCode, eval_evT, hx]; rfl⟩).elim
      | block id b => exact ctl (.code (cutCode Sq.prog sts b) :: .inBlock id :: kk') .run (.inl rfl) (by simp [G, stepG, stepG.exec, cutCode])
      | loop b => exact ctl (.code (cutCode Sq.prog sts b) :: .inLoop (cutCode Sq.prog sts b) :: kk') .run (.inl rfl) (by simp [G, stepG, stepG.exec, cutCode])
      | exit id =>
        cases hx : exitTo id kk' with
        | none => exact (no_end hs ⟨_, _, _, by simp only [G, stepG, stepG.exec, cutCode, hx, Option.elim]; rfl⟩).elim
        | some l => exact ctl l .run (.inl rfl) (by simp [G, stepG, stepG.exec, cutCode, hx])
      | label l => exact ctl kk' .run (.inl rfl) (by simp [G, stepG, stepG.exec, cutCode])
      | ret => exact ctl (.code .ret :: kk') .returning (.inr rfl) (by simp [G, stepG, stepG.exec, cutCode])
      | _ => exact (no_end hs ⟨_, _, _, by simp only [G, stepG, stepG.exec, cutCode]; rfl⟩).elim
    | inRegion ops l hok =>
      cases l with
      | nil => exact ctl kk' .run (.inl rfl) (by simp [G, stepG, stepG.exec])
      | cons i rest =>
        cases hw : (((ops.map (cutOp Sq.prog))[i]?).map (Region.wanted · (yielded (ops.map (cutOp Sq.prog)) tmps'))).getD false with
        | false =>
          have e : stepG Sq.prog true (G ⟨fn', tmps', .inRegion (ops.map (cutOp Sq.prog)) (i :: rest) :: kk', defers', .run, kd', none⟩ (c ++ base)) v = .go (G (Frame.finish ⟨fn', tmps', .inRegion (ops.map (cutOp Sq.prog)) (i :: rest) :: kk', defers', .run, kd', none⟩ undef) (c ++ base)) v #[] := by
            simp only [G, stepG, stepG.exec, hw]; rfl
          obtain ⟨rfl, rfl⟩ := go_eq e hs
          exact .inl ⟨rfl, fun l e => by cases e⟩
        | true =>
          obtain ⟨o, ho⟩ : ∃ o, ops[i]? = some o := by
            cases h : ops[i]? with
            | none => rw [cut_get, h] at hw; cases hw
            | some o => exact ⟨o, rfl⟩
          have ho' : (ops.map (cutOp Sq.prog))[i]? = some (cutOp Sq.prog o) := by rw [cut_get, ho]; rfl
          have hoko : okOp Sq.prog sts o = true := Array.all_eq_true_iff_forall_mem.1 hok o (Array.mem_of_getElem? ho)
          have hQ : stepG Sq.prog true (G ⟨fn', tmps', .inRegion (ops.map (cutOp Sq.prog)) (i :: rest) :: kk', defers', .run, kd', none⟩ (c ++ base)) v = stepG.apply Sq.prog true ⟨fn', tmps', .inRegion (ops.map (cutOp Sq.prog)) (i :: rest) :: kk', defers', .run, kd', none⟩ (c ++ base) none (execOp (evT tmps') (cutOp Sq.prog o)) v := by
            rw [ho'] at hw
            simp only [G, stepG, stepG.exec, stepG.oper, Frame.oper?, ho', hw, eval_evT, if_true]
          obtain ⟨hf, _, _⟩ := t_exec sq_env_own (evT tmps') (fun _ => rfl) o hoko v #[] hg
          cases hrun : (execOp (evT tmps') (cutOp Sq.prog o)).runT Sq.prog v #[] with
          | mk r es1 =>
            rw [hrun] at hf
            cases r with
            | ok a v2 =>
              have hpl := res_exec sq_fns_own sts (evT tmps') o hoko v #[] a v2 es1 hg hrun
              cases a with
              | value x =>
                obtain ⟨rfl, rfl⟩ := go_eq (hQ.trans (apply_value hrun hkd)) hs
                exact .inl ⟨rfl, fun l e => by cases e⟩
              | skip =>
                obtain ⟨rfl, rfl⟩ := go_eq (hQ.trans (apply_skip hrun hkd)) hs
                exact .inl ⟨rfl, fun l e => by cases e⟩
              | defer d =>
                obtain ⟨rfl, rfl⟩ := go_eq (hQ.trans (apply_defer hrun hkd)) hs
                exact .inl ⟨rfl, fun l e => by cases e⟩
              | enter f args =>
                obtain ⟨rfl, e2⟩ := go_eq (l := ⟨fn', tmps', .inRegion (ops.map (cutOp Sq.prog)) (i :: rest) :: kk', defers', .run, kd', none⟩ :: c) (hQ.trans (apply_enter hrun hkd)) hs
                exact .inr ⟨_, rfl, e2.symm, rfl⟩
              | _ => exact hpl.elim
            | halt hh v2 =>
              cases hh with
              | panic x =>
                obtain ⟨rfl, rfl⟩ := go_eq (hQ.trans (apply_panic hrun hkd)) hs
                exact .inl ⟨rfl, fun l e => by cases e; exact ⟨by simp, by simp⟩⟩
              | stuck m =>
                exact (no_end hs (by
                  obtain ⟨o, w2, es2, e⟩ := apply_stuck (p := Sq.prog) (fn := fn') (tmps := tmps') (ops := ops.map (cutOp Sq.prog)) (i := i) (rest := rest) (k := kk') (defers := defers') (kind := kd') (cs := c ++ base) hrun
                  exact ⟨o, w2, es2, hQ.trans e⟩)).elim
              | unsupported u =>
                exact (no_end hs (by
                  obtain ⟨o, w2, es2, e⟩ := apply_unsupported (fn := fn') (tmps := tmps') (ops := ops.map (cutOp Sq.prog)) (i := i) (rest := rest) (k := kk') (defers := defers') (kind := kd') (cs := c ++ base) sq_bodies hrun
                  exact ⟨o, w2, es2, hQ.trans e⟩)).elim
              | _ => exact hf.elim
/-- Somebody panics among these. -/
def Pan (fr : Frame) (c : List Frame) : Prop := ∃ a ∈ fr :: c, Un a.mode
/-- All that panic have not been recovered. -/
def Sanes (fr : Frame) (c : List Frame) : Prop := ∀ a ∈ fr :: c, Sane a.mode
theorem sane_settle {m : FrameMode} (h : Sane m) : Sane (settle m) := by
  cases m with
  | panicking l =>
    obtain ⟨l', e, hne, hl⟩ := Un.settle ⟨l, rfl, h l rfl⟩
    rw [e]
    intro l2 e2
    cases e2
    exact ⟨hne, hl⟩
  | _ => exact h
theorem sane_raised {m : FrameMode} (h : Sane m) {l : List PanicEntry} (hne : l ≠ []) (hl : ∀ p ∈ l, p.recovered = false) : Sane (raised m l) := by
  cases m with
  | panicking l' =>
    obtain ⟨l2, e, hne, hl⟩ := Un.raised ⟨l', rfl, h l' rfl⟩ hl
    rw [e]
    intro l3 e3
    cases e3
    exact ⟨hne, hl⟩
  | _ => intro l2 e; cases e; exact ⟨hne, hl⟩
theorem un_raised (m : FrameMode) (h : Sane m) {l : List PanicEntry} (hne : l ≠ []) (hl : ∀ p ∈ l, p.recovered = false) : Un (raised m l) := by
  cases m with
  | panicking l' => exact Un.raised ⟨l', rfl, h l' rfl⟩ hl
  | _ => exact ⟨l, rfl, hne, hl⟩
/-- A step keeps it so. -/
theorem pan_step {fr fr' : Frame} {c' : List Frame} (h : FrR Sq.prog sts Sq.prog fr fr') (hfn : ∀ a ∈ c', a.roundOf = none) (hl : c' ≠ [] ∨ fr'.mode = .run ∨ fr'.defers ≠ []) (hg : Gd v)
    (hs : stepG Sq.prog true (G fr' (c' ++ base)) v = .go (G fr1 (c1 ++ base)) v1 es) (hsa : Sanes fr' c') : Sanes fr1 c1 ∧ (Pan fr' c' → Pan fr1 c1) := by
  cases hm : notRun fr'.mode with
  | false =>
    have hrun : fr'.mode = .run := by cases hx : fr'.mode <;> rw [hx] at hm <;> first | rfl | cases hm
    have hnu : ¬ Un fr'.mode := fun ⟨l, e, _⟩ => by rw [hrun] at e; cases e
    rcases run_shape h hrun hg hs with ⟨rfl, h1⟩ | ⟨a, ha, rfl, h1⟩
    · refine ⟨fun a ha => ?_, fun ⟨a, ha, hu⟩ => ?_⟩
      · rcases List.mem_cons.1 ha with rfl | ha
        · exact h1
        · exact hsa a (by simp [ha])
      · rcases List.mem_cons.1 ha with rfl | ha
        · exact absurd hu hnu
        · exact ⟨a, by simp [ha], hu⟩
    · have hnr : ∀ {b : Frame}, b.mode = .run → Sane b.mode := fun e l e2 => by rw [e] at e2; cases e2
      refine ⟨fun b hb => ?_, fun ⟨b, hb, hu⟩ => ?_⟩
      · rcases List.mem_cons.1 hb with rfl | hb
        · exact hnr h1
        · rcases List.mem_cons.1 hb with rfl | hb
          · exact hnr ha
          · exact hsa b (by simp [hb])
      · rcases List.mem_cons.1 hb with rfl | hb
        · exact absurd hu hnu
        · exact ⟨b, by simp [hb], hu⟩
  | true =>
    obtain ⟨fn, tmps, todo, defers, mode, kd, r⟩ := fr
    obtain ⟨fn', tmps', todo', defers', mode', kd', r'⟩ := fr'
    obtain ⟨h1, h2, h3, h4, h5, h6, h7, h8, h9, h10, h11⟩ := h
    simp only at h1 h2 h3 h4 h5 h6 h7 h8 h9 h10 h11 hl hm
    subst h1 h3 h4 h6 h7 h9 h10
    obtain ⟨f, f', hf, hf', _⟩ := h2
    have hs0 : Sane mode' := hsa _ (List.mem_cons_self ..)
    cases defers' with
    | cons d ds =>
      have hok := h5 d (by simp)
      cases h0 : mayDefer d mode' with
      | false =>
        obtain ⟨t, dargs⟩ := d
        have ht : (∃ a b, t = .fn a b) ∨ t = .nil := by cases t <;> first | exact .inl ⟨_, _, rfl⟩ | exact .inr rfl | exact absurd hok (by simp [okDef])
        rcases ht with ⟨a, b, rfl⟩ | rfl
        · exact absurd h0 (by cases mode' <;> simp [mayDefer])
        · cases mode' with
          | panicking l =>
            refine (no_end hs ?_).elim
            rw [unwind_defer true hm hok]
            exact ⟨_, _, _, by simp only [callDeferred]; rfl⟩
          | _ => exact absurd h0 (by simp [mayDefer])
      | true =>
        obtain ⟨hfi, _, _⟩ := t_invoke (P := Sq.prog) rfl (X := fun _ => False) sq_own d hok v #[] hg
        have hres := res_invoke sq_fns_own d hok v #[]
        cases hrun : (invoke d.target d.args).runT Sq.prog v #[] with
        | mk r es1 =>
          rw [hrun] at hfi
          have hkd : ∀ n w1, r = .ok n w1 → Kd n := fun n w1 e => (hres n w1 es1 hg (by rw [hrun, e])).kd
          have eQ := (unwind_defer (cs := c' ++ base) (w := v) (p := Sq.prog) (fn := fn') (tmps := tmps') (todo := todo') (defers := ds) (kind := kd') true hm hok).trans (deferred_eq hok h0 r hrun hfi hkd)
          have same : ∀ {fr1 : Frame} {m1 : FrameMode}, fr1.mode = m1 → Sane m1 → (Un mode' → Un m1) → Sanes fr1 c' ∧ (Pan ⟨fn', tmps', todo', d :: ds, mode', kd', none⟩ c' → Pan fr1 c') := by
            intro fr1 m1 e1 hs1 hu1
            refine ⟨fun a ha => ?_, fun ⟨a, ha, hu⟩ => ?_⟩
            · rcases List.mem_cons.1 ha with rfl | ha
              · rw [e1]; exact hs1
              · exact hsa a (by simp [ha])
            · rcases List.mem_cons.1 ha with rfl | ha
              · exact ⟨fr1, by simp, by rw [e1]; exact hu1 hu⟩
              · exact ⟨a, by simp [ha], hu⟩
          cases r with
          | ok a v2 =>
            by_cases he : ∃ f args, a = .enter f args
            · obtain ⟨f, args, rfl⟩ := he
              obtain ⟨rfl, e2⟩ := go_eq (l := ⟨fn', tmps', todo', ds, mode', kd', none⟩ :: c') eQ hs
              subst e2
              refine ⟨fun a ha => ?_, fun ⟨a, ha, hu⟩ => ?_⟩
              · rcases List.mem_cons.1 ha with rfl | ha
                · intro l e; cases e
                · rcases List.mem_cons.1 ha with rfl | ha
                  · exact hs0
                  · exact hsa a (by simp [ha])
              · rcases List.mem_cons.1 ha with rfl | ha
                · exact ⟨⟨fn', tmps', todo', ds, mode', kd', none⟩, by simp, hu⟩
                · exact ⟨a, by simp [ha], hu⟩
            · have d1 : dOut Sq.prog ⟨fn', tmps', todo', ds, mode', kd', none⟩ (c' ++ base) (seen Sq.prog fn' es1) (.ok a v2) = .go (G ⟨fn', tmps', todo', ds, mode', kd', none⟩ (c' ++ base)) v2 (seen Sq.prog fn' es1) := by
                cases a <;> first | rfl | exact absurd ⟨_, _, rfl⟩ he
              rw [d1] at eQ
              obtain ⟨rfl, rfl⟩ := go_eq eQ hs
              exact same rfl hs0 id
          | halt hh v2 =>
            cases hh <;> first | exact hfi.elim | skip
            · obtain ⟨rfl, rfl⟩ := go_eq (l := c') eQ hs
              exact same (by rw [Frame.raise_mode]) (sane_raised hs0 (by simp) (by simp)) (fun hu => hu.raised (by simp))
            · exact (no_end hs ⟨_, _, _, eQ⟩).elim
            · exact (no_end hs ⟨_, _, _, eQ⟩).elim
    | nil =>
      cases c' with
      | nil =>
        rcases hl with h | h | h
        · exact absurd rfl h
        · rw [h] at hm; cases hm
        · exact absurd rfl h
      | cons a c' =>
        have pop : ∀ {fr1 : Frame} {m1 : FrameMode}, fr1.mode = m1 → Sane m1 → (Un mode' → Un m1) → (Un a.mode → Un m1) → Sanes fr1 c' ∧ (Pan ⟨fn', tmps', todo', [], mode', kd', none⟩ (a :: c') → Pan fr1 c') := by
          intro fr1 m1 e1 hs1 hu1 hu2
          refine ⟨fun b hb => ?_, fun ⟨b, hb, hu⟩ => ?_⟩
          · rcases List.mem_cons.1 hb with rfl | hb
            · rw [e1]; exact hs1
            · exact hsa b (by simp [hb])
          · rcases List.mem_cons.1 hb with rfl | hb
            · exact ⟨fr1, by simp, by rw [e1]; exact hu1 hu⟩
            · rcases List.mem_cons.1 hb with rfl | hb
              · exact ⟨fr1, by simp, by rw [e1]; exact hu2 hu⟩
              · exact ⟨b, by simp [hb], hu⟩
        have hsA : Sane a.mode := hsa a (by simp)
        have har := hfn a (by simp)
        cases mode' with
        | run => cases hm
        | panicking chain =>
          obtain ⟨rfl, rfl⟩ := go_eq (l := c') (b := fr1) (show stepG Sq.prog true (G ⟨fn', tmps', todo', [], .panicking chain, kd', none⟩ ((a :: c') ++ base)) v = .go (G (a.raise chain) (c' ++ base)) v #[] by simp [G, stepG, unwind, Frame.catches, hf']) hs
          obtain ⟨hne, hch⟩ := hs0 chain rfl
          exact pop (by rw [Frame.raise_mode]) (sane_raised hsA hne hch) (fun _ => un_raised _ hsA hne hch) (fun hu => hu.raised hch)
        | returning =>
          have nu : ¬ Un FrameMode.returning := fun ⟨l, e, _⟩ => by cases e
          cases hrun : (results f' tmps').runT Sq.prog v #[] with
          | mk r es1 =>
            cases r with
            | halt hh v2 => exact (no_end hs (ended_results hf' hrun)).elim
            | ok x v2 =>
              rcases h8 with rfl | rfl
              · obtain ⟨rfl, rfl⟩ := go_eq (l := c') (b := fr1) (show stepG Sq.prog true (G ⟨fn', tmps', todo', [], .returning, .normal, none⟩ ((a :: c') ++ base)) v = .go (G (a.finish x) (c' ++ base)) v2 (seen Sq.prog fn' es1) by simp [G, stepG, unwind, doReturn, hf', hrun, GStep.after, -Sem.runT_eq]) hs
                have em : (a.finish x).mode = a.mode := by unfold Frame.finish; split <;> rfl
                exact pop em hsA (fun hu => absurd hu nu) id
              · obtain ⟨rfl, rfl⟩ := go_eq (l := c') (b := fr1) (show stepG Sq.prog true (G ⟨fn', tmps', todo', [], .returning, .deferred, none⟩ ((a :: c') ++ base)) v = .go (G { a with mode := settle a.mode } (c' ++ base)) v2 (seen Sq.prog fn' es1) by
                  simp only [G, stepG, unwind, doReturn, hf', hrun, GStep.after, List.cons_append]
                  simp
                  exact settle_frame a) hs
                exact pop rfl (sane_settle hsA) (fun hu => absurd hu nu) Un.settle
end
theorem owns_round {c : List Frame} (h : Owns Sq.prog sts c) : ∀ a ∈ c, a.roundOf = none := by
  unfold Owns at h
  have key : ∀ {l k : List Frame}, All2 (FrR Sq.prog sts Sq.prog) l k → ∀ a ∈ k, a.roundOf = none := by
    intro l k h
    induction h with
    | nil => exact fun a ha => by cases ha
    | cons x _ ih =>
      intro a ha
      rcases List.mem_cons.1 ha with rfl | ha
      · exact x.round'
      · exact ih a ha
  exact key h
theorem items_own {t t' : List Item} (ht : All2 (ItR Try.prog sts) t t') : All2 (ItR Sq.prog sts) t' t' := by
  induction ht with
  | nil => exact .nil
  | cons a _ ih =>
    refine .cons ?_ ih
    cases a with
    | code c =>
      have := ItR.code (P := Sq.prog) (St := sts) (cutCode Try.prog sts c)
      rwa [cut_cut sq_kin sq_bad] at this
    | inBlock id => exact .inBlock id
    | inLoop c =>
      have := ItR.inLoop (P := Sq.prog) (St := sts) (cutCode Try.prog sts c)
      rwa [cut_cut sq_kin sq_bad] at this
    | inRegion ops l hok =>
      obtain ⟨h1, h2⟩ := cut_ops sq_kin sq_bad ops hok
      have := ItR.inRegion (P := Sq.prog) (St := sts) (ops.map (cutOp Try.prog)) l h1
      rwa [h2] at this
/-- Who panics does not come to a good end. -/
theorem no_pan {base : List Frame} {R : Frame → List Frame → World → Prop} (hR : ∀ fr c v, R fr c v → c = [] ∧ fr.mode = .returning) {fr : Frame} {c : List Frame} {v : World} (h : Ends Sq.prog base R fr c v) (ho : Own Sq.prog sts fr) (hos : Owns Sq.prog sts c) (hg : Gd v) (hsa : Sanes fr c) : ¬ Pan fr c := by
  induction h with
  | stop h =>
    obtain ⟨rfl, e⟩ := hR _ _ _ h
    rintro ⟨a, ha, l, hu, _⟩
    rw [List.mem_singleton.1 ha, e] at hu
    cases hu
  | step f l u e hl hs hk ih =>
    rename_i fr c v
    intro hp
    rcases own_step (base := base) sq_bodies_own sq_env_own ho hos hl v hg with ⟨o, v1, es, he⟩ | ⟨fr1, c1, v1, es, n, h1, h2, h3, h4, h5, _⟩
    · have := hs v.tape v.drawn
      rw [re_self, he] at this
      cases this
    · have h1' := hs v.tape v.drawn
      rw [re_self] at h1'
      obtain ⟨e1, e2, e3⟩ := go_inj (h1'.symm.trans h1)
      have hr := owns_round hos
      obtain ⟨k1, k2⟩ := pan_step ho hr hl hg h1 hsa
      refine ih v.tape v.drawn (by rw [e1]; exact h4) (by rw [e2]; exact h5) (by rw [e3]; exact h3) (by rw [e1, e2]; exact k1) (by rw [e1, e2]; exact k2 hp)
/-- A frame beside the program's is one of the one program's. -/
theorem frr_own {fr fr' : Frame} (h : FrR Try.prog sts Sq.prog fr fr') : Own Sq.prog sts fr' := by
  obtain ⟨f, f', h1, h2, h3⟩ := h.func
  refine ⟨rfl, ⟨f', f', by rw [h.fn]; exact h2, by rw [h.fn]; exact h2, rfl⟩, rfl, rfl, by rw [h.defers]; exact h.okd, rfl, rfl, by rw [h.kind]; exact h.kinds, h.round', h.round', items_own h.todo⟩
theorem frr_owns {c c' : List Frame} (h : All2 (FrR Try.prog sts Sq.prog) c c') : Owns Sq.prog sts c' := by
  induction h with
  | nil => exact .nil
  | cons a _ ih => exact .cons (frr_own a) ih
end
end Go.Proofs.Ytdlnlcjmjgbikaa
